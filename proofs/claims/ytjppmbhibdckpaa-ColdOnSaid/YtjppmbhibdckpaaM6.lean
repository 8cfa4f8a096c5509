/- The die that a law makes out of its numbers, told of the model's memory. -/
import Derived.Test.YtjppmbhibdckpaaProg
import Derived.Tactics
import Derived.Tactics2
import Derived.WalkKit
import Derived.OpenShut
import Derived.Below
import Derived.Lib.Hide
import Derived.KernelRfl
import Derived.Deep.RegionHeld3
import Derived.OwnWalk
import Derived.StillTailTactics
import Derived.Test.YtjppmbhibdckpaaAbsTop
import Derived.Test.YtjppmbhibdckpaaAbsWalk
import Derived.Test.YtjppmbhibdckpaaM5
import Derived.Test.YtjppmbhibdckpaaCodes
import Derived.Test.YtjppmbhibdckpaaAbsPiece
import Derived.Test.YtjppmbhibdckpaaAwake
import Derived.Test.YtjppmbhibdckpaaWalkAll
set_option linter.unusedSimpArgs false
set_option maxHeartbeats 16000000
set_option linter.unusedVariables false
namespace Go.Proofs.Ytjppmbhibdckpaa.mdie
open Go.RowKit
def Die (b:Nat) (w:World):Prop:=∃ s,w.heap[b]? = some (.cells #[.int .u64 s] 47 (0,0))
theorem Die.old {b:Nat} {w:World} (h:Die b w):(∃ s,w.cell? ⟨b,0,none⟩=some (.int .u64 s))∧w.frozen? ⟨b,0,none⟩=false:=by
 obtain ⟨s,hs⟩:=h
 refine ⟨⟨s,?_⟩,?_⟩
 ·unfold World.cell?;simp [hs]
 ·unfold World.frozen?;simp [hs]
structure Stir (b:Nat) (w w':World):Prop where
 below:Below b w w'
 rest:∀ p:Addr,p.block≠b→p.block<w.heap.size→w'.cell? p=w.cell? p∧w'.frozen? p=w.frozen? p
 die:Die b w'
def Gives (b:Nat) (k:IntKind) (Q:Int→Prop) (w:World) (e:Ending) (w':World):Prop:=∃ r,Q r∧e=.returned (.int k r)∧Stir b w w'
theorem bits_nonneg (op:BinOp) (x y:Int):0≤bits op .u64 x y:=by
 have:=bounds_u64 (wf_bits (k:=.u64) (op:=op) (x:=x) (y:=y))
 exact this.1
theorem Stir.set {b:Nat} {w:World} (h:Die b w) (s:Int):Stir b w (w.setCell ⟨b,0,none⟩ (.int .u64 s)):=by
 obtain ⟨t,ht⟩:=h
 refine ⟨(Below.refl b w).setCell (p:=⟨b,0,none⟩) (Nat.le_refl b) _,fun p hp _=>⟨World.cell?_of_block (Below.heap_setCell _ _ _ _ hp),World.frozen?_of_block (Below.heap_setCell _ _ _ _ hp)⟩,⟨s,?_⟩⟩
 unfold World.setCell
 simp [Array.getElem?_modify,ht]
theorem roll (b:Nat) (w:World) (h:Die b w):Calls Try.prog 11 #[.pointer (some ⟨b,0,none⟩)] w (Gives b .u64 (fun r=>0≤r) w):=by
 have h':=Lib.hid h
 obtain ⟨⟨s,hs⟩,hf⟩:=h.old
 clear h
 go_enter Try.func11,Try.ntmps11
 go_wp2
 go_ret
 exact ⟨_,bits_nonneg _ _ _,rfl,Stir.set h'.out _⟩
theorem Stir.refl {b:Nat} {w:World} (h:Die b w):Stir b w w:=⟨Below.refl _ _,fun _ _ _=>⟨rfl,rfl⟩,h⟩
theorem Stir.trans {b:Nat} {u v w:World} (h:Stir b u v) (k:Stir b v w):Stir b u w :=
 ⟨h.below.trans k.below,fun p hp hb=>⟨(k.rest p hp (Nat.lt_of_lt_of_le hb h.below.size)).1.trans (h.rest p hp hb).1,(k.rest p hp (Nat.lt_of_lt_of_le hb h.below.size)).2.trans (h.rest p hp hb).2⟩,k.die⟩
theorem Die.lt {b:Nat} {w:World} (h:Die b w):b<w.heap.size:=by obtain ⟨⟨s,hs⟩,_⟩:=h.old;exact World.block_lt_of_cell? w _ hs
theorem Stir.drew {b:Nat} {w w':World} (h:Stir b w w'):Stir b w w'.drew:=h.trans ⟨⟨rfl,rfl,rfl,Nat.le_refl _,fun _ _=>rfl⟩,fun _ _ _=>⟨rfl,rfl⟩,h.die⟩
def Born (w:World) (e:Ending) (w':World):Prop:=e=.returned (.pointer (some ⟨w.heap.size,0,none⟩))∧Below w.heap.size w w'∧Die w.heap.size w'∧w.heap.size<w'.heap.size
theorem Die.born (w:World) (s:Int):Die w.heap.size (w.alloc (.cells #[.int .u64 s] 47)):=⟨s,by show (w.heap.push _)[w.heap.size]? = _;rw [Array.getElem?_push,if_pos rfl]⟩
set_option maxRecDepth 100000 in
theorem born (x:Option Addr) (n c:Nat) (w:World) (hn:n≤maxLen) (hc:∀ i,i<n→∃ b o,x=some ⟨b,o,none⟩∧∃ v,w.cell? ⟨b,o+i,none⟩=some (.int .i64 v)) :
  Calls Try.prog 4 #[.slice x n c] w (Born w):=by
 unfold maxLen at hn
 have HC:=Lib.hid hc
 clear hc
 have hdie:=Lib.hid (Die.born w 2611923443488327891)
 go_enter Try.func4,Try.ntmps4
 go_wp2
 go_loopw [4] (fun i wr=>∃ k:Nat,k≤n∧i=.int .i64 k∧Stir w.heap.size (w.alloc (.cells #[.int .u64 2611923443488327891] 47)) wr) (fun i _=>n - (intOf i).toNat)
 case atStart=>exact ⟨0,Nat.zero_le _,rfl,Stir.refl hdie.out⟩
 case round =>
  obtain ⟨k,hk,rfl,hs⟩:=hrel
  by_cases hlt:k<n
  ·obtain ⟨b,o,rfl,v,hv⟩:=HC.out k hlt
   have hb:=World.block_lt_of_cell? _ _ hv
   simp only at hb
   have hv1:wr.cell? ⟨b,o+k,none⟩=some (.int .i64 v):=((hs.rest ⟨b,o+k,none⟩ (Nat.ne_of_lt hb) (by simp;omega)).1.trans (World.cell?_of_block (Below.heap_alloc _ _ _ hb))).trans hv
   clear hv
   obtain ⟨⟨s,hd⟩,hf⟩:=hs.die.old
   have hst:=Lib.hid (fun s1:Int=>(hs.drew).trans (Stir.set hs.drew.die s1))
   have hlt':(k:Int)<(n:Int):=by omega
   have hk0:(0:Int)≤(k:Int):=by omega
   go_wp2
   go_still_tail 12,(by kernel_rfl)
   change wpList _ _ _ _ _ wr.drew
   go_wp2_with (go_at_call 11;refine (roll _ _ ?_).mono ?_;exact (hst.out _).die;rintro e w1 ⟨r,hr,rfl,hs1⟩;(have hs2:=(hst.out _).trans hs1))
   go_roundw
   case rel=>exact ⟨k+1,by omega,by go_num,hs2⟩
   case measure=>simp [intOf];omega
  ·go_wp2
   go_ret
   exact ⟨rfl,((Below.refl w.heap.size w).alloc (Nat.le_refl _) _).trans hs.below,hs.die,by have:=hs.below.size;simp at this;omega⟩
end Go.Proofs.Ytjppmbhibdckpaa.mdie
namespace Go.Abs
open Go.RowKit
variable {P:Program}
theorem mid_calls {cl:CallF} (hc:CallSound P cl) {f:FuncId} {fn:Func} (hf:P.funcs[f]? = some fn) {c0 c1 rest:Code} (hb:fn.body=some (.seq c0 (.seq c1 rest))) {X:FuncId→List Nat} {k:K} {A:Array Value} {W:World} {R:Ending→World→Prop}
  (h:c0.wp P (Exit.then (fun a w=>c1.wp P (Exit.then (fun a w=>∃ ρ L s v s',ActRel ρ fn.ntmps L [] a∧Clean (X f) L∧SRel ρ s w∧finA P fn (k cl ⟨f,none,fn.ntmps,X f⟩ L [] s)=.val v s'∧∀ ρ' V W',After ρ s w ρ' s' W'→VRel ρ' v V→R (.returned V) W') fun _ _ _=>False) a w) fun _ _ _=>False)
   { tmps:=A++Array.replicate (fn.ntmps - A.size) undef,defers:=[] } W)
  (hk:codeK P (X f) fn.ntmps rest=some k):Calls P f A W R:=by
 intro cs
 obtain ⟨b,hbd⟩:∃ b:Frame,b={ (default:Frame) with fn:=f,kind:=.normal }:=⟨_,rfl⟩
 have hr:b.roundOf=none:=by rw [hbd];rfl
 have henter:Frame.enter P f A .normal=b.at { tmps:=A++Array.replicate (fn.ntmps - A.size) undef,defers:=[] } [.code (.seq c0 (.seq c1 rest))]:=by
  rw [hbd];simp [Frame.enter,Frame.at,hf,hb]
 obtain ⟨e0,a0,w0,q0,ar0⟩:=h b [.code (.seq c1 rest)] cs
 cases e0<;>simp only [Exit.then] at q0
 obtain ⟨e1,a1,w1,q1,ar1⟩:=q0 b [.code rest] cs
 cases e1<;>simp only [Exit.then] at q1
 obtain ⟨ρ,L,s,v,s',hact,hclean,hs,hfin,hR⟩:=q1
 have st1:Steps P (lone (Frame.enter P f A .normal) cs W) (lone (b.atR a1 [.code rest]) cs w1):=by
  rw [henter,Frame.atR_of_none hr]
  exact (Steps.head step_seq ar0).trans (Steps.head step_seq ar1)
 have hctx:CtxRel ρ ⟨f,none,fn.ntmps,X f⟩ b:=⟨by rw [hbd],by rw [hbd],fun _=>hr,fun l e=>by cases e⟩
 generalize hr2:k cl ⟨f,none,fn.ntmps,X f⟩ L [] s=r at hfin
 cases r with
 | fail=>cases hfin
 | done e L1 d s₁ =>
  obtain ⟨ρ₁,a₁,W₁,af,ha₁,_,_,st⟩:=codeK_sound rest hk hc rfl rfl hctx hact hclean hs hr2
  have fin:∀ (hle:leaveA P fn.results.toList L1 d s₁=.val v s') (hst:∃ t,Steps P (lone (Frame.enter P f A .normal) cs W) (lone (back b a₁ t) cs W₁)),
    ∃ V w' fr,R (.returned V) w'∧Steps P (lone (Frame.enter P f A .normal) cs W) (lone fr cs w')∧fr.fn=f∧fr.leaving P w' (.returned V):=by
   intro hle hst
   obtain ⟨V,W₂,af₂,hv,st₂⟩:=leaveA_calls ha₁ af.rel hle
   obtain ⟨t,st₁⟩:=hst
   obtain ⟨fr,h1,h2,h3⟩:=st₂ b (by rw [hbd]) (by rw [hbd];exact hf) t cs
   exact ⟨V,W₂,fr,hR _ _ _ (af.trans af₂) hv,Steps.trans st₁ h1,by rw [h2,hbd],h3⟩
  cases e with
  | exit id=>cases hfin
  | norm =>
   have z:=st [] cs
   obtain ⟨V,w',fr,h1,h2,h3,h4⟩:=fin hfin ⟨[],st1.trans (Steps.trans z (.one (stepR_end hr)))⟩
   exact ⟨.returned V,w',fr,h1,h2,h3,h4⟩
  | ret =>
   obtain ⟨k0,z⟩:=st [] cs
   obtain ⟨V,w',fr,h1,h2,h3,h4⟩:=fin hfin ⟨.code .ret::k0,st1.trans (z.trans (.one (stepR_ret hr)))⟩
   exact ⟨.returned V,w',fr,h1,h2,h3,h4⟩
end Go.Abs
set_option maxRecDepth 10000
namespace Go.Proofs.Ytjppmbhibdckpaa.walk
open Go.Abs Go.Proofs.Ytjppmbhibdckpaa.code
theorem lost_zero (c:Cellar) (l:Lot):c.lost l 0=(0,0):=rfl
theorem lost_next (c:Cellar) (ok:c.Ok) (l:Lot) (m:Nat):(c.lost l m).1≤(c.lost l (m+1)).1∧(c.lost l m).2≤(c.lost l (m+1)).2:=by
 have hw:∃ w,c.warms l (m+1)=c.warms l m++[w]:=by
  unfold Cellar.warms walk.warms
  rw [List.range_succ,List.map_append]
  exact ⟨_,rfl⟩
 obtain ⟨w,hw⟩:=hw
 unfold Cellar.lost lostLo lostHi
 rw [hw,total_snoc,total_snoc]
 have h1:=(lossFrom_range w.1 c.rates 0 ok.rok ⟨Int.le_refl _,by omega⟩).1
 have h2:=(lossFrom_range w.2 c.rates 0 ok.rok ⟨Int.le_refl _,by omega⟩).1
 constructor<;>simp only<;>omega
theorem lost_pred (c:Cellar) (ok:c.Ok) (l:Lot) (m:Nat):(c.lost l (m - 1)).1≤(c.lost l m).1∧(c.lost l (m - 1)).2≤(c.lost l m).2:=by
 cases m with
 | zero=>exact ⟨Int.le_refl _,Int.le_refl _⟩
 | succ m=>exact lost_next c ok l m
theorem spanOf_ok (N:Nat) (hN:1≤N) (a b:Int) (s:St) (hs:s.n+10≤far):call Try.prog X N (.fn 7) [.int .i64 a,.int .i64 b] s=.val (.agg [.int .i64 a,.int .i64 b]) s:=by
 obtain ⟨n,rfl⟩:∃ n,N=n+1:=⟨N - 1,by omega⟩
 refine call_plain' Try.func7 (fun u uh un um=>?_) rfl
 have hff:far=1000000000:=rfl
 have sh:shapeT Try.prog 26=some (some 2):=by kernel_rfl
 rw [enter7]
 simp (disch:=first|omega|(with_unfolding_all exact rfl)|(simp only[new_n,put_n,new_m];omega)|(refine put_m_le ?_;simp only[new_m];omega)) only [res7,K7r0,K7r1,K7,Abs.W,reduceIte,Nat.reduceEqDiff,Nat.reduceAdd,decide_true,decide_false,kLoop_def,Nat.reduceSub,List.cons_append,List.nil_append,List.append_nil,List.length_cons,List.length_nil]
 refine ⟨_,leave_cell _ _ _ _ sh ?_,?_⟩
 ·simp (disch:=first|omega|(with_unfolding_all exact rfl)|(simp only[new_n,put_n,new_m];omega)|(refine put_m_le ?_;simp only[new_m];omega)) only [Abs.W,reduceIte,Nat.reduceEqDiff,Nat.reduceAdd,decide_true,decide_false,kLoop_def,Nat.reduceSub,List.cons_append,List.nil_append,List.append_nil,List.length_cons,List.length_nil,okA_agg,find_cons]
 ·simp only [St.put,minN_eq,um,new_m];omega
theorem eqlRow0 (s:St):eqlA (.row [(0,none,.int),(1,none,.int)]) true s (.agg [.int .i64 0,.int .i64 0]) (.agg [.int .i64 0,.int .i64 0])=.val (.bool false) s:=by
 simp [eqlA,Cmp.eq,Cmp.eqs,partS_one,nth_cons,eqI]
theorem on_round (n:Nat) (hn:11≤n) (cx:Ctx) (c:Cellar) (ok:c.Ok) (l:Lot) (okl:l.Ok c.boxes.length) (b9:l.born≤9) (v1 v2 v3 v4:AV) (p4 p5 p6 m:Nat) (L:Env) (s:St) (hm:m<25) (h45:p4<p5) (h56:p5<p6) (h6:p6<s.n) (hs:s.n+500000≤far) (hsm:s.m≤far)
  (hC:CellarIn s.h s.n c v1 v2 v3) (hR:RowsAt s.h s.n 3 (l.stays.map Stay.cells) v4) (s4:v4.scalar=true)
  (g4:s.h.get p4=some (.cells [.int .i64 c.hl,.int .i64 c.hh,v1,v2,v3] (tag 31)))
  (g5:s.h.get p5=some (.cells [.int .i64 l.born,.int .i64 l.keeps,v4] (tag 35)))
  (g6:s.h.get p6=some (.cells [.int .i64 (c.lost l (m - 1)).1,.int .i64 (c.lost l (m - 1)).2] (tag 26)))
  (l4:L.find 4=.ptr p4 0) (l5:L.find 5=.ptr p5 0) (l6:L.find 6=.ptr p6 0) (l7:L.find 7=.bool (decide ((c.lost l (m - 1)).2≤l.keeps))) (l8:L.find 8=.int .i64 (l.born+m)) :
  ∃ L1 s1,K3l0 (knows 10 (call Try.prog X n)) cx L [] s=.done .norm L1 [] s1∧(∀ t,t=4∨t=5∨t=6→L1.find t=L.find t)∧L1.find 7=.bool (decide ((c.lost l m).2≤l.keeps))∧L1.find 8=.int .i64 (l.born+((m+1:Nat):Int)) ∧
   s1.h.get p6=some (.cells [.int .i64 (c.lost l m).1,.int .i64 (c.lost l m).2] (tag 26))∧Going p6 p6 s.n s s1 2:=by
 have hff:far=1000000000:=rfl
 have b0:=okl.b0
 have mono:=lost_pred c ok l m
 have kn16:∀ args s,knows 10 (call Try.prog X n) (.fn 8) args s=call Try.prog X n (.fn 8) args s:=fun _ _=>rfl
 have kn17:∀ args s,knows 10 (call Try.prog X n) (.fn 9) args s=call Try.prog X n (.fn 9) args s:=fun _ _=>rfl
 have kn26:∀ args s,knows 10 (call Try.prog X n) (.fn 7) args s=call Try.prog X n (.fn 7) args s:=fun _ _=>rfl
 have ex0:∀ (a b:AV) (s:St),extA 0 s (.tup [a,b])=.val a s:=fun _ _ _=>rfl
 have ex1:∀ (a b:AV) (s:St),extA 1 s (.tup [a,b])=.val b s:=fun _ _ _=>rfl
 have e16:=Lost_ok (N:=n) (s:=s) (hour:=l.born+m) c ok l okl m (by omega) hC hR s4 rfl (by omega) (by omega)
 obtain ⟨y,hy⟩:∃ y:St,y=(s.new (.cells [.int .i64 0,.int .i64 0] (tag 26))).put s.n (.cells [.int .i64 (c.lost l m).1,.int .i64 (c.lost l m).2] (tag 26)):=⟨_,rfl⟩
 have yn:y.n=s.n+1:=by rw [hy];rfl
 have ym:y.m=min s.m s.n:=by rw [hy];simp only [St.put,minN_eq,new_m]
 have yg:∀ c,c≠s.n→y.h.get c=s.h.get c:=fun c hc=>by rw [hy,get_put_ne' _ _ _ _ hc,get_new_ne _ _ _ hc]
 have y4:=(yg p4 (by omega)).trans g4
 have y5:=(yg p5 (by omega)).trans g5
 have y6:=(yg p6 (by omega)).trans g6
 have y9:y.h.get s.n=some (.cells [.int .i64 (c.lost l m).1,.int .i64 (c.lost l m).2] (tag 26)):=by rw [hy];exact get_put_eq _ _ _ _ rfl (by omega)
 have e17:=Fresh_ok (N:=n) (s:=y) (hour:=l.born+m) c ok l okl m (by omega) (hC.grow (fun b hb=>yg b (by omega)) (by omega)) (hR.grow (fun b hb=>yg b (by omega)) (by omega)) s4 rfl (by omega) (by omega)
 have e26:=spanOf_ok n (by omega) 0 0 ⟨y.h,y.n,far⟩ (by show y.n+10≤far;omega)
 have a25:∀ s,aAdd s .i64 l.born 25=.val (.int .i64 (l.born+25)) s:=fun s=>aAdd_i64 s _ _ (by omega)
 have a1:∀ s,aAdd s .i64 (l.born+(m:Int)) 1=.val (.int .i64 (l.born+(m:Int)+1)) s:=fun s=>aAdd_i64 s _ _ (by omega)
 have d0:decide (l.born+(m:Int)<l.born+25)=true:=by simp;omega
 have d1:decide ((c.lost l m).1<(c.lost l (m - 1)).1)=false:=by simp;omega
 have d2:decide ((c.lost l m).2<(c.lost l (m - 1)).2)=false:=by simp;omega
 have kl:K3l0=kSeq (kSeq (kRegion K3r6 [27]) (kCond (.tmp 27) kSkip (kExit 0))) (kSeq (kBlock 1 (kSeq (kRegion K3r7 [9,10]) (kSeq (kRegion K3r8 [11,12]) (kSeq (kSeq (kRegionD K3r9 [82]) (kCond (.tmp 82) (kSeq (kRegion K3r10 [2]) kRet) kSkip)) (kRegion K3r11 [7]))))) (kRegion K3r12 [8])):=rfl
 rw [kl]
 simp (disch:=first|omega|(with_unfolding_all exact rfl)|(simp only[new_n,put_n,new_m];omega)|(refine put_m_le ?_;simp only[new_m];omega)) only [K3r6,Abs.W,reduceIte,Nat.reduceEqDiff,Nat.reduceAdd,decide_true,decide_false,kLoop_def,Nat.reduceSub,List.cons_append,List.nil_append,List.append_nil,List.length_cons,List.length_nil,Env.find_set,l4,l5,l6,l7,l8,g5,a25,d0,Nat.zero_add]
 simp (disch:=first|omega|(with_unfolding_all exact rfl)|(simp only[new_n,put_n,new_m];omega)|(refine put_m_le ?_;simp only[new_m];omega)) only [K3r7,Abs.W,reduceIte,Nat.reduceEqDiff,Nat.reduceAdd,decide_true,decide_false,kLoop_def,Nat.reduceSub,List.cons_append,List.nil_append,List.append_nil,List.length_cons,List.length_nil,Env.find_set,l4,l5,l6,l7,l8,g4,g5,kn16,e16,ex0,ex1,Nat.zero_add]
 rw [← hy]
 simp (disch:=first|omega|(with_unfolding_all exact rfl)|(simp only[new_n,put_n,new_m];omega)|(refine put_m_le ?_;simp only[new_m];omega)) only [K3r8,Abs.W,reduceIte,Nat.reduceEqDiff,Nat.reduceAdd,decide_true,decide_false,kLoop_def,Nat.reduceSub,List.cons_append,List.nil_append,List.append_nil,List.length_cons,List.length_nil,Env.find_set,l4,l5,l6,l7,l8,y4,y5,kn17,e17,ex0,ex1,Nat.zero_add]
 have hV:decide ((if (c.lost l m).2≤l.keeps then (1:Int) else if (c.lost l m).1≤l.keeps then 3 else 2)=1)=decide ((c.lost l m).2≤l.keeps):=by
  by_cases h1:(c.lost l m).2≤l.keeps
  ·rw [if_pos h1];simp [h1]
  ·rw [if_neg h1]
   by_cases h2:(c.lost l m).1≤l.keeps
   ·rw [if_pos h2];simp [h1]
   ·rw [if_neg h2];simp [h1]
 have hz:m=0→(c.lost l m).1=0∧(c.lost l m).2=0:=fun h=>by subst h;exact ⟨rfl,rfl⟩
 clear e16 e17 hy
 generalize (if (c.lost l m).2≤l.keeps then (1:Int) else if (c.lost l m).1≤l.keeps then 3 else 2)=V at hV ⊢
 generalize (c.lost l m).1=x0 at *
 generalize (c.lost l m).2=x1 at *
 generalize (c.lost l (m - 1)).1=z0 at *
 generalize (c.lost l (m - 1)).2=z1 at *
 have hr9:∃ M,K3r9 (knows 10 (call Try.prog X n)) (Env.set 12 (.int .i64 0) (Env.set 11 (.int .i64 V) (Env.set 10 (.int .i64 0) (Env.set 9 (.ptr s.n 0) (Env.set 27 (.bool true) L))))) y=.ok M y∧M.find 82=.bool false:=by
  have u38:=fun cl L s=>congrFun (congrFun (congrFun K3r9s38.eq_1 cl) L) s
  have u37:=fun cl L s=>congrFun (congrFun (congrFun K3r9s37.eq_1 cl) L) s
  have u36:=fun cl L s=>congrFun (congrFun (congrFun K3r9s36.eq_1 cl) L) s
  have u35:=fun cl L s=>congrFun (congrFun (congrFun K3r9s35.eq_1 cl) L) s
  have u34:=fun cl L s=>congrFun (congrFun (congrFun K3r9s34.eq_1 cl) L) s
  have u33:=fun cl L s=>congrFun (congrFun (congrFun K3r9s33.eq_1 cl) L) s
  have u30:=fun cl L s=>congrFun (congrFun (congrFun K3r9s30.eq_1 cl) L) s
  have u29:=fun cl L s=>congrFun (congrFun (congrFun K3r9s29.eq_1 cl) L) s
  have u28:=fun cl L s=>congrFun (congrFun (congrFun K3r9s28.eq_1 cl) L) s
  have u27:=fun cl L s=>congrFun (congrFun (congrFun K3r9s27.eq_1 cl) L) s
  have u26:=fun cl L s=>congrFun (congrFun (congrFun K3r9s26.eq_1 cl) L) s
  have u25:=fun cl L s=>congrFun (congrFun (congrFun K3r9s25.eq_1 cl) L) s
  have u24:=fun cl L s=>congrFun (congrFun (congrFun K3r9s24.eq_1 cl) L) s
  have u23:=fun cl L s=>congrFun (congrFun (congrFun K3r9s23.eq_1 cl) L) s
  have u22:=fun cl L s=>congrFun (congrFun (congrFun K3r9s22.eq_1 cl) L) s
  have u19:=fun cl L s=>congrFun (congrFun (congrFun K3r9s19.eq_1 cl) L) s
  have u18:=fun cl L s=>congrFun (congrFun (congrFun K3r9s18.eq_1 cl) L) s
  have u17:=fun cl L s=>congrFun (congrFun (congrFun K3r9s17.eq_1 cl) L) s
  have u16:=fun cl L s=>congrFun (congrFun (congrFun K3r9s16.eq_1 cl) L) s
  have u15:=fun cl L s=>congrFun (congrFun (congrFun K3r9s15.eq_1 cl) L) s
  have u12:=fun cl L s=>congrFun (congrFun (congrFun K3r9s12.eq_1 cl) L) s
  have u11:=fun cl L s=>congrFun (congrFun (congrFun K3r9s11.eq_1 cl) L) s
  have u10:=fun cl L s=>congrFun (congrFun (congrFun K3r9s10.eq_1 cl) L) s
  have u9:=fun cl L s=>congrFun (congrFun (congrFun K3r9s9.eq_1 cl) L) s
  have u8:=fun cl L s=>congrFun (congrFun (congrFun K3r9s8.eq_1 cl) L) s
  have u5:=fun cl L s=>congrFun (congrFun (congrFun K3r9s5.eq_1 cl) L) s
  have u4:=fun cl L s=>congrFun (congrFun (congrFun K3r9s4.eq_1 cl) L) s
  have u0:=fun cl L s=>congrFun (congrFun (congrFun K3r9.eq_1 cl) L) s
  have hym:y.m≤far:=by omega
  have hyn:y.n≤far:=by omega
  cases hd:decide (V=1) with
  | false =>
   by_cases h0:m=0
   ·obtain ⟨z0',z1'⟩:=hz h0
    subst z0'
    subst z1'
    have dm:decide (l.born+(m:Int)=l.born)=true:=by simp;omega
    simp (config:={ maxSteps:=2000000 }) (disch:=first|omega|(with_unfolding_all exact rfl)|(simp only[new_n,put_n,new_m];omega)|(refine put_m_le ?_;simp only[new_m];omega)) only [u0,u38,u37,u36,u35,u34,u33,u30,u29,u28,u27,u26,u25,u24,u23,u22,u19,u18,u17,u16,u15,u12,u11,u10,u9,u8,u5,u4,Abs.W,reduceIte,Nat.reduceEqDiff,Nat.reduceAdd,decide_true,decide_false,kLoop_def,Nat.reduceSub,List.cons_append,List.nil_append,List.append_nil,List.length_cons,List.length_nil,Env.find_set,l4,l5,l6,l7,l8,y4,y5,y6,y9,dm,d1,d2,hd,kn26,e26,thenT_same _ _ _ _ _ _ _ hyn hym,kEql_def,eqlRow0,Nat.zero_add]
    exact ⟨_,rfl,by simp only [find_cons,reduceIte,Nat.reduceEqDiff]⟩
   ·have dm:decide (l.born+(m:Int)=l.born)=false:=by simp;omega
    simp (config:={ maxSteps:=2000000 }) (disch:=first|omega|(with_unfolding_all exact rfl)|(simp only[new_n,put_n,new_m];omega)|(refine put_m_le ?_;simp only[new_m];omega)) only [u0,u38,u37,u36,u35,u34,u33,u30,u29,u28,u27,u26,u25,u24,u23,u22,u19,u18,u17,u16,u15,u12,u11,u10,u9,u8,u5,u4,Abs.W,reduceIte,Nat.reduceEqDiff,Nat.reduceAdd,decide_true,decide_false,kLoop_def,Nat.reduceSub,List.cons_append,List.nil_append,List.append_nil,List.length_cons,List.length_nil,Env.find_set,l4,l5,l6,l7,l8,y4,y5,y6,y9,dm,d1,d2,hd,Nat.zero_add]
    exact ⟨_,rfl,by simp only [find_cons,reduceIte,Nat.reduceEqDiff]⟩
  | true =>
   have s7:decide (z1≤l.keeps)=true:=by
    rw [hd] at hV
    have:=of_decide_eq_true hV.symm
    simp;omega
   rw [s7] at l7
   by_cases h0:m=0
   ·obtain ⟨z0',z1'⟩:=hz h0
    subst z0'
    subst z1'
    have dm:decide (l.born+(m:Int)=l.born)=true:=by simp;omega
    simp (config:={ maxSteps:=2000000 }) (disch:=first|omega|(with_unfolding_all exact rfl)|(simp only[new_n,put_n,new_m];omega)|(refine put_m_le ?_;simp only[new_m];omega)) only [u0,u38,u37,u36,u35,u34,u33,u30,u29,u28,u27,u26,u25,u24,u23,u22,u19,u18,u17,u16,u15,u12,u11,u10,u9,u8,u5,u4,Abs.W,reduceIte,Nat.reduceEqDiff,Nat.reduceAdd,decide_true,decide_false,kLoop_def,Nat.reduceSub,List.cons_append,List.nil_append,List.append_nil,List.length_cons,List.length_nil,Env.find_set,l4,l5,l6,l7,l8,y4,y5,y6,y9,dm,d1,d2,hd,kn26,e26,thenT_same _ _ _ _ _ _ _ hyn hym,kEql_def,eqlRow0,Nat.zero_add]
    exact ⟨_,rfl,by simp only [find_cons,reduceIte,Nat.reduceEqDiff]⟩
   ·have dm:decide (l.born+(m:Int)=l.born)=false:=by simp;omega
    simp (config:={ maxSteps:=2000000 }) (disch:=first|omega|(with_unfolding_all exact rfl)|(simp only[new_n,put_n,new_m];omega)|(refine put_m_le ?_;simp only[new_m];omega)) only [u0,u38,u37,u36,u35,u34,u33,u30,u29,u28,u27,u26,u25,u24,u23,u22,u19,u18,u17,u16,u15,u12,u11,u10,u9,u8,u5,u4,Abs.W,reduceIte,Nat.reduceEqDiff,Nat.reduceAdd,decide_true,decide_false,kLoop_def,Nat.reduceSub,List.cons_append,List.nil_append,List.append_nil,List.length_cons,List.length_nil,Env.find_set,l4,l5,l6,l7,l8,y4,y5,y6,y9,dm,d1,d2,hd,Nat.zero_add]
    exact ⟨_,rfl,by simp only [find_cons,reduceIte,Nat.reduceEqDiff]⟩
 obtain ⟨M,hr9,hM⟩:=hr9
 rw [hr9]
 simp (disch:=first|omega|(with_unfolding_all exact rfl)|(simp only[new_n,put_n,new_m];omega)|(refine put_m_le ?_;simp only[new_m];omega)) only [K3r11,K3r12,Abs.W,reduceIte,Nat.reduceEqDiff,Nat.reduceAdd,decide_true,decide_false,kLoop_def,Nat.reduceSub,List.cons_append,List.nil_append,List.append_nil,List.length_cons,List.length_nil,Env.find_set,l4,l5,l6,l7,l8,hM,y6,y9,a1,Nat.zero_add]
 refine ⟨_,_,rfl,fun t ht=>?_,?_,?_,get_put_eq _ _ _ _ rfl (by omega),⟨fun c hc h1 _=>?_,?_,?_,fun _=>?_,?_⟩⟩
 ·rcases ht with rfl | rfl | rfl<;>simp only [Env.find_set,reduceIte,Nat.reduceEqDiff]
 ·simp only [Env.find_set,reduceIte,Nat.reduceEqDiff,hV]
 ·simp only [Env.find_set,reduceIte,Nat.reduceEqDiff];congr 1;omega
 ·rw [get_put_ne' _ _ _ _ h1];exact yg c (by omega)
 ·simp only [put_n];omega
 ·simp only [put_n];omega
 ·simp only [St.put,minN_eq];omega
 ·simp only [St.put,minN_eq];omega
end Go.Proofs.Ytjppmbhibdckpaa.walk
set_option maxRecDepth 10000
namespace Go.Proofs.Ytjppmbhibdckpaa.walk
open Go.Abs Go.Proofs.Ytjppmbhibdckpaa.code
noncomputable def onRest:K:=kSeq (kRegion K3r2 [4]) (kSeq (kRegion K3r3 [5]) (kSeq (kRegion K3r4 [6,7]) (kSeq (kSeq (kRegion K3r5 [8]) (kBlock 0 (kLoop K3l0))) (kSeq (kRegion K3r13 [2]) kRet))))
theorem on_body (n:Nat) (hn:12≤n) (cx:Ctx) (s:St) (d:Nat) (hd:Die d s.h) (hdn:d<s.n) (hs:s.n+600000≤far) (hm:s.m=far) :
  ∃ s',finA Try.prog Try.f3 (onRest (knows 10 (call Try.prog X n)) cx (.cons 3 (.ptr d 0) .nil) [] s)=.val (.bool true) s':=by
 have hff:far=1000000000:=rfl
 have kn12:∀ args s,knows 10 (call Try.prog X n) (.fn 5) args s=call Try.prog X n (.fn 5) args s:=fun _ _=>rfl
 have kn13:∀ args s,knows 10 (call Try.prog X n) (.fn 6) args s=call Try.prog X n (.fn 6) args s:=fun _ _=>rfl
 have kn26:∀ args s,knows 10 (call Try.prog X n) (.fn 7) args s=call Try.prog X n (.fn 7) args s:=fun _ _=>rfl
 have kn24:∀ s,knows 10 (call Try.prog X n) (.fn 10) [] s=.val (.bool true) s:=fun _=>rfl
 unfold onRest
 simp (disch:=first|omega|(with_unfolding_all exact rfl)|(simp only[new_n,put_n,new_m];omega)|(refine put_m_le ?_;simp only[new_m];omega)) only [K3r2,Abs.W,reduceIte,Nat.reduceEqDiff,Nat.reduceAdd,decide_true,decide_false,kLoop_def,Nat.reduceSub,List.cons_append,List.nil_append,List.append_nil,List.length_cons,List.length_nil,Env.find_set,kn12]
 generalize hc1:call _ _ _ (.fn 5) _ _=r1
 obtain ⟨c,v1,v2,v3,t1,rfl,st1,d1,ok,hC⟩:=CellarOf_ex 3 5 hc1 (by omega) (by omega) (by omega) hd hdn (by omega)
 have n1:s.n≤t1.n:=st1.n
 have k1:t1.n≤s.n+1000:=st1.le
 have me1:t1.m≤s.m:=st1.mle
 obtain ⟨ok1,c1,sc1⟩:=hC.b.scalar
 obtain ⟨ok2,c2,sc2⟩:=hC.f.scalar
 obtain ⟨ok3,c3,sc3⟩:=hC.r.scalar
 have len1:=hC.b.len
 rw [List.length_map] at len1
 simp (disch:=first|omega|(with_unfolding_all exact rfl)|(simp only[new_n,put_n,new_m];omega)|(refine put_m_le ?_;simp only[new_m];omega)) only [K3r2,Abs.W,reduceIte,Nat.reduceEqDiff,Nat.reduceAdd,decide_true,decide_false,kLoop_def,Nat.reduceSub,List.cons_append,List.nil_append,List.append_nil,List.length_cons,List.length_nil,Env.find_set,sc1,sc2,sc3,scal_nil]
 obtain ⟨y,hy⟩:∃ y:St,y=(t1.new (.cells [.int .i64 0,.int .i64 0,.nilslice,.nilslice,.nilslice] (tag 31))).put t1.n (.cells [.int .i64 c.hl,.int .i64 c.hh,v1,v2,v3] (tag 31)):=⟨_,rfl⟩
 rw [← hy]
 have yn:y.n=t1.n+1:=by rw [hy];rfl
 have ym:y.m=min t1.m t1.n:=by rw [hy];simp only [St.put,minN_eq,new_m]
 have yg:∀ c,c≠t1.n→y.h.get c=t1.h.get c:=fun c hc=>by rw [hy,get_put_ne' _ _ _ _ hc,get_new_ne _ _ _ hc]
 have y4:y.h.get t1.n=some (.cells [.int .i64 c.hl,.int .i64 c.hh,v1,v2,v3] (tag 31)):=by rw [hy];exact get_put_eq _ _ _ _ rfl (by omega)
 have dy:Die d y.h:=by obtain ⟨f,hf'⟩:=d1;exact ⟨f,by rw [yg _ (by omega)];exact hf'⟩
 simp (disch:=first|omega|(with_unfolding_all exact rfl)|(simp only[new_n,put_n,new_m];omega)|(refine put_m_le ?_;simp only[new_m];omega)) only [K3r3,Abs.W,reduceIte,Nat.reduceEqDiff,Nat.reduceAdd,decide_true,decide_false,kLoop_def,Nat.reduceSub,List.cons_append,List.nil_append,List.append_nil,List.length_cons,List.length_nil,Env.find_set,y4,kn13,Nat.zero_add]
 generalize hc2:call _ _ _ (.fn 6) _ _=r2
 obtain ⟨l,v4,t2,rfl,st2,d2,okl,b9,hR⟩:=LotOf_ex (k:=c.boxes.length) 4 hc2 (by omega) (by omega) dy (by omega) (by omega) (by have:=ok.b;omega) len1 ok1
 have n2:y.n≤t2.n:=st2.n
 have k2:t2.n≤y.n+1000:=st2.le
 have me2:t2.m≤y.m:=st2.mle
 obtain ⟨ok4,c4,sc4⟩:=hR.scalar
 have z4:=(st2.same t1.n (by omega) (by omega)).trans y4
 simp (disch:=first|omega|(with_unfolding_all exact rfl)|(simp only[new_n,put_n,new_m];omega)|(refine put_m_le ?_;simp only[new_m];omega)) only [K3r3,Abs.W,reduceIte,Nat.reduceEqDiff,Nat.reduceAdd,decide_true,decide_false,kLoop_def,Nat.reduceSub,List.cons_append,List.nil_append,List.append_nil,List.length_cons,List.length_nil,Env.find_set,sc4,scal_nil]
 obtain ⟨z,hz⟩:∃ z:St,z=(t2.new (.cells [.int .i64 0,.int .i64 0,.nilslice] (tag 35))).put t2.n (.cells [.int .i64 l.born,.int .i64 l.keeps,v4] (tag 35)):=⟨_,rfl⟩
 rw [← hz]
 have zn:z.n=t2.n+1:=by rw [hz];rfl
 have zm:z.m=min t2.m t2.n:=by rw [hz];simp only [St.put,minN_eq,new_m]
 have zg:∀ c,c≠t2.n→z.h.get c=t2.h.get c:=fun c hc=>by rw [hz,get_put_ne' _ _ _ _ hc,get_new_ne _ _ _ hc]
 have z5:z.h.get t2.n=some (.cells [.int .i64 l.born,.int .i64 l.keeps,v4] (tag 35)):=by rw [hz];exact get_put_eq _ _ _ _ rfl (by omega)
 have e26:=spanOf_ok n (by omega) 0 0 z (by omega)
 simp (disch:=first|omega|(with_unfolding_all exact rfl)|(simp only[new_n,put_n,new_m];omega)|(refine put_m_le ?_;simp only[new_m];omega)) only [K3r4,Abs.W,reduceIte,Nat.reduceEqDiff,Nat.reduceAdd,decide_true,decide_false,kLoop_def,Nat.reduceSub,List.cons_append,List.nil_append,List.append_nil,List.length_cons,List.length_nil,Env.find_set,kn26,e26]
 obtain ⟨x,hx⟩:∃ x:St,x=(z.new (.cells [.int .i64 0,.int .i64 0] (tag 26))).put z.n (.cells [.int .i64 0,.int .i64 0] (tag 26)):=⟨_,rfl⟩
 rw [← hx]
 have xn:x.n=z.n+1:=by rw [hx];rfl
 have xm:x.m=min z.m z.n:=by rw [hx];simp only [St.put,minN_eq,new_m]
 have xg:∀ c,c≠z.n→x.h.get c=z.h.get c:=fun c hc=>by rw [hx,get_put_ne' _ _ _ _ hc,get_new_ne _ _ _ hc]
 have x6:x.h.get z.n=some (.cells [.int .i64 0,.int .i64 0] (tag 26)):=by rw [hx];exact get_put_eq _ _ _ _ rfl (by omega)
 have x5:=(xg t2.n (by omega)).trans z5
 have x4:x.h.get t1.n=some (.cells [.int .i64 c.hl,.int .i64 c.hh,v1,v2,v3] (tag 31)):=(xg t1.n (by omega)).trans ((zg t1.n (by omega)).trans z4)
 have hCx:CellarNew x.h (s.n+1) x.n c v1 v2 v3:=hC.mono (fun b hb hbn=>by rw [xg b (by omega),zg b (by omega),st2.same b (by omega) (by omega),yg b (by omega)]) (by omega)
 have hRx:Abs.Rows x.h (y.n+1) x.n 3 (tag 59) (l.stays.map Stay.cells) v4:=hR.mono (fun b hb hbn=>by rw [xg b (by omega),zg b (by omega)]) (by omega)
 have s4:v4.scalar=true:=rows_scal hR
 have b0:=okl.b0
 simp (disch:=first|omega|(with_unfolding_all exact rfl)|(simp only[new_n,put_n,new_m];omega)|(refine put_m_le ?_;simp only[new_m];omega)) only [K3r5,Abs.W,reduceIte,Nat.reduceEqDiff,Nat.reduceAdd,decide_true,decide_false,kLoop_def,Nat.reduceSub,List.cons_append,List.nil_append,List.append_nil,List.length_cons,List.length_nil,Env.find_set,x5,Nat.zero_add]
 generalize hl:loopN _ rounds _ _ _ _ _=q
 obtain ⟨e,L1,s1,rfl,rfl⟩:=loop_of hl
  (fun i L' t=>(∀ q,q=4∨q=5∨q=6→L'.find q=(if q=4 then .ptr t1.n 0 else if q=5 then .ptr t2.n 0 else .ptr z.n 0))∧L'.find 7=.bool (decide ((c.lost l (i - 1)).2≤l.keeps))∧L'.find 8=.int .i64 (l.born+(i:Int)) ∧
   t.h.get z.n=some (.cells [.int .i64 (c.lost l (i - 1)).1,.int .i64 (c.lost l (i - 1)).2] (tag 26))∧Going z.n z.n x.n x t (2 * i))
  (fun e L1 s1=>e=.exit 0) 25 (by unfold rounds;omega)
  ⟨fun q hq=>by rcases hq with rfl | rfl | rfl<;>simp only [find_cons,Env.find_set,reduceIte,Nat.reduceEqDiff],by
   simp only [find_cons,Env.find_set,reduceIte,Nat.reduceEqDiff]
   have:decide ((c.lost l 0).2≤l.keeps)=true:=by rw [lost_zero];have:=okl.k0;simp;omega
   show _=AV.bool (decide ((c.lost l 0).2≤l.keeps))
   rw [this],by simp only [find_cons,Env.find_set,reduceIte,Nat.reduceEqDiff];congr 1;omega,x6,Going.refl _ _ _ _⟩
  (fun i L' t hi ⟨q1,q7,q8,q6,qg⟩=>by
   have tn:=qg.n
   have tl:=qg.le
   have tm:=qg.mle
   have l4:=q1 4 (by simp)
   have l5:=q1 5 (by simp)
   have l6:=q1 6 (by simp)
   simp only [reduceIte,Nat.reduceEqDiff] at l4 l5 l6
   have g5:t.h.get t2.n=some (.cells [.int .i64 l.born,.int .i64 l.keeps,v4] (tag 35)):=(qg.same t2.n (by omega) (by omega) (by omega)).trans x5
   by_cases hlt:i<25
   ·have g4:=(qg.same t1.n (by omega) (by omega) (by omega)).trans x4
    obtain ⟨L1,s1,p0,p1,p7,p8,p6,pg⟩:=on_round n (by omega) _ c ok l okl b9 v1 v2 v3 v4 t1.n t2.n z.n i L' t hlt (by omega) (by omega) (by omega) (by omega) (by omega)
     (hC.mono (n':=t.n) (fun b hb hbn=>by rw [qg.same b (by omega) (by omega) (by omega),xg b (by omega),zg b (by omega),st2.same b (by omega) (by omega),yg b (by omega)]) (by omega)).in_
     (hR.mono (n':=t.n) (fun b hb hbn=>by rw [qg.same b (by omega) (by omega) (by omega),xg b (by omega),zg b (by omega)]) (by omega)).at_ s4 g4 g5 q6 l4 l5 l6 q7 q8
    exact .inl ⟨hlt,L1,s1,p0,fun q hq=>(p1 q hq).trans (q1 q hq),p7,p8,p6,qg.trans pg (by omega) (by omega)⟩
   ·obtain rfl:i=25:=by omega
    have e0:decide (l.born+((25:Nat):Int)<l.born+25)=false:=by simp
    have a25:∀ s,aAdd s .i64 l.born 25=.val (.int .i64 (l.born+25)) s:=fun s=>aAdd_i64 s _ _ (by omega)
    refine .inr ⟨.exit 0,L'.set 27 (.bool false),t,by simp,?_,rfl⟩
    simp (disch:=first|omega|(with_unfolding_all exact rfl)|(simp only[new_n,put_n,new_m];omega)|(refine put_m_le ?_;simp only[new_m];omega)) only [K3l0,K3r6,Abs.W,reduceIte,Nat.reduceEqDiff,Nat.reduceAdd,decide_true,decide_false,kLoop_def,Nat.reduceSub,List.cons_append,List.nil_append,List.append_nil,List.length_cons,List.length_nil,Env.find_set,l5,q8,g5,a25,e0,Nat.zero_add])
 simp (disch:=first|omega|(with_unfolding_all exact rfl)|(simp only[new_n,put_n,new_m];omega)|(refine put_m_le ?_;simp only[new_m];omega)) only [K3r13,res3,Abs.W,reduceIte,Nat.reduceEqDiff,Nat.reduceAdd,decide_true,decide_false,kLoop_def,Nat.reduceSub,List.cons_append,List.nil_append,List.append_nil,List.length_cons,List.length_nil,Env.find_set,kn24]
 exact ⟨_,rfl⟩
end Go.Proofs.Ytjppmbhibdckpaa.walk
set_option maxRecDepth 10000
namespace Go.Proofs.Ytjppmbhibdckpaa.walk
open Go.Abs Go.RowKit Go.Proofs.Ytjppmbhibdckpaa.code
noncomputable def die0 (F:Int):St:=St.new ⟨.nil,0,far⟩ (.cells [.int .u64 F] (tag 47))
def rho0 (d:Nat):Rho:=fun b=>if b=0 then some (d,(0,0)) else none
theorem die0_get {F:Int} {b:Nat} {o:AObj} (h:(die0 F).h.get b=some o):b=0∧o=.cells [.int .u64 F] (tag 47):=by
 by_cases e:b=0
 ·subst e
  have:(die0 F).h.get 0=some (.cells [.int .u64 F] (tag 47)):=get_new_eq _ _ _ rfl (by decide)
  rw [this] at h
  exact ⟨rfl,(Option.some.inj h).symm⟩
 ·unfold die0 at h
  rw [get_new_ne _ _ _ e] at h
  cases h
theorem die0_has {F:Int} {b x:Nat} {o:AObj} (h:Has (die0 F).h b x o):b=0∧x=0∧o=.cells [.int .u64 F] (tag 47):=by
 obtain ⟨y,hy,hp⟩:=h
 obtain ⟨rfl,rfl⟩:=die0_get hy
 have hl:AObj.lone (.cells [.int .u64 F] (tag 47)):=trivial
 rw [parts_lone hl] at hp
 have:=List.mem_singleton.mp hp
 cases this
 exact ⟨rfl,rfl,rfl⟩
theorem die0_rel {F:Int} {d:Nat} {W:World} (h:W.heap[d]? = some (.cells #[.int .u64 F] 47 (0,0))):SRel (rho0 d) (die0 F) W:=by
 refine ⟨⟨fun b o hb=>?_,fun b x o hb=>?_,fun b b' x x' o o' c e e' hb hb' _ _=>?_,fun g cs hg=>(by cases hg),fun b x o c e hb hr=>rfl,fun b x x' o o' c e e' hb hb' hr hr'=>?_⟩,fun b hb=>?_⟩
 ·rw [(die0_get hb).1];decide
 ·obtain ⟨rfl,rfl,rfl⟩:=die0_has hb
  exact ⟨d,(0,0),_,if_pos rfl,h,.cells rfl (.cons (.int _ _) .nil) (Typed.tag _)⟩
 ·rw [(die0_has hb).1,(die0_has hb').1]
 ·obtain ⟨_,rfl,_⟩:=die0_has hb
  obtain ⟨_,rfl,_⟩:=die0_has hb'
  rw [hr] at hr'
  cases hr'
  rfl
 ·have:1≤b:=hb
  exact if_neg (by omega)
set_option maxRecDepth 100000 in
theorem on_calls (a:Option Addr) (n c:Nat) (w:World) (hn:n≤maxLen) (hc:∀ i,i<n→∃ b o,a=some ⟨b,o,none⟩∧∃ v,w.cell? ⟨b,o+i,none⟩=some (.int .i64 v)) :
  Calls Try.prog 3 #[.slice a n c] w fun e w'=>e=.returned (.bool true)∧Below w.heap.size w w':=by
 have HC:=Lib.hid hc
 clear hc
 refine mid_calls (cl:=knows 10 (call Try.prog X 20)) (knows_sound (call_sound 200) Try.func10 awake.entered (call_sound 20)) Try.func3 rfl (X:=X) (k:=onRest) ?_ (by kernel_rfl)
 simp only [Try.ntmps3,List.size_toArray,List.length_cons,List.length_nil,Nat.reduceAdd,Nat.reduceSub,Array.replicate_succ,Array.replicate_zero,List.push_toArray,List.append_toArray,List.nil_append,List.cons_append]
 go_wp2_with (go_at_call 4;((with_reducible refine (mdie.born _ _ _ _ hn HC.out).mono ?_);rintro e w1 ⟨rfl,hB1,⟨F,hF⟩,hg1⟩))
 have hd0:walk.Die 0 (die0 F).h:=⟨F,get_new_eq _ _ _ rfl (by decide)⟩
 obtain ⟨s',hs'⟩:=on_body 20 (by omega) ⟨3,none,Try.f3.ntmps,X 3⟩ (die0 F) 0 hd0 (by show 0<1;omega) (by show 1+600000≤1000000000;omega) rfl
 refine ⟨rho0 w.heap.size,.cons 3 (.ptr 0 0) .nil,die0 F,.bool true,s',⟨fun t=>?_,rfl,.nil⟩,fun t ht=>?_,die0_rel hF,hs',fun ρ' V W' af hv=>?_⟩
 ·by_cases e:t=3
  ·subst e
   exact .ptr (e:=(0,0)) (if_pos rfl)
  ·rw [show (Env.cons 3 (.ptr 0 0) .nil).find t=AV.bad by rw [find_cons,if_neg (by omega)];rfl]
   exact .bad _
 ·by_cases e:t=3
  ·subst e
   have hx:(X 3).contains 3=true:=by kernel_rfl
   rw [hx] at ht
   cases ht
  ·rw [find_cons,if_neg (by omega)];rfl
 ·cases hv
  refine ⟨rfl,hB1.trans ⟨af.os,af.tape,af.output,af.size,fun k hk=>af.frame k (by omega) fun b x o e hb hr=>?_⟩⟩
  obtain ⟨_,rfl,_⟩:=die0_has hb
  have hr:some (w.heap.size,(0,0))=some (k,e):=hr
  injection hr with hr
  injection hr with hr _
  omega
end Go.Proofs.Ytjppmbhibdckpaa.walk
