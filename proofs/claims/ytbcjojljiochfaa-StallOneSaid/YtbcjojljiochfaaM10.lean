/- The law StallDrawn: its rounds. -/
import Derived.Test.YtbcjojljiochfaaM9
import Derived.Test.YtbcjojljiochfaaM8
import Derived.Test.YtbcjojljiochfaaM3
import Derived.Test.YtbcjojljiochfaaProg
import Derived.Tactics
import Derived.Tactics2
import Derived.WalkKit
import Derived.OpenShut
import Derived.Below
import Derived.Lib.Hide
import Derived.KernelRfl
import Derived.Deep.RegionHeld3
import Derived.OwnWalk
import Derived.StillTailTactics
import Derived.Test.YtbcjojljiochfaaAbsTop
import Derived.Test.YtbcjojljiochfaaAbsWalk
import Derived.Test.YtbcjojljiochfaaAwake
import Derived.Test.YtbcjojljiochfaaWalkAll
set_option linter.unusedSimpArgs false
set_option maxHeartbeats 16000000
set_option linter.unusedVariables false
set_option maxRecDepth 10000
namespace Go.Proofs.Ytbcjojljiochfaa.walk
open Go.Abs Go.Proofs.Ytbcjojljiochfaa.code
noncomputable abbrev awd (n:Nat):CallF:=knows 14 (call Try.prog X n)
def MetS (h:Heap) (n bm lo:Nat) (M:List (List Nat)) (v:AV):Prop :=
 ∃ vs:List AV,vs.length=M.length∧IsAt h n bm 1 (tag 22) (vs.map fun v=>[v]) v∧∀ j (h1:j<vs.length) (h2:j<M.length),Sl (fun x=>lo≤x∧x≠bm) h n 1 (natRows M[j]) vs[j]
section
variable {h h':Heap} {n n' bm lo:Nat} {M:List (List Nat)} {v:AV}
theorem MetS.nil (h:Heap) (n bm lo:Nat):MetS h n bm lo [] .nilslice:=⟨[],rfl,IsAt.nil _ _ _ _ _,fun j h1 _=>by simp at h1⟩
theorem MetS.move (a:MetS h n bm lo M v) (hb:bm<n→lo≤bm) (hh:∀ c,c<n→lo≤c→h'.get c=h.get c) (hn:n≤n'):MetS h' n' bm lo M v:=by
 obtain ⟨vs,h1,h2,h3⟩:=a
 exact ⟨vs,h1,h2.mono (fun h=>hh _ h (hb h)) hn,fun j j1 j2=>(h3 j j1 j2).move (fun c hc hl=>⟨hh c hc hl.1,hl⟩) hn⟩
theorem MetS.okA (a:MetS h n bm lo M v) (t:St):Abs.okA (.val v t)=.val v t:=by obtain ⟨rows,h1,h2,h3⟩:=a;exact h2.okA t
theorem MetS.len (a:MetS h n bm lo M v) (s:St):lenSlA s v=.val (.int .i64 (M.length:Int)) s:=by
 obtain ⟨vs,h1,h2,h3⟩:=a
 have:=h2.rows.at_.len s
 rw [List.length_map,h1] at this
 exact this
theorem MetS.get (a:MetS h n bm lo M v) {j:Nat} (hj:j<M.length) :
  ∃ w p c sz,Sl (fun x=>lo≤x∧x≠bm) h n 1 (natRows M[j]) w∧(∀ s,ixsA 1 s v (.int .i64 (j:Int))=.val (.ptr bm p) s)∧h.get bm=some (.cells c sz)∧nth c p=w:=by
 obtain ⟨vs,h1,h2,h3⟩:=a
 have hr:j<vs.length:=by omega
 rcases h2.is with ⟨z,_⟩ | ⟨_,z1,z2,z3⟩
 ·rw [List.map_eq_nil_iff] at z
  subst z
  simp at hr
 ·refine ⟨vs[j],0+j * 1,_,_,h3 j hr hj,fun s=>by rw [z2];exact ixs_slice 1 s bm 0 _ _ true j (by rw [List.length_map];exact hr),z3,?_⟩
  rw [Nat.zero_add]
  have:=flatten_cut (rows:=vs.map fun v=>[v]) (w:=1) (i:=j) h2.wide (by rw [List.length_map];exact hr)
  exact cut1_nth (this.trans (by simp))
end
theorem MetS.push {s:St} {bm lo:Nat} {M:List (List Nat)} {v:AV} (a:MetS s.h s.n bm lo M v) {l:List Nat} {w:AV} (hw:Sl (fun x=>lo≤x∧x≠bm) s.h s.n 1 (natRows l) w) {p sz:Nat} (hp:s.h.get p=some (.cells [w] sz)) (hl:M.length+1≤1000) (hs:s.n+10≤far) :
  ∃ v' s',appendA false 1 24 (tag 22) s v (.slice p 0 1 1 false)=.val v' s'∧MetS s'.h s'.n s.n lo (M++[l]) v'∧s'.n=s.n+1∧(∀ c,c<s.n→c≠bm→s'.h.get c=s.h.get c):=by
 have hf:far=1000000000:=rfl
 obtain ⟨vs,h1,h2,h3⟩:=a
 obtain ⟨s',e1,e2,e3,e4,e5,e6⟩:=append_at (bytes:=24) h2 hp rfl hw.scal.1 (by rw [List.length_map];omega) (by kernel_rfl) (by omega)
 have mv:∀ {l:List Nat} {w:AV},Sl (fun x=>lo≤x∧x≠bm) s.h s.n 1 (natRows l) w→Sl (fun x=>lo≤x∧x≠s.n) s'.h s'.n 1 (natRows l) w:=fun q=>q.move (fun b b1 b2=>⟨e4 b b1 b2.2,b2.1,by omega⟩) (by omega)
 refine ⟨_,s',e1,⟨vs++[w],by simp [h1],?_,fun j j1 j2=>?_⟩,e3,e4⟩
 ·rw [List.map_append];exact e2
 ·by_cases e:j<vs.length
  ·rw [List.getElem_append_left e,List.getElem_append_left (by omega)]
   exact mv (h3 j e (by omega))
  ·have hj:j=vs.length:=by rw [List.length_append,List.length_singleton] at j1;omega
   subst hj
   rw [List.getElem_append_right (Nat.le_refl _),List.getElem_append_right (by omega)]
   simp only [h1,Nat.sub_self,List.getElem_singleton]
   exact mv hw
/-! ### The draw has each once -/
def draws (n base from_ j:Nat):List (List Nat):=(List.range j).map fun i=>pickL n (base+from_+i) (List.range n)
structure DrawnJ (w t:St) (p4 lo bS bA who bm n base from_ j kk:Nat) (l:Letting) (vS vA vm:AV):Prop where
 own:∃ x,0≤x∧x≤1000000000∧LetOwn t.h w.n lo bS bA (l.withTok who x) vS vA
 g4:t.h.get p4=some (.cells [vS,vA] (tag 28))
 met:MetS t.h t.n bm w.n (draws n base from_ j) vm
 bmc:(w.n≤bm∧bm<t.n)∨far<bm
 n:w.n≤t.n
 le:t.n≤w.n+kk
end Go.Proofs.Ytbcjojljiochfaa.walk
set_option maxRecDepth 10000
namespace Go.Proofs.Ytbcjojljiochfaa.walk
open Go.Abs Go.Proofs.Ytbcjojljiochfaa.code
def metL (hs:List Int) (i:Nat):List Int:=(hs.take i).filter fun x=>decide (x ≠ -1)
theorem metL_len (hs:List Int) (i:Nat):(metL hs i).length≤hs.length:=by
 unfold metL
 have h1:=List.length_filter_le (fun x=>decide (x ≠ -1)) (hs.take i)
 rw [List.length_take] at h1
 omega
theorem metL_none {hs:List Int} {i:Nat} (h:i<hs.length) (e:hs[i] = -1):metL hs (i+1)=metL hs i:=by
 unfold metL
 rw [take_snoc h,List.filter_append,e]
 simp
theorem metL_some {hs:List Int} {i:Nat} (h:i<hs.length) (e:hs[i] ≠ -1):metL hs (i+1)=metL hs i++[hs[i]]:=by
 unfold metL
 rw [take_snoc h,List.filter_append]
 simp [e]
theorem metL_not {l:Letting} {hs:List Int} (V:ValidH l hs) {i:Nat} (h:i<hs.length) (e:hs[i] ≠ -1):hs[i] ∉ metL hs i:=fun hm=>by
 unfold metL at hm
 obtain ⟨j,hj,he⟩:=List.getElem_of_mem (List.mem_filter.mp hm).1
 rw [List.length_take] at hj
 rw [List.getElem_take] at he
 have:=V.once j i (by omega) h he (by rw [he];exact e)
 omega
theorem one_loop (N:Nat) (hN:18≤N) {cx:Ctx} {w:St} {p3:Nat} {no na nx:Nat→Prop} {l:Letting} {vS vA vX:AV} {hs:List Int} {L:Env} {r:R} (hr:loopN K4l0 rounds (awd N) cx L [] w=r) (ok:l.Ok) (V:ValidH l hs) (hL:LetAt no na w.h w.n l vS vA) (g3:w.h.get p3=some (.cells [vS,vA] (tag 28))) (hp:p3<w.n) (hX:Sl nx w.h w.n 1 (intRows hs) vX) (hm:w.m≤far) (hs':w.n+10000≤far)
  (q3:L.find 3=.ptr p3 0) (q4:L.find 4=vX) (q6:L.find 6=.nilslice) (q7:L.find 7=.int .i64 (0:Nat)) :
  ∃ L1 t,r=.done (.exit 0) L1 [] t∧(∀ c,c<w.n→t.h.get c=w.h.get c)∧w.n≤t.n∧t.n≤w.n+20∧t.m≤far∧∀ c,c<6→L1.find c=L.find c:=by
 have hf:far=1000000000:=rfl
 have kn16:∀ args s,awd N (.fn 16) args s=call Try.prog X N (.fn 16) args s:=fun _ _=>rfl
 have kn19:∀ args s,awd N (.fn 19) args s=call Try.prog X N (.fn 19) args s:=fun _ _=>rfl
 have k1:=ok.k1
 have m1:=ok.m1
 have vl:=V.len
 have kS:=hL.okS
 have kA:=hL.okV
 have lA:=hL.lenA
 have kX:=hX.okA
 have lX:=rowLen hX.at_
 obtain ⟨e,L1,t,rfl,rfl,h1,h2,h3,h4,h5⟩:=loop_of hr (fun i L' t'=>∃ v6 bm,(∀ c,c<w.n→t'.h.get c=w.h.get c)∧w.n≤t'.n∧t'.n≤w.n+2 * i∧t'.m≤far∧IsAt t'.h t'.n bm 1 (tag 3) (intRows (metL hs i)) v6∧w.n≤bm∧L'.find 6=v6∧L'.find 7=.int .i64 (i:Nat)∧∀ c,c<6→L'.find c=L.find c)
  (fun e L' t'=>e=.exit 0∧(∀ c,c<w.n→t'.h.get c=w.h.get c)∧w.n≤t'.n∧t'.n≤w.n+20∧t'.m≤far∧∀ c,c<6→L'.find c=L.find c) hs.length (by unfold rounds;omega)
  ⟨.nilslice,w.n,fun _ _=>rfl,Nat.le_refl _,by omega,hm,IsAt.nil _ _ _ _ _,Nat.le_refl _,q6,q7,fun _ _=>rfl⟩
  (fun i L' t' hi ⟨v6,bm,same,jn,jle,jml,iM,hbm,p6,p7,q⟩=>by
   have p3':=(q 3 (by omega)).trans q3
   have p4:=(q 4 (by omega)).trans q4
   have t3:=(same p3 hp).trans g3
   have hXt:=hX.move (h':=t'.h) (n':=w.n) (fun b hb h=>⟨same b hb,h⟩) (Nat.le_refl _)
   by_cases hlt:i<hs.length
   ·have e0:decide ((i:Int)<(hs.length:Int))=true:=decide_eq_true (by omega)
    obtain ⟨b1,p1,c1,sz1,x1,x2,x3,x4⟩:=rowInt hXt.at_ hlt
    have ad:∀ s,aAdd s .i64 (i:Int) 1=.val (.int .i64 ((i:Int)+1)) s:=fun s=>aAdd_i64 s _ _ (by omega)
    by_cases he:hs[i] = -1
    ·have e1:decide (hs[i] = -1)=true:=decide_eq_true he
     refine .inl ⟨hlt,_,t',by
      simp (disch:=first|omega|(with_unfolding_all exact rfl)|(simp only[new_n,put_n,new_m];omega)|(refine put_m_le ?_;simp only[new_m];omega)) only [K4l0,K4r7,K4r8,K4r12,Abs.W,reduceIte,Nat.reduceEqDiff,Nat.reduceAdd,decide_true,decide_false,kLoop_def,Nat.reduceSub,List.cons_append,List.nil_append,List.append_nil,List.length_cons,List.length_nil,Env.find_set,p4,p7,kX,lX,e0,x2,x3,x4,e1,ad]
      rfl,v6,bm,same,jn,by omega,jml,by rw [metL_none hlt he];exact iM,hbm,?_,?_,fun c hc=>?_⟩
     ·simp only [Env.find_set,p6,reduceIte,Nat.reduceEqDiff]
     ·simp only [Env.find_set,reduceIte,Nat.reduceEqDiff];rfl
     ·simp only [Env.find_set]
      repeat rw [if_neg (by omega)]
      exact q c hc
    ·rcases V.can i hlt with h | ⟨a,ha,hal,hac⟩
     ·exact absurd h he
     have hnot:=metL_not V hlt he
     have eM:=metL_some hlt he
     rw [ha] at x4 hnot eM he
     have e1:decide ((a:Int) = -1)=false:=decide_eq_false he
     have e2:decide ((a:Int)<0)=false:=decide_eq_false (by omega)
     have e3:decide ((l.appls.length:Int)≤(a:Int))=false:=decide_eq_false (by omega)
     have ho:=has_ok N (by omega) (metL hs i) (a:Int) v6 t' iM.rows.at_ (by have:=metL_len hs i;omega) (by omega)
     have e4:decide ((a:Int) ∈ metL hs i)=false:=decide_eq_false hnot
     rw [e4] at ho
     have hLt:=hL.move (h':=t'.h) (n':=t'.n) (fun b hb h=>⟨same b hb,h⟩) (fun b hb h=>⟨same b hb,h⟩) jn
     have co:=can_ok N (by omega) ok hal (show i<l.stalls.length by omega) hac hLt (by omega)
     have k6:=iM.okA
     have n1:∀ s (c:Bool),notA s (.bool c)=.val (.bool !c) s:=fun _ _=>rfl
     obtain ⟨y,hy⟩:∃ y:St,y=t'.new (.cells [.int .i64 (a:Int)] 0):=⟨_,rfl⟩
     have yn:y.n=t'.n+1:=by rw [hy];rfl
     have ym:y.m=t'.m:=by rw [hy];rfl
     have yg:∀ c,c<t'.n→y.h.get c=t'.h.get c:=fun c hc=>by rw [hy,get_new_ne _ _ _ (by omega)]
     have yp:y.h.get t'.n=some (.cells [.int .i64 (a:Int)] 0):=by rw [hy];exact get_new_eq _ _ _ rfl (by omega)
     obtain ⟨s7,e7,l7,n7,g7,m7,m7'⟩:=append_at (bytes:=8) (iM.mono (h':=y.h) (n':=y.n) (fun h=>yg bm h) (by omega)) yp rfl rfl (by rw [intRows_len];have:=metL_len hs i;omega) (by kernel_rfl) (by omega)
     rw [hy] at e7
     rw [← intRows_snoc,← eM] at l7
     have u7:=fun cl L s=>congrFun (congrFun (congrFun K4r9s7.eq_1 cl) L) s
     have u8:=fun cl L s=>congrFun (congrFun (congrFun K4r9s8.eq_1 cl) L) s
     have u9:=fun cl L s=>congrFun (congrFun (congrFun K4r9s9.eq_1 cl) L) s
     have u10:=fun cl L s=>congrFun (congrFun (congrFun K4r9s10.eq_1 cl) L) s
     have u11:=fun cl L s=>congrFun (congrFun (congrFun K4r9s11.eq_1 cl) L) s
     have u12:=fun cl L s=>congrFun (congrFun (congrFun K4r9s12.eq_1 cl) L) s
     have u13:=fun cl L s=>congrFun (congrFun (congrFun K4r9s13.eq_1 cl) L) s
     have u14:=fun cl L s=>congrFun (congrFun (congrFun K4r9s14.eq_1 cl) L) s
     have u17:=fun cl L s=>congrFun (congrFun (congrFun K4r9s17.eq_1 cl) L) s
     have u18:=fun cl L s=>congrFun (congrFun (congrFun K4r9s18.eq_1 cl) L) s
     have u19:=fun cl L s=>congrFun (congrFun (congrFun K4r9s19.eq_1 cl) L) s
     have u20:=fun cl L s=>congrFun (congrFun (congrFun K4r9s20.eq_1 cl) L) s
     have u21:=fun cl L s=>congrFun (congrFun (congrFun K4r9s21.eq_1 cl) L) s
     have u22:=fun cl L s=>congrFun (congrFun (congrFun K4r9s22.eq_1 cl) L) s
     have u25:=fun cl L s=>congrFun (congrFun (congrFun K4r9s25.eq_1 cl) L) s
     have u26:=fun cl L s=>congrFun (congrFun (congrFun K4r9s26.eq_1 cl) L) s
     have u27:=fun cl L s=>congrFun (congrFun (congrFun K4r9s27.eq_1 cl) L) s
     have u28:=fun cl L s=>congrFun (congrFun (congrFun K4r9s28.eq_1 cl) L) s
     have u29:=fun cl L s=>congrFun (congrFun (congrFun K4r9s29.eq_1 cl) L) s
     have u30:=fun cl L s=>congrFun (congrFun (congrFun K4r9s30.eq_1 cl) L) s
     have u31:=fun cl L s=>congrFun (congrFun (congrFun K4r9s31.eq_1 cl) L) s
     have u32:=fun cl L s=>congrFun (congrFun (congrFun K4r9s32.eq_1 cl) L) s
     refine .inl ⟨hlt,_,s7,by
      simp (config:={ maxSteps:=2000000 }) (disch:=first|omega|(with_unfolding_all exact rfl)|(simp only[new_n,put_n,new_m];omega)|(refine put_m_le ?_;simp only[new_m];omega)) only [K4l0,K4r7,K4r8,K4r9,K4r11,K4r12,u7,u8,u9,u10,u11,u12,u13,u14,u17,u18,u19,u20,u21,u22,u25,u26,u27,u28,u29,u30,u31,u32,Abs.W,reduceIte,Nat.reduceEqDiff,Nat.reduceAdd,decide_true,decide_false,kLoop_def,Nat.reduceSub,List.cons_append,List.nil_append,List.append_nil,List.length_cons,List.length_nil,Env.find_set,p3',p4,p6,p7,t3,kS,kA,lA,kX,lX,k6,kn16,kn19,e0,x2,x3,x4,e1,e2,e3,ho,co,n1,e7,ad,Nat.zero_add]
      rfl,_,y.n,fun c hc=>?_,by omega,by omega,by omega,l7,by omega,?_,?_,fun c hc=>?_⟩
     ·rw [g7 c (by omega) (by omega),yg c (by omega)]
      exact same c hc
     ·simp only [Env.find_set,reduceIte,Nat.reduceEqDiff];rw [hy]
     ·simp only [Env.find_set,reduceIte,Nat.reduceEqDiff];rfl
     ·simp only [Env.find_set]
      repeat rw [if_neg (by omega)]
      exact q c hc
   ·obtain rfl:i=hs.length:=by omega
    have e0:decide ((hs.length:Int)<(hs.length:Int))=false:=by simp
    refine .inr ⟨.exit 0,L'.set 31 (.bool false),t',by simp,?_,rfl,same,jn,by omega,jml,fun c hc=>?_⟩
    ·simp (disch:=first|omega|(with_unfolding_all exact rfl)|(simp only[new_n,put_n,new_m];omega)|(refine put_m_le ?_;simp only[new_m];omega)) only [K4l0,K4r7,Abs.W,reduceIte,Nat.reduceEqDiff,Nat.reduceAdd,decide_true,decide_false,kLoop_def,Nat.reduceSub,List.cons_append,List.nil_append,List.append_nil,List.length_cons,List.length_nil,Env.find_set,p4,p7,kX,lX,e0]
    ·simp only [Env.find_set]
     rw [if_neg (by omega)]
     exact q c hc)
 exact ⟨L1,t,rfl,h1,h2,h3,h4,h5⟩
noncomputable def oneFirst:OpsF:=(oCall (.tmp 12) (.con (.func 12 [] [])) [(.tmp 11),(.con (.int Go.IntKind.i64 8)),(.con (.int Go.IntKind.i64 8))] (oVal (.tmp 3) (kAlloc [.nilslice,.nilslice] (tag 28)) (oVal .none (kStore 2 (.tmp 3) (.tmp 12)) oNil)))
noncomputable def oneRest:K:=(kSeq (kRegion K4r2 [4,5]) (kSeq (kSeq (kRegion K4r3 [27]) (kCond (.tmp 27) (kSeq (kRegion K4r4 [2]) kRet) kSkip)) (kSeq (kRegion K4r5 [6]) (kSeq (kSeq (kRegion K4r6 [7]) (kBlock 0 (kLoop K4l0))) (kSeq (kRegion K4r13 [8,9]) (kSeq (kRegion K4r14 [2]) kRet))))))
theorem one_body (n:Nat) (hn:20≤n) (cx:Ctx) (s:St) (d:Nat) (hd:Die d s.h) (hdn:d<s.n) (hs:s.n+90000000≤far) (hm:s.m≤far) :
  ∃ M s1 s',oneFirst (awd n) (.cons 11 (.ptr d 0) .nil) s=.ok M s1∧∀ kl,kl=[3]→finA Try.prog Try.f4 (oneRest (awd n) cx (keepK kl M .nil) [] s1)=.val (.bool true) s':=by
 have hf:far=1000000000:=rfl
 have knB:∀ args s,awd n (.fn 12) args s=call Try.prog X n (.fn 12) args s:=fun _ _=>rfl
 have knD:∀ args s,awd n (.fn 18) args s=call Try.prog X n (.fn 18) args s:=fun _ _=>rfl
 have knE:∀ args s,awd n (.fn 20) args s=call Try.prog X n (.fn 20) args s:=fun _ _=>rfl
 have knH:∀ args s,awd n (.fn 21) args s=call Try.prog X n (.fn 21) args s:=fun _ _=>rfl
 have knA:∀ s,awd n (.fn 14) [] s=.val (.bool true) s:=fun _=>rfl
 unfold oneFirst
 simp (disch:=first|omega|(with_unfolding_all exact rfl)|(simp only[new_n,put_n,new_m];omega)|(refine put_m_le ?_;simp only[new_m];omega)) only [Abs.W,reduceIte,Nat.reduceEqDiff,Nat.reduceAdd,decide_true,decide_false,kLoop_def,Nat.reduceSub,List.cons_append,List.nil_append,List.append_nil,List.length_cons,List.length_nil,Env.find_set,knB]
 generalize hc1:call _ _ _ (.fn 12) _ _=r1
 obtain ⟨l,vS,vA,bS,bA,t1,rfl,st1,d1,ok,hk,hmm,own⟩:=LettingOf_ex (k:=8) (m:=8) hc1 (by omega) hd hdn (by omega) (by omega) (by omega)
 have n1:=st1.n
 have k1:=st1.le
 have m1:=st1.mle
 have scB:=own.at_.scal
 have kA:=own.at_.okV
 have kS:=own.at_.okS
 have lS:=own.at_.lenS
 simp (disch:=first|omega|(with_unfolding_all exact rfl)|(simp only[new_n,put_n,new_m];omega)|(refine put_m_le ?_;simp only[new_m];omega)) only [Abs.W,reduceIte,Nat.reduceEqDiff,Nat.reduceAdd,decide_true,decide_false,kLoop_def,Nat.reduceSub,List.cons_append,List.nil_append,List.append_nil,List.length_cons,List.length_nil,Env.find_set,scB,Nat.zero_add]
 obtain ⟨y,hy⟩:∃ y:St,y=(t1.new (.cells [.nilslice,.nilslice] (tag 28))).put t1.n (.cells [vS,vA] (tag 28)):=⟨_,rfl⟩
 have yn:y.n=t1.n+1:=by rw [hy];rfl
 have ym:y.m≤t1.m:=by rw [hy];simp only [St.put,minN_eq,new_m];omega
 have yg:∀ c,c<t1.n→y.h.get c=t1.h.get c:=fun c hc=>by rw [hy,get_put_ne' _ _ _ _ (by omega),get_new_ne _ _ _ (by omega)]
 have y4:y.h.get t1.n=some (.cells [vS,vA] (tag 28)):=by rw [hy];exact get_put_eq _ _ _ _ rfl (by omega)
 have owny:=own.grow (h':=y.h) (n':=y.n) (fun c h1 _=>yg c h1) (by omega)
 rw [← hy]
 clear hy
 have fin:∀ kl,kl=[3]→∀ M:Env,M.find 3=.ptr t1.n 0→∃ s',finA Try.prog Try.f4 (oneRest (awd n) cx (keepK kl M .nil) [] y)=.val (.bool true) s':=fun kl hkl M hM=>by
  subst hkl
  have ex0:∀ (a b:AV) (s:St),extA 0 s (.tup [a,b])=.val a s:=fun _ _ _=>rfl
  have ex1:∀ (a b:AV) (s:St),extA 1 s (.tup [a,b])=.val b s:=fun _ _ _=>rfl
  have okt:∀ (a b:AV) (s:St),okA (.val (.tup [a,b]) s)=.val (.tup [a,b]) s:=fun _ _ _=>rfl
  have z0:decide ((0:Int)=0)=true:=rfl
  have z1:decide ((l.stalls.length:Int)=(l.stalls.length:Int))=true:=by simp
  unfold oneRest
  simp (disch:=first|omega|(with_unfolding_all exact rfl)|(simp only[new_n,put_n,new_m];omega)|(refine put_m_le ?_;simp only[new_m];omega)) only [K4r2,Abs.W,reduceIte,Nat.reduceEqDiff,Nat.reduceAdd,decide_true,decide_false,kLoop_def,Nat.reduceSub,List.cons_append,List.nil_append,List.append_nil,List.length_cons,List.length_nil,Env.find_set,hM,y4,kA,kS,knD,Nat.zero_add]
  generalize hc3:call _ _ _ (.fn 18) _ _=r3
  obtain ⟨vX,t3,hsX,rfl,s3,SX,hXl,IX⟩:=Let_ex hc3 (by omega) ok owny.at_ (by omega)
  have n3:=s3.n
  have k3:=s3.le
  have m3:=s3.m
  have kX:=SX.okA
  have lX:∀ s,lenSlA s vX=.val (.int .i64 (l.stalls.length:Int)) s:=fun s=>by
   have:=rowLen SX.at_ s
   rw [hXl] at this
   exact this
  have x4:=(s3.same t1.n (by omega)).trans y4
  have own3:=owny.grow (h':=t3.h) (n':=t3.n) (fun c h1 _=>s3.same c h1) (by omega)
  have V:=Inv_valid ok hXl IX
  simp (disch:=first|omega|(with_unfolding_all exact rfl)|(simp only[new_n,put_n,new_m];omega)|(refine put_m_le ?_;simp only[new_m];omega)) only [K4r3,K4r3s4,K4r3s5,K4r3s6,K4r3s7,K4r3s8,K4r3s9,K4r5,K4r6,Abs.W,reduceIte,Nat.reduceEqDiff,Nat.reduceAdd,decide_true,decide_false,kLoop_def,Nat.reduceSub,List.cons_append,List.nil_append,List.append_nil,List.length_cons,List.length_nil,Env.find_set,ex0,ex1,okt,x4,kS,kA,kX,lX,lS,z0,z1,Nat.zero_add]
  generalize hlp:loopN _ rounds _ _ _ _ _=rl
  obtain ⟨L1,t5,rfl,g5,n5,k5,m5,gL⟩:=one_loop n (by omega) (p3:=t1.n) hlp ok V own3.at_ x4 (by omega) SX (by omega) (by omega) (by simp only [find_cons,Env.find_set,reduceIte,Nat.reduceEqDiff]) (by simp only [find_cons,Env.find_set,reduceIte,Nat.reduceEqDiff]) (by simp only [find_cons,Env.find_set,reduceIte,Nat.reduceEqDiff]) (by simp only [find_cons,Env.find_set,reduceIte,Nat.reduceEqDiff];rfl)
  have f3:L1.find 3=.ptr t1.n 0:=(gL 3 (by omega)).trans (by simp only [find_cons,Env.find_set,reduceIte,Nat.reduceEqDiff])
  have f4:L1.find 4=vX:=(gL 4 (by omega)).trans (by simp only [find_cons,Env.find_set,reduceIte,Nat.reduceEqDiff])
  have x5:=(g5 t1.n (by omega)).trans x4
  have own5:=own3.grow (h':=t5.h) (n':=t5.n) (fun c h1 _=>g5 c h1) (by omega)
  have SX5:=SX.grow g5 (by omega:t3.n≤t5.n)
  simp (disch:=first|omega|(with_unfolding_all exact rfl)|(simp only[new_n,put_n,new_m];omega)|(refine put_m_le ?_;simp only[new_m];omega)) only [K4r13,Abs.W,reduceIte,Nat.reduceEqDiff,Nat.reduceAdd,decide_true,decide_false,kLoop_def,Nat.reduceSub,List.cons_append,List.nil_append,List.append_nil,List.length_cons,List.length_nil,Env.find_set,f3,f4,x5,kS,kA,knE,Nat.zero_add]
  generalize hc6:call _ _ _ (.fn 20) _ _=r6
  obtain ⟨t6,rfl,s6⟩:=noenvies_ex hc6 (by omega) ok hXl IX own5.at_ SX5 (by omega)
  have n6:=s6.n
  have k6:=s6.le
  have x6:=(s6.same t1.n (by omega)).trans x5
  have own6:=own5.grow (h':=t6.h) (n':=t6.n) (fun c h1 _=>s6.same c h1) (by omega)
  have SX6:=SX5.grow s6.same (by omega:t5.n≤t6.n)
  have ch:=checkHolders_ok n (by omega) ok V own6.at_ SX6 (by omega)
  simp (disch:=first|omega|(with_unfolding_all exact rfl)|(simp only[new_n,put_n,new_m];omega)|(refine put_m_le ?_;simp only[new_m];omega)) only [K4r14,K4r14s4,K4r14s5,K4r14s6,K4r14s9,K4r14s10,K4r14s11,K4r14s12,K4r14s15,res4,Abs.W,reduceIte,Nat.reduceEqDiff,Nat.reduceAdd,decide_true,decide_false,kLoop_def,Nat.reduceSub,List.cons_append,List.nil_append,List.append_nil,List.length_cons,List.length_nil,Env.find_set,ex0,ex1,okt,f3,f4,x6,kS,kA,kX,z0,knH,ch,knA,Nat.zero_add]
  exact ⟨_,rfl⟩
 generalize hM0:Env.cons 3 _ _=M0
 have f0:M0.find 3=.ptr t1.n 0:=by rw [← hM0];simp only [find_cons,Env.find_set,reduceIte,Nat.reduceEqDiff]
 obtain ⟨s',hs'⟩:=fin [3] rfl M0 f0
 exact ⟨M0,y,s',rfl,fun kl hkl=>by subst hkl;exact hs'⟩
end Go.Proofs.Ytbcjojljiochfaa.walk
set_option maxRecDepth 10000
namespace Go.Proofs.Ytbcjojljiochfaa.walk
open Go.Abs Go.Proofs.Ytbcjojljiochfaa.code
end Go.Proofs.Ytbcjojljiochfaa.walk
namespace Go.Proofs.Ytbcjojljiochfaa.mdie
open Go.RowKit
def Die (b:Nat) (w:World):Prop:=∃ s,w.heap[b]? = some (.cells #[.int .u64 s] 63 (0,0))
theorem Die.old {b:Nat} {w:World} (h:Die b w):(∃ s,w.cell? ⟨b,0,none⟩=some (.int .u64 s))∧w.frozen? ⟨b,0,none⟩=false:=by
 obtain ⟨s,hs⟩:=h
 refine ⟨⟨s,?_⟩,?_⟩
 ·unfold World.cell?;simp [hs]
 ·unfold World.frozen?;simp [hs]
structure Stir (b:Nat) (w w':World):Prop where
 below:Below b w w'
 rest:∀ p:Addr,p.block≠b→p.block<w.heap.size→w'.cell? p=w.cell? p∧w'.frozen? p=w.frozen? p
 die:Die b w'
def Gives (b:Nat) (k:IntKind) (Q:Int→Prop) (w:World) (e:Ending) (w':World):Prop:=∃ r,Q r∧e=.returned (.int k r)∧Stir b w w'
theorem bits_nonneg (op:BinOp) (x y:Int):0≤bits op .u64 x y:=by
 have:=bounds_u64 (wf_bits (k:=.u64) (op:=op) (x:=x) (y:=y))
 exact this.1
theorem Stir.set {b:Nat} {w:World} (h:Die b w) (s:Int):Stir b w (w.setCell ⟨b,0,none⟩ (.int .u64 s)):=by
 obtain ⟨t,ht⟩:=h
 refine ⟨(Below.refl b w).setCell (p:=⟨b,0,none⟩) (Nat.le_refl b) _,fun p hp _=>⟨World.cell?_of_block (Below.heap_setCell _ _ _ _ hp),World.frozen?_of_block (Below.heap_setCell _ _ _ _ hp)⟩,⟨s,?_⟩⟩
 unfold World.setCell
 simp [Array.getElem?_modify,ht]
theorem roll (b:Nat) (w:World) (h:Die b w):Calls Try.prog 32 #[.pointer (some ⟨b,0,none⟩)] w (Gives b .u64 (fun r=>0≤r) w):=by
 have h':=Lib.hid h
 obtain ⟨⟨s,hs⟩,hf⟩:=h.old
 clear h
 go_enter Try.func32,Try.ntmps32
 go_wp2
 go_ret
 exact ⟨_,bits_nonneg _ _ _,rfl,Stir.set h'.out _⟩
theorem Stir.refl {b:Nat} {w:World} (h:Die b w):Stir b w w:=⟨Below.refl _ _,fun _ _ _=>⟨rfl,rfl⟩,h⟩
theorem Stir.trans {b:Nat} {u v w:World} (h:Stir b u v) (k:Stir b v w):Stir b u w :=
 ⟨h.below.trans k.below,fun p hp hb=>⟨(k.rest p hp (Nat.lt_of_lt_of_le hb h.below.size)).1.trans (h.rest p hp hb).1,(k.rest p hp (Nat.lt_of_lt_of_le hb h.below.size)).2.trans (h.rest p hp hb).2⟩,k.die⟩
theorem Die.lt {b:Nat} {w:World} (h:Die b w):b<w.heap.size:=by obtain ⟨⟨s,hs⟩,_⟩:=h.old;exact World.block_lt_of_cell? w _ hs
theorem Stir.drew {b:Nat} {w w':World} (h:Stir b w w'):Stir b w w'.drew:=h.trans ⟨⟨rfl,rfl,rfl,Nat.le_refl _,fun _ _=>rfl⟩,fun _ _ _=>⟨rfl,rfl⟩,h.die⟩
def Born (w:World) (e:Ending) (w':World):Prop:=e=.returned (.pointer (some ⟨w.heap.size,0,none⟩))∧Below w.heap.size w w'∧Die w.heap.size w'∧w.heap.size<w'.heap.size
theorem Die.born (w:World) (s:Int):Die w.heap.size (w.alloc (.cells #[.int .u64 s] 63)):=⟨s,by show (w.heap.push _)[w.heap.size]? = _;rw [Array.getElem?_push,if_pos rfl]⟩
set_option maxRecDepth 100000 in
theorem born (x:Option Addr) (n c:Nat) (w:World) (hn:n≤maxLen) (hc:∀ i,i<n→∃ b o,x=some ⟨b,o,none⟩∧∃ v,w.cell? ⟨b,o+i,none⟩=some (.int .i64 v)) :
  Calls Try.prog 11 #[.slice x n c] w (Born w):=by
 unfold maxLen at hn
 have HC:=Lib.hid hc
 clear hc
 have hdie:=Lib.hid (Die.born w 2611923443488327891)
 go_enter Try.func11,Try.ntmps11
 go_wp2
 go_loopw [4] (fun i wr=>∃ k:Nat,k≤n∧i=.int .i64 k∧Stir w.heap.size (w.alloc (.cells #[.int .u64 2611923443488327891] 63)) wr) (fun i _=>n - (intOf i).toNat)
 case atStart=>exact ⟨0,Nat.zero_le _,rfl,Stir.refl hdie.out⟩
 case round =>
  obtain ⟨k,hk,rfl,hs⟩:=hrel
  by_cases hlt:k<n
  ·obtain ⟨b,o,rfl,v,hv⟩:=HC.out k hlt
   have hb:=World.block_lt_of_cell? _ _ hv
   simp only at hb
   have hv1:wr.cell? ⟨b,o+k,none⟩=some (.int .i64 v):=((hs.rest ⟨b,o+k,none⟩ (Nat.ne_of_lt hb) (by simp;omega)).1.trans (World.cell?_of_block (Below.heap_alloc _ _ _ hb))).trans hv
   clear hv
   obtain ⟨⟨s,hd⟩,hf⟩:=hs.die.old
   have hst:=Lib.hid (fun s1:Int=>(hs.drew).trans (Stir.set hs.drew.die s1))
   have hlt':(k:Int)<(n:Int):=by omega
   have hk0:(0:Int)≤(k:Int):=by omega
   go_wp2
   go_still_tail 12,(by kernel_rfl)
   change wpList _ _ _ _ _ wr.drew
   go_wp2_with (go_at_call 32;refine (roll _ _ ?_).mono ?_;exact (hst.out _).die;rintro e w1 ⟨r,hr,rfl,hs1⟩;(have hs2:=(hst.out _).trans hs1))
   go_roundw
   case rel=>exact ⟨k+1,by omega,by go_num,hs2⟩
   case measure=>simp [intOf];omega
  ·go_wp2
   go_ret
   exact ⟨rfl,((Below.refl w.heap.size w).alloc (Nat.le_refl _) _).trans hs.below,hs.die,by have:=hs.below.size;simp at this;omega⟩
end Go.Proofs.Ytbcjojljiochfaa.mdie
namespace Go.Abs
open Go.RowKit
variable {P:Program}
end Go.Abs
set_option maxRecDepth 10000
namespace Go.Proofs.Ytbcjojljiochfaa.walk
open Go.Abs Go.RowKit Go.Proofs.Ytbcjojljiochfaa.code
noncomputable def die0 (F:Int):St:=St.new ⟨.nil,0,far⟩ (.cells [.int .u64 F] (tag 63))
def rho0 (d:Nat):Rho:=fun b=>if b=0 then some (d,(0,0)) else none
theorem die0_get {F:Int} {b:Nat} {o:AObj} (h:(die0 F).h.get b=some o):b=0∧o=.cells [.int .u64 F] (tag 63):=by
 by_cases e:b=0
 ·subst e
  have:(die0 F).h.get 0=some (.cells [.int .u64 F] (tag 63)):=get_new_eq _ _ _ rfl (by decide)
  rw [this] at h
  exact ⟨rfl,(Option.some.inj h).symm⟩
 ·unfold die0 at h
  rw [get_new_ne _ _ _ e] at h
  cases h
theorem die0_has {F:Int} {b x:Nat} {o:AObj} (h:Has (die0 F).h b x o):b=0∧x=0∧o=.cells [.int .u64 F] (tag 63):=by
 obtain ⟨y,hy,hp⟩:=h
 obtain ⟨rfl,rfl⟩:=die0_get hy
 have hl:AObj.lone (.cells [.int .u64 F] (tag 63)):=trivial
 rw [parts_lone hl] at hp
 have:=List.mem_singleton.mp hp
 cases this
 exact ⟨rfl,rfl,rfl⟩
theorem die0_rel {F:Int} {d:Nat} {W:World} (h:W.heap[d]? = some (.cells #[.int .u64 F] 63 (0,0))):SRel (rho0 d) (die0 F) W:=by
 refine ⟨⟨fun b o hb=>?_,fun b x o hb=>?_,fun b b' x x' o o' c e e' hb hb' _ _=>?_,fun g cs hg=>(by cases hg),fun b x o c e hb hr=>rfl,fun b x x' o o' c e e' hb hb' hr hr'=>?_⟩,fun b hb=>?_⟩
 ·rw [(die0_get hb).1];decide
 ·obtain ⟨rfl,rfl,rfl⟩:=die0_has hb
  exact ⟨d,(0,0),_,if_pos rfl,h,.cells rfl (.cons (.int _ _) .nil) (Typed.tag _)⟩
 ·rw [(die0_has hb).1,(die0_has hb').1]
 ·obtain ⟨_,rfl,_⟩:=die0_has hb
  obtain ⟨_,rfl,_⟩:=die0_has hb'
  rw [hr] at hr'
  cases hr'
  rfl
 ·have:1≤b:=hb
  exact if_neg (by omega)
end Go.Proofs.Ytbcjojljiochfaa.walk
namespace Go.Abs
open Go.RowKit
variable {P:Program}
theorem range_two (n:Nat):List.range' 0 (n+2)=0::1::List.range' 2 n:=rfl
theorem mid2_calls {cl:CallF} (hc:CallSound P cl) {f:FuncId} {fn:Func} (hf:P.funcs[f]? = some fn) {c0 rest:Code} {id:Nat} {ops:Array Oper} (hb:fn.body=some (.seq c0 (.seq (.region id ops false) rest))) {X:FuncId→List Nat} {k:K} {fo:OpsF} {o0 o1:Oper} {suf:List Oper} {A:Array Value} {W:World} {R:Ending→World→Prop}
  (hops:ops.toList=o0::o1::suf) (g0:o0.guard=none) (g1:o1.guard=none) (hd0:∀ c,o0.op≠.defer c) (hd1:∀ c,o1.op≠.defer c) (hfo:opsK P fn.ntmps ops suf=some fo) (hk:codeK P (X f) fn.ntmps rest=some k)
  (h:c0.wp P (Exit.then (fun a w=>∃ V0 g B,(execOp a.eval o0).run P w=.ok (.value V0) w∧(execOp (a.put o0.dst V0).eval o1).run P w=.ok (.enter g B) w∧Calls P g B w fun e w2=>∃ V1,e=.returned V1∧∃ ρ L0 L2 s M s1 v s',ActRel ρ fn.ntmps L2 [] ((a.put o0.dst V0).put o1.dst V1)∧Clean (X f) L0∧(∀ t,(∀ o ∈ ops.toList,o.dst≠some t)→L2.find t=L0.find t)∧SRel ρ s w2∧fo cl L2 s=.ok M s1 ∧
    finA P fn (k cl ⟨f,none,fn.ntmps,X f⟩ (keepK (keepOf (X f) ops.toList) M L0) [] s1)=.val v s'∧∀ ρ' V W',After ρ s w2 ρ' s' W'→VRel ρ' v V→R (.returned V) W') fun _ _ _=>False)
   { tmps:=A++Array.replicate (fn.ntmps - A.size) undef,defers:=[] } W):Calls P f A W R:=by
 intro cs
 obtain ⟨b,hbd⟩:∃ b:Frame,b={ (default:Frame) with fn:=f,kind:=.normal }:=⟨_,rfl⟩
 have hr:b.roundOf=none:=by rw [hbd];rfl
 have henter:Frame.enter P f A .normal=b.at { tmps:=A++Array.replicate (fn.ntmps - A.size) undef,defers:=[] } [.code (.seq c0 (.seq (.region id ops false) rest))]:=by
  rw [hbd];simp [Frame.enter,Frame.at,hf,hb]
 have ho0:ops[0]? = some o0:=by rw [← Array.getElem?_toList,hops];rfl
 have ho1:ops[1]? = some o1:=by rw [← Array.getElem?_toList,hops];rfl
 have hsz:ops.size=suf.length+2:=by rw [← Array.length_toList,hops];rfl
 obtain ⟨e0,a0,w0,q0,ar0⟩:=h b [.code (.seq (.region id ops false) rest)] cs
 cases e0<;>simp only [Exit.then] at q0
 obtain ⟨V0,g,B,r0,r1,hcall⟩:=q0
 have st1:Steps P (lone (Frame.enter P f A .normal) cs W) (lone (b.atR a0 (.inRegion ops (0::1::List.range' 2 suf.length)::[.code rest])) cs w0):=by
  rw [henter]
  refine (Steps.head step_seq ar0).trans ?_
  rw [← Frame.atR_of_none hr]
  refine Steps.head stepR_seq ?_
  have:=Steps.one (stepR_region (P:=P) (b:=b) (a:=a0) (k:=[.code rest]) (cs:=cs) (w:=w0) (ops:=ops) (id:=id))
  rw [List.range_eq_range',hsz,range_two] at this
  exact this
 have st2:Steps P (lone (b.atR a0 (.inRegion ops (0::1::List.range' 2 suf.length)::[.code rest])) cs w0) (lone (b.atR (a0.put o0.dst V0) (.inRegion ops (1::List.range' 2 suf.length)::[.code rest])) cs w0) :=
  .one (stepR_value ho0 (wanted_none g0) hd0 r0)
 have st3:Steps P (lone (b.atR (a0.put o0.dst V0) (.inRegion ops (1::List.range' 2 suf.length)::[.code rest])) cs w0) (lone (Frame.enter P g B .normal) (b.atR (a0.put o0.dst V0) (.inRegion ops (1::List.range' 2 suf.length)::[.code rest])::cs) w0) :=
  .one (stepR_enter ho1 (wanted_none g1) hd1 r1)
 obtain ⟨e1,w2,fr,⟨V1,rfl,ρ,L0,L2,s,M,s1,v,s',hact,hclean,hL,hs,hfoM,hfin,hR⟩,hcomes,_,hleave⟩:=hcall (b.atR (a0.put o0.dst V0) (.inRegion ops (1::List.range' 2 suf.length)::[.code rest])::cs)
 have st4:Steps P (lone fr (b.atR (a0.put o0.dst V0) (.inRegion ops (1::List.range' 2 suf.length)::[.code rest])::cs) w2) (lone (b.atR ((a0.put o0.dst V0).put o1.dst V1) (.inRegion ops (List.range' 2 suf.length)::[.code rest])) cs w2):=by
  have hfi:=Frame.finish_atR b (a0.put o0.dst V0) ops 1 (List.range' 2 suf.length) [.code rest] V1
  simp only [ho1,Option.bind_some] at hfi
  rw [← hfi]
  exact .one (step_leave_returned hleave)
 obtain ⟨ρ',W',a',af,ha',hq,st5⟩:=ops_sound hc (suf:=suf) (i:=2) (by rw [hops];rfl) hfo hact hs hfoM
 obtain ⟨h1,h2⟩:=keep_rel (xs:=X f) (ops:=ops.toList) (L:=L0) ha' (fun t ht=>(hq t fun o ho=>ht o (by rw [hops];exact List.mem_cons_of_mem _ (List.mem_cons_of_mem _ ho))).trans (hL t ht)) hclean
 have stA:Steps P (lone (Frame.enter P f A .normal) cs W) (lone (b.atR a' [.code rest]) cs W') :=
  st1.trans (st2.trans (st3.trans (Steps.trans hcomes (st4.trans ((st5 b [.code rest] cs).trans (.one stepR_region_end))))))
 have hctx:CtxRel ρ' ⟨f,none,fn.ntmps,X f⟩ b:=⟨by rw [hbd],by rw [hbd],fun _=>hr,fun l e=>by cases e⟩
 generalize hr2:k cl ⟨f,none,fn.ntmps,X f⟩ (keepK (keepOf (X f) ops.toList) M L0) [] s1=r at hfin
 cases r with
 | fail=>cases hfin
 | done e L1 d s₁ =>
  obtain ⟨ρ₁,a₁,W₁,af₁,ha₁,_,_,st⟩:=codeK_sound rest hk hc rfl rfl hctx h1 h2 af.rel hr2
  have fin:∀ (hle:leaveA P fn.results.toList L1 d s₁=.val v s') (hst:∃ t,Steps P (lone (Frame.enter P f A .normal) cs W) (lone (back b a₁ t) cs W₁)),
    ∃ V w' fr,R (.returned V) w'∧Steps P (lone (Frame.enter P f A .normal) cs W) (lone fr cs w')∧fr.fn=f∧fr.leaving P w' (.returned V):=by
   intro hle hst
   obtain ⟨V,W₂,af₂,hv,st₂⟩:=leaveA_calls ha₁ af₁.rel hle
   obtain ⟨t,st₁⟩:=hst
   obtain ⟨fr,h1,h2,h3⟩:=st₂ b (by rw [hbd]) (by rw [hbd];exact hf) t cs
   exact ⟨V,W₂,fr,hR _ _ _ (af.trans (af₁.trans af₂)) hv,Steps.trans st₁ h1,by rw [h2,hbd],h3⟩
  cases e with
  | exit id=>cases hfin
  | norm =>
   have z:=st [] cs
   obtain ⟨V,w',fr,h1,h2,h3,h4⟩:=fin hfin ⟨[],stA.trans (Steps.trans z (.one (stepR_end hr)))⟩
   exact ⟨.returned V,w',fr,h1,h2,h3,h4⟩
  | ret =>
   obtain ⟨k0,z⟩:=st [] cs
   obtain ⟨V,w',fr,h1,h2,h3,h4⟩:=fin hfin ⟨.code .ret::k0,stA.trans (z.trans (.one (stepR_ret hr)))⟩
   exact ⟨.returned V,w',fr,h1,h2,h3,h4⟩
end Go.Abs
set_option maxRecDepth 10000
namespace Go.Proofs.Ytbcjojljiochfaa.walk
open Go.Abs Go.RowKit Go.Proofs.Ytbcjojljiochfaa.code
set_option maxRecDepth 100000 in
theorem one_calls (a:Option Addr) (n c:Nat) (w:World) (hn:n≤maxLen) (hc:∀ i,i<n→∃ b o,a=some ⟨b,o,none⟩∧∃ v,w.cell? ⟨b,o+i,none⟩=some (.int .i64 v)) :
  Calls Try.prog 4 #[.slice a n c] w fun e w'=>e=.returned (.bool true)∧Below w.heap.size w w':=by
 have HC:=Lib.hid hc
 clear hc
 refine mid2_calls (cl:=knows 14 (call Try.prog X 20)) (knows_sound (call_sound 200) Try.func14 awake.entered (call_sound 20)) Try.func4 rfl (X:=X) (k:=oneRest) (fo:=oneFirst) rfl rfl rfl (fun c h=>by cases h) (fun c h=>by cases h) (by kernel_rfl) (by kernel_rfl) ?_
 simp only [Try.ntmps4,List.size_toArray,List.length_cons,List.length_nil,Nat.reduceAdd,Nat.reduceSub,Array.replicate_succ,Array.replicate_zero,List.push_toArray,List.append_toArray,List.nil_append,List.cons_append]
 go_wp2
 refine ⟨.slice a n c,11,#[.slice a n c],rfl,by kernel_rfl,(mdie.born _ _ _ _ hn HC.out).mono ?_⟩
 rintro e w1 ⟨rfl,hB1,⟨F,hF⟩,hg1⟩
 have hd0:walk.Die 0 (die0 F).h:=⟨F,get_new_eq _ _ _ rfl (by decide)⟩
 obtain ⟨M,s1,s',hM,hs'⟩:=one_body 20 (by omega) ⟨4,none,Try.f4.ntmps,X 4⟩ (die0 F) 0 hd0 (by show 0<1;omega) (by show 1+90000000≤1000000000;omega) (Nat.le_refl _)
 refine ⟨_,rfl,rho0 w.heap.size,.nil,.cons 11 (.ptr 0 0) .nil,die0 F,M,s1,.bool true,s',⟨fun t=>?_,rfl,.nil⟩,fun t _=>rfl,fun t ht=>?_,die0_rel hF,hM,hs' _ (by kernel_rfl),fun ρ' V W' af hv=>?_⟩
 ·by_cases e:t=11
  ·subst e
   exact .ptr (e:=(0,0)) (if_pos rfl)
  ·rw [show (Env.cons 11 (.ptr 0 0) .nil).find t=AV.bad by rw [find_cons,if_neg (by omega)];rfl]
   exact .bad _
 ·by_cases e:t=11
  ·subst e
   exact absurd rfl (ht _ (List.mem_cons_of_mem _ (List.mem_cons_self ..)))
  ·rw [find_cons,if_neg (fun h=>by first | exact e h | exact e h.symm)]
 ·cases hv
  refine ⟨rfl,hB1.trans ⟨af.os,af.tape,af.output,af.size,fun k hk=>af.frame k (by omega) fun b x o e hb hr=>?_⟩⟩
  obtain ⟨_,rfl,_⟩:=die0_has hb
  have hr:some (w.heap.size,(0,0))=some (k,e):=hr
  injection hr with hr
  injection hr with hr _
  omega
end Go.Proofs.Ytbcjojljiochfaa.walk
