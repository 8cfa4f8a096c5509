/- Bids for a stall; who is ahead. -/
import Derived.Test.YthbhjgbpjlnbcaaM3
import Derived.Test.YthbhjgbpjlnbcaaM1
import Derived.Test.YthbhjgbpjlnbcaaCodes
import Derived.Test.YthbhjgbpjlnbcaaM2
import Derived.Test.YthbhjgbpjlnbcaaWalkAll
set_option linter.unusedSimpArgs false
set_option maxHeartbeats 16000000
set_option linter.unusedVariables false
set_option maxRecDepth 10000
namespace Go.Abs
theorem leave_cells2 {P:Program} (a b:Nat) (t u:TypeId) (L:Env) (s:St) {sh sh':Option Nat} (hs:shapeT P t=some sh) (hs':shapeT P u=some sh') {v w:AV} (h:okA (loadA sh s (L.find a))=.val v s) (h':okA (loadA sh' s (L.find b))=.val w s):leaveA P [.cell a t,.cell b u] L [] s=.val (.tup [v,w]) s:=by
 unfold leaveA
 simp only [takeDfs,resultsA,hs,h,hs',h']
 rfl
theorem cellsOf_bool (b:Bool):cellsOf 1 (.bool b)=some [.bool b]:=Eq.trans (Eq.refl _) (Eq.refl _)
theorem okA_map (b:Nat) (s:St):okA (.val (.map b) s)=.val (.map b) s:=Eq.trans (Eq.refl _) (Eq.refl _)
end Go.Abs
namespace Go.Proofs.Ythbhjgbpjlnbcaa.walk
open Go.Abs Go.Proofs.Ythbhjgbpjlnbcaa.code
def bidOf (st:Int):List (Int × Int)→Int × Bool
 | []=>(0,false)
 | x::r=>if x.1=st then (x.2,true) else bidOf st r
theorem bidOf_app (st:Int):∀ {p:List (Int × Int)} (q:List (Int × Int)),(∀ y ∈ p,y.1≠st)→bidOf st (p++q)=bidOf st q
 | [],_,_=>rfl
 | x::p,q,h=>by
  rw [List.cons_append]
  show (if x.1=st then (x.2,true) else bidOf st (p++q))=_
  rw [if_neg (h x (List.mem_cons_self ..))]
  exact bidOf_app st q fun y hy=>h y (List.mem_cons_of_mem _ hy)
theorem LetAt.bound {no na:Nat→Prop} {h:Heap} {n:Nat} {l:Letting} {vS vA:AV} (r:LetAt no na h n l vS vA):LetAt (fun y=>no y∧y<n) (fun y=>na y∧y<n) h n l vS vA:=r.move (fun _ h1 h2=>⟨rfl,h2,h1⟩) (fun _ h1 h2=>⟨rfl,h2,h1⟩) (Nat.le_refl _)
theorem bidFor_ok (N:Nat) (hN:6≤N) {no na:Nat→Prop} {l:Letting} (ok:l.Ok) {vS vA:AV} {a:Nat} (ha:a<l.appls.length) (st:Int) {s:St} (hL:LetAt no na s.h s.n l vS vA) (hs:s.n+100000≤far) :
  call Try.prog X N (.fn 50) [.agg (letV vS vA),.int .i64 (a:Int),.int .i64 st] s=.val (.tup [.int .i64 (bidOf st (reachOf l.stalls l.appls[a])).1,.bool (bidOf st (reachOf l.stalls l.appls[a])).2]) s:=by
 obtain ⟨M,rfl⟩:∃ M,N=M+5:=⟨N - 5,by omega⟩
 have hf:far=1000000000:=rfl
 refine call_plain' (n:=M+4) Try.func50 (fun u uh un um=>?_) rfl
 rw [← uh,← un] at hL
 obtain ⟨w,hw⟩:∃ w:St,w=(((u.new (.cells [vS,vA] (tag 28))).new (.cells [.int .i64 st] (tag 3))).new (.cells [.int .i64 0] (tag 3))).new (.cells [.bool false] (tag 4)):=⟨_,rfl⟩
 have wn:w.n=u.n+4:=by rw [hw];rfl
 have wm:w.m=far:=by rw [hw];exact um
 have wg:∀ c,c<u.n→w.h.get c=u.h.get c:=fun c hc=>by rw [hw,get_new_ne _ _ _ (by simp only [new_n];omega),get_new_ne _ _ _ (by simp only [new_n];omega),get_new_ne _ _ _ (by simp only [new_n];omega),get_new_ne _ _ _ (by omega)]
 have w0:w.h.get u.n=some (.cells [vS,vA] (tag 28)):=by rw [hw,get_new_ne _ _ _ (by simp only [new_n];omega),get_new_ne _ _ _ (by simp only [new_n];omega),get_new_ne _ _ _ (by simp only [new_n];omega)];exact get_new_eq _ _ _ rfl (by omega)
 have w1:w.h.get (u.n+1)=some (.cells [.int .i64 st] (tag 3)):=by rw [hw,get_new_ne _ _ _ (by simp only [new_n];omega),get_new_ne _ _ _ (by simp only [new_n];omega)];exact get_new_eq _ _ _ rfl (by simp only [new_n];omega)
 have w2:w.h.get (u.n+2)=some (.cells [.int .i64 0] (tag 3)):=by rw [hw,get_new_ne _ _ _ (by simp only [new_n];omega)];exact get_new_eq _ _ _ rfl (by simp only [new_n];omega)
 have w3:w.h.get (u.n+3)=some (.cells [.bool false] (tag 4)):=by rw [hw];exact get_new_eq _ _ _ rfl (by simp only [new_n];omega)
 have re:=reach_ok (M+4) (by omega) [vS,vA] (a:Int) w (by omega)
 obtain ⟨s0,hs0⟩:∃ s0:St,s0=(w.new (.cells [vS,vA] (tag 28))).new (.cells [.int .i64 (a:Int)] (tag 3)):=⟨_,rfl⟩
 have s0n:s0.n=u.n+6:=by rw [hs0];show w.n+1+1=_;omega
 have s0m:s0.m=far:=by rw [hs0];exact wm
 have s0g:∀ c,c<w.n→s0.h.get c=w.h.get c:=fun c hc=>by rw [hs0,get_new_ne _ _ _ (by rw [new_n];omega),get_new_ne _ _ _ (by omega)]
 have s00:s0.h.get (u.n+4)=some (.cells [vS,vA] (tag 28)):=by rw [hs0,get_new_ne _ _ _ (by rw [new_n];omega)];exact get_new_eq _ _ _ (by omega) (by omega)
 have s01:s0.h.get (u.n+5)=some (.cells [.int .i64 (a:Int)] (tag 3)):=by rw [hs0];exact get_new_eq _ _ _ (by rw [new_n];omega) (by rw [new_n];omega)
 rw [← hs0,wn] at re
 rw [enter50]
 simp (disch:=first|omega|(with_unfolding_all exact rfl)|(simp only[new_n,put_n,new_m];omega)|(refine put_m_le ?_;simp only[new_m];omega)) only [K50,K50r0,Abs.W,reduceIte,Nat.reduceEqDiff,Nat.reduceAdd,decide_true,decide_false,kLoop_def,Nat.reduceSub,List.cons_append,List.nil_append,List.append_nil,List.length_cons,List.length_nil,Env.find_set,boxIntE]
 rw [← hw]
 simp (disch:=first|omega|(with_unfolding_all exact rfl)|(simp only[new_n,put_n,new_m];omega)|(refine put_m_le ?_;simp only[new_m];omega)) only [K50r1,new_n,Abs.W,reduceIte,Nat.reduceEqDiff,Nat.reduceAdd,decide_true,decide_false,kLoop_def,Nat.reduceSub,List.cons_append,List.nil_append,List.append_nil,List.length_cons,List.length_nil,Env.find_set,w0,re,Nat.zero_add]
 clear re hs0 hw
 generalize hL0:Env.cons 0 _ _=L0
 have f5:L0.find 5=.ptr (u.n+1) 0:=by rw [← hL0];simp only [find_cons,reduceIte,Nat.reduceEqDiff]
 have f6:L0.find 6=.ptr (u.n+2) 0:=by rw [← hL0];simp only [find_cons,reduceIte,Nat.reduceEqDiff]
 have f7:L0.find 7=.ptr (u.n+3) 0:=by rw [← hL0];simp only [find_cons,reduceIte,Nat.reduceEqDiff]
 have f12:L0.find 12=.func 56 [] [.ptr (u.n+4) 0,.ptr (u.n+5) 0]:=by rw [← hL0];simp only [find_cons,reduceIte,Nat.reduceEqDiff]
 clear hL0
 have hLb:=hL.bound.move (h':=s0.h) (n':=u.n) (no':=fun y=>no y∧y<u.n) (na':=fun y=>na y∧y<u.n) (fun b h1 h2=>⟨(s0g b (by omega)).trans (wg b h1),h2⟩) (fun b h1 h2=>⟨(s0g b (by omega)).trans (wg b h1),h2⟩) (Nat.le_refl _)
 have hh:=reach1_hands (N:=M+1) (p1:=u.n+4) (p2:=u.n+5) (H:=s0.h) (rd:=fun y=>y=u.n+4∨y=u.n+5∨(no y∧y<u.n)∨(na y∧y<u.n)) ok hLb ha s00 s01 (.inl rfl) (.inr (.inl rfl)) (fun y h=>.inr (.inr (.inl h))) (fun y h=>.inr (.inr (.inr h)))
 generalize reachOf l.stalls l.appls[a]=T at hh ⊢
 obtain ⟨e,s',e1,hE,e3,e4,e5,e6,e7,e8⟩:=hands_range (P:=Try.prog) (X:=X) (M:=M) (Z:=M+4) hh (f:=.tmp 12) (ps:=[13,14]) (c:=⟨50,none,Try.f50.ntmps,X 50⟩) (L:=L0) (d:=[]) (s:=s0) rfl (by rw [ev_tmp,f12]) (fun _=>rfl) code50a0 code50b0 10 (u.n+2) 10 (fun y=>y=u.n+2∨y=u.n+3) (fun _ _=>True) (fun _ _ _ _ _=>trivial) (fun _=>trivial)
  (fun p h n=>h.get (u.n+2)=some (.cells [.int .i64 0] (tag 3))∧h.get (u.n+3)=some (.cells [.bool false] (tag 4))∧∀ y ∈ p,y.1≠st) (fun e p x _ h n=>e=.ret∧x.1=st∧h.get (u.n+2)=some (.cells [.int .i64 x.2] (tag 3))∧h.get (u.n+3)=some (.cells [.bool true] (tag 4))∧∀ y ∈ p,y.1≠st)
  (fun y hy=>⟨by omega,rfl⟩) (fun y hy=>⟨by omega,by omega⟩) (by omega) (by omega) (by omega) (by omega) ⟨(s0g _ (by omega)).trans w2,(s0g _ (by omega)).trans w3,fun _ h=>by cases h⟩
  (fun p h h' n n' hb hn ⟨h1,h2,h3⟩=>⟨(hb _ (by omega)).trans h1,(hb _ (by omega)).trans h2,h3⟩)
  (fun e p x k h h' n n' hb hn ⟨h0,h1,h2,h3,h4⟩=>⟨h0,h1,(hb _ (by omega)).trans h2,(hb _ (by omega)).trans h3,h4⟩)
  (fun p x rest t ht ⟨p2,p3,p4⟩ hfr htn htf htm htm' _=>by
   obtain ⟨z0,hz0⟩:∃ z0:St,z0=t.put (s0.n+1) (.loop { loopO ⟨50,none,Try.f50.ntmps,X 50⟩ L0 [13,14] (rangeAt Try.f50 0).1 (rangeAt Try.f50 0).2 s0 with state:=.busy }):=⟨_,rfl⟩
   have zn:z0.n=t.n:=by rw [hz0];rfl
   have zm:z0.m=min t.m (s0.n+1):=by rw [hz0];simp only [St.put,minN_eq]
   have zg:∀ c,c≠s0.n+1→z0.h.get c=t.h.get c:=fun c hc=>by rw [hz0,get_put_ne' _ _ _ _ hc]
   have zl:z0.h.get (s0.n+1)=some (.loop { loopO ⟨50,none,Try.f50.ntmps,X 50⟩ L0 [13,14] (rangeAt Try.f50 0).1 (rangeAt Try.f50 0).2 s0 with state:=.busy }):=by rw [hz0];exact get_put_eq _ _ _ _ rfl (by omega)
   have z1:=(zg (u.n+1) (by omega)).trans ((hfr (u.n+1) (by omega) (by omega)).trans ((s0g _ (by omega)).trans w1))
   have z2:=(zg (u.n+2) (by omega)).trans p2
   have z3:=(zg (u.n+3) (by omega)).trans p3
   obtain ⟨xs,xb⟩:=x
   have hass:K50a0 (call Try.prog X M) ⟨50,some (s0.n+1),Try.f50.ntmps,X 50⟩ (setParams L0 [13,14] (ev2 (xs,xb))) [] t=.done .norm ((((L0.set 13 (.int .i64 xs)).set 14 (.int .i64 xb)).set 8 (.int .i64 xs)).set 9 (.int .i64 xb)) [] t:=by
    simp (disch:=first|omega|(with_unfolding_all exact rfl)|(simp only[new_n,put_n,new_m];omega)|(refine put_m_le ?_;simp only[new_m];omega)) only [K50a0,K50a0r0,K50a0r1,ev2,setParams2,Abs.W,reduceIte,Nat.reduceEqDiff,Nat.reduceAdd,decide_true,decide_false,kLoop_def,Nat.reduceSub,List.cons_append,List.nil_append,List.append_nil,List.length_cons,List.length_nil,Env.find_set,Nat.reduceEqDiff]
   obtain ⟨L1,hL1⟩:∃ L1,L1=((((L0.set 13 (.int .i64 xs)).set 14 (.int .i64 xb)).set 8 (.int .i64 xs)).set 9 (.int .i64 xb)):=⟨_,rfl⟩
   rw [← hL1] at hass
   have l5:L1.find 5=.ptr (u.n+1) 0:=by rw [hL1];simp only [Env.find_set,f5,reduceIte,Nat.reduceEqDiff]
   have l6:L1.find 6=.ptr (u.n+2) 0:=by rw [hL1];simp only [Env.find_set,f6,reduceIte,Nat.reduceEqDiff]
   have l7:L1.find 7=.ptr (u.n+3) 0:=by rw [hL1];simp only [Env.find_set,f7,reduceIte,Nat.reduceEqDiff]
   have l8:L1.find 8=.int .i64 xs:=by rw [hL1];simp only [Env.find_set,reduceIte,Nat.reduceEqDiff]
   have l9:L1.find 9=.int .i64 xb:=by rw [hL1];simp only [Env.find_set,reduceIte,Nat.reduceEqDiff]
   clear hL1
   refine ⟨L1,t,?_⟩
   rw [hass,← hz0]
   by_cases hx:xs=st
   ·have d1:decide (xs=st)=true:=decide_eq_true hx
    simp (disch:=first|omega|(with_unfolding_all exact rfl)|(simp only[new_n,put_n,new_m];omega)|(refine put_m_le ?_;simp only[new_m];omega)) only [K50b0,K50b0r0,K50b0r1,Abs.W,reduceIte,Nat.reduceEqDiff,Nat.reduceAdd,decide_true,decide_false,kLoop_def,Nat.reduceSub,List.cons_append,List.nil_append,List.append_nil,List.length_cons,List.length_nil,Env.find_set,l5,l6,l7,l8,l9,z1,z2,z3,d1,cellsOf_bool,Nat.zero_add]
    refine ⟨.ret,_,_,trivial,trivial,rfl,fun h=>(by cases h),fun _=>⟨rfl,hx,?_,get_put_eq _ _ _ _ rfl (by omega),p4⟩,?_,fun c h1 h2 h3=>?_,by simp only [put_n];omega,by simp only [put_n];omega,?_,?_,trivial⟩
    ·rw [get_put_ne' _ _ _ _ (by omega)];exact get_put_eq _ _ _ _ rfl (by omega)
    ·rw [get_put_ne' _ _ _ _ (by omega),get_put_ne' _ _ _ _ (by omega)];exact zl
    ·rw [get_put_ne' _ _ _ _ (by omega),get_put_ne' _ _ _ _ (by omega)];exact zg c h2
    ·simp only [St.put,minN_eq];omega
    ·simp only [St.put,minN_eq];omega
   ·have d1:decide (xs=st)=false:=decide_eq_false hx
    simp (disch:=first|omega|(with_unfolding_all exact rfl)|(simp only[new_n,put_n,new_m];omega)|(refine put_m_le ?_;simp only[new_m];omega)) only [K50b0,K50b0r0,K50b0r1,Abs.W,reduceIte,Nat.reduceEqDiff,Nat.reduceAdd,decide_true,decide_false,kLoop_def,Nat.reduceSub,List.cons_append,List.nil_append,List.append_nil,List.length_cons,List.length_nil,Env.find_set,l5,l6,l7,l8,l9,z1,z2,z3,d1,cellsOf_bool,Nat.zero_add]
    refine ⟨.norm,_,_,trivial,trivial,rfl,fun _=>⟨z2,z3,fun y hy=>?_⟩,fun h=>absurd rfl h,zl,fun c h1 h2 h3=>zg c h2,by omega,by omega,by omega,by omega,trivial⟩
    rcases List.mem_append.mp hy with h | h
    ·exact p4 y h
    ·rw [List.mem_singleton.mp h];exact hx)
 rw [e1]
 have ed:s'.h.get s0.n=some .dfr:=e4
 have shI:shapeT Try.prog 3=some none:=by kernel_rfl
 have shB:shapeT Try.prog 4=some none:=by kernel_rfl
 rcases hE with ⟨rfl,⟨h1,h2,h3⟩,_⟩ | ⟨_,p,x,rest,_,hT,_,⟨rfl,h1,h2,h3,h4⟩,_⟩
 ·have hb:bidOf st T=(0,false):=by have:=bidOf_app st [] h3;rw [List.append_nil] at this;exact this
  rw [hb]
  simp (disch:=first|omega|(with_unfolding_all exact rfl)|(simp only[new_n,put_n,new_m];omega)|(refine put_m_le ?_;simp only[new_m];omega)) only [K50r2,Abs.W,reduceIte,Nat.reduceEqDiff,Nat.reduceAdd,decide_true,decide_false,kLoop_def,Nat.reduceSub,List.cons_append,List.nil_append,List.append_nil,List.length_cons,List.length_nil,Env.find_set,f6,f7,h1,h2,cellsOf_bool,Nat.zero_add]
  rw [leave_dfr _ _ _ _ _ (by rw [get_put_ne' _ _ _ _ (by omega),get_put_ne' _ _ _ _ (by omega)];exact ed),res50]
  refine ⟨_,leave_cells2 _ _ _ _ _ _ shI shB ?_ ?_,?_⟩
  ·rw [f6,load_ptr,get_kill_ne _ _ _ (by omega),get_put_ne' _ _ _ _ (by omega),get_put_eq _ _ _ _ rfl (by omega),loadO_cells,partS_one];rfl
  ·rw [f7,load_ptr,get_kill_ne _ _ _ (by omega),get_put_eq _ _ _ _ rfl (by omega),loadO_cells,partS_one];rfl
  ·simp only [St.kill,St.put,minN_eq];omega
 ·have hb:bidOf st T=(x.2,true):=by rw [← hT,bidOf_app st _ h4];show (if x.1=st then (x.2,true) else _)=_;rw [if_pos h1]
  rw [hb]
  simp (disch:=first|omega|(with_unfolding_all exact rfl)|(simp only[new_n,put_n,new_m];omega)|(refine put_m_le ?_;simp only[new_m];omega)) only [Abs.W,reduceIte,Nat.reduceEqDiff,Nat.reduceAdd,decide_true,decide_false,kLoop_def,Nat.reduceSub,List.cons_append,List.nil_append,List.append_nil,List.length_cons,List.length_nil]
  rw [leave_dfr _ _ _ _ _ ed,res50]
  refine ⟨_,leave_cells2 _ _ _ _ _ _ shI shB ?_ ?_,?_⟩
  ·rw [f6,load_ptr,get_kill_ne _ _ _ (by omega),h2,loadO_cells,partS_one];rfl
  ·rw [f7,load_ptr,get_kill_ne _ _ _ (by omega),h3,loadO_cells,partS_one];rfl
  ·simp only [St.kill,minN_eq];omega
end Go.Proofs.Ythbhjgbpjlnbcaa.walk
set_option maxRecDepth 10000
namespace Go.Proofs.Ythbhjgbpjlnbcaa.walk
open Go.Abs Go.Proofs.Ythbhjgbpjlnbcaa.code
def Die (d:Nat) (h:Heap):Prop:=∃ f,h.get d=some (.cells [.int .u64 f] (tag 63))
theorem roll_ex {N d:Nat} {s:St} {r:ARes} (hr:call Try.prog X N (.fn 32) [.ptr d 0] s=r) (hN:1≤N) (hd:Die d s.h) (hlt:d<s.n) (hs:s.n+10≤far) :
  ∃ x t,r=.val (.int .u64 x) t∧Stir d s t 0∧Die d t.h∧0≤x∧x≤18446744073709551615:=by
 obtain ⟨n,rfl⟩:∃ n,N=n+1:=⟨N - 1,by omega⟩
 have hf:far=1000000000:=rfl
 obtain ⟨f,hg⟩:=hd
 obtain ⟨v,t,e,st,⟨x,rfl,x0,x1⟩,hd'⟩:=call_stir_plain (n:=n) (args:=[.ptr d 0]) (d:=d) (k:=0) (Q:=fun v=>∃ x,v=.int .u64 x∧0≤x∧x≤18446744073709551615) (R:=Die d) Try.func32 ⟨f,hg⟩ (fun u uh un um=>by
  rw [← uh] at hg
  rw [enter32]
  simp (disch:=first|omega|(with_unfolding_all exact rfl)|(simp only[new_n,put_n,new_m];omega)|(refine put_m_le ?_;simp only[new_m];omega)) only [res32,K32r0,K32r1,K32r2,K32r3,K32r4,K32r5,K32,Abs.W,reduceIte,Nat.reduceEqDiff,Nat.reduceAdd,decide_true,decide_false,kLoop_def,Nat.reduceSub,List.cons_append,List.nil_append,List.append_nil,List.length_cons,List.length_nil,hg,Nat.zero_add,ints_u64,kShr_def,shrA_u64,aAdd_def,aMul_def,aXor_def]
  refine ⟨_,_,rfl,(Stir.refl d u).put (by omega) _ (.inl rfl),rfl,⟨_,rfl,?_⟩,⟨_,get_put_eq _ _ _ _ rfl (by omega)⟩⟩
  exact xorI_range _ _) (by omega)
 exact ⟨x,t,hr.symm.trans e,st,hd',x0,x1⟩
theorem cast_ex {N d:Nat} {n:Int} {s:St} {r:ARes} (hr:call Try.prog X N (.fn 15) [.ptr d 0,.int .i64 n] s=r) (hN:2≤N) (hd:Die d s.h) (hlt:d<s.n) (hs:s.n+100≤far) (hn:n≤4000000000) :
  ∃ x t,r=.val (.int .i64 x) t∧Stir d s t 0∧Die d t.h∧0≤x∧(x<n∨x=0):=by
 obtain ⟨m,rfl⟩:∃ m,N=m+1:=⟨N - 1,by omega⟩
 have hf:far=1000000000:=rfl
 obtain ⟨v,t,e,st,⟨x,rfl,x0,x1⟩,hd'⟩:=call_stir_plain (n:=m) (args:=[.ptr d 0,.int .i64 n]) (d:=d) (k:=0) (Q:=fun v=>∃ x,v=.int .i64 x∧0≤x∧(x<n∨x=0)) (R:=Die d) Try.func15 hd (fun u uh un um=>by
  rw [← uh] at hd
  rw [enter15]
  by_cases hlow:n<2
  ·have e0:decide (n<2)=true:=by simpa using hlow
   simp (disch:=first|omega|(with_unfolding_all exact rfl)|(simp only[new_n,put_n,new_m];omega)|(refine put_m_le ?_;simp only[new_m];omega)) only [res15,K15r0,K15r1,K15r2,K15r3,K15,Abs.W,reduceIte,Nat.reduceEqDiff,Nat.reduceAdd,decide_true,decide_false,kLoop_def,Nat.reduceSub,List.cons_append,List.nil_append,List.append_nil,List.length_cons,List.length_nil,e0]
   exact ⟨_,_,rfl,Stir.refl d u,rfl,⟨0,rfl,by omega,.inr rfl⟩,hd⟩
  ·have e0:decide (n<2)=false:=by simpa using hlow
   simp (disch:=first|omega|(with_unfolding_all exact rfl)|(simp only[new_n,put_n,new_m];omega)|(refine put_m_le ?_;simp only[new_m];omega)) only [res15,K15r0,K15r1,K15r2,K15r3,K15,Abs.W,reduceIte,Nat.reduceEqDiff,Nat.reduceAdd,decide_true,decide_false,kLoop_def,Nat.reduceSub,List.cons_append,List.nil_append,List.append_nil,List.length_cons,List.length_nil,e0]
   generalize hc:call _ _ _ (.fn 32) _ _=r1
   obtain ⟨y,w,rfl,sw,dw,y0,y1⟩:=roll_ex hc (by omega) hd (by omega) (by omega)
   have q0:0≤shrI y 2:=shrI_nonneg _ _ y0
   have q2:0≤(shrI y 2).tmod n:=Int.tmod_nonneg _ q0
   have q3:(shrI y 2).tmod n<n:=Int.tmod_lt_of_pos _ (by omega)
   have w1:wrapA .u64 n=n:=wrap_u64 n (by omega)
   have w2:wrapA .i64 ((shrI y 2).tmod n)=(shrI y 2).tmod n:=wrap_in _ (by omega)
   have w3:∀ s,aRem s .u64 (shrI y 2) n=.val (.int .u64 ((shrI y 2).tmod n)) s:=fun s=>aRem_ne s _ _ _ (by omega)
   simp (disch:=first|omega|(with_unfolding_all exact rfl)|(simp only[new_n,put_n,new_m];omega)|(refine put_m_le ?_;simp only[new_m];omega)) only [res15,K15r0,K15r1,K15r2,K15r3,K15,Abs.W,reduceIte,Nat.reduceEqDiff,Nat.reduceAdd,decide_true,decide_false,kLoop_def,Nat.reduceSub,List.cons_append,List.nil_append,List.append_nil,List.length_cons,List.length_nil,ints_u64,kShr_def,shrA_u64,cviA_int,w1,w2,w3]
   exact ⟨_,_,rfl,sw,rfl,⟨_,rfl,q2,.inl q3⟩,dw⟩) (by omega)
 exact ⟨x,t,hr.symm.trans e,st,hd',x0,x1⟩
theorem from_ex {N d:Nat} {lo hi:Int} {s:St} {r:ARes} (hr:call Try.prog X N (.fn 26) [.ptr d 0,.int .i64 lo,.int .i64 hi] s=r) (hN:3≤N) (hd:Die d s.h) (hlt:d<s.n) (hs:s.n+200≤far)
  (h0 : -100000000≤lo) (h1:lo≤100000000) (h2 : -100000000≤hi) (h3:hi≤100000000) :
  ∃ x t,r=.val (.int .i64 x) t∧Stir d s t 0∧Die d t.h∧lo≤x∧(x≤hi∨x=lo):=by
 obtain ⟨m,rfl⟩:∃ m,N=m+1:=⟨N - 1,by omega⟩
 have hf:far=1000000000:=rfl
 obtain ⟨v,t,e,st,⟨x,rfl,x0,x1⟩,hd'⟩:=call_stir_plain (n:=m) (args:=[.ptr d 0,.int .i64 lo,.int .i64 hi]) (d:=d) (k:=0) (Q:=fun v=>∃ x,v=.int .i64 x∧lo≤x∧(x≤hi∨x=lo)) (R:=Die d) Try.func26 hd (fun u uh un um=>by
  rw [← uh] at hd
  have a1:∀ s,aSub s .i64 hi lo=.val (.int .i64 (hi - lo)) s:=fun s=>aSub_i64 s _ _ (by omega)
  have a2:∀ s,aAdd s .i64 (hi - lo) 1=.val (.int .i64 (hi - lo+1)) s:=fun s=>aAdd_i64 s _ _ (by omega)
  rw [enter26]
  simp (disch:=first|omega|(with_unfolding_all exact rfl)|(simp only[new_n,put_n,new_m];omega)|(refine put_m_le ?_;simp only[new_m];omega)) only [res26,K26r0,K26r1,K26,Abs.W,reduceIte,Nat.reduceEqDiff,Nat.reduceAdd,decide_true,decide_false,kLoop_def,Nat.reduceSub,List.cons_append,List.nil_append,List.append_nil,List.length_cons,List.length_nil,a1,a2]
  generalize hc:call _ _ _ (.fn 15) _ _=r1
  obtain ⟨y,w,rfl,sw,dw,y0,y1⟩:=cast_ex hc (by omega) hd (by omega) (by omega) (by omega)
  have a3:∀ s,aAdd s .i64 lo y=.val (.int .i64 (lo+y)) s:=fun s=>aAdd_i64 s _ _ (by omega)
  simp (disch:=first|omega|(with_unfolding_all exact rfl)|(simp only[new_n,put_n,new_m];omega)|(refine put_m_le ?_;simp only[new_m];omega)) only [res26,K26r0,K26r1,K26,Abs.W,reduceIte,Nat.reduceEqDiff,Nat.reduceAdd,decide_true,decide_false,kLoop_def,Nat.reduceSub,List.cons_append,List.nil_append,List.append_nil,List.length_cons,List.length_nil,a3]
  exact ⟨_,_,rfl,sw,rfl,⟨_,rfl,by omega,by omega⟩,dw⟩) (by omega)
 exact ⟨x,t,hr.symm.trans e,st,hd',x0,x1⟩
theorem nth_ints:∀ {l:List Int} {i:Nat},i<l.length→∃ x ∈ l,nth (l.map fun x=>AV.int .i64 x) i=.int .i64 x
 | [],i,h=>by simp at h
 | a::l,0,_=>⟨a,List.mem_cons_self ..,rfl⟩
 | a::l,i+1,h=>by
  obtain ⟨x,hx,e⟩:=nth_ints (l:=l) (i:=i) (by simpa using h)
  exact ⟨x,List.mem_cons_of_mem _ hx,e⟩
theorem one_ex {N d b:Nat} {k sz:Nat} (l:List Int) {s:St} {r:ARes} (hr:call Try.prog X N (.fn 33) [.ptr d 0,.slice b 0 k k false] s=r) (hN:3≤N) (hd:Die d s.h) (hlt:d<s.n) (hs:s.n+200≤far)
  (hb:s.h.get b=some (.cells (l.map fun x=>AV.int .i64 x) sz)) (hbn:b<s.n) (hbd:b≠d) (hl:l.length=k) (h0:0<k) (hk:k≤1000) :
  ∃ x t,r=.val (.int .i64 x) t∧Stir d s t 0∧Die d t.h∧x ∈ l:=by
 obtain ⟨m,rfl⟩:∃ m,N=m+1:=⟨N - 1,by omega⟩
 have hf:far=1000000000:=rfl
 obtain ⟨v,t,e,st,⟨x,rfl,hx⟩,hd'⟩:=call_stir_plain (n:=m) (args:=[.ptr d 0,.slice b 0 k k false]) (d:=d) (k:=0) (Q:=fun v=>∃ x,v=.int .i64 x∧x ∈ l) (R:=Die d) Try.func33 hd (fun u uh un um=>by
  rw [← uh] at hd hb
  have e0:decide ((k:Int)=0)=false:=by simp;omega
  rw [enter33]
  simp (disch:=first|omega|(with_unfolding_all exact rfl)|(simp only[new_n,put_n,new_m];omega)|(refine put_m_le ?_;simp only[new_m];omega)) only [res33,K33r0,K33r1,K33r2,K33r3,K33,Abs.W,reduceIte,Nat.reduceEqDiff,Nat.reduceAdd,decide_true,decide_false,kLoop_def,Nat.reduceSub,List.cons_append,List.nil_append,List.append_nil,List.length_cons,List.length_nil,e0]
  generalize hc:call _ _ _ (.fn 15) _ _=r1
  obtain ⟨y,w,rfl,sw,dw,y0,y1⟩:=cast_ex hc (by omega) hd (by omega) (by omega) (by omega)
  obtain ⟨i,rfl⟩:∃ i:Nat,y=i:=⟨y.toNat,by omega⟩
  have hi:i<k:=by omega
  obtain ⟨x,hx,hn⟩:=nth_ints (l:=l) (i:=i) (by omega)
  have hg:w.h.get b=some (.cells (l.map fun x=>AV.int .i64 x) sz):=by rw [sw.same b (by omega) hbd];exact hb
  simp (disch:=first|omega|(with_unfolding_all exact rfl)|(simp only[new_n,put_n,new_m];omega)|(refine put_m_le ?_;simp only[new_m];omega)) only [res33,K33r0,K33r1,K33r2,K33r3,K33,Abs.W,reduceIte,Nat.reduceEqDiff,Nat.reduceAdd,decide_true,decide_false,kLoop_def,Nat.reduceSub,List.cons_append,List.nil_append,List.append_nil,List.length_cons,List.length_nil,ixs_slice _ _ _ _ _ _ _ _ hi,Nat.mul_one,Nat.zero_add,hg,hn]
  exact ⟨_,_,rfl,sw,rfl,⟨x,rfl,hx⟩,dw⟩) (by omega)
 exact ⟨x,t,hr.symm.trans e,st,hd',hx⟩
end Go.Proofs.Ythbhjgbpjlnbcaa.walk
set_option maxRecDepth 10000
namespace Go.Proofs.Ythbhjgbpjlnbcaa.walk
open Go.Abs Go.Proofs.Ythbhjgbpjlnbcaa.code
theorem Die.keep {d:Nat} {h h':Heap} (D:Die d h) (e:h'.get d=h.get d):Die d h':=by obtain ⟨f,hf⟩:=D;exact ⟨f,e.trans hf⟩
theorem Die.new {d:Nat} {s:St} (h:Die d s.h) (hd:d<s.n) (o:AObj):Die d (s.new o).h:=by obtain ⟨f,hf⟩:=h;exact ⟨f,by rw [get_new_ne _ _ _ (by omega)];exact hf⟩
structure Perm (i:Nat) (f:List Nat):Prop where
 lt:∀ p,p<i→f.getD p 0<i
 all:∀ j,j<i→∃ p,p<i∧f.getD p 0=j
def mix (f:List Nat) (i k:Nat):List Nat:=(f.set i (f.getD k 0)).set k i
theorem getD_set {f:List Nat} {i x p:Nat} (hi:i<f.length):(f.set i x).getD p 0=if i=p then x else f.getD p 0:=by
 simp only [List.getD_eq_getElem?_getD,List.getElem?_set]
 by_cases h:i=p
 ·subst h;simp [hi]
 ·simp [h]
theorem mix_at {f:List Nat} {i k p:Nat} (hi:i<f.length) (hk:k<f.length):(mix f i k).getD p 0=if k=p then i else if i=p then f.getD k 0 else f.getD p 0:=by
 unfold mix
 rw [getD_set (by rw [List.length_set];exact hk),getD_set hi]
theorem Perm.step {i k:Nat} {f:List Nat} (h:Perm i f) (hi:i<f.length) (hk:k≤i):Perm (i+1) (mix f i k):=by
 refine ⟨fun p hp=>?_,fun j hj=>?_⟩
 ·rw [mix_at hi (by omega)]
  by_cases h1:k=p
  ·rw [if_pos h1];omega
  ·rw [if_neg h1]
   by_cases h2:i=p
   ·rw [if_pos h2]
    have:=h.lt k (by omega)
    omega
   ·rw [if_neg h2]
    have:=h.lt p (by omega)
    omega
 ·by_cases hji:j=i
  ·exact ⟨k,by omega,by rw [mix_at hi (by omega),if_pos rfl];exact hji.symm⟩
  ·obtain ⟨p,hp,e⟩:=h.all j (by omega)
   by_cases hpk:p=k
   ·refine ⟨i,by omega,?_⟩
    rw [mix_at hi (by omega),if_neg (by omega),if_pos rfl,← hpk]
    exact e
   ·refine ⟨p,by omega,?_⟩
    rw [mix_at hi (by omega),if_neg (by omega),if_neg (by omega)]
    exact e
def natRows (f:List Nat):List (List AV):=intRows (f.map Int.ofNat)
theorem natRows_len (f:List Nat):(natRows f).length=f.length:=by unfold natRows;rw [intRows_len,List.length_map]
theorem natRows_wide (f:List Nat):∀ r ∈ natRows f,r.length=1:=fun r hr=>by
 unfold natRows intRows at hr
 obtain ⟨x,_,rfl⟩:=List.mem_map.mp hr
 rfl
theorem natRows_at {f:List Nat} {k:Nat} (hk:k<f.length):(natRows f)[k]'(by rw [natRows_len];exact hk)=[.int .i64 (f.getD k 0:Nat)]:=by
 unfold natRows intRows
 simp [List.getD,hk]
theorem natRows_nth {f:List Nat} {k:Nat} (hk:k<f.length):nth (natRows f).flatten k=.int .i64 (f.getD k 0:Nat):=by
 have:=flatten_cut (natRows_wide f) (show k<(natRows f).length by rw [natRows_len];exact hk)
 rw [natRows_at hk,Nat.mul_one] at this
 exact cut1_nth this
theorem natRows_set (f:List Nat) (k x:Nat):(natRows f).set k [.int .i64 (x:Int)]=natRows (f.set k x):=by
 unfold natRows intRows
 rw [List.map_set,List.map_set]
 rfl
theorem natRows_over {f:List Nat} {k:Nat} (hk:k<f.length) (x:Nat):over k [.int .i64 (x:Int)] (natRows f).flatten=some (natRows (f.set k x)).flatten:=by
 have:=over_flatten (row:=[.int .i64 (x:Int)]) (natRows_wide f) (show k<(natRows f).length by rw [natRows_len];exact hk) rfl
 rw [Nat.mul_one,natRows_set] at this
 exact this
structure ShufJ (u t:St) (d m i:Nat) (f:List Nat):Prop where
 die:Die d t.h
 get:t.h.get u.n=some (.cells (natRows f).flatten 0)
 same:∀ c,c<u.n→c≠d→t.h.get c=u.h.get c
 n:t.n=u.n+1
 tm:d≤t.m
 mle:t.m≤far
 len:f.length=m
 perm:Perm i f
theorem shuf_round (N:Nat) (hN:6≤N) (cx:Ctx) {d m i:Nat} {f:List Nat} {u t:St} {L:Env} (hJ:ShufJ u t d m i f) (hi:i<m) (hm:m≤50) (hd:d<u.n) (hs:u.n+1000≤far) (q0:L.find 0=.ptr d 0) (q5:L.find 5=.slice u.n 0 m m false) (q6:L.find 6=.int .i64 i) :
  ∃ L1 t1 f1,K34l0 (call Try.prog X N) cx L [] t=.done .norm L1 [] t1∧ShufJ u t1 d m (i+1) f1∧L1.find 0=.ptr d 0∧L1.find 5=.slice u.n 0 m m false∧L1.find 6=.int .i64 (i+1:Nat):=by
 have hf:far=1000000000:=rfl
 obtain ⟨jd,jg,js,jn,jm,jl,jlen,jp⟩:=hJ
 have e0:decide ((i:Int)<(m:Int))=true:=decide_eq_true (by omega)
 have ad:∀ s,aAdd s .i64 (i:Int) 1=.val (.int .i64 ((i:Int)+1)) s:=fun s=>aAdd_i64 s _ _ (by omega)
 have okR:∀ t,okA (.val (.slice u.n 0 m m false) t)=.val (.slice u.n 0 m m false) t:=fun _=>rfl
 have lnR:∀ s,lenSlA s (.slice u.n 0 m m false)=.val (.int .i64 (m:Int)) s:=fun _=>rfl
 have ixR:∀ s k,k<m→ixsA 1 s (.slice u.n 0 m m false) (.int .i64 (k:Int))=.val (.ptr u.n k) s:=fun s k hk=>by rw [ixs_slice _ _ _ _ _ _ _ _ hk,Nat.zero_add,Nat.mul_one]
 simp (disch:=first|omega|(with_unfolding_all exact rfl)|(simp only[new_n,put_n,new_m];omega)|(refine put_m_le ?_;simp only[new_m];omega)) only [res34,K34r0,K34r1,K34r2,K34r3,K34r4,K34r5,K34r6,K34r7,K34r8,K34,K34l0,Abs.W,reduceIte,Nat.reduceEqDiff,Nat.reduceAdd,decide_true,decide_false,kLoop_def,Nat.reduceSub,List.cons_append,List.nil_append,List.append_nil,List.length_cons,List.length_nil,Env.find_set,q0,q5,q6,okR,lnR,e0,ad,Nat.zero_add]
 generalize hc:call _ _ _ (.fn 15) _ _=r
 obtain ⟨x,t1,rfl,st,d1,x0,x1⟩:=cast_ex hc (by omega) jd (by omega) (by omega) (by omega)
 obtain ⟨k,rfl⟩:∃ n:Nat,x=n:=⟨x.toNat,by omega⟩
 have n1:t.n≤t1.n:=st.n
 have k1:t1.n≤t.n:=st.le
 have g1:=(st.same u.n (by omega) (by omega)).trans jg
 have m1:=st.m jm
 have l1:=st.mle
 have nk:=natRows_nth (f:=f) (k:=k) (by omega)
 have o1:=natRows_over (f:=f) (k:=i) (by omega) (f.getD k 0)
 have o2:=natRows_over (f:=f.set i (f.getD k 0)) (k:=k) (by rw [List.length_set];omega) i
 have i1:∀ s,ixsA 1 s (.slice u.n 0 m m false) (.int .i64 (k:Int))=.val (.ptr u.n k) s:=fun s=>ixR s k (by omega)
 have i2:∀ s,ixsA 1 s (.slice u.n 0 m m false) (.int .i64 (i:Int))=.val (.ptr u.n i) s:=fun s=>ixR s i hi
 simp (disch:=first|omega|(with_unfolding_all exact rfl)|(simp only[new_n,put_n,new_m];omega)|(refine put_m_le ?_;simp only[new_m];omega)) only [res34,K34r0,K34r1,K34r2,K34r3,K34r4,K34r5,K34r6,K34r7,K34r8,K34,Abs.W,reduceIte,Nat.reduceEqDiff,Nat.reduceAdd,decide_true,decide_false,kLoop_def,Nat.reduceSub,List.cons_append,List.nil_append,List.append_nil,List.length_cons,List.length_nil,Env.find_set,q5,q6,okR,i1,i2,g1,nk,o1,o2,ad,Nat.zero_add]
 refine ⟨_,_,mix f i k,rfl,⟨d1.keep ?_,?_,fun c h1 h2=>?_,by simp only [put_n];omega,?_,?_,by unfold mix;rw [List.length_set,List.length_set];exact jlen,jp.step (by omega) (by omega)⟩,by simp only [Env.find_set,q0,reduceIte,Nat.reduceEqDiff],by simp only [Env.find_set,q5,reduceIte,Nat.reduceEqDiff],by simp only [Env.find_set,reduceIte,Nat.reduceEqDiff];rfl⟩
 ·rw [get_put_ne' _ _ _ _ (by omega),get_put_ne' _ _ _ _ (by omega)]
 ·exact get_put_eq _ _ _ _ rfl (by omega)
 ·rw [get_put_ne' _ _ _ _ (by omega),get_put_ne' _ _ _ _ (by omega),st.same c (by omega) h2]
  exact js c h1 h2
 ·simp only [St.put,minN_eq];omega
 ·simp only [St.put,minN_eq];omega
theorem Shuffle_ex {N d m:Nat} {s:St} {r:ARes} (hr:call Try.prog X N (.fn 34) [.ptr d 0,.int .i64 (m:Int)] s=r) (hN:7≤N) (hd:Die d s.h) (hlt:d<s.n) (hm:m≤50) (hs:s.n+2000≤far) :
  ∃ v f t,r=.val v t∧Stir d s t 1∧Die d t.h∧f.length=m∧Perm m f∧Blk t.h t.n s.n 1 (tag 3) (natRows f) v:=by
 obtain ⟨n,rfl⟩:∃ n,N=n+1:=⟨N - 1,by omega⟩
 have hf:far=1000000000:=rfl
 obtain ⟨v,t,e,st,f,hdt,hfl,hp,hb⟩:=call_stir (n:=n) (args:=[.ptr d 0,.int .i64 (m:Int)]) (d:=d) (s:=s) (k:=1) (Q:=fun v h n=>∃ f,Die d h∧f.length=m∧Perm m f∧Blk h n s.n 1 (tag 3) (natRows f) v) Try.func34 rfl (fun u uh un um=>by
  rw [← uh] at hd
  rw [← un] at hlt ⊢
  have mk:∀ s:St,makeA [.int .i64 0] 8 s (.int .i64 (m:Int)) (.int .i64 (m:Int))=.val (.slice s.n 0 m m false) (s.new (.cells (List.replicate m [.int .i64 0]).flatten 0)):=fun s=>make_rows [.int .i64 0] 8 m s (by omega) (by omega)
  have okR:∀ t,okA (.val (.slice u.n 0 m m false) t)=.val (.slice u.n 0 m m false) t:=fun _=>rfl
  have lnR:∀ s,lenSlA s (.slice u.n 0 m m false)=.val (.int .i64 (m:Int)) s:=fun _=>rfl
  have mx:max (0:Int) (m:Int)=(m:Int):=by omega
  rw [enter34]
  simp (disch:=first|omega|(with_unfolding_all exact rfl)|(simp only[new_n,put_n,new_m];omega)|(refine put_m_le ?_;simp only[new_m];omega)) only [res34,K34r0,K34r1,K34r2,K34r3,K34r4,K34r5,K34r6,K34r7,K34r8,K34,Abs.W,reduceIte,Nat.reduceEqDiff,Nat.reduceAdd,decide_true,decide_false,kLoop_def,Nat.reduceSub,List.cons_append,List.nil_append,List.append_nil,List.length_cons,List.length_nil,Env.find_set,Nat.zero_add,kFold_def,foldA_nil,foldA_cons,maxA_i64,mx,kMake_def,mk,okR]
  generalize hlp:loopN _ rounds _ _ _ _ _=r1
  have zr:(List.replicate m [AV.int .i64 0])=natRows (List.replicate m 0):=by unfold natRows intRows;simp
  rw [zr] at hlp
  obtain ⟨e,L1,s1,rfl,rfl,f5,f,hJ⟩:=loop_of hlp (fun i L' t'=>(∃ f,ShufJ u t' d m i f)∧L'.find 0=.ptr d 0∧L'.find 5=.slice u.n 0 m m false∧L'.find 6=.int .i64 i) (fun e L' t'=>e=.exit 0∧L'.find 5=.slice u.n 0 m m false∧∃ f,ShufJ u t' d m m f) m (by unfold rounds;omega)
   ⟨⟨List.replicate m 0,⟨hd.new hlt _,get_new_eq _ _ _ rfl (by omega),fun c h1 h2=>get_new_ne _ _ _ (by omega),rfl,by show d≤u.m;omega,by show u.m≤far;omega,List.length_replicate,⟨fun p hp=>absurd hp (Nat.not_lt_zero p),fun j hj=>absurd hj (Nat.not_lt_zero j)⟩⟩⟩,by simp only [find_cons,Env.find_set,reduceIte,Nat.reduceEqDiff],by simp only [find_cons,Env.find_set,reduceIte,Nat.reduceEqDiff],by simp only [find_cons,Env.find_set,reduceIte,Nat.reduceEqDiff];rfl⟩
   (fun i L' t' hi ⟨⟨f,hJ⟩,q0,q5,q6⟩=>by
    by_cases hlt':i<m
    ·obtain ⟨L2,t2,f1,p1,p2,p3,p4,p5⟩:=shuf_round n (by omega) ⟨34,none,Try.f34.ntmps,X 34⟩ hJ hlt' hm hlt (by omega) q0 q5 q6
     exact .inl ⟨hlt',L2,t2,p1,⟨f1,p2⟩,p3,p4,p5⟩
    ·obtain rfl:i=m:=by omega
     have e1:decide ((i:Int)<(i:Int))=false:=by simp
     refine .inr ⟨.exit 0,L'.set 14 (.bool false),t',by simp,?_,rfl,by simp only [Env.find_set,q5,reduceIte,Nat.reduceEqDiff],f,hJ⟩
     simp (disch:=first|omega|(with_unfolding_all exact rfl)|(simp only[new_n,put_n,new_m];omega)|(refine put_m_le ?_;simp only[new_m];omega)) only [res34,K34r0,K34r1,K34r2,K34r3,K34r4,K34r5,K34r6,K34r7,K34r8,K34,K34l0,Abs.W,reduceIte,Nat.reduceEqDiff,Nat.reduceAdd,decide_true,decide_false,kLoop_def,Nat.reduceSub,List.cons_append,List.nil_append,List.append_nil,List.length_cons,List.length_nil,Env.find_set,q5,q6,okR,lnR,e1,Nat.zero_add])
  simp (disch:=first|omega|(with_unfolding_all exact rfl)|(simp only[new_n,put_n,new_m];omega)|(refine put_m_le ?_;simp only[new_m];omega)) only [res34,K34r0,K34r1,K34r2,K34r3,K34r4,K34r5,K34r6,K34r7,K34r8,K34,Abs.W,reduceIte,Nat.reduceEqDiff,Nat.reduceAdd,decide_true,decide_false,kLoop_def,Nat.reduceSub,List.cons_append,List.nil_append,List.append_nil,List.length_cons,List.length_nil,Env.find_set,f5,okR]
  refine ⟨.slice u.n 0 m m false,s1,rfl,⟨fun c h1 h2=>hJ.same c h1 h2,by have:=hJ.n;omega,by have:=hJ.n;omega,fun _=>hJ.tm,by have:=hJ.mle;omega⟩,rfl,f,hJ.die,hJ.len,hJ.perm,⟨natRows_wide f,false,0,by rw [natRows_len,hJ.len],by have:=hJ.n;omega,hJ.get,fun h=>(by cases h)⟩⟩) (by omega)
 exact ⟨v,f,t,hr.symm.trans e,st,hdt,hfl,hp,hb⟩
end Go.Proofs.Ythbhjgbpjlnbcaa.walk
set_option maxRecDepth 10000
namespace Go.Proofs.Ythbhjgbpjlnbcaa.walk
open Go.Abs Go.Proofs.Ythbhjgbpjlnbcaa.code
def bidI (l:Letting) (st a:Nat):Int × Bool:=bidOf st (reachOf l.stalls (l.appls.getD a ⟨0,0,[],[]⟩))
def yearsI (l:Letting) (a:Nat):Int:=(l.appls.getD a ⟨0,0,[],[]⟩).years
def aheadI (l:Letting) (st:Nat) (dr:Int→Int) (a b:Nat):Bool :=
 bif (decide ((stallAt l.stalls st).heir=a) || decide ((stallAt l.stalls st).heir=b)) then decide ((stallAt l.stalls st).heir=a)
 else bif (decide ((stallAt l.stalls st).rule=3) && !decide ((bidI l st a).1=(bidI l st b).1)) then decide ((bidI l st b).1<(bidI l st a).1)
 else bif (!decide ((stallAt l.stalls st).rule=1) && !decide (yearsI l a=yearsI l b)) then decide (yearsI l b<yearsI l a)
 else decide (dr a<dr b)
theorem bid_ok (N:Nat) (hN:6≤N) {no na:Nat→Prop} {l:Letting} (ok:l.Ok) {vS vA:AV} {a:Nat} (ha:a<l.appls.length) (st:Nat) {s:St} (hL:LetAt no na s.h s.n l vS vA) (hs:s.n+100000≤far) :
  call Try.prog X N (.fn 50) [.agg [vS,vA],.int .i64 (a:Int),.int .i64 (st:Int)] s=.val (.tup [.int .i64 (bidI l st a).1,.bool (bidI l st a).2]) s:=by
 have e:l.appls.getD a ⟨0,0,[],[]⟩=l.appls[a]:=by simp [List.getD,ha]
 unfold bidI
 rw [e]
 exact bidFor_ok N hN ok ha st hL hs
theorem ahead_ok (N:Nat) (hN:7≤N) {no na:Nat→Prop} {l:Letting} (ok:l.Ok) {vS vA:AV} {a b st:Nat} (ha:a<l.appls.length) (hb:b<l.appls.length) (hst:st<l.stalls.length) {s:St} (hL:LetAt no na s.h s.n l vS vA) {mb:Nat} {ps:List (Int × Int)} (hm:s.h.get mb=some (.map (mapV ps))) (hmb:mb<s.n) (hs:s.n+200000≤far) :
  call Try.prog X N (.fn 64) [.agg [vS,vA,.int .i64 (st:Int),.map mb],.int .i64 (a:Int),.int .i64 (b:Int)] s=.val (.bool (aheadI l st (getP ps) a b)) s:=by
 obtain ⟨n,rfl⟩:∃ n,N=n+1:=⟨N - 1,by omega⟩
 refine call_plain' Try.func64 (fun u uh un um=>?_) rfl
 have hf:far=1000000000:=rfl
 rw [← uh,← un] at hL
 rw [← uh] at hm
 rw [← un] at hmb
 have kS:=hL.okS
 have kA:=hL.okV
 obtain ⟨w,hw⟩:∃ w:St,w=u.new (.cells [vS,vA,.int .i64 (st:Int),.map mb] (tag 101)):=⟨_,rfl⟩
 have wn:w.n=u.n+1:=by rw [hw];rfl
 have wm:w.m=far:=by rw [hw];exact um
 have wg:∀ c,c<u.n→w.h.get c=u.h.get c:=fun c hc=>by rw [hw,get_new_ne _ _ _ (by omega)]
 have w0:w.h.get u.n=some (.cells [vS,vA,.int .i64 (st:Int),.map mb] (tag 101)):=by rw [hw];exact get_new_eq _ _ _ rfl (by omega)
 have hLw:=hL.grow wg (by omega:u.n≤w.n)
 obtain ⟨p,o,cs,sz,r1,r2,r3,r4⟩:=hLw.getS hst
 have hst':stallAt l.stalls (st:Int)=l.stalls[st]:=by unfold stallAt;simp [List.getD,hst]
 obtain ⟨_,pa,oa,ca,za,a1,a2,a3,a4,_,_⟩:=hLw.getA ha
 obtain ⟨_,pb,ob,cb,zb,b1,b2,b3,b4,_,_⟩:=hLw.getA hb
 have a5:=cut_nth a4 (show 0<4 by omega)
 have b5:=cut_nth b4 (show 0<4 by omega)
 have n0:∀ (x:AV) (r:List AV),nth (x::r) 0=x:=fun _ _=>rfl
 rw [n0,Nat.add_zero] at a5 b5
 have ya:yearsI l a=l.appls[a].years:=by unfold yearsI;simp [List.getD,ha]
 have yb:yearsI l b=l.appls[b].years:=by unfold yearsI;simp [List.getD,hb]
 obtain ⟨y,hy⟩:∃ y:St,y=(w.new (.cells [.int .i64 0,.int .i64 0,.int .i64 0] (tag 53))).put w.n (.cells [.int .i64 l.stalls[st].rule,.int .i64 l.stalls[st].least,.int .i64 l.stalls[st].heir] (tag 53)):=⟨_,rfl⟩
 have yn:y.n=w.n+1:=by rw [hy];rfl
 have yg:∀ c,c<w.n→y.h.get c=w.h.get c:=fun c hc=>by rw [hy,get_put_ne' _ _ _ _ (by omega),get_new_ne _ _ _ (by omega)]
 have yp:y.h.get w.n=some (.cells [.int .i64 l.stalls[st].rule,.int .i64 l.stalls[st].least,.int .i64 l.stalls[st].heir] (tag 53)):=by rw [hy];exact get_put_eq _ _ _ _ rfl (by omega)
 have ym:u.n≤y.m:=by rw [hy];simp only [St.put,minN_eq,new_m];omega
 have y0:=(yg u.n (by omega)).trans w0
 have ymb:=(yg mb (by omega)).trans ((wg mb hmb).trans hm)
 have ypa:=(yg pa a1).trans a3
 have ypb:=(yg pb b1).trans b3
 have hLy:=hLw.grow yg (by omega:w.n≤y.n)
 have ca':=bid_ok n (by omega) ok ha st hLy (by omega)
 have cb':=bid_ok n (by omega) ok hb st hLy (by omega)
 have la:=fun s (h:s.h.get mb=some (.map (mapV ps)))=>look_map ps (a:Int) mb s h
 have lb:=fun s (h:s.h.get mb=some (.map (mapV ps)))=>look_map ps (b:Int) mb s h
 have ex0:∀ (a b:AV) (s:St),extA 0 s (.tup [a,b])=.val a s:=fun _ _ _=>rfl
 have ex1:∀ (a b:AV) (s:St),extA 1 s (.tup [a,b])=.val b s:=fun _ _ _=>rfl
 unfold aheadI
 rw [hst',ya,yb]
 generalize bidI l st a=ba at ca' ⊢
 generalize bidI l st b=bb at cb' ⊢
 generalize l.stalls[st]=SR at *
 generalize l.appls[a].years=va at *
 generalize l.appls[b].years=vb at *
 have u1:=fun cl L s=>congrFun (congrFun (congrFun K64r2s6.eq_1 cl) L) s
 have u2:=fun cl L s=>congrFun (congrFun (congrFun K64r2s7.eq_1 cl) L) s
 have u3:=fun cl L s=>congrFun (congrFun (congrFun K64r2s8.eq_1 cl) L) s
 have u4:=fun cl L s=>congrFun (congrFun (congrFun K64r2s9.eq_1 cl) L) s
 rw [enter64]
 simp (disch:=first|omega|(with_unfolding_all exact rfl)|(simp only[new_n,put_n,new_m];omega)|(refine put_m_le ?_;simp only[new_m];omega)) only [K64,K64r0,Abs.W,reduceIte,Nat.reduceEqDiff,Nat.reduceAdd,decide_true,decide_false,kLoop_def,Nat.reduceSub,List.cons_append,List.nil_append,List.append_nil,List.length_cons,List.length_nil,Env.find_set]
 rw [← hw]
 simp (disch:=first|omega|(with_unfolding_all exact rfl)|(simp only[new_n,put_n,new_m];omega)|(refine put_m_le ?_;simp only[new_m];omega)) only [K64r1,Abs.W,reduceIte,Nat.reduceEqDiff,Nat.reduceAdd,decide_true,decide_false,kLoop_def,Nat.reduceSub,List.cons_append,List.nil_append,List.append_nil,List.length_cons,List.length_nil,Env.find_set,w0,kS,r2,r3,r4,Nat.zero_add]
 rw [← hy]
 obtain ⟨e1,he1⟩:∃ e,decide (SR.heir=(a:Int))=e:=⟨_,rfl⟩
 obtain ⟨e2,he2⟩:∃ e,decide (SR.heir=(b:Int))=e:=⟨_,rfl⟩
 rw [he1,he2]
 cases e1 with
 | true =>
  simp (disch:=first|omega|(with_unfolding_all exact rfl)|(simp only[new_n,put_n,new_m];omega)|(refine put_m_le ?_;simp only[new_m];omega)) only [K64r2,K64r3,res64,u1,u2,u3,u4,Abs.W,reduceIte,Nat.reduceEqDiff,Nat.reduceAdd,decide_true,decide_false,kLoop_def,Nat.reduceSub,List.cons_append,List.nil_append,List.append_nil,List.length_cons,List.length_nil,Env.find_set,yp,he1,Nat.zero_add]
  exact ⟨_,rfl,ym⟩
 | false =>
  cases e2 with
  | true =>
   simp (disch:=first|omega|(with_unfolding_all exact rfl)|(simp only[new_n,put_n,new_m];omega)|(refine put_m_le ?_;simp only[new_m];omega)) only [K64r2,K64r3,res64,u1,u2,u3,u4,Abs.W,reduceIte,Nat.reduceEqDiff,Nat.reduceAdd,decide_true,decide_false,kLoop_def,Nat.reduceSub,List.cons_append,List.nil_append,List.append_nil,List.length_cons,List.length_nil,Env.find_set,yp,he1,he2,Nat.zero_add]
   exact ⟨_,rfl,ym⟩
  | false =>
   simp (disch:=first|omega|(with_unfolding_all exact rfl)|(simp only[new_n,put_n,new_m];omega)|(refine put_m_le ?_;simp only[new_m];omega)) only [K64r2,K64r4,K64r5,u1,u2,u3,u4,Abs.W,reduceIte,Nat.reduceEqDiff,Nat.reduceAdd,decide_true,decide_false,kLoop_def,Nat.reduceSub,List.cons_append,List.nil_append,List.append_nil,List.length_cons,List.length_nil,Env.find_set,yp,y0,he1,he2,ca',cb',ex0,ex1,Nat.zero_add]
   obtain ⟨e3,he3⟩:∃ e,decide (SR.rule=3)=e:=⟨_,rfl⟩
   obtain ⟨e4,he4⟩:∃ e,decide (ba.1=bb.1)=e:=⟨_,rfl⟩
   obtain ⟨e5,he5⟩:∃ e,decide (SR.rule=1)=e:=⟨_,rfl⟩
   obtain ⟨e6,he6⟩:∃ e,decide (va=vb)=e:=⟨_,rfl⟩
   rw [he3,he4,he5,he6]
   have v1:=fun cl L s=>congrFun (congrFun (congrFun K64r6s5.eq_1 cl) L) s
   have v2:=fun cl L s=>congrFun (congrFun (congrFun K64r6s6.eq_1 cl) L) s
   have v3:=fun cl L s=>congrFun (congrFun (congrFun K64r6s7.eq_1 cl) L) s
   have v5:=fun cl L s=>congrFun (congrFun (congrFun K64r9s5.eq_1 cl) L) s
   have v6:=fun cl L s=>congrFun (congrFun (congrFun K64r9s6.eq_1 cl) L) s
   have v7:=fun cl L s=>congrFun (congrFun (congrFun K64r9s7.eq_1 cl) L) s
   by_cases h34:e3=true∧e4=false
   ·obtain ⟨rfl,rfl⟩:=h34
    simp (disch:=first|omega|(with_unfolding_all exact rfl)|(simp only[new_n,put_n,new_m];omega)|(refine put_m_le ?_;simp only[new_m];omega)) only [K64r6,K64r7,res64,v1,v2,v3,Abs.W,reduceIte,Nat.reduceEqDiff,Nat.reduceAdd,decide_true,decide_false,kLoop_def,Nat.reduceSub,List.cons_append,List.nil_append,List.append_nil,List.length_cons,List.length_nil,Env.find_set,yp,he3,he4,Nat.zero_add]
    exact ⟨_,rfl,ym⟩
   ·have hz:(e3 && !e4)=false:=by cases e3<;>cases e4<;>first | rfl | exact absurd ⟨rfl,rfl⟩ h34
    rw [hz]
    have hcond:∀ z:Abs.R,∀ f:Env→List Nat→St→Abs.R,True:=fun _ _=>trivial
    by_cases h56:e5=false∧e6=false
    ·obtain ⟨rfl,rfl⟩:=h56
     cases e3 with
     | false =>
      simp (disch:=first|omega|(with_unfolding_all exact rfl)|(simp only[new_n,put_n,new_m];omega)|(refine put_m_le ?_;simp only[new_m];omega)) only [K64r6,K64r8,K64r9,K64r10,res64,v1,v2,v3,v5,v6,v7,Abs.W,reduceIte,Nat.reduceEqDiff,Nat.reduceAdd,decide_true,decide_false,kLoop_def,Nat.reduceSub,List.cons_append,List.nil_append,List.append_nil,List.length_cons,List.length_nil,Env.find_set,yp,y0,kA,a2,b2,ypa,ypb,a5,b5,he3,he4,he5,he6,Nat.zero_add,Nat.add_zero]
      exact ⟨_,rfl,ym⟩
     | true =>
      cases e4 with
      | false=>exact absurd ⟨rfl,rfl⟩ h34
      | true =>
       simp (disch:=first|omega|(with_unfolding_all exact rfl)|(simp only[new_n,put_n,new_m];omega)|(refine put_m_le ?_;simp only[new_m];omega)) only [K64r6,K64r8,K64r9,K64r10,res64,v1,v2,v3,v5,v6,v7,Abs.W,reduceIte,Nat.reduceEqDiff,Nat.reduceAdd,decide_true,decide_false,kLoop_def,Nat.reduceSub,List.cons_append,List.nil_append,List.append_nil,List.length_cons,List.length_nil,Env.find_set,yp,y0,kA,a2,b2,ypa,ypb,a5,b5,he3,he4,he5,he6,Nat.zero_add,Nat.add_zero]
       exact ⟨_,rfl,ym⟩
    ·have hz2:(!e5 && !e6)=false:=by cases e5<;>cases e6<;>first | rfl | exact absurd ⟨rfl,rfl⟩ h56
     rw [hz2]
     cases e3<;>cases e4<;>first | exact absurd ⟨rfl,rfl⟩ h34 | skip
     all_goals
      cases e5<;>cases e6<;>first | exact absurd ⟨rfl,rfl⟩ h56 | skip
     all_goals
      simp (disch:=first|omega|(with_unfolding_all exact rfl)|(simp only[new_n,put_n,new_m];omega)|(refine put_m_le ?_;simp only[new_m];omega)) only [K64r6,K64r8,K64r9,K64r11,res64,v1,v2,v3,v5,v6,v7,Abs.W,reduceIte,Nat.reduceEqDiff,Nat.reduceAdd,decide_true,decide_false,kLoop_def,Nat.reduceSub,List.cons_append,List.nil_append,List.append_nil,List.length_cons,List.length_nil,Env.find_set,yp,y0,ymb,kA,a2,b2,ypa,ypb,a5,b5,he3,he4,he5,he6,okA_map,kLookE,la,lb,Nat.zero_add,Nat.add_zero]
      exact ⟨_,rfl,ym⟩
theorem able_ok (N:Nat) (hN:7≤N) {no na:Nat→Prop} {l:Letting} (ok:l.Ok) {vS vA:AV} {a st p1 p2:Nat} (ha:a<l.appls.length) {s:St} (hL:LetAt no na s.h s.n l vS vA) (g1:s.h.get p1=some (.cells [vS,vA] (tag 28))) (g2:s.h.get p2=some (.cells [.int .i64 (st:Int)] (tag 3))) (hs:s.n+200000≤far) :
  call Try.prog X N (.fn 62) [.int .i64 (a:Int),.ptr p1 0,.ptr p2 0] s=.val (.bool !(bidI l st a).2) s:=by
 obtain ⟨n,rfl⟩:∃ n,N=n+1:=⟨N - 1,by omega⟩
 refine call_plain' Try.func62 (fun u uh un um=>?_) rfl
 have hf:far=1000000000:=rfl
 rw [← uh,← un] at hL
 rw [← uh] at g1 g2
 have ca:=bid_ok n (by omega) ok ha st hL (by omega)
 have ex0:∀ (a b:AV) (s:St),extA 0 s (.tup [a,b])=.val a s:=fun _ _ _=>rfl
 have ex1:∀ (a b:AV) (s:St),extA 1 s (.tup [a,b])=.val b s:=fun _ _ _=>rfl
 rw [enter62]
 simp (disch:=first|omega|(with_unfolding_all exact rfl)|(simp only[new_n,put_n,new_m];omega)|(refine put_m_le ?_;simp only[new_m];omega)) only [res62,K62r0,K62r1,K62r2,K62,Abs.W,reduceIte,Nat.reduceEqDiff,Nat.reduceAdd,decide_true,decide_false,kLoop_def,Nat.reduceSub,List.cons_append,List.nil_append,List.append_nil,List.length_cons,List.length_nil,Env.find_set,g1,g2,ca,ex0,ex1,Nat.zero_add]
 exact ⟨_,rfl,by omega⟩
theorem everybody_ex {N:Nat} {no na:Nat→Prop} {l:Letting} {vS vA:AV} {s:St} {r:ARes} (hr:call Try.prog X N (.fn 41) [.agg (letV vS vA)] s=r) (hN:1≤N) (ok:l.Ok) (hL:LetAt no na s.h s.n l vS vA) (hs:s.n+100≤far) :
  ∃ t,r=.val (.slice (s.n+1) 0 l.appls.length l.appls.length false) t∧New s t 2∧t.n=s.n+2∧t.h.get (s.n+1)=some (.cells (natRows (List.range l.appls.length)).flatten 0):=by
 obtain ⟨n,rfl⟩:∃ n,N=n+1:=⟨N - 1,by omega⟩
 have hf:far=1000000000:=rfl
 obtain ⟨v,t,e,st,rfl,hq,hg⟩:=call_new (n:=n) (args:=[.agg (letV vS vA)]) (s:=s) (k:=2) (Q:=fun v h n=>v=.slice (s.n+1) 0 l.appls.length l.appls.length false∧n=s.n+2∧h.get (s.n+1)=some (.cells (natRows (List.range l.appls.length)).flatten 0)) Try.func41 rfl (fun u uh un um=>by
  rw [← uh,← un] at hL
  rw [← un]
  have m1:=ok.m1
  have kA:=hL.okV
  have lA:=hL.lenA
  obtain ⟨m,hm⟩:∃ m,m=l.appls.length:=⟨_,rfl⟩
  rw [← hm] at lA m1 ⊢
  obtain ⟨w,hw⟩:∃ w:St,w=u.new (.cells [vS,vA] (tag 28)):=⟨_,rfl⟩
  have wn:w.n=u.n+1:=by rw [hw];rfl
  have wm:w.m=far:=by rw [hw];exact um
  have wg:∀ c,c<u.n→w.h.get c=u.h.get c:=fun c hc=>by rw [hw,get_new_ne _ _ _ (by omega)]
  have w0:w.h.get u.n=some (.cells [vS,vA] (tag 28)):=by rw [hw];exact get_new_eq _ _ _ rfl (by omega)
  have mk:∀ s:St,makeA [.int .i64 0] 8 s (.int .i64 (m:Int)) (.int .i64 (m:Int))=.val (.slice s.n 0 m m false) (s.new (.cells (List.replicate m [.int .i64 0]).flatten 0)):=fun s=>make_rows [.int .i64 0] 8 m s (by omega) (by omega)
  have zr:(List.replicate m [AV.int .i64 0])=natRows (List.replicate m 0):=by unfold natRows intRows;simp
  rw [zr] at mk
  rw [enter41]
  simp (disch:=first|omega|(with_unfolding_all exact rfl)|(simp only[new_n,put_n,new_m];omega)|(refine put_m_le ?_;simp only[new_m];omega)) only [K41,K41r0,Abs.W,reduceIte,Nat.reduceEqDiff,Nat.reduceAdd,decide_true,decide_false,kLoop_def,Nat.reduceSub,List.cons_append,List.nil_append,List.append_nil,List.length_cons,List.length_nil]
  rw [← hw]
  simp (disch:=first|omega|(with_unfolding_all exact rfl)|(simp only[new_n,put_n,new_m];omega)|(refine put_m_le ?_;simp only[new_m];omega)) only [K41r1,K41r2,Abs.W,reduceIte,Nat.reduceEqDiff,Nat.reduceAdd,decide_true,decide_false,kLoop_def,Nat.reduceSub,List.cons_append,List.nil_append,List.append_nil,List.length_cons,List.length_nil,Env.find_set,w0,kA,lA,kMake_def,mk,Nat.zero_add]
  generalize hlp:loopN _ rounds _ _ _ _ _=q1
  obtain ⟨e,L1,s1,rfl,rfl,f3,hg,hn,hs1,hm1,hm2⟩:=loop_of hlp (fun i L t=>L.find 3=.slice (u.n+1) 0 m m false∧L.find 10=.int .i64 (m:Int)∧L.find 11=.int .i64 (i:Nat)∧t.h.get (u.n+1)=some (.cells (natRows (List.range i++List.replicate (m - i) 0)).flatten 0)∧t.n=u.n+2∧(∀ c,c<u.n→t.h.get c=u.h.get c)∧u.n≤t.m∧t.m≤far)
   (fun e L t=>e=.exit 0∧L.find 3=.slice (u.n+1) 0 m m false∧t.h.get (u.n+1)=some (.cells (natRows (List.range m)).flatten 0)∧t.n=u.n+2∧(∀ c,c<u.n→t.h.get c=u.h.get c)∧u.n≤t.m∧t.m≤far) m (by unfold rounds;omega)
   ⟨by simp only [find_cons,Env.find_set,wn,reduceIte,Nat.reduceEqDiff],by simp only [find_cons,Env.find_set,reduceIte,Nat.reduceEqDiff],by simp only [find_cons,Env.find_set,reduceIte,Nat.reduceEqDiff];rfl,by
    rw [← wn]
    exact get_new_eq _ _ _ rfl (by omega),by rw [new_n];omega,fun c hc=>by rw [get_new_ne _ _ _ (by omega)];exact wg c hc,by rw [new_m];omega,by rw [new_m];omega⟩
   (fun i L t hi ⟨q3,q10,q11,hg,hn,hsm,hm1,hm2⟩=>by
    by_cases hlt:i<m
    ·have e0:decide ((i:Int)<(m:Int))=true:=decide_eq_true (by omega)
     have ix:=fun s=>ixs_slice 1 s (u.n+1) 0 m m false i hlt
     have ov:=natRows_over (f:=List.range i++List.replicate (m - i) 0) (k:=i) (by rw [List.length_append,List.length_range,List.length_replicate];omega) i
     have ov2:(List.range i++List.replicate (m - i) 0).set i i=List.range (i+1)++List.replicate (m - (i+1)) 0:=by
      obtain ⟨k,hk⟩:∃ k,m - i=k+1:=⟨m - i - 1,by omega⟩
      rw [hk,List.set_append_right _ _ (by rw [List.length_range];omega),List.length_range,Nat.sub_self,List.replicate_succ,List.set_cons_zero,List.range_succ,List.append_assoc,show m - (i+1)=k by omega]
      rfl
     rw [ov2] at ov
     have ad:∀ s,aAdd s .i64 (i:Int) 1=.val (.int .i64 ((i:Int)+1)) s:=fun s=>aAdd_i64 s _ _ (by omega)
     refine .inl ⟨hlt,_,_,by
      simp (disch:=first|omega|(with_unfolding_all exact rfl)|(simp only[new_n,put_n,new_m];omega)|(refine put_m_le ?_;simp only[new_m];omega)) only [res41,K41r0,K41r1,K41r2,K41r3,K41r4,K41r5,K41r6,K41r7,K41,K41l0,Abs.W,reduceIte,Nat.reduceEqDiff,Nat.reduceAdd,decide_true,decide_false,kLoop_def,Nat.reduceSub,List.cons_append,List.nil_append,List.append_nil,List.length_cons,List.length_nil,Env.find_set,q3,q10,q11,e0,ix,hg,ov,ad,Nat.zero_add,Nat.mul_one]
      rfl,?_,?_,?_,get_put_eq _ _ _ _ rfl (by omega),by rw [put_n];exact hn,fun c hc=>by rw [get_put_ne' _ _ _ _ (by omega)];exact hsm c hc,by simp only [St.put,minN_eq];omega,by simp only [St.put,minN_eq];omega⟩
     ·simp only [Env.find_set,q3,reduceIte,Nat.reduceEqDiff]
     ·simp only [Env.find_set,q10,reduceIte,Nat.reduceEqDiff]
     ·simp only [Env.find_set,reduceIte,Nat.reduceEqDiff];rfl
    ·obtain rfl:i=m:=by omega
     have e0:decide ((i:Int)<(i:Int))=false:=by simp
     rw [Nat.sub_self,List.replicate_zero,List.append_nil] at hg
     refine .inr ⟨.exit 0,L.set 12 (.bool false),t,by simp,?_,rfl,?_,hg,hn,hsm,hm1,hm2⟩
     ·simp (disch:=first|omega|(with_unfolding_all exact rfl)|(simp only[new_n,put_n,new_m];omega)|(refine put_m_le ?_;simp only[new_m];omega)) only [res41,K41r0,K41r1,K41r2,K41r3,K41r4,K41r5,K41r6,K41r7,K41,K41l0,Abs.W,reduceIte,Nat.reduceEqDiff,Nat.reduceAdd,decide_true,decide_false,kLoop_def,Nat.reduceSub,List.cons_append,List.nil_append,List.append_nil,List.length_cons,List.length_nil,Env.find_set,q10,q11,e0]
     ·simp only [Env.find_set,q3,reduceIte,Nat.reduceEqDiff])
  simp (disch:=first|omega|(with_unfolding_all exact rfl)|(simp only[new_n,put_n,new_m];omega)|(refine put_m_le ?_;simp only[new_m];omega)) only [res41,K41r0,K41r1,K41r2,K41r3,K41r4,K41r5,K41r6,K41r7,K41,Abs.W,reduceIte,Nat.reduceEqDiff,Nat.reduceAdd,decide_true,decide_false,kLoop_def,Nat.reduceSub,List.cons_append,List.nil_append,List.append_nil,List.length_cons,List.length_nil,Env.find_set,f3]
  exact ⟨_,_,rfl,⟨hs1,by omega,by omega,hm1,hm2⟩,rfl,rfl,hn,hg⟩)
 exact ⟨t,hr.symm.trans e,st,hq,hg⟩
end Go.Proofs.Ythbhjgbpjlnbcaa.walk
