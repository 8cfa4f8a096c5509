/- Maps from numbers to numbers. -/
import Derived.Test.YtbcjojljiochfaaAbsOps
import Derived.Test.YtbcjojljiochfaaM4
import Derived.Test.YtbcjojljiochfaaM3
import Derived.Test.YtbcjojljiochfaaWalkAll
set_option linter.unusedSimpArgs false
set_option maxHeartbeats 16000000
set_option linter.unusedVariables false
namespace Go.Abs
def getP:List (Int × Int)→Int→Int
 | [],_=>0
 | (a,v)::r,k=>if k=a then v else getP r k
def putP:List (Int × Int)→Int→Int→List (Int × Int)
 | [],k,v=>[(k,v)]
 | (a,w)::r,k,v=>if k=a then (k,v)::r else (a,w)::putP r k v
theorem getP_putP (k v k':Int):∀ ps:List (Int × Int),getP (putP ps k v) k'=if k'=k then v else getP ps k'
 | []=>rfl
 | (a,w)::r=>by
  unfold putP
  by_cases h:k=a
  ·subst h
   rw [if_pos rfl]
   show (if k'=k then v else getP r k')=if k'=k then v else if k'=k then w else getP r k'
   by_cases h2:k'=k
   ·rw [if_pos h2,if_pos h2]
   ·rw [if_neg h2,if_neg h2,if_neg h2]
  ·rw [if_neg h]
   show (if k'=a then w else getP (putP r k v) k')=if k'=k then v else if k'=a then w else getP r k'
   rw [getP_putP k v k' r]
   by_cases h2:k'=a
   ·rw [if_pos h2,if_pos h2,if_neg (by omega)]
   ·rw [if_neg h2,if_neg h2]
def mapV (ps:List (Int × Int)):List (AV × AV):=ps.map fun p=>(.int .i64 p.1,.int .i64 p.2)
theorem eq_ints (a b:Int):Cmp.eq .int (.int .i64 a) (.int .i64 b)=some (decide (a=b)):=by
 show (if IntKind.i64=IntKind.i64 then some (eqI a b) else none)=_
 rw [if_pos rfl,eqI_eq]
 congr 1
theorem keyOk_int (k:Int):keyOk .int (.int .i64 k)=true:=by
 unfold keyOk
 rw [eq_ints,decide_eq_true rfl]
def idxP:List (Int × Int)→Int→Option Nat
 | [],_=>none
 | (a,_)::r,k=>if k=a then some 0 else (idxP r k).map (·+1)
theorem find_map (k:Int):∀ (ps:List (Int × Int)) (i:Nat),findA .int (.int .i64 k) (mapV ps) i=some ((idxP ps k).map fun j=>(i+j,.int .i64 (getP ps k)))
 | [],_=>rfl
 | (a,w)::r,i=>by
  show (match Cmp.eq .int (.int .i64 k) (.int .i64 a) with | some true=>some (some (i,AV.int .i64 w)) | some false=>findA .int (.int .i64 k) (mapV r) (Nat.succ i) | none=>none)=_
  rw [eq_ints]
  unfold idxP getP
  by_cases h:k=a
  ·rw [decide_eq_true h,if_pos h,if_pos h];rfl
  ·rw [decide_eq_false h,if_neg h,if_neg h]
   show findA .int (.int .i64 k) (mapV r) (Nat.succ i)=_
   rw [find_map k r (Nat.succ i),Option.map_map]
   congr 1
   cases idxP r k with
   | none=>rfl
   | some j =>
   show some (Nat.succ i+j,AV.int .i64 (getP r k))=some (i+(j+1),.int .i64 (getP r k))
   rw [show Nat.succ i+j=i+(j+1) by omega]
theorem idx_none (k:Int):∀ ps:List (Int × Int),idxP ps k=none→getP ps k=0∧∀ v,mapV (putP ps k v)=mapV ps++[(.int .i64 k,.int .i64 v)]
 | [],_=>⟨rfl,fun _=>rfl⟩
 | (a,w)::r,h=>by
  unfold idxP at h
  by_cases h2:k=a
  ·rw [if_pos h2] at h;cases h
  ·rw [if_neg h2] at h
   have h3:idxP r k=none:=by
    cases hh:idxP r k with
    | none=>rfl
    | some j=>rw [hh] at h;cases h
   obtain ⟨e1,e2⟩:=idx_none k r h3
   refine ⟨by unfold getP;rw [if_neg h2];exact e1,fun v=>?_⟩
   unfold putP
   rw [if_neg h2]
   show (AV.int .i64 a,AV.int .i64 w)::mapV (putP r k v)=_
   rw [e2 v]
   rfl
theorem idx_some (k:Int):∀ (ps:List (Int × Int)) (j:Nat),idxP ps k=some j→keyAt (mapV ps) j=.int .i64 k∧∀ v,mapV (putP ps k v)=setNth (mapV ps) j (.int .i64 k,.int .i64 v)
 | [],_,h=>by cases h
 | (a,w)::r,j,h=>by
  unfold idxP at h
  by_cases h2:k=a
  ·subst h2
   rw [if_pos rfl] at h
   injection h with h
   subst h
   exact ⟨rfl,fun v=>by unfold putP;rw [if_pos rfl];rfl⟩
  ·rw [if_neg h2] at h
   cases hh:idxP r k with
   | none=>rw [hh] at h;cases h
   | some i =>
    rw [hh] at h
    injection h with h
    subst h
    obtain ⟨e1,e2⟩:=idx_some k r i hh
    exact ⟨e1,fun v=>by
     unfold putP
     rw [if_neg h2]
     show (AV.int .i64 a,AV.int .i64 w)::mapV (putP r k v)=_
     rw [e2 v]
     rfl⟩
theorem look_map (ps:List (Int × Int)) (k:Int) (b:Nat) (s:St) (h:s.h.get b=some (.map (mapV ps))):lookA .int (.int .i64 0) false s (.int .i64 k) (.map b)=.val (.int .i64 (getP ps k)) s:=by
 unfold lookA
 simp only [h,keyOk_int,find_map]
 cases hh:idxP ps k with
 | none=>rw [(idx_none k ps hh).1];rfl
 | some j=>rfl
theorem sameA_int (k:Int):sameA (.int .i64 k) (.int .i64 k)=true:=by
 show (match Nat.beq (kindNo .i64) (kindNo .i64) with | true=>eqI k k | false=>false)=true
 show eqI k k=true
 rw [eqI_eq,beq_self_eq_true]
theorem upd_map (ps:List (Int × Int)) (k v:Int) (b:Nat) (s:St) (h:s.h.get b=some (.map (mapV ps))):updA .int s (.int .i64 k) (.int .i64 v) (.map b)=.val .undef (s.put b (.map (mapV (putP ps k v)))):=by
 unfold updA
 simp only [h,keyOk_int,find_map]
 cases hh:idxP ps k with
 | none=>rw [(idx_none k ps hh).2 v];rfl
 | some j =>
  obtain ⟨e1,e2⟩:=idx_some k ps j hh
  simp only [Option.map_some,Nat.zero_add,e1,sameA_int,e2 v]
theorem kLookE (c:Cmp) (z:AV) (ok:Bool) (m k:Arg) (L:Env) (s:St):kLook c z ok m k L s=lookA c z ok s (k.ev L) (m.ev L):=Eq.trans (Eq.refl _) (Eq.refl _)
noncomputable def updK (c:Cmp) (s:St) (k v m:AV):ARes:=match known v with
 | true=>updA c s k v m
 | false=>.fail
theorem kUpdE (c:Cmp) (m k v:Arg) (L:Env) (s:St):kUpd c m k v L s=updK c s (k.ev L) (v.ev L) (m.ev L):=Eq.trans (Eq.refl _) (Eq.refl _)
theorem kMapE (L:Env) (s:St):kMap L s=.val (.map s.n) (s.new (.map (mapV []))):=rfl
end Go.Abs
set_option maxRecDepth 10000
namespace Go.Abs
theorem leave_cells2 {P:Program} (a b:Nat) (t u:TypeId) (L:Env) (s:St) {sh sh':Option Nat} (hs:shapeT P t=some sh) (hs':shapeT P u=some sh') {v w:AV} (h:okA (loadA sh s (L.find a))=.val v s) (h':okA (loadA sh' s (L.find b))=.val w s):leaveA P [.cell a t,.cell b u] L [] s=.val (.tup [v,w]) s:=by
 unfold leaveA
 simp only [takeDfs,resultsA,hs,h,hs',h']
 rfl
theorem cellsOf_bool (b:Bool):cellsOf 1 (.bool b)=some [.bool b]:=Eq.trans (Eq.refl _) (Eq.refl _)
theorem okA_map (b:Nat) (s:St):okA (.val (.map b) s)=.val (.map b) s:=Eq.trans (Eq.refl _) (Eq.refl _)
end Go.Abs
namespace Go.Proofs.Ytbcjojljiochfaa.walk
open Go.Abs Go.Proofs.Ytbcjojljiochfaa.code
def bidOf (st:Int):List (Int × Int)→Int × Bool
 | []=>(0,false)
 | x::r=>if x.1=st then (x.2,true) else bidOf st r
theorem bidOf_app (st:Int):∀ {p:List (Int × Int)} (q:List (Int × Int)),(∀ y ∈ p,y.1≠st)→bidOf st (p++q)=bidOf st q
 | [],_,_=>rfl
 | x::p,q,h=>by
  rw [List.cons_append]
  show (if x.1=st then (x.2,true) else bidOf st (p++q))=_
  rw [if_neg (h x (List.mem_cons_self ..))]
  exact bidOf_app st q fun y hy=>h y (List.mem_cons_of_mem _ hy)
theorem LetAt.bound {no na:Nat→Prop} {h:Heap} {n:Nat} {l:Letting} {vS vA:AV} (r:LetAt no na h n l vS vA):LetAt (fun y=>no y∧y<n) (fun y=>na y∧y<n) h n l vS vA:=r.move (fun _ h1 h2=>⟨rfl,h2,h1⟩) (fun _ h1 h2=>⟨rfl,h2,h1⟩) (Nat.le_refl _)
theorem bidFor_ok (N:Nat) (hN:6≤N) {no na:Nat→Prop} {l:Letting} (ok:l.Ok) {vS vA:AV} {a:Nat} (ha:a<l.appls.length) (st:Int) {s:St} (hL:LetAt no na s.h s.n l vS vA) (hs:s.n+100000≤far) :
  call Try.prog X N (.fn 50) [.agg (letV vS vA),.int .i64 (a:Int),.int .i64 st] s=.val (.tup [.int .i64 (bidOf st (reachOf l.stalls l.appls[a])).1,.bool (bidOf st (reachOf l.stalls l.appls[a])).2]) s:=by
 obtain ⟨M,rfl⟩:∃ M,N=M+5:=⟨N - 5,by omega⟩
 have hf:far=1000000000:=rfl
 refine call_plain' (n:=M+4) Try.func50 (fun u uh un um=>?_) rfl
 rw [← uh,← un] at hL
 obtain ⟨w,hw⟩:∃ w:St,w=(((u.new (.cells [vS,vA] (tag 28))).new (.cells [.int .i64 st] (tag 3))).new (.cells [.int .i64 0] (tag 3))).new (.cells [.bool false] (tag 4)):=⟨_,rfl⟩
 have wn:w.n=u.n+4:=by rw [hw];rfl
 have wm:w.m=far:=by rw [hw];exact um
 have wg:∀ c,c<u.n→w.h.get c=u.h.get c:=fun c hc=>by rw [hw,get_new_ne _ _ _ (by simp only [new_n];omega),get_new_ne _ _ _ (by simp only [new_n];omega),get_new_ne _ _ _ (by simp only [new_n];omega),get_new_ne _ _ _ (by omega)]
 have w0:w.h.get u.n=some (.cells [vS,vA] (tag 28)):=by rw [hw,get_new_ne _ _ _ (by simp only [new_n];omega),get_new_ne _ _ _ (by simp only [new_n];omega),get_new_ne _ _ _ (by simp only [new_n];omega)];exact get_new_eq _ _ _ rfl (by omega)
 have w1:w.h.get (u.n+1)=some (.cells [.int .i64 st] (tag 3)):=by rw [hw,get_new_ne _ _ _ (by simp only [new_n];omega),get_new_ne _ _ _ (by simp only [new_n];omega)];exact get_new_eq _ _ _ rfl (by simp only [new_n];omega)
 have w2:w.h.get (u.n+2)=some (.cells [.int .i64 0] (tag 3)):=by rw [hw,get_new_ne _ _ _ (by simp only [new_n];omega)];exact get_new_eq _ _ _ rfl (by simp only [new_n];omega)
 have w3:w.h.get (u.n+3)=some (.cells [.bool false] (tag 4)):=by rw [hw];exact get_new_eq _ _ _ rfl (by simp only [new_n];omega)
 have re:=reach_ok (M+4) (by omega) [vS,vA] (a:Int) w (by omega)
 obtain ⟨s0,hs0⟩:∃ s0:St,s0=(w.new (.cells [vS,vA] (tag 28))).new (.cells [.int .i64 (a:Int)] (tag 3)):=⟨_,rfl⟩
 have s0n:s0.n=u.n+6:=by rw [hs0];show w.n+1+1=_;omega
 have s0m:s0.m=far:=by rw [hs0];exact wm
 have s0g:∀ c,c<w.n→s0.h.get c=w.h.get c:=fun c hc=>by rw [hs0,get_new_ne _ _ _ (by rw [new_n];omega),get_new_ne _ _ _ (by omega)]
 have s00:s0.h.get (u.n+4)=some (.cells [vS,vA] (tag 28)):=by rw [hs0,get_new_ne _ _ _ (by rw [new_n];omega)];exact get_new_eq _ _ _ (by omega) (by omega)
 have s01:s0.h.get (u.n+5)=some (.cells [.int .i64 (a:Int)] (tag 3)):=by rw [hs0];exact get_new_eq _ _ _ (by rw [new_n];omega) (by rw [new_n];omega)
 rw [← hs0,wn] at re
 rw [enter50]
 simp (disch:=first|omega|(with_unfolding_all exact rfl)|(simp only[new_n,put_n,new_m];omega)|(refine put_m_le ?_;simp only[new_m];omega)) only [K50,K50r0,Abs.W,reduceIte,Nat.reduceEqDiff,Nat.reduceAdd,decide_true,decide_false,kLoop_def,Nat.reduceSub,List.cons_append,List.nil_append,List.append_nil,List.length_cons,List.length_nil,Env.find_set,boxIntE]
 rw [← hw]
 simp (disch:=first|omega|(with_unfolding_all exact rfl)|(simp only[new_n,put_n,new_m];omega)|(refine put_m_le ?_;simp only[new_m];omega)) only [K50r1,new_n,Abs.W,reduceIte,Nat.reduceEqDiff,Nat.reduceAdd,decide_true,decide_false,kLoop_def,Nat.reduceSub,List.cons_append,List.nil_append,List.append_nil,List.length_cons,List.length_nil,Env.find_set,w0,re,Nat.zero_add]
 clear re hs0 hw
 generalize hL0:Env.cons 0 _ _=L0
 have f5:L0.find 5=.ptr (u.n+1) 0:=by rw [← hL0];simp only [find_cons,reduceIte,Nat.reduceEqDiff]
 have f6:L0.find 6=.ptr (u.n+2) 0:=by rw [← hL0];simp only [find_cons,reduceIte,Nat.reduceEqDiff]
 have f7:L0.find 7=.ptr (u.n+3) 0:=by rw [← hL0];simp only [find_cons,reduceIte,Nat.reduceEqDiff]
 have f12:L0.find 12=.func 56 [] [.ptr (u.n+4) 0,.ptr (u.n+5) 0]:=by rw [← hL0];simp only [find_cons,reduceIte,Nat.reduceEqDiff]
 clear hL0
 have hLb:=hL.bound.move (h':=s0.h) (n':=u.n) (no':=fun y=>no y∧y<u.n) (na':=fun y=>na y∧y<u.n) (fun b h1 h2=>⟨(s0g b (by omega)).trans (wg b h1),h2⟩) (fun b h1 h2=>⟨(s0g b (by omega)).trans (wg b h1),h2⟩) (Nat.le_refl _)
 have hh:=reach1_hands (N:=M+1) (p1:=u.n+4) (p2:=u.n+5) (H:=s0.h) (rd:=fun y=>y=u.n+4∨y=u.n+5∨(no y∧y<u.n)∨(na y∧y<u.n)) ok hLb ha s00 s01 (.inl rfl) (.inr (.inl rfl)) (fun y h=>.inr (.inr (.inl h))) (fun y h=>.inr (.inr (.inr h)))
 generalize reachOf l.stalls l.appls[a]=T at hh ⊢
 obtain ⟨e,s',e1,hE,e3,e4,e5,e6,e7,e8⟩:=hands_range (P:=Try.prog) (X:=X) (M:=M) (Z:=M+4) hh (f:=.tmp 12) (ps:=[13,14]) (c:=⟨50,none,Try.f50.ntmps,X 50⟩) (L:=L0) (d:=[]) (s:=s0) rfl (by rw [ev_tmp,f12]) (fun _=>rfl) code50a0 code50b0 10 (u.n+2) 10 (fun y=>y=u.n+2∨y=u.n+3) (fun _ _=>True) (fun _ _ _ _ _=>trivial) (fun _=>trivial)
  (fun p h n=>h.get (u.n+2)=some (.cells [.int .i64 0] (tag 3))∧h.get (u.n+3)=some (.cells [.bool false] (tag 4))∧∀ y ∈ p,y.1≠st) (fun e p x _ h n=>e=.ret∧x.1=st∧h.get (u.n+2)=some (.cells [.int .i64 x.2] (tag 3))∧h.get (u.n+3)=some (.cells [.bool true] (tag 4))∧∀ y ∈ p,y.1≠st)
  (fun y hy=>⟨by omega,rfl⟩) (fun y hy=>⟨by omega,by omega⟩) (by omega) (by omega) (by omega) (by omega) ⟨(s0g _ (by omega)).trans w2,(s0g _ (by omega)).trans w3,fun _ h=>by cases h⟩
  (fun p h h' n n' hb hn ⟨h1,h2,h3⟩=>⟨(hb _ (by omega)).trans h1,(hb _ (by omega)).trans h2,h3⟩)
  (fun e p x k h h' n n' hb hn ⟨h0,h1,h2,h3,h4⟩=>⟨h0,h1,(hb _ (by omega)).trans h2,(hb _ (by omega)).trans h3,h4⟩)
  (fun p x rest t ht ⟨p2,p3,p4⟩ hfr htn htf htm htm' _=>by
   obtain ⟨z0,hz0⟩:∃ z0:St,z0=t.put (s0.n+1) (.loop { loopO ⟨50,none,Try.f50.ntmps,X 50⟩ L0 [13,14] (rangeAt Try.f50 0).1 (rangeAt Try.f50 0).2 s0 with state:=.busy }):=⟨_,rfl⟩
   have zn:z0.n=t.n:=by rw [hz0];rfl
   have zm:z0.m=min t.m (s0.n+1):=by rw [hz0];simp only [St.put,minN_eq]
   have zg:∀ c,c≠s0.n+1→z0.h.get c=t.h.get c:=fun c hc=>by rw [hz0,get_put_ne' _ _ _ _ hc]
   have zl:z0.h.get (s0.n+1)=some (.loop { loopO ⟨50,none,Try.f50.ntmps,X 50⟩ L0 [13,14] (rangeAt Try.f50 0).1 (rangeAt Try.f50 0).2 s0 with state:=.busy }):=by rw [hz0];exact get_put_eq _ _ _ _ rfl (by omega)
   have z1:=(zg (u.n+1) (by omega)).trans ((hfr (u.n+1) (by omega) (by omega)).trans ((s0g _ (by omega)).trans w1))
   have z2:=(zg (u.n+2) (by omega)).trans p2
   have z3:=(zg (u.n+3) (by omega)).trans p3
   obtain ⟨xs,xb⟩:=x
   have hass:K50a0 (call Try.prog X M) ⟨50,some (s0.n+1),Try.f50.ntmps,X 50⟩ (setParams L0 [13,14] (ev2 (xs,xb))) [] t=.done .norm ((((L0.set 13 (.int .i64 xs)).set 14 (.int .i64 xb)).set 8 (.int .i64 xs)).set 9 (.int .i64 xb)) [] t:=by
    simp (disch:=first|omega|(with_unfolding_all exact rfl)|(simp only[new_n,put_n,new_m];omega)|(refine put_m_le ?_;simp only[new_m];omega)) only [K50a0,K50a0r0,K50a0r1,ev2,setParams2,Abs.W,reduceIte,Nat.reduceEqDiff,Nat.reduceAdd,decide_true,decide_false,kLoop_def,Nat.reduceSub,List.cons_append,List.nil_append,List.append_nil,List.length_cons,List.length_nil,Env.find_set,Nat.reduceEqDiff]
   obtain ⟨L1,hL1⟩:∃ L1,L1=((((L0.set 13 (.int .i64 xs)).set 14 (.int .i64 xb)).set 8 (.int .i64 xs)).set 9 (.int .i64 xb)):=⟨_,rfl⟩
   rw [← hL1] at hass
   have l5:L1.find 5=.ptr (u.n+1) 0:=by rw [hL1];simp only [Env.find_set,f5,reduceIte,Nat.reduceEqDiff]
   have l6:L1.find 6=.ptr (u.n+2) 0:=by rw [hL1];simp only [Env.find_set,f6,reduceIte,Nat.reduceEqDiff]
   have l7:L1.find 7=.ptr (u.n+3) 0:=by rw [hL1];simp only [Env.find_set,f7,reduceIte,Nat.reduceEqDiff]
   have l8:L1.find 8=.int .i64 xs:=by rw [hL1];simp only [Env.find_set,reduceIte,Nat.reduceEqDiff]
   have l9:L1.find 9=.int .i64 xb:=by rw [hL1];simp only [Env.find_set,reduceIte,Nat.reduceEqDiff]
   clear hL1
   refine ⟨L1,t,?_⟩
   rw [hass,← hz0]
   by_cases hx:xs=st
   ·have d1:decide (xs=st)=true:=decide_eq_true hx
    simp (disch:=first|omega|(with_unfolding_all exact rfl)|(simp only[new_n,put_n,new_m];omega)|(refine put_m_le ?_;simp only[new_m];omega)) only [K50b0,K50b0r0,K50b0r1,Abs.W,reduceIte,Nat.reduceEqDiff,Nat.reduceAdd,decide_true,decide_false,kLoop_def,Nat.reduceSub,List.cons_append,List.nil_append,List.append_nil,List.length_cons,List.length_nil,Env.find_set,l5,l6,l7,l8,l9,z1,z2,z3,d1,cellsOf_bool,Nat.zero_add]
    refine ⟨.ret,_,_,trivial,trivial,rfl,fun h=>(by cases h),fun _=>⟨rfl,hx,?_,get_put_eq _ _ _ _ rfl (by omega),p4⟩,?_,fun c h1 h2 h3=>?_,by simp only [put_n];omega,by simp only [put_n];omega,?_,?_,trivial⟩
    ·rw [get_put_ne' _ _ _ _ (by omega)];exact get_put_eq _ _ _ _ rfl (by omega)
    ·rw [get_put_ne' _ _ _ _ (by omega),get_put_ne' _ _ _ _ (by omega)];exact zl
    ·rw [get_put_ne' _ _ _ _ (by omega),get_put_ne' _ _ _ _ (by omega)];exact zg c h2
    ·simp only [St.put,minN_eq];omega
    ·simp only [St.put,minN_eq];omega
   ·have d1:decide (xs=st)=false:=decide_eq_false hx
    simp (disch:=first|omega|(with_unfolding_all exact rfl)|(simp only[new_n,put_n,new_m];omega)|(refine put_m_le ?_;simp only[new_m];omega)) only [K50b0,K50b0r0,K50b0r1,Abs.W,reduceIte,Nat.reduceEqDiff,Nat.reduceAdd,decide_true,decide_false,kLoop_def,Nat.reduceSub,List.cons_append,List.nil_append,List.append_nil,List.length_cons,List.length_nil,Env.find_set,l5,l6,l7,l8,l9,z1,z2,z3,d1,cellsOf_bool,Nat.zero_add]
    refine ⟨.norm,_,_,trivial,trivial,rfl,fun _=>⟨z2,z3,fun y hy=>?_⟩,fun h=>absurd rfl h,zl,fun c h1 h2 h3=>zg c h2,by omega,by omega,by omega,by omega,trivial⟩
    rcases List.mem_append.mp hy with h | h
    ·exact p4 y h
    ·rw [List.mem_singleton.mp h];exact hx)
 rw [e1]
 have ed:s'.h.get s0.n=some .dfr:=e4
 have shI:shapeT Try.prog 3=some none:=by kernel_rfl
 have shB:shapeT Try.prog 4=some none:=by kernel_rfl
 rcases hE with ⟨rfl,⟨h1,h2,h3⟩,_⟩ | ⟨_,p,x,rest,_,hT,_,⟨rfl,h1,h2,h3,h4⟩,_⟩
 ·have hb:bidOf st T=(0,false):=by have:=bidOf_app st [] h3;rw [List.append_nil] at this;exact this
  rw [hb]
  simp (disch:=first|omega|(with_unfolding_all exact rfl)|(simp only[new_n,put_n,new_m];omega)|(refine put_m_le ?_;simp only[new_m];omega)) only [K50r2,Abs.W,reduceIte,Nat.reduceEqDiff,Nat.reduceAdd,decide_true,decide_false,kLoop_def,Nat.reduceSub,List.cons_append,List.nil_append,List.append_nil,List.length_cons,List.length_nil,Env.find_set,f6,f7,h1,h2,cellsOf_bool,Nat.zero_add]
  rw [leave_dfr _ _ _ _ _ (by rw [get_put_ne' _ _ _ _ (by omega),get_put_ne' _ _ _ _ (by omega)];exact ed),res50]
  refine ⟨_,leave_cells2 _ _ _ _ _ _ shI shB ?_ ?_,?_⟩
  ·rw [f6,load_ptr,get_kill_ne _ _ _ (by omega),get_put_ne' _ _ _ _ (by omega),get_put_eq _ _ _ _ rfl (by omega),loadO_cells,partS_one];rfl
  ·rw [f7,load_ptr,get_kill_ne _ _ _ (by omega),get_put_eq _ _ _ _ rfl (by omega),loadO_cells,partS_one];rfl
  ·simp only [St.kill,St.put,minN_eq];omega
 ·have hb:bidOf st T=(x.2,true):=by rw [← hT,bidOf_app st _ h4];show (if x.1=st then (x.2,true) else _)=_;rw [if_pos h1]
  rw [hb]
  simp (disch:=first|omega|(with_unfolding_all exact rfl)|(simp only[new_n,put_n,new_m];omega)|(refine put_m_le ?_;simp only[new_m];omega)) only [Abs.W,reduceIte,Nat.reduceEqDiff,Nat.reduceAdd,decide_true,decide_false,kLoop_def,Nat.reduceSub,List.cons_append,List.nil_append,List.append_nil,List.length_cons,List.length_nil]
  rw [leave_dfr _ _ _ _ _ ed,res50]
  refine ⟨_,leave_cells2 _ _ _ _ _ _ shI shB ?_ ?_,?_⟩
  ·rw [f6,load_ptr,get_kill_ne _ _ _ (by omega),h2,loadO_cells,partS_one];rfl
  ·rw [f7,load_ptr,get_kill_ne _ _ _ (by omega),h3,loadO_cells,partS_one];rfl
  ·simp only [St.kill,minN_eq];omega
end Go.Proofs.Ytbcjojljiochfaa.walk
set_option maxRecDepth 10000
namespace Go.Proofs.Ytbcjojljiochfaa.walk
open Go.Abs Go.Proofs.Ytbcjojljiochfaa.code
structure ApOwn (h:Heap) (n lo bA:Nat) (aps:List Appl) (vA:AV):Prop where
 ap:∃ ws:List (AV × AV),ws.length=aps.length∧IsAt h n bA 4 (tag 37) (rowsOf aps ws) vA∧∀ i (h1:i<ws.length) (h2:i<aps.length),Sl (fun x=>lo≤x∧x≠bA) h n 1 (intRows aps[i].wishes) ws[i].1∧Sl (fun x=>lo≤x∧x≠bA) h n 1 (intRows aps[i].bids) ws[i].2
 lo:lo≤bA
 hb:bA<n∨far<bA
theorem ApOwn.okA {h:Heap} {n lo bA:Nat} {aps:List Appl} {vA:AV} (r:ApOwn h n lo bA aps vA) (t:St):Abs.okA (.val vA t)=.val vA t:=by obtain ⟨⟨ws,q1,q2,q3⟩,_⟩:=r;exact q2.okA t
theorem ApOwn.scal {h:Heap} {n lo bA:Nat} {aps:List Appl} {vA:AV} (r:ApOwn h n lo bA aps vA):scalars [vA]=true∧cellsOf 1 vA=some [vA]:=by
 obtain ⟨⟨ws,q1,q2,q3⟩,_⟩:=r
 rcases q2.is with ⟨_,rfl⟩ | ⟨_,_,rfl,_⟩<;>exact ⟨rfl,rfl⟩
theorem ApOwn.grow {h h':Heap} {n n' lo bA:Nat} {aps:List Appl} {vA:AV} (r:ApOwn h n lo bA aps vA) (hh:∀ c,c<n→lo≤c→h'.get c=h.get c) (hn:n≤n'):ApOwn h' n' lo bA aps vA:=by
 obtain ⟨⟨ws,q1,q2,q3⟩,l1,l2⟩:=r
 exact ⟨⟨ws,q1,q2.mono (fun h=>hh _ h l1) hn,fun i h1 h2=>⟨(q3 i h1 h2).1.move (fun b hb hn=>⟨hh b hb hn.1,hn⟩) hn,(q3 i h1 h2).2.move (fun b hb hn=>⟨hh b hb hn.1,hn⟩) hn⟩⟩,l1,by omega⟩
theorem ApOwn.push {s:St} {lo bA:Nat} {aps:List Appl} {vA wv bv:AV} {A:Appl} (r:ApOwn s.h s.n lo bA aps vA) {p sz:Nat} (hp:s.h.get p=some (.cells (A.row (wv,bv)) sz)) (hw:Sl (fun x=>lo≤x∧x≠bA) s.h s.n 1 (intRows A.wishes) wv) (hbv:Sl (fun x=>lo≤x∧x≠bA) s.h s.n 1 (intRows A.bids) bv) (hl:aps.length≤8) (hlo:lo≤s.n) (hs:s.n+100≤far) :
  ∃ v' s',appendA false 4 64 (tag 37) s vA (.slice p 0 1 1 false)=.val v' s'∧ApOwn s'.h s'.n lo s.n (aps++[A]) v'∧s'.n=s.n+1∧(∀ c,c<s.n→c≠bA→s'.h.get c=s.h.get c)∧(∀ k,k≤bA→k≤s.n→k≤s.m→k≤s'.m)∧s'.m≤s.m:=by
 have hf:far=1000000000:=rfl
 obtain ⟨⟨ws,w1,w2,w3⟩,l1,l2⟩:=r
 have lr:=rowsOf_len w1
 have scr:scalars (A.row (wv,bv))=true:=by unfold Appl.row;rw [scal_int,scal_int,hw.scal.2.2];exact hbv.scal.1
 obtain ⟨s7,e7,l7,s7n,s7g,s7m,s7l⟩:=append_at (bytes:=64) w2 hp rfl scr (by rw [lr];omega) (by kernel_rfl) (by omega)
 have hcells:rowsOf aps ws++[A.row (wv,bv)]=rowsOf (aps++[A]) (ws++[(wv,bv)]):=by unfold rowsOf;rw [List.zipWith_append (by omega)];rfl
 rw [hcells] at l7
 have mv:∀ {rows:List (List AV)} {v:AV},Sl (fun x=>lo≤x∧x≠bA) s.h s.n 1 rows v→Sl (fun x=>lo≤x∧x≠s.n) s7.h s7.n 1 rows v:=fun q=>q.move (fun b h1 h2=>⟨s7g b h1 h2.2,h2.1,by omega⟩) (by omega)
 refine ⟨_,s7,e7,⟨⟨ws++[(wv,bv)],by simp [w1],l7,fun i h1 h2=>?_⟩,hlo,.inl (by omega)⟩,s7n,s7g,s7m,s7l⟩
 by_cases e:i<ws.length
 ·rw [List.getElem_append_left e,List.getElem_append_left (by omega)]
  exact ⟨mv (w3 i e (by omega)).1,mv (w3 i e (by omega)).2⟩
 ·have hi:i=ws.length:=by rw [List.length_append,List.length_singleton] at h1;omega
  subst hi
  rw [List.getElem_append_right (Nat.le_refl _),List.getElem_append_right (by omega)]
  simp only [w1,Nat.sub_self,List.getElem_singleton]
  exact ⟨mv hw,mv hbv⟩
structure CopyJ (w t:St) (pl bS:Nat) (l:Letting) (vS1:AV) (i kk:Nat):Prop where
 g:∃ vA bA,t.h.get pl=some (.cells [vS1,vA] (tag 28))∧ApOwn t.h t.n (pl+1) bA (l.appls.take i) vA
 same:∀ c,c<w.n→c≠pl→t.h.get c=w.h.get c
 n:w.n≤t.n
 le:t.n≤w.n+kk
 m:min w.m pl≤t.m
 ml:t.m≤w.m
theorem copy_round (N:Nat) (hN:1≤N) (cx:Ctx) {no na:Nat→Prop} {w t:St} {u0 pl bS i kk:Nat} {l:Letting} {vS vA vS1:AV} {L:Env} (J:CopyJ w t pl bS l vS1 i kk) (ok:l.Ok) (hL:LetAt no na w.h u0 l vS vA) (g1:w.h.get u0=some (.cells [vS,vA] (tag 28))) (hpl:u0<pl∧pl+1=w.n) (hi:i<l.appls.length) (hs:w.n+kk+1000≤far) (hm:w.m≤far)
  (q1:L.find 1=.ptr u0 0) (q3:L.find 3=.ptr pl 0) (q4:L.find 4=.int .i64 (i:Nat)) :
  ∃ L1 t1,K25l0 (call Try.prog X N) cx L [] t=.done .norm L1 [] t1∧CopyJ w t1 pl bS l vS1 (i+1) (kk+10)∧L1.find 1=.ptr u0 0∧L1.find 3=.ptr pl 0∧L1.find 4=.int .i64 (i+1:Nat)∧L1.find 2=L.find 2:=by
 have hf:far=1000000000:=rfl
 obtain ⟨⟨vA1,bA,gp,hO⟩,same,jn,jle,jm,jml⟩:=J
 have m1:=ok.m1
 have t0:t.h.get u0=some (.cells [vS,vA] (tag 28)):=by rw [same u0 (by omega) (by omega)];exact g1
 have hLt:=hL.bound.move (h':=t.h) (n':=u0) (no':=fun y=>no y∧y<u0) (na':=fun y=>na y∧y<u0) (fun b h1 h2=>⟨same b (by omega) (by omega),h2⟩) (fun b h1 h2=>⟨same b (by omega) (by omega),h2⟩) (Nat.le_refl _)
 have kA:=hLt.okV
 have lA:=hLt.lenA
 have kA1:=hO.okA
 obtain ⟨ww,pa,oa,ca,za,r1,r2,r3,r4,r5,r6⟩:=hLt.getA2 hi
 obtain ⟨w1,w2⟩:=ww
 simp only at r4 r5 r6
 have e0:decide ((i:Int)<(l.appls.length:Int))=true:=decide_eq_true (by omega)
 have etk:l.appls.take (i+1)=l.appls.take i++[l.appls[i]]:=take_snoc hi
 have ad:∀ s,aAdd s .i64 (i:Int) 1=.val (.int .i64 ((i:Int)+1)) s:=fun s=>aAdd_i64 s _ _ (by omega)
 have hA:=ok.ap _ (List.getElem_mem hi)
 generalize l.appls[i]=A at *
 have sw1:=r5.scal
 have sw2:=r6.scal
 have kw1:=r5.okA
 have kw2:=r6.okA
 obtain ⟨y1,hy1⟩:∃ y1:St,y1=(t.new (.cells [.int .i64 0,.int .i64 0,.nilslice,.nilslice] (tag 37))).put t.n (.cells [.int .i64 A.years,.int .i64 A.token,w1,w2] (tag 37)):=⟨_,rfl⟩
 have y1n:y1.n=t.n+1:=by rw [hy1];rfl
 have y1m:y1.m=min t.m t.n:=by rw [hy1];simp only [St.put,minN_eq,new_m]
 have y1g:∀ c,c<t.n→y1.h.get c=t.h.get c:=fun c hc=>by rw [hy1,get_put_ne' _ _ _ _ (by omega),get_new_ne _ _ _ (by omega)]
 have y1p:y1.h.get t.n=some (.cells [.int .i64 A.years,.int .i64 A.token,w1,w2] (tag 37)):=by rw [hy1];exact get_put_eq _ _ _ _ rfl (by omega)
 simp (disch:=first|omega|(with_unfolding_all exact rfl)|(simp only[new_n,put_n,new_m];omega)|(refine put_m_le ?_;simp only[new_m];omega)) only [K25l0,K25r3,K25r4,Abs.W,reduceIte,Nat.reduceEqDiff,Nat.reduceAdd,decide_true,decide_false,kLoop_def,Nat.reduceSub,List.cons_append,List.nil_append,List.append_nil,List.length_cons,List.length_nil,Env.find_set,q1,q4,t0,kA,lA,e0,r2,r3,r4,sw1.1,sw1.2.1,sw1.2.2,sw2.1,sw2.2.1,sw2.2.2,Nat.zero_add]
 rw [← hy1]
 simp (disch:=first|omega|(with_unfolding_all exact rfl)|(simp only[new_n,put_n,new_m];omega)|(refine put_m_le ?_;simp only[new_m];omega)) only [K25r5,Abs.W,reduceIte,Nat.reduceEqDiff,Nat.reduceAdd,decide_true,decide_false,kLoop_def,Nat.reduceSub,List.cons_append,List.nil_append,List.append_nil,List.length_cons,List.length_nil,Env.find_set,y1p,kw1,kw2,Nat.zero_add]
 generalize hc:call _ _ _ (.fn 28) _ _=rc
 have S1:Sl no y1.h y1.n 1 (intRows A.wishes) w1:=r5.move (fun b h1 h2=>⟨y1g b (by omega),h2.1⟩) (by omega)
 obtain ⟨v1,t2,rfl,s2,S2,_,_⟩:=copyInts_ex hc hN S1 (by have:=hA.wl;omega) (by show y1.n+100≤far;omega)
 have s2n:y1.n≤t2.n:=s2.n
 have s2l:t2.n≤y1.n+2:=s2.le
 have s2m:t2.m=far:=s2.m
 have t2g:∀ c,c<y1.n→t2.h.get c=y1.h.get c:=s2.same
 have t2p:=(t2g t.n (by omega)).trans y1p
 simp (disch:=first|omega|(with_unfolding_all exact rfl)|(simp only[new_n,put_n,new_m];omega)|(refine put_m_le ?_;simp only[new_m];omega)) only [thenT_val,Abs.W,reduceIte,Nat.reduceEqDiff,Nat.reduceAdd,decide_true,decide_false,kLoop_def,Nat.reduceSub,List.cons_append,List.nil_append,List.append_nil,List.length_cons,List.length_nil,Env.find_set,t2p,kw1,kw2,Nat.zero_add]
 have mm:minN y1.m t2.m=y1.m:=by rw [minN_min];omega
 rw [mm]
 generalize hc2:call _ _ _ (.fn 28) _ _=rc
 have S3:Sl no t2.h t2.n 1 (intRows A.bids) w2:=r6.move (fun b h1 h2=>⟨(t2g b (by omega)).trans (y1g b (by omega)),h2.1⟩) (by omega)
 obtain ⟨v2,t3,rfl,s3,S4,_,_⟩:=copyInts_ex (s:=⟨t2.h,t2.n,y1.m⟩) hc2 hN S3 (by have:=hA.wl;have:=hA.bl;omega) (by show t2.n+100≤far;omega)
 have s3n:t2.n≤t3.n:=s3.n
 have s3l:t3.n≤t2.n+2:=s3.le
 have s3m:t3.m=y1.m:=s3.m
 have t3g:∀ c,c<t2.n→t3.h.get c=t2.h.get c:=s3.same
 have t3p:=(t3g t.n (by omega)).trans t2p
 have k1:=S2.scal
 have k2:=S4.scal
 have kv1:=S2.okA
 have kv2:=S4.okA
 obtain ⟨z4,hz4⟩:∃ z4:St,z4=(t3.put t.n (.cells [.int .i64 A.years,.int .i64 A.token,v1,w2] (tag 37))).put t.n (.cells [.int .i64 A.years,.int .i64 A.token,v1,v2] (tag 37)):=⟨_,rfl⟩
 have z4n:z4.n=t3.n:=by rw [hz4];rfl
 have z4m:z4.m=min t3.m t.n:=by rw [hz4];simp only [St.put,minN_eq];omega
 have z4g:∀ c,c≠t.n→z4.h.get c=t3.h.get c:=fun c hc=>by rw [hz4,get_put_ne' _ _ _ _ hc,get_put_ne' _ _ _ _ hc]
 have z4p:z4.h.get t.n=some (.cells [.int .i64 A.years,.int .i64 A.token,v1,v2] (tag 37)):=by rw [hz4];exact get_put_eq _ _ _ _ rfl (by omega)
 have z4t:∀ c,c<t.n→z4.h.get c=t.h.get c:=fun c hc=>(z4g c (by omega)).trans ((t3g c (by omega)).trans ((t2g c (by omega)).trans (y1g c hc)))
 have z4pl:=(z4t pl (by omega)).trans gp
 simp (disch:=first|omega|(with_unfolding_all exact rfl)|(simp only[new_n,put_n,new_m];omega)|(refine put_m_le ?_;simp only[new_m];omega)) only [Abs.W,reduceIte,Nat.reduceEqDiff,Nat.reduceAdd,decide_true,decide_false,kLoop_def,Nat.reduceSub,List.cons_append,List.nil_append,List.append_nil,List.length_cons,List.length_nil,Env.find_set,t3p,kw1,kw2,kv1,kv2,k1.1,k1.2.1,k1.2.2,k2.1,k2.2.1,k2.2.2,sw1.1,sw1.2.1,sw1.2.2,sw2.1,sw2.2.1,sw2.2.2,Nat.zero_add]
 rw [← hz4]
 obtain ⟨x,hx⟩:∃ x:St,x=z4.new (.cells (A.row (v1,v2)) 0):=⟨_,rfl⟩
 have xn:x.n=z4.n+1:=by rw [hx];rfl
 have xm:x.m=z4.m:=by rw [hx];rfl
 have xg:∀ c,c<z4.n→x.h.get c=z4.h.get c:=fun c hc=>by rw [hx,get_new_ne _ _ _ (by omega)]
 have xp:x.h.get z4.n=some (.cells (A.row (v1,v2)) 0):=by rw [hx];exact get_new_eq _ _ _ rfl (by omega)
 have hbA:=hO.hb
 have Sa:Sl (fun y=>pl+1≤y∧y≠bA) x.h x.n 1 (intRows A.wishes) v1:=S2.move (fun b h1 h2=>by
  have h2':y1.n≤b:=h2
  exact ⟨(xg b (by omega)).trans ((z4g b (by omega)).trans (t3g b h1)),by omega,by omega⟩) (by omega)
 have Sb:Sl (fun y=>pl+1≤y∧y≠bA) x.h x.n 1 (intRows A.bids) v2:=S4.move (fun b h1 h2=>⟨(xg b (by omega)).trans (z4g b (by have:t2.n≤b:=h2;omega)),by have:t2.n≤b:=h2;omega,by have:t2.n≤b:=h2;omega⟩) (by omega)
 have hOx:=hO.grow (h':=x.h) (n':=x.n) (fun c h1 _=>(xg c (by omega)).trans (z4t c h1)) (by omega)
 have tkl:(l.appls.take i).length≤8:=by rw [List.length_take];omega
 obtain ⟨v',s7,e7,hO7,n7,g7,m7,m7'⟩:=hOx.push xp Sa Sb tkl (by omega) (by omega)
 rw [hx] at e7
 unfold Appl.row at hx e7
 simp only at hx e7
 have sc7:=hO7.scal
 have x7:=(g7 pl (by omega) (by have:=hO.lo;omega)).trans ((xg pl (by omega)).trans z4pl)
 simp (disch:=first|omega|(with_unfolding_all exact rfl)|(simp only[new_n,put_n,new_m];omega)|(refine put_m_le ?_;simp only[new_m];omega)) only [K25r6,K25r7,Abs.W,reduceIte,Nat.reduceEqDiff,Nat.reduceAdd,decide_true,decide_false,kLoop_def,Nat.reduceSub,List.cons_append,List.nil_append,List.append_nil,List.length_cons,List.length_nil,Env.find_set,q3,q4,z4pl,z4p,kA1,kv1,kv2,k1.1,k1.2.1,k1.2.2,k2.1,k2.2.1,k2.2.2,e7,x7,sc7.1,sc7.2,ad,Nat.zero_add]
 have hO7':=hO.lo
 refine ⟨_,_,rfl,⟨⟨v',x.n,get_put_eq _ _ _ _ rfl (by omega),?_⟩,fun c h1 h2=>?_,by rw [put_n];omega,by rw [put_n];omega,?_,?_⟩,?_,?_,?_,?_⟩
 ·rw [etk]
  exact hO7.grow (fun c _ h2=>get_put_ne' _ _ _ _ (by omega)) (Nat.le_refl _)
 ·rw [get_put_ne' _ _ _ _ h2,g7 c (by omega) (by omega),xg c (by omega),z4t c (by omega)]
  exact same c h1 h2
 ·have:=m7 (min w.m pl) (by omega) (by omega) (by omega)
  simp only [St.put,minN_eq];omega
 ·simp only [St.put,minN_eq];omega
 ·simp only [Env.find_set,q1,reduceIte,Nat.reduceEqDiff]
 ·simp only [Env.find_set,q3,reduceIte,Nat.reduceEqDiff]
 ·simp only [Env.find_set,reduceIte,Nat.reduceEqDiff];rfl
 ·simp only [Env.find_set,reduceIte,Nat.reduceEqDiff]
theorem copyLetting_ex {N:Nat} {no na:Nat→Prop} {l:Letting} {vS vA:AV} {s:St} {r:ARes} (hr:call Try.prog X N (.fn 25) [.agg (letV vS vA)] s=r) (hN:2≤N) (ok:l.Ok) (hL:LetAt no na s.h s.n l vS vA) (hs:s.n+2000≤far) :
  ∃ v1 v2 bS bA t,r=.val (.agg (letV v1 v2)) t∧New s t 100∧LetOwn t.h t.n s.n bS bA l v1 v2:=by
 obtain ⟨n,rfl⟩:∃ n,N=n+1:=⟨N - 1,by omega⟩
 have hf:far=1000000000:=rfl
 obtain ⟨v,t,e,st,v1,v2,bS,bA,rfl,hq⟩:=call_new (n:=n) (args:=[.agg (letV vS vA)]) (s:=s) (k:=100) (Q:=fun v h n=>∃ v1 v2 bS bA,v=.agg (letV v1 v2)∧LetOwn h n s.n bS bA l v1 v2) Try.func25 rfl (fun u uh un um=>by
  rw [← uh,← un] at hL
  rw [← un]
  have k0:=ok.k0
  have k1:=ok.k1
  have m1:=ok.m1
  have kS:=hL.okS
  obtain ⟨w0,hw0⟩:∃ w:St,w=(u.new (.cells [vS,vA] (tag 28))).new (.cells [.nilslice,.nilslice] (tag 28)):=⟨_,rfl⟩
  have w0n:w0.n=u.n+2:=by rw [hw0];rfl
  have w0m:w0.m=far:=by rw [hw0];exact um
  have w0g:∀ c,c<u.n→w0.h.get c=u.h.get c:=fun c hc=>by rw [hw0,get_new_ne _ _ _ (by rw [new_n];omega),get_new_ne _ _ _ (by omega)]
  have w00:w0.h.get u.n=some (.cells [vS,vA] (tag 28)):=by rw [hw0,get_new_ne _ _ _ (by rw [new_n];omega)];exact get_new_eq _ _ _ rfl (by omega)
  have w01:w0.h.get (u.n+1)=some (.cells [.nilslice,.nilslice] (tag 28)):=by rw [hw0];exact get_new_eq _ _ _ rfl (by rw [new_n];omega)
  rw [enter25]
  simp (disch:=first|omega|(with_unfolding_all exact rfl)|(simp only[new_n,put_n,new_m];omega)|(refine put_m_le ?_;simp only[new_m];omega)) only [K25,K25r0,Abs.W,reduceIte,Nat.reduceEqDiff,Nat.reduceAdd,decide_true,decide_false,kLoop_def,Nat.reduceSub,List.cons_append,List.nil_append,List.append_nil,List.length_cons,List.length_nil,new_n]
  rw [← hw0]
  obtain ⟨y,hy⟩:∃ y:St,y=w0.new (.cells [] 0):=⟨_,rfl⟩
  have yn:y.n=w0.n+1:=by rw [hy];rfl
  have ym:y.m=far:=by rw [hy];exact w0m
  have yg:∀ c,c<w0.n→y.h.get c=w0.h.get c:=fun c hc=>by rw [hy,get_new_ne _ _ _ (by omega)]
  have yp:y.h.get w0.n=some (.cells [] 0):=by rw [hy];exact get_new_eq _ _ _ rfl (by omega)
  have hLy:=hL.grow (h':=y.h) (n':=y.n) (fun c hc=>(yg c (by omega)).trans (w0g c hc)) (by omega)
  have scS:scalars (l.stalls.map StallR.cells).flatten=true:=scalars_flatten fun r hr=>by
   obtain ⟨x,_,rfl⟩:=List.mem_map.mp hr
   rfl
  have hne:l.stalls.map StallR.cells≠[]:=fun e=>by rw [List.map_eq_nil_iff] at e;rw [e] at k0;simp at k0
  obtain ⟨vS1,s1,e1,_,hI,n1,n2,hg,m2,m3,_,_⟩:=app_all (tg:=tag 53) (bytes:=24) hLy.st yp (by omega) scS (by rw [List.length_map];omega) (by kernel_rfl) (by omega)
  have hI1:=hI hne
  rw [hy] at e1
  simp (disch:=first|omega|(with_unfolding_all exact rfl)|(simp only[new_n,put_n,new_m];omega)|(refine put_m_le ?_;simp only[new_m];omega)) only [K25r1,Abs.W,reduceIte,Nat.reduceEqDiff,Nat.reduceAdd,decide_true,decide_false,kLoop_def,Nat.reduceSub,List.cons_append,List.nil_append,List.append_nil,List.length_cons,List.length_nil,Env.find_set,w00,kS,e1,Nat.zero_add]
  have hvS:vS1=.slice y.n 0 (l.stalls.map StallR.cells).length (l.stalls.map StallR.cells).length true∧y.n<s1.n:=by
   rcases hI1.is with ⟨z,_⟩ | ⟨_,z1,z2,_⟩
   ·exact absurd z hne
   ·exact ⟨z2,z1⟩
  obtain ⟨hvS,hyn⟩:=hvS
  have kS1:∀ t,okA (.val vS1 t)=.val vS1 t:=hI1.okA
  have cS1:cellsOf 1 vS1=some [vS1]:=by rw [hvS];rfl
  have sS1:∀ l,scalars (vS1::l)=scalars l:=by rw [hvS];exact fun _=>rfl
  obtain ⟨w,hw⟩:∃ w:St,w=(s1.new (.cells [.nilslice,.nilslice] (tag 28))).put s1.n (.cells [vS1,.nilslice] (tag 28)):=⟨_,rfl⟩
  have wn:w.n=s1.n+1:=by rw [hw];rfl
  have wm:w.m=min s1.m s1.n:=by rw [hw];simp only [St.put,minN_eq,new_m]
  have wg:∀ c,c<s1.n→w.h.get c=s1.h.get c:=fun c hc=>by rw [hw,get_put_ne' _ _ _ _ (by omega),get_new_ne _ _ _ (by omega)]
  have wp:w.h.get s1.n=some (.cells [vS1,.nilslice] (tag 28)):=by rw [hw];exact get_put_eq _ _ _ _ rfl (by omega)
  have wu:∀ c,c<w0.n→w.h.get c=w0.h.get c:=fun c hc=>(wg c (by omega)).trans ((hg c (by omega)).trans (yg c hc))
  simp (disch:=first|omega|(with_unfolding_all exact rfl)|(simp only[new_n,put_n,new_m];omega)|(refine put_m_le ?_;simp only[new_m];omega)) only [Abs.W,reduceIte,Nat.reduceEqDiff,Nat.reduceAdd,decide_true,decide_false,kLoop_def,Nat.reduceSub,List.cons_append,List.nil_append,List.append_nil,List.length_cons,List.length_nil,Env.find_set,cS1,sS1,kS1,Nat.zero_add]
  rw [← hw]
  simp (disch:=first|omega|(with_unfolding_all exact rfl)|(simp only[new_n,put_n,new_m];omega)|(refine put_m_le ?_;simp only[new_m];omega)) only [K25r2,Abs.W,reduceIte,Nat.reduceEqDiff,Nat.reduceAdd,decide_true,decide_false,kLoop_def,Nat.reduceSub,List.cons_append,List.nil_append,List.append_nil,List.length_cons,List.length_nil,Env.find_set,Nat.zero_add]
  generalize hlp:loopN _ rounds _ _ _ _ _=q1
  have hLw:LetAt (fun y=>no y∧y<u.n) (fun y=>na y∧y<u.n) w.h u.n l vS vA:=hL.bound.move (fun b h1 h2=>⟨(wu b (by omega)).trans (w0g b h1),h2⟩) (fun b h1 h2=>⟨(wu b (by omega)).trans (w0g b h1),h2⟩) (Nat.le_refl _)
  obtain ⟨e,L1,t1,rfl,rfl,J,f2,f3⟩:=loop_of hlp (fun i L t=>CopyJ w t s1.n y.n l vS1 i (10 * i)∧L.find 1=.ptr u.n 0∧L.find 3=.ptr s1.n 0∧L.find 4=.int .i64 (i:Nat)∧L.find 2=.ptr (u.n+1) 0)
   (fun e L t=>e=.exit 0∧CopyJ w t s1.n y.n l vS1 l.appls.length 80∧L.find 2=.ptr (u.n+1) 0∧L.find 3=.ptr s1.n 0) l.appls.length (by unfold rounds;omega)
   ⟨⟨⟨.nilslice,far+1,wp,⟨⟨[],by simp,by simp only [List.take_zero];exact IsAt.nil _ _ _ _ _,fun i h1 _=>by simp at h1⟩,by omega,.inr (by omega)⟩⟩,fun _ _ _=>rfl,Nat.le_refl _,by omega,by omega,Nat.le_refl _⟩,by simp only [find_cons,Env.find_set,reduceIte,Nat.reduceEqDiff],by simp only [find_cons,Env.find_set,reduceIte,Nat.reduceEqDiff],by simp only [find_cons,Env.find_set,reduceIte,Nat.reduceEqDiff];rfl,by simp only [find_cons,Env.find_set,reduceIte,Nat.reduceEqDiff]⟩
   (fun i L t hi ⟨J,q1,q3,q4,q2⟩=>by
    by_cases hlt:i<l.appls.length
    ·obtain ⟨L1,t1,a1,a2,a3,a4,a5,a6⟩:=copy_round n (by omega) ⟨25,none,Try.f25.ntmps,X 25⟩ J ok hLw ((wu u.n (by omega)).trans w00) ⟨by omega,by omega⟩ hlt (by omega) (by omega) q1 q3 q4
     exact .inl ⟨hlt,L1,t1,a1,by rw [Nat.mul_succ];exact a2,a3,a4,a5,a6.trans q2⟩
    ·obtain rfl:i=l.appls.length:=by omega
     have e0:decide ((l.appls.length:Int)<(l.appls.length:Int))=false:=by simp
     obtain ⟨jg,same,jn,jle,jm,jml⟩:=J
     have t0:t.h.get u.n=some (.cells [vS,vA] (tag 28)):=by rw [same u.n (by omega) (by omega),wu u.n (by omega)];exact w00
     have kA:=hL.okV
     have lA:=hL.lenA
     refine .inr ⟨.exit 0,L.set 15 (.bool false),t,by simp,?_,rfl,⟨jg,same,jn,by omega,jm,jml⟩,?_,?_⟩
     ·simp (disch:=first|omega|(with_unfolding_all exact rfl)|(simp only[new_n,put_n,new_m];omega)|(refine put_m_le ?_;simp only[new_m];omega)) only [K25l0,K25r3,Abs.W,reduceIte,Nat.reduceEqDiff,Nat.reduceAdd,decide_true,decide_false,kLoop_def,Nat.reduceSub,List.cons_append,List.nil_append,List.append_nil,List.length_cons,List.length_nil,Env.find_set,q1,q4,t0,kA,lA,e0,Nat.zero_add]
     ·simp only [Env.find_set,q2,reduceIte,Nat.reduceEqDiff]
     ·simp only [Env.find_set,q3,reduceIte,Nat.reduceEqDiff])
  obtain ⟨⟨vA1,bA,gp,hO⟩,same,jn,jle,jm,jml⟩:=J
  have kA1:=hO.okA
  have sA1:=hO.scal
  have g2:t1.h.get (u.n+1)=some (.cells [.nilslice,.nilslice] (tag 28)):=by rw [same (u.n+1) (by omega) (by omega),wu (u.n+1) (by omega)];exact w01
  rw [List.take_length] at hO
  simp (disch:=first|omega|(with_unfolding_all exact rfl)|(simp only[new_n,put_n,new_m];omega)|(refine put_m_le ?_;simp only[new_m];omega)) only [K25r8,res25,Abs.W,reduceIte,Nat.reduceEqDiff,Nat.reduceAdd,decide_true,decide_false,kLoop_def,Nat.reduceSub,List.cons_append,List.nil_append,List.append_nil,List.length_cons,List.length_nil,Env.find_set,f2,f3,gp,g2,kS1,kA1,sS1,sA1.1,sA1.2,Nat.zero_add]
  have sh2:shapeT Try.prog 28=some (some 2):=by kernel_rfl
  refine ⟨.agg (letV vS1 vA1),_,leave_cell _ _ _ _ sh2 ?_,⟨fun c hc=>?_,by rw [put_n];omega,by rw [put_n];omega,by simp only [St.put,minN_eq];omega,by simp only [St.put,minN_eq];omega⟩,?_,vS1,vA1,y.n,bA,rfl,⟨?_,?_,by omega,by have:=hO.lo;omega,by have:=hO.lo;omega⟩⟩
  ·simp only [Env.find_set,f2,reduceIte,Nat.reduceEqDiff]
   rw [load_ptr,get_put_eq _ _ _ _ rfl (by omega),loadO_cells,partS_some]
   rfl
  ·rw [get_put_ne' _ _ _ _ (by omega),same c (by omega) (by omega),wu c (by omega)]
   exact w0g c hc
  ·rw [hvS];rfl
  ·exact hI1.mono (fun _=>by rw [get_put_ne' _ _ _ _ (by omega),same y.n (by omega) (by omega),wg y.n hyn]) (by rw [put_n];omega)
  ·obtain ⟨⟨ws,a1,a2,a3⟩,a4,a5⟩:=hO.grow (h':=(t1.put (u.n+1) (.cells [vS1,vA1] (tag 28))).h) (n':=t1.n) (fun c _ h2=>get_put_ne' _ _ _ _ (by omega)) (Nat.le_refl _)
   exact ⟨ws,a1,a2,fun i h1 h2=>⟨(a3 i h1 h2).1.move (fun b _ h4=>⟨rfl,by omega,h4.2⟩) (Nat.le_refl _),(a3 i h1 h2).2.move (fun b _ h4=>⟨rfl,by omega,h4.2⟩) (Nat.le_refl _)⟩⟩)
 exact ⟨v1,v2,bS,bA,t,hr.symm.trans e,st,hq⟩
end Go.Proofs.Ytbcjojljiochfaa.walk
set_option maxRecDepth 10000
namespace Go.Proofs.Ytbcjojljiochfaa.walk
structure Mkt where
 n:Nat
 k:Nat
 R:Nat→List Nat
 key:Nat→Nat→Int
structure Mkt.Ok (m:Mkt):Prop where
 nd:∀ a,a<m.n→(m.R a).Nodup
 lt:∀ a,a<m.n→∀ s ∈ m.R a,s<m.k
 ne:∀ s a b,a<m.n→b<m.n→a≠b→m.key s a≠m.key s b
namespace Mkt
variable (m:Mkt)
def pos (a s:Nat):Nat:=(m.R a).idxOf s
def Better (s a:Nat) (h:Int):Prop:=h = -1∨m.key s a<m.key s h.toNat
instance (s a:Nat) (h:Int):Decidable (m.Better s a h):=by unfold Better;infer_instance
variable {m}
theorem pos_lt {a s:Nat} (h:s ∈ m.R a):m.pos a s<(m.R a).length:=List.idxOf_lt_length_of_mem h
theorem pos_inj {a s t:Nat} (hs:s ∈ m.R a) (ht:t ∈ m.R a) (e:m.pos a s=m.pos a t):s=t:=by
 have h1:=List.getElem_idxOf (pos_lt hs)
 have h2:=List.getElem_idxOf (pos_lt ht)
 unfold pos at e
 rw [← h1,← h2]
 congr 1
theorem pos_app {a s t:Nat} {p r:List Nat} (h:m.R a=p++s::r) (hs:s ∉ p) (ht:t ∈ m.R a):t ∈ p↔m.pos a t<m.pos a s:=by
 unfold pos
 rw [h,List.idxOf_append,List.idxOf_append,if_neg hs,List.idxOf_cons_self]
 constructor
 ·intro h;rw [if_pos h];have:=List.idxOf_lt_length_of_mem h;omega
 ·intro h2
  by_cases h3:t ∈ p
  ·exact h3
  ·rw [if_neg h3] at h2;omega
variable (m)
structure Fair (μ:Nat→Int):Prop where
 form:∀ s,μ s = -1∨∃ a:Nat,μ s=a
 hold:∀ s (a:Nat),μ s=a→a<m.n∧s ∈ m.R a
 inj:∀ s t (a:Nat),μ s=a→μ t=a→s=t
 fair:∀ a,a<m.n→∀ s ∈ m.R a,(∃ t,μ t=a∧m.pos a t≤m.pos a s)∨μ s = -1∨¬ m.key s a<m.key s (μ s).toNat
structure Inv (H:Nat→Int) (q:List Nat):Prop where
 form:∀ s,H s = -1∨∃ a:Nat,H s=a
 hold:∀ s (a:Nat),H s=a→a<m.n∧s ∈ m.R a
 inj:∀ s t (a:Nat),H s=a→H t=a→s=t
 qn:∀ a ∈ q,a<m.n∧∀ s,H s≠a
 qd:q.Nodup
 stab:∀ a,a<m.n→a ∉ q→∀ s ∈ m.R a,(∃ t,H t=a∧m.pos a t≤m.pos a s)∨¬ m.Better s a (H s)
 opt:∀ μ,m.Fair μ→∀ s t (a:Nat),H s=a→μ t=a→m.pos a s≤m.pos a t
variable {m}
def upd (H:Nat→Int) (s:Nat) (a:Int):Nat→Int:=fun t=>if t=s then a else H t
theorem upd_at (H:Nat→Int) (s:Nat) (a:Int):upd H s a s=a:=if_pos rfl
theorem upd_ne (H:Nat→Int) {s t:Nat} (a:Int) (h:t≠s):upd H s a t=H t:=if_neg h
theorem Inv.notref {H:Nat→Int} {q:List Nat} (ok:m.Ok) (I:m.Inv H q) {μ:Nat→Int} (F:m.Fair μ) {a t:Nat} (ha:a<m.n) (hμ:μ t=a) (hn:∀ s,H s≠a) (hb:¬ m.Better t a (H t)):False:=by
 rcases I.form t with h0 | ⟨h,hh⟩
 ·exact hb (.inl h0)
 ·have hne:h≠a:=fun e=>hn t (by rw [hh,e])
  obtain ⟨hlt,hmem⟩:=I.hold t h hh
  have hk:m.key t h<m.key t a:=by
   have h1:¬ m.key t a<m.key t h:=fun h2=>hb (.inr (by rw [hh];exact h2))
   have h2:=ok.ne t h a hlt ha hne
   omega
  rcases F.fair h hlt t hmem with ⟨t',h1,h2⟩ | h1 | h1
  ·have h3:=I.opt μ F t t' h hh h1
   have:t'=t:=pos_inj (F.hold t' h h1).2 hmem (by omega)
   subst this
   rw [hμ] at h1
   exact hne (by omega)
  ·rw [hμ] at h1;omega
  ·rw [hμ] at h1;exact h1 hk
theorem Inv.refuse {H:Nat→Int} {q:List Nat} {a:Nat} (I:m.Inv H (a::q)) (hb:∀ s ∈ m.R a,¬ m.Better s a (H s)):m.Inv H q :=
 ⟨I.form,I.hold,I.inj,fun b h=>I.qn b (List.mem_cons_of_mem _ h),(List.nodup_cons.mp I.qd).2,fun b h1 h2 s hs=>by
  by_cases e:b=a
  ·subst e;exact .inr (hb s hs)
  ·exact I.stab b h1 (fun h=>(List.mem_cons.mp h).elim e h2) s hs,I.opt⟩
def behind (q:List Nat) (h:Int):List Nat:=if h = -1 then q else q++[h.toNat]
theorem Inv.take {H:Nat→Int} {q:List Nat} {a s:Nat} {p r:List Nat} (ok:m.Ok) (I:m.Inv H (a::q)) (hR:m.R a=p++s::r) (hp:∀ t ∈ p,¬ m.Better t a (H t)) (hb:m.Better s a (H s)):m.Inv (upd H s a) (behind q (H s)):=by
 obtain ⟨ha,hna⟩:=I.qn a (List.mem_cons_self ..)
 have nd:=ok.nd a ha
 have hsp:s ∉ p:=by
  rw [hR] at nd
  intro h
  have:=(List.nodup_append.mp nd).2.2 s h s (List.mem_cons_self ..)
  exact this rfl
 have hsR:s ∈ m.R a:=by rw [hR];simp
 have haq:a ∉ q:=(List.nodup_cons.mp I.qd).1
 have hqm:∀ {b:Nat},b ∉ behind q (H s)→b ∉ q∧H s≠b:=fun {b} h=>by
  unfold behind at h
  split at h
  ·rename_i e;exact ⟨h,by rw [e];omega⟩
  ·rename_i e
   refine ⟨fun h2=>h (List.mem_append_left _ h2),fun h2=>h (List.mem_append_right _ ?_)⟩
   rw [h2];simp
 refine ⟨fun t=>?_,fun t b h=>?_,fun t t' b h1 h2=>?_,fun b hb'=>?_,?_,fun b hb1 hb2 t ht=>?_,fun μ F t t' b h1 h2=>?_⟩
 ·by_cases e:t=s
  ·subst e;rw [upd_at];exact .inr ⟨a,rfl⟩
  ·rw [upd_ne _ _ e];exact I.form t
 ·by_cases e:t=s
  ·subst e;rw [upd_at] at h
   have:b=a:=by omega
   subst this;exact ⟨ha,hsR⟩
  ·rw [upd_ne _ _ e] at h;exact I.hold t b h
 ·by_cases e1:t=s
  ·by_cases e2:t'=s
   ·rw [e1,e2]
   ·subst e1
    rw [upd_at] at h1;rw [upd_ne _ _ e2] at h2
    exact absurd h2 (by rw [← h1];exact hna t')
  ·by_cases e2:t'=s
   ·subst e2
    rw [upd_at] at h2;rw [upd_ne _ _ e1] at h1
    exact absurd h1 (by rw [← h2];exact hna t)
   ·rw [upd_ne _ _ e1] at h1;rw [upd_ne _ _ e2] at h2
    exact I.inj t t' b h1 h2
 ·unfold behind at hb'
  have old:b ∈ q→b<m.n∧∀ t,upd H s a t≠b:=fun h=>by
   obtain ⟨x1,x2⟩:=I.qn b (List.mem_cons_of_mem _ h)
   refine ⟨x1,fun t=>?_⟩
   by_cases e:t=s
   ·subst e;rw [upd_at];intro h3;exact haq (by rw [show a=b by omega];exact h)
   ·rw [upd_ne _ _ e];exact x2 t
  split at hb'
  ·exact old hb'
  ·rename_i e
   rcases List.mem_append.mp hb' with h | h
   ·exact old h
   ·rw [List.mem_singleton] at h
    subst h
    rcases I.form s with h0 | ⟨c,hc⟩
    ·exact absurd h0 e
    ·have hcb:(H s).toNat=c:=by rw [hc];exact Int.toNat_natCast c
     rw [hcb]
     refine ⟨(I.hold s c hc).1,fun t=>?_⟩
     by_cases e:t=s
     ·subst e;rw [upd_at];intro h3
      exact hna t (by rw [hc];omega)
     ·rw [upd_ne _ _ e];exact fun h3=>e (I.inj t s c h3 hc)
 ·unfold behind
  split
  ·exact (List.nodup_cons.mp I.qd).2
  ·rename_i e
   refine List.nodup_append.mpr ⟨(List.nodup_cons.mp I.qd).2,by simp,fun x hx y hy=>?_⟩
   rw [List.mem_singleton] at hy
   subst hy
   rcases I.form s with h0 | ⟨c,hc⟩
   ·exact absurd h0 e
   ·rw [hc,Int.toNat_natCast]
    intro h3
    subst h3
    exact (I.qn x (List.mem_cons_of_mem _ hx)).2 s hc
 ·by_cases e:b=a
  ·subst e
   by_cases e2:m.pos b t<m.pos b s
   ·have htp:=(pos_app hR hsp ht).mpr e2
    have:t≠s:=fun e3=>hsp (e3▸htp)
    exact .inr (by rw [upd_ne _ _ this];exact hp t htp)
   ·exact .inl ⟨s,upd_at _ _ _,by omega⟩
  ·obtain ⟨c1,c2⟩:=hqm hb2
   rcases I.stab b hb1 (fun h=>(List.mem_cons.mp h).elim e c1) t ht with ⟨t',h1,h2⟩ | h1
   ·have:t'≠s:=fun e3=>c2 (by rw [← e3];exact h1)
    exact .inl ⟨t',by rw [upd_ne _ _ this];exact h1,h2⟩
   ·by_cases e2:t=s
    ·subst e2
     rw [upd_at]
     refine .inr fun h2=>?_
     rcases h2 with h2 | h2
     ·omega
     ·rw [Int.toNat_natCast] at h2
      rcases hb with h3 | h3
      ·exact h1 (.inl h3)
      ·exact h1 (.inr (by omega))
    ·exact .inr (by rw [upd_ne _ _ e2];exact h1)
 ·by_cases e:t=s
  ·subst e
   rw [upd_at] at h1
   have:b=a:=by omega
   subst this
   rcases Nat.lt_or_ge (m.pos b t') (m.pos b t) with h3 | h3
   ·exact (I.notref ok F ha h2 hna (hp t' ((pos_app hR hsp (F.hold t' b h2).2).mpr h3))).elim
   ·exact h3
  ·rw [upd_ne _ _ e] at h1
   exact I.opt μ F t t' b h1 h2
theorem Inv.start (ok:m.Ok):m.Inv (fun _ => -1) (List.range m.n) :=
 ⟨fun _=>.inl rfl,fun s a h=>by omega,fun s t a h=>by omega,fun a h=>⟨List.mem_range.mp h,fun s=>by omega⟩,List.nodup_range,fun a h1 h2=>absurd (List.mem_range.mpr h1) h2,fun μ _ s t a h=>by omega⟩
theorem Inv.best {H:Nat→Int} (ok:m.Ok) (I:m.Inv H []) {μ:Nat→Int} (F:m.Fair μ) {a t:Nat} (hμ:μ t=a):∃ s,H s=a∧m.pos a s≤m.pos a t:=by
 obtain ⟨ha,ht⟩:=F.hold t a hμ
 rcases I.stab a ha (by simp) t ht with h | h
 ·exact h
 ·by_cases e:∃ s,H s=a
  ·obtain ⟨s,hs⟩:=e
   exact ⟨s,hs,I.opt μ F s t a hs hμ⟩
  ·exact (I.notref ok F ha hμ (fun s hs=>e ⟨s,hs⟩) h).elim
theorem Inv.fair {H:Nat→Int} (I:m.Inv H []):m.Fair H:=⟨I.form,I.hold,I.inj,fun a ha s hs=>(I.stab a ha (by simp) s hs).imp id fun h=>.inr fun h2=>h (.inr h2)⟩
/-! ### How long it can go on -/
def sumTo (f:Nat→Nat):Nat→Nat
 | 0=>0
 | k+1=>sumTo f k+f k
theorem sumTo_same {f g:Nat→Nat}:∀ {k:Nat},(∀ t,t<k→f t=g t)→sumTo f k=sumTo g k
 | 0,_=>rfl
 | k+1,h=>by
  show sumTo f k+f k=sumTo g k+g k
  rw [sumTo_same fun t ht=>h t (by omega),h k (by omega)]
theorem sumTo_lt {f g:Nat→Nat} {s:Nat} (hs:f s<g s):∀ {k:Nat},s<k→(∀ t,t≠s→f t=g t)→sumTo f k<sumTo g k
 | 0,h,_=>by omega
 | k+1,h,he=>by
  show sumTo f k+f k<sumTo g k+g k
  by_cases e:s=k
  ·subst e
   rw [sumTo_same (f:=f) (g:=g) fun t ht=>he t (by omega)]
   omega
  ·have:=sumTo_lt hs (k:=k) (by omega) he
   rw [he k (by omega)]
   omega
theorem sumTo_le {f:Nat→Nat} {c:Nat} (h:∀ s,f s≤c):∀ k:Nat,sumTo f k≤k * c
 | 0=>by simp [sumTo]
 | k+1=>by
  show sumTo f k+f k≤(k+1) * c
  have h1:=sumTo_le h k
  have h2:=h k
  rw [Nat.succ_mul]
  omega
variable (m)
def wt (s:Nat) (h:Int):Nat:=if h = -1 then m.n else ((List.range m.n).filter (fun b=>m.key s b<m.key s h.toNat)).length
def meas (H:Nat→Int) (q:List Nat):Nat:=sumTo (fun s=>m.wt s (H s)) m.k+q.length
variable {m}
theorem wt_le (s:Nat) (h:Int):m.wt s h≤m.n:=by
 unfold wt
 split
 ·exact Nat.le_refl _
 ·have:=List.length_filter_le (fun b=>decide (m.key s b<m.key s h.toNat)) (List.range m.n)
  rwa [List.length_range] at this
theorem filter_less {p q:Nat→Bool} (hpq:∀ x,p x=true→q x=true):∀ {l:List Nat} {a:Nat},a ∈ l→q a=true→p a=false→(l.filter p).length<(l.filter q).length
 | x::l,a,ha,hq,hp=>by
  have le:∀ l:List Nat,(l.filter p).length≤(l.filter q).length:=fun l=>by
   induction l with
   | nil=>simp
   | cons y l ih =>
    cases h:p y with
    | true=>rw [List.filter_cons_of_pos h,List.filter_cons_of_pos (hpq y h)];simpa using ih
    | false =>
     rw [List.filter_cons_of_neg (by simp [h])]
     cases h2:q y with
     | true=>rw [List.filter_cons_of_pos h2];simp;omega
     | false=>rw [List.filter_cons_of_neg (by simp [h2])];exact ih
  rcases List.mem_cons.mp ha with rfl | ha
  ·rw [List.filter_cons_of_neg (by simp [hp]),List.filter_cons_of_pos hq]
   have:=le l
   simp;omega
  ·have ih:=filter_less hpq ha hq hp
   cases h:p x with
   | true=>rw [List.filter_cons_of_pos h,List.filter_cons_of_pos (hpq x h)];simpa using ih
   | false =>
    rw [List.filter_cons_of_neg (by simp [h])]
    cases h2:q x with
    | true=>rw [List.filter_cons_of_pos h2];simp;omega
    | false=>rw [List.filter_cons_of_neg (by simp [h2])];exact ih
theorem wt_less {s a:Nat} {h:Int} (ha:a<m.n) (hb:m.Better s a h):m.wt s a<m.wt s h:=by
 unfold wt
 rw [if_neg (show ¬ ((a:Int) = -1) by omega),Int.toNat_natCast]
 by_cases e:h = -1
 ·rw [if_pos e]
  have:=filter_less (p:=fun b=>decide (m.key s b<m.key s a)) (q:=fun _=>true) (fun _ _=>rfl) (List.mem_range.mpr ha) rfl (by simp)
  rw [List.filter_eq_self.mpr (fun _ _=>rfl),List.length_range] at this
  exact this
 ·rw [if_neg e]
  have hk:m.key s a<m.key s h.toNat:=hb.resolve_left e
  exact filter_less (fun x hx=>by have:=of_decide_eq_true hx;exact decide_eq_true (by omega)) (List.mem_range.mpr ha) (decide_eq_true hk) (by simp)
theorem meas_refuse (H:Nat→Int) (a:Nat) (q:List Nat):m.meas H q+1=m.meas H (a::q):=by unfold meas;rw [List.length_cons];omega
theorem meas_take {H:Nat→Int} {q:List Nat} {a s:Nat} (ha:a<m.n) (hs:s<m.k) (hb:m.Better s a (H s)):m.meas (upd H s a) (behind q (H s))+1≤m.meas H (a::q):=by
 have h1:sumTo (fun t=>m.wt t (upd H s a t)) m.k<sumTo (fun t=>m.wt t (H t)) m.k:=sumTo_lt (s:=s) (by show m.wt s (upd H s a s)<m.wt s (H s);rw [upd_at];exact wt_less ha hb) hs (fun t ht=>by show m.wt t (upd H s a t)=m.wt t (H t);rw [upd_ne _ _ ht])
 have h2:(behind q (H s)).length≤q.length+1:=by
  unfold behind;split
  ·omega
  ·rw [List.length_append,List.length_singleton];omega
 unfold meas
 rw [List.length_cons]
 omega
theorem meas_start:m.meas (fun _ => -1) (List.range m.n)≤m.k * m.n+m.n:=by
 have:=sumTo_le (f:=fun s=>m.wt s (-1)) (c:=m.n) (fun s=>wt_le s (-1)) m.k
 show sumTo (fun s=>m.wt s (-1)) m.k+(List.range m.n).length≤_
 rw [List.length_range]
 omega
theorem first_of (P:Nat→Prop) [DecidablePred P]:∀ l:List Nat,(∀ x ∈ l,¬ P x)∨∃ p s r,l=p++s::r∧P s∧∀ t ∈ p,¬ P t
 | []=>.inl fun x h=>by cases h
 | x::l=>by
  by_cases e:P x
  ·exact .inr ⟨[],x,l,rfl,e,fun t h=>by cases h⟩
  ·rcases first_of P l with h | ⟨p,s,r,h1,h2,h3⟩
   ·exact .inl fun y hy=>(List.mem_cons.mp hy).elim (fun h2=>h2▸e) (h y)
   ·exact .inr ⟨x::p,s,r,by rw [h1];rfl,h2,fun t ht=>(List.mem_cons.mp ht).elim (fun h2=>h2▸e) (h3 t)⟩
theorem ends (ok:m.Ok):∀ (c:Nat) (H:Nat→Int) (q:List Nat),m.Inv H q→m.meas H q≤c→∃ H',m.Inv H' []
 | c,H,[],I,_=>⟨H,I⟩
 | 0,H,a::q,_,h=>by unfold meas at h;rw [List.length_cons] at h;omega
 | c+1,H,a::q,I,h=>by
  have ha:=(I.qn a (List.mem_cons_self ..)).1
  rcases first_of (fun s=>m.Better s a (H s)) (m.R a) with h1 | ⟨p,s,r,h1,h2,h3⟩
  ·exact ends ok c H q (I.refuse h1) (by have:=meas_refuse (m:=m) H a q;omega)
  ·exact ends ok c _ _ (I.take ok h1 h3 h2) (by have:=meas_take (q:=q) ha (ok.lt a ha s (by rw [h1];simp)) h2;omega)
theorem exists_best (ok:m.Ok):∃ H,m.Inv H []:=ends ok _ _ _ (Inv.start ok) (Nat.le_refl _)
end Mkt
end Go.Proofs.Ytbcjojljiochfaa.walk
set_option maxRecDepth 10000
namespace Go.Proofs.Ytbcjojljiochfaa.walk
theorem len_sub:∀ {l k:List Nat},l.Nodup→(∀ x ∈ l,x ∈ k)→l.length≤k.length
 | [],_,_,_=>Nat.zero_le _
 | x::l,k,hd,h=>by
  obtain ⟨h1,h2⟩:=List.nodup_cons.mp hd
  have hx:=h x (List.mem_cons_self ..)
  have:=len_sub (l:=l) (k:=k.erase x) h2 fun y hy=>(List.mem_erase_of_ne (fun e=>h1 (by rw [← e];exact hy))).mpr (h y (List.mem_cons_of_mem _ hy))
  rw [List.length_erase_of_mem hx] at this
  have hp:=List.length_pos_of_mem hx
  rw [List.length_cons]
  omega
theorem sub_back {l k:List Nat} (hd:l.Nodup) (h:∀ x ∈ l,x ∈ k) (hl:k.length≤l.length) {x:Nat} (hx:x ∈ k):x ∈ l:=by
 by_cases e:x ∈ l
 ·exact e
 ·have:=len_sub (l:=x::l) (k:=k) (List.nodup_cons.mpr ⟨e,hd⟩) (fun y hy=>(List.mem_cons.mp hy).elim (fun h2=>h2▸hx) (h y))
  rw [List.length_cons] at this
  omega
namespace Mkt
variable (m:Mkt)
structure Stable (μ:Nat→Int):Prop where
 form:∀ s,μ s = -1∨∃ a:Nat,μ s=a
 hold:∀ s (a:Nat),μ s=a→a<m.n∧s ∈ m.R a
 inj:∀ s t (a:Nat),μ s=a→μ t=a→s=t
 stab:∀ a,a<m.n→∀ s ∈ m.R a,(∃ t,μ t=a∧m.pos a t≤m.pos a s)∨¬ m.Better s a (μ s)
variable {m}
theorem Inv.stable {H:Nat→Int} (I:m.Inv H []):m.Stable H:=⟨I.form,I.hold,I.inj,fun a ha=>I.stab a ha (by simp)⟩
theorem Stable.toFair {μ:Nat→Int} (S:m.Stable μ):m.Fair μ:=⟨S.form,S.hold,S.inj,fun a ha s hs=>(S.stab a ha s hs).imp id fun h=>.inr fun h2=>h (.inr h2)⟩
def occ (m:Mkt) (μ:Nat→Int):List Nat:=(List.range m.k).filter fun s=>decide (μ s ≠ -1)
theorem occ_mem {μ:Nat→Int} {s:Nat}:s ∈ m.occ μ↔s<m.k∧μ s ≠ -1:=by unfold occ;rw [List.mem_filter,List.mem_range,decide_eq_true_eq]
theorem occ_nd (μ:Nat→Int):(m.occ μ).Nodup:=List.nodup_range.sublist List.filter_sublist
def housed (m:Mkt) (μ:Nat→Int):List Nat:=(m.occ μ).map fun s=>(μ s).toNat
theorem housed_mem (ok:m.Ok) {μ:Nat→Int} (S:m.Stable μ) {a:Nat}:a ∈ m.housed μ↔∃ s,μ s=a:=by
 unfold housed
 rw [List.mem_map]
 constructor
 ·rintro ⟨s,h1,h2⟩
  rcases S.form s with h | ⟨b,h⟩
  ·exact absurd h (occ_mem.mp h1).2
  ·exact ⟨s,by omega⟩
 ·rintro ⟨s,h⟩
  obtain ⟨h1,h2⟩:=S.hold s a h
  exact ⟨s,occ_mem.mpr ⟨ok.lt a h1 s h2,by omega⟩,by omega⟩
theorem map_nodup {f:Nat→Nat}:∀ {l:List Nat},l.Nodup→(∀ x ∈ l,∀ y ∈ l,f x=f y→x=y)→(l.map f).Nodup
 | [],_,_=>List.nodup_nil
 | x::l,hd,h=>by
  obtain ⟨h1,h2⟩:=List.nodup_cons.mp hd
  rw [List.map_cons]
  refine List.nodup_cons.mpr ⟨fun hm=>?_,map_nodup h2 fun y hy z hz=>h y (List.mem_cons_of_mem _ hy) z (List.mem_cons_of_mem _ hz)⟩
  obtain ⟨y,y1,y2⟩:=List.mem_map.mp hm
  exact h1 (by rw [← h y (List.mem_cons_of_mem _ y1) x (List.mem_cons_self ..) y2];exact y1)
theorem housed_nd {μ:Nat→Int} (S:m.Stable μ):(m.housed μ).Nodup:=map_nodup (occ_nd μ) fun s hs t ht e=>by
 rcases S.form s with h | ⟨a,h⟩
 ·exact absurd h (occ_mem.mp hs).2
 ·rcases S.form t with h2 | ⟨b,h2⟩
  ·exact absurd h2 (occ_mem.mp ht).2
  ·exact S.inj s t a h (by omega)
theorem rural (ok:m.Ok) {X μ:Nat→Int} (I:m.Inv X []) (S:m.Stable μ):(∀ a:Nat,(∃ s,X s=a)↔∃ s,μ s=a)∧∀ s,s<m.k→(X s = -1↔μ s = -1):=by
 have A:∀ s ∈ m.occ X,s ∈ m.occ μ:=fun s hs=>by
  obtain ⟨h1,h2⟩:=occ_mem.mp hs
  refine occ_mem.mpr ⟨h1,fun h3=>?_⟩
  rcases I.form s with h | ⟨a,h⟩
  ·exact h2 h
  ·obtain ⟨q1,q2⟩:=I.hold s a h
   rcases S.stab a q1 s q2 with ⟨t,t1,t2⟩ | hb
   ·have t3:=I.opt μ S.toFair s t a h t1
    have:s=t:=pos_inj q2 (S.hold t a t1).2 (by omega)
    subst this
    omega
   ·exact hb (.inl h3)
 have B:∀ a ∈ m.housed μ,a ∈ m.housed X:=fun a ha=>by
  obtain ⟨t,ht⟩:=(housed_mem ok S).mp ha
  obtain ⟨s,hs,_⟩:=I.best ok S.toFair ht
  exact (housed_mem ok I.stable).mpr ⟨s,hs⟩
 have l1:=len_sub (occ_nd X) A
 have l2:=len_sub (housed_nd S) B
 have l3:(m.housed μ).length=(m.occ μ).length:=List.length_map ..
 have l4:(m.housed X).length=(m.occ X).length:=List.length_map ..
 refine ⟨fun a=>⟨fun h=>(housed_mem ok S).mp (sub_back (housed_nd S) B (by omega) ((housed_mem ok I.stable).mpr h)),fun h=>(housed_mem ok I.stable).mp (B a ((housed_mem ok S).mpr h))⟩,fun s hs=>⟨fun h=>?_,fun h=>?_⟩⟩
 ·by_cases e:μ s = -1
  ·exact e
  ·exact absurd h (occ_mem.mp (sub_back (occ_nd X) A (by omega) (occ_mem.mpr ⟨hs,e⟩))).2
 ·by_cases e:X s = -1
  ·exact e
  ·exact absurd h (occ_mem.mp (A s (occ_mem.mpr ⟨hs,e⟩))).2
def withR (m:Mkt) (w:Nat) (R':List Nat):Mkt:=⟨m.n,m.k,fun a=>if a=w then R' else m.R a,m.key⟩
theorem withR_at (w:Nat) (R':List Nat):(m.withR w R').R w=R':=if_pos rfl
theorem withR_ne {w a:Nat} (R':List Nat) (h:a≠w):(m.withR w R').R a=m.R a:=if_neg h
theorem withR_ok (ok:m.Ok) {w:Nat} {R':List Nat} (hw:w<m.n) (hd:R'.Nodup) (hs:∀ s ∈ R',s ∈ m.R w):(m.withR w R').Ok:=by
 refine ⟨fun a ha=>?_,fun a ha s h=>?_,ok.ne⟩
 ·by_cases e:a=w
  ·subst e;rw [withR_at];exact hd
  ·rw [withR_ne _ e];exact ok.nd a ha
 ·by_cases e:a=w
  ·subst e;rw [withR_at] at h;exact ok.lt a ha s (hs s h)
  ·rw [withR_ne _ e] at h;exact ok.lt a ha s h
theorem pos_eq {m':Mkt} {a:Nat} (h:m'.R a=m.R a) (s:Nat):m'.pos a s=m.pos a s:=by unfold pos;rw [h]
theorem pos_pre {a s:Nat} {p r:List Nat} {m':Mkt} (h':m'.R a=p) (h:m.R a=p++r) (hs:s ∈ p):m'.pos a s=m.pos a s:=by
 unfold pos;rw [h',h,List.idxOf_append,if_pos hs]
theorem truth (ok:m.Ok) {w:Nat} {R':List Nat} (hw:w<m.n) (hd:R'.Nodup) (hsub:∀ s ∈ R',s ∈ m.R w) {H H1:Nat→Int} (I:m.Inv H []) (I1:(m.withR w R').Inv H1 []) {t:Nat} (ht:H1 t=w):∃ s,H s=w∧m.pos w s≤m.pos w t:=by
 have htR:t ∈ m.R w:=by
  have:=(I1.hold t w ht).2
  rw [withR_at] at this
  exact hsub t this
 obtain ⟨p,r,hR⟩:=List.append_of_mem htR
 have nd:=ok.nd w hw
 have hR2:m.R w=(p++[t])++r:=by rw [hR];simp
 have ok2:(m.withR w [t]).Ok:=withR_ok ok hw (by simp) (fun s h=>by rw [List.mem_singleton.mp h];exact htR)
 have hpre:∀ s ∈ p++[t],s ∈ m.R w:=fun s h=>by rw [hR2];exact List.mem_append_left _ h
 have ok3:(m.withR w (p++[t])).Ok:=withR_ok ok hw (by rw [hR2] at nd;exact (List.nodup_append.mp nd).1) hpre
 -- with its place alone among its wishes
 have S2:(m.withR w [t]).Stable H1:=by
  refine ⟨I1.form,fun s a h=>?_,I1.inj,fun a ha s hs=>?_⟩
  ·obtain ⟨q1,q2⟩:=I1.hold s a h
   refine ⟨q1,?_⟩
   by_cases e:a=w
   ·subst e
    rw [withR_at,I1.inj s t a h ht];simp
   ·rw [withR_ne _ e] at q2 ⊢;exact q2
  ·by_cases e:a=w
   ·subst e
    rw [withR_at] at hs
    rw [List.mem_singleton.mp hs]
    exact .inl ⟨t,ht,Nat.le_refl _⟩
   ·have e1:(m.withR w [t]).R a=(m.withR w R').R a:=by rw [withR_ne _ e,withR_ne _ e]
    rw [e1] at hs
    rcases I1.stab a ha (by simp) s hs with ⟨t',h1,h2⟩ | h1
    ·exact .inl ⟨t',h1,by rw [pos_eq e1,pos_eq e1];exact h2⟩
    ·exact .inr h1
 obtain ⟨H3,I3⟩:=exists_best ok3
 obtain ⟨H2,I2⟩:=exists_best ok2
 have hm3:∃ s,H3 s=w:=by
  by_cases e:∃ s,H3 s=w
  ·exact e
  ·exfalso
   have S3:(m.withR w [t]).Stable H3:=by
    refine ⟨I3.form,fun s a h=>?_,I3.inj,fun a ha s hs=>?_⟩
    ·obtain ⟨q1,q2⟩:=I3.hold s a h
     refine ⟨q1,?_⟩
     by_cases e2:a=w
     ·subst e2;exact absurd ⟨s,h⟩ e
     ·rw [withR_ne _ e2] at q2 ⊢;exact q2
    ·by_cases e2:a=w
     ·subst e2
      rw [withR_at] at hs
      rw [List.mem_singleton.mp hs]
      rcases I3.stab a ha (by simp) t (by rw [withR_at];simp) with ⟨t',h1,_⟩ | h1
      ·exact absurd ⟨t',h1⟩ e
      ·exact .inr h1
     ·have e1:(m.withR w [t]).R a=(m.withR w (p++[t])).R a:=by rw [withR_ne _ e2,withR_ne _ e2]
      rw [e1] at hs
      rcases I3.stab a ha (by simp) s hs with ⟨t',h1,h2⟩ | h1
      ·exact .inl ⟨t',h1,by rw [pos_eq e1,pos_eq e1];exact h2⟩
      ·exact .inr h1
   exact e (((rural ok2 I2 S3).1 w).mp (((rural ok2 I2 S2).1 w).mpr ⟨t,ht⟩))
 obtain ⟨s3,h3⟩:=hm3
 have hs3:s3 ∈ p++[t]:=by
  have:=(I3.hold s3 w h3).2
  rwa [withR_at] at this
 have htp:t ∉ p:=by
  rw [hR] at nd
  intro h
  exact (List.nodup_append.mp nd).2.2 t h t (List.mem_cons_self ..) rfl
 have ple:∀ s ∈ p++[t],m.pos w s≤m.pos w t:=fun s h=>by
  rcases List.mem_append.mp h with h | h
  ·exact Nat.le_of_lt ((pos_app hR htp (hpre s (List.mem_append_left _ h))).mp h)
  ·rw [List.mem_singleton.mp h];exact Nat.le_refl _
 have F3:m.Fair H3:=by
  refine ⟨I3.form,fun s a h=>?_,I3.inj,fun a ha s hs=>?_⟩
  ·obtain ⟨q1,q2⟩:=I3.hold s a h
   refine ⟨q1,?_⟩
   by_cases e:a=w
   ·subst e;rw [withR_at] at q2;exact hpre s q2
   ·rw [withR_ne _ e] at q2;exact q2
  ·by_cases e:a=w
   ·subst e
    by_cases e2:s ∈ p++[t]
    ·rcases I3.stab a ha (by simp) s (by rw [withR_at];exact e2) with ⟨t',h1,h2⟩ | h1
     ·have h4:=(I3.hold t' a h1).2
      rw [withR_at] at h4
      exact .inl ⟨t',h1,by rw [← pos_pre (withR_at a (p++[t])) hR2 h4,← pos_pre (withR_at a (p++[t])) hR2 e2];exact h2⟩
     ·exact .inr (.inr fun h2=>h1 (.inr h2))
    ·refine .inl ⟨s3,h3,Nat.le_trans (ple s3 hs3) ?_⟩
     rcases Nat.lt_or_ge (m.pos a s) (m.pos a t) with h | h
     ·exact absurd (List.mem_append_left _ ((pos_app hR htp hs).mpr h)) e2
     ·exact h
   ·have e1:m.R a=(m.withR w (p++[t])).R a:=by rw [withR_ne _ e]
    rw [e1] at hs
    rcases I3.stab a ha (by simp) s hs with ⟨t',h1,h2⟩ | h1
    ·exact .inl ⟨t',h1,by rw [pos_eq e1,pos_eq e1];exact h2⟩
    ·exact .inr (.inr fun h2=>h1 (.inr h2))
 obtain ⟨s,q1,q2⟩:=I.best ok F3 h3
 exact ⟨s,q1,Nat.le_trans q2 (ple s3 hs3)⟩
end Mkt
end Go.Proofs.Ytbcjojljiochfaa.walk
