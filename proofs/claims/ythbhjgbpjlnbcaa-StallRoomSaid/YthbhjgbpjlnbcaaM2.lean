/- Things that are handed out one by one, and loops that take them, and may stop. -/
import Derived.Test.YthbhjgbpjlnbcaaM1
import Derived.Test.YthbhjgbpjlnbcaaCodes
import Derived.Test.YthbhjgbpjlnbcaaWalkAll
set_option linter.unusedSimpArgs false
set_option maxHeartbeats 16000000
set_option linter.unusedVariables false
set_option maxRecDepth 10000
namespace Go.Abs
structure Takes {α:Type} (P:Program) (X:FuncId→List Nat) (N l k0 w rm:Nat) (own:Nat→Prop) (ev:α→List AV) (T:List α) (μ:List α→Nat→Prop) (J:List α→Heap→Nat→Prop) (D:List α→α→Nat→Heap→Nat→Prop):Prop where
 mono:∀ p m m',m'≤m→μ p m→μ p m'
 nil:∀ m,μ [] m
 keep:∀ p h h' n n',(∀ b,b≤l→h'.get b=h.get b)→n≤n'→J p h n→J p h' n'
 keepD:∀ p x k h h' n n',(∀ b,b≤l∨k≤b→h'.get b=h.get b)→n≤n'→D p x k h n→D p x k h' n'
 take:∀ p x rest (s:St),p++x::rest=T→J p s.h s.n→l<s.n→s.n+rm≤far→w≤s.m→s.m≤far→μ p s.m→∃ c s',Abs.call P X N (.yield l) (ev x) s=.val (.bool c) s'∧(c=true→J (p++[x]) s'.h s'.n)∧(c=false→D p x s.n s'.h s'.n) ∧
  (∀ y,y<s.n→y≠l→¬ own y→s'.h.get y=s.h.get y)∧s.n≤s'.n∧s'.n≤s.n+k0∧w≤s'.m∧s'.m≤s.m∧s'.m≤l∧μ (p++[x]) s'.m
def Ended {α:Type} (T:List α) (μ:List α→Nat→Prop) (J:List α→Heap→Nat→Prop) (D:List α→α→Nat→Heap→Nat→Prop) (h:Heap) (n m:Nat):Prop:=(J T h n∧μ T m)∨∃ p x rest k,p++x::rest=T∧D p x k h n∧μ (p++[x]) m
def Hands {α:Type} (P:Program) (X:FuncId→List Nat) (N Z cb:Nat) (H:Heap) (rd:Nat→Prop) (g:FuncId) (cap:List AV) (ev:α→List AV) (T:List α):Prop :=
 ∀ (l k0 w rm:Nat) (own:Nat→Prop) (μ:List α→Nat→Prop) (J:List α→Heap→Nat→Prop) (D:List α→α→Nat→Heap→Nat→Prop) (s:St),Takes P X N l k0 w rm own ev T μ J D→(∀ y,own y→¬ rd y∧y≤l)→¬ rd l→(∀ y,rd y→y<s.n∧s.h.get y=H.get y)→l<s.n→w≤l→s.n+10 * (k0+cb)+rm+1000≤far→J [] s.h s.n→w≤s.m→s.m≤far →
  ∃ s',Abs.call P X Z (.fn g) (.yield l::cap) s=.val (.tup []) s'∧Ended T μ J D s'.h s'.n s'.m∧(∀ y,y<s.n→y≠l→¬ own y→s'.h.get y=s.h.get y)∧s.n≤s'.n∧s'.n≤s.n+10 * (k0+cb)∧w≤s'.m∧s'.m≤s.m∧(T=[]∨s'.m≤l)
def loopO (c:Ctx) (L:Env) (ps:List Tmp) (a b:Code) (s:St):ALoop:=⟨.ready,none,c.fn,L,ps,a,b,s.n,c.nt,c.xs⟩
theorem jump_norm:jumpOf .norm=none:=rfl
theorem goes_norm:goesOn .norm=true:=rfl
theorem goes_other {e:Ex} (h:e≠.norm):goesOn e=false:=by cases e<;>first | rfl | exact absurd rfl h
theorem jumpA_other {L:Env} {d:List Nat} {s:St} {e:Ex} (h:e≠.norm):jumpA L d s (jumpOf e)=.done e L d s:=by cases e<;>first | rfl | exact absurd rfl h
theorem range_any {f:Arg} {ps:List Tmp} {a b:Code} {cl:CallF} {c:Ctx} {L:Env} {d:List Nat} {s s2:St} {v:AV} {r:ALoop} {e:Ex} (hc:c.rnd=none)
  (h:callV cl [.yield (s.n+1)] ((s.new .dfr).new (.loop ⟨.ready,none,c.fn,L,ps,a,b,s.n,c.nt,c.xs⟩)) (f.ev L)=.val v s2) (hr:s2.h.get (s.n+1)=some (.loop r)) (hb:r.state≠.busy) (hp:r.pending=jumpOf e) :
  kRange f ps a b cl c L d s=.done e L (s.n::d) (s2.put (s.n+1) (.loop { r with state:=.exhausted })):=by
 rw [range_eq hc h hr hb,hp]
 by_cases he:e=.norm
 ·subst he;rfl
 ·exact jumpA_other he
theorem hands_range {α:Type} {P:Program} {X:FuncId→List Nat} {M Z cb:Nat} {H:Heap} {rd:Nat→Prop} {g:FuncId} {cap:List AV} {ev:α→List AV} {T:List α} (hh:Hands P X (M+1) Z cb H rd g cap ev T) {f:Arg} {ps:List Tmp} {a b:Code} {ka kb:K} {c:Ctx} {L:Env} {d:List Nat} {s:St} (hc:c.rnd=none) (hf:f.ev L=.func g [] cap) (hps:∀ x,(ev x).length=ps.length) (ha:codeK P c.xs c.nt a=some ka) (hb:codeK P c.xs c.nt b=some kb)
  (k0 w rm:Nat) (own:Nat→Prop) (μ:List α→Nat→Prop) (μm:∀ p m m',m'≤m→μ p m→μ p m') (μ0:∀ m,μ [] m) (I:List α→Heap→Nat→Prop) (Q:Ex→List α→α→Nat→Heap→Nat→Prop) (hH:∀ y,rd y→y<s.n∧s.h.get y=H.get y) (ho:∀ y,own y→¬ rd y∧y<s.n) (hw:w≤s.n) (hwm:w≤s.m) (hm:s.m≤far) (hs:s.n+10 * (k0+cb)+rm+10000≤far)
  (hI0:I [] s.h s.n) (keep:∀ p h h' n n',(∀ y,y<s.n→h'.get y=h.get y)→n≤n'→I p h n→I p h' n') (keepQ:∀ e p x k h h' n n',(∀ y,y<s.n∨k≤y→h'.get y=h.get y)→n≤n'→Q e p x k h n→Q e p x k h' n')
  (round:∀ p x rest (t:St),p++x::rest=T→I p t.h t.n→(∀ y,y<s.n→¬ own y→t.h.get y=s.h.get y)→s.n+2≤t.n→t.n+rm≤far→w≤t.m→t.m≤far→μ p t.m→∃ L1 t1 e L2 t2,ka (Abs.call P X M) ⟨c.fn,some (s.n+1),c.nt,c.xs⟩ (setParams L ps (ev x)) [] t=.done .norm L1 [] t1∧t1.h.get (s.n+1)=t.h.get (s.n+1)∧kb (Abs.call P X M) ⟨c.fn,some (s.n+1),c.nt,c.xs⟩ L1 [] (t1.put (s.n+1) (.loop { loopO c L ps a b s with state:=.busy }))=.done e L2 [] t2∧(e=.norm→I (p++[x]) t2.h t2.n)∧(e≠.norm→Q e p x t.n t2.h t2.n)∧t2.h.get (s.n+1)=some (.loop { loopO c L ps a b s with state:=.busy })∧(∀ y,y<t.n→y≠s.n+1→¬ own y→t2.h.get y=t.h.get y)∧t.n≤t2.n∧t2.n≤t.n+k0∧w≤t2.m∧t2.m≤t.m∧μ (p++[x]) t2.m) :
  ∃ e s',kRange f ps a b (Abs.call P X Z) c L d s=.done e L (s.n::d) s'∧((e=.norm∧I T s'.h s'.n∧μ T s'.m)∨(e≠.norm∧∃ p x rest k,p++x::rest=T∧s.n+2≤k∧Q e p x k s'.h s'.n∧μ (p++[x]) s'.m))∧(∀ y,y<s.n→¬ own y→s'.h.get y=s.h.get y)∧s'.h.get s.n=some .dfr∧s.n+2≤s'.n∧s'.n≤s.n+2+10 * (k0+cb)∧w≤s'.m∧s'.m≤s.m:=by
 have hff:far=1000000000:=rfl
 obtain ⟨S0,hS0⟩:∃ S0:St,S0=(s.new .dfr).new (.loop (loopO c L ps a b s)):=⟨_,rfl⟩
 have n0:S0.n=s.n+2:=by rw [hS0];rfl
 have m0:S0.m=s.m:=by rw [hS0];rfl
 have g0:∀ y,y<s.n→S0.h.get y=s.h.get y:=fun y hy=>by rw [hS0,get_new_ne _ _ _ (by rw [new_n];omega),get_new_ne _ _ _ (by omega)]
 have gd:S0.h.get s.n=some .dfr:=by rw [hS0,get_new_ne _ _ _ (by rw [new_n];omega)];exact get_new_eq _ _ _ rfl (by omega)
 have gl:S0.h.get (s.n+1)=some (.loop (loopO c L ps a b s)):=by rw [hS0];exact get_new_eq _ _ _ rfl (by rw [new_n];omega)
 obtain ⟨s2,e2,hE,k2,k3,k4,k5,k6,_⟩:=hh (s.n+1) k0 w rm own μ (fun p h n=>h.get (s.n+1)=some (.loop (loopO c L ps a b s))∧I p h n∧(∀ y,y<s.n→¬ own y→h.get y=s.h.get y)∧h.get s.n=some .dfr∧s.n+1<n)
  (fun p x k h n=>s.n+2≤k∧∃ e,e≠.norm∧h.get (s.n+1)=some (.loop { loopO c L ps a b s with state:=.done,pending:=jumpOf e })∧Q e p x k h n∧(∀ y,y<s.n→¬ own y→h.get y=s.h.get y)∧h.get s.n=some .dfr∧s.n+1<n) S0
  ⟨μm,μ0,fun p h h' n n' hb hn ⟨j1,j2,j3,j4,j5⟩=>⟨(hb _ (Nat.le_refl _)).trans j1,keep p h h' n n' (fun y hy=>hb y (by omega)) hn j2,fun y hy ho'=>(hb y (by omega)).trans (j3 y hy ho'),(hb _ (by omega)).trans j4,by omega⟩,
  fun p x k h h' n n' hb hn ⟨hk,e,he,j1,j2,j3,j4,j5⟩=>⟨hk,e,he,(hb _ (.inl (Nat.le_refl _))).trans j1,keepQ e p x k h h' n n' (fun y hy=>hb y (by omega)) hn j2,fun y hy ho'=>(hb y (by omega)).trans (j3 y hy ho'),(hb _ (by omega)).trans j4,by omega⟩,
  fun p x rest t ht ⟨j1,j2,j3,j4,j5⟩ hl hfar hwt hmt hμ=>by
   obtain ⟨L1,t1,e,L2,t2,r1,r2,r3,r4,rQ,r5,r6,r7,r8,r9,r10,r11⟩:=round p x rest t ht j2 j3 (by omega) (by omega) hwt hmt hμ
   have hcr:=call_round (P:=P) (X:=X) (n:=M) (l:=s.n+1) (args:=ev x) (r:=loopO c L ps a b s) (r1:=loopO c L ps a b s) j1 (hps x) ha hb r1 (r2.trans j1) rfl r3 r5
   by_cases he:e=.norm
   ·subst he
    rw [goes_norm,jump_norm] at hcr
    refine ⟨true,_,hcr,fun _=>⟨get_put_eq _ _ _ _ rfl (by omega),keep _ _ _ _ _ (fun y hy=>get_put_ne' _ _ _ _ (by omega)) (Nat.le_refl _) (r4 rfl),fun y hy ho'=>?_,?_,by rw [put_n];omega⟩,fun h=>(by cases h),fun y hy hyl hyo=>?_,by rw [put_n];omega,by rw [put_n];omega,?_,?_,?_,μm _ _ _ (by simp only [St.put,minN_eq];omega) r11⟩
    ·rw [get_put_ne' _ _ _ _ (by omega),r6 y (by omega) (by omega) ho'];exact j3 y hy ho'
    ·rw [get_put_ne' _ _ _ _ (by omega),r6 s.n (by omega) (by omega) (fun h=>by have:=(ho _ h).2;omega)];exact j4
    ·rw [get_put_ne' _ _ _ _ hyl];exact r6 y hy hyl hyo
    ·simp only [St.put,minN_eq];omega
    ·simp only [St.put,minN_eq];omega
    ·simp only [St.put,minN_eq];omega
   ·rw [goes_other he] at hcr
    refine ⟨false,_,hcr,fun h=>(by cases h),fun _=>⟨by omega,e,he,get_put_eq _ _ _ _ rfl (by omega),keepQ _ _ _ _ _ _ _ _ (fun y hy=>get_put_ne' _ _ _ _ (by omega)) (Nat.le_refl _) (rQ he),fun y hy ho'=>?_,?_,by rw [put_n];omega⟩,fun y hy hyl hyo=>?_,by rw [put_n];omega,by rw [put_n];omega,?_,?_,?_,μm _ _ _ (by simp only [St.put,minN_eq];omega) r11⟩
    ·rw [get_put_ne' _ _ _ _ (by omega),r6 y (by omega) (by omega) ho'];exact j3 y hy ho'
    ·rw [get_put_ne' _ _ _ _ (by omega),r6 s.n (by omega) (by omega) (fun h=>by have:=(ho _ h).2;omega)];exact j4
    ·rw [get_put_ne' _ _ _ _ hyl];exact r6 y hy hyl hyo
    ·simp only [St.put,minN_eq];omega
    ·simp only [St.put,minN_eq];omega
    ·simp only [St.put,minN_eq];omega⟩
  (fun y hy=>⟨(ho y hy).1,by have:=(ho y hy).2;omega⟩) (fun h=>by have:=(hH _ h).1;omega) (fun y hy=>⟨by have:=(hH y hy).1;omega,(g0 y (hH y hy).1).trans (hH y hy).2⟩) (by omega) (by omega) (by omega) ⟨gl,keep [] s.h S0.h s.n S0.n g0 (by omega) hI0,fun y hy _=>g0 y hy,gd,by omega⟩ (by omega) (by omega)
 have hcall:callV (Abs.call P X Z) [.yield (s.n+1)] ((s.new .dfr).new (.loop ⟨.ready,none,c.fn,L,ps,a,b,s.n,c.nt,c.xs⟩)) (f.ev L)=.val (.tup []) s2:=by rw [hf,callV_func];rw [hS0] at e2;exact e2
 rcases hE with ⟨⟨j1,j2,j3,j4,j5⟩,j6⟩ | ⟨p,x,rest,k,hT,⟨hk,e,he,j1,j2,j3,j4,j5⟩,j6⟩
 ·have hr:=range_any (d:=d) (e:=.norm) hc hcall j1 (by show LoopState.ready≠LoopState.busy;simp) rfl
  refine ⟨.norm,_,hr,.inl ⟨rfl,keep _ _ _ _ _ (fun y hy=>get_put_ne' _ _ _ _ (by omega)) (Nat.le_refl _) j2,μm _ _ _ (by simp only [St.put,minN_eq];omega) j6⟩,fun y hy ho'=>?_,?_,by rw [put_n];omega,by rw [put_n];omega,?_,?_⟩
  ·rw [get_put_ne' _ _ _ _ (by omega)];exact j3 y hy ho'
  ·rw [get_put_ne' _ _ _ _ (by omega)];exact j4
  ·simp only [St.put,minN_eq];omega
  ·simp only [St.put,minN_eq];omega
 ·have hr:=range_any (d:=d) (e:=e) hc hcall j1 (by show LoopState.done≠LoopState.busy;simp) rfl
  refine ⟨e,_,hr,.inr ⟨he,p,x,rest,k,hT,hk,keepQ _ _ _ _ _ _ _ _ (fun y hy=>get_put_ne' _ _ _ _ (by omega)) (Nat.le_refl _) j2,μm _ _ _ (by simp only [St.put,minN_eq];omega) j6⟩,fun y hy ho'=>?_,?_,by rw [put_n];omega,by rw [put_n];omega,?_,?_⟩
  ·rw [get_put_ne' _ _ _ _ (by omega)];exact j3 y hy ho'
  ·rw [get_put_ne' _ _ _ _ (by omega)];exact j4
  ·simp only [St.put,minN_eq];omega
  ·simp only [St.put,minN_eq];omega
end Go.Abs
set_option maxRecDepth 10000
namespace Go.Proofs.Ythbhjgbpjlnbcaa.walk
open Go.Abs Go.Proofs.Ythbhjgbpjlnbcaa.code
theorem within_ok (N:Nat) (hN:1≤N) (x lo hi:Int) (s:St) (h0:lo≤x) (h1:x≤hi) (hs:s.n≤far):call Try.prog X N (.fn 66) [.int .i64 x,.int .i64 lo,.int .i64 hi] s=.val (.int .i64 0) s:=by
 obtain ⟨n,rfl⟩:∃ n,N=n+1:=⟨N - 1,by omega⟩
 refine call_plain (s':=⟨s.h,s.n,far⟩) Try.func66 ?_ rfl hs
 have e0:decide (x<lo)=false:=by simp;omega
 have e1:decide (hi<x)=false:=by simp;omega
 rw [enter66]
 simp only [res66,K66r0,K66r1s7,K66r1s6,K66r1s5,K66r1,K66r2,K66r3,K66,Abs.W,reduceIte,Nat.reduceEqDiff,Nat.reduceAdd,decide_true,decide_false,kLoop_def,Nat.reduceSub,List.cons_append,List.nil_append,List.append_nil,List.length_cons,List.length_nil,e0,e1]
theorem counted_ok (N:Nat) (hN:1≤N) (x lo hi:Int) (s:St) (h0:lo≤x) (h1:x≤hi) (hs:s.n≤far):call Try.prog X N (.fn 65) [.int .i64 x,.int .i64 lo,.int .i64 hi] s=.val (.int .i64 0) s:=by
 obtain ⟨n,rfl⟩:∃ n,N=n+1:=⟨N - 1,by omega⟩
 refine call_plain (s':=⟨s.h,s.n,far⟩) Try.func65 ?_ rfl hs
 have e0:decide (x<lo)=false:=by simp;omega
 have e1:decide (hi<x)=false:=by simp;omega
 rw [enter65]
 simp only [res65,K65r0,K65r1,K65r2,K65r3,K65r4,K65r5,K65,Abs.W,reduceIte,Nat.reduceEqDiff,Nat.reduceAdd,decide_true,decide_false,kLoop_def,Nat.reduceSub,List.cons_append,List.nil_append,List.append_nil,List.length_cons,List.length_nil,e0,e1]
theorem named_ok (N:Nat) (hN:1≤N) (x hi:Int) (s:St) (h0:0≤x) (h1:x<hi) (hs:s.n≤far):call Try.prog X N (.fn 48) [.int .i64 x,.int .i64 hi] s=.val (.int .i64 0) s:=by
 obtain ⟨n,rfl⟩:∃ n,N=n+1:=⟨N - 1,by omega⟩
 refine call_plain (s':=⟨s.h,s.n,far⟩) Try.func48 ?_ rfl hs
 have e0:decide (x<0)=false:=by simp;omega
 have e1:decide (hi≤x)=false:=by simp;omega
 rw [enter48]
 simp only [res48,K48r0,K48r1s6,K48r1s5,K48r1s4,K48r1,K48r2,K48r3,K48,Abs.W,reduceIte,Nat.reduceEqDiff,Nat.reduceAdd,decide_true,decide_false,kLoop_def,Nat.reduceSub,List.cons_append,List.nil_append,List.append_nil,List.length_cons,List.length_nil,e0,e1]
theorem or_loop (cl:CallF) (cx:Ctx) (k b o cap:Nat) (e:Bool) (c:List AV) (sz:Nat) (s:St) (hb:s.h.get b=some (.cells c sz)) (hc:∀ j,j<k→nth c (o+j)=.int .i64 0) (hk:k≤1000) :
  ∀ (m i fuel:Nat) (L:Env),i+m=k→m<fuel→L.find 6=.slice b o k cap e→L.find 7=.int .i64 k→L.find 8=.int .i64 i→L.find 3=.int .i64 0 →
  ∃ L',loopN K47l0 fuel cl cx L [] s=.done (.exit 0) L' [] s∧L'.find 3=.int .i64 0
 | m,i,0,L,hm,hf,h6,h7,h8,h3=>by omega
 | m,i,fuel+1,L,hm,hf,h6,h7,h8,h3=>by
  by_cases hlt:i<k
  ·obtain ⟨m',rfl⟩:∃ m',m=m'+1:=⟨m - 1,by omega⟩
   have e0:decide ((i:Int)<(k:Int))=true:=by simp;omega
   have e1:=hc i hlt
   have e2:decide ((0:Int)=0)=true:=rfl
   obtain ⟨L',hL,h3'⟩:=or_loop cl cx k b o cap e c sz s hb hc hk m' (i+1) fuel ((((L.set 9 (.bool true)).set 5 (.int .i64 0)).set 14 (.bool false)).set 8 (.int .i64 ((i:Int)+1))) (by omega) (by omega)
    (by simp only [Env.find_set,h6,reduceIte,Nat.reduceEqDiff]) (by simp only [Env.find_set,h7,reduceIte,Nat.reduceEqDiff]) (by simp only [Env.find_set,reduceIte];rfl) (by simp only [Env.find_set,h3,reduceIte,Nat.reduceEqDiff])
   refine ⟨L',?_,h3'⟩
   rw [← hL,loopN_succ]
   simp only [res47,K47r0,K47r1,K47r2,K47r3,K47r4,K47r5,K47r6,K47r7,K47l0,K47r8,K47,Abs.W,reduceIte,Nat.reduceEqDiff,Nat.reduceAdd,decide_true,decide_false,kLoop_def,Nat.reduceSub,List.cons_append,List.nil_append,List.append_nil,List.length_cons,List.length_nil,Env.find_set,h6,h7,h8,h3,e0,ixs_slice _ _ _ _ _ _ _ _ hlt,Nat.mul_one,hb,e1,e2,aAdd_i64 _ (i:Int) 1 (by omega)]
  ·have e0:decide ((i:Int)<(k:Int))=false:=by simp;omega
   refine ⟨L.set 9 (.bool false),?_,by simp only [Env.find_set,h3,reduceIte,Nat.reduceEqDiff]⟩
   rw [loopN_succ]
   simp only [res47,K47r0,K47r1,K47r2,K47r3,K47r4,K47r5,K47r6,K47r7,K47l0,K47r8,K47,Abs.W,reduceIte,Nat.reduceEqDiff,Nat.reduceAdd,decide_true,decide_false,kLoop_def,Nat.reduceSub,List.cons_append,List.nil_append,List.append_nil,List.length_cons,List.length_nil,Env.find_set,h6,h7,h8,h3,e0]
theorem or_ok (N:Nat) (hN:1≤N) (k b o cap:Nat) (e:Bool) (c:List AV) (sz:Nat) (s:St) (hb:s.h.get b=some (.cells c sz)) (hc:∀ j,j<k→nth c (o+j)=.int .i64 0) (hk:k≤1000) (hs:s.n≤far) :
  call Try.prog X N (.fn 47) [.slice b o k cap e] s=.val (.int .i64 0) s:=by
 obtain ⟨n,rfl⟩:∃ n,N=n+1:=⟨N - 1,by omega⟩
 refine call_plain' Try.func47 (fun u uh un um=>?_) rfl
 obtain ⟨L',hL,h3⟩:=or_loop (call Try.prog X n) ⟨47,none,Try.f47.ntmps,X 47⟩ k b o cap e c sz u (by rw [uh];exact hb) hc hk k 0 rounds
  (.cons 0 (.slice b o k cap e) (.cons 2 (.int .i64 0) (.cons 3 (.int .i64 0) (.cons 6 (.slice b o k cap e) (.cons 7 (.int .i64 k) (.cons 8 (.int .i64 0) .nil)))))) (by omega) (by unfold rounds;omega) rfl rfl rfl rfl
 rw [enter47]
 simp only [res47,K47r0,K47r1,K47r2,K47r3,K47r4,K47r5,K47r6,K47r7,K47r8,K47,Abs.W,reduceIte,Nat.reduceEqDiff,Nat.reduceAdd,decide_true,decide_false,kLoop_def,Nat.reduceSub,List.cons_append,List.nil_append,List.append_nil,List.length_cons,List.length_nil,hL,h3,Env.find_set]
 exact ⟨_,rfl,by rw [um,un];exact hs⟩
def allZ:List AV→Bool
 | []=>true
 | .int .i64 0::r=>allZ r
 | _=>false
theorem allZ_nth:∀ {c:List AV},allZ c=true→∀ j,j<c.length→nth c j=.int .i64 0
 | [],_,j,hj=>by simp at hj
 | a::r,h,j,hj=>by
  unfold allZ at h
  split at h
  ·rename_i heq;cases heq
  ·rename_i heq
   cases heq
   rw [nth_cons]
   cases j with
   | zero=>rfl
   | succ j=>rw [if_neg (by omega)];exact allZ_nth h j (by simpa using hj)
  ·cases h
theorem or_new (N:Nat) (hN:1≤N) (k:Nat) (c:List AV) (t:St) (hz:allZ c=true) (hl:c.length=k) (hk:k≤1000) (ht:t.n+1≤far) :
  call Try.prog X N (.fn 47) [.slice t.n 0 k k false] (t.new (.cells c 0))=.val (.int .i64 0) (t.new (.cells c 0)):=by
 obtain ⟨n,rfl⟩:∃ n,N=n+1:=⟨N - 1,by omega⟩
 have hf:far=1000000000:=rfl
 refine or_ok (n+1) (by omega) k t.n 0 k false c 0 _ (get_new_eq _ _ _ rfl (by omega)) (fun j hj=>?_) hk (by rw [new_n];omega)
 rw [Nat.zero_add]
 exact allZ_nth hz j (by omega)
theorem or_new4 (N:Nat) (hN:1≤N) (t:St) (ht:t.n+1≤far):call Try.prog X N (.fn 47) [.slice t.n 0 4 4 false] (t.new (.cells [.int .i64 0,.int .i64 0,.int .i64 0,.int .i64 0] 0))=.val (.int .i64 0) (t.new (.cells [.int .i64 0,.int .i64 0,.int .i64 0,.int .i64 0] 0)) :=
 or_new N hN 4 _ t rfl rfl (by omega) ht
end Go.Proofs.Ythbhjgbpjlnbcaa.walk
namespace Go.Abs
variable {P:Program}
structure Blk (h:Heap) (n b w tg:Nat) (rows:List (List AV)) (v:AV):Prop where
 wide:∀ r ∈ rows,r.length=w
 is:∃ e sz,v=.slice b 0 rows.length rows.length e∧b<n∧h.get b=some (.cells rows.flatten sz)∧(e=true→sz=w+tg)
theorem Blk.mono {h h':Heap} {n n' b w tg:Nat} {rows:List (List AV)} {v:AV} (r:Blk h n b w tg rows v) (hh:h'.get b=h.get b) (hn:n≤n'):Blk h' n' b w tg rows v :=
 ⟨r.wide,by obtain ⟨e,sz,h1,h2,h3,h4⟩:=r.is;exact ⟨e,sz,h1,by omega,by rw [hh];exact h3,h4⟩⟩
theorem Blk.lt {h:Heap} {n b w tg:Nat} {rows:List (List AV)} {v:AV} (r:Blk h n b w tg rows v):b<n:=by obtain ⟨e,sz,h1,h2,h3,h4⟩:=r.is;exact h2
theorem Blk.okA {h:Heap} {n b w tg:Nat} {rows:List (List AV)} {v:AV} (r:Blk h n b w tg rows v) (t:St):Abs.okA (.val v t)=.val v t:=by obtain ⟨e,sz,h1,h2,h3,h4⟩:=r.is;subst h1;rfl
theorem Blk.scal {h:Heap} {n b w tg:Nat} {rows:List (List AV)} {v:AV} (r:Blk h n b w tg rows v):v.scalar=true:=by obtain ⟨e,sz,h1,h2,h3,h4⟩:=r.is;subst h1;rfl
theorem Blk.cells {h:Heap} {n b w tg:Nat} {rows:List (List AV)} {v:AV} (r:Blk h n b w tg rows v):cellsOf 1 v=some [v]:=by obtain ⟨e,sz,h1,h2,h3,h4⟩:=r.is;subst h1;rfl
theorem Blk.scals {h:Heap} {n b w tg:Nat} {rows:List (List AV)} {v:AV} (r:Blk h n b w tg rows v) (l:List AV):scalars (v::l)=scalars l:=by obtain ⟨e,sz,h1,h2,h3,h4⟩:=r.is;subst h1;rfl
theorem Blk.len {h:Heap} {n b w tg:Nat} {rows:List (List AV)} {v:AV} (r:Blk h n b w tg rows v) (s:St):lenSlA s v=.val (.int .i64 rows.length) s:=by obtain ⟨e,sz,h1,h2,h3,h4⟩:=r.is;subst h1;rfl
theorem Blk.get {h:Heap} {n b w tg:Nat} {rows:List (List AV)} {v:AV} (r:Blk h n b w tg rows v):∃ sz,h.get b=some (.cells rows.flatten sz):=by obtain ⟨e,sz,h1,h2,h3,h4⟩:=r.is;exact ⟨sz,h3⟩
theorem Blk.ixs {h:Heap} {n b w tg:Nat} {rows:List (List AV)} {v:AV} (r:Blk h n b w tg rows v) {i:Nat} (hi:i<rows.length) (s:St):ixsA w s v (.int .i64 i)=.val (.ptr b (i * w)) s:=by
 obtain ⟨e,sz,h1,h2,h3,h4⟩:=r.is
 subst h1
 rw [ixs_slice _ _ _ _ _ _ _ _ hi,Nat.zero_add]
theorem Blk.cut {h:Heap} {n b w tg:Nat} {rows:List (List AV)} {v:AV} (r:Blk h n b w tg rows v) {i:Nat} (hi:i<rows.length):Abs.cut (i * w) w rows.flatten=some rows[i]:=flatten_cut r.wide hi
theorem Blk.at_ {h:Heap} {n b w tg:Nat} {rows:List (List AV)} {v:AV} (r:Blk h n b w tg rows v):RowsAt h n w rows v :=
 ⟨r.len,fun i hi=>by
  obtain ⟨sz,hg⟩:=r.get
  exact ⟨b,i * w,_,sz,r.lt,fun s=>r.ixs hi s,hg,r.cut hi⟩⟩
theorem endO_ok {M:Env} {l:List (Nat × Nat)} (s:St) (h:endOk M l=true):endO l (.ok M s)=.ok M s:=by
 show (match endOk M l with | true=>ORes.ok M s | false=>.fail)=_
 rw [h]
theorem endOk_nil (M:Env):endOk M []=true:=rfl
theorem endOk_cons {M:Env} {t u:Nat} {r:List (Nat × Nat)} (h:apartA (M.find t) (M.find u)=true):endOk M ((t,u)::r)=endOk M r:=by
 show (match apartA (M.find t) (M.find u) with | true=>endOk M r | false=>false)=_
 rw [h]
theorem apart_slice {b c o n k p:Nat} {e:Bool} (h:b≠c):apartA (.slice b o n k e) (.ptr c p)=true:=by
 unfold apartA
 simp [blockOf,nbeq_f h]
theorem Blk.apart {h:Heap} {n b w tg c o:Nat} {rows:List (List AV)} {v:AV} (r:Blk h n b w tg rows v) (hc:b≠c):apartA v (.ptr c o)=true:=by
 obtain ⟨e,sz,h1,h2,h3,h4⟩:=r.is
 subst h1;exact apart_slice hc
end Go.Abs
set_option maxRecDepth 10000
namespace Go.Abs
structure IsAt (h:Heap) (n b w tg:Nat) (rows:List (List AV)) (v:AV):Prop where
 wide:∀ r ∈ rows,r.length=w
 is:(rows=[]∧v=.nilslice)∨(rows≠[]∧b<n∧v=.slice b 0 rows.length rows.length true∧h.get b=some (.cells rows.flatten (w+tg)))
theorem IsAt.nil (h:Heap) (n b w tg:Nat):IsAt h n b w tg [] .nilslice:=⟨fun _ hr=>(by cases hr),.inl ⟨rfl,rfl⟩⟩
theorem IsAt.mono {h h':Heap} {n n' b w tg:Nat} {rows:List (List AV)} {v:AV} (r:IsAt h n b w tg rows v) (hh:b<n→h'.get b=h.get b) (hn:n≤n'):IsAt h' n' b w tg rows v :=
 ⟨r.wide,r.is.imp id fun ⟨h1,h2,h3,h4⟩=>⟨h1,by omega,h3,by rw [hh h2];exact h4⟩⟩
theorem IsAt.rows {h:Heap} {n b w tg:Nat} {rows:List (List AV)} {v:AV} (r:IsAt h n b w tg rows v):Rows h 0 n w tg rows v :=
 ⟨r.wide,r.is.imp id fun ⟨_,h2,h3,h4⟩=>⟨b,Nat.zero_le _,h2,h3,h4⟩⟩
theorem IsAt.okA {h:Heap} {n b w tg:Nat} {rows:List (List AV)} {v:AV} (r:IsAt h n b w tg rows v) (t:St):Abs.okA (.val v t)=.val v t:=okA_ne r.rows.at_.ne
theorem IsAt.scal {h:Heap} {n b w tg:Nat} {rows:List (List AV)} {v:AV} (r:IsAt h n b w tg rows v):scalars [v]=true∧cellsOf 1 v=some [v]:=by
 rcases r.is with ⟨_,h2⟩ | ⟨_,_,h3,_⟩
 ·subst h2;exact ⟨rfl,rfl⟩
 ·subst h3;exact ⟨rfl,rfl⟩
theorem append_at {s:St} {b w bytes tg:Nat} {rows:List (List AV)} {v:AV} (r:IsAt s.h s.n b w tg rows v) {p sz:Nat} {row:List AV} (hp:s.h.get p=some (.cells row sz)) (hw:row.length=w) (hsc:scalars row=true)
  (hb:(rows.length+1) * bytes≤1000000) (htg:szOf (w+tg)=w) (hs:s.n<549755813888) :
  ∃ s',appendA false w bytes tg s v (.slice p 0 1 1 false)=.val (.slice s.n 0 (rows.length+1) (rows.length+1) true) s'∧IsAt s'.h s'.n s.n w tg (rows++[row]) (.slice s.n 0 (rows.length+1) (rows.length+1) true)∧s'.n=s.n+1∧(∀ c,c<s.n→c≠b→s'.h.get c=s.h.get c)∧(∀ k,k≤b→k≤s.n→k≤s.m→k≤s'.m)∧s'.m≤s.m:=by
 rcases r.is with ⟨h1,h2⟩ | ⟨h1,h2,h3,h4⟩
 ·obtain ⟨v',s',e1,e2,e3,e4,e5,e6,e7,e8⟩:=append_row (lo:=s.n) (bytes:=bytes) (⟨r.wide,.inl ⟨h1,h2⟩⟩:Rows s.h s.n s.n w tg rows v) hp hw hsc hb htg hs (Nat.le_refl _)
  subst e8
  refine ⟨s',e1,⟨e2.wide,.inr ⟨by simp,by omega,by simp,?_⟩⟩,e3,fun c hc _=>e4 c hc,fun k _ hk hm=>e6 k hk hm,e7⟩
  rcases e2.is with ⟨z,_⟩ | ⟨b',_,_,z2,z3⟩
  ·simp at z
  ·injection z2 with z2
   rw [z2];exact z3
 ·obtain ⟨v',s',e1,e2,e3,e4,e5,e6,e7,e8⟩:=append_row (lo:=b) (bytes:=bytes) (⟨r.wide,.inr ⟨b,Nat.le_refl _,h2,h3,h4⟩⟩:Rows s.h b s.n w tg rows v) hp hw hsc hb htg hs (by omega)
  subst e8
  refine ⟨s',e1,⟨e2.wide,.inr ⟨by simp,by omega,by simp,?_⟩⟩,e3,fun c hc hcb=>e5 c hc (by rw [h3];intro z;injection z with z;exact hcb z.symm),fun k hk _ hm=>e6 k hk hm,e7⟩
  rcases e2.is with ⟨z,_⟩ | ⟨b',_,_,z2,z3⟩
  ·simp at z
  ·injection z2 with z2
   rw [z2];exact z3
theorem kSlice_def (f:Option AV→Option AV→St→AV→ARes) (x:Arg) (lo hi:Option Arg) (L:Env) (s:St):kSlice f x lo hi L s=f (optEv lo L) (optEv hi L) s (x.ev L):=rfl
theorem optEv_some (a:Arg) (L:Env):optEv (some a) L=some (a.ev L):=rfl
theorem optEv_none (L:Env):optEv none L=none:=rfl
theorem boundA_nat (y i:Nat) (k:IntKind) (h:i≤y):boundA y (.int k (i:Int))=some i:=by
 show (match Nat.ble i y with | true=>some i | false=>none)=_
 rw [Nat.ble_eq_true_of_le h]
theorem slice_from (w:Nat) (s:St) (b o n c i:Nat) (e:Bool) (h:n≤c) (hi:i≤n) (hc:i<c):sliceVal w (some (.int .i64 (i:Int))) none s (.slice b o n c e)=.val (.slice b (o+i * w) (n - i) (c - i) e) s:=by
 have e1:boundsA n c (some (.int .i64 (i:Int))) none=some (i,n):=by
  unfold boundsA hiA loA
  simp only [boundA_nat _ _ _ hi]
 have e2:Nat.beq c i=false:=nbeq_f (by omega)
 unfold sliceVal
 simp only [Nat.ble_eq_true_of_le h,e1,e2]
theorem slice_to (w:Nat) (s:St) (b o n c i:Nat) (e:Bool) (h:n≤c) (hi:i≤c) (hc:0<c):sliceVal w none (some (.int .i64 (i:Int))) s (.slice b o n c e)=.val (.slice b o i c e) s:=by
 have e1:boundsA n c none (some (.int .i64 (i:Int)))=some (0,i):=by
  unfold boundsA hiA loA
  simp only [boundA_nat _ _ _ hi]
 have e2:Nat.beq c 0=false:=nbeq_f (by omega)
 unfold sliceVal
 simp only [Nat.ble_eq_true_of_le h,e1,e2,Nat.zero_mul,Nat.add_zero,Nat.sub_zero]
theorem nth_skip:∀ (a l:List AV) (k:Nat),nth (a++l) (a.length+k)=nth l k
 | [],l,k=>by rw [List.length_nil,Nat.zero_add,List.nil_append]
 | x::a,l,k=>by rw [List.length_cons,List.cons_append,show a.length+1+k=(a.length+k)+1 by omega,nth_cons,if_neg (by omega)];exact nth_skip a l k
theorem nth_front:∀ (R l:List AV) (k:Nat),k<R.length→nth (R++l) k=nth R k
 | [],l,k,h=>by simp at h
 | x::R,l,0,h=>rfl
 | x::R,l,k+1,h=>by rw [List.cons_append,nth_cons,nth_cons,if_neg (by omega),if_neg (by omega),Nat.add_sub_cancel];exact nth_front R l k (by simpa using h)
theorem cut_nth {o k i:Nat} {c r:List AV} (h:cut o k c=some r) (hi:i<k):nth c (o+i)=nth r i:=by
 obtain ⟨a,t,q1,q2,q3⟩:=cut_some h
 rw [q1,← q2,List.append_assoc,nth_skip,nth_front _ _ _ (by omega)]
theorem scal_ln {s:St} {v w:AV} (h:lenSlA s v=.val w s):v.scalar=true:=by cases v<;>first | rfl | cases h
end Go.Abs
namespace Go.Proofs.Ythbhjgbpjlnbcaa.walk
open Go.Abs
def intRows (l:List Int):List (List AV):=l.map fun x=>[.int .i64 x]
theorem intRows_len (l:List Int):(intRows l).length=l.length:=List.length_map ..
theorem intRows_snoc (l:List Int) (x:Int):intRows (l++[x])=intRows l++[[.int .i64 x]]:=by unfold intRows;rw [List.map_append];rfl
theorem intRow_at {h:Heap} {n:Nat} {l:List Int} {v:AV} (r:RowsAt h n 1 (intRows l) v) {i:Nat} (hi:i<l.length):∃ b p c sz,b<n∧(∀ s,ixsA 1 s v (.int .i64 i)=.val (.ptr b p) s)∧h.get b=some (.cells c sz)∧nth c p=.int .i64 (l.getD i 0):=by
 obtain ⟨b,p,c,sz,h1,h2,h3,h4⟩:=r.at_ i (by rw [intRows_len];exact hi)
 have e:(intRows l)[i]'(by rw [intRows_len];exact hi)=[.int .i64 (l.getD i 0)]:=by simp [intRows,List.getD,hi]
 rw [e] at h4
 exact ⟨b,p,c,sz,h1,h2,h3,cut1_nth h4⟩
def LAt (h:Heap) (n bl:Nat) (l:List Int) (v:AV):Prop:=∃ x,x≠bl∧IsAt h n x 1 (tag 3) (intRows l) v
theorem LAt.nil (h:Heap) (n bl:Nat):LAt h n bl [] .nilslice:=⟨bl+1,by omega,IsAt.nil _ _ _ _ _⟩
theorem LAt.move {h h':Heap} {n n' bl bl':Nat} {l:List Int} {v:AV} (a:LAt h n bl l v) (hh:∀ c,c<n→c≠bl→h'.get c=h.get c) (hn:n≤n') (hb:bl'=bl∨n≤bl'):LAt h' n' bl' l v:=by
 obtain ⟨x,h1,h2⟩:=a
 rcases h2.is with ⟨h3,h4⟩ | ⟨_,h3,_⟩
 ·exact ⟨bl'+1,by omega,h2.wide,.inl ⟨h3,h4⟩⟩
 ·exact ⟨x,by omega,h2.mono (fun _=>hh x h3 h1) hn⟩
theorem LAt.rows {h:Heap} {n bl:Nat} {l:List Int} {v:AV} (a:LAt h n bl l v):RowsAt h n 1 (intRows l) v:=by obtain ⟨x,_,h⟩:=a;exact h.rows.at_
def pickL:Nat→Nat→List Nat→List Nat
 | 0,_,_=>[]
 | m+1,T,l=>l.getD (T % l.length) 0::pickL m (T / l.length) (l.eraseIdx (T % l.length))
theorem pickL_len:∀ (m T:Nat) (l:List Nat),(pickL m T l).length=m
 | 0,_,_=>rfl
 | m+1,T,l=>by unfold pickL;rw [List.length_cons,pickL_len m]
theorem getElem_inj {l:List Nat} (hd:l.Nodup):∀ {i j:Nat} (hi:i<l.length) (hj:j<l.length),l[i]=l[j]→i=j:=by
 intro i j hi hj h
 have key:=List.pairwise_iff_getElem.mp hd
 rcases Nat.lt_trichotomy i j with c | c | c
 ·exact absurd h (key i j hi hj c)
 ·exact c
 ·exact absurd h.symm (key j i hj hi c)
end Go.Proofs.Ythbhjgbpjlnbcaa.walk
set_option maxRecDepth 10000
namespace Go.Abs
structure Sl (no:Nat→Prop) (h:Heap) (n w:Nat) (rows:List (List AV)) (v:AV):Prop where
 wide:∀ r ∈ rows,r.length=w
 is:(rows=[]∧v=.nilslice)∨∃ b o cap e c sz,b<n∧no b∧(rows.length≤cap∧(e=true→0<cap))∧v=.slice b o rows.length cap e∧h.get b=some (.cells c sz)∧cut o (rows.length * w) c=some rows.flatten
theorem Sl.nil (no:Nat→Prop) (h:Heap) (n w:Nat):Sl no h n w [] .nilslice:=⟨fun _ hr=>(by cases hr),.inl ⟨rfl,rfl⟩⟩
theorem Sl.seq {no:Nat→Prop} {h:Heap} {n w:Nat} {rows:List (List AV)} {v:AV} (r:Sl no h n w rows v):Seq h n w rows v :=
 ⟨r.wide,r.is.imp id fun ⟨b,o,cap,e,c,sz,h1,_,_,h4,h5,h6⟩=>⟨b,o,cap,e,c,sz,h1,h4,h5,h6⟩⟩
theorem Sl.at_ {no:Nat→Prop} {h:Heap} {n w:Nat} {rows:List (List AV)} {v:AV} (r:Sl no h n w rows v):RowsAt h n w rows v:=r.seq.at_
theorem Sl.okA {no:Nat→Prop} {h:Heap} {n w:Nat} {rows:List (List AV)} {v:AV} (r:Sl no h n w rows v) (t:St):Abs.okA (.val v t)=.val v t:=okA_ne r.at_.ne
theorem Sl.len {no:Nat→Prop} {h:Heap} {n w:Nat} {rows:List (List AV)} {v:AV} (r:Sl no h n w rows v) (s:St):lenSlA s v=.val (.int .i64 rows.length) s:=r.at_.len s
theorem Sl.move {no no':Nat→Prop} {h h':Heap} {n n' w:Nat} {rows:List (List AV)} {v:AV} (r:Sl no h n w rows v) (hh:∀ b,b<n→no b→h'.get b=h.get b∧no' b) (hn:n≤n'):Sl no' h' n' w rows v :=
 ⟨r.wide,r.is.imp id fun ⟨b,o,cap,e,c,sz,h1,h2,h3,h4,h5,h6⟩=>⟨b,o,cap,e,c,sz,by omega,(hh b h1 h2).2,h3,h4,by rw [(hh b h1 h2).1];exact h5,h6⟩⟩
theorem Sl.grow {no:Nat→Prop} {h h':Heap} {n n' w:Nat} {rows:List (List AV)} {v:AV} (r:Sl no h n w rows v) (hh:∀ b,b<n→h'.get b=h.get b) (hn:n≤n'):Sl no h' n' w rows v:=r.move (fun b h1 h2=>⟨hh b h1,h2⟩) hn
theorem Sl.scal {no:Nat→Prop} {h:Heap} {n w:Nat} {rows:List (List AV)} {v:AV} (r:Sl no h n w rows v):scalars [v]=true∧cellsOf 1 v=some [v]∧∀ l,scalars (v::l)=scalars l:=by
 rcases r.is with ⟨_,h2⟩ | ⟨b,o,cap,e,c,sz,_,_,_,h2,_⟩<;>subst h2<;>exact ⟨rfl,rfl,fun _=>rfl⟩
theorem Sl.kept {no:Nat→Prop} {h h':Heap} {n w:Nat} {rows:List (List AV)} {v:AV} (r:Sl no h n w rows v) (hh:∀ b,b<n→no b→h'.get b=h.get b):keptV h h' v=true:=by
 rcases r.is with ⟨_,h2⟩ | ⟨b,o,cap,e,c,sz,h1,h3,_,h2,h4,_⟩
 ·subst h2;rfl
 ·subst h2;rw [keptV_slice,hh b h1 h3,h4,sameO_cells]
theorem Sl.apart {no:Nat→Prop} {h:Heap} {n w c p:Nat} {rows:List (List AV)} {v:AV} (r:Sl no h n w rows v) (hc:¬ no c):apartA v (.ptr c p)=true:=by
 rcases r.is with ⟨_,h2⟩ | ⟨b,o,cap,e,q,sz,h1,h3,_,h2,h4,_⟩
 ·subst h2;rfl
 ·subst h2;exact apart_slice (fun e=>hc (e▸h3))
theorem take_snoc {α:Type} {l:List α} {i:Nat} (h:i<l.length):l.take (i+1)=l.take i++[l[i]]:=by rw [List.take_add_one];simp [h]
theorem Sl.get {no:Nat→Prop} {h:Heap} {n w:Nat} {rows:List (List AV)} {v:AV} (r:Sl no h n w rows v) {i:Nat} (hi:i<rows.length):∃ b p c sz,b<n∧no b∧(∀ s,ixsA w s v (.int .i64 (i:Int))=.val (.ptr b p) s)∧h.get b=some (.cells c sz)∧Abs.cut p w c=some rows[i]:=by
 rcases r.is with ⟨h1,_⟩ | ⟨b,o,cap,e,c,sz,h1,h2,h3,h4,h5,h6⟩
 ·subst h1;simp at hi
 ·subst h4
  exact ⟨b,o+i * w,c,sz,h1,h2,fun s=>ixs_slice _ _ _ _ _ _ _ _ hi,h5,cut_cut h6 (flatten_cut r.wide hi)⟩
theorem flatten_take {w:Nat}:∀ {rows:List (List AV)} {i:Nat},(∀ r ∈ rows,r.length=w)→i≤rows.length→(rows.take i).flatten=rows.flatten.take (i * w)
 | [],i,_,h=>by simp at h;subst h;simp
 | r::rs,0,_,_=>by simp
 | r::rs,i+1,hw,h=>by
  have h1:=hw r (List.mem_cons_self ..)
  rw [List.take_succ_cons,List.flatten_cons,List.flatten_cons,flatten_take (fun x hx=>hw x (List.mem_cons_of_mem _ hx)) (by simpa using h),show (i+1) * w=r.length+i * w by rw [h1,Nat.succ_mul];omega,List.take_length_add_append]
theorem cut_less {o k j:Nat} {c F:List AV} (h:cut o k c=some F) (hj:j≤k):cut o j c=some (F.take j):=by
 obtain ⟨a,t,h3,h4,h5⟩:=cut_some h
 have e:F=F.take j++F.drop j:=(List.take_append_drop j F).symm
 have l:(F.take j).length=j:=by rw [List.length_take];omega
 rw [h3,← h4,List.append_assoc]
 have:=cut_skip a (F++t) 0 j
 rw [Nat.add_zero] at this
 rw [this,cut_zero]
 conv=>lhs;rw [e,List.append_assoc]
 have h6:=cut1_app (F.take j) (F.drop j++t)
 rw [l] at h6
 exact h6
theorem Sl.to {no:Nat→Prop} {h:Heap} {n w i:Nat} {rows:List (List AV)} {v:AV} (r:Sl no h n w rows v) (hi:i≤rows.length):∃ v',(∀ s,sliceVal w none (some (.int .i64 (i:Int))) s v=.val v' s)∧Sl no h n w (rows.take i) v':=by
 have wd:∀ x ∈ rows.take i,x.length=w:=fun x hx=>r.wide x (List.mem_of_mem_take hx)
 rcases r.is with ⟨h1,h2⟩ | ⟨b,o,cap,e,c,sz,q1,q2,q3,q4,q5,q6⟩
 ·subst h1;subst h2
  have:i=0:=by simpa using hi
  subst this
  exact ⟨.nilslice,fun s=>rfl,wd,.inl ⟨rfl,rfl⟩⟩
 ·subst q4
  have ln:(rows.take i).length=i:=by rw [List.length_take];omega
  have e1:boundsA rows.length cap none (some (.int .i64 (i:Int)))=some (0,i):=by
   unfold boundsA hiA loA
   simp only [boundA_nat _ _ _ (by have:=q3.1;omega:i≤cap)]
  have q7:cut o (i * w) c=some (rows.take i).flatten:=by
   rw [flatten_take r.wide hi]
   exact cut_less q6 (Nat.mul_le_mul_right _ hi)
  by_cases hc:cap=0
  ·subst hc
   have hr:rows=[]:=List.length_eq_zero_iff.mp (by have:=q3.1;omega)
   subst hr
   have:i=0:=by simpa using hi
   subst this
   cases e with
   | false =>
    refine ⟨.slice b o (0 - 0) 0 false,fun s=>?_,wd,.inr ⟨b,o,0,false,c,sz,q1,q2,⟨by simp,fun h=>(by cases h)⟩,by simp,q5,q6⟩⟩
    unfold sliceVal
    simp only [Nat.ble_eq_true_of_le q3.1,e1,Nat.zero_mul,Nat.add_zero]
    rfl
   | true=>exact absurd (q3.2 rfl) (Nat.lt_irrefl 0)
  ·refine ⟨.slice b o i cap e,fun s=>?_,wd,.inr ⟨b,o,cap,e,c,sz,q1,q2,⟨by have:=q3.1;omega,q3.2⟩,by rw [ln],q5,by rw [ln];exact q7⟩⟩
   unfold sliceVal
   simp only [Nat.ble_eq_true_of_le q3.1,e1,nbeq_f hc,Nat.zero_mul,Nat.add_zero,Nat.sub_zero]
theorem Sl.of_blk {no:Nat→Prop} {h:Heap} {n b w tg:Nat} {rows:List (List AV)} {v:AV} (r:Blk h n b w tg rows v) (hb:no b) (h0:rows≠[]):Sl no h n w rows v:=by
 obtain ⟨e,sz,h1,h2,h3,h4⟩:=r.is
 exact ⟨r.wide,.inr ⟨b,0,rows.length,e,_,sz,h2,hb,⟨Nat.le_refl _,fun _=>List.length_pos_iff.mpr h0⟩,h1,h3,by rw [cut_zero,← flatten_len r.wide,cut1_all]⟩⟩
theorem Sl.of_at {no:Nat→Prop} {h:Heap} {n b w tg:Nat} {rows:List (List AV)} {v:AV} (r:IsAt h n b w tg rows v) (hb:b<n→no b):Sl no h n w rows v:=by
 rcases r.is with ⟨h1,h2⟩ | ⟨h1,h2,h3,h4⟩
 ·exact ⟨r.wide,.inl ⟨h1,h2⟩⟩
 ·exact ⟨r.wide,.inr ⟨b,0,rows.length,true,_,_,h2,hb h2,⟨Nat.le_refl _,fun _=>List.length_pos_iff.mpr h1⟩,h3,h4,by rw [cut_zero,← flatten_len r.wide,cut1_all]⟩⟩
end Go.Abs
set_option maxRecDepth 10000
namespace Go.Proofs.Ythbhjgbpjlnbcaa.walk
open Go.Abs Go.Proofs.Ythbhjgbpjlnbcaa.code
structure StallR where (rule least heir:Int)
def StallR.cells (s:StallR):List AV:=[.int .i64 s.rule,.int .i64 s.least,.int .i64 s.heir]
structure Appl where
 (years token:Int)
 (wishes bids:List Int)
structure Letting where
 stalls:List StallR
 appls:List Appl
structure StallR.Ok (m:Nat) (s:StallR):Prop where
 r0:1≤s.rule
 r1:s.rule≤3
 l0:0≤s.least
 l1:s.least≤1000
 h0 : -1≤s.heir
 h1:s.heir<m
structure Appl.Ok (k:Nat) (a:Appl):Prop where
 y0:0≤a.years
 y1:a.years≤60
 t0:0≤a.token
 t1:a.token≤1000000000
 w:∀ x ∈ a.wishes,0≤x∧x<k
 nd:a.wishes.Nodup
 wl:a.wishes.length≤8
 bl:a.bids.length=a.wishes.length
 b:∀ x ∈ a.bids,0≤x∧x≤1000000
structure Letting.Ok (l:Letting):Prop where
 k0:1≤l.stalls.length
 k1:l.stalls.length≤8
 m1:l.appls.length≤8
 st:∀ s ∈ l.stalls,s.Ok l.appls.length
 ap:∀ a ∈ l.appls,a.Ok l.stalls.length
def Appl.row (a:Appl) (w:AV × AV):List AV:=[.int .i64 a.years,.int .i64 a.token,w.1,w.2]
def rowsOf (l:List Appl) (ws:List (AV × AV)):List (List AV):=List.zipWith Appl.row l ws
theorem rowsOf_len {l:List Appl} {ws:List (AV × AV)} (h:ws.length=l.length):(rowsOf l ws).length=l.length:=by unfold rowsOf;rw [List.length_zipWith,h,Nat.min_self]
structure LetAt (no na:Nat→Prop) (h:Heap) (n:Nat) (l:Letting) (vS vA:AV):Prop where
 st:Sl no h n 3 (l.stalls.map StallR.cells) vS
 ap:∃ ws:List (AV × AV),ws.length=l.appls.length∧Sl na h n 4 (rowsOf l.appls ws) vA∧∀ i (h1:i<ws.length) (h2:i<l.appls.length),Sl no h n 1 (intRows l.appls[i].wishes) ws[i].1∧Sl no h n 1 (intRows l.appls[i].bids) ws[i].2
abbrev letV (vS vA:AV):List AV:=[vS,vA]
section
variable {no na no' na':Nat→Prop} {h h':Heap} {n n':Nat} {l:Letting} {vS vA:AV}
theorem LetAt.move (r:LetAt no na h n l vS vA) (hh:∀ b,b<n→no b→h'.get b=h.get b∧no' b) (ha:∀ b,b<n→na b→h'.get b=h.get b∧na' b) (hn:n≤n'):LetAt no' na' h' n' l vS vA:=by
 obtain ⟨s,ws,q1,q2,q3⟩:=r
 exact ⟨s.move hh hn,ws,q1,q2.move ha hn,fun i h1 h2=>⟨(q3 i h1 h2).1.move hh hn,(q3 i h1 h2).2.move hh hn⟩⟩
theorem LetAt.grow (r:LetAt no na h n l vS vA) (hh:∀ b,b<n→h'.get b=h.get b) (hn:n≤n'):LetAt no na h' n' l vS vA:=r.move (fun b h1 h2=>⟨hh b h1,h2⟩) (fun b h1 h2=>⟨hh b h1,h2⟩) hn
theorem LetAt.lenS (r:LetAt no na h n l vS vA) (s:St):lenSlA s vS=.val (.int .i64 l.stalls.length) s:=by have:=r.st.len s;rwa [List.length_map] at this
theorem LetAt.lenA (r:LetAt no na h n l vS vA) (s:St):lenSlA s vA=.val (.int .i64 l.appls.length) s:=by
 obtain ⟨_,ws,q1,q2,q3⟩:=r
 have:=q2.len s
 rwa [rowsOf_len q1] at this
theorem LetAt.okS (r:LetAt no na h n l vS vA) (t:St):okA (.val vS t)=.val vS t:=r.st.okA t
theorem LetAt.okV (r:LetAt no na h n l vS vA) (t:St):okA (.val vA t)=.val vA t:=by obtain ⟨_,ws,q1,q2,q3⟩:=r;exact q2.okA t
theorem LetAt.scal (r:LetAt no na h n l vS vA):scalars [vS,vA]=true:=by
 obtain ⟨s,ws,q1,q2,q3⟩:=r
 rw [s.scal.2.2]
 exact q2.scal.1
theorem LetAt.getA (r:LetAt no na h n l vS vA) {i:Nat} (hi:i<l.appls.length):∃ (w:AV × AV) (b p:Nat) (c:List AV) (sz:Nat),b<n∧(∀ s,ixsA 4 s vA (.int .i64 (i:Int))=.val (.ptr b p) s)∧h.get b=some (.cells c sz)∧cut p 4 c=some [.int .i64 l.appls[i].years,.int .i64 l.appls[i].token,w.1,w.2]∧Sl no h n 1 (intRows l.appls[i].wishes) w.1∧Sl no h n 1 (intRows l.appls[i].bids) w.2:=by
 obtain ⟨s,ws,q1,q2,q3⟩:=r
 have hw:i<ws.length:=by omega
 obtain ⟨b,p,c,sz,z1,z2,z3,z4⟩:=q2.at_.at_ i (by rw [rowsOf_len q1];exact hi)
 have e:(rowsOf l.appls ws)[i]'(by rw [rowsOf_len q1];exact hi)=l.appls[i].row ws[i]:=by unfold rowsOf;exact List.getElem_zipWith ..
 rw [e] at z4
 exact ⟨ws[i],b,p,c,sz,z1,z2,z3,z4,q3 i hw hi⟩
theorem LetAt.getS (r:LetAt no na h n l vS vA) {i:Nat} (hi:i<l.stalls.length):∃ (b p:Nat) (c:List AV) (sz:Nat),b<n∧(∀ s,ixsA 3 s vS (.int .i64 (i:Int))=.val (.ptr b p) s)∧h.get b=some (.cells c sz)∧cut p 3 c=some [.int .i64 l.stalls[i].rule,.int .i64 l.stalls[i].least,.int .i64 l.stalls[i].heir]:=by
 obtain ⟨b,p,c,sz,z1,z2,z3,z4⟩:=r.st.at_.at_ i (by rw [List.length_map];exact hi)
 rw [List.getElem_map] at z4
 exact ⟨b,p,c,sz,z1,z2,z3,z4⟩
theorem LetAt.getA2 (r:LetAt no na h n l vS vA) {i:Nat} (hi:i<l.appls.length):∃ (w:AV × AV) (b p:Nat) (c:List AV) (sz:Nat),(b<n∧na b)∧(∀ s,ixsA 4 s vA (.int .i64 (i:Int))=.val (.ptr b p) s)∧h.get b=some (.cells c sz)∧cut p 4 c=some [.int .i64 l.appls[i].years,.int .i64 l.appls[i].token,w.1,w.2]∧Sl no h n 1 (intRows l.appls[i].wishes) w.1∧Sl no h n 1 (intRows l.appls[i].bids) w.2:=by
 obtain ⟨s,ws,q1,q2,q3⟩:=r
 have hw:i<ws.length:=by omega
 obtain ⟨b,p,c,sz,z1,z0,z2,z3,z4⟩:=q2.get (i:=i) (by rw [rowsOf_len q1];exact hi)
 have e:(rowsOf l.appls ws)[i]'(by rw [rowsOf_len q1];exact hi)=l.appls[i].row ws[i]:=by unfold rowsOf;exact List.getElem_zipWith ..
 rw [e] at z4
 exact ⟨ws[i],b,p,c,sz,⟨z1,z0⟩,z2,z3,z4,q3 i hw hi⟩
theorem LetAt.getS2 (r:LetAt no na h n l vS vA) {i:Nat} (hi:i<l.stalls.length):∃ (b p:Nat) (c:List AV) (sz:Nat),(b<n∧no b)∧(∀ s,ixsA 3 s vS (.int .i64 (i:Int))=.val (.ptr b p) s)∧h.get b=some (.cells c sz)∧cut p 3 c=some [.int .i64 l.stalls[i].rule,.int .i64 l.stalls[i].least,.int .i64 l.stalls[i].heir]:=by
 obtain ⟨b,p,c,sz,z1,z0,z2,z3,z4⟩:=r.st.get (i:=i) (by rw [List.length_map];exact hi)
 rw [List.getElem_map] at z4
 exact ⟨b,p,c,sz,⟨z1,z0⟩,z2,z3,z4⟩
end
theorem named_neg (N:Nat) (hN:1≤N) (hi:Int) (s:St) (hs:s.n≤far):call Try.prog X N (.fn 48) [.int .i64 (-1),.int .i64 hi] s=.val (.int .i64 3) s:=by
 obtain ⟨n,rfl⟩:∃ n,N=n+1:=⟨N - 1,by omega⟩
 refine call_plain (s':=⟨s.h,s.n,far⟩) Try.func48 ?_ rfl hs
 have e0:decide ((-1:Int)<0)=true:=rfl
 rw [enter48]
 simp only [res48,K48r0,K48r1s6,K48r1s5,K48r1s4,K48r1,K48r2,K48r3,K48,Abs.W,reduceIte,Nat.reduceEqDiff,Nat.reduceAdd,decide_true,decide_false,kLoop_def,Nat.reduceSub,List.cons_append,List.nil_append,List.append_nil,List.length_cons,List.length_nil,e0]
/-! ### Lists of numbers -/
theorem rowInt {h:Heap} {n:Nat} {l:List Int} {v:AV} (r:RowsAt h n 1 (intRows l) v) {i:Nat} (hi:i<l.length):∃ b p c sz,b<n∧(∀ s,ixsA 1 s v (.int .i64 (i:Int))=.val (.ptr b p) s)∧h.get b=some (.cells c sz)∧nth c p=.int .i64 l[i]:=by
 obtain ⟨b,p,c,sz,h1,h2,h3,h4⟩:=intRow_at r hi
 refine ⟨b,p,c,sz,h1,h2,h3,?_⟩
 rw [h4]
 simp [List.getD,hi]
theorem rowLen {h:Heap} {n:Nat} {l:List Int} {v:AV} (r:RowsAt h n 1 (intRows l) v) (s:St):lenSlA s v=.val (.int .i64 l.length) s:=by have:=r.len s;rwa [intRows_len] at this
theorem index_ex {N:Nat} {l:List Int} {x:Int} {v:AV} {s:St} {r:ARes} (hr:call Try.prog X N (.fn 83) [v,.int .i64 x] s=r) (hN:1≤N) (hR:RowsAt s.h s.n 1 (intRows l) v) (hl:l.length≤1000) (hs:s.n+10≤far) :
  ∃ i:Int,r=.val (.int .i64 i) s∧(0≤i↔x ∈ l):=by
 obtain ⟨n,rfl⟩:∃ n,N=n+1:=⟨N - 1,by omega⟩
 obtain ⟨w,e,i,rfl,hi⟩:=call_some (n:=n) (s:=s) (k:=0) (args:=[v,.int .i64 x]) (Q:=fun w=>∃ i:Int,w=.int .i64 i∧(0≤i↔x ∈ l)) Try.func83 (fun u uh un um=>by
  rw [← uh,← un] at hR
  have kv:∀ t,okA (.val v t)=.val v t:=fun t=>okA_ne hR.ne
  have lv:=rowLen hR
  have hf:far=1000000000:=rfl
  rw [enter83]
  simp (disch:=first|omega|(with_unfolding_all exact rfl)|(simp only[new_n,put_n,new_m];omega)|(refine put_m_le ?_;simp only[new_m];omega)) only [res83,K83r0,K83r1,K83r2,K83r3,K83r4,K83r5,K83r6,K83r7,K83,Abs.W,reduceIte,Nat.reduceEqDiff,Nat.reduceAdd,decide_true,decide_false,kLoop_def,Nat.reduceSub,List.cons_append,List.nil_append,List.append_nil,List.length_cons,List.length_nil,Env.find_set,kv,lv]
  generalize hlp:loopN _ rounds _ _ _ _ _=q1
  obtain ⟨e,L1,s1,rfl,rfl,hQ⟩:=loop_of hlp (fun i L t=>t=u∧L.find 0=v∧L.find 1=.int .i64 x∧L.find 7=.int .i64 l.length∧L.find 8=.int .i64 i∧x ∉ l.take i)
   (fun e L t=>t=u∧((e=.ret∧∃ i:Nat,L.find 4=.int .i64 (i:Int)∧x ∈ l)∨(e=.exit 0∧x ∉ l))) l.length (by unfold rounds;omega)
   ⟨rfl,by simp only [find_cons,Env.find_set,reduceIte,Nat.reduceEqDiff],by simp only [find_cons,Env.find_set,reduceIte,Nat.reduceEqDiff],by simp only [find_cons,Env.find_set,reduceIte,Nat.reduceEqDiff],by simp only [find_cons,Env.find_set,reduceIte,Nat.reduceEqDiff];rfl,by simp⟩
   (fun i L t hi ⟨ht,q0,q1,q7,q8,hx⟩=>by
    subst ht
    by_cases hlt:i<l.length
    ·have e0:decide ((i:Int)<(l.length:Int))=true:=decide_eq_true (by omega)
     obtain ⟨b,p,c,sz,r1,r2,r3,r4⟩:=rowInt hR hlt
     have ad:∀ s,aAdd s .i64 (i:Int) 1=.val (.int .i64 ((i:Int)+1)) s:=fun s=>aAdd_i64 s _ _ (by omega)
     by_cases he:x=l[i]
     ·have e1:decide (x=l[i])=true:=decide_eq_true he
      refine .inr ⟨.ret,_,t,by simp,by
       simp (disch:=first|omega|(with_unfolding_all exact rfl)|(simp only[new_n,put_n,new_m];omega)|(refine put_m_le ?_;simp only[new_m];omega)) only [res83,K83r0,K83r1,K83r2,K83r3,K83r4,K83r5,K83r6,K83r7,K83,K83l0,Abs.W,reduceIte,Nat.reduceEqDiff,Nat.reduceAdd,decide_true,decide_false,kLoop_def,Nat.reduceSub,List.cons_append,List.nil_append,List.append_nil,List.length_cons,List.length_nil,Env.find_set,q0,q1,q7,q8,e0,kv,r2,r3,r4,e1]
       rfl,rfl,.inl ⟨rfl,i,by simp only [Env.find_set,reduceIte,Nat.reduceEqDiff],by rw [he];exact List.getElem_mem hlt⟩⟩
     ·have e1:decide (x=l[i])=false:=decide_eq_false he
      refine .inl ⟨hlt,_,t,by
       simp (disch:=first|omega|(with_unfolding_all exact rfl)|(simp only[new_n,put_n,new_m];omega)|(refine put_m_le ?_;simp only[new_m];omega)) only [res83,K83r0,K83r1,K83r2,K83r3,K83r4,K83r5,K83r6,K83r7,K83,K83l0,Abs.W,reduceIte,Nat.reduceEqDiff,Nat.reduceAdd,decide_true,decide_false,kLoop_def,Nat.reduceSub,List.cons_append,List.nil_append,List.append_nil,List.length_cons,List.length_nil,Env.find_set,q0,q1,q7,q8,e0,kv,r2,r3,r4,e1,ad]
       rfl,rfl,?_,?_,?_,?_,?_⟩
      ·simp only [Env.find_set,q0,reduceIte,Nat.reduceEqDiff]
      ·simp only [Env.find_set,q1,reduceIte,Nat.reduceEqDiff]
      ·simp only [Env.find_set,q7,reduceIte,Nat.reduceEqDiff]
      ·simp only [Env.find_set,reduceIte,Nat.reduceEqDiff];rfl
      ·rw [take_snoc hlt,List.mem_append,List.mem_singleton]
       exact fun h=>h.elim hx he
    ·obtain rfl:i=l.length:=by omega
     have e0:decide ((l.length:Int)<(l.length:Int))=false:=by simp
     refine .inr ⟨.exit 0,L.set 9 (.bool false),t,by simp,?_,rfl,.inr ⟨rfl,by rwa [List.take_length] at hx⟩⟩
     simp (disch:=first|omega|(with_unfolding_all exact rfl)|(simp only[new_n,put_n,new_m];omega)|(refine put_m_le ?_;simp only[new_m];omega)) only [res83,K83r0,K83r1,K83r2,K83r3,K83r4,K83r5,K83r6,K83r7,K83,K83l0,Abs.W,reduceIte,Nat.reduceEqDiff,Nat.reduceAdd,decide_true,decide_false,kLoop_def,Nat.reduceSub,List.cons_append,List.nil_append,List.append_nil,List.length_cons,List.length_nil,Env.find_set,q7,q8,e0])
  have hB:Beside s1 s1 0:=Beside.refl s1 (by omega) um
  rcases hQ with ⟨rfl,i,h4,hx⟩ | ⟨rfl,hx⟩
  ·simp (disch:=first|omega|(with_unfolding_all exact rfl)|(simp only[new_n,put_n,new_m];omega)|(refine put_m_le ?_;simp only[new_m];omega)) only [res83,K83r0,K83r1,K83r2,K83r3,K83r4,K83r5,K83r6,K83r7,K83,Abs.W,reduceIte,Nat.reduceEqDiff,Nat.reduceAdd,decide_true,decide_false,kLoop_def,Nat.reduceSub,List.cons_append,List.nil_append,List.append_nil,List.length_cons,List.length_nil,Env.find_set,h4]
   exact ⟨_,_,rfl,hB,rfl,_,rfl,by simp [hx]⟩
  ·simp (disch:=first|omega|(with_unfolding_all exact rfl)|(simp only[new_n,put_n,new_m];omega)|(refine put_m_le ?_;simp only[new_m];omega)) only [res83,K83r0,K83r1,K83r2,K83r3,K83r4,K83r5,K83r6,K83r7,K83,Abs.W,reduceIte,Nat.reduceEqDiff,Nat.reduceAdd,decide_true,decide_false,kLoop_def,Nat.reduceSub,List.cons_append,List.nil_append,List.append_nil,List.length_cons,List.length_nil,Env.find_set]
   exact ⟨_,_,rfl,hB,rfl,_,rfl,by simp [hx]⟩)
 exact ⟨i,hr.symm.trans e,hi⟩
theorem contains_ok (N:Nat) (hN:2≤N) (l:List Int) (x:Int) (v:AV) (s:St) (hR:RowsAt s.h s.n 1 (intRows l) v) (hl:l.length≤1000) (hs:s.n+20≤far) :
  call Try.prog X N (.fn 60) [v,.int .i64 x] s=.val (.bool (decide (x ∈ l))) s:=by
 obtain ⟨n,rfl⟩:∃ n,N=n+1:=⟨N - 1,by omega⟩
 refine call_plain' Try.func60 (fun u uh un um=>?_) rfl
 rw [← uh,← un] at hR
 have kv:∀ t,okA (.val v t)=.val v t:=fun t=>okA_ne hR.ne
 have hf:far=1000000000:=rfl
 rw [enter60]
 simp (disch:=first|omega|(with_unfolding_all exact rfl)|(simp only[new_n,put_n,new_m];omega)|(refine put_m_le ?_;simp only[new_m];omega)) only [res60,K60r0,K60r1,K60,Abs.W,reduceIte,Nat.reduceEqDiff,Nat.reduceAdd,decide_true,decide_false,kLoop_def,Nat.reduceSub,List.cons_append,List.nil_append,List.append_nil,List.length_cons,List.length_nil,Env.find_set,kv]
 generalize hc:call _ _ _ (.fn 83) _ _=r1
 obtain ⟨i,rfl,hi⟩:=index_ex hc (by omega) hR hl (by omega)
 have e:decide (0≤i)=decide (x ∈ l):=by
  by_cases h:x ∈ l
  ·rw [decide_eq_true h,decide_eq_true (hi.mpr h)]
  ·rw [decide_eq_false h,decide_eq_false (fun h'=>h (hi.mp h'))]
 simp (disch:=first|omega|(with_unfolding_all exact rfl)|(simp only[new_n,put_n,new_m];omega)|(refine put_m_le ?_;simp only[new_m];omega)) only [res60,K60r0,K60r1,K60,Abs.W,reduceIte,Nat.reduceEqDiff,Nat.reduceAdd,decide_true,decide_false,kLoop_def,Nat.reduceSub,List.cons_append,List.nil_append,List.append_nil,List.length_cons,List.length_nil,Env.find_set,e]
 exact ⟨_,rfl,by omega⟩
end Go.Proofs.Ythbhjgbpjlnbcaa.walk
