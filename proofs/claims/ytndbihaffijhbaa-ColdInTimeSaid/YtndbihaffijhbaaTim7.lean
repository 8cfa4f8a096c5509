/- The truth of one end: its lists, made by appends. -/
import Derived.Test.YtndbihaffijhbaaTim6
import Derived.Test.YtndbihaffijhbaaM1
import Derived.Test.YtndbihaffijhbaaM5
import Derived.Test.YtndbihaffijhbaaCodes
import Derived.Test.YtndbihaffijhbaaM4
import Derived.Test.YtndbihaffijhbaaAbsPiece
import Derived.Test.YtndbihaffijhbaaProg
import Derived.Tactics
import Derived.Tactics2
import Derived.WalkKit
import Derived.OpenShut
import Derived.Below
import Derived.Lib.Hide
import Derived.KernelRfl
import Derived.Deep.RegionHeld3
import Derived.OwnWalk
import Derived.StillTailTactics
import Derived.Test.YtndbihaffijhbaaAbsTop
import Derived.Test.YtndbihaffijhbaaAbsWalk
import Derived.Test.YtndbihaffijhbaaAwake
import Derived.Test.YtndbihaffijhbaaWalkAll
set_option linter.unusedSimpArgs false
set_option maxHeartbeats 16000000
set_option linter.unusedVariables false
set_option maxRecDepth 10000
namespace Go.Proofs.Ytndbihaffijhbaa.walk
open Go.Abs Go.Proofs.Ytndbihaffijhbaa.code
theorem all_snoc {α:Type} {P:Nat→α→Prop} {l:List α} {x:α} (h:∀ j (hj:j<l.length),P j l[j]) (hx:P l.length x):∀ j (hj:j<(l++[x]).length),P j (l++[x])[j]:=by
 intro j hj
 by_cases e:j<l.length
 ·rw [List.getElem_append_left e];exact h j e
 ·have:j=l.length:=by rw [List.length_append,List.length_singleton] at hj;omega
  subst this
  rw [List.getElem_append_right (Nat.le_refl _)]
  simpa using hx
theorem edge_hall {N:Nat} {r:R} {cx:Ctx} {L:Env} {s:St} {hl hh:Int} {v1 v2 v3:AV} {q:Bool} {p3 p7 z3 z7:Nat} (hours:Nat) (hr:loopN K20l0 rounds (call Try.prog X N) cx L [] s=r) (hN:1≤N) (hh5:hours≤500) (h37:p3<p7) (hp7:p7<s.n) (hs:s.n+5000≤far) (hsm:s.m≤far)
  (g3:s.h.get p3=some (.cells [.int .i64 hl,.int .i64 hh,v1,v2,v3] z3)) (g7:s.h.get p7=some (.cells [.nilslice,.nilslice,.nilslice,.nilslice,.nilslice] z7))
  (l1:L.find 1=.int .i64 hours) (l2:L.find 2=.bool q) (l3:L.find 3=.ptr p3 0) (l7:L.find 7=.ptr p7 0) (l8:L.find 8=.int .i64 0) :
  ∃ (L1:Env) (s1:St) (b:Nat) (l:List Int) (v:AV),r=.done (.exit 0) L1 [] s1∧(∀ t,t=1∨t=2∨t=3∨t=6∨t=7→L1.find t=L.find t)∧l.length=hours∧(∀ x ∈ l,x=if q then hl else hh)∧s.n≤b∧IntsAt s1.h s1.n b l v ∧
   s1.h.get p7=some (.cells [.nilslice,.nilslice,.nilslice,.nilslice,v] z7)∧(∀ c,c<s.n→c≠p7→s1.h.get c=s.h.get c)∧s.n≤s1.n∧s1.n≤s.n+2 * hours∧(∀ k,k≤p7→k≤s.m→k≤s1.m)∧s1.m≤far:=by
 have hff:far=1000000000:=rfl
 obtain ⟨e,L1,s1,rfl,rfl,b,l,v,h⟩:=loop_of hr
  (fun i L' t=>∃ (b:Nat) (l:List Int) (v:AV),(∀ t,t=1∨t=2∨t=3∨t=6∨t=7→L'.find t=L.find t)∧L'.find 8=.int .i64 i∧l.length=i∧(∀ x ∈ l,x=if q then hl else hh)∧s.n≤b∧IntsAt t.h t.n b l v∧t.h.get p7=some (.cells [.nilslice,.nilslice,.nilslice,.nilslice,v] z7)∧(∀ c,c<s.n→c≠p7→t.h.get c=s.h.get c)∧s.n≤t.n∧t.n≤s.n+2 * i∧(∀ k,k≤p7→k≤s.m→k≤t.m)∧t.m≤far)
  (fun e L1 s1=>e=.exit 0∧∃ (b:Nat) (l:List Int) (v:AV),(∀ t,t=1∨t=2∨t=3∨t=6∨t=7→L1.find t=L.find t)∧l.length=hours∧(∀ x ∈ l,x=if q then hl else hh)∧s.n≤b∧IntsAt s1.h s1.n b l v∧s1.h.get p7=some (.cells [.nilslice,.nilslice,.nilslice,.nilslice,v] z7)∧(∀ c,c<s.n→c≠p7→s1.h.get c=s.h.get c)∧s.n≤s1.n∧s1.n≤s.n+2 * hours∧(∀ k,k≤p7→k≤s.m→k≤s1.m)∧s1.m≤far)
  hours (by unfold rounds;omega) ⟨far+1,[],.nilslice,fun _ _=>rfl,l8,rfl,fun x hx=>(by cases hx),by omega,IsAt.nil _ _ _ _ _,g7,fun _ _ _=>rfl,Nat.le_refl _,Nat.le_refl _,fun _ _ h=>h,hsm⟩
  (fun i L' t hi ⟨b,l,v,q0,q8,ql,qx,qb,qI,qg,qs,qn,qk,qm,qf⟩=>by
   have k1:=(q0 1 (by simp)).trans l1
   have k2:=(q0 2 (by simp)).trans l2
   have k3:=(q0 3 (by simp)).trans l3
   have k7:=(q0 7 (by simp)).trans l7
   have g3t:=(qs p3 (by omega) (by omega)).trans g3
   by_cases hlt:i<hours
   ·have e0:decide ((i:Int)<(hours:Int))=true:=decide_eq_true (by omega)
    have okv:∀ t,okA (.val v t)=.val v t:=fun t=>okA_ne qI.at_.ne
    have E:=end_ok N hN hl hh q ⟨t.h,t.n,far⟩ (by show t.n+10≤far;omega)
    obtain ⟨x,hx⟩:∃ x:Int,x=if q then hl else hh:=⟨_,rfl⟩
    rw [← hx] at E
    have hnn:(t.new (.cells [.int .i64 x] 0)).n=t.n+1:=rfl
    obtain ⟨s',e1,e2,e3,e4,e5,e6⟩:=append_at (s:=t.new (.cells [.int .i64 x] 0)) (bytes:=8) (row:=[.int .i64 x]) (qI.mono (fun h=>get_new_ne _ _ _ (by omega)) (Nat.le_succ _)) (get_new_eq _ _ _ rfl (by omega)) rfl rfl (by rw [ints_len];omega) (by kernel_rfl) (by omega)
    have hp:s'.h.get p7=_:=(e4 p7 (by omega) (by omega)).trans ((get_new_ne _ _ _ (by omega)).trans qg)
    have a1:∀ s,aAdd s .i64 (i:Int) 1=.val (.int .i64 ((i:Int)+1)) s:=fun s=>aAdd_i64 s _ _ (by omega)
    have htn:t.n≤far:=by omega
    refine .inl ⟨hlt,((L'.set 18 (.bool true)).set 8 (.int .i64 ((i:Int)+1))),s'.put p7 (.cells [.nilslice,.nilslice,.nilslice,.nilslice,.slice (t.n+1) 0 ((ints l).length+1) ((ints l).length+1) true] z7),?_,t.n+1,l++[x],_,fun t ht=>?_,?_,by rw [List.length_append,ql];rfl,?_,by omega,?_,get_put_eq _ _ _ _ rfl (by omega),fun c hc hcp=>?_,by simp only [put_n];omega,by simp only [put_n];omega,fun k hk hm=>?_,?_⟩
    ·simp (disch:=first|omega|(with_unfolding_all exact rfl)|(simp only[new_n,put_n,new_m];omega)|(refine put_m_le ?_;simp only[new_m];omega)) only [K20l0,K20r3,K20r4,K20r5,Abs.W,reduceIte,Nat.reduceEqDiff,Nat.reduceAdd,decide_true,decide_false,kLoop_def,Nat.reduceSub,Env.find_set,k1,k2,k3,k7,q8,e0,qg,g3t,okv,E,thenT_same _ _ _ _ _ _ _ htn qf,e1,hp,a1,endO_nil,regD_ok,Nat.zero_add]
     rfl
    ·rcases ht with rfl | rfl | rfl | rfl | rfl<;>simp only [Env.find_set,reduceIte,Nat.reduceEqDiff]
     all_goals exact q0 _ (by simp)
    ·simp only [Env.find_set,reduceIte];rfl
    ·intro y hy
     rcases List.mem_append.mp hy with h | h
     ·exact qx y h
     ·simp at h;rw [h,hx]
    ·rw [ints_snoc] at e2
     exact e2.mono (fun _=>get_put_ne' _ _ _ _ (by omega)) (Nat.le_refl _)
    ·rw [get_put_ne' _ _ _ _ hcp,e4 c (by omega) (by omega),get_new_ne _ _ _ (by omega)];exact qs c hc hcp
    ·have:=e5 k (by omega) (by omega) (by rw [new_m];exact qm k hk hm)
     simp only [St.put,minN_eq];omega
    ·rw [new_m] at e6
     simp only [St.put,minN_eq];omega
   ·obtain rfl:i=hours:=by omega
    have e0:decide ((i:Int)<(i:Int))=false:=by simp
    refine .inr ⟨.exit 0,L'.set 18 (.bool false),t,by simp,?_,rfl,b,l,v,fun t ht=>?_,ql,qx,qb,qI,qg,qs,qn,qk,qm,qf⟩
    ·simp (disch:=first|omega|(with_unfolding_all exact rfl)|(simp only[new_n,put_n,new_m];omega)|(refine put_m_le ?_;simp only[new_m];omega)) only [K20l0,K20r3,Abs.W,reduceIte,Nat.reduceEqDiff,Nat.reduceAdd,decide_true,decide_false,kLoop_def,Nat.reduceSub,Env.find_set,k1,q8,e0]
    ·rw [← q0 t ht]
     rcases ht with rfl | rfl | rfl | rfl | rfl<;>simp only [Env.find_set,reduceIte,Nat.reduceEqDiff])
 exact ⟨L1,s1,b,l,v,rfl,h⟩
theorem edge_rows {N:Nat} {r:R} {cx:Ctx} {L:Env} {s:St} {B:Box} {q:Bool} {p10 z:Nat} (hours:Nat) (hr:loopN K20l1 rounds (call Try.prog X N) cx L [] s=r) (hN:1≤N) (hh5:hours≤500) (hp:p10<s.n) (hs:s.n+9000≤far) (hsm:s.m≤far)
  (g:s.h.get p10=some (.cells B.cells z)) (l1:L.find 1=.int .i64 hours) (l2:L.find 2=.bool q) (l10:L.find 10=.ptr p10 0) (l11:L.find 11=.nilslice) (l12:L.find 12=.nilslice) (l13:L.find 13=.nilslice) (l14:L.find 14=.int .i64 0) :
  ∃ (L1:Env) (s1:St) (b1 b2 b3:Nat) (x y w:List Int) (vx vy vw:AV),r=.done (.exit 4) L1 [] s1∧(∀ t,t=1∨t=2∨t=3∨t=6∨t=7∨t=9→L1.find t=L.find t)∧(L1.find 11=vx∧L1.find 12=vy∧L1.find 13=vw)∧(x.length=hours∧y.length=hours∧w.length=hours) ∧
   ((∀ e ∈ x,e=if q then B.ml else B.mh)∧(∀ e ∈ y,e=if q then B.cl else B.ch)∧(∀ e ∈ w,e=if q then B.wl else B.wh))∧(s.n≤b1∧s.n≤b2∧s.n≤b3)∧IntsAt s1.h s1.n b1 x vx∧IntsAt s1.h s1.n b2 y vy∧IntsAt s1.h s1.n b3 w vw ∧
   (∀ c,c<s.n→s1.h.get c=s.h.get c)∧s.n≤s1.n∧s1.n≤s.n+6 * hours∧(∀ k,k≤s.n→k≤s.m→k≤s1.m)∧s1.m≤far:=by
 have hff:far=1000000000:=rfl
 obtain ⟨e,L1,s1,rfl,rfl,b1,b2,b3,x,y,w,vx,vy,vw,h0,h1,h2,h3,h4,_,h5⟩:=loop_of hr
  (fun i L' t=>∃ (b1 b2 b3:Nat) (x y w:List Int) (vx vy vw:AV),(∀ t,t=1∨t=2∨t=3∨t=6∨t=7∨t=9→L'.find t=L.find t)∧(L'.find 11=vx∧L'.find 12=vy∧L'.find 13=vw)∧(x.length=i∧y.length=i∧w.length=i) ∧
   ((∀ e ∈ x,e=if q then B.ml else B.mh)∧(∀ e ∈ y,e=if q then B.cl else B.ch)∧(∀ e ∈ w,e=if q then B.wl else B.wh))∧(s.n≤b1∧s.n≤b2∧s.n≤b3)∧((b1≠b2∧b1≠b3∧b2≠b3)∧(b1<t.n∨far<b1)∧(b2<t.n∨far<b2)∧(b3<t.n∨far<b3))∧IntsAt t.h t.n b1 x vx∧IntsAt t.h t.n b2 y vy∧IntsAt t.h t.n b3 w vw ∧
   (∀ c,c<s.n→t.h.get c=s.h.get c)∧s.n≤t.n∧t.n≤s.n+6 * i∧(∀ k,k≤s.n→k≤s.m→k≤t.m)∧t.m≤far∧L'.find 10=.ptr p10 0∧L'.find 14=.int .i64 i)
  (fun e L1 s1=>e=.exit 4∧∃ (b1 b2 b3:Nat) (x y w:List Int) (vx vy vw:AV),(∀ t,t=1∨t=2∨t=3∨t=6∨t=7∨t=9→L1.find t=L.find t)∧(L1.find 11=vx∧L1.find 12=vy∧L1.find 13=vw)∧(x.length=hours∧y.length=hours∧w.length=hours) ∧
   ((∀ e ∈ x,e=if q then B.ml else B.mh)∧(∀ e ∈ y,e=if q then B.cl else B.ch)∧(∀ e ∈ w,e=if q then B.wl else B.wh))∧(s.n≤b1∧s.n≤b2∧s.n≤b3)∧((b1≠b2∧b1≠b3∧b2≠b3)∧(b1<s1.n∨far<b1)∧(b2<s1.n∨far<b2)∧(b3<s1.n∨far<b3))∧IntsAt s1.h s1.n b1 x vx∧IntsAt s1.h s1.n b2 y vy∧IntsAt s1.h s1.n b3 w vw ∧
   (∀ c,c<s.n→s1.h.get c=s.h.get c)∧s.n≤s1.n∧s1.n≤s.n+6 * hours∧(∀ k,k≤s.n→k≤s.m→k≤s1.m)∧s1.m≤far)
  hours (by unfold rounds;omega) ⟨far+1,far+2,far+3,[],[],[],_,_,_,fun _ _=>rfl,⟨l11,l12,l13⟩,⟨rfl,rfl,rfl⟩,⟨fun x hx=>(by cases hx),fun x hx=>(by cases hx),fun x hx=>(by cases hx)⟩,⟨by omega,by omega,by omega⟩,⟨⟨by omega,by omega,by omega⟩,.inr (by omega),.inr (by omega),.inr (by omega)⟩,IsAt.nil _ _ _ _ _,IsAt.nil _ _ _ _ _,IsAt.nil _ _ _ _ _,fun _ _=>rfl,Nat.le_refl _,Nat.le_refl _,fun _ _ h=>h,hsm,l10,l14⟩
  (fun i L' t hi ⟨b1,b2,b3,x,y,w,vx,vy,vw,q0,⟨q11,q12,q13⟩,⟨qx,qy,qw⟩,⟨ex,ey,ew⟩,⟨hb1,hb2,hb3⟩,⟨⟨n12,n13,n23⟩,hf1,hf2,hf3⟩,I1,I2,I3,qs,qn,qk,qm,qf,q10,q14⟩=>by
   have k1:=(q0 1 (by simp)).trans l1
   have k2:=(q0 2 (by simp)).trans l2
   by_cases hlt:i<hours
   ·have e0:decide ((i:Int)<(hours:Int))=true:=decide_eq_true (by omega)
    have gt:=(qs p10 hp).trans g
    have ok1:∀ t,okA (.val vx t)=.val vx t:=fun t=>okA_ne I1.at_.ne
    obtain ⟨em,hem⟩:∃ e:Int,e=if q then B.ml else B.mh:=⟨_,rfl⟩
    obtain ⟨ec,hec⟩:∃ e:Int,e=if q then B.cl else B.ch:=⟨_,rfl⟩
    obtain ⟨ev,hev⟩:∃ e:Int,e=if q then B.wl else B.wh:=⟨_,rfl⟩
    have E1:=end_ok N hN B.ml B.mh q ⟨t.h,t.n,far⟩ (by show t.n+10≤far;omega)
    rw [← hem] at E1
    have hn1:(t.new (.cells [.int .i64 em] 0)).n=t.n+1:=rfl
    obtain ⟨t1,a1,a2,a3,a4,a5,a6⟩:=append_at (s:=t.new (.cells [.int .i64 em] 0)) (bytes:=8) (row:=[.int .i64 em]) (I1.mono (fun h=>get_new_ne _ _ _ (by omega)) (Nat.le_succ _)) (get_new_eq _ _ _ rfl (by omega)) rfl rfl (by rw [ints_len];omega) (by kernel_rfl) (by omega)
    have g1:=(a4 p10 (by omega) (by omega)).trans ((get_new_ne _ _ _ (by omega)).trans gt)
    have I2':=I2.mono (h':=t1.h) (n':=t1.n) (fun h=>(a4 b2 (by omega) (by omega)).trans (get_new_ne _ _ _ (by omega))) (by omega)
    have I3':=I3.mono (h':=t1.h) (n':=t1.n) (fun h=>(a4 b3 (by omega) (by omega)).trans (get_new_ne _ _ _ (by omega))) (by omega)
    have E2:=end_ok N hN B.cl B.ch q ⟨t1.h,t1.n,far⟩ (by show t1.n+10≤far;omega)
    rw [← hec] at E2
    have hn2:(t1.new (.cells [.int .i64 ec] 0)).n=t1.n+1:=rfl
    obtain ⟨t2,c1,c2,c3,c4,c5,c6⟩:=append_at (s:=t1.new (.cells [.int .i64 ec] 0)) (bytes:=8) (row:=[.int .i64 ec]) (I2'.mono (fun h=>get_new_ne _ _ _ (by omega)) (Nat.le_succ _)) (get_new_eq _ _ _ rfl (by omega)) rfl rfl (by rw [ints_len];omega) (by kernel_rfl) (by omega)
    have g2:=(c4 p10 (by omega) (by omega)).trans ((get_new_ne _ _ _ (by omega)).trans g1)
    have I3'':=I3'.mono (h':=t2.h) (n':=t2.n) (fun h=>(c4 b3 (by omega) (by omega)).trans (get_new_ne _ _ _ (by omega))) (by omega)
    have a2':=a2.mono (h':=t2.h) (n':=t2.n) (fun h=>(c4 _ (by omega) (by omega)).trans (get_new_ne _ _ _ (by omega))) (by omega)
    have E3:=end_ok N hN B.wl B.wh q t2 (by omega)
    rw [← hev] at E3
    have hn3:(t2.new (.cells [.int .i64 ev] 0)).n=t2.n+1:=rfl
    obtain ⟨t3,d1,d2,d3,d4,d5,d6⟩:=append_at (s:=t2.new (.cells [.int .i64 ev] 0)) (bytes:=8) (row:=[.int .i64 ev]) (I3''.mono (fun h=>get_new_ne _ _ _ (by omega)) (Nat.le_succ _)) (get_new_eq _ _ _ rfl (by omega)) rfl rfl (by rw [ints_len];omega) (by kernel_rfl) (by omega)
    have ad:∀ s,aAdd s .i64 (i:Int) 1=.val (.int .i64 ((i:Int)+1)) s:=fun s=>aAdd_i64 s _ _ (by omega)
    have htn:t.n≤far:=by omega
    have ht1:t1.n≤far:=by omega
    have ht1m:t1.m≤far:=by rw [new_m] at a6;omega
    have ap1:=fun o=>I1.apart (c:=p10) (o:=o) (by omega)
    have ap2:=fun o=>I2.apart (c:=p10) (o:=o) (by omega)
    unfold Box.cells at gt g1 g2
    rw [ints_snoc] at a2' c2 d2
    refine .inl ⟨hlt,((((L'.set 54 (.bool true)).set 11 (.slice (t.n+1) 0 ((ints x).length+1) ((ints x).length+1) true)).set 12 (.slice (t1.n+1) 0 ((ints y).length+1) ((ints y).length+1) true)).set 13 (.slice (t2.n+1) 0 ((ints w).length+1) ((ints w).length+1) true)).set 14 (.int .i64 ((i:Int)+1)),t3,?_,t.n+1,t1.n+1,t2.n+1,x++[em],y++[ec],w++[ev],.slice (t.n+1) 0 ((ints x).length+1) ((ints x).length+1) true,.slice (t1.n+1) 0 ((ints y).length+1) ((ints y).length+1) true,.slice (t2.n+1) 0 ((ints w).length+1) ((ints w).length+1) true,fun t ht=>?_,⟨by simp only [Env.find_set,reduceIte,Nat.reduceEqDiff],by simp only [Env.find_set,reduceIte,Nat.reduceEqDiff],by simp only [Env.find_set,reduceIte,Nat.reduceEqDiff]⟩,⟨by simp [qx],by simp [qy],by simp [qw]⟩,⟨fun e he=>?_,fun e he=>?_,fun e he=>?_⟩,⟨by omega,by omega,by omega⟩,⟨⟨by omega,by omega,by omega⟩,.inl (by omega),.inl (by omega),.inl (by omega)⟩,?_,?_,?_,fun c hc=>?_,by omega,by omega,fun k hk hm=>?_,?_,by simp only [Env.find_set,q10,reduceIte,Nat.reduceEqDiff],by simp only [Env.find_set,reduceIte];rfl⟩
    ·simp (disch:=first|omega|(with_unfolding_all exact rfl)|(simp only[new_n,put_n,new_m];omega)|(refine put_m_le ?_;simp only[new_m];omega)) only [K20l1,K20r12,K20r13,K20r14,Abs.W,reduceIte,Nat.reduceEqDiff,Nat.reduceAdd,decide_true,decide_false,kLoop_def,Nat.reduceSub,Env.find_set,k1,k2,q10,q11,q12,q13,q14,e0,gt,E1,thenT_same _ _ _ _ _ _ _ htn qf,a1,g1,E2,thenT_same _ _ _ _ _ _ _ ht1 ht1m,c1,g2,E3,d1,ad,Nat.zero_add]
     rw [endO_ok _ (by
      rw [endOk_cons,endOk_cons,endOk_cons,endOk_nil]
      all_goals
       simp only [find_cons,reduceIte,Nat.reduceEqDiff]
       first | exact ap1 _ | exact ap2 _)]
     simp (disch:=first|omega|(with_unfolding_all exact rfl)|(simp only[new_n,put_n,new_m];omega)|(refine put_m_le ?_;simp only[new_m];omega)) only [K20r14,Abs.W,reduceIte,Nat.reduceEqDiff,Nat.reduceAdd,decide_true,decide_false,kLoop_def,Nat.reduceSub,Env.find_set,q14,ad,regD_ok]
     rfl
    ·rcases ht with rfl | rfl | rfl | rfl | rfl | rfl<;>simp only [Env.find_set,reduceIte,Nat.reduceEqDiff]
     all_goals exact q0 _ (by simp)
    ·rcases List.mem_append.mp he with h | h
     ·exact ex e h
     ·simp at h;rw [h,hem]
    ·rcases List.mem_append.mp he with h | h
     ·exact ey e h
     ·simp at h;rw [h,hec]
    ·rcases List.mem_append.mp he with h | h
     ·exact ew e h
     ·simp at h;rw [h,hev]
    ·exact a2'.mono (fun h=>(d4 _ (by omega) (by omega)).trans (get_new_ne _ _ _ (by omega))) (by omega)
    ·exact c2.mono (fun h=>(d4 _ (by omega) (by omega)).trans (get_new_ne _ _ _ (by omega))) (by omega)
    ·exact d2
    ·rw [d4 c (by omega) (by omega),get_new_ne _ _ _ (by omega),c4 c (by omega) (by omega),get_new_ne _ _ _ (by omega),a4 c (by omega) (by omega),get_new_ne _ _ _ (by omega)]
     exact qs c hc
    ·have h1:=a5 k (by omega) (by omega) (by rw [new_m];exact qm k hk hm)
     have h2:=c5 k (by omega) (by omega) (by rw [new_m];exact h1)
     exact d5 k (by omega) (by omega) (by rw [new_m];exact h2)
    ·rw [new_m] at a6 c6 d6
     omega
   ·obtain rfl:i=hours:=by omega
    have e0:decide ((i:Int)<(i:Int))=false:=by simp
    refine .inr ⟨.exit 4,L'.set 54 (.bool false),t,by simp,?_,rfl,b1,b2,b3,x,y,w,vx,vy,vw,fun t ht=>?_,⟨by simp only [Env.find_set,q11,reduceIte,Nat.reduceEqDiff],by simp only [Env.find_set,q12,reduceIte,Nat.reduceEqDiff],by simp only [Env.find_set,q13,reduceIte,Nat.reduceEqDiff]⟩,⟨qx,qy,qw⟩,⟨ex,ey,ew⟩,⟨hb1,hb2,hb3⟩,⟨⟨n12,n13,n23⟩,hf1,hf2,hf3⟩,I1,I2,I3,qs,qn,qk,qm,qf⟩
    ·simp (disch:=first|omega|(with_unfolding_all exact rfl)|(simp only[new_n,put_n,new_m];omega)|(refine put_m_le ?_;simp only[new_m];omega)) only [K20l1,K20r12,Abs.W,reduceIte,Nat.reduceEqDiff,Nat.reduceAdd,decide_true,decide_false,kLoop_def,Nat.reduceSub,Env.find_set,k1,q14,e0]
    ·rw [← q0 t ht]
     rcases ht with rfl | rfl | rfl | rfl | rfl | rfl<;>simp only [Env.find_set,reduceIte,Nat.reduceEqDiff])
 exact ⟨L1,s1,b1,b2,b3,x,y,w,vx,vy,vw,rfl,h0,h1,h2,h3,h4,h5⟩
end Go.Proofs.Ytndbihaffijhbaa.walk
set_option maxRecDepth 10000
namespace Go.Proofs.Ytndbihaffijhbaa.walk
open Go.Abs Go.Proofs.Ytndbihaffijhbaa.code
def Rest (lo ba bb bc bd:Nat) (x:Nat):Prop:=lo≤x∧x≠ba∧x≠bb∧x≠bc∧x≠bd
structure TruthUp (h:Heap) (n lo p7 z:Nat) (ve:AV) (ba bb bc bd:Nat) (T:Truth) (va vb vc vd:AV):Prop where
 g7:h.get p7=some (.cells [va,vb,vc,vd,ve] z)
 ice:IntsAt h n ba T.ice va
 melts:TabUp h n bb T.melts vb (Rest lo ba bb bc bd)
 cold:TabUp h n bc T.cold vc (Rest lo ba bb bc bd)
 warm:TabUp h n bd T.warm vd (Rest lo ba bb bc bd)
 lo:lo≤ba∧lo≤bb∧lo≤bc∧lo≤bd
 new:(ba<n∨far<ba)∧(bb<n∨far<bb)∧(bc<n∨far<bc)∧(bd<n∨far<bd)
 ne:ba≠bb∧ba≠bc∧ba≠bd∧bb≠bc∧bb≠bd∧bc≠bd
 len:T.melts.length=T.ice.length∧T.cold.length=T.ice.length∧T.warm.length=T.ice.length
def Truth.push (T:Truth) (e:Int) (x y w:List Int):Truth:=⟨T.ice++[e],T.melts++[x],T.cold++[y],T.warm++[w],T.hall⟩
theorem edge_box (N:Nat) (hN:1≤N) (cx:Ctx) (bs:List Box) (hl hh:Int) (v1 v2 v3 ve:AV) (q:Bool) (p3 p7 z3 z7 lo hours i ba bb bc bd:Nat) (T:Truth) (va vb vc vd:AV) (L:Env) (s:St) (hi:i<bs.length) (hk:bs.length≤20) (hh1:1≤hours) (hh5:hours≤500) (h37:p3<p7) (hp7:p7<lo) (hlo:lo≤s.n) (hs:s.n+10000≤far) (hsm:s.m≤far) (hTi:T.ice.length=i)
  (hR:RowsAt s.h lo 9 (bs.map Box.cells) v1) (g3:s.h.get p3=some (.cells [.int .i64 hl,.int .i64 hh,v1,v2,v3] z3)) (U:TruthUp s.h s.n lo p7 z7 ve ba bb bc bd T va vb vc vd)
  (l1:L.find 1=.int .i64 hours) (l2:L.find 2=.bool q) (l3:L.find 3=.ptr p3 0) (l7:L.find 7=.ptr p7 0) (l9:L.find 9=.int .i64 i) :
  ∃ (L1:Env) (s1:St) (ba' bb' bc' bd':Nat) (x y w:List Int) (va' vb' vc' vd':AV),K20l2 (call Try.prog X N) cx L [] s=.done .norm L1 [] s1∧(∀ t,t=1∨t=2∨t=3∨t=6∨t=7→L1.find t=L.find t)∧L1.find 9=.int .i64 ((i:Int)+1) ∧
   TruthUp s1.h s1.n lo p7 z7 ve ba' bb' bc' bd' (T.push (if q then (bs[i]).ih else (bs[i]).il) x y w) va' vb' vc' vd'∧(x.length=hours∧y.length=hours∧w.length=hours) ∧
   ((∀ e ∈ x,e=if q then (bs[i]).ml else (bs[i]).mh)∧(∀ e ∈ y,e=if q then (bs[i]).cl else (bs[i]).ch)∧(∀ e ∈ w,e=if q then (bs[i]).wl else (bs[i]).wh)) ∧
   (∀ c,c<lo→c≠p7→s1.h.get c=s.h.get c)∧s.n≤s1.n∧s1.n≤s.n+6 * hours+20∧(∀ k,k≤p7→k≤s.m→k≤s1.m)∧s1.m≤far:=by
 have hff:far=1000000000:=rfl
 obtain ⟨g7,Iice,Tm,Tc,Tw,⟨lo1,lo2,lo3,lo4⟩,⟨w1,w2,w3,w4⟩,⟨ne1,ne2,ne3,ne4,ne5,ne6⟩,⟨len1,len2,len3⟩⟩:=U
 have fr:∀ X,s.n≤X→X≤far→(X≠ba∧X≠bb)∧X≠bc∧X≠bd:=fun X h1 h2=>by omega
 have nE:∀ _:Unit,(bb≠ba∧bc≠ba∧bd≠ba)∧bc≠bb∧bd≠bb∧bd≠bc:=fun _=>by omega
 clear w1 w2 w3 w4 ne1 ne2 ne3 ne4 ne5 ne6
 have e0:decide ((i:Int)<(bs.length:Int))=true:=decide_eq_true (by omega)
 have hlen:=hR.len
 rw [List.length_map] at hlen
 have ok1:∀ t,okA (.val v1 t)=.val v1 t:=fun t=>okA_ne hR.ne
 obtain ⟨b,p,cc,sz,hbn,hix,hg,hcut⟩:=hR.at_ i (by simpa using hi)
 rw [List.getElem_map] at hcut
 generalize bs[i]=B at hcut ⊢
 -- the box
 obtain ⟨y0,hy⟩:∃ y0:St,y0=(s.new (.cells [.int .i64 0,.int .i64 0,.int .i64 0,.int .i64 0,.int .i64 0,.int .i64 0,.int .i64 0,.int .i64 0,.int .i64 0] (tag 74))).put s.n (.cells B.cells (tag 74)):=⟨_,rfl⟩
 have yn:y0.n=s.n+1:=by rw [hy];rfl
 have ym:y0.m=min s.m s.n:=by rw [hy];simp only [St.put,minN_eq,new_m]
 have yg:∀ c,c≠s.n→y0.h.get c=s.h.get c:=fun c hc=>by rw [hy,get_put_ne' _ _ _ _ hc,get_new_ne _ _ _ hc]
 have yB:y0.h.get s.n=some (.cells B.cells (tag 74)):=by rw [hy];exact get_put_eq _ _ _ _ rfl (by omega)
 have y7:=(yg p7 (by omega)).trans g7
 -- its ice
 obtain ⟨ei,hei⟩:∃ e:Int,e=if q then B.ih else B.il:=⟨_,rfl⟩
 have E:=end_ok N hN B.il B.ih (!q) ⟨y0.h,y0.n,far⟩ (by show y0.n+10≤far;omega)
 have hei2:(if (!q)=true then B.il else B.ih)=ei:=by rw [hei];cases q<;>rfl
 rw [hei2] at E
 have okva:∀ t,okA (.val va t)=.val va t:=fun t=>okA_ne Iice.at_.ne
 have hn0:(y0.new (.cells [.int .i64 ei] 0)).n=y0.n+1:=rfl
 obtain ⟨t1,a1,a2,a3,a4,a5,a6⟩:=append_at (s:=y0.new (.cells [.int .i64 ei] 0)) (bytes:=8) (row:=[.int .i64 ei]) (Iice.mono (n':=(y0.new (.cells [.int .i64 ei] 0)).n) (fun h=>(get_new_ne _ _ _ (by omega)).trans (yg _ (by omega))) (by omega)) (get_new_eq _ _ _ rfl (by omega)) rfl rfl (by rw [ints_len];omega) (by kernel_rfl) (by omega)
 rw [ints_snoc] at a2
 have t17:=(a4 p7 (by omega) (by omega)).trans ((get_new_ne _ _ _ (by omega)).trans y7)
 have hyn:y0.n≤far:=by omega
 have hym:y0.m≤far:=by omega
 obtain ⟨t2,ht2⟩:∃ t2:St,t2=t1.put p7 (.cells [.slice (y0.n+1) 0 ((ints T.ice).length+1) ((ints T.ice).length+1) true,vb,vc,vd,ve] z7):=⟨_,rfl⟩
 have t2n:t2.n=t1.n:=by rw [ht2];rfl
 have t2m:t2.m=min t1.m p7:=by rw [ht2];simp only [St.put,minN_eq]
 have t2g:∀ c,c≠p7→t2.h.get c=t1.h.get c:=fun c hc=>by rw [ht2,get_put_ne' _ _ _ _ hc]
 have t27:t2.h.get p7=some (.cells [.slice (y0.n+1) 0 ((ints T.ice).length+1) ((ints T.ice).length+1) true,vb,vc,vd,ve] z7):=by rw [ht2];exact get_put_eq _ _ _ _ rfl (by omega)
 have f2:∀ c,c<s.n→c≠ba→c≠p7→t2.h.get c=s.h.get c:=fun c hc h1 h2=>by
  rw [t2g c h2,a4 c (by omega) h1,get_new_ne _ _ _ (by omega),yg c (by omega)]
 have t2B:t2.h.get s.n=some (.cells B.cells (tag 74)):=by
  rw [t2g _ (by omega),a4 _ (by omega) (fr _ (Nat.le_refl _) (by omega)).1.1,get_new_ne _ _ _ (by omega)];exact yB
 have kl:K20l2=kSeq (kSeq (kRegion K20r7 [34]) (kCond (.tmp 34) kSkip (kExit 2))) (kSeq (kBlock 3 (kSeq (kRegion K20r8 [10]) (kSeq (kRegionD K20r9 []) (kSeq (kRegion K20r10 [11,12,13]) (kSeq (kSeq (kRegion K20r11 [14]) (kBlock 4 (kLoop K20l1))) (kRegionD K20r15 [])))))) (kRegion K20r16 [9])):=rfl
 rw [kl]
 have hcB:=hcut
 unfold Box.cells at hcB hy yB
 simp (disch:=first|omega|(with_unfolding_all exact rfl)|(simp only[new_n,put_n,new_m];omega)|(refine put_m_le ?_;simp only[new_m];omega)) only [K20r7,K20r8,Abs.W,reduceIte,Nat.reduceEqDiff,Nat.reduceAdd,decide_true,decide_false,kLoop_def,Nat.reduceSub,Env.find_set,l1,l2,l3,l7,l9,g3,ok1,hlen,e0,hix,hg,hcB,Nat.zero_add]
 rw [← hy]
 simp (disch:=first|omega|(with_unfolding_all exact rfl)|(simp only[new_n,put_n,new_m];omega)|(refine put_m_le ?_;simp only[new_m];omega)) only [K20r9,K20r10,K20r11,Abs.W,reduceIte,Nat.reduceEqDiff,Nat.reduceAdd,decide_true,decide_false,kLoop_def,Nat.reduceSub,Env.find_set,l1,l2,l3,l7,l9,y7,yB,okva,E,thenT_same _ _ _ _ _ _ _ hyn hym,a1,t17,notA_def,endO_nil,regD_ok,Nat.zero_add,Nat.add_zero]
 rw [hn0,← ht2]
 -- its hours
 generalize hlp:loopN _ rounds _ _ _ _ _=rl
 obtain ⟨L3,t3,b1,b2,b3,x,y,w,vx,vy,vw,rfl,lk,⟨f11,f12,f13⟩,⟨xl,yl,wl⟩,vals,⟨hb1,hb2,hb3⟩,I1,I2,I3,fr3,n3,k3,m3,mf3⟩:=edge_rows (q:=q) hours hlp hN hh5 (by omega) (by omega) (by omega) t2B (by simp only [Env.find_set,l1,reduceIte,Nat.reduceEqDiff]) (by simp only [Env.find_set,l2,reduceIte,Nat.reduceEqDiff]) (by simp only [Env.find_set,reduceIte,Nat.reduceEqDiff]) (by simp only [Env.find_set,reduceIte,Nat.reduceEqDiff]) (by simp only [Env.find_set,reduceIte,Nat.reduceEqDiff]) (by simp only [Env.find_set,reduceIte,Nat.reduceEqDiff]) (by simp only [Env.find_set,reduceIte,Nat.reduceEqDiff])
 have nonnil:∀ l:List Int,l.length=hours→l≠[]:=fun l h h2=>by rw [h2] at h;simp at h;omega
 have full:∀ {b:Nat} {l:List Int} {v:AV},IntsAt t3.h t3.n b l v→l.length=hours→b<t3.n∧v=.slice b 0 (ints l).length (ints l).length true:=fun {b l v} I h=>by
  rcases I.is with ⟨z,_⟩ | ⟨_,z1,z2,_⟩
  ·exact absurd (by simpa [ints] using z) (nonnil l h)
  ·exact ⟨z1,z2⟩
 obtain ⟨q1,rfl⟩:=full I1 xl
 obtain ⟨q2,rfl⟩:=full I2 yl
 obtain ⟨q3,rfl⟩:=full I3 wl
 have k1:L3.find 1=.int .i64 hours:=(lk 1 (by simp)).trans (by simp only [Env.find_set,l1,reduceIte,Nat.reduceEqDiff])
 have k7:L3.find 7=.ptr p7 0:=(lk 7 (by simp)).trans (by simp only [Env.find_set,l7,reduceIte,Nat.reduceEqDiff])
 have k9:L3.find 9=.int .i64 i:=(lk 9 (by simp)).trans (by simp only [Env.find_set,l9,reduceIte,Nat.reduceEqDiff])
 have t37:=(fr3 p7 (by omega)).trans t27
 have f3:∀ c,c<s.n→c≠ba→c≠p7→t3.h.get c=s.h.get c:=fun c hc h1 h2=>(fr3 c (by omega)).trans (f2 c hc h1 h2)
 have Ia:IntsAt t3.h t3.n (y0.n+1) (T.ice++[ei]) (.slice (y0.n+1) 0 ((ints T.ice).length+1) ((ints T.ice).length+1) true):=a2.mono (fun h=>(fr3 _ (by omega)).trans (t2g _ (by omega))) (by omega)
 have Tm3:=Tm.mono (h':=t3.h) (n':=t3.n) (no':=fun x=>Rest lo ba bb bc bd x∧x<s.n) (fun h=>f3 bb h (nE ()).1.1 (by omega)) (fun x hx ⟨r1,r2,r3,r4,r5⟩=>⟨f3 x hx r2 (by omega),⟨r1,r2,r3,r4,r5⟩,hx⟩) (by omega)
 have Tc3:=Tc.mono (h':=t3.h) (n':=t3.n) (no':=fun x=>Rest lo ba bb bc bd x∧x<s.n) (fun h=>f3 bc h (nE ()).1.2.1 (by omega)) (fun x hx ⟨r1,r2,r3,r4,r5⟩=>⟨f3 x hx r2 (by omega),⟨r1,r2,r3,r4,r5⟩,hx⟩) (by omega)
 have Tw3:=Tw.mono (h':=t3.h) (n':=t3.n) (no':=fun x=>Rest lo ba bb bc bd x∧x<s.n) (fun h=>f3 bd h (nE ()).1.2.2 (by omega)) (fun x hx ⟨r1,r2,r3,r4,r5⟩=>⟨f3 x hx r2 (by omega),⟨r1,r2,r3,r4,r5⟩,hx⟩) (by omega)
 obtain ⟨vsm,sm1,sm2,sm3⟩:=Tm3
 obtain ⟨vsc,sc1,sc2,sc3⟩:=Tc3
 obtain ⟨vsw,sw1,sw2,sw3⟩:=Tw3
 have okvb:∀ t,okA (.val vb t)=.val vb t:=fun t=>okA_ne sm2.rows.at_.ne
 have okvc:∀ t,okA (.val vc t)=.val vc t:=fun t=>okA_ne sc2.rows.at_.ne
 have okvd:∀ t,okA (.val vd t)=.val vd t:=fun t=>okA_ne sw2.rows.at_.ne
 -- the three tables
 have hn4:(t3.new (.cells [.slice b1 0 (ints x).length (ints x).length true] 0)).n=t3.n+1:=rfl
 obtain ⟨t4,c1,c2,c3,c4,c5,c6⟩:=append_at (s:=t3.new (.cells [.slice b1 0 (ints x).length (ints x).length true] 0)) (bytes:=24) (row:=[.slice b1 0 (ints x).length (ints x).length true]) (sm2.mono (fun h=>get_new_ne _ _ _ (by omega)) (Nat.le_succ _)) (get_new_eq _ _ _ rfl (by omega)) rfl rfl (by rw [List.length_map];omega) (by kernel_rfl) (by omega)
 have f4:∀ c,c<t3.n→c≠bb→t4.h.get c=t3.h.get c:=fun c hc h1=>(c4 c (by omega) h1).trans (get_new_ne _ _ _ (by omega))
 have t47:=(f4 p7 (by omega) (by omega)).trans t37
 have hn5:(t4.new (.cells [.slice b2 0 (ints y).length (ints y).length true] 0)).n=t4.n+1:=rfl
 obtain ⟨t5,d1,d2,d3,d4,d5,d6⟩:=append_at (s:=t4.new (.cells [.slice b2 0 (ints y).length (ints y).length true] 0)) (bytes:=24) (row:=[.slice b2 0 (ints y).length (ints y).length true]) (sc2.mono (n':=(t4.new (.cells [.slice b2 0 (ints y).length (ints y).length true] 0)).n) (fun h=>(get_new_ne _ _ _ (by omega)).trans (f4 _ h (nE ()).2.1)) (by omega)) (get_new_eq _ _ _ rfl (by omega)) rfl rfl (by rw [List.length_map];omega) (by kernel_rfl) (by omega)
 have f5:∀ c,c<t4.n→c≠bc→t5.h.get c=t4.h.get c:=fun c hc h1=>(d4 c (by omega) h1).trans (get_new_ne _ _ _ (by omega))
 have t57:=(f5 p7 (by omega) (by omega)).trans t47
 have hn6:(t5.new (.cells [.slice b3 0 (ints w).length (ints w).length true] 0)).n=t5.n+1:=rfl
 obtain ⟨t6,e1,e2,e3,e4,e5,e6⟩:=append_at (s:=t5.new (.cells [.slice b3 0 (ints w).length (ints w).length true] 0)) (bytes:=24) (row:=[.slice b3 0 (ints w).length (ints w).length true]) (sw2.mono (n':=(t5.new (.cells [.slice b3 0 (ints w).length (ints w).length true] 0)).n) (fun h=>(get_new_ne _ _ _ (by omega)).trans ((f5 _ (by omega) (nE ()).2.2.2).trans (f4 _ h (nE ()).2.2.1))) (by omega)) (get_new_eq _ _ _ rfl (by omega)) rfl rfl (by rw [List.length_map];omega) (by kernel_rfl) (by omega)
 have f6:∀ c,c<t5.n→c≠bd→t6.h.get c=t5.h.get c:=fun c hc h1=>(e4 c (by omega) h1).trans (get_new_ne _ _ _ (by omega))
 have t67:=(f6 p7 (by omega) (by omega)).trans t57
 have f36:∀ c,c<t3.n→c≠bb→c≠bc→c≠bd→t6.h.get c=t3.h.get c:=fun c hc h1 h2 h3=>(f6 c (by omega) h3).trans ((f5 c (by omega) h2).trans (f4 c hc h1))
 have ap1:=fun o=>sm2.apart (c:=p7) (o:=o) (by omega)
 have ap2:=fun o=>sc2.apart (c:=p7) (o:=o) (by omega)
 have ad:∀ s,aAdd s .i64 (i:Int) 1=.val (.int .i64 ((i:Int)+1)) s:=fun s=>aAdd_i64 s _ _ (by omega)
 simp (disch:=first|omega|(with_unfolding_all exact rfl)|(simp only[new_n,put_n,new_m];omega)|(refine put_m_le ?_;simp only[new_m];omega)) only [K20r15,Abs.W,reduceIte,Nat.reduceEqDiff,Nat.reduceAdd,decide_true,decide_false,kLoop_def,Nat.reduceSub,Env.find_set,k7,k9,f11,f12,f13,t37,okvb,c1,t47,okvc,d1,t57,okvd,e1,t67,Nat.zero_add]
 rw [endO_ok _ (by
  rw [endOk_cons,endOk_cons,endOk_cons,endOk_nil]
  all_goals
   simp only [find_cons,reduceIte,Nat.reduceEqDiff]
   first | exact ap1 _ | exact ap2 _)]
 simp (disch:=first|omega|(with_unfolding_all exact rfl)|(simp only[new_n,put_n,new_m];omega)|(refine put_m_le ?_;simp only[new_m];omega)) only [K20r16,Abs.W,reduceIte,Nat.reduceEqDiff,Nat.reduceAdd,decide_true,decide_false,kLoop_def,Nat.reduceSub,Env.find_set,k9,ad,regD_ok]
 generalize hz:St.put (St.put (St.put t6 p7 _) p7 _) p7 _=t8
 have t8n:t8.n=t6.n:=by rw [← hz];rfl
 have t8m:t8.m=min (min (min t6.m p7) p7) p7:=by rw [← hz];simp only [St.put,minN_eq]
 have t8g:∀ c,c≠p7→t8.h.get c=t6.h.get c:=fun c hc=>by rw [← hz,get_put_ne' _ _ _ _ hc,get_put_ne' _ _ _ _ hc,get_put_ne' _ _ _ _ hc]
 have t87:t8.h.get p7=some (.cells [.slice (y0.n+1) 0 ((ints T.ice).length+1) ((ints T.ice).length+1) true,.slice (t3.n+1) 0 ((vsm.map fun v=>[v]).length+1) ((vsm.map fun v=>[v]).length+1) true,.slice (t4.n+1) 0 ((vsc.map fun v=>[v]).length+1) ((vsc.map fun v=>[v]).length+1) true,.slice (t5.n+1) 0 ((vsw.map fun v=>[v]).length+1) ((vsw.map fun v=>[v]).length+1) true,ve] z7):=by rw [← hz];exact get_put_eq _ _ _ _ rfl (by omega)
 clear hz
 have f8:∀ c,c<t3.n→c≠bb→c≠bc→c≠bd→c≠p7→t8.h.get c=t3.h.get c:=fun c hc h1 h2 h3 h4=>(t8g c h4).trans (f36 c hc h1 h2 h3)
 have R':∀ x,x<t3.n→Rest lo ba bb bc bd x→x≠y0.n+1→t8.h.get x=t3.h.get x∧Rest lo (y0.n+1) (t3.n+1) (t4.n+1) (t5.n+1) x:=fun x hx ⟨r1,r2,r3,r4,r5⟩ hne=>⟨f8 x hx r3 r4 r5 (by omega),r1,hne,by omega,by omega,by omega⟩
 have row:∀ {b:Nat} {l:List Int} {v:AV},t2.n≤b→b<t3.n→IntsAt t3.h t3.n b l v→IntsAt t8.h t8.n b l v∧Rest lo (y0.n+1) (t3.n+1) (t4.n+1) (t5.n+1) b:=fun {b l v} h1 h2 I =>
  ⟨I.mono (fun _=>f8 b h2 (fr b (by omega) (by omega)).1.2 (fr b (by omega) (by omega)).2.1 (fr b (by omega) (by omega)).2.2 (by omega)) (by omega),by omega,by omega,by omega,by omega,by omega⟩
 have old:∀ {tab:List (List Int)} {vs:List AV},(∀ j (h1:j<vs.length) (h2:j<tab.length),∃ x,(Rest lo ba bb bc bd x∧x<s.n)∧IntsAt t3.h t3.n x tab[j] vs[j]∧tab[j]≠[]) →
   ∀ j (h1:j<vs.length) (h2:j<tab.length),∃ x,Rest lo (y0.n+1) (t3.n+1) (t4.n+1) (t5.n+1) x∧IntsAt t8.h t8.n x tab[j] vs[j]∧tab[j]≠[]:=fun {tab vs} h j h1 h2=>by
  obtain ⟨x,⟨x1,x2⟩,x3,x4⟩:=h j h1 h2
  obtain ⟨r1,r2⟩:=R' x (by omega) x1 (by omega)
  exact ⟨x,r2,x3.mono (fun _=>r1) (by omega),x4⟩
 obtain ⟨J1,N1⟩:=row hb1 q1 I1
 obtain ⟨J2,N2⟩:=row hb2 q2 I2
 obtain ⟨J3,N3⟩:=row hb3 q3 I3
 have c2':=c2.mono (h':=t8.h) (n':=t8.n) (fun _=>(t8g _ (by omega)).trans ((f6 _ (by omega) (fr _ (by omega) (by omega)).2.2).trans (f5 _ (by omega) (fr _ (by omega) (by omega)).2.1))) (by omega)
 have d2':=d2.mono (h':=t8.h) (n':=t8.n) (fun _=>(t8g _ (by omega)).trans (f6 _ (by omega) (fr _ (by omega) (by omega)).2.2)) (by omega)
 have e2':=e2.mono (h':=t8.h) (n':=t8.n) (fun _=>t8g _ (by omega)) (by omega)
 have Ia8:=Ia.mono (h':=t8.h) (n':=t8.n) (fun _=>f8 _ (by omega) (fr _ (by omega) (by omega)).1.2 (fr _ (by omega) (by omega)).2.1 (fr _ (by omega) (by omega)).2.2 (by omega)) (by omega)
 rw [← hei]
 refine ⟨_,t8,y0.n+1,t3.n+1,t4.n+1,t5.n+1,x,y,w,_,_,_,_,rfl,fun t ht=>?_,?_,⟨t87,Ia8,TabUp.push sm1 c2' (old sm3) N1 J1 (nonnil x xl),TabUp.push sc1 d2' (old sc3) N2 J2 (nonnil y yl),TabUp.push sw1 e2' (old sw3) N3 J3 (nonnil w wl),⟨by omega,by omega,by omega,by omega⟩,⟨.inl (by omega),.inl (by omega),.inl (by omega),.inl (by omega)⟩,⟨by omega,by omega,by omega,by omega,by omega,by omega⟩,by simp [Truth.push,len1,len2,len3]⟩,⟨xl,yl,wl⟩,vals,fun c hc hcp=>?_,by omega,by omega,fun k hk hm=>?_,?_⟩
 ·rcases ht with rfl | rfl | rfl | rfl | rfl<;>simp only [Env.find_set,reduceIte,Nat.reduceEqDiff]
  ·exact k1.trans l1.symm
  ·exact (lk 2 (by simp)).trans (by simp only [Env.find_set,reduceIte,Nat.reduceEqDiff])
  ·exact (lk 3 (by simp)).trans (by simp only [Env.find_set,reduceIte,Nat.reduceEqDiff])
  ·exact (lk 6 (by simp)).trans (by simp only [Env.find_set,reduceIte,Nat.reduceEqDiff])
  ·exact k7.trans l7.symm
 ·simp only [Env.find_set,reduceIte,Nat.reduceEqDiff]
 ·rw [f8 c (by omega) (by omega) (by omega) (by omega) hcp]
  exact f3 c (by omega) (by omega) hcp
 ·rw [new_m] at a6 c6 d6 e6
  have h1:=a5 k (by omega) (by omega) (by rw [new_m];omega)
  have h2:=m3 k (by omega) (by omega)
  have h3:=c5 k (by omega) (by omega) (by rw [new_m];exact h2)
  have h4:=d5 k (by omega) (by omega) (by rw [new_m];exact h3)
  have h5:=e5 k (by omega) (by omega) (by rw [new_m];exact h4)
  omega
 ·rw [new_m] at c6 d6 e6
  omega
end Go.Proofs.Ytndbihaffijhbaa.walk
set_option maxRecDepth 10000
namespace Go.Proofs.Ytndbihaffijhbaa.walk
open Go.Abs Go.Proofs.Ytndbihaffijhbaa.code
def RowsAre (bs:List Box) (hours:Nat) (f:Box→Int) (tab:List (List Int)):Prop:=∀ j (_:j<tab.length),∀ hb:j<bs.length,(tab[j]).length=hours∧∀ e ∈ tab[j],e=f bs[j]
theorem RowsAre.push {bs:List Box} {hours:Nat} {f:Box→Int} {tab:List (List Int)} (h:RowsAre bs hours f tab) {row:List Int} (hl:row.length=hours) (hb:tab.length<bs.length) (hr:∀ e ∈ row,e=f bs[tab.length]):RowsAre bs hours f (tab++[row]) :=
 all_snoc (P:=fun j (x:List Int)=>∀ hb:j<bs.length,x.length=hours∧∀ e ∈ x,e=f bs[j]) h fun _=>⟨hl,hr⟩
theorem edge_boxes {N:Nat} {r:R} {cx:Ctx} {L:Env} {s:St} {bs:List Box} {hl hh:Int} {v1 v2 v3 ve:AV} {q:Bool} {p3 p7 z3 z7 n0:Nat} (hours:Nat) (H:List Int) (hr:loopN K20l2 rounds (call Try.prog X N) cx L [] s=r) (hN:1≤N) (hk:bs.length≤6) (hh1:1≤hours) (hh5:hours≤500) (h37:p3<p7) (hp7:p7<s.n) (hn0:n0≤p3) (hs:s.n+40000≤far) (hsm:s.m≤far)
  (hR:RowsAt s.h n0 9 (bs.map Box.cells) v1) (g3:s.h.get p3=some (.cells [.int .i64 hl,.int .i64 hh,v1,v2,v3] z3)) (g7:s.h.get p7=some (.cells [.nilslice,.nilslice,.nilslice,.nilslice,ve] z7))
  (l1:L.find 1=.int .i64 hours) (l2:L.find 2=.bool q) (l3:L.find 3=.ptr p3 0) (l7:L.find 7=.ptr p7 0) (l9:L.find 9=.int .i64 0) :
  ∃ (L1:Env) (s1:St) (ba bb bc bd:Nat) (T:Truth) (va vb vc vd:AV),r=.done (.exit 2) L1 [] s1∧(∀ t,t=1∨t=2∨t=3∨t=6∨t=7→L1.find t=L.find t)∧TruthUp s1.h s1.n s.n p7 z7 ve ba bb bc bd T va vb vc vd∧T.ice.length=bs.length∧T.hall=H ∧
   (∀ j (_:j<T.ice.length),∀ hb:j<bs.length,T.ice[j]=if q then (bs[j]).ih else (bs[j]).il)∧RowsAre bs hours (fun b=>if q then b.ml else b.mh) T.melts∧RowsAre bs hours (fun b=>if q then b.cl else b.ch) T.cold∧RowsAre bs hours (fun b=>if q then b.wl else b.wh) T.warm ∧
   (∀ c,c<s.n→c≠p7→s1.h.get c=s.h.get c)∧s.n≤s1.n∧s1.n≤s.n+3100 * bs.length∧(∀ k,k≤p7→k≤s.m→k≤s1.m)∧s1.m≤far:=by
 have hff:far=1000000000:=rfl
 obtain ⟨e,L1,s1,rfl,rfl,h⟩:=loop_of hr
  (fun i L' t=>∃ (ba bb bc bd:Nat) (T:Truth) (va vb vc vd:AV),(∀ t,t=1∨t=2∨t=3∨t=6∨t=7→L'.find t=L.find t)∧L'.find 9=.int .i64 i∧TruthUp t.h t.n s.n p7 z7 ve ba bb bc bd T va vb vc vd∧T.ice.length=i∧T.hall=H ∧
   (∀ j (_:j<T.ice.length),∀ hb:j<bs.length,T.ice[j]=if q then (bs[j]).ih else (bs[j]).il)∧RowsAre bs hours (fun b=>if q then b.ml else b.mh) T.melts∧RowsAre bs hours (fun b=>if q then b.cl else b.ch) T.cold∧RowsAre bs hours (fun b=>if q then b.wl else b.wh) T.warm ∧
   (∀ c,c<s.n→c≠p7→t.h.get c=s.h.get c)∧s.n≤t.n∧t.n≤s.n+3100 * i∧(∀ k,k≤p7→k≤s.m→k≤t.m)∧t.m≤far)
  (fun e L1 s1=>e=.exit 2∧∃ (ba bb bc bd:Nat) (T:Truth) (va vb vc vd:AV),(∀ t,t=1∨t=2∨t=3∨t=6∨t=7→L1.find t=L.find t)∧TruthUp s1.h s1.n s.n p7 z7 ve ba bb bc bd T va vb vc vd∧T.ice.length=bs.length∧T.hall=H ∧
   (∀ j (_:j<T.ice.length),∀ hb:j<bs.length,T.ice[j]=if q then (bs[j]).ih else (bs[j]).il)∧RowsAre bs hours (fun b=>if q then b.ml else b.mh) T.melts∧RowsAre bs hours (fun b=>if q then b.cl else b.ch) T.cold∧RowsAre bs hours (fun b=>if q then b.wl else b.wh) T.warm ∧
   (∀ c,c<s.n→c≠p7→s1.h.get c=s.h.get c)∧s.n≤s1.n∧s1.n≤s.n+3100 * bs.length∧(∀ k,k≤p7→k≤s.m→k≤s1.m)∧s1.m≤far)
  bs.length (by unfold rounds;omega)
  ⟨far+1,far+2,far+3,far+4,⟨[],[],[],[],H⟩,_,_,_,_,fun _ _=>rfl,l9,⟨g7,IsAt.nil _ _ _ _ _,TabUp.nil _ _ _ _,TabUp.nil _ _ _ _,TabUp.nil _ _ _ _,⟨by omega,by omega,by omega,by omega⟩,⟨.inr (by omega),.inr (by omega),.inr (by omega),.inr (by omega)⟩,⟨by omega,by omega,by omega,by omega,by omega,by omega⟩,⟨rfl,rfl,rfl⟩⟩,rfl,rfl,
   fun j h=>absurd h (Nat.not_lt_zero j),fun j h=>absurd h (Nat.not_lt_zero j),fun j h=>absurd h (Nat.not_lt_zero j),fun j h=>absurd h (Nat.not_lt_zero j),fun _ _ _=>rfl,Nat.le_refl _,Nat.le_refl _,fun _ _ h=>h,hsm⟩
  (fun i L' t hi ⟨ba,bb,bc,bd,T,va,vb,vc,vd,q0,q9,U,qT,qH,qi,qm,qc,qw,qs,qn,qk,qmm,qf⟩=>by
   have g3t:=(qs p3 (by omega) (by omega)).trans g3
   have hRt:RowsAt t.h s.n 9 (bs.map Box.cells) v1:=hR.grow (fun b hb=>qs b (by omega) (by omega)) (by omega)
   by_cases hlt:i<bs.length
   ·obtain ⟨L1,s1,ba',bb',bc',bd',x,y,w,va',vb',vc',vd',p0,p1,p9,U',⟨xl,yl,wl⟩,⟨ex,ey,ew⟩,fr,n1,k1,m1,f1⟩:=edge_box N hN cx bs hl hh v1 v2 v3 ve q p3 p7 z3 z7 s.n hours i ba bb bc bd T va vb vc vd L' t hlt (by omega) hh1 hh5 h37 hp7 qn (by omega) qf qT hRt g3t U ((q0 1 (by simp)).trans l1) ((q0 2 (by simp)).trans l2) ((q0 3 (by simp)).trans l3) ((q0 7 (by simp)).trans l7) q9
    obtain ⟨le1,le2,le3⟩:=U.len
    subst qT
    refine .inl ⟨hlt,L1,s1,p0,ba',bb',bc',bd',_,va',vb',vc',vd',fun q hq=>(p1 q hq).trans (q0 q hq),by rw [p9];rfl,U',by simp [Truth.push],qH,?_,qm.push xl (by omega) (by simp only [le1];exact ex),qc.push yl (by omega) (by simp only [le2];exact ey),qw.push wl (by omega) (by simp only [le3];exact ew),fun c hc hcp=>(fr c hc hcp).trans (qs c hc hcp),by omega,by omega,fun k hk hm=>m1 k hk (qmm k hk hm),f1⟩
    exact all_snoc (P:=fun j (x:Int)=>∀ hb:j<bs.length,x=if q then (bs[j]).ih else (bs[j]).il) qi fun _=>rfl
   ·obtain rfl:i=bs.length:=by omega
    have e0:decide ((bs.length:Int)<(bs.length:Int))=false:=by simp
    have hlen:=hR.len
    rw [List.length_map] at hlen
    have ok1:∀ t,okA (.val v1 t)=.val v1 t:=fun t=>okA_ne hR.ne
    refine .inr ⟨.exit 2,L'.set 34 (.bool false),t,by simp,?_,rfl,ba,bb,bc,bd,T,va,vb,vc,vd,fun t ht=>?_,U,qT,qH,qi,qm,qc,qw,qs,qn,qk,qmm,qf⟩
    ·simp (disch:=first|omega|(with_unfolding_all exact rfl)|(simp only[new_n,put_n,new_m];omega)|(refine put_m_le ?_;simp only[new_m];omega)) only [K20l2,K20r7,Abs.W,reduceIte,Nat.reduceEqDiff,Nat.reduceAdd,decide_true,decide_false,kLoop_def,Nat.reduceSub,Env.find_set,(q0 3 (by simp)).trans l3,q9,g3t,ok1,hlen,e0,Nat.zero_add]
    ·rw [← q0 t ht]
     rcases ht with rfl | rfl | rfl | rfl | rfl<;>simp only [Env.find_set,reduceIte,Nat.reduceEqDiff])
 obtain ⟨ba,bb,bc,bd,T,va,vb,vc,vd,h⟩:=h
 exact ⟨L1,s1,ba,bb,bc,bd,T,va,vb,vc,vd,rfl,h⟩
theorem at_scal {h:Heap} {n b w tg:Nat} {rows:List (List AV)} {v:AV} (r:IsAt h n b w tg rows v):v.scalar=true:=by
 rcases r.is with ⟨_,h2⟩ | ⟨_,_,h3,_⟩
 ·subst h2;rfl
 ·subst h3;rfl
theorem tab_scal {h:Heap} {n b:Nat} {tab:List (List Int)} {v:AV} {no:Nat→Prop} (r:TabUp h n b tab v no):v.scalar=true:=by
 obtain ⟨vs,_,h2,_⟩:=r
 exact at_scal h2
theorem tabIn_edge {bs:List Box} {hours:Nat} {tab:List (List Int)} {f:Box→Int} {lo hi:Nat→Int} (h:RowsAre bs hours f tab) (hl:tab.length=bs.length) (he:∀ j (hj:j<bs.length),lo j≤f bs[j]∧f bs[j]≤hi j):TabIn tab bs.length hours lo hi :=
 ⟨hl,fun b hb=>by
  have hb':b<bs.length:=by omega
  obtain ⟨h1,h2⟩:=h b hb hb'
  have:=he b hb'
  exact ⟨h1,fun x hx=>by rw [h2 x hx];exact this⟩⟩
theorem edge_ex {N:Nat} {s:St} {r:ARes} {v1 v2 v3:AV} (c:Cellar) (ok:c.Ok) (q:Bool) (hours:Nat) (hr:call Try.prog X N (.fn 20) [.agg [.int .i64 c.hl,.int .i64 c.hh,v1,v2,v3],.int .i64 hours,.bool q] s=r) (hN:2≤N) (hC:CellarIn s.h s.n c v1 v2 v3) (hh1:1≤hours) (hh5:hours≤500) (hs:s.n+60000≤far) :
  ∃ (T:Truth) (va vb vc vd ve:AV) (t:St),r=.val (.agg [va,vb,vc,vd,ve]) t∧New s t 30000∧TruthAt t.h t.n T va vb vc vd ve∧T.In (c.edge q) hours∧va.scalar=true∧vb.scalar=true∧vc.scalar=true∧vd.scalar=true∧ve.scalar=true:=by
 obtain ⟨n,rfl⟩:∃ n,N=n+1:=⟨N - 1,by omega⟩
 have hff:far=1000000000:=rfl
 obtain ⟨v,t,e,st,T,va,vb,vc,vd,ve,rfl,hq⟩:=call_new' (n:=n) (args:=[.agg [.int .i64 c.hl,.int .i64 c.hh,v1,v2,v3],.int .i64 hours,.bool q]) (s:=s) (k:=30000)
  (Q:=fun v h m=>∃ (T:Truth) (va vb vc vd ve:AV),v=.agg [va,vb,vc,vd,ve]∧TruthAt h m T va vb vc vd ve∧T.In (c.edge q) hours∧va.scalar=true∧vb.scalar=true∧vc.scalar=true∧vd.scalar=true∧ve.scalar=true) Try.func20 rfl (fun u uh un um=>by
  rw [← uh,← un] at hC
  rw [← un]
  have sh:shapeT Try.prog 46=some (some 5):=by kernel_rfl
  obtain ⟨w,hw⟩:∃ w:St,w=(u.new (.cells [.int .i64 c.hl,.int .i64 c.hh,v1,v2,v3] (tag 31))).new (.cells [.nilslice,.nilslice,.nilslice,.nilslice,.nilslice] (tag 46)):=⟨_,rfl⟩
  have wn:w.n=u.n+2:=by rw [hw];rfl
  have wm:w.m=far:=by rw [hw];exact um
  have wg:∀ c,c<u.n→w.h.get c=u.h.get c:=fun c hc=>by rw [hw,get_new_ne _ _ _ (by simp only [new_n];omega),get_new_ne _ _ _ (by omega)]
  have w0:w.h.get u.n=some (.cells [.int .i64 c.hl,.int .i64 c.hh,v1,v2,v3] (tag 31)):=by
   rw [hw,get_new_ne _ _ _ (by simp only [new_n];omega)];exact get_new_eq _ _ _ rfl (by omega)
  have w1:w.h.get (u.n+1)=some (.cells [.nilslice,.nilslice,.nilslice,.nilslice,.nilslice] (tag 46)):=by rw [hw];exact get_new_eq _ _ _ rfl (by simp only [new_n];omega)
  have nn1:∀ o,(u.new o).n=u.n+1:=fun _=>rfl
  obtain ⟨y,hy⟩:∃ y:St,y=(w.new (.cells [.nilslice,.nilslice,.nilslice,.nilslice,.nilslice] (tag 46))).put w.n (.cells [.nilslice,.nilslice,.nilslice,.nilslice,.nilslice] (tag 46)):=⟨_,rfl⟩
  have yn:y.n=w.n+1:=by rw [hy];rfl
  have ym:y.m=min w.m w.n:=by rw [hy];simp only [St.put,minN_eq,new_m]
  have yg:∀ c,c≠w.n→y.h.get c=w.h.get c:=fun c hc=>by rw [hy,get_put_ne' _ _ _ _ hc,get_new_ne _ _ _ hc]
  have y7:y.h.get w.n=some (.cells [.nilslice,.nilslice,.nilslice,.nilslice,.nilslice] (tag 46)):=by rw [hy];exact get_put_eq _ _ _ _ rfl (by omega)
  have y3:=(yg u.n (by omega)).trans w0
  rw [enter20]
  simp (disch:=first|omega|(with_unfolding_all exact rfl)|(simp only[new_n,put_n,new_m];omega)|(refine put_m_le ?_;simp only[new_m];omega)) only [res20,K20,K20r0,Abs.W,reduceIte,Nat.reduceEqDiff,Nat.reduceAdd,decide_true,decide_false,kLoop_def,Nat.reduceSub,nn1]
  rw [← hw]
  simp (disch:=first|omega|(with_unfolding_all exact rfl)|(simp only[new_n,put_n,new_m];omega)|(refine put_m_le ?_;simp only[new_m];omega)) only [K20r1,K20r2,Abs.W,reduceIte,Nat.reduceEqDiff,Nat.reduceAdd,decide_true,decide_false,kLoop_def,Nat.reduceSub,Env.find_set]
  rw [← hy]
  generalize hl1:loopN _ rounds _ _ _ _ _=q1
  obtain ⟨L1,t1,be,H,ve,rfl,lk1,Hl,Hv,hbe,IH,g1,fr1,n1,k1,m1,f1⟩:=edge_hall (q:=q) hours hl1 (by omega) hh5 (show u.n<w.n by omega) (by omega) (by omega) (by omega) y3 y7 (by simp only [find_cons,Env.find_set,reduceIte,Nat.reduceEqDiff]) (by simp only [find_cons,Env.find_set,reduceIte,Nat.reduceEqDiff]) (by simp only [find_cons,Env.find_set,reduceIte,Nat.reduceEqDiff]) (by simp only [find_cons,Env.find_set,reduceIte,Nat.reduceEqDiff]) (by simp only [find_cons,Env.find_set,reduceIte,Nat.reduceEqDiff])
  have j1:L1.find 1=.int .i64 hours:=(lk1 1 (by simp)).trans (by simp only [find_cons,Env.find_set,reduceIte,Nat.reduceEqDiff])
  have j2:L1.find 2=.bool q:=(lk1 2 (by simp)).trans (by simp only [find_cons,Env.find_set,reduceIte,Nat.reduceEqDiff])
  have j3:L1.find 3=.ptr u.n 0:=(lk1 3 (by simp)).trans (by simp only [find_cons,Env.find_set,reduceIte,Nat.reduceEqDiff])
  have j6:L1.find 6=.ptr (u.n+1) 0:=(lk1 6 (by simp)).trans (by simp only [find_cons,Env.find_set,reduceIte,Nat.reduceEqDiff])
  have j7:L1.find 7=.ptr w.n 0:=(lk1 7 (by simp)).trans (by simp only [find_cons,Env.find_set,reduceIte,Nat.reduceEqDiff])
  clear lk1
  simp (disch:=first|omega|(with_unfolding_all exact rfl)|(simp only[new_n,put_n,new_m];omega)|(refine put_m_le ?_;simp only[new_m];omega)) only [K20r6,Abs.W,reduceIte,Nat.reduceEqDiff,Nat.reduceAdd,decide_true,decide_false,kLoop_def,Nat.reduceSub,Env.find_set]
  generalize hl2:loopN _ rounds _ _ _ _ _=q2
  have hR1:RowsAt t1.h u.n 9 (c.boxes.map Box.cells) v1:=hC.at_.b.grow (fun b hb=>(fr1 b (by omega) (by omega)).trans ((yg b (by omega)).trans (wg b hb))) (Nat.le_refl _)
  obtain ⟨L2,t2,ba,bb,bc,bd,T,va,vb,vc,vd,rfl,lk2,U,Ti,TH,vi,vm,vcc,vw,fr2,n2,k2,m2,f2⟩:=edge_boxes (q:=q) hours H hl2 (by omega) ok.b hh1 hh5 (show u.n<w.n by omega) (by omega) (Nat.le_refl _) (by omega) f1 hR1 ((fr1 u.n (by omega) (by omega)).trans y3) g1 (by simp only [Env.find_set,j1,reduceIte,Nat.reduceEqDiff]) (by simp only [Env.find_set,j2,reduceIte,Nat.reduceEqDiff]) (by simp only [Env.find_set,j3,reduceIte,Nat.reduceEqDiff]) (by simp only [Env.find_set,j7,reduceIte,Nat.reduceEqDiff]) (by simp only [Env.find_set,reduceIte,Nat.reduceEqDiff])
  have i6:L2.find 6=.ptr (u.n+1) 0:=(lk2 6 (by simp)).trans (by simp only [Env.find_set,j6,reduceIte,Nat.reduceEqDiff])
  have i7:L2.find 7=.ptr w.n 0:=(lk2 7 (by simp)).trans (by simp only [Env.find_set,j7,reduceIte,Nat.reduceEqDiff])
  clear lk2
  have bl:=ok.b
  have g7:=U.g7
  have low:∀ c,c<w.n→t2.h.get c=w.h.get c:=fun c hc=>(fr2 c (by omega) (by omega)).trans ((fr1 c (by omega) (by omega)).trans (yg c (by omega)))
  have g6:=(low (u.n+1) (by omega)).trans w1
  have sa:=at_scal U.ice
  have sb:=tab_scal U.melts
  have sc:=tab_scal U.cold
  have sd:=tab_scal U.warm
  have se:=at_scal IH
  have sall:scalars [va,vb,vc,vd,ve]=true:=by rw [scal_cons _ _ sa,scal_cons _ _ sb,scal_cons _ _ sc,scal_cons _ _ sd,scal_cons _ _ se];rfl
  simp (disch:=first|omega|(with_unfolding_all exact rfl)|(simp only[new_n,put_n,new_m];omega)|(refine put_m_le ?_;simp only[new_m];omega)) only [K20r17,Abs.W,reduceIte,Nat.reduceEqDiff,Nat.reduceAdd,decide_true,decide_false,kLoop_def,Nat.reduceSub,Env.find_set,i6,i7,g7,g6,sall,Nat.zero_add]
  obtain ⟨fin,hfin⟩:∃ fin:St,fin=t2.put (u.n+1) (.cells [va,vb,vc,vd,ve] (tag 46)):=⟨_,rfl⟩
  have finn:fin.n=t2.n:=by rw [hfin];rfl
  have fing:∀ c,c≠u.n+1→fin.h.get c=t2.h.get c:=fun c hc=>by rw [hfin,get_put_ne' _ _ _ _ hc]
  have IH2:IntsAt t2.h t2.n be H ve:=IH.mono (fun h=>fr2 be h (by omega)) (by omega)
  have hTA:TruthAt fin.h fin.n T va vb vc vd ve:=by
   have F:∀ x,x<t2.n→Rest t1.n ba bb bc bd x→fin.h.get x=t2.h.get x∧Rest t1.n ba bb bc bd x:=fun x hx r=>⟨fing x (by have:=r.1;omega),r⟩
   obtain ⟨lo1,lo2,lo3,lo4⟩:=U.lo
   refine ⟨IntsAt.at_ (U.ice.mono (fun h=>fing ba (by omega)) (by omega)),(U.melts.mono (fun h=>fing bb (by omega)) F (by omega)).tab,(U.cold.mono (fun h=>fing bc (by omega)) F (by omega)).tab,(U.warm.mono (fun h=>fing bd (by omega)) F (by omega)).tab,?_⟩
   rw [TH]
   exact (IntsAt.at_ (IH2.mono (fun h=>fing be (by omega)) (by omega)))
  have hTI:T.In (c.edge q) hours:=by
   have hlen:(c.edge q).boxes.length=c.boxes.length:=by show (c.boxes.map _).length=_;rw [List.length_map]
   obtain ⟨le1,le2,le3⟩:=U.len
   have bx:∀ j (hj:j<c.boxes.length),(c.edge q).box j=(c.boxes[j]).edge q:=fun j hj=>by rw [c.edge_box q hj,c.box_eq hj]
   refine ⟨Ti.trans hlen.symm,fun b hb=>?_,?_,?_,?_,by rw [TH];exact Hl,fun x hx=>?_⟩
   ·rw [vi b hb (by omega),bx b (by omega)]
    cases q<;>exact ⟨Int.le_refl _,Int.le_refl _⟩
   ·rw [hlen];exact tabIn_edge vm (by omega) fun j hj=>by rw [bx j hj];cases q<;>exact ⟨Int.le_refl _,Int.le_refl _⟩
   ·rw [hlen];exact tabIn_edge vcc (by omega) fun j hj=>by rw [bx j hj];cases q<;>exact ⟨Int.le_refl _,Int.le_refl _⟩
   ·rw [hlen];exact tabIn_edge vw (by omega) fun j hj=>by rw [bx j hj];cases q<;>exact ⟨Int.le_refl _,Int.le_refl _⟩
   ·rw [TH] at hx
    rw [Hv x hx]
    cases q<;>exact ⟨Int.le_refl _,Int.le_refl _⟩
  rw [← hfin]
  refine ⟨.agg [va,vb,vc,vd,ve],fin,leave_cell _ _ _ _ sh ?_,⟨fun c hc=>?_,by omega,by omega,?_,?_⟩,⟨T,va,vb,vc,vd,ve,rfl,hTA,hTI,sa,sb,sc,sd,se⟩,fun hp=>?_⟩
  ·rw [i6,load_ptr,hfin,get_put_eq _ _ _ _ rfl (by omega)]
   simp (disch:=first|omega|(with_unfolding_all exact rfl)|(simp only[new_n,put_n,new_m];omega)|(refine put_m_le ?_;simp only[new_m];omega)) only [Abs.W,reduceIte,Nat.reduceEqDiff,Nat.reduceAdd,decide_true,decide_false,kLoop_def,Nat.reduceSub,okA_agg]
  ·rw [fing c (by omega),low c (by omega),wg c hc]
  ·have h1:=m1 u.n (by omega) (by omega)
   have h2:=m2 u.n (by omega) h1
   rw [hfin];simp only [St.put,minN_eq];omega
  ·rw [hfin];simp only [St.put,minN_eq];omega
  ·have hve:=plains_mem (v:=ve) hp (by simp)
   rcases IH.is with ⟨z,_⟩ | ⟨_,_,z,_⟩
   ·have:H=[]:=by simpa [ints] using z
    rw [this] at Hl
    simp at Hl
    omega
   ·rw [z] at hve;cases hve)
 exact ⟨T,va,vb,vc,vd,ve,t,hr.symm.trans e,st,hq⟩
end Go.Proofs.Ytndbihaffijhbaa.walk
set_option maxRecDepth 10000
namespace Go.Proofs.Ytndbihaffijhbaa.walk
open Go.Abs Go.Proofs.Ytndbihaffijhbaa.code
theorem true_ex {N d:Nat} {lo hi:Int} {s:St} {r:ARes} (hr:call Try.prog X N (.fn 37) [.ptr d 0,.agg [.int .i64 lo,.int .i64 hi]] s=r) (hN:5≤N) (hd:Die d s.h) (hlt:d<s.n) (hs:s.n+600≤far)
  (h0 : -1000000≤lo) (h1:lo≤hi) (h2:hi≤1000000) :
  ∃ a t,r=.val (.int .i64 a) t∧Stir d s t 3∧Die d t.h∧lo≤a∧a≤hi:=by
 obtain ⟨n,rfl⟩:∃ n,N=n+1:=⟨N - 1,by omega⟩
 have hff:far=1000000000:=rfl
 obtain ⟨v,t,e,st,⟨x,rfl,q0,q1⟩,hd'⟩:=call_stir_plain (n:=n) (args:=[.ptr d 0,.agg [.int .i64 lo,.int .i64 hi]]) (d:=d) (k:=3) (Q:=fun v=>∃ x:Int,v=.int .i64 x∧lo≤x∧x≤hi) (R:=Die d) Try.func37 hd (fun u uh un um=>by
  rw [← uh] at hd
  rw [enter37]
  simp (disch:=first|omega|(with_unfolding_all exact rfl)|(simp only[new_n,put_n,new_m];omega)|(refine put_m_le ?_;simp only[new_m];omega)) only [res37,K37,K37r0,Abs.W,reduceIte,Nat.reduceEqDiff,Nat.reduceAdd,decide_true,decide_false,kLoop_def,Nat.reduceSub]
  obtain ⟨y,hy⟩:∃ y:St,y=u.new (.cells [.int .i64 lo,.int .i64 hi] (tag 26)):=⟨_,rfl⟩
  rw [← hy]
  have yn:y.n=u.n+1:=by rw [hy];rfl
  have ym:y.m=far:=by rw [hy];exact um
  have yg:∀ c,c<u.n→y.h.get c=u.h.get c:=fun c hc=>by rw [hy,get_new_ne _ _ _ (by omega)]
  have y0:y.h.get u.n=some (.cells [.int .i64 lo,.int .i64 hi] (tag 26)):=by rw [hy];exact get_new_eq _ _ _ rfl (by omega)
  have dy:Die d y.h:=by obtain ⟨f,hg⟩:=hd;exact ⟨f,by rw [yg _ (by omega)];exact hg⟩
  simp (disch:=first|omega|(with_unfolding_all exact rfl)|(simp only[new_n,put_n,new_m];omega)|(refine put_m_le ?_;simp only[new_m];omega)) only [K37r1,Abs.W,reduceIte,Nat.reduceEqDiff,Nat.reduceAdd,decide_true,decide_false,kLoop_def,Nat.reduceSub,Env.find_set,y0,Nat.reduceAdd,Nat.zero_add]
  generalize hc1:call _ _ _ (.fn 28) _ _=r1
  obtain ⟨x1,t1,rfl,st1,d1,x10,x11⟩:=from_ex hc1 (by omega) dy (by show d<y.n;omega) (by show y.n+200≤far;omega) (by omega) (by omega) (by omega) (by omega)
  have n1:y.n≤t1.n:=st1.n
  have k1:t1.n≤y.n:=st1.le
  have p1:t1.h.get u.n=some (.cells [.int .i64 lo,.int .i64 hi] (tag 26)):=(st1.same u.n (by show u.n<y.n;omega) (by omega)).trans y0
  simp (disch:=first|omega|(with_unfolding_all exact rfl)|(simp only[new_n,put_n,new_m];omega)|(refine put_m_le ?_;simp only[new_m];omega)) only [K37r1,Abs.W,reduceIte,Nat.reduceEqDiff,Nat.reduceAdd,decide_true,decide_false,kLoop_def,Nat.reduceSub,Env.find_set,thenT_turn,p1,Nat.reduceAdd,Nat.zero_add]
  generalize hc2:call _ _ _ (.fn 28) _ _=r2
  obtain ⟨x2,t2,rfl,st2,d2,x20,x21⟩:=from_ex hc2 (by omega) d1 (by show d<t1.n;omega) (by show t1.n+200≤far;omega) (by omega) (by omega) (by omega) (by omega)
  have n2:t1.n≤t2.n:=st2.n
  have k2:t2.n≤t1.n:=st2.le
  have p2:t2.h.get u.n=some (.cells [.int .i64 lo,.int .i64 hi] (tag 26)):=(st2.same u.n (by show u.n<t1.n;omega) (by omega)).trans p1
  simp (disch:=first|omega|(with_unfolding_all exact rfl)|(simp only[new_n,put_n,new_m];omega)|(refine put_m_le ?_;simp only[new_m];omega)) only [K37r1,Abs.W,reduceIte,Nat.reduceEqDiff,Nat.reduceAdd,decide_true,decide_false,kLoop_def,Nat.reduceSub,Env.find_set,thenT_turn,Nat.reduceAdd,Nat.zero_add]
  generalize hc3:call _ _ _ (.fn 29) _ _=r3
  obtain ⟨x3,t3,rfl,st3,d3,m3⟩:=one_ex [lo,hi,x1,x2] hc3 (by omega) (by obtain ⟨f,hg⟩:=d2;exact ⟨f,by rw [get_new_ne _ _ _ (by show d≠t2.n;omega)];exact hg⟩) (by show d<t2.n+1;omega) (by show t2.n+1+200≤far;omega) (get_new_eq _ _ _ rfl (by show t2.n<_;omega)) (by show t2.n<t2.n+1;omega) (by show t2.n≠d;omega) rfl (by omega) (by omega)
  have x3r:lo≤x3∧x3≤hi:=by
   simp only [List.mem_cons,List.not_mem_nil,or_false] at m3
   omega
  have n3:t2.n+1≤t3.n:=st3.n
  have k3:t3.n≤t2.n+1:=st3.le
  simp (disch:=first|omega|(with_unfolding_all exact rfl)|(simp only[new_n,put_n,new_m];omega)|(refine put_m_le ?_;simp only[new_m];omega)) only [K37r1,Abs.W,reduceIte,Nat.reduceEqDiff,Nat.reduceAdd,decide_true,decide_false,kLoop_def,Nat.reduceSub,Env.find_set,thenT_turn]
  have kp:∀ (a b:Heap) (M:Env),a.get u.n=some (.cells [.int .i64 lo,.int .i64 hi] (tag 26))→b.get u.n=some (.cells [.int .i64 lo,.int .i64 hi] (tag 26))→M.find 6=.ptr u.n 0→M.find 8=.ptr u.n 1→keptAll a b M [6,8]=true:=fun a b M h2 h3 h1 h4=>by
   simp only [keptAll_cons,keptAll_nil,h1,h4,keptV_ptr,h2,h3,sameO_cells,Bool.and_self]
  have kp4:∀ (a b:Heap) (M:Env),a.get u.n=some (.cells [.int .i64 lo,.int .i64 hi] (tag 26))→b.get u.n=some (.cells [.int .i64 lo,.int .i64 hi] (tag 26))→M.find 6=.ptr u.n 0→M.find 8=.ptr u.n 1→M.find 17=.ptr u.n 0→M.find 19=.ptr u.n 1→keptAll a b M [6,8,17,19]=true:=fun a b M h2 h3 h1 h4 h5 h6=>by
   simp only [keptAll_cons,keptAll_nil,h1,h4,h5,h6,keptV_ptr,h2,h3,sameO_cells,Bool.and_self]
  rw [endT_kept (s:=⟨t1.h,t1.n,minN y.m t1.m⟩) (kp _ _ _ p1 p2 (by simp only [find_cons,reduceIte,Nat.reduceEqDiff]) (by simp only [find_cons,reduceIte,Nat.reduceEqDiff])),endT_kept (kp4 _ _ _ y0 p1 (by simp only [find_cons,reduceIte,Nat.reduceEqDiff]) (by simp only [find_cons,reduceIte,Nat.reduceEqDiff]) (by simp only [find_cons,reduceIte,Nat.reduceEqDiff]) (by simp only [find_cons,reduceIte,Nat.reduceEqDiff]))]
  simp (disch:=first|omega|(with_unfolding_all exact rfl)|(simp only[new_n,put_n,new_m];omega)|(refine put_m_le ?_;simp only[new_m];omega)) only [res37,Abs.W,reduceIte,Nat.reduceEqDiff,Nat.reduceAdd,decide_true,decide_false,kLoop_def,Nat.reduceSub,Env.find_set,endO_nil,regD_ok]
  have h1:=st1.m (show d≤far by omega)
  have h2:=st2.m (show d≤far by omega)
  have h3:=st3.m (show d≤minN (minN y.m t1.m) t2.m by rw [minN_eq,minN_eq];omega)
  have h4:t3.m≤minN (minN y.m t1.m) t2.m:=st3.mle
  rw [minN_eq,minN_eq] at h4
  refine ⟨_,_,rfl,⟨fun c hc hcd=>?_,?_,?_,fun _=>?_,?_⟩,rfl,⟨_,rfl,x3r.1,x3r.2⟩,d3⟩
  ·rw [st3.same c (by show c<t2.n+1;omega) hcd,get_new_ne _ _ _ (by show c≠t2.n;omega)]
   show t2.h.get c=_
   rw [st2.same c (by show c<t1.n;omega) hcd,st1.same c (by show c<y.n;omega) hcd]
   show y.h.get c=_
   rw [yg c hc]
  ·omega
  ·omega
  ·exact h3
  ·omega) (by omega)
 exact ⟨x,t,hr.symm.trans e,st,hd',q0,q1⟩
end Go.Proofs.Ytndbihaffijhbaa.walk
set_option maxRecDepth 10000
namespace Go.Proofs.Ytndbihaffijhbaa.walk
open Go.Abs Go.Proofs.Ytndbihaffijhbaa.code
theorem HourOf_ex {N d:Nat} {s:St} {r:ARes} {born keeps:Int} {v4:AV} (hr:call Try.prog X N (.fn 9) [.ptr d 0,.agg [.int .i64 born,.int .i64 keeps,v4]] s=r) (hN:6≤N) (hd:Die d s.h) (hdn:d<s.n) (hs:s.n+1000≤far) (hb:0≤born∧born≤240) :
  ∃ (h:Int) (t:St),r=.val (.int .i64 h) t∧Stir d s t 10∧Die d t.h∧born≤h∧h≤240:=by
 obtain ⟨n,rfl⟩:∃ n,N=n+1:=⟨N - 1,by omega⟩
 have hff:far=1000000000:=rfl
 obtain ⟨v,t,e,st,⟨h,rfl,h0,h1⟩,hd'⟩:=call_stir_plain (n:=n) (args:=[.ptr d 0,.agg [.int .i64 born,.int .i64 keeps,v4]]) (d:=d) (k:=10) (Q:=fun v=>∃ h:Int,v=.int .i64 h∧born≤h∧h≤240) (R:=Die d) Try.func9 hd (fun u uh un um=>by
  rw [← uh] at hd
  rw [enter9]
  simp (disch:=first|omega|(with_unfolding_all exact rfl)|(simp only[new_n,put_n,new_m];omega)|(refine put_m_le ?_;simp only[new_m];omega)) only [res9,K9,K9r0,Abs.W,reduceIte,Nat.reduceEqDiff,Nat.reduceAdd,decide_true,decide_false,kLoop_def,Nat.reduceSub]
  obtain ⟨w,hw⟩:∃ w:St,w=u.new (.cells [.int .i64 born,.int .i64 keeps,v4] (tag 35)):=⟨_,rfl⟩
  rw [← hw]
  have wn:w.n=u.n+1:=by rw [hw];rfl
  have wm:w.m=far:=by rw [hw];exact um
  have wg:∀ c,c<u.n→w.h.get c=u.h.get c:=fun c hc=>by rw [hw,get_new_ne _ _ _ (by omega)]
  have w0:w.h.get u.n=some (.cells [.int .i64 born,.int .i64 keeps,v4] (tag 35)):=by rw [hw];exact get_new_eq _ _ _ rfl (by omega)
  have dw:Die d w.h:=by obtain ⟨f,hg⟩:=hd;exact ⟨f,by rw [wg _ (by omega)];exact hg⟩
  simp (disch:=first|omega|(with_unfolding_all exact rfl)|(simp only[new_n,put_n,new_m];omega)|(refine put_m_le ?_;simp only[new_m];omega)) only [K9r1,Abs.W,reduceIte,Nat.reduceEqDiff,Nat.reduceAdd,decide_true,decide_false,kLoop_def,Nat.reduceSub,Env.find_set,w0]
  obtain ⟨y,hy⟩:∃ y:St,y=w.new (.cells [.int .i64 6,.int .i64 30,.int .i64 60] 0):=⟨_,rfl⟩
  rw [← hy]
  have yn:y.n=w.n+1:=by rw [hy];rfl
  have ym:y.m=far:=by rw [hy];exact wm
  have yg:∀ c,c<w.n→y.h.get c=w.h.get c:=fun c hc=>by rw [hy,get_new_ne _ _ _ (by omega)]
  have y0:=(yg u.n (by omega)).trans w0
  have y1:y.h.get w.n=some (.cells [.int .i64 6,.int .i64 30,.int .i64 60] 0):=by rw [hy];exact get_new_eq _ _ _ rfl (by omega)
  have dy:Die d y.h:=by obtain ⟨f,hg⟩:=dw;exact ⟨f,by rw [yg _ (by omega)];exact hg⟩
  generalize hc1:call _ _ _ (.fn 29) _ _=r1
  obtain ⟨x1,t1,rfl,st1,d1,m1⟩:=one_ex [6,30,60] hc1 (by omega) dy (by show d<y.n;omega) (by show y.n+200≤far;omega) y1 (by show w.n<y.n;omega) (by omega) rfl (by omega) (by omega)
  have x1r:x1=6∨x1=30∨x1=60:=by simpa using m1
  have n1:y.n≤t1.n:=st1.n
  have k1:t1.n≤y.n:=st1.le
  have p1:t1.h.get u.n=some (.cells [.int .i64 born,.int .i64 keeps,v4] (tag 35)):=(st1.same u.n (by show u.n<y.n;omega) (by omega)).trans y0
  simp (disch:=first|omega|(with_unfolding_all exact rfl)|(simp only[new_n,put_n,new_m];omega)|(refine put_m_le ?_;simp only[new_m];omega)) only [K9r1,Abs.W,reduceIte,Nat.reduceEqDiff,Nat.reduceAdd,decide_true,decide_false,kLoop_def,Nat.reduceSub,Env.find_set,thenT_turn]
  generalize hc2:call _ _ _ (.fn 10) _ _=r2
  obtain ⟨x2,t2,rfl,st2,d2,x20,x21⟩:=cast_ex hc2 (by omega) d1 (by show d<t1.n;omega) (by show t1.n+100≤far;omega) (by omega)
  have n2:t1.n≤t2.n:=st2.n
  have k2:t2.n≤t1.n:=st2.le
  have p2:t2.h.get u.n=some (.cells [.int .i64 born,.int .i64 keeps,v4] (tag 35)):=(st2.same u.n (by show u.n<t1.n;omega) (by omega)).trans p1
  have a2:∀ s,aAdd s .i64 born x2=.val (.int .i64 (born+x2)) s:=fun s=>aAdd_i64 s _ _ (by omega)
  simp (disch:=first|omega|(with_unfolding_all exact rfl)|(simp only[new_n,put_n,new_m];omega)|(refine put_m_le ?_;simp only[new_m];omega)) only [K9r1,Abs.W,reduceIte,Nat.reduceEqDiff,Nat.reduceAdd,decide_true,decide_false,kLoop_def,Nat.reduceSub,Env.find_set,thenT_turn,a2,kFold_def,foldA_nil,foldA_cons,minA_i64]
  have kp:∀ (a b:Heap) (M:Env),M.find 5=.ptr u.n 0→a.get u.n=some (.cells [.int .i64 born,.int .i64 keeps,v4] (tag 35))→b.get u.n=some (.cells [.int .i64 born,.int .i64 keeps,v4] (tag 35))→keptAll a b M [5]=true:=fun a b M h1 h2 h3=>by
   simp only [keptAll_cons,keptAll_nil,h1,keptV_ptr,h2,h3,sameO_cells,Bool.and_self]
  rw [endT_kept (s:=⟨t1.h,t1.n,minN y.m t1.m⟩) (kp _ _ _ (by simp only [find_cons,reduceIte,Nat.reduceEqDiff]) p1 p2),endT_kept (kp _ _ _ (by simp only [find_cons,reduceIte,Nat.reduceEqDiff]) y0 p1)]
  simp (disch:=first|omega|(with_unfolding_all exact rfl)|(simp only[new_n,put_n,new_m];omega)|(refine put_m_le ?_;simp only[new_m];omega)) only [res9,Abs.W,reduceIte,Nat.reduceEqDiff,Nat.reduceAdd,decide_true,decide_false,kLoop_def,Nat.reduceSub,Env.find_set,endO_nil,regD_ok]
  have h1:=st1.m (show d≤far by omega)
  have h2:=st2.m (show d≤far by omega)
  refine ⟨_,_,rfl,⟨fun c hc hcd=>?_,?_,?_,fun _=>?_,?_⟩,rfl,⟨_,rfl,by omega,by omega⟩,d2⟩
  ·show t2.h.get c=_
   rw [st2.same c (by show c<t1.n;omega) hcd,st1.same c (by show c<y.n;omega) hcd]
   show y.h.get c=_
   rw [yg c (by omega),wg c hc]
  ·show u.n≤t2.n;omega
  ·show t2.n≤u.n+10;omega
  ·show d≤minN (minN y.m t1.m) t2.m;rw [minN_eq,minN_eq];omega
  ·show minN (minN y.m t1.m) t2.m≤u.m;rw [minN_eq,minN_eq];omega) (by omega)
 exact ⟨h,t,hr.symm.trans e,st,hd',h0,h1⟩
end Go.Proofs.Ytndbihaffijhbaa.walk
set_option maxRecDepth 10000
namespace Go.Proofs.Ytndbihaffijhbaa.walk
open Go.Abs Go.Proofs.Ytndbihaffijhbaa.code
theorem of_hall_round (N:Nat) (hN:6≤N) (cx:Ctx) (L:Env) (s:St) (d p4 p7 z4 z7 b i hours:Nat) (l:List Int) (hl hh:Int) (v v1 v2 v3:AV) (hi:i<hours) (hh5:hours≤500) (hd:Die d s.h) (hd4:d<p4) (h47:p4<p7) (hp7:p7<s.n) (hb:p7<b) (hs:s.n+3000≤far) (ql:l.length=i) (qI:IntsAt s.h s.n b l v)
  (g4:s.h.get p4=some (.cells [.int .i64 hl,.int .i64 hh,v1,v2,v3] z4)) (g7:s.h.get p7=some (.cells [.nilslice,.nilslice,.nilslice,.nilslice,v] z7)) (h0 : -1000000≤hl) (h1:hl≤hh) (h2:hh≤1000000)
  (l0:L.find 0=.ptr d 0) (l2:L.find 2=.int .i64 hours) (l4:L.find 4=.ptr p4 0) (l7:L.find 7=.ptr p7 0) (l8:L.find 8=.int .i64 i) :
  ∃ (L1:Env) (s1:St) (x:Int) (v':AV) (b':Nat),K13l0 (call Try.prog X N) cx L [] s=.done .norm L1 [] s1∧(∀ t,t=0∨t=2∨t=4∨t=6∨t=7→L1.find t=L.find t)∧L1.find 8=.int .i64 ((i:Int)+1)∧hl≤x∧x≤hh∧s.n≤b'∧IntsAt s1.h s1.n b' (l++[x]) v'∧s1.h.get p7=some (.cells [.nilslice,.nilslice,.nilslice,.nilslice,v'] z7)∧Die d s1.h ∧
   (∀ c,c<s.n→c≠p7→c≠d→c≠b→s1.h.get c=s.h.get c)∧s.n≤s1.n∧s1.n≤s.n+5∧(d≤s.m→d≤s1.m)∧s1.m≤s.m:=by
 have hff:far=1000000000:=rfl
 have e0:decide ((i:Int)<(hours:Int))=true:=decide_eq_true (by omega)
 have okv:∀ t,okA (.val v t)=.val v t:=fun t=>okA_ne qI.at_.ne
 have a1:∀ s,aAdd s .i64 (i:Int) 1=.val (.int .i64 ((i:Int)+1)) s:=fun s=>aAdd_i64 s _ _ (by omega)
 simp (disch:=first|omega|(with_unfolding_all exact rfl)|(simp only[new_n,put_n,new_m];omega)|(refine put_m_le ?_;simp only[new_m];omega)) only [K13l0,K13r3,K13r4,Abs.W,reduceIte,Nat.reduceEqDiff,Nat.reduceAdd,decide_true,decide_false,kLoop_def,Nat.reduceSub,Env.find_set,l0,l2,l4,l7,l8,e0,g4,g7,okv,Nat.zero_add]
 generalize hc1:call _ _ _ (.fn 37) _ _=r1
 obtain ⟨x,t,rfl,st,dt,x0,x1⟩:=true_ex hc1 (by omega) hd (by show d<s.n;omega) (by show s.n+600≤far;omega) h0 h1 h2
 have n1:s.n≤t.n:=st.n
 have k1:t.n≤s.n+3:=st.le
 have tg:∀ c,c<s.n→c≠d→t.h.get c=s.h.get c:=fun c hc hcd=>st.same c hc hcd
 obtain ⟨y,hy⟩:∃ y:St,y=⟨t.h,t.n,minN s.m t.m⟩:=⟨_,rfl⟩
 have yh:y.h=t.h:=by rw [hy]
 have yn:y.n=t.n:=by rw [hy]
 have ym:y.m≤s.m:=by rw [hy];show minN s.m t.m≤s.m;rw [minN_eq];omega
 have ym2:d≤s.m→d≤y.m:=fun h=>by
  have:=st.m (by show d≤far;omega)
  rw [hy];show d≤minN s.m t.m;rw [minN_eq];omega
 have qI1:IntsAt y.h y.n b l v:=by rw [yh,yn];exact qI.mono (fun h=>tg b h (by omega)) n1
 have g71:=(tg p7 hp7 (by omega)).trans g7
 obtain ⟨s',e1,e2,e3,e4,e5,e6⟩:=append_at (s:=y.new (.cells [.int .i64 x] 0)) (bytes:=8) (row:=[.int .i64 x]) (qI1.mono (fun h=>get_new_ne _ _ _ (by omega)) (Nat.le_succ _)) (get_new_eq _ _ _ rfl (by omega)) rfl rfl (by rw [ints_len];omega) (by kernel_rfl) (by show y.n+1<_;omega)
 have yn1:(y.new (.cells [.int .i64 x] 0)).n=y.n+1:=rfl
 have hp:s'.h.get p7=_:=(e4 p7 (by omega) (by omega)).trans ((get_new_ne _ _ _ (by omega)).trans ((by rw [yh]:y.h.get p7=t.h.get p7).trans g71))
 simp (disch:=first|omega|(with_unfolding_all exact rfl)|(simp only[new_n,put_n,new_m];omega)|(refine put_m_le ?_;simp only[new_m];omega)) only [thenT_turn,Abs.W,reduceIte,Nat.reduceEqDiff,Nat.reduceAdd,decide_true,decide_false,kLoop_def,Nat.reduceSub,Env.find_set,l7,Nat.zero_add]
 rw [← hy]
 rw [yn] at e1
 simp (disch:=first|omega|(with_unfolding_all exact rfl)|(simp only[new_n,put_n,new_m];omega)|(refine put_m_le ?_;simp only[new_m];omega)) only [Abs.W,reduceIte,Nat.reduceEqDiff,Nat.reduceAdd,decide_true,decide_false,kLoop_def,Nat.reduceSub,Env.find_set,l7,e1,hp,Nat.zero_add]
 rw [endT_kept (by simp only [keptAll_cons,keptAll_nil,find_cons,Env.find_set,l7,keptV_ptr,g7,g71,sameO_cells,reduceIte,Nat.reduceEqDiff,Bool.and_self])]
 simp (disch:=first|omega|(with_unfolding_all exact rfl)|(simp only[new_n,put_n,new_m];omega)|(refine put_m_le ?_;simp only[new_m];omega)) only [Abs.W,reduceIte,Nat.reduceEqDiff,Nat.reduceAdd,decide_true,decide_false,kLoop_def,Nat.reduceSub,Env.find_set,endO_nil,regD_ok,K13r5,l8,a1]
 rw [ints_snoc] at e2
 refine ⟨_,_,x,_,y.n+1,rfl,fun t ht=>?_,?_,x0,x1,by omega,e2.mono (fun _=>get_put_ne' _ _ _ _ (by omega)) (Nat.le_refl _),get_put_eq _ _ _ _ rfl (by omega),?_,fun c hc hcp hcd hcb=>?_,?_,?_,fun h=>?_,?_⟩
 ·rcases ht with rfl | rfl | rfl | rfl | rfl<;>simp only [Env.find_set,reduceIte,Nat.reduceEqDiff]
 ·simp only [Env.find_set,reduceIte]
 ·obtain ⟨f,hf⟩:=dt
  exact ⟨f,by rw [get_put_ne' _ _ _ _ (by omega),e4 d (by omega) (by omega),get_new_ne _ _ _ (by omega),yh];exact hf⟩
 ·rw [get_put_ne' _ _ _ _ hcp,e4 c (by omega) hcb,get_new_ne _ _ _ (by omega),yh];exact tg c hc hcd
 ·simp only [put_n];omega
 ·simp only [put_n];omega
 ·have:=e5 d (by omega) (by omega) (by rw [new_m];exact ym2 h)
  simp only [St.put,minN_eq];omega
 ·rw [new_m] at e6
  simp only [St.put,minN_eq];omega
theorem of_hall {N:Nat} {r:R} {cx:Ctx} {L:Env} {s:St} {hl hh:Int} {v1 v2 v3:AV} {d p4 p7 z4 z7:Nat} (hours:Nat) (hr:loopN K13l0 rounds (call Try.prog X N) cx L [] s=r) (hN:6≤N) (hh5:hours≤500) (hd:Die d s.h) (hd4:d<p4) (h47:p4<p7) (hp7:p7<s.n) (hs:s.n+9000≤far)
  (g4:s.h.get p4=some (.cells [.int .i64 hl,.int .i64 hh,v1,v2,v3] z4)) (g7:s.h.get p7=some (.cells [.nilslice,.nilslice,.nilslice,.nilslice,.nilslice] z7)) (h0 : -1000000≤hl) (h1:hl≤hh) (h2:hh≤1000000)
  (l0:L.find 0=.ptr d 0) (l2:L.find 2=.int .i64 hours) (l4:L.find 4=.ptr p4 0) (l7:L.find 7=.ptr p7 0) (l8:L.find 8=.int .i64 0) :
  ∃ (L1:Env) (s1:St) (b:Nat) (l:List Int) (v:AV),r=.done (.exit 0) L1 [] s1∧(∀ t,t=0∨t=2∨t=4∨t=6∨t=7→L1.find t=L.find t)∧l.length=hours∧(∀ x ∈ l,hl≤x∧x≤hh)∧s.n≤b∧IntsAt s1.h s1.n b l v ∧
   s1.h.get p7=some (.cells [.nilslice,.nilslice,.nilslice,.nilslice,v] z7)∧Die d s1.h∧(∀ c,c<s.n→c≠p7→c≠d→s1.h.get c=s.h.get c)∧s.n≤s1.n∧s1.n≤s.n+5 * hours∧(d≤s.m→d≤s1.m)∧s1.m≤s.m:=by
 have hff:far=1000000000:=rfl
 obtain ⟨e,L1,s1,rfl,rfl,b,l,v,h⟩:=loop_of hr
  (fun i L' t=>∃ (b:Nat) (l:List Int) (v:AV),(∀ t,t=0∨t=2∨t=4∨t=6∨t=7→L'.find t=L.find t)∧L'.find 8=.int .i64 i∧l.length=i∧(∀ x ∈ l,hl≤x∧x≤hh)∧s.n≤b∧IntsAt t.h t.n b l v∧t.h.get p7=some (.cells [.nilslice,.nilslice,.nilslice,.nilslice,v] z7)∧Die d t.h∧(∀ c,c<s.n→c≠p7→c≠d→t.h.get c=s.h.get c)∧s.n≤t.n∧t.n≤s.n+5 * i∧(d≤s.m→d≤t.m)∧t.m≤s.m)
  (fun e L1 s1=>e=.exit 0∧∃ (b:Nat) (l:List Int) (v:AV),(∀ t,t=0∨t=2∨t=4∨t=6∨t=7→L1.find t=L.find t)∧l.length=hours∧(∀ x ∈ l,hl≤x∧x≤hh)∧s.n≤b∧IntsAt s1.h s1.n b l v∧s1.h.get p7=some (.cells [.nilslice,.nilslice,.nilslice,.nilslice,v] z7)∧Die d s1.h∧(∀ c,c<s.n→c≠p7→c≠d→s1.h.get c=s.h.get c)∧s.n≤s1.n∧s1.n≤s.n+5 * hours∧(d≤s.m→d≤s1.m)∧s1.m≤s.m)
  hours (by unfold rounds;omega) ⟨far+1,[],.nilslice,fun _ _=>rfl,l8,rfl,fun x hx=>(by cases hx),by omega,IsAt.nil _ _ _ _ _,g7,hd,fun _ _ _ _=>rfl,Nat.le_refl _,Nat.le_refl _,fun h=>h,Nat.le_refl _⟩
  (fun i L' t hi ⟨b,l,v,q0,q8,ql,qx,qb,qI,qg,qd,qs,qn,qk,qm,qf⟩=>by
   have g4t:=(qs p4 (by omega) (by omega) (by omega)).trans g4
   by_cases hlt:i<hours
   ·obtain ⟨L1,s1,x,v',b',w0,w1,w2,w3,w4,w5,w6,w7,w8,w9,w10,w11,w12,w13⟩:=of_hall_round N hN cx L' t d p4 p7 z4 z7 b i hours l hl hh v v1 v2 v3 hlt hh5 qd hd4 h47 (by omega) (by omega) (by omega) ql qI g4t qg h0 h1 h2 ((q0 0 (by simp)).trans l0) ((q0 2 (by simp)).trans l2) ((q0 4 (by simp)).trans l4) ((q0 7 (by simp)).trans l7) q8
    refine .inl ⟨hlt,L1,s1,w0,b',l++[x],v',fun t ht=>(w1 t ht).trans (q0 t ht),by rw [w2];rfl,by rw [List.length_append,ql];rfl,fun y hy=>?_,by omega,w6,w7,w8,fun c hc hcp hcd=>(w9 c (by omega) hcp hcd (by omega)).trans (qs c hc hcp hcd),by omega,by omega,fun h=>w12 (qm h),by omega⟩
    rcases List.mem_append.mp hy with h | h
    ·exact qx y h
    ·simp at h;rw [h];exact ⟨w3,w4⟩
   ·obtain rfl:i=hours:=by omega
    have e0:decide ((i:Int)<(i:Int))=false:=by simp
    have k2:=(q0 2 (by simp)).trans l2
    refine .inr ⟨.exit 0,L'.set 18 (.bool false),t,by simp,?_,rfl,b,l,v,fun t ht=>?_,ql,qx,qb,qI,qg,qd,qs,qn,qk,qm,qf⟩
    ·simp (disch:=first|omega|(with_unfolding_all exact rfl)|(simp only[new_n,put_n,new_m];omega)|(refine put_m_le ?_;simp only[new_m];omega)) only [K13l0,K13r3,Abs.W,reduceIte,Nat.reduceEqDiff,Nat.reduceAdd,decide_true,decide_false,kLoop_def,Nat.reduceSub,Env.find_set,k2,q8,e0]
    ·rw [← q0 t ht]
     rcases ht with rfl | rfl | rfl | rfl | rfl<;>simp only [Env.find_set,reduceIte,Nat.reduceEqDiff])
 exact ⟨L1,s1,b,l,v,rfl,h⟩
end Go.Proofs.Ytndbihaffijhbaa.walk
set_option maxRecDepth 10000
namespace Go.Proofs.Ytndbihaffijhbaa.walk
open Go.Abs Go.Proofs.Ytndbihaffijhbaa.code
theorem draw_push {s t:St} {d b:Nat} {l:List Int} {v:AV} {x:Int} (I:IntsAt s.h s.n b l v) (st:Stir d ⟨s.h,s.n,far⟩ t 3) (dt:Die d t.h) (hdb:d<b) (hdn:d<s.n) (hb:b<s.n∨far<b) (hl:l.length≤600) (hs:s.n+100≤far) :
  ∃ s',appendA false 1 8 (tag 3) ((⟨t.h,t.n,minN s.m t.m⟩:St).new (.cells [.int .i64 x] 0)) v (.slice t.n 0 1 1 false)=.val (.slice (t.n+1) 0 ((ints l).length+1) ((ints l).length+1) true) s'∧IntsAt s'.h s'.n (t.n+1) (l++[x]) (.slice (t.n+1) 0 ((ints l).length+1) ((ints l).length+1) true) ∧
   s'.n=t.n+2∧s.n≤t.n∧t.n≤s.n+3∧Die d s'.h∧(∀ c,c<s.n→c≠d→c≠b→s'.h.get c=s.h.get c)∧(d≤s.m→d≤s'.m)∧s'.m≤s.m:=by
 have hff:far=1000000000:=rfl
 have n1:s.n≤t.n:=st.n
 have k1:t.n≤s.n+3:=st.le
 obtain ⟨y,hy⟩:∃ y:St,y=⟨t.h,t.n,minN s.m t.m⟩:=⟨_,rfl⟩
 rw [← hy]
 have yh:y.h=t.h:=by rw [hy]
 have yn:y.n=t.n:=by rw [hy]
 have ym:y.m≤s.m:=by rw [hy];show minN s.m t.m≤s.m;rw [minN_eq];omega
 have ym2:d≤s.m→d≤y.m:=fun h=>by
  have:=st.m (by show d≤far;omega)
  rw [hy];show d≤minN s.m t.m;rw [minN_eq];omega
 have I1:IntsAt y.h y.n b l v:=by rw [yh,yn];exact I.mono (fun h=>st.same b (by show b<s.n;omega) (by omega)) n1
 have yn1:(y.new (.cells [.int .i64 x] 0)).n=y.n+1:=rfl
 obtain ⟨s',e1,e2,e3,e4,e5,e6⟩:=append_at (s:=y.new (.cells [.int .i64 x] 0)) (bytes:=8) (row:=[.int .i64 x]) (I1.mono (fun h=>get_new_ne _ _ _ (by omega)) (Nat.le_succ _)) (get_new_eq _ _ _ rfl (by omega)) rfl rfl (by rw [ints_len];omega) (by kernel_rfl) (by omega)
 rw [ints_snoc] at e2
 rw [new_m] at e6
 rw [yn1,yn] at e1
 rw [yn1,yn] at e2
 refine ⟨s',e1,e2,by omega,n1,k1,?_,fun c hc hcd hcb=>?_,fun h=>?_,by omega⟩
 ·obtain ⟨f,hf⟩:=dt
  exact ⟨f,by rw [e4 d (by omega) (by omega),get_new_ne _ _ _ (by omega),yh];exact hf⟩
 ·rw [e4 c (by omega) hcb,get_new_ne _ _ _ (by omega),yh];exact st.same c hc hcd
 ·exact e5 d (by omega) (by omega) (by rw [new_m];exact ym2 h)
theorem push_plain {s t:St} {d b:Nat} {l:List Int} {v:AV} {x:Int} (I:IntsAt s.h s.n b l v) (st:Stir d s t 3) (dt:Die d t.h) (hdb:d<b) (hdn:d<s.n) (hb:b<s.n∨far<b) (hl:l.length≤600) (hs:s.n+100≤far) :
  ∃ s',appendA false 1 8 (tag 3) (t.new (.cells [.int .i64 x] 0)) v (.slice t.n 0 1 1 false)=.val (.slice (t.n+1) 0 ((ints l).length+1) ((ints l).length+1) true) s'∧IntsAt s'.h s'.n (t.n+1) (l++[x]) (.slice (t.n+1) 0 ((ints l).length+1) ((ints l).length+1) true) ∧
   s'.n=t.n+2∧s.n≤t.n∧t.n≤s.n+3∧Die d s'.h∧(∀ c,c<s.n→c≠d→c≠b→s'.h.get c=s.h.get c)∧(d≤s.m→d≤s'.m)∧s'.m≤s.m:=by
 have hff:far=1000000000:=rfl
 have n1:s.n≤t.n:=st.n
 have k1:t.n≤s.n+3:=st.le
 have I1:IntsAt t.h t.n b l v:=I.mono (fun h=>st.same b h (by omega)) n1
 have yn1:(t.new (.cells [.int .i64 x] 0)).n=t.n+1:=rfl
 obtain ⟨s',e1,e2,e3,e4,e5,e6⟩:=append_at (s:=t.new (.cells [.int .i64 x] 0)) (bytes:=8) (row:=[.int .i64 x]) (I1.mono (fun h=>get_new_ne _ _ _ (by omega)) (Nat.le_succ _)) (get_new_eq _ _ _ rfl (by omega)) rfl rfl (by rw [ints_len];omega) (by kernel_rfl) (by omega)
 rw [ints_snoc] at e2
 rw [new_m] at e6
 rw [yn1] at e1
 rw [yn1] at e2
 refine ⟨s',e1,e2,by omega,n1,k1,?_,fun c hc hcd hcb=>?_,fun h=>?_,by have:=st.mle;omega⟩
 ·obtain ⟨f,hf⟩:=dt
  exact ⟨f,by rw [e4 d (by omega) (by omega),get_new_ne _ _ _ (by omega)];exact hf⟩
 ·rw [e4 c (by omega) hcb,get_new_ne _ _ _ (by omega)];exact st.same c hc hcd
 ·exact e5 d (by omega) (by omega) (by rw [new_m];exact st.m h)
theorem of_rows_round (N:Nat) (hN:6≤N) (cx:Ctx) (L:Env) (s:St) (B:Box) (okB:B.Ok) (d p10 z b1 b2 b3 i hours:Nat) (x y w:List Int) (vx vy vw:AV) (hi:i<hours) (hh5:hours≤500) (hd:Die d s.h) (hd10:d<p10) (hp:p10<s.n) (hs:s.n+3000≤far) (hb1:p10<b1) (hb2:p10<b2) (hb3:p10<b3) (n12:b1≠b2) (n13:b1≠b3) (n23:b2≠b3) (f1:b1<s.n∨far<b1) (f2:b2<s.n∨far<b2) (f3:b3<s.n∨far<b3)
  (qx:x.length=i) (qy:y.length=i) (qw:w.length=i) (I1:IntsAt s.h s.n b1 x vx) (I2:IntsAt s.h s.n b2 y vy) (I3:IntsAt s.h s.n b3 w vw) (g:s.h.get p10=some (.cells B.cells z))
  (l0:L.find 0=.ptr d 0) (l2:L.find 2=.int .i64 hours) (l10:L.find 10=.ptr p10 0) (l11:L.find 11=vx) (l12:L.find 12=vy) (l13:L.find 13=vw) (l14:L.find 14=.int .i64 i) :
  ∃ (L1:Env) (s1:St) (e1 e2 e3:Int) (ux uy uw:AV) (c1 c2 c3:Nat),K13l1 (call Try.prog X N) cx L [] s=.done .norm L1 [] s1∧(∀ t,t=0∨t=2∨t=4∨t=6∨t=7∨t=9∨t=10→L1.find t=L.find t)∧(L1.find 11=ux∧L1.find 12=uy∧L1.find 13=uw)∧L1.find 14=.int .i64 ((i:Int)+1) ∧
   ((B.ml≤e1∧e1≤B.mh)∧(B.cl≤e2∧e2≤B.ch)∧(B.wl≤e3∧e3≤B.wh))∧(s.n≤c1∧s.n≤c2∧s.n≤c3)∧(c1<s1.n∧c2<s1.n∧c3<s1.n)∧(c1≠c2∧c1≠c3∧c2≠c3)∧IntsAt s1.h s1.n c1 (x++[e1]) ux∧IntsAt s1.h s1.n c2 (y++[e2]) uy∧IntsAt s1.h s1.n c3 (w++[e3]) uw∧Die d s1.h ∧
   (∀ c,c<s.n→c≠d→c≠b1→c≠b2→c≠b3→s1.h.get c=s.h.get c)∧s.n≤s1.n∧s1.n≤s.n+15∧(d≤s.m→d≤s1.m)∧s1.m≤s.m:=by
 have hff:far=1000000000:=rfl
 have e0:decide ((i:Int)<(hours:Int))=true:=decide_eq_true (by omega)
 have ok1:∀ t,okA (.val vx t)=.val vx t:=fun t=>okA_ne I1.at_.ne
 have ok2:∀ t,okA (.val vy t)=.val vy t:=fun t=>okA_ne I2.at_.ne
 have ok3:∀ t,okA (.val vw t)=.val vw t:=fun t=>okA_ne I3.at_.ne
 have ad:∀ s,aAdd s .i64 (i:Int) 1=.val (.int .i64 ((i:Int)+1)) s:=fun s=>aAdd_i64 s _ _ (by omega)
 obtain ⟨o1,o2,o3,o4,o5,o6,o7,o8,o9,o10,o11,o12,o13⟩:=okB
 have ap1:=fun o=>I1.apart (c:=p10) (o:=o) (by omega)
 have ap2:=fun o=>I2.apart (c:=p10) (o:=o) (by omega)
 have g':=g
 unfold Box.cells at g'
 simp (disch:=first|omega|(with_unfolding_all exact rfl)|(simp only[new_n,put_n,new_m];omega)|(refine put_m_le ?_;simp only[new_m];omega)) only [K13l1,K13r12,K13r13,Abs.W,reduceIte,Nat.reduceEqDiff,Nat.reduceAdd,decide_true,decide_false,kLoop_def,Nat.reduceSub,Env.find_set,l0,l2,l10,l11,l12,l13,l14,e0,g',Nat.zero_add]
 generalize hc1:call _ _ _ (.fn 37) _ _=r1
 obtain ⟨e1,t1,rfl,st1,dt1,x0,x1⟩:=true_ex hc1 (by omega) hd (by show d<s.n;omega) (by show s.n+600≤far;omega) (by omega) (by omega) (by omega)
 obtain ⟨u1,a1,A1,m1,m2,m3,du1,fr1,mm1,me1⟩:=draw_push I1 st1 dt1 (by omega) (by omega) f1 (by omega) (by omega) (x:=e1)
 have gt1:=(st1.same p10 (by show p10<s.n;omega) (by omega)).trans g'
 have gu1:=(fr1 p10 (by omega) (by omega) (by omega)).trans g'
 have I2':=I2.mono (h':=u1.h) (n':=u1.n) (fun h=>fr1 b2 h (by omega) (by omega)) (by omega)
 have I3':=I3.mono (h':=u1.h) (n':=u1.n) (fun h=>fr1 b3 h (by omega) (by omega)) (by omega)
 simp (disch:=first|omega|(with_unfolding_all exact rfl)|(simp only[new_n,put_n,new_m];omega)|(refine put_m_le ?_;simp only[new_m];omega)) only [thenT_turn,Abs.W,reduceIte,Nat.reduceEqDiff,Nat.reduceAdd,decide_true,decide_false,kLoop_def,Nat.reduceSub,Env.find_set,l0,l10,l11,l12,l13,a1,gu1,Nat.zero_add]
 generalize hc2:call _ _ _ (.fn 37) _ _=r2
 obtain ⟨e2,t2,rfl,st2,dt2,y0,y1⟩:=true_ex hc2 (by omega) du1 (by show d<u1.n;omega) (by show u1.n+600≤far;omega) (by omega) (by omega) (by omega)
 obtain ⟨u2,a2,A2,m4,m5,m6,du2,fr2,mm2,me2⟩:=draw_push I2' st2 dt2 (by omega) (by omega) (by omega) (by omega) (by omega) (x:=e2)
 have gt2:=(st2.same p10 (by show p10<u1.n;omega) (by omega)).trans gu1
 have gu2:=(fr2 p10 (by omega) (by omega) (by omega)).trans gu1
 have I3'':=I3'.mono (h':=u2.h) (n':=u2.n) (fun h=>fr2 b3 h (by omega) (by omega)) (by omega)
 simp (disch:=first|omega|(with_unfolding_all exact rfl)|(simp only[new_n,put_n,new_m];omega)|(refine put_m_le ?_;simp only[new_m];omega)) only [thenT_turn,Abs.W,reduceIte,Nat.reduceEqDiff,Nat.reduceAdd,decide_true,decide_false,kLoop_def,Nat.reduceSub,Env.find_set,l0,l10,l11,l12,l13,a2,gu2,Nat.zero_add]
 generalize hc3:call _ _ _ (.fn 37) _ _=r3
 obtain ⟨e3,t3,rfl,st3,dt3,w0,w1⟩:=true_ex hc3 (by omega) du2 (by omega) (by omega) (by omega) (by omega) (by omega)
 obtain ⟨u3,a3,A3,m7,m8,m9,du3,fr3,mm3,me3⟩:=push_plain I3'' st3 dt3 (by omega) (by omega) (by omega) (by omega) (by omega) (x:=e3)
 simp (disch:=first|omega|(with_unfolding_all exact rfl)|(simp only[new_n,put_n,new_m];omega)|(refine put_m_le ?_;simp only[new_m];omega)) only [Abs.W,reduceIte,Nat.reduceEqDiff,Nat.reduceAdd,decide_true,decide_false,kLoop_def,Nat.reduceSub,Env.find_set,l0,l10,l11,l12,l13,a3,Nat.zero_add]
 rw [endT_kept (l:=[72]) (s':=t2) (by simp only [keptAll_cons,keptAll_nil,find_cons,keptV_ptr,gu1,gt2,sameO_cells,reduceIte,Nat.reduceEqDiff,Bool.and_self]),endT_kept (l:=[65,72]) (s':=t1) (by simp only [keptAll_cons,keptAll_nil,find_cons,keptV_ptr,g',gt1,sameO_cells,reduceIte,Nat.reduceEqDiff,Bool.and_self])]
 rw [endO_ok _ (by
  rw [endOk_cons,endOk_cons,endOk_cons,endOk_nil]
  all_goals
   simp only [find_cons,reduceIte,Nat.reduceEqDiff]
   first | exact ap1 _ | exact ap2 _)]
 simp (disch:=first|omega|(with_unfolding_all exact rfl)|(simp only[new_n,put_n,new_m];omega)|(refine put_m_le ?_;simp only[new_m];omega)) only [K13r14,Abs.W,reduceIte,Nat.reduceEqDiff,Nat.reduceAdd,decide_true,decide_false,kLoop_def,Nat.reduceSub,Env.find_set,l14,ad,regD_ok]
 refine ⟨_,_,e1,e2,e3,_,_,_,t1.n+1,t2.n+1,t3.n+1,rfl,fun t ht=>?_,⟨?_,?_,?_⟩,?_,⟨⟨x0,x1⟩,⟨y0,y1⟩,⟨w0,w1⟩⟩,⟨by omega,by omega,by omega⟩,⟨by omega,by omega,by omega⟩,⟨by omega,by omega,by omega⟩,A1.mono (fun h=>(fr3 _ (by omega) (by omega) (by omega)).trans (fr2 _ (by omega) (by omega) (by omega))) (by omega),A2.mono (fun h=>fr3 _ (by omega) (by omega) (by omega)) (by omega),A3,du3,fun c hc hcd hc1 hc2 hc3=>?_,by omega,by omega,fun h=>mm3 (mm2 (mm1 h)),by omega⟩
 ·rcases ht with rfl | rfl | rfl | rfl | rfl | rfl | rfl<;>simp only [Env.find_set,reduceIte,Nat.reduceEqDiff]
 ·simp only [Env.find_set,reduceIte,Nat.reduceEqDiff]
 ·simp only [Env.find_set,reduceIte,Nat.reduceEqDiff]
 ·simp only [Env.find_set,reduceIte,Nat.reduceEqDiff]
 ·simp only [Env.find_set,reduceIte,Nat.reduceEqDiff]
 ·rw [fr3 c (by omega) hcd hc3,fr2 c (by omega) hcd hc2,fr1 c hc hcd hc1]
theorem of_rows {N:Nat} {r:R} {cx:Ctx} {L:Env} {s:St} {B:Box} {d p10 z:Nat} (hours:Nat) (hr:loopN K13l1 rounds (call Try.prog X N) cx L [] s=r) (hN:6≤N) (okB:B.Ok) (hh5:hours≤500) (hd:Die d s.h) (hd10:d<p10) (hp:p10<s.n) (hs:s.n+20000≤far)
  (g:s.h.get p10=some (.cells B.cells z)) (l0:L.find 0=.ptr d 0) (l2:L.find 2=.int .i64 hours) (l10:L.find 10=.ptr p10 0) (l11:L.find 11=.nilslice) (l12:L.find 12=.nilslice) (l13:L.find 13=.nilslice) (l14:L.find 14=.int .i64 0) :
  ∃ (L1:Env) (s1:St) (b1 b2 b3:Nat) (x y w:List Int) (vx vy vw:AV),r=.done (.exit 4) L1 [] s1∧(∀ t,t=0∨t=2∨t=4∨t=6∨t=7∨t=9∨t=10→L1.find t=L.find t)∧(L1.find 11=vx∧L1.find 12=vy∧L1.find 13=vw)∧(x.length=hours∧y.length=hours∧w.length=hours) ∧
   ((∀ e ∈ x,B.ml≤e∧e≤B.mh)∧(∀ e ∈ y,B.cl≤e∧e≤B.ch)∧(∀ e ∈ w,B.wl≤e∧e≤B.wh))∧(s.n≤b1∧s.n≤b2∧s.n≤b3)∧((b1≠b2∧b1≠b3∧b2≠b3)∧(b1<s1.n∨far<b1)∧(b2<s1.n∨far<b2)∧(b3<s1.n∨far<b3))∧IntsAt s1.h s1.n b1 x vx∧IntsAt s1.h s1.n b2 y vy∧IntsAt s1.h s1.n b3 w vw∧Die d s1.h ∧
   (∀ c,c<s.n→c≠d→s1.h.get c=s.h.get c)∧s.n≤s1.n∧s1.n≤s.n+15 * hours∧(d≤s.m→d≤s1.m)∧s1.m≤s.m:=by
 have hff:far=1000000000:=rfl
 obtain ⟨e,L1,s1,rfl,rfl,b1,b2,b3,x,y,w,vx,vy,vw,h⟩:=loop_of hr
  (fun i L' t=>L'.find 14=.int .i64 i∧∃ (b1 b2 b3:Nat) (x y w:List Int) (vx vy vw:AV),(∀ t,t=0∨t=2∨t=4∨t=6∨t=7∨t=9∨t=10→L'.find t=L.find t)∧(L'.find 11=vx∧L'.find 12=vy∧L'.find 13=vw)∧(x.length=i∧y.length=i∧w.length=i) ∧
   ((∀ e ∈ x,B.ml≤e∧e≤B.mh)∧(∀ e ∈ y,B.cl≤e∧e≤B.ch)∧(∀ e ∈ w,B.wl≤e∧e≤B.wh))∧(s.n≤b1∧s.n≤b2∧s.n≤b3)∧((b1≠b2∧b1≠b3∧b2≠b3)∧(b1<t.n∨far<b1)∧(b2<t.n∨far<b2)∧(b3<t.n∨far<b3))∧IntsAt t.h t.n b1 x vx∧IntsAt t.h t.n b2 y vy∧IntsAt t.h t.n b3 w vw∧Die d t.h ∧
   (∀ c,c<s.n→c≠d→t.h.get c=s.h.get c)∧s.n≤t.n∧t.n≤s.n+15 * i∧(d≤s.m→d≤t.m)∧t.m≤s.m)
  (fun e L1 s1=>e=.exit 4∧∃ (b1 b2 b3:Nat) (x y w:List Int) (vx vy vw:AV),(∀ t,t=0∨t=2∨t=4∨t=6∨t=7∨t=9∨t=10→L1.find t=L.find t)∧(L1.find 11=vx∧L1.find 12=vy∧L1.find 13=vw)∧(x.length=hours∧y.length=hours∧w.length=hours) ∧
   ((∀ e ∈ x,B.ml≤e∧e≤B.mh)∧(∀ e ∈ y,B.cl≤e∧e≤B.ch)∧(∀ e ∈ w,B.wl≤e∧e≤B.wh))∧(s.n≤b1∧s.n≤b2∧s.n≤b3)∧((b1≠b2∧b1≠b3∧b2≠b3)∧(b1<s1.n∨far<b1)∧(b2<s1.n∨far<b2)∧(b3<s1.n∨far<b3))∧IntsAt s1.h s1.n b1 x vx∧IntsAt s1.h s1.n b2 y vy∧IntsAt s1.h s1.n b3 w vw∧Die d s1.h ∧
   (∀ c,c<s.n→c≠d→s1.h.get c=s.h.get c)∧s.n≤s1.n∧s1.n≤s.n+15 * hours∧(d≤s.m→d≤s1.m)∧s1.m≤s.m)
  hours (by unfold rounds;omega) ⟨l14,far+1,far+2,far+3,[],[],[],_,_,_,fun _ _=>rfl,⟨l11,l12,l13⟩,⟨rfl,rfl,rfl⟩,⟨fun x hx=>(by cases hx),fun x hx=>(by cases hx),fun x hx=>(by cases hx)⟩,⟨by omega,by omega,by omega⟩,⟨⟨by omega,by omega,by omega⟩,.inr (by omega),.inr (by omega),.inr (by omega)⟩,IsAt.nil _ _ _ _ _,IsAt.nil _ _ _ _ _,IsAt.nil _ _ _ _ _,hd,fun _ _ _=>rfl,Nat.le_refl _,Nat.le_refl _,fun h=>h,Nat.le_refl _⟩
  (fun i L' t hi ⟨q14,b1,b2,b3,x,y,w,vx,vy,vw,q0,⟨q11,q12,q13⟩,⟨qx,qy,qw⟩,⟨ex,ey,ew⟩,⟨hb1,hb2,hb3⟩,⟨⟨n12,n13,n23⟩,hf1,hf2,hf3⟩,I1,I2,I3,qd,qs,qn,qk,qm,qf⟩=>by
   have k2:=(q0 2 (by simp)).trans l2
   by_cases hlt:i<hours
   ·have gt:=(qs p10 hp (by omega)).trans g
    obtain ⟨L1,s1,e1,e2,e3,ux,uy,uw,c1,c2,c3,w0,w1,w2,w3,⟨⟨r1,r2⟩,⟨r3,r4⟩,⟨r5,r6⟩⟩,⟨m1,m2,m3⟩,⟨m4,m5,m6⟩,m7,A1,A2,A3,wd,wf,wn,wk,wm,wmm⟩:=of_rows_round N hN cx L' t B okB d p10 z b1 b2 b3 i hours x y w vx vy vw hlt hh5 qd hd10 (by omega) (by omega) (by omega) (by omega) (by omega) n12 n13 n23 hf1 hf2 hf3 qx qy qw I1 I2 I3 gt ((q0 0 (by simp)).trans l0) k2 ((q0 10 (by simp)).trans l10) q11 q12 q13 q14
    refine .inl ⟨hlt,L1,s1,w0,by rw [w3];rfl,c1,c2,c3,x++[e1],y++[e2],w++[e3],ux,uy,uw,fun t ht=>(w1 t ht).trans (q0 t ht),w2,⟨by rw [List.length_append,qx];rfl,by rw [List.length_append,qy];rfl,by rw [List.length_append,qw];rfl⟩,⟨fun e he=>?_,fun e he=>?_,fun e he=>?_⟩,⟨by omega,by omega,by omega⟩,⟨m7,.inl m4,.inl m5,.inl m6⟩,A1,A2,A3,wd,fun c hc hcd=>(wf c (by omega) hcd (by omega) (by omega) (by omega)).trans (qs c hc hcd),by omega,by omega,fun h=>wm (qm h),by omega⟩
    ·rcases List.mem_append.mp he with h | h
     ·exact ex e h
     ·simp at h;rw [h];exact ⟨r1,r2⟩
    ·rcases List.mem_append.mp he with h | h
     ·exact ey e h
     ·simp at h;rw [h];exact ⟨r3,r4⟩
    ·rcases List.mem_append.mp he with h | h
     ·exact ew e h
     ·simp at h;rw [h];exact ⟨r5,r6⟩
   ·obtain rfl:i=hours:=by omega
    have e0:decide ((i:Int)<(i:Int))=false:=by simp
    refine .inr ⟨.exit 4,L'.set 53 (.bool false),t,by simp,?_,rfl,b1,b2,b3,x,y,w,vx,vy,vw,fun t ht=>?_,⟨by simp only [Env.find_set,q11,reduceIte,Nat.reduceEqDiff],by simp only [Env.find_set,q12,reduceIte,Nat.reduceEqDiff],by simp only [Env.find_set,q13,reduceIte,Nat.reduceEqDiff]⟩,⟨qx,qy,qw⟩,⟨ex,ey,ew⟩,⟨hb1,hb2,hb3⟩,⟨⟨n12,n13,n23⟩,hf1,hf2,hf3⟩,I1,I2,I3,qd,qs,qn,qk,qm,qf⟩
    ·simp (disch:=first|omega|(with_unfolding_all exact rfl)|(simp only[new_n,put_n,new_m];omega)|(refine put_m_le ?_;simp only[new_m];omega)) only [K13l1,K13r12,Abs.W,reduceIte,Nat.reduceEqDiff,Nat.reduceAdd,decide_true,decide_false,kLoop_def,Nat.reduceSub,Env.find_set,k2,q14,e0]
    ·rw [← q0 t ht]
     rcases ht with rfl | rfl | rfl | rfl | rfl | rfl | rfl<;>simp only [Env.find_set,reduceIte,Nat.reduceEqDiff])
 exact ⟨L1,s1,b1,b2,b3,x,y,w,vx,vy,vw,rfl,h⟩
end Go.Proofs.Ytndbihaffijhbaa.walk
set_option maxRecDepth 10000
namespace Go.Proofs.Ytndbihaffijhbaa.walk
open Go.Abs Go.Proofs.Ytndbihaffijhbaa.code
theorem of_box (N:Nat) (hN:6≤N) (cx:Ctx) (bs:List Box) (hl hh:Int) (v1 v2 v3 ve:AV) (d p4 p7 z3 z7 lo hours i ba bb bc bd:Nat) (T:Truth) (va vb vc vd:AV) (L:Env) (s:St) (hi:i<bs.length) (hk:bs.length≤20) (hh1:1≤hours) (hh5:hours≤500) (hd:Die d s.h) (hd4:d<p4) (h47:p4<p7) (hp7:p7<lo) (hlo:lo≤s.n) (hs:s.n+40000≤far) (okb:(bs[i]).Ok) (hTi:T.ice.length=i)
  (hR:RowsAt s.h lo 9 (bs.map Box.cells) v1) (g3:s.h.get p4=some (.cells [.int .i64 hl,.int .i64 hh,v1,v2,v3] z3)) (U:TruthUp s.h s.n lo p7 z7 ve ba bb bc bd T va vb vc vd)
  (l0:L.find 0=.ptr d 0) (l2:L.find 2=.int .i64 hours) (l4:L.find 4=.ptr p4 0) (l7:L.find 7=.ptr p7 0) (l9:L.find 9=.int .i64 i) :
  ∃ (L1:Env) (s1:St) (ei:Int) (ba' bb' bc' bd':Nat) (x y w:List Int) (va' vb' vc' vd':AV),K13l2 (call Try.prog X N) cx L [] s=.done .norm L1 [] s1∧(∀ t,t=0∨t=2∨t=4∨t=6∨t=7→L1.find t=L.find t)∧L1.find 9=.int .i64 ((i:Int)+1) ∧
   TruthUp s1.h s1.n lo p7 z7 ve ba' bb' bc' bd' (T.push ei x y w) va' vb' vc' vd'∧(x.length=hours∧y.length=hours∧w.length=hours) ∧
   ((bs[i]).il≤ei∧ei≤(bs[i]).ih)∧((∀ e ∈ x,(bs[i]).ml≤e∧e≤(bs[i]).mh)∧(∀ e ∈ y,(bs[i]).cl≤e∧e≤(bs[i]).ch)∧(∀ e ∈ w,(bs[i]).wl≤e∧e≤(bs[i]).wh))∧Die d s1.h ∧
   (∀ c,c<lo→c≠p7→c≠d→s1.h.get c=s.h.get c)∧s.n≤s1.n∧s1.n≤s.n+15 * hours+30∧(d≤s.m→d≤s1.m)∧s1.m≤s.m:=by
 have hff:far=1000000000:=rfl
 obtain ⟨g7,Iice,Tm,Tc,Tw,⟨lo1,lo2,lo3,lo4⟩,⟨w1,w2,w3,w4⟩,⟨ne1,ne2,ne3,ne4,ne5,ne6⟩,⟨len1,len2,len3⟩⟩:=U
 have fr:∀ X,s.n≤X→X≤far→(X≠ba∧X≠bb)∧X≠bc∧X≠bd:=fun X h1 h2=>by omega
 have nE:∀ _:Unit,(bb≠ba∧bc≠ba∧bd≠ba)∧bc≠bb∧bd≠bb∧bd≠bc:=fun _=>by omega
 have hba:∀ _:Unit,ba<s.n+1∨far<ba:=fun _=>w1.imp (fun h=>by omega) id
 clear w1 w2 w3 w4 ne1 ne2 ne3 ne4 ne5 ne6
 have e0:decide ((i:Int)<(bs.length:Int))=true:=decide_eq_true (by omega)
 have hlen:=hR.len
 rw [List.length_map] at hlen
 have ok1:∀ t,okA (.val v1 t)=.val v1 t:=fun t=>okA_ne hR.ne
 obtain ⟨b,p,cc,sz,hbn,hix,hg,hcut⟩:=hR.at_ i (by simpa using hi)
 rw [List.getElem_map] at hcut
 generalize bs[i]=B at hcut okb ⊢
 -- the box
 obtain ⟨y0,hy⟩:∃ y0:St,y0=(s.new (.cells [.int .i64 0,.int .i64 0,.int .i64 0,.int .i64 0,.int .i64 0,.int .i64 0,.int .i64 0,.int .i64 0,.int .i64 0] (tag 74))).put s.n (.cells B.cells (tag 74)):=⟨_,rfl⟩
 have yn:y0.n=s.n+1:=by rw [hy];rfl
 have ym:y0.m=min s.m s.n:=by rw [hy];simp only [St.put,minN_eq,new_m]
 have yg:∀ c,c≠s.n→y0.h.get c=s.h.get c:=fun c hc=>by rw [hy,get_put_ne' _ _ _ _ hc,get_new_ne _ _ _ hc]
 have yB:y0.h.get s.n=some (.cells B.cells (tag 74)):=by rw [hy];exact get_put_eq _ _ _ _ rfl (by omega)
 have y7:=(yg p7 (by omega)).trans g7
 have okva:∀ t,okA (.val va t)=.val va t:=fun t=>okA_ne Iice.at_.ne
 have dy:Die d y0.h:=by obtain ⟨f,hf⟩:=hd;exact ⟨f,by rw [yg _ (by omega)];exact hf⟩
 have okb':=okb
 obtain ⟨o1,o2,o3,o4,o5,o6,o7,o8,o9,o10,o11,o12,o13⟩:=okb'
 have kl:K13l2=kSeq (kSeq (kRegion K13r7 [34]) (kCond (.tmp 34) kSkip (kExit 2))) (kSeq (kBlock 3 (kSeq (kRegion K13r8 [10]) (kSeq (kRegionD K13r9 []) (kSeq (kRegion K13r10 [11,12,13]) (kSeq (kSeq (kRegion K13r11 [14]) (kBlock 4 (kLoop K13l1))) (kRegionD K13r15 [])))))) (kRegion K13r16 [9])):=rfl
 rw [kl]
 have hcB:=hcut
 unfold Box.cells at hcB hy yB
 simp (disch:=first|omega|(with_unfolding_all exact rfl)|(simp only[new_n,put_n,new_m];omega)|(refine put_m_le ?_;simp only[new_m];omega)) only [K13r7,K13r8,Abs.W,reduceIte,Nat.reduceEqDiff,Nat.reduceAdd,decide_true,decide_false,kLoop_def,Nat.reduceSub,Env.find_set,l0,l2,l4,l7,l9,g3,ok1,hlen,e0,hix,hg,hcB,Nat.zero_add]
 rw [← hy]
 simp (disch:=first|omega|(with_unfolding_all exact rfl)|(simp only[new_n,put_n,new_m];omega)|(refine put_m_le ?_;simp only[new_m];omega)) only [K13r9,Abs.W,reduceIte,Nat.reduceEqDiff,Nat.reduceAdd,decide_true,decide_false,kLoop_def,Nat.reduceSub,Env.find_set,l0,l2,l4,l7,l9,y7,yB,okva,Nat.zero_add]
 generalize hc0:call _ _ _ (.fn 37) _ _=r0
 obtain ⟨ei,t0,rfl,st0,dt0,ei0,ei1⟩:=true_ex hc0 (by omega) dy (by show d<y0.n;omega) (by show y0.n+600≤far;omega) (by omega) (by omega) (by omega)
 obtain ⟨t1,a1,a2,a3,m0,m1,d1t,a4,a5,a6⟩:=draw_push (Iice.mono (h':=y0.h) (n':=y0.n) (fun h=>yg _ (by omega)) (by omega)) st0 dt0 (by omega) (by omega) (yn▸hba ()) (by omega) (by omega) (x:=ei)
 have t07:=(st0.same p7 (by show p7<y0.n;omega) (by omega)).trans y7
 have t17:=(a4 p7 (by omega) (by omega) (by omega)).trans y7
 obtain ⟨t2,ht2⟩:∃ t2:St,t2=t1.put p7 (.cells [.slice (t0.n+1) 0 ((ints T.ice).length+1) ((ints T.ice).length+1) true,vb,vc,vd,ve] z7):=⟨_,rfl⟩
 have t2n:t2.n=t1.n:=by rw [ht2];rfl
 have t2m:t2.m=min t1.m p7:=by rw [ht2];simp only [St.put,minN_eq]
 have t2g:∀ c,c≠p7→t2.h.get c=t1.h.get c:=fun c hc=>by rw [ht2,get_put_ne' _ _ _ _ hc]
 have t27:t2.h.get p7=some (.cells [.slice (t0.n+1) 0 ((ints T.ice).length+1) ((ints T.ice).length+1) true,vb,vc,vd,ve] z7):=by rw [ht2];exact get_put_eq _ _ _ _ rfl (by omega)
 have f2:∀ c,c<s.n→c≠ba→c≠p7→c≠d→t2.h.get c=s.h.get c:=fun c hc h1 h2 h3=>by
  rw [t2g c h2,a4 c (by omega) h3 h1,yg c (by omega)]
 have t2B:t2.h.get s.n=some (.cells B.cells (tag 74)):=by
  rw [t2g _ (by omega),a4 _ (by omega) (by omega) (fr _ (Nat.le_refl _) (by omega)).1.1];exact yB
 have dt2:Die d t2.h:=by obtain ⟨f,hf⟩:=d1t;exact ⟨f,by rw [t2g _ (by omega)];exact hf⟩
 simp (disch:=first|omega|(with_unfolding_all exact rfl)|(simp only[new_n,put_n,new_m];omega)|(refine put_m_le ?_;simp only[new_m];omega)) only [thenT_turn,Abs.W,reduceIte,Nat.reduceEqDiff,Nat.reduceAdd,decide_true,decide_false,kLoop_def,Nat.reduceSub,Env.find_set,l7,a1,t17,Nat.zero_add]
 rw [← ht2]
 rw [endT_kept (by simp only [keptAll_cons,keptAll_nil,find_cons,Env.find_set,l7,keptV_ptr,y7,t07,sameO_cells,reduceIte,Nat.reduceEqDiff,Bool.and_self])]
 simp (disch:=first|omega|(with_unfolding_all exact rfl)|(simp only[new_n,put_n,new_m];omega)|(refine put_m_le ?_;simp only[new_m];omega)) only [K13r10,K13r11,Abs.W,reduceIte,Nat.reduceEqDiff,Nat.reduceAdd,decide_true,decide_false,kLoop_def,Nat.reduceSub,Env.find_set,l0,l2,l4,l7,l9,endO_nil,regD_ok,Nat.zero_add,Nat.add_zero]
 -- its hours
 generalize hlp:loopN _ rounds _ _ _ _ _=rl
 obtain ⟨L3,t3,b1,b2,b3,x,y,w,vx,vy,vw,rfl,lk,⟨f11,f12,f13⟩,⟨xl,yl,wl⟩,vals,⟨hb1,hb2,hb3⟩,_,I1,I2,I3,dd3,fr3,n3,k3,m3,mf3⟩:=of_rows hours hlp hN okb hh5 dt2 (show d<s.n by omega) (by omega) (by omega) t2B (by simp only [Env.find_set,l0,reduceIte,Nat.reduceEqDiff]) (by simp only [Env.find_set,l2,reduceIte,Nat.reduceEqDiff]) (by simp only [Env.find_set,reduceIte,Nat.reduceEqDiff]) (by simp only [Env.find_set,reduceIte,Nat.reduceEqDiff]) (by simp only [Env.find_set,reduceIte,Nat.reduceEqDiff]) (by simp only [Env.find_set,reduceIte,Nat.reduceEqDiff]) (by simp only [Env.find_set,reduceIte,Nat.reduceEqDiff])
 have nonnil:∀ l:List Int,l.length=hours→l≠[]:=fun l h h2=>by rw [h2] at h;simp at h;omega
 have full:∀ {b:Nat} {l:List Int} {v:AV},IntsAt t3.h t3.n b l v→l.length=hours→b<t3.n∧v=.slice b 0 (ints l).length (ints l).length true:=fun {b l v} I h=>by
  rcases I.is with ⟨z,_⟩ | ⟨_,z1,z2,_⟩
  ·exact absurd (by simpa [ints] using z) (nonnil l h)
  ·exact ⟨z1,z2⟩
 obtain ⟨q1,rfl⟩:=full I1 xl
 obtain ⟨q2,rfl⟩:=full I2 yl
 obtain ⟨q3,rfl⟩:=full I3 wl
 have k1:L3.find 2=.int .i64 hours:=(lk 2 (by simp)).trans (by simp only [Env.find_set,l2,reduceIte,Nat.reduceEqDiff])
 have k7:L3.find 7=.ptr p7 0:=(lk 7 (by simp)).trans (by simp only [Env.find_set,l7,reduceIte,Nat.reduceEqDiff])
 have k9:L3.find 9=.int .i64 i:=(lk 9 (by simp)).trans (by simp only [Env.find_set,l9,reduceIte,Nat.reduceEqDiff])
 have t37:=(fr3 p7 (by omega) (by omega)).trans t27
 have f3:∀ c,c<s.n→c≠ba→c≠p7→c≠d→t3.h.get c=s.h.get c:=fun c hc h1 h2 h3=>(fr3 c (by omega) h3).trans (f2 c hc h1 h2 h3)
 have Ia:IntsAt t3.h t3.n (t0.n+1) (T.ice++[ei]) (.slice (t0.n+1) 0 ((ints T.ice).length+1) ((ints T.ice).length+1) true):=a2.mono (fun h=>(fr3 _ (by omega) (by omega)).trans (t2g _ (by omega))) (by omega)
 have Tm3:=Tm.mono (h':=t3.h) (n':=t3.n) (no':=fun x=>Rest lo ba bb bc bd x∧x<s.n) (fun h=>f3 bb h (nE ()).1.1 (by omega) (by omega)) (fun x hx ⟨r1,r2,r3,r4,r5⟩=>⟨f3 x hx r2 (by omega) (by omega),⟨r1,r2,r3,r4,r5⟩,hx⟩) (by omega)
 have Tc3:=Tc.mono (h':=t3.h) (n':=t3.n) (no':=fun x=>Rest lo ba bb bc bd x∧x<s.n) (fun h=>f3 bc h (nE ()).1.2.1 (by omega) (by omega)) (fun x hx ⟨r1,r2,r3,r4,r5⟩=>⟨f3 x hx r2 (by omega) (by omega),⟨r1,r2,r3,r4,r5⟩,hx⟩) (by omega)
 have Tw3:=Tw.mono (h':=t3.h) (n':=t3.n) (no':=fun x=>Rest lo ba bb bc bd x∧x<s.n) (fun h=>f3 bd h (nE ()).1.2.2 (by omega) (by omega)) (fun x hx ⟨r1,r2,r3,r4,r5⟩=>⟨f3 x hx r2 (by omega) (by omega),⟨r1,r2,r3,r4,r5⟩,hx⟩) (by omega)
 obtain ⟨vsm,sm1,sm2,sm3⟩:=Tm3
 obtain ⟨vsc,sc1,sc2,sc3⟩:=Tc3
 obtain ⟨vsw,sw1,sw2,sw3⟩:=Tw3
 have okvb:∀ t,okA (.val vb t)=.val vb t:=fun t=>okA_ne sm2.rows.at_.ne
 have okvc:∀ t,okA (.val vc t)=.val vc t:=fun t=>okA_ne sc2.rows.at_.ne
 have okvd:∀ t,okA (.val vd t)=.val vd t:=fun t=>okA_ne sw2.rows.at_.ne
 -- the three tables
 have hn4:(t3.new (.cells [.slice b1 0 (ints x).length (ints x).length true] 0)).n=t3.n+1:=rfl
 obtain ⟨t4,c1,c2,c3,c4,c5,c6⟩:=append_at (s:=t3.new (.cells [.slice b1 0 (ints x).length (ints x).length true] 0)) (bytes:=24) (row:=[.slice b1 0 (ints x).length (ints x).length true]) (sm2.mono (fun h=>get_new_ne _ _ _ (by omega)) (Nat.le_succ _)) (get_new_eq _ _ _ rfl (by omega)) rfl rfl (by rw [List.length_map];omega) (by kernel_rfl) (by omega)
 have f4:∀ c,c<t3.n→c≠bb→t4.h.get c=t3.h.get c:=fun c hc h1=>(c4 c (by omega) h1).trans (get_new_ne _ _ _ (by omega))
 have t47:=(f4 p7 (by omega) (by omega)).trans t37
 have hn5:(t4.new (.cells [.slice b2 0 (ints y).length (ints y).length true] 0)).n=t4.n+1:=rfl
 obtain ⟨t5,d1,d2,d3,d4,d5,d6⟩:=append_at (s:=t4.new (.cells [.slice b2 0 (ints y).length (ints y).length true] 0)) (bytes:=24) (row:=[.slice b2 0 (ints y).length (ints y).length true]) (sc2.mono (n':=(t4.new (.cells [.slice b2 0 (ints y).length (ints y).length true] 0)).n) (fun h=>(get_new_ne _ _ _ (by omega)).trans (f4 _ h (nE ()).2.1)) (by omega)) (get_new_eq _ _ _ rfl (by omega)) rfl rfl (by rw [List.length_map];omega) (by kernel_rfl) (by omega)
 have f5:∀ c,c<t4.n→c≠bc→t5.h.get c=t4.h.get c:=fun c hc h1=>(d4 c (by omega) h1).trans (get_new_ne _ _ _ (by omega))
 have t57:=(f5 p7 (by omega) (by omega)).trans t47
 have hn6:(t5.new (.cells [.slice b3 0 (ints w).length (ints w).length true] 0)).n=t5.n+1:=rfl
 obtain ⟨t6,e1,e2,e3,e4,e5,e6⟩:=append_at (s:=t5.new (.cells [.slice b3 0 (ints w).length (ints w).length true] 0)) (bytes:=24) (row:=[.slice b3 0 (ints w).length (ints w).length true]) (sw2.mono (n':=(t5.new (.cells [.slice b3 0 (ints w).length (ints w).length true] 0)).n) (fun h=>(get_new_ne _ _ _ (by omega)).trans ((f5 _ (by omega) (nE ()).2.2.2).trans (f4 _ h (nE ()).2.2.1))) (by omega)) (get_new_eq _ _ _ rfl (by omega)) rfl rfl (by rw [List.length_map];omega) (by kernel_rfl) (by omega)
 have f6:∀ c,c<t5.n→c≠bd→t6.h.get c=t5.h.get c:=fun c hc h1=>(e4 c (by omega) h1).trans (get_new_ne _ _ _ (by omega))
 have t67:=(f6 p7 (by omega) (by omega)).trans t57
 have f36:∀ c,c<t3.n→c≠bb→c≠bc→c≠bd→t6.h.get c=t3.h.get c:=fun c hc h1 h2 h3=>(f6 c (by omega) h3).trans ((f5 c (by omega) h2).trans (f4 c hc h1))
 have ap1:=fun o=>sm2.apart (c:=p7) (o:=o) (by omega)
 have ap2:=fun o=>sc2.apart (c:=p7) (o:=o) (by omega)
 have ad:∀ s,aAdd s .i64 (i:Int) 1=.val (.int .i64 ((i:Int)+1)) s:=fun s=>aAdd_i64 s _ _ (by omega)
 simp (disch:=first|omega|(with_unfolding_all exact rfl)|(simp only[new_n,put_n,new_m];omega)|(refine put_m_le ?_;simp only[new_m];omega)) only [K13r15,Abs.W,reduceIte,Nat.reduceEqDiff,Nat.reduceAdd,decide_true,decide_false,kLoop_def,Nat.reduceSub,Env.find_set,k7,k9,f11,f12,f13,t37,okvb,c1,t47,okvc,d1,t57,okvd,e1,t67,Nat.zero_add]
 rw [endO_ok _ (by
  rw [endOk_cons,endOk_cons,endOk_cons,endOk_nil]
  all_goals
   simp only [find_cons,reduceIte,Nat.reduceEqDiff]
   first | exact ap1 _ | exact ap2 _)]
 simp (disch:=first|omega|(with_unfolding_all exact rfl)|(simp only[new_n,put_n,new_m];omega)|(refine put_m_le ?_;simp only[new_m];omega)) only [K13r16,Abs.W,reduceIte,Nat.reduceEqDiff,Nat.reduceAdd,decide_true,decide_false,kLoop_def,Nat.reduceSub,Env.find_set,k9,ad,regD_ok]
 generalize hz:St.put (St.put (St.put t6 p7 _) p7 _) p7 _=t8
 have t8n:t8.n=t6.n:=by rw [← hz];rfl
 have t8m:t8.m=min (min (min t6.m p7) p7) p7:=by rw [← hz];simp only [St.put,minN_eq]
 have t8g:∀ c,c≠p7→t8.h.get c=t6.h.get c:=fun c hc=>by rw [← hz,get_put_ne' _ _ _ _ hc,get_put_ne' _ _ _ _ hc,get_put_ne' _ _ _ _ hc]
 have t87:t8.h.get p7=some (.cells [.slice (t0.n+1) 0 ((ints T.ice).length+1) ((ints T.ice).length+1) true,.slice (t3.n+1) 0 ((vsm.map fun v=>[v]).length+1) ((vsm.map fun v=>[v]).length+1) true,.slice (t4.n+1) 0 ((vsc.map fun v=>[v]).length+1) ((vsc.map fun v=>[v]).length+1) true,.slice (t5.n+1) 0 ((vsw.map fun v=>[v]).length+1) ((vsw.map fun v=>[v]).length+1) true,ve] z7):=by rw [← hz];exact get_put_eq _ _ _ _ rfl (by omega)
 clear hz
 have f8:∀ c,c<t3.n→c≠bb→c≠bc→c≠bd→c≠p7→t8.h.get c=t3.h.get c:=fun c hc h1 h2 h3 h4=>(t8g c h4).trans (f36 c hc h1 h2 h3)
 have R':∀ x,x<t3.n→Rest lo ba bb bc bd x→x≠t0.n+1→t8.h.get x=t3.h.get x∧Rest lo (t0.n+1) (t3.n+1) (t4.n+1) (t5.n+1) x:=fun x hx ⟨r1,r2,r3,r4,r5⟩ hne=>⟨f8 x hx r3 r4 r5 (by omega),r1,hne,by omega,by omega,by omega⟩
 have row:∀ {b:Nat} {l:List Int} {v:AV},t2.n≤b→b<t3.n→IntsAt t3.h t3.n b l v→IntsAt t8.h t8.n b l v∧Rest lo (t0.n+1) (t3.n+1) (t4.n+1) (t5.n+1) b:=fun {b l v} h1 h2 I =>
  ⟨I.mono (fun _=>f8 b h2 (fr b (by omega) (by omega)).1.2 (fr b (by omega) (by omega)).2.1 (fr b (by omega) (by omega)).2.2 (by omega)) (by omega),by omega,by omega,by omega,by omega,by omega⟩
 have old:∀ {tab:List (List Int)} {vs:List AV},(∀ j (h1:j<vs.length) (h2:j<tab.length),∃ x,(Rest lo ba bb bc bd x∧x<s.n)∧IntsAt t3.h t3.n x tab[j] vs[j]∧tab[j]≠[]) →
   ∀ j (h1:j<vs.length) (h2:j<tab.length),∃ x,Rest lo (t0.n+1) (t3.n+1) (t4.n+1) (t5.n+1) x∧IntsAt t8.h t8.n x tab[j] vs[j]∧tab[j]≠[]:=fun {tab vs} h j h1 h2=>by
  obtain ⟨x,⟨x1,x2⟩,x3,x4⟩:=h j h1 h2
  obtain ⟨r1,r2⟩:=R' x (by omega) x1 (by omega)
  exact ⟨x,r2,x3.mono (fun _=>r1) (by omega),x4⟩
 obtain ⟨J1,N1⟩:=row hb1 q1 I1
 obtain ⟨J2,N2⟩:=row hb2 q2 I2
 obtain ⟨J3,N3⟩:=row hb3 q3 I3
 have c2':=c2.mono (h':=t8.h) (n':=t8.n) (fun _=>(t8g _ (by omega)).trans ((f6 _ (by omega) (fr _ (by omega) (by omega)).2.2).trans (f5 _ (by omega) (fr _ (by omega) (by omega)).2.1))) (by omega)
 have d2':=d2.mono (h':=t8.h) (n':=t8.n) (fun _=>(t8g _ (by omega)).trans (f6 _ (by omega) (fr _ (by omega) (by omega)).2.2)) (by omega)
 have e2':=e2.mono (h':=t8.h) (n':=t8.n) (fun _=>t8g _ (by omega)) (by omega)
 have Ia8:=Ia.mono (h':=t8.h) (n':=t8.n) (fun _=>f8 _ (by omega) (fr _ (by omega) (by omega)).1.2 (fr _ (by omega) (by omega)).2.1 (fr _ (by omega) (by omega)).2.2 (by omega)) (by omega)
 refine ⟨_,t8,ei,t0.n+1,t3.n+1,t4.n+1,t5.n+1,x,y,w,_,_,_,_,rfl,fun t ht=>?_,?_,⟨t87,Ia8,TabUp.push sm1 c2' (old sm3) N1 J1 (nonnil x xl),TabUp.push sc1 d2' (old sc3) N2 J2 (nonnil y yl),TabUp.push sw1 e2' (old sw3) N3 J3 (nonnil w wl),⟨by omega,by omega,by omega,by omega⟩,⟨.inl (by omega),.inl (by omega),.inl (by omega),.inl (by omega)⟩,⟨by omega,by omega,by omega,by omega,by omega,by omega⟩,by simp [Truth.push,len1,len2,len3]⟩,⟨xl,yl,wl⟩,⟨ei0,ei1⟩,vals,?_,fun c hc hcp hcd=>?_,by omega,by omega,fun hm=>?_,?_⟩
 ·rcases ht with rfl | rfl | rfl | rfl | rfl<;>simp only [Env.find_set,reduceIte,Nat.reduceEqDiff]
  ·exact (lk 0 (by simp)).trans (by simp only [Env.find_set,reduceIte,Nat.reduceEqDiff])
  ·exact k1.trans l2.symm
  ·exact (lk 4 (by simp)).trans (by simp only [Env.find_set,reduceIte,Nat.reduceEqDiff])
  ·exact (lk 6 (by simp)).trans (by simp only [Env.find_set,reduceIte,Nat.reduceEqDiff])
  ·exact k7.trans l7.symm
 ·simp only [Env.find_set,reduceIte,Nat.reduceEqDiff]
 ·obtain ⟨f,hf⟩:=dd3
  exact ⟨f,by rw [f8 d (by omega) (by omega) (by omega) (by omega) (by omega)];exact hf⟩
 ·rw [f8 c (by omega) (by omega) (by omega) (by omega) hcp]
  exact f3 c (by omega) (by omega) hcp hcd
 ·have h1:=a5 (by omega)
  have h2:=m3 (by omega)
  have h3:=c5 d (by omega) (by omega) (by rw [new_m];exact h2)
  have h4:=d5 d (by omega) (by omega) (by rw [new_m];exact h3)
  have h5:=e5 d (by omega) (by omega) (by rw [new_m];exact h4)
  omega
 ·rw [new_m] at c6 d6 e6
  omega
end Go.Proofs.Ytndbihaffijhbaa.walk
set_option maxRecDepth 10000
namespace Go.Proofs.Ytndbihaffijhbaa.walk
open Go.Abs Go.Proofs.Ytndbihaffijhbaa.code
def RowsIn (bs:List Box) (hours:Nat) (f g:Box→Int) (tab:List (List Int)):Prop:=∀ j (_:j<tab.length),∀ hb:j<bs.length,(tab[j]).length=hours∧∀ e ∈ tab[j],f bs[j]≤e∧e≤g bs[j]
theorem RowsIn.push {bs:List Box} {hours:Nat} {f g:Box→Int} {tab:List (List Int)} (h:RowsIn bs hours f g tab) {row:List Int} (hl:row.length=hours) (hb:tab.length<bs.length) (hr:∀ e ∈ row,f bs[tab.length]≤e∧e≤g bs[tab.length]):RowsIn bs hours f g (tab++[row]) :=
 all_snoc (P:=fun j (x:List Int)=>∀ hb:j<bs.length,x.length=hours∧∀ e ∈ x,f bs[j]≤e∧e≤g bs[j]) h fun _=>⟨hl,hr⟩
theorem of_boxes {N:Nat} {r:R} {cx:Ctx} {L:Env} {s:St} {bs:List Box} {hl hh:Int} {v1 v2 v3 ve:AV} {d p4 p7 z3 z7 n0:Nat} (hours:Nat) (H:List Int) (hr:loopN K13l2 rounds (call Try.prog X N) cx L [] s=r) (hN:6≤N) (hok:∀ b ∈ bs,b.Ok) (hk:bs.length≤6) (hh1:1≤hours) (hh5:hours≤500) (hd:Die d s.h) (hd0:d<n0) (h47:p4<p7) (hp7:p7<s.n) (hn0:n0≤p4) (hs:s.n+200000≤far)
  (hR:RowsAt s.h s.n 9 (bs.map Box.cells) v1) (hRd:∀ h:Heap,∀ n:Nat,(∀ b,b<n0→b≠d→h.get b=s.h.get b)→n0≤n→RowsAt h n 9 (bs.map Box.cells) v1) (g3:s.h.get p4=some (.cells [.int .i64 hl,.int .i64 hh,v1,v2,v3] z3)) (g7:s.h.get p7=some (.cells [.nilslice,.nilslice,.nilslice,.nilslice,ve] z7))
  (l0:L.find 0=.ptr d 0) (l2:L.find 2=.int .i64 hours) (l4:L.find 4=.ptr p4 0) (l7:L.find 7=.ptr p7 0) (l9:L.find 9=.int .i64 0) :
  ∃ (L1:Env) (s1:St) (ba bb bc bd:Nat) (T:Truth) (va vb vc vd:AV),r=.done (.exit 2) L1 [] s1∧(∀ t,t=0∨t=2∨t=4∨t=6∨t=7→L1.find t=L.find t)∧TruthUp s1.h s1.n s.n p7 z7 ve ba bb bc bd T va vb vc vd∧T.ice.length=bs.length∧T.hall=H ∧
   (∀ j (_:j<T.ice.length),∀ hb:j<bs.length,(bs[j]).il≤T.ice[j]∧T.ice[j]≤(bs[j]).ih)∧RowsIn bs hours Box.ml Box.mh T.melts∧RowsIn bs hours Box.cl Box.ch T.cold∧RowsIn bs hours Box.wl Box.wh T.warm ∧
   Die d s1.h∧(∀ c,c<s.n→c≠p7→c≠d→s1.h.get c=s.h.get c)∧s.n≤s1.n∧s1.n≤s.n+8000 * bs.length∧(d≤s.m→d≤s1.m)∧s1.m≤s.m:=by
 have hff:far=1000000000:=rfl
 obtain ⟨e,L1,s1,rfl,rfl,h⟩:=loop_of hr
  (fun i L' t=>∃ (ba bb bc bd:Nat) (T:Truth) (va vb vc vd:AV),(∀ t,t=0∨t=2∨t=4∨t=6∨t=7→L'.find t=L.find t)∧L'.find 9=.int .i64 i∧TruthUp t.h t.n s.n p7 z7 ve ba bb bc bd T va vb vc vd∧T.ice.length=i∧T.hall=H ∧
   (∀ j (_:j<T.ice.length),∀ hb:j<bs.length,(bs[j]).il≤T.ice[j]∧T.ice[j]≤(bs[j]).ih)∧RowsIn bs hours Box.ml Box.mh T.melts∧RowsIn bs hours Box.cl Box.ch T.cold∧RowsIn bs hours Box.wl Box.wh T.warm ∧
   Die d t.h∧(∀ c,c<s.n→c≠p7→c≠d→t.h.get c=s.h.get c)∧s.n≤t.n∧t.n≤s.n+8000 * i∧(d≤s.m→d≤t.m)∧t.m≤s.m)
  (fun e L1 s1=>e=.exit 2∧∃ (ba bb bc bd:Nat) (T:Truth) (va vb vc vd:AV),(∀ t,t=0∨t=2∨t=4∨t=6∨t=7→L1.find t=L.find t)∧TruthUp s1.h s1.n s.n p7 z7 ve ba bb bc bd T va vb vc vd∧T.ice.length=bs.length∧T.hall=H ∧
   (∀ j (_:j<T.ice.length),∀ hb:j<bs.length,(bs[j]).il≤T.ice[j]∧T.ice[j]≤(bs[j]).ih)∧RowsIn bs hours Box.ml Box.mh T.melts∧RowsIn bs hours Box.cl Box.ch T.cold∧RowsIn bs hours Box.wl Box.wh T.warm ∧
   Die d s1.h∧(∀ c,c<s.n→c≠p7→c≠d→s1.h.get c=s.h.get c)∧s.n≤s1.n∧s1.n≤s.n+8000 * bs.length∧(d≤s.m→d≤s1.m)∧s1.m≤s.m)
  bs.length (by unfold rounds;omega)
  ⟨far+1,far+2,far+3,far+4,⟨[],[],[],[],H⟩,_,_,_,_,fun _ _=>rfl,l9,⟨g7,IsAt.nil _ _ _ _ _,TabUp.nil _ _ _ _,TabUp.nil _ _ _ _,TabUp.nil _ _ _ _,⟨by omega,by omega,by omega,by omega⟩,⟨.inr (by omega),.inr (by omega),.inr (by omega),.inr (by omega)⟩,⟨by omega,by omega,by omega,by omega,by omega,by omega⟩,⟨rfl,rfl,rfl⟩⟩,rfl,rfl,
   fun j h=>absurd h (Nat.not_lt_zero j),fun j h=>absurd h (Nat.not_lt_zero j),fun j h=>absurd h (Nat.not_lt_zero j),fun j h=>absurd h (Nat.not_lt_zero j),hd,fun _ _ _ _=>rfl,Nat.le_refl _,Nat.le_refl _,fun h=>h,Nat.le_refl _⟩
  (fun i L' t hi ⟨ba,bb,bc,bd,T,va,vb,vc,vd,q0,q9,U,qT,qH,qi,qm,qc,qw,qd,qs,qn,qk,qmm,qf⟩=>by
   have g3t:=(qs p4 (by omega) (by omega) (by omega)).trans g3
   have hRt:RowsAt t.h s.n 9 (bs.map Box.cells) v1:=hRd t.h s.n (fun b hb hbd=>qs b (by omega) (by omega) hbd) (by omega)
   by_cases hlt:i<bs.length
   ·obtain ⟨L1,s1,ei,ba',bb',bc',bd',x,y,w,va',vb',vc',vd',p0,p1,p9,U',⟨xl,yl,wl⟩,⟨i0,i1⟩,⟨ex,ey,ew⟩,dd,fr,n1,k1,m1,f1⟩:=of_box N hN cx bs hl hh v1 v2 v3 ve d p4 p7 z3 z7 s.n hours i ba bb bc bd T va vb vc vd L' t hlt (by omega) hh1 hh5 qd (by omega) h47 hp7 qn (by omega) (hok _ (List.getElem_mem hlt)) qT hRt g3t U ((q0 0 (by simp)).trans l0) ((q0 2 (by simp)).trans l2) ((q0 4 (by simp)).trans l4) ((q0 7 (by simp)).trans l7) q9
    obtain ⟨le1,le2,le3⟩:=U.len
    subst qT
    refine .inl ⟨hlt,L1,s1,p0,ba',bb',bc',bd',_,va',vb',vc',vd',fun q hq=>(p1 q hq).trans (q0 q hq),by rw [p9];rfl,U',by simp [Truth.push],qH,?_,qm.push xl (by omega) (by simp only [le1];exact ex),qc.push yl (by omega) (by simp only [le2];exact ey),qw.push wl (by omega) (by simp only [le3];exact ew),dd,fun c hc hcp hcd=>(fr c hc hcp hcd).trans (qs c hc hcp hcd),by omega,by omega,fun hm=>m1 (qmm hm),by omega⟩
    exact all_snoc (P:=fun j (x:Int)=>∀ hb:j<bs.length,(bs[j]).il≤x∧x≤(bs[j]).ih) qi fun _=>⟨i0,i1⟩
   ·obtain rfl:i=bs.length:=by omega
    have e0:decide ((bs.length:Int)<(bs.length:Int))=false:=by simp
    have hlen:=hR.len
    rw [List.length_map] at hlen
    have ok1:∀ t,okA (.val v1 t)=.val v1 t:=fun t=>okA_ne hR.ne
    refine .inr ⟨.exit 2,L'.set 34 (.bool false),t,by simp,?_,rfl,ba,bb,bc,bd,T,va,vb,vc,vd,fun t ht=>?_,U,qT,qH,qi,qm,qc,qw,qd,qs,qn,qk,qmm,qf⟩
    ·simp (disch:=first|omega|(with_unfolding_all exact rfl)|(simp only[new_n,put_n,new_m];omega)|(refine put_m_le ?_;simp only[new_m];omega)) only [K13l2,K13r7,Abs.W,reduceIte,Nat.reduceEqDiff,Nat.reduceAdd,decide_true,decide_false,kLoop_def,Nat.reduceSub,Env.find_set,(q0 4 (by simp)).trans l4,q9,g3t,ok1,hlen,e0,Nat.zero_add]
    ·rw [← q0 t ht]
     rcases ht with rfl | rfl | rfl | rfl | rfl<;>simp only [Env.find_set,reduceIte,Nat.reduceEqDiff])
 obtain ⟨ba,bb,bc,bd,T,va,vb,vc,vd,h⟩:=h
 exact ⟨L1,s1,ba,bb,bc,bd,T,va,vb,vc,vd,rfl,h⟩
end Go.Proofs.Ytndbihaffijhbaa.walk
set_option maxRecDepth 10000
namespace Go.Proofs.Ytndbihaffijhbaa.walk
open Go.Abs Go.Proofs.Ytndbihaffijhbaa.code
theorem tabIn_of {bs:List Box} {hours:Nat} {tab:List (List Int)} {f g:Box→Int} {lo hi:Nat→Int} (h:RowsIn bs hours f g tab) (hl:tab.length=bs.length) (he:∀ j (hj:j<bs.length),lo j=f bs[j]∧hi j=g bs[j]):TabIn tab bs.length hours lo hi :=
 ⟨hl,fun b hb=>by
  have hb':b<bs.length:=by omega
  obtain ⟨h1,h2⟩:=h b hb hb'
  obtain ⟨e1,e2⟩:=he b hb'
  exact ⟨h1,fun x hx=>by rw [e1,e2];exact h2 x hx⟩⟩
theorem truthOf_ex {N d lo n0:Nat} {s:St} {r:ARes} {v1 v2 v3:AV} (c:Cellar) (ok:c.Ok) (hours:Nat) (hr:call Try.prog X N (.fn 13) [.ptr d 0,.agg [.int .i64 c.hl,.int .i64 c.hh,v1,v2,v3],.int .i64 hours] s=r) (hN:7≤N) (hd:Die d s.h) (hdl:d<lo) (hln:lo≤n0) (hn0:n0≤s.n) (hC:CellarNew s.h lo n0 c v1 v2 v3) (hh1:1≤hours) (hh5:hours≤500) (hs:s.n+300000≤far) :
  ∃ (T:Truth) (va vb vc vd ve:AV) (t:St),r=.val (.agg [va,vb,vc,vd,ve]) t∧Stir d s t 60000∧Die d t.h∧TruthAt t.h t.n T va vb vc vd ve∧T.In c hours∧va.scalar=true∧vb.scalar=true∧vc.scalar=true∧vd.scalar=true∧ve.scalar=true:=by
 obtain ⟨n,rfl⟩:∃ n,N=n+1:=⟨N - 1,by omega⟩
 have hff:far=1000000000:=rfl
 obtain ⟨v,t,e,st,T,va,vb,vc,vd,ve,rfl,hq⟩:=call_stir (n:=n) (args:=[.ptr d 0,.agg [.int .i64 c.hl,.int .i64 c.hh,v1,v2,v3],.int .i64 hours]) (s:=s) (d:=d) (k:=60000)
  (Q:=fun v h m=>∃ (T:Truth) (va vb vc vd ve:AV),v=.agg [va,vb,vc,vd,ve]∧Die d h∧TruthAt h m T va vb vc vd ve∧T.In c hours∧va.scalar=true∧vb.scalar=true∧vc.scalar=true∧vd.scalar=true∧ve.scalar=true) Try.func13 rfl (fun u uh un um=>by
  rw [← uh] at hC hd
  rw [← un] at hn0 hs
  have sh:shapeT Try.prog 46=some (some 5):=by kernel_rfl
  obtain ⟨w,hw⟩:∃ w:St,w=(u.new (.cells [.int .i64 c.hl,.int .i64 c.hh,v1,v2,v3] (tag 31))).new (.cells [.nilslice,.nilslice,.nilslice,.nilslice,.nilslice] (tag 46)):=⟨_,rfl⟩
  have wn:w.n=u.n+2:=by rw [hw];rfl
  have wm:w.m=far:=by rw [hw];exact um
  have wg:∀ c,c<u.n→w.h.get c=u.h.get c:=fun c hc=>by rw [hw,get_new_ne _ _ _ (by simp only [new_n];omega),get_new_ne _ _ _ (by omega)]
  have w0:w.h.get u.n=some (.cells [.int .i64 c.hl,.int .i64 c.hh,v1,v2,v3] (tag 31)):=by
   rw [hw,get_new_ne _ _ _ (by simp only [new_n];omega)];exact get_new_eq _ _ _ rfl (by omega)
  have w1:w.h.get (u.n+1)=some (.cells [.nilslice,.nilslice,.nilslice,.nilslice,.nilslice] (tag 46)):=by rw [hw];exact get_new_eq _ _ _ rfl (by simp only [new_n];omega)
  have nn1:∀ o,(u.new o).n=u.n+1:=fun _=>rfl
  obtain ⟨y,hy⟩:∃ y:St,y=(w.new (.cells [.nilslice,.nilslice,.nilslice,.nilslice,.nilslice] (tag 46))).put w.n (.cells [.nilslice,.nilslice,.nilslice,.nilslice,.nilslice] (tag 46)):=⟨_,rfl⟩
  have yn:y.n=w.n+1:=by rw [hy];rfl
  have ym:y.m=min w.m w.n:=by rw [hy];simp only [St.put,minN_eq,new_m]
  have yg:∀ c,c≠w.n→y.h.get c=w.h.get c:=fun c hc=>by rw [hy,get_put_ne' _ _ _ _ hc,get_new_ne _ _ _ hc]
  have y7:y.h.get w.n=some (.cells [.nilslice,.nilslice,.nilslice,.nilslice,.nilslice] (tag 46)):=by rw [hy];exact get_put_eq _ _ _ _ rfl (by omega)
  have y3:=(yg u.n (by omega)).trans w0
  have dy:Die d y.h:=by obtain ⟨f,hf⟩:=hd;exact ⟨f,by rw [yg _ (by omega),wg _ (by omega)];exact hf⟩
  have h0:=ok.h0
  have h1:=ok.h1
  have h2:=ok.h2
  rw [enter13]
  simp (disch:=first|omega|(with_unfolding_all exact rfl)|(simp only[new_n,put_n,new_m];omega)|(refine put_m_le ?_;simp only[new_m];omega)) only [res13,K13,K13r0,Abs.W,reduceIte,Nat.reduceEqDiff,Nat.reduceAdd,decide_true,decide_false,kLoop_def,Nat.reduceSub,nn1]
  rw [← hw]
  simp (disch:=first|omega|(with_unfolding_all exact rfl)|(simp only[new_n,put_n,new_m];omega)|(refine put_m_le ?_;simp only[new_m];omega)) only [K13r1,K13r2,Abs.W,reduceIte,Nat.reduceEqDiff,Nat.reduceAdd,decide_true,decide_false,kLoop_def,Nat.reduceSub,Env.find_set]
  rw [← hy]
  generalize hl1:loopN _ rounds _ _ _ _ _=q1
  obtain ⟨L1,t1,be,H,ve,rfl,lk1,Hl,Hv,hbe,IH,g1,d1,fr1,n1,k1,m1,f1⟩:=of_hall hours hl1 (by omega) hh5 dy (show d<u.n by omega) (show u.n<w.n by omega) (by omega) (by omega) y3 y7 (by omega) (by omega) (by omega) (by simp only [find_cons,Env.find_set,reduceIte,Nat.reduceEqDiff]) (by simp only [find_cons,Env.find_set,reduceIte,Nat.reduceEqDiff]) (by simp only [find_cons,Env.find_set,reduceIte,Nat.reduceEqDiff]) (by simp only [find_cons,Env.find_set,reduceIte,Nat.reduceEqDiff]) (by simp only [find_cons,Env.find_set,reduceIte,Nat.reduceEqDiff])
  have j0:L1.find 0=.ptr d 0:=(lk1 0 (by simp)).trans (by simp only [find_cons,Env.find_set,reduceIte,Nat.reduceEqDiff])
  have j2:L1.find 2=.int .i64 hours:=(lk1 2 (by simp)).trans (by simp only [find_cons,Env.find_set,reduceIte,Nat.reduceEqDiff])
  have j4:L1.find 4=.ptr u.n 0:=(lk1 4 (by simp)).trans (by simp only [find_cons,Env.find_set,reduceIte,Nat.reduceEqDiff])
  have j6:L1.find 6=.ptr (u.n+1) 0:=(lk1 6 (by simp)).trans (by simp only [find_cons,Env.find_set,reduceIte,Nat.reduceEqDiff])
  have j7:L1.find 7=.ptr w.n 0:=(lk1 7 (by simp)).trans (by simp only [find_cons,Env.find_set,reduceIte,Nat.reduceEqDiff])
  clear lk1
  simp (disch:=first|omega|(with_unfolding_all exact rfl)|(simp only[new_n,put_n,new_m];omega)|(refine put_m_le ?_;simp only[new_m];omega)) only [K13r6,Abs.W,reduceIte,Nat.reduceEqDiff,Nat.reduceAdd,decide_true,decide_false,kLoop_def,Nat.reduceSub,Env.find_set]
  generalize hl2:loopN _ rounds _ _ _ _ _=q2
  have lowc:∀ b,b<n0→b≠d→t1.h.get b=u.h.get b:=fun b hb hbd=>(fr1 b (by omega) (by omega) hbd).trans ((yg b (by omega)).trans (wg b (by omega)))
  have hRd:∀ h:Heap,∀ n:Nat,(∀ b,b<n0→b≠d→h.get b=t1.h.get b)→n0≤n→RowsAt h n 9 (c.boxes.map Box.cells) v1:=fun h n hh hn=>(hC.b.mono (fun b hb hbn=>(hh b hbn (by omega)).trans (lowc b hbn (by omega))) hn).at_
  obtain ⟨L2,t2,ba,bb,bc,bd,T,va,vb,vc,vd,rfl,lk2,U,Ti,TH,vi,vm,vcc,vw,d2,fr2,n2,k2,m2,f2⟩:=of_boxes (n0:=n0) hours H hl2 (by omega) ok.bok ok.b hh1 hh5 d1 (by omega) (show u.n<w.n by omega) (by omega) (by omega) (by omega) (hRd t1.h t1.n (fun _ _ _=>rfl) (by omega)) hRd ((fr1 u.n (by omega) (by omega) (by omega)).trans y3) g1 (by simp only [Env.find_set,j0,reduceIte,Nat.reduceEqDiff]) (by simp only [Env.find_set,j2,reduceIte,Nat.reduceEqDiff]) (by simp only [Env.find_set,j4,reduceIte,Nat.reduceEqDiff]) (by simp only [Env.find_set,j7,reduceIte,Nat.reduceEqDiff]) (by simp only [Env.find_set,reduceIte,Nat.reduceEqDiff])
  have i6:L2.find 6=.ptr (u.n+1) 0:=(lk2 6 (by simp)).trans (by simp only [Env.find_set,j6,reduceIte,Nat.reduceEqDiff])
  have i7:L2.find 7=.ptr w.n 0:=(lk2 7 (by simp)).trans (by simp only [Env.find_set,j7,reduceIte,Nat.reduceEqDiff])
  clear lk2
  have bl:=ok.b
  have g7:=U.g7
  have low:∀ c,c<w.n→c≠d→t2.h.get c=w.h.get c:=fun c hc hcd=>(fr2 c (by omega) (by omega) hcd).trans ((fr1 c (by omega) (by omega) hcd).trans (yg c (by omega)))
  have g6:=(low (u.n+1) (by omega) (by omega)).trans w1
  have sa:=at_scal U.ice
  have sb:=tab_scal U.melts
  have sc:=tab_scal U.cold
  have sd:=tab_scal U.warm
  have se:=at_scal IH
  have pe:plain ve=false:=by
   rcases IH.is with ⟨z,_⟩ | ⟨_,_,z,_⟩
   ·have:H.length=0:=by simpa [ints] using z
    omega
   ·rw [z];rfl
  have sall:scalars [va,vb,vc,vd,ve]=true:=by rw [scal_cons _ _ sa,scal_cons _ _ sb,scal_cons _ _ sc,scal_cons _ _ sd,scal_cons _ _ se];rfl
  simp (disch:=first|omega|(with_unfolding_all exact rfl)|(simp only[new_n,put_n,new_m];omega)|(refine put_m_le ?_;simp only[new_m];omega)) only [K13r17,Abs.W,reduceIte,Nat.reduceEqDiff,Nat.reduceAdd,decide_true,decide_false,kLoop_def,Nat.reduceSub,Env.find_set,i6,i7,g7,g6,sall,Nat.zero_add]
  obtain ⟨fin,hfin⟩:∃ fin:St,fin=t2.put (u.n+1) (.cells [va,vb,vc,vd,ve] (tag 46)):=⟨_,rfl⟩
  have finn:fin.n=t2.n:=by rw [hfin];rfl
  have finm:fin.m=min t2.m (u.n+1):=by rw [hfin];simp only [St.put,minN_eq]
  have fing:∀ c,c≠u.n+1→fin.h.get c=t2.h.get c:=fun c hc=>by rw [hfin,get_put_ne' _ _ _ _ hc]
  have IH2:IntsAt t2.h t2.n be H ve:=IH.mono (fun h=>fr2 be h (by omega) (by omega)) (by omega)
  have hTA:TruthAt fin.h fin.n T va vb vc vd ve:=by
   have F:∀ x,x<t2.n→Rest t1.n ba bb bc bd x→fin.h.get x=t2.h.get x∧Rest t1.n ba bb bc bd x:=fun x hx r=>⟨fing x (by have:=r.1;omega),r⟩
   obtain ⟨lo1,lo2,lo3,lo4⟩:=U.lo
   refine ⟨IntsAt.at_ (U.ice.mono (fun h=>fing ba (by omega)) (by omega)),(U.melts.mono (fun h=>fing bb (by omega)) F (by omega)).tab,(U.cold.mono (fun h=>fing bc (by omega)) F (by omega)).tab,(U.warm.mono (fun h=>fing bd (by omega)) F (by omega)).tab,?_⟩
   rw [TH]
   exact (IntsAt.at_ (IH2.mono (fun h=>fing be (by omega)) (by omega)))
  have hTI:T.In c hours:=by
   obtain ⟨le1,le2,le3⟩:=U.len
   have bx:∀ j (hj:j<c.boxes.length),c.box j=c.boxes[j]:=fun j hj=>c.box_eq hj
   refine ⟨Ti,fun b hb=>?_,?_,?_,?_,by rw [TH];exact Hl,fun x hx=>?_⟩
   ·rw [bx b (by omega)];exact vi b hb (by omega)
   ·exact tabIn_of vm (by omega) fun j hj=>by rw [bx j hj];exact ⟨rfl,rfl⟩
   ·exact tabIn_of vcc (by omega) fun j hj=>by rw [bx j hj];exact ⟨rfl,rfl⟩
   ·exact tabIn_of vw (by omega) fun j hj=>by rw [bx j hj];exact ⟨rfl,rfl⟩
   ·rw [TH] at hx
    exact Hv x hx
  rw [← hfin]
  refine ⟨.agg [va,vb,vc,vd,ve],fin,leave_cell _ _ _ _ sh ?_,⟨fun c hc hcd=>?_,by omega,by omega,fun h=>?_,by omega⟩,?_,T,va,vb,vc,vd,ve,rfl,?_,hTA,hTI,sa,sb,sc,sd,se⟩
  ·rw [i6,load_ptr,hfin,get_put_eq _ _ _ _ rfl (by omega)]
   simp (disch:=first|omega|(with_unfolding_all exact rfl)|(simp only[new_n,put_n,new_m];omega)|(refine put_m_le ?_;simp only[new_m];omega)) only [Abs.W,reduceIte,Nat.reduceEqDiff,Nat.reduceAdd,decide_true,decide_false,kLoop_def,Nat.reduceSub,okA_agg]
  ·rw [fing c (by omega),low c (by omega) hcd,wg c hc]
  ·have h1:=m1 (by omega)
   have h2:=m2 h1
   omega
  ·cases hp:plain (.agg [va,vb,vc,vd,ve]) with
   | false=>rfl
   | true =>
    have:=plains_mem (l:=[va,vb,vc,vd,ve]) (v:=ve) hp (by simp)
    rw [pe] at this;cases this
  ·obtain ⟨f,hf⟩:=d2
   exact ⟨f,by rw [fing d (by omega)];exact hf⟩) (by omega)
 obtain ⟨hd',hA,hI,h1,h2,h3,h4,h5⟩:=hq
 exact ⟨T,va,vb,vc,vd,ve,t,hr.symm.trans e,st,hd',hA,hI,h1,h2,h3,h4,h5⟩
end Go.Proofs.Ytndbihaffijhbaa.walk
set_option maxRecDepth 10000
namespace Go.Abs
end Go.Abs
namespace Go.Proofs.Ytndbihaffijhbaa.walk
open Go.Abs Go.Proofs.Ytndbihaffijhbaa.code
end Go.Proofs.Ytndbihaffijhbaa.walk
set_option maxRecDepth 10000
namespace Go.Proofs.Ytndbihaffijhbaa.walk
open Go.Abs Go.Proofs.Ytndbihaffijhbaa.code
def lotRow (l:Lot) (v:AV):List AV:=[.int .i64 l.born,.int .i64 l.keeps,v]
def lotRows (ls:List Lot) (vs:List AV):List (List AV):=List.zipWith lotRow ls vs
theorem lotRows_len {ls:List Lot} {vs:List AV} (h:vs.length=ls.length):(lotRows ls vs).length=ls.length:=by unfold lotRows;rw [List.length_zipWith];omega
theorem lotRows_snoc {ls:List Lot} {vs:List AV} (h:vs.length=ls.length) (l:Lot) (v:AV):lotRows ls vs++[lotRow l v]=lotRows (ls++[l]) (vs++[v]):=by
 unfold lotRows;rw [List.zipWith_append h.symm];rfl
theorem lotRows_at {ls:List Lot} {vs:List AV} {i:Nat} (h1:i<ls.length) (h2:i<vs.length) (h3:i<(lotRows ls vs).length):(lotRows ls vs)[i]=lotRow ls[i] vs[i]:=List.getElem_zipWith (f:=lotRow) (l:=ls) (l':=vs) (i:=i) (h:=h3)
def LotsNew (h:Heap) (lo n:Nat) (ls:List Lot) (v:AV):Prop :=
 ∃ vs:List AV,vs.length=ls.length∧Abs.Rows h lo n 3 (tag 35) (lotRows ls vs) v∧∀ j (h1:j<vs.length) (h2:j<ls.length),Abs.Rows h lo n 3 (tag 80) (ls[j].stays.map Stay.cells) vs[j]
theorem LotsNew.mono {h h':Heap} {lo n n':Nat} {ls:List Lot} {v:AV} (r:LotsNew h lo n ls v) (hh:∀ b,lo≤b→b<n→h'.get b=h.get b) (hn:n≤n'):LotsNew h' lo n' ls v:=by
 obtain ⟨vs,h1,h2,h3⟩:=r
 exact ⟨vs,h1,h2.mono hh hn,fun j j1 j2=>(h3 j j1 j2).mono hh hn⟩
def LotsAt (h:Heap) (n:Nat) (ls:List Lot) (v:AV):Prop :=
 ∃ vs:List AV,vs.length=ls.length∧RowsAt h n 3 (lotRows ls vs) v∧∀ j (h1:j<vs.length) (h2:j<ls.length),RowsAt h n 3 (ls[j].stays.map Stay.cells) vs[j]∧vs[j].scalar=true
theorem LotsAt.grow {h h':Heap} {n n':Nat} {ls:List Lot} {v:AV} (r:LotsAt h n ls v) (hh:∀ b,b<n→h'.get b=h.get b) (hn:n≤n'):LotsAt h' n' ls v:=by
 obtain ⟨vs,h1,h2,h3⟩:=r
 exact ⟨vs,h1,h2.grow hh hn,fun j j1 j2=>⟨(h3 j j1 j2).1.grow hh hn,(h3 j j1 j2).2⟩⟩
theorem LotsNew.at_ {h:Heap} {lo n:Nat} {ls:List Lot} {v:AV} (r:LotsNew h lo n ls v):LotsAt h n ls v:=by
 obtain ⟨vs,h1,h2,h3⟩:=r
 exact ⟨vs,h1,h2.at_,fun j j1 j2=>⟨(h3 j j1 j2).at_,rows_scal (h3 j j1 j2)⟩⟩
def LotsUp (h:Heap) (lo n b:Nat) (ls:List Lot) (v:AV):Prop :=
 ∃ vs:List AV,vs.length=ls.length∧IsAt h n b 3 (tag 35) (lotRows ls vs) v∧∀ j (h1:j<vs.length) (h2:j<ls.length),∃ x,lo≤x∧x≠b∧x<n∧Abs.Rows h x (x+1) 3 (tag 80) (ls[j].stays.map Stay.cells) vs[j]
theorem in_block {h:Heap} {lo n w tg q:Nat} {rows:List (List AV)} {v:AV} (r:Abs.Rows h lo n w tg rows v) (hq:q<n):∃ x,(lo≤x∨x=q)∧x<n∧Abs.Rows h x (x+1) w tg rows v:=by
 rcases r.is with ⟨h1,h2⟩ | ⟨b,h1,h2,h3,h4⟩
 ·exact ⟨q,.inr rfl,hq,r.wide,.inl ⟨h1,h2⟩⟩
 ·exact ⟨b,.inl h1,h2,r.wide,.inr ⟨b,Nat.le_refl _,Nat.lt_succ_self _,h3,h4⟩⟩
theorem LotsUp.nil (h:Heap) (lo n b:Nat):LotsUp h lo n b [] .nilslice:=⟨[],rfl,IsAt.nil _ _ _ _ _,fun j h1 _=>by simp at h1⟩
theorem LotsUp.new {h:Heap} {lo n b:Nat} {ls:List Lot} {v:AV} (r:LotsUp h lo n b ls v) (hb:lo≤b):LotsNew h lo n ls v:=by
 obtain ⟨vs,h1,h2,h3⟩:=r
 refine ⟨vs,h1,⟨h2.wide,h2.is.imp id fun ⟨_,q2,q3,q4⟩=>⟨b,hb,q2,q3,q4⟩⟩,fun j j1 j2=>?_⟩
 obtain ⟨x,x1,_,x3,x4⟩:=h3 j j1 j2
 exact rows_lower (x4.mono (fun _ _ _=>rfl) x3) x1
theorem lots_loop {N:Nat} {r:R} {L:Env} {s:St} {cx:Ctx} {d p4 k:Nat} {hl hh:Int} {v1 v2 v3:AV} (M:Nat) (hr:loopN K23l0 rounds (call Try.prog X N) cx L [] s=r) (hN:6≤N) (hM:M≤10) (hd:Die d s.h) (hdp:d<p4) (hpn:p4<s.n) (hs:s.n+20000≤far) (hdm:d≤s.m) (hsm:s.m≤far)
  (hk:k≤10) (len1:∀ s,lenSlA s v1=.val (.int .i64 k) s) (ok1:∀ t,okA (.val v1 t)=.val v1 t)
  (g4:s.h.get p4=some (.cells [.int .i64 hl,.int .i64 hh,v1,v2,v3] (tag 31))) (l0:L.find 0=.ptr d 0) (l4:L.find 4=.ptr p4 0) (l7:L.find 7=.nilslice) (l8:L.find 8=.int .i64 (M:Int)) :
  ∃ (L1:Env) (s1:St) (b:Nat) (ls:List Lot) (v:AV),r=.done (.exit 0) L1 [] s1∧L1.find 7=v∧L1.find 6=L.find 6∧ls.length=M∧(∀ l ∈ ls,l.Ok k∧l.born≤9)∧Die d s1.h∧s.n≤b∧LotsUp s1.h p4 s1.n b ls v∧(∀ c,c<s.n→c≠d→s1.h.get c=s.h.get c)∧s.n≤s1.n∧s1.n≤s.n+1002 * M∧d≤s1.m∧s1.m≤far:=by
 have hff:far=1000000000:=rfl
 obtain ⟨e,L1,s1,rfl,rfl,b,ls,v,h⟩:=loop_of hr
  (fun i L' t=>∃ (b:Nat) (ls:List Lot) (v:AV),L'.find 0=.ptr d 0∧L'.find 4=.ptr p4 0∧L'.find 6=L.find 6∧L'.find 7=v∧L'.find 8=.int .i64 ((M:Int) - i)∧ls.length=i∧(∀ l ∈ ls,l.Ok k∧l.born≤9)∧Die d t.h∧s.n≤b∧(b<t.n∨far<b)∧LotsUp t.h p4 t.n b ls v∧(∀ c,c<s.n→c≠d→t.h.get c=s.h.get c)∧s.n≤t.n∧t.n≤s.n+1002 * i∧d≤t.m∧t.m≤far)
  (fun e L1 s1=>e=.exit 0∧∃ (b:Nat) (ls:List Lot) (v:AV),L1.find 7=v∧L1.find 6=L.find 6∧ls.length=M∧(∀ l ∈ ls,l.Ok k∧l.born≤9)∧Die d s1.h∧s.n≤b∧LotsUp s1.h p4 s1.n b ls v∧(∀ c,c<s.n→c≠d→s1.h.get c=s.h.get c)∧s.n≤s1.n∧s1.n≤s.n+1002 * M∧d≤s1.m∧s1.m≤far)
  M (by unfold rounds;omega) ⟨far+1,[],.nilslice,l0,l4,rfl,l7,by rw [l8];simp,rfl,fun x hx=>(by cases hx),hd,by omega,.inr (by omega),LotsUp.nil _ _ _ _,fun _ _ _=>rfl,Nat.le_refl _,Nat.le_refl _,hdm,hsm⟩
  (fun i L' t hi ⟨b,ls,v,q0,q4,q6,q7,q8,ql,qx,qd,qb,qbn,qU,qs,qn,qk,qdm,qf⟩=>by
   by_cases hlt:i<M
   ·have e0:decide ((0:Int)<(M:Int) - i)=true:=decide_eq_true (by omega)
    have gt:=(qs p4 hpn (by omega)).trans g4
    obtain ⟨vs,h1,h2,h3⟩:=qU
    have okv:∀ t,okA (.val v t)=.val v t:=fun t=>okA_ne h2.rows.at_.ne
    have a1:∀ s,aSub s .i64 ((M:Int) - i) 1=.val (.int .i64 ((M:Int) - i - 1)) s:=fun s=>aSub_i64 s _ _ (by omega)
    simp (disch:=first|omega|(with_unfolding_all exact rfl)|(simp only[new_n,put_n,new_m];omega)|(refine put_m_le ?_;simp only[new_m];omega)) only [K23l0,K23r3,K23r4,Abs.W,reduceIte,Nat.reduceEqDiff,Nat.reduceAdd,decide_true,decide_false,kLoop_def,Nat.reduceSub,Env.find_set,q0,q4,q7,q8,e0,gt,okv,Nat.zero_add]
    generalize hc1:call _ _ _ (.fn 8) _ _=r1
    obtain ⟨l,v4,t1,rfl,st1,d1,okl,b9,hR⟩:=LotOf_ex (k:=k) 3 hc1 (by omega) (by omega) qd (by omega) (by omega) hk len1 ok1
    have n1:t.n≤t1.n:=st1.n
    have k1:t1.n≤t.n+1000:=st1.le
    have m1:=st1.m qdm
    have mm1:=st1.mle
    obtain ⟨ok4,c4,sc4⟩:=hR.scalar
    have s4:=rows_scal hR
    have hB:∀ x,x<t.n→x≠d→t1.h.get x=t.h.get x:=fun x hx hxd=>st1.same x hx hxd
    have hdb:∀ x,p4≤x→x≠d:=fun x hx=>by omega
    obtain ⟨s',e1,e2,e3,e4,e5,e6⟩:=append_at (s:=t1.new (.cells (lotRow l v4) 0)) (bytes:=40) (row:=lotRow l v4) (h2.mono (h':=(t1.new (.cells (lotRow l v4) 0)).h) (n':=(t1.new (.cells (lotRow l v4) 0)).n) (fun h=>by rw [get_new_ne _ _ _ (by omega)];exact hB b h (by omega)) (by simp only [new_n];omega)) (get_new_eq _ _ _ rfl (by omega)) rfl (by show scalars [.int .i64 l.born,.int .i64 l.keeps,v4]=true;rw [scal_int,scal_int,scal_cons _ _ s4];rfl) (by rw [lotRows_len h1];omega) (by kernel_rfl) (by simp only [new_n];omega)
    rw [lotRows_len h1] at e1 e2
    simp only [new_n] at e3 e4
    unfold lotRow at e1
    refine .inl ⟨hlt,_,s',by
     simp (disch:=first|omega|(with_unfolding_all exact rfl)|(simp only[new_n,put_n,new_m];omega)|(refine put_m_le ?_;simp only[new_m];omega)) only [K23r5,Abs.W,reduceIte,Nat.reduceEqDiff,Nat.reduceAdd,decide_true,decide_false,kLoop_def,Nat.reduceSub,Env.find_set,q8,c4,okv,a1,e1,Nat.zero_add]
     rfl,t1.n+1,ls++[l],.slice (t1.n+1) 0 (ls.length+1) (ls.length+1) true,?_,?_,?_,?_,?_,by rw [List.length_append,ql];rfl,fun x hx=>?_,?_,by omega,.inl (by omega),?_,fun c hc hcd=>?_,by omega,by omega,?_,?_⟩
    ·simp only [Env.find_set,q0,reduceIte,Nat.reduceEqDiff]
    ·simp only [Env.find_set,q4,reduceIte,Nat.reduceEqDiff]
    ·simp only [Env.find_set,q6,reduceIte,Nat.reduceEqDiff]
    ·simp only [Env.find_set,reduceIte,Nat.reduceEqDiff,new_n]
    ·simp only [Env.find_set,reduceIte,Nat.reduceEqDiff];congr 1;omega
    ·rcases List.mem_append.mp hx with h | h
     ·exact qx x h
     ·rw [List.mem_singleton.mp h];exact ⟨okl,b9⟩
    ·obtain ⟨f,hf⟩:=d1
     exact ⟨f,by rw [e4 d (by omega) (by omega),get_new_ne _ _ _ (by omega)];exact hf⟩
    ·have sm:∀ x,x<t1.n→x≠b→s'.h.get x=t1.h.get x:=fun x hx hxb=>by rw [e4 x (by omega) hxb,get_new_ne _ _ _ (by omega)]
     refine ⟨vs++[v4],by simp [h1],by rw [← lotRows_snoc h1];exact e2,fun j j1 j2=>?_⟩
     by_cases e:j<vs.length
     ·obtain ⟨x,x1,x2,x3,x4⟩:=h3 j e (by omega)
      refine ⟨x,x1,by omega,by omega,?_⟩
      rw [List.getElem_append_left e,List.getElem_append_left (by omega)]
      exact x4.mono (fun c hc hcn=>by
       have:c=x:=by omega
       subst this
       rw [sm c (by omega) x2,hB c x3 (hdb c x1)]) (Nat.le_refl _)
     ·have:j=vs.length:=by rw [List.length_append,List.length_singleton] at j1;omega
      subst this
      obtain ⟨x,x1,x2,x3⟩:=in_block hR (q:=p4) (by omega)
      refine ⟨x,by omega,by omega,by omega,?_⟩
      rw [List.getElem_append_right (Nat.le_refl _),List.getElem_append_right (by omega)]
      simp only [h1,Nat.sub_self,List.getElem_singleton]
      exact x3.mono (fun c hc hcn=>sm c (by omega) (by omega)) (Nat.le_refl _)
    ·rw [e4 c (by omega) (by omega),get_new_ne _ _ _ (by omega),st1.same c (by omega) hcd];exact qs c hc hcd
    ·exact e5 d (by omega) (by simp only [new_n];omega) (by rw [new_m];exact m1)
    ·rw [new_m] at e6;omega
   ·obtain rfl:i=M:=by omega
    have e0:decide ((0:Int)<(i:Int) - i)=false:=by simp
    refine .inr ⟨.exit 0,L'.set 14 (.bool false),t,by simp,?_,rfl,b,ls,v,?_,?_,ql,qx,qd,qb,qU,qs,qn,qk,qdm,qf⟩
    ·simp (disch:=first|omega|(with_unfolding_all exact rfl)|(simp only[new_n,put_n,new_m];omega)|(refine put_m_le ?_;simp only[new_m];omega)) only [K23l0,K23r3,Abs.W,reduceIte,Nat.reduceEqDiff,Nat.reduceAdd,decide_true,decide_false,kLoop_def,Nat.reduceSub,Env.find_set,q8,e0]
    ·simp only [Env.find_set,q7,reduceIte,Nat.reduceEqDiff]
    ·simp only [Env.find_set,q6,reduceIte,Nat.reduceEqDiff])
 exact ⟨L1,s1,b,ls,v,rfl,h⟩
theorem LotsOf_ex {N d k:Nat} {s:St} {r:ARes} {hl hh:Int} {v1 v2 v3:AV} (most:Nat) (hr:call Try.prog X N (.fn 23) [.ptr d 0,.agg [.int .i64 hl,.int .i64 hh,v1,v2,v3],.int .i64 most] s=r) (hN:7≤N) (hx:most≤9) (hd:Die d s.h) (hdn:d<s.n) (hs:s.n+30000≤far)
  (hk:k≤10) (len1:∀ s,lenSlA s v1=.val (.int .i64 k) s) (ok1:∀ t,okA (.val v1 t)=.val v1 t) :
  ∃ (ls:List Lot) (v:AV) (t:St),r=.val v t∧Stir d s t 12000∧Die d t.h∧(∀ l ∈ ls,l.Ok k∧l.born≤9)∧ls.length≤most∧LotsNew t.h s.n t.n ls v:=by
 obtain ⟨n,rfl⟩:∃ n,N=n+1:=⟨N - 1,by omega⟩
 have hff:far=1000000000:=rfl
 have hd0:=hd
 obtain ⟨v,t,m,e,⟨ls,hd',ok,hlen,hL,fr,hn,hle,hdm,hmf⟩,hm⟩:=call_any (n:=n) (args:=[.ptr d 0,.agg [.int .i64 hl,.int .i64 hh,v1,v2,v3],.int .i64 most]) (s:=s)
  (Q:=fun v h n m=>∃ (ls:List Lot),Die d h∧(∀ l ∈ ls,l.Ok k∧l.born≤9)∧ls.length≤most∧LotsNew h s.n n ls v∧(∀ c,c<s.n→c≠d→h.get c=s.h.get c)∧s.n≤n∧n≤s.n+12000∧d≤m∧m≤far) Try.func23 rfl (fun u uh un um=>by
  rw [← uh] at hd
  rw [← un,← uh]
  rw [enter23]
  have nn1:∀ o,(u.new o).n=u.n+1:=fun _=>rfl
  have a1:∀ s,aAdd s .i64 (most:Int) 1=.val (.int .i64 ((most:Int)+1)) s:=fun s=>aAdd_i64 s _ _ (by omega)
  simp (disch:=first|omega|(with_unfolding_all exact rfl)|(simp only[new_n,put_n,new_m];omega)|(refine put_m_le ?_;simp only[new_m];omega)) only [K23,K23r0,K23r1,K23r2,Abs.W,reduceIte,Nat.reduceEqDiff,Nat.reduceAdd,decide_true,decide_false,kLoop_def,Nat.reduceSub,nn1,a1,Env.find_set]
  obtain ⟨w,hw⟩:∃ w:St,w=(u.new (.cells [.int .i64 hl,.int .i64 hh,v1,v2,v3] (tag 31))):=⟨_,rfl⟩
  rw [← hw]
  have wn:w.n=u.n+1:=by rw [hw];rfl
  have wm:w.m=far:=by rw [hw];exact um
  have wg:∀ c,c<u.n→w.h.get c=u.h.get c:=fun c hc=>by rw [hw,get_new_ne _ _ _ (by omega)]
  have w0:w.h.get u.n=some (.cells [.int .i64 hl,.int .i64 hh,v1,v2,v3] (tag 31)):=by rw [hw];exact get_new_eq _ _ _ rfl (by omega)
  have dw:Die d w.h:=by obtain ⟨f,hg⟩:=hd;exact ⟨f,by rw [wg _ (by omega)];exact hg⟩
  clear hw
  generalize hc1:call _ _ _ (.fn 10) _ _=r1
  obtain ⟨x1,t1,rfl,st1,d1,x10,x11⟩:=cast_ex hc1 (by omega) dw (by omega) (by omega) (by omega)
  have n1:w.n≤t1.n:=st1.n
  have k1:t1.n≤w.n:=st1.le
  have m1:=st1.m (by omega)
  have mm1:=st1.mle
  obtain ⟨M,hM⟩:∃ M:Nat,x1=(M:Int):=⟨x1.toNat,by omega⟩
  subst hM
  simp (disch:=first|omega|(with_unfolding_all exact rfl)|(simp only[new_n,put_n,new_m];omega)|(refine put_m_le ?_;simp only[new_m];omega)) only [Abs.W,reduceIte,Nat.reduceEqDiff,Nat.reduceAdd,decide_true,decide_false,kLoop_def,Nat.reduceSub,Env.find_set]
  generalize hl1:loopN K23l0 rounds _ _ _ _ _=q1
  obtain ⟨L1,t2,b,ls,v,rfl,f7,f6,ll,lok,d2,bn,hU,fr,n2,k2,m2,mm2⟩:=lots_loop (k:=k) M hl1 (by omega) (by omega) d1 (show d<u.n by omega) (by omega) (by omega) m1 (by omega) hk len1 ok1 ((st1.same u.n (by omega) (by omega)).trans w0) (by simp only [find_cons,Env.find_set,reduceIte,Nat.reduceEqDiff]) (by simp only [find_cons,Env.find_set,reduceIte,Nat.reduceEqDiff]) (by simp only [find_cons,Env.find_set,reduceIte,Nat.reduceEqDiff]) (by simp only [find_cons,Env.find_set,reduceIte,Nat.reduceEqDiff])
  have hNew:=hU.new (by omega)
  obtain ⟨vs,hvs,hRr,hst⟩:=hNew
  have okv:∀ t,okA (.val v t)=.val v t:=hRr.scalar.1
  simp (disch:=first|omega|(with_unfolding_all exact rfl)|(simp only[new_n,put_n,new_m];omega)|(refine put_m_le ?_;simp only[new_m];omega)) only [K23r6,res23,Abs.W,reduceIte,Nat.reduceEqDiff,Nat.reduceAdd,decide_true,decide_false,kLoop_def,Nat.reduceSub,Env.find_set,f7,okv]
  refine ⟨v,t2,rfl,⟨ls,d2,lok,by omega,⟨vs,hvs,hRr,hst⟩,fun c hc hcd=>?_,by omega,by omega,m2,mm2⟩,fun hp _=>⟨ls,hd,lok,by omega,?_,fun _ _ _=>trivial,Nat.le_refl _,by omega,m2,mm2⟩⟩
  ·rw [fr c (by omega) hcd,st1.same c (by omega) hcd,wg c hc]
  ·rcases hRr.is with ⟨h1,h2⟩ | ⟨b,_,_,h2,_⟩
   ·have:ls=[]:=by
     have:=lotRows_len hvs
     rw [h1] at this
     exact List.length_eq_zero_iff.mp this.symm
    subst this;subst h2
    exact ⟨[],rfl,Abs.Rows.nil _ _ _ _ _,fun j h1 _=>by simp at h1⟩
   ·subst h2;cases (show false=true from hp))
 refine ⟨ls,v,t,hr.symm.trans e,⟨fr,hn,hle,fun h=>?_,?_⟩,hd',ok,hlen,hL⟩
 ·rcases hm with ⟨_,h1⟩ | ⟨_,h1⟩<;>omega
 ·rcases hm with ⟨_,h1⟩ | ⟨_,h1⟩<;>omega
end Go.Proofs.Ytndbihaffijhbaa.walk
set_option maxRecDepth 10000
namespace Go.Proofs.Ytndbihaffijhbaa.walk
open Go.Abs Go.Proofs.Ytndbihaffijhbaa.code
theorem within_hi (N:Nat) (hN:1≤N) (x lo hi:Int) (s:St) (h0:lo≤x) (h1:hi<x) (hs:s.n≤far):call Try.prog X N (.fn 32) [.int .i64 x,.int .i64 lo,.int .i64 hi] s=.val (.int .i64 1) s:=by
 obtain ⟨n,rfl⟩:∃ n,N=n+1:=⟨N - 1,by omega⟩
 refine call_plain (s':=⟨s.h,s.n,far⟩) Try.func32 ?_ rfl hs
 have e0:decide (x<lo)=false:=by simp;omega
 have e1:decide (hi<x)=true:=by simp;omega
 rw [enter32]
 simp only [res32,K32r0,K32r1s7,K32r1s6,K32r1s5,K32r1,K32r2,K32r3,K32,Abs.W,reduceIte,Nat.reduceEqDiff,Nat.reduceAdd,decide_true,decide_false,kLoop_def,Nat.reduceSub,e0,e1]
theorem unless_no (N:Nat) (hN:1≤N) (e:Int) (s:St) (hs:s.n≤far):call Try.prog X N (.fn 33) [.bool false,.int .i64 e] s=.val (.int .i64 e) s:=by
 obtain ⟨n,rfl⟩:∃ n,N=n+1:=⟨N - 1,by omega⟩
 refine call_plain (s':=⟨s.h,s.n,far⟩) Try.func33 ?_ rfl hs
 rw [enter33]
 simp only [res33,K33r0,K33r1,K33r2,K33r3,K33,Abs.W,reduceIte,Nat.reduceEqDiff,Nat.reduceAdd,decide_true,decide_false,kLoop_def,Nat.reduceSub]
theorem unless_b (N:Nat) (hN:1≤N) (q:Bool) (e:Int) (s:St) (hs:s.n≤far):call Try.prog X N (.fn 33) [.bool q,.int .i64 e] s=.val (.int .i64 (if q=true then 0 else e)) s:=by
 cases q
 ·exact unless_no N hN e s hs
 ·exact unless_ok N hN e s hs
theorem or2_ok (N:Nat) (hN:1≤N) (a b:Int) (t:St) (ht:t.n+1≤far):call Try.prog X N (.fn 30) [.slice t.n 0 2 2 false] (t.new (.cells [.int .i64 a,.int .i64 b] 0))=.val (.int .i64 (if a=0 then b else a)) (t.new (.cells [.int .i64 a,.int .i64 b] 0)):=by
 obtain ⟨n,rfl⟩:∃ n,N=n+1:=⟨N - 1,by omega⟩
 refine call_plain' Try.func30 (fun u uh un um=>?_) rfl
 have hf:far=1000000000:=rfl
 have hg:u.h.get t.n=some (.cells [.int .i64 a,.int .i64 b] 0):=by rw [uh];exact get_new_eq _ _ _ rfl (by omega)
 have x0:∀ s,ixsA 1 s (.slice t.n 0 2 2 false) (.int .i64 0)=.val (.ptr t.n 0) s:=fun s=>ixs_slice 1 s t.n 0 2 2 false 0 (by omega)
 have x1:∀ s,ixsA 1 s (.slice t.n 0 2 2 false) (.int .i64 1)=.val (.ptr t.n 1) s:=fun s=>ixs_slice 1 s t.n 0 2 2 false 1 (by omega)
 have l0:decide ((0:Int)<((2:Nat):Int))=true:=rfl
 have l1:decide ((1:Int)<((2:Nat):Int))=true:=rfl
 have l2:decide ((2:Int)<((2:Nat):Int))=false:=rfl
 have p0:∀ s,aAdd s .i64 0 1=.val (.int .i64 1) s:=fun s=>aAdd_i64 s 0 1 (by omega)
 have p1:∀ s,aAdd s .i64 1 1=.val (.int .i64 2) s:=fun s=>aAdd_i64 s 1 1 (by omega)
 have hun:u.n≤u.m:=by rw [um,un,new_n];exact ht
 rw [enter30]
 by_cases ha:a=0
 ·subst ha
  have z0:decide ((0:Int)=0)=true:=rfl
  by_cases hb:b=0
  ·subst hb
   simp (disch:=first|omega|(with_unfolding_all exact rfl)|(simp only[new_n,put_n,new_m];omega)|(refine put_m_le ?_;simp only[new_m];omega)) only [res30,K30r0,K30r1,K30r2,K30r3,K30r4,K30r5,K30r6,K30r7,K30l0,K30r8,K30,Abs.W,reduceIte,Nat.reduceEqDiff,Nat.reduceAdd,decide_true,decide_false,Nat.reduceSub,kLoop_3,loopN_succ,hg,x0,x1,l0,l1,l2,p0,p1,z0,Nat.zero_add]
   exact ⟨_,rfl,hun⟩
  ·have z1:decide (b=0)=false:=decide_eq_false hb
   simp (disch:=first|omega|(with_unfolding_all exact rfl)|(simp only[new_n,put_n,new_m];omega)|(refine put_m_le ?_;simp only[new_m];omega)) only [res30,K30r0,K30r1,K30r2,K30r3,K30r4,K30r5,K30r6,K30r7,K30l0,K30r8,K30,Abs.W,reduceIte,Nat.reduceEqDiff,Nat.reduceAdd,decide_true,decide_false,Nat.reduceSub,kLoop_3,loopN_succ,hg,x0,x1,l0,l1,l2,p0,p1,z0,z1,Nat.zero_add]
   exact ⟨_,rfl,hun⟩
 ·have z0:decide (a=0)=false:=decide_eq_false ha
  simp (disch:=first|omega|(with_unfolding_all exact rfl)|(simp only[new_n,put_n,new_m];omega)|(refine put_m_le ?_;simp only[new_m];omega)) only [res30,K30r0,K30r1,K30r2,K30r3,K30r4,K30r5,K30r6,K30r7,K30l0,K30r8,K30,Abs.W,reduceIte,Nat.reduceEqDiff,Nat.reduceAdd,decide_true,decide_false,Nat.reduceSub,kLoop_3,loopN_succ,hg,x0,x1,l0,l1,l2,p0,p1,z0,ha,Nat.zero_add]
  exact ⟨_,rfl,hun⟩
theorem or3_010 (N:Nat) (hN:1≤N) (t:St) (ht:t.n+1≤far):call Try.prog X N (.fn 30) [.slice t.n 0 3 3 false] (t.new (.cells [.int .i64 0,.int .i64 1,.int .i64 0] 0))=.val (.int .i64 1) (t.new (.cells [.int .i64 0,.int .i64 1,.int .i64 0] 0)):=by
 obtain ⟨n,rfl⟩:∃ n,N=n+1:=⟨N - 1,by omega⟩
 refine call_plain' Try.func30 (fun u uh un um=>?_) rfl
 have hf:far=1000000000:=rfl
 have hg:u.h.get t.n=some (.cells [.int .i64 0,.int .i64 1,.int .i64 0] 0):=by rw [uh];exact get_new_eq _ _ _ rfl (by omega)
 have x0:∀ s,ixsA 1 s (.slice t.n 0 3 3 false) (.int .i64 0)=.val (.ptr t.n 0) s:=fun s=>ixs_slice 1 s t.n 0 3 3 false 0 (by omega)
 have x1:∀ s,ixsA 1 s (.slice t.n 0 3 3 false) (.int .i64 1)=.val (.ptr t.n 1) s:=fun s=>ixs_slice 1 s t.n 0 3 3 false 1 (by omega)
 have l0:decide ((0:Int)<((3:Nat):Int))=true:=rfl
 have l1:decide ((1:Int)<((3:Nat):Int))=true:=rfl
 have p0:∀ s,aAdd s .i64 0 1=.val (.int .i64 1) s:=fun s=>aAdd_i64 s 0 1 (by omega)
 have hun:u.n≤u.m:=by rw [um,un,new_n];exact ht
 have z0:decide ((0:Int)=0)=true:=rfl
 have z1:decide ((1:Int)=0)=false:=rfl
 rw [enter30]
 simp (disch:=first|omega|(with_unfolding_all exact rfl)|(simp only[new_n,put_n,new_m];omega)|(refine put_m_le ?_;simp only[new_m];omega)) only [res30,K30r0,K30r1,K30r2,K30r3,K30r4,K30r5,K30r6,K30r7,K30l0,K30r8,K30,Abs.W,reduceIte,Nat.reduceEqDiff,Nat.reduceAdd,decide_true,decide_false,Nat.reduceSub,kLoop_3,loopN_succ,hg,x0,x1,l0,l1,p0,z0,z1,Nat.zero_add]
 exact ⟨_,rfl,hun⟩
theorem Lost_late {N:Nat} {s:St} {hour:Int} {v1 v2 v3 v4:AV} (c:Cellar) (ok:c.Ok) (l:Lot) (okl:l.Ok c.boxes.length) (hN:10≤N) (hC:CellarIn s.h s.n c v1 v2 v3) (hR:RowsAt s.h s.n 3 (l.stays.map Stay.cells) v4) (s4:v4.scalar=true) (hb2:240<hour) (hs:s.n+300000≤far) :
  call Try.prog X N (.fn 11) [.agg [.int .i64 c.hl,.int .i64 c.hh,v1,v2,v3],.agg [.int .i64 l.born,.int .i64 l.keeps,v4],.int .i64 hour] s=.val (.tup [.agg [.int .i64 0,.int .i64 0],.int .i64 1]) s:=by
 obtain ⟨n,rfl⟩:∃ n,N=n+1:=⟨N - 1,by omega⟩
 refine call_plain' Try.func11 (fun u uh un um=>?_) rfl
 have hff:far=1000000000:=rfl
 rw [← uh,← un] at hC hR
 have sh:shapeT Try.prog 26=some (some 2):=by kernel_rfl
 obtain ⟨w,hw⟩:∃ w:St,w=((u.new (.cells [.int .i64 c.hl,.int .i64 c.hh,v1,v2,v3] (tag 31))).new (.cells [.int .i64 l.born,.int .i64 l.keeps,v4] (tag 35))).new (.cells [.int .i64 0,.int .i64 0] (tag 26)):=⟨_,rfl⟩
 have wn:w.n=u.n+3:=by rw [hw];rfl
 have wm:w.m=far:=by rw [hw];exact um
 have wg:∀ c,c<u.n→w.h.get c=u.h.get c:=fun c hc=>by rw [hw,get_new_ne _ _ _ (by simp only [new_n];omega),get_new_ne _ _ _ (by simp only [new_n];omega),get_new_ne _ _ _ (by omega)]
 have w0:w.h.get u.n=some (.cells [.int .i64 c.hl,.int .i64 c.hh,v1,v2,v3] (tag 31)):=by
  rw [hw,get_new_ne _ _ _ (by simp only [new_n];omega),get_new_ne _ _ _ (by simp only [new_n];omega)];exact get_new_eq _ _ _ rfl (by omega)
 have w1:w.h.get (u.n+1)=some (.cells [.int .i64 l.born,.int .i64 l.keeps,v4] (tag 35)):=by
  rw [hw,get_new_ne _ _ _ (by simp only [new_n];omega)];exact get_new_eq _ _ _ rfl (by simp only [new_n];omega)
 have w2:w.h.get (u.n+2)=some (.cells [.int .i64 0,.int .i64 0] (tag 26)):=by rw [hw];exact get_new_eq _ _ _ rfl (by simp only [new_n];omega)
 have nn1:∀ o,(u.new o).n=u.n+1:=fun _=>rfl
 have nn2:∀ o1 o2,((u.new o1).new o2).n=u.n+2:=fun _ _=>rfl
 have hCw:∀ m,CellarIn (⟨w.h,w.n,m⟩:St).h (⟨w.h,w.n,m⟩:St).n c v1 v2 v3:=fun m=>hC.grow wg (by show u.n≤w.n;omega)
 have hRw:∀ m,RowsAt (⟨w.h,w.n,m⟩:St).h (⟨w.h,w.n,m⟩:St).n 3 (l.stays.map Stay.cells) v4:=fun m=>hR.grow wg (by show u.n≤w.n;omega)
 have e1:∀ m,call Try.prog X n (.fn 31) [.agg [.int .i64 c.hl,.int .i64 c.hh,v1,v2,v3],.agg [.int .i64 l.born,.int .i64 l.keeps,v4]] ⟨w.h,w.n,m⟩=.val (.int .i64 0) ⟨w.h,w.n,m⟩:=fun m =>
  checkLot_ok n (by omega) c ok l okl v1 v2 v3 v4 ⟨w.h,w.n,m⟩ (hCw m).at_ (hRw m) (by show w.n+4000≤far;omega)
 have b1:=okl.b1
 have e2:decide (l.born≤hour)=true:=by simp;omega
 rw [enter11]
 simp (disch:=first|omega|(with_unfolding_all exact rfl)|(simp only[new_n,put_n,new_m];omega)|(refine put_m_le ?_;simp only[new_m];omega)) only [res11,K11,K11r0,Abs.W,reduceIte,Nat.reduceEqDiff,Nat.reduceAdd,decide_true,decide_false,kLoop_def,Nat.reduceSub,nn1,nn2]
 rw [← hw]
 have z1:decide ((1:Int)=0)=false:=rfl
 simp (disch:=first|omega|(with_unfolding_all exact rfl)|(simp only[new_n,put_n,new_m];omega)|(refine put_m_le ?_;simp only[new_m];omega)) only [K11r1,K11r2,Abs.W,reduceIte,Nat.reduceEqDiff,Nat.reduceAdd,decide_true,decide_false,kLoop_def,Nat.reduceSub,w0,w1,e1,e2,z1,within_hi,unless_ok,or3_010,endO_nil,regD_ok,Nat.zero_add]
 obtain ⟨y,hy⟩:∃ y:St,y=w.new (.cells [.int .i64 0,.int .i64 1,.int .i64 0] 0):=⟨_,rfl⟩
 rw [← hy]
 have yn:y.n=w.n+1:=by rw [hy];rfl
 have ym:y.m=far:=by rw [hy];exact wm
 have y2:y.h.get (u.n+2)=some (.cells [.int .i64 0,.int .i64 0] (tag 26)):=by rw [hy,get_new_ne _ _ _ (by omega)];exact w2
 simp (disch:=first|omega|(with_unfolding_all exact rfl)|(simp only[new_n,put_n,new_m];omega)|(refine put_m_le ?_;simp only[new_m];omega)) only [K11r3,Abs.W,reduceIte,Nat.reduceEqDiff,Nat.reduceAdd,decide_true,decide_false,kLoop_def,Nat.reduceSub,Env.find_set,y2,Nat.zero_add]
 rw [res11]
 refine ⟨_,leave_cell_tmp _ _ _ _ _ sh (v:=.agg [.int .i64 0,.int .i64 0]) ?_,?_⟩
 ·simp (disch:=first|omega|(with_unfolding_all exact rfl)|(simp only[new_n,put_n,new_m];omega)|(refine put_m_le ?_;simp only[new_m];omega)) only [Abs.W,reduceIte,Nat.reduceEqDiff,Nat.reduceAdd,decide_true,decide_false,kLoop_def,Nat.reduceSub,Env.find_set]
 ·simp only [St.put,minN_eq,ym];omega
theorem Fresh_late {N:Nat} {s:St} {hour:Int} {v1 v2 v3 v4:AV} (c:Cellar) (ok:c.Ok) (l:Lot) (okl:l.Ok c.boxes.length) (hN:11≤N) (hC:CellarIn s.h s.n c v1 v2 v3) (hR:RowsAt s.h s.n 3 (l.stays.map Stay.cells) v4) (s4:v4.scalar=true) (hb2:240<hour) (hs:s.n+400000≤far) :
  call Try.prog X N (.fn 12) [.agg [.int .i64 c.hl,.int .i64 c.hh,v1,v2,v3],.agg [.int .i64 l.born,.int .i64 l.keeps,v4],.int .i64 hour] s=.val (.tup [.int .i64 0,.int .i64 1]) s:=by
 obtain ⟨n,rfl⟩:∃ n,N=n+1:=⟨N - 1,by omega⟩
 refine call_plain' Try.func12 (fun u uh un um=>?_) rfl
 have hff:far=1000000000:=rfl
 rw [← uh,← un] at hC hR
 obtain ⟨w,hw⟩:∃ w:St,w=(u.new (.cells [.int .i64 c.hl,.int .i64 c.hh,v1,v2,v3] (tag 31))).new (.cells [.int .i64 l.born,.int .i64 l.keeps,v4] (tag 35)):=⟨_,rfl⟩
 have wn:w.n=u.n+2:=by rw [hw];rfl
 have wm:w.m=far:=by rw [hw];exact um
 have wg:∀ c,c<u.n→w.h.get c=u.h.get c:=fun c hc=>by rw [hw,get_new_ne _ _ _ (by simp only [new_n];omega),get_new_ne _ _ _ (by omega)]
 have w0:w.h.get u.n=some (.cells [.int .i64 c.hl,.int .i64 c.hh,v1,v2,v3] (tag 31)):=by
  rw [hw,get_new_ne _ _ _ (by simp only [new_n];omega)];exact get_new_eq _ _ _ rfl (by omega)
 have w1:w.h.get (u.n+1)=some (.cells [.int .i64 l.born,.int .i64 l.keeps,v4] (tag 35)):=by
  rw [hw];exact get_new_eq _ _ _ rfl (by simp only [new_n];omega)
 have nn1:∀ o,(u.new o).n=u.n+1:=fun _=>rfl
 have e1:=Lost_late (N:=n) (s:=w) c ok l okl (by omega) (hC.grow wg (by omega)) (hR.grow wg (by omega)) s4 hb2 (by omega)
 have ex0:∀ (a b:AV) (s:St),extA 0 s (.tup [a,b])=.val a s:=fun _ _ _=>rfl
 have ex1:∀ (a b:AV) (s:St),extA 1 s (.tup [a,b])=.val b s:=fun _ _ _=>rfl
 have z1:decide ((1:Int)=0)=false:=rfl
 rw [enter12]
 simp (disch:=first|omega|(with_unfolding_all exact rfl)|(simp only[new_n,put_n,new_m];omega)|(refine put_m_le ?_;simp only[new_m];omega)) only [res12,K12,K12r0,Abs.W,reduceIte,Nat.reduceEqDiff,Nat.reduceAdd,decide_true,decide_false,kLoop_def,Nat.reduceSub,nn1]
 rw [← hw]
 simp (disch:=first|omega|(with_unfolding_all exact rfl)|(simp only[new_n,put_n,new_m];omega)|(refine put_m_le ?_;simp only[new_m];omega)) only [res12,K12r0,K12r1,K12r2,K12r3,K12r4,K12,Abs.W,reduceIte,Nat.reduceEqDiff,Nat.reduceAdd,decide_true,decide_false,kLoop_def,Nat.reduceSub,Env.find_set,w0,w1,e1,ex0,ex1,z1,Nat.zero_add,leave_tmp_tmp]
 exact ⟨_,rfl,by simp only [St.put,minN_eq,wm,new_m];omega⟩
theorem LotsAt.cell {h:Heap} {n:Nat} {ls:List Lot} {v:AV} (r:LotsAt h n ls v) {i:Nat} (hi:i<ls.length):∃ b p cs sz v4,b<n∧(∀ s,ixsA 3 s v (.int .i64 i)=.val (.ptr b p) s)∧h.get b=some (.cells cs sz)∧cut p 3 cs=some [.int .i64 ls[i].born,.int .i64 ls[i].keeps,v4]∧RowsAt h n 3 (ls[i].stays.map Stay.cells) v4∧v4.scalar=true:=by
 obtain ⟨vs,h1,h2,h3⟩:=r
 have hl:=lotRows_len h1
 obtain ⟨b,p,cs,sz,q1,q2,q3,q4⟩:=h2.at_ i (by omega)
 rw [lotRows_at hi (by omega)] at q4
 obtain ⟨r1,r2⟩:=h3 i (by omega) hi
 exact ⟨b,p,cs,sz,_,q1,q2,q3,q4,r1,r2⟩
theorem LotsAt.len {h:Heap} {n:Nat} {ls:List Lot} {v:AV} (r:LotsAt h n ls v) (s:St):lenSlA s v=.val (.int .i64 ls.length) s:=by
 obtain ⟨vs,h1,h2,h3⟩:=r
 have:=h2.len s
 rwa [lotRows_len h1] at this
theorem LotsAt.ok {h:Heap} {n:Nat} {ls:List Lot} {v:AV} (r:LotsAt h n ls v) (t:St):okA (.val v t)=.val v t:=by
 obtain ⟨vs,h1,h2,h3⟩:=r
 exact okA_ne h2.ne
def Cellar.due (c:Cellar) (l:Lot) (hour:Int):Int:=if hour≤240 then (if (c.lost l (hour - l.born).toNat).2≤l.keeps then 0 else 12) else 1
theorem sell_ok {N:Nat} {s:St} {v1 v2 v3 v:AV} (c:Cellar) (ok:c.Ok) (ls:List Lot) (okl:∀ l ∈ ls,l.Ok c.boxes.length) (hN:12≤N) (hC:CellarIn s.h s.n c v1 v2 v3) (hL:LotsAt s.h s.n ls v) (i:Nat) (hi:i<ls.length) (hi9:ls.length≤20) (hour:Int) (hb:ls[i].born≤hour) (hs:s.n+500000≤far) :
  call Try.prog X N (.fn 55) [.agg [.int .i64 c.hl,.int .i64 c.hh,v1,v2,v3],v,.agg [.int .i64 i,.int .i64 hour]] s=.val (.int .i64 (c.due ls[i] hour)) s:=by
 obtain ⟨n,rfl⟩:∃ n,N=n+1:=⟨N - 1,by omega⟩
 refine call_plain' Try.func55 (fun u uh un um=>?_) rfl
 have hff:far=1000000000:=rfl
 rw [← uh,← un] at hC hL
 obtain ⟨w,hw⟩:∃ w:St,w=(u.new (.cells [.int .i64 c.hl,.int .i64 c.hh,v1,v2,v3] (tag 31))).new (.cells [.int .i64 i,.int .i64 hour] (tag 62)):=⟨_,rfl⟩
 have wn:w.n=u.n+2:=by rw [hw];rfl
 have wm:w.m=far:=by rw [hw];exact um
 have wg:∀ c,c<u.n→w.h.get c=u.h.get c:=fun c hc=>by rw [hw,get_new_ne _ _ _ (by simp only [new_n];omega),get_new_ne _ _ _ (by omega)]
 have w0:w.h.get u.n=some (.cells [.int .i64 c.hl,.int .i64 c.hh,v1,v2,v3] (tag 31)):=by
  rw [hw,get_new_ne _ _ _ (by simp only [new_n];omega)];exact get_new_eq _ _ _ rfl (by omega)
 have w1:w.h.get (u.n+1)=some (.cells [.int .i64 i,.int .i64 hour] (tag 62)):=by
  rw [hw];exact get_new_eq _ _ _ rfl (by simp only [new_n];omega)
 have nn1:∀ o,(u.new o).n=u.n+1:=fun _=>rfl
 have hLw:=hL.grow wg (by omega:u.n≤w.n)
 have lenv:=hL.len
 have okv:=hL.ok
 obtain ⟨b,p,cs,sz,v4,q1,q2,q3,q4,q5,q6⟩:=hLw.cell hi
 have okl':=okl _ (List.getElem_mem hi)
 have b0:=okl'.b0
 generalize ls[i]=l at *
 have hun:w.n≤far:=by omega
 have hum:w.m≤far:=by omega
 have ex0:∀ (a b:AV) (s:St),extA 0 s (.tup [a,b])=.val a s:=fun _ _ _=>rfl
 have ex1:∀ (a b:AV) (s:St),extA 1 s (.tup [a,b])=.val b s:=fun _ _ _=>rfl
 have z0:decide ((0:Int)=0)=true:=rfl
 have hCw:=hC.grow wg (by omega:u.n≤w.n)
 obtain ⟨V,E,hV,hE⟩:∃ V E:Int,call Try.prog X n (.fn 12) [.agg [.int .i64 c.hl,.int .i64 c.hh,v1,v2,v3],.agg [.int .i64 l.born,.int .i64 l.keeps,v4],.int .i64 hour] w=.val (.tup [.int .i64 V,.int .i64 E]) w∧(if E=0 then (if decide (V=1)=true then 0 else 12) else E)=c.due l hour:=by
  unfold Cellar.due
  by_cases h:hour≤240
  ·refine ⟨_,_,Fresh_ok (N:=n) (s:=w) c ok l okl' (hour - l.born).toNat (by omega) hCw q5 q6 (by omega) h (by omega),?_⟩
   rw [if_pos h,if_pos rfl]
   split
   ·rename_i h1;rfl
   ·split<;>rfl
  ·refine ⟨_,_,Fresh_late (N:=n) (s:=w) c ok l okl' (by omega) hCw q5 q6 (by omega) (by omega),?_⟩
   rw [if_neg h];rfl
 rw [enter55]
 simp (disch:=first|omega|(with_unfolding_all exact rfl)|(simp only[new_n,put_n,new_m];omega)|(refine put_m_le ?_;simp only[new_m];omega)) only [res55,K55,K55r0,Abs.W,reduceIte,Nat.reduceEqDiff,Nat.reduceAdd,decide_true,decide_false,kLoop_def,Nat.reduceSub,nn1]
 rw [← hw]
 simp (disch:=first|omega|(with_unfolding_all exact rfl)|(simp only[new_n,put_n,new_m];omega)|(refine put_m_le ?_;simp only[new_m];omega)) only [K55r1,K55r2,K55r4,Abs.W,reduceIte,Nat.reduceEqDiff,Nat.reduceAdd,decide_true,decide_false,kLoop_def,Nat.reduceSub,Env.find_set,w0,w1,okv,lenv,z0,named_ok,q2,q3,q4,hV,ex0,ex1,endO_nil,regD_ok,Nat.zero_add]
 simp (disch:=first|omega|(with_unfolding_all exact rfl)|(simp only[new_n,put_n,new_m];omega)|(refine put_m_le ?_;simp only[new_m];omega)) only [K55r5,Abs.W,reduceIte,Nat.reduceEqDiff,Nat.reduceAdd,decide_true,decide_false,kLoop_def,Nat.reduceSub,Env.find_set,unless_b,or2_ok,hE,Nat.zero_add]
 exact ⟨_,rfl,by simp only [new_m];omega⟩
end Go.Proofs.Ytndbihaffijhbaa.walk
set_option maxRecDepth 10000
namespace Go.Proofs.Ytndbihaffijhbaa.walk
open Go.Abs Go.Proofs.Ytndbihaffijhbaa.code
theorem checkLots_ok (N:Nat) (hN:7≤N) (c:Cellar) (ok:c.Ok) (ls:List Lot) (okl:∀ l ∈ ls,l.Ok c.boxes.length) (hlen:ls.length≤20) (v1 v2 v3 v:AV) (s:St) (hC:CellarIn s.h s.n c v1 v2 v3) (hL:LotsAt s.h s.n ls v) (hs:s.n+10000≤far) :
  call Try.prog X N (.fn 53) [.agg [.int .i64 c.hl,.int .i64 c.hh,v1,v2,v3],v] s=.val (.int .i64 0) s:=by
 obtain ⟨n,rfl⟩:∃ n,N=n+1:=⟨N - 1,by omega⟩
 refine call_plain' Try.func53 (fun u uh un um=>?_) rfl
 have hff:far=1000000000:=rfl
 rw [← uh,← un] at hC hL
 have n1:=hC.at_.b.ne
 have l1:=hC.at_.b.len
 rw [List.length_map] at l1
 have lenv:=hL.len
 have okv:=hL.ok
 obtain ⟨w,hw⟩:∃ w:St,w=u.new (.cells [.int .i64 c.hl,.int .i64 c.hh,v1,v2,v3] (tag 31)):=⟨_,rfl⟩
 have wn:w.n=u.n+1:=by rw [hw];rfl
 have wm:w.m=far:=by rw [hw];exact um
 have wg:∀ c,c<u.n→w.h.get c=u.h.get c:=fun c hc=>by rw [hw,get_new_ne _ _ _ (by omega)]
 have w0:w.h.get u.n=some (.cells [.int .i64 c.hl,.int .i64 c.hh,v1,v2,v3] (tag 31)):=by rw [hw];exact get_new_eq _ _ _ rfl (by omega)
 have hCw:=hC.grow wg (by omega:u.n≤w.n)
 have hLw:=hL.grow wg (by omega:u.n≤w.n)
 have c1:=check_ok n (by omega) c ok v1 v2 v3 w hCw.at_ (by omega)
 have z0:decide ((0:Int)=0)=true:=rfl
 rw [enter53]
 simp (disch:=first|omega|(with_unfolding_all exact rfl)|(simp only[new_n,put_n,new_m];omega)|(refine put_m_le ?_;simp only[new_m];omega)) only [res53,K53,K53r0,Abs.W,reduceIte,Nat.reduceEqDiff,Nat.reduceAdd,decide_true,decide_false,kLoop_def,Nat.reduceSub]
 rw [← hw]
 simp (disch:=first|omega|(with_unfolding_all exact rfl)|(simp only[new_n,put_n,new_m];omega)|(refine put_m_le ?_;simp only[new_m];omega)) only [K53r1,K53r2,K53r4,Abs.W,reduceIte,Nat.reduceEqDiff,Nat.reduceAdd,decide_true,decide_false,kLoop_def,Nat.reduceSub,Env.find_set,w0,c1,okv,lenv,z0,counted_ok,or_new2,Nat.zero_add]
 generalize hl1:loopN _ rounds _ _ _ _ _=q1
 have hb:Beside w (w.new (.cells [.int .i64 0,.int .i64 0] 0)) 1:=(Beside.refl w (by omega) wm).new _
 obtain ⟨e,L1,s1,rfl,rfl,hE⟩:=loop_of hl1
  (fun i L' t=>L'.find 2=.ptr u.n 0∧L'.find 19=v∧L'.find 20=.int .i64 ls.length∧L'.find 21=.int .i64 i∧Beside w t (1+i))
  (fun e L1 s1=>e=.exit 0∧Beside w s1 (1+ls.length))
  ls.length (by unfold rounds;omega) ⟨by simp only [find_cons,Env.find_set,reduceIte,Nat.reduceEqDiff],by simp only [find_cons,Env.find_set,reduceIte,Nat.reduceEqDiff],by simp only [find_cons,Env.find_set,reduceIte,Nat.reduceEqDiff],by simp only [find_cons,Env.find_set,reduceIte,Nat.reduceEqDiff];rfl,hb⟩
  (fun i L' t hi ⟨q2,q19,q20,q21,hE⟩=>by
   have tn:=hE.n
   have tl:=hE.le
   have tm:=hE.m
   have tf:=hE.far
   by_cases hlt:i<ls.length
   ·have e0:decide ((i:Int)<(ls.length:Int))=true:=decide_eq_true (by omega)
    have hLt:=hLw.grow hE.same tn
    obtain ⟨b,p,cs,sz,v4,r1,r2,r3,r4,r5,r6⟩:=hLt.cell hlt
    have okl':=okl _ (List.getElem_mem hlt)
    have g2:=(hE.same u.n (by omega)).trans w0
    have sc4:scalars [v4]=true:=by rw [scal_cons _ _ r6];rfl
    have a1:∀ s,aAdd s .i64 (i:Int) 1=.val (.int .i64 ((i:Int)+1)) s:=fun s=>aAdd_i64 s _ _ (by omega)
    simp (disch:=first|omega|(with_unfolding_all exact rfl)|(simp only[new_n,put_n,new_m];omega)|(refine put_m_le ?_;simp only[new_m];omega)) only [K53l0,K53r5,K53r6,Abs.W,reduceIte,Nat.reduceEqDiff,Nat.reduceAdd,decide_true,decide_false,kLoop_def,Nat.reduceSub,Env.find_set,q2,q19,q20,q21,e0,r2,r3,r4,sc4,Nat.zero_add]
    generalize hu1:St.put (St.new t _) t.n _=u1
    have u1n:u1.n=t.n+1:=by rw [← hu1];rfl
    have u1g:∀ c,c<t.n→u1.h.get c=t.h.get c:=fun c hc=>by rw [← hu1,get_put_ne' _ _ _ _ (by omega),get_new_ne _ _ _ (by omega)]
    have u1x:u1.h.get t.n=some (.cells [.int .i64 ls[i].born,.int .i64 ls[i].keeps,v4] (tag 35)):=by rw [← hu1];exact get_put_eq _ _ _ _ rfl (by omega)
    have hE1:Beside w u1 (1+i+1):=by rw [← hu1];exact (hE.new _).put _ (by omega)
    clear hu1
    have g21:=(u1g u.n (by omega)).trans g2
    have E1:=lot_ok n (by omega) ls[i] c.hl c.hh c.boxes.length okl' v1 v2 v3 v4 n1 l1 u1 (r5.grow u1g (by omega)) (by omega)
    refine .inl ⟨hlt,_,u1,by
     simp (disch:=first|omega|(with_unfolding_all exact rfl)|(simp only[new_n,put_n,new_m];omega)|(refine put_m_le ?_;simp only[new_m];omega)) only [K53r7,K53r8,K53r10,Abs.W,reduceIte,Nat.reduceEqDiff,Nat.reduceAdd,decide_true,decide_false,kLoop_def,Nat.reduceSub,Env.find_set,q2,q21,g21,u1x,E1,z0,a1,Nat.zero_add]
     rfl,?_,?_,?_,?_,hE1.mono (by omega)⟩
    ·simp only [Env.find_set,q2,reduceIte,Nat.reduceEqDiff]
    ·simp only [Env.find_set,q19,reduceIte,Nat.reduceEqDiff]
    ·simp only [Env.find_set,q20,reduceIte,Nat.reduceEqDiff]
    ·simp only [Env.find_set,reduceIte,Nat.reduceEqDiff];rfl
   ·obtain rfl:i=ls.length:=by omega
    have e0:decide ((ls.length:Int)<(ls.length:Int))=false:=by simp
    refine .inr ⟨.exit 0,L'.set 22 (.bool false),t,by simp,?_,rfl,hE⟩
    simp (disch:=first|omega|(with_unfolding_all exact rfl)|(simp only[new_n,put_n,new_m];omega)|(refine put_m_le ?_;simp only[new_m];omega)) only [K53l0,K53r5,Abs.W,reduceIte,Nat.reduceEqDiff,Nat.reduceAdd,decide_true,decide_false,kLoop_def,Nat.reduceSub,Env.find_set,q20,q21,e0])
 simp (disch:=first|omega|(with_unfolding_all exact rfl)|(simp only[new_n,put_n,new_m];omega)|(refine put_m_le ?_;simp only[new_m];omega)) only [K53r11,res53,Abs.W,reduceIte,Nat.reduceEqDiff,Nat.reduceAdd,decide_true,decide_false,kLoop_def,Nat.reduceSub,Env.find_set]
 refine ⟨s1,rfl,?_⟩
 have:=hE.m
 omega
def es3 (a b c:Int):Nat→List AV
 | 0=>[.int .i64 0,.int .i64 0,.int .i64 0]
 | 1=>[.int .i64 a,.int .i64 0,.int .i64 0]
 | 2=>[.int .i64 a,.int .i64 b,.int .i64 0]
 | _=>[.int .i64 a,.int .i64 b,.int .i64 c]
theorem Sell_ex {N:Nat} {s:St} {r:ARes} {v1 v2 v3 v vs:AV} (c:Cellar) (ok:c.Ok) (ls:List Lot) (okl:∀ l ∈ ls,l.Ok c.boxes.length) (hr:call Try.prog X N (.fn 25) [.agg [.int .i64 c.hl,.int .i64 c.hh,v1,v2,v3],v,vs] s=r) (hN:13≤N) (hC:CellarIn s.h s.n c v1 v2 v3) (hL:LotsAt s.h s.n ls v) (i:Nat) (hi:i<ls.length) (hi9:ls.length≤20) (h0 h1 h2:Int) (hb0:ls[i].born≤h0) (hb1:ls[i].born≤h1) (hb2:ls[i].born≤h2) (hs:s.n+600000≤far)
  (hS:RowsAt s.h s.n 2 [[.int .i64 i,.int .i64 h0],[.int .i64 i,.int .i64 h1],[.int .i64 i,.int .i64 h2]] vs) :
  ∃ (b z:Nat) (t:St),r=.val (.tup [.slice b 0 3 3 false,.int .i64 0]) t∧New s t 20∧s.n≤b∧b<t.n∧t.h.get b=some (.cells [.int .i64 (c.due ls[i] h0),.int .i64 (c.due ls[i] h1),.int .i64 (c.due ls[i] h2)] z):=by
 obtain ⟨n,rfl⟩:∃ n,N=n+1:=⟨N - 1,by omega⟩
 have hff:far=1000000000:=rfl
 obtain ⟨v',t,e,st,b,z,rfl,q1,q2,q3⟩:=call_new (n:=n) (args:=[.agg [.int .i64 c.hl,.int .i64 c.hh,v1,v2,v3],v,vs]) (s:=s) (k:=20)
  (Q:=fun v h m=>∃ (b z:Nat),v=.tup [.slice b 0 3 3 false,.int .i64 0]∧s.n≤b∧b<m∧h.get b=some (.cells [.int .i64 (c.due ls[i] h0),.int .i64 (c.due ls[i] h1),.int .i64 (c.due ls[i] h2)] z)) Try.func25 rfl (fun u uh un um=>by
  rw [← uh,← un] at hC hL hS
  rw [← un] at hs
  rw [← un]
  have okv:=hL.ok
  have oks:∀ t,okA (.val vs t)=.val vs t:=fun t=>okA_ne hS.ne
  have lens:=hS.len
  have l3:([[.int .i64 i,.int .i64 h0],[.int .i64 i,.int .i64 h1],[.int .i64 i,.int .i64 h2]]:List (List AV)).length=3:=rfl
  rw [l3] at lens
  obtain ⟨w,hw⟩:∃ w:St,w=u.new (.cells [.int .i64 c.hl,.int .i64 c.hh,v1,v2,v3] (tag 31)):=⟨_,rfl⟩
  have wn:w.n=u.n+1:=by rw [hw];rfl
  have wm:w.m=far:=by rw [hw];exact um
  have wg:∀ c,c<u.n→w.h.get c=u.h.get c:=fun c hc=>by rw [hw,get_new_ne _ _ _ (by omega)]
  have w0:w.h.get u.n=some (.cells [.int .i64 c.hl,.int .i64 c.hh,v1,v2,v3] (tag 31)):=by rw [hw];exact get_new_eq _ _ _ rfl (by omega)
  have hCw:=hC.grow wg (by omega:u.n≤w.n)
  have hLw:=hL.grow wg (by omega:u.n≤w.n)
  have hSw:=hS.grow wg (by omega:u.n≤w.n)
  have c1:=checkLots_ok n (by omega) c ok ls okl hi9 v1 v2 v3 v w hCw hLw (by omega)
  have z0:decide ((0:Int)=0)=true:=rfl
  have mk:∀ s:St,makeA [.int .i64 0] 8 s (.int .i64 ((3:Nat):Int)) (.int .i64 ((3:Nat):Int))=.val (.slice s.n 0 3 3 false) (s.new (.cells [.int .i64 0,.int .i64 0,.int .i64 0] 0)):=fun s=>rfl
  rw [enter25]
  simp (disch:=first|omega|(with_unfolding_all exact rfl)|(simp only[new_n,put_n,new_m];omega)|(refine put_m_le ?_;simp only[new_m];omega)) only [res25,K25,K25r0,Abs.W,reduceIte,Nat.reduceEqDiff,Nat.reduceAdd,decide_true,decide_false,kLoop_def,Nat.reduceSub]
  rw [← hw]
  simp (disch:=first|omega|(with_unfolding_all exact rfl)|(simp only[new_n,put_n,new_m];omega)|(refine put_m_le ?_;simp only[new_m];omega)) only [K25r1,K25r2,K25r4,K25r5,Abs.W,reduceIte,Nat.reduceEqDiff,Nat.reduceAdd,decide_true,decide_false,kLoop_def,Nat.reduceSub,Env.find_set,w0,c1,okv,oks,lens,z0,counted_ok,or_new2,kMake,mk,Nat.zero_add]
  generalize hl1:loopN _ rounds _ _ _ _ _=q1
  have hb:Beside w ((w.new (.cells [.int .i64 0,.int .i64 0] 0)).new (.cells [.int .i64 0,.int .i64 0,.int .i64 0] 0)) 2:=((Beside.refl w (by omega) wm).new _).new _
  have hp:((w.new (.cells [.int .i64 0,.int .i64 0] 0)).new (.cells [.int .i64 0,.int .i64 0,.int .i64 0] 0)).h.get (w.n+1)=some (.cells [.int .i64 0,.int .i64 0,.int .i64 0] 0):=get_new_eq _ _ _ rfl (by simp only [new_n];omega)
  obtain ⟨e,L1,s1,rfl,rfl,hE,f9,g9⟩:=loop_of hl1
   (fun j L' t=>L'.find 1=v∧L'.find 3=.ptr u.n 0∧L'.find 9=.slice (w.n+1) 0 3 3 false∧L'.find 26=vs∧L'.find 27=.int .i64 ((3:Nat):Int)∧L'.find 28=.int .i64 j∧t.h.get (w.n+1)=some (.cells (es3 (c.due ls[i] h0) (c.due ls[i] h1) (c.due ls[i] h2) j) 0)∧Beside w t (2+j)∧w.n+2≤t.n)
   (fun e L1 s1=>e=.exit 0∧Beside w s1 5∧L1.find 9=.slice (w.n+1) 0 3 3 false∧s1.h.get (w.n+1)=some (.cells [.int .i64 (c.due ls[i] h0),.int .i64 (c.due ls[i] h1),.int .i64 (c.due ls[i] h2)] 0)∧w.n+2≤s1.n)
   3 (by unfold rounds;omega) ⟨by simp only [find_cons,Env.find_set,reduceIte,Nat.reduceEqDiff],by simp only [find_cons,Env.find_set,reduceIte,Nat.reduceEqDiff],by simp only [find_cons,Env.find_set,reduceIte,Nat.reduceEqDiff];rfl,by simp only [find_cons,Env.find_set,reduceIte,Nat.reduceEqDiff],by simp only [find_cons,Env.find_set,reduceIte,Nat.reduceEqDiff],by simp only [find_cons,Env.find_set,reduceIte,Nat.reduceEqDiff];rfl,hp,hb,by simp only [new_n];omega⟩
   (fun j L' t hj ⟨k1,k3,k9,k26,k27,k28,kg,hE,hn2⟩=>by
    have tn:=hE.n
    have tl:=hE.le
    have tm:=hE.m
    have tf:=hE.far
    by_cases hlt:j<3
    ·have e0:decide ((j:Int)<((3:Nat):Int))=true:=decide_eq_true (by omega)
     have hSt:=hSw.grow hE.same tn
     obtain ⟨b,p,cs,sz,r1,r2,r3,r4⟩:=hSt.at_ j (by rw [l3];exact hlt)
     obtain ⟨hj',hh1,hh2⟩:∃ h:Int,([[.int .i64 i,.int .i64 h0],[.int .i64 i,.int .i64 h1],[.int .i64 i,.int .i64 h2]]:List (List AV))[j]'(by rw [l3];exact hlt)=[.int .i64 i,.int .i64 h]∧ls[i].born≤h∧over j [.int .i64 (c.due ls[i] h)] (es3 (c.due ls[i] h0) (c.due ls[i] h1) (c.due ls[i] h2) j)=some (es3 (c.due ls[i] h0) (c.due ls[i] h1) (c.due ls[i] h2) (j+1)):=by
      have:j=0∨j=1∨j=2:=by omega
      rcases this with rfl | rfl | rfl
      ·exact ⟨h0,rfl,hb0,rfl⟩
      ·exact ⟨h1,rfl,hb1,rfl⟩
      ·exact ⟨h2,rfl,hb2,rfl⟩
     rw [hh1] at r4
     obtain ⟨hh2,hh3⟩:=hh2
     have g3:=(hE.same u.n (by omega)).trans w0
     have a1:∀ s,aAdd s .i64 (j:Int) 1=.val (.int .i64 ((j:Int)+1)) s:=fun s=>aAdd_i64 s _ _ (by omega)
     simp (disch:=first|omega|(with_unfolding_all exact rfl)|(simp only[new_n,put_n,new_m];omega)|(refine put_m_le ?_;simp only[new_m];omega)) only [K25l0,K25r6,K25r7,Abs.W,reduceIte,Nat.reduceEqDiff,Nat.reduceAdd,decide_true,decide_false,kLoop_def,Nat.reduceSub,Env.find_set,k1,k3,k9,k26,k27,k28,e0,r2,r3,r4,Nat.zero_add]
     generalize hu1:St.put (St.new t _) t.n _=u1
     have u1n:u1.n=t.n+1:=by rw [← hu1];rfl
     have u1g:∀ c,c<t.n→u1.h.get c=t.h.get c:=fun c hc=>by rw [← hu1,get_put_ne' _ _ _ _ (by omega),get_new_ne _ _ _ (by omega)]
     have u1x:u1.h.get t.n=some (.cells [.int .i64 i,.int .i64 hj'] (tag 62)):=by rw [← hu1];exact get_put_eq _ _ _ _ rfl (by omega)
     have hE1:Beside w u1 (2+j+1):=by rw [← hu1];exact (hE.new _).put _ (by omega)
     clear hu1
     have g31:=(u1g u.n (by omega)).trans g3
     have kg1:=(u1g (w.n+1) (by omega)).trans kg
     have E1:=sell_ok (N:=n) (s:=u1) c ok ls okl (by omega) ((hCw.grow hE.same tn).grow u1g (by omega)) ((hLw.grow hE.same tn).grow u1g (by omega)) i hi hi9 hj' hh2 (by omega)
     have ix:∀ s,ixsA 1 s (.slice (w.n+1) 0 3 3 false) (.int .i64 (j:Int))=.val (.ptr (w.n+1) j) s:=fun s=>by
      have:=ixs_slice 1 s (w.n+1) 0 3 3 false j hlt
      rwa [Nat.zero_add,Nat.mul_one] at this
     refine .inl ⟨hlt,_,u1.put (w.n+1) (.cells (es3 (c.due ls[i] h0) (c.due ls[i] h1) (c.due ls[i] h2) (j+1)) 0),by
      simp (disch:=first|omega|(with_unfolding_all exact rfl)|(simp only[new_n,put_n,new_m];omega)|(refine put_m_le ?_;simp only[new_m];omega)) only [K25r8,K25r9,Abs.W,reduceIte,Nat.reduceEqDiff,Nat.reduceAdd,decide_true,decide_false,kLoop_def,Nat.reduceSub,Env.find_set,k1,k3,k9,k28,g31,u1x,E1,ix,kg1,hh3,okv,a1,Nat.zero_add]
      rfl,?_,?_,?_,?_,?_,?_,get_put_eq _ _ _ _ rfl (by omega),(hE1.put _ (by omega)).mono (by omega),by simp only [put_n];omega⟩
     ·simp only [Env.find_set,k1,reduceIte,Nat.reduceEqDiff]
     ·simp only [Env.find_set,k3,reduceIte,Nat.reduceEqDiff]
     ·simp only [Env.find_set,k9,reduceIte,Nat.reduceEqDiff]
     ·simp only [Env.find_set,k26,reduceIte,Nat.reduceEqDiff]
     ·simp only [Env.find_set,k27,reduceIte,Nat.reduceEqDiff]
     ·simp only [Env.find_set,reduceIte,Nat.reduceEqDiff];rfl
    ·obtain rfl:j=3:=by omega
     have e0:decide (((3:Nat):Int)<((3:Nat):Int))=false:=by simp
     refine .inr ⟨.exit 0,L'.set 29 (.bool false),t,by simp,?_,rfl,hE,?_,kg,hn2⟩
     ·simp (disch:=first|omega|(with_unfolding_all exact rfl)|(simp only[new_n,put_n,new_m];omega)|(refine put_m_le ?_;simp only[new_m];omega)) only [K25l0,K25r6,Abs.W,reduceIte,Nat.reduceEqDiff,Nat.reduceAdd,decide_true,decide_false,kLoop_def,Nat.reduceSub,Env.find_set,k27,k28,e0]
     ·simp only [Env.find_set,k9,reduceIte,Nat.reduceEqDiff])
  obtain ⟨g9,g10⟩:=g9
  simp (disch:=first|omega|(with_unfolding_all exact rfl)|(simp only[new_n,put_n,new_m];omega)|(refine put_m_le ?_;simp only[new_m];omega)) only [K25r10,res25,Abs.W,reduceIte,Nat.reduceEqDiff,Nat.reduceAdd,decide_true,decide_false,kLoop_def,Nat.reduceSub,Env.find_set,f9,leave_tmp_tmp]
  have hEn:=hE.n
  have hEl:=hE.le
  refine ⟨.tup [.slice (w.n+1) 0 3 3 false,.int .i64 0],s1,by simp only [Env.find_set,reduceIte,Nat.reduceEqDiff],⟨fun b hb=>(hE.same b (by omega)).trans (wg b hb),by omega,by omega,by have:=hE.m;omega,hE.far⟩,rfl,w.n+1,0,rfl,by omega,by omega,g9⟩)
 exact ⟨b,z,t,hr.symm.trans e,st,q1,q2,q3⟩
end Go.Proofs.Ytndbihaffijhbaa.walk
set_option maxRecDepth 10000
namespace Go.Proofs.Ytndbihaffijhbaa.walk
open Go.Abs Go.Proofs.Ytndbihaffijhbaa.code
theorem LotsNew.cell {h:Heap} {lo n:Nat} {ls:List Lot} {v:AV} (r:LotsNew h lo n ls v) {i:Nat} (hi:i<ls.length):∃ b p cs sz v4,lo≤b∧b<n∧(∀ s,ixsA 3 s v (.int .i64 i)=.val (.ptr b p) s)∧h.get b=some (.cells cs sz)∧cut p 3 cs=some [.int .i64 ls[i].born,.int .i64 ls[i].keeps,v4]∧Abs.Rows h lo n 3 (tag 80) (ls[i].stays.map Stay.cells) v4:=by
 obtain ⟨vs,h1,h2,h3⟩:=r
 have hl:=lotRows_len h1
 rcases h2.is with ⟨z,_⟩ | ⟨b,b1,b2,b3,b4⟩
 ·rw [z] at hl;simp at hl;omega
 ·subst b3
  have q4:cut (i * 3) 3 (lotRows ls vs).flatten=some _:=flatten_cut h2.wide (by omega:i<(lotRows ls vs).length)
  rw [lotRows_at hi (by omega)] at q4
  exact ⟨b,i * 3,_,_,_,b1,b2,fun s=>by rw [ixs_slice _ _ _ _ _ _ _ _ (by omega:i<(lotRows ls vs).length),Nat.zero_add],b4,q4,h3 i (by omega) hi⟩
theorem lost_0 (c:Cellar) (l:Lot):(c.lost l 0).2=0:=rfl
theorem Cellar.due_last (c:Cellar) (ok:c.Ok) (l:Lot) {k:Nat} (okl:l.Ok k):c.due l (l.born+(c.last l:Int))=0∧c.due l (l.born+(c.last l:Int)+1)≠0∧∀ m:Nat,l.born+m≤240→decide (c.due l (l.born+m)=0)=decide (l.born+(m:Int)≤l.born+(c.last l:Int)):=by
 obtain ⟨h1,h2,h3⟩:=c.last_spec l
 have b0:=okl.b0
 have b1:=okl.b1
 have k0:=okl.k0
 have top:(c.lost l (c.last l)).2≤l.keeps:=by
  rcases h2 with h2 | h2
  ·rw [h2,lost_0];exact k0
  ·exact h2
 have at_:∀ m:Nat,l.born+m≤240→c.due l (l.born+m)=if (c.lost l m).2≤l.keeps then 0 else 12:=fun m hm=>by
  unfold Cellar.due
  rw [if_pos hm,show (l.born+(m:Int) - l.born).toNat=m by omega]
 refine ⟨by rw [at_ _ (by omega),if_pos top],?_,fun m hm=>?_⟩
 ·by_cases e:l.born+(c.last l:Int)+1≤240
  ·have:=at_ (c.last l+1) (by omega)
   rw [show l.born+((c.last l+1:Nat):Int)=l.born+(c.last l:Int)+1 by omega] at this
   rw [this]
   rcases h3 with h3 | h3
   ·omega
   ·rw [if_neg (by omega)];decide
  ·unfold Cellar.due
   rw [if_neg e];decide
 ·rw [at_ m hm]
  by_cases e:m≤c.last l
  ·obtain ⟨j,hj⟩:∃ j,c.last l=m+j:=⟨c.last l - m,by omega⟩
   have:=(c.lost_up ok l m j).2
   rw [← hj] at this
   rw [if_pos (by omega)]
   exact decide_eq_decide.mpr ⟨fun _=>by omega,fun _=>by omega⟩
  ·obtain ⟨j,hj⟩:∃ j,m=c.last l+1+j:=⟨m - (c.last l+1),by omega⟩
   have:=(c.lost_up ok l (c.last l+1) j).2
   rw [← hj] at this
   rcases h3 with h3 | h3
   ·omega
   ·rw [if_neg (by omega)]
    exact decide_eq_decide.mpr ⟨fun h=>by omega,fun h=>by omega⟩
noncomputable def timeTail:K:=kSeq (kRegionD K5r15 [126]) (kCond (.tmp 126) (kSeq (kRegion K5r16 [2]) kRet) kSkip)
noncomputable def timeMid:K:=kSeq (kRegion K5r10 [10]) (kSeq (kRegion K5r11 [11]) (kSeq (kRegion K5r12 [12,13]) (kSeq (kSeq (kRegion K5r13 [99]) (kCond (.tmp 99) (kSeq (kRegion K5r14 [2]) kRet) kSkip)) timeTail)))
noncomputable def timeBody:K:=kSeq (kRegion K5r6 [7]) (kSeq (kRegion K5r7 [8,9]) (kSeq (kSeq (kRegion K5r8 [48]) (kCond (.tmp 48) (kSeq (kRegion K5r9 [2]) kRet) kSkip)) timeMid))
theorem time_first (n:Nat) (hn:14≤n) (cx:Ctx) (L:Env) (s:St) (c:Cellar) (ok:c.Ok) (ls:List Lot) (okl:∀ l ∈ ls,l.Ok c.boxes.length∧l.born≤9) (hll:ls.length≤9) (v1 v2 v3 v:AV) (d lo n0 n1 p4 i:Nat) (hi:i<ls.length) (hs:s.n+900000≤far) (hd:Die d s.h) (hdl:d<lo) (hln:lo≤n0) (hn0:n0≤s.n) (hn1:n1≤s.n) (hp4:p4<s.n) (hd4:p4≠d)
  (hC:CellarNew s.h lo n0 c v1 v2 v3) (hL:LotsNew s.h lo n1 ls v) (g4:s.h.get p4=some (.cells [.int .i64 c.hl,.int .i64 c.hh,v1,v2,v3] (tag 31))) (l3:L.find 3=.ptr d 0) (l4:L.find 4=.ptr p4 0) (l5:L.find 5=v) (l6:L.find 6=.int .i64 i) :
  ∃ (L2:Env) (s2:St) (k m:Nat) (v4:AV) (p7 b z:Nat) (e0 e1 e2:Int),timeBody (knows 19 (call Try.prog X n)) cx L [] s=timeTail (knows 19 (call Try.prog X n)) cx L2 [] s2∧(∀ t,t=3∨t=4∨t=5∨t=6→L2.find t=L.find t)∧L2.find 7=.ptr p7 0∧L2.find 10=.int .i64 k∧L2.find 12=.slice b 0 3 3 false∧s.n≤p7∧p7<s2.n∧s.n≤b∧b<s2.n ∧
   s2.h.get p7=some (.cells [.int .i64 ls[i].born,.int .i64 ls[i].keeps,v4] (tag 35))∧Abs.Rows s2.h lo n1 3 (tag 80) (ls[i].stays.map Stay.cells) v4∧s2.h.get b=some (.cells [.int .i64 e0,.int .i64 e1,.int .i64 e2] z)∧k≤50∧(k:Int)=ls[i].born+m∧(e0=0→(c.lost ls[i] m).2≤ls[i].keeps)∧Die d s2.h∧(∀ c,c<s.n→c≠d→s2.h.get c=s.h.get c)∧s.n≤s2.n∧s2.n≤s.n+100:=by
 have hff:far=1000000000:=rfl
 have knL:∀ args s,knows 19 (call Try.prog X n) (.fn 24) args s=call Try.prog X n (.fn 24) args s:=fun _ _=>rfl
 have knH:∀ args s,knows 19 (call Try.prog X n) (.fn 9) args s=call Try.prog X n (.fn 9) args s:=fun _ _=>rfl
 have knS:∀ args s,knows 19 (call Try.prog X n) (.fn 25) args s=call Try.prog X n (.fn 25) args s:=fun _ _=>rfl
 have ex0:∀ (a b:AV) (s:St),extA 0 s (.tup [a,b])=.val a s:=fun _ _ _=>rfl
 have ex1:∀ (a b:AV) (s:St),extA 1 s (.tup [a,b])=.val b s:=fun _ _ _=>rfl
 obtain ⟨pb,pp,cs,sz,v4,r0,r1,r2,r3,r4,r5⟩:=hL.cell hi
 obtain ⟨okl1,b9⟩:=okl _ (List.getElem_mem hi)
 have okv:∀ t,okA (.val v t)=.val v t:=hL.at_.ok
 have oks:∀ l ∈ ls,l.Ok c.boxes.length:=fun l hl=>(okl l hl).1
 obtain ⟨D1,D2,D3⟩:=c.due_last ok ls[i] okl1
 have ll:=(c.last_spec ls[i]).1
 obtain ⟨l,hl⟩:∃ l,l=ls[i]:=⟨_,rfl⟩
 rw [← hl] at r4 r5 okl1 b9 D1 D2 D3 ll
 have b0:=okl1.b0
 have s4:=rows_scal r5
 have sc4:scalars [v4]=true:=by rw [scal_cons _ _ s4];rfl
 unfold timeBody
 simp (disch:=first|omega|(with_unfolding_all exact rfl)|(simp only[new_n,put_n,new_m];omega)|(refine put_m_le ?_;simp only[new_m];omega)) only [K5r6,Abs.W,reduceIte,Nat.reduceEqDiff,Nat.reduceAdd,decide_true,decide_false,kLoop_def,Nat.reduceSub,Env.find_set,l5,l6,okv,r2,r3,r4,sc4,Nat.zero_add]
 generalize hu1:St.put (St.new s _) s.n _=u1
 have u1n:u1.n=s.n+1:=by rw [← hu1];rfl
 have u1g:∀ c,c<s.n→u1.h.get c=s.h.get c:=fun c hc=>by rw [← hu1,get_put_ne' _ _ _ _ (by omega),get_new_ne _ _ _ (by omega)]
 have u1x:u1.h.get s.n=some (.cells [.int .i64 l.born,.int .i64 l.keeps,v4] (tag 35)):=by rw [← hu1];exact get_put_eq _ _ _ _ rfl (by omega)
 clear hu1
 have g41:=(u1g p4 hp4).trans g4
 have hC1:CellarIn u1.h u1.n c v1 v2 v3:=(hC.mono (n':=u1.n) (fun b hb hbn=>u1g b (by omega)) (by omega)).in_
 have hR1:RowsAt u1.h u1.n 3 (l.stays.map Stay.cells) v4:=(r5.mono (n':=u1.n) (fun b hb hbn=>u1g b (by omega)) (by omega)).at_
 have d1:Die d u1.h:=by obtain ⟨f,hf⟩:=hd;exact ⟨f,by rw [u1g _ (by omega)];exact hf⟩
 have E1:=Last_ok (N:=n) (s:=u1) c ok l okl1 (by omega) hC1 hR1 s4 (by omega)
 obtain ⟨la,hla⟩:∃ la:Int,la=l.born+(c.last l:Int):=⟨_,rfl⟩
 rw [← hla] at E1 D1 D2 D3
 have f0:decide ((0:Int)=0)=true:=rfl
 have f1:decide (la<l.born)=false:=decide_eq_false (by omega)
 have f2:decide (240<la)=false:=decide_eq_false (by omega)
 simp (disch:=first|omega|(with_unfolding_all exact rfl)|(simp only[new_n,put_n,new_m];omega)|(refine put_m_le ?_;simp only[new_m];omega)) only [K5r7,K5r8,K5r8s4,K5r8s5,K5r8s6,K5r8s7,K5r8s10,K5r8s11,Abs.W,reduceIte,Nat.reduceEqDiff,Nat.reduceAdd,decide_true,decide_false,kLoop_def,Nat.reduceSub,Env.find_set,l3,l4,l5,l6,g41,u1x,knL,E1,ex0,ex1,f0,f1,f2,Nat.zero_add]
 unfold timeMid
 simp (disch:=first|omega|(with_unfolding_all exact rfl)|(simp only[new_n,put_n,new_m];omega)|(refine put_m_le ?_;simp only[new_m];omega)) only [K5r10,Abs.W,reduceIte,Nat.reduceEqDiff,Nat.reduceAdd,decide_true,decide_false,kLoop_def,Nat.reduceSub,Env.find_set,l3,l4,l5,l6,u1x,knH,Nat.zero_add]
 generalize hc3:call _ _ _ (.fn 9) _ _=q3
 obtain ⟨hour,t3,rfl,st3,d3,h0,h1⟩:=HourOf_ex hc3 (by omega) d1 (by omega) (by omega) ⟨b0,by omega⟩
 have n3:u1.n≤t3.n:=st3.n
 have k3:t3.n≤u1.n+10:=st3.le
 obtain ⟨k,hk⟩:∃ k:Nat,min 50 hour=k:=⟨(min 50 hour).toNat,by omega⟩
 obtain ⟨m,hm⟩:∃ m:Nat,(k:Int)=l.born+m:=⟨((k:Int) - l.born).toNat,by omega⟩
 have a1:∀ s,aAdd s .i64 la 1=.val (.int .i64 (la+1)) s:=fun s=>aAdd_i64 s _ _ (by omega)
 simp (disch:=first|omega|(with_unfolding_all exact rfl)|(simp only[new_n,put_n,new_m];omega)|(refine put_m_le ?_;simp only[new_m];omega)) only [K5r11,Abs.W,reduceIte,Nat.reduceEqDiff,Nat.reduceAdd,decide_true,decide_false,kLoop_def,Nat.reduceSub,Env.find_set,l3,l4,l5,l6,kFold_def,foldA_nil,foldA_cons,minA_i64,hk,a1,Nat.zero_add]
 generalize hu4:St.new t3 _=t4
 have t4n:t4.n=t3.n+1:=by rw [← hu4];rfl
 have t4g:∀ c,c<t3.n→t4.h.get c=t3.h.get c:=fun c hc=>by rw [← hu4,get_new_ne _ _ _ (by omega)]
 have t4x:t4.h.get t3.n=some (.cells [.int .i64 i,.int .i64 k,.int .i64 i,.int .i64 la,.int .i64 i,.int .i64 (la+1)] 0):=by rw [← hu4];exact get_new_eq _ _ _ rfl (by omega)
 clear hu4
 have hS:RowsAt t4.h t4.n 2 [[.int .i64 i,.int .i64 k],[.int .i64 i,.int .i64 la],[.int .i64 i,.int .i64 (la+1)]] (.slice t3.n 0 3 3 false):=⟨fun s=>rfl,fun j hj=>by
  have hj3:j<3:=hj
  refine ⟨t3.n,j * 2,_,_,by omega,fun s=>by rw [ixs_slice _ _ _ _ _ _ _ _ hj3,Nat.zero_add],t4x,?_⟩
  have:j=0∨j=1∨j=2:=by omega
  rcases this with rfl | rfl | rfl<;>rfl⟩
 have fr:∀ c,c<s.n→c≠d→t4.h.get c=s.h.get c:=fun c hc hcd=>by rw [t4g c (by omega),st3.same c (by omega) hcd,u1g c hc]
 have g44:=(fr p4 hp4 hd4).trans g4
 have hC4:CellarIn t4.h t4.n c v1 v2 v3:=(hC.mono (n':=t4.n) (fun b hb hbn=>fr b (by omega) (by omega)) (by omega)).in_
 have hL4:LotsAt t4.h t4.n ls v:=(hL.mono (n':=t4.n) (fun b hb hbn=>fr b (by omega) (by omega)) (by omega)).at_
 simp (disch:=first|omega|(with_unfolding_all exact rfl)|(simp only[new_n,put_n,new_m];omega)|(refine put_m_le ?_;simp only[new_m];omega)) only [K5r12,Abs.W,reduceIte,Nat.reduceEqDiff,Nat.reduceAdd,decide_true,decide_false,kLoop_def,Nat.reduceSub,Env.find_set,l3,l4,l5,l6,okv,g44,knS,Nat.zero_add]
 generalize hc5:call _ _ _ (.fn 25) _ _=q5
 obtain ⟨b,z,t5,rfl,st5,bn,bt,gb⟩:=Sell_ex c ok ls oks hc5 (by omega) hC4 hL4 i hi (by omega) k la (la+1) (by rw [← hl];omega) (by rw [← hl];omega) (by rw [← hl];omega) (by omega) hS
 have n5:=st5.n
 have k5:=st5.le
 rw [← hl,D1] at gb
 have D3':=D3 m (by omega)
 rw [← hm] at D3'
 have D4:decide (c.due l (la+1)=0)=false:=decide_eq_false D2
 have lenS:∀ s,lenSlA s (.slice b 0 3 3 false)=.val (.int .i64 ((3:Nat):Int)) s:=fun s=>rfl
 have x0:∀ s,ixsA 1 s (.slice b 0 3 3 false) (.int .i64 0)=.val (.ptr b 0) s:=fun s=>ixs_slice 1 s b 0 3 3 false 0 (by omega)
 have x1:∀ s,ixsA 1 s (.slice b 0 3 3 false) (.int .i64 1)=.val (.ptr b 1) s:=fun s=>ixs_slice 1 s b 0 3 3 false 1 (by omega)
 have x2:∀ s,ixsA 1 s (.slice b 0 3 3 false) (.int .i64 2)=.val (.ptr b 2) s:=fun s=>ixs_slice 1 s b 0 3 3 false 2 (by omega)
 have y3:decide (((3:Nat):Int)=3)=true:=rfl
 have due0:c.due l k=0→(c.lost l m).2≤l.keeps:=fun h=>by
  have hm':(k:Int) - l.born=m:=by omega
  unfold Cellar.due at h
  rw [if_pos (by omega),hm',Int.toNat_natCast] at h
  by_cases e:(c.lost l m).2≤l.keeps
  ·exact e
  ·rw [if_neg e] at h;cases h
 generalize c.due l k=E0 at gb D3' due0
 generalize c.due l (la+1)=E2 at gb D4
 have eqb:∀ s q,eqlA .bool true s (.bool q) (.bool q)=.val (.bool false) s:=fun s q=>by cases q<;>rfl
 have q13_0:=fun cl L s=>congrFun (congrFun (congrFun K5r13.eq_1 cl) L) s
 have q13_4:=fun cl L s=>congrFun (congrFun (congrFun K5r13s4.eq_1 cl) L) s
 have q13_5:=fun cl L s=>congrFun (congrFun (congrFun K5r13s5.eq_1 cl) L) s
 have q13_6:=fun cl L s=>congrFun (congrFun (congrFun K5r13s6.eq_1 cl) L) s
 have q13_9:=fun cl L s=>congrFun (congrFun (congrFun K5r13s9.eq_1 cl) L) s
 have q13_10:=fun cl L s=>congrFun (congrFun (congrFun K5r13s10.eq_1 cl) L) s
 have q13_11:=fun cl L s=>congrFun (congrFun (congrFun K5r13s11.eq_1 cl) L) s
 have q13_12:=fun cl L s=>congrFun (congrFun (congrFun K5r13s12.eq_1 cl) L) s
 have q13_15:=fun cl L s=>congrFun (congrFun (congrFun K5r13s15.eq_1 cl) L) s
 have q13_16:=fun cl L s=>congrFun (congrFun (congrFun K5r13s16.eq_1 cl) L) s
 have q13_17:=fun cl L s=>congrFun (congrFun (congrFun K5r13s17.eq_1 cl) L) s
 have q13_18:=fun cl L s=>congrFun (congrFun (congrFun K5r13s18.eq_1 cl) L) s
 have q13_19:=fun cl L s=>congrFun (congrFun (congrFun K5r13s19.eq_1 cl) L) s
 have q13_20:=fun cl L s=>congrFun (congrFun (congrFun K5r13s20.eq_1 cl) L) s
 have q13_21:=fun cl L s=>congrFun (congrFun (congrFun K5r13s21.eq_1 cl) L) s
 have q13_22:=fun cl L s=>congrFun (congrFun (congrFun K5r13s22.eq_1 cl) L) s
 have q13_25:=fun cl L s=>congrFun (congrFun (congrFun K5r13s25.eq_1 cl) L) s
 have q13_26:=fun cl L s=>congrFun (congrFun (congrFun K5r13s26.eq_1 cl) L) s
 have q13_27:=fun cl L s=>congrFun (congrFun (congrFun K5r13s27.eq_1 cl) L) s
 have q13_28:=fun cl L s=>congrFun (congrFun (congrFun K5r13s28.eq_1 cl) L) s
 simp (config:={ maxSteps:=2000000 }) (disch:=first|omega|(with_unfolding_all exact rfl)|(simp only[new_n,put_n,new_m];omega)|(refine put_m_le ?_;simp only[new_m];omega)) only [q13_0,q13_4,q13_5,q13_6,q13_9,q13_10,q13_11,q13_12,q13_15,q13_16,q13_17,q13_18,q13_19,q13_20,q13_21,q13_22,q13_25,q13_26,q13_27,q13_28,kEql_def,Abs.W,reduceIte,Nat.reduceEqDiff,Nat.reduceAdd,decide_true,decide_false,kLoop_def,Nat.reduceSub,Env.find_set,l3,l4,l5,l6,ex0,ex1,f0,lenS,y3,x0,x1,x2,gb,D3',eqb,D4,Nat.zero_add]
 refine ⟨_,t5,k,m,v4,s.n,b,z,E0,0,E2,rfl,fun t ht=>?_,?_,?_,?_,Nat.le_refl _,by omega,by omega,bt,?_,?_,gb,by omega,by rw [← hl];exact hm,by rw [← hl];exact due0,?_,fun c hc hcd=>(st5.same c (by omega)).trans (fr c hc hcd),by omega,by omega⟩
 ·rcases ht with rfl | rfl | rfl | rfl<;>simp only [Env.find_set,reduceIte,Nat.reduceEqDiff]
 ·simp only [Env.find_set,reduceIte,Nat.reduceEqDiff]
 ·simp only [Env.find_set,reduceIte,Nat.reduceEqDiff]
 ·simp only [Env.find_set,reduceIte,Nat.reduceEqDiff]
 ·rw [← hl,st5.same s.n (by omega),t4g s.n (by omega),st3.same s.n (by omega) (by omega)];exact u1x
 ·rw [← hl];exact r5.mono (fun b hb hbn=>(st5.same b (by omega)).trans (fr b (by omega) (by omega))) (Nat.le_refl _)
 ·obtain ⟨f,hf⟩:=d3;exact ⟨f,by rw [st5.same d (by omega),t4g d (by omega)];exact hf⟩
end Go.Proofs.Ytndbihaffijhbaa.walk
set_option maxRecDepth 10000
namespace Go.Proofs.Ytndbihaffijhbaa.walk
open Go.Abs Go.Proofs.Ytndbihaffijhbaa.code
theorem time_second (n:Nat) (hn:14≤n) (cx:Ctx) (L:Env) (s:St) (c:Cellar) (ok:c.Ok) (l:Lot) (okl:l.Ok c.boxes.length) (v1 v2 v3 v4:AV) (d lo n0 n1 p4 p7 b z k m:Nat) (e0 e1 e2:Int) (hs:s.n+900000≤far) (hd:Die d s.h) (hdl:d<lo) (hln:lo≤n0) (hn0:n0≤s.n) (hn1:n1≤s.n) (hp4:p4<s.n) (hd4:p4≠d) (hp7:p7<s.n) (hd7:p7≠d) (hb:b<s.n) (hdb:b≠d)
  (hC:CellarNew s.h lo n0 c v1 v2 v3) (hR:Abs.Rows s.h lo n1 3 (tag 80) (l.stays.map Stay.cells) v4) (g4:s.h.get p4=some (.cells [.int .i64 c.hl,.int .i64 c.hh,v1,v2,v3] (tag 31))) (g7:s.h.get p7=some (.cells [.int .i64 l.born,.int .i64 l.keeps,v4] (tag 35))) (gb:s.h.get b=some (.cells [.int .i64 e0,.int .i64 e1,.int .i64 e2] z)) (hk:k≤50) (hm:(k:Int)=l.born+m) (due:e0=0→(c.lost l m).2≤l.keeps)
  (l3:L.find 3=.ptr d 0) (l4:L.find 4=.ptr p4 0) (l7:L.find 7=.ptr p7 0) (l10:L.find 10=.int .i64 k) (l12:L.find 12=.slice b 0 3 3 false) :
  ∃ (L3:Env) (s3:St),timeTail (knows 19 (call Try.prog X n)) cx L [] s=.done .norm L3 [] s3∧(∀ t,t=3∨t=4∨t=5∨t=6→L3.find t=L.find t)∧Die d s3.h∧(∀ c,c<s.n→c≠d→s3.h.get c=s.h.get c)∧s.n≤s3.n∧s3.n≤s.n+95000:=by
 have hff:far=1000000000:=rfl
 have knT:∀ args s,knows 19 (call Try.prog X n) (.fn 13) args s=call Try.prog X n (.fn 13) args s:=fun _ _=>rfl
 have knY:∀ args s,knows 19 (call Try.prog X n) (.fn 14) args s=call Try.prog X n (.fn 14) args s:=fun _ _=>rfl
 have knE:∀ args s,knows 19 (call Try.prog X n) (.fn 20) args s=call Try.prog X n (.fn 20) args s:=fun _ _=>rfl
 have x0:∀ s,ixsA 1 s (.slice b 0 3 3 false) (.int .i64 0)=.val (.ptr b 0) s:=fun s=>ixs_slice 1 s b 0 3 3 false 0 (by omega)
 have q0:=fun cl L s=>congrFun (congrFun (congrFun K5r15.eq_1 cl) L) s
 have q6:=fun cl L s=>congrFun (congrFun (congrFun K5r15s6.eq_1 cl) L) s
 have q7:=fun cl L s=>congrFun (congrFun (congrFun K5r15s7.eq_1 cl) L) s
 have q8:=fun cl L s=>congrFun (congrFun (congrFun K5r15s8.eq_1 cl) L) s
 have q9:=fun cl L s=>congrFun (congrFun (congrFun K5r15s9.eq_1 cl) L) s
 have q10:=fun cl L s=>congrFun (congrFun (congrFun K5r15s10.eq_1 cl) L) s
 have q11:=fun cl L s=>congrFun (congrFun (congrFun K5r15s11.eq_1 cl) L) s
 have q12:=fun cl L s=>congrFun (congrFun (congrFun K5r15s12.eq_1 cl) L) s
 have q13:=fun cl L s=>congrFun (congrFun (congrFun K5r15s13.eq_1 cl) L) s
 have q14:=fun cl L s=>congrFun (congrFun (congrFun K5r15s14.eq_1 cl) L) s
 have q15:=fun cl L s=>congrFun (congrFun (congrFun K5r15s15.eq_1 cl) L) s
 have q16:=fun cl L s=>congrFun (congrFun (congrFun K5r15s16.eq_1 cl) L) s
 have q17:=fun cl L s=>congrFun (congrFun (congrFun K5r15s17.eq_1 cl) L) s
 have q18:=fun cl L s=>congrFun (congrFun (congrFun K5r15s18.eq_1 cl) L) s
 have q19:=fun cl L s=>congrFun (congrFun (congrFun K5r15s19.eq_1 cl) L) s
 have q20:=fun cl L s=>congrFun (congrFun (congrFun K5r15s20.eq_1 cl) L) s
 have q21:=fun cl L s=>congrFun (congrFun (congrFun K5r15s21.eq_1 cl) L) s
 have q22:=fun cl L s=>congrFun (congrFun (congrFun K5r15s22.eq_1 cl) L) s
 have q23:=fun cl L s=>congrFun (congrFun (congrFun K5r15s23.eq_1 cl) L) s
 have q24:=fun cl L s=>congrFun (congrFun (congrFun K5r15s24.eq_1 cl) L) s
 have q25:=fun cl L s=>congrFun (congrFun (congrFun K5r15s25.eq_1 cl) L) s
 have q26:=fun cl L s=>congrFun (congrFun (congrFun K5r15s26.eq_1 cl) L) s
 unfold timeTail
 by_cases he:e0=0
 ·subst he
  have f0:decide ((0:Int)=0)=true:=rfl
  have b0:=okl.b0
  simp (config:={ maxSteps:=2000000 }) (disch:=first|omega|(with_unfolding_all exact rfl)|(simp only[new_n,put_n,new_m];omega)|(refine put_m_le ?_;simp only[new_m];omega)) only [q0,q6,q7,q8,q9,Abs.W,reduceIte,Nat.reduceEqDiff,Nat.reduceAdd,decide_true,decide_false,kLoop_def,Nat.reduceSub,Env.find_set,l3,l4,l7,l10,l12,x0,gb,f0,g4,g7,knT,Nat.zero_add]
  generalize hc1:call _ _ _ (.fn 13) _ _=r1
  obtain ⟨T,va,vb,vc,vd,ve,t1,rfl,st1,d1,A,I,sa,sb,sc,sd,se⟩:=truthOf_ex c ok 51 hc1 (by omega) hd hdl hln hn0 hC (by omega) (by omega) (by show s.n+300000≤far;omega)
  have n1':s.n≤t1.n:=st1.n
  have k1:t1.n≤s.n+60000:=st1.le
  have sm1:∀ c,c<s.n→c≠d→t1.h.get c=s.h.get c:=fun c hc hcd=>st1.same c hc hcd
  simp only [thenT_turn]
  obtain ⟨x,hx⟩:∃ x:St,x=⟨t1.h,t1.n,minN s.m t1.m⟩:=⟨_,rfl⟩
  rw [← hx]
  have xh:x.h=t1.h:=by rw [hx]
  have xn:x.n=t1.n:=by rw [hx]
  have xm:x.m≤far:=by rw [hx];exact Nat.le_trans (minN_le_right _ _) st1.mle
  clear hx
  rw [← xh] at d1 sm1 A
  rw [← xn] at A
  have x4:=(sm1 p4 hp4 hd4).trans g4
  have x7:=(sm1 p7 hp7 hd7).trans g7
  have hCx:CellarIn x.h x.n c v1 v2 v3:=(hC.mono (n':=x.n) (fun b hb hbn=>sm1 b (by omega) (by omega)) (by omega)).in_
  have hRx:RowsAt x.h x.n 3 (l.stays.map Stay.cells) v4:=(hR.mono (n':=x.n) (fun b hb hbn=>sm1 b (by omega) (by omega)) (by omega)).at_
  have E1:=truly_ok n (by omega) c ok l okl T 51 I (by omega) v1 v2 v3 v4 va vb vc vd ve m k ⟨x.h,x.n,far⟩ (by show x.n+400000≤far;omega) hCx hRx A hm (by omega)
  have lo1:=(I.lost ok l okl m (by omega) (by omega)).2
  have dl:=due rfl
  have f1:decide (l.keeps<T.lost c l m)=false:=decide_eq_false (by omega)
  have hxn:x.n≤far:=by omega
  simp (config:={ maxSteps:=2000000 }) (disch:=first|omega|(with_unfolding_all exact rfl)|(simp only[new_n,put_n,new_m];omega)|(refine put_m_le ?_;simp only[new_m];omega)) only [q10,q11,q12,q13,q14,q15,q16,q17,q18,q19,Abs.W,reduceIte,Nat.reduceEqDiff,Nat.reduceAdd,decide_true,decide_false,kLoop_def,Nat.reduceSub,Env.find_set,l3,l4,l7,l10,l12,x4,x7,knY,knE,E1,f1,thenT_same _ _ _ _ _ _ _ hxn xm,Nat.zero_add]
  generalize hc2:call _ _ _ (.fn 20) _ _=r2
  obtain ⟨T2,wa,wb,wc,wd,we,t2,rfl,st2,A2,I2,ta,tb,tc,td,te⟩:=edge_ex c ok false 51 hc2 (by omega) hCx (by omega) (by omega) (by show x.n+60000≤far;omega)
  have n2':x.n≤t2.n:=st2.n
  have k2:t2.n≤x.n+30000:=st2.le
  have sm2:∀ c,c<x.n→t2.h.get c=x.h.get c:=fun c hc=>st2.same c hc
  simp only [thenT_turn]
  obtain ⟨y,hy⟩:∃ y:St,y=⟨t2.h,t2.n,minN x.m t2.m⟩:=⟨_,rfl⟩
  rw [← hy]
  have yh:y.h=t2.h:=by rw [hy]
  have yn:y.n=t2.n:=by rw [hy]
  have ym:y.m≤far:=by rw [hy];exact Nat.le_trans (minN_le_left _ _) xm
  clear hy
  rw [← yh] at sm2 A2
  rw [← yn] at A2
  have y4:=(sm2 p4 (by omega)).trans x4
  have y7:=(sm2 p7 (by omega)).trans x7
  have hyn:y.n≤far:=by omega
  have J2:=I2.of_edge ok
  have E2:=truly_ok n (by omega) c ok l okl T2 51 J2 (by omega) v1 v2 v3 v4 wa wb wc wd we m k ⟨y.h,y.n,far⟩ (by show y.n+400000≤far;omega) (hCx.grow sm2 (by show x.n≤y.n;omega)) (hRx.grow sm2 (by show x.n≤y.n;omega)) A2 hm (by omega)
  have lo2:=(J2.lost ok l okl m (by omega) (by omega)).2
  have f2:decide (l.keeps<T2.lost c l m)=false:=decide_eq_false (by omega)
  simp (config:={ maxSteps:=2000000 }) (disch:=first|omega|(with_unfolding_all exact rfl)|(simp only[new_n,put_n,new_m];omega)|(refine put_m_le ?_;simp only[new_m];omega)) only [q20,q21,q22,q23,q24,q25,q26,Abs.W,reduceIte,Nat.reduceEqDiff,Nat.reduceAdd,decide_true,decide_false,kLoop_def,Nat.reduceSub,Env.find_set,l3,l4,l7,l10,l12,y4,y7,knY,E2,f2,thenT_same _ _ _ _ _ _ _ hyn ym,Nat.zero_add]
  rw [endT_kept (by simp only [keptAll_cons,keptAll_nil,find_cons,Env.find_set,l4,l7,keptV_ptr,x4,x7,← yh,y4,y7,sameO_cells,reduceIte,Nat.reduceEqDiff,Bool.and_self])]
  rw [endT_kept (by simp only [keptAll_cons,keptAll_nil,find_cons,Env.find_set,l4,l7,keptV_ptr,g4,g7,← xh,x4,x7,sameO_cells,reduceIte,Nat.reduceEqDiff,Bool.and_self])]
  simp (disch:=first|omega|(with_unfolding_all exact rfl)|(simp only[new_n,put_n,new_m];omega)|(refine put_m_le ?_;simp only[new_m];omega)) only [Abs.W,reduceIte,Nat.reduceEqDiff,Nat.reduceAdd,decide_true,decide_false,kLoop_def,Nat.reduceSub,Env.find_set,endO_nil,regD_ok]
  refine ⟨_,y,rfl,fun t ht=>?_,?_,fun c hc hcd=>(sm2 c (by omega)).trans (sm1 c hc hcd),by omega,by omega⟩
  ·rcases ht with rfl | rfl | rfl | rfl<;>simp only [Env.find_set,reduceIte,Nat.reduceEqDiff]
  ·obtain ⟨f,hf⟩:=d1;exact ⟨f,by rw [sm2 d (by omega)];exact hf⟩
 ·have f0:decide (e0=0)=false:=decide_eq_false he
  simp (config:={ maxSteps:=2000000 }) (disch:=first|omega|(with_unfolding_all exact rfl)|(simp only[new_n,put_n,new_m];omega)|(refine put_m_le ?_;simp only[new_m];omega)) only [q0,q6,q7,q8,q9,q10,q11,q12,q13,q14,q15,q16,q17,q18,q19,q20,q21,q22,q23,q24,q25,q26,Abs.W,reduceIte,Nat.reduceEqDiff,Nat.reduceAdd,decide_true,decide_false,kLoop_def,Nat.reduceSub,Env.find_set,l3,l4,l7,l10,l12,x0,gb,f0,g4,g7,endO_nil,regD_ok,Nat.zero_add]
  refine ⟨_,s,rfl,fun t ht=>?_,hd,fun _ _ _=>rfl,Nat.le_refl _,by omega⟩
  rcases ht with rfl | rfl | rfl | rfl<;>simp only [Env.find_set,reduceIte,Nat.reduceEqDiff]
end Go.Proofs.Ytndbihaffijhbaa.walk
set_option maxRecDepth 10000
namespace Go.Proofs.Ytndbihaffijhbaa.walk
open Go.Abs Go.Proofs.Ytndbihaffijhbaa.code
set_option maxRecDepth 400000 in
theorem time_bound {a b c e i:Nat} (h1:b≤a+95200 * i) (h2:c≤b+100) (h3:e≤c+95000):e≤a+95200 * (i+1):=by
 rw [Nat.mul_succ]
 generalize 95200 * i=x at *
 omega
theorem time_loop {r:R} (n:Nat) (hn:14≤n) (cx:Ctx) (L:Env) (s:St) (c:Cellar) (ok:c.Ok) (ls:List Lot) (okl:∀ l ∈ ls,l.Ok c.boxes.length∧l.born≤9) (hll:ls.length≤9) (v1 v2 v3 v:AV) (d lo n0 n1 p4:Nat) (hr:loopN K5l0 rounds (knows 19 (call Try.prog X n)) cx L [] s=r) (hs:s.n+2000000≤far) (hd:Die d s.h) (hdl:d<lo) (hln:lo≤n0) (hn0:n0≤s.n) (hn1:n1≤s.n) (hp4:p4<s.n) (hd4:p4≠d) (hdn:d<s.n)
  (hC:CellarNew s.h lo n0 c v1 v2 v3) (hL:LotsNew s.h lo n1 ls v) (g4:s.h.get p4=some (.cells [.int .i64 c.hl,.int .i64 c.hh,v1,v2,v3] (tag 31))) (l3:L.find 3=.ptr d 0) (l4:L.find 4=.ptr p4 0) (l5:L.find 5=v) (l6:L.find 6=.int .i64 0) :
  ∃ (L1:Env) (s1:St),r=.done (.exit 0) L1 [] s1:=by
 have hff:far=1000000000:=rfl
 have kl:K5l0=kSeq (kSeq (kRegion K5r5 [24]) (kCond (.tmp 24) kSkip (kExit 0))) (kSeq (kBlock 1 timeBody) (kRegion K5r17 [6])):=rfl
 have lenv:=hL.at_.len
 have okv:=hL.at_.ok
 obtain ⟨e,L1,s1,rfl,rfl⟩:=loop_of hr
  (fun i L' t=>(∀ t,t=3∨t=4∨t=5→L'.find t=L.find t)∧L'.find 6=.int .i64 i∧Die d t.h∧(∀ c,c<s.n→c≠d→t.h.get c=s.h.get c)∧s.n≤t.n∧t.n≤s.n+95200 * i)
  (fun e L1 s1=>e=.exit 0)
  ls.length (by unfold rounds;omega) ⟨fun _ _=>rfl,l6,hd,fun _ _ _=>rfl,Nat.le_refl _,Nat.le_refl _⟩
  (fun i L' t hi ⟨q0,q6,qd,qs,qn,qk⟩=>by
   have j3:=(q0 3 (by simp)).trans l3
   have j4:=(q0 4 (by simp)).trans l4
   have j5:=(q0 5 (by simp)).trans l5
   by_cases hlt:i<ls.length
   ·have e0:decide ((i:Int)<(ls.length:Int))=true:=decide_eq_true (by omega)
    have a1:∀ s,aAdd s .i64 (i:Int) 1=.val (.int .i64 ((i:Int)+1)) s:=fun s=>aAdd_i64 s _ _ (by omega)
    have t4:=(qs p4 hp4 hd4).trans g4
    have hCt:CellarNew t.h lo n0 c v1 v2 v3:=hC.mono (fun b hb hbn=>qs b (by omega) (by omega)) (Nat.le_refl _)
    have hLt:LotsNew t.h lo n1 ls v:=hL.mono (fun b hb hbn=>qs b (by omega) (by omega)) (Nat.le_refl _)
    obtain ⟨L2,s2,k,m,v4,p7,b,z,e0',e1',e2',w0,w1,w7,w10,w12,wp,wp2,wb,wb2,wg7,wR,wgb,wk,wm,wdue,wd,wfr,wn,wle⟩:=time_first n hn cx (L'.set 24 (.bool true)) t c ok ls okl hll v1 v2 v3 v d lo n0 n1 p4 i hlt (by omega) qd hdl hln (by omega) (by omega) (by omega) hd4 hCt hLt t4 (by simp only [Env.find_set,j3,reduceIte,Nat.reduceEqDiff]) (by simp only [Env.find_set,j4,reduceIte,Nat.reduceEqDiff]) (by simp only [Env.find_set,j5,reduceIte,Nat.reduceEqDiff]) (by simp only [Env.find_set,q6,reduceIte,Nat.reduceEqDiff])
    obtain ⟨L3,s3,u0,u1,u2,u3,u4,u5⟩:=time_second n hn cx L2 s2 c ok ls[i] (okl _ (List.getElem_mem hlt)).1 v1 v2 v3 v4 d lo n0 n1 p4 p7 b z k m e0' e1' e2' (by omega) wd hdl hln (by omega) (by omega) (by omega) hd4 wp2 (by omega) wb2 (by omega)
     (hCt.mono (fun b hb hbn=>wfr b (by omega) (by omega)) (Nat.le_refl _)) wR ((wfr p4 (by omega) hd4).trans t4) wg7 wgb wk wm wdue
     ((w1 3 (by simp)).trans (by simp only [Env.find_set,j3,reduceIte,Nat.reduceEqDiff])) ((w1 4 (by simp)).trans (by simp only [Env.find_set,j4,reduceIte,Nat.reduceEqDiff])) w7 w10 w12
    have o6:L3.find 6=.int .i64 i:=(u1 6 (by simp)).trans ((w1 6 (by simp)).trans (by simp only [Env.find_set,q6,reduceIte,Nat.reduceEqDiff]))
    have bn1:s.n≤s3.n:=Nat.le_trans qn (Nat.le_trans wn u4)
    have bn2:s3.n≤s.n+95200 * (i+1):=time_bound qk wle u5
    refine .inl ⟨hlt,L3.set 6 (.int .i64 ((i:Int)+1)),s3,?_,fun t ht=>?_,?_,u2,fun c hc hcd=>(u3 c (by omega) hcd).trans ((wfr c (by omega) hcd).trans (qs c hc hcd)),bn1,bn2⟩
    ·rw [kl]
     simp (disch:=first|omega|(with_unfolding_all exact rfl)|(simp only[new_n,put_n,new_m];omega)|(refine put_m_le ?_;simp only[new_m];omega)) only [K5r5,Abs.W,reduceIte,Nat.reduceEqDiff,Nat.reduceAdd,decide_true,decide_false,kLoop_def,Nat.reduceSub,Env.find_set,q6,j5,lenv,okv,e0]
     rw [w0,u0]
     simp (disch:=first|omega|(with_unfolding_all exact rfl)|(simp only[new_n,put_n,new_m];omega)|(refine put_m_le ?_;simp only[new_m];omega)) only [K5r17,Abs.W,reduceIte,Nat.reduceEqDiff,Nat.reduceAdd,decide_true,decide_false,kLoop_def,Nat.reduceSub,Env.find_set,o6,a1]
    ·have h1:L3.find t=L'.find t:=(u1 t (by omega)).trans ((w1 t (by omega)).trans (by rcases ht with rfl | rfl | rfl<;>simp only [Env.find_set,reduceIte,Nat.reduceEqDiff]))
     rw [← q0 t ht,← h1]
     rcases ht with rfl | rfl | rfl<;>simp only [Env.find_set,reduceIte,Nat.reduceEqDiff]
    ·simp only [Env.find_set,reduceIte];rfl
   ·obtain rfl:i=ls.length:=by omega
    have e0:decide ((ls.length:Int)<(ls.length:Int))=false:=by simp
    refine .inr ⟨.exit 0,L'.set 24 (.bool false),t,by simp,?_,rfl⟩
    rw [kl]
    simp (disch:=first|omega|(with_unfolding_all exact rfl)|(simp only[new_n,put_n,new_m];omega)|(refine put_m_le ?_;simp only[new_m];omega)) only [K5r5,Abs.W,reduceIte,Nat.reduceEqDiff,Nat.reduceAdd,decide_true,decide_false,kLoop_def,Nat.reduceSub,Env.find_set,q6,j5,lenv,okv,e0])
 exact ⟨L1,s1,rfl⟩
noncomputable def timRest:K:=kSeq (kRegion K5r2 [4]) (kSeq (kRegion K5r3 [5]) (kSeq (kSeq (kRegion K5r4 [6]) (kBlock 0 (kLoop K5l0))) (kSeq (kRegion K5r18 [2]) kRet)))
theorem tim_body (n:Nat) (hn:14≤n) (cx:Ctx) (s:St) (d:Nat) (hd:Die d s.h) (hdn:d<s.n) (hs:s.n+9000000≤far) (hm:s.m=far) :
  ∃ s',finA Try.prog Try.f5 (timRest (knows 19 (call Try.prog X n)) cx (.cons 3 (.ptr d 0) .nil) [] s)=.val (.bool true) s':=by
 have hff:far=1000000000:=rfl
 have kn12:∀ args s,knows 19 (call Try.prog X n) (.fn 7) args s=call Try.prog X n (.fn 7) args s:=fun _ _=>rfl
 have kn13:∀ args s,knows 19 (call Try.prog X n) (.fn 23) args s=call Try.prog X n (.fn 23) args s:=fun _ _=>rfl
 have kn24:∀ s,knows 19 (call Try.prog X n) (.fn 19) [] s=.val (.bool true) s:=fun _=>rfl
 unfold timRest
 simp (disch:=first|omega|(with_unfolding_all exact rfl)|(simp only[new_n,put_n,new_m];omega)|(refine put_m_le ?_;simp only[new_m];omega)) only [K5r2,Abs.W,reduceIte,Nat.reduceEqDiff,Nat.reduceAdd,decide_true,decide_false,kLoop_def,Nat.reduceSub,Env.find_set,kn12]
 generalize hc1:call _ _ _ (.fn 7) _ _=r1
 obtain ⟨c,v1,v2,v3,t1,rfl,st1,d1,ok,hC⟩:=CellarOf_ex 3 5 hc1 (by omega) (by omega) (by omega) hd hdn (by omega)
 have n1:s.n≤t1.n:=st1.n
 have k1:t1.n≤s.n+1000:=st1.le
 obtain ⟨ok1,c1,sc1⟩:=hC.b.scalar
 obtain ⟨ok2,c2,sc2⟩:=hC.f.scalar
 obtain ⟨ok3,c3,sc3⟩:=hC.r.scalar
 have len1:=hC.b.len
 rw [List.length_map] at len1
 simp (disch:=first|omega|(with_unfolding_all exact rfl)|(simp only[new_n,put_n,new_m];omega)|(refine put_m_le ?_;simp only[new_m];omega)) only [Abs.W,reduceIte,Nat.reduceEqDiff,Nat.reduceAdd,decide_true,decide_false,kLoop_def,Nat.reduceSub,Env.find_set,sc1,sc2,sc3,scal_nil]
 obtain ⟨y,hy⟩:∃ y:St,y=(t1.new (.cells [.int .i64 0,.int .i64 0,.nilslice,.nilslice,.nilslice] (tag 31))).put t1.n (.cells [.int .i64 c.hl,.int .i64 c.hh,v1,v2,v3] (tag 31)):=⟨_,rfl⟩
 rw [← hy]
 have yn:y.n=t1.n+1:=by rw [hy];rfl
 have yg:∀ c,c≠t1.n→y.h.get c=t1.h.get c:=fun c hc=>by rw [hy,get_put_ne' _ _ _ _ hc,get_new_ne _ _ _ hc]
 have y4:y.h.get t1.n=some (.cells [.int .i64 c.hl,.int .i64 c.hh,v1,v2,v3] (tag 31)):=by rw [hy];exact get_put_eq _ _ _ _ rfl (by omega)
 have dy:Die d y.h:=by obtain ⟨f,hf'⟩:=d1;exact ⟨f,by rw [yg _ (by omega)];exact hf'⟩
 clear hy
 simp (disch:=first|omega|(with_unfolding_all exact rfl)|(simp only[new_n,put_n,new_m];omega)|(refine put_m_le ?_;simp only[new_m];omega)) only [K5r3,Abs.W,reduceIte,Nat.reduceEqDiff,Nat.reduceAdd,decide_true,decide_false,kLoop_def,Nat.reduceSub,Env.find_set,y4,kn13,Nat.zero_add]
 generalize hc2:call _ _ _ (.fn 23) _ _=r2
 obtain ⟨ls,v,t2,rfl,st2,d2,okl,hll,hL⟩:=LotsOf_ex (k:=c.boxes.length) 4 hc2 (by omega) (by omega) dy (by omega) (by omega) (by have:=ok.b;omega) len1 ok1
 have n2:y.n≤t2.n:=st2.n
 have k2:t2.n≤y.n+12000:=st2.le
 have g4:=(st2.same t1.n (by omega) (by omega)).trans y4
 have hC2:CellarNew t2.h (s.n+1) (t1.n+1) c v1 v2 v3:=hC.mono (fun b hb hbn=>(st2.same b (by omega) (by omega)).trans (yg b (by omega))) (by omega)
 obtain ⟨vs,q1,q2,q3⟩:=hL
 have hL2:LotsNew t2.h (s.n+1) t2.n ls v:=⟨vs,q1,rows_lower q2 (by omega),fun j j1 j2=>rows_lower (q3 j j1 j2) (by omega)⟩
 have okv:=hL2.at_.ok
 simp (disch:=first|omega|(with_unfolding_all exact rfl)|(simp only[new_n,put_n,new_m];omega)|(refine put_m_le ?_;simp only[new_m];omega)) only [K5r4,Abs.W,reduceIte,Nat.reduceEqDiff,Nat.reduceAdd,decide_true,decide_false,kLoop_def,Nat.reduceSub,Env.find_set,okv,Nat.zero_add]
 generalize hlp:loopN _ rounds _ _ _ _ _=rl
 obtain ⟨L1,s1,rfl⟩:=time_loop n hn cx _ t2 c ok ls okl (by omega) v1 v2 v3 v d (s.n+1) (t1.n+1) t2.n t1.n hlp (by omega) d2 (by omega) (by omega) (by omega) (by omega) (by omega) (by omega) (by omega) hC2 hL2 g4 (by simp only [find_cons,Env.find_set,reduceIte,Nat.reduceEqDiff]) (by simp only [find_cons,Env.find_set,reduceIte,Nat.reduceEqDiff]) (by simp only [find_cons,Env.find_set,reduceIte,Nat.reduceEqDiff]) (by simp only [find_cons,Env.find_set,reduceIte,Nat.reduceEqDiff])
 simp (disch:=first|omega|(with_unfolding_all exact rfl)|(simp only[new_n,put_n,new_m];omega)|(refine put_m_le ?_;simp only[new_m];omega)) only [K5r18,res5,Abs.W,reduceIte,Nat.reduceEqDiff,Nat.reduceAdd,decide_true,decide_false,kLoop_def,Nat.reduceSub,Env.find_set,kn24]
 exact ⟨_,rfl⟩
end Go.Proofs.Ytndbihaffijhbaa.walk
namespace Go.Proofs.Ytndbihaffijhbaa.mdie
open Go.RowKit
def Die (b:Nat) (w:World):Prop:=∃ s,w.heap[b]? = some (.cells #[.int .u64 s] 69 (0,0))
theorem Die.old {b:Nat} {w:World} (h:Die b w):(∃ s,w.cell? ⟨b,0,none⟩=some (.int .u64 s))∧w.frozen? ⟨b,0,none⟩=false:=by
 obtain ⟨s,hs⟩:=h
 refine ⟨⟨s,?_⟩,?_⟩
 ·unfold World.cell?;simp [hs]
 ·unfold World.frozen?;simp [hs]
structure Stir (b:Nat) (w w':World):Prop where
 below:Below b w w'
 rest:∀ p:Addr,p.block≠b→p.block<w.heap.size→w'.cell? p=w.cell? p∧w'.frozen? p=w.frozen? p
 die:Die b w'
def Gives (b:Nat) (k:IntKind) (Q:Int→Prop) (w:World) (e:Ending) (w':World):Prop:=∃ r,Q r∧e=.returned (.int k r)∧Stir b w w'
theorem bits_nonneg (op:BinOp) (x y:Int):0≤bits op .u64 x y:=by
 have:=bounds_u64 (wf_bits (k:=.u64) (op:=op) (x:=x) (y:=y))
 exact this.1
theorem Stir.set {b:Nat} {w:World} (h:Die b w) (s:Int):Stir b w (w.setCell ⟨b,0,none⟩ (.int .u64 s)):=by
 obtain ⟨t,ht⟩:=h
 refine ⟨(Below.refl b w).setCell (p:=⟨b,0,none⟩) (Nat.le_refl b) _,fun p hp _=>⟨World.cell?_of_block (Below.heap_setCell _ _ _ _ hp),World.frozen?_of_block (Below.heap_setCell _ _ _ _ hp)⟩,⟨s,?_⟩⟩
 unfold World.setCell
 simp [Array.getElem?_modify,ht]
theorem roll (b:Nat) (w:World) (h:Die b w):Calls Try.prog 26 #[.pointer (some ⟨b,0,none⟩)] w (Gives b .u64 (fun r=>0≤r) w):=by
 have h':=Lib.hid h
 obtain ⟨⟨s,hs⟩,hf⟩:=h.old
 clear h
 go_enter Try.func26,Try.ntmps26
 go_wp2
 go_ret
 exact ⟨_,bits_nonneg _ _ _,rfl,Stir.set h'.out _⟩
theorem Stir.refl {b:Nat} {w:World} (h:Die b w):Stir b w w:=⟨Below.refl _ _,fun _ _ _=>⟨rfl,rfl⟩,h⟩
theorem Stir.trans {b:Nat} {u v w:World} (h:Stir b u v) (k:Stir b v w):Stir b u w :=
 ⟨h.below.trans k.below,fun p hp hb=>⟨(k.rest p hp (Nat.lt_of_lt_of_le hb h.below.size)).1.trans (h.rest p hp hb).1,(k.rest p hp (Nat.lt_of_lt_of_le hb h.below.size)).2.trans (h.rest p hp hb).2⟩,k.die⟩
theorem Die.lt {b:Nat} {w:World} (h:Die b w):b<w.heap.size:=by obtain ⟨⟨s,hs⟩,_⟩:=h.old;exact World.block_lt_of_cell? w _ hs
theorem Stir.drew {b:Nat} {w w':World} (h:Stir b w w'):Stir b w w'.drew:=h.trans ⟨⟨rfl,rfl,rfl,Nat.le_refl _,fun _ _=>rfl⟩,fun _ _ _=>⟨rfl,rfl⟩,h.die⟩
def Born (w:World) (e:Ending) (w':World):Prop:=e=.returned (.pointer (some ⟨w.heap.size,0,none⟩))∧Below w.heap.size w w'∧Die w.heap.size w'∧w.heap.size<w'.heap.size
theorem Die.born (w:World) (s:Int):Die w.heap.size (w.alloc (.cells #[.int .u64 s] 69)):=⟨s,by show (w.heap.push _)[w.heap.size]? = _;rw [Array.getElem?_push,if_pos rfl]⟩
set_option maxRecDepth 100000 in
theorem born (x:Option Addr) (n c:Nat) (w:World) (hn:n≤maxLen) (hc:∀ i,i<n→∃ b o,x=some ⟨b,o,none⟩∧∃ v,w.cell? ⟨b,o+i,none⟩=some (.int .i64 v)) :
  Calls Try.prog 6 #[.slice x n c] w (Born w):=by
 unfold maxLen at hn
 have HC:=Lib.hid hc
 clear hc
 have hdie:=Lib.hid (Die.born w 2611923443488327891)
 go_enter Try.func6,Try.ntmps6
 go_wp2
 go_loopw [4] (fun i wr=>∃ k:Nat,k≤n∧i=.int .i64 k∧Stir w.heap.size (w.alloc (.cells #[.int .u64 2611923443488327891] 69)) wr) (fun i _=>n - (intOf i).toNat)
 case atStart=>exact ⟨0,Nat.zero_le _,rfl,Stir.refl hdie.out⟩
 case round =>
  obtain ⟨k,hk,rfl,hs⟩:=hrel
  by_cases hlt:k<n
  ·obtain ⟨b,o,rfl,v,hv⟩:=HC.out k hlt
   have hb:=World.block_lt_of_cell? _ _ hv
   simp only at hb
   have hv1:wr.cell? ⟨b,o+k,none⟩=some (.int .i64 v):=((hs.rest ⟨b,o+k,none⟩ (Nat.ne_of_lt hb) (by simp;omega)).1.trans (World.cell?_of_block (Below.heap_alloc _ _ _ hb))).trans hv
   clear hv
   obtain ⟨⟨s,hd⟩,hf⟩:=hs.die.old
   have hst:=Lib.hid (fun s1:Int=>(hs.drew).trans (Stir.set hs.drew.die s1))
   have hlt':(k:Int)<(n:Int):=by omega
   have hk0:(0:Int)≤(k:Int):=by omega
   go_wp2
   go_still_tail 12,(by kernel_rfl)
   change wpList _ _ _ _ _ wr.drew
   go_wp2_with (go_at_call 26;refine (roll _ _ ?_).mono ?_;exact (hst.out _).die;rintro e w1 ⟨r,hr,rfl,hs1⟩;(have hs2:=(hst.out _).trans hs1))
   go_roundw
   case rel=>exact ⟨k+1,by omega,by go_num,hs2⟩
   case measure=>simp [intOf];omega
  ·go_wp2
   go_ret
   exact ⟨rfl,((Below.refl w.heap.size w).alloc (Nat.le_refl _) _).trans hs.below,hs.die,by have:=hs.below.size;simp at this;omega⟩
end Go.Proofs.Ytndbihaffijhbaa.mdie
namespace Go.Abs
open Go.RowKit
variable {P:Program}
theorem mid_calls {cl:CallF} (hc:CallSound P cl) {f:FuncId} {fn:Func} (hf:P.funcs[f]? = some fn) {c0 c1 rest:Code} (hb:fn.body=some (.seq c0 (.seq c1 rest))) {X:FuncId→List Nat} {k:K} {A:Array Value} {W:World} {R:Ending→World→Prop}
  (h:c0.wp P (Exit.then (fun a w=>c1.wp P (Exit.then (fun a w=>∃ ρ L s v s',ActRel ρ fn.ntmps L [] a∧Clean (X f) L∧SRel ρ s w∧finA P fn (k cl ⟨f,none,fn.ntmps,X f⟩ L [] s)=.val v s'∧∀ ρ' V W',After ρ s w ρ' s' W'→VRel ρ' v V→R (.returned V) W') fun _ _ _=>False) a w) fun _ _ _=>False)
   { tmps:=A++Array.replicate (fn.ntmps - A.size) undef,defers:=[] } W)
  (hk:codeK P (X f) fn.ntmps rest=some k):Calls P f A W R:=by
 intro cs
 obtain ⟨b,hbd⟩:∃ b:Frame,b={ (default:Frame) with fn:=f,kind:=.normal }:=⟨_,rfl⟩
 have hr:b.roundOf=none:=by rw [hbd];rfl
 have henter:Frame.enter P f A .normal=b.at { tmps:=A++Array.replicate (fn.ntmps - A.size) undef,defers:=[] } [.code (.seq c0 (.seq c1 rest))]:=by
  rw [hbd];simp [Frame.enter,Frame.at,hf,hb]
 obtain ⟨e0,a0,w0,q0,ar0⟩:=h b [.code (.seq c1 rest)] cs
 cases e0<;>simp only [Exit.then] at q0
 obtain ⟨e1,a1,w1,q1,ar1⟩:=q0 b [.code rest] cs
 cases e1<;>simp only [Exit.then] at q1
 obtain ⟨ρ,L,s,v,s',hact,hclean,hs,hfin,hR⟩:=q1
 have st1:Steps P (lone (Frame.enter P f A .normal) cs W) (lone (b.atR a1 [.code rest]) cs w1):=by
  rw [henter,Frame.atR_of_none hr]
  exact (Steps.head step_seq ar0).trans (Steps.head step_seq ar1)
 have hctx:CtxRel ρ ⟨f,none,fn.ntmps,X f⟩ b:=⟨by rw [hbd],by rw [hbd],fun _=>hr,fun l e=>by cases e⟩
 generalize hr2:k cl ⟨f,none,fn.ntmps,X f⟩ L [] s=r at hfin
 cases r with
 | fail=>cases hfin
 | done e L1 d s₁ =>
  obtain ⟨ρ₁,a₁,W₁,af,ha₁,_,_,st⟩:=codeK_sound rest hk hc rfl rfl hctx hact hclean hs hr2
  have fin:∀ (hle:leaveA P fn.results.toList L1 d s₁=.val v s') (hst:∃ t,Steps P (lone (Frame.enter P f A .normal) cs W) (lone (back b a₁ t) cs W₁)),
    ∃ V w' fr,R (.returned V) w'∧Steps P (lone (Frame.enter P f A .normal) cs W) (lone fr cs w')∧fr.fn=f∧fr.leaving P w' (.returned V):=by
   intro hle hst
   obtain ⟨V,W₂,af₂,hv,st₂⟩:=leaveA_calls ha₁ af.rel hle
   obtain ⟨t,st₁⟩:=hst
   obtain ⟨fr,h1,h2,h3⟩:=st₂ b (by rw [hbd]) (by rw [hbd];exact hf) t cs
   exact ⟨V,W₂,fr,hR _ _ _ (af.trans af₂) hv,Steps.trans st₁ h1,by rw [h2,hbd],h3⟩
  cases e with
  | exit id=>cases hfin
  | norm =>
   have z:=st [] cs
   obtain ⟨V,w',fr,h1,h2,h3,h4⟩:=fin hfin ⟨[],st1.trans (Steps.trans z (.one (stepR_end hr)))⟩
   exact ⟨.returned V,w',fr,h1,h2,h3,h4⟩
  | ret =>
   obtain ⟨k0,z⟩:=st [] cs
   obtain ⟨V,w',fr,h1,h2,h3,h4⟩:=fin hfin ⟨.code .ret::k0,st1.trans (z.trans (.one (stepR_ret hr)))⟩
   exact ⟨.returned V,w',fr,h1,h2,h3,h4⟩
end Go.Abs
set_option maxRecDepth 10000
namespace Go.Proofs.Ytndbihaffijhbaa.walk
open Go.Abs Go.RowKit Go.Proofs.Ytndbihaffijhbaa.code
noncomputable def die0 (F:Int):St:=St.new ⟨.nil,0,far⟩ (.cells [.int .u64 F] (tag 69))
def rho0 (d:Nat):Rho:=fun b=>if b=0 then some (d,(0,0)) else none
theorem die0_get {F:Int} {b:Nat} {o:AObj} (h:(die0 F).h.get b=some o):b=0∧o=.cells [.int .u64 F] (tag 69):=by
 by_cases e:b=0
 ·subst e
  have:(die0 F).h.get 0=some (.cells [.int .u64 F] (tag 69)):=get_new_eq _ _ _ rfl (by decide)
  rw [this] at h
  exact ⟨rfl,(Option.some.inj h).symm⟩
 ·unfold die0 at h
  rw [get_new_ne _ _ _ e] at h
  cases h
theorem die0_has {F:Int} {b x:Nat} {o:AObj} (h:Has (die0 F).h b x o):b=0∧x=0∧o=.cells [.int .u64 F] (tag 69):=by
 obtain ⟨y,hy,hp⟩:=h
 obtain ⟨rfl,rfl⟩:=die0_get hy
 have hl:AObj.lone (.cells [.int .u64 F] (tag 69)):=trivial
 rw [parts_lone hl] at hp
 have:=List.mem_singleton.mp hp
 cases this
 exact ⟨rfl,rfl,rfl⟩
theorem die0_rel {F:Int} {d:Nat} {W:World} (h:W.heap[d]? = some (.cells #[.int .u64 F] 69 (0,0))):SRel (rho0 d) (die0 F) W:=by
 refine ⟨⟨fun b o hb=>?_,fun b x o hb=>?_,fun b b' x x' o o' c e e' hb hb' _ _=>?_,fun g cs hg=>(by cases hg),fun b x o c e hb hr=>rfl,fun b x x' o o' c e e' hb hb' hr hr'=>?_⟩,fun b hb=>?_⟩
 ·rw [(die0_get hb).1];decide
 ·obtain ⟨rfl,rfl,rfl⟩:=die0_has hb
  exact ⟨d,(0,0),_,if_pos rfl,h,.cells rfl (.cons (.int _ _) .nil) (Typed.tag _)⟩
 ·rw [(die0_has hb).1,(die0_has hb').1]
 ·obtain ⟨_,rfl,_⟩:=die0_has hb
  obtain ⟨_,rfl,_⟩:=die0_has hb'
  rw [hr] at hr'
  cases hr'
  rfl
 ·have:1≤b:=hb
  exact if_neg (by omega)
end Go.Proofs.Ytndbihaffijhbaa.walk
set_option maxRecDepth 10000
namespace Go.Proofs.Ytndbihaffijhbaa.walk
open Go.Abs Go.RowKit Go.Proofs.Ytndbihaffijhbaa.code
set_option maxRecDepth 100000 in
theorem tim_calls (a:Option Addr) (n c:Nat) (w:World) (hn:n≤maxLen) (hc:∀ i,i<n→∃ b o,a=some ⟨b,o,none⟩∧∃ v,w.cell? ⟨b,o+i,none⟩=some (.int .i64 v)) :
  Calls Try.prog 5 #[.slice a n c] w fun e w'=>e=.returned (.bool true)∧Below w.heap.size w w':=by
 have HC:=Lib.hid hc
 clear hc
 refine mid_calls (cl:=knows 19 (call Try.prog X 20)) (knows_sound (call_sound 200) Try.func19 awake.entered (call_sound 20)) Try.func5 rfl (X:=X) (k:=timRest) ?_ (by kernel_rfl)
 simp only [Try.ntmps5,List.size_toArray,List.length_cons,List.length_nil,Nat.reduceAdd,Nat.reduceSub,Array.replicate_succ,Array.replicate_zero,List.push_toArray,List.append_toArray,List.nil_append,List.cons_append]
 go_wp2_with (go_at_call 6;((with_reducible refine (mdie.born _ _ _ _ hn HC.out).mono ?_);rintro e w1 ⟨rfl,hB1,⟨F,hF⟩,hg1⟩))
 have hd0:walk.Die 0 (die0 F).h:=⟨F,get_new_eq _ _ _ rfl (by decide)⟩
 obtain ⟨s',hs'⟩:=tim_body 20 (by omega) ⟨5,none,Try.f5.ntmps,X 5⟩ (die0 F) 0 hd0 (by show 0<1;omega) (by show 1+9000000≤1000000000;omega) rfl
 refine ⟨rho0 w.heap.size,.cons 3 (.ptr 0 0) .nil,die0 F,.bool true,s',⟨fun t=>?_,rfl,.nil⟩,fun t ht=>?_,die0_rel hF,hs',fun ρ' V W' af hv=>?_⟩
 ·by_cases e:t=3
  ·subst e
   exact .ptr (e:=(0,0)) (if_pos rfl)
  ·rw [show (Env.cons 3 (.ptr 0 0) .nil).find t=AV.bad by rw [find_cons,if_neg (by omega)];rfl]
   exact .bad _
 ·by_cases e:t=3
  ·subst e
   have hx:(X 5).contains 3=true:=by kernel_rfl
   rw [hx] at ht
   cases ht
  ·rw [find_cons,if_neg (by omega)];rfl
 ·cases hv
  refine ⟨rfl,hB1.trans ⟨af.os,af.tape,af.output,af.size,fun k hk=>af.frame k (by omega) fun b x o e hb hr=>?_⟩⟩
  obtain ⟨_,rfl,_⟩:=die0_has hb
  have hr:some (w.heap.size,(0,0))=some (k,e):=hr
  injection hr with hr
  injection hr with hr _
  omega
end Go.Proofs.Ytndbihaffijhbaa.walk
