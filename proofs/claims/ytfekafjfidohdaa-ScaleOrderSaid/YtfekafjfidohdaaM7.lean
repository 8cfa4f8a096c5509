/- Benches made of numbers: the loops. -/
import Derived.Test.YtfekafjfidohdaaM6
import Derived.Test.YtfekafjfidohdaaM4
import Derived.Test.YtfekafjfidohdaaWalkAll
set_option linter.unusedSimpArgs false
set_option maxHeartbeats 16000000
set_option linter.unusedVariables false
set_option maxRecDepth 10000
namespace Go.Proofs.Ytfekafjfidohdaa.walk
open Go.Abs Go.Proofs.Ytfekafjfidohdaa.code
structure MsOk (b:Bench) (offs:List Int):Prop where
 ol:offs.length=b.ms.length
 off:∀ i (h:i<b.ms.length),b.ms[i].lo≤offs.getD i 0∧offs.getD i 0≤b.ms[i].hi ∧ -20≤offs.getD i 0∧offs.getD i 0≤20
 ok:∀ m ∈ b.ms,m.Ok
theorem MsOk.push {b:Bench} {offs:List Int} (h:MsOk b offs) {M:Mass} {x:Int} (hM:M.Ok) (hx:M.lo≤x∧x≤M.hi ∧ -20≤x∧x≤20):MsOk { b with ms:=b.ms++[M] } (offs++[x]):=by
 obtain ⟨h1,h2,h3⟩:=h
 refine ⟨by simp [h1],fun i hi=>?_,fun m hm=>?_⟩
 ·simp only at hi ⊢
  by_cases e:i<b.ms.length
  ·rw [List.getElem_append_left e,getD_front (by omega)];exact h2 i e
  ·have:i=b.ms.length:=by rw [List.length_append,List.length_singleton] at hi;omega
   subst this
   have e2:(offs++[x]).getD b.ms.length 0=x:=by rw [← h1];exact getD_back
   rw [List.getElem_append_right (Nat.le_refl _),e2]
   simp only [Nat.sub_self,List.getElem_singleton]
   exact hx
 ·rcases List.mem_append.mp hm with hm | hm
  ·exact h3 m hm
  ·simp at hm;subst hm;exact hM
structure SsOk (b:Bench) (errs:List (List Int)):Prop where
 el:errs.length=b.ss.length
 err:∀ k (h:k<b.ss.length),RowOf b.ss[k] b.days (errs.getD k [])
 ok:∀ s ∈ b.ss,s.Ok
theorem SsOk.push {b:Bench} {errs:List (List Int)} (h:SsOk b errs) {S:Scl} {l:List Int} (hS:S.Ok) (hl:RowOf S b.days l):SsOk { b with ss:=b.ss++[S] } (errs++[l]):=by
 obtain ⟨h1,h2,h3⟩:=h
 refine ⟨by simp [h1],fun i hi=>?_,fun m hm=>?_⟩
 ·simp only at hi ⊢
  by_cases e:i<b.ss.length
  ·have:(errs++[l]).getD i []=errs.getD i []:=by simp [List.getD,List.getElem?_append_left (by omega:i<errs.length)]
   rw [List.getElem_append_left e,this];exact h2 i e
  ·have:i=b.ss.length:=by rw [List.length_append,List.length_singleton] at hi;omega
   subst this
   have e2:(errs++[l]).getD b.ss.length []=l:=by rw [← h1];simp [List.getD]
   rw [List.getElem_append_right (Nat.le_refl _),e2]
   simp only [Nat.sub_self,List.getElem_singleton]
   exact hl
 ·rcases List.mem_append.mp hm with hm | hm
  ·exact h3 m hm
  ·simp at hm;subst hm;exact hS
theorem masses_loop {N:Nat} (hN:6≤N) {cx:Ctx} {d p13 p14 lo i:Nat} {b:Bench} {rv:List AV} {xs:List Nat} {errs:List (List Int)} {bs:Nat→Nat} {vs:Nat→AV} {L:Env} {s:St} {r:R} (hl:loopN K7l0 rounds (call Try.prog X N) cx L [] s=r) (hi:i≤5) (hs:s.n+10000≤far) (hb:b.ms=[])
  (hM:Made s.h s.n d p13 p14 lo b [] errs rv xs bs vs) (l0:L.find 0=.ptr d 0) (l13:L.find 13=.ptr p13 0) (l14:L.find 14=.ptr p14 0) (l15:L.find 15=.int .i64 i) :
  ∃ L1 s1 ms offs bs1 vs1,r=.done (.exit 0) L1 [] s1∧(∀ t,t=0∨t=2∨t=3∨t=10∨t=11∨t=12∨t=13∨t=14→L1.find t=L.find t)∧ms.length=i∧MsOk { b with ms:=ms } offs∧Made s1.h s1.n d p13 p14 lo { b with ms:=ms } offs errs rv xs bs1 vs1∧Goes s s1 d p13 p14 lo (30 * i):=by
 have hf:far=1000000000:=rfl
 obtain ⟨e,L1,s1,rfl,rfl,ms,offs,bs1,vs1,h1,h2,h3,h4,h5⟩:=loop_of hl (fun j L' t=>∃ ms offs bs1 vs1,(∀ t,t=0∨t=2∨t=3∨t=10∨t=11∨t=12∨t=13∨t=14→L'.find t=L.find t)∧L'.find 15=.int .i64 ((i:Int) - j)∧ms.length=j∧MsOk { b with ms:=ms } offs∧Made t.h t.n d p13 p14 lo { b with ms:=ms } offs errs rv xs bs1 vs1∧Goes s t d p13 p14 lo (30 * j))
  (fun e L' t=>e=.exit 0∧∃ ms offs bs1 vs1,(∀ t,t=0∨t=2∨t=3∨t=10∨t=11∨t=12∨t=13∨t=14→L'.find t=L.find t)∧ms.length=i∧MsOk { b with ms:=ms } offs∧Made t.h t.n d p13 p14 lo { b with ms:=ms } offs errs rv xs bs1 vs1∧Goes s t d p13 p14 lo (30 * i)) i (by unfold rounds;omega)
  ⟨[],[],bs,vs,fun _ _=>rfl,by rw [l15];simp,rfl,⟨rfl,fun i h=>by simp at h,fun m hm=>by cases hm⟩,by rw [← hb];exact hM,Goes.refl _ _ _ _ _⟩
  (fun j L' t hj ⟨ms,offs,bs1,vs1,q,q15,hm,hk,hM,hG⟩=>by
   have tl:=hG.le
   have tn:=hG.n
   have hol:=hk.ol
   simp only at hol
   by_cases hlt:j<i
   ·obtain ⟨L2,t2,M,x,bs2,vs2,p1,p2,p3,p4,p5,p6,p7⟩:=made_mass N hN cx (i:=i - j) (by omega) (by omega) (by omega) hM (by show ms.length≤10;omega) (by omega) ((q 0 (by omega)).trans l0) ((q 13 (by omega)).trans l13) ((q 14 (by omega)).trans l14) (by rw [q15];congr 1;omega)
    exact .inl ⟨hlt,L2,t2,p1,ms++[M],offs++[x],bs2,vs2,fun t ht=>(p2 t ht).trans (q t ht),by rw [p3];congr 1;omega,by rw [List.length_append,hm];rfl,hk.push p4 p5,p6,(hG.trans p7).mono (by omega)⟩
   ·obtain rfl:j=i:=by omega
    have e0:decide ((0:Int)<0)=false:=rfl
    rw [Int.sub_self] at q15
    refine .inr ⟨.exit 0,L'.set 38 (.bool false),t,by simp,?_,rfl,ms,offs,bs1,vs1,fun t ht=>?_,hm,hk,hM,hG⟩
    ·simp (disch:=first|omega|(with_unfolding_all exact rfl)|(simp only[new_n,put_n,new_m];omega)|(refine put_m_le ?_;simp only[new_m];omega)) only [res7,K7r0,K7r1,K7r2,K7r3,K7r4,K7r5,K7r6,K7r7,K7r8,K7r9,K7r10,K7r11,K7r12,K7r13,K7r14,K7r15,K7r16,K7r17,K7r18,K7r19,K7r20,K7r21s7,K7r21s6,K7r21s5,K7r21s4,K7r21,K7r22,K7r23,K7r24,K7r25,K7r26,K7r27,K7r28,K7r29,K7r30,K7r31,K7r32,K7r33,K7r34s7,K7r34s6,K7r34,K7r35,K7r36,K7r37,K7r38,K7,K7l0,Abs.W,reduceIte,Nat.reduceEqDiff,Nat.reduceAdd,decide_true,decide_false,kLoop_def,Nat.reduceSub,List.cons_append,List.nil_append,List.append_nil,List.length_cons,List.length_nil,Env.find_set,q15,e0]
    ·rw [Env.find_set,if_neg (by omega)];exact q t ht)
 exact ⟨L1,s1,ms,offs,bs1,vs1,rfl,h1,h2,h3,h4,h5⟩
theorem scales_loop {N:Nat} (hN:6≤N) {cx:Ctx} {d p13 p14 lo i:Nat} {b:Bench} {offs:List Int} {bs:Nat→Nat} {vs:Nat→AV} {L:Env} {s:St} {r:R} (hl:loopN K7l2 rounds (call Try.prog X N) cx L [] s=r) (hi:i≤3) (hs:s.n+10000≤far) (hdy:b.days≤8) (hb:b.ss=[])
  (hM:Made s.h s.n d p13 p14 lo b offs [] [] [] bs vs) (l0:L.find 0=.ptr d 0) (l13:L.find 13=.ptr p13 0) (l14:L.find 14=.ptr p14 0) (l17:L.find 17=.int .i64 i) :
  ∃ L1 s1 ss errs rv xs bs1 vs1,r=.done (.exit 2) L1 [] s1∧(∀ t,t=0∨t=3∨t=10∨t=11∨t=12∨t=13∨t=14→L1.find t=L.find t)∧ss.length=i∧SsOk { b with ss:=ss } errs∧Made s1.h s1.n d p13 p14 lo { b with ss:=ss } offs errs rv xs bs1 vs1∧Goes s s1 d p13 p14 lo (120 * i):=by
 have hf:far=1000000000:=rfl
 obtain ⟨e,L1,s1,rfl,rfl,ss,errs,rv,xs,bs1,vs1,h1,h2,h3,h4,h5⟩:=loop_of hl (fun j L' t=>∃ ss errs rv xs bs1 vs1,(∀ t,t=0∨t=3∨t=10∨t=11∨t=12∨t=13∨t=14→L'.find t=L.find t)∧L'.find 17=.int .i64 ((i:Int) - j)∧ss.length=j∧SsOk { b with ss:=ss } errs∧Made t.h t.n d p13 p14 lo { b with ss:=ss } offs errs rv xs bs1 vs1∧Goes s t d p13 p14 lo (120 * j))
  (fun e L' t=>e=.exit 2∧∃ ss errs rv xs bs1 vs1,(∀ t,t=0∨t=3∨t=10∨t=11∨t=12∨t=13∨t=14→L'.find t=L.find t)∧ss.length=i∧SsOk { b with ss:=ss } errs∧Made t.h t.n d p13 p14 lo { b with ss:=ss } offs errs rv xs bs1 vs1∧Goes s t d p13 p14 lo (120 * i)) i (by unfold rounds;omega)
  ⟨[],[],[],[],bs,vs,fun _ _=>rfl,by rw [l17];simp,rfl,⟨rfl,fun i h=>by simp at h,fun m hm=>by cases hm⟩,by rw [← hb];exact hM,Goes.refl _ _ _ _ _⟩
  (fun j L' t hj ⟨ss,errs,rv,xs,bs1,vs1,q,q17,hm,hk,hM,hG⟩=>by
   have tl:=hG.le
   have tn:=hG.n
   have hol:=hk.el
   simp only at hol
   by_cases hlt:j<i
   ·obtain ⟨L2,t2,S,l,rv2,xs2,bs2,vs2,p1,p2,p3,p4,p5,p6,p7⟩:=made_scale N hN cx (b:={ b with ss:=ss }) (i:=i - j) (by omega) (by omega) (by omega) hdy hM (by show ss.length≤10;omega) (by omega) ((q 0 (by omega)).trans l0) ((q 13 (by omega)).trans l13) ((q 14 (by omega)).trans l14) (by rw [q17];congr 1;omega)
    exact .inl ⟨hlt,L2,t2,p1,ss++[S],errs++[l],rv2,xs2,bs2,vs2,fun t ht=>(p2 t ht).trans (q t ht),by rw [p3];congr 1;omega,by rw [List.length_append,hm];rfl,hk.push p4 p5,p6,(hG.trans p7).mono (by omega)⟩
   ·obtain rfl:j=i:=by omega
    have e0:decide ((0:Int)<0)=false:=rfl
    rw [Int.sub_self] at q17
    refine .inr ⟨.exit 2,L'.set 75 (.bool false),t,by simp,?_,rfl,ss,errs,rv,xs,bs1,vs1,fun t ht=>?_,hm,hk,hM,hG⟩
    ·simp (disch:=first|omega|(with_unfolding_all exact rfl)|(simp only[new_n,put_n,new_m];omega)|(refine put_m_le ?_;simp only[new_m];omega)) only [res7,K7r0,K7r1,K7r2,K7r3,K7r4,K7r5,K7r6,K7r7,K7r8,K7r9,K7r10,K7r11,K7r12,K7r13,K7r14,K7r15,K7r16,K7r17,K7r18,K7r19,K7r20,K7r21s7,K7r21s6,K7r21s5,K7r21s4,K7r21,K7r22,K7r23,K7r24,K7r25,K7r26,K7r27,K7r28,K7r29,K7r30,K7r31,K7r32,K7r33,K7r34s7,K7r34s6,K7r34,K7r35,K7r36,K7r37,K7r38,K7,K7l2,Abs.W,reduceIte,Nat.reduceEqDiff,Nat.reduceAdd,decide_true,decide_false,kLoop_def,Nat.reduceSub,List.cons_append,List.nil_append,List.append_nil,List.length_cons,List.length_nil,Env.find_set,q17,e0]
    ·rw [Env.find_set,if_neg (by omega)];exact q t ht)
 exact ⟨L1,s1,ss,errs,rv,xs,bs1,vs1,rfl,h1,h2,h3,h4,h5⟩
theorem weighs_loop {N:Nat} (hN:6≤N) {cx:Ctx} {d p13 p14 lo i:Nat} {b:Bench} {offs:List Int} {errs:List (List Int)} {rv:List AV} {xs:List Nat} {bs:Nat→Nat} {vs:Nat→AV} {L:Env} {s:St} {r:R} (hl:loopN K7l3 rounds (call Try.prog X N) cx L [] s=r) (hi:i≤6) (hs:s.n+10000≤far) (hF:FactOf b offs errs) (hm1:1≤b.ms.length) (hm5:b.ms.length≤5) (hb:b.ws=[])
  (hM:Made s.h s.n d p13 p14 lo b offs errs rv xs bs vs) (l0:L.find 0=.ptr d 0) (l13:L.find 13=.ptr p13 0) (l14:L.find 14=.ptr p14 0) (l21:L.find 21=.int .i64 i) :
  ∃ L1 s1 ws bs1 vs1,r=.done (.exit 6) L1 [] s1∧(∀ t,t=0∨t=3∨t=10∨t=11∨t=12∨t=13∨t=14→L1.find t=L.find t)∧ws.length≤i∧(∀ w ∈ ws,w.Ok b.ms.length)∧Made s1.h s1.n d p13 p14 lo { b with ws:=ws } offs errs rv xs bs1 vs1∧Goes s s1 d p13 p14 lo (30 * i):=by
 have hf:far=1000000000:=rfl
 obtain ⟨e,L1,s1,rfl,rfl,ws,bs1,vs1,h1,h2,h3,h4,h5⟩:=loop_of hl (fun j L' t=>∃ ws bs1 vs1,(∀ t,t=0∨t=3∨t=10∨t=11∨t=12∨t=13∨t=14→L'.find t=L.find t)∧L'.find 21=.int .i64 ((i:Int) - j)∧ws.length=j∧(∀ w ∈ ws,w.Ok b.ms.length)∧Made t.h t.n d p13 p14 lo { b with ws:=ws } offs errs rv xs bs1 vs1∧Goes s t d p13 p14 lo (30 * j))
  (fun e L' t=>e=.exit 6∧∃ ws bs1 vs1,(∀ t,t=0∨t=3∨t=10∨t=11∨t=12∨t=13∨t=14→L'.find t=L.find t)∧ws.length≤i∧(∀ w ∈ ws,w.Ok b.ms.length)∧Made t.h t.n d p13 p14 lo { b with ws:=ws } offs errs rv xs bs1 vs1∧Goes s t d p13 p14 lo (30 * i)) i (by unfold rounds;omega)
  ⟨[],bs,vs,fun _ _=>rfl,by rw [l21];simp,rfl,(fun m hm=>(by cases hm)),by rw [← hb];exact hM,Goes.refl _ _ _ _ _⟩
  (fun j L' t hj ⟨ws,bs1,vs1,q,q21,hm,hk,hM,hG⟩=>by
   have tl:=hG.le
   have tn:=hG.n
   by_cases hlt:j<i∧2≤b.ms.length
   ·obtain ⟨L2,t2,W,bs2,vs2,p1,p2,p3,p4,p6,p7⟩:=made_weigh N hN cx (i:=i - j) (by omega) (by omega) (by omega) (⟨hF.ol,hF.off,hF.el,hF.err⟩:FactOf { b with ws:=ws } offs errs) hM (by show ws.length≤10;omega) hlt.2 hm5 ((q 0 (by omega)).trans l0) ((q 13 (by omega)).trans l13) ((q 14 (by omega)).trans l14) (by rw [q21];congr 1;omega)
    refine .inl ⟨hlt.1,L2,t2,p1,ws++[W],bs2,vs2,fun t ht=>(p2 t ht).trans (q t ht),by rw [p3];congr 1;omega,by rw [List.length_append,hm];rfl,fun w hw=>?_,p6,(hG.trans p7).mono (by omega)⟩
    rcases List.mem_append.mp hw with hw | hw
    ·exact hk w hw
    ·simp at hw;subst hw;exact p4
   ·have g13:=hM.g13
    have ok0:=(hM.ls.at_ 0).okA
    have hlm:=hM.bench.m.len
    rw [List.length_map] at hlm
    have q13:=(q 13 (by omega)).trans l13
    refine .inr ⟨.exit 6,L'.set 139 (.bool false),t,by simp,?_,rfl,ws,bs1,vs1,fun t ht=>?_,by omega,hk,hM,hG.mono (by omega)⟩
    ·by_cases hji:j<i
     ·have e0:decide ((0:Int)<(i:Int) - (j:Int))=true:=decide_eq_true (by omega)
      have e1:decide ((1:Int)<(b.ms.length:Int))=false:=decide_eq_false (by omega)
      simp (disch:=first|omega|(with_unfolding_all exact rfl)|(simp only[new_n,put_n,new_m];omega)|(refine put_m_le ?_;simp only[new_m];omega)) only [res7,K7r0,K7r1,K7r2,K7r3,K7r4,K7r5,K7r6,K7r7,K7r8,K7r9,K7r10,K7r11,K7r12,K7r13,K7r14,K7r15,K7r16,K7r17,K7r18,K7r19,K7r20,K7r21s7,K7r21s6,K7r21s5,K7r21s4,K7r21,K7r22,K7r23,K7r24,K7r25,K7r26,K7r27,K7r28,K7r29,K7r30,K7r31,K7r32,K7r33,K7r34s7,K7r34s6,K7r34,K7r35,K7r36,K7r37,K7r38,K7,K7l3,Abs.W,reduceIte,Nat.reduceEqDiff,Nat.reduceAdd,decide_true,decide_false,kLoop_def,Nat.reduceSub,List.cons_append,List.nil_append,List.append_nil,List.length_cons,List.length_nil,Env.find_set,Nat.zero_add,q21,q13,g13,ok0,hlm,e0,e1]
     ·have e0:decide ((0:Int)<(i:Int) - (j:Int))=false:=decide_eq_false (by omega)
      simp (disch:=first|omega|(with_unfolding_all exact rfl)|(simp only[new_n,put_n,new_m];omega)|(refine put_m_le ?_;simp only[new_m];omega)) only [res7,K7r0,K7r1,K7r2,K7r3,K7r4,K7r5,K7r6,K7r7,K7r8,K7r9,K7r10,K7r11,K7r12,K7r13,K7r14,K7r15,K7r16,K7r17,K7r18,K7r19,K7r20,K7r21s7,K7r21s6,K7r21s5,K7r21s4,K7r21,K7r22,K7r23,K7r24,K7r25,K7r26,K7r27,K7r28,K7r29,K7r30,K7r31,K7r32,K7r33,K7r34s7,K7r34s6,K7r34,K7r35,K7r36,K7r37,K7r38,K7,K7l3,Abs.W,reduceIte,Nat.reduceEqDiff,Nat.reduceAdd,decide_true,decide_false,kLoop_def,Nat.reduceSub,List.cons_append,List.nil_append,List.append_nil,List.length_cons,List.length_nil,Env.find_set,Nat.zero_add,q21,q13,g13,ok0,hlm,e0]
    ·rw [Env.find_set,if_neg (by omega)];exact q t ht)
 exact ⟨L1,s1,ws,bs1,vs1,rfl,h1,h2,h3,h4,h5⟩
theorem trials_loop {N:Nat} (hN:6≤N) {cx:Ctx} {d p13 p14 lo i:Nat} {b:Bench} {offs:List Int} {errs:List (List Int)} {rv:List AV} {xs:List Nat} {bs:Nat→Nat} {vs:Nat→AV} {L:Env} {s:St} {r:R} (hl:loopN K7l4 rounds (call Try.prog X N) cx L [] s=r) (hi:i≤6) (hs:s.n+10000≤far) (hF:FactOf b offs errs) (hmok:∀ m ∈ b.ms,m.Ok) (hm1:1≤b.ms.length) (hm5:b.ms.length≤5) (hs1:1≤b.ss.length) (hs3:b.ss.length≤3) (hdy:b.days≤8) (hb:b.ts=[])
  (hM:Made s.h s.n d p13 p14 lo b offs errs rv xs bs vs) (l0:L.find 0=.ptr d 0) (l13:L.find 13=.ptr p13 0) (l14:L.find 14=.ptr p14 0) (l25:L.find 25=.int .i64 i) :
  ∃ L1 s1 ts bs1 vs1,r=.done (.exit 8) L1 [] s1∧(∀ t,t=0∨t=3∨t=10∨t=11∨t=12∨t=13∨t=14→L1.find t=L.find t)∧ts.length=i∧(∀ t ∈ ts,t.Ok b.ss.length b.ms.length b.days∧t.shown≤1500000)∧Made s1.h s1.n d p13 p14 lo { b with ts:=ts } offs errs rv xs bs1 vs1∧Goes s s1 d p13 p14 lo (30 * i):=by
 have hf:far=1000000000:=rfl
 obtain ⟨e,L1,s1,rfl,rfl,ts,bs1,vs1,h1,h2,h3,h4,h5⟩:=loop_of hl (fun j L' t=>∃ ts bs1 vs1,(∀ t,t=0∨t=3∨t=10∨t=11∨t=12∨t=13∨t=14→L'.find t=L.find t)∧L'.find 25=.int .i64 ((i:Int) - j)∧ts.length=j∧(∀ w ∈ ts,w.Ok b.ss.length b.ms.length b.days∧w.shown≤1500000)∧Made t.h t.n d p13 p14 lo { b with ts:=ts } offs errs rv xs bs1 vs1∧Goes s t d p13 p14 lo (30 * j))
  (fun e L' t=>e=.exit 8∧∃ ts bs1 vs1,(∀ t,t=0∨t=3∨t=10∨t=11∨t=12∨t=13∨t=14→L'.find t=L.find t)∧ts.length=i∧(∀ w ∈ ts,w.Ok b.ss.length b.ms.length b.days∧w.shown≤1500000)∧Made t.h t.n d p13 p14 lo { b with ts:=ts } offs errs rv xs bs1 vs1∧Goes s t d p13 p14 lo (30 * i)) i (by unfold rounds;omega)
  ⟨[],bs,vs,fun _ _=>rfl,by rw [l25];simp,rfl,(fun m hm=>(by cases hm)),by rw [← hb];exact hM,Goes.refl _ _ _ _ _⟩
  (fun j L' t hj ⟨ts,bs1,vs1,q,q25,hm,hk,hM,hG⟩=>by
   have tl:=hG.le
   have tn:=hG.n
   by_cases hlt:j<i
   ·obtain ⟨L2,t2,W,bs2,vs2,p1,p2,p3,p4,p6,p7⟩:=made_trial N hN cx (i:=i - j) (by omega) (by omega) (by omega) (⟨hF.ol,hF.off,hF.el,hF.err⟩:FactOf { b with ts:=ts } offs errs) hmok hM (by show ts.length≤10;omega) hm1 hm5 hs1 hs3 hdy ((q 0 (by omega)).trans l0) ((q 13 (by omega)).trans l13) ((q 14 (by omega)).trans l14) (by rw [q25];congr 1;omega)
    refine .inl ⟨hlt,L2,t2,p1,ts++[W],bs2,vs2,fun t ht=>(p2 t ht).trans (q t ht),by rw [p3];congr 1;omega,by rw [List.length_append,hm];rfl,fun w hw=>?_,p6,(hG.trans p7).mono (by omega)⟩
    rcases List.mem_append.mp hw with hw | hw
    ·exact hk w hw
    ·simp at hw;subst hw;exact p4
   ·obtain rfl:j=i:=by omega
    have e0:decide ((0:Int)<0)=false:=rfl
    rw [Int.sub_self] at q25
    refine .inr ⟨.exit 8,L'.set 192 (.bool false),t,by simp,?_,rfl,ts,bs1,vs1,fun t ht=>?_,hm,hk,hM,hG⟩
    ·simp (disch:=first|omega|(with_unfolding_all exact rfl)|(simp only[new_n,put_n,new_m];omega)|(refine put_m_le ?_;simp only[new_m];omega)) only [res7,K7r0,K7r1,K7r2,K7r3,K7r4,K7r5,K7r6,K7r7,K7r8,K7r9,K7r10,K7r11,K7r12,K7r13,K7r14,K7r15,K7r16,K7r17,K7r18,K7r19,K7r20,K7r21s7,K7r21s6,K7r21s5,K7r21s4,K7r21,K7r22,K7r23,K7r24,K7r25,K7r26,K7r27,K7r28,K7r29,K7r30,K7r31,K7r32,K7r33,K7r34s7,K7r34s6,K7r34,K7r35,K7r36,K7r37,K7r38,K7,K7l4,Abs.W,reduceIte,Nat.reduceEqDiff,Nat.reduceAdd,decide_true,decide_false,kLoop_def,Nat.reduceSub,List.cons_append,List.nil_append,List.append_nil,List.length_cons,List.length_nil,Env.find_set,q25,e0]
    ·rw [Env.find_set,if_neg (by omega)];exact q t ht)
 exact ⟨L1,s1,ts,bs1,vs1,rfl,h1,h2,h3,h4,h5⟩
end Go.Proofs.Ytfekafjfidohdaa.walk
set_option maxRecDepth 10000
namespace Go.Abs
theorem nth_skip:∀ (a l:List AV) (k:Nat),nth (a++l) (a.length+k)=nth l k
 | [],l,k=>by rw [List.length_nil,Nat.zero_add,List.nil_append]
 | x::a,l,k=>by rw [List.length_cons,List.cons_append,show a.length+1+k=(a.length+k)+1 by omega,nth_cons,if_neg (by omega)];exact nth_skip a l k
theorem nth_front:∀ (R l:List AV) (k:Nat),k<R.length→nth (R++l) k=nth R k
 | [],l,k,h=>by simp at h
 | x::R,l,0,h=>rfl
 | x::R,l,k+1,h=>by rw [List.cons_append,nth_cons,nth_cons,if_neg (by omega),if_neg (by omega),Nat.add_sub_cancel];exact nth_front R l k (by simpa using h)
theorem over_one:∀ (R l:List AV) (k:Nat) (v:AV),k<R.length→over k [v] (R++l)=some (R.set k v++l)
 | [],l,k,v,h=>by simp at h
 | a::R,l,0,v,_=>by rw [List.cons_append,over_cons,if_pos rfl,over1_cons,over1_nil];rfl
 | a::R,l,k+1,v,h=>by rw [List.cons_append,over_cons,if_neg (by omega),Nat.add_sub_cancel,over_one R l k v (by simpa using h)];rfl
theorem set_parts {rows:List (List AV)} {w i:Nat} {R:List AV} (hw:∀ r ∈ rows,r.length=w) (hi:i<rows.length):∃ a l,(rows.set i R).flatten=a++(R++l)∧a.length=i * w∧∀ R',(rows.set i R').flatten=a++(R'++l):=by
 have e:∀ R',(rows.set i R').flatten=(rows.take i).flatten++(R'++(rows.drop (i+1)).flatten):=fun R'=>by
  rw [List.set_eq_take_append_cons_drop,if_pos hi,List.flatten_append,List.flatten_cons]
 exact ⟨_,_,e R,by rw [flatten_len (w:=w) (fun r hr=>hw r (List.mem_of_mem_take hr)),List.length_take,Nat.min_eq_left (by omega)],e⟩
theorem nth_cell {rows:List (List AV)} {w i:Nat} (hw:∀ r ∈ rows,r.length=w) (hi:i<rows.length) (R:List AV) (k:Nat) (hR:R.length=w) (hk:k<w):nth (rows.set i R).flatten (i * w+k)=nth R k:=by
 obtain ⟨a,l,h1,h2,_⟩:=set_parts (R:=R) hw hi
 rw [h1,← h2,nth_skip,nth_front _ _ _ (by omega)]
theorem over_cell {rows:List (List AV)} {w i:Nat} (hw:∀ r ∈ rows,r.length=w) (hi:i<rows.length) (R:List AV) (k:Nat) (v:AV) (hR:R.length=w) (hk:k<w):over (i * w+k) [v] (rows.set i R).flatten=some (rows.set i (R.set k v)).flatten:=by
 obtain ⟨a,l,h1,h2,h3⟩:=set_parts (R:=R) hw hi
 rw [h1,← h2,over_skip,over_one _ _ _ _ (by omega),h3]
 rfl
end Go.Abs
namespace Go.Proofs.Ytfekafjfidohdaa.walk
open Go.Abs Go.Proofs.Ytfekafjfidohdaa.code
theorem scals_cons {v:AV} (h:scalars [v]=true) (l:List AV):scalars (v::l)=scalars l:=by
 have e:∀ (x:AV) (l:List AV),scalars (x::l)=(match x.scalar with | true=>scalars l | false=>false):=fun _ _=>rfl
 rw [e] at h ⊢
 cases hv:v.scalar with
 | true=>rfl
 | false=>rw [hv] at h;cases h
def Stands (h:Heap) (lo n:Nat) (v:AV):Prop:=v=.nilslice∨∃ b o l c e cs sz,v=.slice b o l c e∧lo≤b∧b<n∧h.get b=some (.cells cs sz)
theorem Stands.mono {h h':Heap} {lo lo' n n':Nat} {v:AV} (g:Stands h lo n v) (hh:∀ x,lo≤x→x<n→h'.get x=h.get x) (hl:lo'≤lo) (hn:n≤n'):Stands h' lo' n' v:=by
 rcases g with h | ⟨b,o,l,c,e,cs,sz,h1,h2,h3,h4⟩
 ·exact .inl h
 ·exact .inr ⟨b,o,l,c,e,cs,sz,h1,by omega,by omega,by rw [hh b h2 h3];exact h4⟩
theorem Stands.kept {h h':Heap} {lo n:Nat} {v:AV} (g:Stands h lo n v) (hh:∀ x,lo≤x→x<n→h'.get x=h.get x):keptV h h' v=true:=by
 rcases g with rfl | ⟨b,o,l,c,e,cs,sz,rfl,h2,h3,h4⟩
 ·exact keptV_nils _ _
 ·rw [keptV_slice,hh b h2 h3,h4,sameO_cells]
theorem Made.stands {h:Heap} {n d p13 p14 lo:Nat} {b:Bench} {offs:List Int} {errs:List (List Int)} {rv:List AV} {xs:List Nat} {bs:Nat→Nat} {vs:Nat→AV} (m:Made h n d p13 p14 lo b offs errs rv xs bs vs) (i:Nat):Stands h lo n (vs i):=by
 rcases (m.ls.at_ i).is with ⟨_,h2⟩ | ⟨_,h1,h2,h3⟩
 ·exact .inl h2
 ·exact .inr ⟨_,_,_,_,_,_,_,h2,m.ls.lo i,h1,h3⟩
theorem BenchOf_ex2 {N d:Nat} {M S R D:Nat} {s:St} {r:ARes} (hr:call Try.prog X N (.fn 7) [.ptr d 0,.int .i64 (M:Int),.int .i64 (S:Int),.int .i64 (R:Int),.int .i64 (D:Int)] s=r) (hN:7≤N) (hd:Die d s.h) (hlt:d<s.n) (hM:1≤M∧M≤5) (hS:1≤S∧S≤3) (hR:R≤5) (hD:D≤8) (hs:s.n+30000≤far) :
  ∃ b offs errs v1 v2 v3 v4 v5 v6 q t,r=.val (.tup [.agg [v1,v2,v3,v4,.int .i64 b.days],.agg [v5,v6],.bool q]) t∧Stir d s t 2000∧Die d t.h∧b.Ok∧FactOf b offs errs∧(q=true↔Tells b offs errs)∧BenchF t.h s.n t.n b offs errs v1 v2 v3 v4 v5 v6∧Stands t.h s.n t.n v2∧Stands t.h s.n t.n v4∧b.ws.length≤R∧b.ts.length≤R:=by
 obtain ⟨n,rfl⟩:∃ n,N=n+1:=⟨N - 1,by omega⟩
 have hf:far=1000000000:=rfl
 obtain ⟨v,t,e,st,b,offs,errs,v1,v2,v3,v4,v5,v6,q,rfl,hq⟩:=call_stir (n:=n) (args:=[.ptr d 0,.int .i64 (M:Int),.int .i64 (S:Int),.int .i64 (R:Int),.int .i64 (D:Int)]) (d:=d) (s:=s) (k:=2000) (Q:=fun v h n=>∃ b offs errs v1 v2 v3 v4 v5 v6 q,v=.tup [.agg [v1,v2,v3,v4,.int .i64 b.days],.agg [v5,v6],.bool q]∧Die d h∧Bench.Ok b∧FactOf b offs errs∧(q=true↔Tells b offs errs)∧BenchF h s.n n b offs errs v1 v2 v3 v4 v5 v6∧Stands h s.n n v2∧Stands h s.n n v4∧b.ws.length≤R∧b.ts.length≤R) Try.func7 rfl (fun u uh un um=>by
  rw [← uh] at hd
  rw [← un] at hlt ⊢
  rw [enter7]
  have ad:∀ s,aAdd s .i64 (D:Int) 1=.val (.int .i64 ((D:Int)+1)) s:=fun s=>aAdd_i64 s _ _ (by omega)
  simp (disch:=first|omega|(with_unfolding_all exact rfl)|(simp only[new_n,put_n,new_m];omega)|(refine put_m_le ?_;simp only[new_m];omega)) only [res7,K7r0,K7r1,K7r2,K7r3,K7r4,K7r5,K7r6,K7r7,K7r8,K7r9,K7r10,K7r11,K7r12,K7r13,K7r14,K7r15,K7r16,K7r17,K7r18,K7r19,K7r20,K7r21s7,K7r21s6,K7r21s5,K7r21s4,K7r21,K7r22,K7r23,K7r24,K7r25,K7r26,K7r27,K7r28,K7r29,K7r30,K7r31,K7r32,K7r33,K7r34s7,K7r34s6,K7r34,K7r35,K7r36,K7r37,K7r38,K7,Abs.W,reduceIte,Nat.reduceEqDiff,Nat.reduceAdd,decide_true,decide_false,kLoop_def,Nat.reduceSub,List.cons_append,List.nil_append,List.append_nil,List.length_cons,List.length_nil,Env.find_set,ad]
  obtain ⟨w0,hw0⟩:∃ w0:St,w0=(u.new (.cells [.nilslice,.nilslice,.nilslice,.nilslice,.int .i64 0] (tag 30))).new (.cells [.nilslice,.nilslice] (tag 33)):=⟨_,rfl⟩
  rw [← hw0]
  have w0n:w0.n=u.n+2:=by rw [hw0];rfl
  have w0m:w0.m=far:=by rw [hw0];exact um
  have w0g:∀ c,c<u.n→w0.h.get c=u.h.get c:=fun c hc=>by rw [hw0];simp (disch:=first|omega|(with_unfolding_all exact rfl)|(simp only[new_n,put_n,new_m];omega)|(refine put_m_le ?_;simp only[new_m];omega)) only [get_new_ne]
  have w00:w0.h.get u.n=some (.cells [.nilslice,.nilslice,.nilslice,.nilslice,.int .i64 0] (tag 30)):=by rw [hw0];simp (disch:=first|omega|(with_unfolding_all exact rfl)|(simp only[new_n,put_n,new_m];omega)|(refine put_m_le ?_;simp only[new_m];omega)) only [get_new_ne];exact get_new_eq _ _ _ rfl (by omega)
  have w01:w0.h.get (u.n+1)=some (.cells [.nilslice,.nilslice] (tag 33)):=by rw [hw0];exact get_new_eq _ _ _ rfl (by simp only [new_n];omega)
  generalize hc1:call _ _ _ (.fn 8) _ _=r1
  obtain ⟨x1,t1,rfl,st1,d1,x10,x11⟩:=cast_ex hc1 (by omega) (hd.keep (w0g d hlt)) (by omega) (by omega) (by omega)
  obtain ⟨days,rfl⟩:∃ n:Nat,x1=n:=⟨x1.toNat,by omega⟩
  have hdays:days≤8:=by omega
  have n1:w0.n≤t1.n:=st1.n
  have k1:t1.n≤w0.n:=st1.le
  simp (disch:=first|omega|(with_unfolding_all exact rfl)|(simp only[new_n,put_n,new_m];omega)|(refine put_m_le ?_;simp only[new_m];omega)) only [res7,K7r0,K7r1,K7r2,K7r3,K7r4,K7r5,K7r6,K7r7,K7r8,K7r9,K7r10,K7r11,K7r12,K7r13,K7r14,K7r15,K7r16,K7r17,K7r18,K7r19,K7r20,K7r21s7,K7r21s6,K7r21s5,K7r21s4,K7r21,K7r22,K7r23,K7r24,K7r25,K7r26,K7r27,K7r28,K7r29,K7r30,K7r31,K7r32,K7r33,K7r34s7,K7r34s6,K7r34,K7r35,K7r36,K7r37,K7r38,K7,Abs.W,reduceIte,Nat.reduceEqDiff,Nat.reduceAdd,decide_true,decide_false,kLoop_def,Nat.reduceSub,List.cons_append,List.nil_append,List.append_nil,List.length_cons,List.length_nil,Env.find_set,Nat.reduceAdd]
  simp only [put_n,new_n]
  generalize hw1:St.new (St.put _ _ _) _=w1
  have w1n:w1.n=t1.n+2:=by rw [← hw1];rfl
  have w1m:w1.m=min t1.m t1.n:=by rw [← hw1];simp only [St.put,minN_eq,new_m]
  have w1g:∀ c,c<t1.n→w1.h.get c=t1.h.get c:=fun c hc=>by rw [← hw1];simp (disch:=first|omega|(with_unfolding_all exact rfl)|(simp only[new_n,put_n,new_m];omega)|(refine put_m_le ?_;simp only[new_m];omega)) only [get_new_ne,get_put_ne']
  have w13:w1.h.get t1.n=some (.cells [.nilslice,.nilslice,.nilslice,.nilslice,.int .i64 days] (tag 30)):=by rw [← hw1];simp (disch:=first|omega|(with_unfolding_all exact rfl)|(simp only[new_n,put_n,new_m];omega)|(refine put_m_le ?_;simp only[new_m];omega)) only [get_new_ne];exact get_put_eq _ _ _ _ rfl (by omega)
  have w14:w1.h.get (t1.n+1)=some (.cells [.nilslice,.nilslice] (tag 33)):=by rw [← hw1];exact get_new_eq _ _ _ rfl (by simp only [put_n,new_n];omega)
  have dw1:Die d w1.h:=d1.keep (w1g d (by omega))
  have hM0:Made w1.h w1.n d t1.n (t1.n+1) (t1.n+2) ⟨[],[],[],[],days⟩ [] [] [] [] (fun i=>far+1+i) (fun _=>.nilslice):=⟨dw1,w13,w14,Lists.nil (fun i=>by
   match i with
   | 0=>rfl
   | 1=>rfl
   | 2=>rfl
   | 3=>rfl
   | 4=>rfl
   | 5=>rfl
   | n+6=>rfl) (by omega),rfl,rfl,fun j h1 _ _=>by simp at h1,(fun x hx=>(by cases hx)),⟨by omega,by omega,by omega,by omega⟩⟩
  generalize hc2:call _ _ _ (.fn 20) _ _=r2
  obtain ⟨x2,t2,rfl,st2,d2,x20,x21⟩:=from_ex hc2 (by omega) dw1 (by omega) (by omega) (by omega) (by omega) (by omega) (by omega)
  obtain ⟨i0,rfl⟩:∃ n:Nat,x2=n:=⟨x2.toNat,by omega⟩
  have n2:w1.n≤t2.n:=st2.n
  have k2:t2.n≤w1.n:=st2.le
  have hM1:=hM0.keep d2 (fun c hc hcd=>st2.same c hc hcd) n2
  simp (disch:=first|omega|(with_unfolding_all exact rfl)|(simp only[new_n,put_n,new_m];omega)|(refine put_m_le ?_;simp only[new_m];omega)) only [res7,K7r0,K7r1,K7r2,K7r3,K7r4,K7r5,K7r6,K7r7,K7r8,K7r9,K7r10,K7r11,K7r12,K7r13,K7r14,K7r15,K7r16,K7r17,K7r18,K7r19,K7r20,K7r21s7,K7r21s6,K7r21s5,K7r21s4,K7r21,K7r22,K7r23,K7r24,K7r25,K7r26,K7r27,K7r28,K7r29,K7r30,K7r31,K7r32,K7r33,K7r34s7,K7r34s6,K7r34,K7r35,K7r36,K7r37,K7r38,K7,Abs.W,reduceIte,Nat.reduceEqDiff,Nat.reduceAdd,decide_true,decide_false,kLoop_def,Nat.reduceSub,List.cons_append,List.nil_append,List.append_nil,List.length_cons,List.length_nil,Env.find_set]
  generalize hl0:loopN _ rounds _ _ _ _ _=q0
  obtain ⟨wL,L0,hwL,hL0,hl0'⟩:=loop_start hl0
  subst hwL
  have f0:L0.find 0=.ptr d 0:=by rw [hL0];simp only [find_cons,reduceIte,Nat.reduceEqDiff]
  have f2:L0.find 2=.int .i64 S:=by rw [hL0];simp only [find_cons,reduceIte,Nat.reduceEqDiff]
  have f3:L0.find 3=.int .i64 R:=by rw [hL0];simp only [find_cons,reduceIte,Nat.reduceEqDiff]
  have f10:L0.find 10=.ptr u.n 0:=by rw [hL0];simp only [find_cons,reduceIte,Nat.reduceEqDiff]
  have f11:L0.find 11=.ptr (u.n+1) 0:=by rw [hL0];simp only [find_cons,reduceIte,Nat.reduceEqDiff]
  have f13:L0.find 13=.ptr t1.n 0:=by rw [hL0];simp only [find_cons,reduceIte,Nat.reduceEqDiff]
  have f14:L0.find 14=.ptr (t1.n+1) 0:=by rw [hL0];simp only [find_cons,reduceIte,Nat.reduceEqDiff]
  have f15:L0.find 15=.int .i64 i0:=by rw [hL0];simp only [find_cons,reduceIte,Nat.reduceEqDiff]
  clear hL0 hl0
  obtain ⟨L1,s1,ms,offs,bs1,vs1,rfl,g1,hms,hMs,hM2,G1⟩:=masses_loop (by omega) hl0' (by omega) (by omega) rfl hM1 f0 f13 f14 f15
  have s1n:=G1.n
  have s1l:=G1.le
  have q0:=(g1 0 (by omega)).trans f0
  have q2:=(g1 2 (by omega)).trans f2
  have q3:=(g1 3 (by omega)).trans f3
  have q10:=(g1 10 (by omega)).trans f10
  have q11:=(g1 11 (by omega)).trans f11
  have q13:=(g1 13 (by omega)).trans f13
  have q14:=(g1 14 (by omega)).trans f14
  simp (disch:=first|omega|(with_unfolding_all exact rfl)|(simp only[new_n,put_n,new_m];omega)|(refine put_m_le ?_;simp only[new_m];omega)) only [res7,K7r0,K7r1,K7r2,K7r3,K7r4,K7r5,K7r6,K7r7,K7r8,K7r9,K7r10,K7r11,K7r12,K7r13,K7r14,K7r15,K7r16,K7r17,K7r18,K7r19,K7r20,K7r21s7,K7r21s6,K7r21s5,K7r21s4,K7r21,K7r22,K7r23,K7r24,K7r25,K7r26,K7r27,K7r28,K7r29,K7r30,K7r31,K7r32,K7r33,K7r34s7,K7r34s6,K7r34,K7r35,K7r36,K7r37,K7r38,K7,Abs.W,reduceIte,Nat.reduceEqDiff,Nat.reduceAdd,decide_true,decide_false,kLoop_def,Nat.reduceSub,List.cons_append,List.nil_append,List.append_nil,List.length_cons,List.length_nil,Env.find_set,q0,q2]
  generalize hc3:call _ _ _ (.fn 20) _ _=r3
  obtain ⟨x3,t3,rfl,st3,d3,x30,x31⟩:=from_ex hc3 (by omega) hM2.die (by omega) (by omega) (by omega) (by omega) (by omega) (by omega)
  obtain ⟨i1,rfl⟩:∃ n:Nat,x3=n:=⟨x3.toNat,by omega⟩
  have n3:s1.n≤t3.n:=st3.n
  have k3:t3.n≤s1.n:=st3.le
  have hM3:=hM2.keep d3 (fun c hc hcd=>st3.same c hc hcd) n3
  simp (disch:=first|omega|(with_unfolding_all exact rfl)|(simp only[new_n,put_n,new_m];omega)|(refine put_m_le ?_;simp only[new_m];omega)) only [res7,K7r0,K7r1,K7r2,K7r3,K7r4,K7r5,K7r6,K7r7,K7r8,K7r9,K7r10,K7r11,K7r12,K7r13,K7r14,K7r15,K7r16,K7r17,K7r18,K7r19,K7r20,K7r21s7,K7r21s6,K7r21s5,K7r21s4,K7r21,K7r22,K7r23,K7r24,K7r25,K7r26,K7r27,K7r28,K7r29,K7r30,K7r31,K7r32,K7r33,K7r34s7,K7r34s6,K7r34,K7r35,K7r36,K7r37,K7r38,K7,Abs.W,reduceIte,Nat.reduceEqDiff,Nat.reduceAdd,decide_true,decide_false,kLoop_def,Nat.reduceSub,List.cons_append,List.nil_append,List.append_nil,List.length_cons,List.length_nil,Env.find_set]
  generalize hl2:loopN _ rounds _ _ _ _ _=qq2
  obtain ⟨L2,s2,ss,errs,rv,xs,bs2,vs2,rfl,g2,hss,hSs,hM4,G2⟩:=scales_loop (by omega) hl2 (i:=i1) (by omega) (by omega) hdays rfl hM3 (by simp only [Env.find_set,q0,reduceIte,Nat.reduceEqDiff]) (by simp only [Env.find_set,q13,reduceIte,Nat.reduceEqDiff]) (by simp only [Env.find_set,q14,reduceIte,Nat.reduceEqDiff]) (by simp only [Env.find_set,reduceIte,Nat.reduceEqDiff])
  have s2n:=G2.n
  have s2l:=G2.le
  have y0:=(g2 0 (by omega)).trans (show _=AV.ptr d 0 by simp only [Env.find_set,q0,reduceIte,Nat.reduceEqDiff])
  have y3:=(g2 3 (by omega)).trans (show _=AV.int .i64 R by simp only [Env.find_set,q3,reduceIte,Nat.reduceEqDiff])
  have y10:=(g2 10 (by omega)).trans (show _=AV.ptr u.n 0 by simp only [Env.find_set,q10,reduceIte,Nat.reduceEqDiff])
  have y11:=(g2 11 (by omega)).trans (show _=AV.ptr (u.n+1) 0 by simp only [Env.find_set,q11,reduceIte,Nat.reduceEqDiff])
  have y13:=(g2 13 (by omega)).trans (show _=AV.ptr t1.n 0 by simp only [Env.find_set,q13,reduceIte,Nat.reduceEqDiff])
  have y14:=(g2 14 (by omega)).trans (show _=AV.ptr (t1.n+1) 0 by simp only [Env.find_set,q14,reduceIte,Nat.reduceEqDiff])
  have adR:∀ s,aAdd s .i64 (R:Int) 1=.val (.int .i64 ((R:Int)+1)) s:=fun s=>aAdd_i64 s _ _ (by omega)
  simp (disch:=first|omega|(with_unfolding_all exact rfl)|(simp only[new_n,put_n,new_m];omega)|(refine put_m_le ?_;simp only[new_m];omega)) only [res7,K7r0,K7r1,K7r2,K7r3,K7r4,K7r5,K7r6,K7r7,K7r8,K7r9,K7r10,K7r11,K7r12,K7r13,K7r14,K7r15,K7r16,K7r17,K7r18,K7r19,K7r20,K7r21s7,K7r21s6,K7r21s5,K7r21s4,K7r21,K7r22,K7r23,K7r24,K7r25,K7r26,K7r27,K7r28,K7r29,K7r30,K7r31,K7r32,K7r33,K7r34s7,K7r34s6,K7r34,K7r35,K7r36,K7r37,K7r38,K7,Abs.W,reduceIte,Nat.reduceEqDiff,Nat.reduceAdd,decide_true,decide_false,kLoop_def,Nat.reduceSub,List.cons_append,List.nil_append,List.append_nil,List.length_cons,List.length_nil,Env.find_set,y0,y3,adR]
  generalize hc4:call _ _ _ (.fn 8) _ _=r4
  obtain ⟨x4,t4,rfl,st4,d4,x40,x41⟩:=cast_ex hc4 (by omega) hM4.die (by omega) (by omega) (by omega)
  obtain ⟨i2,rfl⟩:∃ n:Nat,x4=n:=⟨x4.toNat,by omega⟩
  have n4:s2.n≤t4.n:=st4.n
  have k4:t4.n≤s2.n:=st4.le
  have hM5:=hM4.keep d4 (fun c hc hcd=>st4.same c hc hcd) n4
  simp (disch:=first|omega|(with_unfolding_all exact rfl)|(simp only[new_n,put_n,new_m];omega)|(refine put_m_le ?_;simp only[new_m];omega)) only [res7,K7r0,K7r1,K7r2,K7r3,K7r4,K7r5,K7r6,K7r7,K7r8,K7r9,K7r10,K7r11,K7r12,K7r13,K7r14,K7r15,K7r16,K7r17,K7r18,K7r19,K7r20,K7r21s7,K7r21s6,K7r21s5,K7r21s4,K7r21,K7r22,K7r23,K7r24,K7r25,K7r26,K7r27,K7r28,K7r29,K7r30,K7r31,K7r32,K7r33,K7r34s7,K7r34s6,K7r34,K7r35,K7r36,K7r37,K7r38,K7,Abs.W,reduceIte,Nat.reduceEqDiff,Nat.reduceAdd,decide_true,decide_false,kLoop_def,Nat.reduceSub,List.cons_append,List.nil_append,List.append_nil,List.length_cons,List.length_nil,Env.find_set]
  generalize hl3:loopN _ rounds _ _ _ _ _=qq3
  have hF0:FactOf ⟨ms,[],ss,[],days⟩ offs errs:=⟨hMs.ol,hMs.off,hSs.el,hSs.err⟩
  obtain ⟨L3,s3,ws,bs3,vs3,rfl,g3,hws,hWs,hM6,G3⟩:=weighs_loop (by omega) hl3 (i:=i2) (by omega) (by omega) hF0 (by show 1≤ms.length;omega) (by show ms.length≤5;omega) rfl hM5 (by simp only [Env.find_set,y0,reduceIte,Nat.reduceEqDiff]) (by simp only [Env.find_set,y13,reduceIte,Nat.reduceEqDiff]) (by simp only [Env.find_set,y14,reduceIte,Nat.reduceEqDiff]) (by simp only [Env.find_set,reduceIte,Nat.reduceEqDiff])
  have s3n:=G3.n
  have s3l:=G3.le
  have z0:=(g3 0 (by omega)).trans (show _=AV.ptr d 0 by simp only [Env.find_set,y0,reduceIte,Nat.reduceEqDiff])
  have z3:=(g3 3 (by omega)).trans (show _=AV.int .i64 R by simp only [Env.find_set,y3,reduceIte,Nat.reduceEqDiff])
  have z10:=(g3 10 (by omega)).trans (show _=AV.ptr u.n 0 by simp only [Env.find_set,y10,reduceIte,Nat.reduceEqDiff])
  have z11:=(g3 11 (by omega)).trans (show _=AV.ptr (u.n+1) 0 by simp only [Env.find_set,y11,reduceIte,Nat.reduceEqDiff])
  have z13:=(g3 13 (by omega)).trans (show _=AV.ptr t1.n 0 by simp only [Env.find_set,y13,reduceIte,Nat.reduceEqDiff])
  have z14:=(g3 14 (by omega)).trans (show _=AV.ptr (t1.n+1) 0 by simp only [Env.find_set,y14,reduceIte,Nat.reduceEqDiff])
  simp (disch:=first|omega|(with_unfolding_all exact rfl)|(simp only[new_n,put_n,new_m];omega)|(refine put_m_le ?_;simp only[new_m];omega)) only [res7,K7r0,K7r1,K7r2,K7r3,K7r4,K7r5,K7r6,K7r7,K7r8,K7r9,K7r10,K7r11,K7r12,K7r13,K7r14,K7r15,K7r16,K7r17,K7r18,K7r19,K7r20,K7r21s7,K7r21s6,K7r21s5,K7r21s4,K7r21,K7r22,K7r23,K7r24,K7r25,K7r26,K7r27,K7r28,K7r29,K7r30,K7r31,K7r32,K7r33,K7r34s7,K7r34s6,K7r34,K7r35,K7r36,K7r37,K7r38,K7,Abs.W,reduceIte,Nat.reduceEqDiff,Nat.reduceAdd,decide_true,decide_false,kLoop_def,Nat.reduceSub,List.cons_append,List.nil_append,List.append_nil,List.length_cons,List.length_nil,Env.find_set,z0,z3,adR]
  generalize hc5:call _ _ _ (.fn 8) _ _=r5
  obtain ⟨x5,t5,rfl,st5,d5,x50,x51⟩:=cast_ex hc5 (by omega) hM6.die (by omega) (by omega) (by omega)
  obtain ⟨i3,rfl⟩:∃ n:Nat,x5=n:=⟨x5.toNat,by omega⟩
  have n5:s3.n≤t5.n:=st5.n
  have k5:t5.n≤s3.n:=st5.le
  have hM7:=hM6.keep d5 (fun c hc hcd=>st5.same c hc hcd) n5
  simp (disch:=first|omega|(with_unfolding_all exact rfl)|(simp only[new_n,put_n,new_m];omega)|(refine put_m_le ?_;simp only[new_m];omega)) only [res7,K7r0,K7r1,K7r2,K7r3,K7r4,K7r5,K7r6,K7r7,K7r8,K7r9,K7r10,K7r11,K7r12,K7r13,K7r14,K7r15,K7r16,K7r17,K7r18,K7r19,K7r20,K7r21s7,K7r21s6,K7r21s5,K7r21s4,K7r21,K7r22,K7r23,K7r24,K7r25,K7r26,K7r27,K7r28,K7r29,K7r30,K7r31,K7r32,K7r33,K7r34s7,K7r34s6,K7r34,K7r35,K7r36,K7r37,K7r38,K7,Abs.W,reduceIte,Nat.reduceEqDiff,Nat.reduceAdd,decide_true,decide_false,kLoop_def,Nat.reduceSub,List.cons_append,List.nil_append,List.append_nil,List.length_cons,List.length_nil,Env.find_set]
  generalize hl4:loopN _ rounds _ _ _ _ _=qq4
  obtain ⟨L4,s4,ts,bs4,vs4,rfl,g4,hts,hTs,hM8,G4⟩:=trials_loop (by omega) hl4 (i:=i3) (by omega) (by omega) (⟨hF0.ol,hF0.off,hF0.el,hF0.err⟩:FactOf ⟨ms,ws,ss,[],days⟩ offs errs) hMs.ok (by show 1≤ms.length;omega) (by show ms.length≤5;omega) (by show 1≤ss.length;omega) (by show ss.length≤3;omega) hdays rfl hM7 (by simp only [Env.find_set,z0,reduceIte,Nat.reduceEqDiff]) (by simp only [Env.find_set,z13,reduceIte,Nat.reduceEqDiff]) (by simp only [Env.find_set,z14,reduceIte,Nat.reduceEqDiff]) (by simp only [Env.find_set,reduceIte,Nat.reduceEqDiff])
  have s4n:=G4.n
  have s4l:=G4.le
  have a0:=(g4 0 (by omega)).trans (show _=AV.ptr d 0 by simp only [Env.find_set,z0,reduceIte,Nat.reduceEqDiff])
  have a10:=(g4 10 (by omega)).trans (show _=AV.ptr u.n 0 by simp only [Env.find_set,z10,reduceIte,Nat.reduceEqDiff])
  have a11:=(g4 11 (by omega)).trans (show _=AV.ptr (u.n+1) 0 by simp only [Env.find_set,z11,reduceIte,Nat.reduceEqDiff])
  have a13:=(g4 13 (by omega)).trans (show _=AV.ptr t1.n 0 by simp only [Env.find_set,z13,reduceIte,Nat.reduceEqDiff])
  have a14:=(g4 14 (by omega)).trans (show _=AV.ptr (t1.n+1) 0 by simp only [Env.find_set,z14,reduceIte,Nat.reduceEqDiff])
  have okB:Bench.Ok ⟨ms,ws,ss,ts,days⟩:=⟨by show 1≤ms.length;omega,by show ms.length≤5;omega,hMs.ok,by show ws.length≤6;omega,hWs,by show 1≤ss.length;omega,by show ss.length≤3;omega,hSs.ok,hdays,by show ts.length≤6;omega,fun t h=>(hTs t h).1⟩
  have hFB:FactOf ⟨ms,ws,ss,ts,days⟩ offs errs:=⟨hF0.ol,hF0.off,hF0.el,hF0.err⟩
  have base:∀ c,c<u.n+2→c≠d→s4.h.get c=w0.h.get c:=fun c hc hcd=>by
   rw [G4.same c (by omega) hcd (by omega) (by omega),st5.same c (by omega) hcd,G3.same c (by omega) hcd (by omega) (by omega),st4.same c (by omega) hcd,G2.same c (by omega) hcd (by omega) (by omega),st3.same c (by omega) hcd,G1.same c (by omega) hcd (by omega) (by omega),st2.same c (by omega) hcd,w1g c (by omega),st1.same c (by omega) hcd]
  have mm:d≤s4.m:=G4.m (st5.m (G3.m (st4.m (G2.m (st3.m (G1.m (st2.m (by have:=st1.m (by omega);omega))))))))
  have mle:s4.m≤far:=by
   have b1:=G4.mle
   have b2:=st5.mle
   have b3:=G3.mle
   have b4:=st4.mle
   have b5:=G2.mle
   have b6:=st3.mle
   have b7:=G1.mle
   have b8:=st2.mle
   have b9:=st1.mle
   omega
  have v13:=hM8.g13
  have v14:=hM8.g14
  simp (disch:=first|omega|(with_unfolding_all exact rfl)|(simp only[new_n,put_n,new_m];omega)|(refine put_m_le ?_;simp only[new_m];omega)) only [res7,K7r0,K7r1,K7r2,K7r3,K7r4,K7r5,K7r6,K7r7,K7r8,K7r9,K7r10,K7r11,K7r12,K7r13,K7r14,K7r15,K7r16,K7r17,K7r18,K7r19,K7r20,K7r21s7,K7r21s6,K7r21s5,K7r21s4,K7r21,K7r22,K7r23,K7r24,K7r25,K7r26,K7r27,K7r28,K7r29,K7r30,K7r31,K7r32,K7r33,K7r34s7,K7r34s6,K7r34,K7r35,K7r36,K7r37,K7r38,K7,Abs.W,reduceIte,Nat.reduceEqDiff,Nat.reduceAdd,decide_true,decide_false,kLoop_def,Nat.reduceSub,List.cons_append,List.nil_append,List.append_nil,List.length_cons,List.length_nil,Env.find_set,a13,a14,v13,v14,Nat.zero_add]
  have sc5:scalars [vs4 0,vs4 1,vs4 2,vs4 3,.int .i64 (days:Int)]=true:=by rw [scals_cons (hM8.ls.at_ 0).scal.1,scals_cons (hM8.ls.at_ 1).scal.1,scals_cons (hM8.ls.at_ 2).scal.1,scals_cons (hM8.ls.at_ 3).scal.1];rfl
  have sc2':scalars [vs4 4,vs4 5]=true:=by rw [scals_cons (hM8.ls.at_ 4).scal.1];exact (hM8.ls.at_ 5).scal.1
  have pl0:plain (vs4 0)=false:=by
   rcases (hM8.ls.at_ 0).is with ⟨h,_⟩ | ⟨_,_,h,_⟩
   ·have:=congrArg List.length h
    rw [show (benchR ⟨ms,ws,ss,ts,days⟩ offs rv 0)=ms.map Mass.cells from rfl,List.length_map] at this
    simp at this
    subst this
    simp at hms
    omega
   ·rw [h];rfl
  have plt:∀ l x y,plain (.tup [.agg (vs4 0::l),x,y])=false:=fun l x y=>by simp [plain,plains,pl0]
  have sh5:shapeT Try.prog 30=some (some 5):=by kernel_rfl
  have sh2:shapeT Try.prog 33=some (some 2):=by kernel_rfl
  generalize hh1:call Try.prog X n (.fn 26) _ _=rh1
  obtain ⟨q1,rfl,hq1⟩:=Holding_ex (b:=⟨ms,ws,ss,ts,days⟩) hh1 (by omega) okB hFB hM8.bench hM8.fact (by omega)
  have ok3:=(hM8.ls.at_ 3).okA
  have hlt4:=hM8.bench.t.len
  rw [List.length_map] at hlt4
  simp only at hlt4
  have c10:s4.h.get u.n=some (.cells [.nilslice,.nilslice,.nilslice,.nilslice,.int .i64 0] (tag 30)):=(base u.n (by omega) (by omega)).trans w00
  have c11:s4.h.get (u.n+1)=some (.cells [.nilslice,.nilslice] (tag 33)):=(base (u.n+1) (by omega) (by omega)).trans w01
  by_cases hts0:ts.length=0
  ·have e0:decide ((0:Int)<(ts.length:Int))=false:=decide_eq_false (by omega)
   simp (disch:=first|omega|(with_unfolding_all exact rfl)|(simp only[new_n,put_n,new_m];omega)|(refine put_m_le ?_;simp only[new_m];omega)) only [res7,K7r0,K7r1,K7r2,K7r3,K7r4,K7r5,K7r6,K7r7,K7r8,K7r9,K7r10,K7r11,K7r12,K7r13,K7r14,K7r15,K7r16,K7r17,K7r18,K7r19,K7r20,K7r21s7,K7r21s6,K7r21s5,K7r21s4,K7r21,K7r22,K7r23,K7r24,K7r25,K7r26,K7r27,K7r28,K7r29,K7r30,K7r31,K7r32,K7r33,K7r34s7,K7r34s6,K7r34,K7r35,K7r36,K7r37,K7r38,K7,Abs.W,reduceIte,Nat.reduceEqDiff,Nat.reduceAdd,decide_true,decide_false,kLoop_def,Nat.reduceSub,List.cons_append,List.nil_append,List.append_nil,List.length_cons,List.length_nil,Env.find_set,a0,a10,a11,a13,a14,v13,v14,ok3,hlt4,e0,Nat.zero_add]
   have e13:=hM8.g13
   have e14:=hM8.g14
   have zn:=s4n
   simp (disch:=first|omega|(with_unfolding_all exact rfl)|(simp only[new_n,put_n,new_m];omega)|(refine put_m_le ?_;simp only[new_m];omega)) only [res7,K7r0,K7r1,K7r2,K7r3,K7r4,K7r5,K7r6,K7r7,K7r8,K7r9,K7r10,K7r11,K7r12,K7r13,K7r14,K7r15,K7r16,K7r17,K7r18,K7r19,K7r20,K7r21s7,K7r21s6,K7r21s5,K7r21s4,K7r21,K7r22,K7r23,K7r24,K7r25,K7r26,K7r27,K7r28,K7r29,K7r30,K7r31,K7r32,K7r33,K7r34s7,K7r34s6,K7r34,K7r35,K7r36,K7r37,K7r38,K7,Abs.W,reduceIte,Nat.reduceEqDiff,Nat.reduceAdd,decide_true,decide_false,kLoop_def,Nat.reduceSub,List.cons_append,List.nil_append,List.append_nil,List.length_cons,List.length_nil,Env.find_set,a10,a11,a13,a14,e13,e14,c10,c11,sc5,sc2',Nat.zero_add]
   rw [endO_ok _ (by
    rw [endOk_cons,endOk_nil]
    simp only [find_cons,Env.find_set,a10,a14,reduceIte,Nat.reduceEqDiff]
    exact apart_ptr (by omega))]
   simp (disch:=first|omega|(with_unfolding_all exact rfl)|(simp only[new_n,put_n,new_m];omega)|(refine put_m_le ?_;simp only[new_m];omega)) only [res7,K7r0,K7r1,K7r2,K7r3,K7r4,K7r5,K7r6,K7r7,K7r8,K7r9,K7r10,K7r11,K7r12,K7r13,K7r14,K7r15,K7r16,K7r17,K7r18,K7r19,K7r20,K7r21s7,K7r21s6,K7r21s5,K7r21s4,K7r21,K7r22,K7r23,K7r24,K7r25,K7r26,K7r27,K7r28,K7r29,K7r30,K7r31,K7r32,K7r33,K7r34s7,K7r34s6,K7r34,K7r35,K7r36,K7r37,K7r38,K7,Abs.W,reduceIte,Nat.reduceEqDiff,Nat.reduceAdd,decide_true,decide_false,kLoop_def,Nat.reduceSub,List.cons_append,List.nil_append,List.append_nil,List.length_cons,List.length_nil,Env.find_set,a10,a11]
   rw [leave_cct (v:=.agg [vs4 0,vs4 1,vs4 2,vs4 3,.int .i64 days]) (v':=.agg [vs4 4,vs4 5]) 10 30 11 33 12 _ _ sh5 sh2 (by simp only [Env.find_set,a10,reduceIte,Nat.reduceEqDiff];rw [load_ptr,get_put_ne' _ _ _ _ (by omega),get_put_eq _ _ _ _ rfl (by omega),loadO_cells,partS_some];rfl) (by simp only [Env.find_set,a11,reduceIte,Nat.reduceEqDiff];rw [load_ptr,get_put_eq _ _ _ _ rfl (by omega),loadO_cells,partS_some];rfl)]
   have fr:∀ c,c<u.n→c≠d→s4.h.get c=u.h.get c:=fun c hc hcd=>(base c (by omega) hcd).trans (w0g c hc)
   refine ⟨_,_,rfl,⟨fun c hc hcd=>?_,by simp only [put_n];omega,by simp only [put_n];omega,fun _=>?_,?_⟩,plt _ _ _,⟨ms,ws,ss,ts,days⟩,offs,errs,_,_,_,_,_,_,q1,by simp only [Env.find_set,reduceIte,Nat.reduceEqDiff],hM8.die.keep ?_,okB,hFB,hq1,hM8.frozen.mono (fun c h1 h2=>?_) (by omega) (by simp only [put_n];omega),(hM8.stands 1).mono (fun c h1 h2=>?_) (by omega) (by simp only [put_n];omega),(hM8.stands 3).mono (fun c h1 h2=>?_) (by omega) (by simp only [put_n];omega),by show ws.length≤R;omega,by show ts.length≤R;omega⟩
   ·rw [get_put_ne' _ _ _ _ (by omega),get_put_ne' _ _ _ _ (by omega)];exact fr c hc hcd
   ·have:=mm
    simp only [St.put,minN_eq];omega
   ·have:=mle
    simp only [St.put,minN_eq];omega
   ·rw [get_put_ne' _ _ _ _ (by omega),get_put_ne' _ _ _ _ (by omega)]
   ·rw [get_put_ne' _ _ _ _ (by omega),get_put_ne' _ _ _ _ (by omega)]
   ·rw [get_put_ne' _ _ _ _ (by omega),get_put_ne' _ _ _ _ (by omega)]
   ·rw [get_put_ne' _ _ _ _ (by omega),get_put_ne' _ _ _ _ (by omega)]
  ·have e0:decide ((0:Int)<(ts.length:Int))=true:=decide_eq_true (by omega)
   simp (disch:=first|omega|(with_unfolding_all exact rfl)|(simp only[new_n,put_n,new_m];omega)|(refine put_m_le ?_;simp only[new_m];omega)) only [res7,K7r0,K7r1,K7r2,K7r3,K7r4,K7r5,K7r6,K7r7,K7r8,K7r9,K7r10,K7r11,K7r12,K7r13,K7r14,K7r15,K7r16,K7r17,K7r18,K7r19,K7r20,K7r21s7,K7r21s6,K7r21s5,K7r21s4,K7r21,K7r22,K7r23,K7r24,K7r25,K7r26,K7r27,K7r28,K7r29,K7r30,K7r31,K7r32,K7r33,K7r34s7,K7r34s6,K7r34,K7r35,K7r36,K7r37,K7r38,K7,Abs.W,reduceIte,Nat.reduceEqDiff,Nat.reduceAdd,decide_true,decide_false,kLoop_def,Nat.reduceSub,List.cons_append,List.nil_append,List.append_nil,List.length_cons,List.length_nil,Env.find_set,a0,a10,a11,a13,a14,v13,v14,ok3,hlt4,e0,Nat.zero_add]
   generalize hc6:call _ _ _ (.fn 23) _ _=r6
   obtain ⟨q2,t6,rfl,st6,d6⟩:=once_ex hc6 (by omega) hM8.die (by omega) (by omega) (by omega)
   have n6:s4.n≤t6.n:=st6.n
   have k6:t6.n≤s4.n:=st6.le
   have hM9:=hM8.keep d6 (fun c hc hcd=>st6.same c hc hcd) n6
   have m6:=st6.m mm
   have ml6:=st6.mle
   have c10':=(st6.same u.n (by omega) (by omega)).trans c10
   have c11':=(st6.same (u.n+1) (by omega) (by omega)).trans c11
   cases q2 with
   | false =>
    simp (disch:=first|omega|(with_unfolding_all exact rfl)|(simp only[new_n,put_n,new_m];omega)|(refine put_m_le ?_;simp only[new_m];omega)) only [res7,K7r0,K7r1,K7r2,K7r3,K7r4,K7r5,K7r6,K7r7,K7r8,K7r9,K7r10,K7r11,K7r12,K7r13,K7r14,K7r15,K7r16,K7r17,K7r18,K7r19,K7r20,K7r21s7,K7r21s6,K7r21s5,K7r21s4,K7r21,K7r22,K7r23,K7r24,K7r25,K7r26,K7r27,K7r28,K7r29,K7r30,K7r31,K7r32,K7r33,K7r34s7,K7r34s6,K7r34,K7r35,K7r36,K7r37,K7r38,K7,Abs.W,reduceIte,Nat.reduceEqDiff,Nat.reduceAdd,decide_true,decide_false,kLoop_def,Nat.reduceSub,List.cons_append,List.nil_append,List.append_nil,List.length_cons,List.length_nil,Env.find_set,Nat.zero_add]
    have e13:=hM9.g13
    have e14:=hM9.g14
    have zn:=n6
    simp (disch:=first|omega|(with_unfolding_all exact rfl)|(simp only[new_n,put_n,new_m];omega)|(refine put_m_le ?_;simp only[new_m];omega)) only [res7,K7r0,K7r1,K7r2,K7r3,K7r4,K7r5,K7r6,K7r7,K7r8,K7r9,K7r10,K7r11,K7r12,K7r13,K7r14,K7r15,K7r16,K7r17,K7r18,K7r19,K7r20,K7r21s7,K7r21s6,K7r21s5,K7r21s4,K7r21,K7r22,K7r23,K7r24,K7r25,K7r26,K7r27,K7r28,K7r29,K7r30,K7r31,K7r32,K7r33,K7r34s7,K7r34s6,K7r34,K7r35,K7r36,K7r37,K7r38,K7,Abs.W,reduceIte,Nat.reduceEqDiff,Nat.reduceAdd,decide_true,decide_false,kLoop_def,Nat.reduceSub,List.cons_append,List.nil_append,List.append_nil,List.length_cons,List.length_nil,Env.find_set,a10,a11,a13,a14,e13,e14,c10',c11',sc5,sc2',Nat.zero_add]
    rw [endO_ok _ (by
     rw [endOk_cons,endOk_nil]
     simp only [find_cons,Env.find_set,a10,a14,reduceIte,Nat.reduceEqDiff]
     exact apart_ptr (by omega))]
    simp (disch:=first|omega|(with_unfolding_all exact rfl)|(simp only[new_n,put_n,new_m];omega)|(refine put_m_le ?_;simp only[new_m];omega)) only [res7,K7r0,K7r1,K7r2,K7r3,K7r4,K7r5,K7r6,K7r7,K7r8,K7r9,K7r10,K7r11,K7r12,K7r13,K7r14,K7r15,K7r16,K7r17,K7r18,K7r19,K7r20,K7r21s7,K7r21s6,K7r21s5,K7r21s4,K7r21,K7r22,K7r23,K7r24,K7r25,K7r26,K7r27,K7r28,K7r29,K7r30,K7r31,K7r32,K7r33,K7r34s7,K7r34s6,K7r34,K7r35,K7r36,K7r37,K7r38,K7,Abs.W,reduceIte,Nat.reduceEqDiff,Nat.reduceAdd,decide_true,decide_false,kLoop_def,Nat.reduceSub,List.cons_append,List.nil_append,List.append_nil,List.length_cons,List.length_nil,Env.find_set,a10,a11]
    rw [leave_cct (v:=.agg [vs4 0,vs4 1,vs4 2,vs4 3,.int .i64 days]) (v':=.agg [vs4 4,vs4 5]) 10 30 11 33 12 _ _ sh5 sh2 (by simp only [Env.find_set,a10,reduceIte,Nat.reduceEqDiff];rw [load_ptr,get_put_ne' _ _ _ _ (by omega),get_put_eq _ _ _ _ rfl (by omega),loadO_cells,partS_some];rfl) (by simp only [Env.find_set,a11,reduceIte,Nat.reduceEqDiff];rw [load_ptr,get_put_eq _ _ _ _ rfl (by omega),loadO_cells,partS_some];rfl)]
    have fr:∀ c,c<u.n→c≠d→t6.h.get c=u.h.get c:=fun c hc hcd=>(st6.same c (by omega) hcd).trans ((base c (by omega) hcd).trans (w0g c hc))
    refine ⟨_,_,rfl,⟨fun c hc hcd=>?_,by simp only [put_n];omega,by simp only [put_n];omega,fun _=>?_,?_⟩,plt _ _ _,⟨ms,ws,ss,ts,days⟩,offs,errs,_,_,_,_,_,_,q1,by simp only [Env.find_set,reduceIte,Nat.reduceEqDiff],d6.keep ?_,okB,hFB,hq1,hM9.frozen.mono (fun c h1 h2=>?_) (by omega) (by simp only [put_n];omega),(hM9.stands 1).mono (fun c h1 h2=>?_) (by omega) (by simp only [put_n];omega),(hM9.stands 3).mono (fun c h1 h2=>?_) (by omega) (by simp only [put_n];omega),by show ws.length≤R;omega,by show ts.length≤R;omega⟩
    ·rw [get_put_ne' _ _ _ _ (by omega),get_put_ne' _ _ _ _ (by omega)];exact fr c hc hcd
    ·have:=m6
     simp only [St.put,minN_eq];omega
    ·have:=ml6
     simp only [St.put,minN_eq];omega
    ·rw [get_put_ne' _ _ _ _ (by omega),get_put_ne' _ _ _ _ (by omega)]
    ·rw [get_put_ne' _ _ _ _ (by omega),get_put_ne' _ _ _ _ (by omega)]
    ·rw [get_put_ne' _ _ _ _ (by omega),get_put_ne' _ _ _ _ (by omega)]
    ·rw [get_put_ne' _ _ _ _ (by omega),get_put_ne' _ _ _ _ (by omega)]
   | true =>
    have w13':=hM9.g13
    simp (disch:=first|omega|(with_unfolding_all exact rfl)|(simp only[new_n,put_n,new_m];omega)|(refine put_m_le ?_;simp only[new_m];omega)) only [res7,K7r0,K7r1,K7r2,K7r3,K7r4,K7r5,K7r6,K7r7,K7r8,K7r9,K7r10,K7r11,K7r12,K7r13,K7r14,K7r15,K7r16,K7r17,K7r18,K7r19,K7r20,K7r21s7,K7r21s6,K7r21s5,K7r21s4,K7r21,K7r22,K7r23,K7r24,K7r25,K7r26,K7r27,K7r28,K7r29,K7r30,K7r31,K7r32,K7r33,K7r34s7,K7r34s6,K7r34,K7r35,K7r36,K7r37,K7r38,K7,Abs.W,reduceIte,Nat.reduceEqDiff,Nat.reduceAdd,decide_true,decide_false,kLoop_def,Nat.reduceSub,List.cons_append,List.nil_append,List.append_nil,List.length_cons,List.length_nil,Env.find_set,a0,a13,w13',ok3,hlt4,Nat.zero_add]
    generalize hc7:call _ _ _ (.fn 8) _ _=r7
    obtain ⟨x7,t7,rfl,st7,d7,x70,x71⟩:=cast_ex hc7 (by omega) d6 (by show d<t6.n;omega) (by show t6.n+100≤far;omega) (by omega)
    have n7:t6.n≤t7.n:=st7.n
    have k7:t7.n≤t6.n:=st7.le
    obtain ⟨j,rfl⟩:∃ n:Nat,x7=n:=⟨x7.toNat,by omega⟩
    have hj:j<ts.length:=by omega
    have tbl:=hM9.ls.lo 3
    obtain ⟨tb1,tbv,tbg⟩:bs4 3<t6.n∧vs4 3=.slice (bs4 3) 0 ts.length ts.length true∧t6.h.get (bs4 3)=some (.cells (ts.map Trial.cells).flatten (4+tag 58)):=by
     rcases (hM9.ls.at_ 3).is with ⟨h,_⟩ | ⟨_,h1,h2,h3⟩
     ·have:=congrArg List.length h
      rw [show (benchR ⟨ms,ws,ss,ts,days⟩ offs rv 3)=ts.map Trial.cells from rfl,List.length_map] at this
      exact absurd this hts0
     ·rw [show (benchR ⟨ms,ws,ss,ts,days⟩ offs rv 3)=ts.map Trial.cells from rfl,List.length_map] at h2
      exact ⟨h1,h2,h3⟩
    have g77:∀ c,c<t6.n→c≠d→t7.h.get c=t6.h.get c:=fun c hc hcd=>st7.same c hc hcd
    have ix:∀ s,ixsA 4 s (vs4 3) (.int .i64 (j:Int))=.val (.ptr (bs4 3) (j * 4)) s:=fun s=>by rw [tbv,ixs_slice _ _ _ _ _ _ _ _ hj,Nat.zero_add]
    simp (disch:=first|omega|(with_unfolding_all exact rfl)|(simp only[new_n,put_n,new_m];omega)|(refine put_m_le ?_;simp only[new_m];omega)) only [thenT_turn,Abs.W,reduceIte,Nat.reduceEqDiff,Nat.reduceAdd,decide_true,decide_false,kLoop_def,Nat.reduceSub,List.cons_append,List.nil_append,List.append_nil,List.length_cons,List.length_nil,Env.find_set,ix]
    rw [endT_kept (l:=[255]) (s':=t7) (by simp only [keptAll_cons,keptAll_nil,find_cons,Env.find_set,keptV_ptr,w13',g77 t1.n (by omega) (by omega),sameO_cells,reduceIte,Nat.reduceEqDiff,Bool.and_self])]
    obtain ⟨T,hT⟩:∃ T,T=ts[j]:=⟨_,rfl⟩
    have hTm:T ∈ ts:=by rw [hT];exact List.getElem_mem hj
    obtain ⟨hTok,hTsh⟩:=hTs T hTm
    have wd:∀ r ∈ ts.map Trial.cells,r.length=4:=fun r hr=>by obtain ⟨x,_,rfl⟩:=List.mem_map.mp hr;rfl
    have hjm:j<(ts.map Trial.cells).length:=by rw [List.length_map];exact hj
    have hset:(ts.map Trial.cells).set j T.cells=ts.map Trial.cells:=by
     rw [hT,← List.map_set]
     congr 1
     exact List.set_getElem_self hj
    have ld:nth (ts.map Trial.cells).flatten (j * 4+3)=.int .i64 T.shown:=by
     have:=nth_cell wd hjm T.cells 3 rfl (by omega)
     rw [hset] at this
     exact this
    have tb7:=(g77 (bs4 3) tb1 (by omega)).trans tbg
    simp (disch:=first|omega|(with_unfolding_all exact rfl)|(simp only[new_n,put_n,new_m];omega)|(refine put_m_le ?_;simp only[new_m];omega)) only [res7,K7r0,K7r1,K7r2,K7r3,K7r4,K7r5,K7r6,K7r7,K7r8,K7r9,K7r10,K7r11,K7r12,K7r13,K7r14,K7r15,K7r16,K7r17,K7r18,K7r19,K7r20,K7r21s7,K7r21s6,K7r21s5,K7r21s4,K7r21,K7r22,K7r23,K7r24,K7r25,K7r26,K7r27,K7r28,K7r29,K7r30,K7r31,K7r32,K7r33,K7r34s7,K7r34s6,K7r34,K7r35,K7r36,K7r37,K7r38,K7,Abs.W,reduceIte,Nat.reduceEqDiff,Nat.reduceAdd,decide_true,decide_false,kLoop_def,Nat.reduceSub,List.cons_append,List.nil_append,List.append_nil,List.length_cons,List.length_nil,Env.find_set,a0,tb7,ld,Nat.zero_add]
    generalize hc8:call _ _ _ (.fn 20) _ _=r8
    obtain ⟨x8,t8,rfl,st8,d8,x80,x81⟩:=from_ex hc8 (by omega) d7 (by show d<t7.n;omega) (by show t7.n+200≤far;omega) (by omega) (by omega) (by omega) (by omega)
    have n8:t7.n≤t8.n:=st8.n
    have k8:t8.n≤t7.n:=st8.le
    have g88:∀ c,c<t6.n→c≠d→t8.h.get c=t6.h.get c:=fun c hc hcd=>(st8.same c (by show c<t7.n;omega) hcd).trans (g77 c hc hcd)
    have tb8:=(g88 (bs4 3) tb1 (by omega)).trans tbg
    have hx0:=hTok.x0
    have hx1:=hTok.x1
    have a8:∀ s,aAdd s .i64 T.shown x8=.val (.int .i64 (T.shown+x8)) s:=fun s=>aAdd_i64 s _ _ (by omega)
    obtain ⟨T',hT'⟩:∃ T':Trial,T'={ T with shown:=max 0 (T.shown+x8) }:=⟨_,rfl⟩
    have hT'c:T.cells.set 3 (.int .i64 (max 0 (T.shown+x8)))=T'.cells:=by rw [hT'];rfl
    have ov:over (j * 4+3) [.int .i64 (max 0 (T.shown+x8))] (ts.map Trial.cells).flatten=some ((ts.map Trial.cells).set j T'.cells).flatten:=by
     have:=over_cell wd hjm T.cells 3 (.int .i64 (max 0 (T.shown+x8))) rfl (by omega)
     rw [hset,hT'c] at this
     exact this
    have T'ok:T'.Ok ss.length ms.length days:=by rw [hT'];exact ⟨hTok.s0,hTok.s1,hTok.m0,hTok.m1,hTok.d0,hTok.d1,by simp only;omega,by simp only;omega⟩
    obtain ⟨y8,hy8⟩:∃ y8:St,y8=⟨t8.h,t8.n,minN (minN t6.m t7.m) t8.m⟩:=⟨_,rfl⟩
    have y8n:y8.n=t8.n:=by rw [hy8]
    have y8h:y8.h=t8.h:=by rw [hy8]
    have y8m:y8.m=min (min t6.m t7.m) t8.m:=by rw [hy8];simp only [minN_eq]
    have hMA:Made y8.h y8.n d t1.n (t1.n+1) (t1.n+2) ⟨ms,ws,ss,ts,days⟩ offs errs rv xs bs4 vs4:=by rw [y8h];exact hM9.keep d8 g88 (by omega)
    have hMB:=hMA.setTrial (j:=j) hj T' (by omega) (4+tag 58) (by rw [y8h];exact tb8)
    simp (disch:=first|omega|(with_unfolding_all exact rfl)|(simp only[new_n,put_n,new_m];omega)|(refine put_m_le ?_;simp only[new_m];omega)) only [thenT_turn,Abs.W,reduceIte,Nat.reduceEqDiff,Nat.reduceAdd,decide_true,decide_false,kLoop_def,Nat.reduceSub,List.cons_append,List.nil_append,List.append_nil,List.length_cons,List.length_nil,Env.find_set,a8,kFold_def,foldA_nil,foldA_cons,maxA_i64,tb8,ov]
    rw [endT_kept (l:=[266]) (s':=t8) (by simp only [keptAll_cons,keptAll_nil,find_cons,Env.find_set,keptV_ptr,tb7,tb8,sameO_cells,reduceIte,Nat.reduceEqDiff,Bool.and_self])]
    simp (disch:=first|omega|(with_unfolding_all exact rfl)|(simp only[new_n,put_n,new_m];omega)|(refine put_m_le ?_;simp only[new_m];omega)) only [Abs.W,reduceIte,Nat.reduceEqDiff,Nat.reduceAdd,decide_true,decide_false,kLoop_def,Nat.reduceSub,List.cons_append,List.nil_append,List.append_nil,List.length_cons,List.length_nil,Env.find_set]
    rw [← hy8]
    have okB':Bench.Ok ⟨ms,ws,ss,ts.set j T',days⟩:=⟨by show 1≤ms.length;omega,by show ms.length≤5;omega,hMs.ok,by show ws.length≤6;omega,hWs,by show 1≤ss.length;omega,by show ss.length≤3;omega,hSs.ok,hdays,by show (ts.set j T').length≤6;rw [List.length_set];omega,fun t h=>by
     rcases List.mem_or_eq_of_mem_set h with h | h
     ·exact (hTs t h).1
     ·rw [h];exact T'ok⟩
    have hFB':FactOf ⟨ms,ws,ss,ts.set j T',days⟩ offs errs:=⟨hF0.ol,hF0.off,hF0.el,hF0.err⟩
    have lo3:t1.n+2≤bs4 3:=by have:=tbl;omega
    have e13:=hMB.g13
    have e14:=hMB.g14
    have dz:=hMB.die
    have hbz:=hMB.bench
    have hfz:=hMB.fact
    have hfr:=hMB.frozen
    have hst1:=hMB.stands 1
    have hst3:=hMB.stands 3
    obtain ⟨z,hz⟩:∃ z:St,z=y8.put (bs4 3) (.cells ((ts.map Trial.cells).set j T'.cells).flatten (4+tag 58)):=⟨_,rfl⟩
    have zn:z.n=t8.n:=by rw [hz];exact y8n
    have zm:z.m=min y8.m (bs4 3):=by rw [hz];simp only [St.put,minN_eq]
    have zg:∀ c,c≠bs4 3→z.h.get c=t8.h.get c:=fun c hc=>by rw [hz,get_put_ne' _ _ _ _ hc,y8h]
    have zy:z.n=y8.n:=by rw [hz];rfl
    rw [← hz] at e13 e14 dz hbz hfz hfr hst1 hst3 ⊢
    rw [← zy] at hbz hfz hfr hst1 hst3
    simp (disch:=first|omega|(with_unfolding_all exact rfl)|(simp only[new_n,put_n,new_m];omega)|(refine put_m_le ?_;simp only[new_m];omega)) only [res7,K7r0,K7r1,K7r2,K7r3,K7r4,K7r5,K7r6,K7r7,K7r8,K7r9,K7r10,K7r11,K7r12,K7r13,K7r14,K7r15,K7r16,K7r17,K7r18,K7r19,K7r20,K7r21s7,K7r21s6,K7r21s5,K7r21s4,K7r21,K7r22,K7r23,K7r24,K7r25,K7r26,K7r27,K7r28,K7r29,K7r30,K7r31,K7r32,K7r33,K7r34s7,K7r34s6,K7r34,K7r35,K7r36,K7r37,K7r38,K7,Abs.W,reduceIte,Nat.reduceEqDiff,Nat.reduceAdd,decide_true,decide_false,kLoop_def,Nat.reduceSub,List.cons_append,List.nil_append,List.append_nil,List.length_cons,List.length_nil,Env.find_set,a0,a10,a11,a13,a14,e13,e14,Nat.zero_add]
    generalize hh2:call Try.prog X n (.fn 26) _ _=rh2
    obtain ⟨q2,rfl,hq2⟩:=Holding_ex (b:=⟨ms,ws,ss,ts.set j T',days⟩) hh2 (by omega) okB' hFB' hbz hfz (by omega)
    have c10':=(zg u.n (by omega)).trans ((g88 u.n (by omega) (by omega)).trans ((st6.same u.n (by omega) (by omega)).trans c10))
    have c11':=(zg (u.n+1) (by omega)).trans ((g88 (u.n+1) (by omega) (by omega)).trans ((st6.same (u.n+1) (by omega) (by omega)).trans c11))
    simp (disch:=first|omega|(with_unfolding_all exact rfl)|(simp only[new_n,put_n,new_m];omega)|(refine put_m_le ?_;simp only[new_m];omega)) only [res7,K7r0,K7r1,K7r2,K7r3,K7r4,K7r5,K7r6,K7r7,K7r8,K7r9,K7r10,K7r11,K7r12,K7r13,K7r14,K7r15,K7r16,K7r17,K7r18,K7r19,K7r20,K7r21s7,K7r21s6,K7r21s5,K7r21s4,K7r21,K7r22,K7r23,K7r24,K7r25,K7r26,K7r27,K7r28,K7r29,K7r30,K7r31,K7r32,K7r33,K7r34s7,K7r34s6,K7r34,K7r35,K7r36,K7r37,K7r38,K7,Abs.W,reduceIte,Nat.reduceEqDiff,Nat.reduceAdd,decide_true,decide_false,kLoop_def,Nat.reduceSub,List.cons_append,List.nil_append,List.append_nil,List.length_cons,List.length_nil,Env.find_set,a10,a11,a13,a14,e13,e14,c10',c11',sc5,sc2',Nat.zero_add]
    rw [endO_ok _ (by
     rw [endOk_cons,endOk_nil]
     simp only [find_cons,Env.find_set,a10,a14,reduceIte,Nat.reduceEqDiff]
     exact apart_ptr (by omega))]
    simp (disch:=first|omega|(with_unfolding_all exact rfl)|(simp only[new_n,put_n,new_m];omega)|(refine put_m_le ?_;simp only[new_m];omega)) only [res7,K7r0,K7r1,K7r2,K7r3,K7r4,K7r5,K7r6,K7r7,K7r8,K7r9,K7r10,K7r11,K7r12,K7r13,K7r14,K7r15,K7r16,K7r17,K7r18,K7r19,K7r20,K7r21s7,K7r21s6,K7r21s5,K7r21s4,K7r21,K7r22,K7r23,K7r24,K7r25,K7r26,K7r27,K7r28,K7r29,K7r30,K7r31,K7r32,K7r33,K7r34s7,K7r34s6,K7r34,K7r35,K7r36,K7r37,K7r38,K7,Abs.W,reduceIte,Nat.reduceEqDiff,Nat.reduceAdd,decide_true,decide_false,kLoop_def,Nat.reduceSub,List.cons_append,List.nil_append,List.append_nil,List.length_cons,List.length_nil,Env.find_set,a10,a11]
    rw [leave_cct (v:=.agg [vs4 0,vs4 1,vs4 2,vs4 3,.int .i64 days]) (v':=.agg [vs4 4,vs4 5]) 10 30 11 33 12 _ _ sh5 sh2 (by simp only [Env.find_set,a10,reduceIte,Nat.reduceEqDiff];rw [load_ptr,get_put_ne' _ _ _ _ (by omega),get_put_eq _ _ _ _ rfl (by omega),loadO_cells,partS_some];rfl) (by simp only [Env.find_set,a11,reduceIte,Nat.reduceEqDiff];rw [load_ptr,get_put_eq _ _ _ _ rfl (by omega),loadO_cells,partS_some];rfl)]
    have fr:∀ c,c<u.n→c≠d→z.h.get c=u.h.get c:=fun c hc hcd=>(zg c (by omega)).trans ((g88 c (by omega) hcd).trans ((st6.same c (by omega) hcd).trans ((base c (by omega) hcd).trans (w0g c hc))))
    have m7:d≤t7.m:=st7.m (by show d≤far;omega)
    have m8:d≤t8.m:=st8.m (by show d≤far;omega)
    have ml8:=st8.mle
    refine ⟨_,_,rfl,⟨fun c hc hcd=>?_,by simp only [put_n];omega,by simp only [put_n];omega,fun _=>?_,?_⟩,plt _ _ _,⟨ms,ws,ss,ts.set j T',days⟩,offs,errs,_,_,_,_,_,_,q2,by simp only [Env.find_set,reduceIte,Nat.reduceEqDiff],dz.keep ?_,okB',hFB',hq2,hfr.mono (fun c h1 h2=>?_) (by omega) (by simp only [put_n];omega),hst1.mono (fun c h1 h2=>?_) (by omega) (by simp only [put_n];omega),hst3.mono (fun c h1 h2=>?_) (by omega) (by simp only [put_n];omega),by show ws.length≤R;omega,by show (ts.set j T').length≤R;rw [List.length_set];omega⟩
    ·rw [get_put_ne' _ _ _ _ (by omega),get_put_ne' _ _ _ _ (by omega)];exact fr c hc hcd
    ·have:=m6
     simp only [St.put,minN_eq] at zm ⊢;omega
    ·have:=ml8
     simp only [St.put,minN_eq] at zm ⊢;omega
    ·rw [get_put_ne' _ _ _ _ (by omega),get_put_ne' _ _ _ _ (by omega)]
    ·rw [get_put_ne' _ _ _ _ (by omega),get_put_ne' _ _ _ _ (by omega)]
    ·rw [get_put_ne' _ _ _ _ (by omega),get_put_ne' _ _ _ _ (by omega)]
    ·rw [get_put_ne' _ _ _ _ (by omega),get_put_ne' _ _ _ _ (by omega)]) (by omega)
 obtain ⟨hq1,hq2,hq3,hq4,hq5,hq6,hq7,hq8,hq9⟩:=hq
 exact ⟨b,offs,errs,v1,v2,v3,v4,v5,v6,q,t,hr.symm.trans e,st,hq1,hq2,hq3,hq4,hq5,hq6,hq7,hq8,hq9⟩
end Go.Proofs.Ytfekafjfidohdaa.walk
set_option maxRecDepth 10000
namespace Go.Proofs.Ytfekafjfidohdaa.walk
open Go.Abs Go.Proofs.Ytfekafjfidohdaa.code
theorem Closed.less {n m:Nat} {E:Nat→Nat→Gap} (c:Closed n E) (h:m≤n):Closed m E:=⟨fun i hi=>c.zero i (by omega),fun i j hi hj=>c.anti i j (by omega) (by omega),fun i j k hi hj hk=>c.tri i j k (by omega) (by omega) (by omega)⟩
theorem givE_most {b:Bench} (ok:b.Ok) {F:Nat→Nat→Gap} (cF:Closed (big b) F) (hg:∀ i,i<givMany b→Says (givAt b i) F):∀ i,i≤givMany b→LeE (i+1) F (givE b i)
 | 0,_=>fun x y hx hy=>by
  obtain rfl:x=0:=by omega
  obtain rfl:y=0:=by omega
  rw [cF.zero 0 (by show 0<givMany b+1;omega)]
  exact ⟨Int.le_refl _,Int.le_refl _⟩
 | i+1,h=>by
  obtain ⟨ga,gb,g1,g2,g3⟩:=givAt_ok ok (show i<givMany b by omega)
  have s:=hg i (by omega)
  have s':Says ⟨i+1,(givAt b i).b,(givAt b i).gap⟩ F:=by
   have:=s
   unfold Says at this ⊢
   rw [ga] at this
   exact this
  exact moreE_most (givE_closed ok i (by omega)).1 (cF.less (by show i+1+1≤givMany b+1;omega)) (givE_most ok cF hg i (by omega)) s' gb g2
theorem knT_most {b:Bench} (ok:b.Ok) {F:Nat→Nat→Gap} (cF:Closed (big b) F) (hg:∀ i,i<givMany b→Says (givAt b i) F):∀ k,k≤resMany b→(∀ i,i<k→Says (resAt b i) F)→∃ T,knT b k=some T∧LeE (big b) F (ent T)
 | 0,_,_=>⟨_,rfl,fun i j hi hj=>by rw [tabOf_ent _ hi hj];exact givE_most ok cF hg _ (Nat.le_refl _) i j hi hj⟩
 | k+1,h,hr=>by
  obtain ⟨T,hT,l⟩:=knT_most ok cF hg k (by omega) fun i hi=>hr i (by omega)
  obtain ⟨ra,rb,_⟩:=resAt_ok ok (show k<resMany b by omega)
  have kk:=knT_ok ok k T (by omega) hT
  obtain ⟨nr,l'⟩:=withE_most kk.cl cF l (hr k (by omega)) ra rb
  have nr':=refB_iff.mpr nr
  refine ⟨withT (big b) T (resAt b k),?_,fun i j hi hj=>?_⟩
  ·show (match knT b k with | none=>none | some T=>if refB T (resAt b k)=true then none else some (withT (big b) T (resAt b k)))=_
   rw [hT]
   show (if refB T (resAt b k)=true then none else some (withT (big b) T (resAt b k)))=_
   rw [if_neg (by rw [nr'];exact Bool.false_ne_true)]
  ·rw [withT_tabOf,tabOf_ent _ hi hj];exact l' i j hi hj
theorem givE_old (b:Bench) {i x y:Nat} (hx:x<i+1) (hy:y<i+1):∀ j,givE b (i+j) x y=givE b i x y
 | 0=>rfl
 | j+1=>by rw [← Nat.add_assoc,givE_succ,moreE_old (by omega) (by omega)];exact givE_old b hx hy j
theorem givE_at {b:Bench} (ok:b.Ok) {i:Nat} (h:i<givMany b):givE b (givMany b) (i+1) (givAt b i).b=(givAt b i).gap:=by
 obtain ⟨ga,gb,_⟩:=givAt_ok ok h
 obtain ⟨j,hj⟩:∃ j,givMany b=i+1+j:=⟨givMany b - (i+1),by omega⟩
 rw [hj,givE_old b (by omega) (by omega) j,givE_succ]
 exact moreE_says (givE_closed ok i (by omega)).1 gb
theorem knT_le {b:Bench} (ok:b.Ok):∀ k T,k≤resMany b→knT b k=some T→LeE (big b) (ent T) (givE b (givMany b))
 | 0,T,_,h=>by
  cases h
  exact fun i j hi hj=>by rw [tabOf_ent _ hi hj];exact ⟨Int.le_refl _,Int.le_refl _⟩
 | k+1,T,hk,h=>by
  have h':(match knT b k with | none=>none | some T=>if refB T (resAt b k)=true then none else some (withT (big b) T (resAt b k)))=some T:=h
  cases e:knT b k with
  | none=>rw [e] at h';cases h'
  | some T0 =>
   rw [e] at h'
   change (if refB T0 (resAt b k)=true then none else some (withT (big b) T0 (resAt b k)))=some T at h'
   by_cases hr:refB T0 (resAt b k)=true
   ·rw [if_pos hr] at h';cases h'
   ·rw [if_neg hr] at h'
    cases h'
    exact LeE.trans (show LeE (big b) (ent (withT (big b) T0 (resAt b k))) (ent T0) from fun i j hi hj=>by rw [withT_tabOf,tabOf_ent _ hi hj];exact withE_le (big b) (ent T0) (resAt b k) i j hi hj) (knT_le ok k T0 (by omega) e)
end Go.Proofs.Ytfekafjfidohdaa.walk
