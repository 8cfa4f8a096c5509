/- Benches made of numbers: the loops. -/
import Derived.Test.YtoolodjbfphkjaaM3
import Derived.Test.YtoolodjbfphkjaaWalkAll
set_option linter.unusedSimpArgs false
set_option maxHeartbeats 16000000
set_option linter.unusedVariables false
set_option maxRecDepth 10000
namespace Go.Proofs.Ytoolodjbfphkjaa.walk
open Go.Abs Go.Proofs.Ytoolodjbfphkjaa.code
structure MsOk (b:Bench) (offs:List Int):Prop where
 ol:offs.length=b.ms.length
 off:∀ i (h:i<b.ms.length),b.ms[i].lo≤offs.getD i 0∧offs.getD i 0≤b.ms[i].hi ∧ -20≤offs.getD i 0∧offs.getD i 0≤20
 ok:∀ m ∈ b.ms,m.Ok
theorem MsOk.push {b:Bench} {offs:List Int} (h:MsOk b offs) {M:Mass} {x:Int} (hM:M.Ok) (hx:M.lo≤x∧x≤M.hi ∧ -20≤x∧x≤20):MsOk { b with ms:=b.ms++[M] } (offs++[x]):=by
 obtain ⟨h1,h2,h3⟩:=h
 refine ⟨by simp [h1],fun i hi=>?_,fun m hm=>?_⟩
 ·simp only at hi ⊢
  by_cases e:i<b.ms.length
  ·rw [List.getElem_append_left e,getD_front (by omega)];exact h2 i e
  ·have:i=b.ms.length:=by rw [List.length_append,List.length_singleton] at hi;omega
   subst this
   have e2:(offs++[x]).getD b.ms.length 0=x:=by rw [← h1];exact getD_back
   rw [List.getElem_append_right (Nat.le_refl _),e2]
   simp only [Nat.sub_self,List.getElem_singleton]
   exact hx
 ·rcases List.mem_append.mp hm with hm | hm
  ·exact h3 m hm
  ·simp at hm;subst hm;exact hM
structure SsOk (b:Bench) (errs:List (List Int)):Prop where
 el:errs.length=b.ss.length
 err:∀ k (h:k<b.ss.length),RowOf b.ss[k] b.days (errs.getD k [])
 ok:∀ s ∈ b.ss,s.Ok
theorem SsOk.push {b:Bench} {errs:List (List Int)} (h:SsOk b errs) {S:Scl} {l:List Int} (hS:S.Ok) (hl:RowOf S b.days l):SsOk { b with ss:=b.ss++[S] } (errs++[l]):=by
 obtain ⟨h1,h2,h3⟩:=h
 refine ⟨by simp [h1],fun i hi=>?_,fun m hm=>?_⟩
 ·simp only at hi ⊢
  by_cases e:i<b.ss.length
  ·have:(errs++[l]).getD i []=errs.getD i []:=by simp [List.getD,List.getElem?_append_left (by omega:i<errs.length)]
   rw [List.getElem_append_left e,this];exact h2 i e
  ·have:i=b.ss.length:=by rw [List.length_append,List.length_singleton] at hi;omega
   subst this
   have e2:(errs++[l]).getD b.ss.length []=l:=by rw [← h1];simp [List.getD]
   rw [List.getElem_append_right (Nat.le_refl _),e2]
   simp only [Nat.sub_self,List.getElem_singleton]
   exact hl
 ·rcases List.mem_append.mp hm with hm | hm
  ·exact h3 m hm
  ·simp at hm;subst hm;exact hS
theorem masses_loop {N:Nat} (hN:6≤N) {cx:Ctx} {d p13 p14 lo i:Nat} {b:Bench} {rv:List AV} {xs:List Nat} {errs:List (List Int)} {bs:Nat→Nat} {vs:Nat→AV} {L:Env} {s:St} {r:R} (hl:loopN K5l0 rounds (call Try.prog X N) cx L [] s=r) (hi:i≤5) (hs:s.n+10000≤far) (hb:b.ms=[])
  (hM:Made s.h s.n d p13 p14 lo b [] errs rv xs bs vs) (l0:L.find 0=.ptr d 0) (l13:L.find 13=.ptr p13 0) (l14:L.find 14=.ptr p14 0) (l15:L.find 15=.int .i64 i) :
  ∃ L1 s1 ms offs bs1 vs1,r=.done (.exit 0) L1 [] s1∧(∀ t,t=0∨t=2∨t=3∨t=10∨t=11∨t=12∨t=13∨t=14→L1.find t=L.find t)∧ms.length=i∧MsOk { b with ms:=ms } offs∧Made s1.h s1.n d p13 p14 lo { b with ms:=ms } offs errs rv xs bs1 vs1∧Goes s s1 d p13 p14 lo (30 * i):=by
 have hf:far=1000000000:=rfl
 obtain ⟨e,L1,s1,rfl,rfl,ms,offs,bs1,vs1,h1,h2,h3,h4,h5⟩:=loop_of hl (fun j L' t=>∃ ms offs bs1 vs1,(∀ t,t=0∨t=2∨t=3∨t=10∨t=11∨t=12∨t=13∨t=14→L'.find t=L.find t)∧L'.find 15=.int .i64 ((i:Int) - j)∧ms.length=j∧MsOk { b with ms:=ms } offs∧Made t.h t.n d p13 p14 lo { b with ms:=ms } offs errs rv xs bs1 vs1∧Goes s t d p13 p14 lo (30 * j))
  (fun e L' t=>e=.exit 0∧∃ ms offs bs1 vs1,(∀ t,t=0∨t=2∨t=3∨t=10∨t=11∨t=12∨t=13∨t=14→L'.find t=L.find t)∧ms.length=i∧MsOk { b with ms:=ms } offs∧Made t.h t.n d p13 p14 lo { b with ms:=ms } offs errs rv xs bs1 vs1∧Goes s t d p13 p14 lo (30 * i)) i (by unfold rounds;omega)
  ⟨[],[],bs,vs,fun _ _=>rfl,by rw [l15];simp,rfl,⟨rfl,fun i h=>by simp at h,fun m hm=>by cases hm⟩,by rw [← hb];exact hM,Goes.refl _ _ _ _ _⟩
  (fun j L' t hj ⟨ms,offs,bs1,vs1,q,q15,hm,hk,hM,hG⟩=>by
   have tl:=hG.le
   have tn:=hG.n
   have hol:=hk.ol
   simp only at hol
   by_cases hlt:j<i
   ·obtain ⟨L2,t2,M,x,bs2,vs2,p1,p2,p3,p4,p5,p6,p7⟩:=made_mass N hN cx (i:=i - j) (by omega) (by omega) (by omega) hM (by show ms.length≤10;omega) (by omega) ((q 0 (by omega)).trans l0) ((q 13 (by omega)).trans l13) ((q 14 (by omega)).trans l14) (by rw [q15];congr 1;omega)
    exact .inl ⟨hlt,L2,t2,p1,ms++[M],offs++[x],bs2,vs2,fun t ht=>(p2 t ht).trans (q t ht),by rw [p3];congr 1;omega,by rw [List.length_append,hm];rfl,hk.push p4 p5,p6,(hG.trans p7).mono (by omega)⟩
   ·obtain rfl:j=i:=by omega
    have e0:decide ((0:Int)<0)=false:=rfl
    rw [Int.sub_self] at q15
    refine .inr ⟨.exit 0,L'.set 38 (.bool false),t,by simp,?_,rfl,ms,offs,bs1,vs1,fun t ht=>?_,hm,hk,hM,hG⟩
    ·simp (disch:=first|omega|(with_unfolding_all exact rfl)|(simp only[new_n,put_n,new_m];omega)|(refine put_m_le ?_;simp only[new_m];omega)) only [res5,K5r0,K5r1,K5r2,K5r3,K5r4,K5r5,K5r6,K5r7,K5r8,K5r9,K5r10,K5r11,K5r12,K5r13,K5r14,K5r15,K5r16,K5r17,K5r18,K5r19,K5r20,K5r21s7,K5r21s6,K5r21s5,K5r21s4,K5r21,K5r22,K5r23,K5r24,K5r25,K5r26,K5r27,K5r28,K5r29,K5r30,K5r31,K5r32,K5r33,K5r34s7,K5r34s6,K5r34,K5r35,K5r36,K5r37,K5r38,K5,K5l0,Abs.W,reduceIte,Nat.reduceEqDiff,Nat.reduceAdd,decide_true,decide_false,kLoop_def,Nat.reduceSub,List.cons_append,List.nil_append,List.append_nil,List.length_cons,List.length_nil,efs,q15,e0]
    ·rw [efs,if_neg (by omega)];exact q t ht)
 exact ⟨L1,s1,ms,offs,bs1,vs1,rfl,h1,h2,h3,h4,h5⟩
theorem scales_loop {N:Nat} (hN:6≤N) {cx:Ctx} {d p13 p14 lo i:Nat} {b:Bench} {offs:List Int} {bs:Nat→Nat} {vs:Nat→AV} {L:Env} {s:St} {r:R} (hl:loopN K5l2 rounds (call Try.prog X N) cx L [] s=r) (hi:i≤3) (hs:s.n+10000≤far) (hdy:b.days≤8) (hb:b.ss=[])
  (hM:Made s.h s.n d p13 p14 lo b offs [] [] [] bs vs) (l0:L.find 0=.ptr d 0) (l13:L.find 13=.ptr p13 0) (l14:L.find 14=.ptr p14 0) (l17:L.find 17=.int .i64 i) :
  ∃ L1 s1 ss errs rv xs bs1 vs1,r=.done (.exit 2) L1 [] s1∧(∀ t,t=0∨t=3∨t=10∨t=11∨t=12∨t=13∨t=14→L1.find t=L.find t)∧ss.length=i∧SsOk { b with ss:=ss } errs∧Made s1.h s1.n d p13 p14 lo { b with ss:=ss } offs errs rv xs bs1 vs1∧Goes s s1 d p13 p14 lo (120 * i):=by
 have hf:far=1000000000:=rfl
 obtain ⟨e,L1,s1,rfl,rfl,ss,errs,rv,xs,bs1,vs1,h1,h2,h3,h4,h5⟩:=loop_of hl (fun j L' t=>∃ ss errs rv xs bs1 vs1,(∀ t,t=0∨t=3∨t=10∨t=11∨t=12∨t=13∨t=14→L'.find t=L.find t)∧L'.find 17=.int .i64 ((i:Int) - j)∧ss.length=j∧SsOk { b with ss:=ss } errs∧Made t.h t.n d p13 p14 lo { b with ss:=ss } offs errs rv xs bs1 vs1∧Goes s t d p13 p14 lo (120 * j))
  (fun e L' t=>e=.exit 2∧∃ ss errs rv xs bs1 vs1,(∀ t,t=0∨t=3∨t=10∨t=11∨t=12∨t=13∨t=14→L'.find t=L.find t)∧ss.length=i∧SsOk { b with ss:=ss } errs∧Made t.h t.n d p13 p14 lo { b with ss:=ss } offs errs rv xs bs1 vs1∧Goes s t d p13 p14 lo (120 * i)) i (by unfold rounds;omega)
  ⟨[],[],[],[],bs,vs,fun _ _=>rfl,by rw [l17];simp,rfl,⟨rfl,fun i h=>by simp at h,fun m hm=>by cases hm⟩,by rw [← hb];exact hM,Goes.refl _ _ _ _ _⟩
  (fun j L' t hj ⟨ss,errs,rv,xs,bs1,vs1,q,q17,hm,hk,hM,hG⟩=>by
   have tl:=hG.le
   have tn:=hG.n
   have hol:=hk.el
   simp only at hol
   by_cases hlt:j<i
   ·obtain ⟨L2,t2,S,l,rv2,xs2,bs2,vs2,p1,p2,p3,p4,p5,p6,p7⟩:=made_scale N hN cx (b:={ b with ss:=ss }) (i:=i - j) (by omega) (by omega) (by omega) hdy hM (by show ss.length≤10;omega) (by omega) ((q 0 (by omega)).trans l0) ((q 13 (by omega)).trans l13) ((q 14 (by omega)).trans l14) (by rw [q17];congr 1;omega)
    exact .inl ⟨hlt,L2,t2,p1,ss++[S],errs++[l],rv2,xs2,bs2,vs2,fun t ht=>(p2 t ht).trans (q t ht),by rw [p3];congr 1;omega,by rw [List.length_append,hm];rfl,hk.push p4 p5,p6,(hG.trans p7).mono (by omega)⟩
   ·obtain rfl:j=i:=by omega
    have e0:decide ((0:Int)<0)=false:=rfl
    rw [Int.sub_self] at q17
    refine .inr ⟨.exit 2,L'.set 75 (.bool false),t,by simp,?_,rfl,ss,errs,rv,xs,bs1,vs1,fun t ht=>?_,hm,hk,hM,hG⟩
    ·simp (disch:=first|omega|(with_unfolding_all exact rfl)|(simp only[new_n,put_n,new_m];omega)|(refine put_m_le ?_;simp only[new_m];omega)) only [res5,K5r0,K5r1,K5r2,K5r3,K5r4,K5r5,K5r6,K5r7,K5r8,K5r9,K5r10,K5r11,K5r12,K5r13,K5r14,K5r15,K5r16,K5r17,K5r18,K5r19,K5r20,K5r21s7,K5r21s6,K5r21s5,K5r21s4,K5r21,K5r22,K5r23,K5r24,K5r25,K5r26,K5r27,K5r28,K5r29,K5r30,K5r31,K5r32,K5r33,K5r34s7,K5r34s6,K5r34,K5r35,K5r36,K5r37,K5r38,K5,K5l2,Abs.W,reduceIte,Nat.reduceEqDiff,Nat.reduceAdd,decide_true,decide_false,kLoop_def,Nat.reduceSub,List.cons_append,List.nil_append,List.append_nil,List.length_cons,List.length_nil,efs,q17,e0]
    ·rw [efs,if_neg (by omega)];exact q t ht)
 exact ⟨L1,s1,ss,errs,rv,xs,bs1,vs1,rfl,h1,h2,h3,h4,h5⟩
theorem weighs_loop {N:Nat} (hN:6≤N) {cx:Ctx} {d p13 p14 lo i:Nat} {b:Bench} {offs:List Int} {errs:List (List Int)} {rv:List AV} {xs:List Nat} {bs:Nat→Nat} {vs:Nat→AV} {L:Env} {s:St} {r:R} (hl:loopN K5l3 rounds (call Try.prog X N) cx L [] s=r) (hi:i≤6) (hs:s.n+10000≤far) (hF:FactOf b offs errs) (hm1:1≤b.ms.length) (hm5:b.ms.length≤5) (hb:b.ws=[])
  (hM:Made s.h s.n d p13 p14 lo b offs errs rv xs bs vs) (l0:L.find 0=.ptr d 0) (l13:L.find 13=.ptr p13 0) (l14:L.find 14=.ptr p14 0) (l21:L.find 21=.int .i64 i) :
  ∃ L1 s1 ws bs1 vs1,r=.done (.exit 6) L1 [] s1∧(∀ t,t=0∨t=3∨t=10∨t=11∨t=12∨t=13∨t=14→L1.find t=L.find t)∧ws.length≤i∧(∀ w ∈ ws,w.Ok b.ms.length)∧Made s1.h s1.n d p13 p14 lo { b with ws:=ws } offs errs rv xs bs1 vs1∧Goes s s1 d p13 p14 lo (30 * i):=by
 have hf:far=1000000000:=rfl
 obtain ⟨e,L1,s1,rfl,rfl,ws,bs1,vs1,h1,h2,h3,h4,h5⟩:=loop_of hl (fun j L' t=>∃ ws bs1 vs1,(∀ t,t=0∨t=3∨t=10∨t=11∨t=12∨t=13∨t=14→L'.find t=L.find t)∧L'.find 21=.int .i64 ((i:Int) - j)∧ws.length=j∧(∀ w ∈ ws,w.Ok b.ms.length)∧Made t.h t.n d p13 p14 lo { b with ws:=ws } offs errs rv xs bs1 vs1∧Goes s t d p13 p14 lo (30 * j))
  (fun e L' t=>e=.exit 6∧∃ ws bs1 vs1,(∀ t,t=0∨t=3∨t=10∨t=11∨t=12∨t=13∨t=14→L'.find t=L.find t)∧ws.length≤i∧(∀ w ∈ ws,w.Ok b.ms.length)∧Made t.h t.n d p13 p14 lo { b with ws:=ws } offs errs rv xs bs1 vs1∧Goes s t d p13 p14 lo (30 * i)) i (by unfold rounds;omega)
  ⟨[],bs,vs,fun _ _=>rfl,by rw [l21];simp,rfl,(fun m hm=>(by cases hm)),by rw [← hb];exact hM,Goes.refl _ _ _ _ _⟩
  (fun j L' t hj ⟨ws,bs1,vs1,q,q21,hm,hk,hM,hG⟩=>by
   have tl:=hG.le
   have tn:=hG.n
   by_cases hlt:j<i∧2≤b.ms.length
   ·obtain ⟨L2,t2,W,bs2,vs2,p1,p2,p3,p4,p6,p7⟩:=made_weigh N hN cx (i:=i - j) (by omega) (by omega) (by omega) (⟨hF.ol,hF.off,hF.el,hF.err⟩:FactOf { b with ws:=ws } offs errs) hM (by show ws.length≤10;omega) hlt.2 hm5 ((q 0 (by omega)).trans l0) ((q 13 (by omega)).trans l13) ((q 14 (by omega)).trans l14) (by rw [q21];congr 1;omega)
    refine .inl ⟨hlt.1,L2,t2,p1,ws++[W],bs2,vs2,fun t ht=>(p2 t ht).trans (q t ht),by rw [p3];congr 1;omega,by rw [List.length_append,hm];rfl,fun w hw=>?_,p6,(hG.trans p7).mono (by omega)⟩
    rcases List.mem_append.mp hw with hw | hw
    ·exact hk w hw
    ·simp at hw;subst hw;exact p4
   ·have g13:=hM.g13
    have ok0:=(hM.ls.at_ 0).okA
    have hlm:=hM.bench.m.len
    rw [List.length_map] at hlm
    have q13:=(q 13 (by omega)).trans l13
    refine .inr ⟨.exit 6,L'.set 139 (.bool false),t,by simp,?_,rfl,ws,bs1,vs1,fun t ht=>?_,by omega,hk,hM,hG.mono (by omega)⟩
    ·by_cases hji:j<i
     ·have e0:decide ((0:Int)<(i:Int) - (j:Int))=true:=decide_eq_true (by omega)
      have e1:decide ((1:Int)<(b.ms.length:Int))=false:=decide_eq_false (by omega)
      simp (disch:=first|omega|(with_unfolding_all exact rfl)|(simp only[new_n,put_n,new_m];omega)|(refine put_m_le ?_;simp only[new_m];omega)) only [res5,K5r0,K5r1,K5r2,K5r3,K5r4,K5r5,K5r6,K5r7,K5r8,K5r9,K5r10,K5r11,K5r12,K5r13,K5r14,K5r15,K5r16,K5r17,K5r18,K5r19,K5r20,K5r21s7,K5r21s6,K5r21s5,K5r21s4,K5r21,K5r22,K5r23,K5r24,K5r25,K5r26,K5r27,K5r28,K5r29,K5r30,K5r31,K5r32,K5r33,K5r34s7,K5r34s6,K5r34,K5r35,K5r36,K5r37,K5r38,K5,K5l3,Abs.W,reduceIte,Nat.reduceEqDiff,Nat.reduceAdd,decide_true,decide_false,kLoop_def,Nat.reduceSub,List.cons_append,List.nil_append,List.append_nil,List.length_cons,List.length_nil,efs,Nat.zero_add,q21,q13,g13,ok0,hlm,e0,e1]
     ·have e0:decide ((0:Int)<(i:Int) - (j:Int))=false:=decide_eq_false (by omega)
      simp (disch:=first|omega|(with_unfolding_all exact rfl)|(simp only[new_n,put_n,new_m];omega)|(refine put_m_le ?_;simp only[new_m];omega)) only [res5,K5r0,K5r1,K5r2,K5r3,K5r4,K5r5,K5r6,K5r7,K5r8,K5r9,K5r10,K5r11,K5r12,K5r13,K5r14,K5r15,K5r16,K5r17,K5r18,K5r19,K5r20,K5r21s7,K5r21s6,K5r21s5,K5r21s4,K5r21,K5r22,K5r23,K5r24,K5r25,K5r26,K5r27,K5r28,K5r29,K5r30,K5r31,K5r32,K5r33,K5r34s7,K5r34s6,K5r34,K5r35,K5r36,K5r37,K5r38,K5,K5l3,Abs.W,reduceIte,Nat.reduceEqDiff,Nat.reduceAdd,decide_true,decide_false,kLoop_def,Nat.reduceSub,List.cons_append,List.nil_append,List.append_nil,List.length_cons,List.length_nil,efs,Nat.zero_add,q21,q13,g13,ok0,hlm,e0]
    ·rw [efs,if_neg (by omega)];exact q t ht)
 exact ⟨L1,s1,ws,bs1,vs1,rfl,h1,h2,h3,h4,h5⟩
theorem trials_loop {N:Nat} (hN:6≤N) {cx:Ctx} {d p13 p14 lo i:Nat} {b:Bench} {offs:List Int} {errs:List (List Int)} {rv:List AV} {xs:List Nat} {bs:Nat→Nat} {vs:Nat→AV} {L:Env} {s:St} {r:R} (hl:loopN K5l4 rounds (call Try.prog X N) cx L [] s=r) (hi:i≤6) (hs:s.n+10000≤far) (hF:FactOf b offs errs) (hmok:∀ m ∈ b.ms,m.Ok) (hm1:1≤b.ms.length) (hm5:b.ms.length≤5) (hs1:1≤b.ss.length) (hs3:b.ss.length≤3) (hdy:b.days≤8) (hb:b.ts=[])
  (hM:Made s.h s.n d p13 p14 lo b offs errs rv xs bs vs) (l0:L.find 0=.ptr d 0) (l13:L.find 13=.ptr p13 0) (l14:L.find 14=.ptr p14 0) (l25:L.find 25=.int .i64 i) :
  ∃ L1 s1 ts bs1 vs1,r=.done (.exit 8) L1 [] s1∧(∀ t,t=0∨t=3∨t=10∨t=11∨t=12∨t=13∨t=14→L1.find t=L.find t)∧ts.length=i∧(∀ t ∈ ts,t.Ok b.ss.length b.ms.length b.days∧t.shown≤1500000)∧Made s1.h s1.n d p13 p14 lo { b with ts:=ts } offs errs rv xs bs1 vs1∧Goes s s1 d p13 p14 lo (30 * i):=by
 have hf:far=1000000000:=rfl
 obtain ⟨e,L1,s1,rfl,rfl,ts,bs1,vs1,h1,h2,h3,h4,h5⟩:=loop_of hl (fun j L' t=>∃ ts bs1 vs1,(∀ t,t=0∨t=3∨t=10∨t=11∨t=12∨t=13∨t=14→L'.find t=L.find t)∧L'.find 25=.int .i64 ((i:Int) - j)∧ts.length=j∧(∀ w ∈ ts,w.Ok b.ss.length b.ms.length b.days∧w.shown≤1500000)∧Made t.h t.n d p13 p14 lo { b with ts:=ts } offs errs rv xs bs1 vs1∧Goes s t d p13 p14 lo (30 * j))
  (fun e L' t=>e=.exit 8∧∃ ts bs1 vs1,(∀ t,t=0∨t=3∨t=10∨t=11∨t=12∨t=13∨t=14→L'.find t=L.find t)∧ts.length=i∧(∀ w ∈ ts,w.Ok b.ss.length b.ms.length b.days∧w.shown≤1500000)∧Made t.h t.n d p13 p14 lo { b with ts:=ts } offs errs rv xs bs1 vs1∧Goes s t d p13 p14 lo (30 * i)) i (by unfold rounds;omega)
  ⟨[],bs,vs,fun _ _=>rfl,by rw [l25];simp,rfl,(fun m hm=>(by cases hm)),by rw [← hb];exact hM,Goes.refl _ _ _ _ _⟩
  (fun j L' t hj ⟨ts,bs1,vs1,q,q25,hm,hk,hM,hG⟩=>by
   have tl:=hG.le
   have tn:=hG.n
   by_cases hlt:j<i
   ·obtain ⟨L2,t2,W,bs2,vs2,p1,p2,p3,p4,p6,p7⟩:=made_trial N hN cx (i:=i - j) (by omega) (by omega) (by omega) (⟨hF.ol,hF.off,hF.el,hF.err⟩:FactOf { b with ts:=ts } offs errs) hmok hM (by show ts.length≤10;omega) hm1 hm5 hs1 hs3 hdy ((q 0 (by omega)).trans l0) ((q 13 (by omega)).trans l13) ((q 14 (by omega)).trans l14) (by rw [q25];congr 1;omega)
    refine .inl ⟨hlt,L2,t2,p1,ts++[W],bs2,vs2,fun t ht=>(p2 t ht).trans (q t ht),by rw [p3];congr 1;omega,by rw [List.length_append,hm];rfl,fun w hw=>?_,p6,(hG.trans p7).mono (by omega)⟩
    rcases List.mem_append.mp hw with hw | hw
    ·exact hk w hw
    ·simp at hw;subst hw;exact p4
   ·obtain rfl:j=i:=by omega
    have e0:decide ((0:Int)<0)=false:=rfl
    rw [Int.sub_self] at q25
    refine .inr ⟨.exit 8,L'.set 192 (.bool false),t,by simp,?_,rfl,ts,bs1,vs1,fun t ht=>?_,hm,hk,hM,hG⟩
    ·simp (disch:=first|omega|(with_unfolding_all exact rfl)|(simp only[new_n,put_n,new_m];omega)|(refine put_m_le ?_;simp only[new_m];omega)) only [res5,K5r0,K5r1,K5r2,K5r3,K5r4,K5r5,K5r6,K5r7,K5r8,K5r9,K5r10,K5r11,K5r12,K5r13,K5r14,K5r15,K5r16,K5r17,K5r18,K5r19,K5r20,K5r21s7,K5r21s6,K5r21s5,K5r21s4,K5r21,K5r22,K5r23,K5r24,K5r25,K5r26,K5r27,K5r28,K5r29,K5r30,K5r31,K5r32,K5r33,K5r34s7,K5r34s6,K5r34,K5r35,K5r36,K5r37,K5r38,K5,K5l4,Abs.W,reduceIte,Nat.reduceEqDiff,Nat.reduceAdd,decide_true,decide_false,kLoop_def,Nat.reduceSub,List.cons_append,List.nil_append,List.append_nil,List.length_cons,List.length_nil,efs,q25,e0]
    ·rw [efs,if_neg (by omega)];exact q t ht)
 exact ⟨L1,s1,ts,bs1,vs1,rfl,h1,h2,h3,h4,h5⟩
end Go.Proofs.Ytoolodjbfphkjaa.walk
set_option maxRecDepth 10000
namespace Go.Abs
theorem over_one:∀ (R l:List AV) (k:Nat) (v:AV),k<R.length→over k [v] (R++l)=some (R.set k v++l)
 | [],l,k,v,h=>by simp at h
 | a::R,l,0,v,_=>by rw [List.cons_append,over_cons,if_pos rfl,over1_cons,over1_nil];rfl
 | a::R,l,k+1,v,h=>by rw [List.cons_append,over_cons,if_neg (by omega),Nat.add_sub_cancel,over_one R l k v (by simpa using h)];rfl
theorem set_parts {rows:List (List AV)} {w i:Nat} {R:List AV} (hw:∀ r ∈ rows,r.length=w) (hi:i<rows.length):∃ a l,(rows.set i R).flatten=a++(R++l)∧a.length=i * w∧∀ R',(rows.set i R').flatten=a++(R'++l):=by
 have e:∀ R',(rows.set i R').flatten=(rows.take i).flatten++(R'++(rows.drop (i+1)).flatten):=fun R'=>by
  rw [List.set_eq_take_append_cons_drop,if_pos hi,List.flatten_append,List.flatten_cons]
 exact ⟨_,_,e R,by rw [flatten_len (w:=w) (fun r hr=>hw r (List.mem_of_mem_take hr)),List.length_take,Nat.min_eq_left (by omega)],e⟩
theorem nth_cell {rows:List (List AV)} {w i:Nat} (hw:∀ r ∈ rows,r.length=w) (hi:i<rows.length) (R:List AV) (k:Nat) (hR:R.length=w) (hk:k<w):nth (rows.set i R).flatten (i * w+k)=nth R k:=by
 obtain ⟨a,l,h1,h2,_⟩:=set_parts (R:=R) hw hi
 rw [h1,← h2,nth_skip,nth_front _ _ _ (by omega)]
theorem over_cell {rows:List (List AV)} {w i:Nat} (hw:∀ r ∈ rows,r.length=w) (hi:i<rows.length) (R:List AV) (k:Nat) (v:AV) (hR:R.length=w) (hk:k<w):over (i * w+k) [v] (rows.set i R).flatten=some (rows.set i (R.set k v)).flatten:=by
 obtain ⟨a,l,h1,h2,h3⟩:=set_parts (R:=R) hw hi
 rw [h1,← h2,over_skip,over_one _ _ _ _ (by omega),h3]
 rfl
end Go.Abs
namespace Go.Proofs.Ytoolodjbfphkjaa.walk
open Go.Abs Go.Proofs.Ytoolodjbfphkjaa.code
def Stands (h:Heap) (lo n:Nat) (v:AV):Prop:=v=.nilslice∨∃ b o l c e cs sz,v=.slice b o l c e∧lo≤b∧b<n∧h.get b=some (.cells cs sz)
theorem Stands.mono {h h':Heap} {lo lo' n n':Nat} {v:AV} (g:Stands h lo n v) (hh:∀ x,lo≤x→x<n→h'.get x=h.get x) (hl:lo'≤lo) (hn:n≤n'):Stands h' lo' n' v:=by
 rcases g with h | ⟨b,o,l,c,e,cs,sz,h1,h2,h3,h4⟩
 ·exact .inl h
 ·exact .inr ⟨b,o,l,c,e,cs,sz,h1,by omega,by omega,by rw [hh b h2 h3];exact h4⟩
theorem Stands.kept {h h':Heap} {lo n:Nat} {v:AV} (g:Stands h lo n v) (hh:∀ x,lo≤x→x<n→h'.get x=h.get x):keptV h h' v=true:=by
 rcases g with rfl | ⟨b,o,l,c,e,cs,sz,rfl,h2,h3,h4⟩
 ·exact keptV_nils _ _
 ·rw [keptV_slice,hh b h2 h3,h4,sameO_cells]
theorem Made.stands {h:Heap} {n d p13 p14 lo:Nat} {b:Bench} {offs:List Int} {errs:List (List Int)} {rv:List AV} {xs:List Nat} {bs:Nat→Nat} {vs:Nat→AV} (m:Made h n d p13 p14 lo b offs errs rv xs bs vs) (i:Nat):Stands h lo n (vs i):=by
 rcases (m.ls.at_ i).is with ⟨_,h2⟩ | ⟨_,h1,h2,h3⟩
 ·exact .inl h2
 ·exact .inr ⟨_,_,_,_,_,_,_,h2,m.ls.lo i,h1,h3⟩
theorem Made.below {h h':Heap} {n n' d p13 p14 lo:Nat} {b:Bench} {offs:List Int} {errs:List (List Int)} {rv:List AV} {xs:List Nat} {bs:Nat→Nat} {vs:Nat→AV} (m:Made h n d p13 p14 lo b offs errs rv xs bs vs) (hh:∀ c,c=d∨p13≤c→h'.get c=h.get c) (hn:n≤n'):Made h' n' d p13 p14 lo b offs errs rv xs bs vs:=by
 obtain ⟨m1,m2,m3,m4,m5,m6,m7,m8,m9⟩:=m
 refine ⟨m1.keep (hh d (.inl rfl)),by rw [hh _ (.inr (Nat.le_refl _))];exact m2,by rw [hh _ (.inr (by omega))];exact m3,m4.mono (fun i _=>hh _ (.inr (by have:=m4.lo i;omega))) hn,m5,m6,fun j h1 h2 h3=>?_,m8,by omega⟩
 exact (m7 j h1 h2 h3).mono (hh _ (.inr (by have:=(m8 _ (List.getElem_mem h3)).1;omega))) hn
theorem BenchOf_ex3 {N d:Nat} {M S R D:Nat} {s:St} {r:ARes} (hr:call Try.prog X N (.fn 5) [.ptr d 0,.int .i64 (M:Int),.int .i64 (S:Int),.int .i64 (R:Int),.int .i64 (D:Int)] s=r) (hN:7≤N) (hd:Die d s.h) (hlt:d<s.n) (hM:1≤M∧M≤5) (hS:1≤S∧S≤3) (hR:R≤5) (hD:D≤8) (hs:s.n+30000≤far) :
  ∃ b offs errs rv xs bs vs p13 p14 lo q t,r=.val (.tup [.agg [vs 0,vs 1,vs 2,vs 3,.int .i64 b.days],.agg [vs 4,vs 5],.bool q]) t∧Stir d s t 2000∧b.Ok∧FactOf b offs errs∧(q=true↔Tells b offs errs)∧Made t.h t.n d p13 p14 lo b offs errs rv xs bs vs∧s.n<p13∧b.ws.length≤R∧b.ts.length≤R∧b.ms.length≤M∧b.ss.length≤S∧b.days≤D:=by
 obtain ⟨n,rfl⟩:∃ n,N=n+1:=⟨N - 1,by omega⟩
 have hf:far=1000000000:=rfl
 obtain ⟨v,t,e,st,b,offs,errs,rv,xs,bs,vs,p13,p14,lo,q,rfl,hq⟩:=call_stir (n:=n) (args:=[.ptr d 0,.int .i64 (M:Int),.int .i64 (S:Int),.int .i64 (R:Int),.int .i64 (D:Int)]) (d:=d) (s:=s) (k:=2000) (Q:=fun v h n=>∃ b offs errs rv xs bs vs p13 p14 lo q,v=.tup [.agg [vs 0,vs 1,vs 2,vs 3,.int .i64 b.days],.agg [vs 4,vs 5],.bool q]∧Bench.Ok b∧FactOf b offs errs∧(q=true↔Tells b offs errs)∧Made h n d p13 p14 lo b offs errs rv xs bs vs∧s.n<p13∧b.ws.length≤R∧b.ts.length≤R∧b.ms.length≤M∧b.ss.length≤S∧b.days≤D) Try.func5 rfl (fun u uh un um=>by
  rw [← uh] at hd
  rw [← un] at hlt ⊢
  rw [enter5]
  have ad:∀ s,aAdd s .i64 (D:Int) 1=.val (.int .i64 ((D:Int)+1)) s:=fun s=>aAdd_i64 s _ _ (by omega)
  simp (disch:=first|omega|(with_unfolding_all exact rfl)|(simp only[new_n,put_n,new_m];omega)|(refine put_m_le ?_;simp only[new_m];omega)) only [res5,K5r0,K5r1,K5r2,K5r3,K5r4,K5r5,K5r6,K5r7,K5r8,K5r9,K5r10,K5r11,K5r12,K5r13,K5r14,K5r15,K5r16,K5r17,K5r18,K5r19,K5r20,K5r21s7,K5r21s6,K5r21s5,K5r21s4,K5r21,K5r22,K5r23,K5r24,K5r25,K5r26,K5r27,K5r28,K5r29,K5r30,K5r31,K5r32,K5r33,K5r34s7,K5r34s6,K5r34,K5r35,K5r36,K5r37,K5r38,K5,Abs.W,reduceIte,Nat.reduceEqDiff,Nat.reduceAdd,decide_true,decide_false,kLoop_def,Nat.reduceSub,List.cons_append,List.nil_append,List.append_nil,List.length_cons,List.length_nil,efs,ad]
  obtain ⟨w0,hw0⟩:∃ w0:St,w0=(u.new (.cells [.nilslice,.nilslice,.nilslice,.nilslice,.int .i64 0] (tag 28))).new (.cells [.nilslice,.nilslice] (tag 31)):=⟨_,rfl⟩
  rw [← hw0]
  have w0n:w0.n=u.n+2:=by rw [hw0];rfl
  have w0m:w0.m=far:=by rw [hw0];exact um
  have w0g:∀ c,c<u.n→w0.h.get c=u.h.get c:=fun c hc=>by rw [hw0];simp (disch:=first|omega|(with_unfolding_all exact rfl)|(simp only[new_n,put_n,new_m];omega)|(refine put_m_le ?_;simp only[new_m];omega)) only [get_new_ne]
  have w00:w0.h.get u.n=some (.cells [.nilslice,.nilslice,.nilslice,.nilslice,.int .i64 0] (tag 28)):=by rw [hw0];simp (disch:=first|omega|(with_unfolding_all exact rfl)|(simp only[new_n,put_n,new_m];omega)|(refine put_m_le ?_;simp only[new_m];omega)) only [get_new_ne];exact get_new_eq _ _ _ rfl (by omega)
  have w01:w0.h.get (u.n+1)=some (.cells [.nilslice,.nilslice] (tag 31)):=by rw [hw0];exact get_new_eq _ _ _ rfl (by simp only [new_n];omega)
  generalize hc1:call _ _ _ (.fn 18) _ _=r1
  obtain ⟨x1,t1,rfl,st1,d1,x10,x11⟩:=cast_ex hc1 (by omega) (hd.keep (w0g d hlt)) (by omega) (by omega) (by omega)
  obtain ⟨days,rfl⟩:∃ n:Nat,x1=n:=⟨x1.toNat,by omega⟩
  have hdays:days≤8:=by omega
  have n1:w0.n≤t1.n:=st1.n
  have k1:t1.n≤w0.n:=st1.le
  simp (disch:=first|omega|(with_unfolding_all exact rfl)|(simp only[new_n,put_n,new_m];omega)|(refine put_m_le ?_;simp only[new_m];omega)) only [res5,K5r0,K5r1,K5r2,K5r3,K5r4,K5r5,K5r6,K5r7,K5r8,K5r9,K5r10,K5r11,K5r12,K5r13,K5r14,K5r15,K5r16,K5r17,K5r18,K5r19,K5r20,K5r21s7,K5r21s6,K5r21s5,K5r21s4,K5r21,K5r22,K5r23,K5r24,K5r25,K5r26,K5r27,K5r28,K5r29,K5r30,K5r31,K5r32,K5r33,K5r34s7,K5r34s6,K5r34,K5r35,K5r36,K5r37,K5r38,K5,Abs.W,reduceIte,Nat.reduceEqDiff,Nat.reduceAdd,decide_true,decide_false,kLoop_def,Nat.reduceSub,List.cons_append,List.nil_append,List.append_nil,List.length_cons,List.length_nil,efs,Nat.reduceAdd]
  simp only [put_n,new_n]
  generalize hw1:St.new (St.put _ _ _) _=w1
  have w1n:w1.n=t1.n+2:=by rw [← hw1];rfl
  have w1m:w1.m=min t1.m t1.n:=by rw [← hw1];simp only [St.put,minN_eq,new_m]
  have w1g:∀ c,c<t1.n→w1.h.get c=t1.h.get c:=fun c hc=>by rw [← hw1];simp (disch:=first|omega|(with_unfolding_all exact rfl)|(simp only[new_n,put_n,new_m];omega)|(refine put_m_le ?_;simp only[new_m];omega)) only [get_new_ne,get_put_ne']
  have w13:w1.h.get t1.n=some (.cells [.nilslice,.nilslice,.nilslice,.nilslice,.int .i64 days] (tag 28)):=by rw [← hw1];simp (disch:=first|omega|(with_unfolding_all exact rfl)|(simp only[new_n,put_n,new_m];omega)|(refine put_m_le ?_;simp only[new_m];omega)) only [get_new_ne];exact get_put_eq _ _ _ _ rfl (by omega)
  have w14:w1.h.get (t1.n+1)=some (.cells [.nilslice,.nilslice] (tag 31)):=by rw [← hw1];exact get_new_eq _ _ _ rfl (by simp only [put_n,new_n];omega)
  have dw1:Die d w1.h:=d1.keep (w1g d (by omega))
  have hM0:Made w1.h w1.n d t1.n (t1.n+1) (t1.n+2) ⟨[],[],[],[],days⟩ [] [] [] [] (fun i=>far+1+i) (fun _=>.nilslice):=⟨dw1,w13,w14,Lists.nil (fun i=>by
   match i with
   | 0=>rfl
   | 1=>rfl
   | 2=>rfl
   | 3=>rfl
   | 4=>rfl
   | 5=>rfl
   | n+6=>rfl) (by omega),rfl,rfl,fun j h1 _ _=>by simp at h1,(fun x hx=>(by cases hx)),⟨by omega,by omega,by omega,by omega⟩⟩
  generalize hc2:call _ _ _ (.fn 19) _ _=r2
  obtain ⟨x2,t2,rfl,st2,d2,x20,x21⟩:=from_ex hc2 (by omega) dw1 (by omega) (by omega) (by omega) (by omega) (by omega) (by omega)
  obtain ⟨i0,rfl⟩:∃ n:Nat,x2=n:=⟨x2.toNat,by omega⟩
  have n2:w1.n≤t2.n:=st2.n
  have k2:t2.n≤w1.n:=st2.le
  have hM1:=hM0.keep d2 (fun c hc hcd=>st2.same c hc hcd) n2
  simp (disch:=first|omega|(with_unfolding_all exact rfl)|(simp only[new_n,put_n,new_m];omega)|(refine put_m_le ?_;simp only[new_m];omega)) only [res5,K5r0,K5r1,K5r2,K5r3,K5r4,K5r5,K5r6,K5r7,K5r8,K5r9,K5r10,K5r11,K5r12,K5r13,K5r14,K5r15,K5r16,K5r17,K5r18,K5r19,K5r20,K5r21s7,K5r21s6,K5r21s5,K5r21s4,K5r21,K5r22,K5r23,K5r24,K5r25,K5r26,K5r27,K5r28,K5r29,K5r30,K5r31,K5r32,K5r33,K5r34s7,K5r34s6,K5r34,K5r35,K5r36,K5r37,K5r38,K5,Abs.W,reduceIte,Nat.reduceEqDiff,Nat.reduceAdd,decide_true,decide_false,kLoop_def,Nat.reduceSub,List.cons_append,List.nil_append,List.append_nil,List.length_cons,List.length_nil,efs]
  generalize hl0:loopN _ rounds _ _ _ _ _=q0
  obtain ⟨wL,L0,hwL,hL0,hl0'⟩:=loop_start hl0
  subst hwL
  have f0:L0.find 0=.ptr d 0:=by rw [hL0];simp only [find_cons,reduceIte,Nat.reduceEqDiff]
  have f2:L0.find 2=.int .i64 S:=by rw [hL0];simp only [find_cons,reduceIte,Nat.reduceEqDiff]
  have f3:L0.find 3=.int .i64 R:=by rw [hL0];simp only [find_cons,reduceIte,Nat.reduceEqDiff]
  have f10:L0.find 10=.ptr u.n 0:=by rw [hL0];simp only [find_cons,reduceIte,Nat.reduceEqDiff]
  have f11:L0.find 11=.ptr (u.n+1) 0:=by rw [hL0];simp only [find_cons,reduceIte,Nat.reduceEqDiff]
  have f13:L0.find 13=.ptr t1.n 0:=by rw [hL0];simp only [find_cons,reduceIte,Nat.reduceEqDiff]
  have f14:L0.find 14=.ptr (t1.n+1) 0:=by rw [hL0];simp only [find_cons,reduceIte,Nat.reduceEqDiff]
  have f15:L0.find 15=.int .i64 i0:=by rw [hL0];simp only [find_cons,reduceIte,Nat.reduceEqDiff]
  clear hL0 hl0
  obtain ⟨L1,s1,ms,offs,bs1,vs1,rfl,g1,hms,hMs,hM2,G1⟩:=masses_loop (by omega) hl0' (by omega) (by omega) rfl hM1 f0 f13 f14 f15
  have s1n:=G1.n
  have s1l:=G1.le
  have q0:=(g1 0 (by omega)).trans f0
  have q2:=(g1 2 (by omega)).trans f2
  have q3:=(g1 3 (by omega)).trans f3
  have q10:=(g1 10 (by omega)).trans f10
  have q11:=(g1 11 (by omega)).trans f11
  have q13:=(g1 13 (by omega)).trans f13
  have q14:=(g1 14 (by omega)).trans f14
  simp (disch:=first|omega|(with_unfolding_all exact rfl)|(simp only[new_n,put_n,new_m];omega)|(refine put_m_le ?_;simp only[new_m];omega)) only [res5,K5r0,K5r1,K5r2,K5r3,K5r4,K5r5,K5r6,K5r7,K5r8,K5r9,K5r10,K5r11,K5r12,K5r13,K5r14,K5r15,K5r16,K5r17,K5r18,K5r19,K5r20,K5r21s7,K5r21s6,K5r21s5,K5r21s4,K5r21,K5r22,K5r23,K5r24,K5r25,K5r26,K5r27,K5r28,K5r29,K5r30,K5r31,K5r32,K5r33,K5r34s7,K5r34s6,K5r34,K5r35,K5r36,K5r37,K5r38,K5,Abs.W,reduceIte,Nat.reduceEqDiff,Nat.reduceAdd,decide_true,decide_false,kLoop_def,Nat.reduceSub,List.cons_append,List.nil_append,List.append_nil,List.length_cons,List.length_nil,efs,q0,q2]
  generalize hc3:call _ _ _ (.fn 19) _ _=r3
  obtain ⟨x3,t3,rfl,st3,d3,x30,x31⟩:=from_ex hc3 (by omega) hM2.die (by omega) (by omega) (by omega) (by omega) (by omega) (by omega)
  obtain ⟨i1,rfl⟩:∃ n:Nat,x3=n:=⟨x3.toNat,by omega⟩
  have n3:s1.n≤t3.n:=st3.n
  have k3:t3.n≤s1.n:=st3.le
  have hM3:=hM2.keep d3 (fun c hc hcd=>st3.same c hc hcd) n3
  simp (disch:=first|omega|(with_unfolding_all exact rfl)|(simp only[new_n,put_n,new_m];omega)|(refine put_m_le ?_;simp only[new_m];omega)) only [res5,K5r0,K5r1,K5r2,K5r3,K5r4,K5r5,K5r6,K5r7,K5r8,K5r9,K5r10,K5r11,K5r12,K5r13,K5r14,K5r15,K5r16,K5r17,K5r18,K5r19,K5r20,K5r21s7,K5r21s6,K5r21s5,K5r21s4,K5r21,K5r22,K5r23,K5r24,K5r25,K5r26,K5r27,K5r28,K5r29,K5r30,K5r31,K5r32,K5r33,K5r34s7,K5r34s6,K5r34,K5r35,K5r36,K5r37,K5r38,K5,Abs.W,reduceIte,Nat.reduceEqDiff,Nat.reduceAdd,decide_true,decide_false,kLoop_def,Nat.reduceSub,List.cons_append,List.nil_append,List.append_nil,List.length_cons,List.length_nil,efs]
  generalize hl2:loopN _ rounds _ _ _ _ _=qq2
  obtain ⟨L2,s2,ss,errs,rv,xs,bs2,vs2,rfl,g2,hss,hSs,hM4,G2⟩:=scales_loop (by omega) hl2 (i:=i1) (by omega) (by omega) hdays rfl hM3 (by simp only [efs,q0,reduceIte,Nat.reduceEqDiff]) (by simp only [efs,q13,reduceIte,Nat.reduceEqDiff]) (by simp only [efs,q14,reduceIte,Nat.reduceEqDiff]) (by simp only [efs,reduceIte,Nat.reduceEqDiff])
  have s2n:=G2.n
  have s2l:=G2.le
  have y0:=(g2 0 (by omega)).trans (show _=AV.ptr d 0 by simp only [efs,q0,reduceIte,Nat.reduceEqDiff])
  have y3:=(g2 3 (by omega)).trans (show _=AV.int .i64 R by simp only [efs,q3,reduceIte,Nat.reduceEqDiff])
  have y10:=(g2 10 (by omega)).trans (show _=AV.ptr u.n 0 by simp only [efs,q10,reduceIte,Nat.reduceEqDiff])
  have y11:=(g2 11 (by omega)).trans (show _=AV.ptr (u.n+1) 0 by simp only [efs,q11,reduceIte,Nat.reduceEqDiff])
  have y13:=(g2 13 (by omega)).trans (show _=AV.ptr t1.n 0 by simp only [efs,q13,reduceIte,Nat.reduceEqDiff])
  have y14:=(g2 14 (by omega)).trans (show _=AV.ptr (t1.n+1) 0 by simp only [efs,q14,reduceIte,Nat.reduceEqDiff])
  have adR:∀ s,aAdd s .i64 (R:Int) 1=.val (.int .i64 ((R:Int)+1)) s:=fun s=>aAdd_i64 s _ _ (by omega)
  simp (disch:=first|omega|(with_unfolding_all exact rfl)|(simp only[new_n,put_n,new_m];omega)|(refine put_m_le ?_;simp only[new_m];omega)) only [res5,K5r0,K5r1,K5r2,K5r3,K5r4,K5r5,K5r6,K5r7,K5r8,K5r9,K5r10,K5r11,K5r12,K5r13,K5r14,K5r15,K5r16,K5r17,K5r18,K5r19,K5r20,K5r21s7,K5r21s6,K5r21s5,K5r21s4,K5r21,K5r22,K5r23,K5r24,K5r25,K5r26,K5r27,K5r28,K5r29,K5r30,K5r31,K5r32,K5r33,K5r34s7,K5r34s6,K5r34,K5r35,K5r36,K5r37,K5r38,K5,Abs.W,reduceIte,Nat.reduceEqDiff,Nat.reduceAdd,decide_true,decide_false,kLoop_def,Nat.reduceSub,List.cons_append,List.nil_append,List.append_nil,List.length_cons,List.length_nil,efs,y0,y3,adR]
  generalize hc4:call _ _ _ (.fn 18) _ _=r4
  obtain ⟨x4,t4,rfl,st4,d4,x40,x41⟩:=cast_ex hc4 (by omega) hM4.die (by omega) (by omega) (by omega)
  obtain ⟨i2,rfl⟩:∃ n:Nat,x4=n:=⟨x4.toNat,by omega⟩
  have n4:s2.n≤t4.n:=st4.n
  have k4:t4.n≤s2.n:=st4.le
  have hM5:=hM4.keep d4 (fun c hc hcd=>st4.same c hc hcd) n4
  simp (disch:=first|omega|(with_unfolding_all exact rfl)|(simp only[new_n,put_n,new_m];omega)|(refine put_m_le ?_;simp only[new_m];omega)) only [res5,K5r0,K5r1,K5r2,K5r3,K5r4,K5r5,K5r6,K5r7,K5r8,K5r9,K5r10,K5r11,K5r12,K5r13,K5r14,K5r15,K5r16,K5r17,K5r18,K5r19,K5r20,K5r21s7,K5r21s6,K5r21s5,K5r21s4,K5r21,K5r22,K5r23,K5r24,K5r25,K5r26,K5r27,K5r28,K5r29,K5r30,K5r31,K5r32,K5r33,K5r34s7,K5r34s6,K5r34,K5r35,K5r36,K5r37,K5r38,K5,Abs.W,reduceIte,Nat.reduceEqDiff,Nat.reduceAdd,decide_true,decide_false,kLoop_def,Nat.reduceSub,List.cons_append,List.nil_append,List.append_nil,List.length_cons,List.length_nil,efs]
  generalize hl3:loopN _ rounds _ _ _ _ _=qq3
  have hF0:FactOf ⟨ms,[],ss,[],days⟩ offs errs:=⟨hMs.ol,hMs.off,hSs.el,hSs.err⟩
  obtain ⟨L3,s3,ws,bs3,vs3,rfl,g3,hws,hWs,hM6,G3⟩:=weighs_loop (by omega) hl3 (i:=i2) (by omega) (by omega) hF0 (by show 1≤ms.length;omega) (by show ms.length≤5;omega) rfl hM5 (by simp only [efs,y0,reduceIte,Nat.reduceEqDiff]) (by simp only [efs,y13,reduceIte,Nat.reduceEqDiff]) (by simp only [efs,y14,reduceIte,Nat.reduceEqDiff]) (by simp only [efs,reduceIte,Nat.reduceEqDiff])
  have s3n:=G3.n
  have s3l:=G3.le
  have z0:=(g3 0 (by omega)).trans (show _=AV.ptr d 0 by simp only [efs,y0,reduceIte,Nat.reduceEqDiff])
  have z3:=(g3 3 (by omega)).trans (show _=AV.int .i64 R by simp only [efs,y3,reduceIte,Nat.reduceEqDiff])
  have z10:=(g3 10 (by omega)).trans (show _=AV.ptr u.n 0 by simp only [efs,y10,reduceIte,Nat.reduceEqDiff])
  have z11:=(g3 11 (by omega)).trans (show _=AV.ptr (u.n+1) 0 by simp only [efs,y11,reduceIte,Nat.reduceEqDiff])
  have z13:=(g3 13 (by omega)).trans (show _=AV.ptr t1.n 0 by simp only [efs,y13,reduceIte,Nat.reduceEqDiff])
  have z14:=(g3 14 (by omega)).trans (show _=AV.ptr (t1.n+1) 0 by simp only [efs,y14,reduceIte,Nat.reduceEqDiff])
  simp (disch:=first|omega|(with_unfolding_all exact rfl)|(simp only[new_n,put_n,new_m];omega)|(refine put_m_le ?_;simp only[new_m];omega)) only [res5,K5r0,K5r1,K5r2,K5r3,K5r4,K5r5,K5r6,K5r7,K5r8,K5r9,K5r10,K5r11,K5r12,K5r13,K5r14,K5r15,K5r16,K5r17,K5r18,K5r19,K5r20,K5r21s7,K5r21s6,K5r21s5,K5r21s4,K5r21,K5r22,K5r23,K5r24,K5r25,K5r26,K5r27,K5r28,K5r29,K5r30,K5r31,K5r32,K5r33,K5r34s7,K5r34s6,K5r34,K5r35,K5r36,K5r37,K5r38,K5,Abs.W,reduceIte,Nat.reduceEqDiff,Nat.reduceAdd,decide_true,decide_false,kLoop_def,Nat.reduceSub,List.cons_append,List.nil_append,List.append_nil,List.length_cons,List.length_nil,efs,z0,z3,adR]
  generalize hc5:call _ _ _ (.fn 18) _ _=r5
  obtain ⟨x5,t5,rfl,st5,d5,x50,x51⟩:=cast_ex hc5 (by omega) hM6.die (by omega) (by omega) (by omega)
  obtain ⟨i3,rfl⟩:∃ n:Nat,x5=n:=⟨x5.toNat,by omega⟩
  have n5:s3.n≤t5.n:=st5.n
  have k5:t5.n≤s3.n:=st5.le
  have hM7:=hM6.keep d5 (fun c hc hcd=>st5.same c hc hcd) n5
  simp (disch:=first|omega|(with_unfolding_all exact rfl)|(simp only[new_n,put_n,new_m];omega)|(refine put_m_le ?_;simp only[new_m];omega)) only [res5,K5r0,K5r1,K5r2,K5r3,K5r4,K5r5,K5r6,K5r7,K5r8,K5r9,K5r10,K5r11,K5r12,K5r13,K5r14,K5r15,K5r16,K5r17,K5r18,K5r19,K5r20,K5r21s7,K5r21s6,K5r21s5,K5r21s4,K5r21,K5r22,K5r23,K5r24,K5r25,K5r26,K5r27,K5r28,K5r29,K5r30,K5r31,K5r32,K5r33,K5r34s7,K5r34s6,K5r34,K5r35,K5r36,K5r37,K5r38,K5,Abs.W,reduceIte,Nat.reduceEqDiff,Nat.reduceAdd,decide_true,decide_false,kLoop_def,Nat.reduceSub,List.cons_append,List.nil_append,List.append_nil,List.length_cons,List.length_nil,efs]
  generalize hl4:loopN _ rounds _ _ _ _ _=qq4
  obtain ⟨L4,s4,ts,bs4,vs4,rfl,g4,hts,hTs,hM8,G4⟩:=trials_loop (by omega) hl4 (i:=i3) (by omega) (by omega) (⟨hF0.ol,hF0.off,hF0.el,hF0.err⟩:FactOf ⟨ms,ws,ss,[],days⟩ offs errs) hMs.ok (by show 1≤ms.length;omega) (by show ms.length≤5;omega) (by show 1≤ss.length;omega) (by show ss.length≤3;omega) hdays rfl hM7 (by simp only [efs,z0,reduceIte,Nat.reduceEqDiff]) (by simp only [efs,z13,reduceIte,Nat.reduceEqDiff]) (by simp only [efs,z14,reduceIte,Nat.reduceEqDiff]) (by simp only [efs,reduceIte,Nat.reduceEqDiff])
  have s4n:=G4.n
  have s4l:=G4.le
  have a0:=(g4 0 (by omega)).trans (show _=AV.ptr d 0 by simp only [efs,z0,reduceIte,Nat.reduceEqDiff])
  have a10:=(g4 10 (by omega)).trans (show _=AV.ptr u.n 0 by simp only [efs,z10,reduceIte,Nat.reduceEqDiff])
  have a11:=(g4 11 (by omega)).trans (show _=AV.ptr (u.n+1) 0 by simp only [efs,z11,reduceIte,Nat.reduceEqDiff])
  have a13:=(g4 13 (by omega)).trans (show _=AV.ptr t1.n 0 by simp only [efs,z13,reduceIte,Nat.reduceEqDiff])
  have a14:=(g4 14 (by omega)).trans (show _=AV.ptr (t1.n+1) 0 by simp only [efs,z14,reduceIte,Nat.reduceEqDiff])
  have okB:Bench.Ok ⟨ms,ws,ss,ts,days⟩:=⟨by show 1≤ms.length;omega,by show ms.length≤5;omega,hMs.ok,by show ws.length≤6;omega,hWs,by show 1≤ss.length;omega,by show ss.length≤3;omega,hSs.ok,hdays,by show ts.length≤6;omega,fun t h=>(hTs t h).1⟩
  have hFB:FactOf ⟨ms,ws,ss,ts,days⟩ offs errs:=⟨hF0.ol,hF0.off,hF0.el,hF0.err⟩
  have base:∀ c,c<u.n+2→c≠d→s4.h.get c=w0.h.get c:=fun c hc hcd=>by
   rw [G4.same c (by omega) hcd (by omega) (by omega),st5.same c (by omega) hcd,G3.same c (by omega) hcd (by omega) (by omega),st4.same c (by omega) hcd,G2.same c (by omega) hcd (by omega) (by omega),st3.same c (by omega) hcd,G1.same c (by omega) hcd (by omega) (by omega),st2.same c (by omega) hcd,w1g c (by omega),st1.same c (by omega) hcd]
  have mm:d≤s4.m:=G4.m (st5.m (G3.m (st4.m (G2.m (st3.m (G1.m (st2.m (by have:=st1.m (by omega);omega))))))))
  have mle:s4.m≤far:=by
   have b1:=G4.mle
   have b2:=st5.mle
   have b3:=G3.mle
   have b4:=st4.mle
   have b5:=G2.mle
   have b6:=st3.mle
   have b7:=G1.mle
   have b8:=st2.mle
   have b9:=st1.mle
   omega
  have v13:=hM8.g13
  have v14:=hM8.g14
  simp (disch:=first|omega|(with_unfolding_all exact rfl)|(simp only[new_n,put_n,new_m];omega)|(refine put_m_le ?_;simp only[new_m];omega)) only [res5,K5r0,K5r1,K5r2,K5r3,K5r4,K5r5,K5r6,K5r7,K5r8,K5r9,K5r10,K5r11,K5r12,K5r13,K5r14,K5r15,K5r16,K5r17,K5r18,K5r19,K5r20,K5r21s7,K5r21s6,K5r21s5,K5r21s4,K5r21,K5r22,K5r23,K5r24,K5r25,K5r26,K5r27,K5r28,K5r29,K5r30,K5r31,K5r32,K5r33,K5r34s7,K5r34s6,K5r34,K5r35,K5r36,K5r37,K5r38,K5,Abs.W,reduceIte,Nat.reduceEqDiff,Nat.reduceAdd,decide_true,decide_false,kLoop_def,Nat.reduceSub,List.cons_append,List.nil_append,List.append_nil,List.length_cons,List.length_nil,efs,a13,a14,v13,v14,Nat.zero_add]
  have sc5:scalars [vs4 0,vs4 1,vs4 2,vs4 3,.int .i64 (days:Int)]=true:=by rw [scals_cons (hM8.ls.at_ 0).scal.1,scals_cons (hM8.ls.at_ 1).scal.1,scals_cons (hM8.ls.at_ 2).scal.1,scals_cons (hM8.ls.at_ 3).scal.1];rfl
  have sc2':scalars [vs4 4,vs4 5]=true:=by rw [scals_cons (hM8.ls.at_ 4).scal.1];exact (hM8.ls.at_ 5).scal.1
  have pl0:plain (vs4 0)=false:=by
   rcases (hM8.ls.at_ 0).is with ⟨h,_⟩ | ⟨_,_,h,_⟩
   ·have:=congrArg List.length h
    rw [show (benchR ⟨ms,ws,ss,ts,days⟩ offs rv 0)=ms.map Mass.cells from rfl,List.length_map] at this
    simp at this
    subst this
    simp at hms
    omega
   ·rw [h];rfl
  have plt:∀ l x y,plain (.tup [.agg (vs4 0::l),x,y])=false:=fun l x y=>by simp [plain,plains,pl0]
  have sh5:shapeT Try.prog 28=some (some 5):=by kernel_rfl
  have sh2:shapeT Try.prog 31=some (some 2):=by kernel_rfl
  generalize hh1:call Try.prog X n (.fn 25) _ _=rh1
  obtain ⟨q1,rfl,hq1⟩:=Holding_ex (b:=⟨ms,ws,ss,ts,days⟩) hh1 (by omega) okB hFB hM8.bench hM8.fact (by omega)
  have ok3:=(hM8.ls.at_ 3).okA
  have hlt4:=hM8.bench.t.len
  rw [List.length_map] at hlt4
  simp only at hlt4
  have c10:s4.h.get u.n=some (.cells [.nilslice,.nilslice,.nilslice,.nilslice,.int .i64 0] (tag 28)):=(base u.n (by omega) (by omega)).trans w00
  have c11:s4.h.get (u.n+1)=some (.cells [.nilslice,.nilslice] (tag 31)):=(base (u.n+1) (by omega) (by omega)).trans w01
  by_cases hts0:ts.length=0
  ·have e0:decide ((0:Int)<(ts.length:Int))=false:=decide_eq_false (by omega)
   simp (disch:=first|omega|(with_unfolding_all exact rfl)|(simp only[new_n,put_n,new_m];omega)|(refine put_m_le ?_;simp only[new_m];omega)) only [res5,K5r0,K5r1,K5r2,K5r3,K5r4,K5r5,K5r6,K5r7,K5r8,K5r9,K5r10,K5r11,K5r12,K5r13,K5r14,K5r15,K5r16,K5r17,K5r18,K5r19,K5r20,K5r21s7,K5r21s6,K5r21s5,K5r21s4,K5r21,K5r22,K5r23,K5r24,K5r25,K5r26,K5r27,K5r28,K5r29,K5r30,K5r31,K5r32,K5r33,K5r34s7,K5r34s6,K5r34,K5r35,K5r36,K5r37,K5r38,K5,Abs.W,reduceIte,Nat.reduceEqDiff,Nat.reduceAdd,decide_true,decide_false,kLoop_def,Nat.reduceSub,List.cons_append,List.nil_append,List.append_nil,List.length_cons,List.length_nil,efs,a0,a10,a11,a13,a14,v13,v14,ok3,hlt4,e0,Nat.zero_add]
   have e13:=hM8.g13
   have e14:=hM8.g14
   have zn:=s4n
   simp (disch:=first|omega|(with_unfolding_all exact rfl)|(simp only[new_n,put_n,new_m];omega)|(refine put_m_le ?_;simp only[new_m];omega)) only [res5,K5r0,K5r1,K5r2,K5r3,K5r4,K5r5,K5r6,K5r7,K5r8,K5r9,K5r10,K5r11,K5r12,K5r13,K5r14,K5r15,K5r16,K5r17,K5r18,K5r19,K5r20,K5r21s7,K5r21s6,K5r21s5,K5r21s4,K5r21,K5r22,K5r23,K5r24,K5r25,K5r26,K5r27,K5r28,K5r29,K5r30,K5r31,K5r32,K5r33,K5r34s7,K5r34s6,K5r34,K5r35,K5r36,K5r37,K5r38,K5,Abs.W,reduceIte,Nat.reduceEqDiff,Nat.reduceAdd,decide_true,decide_false,kLoop_def,Nat.reduceSub,List.cons_append,List.nil_append,List.append_nil,List.length_cons,List.length_nil,efs,a10,a11,a13,a14,e13,e14,c10,c11,sc5,sc2',Nat.zero_add]
   rw [endO_ok _ (by
    rw [endOk_cons,endOk_nil]
    simp only [find_cons,efs,a10,a14,reduceIte,Nat.reduceEqDiff]
    exact apart_ptr (by omega))]
   simp (disch:=first|omega|(with_unfolding_all exact rfl)|(simp only[new_n,put_n,new_m];omega)|(refine put_m_le ?_;simp only[new_m];omega)) only [res5,K5r0,K5r1,K5r2,K5r3,K5r4,K5r5,K5r6,K5r7,K5r8,K5r9,K5r10,K5r11,K5r12,K5r13,K5r14,K5r15,K5r16,K5r17,K5r18,K5r19,K5r20,K5r21s7,K5r21s6,K5r21s5,K5r21s4,K5r21,K5r22,K5r23,K5r24,K5r25,K5r26,K5r27,K5r28,K5r29,K5r30,K5r31,K5r32,K5r33,K5r34s7,K5r34s6,K5r34,K5r35,K5r36,K5r37,K5r38,K5,Abs.W,reduceIte,Nat.reduceEqDiff,Nat.reduceAdd,decide_true,decide_false,kLoop_def,Nat.reduceSub,List.cons_append,List.nil_append,List.append_nil,List.length_cons,List.length_nil,efs,a10,a11]
   rw [leave_cct (v:=.agg [vs4 0,vs4 1,vs4 2,vs4 3,.int .i64 days]) (v':=.agg [vs4 4,vs4 5]) 10 28 11 31 12 _ _ sh5 sh2 (by simp only [efs,a10,reduceIte,Nat.reduceEqDiff];rw [load_ptr,get_put_ne' _ _ _ _ (by omega),get_put_eq _ _ _ _ rfl (by omega),loadO_cells,partS_some];rfl) (by simp only [efs,a11,reduceIte,Nat.reduceEqDiff];rw [load_ptr,get_put_eq _ _ _ _ rfl (by omega),loadO_cells,partS_some];rfl)]
   have fr:∀ c,c<u.n→c≠d→s4.h.get c=u.h.get c:=fun c hc hcd=>(base c (by omega) hcd).trans (w0g c hc)
   refine ⟨_,_,rfl,⟨fun c hc hcd=>?_,by simp only [put_n];omega,by simp only [put_n];omega,fun _=>?_,?_⟩,plt _ _ _,⟨ms,ws,ss,ts,days⟩,offs,errs,rv,xs,bs4,vs4,t1.n,t1.n+1,t1.n+2,q1,by simp only [efs,reduceIte,Nat.reduceEqDiff],okB,hFB,hq1,hM8.below (fun c hc=>?_) (by simp only [put_n];omega),by omega,by show ws.length≤R;omega,by show ts.length≤R;omega,by show ms.length≤M;omega,by show ss.length≤S;omega,by show days≤D;omega⟩
   ·rw [get_put_ne' _ _ _ _ (by omega),get_put_ne' _ _ _ _ (by omega)];exact fr c hc hcd
   ·have:=mm
    simp only [St.put,minN_eq];omega
   ·have:=mle
    simp only [St.put,minN_eq];omega
   ·rw [get_put_ne' _ _ _ _ (by omega),get_put_ne' _ _ _ _ (by omega)]
  ·have e0:decide ((0:Int)<(ts.length:Int))=true:=decide_eq_true (by omega)
   simp (disch:=first|omega|(with_unfolding_all exact rfl)|(simp only[new_n,put_n,new_m];omega)|(refine put_m_le ?_;simp only[new_m];omega)) only [res5,K5r0,K5r1,K5r2,K5r3,K5r4,K5r5,K5r6,K5r7,K5r8,K5r9,K5r10,K5r11,K5r12,K5r13,K5r14,K5r15,K5r16,K5r17,K5r18,K5r19,K5r20,K5r21s7,K5r21s6,K5r21s5,K5r21s4,K5r21,K5r22,K5r23,K5r24,K5r25,K5r26,K5r27,K5r28,K5r29,K5r30,K5r31,K5r32,K5r33,K5r34s7,K5r34s6,K5r34,K5r35,K5r36,K5r37,K5r38,K5,Abs.W,reduceIte,Nat.reduceEqDiff,Nat.reduceAdd,decide_true,decide_false,kLoop_def,Nat.reduceSub,List.cons_append,List.nil_append,List.append_nil,List.length_cons,List.length_nil,efs,a0,a10,a11,a13,a14,v13,v14,ok3,hlt4,e0,Nat.zero_add]
   generalize hc6:call _ _ _ (.fn 22) _ _=r6
   obtain ⟨q2,t6,rfl,st6,d6⟩:=once_ex hc6 (by omega) hM8.die (by omega) (by omega) (by omega)
   have n6:s4.n≤t6.n:=st6.n
   have k6:t6.n≤s4.n:=st6.le
   have hM9:=hM8.keep d6 (fun c hc hcd=>st6.same c hc hcd) n6
   have m6:=st6.m mm
   have ml6:=st6.mle
   have c10':=(st6.same u.n (by omega) (by omega)).trans c10
   have c11':=(st6.same (u.n+1) (by omega) (by omega)).trans c11
   cases q2 with
   | false =>
    simp (disch:=first|omega|(with_unfolding_all exact rfl)|(simp only[new_n,put_n,new_m];omega)|(refine put_m_le ?_;simp only[new_m];omega)) only [res5,K5r0,K5r1,K5r2,K5r3,K5r4,K5r5,K5r6,K5r7,K5r8,K5r9,K5r10,K5r11,K5r12,K5r13,K5r14,K5r15,K5r16,K5r17,K5r18,K5r19,K5r20,K5r21s7,K5r21s6,K5r21s5,K5r21s4,K5r21,K5r22,K5r23,K5r24,K5r25,K5r26,K5r27,K5r28,K5r29,K5r30,K5r31,K5r32,K5r33,K5r34s7,K5r34s6,K5r34,K5r35,K5r36,K5r37,K5r38,K5,Abs.W,reduceIte,Nat.reduceEqDiff,Nat.reduceAdd,decide_true,decide_false,kLoop_def,Nat.reduceSub,List.cons_append,List.nil_append,List.append_nil,List.length_cons,List.length_nil,efs,Nat.zero_add]
    have e13:=hM9.g13
    have e14:=hM9.g14
    have zn:=n6
    simp (disch:=first|omega|(with_unfolding_all exact rfl)|(simp only[new_n,put_n,new_m];omega)|(refine put_m_le ?_;simp only[new_m];omega)) only [res5,K5r0,K5r1,K5r2,K5r3,K5r4,K5r5,K5r6,K5r7,K5r8,K5r9,K5r10,K5r11,K5r12,K5r13,K5r14,K5r15,K5r16,K5r17,K5r18,K5r19,K5r20,K5r21s7,K5r21s6,K5r21s5,K5r21s4,K5r21,K5r22,K5r23,K5r24,K5r25,K5r26,K5r27,K5r28,K5r29,K5r30,K5r31,K5r32,K5r33,K5r34s7,K5r34s6,K5r34,K5r35,K5r36,K5r37,K5r38,K5,Abs.W,reduceIte,Nat.reduceEqDiff,Nat.reduceAdd,decide_true,decide_false,kLoop_def,Nat.reduceSub,List.cons_append,List.nil_append,List.append_nil,List.length_cons,List.length_nil,efs,a10,a11,a13,a14,e13,e14,c10',c11',sc5,sc2',Nat.zero_add]
    rw [endO_ok _ (by
     rw [endOk_cons,endOk_nil]
     simp only [find_cons,efs,a10,a14,reduceIte,Nat.reduceEqDiff]
     exact apart_ptr (by omega))]
    simp (disch:=first|omega|(with_unfolding_all exact rfl)|(simp only[new_n,put_n,new_m];omega)|(refine put_m_le ?_;simp only[new_m];omega)) only [res5,K5r0,K5r1,K5r2,K5r3,K5r4,K5r5,K5r6,K5r7,K5r8,K5r9,K5r10,K5r11,K5r12,K5r13,K5r14,K5r15,K5r16,K5r17,K5r18,K5r19,K5r20,K5r21s7,K5r21s6,K5r21s5,K5r21s4,K5r21,K5r22,K5r23,K5r24,K5r25,K5r26,K5r27,K5r28,K5r29,K5r30,K5r31,K5r32,K5r33,K5r34s7,K5r34s6,K5r34,K5r35,K5r36,K5r37,K5r38,K5,Abs.W,reduceIte,Nat.reduceEqDiff,Nat.reduceAdd,decide_true,decide_false,kLoop_def,Nat.reduceSub,List.cons_append,List.nil_append,List.append_nil,List.length_cons,List.length_nil,efs,a10,a11]
    rw [leave_cct (v:=.agg [vs4 0,vs4 1,vs4 2,vs4 3,.int .i64 days]) (v':=.agg [vs4 4,vs4 5]) 10 28 11 31 12 _ _ sh5 sh2 (by simp only [efs,a10,reduceIte,Nat.reduceEqDiff];rw [load_ptr,get_put_ne' _ _ _ _ (by omega),get_put_eq _ _ _ _ rfl (by omega),loadO_cells,partS_some];rfl) (by simp only [efs,a11,reduceIte,Nat.reduceEqDiff];rw [load_ptr,get_put_eq _ _ _ _ rfl (by omega),loadO_cells,partS_some];rfl)]
    have fr:∀ c,c<u.n→c≠d→t6.h.get c=u.h.get c:=fun c hc hcd=>(st6.same c (by omega) hcd).trans ((base c (by omega) hcd).trans (w0g c hc))
    refine ⟨_,_,rfl,⟨fun c hc hcd=>?_,by simp only [put_n];omega,by simp only [put_n];omega,fun _=>?_,?_⟩,plt _ _ _,⟨ms,ws,ss,ts,days⟩,offs,errs,rv,xs,bs4,vs4,t1.n,t1.n+1,t1.n+2,q1,by simp only [efs,reduceIte,Nat.reduceEqDiff],okB,hFB,hq1,hM9.below (fun c hc=>?_) (by simp only [put_n];omega),by omega,by show ws.length≤R;omega,by show ts.length≤R;omega,by show ms.length≤M;omega,by show ss.length≤S;omega,by show days≤D;omega⟩
    ·rw [get_put_ne' _ _ _ _ (by omega),get_put_ne' _ _ _ _ (by omega)];exact fr c hc hcd
    ·have:=m6
     simp only [St.put,minN_eq];omega
    ·have:=ml6
     simp only [St.put,minN_eq];omega
    ·rw [get_put_ne' _ _ _ _ (by omega),get_put_ne' _ _ _ _ (by omega)]
   | true =>
    have w13':=hM9.g13
    simp (disch:=first|omega|(with_unfolding_all exact rfl)|(simp only[new_n,put_n,new_m];omega)|(refine put_m_le ?_;simp only[new_m];omega)) only [res5,K5r0,K5r1,K5r2,K5r3,K5r4,K5r5,K5r6,K5r7,K5r8,K5r9,K5r10,K5r11,K5r12,K5r13,K5r14,K5r15,K5r16,K5r17,K5r18,K5r19,K5r20,K5r21s7,K5r21s6,K5r21s5,K5r21s4,K5r21,K5r22,K5r23,K5r24,K5r25,K5r26,K5r27,K5r28,K5r29,K5r30,K5r31,K5r32,K5r33,K5r34s7,K5r34s6,K5r34,K5r35,K5r36,K5r37,K5r38,K5,Abs.W,reduceIte,Nat.reduceEqDiff,Nat.reduceAdd,decide_true,decide_false,kLoop_def,Nat.reduceSub,List.cons_append,List.nil_append,List.append_nil,List.length_cons,List.length_nil,efs,a0,a13,w13',ok3,hlt4,Nat.zero_add]
    generalize hc7:call _ _ _ (.fn 18) _ _=r7
    obtain ⟨x7,t7,rfl,st7,d7,x70,x71⟩:=cast_ex hc7 (by omega) d6 (by show d<t6.n;omega) (by show t6.n+100≤far;omega) (by omega)
    have n7:t6.n≤t7.n:=st7.n
    have k7:t7.n≤t6.n:=st7.le
    obtain ⟨j,rfl⟩:∃ n:Nat,x7=n:=⟨x7.toNat,by omega⟩
    have hj:j<ts.length:=by omega
    have tbl:=hM9.ls.lo 3
    obtain ⟨tb1,tbv,tbg⟩:bs4 3<t6.n∧vs4 3=.slice (bs4 3) 0 ts.length ts.length true∧t6.h.get (bs4 3)=some (.cells (ts.map Trial.cells).flatten (4+tag 72)):=by
     rcases (hM9.ls.at_ 3).is with ⟨h,_⟩ | ⟨_,h1,h2,h3⟩
     ·have:=congrArg List.length h
      rw [show (benchR ⟨ms,ws,ss,ts,days⟩ offs rv 3)=ts.map Trial.cells from rfl,List.length_map] at this
      exact absurd this hts0
     ·rw [show (benchR ⟨ms,ws,ss,ts,days⟩ offs rv 3)=ts.map Trial.cells from rfl,List.length_map] at h2
      exact ⟨h1,h2,h3⟩
    have g77:∀ c,c<t6.n→c≠d→t7.h.get c=t6.h.get c:=fun c hc hcd=>st7.same c hc hcd
    have ix:∀ s,ixsA 4 s (vs4 3) (.int .i64 (j:Int))=.val (.ptr (bs4 3) (j * 4)) s:=fun s=>by rw [tbv,ixs_slice _ _ _ _ _ _ _ _ hj,Nat.zero_add]
    simp (disch:=first|omega|(with_unfolding_all exact rfl)|(simp only[new_n,put_n,new_m];omega)|(refine put_m_le ?_;simp only[new_m];omega)) only [thenT_turn,Abs.W,reduceIte,Nat.reduceEqDiff,Nat.reduceAdd,decide_true,decide_false,kLoop_def,Nat.reduceSub,List.cons_append,List.nil_append,List.append_nil,List.length_cons,List.length_nil,efs,ix]
    rw [endT_kept (l:=[255]) (s':=t7) (by simp only [keptAll_cons,keptAll_nil,find_cons,efs,keptV_ptr,w13',g77 t1.n (by omega) (by omega),sameO_cells,reduceIte,Nat.reduceEqDiff,Bool.and_self])]
    obtain ⟨T,hT⟩:∃ T,T=ts[j]:=⟨_,rfl⟩
    have hTm:T ∈ ts:=by rw [hT];exact List.getElem_mem hj
    obtain ⟨hTok,hTsh⟩:=hTs T hTm
    have wd:∀ r ∈ ts.map Trial.cells,r.length=4:=fun r hr=>by obtain ⟨x,_,rfl⟩:=List.mem_map.mp hr;rfl
    have hjm:j<(ts.map Trial.cells).length:=by rw [List.length_map];exact hj
    have hset:(ts.map Trial.cells).set j T.cells=ts.map Trial.cells:=by
     rw [hT,← List.map_set]
     congr 1
     exact List.set_getElem_self hj
    have ld:nth (ts.map Trial.cells).flatten (j * 4+3)=.int .i64 T.shown:=by
     have:=nth_cell wd hjm T.cells 3 rfl (by omega)
     rw [hset] at this
     exact this
    have tb7:=(g77 (bs4 3) tb1 (by omega)).trans tbg
    simp (disch:=first|omega|(with_unfolding_all exact rfl)|(simp only[new_n,put_n,new_m];omega)|(refine put_m_le ?_;simp only[new_m];omega)) only [res5,K5r0,K5r1,K5r2,K5r3,K5r4,K5r5,K5r6,K5r7,K5r8,K5r9,K5r10,K5r11,K5r12,K5r13,K5r14,K5r15,K5r16,K5r17,K5r18,K5r19,K5r20,K5r21s7,K5r21s6,K5r21s5,K5r21s4,K5r21,K5r22,K5r23,K5r24,K5r25,K5r26,K5r27,K5r28,K5r29,K5r30,K5r31,K5r32,K5r33,K5r34s7,K5r34s6,K5r34,K5r35,K5r36,K5r37,K5r38,K5,Abs.W,reduceIte,Nat.reduceEqDiff,Nat.reduceAdd,decide_true,decide_false,kLoop_def,Nat.reduceSub,List.cons_append,List.nil_append,List.append_nil,List.length_cons,List.length_nil,efs,a0,tb7,ld,Nat.zero_add]
    generalize hc8:call _ _ _ (.fn 19) _ _=r8
    obtain ⟨x8,t8,rfl,st8,d8,x80,x81⟩:=from_ex hc8 (by omega) d7 (by show d<t7.n;omega) (by show t7.n+200≤far;omega) (by omega) (by omega) (by omega) (by omega)
    have n8:t7.n≤t8.n:=st8.n
    have k8:t8.n≤t7.n:=st8.le
    have g88:∀ c,c<t6.n→c≠d→t8.h.get c=t6.h.get c:=fun c hc hcd=>(st8.same c (by show c<t7.n;omega) hcd).trans (g77 c hc hcd)
    have tb8:=(g88 (bs4 3) tb1 (by omega)).trans tbg
    have hx0:=hTok.x0
    have hx1:=hTok.x1
    have a8:∀ s,aAdd s .i64 T.shown x8=.val (.int .i64 (T.shown+x8)) s:=fun s=>aAdd_i64 s _ _ (by omega)
    obtain ⟨T',hT'⟩:∃ T':Trial,T'={ T with shown:=max 0 (T.shown+x8) }:=⟨_,rfl⟩
    have hT'c:T.cells.set 3 (.int .i64 (max 0 (T.shown+x8)))=T'.cells:=by rw [hT'];rfl
    have ov:over (j * 4+3) [.int .i64 (max 0 (T.shown+x8))] (ts.map Trial.cells).flatten=some ((ts.map Trial.cells).set j T'.cells).flatten:=by
     have:=over_cell wd hjm T.cells 3 (.int .i64 (max 0 (T.shown+x8))) rfl (by omega)
     rw [hset,hT'c] at this
     exact this
    have T'ok:T'.Ok ss.length ms.length days:=by rw [hT'];exact ⟨hTok.s0,hTok.s1,hTok.m0,hTok.m1,hTok.d0,hTok.d1,by simp only;omega,by simp only;omega⟩
    obtain ⟨y8,hy8⟩:∃ y8:St,y8=⟨t8.h,t8.n,minN (minN t6.m t7.m) t8.m⟩:=⟨_,rfl⟩
    have y8n:y8.n=t8.n:=by rw [hy8]
    have y8h:y8.h=t8.h:=by rw [hy8]
    have y8m:y8.m=min (min t6.m t7.m) t8.m:=by rw [hy8];simp only [minN_eq]
    have hMA:Made y8.h y8.n d t1.n (t1.n+1) (t1.n+2) ⟨ms,ws,ss,ts,days⟩ offs errs rv xs bs4 vs4:=by rw [y8h];exact hM9.keep d8 g88 (by omega)
    have hMB:=hMA.setTrial (j:=j) hj T' (by omega) (4+tag 72) (by rw [y8h];exact tb8)
    simp (disch:=first|omega|(with_unfolding_all exact rfl)|(simp only[new_n,put_n,new_m];omega)|(refine put_m_le ?_;simp only[new_m];omega)) only [thenT_turn,Abs.W,reduceIte,Nat.reduceEqDiff,Nat.reduceAdd,decide_true,decide_false,kLoop_def,Nat.reduceSub,List.cons_append,List.nil_append,List.append_nil,List.length_cons,List.length_nil,efs,a8,kFold_def,foldA_nil,foldA_cons,maxA_i64,tb8,ov]
    rw [endT_kept (l:=[266]) (s':=t8) (by simp only [keptAll_cons,keptAll_nil,find_cons,efs,keptV_ptr,tb7,tb8,sameO_cells,reduceIte,Nat.reduceEqDiff,Bool.and_self])]
    simp (disch:=first|omega|(with_unfolding_all exact rfl)|(simp only[new_n,put_n,new_m];omega)|(refine put_m_le ?_;simp only[new_m];omega)) only [Abs.W,reduceIte,Nat.reduceEqDiff,Nat.reduceAdd,decide_true,decide_false,kLoop_def,Nat.reduceSub,List.cons_append,List.nil_append,List.append_nil,List.length_cons,List.length_nil,efs]
    rw [← hy8]
    have okB':Bench.Ok ⟨ms,ws,ss,ts.set j T',days⟩:=⟨by show 1≤ms.length;omega,by show ms.length≤5;omega,hMs.ok,by show ws.length≤6;omega,hWs,by show 1≤ss.length;omega,by show ss.length≤3;omega,hSs.ok,hdays,by show (ts.set j T').length≤6;rw [List.length_set];omega,fun t h=>by
     rcases List.mem_or_eq_of_mem_set h with h | h
     ·exact (hTs t h).1
     ·rw [h];exact T'ok⟩
    have hFB':FactOf ⟨ms,ws,ss,ts.set j T',days⟩ offs errs:=⟨hF0.ol,hF0.off,hF0.el,hF0.err⟩
    have lo3:t1.n+2≤bs4 3:=by have:=tbl;omega
    have e13:=hMB.g13
    have e14:=hMB.g14
    have dz:=hMB.die
    have hbz:=hMB.bench
    have hfz:=hMB.fact
    have hMZ:=hMB
    obtain ⟨z,hz⟩:∃ z:St,z=y8.put (bs4 3) (.cells ((ts.map Trial.cells).set j T'.cells).flatten (4+tag 72)):=⟨_,rfl⟩
    have zn:z.n=t8.n:=by rw [hz];exact y8n
    have zm:z.m=min y8.m (bs4 3):=by rw [hz];simp only [St.put,minN_eq]
    have zg:∀ c,c≠bs4 3→z.h.get c=t8.h.get c:=fun c hc=>by rw [hz,get_put_ne' _ _ _ _ hc,y8h]
    have zy:z.n=y8.n:=by rw [hz];rfl
    rw [← hz] at e13 e14 dz hbz hfz hMZ ⊢
    rw [← zy] at hbz hfz hMZ
    simp (disch:=first|omega|(with_unfolding_all exact rfl)|(simp only[new_n,put_n,new_m];omega)|(refine put_m_le ?_;simp only[new_m];omega)) only [res5,K5r0,K5r1,K5r2,K5r3,K5r4,K5r5,K5r6,K5r7,K5r8,K5r9,K5r10,K5r11,K5r12,K5r13,K5r14,K5r15,K5r16,K5r17,K5r18,K5r19,K5r20,K5r21s7,K5r21s6,K5r21s5,K5r21s4,K5r21,K5r22,K5r23,K5r24,K5r25,K5r26,K5r27,K5r28,K5r29,K5r30,K5r31,K5r32,K5r33,K5r34s7,K5r34s6,K5r34,K5r35,K5r36,K5r37,K5r38,K5,Abs.W,reduceIte,Nat.reduceEqDiff,Nat.reduceAdd,decide_true,decide_false,kLoop_def,Nat.reduceSub,List.cons_append,List.nil_append,List.append_nil,List.length_cons,List.length_nil,efs,a0,a10,a11,a13,a14,e13,e14,Nat.zero_add]
    generalize hh2:call Try.prog X n (.fn 25) _ _=rh2
    obtain ⟨q2,rfl,hq2⟩:=Holding_ex (b:=⟨ms,ws,ss,ts.set j T',days⟩) hh2 (by omega) okB' hFB' hbz hfz (by omega)
    have c10':=(zg u.n (by omega)).trans ((g88 u.n (by omega) (by omega)).trans ((st6.same u.n (by omega) (by omega)).trans c10))
    have c11':=(zg (u.n+1) (by omega)).trans ((g88 (u.n+1) (by omega) (by omega)).trans ((st6.same (u.n+1) (by omega) (by omega)).trans c11))
    simp (disch:=first|omega|(with_unfolding_all exact rfl)|(simp only[new_n,put_n,new_m];omega)|(refine put_m_le ?_;simp only[new_m];omega)) only [res5,K5r0,K5r1,K5r2,K5r3,K5r4,K5r5,K5r6,K5r7,K5r8,K5r9,K5r10,K5r11,K5r12,K5r13,K5r14,K5r15,K5r16,K5r17,K5r18,K5r19,K5r20,K5r21s7,K5r21s6,K5r21s5,K5r21s4,K5r21,K5r22,K5r23,K5r24,K5r25,K5r26,K5r27,K5r28,K5r29,K5r30,K5r31,K5r32,K5r33,K5r34s7,K5r34s6,K5r34,K5r35,K5r36,K5r37,K5r38,K5,Abs.W,reduceIte,Nat.reduceEqDiff,Nat.reduceAdd,decide_true,decide_false,kLoop_def,Nat.reduceSub,List.cons_append,List.nil_append,List.append_nil,List.length_cons,List.length_nil,efs,a10,a11,a13,a14,e13,e14,c10',c11',sc5,sc2',Nat.zero_add]
    rw [endO_ok _ (by
     rw [endOk_cons,endOk_nil]
     simp only [find_cons,efs,a10,a14,reduceIte,Nat.reduceEqDiff]
     exact apart_ptr (by omega))]
    simp (disch:=first|omega|(with_unfolding_all exact rfl)|(simp only[new_n,put_n,new_m];omega)|(refine put_m_le ?_;simp only[new_m];omega)) only [res5,K5r0,K5r1,K5r2,K5r3,K5r4,K5r5,K5r6,K5r7,K5r8,K5r9,K5r10,K5r11,K5r12,K5r13,K5r14,K5r15,K5r16,K5r17,K5r18,K5r19,K5r20,K5r21s7,K5r21s6,K5r21s5,K5r21s4,K5r21,K5r22,K5r23,K5r24,K5r25,K5r26,K5r27,K5r28,K5r29,K5r30,K5r31,K5r32,K5r33,K5r34s7,K5r34s6,K5r34,K5r35,K5r36,K5r37,K5r38,K5,Abs.W,reduceIte,Nat.reduceEqDiff,Nat.reduceAdd,decide_true,decide_false,kLoop_def,Nat.reduceSub,List.cons_append,List.nil_append,List.append_nil,List.length_cons,List.length_nil,efs,a10,a11]
    rw [leave_cct (v:=.agg [vs4 0,vs4 1,vs4 2,vs4 3,.int .i64 days]) (v':=.agg [vs4 4,vs4 5]) 10 28 11 31 12 _ _ sh5 sh2 (by simp only [efs,a10,reduceIte,Nat.reduceEqDiff];rw [load_ptr,get_put_ne' _ _ _ _ (by omega),get_put_eq _ _ _ _ rfl (by omega),loadO_cells,partS_some];rfl) (by simp only [efs,a11,reduceIte,Nat.reduceEqDiff];rw [load_ptr,get_put_eq _ _ _ _ rfl (by omega),loadO_cells,partS_some];rfl)]
    have fr:∀ c,c<u.n→c≠d→z.h.get c=u.h.get c:=fun c hc hcd=>(zg c (by omega)).trans ((g88 c (by omega) hcd).trans ((st6.same c (by omega) hcd).trans ((base c (by omega) hcd).trans (w0g c hc))))
    have m7:d≤t7.m:=st7.m (by show d≤far;omega)
    have m8:d≤t8.m:=st8.m (by show d≤far;omega)
    have ml8:=st8.mle
    refine ⟨_,_,rfl,⟨fun c hc hcd=>?_,by simp only [put_n];omega,by simp only [put_n];omega,fun _=>?_,?_⟩,plt _ _ _,⟨ms,ws,ss,ts.set j T',days⟩,offs,errs,rv,xs,bs4,vs4,t1.n,t1.n+1,t1.n+2,q2,by simp only [efs,reduceIte,Nat.reduceEqDiff],okB',hFB',hq2,hMZ.below (fun c hc=>?_) (by simp only [put_n];omega),by omega,by show ws.length≤R;omega,by show (ts.set j T').length≤R;rw [List.length_set];omega,by show ms.length≤M;omega,by show ss.length≤S;omega,by show days≤D;omega⟩
    ·rw [get_put_ne' _ _ _ _ (by omega),get_put_ne' _ _ _ _ (by omega)];exact fr c hc hcd
    ·have:=m6
     simp only [St.put,minN_eq] at zm ⊢;omega
    ·have:=ml8
     simp only [St.put,minN_eq] at zm ⊢;omega
    ·rw [get_put_ne' _ _ _ _ (by omega),get_put_ne' _ _ _ _ (by omega)]) (by omega)
 obtain ⟨hq1,hq2,hq3,hq4,hq5,hq6,hq7⟩:=hq
 exact ⟨b,offs,errs,rv,xs,bs,vs,p13,p14,lo,q,t,hr.symm.trans e,st,hq1,hq2,hq3,hq4,hq5,hq6,hq7⟩
theorem BenchOf_ex2 {N d:Nat} {M S R D:Nat} {s:St} {r:ARes} (hr:call Try.prog X N (.fn 5) [.ptr d 0,.int .i64 (M:Int),.int .i64 (S:Int),.int .i64 (R:Int),.int .i64 (D:Int)] s=r) (hN:7≤N) (hd:Die d s.h) (hlt:d<s.n) (hM:1≤M∧M≤5) (hS:1≤S∧S≤3) (hR:R≤5) (hD:D≤8) (hs:s.n+30000≤far) :
  ∃ b offs errs v1 v2 v3 v4 v5 v6 q t,r=.val (.tup [.agg [v1,v2,v3,v4,.int .i64 b.days],.agg [v5,v6],.bool q]) t∧Stir d s t 2000∧Die d t.h∧b.Ok∧FactOf b offs errs∧(q=true↔Tells b offs errs)∧BenchF t.h s.n t.n b offs errs v1 v2 v3 v4 v5 v6∧Stands t.h s.n t.n v2∧Stands t.h s.n t.n v4∧b.ws.length≤R∧b.ts.length≤R:=by
 obtain ⟨b,offs,errs,rv,xs,bs,vs,p13,p14,lo,q,t,h1,h2,h3,h4,h5,h6,h7,h8,h9,_⟩:=BenchOf_ex3 hr hN hd hlt hM hS hR hD hs
 have hp:=h6.pl
 exact ⟨b,offs,errs,vs 0,vs 1,vs 2,vs 3,vs 4,vs 5,q,t,h1,h2,h6.die,h3,h4,h5,h6.frozen.mono (fun _ _ _=>rfl) (by omega) (Nat.le_refl _),(h6.stands 1).mono (fun _ _ _=>rfl) (by omega) (Nat.le_refl _),(h6.stands 3).mono (fun _ _ _=>rfl) (by omega) (Nat.le_refl _),h8,h9⟩
end Go.Proofs.Ytoolodjbfphkjaa.walk
set_option maxRecDepth 10000
namespace Go.Proofs.Ytoolodjbfphkjaa.walk
open Go.Abs Go.Proofs.Ytoolodjbfphkjaa.code
structure Gives (N l k0 w K:Nat) (cl:Nat→Claim) (J:Nat→(Nat→Prop)→Heap→Nat→Prop):Prop where
 few:k0≤2000
 below:∀ i O h n x,J i O h n→O x→x<n
 keep:∀ i O h h' n n',(∀ b,b<n→h'.get b=h.get b)→n≤n'→J i O h n→J i O h' n'
 take:∀ i O (s:St),i<K→J i O s.h s.n→s.n+20000≤far→w≤s.m→s.m≤far→∃ s' O',call Try.prog X N (.yield l) [claimV (cl i)] s=.val (.bool true) s'∧J (i+1) O' s'.h s'.n ∧
  (∀ x,x<s.n→¬ O x→s'.h.get x=s.h.get x)∧(∀ x,x<s.n→O' x→O x)∧s.n≤s'.n∧s'.n≤s.n+k0∧w≤s'.m∧s'.m≤s.m∧s'.m≤l
def mAt (b:Bench) (i:Nat):Mass:=b.ms.getD i ⟨0,0,0⟩
def sAt (b:Bench) (i:Nat):Scl:=b.ss.getD i ⟨0,0,0,0⟩
def givAt (b:Bench) (k:Nat):Claim :=
 if k<b.ms.length then ⟨k+1,0,((mAt b k).lo,(mAt b k).hi)⟩
 else if (k - b.ms.length) % (b.days+1)=0 then ⟨k+1,0,(-(sAt b ((k - b.ms.length) / (b.days+1))).fh, -(sAt b ((k - b.ms.length) / (b.days+1))).fl)⟩
 else ⟨k+1,k,(-(sAt b ((k - b.ms.length) / (b.days+1))).dh, -(sAt b ((k - b.ms.length) / (b.days+1))).dl)⟩
def givMany (b:Bench):Nat:=b.ms.length+b.ss.length * (b.days+1)
theorem givAt_mass (b:Bench) {i:Nat} (h:i<b.ms.length):givAt b i=⟨1+i,0,(b.ms[i].lo,b.ms[i].hi)⟩:=by
 unfold givAt mAt
 rw [if_pos h,Nat.add_comm]
 simp [List.getD,h]
theorem givAt_scale (b:Bench) {i:Nat} (h:i<b.ss.length):givAt b (b.ms.length+i * (b.days+1))=⟨1+b.ms.length+i * (b.days+1)+0,0,(-b.ss[i].fh, -b.ss[i].fl)⟩:=by
 unfold givAt sAt
 have e:b.ms.length+i * (b.days+1) - b.ms.length=i * (b.days+1):=by omega
 rw [if_neg (by omega),e,Nat.mul_mod_left,if_pos rfl,Nat.mul_div_cancel _ (by omega)]
 simp [List.getD,h]
 omega
theorem givAt_day (b:Bench) {i d:Nat} (h:i<b.ss.length) (hd:d<b.days):givAt b (b.ms.length+i * (b.days+1)+(d+1))=⟨1+b.ms.length+i * (b.days+1)+(d+1),1+b.ms.length+i * (b.days+1)+d,(-b.ss[i].dh, -b.ss[i].dl)⟩:=by
 unfold givAt sAt
 have e:b.ms.length+i * (b.days+1)+(d+1) - b.ms.length=(d+1)+i * (b.days+1):=by omega
 have e1:((d+1)+i * (b.days+1)) % (b.days+1)=d+1:=by rw [Nat.add_mul_mod_self_right,Nat.mod_eq_of_lt (by omega)]
 have e2:((d+1)+i * (b.days+1)) / (b.days+1)=i:=by rw [Nat.add_mul_div_right _ _ (by omega),Nat.div_eq_of_lt (by omega),Nat.zero_add]
 rw [if_neg (by omega),e,e1,e2,if_neg (by omega)]
 simp [List.getD,h]
 omega
structure Hand (u t:St) (w kk:Nat) (O0 O:Nat→Prop):Prop where
 same:∀ x,x<u.n→¬ O0 x→t.h.get x=u.h.get x
 own:∀ x,x<u.n→O x→O0 x
 n:u.n≤t.n
 le:t.n≤u.n+kk
 m:w≤t.m
 mle:t.m≤far
theorem Hand.mono {u t:St} {w k k':Nat} {O0 O:Nat→Prop} (h:Hand u t w k O0 O) (hk:k≤k'):Hand u t w k' O0 O:=⟨h.same,h.own,h.n,by have:=h.le;omega,h.m,h.mle⟩
theorem mass_round (N:Nat) (hN:1≤N) (cx:Ctx) {l k0 w p i kk:Nat} {O0 O:Nat→Prop} {J:Nat→(Nat→Prop)→Heap→Nat→Prop} {b:Bench} {v1 v2 v3 v4:AV} {u t:St} {L:Env} (hY:Gives N l k0 w (givMany b) (givAt b) J) (ok:b.Ok)
  (nb:Nat) (hB:BenchAt u.h nb b v1 v2 v3 v4) (hnb:∀ x,x<nb→x<u.n∧¬ O0 x) (hw:w≤u.n) (hs:u.n+kk+30000≤far) (hi:i<b.ms.length)
  (q0:L.find 0=.yield l) (q1:L.find 1=.ptr p 0) (q9:L.find 9=v1) (q10:L.find 10=.int .i64 b.ms.length) (q11:L.find 11=.int .i64 i) (hD:Hand u t w kk O0 O) (hJ:J i O t.h t.n) :
  ∃ L1 t1 O1,K78l0 (call Try.prog X N) cx L [] t=.done .norm L1 [] t1∧Hand u t1 w (kk+k0+1) O0 O1∧t1.m≤l∧L1.find 0=.yield l∧L1.find 1=.ptr p 0∧L1.find 9=v1∧L1.find 10=.int .i64 b.ms.length∧L1.find 11=.int .i64 (i+1:Nat)∧J (i+1) O1 t1.h t1.n:=by
 have hf:far=1000000000:=rfl
 obtain ⟨same,own,tn,tk,tm,tf⟩:=hD
 have e0:decide ((i:Int)<(b.ms.length:Int))=true:=decide_eq_true (by omega)
 obtain ⟨x0,o0,cs,sz,r1,r2,r3,r4⟩:=hB.m.at_ i (by simpa using hi)
 rw [List.getElem_map] at r4
 have g0:=(same x0 (hnb _ r1).1 (hnb _ r1).2).trans r3
 have hcl:=givAt_mass b hi
 have m1:=ok.m1
 generalize b.ms[i]=M at *
 obtain ⟨Mn,Mlo,Mhi⟩:=M
 unfold Mass.cells at r4
 simp only at hcl r4
 have ad:∀ s,aAdd s .i64 (i:Int) 1=.val (.int .i64 ((i:Int)+1)) s:=fun s=>aAdd_i64 s _ _ (by omega)
 have xt:x0<t.n:=by have:=(hnb _ r1).1;omega
 simp (disch:=first|omega|(with_unfolding_all exact rfl)|(simp only[new_n,put_n,new_m];omega)|(refine put_m_le ?_;simp only[new_m];omega)) only [res78,K78r0,K78r1,K78r2,K78r3,K78r4,K78r5,K78r6,K78r7,K78r8,K78r9,K78r10,K78r11,K78r12,K78r13,K78r14,K78,K78l0,Abs.W,reduceIte,Nat.reduceEqDiff,Nat.reduceAdd,decide_true,decide_false,kLoop_def,Nat.reduceSub,List.cons_append,List.nil_append,List.append_nil,List.length_cons,List.length_nil,efs,Nat.zero_add,Nat.add_zero,q0,q1,q9,q10,q11,e0,r2,r4,g0,massN_ok,gapOf_ok]
 generalize hs1:(t.new _).put t.n _=s1
 have s1n:s1.n=t.n+1:=by rw [← hs1];rfl
 have s1g:∀ x,x<t.n→s1.h.get x=t.h.get x:=fun x hx=>by rw [← hs1,get_put_ne' _ _ _ _ (by omega),get_new_ne _ _ _ (by omega)]
 have s1m:w≤s1.m∧s1.m≤far:=by rw [← hs1];simp only [St.put,minN_eq,new_m];omega
 obtain ⟨s2,O1,e2,k1,k3,k9,k4,k5,k6,k7,k8⟩:=hY.take i O s1 (by unfold givMany;omega) (hY.keep _ _ t.h s1.h t.n s1.n s1g (by omega) hJ) (by omega) s1m.1 s1m.2
 rw [hcl] at e2
 have e2':call Try.prog X N (.yield l) [.agg [.int .i64 ((1+i:Nat):Int),.int .i64 0,.int .i64 Mlo,.int .i64 Mhi]] s1=.val (.bool true) s2:=e2
 have kf:=hY.few
 have hD2:Hand u s2 w (kk+k0+1) O0 O1:=⟨fun x hx ho=>(k3 x (by omega) (fun h=>ho (own x hx h))).trans ((s1g x (by omega)).trans (same x hx ho)),fun x hx h=>own x hx (k9 x (by omega) h),by omega,by omega,k6,by omega⟩
 simp (disch:=first|omega|(with_unfolding_all exact rfl)|(simp only[new_n,put_n,new_m];omega)|(refine put_m_le ?_;simp only[new_m];omega)) only [Abs.W,reduceIte,Nat.reduceEqDiff,Nat.reduceAdd,decide_true,decide_false,kLoop_def,Nat.reduceSub,List.cons_append,List.nil_append,List.append_nil,List.length_cons,List.length_nil,efs,e2',q11,ad]
 refine ⟨_,_,O1,rfl,hD2,k8,?_,?_,?_,?_,?_,k1⟩
 ·simp only [efs,q0,reduceIte,Nat.reduceEqDiff]
 ·simp only [efs,q1,reduceIte,Nat.reduceEqDiff]
 ·simp only [efs,q9,reduceIte,Nat.reduceEqDiff]
 ·simp only [efs,q10,reduceIte,Nat.reduceEqDiff]
 ·simp only [efs,reduceIte,Nat.reduceEqDiff];rfl
theorem day_round (N:Nat) (hN:1≤N) (cx:Ctx) {l k0 w p szp i d kk x6:Nat} {O0 O:Nat→Prop} {J:Nat→(Nat→Prop)→Heap→Nat→Prop} {b:Bench} {v1 v2 v3 v4:AV} {u t:St} {L:Env} (hY:Gives N l k0 w (givMany b) (givAt b) J) (ok:b.Ok)
  (nb:Nat) (hB:BenchAt u.h nb b v1 v2 v3 v4) (gp:u.h.get p=some (.cells (benchV v1 v2 v3 v4 b.days) szp)) (hp:p<u.n∧¬ O0 p) (hw:w≤u.n) (hs:u.n+kk+30000≤far) (hi:i<b.ss.length) (hd:d<b.days)
  (g6:t.h.get x6=some (.cells b.ss[i].cells (tag 68))) (h6:x6<t.n∧¬ O x6)
  (q0:L.find 0=.yield l) (q1:L.find 1=.ptr p 0) (q5:L.find 5=.int .i64 i) (q6:L.find 6=.ptr x6 0) (q27:L.find 27=v3) (q28:L.find 28=.int .i64 b.ss.length) (q29:L.find 29=.int .i64 i) (q46:L.find 46=.int .i64 b.days) (q47:L.find 47=.int .i64 d) (hD:Hand u t w kk O0 O) (hJ:J (b.ms.length+i * (b.days+1)+(d+1)) O t.h t.n) :
  ∃ L1 t1 O1,K78l1 (call Try.prog X N) cx L [] t=.done .norm L1 [] t1∧Hand u t1 w (kk+k0+1) O0 O1∧t1.m≤l∧t1.h.get x6=some (.cells b.ss[i].cells (tag 68))∧(x6<t1.n∧¬ O1 x6)∧L1.find 0=.yield l∧L1.find 1=.ptr p 0∧L1.find 5=.int .i64 i∧L1.find 6=.ptr x6 0∧L1.find 27=v3∧L1.find 28=.int .i64 b.ss.length∧L1.find 29=.int .i64 i∧L1.find 46=.int .i64 b.days∧L1.find 47=.int .i64 (d+1:Nat)∧J (b.ms.length+i * (b.days+1)+(d+1+1)) O1 t1.h t1.n:=by
 have hf:far=1000000000:=rfl
 obtain ⟨same,own,tn,tk,tm,tf⟩:=hD
 have c1:=ok.m1
 have c2:=ok.s1
 have c3:=ok.d1
 have e0:decide ((d:Int)<(b.days:Int))=true:=decide_eq_true (by omega)
 have gp':=(same p hp.1 hp.2).trans gp
 have hcl:=givAt_day b hi hd
 have hidx:b.ms.length+i * (b.days+1)+(d+1)<givMany b:=by
  unfold givMany
  have:(i+1) * (b.days+1)≤b.ss.length * (b.days+1):=Nat.mul_le_mul_right _ (by omega)
  rw [Nat.succ_mul] at this
  omega
 obtain ⟨f0,f1,f2,z0,z1,z2⟩:=ok.sok _ (List.getElem_mem hi)
 generalize b.ss[i]=M at *
 obtain ⟨Fl,Fh,Dl,Dh⟩:=M
 unfold Scl.cells at g6
 simp only at hcl g6 z0 z1 z2
 have ad:∀ s,aAdd s .i64 (d:Int) 1=.val (.int .i64 ((d:Int)+1)) s:=fun s=>aAdd_i64 s _ _ (by omega)
 have l1:=hB.m.len
 rw [List.length_map] at l1
 have he:∀ (e:Nat) (s:St),e≤100→s.n+100≤far→call Try.prog X N (.fn 59) [.agg [v1,v2,v3,v4,.int .i64 b.days],.int .i64 (i:Int),.int .i64 (e:Int)] s=.val (.int .i64 ((1+b.ms.length+i * (b.days+1)+e:Nat):Int)) s:=fun e s he hs=>errorAt_ok N hN b.ms.length b.days i e v1 v2 v3 v4 l1 hB.m.ne s (by omega) (by omega) (by omega) (by omega) hs
 have he1:∀ (s:St),s.n+100≤far→call Try.prog X N (.fn 59) [.agg [v1,v2,v3,v4,.int .i64 b.days],.int .i64 (i:Int),.int .i64 ((d:Int)+1)] s=.val (.int .i64 ((1+b.ms.length+i * (b.days+1)+(d+1):Nat):Int)) s:=fun s hs=>he (d+1) s (by omega) hs
 have he0:=fun s hs=>he d s (by omega) hs
 unfold benchV at gp'
 simp (disch:=first|omega|(with_unfolding_all exact rfl)|(simp only[new_n,put_n,new_m];omega)|(refine put_m_le ?_;simp only[new_m];omega)) only [res78,K78r0,K78r1,K78r2,K78r3,K78r4,K78r5,K78r6,K78r7,K78r8,K78r9,K78r10,K78r11,K78r12,K78r13,K78r14,K78,K78l1,Abs.W,reduceIte,Nat.reduceEqDiff,Nat.reduceAdd,decide_true,decide_false,kLoop_def,Nat.reduceSub,List.cons_append,List.nil_append,List.append_nil,List.length_cons,List.length_nil,efs,Nat.zero_add,q0,q1,q5,q6,q46,q47,e0,g6,gp',he0,he1,gapOf_ok,turned_ok,ad]
 obtain ⟨s2,O1,e2,k1,k3,k9,k4,k5,k6,k7,k8⟩:=hY.take _ O t hidx hJ (by omega) tm tf
 rw [hcl] at e2
 have e2':call Try.prog X N (.yield l) [.agg [.int .i64 ((1+b.ms.length+i * (b.days+1)+(d+1):Nat):Int),.int .i64 ((1+b.ms.length+i * (b.days+1)+d:Nat):Int),.int .i64 (-Dh),.int .i64 (-Dl)]] t=.val (.bool true) s2:=e2
 have kf:=hY.few
 have hD2:Hand u s2 w (kk+k0+1) O0 O1:=⟨fun x hx ho=>(k3 x (by omega) (fun h=>ho (own x hx h))).trans (same x hx ho),fun x hx h=>own x hx (k9 x (by omega) h),by omega,by omega,k6,by omega⟩
 simp (disch:=first|omega|(with_unfolding_all exact rfl)|(simp only[new_n,put_n,new_m];omega)|(refine put_m_le ?_;simp only[new_m];omega)) only [Abs.W,reduceIte,Nat.reduceEqDiff,Nat.reduceAdd,decide_true,decide_false,kLoop_def,Nat.reduceSub,List.cons_append,List.nil_append,List.append_nil,List.length_cons,List.length_nil,efs,e2',q47,ad]
 refine ⟨_,_,O1,rfl,hD2,k8,(k3 x6 h6.1 h6.2).trans g6,⟨by omega,fun h=>h6.2 (k9 x6 h6.1 h)⟩,?_,?_,?_,?_,?_,?_,?_,?_,?_,k1⟩
 ·simp only [efs,q0,reduceIte,Nat.reduceEqDiff]
 ·simp only [efs,q1,reduceIte,Nat.reduceEqDiff]
 ·simp only [efs,q5,reduceIte,Nat.reduceEqDiff]
 ·simp only [efs,q6,reduceIte,Nat.reduceEqDiff]
 ·simp only [efs,q27,reduceIte,Nat.reduceEqDiff]
 ·simp only [efs,q28,reduceIte,Nat.reduceEqDiff]
 ·simp only [efs,q29,reduceIte,Nat.reduceEqDiff]
 ·simp only [efs,q46,reduceIte,Nat.reduceEqDiff]
 ·simp only [efs,reduceIte,Nat.reduceEqDiff];rfl
theorem scale_round (N:Nat) (hN:1≤N) (cx:Ctx) {l k0 w p szp i kk:Nat} {O0 O:Nat→Prop} {J:Nat→(Nat→Prop)→Heap→Nat→Prop} {b:Bench} {v1 v2 v3 v4:AV} {u t:St} {L:Env} (hY:Gives N l k0 w (givMany b) (givAt b) J) (ok:b.Ok)
  (nb:Nat) (hB:BenchAt u.h nb b v1 v2 v3 v4) (hnb:∀ x,x<nb→x<u.n∧¬ O0 x) (gp:u.h.get p=some (.cells (benchV v1 v2 v3 v4 b.days) szp)) (hp:p<u.n∧¬ O0 p) (hw:w≤u.n) (hs:u.n+kk+100000≤far) (hi:i<b.ss.length)
  (q0:L.find 0=.yield l) (q1:L.find 1=.ptr p 0) (q27:L.find 27=v3) (q28:L.find 28=.int .i64 b.ss.length) (q29:L.find 29=.int .i64 i) (hD:Hand u t w kk O0 O) (hJ:J (b.ms.length+i * (b.days+1)) O t.h t.n) :
  ∃ L1 t1 O1,K78l2 (call Try.prog X N) cx L [] t=.done .norm L1 [] t1∧Hand u t1 w (kk+(k0+1) * (b.days+1)) O0 O1∧t1.m≤l∧L1.find 0=.yield l∧L1.find 1=.ptr p 0∧L1.find 27=v3∧L1.find 28=.int .i64 b.ss.length∧L1.find 29=.int .i64 (i+1:Nat)∧J (b.ms.length+(i+1) * (b.days+1)) O1 t1.h t1.n:=by
 have hf:far=1000000000:=rfl
 have hD0:=hD
 obtain ⟨same,own,tn,tk,tm,tf⟩:=hD
 have c1:=ok.m1
 have c2:=ok.s1
 have c3:=ok.d1
 have e0:decide ((i:Int)<(b.ss.length:Int))=true:=decide_eq_true (by omega)
 obtain ⟨x0,o0,cs,sz,r1,r2,r3,r4⟩:=hB.s.at_ i (by simpa using hi)
 rw [List.getElem_map] at r4
 have g0:=(same x0 (hnb _ r1).1 (hnb _ r1).2).trans r3
 have gp':=(same p hp.1 hp.2).trans gp
 have hcl:=givAt_scale b hi
 have hidx:b.ms.length+i * (b.days+1)<givMany b:=by
  unfold givMany
  have:(i+1) * (b.days+1)≤b.ss.length * (b.days+1):=Nat.mul_le_mul_right _ (by omega)
  rw [Nat.succ_mul] at this
  omega
 obtain ⟨f0,f1,f2,z0,z1,z2⟩:=ok.sok _ (List.getElem_mem hi)
 obtain ⟨M,hM⟩:∃ M,M=b.ss[i]:=⟨_,rfl⟩
 rw [← hM] at hcl r4 f0 f1 f2 z0 z1 z2
 have hMc:b.ss[i].cells=M.cells:=by rw [hM]
 clear hM
 obtain ⟨Fl,Fh,Dl,Dh⟩:=M
 unfold Scl.cells at r4
 simp only at hcl r4 f0 f1 f2
 have ad:∀ s,aAdd s .i64 (i:Int) 1=.val (.int .i64 ((i:Int)+1)) s:=fun s=>aAdd_i64 s _ _ (by omega)
 have l1:=hB.m.len
 rw [List.length_map] at l1
 have he0:∀ (s:St),s.n+100≤far→call Try.prog X N (.fn 59) [.agg [v1,v2,v3,v4,.int .i64 b.days],.int .i64 (i:Int),.int .i64 0] s=.val (.int .i64 ((1+b.ms.length+i * (b.days+1)+0:Nat):Int)) s:=fun s hs=>errorAt_ok N hN b.ms.length b.days i 0 v1 v2 v3 v4 l1 hB.m.ne s (by omega) (by omega) (by omega) (by omega) hs
 have xt:x0<t.n:=by have:=(hnb _ r1).1;omega
 have gp2:=gp'
 unfold benchV at gp2
 simp (disch:=first|omega|(with_unfolding_all exact rfl)|(simp only[new_n,put_n,new_m];omega)|(refine put_m_le ?_;simp only[new_m];omega)) only [res78,K78r0,K78r1,K78r2,K78r3,K78r4,K78r5,K78r6,K78r7,K78r8,K78r9,K78r10,K78r11,K78r12,K78r13,K78r14,K78,K78l2,Abs.W,reduceIte,Nat.reduceEqDiff,Nat.reduceAdd,decide_true,decide_false,kLoop_def,Nat.reduceSub,List.cons_append,List.nil_append,List.append_nil,List.length_cons,List.length_nil,efs,Nat.zero_add,q0,q1,q27,q28,q29,e0,r2,r4,g0,gp2,he0,gapOf_ok,turned_ok]
 generalize hs1:(t.new _).put t.n _=s1
 have s1n:s1.n=t.n+1:=by rw [← hs1];rfl
 have s1g:∀ x,x<t.n→s1.h.get x=t.h.get x:=fun x hx=>by rw [← hs1,get_put_ne' _ _ _ _ (by omega),get_new_ne _ _ _ (by omega)]
 have s16:s1.h.get t.n=some (.cells b.ss[i].cells (tag 68)):=by rw [hMc,← hs1];exact get_put_eq _ _ _ _ rfl (by omega)
 have s1m:w≤s1.m∧s1.m≤far:=by rw [← hs1];simp only [St.put,minN_eq,new_m];omega
 obtain ⟨s2,O1,e2,k1,k3,k9,k4,k5,k6,k7,k8⟩:=hY.take _ O s1 hidx (hY.keep _ _ t.h s1.h t.n s1.n s1g (by omega) hJ) (by omega) s1m.1 s1m.2
 rw [hcl] at e2
 have e2':call Try.prog X N (.yield l) [.agg [.int .i64 ((1+b.ms.length+i * (b.days+1)+0:Nat):Int),.int .i64 0,.int .i64 (-Fh),.int .i64 (-Fl)]] s1=.val (.bool true) s2:=e2
 have kf:=hY.few
 have nO:¬ O t.n:=fun h=>Nat.lt_irrefl _ (hY.below _ _ _ _ _ hJ h)
 have hD2:Hand u s2 w (kk+k0+1) O0 O1:=⟨fun x hx ho=>(k3 x (by omega) (fun h=>ho (own x hx h))).trans ((s1g x (by omega)).trans (same x hx ho)),fun x hx h=>own x hx (k9 x (by omega) h),by omega,by omega,k6,by omega⟩
 have gp3:=(hD2.same p hp.1 hp.2).trans gp
 unfold benchV at gp3
 simp (disch:=first|omega|(with_unfolding_all exact rfl)|(simp only[new_n,put_n,new_m];omega)|(refine put_m_le ?_;simp only[new_m];omega)) only [Abs.W,reduceIte,Nat.reduceEqDiff,Nat.reduceAdd,decide_true,decide_false,kLoop_def,Nat.reduceSub,List.cons_append,List.nil_append,List.append_nil,List.length_cons,List.length_nil,efs,e2',q1,gp3]
 generalize hl:loopN _ rounds _ _ _ _ _=rr
 have hkm:∀ d,d≤b.days+1→(k0+1) * d≤(k0+1) * 9:=fun d hd=>Nat.mul_le_mul_left _ (by omega)
 obtain ⟨e,L2,s3,rfl,rfl,O2,hD3,hl3,y0,y1,y27,y28,y29,yJ⟩:=loop_of hl (fun d L' t'=>∃ O2,Hand u t' w (kk+(k0+1) * (d+1)) O0 O2∧t'.m≤l∧t'.h.get t.n=some (.cells b.ss[i].cells (tag 68))∧(t.n<t'.n∧¬ O2 t.n)∧L'.find 0=.yield l∧L'.find 1=.ptr p 0∧L'.find 5=.int .i64 i∧L'.find 6=.ptr t.n 0∧L'.find 27=v3∧L'.find 28=.int .i64 b.ss.length∧L'.find 29=.int .i64 i∧L'.find 46=.int .i64 b.days∧L'.find 47=.int .i64 d∧J (b.ms.length+i * (b.days+1)+(d+1)) O2 t'.h t'.n)
  (fun e L' t'=>e=.exit 4∧∃ O2,Hand u t' w (kk+(k0+1) * (b.days+1)) O0 O2∧t'.m≤l∧L'.find 0=.yield l∧L'.find 1=.ptr p 0∧L'.find 27=v3∧L'.find 28=.int .i64 b.ss.length∧L'.find 29=.int .i64 i∧J (b.ms.length+i * (b.days+1)+(b.days+1)) O2 t'.h t'.n) b.days (by unfold rounds;omega)
  ⟨O1,by rw [Nat.zero_add,Nat.mul_one];exact hD2,k8,(k3 _ (by omega) nO).trans s16,⟨by omega,fun h=>nO (k9 _ (by omega) h)⟩,by simp only [efs,q0,reduceIte,Nat.reduceEqDiff],by simp only [efs,q1,reduceIte,Nat.reduceEqDiff],by simp only [efs,reduceIte,Nat.reduceEqDiff],by simp only [efs,reduceIte,Nat.reduceEqDiff],by simp only [efs,q27,reduceIte,Nat.reduceEqDiff],by simp only [efs,q28,reduceIte,Nat.reduceEqDiff],by simp only [efs,q29,reduceIte,Nat.reduceEqDiff],by simp only [efs,reduceIte,Nat.reduceEqDiff],by simp only [efs,reduceIte,Nat.reduceEqDiff];rfl,k1⟩
  (fun d L' t' hd ⟨O2,hD',hl',g6,h6,y0,y1,y5,y6,y27,y28,y29,y46,y47,yJ⟩=>by
   have hkd:=hkm (d+1) (by omega)
   by_cases hlt:d<b.days
   ·obtain ⟨L2,t2,O3,p1,p2,p3,p4,p5,p6,p7,p8,p9,pa,pb,pc,pd,pe,pf⟩:=day_round N hN cx hY ok nb hB gp hp hw (by omega) hi hlt g6 h6 y0 y1 y5 y6 y27 y28 y29 y46 y47 hD' yJ
    refine .inl ⟨hlt,L2,t2,p1,O3,?_,p3,p4,⟨by have:=p2.n;have:=hD'.n;have:=p5.1;omega,p5.2⟩,p6,p7,p8,p9,pa,pb,pc,pd,pe,pf⟩
    rw [Nat.mul_succ (k0+1) (d+1),← Nat.add_assoc]
    exact p2
   ·obtain rfl:d=b.days:=by omega
    have e1:decide ((b.days:Int)<(b.days:Int))=false:=by simp
    refine .inr ⟨.exit 4,L'.set 48 (.bool false),t',by simp,?_,rfl,O2,hD',hl',?_,?_,?_,?_,?_,yJ⟩
    ·simp (disch:=first|omega|(with_unfolding_all exact rfl)|(simp only[new_n,put_n,new_m];omega)|(refine put_m_le ?_;simp only[new_m];omega)) only [res78,K78r0,K78r1,K78r2,K78r3,K78r4,K78r5,K78r6,K78r7,K78r8,K78r9,K78r10,K78r11,K78r12,K78r13,K78r14,K78,K78l1,Abs.W,reduceIte,Nat.reduceEqDiff,Nat.reduceAdd,decide_true,decide_false,kLoop_def,Nat.reduceSub,List.cons_append,List.nil_append,List.append_nil,List.length_cons,List.length_nil,efs,y46,y47,e1]
    ·simp only [efs,y0,reduceIte,Nat.reduceEqDiff]
    ·simp only [efs,y1,reduceIte,Nat.reduceEqDiff]
    ·simp only [efs,y27,reduceIte,Nat.reduceEqDiff]
    ·simp only [efs,y28,reduceIte,Nat.reduceEqDiff]
    ·simp only [efs,y29,reduceIte,Nat.reduceEqDiff])
 simp (disch:=first|omega|(with_unfolding_all exact rfl)|(simp only[new_n,put_n,new_m];omega)|(refine put_m_le ?_;simp only[new_m];omega)) only [res78,K78r0,K78r1,K78r2,K78r3,K78r4,K78r5,K78r6,K78r7,K78r8,K78r9,K78r10,K78r11,K78r12,K78r13,K78r14,K78,Abs.W,reduceIte,Nat.reduceEqDiff,Nat.reduceAdd,decide_true,decide_false,kLoop_def,Nat.reduceSub,List.cons_append,List.nil_append,List.append_nil,List.length_cons,List.length_nil,efs,y29,ad]
 refine ⟨_,_,O2,rfl,hD3,hl3,?_,?_,?_,?_,?_,?_⟩
 ·simp only [efs,y0,reduceIte,Nat.reduceEqDiff]
 ·simp only [efs,y1,reduceIte,Nat.reduceEqDiff]
 ·simp only [efs,y27,reduceIte,Nat.reduceEqDiff]
 ·simp only [efs,y28,reduceIte,Nat.reduceEqDiff]
 ·simp only [efs,reduceIte,Nat.reduceEqDiff];rfl
 ·rw [Nat.succ_mul,← Nat.add_assoc];exact yJ
theorem givens1_ex {N l k0 w p szp:Nat} {O0:Nat→Prop} {J:Nat→(Nat→Prop)→Heap→Nat→Prop} {b:Bench} {v1 v2 v3 v4:AV} {s:St} {r:ARes} (hr:call Try.prog X N (.fn 78) [.yield l,.ptr p 0] s=r) (hN:2≤N) (hY:Gives (N - 1) l k0 w (givMany b) (givAt b) J) (ok:b.Ok)
  (nb:Nat) (hB:BenchAt s.h nb b v1 v2 v3 v4) (hnb:∀ x,x<nb→x<s.n∧¬ O0 x) (gp:s.h.get p=some (.cells (benchV v1 v2 v3 v4 b.days) szp)) (hp:p<s.n∧¬ O0 p) (hw:w≤s.n) (hs:s.n+300000≤far) (hls:l<s.n) (hJ:J 0 O0 s.h s.n) :
  ∃ s' O1,r=.val (.tup []) s'∧J (givMany b) O1 s'.h s'.n∧(∀ x,x<s.n→¬ O0 x→s'.h.get x=s.h.get x)∧(∀ x,x<s.n→O1 x→O0 x)∧s.n≤s'.n∧s'.n≤s.n+(k0+1) * givMany b∧(w≤s.m→w≤s'.m)∧s'.m≤s.m:=by
 obtain ⟨n,rfl⟩:∃ n,N=n+1:=⟨N - 1,by omega⟩
 have hf:far=1000000000:=rfl
 rw [Nat.add_sub_cancel] at hY
 have c0:=ok.m0
 have c1:=ok.m1
 have c2:=ok.s1
 have c3:=ok.d1
 have kf:=hY.few
 have hkm:∀ i,i≤32→(k0+1) * i≤(k0+1) * 32:=fun i hi=>Nat.mul_le_mul_left _ hi
 have hsd:∀ i,i≤b.ss.length→i * (b.days+1)≤3 * 9:=fun i hi=>Nat.mul_le_mul (by omega) (by omega)
 obtain ⟨v',t,mm,e,⟨rfl,O1,a1,a2,a3,a4,a5,a6,a7⟩,hm'⟩:=call_any (n:=n) (args:=[.yield l,.ptr p 0]) (s:=s) (Q:=fun v h n m'=>v=.tup []∧∃ O1,J (givMany b) O1 h n∧(∀ x,x<s.n→¬ O0 x→h.get x=s.h.get x)∧(∀ x,x<s.n→O1 x→O0 x)∧s.n≤n∧n≤s.n+(k0+1) * givMany b∧w≤m'∧m'≤far) Try.func78 rfl (fun u uh un um=>by
  rw [← uh] at gp hB
  rw [← un] at hnb hp
  have hJ':J 0 O0 u.h u.n:=by rw [uh,un];exact hJ
  have gp':=gp
  unfold benchV at gp'
  have k1:∀ t,okA (.val v1 t)=.val v1 t:=fun t=>okA_ne hB.m.ne
  have k3:∀ t,okA (.val v3 t)=.val v3 t:=fun t=>okA_ne hB.s.ne
  have l1:=hB.m.len
  rw [List.length_map] at l1
  have l3:=hB.s.len
  rw [List.length_map] at l3
  rw [enter78]
  simp (disch:=first|omega|(with_unfolding_all exact rfl)|(simp only[new_n,put_n,new_m];omega)|(refine put_m_le ?_;simp only[new_m];omega)) only [res78,K78r0,K78r1,K78r2,K78r3,K78r4,K78r5,K78r6,K78r7,K78r8,K78r9,K78r10,K78r11,K78r12,K78r13,K78r14,K78,Abs.W,reduceIte,Nat.reduceEqDiff,Nat.reduceAdd,decide_true,decide_false,kLoop_def,Nat.reduceSub,List.cons_append,List.nil_append,List.append_nil,List.length_cons,List.length_nil,gp',k1,l1]
  generalize hl:loopN _ rounds _ _ _ _ _=r1
  have h0:Hand u u w 0 O0 O0:=⟨fun _ _ _=>rfl,fun _ _ h=>h,Nat.le_refl _,Nat.le_refl _,by omega,by omega⟩
  obtain ⟨e,L1,s1,rfl,rfl,O1,hD,q0,q1,hJ1,hl1⟩:=loop_of hl (fun i L' t'=>∃ O1,L'.find 0=.yield l∧L'.find 1=.ptr p 0∧L'.find 9=v1∧L'.find 10=.int .i64 b.ms.length∧L'.find 11=.int .i64 i∧Hand u t' w ((k0+1) * i) O0 O1∧J i O1 t'.h t'.n∧(0<i→t'.m≤l))
   (fun e L1 t'=>e=.exit 0∧∃ O1,Hand u t' w ((k0+1) * b.ms.length) O0 O1∧L1.find 0=.yield l∧L1.find 1=.ptr p 0∧J b.ms.length O1 t'.h t'.n∧t'.m≤l) b.ms.length (by unfold rounds;omega)
   ⟨O0,by simp only [efs,find_cons,reduceIte,Nat.reduceEqDiff],by simp only [efs,find_cons,reduceIte,Nat.reduceEqDiff],by simp only [efs,find_cons,reduceIte,Nat.reduceEqDiff],by simp only [efs,find_cons,reduceIte,Nat.reduceEqDiff],by simp only [efs,find_cons,reduceIte,Nat.reduceEqDiff];rfl,h0,hJ',fun h=>absurd h (Nat.lt_irrefl _)⟩
   (fun i L' t' hi ⟨O1,q0,q1,q9,q10,q11,hD,hJi,hl0⟩=>by
    have hki:=hkm i (by omega)
    by_cases hlt:i<b.ms.length
    ·obtain ⟨L2,t2,O2,p1,p2,p3,z0,z1,z9,z10,z11,zJ⟩:=mass_round n (by omega) ⟨78,none,Try.f78.ntmps,X 78⟩ hY ok nb hB hnb (by omega) (by omega) hlt q0 q1 q9 q10 q11 hD hJi
     exact .inl ⟨hlt,L2,t2,p1,O2,z0,z1,z9,z10,z11,by rw [Nat.mul_succ];exact p2,zJ,fun _=>p3⟩
    ·obtain rfl:i=b.ms.length:=by omega
     have e1:decide ((b.ms.length:Int)<(b.ms.length:Int))=false:=by simp
     refine .inr ⟨.exit 0,L'.set 12 (.bool false),t',by simp,?_,rfl,O1,hD,?_,?_,hJi,hl0 (by omega)⟩
     ·simp (disch:=first|omega|(with_unfolding_all exact rfl)|(simp only[new_n,put_n,new_m];omega)|(refine put_m_le ?_;simp only[new_m];omega)) only [res78,K78r0,K78r1,K78r2,K78r3,K78r4,K78r5,K78r6,K78r7,K78r8,K78r9,K78r10,K78r11,K78r12,K78r13,K78r14,K78,K78l0,Abs.W,reduceIte,Nat.reduceEqDiff,Nat.reduceAdd,decide_true,decide_false,kLoop_def,Nat.reduceSub,List.cons_append,List.nil_append,List.append_nil,List.length_cons,List.length_nil,efs,q10,q11,e1]
     ·simp only [efs,q0,reduceIte,Nat.reduceEqDiff]
     ·simp only [efs,q1,reduceIte,Nat.reduceEqDiff])
  have gp1:=(hD.same p hp.1 hp.2).trans gp'
  simp (disch:=first|omega|(with_unfolding_all exact rfl)|(simp only[new_n,put_n,new_m];omega)|(refine put_m_le ?_;simp only[new_m];omega)) only [res78,K78r0,K78r1,K78r2,K78r3,K78r4,K78r5,K78r6,K78r7,K78r8,K78r9,K78r10,K78r11,K78r12,K78r13,K78r14,K78,Abs.W,reduceIte,Nat.reduceEqDiff,Nat.reduceAdd,decide_true,decide_false,kLoop_def,Nat.reduceSub,List.cons_append,List.nil_append,List.append_nil,List.length_cons,List.length_nil,efs,q0,q1,gp1,k3,l3]
  generalize hl2:loopN _ rounds _ _ _ _ _=r2
  have hgM:givMany b=b.ms.length+b.ss.length * (b.days+1):=rfl
  obtain ⟨e,L2,s2,rfl,rfl,O2,hD2,hJ2,hl2'⟩:=loop_of hl2 (fun i L' t'=>∃ O1,L'.find 0=.yield l∧L'.find 1=.ptr p 0∧L'.find 27=v3∧L'.find 28=.int .i64 b.ss.length∧L'.find 29=.int .i64 i∧Hand u t' w ((k0+1) * (b.ms.length+i * (b.days+1))) O0 O1∧J (b.ms.length+i * (b.days+1)) O1 t'.h t'.n∧t'.m≤l)
   (fun e L' t'=>e=.exit 2∧∃ O1,Hand u t' w ((k0+1) * givMany b) O0 O1∧J (givMany b) O1 t'.h t'.n∧t'.m≤l) b.ss.length (by unfold rounds;omega)
   ⟨O1,by simp only [efs,q0,reduceIte,Nat.reduceEqDiff],by simp only [efs,q1,reduceIte,Nat.reduceEqDiff],by simp only [efs,reduceIte,Nat.reduceEqDiff],by simp only [efs,reduceIte,Nat.reduceEqDiff],by simp only [efs,reduceIte,Nat.reduceEqDiff];rfl,by rw [Nat.zero_mul];exact hD,by rw [Nat.zero_mul];exact hJ1,hl1⟩
   (fun i L' t' hi ⟨O1,q0,q1,q27,q28,q29,hD,hJi,hl0⟩=>by
    have hki:=hkm (b.ms.length+i * (b.days+1)) (by have:=hsd i hi;omega)
    by_cases hlt:i<b.ss.length
    ·obtain ⟨L2,t2,O2,p1,p2,p3,z0,z1,z9,z10,z11,zJ⟩:=scale_round n (by omega) ⟨78,none,Try.f78.ntmps,X 78⟩ hY ok nb hB hnb gp hp (by omega) (by omega) hlt q0 q1 q27 q28 q29 hD hJi
     exact .inl ⟨hlt,L2,t2,p1,O2,z0,z1,z9,z10,z11,by rw [show (k0+1) * (b.ms.length+(i+1) * (b.days+1))=(k0+1) * (b.ms.length+i * (b.days+1))+(k0+1) * (b.days+1) from by rw [Nat.succ_mul i (b.days+1),← Nat.add_assoc,Nat.mul_add (k0+1) (b.ms.length+i * (b.days+1))]];exact p2,zJ,p3⟩
    ·obtain rfl:i=b.ss.length:=by omega
     have e1:decide ((b.ss.length:Int)<(b.ss.length:Int))=false:=by simp
     refine .inr ⟨.exit 2,L'.set 30 (.bool false),t',by simp,?_,rfl,O1,hD,hJi,hl0⟩
     simp (disch:=first|omega|(with_unfolding_all exact rfl)|(simp only[new_n,put_n,new_m];omega)|(refine put_m_le ?_;simp only[new_m];omega)) only [res78,K78r0,K78r1,K78r2,K78r3,K78r4,K78r5,K78r6,K78r7,K78r8,K78r9,K78r10,K78r11,K78r12,K78r13,K78r14,K78,K78l2,Abs.W,reduceIte,Nat.reduceEqDiff,Nat.reduceAdd,decide_true,decide_false,kLoop_def,Nat.reduceSub,List.cons_append,List.nil_append,List.append_nil,List.length_cons,List.length_nil,efs,q28,q29,e1])
  simp (disch:=first|omega|(with_unfolding_all exact rfl)|(simp only[new_n,put_n,new_m];omega)|(refine put_m_le ?_;simp only[new_m];omega)) only [res78,K78r0,K78r1,K78r2,K78r3,K78r4,K78r5,K78r6,K78r7,K78r8,K78r9,K78r10,K78r11,K78r12,K78r13,K78r14,K78,Abs.W,reduceIte,Nat.reduceEqDiff,Nat.reduceAdd,decide_true,decide_false,kLoop_def,Nat.reduceSub,List.cons_append,List.nil_append,List.append_nil,List.length_cons,List.length_nil,efs,leave_nil]
  obtain ⟨d1,d2,d3,d4,d5,d6⟩:=hD2
  refine ⟨_,_,rfl,⟨rfl,O2,hJ2,fun x hx ho=>by rw [d1 x (by omega) ho,uh],fun x hx h=>d2 x (by omega) h,by omega,by omega,d5,d6⟩,fun _ hle=>by omega⟩)
 refine ⟨t,O1,hr.symm.trans e,a1,a2,a3,a4,a5,?_,?_⟩
 ·rcases hm' with ⟨_,hm'⟩ | ⟨_,hm'⟩<;>omega
 ·rcases hm' with ⟨_,hm'⟩ | ⟨_,hm'⟩<;>omega
end Go.Proofs.Ytoolodjbfphkjaa.walk
