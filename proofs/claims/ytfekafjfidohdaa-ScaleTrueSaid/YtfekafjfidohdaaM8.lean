/- The law ScaleTrue: its rounds. -/
import Derived.Test.YtfekafjfidohdaaM7
import Derived.Test.YtfekafjfidohdaaCodes
import Derived.Test.YtfekafjfidohdaaProg
import Derived.Tactics
import Derived.Tactics2
import Derived.WalkKit
import Derived.OpenShut
import Derived.Below
import Derived.Lib.Hide
import Derived.KernelRfl
import Derived.Deep.RegionHeld3
import Derived.OwnWalk
import Derived.StillTailTactics
import Derived.Test.YtfekafjfidohdaaAbsTop
import Derived.Test.YtfekafjfidohdaaAbsWalk
import Derived.Test.YtfekafjfidohdaaM1
import Derived.Test.YtfekafjfidohdaaAwake
import Derived.Test.YtfekafjfidohdaaWalkAll
set_option linter.unusedSimpArgs false
set_option maxHeartbeats 16000000
set_option linter.unusedVariables false
set_option maxRecDepth 10000
namespace Go.Abs
theorem scal_len {s:St} {v w:AV} (h:lenSlA s v=.val w s):v.scalar=true:=by cases v<;>first | rfl | cases h
end Go.Abs
namespace Go.Proofs.Ytfekafjfidohdaa.walk
open Go.Abs Go.Proofs.Ytfekafjfidohdaa.code
noncomputable abbrev awk (n:Nat):CallF:=knows 13 (call Try.prog X n)
theorem sct_round0 (N:Nat) (hN:2≤N) (cx:Ctx) {b:Bench} {offs:List Int} {errs:List (List Int)} {T:List (List Gap)} {v1 v2 v3 v4 v5 v6 vo:AV} {B F:Nat} {t:St} {L:Env} {i:Nat} (ok:b.Ok) (hF:FactOf b offs errs) (hB:BenchAt t.h t.n b v1 v2 v3 v4) (hA:FactAt t.h t.n offs errs v5 v6) (hO:RowsAt t.h t.n 2 (gapRow (offsOf b T)) vo) (hi:i<b.ms.length) (hs:t.n+1000≤far)
  (g4:t.h.get B=some (.cells [v1,v2,v3,v4,.int .i64 b.days] (tag 30))) (g5:t.h.get F=some (.cells [v5,v6] (tag 33)))
  (fit:((ent T (1+i) 0).1≤offs.getD i 0∧offs.getD i 0≤(ent T (1+i) 0).2)∧b.ms[i].lo≤(ent T (1+i) 0).1∧(ent T (1+i) 0).2≤b.ms[i].hi)
  (q4:L.find 4=.ptr B 0) (q5:L.find 5=.ptr F 0) (q11:L.find 11=vo) (q19:L.find 19=.int .i64 i) :
  ∃ L1,K3l0 (awk N) cx L [] t=.done .norm L1 [] t∧(∀ c,c<19→c≠2→L1.find c=L.find c)∧L1.find 19=.int .i64 (i+1:Nat):=by
 have hf:far=1000000000:=rfl
 have c1:=ok.m1
 have e0:decide ((i:Int)<(b.ms.length:Int))=true:=decide_eq_true (by omega)
 have hol:=hF.ol
 have lo:(offsOf b T).length=b.ms.length:=by unfold offsOf;rw [List.length_map,List.length_range]
 obtain ⟨x0,o0,cs,sz,r1,r2,r3,r4⟩:=hO.at_ i (by rw [gapRow_len,lo];exact hi)
 rw [gapRow_at _ _ _ (by rw [lo];exact hi),show (offsOf b T)[i]'(by rw [lo];exact hi)=ent T (1+i) 0 by simp [offsOf]] at r4
 obtain ⟨xm,pm,cm,zm,j1,j2,j3,j4⟩:=hB.m.at_ i (by rw [List.length_map];exact hi)
 rw [List.getElem_map] at j4
 have j5:cut (pm+1) 2 cm=some [.int .i64 b.ms[i].lo,.int .i64 b.ms[i].hi]:=cut_cut j4 (rfl:cut 1 2 (Mass.cells b.ms[i])=_)
 obtain ⟨xa,pa,ca,za,y1,y2,y3,y4⟩:=hA.off (i:=i) (by omega)
 have lv:=hO.len
 rw [gapRow_len,lo] at lv
 have k1:∀ t,okA (.val v1 t)=.val v1 t:=fun t=>okA_ne hB.m.ne
 have k5:∀ t,okA (.val v5 t)=.val v5 t:=fun t=>okA_ne hA.o.ne
 have ko:∀ t,okA (.val vo t)=.val vo t:=fun t=>okA_ne hO.ne
 have ad:∀ s,aAdd s .i64 (i:Int) 1=.val (.int .i64 ((i:Int)+1)) s:=fun s=>aAdd_i64 s _ _ (by omega)
 have knH:∀ args s,awk N (.fn 14) args s=call Try.prog X N (.fn 14) args s:=fun _ _=>rfl
 have knW:∀ args s,awk N (.fn 15) args s=call Try.prog X N (.fn 15) args s:=fun _ _=>rfl
 have d1:decide ((ent T (1+i) 0).1≤offs.getD i 0∧offs.getD i 0≤(ent T (1+i) 0).2)=true:=decide_eq_true fit.1
 have d2:decide (b.ms[i].lo≤(ent T (1+i) 0).1∧(ent T (1+i) 0).2≤b.ms[i].hi)=true:=decide_eq_true fit.2
 simp (disch:=first|omega|(with_unfolding_all exact rfl)|(simp only[new_n,put_n,new_m];omega)|(refine put_m_le ?_;simp only[new_m];omega)) only [res3,K3r0,K3r1,K3r2,K3r3,K3r4,K3r5,K3r6,K3r7,K3r8,K3r9s23,K3r9s20,K3r9s19,K3r9s18,K3r9s15,K3r9s14,K3r9s13,K3r9s10,K3r9s9,K3r9s8,K3r9s5,K3r9s4,K3r9,K3r10s29,K3r10s28,K3r10s27,K3r10s26,K3r10s25,K3r10s24,K3r10s21,K3r10s20,K3r10s19,K3r10s18,K3r10s17,K3r10s16,K3r10s13,K3r10s12,K3r10s9,K3r10s8,K3r10s5,K3r10s4,K3r10,K3r11,K3r12,K3r13,K3r14s24,K3r14s23,K3r14s22,K3r14s21,K3r14s20,K3r14s19,K3r14s18,K3r14s17,K3r14s16,K3r14s15,K3r14s14,K3r14s13,K3r14,K3r15,K3r16,K3l0,K3r17,K3r18,K3r19,K3r20,K3r21,K3l1,K3r22,K3r23s8,K3r23s7,K3r23s6,K3r23,K3r24s22,K3r24s19,K3r24s18,K3r24s17,K3r24s16,K3r24s15,K3r24s14,K3r24s11,K3r24s10,K3r24s9,K3r24s8,K3r24s7,K3r24,K3,Abs.W,reduceIte,Nat.reduceEqDiff,Nat.reduceAdd,decide_true,decide_false,kLoop_def,Nat.reduceSub,List.cons_append,List.nil_append,List.append_nil,List.length_cons,List.length_nil,Env.find_set,Nat.zero_add,Nat.add_zero,q4,q5,q11,q19,g4,g5,k1,k5,ko,lv,e0,r2,r3,r4,y2,y3,y4,j2,j3,j5,knH,knW,holds_ok,inside_ok,d1,d2,ad]
 refine ⟨_,rfl,fun c h h2=>?_,by simp only [Env.find_set,reduceIte,Nat.reduceEqDiff];rfl⟩
 simp only [Env.find_set]
 rw [if_neg (by omega),if_neg (by omega),if_neg (by omega)]
theorem errsOf_len (b:Bench) (T:List (List Gap)) (k:Nat):(errsOf b T k).length=b.days+1:=by unfold errsOf;rw [List.length_map,List.length_range]
theorem sct_round1 (N:Nat) (hN:2≤N) (cx:Ctx) {b:Bench} {offs:List Int} {errs:List (List Int)} {T:List (List Gap)} {v5 v6 ve:AV} {F k:Nat} {t:St} {L:Env} {i:Nat} (ok:b.Ok) (hF:FactOf b offs errs) (hA:FactAt t.h t.n offs errs v5 v6) (hO:RowsAt t.h t.n 2 (gapRow (errsOf b T k)) ve) (hk:k<b.ss.length) (hi:i<b.days+1) (hs:t.n+1000≤far)
  (g5:t.h.get F=some (.cells [v5,v6] (tag 33)))
  (fit:(ent T 0 (errAt b k i)).1≤errIn errs k i∧errIn errs k i≤(ent T 0 (errAt b k i)).2)
  (q5:L.find 5=.ptr F 0) (q7:L.find 7=.int .i64 k) (q13:L.find 13=ve) (q20:L.find 20=.int .i64 i) :
  ∃ L1,K3l1 (awk N) cx L [] t=.done .norm L1 [] t∧(∀ c,c<19→c≠2→L1.find c=L.find c)∧L1.find 20=.int .i64 (i+1:Nat):=by
 have hf:far=1000000000:=rfl
 have c1:=ok.d1
 have e0:decide ((i:Int)<((b.days+1:Nat):Int))=true:=decide_eq_true (by omega)
 have hel:=hF.el
 have hro:=hF.err k hk
 have lo:=errsOf_len b T k
 obtain ⟨x0,o0,cs,sz,r1,r2,r3,r4⟩:=hO.at_ i (by rw [gapRow_len,lo];exact hi)
 rw [gapRow_at _ _ _ (by rw [lo];exact hi),show (errsOf b T k)[i]'(by rw [lo];exact hi)=ent T 0 (errAt b k i) by simp [errsOf]] at r4
 obtain ⟨xe,pe,ce,ze,vr,xf,pf,cf,zf,e1,e2,e3,e4,e5,f1,f2,f3,f4⟩:=hA.err (k:=k) (d:=i) (by omega) (by rw [hro.len];exact hi)
 have lv:=hO.len
 rw [gapRow_len,lo] at lv
 have k6:=hA.ok
 have ko:∀ t,okA (.val ve t)=.val ve t:=fun t=>okA_ne hO.ne
 have ad:∀ s,aAdd s .i64 (i:Int) 1=.val (.int .i64 ((i:Int)+1)) s:=fun s=>aAdd_i64 s _ _ (by omega)
 have knH:∀ args s,awk N (.fn 14) args s=call Try.prog X N (.fn 14) args s:=fun _ _=>rfl
 have d1:decide ((ent T 0 (errAt b k i)).1≤errIn errs k i∧errIn errs k i≤(ent T 0 (errAt b k i)).2)=true:=decide_eq_true fit
 simp (disch:=first|omega|(with_unfolding_all exact rfl)|(simp only[new_n,put_n,new_m];omega)|(refine put_m_le ?_;simp only[new_m];omega)) only [res3,K3r0,K3r1,K3r2,K3r3,K3r4,K3r5,K3r6,K3r7,K3r8,K3r9s23,K3r9s20,K3r9s19,K3r9s18,K3r9s15,K3r9s14,K3r9s13,K3r9s10,K3r9s9,K3r9s8,K3r9s5,K3r9s4,K3r9,K3r10s29,K3r10s28,K3r10s27,K3r10s26,K3r10s25,K3r10s24,K3r10s21,K3r10s20,K3r10s19,K3r10s18,K3r10s17,K3r10s16,K3r10s13,K3r10s12,K3r10s9,K3r10s8,K3r10s5,K3r10s4,K3r10,K3r11,K3r12,K3r13,K3r14s24,K3r14s23,K3r14s22,K3r14s21,K3r14s20,K3r14s19,K3r14s18,K3r14s17,K3r14s16,K3r14s15,K3r14s14,K3r14s13,K3r14,K3r15,K3r16,K3l0,K3r17,K3r18,K3r19,K3r20,K3r21,K3l1,K3r22,K3r23s8,K3r23s7,K3r23s6,K3r23,K3r24s22,K3r24s19,K3r24s18,K3r24s17,K3r24s16,K3r24s15,K3r24s14,K3r24s11,K3r24s10,K3r24s9,K3r24s8,K3r24s7,K3r24,K3,Abs.W,reduceIte,Nat.reduceEqDiff,Nat.reduceAdd,decide_true,decide_false,kLoop_def,Nat.reduceSub,List.cons_append,List.nil_append,List.append_nil,List.length_cons,List.length_nil,Env.find_set,Nat.zero_add,Nat.add_zero,q5,q7,q13,q20,g5,k6,ko,lv,e0,r2,r3,r4,e2,e3,e4,e5,f2,f3,f4,knH,holds_ok,d1,ad]
 refine ⟨_,rfl,fun c h h2=>?_,by simp only [Env.find_set,reduceIte,Nat.reduceEqDiff];rfl⟩
 simp only [Env.find_set]
 rw [if_neg (by omega),if_neg (by omega),if_neg (by omega)]
theorem sct_loop0 (N:Nat) (hN:2≤N) (cx:Ctx) {b:Bench} {offs:List Int} {errs:List (List Int)} {T:List (List Gap)} {v1 v2 v3 v4 v5 v6 vo:AV} {B F:Nat} {t:St} {L:Env} {r:R} (hr:loopN K3l0 rounds (awk N) cx L [] t=r) (ok:b.Ok) (hF:FactOf b offs errs) (hB:BenchAt t.h t.n b v1 v2 v3 v4) (hA:FactAt t.h t.n offs errs v5 v6) (hO:RowsAt t.h t.n 2 (gapRow (offsOf b T)) vo) (hs:t.n+1000≤far)
  (g4:t.h.get B=some (.cells [v1,v2,v3,v4,.int .i64 b.days] (tag 30))) (g5:t.h.get F=some (.cells [v5,v6] (tag 33)))
  (fit:∀ i (h:i<b.ms.length),((ent T (1+i) 0).1≤offs.getD i 0∧offs.getD i 0≤(ent T (1+i) 0).2)∧b.ms[i].lo≤(ent T (1+i) 0).1∧(ent T (1+i) 0).2≤b.ms[i].hi)
  (q4:L.find 4=.ptr B 0) (q5:L.find 5=.ptr F 0) (q11:L.find 11=vo) (q19:L.find 19=.int .i64 (0:Nat)) :
  ∃ L1,r=.done (.exit 0) L1 [] t∧∀ c,c<19→c≠2→L1.find c=L.find c:=by
 have c1:=ok.m1
 have lo:(offsOf b T).length=b.ms.length:=by unfold offsOf;rw [List.length_map,List.length_range]
 have lv:=hO.len
 rw [gapRow_len,lo] at lv
 have ko:∀ t,okA (.val vo t)=.val vo t:=fun t=>okA_ne hO.ne
 obtain ⟨e,L1,s1,rfl,rfl,rfl,hq⟩:=loop_of hr (fun i L' t'=>t'=t∧(∀ c,c<19→c≠2→L'.find c=L.find c)∧L'.find 19=.int .i64 i) (fun e L' t'=>e=.exit 0∧t'=t∧∀ c,c<19→c≠2→L'.find c=L.find c) b.ms.length (by unfold rounds;omega) ⟨rfl,fun _ _ _=>rfl,q19⟩
  (fun i L' t' hi ⟨ht,g,g19⟩=>by
   subst ht
   by_cases hlt:i<b.ms.length
   ·obtain ⟨L2,p1,p2,p3⟩:=sct_round0 N hN cx ok hF hB hA hO hlt hs g4 g5 (fit i hlt) ((g 4 (by omega) (by omega)).trans q4) ((g 5 (by omega) (by omega)).trans q5) ((g 11 (by omega) (by omega)).trans q11) g19
    exact .inl ⟨hlt,L2,_,p1,rfl,fun c h h2=>(p2 c h h2).trans (g c h h2),p3⟩
   ·obtain rfl:i=b.ms.length:=by omega
    have e1:decide ((b.ms.length:Int)<(b.ms.length:Int))=false:=by simp
    have z11:=(g 11 (by omega) (by omega)).trans q11
    refine .inr ⟨.exit 0,L'.set 131 (.bool false),_,by simp,?_,rfl,rfl,fun c h h2=>?_⟩
    ·simp (disch:=first|omega|(with_unfolding_all exact rfl)|(simp only[new_n,put_n,new_m];omega)|(refine put_m_le ?_;simp only[new_m];omega)) only [res3,K3r0,K3r1,K3r2,K3r3,K3r4,K3r5,K3r6,K3r7,K3r8,K3r9s23,K3r9s20,K3r9s19,K3r9s18,K3r9s15,K3r9s14,K3r9s13,K3r9s10,K3r9s9,K3r9s8,K3r9s5,K3r9s4,K3r9,K3r10s29,K3r10s28,K3r10s27,K3r10s26,K3r10s25,K3r10s24,K3r10s21,K3r10s20,K3r10s19,K3r10s18,K3r10s17,K3r10s16,K3r10s13,K3r10s12,K3r10s9,K3r10s8,K3r10s5,K3r10s4,K3r10,K3r11,K3r12,K3r13,K3r14s24,K3r14s23,K3r14s22,K3r14s21,K3r14s20,K3r14s19,K3r14s18,K3r14s17,K3r14s16,K3r14s15,K3r14s14,K3r14s13,K3r14,K3r15,K3r16,K3r17,K3r18,K3r19,K3r20,K3r21,K3r22,K3r23s8,K3r23s7,K3r23s6,K3r23,K3r24s22,K3r24s19,K3r24s18,K3r24s17,K3r24s16,K3r24s15,K3r24s14,K3r24s11,K3r24s10,K3r24s9,K3r24s8,K3r24s7,K3r24,K3,K3l0,Abs.W,reduceIte,Nat.reduceEqDiff,Nat.reduceAdd,decide_true,decide_false,kLoop_def,Nat.reduceSub,List.cons_append,List.nil_append,List.append_nil,List.length_cons,List.length_nil,Env.find_set,z11,g19,ko,lv,e1,Nat.zero_add]
    ·simp only [Env.find_set]
     rw [if_neg (by omega)]
     exact g c h h2)
 exact ⟨L1,rfl,hq⟩
theorem sct_loop1 (N:Nat) (hN:2≤N) (cx:Ctx) {b:Bench} {offs:List Int} {errs:List (List Int)} {T:List (List Gap)} {v5 v6 ve:AV} {F k:Nat} {t:St} {L:Env} {r:R} (hr:loopN K3l1 rounds (awk N) cx L [] t=r) (ok:b.Ok) (hF:FactOf b offs errs) (hA:FactAt t.h t.n offs errs v5 v6) (hO:RowsAt t.h t.n 2 (gapRow (errsOf b T k)) ve) (hk:k<b.ss.length) (hs:t.n+1000≤far)
  (g5:t.h.get F=some (.cells [v5,v6] (tag 33)))
  (fit:∀ i,i≤b.days→(ent T 0 (errAt b k i)).1≤errIn errs k i∧errIn errs k i≤(ent T 0 (errAt b k i)).2)
  (q5:L.find 5=.ptr F 0) (q7:L.find 7=.int .i64 k) (q13:L.find 13=ve) (q20:L.find 20=.int .i64 (0:Nat)) :
  ∃ L1,r=.done (.exit 2) L1 [] t∧∀ c,c<19→c≠2→L1.find c=L.find c:=by
 have c1:=ok.d1
 have lv:=hO.len
 rw [gapRow_len,errsOf_len] at lv
 have ko:∀ t,okA (.val ve t)=.val ve t:=fun t=>okA_ne hO.ne
 obtain ⟨e,L1,s1,rfl,rfl,rfl,hq⟩:=loop_of hr (fun i L' t'=>t'=t∧(∀ c,c<19→c≠2→L'.find c=L.find c)∧L'.find 20=.int .i64 i) (fun e L' t'=>e=.exit 2∧t'=t∧∀ c,c<19→c≠2→L'.find c=L.find c) (b.days+1) (by unfold rounds;omega) ⟨rfl,fun _ _ _=>rfl,q20⟩
  (fun i L' t' hi ⟨ht,g,g20⟩=>by
   subst ht
   by_cases hlt:i<b.days+1
   ·obtain ⟨L2,p1,p2,p3⟩:=sct_round1 N hN cx ok hF hA hO hk hlt hs g5 (fit i (by omega)) ((g 5 (by omega) (by omega)).trans q5) ((g 7 (by omega) (by omega)).trans q7) ((g 13 (by omega) (by omega)).trans q13) g20
    exact .inl ⟨hlt,L2,_,p1,rfl,fun c h h2=>(p2 c h h2).trans (g c h h2),p3⟩
   ·obtain rfl:i=b.days+1:=by omega
    have e1:decide (((b.days+1:Nat):Int)<((b.days+1:Nat):Int))=false:=by simp
    have z13:=(g 13 (by omega) (by omega)).trans q13
    refine .inr ⟨.exit 2,L'.set 162 (.bool false),_,by simp,?_,rfl,rfl,fun c h h2=>?_⟩
    ·simp (disch:=first|omega|(with_unfolding_all exact rfl)|(simp only[new_n,put_n,new_m];omega)|(refine put_m_le ?_;simp only[new_m];omega)) only [res3,K3r0,K3r1,K3r2,K3r3,K3r4,K3r5,K3r6,K3r7,K3r8,K3r9s23,K3r9s20,K3r9s19,K3r9s18,K3r9s15,K3r9s14,K3r9s13,K3r9s10,K3r9s9,K3r9s8,K3r9s5,K3r9s4,K3r9,K3r10s29,K3r10s28,K3r10s27,K3r10s26,K3r10s25,K3r10s24,K3r10s21,K3r10s20,K3r10s19,K3r10s18,K3r10s17,K3r10s16,K3r10s13,K3r10s12,K3r10s9,K3r10s8,K3r10s5,K3r10s4,K3r10,K3r11,K3r12,K3r13,K3r14s24,K3r14s23,K3r14s22,K3r14s21,K3r14s20,K3r14s19,K3r14s18,K3r14s17,K3r14s16,K3r14s15,K3r14s14,K3r14s13,K3r14,K3r15,K3r16,K3r17,K3r18,K3r19,K3r20,K3r21,K3r22,K3r23s8,K3r23s7,K3r23s6,K3r23,K3r24s22,K3r24s19,K3r24s18,K3r24s17,K3r24s16,K3r24s15,K3r24s14,K3r24s11,K3r24s10,K3r24s9,K3r24s8,K3r24s7,K3r24,K3,K3l1,Abs.W,reduceIte,Nat.reduceEqDiff,Nat.reduceAdd,decide_true,decide_false,kLoop_def,Nat.reduceSub,List.cons_append,List.nil_append,List.append_nil,List.length_cons,List.length_nil,Env.find_set,z13,g20,ko,lv,e1,Nat.zero_add]
    ·simp only [Env.find_set]
     rw [if_neg (by omega)]
     exact g c h h2)
 exact ⟨L1,rfl,hq⟩
end Go.Proofs.Ytfekafjfidohdaa.walk
set_option maxRecDepth 10000
namespace Go.Proofs.Ytfekafjfidohdaa.walk
open Go.Abs Go.Proofs.Ytfekafjfidohdaa.code
noncomputable def sctEnd:K:=kSeq (kRegion K3r22 [21]) (kSeq (kRegion K3r23 [22]) (kSeq (kRegion K3r24 [2]) kRet))
noncomputable def sctLoops:K:=kSeq (kSeq (kRegion K3r12 [19]) (kBlock 0 (kLoop K3l0))) (kSeq (kSeq (kRegion K3r17 [20]) (kBlock 2 (kLoop K3l1))) sctEnd)
noncomputable def sctRest:K:=kSeq (kRegion K3r2 [4,5,6]) (kSeq (kRegionD K3r3 [7,8,9,10]) (kSeq (kRegion K3r4 [11,12]) (kSeq (kRegion K3r5 [13,14]) (kSeq (kRegion K3r6 [15,16]) (kSeq (kRegion K3r7 [17,18]) (kSeq (kSeq (kRegion K3r8 [73]) (kCond (.tmp 73) (kSeq (kRegion K3r9 [2]) kRet) kSkip)) (kSeq (kSeq (kRegion K3r10 [127]) (kCond (.tmp 127) (kSeq (kRegion K3r11 [2]) kRet) kSkip)) sctLoops)))))))
theorem sct_body (n:Nat) (hn:13≤n) (cx:Ctx) (s:St) (d:Nat) (hd:Die d s.h) (hdn:d<s.n) (hs:s.n+9000000≤far) (hm:s.m=far) :
  ∃ s',finA Try.prog Try.f3 (sctRest (knows 13 (call Try.prog X n)) cx (.cons 3 (.ptr d 0) .nil) [] s)=.val (.bool true) s':=by
 have hf:far=1000000000:=rfl
 have knB:∀ args s,knows 13 (call Try.prog X n) (.fn 7) args s=call Try.prog X n (.fn 7) args s:=fun _ _=>rfl
 have knC:∀ args s,knows 13 (call Try.prog X n) (.fn 8) args s=call Try.prog X n (.fn 8) args s:=fun _ _=>rfl
 have knO:∀ args s,knows 13 (call Try.prog X n) (.fn 9) args s=call Try.prog X n (.fn 9) args s:=fun _ _=>rfl
 have knE:∀ args s,knows 13 (call Try.prog X n) (.fn 10) args s=call Try.prog X n (.fn 10) args s:=fun _ _=>rfl
 have knW:∀ args s,knows 13 (call Try.prog X n) (.fn 11) args s=call Try.prog X n (.fn 11) args s:=fun _ _=>rfl
 have knK:∀ args s,knows 13 (call Try.prog X n) (.fn 12) args s=call Try.prog X n (.fn 12) args s:=fun _ _=>rfl
 have knH:∀ args s,knows 13 (call Try.prog X n) (.fn 14) args s=call Try.prog X n (.fn 14) args s:=fun _ _=>rfl
 have knA:∀ s,knows 13 (call Try.prog X n) (.fn 13) [] s=.val (.bool true) s:=fun _=>rfl
 have ex0:∀ (a b:AV) (s:St),extA 0 s (.tup [a,b])=.val a s:=fun _ _ _=>rfl
 have ex1:∀ (a b:AV) (s:St),extA 1 s (.tup [a,b])=.val b s:=fun _ _ _=>rfl
 have ex30:∀ (a b c:AV) (s:St),extA 0 s (.tup [a,b,c])=.val a s:=fun _ _ _ _=>rfl
 have ex31:∀ (a b c:AV) (s:St),extA 1 s (.tup [a,b,c])=.val b s:=fun _ _ _ _=>rfl
 have ex32:∀ (a b c:AV) (s:St),extA 2 s (.tup [a,b,c])=.val c s:=fun _ _ _ _=>rfl
 unfold sctRest
 simp (disch:=first|omega|(with_unfolding_all exact rfl)|(simp only[new_n,put_n,new_m];omega)|(refine put_m_le ?_;simp only[new_m];omega)) only [K3r2,Abs.W,reduceIte,Nat.reduceEqDiff,Nat.reduceAdd,decide_true,decide_false,kLoop_def,Nat.reduceSub,List.cons_append,List.nil_append,List.append_nil,List.length_cons,List.length_nil,Env.find_set,knB]
 generalize hc1:call _ _ _ (.fn 7) _ _=r1
 obtain ⟨b,offs,errs,v1,v2,v3,v4,v5,v6,q,t1,rfl,st1,d1,ok,hF,hq,hBF⟩:=BenchOf_ex (M:=4) (S:=2) (R:=4) (D:=6) hc1 (by omega) hd hdn (by omega) (by omega) (by omega) (by omega) (by omega)
 have n1:s.n≤t1.n:=st1.n
 have k1:t1.n≤s.n+2000:=st1.le
 obtain ⟨hB1,hA1⟩:=hBF t1.h fun _ _ _=>rfl
 have scB:scalars [v1,v2,v3,v4,.int .i64 (b.days:Int)]=true:=by rw [scals_cons (by have:=scal_len (hB1.m.len s);simp [scalars,this]),scals_cons (by have:=scal_len (hB1.w.len s);simp [scalars,this]),scals_cons (by have:=scal_len (hB1.s.len s);simp [scalars,this]),scals_cons (by have:=scal_len (hB1.t.len s);simp [scalars,this])];rfl
 have scF:scalars [v5,v6]=true:=by rw [scals_cons (by have:=scal_len (hA1.o.len s);simp [scalars,this])];have:=scal_len (hA1.len s);simp [scalars,this]
 simp (disch:=first|omega|(with_unfolding_all exact rfl)|(simp only[new_n,put_n,new_m];omega)|(refine put_m_le ?_;simp only[new_m];omega)) only [Abs.W,reduceIte,Nat.reduceEqDiff,Nat.reduceAdd,decide_true,decide_false,kLoop_def,Nat.reduceSub,List.cons_append,List.nil_append,List.append_nil,List.length_cons,List.length_nil,Env.find_set,ex30,ex31,ex32,scB,scF]
 simp only [new_n]
 generalize hy':St.put (St.put _ _ _) _ _=y
 have yn:y.n=t1.n+2:=by rw [← hy'];rfl
 have yg:∀ c,c<t1.n→y.h.get c=t1.h.get c:=fun c hc=>by rw [← hy',get_put_ne' _ _ _ _ (by omega),get_put_ne' _ _ _ _ (by omega),get_new_ne _ _ _ (by simp only [new_n];omega),get_new_ne _ _ _ (by omega)]
 have y4:y.h.get t1.n=some (.cells [v1,v2,v3,v4,.int .i64 b.days] (tag 30)):=by rw [← hy',get_put_ne' _ _ _ _ (by omega)];exact get_put_eq _ _ _ _ rfl (by omega)
 have y5:y.h.get (t1.n+1)=some (.cells [v5,v6] (tag 33)):=by rw [← hy'];exact get_put_eq _ _ _ _ rfl (by omega)
 have dy:Die d y.h:=d1.keep (yg d (by omega))
 clear hy'
 have hd1:=ok.d1
 have hs0:=ok.s0
 have hs1:=ok.s1
 have k3:∀ t,okA (.val v3 t)=.val v3 t:=fun t=>okA_ne hB1.s.ne
 have l3:=hB1.s.len
 rw [List.length_map] at l3
 have ad:∀ s,aAdd s .i64 (b.days:Int) 1=.val (.int .i64 ((b.days:Int)+1)) s:=fun s=>aAdd_i64 s _ _ (by omega)
 simp (disch:=first|omega|(with_unfolding_all exact rfl)|(simp only[new_n,put_n,new_m];omega)|(refine put_m_le ?_;simp only[new_m];omega)) only [K3r3,Abs.W,reduceIte,Nat.reduceEqDiff,Nat.reduceAdd,decide_true,decide_false,kLoop_def,Nat.reduceSub,List.cons_append,List.nil_append,List.append_nil,List.length_cons,List.length_nil,Env.find_set,y4,k3,l3,knC,Nat.zero_add]
 generalize hc2:call _ _ _ (.fn 8) _ _=r2
 obtain ⟨x2,t2,rfl,st2,d2,x20,x21⟩:=cast_ex hc2 (by omega) dy (by show d<y.n;omega) (by show y.n+100≤far;omega) (by omega)
 have n2:y.n≤t2.n:=st2.n
 have k2:t2.n≤y.n:=st2.le
 obtain ⟨number,rfl⟩:∃ n:Nat,x2=n:=⟨x2.toNat,by omega⟩
 have g2:∀ c,c<y.n→c≠d→t2.h.get c=y.h.get c:=fun c hc hcd=>st2.same c hc hcd
 have z4:=(g2 t1.n (by omega) (by omega)).trans y4
 simp (disch:=first|omega|(with_unfolding_all exact rfl)|(simp only[new_n,put_n,new_m];omega)|(refine put_m_le ?_;simp only[new_m];omega)) only [thenT_turn,Abs.W,reduceIte,Nat.reduceEqDiff,Nat.reduceAdd,decide_true,decide_false,kLoop_def,Nat.reduceSub,List.cons_append,List.nil_append,List.append_nil,List.length_cons,List.length_nil,Env.find_set,z4,ad,knC,Nat.zero_add]
 generalize hc3:call _ _ _ (.fn 8) _ _=r3
 obtain ⟨x3,t3,rfl,st3,d3,x30,x31⟩:=cast_ex hc3 (by omega) d2 (by show d<t2.n;omega) (by show t2.n+100≤far;omega) (by omega)
 have n3:t2.n≤t3.n:=st3.n
 have k3:t3.n≤t2.n:=st3.le
 obtain ⟨day,rfl⟩:∃ n:Nat,x3=n:=⟨x3.toNat,by omega⟩
 simp (disch:=first|omega|(with_unfolding_all exact rfl)|(simp only[new_n,put_n,new_m];omega)|(refine put_m_le ?_;simp only[new_m];omega)) only [Abs.W,reduceIte,Nat.reduceEqDiff,Nat.reduceAdd,decide_true,decide_false,kLoop_def,Nat.reduceSub,List.cons_append,List.nil_append,List.append_nil,List.length_cons,List.length_nil,Env.find_set,knC]
 generalize hc4:call _ _ _ (.fn 8) _ _=r4
 obtain ⟨x4,t4,rfl,st4,d4,x40,x41⟩:=cast_ex hc4 (by omega) d3 (by show d<t3.n;omega) (by show t3.n+100≤far;omega) (by omega)
 have n4:t3.n≤t4.n:=st4.n
 have k4:t4.n≤t3.n:=st4.le
 simp (disch:=first|omega|(with_unfolding_all exact rfl)|(simp only[new_n,put_n,new_m];omega)|(refine put_m_le ?_;simp only[new_m];omega)) only [Abs.W,reduceIte,Nat.reduceEqDiff,Nat.reduceAdd,decide_true,decide_false,kLoop_def,Nat.reduceSub,List.cons_append,List.nil_append,List.append_nil,List.length_cons,List.length_nil,Env.find_set,knC]
 generalize hc5:call _ _ _ (.fn 8) _ _=r5
 obtain ⟨x5,t5,rfl,st5,d5,x50,x51⟩:=cast_ex hc5 (by omega) d4 (by show d<t4.n;omega) (by show t4.n+100≤far;omega) (by omega)
 have n5:t4.n≤t5.n:=st5.n
 have k5:t5.n≤t4.n:=st5.le
 simp (disch:=first|omega|(with_unfolding_all exact rfl)|(simp only[new_n,put_n,new_m];omega)|(refine put_m_le ?_;simp only[new_m];omega)) only [Abs.W,reduceIte,Nat.reduceEqDiff,Nat.reduceAdd,decide_true,decide_false,kLoop_def,Nat.reduceSub,List.cons_append,List.nil_append,List.append_nil,List.length_cons,List.length_nil,Env.find_set]
 rw [endT_kept (l:=[37]) (s':=t2) (by simp only [keptAll_cons,keptAll_nil,find_cons,Env.find_set,keptV_ptr,y4,z4,sameO_cells,reduceIte,Nat.reduceEqDiff,Bool.and_self])]
 have g5:∀ c,c<y.n→c≠d→t5.h.get c=y.h.get c:=fun c hc hcd=>(st5.same c (by show c<t4.n;omega) hcd).trans ((st4.same c (by show c<t3.n;omega) hcd).trans ((st3.same c (by show c<t2.n;omega) hcd).trans (g2 c hc hcd)))
 have b4:=(g5 t1.n (by omega) (by omega)).trans y4
 have b5:=(g5 (t1.n+1) (by omega) (by omega)).trans y5
 have hBF5:BenchF t5.h s.n t5.n b offs errs v1 v2 v3 v4 v5 v6:=hBF.mono (fun c h1 h2=>(g5 c (by omega) (by omega)).trans (yg c h2)) (Nat.le_refl _) (by omega)
 obtain ⟨hB5,hA5⟩:=hBF5 t5.h fun _ _ _=>rfl
 simp (disch:=first|omega|(with_unfolding_all exact rfl)|(simp only[new_n,put_n,new_m];omega)|(refine put_m_le ?_;simp only[new_m];omega)) only [Abs.W,reduceIte,Nat.reduceEqDiff,Nat.reduceAdd,decide_true,decide_false,kLoop_def,Nat.reduceSub,List.cons_append,List.nil_append,List.append_nil,List.length_cons,List.length_nil,Env.find_set,endO_nil,regD_ok]
 simp (disch:=first|omega|(with_unfolding_all exact rfl)|(simp only[new_n,put_n,new_m];omega)|(refine put_m_le ?_;simp only[new_m];omega)) only [K3r4,Abs.W,reduceIte,Nat.reduceEqDiff,Nat.reduceAdd,decide_true,decide_false,kLoop_def,Nat.reduceSub,List.cons_append,List.nil_append,List.append_nil,List.length_cons,List.length_nil,Env.find_set,b4,knO,Nat.zero_add]
 generalize hc6:call _ _ _ (.fn 9) _ _=r6
 obtain ⟨vo,eo,t6,rfl,w6,ho⟩:=Offs_ex (b:=b) hc6 (by omega) ok hB5 (by omega)
 have n6:=w6.n
 have k6:=w6.le
 have b4':=(w6.same t1.n (by omega)).trans b4
 simp (disch:=first|omega|(with_unfolding_all exact rfl)|(simp only[new_n,put_n,new_m];omega)|(refine put_m_le ?_;simp only[new_m];omega)) only [K3r5,Abs.W,reduceIte,Nat.reduceEqDiff,Nat.reduceAdd,decide_true,decide_false,kLoop_def,Nat.reduceSub,List.cons_append,List.nil_append,List.append_nil,List.length_cons,List.length_nil,Env.find_set,b4',ex0,ex1,knE,Nat.zero_add]
 generalize hc7:call _ _ _ (.fn 10) _ _=r7
 obtain ⟨ve,ee,t7,rfl,w7,he⟩:=Errors_ex (b:=b) (k:=number) hc7 (by omega) ok (by omega) (hB5.grow (fun c hc=>w6.same c hc) n6) (by omega)
 have n7:=w7.n
 have k7:=w7.le
 have g7:∀ c,c<t5.n→t7.h.get c=t5.h.get c:=fun c hc=>(w7.same c (by omega)).trans (w6.same c hc)
 have b4'':=(g7 t1.n (by omega)).trans b4
 have hB7:BenchAt t7.h t7.n b v1 v2 v3 v4:=hB5.grow g7 (by omega)
 have hA7:FactAt t7.h t7.n offs errs v5 v6:=hA5.grow g7 (by omega)
 obtain ⟨gw,ew,cw,hw⟩:=Weight_ex (N:=n) (k:=number) (day:=day) (x:=x4) (s:=t7) (by omega) ok (by omega) (by omega) hB7 (by omega) (by omega)
 obtain ⟨wl,hwl⟩:∃ x:Int,x=if ew=0 then x4 - gw.2 else 0:=⟨_,rfl⟩
 obtain ⟨wh,hwh⟩:∃ x:Int,x=if ew=0 then x4 - gw.1 else 0:=⟨_,rfl⟩
 rw [← hwl,← hwh] at cw
 simp (disch:=first|omega|(with_unfolding_all exact rfl)|(simp only[new_n,put_n,new_m];omega)|(refine put_m_le ?_;simp only[new_m];omega)) only [K3r6,Abs.W,reduceIte,Nat.reduceEqDiff,Nat.reduceAdd,decide_true,decide_false,kLoop_def,Nat.reduceSub,List.cons_append,List.nil_append,List.append_nil,List.length_cons,List.length_nil,Env.find_set,b4'',ex0,ex1,knW,cw,Nat.zero_add]
 generalize hz':St.put (St.new t7 _) t7.n _=z
 have zn:z.n=t7.n+1:=by rw [← hz'];rfl
 have zg:∀ c,c<t7.n→z.h.get c=t7.h.get c:=fun c hc=>by rw [← hz',get_put_ne' _ _ _ _ (by omega),get_new_ne _ _ _ (by omega)]
 have z15:z.h.get t7.n=some (.cells [.int .i64 wl,.int .i64 wh] (tag 43)):=by rw [← hz'];exact get_put_eq _ _ _ _ rfl (by omega)
 clear hz'
 have c4:=(zg t1.n (by omega)).trans b4''
 have c5:=(zg (t1.n+1) (by omega)).trans ((g7 (t1.n+1) (by omega)).trans b5)
 have hBz:BenchAt z.h z.n b v1 v2 v3 v4:=hB7.grow zg (by omega)
 have hAz:FactAt z.h z.n offs errs v5 v6:=hA7.grow zg (by omega)
 obtain ⟨gk,ek,ck,hk⟩:=Keeps_ex (N:=n) (k:=number) (day:=day) (x:=x5) (s:=z) (by omega) ok (by omega) (by omega) hBz (by omega) (by omega)
 obtain ⟨vk,hvk⟩:∃ x:Int,x=if ek=0 then keepsI gk x5 else 0:=⟨_,rfl⟩
 rw [← hvk] at ck
 simp (disch:=first|omega|(with_unfolding_all exact rfl)|(simp only[new_n,put_n,new_m];omega)|(refine put_m_le ?_;simp only[new_m];omega)) only [K3r7,K3r8,Abs.W,reduceIte,Nat.reduceEqDiff,Nat.reduceAdd,decide_true,decide_false,kLoop_def,Nat.reduceSub,List.cons_append,List.nil_append,List.append_nil,List.length_cons,List.length_nil,Env.find_set,c4,ex0,ex1,knK,ck,Nat.zero_add]
 have res:∀ {L:Env} {s:St},L.find 2=.bool true→leaveA Try.prog [.tmp 2] L [] s=.val (.bool true) s:=fun {L s} h=>by unfold leaveA;simp only [takeDfs,resultsA,h];rfl
 cases q with
 | false =>
  have u9s23:=fun cl L s=>congrFun (congrFun (congrFun K3r9s23.eq_1 cl) L) s
  have u9s20:=fun cl L s=>congrFun (congrFun (congrFun K3r9s20.eq_1 cl) L) s
  have u9s19:=fun cl L s=>congrFun (congrFun (congrFun K3r9s19.eq_1 cl) L) s
  have u9s18:=fun cl L s=>congrFun (congrFun (congrFun K3r9s18.eq_1 cl) L) s
  have u9s15:=fun cl L s=>congrFun (congrFun (congrFun K3r9s15.eq_1 cl) L) s
  have u9s14:=fun cl L s=>congrFun (congrFun (congrFun K3r9s14.eq_1 cl) L) s
  have u9s13:=fun cl L s=>congrFun (congrFun (congrFun K3r9s13.eq_1 cl) L) s
  have u9s10:=fun cl L s=>congrFun (congrFun (congrFun K3r9s10.eq_1 cl) L) s
  have u9s9:=fun cl L s=>congrFun (congrFun (congrFun K3r9s9.eq_1 cl) L) s
  have u9s8:=fun cl L s=>congrFun (congrFun (congrFun K3r9s8.eq_1 cl) L) s
  have u9s5:=fun cl L s=>congrFun (congrFun (congrFun K3r9s5.eq_1 cl) L) s
  have u9s4:=fun cl L s=>congrFun (congrFun (congrFun K3r9s4.eq_1 cl) L) s
  have hall:(eo=9∧ee=9∧ew=9∧ek=9)∨(eo=0∧ee=0∧ew=0∧ek=0):=by
   cases hK:knT b (resMany b) with
   | none =>
    refine .inl ⟨?_,?_,?_,?_⟩
    ·rcases ho with ⟨_,_,h⟩ | ⟨_,_,h,_⟩
     ·exact h
     ·rw [hK] at h;cases h
    ·rcases he with ⟨_,_,h⟩ | ⟨_,_,h,_⟩
     ·exact h
     ·rw [hK] at h;cases h
    ·rcases hw with ⟨_,h,_⟩ | ⟨_,_,h,_⟩
     ·exact h
     ·rw [hK] at h;cases h
    ·rcases hk with ⟨_,h,_⟩ | ⟨_,_,h,_⟩
     ·exact h
     ·rw [hK] at h;cases h
   | some T =>
    refine .inr ⟨?_,?_,?_,?_⟩
    ·rcases ho with ⟨h,_⟩ | ⟨h,_⟩
     ·rw [hK] at h;cases h
     ·exact h
    ·rcases he with ⟨h,_⟩ | ⟨h,_⟩
     ·rw [hK] at h;cases h
     ·exact h
    ·rcases hw with ⟨h,_⟩ | ⟨h,_⟩
     ·rw [hK] at h;cases h
     ·exact h
    ·rcases hk with ⟨h,_⟩ | ⟨h,_⟩
     ·rw [hK] at h;cases h
     ·exact h
  have d0:decide ((0:Int)=0)=true:=rfl
  have d1:decide ((9:Int)=0)=false:=rfl
  have d2:decide ((9:Int)=9)=true:=rfl
  rcases hall with ⟨rfl,rfl,rfl,rfl⟩ | ⟨rfl,rfl,rfl,rfl⟩
  ·simp (disch:=first|omega|(with_unfolding_all exact rfl)|(simp only[new_n,put_n,new_m];omega)|(refine put_m_le ?_;simp only[new_m];omega)) only [K3r9,u9s23,u9s20,u9s19,u9s18,u9s15,u9s14,u9s13,u9s10,u9s9,u9s8,u9s5,u9s4,Abs.W,reduceIte,Nat.reduceEqDiff,Nat.reduceAdd,decide_true,decide_false,kLoop_def,Nat.reduceSub,List.cons_append,List.nil_append,List.append_nil,List.length_cons,List.length_nil,Env.find_set,Bool.not_false,d0,d1,d2,knA]
   exact ⟨_,rfl⟩
  ·simp (disch:=first|omega|(with_unfolding_all exact rfl)|(simp only[new_n,put_n,new_m];omega)|(refine put_m_le ?_;simp only[new_m];omega)) only [K3r9,u9s23,u9s20,u9s19,u9s18,u9s15,u9s14,u9s13,u9s10,u9s9,u9s8,u9s5,u9s4,Abs.W,reduceIte,Nat.reduceEqDiff,Nat.reduceAdd,decide_true,decide_false,kLoop_def,Nat.reduceSub,List.cons_append,List.nil_append,List.append_nil,List.length_cons,List.length_nil,Env.find_set,Bool.not_false,d0,d1,d2,knA]
   exact ⟨_,rfl⟩
 | true =>
  have u10s29:=fun cl L s=>congrFun (congrFun (congrFun K3r10s29.eq_1 cl) L) s
  have u10s28:=fun cl L s=>congrFun (congrFun (congrFun K3r10s28.eq_1 cl) L) s
  have u10s27:=fun cl L s=>congrFun (congrFun (congrFun K3r10s27.eq_1 cl) L) s
  have u10s26:=fun cl L s=>congrFun (congrFun (congrFun K3r10s26.eq_1 cl) L) s
  have u10s25:=fun cl L s=>congrFun (congrFun (congrFun K3r10s25.eq_1 cl) L) s
  have u10s24:=fun cl L s=>congrFun (congrFun (congrFun K3r10s24.eq_1 cl) L) s
  have u10s21:=fun cl L s=>congrFun (congrFun (congrFun K3r10s21.eq_1 cl) L) s
  have u10s20:=fun cl L s=>congrFun (congrFun (congrFun K3r10s20.eq_1 cl) L) s
  have u10s19:=fun cl L s=>congrFun (congrFun (congrFun K3r10s19.eq_1 cl) L) s
  have u10s18:=fun cl L s=>congrFun (congrFun (congrFun K3r10s18.eq_1 cl) L) s
  have u10s17:=fun cl L s=>congrFun (congrFun (congrFun K3r10s17.eq_1 cl) L) s
  have u10s16:=fun cl L s=>congrFun (congrFun (congrFun K3r10s16.eq_1 cl) L) s
  have u10s13:=fun cl L s=>congrFun (congrFun (congrFun K3r10s13.eq_1 cl) L) s
  have u10s12:=fun cl L s=>congrFun (congrFun (congrFun K3r10s12.eq_1 cl) L) s
  have u10s9:=fun cl L s=>congrFun (congrFun (congrFun K3r10s9.eq_1 cl) L) s
  have u10s8:=fun cl L s=>congrFun (congrFun (congrFun K3r10s8.eq_1 cl) L) s
  have u10s5:=fun cl L s=>congrFun (congrFun (congrFun K3r10s5.eq_1 cl) L) s
  have u10s4:=fun cl L s=>congrFun (congrFun (congrFun K3r10s4.eq_1 cl) L) s
  obtain ⟨T,hT,kok,fo,fe⟩:=known_fact ok hF (hq.mp rfl)
  obtain ⟨rfl,ho'⟩:eo=0∧RowsAt t6.h t6.n 2 (gapRow (offsOf b T)) vo:=by
   rcases ho with ⟨h0,_⟩ | ⟨h1,T',h0,h2⟩
   ·rw [hT] at h0;cases h0
   ·rw [hT] at h0;cases h0;exact ⟨h1,h2⟩
  obtain ⟨rfl,he'⟩:ee=0∧RowsAt t7.h t7.n 2 (gapRow (errsOf b T number)) ve:=by
   rcases he with ⟨h0,_⟩ | ⟨h1,T',h0,h2⟩
   ·rw [hT] at h0;cases h0
   ·rw [hT] at h0;cases h0;exact ⟨h1,h2⟩
  obtain ⟨rfl,rfl⟩:ew=0∧gw=ent T 0 (errAt b number day):=by
   rcases hw with ⟨h0,_⟩ | ⟨h1,T',h0,h2⟩
   ·rw [hT] at h0;cases h0
   ·rw [hT] at h0;cases h0;exact ⟨h1,h2⟩
  obtain ⟨rfl,rfl⟩:ek=0∧gk=ent T 0 (errAt b number day):=by
   rcases hk with ⟨h0,_⟩ | ⟨h1,T',h0,h2⟩
   ·rw [hT] at h0;cases h0
   ·rw [hT] at h0;cases h0;exact ⟨h1,h2⟩
  rw [if_pos rfl] at hwl hwh hvk
  have hom:=ho'.grow (h':=z.h) (n':=z.n) (fun c hc=>(zg c (by omega)).trans (w7.same c hc)) (by omega)
  have hez:=he'.grow (h':=z.h) (n':=z.n) zg (by omega)
  have d0:decide (¬ (0:Int)=0)=false:=rfl
  have lo:(offsOf b T).length=b.ms.length:=by unfold offsOf;rw [List.length_map,List.length_range]
  have lv:=hom.len
  rw [gapRow_len,lo] at lv
  have le:=hez.len
  rw [gapRow_len,errsOf_len] at le
  have lm:=hBz.m.len
  rw [List.length_map] at lm
  have ko:∀ t,okA (.val vo t)=.val vo t:=fun t=>okA_ne hom.ne
  have ke:∀ t,okA (.val ve t)=.val ve t:=fun t=>okA_ne hez.ne
  have km:∀ t,okA (.val v1 t)=.val v1 t:=fun t=>okA_ne hBz.m.ne
  have dm:decide (¬ (b.ms.length:Int)=(b.ms.length:Int))=false:=by simp
  have dd:decide (((b.days+1:Nat):Int)=(b.days:Int)+1)=true:=decide_eq_true (by omega)
  simp (config:={ maxSteps:=3000000 }) (disch:=first|omega|(with_unfolding_all exact rfl)|(simp only[new_n,put_n,new_m];omega)|(refine put_m_le ?_;simp only[new_m];omega)) only [K3r10,u10s29,u10s28,u10s27,u10s26,u10s25,u10s24,u10s21,u10s20,u10s19,u10s18,u10s17,u10s16,u10s13,u10s12,u10s9,u10s8,u10s5,u10s4,Abs.W,reduceIte,Nat.reduceEqDiff,Nat.reduceAdd,decide_true,decide_false,kLoop_def,Nat.reduceSub,List.cons_append,List.nil_append,List.append_nil,List.length_cons,List.length_nil,Env.find_set,Bool.not_true,d0,dm,dd,lv,le,lm,ko,ke,km,c4,ad,Nat.zero_add]
  unfold sctLoops
  simp (disch:=first|omega|(with_unfolding_all exact rfl)|(simp only[new_n,put_n,new_m];omega)|(refine put_m_le ?_;simp only[new_m];omega)) only [K3r12,Abs.W,reduceIte,Nat.reduceEqDiff,Nat.reduceAdd,decide_true,decide_false,kLoop_def,Nat.reduceSub,List.cons_append,List.nil_append,List.append_nil,List.length_cons,List.length_nil,Env.find_set]
  generalize hl1:loopN _ rounds _ _ _ _ _=rl1
  obtain ⟨L1,rfl,gL1⟩:=sct_loop0 n (by omega) _ hl1 ok hF hBz hAz hom (by omega) c4 c5 fo (by simp only [find_cons,Env.find_set,reduceIte,Nat.reduceEqDiff]) (by simp only [find_cons,Env.find_set,reduceIte,Nat.reduceEqDiff]) (by simp only [find_cons,Env.find_set,reduceIte,Nat.reduceEqDiff]) (by simp only [find_cons,Env.find_set,reduceIte,Nat.reduceEqDiff];rfl)
  have gL:∀ c v,c<19→c≠2→_=v→L1.find c=v:=fun c v h h2 e=>(gL1 c h h2).trans e
  have q5:=gL 5 (.ptr (t1.n+1) 0) (by omega) (by omega) (by simp only [find_cons,Env.find_set,reduceIte,Nat.reduceEqDiff])
  have q7:=gL 7 (.int .i64 number) (by omega) (by omega) (by simp only [find_cons,Env.find_set,reduceIte,Nat.reduceEqDiff])
  have q8:=gL 8 (.int .i64 day) (by omega) (by omega) (by simp only [find_cons,Env.find_set,reduceIte,Nat.reduceEqDiff])
  have q9:=gL 9 (.int .i64 x4) (by omega) (by omega) (by simp only [find_cons,Env.find_set,reduceIte,Nat.reduceEqDiff])
  have q10:=gL 10 (.int .i64 x5) (by omega) (by omega) (by simp only [find_cons,Env.find_set,reduceIte,Nat.reduceEqDiff])
  have q13:=gL 13 ve (by omega) (by omega) (by simp only [find_cons,Env.find_set,reduceIte,Nat.reduceEqDiff])
  have q15:=gL 15 (.ptr t7.n 0) (by omega) (by omega) (by simp only [find_cons,Env.find_set,reduceIte,Nat.reduceEqDiff])
  have q17:=gL 17 (.int .i64 vk) (by omega) (by omega) (by simp only [find_cons,Env.find_set,reduceIte,Nat.reduceEqDiff])
  clear gL gL1
  simp (disch:=first|omega|(with_unfolding_all exact rfl)|(simp only[new_n,put_n,new_m];omega)|(refine put_m_le ?_;simp only[new_m];omega)) only [K3r17,Abs.W,reduceIte,Nat.reduceEqDiff,Nat.reduceAdd,decide_true,decide_false,kLoop_def,Nat.reduceSub,List.cons_append,List.nil_append,List.append_nil,List.length_cons,List.length_nil,Env.find_set]
  generalize hl2:loopN _ rounds _ _ _ _ _=rl2
  obtain ⟨L2,rfl,gL2⟩:=sct_loop1 n (by omega) _ hl2 ok hF hAz hez (k:=number) (by omega) (by omega) c5 (fun i hi=>fe number i (by omega) hi) (by simp only [Env.find_set,q5,reduceIte,Nat.reduceEqDiff]) (by simp only [Env.find_set,q7,reduceIte,Nat.reduceEqDiff]) (by simp only [Env.find_set,q13,reduceIte,Nat.reduceEqDiff]) (by simp only [Env.find_set,reduceIte,Nat.reduceEqDiff];rfl)
  have p5:=(gL2 5 (by omega) (by omega)).trans (show _=AV.ptr (t1.n+1) 0 by simp only [Env.find_set,q5,reduceIte,Nat.reduceEqDiff])
  have p7:=(gL2 7 (by omega) (by omega)).trans (show _=AV.int .i64 number by simp only [Env.find_set,q7,reduceIte,Nat.reduceEqDiff])
  have p8:=(gL2 8 (by omega) (by omega)).trans (show _=AV.int .i64 day by simp only [Env.find_set,q8,reduceIte,Nat.reduceEqDiff])
  have p9:=(gL2 9 (by omega) (by omega)).trans (show _=AV.int .i64 x4 by simp only [Env.find_set,q9,reduceIte,Nat.reduceEqDiff])
  have p10:=(gL2 10 (by omega) (by omega)).trans (show _=AV.int .i64 x5 by simp only [Env.find_set,q10,reduceIte,Nat.reduceEqDiff])
  have p15:=(gL2 15 (by omega) (by omega)).trans (show _=AV.ptr t7.n 0 by simp only [Env.find_set,q15,reduceIte,Nat.reduceEqDiff])
  have p17:=(gL2 17 (by omega) (by omega)).trans (show _=AV.int .i64 vk by simp only [Env.find_set,q17,reduceIte,Nat.reduceEqDiff])
  clear gL2 q5 q7 q8 q9 q10 q13 q15 q17
  have hel:=hF.el
  have hro:=hF.err number (by omega)
  obtain ⟨xe,pe,ce,xze,vr,xf,pf,cf,zf,e1,e2,e3,e4,e5,f1,f2,f3,f4⟩:=hAz.err (k:=number) (d:=day) (by omega) (by rw [hro.len];omega)
  have k6:=hAz.ok
  have sm:=hro.small day (by omega)
  have fit:=fe number day (by omega) (by omega)
  have f4':nth cf pf=.int .i64 (errIn errs number day):=f4
  have sm' : -100≤errIn errs number day∧errIn errs number day≤100:=by unfold errIn;omega
  clear f4 sm
  generalize errIn errs number day=E at *
  generalize ent T 0 (errAt b number day)=g at *
  obtain ⟨glo,ghi⟩:=g
  simp only at fit hwl hwh
  have dw:decide (wl≤x4 - E∧x4 - E≤wh)=true:=decide_eq_true (by omega)
  have sb:∀ s,aSub s .i64 x4 E=.val (.int .i64 (x4 - E)) s:=fun s=>aSub_i64 s _ _ (by omega)
  have u23s8:=fun cl L s=>congrFun (congrFun (congrFun K3r23s8.eq_1 cl) L) s
  have u23s7:=fun cl L s=>congrFun (congrFun (congrFun K3r23s7.eq_1 cl) L) s
  have u23s6:=fun cl L s=>congrFun (congrFun (congrFun K3r23s6.eq_1 cl) L) s
  have u24s22:=fun cl L s=>congrFun (congrFun (congrFun K3r24s22.eq_1 cl) L) s
  have u24s19:=fun cl L s=>congrFun (congrFun (congrFun K3r24s19.eq_1 cl) L) s
  have u24s18:=fun cl L s=>congrFun (congrFun (congrFun K3r24s18.eq_1 cl) L) s
  have u24s17:=fun cl L s=>congrFun (congrFun (congrFun K3r24s17.eq_1 cl) L) s
  have u24s16:=fun cl L s=>congrFun (congrFun (congrFun K3r24s16.eq_1 cl) L) s
  have u24s15:=fun cl L s=>congrFun (congrFun (congrFun K3r24s15.eq_1 cl) L) s
  have u24s14:=fun cl L s=>congrFun (congrFun (congrFun K3r24s14.eq_1 cl) L) s
  have u24s11:=fun cl L s=>congrFun (congrFun (congrFun K3r24s11.eq_1 cl) L) s
  have u24s10:=fun cl L s=>congrFun (congrFun (congrFun K3r24s10.eq_1 cl) L) s
  have u24s9:=fun cl L s=>congrFun (congrFun (congrFun K3r24s9.eq_1 cl) L) s
  have u24s8:=fun cl L s=>congrFun (congrFun (congrFun K3r24s8.eq_1 cl) L) s
  have u24s7:=fun cl L s=>congrFun (congrFun (congrFun K3r24s7.eq_1 cl) L) s
  unfold sctEnd
  simp (disch:=first|omega|(with_unfolding_all exact rfl)|(simp only[new_n,put_n,new_m];omega)|(refine put_m_le ?_;simp only[new_m];omega)) only [K3r22,Abs.W,reduceIte,Nat.reduceEqDiff,Nat.reduceAdd,decide_true,decide_false,kLoop_def,Nat.reduceSub,List.cons_append,List.nil_append,List.append_nil,List.length_cons,List.length_nil,Env.find_set,p5,p7,p8,c5,k6,e2,e3,e4,e5,f2,f3,f4',Nat.zero_add]
  have ng:∀ s,negA s (.int .i64 x5)=.val (.int .i64 (-x5)) s:=fun s=>neg_i64 s _ (by omega)
  obtain ⟨A,hA⟩:∃ A,A=decide (-x5≤E):=⟨_,rfl⟩
  obtain ⟨B,hB⟩:∃ B,B=decide (E≤x5):=⟨_,rfl⟩
  have hkey:(vk=1∧A=true∧B=true)∨(vk=2∧A=false)∨(vk=2∧A=true∧B=false)∨(vk=3∧A=false)∨(vk=3∧A=true∧B=false)∨(vk=3∧A=true∧B=true):=by
   rw [hvk,hA,hB]
   unfold keepsI
   simp only
   by_cases h1 : -x5≤glo∧ghi≤x5
   ·rw [if_pos h1]
    exact .inl ⟨rfl,decide_eq_true (by omega),decide_eq_true (by omega)⟩
   ·rw [if_neg h1]
    by_cases h2:ghi < -x5∨x5<glo
    ·rw [if_pos h2]
     by_cases h3 : -x5≤E
     ·exact .inr (.inr (.inl ⟨rfl,decide_eq_true h3,decide_eq_false (by omega)⟩))
     ·exact .inr (.inl ⟨rfl,decide_eq_false h3⟩)
    ·rw [if_neg h2]
     by_cases h3 : -x5≤E
     ·by_cases h4:E≤x5
      ·exact .inr (.inr (.inr (.inr (.inr ⟨rfl,decide_eq_true h3,decide_eq_true h4⟩))))
      ·exact .inr (.inr (.inr (.inr (.inl ⟨rfl,decide_eq_true h3,decide_eq_false h4⟩))))
     ·exact .inr (.inr (.inr (.inl ⟨rfl,decide_eq_false h3⟩)))
  have i11:decide ((1:Int)=1)=true:=rfl
  have i12:decide ((1:Int)=2)=false:=rfl
  have i21:decide ((2:Int)=1)=false:=rfl
  have i22:decide ((2:Int)=2)=true:=rfl
  have i31:decide ((3:Int)=1)=false:=rfl
  have i32:decide ((3:Int)=2)=false:=rfl
  clear hvk
  rcases hkey with ⟨rfl,r1,r2⟩ | ⟨rfl,r1⟩ | ⟨rfl,r1,r2⟩ | ⟨rfl,r1⟩ | ⟨rfl,r1,r2⟩ | ⟨rfl,r1,r2⟩
  ·rw [r1] at hA
   rw [r2] at hB
   simp (config:={ maxSteps:=3000000 }) (disch:=first|omega|(with_unfolding_all exact rfl)|(simp only[new_n,put_n,new_m];omega)|(refine put_m_le ?_;simp only[new_m];omega)) only [K3r23,u23s8,u23s7,u23s6,Abs.W,reduceIte,Nat.reduceEqDiff,Nat.reduceAdd,decide_true,decide_false,kLoop_def,Nat.reduceSub,List.cons_append,List.nil_append,List.append_nil,List.length_cons,List.length_nil,Env.find_set,p10,ng,← hA,← hB,Nat.zero_add]
   simp (config:={ maxSteps:=3000000 }) (disch:=first|omega|(with_unfolding_all exact rfl)|(simp only[new_n,put_n,new_m];omega)|(refine put_m_le ?_;simp only[new_m];omega)) only [K3r24,u24s22,u24s19,u24s18,u24s17,u24s16,u24s15,u24s14,u24s11,u24s10,u24s9,u24s8,u24s7,res3,Abs.W,reduceIte,Nat.reduceEqDiff,Nat.reduceAdd,decide_true,decide_false,kLoop_def,Nat.reduceSub,List.cons_append,List.nil_append,List.append_nil,List.length_cons,List.length_nil,Env.find_set,p9,p10,p15,p17,z15,sb,knH,holds_ok,dw,knA,i11,i12,i21,i22,i31,i32,Bool.not_true,Bool.not_false,Nat.zero_add]
   exact ⟨_,rfl⟩
  ·rw [r1] at hA
   simp (config:={ maxSteps:=3000000 }) (disch:=first|omega|(with_unfolding_all exact rfl)|(simp only[new_n,put_n,new_m];omega)|(refine put_m_le ?_;simp only[new_m];omega)) only [K3r23,u23s8,u23s7,u23s6,Abs.W,reduceIte,Nat.reduceEqDiff,Nat.reduceAdd,decide_true,decide_false,kLoop_def,Nat.reduceSub,List.cons_append,List.nil_append,List.append_nil,List.length_cons,List.length_nil,Env.find_set,p10,ng,← hA,Nat.zero_add]
   simp (config:={ maxSteps:=3000000 }) (disch:=first|omega|(with_unfolding_all exact rfl)|(simp only[new_n,put_n,new_m];omega)|(refine put_m_le ?_;simp only[new_m];omega)) only [K3r24,u24s22,u24s19,u24s18,u24s17,u24s16,u24s15,u24s14,u24s11,u24s10,u24s9,u24s8,u24s7,res3,Abs.W,reduceIte,Nat.reduceEqDiff,Nat.reduceAdd,decide_true,decide_false,kLoop_def,Nat.reduceSub,List.cons_append,List.nil_append,List.append_nil,List.length_cons,List.length_nil,Env.find_set,p9,p10,p15,p17,z15,sb,knH,holds_ok,dw,knA,i11,i12,i21,i22,i31,i32,Bool.not_true,Bool.not_false,Nat.zero_add]
   exact ⟨_,rfl⟩
  ·rw [r1] at hA
   rw [r2] at hB
   simp (config:={ maxSteps:=3000000 }) (disch:=first|omega|(with_unfolding_all exact rfl)|(simp only[new_n,put_n,new_m];omega)|(refine put_m_le ?_;simp only[new_m];omega)) only [K3r23,u23s8,u23s7,u23s6,Abs.W,reduceIte,Nat.reduceEqDiff,Nat.reduceAdd,decide_true,decide_false,kLoop_def,Nat.reduceSub,List.cons_append,List.nil_append,List.append_nil,List.length_cons,List.length_nil,Env.find_set,p10,ng,← hA,← hB,Nat.zero_add]
   simp (config:={ maxSteps:=3000000 }) (disch:=first|omega|(with_unfolding_all exact rfl)|(simp only[new_n,put_n,new_m];omega)|(refine put_m_le ?_;simp only[new_m];omega)) only [K3r24,u24s22,u24s19,u24s18,u24s17,u24s16,u24s15,u24s14,u24s11,u24s10,u24s9,u24s8,u24s7,res3,Abs.W,reduceIte,Nat.reduceEqDiff,Nat.reduceAdd,decide_true,decide_false,kLoop_def,Nat.reduceSub,List.cons_append,List.nil_append,List.append_nil,List.length_cons,List.length_nil,Env.find_set,p9,p10,p15,p17,z15,sb,knH,holds_ok,dw,knA,i11,i12,i21,i22,i31,i32,Bool.not_true,Bool.not_false,Nat.zero_add]
   exact ⟨_,rfl⟩
  ·rw [r1] at hA
   simp (config:={ maxSteps:=3000000 }) (disch:=first|omega|(with_unfolding_all exact rfl)|(simp only[new_n,put_n,new_m];omega)|(refine put_m_le ?_;simp only[new_m];omega)) only [K3r23,u23s8,u23s7,u23s6,Abs.W,reduceIte,Nat.reduceEqDiff,Nat.reduceAdd,decide_true,decide_false,kLoop_def,Nat.reduceSub,List.cons_append,List.nil_append,List.append_nil,List.length_cons,List.length_nil,Env.find_set,p10,ng,← hA,Nat.zero_add]
   simp (config:={ maxSteps:=3000000 }) (disch:=first|omega|(with_unfolding_all exact rfl)|(simp only[new_n,put_n,new_m];omega)|(refine put_m_le ?_;simp only[new_m];omega)) only [K3r24,u24s22,u24s19,u24s18,u24s17,u24s16,u24s15,u24s14,u24s11,u24s10,u24s9,u24s8,u24s7,res3,Abs.W,reduceIte,Nat.reduceEqDiff,Nat.reduceAdd,decide_true,decide_false,kLoop_def,Nat.reduceSub,List.cons_append,List.nil_append,List.append_nil,List.length_cons,List.length_nil,Env.find_set,p9,p10,p15,p17,z15,sb,knH,holds_ok,dw,knA,i11,i12,i21,i22,i31,i32,Bool.not_true,Bool.not_false,Nat.zero_add]
   exact ⟨_,rfl⟩
  ·rw [r1] at hA
   rw [r2] at hB
   simp (config:={ maxSteps:=3000000 }) (disch:=first|omega|(with_unfolding_all exact rfl)|(simp only[new_n,put_n,new_m];omega)|(refine put_m_le ?_;simp only[new_m];omega)) only [K3r23,u23s8,u23s7,u23s6,Abs.W,reduceIte,Nat.reduceEqDiff,Nat.reduceAdd,decide_true,decide_false,kLoop_def,Nat.reduceSub,List.cons_append,List.nil_append,List.append_nil,List.length_cons,List.length_nil,Env.find_set,p10,ng,← hA,← hB,Nat.zero_add]
   simp (config:={ maxSteps:=3000000 }) (disch:=first|omega|(with_unfolding_all exact rfl)|(simp only[new_n,put_n,new_m];omega)|(refine put_m_le ?_;simp only[new_m];omega)) only [K3r24,u24s22,u24s19,u24s18,u24s17,u24s16,u24s15,u24s14,u24s11,u24s10,u24s9,u24s8,u24s7,res3,Abs.W,reduceIte,Nat.reduceEqDiff,Nat.reduceAdd,decide_true,decide_false,kLoop_def,Nat.reduceSub,List.cons_append,List.nil_append,List.append_nil,List.length_cons,List.length_nil,Env.find_set,p9,p10,p15,p17,z15,sb,knH,holds_ok,dw,knA,i11,i12,i21,i22,i31,i32,Bool.not_true,Bool.not_false,Nat.zero_add]
   exact ⟨_,rfl⟩
  ·rw [r1] at hA
   rw [r2] at hB
   simp (config:={ maxSteps:=3000000 }) (disch:=first|omega|(with_unfolding_all exact rfl)|(simp only[new_n,put_n,new_m];omega)|(refine put_m_le ?_;simp only[new_m];omega)) only [K3r23,u23s8,u23s7,u23s6,Abs.W,reduceIte,Nat.reduceEqDiff,Nat.reduceAdd,decide_true,decide_false,kLoop_def,Nat.reduceSub,List.cons_append,List.nil_append,List.append_nil,List.length_cons,List.length_nil,Env.find_set,p10,ng,← hA,← hB,Nat.zero_add]
   simp (config:={ maxSteps:=3000000 }) (disch:=first|omega|(with_unfolding_all exact rfl)|(simp only[new_n,put_n,new_m];omega)|(refine put_m_le ?_;simp only[new_m];omega)) only [K3r24,u24s22,u24s19,u24s18,u24s17,u24s16,u24s15,u24s14,u24s11,u24s10,u24s9,u24s8,u24s7,res3,Abs.W,reduceIte,Nat.reduceEqDiff,Nat.reduceAdd,decide_true,decide_false,kLoop_def,Nat.reduceSub,List.cons_append,List.nil_append,List.append_nil,List.length_cons,List.length_nil,Env.find_set,p9,p10,p15,p17,z15,sb,knH,holds_ok,dw,knA,i11,i12,i21,i22,i31,i32,Bool.not_true,Bool.not_false,Nat.zero_add]
   exact ⟨_,rfl⟩
end Go.Proofs.Ytfekafjfidohdaa.walk
namespace Go.Proofs.Ytfekafjfidohdaa.mdie
open Go.RowKit
def Die (b:Nat) (w:World):Prop:=∃ s,w.heap[b]? = some (.cells #[.int .u64 s] 63 (0,0))
theorem Die.old {b:Nat} {w:World} (h:Die b w):(∃ s,w.cell? ⟨b,0,none⟩=some (.int .u64 s))∧w.frozen? ⟨b,0,none⟩=false:=by
 obtain ⟨s,hs⟩:=h
 refine ⟨⟨s,?_⟩,?_⟩
 ·unfold World.cell?;simp [hs]
 ·unfold World.frozen?;simp [hs]
structure Stir (b:Nat) (w w':World):Prop where
 below:Below b w w'
 rest:∀ p:Addr,p.block≠b→p.block<w.heap.size→w'.cell? p=w.cell? p∧w'.frozen? p=w.frozen? p
 die:Die b w'
def Gives (b:Nat) (k:IntKind) (Q:Int→Prop) (w:World) (e:Ending) (w':World):Prop:=∃ r,Q r∧e=.returned (.int k r)∧Stir b w w'
theorem bits_nonneg (op:BinOp) (x y:Int):0≤bits op .u64 x y:=by
 have:=bounds_u64 (wf_bits (k:=.u64) (op:=op) (x:=x) (y:=y))
 exact this.1
theorem Stir.set {b:Nat} {w:World} (h:Die b w) (s:Int):Stir b w (w.setCell ⟨b,0,none⟩ (.int .u64 s)):=by
 obtain ⟨t,ht⟩:=h
 refine ⟨(Below.refl b w).setCell (p:=⟨b,0,none⟩) (Nat.le_refl b) _,fun p hp _=>⟨World.cell?_of_block (Below.heap_setCell _ _ _ _ hp),World.frozen?_of_block (Below.heap_setCell _ _ _ _ hp)⟩,⟨s,?_⟩⟩
 unfold World.setCell
 simp [Array.getElem?_modify,ht]
theorem roll (b:Nat) (w:World) (h:Die b w):Calls Try.prog 19 #[.pointer (some ⟨b,0,none⟩)] w (Gives b .u64 (fun r=>0≤r) w):=by
 have h':=Lib.hid h
 obtain ⟨⟨s,hs⟩,hf⟩:=h.old
 clear h
 go_enter Try.func19,Try.ntmps19
 go_wp2
 go_ret
 exact ⟨_,bits_nonneg _ _ _,rfl,Stir.set h'.out _⟩
theorem Stir.refl {b:Nat} {w:World} (h:Die b w):Stir b w w:=⟨Below.refl _ _,fun _ _ _=>⟨rfl,rfl⟩,h⟩
theorem Stir.trans {b:Nat} {u v w:World} (h:Stir b u v) (k:Stir b v w):Stir b u w :=
 ⟨h.below.trans k.below,fun p hp hb=>⟨(k.rest p hp (Nat.lt_of_lt_of_le hb h.below.size)).1.trans (h.rest p hp hb).1,(k.rest p hp (Nat.lt_of_lt_of_le hb h.below.size)).2.trans (h.rest p hp hb).2⟩,k.die⟩
theorem Die.lt {b:Nat} {w:World} (h:Die b w):b<w.heap.size:=by obtain ⟨⟨s,hs⟩,_⟩:=h.old;exact World.block_lt_of_cell? w _ hs
theorem Stir.drew {b:Nat} {w w':World} (h:Stir b w w'):Stir b w w'.drew:=h.trans ⟨⟨rfl,rfl,rfl,Nat.le_refl _,fun _ _=>rfl⟩,fun _ _ _=>⟨rfl,rfl⟩,h.die⟩
def Born (w:World) (e:Ending) (w':World):Prop:=e=.returned (.pointer (some ⟨w.heap.size,0,none⟩))∧Below w.heap.size w w'∧Die w.heap.size w'∧w.heap.size<w'.heap.size
theorem Die.born (w:World) (s:Int):Die w.heap.size (w.alloc (.cells #[.int .u64 s] 63)):=⟨s,by show (w.heap.push _)[w.heap.size]? = _;rw [Array.getElem?_push,if_pos rfl]⟩
set_option maxRecDepth 100000 in
theorem born (x:Option Addr) (n c:Nat) (w:World) (hn:n≤maxLen) (hc:∀ i,i<n→∃ b o,x=some ⟨b,o,none⟩∧∃ v,w.cell? ⟨b,o+i,none⟩=some (.int .i64 v)) :
  Calls Try.prog 6 #[.slice x n c] w (Born w):=by
 unfold maxLen at hn
 have HC:=Lib.hid hc
 clear hc
 have hdie:=Lib.hid (Die.born w 2611923443488327891)
 go_enter Try.func6,Try.ntmps6
 go_wp2
 go_loopw [4] (fun i wr=>∃ k:Nat,k≤n∧i=.int .i64 k∧Stir w.heap.size (w.alloc (.cells #[.int .u64 2611923443488327891] 63)) wr) (fun i _=>n - (intOf i).toNat)
 case atStart=>exact ⟨0,Nat.zero_le _,rfl,Stir.refl hdie.out⟩
 case round =>
  obtain ⟨k,hk,rfl,hs⟩:=hrel
  by_cases hlt:k<n
  ·obtain ⟨b,o,rfl,v,hv⟩:=HC.out k hlt
   have hb:=World.block_lt_of_cell? _ _ hv
   simp only at hb
   have hv1:wr.cell? ⟨b,o+k,none⟩=some (.int .i64 v):=((hs.rest ⟨b,o+k,none⟩ (Nat.ne_of_lt hb) (by simp;omega)).1.trans (World.cell?_of_block (Below.heap_alloc _ _ _ hb))).trans hv
   clear hv
   obtain ⟨⟨s,hd⟩,hf⟩:=hs.die.old
   have hst:=Lib.hid (fun s1:Int=>(hs.drew).trans (Stir.set hs.drew.die s1))
   have hlt':(k:Int)<(n:Int):=by omega
   have hk0:(0:Int)≤(k:Int):=by omega
   go_wp2
   go_still_tail 12,(by kernel_rfl)
   change wpList _ _ _ _ _ wr.drew
   go_wp2_with (go_at_call 19;refine (roll _ _ ?_).mono ?_;exact (hst.out _).die;rintro e w1 ⟨r,hr,rfl,hs1⟩;(have hs2:=(hst.out _).trans hs1))
   go_roundw
   case rel=>exact ⟨k+1,by omega,by go_num,hs2⟩
   case measure=>simp [intOf];omega
  ·go_wp2
   go_ret
   exact ⟨rfl,((Below.refl w.heap.size w).alloc (Nat.le_refl _) _).trans hs.below,hs.die,by have:=hs.below.size;simp at this;omega⟩
end Go.Proofs.Ytfekafjfidohdaa.mdie
namespace Go.Abs
open Go.RowKit
variable {P:Program}
theorem mid_calls {cl:CallF} (hc:CallSound P cl) {f:FuncId} {fn:Func} (hf:P.funcs[f]? = some fn) {c0 c1 rest:Code} (hb:fn.body=some (.seq c0 (.seq c1 rest))) {X:FuncId→List Nat} {k:K} {A:Array Value} {W:World} {R:Ending→World→Prop}
  (h:c0.wp P (Exit.then (fun a w=>c1.wp P (Exit.then (fun a w=>∃ ρ L s v s',ActRel ρ fn.ntmps L [] a∧Clean (X f) L∧SRel ρ s w∧finA P fn (k cl ⟨f,none,fn.ntmps,X f⟩ L [] s)=.val v s'∧∀ ρ' V W',After ρ s w ρ' s' W'→VRel ρ' v V→R (.returned V) W') fun _ _ _=>False) a w) fun _ _ _=>False)
   { tmps:=A++Array.replicate (fn.ntmps - A.size) undef,defers:=[] } W)
  (hk:codeK P (X f) fn.ntmps rest=some k):Calls P f A W R:=by
 intro cs
 obtain ⟨b,hbd⟩:∃ b:Frame,b={ (default:Frame) with fn:=f,kind:=.normal }:=⟨_,rfl⟩
 have hr:b.roundOf=none:=by rw [hbd];rfl
 have henter:Frame.enter P f A .normal=b.at { tmps:=A++Array.replicate (fn.ntmps - A.size) undef,defers:=[] } [.code (.seq c0 (.seq c1 rest))]:=by
  rw [hbd];simp [Frame.enter,Frame.at,hf,hb]
 obtain ⟨e0,a0,w0,q0,ar0⟩:=h b [.code (.seq c1 rest)] cs
 cases e0<;>simp only [Exit.then] at q0
 obtain ⟨e1,a1,w1,q1,ar1⟩:=q0 b [.code rest] cs
 cases e1<;>simp only [Exit.then] at q1
 obtain ⟨ρ,L,s,v,s',hact,hclean,hs,hfin,hR⟩:=q1
 have st1:Steps P (lone (Frame.enter P f A .normal) cs W) (lone (b.atR a1 [.code rest]) cs w1):=by
  rw [henter,Frame.atR_of_none hr]
  exact (Steps.head step_seq ar0).trans (Steps.head step_seq ar1)
 have hctx:CtxRel ρ ⟨f,none,fn.ntmps,X f⟩ b:=⟨by rw [hbd],by rw [hbd],fun _=>hr,fun l e=>by cases e⟩
 generalize hr2:k cl ⟨f,none,fn.ntmps,X f⟩ L [] s=r at hfin
 cases r with
 | fail=>cases hfin
 | done e L1 d s₁ =>
  obtain ⟨ρ₁,a₁,W₁,af,ha₁,_,_,st⟩:=codeK_sound rest hk hc rfl rfl hctx hact hclean hs hr2
  have fin:∀ (hle:leaveA P fn.results.toList L1 d s₁=.val v s') (hst:∃ t,Steps P (lone (Frame.enter P f A .normal) cs W) (lone (back b a₁ t) cs W₁)),
    ∃ V w' fr,R (.returned V) w'∧Steps P (lone (Frame.enter P f A .normal) cs W) (lone fr cs w')∧fr.fn=f∧fr.leaving P w' (.returned V):=by
   intro hle hst
   obtain ⟨V,W₂,af₂,hv,st₂⟩:=leaveA_calls ha₁ af.rel hle
   obtain ⟨t,st₁⟩:=hst
   obtain ⟨fr,h1,h2,h3⟩:=st₂ b (by rw [hbd]) (by rw [hbd];exact hf) t cs
   exact ⟨V,W₂,fr,hR _ _ _ (af.trans af₂) hv,Steps.trans st₁ h1,by rw [h2,hbd],h3⟩
  cases e with
  | exit id=>cases hfin
  | norm =>
   have z:=st [] cs
   obtain ⟨V,w',fr,h1,h2,h3,h4⟩:=fin hfin ⟨[],st1.trans (Steps.trans z (.one (stepR_end hr)))⟩
   exact ⟨.returned V,w',fr,h1,h2,h3,h4⟩
  | ret =>
   obtain ⟨k0,z⟩:=st [] cs
   obtain ⟨V,w',fr,h1,h2,h3,h4⟩:=fin hfin ⟨.code .ret::k0,st1.trans (z.trans (.one (stepR_ret hr)))⟩
   exact ⟨.returned V,w',fr,h1,h2,h3,h4⟩
end Go.Abs
set_option maxRecDepth 10000
namespace Go.Proofs.Ytfekafjfidohdaa.walk
open Go.Abs Go.RowKit Go.Proofs.Ytfekafjfidohdaa.code
noncomputable def die0 (F:Int):St:=St.new ⟨.nil,0,far⟩ (.cells [.int .u64 F] (tag 63))
def rho0 (d:Nat):Rho:=fun b=>if b=0 then some (d,(0,0)) else none
theorem die0_get {F:Int} {b:Nat} {o:AObj} (h:(die0 F).h.get b=some o):b=0∧o=.cells [.int .u64 F] (tag 63):=by
 by_cases e:b=0
 ·subst e
  have:(die0 F).h.get 0=some (.cells [.int .u64 F] (tag 63)):=get_new_eq _ _ _ rfl (by decide)
  rw [this] at h
  exact ⟨rfl,(Option.some.inj h).symm⟩
 ·unfold die0 at h
  rw [get_new_ne _ _ _ e] at h
  cases h
theorem die0_has {F:Int} {b x:Nat} {o:AObj} (h:Has (die0 F).h b x o):b=0∧x=0∧o=.cells [.int .u64 F] (tag 63):=by
 obtain ⟨y,hy,hp⟩:=h
 obtain ⟨rfl,rfl⟩:=die0_get hy
 have hl:AObj.lone (.cells [.int .u64 F] (tag 63)):=trivial
 rw [parts_lone hl] at hp
 have:=List.mem_singleton.mp hp
 cases this
 exact ⟨rfl,rfl,rfl⟩
theorem die0_rel {F:Int} {d:Nat} {W:World} (h:W.heap[d]? = some (.cells #[.int .u64 F] 63 (0,0))):SRel (rho0 d) (die0 F) W:=by
 refine ⟨⟨fun b o hb=>?_,fun b x o hb=>?_,fun b b' x x' o o' c e e' hb hb' _ _=>?_,fun g cs hg=>(by cases hg),fun b x o c e hb hr=>rfl,fun b x x' o o' c e e' hb hb' hr hr'=>?_⟩,fun b hb=>?_⟩
 ·rw [(die0_get hb).1];decide
 ·obtain ⟨rfl,rfl,rfl⟩:=die0_has hb
  exact ⟨d,(0,0),_,if_pos rfl,h,.cells rfl (.cons (.int _ _) .nil) (Typed.tag _)⟩
 ·rw [(die0_has hb).1,(die0_has hb').1]
 ·obtain ⟨_,rfl,_⟩:=die0_has hb
  obtain ⟨_,rfl,_⟩:=die0_has hb'
  rw [hr] at hr'
  cases hr'
  rfl
 ·have:1≤b:=hb
  exact if_neg (by omega)
end Go.Proofs.Ytfekafjfidohdaa.walk
set_option maxRecDepth 10000
namespace Go.Proofs.Ytfekafjfidohdaa.walk
open Go.Abs Go.RowKit Go.Proofs.Ytfekafjfidohdaa.code
set_option maxRecDepth 100000 in
theorem sct_calls (a:Option Addr) (n c:Nat) (w:World) (hn:n≤maxLen) (hc:∀ i,i<n→∃ b o,a=some ⟨b,o,none⟩∧∃ v,w.cell? ⟨b,o+i,none⟩=some (.int .i64 v)) :
  Calls Try.prog 3 #[.slice a n c] w fun e w'=>e=.returned (.bool true)∧Below w.heap.size w w':=by
 have HC:=Lib.hid hc
 clear hc
 refine mid_calls (cl:=knows 13 (call Try.prog X 20)) (knows_sound (call_sound 200) Try.func13 awake.entered (call_sound 20)) Try.func3 rfl (X:=X) (k:=sctRest) ?_ (by kernel_rfl)
 simp only [Try.ntmps3,List.size_toArray,List.length_cons,List.length_nil,Nat.reduceAdd,Nat.reduceSub,Array.replicate_succ,Array.replicate_zero,List.push_toArray,List.append_toArray,List.nil_append,List.cons_append]
 go_wp2_with (go_at_call 6;((with_reducible refine (mdie.born _ _ _ _ hn HC.out).mono ?_);rintro e w1 ⟨rfl,hB1,⟨F,hF⟩,hg1⟩))
 have hd0:walk.Die 0 (die0 F).h:=⟨F,get_new_eq _ _ _ rfl (by decide)⟩
 obtain ⟨s',hs'⟩:=sct_body 20 (by omega) ⟨3,none,Try.f3.ntmps,X 3⟩ (die0 F) 0 hd0 (by show 0<1;omega) (by show 1+9000000≤1000000000;omega) rfl
 refine ⟨rho0 w.heap.size,.cons 3 (.ptr 0 0) .nil,die0 F,.bool true,s',⟨fun t=>?_,rfl,.nil⟩,fun t ht=>?_,die0_rel hF,hs',fun ρ' V W' af hv=>?_⟩
 ·by_cases e:t=3
  ·subst e
   exact .ptr (e:=(0,0)) (if_pos rfl)
  ·rw [show (Env.cons 3 (.ptr 0 0) .nil).find t=AV.bad by rw [find_cons,if_neg (by omega)];rfl]
   exact .bad _
 ·by_cases e:t=3
  ·subst e
   have hx:(X 3).contains 3=true:=by kernel_rfl
   rw [hx] at ht
   cases ht
  ·rw [find_cons,if_neg (by omega)];rfl
 ·cases hv
  refine ⟨rfl,hB1.trans ⟨af.os,af.tape,af.output,af.size,fun k hk=>af.frame k (by omega) fun b x o e hb hr=>?_⟩⟩
  obtain ⟨_,rfl,_⟩:=die0_has hb
  have hr:some (w.heap.size,(0,0))=some (k,e):=hr
  injection hr with hr
  injection hr with hr _
  omega
end Go.Proofs.Ytfekafjfidohdaa.walk
