/- The law ColdFewest: its body behind its die, whole. -/
import Derived.Test.YtkoefjgapmonaaaM7
import Derived.Test.YtkoefjgapmonaaaProg
import Derived.Tactics
import Derived.Tactics2
import Derived.WalkKit
import Derived.OpenShut
import Derived.Below
import Derived.Lib.Hide
import Derived.KernelRfl
import Derived.Deep.RegionHeld3
import Derived.OwnWalk
import Derived.StillTailTactics
import Derived.Test.YtkoefjgapmonaaaAbsTop
import Derived.Test.YtkoefjgapmonaaaAbsWalk
import Derived.Test.YtkoefjgapmonaaaAwake
import Derived.Test.YtkoefjgapmonaaaWalkAll
set_option linter.unusedSimpArgs false
set_option linter.unusedVariables false
set_option maxHeartbeats 16000000
set_option linter.unusedVariables false
set_option maxRecDepth 10000
namespace Go.Proofs.Ytkoefjgapmonaaa.walk
open Go.Abs Go.Proofs.Ytkoefjgapmonaaa.code
def notIn (A:List Nat) (M:List (List Nat)) (i:Nat):Bool:=!decide (A ∈ M.take i)
theorem notIn_succ {A:List Nat} {M:List (List Nat)} {i:Nat} (h:i<M.length):notIn A M (i+1)=(notIn A M i && !decide (M[i]=A)):=by
 unfold notIn
 have e:(A ∈ M.take (i+1))↔(A ∈ M.take i∨M[i]=A):=by
  rw [take_snoc h,List.mem_append,List.mem_singleton]
  exact ⟨fun h=>h.imp id Eq.symm,fun h=>h.imp id Eq.symm⟩
 by_cases h1:A ∈ M.take i<;>by_cases h2:M[i]=A<;>simp [e,h1,h2]
theorem numL_nat {vs:List Int} (h:∀ w ∈ vs,0≤w):numL (vs.map Int.toNat)=vs:=by
 unfold numL
 rw [List.map_map]
 conv=>rhs;rw [← List.map_id vs]
 refine List.map_congr_left fun w hw=>?_
 show ((w.toNat:Nat):Int)=w
 exact Int.toNat_of_nonneg (h w hw)
theorem stays_fill {c:Cellar} (ok:c.Ok) (hfl:c.fills.length≤10) {b uN:Nat} (hb:b<c.boxes.length) {g:Int} (hg0:1≤g∧g≤100000) {vs:List Int} {ns:List Nat} (hv0:vs≠[]) (hv2:vs.length≤2) (hin:∀ w ∈ vs,0≤w∧w≤239) (hlen:vs.length=ns.length) (hn5:∀ n ∈ ns,n≤5) (hsort:vs.Pairwise (·<·)):staysB (c.scooped b g vs ns) b uN=okF g (uN:Int) vs (c.box b).start (boxFills c b) ns:=by
 have e:=numL_nat fun w hw=>(hin w hw).1
 have hs':(vs.map Int.toNat).Pairwise (·<·):=List.pairwise_map.mpr (hsort.imp_of_mem fun ha hb h=>by have:=(hin _ ha).1;have:=(hin _ hb).1;omega)
 have:=stays_okF ok hfl hb (uN:=uN) hg0 (vs:=vs.map Int.toNat) (ns:=ns) (fun h=>hv0 (List.map_eq_nil_iff.mp h)) (by rw [List.length_map];exact hv2) (by rw [e];exact hin) (by rw [List.length_map];exact hlen) hn5 hs' (by rw [e];exact hsort)
 rwa [e] at this
theorem cf_tail (n:Nat) (hn:30≤n) (cx:Ctx) {t:St} {L:Env} {p4 bv b uN lo0 n0:Nat} {c:Cellar} {v1 v2 v3 rv:AV} {vs:List Int} {g e:Int} (ok:c.Ok) (hfl:c.fills.length≤10) (hb:b<c.boxes.length) (hC:CellarNew t.h lo0 n0 c v1 v2 v3) (hn0:n0≤t.n) (hp4:p4<t.n) (g4:t.h.get p4=some (.cells [.int .i64 c.hl,.int .i64 c.hh,v1,v2,v3] (tag 31))) (gv:∃ sz,t.h.get bv=some (.cells (ints vs).flatten sz)) (hbv:bv<t.n) (hv0:vs≠[]) (hv2:vs.length≤2) (hsort:vs.Pairwise (·<·)) (hin:∀ w ∈ vs,0≤w∧w≤239) (hg:1≤g∧g≤100000) (hu:uN≤240) (hA:RowsAt t.h t.n 1 (ints (numL ((fillC c b g uN vs).getD []))) rv) (he:e=if (fillC c b g uN vs).isSome then 0 else 3) (hs:t.n+1100000≤far)
  (l4:L.find 4=.ptr p4 0) (l5:L.find 5=.int .i64 (b:Int)) (l6:L.find 6=.slice bv 0 vs.length vs.length true) (l7:L.find 7=.int .i64 g) (l8:L.find 8=.int .i64 (uN:Int)) (l9:L.find 9=rv) (l10:L.find 10=.int .i64 e) :
  ∃ s',finA Try.prog Try.f3 (cfTail (awc n) cx L [] t)=.val (.bool true) s':=by
 have hff:far=1000000000:=rfl
 have knAll:∀ args s,awc n (.fn 14) args s=call Try.prog X n (.fn 14) args s:=fun _ _=>rfl
 have knA:∀ s,awc n (.fn 6) [] s=.val (.bool true) s:=fun _=>rfl
 have okV:∀ t,okA (.val (.slice bv 0 vs.length vs.length true) t)=.val (.slice bv 0 vs.length vs.length true) t:=fun _=>rfl
 have ll:∀ s,lenSlA s (.slice bv 0 vs.length vs.length true)=.val (.int .i64 (vs.length:Int)) s:=fun _=>rfl
 obtain ⟨F1,hF1⟩:∃ F1,F1=fillC c b g uN vs:=⟨_,rfl⟩
 rw [← hF1] at hA he
 obtain ⟨A,hAe⟩:∃ A,A=F1.getD []:=⟨_,rfl⟩
 rw [← hAe] at hA
 have hA2:A.length≤2∧∀ x ∈ A,x≤5:=by
  cases hF:F1 with
  | none=>rw [hAe,hF];exact ⟨Nat.zero_le _,fun x hx=>by cases hx⟩
  | some l =>
   have:=(few_some (hF1.symm.trans hF)).1
   obtain ⟨q1,q2⟩:=sufL_mem _ _ this
   rw [hAe,hF]
   exact ⟨by show l.length≤2;omega,q2⟩
 unfold cfTail
 simp (disch:=first|omega|(with_unfolding_all exact rfl)|(simp only[new_n,put_n,new_m];omega)|(refine put_m_le ?_;simp only[new_m];omega)) only [K3r12,Abs.W,reduceIte,Nat.reduceEqDiff,Nat.reduceAdd,decide_true,decide_false,kLoop_def,Nat.reduceSub,List.cons_append,List.nil_append,List.append_nil,List.length_cons,List.length_nil,Env.find_set,l6,okV,ll,knAll]
 generalize hc1:call _ _ _ (.fn 14) _ _=r1
 have hsz:allSz vs.length≤2000:=by
  have h012:vs.length=0∨vs.length=1∨vs.length=2:=by omega
  rcases h012 with h | h | h<;>rw [h]<;>decide
 have hc1':call Try.prog X n (.fn 14) [.nilslice,.int .i64 ((([]:List Nat).length+vs.length:Nat):Int)] t=r1:=by
  rw [List.length_nil,Nat.zero_add];exact hc1
 obtain ⟨b2,w,t1,rfl,st1,hT,hb2⟩:=all_ex vs.length (no:=fun _=>True) (pre:=[]) hc1' (by omega) (by rw [List.length_nil];omega) (Sl.nil _ _ _ _) (by omega)
 have n1:=st1.n
 have k1:=st1.le
 rw [lists_nil] at hT
 have kvW:=hT.okA
 have hTl:(numT (sufL vs.length)).length=(sufL vs.length).length:=by unfold numT;rw [List.length_map]
 have lvW:∀ s,lenSlA s w=.val (.int .i64 ((sufL vs.length).length:Int)) s:=fun s=>by rw [hT.len s,hTl]
 have hMl:(sufL vs.length).length≤100:=by
  rw [← lists_nil,lists_few]
  have h012:vs.length=0∨vs.length=1∨vs.length=2:=by omega
  rcases h012 with h | h | h<;>rw [h]<;>decide
 have hM:∀ l ∈ sufL vs.length,l.length=vs.length∧∀ x ∈ l,x≤5:=sufL_mem vs.length
 obtain ⟨M,hMe⟩:∃ M,M=sufL vs.length:=⟨_,rfl⟩
 rw [← hMe] at hT lvW hMl hM
 have back:∀ x,x<t.n→t1.h.get x=t.h.get x:=st1.same
 have hC1:CellarNew t1.h lo0 n0 c v1 v2 v3:=hC.mono (fun x _ h=>back x (by omega)) (Nat.le_refl _)
 have hA1:RowsAt t1.h t1.n 1 (ints (numL A)) rv:=hA.grow back n1
 have he3:e=0∨e=3:=by rw [he];cases F1<;>simp
 have hno:∀ i (hi:i<M.length),¬ (e=0∧(A.sum<(M[i]).sum∨(M[i]).sum=A.sum∧(notIn A M i && !decide (M[i]=A))=false))→staysB (c.scooped b g vs M[i]) b uN=false:=fun i hi hneg=>by
  have hmem:M[i] ∈ M:=List.getElem_mem hi
  obtain ⟨m1,m2⟩:=hM _ hmem
  rw [stays_fill ok hfl hb hg hv0 hv2 hin m1.symm m2 hsort]
  cases hF:F1 with
  | none=>exact few_none (hF1.symm.trans hF) _ (by rw [← hMe];exact hmem)
  | some l =>
   have hAl:A=l:=by rw [hAe,hF];rfl
   obtain ⟨_,_,h3⟩:=few_some (hF1.symm.trans hF)
   cases hk:okF g (uN:Int) vs (c.box b).start (boxFills c b) M[i] with
   | false=>rfl
   | true =>
    exfalso
    have hsp:sufL vs.length=M.take i++M[i]::M.drop (i+1):=by rw [← hMe,List.getElem_cons_drop];exact (List.take_append_drop i M).symm
    have:=h3 _ _ _ hsp hk
    refine hneg ⟨by rw [he,hF];rfl,?_⟩
    rw [hAl]
    rcases this with h | ⟨h,hm⟩
    ·exact .inl h
    ·refine .inr ⟨h.symm,?_⟩
     rw [← notIn_succ hi]
     unfold notIn
     rw [take_snoc hi,decide_eq_true hm];rfl
 simp (disch:=first|omega|(with_unfolding_all exact rfl)|(simp only[new_n,put_n,new_m];omega)|(refine put_m_le ?_;simp only[new_m];omega)) only [K3r13,K3r14,Abs.W,reduceIte,Nat.reduceEqDiff,Nat.reduceAdd,decide_true,decide_false,kLoop_def,Nat.reduceSub,List.cons_append,List.nil_append,List.append_nil,List.length_cons,List.length_nil,Env.find_set,kvW]
 generalize hlp:loopN _ rounds _ _ _ _ _=q1
 obtain ⟨e1,L1,s1,rfl,rfl,rfl,f10,f14⟩:=loop_of hlp (fun i L' t'=>t'=t1∧CfEnv L' p4 b bv vs.length uN g rv w e (notIn A M i) i)
  (fun e1 L' t'=>e1=.exit 0∧t'=t1∧L'.find 10=.int .i64 e∧L'.find 14=.bool (notIn A M M.length)) M.length (by unfold rounds;omega)
  ⟨rfl,by simp only [find_cons,Env.find_set,l4,reduceIte,Nat.reduceEqDiff],by simp only [find_cons,Env.find_set,l5,reduceIte,Nat.reduceEqDiff],by simp only [find_cons,Env.find_set,l6,reduceIte,Nat.reduceEqDiff],by simp only [find_cons,Env.find_set,l7,reduceIte,Nat.reduceEqDiff],by simp only [find_cons,Env.find_set,l8,reduceIte,Nat.reduceEqDiff],by simp only [find_cons,Env.find_set,l9,reduceIte,Nat.reduceEqDiff],by simp only [find_cons,Env.find_set,l10,reduceIte,Nat.reduceEqDiff],by simp only [find_cons,Env.find_set,reduceIte,Nat.reduceEqDiff],by simp only [find_cons,Env.find_set,reduceIte,Nat.reduceEqDiff];rfl,by simp only [find_cons,Env.find_set,reduceIte,Nat.reduceEqDiff];rfl⟩
  (fun i L' t' hi ⟨ht,E⟩=>by
   subst ht
   by_cases hlt:i<M.length
   ·obtain ⟨L2,w1,w2⟩:=cf_round n hn cx ok hfl hb hC1 (by omega) ((back p4 hp4).trans g4) (by rw [back bv hbv];exact gv) (by omega) hv2 hsort hin hg hu hA1 hA2.1 hA2.2 (by omega) hT hM hMl hlt E he3 (hno i hlt)
    rw [← notIn_succ hlt] at w2
    exact .inl ⟨hlt,L2,_,w1,rfl,w2⟩
   ·obtain rfl:i=M.length:=by omega
    obtain ⟨l4,l5,l6,l7,l8,l9,l10,l13,l14,l15⟩:=E
    have e0:decide ((M.length:Int)<(M.length:Int))=false:=by simp
    refine .inr ⟨.exit 0,_,_,by simp,by
     simp (disch:=first|omega|(with_unfolding_all exact rfl)|(simp only[new_n,put_n,new_m];omega)|(refine put_m_le ?_;simp only[new_m];omega)) only [K3l0,res3,K3r0,K3r1,K3r2,K3r3,K3r4,K3r5,K3r6,K3r7,K3r8s24,K3r8s23,K3r8s22,K3r8s21,K3r8s20,K3r8s19,K3r8s18,K3r8s17,K3r8s16,K3r8s13,K3r8s12,K3r8s11,K3r8s10,K3r8s9,K3r8s8,K3r8s5,K3r8s4,K3r8,K3r9,K3r10s18,K3r10s17,K3r10s16,K3r10s15,K3r10s14,K3r10s13,K3r10s12,K3r10s11,K3r10s10,K3r10s9,K3r10s8,K3r10s7,K3r10s6,K3r10s5,K3r10s4,K3r10,K3r11,K3r12,K3r13,K3r14,K3r15,K3r16s9,K3r16s8,K3r16s7,K3r16s6,K3r16s5,K3r16s4,K3r16s3,K3r16,K3r17,K3r18s15,K3r18s14,K3r18s13,K3r18s12,K3r18s11,K3r18s10,K3r18s9,K3r18s8,K3r18s7,K3r18s6,K3r18s5,K3r18s4,K3r18,K3r19,K3r20,K3r21,K3r22s8,K3r22s5,K3r22s4,K3r22,K3,Abs.W,reduceIte,Nat.reduceEqDiff,Nat.reduceAdd,decide_true,decide_false,kLoop_def,Nat.reduceSub,List.cons_append,List.nil_append,List.append_nil,List.length_cons,List.length_nil,Env.find_set,l13,l15,e0,kvW,lvW]
     rfl,rfl,rfl,?_,?_⟩
    ·simp only [Env.find_set,find_cons,l10,reduceIte,Nat.reduceEqDiff]
    ·simp only [Env.find_set,find_cons,l14,reduceIte,Nat.reduceEqDiff])
 have d30:decide ((3:Int)=0)=false:=rfl
 have d00:decide ((0:Int)=0)=true:=rfl
 have nF:∀ s,notA s (.bool false)=.val (.bool true) s:=fun _=>rfl
 cases hF:F1 with
 | none =>
  have:e=3:=by rw [he,hF];rfl
  subst this
  simp (disch:=first|omega|(with_unfolding_all exact rfl)|(simp only[new_n,put_n,new_m];omega)|(refine put_m_le ?_;simp only[new_m];omega)) only [res3,K3r0,K3r1,K3r2,K3r3,K3r4,K3r5,K3r6,K3r7,K3r8s24,K3r8s23,K3r8s22,K3r8s21,K3r8s20,K3r8s19,K3r8s18,K3r8s17,K3r8s16,K3r8s13,K3r8s12,K3r8s11,K3r8s10,K3r8s9,K3r8s8,K3r8s5,K3r8s4,K3r8,K3r9,K3r10s18,K3r10s17,K3r10s16,K3r10s15,K3r10s14,K3r10s13,K3r10s12,K3r10s11,K3r10s10,K3r10s9,K3r10s8,K3r10s7,K3r10s6,K3r10s5,K3r10s4,K3r10,K3r11,K3r12,K3r13,K3r14,K3r15,K3r16s9,K3r16s8,K3r16s7,K3r16s6,K3r16s5,K3r16s4,K3r16s3,K3r16,K3r17,K3r18s15,K3r18s14,K3r18s13,K3r18s12,K3r18s11,K3r18s10,K3r18s9,K3r18s8,K3r18s7,K3r18s6,K3r18s5,K3r18s4,K3r18,K3r19,K3r20,K3r21,K3r22s8,K3r22s5,K3r22s4,K3r22,K3,Abs.W,reduceIte,Nat.reduceEqDiff,Nat.reduceAdd,decide_true,decide_false,kLoop_def,Nat.reduceSub,List.cons_append,List.nil_append,List.append_nil,List.length_cons,List.length_nil,Env.find_set,f10,f14,d30,d00,knA]
  exact ⟨_,rfl⟩
 | some l =>
  have:e=0:=by rw [he,hF];rfl
  subst this
  have hAl:A=l:=by rw [hAe,hF];rfl
  have hl:=(few_some (hF1.symm.trans hF)).1
  have hnot:notIn A M M.length=false:=by
   unfold notIn
   rw [List.take_length,hAl,hMe,decide_eq_true hl];rfl
  rw [hnot] at f14
  simp (disch:=first|omega|(with_unfolding_all exact rfl)|(simp only[new_n,put_n,new_m];omega)|(refine put_m_le ?_;simp only[new_m];omega)) only [res3,K3r0,K3r1,K3r2,K3r3,K3r4,K3r5,K3r6,K3r7,K3r8s24,K3r8s23,K3r8s22,K3r8s21,K3r8s20,K3r8s19,K3r8s18,K3r8s17,K3r8s16,K3r8s13,K3r8s12,K3r8s11,K3r8s10,K3r8s9,K3r8s8,K3r8s5,K3r8s4,K3r8,K3r9,K3r10s18,K3r10s17,K3r10s16,K3r10s15,K3r10s14,K3r10s13,K3r10s12,K3r10s11,K3r10s10,K3r10s9,K3r10s8,K3r10s7,K3r10s6,K3r10s5,K3r10s4,K3r10,K3r11,K3r12,K3r13,K3r14,K3r15,K3r16s9,K3r16s8,K3r16s7,K3r16s6,K3r16s5,K3r16s4,K3r16s3,K3r16,K3r17,K3r18s15,K3r18s14,K3r18s13,K3r18s12,K3r18s11,K3r18s10,K3r18s9,K3r18s8,K3r18s7,K3r18s6,K3r18s5,K3r18s4,K3r18,K3r19,K3r20,K3r21,K3r22s8,K3r22s5,K3r22s4,K3r22,K3,Abs.W,reduceIte,Nat.reduceEqDiff,Nat.reduceAdd,decide_true,decide_false,kLoop_def,Nat.reduceSub,List.cons_append,List.nil_append,List.append_nil,List.length_cons,List.length_nil,Env.find_set,f10,f14,d30,d00,nF,knA]
  exact ⟨_,rfl⟩
theorem cf_body (n:Nat) (hn:30≤n) (cx:Ctx) (s:St) (d:Nat) (hd:Die d s.h) (hdn:d<s.n) (hs:s.n+3000000≤far) :
  ∃ s',finA Try.prog Try.f3 (cfRest (awc n) cx (.cons 3 (.ptr d 0) .nil) [] s)=.val (.bool true) s':=by
 have hff:far=1000000000:=rfl
 have knCellarOf:∀ args s,awc n (.fn 5) args s=call Try.prog X n (.fn 5) args s:=fun _ _=>rfl
 have knCast:∀ args s,awc n (.fn 7) args s=call Try.prog X n (.fn 7) args s:=fun _ _=>rfl
 have knFrom:∀ args s,awc n (.fn 9) args s=call Try.prog X n (.fn 9) args s:=fun _ _=>rfl
 have knOne:∀ args s,awc n (.fn 10) args s=call Try.prog X n (.fn 10) args s:=fun _ _=>rfl
 have knVis:∀ args s,awc n (.fn 8) args s=call Try.prog X n (.fn 8) args s:=fun _ _=>rfl
 have knFill:∀ args s,awc n (.fn 11) args s=call Try.prog X n (.fn 11) args s:=fun _ _=>rfl
 have knTot:∀ args s,awc n (.fn 12) args s=call Try.prog X n (.fn 12) args s:=fun _ _=>rfl
 have knStay:∀ args s,awc n (.fn 13) args s=call Try.prog X n (.fn 13) args s:=fun _ _=>rfl
 have knAll:∀ args s,awc n (.fn 14) args s=call Try.prog X n (.fn 14) args s:=fun _ _=>rfl
 have knSame:∀ args s,awc n (.fn 15) args s=call Try.prog X n (.fn 15) args s:=fun _ _=>rfl
 have knA:∀ s,awc n (.fn 6) [] s=.val (.bool true) s:=fun _=>rfl
 unfold cfRest
 simp (disch:=first|omega|(with_unfolding_all exact rfl)|(simp only[new_n,put_n,new_m];omega)|(refine put_m_le ?_;simp only[new_m];omega)) only [K3r2,Abs.W,reduceIte,Nat.reduceEqDiff,Nat.reduceAdd,decide_true,decide_false,kLoop_def,Nat.reduceSub,List.cons_append,List.nil_append,List.append_nil,List.length_cons,List.length_nil,Env.find_set,knCellarOf]
 generalize hc1:call _ _ _ (.fn 5) _ _=r1
 obtain ⟨c,v1,v2,v3,t1,rfl,st1,d1,⟨ok,tame⟩,hC⟩:=CellarOf_tame 2 3 hc1 (by omega) (by omega) (by omega) hd hdn (by omega)
 have n1:s.n≤t1.n:=st1.n
 have k1:t1.n≤s.n+1000:=st1.le
 obtain ⟨ok1,c1,sc1⟩:=hC.b.scalar
 obtain ⟨ok2,c2,sc2⟩:=hC.f.scalar
 obtain ⟨ok3,c3,sc3⟩:=hC.r.scalar
 have len1:=hC.b.at_.len
 rw [List.length_map] at len1
 have hfl:c.fills.length≤10:=by have:=tame.f;omega
 simp (disch:=first|omega|(with_unfolding_all exact rfl)|(simp only[new_n,put_n,new_m];omega)|(refine put_m_le ?_;simp only[new_m];omega)) only [K3r2,Abs.W,reduceIte,Nat.reduceEqDiff,Nat.reduceAdd,decide_true,decide_false,kLoop_def,Nat.reduceSub,List.cons_append,List.nil_append,List.append_nil,List.length_cons,List.length_nil,Env.find_set,find_cons,sc1,sc2,sc3,scal_nil]
 obtain ⟨y,hy⟩:∃ y:St,y=(t1.new (.cells [.int .i64 0,.int .i64 0,.nilslice,.nilslice,.nilslice] (tag 31))).put t1.n (.cells [.int .i64 c.hl,.int .i64 c.hh,v1,v2,v3] (tag 31)):=⟨_,rfl⟩
 rw [← hy]
 have yn:y.n=t1.n+1:=by rw [hy];rfl
 have yg:∀ c,c≠t1.n→y.h.get c=t1.h.get c:=fun c hc=>by rw [hy,get_put_ne' _ _ _ _ hc,get_new_ne _ _ _ hc]
 have y4:y.h.get t1.n=some (.cells [.int .i64 c.hl,.int .i64 c.hh,v1,v2,v3] (tag 31)):=by rw [hy];exact get_put_eq _ _ _ _ rfl (by omega)
 have dy:Die d y.h:=by obtain ⟨f,hg⟩:=d1;exact ⟨f,by rw [yg _ (by omega)];exact hg⟩
 have hCy:CellarNew y.h (s.n+1) t1.n c v1 v2 v3:=hC.mono (fun x _ h=>yg x (by omega)) (Nat.le_refl _)
 by_cases hb0:c.boxes.length=0
 ·have e0:decide ((c.boxes.length:Int)=0)=true:=decide_eq_true (by omega)
  simp (disch:=first|omega|(with_unfolding_all exact rfl)|(simp only[new_n,put_n,new_m];omega)|(refine put_m_le ?_;simp only[new_m];omega)) only [res3,K3r0,K3r1,K3r2,K3r3,K3r4,K3r5,K3r6,K3r7,K3r8s24,K3r8s23,K3r8s22,K3r8s21,K3r8s20,K3r8s19,K3r8s18,K3r8s17,K3r8s16,K3r8s13,K3r8s12,K3r8s11,K3r8s10,K3r8s9,K3r8s8,K3r8s5,K3r8s4,K3r8,K3r9,K3r10s18,K3r10s17,K3r10s16,K3r10s15,K3r10s14,K3r10s13,K3r10s12,K3r10s11,K3r10s10,K3r10s9,K3r10s8,K3r10s7,K3r10s6,K3r10s5,K3r10s4,K3r10,K3r11,K3r12,K3r13,K3r14,K3r15,K3r16s9,K3r16s8,K3r16s7,K3r16s6,K3r16s5,K3r16s4,K3r16s3,K3r16,K3r17,K3r18s15,K3r18s14,K3r18s13,K3r18s12,K3r18s11,K3r18s10,K3r18s9,K3r18s8,K3r18s7,K3r18s6,K3r18s5,K3r18s4,K3r18,K3r19,K3r20,K3r21,K3r22s8,K3r22s5,K3r22s4,K3r22,K3,Abs.W,reduceIte,Nat.reduceEqDiff,Nat.reduceAdd,decide_true,decide_false,kLoop_def,Nat.reduceSub,List.cons_append,List.nil_append,List.append_nil,List.length_cons,List.length_nil,Env.find_set,find_cons,y4,ok1,len1,e0,knA,Nat.zero_add]
  exact ⟨_,rfl⟩
 have e0:decide ((c.boxes.length:Int)=0)=false:=decide_eq_false (by omega)
 simp (disch:=first|omega|(with_unfolding_all exact rfl)|(simp only[new_n,put_n,new_m];omega)|(refine put_m_le ?_;simp only[new_m];omega)) only [K3r3,K3r5,Abs.W,reduceIte,Nat.reduceEqDiff,Nat.reduceAdd,decide_true,decide_false,kLoop_def,Nat.reduceSub,List.cons_append,List.nil_append,List.append_nil,List.length_cons,List.length_nil,Env.find_set,find_cons,y4,ok1,len1,e0,knCast,Nat.zero_add]
 generalize hc2:call _ _ _ (.fn 7) _ _=r2
 obtain ⟨x2,t2,rfl,st2,d2,x20,x21⟩:=cast_ex hc2 (by omega) dy (by omega) (by omega) (by have:=tame.b;omega)
 have n2:y.n≤t2.n:=st2.n
 have k2:t2.n≤y.n:=st2.le
 obtain ⟨b,hbx⟩:∃ b:Nat,x2=(b:Int):=⟨x2.toNat,by omega⟩
 subst hbx
 have hb:b<c.boxes.length:=by omega
 simp (disch:=first|omega|(with_unfolding_all exact rfl)|(simp only[new_n,put_n,new_m];omega)|(refine put_m_le ?_;simp only[new_m];omega)) only [Abs.W,reduceIte,Nat.reduceEqDiff,Nat.reduceAdd,decide_true,decide_false,kLoop_def,Nat.reduceSub,List.cons_append,List.nil_append,List.append_nil,List.length_cons,List.length_nil,Env.find_set,find_cons,knVis]
 generalize hc3:call _ _ _ (.fn 8) _ _=r3
 obtain ⟨vs,bv,t3,rfl,st3,d3,bv1,bv2,gv3,hv0,hv2,hsort,hin0⟩:=visitsOf_ex hc3 (by omega) d2 (by omega) (by omega)
 have n3:t2.n≤t3.n:=st3.n
 have k3:t3.n≤t2.n+10:=st3.le
 have hin:∀ w ∈ vs,0≤w∧w≤239:=fun w hw=>by have:=hin0 w hw;omega
 have okV:∀ t,okA (.val (.slice bv 0 vs.length vs.length true) t)=.val (.slice bv 0 vs.length vs.length true) t:=fun _=>rfl
 simp (disch:=first|omega|(with_unfolding_all exact rfl)|(simp only[new_n,put_n,new_m];omega)|(refine put_m_le ?_;simp only[new_m];omega)) only [Abs.W,reduceIte,Nat.reduceEqDiff,Nat.reduceAdd,decide_true,decide_false,kLoop_def,Nat.reduceSub,List.cons_append,List.nil_append,List.append_nil,List.length_cons,List.length_nil,Env.find_set,find_cons,okV,knOne]
 obtain ⟨q,hq⟩:∃ q:St,q=t3.new (.cells [.int .i64 20,.int .i64 200] 0):=⟨_,rfl⟩
 rw [← hq]
 have qn:q.n=t3.n+1:=by rw [hq];rfl
 have qg:∀ c,c<t3.n→q.h.get c=t3.h.get c:=fun c hc=>by rw [hq,get_new_ne _ _ _ (by omega)]
 have q0:q.h.get t3.n=some (.cells [.int .i64 20,.int .i64 200] 0):=by rw [hq];exact get_new_eq _ _ _ rfl (by omega)
 have dq:Die d q.h:=by obtain ⟨f,hg⟩:=d3;exact ⟨f,by rw [qg _ (by omega)];exact hg⟩
 generalize hc4:call _ _ _ (.fn 10) _ _=r4
 obtain ⟨x4,t4,rfl,st4,d4,hx4⟩:=one_ex [20,200] hc4 (by omega) dq (by omega) (by omega) q0 (by omega) (by omega) rfl (by omega) (by omega)
 have n4:q.n≤t4.n:=st4.n
 have k4:t4.n≤q.n:=st4.le
 have hx4':x4=20∨x4=200:=by simpa using hx4
 simp (disch:=first|omega|(with_unfolding_all exact rfl)|(simp only[new_n,put_n,new_m];omega)|(refine put_m_le ?_;simp only[new_m];omega)) only [Abs.W,reduceIte,Nat.reduceEqDiff,Nat.reduceAdd,decide_true,decide_false,kLoop_def,Nat.reduceSub,List.cons_append,List.nil_append,List.append_nil,List.length_cons,List.length_nil,Env.find_set,find_cons,knFrom]
 generalize hc5:call _ _ _ (.fn 9) _ _=r5
 obtain ⟨g,t5,rfl,st5,d5,g0,g1⟩:=from_ex hc5 (by omega) d4 (by omega) (by omega) (by omega) (by omega) (by omega) (by omega)
 have n5:t4.n≤t5.n:=st5.n
 have k5:t5.n≤t4.n:=st5.le
 have hg:1≤g∧g≤100000:=by omega
 simp (disch:=first|omega|(with_unfolding_all exact rfl)|(simp only[new_n,put_n,new_m];omega)|(refine put_m_le ?_;simp only[new_m];omega)) only [Abs.W,reduceIte,Nat.reduceEqDiff,Nat.reduceAdd,decide_true,decide_false,kLoop_def,Nat.reduceSub,List.cons_append,List.nil_append,List.append_nil,List.length_cons,List.length_nil,Env.find_set,find_cons,knFrom]
 generalize hc6:call _ _ _ (.fn 9) _ _=r6
 obtain ⟨x6,t6,rfl,st6,d6,u0,u1⟩:=from_ex hc6 (by omega) d5 (by omega) (by omega) (by omega) (by omega) (by omega) (by omega)
 have n6:t5.n≤t6.n:=st6.n
 have k6:t6.n≤t5.n:=st6.le
 obtain ⟨uN,hux⟩:∃ uN:Nat,x6=(uN:Int):=⟨x6.toNat,by omega⟩
 subst hux
 -- what stands since
 have q6:∀ x,x<q.n→x≠d→t6.h.get x=q.h.get x:=fun x hx hxd=>(st6.same x (by omega) hxd).trans ((st5.same x (by omega) hxd).trans (st4.same x hx hxd))
 have y6:∀ x,x<y.n→x≠d→t6.h.get x=y.h.get x:=fun x hx hxd=>(q6 x (by omega) hxd).trans ((qg x (by omega)).trans ((st3.same x (by omega) hxd).trans (st2.same x hx hxd)))
 have z4:=(y6 t1.n (by omega) (by omega)).trans y4
 have hC6:CellarNew t6.h (s.n+1) t1.n c v1 v2 v3:=hCy.mono (fun x h1 h2=>y6 x (by omega) (by omega)) (Nat.le_refl _)
 have gv6:∃ sz,t6.h.get bv=some (.cells (ints vs).flatten sz):=⟨_,(q6 bv (by omega) (by omega)).trans ((qg bv (by omega)).trans gv3)⟩
 have hIn6:CellarIn t6.h t6.n c v1 v2 v3:=hC6.in_.grow (fun _ _=>rfl) (by omega)
 have okt:∀ (l:List AV) (st:St),okA (.val (.tup l) st)=.val (.tup l) st:=fun _ _=>rfl
 have ex0:∀ (a b:AV) (st:St),extA 0 st (.tup [a,b])=.val a st:=fun _ _ _=>rfl
 have ex1:∀ (a b:AV) (st:St),extA 1 st (.tup [a,b])=.val b st:=fun _ _ _=>rfl
 simp (disch:=first|omega|(with_unfolding_all exact rfl)|(simp only[new_n,put_n,new_m];omega)|(refine put_m_le ?_;simp only[new_m];omega)) only [K3r6,Abs.W,reduceIte,Nat.reduceEqDiff,Nat.reduceAdd,decide_true,decide_false,kLoop_def,Nat.reduceSub,List.cons_append,List.nil_append,List.append_nil,List.length_cons,List.length_nil,Env.find_set,find_cons,z4,sc1,sc2,sc3,scal_nil,okV,knFill,Nat.zero_add]
 generalize hc7:call _ _ _ (.fn 11) _ _=r7
 obtain ⟨rv,t7,rfl,st7,T7⟩:=Fill_ex c ok b hb rfl hc7 (by omega) hIn6 hv0 hv2 (by omega) gv6 hin hsort hg ⟨by omega,by omega⟩ (by omega)
 have n7:=st7.n
 have k7:=st7.le
 have g7:=st7.same
 have hA7:=told_at T7
 have kv7:∀ t,okA (.val rv t)=.val rv t:=fun t=>okA_ne hA7.ne
 have z47:=(g7 t1.n (by omega)).trans z4
 have hIn7:CellarIn t7.h t7.n c v1 v2 v3:=hIn6.grow g7 n7
 have gv7:∃ sz,t7.h.get bv=some (.cells (ints vs).flatten sz):=by rw [g7 bv (by omega)];exact gv6
 have adU:∀ st,aAdd st .i64 (uN:Int) 1=.val (.int .i64 ((uN+1:Nat):Int)) st:=fun st=>aAdd_i64 st _ _ (by omega)
 simp (disch:=first|omega|(with_unfolding_all exact rfl)|(simp only[new_n,put_n,new_m];omega)|(refine put_m_le ?_;simp only[new_m];omega)) only [K3r7,Abs.W,reduceIte,Nat.reduceEqDiff,Nat.reduceAdd,decide_true,decide_false,kLoop_def,Nat.reduceSub,List.cons_append,List.nil_append,List.append_nil,List.length_cons,List.length_nil,Env.find_set,find_cons,okt,ex0,ex1,kv7,z47,sc1,sc2,sc3,scal_nil,okV,knFill,adU,Nat.zero_add]
 generalize hc8:call _ _ _ (.fn 11) _ _=r8
 obtain ⟨rw8,t8,rfl,st8,T8⟩:=Fill_ex c ok b hb rfl hc8 (by omega) hIn7 hv0 hv2 (by omega) gv7 hin hsort hg ⟨by omega,by omega⟩ (by omega)
 have n8:=st8.n
 have k8:=st8.le
 have g8:=st8.same
 have hA8:=told_at T8
 have kv8:∀ t,okA (.val rw8 t)=.val rw8 t:=fun t=>okA_ne hA8.ne
 have hA78:RowsAt t8.h t8.n 1 (ints (numL ((fillC c b g uN vs).getD []))) rv:=hA7.grow g8 n8
 have z48:=(g8 t1.n (by omega)).trans z47
 have gv8:∃ sz,t8.h.get bv=some (.cells (ints vs).flatten sz):=by rw [g8 bv (by omega)];exact gv7
 have hC8:CellarNew t8.h (s.n+1) t1.n c v1 v2 v3:=hC6.mono (fun x h1 h2=>(g8 x (by omega)).trans (g7 x (by omega))) (Nat.le_refl _)
 have d00:decide ((0:Int)=0)=true:=rfl
 have d30:decide ((3:Int)=0)=false:=rfl
 have d33:decide ((3:Int)=3)=true:=rfl
 have d03:decide ((0:Int)=3)=false:=rfl
 have nT:∀ s,notA s (.bool true)=.val (.bool false) s:=fun _=>rfl
 have ll:∀ s,lenSlA s (.slice bv 0 vs.length vs.length true)=.val (.int .i64 (vs.length:Int)) s:=fun _=>rfl
 have tail:∀ (L:Env),(L.find 4=.ptr t1.n 0∧L.find 5=.int .i64 (b:Int)∧L.find 6=.slice bv 0 vs.length vs.length true∧L.find 7=.int .i64 g∧L.find 8=.int .i64 (uN:Int)∧L.find 9=rv∧L.find 10=.int .i64 (if (fillC c b g uN vs).isSome then 0 else 3))→∃ s',finA Try.prog Try.f3 (cfTail (awc n) cx L [] t8)=.val (.bool true) s':=fun L ⟨h4,h5,h6,h7,h8,h9,h10⟩=>cf_tail n hn cx ok hfl hb hC8 (by omega) (by omega) z48 gv8 (by omega) hv0 hv2 hsort hin hg (by omega) hA78 rfl (by omega) h4 h5 h6 h7 h8 h9 h10
 have hmono:∀ ns ∈ sufL vs.length,okF g ((uN+1:Nat):Int) vs (c.box b).start (boxFills c b) ns=true→okF g (uN:Int) vs (c.box b).start (boxFills c b) ns=true:=fun ns hns h=>by
  obtain ⟨m1,m2⟩:=sufL_mem _ _ hns
  rw [← stays_fill ok hfl hb hg hv0 hv2 hin m1.symm m2 hsort] at h ⊢
  unfold staysB at h ⊢
  exact decide_eq_true fun x hx=>of_decide_eq_true h x (by omega)
 cases hF1:fillC c b g uN vs with
 | none =>
  have hF2:fillC c b g ((uN+1:Nat):Int) vs=none:=by
   cases hF2:fillC c b g ((uN+1:Nat):Int) vs with
   | none=>rfl
   | some l =>
    obtain ⟨l1,l2,_⟩:=few_some hF2
    have:=few_none hF1 l l1
    rw [hmono l l1 l2] at this
    cases this
  rw [hF1] at tail
  simp only [Option.isSome_none,Bool.false_eq_true,if_false] at tail
  simp (config:={ maxSteps:=4000000 }) (disch:=first|omega|(with_unfolding_all exact rfl)|(simp only[new_n,put_n,new_m];omega)|(refine put_m_le ?_;simp only[new_m];omega)) only [hF2,Option.isSome_none,Bool.false_eq_true,K3r7,K3r8,res3,K3r0,K3r1,K3r2,K3r3,K3r4,K3r5,K3r6,K3r7,K3r8s24,K3r8s23,K3r8s22,K3r8s21,K3r8s20,K3r8s19,K3r8s18,K3r8s17,K3r8s16,K3r8s13,K3r8s12,K3r8s11,K3r8s10,K3r8s9,K3r8s8,K3r8s5,K3r8s4,K3r8,K3r9,K3r10s18,K3r10s17,K3r10s16,K3r10s15,K3r10s14,K3r10s13,K3r10s12,K3r10s11,K3r10s10,K3r10s9,K3r10s8,K3r10s7,K3r10s6,K3r10s5,K3r10s4,K3r10,K3r11,K3r12,K3r13,K3r14,K3r15,K3r16s9,K3r16s8,K3r16s7,K3r16s6,K3r16s5,K3r16s4,K3r16s3,K3r16,K3r17,K3r18s15,K3r18s14,K3r18s13,K3r18s12,K3r18s11,K3r18s10,K3r18s9,K3r18s8,K3r18s7,K3r18s6,K3r18s5,K3r18s4,K3r18,K3r19,K3r20,K3r21,K3r22s8,K3r22s5,K3r22s4,K3r22,K3,Abs.W,reduceIte,Nat.reduceEqDiff,Nat.reduceAdd,decide_true,decide_false,kLoop_def,Nat.reduceSub,List.cons_append,List.nil_append,List.append_nil,List.length_cons,List.length_nil,Env.find_set,find_cons,okt,ex0,ex1,kv7,kv8,d30,d33,d00,Nat.zero_add]
  exact tail _ ⟨by simp only [find_cons,Env.find_set,reduceIte,Nat.reduceEqDiff],by simp only [find_cons,Env.find_set,reduceIte,Nat.reduceEqDiff],by simp only [find_cons,Env.find_set,reduceIte,Nat.reduceEqDiff],by simp only [find_cons,Env.find_set,reduceIte,Nat.reduceEqDiff],by simp only [find_cons,Env.find_set,reduceIte,Nat.reduceEqDiff],by simp only [find_cons,Env.find_set,reduceIte,Nat.reduceEqDiff],by simp only [find_cons,Env.find_set,reduceIte,Nat.reduceEqDiff]⟩
 | some l =>
  obtain ⟨l1,l2,l3⟩:=few_some hF1
  obtain ⟨m1,m2⟩:=sufL_mem _ _ l1
  have hst:=stays_ok n (by omega) (g:=g) (vs:=vs) (ns:=l) (vn:=rv) (s:=t8) c ok b uN hb (by omega) hC8 (by omega) (by rw [hF1] at hA78;exact hA78) (by omega) gv8 m1.symm hv2 m2 hfl hg hin hsort (by omega)
  rw [stays_fill ok hfl hb hg hv0 hv2 hin m1.symm m2 hsort,l2] at hst
  rw [hF1] at tail hA78
  simp only [Option.isSome_some,if_true] at tail
  have hnl:(numL l).length=l.length:=by unfold numL;rw [List.length_map]
  have lv:∀ s,lenSlA s rv=.val (.int .i64 (vs.length:Int)) s:=fun s=>by have:=rowLen hA78 s;rw [show (numL ((some l).getD [])).length=vs.length by rw [← m1];exact hnl] at this;exact this
  have dl:decide ((vs.length:Int)=(vs.length:Int))=true:=by simp
  have tot1:=total_ok n (by omega) l rv t8 hA78 (by omega) (fun x hx=>by have:=m2 x hx;omega) (by omega)
  cases hF2:fillC c b g ((uN+1:Nat):Int) vs with
  | none =>
   simp (config:={ maxSteps:=4000000 }) (disch:=first|omega|(with_unfolding_all exact rfl)|(simp only[new_n,put_n,new_m];omega)|(refine put_m_le ?_;simp only[new_m];omega)) only [hF2,Option.isSome_none,Option.isSome_some,Bool.false_eq_true,res3,K3r0,K3r1,K3r2,K3r3,K3r4,K3r5,K3r6,K3r7,K3r8s24,K3r8s23,K3r8s22,K3r8s21,K3r8s20,K3r8s19,K3r8s18,K3r8s17,K3r8s16,K3r8s13,K3r8s12,K3r8s11,K3r8s10,K3r8s9,K3r8s8,K3r8s5,K3r8s4,K3r8,K3r9,K3r10s18,K3r10s17,K3r10s16,K3r10s15,K3r10s14,K3r10s13,K3r10s12,K3r10s11,K3r10s10,K3r10s9,K3r10s8,K3r10s7,K3r10s6,K3r10s5,K3r10s4,K3r10,K3r11,K3r12,K3r13,K3r14,K3r15,K3r16s9,K3r16s8,K3r16s7,K3r16s6,K3r16s5,K3r16s4,K3r16s3,K3r16,K3r17,K3r18s15,K3r18s14,K3r18s13,K3r18s12,K3r18s11,K3r18s10,K3r18s9,K3r18s8,K3r18s7,K3r18s6,K3r18s5,K3r18s4,K3r18,K3r19,K3r20,K3r21,K3r22s8,K3r22s5,K3r22s4,K3r22,K3,Abs.W,reduceIte,Nat.reduceEqDiff,Nat.reduceAdd,decide_true,decide_false,kLoop_def,Nat.reduceSub,List.cons_append,List.nil_append,List.append_nil,List.length_cons,List.length_nil,Env.find_set,find_cons,okt,ex0,ex1,kv7,kv8,d30,d33,d00,d03,lv,ll,okV,dl,z48,sc1,sc2,sc3,scal_nil,hst,nT,knStay,knTot,Nat.zero_add]
   exact tail _ ⟨by simp only [find_cons,Env.find_set,reduceIte,Nat.reduceEqDiff],by simp only [find_cons,Env.find_set,reduceIte,Nat.reduceEqDiff],by simp only [find_cons,Env.find_set,reduceIte,Nat.reduceEqDiff],by simp only [find_cons,Env.find_set,reduceIte,Nat.reduceEqDiff],by simp only [find_cons,Env.find_set,reduceIte,Nat.reduceEqDiff],by simp only [find_cons,Env.find_set,reduceIte,Nat.reduceEqDiff],by simp only [find_cons,Env.find_set,reduceIte,Nat.reduceEqDiff]⟩
  | some k =>
   obtain ⟨j1,j2,_⟩:=few_some hF2
   obtain ⟨i1,i2⟩:=sufL_mem _ _ j1
   obtain ⟨a,dd,hsp⟩:=List.append_of_mem j1
   have hle:l.sum≤k.sum:=by
    rcases l3 a k dd hsp (hmono k j1 j2) with h | ⟨h,_⟩<;>omega
   rw [hF2] at hA8
   have tot2:=total_ok n (by omega) k rw8 t8 hA8 (by omega) (fun x hx=>by have:=i2 x hx;omega) (by omega)
   have dlt:decide (((k.sum:Nat):Int)<((l.sum:Nat):Int))=false:=decide_eq_false (by omega)
   simp (config:={ maxSteps:=4000000 }) (disch:=first|omega|(with_unfolding_all exact rfl)|(simp only[new_n,put_n,new_m];omega)|(refine put_m_le ?_;simp only[new_m];omega)) only [hF2,Option.isSome_none,Option.isSome_some,Bool.false_eq_true,res3,K3r0,K3r1,K3r2,K3r3,K3r4,K3r5,K3r6,K3r7,K3r8s24,K3r8s23,K3r8s22,K3r8s21,K3r8s20,K3r8s19,K3r8s18,K3r8s17,K3r8s16,K3r8s13,K3r8s12,K3r8s11,K3r8s10,K3r8s9,K3r8s8,K3r8s5,K3r8s4,K3r8,K3r9,K3r10s18,K3r10s17,K3r10s16,K3r10s15,K3r10s14,K3r10s13,K3r10s12,K3r10s11,K3r10s10,K3r10s9,K3r10s8,K3r10s7,K3r10s6,K3r10s5,K3r10s4,K3r10,K3r11,K3r12,K3r13,K3r14,K3r15,K3r16s9,K3r16s8,K3r16s7,K3r16s6,K3r16s5,K3r16s4,K3r16s3,K3r16,K3r17,K3r18s15,K3r18s14,K3r18s13,K3r18s12,K3r18s11,K3r18s10,K3r18s9,K3r18s8,K3r18s7,K3r18s6,K3r18s5,K3r18s4,K3r18,K3r19,K3r20,K3r21,K3r22s8,K3r22s5,K3r22s4,K3r22,K3,Abs.W,reduceIte,Nat.reduceEqDiff,Nat.reduceAdd,decide_true,decide_false,kLoop_def,Nat.reduceSub,List.cons_append,List.nil_append,List.append_nil,List.length_cons,List.length_nil,Env.find_set,find_cons,okt,ex0,ex1,kv7,kv8,d30,d33,d00,d03,lv,ll,okV,dl,z48,sc1,sc2,sc3,scal_nil,hst,nT,tot1,tot2,dlt,knStay,knTot,Nat.zero_add]
   exact tail _ ⟨by simp only [find_cons,Env.find_set,reduceIte,Nat.reduceEqDiff],by simp only [find_cons,Env.find_set,reduceIte,Nat.reduceEqDiff],by simp only [find_cons,Env.find_set,reduceIte,Nat.reduceEqDiff],by simp only [find_cons,Env.find_set,reduceIte,Nat.reduceEqDiff],by simp only [find_cons,Env.find_set,reduceIte,Nat.reduceEqDiff],by simp only [find_cons,Env.find_set,reduceIte,Nat.reduceEqDiff],by simp only [find_cons,Env.find_set,reduceIte,Nat.reduceEqDiff]⟩
end Go.Proofs.Ytkoefjgapmonaaa.walk
namespace Go.Proofs.Ytkoefjgapmonaaa.mdie
open Go.RowKit
def Die (b:Nat) (w:World):Prop:=∃ s,w.heap[b]? = some (.cells #[.int .u64 s] 49 (0,0))
theorem Die.old {b:Nat} {w:World} (h:Die b w):(∃ s,w.cell? ⟨b,0,none⟩=some (.int .u64 s))∧w.frozen? ⟨b,0,none⟩=false:=by
 obtain ⟨s,hs⟩:=h
 refine ⟨⟨s,?_⟩,?_⟩
 ·unfold World.cell?;simp [hs]
 ·unfold World.frozen?;simp [hs]
structure Stir (b:Nat) (w w':World):Prop where
 below:Below b w w'
 rest:∀ p:Addr,p.block≠b→p.block<w.heap.size→w'.cell? p=w.cell? p∧w'.frozen? p=w.frozen? p
 die:Die b w'
def Gives (b:Nat) (k:IntKind) (Q:Int→Prop) (w:World) (e:Ending) (w':World):Prop:=∃ r,Q r∧e=.returned (.int k r)∧Stir b w w'
theorem bits_nonneg (op:BinOp) (x y:Int):0≤bits op .u64 x y:=by
 have:=bounds_u64 (wf_bits (k:=.u64) (op:=op) (x:=x) (y:=y))
 exact this.1
theorem Stir.set {b:Nat} {w:World} (h:Die b w) (s:Int):Stir b w (w.setCell ⟨b,0,none⟩ (.int .u64 s)):=by
 obtain ⟨t,ht⟩:=h
 refine ⟨(Below.refl b w).setCell (p:=⟨b,0,none⟩) (Nat.le_refl b) _,fun p hp _=>⟨World.cell?_of_block (Below.heap_setCell _ _ _ _ hp),World.frozen?_of_block (Below.heap_setCell _ _ _ _ hp)⟩,⟨s,?_⟩⟩
 unfold World.setCell
 simp [Array.getElem?_modify,ht]
theorem roll (b:Nat) (w:World) (h:Die b w):Calls Try.prog 16 #[.pointer (some ⟨b,0,none⟩)] w (Gives b .u64 (fun r=>0≤r) w):=by
 have h':=Lib.hid h
 obtain ⟨⟨s,hs⟩,hf⟩:=h.old
 clear h
 go_enter Try.func16,Try.ntmps16
 go_wp2
 go_ret
 exact ⟨_,bits_nonneg _ _ _,rfl,Stir.set h'.out _⟩
theorem Stir.refl {b:Nat} {w:World} (h:Die b w):Stir b w w:=⟨Below.refl _ _,fun _ _ _=>⟨rfl,rfl⟩,h⟩
theorem Stir.trans {b:Nat} {u v w:World} (h:Stir b u v) (k:Stir b v w):Stir b u w :=
 ⟨h.below.trans k.below,fun p hp hb=>⟨(k.rest p hp (Nat.lt_of_lt_of_le hb h.below.size)).1.trans (h.rest p hp hb).1,(k.rest p hp (Nat.lt_of_lt_of_le hb h.below.size)).2.trans (h.rest p hp hb).2⟩,k.die⟩
theorem Die.lt {b:Nat} {w:World} (h:Die b w):b<w.heap.size:=by obtain ⟨⟨s,hs⟩,_⟩:=h.old;exact World.block_lt_of_cell? w _ hs
theorem Stir.drew {b:Nat} {w w':World} (h:Stir b w w'):Stir b w w'.drew:=h.trans ⟨⟨rfl,rfl,rfl,Nat.le_refl _,fun _ _=>rfl⟩,fun _ _ _=>⟨rfl,rfl⟩,h.die⟩
def Born (w:World) (e:Ending) (w':World):Prop:=e=.returned (.pointer (some ⟨w.heap.size,0,none⟩))∧Below w.heap.size w w'∧Die w.heap.size w'∧w.heap.size<w'.heap.size
theorem Die.born (w:World) (s:Int):Die w.heap.size (w.alloc (.cells #[.int .u64 s] 49)):=⟨s,by show (w.heap.push _)[w.heap.size]? = _;rw [Array.getElem?_push,if_pos rfl]⟩
set_option maxRecDepth 100000 in
theorem born (x:Option Addr) (n c:Nat) (w:World) (hn:n≤maxLen) (hc:∀ i,i<n→∃ b o,x=some ⟨b,o,none⟩∧∃ v,w.cell? ⟨b,o+i,none⟩=some (.int .i64 v)) :
  Calls Try.prog 4 #[.slice x n c] w (Born w):=by
 unfold maxLen at hn
 have HC:=Lib.hid hc
 clear hc
 have hdie:=Lib.hid (Die.born w 2611923443488327891)
 go_enter Try.func4,Try.ntmps4
 go_wp2
 go_loopw [4] (fun i wr=>∃ k:Nat,k≤n∧i=.int .i64 k∧Stir w.heap.size (w.alloc (.cells #[.int .u64 2611923443488327891] 49)) wr) (fun i _=>n - (intOf i).toNat)
 case atStart=>exact ⟨0,Nat.zero_le _,rfl,Stir.refl hdie.out⟩
 case round =>
  obtain ⟨k,hk,rfl,hs⟩:=hrel
  by_cases hlt:k<n
  ·obtain ⟨b,o,rfl,v,hv⟩:=HC.out k hlt
   have hb:=World.block_lt_of_cell? _ _ hv
   simp only at hb
   have hv1:wr.cell? ⟨b,o+k,none⟩=some (.int .i64 v):=((hs.rest ⟨b,o+k,none⟩ (Nat.ne_of_lt hb) (by simp;omega)).1.trans (World.cell?_of_block (Below.heap_alloc _ _ _ hb))).trans hv
   clear hv
   obtain ⟨⟨s,hd⟩,hf⟩:=hs.die.old
   have hst:=Lib.hid (fun s1:Int=>(hs.drew).trans (Stir.set hs.drew.die s1))
   have hlt':(k:Int)<(n:Int):=by omega
   have hk0:(0:Int)≤(k:Int):=by omega
   go_wp2
   go_still_tail 12,(by kernel_rfl)
   change wpList _ _ _ _ _ wr.drew
   go_wp2_with (go_at_call 16;refine (roll _ _ ?_).mono ?_;exact (hst.out _).die;rintro e w1 ⟨r,hr,rfl,hs1⟩;(have hs2:=(hst.out _).trans hs1))
   go_roundw
   case rel=>exact ⟨k+1,by omega,by go_num,hs2⟩
   case measure=>simp [intOf];omega
  ·go_wp2
   go_ret
   exact ⟨rfl,((Below.refl w.heap.size w).alloc (Nat.le_refl _) _).trans hs.below,hs.die,by have:=hs.below.size;simp at this;omega⟩
end Go.Proofs.Ytkoefjgapmonaaa.mdie
namespace Go.Abs
open Go.RowKit
variable {P:Program}
theorem mid_calls {cl:CallF} (hc:CallSound P cl) {f:FuncId} {fn:Func} (hf:P.funcs[f]? = some fn) {c0 c1 rest:Code} (hb:fn.body=some (.seq c0 (.seq c1 rest))) {X:FuncId→List Nat} {k:K} {A:Array Value} {W:World} {R:Ending→World→Prop}
  (h:c0.wp P (Exit.then (fun a w=>c1.wp P (Exit.then (fun a w=>∃ ρ L s v s',ActRel ρ fn.ntmps L [] a∧Clean (X f) L∧SRel ρ s w∧finA P fn (k cl ⟨f,none,fn.ntmps,X f⟩ L [] s)=.val v s'∧∀ ρ' V W',After ρ s w ρ' s' W'→VRel ρ' v V→R (.returned V) W') fun _ _ _=>False) a w) fun _ _ _=>False)
   { tmps:=A++Array.replicate (fn.ntmps - A.size) undef,defers:=[] } W)
  (hk:codeK P (X f) fn.ntmps rest=some k):Calls P f A W R:=by
 intro cs
 obtain ⟨b,hbd⟩:∃ b:Frame,b={ (default:Frame) with fn:=f,kind:=.normal }:=⟨_,rfl⟩
 have hr:b.roundOf=none:=by rw [hbd];rfl
 have henter:Frame.enter P f A .normal=b.at { tmps:=A++Array.replicate (fn.ntmps - A.size) undef,defers:=[] } [.code (.seq c0 (.seq c1 rest))]:=by
  rw [hbd];simp [Frame.enter,Frame.at,hf,hb]
 obtain ⟨e0,a0,w0,q0,ar0⟩:=h b [.code (.seq c1 rest)] cs
 cases e0<;>simp only [Exit.then] at q0
 obtain ⟨e1,a1,w1,q1,ar1⟩:=q0 b [.code rest] cs
 cases e1<;>simp only [Exit.then] at q1
 obtain ⟨ρ,L,s,v,s',hact,hclean,hs,hfin,hR⟩:=q1
 have st1:Steps P (lone (Frame.enter P f A .normal) cs W) (lone (b.atR a1 [.code rest]) cs w1):=by
  rw [henter,Frame.atR_of_none hr]
  exact (Steps.head step_seq ar0).trans (Steps.head step_seq ar1)
 have hctx:CtxRel ρ ⟨f,none,fn.ntmps,X f⟩ b:=⟨by rw [hbd],by rw [hbd],fun _=>hr,fun l e=>by cases e⟩
 generalize hr2:k cl ⟨f,none,fn.ntmps,X f⟩ L [] s=r at hfin
 cases r with
 | fail=>cases hfin
 | done e L1 d s₁ =>
  obtain ⟨ρ₁,a₁,W₁,af,ha₁,_,_,st⟩:=codeK_sound rest hk hc rfl rfl hctx hact hclean hs hr2
  have fin:∀ (hle:leaveA P fn.results.toList L1 d s₁=.val v s') (hst:∃ t,Steps P (lone (Frame.enter P f A .normal) cs W) (lone (back b a₁ t) cs W₁)),
    ∃ V w' fr,R (.returned V) w'∧Steps P (lone (Frame.enter P f A .normal) cs W) (lone fr cs w')∧fr.fn=f∧fr.leaving P w' (.returned V):=by
   intro hle hst
   obtain ⟨V,W₂,af₂,hv,st₂⟩:=leaveA_calls ha₁ af.rel hle
   obtain ⟨t,st₁⟩:=hst
   obtain ⟨fr,h1,h2,h3⟩:=st₂ b (by rw [hbd]) (by rw [hbd];exact hf) t cs
   exact ⟨V,W₂,fr,hR _ _ _ (af.trans af₂) hv,Steps.trans st₁ h1,by rw [h2,hbd],h3⟩
  cases e with
  | exit id=>cases hfin
  | norm =>
   have z:=st [] cs
   obtain ⟨V,w',fr,h1,h2,h3,h4⟩:=fin hfin ⟨[],st1.trans (Steps.trans z (.one (stepR_end hr)))⟩
   exact ⟨.returned V,w',fr,h1,h2,h3,h4⟩
  | ret =>
   obtain ⟨k0,z⟩:=st [] cs
   obtain ⟨V,w',fr,h1,h2,h3,h4⟩:=fin hfin ⟨.code .ret::k0,st1.trans (z.trans (.one (stepR_ret hr)))⟩
   exact ⟨.returned V,w',fr,h1,h2,h3,h4⟩
end Go.Abs
set_option maxRecDepth 10000
namespace Go.Proofs.Ytkoefjgapmonaaa.walk
open Go.Abs Go.RowKit Go.Proofs.Ytkoefjgapmonaaa.code
noncomputable def die0 (F:Int):St:=St.new ⟨.nil,0,far⟩ (.cells [.int .u64 F] (tag 49))
def rho0 (d:Nat):Rho:=fun b=>if b=0 then some (d,(0,0)) else none
theorem die0_get {F:Int} {b:Nat} {o:AObj} (h:(die0 F).h.get b=some o):b=0∧o=.cells [.int .u64 F] (tag 49):=by
 by_cases e:b=0
 ·subst e
  have:(die0 F).h.get 0=some (.cells [.int .u64 F] (tag 49)):=get_new_eq _ _ _ rfl (by decide)
  rw [this] at h
  exact ⟨rfl,(Option.some.inj h).symm⟩
 ·unfold die0 at h
  rw [get_new_ne _ _ _ e] at h
  cases h
theorem die0_has {F:Int} {b x:Nat} {o:AObj} (h:Has (die0 F).h b x o):b=0∧x=0∧o=.cells [.int .u64 F] (tag 49):=by
 obtain ⟨y,hy,hp⟩:=h
 obtain ⟨rfl,rfl⟩:=die0_get hy
 have hl:AObj.lone (.cells [.int .u64 F] (tag 49)):=trivial
 rw [parts_lone hl] at hp
 have:=List.mem_singleton.mp hp
 cases this
 exact ⟨rfl,rfl,rfl⟩
theorem die0_rel {F:Int} {d:Nat} {W:World} (h:W.heap[d]? = some (.cells #[.int .u64 F] 49 (0,0))):SRel (rho0 d) (die0 F) W:=by
 refine ⟨⟨fun b o hb=>?_,fun b x o hb=>?_,fun b b' x x' o o' c e e' hb hb' _ _=>?_,fun g cs hg=>(by cases hg),fun b x o c e hb hr=>rfl,fun b x x' o o' c e e' hb hb' hr hr'=>?_⟩,fun b hb=>?_⟩
 ·rw [(die0_get hb).1];decide
 ·obtain ⟨rfl,rfl,rfl⟩:=die0_has hb
  exact ⟨d,(0,0),_,if_pos rfl,h,.cells rfl (.cons (.int _ _) .nil) (Typed.tag _)⟩
 ·rw [(die0_has hb).1,(die0_has hb').1]
 ·obtain ⟨_,rfl,_⟩:=die0_has hb
  obtain ⟨_,rfl,_⟩:=die0_has hb'
  rw [hr] at hr'
  cases hr'
  rfl
 ·have:1≤b:=hb
  exact if_neg (by omega)
set_option maxRecDepth 100000 in
theorem cfe_calls (a:Option Addr) (n c:Nat) (w:World) (hn:n≤maxLen) (hc:∀ i,i<n→∃ b o,a=some ⟨b,o,none⟩∧∃ v,w.cell? ⟨b,o+i,none⟩=some (.int .i64 v)) :
  Calls Try.prog 3 #[.slice a n c] w fun e w'=>e=.returned (.bool true)∧Below w.heap.size w w':=by
 have HC:=Lib.hid hc
 clear hc
 refine mid_calls (cl:=knows 6 (call Try.prog X 60)) (knows_sound (call_sound 200) Try.func6 awake.entered (call_sound 60)) Try.func3 rfl (X:=X) (k:=cfRest) ?_ (by kernel_rfl)
 simp only [Try.ntmps3,List.size_toArray,List.length_cons,List.length_nil,Nat.reduceAdd,Nat.reduceSub,Array.replicate_succ,Array.replicate_zero,List.push_toArray,List.append_toArray,List.nil_append,List.cons_append]
 go_wp2_with (go_at_call 4;((with_reducible refine (mdie.born _ _ _ _ hn HC.out).mono ?_);rintro e w1 ⟨rfl,hB1,⟨F,hF⟩,hg1⟩))
 have hd0:walk.Die 0 (die0 F).h:=⟨F,get_new_eq _ _ _ rfl (by decide)⟩
 obtain ⟨s',hs'⟩:=cf_body 60 (by omega) ⟨3,none,Try.f3.ntmps,X 3⟩ (die0 F) 0 hd0 (by show 0<1;omega) (by show 1+3000000≤1000000000;omega)
 refine ⟨rho0 w.heap.size,.cons 3 (.ptr 0 0) .nil,die0 F,.bool true,s',⟨fun t=>?_,rfl,.nil⟩,fun t ht=>?_,die0_rel hF,hs',fun ρ' V W' af hv=>?_⟩
 ·by_cases e:t=3
  ·subst e
   exact .ptr (e:=(0,0)) (if_pos rfl)
  ·rw [show (Env.cons 3 (.ptr 0 0) .nil).find t=AV.bad by rw [find_cons,if_neg (by omega)];rfl]
   exact .bad _
 ·by_cases e:t=3
  ·subst e
   have hx:(X 3).contains 3=true:=by kernel_rfl
   rw [hx] at ht
   cases ht
  ·rw [find_cons,if_neg (by omega)];rfl
 ·cases hv
  refine ⟨rfl,hB1.trans ⟨af.os,af.tape,af.output,af.size,fun k hk=>af.frame k (by omega) fun b x o e hb hr=>?_⟩⟩
  obtain ⟨_,rfl,_⟩:=die0_has hb
  have hr:some (w.heap.size,(0,0))=some (k,e):=hr
  injection hr with hr
  injection hr with hr _
  omega
end Go.Proofs.Ytkoefjgapmonaaa.walk
