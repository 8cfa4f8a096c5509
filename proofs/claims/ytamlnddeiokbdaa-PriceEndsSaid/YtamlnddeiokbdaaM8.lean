/- The law PriceOrder: its loops. -/
import Derived.Test.YtamlnddeiokbdaaM7
import Derived.Test.YtamlnddeiokbdaaM4
import Derived.Test.YtamlnddeiokbdaaM6
import Derived.Test.YtamlnddeiokbdaaCodes
import Derived.Test.YtamlnddeiokbdaaWalkAll
set_option linter.unusedSimpArgs false
set_option maxHeartbeats 16000000
set_option linter.unusedVariables false
set_option maxRecDepth 10000
namespace Go.Proofs.Ytamlnddeiokbdaa.walk
open Go.Abs Go.Proofs.Ytamlnddeiokbdaa.code
theorem extE0 (a b:AV) (s:St):extA 0 s (.tup [a,b])=.val a s:=Eq.trans (Eq.refl _) (Eq.refl _)
theorem extE1 (a b:AV) (s:St):extA 1 s (.tup [a,b])=.val b s:=Eq.trans (Eq.refl _) (Eq.refl _)
theorem okA_tupE (a b:AV) (s:St):okA (.val (.tup [a,b]) s)=.val (.tup [a,b]) s:=Eq.trans (Eq.refl _) (Eq.refl _)
theorem extT0 (a b c:AV) (s:St):extA 0 s (.tup [a,b,c])=.val a s:=Eq.trans (Eq.refl _) (Eq.refl _)
theorem extT1 (a b c:AV) (s:St):extA 1 s (.tup [a,b,c])=.val b s:=Eq.trans (Eq.refl _) (Eq.refl _)
theorem extT2 (a b c:AV) (s:St):extA 2 s (.tup [a,b,c])=.val c s:=Eq.trans (Eq.refl _) (Eq.refl _)
theorem okA_tupT (a b c:AV) (s:St):okA (.val (.tup [a,b,c]) s)=.val (.tup [a,b,c]) s:=Eq.trans (Eq.refl _) (Eq.refl _)
structure OthJ (u t:St) (p7:Nat) (ks kg:Int) (l:List Sale) (v:AV) (bl kk:Nat):Prop where
 g7:t.h.get p7=some (.cells [.int .i64 ks,.int .i64 kg,v] (tag 27))
 is:IsAt t.h t.n bl 6 (tag 51) (l.map Sale.cells) v
 lo:u.n≤bl
 same:∀ c,c<u.n→c≠p7→t.h.get c=u.h.get c
 n:u.n≤t.n
 le:t.n≤u.n+kk
end Go.Proofs.Ytamlnddeiokbdaa.walk
set_option maxRecDepth 10000
namespace Go.Abs
end Go.Abs
namespace Go.Proofs.Ytamlnddeiokbdaa.walk
open Go.Abs Go.Proofs.Ytamlnddeiokbdaa.code
theorem verd_cases (T:List Sale):verdOf T=1∧0<weighI false T∨verdOf T=2∧¬ 0<weighI true T∨verdOf T=3:=by
 unfold verdOf verdI
 by_cases h1:0<weighI false T
 ·exact .inl ⟨by rw [if_pos (decide_eq_true h1)],h1⟩
 ·rw [if_neg (by simpa using h1)]
  by_cases h2:0<weighI true T
  ·exact .inr (.inr (by rw [if_pos (decide_eq_true h2)]))
  ·exact .inr (.inl ⟨by rw [if_neg (by simpa using h2)],h2⟩)
end Go.Proofs.Ytamlnddeiokbdaa.walk
set_option maxRecDepth 10000
namespace Go.Proofs.Ytamlnddeiokbdaa.walk
open Go.Abs Go.Proofs.Ytamlnddeiokbdaa.code
theorem neqBool (a b:Bool) (s:St):eqlA .bool true s (.bool a) (.bool b)=.val (.bool (!(a == b))) s:=by
 cases a<;>cases b<;>rfl
theorem past_draw {u t:St} {k:Nat} (h:Past u t k) (m:Nat):Past u ⟨t.h,t.n,m⟩ k:=⟨h.same,h.n,h.le⟩
theorem past_more {u t w:St} {k j:Nat} (h:Past u t k) (a:New ⟨t.h,t.n,far⟩ w j):Past u w (k+j) :=
 ⟨fun c hc=>(a.same c (by have:=h.n;show c<t.n;omega)).trans (h.same c hc),by have:=h.n;have:=a.n;have e:(⟨t.h,t.n,far⟩:St).n=t.n:=rfl;omega,by have:=h.le;have:=a.le;have e:(⟨t.h,t.n,far⟩:St).n=t.n:=rfl;omega⟩
theorem sum_round (cl:CallF) (cx:Ctx) {S:List Sale} {ks kg v1:AV} {p4 i j:Nat} {w:St} {L:Env} (hF:Fine S) (hl:S.length≤40) (w4:w.h.get p4=some (.cells [ks,kg,v1] (tag 27))) (RS:RowsAt w.h w.n 6 (S.map Sale.cells) v1) (hj:j<S.length) (hwf:w.n≤far)
  (k4:L.find 4=.ptr p4 0) (k8:L.find 8=.int .i64 (i:Int)) (k12:L.find 12=.int .i64 (sumG false i (S.take j))) (k13:L.find 13=.int .i64 (sumG true i (S.take j))) (k14:L.find 14=.int .i64 (j:Int)) :
  ∃ L1,K4l0 cl cx L [] w=.done .norm L1 [] w∧(∀ c,c<12→L1.find c=L.find c)∧L1.find 12=.int .i64 (sumG false i (S.take (j+1)))∧L1.find 13=.int .i64 (sumG true i (S.take (j+1)))∧L1.find 14=.int .i64 ((j+1:Nat):Int):=by
 have hf:far=1000000000:=rfl
 have kv:∀ t,okA (.val v1 t)=.val v1 t:=fun t=>okA_ne RS.ne
 have lt:=RS.len
 rw [List.length_map] at lt
 have e0:decide ((j:Int)<(S.length:Int))=true:=decide_eq_true (by omega)
 have ad:∀ s,aAdd s .i64 (j:Int) 1=.val (.int .i64 ((j+1:Nat):Int)) s:=fun s=>by rw [aAdd_i64 s _ _ (by omega)];rfl
 obtain ⟨x0,o0,cs,sz,r1,r2,r3,r4⟩:=RS.at_ j (by simpa using hj)
 rw [List.getElem_map] at r4
 have n1:nth cs (o0+1)=.int .i64 S[j].gd:=nth_cut r4 (j:=1) (by simp [Sale.cells])
 have n2:nth cs (o0+2)=.int .i64 S[j].gl:=nth_cut r4 (j:=2) (by simp [Sale.cells])
 have n3:nth cs (o0+2+1)=.int .i64 S[j].gh:=nth_cut r4 (j:=3) (by simp [Sale.cells])
 have hz:=hF _ (List.getElem_mem hj)
 have hs0:=sumG_snoc false i S[j] (S.take j)
 have hs1:=sumG_snoc true i S[j] (S.take j)
 rw [← List.take_succ_eq_append_getElem hj] at hs0 hs1
 have hFt:Fine (S.take j):=fun s hs=>hF s (List.mem_of_mem_take hs)
 have a0:=sumG_range false i (S.take j) hFt
 have a1:=sumG_range true i (S.take j) hFt
 have al:(S.take j).length≤40:=by rw [List.length_take];omega
 generalize S[j]=z at *
 obtain ⟨g0,g1,g2,c0,c1,c2⟩:=hz
 by_cases hgd:z.gd=i
 ·have e1:decide (z.gd=(i:Int))=true:=decide_eq_true hgd
  rw [if_pos hgd] at hs0 hs1
  have ad2:∀ s,aAdd s .i64 (sumG false i (S.take j)) z.gl=.val (.int .i64 (sumG false i (S.take (j+1)))) s:=fun s=>by rw [hs0];exact aAdd_i64 s _ _ (by omega)
  have ad3:∀ s,aAdd s .i64 (sumG true i (S.take j)) z.gh=.val (.int .i64 (sumG true i (S.take (j+1)))) s:=fun s=>by rw [hs1];exact aAdd_i64 s _ _ (by omega)
  refine ⟨_,by
   simp (config:={ maxSteps:=3000000 }) (disch:=first|omega|(with_unfolding_all exact rfl)|(simp only[new_n,put_n,new_m];omega)|(refine put_m_le ?_;simp only[new_m];omega)) only [K4l0,K4r14,K4r15,K4r16,K4r17,Abs.W,reduceIte,Nat.reduceEqDiff,Nat.reduceAdd,decide_true,decide_false,kLoop_def,Nat.reduceSub,List.cons_append,List.nil_append,List.append_nil,List.length_cons,List.length_nil,Env.find_set,k4,k8,k12,k13,k14,kv,lt,e0,e1,w4,r2,r3,n1,n2,n3,ad,ad2,ad3,Nat.zero_add,Nat.add_zero]
   rfl,fun c hc=>?_,?_,?_,?_⟩
  ·simp only [Env.find_set]
   repeat rw [if_neg (by omega)]
  all_goals simp only [Env.find_set,reduceIte,Nat.reduceEqDiff]
 ·have e1:decide (z.gd=(i:Int))=false:=decide_eq_false hgd
  rw [if_neg hgd,Int.add_zero] at hs0 hs1
  refine ⟨_,by
   simp (config:={ maxSteps:=3000000 }) (disch:=first|omega|(with_unfolding_all exact rfl)|(simp only[new_n,put_n,new_m];omega)|(refine put_m_le ?_;simp only[new_m];omega)) only [K4l0,K4r14,K4r15,K4r17,Abs.W,reduceIte,Nat.reduceEqDiff,Nat.reduceAdd,decide_true,decide_false,kLoop_def,Nat.reduceSub,List.cons_append,List.nil_append,List.append_nil,List.length_cons,List.length_nil,Env.find_set,k4,k8,k12,k13,k14,kv,lt,e0,e1,w4,r2,r3,n1,ad,Nat.zero_add,Nat.add_zero]
   rfl,fun c hc=>?_,?_,?_,?_⟩
  ·simp only [Env.find_set]
   repeat rw [if_neg (by omega)]
  all_goals simp only [Env.find_set,k12,k13,hs0,hs1,reduceIte,Nat.reduceEqDiff]
theorem pen_goods (n:Nat) (hn:16≤n) (cx:Ctx) {S:List Sale} {ks kg:Nat} {v1:AV} {u t:St} {L:Env} {p4 i kk:Nat} (okS:(⟨ks,kg,S⟩:Book).Ok)
  (g4:u.h.get p4=some (.cells [.int .i64 ks,.int .i64 kg,v1] (tag 27))) (b4:p4<u.n) (R1:RowsAt u.h u.n 6 (S.map Sale.cells) v1) (hE:Past u t kk) (htm:t.m≤far) (hs:u.n+kk+4000000≤far) (hi:i<kg)
  (q4:L.find 4=.ptr p4 0) (q8:L.find 8=.int .i64 (i:Int)) :
  ∃ L1 t1,K4l1 (knows 20 (call Try.prog X n)) cx L [] t=.done .norm L1 [] t1∧Past u t1 (kk+1+1000)∧t1.m≤far∧L1.find 8=.int .i64 ((i+1:Nat):Int)∧∀ c,c<8→L1.find c=L.find c:=by
 have hf:far=1000000000:=rfl
 have knP:∀ args s,knows 20 (call Try.prog X n) (.fn 14) args s=call Try.prog X n (.fn 14) args s:=fun _ _=>rfl
 have knF:∀ args s,knows 20 (call Try.prog X n) (.fn 15) args s=call Try.prog X n (.fn 15) args s:=fun _ _=>rfl
 have knU:∀ args s,knows 20 (call Try.prog X n) (.fn 22) args s=call Try.prog X n (.fn 22) args s:=fun _ _=>rfl
 have knO:∀ args s,knows 20 (call Try.prog X n) (.fn 21) args s=call Try.prog X n (.fn 21) args s:=fun _ _=>rfl
 have tn:=hE.n
 have tl:=hE.le
 have hkg:kg≤8:=okS.g1
 have hl:S.length≤40:=okS.l
 have hF:Fine S:=fun s hs=>by
  obtain ⟨s0,s1,d0,d1,g0,g1,g2,c0,c1,c2⟩:=okS.ok s hs
  exact ⟨g0,g1,g2,c0,c1,c2⟩
 have e0:decide ((i:Int)<(kg:Int))=true:=decide_eq_true (by omega)
 have z0:decide ((0:Int)=0)=true:=rfl
 have ad:∀ s,aAdd s .i64 (i:Int) 1=.val (.int .i64 ((i+1:Nat):Int)) s:=fun s=>by rw [aAdd_i64 s _ _ (by omega)];rfl
 have ov1:∀ t,okA (.val v1 t)=.val v1 t:=fun t=>okA_ne R1.ne
 have sc1:scalars [AV.int .i64 ks,.int .i64 kg,v1]=true:=by
  have hv:v1.scalar=true:=by
   have h:=R1.len u
   cases v1<;>first | rfl | cases h
  show scalars [v1]=true
  unfold scalars
  rw [hv]
  rfl
 have T1:call Try.prog X n (.fn 14) [.agg [.int .i64 ks,.int .i64 kg,v1],.int .i64 (i:Int)] t=.val (priceV (soldOf S i)) t:=Price_ok (b:=⟨ks,kg,S⟩) hn okS hi (R1.grow hE.same hE.n) (by omega)
 have hlo:=fair_low (S:=S) hF (g:=(i:Int))
 have hhi:=fair_high (S:=S) hF (g:=(i:Int))
 have hvc:=verd_cases (soldOf S i)
 have hw0:=sumG_weigh false (i:Int) S hF
 have hw1:=sumG_weigh true (i:Int) S hF
 have hwn:=weigh_none (sold_fineS hF (i:Int)) (fun s hs=>(sold_in hs).2.2)
 have hsr:=sumG_range true (i:Int) S hF
 have hemp:soldOf S i=[]→verdOf (soldOf S i)=2∧priceI false (soldOf S i)=0∧priceI true (soldOf S i)=0:=fun h=>by rw [h];exact ⟨rfl,rfl,rfl⟩
 have hlw:0<weighI false (soldOf S i)→verdOf (soldOf S i)=1:=fun h=>by unfold verdOf verdI;rw [if_pos (decide_eq_true h)]
 have hhw:¬ 0<weighI false (soldOf S i)→0<weighI true (soldOf S i)→verdOf (soldOf S i)=3:=fun h h2=>by unfold verdOf verdI;rw [if_neg (by simpa using h),if_pos (decide_eq_true h2)]
 obtain ⟨vd,hvd⟩:∃ vd,vd=verdOf (soldOf S i):=⟨_,rfl⟩
 obtain ⟨pl,hpl⟩:∃ pl,pl=priceI false (soldOf S i):=⟨_,rfl⟩
 obtain ⟨ph,hph⟩:∃ ph,ph=priceI true (soldOf S i):=⟨_,rfl⟩
 have hV:priceV (soldOf S i)=.tup [.int .i64 vd,.agg [.int .i64 pl,.int .i64 ph],.int .i64 0]:=by rw [hvd,hpl,hph];rfl
 rw [hV] at T1
 rw [← hpl] at hlo hemp
 rw [← hph] at hhi hemp
 rw [← hvd] at hemp hlw hhw
 have t4:=(hE.same p4 b4).trans g4
 obtain ⟨x,hx⟩:∃ x:St,x=(t.new (.cells [.int .i64 0,.int .i64 0] (tag 38))).put t.n (.cells [.int .i64 pl,.int .i64 ph] (tag 38)):=⟨_,rfl⟩
 have xn:x.n=t.n+1:=by rw [hx];rfl
 have xm:x.m≤t.m:=by rw [hx];simp only [St.put,minN_eq,new_m];omega
 have xt:x.h.get t.n=some (.cells [.int .i64 pl,.int .i64 ph] (tag 38)):=by rw [hx];exact get_put_eq _ _ _ _ rfl (by omega)
 have hX:Past u x (kk+1):=by rw [hx];exact (hE.new _).put _ tn
 have x4:=(hX.same p4 b4).trans g4
 simp (disch:=first|omega|(with_unfolding_all exact rfl)|(simp only[new_n,put_n,new_m];omega)|(refine put_m_le ?_;simp only[new_m];omega)) only [K4l1,K4r8,K4r9,Abs.W,reduceIte,Nat.reduceEqDiff,Nat.reduceAdd,decide_true,decide_false,kLoop_def,Nat.reduceSub,List.cons_append,List.nil_append,List.append_nil,List.length_cons,List.length_nil,Env.find_set,q4,q8,e0,t4,knP,T1,ov1,extT0,extT1,extT2,okA_tupT,Nat.zero_add]
 rw [← hx]
 clear hx T1
 simp (disch:=first|omega|(with_unfolding_all exact rfl)|(simp only[new_n,put_n,new_m];omega)|(refine put_m_le ?_;simp only[new_m];omega)) only [K4r10,K4r12,K4r13,Abs.W,reduceIte,Nat.reduceEqDiff,Nat.reduceAdd,decide_true,decide_false,kLoop_def,Nat.reduceSub,List.cons_append,List.nil_append,List.append_nil,List.length_cons,List.length_nil,Env.find_set,z0,Nat.zero_add]
 generalize hlp:loopN _ rounds _ _ _ _ _=rl
 obtain ⟨e,L2,t2,rfl,rfl,rfl,k7,k8,k9,k10,k11,k12,k13⟩:=loop_of hlp
  (fun j L' t'=>t'=x∧(∀ c,c<8→L'.find c=L.find c)∧L'.find 8=.int .i64 (i:Int)∧L'.find 9=.int .i64 vd∧L'.find 10=.ptr t.n 0∧L'.find 12=.int .i64 (sumG false i (S.take j))∧L'.find 13=.int .i64 (sumG true i (S.take j))∧L'.find 14=.int .i64 (j:Int))
  (fun e L' t'=>e=.exit 2∧t'=x∧(∀ c,c<8→L'.find c=L.find c)∧L'.find 8=.int .i64 (i:Int)∧L'.find 9=.int .i64 vd∧L'.find 10=.ptr t.n 0∧True∧L'.find 12=.int .i64 (sumG false i S)∧L'.find 13=.int .i64 (sumG true i S))
  S.length (by unfold rounds;omega)
  ⟨rfl,fun c hc=>by
    simp only [Env.find_set]
    repeat rw [if_neg (by omega)],by simp only [Env.find_set,q8,reduceIte,Nat.reduceEqDiff],by simp only [Env.find_set,reduceIte,Nat.reduceEqDiff],by simp only [Env.find_set,reduceIte,Nat.reduceEqDiff],by simp only [Env.find_set,reduceIte,Nat.reduceEqDiff];rfl,by simp only [Env.find_set,reduceIte,Nat.reduceEqDiff];rfl,by simp only [Env.find_set,reduceIte,Nat.reduceEqDiff];rfl⟩
  (fun j L' t' hj ⟨h1,h7,h8,h9,h10,h12,h13,h14⟩=>by
   subst h1
   have h4:L'.find 4=.ptr p4 0:=(h7 4 (by omega)).trans q4
   by_cases hlt:j<S.length
   ·obtain ⟨L3,z1,z2,z3,z4,z5⟩:=sum_round (knows 20 (call Try.prog X n)) cx hF hl x4 (R1.grow hX.same hX.n) hlt (by omega) h4 h8 h12 h13 h14
    exact .inl ⟨hlt,L3,_,z1,rfl,fun c hc=>(z2 c (by omega)).trans (h7 c hc),(z2 8 (by omega)).trans h8,(z2 9 (by omega)).trans h9,(z2 10 (by omega)).trans h10,z3,z4,z5⟩
   ·obtain rfl:j=S.length:=by omega
    have e1:decide ((S.length:Int)<(S.length:Int))=false:=by simp
    have lt:=R1.len
    rw [List.length_map] at lt
    rw [List.take_length] at h12 h13
    refine .inr ⟨.exit 2,L'.set 65 (.bool false),_,by simp,?_,rfl,rfl,fun c hc=>?_,?_,?_,?_,trivial,?_,?_⟩
    ·simp (disch:=first|omega|(with_unfolding_all exact rfl)|(simp only[new_n,put_n,new_m];omega)|(refine put_m_le ?_;simp only[new_m];omega)) only [K4l0,K4r14,Abs.W,reduceIte,Nat.reduceEqDiff,Nat.reduceAdd,decide_true,decide_false,kLoop_def,Nat.reduceSub,List.cons_append,List.nil_append,List.append_nil,List.length_cons,List.length_nil,Env.find_set,h4,h14,x4,ov1,lt,e1,Nat.zero_add]
    ·rw [Env.find_set,if_neg (by omega)];exact h7 c hc
    all_goals simp only [Env.find_set,h8,h9,h10,h12,h13,reduceIte,Nat.reduceEqDiff])
 have k4:L2.find 4=.ptr p4 0:=(k7 4 (by omega)).trans q4
 rw [hw0] at k12
 rw [hw1] at k13
 have u19s4:=fun cl L s=>congrFun (congrFun (congrFun K4r19s4.eq_1 cl) L) s
 have u19s5:=fun cl L s=>congrFun (congrFun (congrFun K4r19s5.eq_1 cl) L) s
 have u19s6:=fun cl L s=>congrFun (congrFun (congrFun K4r19s6.eq_1 cl) L) s
 have u23s4:=fun cl L s=>congrFun (congrFun (congrFun K4r23s4.eq_1 cl) L) s
 have u23s5:=fun cl L s=>congrFun (congrFun (congrFun K4r23s5.eq_1 cl) L) s
 have u23s8:=fun cl L s=>congrFun (congrFun (congrFun K4r23s8.eq_1 cl) L) s
 have u23s9:=fun cl L s=>congrFun (congrFun (congrFun K4r23s9.eq_1 cl) L) s
 have u23s10:=fun cl L s=>congrFun (congrFun (congrFun K4r23s10.eq_1 cl) L) s
 have u23s11:=fun cl L s=>congrFun (congrFun (congrFun K4r23s11.eq_1 cl) L) s
 have u23s14:=fun cl L s=>congrFun (congrFun (congrFun K4r23s14.eq_1 cl) L) s
 have u23s15:=fun cl L s=>congrFun (congrFun (congrFun K4r23s15.eq_1 cl) L) s
 have u23s16:=fun cl L s=>congrFun (congrFun (congrFun K4r23s16.eq_1 cl) L) s
 have u23s17:=fun cl L s=>congrFun (congrFun (congrFun K4r23s17.eq_1 cl) L) s
 have u23s20:=fun cl L s=>congrFun (congrFun (congrFun K4r23s20.eq_1 cl) L) s
 have u23s21:=fun cl L s=>congrFun (congrFun (congrFun K4r23s21.eq_1 cl) L) s
 have u23s22:=fun cl L s=>congrFun (congrFun (congrFun K4r23s22.eq_1 cl) L) s
 have u23s23:=fun cl L s=>congrFun (congrFun (congrFun K4r23s23.eq_1 cl) L) s
 have u23s24:=fun cl L s=>congrFun (congrFun (congrFun K4r23s24.eq_1 cl) L) s
 have u23s27:=fun cl L s=>congrFun (congrFun (congrFun K4r23s27.eq_1 cl) L) s
 have u23s28:=fun cl L s=>congrFun (congrFun (congrFun K4r23s28.eq_1 cl) L) s
 have u23s29:=fun cl L s=>congrFun (congrFun (congrFun K4r23s29.eq_1 cl) L) s
 have u23s30:=fun cl L s=>congrFun (congrFun (congrFun K4r23s30.eq_1 cl) L) s
 have u23s31:=fun cl L s=>congrFun (congrFun (congrFun K4r23s31.eq_1 cl) L) s
 have u23s32:=fun cl L s=>congrFun (congrFun (congrFun K4r23s32.eq_1 cl) L) s
 by_cases hmost:weighI true (soldOf S i)=0
 ·obtain ⟨h1,h2,h3⟩:=hemp (hwn hmost)
  subst h1
  subst h2
  subst h3
  have m0:decide (weighI true (soldOf S i)=0)=true:=decide_eq_true hmost
  have z2:decide ((2:Int)=2)=true:=rfl
  have xm2:t2.m≤far:=by omega
  have on:∀ s:St,s.n+200≤far→call Try.prog X n (.fn 21) [.int .i64 0] s=.val (.agg [.int .i64 0,.int .i64 0]) s:=fun s hs=>one_ok n (by omega) 0 s hs
  simp (config:={ maxSteps:=3000000 }) (disch:=first|omega|(with_unfolding_all exact rfl)|(simp only[new_n,put_n,new_m];omega)|(refine put_m_le ?_;simp only[new_m];omega)) only [K4r18,K4r19,u19s4,u19s5,u19s6,K4r25,Abs.W,reduceIte,Nat.reduceEqDiff,Nat.reduceAdd,decide_true,decide_false,kLoop_def,Nat.reduceSub,List.cons_append,List.nil_append,List.append_nil,List.length_cons,List.length_nil,Env.find_set,k8,k9,k10,k13,m0,z2,xt,knO,on,kEql_def,neqSpan,ad,Nat.zero_add]
  refine ⟨_,_,rfl,⟨hX.same,hX.n,by have:=hX.le;omega⟩,by omega,by simp only [Env.find_set,reduceIte,Nat.reduceEqDiff],fun c hc=>?_⟩
  simp only [Env.find_set]
  repeat rw [if_neg (by omega)]
  exact k7 c hc
 ·have hne:soldOf S i≠[]:=fun h=>hmost (by rw [h];rfl)
  have hlo:=hlo hne
  have hhi:=hhi hne
  have m0:decide (weighI true (soldOf S i)=0)=false:=decide_eq_false hmost
  have pe:decide (pl=pl)=true:=decide_eq_true rfl
  have pf:decide (ph=ph)=true:=decide_eq_true rfl
  simp (disch:=first|omega|(with_unfolding_all exact rfl)|(simp only[new_n,put_n,new_m];omega)|(refine put_m_le ?_;simp only[new_m];omega)) only [K4r18,K4r21,Abs.W,reduceIte,Nat.reduceEqDiff,Nat.reduceAdd,decide_true,decide_false,kLoop_def,Nat.reduceSub,List.cons_append,List.nil_append,List.append_nil,List.length_cons,List.length_nil,Env.find_set,k4,k10,k13,m0,xt,x4,ov1,knU,Nat.zero_add]
  generalize hc1:call _ _ _ (.fn 22) _ _=r1
  obtain ⟨va,ta,rfl,sa,Ra⟩:=pushed_ex (b:=⟨ks,kg,S⟩) (vb:=v1) (p:=pl) false hc1 (by omega) hl (R1.grow hX.same hX.n) (by show t2.n+6000≤far;omega)
  have am:ta.m=far:=sa.m
  have an:t2.n≤ta.n:=sa.n
  have al:ta.n≤t2.n+500:=sa.le
  rw [thenT_val _ _ _ _ _ _ _ _ (by omega)]
  have hA:Past u ⟨ta.h,ta.n,minN t2.m ta.m⟩ (kk+1+500):=past_draw (past_more hX sa) _
  have ova:∀ t,okA (.val va t)=.val va t:=fun t=>okA_ne Ra.ne
  have a4:=(hA.same p4 b4).trans g4
  have a10:=(sa.same t.n (by show t.n<t2.n;omega)).trans xt
  have FA:=Fair_ok (N:=n) (Z:=pushZ false pl S) (ks:=.int .i64 ks) (kg:=.int .i64 kg) (v:=v1) (vt:=va) (g:=(i:Int)) (s:=⟨ta.h,ta.n,minN t2.m ta.m⟩) (by omega) (pushZ_ok hF false pl) (by unfold pushZ;rw [List.length_map];exact hl) sc1 (by rw [pushZ_sales];exact R1.grow hA.same hA.n) Ra (by show ta.n+1000≤far;omega)
  rw [hlo] at FA
  simp (disch:=first|omega|(with_unfolding_all exact rfl)|(simp only[new_n,put_n,new_m];omega)|(refine put_m_le ?_;simp only[new_m];omega)) only [K4r22,Abs.W,reduceIte,Nat.reduceEqDiff,Nat.reduceAdd,decide_true,decide_false,kLoop_def,Nat.reduceSub,List.cons_append,List.nil_append,List.append_nil,List.length_cons,List.length_nil,Env.find_set,k4,k8,k10,a4,a10,ov1,ova,knU,knF,FA,extE0,extE1,okA_tupE,endO_nil,Nat.zero_add]
  generalize hc2:call _ _ _ (.fn 22) _ _=r2
  obtain ⟨vb,tb,rfl,sb,Rb⟩:=pushed_ex (b:=⟨ks,kg,S⟩) (vb:=v1) (p:=ph) true hc2 (by omega) hl (R1.grow hA.same hA.n) (by show ta.n+6000≤far;omega)
  have bm:tb.m=far:=sb.m
  have bn:ta.n≤tb.n:=sb.n
  have bl:tb.n≤ta.n+500:=sb.le
  have mn:minN t2.m ta.m≤far:=by rw [minN_eq];omega
  rw [thenT_val _ _ _ _ _ _ _ _ (by show ta.n≤tb.m;omega)]
  have hB:Past u ⟨tb.h,tb.n,minN (minN t2.m ta.m) tb.m⟩ (kk+1+500+500):=past_draw (past_more hA sb) _
  have ovb:∀ t,okA (.val vb t)=.val vb t:=fun t=>okA_ne Rb.ne
  have b4':=(hB.same p4 b4).trans g4
  have b10:=(sb.same t.n (by show t.n<ta.n;omega)).trans a10
  have FB:=Fair_ok (N:=n) (Z:=pushZ true ph S) (ks:=.int .i64 ks) (kg:=.int .i64 kg) (v:=v1) (vt:=vb) (g:=(i:Int)) (s:=⟨tb.h,tb.n,minN (minN t2.m ta.m) tb.m⟩) (by omega) (pushZ_ok hF true ph) (by unfold pushZ;rw [List.length_map];exact hl) sc1 (by rw [pushZ_sales];exact R1.grow hB.same hB.n) Rb (by show tb.n+1000≤far;omega)
  rw [hhi] at FB
  simp (disch:=first|omega|(with_unfolding_all exact rfl)|(simp only[new_n,put_n,new_m];omega)|(refine put_m_le ?_;simp only[new_m];omega)) only [Abs.W,reduceIte,Nat.reduceEqDiff,Nat.reduceAdd,decide_true,decide_false,kLoop_def,Nat.reduceSub,List.cons_append,List.nil_append,List.append_nil,List.length_cons,List.length_nil,Env.find_set,k8,b4',ov1,ovb,knF,FB,extE0,extE1,okA_tupE,endO_nil,Nat.zero_add]
  have h2w:0<weighI true (soldOf S i):=by
   have:=weigh_range true (soldOf S i) (sold_fineS hF (i:Int))
   omega
  have mb:minN (minN t2.m ta.m) tb.m≤far:=by simp only [minN_eq] at *;omega
  by_cases hle:0<weighI false (soldOf S i)
  ·obtain rfl:=hlw hle
   have w0:decide (0<weighI false (soldOf S i))=true:=decide_eq_true hle
   have w1:decide ((1:Int)=1)=true:=rfl
   have w2:(!(true == true))=false:=rfl
   simp (config:={ maxSteps:=3000000 }) (disch:=first|omega|(with_unfolding_all exact rfl)|(simp only[new_n,put_n,new_m];omega)|(refine put_m_le ?_;simp only[new_m];omega)) only [K4r23,u23s4,u23s5,u23s8,u23s9,u23s10,u23s11,u23s14,u23s15,u23s16,u23s17,u23s20,u23s21,u23s22,u23s23,u23s24,u23s27,u23s28,u23s29,u23s30,u23s31,u23s32,K4r25,Abs.W,reduceIte,Nat.reduceEqDiff,Nat.reduceAdd,decide_true,decide_false,kLoop_def,Nat.reduceSub,List.cons_append,List.nil_append,List.append_nil,List.length_cons,List.length_nil,Env.find_set,k8,k9,k10,k12,b10,pe,pf,w0,w1,w2,kEql_def,neqBool,ad,Nat.zero_add]
   refine ⟨_,_,rfl,⟨hB.same,hB.n,by have:=hB.le;omega⟩,mb,by simp only [Env.find_set,reduceIte,Nat.reduceEqDiff],fun c hc=>?_⟩
   simp only [Env.find_set]
   repeat rw [if_neg (by omega)]
   exact k7 c hc
  ·obtain rfl:=hhw hle h2w
   have w0:decide (0<weighI false (soldOf S i))=false:=decide_eq_false hle
   have w1:decide ((3:Int)=1)=false:=rfl
   have w2:(!(false == false))=false:=rfl
   have w3:decide ((3:Int)=3)=true:=rfl
   simp (config:={ maxSteps:=3000000 }) (disch:=first|omega|(with_unfolding_all exact rfl)|(simp only[new_n,put_n,new_m];omega)|(refine put_m_le ?_;simp only[new_m];omega)) only [K4r23,u23s4,u23s5,u23s8,u23s9,u23s10,u23s11,u23s14,u23s15,u23s16,u23s17,u23s20,u23s21,u23s22,u23s23,u23s24,u23s27,u23s28,u23s29,u23s30,u23s31,u23s32,K4r25,Abs.W,reduceIte,Nat.reduceEqDiff,Nat.reduceAdd,decide_true,decide_false,kLoop_def,Nat.reduceSub,List.cons_append,List.nil_append,List.append_nil,List.length_cons,List.length_nil,Env.find_set,k8,k9,k10,k12,b10,pe,pf,w0,w1,w2,w3,kEql_def,neqBool,ad,Nat.zero_add]
   refine ⟨_,_,rfl,⟨hB.same,hB.n,by have:=hB.le;omega⟩,mb,by simp only [Env.find_set,reduceIte,Nat.reduceEqDiff],fun c hc=>?_⟩
   simp only [Env.find_set]
   repeat rw [if_neg (by omega)]
   exact k7 c hc
end Go.Proofs.Ytamlnddeiokbdaa.walk
