/- The law StallAhead: of two neighbours the one ahead. -/
import Derived.Test.YthbhjgbpjlnbcaaM9
import Derived.Test.YthbhjgbpjlnbcaaM1
import Derived.Test.YthbhjgbpjlnbcaaM4
import Derived.Test.YthbhjgbpjlnbcaaM6
import Derived.Test.YthbhjgbpjlnbcaaM2
import Derived.Test.YthbhjgbpjlnbcaaProg
import Derived.Tactics
import Derived.Tactics2
import Derived.WalkKit
import Derived.OpenShut
import Derived.Below
import Derived.Lib.Hide
import Derived.KernelRfl
import Derived.Deep.RegionHeld3
import Derived.OwnWalk
import Derived.StillTailTactics
import Derived.Test.YthbhjgbpjlnbcaaAbsTop
import Derived.Test.YthbhjgbpjlnbcaaAbsWalk
import Derived.Test.YthbhjgbpjlnbcaaAwake
import Derived.Test.YthbhjgbpjlnbcaaWalkAll
set_option linter.unusedSimpArgs false
set_option maxHeartbeats 16000000
set_option linter.unusedVariables false
set_option maxRecDepth 10000
namespace Go.Proofs.Ythbhjgbpjlnbcaa.walk
open Go.Abs Go.Proofs.Ythbhjgbpjlnbcaa.code
theorem apart_two {b c o p:Nat} (h:b≠c):apartA (.ptr b o) (.ptr c p)=true:=by
 show (!Nat.beq b c)=true
 rw [nbeq_f h];rfl
theorem endO_two {M:Env} {s:St} {t u t' u':Nat} (h:apartA (M.find t) (M.find u)=true) (h':apartA (M.find t') (M.find u')=true):endO [(t,u),(t',u')] (.ok M s)=.ok M s:=endO_ok s (by rw [endOk_cons h,endOk_cons h',endOk_nil])
theorem aha_able (N:Nat) (hN:17≤N) {cx:Ctx} {w:St} {p4 z4 p6 bb st:Nat} {l:Letting} {vS vA vR:AV} {g:List Nat} {L:Env} {r:R} (hr:loopN K8l2 rounds (awd N) cx L [] w=r) (ok:l.Ok) (hst:st<l.stalls.length) (hR:RankOf l st g) (hL:LetAt (fun x=>x<bb) (fun x=>x<bb) w.h w.n l vS vA) (g4:w.h.get p4=some (.cells [vS,vA] z4)) (h4:p4<bb) (g6:w.h.get p6=some (.cells l.stalls[st].cells (tag 53))) (h6:p6<bb) (hbb:bb<w.n) (hG:Sl (fun x=>x<bb) w.h w.n 1 (natRows g) vR) (gb:w.h.get bb=some (.cells (hcell (bdL l st 0)) 0)) (hm:w.m≤far) (hs':w.n+2000≤far)
  (q4:L.find 4=.ptr p4 0) (q5:L.find 5=.int .i64 (st:Nat)) (q6:L.find 6=.ptr p6 0) (q7:L.find 7=vR) (q11:L.find 11=.slice bb 0 l.appls.length l.appls.length false) (q14:L.find 14=.int .i64 (manyN l st 0:Nat)) (q15:L.find 15=.int .i64 (0:Nat)) :
  ∃ L1 t,r=.done (.exit 2) L1 [] t∧(∀ c,c<w.n→c≠bb→t.h.get c=w.h.get c)∧t.h.get bb=some (.cells (hcell (bdL l st l.appls.length)) 0)∧w.n≤t.n∧t.n≤w.n+8∧t.m≤far∧L1.find 14=.int .i64 (manyN l st l.appls.length:Nat)∧∀ c,c<14→L1.find c=L.find c:=by
 have hf:far=1000000000:=rfl
 have m1:=ok.m1
 obtain ⟨e,L1,t,rfl,rfl,h⟩:=loop_of hr (fun i L' t'=>(∀ c,c<w.n→c≠bb→t'.h.get c=w.h.get c)∧t'.h.get bb=some (.cells (hcell (bdL l st i)) 0)∧w.n≤t'.n∧t'.n≤w.n+i∧t'.m≤far∧L'.find 14=.int .i64 (manyN l st i:Nat)∧L'.find 15=.int .i64 (i:Nat)∧∀ c,c<14→L'.find c=L.find c)
  (fun e L' t'=>e=.exit 2∧(∀ c,c<w.n→c≠bb→t'.h.get c=w.h.get c)∧t'.h.get bb=some (.cells (hcell (bdL l st l.appls.length)) 0)∧w.n≤t'.n∧t'.n≤w.n+8∧t'.m≤far∧L'.find 14=.int .i64 (manyN l st l.appls.length:Nat)∧∀ c,c<14→L'.find c=L.find c) l.appls.length (by unfold rounds;omega)
  ⟨fun _ _ _=>rfl,gb,Nat.le_refl _,Nat.le_refl _,hm,q14,q15,fun _ _=>rfl⟩
  (fun i L' t' hi ⟨same,jb,jn,jle,jm,p14,p15,q⟩=>by
   have p4':=(q 4 (by omega)).trans q4
   by_cases hlt:i<l.appls.length
   ·obtain ⟨L2,t2,x1,x2,x3,x4,x5,x6,x7,x8,x9⟩:=aha_round N hN cx ok hst hR hlt hL g4 h4 g6 h6 hbb hG same jb jn jle jm (by omega) p4' ((q 5 (by omega)).trans q5) ((q 6 (by omega)).trans q6) ((q 7 (by omega)).trans q7) ((q 11 (by omega)).trans q11) p14 p15
    exact .inl ⟨hlt,L2,t2,x1,x2,x3,x4,x5,x6,x7,x8,fun c hc=>(x9 c hc).trans (q c hc)⟩
   ·obtain rfl:i=l.appls.length:=by omega
    have e0:decide ((l.appls.length:Int)<(l.appls.length:Int))=false:=by simp
    have t4:=(same p4 (by omega) (by omega)).trans g4
    have kA:=hL.okV
    have lA:=hL.lenA
    refine .inr ⟨.exit 2,L'.set 105 (.bool false),t',by simp,?_,rfl,same,jb,jn,by omega,jm,?_,fun c hc=>?_⟩
    ·simp (disch:=first|omega|(with_unfolding_all exact rfl)|(simp only[new_n,put_n,new_m];omega)|(refine put_m_le ?_;simp only[new_m];omega)) only [K8l2,K8r18,Abs.W,reduceIte,Nat.reduceEqDiff,Nat.reduceAdd,decide_true,decide_false,kLoop_def,Nat.reduceSub,List.cons_append,List.nil_append,List.append_nil,List.length_cons,List.length_nil,efs,p4',p15,t4,kA,lA,e0,Nat.zero_add]
    ·simp only [efs,p14,reduceIte,Nat.reduceEqDiff]
    ·simp only [efs]
     rw [if_neg (by omega)]
     exact q c hc)
 exact ⟨L1,t,rfl,h⟩
theorem aha_pair (N:Nat) (cx:Ctx) {w t:St} {p4 z4 p6 bb bp k st kk:Nat} {l:Letting} {vS vA vR:AV} {g:List Nat} {L:Env} (ok:l.Ok) (hst:st<l.stalls.length) (hR:RankOf l st g) (hk:k+1<g.length) (hL:LetAt (fun x=>x<bb) (fun x=>x<bb) w.h w.n l vS vA) (g4:w.h.get p4=some (.cells [vS,vA] z4)) (h4:p4<w.n) (g6:w.h.get p6=some (.cells l.stalls[st].cells (tag 53))) (h6:p6<w.n) (hbb:bb<w.n) (hbp:bp<w.n) (hG:Sl (fun x=>x<bb) w.h w.n 1 (natRows g) vR) (gb:w.h.get bb=some (.cells (hcell (bdL l st l.appls.length)) 0)) (gp:w.h.get bp=some (.cells (hcell (plL l l.appls.length)) 0)) (same:∀ c,c<w.n→t.h.get c=w.h.get c) (jn:w.n≤t.n) (jle:t.n≤w.n+kk) (jm:t.m≤far) (hs':w.n+kk+1000≤far)
  (q4:L.find 4=.ptr p4 0) (q6:L.find 6=.ptr p6 0) (q7:L.find 7=vR) (q11:L.find 11=.slice bb 0 l.appls.length l.appls.length false) (q12:L.find 12=.slice bp 0 l.appls.length l.appls.length false) (q19:L.find 19=.int .i64 (k+1:Nat)) :
  ∃ L1 t1,K8l3 (awd N) cx L [] t=.done .norm L1 [] t1∧(∀ c,c<w.n→t1.h.get c=w.h.get c)∧w.n≤t1.n∧t1.n≤w.n+(kk+2)∧t1.m≤far∧L1.find 19=.int .i64 (k+1+1:Nat)∧∀ c,c<19→L1.find c=L.find c:=by
 have hf:far=1000000000:=rfl
 have m1:=ok.m1
 have hLt:=hL.grow same jn
 have hGt:=hG.grow same jn
 have t4:=(same p4 h4).trans g4
 have t6:=(same p6 h6).trans g6
 have kA:=hLt.okV
 have kR:=hGt.okA
 have lR:=natLen hGt.at_
 have hgl:g.length≤8:=by rw [hR.same.len];exact ableL_len ok st
 have e0:decide (((k+1:Nat):Int)<(g.length:Int))=true:=decide_eq_true (by omega)
 have sb:∀ s,aSub s .i64 ((k+1:Nat):Int) 1=.val (.int .i64 (k:Int)) s:=fun s=>by rw [aSub_i64 s _ _ (by omega)];congr 2;omega
 have ad:∀ s,aAdd s .i64 ((k+1:Nat):Int) 1=.val (.int .i64 (((k+1:Nat):Int)+1)) s:=fun s=>aAdd_i64 s _ _ (by omega)
 obtain ⟨b1,o1,c1,s1,x1,x2,x3,x4⟩:=natRow hGt.at_ (show k<g.length by omega)
 obtain ⟨b2,o2,c2,s2,y1,y2,y3,y4⟩:=natRow hGt.at_ hk
 have hkey:=(List.pairwise_iff_getElem.mp (rank_pairwise hR)) k (k+1) (by omega) hk (by omega)
 have hma:=(ableL_mem.mp ((hR.same.mem _).mp (List.getElem_mem (show k<g.length by omega))))
 have hmb:=(ableL_mem.mp ((hR.same.mem _).mp (List.getElem_mem hk)))
 generalize g[k]=a at *
 generalize g[k+1]=b at *
 obtain ⟨hal,hca⟩:=hma
 obtain ⟨hbl,hcb⟩:=hmb
 unfold StallR.cells at t6 g6
 by_cases hh:l.stalls[st].heir=(a:Int)
 ·have e1:decide ((a:Int)=l.stalls[st].heir)=true:=decide_eq_true hh.symm
  refine ⟨_,t,by
   simp (config:={ maxSteps:=2000000 }) (disch:=first|omega|(with_unfolding_all exact rfl)|(simp only[new_n,put_n,new_m];omega)|(refine put_m_le ?_;simp only[new_m];omega)) only [K8l3,K8r33,K8r34,K8r35,K8r42,Abs.W,reduceIte,Nat.reduceEqDiff,Nat.reduceAdd,decide_true,decide_false,kLoop_def,Nat.reduceSub,List.cons_append,List.nil_append,List.append_nil,List.length_cons,List.length_nil,efs,q6,q7,q19,kR,lR,e0,sb,x2,x3,x4,y2,y3,y4,t6,e1,ad,endO_nil,regD_ok,Nat.zero_add,Nat.add_zero]
   rfl,same,jn,by omega,jm,?_,fun c hc=>?_⟩
  ·simp only [efs,reduceIte,Nat.reduceEqDiff];rfl
  ·simp only [efs]
   repeat rw [if_neg (by omega)]
 have e1:decide ((a:Int)=l.stalls[st].heir)=false:=decide_eq_false fun e=>hh e.symm
 obtain ⟨hhb,hH⟩:=neigh ok hal hbl hst hkey hh
 have e4:decide ((b:Int)=l.stalls[st].heir)=false:=decide_eq_false fun e=>hhb e.symm
 obtain ⟨wwa,pa,oa,ca,za,⟨pal,pab⟩,a1,a2,a3,a4,a5⟩:=hLt.getA2 hal
 obtain ⟨wa1,wa2⟩:=wwa
 obtain ⟨wwb,pb,ob,cb,zb,⟨pbl,pbb⟩,b1',b2',b3',b4',b5'⟩:=hLt.getA2 hbl
 obtain ⟨wb1,wb2⟩:=wwb
 simp only at a3 a4 a5 b3' b4' b5'
 have sa1:=a4.scal
 have sa2:=a5.scal
 have sb1:=b4'.scal
 have sb2:=b5'.scal
 have n1:∀ s (c:Bool),notA s (.bool c)=.val (.bool !c) s:=fun _ _=>rfl
 have gn:((t.new (.cells [.int .i64 0,.int .i64 0,.nilslice,.nilslice] (tag 37))).new (.cells [.int .i64 0,.int .i64 0,.nilslice,.nilslice] (tag 37))).h.get (t.n+1)=some (.cells [.int .i64 0,.int .i64 0,.nilslice,.nilslice] (tag 37)):=get_new_eq _ _ _ rfl (by rw [new_n];omega)
 simp (config:={ maxSteps:=2000000 }) (disch:=first|omega|(with_unfolding_all exact rfl)|(simp only[new_n,put_n,new_m];omega)|(refine put_m_le ?_;simp only[new_m];omega)) only [K8l3,K8r33,K8r34,K8r35,K8r36,Abs.W,reduceIte,Nat.reduceEqDiff,Nat.reduceAdd,decide_true,decide_false,kLoop_def,Nat.reduceSub,List.cons_append,List.nil_append,List.append_nil,List.length_cons,List.length_nil,efs,q4,q6,q7,q19,kR,lR,e0,sb,x2,x3,x4,y2,y3,y4,t4,t6,e1,kA,a1,a2,a3,sa1.1,sa1.2.1,sa1.2.2,sa2.1,sa2.2.1,sa2.2.2,b1',b2',b3',sb1.1,sb1.2.1,sb1.2.2,sb2.1,sb2.2.1,sb2.2.2,endO_nil,regD_ok,new_n,gn,Nat.zero_add,Nat.add_zero]
 rw [endO_two (by simp only [find_cons,efs,reduceIte,Nat.reduceEqDiff];exact apart_two (by omega)) (by simp only [find_cons,efs,reduceIte,Nat.reduceEqDiff];exact apart_two (by omega))]
 generalize hy:St.put _ _ _=y
 have yn:y.n=t.n+2:=by rw [← hy];rfl
 have ym:y.m≤far:=by rw [← hy];simp only [St.put,minN_eq,new_m];omega
 have yg:∀ c,c<t.n→y.h.get c=t.h.get c:=fun c hc=>by rw [← hy,get_put_ne' _ _ _ _ (by omega),get_put_ne' _ _ _ _ (by omega),get_new_ne _ _ _ (by rw [new_n];omega),get_new_ne _ _ _ (by omega)]
 have y22:y.h.get t.n=some (.cells [.int .i64 l.appls[a].years,.int .i64 l.appls[a].token,wa1,wa2] (tag 37)):=by rw [← hy,get_put_ne' _ _ _ _ (by omega)];exact get_put_eq _ _ _ _ rfl (by omega)
 have y23:y.h.get (t.n+1)=some (.cells [.int .i64 l.appls[b].years,.int .i64 l.appls[b].token,wb1,wb2] (tag 37)):=by rw [← hy];exact get_put_eq _ _ _ _ rfl (by omega)
 clear hy
 have yw:∀ c,c<w.n→y.h.get c=w.h.get c:=fun c hc=>(yg c (by omega)).trans (same c hc)
 have y6:=(yw p6 h6).trans g6
 have yb:=(yw bb hbb).trans gb
 have yp:=(yw bp hbp).trans gp
 have yn1:w.n≤y.n:=by omega
 have yn2:y.n≤w.n+(kk+2):=by omega
 have ixB:∀ (x:Nat),x<l.appls.length→∀ s,ixsA 1 s (.slice bb 0 l.appls.length l.appls.length false) (.int .i64 (x:Int))=.val (.ptr bb x) s:=fun x hx s=>by rw [ixs_slice 1 s bb 0 _ _ false x hx,Nat.zero_add,Nat.mul_one]
 have ixP:∀ (x:Nat),x<l.appls.length→∀ s,ixsA 1 s (.slice bp 0 l.appls.length l.appls.length false) (.int .i64 (x:Int))=.val (.ptr bp x) s:=fun x hx s=>by rw [ixs_slice 1 s bp 0 _ _ false x hx,Nat.zero_add,Nat.mul_one]
 have nb:∀ (x:Nat),x<l.appls.length→canI l st x=true→nth (hcell (bdL l st l.appls.length)) x=.int .i64 (bidI l st x).1:=fun x hx hc=>by
  rw [hcell_nth (by rw [bdL_len];exact hx),← bdL_get ok hx hst hc]
  simp [List.getD,bdL_len,hx]
 have np:∀ (x:Nat),x<l.appls.length→nth (hcell (plL l l.appls.length)) x=.int .i64 (drI l x):=fun x hx=>by
  rw [hcell_nth (by rw [plL_len];exact hx),← plL_get hx]
  simp [List.getD,plL_len,hx]
 have nba:=nb a hal hca
 have nbb:=nb b hbl hcb
 have npa:=np a hal
 have npb:=np b hbl
 simp (disch:=first|omega|(with_unfolding_all exact rfl)|(simp only[new_n,put_n,new_m];omega)|(refine put_m_le ?_;simp only[new_m];omega)) only [K8r37,Abs.W,reduceIte,Nat.reduceEqDiff,Nat.reduceAdd,decide_true,decide_false,kLoop_def,Nat.reduceSub,List.cons_append,List.nil_append,List.append_nil,List.length_cons,List.length_nil,efs,q6,y6,endO_nil,regD_ok,Nat.zero_add,Nat.add_zero]
 have u38s5:=eq3 K8r38s5.eq_1
 have u38s6:=eq3 K8r38s6.eq_1
 have u38s7:=eq3 K8r38s7.eq_1
 have u38s8:=eq3 K8r38s8.eq_1
 have u38s9:=eq3 K8r38s9.eq_1
 have u38s12:=eq3 K8r38s12.eq_1
 have u38s13:=eq3 K8r38s13.eq_1
 have u38s14:=eq3 K8r38s14.eq_1
 have u38s15:=eq3 K8r38s15.eq_1
 have u38s16:=eq3 K8r38s16.eq_1
 have u38s17:=eq3 K8r38s17.eq_1
 have u38s18:=eq3 K8r38s18.eq_1
 have u38s19:=eq3 K8r38s19.eq_1
 have u38s20:=eq3 K8r38s20.eq_1
 have u38s21:=eq3 K8r38s21.eq_1
 have u38s22:=eq3 K8r38s22.eq_1
 have u38s23:=eq3 K8r38s23.eq_1
 have u38s24:=eq3 K8r38s24.eq_1
 have u38s25:=eq3 K8r38s25.eq_1
 have u38s26:=eq3 K8r38s26.eq_1
 have u38s27:=eq3 K8r38s27.eq_1
 have u38s28:=eq3 K8r38s28.eq_1
 have u38s29:=eq3 K8r38s29.eq_1
 have u38s30:=eq3 K8r38s30.eq_1
 have u38s31:=eq3 K8r38s31.eq_1
 have u38s32:=eq3 K8r38s32.eq_1
 have u38s33:=eq3 K8r38s33.eq_1
 have u38s34:=eq3 K8r38s34.eq_1
 have u38s35:=eq3 K8r38s35.eq_1
 have u38s36:=eq3 K8r38s36.eq_1
 have u38s37:=eq3 K8r38s37.eq_1
 have u38s38:=eq3 K8r38s38.eq_1
 have u38s39:=eq3 K8r38s39.eq_1
 have u38s40:=eq3 K8r38s40.eq_1
 have u38s41:=eq3 K8r38s41.eq_1
 have u39s5:=eq3 K8r39s5.eq_1
 have u39s6:=eq3 K8r39s6.eq_1
 have u39s7:=eq3 K8r39s7.eq_1
 have u39s8:=eq3 K8r39s8.eq_1
 have u39s9:=eq3 K8r39s9.eq_1
 have u39s10:=eq3 K8r39s10.eq_1
 have u39s11:=eq3 K8r39s11.eq_1
 have u39s12:=eq3 K8r39s12.eq_1
 have u39s13:=eq3 K8r39s13.eq_1
 have u39s14:=eq3 K8r39s14.eq_1
 have u39s15:=eq3 K8r39s15.eq_1
 have u39s16:=eq3 K8r39s16.eq_1
 have u39s17:=eq3 K8r39s17.eq_1
 have u39s18:=eq3 K8r39s18.eq_1
 have u39s19:=eq3 K8r39s19.eq_1
 have u39s20:=eq3 K8r39s20.eq_1
 have u39s21:=eq3 K8r39s21.eq_1
 have u39s22:=eq3 K8r39s22.eq_1
 have u39s23:=eq3 K8r39s23.eq_1
 have u39s24:=eq3 K8r39s24.eq_1
 have u40s6:=eq3 K8r40s6.eq_1
 have u40s7:=eq3 K8r40s7.eq_1
 have u40s8:=eq3 K8r40s8.eq_1
 have u40s9:=eq3 K8r40s9.eq_1
 have u40s10:=eq3 K8r40s10.eq_1
 have u40s11:=eq3 K8r40s11.eq_1
 have u40s12:=eq3 K8r40s12.eq_1
 have u40s13:=eq3 K8r40s13.eq_1
 have u40s14:=eq3 K8r40s14.eq_1
 have u40s15:=eq3 K8r40s15.eq_1
 have u40s16:=eq3 K8r40s16.eq_1
 have u40s17:=eq3 K8r40s17.eq_1
 have u40s18:=eq3 K8r40s18.eq_1
 have u40s19:=eq3 K8r40s19.eq_1
 have u40s20:=eq3 K8r40s20.eq_1
 have u40s21:=eq3 K8r40s21.eq_1
 have u40s22:=eq3 K8r40s22.eq_1
 rcases hH with ⟨z1,z2⟩ | ⟨z1,z2⟩ | ⟨z1,z2,z3⟩ | ⟨z1,z2⟩ | ⟨z1,z2,z3⟩ | ⟨z1,z2,z3,z4⟩
 ·have d1:decide (l.stalls[st].rule=1)=true:=decide_eq_true (by omega)
  have d2:decide (l.stalls[st].rule=2)=false:=decide_eq_false (by omega)
  have d3:decide (l.stalls[st].rule=3)=false:=decide_eq_false (by omega)
  have dd:decide (drI l a<drI l b)=true:=decide_eq_true (by omega)
  refine ⟨_,y,by
   simp (config:={ maxSteps:=4000000 }) (disch:=first|omega|(with_unfolding_all exact rfl)|(simp only[new_n,put_n,new_m];omega)|(refine put_m_le ?_;simp only[new_m];omega)) only [K8r38,K8r39,K8r40,K8r42,u38s5,u38s6,u38s7,u38s8,u38s9,u38s12,u38s13,u38s14,u38s15,u38s16,u38s17,u38s18,u38s19,u38s20,u38s21,u38s22,u38s23,u38s24,u38s25,u38s26,u38s27,u38s28,u38s29,u38s30,u38s31,u38s32,u38s33,u38s34,u38s35,u38s36,u38s37,u38s38,u38s39,u38s40,u38s41,u39s5,u39s6,u39s7,u39s8,u39s9,u39s10,u39s11,u39s12,u39s13,u39s14,u39s15,u39s16,u39s17,u39s18,u39s19,u39s20,u39s21,u39s22,u39s23,u39s24,u40s6,u40s7,u40s8,u40s9,u40s10,u40s11,u40s12,u40s13,u40s14,u40s15,u40s16,u40s17,u40s18,u40s19,u40s20,u40s21,u40s22,Abs.W,reduceIte,Nat.reduceEqDiff,Nat.reduceAdd,decide_true,decide_false,kLoop_def,Nat.reduceSub,List.cons_append,List.nil_append,List.append_nil,List.length_cons,List.length_nil,efs,y6,y22,y23,q6,q11,q12,q19,ixB a hal,ixB b hbl,ixP a hal,ixP b hbl,yb,yp,nba,nbb,npa,npb,e4,d1,d2,d3,dd,n1,ad,endO_nil,regD_ok,Nat.zero_add,Nat.add_zero]
   rfl,yw,yn1,yn2,ym,?_,fun c hc=>?_⟩
  ·simp only [efs,reduceIte,Nat.reduceEqDiff];rfl
  ·simp only [efs]
   repeat rw [if_neg (by omega)]
 ·have d1:decide (l.stalls[st].rule=1)=false:=decide_eq_false (by omega)
  have d2:decide (l.stalls[st].rule=2)=true:=decide_eq_true (by omega)
  have d3:decide (l.stalls[st].rule=3)=false:=decide_eq_false (by omega)
  have gy:decide (l.appls[b].years<l.appls[a].years)=true:=decide_eq_true (by omega)
  have ey:decide (l.appls[a].years=l.appls[b].years)=false:=decide_eq_false (by omega)
  refine ⟨_,y,by
   simp (config:={ maxSteps:=4000000 }) (disch:=first|omega|(with_unfolding_all exact rfl)|(simp only[new_n,put_n,new_m];omega)|(refine put_m_le ?_;simp only[new_m];omega)) only [K8r38,K8r39,K8r40,K8r42,u38s5,u38s6,u38s7,u38s8,u38s9,u38s12,u38s13,u38s14,u38s15,u38s16,u38s17,u38s18,u38s19,u38s20,u38s21,u38s22,u38s23,u38s24,u38s25,u38s26,u38s27,u38s28,u38s29,u38s30,u38s31,u38s32,u38s33,u38s34,u38s35,u38s36,u38s37,u38s38,u38s39,u38s40,u38s41,u39s5,u39s6,u39s7,u39s8,u39s9,u39s10,u39s11,u39s12,u39s13,u39s14,u39s15,u39s16,u39s17,u39s18,u39s19,u39s20,u39s21,u39s22,u39s23,u39s24,u40s6,u40s7,u40s8,u40s9,u40s10,u40s11,u40s12,u40s13,u40s14,u40s15,u40s16,u40s17,u40s18,u40s19,u40s20,u40s21,u40s22,Abs.W,reduceIte,Nat.reduceEqDiff,Nat.reduceAdd,decide_true,decide_false,kLoop_def,Nat.reduceSub,List.cons_append,List.nil_append,List.append_nil,List.length_cons,List.length_nil,efs,y6,y22,y23,q6,q11,q12,q19,ixB a hal,ixB b hbl,ixP a hal,ixP b hbl,yb,yp,nba,nbb,npa,npb,e4,d1,d2,d3,gy,ey,n1,ad,endO_nil,regD_ok,Nat.zero_add,Nat.add_zero]
   rfl,yw,yn1,yn2,ym,?_,fun c hc=>?_⟩
  ·simp only [efs,reduceIte,Nat.reduceEqDiff];rfl
  ·simp only [efs]
   repeat rw [if_neg (by omega)]
 ·have d1:decide (l.stalls[st].rule=1)=false:=decide_eq_false (by omega)
  have d2:decide (l.stalls[st].rule=2)=true:=decide_eq_true (by omega)
  have d3:decide (l.stalls[st].rule=3)=false:=decide_eq_false (by omega)
  have gy:decide (l.appls[b].years<l.appls[a].years)=false:=decide_eq_false (by omega)
  have ey:decide (l.appls[a].years=l.appls[b].years)=true:=decide_eq_true (by omega)
  have dd:decide (drI l a<drI l b)=true:=decide_eq_true (by omega)
  refine ⟨_,y,by
   simp (config:={ maxSteps:=4000000 }) (disch:=first|omega|(with_unfolding_all exact rfl)|(simp only[new_n,put_n,new_m];omega)|(refine put_m_le ?_;simp only[new_m];omega)) only [K8r38,K8r39,K8r40,K8r42,u38s5,u38s6,u38s7,u38s8,u38s9,u38s12,u38s13,u38s14,u38s15,u38s16,u38s17,u38s18,u38s19,u38s20,u38s21,u38s22,u38s23,u38s24,u38s25,u38s26,u38s27,u38s28,u38s29,u38s30,u38s31,u38s32,u38s33,u38s34,u38s35,u38s36,u38s37,u38s38,u38s39,u38s40,u38s41,u39s5,u39s6,u39s7,u39s8,u39s9,u39s10,u39s11,u39s12,u39s13,u39s14,u39s15,u39s16,u39s17,u39s18,u39s19,u39s20,u39s21,u39s22,u39s23,u39s24,u40s6,u40s7,u40s8,u40s9,u40s10,u40s11,u40s12,u40s13,u40s14,u40s15,u40s16,u40s17,u40s18,u40s19,u40s20,u40s21,u40s22,Abs.W,reduceIte,Nat.reduceEqDiff,Nat.reduceAdd,decide_true,decide_false,kLoop_def,Nat.reduceSub,List.cons_append,List.nil_append,List.append_nil,List.length_cons,List.length_nil,efs,y6,y22,y23,q6,q11,q12,q19,ixB a hal,ixB b hbl,ixP a hal,ixP b hbl,yb,yp,nba,nbb,npa,npb,e4,d1,d2,d3,gy,ey,dd,n1,ad,endO_nil,regD_ok,Nat.zero_add,Nat.add_zero]
   rfl,yw,yn1,yn2,ym,?_,fun c hc=>?_⟩
  ·simp only [efs,reduceIte,Nat.reduceEqDiff];rfl
  ·simp only [efs]
   repeat rw [if_neg (by omega)]
 ·by_cases z3:l.appls[a].years=l.appls[b].years
  ·have d1:decide (l.stalls[st].rule=1)=false:=decide_eq_false (by omega)
   have d2:decide (l.stalls[st].rule=2)=false:=decide_eq_false (by omega)
   have d3:decide (l.stalls[st].rule=3)=true:=decide_eq_true (by omega)
   have gb:decide ((bidI l st b).1<(bidI l st a).1)=true:=decide_eq_true (by omega)
   have ey:decide (l.appls[a].years=l.appls[b].years)=true:=decide_eq_true (by omega)
   refine ⟨_,y,by
    simp (config:={ maxSteps:=4000000 }) (disch:=first|omega|(with_unfolding_all exact rfl)|(simp only[new_n,put_n,new_m];omega)|(refine put_m_le ?_;simp only[new_m];omega)) only [K8r38,K8r39,K8r40,K8r42,u38s5,u38s6,u38s7,u38s8,u38s9,u38s12,u38s13,u38s14,u38s15,u38s16,u38s17,u38s18,u38s19,u38s20,u38s21,u38s22,u38s23,u38s24,u38s25,u38s26,u38s27,u38s28,u38s29,u38s30,u38s31,u38s32,u38s33,u38s34,u38s35,u38s36,u38s37,u38s38,u38s39,u38s40,u38s41,u39s5,u39s6,u39s7,u39s8,u39s9,u39s10,u39s11,u39s12,u39s13,u39s14,u39s15,u39s16,u39s17,u39s18,u39s19,u39s20,u39s21,u39s22,u39s23,u39s24,u40s6,u40s7,u40s8,u40s9,u40s10,u40s11,u40s12,u40s13,u40s14,u40s15,u40s16,u40s17,u40s18,u40s19,u40s20,u40s21,u40s22,Abs.W,reduceIte,Nat.reduceEqDiff,Nat.reduceAdd,decide_true,decide_false,kLoop_def,Nat.reduceSub,List.cons_append,List.nil_append,List.append_nil,List.length_cons,List.length_nil,efs,y6,y22,y23,q6,q11,q12,q19,ixB a hal,ixB b hbl,ixP a hal,ixP b hbl,yb,yp,nba,nbb,npa,npb,e4,d1,d2,d3,gb,ey,n1,ad,endO_nil,regD_ok,Nat.zero_add,Nat.add_zero]
    rfl,yw,yn1,yn2,ym,?_,fun c hc=>?_⟩
   ·simp only [efs,reduceIte,Nat.reduceEqDiff];rfl
   ·simp only [efs]
    repeat rw [if_neg (by omega)]
  ·have d1:decide (l.stalls[st].rule=1)=false:=decide_eq_false (by omega)
   have d2:decide (l.stalls[st].rule=2)=false:=decide_eq_false (by omega)
   have d3:decide (l.stalls[st].rule=3)=true:=decide_eq_true (by omega)
   have gb:decide ((bidI l st b).1<(bidI l st a).1)=true:=decide_eq_true (by omega)
   have ey:decide (l.appls[a].years=l.appls[b].years)=false:=decide_eq_false (by omega)
   refine ⟨_,y,by
    simp (config:={ maxSteps:=4000000 }) (disch:=first|omega|(with_unfolding_all exact rfl)|(simp only[new_n,put_n,new_m];omega)|(refine put_m_le ?_;simp only[new_m];omega)) only [K8r38,K8r39,K8r40,K8r42,u38s5,u38s6,u38s7,u38s8,u38s9,u38s12,u38s13,u38s14,u38s15,u38s16,u38s17,u38s18,u38s19,u38s20,u38s21,u38s22,u38s23,u38s24,u38s25,u38s26,u38s27,u38s28,u38s29,u38s30,u38s31,u38s32,u38s33,u38s34,u38s35,u38s36,u38s37,u38s38,u38s39,u38s40,u38s41,u39s5,u39s6,u39s7,u39s8,u39s9,u39s10,u39s11,u39s12,u39s13,u39s14,u39s15,u39s16,u39s17,u39s18,u39s19,u39s20,u39s21,u39s22,u39s23,u39s24,u40s6,u40s7,u40s8,u40s9,u40s10,u40s11,u40s12,u40s13,u40s14,u40s15,u40s16,u40s17,u40s18,u40s19,u40s20,u40s21,u40s22,Abs.W,reduceIte,Nat.reduceEqDiff,Nat.reduceAdd,decide_true,decide_false,kLoop_def,Nat.reduceSub,List.cons_append,List.nil_append,List.append_nil,List.length_cons,List.length_nil,efs,y6,y22,y23,q6,q11,q12,q19,ixB a hal,ixB b hbl,ixP a hal,ixP b hbl,yb,yp,nba,nbb,npa,npb,e4,d1,d2,d3,gb,ey,n1,ad,endO_nil,regD_ok,Nat.zero_add,Nat.add_zero]
    rfl,yw,yn1,yn2,ym,?_,fun c hc=>?_⟩
   ·simp only [efs,reduceIte,Nat.reduceEqDiff];rfl
   ·simp only [efs]
    repeat rw [if_neg (by omega)]
 ·have d1:decide (l.stalls[st].rule=1)=false:=decide_eq_false (by omega)
  have d2:decide (l.stalls[st].rule=2)=false:=decide_eq_false (by omega)
  have d3:decide (l.stalls[st].rule=3)=true:=decide_eq_true (by omega)
  have gy:decide (l.appls[b].years<l.appls[a].years)=true:=decide_eq_true (by omega)
  have ey:decide (l.appls[a].years=l.appls[b].years)=false:=decide_eq_false (by omega)
  have gb:decide ((bidI l st b).1<(bidI l st a).1)=false:=decide_eq_false (by omega)
  have eb:decide ((bidI l st a).1=(bidI l st b).1)=true:=decide_eq_true (by omega)
  refine ⟨_,y,by
   simp (config:={ maxSteps:=4000000 }) (disch:=first|omega|(with_unfolding_all exact rfl)|(simp only[new_n,put_n,new_m];omega)|(refine put_m_le ?_;simp only[new_m];omega)) only [K8r38,K8r39,K8r40,K8r42,u38s5,u38s6,u38s7,u38s8,u38s9,u38s12,u38s13,u38s14,u38s15,u38s16,u38s17,u38s18,u38s19,u38s20,u38s21,u38s22,u38s23,u38s24,u38s25,u38s26,u38s27,u38s28,u38s29,u38s30,u38s31,u38s32,u38s33,u38s34,u38s35,u38s36,u38s37,u38s38,u38s39,u38s40,u38s41,u39s5,u39s6,u39s7,u39s8,u39s9,u39s10,u39s11,u39s12,u39s13,u39s14,u39s15,u39s16,u39s17,u39s18,u39s19,u39s20,u39s21,u39s22,u39s23,u39s24,u40s6,u40s7,u40s8,u40s9,u40s10,u40s11,u40s12,u40s13,u40s14,u40s15,u40s16,u40s17,u40s18,u40s19,u40s20,u40s21,u40s22,Abs.W,reduceIte,Nat.reduceEqDiff,Nat.reduceAdd,decide_true,decide_false,kLoop_def,Nat.reduceSub,List.cons_append,List.nil_append,List.append_nil,List.length_cons,List.length_nil,efs,y6,y22,y23,q6,q11,q12,q19,ixB a hal,ixB b hbl,ixP a hal,ixP b hbl,yb,yp,nba,nbb,npa,npb,e4,d1,d2,d3,gy,ey,gb,eb,n1,ad,endO_nil,regD_ok,Nat.zero_add,Nat.add_zero]
   rfl,yw,yn1,yn2,ym,?_,fun c hc=>?_⟩
  ·simp only [efs,reduceIte,Nat.reduceEqDiff];rfl
  ·simp only [efs]
   repeat rw [if_neg (by omega)]
 ·have d1:decide (l.stalls[st].rule=1)=false:=decide_eq_false (by omega)
  have d2:decide (l.stalls[st].rule=2)=false:=decide_eq_false (by omega)
  have d3:decide (l.stalls[st].rule=3)=true:=decide_eq_true (by omega)
  have gy:decide (l.appls[b].years<l.appls[a].years)=false:=decide_eq_false (by omega)
  have ey:decide (l.appls[a].years=l.appls[b].years)=true:=decide_eq_true (by omega)
  have gb:decide ((bidI l st b).1<(bidI l st a).1)=false:=decide_eq_false (by omega)
  have eb:decide ((bidI l st a).1=(bidI l st b).1)=true:=decide_eq_true (by omega)
  have dd:decide (drI l a<drI l b)=true:=decide_eq_true (by omega)
  refine ⟨_,y,by
   simp (config:={ maxSteps:=4000000 }) (disch:=first|omega|(with_unfolding_all exact rfl)|(simp only[new_n,put_n,new_m];omega)|(refine put_m_le ?_;simp only[new_m];omega)) only [K8r38,K8r39,K8r40,K8r42,u38s5,u38s6,u38s7,u38s8,u38s9,u38s12,u38s13,u38s14,u38s15,u38s16,u38s17,u38s18,u38s19,u38s20,u38s21,u38s22,u38s23,u38s24,u38s25,u38s26,u38s27,u38s28,u38s29,u38s30,u38s31,u38s32,u38s33,u38s34,u38s35,u38s36,u38s37,u38s38,u38s39,u38s40,u38s41,u39s5,u39s6,u39s7,u39s8,u39s9,u39s10,u39s11,u39s12,u39s13,u39s14,u39s15,u39s16,u39s17,u39s18,u39s19,u39s20,u39s21,u39s22,u39s23,u39s24,u40s6,u40s7,u40s8,u40s9,u40s10,u40s11,u40s12,u40s13,u40s14,u40s15,u40s16,u40s17,u40s18,u40s19,u40s20,u40s21,u40s22,Abs.W,reduceIte,Nat.reduceEqDiff,Nat.reduceAdd,decide_true,decide_false,kLoop_def,Nat.reduceSub,List.cons_append,List.nil_append,List.append_nil,List.length_cons,List.length_nil,efs,y6,y22,y23,q6,q11,q12,q19,ixB a hal,ixB b hbl,ixP a hal,ixP b hbl,yb,yp,nba,nbb,npa,npb,e4,d1,d2,d3,gy,ey,gb,eb,dd,n1,ad,endO_nil,regD_ok,Nat.zero_add,Nat.add_zero]
   rfl,yw,yn1,yn2,ym,?_,fun c hc=>?_⟩
  ·simp only [efs,reduceIte,Nat.reduceEqDiff];rfl
  ·simp only [efs]
   repeat rw [if_neg (by omega)]
end Go.Proofs.Ythbhjgbpjlnbcaa.walk
set_option maxRecDepth 10000
namespace Go.Proofs.Ythbhjgbpjlnbcaa.walk
open Go.Abs Go.Proofs.Ythbhjgbpjlnbcaa.code
theorem aha_pairs (N:Nat) {cx:Ctx} {w:St} {p4 z4 p6 bb bp st:Nat} {l:Letting} {vS vA vR:AV} {g:List Nat} {L:Env} {r:R} (hr:loopN K8l3 rounds (awd N) cx L [] w=r) (ok:l.Ok) (hst:st<l.stalls.length) (hR:RankOf l st g) (hL:LetAt (fun x=>x<bb) (fun x=>x<bb) w.h w.n l vS vA) (g4:w.h.get p4=some (.cells [vS,vA] z4)) (h4:p4<w.n) (g6:w.h.get p6=some (.cells l.stalls[st].cells (tag 53))) (h6:p6<w.n) (hbb:bb<w.n) (hbp:bp<w.n) (hG:Sl (fun x=>x<bb) w.h w.n 1 (natRows g) vR) (gb:w.h.get bb=some (.cells (hcell (bdL l st l.appls.length)) 0)) (gp:w.h.get bp=some (.cells (hcell (plL l l.appls.length)) 0)) (hm:w.m≤far) (hs':w.n+2000≤far)
  (q4:L.find 4=.ptr p4 0) (q6:L.find 6=.ptr p6 0) (q7:L.find 7=vR) (q11:L.find 11=.slice bb 0 l.appls.length l.appls.length false) (q12:L.find 12=.slice bp 0 l.appls.length l.appls.length false) (q19:L.find 19=.int .i64 (0+1:Nat)) :
  ∃ L1 t,r=.done (.exit 6) L1 [] t∧∀ c,c<19→L1.find c=L.find c:=by
 have hf:far=1000000000:=rfl
 have kR:=hG.okA
 have lR:=natLen hG.at_
 have hgl:g.length≤8:=by rw [hR.same.len];exact ableL_len ok st
 obtain ⟨e,L1,t,rfl,rfl,h⟩:=loop_of hr (fun k L' t'=>(∀ c,c<w.n→t'.h.get c=w.h.get c)∧w.n≤t'.n∧t'.n≤w.n+2 * k∧t'.m≤far∧L'.find 19=.int .i64 (k+1:Nat)∧∀ c,c<19→L'.find c=L.find c)
  (fun e L' t'=>e=.exit 6∧∀ c,c<19→L'.find c=L.find c) g.length (by unfold rounds;omega)
  ⟨fun _ _=>rfl,Nat.le_refl _,Nat.le_refl _,hm,q19,fun _ _=>rfl⟩
  (fun k L' t' hk ⟨same,jn,jle,jm,p19,q⟩=>by
   have p7:=(q 7 (by omega)).trans q7
   by_cases hlt:k+1<g.length
   ·obtain ⟨L2,t2,x1,x2,x3,x4,x5,x6,x7⟩:=aha_pair N cx ok hst hR hlt hL g4 h4 g6 h6 hbb hbp hG gb gp same jn jle jm (by omega) ((q 4 (by omega)).trans q4) ((q 6 (by omega)).trans q6) p7 ((q 11 (by omega)).trans q11) ((q 12 (by omega)).trans q12) p19
    exact .inl ⟨by omega,L2,t2,x1,x2,x3,by rw [Nat.mul_succ];exact x4,x5,x6,fun c hc=>(x7 c hc).trans (q c hc)⟩
   ·have e0:decide (((k+1:Nat):Int)<(g.length:Int))=false:=decide_eq_false (by omega)
    refine .inr ⟨.exit 6,L'.set 175 (.bool false),t',by simp,?_,rfl,fun c hc=>?_⟩
    ·simp (disch:=first|omega|(with_unfolding_all exact rfl)|(simp only[new_n,put_n,new_m];omega)|(refine put_m_le ?_;simp only[new_m];omega)) only [K8l3,K8r33,Abs.W,reduceIte,Nat.reduceEqDiff,Nat.reduceAdd,decide_true,decide_false,kLoop_def,Nat.reduceSub,List.cons_append,List.nil_append,List.append_nil,List.length_cons,List.length_nil,efs,p7,p19,kR,lR,e0]
    ·simp only [efs]
     rw [if_neg (by omega)]
     exact q c hc)
 exact ⟨L1,t,rfl,h⟩
noncomputable def ahaRest:K:=(kSeq (kRegion K8r2 [4]) (kSeq (kRegion K8r3 [5]) (kSeq (kRegion K8r4 [6]) (kSeq (kRegion K8r5 [7,8]) (kSeq (kRegion K8r6 [9,10]) (kSeq (kSeq (kRegion K8r7 [65]) (kCond (.tmp 65) (kSeq (kRegion K8r8 [2]) kRet) kSkip)) (kSeq (kRegionD K8r9 [11,12]) (kSeq (kSeq (kRegion K8r10 [13]) (kBlock 0 (kLoop K8l0))) (kSeq (kRegion K8r16 [14]) (kSeq (kSeq (kRegion K8r17 [15]) (kBlock 2 (kLoop K8l2))) (kSeq (kSeq (kRegion K8r32 [19]) (kBlock 6 (kLoop K8l3))) (kSeq (kRegion K8r43 [2]) kRet))))))))))))
theorem aha_body (n:Nat) (hn:20≤n) (cx:Ctx) (s:St) (d:Nat) (hd:Die d s.h) (hdn:d<s.n) (hs:s.n+900000000≤far) (hm:s.m=far) :
  ∃ s',finA Try.prog Try.f8 (ahaRest (awd n) cx (.cons 3 (.ptr d 0) .nil) [] s)=.val (.bool true) s':=by
 have hf:far=1000000000:=rfl
 have knB:∀ args s,awd n (.fn 12) args s=call Try.prog X n (.fn 12) args s:=fun _ _=>rfl
 have knR:∀ args s,awd n (.fn 29) args s=call Try.prog X n (.fn 29) args s:=fun _ _=>rfl
 have knD:∀ args s,awd n (.fn 13) args s=call Try.prog X n (.fn 13) args s:=fun _ _=>rfl
 have knC:∀ args s,awd n (.fn 15) args s=call Try.prog X n (.fn 15) args s:=fun _ _=>rfl
 have knA:∀ s,awd n (.fn 14) [] s=.val (.bool true) s:=fun _=>rfl
 have ex0:∀ (a b:AV) (s:St),extA 0 s (.tup [a,b])=.val a s:=fun _ _ _=>rfl
 have ex1:∀ (a b:AV) (s:St),extA 1 s (.tup [a,b])=.val b s:=fun _ _ _=>rfl
 have okt:∀ (a b:AV) (s:St),okA (.val (.tup [a,b]) s)=.val (.tup [a,b]) s:=fun _ _ _=>rfl
 have z0:decide ((0:Int)=0)=true:=rfl
 unfold ahaRest
 simp (disch:=first|omega|(with_unfolding_all exact rfl)|(simp only[new_n,put_n,new_m];omega)|(refine put_m_le ?_;simp only[new_m];omega)) only [K8r2,Abs.W,reduceIte,Nat.reduceEqDiff,Nat.reduceAdd,decide_true,decide_false,kLoop_def,Nat.reduceSub,List.cons_append,List.nil_append,List.append_nil,List.length_cons,List.length_nil,efs,knB]
 generalize hc1:call _ _ _ (.fn 12) _ _=r1
 obtain ⟨l,vS,vA,bS,bA,t1,rfl,st1,d1,ok,hk,hmm,own⟩:=LettingOf_ex (k:=5) (m:=8) hc1 (by omega) hd hdn (by omega) (by omega) (by omega)
 have n1:=st1.n
 have k1:=st1.le
 have m1:=st1.mle
 have scB:=own.at_.scal
 have lm:=ok.m1
 have lk:=ok.k0
 simp (disch:=first|omega|(with_unfolding_all exact rfl)|(simp only[new_n,put_n,new_m];omega)|(refine put_m_le ?_;simp only[new_m];omega)) only [Abs.W,reduceIte,Nat.reduceEqDiff,Nat.reduceAdd,decide_true,decide_false,kLoop_def,Nat.reduceSub,List.cons_append,List.nil_append,List.append_nil,List.length_cons,List.length_nil,efs,scB,Nat.zero_add]
 obtain ⟨y,hy⟩:∃ y:St,y=(t1.new (.cells [.nilslice,.nilslice] (tag 28))).put t1.n (.cells [vS,vA] (tag 28)):=⟨_,rfl⟩
 have yn:y.n=t1.n+1:=by rw [hy];rfl
 have ym:y.m≤t1.m:=by rw [hy];simp only [St.put,minN_eq,new_m];omega
 have yg:∀ c,c<t1.n→y.h.get c=t1.h.get c:=fun c hc=>by rw [hy,get_put_ne' _ _ _ _ (by omega),get_new_ne _ _ _ (by omega)]
 have y4:y.h.get t1.n=some (.cells [vS,vA] (tag 28)):=by rw [hy];exact get_put_eq _ _ _ _ rfl (by omega)
 have dy:Die d y.h:=Die.keep d1 (yg d (by omega))
 have owny:=own.grow (h':=y.h) (n':=y.n) (fun c h1 _=>yg c h1) (by omega)
 have kA:=owny.at_.okV
 have kS:=owny.at_.okS
 have lS:=owny.at_.lenS
 have lA:=owny.at_.lenA
 rw [← hy]
 clear hy
 simp (disch:=first|omega|(with_unfolding_all exact rfl)|(simp only[new_n,put_n,new_m];omega)|(refine put_m_le ?_;simp only[new_m];omega)) only [K8r3,Abs.W,reduceIte,Nat.reduceEqDiff,Nat.reduceAdd,decide_true,decide_false,kLoop_def,Nat.reduceSub,List.cons_append,List.nil_append,List.append_nil,List.length_cons,List.length_nil,efs,y4,kS,lS,knC,Nat.zero_add]
 generalize hc2:call _ _ _ (.fn 15) _ _=r2
 obtain ⟨x2,t2,rfl,st2,d2,x20,x21⟩:=cast_ex hc2 (by omega) dy (by omega) (by omega) (by omega)
 obtain ⟨st,rfl⟩:∃ n:Nat,x2=n:=⟨x2.toNat,by omega⟩
 have hst:st<l.stalls.length:=by omega
 have n2:=st2.n
 have k2:=st2.le
 have m2:=st2.mle
 have g2:∀ c,c<y.n→c≠d→t2.h.get c=y.h.get c:=st2.same
 have x4:=(g2 t1.n (by omega) (by omega)).trans y4
 have own2:=owny.grow (h':=t2.h) (n':=t2.n) (fun c h1 h2=>g2 c h1 (by omega)) (by omega)
 obtain ⟨ps,os,cs,zs,⟨pl,_⟩,r1,r2,r3⟩:=own2.at_.getS2 hst
 obtain ⟨z,hz⟩:∃ z:St,z=(t2.new (.cells [.int .i64 0,.int .i64 0,.int .i64 0] (tag 53))).put t2.n (.cells [.int .i64 l.stalls[st].rule,.int .i64 l.stalls[st].least,.int .i64 l.stalls[st].heir] (tag 53)):=⟨_,rfl⟩
 have zn:z.n=t2.n+1:=by rw [hz];rfl
 have zm:z.m≤t2.m:=by rw [hz];simp only [St.put,minN_eq,new_m];omega
 have zg:∀ c,c<t2.n→z.h.get c=t2.h.get c:=fun c hc=>by rw [hz,get_put_ne' _ _ _ _ (by omega),get_new_ne _ _ _ (by omega)]
 have z6:z.h.get t2.n=some (.cells l.stalls[st].cells (tag 53)):=by rw [hz];exact get_put_eq _ _ _ _ rfl (by omega)
 have z4:=(zg t1.n (by omega)).trans x4
 have ownz:=own2.grow (h':=z.h) (n':=z.n) (fun c h1 _=>zg c h1) (by omega)
 simp (disch:=first|omega|(with_unfolding_all exact rfl)|(simp only[new_n,put_n,new_m];omega)|(refine put_m_le ?_;simp only[new_m];omega)) only [K8r4,Abs.W,reduceIte,Nat.reduceEqDiff,Nat.reduceAdd,decide_true,decide_false,kLoop_def,Nat.reduceSub,List.cons_append,List.nil_append,List.append_nil,List.length_cons,List.length_nil,efs,x4,kS,r1,r2,r3,Nat.zero_add]
 rw [← hz]
 clear hz
 simp (disch:=first|omega|(with_unfolding_all exact rfl)|(simp only[new_n,put_n,new_m];omega)|(refine put_m_le ?_;simp only[new_m];omega)) only [K8r5,Abs.W,reduceIte,Nat.reduceEqDiff,Nat.reduceAdd,decide_true,decide_false,kLoop_def,Nat.reduceSub,List.cons_append,List.nil_append,List.append_nil,List.length_cons,List.length_nil,efs,z4,kS,kA,knR,Nat.zero_add]
 generalize hc3:call _ _ _ (.fn 29) _ _=r3
 obtain ⟨vR,bd,g,t3,rfl,s3,hbd,hG,hR⟩:=Ranks_ex hc3 (by omega) ok hst ownz.at_ (by omega)
 have n3:=s3.n
 have k3:=s3.le
 have m3:=s3.m
 have kR:=hG.okA
 have x4:=(s3.same t1.n (by omega)).trans z4
 have x6:=(s3.same t2.n (by omega)).trans z6
 have own3:=ownz.grow (h':=t3.h) (n':=t3.n) (fun c h1 _=>s3.same c h1) (by omega)
 simp (disch:=first|omega|(with_unfolding_all exact rfl)|(simp only[new_n,put_n,new_m];omega)|(refine put_m_le ?_;simp only[new_m];omega)) only [K8r6,Abs.W,reduceIte,Nat.reduceEqDiff,Nat.reduceAdd,decide_true,decide_false,kLoop_def,Nat.reduceSub,List.cons_append,List.nil_append,List.append_nil,List.length_cons,List.length_nil,efs,ex0,ex1,okt,kR,x4,kS,kA,knD,Nat.zero_add]
 generalize hc5:call _ _ _ (.fn 13) _ _=r5
 obtain ⟨vO,t5,rfl,s5,hO⟩:=Draw_ex hc5 (by omega) ok own3.at_ (by omega)
 have n5:=s5.n
 have k5:=s5.le
 have m5:=s5.m
 have kO:=hO.okA
 have lO:=natLen hO.at_
 rw [drawL_len] at lO
 have w4:=(s5.same t1.n (by omega)).trans x4
 have w6:=(s5.same t2.n (by omega)).trans x6
 have own5:=own3.grow (h':=t5.h) (n':=t5.n) (fun c h1 _=>s5.same c h1) (by omega)
 have e1:decide ((l.appls.length:Int)=(l.appls.length:Int))=true:=by simp
 have mk:∀ s:St,makeA [.int .i64 0] 8 s (.int .i64 (l.appls.length:Int)) (.int .i64 (l.appls.length:Int))=.val (.slice s.n 0 l.appls.length l.appls.length false) (s.new (.cells (List.replicate l.appls.length [.int .i64 0]).flatten 0)):=fun s=>make_rows [.int .i64 0] 8 l.appls.length s (by omega) (by omega)
 have rep:(List.replicate l.appls.length [AV.int .i64 0]).flatten=hcell (List.replicate l.appls.length 0):=by
  unfold hcell intRows
  rw [List.map_replicate]
 rw [rep] at mk
 have u4:=eq3 K8r7s4.eq_1
 have u5:=eq3 K8r7s5.eq_1
 have u8:=eq3 K8r7s8.eq_1
 have u9:=eq3 K8r7s9.eq_1
 have u10:=eq3 K8r7s10.eq_1
 have u11:=eq3 K8r7s11.eq_1
 have u12:=eq3 K8r7s12.eq_1
 have u13:=eq3 K8r7s13.eq_1
 obtain ⟨w,hw⟩:∃ w:St,w=(t5.new (.cells (hcell (List.replicate l.appls.length 0)) 0)).new (.cells (hcell (List.replicate l.appls.length 0)) 0):=⟨_,rfl⟩
 have wn:w.n=t5.n+2:=by rw [hw];rfl
 have wm:w.m=t5.m:=by rw [hw];rfl
 have wg:∀ c,c<t5.n→w.h.get c=t5.h.get c:=fun c hc=>by rw [hw,get_new_ne _ _ _ (by rw [new_n];omega),get_new_ne _ _ _ (by omega)]
 have wb:w.h.get t5.n=some (.cells (hcell (bdL l st 0)) 0):=by rw [hw,get_new_ne _ _ _ (by rw [new_n];omega),bdL_zero];exact get_new_eq _ _ _ rfl (by omega)
 have wp:w.h.get (t5.n+1)=some (.cells (hcell (plL l 0)) 0):=by rw [hw,plL_zero];exact get_new_eq _ _ _ rfl (by rw [new_n];omega)
 simp (config:={ maxSteps:=2000000 }) (disch:=first|omega|(with_unfolding_all exact rfl)|(simp only[new_n,put_n,new_m];omega)|(refine put_m_le ?_;simp only[new_m];omega)) only [K8r7,u4,u5,u8,u9,u10,u11,u12,u13,K8r9,K8r10,Abs.W,reduceIte,Nat.reduceEqDiff,Nat.reduceAdd,decide_true,decide_false,kLoop_def,Nat.reduceSub,List.cons_append,List.nil_append,List.append_nil,List.length_cons,List.length_nil,efs,ex0,ex1,okt,kO,lO,z0,e1,w4,kA,lA,kMake_def,mk,new_n,endO_nil,regD_ok,Nat.zero_add]
 rw [← hw]
 clear hw
 have hLw:=own5.at_.move (h':=w.h) (n':=w.n) (no':=fun x=>x<t5.n) (na':=fun x=>x<t5.n) (fun b hb _=>⟨wg b hb,hb⟩) (fun b hb _=>⟨wg b hb,hb⟩) (by omega)
 have hOw:=hO.move (h':=w.h) (n':=w.n) (no':=fun x=>x<t5.n) (fun b hb _=>⟨wg b hb,hb⟩) (by omega)
 have hGw:=(Sl.of_at (no:=fun _=>True) hG fun _=>trivial).move (h':=w.h) (n':=w.n) (no':=fun x=>x<t5.n) (fun b hb _=>⟨(wg b (by omega)).trans (s5.same b hb),by omega⟩) (by omega)
 have w4':=(wg t1.n (by omega)).trans w4
 have w6':=(wg t2.n (by omega)).trans w6
 generalize hlp:loopN _ rounds _ _ _ _ _=rl
 obtain ⟨L1,t7,rfl,f1,f2,f3,f4,f5⟩:=aha_places n (bp:=t5.n+1) hlp ok hOw (by omega) (by omega) wp (by omega) (by omega)
  (by simp only [find_cons,efs,reduceIte,Nat.reduceEqDiff]) (by simp only [find_cons,efs,reduceIte,Nat.reduceEqDiff]) (by simp only [find_cons,efs,reduceIte,Nat.reduceEqDiff];rfl)
 have h4:L1.find 4=.ptr t1.n 0:=(f5 4 (by omega)).trans (by simp only [find_cons,efs,reduceIte,Nat.reduceEqDiff])
 have h5:L1.find 5=.int .i64 (st:Nat):=(f5 5 (by omega)).trans (by simp only [find_cons,efs,reduceIte,Nat.reduceEqDiff])
 have h6:L1.find 6=.ptr t2.n 0:=(f5 6 (by omega)).trans (by simp only [find_cons,efs,reduceIte,Nat.reduceEqDiff])
 have h7:L1.find 7=vR:=(f5 7 (by omega)).trans (by simp only [find_cons,efs,reduceIte,Nat.reduceEqDiff])
 have h11:L1.find 11=.slice t5.n 0 l.appls.length l.appls.length false:=(f5 11 (by omega)).trans (by simp only [find_cons,efs,reduceIte,Nat.reduceEqDiff])
 have h12:L1.find 12=.slice (t5.n+1) 0 l.appls.length l.appls.length false:=(f5 12 (by omega)).trans (by simp only [find_cons,efs,reduceIte,Nat.reduceEqDiff])
 have hL7:=hLw.move (h':=t7.h) (n':=t7.n) (no':=fun x=>x<t5.n) (na':=fun x=>x<t5.n) (fun b _ h=>⟨f2 b (by omega),h⟩) (fun b _ h=>⟨f2 b (by omega),h⟩) (by omega)
 have hG7:=hGw.move (h':=t7.h) (n':=t7.n) (no':=fun x=>x<t5.n) (fun b _ h=>⟨f2 b (by omega),h⟩) (by omega)
 simp (disch:=first|omega|(with_unfolding_all exact rfl)|(simp only[new_n,put_n,new_m];omega)|(refine put_m_le ?_;simp only[new_m];omega)) only [K8r16,K8r17,Abs.W,reduceIte,Nat.reduceEqDiff,Nat.reduceAdd,decide_true,decide_false,kLoop_def,Nat.reduceSub,List.cons_append,List.nil_append,List.append_nil,List.length_cons,List.length_nil,efs]
 generalize hlp:loopN _ rounds _ _ _ _ _=rl
 obtain ⟨L2,t8,rfl,y1,y2,y3,y4',y5,y14,y6⟩:=aha_able n (by omega) (p4:=t1.n) (p6:=t2.n) (bb:=t5.n) hlp ok hst hR hL7 ((f2 t1.n (by omega)).trans w4') (by omega) ((f2 t2.n (by omega)).trans w6') (by omega) (by omega) hG7 ((f2 t5.n (by omega)).trans wb) (by omega) (by omega)
  (by simp only [efs,h4,reduceIte,Nat.reduceEqDiff]) (by simp only [efs,h5,reduceIte,Nat.reduceEqDiff]) (by simp only [efs,h6,reduceIte,Nat.reduceEqDiff]) (by simp only [efs,h7,reduceIte,Nat.reduceEqDiff]) (by simp only [efs,h11,reduceIte,Nat.reduceEqDiff]) (by simp only [efs,reduceIte,Nat.reduceEqDiff];rfl) (by simp only [efs,reduceIte,Nat.reduceEqDiff];rfl)
 have i4:L2.find 4=.ptr t1.n 0:=(y6 4 (by omega)).trans (by simp only [efs,h4,reduceIte,Nat.reduceEqDiff])
 have i6:L2.find 6=.ptr t2.n 0:=(y6 6 (by omega)).trans (by simp only [efs,h6,reduceIte,Nat.reduceEqDiff])
 have i7:L2.find 7=vR:=(y6 7 (by omega)).trans (by simp only [efs,h7,reduceIte,Nat.reduceEqDiff])
 have i11:L2.find 11=.slice t5.n 0 l.appls.length l.appls.length false:=(y6 11 (by omega)).trans (by simp only [efs,h11,reduceIte,Nat.reduceEqDiff])
 have i12:L2.find 12=.slice (t5.n+1) 0 l.appls.length l.appls.length false:=(y6 12 (by omega)).trans (by simp only [efs,h12,reduceIte,Nat.reduceEqDiff])
 have hL8:=hL7.move (h':=t8.h) (n':=t8.n) (no':=fun x=>x<t5.n) (na':=fun x=>x<t5.n) (fun b _ h=>⟨y1 b (by omega) (by omega),h⟩) (fun b _ h=>⟨y1 b (by omega) (by omega),h⟩) (by omega)
 have hG8:=hG7.move (h':=t8.h) (n':=t8.n) (no':=fun x=>x<t5.n) (fun b _ h=>⟨y1 b (by omega) (by omega),h⟩) (by omega)
 have kR8:=hG8.okA
 have lR8:=natLen hG8.at_
 simp (disch:=first|omega|(with_unfolding_all exact rfl)|(simp only[new_n,put_n,new_m];omega)|(refine put_m_le ?_;simp only[new_m];omega)) only [K8r32,Abs.W,reduceIte,Nat.reduceEqDiff,Nat.reduceAdd,decide_true,decide_false,kLoop_def,Nat.reduceSub,List.cons_append,List.nil_append,List.append_nil,List.length_cons,List.length_nil,efs]
 generalize hlp:loopN _ rounds _ _ _ _ _=rl
 obtain ⟨L3,t9,rfl,v1⟩:=aha_pairs n (p4:=t1.n) (p6:=t2.n) (bb:=t5.n) (bp:=t5.n+1) hlp ok hst hR hL8 ((y1 t1.n (by omega) (by omega)).trans ((f2 t1.n (by omega)).trans w4')) (by omega) ((y1 t2.n (by omega) (by omega)).trans ((f2 t2.n (by omega)).trans w6')) (by omega) (by omega) (by omega) hG8 y2 ((y1 (t5.n+1) (by omega) (by omega)).trans f1) (by omega) (by omega)
  (by simp only [efs,i4,reduceIte,Nat.reduceEqDiff]) (by simp only [efs,i6,reduceIte,Nat.reduceEqDiff]) (by simp only [efs,i7,reduceIte,Nat.reduceEqDiff]) (by simp only [efs,i11,reduceIte,Nat.reduceEqDiff]) (by simp only [efs,i12,reduceIte,Nat.reduceEqDiff]) (by simp only [efs,reduceIte,Nat.reduceEqDiff];rfl)
 have j7:L3.find 7=vR:=(v1 7 (by omega)).trans (by simp only [efs,i7,reduceIte,Nat.reduceEqDiff])
 have j14:L3.find 14=.int .i64 (manyN l st l.appls.length:Nat):=(v1 14 (by omega)).trans (by simp only [efs,y14,reduceIte,Nat.reduceEqDiff])
 have e9:decide ((manyN l st l.appls.length:Int)=(g.length:Int))=true:=decide_eq_true (by rw [hR.same.len];rfl)
 have v6:=eq3 K8r43s6.eq_1
 simp (disch:=first|omega|(with_unfolding_all exact rfl)|(simp only[new_n,put_n,new_m];omega)|(refine put_m_le ?_;simp only[new_m];omega)) only [K8r43,v6,res8,Abs.W,reduceIte,Nat.reduceEqDiff,Nat.reduceAdd,decide_true,decide_false,kLoop_def,Nat.reduceSub,List.cons_append,List.nil_append,List.append_nil,List.length_cons,List.length_nil,efs,j7,j14,kR8,lR8,e9,knA]
 exact ⟨_,rfl⟩
end Go.Proofs.Ythbhjgbpjlnbcaa.walk
set_option maxRecDepth 10000
namespace Go.Proofs.Ythbhjgbpjlnbcaa.walk
open Go.Abs Go.Proofs.Ythbhjgbpjlnbcaa.code
end Go.Proofs.Ythbhjgbpjlnbcaa.walk
namespace Go.Proofs.Ythbhjgbpjlnbcaa.mdie
open Go.RowKit
def Die (b:Nat) (w:World):Prop:=∃ s,w.heap[b]? = some (.cells #[.int .u64 s] 63 (0,0))
theorem Die.old {b:Nat} {w:World} (h:Die b w):(∃ s,w.cell? ⟨b,0,none⟩=some (.int .u64 s))∧w.frozen? ⟨b,0,none⟩=false:=by
 obtain ⟨s,hs⟩:=h
 refine ⟨⟨s,?_⟩,?_⟩
 ·unfold World.cell?;simp [hs]
 ·unfold World.frozen?;simp [hs]
structure Stir (b:Nat) (w w':World):Prop where
 below:Below b w w'
 rest:∀ p:Addr,p.block≠b→p.block<w.heap.size→w'.cell? p=w.cell? p∧w'.frozen? p=w.frozen? p
 die:Die b w'
def Gives (b:Nat) (k:IntKind) (Q:Int→Prop) (w:World) (e:Ending) (w':World):Prop:=∃ r,Q r∧e=.returned (.int k r)∧Stir b w w'
theorem bits_nonneg (op:BinOp) (x y:Int):0≤bits op .u64 x y:=by
 have:=bounds_u64 (wf_bits (k:=.u64) (op:=op) (x:=x) (y:=y))
 exact this.1
theorem Stir.set {b:Nat} {w:World} (h:Die b w) (s:Int):Stir b w (w.setCell ⟨b,0,none⟩ (.int .u64 s)):=by
 obtain ⟨t,ht⟩:=h
 refine ⟨(Below.refl b w).setCell (p:=⟨b,0,none⟩) (Nat.le_refl b) _,fun p hp _=>⟨World.cell?_of_block (Below.heap_setCell _ _ _ _ hp),World.frozen?_of_block (Below.heap_setCell _ _ _ _ hp)⟩,⟨s,?_⟩⟩
 unfold World.setCell
 simp [Array.getElem?_modify,ht]
theorem roll (b:Nat) (w:World) (h:Die b w):Calls Try.prog 32 #[.pointer (some ⟨b,0,none⟩)] w (Gives b .u64 (fun r=>0≤r) w):=by
 have h':=Lib.hid h
 obtain ⟨⟨s,hs⟩,hf⟩:=h.old
 clear h
 go_enter Try.func32,Try.ntmps32
 go_wp2
 go_ret
 exact ⟨_,bits_nonneg _ _ _,rfl,Stir.set h'.out _⟩
theorem Stir.refl {b:Nat} {w:World} (h:Die b w):Stir b w w:=⟨Below.refl _ _,fun _ _ _=>⟨rfl,rfl⟩,h⟩
theorem Stir.trans {b:Nat} {u v w:World} (h:Stir b u v) (k:Stir b v w):Stir b u w :=
 ⟨h.below.trans k.below,fun p hp hb=>⟨(k.rest p hp (Nat.lt_of_lt_of_le hb h.below.size)).1.trans (h.rest p hp hb).1,(k.rest p hp (Nat.lt_of_lt_of_le hb h.below.size)).2.trans (h.rest p hp hb).2⟩,k.die⟩
theorem Die.lt {b:Nat} {w:World} (h:Die b w):b<w.heap.size:=by obtain ⟨⟨s,hs⟩,_⟩:=h.old;exact World.block_lt_of_cell? w _ hs
theorem Stir.drew {b:Nat} {w w':World} (h:Stir b w w'):Stir b w w'.drew:=h.trans ⟨⟨rfl,rfl,rfl,Nat.le_refl _,fun _ _=>rfl⟩,fun _ _ _=>⟨rfl,rfl⟩,h.die⟩
def Born (w:World) (e:Ending) (w':World):Prop:=e=.returned (.pointer (some ⟨w.heap.size,0,none⟩))∧Below w.heap.size w w'∧Die w.heap.size w'∧w.heap.size<w'.heap.size
theorem Die.born (w:World) (s:Int):Die w.heap.size (w.alloc (.cells #[.int .u64 s] 63)):=⟨s,by show (w.heap.push _)[w.heap.size]? = _;rw [Array.getElem?_push,if_pos rfl]⟩
set_option maxRecDepth 100000 in
theorem born (x:Option Addr) (n c:Nat) (w:World) (hn:n≤maxLen) (hc:∀ i,i<n→∃ b o,x=some ⟨b,o,none⟩∧∃ v,w.cell? ⟨b,o+i,none⟩=some (.int .i64 v)) :
  Calls Try.prog 11 #[.slice x n c] w (Born w):=by
 unfold maxLen at hn
 have HC:=Lib.hid hc
 clear hc
 have hdie:=Lib.hid (Die.born w 2611923443488327891)
 go_enter Try.func11,Try.ntmps11
 go_wp2
 go_loopw [4] (fun i wr=>∃ k:Nat,k≤n∧i=.int .i64 k∧Stir w.heap.size (w.alloc (.cells #[.int .u64 2611923443488327891] 63)) wr) (fun i _=>n - (intOf i).toNat)
 case atStart=>exact ⟨0,Nat.zero_le _,rfl,Stir.refl hdie.out⟩
 case round =>
  obtain ⟨k,hk,rfl,hs⟩:=hrel
  by_cases hlt:k<n
  ·obtain ⟨b,o,rfl,v,hv⟩:=HC.out k hlt
   have hb:=World.block_lt_of_cell? _ _ hv
   simp only at hb
   have hv1:wr.cell? ⟨b,o+k,none⟩=some (.int .i64 v):=((hs.rest ⟨b,o+k,none⟩ (Nat.ne_of_lt hb) (by simp;omega)).1.trans (World.cell?_of_block (Below.heap_alloc _ _ _ hb))).trans hv
   clear hv
   obtain ⟨⟨s,hd⟩,hf⟩:=hs.die.old
   have hst:=Lib.hid (fun s1:Int=>(hs.drew).trans (Stir.set hs.drew.die s1))
   have hlt':(k:Int)<(n:Int):=by omega
   have hk0:(0:Int)≤(k:Int):=by omega
   go_wp2
   go_still_tail 12,(by kernel_rfl)
   change wpList _ _ _ _ _ wr.drew
   go_wp2_with (go_at_call 32;refine (roll _ _ ?_).mono ?_;exact (hst.out _).die;rintro e w1 ⟨r,hr,rfl,hs1⟩;(have hs2:=(hst.out _).trans hs1))
   go_roundw
   case rel=>exact ⟨k+1,by omega,by go_num,hs2⟩
   case measure=>simp [intOf];omega
  ·go_wp2
   go_ret
   exact ⟨rfl,((Below.refl w.heap.size w).alloc (Nat.le_refl _) _).trans hs.below,hs.die,by have:=hs.below.size;simp at this;omega⟩
end Go.Proofs.Ythbhjgbpjlnbcaa.mdie
namespace Go.Abs
open Go.RowKit
variable {P:Program}
theorem mid_calls {cl:CallF} (hc:CallSound P cl) {f:FuncId} {fn:Func} (hf:P.funcs[f]? = some fn) {c0 c1 rest:Code} (hb:fn.body=some (.seq c0 (.seq c1 rest))) {X:FuncId→List Nat} {k:K} {A:Array Value} {W:World} {R:Ending→World→Prop}
  (h:c0.wp P (Exit.then (fun a w=>c1.wp P (Exit.then (fun a w=>∃ ρ L s v s',ActRel ρ fn.ntmps L [] a∧Clean (X f) L∧SRel ρ s w∧finA P fn (k cl ⟨f,none,fn.ntmps,X f⟩ L [] s)=.val v s'∧∀ ρ' V W',After ρ s w ρ' s' W'→VRel ρ' v V→R (.returned V) W') fun _ _ _=>False) a w) fun _ _ _=>False)
   { tmps:=A++Array.replicate (fn.ntmps - A.size) undef,defers:=[] } W)
  (hk:codeK P (X f) fn.ntmps rest=some k):Calls P f A W R:=by
 intro cs
 obtain ⟨b,hbd⟩:∃ b:Frame,b={ (default:Frame) with fn:=f,kind:=.normal }:=⟨_,rfl⟩
 have hr:b.roundOf=none:=by rw [hbd];rfl
 have henter:Frame.enter P f A .normal=b.at { tmps:=A++Array.replicate (fn.ntmps - A.size) undef,defers:=[] } [.code (.seq c0 (.seq c1 rest))]:=by
  rw [hbd];simp [Frame.enter,Frame.at,hf,hb]
 obtain ⟨e0,a0,w0,q0,ar0⟩:=h b [.code (.seq c1 rest)] cs
 cases e0<;>simp only [Exit.then] at q0
 obtain ⟨e1,a1,w1,q1,ar1⟩:=q0 b [.code rest] cs
 cases e1<;>simp only [Exit.then] at q1
 obtain ⟨ρ,L,s,v,s',hact,hclean,hs,hfin,hR⟩:=q1
 have st1:Steps P (lone (Frame.enter P f A .normal) cs W) (lone (b.atR a1 [.code rest]) cs w1):=by
  rw [henter,Frame.atR_of_none hr]
  exact (Steps.head step_seq ar0).trans (Steps.head step_seq ar1)
 have hctx:CtxRel ρ ⟨f,none,fn.ntmps,X f⟩ b:=⟨by rw [hbd],by rw [hbd],fun _=>hr,fun l e=>by cases e⟩
 generalize hr2:k cl ⟨f,none,fn.ntmps,X f⟩ L [] s=r at hfin
 cases r with
 | fail=>cases hfin
 | done e L1 d s₁ =>
  obtain ⟨ρ₁,a₁,W₁,af,ha₁,_,_,st⟩:=codeK_sound rest hk hc rfl rfl hctx hact hclean hs hr2
  have fin:∀ (hle:leaveA P fn.results.toList L1 d s₁=.val v s') (hst:∃ t,Steps P (lone (Frame.enter P f A .normal) cs W) (lone (back b a₁ t) cs W₁)),
    ∃ V w' fr,R (.returned V) w'∧Steps P (lone (Frame.enter P f A .normal) cs W) (lone fr cs w')∧fr.fn=f∧fr.leaving P w' (.returned V):=by
   intro hle hst
   obtain ⟨V,W₂,af₂,hv,st₂⟩:=leaveA_calls ha₁ af.rel hle
   obtain ⟨t,st₁⟩:=hst
   obtain ⟨fr,h1,h2,h3⟩:=st₂ b (by rw [hbd]) (by rw [hbd];exact hf) t cs
   exact ⟨V,W₂,fr,hR _ _ _ (af.trans af₂) hv,Steps.trans st₁ h1,by rw [h2,hbd],h3⟩
  cases e with
  | exit id=>cases hfin
  | norm =>
   have z:=st [] cs
   obtain ⟨V,w',fr,h1,h2,h3,h4⟩:=fin hfin ⟨[],st1.trans (Steps.trans z (.one (stepR_end hr)))⟩
   exact ⟨.returned V,w',fr,h1,h2,h3,h4⟩
  | ret =>
   obtain ⟨k0,z⟩:=st [] cs
   obtain ⟨V,w',fr,h1,h2,h3,h4⟩:=fin hfin ⟨.code .ret::k0,st1.trans (z.trans (.one (stepR_ret hr)))⟩
   exact ⟨.returned V,w',fr,h1,h2,h3,h4⟩
end Go.Abs
set_option maxRecDepth 10000
namespace Go.Proofs.Ythbhjgbpjlnbcaa.walk
open Go.Abs Go.RowKit Go.Proofs.Ythbhjgbpjlnbcaa.code
noncomputable def die0 (F:Int):St:=St.new ⟨.nil,0,far⟩ (.cells [.int .u64 F] (tag 63))
def rho0 (d:Nat):Rho:=fun b=>if b=0 then some (d,(0,0)) else none
theorem die0_get {F:Int} {b:Nat} {o:AObj} (h:(die0 F).h.get b=some o):b=0∧o=.cells [.int .u64 F] (tag 63):=by
 by_cases e:b=0
 ·subst e
  have:(die0 F).h.get 0=some (.cells [.int .u64 F] (tag 63)):=get_new_eq _ _ _ rfl (by decide)
  rw [this] at h
  exact ⟨rfl,(Option.some.inj h).symm⟩
 ·unfold die0 at h
  rw [get_new_ne _ _ _ e] at h
  cases h
theorem die0_has {F:Int} {b x:Nat} {o:AObj} (h:Has (die0 F).h b x o):b=0∧x=0∧o=.cells [.int .u64 F] (tag 63):=by
 obtain ⟨y,hy,hp⟩:=h
 obtain ⟨rfl,rfl⟩:=die0_get hy
 have hl:AObj.lone (.cells [.int .u64 F] (tag 63)):=trivial
 rw [parts_lone hl] at hp
 have:=List.mem_singleton.mp hp
 cases this
 exact ⟨rfl,rfl,rfl⟩
theorem die0_rel {F:Int} {d:Nat} {W:World} (h:W.heap[d]? = some (.cells #[.int .u64 F] 63 (0,0))):SRel (rho0 d) (die0 F) W:=by
 refine ⟨⟨fun b o hb=>?_,fun b x o hb=>?_,fun b b' x x' o o' c e e' hb hb' _ _=>?_,fun g cs hg=>(by cases hg),fun b x o c e hb hr=>rfl,fun b x x' o o' c e e' hb hb' hr hr'=>?_⟩,fun b hb=>?_⟩
 ·rw [(die0_get hb).1];decide
 ·obtain ⟨rfl,rfl,rfl⟩:=die0_has hb
  exact ⟨d,(0,0),_,if_pos rfl,h,.cells rfl (.cons (.int _ _) .nil) (Typed.tag _)⟩
 ·rw [(die0_has hb).1,(die0_has hb').1]
 ·obtain ⟨_,rfl,_⟩:=die0_has hb
  obtain ⟨_,rfl,_⟩:=die0_has hb'
  rw [hr] at hr'
  cases hr'
  rfl
 ·have:1≤b:=hb
  exact if_neg (by omega)
end Go.Proofs.Ythbhjgbpjlnbcaa.walk
set_option maxRecDepth 10000
namespace Go.Proofs.Ythbhjgbpjlnbcaa.walk
open Go.Abs Go.RowKit Go.Proofs.Ythbhjgbpjlnbcaa.code
set_option maxRecDepth 100000 in
theorem aha_calls (a:Option Addr) (n c:Nat) (w:World) (hn:n≤maxLen) (hc:∀ i,i<n→∃ b o,a=some ⟨b,o,none⟩∧∃ v,w.cell? ⟨b,o+i,none⟩=some (.int .i64 v)) :
  Calls Try.prog 8 #[.slice a n c] w fun e w'=>e=.returned (.bool true)∧Below w.heap.size w w':=by
 have HC:=Lib.hid hc
 clear hc
 refine mid_calls (cl:=knows 14 (call Try.prog X 20)) (knows_sound (call_sound 200) Try.func14 awake.entered (call_sound 20)) Try.func8 rfl (X:=X) (k:=ahaRest) ?_ (by kernel_rfl)
 simp only [Try.ntmps8,List.size_toArray,List.length_cons,List.length_nil,Nat.reduceAdd,Nat.reduceSub,Array.replicate_succ,Array.replicate_zero,List.push_toArray,List.append_toArray,List.nil_append,List.cons_append]
 go_wp2_with (go_at_call 11;((with_reducible refine (mdie.born _ _ _ _ hn HC.out).mono ?_);rintro e w1 ⟨rfl,hB1,⟨F,hF⟩,hg1⟩))
 have hd0:walk.Die 0 (die0 F).h:=⟨F,get_new_eq _ _ _ rfl (by decide)⟩
 obtain ⟨s',hs'⟩:=aha_body 20 (by omega) ⟨8,none,Try.f8.ntmps,X 8⟩ (die0 F) 0 hd0 (by show 0<1;omega) (by show 1+900000000≤1000000000;omega) rfl
 refine ⟨rho0 w.heap.size,.cons 3 (.ptr 0 0) .nil,die0 F,.bool true,s',⟨fun t=>?_,rfl,.nil⟩,fun t ht=>?_,die0_rel hF,hs',fun ρ' V W' af hv=>?_⟩
 ·by_cases e:t=3
  ·subst e
   exact .ptr (e:=(0,0)) (if_pos rfl)
  ·rw [show (Env.cons 3 (.ptr 0 0) .nil).find t=AV.bad by rw [find_cons,if_neg (by omega)];rfl]
   exact .bad _
 ·by_cases e:t=3
  ·subst e
   have hx:(X 8).contains 3=true:=by kernel_rfl
   rw [hx] at ht
   cases ht
  ·rw [find_cons,if_neg (by omega)];rfl
 ·cases hv
  refine ⟨rfl,hB1.trans ⟨af.os,af.tape,af.output,af.size,fun k hk=>af.frame k (by omega) fun b x o e hb hr=>?_⟩⟩
  obtain ⟨_,rfl,_⟩:=die0_has hb
  have hr:some (w.heap.size,(0,0))=some (k,e):=hr
  injection hr with hr
  injection hr with hr _
  omega
end Go.Proofs.Ythbhjgbpjlnbcaa.walk
