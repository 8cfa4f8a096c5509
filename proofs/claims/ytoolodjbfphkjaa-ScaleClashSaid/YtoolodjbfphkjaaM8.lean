/- The law ScaleClash: its loops. -/
import Derived.Test.YtoolodjbfphkjaaM7
import Derived.Test.YtoolodjbfphkjaaProg
import Derived.Tactics
import Derived.Tactics2
import Derived.WalkKit
import Derived.OpenShut
import Derived.Below
import Derived.Lib.Hide
import Derived.KernelRfl
import Derived.Deep.RegionHeld3
import Derived.OwnWalk
import Derived.StillTailTactics
import Derived.Test.YtoolodjbfphkjaaAbsTop
import Derived.Test.YtoolodjbfphkjaaAbsWalk
import Derived.Test.YtoolodjbfphkjaaM2
import Derived.Test.YtoolodjbfphkjaaAwake
import Derived.Test.YtoolodjbfphkjaaWalkAll
set_option linter.unusedSimpArgs false
set_option maxHeartbeats 16000000
set_option linter.unusedVariables false
set_option maxRecDepth 10000
namespace Go.Proofs.Ytoolodjbfphkjaa.walk
open Go.Abs Go.Proofs.Ytoolodjbfphkjaa.code
theorem cla_inner (N:Nat) (hN:20≤N) {cx:Ctx} {w:St} {p3 z3 bl p:Nat} {b:Bench} {v1 v2 v3 v4 v6 v12:AV} {C:List (List Nat)} {d:List Nat} {L:Env} {r:R} (hr:loopN K3l0 rounds (awl N) cx L [] w=r) (ok:b.Ok) (hn:resMany b≤6) (hB:BenchAt w.h w.n b v1 v2 v3 v4) (g3:w.h.get p3=some (.cells [v1,v2,v3,v4,.int .i64 b.days] z3)) (hp3:p3<w.n) (hC:AccI w.h w.n bl (fun _=>True) (toI C) v12) (hD:RowsAt w.h w.n 1 (intRows (d.map Int.ofNat)) v6) (hC64:C.length≤64) (hcs:∀ c ∈ C,c.length≤6∧c.Pairwise (·<·)∧∀ x ∈ c,x<resMany b) (hd:bad b (tab0 b) d=true) (hfirst:∀ q,∀ h:q<C.length,q<p→bad b (tab0 b) C[q]=false) (hp:p=C.length∨∃ h:p<C.length,C[p]=d) (hs':w.n+10000000≤far)
  (q3:L.find 3=.ptr p3 0) (q6:L.find 6=v6) (q12:L.find 12=v12) (q13:L.find 13=.int .i64 (0:Nat)) :
  ∃ L1 t e,r=.done e L1 [] t∧(∀ c,c<w.n→t.h.get c=w.h.get c)∧w.n≤t.n∧t.n≤w.n+7200000∧((e=.exit 2∧p=C.length∧∀ c,c<13→c≠2→L1.find c=L.find c)∨(e=.ret∧p<C.length∧L1.find 2=.bool true)):=by
 have hf:far=1000000000:=rfl
 have kC:=hC.okA
 have lC:∀ s,lenSlA s v12=.val (.int .i64 (C.length:Int)) s:=fun s=>by rw [hC.len s,toI_len]
 have hpl:p≤C.length:=by rcases hp with h | ⟨h,_⟩<;>omega
 obtain ⟨e,L1,t,rfl,h⟩:=loop_of hr (fun k L' t'=>k≤p∧(∀ c,c<w.n→t'.h.get c=w.h.get c)∧w.n≤t'.n∧t'.n≤w.n+k * 111000∧L'.find 13=.int .i64 (k:Nat)∧∀ c,c<13→c≠2→L'.find c=L.find c)
  (fun e L' t'=>(∀ c,c<w.n→t'.h.get c=w.h.get c)∧w.n≤t'.n∧t'.n≤w.n+7200000∧((e=.exit 2∧p=C.length∧∀ c,c<13→c≠2→L'.find c=L.find c)∨(e=.ret∧p<C.length∧L'.find 2=.bool true))) C.length (by unfold rounds;omega)
  ⟨Nat.zero_le _,fun _ _=>rfl,Nat.le_refl _,by omega,q13,fun _ _ _=>rfl⟩
  (fun k L' t' hk ⟨hkp,same,jn,jle,p13,q⟩=>by
   have c6:=Nat.mul_le_mul_right 111000 (show k≤64 by omega)
   have p12:=(q 12 (by omega) (by omega)).trans q12
   by_cases hlt:k<C.length
   ·have hok:C[k]=d∨bad b (tab0 b) C[k]=false:=by
     by_cases e:k=p
     ·rcases hp with h | ⟨h,h2⟩
      ·omega
      ·subst e;exact .inl h2
     ·exact .inr (hfirst k hlt (by omega))
    obtain ⟨L2,t2,e2,x1,x2,x3,x4,x5⟩:=cla_round N hN cx ok hn hB g3 hp3 hC hD hlt hC64 (hcs _ (List.getElem_mem hlt)) hd hok same jn jle (by omega) ((q 3 (by omega) (by omega)).trans q3) ((q 6 (by omega) (by omega)).trans q6) p12 p13
    rcases x5 with ⟨rfl,y1,y2,y3⟩ | ⟨rfl,y1,y2⟩
    ·have hkp2:k≠p:=fun e=>by
      rcases hp with h | ⟨h,h2⟩
      ·omega
      ·subst e;exact y1 h2
     exact .inl ⟨hlt,L2,t2,x1,by omega,x2,x3,by rw [Nat.succ_mul];exact x4,y2,fun c hc h2=>(y3 c hc h2).trans (q c hc h2)⟩
    ·have hkp2:k=p:=by
      by_cases e:k=p
      ·exact e
      ·have:=hfirst k hlt (by omega)
       rw [y1,hd] at this
       cases this
     exact .inr ⟨.ret,L2,t2,by simp,x1,x2,x3,by rw [← Nat.add_assoc] at x4;omega,.inr ⟨rfl,by omega,y2⟩⟩
   ·obtain rfl:k=C.length:=by omega
    have e0:decide ((C.length:Int)<(C.length:Int))=false:=by simp
    refine .inr ⟨.exit 2,L'.set 81 (.bool false),t',by simp,?_,same,jn,by omega,.inl ⟨rfl,by omega,fun c hc h2=>?_⟩⟩
    ·simp (disch:=first|omega|(with_unfolding_all exact rfl)|(simp only[new_n,put_n,new_m];omega)|(refine put_m_le ?_;simp only[new_m];omega)) only [K3l0,K3r13,Abs.W,reduceIte,Nat.reduceEqDiff,Nat.reduceAdd,decide_true,decide_false,kLoop_def,Nat.reduceSub,List.cons_append,List.nil_append,List.append_nil,List.length_cons,List.length_nil,efs,p12,p13,kC,lC,e0]
    ·simp only [efs]
     rw [if_neg (by omega)]
     exact q c hc h2)
 exact ⟨L1,t,e,rfl,h⟩
theorem cla_outer (N:Nat) (hN:20≤N) {cx:Ctx} {w:St} {p3 z3 m:Nat} {b:Bench} {v1 v2 v3 v4 v6:AV} {d:List Nat} {L:Env} {r:R} (hr:loopN K3l1 rounds (awl N) cx L [] w=r) (ok:b.Ok) (hn:resMany b≤6) (hB:BenchAt w.h w.n b v1 v2 v3 v4) (g3:w.h.get p3=some (.cells [v1,v2,v3,v4,.int .i64 b.days] z3)) (hp3:p3<w.n) (hD:RowsAt w.h w.n 1 (intRows (d.map Int.ofNat)) v6) (hm:m<resMany b) (hdl:d.length=m+1) (hno:∀ j,j≤m→∀ c ∈ chs (resMany b) j 0,bad b (tab0 b) c=false) (hfd:(chs (resMany b) (m+1) 0).find? (bad b (tab0 b))=some d) (hs':w.n+450000000≤far)
  (q3:L.find 3=.ptr p3 0) (q6:L.find 6=v6) (q10:L.find 10=.int .i64 (resMany b:Nat)) (q11:L.find 11=.int .i64 (0+1:Nat)) :
  ∃ L1 t,r=.done .ret L1 [] t∧L1.find 2=.bool true:=by
 have hf:far=1000000000:=rfl
 have knC:∀ args s,awl N (.fn 10) args s=call Try.prog X N (.fn 10) args s:=fun _ _=>rfl
 have kD:∀ t,okA (.val v6 t)=.val v6 t:=fun t=>okA_ne hD.ne
 have lD:∀ s,lenSlA s v6=.val (.int .i64 ((m+1:Nat):Int)) s:=fun s=>by
  have:=rowLen hD s
  rw [List.length_map,hdl] at this
  exact this
 have hbd:bad b (tab0 b) d=true:=List.find?_some hfd
 obtain ⟨e,L1,t,rfl,rfl,h⟩:=loop_of hr (fun k L' t'=>k≤m∧(∀ c,c<w.n→t'.h.get c=w.h.get c)∧w.n≤t'.n∧t'.n≤w.n+k * 50000000∧L'.find 11=.int .i64 (k+1:Nat)∧∀ c,c<11→c≠2→L'.find c=L.find c)
  (fun e L' t'=>e=.ret∧L'.find 2=.bool true) (m+1) (by unfold rounds;omega)
  ⟨Nat.zero_le _,fun _ _=>rfl,Nat.le_refl _,by omega,q11,fun _ _ _=>rfl⟩
  (fun k L' t hk ⟨hkm,same,jn,jle,p11,q⟩=>by
   have c6:=Nat.mul_le_mul_right 50000000 (show k≤6 by omega)
   have p6:=(q 6 (by omega) (by omega)).trans q6
   have p10:=(q 10 (by omega) (by omega)).trans q10
   have e0:decide (((k+1:Nat):Int)≤((m+1:Nat):Int))=true:=decide_eq_true (by omega)
   simp (disch:=first|omega|(with_unfolding_all exact rfl)|(simp only[new_n,put_n,new_m];omega)|(refine put_m_le ?_;simp only[new_m];omega)) only [K3l1,K3r10,K3r11,Abs.W,reduceIte,Nat.reduceEqDiff,Nat.reduceAdd,decide_true,decide_false,kLoop_def,Nat.reduceSub,List.cons_append,List.nil_append,List.append_nil,List.length_cons,List.length_nil,efs,p6,p10,p11,kD,lD,e0,knC]
   generalize hc:call _ _ _ (.fn 10) _ _=rc
   have csz:chSz (k+1)≤39750070:=by
    have:k=0∨k=1∨k=2∨k=3∨k=4∨k=5:=by omega
    rcases this with rfl | rfl | rfl | rfl | rfl | rfl<;>decide
   obtain ⟨bl,v12,t2,rfl,s2,hA,_,_⟩:=ch_ex (resMany b) hn (k+1) (by omega) (from_:=0) hc (by omega) (by omega) (by omega)
   have n2:=s2.n
   have l2:=s2.le
   have hA':AccI t2.h t2.n bl (fun _=>True) (toI (chs (resMany b) (k+1) 0)) v12:=by
    rcases hA with h | h
    ·exact .inl h
    ·exact .inr (h.move rfl (fun c hc _=>⟨rfl,trivial⟩) (Nat.le_refl _))
   have kC:=hA'.okA
   have st2:∀ c,c<w.n→t2.h.get c=w.h.get c:=fun c hc=>(s2.same c (by omega)).trans (same c hc)
   have hlen:(chs (resMany b) (k+1) 0).length≤64:=by
    have h1:=chs_few (resMany b) (resMany b) (k+1) 0 rfl
    have h2:2 ^ resMany b≤64:=Nat.pow_le_pow_right (by omega:0<2) (show resMany b≤6 by omega)
    omega
   have hcs:∀ c ∈ chs (resMany b) (k+1) 0,c.length≤6∧c.Pairwise (·<·)∧∀ x ∈ c,x<resMany b:=fun c hc=>by
    obtain ⟨h1,h2,h3⟩:=chs_ok (resMany b) (k+1) 0 c hc
    exact ⟨by omega,h2,fun x hx=>(h3 x hx).2⟩
   obtain ⟨p,hp1,hp2,hpp⟩:∃ p,(∀ q,∀ h:q<(chs (resMany b) (k+1) 0).length,q<p→bad b (tab0 b) (chs (resMany b) (k+1) 0)[q]=false)∧(p=(chs (resMany b) (k+1) 0).length∨∃ h:p<(chs (resMany b) (k+1) 0).length,(chs (resMany b) (k+1) 0)[p]=d)∧(k<m→p=(chs (resMany b) (k+1) 0).length)∧(k=m→p<(chs (resMany b) (k+1) 0).length):=by
    by_cases e:k=m
    ·subst e
     obtain ⟨_,i,hi,h1,h2⟩:=List.find?_eq_some_iff_getElem.mp hfd
     exact ⟨i,fun q hq h=>by simpa using h2 q h,.inr ⟨hi,h1⟩,fun h=>by omega,fun _=>hi⟩
    ·exact ⟨_,fun q hq _=>hno (k+1) (by omega) _ (List.getElem_mem hq),.inl rfl,fun _=>rfl,fun h=>absurd h e⟩
   simp (disch:=first|omega|(with_unfolding_all exact rfl)|(simp only[new_n,put_n,new_m];omega)|(refine put_m_le ?_;simp only[new_m];omega)) only [K3r12,Abs.W,reduceIte,Nat.reduceEqDiff,Nat.reduceAdd,decide_true,decide_false,kLoop_def,Nat.reduceSub,List.cons_append,List.nil_append,List.append_nil,List.length_cons,List.length_nil,efs,kC]
   generalize hlp:loopN _ rounds _ _ _ _ _=rl
   obtain ⟨L2,t3,e3,rfl,y1,y2,y3,y4⟩:=cla_inner N hN (p:=p) hlp ok hn (hB.grow st2 (by omega)) ((st2 p3 hp3).trans g3) (by omega) hA' (hD.grow st2 (by omega)) hlen hcs hbd hp1 hp2 (by omega)
    (by simp only [efs,(q 3 (by omega) (by omega)).trans q3,reduceIte,Nat.reduceEqDiff]) (by simp only [efs,p6,reduceIte,Nat.reduceEqDiff]) (by simp only [efs,reduceIte,Nat.reduceEqDiff]) (by simp only [efs,reduceIte,Nat.reduceEqDiff];rfl)
   rcases y4 with ⟨rfl,y5,y6⟩ | ⟨rfl,y5,y6⟩
   ·have hkm2:k<m:=by
     by_cases e:k=m
     ·have:=hpp.2 e
      omega
     ·omega
    have ad:∀ s,aAdd s .i64 ((k+1:Nat):Int) 1=.val (.int .i64 (((k+1:Nat):Int)+1)) s:=fun s=>aAdd_i64 s _ _ (by omega)
    have i11:L2.find 11=.int .i64 (k+1:Nat):=(y6 11 (by omega) (by omega)).trans (by simp only [efs,p11,reduceIte,Nat.reduceEqDiff])
    refine .inl ⟨by omega,_,t3,by
     simp (disch:=first|omega|(with_unfolding_all exact rfl)|(simp only[new_n,put_n,new_m];omega)|(refine put_m_le ?_;simp only[new_m];omega)) only [K3r20,Abs.W,reduceIte,Nat.reduceEqDiff,Nat.reduceAdd,decide_true,decide_false,kLoop_def,Nat.reduceSub,List.cons_append,List.nil_append,List.append_nil,List.length_cons,List.length_nil,efs,i11,ad]
     rfl,by omega,fun c hc=>(y1 c (by omega)).trans (st2 c hc),by omega,by rw [Nat.succ_mul,← Nat.add_assoc];omega,?_,fun c hc h2=>?_⟩
    ·simp only [efs,reduceIte,Nat.reduceEqDiff];rfl
    ·simp only [efs]
     rw [if_neg (by omega)]
     rw [y6 c (by omega) h2]
     simp only [efs]
     repeat rw [if_neg (by omega)]
     exact q c hc h2
   ·exact .inr ⟨.ret,L2,t3,by simp,by
     simp (disch:=first|omega|(with_unfolding_all exact rfl)|(simp only[new_n,put_n,new_m];omega)|(refine put_m_le ?_;simp only[new_m];omega)) only [Abs.W,reduceIte,Nat.reduceEqDiff,Nat.reduceAdd,decide_true,decide_false,kLoop_def,Nat.reduceSub,List.cons_append,List.nil_append,List.append_nil,List.length_cons,List.length_nil,efs],rfl,y6⟩)
 exact ⟨L1,t,rfl,h⟩
end Go.Proofs.Ytoolodjbfphkjaa.walk
set_option maxRecDepth 10000
namespace Go.Proofs.Ytoolodjbfphkjaa.walk
open Go.Abs Go.Proofs.Ytoolodjbfphkjaa.code
noncomputable def claFirst:OpsF:=(oCall (.tmp 19) (.con (.func 5 [] [])) [(.tmp 18),(.con (.int Go.IntKind.i64 3)),(.con (.int Go.IntKind.i64 2)),(.con (.int Go.IntKind.i64 3)),(.con (.int Go.IntKind.i64 3))] (oVal (.tmp 16) (kMove (.tmp 19)) (oVal (.tmp 20) (kUn (extA 0) (.tmp 16)) (oVal (.tmp 21) (kUn (extA 1) (.tmp 16)) (oVal (.tmp 22) (kUn (extA 2) (.tmp 16)) (oVal (.tmp 3) (kAlloc [.nilslice,.nilslice,.nilslice,.nilslice,(.int Go.IntKind.i64 0)] (tag 28)) (oVal (.tmp 4) (kAlloc [.nilslice,.nilslice] (tag 31)) (oVal .none (kStore 5 (.tmp 3) (.tmp 20)) (oVal .none (kStore 2 (.tmp 4) (.tmp 21)) (oVal (.tmp 5) (kMove (.tmp 22)) oNil))))))))))
noncomputable def claRest:K:=(kSeq (kRegion K3r2 [6,7]) (kSeq (kRegion K3r3 [9]) (kSeq (kSeq (kRegion K3r4 [34]) (kCond (.tmp 34) (kSeq (kRegion K3r5 [2]) kRet) kSkip)) (kSeq (kRegion K3r6 [10]) (kSeq (kSeq (kRegion K3r7 [68]) (kCond (.tmp 68) (kSeq (kRegion K3r8 [2]) kRet) kSkip)) (kSeq (kSeq (kRegion K3r9 [11]) (kBlock 0 (kLoop K3l1))) (kSeq (kRegion K3r21 [2]) kRet)))))))
theorem cla_body (n:Nat) (hn:24≤n) (cx:Ctx) (s:St) (d:Nat) (hd:Die d s.h) (hdn:d<s.n) (hs:s.n+900000000≤far) :
  ∃ M s1 s',claFirst (awl n) (.cons 18 (.ptr d 0) .nil) s=.ok M s1∧∀ kl,kl=[3]→finA Try.prog Try.f3 (claRest (awl n) cx (keepK kl M .nil) [] s1)=.val (.bool true) s':=by
 have hf:far=1000000000:=rfl
 have knB:∀ args s,awl n (.fn 5) args s=call Try.prog X n (.fn 5) args s:=fun _ _=>rfl
 have knC:∀ args s,awl n (.fn 7) args s=call Try.prog X n (.fn 7) args s:=fun _ _=>rfl
 have knO:∀ args s,awl n (.fn 8) args s=call Try.prog X n (.fn 8) args s:=fun _ _=>rfl
 have knA:∀ s,awl n (.fn 9) [] s=.val (.bool true) s:=fun _=>rfl
 have ex30:∀ (a b c:AV) (s:St),extA 0 s (.tup [a,b,c])=.val a s:=fun _ _ _ _=>rfl
 have ex31:∀ (a b c:AV) (s:St),extA 1 s (.tup [a,b,c])=.val b s:=fun _ _ _ _=>rfl
 have ex32:∀ (a b c:AV) (s:St),extA 2 s (.tup [a,b,c])=.val c s:=fun _ _ _ _=>rfl
 have u5s9:=eq3 K3r5s9.eq_1
 have u5s6:=eq3 K3r5s6.eq_1
 have u5s5:=eq3 K3r5s5.eq_1
 have u5s4:=eq3 K3r5s4.eq_1
 have u7s16:=eq3 K3r7s16.eq_1
 have u7s15:=eq3 K3r7s15.eq_1
 have u7s14:=eq3 K3r7s14.eq_1
 have u7s13:=eq3 K3r7s13.eq_1
 have u7s10:=eq3 K3r7s10.eq_1
 have u7s9:=eq3 K3r7s9.eq_1
 have u7s8:=eq3 K3r7s8.eq_1
 have u7s5:=eq3 K3r7s5.eq_1
 have u7s4:=eq3 K3r7s4.eq_1
 unfold claFirst
 simp (disch:=first|omega|(with_unfolding_all exact rfl)|(simp only[new_n,put_n,new_m];omega)|(refine put_m_le ?_;simp only[new_m];omega)) only [Abs.W,reduceIte,Nat.reduceEqDiff,Nat.reduceAdd,decide_true,decide_false,kLoop_def,Nat.reduceSub,List.cons_append,List.nil_append,List.append_nil,List.length_cons,List.length_nil,efs,knB]
 generalize hc1:call _ _ _ (.fn 5) _ _=r1
 obtain ⟨b,offs,errs,v1,v2,v3,v4,v5,v6,q,t1,rfl,st1,d1,ok,hF,hq,hBF,_,_,lw,lt⟩:=BenchOf_ex2 (M:=3) (S:=2) (R:=3) (D:=3) hc1 (by omega) hd hdn (by omega) (by omega) (by omega) (by omega) (by omega)
 have n1:s.n≤t1.n:=st1.n
 have k1:t1.n≤s.n+2000:=st1.le
 have m1:=st1.mle
 have hn6:resMany b≤6:=by unfold resMany;omega
 obtain ⟨hB1,hA1⟩:=hBF t1.h fun _ _ _=>rfl
 have scB:=scB_of hB1 s
 have scF:scalars [v5,v6]=true:=by rw [scals_cons (by have:=scal_ln (hA1.o.len s);simp [scalars,this])];have:=scal_ln (hA1.len s);simp [scalars,this]
 simp (disch:=first|omega|(with_unfolding_all exact rfl)|(simp only[new_n,put_n,new_m];omega)|(refine put_m_le ?_;simp only[new_m];omega)) only [Abs.W,reduceIte,Nat.reduceEqDiff,Nat.reduceAdd,decide_true,decide_false,kLoop_def,Nat.reduceSub,List.cons_append,List.nil_append,List.append_nil,List.length_cons,List.length_nil,efs,ex30,ex31,ex32,scB,scF]
 simp only [new_n]
 generalize hy':St.put (St.put _ _ _) _ _=y
 have yn:y.n=t1.n+2:=by rw [← hy'];rfl
 have yg:∀ c,c<t1.n→y.h.get c=t1.h.get c:=fun c hc=>by rw [← hy',get_put_ne' _ _ _ _ (by omega),get_put_ne' _ _ _ _ (by omega),get_new_ne _ _ _ (by simp only [new_n];omega),get_new_ne _ _ _ (by omega)]
 have y3:y.h.get t1.n=some (.cells [v1,v2,v3,v4,.int .i64 b.days] (tag 28)):=by rw [← hy',get_put_ne' _ _ _ _ (by omega)];exact get_put_eq _ _ _ _ rfl (by omega)
 clear hy'
 have hBy:BenchAt y.h y.n b v1 v2 v3 v4:=hB1.grow yg (by omega)
 suffices main:∃ s',finA Try.prog Try.f3 (claRest (awl n) cx (Env.set 3 (.ptr t1.n 0) .nil) [] y)=.val (.bool true) s' by
  obtain ⟨s',H⟩:=main
  exact ⟨_,y,s',rfl,fun kl hkl=>by subst hkl;exact H⟩
 unfold claRest
 simp (disch:=first|omega|(with_unfolding_all exact rfl)|(simp only[new_n,put_n,new_m];omega)|(refine put_m_le ?_;simp only[new_m];omega)) only [K3r2,Abs.W,reduceIte,Nat.reduceEqDiff,Nat.reduceAdd,decide_true,decide_false,kLoop_def,Nat.reduceSub,List.cons_append,List.nil_append,List.append_nil,List.length_cons,List.length_nil,efs,y3,knC,Nat.zero_add]
 generalize hc2:call _ _ _ (.fn 7) _ _=r2
 obtain ⟨wl,el,t2,rfl,s2,hcl⟩:=Clash_ex hc2 (by omega) ok hn6 hBy (by omega)
 have n2:=s2.n
 have k2:=s2.le
 have x3:=(s2.same t1.n (by omega)).trans y3
 have hB2:=hBy.grow s2.same n2
 rcases hcl with ⟨rfl,rfl,T,hT⟩ | ⟨rfl,hT,c,hfd,m,hm,hno,hfind⟩
 ·have kt:∀ s,okA (.val (.tup [.nilslice,.int .i64 3]) s)=.val (.tup [.nilslice,.int .i64 3]) s:=fun _=>rfl
  simp (disch:=first|omega|(with_unfolding_all exact rfl)|(simp only[new_n,put_n,new_m];omega)|(refine put_m_le ?_;simp only[new_m];omega)) only [K3r3,Abs.W,reduceIte,Nat.reduceEqDiff,Nat.reduceAdd,decide_true,decide_false,kLoop_def,Nat.reduceSub,List.cons_append,List.nil_append,List.append_nil,List.length_cons,List.length_nil,efs,ext0,ext1,kt,x3,knO,Nat.zero_add]
  generalize hc3:call _ _ _ (.fn 8) _ _=r3
  obtain ⟨vo,eo,t3,rfl,s3,hres⟩:=Offs_ex hc3 (by omega) ok hB2 (by omega)
  rcases hres with ⟨hT2,_,_⟩ | ⟨rfl,_⟩
  ·rw [hT] at hT2;cases hT2
  ·have z3:decide ((3:Int)=3)=true:=rfl
   have z0:decide ((0:Int)=0)=true:=rfl
   have kn:∀ s,okA (.val .nilslice s)=.val .nilslice s:=fun _=>rfl
   simp (config:={ maxSteps:=1000000 }) (disch:=first|omega|(with_unfolding_all exact rfl)|(simp only[new_n,put_n,new_m];omega)|(refine put_m_le ?_;simp only[new_m];omega)) only [K3r4,K3r5,u5s9,u5s6,u5s5,u5s4,res3,Abs.W,reduceIte,Nat.reduceEqDiff,Nat.reduceAdd,decide_true,decide_false,kLoop_def,Nat.reduceSub,List.cons_append,List.nil_append,List.append_nil,List.length_cons,List.length_nil,efs,ext0,ext1,okA_tup,z3,z0,kn,knA]
   exact ⟨_,rfl⟩
 ·obtain ⟨p,e,sz',rfl,gp,lo,lt',hsz,hone,hpos⟩:=hfd
  have hlen:=(chs_ok (resMany b) (m+1) 0 c (List.mem_of_find?_eq_some hfind)).1
  have kt:∀ s,okA (.val (.tup [.slice p 0 c.length c.length e,.int .i64 0]) s)=.val (.tup [.slice p 0 c.length c.length e,.int .i64 0]) s:=fun _=>rfl
  have kw:∀ s,okA (.val (.slice p 0 c.length c.length e) s)=.val (.slice p 0 c.length c.length e) s:=fun _=>rfl
  simp (disch:=first|omega|(with_unfolding_all exact rfl)|(simp only[new_n,put_n,new_m];omega)|(refine put_m_le ?_;simp only[new_m];omega)) only [K3r3,Abs.W,reduceIte,Nat.reduceEqDiff,Nat.reduceAdd,decide_true,decide_false,kLoop_def,Nat.reduceSub,List.cons_append,List.nil_append,List.append_nil,List.length_cons,List.length_nil,efs,ext0,ext1,kt,x3,knO,Nat.zero_add]
  generalize hc3:call _ _ _ (.fn 8) _ _=r3
  obtain ⟨vo,eo,t3,rfl,s3,hres⟩:=Offs_ex hc3 (by omega) ok hB2 (by omega)
  have n3:=s3.n
  have k3:=s3.le
  rcases hres with ⟨_,rfl,rfl⟩ | ⟨_,T,hT2,_⟩
  ·have x33:=(s3.same t1.n (by omega)).trans x3
   have hB3:=hB2.grow s3.same n3
   have kn:∀ s,okA (.val (.tup [.nilslice,.int .i64 9]) s)=.val (.tup [.nilslice,.int .i64 9]) s:=fun _=>rfl
   have k22:∀ s,okA (.val v2 s)=.val v2 s:=fun s=>okA_ne hB3.w.ne
   have k44:∀ s,okA (.val v4 s)=.val v4 s:=fun s=>okA_ne hB3.t.ne
   have l22:∀ s,lenSlA s v2=.val (.int .i64 (b.ws.length:Int)) s:=fun s=>by have:=hB3.w.len s;rwa [List.length_map] at this
   have l44:∀ s,lenSlA s v4=.val (.int .i64 (b.ts.length:Int)) s:=fun s=>by have:=hB3.t.len s;rwa [List.length_map] at this
   have aA:∀ s,aAdd s .i64 (b.ws.length:Int) (b.ts.length:Int)=.val (.int .i64 (resMany b:Nat)) s:=fun s=>aAdd_i64 s _ _ (by omega)
   have z3:decide ((0:Int)=3)=false:=rfl
   have z0:decide ((0:Int)=0)=true:=rfl
   have z9:decide ((9:Int)=9)=true:=rfl
   have zl:decide ((c.length:Int)=0)=false:=decide_eq_false (by omega)
   have zg:decide ((resMany b:Int)<(c.length:Int))=false:=decide_eq_false (by omega)
   have lc:∀ s,lenSlA s (.slice p 0 c.length c.length e)=.val (.int .i64 (c.length:Int)) s:=fun _=>rfl
   have hD:RowsAt t3.h t3.n 1 (intRows (c.map Int.ofNat)) (.slice p 0 c.length c.length e):=by
    have hwid:∀ r ∈ intRows (c.map Int.ofNat),r.length=1:=fun r hr=>by
     unfold intRows at hr
     obtain ⟨x,_,rfl⟩:=List.mem_map.mp hr
     rfl
    have hli:(intRows (c.map Int.ofNat)).length=c.length:=by rw [intRows_len,List.length_map]
    have hsl:Sl (fun _=>True) t3.h t3.n 1 (intRows (c.map Int.ofNat)) (.slice p 0 c.length c.length e):=⟨hwid,.inr ⟨p,0,c.length,e,_,sz',by omega,trivial,⟨by rw [hli];exact Nat.le_refl _,fun _=>hpos⟩,by rw [hli],(s3.same p (by omega)).trans gp,by
     rw [hli]
     have:=icells_cut (c.map Int.ofNat)
     rwa [List.length_map] at this⟩⟩
    exact hsl.at_
   simp (config:={ maxSteps:=2000000 }) (disch:=first|omega|(with_unfolding_all exact rfl)|(simp only[new_n,put_n,new_m];omega)|(refine put_m_le ?_;simp only[new_m];omega)) only [K3r4,K3r6,K3r7,u7s16,u7s15,u7s14,u7s13,u7s10,u7s9,u7s8,u7s5,u7s4,K3r9,Abs.W,reduceIte,Nat.reduceEqDiff,Nat.reduceAdd,decide_true,decide_false,kLoop_def,Nat.reduceSub,List.cons_append,List.nil_append,List.append_nil,List.length_cons,List.length_nil,efs,ext0,ext1,okA_tup,kn,x33,k22,k44,l22,l44,aA,z3,z0,z9,zl,zg,kw,lc,Nat.zero_add]
   generalize hlp:loopN _ rounds _ _ _ _ _=rl
   obtain ⟨L1,t4,rfl,f2⟩:=cla_outer n (by omega) (p3:=t1.n) hlp ok hn6 hB3 x33 (by omega) hD hm hlen hno hfind (by omega)
    (by simp only [find_cons,efs,reduceIte,Nat.reduceEqDiff]) (by simp only [find_cons,efs,reduceIte,Nat.reduceEqDiff]) (by simp only [find_cons,efs,reduceIte,Nat.reduceEqDiff]) (by simp only [find_cons,efs,reduceIte,Nat.reduceEqDiff];rfl)
   simp (disch:=first|omega|(with_unfolding_all exact rfl)|(simp only[new_n,put_n,new_m];omega)|(refine put_m_le ?_;simp only[new_m];omega)) only [K3r21,res3,Abs.W,reduceIte,Nat.reduceEqDiff,Nat.reduceAdd,decide_true,decide_false,kLoop_def,Nat.reduceSub,List.cons_append,List.nil_append,List.append_nil,List.length_cons,List.length_nil,efs,f2]
   exact ⟨_,rfl⟩
  ·rw [hT] at hT2;cases hT2
end Go.Proofs.Ytoolodjbfphkjaa.walk
namespace Go.Proofs.Ytoolodjbfphkjaa.mdie
open Go.RowKit
def Die (b:Nat) (w:World):Prop:=∃ s,w.heap[b]? = some (.cells #[.int .u64 s] 77 (0,0))
theorem Die.old {b:Nat} {w:World} (h:Die b w):(∃ s,w.cell? ⟨b,0,none⟩=some (.int .u64 s))∧w.frozen? ⟨b,0,none⟩=false:=by
 obtain ⟨s,hs⟩:=h
 refine ⟨⟨s,?_⟩,?_⟩
 ·unfold World.cell?;simp [hs]
 ·unfold World.frozen?;simp [hs]
structure Stir (b:Nat) (w w':World):Prop where
 below:Below b w w'
 rest:∀ p:Addr,p.block≠b→p.block<w.heap.size→w'.cell? p=w.cell? p∧w'.frozen? p=w.frozen? p
 die:Die b w'
def Gives (b:Nat) (k:IntKind) (Q:Int→Prop) (w:World) (e:Ending) (w':World):Prop:=∃ r,Q r∧e=.returned (.int k r)∧Stir b w w'
theorem bits_nonneg (op:BinOp) (x y:Int):0≤bits op .u64 x y:=by
 have:=bounds_u64 (wf_bits (k:=.u64) (op:=op) (x:=x) (y:=y))
 exact this.1
theorem Stir.set {b:Nat} {w:World} (h:Die b w) (s:Int):Stir b w (w.setCell ⟨b,0,none⟩ (.int .u64 s)):=by
 obtain ⟨t,ht⟩:=h
 refine ⟨(Below.refl b w).setCell (p:=⟨b,0,none⟩) (Nat.le_refl b) _,fun p hp _=>⟨World.cell?_of_block (Below.heap_setCell _ _ _ _ hp),World.frozen?_of_block (Below.heap_setCell _ _ _ _ hp)⟩,⟨s,?_⟩⟩
 unfold World.setCell
 simp [Array.getElem?_modify,ht]
theorem roll (b:Nat) (w:World) (h:Die b w):Calls Try.prog 26 #[.pointer (some ⟨b,0,none⟩)] w (Gives b .u64 (fun r=>0≤r) w):=by
 have h':=Lib.hid h
 obtain ⟨⟨s,hs⟩,hf⟩:=h.old
 clear h
 go_enter Try.func26,Try.ntmps26
 go_wp2
 go_ret
 exact ⟨_,bits_nonneg _ _ _,rfl,Stir.set h'.out _⟩
theorem Stir.refl {b:Nat} {w:World} (h:Die b w):Stir b w w:=⟨Below.refl _ _,fun _ _ _=>⟨rfl,rfl⟩,h⟩
theorem Stir.trans {b:Nat} {u v w:World} (h:Stir b u v) (k:Stir b v w):Stir b u w :=
 ⟨h.below.trans k.below,fun p hp hb=>⟨(k.rest p hp (Nat.lt_of_lt_of_le hb h.below.size)).1.trans (h.rest p hp hb).1,(k.rest p hp (Nat.lt_of_lt_of_le hb h.below.size)).2.trans (h.rest p hp hb).2⟩,k.die⟩
theorem Die.lt {b:Nat} {w:World} (h:Die b w):b<w.heap.size:=by obtain ⟨⟨s,hs⟩,_⟩:=h.old;exact World.block_lt_of_cell? w _ hs
theorem Stir.drew {b:Nat} {w w':World} (h:Stir b w w'):Stir b w w'.drew:=h.trans ⟨⟨rfl,rfl,rfl,Nat.le_refl _,fun _ _=>rfl⟩,fun _ _ _=>⟨rfl,rfl⟩,h.die⟩
def Born (w:World) (e:Ending) (w':World):Prop:=e=.returned (.pointer (some ⟨w.heap.size,0,none⟩))∧Below w.heap.size w w'∧Die w.heap.size w'∧w.heap.size<w'.heap.size
theorem Die.born (w:World) (s:Int):Die w.heap.size (w.alloc (.cells #[.int .u64 s] 77)):=⟨s,by show (w.heap.push _)[w.heap.size]? = _;rw [Array.getElem?_push,if_pos rfl]⟩
set_option maxRecDepth 100000 in
theorem born (x:Option Addr) (n c:Nat) (w:World) (hn:n≤maxLen) (hc:∀ i,i<n→∃ b o,x=some ⟨b,o,none⟩∧∃ v,w.cell? ⟨b,o+i,none⟩=some (.int .i64 v)) :
  Calls Try.prog 6 #[.slice x n c] w (Born w):=by
 unfold maxLen at hn
 have HC:=Lib.hid hc
 clear hc
 have hdie:=Lib.hid (Die.born w 2611923443488327891)
 go_enter Try.func6,Try.ntmps6
 go_wp2
 go_loopw [4] (fun i wr=>∃ k:Nat,k≤n∧i=.int .i64 k∧Stir w.heap.size (w.alloc (.cells #[.int .u64 2611923443488327891] 77)) wr) (fun i _=>n - (intOf i).toNat)
 case atStart=>exact ⟨0,Nat.zero_le _,rfl,Stir.refl hdie.out⟩
 case round =>
  obtain ⟨k,hk,rfl,hs⟩:=hrel
  by_cases hlt:k<n
  ·obtain ⟨b,o,rfl,v,hv⟩:=HC.out k hlt
   have hb:=World.block_lt_of_cell? _ _ hv
   simp only at hb
   have hv1:wr.cell? ⟨b,o+k,none⟩=some (.int .i64 v):=((hs.rest ⟨b,o+k,none⟩ (Nat.ne_of_lt hb) (by simp;omega)).1.trans (World.cell?_of_block (Below.heap_alloc _ _ _ hb))).trans hv
   clear hv
   obtain ⟨⟨s,hd⟩,hf⟩:=hs.die.old
   have hst:=Lib.hid (fun s1:Int=>(hs.drew).trans (Stir.set hs.drew.die s1))
   have hlt':(k:Int)<(n:Int):=by omega
   have hk0:(0:Int)≤(k:Int):=by omega
   go_wp2
   go_still_tail 12,(by kernel_rfl)
   change wpList _ _ _ _ _ wr.drew
   go_wp2_with (go_at_call 26;refine (roll _ _ ?_).mono ?_;exact (hst.out _).die;rintro e w1 ⟨r,hr,rfl,hs1⟩;(have hs2:=(hst.out _).trans hs1))
   go_roundw
   case rel=>exact ⟨k+1,by omega,by go_num,hs2⟩
   case measure=>simp [intOf];omega
  ·go_wp2
   go_ret
   exact ⟨rfl,((Below.refl w.heap.size w).alloc (Nat.le_refl _) _).trans hs.below,hs.die,by have:=hs.below.size;simp at this;omega⟩
end Go.Proofs.Ytoolodjbfphkjaa.mdie
namespace Go.Abs
open Go.RowKit
variable {P:Program}
end Go.Abs
set_option maxRecDepth 10000
namespace Go.Proofs.Ytoolodjbfphkjaa.walk
open Go.Abs Go.RowKit Go.Proofs.Ytoolodjbfphkjaa.code
noncomputable def die0 (F:Int):St:=St.new ⟨.nil,0,far⟩ (.cells [.int .u64 F] (tag 77))
def rho0 (d:Nat):Rho:=fun b=>if b=0 then some (d,(0,0)) else none
theorem die0_get {F:Int} {b:Nat} {o:AObj} (h:(die0 F).h.get b=some o):b=0∧o=.cells [.int .u64 F] (tag 77):=by
 by_cases e:b=0
 ·subst e
  have:(die0 F).h.get 0=some (.cells [.int .u64 F] (tag 77)):=get_new_eq _ _ _ rfl (by decide)
  rw [this] at h
  exact ⟨rfl,(Option.some.inj h).symm⟩
 ·unfold die0 at h
  rw [get_new_ne _ _ _ e] at h
  cases h
theorem die0_has {F:Int} {b x:Nat} {o:AObj} (h:Has (die0 F).h b x o):b=0∧x=0∧o=.cells [.int .u64 F] (tag 77):=by
 obtain ⟨y,hy,hp⟩:=h
 obtain ⟨rfl,rfl⟩:=die0_get hy
 have hl:AObj.lone (.cells [.int .u64 F] (tag 77)):=trivial
 rw [parts_lone hl] at hp
 have:=List.mem_singleton.mp hp
 cases this
 exact ⟨rfl,rfl,rfl⟩
theorem die0_rel {F:Int} {d:Nat} {W:World} (h:W.heap[d]? = some (.cells #[.int .u64 F] 77 (0,0))):SRel (rho0 d) (die0 F) W:=by
 refine ⟨⟨fun b o hb=>?_,fun b x o hb=>?_,fun b b' x x' o o' c e e' hb hb' _ _=>?_,fun g cs hg=>(by cases hg),fun b x o c e hb hr=>rfl,fun b x x' o o' c e e' hb hb' hr hr'=>?_⟩,fun b hb=>?_⟩
 ·rw [(die0_get hb).1];decide
 ·obtain ⟨rfl,rfl,rfl⟩:=die0_has hb
  exact ⟨d,(0,0),_,if_pos rfl,h,.cells rfl (.cons (.int _ _) .nil) (Typed.tag _)⟩
 ·rw [(die0_has hb).1,(die0_has hb').1]
 ·obtain ⟨_,rfl,_⟩:=die0_has hb
  obtain ⟨_,rfl,_⟩:=die0_has hb'
  rw [hr] at hr'
  cases hr'
  rfl
 ·have:1≤b:=hb
  exact if_neg (by omega)
end Go.Proofs.Ytoolodjbfphkjaa.walk
namespace Go.Abs
open Go.RowKit
variable {P:Program}
theorem range_two (n:Nat):List.range' 0 (n+2)=0::1::List.range' 2 n:=rfl
theorem mid2_calls {cl:CallF} (hc:CallSound P cl) {f:FuncId} {fn:Func} (hf:P.funcs[f]? = some fn) {c0 rest:Code} {id:Nat} {ops:Array Oper} (hb:fn.body=some (.seq c0 (.seq (.region id ops false) rest))) {X:FuncId→List Nat} {k:K} {fo:OpsF} {o0 o1:Oper} {suf:List Oper} {A:Array Value} {W:World} {R:Ending→World→Prop}
  (hops:ops.toList=o0::o1::suf) (g0:o0.guard=none) (g1:o1.guard=none) (hd0:∀ c,o0.op≠.defer c) (hd1:∀ c,o1.op≠.defer c) (hfo:opsK P fn.ntmps ops suf=some fo) (hk:codeK P (X f) fn.ntmps rest=some k)
  (h:c0.wp P (Exit.then (fun a w=>∃ V0 g B,(execOp a.eval o0).run P w=.ok (.value V0) w∧(execOp (a.put o0.dst V0).eval o1).run P w=.ok (.enter g B) w∧Calls P g B w fun e w2=>∃ V1,e=.returned V1∧∃ ρ L0 L2 s M s1 v s',ActRel ρ fn.ntmps L2 [] ((a.put o0.dst V0).put o1.dst V1)∧Clean (X f) L0∧(∀ t,(∀ o ∈ ops.toList,o.dst≠some t)→L2.find t=L0.find t)∧SRel ρ s w2∧fo cl L2 s=.ok M s1 ∧
    finA P fn (k cl ⟨f,none,fn.ntmps,X f⟩ (keepK (keepOf (X f) ops.toList) M L0) [] s1)=.val v s'∧∀ ρ' V W',After ρ s w2 ρ' s' W'→VRel ρ' v V→R (.returned V) W') fun _ _ _=>False)
   { tmps:=A++Array.replicate (fn.ntmps - A.size) undef,defers:=[] } W):Calls P f A W R:=by
 intro cs
 obtain ⟨b,hbd⟩:∃ b:Frame,b={ (default:Frame) with fn:=f,kind:=.normal }:=⟨_,rfl⟩
 have hr:b.roundOf=none:=by rw [hbd];rfl
 have henter:Frame.enter P f A .normal=b.at { tmps:=A++Array.replicate (fn.ntmps - A.size) undef,defers:=[] } [.code (.seq c0 (.seq (.region id ops false) rest))]:=by
  rw [hbd];simp [Frame.enter,Frame.at,hf,hb]
 have ho0:ops[0]? = some o0:=by rw [← Array.getElem?_toList,hops];rfl
 have ho1:ops[1]? = some o1:=by rw [← Array.getElem?_toList,hops];rfl
 have hsz:ops.size=suf.length+2:=by rw [← Array.length_toList,hops];rfl
 obtain ⟨e0,a0,w0,q0,ar0⟩:=h b [.code (.seq (.region id ops false) rest)] cs
 cases e0<;>simp only [Exit.then] at q0
 obtain ⟨V0,g,B,r0,r1,hcall⟩:=q0
 have st1:Steps P (lone (Frame.enter P f A .normal) cs W) (lone (b.atR a0 (.inRegion ops (0::1::List.range' 2 suf.length)::[.code rest])) cs w0):=by
  rw [henter]
  refine (Steps.head step_seq ar0).trans ?_
  rw [← Frame.atR_of_none hr]
  refine Steps.head stepR_seq ?_
  have:=Steps.one (stepR_region (P:=P) (b:=b) (a:=a0) (k:=[.code rest]) (cs:=cs) (w:=w0) (ops:=ops) (id:=id))
  rw [List.range_eq_range',hsz,range_two] at this
  exact this
 have st2:Steps P (lone (b.atR a0 (.inRegion ops (0::1::List.range' 2 suf.length)::[.code rest])) cs w0) (lone (b.atR (a0.put o0.dst V0) (.inRegion ops (1::List.range' 2 suf.length)::[.code rest])) cs w0) :=
  .one (stepR_value ho0 (wanted_none g0) hd0 r0)
 have st3:Steps P (lone (b.atR (a0.put o0.dst V0) (.inRegion ops (1::List.range' 2 suf.length)::[.code rest])) cs w0) (lone (Frame.enter P g B .normal) (b.atR (a0.put o0.dst V0) (.inRegion ops (1::List.range' 2 suf.length)::[.code rest])::cs) w0) :=
  .one (stepR_enter ho1 (wanted_none g1) hd1 r1)
 obtain ⟨e1,w2,fr,⟨V1,rfl,ρ,L0,L2,s,M,s1,v,s',hact,hclean,hL,hs,hfoM,hfin,hR⟩,hcomes,_,hleave⟩:=hcall (b.atR (a0.put o0.dst V0) (.inRegion ops (1::List.range' 2 suf.length)::[.code rest])::cs)
 have st4:Steps P (lone fr (b.atR (a0.put o0.dst V0) (.inRegion ops (1::List.range' 2 suf.length)::[.code rest])::cs) w2) (lone (b.atR ((a0.put o0.dst V0).put o1.dst V1) (.inRegion ops (List.range' 2 suf.length)::[.code rest])) cs w2):=by
  have hfi:=Frame.finish_atR b (a0.put o0.dst V0) ops 1 (List.range' 2 suf.length) [.code rest] V1
  simp only [ho1,Option.bind_some] at hfi
  rw [← hfi]
  exact .one (step_leave_returned hleave)
 obtain ⟨ρ',W',a',af,ha',hq,st5⟩:=ops_sound hc (suf:=suf) (i:=2) (by rw [hops];rfl) hfo hact hs hfoM
 obtain ⟨h1,h2⟩:=keep_rel (xs:=X f) (ops:=ops.toList) (L:=L0) ha' (fun t ht=>(hq t fun o ho=>ht o (by rw [hops];exact List.mem_cons_of_mem _ (List.mem_cons_of_mem _ ho))).trans (hL t ht)) hclean
 have stA:Steps P (lone (Frame.enter P f A .normal) cs W) (lone (b.atR a' [.code rest]) cs W') :=
  st1.trans (st2.trans (st3.trans (Steps.trans hcomes (st4.trans ((st5 b [.code rest] cs).trans (.one stepR_region_end))))))
 have hctx:CtxRel ρ' ⟨f,none,fn.ntmps,X f⟩ b:=⟨by rw [hbd],by rw [hbd],fun _=>hr,fun l e=>by cases e⟩
 generalize hr2:k cl ⟨f,none,fn.ntmps,X f⟩ (keepK (keepOf (X f) ops.toList) M L0) [] s1=r at hfin
 cases r with
 | fail=>cases hfin
 | done e L1 d s₁ =>
  obtain ⟨ρ₁,a₁,W₁,af₁,ha₁,_,_,st⟩:=codeK_sound rest hk hc rfl rfl hctx h1 h2 af.rel hr2
  have fin:∀ (hle:leaveA P fn.results.toList L1 d s₁=.val v s') (hst:∃ t,Steps P (lone (Frame.enter P f A .normal) cs W) (lone (back b a₁ t) cs W₁)),
    ∃ V w' fr,R (.returned V) w'∧Steps P (lone (Frame.enter P f A .normal) cs W) (lone fr cs w')∧fr.fn=f∧fr.leaving P w' (.returned V):=by
   intro hle hst
   obtain ⟨V,W₂,af₂,hv,st₂⟩:=leaveA_calls ha₁ af₁.rel hle
   obtain ⟨t,st₁⟩:=hst
   obtain ⟨fr,h1,h2,h3⟩:=st₂ b (by rw [hbd]) (by rw [hbd];exact hf) t cs
   exact ⟨V,W₂,fr,hR _ _ _ (af.trans (af₁.trans af₂)) hv,Steps.trans st₁ h1,by rw [h2,hbd],h3⟩
  cases e with
  | exit id=>cases hfin
  | norm =>
   have z:=st [] cs
   obtain ⟨V,w',fr,h1,h2,h3,h4⟩:=fin hfin ⟨[],stA.trans (Steps.trans z (.one (stepR_end hr)))⟩
   exact ⟨.returned V,w',fr,h1,h2,h3,h4⟩
  | ret =>
   obtain ⟨k0,z⟩:=st [] cs
   obtain ⟨V,w',fr,h1,h2,h3,h4⟩:=fin hfin ⟨.code .ret::k0,stA.trans (z.trans (.one (stepR_ret hr)))⟩
   exact ⟨.returned V,w',fr,h1,h2,h3,h4⟩
end Go.Abs
set_option maxRecDepth 10000
namespace Go.Proofs.Ytoolodjbfphkjaa.walk
open Go.Abs Go.RowKit Go.Proofs.Ytoolodjbfphkjaa.code
set_option maxRecDepth 100000 in
theorem cla_calls (a:Option Addr) (n c:Nat) (w:World) (hn:n≤maxLen) (hc:∀ i,i<n→∃ b o,a=some ⟨b,o,none⟩∧∃ v,w.cell? ⟨b,o+i,none⟩=some (.int .i64 v)) :
  Calls Try.prog 3 #[.slice a n c] w fun e w'=>e=.returned (.bool true)∧Below w.heap.size w w':=by
 have HC:=Lib.hid hc
 clear hc
 refine mid2_calls (cl:=knows 9 (call Try.prog X 24)) (knows_sound (call_sound 200) Try.func9 awake.entered (call_sound 24)) Try.func3 rfl (X:=X) (k:=claRest) (fo:=claFirst) rfl rfl rfl (fun c h=>by cases h) (fun c h=>by cases h) (by kernel_rfl) (by kernel_rfl) ?_
 simp only [Try.ntmps3,List.size_toArray,List.length_cons,List.length_nil,Nat.reduceAdd,Nat.reduceSub,Array.replicate_succ,Array.replicate_zero,List.push_toArray,List.append_toArray,List.nil_append,List.cons_append]
 go_wp2
 refine ⟨.slice a n c,6,#[.slice a n c],rfl,by kernel_rfl,(mdie.born _ _ _ _ hn HC.out).mono ?_⟩
 rintro e w1 ⟨rfl,hB1,⟨F,hF⟩,hg1⟩
 have hd0:walk.Die 0 (die0 F).h:=⟨F,get_new_eq _ _ _ rfl (by decide)⟩
 obtain ⟨M,s1,s',hM,hs'⟩:=cla_body 24 (by omega) ⟨3,none,Try.f3.ntmps,X 3⟩ (die0 F) 0 hd0 (by show 0<1;omega) (by show 1+900000000≤1000000000;omega)
 refine ⟨_,rfl,rho0 w.heap.size,.nil,.cons 18 (.ptr 0 0) .nil,die0 F,M,s1,.bool true,s',⟨fun t=>?_,rfl,.nil⟩,fun t _=>rfl,fun t ht=>?_,die0_rel hF,hM,hs' _ (by kernel_rfl),fun ρ' V W' af hv=>?_⟩
 ·by_cases e:t=18
  ·subst e
   exact .ptr (e:=(0,0)) (if_pos rfl)
  ·rw [show (Env.cons 18 (.ptr 0 0) .nil).find t=AV.bad by rw [find_cons,if_neg (by omega)];rfl]
   exact .bad _
 ·by_cases e:t=18
  ·subst e
   exact absurd rfl (ht _ (List.mem_cons_of_mem _ (List.mem_cons_self ..)))
  ·rw [find_cons,if_neg (fun h=>by first | exact e h | exact e h.symm)]
 ·cases hv
  refine ⟨rfl,hB1.trans ⟨af.os,af.tape,af.output,af.size,fun k hk=>af.frame k (by omega) fun b x o e hb hr=>?_⟩⟩
  obtain ⟨_,rfl,_⟩:=die0_has hb
  have hr:some (w.heap.size,(0,0))=some (k,e):=hr
  injection hr with hr
  injection hr with hr _
  omega
end Go.Proofs.Ytoolodjbfphkjaa.walk
