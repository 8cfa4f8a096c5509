/- The law PriceOrder: its body behind its die. -/
import Derived.Test.YtamlnddeiokbdaaM8
import Derived.Test.YtamlnddeiokbdaaProg
import Derived.Tactics
import Derived.Tactics2
import Derived.WalkKit
import Derived.OpenShut
import Derived.Below
import Derived.Lib.Hide
import Derived.KernelRfl
import Derived.Deep.RegionHeld3
import Derived.OwnWalk
import Derived.StillTailTactics
import Derived.Test.YtamlnddeiokbdaaAbsTop
import Derived.Test.YtamlnddeiokbdaaAbsWalk
import Derived.Test.YtamlnddeiokbdaaM6
import Derived.Test.YtamlnddeiokbdaaAwake
import Derived.Test.YtamlnddeiokbdaaWalkAll
set_option linter.unusedSimpArgs false
set_option maxHeartbeats 16000000
set_option linter.unusedVariables false
set_option maxRecDepth 10000
namespace Go.Proofs.Ytamlnddeiokbdaa.walk
open Go.Abs Go.Proofs.Ytamlnddeiokbdaa.code
end Go.Proofs.Ytamlnddeiokbdaa.walk
set_option maxRecDepth 10000
namespace Go.Proofs.Ytamlnddeiokbdaa.walk
open Go.Abs Go.Proofs.Ytamlnddeiokbdaa.code
structure Rest (w t:St) (d kk:Nat):Prop where
 same:∀ c,c<w.n→c≠d→t.h.get c=w.h.get c
 n:w.n≤t.n
 le:t.n≤w.n+kk
 die:Die d t.h
 mle:t.m≤far
end Go.Proofs.Ytamlnddeiokbdaa.walk
set_option maxRecDepth 10000
namespace Go.Proofs.Ytamlnddeiokbdaa.walk
open Go.Abs Go.Proofs.Ytamlnddeiokbdaa.code
theorem pen_stalls (n:Nat) (hn:9≤n) (cx:Ctx) {S:List Sale} {l:List Step} {ks kg:Nat} {v1 va vb:AV} {u t:St} {L:Env} {p4 sb sz bd i kk:Nat} (okS:(⟨ks,kg,S⟩:Book).Ok) (oks:StepsOk l)
  (g4:u.h.get p4=some (.cells [.int .i64 ks,.int .i64 kg,v1] (tag 27))) (b4:p4<u.n) (hsb:u.h.get sb=some (.cells (l.map Step.cells).flatten sz)) (sbn:sb<u.n) (hbd:u.h.get bd=some (.cells (dueRows l S ks).flatten 0)) (bdn:bd<u.n) (R1:RowsAt u.h u.n 6 (S.map Sale.cells) v1) (RA:RowsAt u.h u.n 2 (truthRows (pushZ false (-1) S)) va) (RB:RowsAt u.h u.n 2 (truthRows (pushZ true (-1) S)) vb) (hE:Past u t kk) (htm:t.m≤far) (hs:u.n+kk+20000≤far) (hi:i<ks)
  (q4:L.find 4=.ptr p4 0) (q5:L.find 5=.slice sb 0 l.length l.length true) (q6:L.find 6=.slice bd 0 ks ks false) (q19:L.find 19=va) (q20:L.find 20=vb) (q21:L.find 21=.int .i64 (i:Int)) :
  ∃ L1 t1,K4l2 (knows 20 (call Try.prog X n)) cx L [] t=.done .norm L1 [] t1∧Past u t1 (kk+2)∧t1.m≤far∧L1.find 21=.int .i64 ((i+1:Nat):Int)∧∀ c,c<21→L1.find c=L.find c:=by
 have hf:far=1000000000:=rfl
 have knT:∀ args s,knows 20 (call Try.prog X n) (.fn 17) args s=call Try.prog X n (.fn 17) args s:=fun _ _=>rfl
 have knK:∀ args s,knows 20 (call Try.prog X n) (.fn 18) args s=call Try.prog X n (.fn 18) args s:=fun _ _=>rfl
 have knO:∀ args s,knows 20 (call Try.prog X n) (.fn 23) args s=call Try.prog X n (.fn 23) args s:=fun _ _=>rfl
 have knU:∀ args s,knows 20 (call Try.prog X n) (.fn 19) args s=call Try.prog X n (.fn 19) args s:=fun _ _=>rfl
 have tn:=hE.n
 have tl:=hE.le
 have hks:ks≤8:=okS.k1
 have hl:S.length≤40:=okS.l
 have hF:Fine S:=fun s hs=>by
  obtain ⟨s0,s1,d0,d1,g0,g1,g2,c0,c1,c2⟩:=okS.ok s hs
  exact ⟨g0,g1,g2,c0,c1,c2⟩
 have e0:decide ((i:Int)<(ks:Int))=true:=decide_eq_true (by omega)
 have z0:decide ((0:Int)=0)=true:=rfl
 have ad:∀ s,aAdd s .i64 (i:Int) 1=.val (.int .i64 ((i+1:Nat):Int)) s:=fun s=>by rw [aAdd_i64 s _ _ (by omega)];rfl
 have ix:∀ s,ixsA 2 s (.slice bd 0 ks ks false) (.int .i64 (i:Int))=.val (.ptr bd (i * 2)) s:=fun s=>by rw [ixs_slice _ _ _ _ _ _ _ _ hi,Nat.zero_add]
 have ov1:∀ t,okA (.val v1 t)=.val v1 t:=fun t=>okA_ne R1.ne
 have ova:∀ t,okA (.val va t)=.val va t:=fun t=>okA_ne RA.ne
 have ovb:∀ t,okA (.val vb t)=.val vb t:=fun t=>okA_ne RB.ne
 have sc1:scalars [AV.int .i64 ks,.int .i64 kg,v1]=true:=by
  have hv:v1.scalar=true:=by
   have h:=R1.len u
   cases v1<;>first | rfl | cases h
  show scalars [v1]=true
  unfold scalars
  rw [hv]
  rfl
 have T1:call Try.prog X n (.fn 17) [.agg [.int .i64 ks,.int .i64 kg,v1],.int .i64 (i:Int)] t=.val (.tup [.agg [.int .i64 (turnOf false S i),.int .i64 (turnOf true S i)],.int .i64 0]) t:=Turnover_ok (b:=⟨ks,kg,S⟩) (by omega) okS hi (R1.grow hE.same hE.n) (by omega)
 obtain ⟨w1,w2⟩:=turnOf_range false (i:Int) S okS.ok
 obtain ⟨w3,w4⟩:=turnOf_range true (i:Int) S okS.ok
 have dc:cut (i * 2) 2 (dueRows l S ks).flatten=some [.int .i64 (dueI l (turnOf false S i)),.int .i64 (dueI l (turnOf true S i))]:=by
  rw [flatten_cut (dueRows_wide l S ks) (by rw [dueRows_len];exact hi)]
  unfold dueRows dueRow
  simp
 have t4:=(hE.same p4 b4).trans g4
 have TA:∀ x:St,Past u x (kk+1)→call Try.prog X n (.fn 18) [.agg [.int .i64 ks,.int .i64 kg,v1],va,.int .i64 (i:Int)] x=.val (.int .i64 (turnOf false S i)) x:=fun x hX=>by
  have:=hX.le
  rw [← take_push false (i:Int) S hF]
  exact takings_ok (by omega) (pushZ_ok hF false (-1)) (by unfold pushZ;rw [List.length_map];exact hl) sc1 (by rw [pushZ_sales];exact R1.grow hX.same hX.n) (RA.grow hX.same hX.n) (by omega)
 have TB:∀ x:St,Past u x (kk+1)→call Try.prog X n (.fn 18) [.agg [.int .i64 ks,.int .i64 kg,v1],vb,.int .i64 (i:Int)] x=.val (.int .i64 (turnOf true S i)) x:=fun x hX=>by
  have:=hX.le
  rw [← take_push true (i:Int) S hF]
  exact takings_ok (by omega) (pushZ_ok hF true (-1)) (by unfold pushZ;rw [List.length_map];exact hl) sc1 (by rw [pushZ_sales];exact R1.grow hX.same hX.n) (RB.grow hX.same hX.n) (by omega)
 obtain ⟨pl,hpl⟩:∃ pl,pl=turnOf false S i:=⟨_,rfl⟩
 obtain ⟨ph,hph⟩:∃ ph,ph=turnOf true S i:=⟨_,rfl⟩
 rw [← hpl,← hph] at T1 dc
 rw [← hpl] at w1 w2
 rw [← hph] at w3 w4
 simp only [← hpl] at TA
 simp only [← hph] at TB
 clear hpl hph
 obtain ⟨x,hx⟩:∃ x:St,x=(t.new (.cells [.int .i64 0,.int .i64 0] (tag 38))).put t.n (.cells [.int .i64 pl,.int .i64 ph] (tag 38)):=⟨_,rfl⟩
 have xn:x.n=t.n+1:=by rw [hx];rfl
 have xm:x.m≤t.m:=by rw [hx];simp only [St.put,minN_eq,new_m];omega
 have xt:x.h.get t.n=some (.cells [.int .i64 pl,.int .i64 ph] (tag 38)):=by rw [hx];exact get_put_eq _ _ _ _ rfl (by omega)
 have hX:Past u x (kk+1):=by rw [hx];exact (hE.new _).put _ tn
 have x4:=(hX.same p4 b4).trans g4
 have T2:=TA ⟨x.h,x.n,far⟩ (past_draw hX far)
 have T3:=TB x hX
 obtain ⟨y,hy⟩:∃ y:St,y=(x.new (.cells [.int .i64 0,.int .i64 0] (tag 38))).put x.n (.cells [.int .i64 pl,.int .i64 ph] (tag 38)):=⟨_,rfl⟩
 have yn:y.n=x.n+1:=by rw [hy];rfl
 have ym:y.m≤x.m:=by rw [hy];simp only [St.put,minN_eq,new_m];omega
 have yt:y.h.get x.n=some (.cells [.int .i64 pl,.int .i64 ph] (tag 38)):=by rw [hy];exact get_put_eq _ _ _ _ rfl (by omega)
 have yx:y.h.get t.n=some (.cells [.int .i64 pl,.int .i64 ph] (tag 38)):=by rw [hy,get_put_ne' _ _ _ _ (by omega),get_new_ne _ _ _ (by omega)];exact xt
 have hY:Past u y (kk+2):=by rw [hy];exact (hX.new _).put _ (by omega)
 have yb:=(hY.same sb sbn).trans hsb
 have yd:=(hY.same bd bdn).trans hbd
 have du1:∀ m,call Try.prog X n (.fn 19) [.slice sb 0 l.length l.length true,.int .i64 pl] ⟨y.h,y.n,m⟩=.val (.int .i64 (dueI l pl)) ⟨y.h,y.n,m⟩:=fun m=>dueRef_ok (by omega) oks (by omega) yb (by show y.n+1000≤far;omega)
 have du2:∀ m,call Try.prog X n (.fn 19) [.slice sb 0 l.length l.length true,.int .i64 ph] ⟨y.h,y.n,m⟩=.val (.int .i64 (dueI l ph)) ⟨y.h,y.n,m⟩:=fun m=>dueRef_ok (by omega) oks (by omega) yb (by show y.n+1000≤far;omega)
 have sp1:call Try.prog X n (.fn 23) [.int .i64 pl,.int .i64 ph] x=.val (.agg [.int .i64 pl,.int .i64 ph]) x:=spn_ok n (by omega) pl ph x (by omega)
 have sp2:∀ m,call Try.prog X n (.fn 23) [.int .i64 (dueI l pl),.int .i64 (dueI l ph)] ⟨y.h,y.n,m⟩=.val (.agg [.int .i64 (dueI l pl),.int .i64 (dueI l ph)]) ⟨y.h,y.n,m⟩:=fun m=>spn_ok n (by omega) _ _ _ (by show y.n+100≤far;omega)
 have xmf:x.m≤far:=by omega
 have ymf:y.m≤far:=by omega
 simp (disch:=first|omega|(with_unfolding_all exact rfl)|(simp only[new_n,put_n,new_m];omega)|(refine put_m_le ?_;simp only[new_m];omega)) only [K4l2,K4r28,K4r29,Abs.W,reduceIte,Nat.reduceEqDiff,Nat.reduceAdd,decide_true,decide_false,kLoop_def,Nat.reduceSub,List.cons_append,List.nil_append,List.append_nil,List.length_cons,List.length_nil,Env.find_set,q4,q21,e0,t4,knT,T1,ov1,extE0,extE1,okA_tupE,Nat.zero_add]
 rw [← hx]
 clear hx T1
 simp (disch:=first|omega|(with_unfolding_all exact rfl)|(simp only[new_n,put_n,new_m];omega)|(refine put_m_le ?_;simp only[new_m];omega)) only [K4r30,Abs.W,reduceIte,Nat.reduceEqDiff,Nat.reduceAdd,decide_true,decide_false,kLoop_def,Nat.reduceSub,List.cons_append,List.nil_append,List.append_nil,List.length_cons,List.length_nil,Env.find_set,q4,q19,q20,q21,x4,knK,knO,T2,T3,sp1,ov1,ova,ovb,endO_nil,Nat.zero_add]
 rw [← hy]
 clear hy T2 T3
 have u31s4:=fun cl L s=>congrFun (congrFun (congrFun K4r31s4.eq_1 cl) L) s
 have u31s5:=fun cl L s=>congrFun (congrFun (congrFun K4r31s5.eq_1 cl) L) s
 have u31s6:=fun cl L s=>congrFun (congrFun (congrFun K4r31s6.eq_1 cl) L) s
 have u31s9:=fun cl L s=>congrFun (congrFun (congrFun K4r31s9.eq_1 cl) L) s
 have u31s10:=fun cl L s=>congrFun (congrFun (congrFun K4r31s10.eq_1 cl) L) s
 have u31s11:=fun cl L s=>congrFun (congrFun (congrFun K4r31s11.eq_1 cl) L) s
 have u31s12:=fun cl L s=>congrFun (congrFun (congrFun K4r31s12.eq_1 cl) L) s
 have u31s13:=fun cl L s=>congrFun (congrFun (congrFun K4r31s13.eq_1 cl) L) s
 have u31s14:=fun cl L s=>congrFun (congrFun (congrFun K4r31s14.eq_1 cl) L) s
 have u31s15:=fun cl L s=>congrFun (congrFun (congrFun K4r31s15.eq_1 cl) L) s
 have u31s16:=fun cl L s=>congrFun (congrFun (congrFun K4r31s16.eq_1 cl) L) s
 have u31s17:=fun cl L s=>congrFun (congrFun (congrFun K4r31s17.eq_1 cl) L) s
 have u31s18:=fun cl L s=>congrFun (congrFun (congrFun K4r31s18.eq_1 cl) L) s
 have u31s19:=fun cl L s=>congrFun (congrFun (congrFun K4r31s19.eq_1 cl) L) s
 have u31s20:=fun cl L s=>congrFun (congrFun (congrFun K4r31s20.eq_1 cl) L) s
 have u31s21:=fun cl L s=>congrFun (congrFun (congrFun K4r31s21.eq_1 cl) L) s
 have u31s22:=fun cl L s=>congrFun (congrFun (congrFun K4r31s22.eq_1 cl) L) s
 simp (config:={ maxSteps:=3000000 }) (disch:=first|omega|(with_unfolding_all exact rfl)|(simp only[new_n,put_n,new_m];omega)|(refine put_m_le ?_;simp only[new_m];omega)) only [K4r31,K4r33,u31s4,u31s5,u31s6,u31s9,u31s10,u31s11,u31s12,u31s13,u31s14,u31s15,u31s16,u31s17,u31s18,u31s19,u31s20,u31s21,u31s22,Abs.W,reduceIte,Nat.reduceEqDiff,Nat.reduceAdd,decide_true,decide_false,kLoop_def,Nat.reduceSub,List.cons_append,List.nil_append,List.append_nil,List.length_cons,List.length_nil,Env.find_set,q4,q5,q6,q21,yt,yx,yd,ix,dc,z0,knO,knU,du1,du2,sp2,kEql_def,neqSpan,ad,endO_nil,Nat.zero_add]
 refine ⟨_,_,rfl,hY,ymf,by simp only [Env.find_set,reduceIte,Nat.reduceEqDiff],fun c hc=>?_⟩
 simp only [Env.find_set]
 repeat rw [if_neg (by omega)]
noncomputable def penRest:K:=(kSeq (kRegion K4r2 [4]) (kSeq (kRegion K4r3 [5]) (kSeq (kRegion K4r4 [6,7]) (kSeq (kSeq (kRegion K4r5 [45]) (kCond (.tmp 45) (kSeq (kRegion K4r6 [2]) kRet) kSkip)) (kSeq (kSeq (kRegion K4r7 [8]) (kBlock 0 (kLoop K4l1))) (kSeq (kRegionD K4r26 [19,20]) (kSeq (kSeq (kRegion K4r27 [21]) (kBlock 4 (kLoop K4l2))) (kSeq (kRegion K4r34 [2]) kRet))))))))
theorem pen_body (n:Nat) (hn:17≤n) (cx:Ctx) (s:St) (d:Nat) (hd:Die d s.h) (hdn:d<s.n) (hs:s.n+9000000≤far) (hm:s.m=far) :
  ∃ s',finA Try.prog Try.f4 (penRest (knows 20 (call Try.prog X n)) cx (.cons 3 (.ptr d 0) .nil) [] s)=.val (.bool true) s':=by
 have hf:far=1000000000:=rfl
 have knB:∀ args s,knows 20 (call Try.prog X n) (.fn 10) args s=call Try.prog X n (.fn 10) args s:=fun _ _=>rfl
 have knS:∀ args s,knows 20 (call Try.prog X n) (.fn 11) args s=call Try.prog X n (.fn 11) args s:=fun _ _=>rfl
 have knD:∀ args s,knows 20 (call Try.prog X n) (.fn 12) args s=call Try.prog X n (.fn 12) args s:=fun _ _=>rfl
 have knU:∀ args s,knows 20 (call Try.prog X n) (.fn 22) args s=call Try.prog X n (.fn 22) args s:=fun _ _=>rfl
 have knA:∀ s,knows 20 (call Try.prog X n) (.fn 20) [] s=.val (.bool true) s:=fun _=>rfl
 unfold penRest
 simp (disch:=first|omega|(with_unfolding_all exact rfl)|(simp only[new_n,put_n,new_m];omega)|(refine put_m_le ?_;simp only[new_m];omega)) only [K4r2,Abs.W,reduceIte,Nat.reduceEqDiff,Nat.reduceAdd,decide_true,decide_false,kLoop_def,Nat.reduceSub,List.cons_append,List.nil_append,List.append_nil,List.length_cons,List.length_nil,Env.find_set,knB]
 generalize hc1:call _ _ _ (.fn 10) _ _=r1
 obtain ⟨b,vb,bl1,t1,rfl,st1,d1,⟨ok1,ak,ag⟩,len1,hbl1,hI1⟩:=BookOf_ex3 (k:=3) (g:=3) (n:=10) hc1 (by omega) hd hdn (by omega) (by omega) (by omega) (by omega)
 have n1:=st1.n
 have k1:=st1.le
 have m1:=st1.mle
 have sc1:scalars (bookV b vb)=true:=by show scalars [vb]=true;exact hI1.scal.1
 have kvb:∀ t,okA (.val vb t)=.val vb t:=hI1.okA
 unfold bookV at sc1
 simp (disch:=first|omega|(with_unfolding_all exact rfl)|(simp only[new_n,put_n,new_m];omega)|(refine put_m_le ?_;simp only[new_m];omega)) only [Abs.W,reduceIte,Nat.reduceEqDiff,Nat.reduceAdd,decide_true,decide_false,kLoop_def,Nat.reduceSub,List.cons_append,List.nil_append,List.append_nil,List.length_cons,List.length_nil,Env.find_set,sc1,Nat.zero_add]
 obtain ⟨y,hy⟩:∃ y:St,y=(t1.new (.cells [.int .i64 0,.int .i64 0,.nilslice] (tag 27))).put t1.n (.cells (bookV b vb) (tag 27)):=⟨_,rfl⟩
 have yn:y.n=t1.n+1:=by rw [hy];rfl
 have ym:y.m≤t1.m:=by rw [hy];simp only [St.put,minN_eq,new_m];omega
 have yg:∀ c,c<t1.n→y.h.get c=t1.h.get c:=fun c hc=>by rw [hy,get_put_ne' _ _ _ _ (by omega),get_new_ne _ _ _ (by omega)]
 have y4:y.h.get t1.n=some (.cells (bookV b vb) (tag 27)):=by rw [hy];exact get_put_eq _ _ _ _ rfl (by omega)
 unfold bookV at hy y4
 rw [← hy]
 clear hy
 have dy:Die d y.h:=Die.keep d1 (yg d (by omega))
 simp (disch:=first|omega|(with_unfolding_all exact rfl)|(simp only[new_n,put_n,new_m];omega)|(refine put_m_le ?_;simp only[new_m];omega)) only [K4r3,Abs.W,reduceIte,Nat.reduceEqDiff,Nat.reduceAdd,decide_true,decide_false,kLoop_def,Nat.reduceSub,List.cons_append,List.nil_append,List.append_nil,List.length_cons,List.length_nil,Env.find_set,knS,Nat.zero_add]
 generalize hc2:call _ _ _ (.fn 11) _ _=r2
 obtain ⟨l,sb,t2,rfl,st2,d2,oks,hl,sb0,sb1,hsb⟩:=StepsOf_ex hc2 (by omega) dy (by omega) (by omega)
 have n2:=st2.n
 have k2:=st2.le
 have m2:=st2.mle
 have g2:∀ c,c<y.n→c≠d→t2.h.get c=y.h.get c:=fun c hc hcd=>st2.same c hc hcd
 have a4:=(g2 t1.n (by omega) (by omega)).trans y4
 have I2:IsAt t2.h y.n bl1 6 (tag 51) (b.sales.map Sale.cells) vb:=(hI1.mono (h':=y.h) (n':=y.n) (fun h=>yg bl1 h) (by omega)).mono (fun h=>g2 bl1 h (by omega)) (Nat.le_refl _)
 simp (disch:=first|omega|(with_unfolding_all exact rfl)|(simp only[new_n,put_n,new_m];omega)|(refine put_m_le ?_;simp only[new_m];omega)) only [K4r4,Abs.W,reduceIte,Nat.reduceEqDiff,Nat.reduceAdd,decide_true,decide_false,kLoop_def,Nat.reduceSub,List.cons_append,List.nil_append,List.append_nil,List.length_cons,List.length_nil,Env.find_set,a4,kvb,knD,Nat.zero_add]
 generalize hc5:call _ _ _ (.fn 12) _ _=r5
 obtain ⟨bd,w,rfl,st6,bd0,bd1,hbd⟩:=Dues_ex (b:=b) (v:=vb) hc5 (by omega) ok1 oks (by omega) hsb (by omega) (I2.mono (fun _=>rfl) (by omega)).rows.at_ (by omega)
 have n6:=st6.n
 have k6:=st6.le
 have m6:=st6.m
 have g6:=st6.same
 have w4:=(g6 t1.n (by omega)).trans a4
 have wsb:=(g6 sb (by omega)).trans hsb
 have Iw:IsAt w.h w.n bl1 6 (tag 51) (b.sales.map Sale.cells) vb:=I2.mono (fun h=>g6 bl1 (by omega)) (by omega)
 have Rw:=Iw.rows.at_
 have hgd:=ok1.g1
 have hst:=ok1.k1
 have hl40:=ok1.l
 have wm:w.m≤far:=by omega
 have e0:decide ((0:Int)=0)=true:=rfl
 have e1:decide ((b.stalls:Int)=(b.stalls:Int))=true:=decide_eq_true rfl
 have u5s4:=fun cl L s=>congrFun (congrFun (congrFun K4r5s4.eq_1 cl) L) s
 have u5s5:=fun cl L s=>congrFun (congrFun (congrFun K4r5s5.eq_1 cl) L) s
 have u5s6:=fun cl L s=>congrFun (congrFun (congrFun K4r5s6.eq_1 cl) L) s
 have u5s7:=fun cl L s=>congrFun (congrFun (congrFun K4r5s7.eq_1 cl) L) s
 have u5s8:=fun cl L s=>congrFun (congrFun (congrFun K4r5s8.eq_1 cl) L) s
 simp (config:={ maxSteps:=3000000 }) (disch:=first|omega|(with_unfolding_all exact rfl)|(simp only[new_n,put_n,new_m];omega)|(refine put_m_le ?_;simp only[new_m];omega)) only [K4r5,u5s4,u5s5,u5s6,u5s7,u5s8,K4r7,Abs.W,reduceIte,Nat.reduceEqDiff,Nat.reduceAdd,decide_true,decide_false,kLoop_def,Nat.reduceSub,List.cons_append,List.nil_append,List.append_nil,List.length_cons,List.length_nil,Env.find_set,okA_tupE,extE0,extE1,e0,e1,w4,Nat.zero_add]
 generalize hl1:loopN _ rounds _ _ _ _ _=q1
 obtain ⟨e,L2,t8,rfl,rfl,p4,p5,p6,hP,hPm⟩:=loop_of hl1
  (fun i L' t=>L'.find 4=.ptr t1.n 0∧L'.find 5=.slice sb 0 l.length l.length true∧L'.find 6=.slice bd 0 b.stalls b.stalls false∧L'.find 8=.int .i64 (i:Int)∧Past w t (1001 * i)∧t.m≤far)
  (fun e L' t=>e=.exit 0∧L'.find 4=.ptr t1.n 0∧L'.find 5=.slice sb 0 l.length l.length true∧L'.find 6=.slice bd 0 b.stalls b.stalls false∧Past w t (1001 * b.goods)∧t.m≤far)
  b.goods (by unfold rounds;omega) ⟨by simp only [find_cons,Env.find_set,reduceIte,Nat.reduceEqDiff],by simp only [find_cons,Env.find_set,reduceIte,Nat.reduceEqDiff],by simp only [find_cons,Env.find_set,reduceIte,Nat.reduceEqDiff],by simp only [find_cons,Env.find_set,reduceIte,Nat.reduceEqDiff];rfl,Past.refl w,wm⟩
  (fun i L' t hi ⟨q4,q5,q6,q8,hE,hEm⟩=>by
   by_cases hlt:i<b.goods
   ·obtain ⟨L3,t3',z1,z2,z3,z4,z5⟩:=pen_goods n (by omega) cx (S:=b.sales) (ks:=b.stalls) (kg:=b.goods) (v1:=vb) ok1 w4 (by omega) Rw hE hEm (by omega) hlt q4 q8
    exact .inl ⟨hlt,L3,t3',z1,(z5 4 (by omega)).trans q4,(z5 5 (by omega)).trans q5,(z5 6 (by omega)).trans q6,z4,z2.mono (by omega),z3⟩
   ·obtain rfl:i=b.goods:=by omega
    have e1:decide ((b.goods:Int)<(b.goods:Int))=false:=by simp
    have t4':=(hE.same t1.n (by omega)).trans w4
    refine .inr ⟨.exit 0,L'.set 49 (.bool false),t,by simp,?_,rfl,by simp only [Env.find_set,q4,reduceIte,Nat.reduceEqDiff],by simp only [Env.find_set,q5,reduceIte,Nat.reduceEqDiff],by simp only [Env.find_set,q6,reduceIte,Nat.reduceEqDiff],hE,hEm⟩
    simp (disch:=first|omega|(with_unfolding_all exact rfl)|(simp only[new_n,put_n,new_m];omega)|(refine put_m_le ?_;simp only[new_m];omega)) only [K4l1,K4r8,Abs.W,reduceIte,Nat.reduceEqDiff,Nat.reduceAdd,decide_true,decide_false,kLoop_def,Nat.reduceSub,List.cons_append,List.nil_append,List.append_nil,List.length_cons,List.length_nil,Env.find_set,q4,q8,t4',e1,Nat.zero_add])
 have pn:=hP.n
 have pl:=hP.le
 have p44:=(hP.same t1.n (by omega)).trans w4
 simp (disch:=first|omega|(with_unfolding_all exact rfl)|(simp only[new_n,put_n,new_m];omega)|(refine put_m_le ?_;simp only[new_m];omega)) only [K4r26,Abs.W,reduceIte,Nat.reduceEqDiff,Nat.reduceAdd,decide_true,decide_false,kLoop_def,Nat.reduceSub,List.cons_append,List.nil_append,List.append_nil,List.length_cons,List.length_nil,Env.find_set,p4,p44,kvb,knU,Nat.zero_add]
 generalize hc8:call _ _ _ (.fn 22) _ _=r8
 obtain ⟨va,ta,rfl,sa,Ra⟩:=pushed_ex (b:=b) (vb:=vb) (p := -1) false hc8 (by omega) hl40 (Rw.grow hP.same hP.n) (by show t8.n+6000≤far;omega)
 have am:ta.m=far:=sa.m
 have an:t8.n≤ta.n:=sa.n
 have al:ta.n≤t8.n+500:=sa.le
 rw [thenT_val _ _ _ _ _ _ _ _ (by omega)]
 have hA:Past w ⟨ta.h,ta.n,minN t8.m ta.m⟩ (1001 * b.goods+500):=past_draw (past_more hP sa) _
 have ova:∀ t,okA (.val va t)=.val va t:=fun t=>okA_ne Ra.ne
 have a44:=(hA.same t1.n (by omega)).trans w4
 simp (disch:=first|omega|(with_unfolding_all exact rfl)|(simp only[new_n,put_n,new_m];omega)|(refine put_m_le ?_;simp only[new_m];omega)) only [Abs.W,reduceIte,Nat.reduceEqDiff,Nat.reduceAdd,decide_true,decide_false,kLoop_def,Nat.reduceSub,List.cons_append,List.nil_append,List.append_nil,List.length_cons,List.length_nil,Env.find_set,p4,a44,kvb,knU,Nat.zero_add]
 generalize hc9:call _ _ _ (.fn 22) _ _=r9
 obtain ⟨vc,tb,rfl,sc,Rb⟩:=pushed_ex (b:=b) (vb:=vb) (p := -1) true hc9 (by omega) hl40 (Rw.grow hA.same hA.n) (by show ta.n+6000≤far;omega)
 have bm:tb.m=minN t8.m ta.m:=sc.m
 have bn:ta.n≤tb.n:=sc.n
 have bl:tb.n≤ta.n+500:=sc.le
 have bmf:tb.m≤far:=by rw [bm,minN_eq];omega
 have gb:∀ c,c<w.n→tb.h.get c=w.h.get c:=fun c hc=>(sc.same c (by show c<ta.n;omega)).trans (hA.same c hc)
 have ovc:∀ t,okA (.val vc t)=.val vc t:=fun t=>okA_ne Rb.ne
 have RA:=Ra.grow sc.same sc.n
 have b44:=(gb t1.n (by omega)).trans w4
 have bsb:=(gb sb (by omega)).trans wsb
 have bbd:=(gb bd (by omega)).trans hbd
 have RS:=Rw.grow gb (by omega:w.n≤tb.n)
 simp (disch:=first|omega|(with_unfolding_all exact rfl)|(simp only[new_n,put_n,new_m];omega)|(refine put_m_le ?_;simp only[new_m];omega)) only [K4r27,Abs.W,reduceIte,Nat.reduceEqDiff,Nat.reduceAdd,decide_true,decide_false,kLoop_def,Nat.reduceSub,List.cons_append,List.nil_append,List.append_nil,List.length_cons,List.length_nil,Env.find_set,ova,ovc,endO_nil,Nat.zero_add]
 generalize hl2:loopN _ rounds _ _ _ _ _=q2
 obtain ⟨e,L3,t9,rfl,rfl⟩:=loop_of hl2
  (fun i L' t=>L'.find 4=.ptr t1.n 0∧L'.find 5=.slice sb 0 l.length l.length true∧L'.find 6=.slice bd 0 b.stalls b.stalls false∧L'.find 19=va∧L'.find 20=vc∧L'.find 21=.int .i64 (i:Int)∧Past tb t (2 * i)∧t.m≤far)
  (fun e L' t=>e=.exit 4)
  b.stalls (by unfold rounds;omega) ⟨by simp only [Env.find_set,p4,reduceIte,Nat.reduceEqDiff],by simp only [Env.find_set,p5,reduceIte,Nat.reduceEqDiff],by simp only [Env.find_set,p6,reduceIte,Nat.reduceEqDiff],by simp only [Env.find_set,reduceIte,Nat.reduceEqDiff],by simp only [Env.find_set,reduceIte,Nat.reduceEqDiff],by simp only [Env.find_set,reduceIte,Nat.reduceEqDiff];rfl,Past.refl tb,bmf⟩
  (fun i L' t hi ⟨q4,q5,q6,q19,q20,q21,hE,hEm⟩=>by
   by_cases hlt:i<b.stalls
   ·obtain ⟨L3,t3',z1,z2,z3,z4,z5⟩:=pen_stalls n (by omega) cx (S:=b.sales) (ks:=b.stalls) (kg:=b.goods) (v1:=vb) ok1 oks b44 (by omega) bsb (by omega) bbd (by omega) RS RA Rb hE hEm (by omega) hlt q4 q5 q6 q19 q20 q21
    exact .inl ⟨hlt,L3,t3',z1,(z5 4 (by omega)).trans q4,(z5 5 (by omega)).trans q5,(z5 6 (by omega)).trans q6,(z5 19 (by omega)).trans q19,(z5 20 (by omega)).trans q20,z4,z2.mono (by omega),z3⟩
   ·obtain rfl:i=b.stalls:=by omega
    have e1:decide ((b.stalls:Int)<(b.stalls:Int))=false:=by simp
    have t4':=(hE.same t1.n (by omega)).trans b44
    refine .inr ⟨.exit 4,L'.set 163 (.bool false),t,by simp,?_,rfl⟩
    simp (disch:=first|omega|(with_unfolding_all exact rfl)|(simp only[new_n,put_n,new_m];omega)|(refine put_m_le ?_;simp only[new_m];omega)) only [K4l2,K4r28,Abs.W,reduceIte,Nat.reduceEqDiff,Nat.reduceAdd,decide_true,decide_false,kLoop_def,Nat.reduceSub,List.cons_append,List.nil_append,List.append_nil,List.length_cons,List.length_nil,Env.find_set,q4,q21,t4',e1,Nat.zero_add])
 simp (disch:=first|omega|(with_unfolding_all exact rfl)|(simp only[new_n,put_n,new_m];omega)|(refine put_m_le ?_;simp only[new_m];omega)) only [K4r34,res4,Abs.W,reduceIte,Nat.reduceEqDiff,Nat.reduceAdd,decide_true,decide_false,kLoop_def,Nat.reduceSub,List.cons_append,List.nil_append,List.append_nil,List.length_cons,List.length_nil,Env.find_set,knA]
 exact ⟨_,rfl⟩
end Go.Proofs.Ytamlnddeiokbdaa.walk
namespace Go.Proofs.Ytamlnddeiokbdaa.mdie
open Go.RowKit
def Die (b:Nat) (w:World):Prop:=∃ s,w.heap[b]? = some (.cells #[.int .u64 s] 69 (0,0))
theorem Die.old {b:Nat} {w:World} (h:Die b w):(∃ s,w.cell? ⟨b,0,none⟩=some (.int .u64 s))∧w.frozen? ⟨b,0,none⟩=false:=by
 obtain ⟨s,hs⟩:=h
 refine ⟨⟨s,?_⟩,?_⟩
 ·unfold World.cell?;simp [hs]
 ·unfold World.frozen?;simp [hs]
structure Stir (b:Nat) (w w':World):Prop where
 below:Below b w w'
 rest:∀ p:Addr,p.block≠b→p.block<w.heap.size→w'.cell? p=w.cell? p∧w'.frozen? p=w.frozen? p
 die:Die b w'
def Gives (b:Nat) (k:IntKind) (Q:Int→Prop) (w:World) (e:Ending) (w':World):Prop:=∃ r,Q r∧e=.returned (.int k r)∧Stir b w w'
theorem bits_nonneg (op:BinOp) (x y:Int):0≤bits op .u64 x y:=by
 have:=bounds_u64 (wf_bits (k:=.u64) (op:=op) (x:=x) (y:=y))
 exact this.1
theorem Stir.set {b:Nat} {w:World} (h:Die b w) (s:Int):Stir b w (w.setCell ⟨b,0,none⟩ (.int .u64 s)):=by
 obtain ⟨t,ht⟩:=h
 refine ⟨(Below.refl b w).setCell (p:=⟨b,0,none⟩) (Nat.le_refl b) _,fun p hp _=>⟨World.cell?_of_block (Below.heap_setCell _ _ _ _ hp),World.frozen?_of_block (Below.heap_setCell _ _ _ _ hp)⟩,⟨s,?_⟩⟩
 unfold World.setCell
 simp [Array.getElem?_modify,ht]
theorem roll (b:Nat) (w:World) (h:Die b w):Calls Try.prog 30 #[.pointer (some ⟨b,0,none⟩)] w (Gives b .u64 (fun r=>0≤r) w):=by
 have h':=Lib.hid h
 obtain ⟨⟨s,hs⟩,hf⟩:=h.old
 clear h
 go_enter Try.func30,Try.ntmps30
 go_wp2
 go_ret
 exact ⟨_,bits_nonneg _ _ _,rfl,Stir.set h'.out _⟩
theorem Stir.refl {b:Nat} {w:World} (h:Die b w):Stir b w w:=⟨Below.refl _ _,fun _ _ _=>⟨rfl,rfl⟩,h⟩
theorem Stir.trans {b:Nat} {u v w:World} (h:Stir b u v) (k:Stir b v w):Stir b u w :=
 ⟨h.below.trans k.below,fun p hp hb=>⟨(k.rest p hp (Nat.lt_of_lt_of_le hb h.below.size)).1.trans (h.rest p hp hb).1,(k.rest p hp (Nat.lt_of_lt_of_le hb h.below.size)).2.trans (h.rest p hp hb).2⟩,k.die⟩
theorem Die.lt {b:Nat} {w:World} (h:Die b w):b<w.heap.size:=by obtain ⟨⟨s,hs⟩,_⟩:=h.old;exact World.block_lt_of_cell? w _ hs
theorem Stir.drew {b:Nat} {w w':World} (h:Stir b w w'):Stir b w w'.drew:=h.trans ⟨⟨rfl,rfl,rfl,Nat.le_refl _,fun _ _=>rfl⟩,fun _ _ _=>⟨rfl,rfl⟩,h.die⟩
def Born (w:World) (e:Ending) (w':World):Prop:=e=.returned (.pointer (some ⟨w.heap.size,0,none⟩))∧Below w.heap.size w w'∧Die w.heap.size w'∧w.heap.size<w'.heap.size
theorem Die.born (w:World) (s:Int):Die w.heap.size (w.alloc (.cells #[.int .u64 s] 69)):=⟨s,by show (w.heap.push _)[w.heap.size]? = _;rw [Array.getElem?_push,if_pos rfl]⟩
set_option maxRecDepth 100000 in
theorem born (x:Option Addr) (n c:Nat) (w:World) (hn:n≤maxLen) (hc:∀ i,i<n→∃ b o,x=some ⟨b,o,none⟩∧∃ v,w.cell? ⟨b,o+i,none⟩=some (.int .i64 v)) :
  Calls Try.prog 9 #[.slice x n c] w (Born w):=by
 unfold maxLen at hn
 have HC:=Lib.hid hc
 clear hc
 have hdie:=Lib.hid (Die.born w 2611923443488327891)
 go_enter Try.func9,Try.ntmps9
 go_wp2
 go_loopw [4] (fun i wr=>∃ k:Nat,k≤n∧i=.int .i64 k∧Stir w.heap.size (w.alloc (.cells #[.int .u64 2611923443488327891] 69)) wr) (fun i _=>n - (intOf i).toNat)
 case atStart=>exact ⟨0,Nat.zero_le _,rfl,Stir.refl hdie.out⟩
 case round =>
  obtain ⟨k,hk,rfl,hs⟩:=hrel
  by_cases hlt:k<n
  ·obtain ⟨b,o,rfl,v,hv⟩:=HC.out k hlt
   have hb:=World.block_lt_of_cell? _ _ hv
   simp only at hb
   have hv1:wr.cell? ⟨b,o+k,none⟩=some (.int .i64 v):=((hs.rest ⟨b,o+k,none⟩ (Nat.ne_of_lt hb) (by simp;omega)).1.trans (World.cell?_of_block (Below.heap_alloc _ _ _ hb))).trans hv
   clear hv
   obtain ⟨⟨s,hd⟩,hf⟩:=hs.die.old
   have hst:=Lib.hid (fun s1:Int=>(hs.drew).trans (Stir.set hs.drew.die s1))
   have hlt':(k:Int)<(n:Int):=by omega
   have hk0:(0:Int)≤(k:Int):=by omega
   go_wp2
   go_still_tail 12,(by kernel_rfl)
   change wpList _ _ _ _ _ wr.drew
   go_wp2_with (go_at_call 30;refine (roll _ _ ?_).mono ?_;exact (hst.out _).die;rintro e w1 ⟨r,hr,rfl,hs1⟩;(have hs2:=(hst.out _).trans hs1))
   go_roundw
   case rel=>exact ⟨k+1,by omega,by go_num,hs2⟩
   case measure=>simp [intOf];omega
  ·go_wp2
   go_ret
   exact ⟨rfl,((Below.refl w.heap.size w).alloc (Nat.le_refl _) _).trans hs.below,hs.die,by have:=hs.below.size;simp at this;omega⟩
end Go.Proofs.Ytamlnddeiokbdaa.mdie
namespace Go.Abs
open Go.RowKit
variable {P:Program}
theorem mid_calls {cl:CallF} (hc:CallSound P cl) {f:FuncId} {fn:Func} (hf:P.funcs[f]? = some fn) {c0 c1 rest:Code} (hb:fn.body=some (.seq c0 (.seq c1 rest))) {X:FuncId→List Nat} {k:K} {A:Array Value} {W:World} {R:Ending→World→Prop}
  (h:c0.wp P (Exit.then (fun a w=>c1.wp P (Exit.then (fun a w=>∃ ρ L s v s',ActRel ρ fn.ntmps L [] a∧Clean (X f) L∧SRel ρ s w∧finA P fn (k cl ⟨f,none,fn.ntmps,X f⟩ L [] s)=.val v s'∧∀ ρ' V W',After ρ s w ρ' s' W'→VRel ρ' v V→R (.returned V) W') fun _ _ _=>False) a w) fun _ _ _=>False)
   { tmps:=A++Array.replicate (fn.ntmps - A.size) undef,defers:=[] } W)
  (hk:codeK P (X f) fn.ntmps rest=some k):Calls P f A W R:=by
 intro cs
 obtain ⟨b,hbd⟩:∃ b:Frame,b={ (default:Frame) with fn:=f,kind:=.normal }:=⟨_,rfl⟩
 have hr:b.roundOf=none:=by rw [hbd];rfl
 have henter:Frame.enter P f A .normal=b.at { tmps:=A++Array.replicate (fn.ntmps - A.size) undef,defers:=[] } [.code (.seq c0 (.seq c1 rest))]:=by
  rw [hbd];simp [Frame.enter,Frame.at,hf,hb]
 obtain ⟨e0,a0,w0,q0,ar0⟩:=h b [.code (.seq c1 rest)] cs
 cases e0<;>simp only [Exit.then] at q0
 obtain ⟨e1,a1,w1,q1,ar1⟩:=q0 b [.code rest] cs
 cases e1<;>simp only [Exit.then] at q1
 obtain ⟨ρ,L,s,v,s',hact,hclean,hs,hfin,hR⟩:=q1
 have st1:Steps P (lone (Frame.enter P f A .normal) cs W) (lone (b.atR a1 [.code rest]) cs w1):=by
  rw [henter,Frame.atR_of_none hr]
  exact (Steps.head step_seq ar0).trans (Steps.head step_seq ar1)
 have hctx:CtxRel ρ ⟨f,none,fn.ntmps,X f⟩ b:=⟨by rw [hbd],by rw [hbd],fun _=>hr,fun l e=>by cases e⟩
 generalize hr2:k cl ⟨f,none,fn.ntmps,X f⟩ L [] s=r at hfin
 cases r with
 | fail=>cases hfin
 | done e L1 d s₁ =>
  obtain ⟨ρ₁,a₁,W₁,af,ha₁,_,_,st⟩:=codeK_sound rest hk hc rfl rfl hctx hact hclean hs hr2
  have fin:∀ (hle:leaveA P fn.results.toList L1 d s₁=.val v s') (hst:∃ t,Steps P (lone (Frame.enter P f A .normal) cs W) (lone (back b a₁ t) cs W₁)),
    ∃ V w' fr,R (.returned V) w'∧Steps P (lone (Frame.enter P f A .normal) cs W) (lone fr cs w')∧fr.fn=f∧fr.leaving P w' (.returned V):=by
   intro hle hst
   obtain ⟨V,W₂,af₂,hv,st₂⟩:=leaveA_calls ha₁ af.rel hle
   obtain ⟨t,st₁⟩:=hst
   obtain ⟨fr,h1,h2,h3⟩:=st₂ b (by rw [hbd]) (by rw [hbd];exact hf) t cs
   exact ⟨V,W₂,fr,hR _ _ _ (af.trans af₂) hv,Steps.trans st₁ h1,by rw [h2,hbd],h3⟩
  cases e with
  | exit id=>cases hfin
  | norm =>
   have z:=st [] cs
   obtain ⟨V,w',fr,h1,h2,h3,h4⟩:=fin hfin ⟨[],st1.trans (Steps.trans z (.one (stepR_end hr)))⟩
   exact ⟨.returned V,w',fr,h1,h2,h3,h4⟩
  | ret =>
   obtain ⟨k0,z⟩:=st [] cs
   obtain ⟨V,w',fr,h1,h2,h3,h4⟩:=fin hfin ⟨.code .ret::k0,st1.trans (z.trans (.one (stepR_ret hr)))⟩
   exact ⟨.returned V,w',fr,h1,h2,h3,h4⟩
end Go.Abs
set_option maxRecDepth 10000
namespace Go.Proofs.Ytamlnddeiokbdaa.walk
open Go.Abs Go.RowKit Go.Proofs.Ytamlnddeiokbdaa.code
noncomputable def die0 (F:Int):St:=St.new ⟨.nil,0,far⟩ (.cells [.int .u64 F] (tag 69))
def rho0 (d:Nat):Rho:=fun b=>if b=0 then some (d,(0,0)) else none
theorem die0_get {F:Int} {b:Nat} {o:AObj} (h:(die0 F).h.get b=some o):b=0∧o=.cells [.int .u64 F] (tag 69):=by
 by_cases e:b=0
 ·subst e
  have:(die0 F).h.get 0=some (.cells [.int .u64 F] (tag 69)):=get_new_eq _ _ _ rfl (by decide)
  rw [this] at h
  exact ⟨rfl,(Option.some.inj h).symm⟩
 ·unfold die0 at h
  rw [get_new_ne _ _ _ e] at h
  cases h
theorem die0_has {F:Int} {b x:Nat} {o:AObj} (h:Has (die0 F).h b x o):b=0∧x=0∧o=.cells [.int .u64 F] (tag 69):=by
 obtain ⟨y,hy,hp⟩:=h
 obtain ⟨rfl,rfl⟩:=die0_get hy
 have hl:AObj.lone (.cells [.int .u64 F] (tag 69)):=trivial
 rw [parts_lone hl] at hp
 have:=List.mem_singleton.mp hp
 cases this
 exact ⟨rfl,rfl,rfl⟩
theorem die0_rel {F:Int} {d:Nat} {W:World} (h:W.heap[d]? = some (.cells #[.int .u64 F] 69 (0,0))):SRel (rho0 d) (die0 F) W:=by
 refine ⟨⟨fun b o hb=>?_,fun b x o hb=>?_,fun b b' x x' o o' c e e' hb hb' _ _=>?_,fun g cs hg=>(by cases hg),fun b x o c e hb hr=>rfl,fun b x x' o o' c e e' hb hb' hr hr'=>?_⟩,fun b hb=>?_⟩
 ·rw [(die0_get hb).1];decide
 ·obtain ⟨rfl,rfl,rfl⟩:=die0_has hb
  exact ⟨d,(0,0),_,if_pos rfl,h,.cells rfl (.cons (.int _ _) .nil) (Typed.tag _)⟩
 ·rw [(die0_has hb).1,(die0_has hb').1]
 ·obtain ⟨_,rfl,_⟩:=die0_has hb
  obtain ⟨_,rfl,_⟩:=die0_has hb'
  rw [hr] at hr'
  cases hr'
  rfl
 ·have:1≤b:=hb
  exact if_neg (by omega)
end Go.Proofs.Ytamlnddeiokbdaa.walk
set_option maxRecDepth 10000
namespace Go.Proofs.Ytamlnddeiokbdaa.walk
open Go.Abs Go.RowKit Go.Proofs.Ytamlnddeiokbdaa.code
set_option maxRecDepth 100000 in
theorem pen_calls (a:Option Addr) (n c:Nat) (w:World) (hn:n≤maxLen) (hc:∀ i,i<n→∃ b o,a=some ⟨b,o,none⟩∧∃ v,w.cell? ⟨b,o+i,none⟩=some (.int .i64 v)) :
  Calls Try.prog 4 #[.slice a n c] w fun e w'=>e=.returned (.bool true)∧Below w.heap.size w w':=by
 have HC:=Lib.hid hc
 clear hc
 refine mid_calls (cl:=knows 20 (call Try.prog X 20)) (knows_sound (call_sound 200) Try.func20 awake.entered (call_sound 20)) Try.func4 rfl (X:=X) (k:=penRest) ?_ (by kernel_rfl)
 simp only [Try.ntmps4,List.size_toArray,List.length_cons,List.length_nil,Nat.reduceAdd,Nat.reduceSub,Array.replicate_succ,Array.replicate_zero,List.push_toArray,List.append_toArray,List.nil_append,List.cons_append]
 go_wp2_with (go_at_call 9;((with_reducible refine (mdie.born _ _ _ _ hn HC.out).mono ?_);rintro e w1 ⟨rfl,hB1,⟨F,hF⟩,hg1⟩))
 have hd0:walk.Die 0 (die0 F).h:=⟨F,get_new_eq _ _ _ rfl (by decide)⟩
 obtain ⟨s',hs'⟩:=pen_body 20 (by omega) ⟨4,none,Try.f4.ntmps,X 4⟩ (die0 F) 0 hd0 (by show 0<1;omega) (by show 1+9000000≤1000000000;omega) rfl
 refine ⟨rho0 w.heap.size,.cons 3 (.ptr 0 0) .nil,die0 F,.bool true,s',⟨fun t=>?_,rfl,.nil⟩,fun t ht=>?_,die0_rel hF,hs',fun ρ' V W' af hv=>?_⟩
 ·by_cases e:t=3
  ·subst e
   exact .ptr (e:=(0,0)) (if_pos rfl)
  ·rw [show (Env.cons 3 (.ptr 0 0) .nil).find t=AV.bad by rw [find_cons,if_neg (by omega)];rfl]
   exact .bad _
 ·by_cases e:t=3
  ·subst e
   have hx:(X 4).contains 3=true:=by kernel_rfl
   rw [hx] at ht
   cases ht
  ·rw [find_cons,if_neg (by omega)];rfl
 ·cases hv
  refine ⟨rfl,hB1.trans ⟨af.os,af.tape,af.output,af.size,fun k hk=>af.frame k (by omega) fun b x o e hb hr=>?_⟩⟩
  obtain ⟨_,rfl,_⟩:=die0_has hb
  have hr:some (w.heap.size,(0,0))=some (k,e):=hr
  injection hr with hr
  injection hr with hr _
  omega
end Go.Proofs.Ytamlnddeiokbdaa.walk
