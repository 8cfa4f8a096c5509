/- The law PriceTrue: its body behind its die. -/
import Derived.Test.YtamlnddeiokbdaaM7
import Derived.Test.YtamlnddeiokbdaaProg
import Derived.Tactics
import Derived.Tactics2
import Derived.WalkKit
import Derived.OpenShut
import Derived.Below
import Derived.Lib.Hide
import Derived.KernelRfl
import Derived.Deep.RegionHeld3
import Derived.OwnWalk
import Derived.StillTailTactics
import Derived.Test.YtamlnddeiokbdaaAbsTop
import Derived.Test.YtamlnddeiokbdaaAbsWalk
import Derived.Test.YtamlnddeiokbdaaM6
import Derived.Test.YtamlnddeiokbdaaAwake
import Derived.Test.YtamlnddeiokbdaaWalkAll
set_option linter.unusedSimpArgs false
set_option maxHeartbeats 16000000
set_option linter.unusedVariables false
set_option maxRecDepth 10000
namespace Go.Proofs.Ytamlnddeiokbdaa.walk
open Go.Abs Go.Proofs.Ytamlnddeiokbdaa.code
structure Rest (w t:St) (d kk:Nat):Prop where
 same:∀ c,c<w.n→c≠d→t.h.get c=w.h.get c
 n:w.n≤t.n
 le:t.n≤w.n+kk
 die:Die d t.h
 mle:t.m≤far
theorem tru_round (n:Nat) (hn:16≤n) (cx:Ctx) {b:Book} {l:List Step} {vb:AV} {w t:St} {L:Env} {d p4 sb sz bd bl1 i kk:Nat} (ok:b.Ok) (oks:StepsOk l) (hI:IsAt w.h w.n bl1 6 (tag 51) (b.sales.map Sale.cells) vb) (hbl:bl1≠d)
  (g4:w.h.get p4=some (.cells [.int .i64 b.stalls,.int .i64 b.goods,vb] (tag 27))) (b4:p4<w.n) (e4:p4≠d) (hsb:w.h.get sb=some (.cells (l.map Step.cells).flatten sz)) (sbn:sb<w.n) (sbd:sb≠d) (hbd:w.h.get bd=some (.cells (dueRows l b.sales b.stalls).flatten 0)) (bdn:bd<w.n) (bdd:bd≠d) (hdw:d<w.n)
  (hE:Rest w t d kk) (hs:w.n+kk+5000000≤far) (hi:i<6)
  (q3:L.find 3=.ptr d 0) (q4:L.find 4=.ptr p4 0) (q5:L.find 5=.slice sb 0 l.length l.length true) (q6:L.find 6=.slice bd 0 b.stalls b.stalls false) (q8:L.find 8=.int .i64 (i:Int)) :
  ∃ L1 t1,K3l2 (knows 20 (call Try.prog X n)) cx L [] t=.done .norm L1 [] t1∧Rest w t1 d (kk+600)∧L1.find 3=.ptr d 0∧L1.find 4=.ptr p4 0∧L1.find 5=.slice sb 0 l.length l.length true∧L1.find 6=.slice bd 0 b.stalls b.stalls false∧L1.find 8=.int .i64 ((i+1:Nat):Int):=by
 have hf:far=1000000000:=rfl
 have knV:∀ args s,knows 20 (call Try.prog X n) (.fn 13) args s=call Try.prog X n (.fn 13) args s:=fun _ _=>rfl
 have tn:=hE.n
 have tl:=hE.le
 have tm:=hE.mle
 have e0:decide ((i:Int)<6)=true:=decide_eq_true (by omega)
 have ad:∀ s,aAdd s .i64 (i:Int) 1=.val (.int .i64 ((i+1:Nat):Int)) s:=fun s=>by rw [aAdd_i64 s _ _ (by omega)];rfl
 have kvb:∀ t,okA (.val vb t)=.val vb t:=hI.okA
 have t4:=(hE.same p4 b4 e4).trans g4
 have hIt:IsAt t.h t.n bl1 6 (tag 51) (b.sales.map Sale.cells) vb:=hI.mono (fun h=>hE.same bl1 h hbl) tn
 have hFi:Fine b.sales:=fun s hs=>by
  obtain ⟨s0,s1,d0,d1,g0,g1,g2,c0,c1,c2⟩:=ok.ok s hs
  exact ⟨g0,g1,g2,c0,c1,c2⟩
 have okl:=ok.l
 simp (disch:=first|omega|(with_unfolding_all exact rfl)|(simp only[new_n,put_n,new_m];omega)|(refine put_m_le ?_;simp only[new_m];omega)) only [K3l2,K3r8,K3r9,Abs.W,reduceIte,Nat.reduceEqDiff,Nat.reduceAdd,decide_true,decide_false,kLoop_def,Nat.reduceSub,List.cons_append,List.nil_append,List.append_nil,List.length_cons,List.length_nil,Env.find_set,q3,q4,q5,q6,q8,e0,t4,kvb,knV,Nat.zero_add]
 generalize hc1:call _ _ _ (.fn 13) _ _=r1
 obtain ⟨Z,vt,bl,t2,rfl,st2,d2,hZ,okZ,hbl2,hIt2⟩:=truthOf_ex (b:=b) (vb:=vb) hc1 (by omega) hE.die (by omega) hFi okl hIt hbl (by omega)
 have n2:=st2.n
 have k2:=st2.le
 have m2:=st2.mle
 have g2:∀ c,c<w.n→c≠d→t2.h.get c=w.h.get c:=fun c hc hcd=>(st2.same c (by omega) hcd).trans (hE.same c hc hcd)
 have kvt:∀ t,okA (.val vt t)=.val vt t:=hIt2.okA
 have zl:Z.length=b.sales.length:=by rw [← hZ,List.length_map]
 have R1:RowsAt t2.h t2.n 6 ((salesZ Z).map Sale.cells) vb:=by
  rw [hZ]
  exact (hI.mono (h':=t2.h) (n':=t2.n) (fun h=>g2 bl1 h hbl) (by omega)).rows.at_
 have RT:RowsAt t2.h t2.n 2 (truthRows Z) vt:=hIt2.rows.at_
 have okS:(⟨b.stalls,b.goods,salesZ Z⟩:Book).Ok:=by rw [hZ];exact ok
 have h4:=(g2 p4 b4 e4).trans g4
 have h5:=(g2 sb sbn sbd).trans hsb
 have h6:=(g2 bd bdn bdd).trans hbd
 rw [← hZ] at h6
 have hk8:=ok.k1
 have hg8:=ok.g1
 simp (disch:=first|omega|(with_unfolding_all exact rfl)|(simp only[new_n,put_n,new_m];omega)|(refine put_m_le ?_;simp only[new_m];omega)) only [K3r10,Abs.W,reduceIte,Nat.reduceEqDiff,Nat.reduceAdd,decide_true,decide_false,kLoop_def,Nat.reduceSub,List.cons_append,List.nil_append,List.append_nil,List.length_cons,List.length_nil,Env.find_set,kvt]
 generalize hl1:loopN _ rounds _ _ _ _ _=qq1
 obtain ⟨e,L2,t3,rfl,rfl,hL2,hU2,hm3⟩:=loop_of hl1
  (fun i' L' t'=>L'.find 10=.int .i64 (i':Int)∧(L'.find 3=.ptr d 0∧L'.find 4=.ptr p4 0∧L'.find 5=.slice sb 0 l.length l.length true∧L'.find 6=.slice bd 0 b.stalls b.stalls false∧L'.find 8=.int .i64 (i:Int)∧L'.find 9=vt)∧Past t2 t' (1 * i')∧t'.m≤t2.m)
  (fun e L1 s1=>e=.exit 2∧(L1.find 3=.ptr d 0∧L1.find 4=.ptr p4 0∧L1.find 5=.slice sb 0 l.length l.length true∧L1.find 6=.slice bd 0 b.stalls b.stalls false∧L1.find 8=.int .i64 (i:Int)∧L1.find 9=vt)∧Past t2 s1 (1 * b.goods)∧s1.m≤t2.m)
  b.goods (by unfold rounds;omega) ⟨by simp only [Env.find_set,reduceIte,Nat.reduceEqDiff];rfl,⟨by simp only [Env.find_set,q3,reduceIte,Nat.reduceEqDiff],by simp only [Env.find_set,q4,reduceIte,Nat.reduceEqDiff],by simp only [Env.find_set,q5,reduceIte,Nat.reduceEqDiff],by simp only [Env.find_set,q6,reduceIte,Nat.reduceEqDiff],by simp only [Env.find_set,q8,reduceIte,Nat.reduceEqDiff],by simp only [Env.find_set,reduceIte,Nat.reduceEqDiff]⟩,Past.refl t2,Nat.le_refl _⟩
  (fun i' L' t' hi' ⟨p10,⟨p3,p4',p5,p6,p8,p9⟩,hE',hm'⟩=>by
   by_cases hlt:i'<b.goods
   ·obtain ⟨L3,t3',z1,z2,z3,z4,z5⟩:=tru_goods n hn cx okS okZ (by omega) h4 (by omega) R1 RT hE' (by omega) hlt p4' p9 p10
    exact .inl ⟨hlt,L3,t3',z1,z4,⟨(z5 3 (by omega)).trans p3,(z5 4 (by omega)).trans p4',(z5 5 (by omega)).trans p5,(z5 6 (by omega)).trans p6,(z5 8 (by omega)).trans p8,(z5 9 (by omega)).trans p9⟩,z2.mono (by omega),by omega⟩
   ·obtain rfl:i'=b.goods:=by omega
    have e1:decide ((b.goods:Int)<(b.goods:Int))=false:=by simp
    have t4':=(hE'.same p4 (by omega)).trans h4
    refine .inr ⟨.exit 2,L'.set 51 (.bool false),t',by simp,?_,rfl,⟨by simp only [Env.find_set,p3,reduceIte,Nat.reduceEqDiff],by simp only [Env.find_set,p4',reduceIte,Nat.reduceEqDiff],by simp only [Env.find_set,p5,reduceIte,Nat.reduceEqDiff],by simp only [Env.find_set,p6,reduceIte,Nat.reduceEqDiff],by simp only [Env.find_set,p8,reduceIte,Nat.reduceEqDiff],by simp only [Env.find_set,p9,reduceIte,Nat.reduceEqDiff]⟩,hE',hm'⟩
    simp (disch:=first|omega|(with_unfolding_all exact rfl)|(simp only[new_n,put_n,new_m];omega)|(refine put_m_le ?_;simp only[new_m];omega)) only [K3l0,K3r11,Abs.W,reduceIte,Nat.reduceEqDiff,Nat.reduceAdd,decide_true,decide_false,kLoop_def,Nat.reduceSub,List.cons_append,List.nil_append,List.append_nil,List.length_cons,List.length_nil,Env.find_set,p4',p10,t4',e1,Nat.zero_add])
 obtain ⟨p3,p4',p5,p6,p8,p9⟩:=hL2
 simp (disch:=first|omega|(with_unfolding_all exact rfl)|(simp only[new_n,put_n,new_m];omega)|(refine put_m_le ?_;simp only[new_m];omega)) only [K3r17,Abs.W,reduceIte,Nat.reduceEqDiff,Nat.reduceAdd,decide_true,decide_false,kLoop_def,Nat.reduceSub,List.cons_append,List.nil_append,List.append_nil,List.length_cons,List.length_nil,Env.find_set]
 generalize hl2:loopN _ rounds _ _ _ _ _=qq2
 obtain ⟨e,L3,t4f,rfl,rfl,hL3,hU3,hm4⟩:=loop_of hl2
  (fun i' L' t'=>L'.find 16=.int .i64 (i':Int)∧(L'.find 3=.ptr d 0∧L'.find 4=.ptr p4 0∧L'.find 5=.slice sb 0 l.length l.length true∧L'.find 6=.slice bd 0 b.stalls b.stalls false∧L'.find 8=.int .i64 (i:Int)∧L'.find 9=vt)∧Past t2 t' (1 * b.goods+1 * i')∧t'.m≤t2.m)
  (fun e L1 s1=>e=.exit 4∧(L1.find 3=.ptr d 0∧L1.find 4=.ptr p4 0∧L1.find 5=.slice sb 0 l.length l.length true∧L1.find 6=.slice bd 0 b.stalls b.stalls false∧L1.find 8=.int .i64 (i:Int))∧Past t2 s1 (1 * b.goods+1 * b.stalls)∧s1.m≤t2.m)
  b.stalls (by unfold rounds;omega) ⟨by simp only [Env.find_set,reduceIte,Nat.reduceEqDiff];rfl,⟨by simp only [Env.find_set,p3,reduceIte,Nat.reduceEqDiff],by simp only [Env.find_set,p4',reduceIte,Nat.reduceEqDiff],by simp only [Env.find_set,p5,reduceIte,Nat.reduceEqDiff],by simp only [Env.find_set,p6,reduceIte,Nat.reduceEqDiff],by simp only [Env.find_set,p8,reduceIte,Nat.reduceEqDiff],by simp only [Env.find_set,p9,reduceIte,Nat.reduceEqDiff]⟩,hU2.mono (by omega),hm3⟩
  (fun i' L' t' hi' ⟨p16,⟨p3,p4',p5,p6,p8,p9⟩,hE',hm'⟩=>by
   by_cases hlt:i'<b.stalls
   ·obtain ⟨L3,t3',z1,z2,z3,z4,z5⟩:=tru_stalls n (by omega) cx okS okZ (by omega) oks h4 (by omega) h5 (by omega) h6 (by omega) R1 RT hE' (by omega) (by omega) hlt p4' p5 p6 p9 p16
    exact .inl ⟨hlt,L3,t3',z1,z4,⟨(z5 3 (by omega)).trans p3,(z5 4 (by omega)).trans p4',(z5 5 (by omega)).trans p5,(z5 6 (by omega)).trans p6,(z5 8 (by omega)).trans p8,(z5 9 (by omega)).trans p9⟩,z2.mono (by omega),by omega⟩
   ·obtain rfl:i'=b.stalls:=by omega
    have e1:decide ((b.stalls:Int)<(b.stalls:Int))=false:=by simp
    have t4':=(hE'.same p4 (by omega)).trans h4
    refine .inr ⟨.exit 4,L'.set 97 (.bool false),t',by simp,?_,rfl,⟨by simp only [Env.find_set,p3,reduceIte,Nat.reduceEqDiff],by simp only [Env.find_set,p4',reduceIte,Nat.reduceEqDiff],by simp only [Env.find_set,p5,reduceIte,Nat.reduceEqDiff],by simp only [Env.find_set,p6,reduceIte,Nat.reduceEqDiff],by simp only [Env.find_set,p8,reduceIte,Nat.reduceEqDiff]⟩,hE',hm'⟩
    simp (disch:=first|omega|(with_unfolding_all exact rfl)|(simp only[new_n,put_n,new_m];omega)|(refine put_m_le ?_;simp only[new_m];omega)) only [K3l1,K3r18,Abs.W,reduceIte,Nat.reduceEqDiff,Nat.reduceAdd,decide_true,decide_false,kLoop_def,Nat.reduceSub,List.cons_append,List.nil_append,List.append_nil,List.length_cons,List.length_nil,Env.find_set,p4',p16,t4',e1,Nat.zero_add])
 obtain ⟨p3,p4',p5,p6,p8⟩:=hL3
 simp (disch:=first|omega|(with_unfolding_all exact rfl)|(simp only[new_n,put_n,new_m];omega)|(refine put_m_le ?_;simp only[new_m];omega)) only [K3r24,Abs.W,reduceIte,Nat.reduceEqDiff,Nat.reduceAdd,decide_true,decide_false,kLoop_def,Nat.reduceSub,List.cons_append,List.nil_append,List.append_nil,List.length_cons,List.length_nil,Env.find_set,p8,ad]
 have h3n:=hU3.n
 have h3l:=hU3.le
 refine ⟨_,_,rfl,⟨fun c hc hcd=>(hU3.same c (by omega)).trans (g2 c hc hcd),by omega,by omega,d2.keep (hU3.same d (by omega)),by omega⟩,?_,?_,?_,?_,?_⟩<;>simp only [Env.find_set,p3,p4',p5,p6,reduceIte,Nat.reduceEqDiff]
noncomputable def truRest:K:=(kSeq (kRegion K3r2 [4]) (kSeq (kRegion K3r3 [5]) (kSeq (kRegion K3r4 [6,7]) (kSeq (kSeq (kRegion K3r5 [40]) (kCond (.tmp 40) (kSeq (kRegion K3r6 [2]) kRet) kSkip)) (kSeq (kSeq (kRegion K3r7 [8]) (kBlock 0 (kLoop K3l2))) (kSeq (kRegion K3r25 [2]) kRet))))))
theorem tru_body (n:Nat) (hn:17≤n) (cx:Ctx) (s:St) (d:Nat) (hd:Die d s.h) (hdn:d<s.n) (hs:s.n+9000000≤far) (hm:s.m=far) :
  ∃ s',finA Try.prog Try.f3 (truRest (knows 20 (call Try.prog X n)) cx (.cons 3 (.ptr d 0) .nil) [] s)=.val (.bool true) s':=by
 have hf:far=1000000000:=rfl
 have knB:∀ args s,knows 20 (call Try.prog X n) (.fn 10) args s=call Try.prog X n (.fn 10) args s:=fun _ _=>rfl
 have knS:∀ args s,knows 20 (call Try.prog X n) (.fn 11) args s=call Try.prog X n (.fn 11) args s:=fun _ _=>rfl
 have knD:∀ args s,knows 20 (call Try.prog X n) (.fn 12) args s=call Try.prog X n (.fn 12) args s:=fun _ _=>rfl
 have knA:∀ s,knows 20 (call Try.prog X n) (.fn 20) [] s=.val (.bool true) s:=fun _=>rfl
 unfold truRest
 simp (disch:=first|omega|(with_unfolding_all exact rfl)|(simp only[new_n,put_n,new_m];omega)|(refine put_m_le ?_;simp only[new_m];omega)) only [K3r2,Abs.W,reduceIte,Nat.reduceEqDiff,Nat.reduceAdd,decide_true,decide_false,kLoop_def,Nat.reduceSub,List.cons_append,List.nil_append,List.append_nil,List.length_cons,List.length_nil,Env.find_set,knB]
 generalize hc1:call _ _ _ (.fn 10) _ _=r1
 obtain ⟨b,vb,bl1,t1,rfl,st1,d1,⟨ok1,ak,ag⟩,len1,hbl1,hI1⟩:=BookOf_ex3 (k:=3) (g:=3) (n:=10) hc1 (by omega) hd hdn (by omega) (by omega) (by omega) (by omega)
 have n1:=st1.n
 have k1:=st1.le
 have m1:=st1.mle
 have sc1:scalars (bookV b vb)=true:=by show scalars [vb]=true;exact hI1.scal.1
 have kvb:∀ t,okA (.val vb t)=.val vb t:=hI1.okA
 unfold bookV at sc1
 simp (disch:=first|omega|(with_unfolding_all exact rfl)|(simp only[new_n,put_n,new_m];omega)|(refine put_m_le ?_;simp only[new_m];omega)) only [Abs.W,reduceIte,Nat.reduceEqDiff,Nat.reduceAdd,decide_true,decide_false,kLoop_def,Nat.reduceSub,List.cons_append,List.nil_append,List.append_nil,List.length_cons,List.length_nil,Env.find_set,sc1,Nat.zero_add]
 obtain ⟨y,hy⟩:∃ y:St,y=(t1.new (.cells [.int .i64 0,.int .i64 0,.nilslice] (tag 27))).put t1.n (.cells (bookV b vb) (tag 27)):=⟨_,rfl⟩
 have yn:y.n=t1.n+1:=by rw [hy];rfl
 have ym:y.m≤t1.m:=by rw [hy];simp only [St.put,minN_eq,new_m];omega
 have yg:∀ c,c<t1.n→y.h.get c=t1.h.get c:=fun c hc=>by rw [hy,get_put_ne' _ _ _ _ (by omega),get_new_ne _ _ _ (by omega)]
 have y4:y.h.get t1.n=some (.cells (bookV b vb) (tag 27)):=by rw [hy];exact get_put_eq _ _ _ _ rfl (by omega)
 unfold bookV at hy y4
 rw [← hy]
 clear hy
 have dy:Die d y.h:=Die.keep d1 (yg d (by omega))
 simp (disch:=first|omega|(with_unfolding_all exact rfl)|(simp only[new_n,put_n,new_m];omega)|(refine put_m_le ?_;simp only[new_m];omega)) only [K3r3,Abs.W,reduceIte,Nat.reduceEqDiff,Nat.reduceAdd,decide_true,decide_false,kLoop_def,Nat.reduceSub,List.cons_append,List.nil_append,List.append_nil,List.length_cons,List.length_nil,Env.find_set,knS,Nat.zero_add]
 generalize hc2:call _ _ _ (.fn 11) _ _=r2
 obtain ⟨l,sb,t2,rfl,st2,d2,oks,hl,sb0,sb1,hsb⟩:=StepsOf_ex hc2 (by omega) dy (by omega) (by omega)
 have n2:=st2.n
 have k2:=st2.le
 have m2:=st2.mle
 have g2:∀ c,c<y.n→c≠d→t2.h.get c=y.h.get c:=fun c hc hcd=>st2.same c hc hcd
 have a4:=(g2 t1.n (by omega) (by omega)).trans y4
 have I2:IsAt t2.h y.n bl1 6 (tag 51) (b.sales.map Sale.cells) vb:=(hI1.mono (h':=y.h) (n':=y.n) (fun h=>yg bl1 h) (by omega)).mono (fun h=>g2 bl1 h (by omega)) (Nat.le_refl _)
 simp (disch:=first|omega|(with_unfolding_all exact rfl)|(simp only[new_n,put_n,new_m];omega)|(refine put_m_le ?_;simp only[new_m];omega)) only [K3r4,Abs.W,reduceIte,Nat.reduceEqDiff,Nat.reduceAdd,decide_true,decide_false,kLoop_def,Nat.reduceSub,List.cons_append,List.nil_append,List.append_nil,List.length_cons,List.length_nil,Env.find_set,a4,kvb,knD,Nat.zero_add]
 generalize hc5:call _ _ _ (.fn 12) _ _=r5
 obtain ⟨bd,w,rfl,st6,bd0,bd1,hbd⟩:=Dues_ex (b:=b) (v:=vb) hc5 (by omega) ok1 oks (by omega) hsb (by omega) (I2.mono (fun _=>rfl) (by omega)).rows.at_ (by omega)
 have n6:=st6.n
 have k6:=st6.le
 have m6:=st6.m
 have g6:=st6.same
 have w4:=(g6 t1.n (by omega)).trans a4
 have wsb:=(g6 sb (by omega)).trans hsb
 have Iw:IsAt w.h w.n bl1 6 (tag 51) (b.sales.map Sale.cells) vb:=I2.mono (fun h=>g6 bl1 (by omega)) (by omega)
 have e0:decide ((0:Int)=0)=true:=rfl
 have e1:decide ((b.stalls:Int)=(b.stalls:Int))=true:=decide_eq_true rfl
 have u5s4:=fun cl L s=>congrFun (congrFun (congrFun K3r5s4.eq_1 cl) L) s
 have u5s5:=fun cl L s=>congrFun (congrFun (congrFun K3r5s5.eq_1 cl) L) s
 have u5s6:=fun cl L s=>congrFun (congrFun (congrFun K3r5s6.eq_1 cl) L) s
 have u5s7:=fun cl L s=>congrFun (congrFun (congrFun K3r5s7.eq_1 cl) L) s
 have u5s8:=fun cl L s=>congrFun (congrFun (congrFun K3r5s8.eq_1 cl) L) s
 simp (config:={ maxSteps:=3000000 }) (disch:=first|omega|(with_unfolding_all exact rfl)|(simp only[new_n,put_n,new_m];omega)|(refine put_m_le ?_;simp only[new_m];omega)) only [K3r5,u5s4,u5s5,u5s6,u5s7,u5s8,K3r7,Abs.W,reduceIte,Nat.reduceEqDiff,Nat.reduceAdd,decide_true,decide_false,kLoop_def,Nat.reduceSub,List.cons_append,List.nil_append,List.append_nil,List.length_cons,List.length_nil,Env.find_set,okA_tupE,extE0,extE1,e0,e1,w4,Nat.zero_add]
 generalize hl1:loopN _ rounds _ _ _ _ _=q1
 obtain ⟨e,L2,t8,rfl,rfl⟩:=loop_of hl1
  (fun i L' t=>L'.find 3=.ptr d 0∧L'.find 4=.ptr t1.n 0∧L'.find 5=.slice sb 0 l.length l.length true∧L'.find 6=.slice bd 0 b.stalls b.stalls false∧L'.find 8=.int .i64 (i:Int)∧Rest w t d (600 * i))
  (fun e L1 s1=>e=.exit 0)
  6 (by unfold rounds;omega) ⟨by simp only [find_cons,Env.find_set,reduceIte,Nat.reduceEqDiff],by simp only [find_cons,Env.find_set,reduceIte,Nat.reduceEqDiff],by simp only [find_cons,Env.find_set,reduceIte,Nat.reduceEqDiff],by simp only [find_cons,Env.find_set,reduceIte,Nat.reduceEqDiff],by simp only [find_cons,Env.find_set,reduceIte,Nat.reduceEqDiff];rfl,fun _ _ _=>rfl,Nat.le_refl _,by omega,d2.keep (g6 d (by omega)),by omega⟩
  (fun i L' t hi ⟨q3,q4,q5,q6,q8,hE⟩=>by
   by_cases hlt:i<6
   ·obtain ⟨L3,t3',z1,z2,y3,y4,y5,y6,y8⟩:=tru_round n (by omega) cx ok1 oks Iw (by omega) w4 (by omega) (by omega) wsb (by omega) (by omega) hbd bd1 (by omega) (by omega) hE (by omega) hlt q3 q4 q5 q6 q8
    exact .inl ⟨hlt,L3,t3',z1,y3,y4,y5,y6,y8,⟨z2.same,z2.n,by have:=z2.le;omega,z2.die,z2.mle⟩⟩
   ·obtain rfl:i=6:=by omega
    have e1:decide (((6:Nat):Int)<6)=false:=rfl
    refine .inr ⟨.exit 0,L'.set 42 (.bool false),t,by simp,?_,rfl⟩
    simp (disch:=first|omega|(with_unfolding_all exact rfl)|(simp only[new_n,put_n,new_m];omega)|(refine put_m_le ?_;simp only[new_m];omega)) only [K3l2,K3r8,Abs.W,reduceIte,Nat.reduceEqDiff,Nat.reduceAdd,decide_true,decide_false,kLoop_def,Nat.reduceSub,List.cons_append,List.nil_append,List.append_nil,List.length_cons,List.length_nil,Env.find_set,q8,e1])
 simp (disch:=first|omega|(with_unfolding_all exact rfl)|(simp only[new_n,put_n,new_m];omega)|(refine put_m_le ?_;simp only[new_m];omega)) only [K3r25,res3,Abs.W,reduceIte,Nat.reduceEqDiff,Nat.reduceAdd,decide_true,decide_false,kLoop_def,Nat.reduceSub,List.cons_append,List.nil_append,List.append_nil,List.length_cons,List.length_nil,Env.find_set,knA]
 exact ⟨_,rfl⟩
end Go.Proofs.Ytamlnddeiokbdaa.walk
namespace Go.Proofs.Ytamlnddeiokbdaa.mdie
open Go.RowKit
def Die (b:Nat) (w:World):Prop:=∃ s,w.heap[b]? = some (.cells #[.int .u64 s] 69 (0,0))
theorem Die.old {b:Nat} {w:World} (h:Die b w):(∃ s,w.cell? ⟨b,0,none⟩=some (.int .u64 s))∧w.frozen? ⟨b,0,none⟩=false:=by
 obtain ⟨s,hs⟩:=h
 refine ⟨⟨s,?_⟩,?_⟩
 ·unfold World.cell?;simp [hs]
 ·unfold World.frozen?;simp [hs]
structure Stir (b:Nat) (w w':World):Prop where
 below:Below b w w'
 rest:∀ p:Addr,p.block≠b→p.block<w.heap.size→w'.cell? p=w.cell? p∧w'.frozen? p=w.frozen? p
 die:Die b w'
def Gives (b:Nat) (k:IntKind) (Q:Int→Prop) (w:World) (e:Ending) (w':World):Prop:=∃ r,Q r∧e=.returned (.int k r)∧Stir b w w'
theorem bits_nonneg (op:BinOp) (x y:Int):0≤bits op .u64 x y:=by
 have:=bounds_u64 (wf_bits (k:=.u64) (op:=op) (x:=x) (y:=y))
 exact this.1
theorem Stir.set {b:Nat} {w:World} (h:Die b w) (s:Int):Stir b w (w.setCell ⟨b,0,none⟩ (.int .u64 s)):=by
 obtain ⟨t,ht⟩:=h
 refine ⟨(Below.refl b w).setCell (p:=⟨b,0,none⟩) (Nat.le_refl b) _,fun p hp _=>⟨World.cell?_of_block (Below.heap_setCell _ _ _ _ hp),World.frozen?_of_block (Below.heap_setCell _ _ _ _ hp)⟩,⟨s,?_⟩⟩
 unfold World.setCell
 simp [Array.getElem?_modify,ht]
theorem roll (b:Nat) (w:World) (h:Die b w):Calls Try.prog 30 #[.pointer (some ⟨b,0,none⟩)] w (Gives b .u64 (fun r=>0≤r) w):=by
 have h':=Lib.hid h
 obtain ⟨⟨s,hs⟩,hf⟩:=h.old
 clear h
 go_enter Try.func30,Try.ntmps30
 go_wp2
 go_ret
 exact ⟨_,bits_nonneg _ _ _,rfl,Stir.set h'.out _⟩
theorem Stir.refl {b:Nat} {w:World} (h:Die b w):Stir b w w:=⟨Below.refl _ _,fun _ _ _=>⟨rfl,rfl⟩,h⟩
theorem Stir.trans {b:Nat} {u v w:World} (h:Stir b u v) (k:Stir b v w):Stir b u w :=
 ⟨h.below.trans k.below,fun p hp hb=>⟨(k.rest p hp (Nat.lt_of_lt_of_le hb h.below.size)).1.trans (h.rest p hp hb).1,(k.rest p hp (Nat.lt_of_lt_of_le hb h.below.size)).2.trans (h.rest p hp hb).2⟩,k.die⟩
theorem Die.lt {b:Nat} {w:World} (h:Die b w):b<w.heap.size:=by obtain ⟨⟨s,hs⟩,_⟩:=h.old;exact World.block_lt_of_cell? w _ hs
theorem Stir.drew {b:Nat} {w w':World} (h:Stir b w w'):Stir b w w'.drew:=h.trans ⟨⟨rfl,rfl,rfl,Nat.le_refl _,fun _ _=>rfl⟩,fun _ _ _=>⟨rfl,rfl⟩,h.die⟩
def Born (w:World) (e:Ending) (w':World):Prop:=e=.returned (.pointer (some ⟨w.heap.size,0,none⟩))∧Below w.heap.size w w'∧Die w.heap.size w'∧w.heap.size<w'.heap.size
theorem Die.born (w:World) (s:Int):Die w.heap.size (w.alloc (.cells #[.int .u64 s] 69)):=⟨s,by show (w.heap.push _)[w.heap.size]? = _;rw [Array.getElem?_push,if_pos rfl]⟩
set_option maxRecDepth 100000 in
theorem born (x:Option Addr) (n c:Nat) (w:World) (hn:n≤maxLen) (hc:∀ i,i<n→∃ b o,x=some ⟨b,o,none⟩∧∃ v,w.cell? ⟨b,o+i,none⟩=some (.int .i64 v)) :
  Calls Try.prog 9 #[.slice x n c] w (Born w):=by
 unfold maxLen at hn
 have HC:=Lib.hid hc
 clear hc
 have hdie:=Lib.hid (Die.born w 2611923443488327891)
 go_enter Try.func9,Try.ntmps9
 go_wp2
 go_loopw [4] (fun i wr=>∃ k:Nat,k≤n∧i=.int .i64 k∧Stir w.heap.size (w.alloc (.cells #[.int .u64 2611923443488327891] 69)) wr) (fun i _=>n - (intOf i).toNat)
 case atStart=>exact ⟨0,Nat.zero_le _,rfl,Stir.refl hdie.out⟩
 case round =>
  obtain ⟨k,hk,rfl,hs⟩:=hrel
  by_cases hlt:k<n
  ·obtain ⟨b,o,rfl,v,hv⟩:=HC.out k hlt
   have hb:=World.block_lt_of_cell? _ _ hv
   simp only at hb
   have hv1:wr.cell? ⟨b,o+k,none⟩=some (.int .i64 v):=((hs.rest ⟨b,o+k,none⟩ (Nat.ne_of_lt hb) (by simp;omega)).1.trans (World.cell?_of_block (Below.heap_alloc _ _ _ hb))).trans hv
   clear hv
   obtain ⟨⟨s,hd⟩,hf⟩:=hs.die.old
   have hst:=Lib.hid (fun s1:Int=>(hs.drew).trans (Stir.set hs.drew.die s1))
   have hlt':(k:Int)<(n:Int):=by omega
   have hk0:(0:Int)≤(k:Int):=by omega
   go_wp2
   go_still_tail 12,(by kernel_rfl)
   change wpList _ _ _ _ _ wr.drew
   go_wp2_with (go_at_call 30;refine (roll _ _ ?_).mono ?_;exact (hst.out _).die;rintro e w1 ⟨r,hr,rfl,hs1⟩;(have hs2:=(hst.out _).trans hs1))
   go_roundw
   case rel=>exact ⟨k+1,by omega,by go_num,hs2⟩
   case measure=>simp [intOf];omega
  ·go_wp2
   go_ret
   exact ⟨rfl,((Below.refl w.heap.size w).alloc (Nat.le_refl _) _).trans hs.below,hs.die,by have:=hs.below.size;simp at this;omega⟩
end Go.Proofs.Ytamlnddeiokbdaa.mdie
namespace Go.Abs
open Go.RowKit
variable {P:Program}
theorem mid_calls {cl:CallF} (hc:CallSound P cl) {f:FuncId} {fn:Func} (hf:P.funcs[f]? = some fn) {c0 c1 rest:Code} (hb:fn.body=some (.seq c0 (.seq c1 rest))) {X:FuncId→List Nat} {k:K} {A:Array Value} {W:World} {R:Ending→World→Prop}
  (h:c0.wp P (Exit.then (fun a w=>c1.wp P (Exit.then (fun a w=>∃ ρ L s v s',ActRel ρ fn.ntmps L [] a∧Clean (X f) L∧SRel ρ s w∧finA P fn (k cl ⟨f,none,fn.ntmps,X f⟩ L [] s)=.val v s'∧∀ ρ' V W',After ρ s w ρ' s' W'→VRel ρ' v V→R (.returned V) W') fun _ _ _=>False) a w) fun _ _ _=>False)
   { tmps:=A++Array.replicate (fn.ntmps - A.size) undef,defers:=[] } W)
  (hk:codeK P (X f) fn.ntmps rest=some k):Calls P f A W R:=by
 intro cs
 obtain ⟨b,hbd⟩:∃ b:Frame,b={ (default:Frame) with fn:=f,kind:=.normal }:=⟨_,rfl⟩
 have hr:b.roundOf=none:=by rw [hbd];rfl
 have henter:Frame.enter P f A .normal=b.at { tmps:=A++Array.replicate (fn.ntmps - A.size) undef,defers:=[] } [.code (.seq c0 (.seq c1 rest))]:=by
  rw [hbd];simp [Frame.enter,Frame.at,hf,hb]
 obtain ⟨e0,a0,w0,q0,ar0⟩:=h b [.code (.seq c1 rest)] cs
 cases e0<;>simp only [Exit.then] at q0
 obtain ⟨e1,a1,w1,q1,ar1⟩:=q0 b [.code rest] cs
 cases e1<;>simp only [Exit.then] at q1
 obtain ⟨ρ,L,s,v,s',hact,hclean,hs,hfin,hR⟩:=q1
 have st1:Steps P (lone (Frame.enter P f A .normal) cs W) (lone (b.atR a1 [.code rest]) cs w1):=by
  rw [henter,Frame.atR_of_none hr]
  exact (Steps.head step_seq ar0).trans (Steps.head step_seq ar1)
 have hctx:CtxRel ρ ⟨f,none,fn.ntmps,X f⟩ b:=⟨by rw [hbd],by rw [hbd],fun _=>hr,fun l e=>by cases e⟩
 generalize hr2:k cl ⟨f,none,fn.ntmps,X f⟩ L [] s=r at hfin
 cases r with
 | fail=>cases hfin
 | done e L1 d s₁ =>
  obtain ⟨ρ₁,a₁,W₁,af,ha₁,_,_,st⟩:=codeK_sound rest hk hc rfl rfl hctx hact hclean hs hr2
  have fin:∀ (hle:leaveA P fn.results.toList L1 d s₁=.val v s') (hst:∃ t,Steps P (lone (Frame.enter P f A .normal) cs W) (lone (back b a₁ t) cs W₁)),
    ∃ V w' fr,R (.returned V) w'∧Steps P (lone (Frame.enter P f A .normal) cs W) (lone fr cs w')∧fr.fn=f∧fr.leaving P w' (.returned V):=by
   intro hle hst
   obtain ⟨V,W₂,af₂,hv,st₂⟩:=leaveA_calls ha₁ af.rel hle
   obtain ⟨t,st₁⟩:=hst
   obtain ⟨fr,h1,h2,h3⟩:=st₂ b (by rw [hbd]) (by rw [hbd];exact hf) t cs
   exact ⟨V,W₂,fr,hR _ _ _ (af.trans af₂) hv,Steps.trans st₁ h1,by rw [h2,hbd],h3⟩
  cases e with
  | exit id=>cases hfin
  | norm =>
   have z:=st [] cs
   obtain ⟨V,w',fr,h1,h2,h3,h4⟩:=fin hfin ⟨[],st1.trans (Steps.trans z (.one (stepR_end hr)))⟩
   exact ⟨.returned V,w',fr,h1,h2,h3,h4⟩
  | ret =>
   obtain ⟨k0,z⟩:=st [] cs
   obtain ⟨V,w',fr,h1,h2,h3,h4⟩:=fin hfin ⟨.code .ret::k0,st1.trans (z.trans (.one (stepR_ret hr)))⟩
   exact ⟨.returned V,w',fr,h1,h2,h3,h4⟩
end Go.Abs
set_option maxRecDepth 10000
namespace Go.Proofs.Ytamlnddeiokbdaa.walk
open Go.Abs Go.RowKit Go.Proofs.Ytamlnddeiokbdaa.code
noncomputable def die0 (F:Int):St:=St.new ⟨.nil,0,far⟩ (.cells [.int .u64 F] (tag 69))
def rho0 (d:Nat):Rho:=fun b=>if b=0 then some (d,(0,0)) else none
theorem die0_get {F:Int} {b:Nat} {o:AObj} (h:(die0 F).h.get b=some o):b=0∧o=.cells [.int .u64 F] (tag 69):=by
 by_cases e:b=0
 ·subst e
  have:(die0 F).h.get 0=some (.cells [.int .u64 F] (tag 69)):=get_new_eq _ _ _ rfl (by decide)
  rw [this] at h
  exact ⟨rfl,(Option.some.inj h).symm⟩
 ·unfold die0 at h
  rw [get_new_ne _ _ _ e] at h
  cases h
theorem die0_has {F:Int} {b x:Nat} {o:AObj} (h:Has (die0 F).h b x o):b=0∧x=0∧o=.cells [.int .u64 F] (tag 69):=by
 obtain ⟨y,hy,hp⟩:=h
 obtain ⟨rfl,rfl⟩:=die0_get hy
 have hl:AObj.lone (.cells [.int .u64 F] (tag 69)):=trivial
 rw [parts_lone hl] at hp
 have:=List.mem_singleton.mp hp
 cases this
 exact ⟨rfl,rfl,rfl⟩
theorem die0_rel {F:Int} {d:Nat} {W:World} (h:W.heap[d]? = some (.cells #[.int .u64 F] 69 (0,0))):SRel (rho0 d) (die0 F) W:=by
 refine ⟨⟨fun b o hb=>?_,fun b x o hb=>?_,fun b b' x x' o o' c e e' hb hb' _ _=>?_,fun g cs hg=>(by cases hg),fun b x o c e hb hr=>rfl,fun b x x' o o' c e e' hb hb' hr hr'=>?_⟩,fun b hb=>?_⟩
 ·rw [(die0_get hb).1];decide
 ·obtain ⟨rfl,rfl,rfl⟩:=die0_has hb
  exact ⟨d,(0,0),_,if_pos rfl,h,.cells rfl (.cons (.int _ _) .nil) (Typed.tag _)⟩
 ·rw [(die0_has hb).1,(die0_has hb').1]
 ·obtain ⟨_,rfl,_⟩:=die0_has hb
  obtain ⟨_,rfl,_⟩:=die0_has hb'
  rw [hr] at hr'
  cases hr'
  rfl
 ·have:1≤b:=hb
  exact if_neg (by omega)
end Go.Proofs.Ytamlnddeiokbdaa.walk
set_option maxRecDepth 10000
namespace Go.Proofs.Ytamlnddeiokbdaa.walk
open Go.Abs Go.RowKit Go.Proofs.Ytamlnddeiokbdaa.code
set_option maxRecDepth 100000 in
theorem ptr_calls (a:Option Addr) (n c:Nat) (w:World) (hn:n≤maxLen) (hc:∀ i,i<n→∃ b o,a=some ⟨b,o,none⟩∧∃ v,w.cell? ⟨b,o+i,none⟩=some (.int .i64 v)) :
  Calls Try.prog 3 #[.slice a n c] w fun e w'=>e=.returned (.bool true)∧Below w.heap.size w w':=by
 have HC:=Lib.hid hc
 clear hc
 refine mid_calls (cl:=knows 20 (call Try.prog X 20)) (knows_sound (call_sound 200) Try.func20 awake.entered (call_sound 20)) Try.func3 rfl (X:=X) (k:=truRest) ?_ (by kernel_rfl)
 simp only [Try.ntmps3,List.size_toArray,List.length_cons,List.length_nil,Nat.reduceAdd,Nat.reduceSub,Array.replicate_succ,Array.replicate_zero,List.push_toArray,List.append_toArray,List.nil_append,List.cons_append]
 go_wp2_with (go_at_call 9;((with_reducible refine (mdie.born _ _ _ _ hn HC.out).mono ?_);rintro e w1 ⟨rfl,hB1,⟨F,hF⟩,hg1⟩))
 have hd0:walk.Die 0 (die0 F).h:=⟨F,get_new_eq _ _ _ rfl (by decide)⟩
 obtain ⟨s',hs'⟩:=tru_body 20 (by omega) ⟨3,none,Try.f3.ntmps,X 3⟩ (die0 F) 0 hd0 (by show 0<1;omega) (by show 1+9000000≤1000000000;omega) rfl
 refine ⟨rho0 w.heap.size,.cons 3 (.ptr 0 0) .nil,die0 F,.bool true,s',⟨fun t=>?_,rfl,.nil⟩,fun t ht=>?_,die0_rel hF,hs',fun ρ' V W' af hv=>?_⟩
 ·by_cases e:t=3
  ·subst e
   exact .ptr (e:=(0,0)) (if_pos rfl)
  ·rw [show (Env.cons 3 (.ptr 0 0) .nil).find t=AV.bad by rw [find_cons,if_neg (by omega)];rfl]
   exact .bad _
 ·by_cases e:t=3
  ·subst e
   have hx:(X 3).contains 3=true:=by kernel_rfl
   rw [hx] at ht
   cases ht
  ·rw [find_cons,if_neg (by omega)];rfl
 ·cases hv
  refine ⟨rfl,hB1.trans ⟨af.os,af.tape,af.output,af.size,fun k hk=>af.frame k (by omega) fun b x o e hb hr=>?_⟩⟩
  obtain ⟨_,rfl,_⟩:=die0_has hb
  have hr:some (w.heap.size,(0,0))=some (k,e):=hr
  injection hr with hr
  injection hr with hr _
  omega
end Go.Proofs.Ytamlnddeiokbdaa.walk
