/- The law PriceFound: its finds made, and its rounds. -/
import Derived.Test.YtamlnddeiokbdaaM5
import Derived.Test.YtamlnddeiokbdaaM6
import Derived.Test.YtamlnddeiokbdaaProg
import Derived.Tactics
import Derived.Tactics2
import Derived.WalkKit
import Derived.OpenShut
import Derived.Below
import Derived.Lib.Hide
import Derived.KernelRfl
import Derived.Deep.RegionHeld3
import Derived.OwnWalk
import Derived.StillTailTactics
import Derived.Test.YtamlnddeiokbdaaAbsTop
import Derived.Test.YtamlnddeiokbdaaAbsWalk
import Derived.Test.YtamlnddeiokbdaaM4
import Derived.Test.YtamlnddeiokbdaaAwake
import Derived.Test.YtamlnddeiokbdaaWalkAll
set_option linter.unusedSimpArgs false
set_option maxHeartbeats 16000000
set_option linter.unusedVariables false
set_option maxRecDepth 10000
namespace Go.Proofs.Ytamlnddeiokbdaa.walk
open Go.Abs Go.Proofs.Ytamlnddeiokbdaa.code
theorem FindsOf_ex {N d bl1:Nat} {b:Book} {vb:AV} {s:St} {r:ARes} (hr:call Try.prog X N (.fn 26) [.ptr d 0,.agg (bookV b vb)] s=r) (hN:9≤N) (hd:Die d s.h) (hlt:d<s.n) (hF:Fine b.sales) (hl:b.sales.length≤40) (hI:IsAt s.h s.n bl1 6 (tag 51) (b.sales.map Sale.cells) vb) (hbd:bl1≠d) (hs:s.n+9000≤far) :
  ∃ (F:List Fnd) (v:AV) (bl:Nat) (t:St),r=.val v t∧Stir d s t 900∧Die d t.h∧FindsOk b.sales F∧F.length≤b.sales.length∧(F.length=b.sales.length→∀ i,i<b.sales.length→i ∈ F.map Fnd.sale)∧s.n≤bl∧IsAt t.h t.n bl 3 (tag 66) (F.map Fnd.cells) v:=by
 obtain ⟨m,rfl⟩:∃ m,N=m+1:=⟨N - 1,by omega⟩
 have hf:far=1000000000:=rfl
 obtain ⟨v,t,e,st,F,bl,hq1,hq2,hq3,hq4,hq5,hq6⟩:=call_stir2 (n:=m) (args:=[.ptr d 0,.agg (bookV b vb)]) (d:=d) (s:=s) (k:=900) (Q:=fun w h m=>∃ (F:List Fnd) (bl:Nat),Die d h∧FindsOk b.sales F∧F.length≤b.sales.length∧(F.length=b.sales.length→∀ i,i<b.sales.length→i ∈ F.map Fnd.sale)∧s.n≤bl∧IsAt h m bl 3 (tag 66) (F.map Fnd.cells) w) Try.func26 rfl (fun u uh un um=>by
  have hd':=hd
  rw [← uh] at hd hI
  rw [← un] at hlt hI hs
  have sc:scalars (bookV b vb)=true:=by show scalars [vb]=true;exact hI.scal.1
  obtain ⟨w,hw⟩:∃ w:St,w=u.new (.cells (bookV b vb) (tag 27)):=⟨_,rfl⟩
  have wn:w.n=u.n+1:=by rw [hw];rfl
  have wm:w.m=far:=by rw [hw];exact um
  have wg:∀ c,c<u.n→w.h.get c=u.h.get c:=fun c hc=>by rw [hw,get_new_ne _ _ _ (by omega)]
  have w0:w.h.get u.n=some (.cells (bookV b vb) (tag 27)):=by rw [hw];exact get_new_eq _ _ _ rfl (by omega)
  have hIw:IsAt w.h u.n bl1 6 (tag 51) (b.sales.map Sale.cells) vb:=hI.mono (fun h=>wg bl1 h) (Nat.le_refl _)
  have kb:=hIw.okA
  have lb:∀ s,lenSlA s vb=.val (.int .i64 (b.sales.length:Int)) s:=fun s=>by have:=hIw.rows.at_.len s;rw [List.length_map] at this;exact this
  rw [enter26]
  simp (disch:=first|omega|(with_unfolding_all exact rfl)|(simp only[new_n,put_n,new_m];omega)|(refine put_m_le ?_;simp only[new_m];omega)) only [K26,K26r0,Abs.W,reduceIte,Nat.reduceEqDiff,Nat.reduceAdd,decide_true,decide_false,kLoop_def,Nat.reduceSub,List.cons_append,List.nil_append,List.append_nil,List.length_cons,List.length_nil,Env.find_set,sc]
  rw [← hw]
  clear hw
  unfold bookV at w0
  simp (disch:=first|omega|(with_unfolding_all exact rfl)|(simp only[new_n,put_n,new_m];omega)|(refine put_m_le ?_;simp only[new_m];omega)) only [K26r1,Abs.W,reduceIte,Nat.reduceEqDiff,Nat.reduceAdd,decide_true,decide_false,kLoop_def,Nat.reduceSub,List.cons_append,List.nil_append,List.append_nil,List.length_cons,List.length_nil,Env.find_set,w0,kb,lb,Nat.zero_add]
  generalize hc1:call _ _ _ (.fn 24) _ _=r1
  obtain ⟨vf,f,t1,rfl,st1,d1,hfl,hp,hB⟩:=Shuffle_ex (m:=b.sales.length) hc1 (by omega) (hd.keep (wg d (by omega))) (by omega) (by omega) (by omega)
  have n1:=st1.n
  have k1:=st1.le
  have m1:=st1.mle
  have dm1:=st1.m (by omega)
  have kf:=hB.okA
  have lf:=hB.len
  rw [natRows_len,hfl] at lf
  have ad:∀ s,aAdd s .i64 (b.sales.length:Int) 1=.val (.int .i64 ((b.sales.length:Int)+1)) s:=fun s=>aAdd_i64 s _ _ (by omega)
  simp (disch:=first|omega|(with_unfolding_all exact rfl)|(simp only[new_n,put_n,new_m];omega)|(refine put_m_le ?_;simp only[new_m];omega)) only [K26r2,Abs.W,reduceIte,Nat.reduceEqDiff,Nat.reduceAdd,decide_true,decide_false,kLoop_def,Nat.reduceSub,List.cons_append,List.nil_append,List.append_nil,List.length_cons,List.length_nil,Env.find_set,kf,lf,ad,Nat.zero_add]
  generalize hc2:call _ _ _ (.fn 33) _ _=r2
  obtain ⟨c,t2,rfl,st2,d2,c0,c1⟩:=cast_ex hc2 (by omega) d1 (by omega) (by omega) (by omega)
  have n2:=st2.n
  have k2:=st2.le
  have m2:=st2.mle
  have dm2:=st2.m dm1
  simp (disch:=first|omega|(with_unfolding_all exact rfl)|(simp only[new_n,put_n,new_m];omega)|(refine put_m_le ?_;simp only[new_m];omega)) only [Abs.W,reduceIte,Nat.reduceEqDiff,Nat.reduceAdd,decide_true,decide_false,kLoop_def,Nat.reduceSub,List.cons_append,List.nil_append,List.append_nil,List.length_cons,List.length_nil,Env.find_set,Nat.zero_add]
  obtain ⟨x,hx⟩:∃ x:St,x=t2.new (.cells [.int .i64 (b.sales.length:Int),.int .i64 c] 0):=⟨_,rfl⟩
  have xn:x.n=t2.n+1:=by rw [hx];rfl
  have xm:x.m=t2.m:=by rw [hx];rfl
  have xg:∀ c,c<t2.n→x.h.get c=t2.h.get c:=fun c hc=>by rw [hx,get_new_ne _ _ _ (by omega)]
  have xp:x.h.get t2.n=some (.cells (([(b.sales.length:Int),c]:List Int).map fun x=>AV.int .i64 x) 0):=by rw [hx];exact get_new_eq _ _ _ rfl (by omega)
  rw [← hx]
  clear hx
  generalize hc3:call _ _ _ (.fn 32) _ _=r3
  obtain ⟨ki,t3,rfl,st3,d3,hki⟩:=one_ex (b:=t2.n) (k:=2) [(b.sales.length:Int),c] hc3 (by omega) (d2.keep (xg d (by omega))) (by omega) (by omega) xp (by omega) (by omega) rfl (by omega) (by omega)
  have n3:=st3.n
  have k3:=st3.le
  have m3:=st3.mle
  have dm3:=st3.m (by omega)
  obtain ⟨k,rfl,hk⟩:∃ k:Nat,ki=(k:Int)∧k≤b.sales.length:=by
   refine ⟨ki.toNat,?_,?_⟩<;>rcases List.mem_cons.mp hki with rfl | hki<;>first | omega | (rw [List.mem_singleton.mp hki];omega)
  have g3:∀ c,c<w.n→c≠d→t3.h.get c=w.h.get c:=fun c hc hcd=>(st3.same c (by omega) hcd).trans ((xg c (by omega)).trans ((st2.same c (by omega) hcd).trans (st1.same c hc hcd)))
  obtain ⟨vo,so,ko,lo,fo⟩:=order_cut hB hfl hk
  simp (disch:=first|omega|(with_unfolding_all exact rfl)|(simp only[new_n,put_n,new_m];omega)|(refine put_m_le ?_;simp only[new_m];omega)) only [Abs.W,reduceIte,Nat.reduceEqDiff,Nat.reduceAdd,decide_true,decide_false,kLoop_def,Nat.reduceSub,List.cons_append,List.nil_append,List.append_nil,List.length_cons,List.length_nil,Env.find_set,kSlice_def,optEv_none,optEv_some,so,ko,Nat.zero_add]
  simp (disch:=first|omega|(with_unfolding_all exact rfl)|(simp only[new_n,put_n,new_m];omega)|(refine put_m_le ?_;simp only[new_m];omega)) only [K26r3,K26r4,Abs.W,reduceIte,Nat.reduceEqDiff,Nat.reduceAdd,decide_true,decide_false,kLoop_def,Nat.reduceSub,List.cons_append,List.nil_append,List.append_nil,List.length_cons,List.length_nil,Env.find_set]
  have a0:=(g3 u.n (by omega) (by omega)).trans w0
  have hI3:IsAt t3.h u.n bl1 6 (tag 51) (b.sales.map Sale.cells) vb:=hIw.mono (fun h=>g3 bl1 (by omega) (by omega)) (Nat.le_refl _)
  obtain ⟨szo,gbo⟩:=hB.get
  have gbo3:t3.h.get w.n=some (.cells (natRows f).flatten szo):=(st3.same w.n (by have:=hB.lt;omega) (by omega)).trans ((xg w.n (by have:=hB.lt;omega)).trans ((st2.same w.n hB.lt (by omega)).trans gbo))
  have hbo:=hB.lt
  generalize hlp:loopN _ rounds _ _ _ _ _=rl
  have hJ:FfJ t3 t3 d b.sales (f.take 0) [] .nilslice t3.n (20 * 0):=⟨d3,IsAt.nil _ _ _ _ _,Nat.le_refl _,fun _ _ _=>rfl,Nat.le_refl _,Nat.le_refl _,dm3,by omega,by simp,fun z hz=>by cases hz⟩
  obtain ⟨e,L1,t4,rfl,rfl,F,v,bl,J,f6⟩:=loop_of hlp (fun j L' t'=>∃ F v bl,FfJ t3 t' d b.sales (f.take j) F v bl (20 * j)∧L'.find 0=.ptr d 0∧L'.find 3=.ptr u.n 0∧L'.find 5=vo∧L'.find 6=v∧L'.find 7=.int .i64 j)
   (fun e L' t'=>e=.exit 0∧∃ F v bl,FfJ t3 t' d b.sales (f.take k) F v bl (20 * k)∧L'.find 6=v) k (by unfold rounds;omega)
   ⟨[],.nilslice,t3.n,hJ,by simp only [find_cons,Env.find_set,reduceIte,Nat.reduceEqDiff],by simp only [find_cons,Env.find_set,reduceIte,Nat.reduceEqDiff],by simp only [find_cons,Env.find_set,reduceIte,Nat.reduceEqDiff],by simp only [find_cons,Env.find_set,reduceIte,Nat.reduceEqDiff],by simp only [find_cons,Env.find_set,reduceIte,Nat.reduceEqDiff];rfl⟩
   (fun j L' t' hj ⟨F,v,bl,hJ,q0,q3,q5,q6,q7⟩=>by
    by_cases hlt':j<k
    ·obtain ⟨eo,rfl⟩:=fo (by omega)
     obtain ⟨L2,t2,F2,v2,bl2,z1,z2,z3,z4,z5,z6,z7⟩:=ff_round m (by omega) _ hJ hI3.rows.at_ (by omega) hF a0 (by omega) (by omega) (by omega) (hI3.away hbd) gbo3 (by omega) (by omega) hfl (by omega) (hp.lt j (by omega)) (by omega) hlt' hk q0 q3 q5 q6 q7
     exact .inl ⟨hlt',L2,t2,z1,F2,v2,bl2,⟨z2.die,z2.is,z2.lo,z2.same,z2.n,by have:=z2.le;omega,z2.m,z2.mle,z2.sal,z2.ok⟩,z3,z4,z5,z6,z7⟩
    ·obtain rfl:j=k:=by omega
     have e0:decide ((j:Int)<(j:Int))=false:=by simp
     refine .inr ⟨.exit 0,L'.set 29 (.bool false),t',by simp,?_,rfl,F,v,bl,hJ,by simp only [Env.find_set,q6,reduceIte,Nat.reduceEqDiff]⟩
     simp (disch:=first|omega|(with_unfolding_all exact rfl)|(simp only[new_n,put_n,new_m];omega)|(refine put_m_le ?_;simp only[new_m];omega)) only [K26l0,K26r5,Abs.W,reduceIte,Nat.reduceEqDiff,Nat.reduceAdd,decide_true,decide_false,kLoop_def,Nat.reduceSub,List.cons_append,List.nil_append,List.append_nil,List.length_cons,List.length_nil,Env.find_set,q5,q7,ko,lo,e0,Nat.zero_add])
  obtain ⟨jd,ji,jlo,js,jn,jle,jm,jml,jsal,jok⟩:=J
  have kv:=ji.okA
  simp (disch:=first|omega|(with_unfolding_all exact rfl)|(simp only[new_n,put_n,new_m];omega)|(refine put_m_le ?_;simp only[new_m];omega)) only [K26r9,res26,Abs.W,reduceIte,Nat.reduceEqDiff,Nat.reduceAdd,decide_true,decide_false,kLoop_def,Nat.reduceSub,List.cons_append,List.nil_append,List.append_nil,List.length_cons,List.length_nil,Env.find_set,f6,kv]
  obtain ⟨y1,y2,y3⟩:=finds_of hfl hp jsal hk jok
  refine ⟨v,t4,rfl,⟨fun c hc hcd=>(js c (by omega) hcd).trans ((g3 c (by omega) hcd).trans (wg c hc)),by omega,by omega,fun _=>jm,by omega⟩,⟨F,bl,jd,y2,by omega,y3,by omega,ji⟩,fun hp=>?_⟩
  have hv:v=.nilslice∧F.map Fnd.cells=[]:=by
   rcases ji.is with ⟨z,z2⟩ | ⟨_,_,z,_⟩
   ·exact ⟨z2,z⟩
   ·subst z;simp [plain] at hp
  exact ⟨F,s.n,hd',y2,by omega,y3,Nat.le_refl _,by rw [hv.1,hv.2];exact IsAt.nil _ _ _ _ _⟩) (by omega)
 exact ⟨F,v,bl,t,hr.symm.trans e,st,hq1,hq2,hq3,hq4,hq5,hq6⟩
theorem within_sp (N:Nat) (hN:1≤N) (a b c d:Int) (s:St) (h1:c≤a) (h2:b≤d) (hs:s.n+100≤far) :
  call Try.prog X N (.fn 28) [.agg [.int .i64 a,.int .i64 b],.agg [.int .i64 c,.int .i64 d]] s=.val (.bool true) s:=by
 obtain ⟨n,rfl⟩:∃ n,N=n+1:=⟨N - 1,by omega⟩
 have hf:far=1000000000:=rfl
 refine call_plain' Try.func28 (fun u uh un um=>?_) rfl
 have e1:decide (c≤a)=true:=decide_eq_true h1
 have e2:decide (b≤d)=true:=decide_eq_true h2
 obtain ⟨w,hw⟩:∃ w:St,w=(u.new (.cells [.int .i64 a,.int .i64 b] (tag 38))).new (.cells [.int .i64 c,.int .i64 d] (tag 38)):=⟨_,rfl⟩
 have wn:w.n=u.n+2:=by rw [hw];rfl
 have wm:w.m=far:=by rw [hw];exact um
 have w0:w.h.get u.n=some (.cells [.int .i64 a,.int .i64 b] (tag 38)):=by rw [hw,get_new_ne _ _ _ (by rw [new_n];omega)];exact get_new_eq _ _ _ rfl (by omega)
 have w1:w.h.get (u.n+1)=some (.cells [.int .i64 c,.int .i64 d] (tag 38)):=by rw [hw];exact get_new_eq _ _ _ rfl (by rw [new_n];omega)
 rw [enter28]
 simp (disch:=first|omega|(with_unfolding_all exact rfl)|(simp only[new_n,put_n,new_m];omega)|(refine put_m_le ?_;simp only[new_m];omega)) only [K28,K28r0,res28,Abs.W,reduceIte,Nat.reduceEqDiff,Nat.reduceAdd,decide_true,decide_false,kLoop_def,Nat.reduceSub,List.cons_append,List.nil_append,List.append_nil,List.length_cons,List.length_nil,Env.find_set,Nat.zero_add]
 rw [← hw]
 clear hw
 have u1s7:=fun cl L s=>congrFun (congrFun (congrFun K28r1s7.eq_1 cl) L) s
 have u1s8:=fun cl L s=>congrFun (congrFun (congrFun K28r1s8.eq_1 cl) L) s
 have u1s9:=fun cl L s=>congrFun (congrFun (congrFun K28r1s9.eq_1 cl) L) s
 have u1s10:=fun cl L s=>congrFun (congrFun (congrFun K28r1s10.eq_1 cl) L) s
 have u1s11:=fun cl L s=>congrFun (congrFun (congrFun K28r1s11.eq_1 cl) L) s
 simp (disch:=first|omega|(with_unfolding_all exact rfl)|(simp only[new_n,put_n,new_m];omega)|(refine put_m_le ?_;simp only[new_m];omega)) only [K28r1,u1s7,u1s8,u1s9,u1s10,u1s11,Abs.W,reduceIte,Nat.reduceEqDiff,Nat.reduceAdd,decide_true,decide_false,kLoop_def,Nat.reduceSub,List.cons_append,List.nil_append,List.append_nil,List.length_cons,List.length_nil,new_n,Env.find_set,w0,w1,e1,e2,Nat.zero_add]
 exact ⟨_,rfl,by omega⟩
theorem fnd_goods (n:Nat) (hn:16≤n) (cx:Ctx) {S T:List Sale} {ks kg:Nat} {v1 v2:AV} {all:Bool} {u t:St} {L:Env} {p4 p8 i kk:Nat} (okS:(⟨ks,kg,S⟩:Book).Ok) (okT:(⟨ks,kg,T⟩:Book).Ok) (hF:Fine S) (hN:NarAll S T) (hA:all=true→Exact T)
  (g4:u.h.get p4=some (.cells [.int .i64 ks,.int .i64 kg,v1] (tag 27))) (b4:p4<u.n) (R1:RowsAt u.h u.n 6 (S.map Sale.cells) v1) (g8:u.h.get p8=some (.cells [.int .i64 ks,.int .i64 kg,v2] (tag 27))) (b8:p8<u.n) (R2:RowsAt u.h u.n 6 (T.map Sale.cells) v2) (hE:Past u t kk) (htm:t.m≤far) (hs:u.n+kk+4000000≤far) (hi:i<kg)
  (q4:L.find 4=.ptr p4 0) (q7:L.find 7=.bool all) (q8:L.find 8=.ptr p8 0) (q14:L.find 14=.int .i64 (i:Int)) :
  ∃ L1 t1,K6l0 (knows 20 (call Try.prog X n)) cx L [] t=.done .norm L1 [] t1∧Past u t1 (kk+2)∧t1.m≤far∧L1.find 14=.int .i64 ((i+1:Nat):Int)∧∀ c,c<14→L1.find c=L.find c:=by
 have hf:far=1000000000:=rfl
 have knP:∀ args s,knows 20 (call Try.prog X n) (.fn 14) args s=call Try.prog X n (.fn 14) args s:=fun _ _=>rfl
 have knW:∀ args s,knows 20 (call Try.prog X n) (.fn 28) args s=call Try.prog X n (.fn 28) args s:=fun _ _=>rfl
 have tn:=hE.n
 have tl:=hE.le
 have hkg:kg≤8:=okS.g1
 have e0:decide ((i:Int)<(kg:Int))=true:=decide_eq_true (by omega)
 have z0:decide ((0:Int)=0)=true:=rfl
 have ad:∀ s,aAdd s .i64 (i:Int) 1=.val (.int .i64 ((i+1:Nat):Int)) s:=fun s=>by rw [aAdd_i64 s _ _ (by omega)];rfl
 have ov1:∀ t,okA (.val v1 t)=.val v1 t:=fun t=>okA_ne R1.ne
 have ov2:∀ t,okA (.val v2 t)=.val v2 t:=fun t=>okA_ne R2.ne
 obtain ⟨f1,f2,f3,f4⟩:=found_is hN hF (i:Int)
 have f4:all=true→_:=fun h=>f4 (hA h)
 have hv:=verd_cases (soldOf S i)
 have hw:=verd_cases (soldOf T i)
 have T1:call Try.prog X n (.fn 14) [.agg [.int .i64 ks,.int .i64 kg,v1],.int .i64 (i:Int)] t=.val (priceV (soldOf S i)) t:=Price_ok (b:=⟨ks,kg,S⟩) hn okS hi (R1.grow hE.same hE.n) (by omega)
 have T2:∀ x:St,Past u x (kk+1)→call Try.prog X n (.fn 14) [.agg [.int .i64 ks,.int .i64 kg,v2],.int .i64 (i:Int)] x=.val (priceV (soldOf T i)) x:=fun x hX=>Price_ok (b:=⟨ks,kg,T⟩) hn okT hi (R2.grow hX.same hX.n) (by have:=hX.le;omega)
 obtain ⟨vd,hvd⟩:∃ vd,vd=verdOf (soldOf S i):=⟨_,rfl⟩
 obtain ⟨xl,hxl⟩:∃ xl,xl=priceI false (soldOf S i):=⟨_,rfl⟩
 obtain ⟨xh,hxh⟩:∃ xh,xh=priceI true (soldOf S i):=⟨_,rfl⟩
 obtain ⟨wd,hwd⟩:∃ wd,wd=verdOf (soldOf T i):=⟨_,rfl⟩
 obtain ⟨yl,hyl⟩:∃ yl,yl=priceI false (soldOf T i):=⟨_,rfl⟩
 obtain ⟨yh,hyh⟩:∃ yh,yh=priceI true (soldOf T i):=⟨_,rfl⟩
 have hV:priceV (soldOf S i)=.tup [.int .i64 vd,.agg [.int .i64 xl,.int .i64 xh],.int .i64 0]:=by unfold priceV;rw [hvd,hxl,hxh]
 have hW:priceV (soldOf T i)=.tup [.int .i64 wd,.agg [.int .i64 yl,.int .i64 yh],.int .i64 0]:=by unfold priceV;rw [hwd,hyl,hyh]
 rw [hV] at T1
 rw [hW] at T2
 rw [← hvd] at f1 f2 hv
 rw [← hwd] at f1 f2 f3 f4 hw
 rw [← hxl,← hxh,← hyl,← hyh] at f3
 rw [← hyl,← hyh] at f4
 clear hvd hxl hxh hwd hyl hyh hV hW
 have hv:vd=1∨vd=2∨vd=3:=by omega
 have hw:wd=1∨wd=2∨wd=3:=by omega
 have t4:=(hE.same p4 b4).trans g4
 obtain ⟨x,hx⟩:∃ x:St,x=(t.new (.cells [.int .i64 0,.int .i64 0] (tag 38))).put t.n (.cells [.int .i64 xl,.int .i64 xh] (tag 38)):=⟨_,rfl⟩
 have xn:x.n=t.n+1:=by rw [hx];rfl
 have xm:x.m≤t.m:=by rw [hx];simp only [St.put,minN_eq,new_m];omega
 have xt:x.h.get t.n=some (.cells [.int .i64 xl,.int .i64 xh] (tag 38)):=by rw [hx];exact get_put_eq _ _ _ _ rfl (by omega)
 have hX:Past u x (kk+1):=by rw [hx];exact (hE.new _).put _ tn
 have x8:=(hX.same p8 b8).trans g8
 have T2:=T2 x hX
 obtain ⟨y,hy⟩:∃ y:St,y=(x.new (.cells [.int .i64 0,.int .i64 0] (tag 38))).put x.n (.cells [.int .i64 yl,.int .i64 yh] (tag 38)):=⟨_,rfl⟩
 have yn:y.n=x.n+1:=by rw [hy];rfl
 have ym:y.m≤x.m:=by rw [hy];simp only [St.put,minN_eq,new_m];omega
 have yt:y.h.get x.n=some (.cells [.int .i64 yl,.int .i64 yh] (tag 38)):=by rw [hy];exact get_put_eq _ _ _ _ rfl (by omega)
 have yx:y.h.get t.n=some (.cells [.int .i64 xl,.int .i64 xh] (tag 38)):=by rw [hy,get_put_ne' _ _ _ _ (by omega),get_new_ne _ _ _ (by omega)];exact xt
 have hY:Past u y (kk+2):=by rw [hy];exact (hX.new _).put _ (by omega)
 simp (disch:=first|omega|(with_unfolding_all exact rfl)|(simp only[new_n,put_n,new_m];omega)|(refine put_m_le ?_;simp only[new_m];omega)) only [K6l0,K6r12,K6r13,Abs.W,reduceIte,Nat.reduceEqDiff,Nat.reduceAdd,decide_true,decide_false,kLoop_def,Nat.reduceSub,List.cons_append,List.nil_append,List.append_nil,List.length_cons,List.length_nil,Env.find_set,q4,q14,e0,t4,knP,T1,ov1,extT0,extT1,extT2,okA_tupT,Nat.zero_add]
 rw [← hx]
 clear hx T1
 simp (disch:=first|omega|(with_unfolding_all exact rfl)|(simp only[new_n,put_n,new_m];omega)|(refine put_m_le ?_;simp only[new_m];omega)) only [K6r14,Abs.W,reduceIte,Nat.reduceEqDiff,Nat.reduceAdd,decide_true,decide_false,kLoop_def,Nat.reduceSub,List.cons_append,List.nil_append,List.append_nil,List.length_cons,List.length_nil,Env.find_set,q8,q14,x8,knP,T2,ov2,extT0,extT1,extT2,okA_tupT,Nat.zero_add]
 rw [← hy]
 clear hy T2
 have u15s4:=fun cl L s=>congrFun (congrFun (congrFun K6r15s4.eq_1 cl) L) s
 have u15s5:=fun cl L s=>congrFun (congrFun (congrFun K6r15s5.eq_1 cl) L) s
 have u15s8:=fun cl L s=>congrFun (congrFun (congrFun K6r15s8.eq_1 cl) L) s
 have u15s9:=fun cl L s=>congrFun (congrFun (congrFun K6r15s9.eq_1 cl) L) s
 have u15s10:=fun cl L s=>congrFun (congrFun (congrFun K6r15s10.eq_1 cl) L) s
 have u15s11:=fun cl L s=>congrFun (congrFun (congrFun K6r15s11.eq_1 cl) L) s
 have u15s12:=fun cl L s=>congrFun (congrFun (congrFun K6r15s12.eq_1 cl) L) s
 have u15s13:=fun cl L s=>congrFun (congrFun (congrFun K6r15s13.eq_1 cl) L) s
 have u15s14:=fun cl L s=>congrFun (congrFun (congrFun K6r15s14.eq_1 cl) L) s
 have u15s17:=fun cl L s=>congrFun (congrFun (congrFun K6r15s17.eq_1 cl) L) s
 have u15s18:=fun cl L s=>congrFun (congrFun (congrFun K6r15s18.eq_1 cl) L) s
 have u15s19:=fun cl L s=>congrFun (congrFun (congrFun K6r15s19.eq_1 cl) L) s
 have u15s20:=fun cl L s=>congrFun (congrFun (congrFun K6r15s20.eq_1 cl) L) s
 have u15s21:=fun cl L s=>congrFun (congrFun (congrFun K6r15s21.eq_1 cl) L) s
 have u15s22:=fun cl L s=>congrFun (congrFun (congrFun K6r15s22.eq_1 cl) L) s
 have u15s23:=fun cl L s=>congrFun (congrFun (congrFun K6r15s23.eq_1 cl) L) s
 have u15s24:=fun cl L s=>congrFun (congrFun (congrFun K6r15s24.eq_1 cl) L) s
 have u15s27:=fun cl L s=>congrFun (congrFun (congrFun K6r15s27.eq_1 cl) L) s
 have u15s28:=fun cl L s=>congrFun (congrFun (congrFun K6r15s28.eq_1 cl) L) s
 have u15s29:=fun cl L s=>congrFun (congrFun (congrFun K6r15s29.eq_1 cl) L) s
 have u15s30:=fun cl L s=>congrFun (congrFun (congrFun K6r15s30.eq_1 cl) L) s
 have u15s31:=fun cl L s=>congrFun (congrFun (congrFun K6r15s31.eq_1 cl) L) s
 have u15s32:=fun cl L s=>congrFun (congrFun (congrFun K6r15s32.eq_1 cl) L) s
 have u15s33:=fun cl L s=>congrFun (congrFun (congrFun K6r15s33.eq_1 cl) L) s
 have u15s34:=fun cl L s=>congrFun (congrFun (congrFun K6r15s34.eq_1 cl) L) s
 have u15s35:=fun cl L s=>congrFun (congrFun (congrFun K6r15s35.eq_1 cl) L) s
 have u15s36:=fun cl L s=>congrFun (congrFun (congrFun K6r15s36.eq_1 cl) L) s
 have u15s37:=fun cl L s=>congrFun (congrFun (congrFun K6r15s37.eq_1 cl) L) s
 have u15s38:=fun cl L s=>congrFun (congrFun (congrFun K6r15s38.eq_1 cl) L) s
 have k11:decide ((1:Int)=1)=true:=rfl
 have k12:decide ((1:Int)=2)=false:=rfl
 have k13:decide ((1:Int)=3)=false:=rfl
 have k22:decide ((2:Int)=2)=true:=rfl
 have k23:decide ((2:Int)=3)=false:=rfl
 have k31:decide ((3:Int)=1)=false:=rfl
 have k32:decide ((3:Int)=2)=false:=rfl
 have k33:decide ((3:Int)=3)=true:=rfl
 rcases hv with rfl | rfl | rfl
 ·obtain rfl:=f1 rfl
  cases all with
  | false =>
   obtain ⟨f5,f6⟩:=f3 (by omega)
   have wi:call Try.prog X n (.fn 28) [.agg [.int .i64 yl,.int .i64 yh],.agg [.int .i64 xl,.int .i64 xh]] y=.val (.bool true) y:=within_sp n (by omega) _ _ _ _ y f5 f6 (by omega)
   simp (config:={ maxSteps:=4000000 }) (disch:=first|omega|(with_unfolding_all exact rfl)|(simp only[new_n,put_n,new_m];omega)|(refine put_m_le ?_;simp only[new_m];omega)) only [K6r15,K6r17,u15s4,u15s5,u15s8,u15s9,u15s10,u15s11,u15s12,u15s13,u15s14,u15s17,u15s18,u15s19,u15s20,u15s21,u15s22,u15s23,u15s24,u15s27,u15s28,u15s29,u15s30,u15s31,u15s32,u15s33,u15s34,u15s35,u15s36,u15s37,u15s38,Abs.W,reduceIte,Nat.reduceEqDiff,Nat.reduceAdd,decide_true,decide_false,kLoop_def,Nat.reduceSub,List.cons_append,List.nil_append,List.append_nil,List.length_cons,List.length_nil,Env.find_set,q7,q14,yt,yx,z0,k11,k12,k13,k22,k23,k31,k32,k33,knW,wi,ad,Nat.zero_add]
   refine ⟨_,_,rfl,hY,by omega,by simp only [Env.find_set,reduceIte,Nat.reduceEqDiff],fun c hc=>?_⟩
   simp only [Env.find_set]
   repeat rw [if_neg (by omega)]
  | true =>
   obtain ⟨f5,f6⟩:=f3 (by omega)
   have wi:call Try.prog X n (.fn 28) [.agg [.int .i64 yl,.int .i64 yh],.agg [.int .i64 xl,.int .i64 xh]] y=.val (.bool true) y:=within_sp n (by omega) _ _ _ _ y f5 f6 (by omega)
   obtain ⟨f7,rfl⟩:=f4 rfl
   have pe:decide (yl=yl)=true:=decide_eq_true rfl
   simp (config:={ maxSteps:=4000000 }) (disch:=first|omega|(with_unfolding_all exact rfl)|(simp only[new_n,put_n,new_m];omega)|(refine put_m_le ?_;simp only[new_m];omega)) only [K6r15,K6r17,u15s4,u15s5,u15s8,u15s9,u15s10,u15s11,u15s12,u15s13,u15s14,u15s17,u15s18,u15s19,u15s20,u15s21,u15s22,u15s23,u15s24,u15s27,u15s28,u15s29,u15s30,u15s31,u15s32,u15s33,u15s34,u15s35,u15s36,u15s37,u15s38,Abs.W,reduceIte,Nat.reduceEqDiff,Nat.reduceAdd,decide_true,decide_false,kLoop_def,Nat.reduceSub,List.cons_append,List.nil_append,List.append_nil,List.length_cons,List.length_nil,Env.find_set,q7,q14,yt,yx,z0,k11,k12,k13,k22,k23,k31,k32,k33,knW,wi,pe,ad,Nat.zero_add]
   refine ⟨_,_,rfl,hY,by omega,by simp only [Env.find_set,reduceIte,Nat.reduceEqDiff],fun c hc=>?_⟩
   simp only [Env.find_set]
   repeat rw [if_neg (by omega)]
 ·obtain rfl:=f2 rfl
  cases all with
  | false =>
   simp (config:={ maxSteps:=4000000 }) (disch:=first|omega|(with_unfolding_all exact rfl)|(simp only[new_n,put_n,new_m];omega)|(refine put_m_le ?_;simp only[new_m];omega)) only [K6r15,K6r17,u15s4,u15s5,u15s8,u15s9,u15s10,u15s11,u15s12,u15s13,u15s14,u15s17,u15s18,u15s19,u15s20,u15s21,u15s22,u15s23,u15s24,u15s27,u15s28,u15s29,u15s30,u15s31,u15s32,u15s33,u15s34,u15s35,u15s36,u15s37,u15s38,Abs.W,reduceIte,Nat.reduceEqDiff,Nat.reduceAdd,decide_true,decide_false,kLoop_def,Nat.reduceSub,List.cons_append,List.nil_append,List.append_nil,List.length_cons,List.length_nil,Env.find_set,q7,q14,yt,yx,z0,k11,k12,k13,k22,k23,k31,k32,k33,knW,ad,Nat.zero_add]
   refine ⟨_,_,rfl,hY,by omega,by simp only [Env.find_set,reduceIte,Nat.reduceEqDiff],fun c hc=>?_⟩
   simp only [Env.find_set]
   repeat rw [if_neg (by omega)]
  | true =>
   obtain ⟨f7,rfl⟩:=f4 rfl
   have pe:decide (yl=yl)=true:=decide_eq_true rfl
   simp (config:={ maxSteps:=4000000 }) (disch:=first|omega|(with_unfolding_all exact rfl)|(simp only[new_n,put_n,new_m];omega)|(refine put_m_le ?_;simp only[new_m];omega)) only [K6r15,K6r17,u15s4,u15s5,u15s8,u15s9,u15s10,u15s11,u15s12,u15s13,u15s14,u15s17,u15s18,u15s19,u15s20,u15s21,u15s22,u15s23,u15s24,u15s27,u15s28,u15s29,u15s30,u15s31,u15s32,u15s33,u15s34,u15s35,u15s36,u15s37,u15s38,Abs.W,reduceIte,Nat.reduceEqDiff,Nat.reduceAdd,decide_true,decide_false,kLoop_def,Nat.reduceSub,List.cons_append,List.nil_append,List.append_nil,List.length_cons,List.length_nil,Env.find_set,q7,q14,yt,yx,z0,k11,k12,k13,k22,k23,k31,k32,k33,knW,pe,ad,Nat.zero_add]
   refine ⟨_,_,rfl,hY,by omega,by simp only [Env.find_set,reduceIte,Nat.reduceEqDiff],fun c hc=>?_⟩
   simp only [Env.find_set]
   repeat rw [if_neg (by omega)]
 ·rcases hw with rfl | rfl | rfl
  ·cases all with
   | false =>
    obtain ⟨f5,f6⟩:=f3 (by omega)
    have wi:call Try.prog X n (.fn 28) [.agg [.int .i64 yl,.int .i64 yh],.agg [.int .i64 xl,.int .i64 xh]] y=.val (.bool true) y:=within_sp n (by omega) _ _ _ _ y f5 f6 (by omega)
    simp (config:={ maxSteps:=4000000 }) (disch:=first|omega|(with_unfolding_all exact rfl)|(simp only[new_n,put_n,new_m];omega)|(refine put_m_le ?_;simp only[new_m];omega)) only [K6r15,K6r17,u15s4,u15s5,u15s8,u15s9,u15s10,u15s11,u15s12,u15s13,u15s14,u15s17,u15s18,u15s19,u15s20,u15s21,u15s22,u15s23,u15s24,u15s27,u15s28,u15s29,u15s30,u15s31,u15s32,u15s33,u15s34,u15s35,u15s36,u15s37,u15s38,Abs.W,reduceIte,Nat.reduceEqDiff,Nat.reduceAdd,decide_true,decide_false,kLoop_def,Nat.reduceSub,List.cons_append,List.nil_append,List.append_nil,List.length_cons,List.length_nil,Env.find_set,q7,q14,yt,yx,z0,k11,k12,k13,k22,k23,k31,k32,k33,knW,wi,ad,Nat.zero_add]
    refine ⟨_,_,rfl,hY,by omega,by simp only [Env.find_set,reduceIte,Nat.reduceEqDiff],fun c hc=>?_⟩
    simp only [Env.find_set]
    repeat rw [if_neg (by omega)]
   | true =>
    obtain ⟨f5,f6⟩:=f3 (by omega)
    have wi:call Try.prog X n (.fn 28) [.agg [.int .i64 yl,.int .i64 yh],.agg [.int .i64 xl,.int .i64 xh]] y=.val (.bool true) y:=within_sp n (by omega) _ _ _ _ y f5 f6 (by omega)
    obtain ⟨f7,rfl⟩:=f4 rfl
    have pe:decide (yl=yl)=true:=decide_eq_true rfl
    simp (config:={ maxSteps:=4000000 }) (disch:=first|omega|(with_unfolding_all exact rfl)|(simp only[new_n,put_n,new_m];omega)|(refine put_m_le ?_;simp only[new_m];omega)) only [K6r15,K6r17,u15s4,u15s5,u15s8,u15s9,u15s10,u15s11,u15s12,u15s13,u15s14,u15s17,u15s18,u15s19,u15s20,u15s21,u15s22,u15s23,u15s24,u15s27,u15s28,u15s29,u15s30,u15s31,u15s32,u15s33,u15s34,u15s35,u15s36,u15s37,u15s38,Abs.W,reduceIte,Nat.reduceEqDiff,Nat.reduceAdd,decide_true,decide_false,kLoop_def,Nat.reduceSub,List.cons_append,List.nil_append,List.append_nil,List.length_cons,List.length_nil,Env.find_set,q7,q14,yt,yx,z0,k11,k12,k13,k22,k23,k31,k32,k33,knW,wi,pe,ad,Nat.zero_add]
    refine ⟨_,_,rfl,hY,by omega,by simp only [Env.find_set,reduceIte,Nat.reduceEqDiff],fun c hc=>?_⟩
    simp only [Env.find_set]
    repeat rw [if_neg (by omega)]
  ·cases all with
   | false =>
    simp (config:={ maxSteps:=4000000 }) (disch:=first|omega|(with_unfolding_all exact rfl)|(simp only[new_n,put_n,new_m];omega)|(refine put_m_le ?_;simp only[new_m];omega)) only [K6r15,K6r17,u15s4,u15s5,u15s8,u15s9,u15s10,u15s11,u15s12,u15s13,u15s14,u15s17,u15s18,u15s19,u15s20,u15s21,u15s22,u15s23,u15s24,u15s27,u15s28,u15s29,u15s30,u15s31,u15s32,u15s33,u15s34,u15s35,u15s36,u15s37,u15s38,Abs.W,reduceIte,Nat.reduceEqDiff,Nat.reduceAdd,decide_true,decide_false,kLoop_def,Nat.reduceSub,List.cons_append,List.nil_append,List.append_nil,List.length_cons,List.length_nil,Env.find_set,q7,q14,yt,yx,z0,k11,k12,k13,k22,k23,k31,k32,k33,knW,ad,Nat.zero_add]
    refine ⟨_,_,rfl,hY,by omega,by simp only [Env.find_set,reduceIte,Nat.reduceEqDiff],fun c hc=>?_⟩
    simp only [Env.find_set]
    repeat rw [if_neg (by omega)]
   | true =>
    obtain ⟨f7,rfl⟩:=f4 rfl
    have pe:decide (yl=yl)=true:=decide_eq_true rfl
    simp (config:={ maxSteps:=4000000 }) (disch:=first|omega|(with_unfolding_all exact rfl)|(simp only[new_n,put_n,new_m];omega)|(refine put_m_le ?_;simp only[new_m];omega)) only [K6r15,K6r17,u15s4,u15s5,u15s8,u15s9,u15s10,u15s11,u15s12,u15s13,u15s14,u15s17,u15s18,u15s19,u15s20,u15s21,u15s22,u15s23,u15s24,u15s27,u15s28,u15s29,u15s30,u15s31,u15s32,u15s33,u15s34,u15s35,u15s36,u15s37,u15s38,Abs.W,reduceIte,Nat.reduceEqDiff,Nat.reduceAdd,decide_true,decide_false,kLoop_def,Nat.reduceSub,List.cons_append,List.nil_append,List.append_nil,List.length_cons,List.length_nil,Env.find_set,q7,q14,yt,yx,z0,k11,k12,k13,k22,k23,k31,k32,k33,knW,pe,ad,Nat.zero_add]
    refine ⟨_,_,rfl,hY,by omega,by simp only [Env.find_set,reduceIte,Nat.reduceEqDiff],fun c hc=>?_⟩
    simp only [Env.find_set]
    repeat rw [if_neg (by omega)]
  ·cases all with
   | false =>
    obtain ⟨f5,f6⟩:=f3 (by omega)
    have wi:call Try.prog X n (.fn 28) [.agg [.int .i64 yl,.int .i64 yh],.agg [.int .i64 xl,.int .i64 xh]] y=.val (.bool true) y:=within_sp n (by omega) _ _ _ _ y f5 f6 (by omega)
    simp (config:={ maxSteps:=4000000 }) (disch:=first|omega|(with_unfolding_all exact rfl)|(simp only[new_n,put_n,new_m];omega)|(refine put_m_le ?_;simp only[new_m];omega)) only [K6r15,K6r17,u15s4,u15s5,u15s8,u15s9,u15s10,u15s11,u15s12,u15s13,u15s14,u15s17,u15s18,u15s19,u15s20,u15s21,u15s22,u15s23,u15s24,u15s27,u15s28,u15s29,u15s30,u15s31,u15s32,u15s33,u15s34,u15s35,u15s36,u15s37,u15s38,Abs.W,reduceIte,Nat.reduceEqDiff,Nat.reduceAdd,decide_true,decide_false,kLoop_def,Nat.reduceSub,List.cons_append,List.nil_append,List.append_nil,List.length_cons,List.length_nil,Env.find_set,q7,q14,yt,yx,z0,k11,k12,k13,k22,k23,k31,k32,k33,knW,wi,ad,Nat.zero_add]
    refine ⟨_,_,rfl,hY,by omega,by simp only [Env.find_set,reduceIte,Nat.reduceEqDiff],fun c hc=>?_⟩
    simp only [Env.find_set]
    repeat rw [if_neg (by omega)]
   | true =>
    exact absurd rfl (f4 rfl).1
theorem fnd_stalls (n:Nat) (hn:9≤n) (cx:Ctx) {S T:List Sale} {l:List Step} {ks kg:Nat} {v1 v2:AV} {all:Bool} {u t:St} {L:Env} {p4 p8 bp bq i kk:Nat} (okS:(⟨ks,kg,S⟩:Book).Ok) (okT:(⟨ks,kg,T⟩:Book).Ok) (hF:Fine S) (hT:Fine T) (hN:NarAll S T) (hA:all=true→Exact T) (oks:StepsOk l)
  (g4:u.h.get p4=some (.cells [.int .i64 ks,.int .i64 kg,v1] (tag 27))) (b4:p4<u.n) (R1:RowsAt u.h u.n 6 (S.map Sale.cells) v1) (g8:u.h.get p8=some (.cells [.int .i64 ks,.int .i64 kg,v2] (tag 27))) (b8:p8<u.n) (R2:RowsAt u.h u.n 6 (T.map Sale.cells) v2)
  (hbp:u.h.get bp=some (.cells (dueRows l S ks).flatten 0)) (bpn:bp<u.n) (hbq:u.h.get bq=some (.cells (dueRows l T ks).flatten 0)) (bqn:bq<u.n) (hE:Past u t kk) (htm:t.m≤far) (hs:u.n+kk+20000≤far) (hi:i<ks)
  (q4:L.find 4=.ptr p4 0) (q7:L.find 7=.bool all) (q8:L.find 8=.ptr p8 0) (q10:L.find 10=.slice bp 0 ks ks false) (q12:L.find 12=.slice bq 0 ks ks false) (q21:L.find 21=.int .i64 (i:Int)) :
  ∃ L1 t1,K6l1 (knows 20 (call Try.prog X n)) cx L [] t=.done .norm L1 [] t1∧Past u t1 (kk+2)∧t1.m≤far∧L1.find 21=.int .i64 ((i+1:Nat):Int)∧∀ c,c<21→L1.find c=L.find c:=by
 have hf:far=1000000000:=rfl
 have knT:∀ args s,knows 20 (call Try.prog X n) (.fn 17) args s=call Try.prog X n (.fn 17) args s:=fun _ _=>rfl
 have knW:∀ args s,knows 20 (call Try.prog X n) (.fn 28) args s=call Try.prog X n (.fn 28) args s:=fun _ _=>rfl
 have tn:=hE.n
 have tl:=hE.le
 have hks:ks≤8:=okS.k1
 have e0:decide ((i:Int)<(ks:Int))=true:=decide_eq_true (by omega)
 have z0:decide ((0:Int)=0)=true:=rfl
 have ad:∀ s,aAdd s .i64 (i:Int) 1=.val (.int .i64 ((i+1:Nat):Int)) s:=fun s=>by rw [aAdd_i64 s _ _ (by omega)];rfl
 have ixp:∀ s,ixsA 2 s (.slice bp 0 ks ks false) (.int .i64 (i:Int))=.val (.ptr bp (i * 2)) s:=fun s=>by rw [ixs_slice _ _ _ _ _ _ _ _ hi,Nat.zero_add]
 have ixq:∀ s,ixsA 2 s (.slice bq 0 ks ks false) (.int .i64 (i:Int))=.val (.ptr bq (i * 2)) s:=fun s=>by rw [ixs_slice _ _ _ _ _ _ _ _ hi,Nat.zero_add]
 have ov1:∀ t,okA (.val v1 t)=.val v1 t:=fun t=>okA_ne R1.ne
 have ov2:∀ t,okA (.val v2 t)=.val v2 t:=fun t=>okA_ne R2.ne
 obtain ⟨w1,w2⟩:=turnOf_range false (i:Int) S okS.ok
 obtain ⟨w3,w4⟩:=turnOf_range true (i:Int) T okT.ok
 obtain ⟨w5,w6⟩:=turnOf_range false (i:Int) T okT.ok
 obtain ⟨h1,h2⟩:=turn_nar hN hF hT (i:Int)
 have d1:=(due_grows oks w1 h1).1
 have d2:=(due_grows oks w3 h2).1
 have hx:all=true→turnOf false T i=turnOf true T i:=fun h=>turn_exact i T (hA h)
 have cutOf:∀ R:List Sale,cut (i * 2) 2 (dueRows l R ks).flatten=some [.int .i64 (dueI l (turnOf false R i)),.int .i64 (dueI l (turnOf true R i))]:=fun R=>by
  rw [flatten_cut (dueRows_wide l R ks) (by rw [dueRows_len];exact hi)]
  unfold dueRows dueRow
  simp
 have dp:=cutOf S
 have dq:=cutOf T
 have nq0:nth (dueRows l T ks).flatten (i * 2)=.int .i64 (dueI l (turnOf false T i)):=nth_cut dq (j:=0) (by simp)
 have nq1:nth (dueRows l T ks).flatten (i * 2+1)=.int .i64 (dueI l (turnOf true T i)):=nth_cut dq (j:=1) (by simp)
 have T1:call Try.prog X n (.fn 17) [.agg [.int .i64 ks,.int .i64 kg,v1],.int .i64 (i:Int)] t=.val (.tup [.agg [.int .i64 (turnOf false S i),.int .i64 (turnOf true S i)],.int .i64 0]) t:=Turnover_ok (b:=⟨ks,kg,S⟩) (by omega) okS hi (R1.grow hE.same hE.n) (by omega)
 have T2:∀ x:St,Past u x (kk+1)→call Try.prog X n (.fn 17) [.agg [.int .i64 ks,.int .i64 kg,v2],.int .i64 (i:Int)] x=.val (.tup [.agg [.int .i64 (turnOf false T i),.int .i64 (turnOf true T i)],.int .i64 0]) x:=fun x hX=>Turnover_ok (b:=⟨ks,kg,T⟩) (by omega) okT hi (R2.grow hX.same hX.n) (by have:=hX.le;omega)
 clear cutOf
 generalize turnOf false S i=xl at *
 generalize turnOf true S i=xh at *
 generalize turnOf false T i=yl at *
 generalize turnOf true T i=yh at *
 have t4:=(hE.same p4 b4).trans g4
 obtain ⟨x,hx'⟩:∃ x:St,x=(t.new (.cells [.int .i64 0,.int .i64 0] (tag 38))).put t.n (.cells [.int .i64 xl,.int .i64 xh] (tag 38)):=⟨_,rfl⟩
 have xn:x.n=t.n+1:=by rw [hx'];rfl
 have xm:x.m≤t.m:=by rw [hx'];simp only [St.put,minN_eq,new_m];omega
 have xt:x.h.get t.n=some (.cells [.int .i64 xl,.int .i64 xh] (tag 38)):=by rw [hx'];exact get_put_eq _ _ _ _ rfl (by omega)
 have hX:Past u x (kk+1):=by rw [hx'];exact (hE.new _).put _ tn
 have x8:=(hX.same p8 b8).trans g8
 have T2:=T2 x hX
 obtain ⟨y,hy⟩:∃ y:St,y=(x.new (.cells [.int .i64 0,.int .i64 0] (tag 38))).put x.n (.cells [.int .i64 yl,.int .i64 yh] (tag 38)):=⟨_,rfl⟩
 have yn:y.n=x.n+1:=by rw [hy];rfl
 have ym:y.m≤x.m:=by rw [hy];simp only [St.put,minN_eq,new_m];omega
 have yt:y.h.get x.n=some (.cells [.int .i64 yl,.int .i64 yh] (tag 38)):=by rw [hy];exact get_put_eq _ _ _ _ rfl (by omega)
 have yx:y.h.get t.n=some (.cells [.int .i64 xl,.int .i64 xh] (tag 38)):=by rw [hy,get_put_ne' _ _ _ _ (by omega),get_new_ne _ _ _ (by omega)];exact xt
 have hY:Past u y (kk+2):=by rw [hy];exact (hX.new _).put _ (by omega)
 have yp:=(hY.same bp bpn).trans hbp
 have yq:=(hY.same bq bqn).trans hbq
 have wi1:call Try.prog X n (.fn 28) [.agg [.int .i64 yl,.int .i64 yh],.agg [.int .i64 xl,.int .i64 xh]] y=.val (.bool true) y:=within_sp n (by omega) _ _ _ _ y h1 h2 (by omega)
 have wi2:call Try.prog X n (.fn 28) [.agg [.int .i64 (dueI l yl),.int .i64 (dueI l yh)],.agg [.int .i64 (dueI l xl),.int .i64 (dueI l xh)]] y=.val (.bool true) y:=within_sp n (by omega) _ _ _ _ y d1 d2 (by omega)
 have ymf:y.m≤far:=by omega
 simp (disch:=first|omega|(with_unfolding_all exact rfl)|(simp only[new_n,put_n,new_m];omega)|(refine put_m_le ?_;simp only[new_m];omega)) only [K6l1,K6r19,K6r20,Abs.W,reduceIte,Nat.reduceEqDiff,Nat.reduceAdd,decide_true,decide_false,kLoop_def,Nat.reduceSub,List.cons_append,List.nil_append,List.append_nil,List.length_cons,List.length_nil,Env.find_set,q4,q21,e0,t4,knT,T1,ov1,extE0,extE1,okA_tupE,Nat.zero_add]
 rw [← hx']
 clear hx' T1
 simp (disch:=first|omega|(with_unfolding_all exact rfl)|(simp only[new_n,put_n,new_m];omega)|(refine put_m_le ?_;simp only[new_m];omega)) only [K6r21,Abs.W,reduceIte,Nat.reduceEqDiff,Nat.reduceAdd,decide_true,decide_false,kLoop_def,Nat.reduceSub,List.cons_append,List.nil_append,List.append_nil,List.length_cons,List.length_nil,Env.find_set,q8,q21,x8,knT,T2,ov2,extE0,extE1,okA_tupE,Nat.zero_add]
 rw [← hy]
 clear hy T2
 have u22s4:=fun cl L s=>congrFun (congrFun (congrFun K6r22s4.eq_1 cl) L) s
 have u22s5:=fun cl L s=>congrFun (congrFun (congrFun K6r22s5.eq_1 cl) L) s
 have u22s8:=fun cl L s=>congrFun (congrFun (congrFun K6r22s8.eq_1 cl) L) s
 have u22s9:=fun cl L s=>congrFun (congrFun (congrFun K6r22s9.eq_1 cl) L) s
 have u22s10:=fun cl L s=>congrFun (congrFun (congrFun K6r22s10.eq_1 cl) L) s
 have u22s11:=fun cl L s=>congrFun (congrFun (congrFun K6r22s11.eq_1 cl) L) s
 have u22s14:=fun cl L s=>congrFun (congrFun (congrFun K6r22s14.eq_1 cl) L) s
 have u22s15:=fun cl L s=>congrFun (congrFun (congrFun K6r22s15.eq_1 cl) L) s
 have u22s16:=fun cl L s=>congrFun (congrFun (congrFun K6r22s16.eq_1 cl) L) s
 have u22s17:=fun cl L s=>congrFun (congrFun (congrFun K6r22s17.eq_1 cl) L) s
 have u22s18:=fun cl L s=>congrFun (congrFun (congrFun K6r22s18.eq_1 cl) L) s
 have u22s19:=fun cl L s=>congrFun (congrFun (congrFun K6r22s19.eq_1 cl) L) s
 have u22s20:=fun cl L s=>congrFun (congrFun (congrFun K6r22s20.eq_1 cl) L) s
 have u22s21:=fun cl L s=>congrFun (congrFun (congrFun K6r22s21.eq_1 cl) L) s
 have u22s22:=fun cl L s=>congrFun (congrFun (congrFun K6r22s22.eq_1 cl) L) s
 have u22s23:=fun cl L s=>congrFun (congrFun (congrFun K6r22s23.eq_1 cl) L) s
 have u22s26:=fun cl L s=>congrFun (congrFun (congrFun K6r22s26.eq_1 cl) L) s
 have u22s27:=fun cl L s=>congrFun (congrFun (congrFun K6r22s27.eq_1 cl) L) s
 have u22s28:=fun cl L s=>congrFun (congrFun (congrFun K6r22s28.eq_1 cl) L) s
 have u22s29:=fun cl L s=>congrFun (congrFun (congrFun K6r22s29.eq_1 cl) L) s
 have u22s30:=fun cl L s=>congrFun (congrFun (congrFun K6r22s30.eq_1 cl) L) s
 have u22s31:=fun cl L s=>congrFun (congrFun (congrFun K6r22s31.eq_1 cl) L) s
 have u22s32:=fun cl L s=>congrFun (congrFun (congrFun K6r22s32.eq_1 cl) L) s
 have u22s33:=fun cl L s=>congrFun (congrFun (congrFun K6r22s33.eq_1 cl) L) s
 have u22s34:=fun cl L s=>congrFun (congrFun (congrFun K6r22s34.eq_1 cl) L) s
 have u22s35:=fun cl L s=>congrFun (congrFun (congrFun K6r22s35.eq_1 cl) L) s
 have u22s36:=fun cl L s=>congrFun (congrFun (congrFun K6r22s36.eq_1 cl) L) s
 have u22s37:=fun cl L s=>congrFun (congrFun (congrFun K6r22s37.eq_1 cl) L) s
 have u22s38:=fun cl L s=>congrFun (congrFun (congrFun K6r22s38.eq_1 cl) L) s
 have u22s39:=fun cl L s=>congrFun (congrFun (congrFun K6r22s39.eq_1 cl) L) s
 have u22s40:=fun cl L s=>congrFun (congrFun (congrFun K6r22s40.eq_1 cl) L) s
 have u22s41:=fun cl L s=>congrFun (congrFun (congrFun K6r22s41.eq_1 cl) L) s
 have u22s42:=fun cl L s=>congrFun (congrFun (congrFun K6r22s42.eq_1 cl) L) s
 have u22s43:=fun cl L s=>congrFun (congrFun (congrFun K6r22s43.eq_1 cl) L) s
 have u22s44:=fun cl L s=>congrFun (congrFun (congrFun K6r22s44.eq_1 cl) L) s
 have u22s45:=fun cl L s=>congrFun (congrFun (congrFun K6r22s45.eq_1 cl) L) s
 have u22s46:=fun cl L s=>congrFun (congrFun (congrFun K6r22s46.eq_1 cl) L) s
 cases all with
 | false =>
  simp (config:={ maxSteps:=4000000 }) (disch:=first|omega|(with_unfolding_all exact rfl)|(simp only[new_n,put_n,new_m];omega)|(refine put_m_le ?_;simp only[new_m];omega)) only [K6r22,K6r24,u22s4,u22s5,u22s8,u22s9,u22s10,u22s11,u22s14,u22s15,u22s16,u22s17,u22s18,u22s19,u22s20,u22s21,u22s22,u22s23,u22s26,u22s27,u22s28,u22s29,u22s30,u22s31,u22s32,u22s33,u22s34,u22s35,u22s36,u22s37,u22s38,u22s39,u22s40,u22s41,u22s42,u22s43,u22s44,u22s45,u22s46,Abs.W,reduceIte,Nat.reduceEqDiff,Nat.reduceAdd,decide_true,decide_false,kLoop_def,Nat.reduceSub,List.cons_append,List.nil_append,List.append_nil,List.length_cons,List.length_nil,Env.find_set,q7,q10,q12,q21,yt,yx,yp,yq,ixp,ixq,dp,dq,z0,knW,wi1,wi2,ad,endO_nil,Nat.zero_add]
  refine ⟨_,_,rfl,hY,ymf,by simp only [Env.find_set,reduceIte,Nat.reduceEqDiff],fun c hc=>?_⟩
  simp only [Env.find_set]
  repeat rw [if_neg (by omega)]
 | true =>
  obtain rfl:=hx rfl
  have pe:decide (yl=yl)=true:=decide_eq_true rfl
  have pd:decide (dueI l yl=dueI l yl)=true:=decide_eq_true rfl
  simp (config:={ maxSteps:=4000000 }) (disch:=first|omega|(with_unfolding_all exact rfl)|(simp only[new_n,put_n,new_m];omega)|(refine put_m_le ?_;simp only[new_m];omega)) only [K6r22,K6r24,u22s4,u22s5,u22s8,u22s9,u22s10,u22s11,u22s14,u22s15,u22s16,u22s17,u22s18,u22s19,u22s20,u22s21,u22s22,u22s23,u22s26,u22s27,u22s28,u22s29,u22s30,u22s31,u22s32,u22s33,u22s34,u22s35,u22s36,u22s37,u22s38,u22s39,u22s40,u22s41,u22s42,u22s43,u22s44,u22s45,u22s46,Abs.W,reduceIte,Nat.reduceEqDiff,Nat.reduceAdd,decide_true,decide_false,kLoop_def,Nat.reduceSub,List.cons_append,List.nil_append,List.append_nil,List.length_cons,List.length_nil,Env.find_set,q7,q10,q12,q21,yt,yx,yp,yq,ixp,ixq,dp,dq,nq0,nq1,z0,pe,pd,knW,wi1,wi2,ad,endO_nil,Nat.zero_add,Nat.add_zero]
  refine ⟨_,_,rfl,hY,ymf,by simp only [Env.find_set,reduceIte,Nat.reduceEqDiff],fun c hc=>?_⟩
  simp only [Env.find_set]
  repeat rw [if_neg (by omega)]
end Go.Proofs.Ytamlnddeiokbdaa.walk
set_option maxRecDepth 10000
namespace Go.Proofs.Ytamlnddeiokbdaa.walk
open Go.Abs Go.Proofs.Ytamlnddeiokbdaa.code
structure FndJ (u t:St) (F:List Fnd) (v:AV) (bl kk:Nat):Prop where
 is:IsAt t.h t.n bl 3 (tag 66) (F.map Fnd.cells) v
 lo:u.n≤bl
 same:∀ c,c<u.n→t.h.get c=u.h.get c
 n:u.n≤t.n
 le:t.n≤u.n+kk
 mle:t.m≤far
end Go.Proofs.Ytamlnddeiokbdaa.walk
set_option maxRecDepth 10000
namespace Go.Abs
theorem flat_rows {h:Heap} {n q w sz k:Nat} {rows:List (List AV)} (e:Bool) (hw:∀ r ∈ rows,r.length=w) (hk:rows.length=k) (hq:h.get q=some (.cells rows.flatten sz)) (hn:q<n):RowsAt h n w rows (.slice q 0 k k e):=by
 subst hk
 exact ⟨fun _=>rfl,fun i hi=>⟨q,i * w,rows.flatten,sz,hn,fun s=>by rw [ixs_slice _ _ _ _ _ _ _ _ hi,Nat.zero_add],hq,flatten_cut hw hi⟩⟩
end Go.Abs
namespace Go.Proofs.Ytamlnddeiokbdaa.walk
open Go.Abs Go.Proofs.Ytamlnddeiokbdaa.code
end Go.Proofs.Ytamlnddeiokbdaa.walk
set_option maxRecDepth 10000
namespace Go.Proofs.Ytamlnddeiokbdaa.walk
open Go.Abs Go.Proofs.Ytamlnddeiokbdaa.code
noncomputable def fndRest:K:=(kSeq (kRegion K6r2 [4]) (kSeq (kRegion K6r3 [5]) (kSeq (kRegion K6r4 [6]) (kSeq (kRegion K6r5 [7]) (kSeq (kRegion K6r6 [8,9]) (kSeq (kRegion K6r7 [10,11]) (kSeq (kRegion K6r8 [12,13]) (kSeq (kSeq (kRegion K6r9 [82]) (kCond (.tmp 82) (kSeq (kRegion K6r10 [2]) kRet) kSkip)) (kSeq (kSeq (kRegion K6r11 [14]) (kBlock 0 (kLoop K6l0))) (kSeq (kSeq (kRegion K6r18 [21]) (kBlock 2 (kLoop K6l1))) (kSeq (kRegion K6r25 [2]) kRet)))))))))))
theorem fnd_body (n:Nat) (hn:17≤n) (cx:Ctx) (s:St) (d:Nat) (hd:Die d s.h) (hdn:d<s.n) (hs:s.n+9000000≤far) (hm:s.m=far) :
  ∃ s',finA Try.prog Try.f6 (fndRest (knows 20 (call Try.prog X n)) cx (.cons 3 (.ptr d 0) .nil) [] s)=.val (.bool true) s':=by
 have hf:far=1000000000:=rfl
 have knB:∀ args s,knows 20 (call Try.prog X n) (.fn 10) args s=call Try.prog X n (.fn 10) args s:=fun _ _=>rfl
 have knS:∀ args s,knows 20 (call Try.prog X n) (.fn 11) args s=call Try.prog X n (.fn 11) args s:=fun _ _=>rfl
 have knF:∀ args s,knows 20 (call Try.prog X n) (.fn 26) args s=call Try.prog X n (.fn 26) args s:=fun _ _=>rfl
 have knU:∀ args s,knows 20 (call Try.prog X n) (.fn 27) args s=call Try.prog X n (.fn 27) args s:=fun _ _=>rfl
 have knD:∀ args s,knows 20 (call Try.prog X n) (.fn 12) args s=call Try.prog X n (.fn 12) args s:=fun _ _=>rfl
 have knA:∀ s,knows 20 (call Try.prog X n) (.fn 20) [] s=.val (.bool true) s:=fun _=>rfl
 unfold fndRest
 simp (disch:=first|omega|(with_unfolding_all exact rfl)|(simp only[new_n,put_n,new_m];omega)|(refine put_m_le ?_;simp only[new_m];omega)) only [K6r2,Abs.W,reduceIte,Nat.reduceEqDiff,Nat.reduceAdd,decide_true,decide_false,kLoop_def,Nat.reduceSub,List.cons_append,List.nil_append,List.append_nil,List.length_cons,List.length_nil,Env.find_set,knB]
 generalize hc1:call _ _ _ (.fn 10) _ _=r1
 obtain ⟨b,vb,bl1,t1,rfl,st1,d1,⟨ok1,ak,ag⟩,len1,hbl1,hI1⟩:=BookOf_ex3 (k:=3) (g:=3) (n:=8) hc1 (by omega) hd hdn (by omega) (by omega) (by omega) (by omega)
 have n1:=st1.n
 have k1:=st1.le
 have m1:=st1.mle
 have hl40:=ok1.l
 have hgd:=ok1.g1
 have hst:=ok1.k1
 have sc1:scalars (bookV b vb)=true:=by show scalars [vb]=true;exact hI1.scal.1
 have kvb:∀ t,okA (.val vb t)=.val vb t:=hI1.okA
 have lvb:∀ s,lenSlA s vb=.val (.int .i64 (b.sales.length:Int)) s:=fun s=>by have:=hI1.rows.at_.len s;rw [List.length_map] at this;exact this
 unfold bookV at sc1
 simp (disch:=first|omega|(with_unfolding_all exact rfl)|(simp only[new_n,put_n,new_m];omega)|(refine put_m_le ?_;simp only[new_m];omega)) only [Abs.W,reduceIte,Nat.reduceEqDiff,Nat.reduceAdd,decide_true,decide_false,kLoop_def,Nat.reduceSub,List.cons_append,List.nil_append,List.append_nil,List.length_cons,List.length_nil,Env.find_set,sc1,Nat.zero_add]
 obtain ⟨y,hy⟩:∃ y:St,y=(t1.new (.cells [.int .i64 0,.int .i64 0,.nilslice] (tag 27))).put t1.n (.cells (bookV b vb) (tag 27)):=⟨_,rfl⟩
 have yn:y.n=t1.n+1:=by rw [hy];rfl
 have ym:y.m≤t1.m:=by rw [hy];simp only [St.put,minN_eq,new_m];omega
 have yg:∀ c,c<t1.n→y.h.get c=t1.h.get c:=fun c hc=>by rw [hy,get_put_ne' _ _ _ _ (by omega),get_new_ne _ _ _ (by omega)]
 have y4:y.h.get t1.n=some (.cells (bookV b vb) (tag 27)):=by rw [hy];exact get_put_eq _ _ _ _ rfl (by omega)
 unfold bookV at hy y4
 rw [← hy]
 clear hy
 have dy:Die d y.h:=Die.keep d1 (yg d (by omega))
 have hFi:Fine b.sales:=fun s hs=>by
  obtain ⟨s0,s1,d0,d1,g0,g1,g2,c0,c1,c2⟩:=ok1.ok s hs
  exact ⟨g0,g1,g2,c0,c1,c2⟩
 have Iy:IsAt y.h t1.n bl1 6 (tag 51) (b.sales.map Sale.cells) vb:=hI1.mono (fun h=>yg bl1 h) (by omega)
 simp (disch:=first|omega|(with_unfolding_all exact rfl)|(simp only[new_n,put_n,new_m];omega)|(refine put_m_le ?_;simp only[new_m];omega)) only [K6r3,Abs.W,reduceIte,Nat.reduceEqDiff,Nat.reduceAdd,decide_true,decide_false,kLoop_def,Nat.reduceSub,List.cons_append,List.nil_append,List.append_nil,List.length_cons,List.length_nil,Env.find_set,knS,Nat.zero_add]
 generalize hc2:call _ _ _ (.fn 11) _ _=r2
 obtain ⟨l,sb,t2,rfl,st2,d2,oks,hl,sb0,sb1,hsb⟩:=StepsOf_ex hc2 (by omega) dy (by omega) (by omega)
 have n2:=st2.n
 have k2:=st2.le
 have m2:=st2.mle
 have a4:=(st2.same t1.n (by omega) (by omega)).trans y4
 have I2:IsAt t2.h t1.n bl1 6 (tag 51) (b.sales.map Sale.cells) vb:=Iy.mono (fun h=>st2.same bl1 (by omega) (by omega)) (Nat.le_refl _)
 have I2':IsAt t2.h t2.n bl1 6 (tag 51) (b.sales.map Sale.cells) vb:=I2.mono (fun _=>rfl) (by omega)
 simp (disch:=first|omega|(with_unfolding_all exact rfl)|(simp only[new_n,put_n,new_m];omega)|(refine put_m_le ?_;simp only[new_m];omega)) only [K6r4,Abs.W,reduceIte,Nat.reduceEqDiff,Nat.reduceAdd,decide_true,decide_false,kLoop_def,Nat.reduceSub,List.cons_append,List.nil_append,List.append_nil,List.length_cons,List.length_nil,Env.find_set,a4,kvb,knF,Nat.zero_add]
 generalize hc3:call _ _ _ (.fn 26) _ _=r3
 obtain ⟨F,fv,fbl,t3,rfl,st3,d3,okF,hFl,hfull,hfb,hIf⟩:=FindsOf_ex (b:=b) (vb:=vb) hc3 (by omega) d2 (by omega) hFi hl40 I2' (by omega) (by omega)
 have n3:=st3.n
 have k3:=st3.le
 have m3:=st3.mle
 have kfv:∀ t,okA (.val fv t)=.val fv t:=hIf.okA
 have lfv:∀ s,lenSlA s fv=.val (.int .i64 (F.length:Int)) s:=fun s=>by have:=hIf.rows.at_.len s;rw [List.length_map] at this;exact this
 have b4:=(st3.same t1.n (by omega) (by omega)).trans a4
 have sb3:=(st3.same sb (by omega) (by omega)).trans hsb
 have I3:IsAt t3.h t1.n bl1 6 (tag 51) (b.sales.map Sale.cells) vb:=I2.mono (fun h=>st3.same bl1 (by omega) (by omega)) (Nat.le_refl _)
 have I3':IsAt t3.h t3.n bl1 6 (tag 51) (b.sales.map Sale.cells) vb:=I3.mono (fun _=>rfl) (by omega)
 obtain ⟨all,hall⟩:∃ all,all=decide ((F.length:Int)=(b.sales.length:Int)):=⟨_,rfl⟩
 obtain ⟨hNar,hEx⟩:=audit_narrow hFi okF
 have hA:all=true→Exact (auditI b.sales F):=fun h=>hEx (hfull (by rw [hall] at h;have:=of_decide_eq_true h;omega))
 simp (disch:=first|omega|(with_unfolding_all exact rfl)|(simp only[new_n,put_n,new_m];omega)|(refine put_m_le ?_;simp only[new_m];omega)) only [K6r5,Abs.W,reduceIte,Nat.reduceEqDiff,Nat.reduceAdd,decide_true,decide_false,kLoop_def,Nat.reduceSub,List.cons_append,List.nil_append,List.append_nil,List.length_cons,List.length_nil,Env.find_set,kfv,b4,kvb,lfv,lvb,← hall,Nat.zero_add]
 simp (disch:=first|omega|(with_unfolding_all exact rfl)|(simp only[new_n,put_n,new_m];omega)|(refine put_m_le ?_;simp only[new_m];omega)) only [K6r6,Abs.W,reduceIte,Nat.reduceEqDiff,Nat.reduceAdd,decide_true,decide_false,kLoop_def,Nat.reduceSub,List.cons_append,List.nil_append,List.append_nil,List.length_cons,List.length_nil,Env.find_set,b4,kvb,kfv,knU,Nat.zero_add]
 generalize hc4:call _ _ _ (.fn 27) _ _=r4
 obtain ⟨q,t4,rfl,st4,hq0,hq1,hq2⟩:=Audited_ex (b:=b) (vb:=vb) (F:=F) hc4 (by omega) ok1 okF (by omega) hIf I3' (by omega)
 have n4:=st4.n
 have k4:=st4.le
 have m4:=st4.m
 simp (disch:=first|omega|(with_unfolding_all exact rfl)|(simp only[new_n,put_n,new_m];omega)|(refine put_m_le ?_;simp only[new_m];omega)) only [Abs.W,reduceIte,Nat.reduceEqDiff,Nat.reduceAdd,decide_true,decide_false,kLoop_def,Nat.reduceSub,List.cons_append,List.nil_append,List.append_nil,List.length_cons,List.length_nil,Env.find_set,okA_tupE,extE0,extE1,Nat.zero_add]
 obtain ⟨z,hz⟩:∃ z:St,z=(t4.new (.cells [.int .i64 0,.int .i64 0,.nilslice] (tag 27))).put t4.n (.cells [.int .i64 b.stalls,.int .i64 b.goods,.slice q 0 b.sales.length b.sales.length false] (tag 27)):=⟨_,rfl⟩
 have zn:z.n=t4.n+1:=by rw [hz];rfl
 have zm:z.m≤far:=by rw [hz];simp only [St.put,minN_eq,new_m];omega
 have zg:∀ c,c<t4.n→z.h.get c=t4.h.get c:=fun c hc=>by rw [hz,get_put_ne' _ _ _ _ (by omega),get_new_ne _ _ _ (by omega)]
 have z8:z.h.get t4.n=some (.cells [.int .i64 b.stalls,.int .i64 b.goods,.slice q 0 b.sales.length b.sales.length false] (tag 27)):=by rw [hz];exact get_put_eq _ _ _ _ rfl (by omega)
 rw [← hz]
 clear hz
 have gz:∀ c,c<t3.n→z.h.get c=t3.h.get c:=fun c hc=>(zg c (by omega)).trans (st4.same c hc)
 have z4:=(gz t1.n (by omega)).trans b4
 have sbz:=(gz sb (by omega)).trans sb3
 have Iz:IsAt z.h z.n bl1 6 (tag 51) (b.sales.map Sale.cells) vb:=I3.mono (fun h=>gz bl1 (by omega)) (by omega)
 have al:=auditI_len b.sales F
 have R2z:RowsAt z.h z.n 6 ((auditI b.sales F).map Sale.cells) (.slice q 0 b.sales.length b.sales.length false):=flat_rows false (sales_wide _) (by rw [List.length_map];exact al) ((zg q hq1).trans hq2) (by omega)
 have okT:(⟨b.stalls,b.goods,auditI b.sales F⟩:Book).Ok:=nar_book ok1 al hNar
 have hFt:=nar_fine _ _ hNar hFi
 have ovq:∀ t,okA (.val (.slice q 0 b.sales.length b.sales.length false) t)=.val (.slice q 0 b.sales.length b.sales.length false) t:=fun _=>rfl
 simp (disch:=first|omega|(with_unfolding_all exact rfl)|(simp only[new_n,put_n,new_m];omega)|(refine put_m_le ?_;simp only[new_m];omega)) only [K6r7,Abs.W,reduceIte,Nat.reduceEqDiff,Nat.reduceAdd,decide_true,decide_false,kLoop_def,Nat.reduceSub,List.cons_append,List.nil_append,List.append_nil,List.length_cons,List.length_nil,Env.find_set,z4,kvb,knD,Nat.zero_add]
 generalize hc5:call _ _ _ (.fn 12) _ _=r5
 obtain ⟨bp,t5,rfl,st5,bp0,bp1,hbp⟩:=Dues_ex (b:=b) (v:=vb) hc5 (by omega) ok1 oks (by omega) sbz (by omega) Iz.rows.at_ (by omega)
 have n5:=st5.n
 have k5:=st5.le
 have m5:=st5.m
 have c8:=(st5.same t4.n (by omega)).trans z8
 have sb5:=(st5.same sb (by omega)).trans sbz
 simp (disch:=first|omega|(with_unfolding_all exact rfl)|(simp only[new_n,put_n,new_m];omega)|(refine put_m_le ?_;simp only[new_m];omega)) only [K6r8,Abs.W,reduceIte,Nat.reduceEqDiff,Nat.reduceAdd,decide_true,decide_false,kLoop_def,Nat.reduceSub,List.cons_append,List.nil_append,List.append_nil,List.length_cons,List.length_nil,Env.find_set,c8,knD,okA_tupE,extE0,extE1,Nat.zero_add]
 generalize hc6:call _ _ _ (.fn 12) _ _=r6
 obtain ⟨bq,w,rfl,st6,bq0,bq1,hbq⟩:=Dues_ex (b:=⟨b.stalls,b.goods,auditI b.sales F⟩) (v:=.slice q 0 b.sales.length b.sales.length false) hc6 (by omega) okT oks (by omega) sb5 (by omega) (R2z.grow st5.same st5.n) (by omega)
 have n6:=st6.n
 have k6:=st6.le
 have m6:=st6.m
 have gw:∀ c,c<z.n→w.h.get c=z.h.get c:=fun c hc=>(st6.same c (by omega)).trans (st5.same c hc)
 have w4:=(gw t1.n (by omega)).trans z4
 have w8:=(gw t4.n (by omega)).trans z8
 have wbp:=(st6.same bp bp1).trans hbp
 have R1w:=Iz.rows.at_.grow gw (by omega:z.n≤w.n)
 have R2w:=R2z.grow gw (by omega:z.n≤w.n)
 have wm:w.m≤far:=by omega
 have e0:decide ((0:Int)=0)=true:=rfl
 have e1:decide ((b.stalls:Int)=(b.stalls:Int))=true:=decide_eq_true rfl
 have u9s4:=fun cl L s=>congrFun (congrFun (congrFun K6r9s4.eq_1 cl) L) s
 have u9s5:=fun cl L s=>congrFun (congrFun (congrFun K6r9s5.eq_1 cl) L) s
 have u9s8:=fun cl L s=>congrFun (congrFun (congrFun K6r9s8.eq_1 cl) L) s
 have u9s9:=fun cl L s=>congrFun (congrFun (congrFun K6r9s9.eq_1 cl) L) s
 have u9s12:=fun cl L s=>congrFun (congrFun (congrFun K6r9s12.eq_1 cl) L) s
 have u9s13:=fun cl L s=>congrFun (congrFun (congrFun K6r9s13.eq_1 cl) L) s
 have u9s14:=fun cl L s=>congrFun (congrFun (congrFun K6r9s14.eq_1 cl) L) s
 have u9s15:=fun cl L s=>congrFun (congrFun (congrFun K6r9s15.eq_1 cl) L) s
 have u9s16:=fun cl L s=>congrFun (congrFun (congrFun K6r9s16.eq_1 cl) L) s
 have u9s19:=fun cl L s=>congrFun (congrFun (congrFun K6r9s19.eq_1 cl) L) s
 have u9s20:=fun cl L s=>congrFun (congrFun (congrFun K6r9s20.eq_1 cl) L) s
 have u9s21:=fun cl L s=>congrFun (congrFun (congrFun K6r9s21.eq_1 cl) L) s
 have u9s22:=fun cl L s=>congrFun (congrFun (congrFun K6r9s22.eq_1 cl) L) s
 have u9s23:=fun cl L s=>congrFun (congrFun (congrFun K6r9s23.eq_1 cl) L) s
 simp (config:={ maxSteps:=3000000 }) (disch:=first|omega|(with_unfolding_all exact rfl)|(simp only[new_n,put_n,new_m];omega)|(refine put_m_le ?_;simp only[new_m];omega)) only [K6r9,u9s4,u9s5,u9s8,u9s9,u9s12,u9s13,u9s14,u9s15,u9s16,u9s19,u9s20,u9s21,u9s22,u9s23,K6r11,Abs.W,reduceIte,Nat.reduceEqDiff,Nat.reduceAdd,decide_true,decide_false,kLoop_def,Nat.reduceSub,List.cons_append,List.nil_append,List.append_nil,List.length_cons,List.length_nil,Env.find_set,okA_tupE,extE0,extE1,e0,e1,w4,Nat.zero_add]
 generalize hl1:loopN _ rounds _ _ _ _ _=q1
 obtain ⟨e,L2,t8,rfl,rfl,p4,p7,p8,p10,p12,hP,hPm⟩:=loop_of hl1
  (fun i L' t=>L'.find 4=.ptr t1.n 0∧L'.find 7=.bool all∧L'.find 8=.ptr t4.n 0∧L'.find 10=.slice bp 0 b.stalls b.stalls false∧L'.find 12=.slice bq 0 b.stalls b.stalls false∧L'.find 14=.int .i64 (i:Int)∧Past w t (2 * i)∧t.m≤far)
  (fun e L' t=>e=.exit 0∧L'.find 4=.ptr t1.n 0∧L'.find 7=.bool all∧L'.find 8=.ptr t4.n 0∧L'.find 10=.slice bp 0 b.stalls b.stalls false∧L'.find 12=.slice bq 0 b.stalls b.stalls false∧Past w t (2 * b.goods)∧t.m≤far)
  b.goods (by unfold rounds;omega) ⟨by simp only [find_cons,Env.find_set,reduceIte,Nat.reduceEqDiff],by simp only [find_cons,Env.find_set,reduceIte,Nat.reduceEqDiff],by simp only [find_cons,Env.find_set,reduceIte,Nat.reduceEqDiff],by simp only [find_cons,Env.find_set,reduceIte,Nat.reduceEqDiff],by simp only [find_cons,Env.find_set,reduceIte,Nat.reduceEqDiff],by simp only [find_cons,Env.find_set,reduceIte,Nat.reduceEqDiff];rfl,Past.refl w,wm⟩
  (fun i L' t hi ⟨q4,q7,q8,q10,q12,q14,hE,hEm⟩=>by
   by_cases hlt:i<b.goods
   ·obtain ⟨L3,t3',z1,z2,z3,z4,z5⟩:=fnd_goods n (by omega) cx (S:=b.sales) (T:=auditI b.sales F) (ks:=b.stalls) (kg:=b.goods) ok1 okT hFi hNar hA w4 (by omega) R1w w8 (by omega) R2w hE hEm (by omega) hlt q4 q7 q8 q14
    exact .inl ⟨hlt,L3,t3',z1,(z5 4 (by omega)).trans q4,(z5 7 (by omega)).trans q7,(z5 8 (by omega)).trans q8,(z5 10 (by omega)).trans q10,(z5 12 (by omega)).trans q12,z4,z2.mono (by omega),z3⟩
   ·obtain rfl:i=b.goods:=by omega
    have e1:decide ((b.goods:Int)<(b.goods:Int))=false:=by simp
    have t4':=(hE.same t1.n (by omega)).trans w4
    refine .inr ⟨.exit 0,L'.set 86 (.bool false),t,by simp,?_,rfl,by simp only [Env.find_set,q4,reduceIte,Nat.reduceEqDiff],by simp only [Env.find_set,q7,reduceIte,Nat.reduceEqDiff],by simp only [Env.find_set,q8,reduceIte,Nat.reduceEqDiff],by simp only [Env.find_set,q10,reduceIte,Nat.reduceEqDiff],by simp only [Env.find_set,q12,reduceIte,Nat.reduceEqDiff],hE,hEm⟩
    simp (disch:=first|omega|(with_unfolding_all exact rfl)|(simp only[new_n,put_n,new_m];omega)|(refine put_m_le ?_;simp only[new_m];omega)) only [K6l0,K6r12,Abs.W,reduceIte,Nat.reduceEqDiff,Nat.reduceAdd,decide_true,decide_false,kLoop_def,Nat.reduceSub,List.cons_append,List.nil_append,List.append_nil,List.length_cons,List.length_nil,Env.find_set,q4,q14,t4',e1,Nat.zero_add])
 simp (disch:=first|omega|(with_unfolding_all exact rfl)|(simp only[new_n,put_n,new_m];omega)|(refine put_m_le ?_;simp only[new_m];omega)) only [K6r18,Abs.W,reduceIte,Nat.reduceEqDiff,Nat.reduceAdd,decide_true,decide_false,kLoop_def,Nat.reduceSub,List.cons_append,List.nil_append,List.append_nil,List.length_cons,List.length_nil,Env.find_set]
 generalize hl2:loopN _ rounds _ _ _ _ _=q2
 obtain ⟨e,L3,t9,rfl,rfl⟩:=loop_of hl2
  (fun i L' t=>L'.find 4=.ptr t1.n 0∧L'.find 7=.bool all∧L'.find 8=.ptr t4.n 0∧L'.find 10=.slice bp 0 b.stalls b.stalls false∧L'.find 12=.slice bq 0 b.stalls b.stalls false∧L'.find 21=.int .i64 (i:Int)∧Past w t (2 * b.goods+2 * i)∧t.m≤far)
  (fun e L' t=>e=.exit 2)
  b.stalls (by unfold rounds;omega) ⟨by simp only [Env.find_set,p4,reduceIte,Nat.reduceEqDiff],by simp only [Env.find_set,p7,reduceIte,Nat.reduceEqDiff],by simp only [Env.find_set,p8,reduceIte,Nat.reduceEqDiff],by simp only [Env.find_set,p10,reduceIte,Nat.reduceEqDiff],by simp only [Env.find_set,p12,reduceIte,Nat.reduceEqDiff],by simp only [Env.find_set,reduceIte,Nat.reduceEqDiff];rfl,hP.mono (by omega),hPm⟩
  (fun i L' t hi ⟨q4,q7,q8,q10,q12,q21,hE,hEm⟩=>by
   by_cases hlt:i<b.stalls
   ·obtain ⟨L3,t3',z1,z2,z3,z4,z5⟩:=fnd_stalls n (by omega) cx (S:=b.sales) (T:=auditI b.sales F) (ks:=b.stalls) (kg:=b.goods) (l:=l) ok1 okT hFi hFt hNar hA oks w4 (by omega) R1w w8 (by omega) R2w wbp (by omega) hbq bq1 hE hEm (by omega) hlt q4 q7 q8 q10 q12 q21
    exact .inl ⟨hlt,L3,t3',z1,(z5 4 (by omega)).trans q4,(z5 7 (by omega)).trans q7,(z5 8 (by omega)).trans q8,(z5 10 (by omega)).trans q10,(z5 12 (by omega)).trans q12,z4,z2.mono (by omega),z3⟩
   ·obtain rfl:i=b.stalls:=by omega
    have e1:decide ((b.stalls:Int)<(b.stalls:Int))=false:=by simp
    have t4':=(hE.same t1.n (by omega)).trans w4
    refine .inr ⟨.exit 2,L'.set 145 (.bool false),t,by simp,?_,rfl⟩
    simp (disch:=first|omega|(with_unfolding_all exact rfl)|(simp only[new_n,put_n,new_m];omega)|(refine put_m_le ?_;simp only[new_m];omega)) only [K6l1,K6r19,Abs.W,reduceIte,Nat.reduceEqDiff,Nat.reduceAdd,decide_true,decide_false,kLoop_def,Nat.reduceSub,List.cons_append,List.nil_append,List.append_nil,List.length_cons,List.length_nil,Env.find_set,q4,q21,t4',e1,Nat.zero_add])
 simp (disch:=first|omega|(with_unfolding_all exact rfl)|(simp only[new_n,put_n,new_m];omega)|(refine put_m_le ?_;simp only[new_m];omega)) only [K6r25,res6,Abs.W,reduceIte,Nat.reduceEqDiff,Nat.reduceAdd,decide_true,decide_false,kLoop_def,Nat.reduceSub,List.cons_append,List.nil_append,List.append_nil,List.length_cons,List.length_nil,Env.find_set,knA]
 exact ⟨_,rfl⟩
end Go.Proofs.Ytamlnddeiokbdaa.walk
namespace Go.Proofs.Ytamlnddeiokbdaa.mdie
open Go.RowKit
def Die (b:Nat) (w:World):Prop:=∃ s,w.heap[b]? = some (.cells #[.int .u64 s] 69 (0,0))
theorem Die.old {b:Nat} {w:World} (h:Die b w):(∃ s,w.cell? ⟨b,0,none⟩=some (.int .u64 s))∧w.frozen? ⟨b,0,none⟩=false:=by
 obtain ⟨s,hs⟩:=h
 refine ⟨⟨s,?_⟩,?_⟩
 ·unfold World.cell?;simp [hs]
 ·unfold World.frozen?;simp [hs]
structure Stir (b:Nat) (w w':World):Prop where
 below:Below b w w'
 rest:∀ p:Addr,p.block≠b→p.block<w.heap.size→w'.cell? p=w.cell? p∧w'.frozen? p=w.frozen? p
 die:Die b w'
def Gives (b:Nat) (k:IntKind) (Q:Int→Prop) (w:World) (e:Ending) (w':World):Prop:=∃ r,Q r∧e=.returned (.int k r)∧Stir b w w'
theorem bits_nonneg (op:BinOp) (x y:Int):0≤bits op .u64 x y:=by
 have:=bounds_u64 (wf_bits (k:=.u64) (op:=op) (x:=x) (y:=y))
 exact this.1
theorem Stir.set {b:Nat} {w:World} (h:Die b w) (s:Int):Stir b w (w.setCell ⟨b,0,none⟩ (.int .u64 s)):=by
 obtain ⟨t,ht⟩:=h
 refine ⟨(Below.refl b w).setCell (p:=⟨b,0,none⟩) (Nat.le_refl b) _,fun p hp _=>⟨World.cell?_of_block (Below.heap_setCell _ _ _ _ hp),World.frozen?_of_block (Below.heap_setCell _ _ _ _ hp)⟩,⟨s,?_⟩⟩
 unfold World.setCell
 simp [Array.getElem?_modify,ht]
theorem roll (b:Nat) (w:World) (h:Die b w):Calls Try.prog 30 #[.pointer (some ⟨b,0,none⟩)] w (Gives b .u64 (fun r=>0≤r) w):=by
 have h':=Lib.hid h
 obtain ⟨⟨s,hs⟩,hf⟩:=h.old
 clear h
 go_enter Try.func30,Try.ntmps30
 go_wp2
 go_ret
 exact ⟨_,bits_nonneg _ _ _,rfl,Stir.set h'.out _⟩
theorem Stir.refl {b:Nat} {w:World} (h:Die b w):Stir b w w:=⟨Below.refl _ _,fun _ _ _=>⟨rfl,rfl⟩,h⟩
theorem Stir.trans {b:Nat} {u v w:World} (h:Stir b u v) (k:Stir b v w):Stir b u w :=
 ⟨h.below.trans k.below,fun p hp hb=>⟨(k.rest p hp (Nat.lt_of_lt_of_le hb h.below.size)).1.trans (h.rest p hp hb).1,(k.rest p hp (Nat.lt_of_lt_of_le hb h.below.size)).2.trans (h.rest p hp hb).2⟩,k.die⟩
theorem Die.lt {b:Nat} {w:World} (h:Die b w):b<w.heap.size:=by obtain ⟨⟨s,hs⟩,_⟩:=h.old;exact World.block_lt_of_cell? w _ hs
theorem Stir.drew {b:Nat} {w w':World} (h:Stir b w w'):Stir b w w'.drew:=h.trans ⟨⟨rfl,rfl,rfl,Nat.le_refl _,fun _ _=>rfl⟩,fun _ _ _=>⟨rfl,rfl⟩,h.die⟩
def Born (w:World) (e:Ending) (w':World):Prop:=e=.returned (.pointer (some ⟨w.heap.size,0,none⟩))∧Below w.heap.size w w'∧Die w.heap.size w'∧w.heap.size<w'.heap.size
theorem Die.born (w:World) (s:Int):Die w.heap.size (w.alloc (.cells #[.int .u64 s] 69)):=⟨s,by show (w.heap.push _)[w.heap.size]? = _;rw [Array.getElem?_push,if_pos rfl]⟩
set_option maxRecDepth 100000 in
theorem born (x:Option Addr) (n c:Nat) (w:World) (hn:n≤maxLen) (hc:∀ i,i<n→∃ b o,x=some ⟨b,o,none⟩∧∃ v,w.cell? ⟨b,o+i,none⟩=some (.int .i64 v)) :
  Calls Try.prog 9 #[.slice x n c] w (Born w):=by
 unfold maxLen at hn
 have HC:=Lib.hid hc
 clear hc
 have hdie:=Lib.hid (Die.born w 2611923443488327891)
 go_enter Try.func9,Try.ntmps9
 go_wp2
 go_loopw [4] (fun i wr=>∃ k:Nat,k≤n∧i=.int .i64 k∧Stir w.heap.size (w.alloc (.cells #[.int .u64 2611923443488327891] 69)) wr) (fun i _=>n - (intOf i).toNat)
 case atStart=>exact ⟨0,Nat.zero_le _,rfl,Stir.refl hdie.out⟩
 case round =>
  obtain ⟨k,hk,rfl,hs⟩:=hrel
  by_cases hlt:k<n
  ·obtain ⟨b,o,rfl,v,hv⟩:=HC.out k hlt
   have hb:=World.block_lt_of_cell? _ _ hv
   simp only at hb
   have hv1:wr.cell? ⟨b,o+k,none⟩=some (.int .i64 v):=((hs.rest ⟨b,o+k,none⟩ (Nat.ne_of_lt hb) (by simp;omega)).1.trans (World.cell?_of_block (Below.heap_alloc _ _ _ hb))).trans hv
   clear hv
   obtain ⟨⟨s,hd⟩,hf⟩:=hs.die.old
   have hst:=Lib.hid (fun s1:Int=>(hs.drew).trans (Stir.set hs.drew.die s1))
   have hlt':(k:Int)<(n:Int):=by omega
   have hk0:(0:Int)≤(k:Int):=by omega
   go_wp2
   go_still_tail 12,(by kernel_rfl)
   change wpList _ _ _ _ _ wr.drew
   go_wp2_with (go_at_call 30;refine (roll _ _ ?_).mono ?_;exact (hst.out _).die;rintro e w1 ⟨r,hr,rfl,hs1⟩;(have hs2:=(hst.out _).trans hs1))
   go_roundw
   case rel=>exact ⟨k+1,by omega,by go_num,hs2⟩
   case measure=>simp [intOf];omega
  ·go_wp2
   go_ret
   exact ⟨rfl,((Below.refl w.heap.size w).alloc (Nat.le_refl _) _).trans hs.below,hs.die,by have:=hs.below.size;simp at this;omega⟩
end Go.Proofs.Ytamlnddeiokbdaa.mdie
namespace Go.Abs
open Go.RowKit
variable {P:Program}
theorem mid_calls {cl:CallF} (hc:CallSound P cl) {f:FuncId} {fn:Func} (hf:P.funcs[f]? = some fn) {c0 c1 rest:Code} (hb:fn.body=some (.seq c0 (.seq c1 rest))) {X:FuncId→List Nat} {k:K} {A:Array Value} {W:World} {R:Ending→World→Prop}
  (h:c0.wp P (Exit.then (fun a w=>c1.wp P (Exit.then (fun a w=>∃ ρ L s v s',ActRel ρ fn.ntmps L [] a∧Clean (X f) L∧SRel ρ s w∧finA P fn (k cl ⟨f,none,fn.ntmps,X f⟩ L [] s)=.val v s'∧∀ ρ' V W',After ρ s w ρ' s' W'→VRel ρ' v V→R (.returned V) W') fun _ _ _=>False) a w) fun _ _ _=>False)
   { tmps:=A++Array.replicate (fn.ntmps - A.size) undef,defers:=[] } W)
  (hk:codeK P (X f) fn.ntmps rest=some k):Calls P f A W R:=by
 intro cs
 obtain ⟨b,hbd⟩:∃ b:Frame,b={ (default:Frame) with fn:=f,kind:=.normal }:=⟨_,rfl⟩
 have hr:b.roundOf=none:=by rw [hbd];rfl
 have henter:Frame.enter P f A .normal=b.at { tmps:=A++Array.replicate (fn.ntmps - A.size) undef,defers:=[] } [.code (.seq c0 (.seq c1 rest))]:=by
  rw [hbd];simp [Frame.enter,Frame.at,hf,hb]
 obtain ⟨e0,a0,w0,q0,ar0⟩:=h b [.code (.seq c1 rest)] cs
 cases e0<;>simp only [Exit.then] at q0
 obtain ⟨e1,a1,w1,q1,ar1⟩:=q0 b [.code rest] cs
 cases e1<;>simp only [Exit.then] at q1
 obtain ⟨ρ,L,s,v,s',hact,hclean,hs,hfin,hR⟩:=q1
 have st1:Steps P (lone (Frame.enter P f A .normal) cs W) (lone (b.atR a1 [.code rest]) cs w1):=by
  rw [henter,Frame.atR_of_none hr]
  exact (Steps.head step_seq ar0).trans (Steps.head step_seq ar1)
 have hctx:CtxRel ρ ⟨f,none,fn.ntmps,X f⟩ b:=⟨by rw [hbd],by rw [hbd],fun _=>hr,fun l e=>by cases e⟩
 generalize hr2:k cl ⟨f,none,fn.ntmps,X f⟩ L [] s=r at hfin
 cases r with
 | fail=>cases hfin
 | done e L1 d s₁ =>
  obtain ⟨ρ₁,a₁,W₁,af,ha₁,_,_,st⟩:=codeK_sound rest hk hc rfl rfl hctx hact hclean hs hr2
  have fin:∀ (hle:leaveA P fn.results.toList L1 d s₁=.val v s') (hst:∃ t,Steps P (lone (Frame.enter P f A .normal) cs W) (lone (back b a₁ t) cs W₁)),
    ∃ V w' fr,R (.returned V) w'∧Steps P (lone (Frame.enter P f A .normal) cs W) (lone fr cs w')∧fr.fn=f∧fr.leaving P w' (.returned V):=by
   intro hle hst
   obtain ⟨V,W₂,af₂,hv,st₂⟩:=leaveA_calls ha₁ af.rel hle
   obtain ⟨t,st₁⟩:=hst
   obtain ⟨fr,h1,h2,h3⟩:=st₂ b (by rw [hbd]) (by rw [hbd];exact hf) t cs
   exact ⟨V,W₂,fr,hR _ _ _ (af.trans af₂) hv,Steps.trans st₁ h1,by rw [h2,hbd],h3⟩
  cases e with
  | exit id=>cases hfin
  | norm =>
   have z:=st [] cs
   obtain ⟨V,w',fr,h1,h2,h3,h4⟩:=fin hfin ⟨[],st1.trans (Steps.trans z (.one (stepR_end hr)))⟩
   exact ⟨.returned V,w',fr,h1,h2,h3,h4⟩
  | ret =>
   obtain ⟨k0,z⟩:=st [] cs
   obtain ⟨V,w',fr,h1,h2,h3,h4⟩:=fin hfin ⟨.code .ret::k0,st1.trans (z.trans (.one (stepR_ret hr)))⟩
   exact ⟨.returned V,w',fr,h1,h2,h3,h4⟩
end Go.Abs
set_option maxRecDepth 10000
namespace Go.Proofs.Ytamlnddeiokbdaa.walk
open Go.Abs Go.RowKit Go.Proofs.Ytamlnddeiokbdaa.code
noncomputable def die0 (F:Int):St:=St.new ⟨.nil,0,far⟩ (.cells [.int .u64 F] (tag 69))
def rho0 (d:Nat):Rho:=fun b=>if b=0 then some (d,(0,0)) else none
theorem die0_get {F:Int} {b:Nat} {o:AObj} (h:(die0 F).h.get b=some o):b=0∧o=.cells [.int .u64 F] (tag 69):=by
 by_cases e:b=0
 ·subst e
  have:(die0 F).h.get 0=some (.cells [.int .u64 F] (tag 69)):=get_new_eq _ _ _ rfl (by decide)
  rw [this] at h
  exact ⟨rfl,(Option.some.inj h).symm⟩
 ·unfold die0 at h
  rw [get_new_ne _ _ _ e] at h
  cases h
theorem die0_has {F:Int} {b x:Nat} {o:AObj} (h:Has (die0 F).h b x o):b=0∧x=0∧o=.cells [.int .u64 F] (tag 69):=by
 obtain ⟨y,hy,hp⟩:=h
 obtain ⟨rfl,rfl⟩:=die0_get hy
 have hl:AObj.lone (.cells [.int .u64 F] (tag 69)):=trivial
 rw [parts_lone hl] at hp
 have:=List.mem_singleton.mp hp
 cases this
 exact ⟨rfl,rfl,rfl⟩
theorem die0_rel {F:Int} {d:Nat} {W:World} (h:W.heap[d]? = some (.cells #[.int .u64 F] 69 (0,0))):SRel (rho0 d) (die0 F) W:=by
 refine ⟨⟨fun b o hb=>?_,fun b x o hb=>?_,fun b b' x x' o o' c e e' hb hb' _ _=>?_,fun g cs hg=>(by cases hg),fun b x o c e hb hr=>rfl,fun b x x' o o' c e e' hb hb' hr hr'=>?_⟩,fun b hb=>?_⟩
 ·rw [(die0_get hb).1];decide
 ·obtain ⟨rfl,rfl,rfl⟩:=die0_has hb
  exact ⟨d,(0,0),_,if_pos rfl,h,.cells rfl (.cons (.int _ _) .nil) (Typed.tag _)⟩
 ·rw [(die0_has hb).1,(die0_has hb').1]
 ·obtain ⟨_,rfl,_⟩:=die0_has hb
  obtain ⟨_,rfl,_⟩:=die0_has hb'
  rw [hr] at hr'
  cases hr'
  rfl
 ·have:1≤b:=hb
  exact if_neg (by omega)
end Go.Proofs.Ytamlnddeiokbdaa.walk
set_option maxRecDepth 10000
namespace Go.Proofs.Ytamlnddeiokbdaa.walk
open Go.Abs Go.RowKit Go.Proofs.Ytamlnddeiokbdaa.code
set_option maxRecDepth 100000 in
theorem pfd_calls (a:Option Addr) (n c:Nat) (w:World) (hn:n≤maxLen) (hc:∀ i,i<n→∃ b o,a=some ⟨b,o,none⟩∧∃ v,w.cell? ⟨b,o+i,none⟩=some (.int .i64 v)) :
  Calls Try.prog 6 #[.slice a n c] w fun e w'=>e=.returned (.bool true)∧Below w.heap.size w w':=by
 have HC:=Lib.hid hc
 clear hc
 refine mid_calls (cl:=knows 20 (call Try.prog X 20)) (knows_sound (call_sound 200) Try.func20 awake.entered (call_sound 20)) Try.func6 rfl (X:=X) (k:=fndRest) ?_ (by kernel_rfl)
 simp only [Try.ntmps6,List.size_toArray,List.length_cons,List.length_nil,Nat.reduceAdd,Nat.reduceSub,Array.replicate_succ,Array.replicate_zero,List.push_toArray,List.append_toArray,List.nil_append,List.cons_append]
 go_wp2_with (go_at_call 9;((with_reducible refine (mdie.born _ _ _ _ hn HC.out).mono ?_);rintro e w1 ⟨rfl,hB1,⟨F,hF⟩,hg1⟩))
 have hd0:walk.Die 0 (die0 F).h:=⟨F,get_new_eq _ _ _ rfl (by decide)⟩
 obtain ⟨s',hs'⟩:=fnd_body 20 (by omega) ⟨6,none,Try.f6.ntmps,X 6⟩ (die0 F) 0 hd0 (by show 0<1;omega) (by show 1+9000000≤1000000000;omega) rfl
 refine ⟨rho0 w.heap.size,.cons 3 (.ptr 0 0) .nil,die0 F,.bool true,s',⟨fun t=>?_,rfl,.nil⟩,fun t ht=>?_,die0_rel hF,hs',fun ρ' V W' af hv=>?_⟩
 ·by_cases e:t=3
  ·subst e
   exact .ptr (e:=(0,0)) (if_pos rfl)
  ·rw [show (Env.cons 3 (.ptr 0 0) .nil).find t=AV.bad by rw [find_cons,if_neg (by omega)];rfl]
   exact .bad _
 ·by_cases e:t=3
  ·subst e
   have hx:(X 6).contains 3=true:=by kernel_rfl
   rw [hx] at ht
   cases ht
  ·rw [find_cons,if_neg (by omega)];rfl
 ·cases hv
  refine ⟨rfl,hB1.trans ⟨af.os,af.tape,af.output,af.size,fun k hk=>af.frame k (by omega) fun b x o e hb hr=>?_⟩⟩
  obtain ⟨_,rfl,_⟩:=die0_has hb
  have hr:some (w.heap.size,(0,0))=some (k,e):=hr
  injection hr with hr
  injection hr with hr _
  omega
end Go.Proofs.Ytamlnddeiokbdaa.walk
