/- The law VaultEnds, behind its die: its body. -/
import Derived.Test.YtoklbkgcclkejaaM6
import Derived.Test.YtoklbkgcclkejaaProg
import Derived.Tactics
import Derived.Tactics2
import Derived.WalkKit
import Derived.OpenShut
import Derived.Below
import Derived.Lib.Hide
import Derived.KernelRfl
import Derived.Deep.RegionHeld3
import Derived.OwnWalk
import Derived.StillTailTactics
import Derived.Test.YtoklbkgcclkejaaAbsTop
import Derived.Test.YtoklbkgcclkejaaAbsWalk
import Derived.Test.YtoklbkgcclkejaaAwake
import Derived.Test.YtoklbkgcclkejaaWalkAll
set_option linter.unusedSimpArgs false
set_option linter.unusedVariables false
set_option maxHeartbeats 16000000
set_option linter.unusedVariables false
set_option maxRecDepth 10000
namespace Go.Proofs.Ytoklbkgcclkejaa.walk
open Go.Abs Go.Proofs.Ytoklbkgcclkejaa.code
noncomputable def venRest:K:=(kSeq (kRegion K4r2 [4]) (kSeq (kRegion K4r3 [5]) (kSeq (kRegion K4r4 [6,7]) (kSeq (kSeq (kRegion K4r5 [8]) (kBlock 0 (kLoop K4l0))) (kSeq (kRegionD K4r9 [9,10]) (kSeq (kRegion K4r10 [11,12]) (kSeq (kRegion K4r11 [13,14]) (kSeq (kSeq (kRegion K4r12 [89]) (kCond (.tmp 89) (kSeq (kRegion K4r13 [2]) kRet) kSkip)) (kSeq (kSeq (kRegion K4r14 [15]) (kBlock 2 (kLoop K4l1))) (kSeq (kRegion K4r19 [2]) kRet))))))))))
theorem lowL_len (H:HallR) (l:List PutR):(H.lowL l).length=l.length:=by unfold HallR.lowL;rw [List.length_map]
theorem highL_len (H:HallR) (l:List PutR):(H.highL l).length=l.length:=by unfold HallR.highL;rw [List.length_map]
theorem ven_end (n:Nat) (hn:20≤n) (cx:Ctx) {s:St} {no:Nat→Prop} {p4 bl bh:Nat} {H:HallR} {vW vS vB vK:AV} {l:List PutR} {L:Env} (ok:H.Ok) (hl:∀ q ∈ l,q.In H) (hH:HallAt no s.h s.n H vW vS vB vK) (g4:s.h.get p4=some (.cells (hallV H vW vS vB vK) (tag 30))) (hbl:bl<s.n) (gl:s.h.get bl=some (.cells (carC H l (H.lowL l)) 0)) (hbh:bh<s.n) (gh:s.h.get bh=some (.cells (carC H l (H.highL l)) 0)) (hs:s.n+1000≤far)
  (q4:L.find 4=.ptr p4 0) (q9:L.find 9=.slice bl 0 H.bays H.bays false) (q10:L.find 10=.slice bh 0 H.bays H.bays false) (q13:L.find 13=.int .i64 (H.verdict l)) :
  finA Try.prog Try.f4 (thenK (regR [2] L [] (K4r19 (awd n) L s)) (kRet (awd n) cx))=.val (.bool true) s:=by
 have hf:far=1000000000:=rfl
 have knB:∀ args s,awd n (.fn 18) args s=call Try.prog X n (.fn 18) args s:=fun _ _=>rfl
 have knA:∀ s,awd n (.fn 19) [] s=.val (.bool true) s:=fun _=>rfl
 have okM:∀ b t,okA (.val (.slice b 0 H.bays H.bays false) t)=.val (.slice b 0 H.bays H.bays false) t:=fun _ _=>rfl
 obtain ⟨ih,hih⟩:=bears_dec H (fun b=>tot (H.trues l (H.highL l)) b)
 obtain ⟨il,hil⟩:=bears_dec H (fun b=>tot (H.trues l (H.lowL l)) b)
 have eh:call Try.prog X n (.fn 18) [.agg (hallV H vW vS vB vK),.slice bh 0 H.bays H.bays false] s=.val (.bool ih) s:=borne_ok n (by omega) ok hH.b hbh ⟨_,gh,fun b hb=>carC_at H l _ hb⟩ ih hih (by omega)
 have el:call Try.prog X n (.fn 18) [.agg (hallV H vW vS vB vK),.slice bl 0 H.bays H.bays false] s=.val (.bool il) s:=borne_ok n (by omega) ok hH.b hbl ⟨_,gl,fun b hb=>carC_at H l _ hb⟩ il hil (by omega)
 rw [trues_high] at hih
 rw [trues_low] at hil
 have d1:decide (H.verdict l=1)=ih:=by
  have:=sure_iff ok hl
  cases ih with
  | true=>exact decide_eq_true (this.mpr (hih.mp rfl))
  | false=>exact decide_eq_false fun h=>by cases hih.mpr (this.mp h)
 have d2:decide (H.verdict l=2)=!il:=by
  have:=never_iff (H:=H) (l:=l)
  cases il with
  | true=>exact decide_eq_false fun h=>this.mp h (hil.mp rfl)
  | false=>exact decide_eq_true (this.mpr fun h=>by cases hil.mpr h)
 have be:∀ b:Bool,(b == b)=true:=fun b=>by cases b<;>rfl
 have y8:=fun cl L s=>congrFun (congrFun (congrFun K4r19s8.eq_1 cl) L) s
 have y9:=fun cl L s=>congrFun (congrFun (congrFun K4r19s9.eq_1 cl) L) s
 have y10:=fun cl L s=>congrFun (congrFun (congrFun K4r19s10.eq_1 cl) L) s
 have y11:=fun cl L s=>congrFun (congrFun (congrFun K4r19s11.eq_1 cl) L) s
 have y12:=fun cl L s=>congrFun (congrFun (congrFun K4r19s12.eq_1 cl) L) s
 have y13:=fun cl L s=>congrFun (congrFun (congrFun K4r19s13.eq_1 cl) L) s
 have y14:=fun cl L s=>congrFun (congrFun (congrFun K4r19s14.eq_1 cl) L) s
 have y17:=fun cl L s=>congrFun (congrFun (congrFun K4r19s17.eq_1 cl) L) s
 simp (disch:=first|omega|(with_unfolding_all exact rfl)|(simp only[new_n,put_n,new_m];omega)|(refine put_m_le ?_;simp only[new_m];omega)) only [K4r19,kEqlE,y8,y9,y10,y11,y12,y13,y14,y17,res4,Abs.W,reduceIte,Nat.reduceEqDiff,Nat.reduceAdd,decide_true,decide_false,kLoop_def,Nat.reduceSub,List.cons_append,List.nil_append,List.append_nil,List.length_cons,List.length_nil,Env.find_set,find_cons,q4,q9,q10,q13,g4,okM,knB,eh,el,d1,d2,eql_bool,be,knA,Nat.zero_add]
theorem ven_body (n:Nat) (hn:20≤n) (cx:Ctx) (s:St) (d:Nat) (hd:Die d s.h) (hdn:d<s.n) (hs:s.n+900000000≤far) (hm:s.m=far) :
  ∃ s',finA Try.prog Try.f4 (venRest (awd n) cx (.cons 3 (.ptr d 0) .nil) [] s)=.val (.bool true) s':=by
 have hf:far=1000000000:=rfl
 have knH:∀ args s,awd n (.fn 11) args s=call Try.prog X n (.fn 11) args s:=fun _ _=>rfl
 have knL:∀ args s,awd n (.fn 12) args s=call Try.prog X n (.fn 12) args s:=fun _ _=>rfl
 have knC:∀ args s,awd n (.fn 15) args s=call Try.prog X n (.fn 15) args s:=fun _ _=>rfl
 have knO:∀ args s,awd n (.fn 13) args s=call Try.prog X n (.fn 13) args s:=fun _ _=>rfl
 have knB:∀ args s,awd n (.fn 14) args s=call Try.prog X n (.fn 14) args s:=fun _ _=>rfl
 have knS:∀ args s,awd n (.fn 20) args s=call Try.prog X n (.fn 20) args s:=fun _ _=>rfl
 have ex0:∀ (a b:AV) (s:St),extA 0 s (.tup [a,b])=.val a s:=fun _ _ _=>rfl
 have ex1:∀ (a b:AV) (s:St),extA 1 s (.tup [a,b])=.val b s:=fun _ _ _=>rfl
 have okt:∀ (a b:AV) (s:St),okA (.val (.tup [a,b]) s)=.val (.tup [a,b]) s:=fun _ _ _=>rfl
 have w4:=fun cl L s=>congrFun (congrFun (congrFun K4r12s4.eq_1 cl) L) s
 have w5:=fun cl L s=>congrFun (congrFun (congrFun K4r12s5.eq_1 cl) L) s
 have w8:=fun cl L s=>congrFun (congrFun (congrFun K4r12s8.eq_1 cl) L) s
 have w9:=fun cl L s=>congrFun (congrFun (congrFun K4r12s9.eq_1 cl) L) s
 have w10:=fun cl L s=>congrFun (congrFun (congrFun K4r12s10.eq_1 cl) L) s
 have w11:=fun cl L s=>congrFun (congrFun (congrFun K4r12s11.eq_1 cl) L) s
 have w12:=fun cl L s=>congrFun (congrFun (congrFun K4r12s12.eq_1 cl) L) s
 unfold venRest
 simp (disch:=first|omega|(with_unfolding_all exact rfl)|(simp only[new_n,put_n,new_m];omega)|(refine put_m_le ?_;simp only[new_m];omega)) only [K4r2,Abs.W,reduceIte,Nat.reduceEqDiff,Nat.reduceAdd,decide_true,decide_false,kLoop_def,Nat.reduceSub,List.cons_append,List.nil_append,List.append_nil,List.length_cons,List.length_nil,Env.find_set,find_cons,knH]
 generalize hc1:call _ _ _ (.fn 11) _ _=r1
 obtain ⟨H,vW,vS,vB,vK,t1,rfl,st1,d1,ok,hH,_⟩:=hallOf_ex (W:=5) (D:=3) (K:=3) hc1 (by omega) hd hdn (by omega) (by omega) (by omega) (by omega)
 have n1:=st1.n
 have k1:=st1.le
 have m1:=st1.m (by omega)
 have scB:=hH.scal
 have kW:=hH.w.okA
 have kS:=hH.s.okA
 have kB:=hH.b.okA
 have kK:=hH.k.okA
 have okh:∀ t,okA (.val (.agg (hallV H vW vS vB vK)) t)=.val (.agg (hallV H vW vS vB vK)) t:=fun _=>rfl
 obtain ⟨y,hy⟩:∃ y:St,y=(t1.new (.cells [.int .i64 0,.int .i64 0,.nilslice,.nilslice,.int .i64 0,.int .i64 0,.nilslice,.nilslice] (tag 30))).put t1.n (.cells (hallV H vW vS vB vK) (tag 30)):=⟨_,rfl⟩
 have sty:storeA 8 (t1.new (.cells [.int .i64 0,.int .i64 0,.nilslice,.nilslice,.int .i64 0,.int .i64 0,.nilslice,.nilslice] (tag 30))) (.agg (hallV H vW vS vB vK)) (.ptr t1.n 0)=.val .undef y:=by
  rw [hy];exact store_all _ 8 _ _ _ _ (get_new_eq _ _ _ rfl (by omega)) rfl rfl scB
 have yn:y.n=t1.n+1:=by rw [hy];rfl
 have ym:y.m=min t1.m t1.n:=by rw [hy];simp only [St.put,minN_eq,new_m]
 have yg:∀ c,c<t1.n→y.h.get c=t1.h.get c:=fun c hc=>by rw [hy,get_put_ne' _ _ _ _ (by omega),get_new_ne _ _ _ (by omega)]
 have y4:y.h.get t1.n=some (.cells (hallV H vW vS vB vK) (tag 30)):=by rw [hy];exact get_put_eq _ _ _ _ rfl (by omega)
 have dy:Die d y.h:=d1.keep (yg d (by omega))
 have hHy:HallAt (fun c=>c≠d) y.h y.n H vW vS vB vK:=hH.move (fun c h1 h2=>⟨yg c h1,by have h3:s.n≤c:=h2;omega⟩) (by omega)
 clear hy
 have m1l:=st1.mle
 simp (disch:=first|omega|(with_unfolding_all exact rfl)|(simp only[new_n,put_n,new_m];omega)|(refine put_m_le ?_;simp only[new_m];omega)) only [sty,K4r3,Abs.W,reduceIte,Nat.reduceEqDiff,Nat.reduceAdd,decide_true,decide_false,kLoop_def,Nat.reduceSub,List.cons_append,List.nil_append,List.append_nil,List.length_cons,List.length_nil,Env.find_set,find_cons,y4,okh,knL,Nat.zero_add]
 generalize hc2:call _ _ _ (.fn 12) _ _=r2
 obtain ⟨l,v,t2,rfl,st2,d2,hv,hin,hl8,hR⟩:=layoutOf_ex (most:=8) hc2 (by omega) dy (by omega) ok hHy (by omega) (by omega)
 have n2:=st2.n
 have k2:=st2.le
 have m2:=st2.m (by omega)
 have m2l:=st2.mle
 have kv:=hR.okA
 have z4:=(st2.same t1.n (by omega) (by omega)).trans y4
 have hH2:HallAt (fun c=>c≠d) t2.h t2.n H vW vS vB vK:=hHy.move (fun c h1 h2=>⟨st2.same c h1 h2,h2⟩) n2
 have hR2:Sl (fun c=>c≠d) t2.h t2.n 3 (l.map PutR.row) v:=hR.move (fun c h1 h2=>⟨rfl,by have h3:y.n≤c:=h2;omega⟩) (Nat.le_refl _)
 simp (disch:=first|omega|(with_unfolding_all exact rfl)|(simp only[new_n,put_n,new_m];omega)|(refine put_m_le ?_;simp only[new_m];omega)) only [K4r4,K4r5,Abs.W,reduceIte,Nat.reduceEqDiff,Nat.reduceAdd,decide_true,decide_false,kLoop_def,Nat.reduceSub,List.cons_append,List.nil_append,List.append_nil,List.length_cons,List.length_nil,Env.find_set,find_cons,kv]
 generalize hlp:loopN _ rounds _ _ _ _ _=rl
 have J0:EndJ t2 t2 H l 0 .nilslice .nilslice (far+1) (far+2):=⟨IsAt.nil _ _ _ _ _,IsAt.nil _ _ _ _ _,⟨by omega,by omega,by omega,.inr (by omega),.inr (by omega)⟩,fun _ _=>rfl,Nat.le_refl _,by omega,by omega⟩
 obtain ⟨eE,L1,t3,rfl,rfl,vl,vh,b1,b2,J,q3,q4,q5,q6,q7⟩:=loop_of hlp (fun i L' t'=>∃ vl vh b1 b2,EndJ t2 t' H l i vl vh b1 b2∧L'.find 3=.ptr d 0∧L'.find 4=.ptr t1.n 0∧L'.find 5=v∧L'.find 6=vl∧L'.find 7=vh∧L'.find 8=.int .i64 (i:Int))
  (fun e L' t'=>e=.exit 0∧∃ vl vh b1 b2,EndJ t2 t' H l l.length vl vh b1 b2∧L'.find 3=.ptr d 0∧L'.find 4=.ptr t1.n 0∧L'.find 5=v∧L'.find 6=vl∧L'.find 7=vh) l.length (by unfold rounds;omega)
  ⟨_,_,_,_,J0,(by simp only [find_cons,Env.find_set,reduceIte,Nat.reduceEqDiff]),(by simp only [find_cons,Env.find_set,reduceIte,Nat.reduceEqDiff]),(by simp only [find_cons,Env.find_set,reduceIte,Nat.reduceEqDiff]),(by simp only [find_cons,Env.find_set,reduceIte,Nat.reduceEqDiff]),(by simp only [find_cons,Env.find_set,reduceIte,Nat.reduceEqDiff]),(by simp only [find_cons,Env.find_set,reduceIte,Nat.reduceEqDiff];rfl)⟩
  (fun i L' t' hi ⟨vl,vh,b1,b2,J,q3,q4,q5,q6,q7,q8⟩=>by
   by_cases hlt:i<l.length
   ·obtain ⟨L1,t1',w1,w2,c1,c2,k1,k2,k3,k4,k5,k6,k7,k8⟩:=end_round (awd n) cx J hH2.k hR2 hin (by omega) z4 (by omega) hlt (by omega) q4 q5 q6 q7 q8
    exact .inl ⟨hlt,L1,t1',k1,w1,w2,c1,c2,k2,k3.trans q3,k4,k5,k6,k7,k8⟩
   ·obtain rfl:i=l.length:=by omega
    have e0:decide ((l.length:Int)<(l.length:Int))=false:=by simp
    have lv:=slPuts hR2
    have kv:=hR2.okA
    refine .inr ⟨.exit 0,L'.set 26 (.bool false),t',by simp,?_,rfl,vl,vh,b1,b2,J,?_,?_,?_,?_,?_⟩
    ·simp (disch:=first|omega|(with_unfolding_all exact rfl)|(simp only[new_n,put_n,new_m];omega)|(refine put_m_le ?_;simp only[new_m];omega)) only [K4l0,K4r6,Abs.W,reduceIte,Nat.reduceEqDiff,Nat.reduceAdd,decide_true,decide_false,kLoop_def,Nat.reduceSub,List.cons_append,List.nil_append,List.append_nil,List.length_cons,List.length_nil,Env.find_set,q5,q8,kv,lv,e0]
    ·simp only [Env.find_set,q3,reduceIte,Nat.reduceEqDiff]
    ·simp only [Env.find_set,q4,reduceIte,Nat.reduceEqDiff]
    ·simp only [Env.find_set,q5,reduceIte,Nat.reduceEqDiff]
    ·simp only [Env.find_set,q6,reduceIte,Nat.reduceEqDiff]
    ·simp only [Env.find_set,q7,reduceIte,Nat.reduceEqDiff])
 obtain ⟨j1,j2,jlo,jsame,jn,jle,jm⟩:=J
 rw [List.take_length] at j1 j2
 have hl24:l.length≤24:=by omega
 have z43:=(jsame t1.n (by omega)).trans z4
 have hH3:HallAt (fun c=>c≠d) t3.h t3.n H vW vS vB vK:=hH2.grow jsame jn
 have hR3:Sl (fun c=>c≠d) t3.h t3.n 3 (l.map PutR.row) v:=hR2.grow jsame jn
 have hQl:Sl (fun c=>c≠d) t3.h t3.n 1 (intRows (H.lowL l)) vl:=Sl.of_at j1 fun _=>by omega
 have hQh:Sl (fun c=>c≠d) t3.h t3.n 1 (intRows (H.highL l)) vh:=Sl.of_at j2 fun _=>by omega
 have kl:=hQl.okA
 have kh:=hQh.okA
 simp (disch:=first|omega|(with_unfolding_all exact rfl)|(simp only[new_n,put_n,new_m];omega)|(refine put_m_le ?_;simp only[new_m];omega)) only [K4r9,Abs.W,reduceIte,Nat.reduceEqDiff,Nat.reduceAdd,decide_true,decide_false,kLoop_def,Nat.reduceSub,List.cons_append,List.nil_append,List.append_nil,List.length_cons,List.length_nil,Env.find_set,find_cons,q4,q5,q6,q7,z43,kv,kl,kh,okh,knC,Nat.zero_add]
 generalize hc3:call _ _ _ (.fn 15) _ _=r3
 obtain ⟨t4,bl,rfl,st4,hl1,hl2,hl3⟩:=carried_ex hc3 (by omega) ok hR3 hQl (lowL_len H l) (lowL_bound ok hin) (may_in hv) hl24 (by show t3.n+1000≤far;omega)
 have n4:t3.n≤t4.n:=st4.n
 have k4:t4.n≤t3.n+10:=st4.le
 have m4:t4.m=far:=st4.m
 have g4:∀ c,c<t3.n→t4.h.get c=t3.h.get c:=fun c hc=>st4.same c hc
 have z44:=(g4 t1.n (by omega)).trans z43
 simp (disch:=first|omega|(with_unfolding_all exact rfl)|(simp only[new_n,put_n,new_m];omega)|(refine put_m_le ?_;simp only[new_m];omega)) only [thenT_turn,Abs.W,reduceIte,Nat.reduceEqDiff,Nat.reduceAdd,decide_true,decide_false,kLoop_def,Nat.reduceSub,List.cons_append,List.nil_append,List.append_nil,List.length_cons,List.length_nil,Env.find_set,find_cons,q4,q5,q6,q7,z44,kv,kl,kh,okh,knC,Nat.zero_add]
 obtain ⟨ya,hya⟩:∃ ya:St,ya=⟨t4.h,t4.n,minN t3.m t4.m⟩:=⟨_,rfl⟩
 have yan:ya.n=t4.n:=by rw [hya]
 have yah:ya.h=t4.h:=by rw [hya]
 have yam:ya.m=min t3.m t4.m:=by rw [hya];simp only [minN_eq]
 rw [← hya]
 generalize hc5:call _ _ _ (.fn 15) _ _=r5
 have hRa:Sl (fun c=>c≠d) ya.h ya.n 3 (l.map PutR.row) v:=hR3.grow (fun c h1=>by rw [yah];exact g4 c h1) (by omega)
 have hQa:Sl (fun c=>c≠d) ya.h ya.n 1 (intRows (H.highL l)) vh:=hQh.grow (fun c h1=>by rw [yah];exact g4 c h1) (by omega)
 obtain ⟨t5,bh,rfl,st5,hh1,hh2,hh3⟩:=carried_ex hc5 (by omega) ok hRa hQa (highL_len H l) (highL_bound ok hin) (may_in hv) hl24 (by omega)
 have n5:=st5.n
 have k5:=st5.le
 have m5:=st5.m
 have g5:∀ c,c<t4.n→t5.h.get c=t4.h.get c:=fun c hc=>(st5.same c (by omega)).trans (by rw [yah])
 have okM:∀ b t,okA (.val (.slice b 0 H.bays H.bays false) t)=.val (.slice b 0 H.bays H.bays false) t:=fun _ _=>rfl
 have lX:∀ b s,lenSlA s (.slice b 0 H.bays H.bays false)=.val (.int .i64 (H.bays:Int)) s:=fun _ _=>rfl
 simp (disch:=first|omega|(with_unfolding_all exact rfl)|(simp only[new_n,put_n,new_m];omega)|(refine put_m_le ?_;simp only[new_m];omega)) only [Abs.W,reduceIte,Nat.reduceEqDiff,Nat.reduceAdd,decide_true,decide_false,kLoop_def,Nat.reduceSub,List.cons_append,List.nil_append,List.append_nil,List.length_cons,List.length_nil,Env.find_set,find_cons,okM,Nat.zero_add]
 rw [endT_kept (l:=[4]) (s':=t4) (by simp only [keptAll_cons,keptAll_nil,find_cons,Env.find_set,q4,keptV_ptr,z43,z44,sameO_cells,reduceIte,Nat.reduceEqDiff,Bool.and_self])]
 rw [endO_ok _ (endOk_nil _)]
 have z45:=(g5 t1.n (by omega)).trans z44
 have sm:∀ c,c<t3.n→t5.h.get c=t3.h.get c:=fun c hc=>(g5 c (by omega)).trans (g4 c hc)
 have hH5:=hH3.grow (n':=t5.n) sm (by omega)
 have hR5:=hR3.grow (n':=t5.n) sm (by omega)
 have gl5:=(g5 bl (by omega)).trans hl3
 simp (disch:=first|omega|(with_unfolding_all exact rfl)|(simp only[new_n,put_n,new_m];omega)|(refine put_m_le ?_;simp only[new_m];omega)) only [K4r10,Abs.W,reduceIte,Nat.reduceEqDiff,Nat.reduceAdd,decide_true,decide_false,kLoop_def,Nat.reduceSub,List.cons_append,List.nil_append,List.append_nil,List.length_cons,List.length_nil,Env.find_set,find_cons,q4,q5,z45,kv,okh,knO,Nat.zero_add]
 generalize hc6:call _ _ _ (.fn 13) _ _=r6
 obtain ⟨t6,bx,rfl,st6,hb1,hb2,hb3⟩:=vaultLoads_ex hc6 (by omega) ok hH5 hR5 hin (by omega) hv (by omega)
 have n6:=st6.n
 have k6:=st6.le
 have z46:=(st6.same t1.n (by omega)).trans z45
 have hH6:=hH5.grow st6.same n6
 have hR6:=hR5.grow st6.same n6
 have gl6:=(st6.same bl (by omega)).trans gl5
 have gh6:=(st6.same bh (by omega)).trans hh3
 have ebe:=vaultBears_ok n (by omega) ok hH6 hR6 hin (by omega) hv (by omega)
 have hm6:t6.m≤far:=by have:=st6.m;rw [this,m5,yam];exact Nat.le_trans (Nat.min_le_left _ _) jm
 have z0:decide ((0:Int)=0)=true:=rfl
 have d5:decide ((H.bays:Int)=(H.bays:Int))=true:=decide_eq_true rfl
 simp (disch:=first|omega|(with_unfolding_all exact rfl)|(simp only[new_n,put_n,new_m];omega)|(refine put_m_le ?_;simp only[new_m];omega)) only [K4r11,K4r12,w4,w5,w8,w9,w10,w11,w12,Abs.W,reduceIte,Nat.reduceEqDiff,Nat.reduceAdd,decide_true,decide_false,kLoop_def,Nat.reduceSub,List.cons_append,List.nil_append,List.append_nil,List.length_cons,List.length_nil,Env.find_set,find_cons,q4,q5,ex0,ex1,okt,okM,lX,z46,kv,okh,knB,ebe,z0,d5,Nat.zero_add]
 simp (disch:=first|omega|(with_unfolding_all exact rfl)|(simp only[new_n,put_n,new_m];omega)|(refine put_m_le ?_;simp only[new_m];omega)) only [K4r14,Abs.W,reduceIte,Nat.reduceEqDiff,Nat.reduceAdd,decide_true,decide_false,kLoop_def,Nat.reduceSub,List.cons_append,List.nil_append,List.append_nil,List.length_cons,List.length_nil,Env.find_set,find_cons]
 generalize hL0:Env.set 15 _ _=L0
 have f4:L0.find 4=.ptr t1.n 0:=by rw [← hL0];simp only [Env.find_set,q4,reduceIte,Nat.reduceEqDiff]
 have f9:L0.find 9=.slice bl 0 H.bays H.bays false:=by rw [← hL0];simp only [Env.find_set,reduceIte,Nat.reduceEqDiff]
 have f10:L0.find 10=.slice bh 0 H.bays H.bays false:=by rw [← hL0];simp only [Env.find_set,reduceIte,Nat.reduceEqDiff]
 have f11:L0.find 11=.slice bx 0 H.bays H.bays false:=by rw [← hL0];simp only [Env.find_set,reduceIte,Nat.reduceEqDiff]
 have f13:L0.find 13=.int .i64 (H.verdict l):=by rw [← hL0];simp only [Env.find_set,reduceIte,Nat.reduceEqDiff]
 have f15:L0.find 15=.int .i64 0:=by rw [← hL0];simp only [Env.find_set,reduceIte,Nat.reduceEqDiff]
 clear hL0
 generalize hlp:loopN _ rounds _ _ _ _ _=rl
 obtain ⟨eE,L2,t7,rfl,rfl,rfl,hL2⟩:=loop_of hlp (fun j L' t'=>t'=t6∧(∀ c,c<15→L'.find c=L0.find c)∧L'.find 15=.int .i64 (j:Int))
  (fun e L' t'=>e=.exit 2∧t'=t6∧∀ c,c<15→L'.find c=L0.find c) H.bays (by have:=bays_le ok.toSize;unfold rounds;omega)
  ⟨rfl,fun _ _=>rfl,f15⟩
  (fun j L' t' hj ⟨ht,hc,q15⟩=>by
   subst ht
   have h9:=(hc 9 (by omega)).trans f9
   have h10:=(hc 10 (by omega)).trans f10
   have h11:=(hc 11 (by omega)).trans f11
   have hb24:=bays_le ok.toSize
   by_cases hlt:j<H.bays
   ·have e0:decide ((j:Int)<(H.bays:Int))=true:=decide_eq_true (by omega)
    have ad:∀ s,aAdd s .i64 (j:Int) 1=.val (.int .i64 ((j:Int)+1)) s:=fun s=>aAdd_i64 s _ _ (by omega)
    have hix:∀ s,ixsA 2 s (.slice bx 0 H.bays H.bays false) (.int .i64 (j:Int))=.val (.ptr bx (j * 2)) s:=fun s=>by rw [ixs_slice _ _ _ _ _ _ _ _ hlt,Nat.zero_add]
    have hcut:cut (j * 2) 2 (H.loadRows l).flatten=some [.int .i64 (tot (H.lows l) j),.int .i64 (tot (H.highs l) j)]:=by
     rw [flatten_cut (loadRows_wide H _) (by rw [loadRows_len];exact hlt),loadRows_at H _ hlt];rfl
    have hil:∀ b s,ixsA 1 s (.slice b 0 H.bays H.bays false) (.int .i64 (j:Int))=.val (.ptr b j) s:=fun b s=>by rw [ixs_slice _ _ _ _ _ _ _ _ hlt,Nat.zero_add,Nat.mul_one]
    have hcl:=carC_at H l (H.lowL l) hlt
    have hch:=carC_at H l (H.highL l) hlt
    rw [trues_low] at hcl
    rw [trues_high] at hch
    have es:=fun s hs=>mkSpan_ok n (by omega) (tot (H.lows l) j) (tot (H.highs l) j) s hs
    have eq:=eql_cellN (tot (H.lows l) j,tot (H.highs l) j) (tot (H.lows l) j,tot (H.highs l) j)
    have okq:∀ (a b:Int) t,okA (.val (.agg [.int .i64 a,.int .i64 b]) t)=.val (.agg [.int .i64 a,.int .i64 b]) t:=fun _ _ _=>rfl
    refine .inl ⟨hlt,?_⟩
    simp (disch:=first|omega|(with_unfolding_all exact rfl)|(simp only[new_n,put_n,new_m];omega)|(refine put_m_le ?_;simp only[new_m];omega)) only [K4l1,K4r15,K4r16,K4r18,Abs.W,reduceIte,Nat.reduceEqDiff,Nat.reduceAdd,decide_true,decide_false,kLoop_def,Nat.reduceSub,List.cons_append,List.nil_append,List.append_nil,List.length_cons,List.length_nil,Env.find_set,Nat.zero_add,h9,h10,h11,q15,okM,lX,e0,hix,hb3,hcut,hil,gl6,gh6,hcl,hch,okq,knS]
    have es':=es ⟨t'.h,t'.n,far⟩ (by show t'.n+10≤far;omega)
    have hsame:(⟨t'.h,t'.n,minN t'.m far⟩:St)=t':=by rw [minN_eq,Nat.min_eq_left hm6]
    have tv:∀ ws v d rest cl L,thenT (some ws) (.val v ⟨t'.h,t'.n,far⟩) d rest cl L t'=rest cl (d.put v L) t':=fun ws v d rest cl L=>by
     rw [thenT_val _ _ _ _ _ _ _ _ (by show t'.n≤far;omega)]
     show rest cl (d.put v L) ⟨t'.h,t'.n,minN t'.m far⟩=_
     rw [hsame]
    have eq':eqlA (.row [(0,none,.int),(1,none,.int)]) true t' (.agg [.int .i64 (tot (H.lows l) j),.int .i64 (tot (H.highs l) j)]) (.agg [.int .i64 (tot (H.lows l) j),.int .i64 (tot (H.highs l) j)])=.val (.bool false) t':=by
     have:=eq t'
     rw [decide_eq_true rfl] at this
     exact this
    rw [es']
    simp (disch:=first|omega|(with_unfolding_all exact rfl)|(simp only[new_n,put_n,new_m];omega)|(refine put_m_le ?_;simp only[new_m];omega)) only [tv,Abs.W,reduceIte,Nat.reduceEqDiff,Nat.reduceAdd,decide_true,decide_false,kLoop_def,Nat.reduceSub,List.cons_append,List.nil_append,List.append_nil,List.length_cons,List.length_nil,Env.find_set,find_cons,kEqlE,eq',q15,ad]
    refine ⟨_,_,rfl,rfl,fun c hcc=>?_,?_⟩
    ·simp only [Env.find_set]
     repeat rw [if_neg (by omega)]
     exact hc c hcc
    ·simp only [Env.find_set,reduceIte,Nat.reduceEqDiff];rfl
   ·obtain rfl:j=H.bays:=by omega
    have e0:decide ((H.bays:Int)<(H.bays:Int))=false:=by simp
    refine .inr ⟨.exit 2,L'.set 93 (.bool false),t',by simp,?_,rfl,rfl,fun c hcc=>?_⟩
    ·simp (disch:=first|omega|(with_unfolding_all exact rfl)|(simp only[new_n,put_n,new_m];omega)|(refine put_m_le ?_;simp only[new_m];omega)) only [K4l1,K4r15,Abs.W,reduceIte,Nat.reduceEqDiff,Nat.reduceAdd,decide_true,decide_false,kLoop_def,Nat.reduceSub,List.cons_append,List.nil_append,List.append_nil,List.length_cons,List.length_nil,Env.find_set,h11,q15,okM,lX,e0]
    ·simp only [Env.find_set]
     rw [if_neg (by omega)]
     exact hc c hcc)
 have m4:=(hL2 4 (by omega)).trans f4
 have m9:=(hL2 9 (by omega)).trans f9
 have m10:=(hL2 10 (by omega)).trans f10
 have m13:=(hL2 13 (by omega)).trans f13
 simp (disch:=first|omega|(with_unfolding_all exact rfl)|(simp only[new_n,put_n,new_m];omega)|(refine put_m_le ?_;simp only[new_m];omega)) only [Abs.W,reduceIte,Nat.reduceEqDiff,Nat.reduceAdd,decide_true,decide_false,kLoop_def,Nat.reduceSub,List.cons_append,List.nil_append,List.append_nil,List.length_cons,List.length_nil]
 exact ⟨_,ven_end n hn cx ok hin hH6 z46 (by omega) gl6 (by omega) gh6 (by omega) m4 m9 m10 m13⟩
end Go.Proofs.Ytoklbkgcclkejaa.walk
namespace Go.Proofs.Ytoklbkgcclkejaa.mdie
open Go.RowKit
def Die (b:Nat) (w:World):Prop:=∃ s,w.heap[b]? = some (.cells #[.int .u64 s] 74 (0,0))
theorem Die.old {b:Nat} {w:World} (h:Die b w):(∃ s,w.cell? ⟨b,0,none⟩=some (.int .u64 s))∧w.frozen? ⟨b,0,none⟩=false:=by
 obtain ⟨s,hs⟩:=h
 refine ⟨⟨s,?_⟩,?_⟩
 ·unfold World.cell?;simp [hs]
 ·unfold World.frozen?;simp [hs]
structure Stir (b:Nat) (w w':World):Prop where
 below:Below b w w'
 rest:∀ p:Addr,p.block≠b→p.block<w.heap.size→w'.cell? p=w.cell? p∧w'.frozen? p=w.frozen? p
 die:Die b w'
def Gives (b:Nat) (k:IntKind) (Q:Int→Prop) (w:World) (e:Ending) (w':World):Prop:=∃ r,Q r∧e=.returned (.int k r)∧Stir b w w'
theorem bits_nonneg (op:BinOp) (x y:Int):0≤bits op .u64 x y:=by
 have:=bounds_u64 (wf_bits (k:=.u64) (op:=op) (x:=x) (y:=y))
 exact this.1
theorem Stir.set {b:Nat} {w:World} (h:Die b w) (s:Int):Stir b w (w.setCell ⟨b,0,none⟩ (.int .u64 s)):=by
 obtain ⟨t,ht⟩:=h
 refine ⟨(Below.refl b w).setCell (p:=⟨b,0,none⟩) (Nat.le_refl b) _,fun p hp _=>⟨World.cell?_of_block (Below.heap_setCell _ _ _ _ hp),World.frozen?_of_block (Below.heap_setCell _ _ _ _ hp)⟩,⟨s,?_⟩⟩
 unfold World.setCell
 simp [Array.getElem?_modify,ht]
theorem roll (b:Nat) (w:World) (h:Die b w):Calls Try.prog 39 #[.pointer (some ⟨b,0,none⟩)] w (Gives b .u64 (fun r=>0≤r) w):=by
 have h':=Lib.hid h
 obtain ⟨⟨s,hs⟩,hf⟩:=h.old
 clear h
 go_enter Try.func39,Try.ntmps39
 go_wp2
 go_ret
 exact ⟨_,bits_nonneg _ _ _,rfl,Stir.set h'.out _⟩
theorem Stir.refl {b:Nat} {w:World} (h:Die b w):Stir b w w:=⟨Below.refl _ _,fun _ _ _=>⟨rfl,rfl⟩,h⟩
theorem Stir.trans {b:Nat} {u v w:World} (h:Stir b u v) (k:Stir b v w):Stir b u w :=
 ⟨h.below.trans k.below,fun p hp hb=>⟨(k.rest p hp (Nat.lt_of_lt_of_le hb h.below.size)).1.trans (h.rest p hp hb).1,(k.rest p hp (Nat.lt_of_lt_of_le hb h.below.size)).2.trans (h.rest p hp hb).2⟩,k.die⟩
theorem Die.lt {b:Nat} {w:World} (h:Die b w):b<w.heap.size:=by obtain ⟨⟨s,hs⟩,_⟩:=h.old;exact World.block_lt_of_cell? w _ hs
theorem Stir.drew {b:Nat} {w w':World} (h:Stir b w w'):Stir b w w'.drew:=h.trans ⟨⟨rfl,rfl,rfl,Nat.le_refl _,fun _ _=>rfl⟩,fun _ _ _=>⟨rfl,rfl⟩,h.die⟩
def Born (w:World) (e:Ending) (w':World):Prop:=e=.returned (.pointer (some ⟨w.heap.size,0,none⟩))∧Below w.heap.size w w'∧Die w.heap.size w'∧w.heap.size<w'.heap.size
theorem Die.born (w:World) (s:Int):Die w.heap.size (w.alloc (.cells #[.int .u64 s] 74)):=⟨s,by show (w.heap.push _)[w.heap.size]? = _;rw [Array.getElem?_push,if_pos rfl]⟩
set_option maxRecDepth 100000 in
theorem born (x:Option Addr) (n c:Nat) (w:World) (hn:n≤maxLen) (hc:∀ i,i<n→∃ b o,x=some ⟨b,o,none⟩∧∃ v,w.cell? ⟨b,o+i,none⟩=some (.int .i64 v)) :
  Calls Try.prog 10 #[.slice x n c] w (Born w):=by
 unfold maxLen at hn
 have HC:=Lib.hid hc
 clear hc
 have hdie:=Lib.hid (Die.born w 2611923443488327891)
 go_enter Try.func10,Try.ntmps10
 go_wp2
 go_loopw [4] (fun i wr=>∃ k:Nat,k≤n∧i=.int .i64 k∧Stir w.heap.size (w.alloc (.cells #[.int .u64 2611923443488327891] 74)) wr) (fun i _=>n - (intOf i).toNat)
 case atStart=>exact ⟨0,Nat.zero_le _,rfl,Stir.refl hdie.out⟩
 case round =>
  obtain ⟨k,hk,rfl,hs⟩:=hrel
  by_cases hlt:k<n
  ·obtain ⟨b,o,rfl,v,hv⟩:=HC.out k hlt
   have hb:=World.block_lt_of_cell? _ _ hv
   simp only at hb
   have hv1:wr.cell? ⟨b,o+k,none⟩=some (.int .i64 v):=((hs.rest ⟨b,o+k,none⟩ (Nat.ne_of_lt hb) (by simp;omega)).1.trans (World.cell?_of_block (Below.heap_alloc _ _ _ hb))).trans hv
   clear hv
   obtain ⟨⟨s,hd⟩,hf⟩:=hs.die.old
   have hst:=Lib.hid (fun s1:Int=>(hs.drew).trans (Stir.set hs.drew.die s1))
   have hlt':(k:Int)<(n:Int):=by omega
   have hk0:(0:Int)≤(k:Int):=by omega
   go_wp2
   go_still_tail 12,(by kernel_rfl)
   change wpList _ _ _ _ _ wr.drew
   go_wp2_with (go_at_call 39;refine (roll _ _ ?_).mono ?_;exact (hst.out _).die;rintro e w1 ⟨r,hr,rfl,hs1⟩;(have hs2:=(hst.out _).trans hs1))
   go_roundw
   case rel=>exact ⟨k+1,by omega,by go_num,hs2⟩
   case measure=>simp [intOf];omega
  ·go_wp2
   go_ret
   exact ⟨rfl,((Below.refl w.heap.size w).alloc (Nat.le_refl _) _).trans hs.below,hs.die,by have:=hs.below.size;simp at this;omega⟩
end Go.Proofs.Ytoklbkgcclkejaa.mdie
namespace Go.Abs
open Go.RowKit
variable {P:Program}
theorem mid_calls {cl:CallF} (hc:CallSound P cl) {f:FuncId} {fn:Func} (hf:P.funcs[f]? = some fn) {c0 c1 rest:Code} (hb:fn.body=some (.seq c0 (.seq c1 rest))) {X:FuncId→List Nat} {k:K} {A:Array Value} {W:World} {R:Ending→World→Prop}
  (h:c0.wp P (Exit.then (fun a w=>c1.wp P (Exit.then (fun a w=>∃ ρ L s v s',ActRel ρ fn.ntmps L [] a∧Clean (X f) L∧SRel ρ s w∧finA P fn (k cl ⟨f,none,fn.ntmps,X f⟩ L [] s)=.val v s'∧∀ ρ' V W',After ρ s w ρ' s' W'→VRel ρ' v V→R (.returned V) W') fun _ _ _=>False) a w) fun _ _ _=>False)
   { tmps:=A++Array.replicate (fn.ntmps - A.size) undef,defers:=[] } W)
  (hk:codeK P (X f) fn.ntmps rest=some k):Calls P f A W R:=by
 intro cs
 obtain ⟨b,hbd⟩:∃ b:Frame,b={ (default:Frame) with fn:=f,kind:=.normal }:=⟨_,rfl⟩
 have hr:b.roundOf=none:=by rw [hbd];rfl
 have henter:Frame.enter P f A .normal=b.at { tmps:=A++Array.replicate (fn.ntmps - A.size) undef,defers:=[] } [.code (.seq c0 (.seq c1 rest))]:=by
  rw [hbd];simp [Frame.enter,Frame.at,hf,hb]
 obtain ⟨e0,a0,w0,q0,ar0⟩:=h b [.code (.seq c1 rest)] cs
 cases e0<;>simp only [Exit.then] at q0
 obtain ⟨e1,a1,w1,q1,ar1⟩:=q0 b [.code rest] cs
 cases e1<;>simp only [Exit.then] at q1
 obtain ⟨ρ,L,s,v,s',hact,hclean,hs,hfin,hR⟩:=q1
 have st1:Steps P (lone (Frame.enter P f A .normal) cs W) (lone (b.atR a1 [.code rest]) cs w1):=by
  rw [henter,Frame.atR_of_none hr]
  exact (Steps.head step_seq ar0).trans (Steps.head step_seq ar1)
 have hctx:CtxRel ρ ⟨f,none,fn.ntmps,X f⟩ b:=⟨by rw [hbd],by rw [hbd],fun _=>hr,fun l e=>by cases e⟩
 generalize hr2:k cl ⟨f,none,fn.ntmps,X f⟩ L [] s=r at hfin
 cases r with
 | fail=>cases hfin
 | done e L1 d s₁ =>
  obtain ⟨ρ₁,a₁,W₁,af,ha₁,_,_,st⟩:=codeK_sound rest hk hc rfl rfl hctx hact hclean hs hr2
  have fin:∀ (hle:leaveA P fn.results.toList L1 d s₁=.val v s') (hst:∃ t,Steps P (lone (Frame.enter P f A .normal) cs W) (lone (back b a₁ t) cs W₁)),
    ∃ V w' fr,R (.returned V) w'∧Steps P (lone (Frame.enter P f A .normal) cs W) (lone fr cs w')∧fr.fn=f∧fr.leaving P w' (.returned V):=by
   intro hle hst
   obtain ⟨V,W₂,af₂,hv,st₂⟩:=leaveA_calls ha₁ af.rel hle
   obtain ⟨t,st₁⟩:=hst
   obtain ⟨fr,h1,h2,h3⟩:=st₂ b (by rw [hbd]) (by rw [hbd];exact hf) t cs
   exact ⟨V,W₂,fr,hR _ _ _ (af.trans af₂) hv,Steps.trans st₁ h1,by rw [h2,hbd],h3⟩
  cases e with
  | exit id=>cases hfin
  | norm =>
   have z:=st [] cs
   obtain ⟨V,w',fr,h1,h2,h3,h4⟩:=fin hfin ⟨[],st1.trans (Steps.trans z (.one (stepR_end hr)))⟩
   exact ⟨.returned V,w',fr,h1,h2,h3,h4⟩
  | ret =>
   obtain ⟨k0,z⟩:=st [] cs
   obtain ⟨V,w',fr,h1,h2,h3,h4⟩:=fin hfin ⟨.code .ret::k0,st1.trans (z.trans (.one (stepR_ret hr)))⟩
   exact ⟨.returned V,w',fr,h1,h2,h3,h4⟩
end Go.Abs
set_option maxRecDepth 10000
namespace Go.Proofs.Ytoklbkgcclkejaa.walk
open Go.Abs Go.RowKit Go.Proofs.Ytoklbkgcclkejaa.code
noncomputable def die0 (F:Int):St:=St.new ⟨.nil,0,far⟩ (.cells [.int .u64 F] (tag 74))
def rho0 (d:Nat):Rho:=fun b=>if b=0 then some (d,(0,0)) else none
theorem die0_get {F:Int} {b:Nat} {o:AObj} (h:(die0 F).h.get b=some o):b=0∧o=.cells [.int .u64 F] (tag 74):=by
 by_cases e:b=0
 ·subst e
  have:(die0 F).h.get 0=some (.cells [.int .u64 F] (tag 74)):=get_new_eq _ _ _ rfl (by decide)
  rw [this] at h
  exact ⟨rfl,(Option.some.inj h).symm⟩
 ·unfold die0 at h
  rw [get_new_ne _ _ _ e] at h
  cases h
theorem die0_has {F:Int} {b x:Nat} {o:AObj} (h:Has (die0 F).h b x o):b=0∧x=0∧o=.cells [.int .u64 F] (tag 74):=by
 obtain ⟨y,hy,hp⟩:=h
 obtain ⟨rfl,rfl⟩:=die0_get hy
 have hl:AObj.lone (.cells [.int .u64 F] (tag 74)):=trivial
 rw [parts_lone hl] at hp
 have:=List.mem_singleton.mp hp
 cases this
 exact ⟨rfl,rfl,rfl⟩
theorem die0_rel {F:Int} {d:Nat} {W:World} (h:W.heap[d]? = some (.cells #[.int .u64 F] 74 (0,0))):SRel (rho0 d) (die0 F) W:=by
 refine ⟨⟨fun b o hb=>?_,fun b x o hb=>?_,fun b b' x x' o o' c e e' hb hb' _ _=>?_,fun g cs hg=>(by cases hg),fun b x o c e hb hr=>rfl,fun b x x' o o' c e e' hb hb' hr hr'=>?_⟩,fun b hb=>?_⟩
 ·rw [(die0_get hb).1];decide
 ·obtain ⟨rfl,rfl,rfl⟩:=die0_has hb
  exact ⟨d,(0,0),_,if_pos rfl,h,.cells rfl (.cons (.int _ _) .nil) (Typed.tag _)⟩
 ·rw [(die0_has hb).1,(die0_has hb').1]
 ·obtain ⟨_,rfl,_⟩:=die0_has hb
  obtain ⟨_,rfl,_⟩:=die0_has hb'
  rw [hr] at hr'
  cases hr'
  rfl
 ·have:1≤b:=hb
  exact if_neg (by omega)
end Go.Proofs.Ytoklbkgcclkejaa.walk
set_option maxRecDepth 10000
namespace Go.Proofs.Ytoklbkgcclkejaa.walk
open Go.Abs Go.RowKit Go.Proofs.Ytoklbkgcclkejaa.code
set_option maxRecDepth 100000 in
theorem ven_calls (a:Option Addr) (n c:Nat) (w:World) (hn:n≤maxLen) (hc:∀ i,i<n→∃ b o,a=some ⟨b,o,none⟩∧∃ v,w.cell? ⟨b,o+i,none⟩=some (.int .i64 v)) :
  Calls Try.prog 4 #[.slice a n c] w fun e w'=>e=.returned (.bool true)∧Below w.heap.size w w':=by
 have HC:=Lib.hid hc
 clear hc
 refine mid_calls (cl:=knows 19 (call Try.prog X 20)) (knows_sound (call_sound 200) Try.func19 awake.entered (call_sound 20)) Try.func4 rfl (X:=X) (k:=venRest) ?_ (by kernel_rfl)
 simp only [Try.ntmps4,List.size_toArray,List.length_cons,List.length_nil,Nat.reduceAdd,Nat.reduceSub,Array.replicate_succ,Array.replicate_zero,List.push_toArray,List.append_toArray,List.nil_append,List.cons_append]
 go_wp2_with (go_at_call 10;((with_reducible refine (mdie.born _ _ _ _ hn HC.out).mono ?_);rintro e w1 ⟨rfl,hB1,⟨F,hF⟩,hg1⟩))
 have hd0:walk.Die 0 (die0 F).h:=⟨F,get_new_eq _ _ _ rfl (by decide)⟩
 obtain ⟨s',hs'⟩:=ven_body 20 (by omega) ⟨4,none,Try.f4.ntmps,X 4⟩ (die0 F) 0 hd0 (by show 0<1;omega) (by show 1+900000000≤1000000000;omega) rfl
 refine ⟨rho0 w.heap.size,.cons 3 (.ptr 0 0) .nil,die0 F,.bool true,s',⟨fun t=>?_,rfl,.nil⟩,fun t ht=>?_,die0_rel hF,hs',fun ρ' V W' af hv=>?_⟩
 ·by_cases e:t=3
  ·subst e
   exact .ptr (e:=(0,0)) (if_pos rfl)
  ·rw [show (Env.cons 3 (.ptr 0 0) .nil).find t=AV.bad by rw [find_cons,if_neg (by omega)];rfl]
   exact .bad _
 ·by_cases e:t=3
  ·subst e
   have hx:(X 4).contains 3=true:=by kernel_rfl
   rw [hx] at ht
   cases ht
  ·rw [find_cons,if_neg (by omega)];rfl
 ·cases hv
  refine ⟨rfl,hB1.trans ⟨af.os,af.tape,af.output,af.size,fun k hk=>af.frame k (by omega) fun b x o e hb hr=>?_⟩⟩
  obtain ⟨_,rfl,_⟩:=die0_has hb
  have hr:some (w.heap.size,(0,0))=some (k,e):=hr
  injection hr with hr
  injection hr with hr _
  omega
end Go.Proofs.Ytoklbkgcclkejaa.walk
