/- What the statement's own answers say that bays carry. -/
import Derived.Test.YtoklbkgcclkejaaM10
import Derived.Test.YtoklbkgcclkejaaM7
import Derived.Test.YtoklbkgcclkejaaM9
import Derived.Test.YtoklbkgcclkejaaProg
import Derived.Tactics
import Derived.Tactics2
import Derived.WalkKit
import Derived.OpenShut
import Derived.Below
import Derived.Lib.Hide
import Derived.KernelRfl
import Derived.Deep.RegionHeld3
import Derived.OwnWalk
import Derived.StillTailTactics
import Derived.Test.YtoklbkgcclkejaaAbsTop
import Derived.Test.YtoklbkgcclkejaaAbsWalk
import Derived.Test.YtoklbkgcclkejaaM6
import Derived.Test.YtoklbkgcclkejaaAwake
import Derived.Test.YtoklbkgcclkejaaWalkAll
set_option linter.unusedSimpArgs false
set_option linter.unusedVariables false
set_option maxHeartbeats 16000000
set_option linter.unusedVariables false
set_option maxRecDepth 10000
namespace Go.Abs
end Go.Abs
namespace Go.Proofs.Ytoklbkgcclkejaa.walk
open Go.Abs Go.Proofs.Ytoklbkgcclkejaa.code
abbrev wsI (ba:List Nat) (m:Nat):List AV:=ba.map fun b=>slI b m
theorem We (ks:List KindR) (ws:List AV):∀ r ∈ yI ks ws,r.length=6:=fun r hr=>by
 unfold yI at hr
 obtain ⟨i,hi,rfl⟩:=List.getElem_of_mem hr
 rw [List.getElem_zipWith];rfl
theorem zcJ {ks:List KindR} {ws:List AV} {i:Nat} (hi:i<(yI ks ws).length) (h1:i<ks.length) (h2:i<ws.length):(yI ks ws)[i]=ks[i].row ws[i]:=by
 unfold yI
 exact List.getElem_zipWith ..
theorem KX.row {h:Heap} {n lo m bK i:Nat} {ks:List KindR} {ba:List Nat} {v:AV} (r:KX h n lo m bK ks ba v) (hi:i<ks.length):v=.slice bK 0 ks.length ks.length true∧bK<n∧h.get bK=some (.cells (yI ks (wsI ba m)).flatten (6+tag 49))∧(yI ks (wsI ba m)).flatten.length=ks.length * 6∧∀ o,o<6→nth (yI ks (wsI ba m)).flatten (i * 6+o)=nth (ks[i].row (slI (ba.getD i 0) m)) o:=by
 have hl:(wsI ba m).length=ks.length:=by rw [List.length_map];exact r.len
 have hk:=vO hl
 have hb:i<ba.length:=by have:=r.len;omega
 rcases r.is.is with ⟨h1,_⟩ | ⟨_,h2,h3,h4⟩
 ·rw [h1] at hk;simp at hk;omega
 ·rw [hk] at h3
  refine ⟨h3,h2,h4,by rw [jx (We _ _),hk],fun o ho=>?_⟩
  rw [wdA (We _ _) (by rw [hk];exact hi) ho,zcJ _ hi (by rw [hl];exact hi),List.getElem_map,List.getD_eq_getElem?_getD,List.getElem?_eq_getElem hb]
  rfl
structure KBet (m:Nat) (k k':KindR):Prop where
 ok:k'.Ok m
 hi:k'.hi≤k.hi
 w:k'.water=k.water
 r:k.rent≤k'.rent
 m:k.most≤k'.most
 a:∀ j (h1:j<k'.away.length) (h2:j<k.away.length),k'.away[j]≤k.away[j]
theorem JbA {H:HallR} (hw:H.wide≤3) (hd:H.deep≤2):H.placesI.length≤6∧H.opens.length≤6:=by
 have hpl:H.placesI.length≤6:=by
  rw [yj,yq]
  have h1:H.deep * H.wide≤2 * H.wide:=Nat.mul_le_mul_right _ hd
  omega
 refine ⟨hpl,?_⟩
 have:=List.length_filter_le (fun c=>!decide (c ∈ H.shut)) H.placesI
 show (H.placesI.filter _).length≤6
 omega
theorem zHQ {K:Nat} {tB:List PutR→PutR→Bool} {cs:List (Int × Int)} {l x:List PutR} (h:Ext K tB cs l x):x.length≤l.length+cs.length:=by
 induction h with
 | nil l=>exact Nat.le_refl _
 | skip _ ih=>rw [List.length_cons];omega
 | put k hk ht _ ih=>rw [List.length_append,List.length_singleton] at ih;rw [List.length_cons];omega
theorem jTJ {H:HallR} (ok:H.Ok) (ho:H.opens.length≤6):H.best.2.length≤24:=by
 obtain ⟨_,_,b3,_⟩:=Yq ok
 have h5:=(gX ok H.placesI [] H.best.2 (ZS ok.w0) (gZ ok)).mp b3
 have:=zHQ h5
 have h6:(H.placesI.filter fun c=>!decide (c ∈ H.shut)).length≤6:=ho
 rw [List.length_nil] at this
 omega
noncomputable def YaA:K:=(zG (zD yBQ [6]) (zG (zD K9r11 [7]) (zG (zD yAQ [8]) (zG (zG (zD K9r13 [9]) (zU 2 (ju VqJ))) (zG (zD jyQ [10,11]) (zG (zD K9r18 [12,13]) (zG (zD K9r19 [14,15]) (zG (zD jxQ [16,17]) (zG (zD jwQ [18,19]) (zG (zD K9r22 [20,21]) (zG (zD K9r23 [2]) jG)))))))))))
noncomputable def YbA:K:=(zG (zD viQ [4]) (zG (zG (zD jjQ [32]) (ze (.tmp 32) (zG (zD K9r4 []) (zG (zD K9r5 []) (zG (zD K9r6 [5]) (zU 0 (ju ZpJ))))) zd)) YaA))
theorem ZtJ (n:Nat) (hn:40≤n) (cx:Ctx) {t1:St} {d p4:Nat} {H:HallR} {vW vS v1 vK:AV} {L:Env} (d1:Die d t1.h) (g4:t1.h.get p4=some (.cells (zP H vW vS v1 vK) (tag 30))) (hH:HallAt (fun c=>c≠d∧c≠p4) t1.h t1.n H vW vS v1 vK) (ok:H.Ok) (hmod:H.wide % H.bx=0) (hw3:H.wide≤3) (hd2:H.deep≤2) (hk2:H.kinds.length≤2) (hp:d<p4∧p4<t1.n) (hs:t1.n+800000000≤far) (hm:d≤t1.m∧t1.m≤far)
  (q3:L.find 3=.ptr d 0) (q4:L.find 4=.ptr p4 0) :
  ∃ s',jr Try.prog Try.f9 (YaA (awd n) cx L [] t1)=.val (.bool true) s':=by
 have hf:=hfar
 have knM:∀ args s,awd n (.fn 37) args s=call Try.prog X n (.fn 37) args s:=fun _ _=>rfl
 have knL:∀ args s,awd n (.fn 12) args s=call Try.prog X n (.fn 12) args s:=fun _ _=>rfl
 have knT:∀ args s,awd n (.fn 29) args s=call Try.prog X n (.fn 29) args s:=fun _ _=>rfl
 have knE:∀ args s,awd n (.fn 23) args s=call Try.prog X n (.fn 23) args s:=fun _ _=>rfl
 have knB:∀ args s,awd n (.fn 14) args s=call Try.prog X n (.fn 14) args s:=fun _ _=>rfl
 have knA:∀ s,awd n (.fn 19) [] s=.val (.bool true) s:=fun _=>rfl
 have ex0:∀ (a b:AV) (s:St),Jo 0 s (.tup [a,b])=.val a s:=fun _ _ _=>rfl
 have ex1:∀ (a b:AV) (s:St),Jo 1 s (.tup [a,b])=.val b s:=fun _ _ _=>rfl
 have okt:∀ (a b:AV) (s:St),okA (.val (.tup [a,b]) s)=.val (.tup [a,b]) s:=fun _ _ _=>rfl
 have okh:∀ t,okA (.val (.agg (zP H vW vS v1 vK)) t)=.val (.agg (zP H vW vS v1 vK)) t:=fun _=>rfl
 have u4:=eq3 VsA.eq_1
 have u5:=eq3 VrA.eq_1
 have u8:=eq3 VqA.eq_1
 have u9:=eq3 VpA.eq_1
 have u12:=eq3 ZIA.eq_1
 have u13:=eq3 ZHA.eq_1
 have u16:=eq3 ZGA.eq_1
 have u17:=eq3 ZFA.eq_1
 have u20:=eq3 ZEA.eq_1
 have u21:=eq3 ZDA.eq_1
 have u24:=eq3 ZCA.eq_1
 have u25:=eq3 ZBA.eq_1
 have u26:=eq3 ZAA.eq_1
 have u29:=eq3 gzA.eq_1
 have u30:=eq3 gyA.eq_1
 have u31:=eq3 gxA.eq_1
 have u34:=eq3 gwA.eq_1
 have u35:=eq3 gvA.eq_1
 have u36:=eq3 guA.eq_1
 have u37:=eq3 gtA.eq_1
 have u38:=eq3 gsA.eq_1
 have u41:=eq3 grA.eq_1
 unfold YaA
 simp (disch:=first|omega|with_unfolding_all rfl) only [yBQ,Abs.W,reduceIte,Nat.reduceEqDiff,Nat.reduceAdd,Nat.reduceSub,q3,q4,g4,okh,knM,Nat.zero_add]
 generalize hc1:call _ _ _ (.fn 37) _ _=r1
 obtain ⟨xW,xS,xB,xK,t2,rfl,st2,hX⟩:=zPJ hc1 (by omega) ok hmod hH (by omega)
 have n2:=st2.n
 have k2:=st2.le
 have m2:t2.m=t1.m:=st2.m
 have scX:=hX.scal
 have S:=vOQ ok hmod
 have okG:=vNQ ok
 obtain ⟨G,hG⟩:∃ G:HallR,G=H.mir:=⟨_,rfl⟩
 rw [← hG] at hX S okG scX
 have hGd:G.wide=H.wide∧G.deep=H.deep∧G.kinds=H.kinds:=by rw [hG];exact ⟨rfl,rfl,rfl⟩
 rw [← hG]
 obtain ⟨z,hz⟩:∃ z:St,z=(t2.new (.cells [.int .i64 0,.int .i64 0,.nilslice,.nilslice,.int .i64 0,.int .i64 0,.nilslice,.nilslice] (tag 30))).put t2.n (.cells (zP G xW xS xB xK) (tag 30)):=⟨_,rfl⟩
 have stz:jM 8 (t2.new (.cells [.int .i64 0,.int .i64 0,.nilslice,.nilslice,.int .i64 0,.int .i64 0,.nilslice,.nilslice] (tag 30))) (.agg (zP G xW xS xB xK)) (.ptr t2.n 0)=.val .undef z:=by
  rw [hz];exact jk _ 8 _ _ _ _ (zM _ _ _ rfl (by omega)) rfl rfl scX
 have zn:z.n=t2.n+1:=by rw [hz];rfl
 have zm:z.m=min t2.m t2.n:=by rw [hz];simp only [St.put,zQ,jF]
 have zg:∀ c,c<t2.n→z.h.get c=t2.h.get c:=fun c hc=>by rw [hz,zL _ _ _ _ (by omega),zH _ _ _ (by omega)]
 have z6:z.h.get t2.n=some (.cells (zP G xW xS xB xK) (tag 30)):=by rw [hz];exact zN _ _ _ _ rfl (by omega)
 clear hz
 have zt:∀ c,c<t1.n→z.h.get c=t1.h.get c:=fun c hc=>(zg c (by omega)).trans (st2.same c hc)
 have z4:=(zt p4 hp.2).trans g4
 have dz:Die d z.h:=d1.keep (zt d (by omega))
 have hHz:HallAt (fun c=>c≠d) z.h z.n H vW vS v1 vK:=hH.move (fun c h1 h2=>⟨zt c h1,h2.1⟩) (by omega)
 have hXz:HallAt (fun c=>c≠d) z.h z.n G xW xS xB xK:=hX.move (fun c h1 h2=>⟨zg c h1,by have h2:t1.n≤c:=h2;omega⟩) (by omega)
 simp (disch:=first|omega|with_unfolding_all rfl) only [stz,K9r11,Abs.W,reduceIte,Nat.reduceEqDiff,Nat.reduceAdd,Nat.reduceSub,q3,q4,z4,okh,knL,Nat.zero_add]
 generalize hc2:call _ _ _ (.fn 12) _ _=r2
 obtain ⟨l,v,t3,rfl,st3,d3,hv,hin,hl5,hR⟩:=zaJ (most:=5) hc2 (by omega) dz (by omega) ok hHz (by omega) (by omega)
 have n3:=st3.n
 have k3:=st3.le
 have m3l:=st3.mle
 have kv:=hR.okA
 have y4:=(st3.same p4 (by omega) (by omega)).trans z4
 have y6:=(st3.same t2.n (by omega) (by omega)).trans z6
 have hH3:HallAt (fun _=>True) t3.h t3.n H vW vS v1 vK:=hHz.move (fun c h1 h2=>⟨st3.same c h1 h2,trivial⟩) n3
 have hX3:HallAt (fun _=>True) t3.h t3.n G xW xS xB xK:=hXz.move (fun c h1 h2=>⟨st3.same c h1 h2,trivial⟩) n3
 have hR3:Sl (fun _=>True) t3.h t3.n 3 (l.map PutR.row) v:=hR.move (fun c h1 h2=>⟨rfl,trivial⟩) (Nat.le_refl _)
 simp (disch:=first|omega|with_unfolding_all rfl) only [yAQ,K9r13,Abs.W,reduceIte,Nat.reduceEqDiff,Nat.reduceAdd,Nat.reduceSub,Nat.zero_add]
 generalize hlp:jK _ rounds _ _ _ _ _=rl
 obtain ⟨L1,t4,mv,rfl,hM,g4',n4,k4,m4,m4l,f8,fc⟩:=ZuJ n (by omega) _ hlp ok.toSize hH3 y4 (by omega) hR3 (by omega) hin (by omega) (by omega) (by simp only [efs,q4,reduceIte,Nat.reduceEqDiff]) (by simp only [efs,reduceIte,Nat.reduceEqDiff]) (by simp only [efs,reduceIte,Nat.reduceEqDiff]) (by simp only [efs,reduceIte,Nat.reduceEqDiff])
 have f4:L1.find 4=.ptr p4 0:=(fc 4 (by omega)).trans (by simp only [efs,q4,reduceIte,Nat.reduceEqDiff])
 have f6:L1.find 6=.ptr t2.n 0:=(fc 6 (by omega)).trans (by simp only [efs,reduceIte,Nat.reduceEqDiff])
 have f7:L1.find 7=v:=(fc 7 (by omega)).trans (by simp only [efs,reduceIte,Nat.reduceEqDiff])
 have hin':∀ p ∈ l,H.In p.c:=fun p hp=>(hv.m p hp).i
 have vG:=S.valid hv
 have inG:∀ q ∈ l.map H.mirP,q.In G:=fun q hq=>by
  obtain ⟨p,hp,rfl⟩:=List.mem_map.mp hq
  have h1:=hin p hp
  obtain ⟨⟨a1,a2⟩,a3,a4⟩:=hin' p hp
  have a1:0≤p.x:=a1
  have a2:p.x<H.wide:=a2
  exact ⟨by rw [hGd.2.2];exact h1.k,by show -100≤(H.wide:Int) - 1 - p.x;omega,by show (H.wide:Int) - 1 - p.x≤100;omega,h1.y0,h1.y1⟩
 have w4:=(g4' p4 (by omega)).trans y4
 have w6:=(g4' t2.n (by omega)).trans y6
 have hH4:HallAt (fun _=>True) t4.h t4.n H vW vS v1 vK:=hH3.grow g4' n4
 have hX4:HallAt (fun _=>True) t4.h t4.n G xW xS xB xK:=hX3.grow g4' n4
 have hR4:Sl (fun _=>True) t4.h t4.n 3 (l.map PutR.row) v:=hR3.grow g4' n4
 have hM4:Sl (fun _=>True) t4.h t4.n 3 ((l.map H.mirP).map PutR.row) mv:=hM.move (fun c _ _=>⟨rfl,trivial⟩) (Nat.le_refl _)
 have kM:=hM.okA
 have eb1:=WU n (by omega) ok hH4 hR4 hin (by omega) hv (by omega)
 have eb2:=WU n (by omega) okG hX4 hM4 inG (by rw [List.length_map];omega) vG (by omega)
 rw [S.verdict ok.toSize hin'] at eb2
 have okg:∀ t,okA (.val (.agg (zP G xW xS xB xK)) t)=.val (.agg (zP G xW xS xB xK)) t:=fun _=>rfl
 have oH:=(JbA hw3 hd2).2
 have oG:=(JbA (H:=G) (by rw [hGd.1];exact hw3) (by rw [hGd.2.1];exact hd2)).2
 simp (disch:=first|omega|with_unfolding_all rfl) only [jyQ,K9r18,K9r19,Abs.W,reduceIte,Nat.reduceEqDiff,Nat.reduceAdd,Nat.reduceSub,okt,okh,okg,ex0,ex1,f4,f6,f7,f8,w4,w6,kv,kM,knB,eb1,eb2,knT,Nat.zero_add]
 generalize hc3:call _ _ _ (.fn 29) _ _=r3
 obtain ⟨w1,t6,rfl,st6,hM1⟩:=wjJ hc3 (by omega) ok hH4 oH hk2 (by omega)
 have n6:=st6.n
 have k6:=st6.le
 have kw1:=hM1.sl.okA
 have x4:=(st6.same p4 (by omega)).trans w4
 have x6:=(st6.same t2.n (by omega)).trans w6
 simp (disch:=first|omega|with_unfolding_all rfl) only [jxQ,Abs.W,reduceIte,Nat.reduceEqDiff,Nat.reduceAdd,Nat.reduceSub,okt,ex0,ex1,kw1,f4,f6,x6,okg,knT,Nat.zero_add]
 generalize hc4:call _ _ _ (.fn 29) _ _=r4
 have hG6:HallAt (fun _=>True) t6.h t6.n G xW xS xB xK:=hX4.grow st6.same n6
 obtain ⟨w2,t7,rfl,st7,hM2⟩:=wjJ hc4 (by omega) okG hG6 oG (by rw [hGd.2.2];exact hk2) (by omega)
 have n7:=st7.n
 have k7:=st7.le
 have kw2:=hM2.sl.okA
 have u4':=(st7.same p4 (by omega)).trans x4
 have u6':=(st7.same t2.n (by omega)).trans x6
 obtain ⟨_,bH,_,_⟩:=Yq ok
 obtain ⟨_,bG,_,_⟩:=Yq okG
 have hH7:HallAt (fun _=>True) t7.h t7.n H vW vS v1 vK:=(hH4.grow st6.same n6).grow st7.same n7
 have hG7:HallAt (fun _=>True) t7.h t7.n G xW xS xB xK:=hG6.grow st7.same n7
 have sl1:Sl (fun _=>True) t7.h t7.n 3 (H.best.2.map PutR.row) w1:=hM1.sl.move (fun c h1 _=>⟨st7.same c h1,trivial⟩) n7
 have sl2:Sl (fun _=>True) t7.h t7.n 3 (G.best.2.map PutR.row) w2:=hM2.sl.move (fun c h1 _=>⟨rfl,trivial⟩) (Nat.le_refl _)
 have ee1:=jBJ n (by omega) ok hH7 sl1 bH.i (jTJ ok oH) bH.v (by omega)
 have ee2:=jBJ n (by omega) okG hG7 sl2 bG.i (jTJ okG oG) bG.v (by omega)
 have hwo:=S.best ok okG
 have hre:tot (G.rents G.best.2) 0=tot (H.rents H.best.2) 0:=(congrArg Prod.fst hwo).symm
 have hle:G.best.2.length=H.best.2.length:=by have h:((H.best.2.length:Nat):Int)=((G.best.2.length:Nat):Int):=congrArg Prod.snd hwo;omega
 rw [hre] at ee2
 have lw1:∀ s,zq s w1=.val (.int .i64 (H.best.2.length:Int)) s:=fun s=>by have:=sl1.len s;rwa [List.length_map] at this
 have lw2:∀ s,zq s w2=.val (.int .i64 (H.best.2.length:Int)) s:=fun s=>by have:=sl2.len s;rwa [List.length_map,hle] at this
 have z0:decide ((0:Int)=0)=true:=rfl
 have dv:decide (H.verdict l=H.verdict l)=true:=decide_eq_true rfl
 have dr:decide (tot (H.rents H.best.2) 0=tot (H.rents H.best.2) 0)=true:=decide_eq_true rfl
 have dl:decide ((H.best.2.length:Int)=(H.best.2.length:Int))=true:=decide_eq_true rfl
 simp (config:={ maxSteps:=4000000 }) (disch:=first|omega|with_unfolding_all rfl) only [jwQ,K9r22,K9r23,u4,u5,u8,u9,u12,u13,u16,u17,u20,u21,u24,u25,u26,u29,u30,u31,u34,u35,u36,u37,u38,u41,res9,Abs.W,reduceIte,Nat.reduceEqDiff,Nat.reduceAdd,Nat.reduceSub,okt,okh,okg,ex0,ex1,kw1,kw2,f4,f6,u4',u6',knE,ee1,ee2,z0,dv,dr,dl,lw1,lw2,knA,Nat.zero_add]
 exact ⟨_,rfl⟩
theorem ZvJ (n:Nat) (hn:40≤n) (cx:Ctx) (s:St) (d:Nat) (hd:Die d s.h) (hdn:d<s.n) (hs:s.n+900000000≤far) (hm:s.m=far) :
  ∃ s',jr Try.prog Try.f9 (YbA (awd n) cx (.cons 3 (.ptr d 0) .nil) [] s)=.val (.bool true) s':=by
 have hf:=hfar
 have knH:∀ args s,awd n (.fn 11) args s=call Try.prog X n (.fn 11) args s:=fun _ _=>rfl
 obtain ⟨r1,hc1⟩:∃ r1,call Try.prog X n (.fn 11) [.ptr d 0,.int .i64 3,.int .i64 2,.int .i64 2] s=r1:=⟨_,rfl⟩
 obtain ⟨H,vW,vS,vB,vK,t1,rfl,st1,d1,ok,hH,hW3,hD2,hK2⟩:=ZZJ (W:=3) (D:=2) (K:=2) hc1 (by omega) hd hdn (by omega) (by omega) (by omega) (by omega)
 have n1:=st1.n
 have k1:=st1.le
 have m1:=st1.m (by omega)
 have m1l:=st1.mle
 have scB:=hH.scal
 obtain ⟨y,hy⟩:∃ y:St,y=(t1.new (.cells [.int .i64 0,.int .i64 0,.nilslice,.nilslice,.int .i64 0,.int .i64 0,.nilslice,.nilslice] (tag 30))).put t1.n (.cells (zP H vW vS vB vK) (tag 30)):=⟨_,rfl⟩
 have sty:jM 8 (t1.new (.cells [.int .i64 0,.int .i64 0,.nilslice,.nilslice,.int .i64 0,.int .i64 0,.nilslice,.nilslice] (tag 30))) (.agg (zP H vW vS vB vK)) (.ptr t1.n 0)=.val .undef y:=by
  rw [hy];exact jk _ 8 _ _ _ _ (zM _ _ _ rfl (by omega)) rfl rfl scB
 have yn:y.n=t1.n+1:=by rw [hy];rfl
 have ym:y.m=min t1.m t1.n:=by rw [hy];simp only [St.put,zQ,jF]
 have yg:∀ c,c<t1.n→y.h.get c=t1.h.get c:=fun c hc=>by rw [hy,zL _ _ _ _ (by omega),zH _ _ _ (by omega)]
 have y4:y.h.get t1.n=some (.cells (zP H vW vS vB vK) (tag 30)):=by rw [hy];exact zN _ _ _ _ rfl (by omega)
 have dy:Die d y.h:=d1.keep (yg d (by omega))
 have hHy:HallAt (fun c=>c≠d∧c≠t1.n) y.h y.n H vW vS vB vK:=hH.move (fun c h1 h2=>⟨yg c h1,by have h3:s.n≤c:=h2;omega,by omega⟩) (by omega)
 clear hy
 have e0:(zD viQ [4]) (awd n) cx (.cons 3 (.ptr d 0) .nil) [] s=.done .norm (Env.set 4 (.ptr t1.n 0) (.cons 3 (.ptr d 0) .nil)) [] y:=by
  simp (disch:=first|omega|with_unfolding_all rfl) only [viQ,Abs.W,reduceIte,Nat.reduceEqDiff,Nat.reduceAdd,Nat.reduceSub,knH,hc1,sty]
 obtain ⟨L1,t2,H1,v1,e1,q1,q2,q3,⟨q4,q5⟩,⟨q6,q7,q8⟩,q9,q10,q11,q12⟩:=gDJ n (by omega) cx (L:=Env.set 4 (.ptr t1.n 0) (.cons 3 (.ptr d 0) .nil)) ok dy hHy y4 (by omega) (by omega) (by omega) (by simp only [efs,zK,reduceIte,Nat.reduceEqDiff]) (by simp only [efs,reduceIte,Nat.reduceEqDiff])
 unfold YbA
 rw [wU,e0,vN,wU,e1,vN]
 exact ZtJ n hn cx q1 q2 q3 q4 q5 (by rw [q6];exact hW3) (by rw [q7];exact hD2) (by rw [q8];exact hK2) (by omega) (by omega) q10 q11 q12
end Go.Proofs.Ytoklbkgcclkejaa.walk
namespace Go.Proofs.Ytoklbkgcclkejaa.mdie
open Go.RowKit
def Die (b:Nat) (w:World):Prop:=∃ s,w.heap[b]? = some (.cells #[.int .u64 s] 74 (0,0))
theorem Die.old {b:Nat} {w:World} (h:Die b w):(∃ s,w.cell? ⟨b,0,none⟩=some (.int .u64 s))∧w.frozen? ⟨b,0,none⟩=false:=by
 obtain ⟨s,hs⟩:=h
 refine ⟨⟨s,?_⟩,?_⟩
 ·unfold World.cell?;simp [hs]
 ·unfold World.frozen?;simp [hs]
structure Stir (b:Nat) (w w':World):Prop where
 below:Below b w w'
 rest:∀ p:Addr,p.block≠b→p.block<w.heap.size→w'.cell? p=w.cell? p∧w'.frozen? p=w.frozen? p
 die:Die b w'
def Gives (b:Nat) (k:IntKind) (Q:Int→Prop) (w:World) (e:Ending) (w':World):Prop:=∃ r,Q r∧e=.returned (.int k r)∧Stir b w w'
theorem jSJ (op:BinOp) (x y:Int):0≤bits op .u64 x y:=by
 have:=bounds_u64 (wf_bits (k:=.u64) (op:=op) (x:=x) (y:=y))
 exact this.1
theorem Stir.set {b:Nat} {w:World} (h:Die b w) (s:Int):Stir b w (w.setCell ⟨b,0,none⟩ (.int .u64 s)):=by
 obtain ⟨t,ht⟩:=h
 refine ⟨(Below.refl b w).setCell (p:=⟨b,0,none⟩) (Nat.le_refl b) _,fun p hp _=>⟨World.cell?_of_block (Below.heap_setCell _ _ _ _ hp),World.frozen?_of_block (Below.heap_setCell _ _ _ _ hp)⟩,⟨s,?_⟩⟩
 unfold World.setCell
 simp [Array.getElem?_modify,ht]
theorem roll (b:Nat) (w:World) (h:Die b w):Calls Try.prog 39 #[.pointer (some ⟨b,0,none⟩)] w (Gives b .u64 (fun r=>0≤r) w):=by
 have h':=Lib.hid h
 obtain ⟨⟨s,hs⟩,hf⟩:=h.old
 clear h
 go_enter Try.func39,Try.ntmps39
 go_wp2
 go_ret
 exact ⟨_,jSJ _ _ _,rfl,Stir.set h'.out _⟩
theorem Stir.refl {b:Nat} {w:World} (h:Die b w):Stir b w w:=⟨Below.refl _ _,fun _ _ _=>⟨rfl,rfl⟩,h⟩
theorem Stir.trans {b:Nat} {u v w:World} (h:Stir b u v) (k:Stir b v w):Stir b u w :=
 ⟨h.below.trans k.below,fun p hp hb=>⟨(k.rest p hp (Nat.lt_of_lt_of_le hb h.below.size)).1.trans (h.rest p hp hb).1,(k.rest p hp (Nat.lt_of_lt_of_le hb h.below.size)).2.trans (h.rest p hp hb).2⟩,k.die⟩
theorem Die.lt {b:Nat} {w:World} (h:Die b w):b<w.heap.size:=by obtain ⟨⟨s,hs⟩,_⟩:=h.old;exact World.block_lt_of_cell? w _ hs
theorem Stir.drew {b:Nat} {w w':World} (h:Stir b w w'):Stir b w w'.drew:=h.trans ⟨⟨rfl,rfl,rfl,Nat.le_refl _,fun _ _=>rfl⟩,fun _ _ _=>⟨rfl,rfl⟩,h.die⟩
def Born (w:World) (e:Ending) (w':World):Prop:=e=.returned (.pointer (some ⟨w.heap.size,0,none⟩))∧Below w.heap.size w w'∧Die w.heap.size w'∧w.heap.size<w'.heap.size
theorem Die.born (w:World) (s:Int):Die w.heap.size (w.alloc (.cells #[.int .u64 s] 74)):=⟨s,by show (w.heap.push _)[w.heap.size]? = _;rw [Array.getElem?_push,if_pos rfl]⟩
set_option maxRecDepth 100000 in
theorem born (x:Option Addr) (n c:Nat) (w:World) (hn:n≤maxLen) (hc:∀ i,i<n→∃ b o,x=some ⟨b,o,none⟩∧∃ v,w.cell? ⟨b,o+i,none⟩=some (.int .i64 v)) :
  Calls Try.prog 10 #[.slice x n c] w (Born w):=by
 unfold maxLen at hn
 have HC:=Lib.hid hc
 clear hc
 have hdie:=Lib.hid (Die.born w 2611923443488327891)
 go_enter Try.func10,Try.ntmps10
 go_wp2
 go_loopw [4] (fun i wr=>∃ k:Nat,k≤n∧i=.int .i64 k∧Stir w.heap.size (w.alloc (.cells #[.int .u64 2611923443488327891] 74)) wr) (fun i _=>n - (intOf i).toNat)
 case atStart=>exact ⟨0,Nat.zero_le _,rfl,Stir.refl hdie.out⟩
 case round =>
  obtain ⟨k,hk,rfl,hs⟩:=hrel
  by_cases hlt:k<n
  ·obtain ⟨b,o,rfl,v,hv⟩:=HC.out k hlt
   have hb:=World.block_lt_of_cell? _ _ hv
   simp only at hb
   have hv1:wr.cell? ⟨b,o+k,none⟩=some (.int .i64 v):=((hs.rest ⟨b,o+k,none⟩ (Nat.ne_of_lt hb) (by simp;omega)).1.trans (World.cell?_of_block (Below.heap_alloc _ _ _ hb))).trans hv
   clear hv
   obtain ⟨⟨s,hd⟩,hf⟩:=hs.die.old
   have hst:=Lib.hid (fun s1:Int=>(hs.drew).trans (Stir.set hs.drew.die s1))
   have hlt':(k:Int)<(n:Int):=by omega
   have hk0:(0:Int)≤(k:Int):=by omega
   go_wp2
   go_still_tail 12,(by kernel_rfl)
   change wpList _ _ _ _ _ wr.drew
   go_wp2_with (go_at_call 39;refine (roll _ _ ?_).mono ?_;exact (hst.out _).die;rintro e w1 ⟨r,hr,rfl,hs1⟩;(have hs2:=(hst.out _).trans hs1))
   go_roundw
   case rel=>exact ⟨k+1,by omega,by go_num,hs2⟩
   case measure=>simp [intOf];omega
  ·go_wp2
   go_ret
   exact ⟨rfl,((Below.refl w.heap.size w).alloc (Nat.le_refl _) _).trans hs.below,hs.die,by have:=hs.below.size;simp at this;omega⟩
end Go.Proofs.Ytoklbkgcclkejaa.mdie
namespace Go.Abs
open Go.RowKit
variable {P:Program}
theorem ZFJ {cl:zR} (hc:CallSound P cl) {f:FuncId} {fn:Func} (hf:P.funcs[f]? = some fn) {c0 c1 rest:Code} (hb:fn.body=some (.seq c0 (.seq c1 rest))) {X:FuncId→List Nat} {k:K} {A:Array Value} {W:World} {R:Ending→World→Prop}
  (h:c0.wp P (Exit.then (fun a w=>c1.wp P (Exit.then (fun a w=>∃ ρ L s v s',ActRel ρ fn.ntmps L [] a∧Clean (X f) L∧SRel ρ s w∧jr P fn (k cl ⟨f,none,fn.ntmps,X f⟩ L [] s)=.val v s'∧∀ ρ' V W',After ρ s w ρ' s' W'→VRel ρ' v V→R (.returned V) W') fun _ _ _=>False) a w) fun _ _ _=>False)
   { tmps:=A++Array.replicate (fn.ntmps - A.size) undef,defers:=[] } W)
  (hk:jh P (X f) fn.ntmps rest=some k):Calls P f A W R:=by
 intro cs
 obtain ⟨b,hbd⟩:∃ b:Frame,b={ (default:Frame) with fn:=f,kind:=.normal }:=⟨_,rfl⟩
 have hr:b.roundOf=none:=by rw [hbd];rfl
 have henter:Frame.enter P f A .normal=b.at { tmps:=A++Array.replicate (fn.ntmps - A.size) undef,defers:=[] } [.code (.seq c0 (.seq c1 rest))]:=by
  rw [hbd];simp [Frame.enter,Frame.at,hf,hb]
 obtain ⟨e0,a0,w0,q0,ar0⟩:=h b [.code (.seq c1 rest)] cs
 cases e0<;>simp only [Exit.then] at q0
 obtain ⟨e1,a1,w1,q1,ar1⟩:=q0 b [.code rest] cs
 cases e1<;>simp only [Exit.then] at q1
 obtain ⟨ρ,L,s,v,s',hact,hclean,hs,hfin,hR⟩:=q1
 have st1:Steps P (lone (Frame.enter P f A .normal) cs W) (lone (b.atR a1 [.code rest]) cs w1):=by
  rw [henter,Frame.atR_of_none hr]
  exact (Steps.head step_seq ar0).trans (Steps.head step_seq ar1)
 have hctx:CtxRel ρ ⟨f,none,fn.ntmps,X f⟩ b:=⟨by rw [hbd],by rw [hbd],fun _=>hr,fun l e=>by cases e⟩
 generalize hr2:k cl ⟨f,none,fn.ntmps,X f⟩ L [] s=r at hfin
 cases r with
 | fail=>cases hfin
 | done e L1 d s₁ =>
  obtain ⟨ρ₁,a₁,W₁,af,ha₁,_,_,st⟩:=yP rest hk hc rfl rfl hctx hact hclean hs hr2
  have fin:∀ (hle:yL P fn.results.toList L1 d s₁=.val v s') (hst:∃ t,Steps P (lone (Frame.enter P f A .normal) cs W) (lone (back b a₁ t) cs W₁)),
    ∃ V w' fr,R (.returned V) w'∧Steps P (lone (Frame.enter P f A .normal) cs W) (lone fr cs w')∧fr.fn=f∧fr.leaving P w' (.returned V):=by
   intro hle hst
   obtain ⟨V,W₂,af₂,hv,st₂⟩:=jDA ha₁ af.rel hle
   obtain ⟨t,st₁⟩:=hst
   obtain ⟨fr,h1,h2,h3⟩:=st₂ b (by rw [hbd]) (by rw [hbd];exact hf) t cs
   exact ⟨V,W₂,fr,hR _ _ _ (af.trans af₂) hv,Steps.trans st₁ h1,by rw [h2,hbd],h3⟩
  cases e with
  | exit id=>cases hfin
  | norm =>
   have z:=st [] cs
   obtain ⟨V,w',fr,h1,h2,h3,h4⟩:=fin hfin ⟨[],st1.trans (Steps.trans z (.one (stepR_end hr)))⟩
   exact ⟨.returned V,w',fr,h1,h2,h3,h4⟩
  | ret =>
   obtain ⟨k0,z⟩:=st [] cs
   obtain ⟨V,w',fr,h1,h2,h3,h4⟩:=fin hfin ⟨.code .ret::k0,st1.trans (z.trans (.one (stepR_ret hr)))⟩
   exact ⟨.returned V,w',fr,h1,h2,h3,h4⟩
end Go.Abs
set_option maxRecDepth 10000
namespace Go.Proofs.Ytoklbkgcclkejaa.walk
open Go.Abs Go.RowKit Go.Proofs.Ytoklbkgcclkejaa.code
noncomputable def jEJ (F:Int):St:=St.new ⟨.nil,0,far⟩ (.cells [.int .u64 F] (tag 74))
def rho0 (d:Nat):Rho:=fun b=>if b=0 then some (d,(0,0)) else none
theorem jDJ {F:Int} {b:Nat} {o:AObj} (h:(jEJ F).h.get b=some o):b=0∧o=.cells [.int .u64 F] (tag 74):=by
 by_cases e:b=0
 ·subst e
  have:(jEJ F).h.get 0=some (.cells [.int .u64 F] (tag 74)):=zM _ _ _ rfl (by decide)
  rw [this] at h
  exact ⟨rfl,(Option.some.inj h).symm⟩
 ·unfold jEJ at h
  rw [zH _ _ _ e] at h
  cases h
theorem YC {F:Int} {b x:Nat} {o:AObj} (h:Has (jEJ F).h b x o):b=0∧x=0∧o=.cells [.int .u64 F] (tag 74):=by
 obtain ⟨y,hy,hp⟩:=h
 obtain ⟨rfl,rfl⟩:=jDJ hy
 have hl:AObj.lone (.cells [.int .u64 F] (tag 74)):=trivial
 rw [vd hl] at hp
 have:=List.mem_singleton.mp hp
 cases this
 exact ⟨rfl,rfl,rfl⟩
theorem VFJ {F:Int} {d:Nat} {W:World} (h:W.heap[d]? = some (.cells #[.int .u64 F] 74 (0,0))):SRel (rho0 d) (jEJ F) W:=by
 refine ⟨⟨fun b o hb=>?_,fun b x o hb=>?_,fun b b' x x' o o' c e e' hb hb' _ _=>?_,fun g cs hg=>(by cases hg),fun b x o c e hb hr=>rfl,fun b x x' o o' c e e' hb hb' hr hr'=>?_⟩,fun b hb=>?_⟩
 ·rw [(jDJ hb).1];decide
 ·obtain ⟨rfl,rfl,rfl⟩:=YC hb
  exact ⟨d,(0,0),_,if_pos rfl,h,.cells rfl (.cons (.int _ _) .nil) (Typed.tag _)⟩
 ·rw [(YC hb).1,(YC hb').1]
 ·obtain ⟨_,rfl,_⟩:=YC hb
  obtain ⟨_,rfl,_⟩:=YC hb'
  rw [hr] at hr'
  cases hr'
  rfl
 ·have:1≤b:=hb
  exact if_neg (by omega)
open Go.Abs Go.RowKit Go.Proofs.Ytoklbkgcclkejaa.code
set_option maxRecDepth 100000 in
theorem vmi_calls (a:Option Addr) (n c:Nat) (w:World) (hn:n≤maxLen) (hc:∀ i,i<n→∃ b o,a=some ⟨b,o,none⟩∧∃ v,w.cell? ⟨b,o+i,none⟩=some (.int .i64 v)) :
  Calls Try.prog 9 #[.slice a n c] w fun e w'=>e=.returned (.bool true)∧Below w.heap.size w w':=by
 have HC:=Lib.hid hc
 clear hc
 refine ZFJ (cl:=knows 19 (call Try.prog X 40)) (zbJ (Yj 200) Try.func19 awake.entered (Yj 40)) Try.func9 rfl (X:=X) (k:=YbA) ?_ (by kernel_rfl)
 simp only [Try.ntmps9,List.size_toArray,List.length_cons,List.length_nil,Nat.reduceAdd,Nat.reduceSub,Array.replicate_succ,Array.replicate_zero,List.push_toArray,List.append_toArray,List.nil_append,List.cons_append]
 go_wp2_with (go_at_call 10;((with_reducible refine (mdie.born _ _ _ _ hn HC.out).mono ?_);rintro e w1 ⟨rfl,hB1,⟨F,hF⟩,hg1⟩))
 have hd0:walk.Die 0 (jEJ F).h:=⟨F,zM _ _ _ rfl (by decide)⟩
 obtain ⟨s',hs'⟩:=ZvJ 40 (by omega) ⟨9,none,Try.f9.ntmps,X 9⟩ (jEJ F) 0 hd0 (by show 0<1;omega) (by show 1+900000000≤1000000000;omega) rfl
 refine ⟨rho0 w.heap.size,.cons 3 (.ptr 0 0) .nil,jEJ F,.bool true,s',⟨fun t=>?_,rfl,.nil⟩,fun t ht=>?_,VFJ hF,hs',fun ρ' V W' af hv=>?_⟩
 ·by_cases e:t=3
  ·subst e
   exact .ptr (e:=(0,0)) (if_pos rfl)
  ·rw [show (Env.cons 3 (.ptr 0 0) .nil).find t=AV.bad by rw [zK,if_neg (by omega)];rfl]
   exact .bad _
 ·by_cases e:t=3
  ·subst e
   have hx:(X 9).contains 3=true:=by kernel_rfl
   rw [hx] at ht
   cases ht
  ·rw [zK,if_neg (by omega)];rfl
 ·cases hv
  refine ⟨rfl,hB1.trans ⟨af.os,af.tape,af.output,af.size,fun k hk=>af.frame k (by omega) fun b x o e hb hr=>?_⟩⟩
  obtain ⟨_,rfl,_⟩:=YC hb
  have hr:some (w.heap.size,(0,0))=some (k,e):=hr
  injection hr with hr
  injection hr with hr _
  omega
end Go.Proofs.Ytoklbkgcclkejaa.walk
