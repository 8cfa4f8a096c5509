/- Two layouts that are the same. -/
import Derived.Test.YtoklbkgcclkejaaM7
import Derived.Test.YtoklbkgcclkejaaCodes
import Derived.Test.YtoklbkgcclkejaaM9
import Derived.Test.YtoklbkgcclkejaaM6
import Derived.Test.YtoklbkgcclkejaaWalkAll
set_option linter.unusedSimpArgs false
set_option linter.unusedVariables false
set_option maxHeartbeats 16000000
set_option linter.unusedVariables false
set_option maxRecDepth 10000
namespace Go.Proofs.Ytoklbkgcclkejaa.walk
open Go.Abs Go.Proofs.Ytoklbkgcclkejaa.code
theorem put_same (P Q:PutR):(P.x=Q.x∧P.y=Q.y∧P.kind=Q.kind)↔P=Q:=by
 obtain ⟨a,b,k⟩:=P
 obtain ⟨a',b',k'⟩:=Q
 simp
instance (P Q:PutR):Decidable (P=Q):=decidable_of_iff _ (put_same P Q)
theorem Vh {v:AV} {c o:Nat} (h:jN v≠some c):vX v (.ptr c o)=true:=by
 unfold vX
 cases hv:jN v with
 | none=>rfl
 | some b =>
  rw [hv] at h
  simp only [jN]
  rw [vf (fun e=>h (by rw [e]))]
  rfl
theorem WPA {H:HallR} (ok:H.Ok) {l:List PutR} (hl:l.length≤30) (hi:∀ q ∈ l,q.In H):(0≤(H.worth l).1∧(H.worth l).1≤100000000)∧0≤(H.worth l).2∧(H.worth l).2≤100000000:=by
 have h:=ZQ (H.rents l) 0 1000000 (by omega) fun x hx=>by
  obtain ⟨p,hp,rfl⟩:=List.mem_map.mp hx
  have h:=vP ok (hi p hp).k
  exact ⟨h.r0,h.r1⟩
 have e:(H.rents l).length=l.length:=by unfold HallR.rents;rw [List.length_map]
 rw [e] at h
 unfold HallR.worth
 simp only
 omega
theorem WaJ (M m:Nat) (hM:8≤M) (cx:Ctx) {h0:Heap} {t:St} {lo pt pc ph ps po pf hb p rb q i k:Nat} {sc:List AV} {v vo:AV} {rest:List (Nat × Nat)} {l:List PutR} {T:(Int × Int) × List PutR} {H:HallR} {vW vS vB vK:AV} {O:List (Int × Int)} {L:Env} (ok:H.Ok) (F:SFix h0 lo pt pc ph ps po pf hb p rb sc H vW vS vB vK vo O) (IH:SOk M m h0 lo pt pc ph ps po pf H O) (S:SNow h0 t.h t.n lo pt pc v rest l T) (hpp:pt≤pc) (hg:H.Good l) (hl:l.length≤i) (him:i+1+m=O.length) (hk:k<H.kinds.length) (hq:lo≤q∧q<t.n∧jN v≠some q) (gq:t.h.get q=some (.cells [.int .i64 (H.worth l).1,.int .i64 (H.worth l).2] (tag 120))) (hs:t.n+60010+wide m≤far) (hm:t.m≤far)
  (q0:L.find 0=v) (q2:L.find 2=.int .i64 (i:Int)) (q6:L.find 6=.ptr ps 0) (q7:L.find 7=.ptr po 0) (q8:L.find 8=.ptr pf 0) (q10:L.find 10=.ptr q 0) (q34:L.find 34=vK) (q35:L.find 35=.int .i64 (H.kinds.length:Int)) (q36:L.find 36=.int .i64 (k:Int)) :
  ∃ L1 t1,YZA (call Try.prog X M) cx L [] t=.done .norm L1 [] t1∧SPost h0 t t1 lo pt pc v rest l T (if H.takesB l (yC (O.getD i (0,0)) k)=true then srch H.kinds.length H.takesB H.worth H.rent (O.drop (i+1)) (l++[yC (O.getD i (0,0)) k]) T else T) (30+wide m)∧(∀ c,c<11→L1.find c=L.find c)∧L1.find 34=vK∧L1.find 35=.int .i64 (H.kinds.length:Int)∧L1.find 36=.int .i64 ((k+1:Nat):Int):=by
 have hf:=hfar
 have o8:=F.o8
 have hlo:=S.lo
 have htl:=F.lt.2.1
 have hcl:=F.lt.2.2
 have hpfl:=F.lt.1.2.2.2.1
 have kv:=(S.fam.puts (no:=fun _=>True) fun _ _ _=>trivial).okA
 have hbl:=S.fam.block
 have nb:∀ b,b<lo→jN v≠some b:=fun b hb h=>by have:=hbl b h;omega
 have W:=F.at_ S
 obtain ⟨c,hc⟩:∃ c,c=O.getD i (0,0):=⟨_,rfl⟩
 have hil:i<O.length:=by omega
 have hcx:O[i]=c:=by rw [hc,List.getD_eq_getElem?_getD,List.getElem?_eq_getElem hil];rfl
 have hcin:H.In c:=by rw [← hcx];exact F.oin _ (List.getElem_mem hil)
 rw [← hc]
 have hPin:=YvA ok hcin hk
 -- the kind and the place
 have e0:decide ((k:Int)<(H.kinds.length:Int))=true:=decide_eq_true (by omega)
 have ad:∀ s,jI s .i64 (k:Int) 1=.val (.int .i64 ((k:Int)+1)) s:=fun s=>za s _ _ (by have:=ok.k1;omega)
 have ad2:∀ s,jI s .i64 (i:Int) 1=.val (.int .i64 ((i+1:Nat):Int)) s:=fun s=>by rw [za s _ _ (by omega)];rfl
 obtain ⟨aw,kb,koo,kc,ksz,⟨kb1,kbn⟩,kb2,kb3,kcut,hAw⟩:=W.hH.k.get hk
 have hki:H.kind k=H.kinds[k]:=by unfold HallR.kind;rw [List.getD_eq_getElem?_getD,List.getElem?_eq_getElem hk];rfl
 rw [← hki] at kcut hAw
 obtain ⟨ob,oo,oc,osz,⟨o1,o1n⟩,o2,o3,o4⟩:=Ja W.hO hil
 rw [hcx] at o4
 have hkr:=vP ok hk
 have hr0:=hkr.r0
 have hr1:=hkr.r1
 have hsc:scalars ((H.kind k).row aw)=true:=by
  show scalars [aw,.int .i64 (H.kind k).rent,.int .i64 (H.kind k).most]=true
  rw [hAw.scal.2.2];rfl
 have okr:∀ t,okA (.val (.agg ((H.kind k).row aw)) t)=.val (.agg ((H.kind k).row aw)) t:=fun _=>rfl
 have okc:∀ t,okA (.val (.agg (jC c)) t)=.val (.agg (jC c)) t:=fun _=>rfl
 obtain ⟨A,hA⟩:∃ A:St,A=(t.new (.cells [.int .i64 0,.int .i64 0,.bool false,.nilslice,.int .i64 0,.int .i64 0] (tag 49))).put t.n (.cells ((H.kind k).row aw) (tag 49)):=⟨_,rfl⟩
 have stA:jM 6 (t.new (.cells [.int .i64 0,.int .i64 0,.bool false,.nilslice,.int .i64 0,.int .i64 0] (tag 49))) (.agg ((H.kind k).row aw)) (.ptr t.n 0)=.val .undef A:=by
  rw [hA];exact jk _ 6 _ _ _ _ (zM _ _ _ rfl (by omega)) rfl rfl hsc
 have An:A.n=t.n+1:=by rw [hA];rfl
 have Am:A.m=min t.m t.n:=by rw [hA];simp only [St.put,zQ,jF]
 have Ag:∀ b,b<t.n→A.h.get b=t.h.get b:=fun b hb=>by rw [hA,zL _ _ _ _ (by omega),zH _ _ _ (by omega)]
 have A13:A.h.get t.n=some (.cells ((H.kind k).row aw) (tag 49)):=by rw [hA];exact zN _ _ _ _ rfl (by omega)
 clear hA
 obtain ⟨B,hB⟩:∃ B:St,B=(A.new (.cells [.int .i64 0,.int .i64 0,.int .i64 0] (tag 51))).put A.n (.cells [.int .i64 c.1,.int .i64 c.2,.int .i64 (k:Int)] (tag 51)):=⟨_,rfl⟩
 have stB:jM 3 (A.new (.cells [.int .i64 0,.int .i64 0,.int .i64 0] (tag 51))) (.agg [.int .i64 c.1,.int .i64 c.2,.int .i64 (k:Int)]) (.ptr A.n 0)=.val .undef B:=by
  rw [hB];exact jk _ 3 _ _ _ _ (zM _ _ _ rfl (by omega)) rfl rfl rfl
 have Bn:B.n=A.n+1:=by rw [hB];rfl
 have Bm:B.m=min A.m A.n:=by rw [hB];simp only [St.put,zQ,jF]
 have Bg:∀ b,b<A.n→B.h.get b=A.h.get b:=fun b hb=>by rw [hB,zL _ _ _ _ (by omega),zH _ _ _ (by omega)]
 have B14:B.h.get A.n=some (.cells [.int .i64 c.1,.int .i64 c.2,.int .i64 (k:Int)] (tag 51)):=by rw [hB];exact zN _ _ _ _ rfl (by omega)
 clear hB
 have Bt':∀ b,b<t.n→B.h.get b=t.h.get b:=fun b hb=>(Bg b (by omega)).trans (Ag b hb)
 have SA:SNow h0 A.h A.n lo pt pc v rest l T:=S.grow Ag (by omega) (by omega)
 have SB:SNow h0 B.h B.n lo pt pc v rest l T:=S.grow Bt' (by omega) (by omega)
 have WA:=F.at_ SA
 have WB:=F.at_ SB
 have ko:=W.hO.okA
 have go7:=WA.bo
 have goA:=(Ag ob o1).trans o3
 have gB6:=WB.bs
 obtain ⟨is,eis,his⟩:=WWA M (by omega) F.c ok WB.hH.b WB.hH.k (SB.fam.puts (no:=fun b=>b≠pt∧b≠pc) fun b h1 _=>⟨by omega,by omega⟩) hg.i (YKJ hg.v) (by omega) hPin WB.g WB.gr WB.lp.1 WB.lp.2 (by omega)
 have hT:H.takesB l (yC c k)=is:=by
  cases is with
  | true=>exact yZ.mpr (his.mp rfl)
  | false =>
   cases h:H.takesB l (yC c k) with
   | false=>rfl
   | true=>exact absurd (his.mpr (yZ.mp h)) (by simp)
 rw [hT]
 have eis':call Try.prog X M (.fn 54) [.ptr p 0,v,.agg [.int .i64 c.1,.int .i64 c.2,.int .i64 (k:Int)]] B=.val (.bool is) B:=eis
 have ll:∀ s,zq s vK=.val (.int .i64 (H.kinds.length:Int)) s:=fun s=>W.hH.k.len s
 simp (disch:=first|omega|with_unfolding_all rfl) only [YZA,K82r5,K82r6,K82r7,K82r8,K82r10,Abs.W,reduceIte,Nat.reduceEqDiff,Nat.reduceAdd,Nat.reduceSub,q0,q2,q6,q7,q8,q10,q34,q35,q36,e0,kb2,kb3,kcut,okr,stA,go7,o2,goA,o4,okc,stB,gB6,B14,kv,ko,eis',ad,Nat.zero_add]
 cases is with
 | false =>
  simp (disch:=first|omega|with_unfolding_all rfl) only [Abs.W,reduceIte,Nat.reduceEqDiff,Nat.reduceAdd,Nat.reduceSub,q36,ad,Nat.zero_add]
  refine ⟨_,B,rfl,⟨SB,fun b h1 h2 h3 h4=>Bt' b h1,by omega,by omega,fun x h1 h2 h3=>by omega,by omega,.inr rfl⟩,fun c hc=>?_,?_,?_,?_⟩
  ·have h1:¬ 12=c:=by omega
   have h2:¬ 13=c:=by omega
   have h3:¬ 14=c:=by omega
   have h4:¬ 36=c:=by omega
   have h5:¬ 37=c:=by omega
   have h6:¬ 50=c:=by omega
   simp only [efs,h1,h2,h3,h4,h5,h6,reduceIte]
  ·simp only [efs,q34,reduceIte,Nat.reduceEqDiff]
  ·simp only [efs,q35,reduceIte,Nat.reduceEqDiff]
  ·simp only [efs,reduceIte,Nat.reduceEqDiff];rfl
 | true =>
  have hTk:H.Takes l (yC c k):=his.mp rfl
  have hgP:=(VV ok hg hcin hk).mp hTk
  obtain ⟨pfz,gf⟩:=WB.bf
  obtain ⟨C,hC⟩:∃ C:St,C=B.new (.cells [.int .i64 c.1,.int .i64 c.2,.int .i64 (k:Int)] 0):=⟨_,rfl⟩
  have Cn:C.n=B.n+1:=by rw [hC];rfl
  have Cm:C.m=B.m:=by rw [hC];rfl
  have Cg:∀ b,b<B.n→C.h.get b=B.h.get b:=fun b hb=>by rw [hC,zH _ _ _ (by omega)]
  have CB:C.h.get B.n=some (.cells (yC c k).row 0):=by rw [hC];exact zM _ _ _ rfl (by omega)
  have fC:FamAt C.h C.n lo v rest l:=SB.fam.grow (fun b h1 h2=>Cg b h1) (by omega)
  obtain ⟨v',D,rest',e4,fD,Dn,Dg,Dk,Dle,b1,b2,back⟩:=vNJ fC (by omega) CB (by omega) (by omega)
  have okv':∀ s,okA (.val v' s)=.val v' s:=fun s=>(fD.puts (no:=fun _=>True) fun _ _ _=>trivial).okA s
  have nb':∀ b,b<t.n→jN v≠some b→jN v'≠some b:=fun b hb h1 h2=>by
   rcases b1 b h2 with h | h
   ·exact h1 h
   ·omega
  have Dt:∀ b,b<t.n→jN v≠some b→D.h.get b=t.h.get b:=fun b hb h1=>(Dg b (by omega) h1).trans ((Cg b (by omega)).trans (Bt' b hb))
  have DB:∀ b,b<B.n→jN v≠some b→D.h.get b=B.h.get b:=fun b hb h1=>(Dg b (by omega) h1).trans (Cg b hb)
  have gq':=(Dt q hq.2.1 hq.2.2).trans gq
  have g13:D.h.get t.n=some (.cells ((H.kind k).row aw) (tag 49)):=(DB t.n (by omega) (fun h=>by have:=hbl _ h;omega)).trans ((Bg t.n (by omega)).trans A13)
  have f4:nth ((H.kind k).row aw) 4=.int .i64 (H.kind k).rent:=rfl
  have wr:=WPA ok (l:=l) (by omega) hg.i
  have epl:=YwA M (by omega) (H.worth l) ((H.kind k).rent,1) ⟨D.h,D.n,far⟩ wr ⟨⟨hr0,by show (H.kind k).rent≤100000000;omega⟩,by show (0:Int)≤1;omega,by show (1:Int)≤100000000;omega⟩ (by show D.n+10≤far;omega)
  have hD:=fun v=>yG (v:=v) (s:=D) (h:=(by omega:D.n≤far)) (hm:=by omega)
  have hwp:H.worth (l++[yC c k])=((H.worth l).1+(H.kind k).rent,(H.worth l).2+1):=JAA H l (yC c k)
  have SD:SNow h0 D.h D.n lo pt pc v' rest' (l++[yC c k]) T:=by
   obtain ⟨a1,a2,⟨vc,a3,a4⟩,a5,a6⟩:=id SB
   refine ⟨fun b h1 h2 h3=>(DB b (by omega) (nb b h1)).trans (a1 b h1 h2 h3),(DB pt (by omega) (nb pt htl)).trans a2,⟨vc,(DB pc (by omega) (nb pc hcl)).trans a3,a4.grow (fun b h1 h2 h3=>⟨DB b h2 h3,fun h=>?_⟩) (by omega)⟩,fD,by omega⟩
   rcases b1 b h with h' | h'
   ·exact h3 h'
   ·omega
  obtain ⟨E,e5,po⟩:=IH D v' rest' (l++[yC c k]) T (i+1) him SD hgP (by rw [List.length_append,List.length_singleton];omega) (by omega) (by omega)
  rw [hwp] at e5
  obtain ⟨r1,r2,r3,r4,r5,r6,r7⟩:=po
  have ap1:vX v (.ptr pf 0)=true:=Vh (nb pf hpfl)
  have ap2:vX v (.ptr q 0)=true:=Vh hq.2.2
  have ap3:vX v (.ptr t.n 4)=true:=Vh (fun h=>by have:=hbl _ h;omega)
  simp (disch:=first|omega|with_unfolding_all rfl) only [yDQ,Abs.W,reduceIte,Nat.reduceEqDiff,Nat.reduceAdd,Nat.reduceSub,q0,q2,q8,q10,q36,gf,kv,wQ,B14,Nat.zero_add]
  rw [← hC]
  simp (disch:=first|omega|with_unfolding_all rfl) only [Abs.W,reduceIte,Nat.reduceEqDiff,Nat.reduceAdd,Nat.reduceSub,q0,q2,q8,q10,q36,e4,okv',gq',zLA,g13,f4,epl,hD,ad2,e5,Nat.zero_add]
  rw [wY]
  rotate_left
  ·refine (gF ?_).trans ((gF ?_).trans ((gF ?_).trans (vH _)))
   ·simp only [zK,efs,q8,reduceIte,Nat.reduceEqDiff];exact ap1
   ·simp only [zK,efs,q10,reduceIte,Nat.reduceEqDiff];exact ap2
   ·simp only [zK,efs,reduceIte,Nat.reduceEqDiff];exact ap3
  simp (disch:=first|omega|with_unfolding_all rfl) only [Abs.W,reduceIte,Nat.reduceEqDiff,Nat.reduceAdd,Nat.reduceSub,q36,ad,Nat.zero_add]
  refine ⟨_,E,rfl,⟨?_,fun b h1 h2 h3 h4=>(r2 b (by omega) h2 h3 (nb' b h1 h4)).trans (Dt b h1 h4),by omega,by omega,fun x h1 h2 h3=>r5 x h1 h2 (Dk x (by omega) (by omega)),by omega,r7⟩,fun c hc=>?_,?_,?_,?_⟩
  ·obtain ⟨a1,a2,⟨vc,a3,a4⟩,a5,a6⟩:=r1
   exact ⟨a1,a2,⟨vc,a3,a4.grow (fun b h1 h2 h3=>⟨rfl,fun h=>h3 (b2 b h)⟩) (Nat.le_refl _)⟩,back _ _ a5,a6⟩
  ·have h1:¬ 12=c:=by omega
   have h2:¬ 13=c:=by omega
   have h3:¬ 14=c:=by omega
   have h4:¬ 36=c:=by omega
   have h5:¬ 37=c:=by omega
   have h6:¬ 50=c:=by omega
   simp only [efs,h1,h2,h3,h4,h5,h6,reduceIte]
  ·simp only [efs,q34,reduceIte,Nat.reduceEqDiff]
  ·simp only [efs,q35,reduceIte,Nat.reduceEqDiff]
  ·simp only [efs,reduceIte,Nat.reduceEqDiff];rfl
theorem SPost.more {h0:Heap} {s t:St} {lo pt pc:Nat} {v:AV} {rest:List (Nat × Nat)} {l:List PutR} {T T':(Int × Int) × List PutR} {k k':Nat} (a:SPost h0 s t lo pt pc v rest l T T' k) (h:k≤k'):SPost h0 s t lo pt pc v rest l T T' k' :=
 ⟨a.now,a.old,a.n,Nat.le_trans a.le (Nat.add_le_add_left h _),a.m,a.mle,a.or⟩
theorem jdQ {H:HallR} (l:List PutR) (T:(Int × Int) × List PutR):¬ Bt (H.worth l) (bump H.worth l T).1:=by
 unfold bump
 by_cases h:Bt (H.worth l) T.1
 ·rw [if_pos h];exact VL _
 ·rw [if_neg h];exact h
noncomputable def HallR.kindStep (H:HallR) (O:List (Int × Int)) (i:Nat) (l:List PutR) (T:(Int × Int) × List PutR) (k:Nat):(Int × Int) × List PutR :=
 if H.takesB l (yC (O.getD i (0,0)) k)=true then srch H.kinds.length H.takesB H.worth H.rent (O.drop (i+1)) (l++[yC (O.getD i (0,0)) k]) T else T
theorem vtJ {H:HallR} {O:List (Int × Int)} {i:Nat} (hi:i<O.length) (l:List PutR) (T:(Int × Int) × List PutR):srch H.kinds.length H.takesB H.worth H.rent (O.drop i) l T=if Bt (wplus (H.worth l) (H.hopeL (O.drop i))) (bump H.worth l T).1 then srch H.kinds.length H.takesB H.worth H.rent (O.drop (i+1)) l ((List.range H.kinds.length).foldl (H.kindStep O i l) (bump H.worth l T)) else bump H.worth l T:=by
 have e:O.drop i=O.getD i (0,0)::O.drop (i+1):=by
  rw [List.drop_eq_getElem_cons hi,List.getD_eq_getElem?_getD,List.getElem?_eq_getElem hi];rfl
 rw [e]
 rfl
theorem ZdJ {α:Type} (f:α→Nat→α) (b:α) (i:Nat):(List.range (i+1)).foldl f b=f ((List.range i).foldl f b) i:=by
 rw [List.range_succ,List.foldl_append];rfl
theorem vBQ (M m:Nat) (hM:8≤M) (cx:Ctx) {h0:Heap} {s:St} {lo pt pc ph ps po pf hb p rb q i:Nat} {sc:List AV} {v vo:AV} {rest:List (Nat × Nat)} {l:List PutR} {T:(Int × Int) × List PutR} {H:HallR} {vW vS vB vK:AV} {O:List (Int × Int)} {L:Env} (ok:H.Ok) (F:SFix h0 lo pt pc ph ps po pf hb p rb sc H vW vS vB vK vo O) (IH:∀ m',m=m'+1→SOk M m' h0 lo pt pc ph ps po pf H O) (S:SNow h0 s.h s.n lo pt pc v rest l T) (hpp:pt≤pc) (hg:H.Good l) (hl:l.length≤i) (him:i+m=O.length) (hq:lo≤q∧q<s.n∧jN v≠some q) (gq:s.h.get q=some (.cells [.int .i64 (H.worth l).1,.int .i64 (H.worth l).2] (tag 120))) (hs:s.n+59999+wide m≤far) (hm:s.m≤far)
  (q0:L.find 0=v) (q2:L.find 2=.int .i64 (i:Int)) (q3:L.find 3=.ptr pt 0) (q4:L.find 4=.ptr pc 0) (q5:L.find 5=.ptr ph 0) (q6:L.find 6=.ptr ps 0) (q7:L.find 7=.ptr po 0) (q8:L.find 8=.ptr pf 0) (q10:L.find 10=.ptr q 0) :
  ∃ e L1 t1 kk,(zG (zG (zD jcJ [17]) (ze (.tmp 17) (zv K82r2 []) zd)) (zG (zG (zv wqJ [29]) (ze (.tmp 29) jG zd)) (zG (zG (zD VsJ [34,35,36]) (zU 0 (ju YZA))) (zD vmJ [])))) (call Try.prog X M) cx L [] s=.done e L1 [] t1∧(e=.norm∨e=.ret)∧SPost h0 s t1 lo pt pc v rest l T (srch H.kinds.length H.takesB H.worth H.rent (O.drop i) l T) kk∧kk+1≤wide m:=by
 have hf:=hfar
 have o8:=F.o8
 have k2:=F.k2
 have hlo:=S.lo
 have htl:=F.lt.2.1
 have hcl:=F.lt.2.2
 have hpc:pt≠pc:=F.ne.2.2
 have hw0:20≤wide m:=by
  cases m with
  | zero=>exact Nat.le_refl _
  | succ m=>show 20≤3 * (30+wide m)+30;omega
 obtain ⟨b,t1,e1,p1⟩:=vAQ M (by omega) cx S (by omega) hq gq ⟨htl,hcl,hpc,hpp⟩ (by omega) hm q0 q3 q4 q10
 have nbq:jN v≠some q:=hq.2.2
 have S1:=p1.now
 have n1:=p1.n
 have l1:=p1.le
 have m1:=p1.mle
 have gq1:=(p1.old q hq.2.1 (by omega) (by omega) nbq).trans gq
 rw [wU,e1,vN,wU,wU]
 have e2:=yyQ M (by omega) cx (i:=i) (L:=L.set 17 (.bool b)) ok F S1 hg (by omega) (by omega) gq1 (by omega) (by omega) (by simp only [efs,q2,reduceIte,Nat.reduceEqDiff]) (by simp only [efs,q3,reduceIte,Nat.reduceEqDiff]) (by simp only [efs,q5,reduceIte,Nat.reduceEqDiff]) (by simp only [efs,q10,reduceIte,Nat.reduceEqDiff])
 rw [e2,vN]
 by_cases hB:Bt (wplus (H.worth l) (H.hopeL (O.drop i))) (bump H.worth l T).1
 ·match m,him,IH,hs,hw0 with
  | 0,him,_,_,_ =>
   exfalso
   have e:O.drop i=[]:=List.drop_eq_nil_of_le (by omega)
   rw [e] at hB
   have:wplus (H.worth l) (H.hopeL [])=H.worth l:=by
    show ((H.worth l).1+0,(H.worth l).2+0)=_
    rw [Int.add_zero,Int.add_zero]
   rw [this] at hB
   exact jdQ l T hB
  | m'+1,him,IH,hs,_ =>
   have IH:=IH m' rfl
   have hwd:wide (m'+1)=3 * (30+wide m')+30:=rfl
   rw [hwd] at hs ⊢
   rw [vtJ (by omega),if_pos hB]
   have hbt:decide (Bt (wplus (H.worth l) (H.hopeL (O.drop i))) (bump H.worth l T).1)=true:=decide_eq_true hB
   rw [hbt]
   obtain ⟨T1,hT1⟩:∃ T1,T1=bump H.worth l T:=⟨_,rfl⟩
   rw [← hT1] at S1 p1 ⊢
   have W1:=F.at_ S1
   have kK:=W1.hH.k.okA
   have lK:=W1.hH.k.len
   have gs:=W1.bs
   have gp:=W1.g
   have hsk:=F.c.k
   -- the loop
   have loop:∀ (L0:Env) (r:R),jK YZA rounds (call Try.prog X M) cx L0 [] t1=r→((∀ c,c<11→L0.find c=L.find c)∧L0.find 34=vK∧L0.find 35=.int .i64 (H.kinds.length:Int)∧L0.find 36=.int .i64 0)→∃ L1 t,r=.done (.exit 0) L1 [] t∧(∀ c,c<11→L1.find c=L.find c)∧SPost h0 t1 t lo pt pc v rest l T1 ((List.range H.kinds.length).foldl (H.kindStep O i l) T1) (H.kinds.length * (30+wide m')):=by
    intro L0 r hlp ⟨l1',l34,l35,l36⟩
    obtain ⟨e,L1,t,rfl,rfl,j⟩:=jO hlp
     (fun k L1 t=>((∀ c,c<11→L1.find c=L.find c)∧L1.find 34=vK∧L1.find 35=.int .i64 (H.kinds.length:Int)∧L1.find 36=.int .i64 (k:Int))∧SPost h0 t1 t lo pt pc v rest l T1 ((List.range k).foldl (H.kindStep O i l) T1) (k * (30+wide m')))
     (fun e L1 t=>e=.exit 0∧(∀ c,c<11→L1.find c=L.find c)∧SPost h0 t1 t lo pt pc v rest l T1 ((List.range H.kinds.length).foldl (H.kindStep O i l) T1) (H.kinds.length * (30+wide m'))) H.kinds.length (by unfold rounds;omega)
     ⟨⟨l1',l34,l35,l36⟩,by rw [Nat.zero_mul];exact SPost.refl S1⟩
     (fun k L1 t hk ⟨⟨a1,a34,a35,a36⟩,po⟩=>by
      by_cases hlt:k<H.kinds.length
      ·have hmul:k * (30+wide m')≤1 * (30+wide m'):=Nat.mul_le_mul_right _ (by omega)
       have g1:=po.n
       have g2:=po.le
       have g3:=po.mle
       have gq2:=(po.old q (by omega) (by omega) (by omega) nbq).trans gq1
       obtain ⟨L2,t2,w1,w2,w3,w34,w35,w36⟩:=WaJ M m' hM cx ok F IH po.now hpp hg hl (by omega) hlt ⟨hq.1,by omega,nbq⟩ gq2 (by omega) (by omega) (by rw [a1 0 (by omega)];exact q0) (by rw [a1 2 (by omega)];exact q2) (by rw [a1 6 (by omega)];exact q6) (by rw [a1 7 (by omega)];exact q7) (by rw [a1 8 (by omega)];exact q8) (by rw [a1 10 (by omega)];exact q10) a34 a35 a36
       refine .inl ⟨hlt,L2,t2,w1,⟨fun c hc=>(w3 c hc).trans (a1 c hc),w34,w35,w36⟩,?_⟩
       rw [ZdJ,Nat.succ_mul]
       exact po.trans w2
      ·obtain rfl:k=H.kinds.length:=by omega
       have e0:decide ((H.kinds.length:Int)<(H.kinds.length:Int))=false:=decide_eq_false (by omega)
       refine .inr ⟨.exit 0,L1.set 37 (.bool false),t,by simp,?_,rfl,fun c hc=>?_,po⟩
       ·simp (disch:=first|omega|with_unfolding_all rfl) only [YZA,K82r5,Abs.W,reduceIte,Nat.reduceEqDiff,Nat.reduceAdd,Nat.reduceSub,a35,a36,e0,Nat.zero_add]
       ·have h5:¬ 37=c:=by omega
        simp only [efs,h5,reduceIte]
        exact a1 c hc)
    exact ⟨L1,t,rfl,j⟩
   have ad2:∀ s,jI s .i64 (i:Int) 1=.val (.int .i64 ((i+1:Nat):Int)) s:=fun s=>by rw [za s _ _ (by omega)];rfl
   simp (disch:=first|omega|with_unfolding_all rfl) only [VsJ,Abs.W,reduceIte,Nat.reduceEqDiff,Nat.reduceAdd,Nat.reduceSub,q6,gs,gp,hsk,kK,lK,Nat.zero_add]
   generalize hlp:jK _ rounds _ _ _ _ _=r1
   obtain ⟨L1,t,rfl,fk,po⟩:=loop _ _ hlp ⟨fun c hc=>by
    have h1:¬ 36=c:=by omega
    have h2:¬ 35=c:=by omega
    have h3:¬ 34=c:=by omega
    have h4:¬ 29=c:=by omega
    have h5:¬ 17=c:=by omega
    simp only [efs,h1,h2,h3,h4,h5,reduceIte],by simp only [efs,reduceIte,Nat.reduceEqDiff],by simp only [efs,reduceIte,Nat.reduceEqDiff],by simp only [efs,reduceIte,Nat.reduceEqDiff]⟩
   have g1:=po.n
   have g2:=po.le
   have g3:=po.mle
   have hmul:H.kinds.length * (30+wide m')≤2 * (30+wide m'):=Nat.mul_le_mul_right _ (by omega)
   have St:=po.now
   have gq2:=(po.old q (by omega) (by omega) (by omega) nbq).trans gq1
   obtain ⟨pfz,gf⟩:=(F.at_ St).bf
   have kv:=(St.fam.puts (no:=fun _=>True) fun _ _ _=>trivial).okA
   have f0:=(fk 0 (by omega)).trans q0
   have f2:=(fk 2 (by omega)).trans q2
   have f8:=(fk 8 (by omega)).trans q8
   have f10:=(fk 10 (by omega)).trans q10
   obtain ⟨u,e5,p5⟩:=IH t v rest l ((List.range H.kinds.length).foldl (H.kindStep O i l) T1) (i+1) (by omega) St hg (by omega) (by omega) (by omega)
   simp (disch:=first|omega|with_unfolding_all rfl) only [vmJ,Abs.W,reduceIte,Nat.reduceEqDiff,Nat.reduceAdd,Nat.reduceSub,f0,f2,f8,f10,gf,kv,wQ,gq2,ad2,e5,Nat.zero_add]
   exact ⟨_,_,_,_,rfl,.inl rfl,(p1.trans po).trans p5,by omega⟩
 ·have hbt:decide (Bt (wplus (H.worth l) (H.hopeL (O.drop i))) (bump H.worth l T).1)=false:=decide_eq_false hB
  rw [hbt]
  have hT':srch H.kinds.length H.takesB H.worth H.rent (O.drop i) l T=bump H.worth l T:=by
   by_cases hi:i<O.length
   ·rw [vtJ hi,if_neg hB]
   ·rw [List.drop_eq_nil_of_le (by omega)];rfl
  rw [hT']
  simp (disch:=first|omega|with_unfolding_all rfl) only [Abs.W,reduceIte,Nat.reduceEqDiff,Nat.reduceAdd,Nat.reduceSub,Nat.zero_add]
  exact ⟨_,_,_,_,rfl,.inr rfl,p1,by omega⟩
theorem yzQ {M m:Nat} (hM:8≤M) {h0:Heap} {lo pt pc ph ps po pf hb p rb:Nat} {sc:List AV} {vo:AV} {H:HallR} {vW vS vB vK:AV} {O:List (Int × Int)} (ok:H.Ok) (F:SFix h0 lo pt pc ph ps po pf hb p rb sc H vW vS vB vK vo O) (hpp:pt≤pc) (IH:∀ m',m=m'+1→SOk M m' h0 lo pt pc ph ps po pf H O):SOk (M+1) m h0 lo pt pc ph ps po pf H O:=by
 intro s v rest l T i him S hg hl hs hm
 have hf:=hfar
 have htl:=F.lt.2.1
 have hcl:=F.lt.2.2
 have hlo:=S.lo
 obtain ⟨T',hT'⟩:∃ T',T'=srch H.kinds.length H.takesB H.worth H.rent (O.drop i) l T:=⟨_,rfl⟩
 rw [← hT']
 obtain ⟨w,t,mm,e,⟨rfl,q1,q2,q3,q4,q5,q6⟩,hm'⟩:=gcA (n:=M) (args:=[v,.agg [.int .i64 (H.worth l).1,.int .i64 (H.worth l).2],.int .i64 (i:Int),.ptr pt 0,.ptr pc 0,.ptr ph 0,.ptr ps 0,.ptr po 0,.ptr pf 0]) (s:=s) (Q:=fun w h n m'=>w=.tup []∧SNow h0 h n lo pt pc v rest l T'∧(∀ b,b<s.n→b≠pt→b≠pc→jN v≠some b→h.get b=s.h.get b)∧s.n≤n∧n≤s.n+wide m∧(∀ k,k≤pt→k≤pc→k≤m')∧(m'≤pt∨T'=T)) Try.func82 rfl (fun U uh un um=>by
  have S':=S
  rw [← uh,← un] at S'
  have hbl:=S'.fam.block
  obtain ⟨w,hw⟩:∃ w:St,w=U.new (.cells [.int .i64 (H.worth l).1,.int .i64 (H.worth l).2] (tag 120)):=⟨_,rfl⟩
  have wn:w.n=U.n+1:=by rw [hw];rfl
  have wm:w.m=far:=by rw [hw];exact um
  have wg:∀ c,c<U.n→w.h.get c=U.h.get c:=fun c hc=>by rw [hw,zH _ _ _ (by omega)]
  have wq:w.h.get U.n=some (.cells [.int .i64 (H.worth l).1,.int .i64 (H.worth l).2] (tag 120)):=by rw [hw];exact zM _ _ _ rfl (by omega)
  have Sw:SNow h0 w.h w.n lo pt pc v rest l T:=S'.grow wg (by omega) (by omega)
  rw [zXQ]
  unfold K82
  rw [wU]
  have e0:∃ L,(zD VtJ [10]) (call Try.prog X M) ⟨82,none,Try.f82.ntmps,X 82⟩ (zO 0 [v,.agg [.int .i64 (H.worth l).1,.int .i64 (H.worth l).2],.int .i64 (i:Int),.ptr pt 0,.ptr pc 0,.ptr ph 0,.ptr ps 0,.ptr po 0,.ptr pf 0] .nil) [] U=.done .norm L [] w∧L.find 0=v∧L.find 2=.int .i64 (i:Int)∧L.find 3=.ptr pt 0∧L.find 4=.ptr pc 0∧L.find 5=.ptr ph 0∧L.find 6=.ptr ps 0∧L.find 7=.ptr po 0∧L.find 8=.ptr pf 0∧L.find 10=.ptr U.n 0:=by
   simp (disch:=first|omega|with_unfolding_all rfl) only [VtJ,Abs.W,reduceIte,Nat.reduceEqDiff,Nat.reduceAdd,Nat.reduceSub]
   rw [← hw]
   refine ⟨_,rfl,?_,?_,?_,?_,?_,?_,?_,?_,?_⟩<;>simp only [zK,efs,reduceIte,Nat.reduceEqDiff]
  obtain ⟨L,e0,f0,f2,f3,f4,f5,f6,f7,f8,f10⟩:=e0
  rw [e0,vN]
  obtain ⟨e,L1,t1,kk,e1,he,po,hkk⟩:=vBQ M m hM ⟨82,none,Try.f82.ntmps,X 82⟩ ok F IH Sw hpp hg hl him ⟨by omega,by omega,fun h=>by have:=hbl _ h;omega⟩ wq (by omega) (by omega) f0 f2 f3 f4 f5 f6 f7 f8 f10
  rw [e1,← hT'] at *
  obtain ⟨r1,r2,r3,r4,r5,r6,r7⟩:=po
  have hfin:jr Try.prog Try.f82 (.done e L1 [] t1)=.val (.tup []) t1:=by
   rcases he with rfl | rfl
   ·rw [yHA,res82,WF]
   ·rw [gFA,res82,WF]
  refine ⟨_,_,hfin,⟨rfl,r1,fun b h1 h2 h3 h4=>by rw [r2 b (by omega) h2 h3 h4,wg b (by omega),uh],by omega,by omega,fun k h1 h2=>r5 k h1 h2 (by omega),r7⟩,fun _ hle=>?_⟩
  have hTT:T'=T:=by
   rcases r7 with h | h
   ·omega
   ·exact h
  exact ⟨rfl,by rw [hTT];exact S,fun _ _ _ _ _=>rfl,Nat.le_refl _,Nat.le_add_right _ _,fun k h1 h2=>r5 k h1 h2 (by omega),.inr hTT⟩)
 refine ⟨t,e,q1,q2,q3,q4,fun k h1 h2 h3=>?_,?_,?_⟩
 ·have:=q5 k h1 h2
  rcases hm' with ⟨_,hm'⟩ | ⟨_,hm'⟩<;>omega
 ·rcases hm' with ⟨_,hm'⟩ | ⟨_,hm'⟩<;>omega
 ·rcases q6 with h | h
  ·left
   rcases hm' with ⟨_,hm'⟩ | ⟨_,hm'⟩<;>omega
  ·exact .inr h
theorem s_ok {h0:Heap} {lo pt pc ph ps po pf hb p rb:Nat} {sc:List AV} {vo:AV} {H:HallR} {vW vS vB vK:AV} {O:List (Int × Int)} (ok:H.Ok) (F:SFix h0 lo pt pc ph ps po pf hb p rb sc H vW vS vB vK vo O) (hpp:pt≤pc):∀ (m N:Nat),9+m≤N→SOk N m h0 lo pt pc ph ps po pf H O
 | m,N,hN=>by
  obtain ⟨M,rfl⟩:∃ M,N=M+1:=⟨N - 1,by omega⟩
  refine yzQ (by omega) ok F hpp fun m' h=>?_
  subst h
  exact s_ok ok F hpp m' M (by omega)
 termination_by m=>m
theorem WTJ:∀ {m:Nat},m≤6→wide m≤60000
 | 0,_=>by decide
 | 1,_=>by decide
 | 2,_=>by decide
 | 3,_=>by decide
 | 4,_=>by decide
 | 5,_=>by decide
 | 6,_=>by decide
 | m+7,h=>by omega
def MadeAt (h:Heap) (lo n:Nat) (C:List PutR) (v:AV):Prop:=(C=[]∧v=.nilslice)∨∃ b,lo≤b∧b<n∧v=.slice b 0 C.length C.length true∧C≠[]∧h.get b=some (.cells (vC C) (3+tag 51))
theorem MadeAt.sl {h:Heap} {lo n:Nat} {C:List PutR} {v:AV} (r:MadeAt h lo n C v):Sl (fun b=>lo≤b) h n 3 (C.map PutR.row) v:=by
 have wd:∀ x ∈ C.map PutR.row,x.length=3:=fun x hx=>by obtain ⟨p,_,rfl⟩:=List.mem_map.mp hx;rfl
 rcases r with ⟨rfl,rfl⟩ | ⟨b,h1,h2,rfl,h4,h5⟩
 ·exact Sl.nil _ _ _ _
 ·refine ⟨wd,.inr ⟨b,0,C.length,true,_,_,h2,h1,⟨by rw [List.length_map];exact Nat.le_refl _,fun _=>List.length_pos_iff.mpr h4⟩,by rw [List.length_map],h5,?_⟩⟩
  rw [yJ,← jx wd]
  exact yr _
theorem VXJ {N:Nat} {no:Nat→Prop} {sc:List AV} {H:HallR} {vW vS vB vK v:AV} {rb p:Nat} {O:List (Int × Int)} {s:St} {r:ARes} (hr:call Try.prog X N (.fn 57) [.ptr p 0,v] s=r) (hN:20≤N) (hS:SiteC sc H vW vS vB vK rb) (ok:H.Ok) (hH:HallAt no s.h s.n H vW vS vB vK) (g:s.h.get p=some (vQ sc)) (gr:s.h.get rb=some (.cells (Zj p) 0)) (hp:p<s.n) (hrb:rb<s.n) (hO:Sl no s.h s.n 2 (O.map jC) v) (hin:∀ c ∈ O,H.In c) (h6:O.length≤6) (hk2:H.kinds.length≤2) (hs:s.n+200000≤far) :
  ∃ w t,r=.val w t∧New s t 70000∧MadeAt t.h s.n t.n (srch H.kinds.length H.takesB H.worth H.rent O [] ((0,0),[])).2 w:=by
 obtain ⟨M,rfl⟩:∃ M,N=M+1:=⟨N - 1,by omega⟩
 have hf:=hfar
 obtain ⟨T',hT'⟩:∃ T',T'=srch H.kinds.length H.takesB H.worth H.rent O [] ((0,0),[]):=⟨_,rfl⟩
 rw [← hT']
 obtain ⟨w,t,e,st,hQ⟩:=WO (n:=M) (args:=[.ptr p 0,v]) (s:=s) (k:=70000) (Q:=fun w h n=>MadeAt h s.n n T'.2 w) Try.func57 rfl (fun u uh un um=>by
  rw [← uh,← un] at hH hO
  rw [← uh] at g gr
  rw [← un] at hp hrb hs ⊢
  have kv:=hO.okA
  have bx:∀ sz s,vXA sz s v=.val (.ptr s.n 0) (s.new (.cells [v] sz)):=fun sz s=>by
   rcases hO.is with ⟨_,h⟩ | ⟨_,_,_,_,_,_,_,_,_,h,_⟩<;>rw [h]<;>rfl
  have bxp:∀ sz s,vXA sz s (.ptr p 0)=.val (.ptr s.n 0) (s.new (.cells [.ptr p 0] sz)):=fun _ _=>rfl
  obtain ⟨w,hw⟩:∃ w:St,w=(u.new (.cells [.ptr p 0] (tag 78))).new (.cells [v] (tag 25)):=⟨_,rfl⟩
  have wn:w.n=u.n+2:=by rw [hw];rfl
  have wm:w.m=far:=by rw [hw];exact um
  have wg:∀ c,c<u.n→w.h.get c=u.h.get c:=fun c hc=>by rw [hw,zH _ _ _ (by simp only [zW];omega),zH _ _ _ (by omega)]
  have w2:w.h.get u.n=some (.cells [.ptr p 0] (tag 78)):=by rw [hw,zH _ _ _ (by simp only [zW];omega)];exact zM _ _ _ rfl (by omega)
  have w3:w.h.get (u.n+1)=some (.cells [v] (tag 25)):=by rw [hw];exact zM _ _ _ rfl (by simp only [zW];omega)
  rw [zvQ]
  simp (disch:=first|omega|with_unfolding_all rfl) only [K57,K57r0,Abs.W,reduceIte,Nat.reduceEqDiff,Nat.reduceAdd,Nat.reduceSub,bx,bxp,zW]
  rw [← hw]
  simp (disch:=first|omega|with_unfolding_all rfl) only [yPQ,Abs.W,reduceIte,Nat.reduceEqDiff,Nat.reduceAdd,Nat.reduceSub,w2,w3,kv,Nat.zero_add]
  generalize hc1:call _ _ _ (.fn 81) _ _=r1
  obtain ⟨t1,hb,rfl,st1,hb1,hb2,hb3⟩:=WuJ hc1 (by omega) hS ok (hH.grow wg (by omega)) ((wg p hp).trans g) ((wg rb hrb).trans gr) (by omega) (by omega) (hO.grow wg (by omega)) hin (by omega) (by omega)
  have n1:=st1.n
  have k1:=st1.le
  have m1:t1.m=far:=st1.m.trans wm
  obtain ⟨vh,hvh⟩:∃ vh:AV,vh=.slice hb 0 (O.length+1) (O.length+1) false:=⟨_,rfl⟩
  have kh:∀ t,okA (.val vh t)=.val vh t:=fun t=>by rw [hvh];rfl
  rw [← hvh]
  obtain ⟨y,hy⟩:∃ y:St,y=(t1.new (.cells [.nilslice] (tag 117))).put t1.n (.cells [vh] (tag 117)):=⟨_,rfl⟩
  have sty:jM 1 (t1.new (.cells [.nilslice] (tag 117))) vh (.ptr t1.n 0)=.val .undef y:=by
   rw [hy];exact jZ (zM _ _ _ rfl (by omega)) (by show 0<1;omega) (by rw [hvh];rfl) (by rw [hvh];rfl)
  have yn:y.n=t1.n+1:=by rw [hy];rfl
  have ym:y.m=min far t1.n:=by rw [hy];simp only [St.put,zQ,jF,m1]
  have yg:∀ c,c<t1.n→y.h.get c=t1.h.get c:=fun c hc=>by rw [hy,zL _ _ _ _ (by omega),zH _ _ _ (by omega)]
  have yp:y.h.get t1.n=some (.cells [vh] (tag 117)):=by rw [hy];exact zN _ _ _ _ rfl (by omega)
  simp (disch:=first|omega|with_unfolding_all rfl) only [Abs.W,reduceIte,Nat.reduceEqDiff,Nat.reduceAdd,Nat.reduceSub,kh,sty,Nat.zero_add]
  clear hy sty
  obtain ⟨x,hx⟩:∃ x:St,x=((y.new (.cells [.int .i64 0,.int .i64 0] (tag 120))).new (.cells [.nilslice] (tag 32))).new (.cells [.nilfunc] (tag 121)):=⟨_,rfl⟩
  have xn:x.n=y.n+3:=by rw [hx];rfl
  have xm:x.m=y.m:=by rw [hx];rfl
  have xg:∀ c,c<y.n→x.h.get c=y.h.get c:=fun c hc=>by rw [hx,zH _ _ _ (by simp only [zW];omega),zH _ _ _ (by simp only [zW];omega),zH _ _ _ (by omega)]
  have x1:x.h.get y.n=some (.cells [.int .i64 0,.int .i64 0] (tag 120)):=by rw [hx,zH _ _ _ (by simp only [zW];omega),zH _ _ _ (by simp only [zW];omega)];exact zM _ _ _ rfl (by omega)
  have x2:x.h.get (y.n+1)=some (.cells [.nilslice] (tag 32)):=by rw [hx,zH _ _ _ (by simp only [zW];omega)];exact zM _ _ _ rfl (by simp only [zW];omega)
  have x3:x.h.get (y.n+2)=some (.cells [.nilfunc] (tag 121)):=by rw [hx];exact zM _ _ _ rfl (by simp only [zW];omega)
  simp (disch:=first|omega|with_unfolding_all rfl) only [yOQ,K57r3,K57r4,Abs.W,reduceIte,Nat.reduceEqDiff,Nat.reduceAdd,Nat.reduceSub,zW,Nat.zero_add]
  rw [← hx]
  obtain ⟨z,hz⟩:∃ z:St,z=x.put (y.n+2) (.cells [.func 82 [] [.ptr y.n 0,.ptr (y.n+1) 0,.ptr t1.n 0,.ptr u.n 0,.ptr (u.n+1) 0,.ptr (y.n+2) 0]] (tag 121)):=⟨_,rfl⟩
  have stz:jM 1 x (.func 82 [] [.ptr y.n 0,.ptr (y.n+1) 0,.ptr t1.n 0,.ptr u.n 0,.ptr (u.n+1) 0,.ptr (y.n+1+1) 0]) (.ptr (y.n+1+1) 0)=.val .undef z:=by
   rw [hz];exact jZ x3 (by show 0<1;omega) rfl rfl
  have zn:z.n=y.n+3:=by rw [hz,jB];exact xn
  have zm:z.m=min (min far t1.n) (y.n+2):=by rw [hz];simp only [St.put,zQ,xm,ym]
  have zg:∀ c,c≠y.n+2→z.h.get c=x.h.get c:=fun c hc=>by rw [hz,zL _ _ _ _ hc]
  have z8:z.h.get (y.n+2)=some (.cells [.func 82 [] [.ptr y.n 0,.ptr (y.n+1) 0,.ptr t1.n 0,.ptr u.n 0,.ptr (u.n+1) 0,.ptr (y.n+2) 0]] (tag 121)):=by rw [hz];exact zN _ _ _ _ rfl (by omega)
  simp (disch:=first|omega|with_unfolding_all rfl) only [yNQ,Abs.W,reduceIte,Nat.reduceEqDiff,Nat.reduceAdd,Nat.reduceSub,VQA,stz,Nat.zero_add]
  clear hz stz hx
  have zy:∀ c,c<y.n→z.h.get c=y.h.get c:=fun c hc=>(zg c (by omega)).trans (xg c hc)
  have zt:∀ c,c<t1.n→z.h.get c=t1.h.get c:=fun c hc=>(zy c (by omega)).trans (yg c hc)
  have zu:∀ c,c<u.n→z.h.get c=u.h.get c:=fun c hc=>(zt c (by omega)).trans ((st1.same c (by omega)).trans (wg c hc))
  have z2:=(zt u.n (by omega)).trans ((st1.same u.n (by omega)).trans w2)
  have z3:=(zt (u.n+1) (by omega)).trans ((st1.same (u.n+1) (by omega)).trans w3)
  have zh:=(zy t1.n (by omega)).trans yp
  have z6:=(zg y.n (by omega)).trans x1
  have z7:=(zg (y.n+1) (by omega)).trans x2
  have zb:=(zt hb hb2).trans hb3
  have F:SFix z.h z.n y.n (y.n+1) t1.n u.n (u.n+1) (y.n+2) hb p rb sc H vW vS vB vK v O :=
   { bh:=by rw [zh,hvh],bb:=zb,bs:=z2,bo:=z3,bf:=⟨_,z8⟩,c:=hS,g:=(zu p hp).trans g,gr:=(zu rb hrb).trans gr,hH:=hH.move (fun b h1 _=>⟨zu b h1,by omega,by omega⟩) (by omega),hO:=hO.move (fun b h1 _=>⟨zu b h1,by omega,by omega⟩) (by omega),lt:=⟨⟨by omega,by omega,by omega,by omega,by omega,by omega,by omega⟩,by omega,by omega⟩,ne:=⟨⟨by omega,by omega,by omega,by omega,by omega,by omega,by omega⟩,⟨by omega,by omega,by omega,by omega,by omega,by omega,by omega⟩,by omega⟩,oin:=hin,o8:=h6,k2:=hk2 }
  have S:SNow z.h z.h z.n z.n y.n (y.n+1) .nilslice [] [] ((0,0),[]) :=
   ⟨fun _ _ _ _=>rfl,z6,⟨.nilslice,z7,.inl ⟨rfl,rfl⟩⟩,.inl ⟨rfl,rfl,rfl⟩,Nat.le_refl _⟩
  have hwl:=WTJ h6
  obtain ⟨t2,e2,po⟩:=s_ok ok F (Nat.le_succ _) O.length M (by omega) z .nilslice [] [] ((0,0),[]) 0 (Nat.zero_add _) S (gZ ok) (Nat.le_refl _) (by omega) (by omega)
  have hw0:H.worth []=(0,0):=rfl
  rw [hw0,List.drop_zero,← hT'] at *
  have e2':call Try.prog X M (.fn 82) [.nilslice,.agg [.int .i64 0,.int .i64 0],.int .i64 0,.ptr y.n 0,.ptr (y.n+1) 0,.ptr t1.n 0,.ptr u.n 0,.ptr (u.n+1) 0,.ptr (y.n+2) 0] z=.val (.tup []) t2:=e2
  obtain ⟨r1,r2,r3,r4,r5,r6,r7⟩:=po
  obtain ⟨_,_,⟨vc,c1,c2⟩,_,_⟩:=r1
  have kc:∀ t,okA (.val vc t)=.val vc t:=fun t=>by
   rcases c2 with ⟨_,h⟩ | ⟨_,_,_,h,_⟩<;>rw [h]<;>rfl
  have z8':z.h.get (y.n+1+1)=_:=z8
  simp (disch:=first|omega|with_unfolding_all rfl) only [yMQ,K57r7,Abs.W,reduceIte,Nat.reduceEqDiff,Nat.reduceAdd,Nat.reduceSub,z8',wQ,e2',c1,kc,Nat.zero_add]
  rw [res57]
  simp (disch:=first|omega|with_unfolding_all rfl) only [Abs.W,reduceIte,Nat.reduceEqDiff,Nat.reduceAdd,Nat.reduceSub,kc]
  refine ⟨_,_,rfl,⟨fun c hc=>?_,by omega,by omega,?_,by omega⟩,?_,fun hp=>?_⟩
  ·exact (r2 c (by omega) (by omega) (by omega) (by simp [jN])).trans (zu c hc)
  ·exact r5 u.n (by omega) (by omega) (by omega)
  ·rcases c2 with h | ⟨bc,h1,h2,h3,h4,_,h6⟩
   ·exact .inl h
   ·exact .inr ⟨bc,by omega,h2,h3,h4,h6⟩
  ·rcases c2 with h | ⟨bc,h1,h2,h3,h4,_,h6⟩
   ·exact .inl h
   ·rw [h3] at hp;cases hp)
 exact ⟨w,t,hr.symm.trans e,st,hQ⟩
theorem wjJ {N:Nat} {no:Nat→Prop} {H:HallR} {vW vS vB vK:AV} {s:St} {r:ARes} (hr:call Try.prog X N (.fn 29) [.agg (zP H vW vS vB vK)] s=r) (hN:30≤N) (ok:H.Ok) (hH:HallAt no s.h s.n H vW vS vB vK) (h6:H.opens.length≤6) (hk2:H.kinds.length≤2) (hs:s.n+300000≤far) :
  ∃ w t,r=.val (.tup [w,.int .i64 0]) t∧New s t 90000∧MadeAt t.h s.n t.n H.best.2 w:=by
 obtain ⟨M,rfl⟩:∃ M,N=M+1:=⟨N - 1,by omega⟩
 have hf:=hfar
 obtain ⟨vv,t,e,st,w,rfl,hQ⟩:=WO (n:=M) (args:=[.agg (zP H vW vS vB vK)]) (s:=s) (k:=90000) (Q:=fun v h n=>∃ w,v=.tup [w,.int .i64 0]∧MadeAt h s.n n H.best.2 w) Try.func29 rfl (fun u uh un um=>by
  rw [← uh,← un] at hH
  rw [← un] at hs ⊢
  obtain ⟨w,hw⟩:∃ w:St,w=u.new (.cells (zP H vW vS vB vK) (tag 30)):=⟨_,rfl⟩
  have wn:w.n=u.n+1:=by rw [hw];rfl
  have wm:w.m=far:=by rw [hw];exact um
  have wg:∀ c,c<u.n→w.h.get c=u.h.get c:=fun c hc=>by rw [hw,zH _ _ _ (by omega)]
  have w1:w.h.get u.n=some (.cells (zP H vW vS vB vK) (tag 30)):=by rw [hw];exact zM _ _ _ rfl (by omega)
  have hHw:HallAt no w.h w.n H vW vS vB vK:=hH.grow wg (by omega)
  have eck:=jKA M (by omega) H ok vW vS vB vK w hHw (by omega)
  have z0:decide ((0:Int)=0)=true:=rfl
  rw [jPQ]
  simp (disch:=first|omega|with_unfolding_all rfl) only [K29,K29r0,Abs.W,reduceIte,Nat.reduceEqDiff,Nat.reduceAdd,Nat.reduceSub,zW]
  rw [← hw]
  simp (disch:=first|omega|with_unfolding_all rfl) only [yjQ,K29r2,K29r4,Abs.W,reduceIte,Nat.reduceEqDiff,Nat.reduceAdd,Nat.reduceSub,w1,eck,z0,Nat.zero_add]
  generalize hc1:call _ _ _ (.fn 44) _ _=r1
  obtain ⟨t1,p,rfl,st1,hp,sc,rb,hC,hpn,hrb,g,gr⟩:=jgA hc1 (by omega) ok hHw (by omega)
  have n1:=st1.n
  have k1:=st1.le
  have m1:t1.m=far:=st1.m.trans wm
  have t1g:∀ c,c<u.n→t1.h.get c=u.h.get c:=fun c hc=>(st1.same c (by omega)).trans (wg c hc)
  simp (disch:=first|omega|with_unfolding_all rfl) only [yiQ,Abs.W,reduceIte,Nat.reduceEqDiff,Nat.reduceAdd,Nat.reduceSub,Nat.zero_add]
  generalize hc2:call _ _ _ (.fn 56) _ _=r2
  obtain ⟨vo,t2,rfl,st2,hO⟩:=JsJ hc2 (by omega) hC ok g hpn (by omega)
  have n2:=st2.n
  have k2:=st2.le
  have m2:t2.m=far:=st2.m.trans m1
  have ko:=hO.okA
  have lo:=YM hO
  have d8:decide ((8:Int)<(H.opens.length:Int))=false:=decide_eq_false (by omega)
  simp (disch:=first|omega|with_unfolding_all rfl) only [yhQ,K29r8,Abs.W,reduceIte,Nat.reduceEqDiff,Nat.reduceAdd,Nat.reduceSub,ko,lo,d8,Nat.zero_add]
  generalize hc3:call _ _ _ (.fn 57) _ _=r3
  have hH2:HallAt (fun _=>True) t2.h t2.n H vW vS vB vK:=hH.move (fun c h1 _=>⟨(st2.same c (by omega)).trans (t1g c h1),trivial⟩) (by omega)
  obtain ⟨vc,t3,rfl,st3,hM⟩:=VXJ (no:=fun _=>True) hc3 (by omega) hC ok hH2 ((st2.same p (by omega)).trans g) ((st2.same rb (by omega)).trans gr) (by omega) (by omega) (hO.move (fun c _ _=>⟨rfl,trivial⟩) (Nat.le_refl _)) (fun c hc=>ZS ok.w0 c (List.mem_filter.mp hc).1) h6 hk2 (by omega)
  have n3:=st3.n
  have k3:=st3.le
  have m3:t3.m=far:=st3.m.trans m2
  have kc:∀ t,okA (.val vc t)=.val vc t:=hM.sl.okA
  simp (disch:=first|omega|with_unfolding_all rfl) only [Abs.W,reduceIte,Nat.reduceEqDiff,Nat.reduceAdd,Nat.reduceSub,kc,Nat.zero_add]
  rw [res29,jxA]
  simp only [efs,zK,reduceIte,Nat.reduceEqDiff]
  have hb:srch H.kinds.length H.takesB H.worth H.rent H.opens [] ((0,0),[])=H.best:=rfl
  rw [hb] at hM
  refine ⟨_,_,rfl,⟨fun c hc=>(st3.same c (by omega)).trans ((st2.same c (by omega)).trans (t1g c hc)),by omega,by omega,by omega,by omega⟩,⟨vc,rfl,?_⟩,fun hpl=>?_⟩
  ·rcases hM with h | ⟨b,h1,h2,h3⟩
   ·exact .inl h
   ·exact .inr ⟨b,by omega,h2,h3⟩
  ·rcases hM with h | ⟨b,h1,h2,h3,_⟩
   ·exact ⟨vc,rfl,.inl h⟩
   ·rw [h3] at hpl;cases hpl)
 exact ⟨w,t,hr.symm.trans e,st,hQ⟩
theorem jBJ (N:Nat) (hN:10≤N) {no:Nat→Prop} {H:HallR} {vW vS vB vK:AV} {l:List PutR} {v:AV} {s:St} (ok:H.Ok) (hH:HallAt no s.h s.n H vW vS vB vK) (hR:Sl no s.h s.n 3 (l.map PutR.row) v) (hl:∀ q ∈ l,q.In H) (hl1:l.length≤24) (hv:H.Valid l) (hs:s.n+60000≤far) :
  call Try.prog X N (.fn 23) [.agg (zP H vW vS vB vK),v] s=.val (.tup [.int .i64 (tot (H.rents l) 0),.int .i64 0]) s:=by
 obtain ⟨n,rfl⟩:∃ n,N=n+1:=⟨N - 1,by omega⟩
 have hf:=hfar
 refine zj Try.func23 (fun u uh un um=>?_) rfl
 rw [← uh,← un] at hH hR
 have kv:=hR.okA
 have lv:=jfA hR
 obtain ⟨w,hw⟩:∃ w:St,w=u.new (.cells (zP H vW vS vB vK) (tag 30)):=⟨_,rfl⟩
 have wn:w.n=u.n+1:=by rw [hw];rfl
 have wm:w.m=far:=by rw [hw];exact um
 have wg:∀ c,c<u.n→w.h.get c=u.h.get c:=fun c hc=>by rw [hw,zH _ _ _ (by omega)]
 have w0:w.h.get u.n=some (.cells (zP H vW vS vB vK) (tag 30)):=by rw [hw];exact zM _ _ _ rfl (by omega)
 have hHw:HallAt no w.h w.n H vW vS vB vK:=hH.grow wg (by omega)
 have hRw:=hR.grow wg (by omega:u.n≤w.n)
 obtain ⟨e0,ec,hz⟩:=Ve (N:=n) rfl (by omega) ok hHw hRw hl hl1 (by omega)
 rw [hz.mpr hv] at ec
 have z0:decide ((0:Int)=0)=true:=rfl
 rw [jSQ]
 simp (disch:=first|omega|with_unfolding_all rfl) only [K23,K23r0,Abs.W,reduceIte,Nat.reduceEqDiff,Nat.reduceAdd,Nat.reduceSub]
 rw [← hw]
 simp (disch:=first|omega|with_unfolding_all rfl) only [ykQ,K23r2,K23r4,K23r5,Abs.W,reduceIte,Nat.reduceEqDiff,Nat.reduceAdd,Nat.reduceSub,w0,kv,lv,ec,z0,Nat.zero_add]
 generalize hlp:jK _ rounds _ _ _ _ _=rl1
 obtain ⟨eE,L1,t3,rfl,rfl,q7,sg,sn,sm⟩:=jO hlp (fun i L t=>(∀ c,c<w.n→t.h.get c=w.h.get c)∧w.n≤t.n∧t.n≤w.n+i∧w.n≤t.m∧L.find 2=.ptr u.n 0∧L.find 7=.int .i64 (tot (H.rents (l.take i)) 0)∧L.find 16=v∧L.find 17=.int .i64 (l.length:Int)∧L.find 18=.int .i64 (i:Int))
  (fun e L t=>e=.exit 0∧L.find 7=.int .i64 (tot (H.rents l) 0)∧(∀ c,c<w.n→t.h.get c=w.h.get c)∧w.n≤t.n∧w.n≤t.m) l.length (by unfold rounds;omega)
  ⟨fun _ _=>rfl,Nat.le_refl _,by omega,by omega,(by simp only [zK,efs,reduceIte,Nat.reduceEqDiff]),(by simp only [zK,efs,reduceIte,Nat.reduceEqDiff];rfl),(by simp only [zK,efs,reduceIte,Nat.reduceEqDiff]),(by simp only [zK,efs,reduceIte,Nat.reduceEqDiff]),(by simp only [zK,efs,reduceIte,Nat.reduceEqDiff];rfl)⟩
  (fun i L t hi ⟨tg,tn,tl,tm,q2,q7,q16,q17,q18⟩=>by
   by_cases hlt:i<l.length
   ·have e0:decide ((i:Int)<(l.length:Int))=true:=decide_eq_true (by omega)
    have ad:∀ s,jI s .i64 (i:Int) 1=.val (.int .i64 ((i:Int)+1)) s:=fun s=>za s _ _ (by omega)
    have tu:∀ c,c<u.n→t.h.get c=u.h.get c:=fun c hc=>(tg c (by omega)).trans (wg c hc)
    have hRt:=hR.grow (h':=t.h) (n':=t.n) tu (by omega)
    have hKt:KindsAt no t.h t.n H.kinds vK:=hH.k.move (fun c h1 h2=>⟨tu c h1,h2⟩) (by omega)
    have hsn:=yNJ H hlt
    have hbd:=WsA ok (l:=l.take i) (fun p hp=>hl p (List.mem_of_mem_take hp)) (by rw [List.length_take];omega)
    have hIn:=hl _ (List.getElem_mem hlt)
    obtain ⟨b,bp,c,szz,⟨r1,_⟩,r2,r3,r4⟩:=wJA hRt hlt
    generalize l[i]=P at *
    have hkP:=vP ok hIn.k
    obtain ⟨aw,kb,ko,kc,ksz,⟨kb1,_⟩,kb2,kb3,_,_,_,_,kcut⟩:=hKt.cells hIn.k
    have kK:=hKt.okA
    have kc4:nth kc (ko+4)=.int .i64 (H.kind P.kind).rent:=(WL kcut (by omega)).trans rfl
    have hr0:=hkP.r0
    have hr1:=hkP.r1
    have ad2:∀ s,jI s .i64 (tot (H.rents (l.take i)) 0) (H.kind P.kind).rent=.val (.int .i64 (tot (H.rents (l.take i)) 0+(H.kind P.kind).rent)) s:=fun s=>za s _ _ (by omega)
    have t0:=(tg u.n (by omega)).trans w0
    have okR:∀ t,okA (.val (.agg P.row) t)=.val (.agg P.row) t:=fun _=>rfl
    have okR':∀ (a b c:Int) t,okA (.val (.agg [.int .i64 a,.int .i64 b,.int .i64 c]) t)=.val (.agg [.int .i64 a,.int .i64 b,.int .i64 c]) t:=fun _ _ _ _=>rfl
    obtain ⟨z,hz⟩:∃ z:St,z=(t.new (.cells [.int .i64 0,.int .i64 0,.int .i64 0] (tag 51))).put t.n (.cells P.row (tag 51)):=⟨_,rfl⟩
    have stz:jM 3 (t.new (.cells [.int .i64 0,.int .i64 0,.int .i64 0] (tag 51))) (.agg P.row) (.ptr t.n 0)=.val .undef z:=by
     rw [hz];exact jk _ 3 _ _ _ _ (zM _ _ _ rfl (by omega)) rfl rfl rfl
    have zn:z.n=t.n+1:=by rw [hz];rfl
    have zm:z.m=min t.m t.n:=by rw [hz];simp only [St.put,zQ,jF]
    have zg:∀ c,c<t.n→z.h.get c=t.h.get c:=fun c hc=>by rw [hz,zL _ _ _ _ (by omega),zH _ _ _ (by omega)]
    have z9:z.h.get t.n=some (.cells P.row (tag 51)):=by rw [hz];exact zN _ _ _ _ rfl (by omega)
    have zu:=(zg u.n (by omega)).trans t0
    have zk:=(zg kb (by omega)).trans kb3
    have n2:nth P.row 2=.int .i64 (P.kind:Int):=rfl
    clear hz
    refine .inl ⟨hlt,?_⟩
    simp (disch:=first|omega|with_unfolding_all rfl) only [WHJ,K23r6,K23r7,K23r8,K23r9,Abs.W,reduceIte,Nat.reduceEqDiff,Nat.reduceAdd,Nat.reduceSub,Nat.zero_add,q2,q7,q16,q17,q18,kv,e0,r2,r3,r4,okR,stz,zu,kK,z9,n2,kb2,zk,kc4,ad2,ad]
    refine ⟨_,_,rfl,fun c hc=>(zg c (by omega)).trans (tg c hc),by omega,by omega,by omega,?_,?_,?_,?_,?_⟩
    ·simp only [efs,q2,reduceIte,Nat.reduceEqDiff]
    ·rw [hsn];simp only [efs,reduceIte,Nat.reduceEqDiff]
    ·simp only [efs,q16,reduceIte,Nat.reduceEqDiff]
    ·simp only [efs,q17,reduceIte,Nat.reduceEqDiff]
    ·simp only [efs,reduceIte,Nat.reduceEqDiff];rfl
   ·obtain rfl:i=l.length:=by omega
    have e0:decide ((l.length:Int)<(l.length:Int))=false:=by simp
    rw [List.take_length] at q7
    refine .inr ⟨.exit 0,L.set 19 (.bool false),t,by simp,?_,rfl,?_,tg,tn,tm⟩
    ·simp (disch:=first|omega|with_unfolding_all rfl) only [WHJ,K23r6,Abs.W,reduceIte,Nat.reduceEqDiff,Nat.reduceAdd,Nat.reduceSub,q17,q18,e0]
    ·simp only [efs,q7,reduceIte,Nat.reduceEqDiff])
 simp (disch:=first|omega|with_unfolding_all rfl) only [WGJ,Abs.W,reduceIte,Nat.reduceEqDiff,Nat.reduceAdd,Nat.reduceSub,q7,res23,jxA]
 exact ⟨_,rfl,by omega⟩
structure GJ (t0 t:St) (d p4 lo b3:Nat) (H:HallR) (Bs:List Int) (vW vS v3 vK:AV):Prop where
 die:Die d t.h
 g4:t.h.get p4=some (.cells (zP H vW vS v3 vK) (tag 30))
 is:IsAt t.h t.n b3 1 (tag 3) (jA Bs) v3
 b:lo≤b3∧(b3<t.n∨far<b3)
 old:∀ c,c<lo→c≠d→c≠p4→t.h.get c=t0.h.get c
 n:lo≤t.n
 m:d≤t.m∧t.m≤far
 p:(d<lo∧p4<lo)∧d<p4
theorem WxJ (n:Nat) (hn:20≤n) (cx:Ctx) {t0 t:St} {d p4 lo b3 k:Nat} {H:HallR} {Bs:List Int} {vW vS v3 vK:AV} {L:Env} (J:GJ t0 t d p4 lo b3 H Bs vW vS v3 vK) (hl:Bs.length≤30) (hk:k+1≤30) (hs:t.n+1000≤far)
  (q3:L.find 3=.ptr d 0) (q4:L.find 4=.ptr p4 0) (q5:L.find 5=.int .i64 ((k+1:Nat):Int)) :
  ∃ L1 t1 x v1 b1,ZpJ (awd n) cx L [] t=.done .norm L1 [] t1∧GJ t0 t1 d p4 lo b1 H (Bs++[x]) vW vS v1 vK∧(0≤x∧x≤150)∧t1.n≤t.n+5∧t.n≤t1.n∧L1.find 3=.ptr d 0∧L1.find 4=.ptr p4 0∧L1.find 5=.int .i64 (k:Int):=by
 have hf:=hfar
 have knC:∀ args s,awd n (.fn 25) args s=call Try.prog X n (.fn 25) args s:=fun _ _=>rfl
 obtain ⟨jd,jg,ji,jb,jo,jn,jm,jp⟩:=J
 have e0:decide ((0:Int)<((k+1:Nat):Int))=true:=decide_eq_true (by omega)
 have kv:∀ t,okA (.val v3 t)=.val v3 t:=ji.okA
 have ad:∀ s,yK s .i64 ((k+1:Nat):Int) 1=.val (.int .i64 (k:Int)) s:=fun s=>by rw [je s _ _ (by omega)];congr 2;omega
 simp (disch:=first|omega|with_unfolding_all rfl) only [ZpJ,K9r7,K9r8,Abs.W,reduceIte,Nat.reduceEqDiff,Nat.reduceAdd,Nat.reduceSub,q3,q4,q5,jg,kv,e0,knC,Nat.zero_add,Nat.add_zero]
 generalize hc1:call _ _ _ (.fn 25) _ _=r1
 obtain ⟨x,t1,rfl,st1,d1,x0,x1⟩:=we hc1 (by omega) jd (by show d<t.n;omega) (by show t.n+100≤far;omega) (by omega)
 have n1:t.n≤t1.n:=st1.n
 have k1:t1.n≤t.n:=st1.le
 have m1:d≤t1.m:=st1.m (by show d≤far;omega)
 have g1:∀ c,c<t.n→c≠d→t1.h.get c=t.h.get c:=fun c hc hcd=>st1.same c hc hcd
 simp (disch:=first|omega|with_unfolding_all rfl) only [vZ,Abs.W,reduceIte,Nat.reduceEqDiff,Nat.reduceAdd,Nat.reduceSub,Nat.zero_add]
 obtain ⟨y8,hy8⟩:∃ y8:St,y8=⟨t1.h,t1.n,yA t.m t1.m⟩:=⟨_,rfl⟩
 have y8n:y8.n=t1.n:=by rw [hy8]
 have y8h:y8.h=t1.h:=by rw [hy8]
 have y8m:y8.m=min t.m t1.m:=by rw [hy8];simp only [zQ]
 rw [← hy8]
 obtain ⟨y,hy⟩:∃ y:St,y=y8.new (.cells [.int .i64 x] 0):=⟨_,rfl⟩
 have yn:y.n=t1.n+1:=by rw [hy];show y8.n+1=_;rw [y8n]
 have ym:y.m=y8.m:=by rw [hy];rfl
 have yg:∀ c,c<t1.n→y.h.get c=t1.h.get c:=fun c hc=>by rw [hy,zH _ _ _ (by omega),y8h]
 have yp:y.h.get t1.n=some (.cells [.int .i64 x] 0):=by rw [hy,← y8n];exact zM _ _ _ rfl (by omega)
 have gy:∀ c,c<t.n→c≠d→y.h.get c=t.h.get c:=fun c hc hcd=>(yg c (by omega)).trans (g1 c hc hcd)
 obtain ⟨s7,e7,l7,s7n,s7g,s7m,s7l⟩:=vI (bytes:=8) (ji.mono (h':=y.h) (n':=y.n) (fun h=>gy b3 h (by omega)) (by omega)) yp rfl rfl (by rw [jc];omega) (by kernel_rfl) (by omega)
 rw [jc] at e7 l7
 obtain ⟨v7,hv7⟩:∃ v7,v7=AV.slice y.n 0 (Bs.length+1) (Bs.length+1) true:=⟨_,rfl⟩
 rw [← hv7] at e7 l7
 rw [hy] at e7
 have e7':jT false 1 8 (tag 3) (y8.new (.cells [.int .i64 x] 0)) v3 (.slice t1.n 0 1 1 false)=.val v7 s7:=by rw [← y8n];rw [y8n];exact e7
 have sc7:scalars [v7]=true:=by rw [hv7];rfl
 have cc7:cellsOf 1 v7=some [v7]:=by rw [hv7];rfl
 have gs:∀ c,c<t.n→c≠b3→c≠d→s7.h.get c=t.h.get c:=fun c hc hcb hcd=>(s7g c (by omega) hcb).trans (gy c hc hcd)
 have s9:=(gs p4 (by omega) (by omega) (by omega)).trans jg
 obtain ⟨Y,hY⟩:∃ Y:St,Y=s7.put p4 (.cells (zP H vW vS v7 vK) (tag 30)):=⟨_,rfl⟩
 have stY:jM 1 s7 v7 (.ptr p4 6)=.val .undef Y:=by
  rw [hY];exact jZ s9 (by show 6<8;omega) cc7 sc7
 have Yn:Y.n=s7.n:=by rw [hY,jB]
 have Ym:Y.m=min s7.m p4:=by rw [hY];simp only [St.put,zQ]
 have Y4:Y.h.get p4=some (.cells (zP H vW vS v7 vK) (tag 30)):=by rw [hY];exact zN _ _ _ _ rfl (by omega)
 have Yg:∀ c,c≠p4→Y.h.get c=s7.h.get c:=fun c hc=>by rw [hY,zL _ _ _ _ hc]
 clear hY
 simp (disch:=first|omega|with_unfolding_all rfl) only [Abs.W,reduceIte,Nat.reduceEqDiff,Nat.reduceAdd,Nat.reduceSub,y8n,e7',q4,stY,Nat.zero_add,Nat.add_zero]
 rw [wG (l:=[42]) (s':=t1) (by simp only [vA,vL,zK,efs,wA,jg,(g1 p4 (by omega) (by omega)).trans jg,yx,reduceIte,Nat.reduceEqDiff,Bool.and_self])]
 rw [wY _ (vH _)]
 simp (disch:=first|omega|with_unfolding_all rfl) only [K9r9,Abs.W,reduceIte,Nat.reduceEqDiff,Nat.reduceAdd,Nat.reduceSub,q5,ad,Nat.zero_add]
 have hcells:jA Bs++[[AV.int .i64 x]]=jA (Bs++[x]):=(Ya _ _).symm
 rw [hcells] at l7
 have s7m':=s7m d (by omega) (by omega) (by omega)
 refine ⟨_,Y,x,v7,y.n,rfl,⟨?_,Y4,l7.mono (fun _=>Yg _ (by omega)) (by omega),⟨by omega,.inl (by omega)⟩,fun c h1 h2 h3=>?_,by omega,by omega,jp⟩,⟨x0,by omega⟩,by omega,by omega,?_,?_,?_⟩
 ·exact d1.keep (by rw [Yg d (by omega),s7g d (by omega) (by omega),yg d (by omega)])
 ·rw [Yg c h3];exact (gs c (by omega) (by omega) h2).trans (jo c h1 h2 h3)
 ·simp only [efs,q3,reduceIte,Nat.reduceEqDiff]
 ·simp only [efs,q4,reduceIte,Nat.reduceEqDiff]
 ·simp only [efs,reduceIte,Nat.reduceEqDiff]
theorem vYQ (n:Nat) (hn:20≤n) (cx:Ctx) {t0 t:St} {d p4 lo nb:Nat} {H:HallR} {vW vS vK:AV} {L:Env} {r:R} (hr:jK ZpJ rounds (awd n) cx L [] t=r) (J:GJ t0 t d p4 lo (far+9) H [] vW vS .nilslice vK) (hnb:nb≤24) (hs:t.n+3000≤far)
  (q3:L.find 3=.ptr d 0) (q4:L.find 4=.ptr p4 0) (q5:L.find 5=.int .i64 (nb:Int)) :
  ∃ L1 t1 Bs v1 b1,r=.done (.exit 0) L1 [] t1∧Bs.length=nb∧(∀ x ∈ Bs,0≤x∧x≤150)∧GJ t0 t1 d p4 lo b1 H Bs vW vS v1 vK∧t1.n≤t.n+120∧t.n≤t1.n∧L1.find 3=.ptr d 0∧L1.find 4=.ptr p4 0:=by
 have hf:=hfar
 obtain ⟨e,L1,t1,rfl,rfl,Bs,v1,b1,h1,h2,h3,h4,h5,h6,h7⟩:=jO hr
  (fun i L' t'=>∃ (Bs:List Int) (v:AV) (b:Nat),Bs.length=i∧(∀ x ∈ Bs,0≤x∧x≤150)∧GJ t0 t' d p4 lo b H Bs vW vS v vK∧t'.n≤t.n+5 * i∧t.n≤t'.n∧L'.find 3=.ptr d 0∧L'.find 4=.ptr p4 0∧L'.find 5=.int .i64 ((nb - i:Nat):Int))
  (fun e L' t'=>e=.exit 0∧∃ (Bs:List Int) (v:AV) (b:Nat),Bs.length=nb∧(∀ x ∈ Bs,0≤x∧x≤150)∧GJ t0 t' d p4 lo b H Bs vW vS v vK∧t'.n≤t.n+120∧t.n≤t'.n∧L'.find 3=.ptr d 0∧L'.find 4=.ptr p4 0) nb (by unfold rounds;omega)
  ⟨[],.nilslice,far+9,rfl,fun _ h=>(by cases h),J,by omega,Nat.le_refl _,q3,q4,by rw [Nat.sub_zero];exact q5⟩
  (fun i L' t' hi ⟨Bs,v,b,z1,z2,z3,z4,z5,z6,z7,z8⟩=>by
   by_cases hlt:i<nb
   ·obtain ⟨k,hk⟩:∃ k,nb - i=k+1:=⟨nb - i - 1,by omega⟩
    rw [hk] at z8
    obtain ⟨L2,t2,x,v2,b2,r1,r2,r3,r4,r5,r6,r7,r8⟩:=WxJ n hn cx z3 (by omega) (by omega) (by omega) z6 z7 z8
    refine .inl ⟨hlt,L2,t2,r1,Bs++[x],v2,b2,by rw [List.length_append,z1];rfl,fun y hy=>?_,r2,by omega,by omega,r6,r7,by rw [r8];congr 2;omega⟩
    rcases List.mem_append.mp hy with h | h
    ·exact z2 y h
    ·rw [List.mem_singleton.mp h];exact r3
   ·obtain rfl:i=nb:=by omega
    have e0:decide ((0:Int)<((i - i:Nat):Int))=false:=decide_eq_false (by omega)
    refine .inr ⟨.exit 0,L'.set 39 (.bool false),t',by simp,?_,rfl,Bs,v,b,z1,z2,z3,by omega,z5,?_,?_⟩
    ·simp (disch:=first|omega|with_unfolding_all rfl) only [ZpJ,K9r7,Abs.W,reduceIte,Nat.reduceEqDiff,Nat.reduceAdd,Nat.reduceSub,z8,e0,Nat.zero_add]
    ·simp only [efs,z6,reduceIte,Nat.reduceEqDiff]
    ·simp only [efs,z7,reduceIte,Nat.reduceEqDiff])
 exact ⟨L1,t1,Bs,v1,b1,rfl,h1,h2,h3,h4,h5,h6,h7⟩
theorem gDJ (n:Nat) (hn:20≤n) (cx:Ctx) {y:St} {d p4:Nat} {H:HallR} {vW vS vB vK:AV} {L:Env} (ok:H.Ok) (hd:Die d y.h) (hH:HallAt (fun c=>c≠d∧c≠p4) y.h y.n H vW vS vB vK) (g4:y.h.get p4=some (.cells (zP H vW vS vB vK) (tag 30))) (hp:d<p4∧p4<y.n) (hs:y.n+10000≤far) (hm:d≤y.m∧y.m≤far)
  (q3:L.find 3=.ptr d 0) (q4:L.find 4=.ptr p4 0) :
  ∃ L1 t1 H1 v1,(zG (zD jjQ [32]) (ze (.tmp 32) (zG (zD K9r4 []) (zG (zD K9r5 []) (zG (zD K9r6 [5]) (zU 0 (ju ZpJ))))) zd)) (awd n) cx L [] y=.done .norm L1 [] t1∧Die d t1.h∧t1.h.get p4=some (.cells (zP H1 vW vS v1 vK) (tag 30))∧HallAt (fun c=>c≠d∧c≠p4) t1.h t1.n H1 vW vS v1 vK∧(HallR.Ok H1∧H1.wide % H1.bx=0)∧(H1.wide=H.wide∧H1.deep=H.deep∧H1.kinds=H.kinds)∧(y.n≤t1.n∧t1.n≤y.n+200)∧(d≤t1.m∧t1.m≤far)∧L1.find 3=.ptr d 0∧L1.find 4=.ptr p4 0:=by
 have hf:=hfar
 have knB:∀ args s,awd n (.fn 36) args s=call Try.prog X n (.fn 36) args s:=fun _ _=>rfl
 have x0:=ok.x0
 have rem:∀ s,vZA s .i64 (H.wide:Int) (H.bx:Int)=.val (.int .i64 ((H.wide % H.bx:Nat):Int)) s:=fun s=>jvQ s _ _ (by omega)
 by_cases h0:H.wide % H.bx=0
 ·have e0:decide (((H.wide % H.bx:Nat):Int)=0)=true:=decide_eq_true (by omega)
  refine ⟨L.set 32 (.bool false),y,H,vB,?_,hd,g4,hH,⟨ok,h0⟩,⟨rfl,rfl,rfl⟩,⟨Nat.le_refl _,by omega⟩,hm,?_,?_⟩
  ·simp (disch:=first|omega|with_unfolding_all rfl) only [jjQ,Abs.W,reduceIte,Nat.reduceEqDiff,Nat.reduceAdd,Nat.reduceSub,q4,g4,rem,e0,Nat.zero_add,Nat.add_zero]
  ·simp only [efs,q3,reduceIte,Nat.reduceEqDiff]
  ·simp only [efs,q4,reduceIte,Nat.reduceEqDiff]
 ·have e0:decide (((H.wide % H.bx:Nat):Int)=0)=false:=decide_eq_false (by omega)
  obtain ⟨G,hG⟩:∃ G:HallR,G={ H with bx:=1 }:=⟨_,rfl⟩
  have szG:G.Size:=by rw [hG];exact ⟨ok.w0,ok.w1,ok.d0,ok.d1,Nat.le_refl _,ok.w0,ok.z0,ok.z1⟩
  obtain ⟨a,ha⟩:∃ a:St,a=(y.put p4 (.cells (zP G vW vS vB vK) (tag 30))).put p4 (.cells (zP G vW vS .nilslice vK) (tag 30)):=⟨_,rfl⟩
  have sa1:jM 1 y (.int .i64 1) (.ptr p4 4)=.val .undef (y.put p4 (.cells (zP G vW vS vB vK) (tag 30))):=by
   rw [hG];exact jZ g4 (by show 4<8;omega) rfl rfl
  have sa2:jM 1 (y.put p4 (.cells (zP G vW vS vB vK) (tag 30))) .nilslice (.ptr p4 6)=.val .undef a:=by
   rw [ha];exact jZ (zN _ _ _ _ rfl (by omega)) (by show 6<8;omega) rfl rfl
  have an:a.n=y.n:=by rw [ha];rfl
  have am:a.m=min (min y.m p4) p4:=by rw [ha];simp only [St.put,zQ]
  have a4:a.h.get p4=some (.cells (zP G vW vS .nilslice vK) (tag 30)):=by rw [ha];exact zN _ _ _ _ rfl (by omega)
  have ag:∀ c,c≠p4→a.h.get c=y.h.get c:=fun c hc=>by rw [ha,zL _ _ _ _ hc,zL _ _ _ _ hc]
  clear ha
  have okg:∀ t,okA (.val (.agg (zP G vW vS .nilslice vK)) t)=.val (.agg (zP G vW vS .nilslice vK)) t:=fun _=>rfl
  have eb:=Wt n (by omega) G szG vW vS .nilslice vK a (by omega)
  have J0:GJ a a d p4 a.n (far+9) G [] vW vS .nilslice vK:=⟨hd.keep (ag d (by omega)),a4,IsAt.nil _ _ _ _ _,⟨by omega,.inr (by omega)⟩,fun _ _ _ _=>rfl,Nat.le_refl _,by omega,by omega⟩
  have hb24:=vY szG
  simp (disch:=first|omega|with_unfolding_all rfl) only [jjQ,K9r4,K9r5,K9r6,Abs.W,reduceIte,Nat.reduceEqDiff,Nat.reduceAdd,Nat.reduceSub,q4,g4,rem,e0,sa1,sa2,a4,okg,knB,eb,Nat.zero_add,Nat.add_zero]
  generalize hlp:jK _ rounds _ _ _ _ _=rl
  obtain ⟨L1,t1,Bs,v1,b1,rfl,h1,h2,J1,h4,h5,h6,h7⟩:=vYQ n hn cx hlp J0 hb24 (by omega) (by simp only [efs,q3,reduceIte,Nat.reduceEqDiff]) (by simp only [efs,q4,reduceIte,Nat.reduceEqDiff]) (by simp only [efs,reduceIte,Nat.reduceEqDiff])
  simp (disch:=first|omega|with_unfolding_all rfl) only [Abs.W,reduceIte,Nat.reduceEqDiff,Nat.reduceAdd,Nat.reduceSub]
  obtain ⟨jd,jg,ji,jb,jo,jn,jm,jp⟩:=J1
  refine ⟨L1,t1,{ G with bears:=Bs },v1,rfl,jd,jg,?_,⟨?_,?_⟩,⟨by rw [hG],by rw [hG],by rw [hG]⟩,⟨by omega,by omega⟩,jm,h6,h7⟩
  ·have hy:∀ c,c<y.n→c≠d∧c≠p4→t1.h.get c=y.h.get c∧c≠d∧c≠p4:=fun c c1 c2=>⟨(jo c (by omega) c2.1 c2.2).trans (ag c c2.2),c2⟩
   refine ⟨?_,?_,Sl.of_at ji fun _=>by omega,?_⟩
   ·rw [hG];exact hH.w.move hy (by omega)
   ·rw [hG];exact hH.s.move hy (by omega)
   ·rw [hG];exact hH.k.move hy (by omega)
  ·refine ⟨⟨szG.w0,szG.w1,szG.d0,szG.d1,szG.x0,szG.x1,szG.z0,szG.z1⟩,?_,?_,?_,?_,?_,?_,h1,fun x hx=>⟨(h2 x hx).1,by have:=(h2 x hx).2;omega⟩,?_,?_,?_⟩<;>rw [hG]
   ·exact ok.wa
   ·exact ok.wn
   ·exact ok.wl
   ·exact ok.sa
   ·exact ok.sn
   ·exact ok.sl
   ·exact ok.k0
   ·exact ok.k1
   ·exact ok.k
  ·rw [hG];exact Nat.mod_one _
theorem ZuJ (n:Nat) (hn:20≤n) (cx:Ctx) {y:St} {no:Nat→Prop} {p4:Nat} {H:HallR} {vW vS vB vK v:AV} {l:List PutR} {L:Env} {r:R} (hr:jK VqJ rounds (awd n) cx L [] y=r) (sz:H.Size) (hH:HallAt no y.h y.n H vW vS vB vK) (g4:y.h.get p4=some (.cells (zP H vW vS vB vK) (tag 30))) (hp:p4<y.n) (hR:Sl no y.h y.n 3 (l.map PutR.row) v) (hl:l.length≤10) (hin:∀ q ∈ l,q.In H) (hs:y.n+3000≤far) (hm:y.m≤far)
  (q4:L.find 4=.ptr p4 0) (q6:L.find 7=v) (q8:L.find 8=.nilslice) (q9:L.find 9=.int .i64 0) :
  ∃ L1 t1 v1,r=.done (.exit 2) L1 [] t1∧Sl (fun c=>y.n≤c) t1.h t1.n 3 ((l.map H.mirP).map PutR.row) v1∧(∀ c,c<y.n→t1.h.get c=y.h.get c)∧y.n≤t1.n∧t1.n≤y.n+100∧(∀ k,k≤y.n→k≤y.m→k≤t1.m)∧t1.m≤y.m∧L1.find 8=v1∧∀ c,c<8→L1.find c=L.find c:=by
 have hf:=hfar
 have knP:∀ args s,awd n (.fn 38) args s=call Try.prog X n (.fn 38) args s:=fun _ _=>rfl
 have kv:=hR.okA
 have lv:∀ s,zq s v=.val (.int .i64 (l.length:Int)) s:=fun s=>by have:=hR.len s;rwa [List.length_map] at this
 have okh:∀ t,okA (.val (.agg (zP H vW vS vB vK)) t)=.val (.agg (zP H vW vS vB vK)) t:=fun _=>rfl
 obtain ⟨e,L1,t1,rfl,rfl,v1,h1,h2,h3,h4,h5,h6,h7,h8⟩:=jO hr
  (fun i L' t=>∃ (v8:AV) (b8:Nat),IsAt t.h t.n b8 3 (tag 51) (((l.take i).map H.mirP).map PutR.row) v8∧(y.n≤b8∧(b8<t.n∨far<b8))∧(∀ c,c<y.n→t.h.get c=y.h.get c)∧y.n≤t.n∧t.n≤y.n+5 * i∧(∀ k,k≤y.n→k≤y.m→k≤t.m)∧t.m≤y.m∧L'.find 8=v8∧(∀ c,c<8→L'.find c=L.find c)∧L'.find 9=.int .i64 (i:Int))
  (fun e L' t=>e=.exit 2∧∃ v1,Sl (fun c=>y.n≤c) t.h t.n 3 ((l.map H.mirP).map PutR.row) v1∧(∀ c,c<y.n→t.h.get c=y.h.get c)∧y.n≤t.n∧t.n≤y.n+100∧(∀ k,k≤y.n→k≤y.m→k≤t.m)∧t.m≤y.m∧L'.find 8=v1∧∀ c,c<8→L'.find c=L.find c) l.length (by unfold rounds;omega)
  ⟨.nilslice,far+9,IsAt.nil _ _ _ _ _,⟨by omega,.inr (by omega)⟩,fun _ _=>rfl,Nat.le_refl _,by omega,fun _ _ h=>h,Nat.le_refl _,q8,fun _ _=>rfl,q9⟩
  (fun i L' t hi ⟨v8,b8,z1,z2,z3,z4,z5,z6,z7,z8,zc,z9⟩=>by
   have q4:=(zc 4 (by omega)).trans q4
   have q6:=(zc 7 (by omega)).trans q6
   have g4':=(z3 p4 hp).trans g4
   by_cases hlt:i<l.length
   ·have e0:decide ((i:Int)<(l.length:Int))=true:=decide_eq_true (by omega)
    have ad:∀ s,jI s .i64 (i:Int) 1=.val (.int .i64 ((i:Int)+1)) s:=fun s=>za s _ _ (by omega)
    obtain ⟨ob,oo,oc,osz,o1,o0,o2,o3,o4⟩:=hR.get (i:=i) (by rw [List.length_map];exact hlt)
    rw [List.getElem_map] at o4
    have o3':=(z3 ob o1).trans o3
    obtain ⟨p,hpe⟩:∃ p,p=l[i]:=⟨_,rfl⟩
    rw [← hpe] at o4
    have hpi:p.In H:=by rw [hpe];exact hin _ (List.getElem_mem hlt)
    have okp:∀ t,okA (.val (.agg p.row) t)=.val (.agg p.row) t:=fun _=>rfl
    have okm:∀ t,okA (.val (.agg (H.mirP p).row) t)=.val (.agg (H.mirP p).row) t:=fun _=>rfl
    have hHt:HallAt no t.h t.n H vW vS vB vK:=hH.move (fun c c1 c2=>⟨z3 c c1,c2⟩) z4
    have ep:=vGQ n (by omega) (p:=p) sz hHt ⟨hpi.x0,hpi.x1⟩ (by omega)
    have kv8:=z1.okA
    obtain ⟨Y,hY⟩:∃ Y:St,Y=t.new (.cells (H.mirP p).row 0):=⟨_,rfl⟩
    have Yn:Y.n=t.n+1:=by rw [hY];rfl
    have Ym:Y.m=t.m:=by rw [hY];rfl
    have Yg:∀ c,c<t.n→Y.h.get c=t.h.get c:=fun c hc=>by rw [hY,zH _ _ _ (by omega)]
    have Yp:Y.h.get t.n=some (.cells (H.mirP p).row 0):=by rw [hY];exact zM _ _ _ rfl (by omega)
    have hil:(((l.take i).map H.mirP).map PutR.row).length=i:=by rw [List.length_map,List.length_map,List.length_take];omega
    obtain ⟨s7,e7,l7,s7n,s7g,s7m,s7l⟩:=vI (bytes:=24) (z1.mono (h':=Y.h) (n':=Y.n) (fun h=>Yg b8 h) (by omega)) Yp rfl rfl (by omega) (by kernel_rfl) (by omega)
    rw [hil] at e7 l7
    obtain ⟨v7,hv7⟩:∃ v7,v7=AV.slice Y.n 0 (i+1) (i+1) true:=⟨_,rfl⟩
    rw [← hv7] at e7 l7
    have okv7:∀ t,okA (.val v7 t)=.val v7 t:=fun t=>by rw [hv7];rfl
    have hrow:(((l.take (i+1)).map H.mirP).map PutR.row)=((l.take i).map H.mirP).map PutR.row++[(H.mirP p).row]:=by rw [yE hlt,List.map_append,List.map_append,hpe];rfl
    rw [← hrow] at l7
    have hmr:(H.mirP p).row=[.int .i64 ((H.wide:Int) - 1 - p.x),.int .i64 p.y,.int .i64 (p.kind:Int)]:=rfl
    have hcm:cut 0 3 (H.mirP p).row=some (H.mirP p).row:=rfl
    have hov:wP (H.mirP p).row [.int .i64 0,.int .i64 0,.int .i64 0]=some (H.mirP p).row:=rfl
    have hl3:(H.mirP p).row.length=3:=rfl
    have hwk:∃ L1,VqJ (awd n) cx L' [] t=.done .norm L1 [] s7∧(∀ c,c<8→L1.find c=L'.find c)∧L1.find 8=v7∧L1.find 9=.int .i64 ((i:Int)+1):=by
     simp (disch:=first|omega|with_unfolding_all rfl) only [VqJ,K9r14,K9r15,Abs.W,reduceIte,Nat.reduceEqDiff,Nat.reduceAdd,Nat.reduceSub,q4,q6,z8,z9,g4',okh,kv,lv,kv8,e0,o2,o3',o4,okp,okm,knP,ep,hcm,hov,hl3,Nat.zero_add,Nat.add_zero]
     rw [← hY]
     simp (disch:=first|omega|with_unfolding_all rfl) only [jzQ,Abs.W,reduceIte,Nat.reduceEqDiff,Nat.reduceAdd,Nat.reduceSub,e7,okv7,z9,ad,wY _ (vH _),Nat.zero_add,Nat.add_zero]
     refine ⟨_,rfl,fun c hc=>?_,?_,?_⟩
     ·have h1:¬ 57=c:=by omega
      have h2:¬ 8=c:=by omega
      have h3:¬ 9=c:=by omega
      simp only [efs,h1,h2,h3,reduceIte]
     ·simp only [efs,reduceIte,Nat.reduceEqDiff]
     ·simp only [efs,reduceIte,Nat.reduceEqDiff]
    obtain ⟨L1,w1,w2,w3,w4⟩:=hwk
    exact .inl ⟨hlt,L1,s7,w1,v7,Y.n,l7,⟨by omega,.inl (by omega)⟩,fun c hc=>(s7g c (by omega) (by omega)).trans ((Yg c (by omega)).trans (z3 c hc)),by omega,by omega,fun k k1 k2=>s7m k (by omega) (by omega) (by rw [Ym];exact z6 k k1 k2),by omega,w3,fun c hc=>(w2 c hc).trans (zc c hc),w4⟩
   ·obtain rfl:i=l.length:=by omega
    have e0:decide ((l.length:Int)<(l.length:Int))=false:=decide_eq_false (by omega)
    rw [List.take_length] at z1
    refine .inr ⟨.exit 2,L'.set 57 (.bool false),t,by simp,?_,rfl,v8,Sl.of_at z1 fun _=>z2.1,z3,z4,by omega,z6,z7,?_,fun c hc=>?_⟩
    ·simp (disch:=first|omega|with_unfolding_all rfl) only [VqJ,K9r14,Abs.W,reduceIte,Nat.reduceEqDiff,Nat.reduceAdd,Nat.reduceSub,q6,z9,kv,lv,e0,Nat.zero_add]
    ·simp only [efs,z8,reduceIte,Nat.reduceEqDiff]
    ·have h1:¬ 57=c:=by omega
     simp only [efs,h1,reduceIte]
     exact zc c hc)
 exact ⟨L1,t1,v1,rfl,h1,h2,h3,h4,h5,h6,h7,h8⟩
end Go.Proofs.Ytoklbkgcclkejaa.walk
