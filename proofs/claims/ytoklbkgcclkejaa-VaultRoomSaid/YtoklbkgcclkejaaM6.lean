/- The die: numbers of a span, and how it is born. -/
import Derived.Test.YtoklbkgcclkejaaM4
import Derived.Test.YtoklbkgcclkejaaM5
import Derived.Test.YtoklbkgcclkejaaCodes
import Derived.Test.YtoklbkgcclkejaaWalkAll
set_option linter.unusedSimpArgs false
set_option linter.unusedVariables false
set_option maxHeartbeats 16000000
set_option linter.unusedVariables false
set_option maxRecDepth 10000
namespace Go.Proofs.Ytoklbkgcclkejaa.walk
open Go.Abs Go.Proofs.Ytoklbkgcclkejaa.code
end Go.Proofs.Ytoklbkgcclkejaa.walk
set_option maxRecDepth 10000
namespace Go.Proofs.Ytoklbkgcclkejaa.walk
open Go.Abs Go.Proofs.Ytoklbkgcclkejaa.code
end Go.Proofs.Ytoklbkgcclkejaa.walk
set_option maxRecDepth 10000
namespace Go.Abs
theorem append_own {s:St} {lo n0 w bytes tg:Nat} {rows:List (List AV)} {v:AV} (r:Own s.h lo n0 w tg rows v) (hn:n0≤s.n) {p sz:Nat} {row:List AV} (hp:s.h.get p=some (.cells row sz)) (hw:row.length=w) (hsc:scalars row=true)
  (hb:(rows.length+1) * bytes≤1000000) (htg:szOf (w+tg)=w) (hs:s.n<549755813888) :
  ∃ s',appendA false w bytes tg s v (.slice p 0 1 1 false)=.val (.slice s.n 0 (rows.length+1) (rows.length+1) true) s'∧IsAt s'.h s'.n s.n w tg (rows++[row]) (.slice s.n 0 (rows.length+1) (rows.length+1) true)∧s'.n=s.n+1∧(∀ c,c<s.n→(c<lo∨n0≤c)→s'.h.get c=s.h.get c)∧(∀ k,k≤lo→k≤s.n→k≤s.m→k≤s'.m)∧s'.m≤s.m:=by
 rcases r.is with ⟨h1,h2 | ⟨b,h0,h3,h4,h5⟩⟩ | ⟨h1,b,h0,h3,h4,h5⟩
 ·obtain ⟨s',e1,e2,e3,e4,e5,e6⟩:=append_at (bytes:=bytes) (⟨r.wide,.inl ⟨h1,h2⟩⟩:IsAt s.h s.n s.n w tg rows v) hp hw hsc hb htg hs
  exact ⟨s',e1,e2,e3,fun c hc _=>e4 c hc (by omega),fun k _ hk hm=>e5 k hk hk hm,e6⟩
 ·have bl:Blk s.h s.n b w tg rows v:=⟨r.wide,false,0,by rw [h4,h1];rfl,by omega,by rw [h5,h1];rfl,fun h=>by cases h⟩
  obtain ⟨s',e1,e2,e3,e4,e5,e6⟩:=append_blk (bytes:=bytes) bl hp hw hsc hb htg hs
  refine ⟨s',e1,⟨e2.wide,.inr ⟨by simp,by omega,by simp,?_⟩⟩,e3,fun c hc hl=>e4 c hc (by omega),fun k hk _ hm=>e5 k (by omega) hm,e6⟩
  obtain ⟨e,sz',z1,z2,z3,z4⟩:=e2.is
  injection z1 with _ _ _ _ z5
  rw [z3,z4 z5.symm]
 ·have bl:Blk s.h s.n b w tg rows v:=⟨r.wide,true,_,h4,by omega,h5,fun _=>rfl⟩
  obtain ⟨s',e1,e2,e3,e4,e5,e6⟩:=append_blk (bytes:=bytes) bl hp hw hsc hb htg hs
  refine ⟨s',e1,⟨e2.wide,.inr ⟨by simp,by omega,by simp,?_⟩⟩,e3,fun c hc hl=>e4 c hc (by omega),fun k hk _ hm=>e5 k (by omega) hm,e6⟩
  obtain ⟨e,sz',z1,z2,z3,z4⟩:=e2.is
  injection z1 with _ _ _ _ z5
  rw [z3,z4 z5.symm]
end Go.Abs
namespace Go.Proofs.Ytoklbkgcclkejaa.walk
open Go.Abs Go.Proofs.Ytoklbkgcclkejaa.code
theorem put_scal (l:List PutR):∀ r ∈ l.map PutR.row,scalars r=true:=fun r hr=>by
 obtain ⟨p,_,rfl⟩:=List.mem_map.mp hr
 rfl
theorem copyLayout_ex {N:Nat} {no:Nat→Prop} {l:List PutR} {v:AV} {s:St} {r:ARes} (hr:call Try.prog X N (.fn 27) [v] s=r) (hN:1≤N) (hR:Sl no s.h s.n 3 (l.map PutR.row) v) (hl:l.length≤1000) (hs:s.n+100≤far) :
  ∃ w t,r=.val w t∧New s t 2∧Own t.h s.n t.n 3 (tag 51) (l.map PutR.row) w:=by
 obtain ⟨n,rfl⟩:∃ n,N=n+1:=⟨N - 1,by omega⟩
 have hf:far=1000000000:=rfl
 obtain ⟨w,t,e,st,hq⟩:=call_new' (n:=n) (args:=[v]) (s:=s) (k:=2) (Q:=fun w h n=>Own h s.n n 3 (tag 51) (l.map PutR.row) w) Try.func27 rfl (fun u uh un um=>by
  rw [← uh,← un] at hR
  rw [← un]
  have kv:=hR.okA
  rw [enter27]
  obtain ⟨y,hy⟩:∃ y:St,y=u.new (.cells [] 0):=⟨_,rfl⟩
  have yn:y.n=u.n+1:=by rw [hy];rfl
  have ym:y.m=far:=by rw [hy];exact um
  have yg:∀ c,c<u.n→y.h.get c=u.h.get c:=fun c hc=>by rw [hy,get_new_ne _ _ _ (by omega)]
  have y0:y.h.get u.n=some (.cells [] 0):=by rw [hy];exact get_new_eq _ _ _ rfl (by omega)
  simp (disch:=first|omega|(with_unfolding_all exact rfl)|(simp only[new_n,put_n,new_m];omega)|(refine put_m_le ?_;simp only[new_m];omega)) only [res27,K27r0,K27r1,K27,Abs.W,reduceIte,Nat.reduceEqDiff,Nat.reduceAdd,decide_true,decide_false,kLoop_def,Nat.reduceSub,List.cons_append,List.nil_append,List.append_nil,List.length_cons,List.length_nil,Env.find_set,kv]
  obtain ⟨w,s',e1,hO,n1,n2,hg,m1,m2⟩:=append_copy (tg:=tag 51) (bytes:=24) (hR.grow yg (by omega:u.n≤y.n)).seq y0 (by omega) (put_scal l) (by rw [List.length_map];omega) (by omega)
  rw [hy] at e1
  simp (disch:=first|omega|(with_unfolding_all exact rfl)|(simp only[new_n,put_n,new_m];omega)|(refine put_m_le ?_;simp only[new_m];omega)) only [res27,K27r0,K27r1,K27,Abs.W,reduceIte,Nat.reduceEqDiff,Nat.reduceAdd,decide_true,decide_false,kLoop_def,Nat.reduceSub,List.cons_append,List.nil_append,List.append_nil,List.length_cons,List.length_nil,Env.find_set,e1]
  refine ⟨_,_,rfl,⟨fun c hc=>(hg c (by omega)).trans (yg c hc),by omega,by omega,?_,by omega⟩,hO,fun hp=>?_⟩
  ·exact m1 u.n (Nat.le_refl _) (by omega)
  ·rcases hO.is with ⟨h1,h2 | ⟨b,_,_,h4,_⟩⟩ | ⟨_,b,_,_,h4,_⟩
   ·rw [h1,h2];exact ⟨fun x hx=>(by cases hx),.inl ⟨rfl,.inl rfl⟩⟩
   ·subst h4;cases hp
   ·subst h4;cases hp)
 exact ⟨w,t,hr.symm.trans e,st,hq⟩
end Go.Proofs.Ytoklbkgcclkejaa.walk
set_option maxRecDepth 10000
namespace Go.Proofs.Ytoklbkgcclkejaa.walk
open Go.Abs Go.Proofs.Ytoklbkgcclkejaa.code
structure LayJ (u t:St) (d:Nat) (H:HallR) (l:List PutR) (v:AV) (b kk:Nat):Prop where
 st:Stir d u t kk
 die:Die d t.h
 is:IsAt t.h t.n b 3 (tag 51) (l.map PutR.row) v
 b:u.n≤b
 ok:H.Valid l
 inn:∀ p ∈ l,p.In H
theorem valid_nil {H:HallR} (ok:H.Ok):H.Valid []:=⟨fun _ h=>(by cases h),List.Pairwise.nil,fun k hk=>by
 have:=(kindOk ok hk).m0
 show ((0:Nat):Int)≤_
 omega⟩
theorem in_put {H:HallR} (sz:H.Size) {c:Int × Int} (h:H.In c) {k:Nat} (hk:k<H.kinds.length):(PutR.mk c.1 c.2 k).In H:=by
 obtain ⟨⟨a,b⟩,e,f⟩:=h
 have:=sz.w1
 have:=sz.d1
 exact ⟨hk,by show -100≤c.1;omega,by show c.1≤100;omega,by show -100≤c.2;omega,by show c.2≤100;omega⟩
theorem lay_round (N:Nat) (hN:8≤N) (cx:Ctx) {u t:St} {d p4 lp op b kk i m most:Nat} {f:List Nat} {H:HallR} {vW vS vB vK va vo v:AV} {l:List PutR} {L:Env} (J:LayJ u t d H l v b kk) (ok:H.Ok) (hH:HallAt (fun c=>c≠d) u.h u.n H vW vS vB vK) (g4:u.h.get p4=some (.cells (hallV H vW vS vB vK) (tag 30))) (hp4:p4<u.n∧p4≠d) (hA:IsAt u.h u.n lp 2 (tag 27) (H.placesI.map cellR) va) (hlp:lp≠d) (hO:Blk u.h u.n op 1 (tag 3) (natRows f) vo) (hop:op≠d∧op<u.n) (hfl:f.length=m) (hm:m=H.placesI.length) (hperm:Perm m f) (hmost:l.length<most) (hmost8:most≤20) (hdn:d<u.n) (hi:i<m) (hs:u.n+kk+10000≤far) (hum:u.m≤far) (hdm:d≤u.m)
  (q0:L.find 0=.ptr d 0) (q2:L.find 2=.int .i64 (most:Int)) (q4:L.find 4=.ptr p4 0) (q7:L.find 7=v) (q8:L.find 8=va) (q9:L.find 9=vo) (q10:L.find 10=.int .i64 (i:Int)) :
  ∃ L1 t1 l1 v1 b1,K12l0 (call Try.prog X N) cx L [] t=.done .norm L1 [] t1∧LayJ u t1 d H l1 v1 b1 (kk+10)∧l1.length≤l.length+1∧L1.find 0=.ptr d 0∧L1.find 2=.int .i64 (most:Int)∧L1.find 4=.ptr p4 0∧L1.find 7=v1∧L1.find 8=va∧L1.find 9=vo∧L1.find 10=.int .i64 ((i+1:Nat):Int):=by
 have hf:far=1000000000:=rfl
 obtain ⟨jst,jdie,ji,jb,jok,jin⟩:=J
 have jn:=jst.n
 have jle:=jst.le
 have jm:=jst.m hdm
 have jml:=jst.mle
 have tg:∀ c,c<u.n→c≠d→t.h.get c=u.h.get c:=jst.same
 have sz:=ok.toSize
 have h24:=places_le sz
 have hpl:=placesI_len H
 have hk6:=ok.k1
 have hk0:=ok.k0
 have kv:∀ t,okA (.val v t)=.val v t:=ji.okA
 have lv:=ji.rows.len
 rw [List.length_map] at lv
 have kva:=hA.okA
 have kvo:∀ t,okA (.val vo t)=.val vo t:=fun t=>okA_ne hO.at_.ne
 have lvo:=hO.at_.len
 rw [natRows_len,hfl] at lvo
 have kK:=hH.k.okA
 have lK:=hH.k.len
 have e0:decide ((i:Int)<(m:Int))=true:=decide_eq_true (by omega)
 have e1:decide ((l.length:Int)<(most:Int))=true:=decide_eq_true (by omega)
 have ad:∀ s,aAdd s .i64 (i:Int) 1=.val (.int .i64 ((i:Int)+1)) s:=fun s=>aAdd_i64 s _ _ (by omega)
 have u6:=fun cl L s=>congrFun (congrFun (congrFun K12r5s6.eq_1 cl) L) s
 have u7:=fun cl L s=>congrFun (congrFun (congrFun K12r5s7.eq_1 cl) L) s
 have u8:=fun cl L s=>congrFun (congrFun (congrFun K12r5s8.eq_1 cl) L) s
 have u9:=fun cl L s=>congrFun (congrFun (congrFun K12r5s9.eq_1 cl) L) s
 have w5:=fun cl L s=>congrFun (congrFun (congrFun K12r7s5.eq_1 cl) L) s
 have w6:=fun cl L s=>congrFun (congrFun (congrFun K12r7s6.eq_1 cl) L) s
 have w7:=fun cl L s=>congrFun (congrFun (congrFun K12r7s7.eq_1 cl) L) s
 have w8:=fun cl L s=>congrFun (congrFun (congrFun K12r7s8.eq_1 cl) L) s
 -- the place
 have hkk:f.getD i 0<m:=hperm.lt i hi
 obtain ⟨k,hk⟩:∃ k,k=f.getD i 0:=⟨_,rfl⟩
 rw [← hk] at hkk
 have hkp:k<H.placesI.length:=by omega
 have hOt:=hO.mono (h':=t.h) (n':=t.n) (tg op hop.2 hop.1) jn
 obtain ⟨ob,oo,oc,osz,o1,o2,o3,o4⟩:=hOt.at_.at_ i (by rw [natRows_len];omega)
 rw [natRows_at (by omega),← hk] at o4
 have o5:=cut1_nth o4
 have hob:ob=op:=by
  obtain ⟨e,sz',z1,_⟩:=hOt.is
  have:=o2 t
  rw [z1,ixs_slice _ _ _ _ _ _ _ _ (by rw [natRows_len];omega)] at this
  injection this with this
  injection this with this
  exact this.symm
 have hAs:Sl (fun c=>c=lp) u.h u.n 2 (H.placesI.map cellR) va:=Sl.of_at hA fun _=>rfl
 obtain ⟨ab,ao,ac,asz,⟨a1,a1'⟩,a2,a3,a4⟩:=slCell hAs hkp
 have hCin:=placesI_in sz.w0 hkp
 generalize H.placesI[k]=C at *
 have ta:=(tg ab a1 (by rw [a1'];exact hlp)).trans a3
 have t4:=(tg p4 hp4.1 hp4.2).trans g4
 simp (disch:=first|omega|(with_unfolding_all exact rfl)|(simp only[new_n,put_n,new_m];omega)|(refine put_m_le ?_;simp only[new_m];omega)) only [K12l0,K12r5,u6,u7,u8,u9,Abs.W,reduceIte,Nat.reduceEqDiff,Nat.reduceAdd,decide_true,decide_false,kLoop_def,Nat.reduceSub,List.cons_append,List.nil_append,List.append_nil,List.length_cons,List.length_nil,Env.find_set,Nat.zero_add,q2,q7,q9,q10,kv,kvo,lv,lvo,e0,e1]
 simp (disch:=first|omega|(with_unfolding_all exact rfl)|(simp only[new_n,put_n,new_m];omega)|(refine put_m_le ?_;simp only[new_m];omega)) only [K12r6,Abs.W,reduceIte,Nat.reduceEqDiff,Nat.reduceAdd,decide_true,decide_false,kLoop_def,Nat.reduceSub,List.cons_append,List.nil_append,List.append_nil,List.length_cons,List.length_nil,Env.find_set,Nat.zero_add,q7,kv]
 generalize hc1:call _ _ _ (.fn 27) _ _=r1
 obtain ⟨w1,t1,rfl,st1,hW⟩:=copyLayout_ex (l:=l) (no:=fun c=>c=b) hc1 (by omega) (Sl.of_at ji fun _=>rfl) (by omega) (by show t.n+100≤far;omega)
 have n1:t.n≤t1.n:=st1.n
 have k1:t1.n≤t.n+2:=st1.le
 have hW':Own t1.h t.n t1.n 3 (tag 51) (l.map PutR.row) w1:=hW
 have m1:t1.m=far:=st1.m
 have g1:∀ c,c<t.n→t1.h.get c=t.h.get c:=st1.same
 obtain ⟨y1,hy1⟩:∃ y1:St,y1=⟨t1.h,t1.n,minN t.m t1.m⟩:=⟨_,rfl⟩
 have y1n:y1.n=t1.n:=by rw [hy1]
 have y1h:y1.h=t1.h:=by rw [hy1]
 have y1m:y1.m=t.m:=by rw [hy1];show minN t.m t1.m=_;rw [minN_eq];omega
 have tv1:∀ ws v d rest cl L,thenT (some ws) (.val v t1) d rest cl L t=rest cl (d.put v L) y1:=fun ws v d rest cl L=>by rw [hy1];exact thenT_val _ _ _ _ _ _ _ _ (by omega)
 have y1o:y1.h.get ob=some (.cells oc osz):=by rw [y1h];exact (g1 ob o1).trans o3
 have y1a:y1.h.get ab=some (.cells ac asz):=by rw [y1h];exact (g1 ab (by omega)).trans ta
 have y14:y1.h.get p4=some (.cells (hallV H vW vS vB vK) (tag 30)):=by rw [y1h];exact (g1 p4 (by omega)).trans t4
 simp (disch:=first|omega|(with_unfolding_all exact rfl)|(simp only[new_n,put_n,new_m];omega)|(refine put_m_le ?_;simp only[new_m];omega)) only [tv1,Abs.W,reduceIte,Nat.reduceEqDiff,Nat.reduceAdd,decide_true,decide_false,kLoop_def,Nat.reduceSub,List.cons_append,List.nil_append,List.append_nil,List.length_cons,List.length_nil,Env.find_set,find_cons,Nat.zero_add,q0,q4,q8,q9,q10,kva,kvo,kK,lK,o2,y1o,o5,a2,y1a,a4,y14]
 generalize hc2:call _ _ _ (.fn 25) _ _=r2
 obtain ⟨x2,t2,rfl,st2,d2,x20,x21⟩:=cast_ex hc2 (by omega) (by show Die d y1.h;rw [y1h];exact jdie.keep (g1 d (by omega))) (by show d<y1.n;omega) (by show y1.n+100≤far;omega) (by omega)
 have n2:y1.n≤t2.n:=st2.n
 have k2:t2.n≤y1.n:=st2.le
 have m2:d≤t2.m:=st2.m (by show d≤far;omega)
 have g2:∀ c,c<y1.n→c≠d→t2.h.get c=y1.h.get c:=fun c hc hcd=>st2.same c hc hcd
 obtain ⟨xk,rfl⟩:=Int.eq_ofNat_of_zero_le x20
 have hxk:xk<H.kinds.length:=by omega
 have z2a:=(g2 ab (by omega) (by rw [a1'];exact hlp)).trans y1a
 have z2o:=(g2 ob (by omega) (by rw [hob];exact hop.1)).trans y1o
 simp (disch:=first|omega|(with_unfolding_all exact rfl)|(simp only[new_n,put_n,new_m];omega)|(refine put_m_le ?_;simp only[new_m];omega)) only [thenT_turn,Abs.W,reduceIte,Nat.reduceEqDiff,Nat.reduceAdd,decide_true,decide_false,kLoop_def,Nat.reduceSub,List.cons_append,List.nil_append,List.append_nil,List.length_cons,List.length_nil,Env.find_set,find_cons,Nat.zero_add]
 obtain ⟨y8,hy8⟩:∃ y8:St,y8=⟨t2.h,t2.n,minN y1.m t2.m⟩:=⟨_,rfl⟩
 have y8n:y8.n=t2.n:=by rw [hy8]
 have y8h:y8.h=t2.h:=by rw [hy8]
 have y8m:y8.m=min y1.m t2.m:=by rw [hy8];simp only [minN_eq]
 rw [← hy8]
 obtain ⟨P,hP⟩:∃ P:PutR,P=⟨C.1,C.2,xk⟩:=⟨_,rfl⟩
 obtain ⟨y,hy⟩:∃ y:St,y=y8.new (.cells P.row 0):=⟨_,rfl⟩
 have yn:y.n=t2.n+1:=by rw [hy];show y8.n+1=_;rw [y8n]
 have ym:y.m=y8.m:=by rw [hy];rfl
 have yg:∀ c,c<t2.n→y.h.get c=t2.h.get c:=fun c hc=>by rw [hy,get_new_ne _ _ _ (by omega),y8h]
 have yp:y.h.get t2.n=some (.cells P.row 0):=by rw [hy,← y8n];exact get_new_eq _ _ _ rfl (by omega)
 have g12:∀ c,c<t1.n→c≠d→y.h.get c=t1.h.get c:=fun c hc hcd=>(yg c (by omega)).trans ((g2 c (by omega) hcd).trans (congrArg (fun h=>h.get c) y1h))
 obtain ⟨s7,e7,l7,s7n,s7g,s7m,s7l⟩:=append_own (bytes:=24) (n0:=t1.n) (hW'.mono (h':=y.h) (n':=t1.n) (fun c h1 h2=>g12 c h2 (by omega)) (Nat.le_refl _)) (by omega) yp rfl rfl (by rw [List.length_map];omega) (by kernel_rfl) (by omega)
 rw [List.length_map] at e7 l7
 obtain ⟨v7,hv7⟩:∃ v7,v7=AV.slice y.n 0 (l.length+1) (l.length+1) true:=⟨_,rfl⟩
 rw [← hv7] at e7 l7
 rw [hy] at e7
 have e7':appendA false 3 24 (tag 51) (y8.new (.cells [.int .i64 C.1,.int .i64 C.2,.int .i64 (xk:Int)] 0)) w1 (.slice t2.n 0 1 1 false)=.val v7 s7:=by rw [hP] at e7;exact e7
 have okv7:∀ t,okA (.val v7 t)=.val v7 t:=fun t=>by rw [hv7];rfl
 have gs:∀ c,c<t.n→c≠d→s7.h.get c=t.h.get c:=fun c hc hcd=>(s7g c (by omega) (.inl hc)).trans ((g12 c (by omega) hcd).trans (g1 c hc))
 have ms7:d≤s7.m:=s7m d (by omega) (by omega) (by omega)
 have ms7l:s7.m≤t.m:=by omega
 have kw:∀ t,okA (.val w1 t)=.val w1 t:=fun t=>okA_ne hW.seq.at_.ne
 have hpc:(l.map PutR.row)++[P.row]=(l++[P]).map PutR.row:=by rw [List.map_append];rfl
 rw [hpc] at l7
 have dS:Die d s7.h:=d2.keep ((s7g d (by omega) (.inl (by omega))).trans (yg d (by omega)))
 have S7:Stir d u s7 (kk+5):=⟨fun c hc hcd=>(gs c (by omega) hcd).trans (tg c hc hcd),by omega,by omega,fun _=>ms7,by omega⟩
 simp (disch:=first|omega|(with_unfolding_all exact rfl)|(simp only[new_n,put_n,new_m];omega)|(refine put_m_le ?_;simp only[new_m];omega)) only [Abs.W,reduceIte,Nat.reduceEqDiff,Nat.reduceAdd,decide_true,decide_false,kLoop_def,Nat.reduceSub,List.cons_append,List.nil_append,List.append_nil,List.length_cons,List.length_nil,Env.find_set,find_cons,y8n,e7',okv7,Nat.zero_add]
 rw [endT_kept (l:=[35,37]) (s':=t2) (by simp only [keptAll_cons,keptAll_nil,find_cons,Env.find_set,keptV_ptr,y1o,z2o,y1a,z2a,sameO_cells,reduceIte,Nat.reduceEqDiff,Bool.and_self])]
 rw [endO_ok _ (endOk_nil _)]
 simp (disch:=first|omega|(with_unfolding_all exact rfl)|(simp only[new_n,put_n,new_m];omega)|(refine put_m_le ?_;simp only[new_m];omega)) only [K12r7,Abs.W,reduceIte,Nat.reduceEqDiff,Nat.reduceAdd,decide_true,decide_false,kLoop_def,Nat.reduceSub,List.cons_append,List.nil_append,List.append_nil,List.length_cons,List.length_nil,Env.find_set,find_cons,q0,Nat.zero_add]
 generalize hc3:call _ _ _ (.fn 25) _ _=r3
 obtain ⟨x3,t3,rfl,st3,d3,x30,x31⟩:=cast_ex hc3 (by omega) dS (by omega) (by omega) (by omega)
 have n3:=st3.n
 have k3:=st3.le
 have m3:=st3.m ms7
 have m3l:=st3.mle
 have S3:Stir d u t3 (kk+5):=(S7.trans st3).mono (by omega)
 have hl3:IsAt t3.h t3.n b 3 (tag 51) (l.map PutR.row) v:=by
  refine ji.mono (fun h=>?_) (by omega)
  rw [st3.same b (by omega) (by omega)]
  exact gs b h (by omega)
 by_cases hx:0<x3
 ·have d1:decide (0<x3)=true:=decide_eq_true hx
  have t34:=(S3.same p4 hp4.1 hp4.2).trans g4
  have hlx:IsAt t3.h t3.n y.n 3 (tag 51) ((l++[P]).map PutR.row) v7:=l7.mono (fun h=>st3.same y.n h (by omega)) n3
  have hPin:P.In H:=by rw [hP];exact in_put sz hCin hxk
  have hinn:∀ q ∈ l++[P],q.In H:=fun q hq=>by
   rcases List.mem_append.mp hq with h | h
   ·exact jin q h
   ·rw [List.mem_singleton.mp h];exact hPin
  have hHt:HallAt (fun _=>True) t3.h t3.n H vW vS vB vK:=hH.move (fun c h1 h2=>⟨S3.same c h1 h2,trivial⟩) S3.n
  obtain ⟨er,eer,hval⟩:=refCheckLayout_ex (N:=N) (s:=t3) (no:=fun _=>True) rfl (by omega) ok hHt (Sl.of_at hlx fun _=>trivial) hinn (by rw [List.length_append,List.length_singleton];omega) (by omega)
  by_cases hz:er=0
  ·have d2':decide (er=0)=true:=decide_eq_true hz
   simp (disch:=first|omega|(with_unfolding_all exact rfl)|(simp only[new_n,put_n,new_m];omega)|(refine put_m_le ?_;simp only[new_m];omega)) only [w5,w6,w7,w8,K12r8,K12r9,Abs.W,reduceIte,Nat.reduceEqDiff,Nat.reduceAdd,decide_true,decide_false,kLoop_def,Nat.reduceSub,List.cons_append,List.nil_append,List.append_nil,List.length_cons,List.length_nil,Env.find_set,find_cons,q4,q10,okv7,t34,eer,d1,d2',ad,Nat.zero_add]
   refine ⟨_,_,l++[P],v7,y.n,rfl,⟨S3.mono (by omega),d3,hlx,by omega,hval.mp hz,hinn⟩,by rw [List.length_append,List.length_singleton];omega,?_,?_,?_,?_,?_,?_,?_⟩
   ·simp only [Env.find_set,q0,reduceIte,Nat.reduceEqDiff]
   ·simp only [Env.find_set,q2,reduceIte,Nat.reduceEqDiff]
   ·simp only [Env.find_set,q4,reduceIte,Nat.reduceEqDiff]
   ·simp only [Env.find_set,reduceIte,Nat.reduceEqDiff]
   ·simp only [Env.find_set,q8,reduceIte,Nat.reduceEqDiff]
   ·simp only [Env.find_set,q9,reduceIte,Nat.reduceEqDiff]
   ·simp only [Env.find_set,reduceIte,Nat.reduceEqDiff];rfl
  ·have d2':decide (er=0)=false:=decide_eq_false hz
   simp (disch:=first|omega|(with_unfolding_all exact rfl)|(simp only[new_n,put_n,new_m];omega)|(refine put_m_le ?_;simp only[new_m];omega)) only [w5,w6,w7,w8,K12r8,K12r9,Abs.W,reduceIte,Nat.reduceEqDiff,Nat.reduceAdd,decide_true,decide_false,kLoop_def,Nat.reduceSub,List.cons_append,List.nil_append,List.append_nil,List.length_cons,List.length_nil,Env.find_set,find_cons,q4,q10,okv7,t34,eer,d1,d2',ad,Nat.zero_add]
   refine ⟨_,_,l,v,b,rfl,⟨S3.mono (by omega),d3,hl3,jb,jok,jin⟩,by omega,?_,?_,?_,?_,?_,?_,?_⟩
   ·simp only [Env.find_set,q0,reduceIte,Nat.reduceEqDiff]
   ·simp only [Env.find_set,q2,reduceIte,Nat.reduceEqDiff]
   ·simp only [Env.find_set,q4,reduceIte,Nat.reduceEqDiff]
   ·simp only [Env.find_set,q7,reduceIte,Nat.reduceEqDiff]
   ·simp only [Env.find_set,q8,reduceIte,Nat.reduceEqDiff]
   ·simp only [Env.find_set,q9,reduceIte,Nat.reduceEqDiff]
   ·simp only [Env.find_set,reduceIte,Nat.reduceEqDiff];rfl
 ·have d1:decide (0<x3)=false:=decide_eq_false hx
  simp (disch:=first|omega|(with_unfolding_all exact rfl)|(simp only[new_n,put_n,new_m];omega)|(refine put_m_le ?_;simp only[new_m];omega)) only [w5,w6,w7,w8,K12r8,K12r9,Abs.W,reduceIte,Nat.reduceEqDiff,Nat.reduceAdd,decide_true,decide_false,kLoop_def,Nat.reduceSub,List.cons_append,List.nil_append,List.append_nil,List.length_cons,List.length_nil,Env.find_set,find_cons,q4,q10,d1,ad,Nat.zero_add]
  refine ⟨_,_,l,v,b,rfl,⟨S3.mono (by omega),d3,hl3,jb,jok,jin⟩,by omega,?_,?_,?_,?_,?_,?_,?_⟩
  ·simp only [Env.find_set,q0,reduceIte,Nat.reduceEqDiff]
  ·simp only [Env.find_set,q2,reduceIte,Nat.reduceEqDiff]
  ·simp only [Env.find_set,q4,reduceIte,Nat.reduceEqDiff]
  ·simp only [Env.find_set,q7,reduceIte,Nat.reduceEqDiff]
  ·simp only [Env.find_set,q8,reduceIte,Nat.reduceEqDiff]
  ·simp only [Env.find_set,q9,reduceIte,Nat.reduceEqDiff]
  ·simp only [Env.find_set,reduceIte,Nat.reduceEqDiff];rfl
end Go.Proofs.Ytoklbkgcclkejaa.walk
set_option maxRecDepth 10000
namespace Go.Proofs.Ytoklbkgcclkejaa.walk
open Go.Abs Go.Proofs.Ytoklbkgcclkejaa.code
theorem layoutOf_ex {N d:Nat} {H:HallR} {vW vS vB vK:AV} {most:Nat} {s:St} {r:ARes} (hr:call Try.prog X N (.fn 12) [.ptr d 0,.agg (hallV H vW vS vB vK),.int .i64 (most:Int)] s=r) (hN:10≤N) (hd:Die d s.h) (hdn:d<s.n) (ok:H.Ok) (hH:HallAt (fun c=>c≠d) s.h s.n H vW vS vB vK) (hmost:most≤20) (hs:s.n+20000≤far) :
  ∃ l v t,r=.val v t∧Stir d s t 400∧Die d t.h∧H.Valid l∧(∀ p ∈ l,p.In H)∧l.length≤most∧Sl (fun c=>s.n≤c) t.h t.n 3 (l.map PutR.row) v:=by
 obtain ⟨n,rfl⟩:∃ n,N=n+1:=⟨N - 1,by omega⟩
 have hf:far=1000000000:=rfl
 have sz:=ok.toSize
 have h24:=places_le sz
 have hpl:=placesI_len H
 obtain ⟨v,t,e,st,l,h0,h1,h2,h3,h4⟩:=call_stir2 (n:=n) (d:=d) (args:=[.ptr d 0,.agg (hallV H vW vS vB vK),.int .i64 (most:Int)]) (s:=s) (k:=400) (Q:=fun v h m=>∃ l,Die d h∧H.Valid l∧(∀ p ∈ l,p.In H)∧l.length≤most∧Sl (fun c=>s.n≤c) h m 3 (l.map PutR.row) v) Try.func12 rfl (fun u uh un um=>by
  have hd0:=hd
  rw [← uh] at hd
  rw [← uh,← un] at hH
  rw [← un] at hdn ⊢
  have u6:=fun cl L s=>congrFun (congrFun (congrFun K12r5s6.eq_1 cl) L) s
  have u7:=fun cl L s=>congrFun (congrFun (congrFun K12r5s7.eq_1 cl) L) s
  have u8:=fun cl L s=>congrFun (congrFun (congrFun K12r5s8.eq_1 cl) L) s
  have u9:=fun cl L s=>congrFun (congrFun (congrFun K12r5s9.eq_1 cl) L) s
  obtain ⟨w,hw⟩:∃ w:St,w=u.new (.cells (hallV H vW vS vB vK) (tag 30)):=⟨_,rfl⟩
  have wn:w.n=u.n+1:=by rw [hw];rfl
  have wm:w.m=far:=by rw [hw];exact um
  have wg:∀ c,c<u.n→w.h.get c=u.h.get c:=fun c hc=>by rw [hw,get_new_ne _ _ _ (by omega)]
  have w0:w.h.get u.n=some (.cells (hallV H vW vS vB vK) (tag 30)):=by rw [hw];exact get_new_eq _ _ _ rfl (by omega)
  rw [enter12]
  simp (disch:=first|omega|(with_unfolding_all exact rfl)|(simp only[new_n,put_n,new_m];omega)|(refine put_m_le ?_;simp only[new_m];omega)) only [K12,K12r0,K12r1,Abs.W,reduceIte,Nat.reduceEqDiff,Nat.reduceAdd,decide_true,decide_false,kLoop_def,Nat.reduceSub,List.cons_append,List.nil_append,List.append_nil,List.length_cons,List.length_nil,Env.find_set]
  rw [← hw]
  simp (disch:=first|omega|(with_unfolding_all exact rfl)|(simp only[new_n,put_n,new_m];omega)|(refine put_m_le ?_;simp only[new_m];omega)) only [K12r2,Abs.W,reduceIte,Nat.reduceEqDiff,Nat.reduceAdd,decide_true,decide_false,kLoop_def,Nat.reduceSub,List.cons_append,List.nil_append,List.append_nil,List.length_cons,List.length_nil,Env.find_set,find_cons,w0,Nat.zero_add]
  generalize hc1:call _ _ _ (.fn 40) _ _=r1
  obtain ⟨va,t1,lp,rfl,st1,lp1,lp2,hA⟩:=places_ex hc1 (by omega) sz (by omega)
  have n1:=st1.n
  have k1:=st1.le
  have m1:t1.m=far:=st1.m.trans wm
  have g1:=st1.same
  have kva:=hA.okA
  have lva:=hA.rows.len
  rw [List.length_map] at lva
  simp (disch:=first|omega|(with_unfolding_all exact rfl)|(simp only[new_n,put_n,new_m];omega)|(refine put_m_le ?_;simp only[new_m];omega)) only [K12r3,Abs.W,reduceIte,Nat.reduceEqDiff,Nat.reduceAdd,decide_true,decide_false,kLoop_def,Nat.reduceSub,List.cons_append,List.nil_append,List.append_nil,List.length_cons,List.length_nil,Env.find_set,find_cons,kva,lva]
  generalize hc2:call _ _ _ (.fn 21) _ _=r2
  obtain ⟨vo,f,t2,rfl,st2,d2,hfl,hperm,hO⟩:=Shuffle_ex hc2 (by omega) (hd.keep ((g1 d (by omega)).trans (wg d hdn))) (by omega) (by omega) (by omega)
  have n2:=st2.n
  have k2:=st2.le
  have m2:d≤t2.m:=st2.m (by omega)
  have m2l:=st2.mle
  have tg:∀ c,c<u.n→c≠d→t2.h.get c=u.h.get c:=fun c hc hcd=>(st2.same c (by omega) hcd).trans ((g1 c (by omega)).trans (wg c hc))
  have kvo:∀ t,okA (.val vo t)=.val vo t:=fun t=>okA_ne hO.at_.ne
  have lvo:=hO.at_.len
  have hol:=hO.lt
  rw [natRows_len,hfl] at lvo
  have hH2:HallAt (fun c=>c≠d) t2.h t2.n H vW vS vB vK:=hH.move (fun c h1 h2=>⟨tg c h1 h2,h2⟩) (by omega)
  have g4:=(st2.same u.n (by omega) (by omega)).trans ((g1 u.n (by omega)).trans w0)
  have hA2:=hA.mono (h':=t2.h) (n':=t2.n) (fun h=>st2.same lp h (by omega)) n2
  simp (disch:=first|omega|(with_unfolding_all exact rfl)|(simp only[new_n,put_n,new_m];omega)|(refine put_m_le ?_;simp only[new_m];omega)) only [K12r4,Abs.W,reduceIte,Nat.reduceEqDiff,Nat.reduceAdd,decide_true,decide_false,kLoop_def,Nat.reduceSub,List.cons_append,List.nil_append,List.append_nil,List.length_cons,List.length_nil,Env.find_set,find_cons,kvo]
  generalize hlp:loopN _ rounds _ _ _ _ _=rl1
  obtain ⟨eE,L1,t3,rfl,rfl,l,v,b,J,hlm,q7⟩:=loop_of hlp (fun i L' t'=>∃ l v b,LayJ t2 t' d H l v b (10 * i)∧l.length≤most∧L'.find 0=.ptr d 0∧L'.find 2=.int .i64 (most:Int)∧L'.find 4=.ptr u.n 0∧L'.find 7=v∧L'.find 8=va∧L'.find 9=vo∧L'.find 10=.int .i64 (i:Int))
   (fun e L1 t3=>e=.exit 0∧∃ l v b,LayJ t2 t3 d H l v b 240∧l.length≤most∧L1.find 7=v) H.placesI.length (by unfold rounds;omega)
   ⟨[],.nilslice,t2.n,⟨Stir.refl d t2,d2,IsAt.nil _ _ _ _ _,Nat.le_refl _,valid_nil ok,fun _ h=>(by cases h)⟩,Nat.zero_le _,(by simp only [find_cons,Env.find_set,reduceIte,Nat.reduceEqDiff]),(by simp only [find_cons,Env.find_set,reduceIte,Nat.reduceEqDiff]),(by simp only [find_cons,Env.find_set,reduceIte,Nat.reduceEqDiff]),(by simp only [find_cons,Env.find_set,reduceIte,Nat.reduceEqDiff]),(by simp only [find_cons,Env.find_set,reduceIte,Nat.reduceEqDiff]),(by simp only [find_cons,Env.find_set,reduceIte,Nat.reduceEqDiff]),(by simp only [find_cons,Env.find_set,reduceIte,Nat.reduceEqDiff];rfl)⟩
   (fun i L' t' hi ⟨l,v,b,J,hlm,q0,q2,q4,q7,q8,q9,q10⟩=>by
    have kv:∀ t,okA (.val v t)=.val v t:=J.is.okA
    have lv:=J.is.rows.len
    rw [List.length_map] at lv
    by_cases hlt:i<H.placesI.length
    ·have e0:decide ((i:Int)<(H.placesI.length:Int))=true:=decide_eq_true (by omega)
     by_cases hl2:l.length<most
     ·obtain ⟨L1,t1,l1,v1,b1,k1,k2,k3,k4,k5,k6,k7,k8,k9,k10⟩:=lay_round n (by omega) ⟨12,none,Try.f12.ntmps,X 12⟩ J ok hH2 g4 ⟨by omega,by omega⟩ hA2 (by omega) hO ⟨by omega,by omega⟩ hfl rfl hperm hl2 hmost (by omega) hlt (by omega) (by omega) m2 q0 q2 q4 q7 q8 q9 q10
      exact .inl ⟨hlt,L1,t1,k1,l1,v1,b1,k2,by omega,k4,k5,k6,k7,k8,k9,k10⟩
     ·have e1:decide ((l.length:Int)<(most:Int))=false:=decide_eq_false (by omega)
      refine .inr ⟨.exit 0,L'.set 27 (.bool false),t',by simp,?_,rfl,l,v,b,⟨J.st.mono (by omega),J.die,J.is,J.b,J.ok,J.inn⟩,hlm,by simp only [Env.find_set,q7,reduceIte,Nat.reduceEqDiff]⟩
      simp (disch:=first|omega|(with_unfolding_all exact rfl)|(simp only[new_n,put_n,new_m];omega)|(refine put_m_le ?_;simp only[new_m];omega)) only [K12l0,K12r5,u6,u7,u8,u9,Abs.W,reduceIte,Nat.reduceEqDiff,Nat.reduceAdd,decide_true,decide_false,kLoop_def,Nat.reduceSub,List.cons_append,List.nil_append,List.append_nil,List.length_cons,List.length_nil,Env.find_set,Nat.zero_add,q2,q7,q9,q10,kv,kvo,lv,lvo,e0,e1]
    ·obtain rfl:i=H.placesI.length:=by omega
     have e0:decide ((H.placesI.length:Int)<(H.placesI.length:Int))=false:=by simp
     refine .inr ⟨.exit 0,L'.set 27 (.bool false),t',by simp,?_,rfl,l,v,b,⟨J.st.mono (by omega),J.die,J.is,J.b,J.ok,J.inn⟩,hlm,by simp only [Env.find_set,q7,reduceIte,Nat.reduceEqDiff]⟩
     simp (disch:=first|omega|(with_unfolding_all exact rfl)|(simp only[new_n,put_n,new_m];omega)|(refine put_m_le ?_;simp only[new_m];omega)) only [K12l0,K12r5,u6,u7,u8,u9,Abs.W,reduceIte,Nat.reduceEqDiff,Nat.reduceAdd,decide_true,decide_false,kLoop_def,Nat.reduceSub,List.cons_append,List.nil_append,List.append_nil,List.length_cons,List.length_nil,Env.find_set,Nat.zero_add,q2,q7,q9,q10,kv,kvo,lv,lvo,e0])
  have kv:∀ t,okA (.val v t)=.val v t:=J.is.okA
  have n3:=J.st.n
  have k3:=J.st.le
  have m3:=J.st.m m2
  have m3l:=J.st.mle
  have jb:=J.b
  simp (disch:=first|omega|(with_unfolding_all exact rfl)|(simp only[new_n,put_n,new_m];omega)|(refine put_m_le ?_;simp only[new_m];omega)) only [K12r10,res12,Abs.W,reduceIte,Nat.reduceEqDiff,Nat.reduceAdd,decide_true,decide_false,kLoop_def,Nat.reduceSub,List.cons_append,List.nil_append,List.append_nil,List.length_cons,List.length_nil,Env.find_set,q7,kv]
  refine ⟨_,_,rfl,⟨fun c hc hcd=>(J.st.same c (by omega) hcd).trans (tg c hc hcd),by omega,by omega,fun _=>m3,by omega⟩,⟨l,J.die,J.ok,J.inn,hlm,Sl.of_at J.is fun _=>by omega⟩,fun hp=>?_⟩
  rcases J.is.is with ⟨z1,z2⟩ | ⟨_,_,z3,_⟩
  ·have hl:l=[]:=List.map_eq_nil_iff.mp z1
   subst hl
   exact ⟨[],hd0,valid_nil ok,fun _ h=>(by cases h),Nat.zero_le _,by rw [z2];exact Sl.nil _ _ _ _⟩
  ·rw [z3] at hp;cases hp) (by omega)
 exact ⟨l,v,t,hr.symm.trans e,st,h0,h1,h2,h3,h4⟩
end Go.Proofs.Ytoklbkgcclkejaa.walk
set_option maxRecDepth 10000
namespace Go.Proofs.Ytoklbkgcclkejaa.walk
open Go.Abs Go.Proofs.Ytoklbkgcclkejaa.code
structure Truly (H:HallR) (l:List PutR) (T:List Int):Prop where
 len:T.length=l.length
 is:∀ i (h1:i<l.length) (h2:i<T.length),(H.kind l[i].kind).lo≤T[i]∧T[i]≤(H.kind l[i].kind).hi
def HallR.bearsUpto (H:HallR) (f:Nat→Int) (i:Nat):Prop:=∀ b,b<i→f b≤H.bears.getD b 0
end Go.Proofs.Ytoklbkgcclkejaa.walk
set_option maxRecDepth 10000
namespace Go.Proofs.Ytoklbkgcclkejaa.walk
open Go.Abs Go.Proofs.Ytoklbkgcclkejaa.code
noncomputable abbrev awd (n:Nat):CallF:=knows 19 (call Try.prog X n)
theorem verdict_sure {H:HallR} {l:List PutR} (h:H.verdict l=1):∀ b,b<H.bays→tot (H.highs l) b≤H.bears.getD b 0:=fun b hb=>by
 unfold HallR.verdict at h
 split at h
 ·cases h
 ·split at h
  ·cases h
  ·rename_i h2
   exact Int.not_lt.mp fun h3=>h2 ⟨b,hb,h3⟩
theorem truly_sum {H:HallR} {l:List PutR} {T:List Int} (h:Truly H l T) (b:Nat):tot (H.lows l) b≤tot (H.trues l T) b∧tot (H.trues l T) b≤tot (H.highs l) b:=true_between l T b h.len h.is
end Go.Proofs.Ytoklbkgcclkejaa.walk
set_option maxRecDepth 10000
namespace Go.Proofs.Ytoklbkgcclkejaa.walk
open Go.Abs Go.Proofs.Ytoklbkgcclkejaa.code
def HallR.lowL (H:HallR) (l:List PutR):List Int:=l.map fun p=>(H.kind p.kind).lo
def HallR.highL (H:HallR) (l:List PutR):List Int:=l.map fun p=>(H.kind p.kind).hi
theorem trues_low (H:HallR):∀ l:List PutR,H.trues l (H.lowL l)=H.lows l
 | []=>rfl
 | p::l=>by
  have:=trues_low H l
  show (H.bay p,(H.kind p.kind).lo)::H.trues l (H.lowL l)=_
  rw [this];rfl
theorem lowL_at (H:HallR) (l:List PutR) (i:Nat) (h:i<(H.lowL l).length) (h':i<l.length):(H.lowL l)[i]=(H.kind l[i].kind).lo:=by simp [HallR.lowL]
theorem low_le_high {H:HallR} (ok:H.Ok) {l:List PutR} (hl:∀ q ∈ l,q.In H) (b:Nat):tot (H.lows l) b≤tot (H.highs l) b:=by
 have hT:Truly H l (H.lowL l):=⟨by unfold HallR.lowL;rw [List.length_map],fun i h1 h2=>by
  have h3:=(kindOk ok (hl _ (List.getElem_mem h1)).k).l1
  rw [lowL_at H l i h2 h1]
  exact ⟨Int.le_refl _,h3⟩⟩
 have:=truly_sum hT b
 rw [trues_low] at this
 exact this.2
theorem sure_iff {H:HallR} (ok:H.Ok) {l:List PutR} (hl:∀ q ∈ l,q.In H):H.verdict l=1↔H.bearsUpto (fun b=>tot (H.highs l) b) H.bays:=by
 constructor
 ·exact fun h=>verdict_sure h
 ·intro h
  unfold HallR.verdict
  rw [if_neg (by rintro ⟨b,h1,h2⟩;have:=h b h1;have:=low_le_high ok hl b;simp only at *;omega),if_neg (by rintro ⟨b,h1,h2⟩;have:=h b h1;simp only at *;omega)]
theorem eql_cellN (a b:Int × Int) (s:St):eqlA cellCmp true s (.agg (cellR a)) (.agg (cellR b))=.val (.bool (!decide (a=b))) s:=by
 unfold eqlA
 rw [eq_cell]
 cases decide (a=b)<;>rfl
structure EndJ (w t:St) (H:HallR) (l:List PutR) (i:Nat) (v1 v2:AV) (b1 b2:Nat):Prop where
 i1:IsAt t.h t.n b1 1 (tag 3) (intRows (H.lowL (l.take i))) v1
 i2:IsAt t.h t.n b2 1 (tag 3) (intRows (H.highL (l.take i))) v2
 lo:w.n≤b1∧w.n≤b2∧b1≠b2∧(b1<t.n∨far<b1)∧(b2<t.n∨far<b2)
 same:∀ c,c<w.n→t.h.get c=w.h.get c
 n:w.n≤t.n
 le:t.n≤w.n+4 * i
 m:t.m≤far
end Go.Proofs.Ytoklbkgcclkejaa.walk
