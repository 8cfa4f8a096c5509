/- The die: numbers of a span, and how it is born. -/
import Derived.Test.YtoklbkgcclkejaaM4
import Derived.Test.YtoklbkgcclkejaaM5
import Derived.Test.YtoklbkgcclkejaaCodes
import Derived.Test.YtoklbkgcclkejaaWalkAll
set_option linter.unusedSimpArgs false
set_option linter.unusedVariables false
set_option maxHeartbeats 16000000
set_option linter.unusedVariables false
set_option maxRecDepth 10000
namespace Go.Proofs.Ytoklbkgcclkejaa.walk
open Go.Abs Go.Proofs.Ytoklbkgcclkejaa.code
end Go.Proofs.Ytoklbkgcclkejaa.walk
set_option maxRecDepth 10000
namespace Go.Abs
theorem vhJ {s:St} {lo n0 w bytes tg:Nat} {rows:List (List AV)} {v:AV} (r:Own s.h lo n0 w tg rows v) (hn:n0≤s.n) {p sz:Nat} {row:List AV} (hp:s.h.get p=some (.cells row sz)) (hw:row.length=w) (hsc:scalars row=true)
  (hb:(rows.length+1) * bytes≤1000000) (htg:vD (w+tg)=w) (hs:s.n<549755813888) :
  ∃ s',jT false w bytes tg s v (.slice p 0 1 1 false)=.val (.slice s.n 0 (rows.length+1) (rows.length+1) true) s'∧IsAt s'.h s'.n s.n w tg (rows++[row]) (.slice s.n 0 (rows.length+1) (rows.length+1) true)∧s'.n=s.n+1∧(∀ c,c<s.n→(c<lo∨n0≤c)→s'.h.get c=s.h.get c)∧(∀ k,k≤lo→k≤s.n→k≤s.m→k≤s'.m)∧s'.m≤s.m:=by
 rcases r.is with ⟨h1,h2 | ⟨b,h0,h3,h4,h5⟩⟩ | ⟨h1,b,h0,h3,h4,h5⟩
 ·obtain ⟨s',e1,e2,e3,e4,e5,e6⟩:=vI (bytes:=bytes) (⟨r.wide,.inl ⟨h1,h2⟩⟩:IsAt s.h s.n s.n w tg rows v) hp hw hsc hb htg hs
  exact ⟨s',e1,e2,e3,fun c hc _=>e4 c hc (by omega),fun k _ hk hm=>e5 k hk hk hm,e6⟩
 ·have bl:Blk s.h s.n b w tg rows v:=⟨r.wide,false,0,by rw [h4,h1];rfl,by omega,by rw [h5,h1];rfl,fun h=>by cases h⟩
  obtain ⟨s',e1,e2,e3,e4,e5,e6⟩:=gqA (bytes:=bytes) bl hp hw hsc hb htg hs
  refine ⟨s',e1,⟨e2.wide,.inr ⟨by simp,by omega,by simp,?_⟩⟩,e3,fun c hc hl=>e4 c hc (by omega),fun k hk _ hm=>e5 k (by omega) hm,e6⟩
  obtain ⟨e,sz',z1,z2,z3,z4⟩:=e2.is
  injection z1 with _ _ _ _ z5
  rw [z3,z4 z5.symm]
 ·have bl:Blk s.h s.n b w tg rows v:=⟨r.wide,true,_,h4,by omega,h5,fun _=>rfl⟩
  obtain ⟨s',e1,e2,e3,e4,e5,e6⟩:=gqA (bytes:=bytes) bl hp hw hsc hb htg hs
  refine ⟨s',e1,⟨e2.wide,.inr ⟨by simp,by omega,by simp,?_⟩⟩,e3,fun c hc hl=>e4 c hc (by omega),fun k hk _ hm=>e5 k (by omega) hm,e6⟩
  obtain ⟨e,sz',z1,z2,z3,z4⟩:=e2.is
  injection z1 with _ _ _ _ z5
  rw [z3,z4 z5.symm]
end Go.Abs
namespace Go.Proofs.Ytoklbkgcclkejaa.walk
open Go.Abs Go.Proofs.Ytoklbkgcclkejaa.code
theorem WvA (l:List PutR):∀ r ∈ l.map PutR.row,scalars r=true:=fun r hr=>by
 obtain ⟨p,_,rfl⟩:=List.mem_map.mp hr
 rfl
theorem ZxA {N:Nat} {no:Nat→Prop} {l:List PutR} {v:AV} {s:St} {r:ARes} (hr:call Try.prog X N (.fn 27) [v] s=r) (hN:1≤N) (hR:Sl no s.h s.n 3 (l.map PutR.row) v) (hl:l.length≤1000) (hs:s.n+100≤far) :
  ∃ w t,r=.val w t∧New s t 2∧Own t.h s.n t.n 3 (tag 51) (l.map PutR.row) w:=by
 obtain ⟨n,rfl⟩:∃ n,N=n+1:=⟨N - 1,by omega⟩
 have hf:=hfar
 obtain ⟨w,t,e,st,hq⟩:=WO (n:=n) (args:=[v]) (s:=s) (k:=2) (Q:=fun w h n=>Own h s.n n 3 (tag 51) (l.map PutR.row) w) Try.func27 rfl (fun u uh un um=>by
  rw [← uh,← un] at hR
  rw [← un]
  have kv:=hR.okA
  rw [jQQ]
  obtain ⟨y,hy⟩:∃ y:St,y=u.new (.cells [] 0):=⟨_,rfl⟩
  have yn:y.n=u.n+1:=by rw [hy];rfl
  have ym:y.m=far:=by rw [hy];exact um
  have yg:∀ c,c<u.n→y.h.get c=u.h.get c:=fun c hc=>by rw [hy,zH _ _ _ (by omega)]
  have y0:y.h.get u.n=some (.cells [] 0):=by rw [hy];exact zM _ _ _ rfl (by omega)
  simp (disch:=first|omega|with_unfolding_all rfl) only [jqQ,K27r0,K27r1,K27,Abs.W,reduceIte,Nat.reduceEqDiff,Nat.reduceAdd,Nat.reduceSub,kv]
  obtain ⟨w,s',e1,hO,n1,n2,hg,m1,m2⟩:=JW (tg:=tag 51) (bytes:=24) (hR.grow yg (by omega:u.n≤y.n)).seq y0 (by omega) (WvA l) (by rw [List.length_map];omega) (by omega)
  rw [hy] at e1
  simp (disch:=first|omega|with_unfolding_all rfl) only [jqQ,K27r0,K27r1,K27,Abs.W,reduceIte,Nat.reduceEqDiff,Nat.reduceAdd,Nat.reduceSub,e1]
  refine ⟨_,_,rfl,⟨fun c hc=>(hg c (by omega)).trans (yg c hc),by omega,by omega,?_,by omega⟩,hO,fun hp=>?_⟩
  ·exact m1 u.n (Nat.le_refl _) (by omega)
  ·rcases hO.is with ⟨h1,h2 | ⟨b,_,_,h4,_⟩⟩ | ⟨_,b,_,_,h4,_⟩
   ·rw [h1,h2];exact ⟨fun x hx=>(by cases hx),.inl ⟨rfl,.inl rfl⟩⟩
   ·subst h4;cases hp
   ·subst h4;cases hp)
 exact ⟨w,t,hr.symm.trans e,st,hq⟩
theorem zlJ (l:List Int):∀ r ∈ jA l,scalars r=true:=fun r hr=>by
 obtain ⟨p,_,rfl⟩:=List.mem_map.mp hr
 rfl
abbrev slI (b m:Nat):AV:=.slice b 0 m m true
theorem vOA {N:Nat} {no:Nat→Prop} {l:List Int} {v:AV} {s:St} {r:ARes} (hr:call Try.prog X N (.fn 59) [v] s=r) (hN:1≤N) (hR:Sl no s.h s.n 1 (jA l) v) (h0:l≠[]) (hl:l.length≤1000) (hs:s.n+100≤far) :
  ∃ b t,r=.val (slI b l.length) t∧New s t 2∧s.n≤b∧b<t.n∧t.h.get b=some (.cells (jA l).flatten (1+tag 3)):=by
 obtain ⟨n,rfl⟩:∃ n,N=n+1:=⟨N - 1,by omega⟩
 have hf:=hfar
 have hne:jA l≠[]:=fun h=>h0 (List.map_eq_nil_iff.mp h)
 obtain ⟨w,t,e,st,b,rfl,h1,h2,h3⟩:=vm (n:=n) (args:=[v]) (s:=s) (k:=2) (Q:=fun w h n=>∃ b,w=slI b l.length∧s.n≤b∧b<n∧h.get b=some (.cells (jA l).flatten (1+tag 3))) Try.func59 rfl (fun u uh un um=>by
  rw [← uh,← un] at hR
  rw [← un]
  have kv:=hR.okA
  rw [zuQ]
  obtain ⟨y,hy⟩:∃ y:St,y=u.new (.cells [] 0):=⟨_,rfl⟩
  have yn:y.n=u.n+1:=by rw [hy];rfl
  have ym:y.m=far:=by rw [hy];exact um
  have yg:∀ c,c<u.n→y.h.get c=u.h.get c:=fun c hc=>by rw [hy,zH _ _ _ (by omega)]
  have y0:y.h.get u.n=some (.cells [] 0):=by rw [hy];exact zM _ _ _ rfl (by omega)
  simp (disch:=first|omega|with_unfolding_all rfl) only [jnQ,K59r0,K59r1,K59,Abs.W,reduceIte,Nat.reduceEqDiff,Nat.reduceAdd,Nat.reduceSub,kv]
  obtain ⟨w,s',e1,hO,n1,n2,hg,m1,m2⟩:=JW (tg:=tag 3) (bytes:=8) (hR.grow yg (by omega:u.n≤y.n)).seq y0 (by omega) (zlJ l) (by rw [jc];omega) (by omega)
  rw [hy] at e1
  simp (disch:=first|omega|with_unfolding_all rfl) only [jnQ,K59r0,K59r1,K59,Abs.W,reduceIte,Nat.reduceEqDiff,Nat.reduceAdd,Nat.reduceSub,e1]
  rcases hO.is with ⟨h,_⟩ | ⟨_,b,h1,h2,h3,h4⟩
  ·exact absurd h hne
  ·rw [jc] at h3
   subst h3
   exact ⟨_,_,rfl,⟨fun c hc=>(hg c (by omega)).trans (yg c hc),by omega,by omega,m1 u.n (Nat.le_refl _) (by omega),by omega⟩,rfl,b,rfl,h1,h2,h4⟩)
 exact ⟨b,t,hr.symm.trans e,st,h1,h2,h3⟩
structure KX (h:Heap) (n lo m bK:Nat) (ks:List KindR) (ba:List Nat) (v:AV):Prop where
 len:ba.length=ks.length
 is:IsAt h n bK 6 (tag 49) (yI ks (ba.map fun b=>slI b m)) v
 a:∀ i (h1:i<ba.length) (h2:i<ks.length),lo≤ba[i]∧ba[i]<n∧ba[i]≠bK∧ks[i].away.length=m∧h.get ba[i]=some (.cells (jA ks[i].away).flatten (1+tag 3))
 nd:ba.Nodup
 lo:lo≤bK
 hb:bK<n∨far<bK
theorem KX.move {h h':Heap} {n n' lo m bK:Nat} {ks:List KindR} {ba:List Nat} {v:AV} (r:KX h n lo m bK ks ba v) (hh:∀ c,c<n→lo≤c→h'.get c=h.get c) (hn:n≤n'):KX h' n' lo m bK ks ba v :=
 ⟨r.len,r.is.mono (fun h=>hh bK h r.lo) hn,fun i h1 h2=>by
  obtain ⟨a1,a2,a3,a4,a5⟩:=r.a i h1 h2
  exact ⟨a1,by omega,a3,a4,(hh _ a2 a1).trans a5⟩,r.nd,r.lo,r.hb.imp (fun h=>by omega) id⟩
theorem yCJ {no:Nat→Prop} {h:Heap} {n b:Nat} {l:List Int} (h0:l≠[]) (hb:b<n∧no b) (g:h.get b=some (.cells (jA l).flatten (1+tag 3))):Sl no h n 1 (jA l) (slI b l.length):=by
 have wd:∀ x ∈ jA l,x.length=1:=fun x hx=>by obtain ⟨p,_,rfl⟩:=List.mem_map.mp hx;rfl
 refine ⟨wd,.inr ⟨b,0,l.length,true,_,_,hb.1,hb.2,⟨by rw [jc];exact Nat.le_refl _,fun _=>List.length_pos_iff.mpr h0⟩,by rw [jc],g,?_⟩⟩
 rw [yJ,← jx wd]
 exact yr _
theorem KX.at_ {h:Heap} {n lo m bK:Nat} {ks:List KindR} {ba:List Nat} {v:AV} (r:KX h n lo m bK ks ba v) (hm:1≤m):KindsAt (fun c=>lo≤c) h n ks v:=by
 refine ⟨ba.map fun b=>slI b m,by rw [List.length_map];exact r.len,Sl.of_at r.is fun _=>r.lo,fun i h1 h2=>?_⟩
 rw [List.length_map] at h1
 obtain ⟨a1,a2,a3,a4,a5⟩:=r.a i h1 h2
 have:=yCJ (no:=fun c=>lo≤c) (fun h=>by rw [h] at a4;simp at a4;omega) ⟨a2,a1⟩ a5
 rw [a4] at this
 simp only [List.getElem_map]
 exact this
theorem vRJ (N:Nat) (hN:2≤N) (cx:Ctx) {t:St} {no:Nat→Prop} {p1 lo m bK i:Nat} {ks:List KindR} {ba:List Nat} {a0 a1 a2 a3 a4 a5 a6 vs v:AV} {L:Env} (hK:KindsAt no t.h t.n ks vs) (hi:i<ks.length) (hks:ks.length≤6) (hm:1≤m∧m≤6) (ham:ks[i].away.length=m) (J:KX t.h t.n lo m bK (ks.take i) ba v) (g1:t.h.get p1=some (.cells [a0,a1,a2,a3,a4,a5,a6,v] (tag 30))) (hp1:p1<lo∧lo≤t.n) (hs:t.n+1000≤far)
  (q1:L.find 1=.ptr p1 0) (q3:L.find 3=vs) (q4:L.find 4=.int .i64 (i:Int)) :
  ∃ L1 t1 v1 bK1 ba1,wyJ (call Try.prog X N) cx L [] t=.done .norm L1 [] t1∧KX t1.h t1.n lo m bK1 (ks.take (i+1)) ba1 v1∧t1.h.get p1=some (.cells [a0,a1,a2,a3,a4,a5,a6,v1] (tag 30))∧t.n≤t1.n∧t1.n≤t.n+10∧(∀ c,c<t.n→c≠p1→c≠bK→t1.h.get c=t.h.get c)∧(∀ k,k≤p1→k≤t.m→k≤t1.m)∧t1.m≤t.m∧L1.find 1=.ptr p1 0∧L1.find 2=L.find 2∧L1.find 3=vs∧L1.find 4=.int .i64 ((i+1:Nat):Int):=by
 have hf:=hfar
 have ko:=hK.okA
 have lo':=hK.len
 have e0:decide ((i:Int)<(ks.length:Int))=true:=decide_eq_true (by omega)
 have ad:∀ s,jI s .i64 (i:Int) 1=.val (.int .i64 ((i:Int)+1)) s:=fun s=>za s _ _ (by omega)
 obtain ⟨aw,kb,koo,kc,ksz,⟨kb1,kbn⟩,kb2,kb3,kcut,hAw⟩:=hK.get hi
 obtain ⟨K,hKe⟩:∃ K,K=ks[i]:=⟨_,rfl⟩
 rw [← hKe] at kcut hAw ham
 have kaw:=hAw.okA
 have hsc:scalars (K.row aw)=true:=by
  show scalars [aw,.int .i64 K.rent,.int .i64 K.most]=true
  rw [hAw.scal.2.2];rfl
 have okr:∀ t,okA (.val (.agg (K.row aw)) t)=.val (.agg (K.row aw)) t:=fun _=>rfl
 obtain ⟨A,hA⟩:∃ A:St,A=(t.new (.cells [.int .i64 0,.int .i64 0,.bool false,.nilslice,.int .i64 0,.int .i64 0] (tag 49))).put t.n (.cells (K.row aw) (tag 49)):=⟨_,rfl⟩
 have stA:jM 6 (t.new (.cells [.int .i64 0,.int .i64 0,.bool false,.nilslice,.int .i64 0,.int .i64 0] (tag 49))) (.agg (K.row aw)) (.ptr t.n 0)=.val .undef A:=by
  rw [hA];exact jk _ 6 _ _ _ _ (zM _ _ _ rfl (by omega)) rfl rfl hsc
 have An:A.n=t.n+1:=by rw [hA];rfl
 have Am:A.m=min t.m t.n:=by rw [hA];simp only [St.put,zQ,jF]
 have Ag:∀ b,b<t.n→A.h.get b=t.h.get b:=fun b hb=>by rw [hA,zL _ _ _ _ (by omega),zH _ _ _ (by omega)]
 have A5:A.h.get t.n=some (.cells [.int .i64 K.lo,.int .i64 K.hi,.bool K.water,aw,.int .i64 K.rent,.int .i64 K.most] (tag 49)):=by rw [hA];exact zN _ _ _ _ rfl (by omega)
 clear hA
 have h0:K.away≠[]:=fun h=>by rw [h] at ham;simp at ham;omega
 obtain ⟨b5,B,eB,sB,b51,b52,b53⟩:=vOA (N:=N) rfl (by omega) (hAw.grow Ag (by omega:t.n≤A.n)) h0 (by omega) (by omega)
 rw [ham] at eB
 have Bn:=sB.n
 have Bl:=sB.le
 have Bm:B.m=A.m:=sB.m
 have B5:=(sB.same t.n (by omega)).trans A5
 obtain ⟨C,hC⟩:∃ C:St,C=B.put t.n (.cells (K.row (slI b5 m)) (tag 49)):=⟨_,rfl⟩
 have stC:jM 1 B (slI b5 m) (.ptr t.n 3)=.val .undef C:=by
  rw [hC];exact jZ B5 (by show 3<6;omega) rfl rfl
 have Cn:C.n=B.n:=by rw [hC,jB]
 have Cm:C.m=min B.m t.n:=by rw [hC];simp only [St.put,zQ]
 have Cg:∀ b,b≠t.n→C.h.get b=B.h.get b:=fun b hb=>by rw [hC,zL _ _ _ _ hb]
 have C5:C.h.get t.n=some (.cells [.int .i64 K.lo,.int .i64 K.hi,.bool K.water,slI b5 m,.int .i64 K.rent,.int .i64 K.most] (tag 49)):=by rw [hC];exact zN _ _ _ _ rfl (by omega)
 clear hC
 have Ct:∀ b,b<t.n→C.h.get b=t.h.get b:=fun b hb=>(Cg b (by omega)).trans ((sB.same b (by omega)).trans (Ag b hb))
 have kvv:=J.is.okA
 have jlo:=J.lo
 have jhb:=J.hb
 obtain ⟨D,hD⟩:∃ D:St,D=C.new (.cells [.int .i64 K.lo,.int .i64 K.hi,.bool K.water,slI b5 m,.int .i64 K.rent,.int .i64 K.most] 0):=⟨_,rfl⟩
 have Dn:D.n=C.n+1:=by rw [hD];rfl
 have Dm:D.m=C.m:=by rw [hD];rfl
 have Dg:∀ b,b<C.n→D.h.get b=C.h.get b:=fun b hb=>by rw [hD,zH _ _ _ (by omega)]
 have Dp:D.h.get C.n=some (.cells (K.row (slI b5 m)) 0):=by rw [hD];exact zM _ _ _ rfl (by omega)
 have hws:(ba.map fun b=>slI b m).length=(ks.take i).length:=by rw [List.length_map];exact J.len
 have hrl:(yI (ks.take i) (ba.map fun b=>slI b m)).length=i:=by rw [vO hws,List.length_take];omega
 obtain ⟨s7,e7,l7,s7n,s7g,s7m,s7l⟩:=vI (bytes:=64) (J.is.mono (h':=D.h) (n':=D.n) (fun h=>(Dg bK (by omega)).trans (Ct bK h)) (by omega)) Dp rfl rfl (by omega) (by kernel_rfl) (by omega)
 rw [hrl] at e7 l7
 obtain ⟨v7,hv7⟩:∃ v7,v7=AV.slice D.n 0 (i+1) (i+1) true:=⟨_,rfl⟩
 rw [← hv7] at e7 l7
 have gp:s7.h.get p1=some (.cells [a0,a1,a2,a3,a4,a5,a6,v] (tag 30)):=(s7g p1 (by omega) (by omega)).trans ((Dg p1 (by omega)).trans ((Ct p1 (by omega)).trans g1))
 have g1C:=(Ct p1 (by omega)).trans g1
 obtain ⟨E,hE⟩:∃ E:St,E=s7.put p1 (.cells [a0,a1,a2,a3,a4,a5,a6,v7] (tag 30)):=⟨_,rfl⟩
 have stE:jM 1 s7 v7 (.ptr p1 7)=.val .undef E:=by
  rw [hE];exact jZ gp (by show 7<8;omega) (by rw [hv7];rfl) (by rw [hv7];rfl)
 have En:E.n=s7.n:=by rw [hE,jB]
 have Em:E.m=min s7.m p1:=by rw [hE];simp only [St.put,zQ]
 have Eg:∀ b,b≠p1→E.h.get b=s7.h.get b:=fun b hb=>by rw [hE,zL _ _ _ _ hb]
 have Ep:E.h.get p1=some (.cells [a0,a1,a2,a3,a4,a5,a6,v7] (tag 30)):=by rw [hE];exact zN _ _ _ _ rfl (by omega)
 clear hE
 have okr2:∀ t,okA (.val (.agg [.int .i64 K.lo,.int .i64 K.hi,.bool K.water,slI b5 m,.int .i64 K.rent,.int .i64 K.most]) t)=.val (.agg [.int .i64 K.lo,.int .i64 K.hi,.bool K.water,slI b5 m,.int .i64 K.rent,.int .i64 K.most]) t:=fun _=>rfl
 simp (disch:=first|omega|with_unfolding_all rfl) only [wyJ,K33r5,K33r6,Abs.W,reduceIte,Nat.reduceEqDiff,Nat.reduceAdd,Nat.reduceSub,q1,q3,q4,ko,lo',e0,kb2,kb3,kcut,okr,stA,Nat.zero_add]
 simp (disch:=first|omega|with_unfolding_all rfl) only [yeQ,Abs.W,reduceIte,Nat.reduceEqDiff,Nat.reduceAdd,Nat.reduceSub,A5,kaw,eB,stC,Nat.zero_add]
 simp (disch:=first|omega|with_unfolding_all rfl) only [ydQ,Abs.W,reduceIte,Nat.reduceEqDiff,Nat.reduceAdd,Nat.reduceSub,q1,g1C,kvv,C5,okr2,Nat.zero_add]
 rw [← hD]
 simp (disch:=first|omega|with_unfolding_all rfl) only [ycQ,Abs.W,reduceIte,Nat.reduceEqDiff,Nat.reduceAdd,Nat.reduceSub,q1,q4,e7,stE,ad,Nat.zero_add]
 have htk:ks.take (i+1)=ks.take i++[K]:=by rw [hKe];exact yE hi
 have gE:∀ c,c<t.n→c≠p1→c≠bK→E.h.get c=t.h.get c:=fun c h1 h2 h3=>(Eg c h2).trans ((s7g c (by omega) h3).trans ((Dg c (by omega)).trans (Ct c h1)))
 refine ⟨_,E,v7,D.n,ba++[b5],rfl,⟨?_,?_,fun j h1 h2=>?_,?_,by omega,.inl (by omega)⟩,Ep,by omega,by omega,gE,fun k h1 h2=>?_,by omega,?_,?_,?_,?_⟩
 ·rw [htk,List.length_append,List.length_append,J.len];rfl
 ·rw [htk,List.map_append,List.map_singleton,Wf hws]
  exact l7.mono (fun _=>Eg _ (by omega)) (by omega)
 ·have hbl:=J.len
  have htl:(ks.take i).length=i:=by rw [List.length_take];omega
  simp only [htk]
  by_cases hj:j<ba.length
  ·obtain ⟨c1,c2,c3,c4,c5⟩:=J.a j hj (by omega)
   rw [List.getElem_append_left hj]
   simp only [List.getElem_append_left (show j<(ks.take i).length by omega)]
   exact ⟨c1,by omega,by omega,c4,(gE _ (by omega) (by omega) c3).trans c5⟩
  ·have hj':j=ba.length:=by rw [List.length_append,List.length_singleton] at h1;omega
   subst hj'
   rw [List.getElem_append_right (Nat.le_refl _)]
   have eK:∀ (h:ba.length<(ks.take i++[K]).length),(ks.take i++[K])[ba.length]'h=K:=fun h=>by
    rw [List.getElem_append_right (by omega)]
    simp [hbl]
   simp only [eK,Nat.sub_self,List.getElem_cons_zero]
   exact ⟨by omega,by omega,by omega,ham,(Eg b5 (by omega)).trans ((s7g b5 (by omega) (by omega)).trans ((Dg b5 (by omega)).trans ((Cg b5 (by omega)).trans b53)))⟩
 ·refine List.nodup_append.mpr ⟨J.nd,List.pairwise_singleton _ _,fun x hx y hy=>?_⟩
  obtain ⟨j,hj,rfl⟩:=List.getElem_of_mem hx
  rw [List.mem_singleton.mp hy]
  have hbl:=J.len
  have:=(J.a j hj (by omega)).2.1
  omega
 ·have:=s7m k (by omega) (by omega) (by omega)
  omega
 ·simp only [efs,q1,reduceIte,Nat.reduceEqDiff]
 ·simp only [efs,reduceIte,Nat.reduceEqDiff]
 ·simp only [efs,q3,reduceIte,Nat.reduceEqDiff]
 ·simp only [efs,reduceIte,Nat.reduceEqDiff];rfl
structure HallX (h:Heap) (n s0 bB q m bK:Nat) (ba:List Nat) (H:HallR) (vW vS vB vK:AV):Prop where
 w:Sl (fun c=>s0≤c∧c<bB) h n 2 (H.water.map jC) vW
 s:Sl (fun c=>s0≤c∧c<bB) h n 2 (H.shut.map jC) vS
 b:vB=slI bB H.bears.length∧h.get bB=some (.cells (jA H.bears).flatten (1+tag 3))
 k:KX h n q m bK H.kinds ba vK
 q:(s0≤bB∧bB<q)∧q≤n
theorem HallX.move {h h':Heap} {n n' s0 bB q m bK:Nat} {ba:List Nat} {H:HallR} {vW vS vB vK:AV} (r:HallX h n s0 bB q m bK ba H vW vS vB vK) (hh:∀ c,c<n→s0≤c→h'.get c=h.get c) (hn:n≤n'):HallX h' n' s0 bB q m bK ba H vW vS vB vK :=
 ⟨r.w.move (fun c h1 h2=>⟨hh c h1 h2.1,h2⟩) hn,r.s.move (fun c h1 h2=>⟨hh c h1 h2.1,h2⟩) hn,⟨r.b.1,(hh bB (by have:=r.q;omega) r.q.1.1).trans r.b.2⟩,r.k.move (fun c h1 h2=>hh c h1 (by have:=r.q;omega)) hn,r.q.1,by have:=r.q;omega⟩
theorem HallX.at_ {h:Heap} {n s0 bB q m bK:Nat} {ba:List Nat} {H:HallR} {vW vS vB vK:AV} (r:HallX h n s0 bB q m bK ba H vW vS vB vK) (hb:H.bears≠[]) (hm:1≤m):HallAt (fun c=>s0≤c) h n H vW vS vB vK:=by
 have hq:=r.q
 refine ⟨r.w.move (fun c h1 h2=>⟨rfl,h2.1⟩) (Nat.le_refl _),r.s.move (fun c h1 h2=>⟨rfl,h2.1⟩) (Nat.le_refl _),?_,(r.k.at_ hm).move (fun c h1 h2=>⟨rfl,by have:q≤c:=h2;omega⟩) (Nat.le_refl _)⟩
 rw [r.b.1]
 exact yCJ hb ⟨by omega,hq.1.1⟩ r.b.2
theorem znA {h:Heap} {lo n w tg:Nat} {rows:List (List AV)} {v:AV} (r:Own h lo n w tg rows v):(scalars [v]=true∧cellsOf 1 v=some [v])∧(∀ t,okA (.val v t)=.val v t)∧∀ l,scalars (v::l)=scalars l:=by
 rcases r.is with ⟨h1,h2 | ⟨b,_,_,h4,_⟩⟩ | ⟨_,b,_,_,h4,_⟩
 ·rw [h2];exact ⟨⟨rfl,rfl⟩,fun _=>rfl,fun _=>rfl⟩
 ·rw [h4];exact ⟨⟨rfl,rfl⟩,fun _=>rfl,fun _=>rfl⟩
 ·rw [h4];exact ⟨⟨rfl,rfl⟩,fun _=>rfl,fun _=>rfl⟩
theorem jsA {no:Nat→Prop} {h:Heap} {lo n w tg:Nat} {rows:List (List AV)} {v:AV} (r:Own h lo n w tg rows v) (hno:∀ b,lo≤b→b<n→no b):Sl no h n w rows v:=by
 rcases r.is with ⟨h1,h2 | ⟨b,h5,h3,h4,h6⟩⟩ | ⟨h0,b,h5,h3,h4,h6⟩
 ·rw [h1,h2];exact Sl.nil _ _ _ _
 ·rw [h1,h4];exact ⟨fun _ h=>(by cases h),.inr ⟨b,0,0,false,[],0,h3,hno b h5 h3,⟨Nat.le_refl _,fun h=>(by cases h)⟩,rfl,h6,by rw [List.length_nil,Nat.zero_mul];rfl⟩⟩
 ·rw [h4];exact ⟨r.wide,.inr ⟨b,0,rows.length,true,_,_,h3,hno b h5 h3,⟨Nat.le_refl _,fun _=>List.length_pos_iff.mpr h0⟩,rfl,h6,by rw [yJ,← jx r.wide];exact yr _⟩⟩
theorem zoA {h h':Heap} {lo lo' n n' w tg:Nat} {rows:List (List AV)} {v:AV} (r:Own h lo n w tg rows v) (hh:∀ b,lo≤b→b<n→h'.get b=h.get b) (hl:lo'≤lo) (hn:n≤n'):Own h' lo' n' w tg rows v :=
 ⟨r.wide,r.is.imp (fun ⟨h1,h2⟩=>⟨h1,h2.imp id fun ⟨b,q1,q2,q3,q4⟩=>⟨b,by omega,by omega,q3,(hh b q1 q2).trans q4⟩⟩) fun ⟨h1,b,q1,q2,q3,q4⟩=>⟨h1,b,by omega,by omega,q3,(hh b q1 q2).trans q4⟩⟩
theorem YRA (l:List (Int × Int)):∀ r ∈ l.map jC,scalars r=true:=fun r hr=>by
 obtain ⟨p,_,rfl⟩:=List.mem_map.mp hr
 rfl
theorem VeA {N:Nat} {no:Nat→Prop} {H:HallR} {vW vS vB vK:AV} {s:St} {r:ARes} (hr:call Try.prog X N (.fn 33) [.agg (zP H vW vS vB vK)] s=r) (hN:4≤N) (ok:H.Ok) (hH:HallAt no s.h s.n H vW vS vB vK) (hs:s.n+5000≤far) :
  ∃ wW wS wB wK t bB q bK ba,r=.val (.agg (zP H wW wS wB wK)) t∧New s t 200∧HallX t.h t.n s.n bB q H.kinds.length bK ba H wW wS wB wK∧∃ e1,(s.n≤e1∧e1≤bB)∧Own t.h s.n e1 2 (tag 27) (H.water.map jC) wW∧Own t.h e1 bB 2 (tag 27) (H.shut.map jC) wS:=by
 obtain ⟨n,rfl⟩:∃ n,N=n+1:=⟨N - 1,by omega⟩
 have hf:=hfar
 have k0:=ok.k0
 have k1:=ok.k1
 have hbb:=ok.bl
 have hbp:=jVJ ok.toSize
 have hb24:=vY ok.toSize
 have hwl:=ok.wl
 have hsl:=ok.sl
 have hb0:H.bears≠[]:=fun h=>by rw [h] at hbb;simp at hbb;omega
 obtain ⟨v,t,e,st,wW,wS,wB,wK,bB,q,bK,ba,rfl,hX,hO⟩:=vm (n:=n) (args:=[.agg (zP H vW vS vB vK)]) (s:=s) (k:=200) (Q:=fun v h m=>∃ wW wS wB wK bB q bK ba,v=.agg (zP H wW wS wB wK)∧HallX h m s.n bB q H.kinds.length bK ba H wW wS wB wK∧∃ e1,(s.n≤e1∧e1≤bB)∧Own h s.n e1 2 (tag 27) (H.water.map jC) wW∧Own h e1 bB 2 (tag 27) (H.shut.map jC) wS) Try.func33 rfl (fun u uh un um=>by
  rw [← uh,← un] at hH
  rw [← un]
  rw [← un] at hs
  have kW:=hH.w.okA
  have kS:=hH.s.okA
  have kB:=hH.b.okA
  have kK:=hH.k.okA
  have lK:=hH.k.len
  have nn1:∀ o,(u.new o).n=u.n+1:=fun _=>rfl
  obtain ⟨w,hw⟩:∃ w:St,w=(u.new (.cells (zP H vW vS vB vK) (tag 30))).new (.cells [.int .i64 0,.int .i64 0,.nilslice,.nilslice,.int .i64 0,.int .i64 0,.nilslice,.nilslice] (tag 30)):=⟨_,rfl⟩
  have wn:w.n=u.n+2:=by rw [hw];rfl
  have wm:w.m=far:=by rw [hw];exact um
  have wg:∀ c,c<u.n→w.h.get c=u.h.get c:=fun c hc=>by rw [hw,zH _ _ _ (by simp only [zW];omega),zH _ _ _ (by omega)]
  have w1:w.h.get u.n=some (.cells (zP H vW vS vB vK) (tag 30)):=by rw [hw,zH _ _ _ (by simp only [zW];omega)];exact zM _ _ _ rfl (by omega)
  have w2:w.h.get (u.n+1)=some (.cells [.int .i64 0,.int .i64 0,.nilslice,.nilslice,.int .i64 0,.int .i64 0,.nilslice,.nilslice] (tag 30)):=by rw [hw];exact zM _ _ _ rfl (by simp only [zW];omega)
  -- the water
  obtain ⟨y,hy⟩:∃ y:St,y=w.new (.cells [] 0):=⟨_,rfl⟩
  have yn:y.n=w.n+1:=by rw [hy];rfl
  have ym:y.m=far:=by rw [hy];exact wm
  have yg:∀ c,c<w.n→y.h.get c=w.h.get c:=fun c hc=>by rw [hy,zH _ _ _ (by omega)]
  have y0:y.h.get w.n=some (.cells [] 0):=by rw [hy];exact zM _ _ _ rfl (by omega)
  have yu:∀ c,c<u.n→y.h.get c=u.h.get c:=fun c hc=>(yg c (by omega)).trans (wg c hc)
  obtain ⟨v9,s1,e1,hO1,n1,n2,sg1,m1,m2⟩:=JW (tg:=tag 27) (bytes:=16) (hH.w.grow yu (by omega:u.n≤y.n)).seq y0 (by omega) (YRA _) (by rw [List.length_map];omega) (by omega)
  obtain ⟨sc9,ok9,cs9⟩:=znA hO1
  -- what is shut
  obtain ⟨z,hz⟩:∃ z:St,z=s1.new (.cells [] 0):=⟨_,rfl⟩
  have zn:z.n=s1.n+1:=by rw [hz];rfl
  have zm:z.m=s1.m:=by rw [hz];rfl
  have zg:∀ c,c<s1.n→z.h.get c=s1.h.get c:=fun c hc=>by rw [hz,zH _ _ _ (by omega)]
  have z0:z.h.get s1.n=some (.cells [] 0):=by rw [hz];exact zM _ _ _ rfl (by omega)
  have zw:∀ c,c<w.n→z.h.get c=w.h.get c:=fun c hc=>(zg c (by omega)).trans ((sg1 c (by omega)).trans (yg c hc))
  have zu:∀ c,c<u.n→z.h.get c=u.h.get c:=fun c hc=>(zw c (by omega)).trans (wg c hc)
  obtain ⟨v13,s2,e2,hO2,n3,n4,sg2,m3,m4⟩:=JW (tg:=tag 27) (bytes:=16) (hH.s.grow zu (by omega:u.n≤z.n)).seq z0 (by omega) (YRA _) (by rw [List.length_map];omega) (by omega)
  obtain ⟨sc13,ok13,cs13⟩:=znA hO2
  have s2u:∀ c,c<u.n→s2.h.get c=u.h.get c:=fun c hc=>(sg2 c (by omega)).trans (zu c hc)
  have s21:s2.h.get u.n=some (.cells (zP H vW vS vB vK) (tag 30)):=(sg2 u.n (by omega)).trans ((zw u.n (by omega)).trans w1)
  have s22:=(sg2 (u.n+1) (by omega)).trans ((zw (u.n+1) (by omega)).trans w2)
  have m1':=m1 u.n (by omega) (by omega)
  have m3':=m3 u.n (by omega) (by omega)
  -- what the bays bear
  obtain ⟨bB,t1,eB,st1,b1,b2,b3⟩:=vOA (N:=n) rfl (by omega) (hH.b.grow s2u (by omega:u.n≤s2.n)) hb0 (by omega) (by omega)
  have n5:=st1.n
  have k5:=st1.le
  have m5:t1.m=s2.m:=st1.m
  have t11:=(st1.same u.n (by omega)).trans s21
  have t12:=(st1.same (u.n+1) (by omega)).trans s22
  obtain ⟨x,hx⟩:∃ x:St,x=((t1.put u.n (.cells (zP H v9 vS vB vK) (tag 30))).put u.n (.cells (zP H v9 v13 vB vK) (tag 30))).put u.n (.cells (zP H v9 v13 (slI bB H.bears.length) vK) (tag 30)):=⟨_,rfl⟩
  have sx1:jM 1 t1 v9 (.ptr u.n 2)=.val .undef (t1.put u.n (.cells (zP H v9 vS vB vK) (tag 30))):=jZ t11 (by show 2<8;omega) sc9.2 sc9.1
  have sx2:jM 1 (t1.put u.n (.cells (zP H v9 vS vB vK) (tag 30))) v13 (.ptr u.n 3)=.val .undef ((t1.put u.n (.cells (zP H v9 vS vB vK) (tag 30))).put u.n (.cells (zP H v9 v13 vB vK) (tag 30))):=jZ (zN _ _ _ _ rfl (by omega)) (by show 3<8;omega) sc13.2 sc13.1
  have sx3:jM 1 ((t1.put u.n (.cells (zP H v9 vS vB vK) (tag 30))).put u.n (.cells (zP H v9 v13 vB vK) (tag 30))) (slI bB H.bears.length) (.ptr u.n 6)=.val .undef x:=by
   rw [hx];exact jZ (zN _ _ _ _ rfl (by omega)) (by show 6<8;omega) rfl rfl
  have xn:x.n=t1.n:=by rw [hx];rfl
  have xm:u.n≤x.m∧x.m≤far:=by rw [hx];simp only [St.put,zQ];omega
  have xg:∀ c,c≠u.n→x.h.get c=t1.h.get c:=fun c hc=>by rw [hx,zL _ _ _ _ hc,zL _ _ _ _ hc,zL _ _ _ _ hc]
  have x1:x.h.get u.n=some (.cells (zP H v9 v13 (slI bB H.bears.length) vK) (tag 30)):=by rw [hx];exact zN _ _ _ _ rfl (by omega)
  clear hx
  obtain ⟨X0,hX0⟩:∃ X0:St,X0=x.put u.n (.cells (zP H v9 v13 (slI bB H.bears.length) .nilslice) (tag 30)):=⟨_,rfl⟩
  have sX:jM 1 x .nilslice (.ptr u.n 7)=.val .undef X0:=by
   rw [hX0];exact jZ x1 (by show 7<8;omega) rfl rfl
  have Xn:X0.n=t1.n:=by rw [hX0,jB];exact xn
  have Xm:u.n≤X0.m∧X0.m≤far:=by rw [hX0];simp only [St.put,zQ];omega
  have Xg:∀ c,c≠u.n→X0.h.get c=t1.h.get c:=fun c hc=>by rw [hX0,zL _ _ _ _ hc];exact xg c hc
  have X1:X0.h.get u.n=some (.cells (zP H v9 v13 (slI bB H.bears.length) .nilslice) (tag 30)):=by rw [hX0];exact zN _ _ _ _ rfl (by omega)
  clear hX0
  rw [jOQ]
  simp (disch:=first|omega|with_unfolding_all rfl) only [K33,K33r0,Abs.W,reduceIte,Nat.reduceEqDiff,Nat.reduceAdd,Nat.reduceSub,nn1]
  rw [← hw]
  have ap1:vX (.slice w.n 0 0 0 false) (.ptr u.n 3)=true:=gv (by omega)
  have ap2:vX (.slice w.n 0 0 0 false) (.ptr u.n 6)=true:=gv (by omega)
  have ap3:vX (.slice s1.n 0 0 0 false) (.ptr u.n 6)=true:=gv (by omega)
  have s1w:=(sg1 u.n (by omega)).trans ((yg u.n (by omega)).trans w1)
  have zw1:=(zw u.n (by omega)).trans w1
  have yw1:=(yg u.n (by omega)).trans w1
  simp (disch:=first|omega|with_unfolding_all rfl) only [ygQ,Abs.W,reduceIte,Nat.reduceEqDiff,Nat.reduceAdd,Nat.reduceSub,w1,kW,kS,Nat.zero_add]
  rw [← hy]
  simp (disch:=first|omega|with_unfolding_all rfl) only [Abs.W,reduceIte,Nat.reduceEqDiff,Nat.reduceAdd,Nat.reduceSub,yw1,kW,e1,ok9,Nat.zero_add]
  rw [← hz]
  simp (disch:=first|omega|with_unfolding_all rfl) only [Abs.W,reduceIte,Nat.reduceEqDiff,Nat.reduceAdd,Nat.reduceSub,s1w,zw1,s21,kS,kB,e2,ok13,eB,sx1,sx2,sx3,Nat.zero_add]
  rw [wY]
  rotate_left
  ·refine (gF ?_).trans ((gF ?_).trans ((gF ?_).trans (vH _)))
   ·simp only [zK,reduceIte,Nat.reduceEqDiff];exact ap1
   ·simp only [zK,reduceIte,Nat.reduceEqDiff];exact ap2
   ·simp only [zK,reduceIte,Nat.reduceEqDiff];exact ap3
  simp (disch:=first|omega|with_unfolding_all rfl) only [yfQ,K33r3,K33r4,Abs.W,reduceIte,Nat.reduceEqDiff,Nat.reduceAdd,Nat.reduceSub,x1,kK,sX,Nat.zero_add]
  have Xu:∀ c,c<u.n→X0.h.get c=u.h.get c:=fun c hc=>(Xg c (by omega)).trans ((st1.same c (by omega)).trans (s2u c hc))
  have hKs:KindsAt (fun c=>c<u.n) u.h u.n H.kinds vK:=hH.k.move (fun c h1 _=>⟨rfl,h1⟩) (Nat.le_refl _)
  have J0:KX X0.h X0.n t1.n H.kinds.length (far+9) (H.kinds.take 0) [] .nilslice:=⟨rfl,IsAt.nil _ _ _ _ _,fun i h1 _=>(by cases h1),List.nodup_nil,by omega,.inr (by omega)⟩
  generalize hlp:jK _ rounds _ _ _ _ _=rl
  obtain ⟨e,L1,t2,rfl,rfl,v7,bK,ba,J2,g2,p1,p2,p3,p4,p5,q1',q2',q3'⟩:=jO hlp
   (fun i L t=>∃ v bK ba,KX t.h t.n t1.n H.kinds.length bK (H.kinds.take i) ba v∧t.h.get u.n=some (.cells (zP H v9 v13 (slI bB H.bears.length) v) (tag 30))∧t1.n≤t.n∧t.n≤t1.n+10 * i∧(∀ c,c<t1.n→c≠u.n→t.h.get c=t1.h.get c)∧u.n≤t.m∧t.m≤far∧L.find 1=.ptr u.n 0∧L.find 2=.ptr (u.n+1) 0∧L.find 3=vK∧L.find 4=.int .i64 (i:Int))
   (fun e L t=>e=.exit 0∧∃ v bK ba,KX t.h t.n t1.n H.kinds.length bK H.kinds ba v∧t.h.get u.n=some (.cells (zP H v9 v13 (slI bB H.bears.length) v) (tag 30))∧t1.n≤t.n∧t.n≤t1.n+60∧(∀ c,c<t1.n→c≠u.n→t.h.get c=t1.h.get c)∧u.n≤t.m∧t.m≤far∧L.find 1=.ptr u.n 0∧L.find 2=.ptr (u.n+1) 0∧True) H.kinds.length (by unfold rounds;omega)
   ⟨_,_,_,J0,X1,by omega,by omega,fun c h1 h2=>Xg c h2,by omega,by omega,(by simp only [zK,efs,reduceIte,Nat.reduceEqDiff]),(by simp only [zK,efs,reduceIte,Nat.reduceEqDiff]),(by simp only [zK,efs,reduceIte,Nat.reduceEqDiff]),(by simp only [zK,efs,reduceIte,Nat.reduceEqDiff];rfl)⟩
   (fun i L t hi ⟨v,bK,ba,J,g,p1,p2,p3,p4,p5,q1,q2,q3,q4⟩=>by
    have hKt:KindsAt (fun c=>c<u.n) t.h t.n H.kinds vK:=hKs.move (fun c h1 h2=>⟨(p3 c (by omega) (by omega)).trans (((st1.same c (by omega)).trans (s2u c h1))),h2⟩) (by omega)
    by_cases hlt:i<H.kinds.length
    ·obtain ⟨L2,t3,v3,bK3,ba3,r1,r2,r3,r4,r5,r6,r7,r8,r9,r10,r11,r12⟩:=vRJ n (by omega) _ hKt hlt k1 ⟨k0,k1⟩ (ok.k _ (List.getElem_mem hlt)).al J g ⟨by omega,p1⟩ (by omega) q1 q3 q4
     have jlo:=J.lo
     exact .inl ⟨hlt,L2,t3,r1,v3,bK3,ba3,r2,r3,by omega,by omega,fun c h1 h2=>(r6 c (by omega) h2 (by omega)).trans (p3 c h1 h2),r7 _ (Nat.le_refl _) p4,by omega,r9,r10.trans q2,r11,r12⟩
    ·obtain rfl:i=H.kinds.length:=by omega
     have e0:decide ((H.kinds.length:Int)<(H.kinds.length:Int))=false:=decide_eq_false (by omega)
     rw [List.take_length] at J
     refine .inr ⟨.exit 0,L.set 26 (.bool false),t,by simp,?_,rfl,v,bK,ba,J,g,p1,by omega,p3,p4,p5,?_,?_,trivial⟩
     ·simp (disch:=first|omega|with_unfolding_all rfl) only [wyJ,K33r5,Abs.W,reduceIte,Nat.reduceEqDiff,Nat.reduceAdd,Nat.reduceSub,q3,q4,kK,lK,e0,Nat.zero_add]
     ·simp only [efs,q1,reduceIte,Nat.reduceEqDiff]
     ·simp only [efs,q2,reduceIte,Nat.reduceEqDiff])
  have okh:∀ t,okA (.val (.agg (zP H v9 v13 (slI bB H.bears.length) v7)) t)=.val (.agg (zP H v9 v13 (slI bB H.bears.length) v7)) t:=fun _=>rfl
  have scv:scalars [v7]=true:=by
   rcases J2.is.is with ⟨_,h⟩ | ⟨_,_,h,_⟩<;>rw [h]<;>rfl
  have scH:scalars (zP H v9 v13 (slI bB H.bears.length) v7)=true:=by
   show scalars (v9::v13::.int .i64 (H.bx:Int)::.int .i64 (H.bz:Int)::[slI bB H.bears.length,v7])=true
   rw [cs9,cs13]
   exact scv
  have g3:=(p3 (u.n+1) (by omega) (by omega)).trans t12
  have st9:jM 8 t2 (.agg (zP H v9 v13 (slI bB H.bears.length) v7)) (.ptr (u.n+1) 0)=.val .undef (t2.put (u.n+1) (.cells (zP H v9 v13 (slI bB H.bears.length) v7) (tag 30))):=jk t2 8 _ _ _ _ g3 rfl rfl scH
  simp (disch:=first|omega|with_unfolding_all rfl) only [WFJ,Abs.W,reduceIte,Nat.reduceEqDiff,Nat.reduceAdd,Nat.reduceSub,q1',q2',g2,okh,st9,Nat.zero_add]
  rw [res33]
  have shF:yH Try.prog 30=some (some 8):=by kernel_rfl
  refine ⟨_,_,yz _ _ _ _ shF (v:=.agg (zP H v9 v13 (slI bB H.bears.length) v7)) ?_,⟨fun c hc=>?_,by rw [jB];omega,by rw [jB];omega,?_,?_⟩,?_,v9,v13,slI bB H.bears.length,v7,bB,t1.n,bK,ba,rfl,?_⟩
  ·rw [q2',vt,zN _ _ _ _ rfl (by omega),vg,ve,yJ,show (8:Nat)=(zP H v9 v13 (slI bB H.bears.length) v7).length from rfl,yr];rfl
  ·rw [zL _ _ _ _ (by omega),p3 c (by omega) (by omega),st1.same c (by omega)];exact s2u c hc
  ·simp only [St.put,zQ];omega
  ·simp only [St.put,zQ];omega
  ·show plains (zP H v9 v13 (slI bB H.bears.length) v7)=false
   have e1:∀ (v:AV) (l:List AV),plains (v::l)=(match plain v with | true=>plains l | false=>false):=fun v l=>by rw [plains];cases plain v<;>rfl
   have e2:plain (slI bB H.bears.length)=false:=rfl
   simp only [e1,e2]
   cases plain v9<;>cases plain v13<;>rfl
  ·have gP:∀ c,u.n+2≤c→(t2.put (u.n+1) (.cells (zP H v9 v13 (slI bB H.bears.length) v7) (tag 30))).h.get c=t2.h.get c:=fun c hc=>zL _ _ _ _ (by omega)
   have g9:∀ c,w.n≤c→c<s1.n→t2.h.get c=s1.h.get c:=fun c h1 h2=>(p3 c (by omega) (by omega)).trans ((st1.same c (by omega)).trans ((sg2 c (by omega)).trans (zg c h2)))
   have g13:∀ c,s1.n≤c→c<s2.n→t2.h.get c=s2.h.get c:=fun c h1 h2=>(p3 c (by omega) (by omega)).trans (st1.same c h2)
   refine ⟨⟨?_,?_,⟨rfl,?_⟩,J2.move (fun c h1 h2=>gP c (by omega)) (by rw [jB];exact Nat.le_refl _),⟨by omega,by omega⟩,by rw [jB];omega⟩,s1.n,⟨by omega,by omega⟩,zoA hO1 (fun c h1 h2=>(gP c (by omega)).trans (g9 c h1 h2)) (by omega) (Nat.le_refl _),zoA hO2 (fun c h1 h2=>(gP c (by omega)).trans (g13 c h1 h2)) (Nat.le_refl _) (by omega)⟩
   ·exact (jsA (no:=fun c=>w.n≤c∧c<s1.n) hO1 fun b h1 h2=>⟨h1,h2⟩).move (fun c h1 h2=>⟨(gP c (by omega)).trans (g9 c h2.1 h2.2),by omega,by omega⟩) (by rw [jB];omega)
   ·exact (jsA (no:=fun c=>s1.n≤c∧c<s2.n) hO2 fun b h1 h2=>⟨h1,h2⟩).move (fun c h1 h2=>⟨(gP c (by omega)).trans (g13 c h2.1 h2.2),by omega,by omega⟩) (by rw [jB];omega)
   ·rw [gP bB (by omega),p3 bB (by omega) (by omega)];exact b3)
 exact ⟨wW,wS,wB,wK,t,bB,q,bK,ba,hr.symm.trans e,st,hX,hO⟩
structure LayJ (u t:St) (d:Nat) (H:HallR) (l:List PutR) (v:AV) (b kk:Nat):Prop where
 st:Stir d u t kk
 die:Die d t.h
 is:IsAt t.h t.n b 3 (tag 51) (l.map PutR.row) v
 b:u.n≤b
 ok:H.Valid l
 inn:∀ p ∈ l,p.In H
theorem JEA {H:HallR} (ok:H.Ok):H.Valid []:=⟨fun _ h=>(by cases h),List.Pairwise.nil,fun k hk=>by
 have:=(vP ok hk).m0
 show ((0:Nat):Int)≤_
 omega⟩
theorem vRQ {H:HallR} (sz:H.Size) {c:Int × Int} (h:H.In c) {k:Nat} (hk:k<H.kinds.length):(PutR.mk c.1 c.2 k).In H:=by
 obtain ⟨⟨a,b⟩,e,f⟩:=h
 have:=sz.w1
 have:=sz.d1
 exact ⟨hk,by show -100≤c.1;omega,by show c.1≤100;omega,by show -100≤c.2;omega,by show c.2≤100;omega⟩
theorem ZNJ (N:Nat) (hN:8≤N) (cx:Ctx) {u t:St} {d p4 lp op b kk i m most:Nat} {f:List Nat} {H:HallR} {vW vS vB vK va vo v:AV} {l:List PutR} {L:Env} (J:LayJ u t d H l v b kk) (ok:H.Ok) (hH:HallAt (fun c=>c≠d) u.h u.n H vW vS vB vK) (g4:u.h.get p4=some (.cells (zP H vW vS vB vK) (tag 30))) (hp4:p4<u.n∧p4≠d) (hA:IsAt u.h u.n lp 2 (tag 27) (H.placesI.map jC) va) (hlp:lp≠d) (hO:Blk u.h u.n op 1 (tag 3) (yX f) vo) (hop:op≠d∧op<u.n) (hfl:f.length=m) (hm:m=H.placesI.length) (hperm:Perm m f) (hmost:l.length<most) (hmost8:most≤20) (hdn:d<u.n) (hi:i<m) (hs:u.n+kk+10000≤far) (hum:u.m≤far) (hdm:d≤u.m)
  (q0:L.find 0=.ptr d 0) (q2:L.find 2=.int .i64 (most:Int)) (q4:L.find 4=.ptr p4 0) (q7:L.find 7=v) (q8:L.find 8=va) (q9:L.find 9=vo) (q10:L.find 10=.int .i64 (i:Int)) :
  ∃ L1 t1 l1 v1 b1,jhJ (call Try.prog X N) cx L [] t=.done .norm L1 [] t1∧LayJ u t1 d H l1 v1 b1 (kk+10)∧l1.length≤l.length+1∧L1.find 0=.ptr d 0∧L1.find 2=.int .i64 (most:Int)∧L1.find 4=.ptr p4 0∧L1.find 7=v1∧L1.find 8=va∧L1.find 9=vo∧L1.find 10=.int .i64 ((i+1:Nat):Int):=by
 have hf:=hfar
 obtain ⟨jst,jdie,ji,jb,jok,jin⟩:=J
 have jn:=jst.n
 have jle:=jst.le
 have jm:=jst.m hdm
 have jml:=jst.mle
 have tg:∀ c,c<u.n→c≠d→t.h.get c=u.h.get c:=jst.same
 have sz:=ok.toSize
 have h24:=vw sz
 have hpl:=yj H
 have hk6:=ok.k1
 have hk0:=ok.k0
 have kv:∀ t,okA (.val v t)=.val v t:=ji.okA
 have lv:=ji.rows.len
 rw [List.length_map] at lv
 have kva:=hA.okA
 have kvo:∀ t,okA (.val vo t)=.val vo t:=fun t=>ZB hO.at_.ne
 have lvo:=hO.at_.len
 rw [vJ,hfl] at lvo
 have kK:=hH.k.okA
 have lK:=hH.k.len
 have e0:decide ((i:Int)<(m:Int))=true:=decide_eq_true (by omega)
 have e1:decide ((l.length:Int)<(most:Int))=true:=decide_eq_true (by omega)
 have ad:∀ s,jI s .i64 (i:Int) 1=.val (.int .i64 ((i:Int)+1)) s:=fun s=>za s _ _ (by omega)
 have u6:=eq3 vpA.eq_1
 have u7:=eq3 voA.eq_1
 have u8:=eq3 vnA.eq_1
 have u9:=eq3 vmA.eq_1
 have w5:=eq3 WNA.eq_1
 have w6:=eq3 WMA.eq_1
 have w7:=eq3 WLA.eq_1
 have w8:=eq3 WKA.eq_1
 -- the place
 have hkk:f.getD i 0<m:=hperm.lt i hi
 obtain ⟨k,hk⟩:∃ k,k=f.getD i 0:=⟨_,rfl⟩
 rw [← hk] at hkk
 have hkp:k<H.placesI.length:=by omega
 have hOt:=hO.mono (h':=t.h) (n':=t.n) (tg op hop.2 hop.1) jn
 obtain ⟨ob,oo,oc,osz,o1,o2,o3,o4⟩:=hOt.at_.at_ i (by rw [vJ];omega)
 rw [wgA (by omega),← hk] at o4
 have o5:=Vd o4
 have hob:ob=op:=by
  obtain ⟨e,sz',z1,_⟩:=hOt.is
  have:=o2 t
  rw [z1,jq _ _ _ _ _ _ _ _ (by rw [vJ];omega)] at this
  injection this with this
  injection this with this
  exact this.symm
 have hAs:Sl (fun c=>c=lp) u.h u.n 2 (H.placesI.map jC) va:=Sl.of_at hA fun _=>rfl
 obtain ⟨ab,ao,ac,asz,⟨a1,a1'⟩,a2,a3,a4⟩:=Ja hAs hkp
 have hCin:=Ww sz.w0 hkp
 generalize H.placesI[k]=C at *
 have ta:=(tg ab a1 (by rw [a1'];exact hlp)).trans a3
 have t4:=(tg p4 hp4.1 hp4.2).trans g4
 simp (disch:=first|omega|with_unfolding_all rfl) only [jhJ,K12r5,u6,u7,u8,u9,Abs.W,reduceIte,Nat.reduceEqDiff,Nat.reduceAdd,Nat.reduceSub,Nat.zero_add,q2,q7,q9,q10,kv,kvo,lv,lvo,e0,e1]
 simp (disch:=first|omega|with_unfolding_all rfl) only [ynQ,Abs.W,reduceIte,Nat.reduceEqDiff,Nat.reduceAdd,Nat.reduceSub,Nat.zero_add,q7,kv]
 generalize hc1:call _ _ _ (.fn 27) _ _=r1
 obtain ⟨w1,t1,rfl,st1,hW⟩:=ZxA (l:=l) (no:=fun c=>c=b) hc1 (by omega) (Sl.of_at ji fun _=>rfl) (by omega) (by show t.n+100≤far;omega)
 have n1:t.n≤t1.n:=st1.n
 have k1:t1.n≤t.n+2:=st1.le
 have hW':Own t1.h t.n t1.n 3 (tag 51) (l.map PutR.row) w1:=hW
 have m1:t1.m=far:=st1.m
 have g1:∀ c,c<t.n→t1.h.get c=t.h.get c:=st1.same
 obtain ⟨y1,hy1⟩:∃ y1:St,y1=⟨t1.h,t1.n,yA t.m t1.m⟩:=⟨_,rfl⟩
 have y1n:y1.n=t1.n:=by rw [hy1]
 have y1h:y1.h=t1.h:=by rw [hy1]
 have y1m:y1.m=t.m:=by rw [hy1];show yA t.m t1.m=_;rw [zQ];omega
 have tv1:∀ ws v d rest cl L,WV (some ws) (.val v t1) d rest cl L t=rest cl (d.put v L) y1:=fun ws v d rest cl L=>by rw [hy1];exact wk _ _ _ _ _ _ _ _ (by omega)
 have y1o:y1.h.get ob=some (.cells oc osz):=by rw [y1h];exact (g1 ob o1).trans o3
 have y1a:y1.h.get ab=some (.cells ac asz):=by rw [y1h];exact (g1 ab (by omega)).trans ta
 have y14:y1.h.get p4=some (.cells (zP H vW vS vB vK) (tag 30)):=by rw [y1h];exact (g1 p4 (by omega)).trans t4
 simp (disch:=first|omega|with_unfolding_all rfl) only [tv1,Abs.W,reduceIte,Nat.reduceEqDiff,Nat.reduceAdd,Nat.reduceSub,Nat.zero_add,q0,q4,q8,q9,q10,kva,kvo,kK,lK,o2,y1o,o5,a2,y1a,a4,y14]
 generalize hc2:call _ _ _ (.fn 25) _ _=r2
 obtain ⟨x2,t2,rfl,st2,d2,x20,x21⟩:=we hc2 (by omega) (by show Die d y1.h;rw [y1h];exact jdie.keep (g1 d (by omega))) (by show d<y1.n;omega) (by show y1.n+100≤far;omega) (by omega)
 have n2:y1.n≤t2.n:=st2.n
 have k2:t2.n≤y1.n:=st2.le
 have m2:d≤t2.m:=st2.m (by show d≤far;omega)
 have g2:∀ c,c<y1.n→c≠d→t2.h.get c=y1.h.get c:=fun c hc hcd=>st2.same c hc hcd
 obtain ⟨xk,rfl⟩:=Int.eq_ofNat_of_zero_le x20
 have hxk:xk<H.kinds.length:=by omega
 have z2a:=(g2 ab (by omega) (by rw [a1'];exact hlp)).trans y1a
 have z2o:=(g2 ob (by omega) (by rw [hob];exact hop.1)).trans y1o
 simp (disch:=first|omega|with_unfolding_all rfl) only [vZ,Abs.W,reduceIte,Nat.reduceEqDiff,Nat.reduceAdd,Nat.reduceSub,Nat.zero_add]
 obtain ⟨y8,hy8⟩:∃ y8:St,y8=⟨t2.h,t2.n,yA y1.m t2.m⟩:=⟨_,rfl⟩
 have y8n:y8.n=t2.n:=by rw [hy8]
 have y8h:y8.h=t2.h:=by rw [hy8]
 have y8m:y8.m=min y1.m t2.m:=by rw [hy8];simp only [zQ]
 rw [← hy8]
 obtain ⟨P,hP⟩:∃ P:PutR,P=⟨C.1,C.2,xk⟩:=⟨_,rfl⟩
 obtain ⟨y,hy⟩:∃ y:St,y=y8.new (.cells P.row 0):=⟨_,rfl⟩
 have yn:y.n=t2.n+1:=by rw [hy];show y8.n+1=_;rw [y8n]
 have ym:y.m=y8.m:=by rw [hy];rfl
 have yg:∀ c,c<t2.n→y.h.get c=t2.h.get c:=fun c hc=>by rw [hy,zH _ _ _ (by omega),y8h]
 have yp:y.h.get t2.n=some (.cells P.row 0):=by rw [hy,← y8n];exact zM _ _ _ rfl (by omega)
 have g12:∀ c,c<t1.n→c≠d→y.h.get c=t1.h.get c:=fun c hc hcd=>(yg c (by omega)).trans ((g2 c (by omega) hcd).trans (congrArg (fun h=>h.get c) y1h))
 obtain ⟨s7,e7,l7,s7n,s7g,s7m,s7l⟩:=vhJ (bytes:=24) (n0:=t1.n) (hW'.mono (h':=y.h) (n':=t1.n) (fun c h1 h2=>g12 c h2 (by omega)) (Nat.le_refl _)) (by omega) yp rfl rfl (by rw [List.length_map];omega) (by kernel_rfl) (by omega)
 rw [List.length_map] at e7 l7
 obtain ⟨v7,hv7⟩:∃ v7,v7=AV.slice y.n 0 (l.length+1) (l.length+1) true:=⟨_,rfl⟩
 rw [← hv7] at e7 l7
 rw [hy] at e7
 have e7':jT false 3 24 (tag 51) (y8.new (.cells [.int .i64 C.1,.int .i64 C.2,.int .i64 (xk:Int)] 0)) w1 (.slice t2.n 0 1 1 false)=.val v7 s7:=by rw [hP] at e7;exact e7
 have okv7:∀ t,okA (.val v7 t)=.val v7 t:=fun t=>by rw [hv7];rfl
 have gs:∀ c,c<t.n→c≠d→s7.h.get c=t.h.get c:=fun c hc hcd=>(s7g c (by omega) (.inl hc)).trans ((g12 c (by omega) hcd).trans (g1 c hc))
 have ms7:d≤s7.m:=s7m d (by omega) (by omega) (by omega)
 have ms7l:s7.m≤t.m:=by omega
 have kw:∀ t,okA (.val w1 t)=.val w1 t:=fun t=>ZB hW.seq.at_.ne
 have hpc:(l.map PutR.row)++[P.row]=(l++[P]).map PutR.row:=by rw [List.map_append];rfl
 rw [hpc] at l7
 have dS:Die d s7.h:=d2.keep ((s7g d (by omega) (.inl (by omega))).trans (yg d (by omega)))
 have S7:Stir d u s7 (kk+5):=⟨fun c hc hcd=>(gs c (by omega) hcd).trans (tg c hc hcd),by omega,by omega,fun _=>ms7,by omega⟩
 simp (disch:=first|omega|with_unfolding_all rfl) only [Abs.W,reduceIte,Nat.reduceEqDiff,Nat.reduceAdd,Nat.reduceSub,y8n,e7',okv7,Nat.zero_add]
 rw [wG (l:=[35,37]) (s':=t2) (by simp only [vA,vL,zK,efs,wA,y1o,z2o,y1a,z2a,yx,reduceIte,Nat.reduceEqDiff,Bool.and_self])]
 rw [wY _ (vH _)]
 simp (disch:=first|omega|with_unfolding_all rfl) only [ymQ,Abs.W,reduceIte,Nat.reduceEqDiff,Nat.reduceAdd,Nat.reduceSub,q0,Nat.zero_add]
 generalize hc3:call _ _ _ (.fn 25) _ _=r3
 obtain ⟨x3,t3,rfl,st3,d3,x30,x31⟩:=we hc3 (by omega) dS (by omega) (by omega) (by omega)
 have n3:=st3.n
 have k3:=st3.le
 have m3:=st3.m ms7
 have m3l:=st3.mle
 have S3:Stir d u t3 (kk+5):=(S7.trans st3).mono (by omega)
 have hl3:IsAt t3.h t3.n b 3 (tag 51) (l.map PutR.row) v:=by
  refine ji.mono (fun h=>?_) (by omega)
  rw [st3.same b (by omega) (by omega)]
  exact gs b h (by omega)
 by_cases hx:0<x3
 ·have d1:decide (0<x3)=true:=decide_eq_true hx
  have t34:=(S3.same p4 hp4.1 hp4.2).trans g4
  have hlx:IsAt t3.h t3.n y.n 3 (tag 51) ((l++[P]).map PutR.row) v7:=l7.mono (fun h=>st3.same y.n h (by omega)) n3
  have hPin:P.In H:=by rw [hP];exact vRQ sz hCin hxk
  have hinn:∀ q ∈ l++[P],q.In H:=fun q hq=>by
   rcases List.mem_append.mp hq with h | h
   ·exact jin q h
   ·rw [List.mem_singleton.mp h];exact hPin
  have hHt:HallAt (fun _=>True) t3.h t3.n H vW vS vB vK:=hH.move (fun c h1 h2=>⟨S3.same c h1 h2,trivial⟩) S3.n
  obtain ⟨er,eer,hval⟩:=zhA (N:=N) (s:=t3) (no:=fun _=>True) rfl (by omega) ok hHt (Sl.of_at hlx fun _=>trivial) hinn (by rw [List.length_append,List.length_singleton];omega) (by omega)
  by_cases hz:er=0
  ·have d2':decide (er=0)=true:=decide_eq_true hz
   simp (disch:=first|omega|with_unfolding_all rfl) only [w5,w6,w7,w8,K12r8,K12r9,Abs.W,reduceIte,Nat.reduceEqDiff,Nat.reduceAdd,Nat.reduceSub,q4,q10,okv7,t34,eer,d1,d2',ad,Nat.zero_add]
   refine ⟨_,_,l++[P],v7,y.n,rfl,⟨S3.mono (by omega),d3,hlx,by omega,hval.mp hz,hinn⟩,by rw [List.length_append,List.length_singleton];omega,?_,?_,?_,?_,?_,?_,?_⟩
   ·simp only [efs,q0,reduceIte,Nat.reduceEqDiff]
   ·simp only [efs,q2,reduceIte,Nat.reduceEqDiff]
   ·simp only [efs,q4,reduceIte,Nat.reduceEqDiff]
   ·simp only [efs,reduceIte,Nat.reduceEqDiff]
   ·simp only [efs,q8,reduceIte,Nat.reduceEqDiff]
   ·simp only [efs,q9,reduceIte,Nat.reduceEqDiff]
   ·simp only [efs,reduceIte,Nat.reduceEqDiff];rfl
  ·have d2':decide (er=0)=false:=decide_eq_false hz
   simp (disch:=first|omega|with_unfolding_all rfl) only [w5,w6,w7,w8,K12r8,K12r9,Abs.W,reduceIte,Nat.reduceEqDiff,Nat.reduceAdd,Nat.reduceSub,q4,q10,okv7,t34,eer,d1,d2',ad,Nat.zero_add]
   refine ⟨_,_,l,v,b,rfl,⟨S3.mono (by omega),d3,hl3,jb,jok,jin⟩,by omega,?_,?_,?_,?_,?_,?_,?_⟩
   ·simp only [efs,q0,reduceIte,Nat.reduceEqDiff]
   ·simp only [efs,q2,reduceIte,Nat.reduceEqDiff]
   ·simp only [efs,q4,reduceIte,Nat.reduceEqDiff]
   ·simp only [efs,q7,reduceIte,Nat.reduceEqDiff]
   ·simp only [efs,q8,reduceIte,Nat.reduceEqDiff]
   ·simp only [efs,q9,reduceIte,Nat.reduceEqDiff]
   ·simp only [efs,reduceIte,Nat.reduceEqDiff];rfl
 ·have d1:decide (0<x3)=false:=decide_eq_false hx
  simp (disch:=first|omega|with_unfolding_all rfl) only [w5,w6,w7,w8,K12r8,K12r9,Abs.W,reduceIte,Nat.reduceEqDiff,Nat.reduceAdd,Nat.reduceSub,q4,q10,d1,ad,Nat.zero_add]
  refine ⟨_,_,l,v,b,rfl,⟨S3.mono (by omega),d3,hl3,jb,jok,jin⟩,by omega,?_,?_,?_,?_,?_,?_,?_⟩
  ·simp only [efs,q0,reduceIte,Nat.reduceEqDiff]
  ·simp only [efs,q2,reduceIte,Nat.reduceEqDiff]
  ·simp only [efs,q4,reduceIte,Nat.reduceEqDiff]
  ·simp only [efs,q7,reduceIte,Nat.reduceEqDiff]
  ·simp only [efs,q8,reduceIte,Nat.reduceEqDiff]
  ·simp only [efs,q9,reduceIte,Nat.reduceEqDiff]
  ·simp only [efs,reduceIte,Nat.reduceEqDiff];rfl
theorem zaJ {N d:Nat} {H:HallR} {vW vS vB vK:AV} {most:Nat} {s:St} {r:ARes} (hr:call Try.prog X N (.fn 12) [.ptr d 0,.agg (zP H vW vS vB vK),.int .i64 (most:Int)] s=r) (hN:10≤N) (hd:Die d s.h) (hdn:d<s.n) (ok:H.Ok) (hH:HallAt (fun c=>c≠d) s.h s.n H vW vS vB vK) (hmost:most≤20) (hs:s.n+20000≤far) :
  ∃ l v t,r=.val v t∧Stir d s t 400∧Die d t.h∧H.Valid l∧(∀ p ∈ l,p.In H)∧l.length≤most∧Sl (fun c=>s.n≤c) t.h t.n 3 (l.map PutR.row) v:=by
 obtain ⟨n,rfl⟩:∃ n,N=n+1:=⟨N - 1,by omega⟩
 have hf:=hfar
 have sz:=ok.toSize
 have h24:=vw sz
 have hpl:=yj H
 obtain ⟨v,t,e,st,l,h0,h1,h2,h3,h4⟩:=vaJ (n:=n) (d:=d) (args:=[.ptr d 0,.agg (zP H vW vS vB vK),.int .i64 (most:Int)]) (s:=s) (k:=400) (Q:=fun v h m=>∃ l,Die d h∧H.Valid l∧(∀ p ∈ l,p.In H)∧l.length≤most∧Sl (fun c=>s.n≤c) h m 3 (l.map PutR.row) v) Try.func12 rfl (fun u uh un um=>by
  have hd0:=hd
  rw [← uh] at hd
  rw [← uh,← un] at hH
  rw [← un] at hdn ⊢
  have u6:=eq3 vpA.eq_1
  have u7:=eq3 voA.eq_1
  have u8:=eq3 vnA.eq_1
  have u9:=eq3 vmA.eq_1
  obtain ⟨w,hw⟩:∃ w:St,w=u.new (.cells (zP H vW vS vB vK) (tag 30)):=⟨_,rfl⟩
  have wn:w.n=u.n+1:=by rw [hw];rfl
  have wm:w.m=far:=by rw [hw];exact um
  have wg:∀ c,c<u.n→w.h.get c=u.h.get c:=fun c hc=>by rw [hw,zH _ _ _ (by omega)]
  have w0:w.h.get u.n=some (.cells (zP H vW vS vB vK) (tag 30)):=by rw [hw];exact zM _ _ _ rfl (by omega)
  rw [jWQ]
  simp (disch:=first|omega|with_unfolding_all rfl) only [K12,K12r0,K12r1,Abs.W,reduceIte,Nat.reduceEqDiff,Nat.reduceAdd,Nat.reduceSub]
  rw [← hw]
  simp (disch:=first|omega|with_unfolding_all rfl) only [yqQ,Abs.W,reduceIte,Nat.reduceEqDiff,Nat.reduceAdd,Nat.reduceSub,w0,Nat.zero_add]
  generalize hc1:call _ _ _ (.fn 40) _ _=r1
  obtain ⟨va,t1,lp,rfl,st1,lp1,lp2,hA⟩:=JXA hc1 (by omega) sz (by omega)
  have n1:=st1.n
  have k1:=st1.le
  have m1:t1.m=far:=st1.m.trans wm
  have g1:=st1.same
  have kva:=hA.okA
  have lva:=hA.rows.len
  rw [List.length_map] at lva
  simp (disch:=first|omega|with_unfolding_all rfl) only [ypQ,Abs.W,reduceIte,Nat.reduceEqDiff,Nat.reduceAdd,Nat.reduceSub,kva,lva]
  generalize hc2:call _ _ _ (.fn 21) _ _=r2
  obtain ⟨vo,f,t2,rfl,st2,d2,hfl,hperm,hO⟩:=vjJ hc2 (by omega) (hd.keep ((g1 d (by omega)).trans (wg d hdn))) (by omega) (by omega) (by omega)
  have n2:=st2.n
  have k2:=st2.le
  have m2:d≤t2.m:=st2.m (by omega)
  have m2l:=st2.mle
  have tg:∀ c,c<u.n→c≠d→t2.h.get c=u.h.get c:=fun c hc hcd=>(st2.same c (by omega) hcd).trans ((g1 c (by omega)).trans (wg c hc))
  have kvo:∀ t,okA (.val vo t)=.val vo t:=fun t=>ZB hO.at_.ne
  have lvo:=hO.at_.len
  have hol:=hO.lt
  rw [vJ,hfl] at lvo
  have hH2:HallAt (fun c=>c≠d) t2.h t2.n H vW vS vB vK:=hH.move (fun c h1 h2=>⟨tg c h1 h2,h2⟩) (by omega)
  have g4:=(st2.same u.n (by omega) (by omega)).trans ((g1 u.n (by omega)).trans w0)
  have hA2:=hA.mono (h':=t2.h) (n':=t2.n) (fun h=>st2.same lp h (by omega)) n2
  simp (disch:=first|omega|with_unfolding_all rfl) only [yoQ,Abs.W,reduceIte,Nat.reduceEqDiff,Nat.reduceAdd,Nat.reduceSub,kvo]
  generalize hlp:jK _ rounds _ _ _ _ _=rl1
  obtain ⟨eE,L1,t3,rfl,rfl,l,v,b,J,hlm,q7⟩:=jO hlp (fun i L' t'=>∃ l v b,LayJ t2 t' d H l v b (10 * i)∧l.length≤most∧L'.find 0=.ptr d 0∧L'.find 2=.int .i64 (most:Int)∧L'.find 4=.ptr u.n 0∧L'.find 7=v∧L'.find 8=va∧L'.find 9=vo∧L'.find 10=.int .i64 (i:Int))
   (fun e L1 t3=>e=.exit 0∧∃ l v b,LayJ t2 t3 d H l v b 240∧l.length≤most∧L1.find 7=v) H.placesI.length (by unfold rounds;omega)
   ⟨[],.nilslice,t2.n,⟨Stir.refl d t2,d2,IsAt.nil _ _ _ _ _,Nat.le_refl _,JEA ok,fun _ h=>(by cases h)⟩,Nat.zero_le _,(by simp only [zK,efs,reduceIte,Nat.reduceEqDiff]),(by simp only [zK,efs,reduceIte,Nat.reduceEqDiff]),(by simp only [zK,efs,reduceIte,Nat.reduceEqDiff]),(by simp only [zK,efs,reduceIte,Nat.reduceEqDiff]),(by simp only [zK,efs,reduceIte,Nat.reduceEqDiff]),(by simp only [zK,efs,reduceIte,Nat.reduceEqDiff]),(by simp only [zK,efs,reduceIte,Nat.reduceEqDiff];rfl)⟩
   (fun i L' t' hi ⟨l,v,b,J,hlm,q0,q2,q4,q7,q8,q9,q10⟩=>by
    have kv:∀ t,okA (.val v t)=.val v t:=J.is.okA
    have lv:=J.is.rows.len
    rw [List.length_map] at lv
    by_cases hlt:i<H.placesI.length
    ·have e0:decide ((i:Int)<(H.placesI.length:Int))=true:=decide_eq_true (by omega)
     by_cases hl2:l.length<most
     ·obtain ⟨L1,t1,l1,v1,b1,k1,k2,k3,k4,k5,k6,k7,k8,k9,k10⟩:=ZNJ n (by omega) ⟨12,none,Try.f12.ntmps,X 12⟩ J ok hH2 g4 ⟨by omega,by omega⟩ hA2 (by omega) hO ⟨by omega,by omega⟩ hfl rfl hperm hl2 hmost (by omega) hlt (by omega) (by omega) m2 q0 q2 q4 q7 q8 q9 q10
      exact .inl ⟨hlt,L1,t1,k1,l1,v1,b1,k2,by omega,k4,k5,k6,k7,k8,k9,k10⟩
     ·have e1:decide ((l.length:Int)<(most:Int))=false:=decide_eq_false (by omega)
      refine .inr ⟨.exit 0,L'.set 27 (.bool false),t',by simp,?_,rfl,l,v,b,⟨J.st.mono (by omega),J.die,J.is,J.b,J.ok,J.inn⟩,hlm,by simp only [efs,q7,reduceIte,Nat.reduceEqDiff]⟩
      simp (disch:=first|omega|with_unfolding_all rfl) only [jhJ,K12r5,u6,u7,u8,u9,Abs.W,reduceIte,Nat.reduceEqDiff,Nat.reduceAdd,Nat.reduceSub,Nat.zero_add,q2,q7,q9,q10,kv,kvo,lv,lvo,e0,e1]
    ·obtain rfl:i=H.placesI.length:=by omega
     have e0:decide ((H.placesI.length:Int)<(H.placesI.length:Int))=false:=by simp
     refine .inr ⟨.exit 0,L'.set 27 (.bool false),t',by simp,?_,rfl,l,v,b,⟨J.st.mono (by omega),J.die,J.is,J.b,J.ok,J.inn⟩,hlm,by simp only [efs,q7,reduceIte,Nat.reduceEqDiff]⟩
     simp (disch:=first|omega|with_unfolding_all rfl) only [jhJ,K12r5,u6,u7,u8,u9,Abs.W,reduceIte,Nat.reduceEqDiff,Nat.reduceAdd,Nat.reduceSub,Nat.zero_add,q2,q7,q9,q10,kv,kvo,lv,lvo,e0])
  have kv:∀ t,okA (.val v t)=.val v t:=J.is.okA
  have n3:=J.st.n
  have k3:=J.st.le
  have m3:=J.st.m m2
  have m3l:=J.st.mle
  have jb:=J.b
  simp (disch:=first|omega|with_unfolding_all rfl) only [WIJ,res12,Abs.W,reduceIte,Nat.reduceEqDiff,Nat.reduceAdd,Nat.reduceSub,q7,kv]
  refine ⟨_,_,rfl,⟨fun c hc hcd=>(J.st.same c (by omega) hcd).trans (tg c hc hcd),by omega,by omega,fun _=>m3,by omega⟩,⟨l,J.die,J.ok,J.inn,hlm,Sl.of_at J.is fun _=>by omega⟩,fun hp=>?_⟩
  rcases J.is.is with ⟨z1,z2⟩ | ⟨_,_,z3,_⟩
  ·have hl:l=[]:=List.map_eq_nil_iff.mp z1
   subst hl
   exact ⟨[],hd0,JEA ok,fun _ h=>(by cases h),Nat.zero_le _,by rw [z2];exact Sl.nil _ _ _ _⟩
  ·rw [z3] at hp;cases hp) (by omega)
 exact ⟨l,v,t,hr.symm.trans e,st,h0,h1,h2,h3,h4⟩
structure Truly (H:HallR) (l:List PutR) (T:List Int):Prop where
 len:T.length=l.length
 is:∀ i (h1:i<l.length) (h2:i<T.length),(H.kind l[i].kind).lo≤T[i]∧T[i]≤(H.kind l[i].kind).hi
def HallR.bearsUpto (H:HallR) (f:Nat→Int) (i:Nat):Prop:=∀ b,b<i→f b≤H.bears.getD b 0
end Go.Proofs.Ytoklbkgcclkejaa.walk
