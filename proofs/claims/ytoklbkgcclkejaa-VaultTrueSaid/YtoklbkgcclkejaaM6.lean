/- The die: numbers of a span, and how it is born. -/
import Derived.Test.YtoklbkgcclkejaaM4
import Derived.Test.YtoklbkgcclkejaaM5
import Derived.Test.YtoklbkgcclkejaaCodes
import Derived.Test.YtoklbkgcclkejaaProg
import Derived.Tactics
import Derived.Tactics2
import Derived.WalkKit
import Derived.OpenShut
import Derived.Below
import Derived.Lib.Hide
import Derived.KernelRfl
import Derived.Deep.RegionHeld3
import Derived.OwnWalk
import Derived.StillTailTactics
import Derived.Test.YtoklbkgcclkejaaAbsTop
import Derived.Test.YtoklbkgcclkejaaAbsWalk
import Derived.Test.YtoklbkgcclkejaaWalkAll
set_option linter.unusedSimpArgs false
set_option linter.unusedVariables false
set_option maxHeartbeats 16000000
set_option linter.unusedVariables false
set_option maxRecDepth 10000
namespace Go.Proofs.Ytoklbkgcclkejaa.walk
open Go.Abs Go.Proofs.Ytoklbkgcclkejaa.code
end Go.Proofs.Ytoklbkgcclkejaa.walk
set_option maxRecDepth 10000
namespace Go.Proofs.Ytoklbkgcclkejaa.walk
open Go.Abs Go.Proofs.Ytoklbkgcclkejaa.code
theorem true_ex {N d:Nat} {lo hi:Int} {s:St} {r:ARes} (hr:call Try.prog X N (.fn 48) [.ptr d 0,.agg [.int .i64 lo,.int .i64 hi]] s=r) (hN:5≤N) (hd:Die d s.h) (hlt:d<s.n) (hs:s.n+600≤far)
  (h0 : -1000000≤lo) (h1:lo≤hi) (h2:hi≤1000000) :
  ∃ a t,r=.val (.int .i64 a) t∧Stir d s t 3∧Die d t.h∧lo≤a∧a≤hi:=by
 obtain ⟨n,rfl⟩:∃ n,N=n+1:=⟨N - 1,by omega⟩
 have hff:far=1000000000:=rfl
 obtain ⟨v,t,e,st,⟨x,rfl,q0,q1⟩,hd'⟩:=call_stir_plain (n:=n) (args:=[.ptr d 0,.agg [.int .i64 lo,.int .i64 hi]]) (d:=d) (k:=3) (Q:=fun v=>∃ x:Int,v=.int .i64 x∧lo≤x∧x≤hi) (R:=Die d) Try.func48 hd (fun u uh un um=>by
  rw [← uh] at hd
  rw [enter48]
  simp (disch:=first|omega|(with_unfolding_all exact rfl)|(simp only[new_n,put_n,new_m];omega)|(refine put_m_le ?_;simp only[new_m];omega)) only [res48,K48,K48r0,Abs.W,reduceIte,Nat.reduceEqDiff,Nat.reduceAdd,decide_true,decide_false,kLoop_def,Nat.reduceSub,List.cons_append,List.nil_append,List.append_nil,List.length_cons,List.length_nil]
  obtain ⟨y,hy⟩:∃ y:St,y=u.new (.cells [.int .i64 lo,.int .i64 hi] (tag 44)):=⟨_,rfl⟩
  rw [← hy]
  have yn:y.n=u.n+1:=by rw [hy];rfl
  have ym:y.m=far:=by rw [hy];exact um
  have yg:∀ c,c<u.n→y.h.get c=u.h.get c:=fun c hc=>by rw [hy,get_new_ne _ _ _ (by omega)]
  have y0:y.h.get u.n=some (.cells [.int .i64 lo,.int .i64 hi] (tag 44)):=by rw [hy];exact get_new_eq _ _ _ rfl (by omega)
  have dy:Die d y.h:=by obtain ⟨f,hg⟩:=hd;exact ⟨f,by rw [yg _ (by omega)];exact hg⟩
  simp (disch:=first|omega|(with_unfolding_all exact rfl)|(simp only[new_n,put_n,new_m];omega)|(refine put_m_le ?_;simp only[new_m];omega)) only [K48r1,Abs.W,reduceIte,Nat.reduceEqDiff,Nat.reduceAdd,decide_true,decide_false,kLoop_def,Nat.reduceSub,List.cons_append,List.nil_append,List.append_nil,List.length_cons,List.length_nil,Env.find_set,y0,Nat.reduceAdd,Nat.zero_add]
  generalize hc1:call _ _ _ (.fn 35) _ _=r1
  obtain ⟨x1,t1,rfl,st1,d1,x10,x11⟩:=from_ex hc1 (by omega) dy (by show d<y.n;omega) (by show y.n+200≤far;omega) (by omega) (by omega) (by omega) (by omega)
  have n1:y.n≤t1.n:=st1.n
  have k1:t1.n≤y.n:=st1.le
  have p1:t1.h.get u.n=some (.cells [.int .i64 lo,.int .i64 hi] (tag 44)):=(st1.same u.n (by show u.n<y.n;omega) (by omega)).trans y0
  simp (disch:=first|omega|(with_unfolding_all exact rfl)|(simp only[new_n,put_n,new_m];omega)|(refine put_m_le ?_;simp only[new_m];omega)) only [K48r1,Abs.W,reduceIte,Nat.reduceEqDiff,Nat.reduceAdd,decide_true,decide_false,kLoop_def,Nat.reduceSub,List.cons_append,List.nil_append,List.append_nil,List.length_cons,List.length_nil,Env.find_set,thenT_turn,p1,Nat.reduceAdd,Nat.zero_add]
  generalize hc2:call _ _ _ (.fn 35) _ _=r2
  obtain ⟨x2,t2,rfl,st2,d2,x20,x21⟩:=from_ex hc2 (by omega) d1 (by show d<t1.n;omega) (by show t1.n+200≤far;omega) (by omega) (by omega) (by omega) (by omega)
  have n2:t1.n≤t2.n:=st2.n
  have k2:t2.n≤t1.n:=st2.le
  have p2:t2.h.get u.n=some (.cells [.int .i64 lo,.int .i64 hi] (tag 44)):=(st2.same u.n (by show u.n<t1.n;omega) (by omega)).trans p1
  simp (disch:=first|omega|(with_unfolding_all exact rfl)|(simp only[new_n,put_n,new_m];omega)|(refine put_m_le ?_;simp only[new_m];omega)) only [K48r1,Abs.W,reduceIte,Nat.reduceEqDiff,Nat.reduceAdd,decide_true,decide_false,kLoop_def,Nat.reduceSub,List.cons_append,List.nil_append,List.append_nil,List.length_cons,List.length_nil,Env.find_set,thenT_turn,Nat.reduceAdd,Nat.zero_add]
  generalize hc3:call _ _ _ (.fn 34) _ _=r3
  obtain ⟨x3,t3,rfl,st3,d3,m3⟩:=one_ex [lo,hi,x1,x2] hc3 (by omega) (by obtain ⟨f,hg⟩:=d2;exact ⟨f,by rw [get_new_ne _ _ _ (by show d≠t2.n;omega)];exact hg⟩) (by show d<t2.n+1;omega) (by show t2.n+1+200≤far;omega) (get_new_eq _ _ _ rfl (by show t2.n<_;omega)) (by show t2.n<t2.n+1;omega) (by show t2.n≠d;omega) rfl (by omega) (by omega)
  have x3r:lo≤x3∧x3≤hi:=by
   simp only [List.mem_cons,List.not_mem_nil,or_false] at m3
   omega
  have n3:t2.n+1≤t3.n:=st3.n
  have k3:t3.n≤t2.n+1:=st3.le
  simp (disch:=first|omega|(with_unfolding_all exact rfl)|(simp only[new_n,put_n,new_m];omega)|(refine put_m_le ?_;simp only[new_m];omega)) only [K48r1,Abs.W,reduceIte,Nat.reduceEqDiff,Nat.reduceAdd,decide_true,decide_false,kLoop_def,Nat.reduceSub,List.cons_append,List.nil_append,List.append_nil,List.length_cons,List.length_nil,Env.find_set,thenT_turn]
  have kp:∀ (a b:Heap) (M:Env),a.get u.n=some (.cells [.int .i64 lo,.int .i64 hi] (tag 44))→b.get u.n=some (.cells [.int .i64 lo,.int .i64 hi] (tag 44))→M.find 6=.ptr u.n 0→M.find 8=.ptr u.n 1→keptAll a b M [6,8]=true:=fun a b M h2 h3 h1 h4=>by
   simp only [keptAll_cons,keptAll_nil,h1,h4,keptV_ptr,h2,h3,sameO_cells,Bool.and_self]
  have kp4:∀ (a b:Heap) (M:Env),a.get u.n=some (.cells [.int .i64 lo,.int .i64 hi] (tag 44))→b.get u.n=some (.cells [.int .i64 lo,.int .i64 hi] (tag 44))→M.find 6=.ptr u.n 0→M.find 8=.ptr u.n 1→M.find 17=.ptr u.n 0→M.find 19=.ptr u.n 1→keptAll a b M [6,8,17,19]=true:=fun a b M h2 h3 h1 h4 h5 h6=>by
   simp only [keptAll_cons,keptAll_nil,h1,h4,h5,h6,keptV_ptr,h2,h3,sameO_cells,Bool.and_self]
  rw [endT_kept (s:=⟨t1.h,t1.n,minN y.m t1.m⟩) (kp _ _ _ p1 p2 (by simp only [find_cons,reduceIte,Nat.reduceEqDiff]) (by simp only [find_cons,reduceIte,Nat.reduceEqDiff])),endT_kept (kp4 _ _ _ y0 p1 (by simp only [find_cons,reduceIte,Nat.reduceEqDiff]) (by simp only [find_cons,reduceIte,Nat.reduceEqDiff]) (by simp only [find_cons,reduceIte,Nat.reduceEqDiff]) (by simp only [find_cons,reduceIte,Nat.reduceEqDiff]))]
  simp (disch:=first|omega|(with_unfolding_all exact rfl)|(simp only[new_n,put_n,new_m];omega)|(refine put_m_le ?_;simp only[new_m];omega)) only [res48,Abs.W,reduceIte,Nat.reduceEqDiff,Nat.reduceAdd,decide_true,decide_false,kLoop_def,Nat.reduceSub,List.cons_append,List.nil_append,List.append_nil,List.length_cons,List.length_nil,Env.find_set,endO_nil,regD_ok]
  have h1:=st1.m (show d≤far by omega)
  have h2:=st2.m (show d≤far by omega)
  have h3:=st3.m (show d≤minN (minN y.m t1.m) t2.m by rw [minN_eq,minN_eq];omega)
  have h4:t3.m≤minN (minN y.m t1.m) t2.m:=st3.mle
  rw [minN_eq,minN_eq] at h4
  refine ⟨_,_,rfl,⟨fun c hc hcd=>?_,?_,?_,fun _=>?_,?_⟩,rfl,⟨_,rfl,x3r.1,x3r.2⟩,d3⟩
  ·rw [st3.same c (by show c<t2.n+1;omega) hcd,get_new_ne _ _ _ (by show c≠t2.n;omega)]
   show t2.h.get c=_
   rw [st2.same c (by show c<t1.n;omega) hcd,st1.same c (by show c<y.n;omega) hcd]
   show y.h.get c=_
   rw [yg c hc]
  ·omega
  ·omega
  ·exact h3
  ·omega) (by omega)
 exact ⟨x,t,hr.symm.trans e,st,hd',q0,q1⟩
end Go.Proofs.Ytoklbkgcclkejaa.walk
set_option maxRecDepth 10000
namespace Go.Abs
theorem append_own {s:St} {lo n0 w bytes tg:Nat} {rows:List (List AV)} {v:AV} (r:Own s.h lo n0 w tg rows v) (hn:n0≤s.n) {p sz:Nat} {row:List AV} (hp:s.h.get p=some (.cells row sz)) (hw:row.length=w) (hsc:scalars row=true)
  (hb:(rows.length+1) * bytes≤1000000) (htg:szOf (w+tg)=w) (hs:s.n<549755813888) :
  ∃ s',appendA false w bytes tg s v (.slice p 0 1 1 false)=.val (.slice s.n 0 (rows.length+1) (rows.length+1) true) s'∧IsAt s'.h s'.n s.n w tg (rows++[row]) (.slice s.n 0 (rows.length+1) (rows.length+1) true)∧s'.n=s.n+1∧(∀ c,c<s.n→(c<lo∨n0≤c)→s'.h.get c=s.h.get c)∧(∀ k,k≤lo→k≤s.n→k≤s.m→k≤s'.m)∧s'.m≤s.m:=by
 rcases r.is with ⟨h1,h2 | ⟨b,h0,h3,h4,h5⟩⟩ | ⟨h1,b,h0,h3,h4,h5⟩
 ·obtain ⟨s',e1,e2,e3,e4,e5,e6⟩:=append_at (bytes:=bytes) (⟨r.wide,.inl ⟨h1,h2⟩⟩:IsAt s.h s.n s.n w tg rows v) hp hw hsc hb htg hs
  exact ⟨s',e1,e2,e3,fun c hc _=>e4 c hc (by omega),fun k _ hk hm=>e5 k hk hk hm,e6⟩
 ·have bl:Blk s.h s.n b w tg rows v:=⟨r.wide,false,0,by rw [h4,h1];rfl,by omega,by rw [h5,h1];rfl,fun h=>by cases h⟩
  obtain ⟨s',e1,e2,e3,e4,e5,e6⟩:=append_blk (bytes:=bytes) bl hp hw hsc hb htg hs
  refine ⟨s',e1,⟨e2.wide,.inr ⟨by simp,by omega,by simp,?_⟩⟩,e3,fun c hc hl=>e4 c hc (by omega),fun k hk _ hm=>e5 k (by omega) hm,e6⟩
  obtain ⟨e,sz',z1,z2,z3,z4⟩:=e2.is
  injection z1 with _ _ _ _ z5
  rw [z3,z4 z5.symm]
 ·have bl:Blk s.h s.n b w tg rows v:=⟨r.wide,true,_,h4,by omega,h5,fun _=>rfl⟩
  obtain ⟨s',e1,e2,e3,e4,e5,e6⟩:=append_blk (bytes:=bytes) bl hp hw hsc hb htg hs
  refine ⟨s',e1,⟨e2.wide,.inr ⟨by simp,by omega,by simp,?_⟩⟩,e3,fun c hc hl=>e4 c hc (by omega),fun k hk _ hm=>e5 k (by omega) hm,e6⟩
  obtain ⟨e,sz',z1,z2,z3,z4⟩:=e2.is
  injection z1 with _ _ _ _ z5
  rw [z3,z4 z5.symm]
end Go.Abs
namespace Go.Proofs.Ytoklbkgcclkejaa.walk
open Go.Abs Go.Proofs.Ytoklbkgcclkejaa.code
theorem put_scal (l:List PutR):∀ r ∈ l.map PutR.row,scalars r=true:=fun r hr=>by
 obtain ⟨p,_,rfl⟩:=List.mem_map.mp hr
 rfl
theorem copyLayout_ex {N:Nat} {no:Nat→Prop} {l:List PutR} {v:AV} {s:St} {r:ARes} (hr:call Try.prog X N (.fn 27) [v] s=r) (hN:1≤N) (hR:Sl no s.h s.n 3 (l.map PutR.row) v) (hl:l.length≤1000) (hs:s.n+100≤far) :
  ∃ w t,r=.val w t∧New s t 2∧Own t.h s.n t.n 3 (tag 51) (l.map PutR.row) w:=by
 obtain ⟨n,rfl⟩:∃ n,N=n+1:=⟨N - 1,by omega⟩
 have hf:far=1000000000:=rfl
 obtain ⟨w,t,e,st,hq⟩:=call_new' (n:=n) (args:=[v]) (s:=s) (k:=2) (Q:=fun w h n=>Own h s.n n 3 (tag 51) (l.map PutR.row) w) Try.func27 rfl (fun u uh un um=>by
  rw [← uh,← un] at hR
  rw [← un]
  have kv:=hR.okA
  rw [enter27]
  obtain ⟨y,hy⟩:∃ y:St,y=u.new (.cells [] 0):=⟨_,rfl⟩
  have yn:y.n=u.n+1:=by rw [hy];rfl
  have ym:y.m=far:=by rw [hy];exact um
  have yg:∀ c,c<u.n→y.h.get c=u.h.get c:=fun c hc=>by rw [hy,get_new_ne _ _ _ (by omega)]
  have y0:y.h.get u.n=some (.cells [] 0):=by rw [hy];exact get_new_eq _ _ _ rfl (by omega)
  simp (disch:=first|omega|(with_unfolding_all exact rfl)|(simp only[new_n,put_n,new_m];omega)|(refine put_m_le ?_;simp only[new_m];omega)) only [res27,K27r0,K27r1,K27,Abs.W,reduceIte,Nat.reduceEqDiff,Nat.reduceAdd,decide_true,decide_false,kLoop_def,Nat.reduceSub,List.cons_append,List.nil_append,List.append_nil,List.length_cons,List.length_nil,Env.find_set,kv]
  obtain ⟨w,s',e1,hO,n1,n2,hg,m1,m2⟩:=append_copy (tg:=tag 51) (bytes:=24) (hR.grow yg (by omega:u.n≤y.n)).seq y0 (by omega) (put_scal l) (by rw [List.length_map];omega) (by omega)
  rw [hy] at e1
  simp (disch:=first|omega|(with_unfolding_all exact rfl)|(simp only[new_n,put_n,new_m];omega)|(refine put_m_le ?_;simp only[new_m];omega)) only [res27,K27r0,K27r1,K27,Abs.W,reduceIte,Nat.reduceEqDiff,Nat.reduceAdd,decide_true,decide_false,kLoop_def,Nat.reduceSub,List.cons_append,List.nil_append,List.append_nil,List.length_cons,List.length_nil,Env.find_set,e1]
  refine ⟨_,_,rfl,⟨fun c hc=>(hg c (by omega)).trans (yg c hc),by omega,by omega,?_,by omega⟩,hO,fun hp=>?_⟩
  ·exact m1 u.n (Nat.le_refl _) (by omega)
  ·rcases hO.is with ⟨h1,h2 | ⟨b,_,_,h4,_⟩⟩ | ⟨_,b,_,_,h4,_⟩
   ·rw [h1,h2];exact ⟨fun x hx=>(by cases hx),.inl ⟨rfl,.inl rfl⟩⟩
   ·subst h4;cases hp
   ·subst h4;cases hp)
 exact ⟨w,t,hr.symm.trans e,st,hq⟩
end Go.Proofs.Ytoklbkgcclkejaa.walk
set_option maxRecDepth 10000
namespace Go.Proofs.Ytoklbkgcclkejaa.walk
open Go.Abs Go.Proofs.Ytoklbkgcclkejaa.code
structure LayJ (u t:St) (d:Nat) (H:HallR) (l:List PutR) (v:AV) (b kk:Nat):Prop where
 st:Stir d u t kk
 die:Die d t.h
 is:IsAt t.h t.n b 3 (tag 51) (l.map PutR.row) v
 b:u.n≤b
 ok:H.Valid l
 inn:∀ p ∈ l,p.In H
theorem valid_nil {H:HallR} (ok:H.Ok):H.Valid []:=⟨fun _ h=>(by cases h),List.Pairwise.nil,fun k hk=>by
 have:=(kindOk ok hk).m0
 show ((0:Nat):Int)≤_
 omega⟩
theorem in_put {H:HallR} (sz:H.Size) {c:Int × Int} (h:H.In c) {k:Nat} (hk:k<H.kinds.length):(PutR.mk c.1 c.2 k).In H:=by
 obtain ⟨⟨a,b⟩,e,f⟩:=h
 have:=sz.w1
 have:=sz.d1
 exact ⟨hk,by show -100≤c.1;omega,by show c.1≤100;omega,by show -100≤c.2;omega,by show c.2≤100;omega⟩
theorem lay_round (N:Nat) (hN:8≤N) (cx:Ctx) {u t:St} {d p4 lp op b kk i m most:Nat} {f:List Nat} {H:HallR} {vW vS vB vK va vo v:AV} {l:List PutR} {L:Env} (J:LayJ u t d H l v b kk) (ok:H.Ok) (hH:HallAt (fun c=>c≠d) u.h u.n H vW vS vB vK) (g4:u.h.get p4=some (.cells (hallV H vW vS vB vK) (tag 30))) (hp4:p4<u.n∧p4≠d) (hA:IsAt u.h u.n lp 2 (tag 27) (H.placesI.map cellR) va) (hlp:lp≠d) (hO:Blk u.h u.n op 1 (tag 3) (natRows f) vo) (hop:op≠d∧op<u.n) (hfl:f.length=m) (hm:m=H.placesI.length) (hperm:Perm m f) (hmost:l.length<most) (hmost8:most≤20) (hdn:d<u.n) (hi:i<m) (hs:u.n+kk+10000≤far) (hum:u.m≤far) (hdm:d≤u.m)
  (q0:L.find 0=.ptr d 0) (q2:L.find 2=.int .i64 (most:Int)) (q4:L.find 4=.ptr p4 0) (q7:L.find 7=v) (q8:L.find 8=va) (q9:L.find 9=vo) (q10:L.find 10=.int .i64 (i:Int)) :
  ∃ L1 t1 l1 v1 b1,K12l0 (call Try.prog X N) cx L [] t=.done .norm L1 [] t1∧LayJ u t1 d H l1 v1 b1 (kk+10)∧l1.length≤l.length+1∧L1.find 0=.ptr d 0∧L1.find 2=.int .i64 (most:Int)∧L1.find 4=.ptr p4 0∧L1.find 7=v1∧L1.find 8=va∧L1.find 9=vo∧L1.find 10=.int .i64 ((i+1:Nat):Int):=by
 have hf:far=1000000000:=rfl
 obtain ⟨jst,jdie,ji,jb,jok,jin⟩:=J
 have jn:=jst.n
 have jle:=jst.le
 have jm:=jst.m hdm
 have jml:=jst.mle
 have tg:∀ c,c<u.n→c≠d→t.h.get c=u.h.get c:=jst.same
 have sz:=ok.toSize
 have h24:=places_le sz
 have hpl:=placesI_len H
 have hk6:=ok.k1
 have hk0:=ok.k0
 have kv:∀ t,okA (.val v t)=.val v t:=ji.okA
 have lv:=ji.rows.len
 rw [List.length_map] at lv
 have kva:=hA.okA
 have kvo:∀ t,okA (.val vo t)=.val vo t:=fun t=>okA_ne hO.at_.ne
 have lvo:=hO.at_.len
 rw [natRows_len,hfl] at lvo
 have kK:=hH.k.okA
 have lK:=hH.k.len
 have e0:decide ((i:Int)<(m:Int))=true:=decide_eq_true (by omega)
 have e1:decide ((l.length:Int)<(most:Int))=true:=decide_eq_true (by omega)
 have ad:∀ s,aAdd s .i64 (i:Int) 1=.val (.int .i64 ((i:Int)+1)) s:=fun s=>aAdd_i64 s _ _ (by omega)
 have u6:=fun cl L s=>congrFun (congrFun (congrFun K12r5s6.eq_1 cl) L) s
 have u7:=fun cl L s=>congrFun (congrFun (congrFun K12r5s7.eq_1 cl) L) s
 have u8:=fun cl L s=>congrFun (congrFun (congrFun K12r5s8.eq_1 cl) L) s
 have u9:=fun cl L s=>congrFun (congrFun (congrFun K12r5s9.eq_1 cl) L) s
 have w5:=fun cl L s=>congrFun (congrFun (congrFun K12r7s5.eq_1 cl) L) s
 have w6:=fun cl L s=>congrFun (congrFun (congrFun K12r7s6.eq_1 cl) L) s
 have w7:=fun cl L s=>congrFun (congrFun (congrFun K12r7s7.eq_1 cl) L) s
 have w8:=fun cl L s=>congrFun (congrFun (congrFun K12r7s8.eq_1 cl) L) s
 -- the place
 have hkk:f.getD i 0<m:=hperm.lt i hi
 obtain ⟨k,hk⟩:∃ k,k=f.getD i 0:=⟨_,rfl⟩
 rw [← hk] at hkk
 have hkp:k<H.placesI.length:=by omega
 have hOt:=hO.mono (h':=t.h) (n':=t.n) (tg op hop.2 hop.1) jn
 obtain ⟨ob,oo,oc,osz,o1,o2,o3,o4⟩:=hOt.at_.at_ i (by rw [natRows_len];omega)
 rw [natRows_at (by omega),← hk] at o4
 have o5:=cut1_nth o4
 have hob:ob=op:=by
  obtain ⟨e,sz',z1,_⟩:=hOt.is
  have:=o2 t
  rw [z1,ixs_slice _ _ _ _ _ _ _ _ (by rw [natRows_len];omega)] at this
  injection this with this
  injection this with this
  exact this.symm
 have hAs:Sl (fun c=>c=lp) u.h u.n 2 (H.placesI.map cellR) va:=Sl.of_at hA fun _=>rfl
 obtain ⟨ab,ao,ac,asz,⟨a1,a1'⟩,a2,a3,a4⟩:=slCell hAs hkp
 have hCin:=placesI_in sz.w0 hkp
 generalize H.placesI[k]=C at *
 have ta:=(tg ab a1 (by rw [a1'];exact hlp)).trans a3
 have t4:=(tg p4 hp4.1 hp4.2).trans g4
 simp (disch:=first|omega|(with_unfolding_all exact rfl)|(simp only[new_n,put_n,new_m];omega)|(refine put_m_le ?_;simp only[new_m];omega)) only [K12l0,K12r5,u6,u7,u8,u9,Abs.W,reduceIte,Nat.reduceEqDiff,Nat.reduceAdd,decide_true,decide_false,kLoop_def,Nat.reduceSub,List.cons_append,List.nil_append,List.append_nil,List.length_cons,List.length_nil,Env.find_set,Nat.zero_add,q2,q7,q9,q10,kv,kvo,lv,lvo,e0,e1]
 simp (disch:=first|omega|(with_unfolding_all exact rfl)|(simp only[new_n,put_n,new_m];omega)|(refine put_m_le ?_;simp only[new_m];omega)) only [K12r6,Abs.W,reduceIte,Nat.reduceEqDiff,Nat.reduceAdd,decide_true,decide_false,kLoop_def,Nat.reduceSub,List.cons_append,List.nil_append,List.append_nil,List.length_cons,List.length_nil,Env.find_set,Nat.zero_add,q7,kv]
 generalize hc1:call _ _ _ (.fn 27) _ _=r1
 obtain ⟨w1,t1,rfl,st1,hW⟩:=copyLayout_ex (l:=l) (no:=fun c=>c=b) hc1 (by omega) (Sl.of_at ji fun _=>rfl) (by omega) (by show t.n+100≤far;omega)
 have n1:t.n≤t1.n:=st1.n
 have k1:t1.n≤t.n+2:=st1.le
 have hW':Own t1.h t.n t1.n 3 (tag 51) (l.map PutR.row) w1:=hW
 have m1:t1.m=far:=st1.m
 have g1:∀ c,c<t.n→t1.h.get c=t.h.get c:=st1.same
 obtain ⟨y1,hy1⟩:∃ y1:St,y1=⟨t1.h,t1.n,minN t.m t1.m⟩:=⟨_,rfl⟩
 have y1n:y1.n=t1.n:=by rw [hy1]
 have y1h:y1.h=t1.h:=by rw [hy1]
 have y1m:y1.m=t.m:=by rw [hy1];show minN t.m t1.m=_;rw [minN_eq];omega
 have tv1:∀ ws v d rest cl L,thenT (some ws) (.val v t1) d rest cl L t=rest cl (d.put v L) y1:=fun ws v d rest cl L=>by rw [hy1];exact thenT_val _ _ _ _ _ _ _ _ (by omega)
 have y1o:y1.h.get ob=some (.cells oc osz):=by rw [y1h];exact (g1 ob o1).trans o3
 have y1a:y1.h.get ab=some (.cells ac asz):=by rw [y1h];exact (g1 ab (by omega)).trans ta
 have y14:y1.h.get p4=some (.cells (hallV H vW vS vB vK) (tag 30)):=by rw [y1h];exact (g1 p4 (by omega)).trans t4
 simp (disch:=first|omega|(with_unfolding_all exact rfl)|(simp only[new_n,put_n,new_m];omega)|(refine put_m_le ?_;simp only[new_m];omega)) only [tv1,Abs.W,reduceIte,Nat.reduceEqDiff,Nat.reduceAdd,decide_true,decide_false,kLoop_def,Nat.reduceSub,List.cons_append,List.nil_append,List.append_nil,List.length_cons,List.length_nil,Env.find_set,find_cons,Nat.zero_add,q0,q4,q8,q9,q10,kva,kvo,kK,lK,o2,y1o,o5,a2,y1a,a4,y14]
 generalize hc2:call _ _ _ (.fn 25) _ _=r2
 obtain ⟨x2,t2,rfl,st2,d2,x20,x21⟩:=cast_ex hc2 (by omega) (by show Die d y1.h;rw [y1h];exact jdie.keep (g1 d (by omega))) (by show d<y1.n;omega) (by show y1.n+100≤far;omega) (by omega)
 have n2:y1.n≤t2.n:=st2.n
 have k2:t2.n≤y1.n:=st2.le
 have m2:d≤t2.m:=st2.m (by show d≤far;omega)
 have g2:∀ c,c<y1.n→c≠d→t2.h.get c=y1.h.get c:=fun c hc hcd=>st2.same c hc hcd
 obtain ⟨xk,rfl⟩:=Int.eq_ofNat_of_zero_le x20
 have hxk:xk<H.kinds.length:=by omega
 have z2a:=(g2 ab (by omega) (by rw [a1'];exact hlp)).trans y1a
 have z2o:=(g2 ob (by omega) (by rw [hob];exact hop.1)).trans y1o
 simp (disch:=first|omega|(with_unfolding_all exact rfl)|(simp only[new_n,put_n,new_m];omega)|(refine put_m_le ?_;simp only[new_m];omega)) only [thenT_turn,Abs.W,reduceIte,Nat.reduceEqDiff,Nat.reduceAdd,decide_true,decide_false,kLoop_def,Nat.reduceSub,List.cons_append,List.nil_append,List.append_nil,List.length_cons,List.length_nil,Env.find_set,find_cons,Nat.zero_add]
 obtain ⟨y8,hy8⟩:∃ y8:St,y8=⟨t2.h,t2.n,minN y1.m t2.m⟩:=⟨_,rfl⟩
 have y8n:y8.n=t2.n:=by rw [hy8]
 have y8h:y8.h=t2.h:=by rw [hy8]
 have y8m:y8.m=min y1.m t2.m:=by rw [hy8];simp only [minN_eq]
 rw [← hy8]
 obtain ⟨P,hP⟩:∃ P:PutR,P=⟨C.1,C.2,xk⟩:=⟨_,rfl⟩
 obtain ⟨y,hy⟩:∃ y:St,y=y8.new (.cells P.row 0):=⟨_,rfl⟩
 have yn:y.n=t2.n+1:=by rw [hy];show y8.n+1=_;rw [y8n]
 have ym:y.m=y8.m:=by rw [hy];rfl
 have yg:∀ c,c<t2.n→y.h.get c=t2.h.get c:=fun c hc=>by rw [hy,get_new_ne _ _ _ (by omega),y8h]
 have yp:y.h.get t2.n=some (.cells P.row 0):=by rw [hy,← y8n];exact get_new_eq _ _ _ rfl (by omega)
 have g12:∀ c,c<t1.n→c≠d→y.h.get c=t1.h.get c:=fun c hc hcd=>(yg c (by omega)).trans ((g2 c (by omega) hcd).trans (congrArg (fun h=>h.get c) y1h))
 obtain ⟨s7,e7,l7,s7n,s7g,s7m,s7l⟩:=append_own (bytes:=24) (n0:=t1.n) (hW'.mono (h':=y.h) (n':=t1.n) (fun c h1 h2=>g12 c h2 (by omega)) (Nat.le_refl _)) (by omega) yp rfl rfl (by rw [List.length_map];omega) (by kernel_rfl) (by omega)
 rw [List.length_map] at e7 l7
 obtain ⟨v7,hv7⟩:∃ v7,v7=AV.slice y.n 0 (l.length+1) (l.length+1) true:=⟨_,rfl⟩
 rw [← hv7] at e7 l7
 rw [hy] at e7
 have e7':appendA false 3 24 (tag 51) (y8.new (.cells [.int .i64 C.1,.int .i64 C.2,.int .i64 (xk:Int)] 0)) w1 (.slice t2.n 0 1 1 false)=.val v7 s7:=by rw [hP] at e7;exact e7
 have okv7:∀ t,okA (.val v7 t)=.val v7 t:=fun t=>by rw [hv7];rfl
 have gs:∀ c,c<t.n→c≠d→s7.h.get c=t.h.get c:=fun c hc hcd=>(s7g c (by omega) (.inl hc)).trans ((g12 c (by omega) hcd).trans (g1 c hc))
 have ms7:d≤s7.m:=s7m d (by omega) (by omega) (by omega)
 have ms7l:s7.m≤t.m:=by omega
 have kw:∀ t,okA (.val w1 t)=.val w1 t:=fun t=>okA_ne hW.seq.at_.ne
 have hpc:(l.map PutR.row)++[P.row]=(l++[P]).map PutR.row:=by rw [List.map_append];rfl
 rw [hpc] at l7
 have dS:Die d s7.h:=d2.keep ((s7g d (by omega) (.inl (by omega))).trans (yg d (by omega)))
 have S7:Stir d u s7 (kk+5):=⟨fun c hc hcd=>(gs c (by omega) hcd).trans (tg c hc hcd),by omega,by omega,fun _=>ms7,by omega⟩
 simp (disch:=first|omega|(with_unfolding_all exact rfl)|(simp only[new_n,put_n,new_m];omega)|(refine put_m_le ?_;simp only[new_m];omega)) only [Abs.W,reduceIte,Nat.reduceEqDiff,Nat.reduceAdd,decide_true,decide_false,kLoop_def,Nat.reduceSub,List.cons_append,List.nil_append,List.append_nil,List.length_cons,List.length_nil,Env.find_set,find_cons,y8n,e7',okv7,Nat.zero_add]
 rw [endT_kept (l:=[35,37]) (s':=t2) (by simp only [keptAll_cons,keptAll_nil,find_cons,Env.find_set,keptV_ptr,y1o,z2o,y1a,z2a,sameO_cells,reduceIte,Nat.reduceEqDiff,Bool.and_self])]
 rw [endO_ok _ (endOk_nil _)]
 simp (disch:=first|omega|(with_unfolding_all exact rfl)|(simp only[new_n,put_n,new_m];omega)|(refine put_m_le ?_;simp only[new_m];omega)) only [K12r7,Abs.W,reduceIte,Nat.reduceEqDiff,Nat.reduceAdd,decide_true,decide_false,kLoop_def,Nat.reduceSub,List.cons_append,List.nil_append,List.append_nil,List.length_cons,List.length_nil,Env.find_set,find_cons,q0,Nat.zero_add]
 generalize hc3:call _ _ _ (.fn 25) _ _=r3
 obtain ⟨x3,t3,rfl,st3,d3,x30,x31⟩:=cast_ex hc3 (by omega) dS (by omega) (by omega) (by omega)
 have n3:=st3.n
 have k3:=st3.le
 have m3:=st3.m ms7
 have m3l:=st3.mle
 have S3:Stir d u t3 (kk+5):=(S7.trans st3).mono (by omega)
 have hl3:IsAt t3.h t3.n b 3 (tag 51) (l.map PutR.row) v:=by
  refine ji.mono (fun h=>?_) (by omega)
  rw [st3.same b (by omega) (by omega)]
  exact gs b h (by omega)
 by_cases hx:0<x3
 ·have d1:decide (0<x3)=true:=decide_eq_true hx
  have t34:=(S3.same p4 hp4.1 hp4.2).trans g4
  have hlx:IsAt t3.h t3.n y.n 3 (tag 51) ((l++[P]).map PutR.row) v7:=l7.mono (fun h=>st3.same y.n h (by omega)) n3
  have hPin:P.In H:=by rw [hP];exact in_put sz hCin hxk
  have hinn:∀ q ∈ l++[P],q.In H:=fun q hq=>by
   rcases List.mem_append.mp hq with h | h
   ·exact jin q h
   ·rw [List.mem_singleton.mp h];exact hPin
  have hHt:HallAt (fun _=>True) t3.h t3.n H vW vS vB vK:=hH.move (fun c h1 h2=>⟨S3.same c h1 h2,trivial⟩) S3.n
  obtain ⟨er,eer,hval⟩:=refCheckLayout_ex (N:=N) (s:=t3) (no:=fun _=>True) rfl (by omega) ok hHt (Sl.of_at hlx fun _=>trivial) hinn (by rw [List.length_append,List.length_singleton];omega) (by omega)
  by_cases hz:er=0
  ·have d2':decide (er=0)=true:=decide_eq_true hz
   simp (disch:=first|omega|(with_unfolding_all exact rfl)|(simp only[new_n,put_n,new_m];omega)|(refine put_m_le ?_;simp only[new_m];omega)) only [w5,w6,w7,w8,K12r8,K12r9,Abs.W,reduceIte,Nat.reduceEqDiff,Nat.reduceAdd,decide_true,decide_false,kLoop_def,Nat.reduceSub,List.cons_append,List.nil_append,List.append_nil,List.length_cons,List.length_nil,Env.find_set,find_cons,q4,q10,okv7,t34,eer,d1,d2',ad,Nat.zero_add]
   refine ⟨_,_,l++[P],v7,y.n,rfl,⟨S3.mono (by omega),d3,hlx,by omega,hval.mp hz,hinn⟩,by rw [List.length_append,List.length_singleton];omega,?_,?_,?_,?_,?_,?_,?_⟩
   ·simp only [Env.find_set,q0,reduceIte,Nat.reduceEqDiff]
   ·simp only [Env.find_set,q2,reduceIte,Nat.reduceEqDiff]
   ·simp only [Env.find_set,q4,reduceIte,Nat.reduceEqDiff]
   ·simp only [Env.find_set,reduceIte,Nat.reduceEqDiff]
   ·simp only [Env.find_set,q8,reduceIte,Nat.reduceEqDiff]
   ·simp only [Env.find_set,q9,reduceIte,Nat.reduceEqDiff]
   ·simp only [Env.find_set,reduceIte,Nat.reduceEqDiff];rfl
  ·have d2':decide (er=0)=false:=decide_eq_false hz
   simp (disch:=first|omega|(with_unfolding_all exact rfl)|(simp only[new_n,put_n,new_m];omega)|(refine put_m_le ?_;simp only[new_m];omega)) only [w5,w6,w7,w8,K12r8,K12r9,Abs.W,reduceIte,Nat.reduceEqDiff,Nat.reduceAdd,decide_true,decide_false,kLoop_def,Nat.reduceSub,List.cons_append,List.nil_append,List.append_nil,List.length_cons,List.length_nil,Env.find_set,find_cons,q4,q10,okv7,t34,eer,d1,d2',ad,Nat.zero_add]
   refine ⟨_,_,l,v,b,rfl,⟨S3.mono (by omega),d3,hl3,jb,jok,jin⟩,by omega,?_,?_,?_,?_,?_,?_,?_⟩
   ·simp only [Env.find_set,q0,reduceIte,Nat.reduceEqDiff]
   ·simp only [Env.find_set,q2,reduceIte,Nat.reduceEqDiff]
   ·simp only [Env.find_set,q4,reduceIte,Nat.reduceEqDiff]
   ·simp only [Env.find_set,q7,reduceIte,Nat.reduceEqDiff]
   ·simp only [Env.find_set,q8,reduceIte,Nat.reduceEqDiff]
   ·simp only [Env.find_set,q9,reduceIte,Nat.reduceEqDiff]
   ·simp only [Env.find_set,reduceIte,Nat.reduceEqDiff];rfl
 ·have d1:decide (0<x3)=false:=decide_eq_false hx
  simp (disch:=first|omega|(with_unfolding_all exact rfl)|(simp only[new_n,put_n,new_m];omega)|(refine put_m_le ?_;simp only[new_m];omega)) only [w5,w6,w7,w8,K12r8,K12r9,Abs.W,reduceIte,Nat.reduceEqDiff,Nat.reduceAdd,decide_true,decide_false,kLoop_def,Nat.reduceSub,List.cons_append,List.nil_append,List.append_nil,List.length_cons,List.length_nil,Env.find_set,find_cons,q4,q10,d1,ad,Nat.zero_add]
  refine ⟨_,_,l,v,b,rfl,⟨S3.mono (by omega),d3,hl3,jb,jok,jin⟩,by omega,?_,?_,?_,?_,?_,?_,?_⟩
  ·simp only [Env.find_set,q0,reduceIte,Nat.reduceEqDiff]
  ·simp only [Env.find_set,q2,reduceIte,Nat.reduceEqDiff]
  ·simp only [Env.find_set,q4,reduceIte,Nat.reduceEqDiff]
  ·simp only [Env.find_set,q7,reduceIte,Nat.reduceEqDiff]
  ·simp only [Env.find_set,q8,reduceIte,Nat.reduceEqDiff]
  ·simp only [Env.find_set,q9,reduceIte,Nat.reduceEqDiff]
  ·simp only [Env.find_set,reduceIte,Nat.reduceEqDiff];rfl
end Go.Proofs.Ytoklbkgcclkejaa.walk
set_option maxRecDepth 10000
namespace Go.Proofs.Ytoklbkgcclkejaa.walk
open Go.Abs Go.Proofs.Ytoklbkgcclkejaa.code
theorem layoutOf_ex {N d:Nat} {H:HallR} {vW vS vB vK:AV} {most:Nat} {s:St} {r:ARes} (hr:call Try.prog X N (.fn 12) [.ptr d 0,.agg (hallV H vW vS vB vK),.int .i64 (most:Int)] s=r) (hN:10≤N) (hd:Die d s.h) (hdn:d<s.n) (ok:H.Ok) (hH:HallAt (fun c=>c≠d) s.h s.n H vW vS vB vK) (hmost:most≤20) (hs:s.n+20000≤far) :
  ∃ l v t,r=.val v t∧Stir d s t 400∧Die d t.h∧H.Valid l∧(∀ p ∈ l,p.In H)∧l.length≤most∧Sl (fun c=>s.n≤c) t.h t.n 3 (l.map PutR.row) v:=by
 obtain ⟨n,rfl⟩:∃ n,N=n+1:=⟨N - 1,by omega⟩
 have hf:far=1000000000:=rfl
 have sz:=ok.toSize
 have h24:=places_le sz
 have hpl:=placesI_len H
 obtain ⟨v,t,e,st,l,h0,h1,h2,h3,h4⟩:=call_stir2 (n:=n) (d:=d) (args:=[.ptr d 0,.agg (hallV H vW vS vB vK),.int .i64 (most:Int)]) (s:=s) (k:=400) (Q:=fun v h m=>∃ l,Die d h∧H.Valid l∧(∀ p ∈ l,p.In H)∧l.length≤most∧Sl (fun c=>s.n≤c) h m 3 (l.map PutR.row) v) Try.func12 rfl (fun u uh un um=>by
  have hd0:=hd
  rw [← uh] at hd
  rw [← uh,← un] at hH
  rw [← un] at hdn ⊢
  have u6:=fun cl L s=>congrFun (congrFun (congrFun K12r5s6.eq_1 cl) L) s
  have u7:=fun cl L s=>congrFun (congrFun (congrFun K12r5s7.eq_1 cl) L) s
  have u8:=fun cl L s=>congrFun (congrFun (congrFun K12r5s8.eq_1 cl) L) s
  have u9:=fun cl L s=>congrFun (congrFun (congrFun K12r5s9.eq_1 cl) L) s
  obtain ⟨w,hw⟩:∃ w:St,w=u.new (.cells (hallV H vW vS vB vK) (tag 30)):=⟨_,rfl⟩
  have wn:w.n=u.n+1:=by rw [hw];rfl
  have wm:w.m=far:=by rw [hw];exact um
  have wg:∀ c,c<u.n→w.h.get c=u.h.get c:=fun c hc=>by rw [hw,get_new_ne _ _ _ (by omega)]
  have w0:w.h.get u.n=some (.cells (hallV H vW vS vB vK) (tag 30)):=by rw [hw];exact get_new_eq _ _ _ rfl (by omega)
  rw [enter12]
  simp (disch:=first|omega|(with_unfolding_all exact rfl)|(simp only[new_n,put_n,new_m];omega)|(refine put_m_le ?_;simp only[new_m];omega)) only [K12,K12r0,K12r1,Abs.W,reduceIte,Nat.reduceEqDiff,Nat.reduceAdd,decide_true,decide_false,kLoop_def,Nat.reduceSub,List.cons_append,List.nil_append,List.append_nil,List.length_cons,List.length_nil,Env.find_set]
  rw [← hw]
  simp (disch:=first|omega|(with_unfolding_all exact rfl)|(simp only[new_n,put_n,new_m];omega)|(refine put_m_le ?_;simp only[new_m];omega)) only [K12r2,Abs.W,reduceIte,Nat.reduceEqDiff,Nat.reduceAdd,decide_true,decide_false,kLoop_def,Nat.reduceSub,List.cons_append,List.nil_append,List.append_nil,List.length_cons,List.length_nil,Env.find_set,find_cons,w0,Nat.zero_add]
  generalize hc1:call _ _ _ (.fn 40) _ _=r1
  obtain ⟨va,t1,lp,rfl,st1,lp1,lp2,hA⟩:=places_ex hc1 (by omega) sz (by omega)
  have n1:=st1.n
  have k1:=st1.le
  have m1:t1.m=far:=st1.m.trans wm
  have g1:=st1.same
  have kva:=hA.okA
  have lva:=hA.rows.len
  rw [List.length_map] at lva
  simp (disch:=first|omega|(with_unfolding_all exact rfl)|(simp only[new_n,put_n,new_m];omega)|(refine put_m_le ?_;simp only[new_m];omega)) only [K12r3,Abs.W,reduceIte,Nat.reduceEqDiff,Nat.reduceAdd,decide_true,decide_false,kLoop_def,Nat.reduceSub,List.cons_append,List.nil_append,List.append_nil,List.length_cons,List.length_nil,Env.find_set,find_cons,kva,lva]
  generalize hc2:call _ _ _ (.fn 21) _ _=r2
  obtain ⟨vo,f,t2,rfl,st2,d2,hfl,hperm,hO⟩:=Shuffle_ex hc2 (by omega) (hd.keep ((g1 d (by omega)).trans (wg d hdn))) (by omega) (by omega) (by omega)
  have n2:=st2.n
  have k2:=st2.le
  have m2:d≤t2.m:=st2.m (by omega)
  have m2l:=st2.mle
  have tg:∀ c,c<u.n→c≠d→t2.h.get c=u.h.get c:=fun c hc hcd=>(st2.same c (by omega) hcd).trans ((g1 c (by omega)).trans (wg c hc))
  have kvo:∀ t,okA (.val vo t)=.val vo t:=fun t=>okA_ne hO.at_.ne
  have lvo:=hO.at_.len
  have hol:=hO.lt
  rw [natRows_len,hfl] at lvo
  have hH2:HallAt (fun c=>c≠d) t2.h t2.n H vW vS vB vK:=hH.move (fun c h1 h2=>⟨tg c h1 h2,h2⟩) (by omega)
  have g4:=(st2.same u.n (by omega) (by omega)).trans ((g1 u.n (by omega)).trans w0)
  have hA2:=hA.mono (h':=t2.h) (n':=t2.n) (fun h=>st2.same lp h (by omega)) n2
  simp (disch:=first|omega|(with_unfolding_all exact rfl)|(simp only[new_n,put_n,new_m];omega)|(refine put_m_le ?_;simp only[new_m];omega)) only [K12r4,Abs.W,reduceIte,Nat.reduceEqDiff,Nat.reduceAdd,decide_true,decide_false,kLoop_def,Nat.reduceSub,List.cons_append,List.nil_append,List.append_nil,List.length_cons,List.length_nil,Env.find_set,find_cons,kvo]
  generalize hlp:loopN _ rounds _ _ _ _ _=rl1
  obtain ⟨eE,L1,t3,rfl,rfl,l,v,b,J,hlm,q7⟩:=loop_of hlp (fun i L' t'=>∃ l v b,LayJ t2 t' d H l v b (10 * i)∧l.length≤most∧L'.find 0=.ptr d 0∧L'.find 2=.int .i64 (most:Int)∧L'.find 4=.ptr u.n 0∧L'.find 7=v∧L'.find 8=va∧L'.find 9=vo∧L'.find 10=.int .i64 (i:Int))
   (fun e L1 t3=>e=.exit 0∧∃ l v b,LayJ t2 t3 d H l v b 240∧l.length≤most∧L1.find 7=v) H.placesI.length (by unfold rounds;omega)
   ⟨[],.nilslice,t2.n,⟨Stir.refl d t2,d2,IsAt.nil _ _ _ _ _,Nat.le_refl _,valid_nil ok,fun _ h=>(by cases h)⟩,Nat.zero_le _,(by simp only [find_cons,Env.find_set,reduceIte,Nat.reduceEqDiff]),(by simp only [find_cons,Env.find_set,reduceIte,Nat.reduceEqDiff]),(by simp only [find_cons,Env.find_set,reduceIte,Nat.reduceEqDiff]),(by simp only [find_cons,Env.find_set,reduceIte,Nat.reduceEqDiff]),(by simp only [find_cons,Env.find_set,reduceIte,Nat.reduceEqDiff]),(by simp only [find_cons,Env.find_set,reduceIte,Nat.reduceEqDiff]),(by simp only [find_cons,Env.find_set,reduceIte,Nat.reduceEqDiff];rfl)⟩
   (fun i L' t' hi ⟨l,v,b,J,hlm,q0,q2,q4,q7,q8,q9,q10⟩=>by
    have kv:∀ t,okA (.val v t)=.val v t:=J.is.okA
    have lv:=J.is.rows.len
    rw [List.length_map] at lv
    by_cases hlt:i<H.placesI.length
    ·have e0:decide ((i:Int)<(H.placesI.length:Int))=true:=decide_eq_true (by omega)
     by_cases hl2:l.length<most
     ·obtain ⟨L1,t1,l1,v1,b1,k1,k2,k3,k4,k5,k6,k7,k8,k9,k10⟩:=lay_round n (by omega) ⟨12,none,Try.f12.ntmps,X 12⟩ J ok hH2 g4 ⟨by omega,by omega⟩ hA2 (by omega) hO ⟨by omega,by omega⟩ hfl rfl hperm hl2 hmost (by omega) hlt (by omega) (by omega) m2 q0 q2 q4 q7 q8 q9 q10
      exact .inl ⟨hlt,L1,t1,k1,l1,v1,b1,k2,by omega,k4,k5,k6,k7,k8,k9,k10⟩
     ·have e1:decide ((l.length:Int)<(most:Int))=false:=decide_eq_false (by omega)
      refine .inr ⟨.exit 0,L'.set 27 (.bool false),t',by simp,?_,rfl,l,v,b,⟨J.st.mono (by omega),J.die,J.is,J.b,J.ok,J.inn⟩,hlm,by simp only [Env.find_set,q7,reduceIte,Nat.reduceEqDiff]⟩
      simp (disch:=first|omega|(with_unfolding_all exact rfl)|(simp only[new_n,put_n,new_m];omega)|(refine put_m_le ?_;simp only[new_m];omega)) only [K12l0,K12r5,u6,u7,u8,u9,Abs.W,reduceIte,Nat.reduceEqDiff,Nat.reduceAdd,decide_true,decide_false,kLoop_def,Nat.reduceSub,List.cons_append,List.nil_append,List.append_nil,List.length_cons,List.length_nil,Env.find_set,Nat.zero_add,q2,q7,q9,q10,kv,kvo,lv,lvo,e0,e1]
    ·obtain rfl:i=H.placesI.length:=by omega
     have e0:decide ((H.placesI.length:Int)<(H.placesI.length:Int))=false:=by simp
     refine .inr ⟨.exit 0,L'.set 27 (.bool false),t',by simp,?_,rfl,l,v,b,⟨J.st.mono (by omega),J.die,J.is,J.b,J.ok,J.inn⟩,hlm,by simp only [Env.find_set,q7,reduceIte,Nat.reduceEqDiff]⟩
     simp (disch:=first|omega|(with_unfolding_all exact rfl)|(simp only[new_n,put_n,new_m];omega)|(refine put_m_le ?_;simp only[new_m];omega)) only [K12l0,K12r5,u6,u7,u8,u9,Abs.W,reduceIte,Nat.reduceEqDiff,Nat.reduceAdd,decide_true,decide_false,kLoop_def,Nat.reduceSub,List.cons_append,List.nil_append,List.append_nil,List.length_cons,List.length_nil,Env.find_set,Nat.zero_add,q2,q7,q9,q10,kv,kvo,lv,lvo,e0])
  have kv:∀ t,okA (.val v t)=.val v t:=J.is.okA
  have n3:=J.st.n
  have k3:=J.st.le
  have m3:=J.st.m m2
  have m3l:=J.st.mle
  have jb:=J.b
  simp (disch:=first|omega|(with_unfolding_all exact rfl)|(simp only[new_n,put_n,new_m];omega)|(refine put_m_le ?_;simp only[new_m];omega)) only [K12r10,res12,Abs.W,reduceIte,Nat.reduceEqDiff,Nat.reduceAdd,decide_true,decide_false,kLoop_def,Nat.reduceSub,List.cons_append,List.nil_append,List.append_nil,List.length_cons,List.length_nil,Env.find_set,q7,kv]
  refine ⟨_,_,rfl,⟨fun c hc hcd=>(J.st.same c (by omega) hcd).trans (tg c hc hcd),by omega,by omega,fun _=>m3,by omega⟩,⟨l,J.die,J.ok,J.inn,hlm,Sl.of_at J.is fun _=>by omega⟩,fun hp=>?_⟩
  rcases J.is.is with ⟨z1,z2⟩ | ⟨_,_,z3,_⟩
  ·have hl:l=[]:=List.map_eq_nil_iff.mp z1
   subst hl
   exact ⟨[],hd0,valid_nil ok,fun _ h=>(by cases h),Nat.zero_le _,by rw [z2];exact Sl.nil _ _ _ _⟩
  ·rw [z3] at hp;cases hp) (by omega)
 exact ⟨l,v,t,hr.symm.trans e,st,h0,h1,h2,h3,h4⟩
end Go.Proofs.Ytoklbkgcclkejaa.walk
set_option maxRecDepth 10000
namespace Go.Proofs.Ytoklbkgcclkejaa.walk
open Go.Abs Go.Proofs.Ytoklbkgcclkejaa.code
structure Truly (H:HallR) (l:List PutR) (T:List Int):Prop where
 len:T.length=l.length
 is:∀ i (h1:i<l.length) (h2:i<T.length),(H.kind l[i].kind).lo≤T[i]∧T[i]≤(H.kind l[i].kind).hi
theorem trueLoads_ex {N d:Nat} {no:Nat→Prop} {H:HallR} {vW vS vB vK v:AV} {l:List PutR} {s:St} {r:ARes} (hr:call Try.prog X N (.fn 16) [.ptr d 0,.agg (hallV H vW vS vB vK),v] s=r) (hN:7≤N) (hd:Die d s.h) (hdn:d<s.n) (ok:H.Ok) (hno:¬ no d) (hK:KindsAt no s.h s.n H.kinds vK) (hR:Sl no s.h s.n 3 (l.map PutR.row) v) (hl:∀ q ∈ l,q.In H) (hl1:l.length≤24) (hs:s.n+3000≤far) :
  ∃ T w t,r=.val w t∧Stir d s t 200∧Die d t.h∧Truly H l T∧Sl (fun c=>s.n≤c) t.h t.n 1 (intRows T) w:=by
 obtain ⟨n,rfl⟩:∃ n,N=n+1:=⟨N - 1,by omega⟩
 have hf:far=1000000000:=rfl
 obtain ⟨w,t,e,st,T,h0,h1,h2⟩:=call_stir2 (n:=n) (d:=d) (args:=[.ptr d 0,.agg (hallV H vW vS vB vK),v]) (s:=s) (k:=200) (Q:=fun w h m=>∃ T,Die d h∧Truly H l T∧Sl (fun c=>s.n≤c) h m 1 (intRows T) w) Try.func16 rfl (fun u uh un um=>by
  have hd0:=hd
  rw [← uh] at hd
  rw [← uh,← un] at hK hR
  rw [← un] at hdn ⊢
  have kv:=hR.okA
  have lv:=slPuts hR
  have kK:=hK.okA
  obtain ⟨w,hw⟩:∃ w:St,w=u.new (.cells (hallV H vW vS vB vK) (tag 30)):=⟨_,rfl⟩
  have wn:w.n=u.n+1:=by rw [hw];rfl
  have wm:w.m=far:=by rw [hw];exact um
  have wg:∀ c,c<u.n→w.h.get c=u.h.get c:=fun c hc=>by rw [hw,get_new_ne _ _ _ (by omega)]
  have w0:w.h.get u.n=some (.cells (hallV H vW vS vB vK) (tag 30)):=by rw [hw];exact get_new_eq _ _ _ rfl (by omega)
  rw [enter16]
  simp (disch:=first|omega|(with_unfolding_all exact rfl)|(simp only[new_n,put_n,new_m];omega)|(refine put_m_le ?_;simp only[new_m];omega)) only [K16,K16r0,K16r1,K16r2,Abs.W,reduceIte,Nat.reduceEqDiff,Nat.reduceAdd,decide_true,decide_false,kLoop_def,Nat.reduceSub,List.cons_append,List.nil_append,List.append_nil,List.length_cons,List.length_nil,Env.find_set]
  rw [← hw]
  generalize hlp:loopN _ rounds _ _ _ _ _=rl1
  obtain ⟨eE,L1,t3,rfl,rfl,T,v1,b1,S,D,hT,hI,hb,q7⟩:=loop_of hlp (fun i L' t'=>∃ T v1 b1,Stir d w t' (6 * i)∧Die d t'.h∧Truly H (l.take i) T∧IsAt t'.h t'.n b1 1 (tag 3) (intRows T) v1∧w.n≤b1∧L'.find 0=.ptr d 0∧L'.find 2=v∧L'.find 4=.ptr u.n 0∧L'.find 7=v1∧L'.find 8=.int .i64 (i:Int))
   (fun e L1 t3=>e=.exit 0∧∃ T v1 b1,Stir d w t3 150∧Die d t3.h∧Truly H l T∧IsAt t3.h t3.n b1 1 (tag 3) (intRows T) v1∧w.n≤b1∧L1.find 7=v1) l.length (by unfold rounds;omega)
   ⟨[],.nilslice,w.n,Stir.refl d w,hd.keep (wg d hdn),⟨by simp,fun i h1=>by simp at h1⟩,IsAt.nil _ _ _ _ _,Nat.le_refl _,(by simp only [find_cons,Env.find_set,reduceIte,Nat.reduceEqDiff]),(by simp only [find_cons,Env.find_set,reduceIte,Nat.reduceEqDiff]),(by simp only [find_cons,Env.find_set,reduceIte,Nat.reduceEqDiff]),(by simp only [find_cons,Env.find_set,reduceIte,Nat.reduceEqDiff]),(by simp only [find_cons,Env.find_set,reduceIte,Nat.reduceEqDiff];rfl)⟩
   (fun i L' t' hi ⟨T,v1,b1,S,D,hT,hI,hb,q0,q2,q4,q7,q8⟩=>by
    have tn:=S.n
    have tl:=S.le
    have tm:=S.m (by omega)
    have tml:=S.mle
    have k7:=hI.okA
    by_cases hlt:i<l.length
    ·have e0:decide ((i:Int)<(l.length:Int))=true:=decide_eq_true (by omega)
     have ad:∀ s,aAdd s .i64 (i:Int) 1=.val (.int .i64 ((i:Int)+1)) s:=fun s=>aAdd_i64 s _ _ (by omega)
     have tu:∀ c,c<u.n→no c→t'.h.get c=u.h.get c:=fun c hc hn=>(S.same c (by omega) (fun e=>hno (e▸hn))).trans (wg c hc)
     have hRt:=hR.move (h':=t'.h) (n':=t'.n) (no':=no) (fun c h1 h2=>⟨tu c h1 h2,h2⟩) (by omega)
     have hKt:KindsAt no t'.h t'.n H.kinds vK:=hK.move (fun c h1 h2=>⟨tu c h1 h2,h2⟩) (by omega)
     obtain ⟨b,bp,c,szz,⟨r1,_⟩,r2,r3,r4⟩:=slPut hRt hlt
     have hIn:=hl _ (List.getElem_mem hlt)
     have htk:=take_snoc hlt
     have hge:∀ (h:i<(l.take (i+1)).length),(l.take (i+1))[i]=l[i]:=fun h=>List.getElem_take
     have htl:(l.take i).length=i:=by rw [List.length_take];omega
     obtain ⟨aw,kb,ko,kc,ksz,⟨kb1,_⟩,kb2,kb3,_,_,_,_,kcut⟩:=hKt.cells hIn.k
     have hkO:=kindOk ok hIn.k
     have l0:=hkO.l0
     have l1:=hkO.l1
     have l2:=hkO.l2
     have r42:nth c (bp+2)=.int .i64 (l[i].kind:Int):=(cut_nth r4 (by omega)).trans rfl
     have kc2:cut ko 2 kc=some [.int .i64 (H.kind l[i].kind).lo,.int .i64 (H.kind l[i].kind).hi]:=cut_less kcut (show 2≤6 by omega)
     have t4:=(S.same u.n (by omega) (by omega)).trans w0
     refine .inl ⟨hlt,?_⟩
     simp (disch:=first|omega|(with_unfolding_all exact rfl)|(simp only[new_n,put_n,new_m];omega)|(refine put_m_le ?_;simp only[new_m];omega)) only [K16l0,K16r3,K16r4,Abs.W,reduceIte,Nat.reduceEqDiff,Nat.reduceAdd,decide_true,decide_false,kLoop_def,Nat.reduceSub,List.cons_append,List.nil_append,List.append_nil,List.length_cons,List.length_nil,Env.find_set,Nat.zero_add,Nat.add_zero,q0,q2,q4,q7,q8,kv,lv,e0,k7,t4,kK,r2,r3,r42,kb2,kb3,kc2]
     generalize hc1:call _ _ _ (.fn 48) _ _=r1
     obtain ⟨x1,t1,rfl,st1,d1,x10,x11⟩:=true_ex hc1 (by omega) D (by omega) (by omega) (by omega) l1 (by omega)
     have n1:=st1.n
     have k1:=st1.le
     have m1:=st1.m (by omega)
     have m1l:=st1.mle
     simp (disch:=first|omega|(with_unfolding_all exact rfl)|(simp only[new_n,put_n,new_m];omega)|(refine put_m_le ?_;simp only[new_m];omega)) only [Abs.W,reduceIte,Nat.reduceEqDiff,Nat.reduceAdd,decide_true,decide_false,kLoop_def,Nat.reduceSub,List.cons_append,List.nil_append,List.append_nil,List.length_cons,List.length_nil,Env.find_set,find_cons,Nat.zero_add]
     obtain ⟨y,hy⟩:∃ y:St,y=t1.new (.cells [.int .i64 x1] 0):=⟨_,rfl⟩
     have yn:y.n=t1.n+1:=by rw [hy];rfl
     have ym:y.m=t1.m:=by rw [hy];rfl
     have yg:∀ c,c<t1.n→y.h.get c=t1.h.get c:=fun c hc=>by rw [hy,get_new_ne _ _ _ (by omega)]
     have yp:y.h.get t1.n=some (.cells [.int .i64 x1] 0):=by rw [hy];exact get_new_eq _ _ _ rfl (by omega)
     rw [← hy]
     have hTl:=hT.len
     rw [htl] at hTl
     obtain ⟨s7,e7,l7,s7n,s7g,s7m,s7l⟩:=append_at (bytes:=8) (hI.mono (h':=y.h) (n':=y.n) (fun h=>(yg b1 (by omega)).trans (st1.same b1 h (by omega))) (by omega)) yp rfl rfl (by rw [intRows_len];omega) (by kernel_rfl) (by omega)
     rw [intRows_len] at e7 l7
     obtain ⟨v7,hv7⟩:∃ v7,v7=AV.slice y.n 0 (T.length+1) (T.length+1) true:=⟨_,rfl⟩
     rw [← hv7] at e7 l7
     rw [show intRows T++[[AV.int .i64 x1]]=intRows (T++[x1]) from (intRows_snoc _ _).symm] at l7
     simp (disch:=first|omega|(with_unfolding_all exact rfl)|(simp only[new_n,put_n,new_m];omega)|(refine put_m_le ?_;simp only[new_m];omega)) only [K16r5,Abs.W,reduceIte,Nat.reduceEqDiff,Nat.reduceAdd,decide_true,decide_false,kLoop_def,Nat.reduceSub,List.cons_append,List.nil_append,List.append_nil,List.length_cons,List.length_nil,Env.find_set,find_cons,e7,q8,ad,Nat.zero_add]
     have gs:∀ c,c<t'.n→c≠d→c≠b1→s7.h.get c=t'.h.get c:=fun c hc hcd hcb=>(s7g c (by omega) hcb).trans ((yg c (by omega)).trans (st1.same c hc hcd))
     have ms7:=s7m d (by omega) (by omega) (by omega)
     refine ⟨_,_,rfl,T++[x1],v7,y.n,⟨fun c hc hcd=>(gs c (by omega) hcd (by omega)).trans (S.same c hc hcd),by omega,by omega,fun _=>ms7,by omega⟩,d1.keep ((s7g d (by omega) (by omega)).trans (yg d (by omega))),⟨?_,fun j h1 h2=>?_⟩,l7,by omega,?_,?_,?_,?_,?_⟩
     ·rw [List.length_append,List.length_singleton,hTl,List.length_take];omega
     ·by_cases hj:j<i
      ·have e1:(l.take (i+1))[j]=(l.take i)[j]'(by omega):=by rw [List.getElem_take,List.getElem_take]
       have e2:(T++[x1])[j]=T[j]'(by omega):=List.getElem_append_left (by omega)
       rw [e1,e2]
       exact hT.is j (by omega) (by omega)
      ·have hji:j=i:=by rw [List.length_take] at h1;omega
       subst hji
       have e1:(l.take (j+1))[j]=l[j]:=List.getElem_take
       have e2:(T++[x1])[j]=x1:=by rw [List.getElem_append_right (by omega)];simp [hTl]
       rw [e1,e2]
       exact ⟨x10,x11⟩
     ·simp only [Env.find_set,q0,reduceIte,Nat.reduceEqDiff]
     ·simp only [Env.find_set,q2,reduceIte,Nat.reduceEqDiff]
     ·simp only [Env.find_set,q4,reduceIte,Nat.reduceEqDiff]
     ·simp only [Env.find_set,reduceIte,Nat.reduceEqDiff]
     ·simp only [Env.find_set,reduceIte,Nat.reduceEqDiff];rfl
    ·obtain rfl:i=l.length:=by omega
     have e0:decide ((l.length:Int)<(l.length:Int))=false:=by simp
     rw [List.take_length] at hT
     refine .inr ⟨.exit 0,L'.set 12 (.bool false),t',by simp,?_,rfl,T,v1,b1,S.mono (by omega),D,hT,hI,hb,by simp only [Env.find_set,q7,reduceIte,Nat.reduceEqDiff]⟩
     simp (disch:=first|omega|(with_unfolding_all exact rfl)|(simp only[new_n,put_n,new_m];omega)|(refine put_m_le ?_;simp only[new_m];omega)) only [K16l0,K16r3,Abs.W,reduceIte,Nat.reduceEqDiff,Nat.reduceAdd,decide_true,decide_false,kLoop_def,Nat.reduceSub,List.cons_append,List.nil_append,List.append_nil,List.length_cons,List.length_nil,Env.find_set,Nat.zero_add,q2,q8,kv,lv,e0])
  have k7:=hI.okA
  have n3:=S.n
  have k3:=S.le
  have m3:=S.m (by omega)
  have m3l:=S.mle
  simp (disch:=first|omega|(with_unfolding_all exact rfl)|(simp only[new_n,put_n,new_m];omega)|(refine put_m_le ?_;simp only[new_m];omega)) only [K16r6,res16,Abs.W,reduceIte,Nat.reduceEqDiff,Nat.reduceAdd,decide_true,decide_false,kLoop_def,Nat.reduceSub,List.cons_append,List.nil_append,List.append_nil,List.length_cons,List.length_nil,Env.find_set,q7,k7]
  refine ⟨_,_,rfl,⟨fun c hc hcd=>(S.same c (by omega) hcd).trans (wg c hc),by omega,by omega,fun _=>m3,by omega⟩,⟨T,D,hT,Sl.of_at hI fun _=>by omega⟩,fun hp=>?_⟩
  rcases hI.is with ⟨z1,z2⟩ | ⟨_,_,z3,_⟩
  ·have hT0:T=[]:=List.map_eq_nil_iff.mp z1
   subst hT0
   exact ⟨[],hd0,hT,by rw [z2];exact Sl.nil _ _ _ _⟩
  ·rw [z3] at hp;cases hp) (by omega)
 exact ⟨T,w,t,hr.symm.trans e,st,h0,h1,h2⟩
def carC (H:HallR) (l:List PutR) (T:List Int):List AV:=(List.range H.bays).map fun b=>.int .i64 (tot (H.trues l T) b)
theorem carC_len (H:HallR) (l:List PutR) (T:List Int):(carC H l T).length=H.bays:=by unfold carC;simp
theorem carC_at (H:HallR) (l:List PutR) (T:List Int) {b:Nat} (hb:b<H.bays):nth (carC H l T) b=.int .i64 (tot (H.trues l T) b):=nth_of (by unfold carC;simp [hb])
theorem carC_zero (H:HallR):(List.replicate H.bays [AV.int .i64 0]).flatten=carC H [] []:=by
 rw [List.flatten_replicate_singleton,range_rep]
 rfl
theorem trues_snoc (H:HallR) {l:List PutR} {T:List Int} {i:Nat} (h1:i<l.length) (h2:i<T.length):H.trues (l.take (i+1)) (T.take (i+1))=H.trues (l.take i) (T.take i)++[(H.bay l[i],T[i])]:=by
 unfold HallR.trues
 rw [take_snoc h1,take_snoc h2,List.zipWith_append (by rw [List.length_take,List.length_take];omega)]
 rfl
theorem carC_snoc (H:HallR) {l:List PutR} {T:List Int} {i:Nat} (h1:i<l.length) (h2:i<T.length):(carC H (l.take i) (T.take i)).set (H.bay l[i]) (.int .i64 (tot (H.trues (l.take i) (T.take i)) (H.bay l[i])+T[i]))=carC H (l.take (i+1)) (T.take (i+1)):=by
 unfold carC
 rw [range_set]
 congr 1
 funext b
 rw [trues_snoc H h1 h2,tot_snoc]
 by_cases h:b=H.bay l[i]
 ·subst h;simp
 ·have h':¬ H.bay l[i]=b:=fun e=>h e.symm
  simp [h,h']
theorem truly_bound {H:HallR} (ok:H.Ok) {l:List PutR} {T:List Int} (hT:Truly H l T) (hl:∀ q ∈ l,q.In H):∀ i (h:i<T.length),0≤T[i]∧T[i]≤1000000:=fun i h=>by
 have hi:i<l.length:=by have:=hT.len;omega
 have h1:=hT.is i hi h
 have h2:=kindOk ok (hl _ (List.getElem_mem hi)).k
 have:=h2.l0
 have:=h2.l2
 omega
theorem trues_bound {H:HallR} {l:List PutR} {T:List Int} (hb:∀ i (h:i<T.length),0≤T[i]∧T[i]≤1000000) (h24:l.length≤24) (b:Nat):0≤tot (H.trues l T) b∧tot (H.trues l T) b≤24000000:=by
 have h1:=tot_bound (H.trues l T) b 1000000 (by decide) fun x hx=>by
  unfold HallR.trues at hx
  obtain ⟨i,hi,rfl⟩:=List.getElem_of_mem hx
  rw [List.getElem_zipWith]
  exact hb i (by rw [List.length_zipWith] at hi;omega)
 have h2:(H.trues l T).length≤24:=by unfold HallR.trues;rw [List.length_zipWith];omega
 omega
theorem carried_ex {N:Nat} {no:Nat→Prop} {H:HallR} {vW vS vB vK v vt:AV} {l:List PutR} {T:List Int} {s:St} {r:ARes} (hr:call Try.prog X N (.fn 15) [.agg (hallV H vW vS vB vK),v,vt] s=r) (hN:3≤N) (ok:H.Ok) (hR:Sl no s.h s.n 3 (l.map PutR.row) v) (hQ:Sl no s.h s.n 1 (intRows T) vt) (hTl:T.length=l.length) (hb:∀ i (h:i<T.length),0≤T[i]∧T[i]≤1000000) (hm:∀ q ∈ l,H.In q.c) (hl1:l.length≤24) (hs:s.n+1000≤far) :
  ∃ t bl,r=.val (.slice bl 0 H.bays H.bays false) t∧New s t 10∧s.n≤bl∧bl<t.n∧t.h.get bl=some (.cells (carC H l T) 0):=by
 obtain ⟨n,rfl⟩:∃ n,N=n+1:=⟨N - 1,by omega⟩
 have hf:far=1000000000:=rfl
 obtain ⟨vv,t,e,st,bl,rfl,hb1,hb2,hb3⟩:=call_new (n:=n) (args:=[.agg (hallV H vW vS vB vK),v,vt]) (s:=s) (k:=10) (Q:=fun v h n=>∃ bl,v=.slice bl 0 H.bays H.bays false∧s.n≤bl∧bl<n∧h.get bl=some (.cells (carC H l T) 0)) Try.func15 rfl (fun u uh un um=>by
  rw [← uh,← un] at hR hQ
  rw [← un]
  have kv:=hR.okA
  have lv:=slPuts hR
  have kt:=hQ.okA
  have sz:=ok.toSize
  have hb24:=bays_le sz
  have mk:∀ s:St,makeA [.int .i64 0] 8 s (.int .i64 (H.bays:Int)) (.int .i64 (H.bays:Int))=.val (.slice s.n 0 H.bays H.bays false) (s.new (.cells (carC H [] []) 0)):=fun s=>by rw [← carC_zero];exact make_rows _ 8 _ s (by omega) (by omega)
  have okM:∀ t,okA (.val (.slice (u.n+1) 0 H.bays H.bays false) t)=.val (.slice (u.n+1) 0 H.bays H.bays false) t:=fun _=>rfl
  have eb:∀ s:St,s.n+20≤far→call Try.prog X n (.fn 36) [.agg (hallV H vW vS vB vK)] s=.val (.int .i64 (H.bays:Int)) s:=fun s hs=>refBays_ok n (by omega) H sz vW vS vB vK s hs
  obtain ⟨w,hw⟩:∃ w:St,w=(u.new (.cells (hallV H vW vS vB vK) (tag 30))).new (.cells (carC H [] []) 0):=⟨_,rfl⟩
  have wn:w.n=u.n+2:=by rw [hw];rfl
  have wm:w.m=far:=by rw [hw];exact um
  have wg:∀ c,c<u.n→w.h.get c=u.h.get c:=fun c hc=>by rw [hw,get_new_ne _ _ _ (by rw [new_n];omega),get_new_ne _ _ _ (by omega)]
  have w0:w.h.get u.n=some (.cells (hallV H vW vS vB vK) (tag 30)):=by rw [hw,get_new_ne _ _ _ (by rw [new_n];omega)];exact get_new_eq _ _ _ rfl (by omega)
  have w1:w.h.get (u.n+1)=some (.cells (carC H [] []) 0):=by rw [hw];exact get_new_eq _ _ _ rfl (by rw [new_n];omega)
  rw [enter15]
  simp (disch:=first|omega|(with_unfolding_all exact rfl)|(simp only[new_n,put_n,new_m];omega)|(refine put_m_le ?_;simp only[new_m];omega)) only [K15,K15r0,K15r1,K15r2,Abs.W,reduceIte,Nat.reduceEqDiff,Nat.reduceAdd,decide_true,decide_false,kLoop_def,Nat.reduceSub,List.cons_append,List.nil_append,List.append_nil,List.length_cons,List.length_nil,Env.find_set,find_cons,eb,kMake_def,mk,new_n,okM,Nat.zero_add]
  rw [← hw]
  generalize hlp:loopN _ rounds _ _ _ _ _=rl1
  obtain ⟨eE,L1,t3,rfl,rfl,q7,hc1,sg,sn,sm,sml⟩:=loop_of hlp (fun i L t=>L.find 1=v∧L.find 2=vt∧L.find 3=.ptr u.n 0∧L.find 7=.slice (u.n+1) 0 H.bays H.bays false∧L.find 8=.int .i64 (i:Int)∧t.h.get (u.n+1)=some (.cells (carC H (l.take i) (T.take i)) 0)∧(∀ c,c<u.n+1→t.h.get c=w.h.get c)∧t.n=u.n+2∧u.n≤t.m∧t.m≤far)
   (fun e L t=>e=.exit 0∧L.find 7=.slice (u.n+1) 0 H.bays H.bays false∧t.h.get (u.n+1)=some (.cells (carC H l T) 0)∧(∀ c,c<u.n+1→t.h.get c=w.h.get c)∧t.n=u.n+2∧u.n≤t.m∧t.m≤far) l.length (by unfold rounds;omega)
   ⟨(by simp only [find_cons,Env.find_set,reduceIte,Nat.reduceEqDiff]),(by simp only [find_cons,Env.find_set,reduceIte,Nat.reduceEqDiff]),(by simp only [find_cons,Env.find_set,reduceIte,Nat.reduceEqDiff]),(by simp only [find_cons,Env.find_set,reduceIte,Nat.reduceEqDiff]),(by simp only [find_cons,Env.find_set,reduceIte,Nat.reduceEqDiff];rfl),w1,fun _ _=>rfl,wn,by omega,by omega⟩
   (fun i L t hi ⟨q1,q2,q3,q7,q8,tc,tg,tn,tm,tml⟩=>by
    by_cases hlt:i<l.length
    ·have hltT:i<T.length:=by omega
     have e0:decide ((i:Int)<(l.length:Int))=true:=decide_eq_true (by omega)
     have ad:∀ s,aAdd s .i64 (i:Int) 1=.val (.int .i64 ((i:Int)+1)) s:=fun s=>aAdd_i64 s _ _ (by omega)
     have tu:∀ c,c<u.n→t.h.get c=u.h.get c:=fun c hc=>(tg c (by omega)).trans (wg c hc)
     have hRt:=hR.grow (h':=t.h) (n':=t.n) tu (by omega)
     have hQt:=hQ.grow (h':=t.h) (n':=t.n) tu (by omega)
     obtain ⟨b,bp,c,szz,⟨r1,_⟩,r2,r3,r4⟩:=slPut hRt hlt
     obtain ⟨b2,p2,c2,sz2,j1,j2,j3,j4⟩:=rowInt hQt.at_ hltT
     have hMay:=hm _ (List.getElem_mem hlt)
     have hsn:=carC_snoc H hlt hltT
     have hbT:=hb i hltT
     have hbd:=trues_bound (H:=H) (l:=l.take i) (T:=T.take i) (fun j hj=>by rw [List.getElem_take];exact hb j (by rw [List.length_take] at hj;omega)) (by rw [List.length_take];omega) (H.bay l[i])
     generalize l[i]=P at *
     obtain ⟨x,y,ex,ey,hx,hy⟩:=in_nat hMay
     have hbay:=bay_nat (H:=H) ex ey
     have hblt:=bay_lt sz hx hy
     rw [← hbay] at hblt
     have t0:=(tg u.n (by omega)).trans w0
     have r4':cut bp 2 c=some [.int .i64 P.x,.int .i64 P.y]:=cut_less r4 (show 2≤3 by omega)
     have ebo:∀ s:St,s.n+10≤far→call Try.prog X n (.fn 47) [.agg (hallV H vW vS vB vK),.agg [.int .i64 P.x,.int .i64 P.y]] s=.val (.int .i64 (H.bay P:Int)) s:=fun s hs=>by rw [ex,ey,hbay];exact bayOf_ok n (by omega) H sz vW vS vB vK hx hy s hs
     have htn:t.n≤far:=by omega
     have hts:=thenT_same (v:=.int .i64 (H.bay P:Int)) (s:=t) (h:=htn) (hm:=tml)
     have hix:∀ s,ixsA 1 s (.slice (u.n+1) 0 H.bays H.bays false) (.int .i64 (H.bay P:Int))=.val (.ptr (u.n+1) (H.bay P)) s:=fun s=>by rw [ixs_slice _ _ _ _ _ _ _ _ hblt,Nat.zero_add,Nat.mul_one]
     have hca:=carC_at H (l.take i) (T.take i) hblt
     have ad2:∀ s,aAdd s .i64 (tot (H.trues (l.take i) (T.take i)) (H.bay P)) T[i]=.val (.int .i64 (tot (H.trues (l.take i) (T.take i)) (H.bay P)+T[i])) s:=fun s=>aAdd_i64 s _ _ (by omega)
     have stm:=store_cell (v:=.int .i64 (tot (H.trues (l.take i) (T.take i)) (H.bay P)+T[i])) tc (o:=H.bay P) (by rw [carC_len];exact hblt) rfl rfl
     rw [hsn] at stm
     refine .inl ⟨hlt,?_⟩
     simp (disch:=first|omega|(with_unfolding_all exact rfl)|(simp only[new_n,put_n,new_m];omega)|(refine put_m_le ?_;simp only[new_m];omega)) only [K15l0,K15r3,K15r4,K15r5,Abs.W,reduceIte,Nat.reduceEqDiff,Nat.reduceAdd,decide_true,decide_false,kLoop_def,Nat.reduceSub,List.cons_append,List.nil_append,List.append_nil,List.length_cons,List.length_nil,Env.find_set,Nat.zero_add,Nat.add_zero,q1,q2,q3,q7,q8,kv,lv,kt,e0,t0,r2,r3,r4',ebo,hts,okM,hix,tc,hca,j2,j3,j4,ad2,stm,ad]
     refine ⟨_,_,rfl,?_,?_,?_,?_,?_,get_put_eq _ _ _ _ (by omega) (by omega),fun c hc=>?_,?_,?_,?_⟩
     ·simp only [Env.find_set,q1,reduceIte,Nat.reduceEqDiff]
     ·simp only [Env.find_set,q2,reduceIte,Nat.reduceEqDiff]
     ·simp only [Env.find_set,q3,reduceIte,Nat.reduceEqDiff]
     ·simp only [Env.find_set,q7,reduceIte,Nat.reduceEqDiff]
     ·simp only [Env.find_set,reduceIte,Nat.reduceEqDiff];rfl
     ·rw [get_put_ne' _ _ _ _ (by omega)];exact tg c hc
     ·rw [put_n];exact tn
     ·simp only [St.put,minN_eq];omega
     ·simp only [St.put,minN_eq];omega
    ·obtain rfl:i=l.length:=by omega
     have e0:decide ((l.length:Int)<(l.length:Int))=false:=by simp
     rw [List.take_length,← hTl,List.take_length] at tc
     refine .inr ⟨.exit 0,L.set 15 (.bool false),t,by simp,?_,rfl,by simp only [Env.find_set,q7,reduceIte,Nat.reduceEqDiff],tc,tg,tn,tm,tml⟩
     simp (disch:=first|omega|(with_unfolding_all exact rfl)|(simp only[new_n,put_n,new_m];omega)|(refine put_m_le ?_;simp only[new_m];omega)) only [K15l0,K15r3,Abs.W,reduceIte,Nat.reduceEqDiff,Nat.reduceAdd,decide_true,decide_false,kLoop_def,Nat.reduceSub,List.cons_append,List.nil_append,List.append_nil,List.length_cons,List.length_nil,Env.find_set,q1,q8,kv,lv,e0])
  simp (disch:=first|omega|(with_unfolding_all exact rfl)|(simp only[new_n,put_n,new_m];omega)|(refine put_m_le ?_;simp only[new_m];omega)) only [K15r6,res15,Abs.W,reduceIte,Nat.reduceEqDiff,Nat.reduceAdd,decide_true,decide_false,kLoop_def,Nat.reduceSub,List.cons_append,List.nil_append,List.append_nil,List.length_cons,List.length_nil,Env.find_set,q7,okM]
  exact ⟨_,_,rfl,⟨fun c hc=>(sg c (by omega)).trans (wg c hc),by omega,by omega,by omega,by omega⟩,rfl,u.n+1,rfl,by omega,by omega,hc1⟩)
 exact ⟨t,bl,hr.symm.trans e,st,hb1,hb2,hb3⟩
theorem holds_ok (N:Nat) (hN:1≤N) (lo hi n0:Int) (s:St) (hs:s.n+10≤far):call Try.prog X N (.fn 17) [.agg [.int .i64 lo,.int .i64 hi],.int .i64 n0] s=.val (.bool (decide (lo≤n0∧n0≤hi))) s:=by
 obtain ⟨n,rfl⟩:∃ n,N=n+1:=⟨N - 1,by omega⟩
 refine call_plain' Try.func17 (fun u uh un um=>?_) rfl
 have hf:far=1000000000:=rfl
 have u6:=fun cl L s=>congrFun (congrFun (congrFun K17r1s6.eq_1 cl) L) s
 have u7:=fun cl L s=>congrFun (congrFun (congrFun K17r1s7.eq_1 cl) L) s
 have u8:=fun cl L s=>congrFun (congrFun (congrFun K17r1s8.eq_1 cl) L) s
 have u9:=fun cl L s=>congrFun (congrFun (congrFun K17r1s9.eq_1 cl) L) s
 rw [enter17]
 by_cases h0:lo≤n0
 ·have e0:decide (lo≤n0)=true:=decide_eq_true h0
  by_cases h1:n0≤hi
  ·have e1:decide (n0≤hi)=true:=decide_eq_true h1
   rw [decide_eq_true (p:=lo≤n0∧n0≤hi) ⟨h0,h1⟩]
   simp (disch:=first|omega|(with_unfolding_all exact rfl)|(simp only[new_n,put_n,new_m];omega)|(refine put_m_le ?_;simp only[new_m];omega)) only [res17,K17,K17r0,K17r1,u6,u7,u8,u9,Abs.W,reduceIte,Nat.reduceEqDiff,Nat.reduceAdd,decide_true,decide_false,kLoop_def,Nat.reduceSub,List.cons_append,List.nil_append,List.append_nil,List.length_cons,List.length_nil,e0,e1,Nat.zero_add]
   exact ⟨_,rfl,by simp only [new_m];omega⟩
  ·have e1:decide (n0≤hi)=false:=decide_eq_false h1
   rw [decide_eq_false (p:=lo≤n0∧n0≤hi) (fun h=>h1 h.2)]
   simp (disch:=first|omega|(with_unfolding_all exact rfl)|(simp only[new_n,put_n,new_m];omega)|(refine put_m_le ?_;simp only[new_m];omega)) only [res17,K17,K17r0,K17r1,u6,u7,u8,u9,Abs.W,reduceIte,Nat.reduceEqDiff,Nat.reduceAdd,decide_true,decide_false,kLoop_def,Nat.reduceSub,List.cons_append,List.nil_append,List.append_nil,List.length_cons,List.length_nil,e0,e1,Nat.zero_add]
   exact ⟨_,rfl,by simp only [new_m];omega⟩
 ·have e0:decide (lo≤n0)=false:=decide_eq_false h0
  rw [decide_eq_false (p:=lo≤n0∧n0≤hi) (fun h=>h0 h.1)]
  simp (disch:=first|omega|(with_unfolding_all exact rfl)|(simp only[new_n,put_n,new_m];omega)|(refine put_m_le ?_;simp only[new_m];omega)) only [res17,K17,K17r0,K17r1,u6,u7,u8,u9,Abs.W,reduceIte,Nat.reduceEqDiff,Nat.reduceAdd,decide_true,decide_false,kLoop_def,Nat.reduceSub,List.cons_append,List.nil_append,List.append_nil,List.length_cons,List.length_nil,e0,Nat.zero_add]
  exact ⟨_,rfl,by simp only [new_m];omega⟩
def HallR.bearsUpto (H:HallR) (f:Nat→Int) (i:Nat):Prop:=∀ b,b<i→f b≤H.bears.getD b 0
theorem borne_ok (N:Nat) (hN:1≤N) {no:Nat→Prop} {H:HallR} {vW vS vB vK:AV} {bl:Nat} {f:Nat→Int} {s:St} (ok:H.Ok) (hB:Sl no s.h s.n 1 (intRows H.bears) vB) (hbl:bl<s.n) (hc:∃ c,s.h.get bl=some (.cells c 0)∧∀ b,b<H.bays→nth c b=.int .i64 (f b)) (is:Bool) (his:is=true↔H.bearsUpto f H.bays) (hs:s.n+100≤far) :
  call Try.prog X N (.fn 18) [.agg (hallV H vW vS vB vK),.slice bl 0 H.bays H.bays false] s=.val (.bool is) s:=by
 obtain ⟨n,rfl⟩:∃ n,N=n+1:=⟨N - 1,by omega⟩
 refine call_plain' Try.func18 (fun u uh un um=>?_) rfl
 rw [← uh,← un] at hB
 rw [← uh] at hc
 rw [← un] at hbl
 have hf:far=1000000000:=rfl
 have hbb:=ok.bl
 have hb24:=bays_le ok.toSize
 obtain ⟨c,hc1,hc2⟩:=hc
 have kB:=hB.okA
 have okM:∀ t,okA (.val (.slice bl 0 H.bays H.bays false) t)=.val (.slice bl 0 H.bays H.bays false) t:=fun _=>rfl
 have lM:∀ s,lenSlA s (.slice bl 0 H.bays H.bays false)=.val (.int .i64 (H.bays:Int)) s:=fun _=>rfl
 have u3:=fun cl L s=>congrFun (congrFun (congrFun K18r4s3.eq_1 cl) L) s
 have u4:=fun cl L s=>congrFun (congrFun (congrFun K18r4s4.eq_1 cl) L) s
 have u5:=fun cl L s=>congrFun (congrFun (congrFun K18r4s5.eq_1 cl) L) s
 have u6:=fun cl L s=>congrFun (congrFun (congrFun K18r4s6.eq_1 cl) L) s
 have u7:=fun cl L s=>congrFun (congrFun (congrFun K18r4s7.eq_1 cl) L) s
 have u8:=fun cl L s=>congrFun (congrFun (congrFun K18r4s8.eq_1 cl) L) s
 have u9:=fun cl L s=>congrFun (congrFun (congrFun K18r4s9.eq_1 cl) L) s
 have u10:=fun cl L s=>congrFun (congrFun (congrFun K18r4s10.eq_1 cl) L) s
 have u11:=fun cl L s=>congrFun (congrFun (congrFun K18r4s11.eq_1 cl) L) s
 have u12:=fun cl L s=>congrFun (congrFun (congrFun K18r4s12.eq_1 cl) L) s
 obtain ⟨w,hw⟩:∃ w:St,w=u.new (.cells (hallV H vW vS vB vK) (tag 30)):=⟨_,rfl⟩
 have wn:w.n=u.n+1:=by rw [hw];rfl
 have wm:w.m=far:=by rw [hw];exact um
 have wg:∀ c,c<u.n→w.h.get c=u.h.get c:=fun c hc=>by rw [hw,get_new_ne _ _ _ (by omega)]
 have w0:w.h.get u.n=some (.cells (hallV H vW vS vB vK) (tag 30)):=by rw [hw];exact get_new_eq _ _ _ rfl (by omega)
 have wc:=(wg bl hbl).trans hc1
 have hBw:=hB.grow wg (by omega:u.n≤w.n)
 rw [enter18]
 simp (disch:=first|omega|(with_unfolding_all exact rfl)|(simp only[new_n,put_n,new_m];omega)|(refine put_m_le ?_;simp only[new_m];omega)) only [K18,K18r0,K18r1,K18r2,Abs.W,reduceIte,Nat.reduceEqDiff,Nat.reduceAdd,decide_true,decide_false,kLoop_def,Nat.reduceSub,List.cons_append,List.nil_append,List.append_nil,List.length_cons,List.length_nil,Env.find_set]
 rw [← hw]
 generalize hlp:loopN _ rounds _ _ _ _ _=rl1
 obtain ⟨eE,L1,t3,rfl,rfl,q5,rfl⟩:=loop_of hlp (fun i L t=>t=w∧L.find 1=.slice bl 0 H.bays H.bays false∧L.find 2=.ptr u.n 0∧L.find 6=.int .i64 (i:Int)∧∃ x:Bool,L.find 5=.bool x∧(x=true↔H.bearsUpto f i))
  (fun e L t=>e=.exit 0∧L.find 5=.bool is∧t=w) H.bays (by unfold rounds;omega)
  ⟨rfl,(by simp only [find_cons,Env.find_set,reduceIte,Nat.reduceEqDiff]),(by simp only [find_cons,Env.find_set,reduceIte,Nat.reduceEqDiff]),(by simp only [find_cons,Env.find_set,reduceIte,Nat.reduceEqDiff];rfl),true,(by simp only [find_cons,Env.find_set,reduceIte,Nat.reduceEqDiff]),by simp [HallR.bearsUpto]⟩
  (fun i L t hi ⟨ht,q1,q2,q6,x,q5,hx⟩=>by
   subst ht
   by_cases hlt:i<H.bays
   ·have e0:decide ((i:Int)<(H.bays:Int))=true:=decide_eq_true (by omega)
    have ad:∀ s,aAdd s .i64 (i:Int) 1=.val (.int .i64 ((i:Int)+1)) s:=fun s=>aAdd_i64 s _ _ (by omega)
    have hix:∀ s,ixsA 1 s (.slice bl 0 H.bays H.bays false) (.int .i64 (i:Int))=.val (.ptr bl i) s:=fun s=>by rw [ixs_slice _ _ _ _ _ _ _ _ hlt,Nat.zero_add,Nat.mul_one]
    have hca:=hc2 i hlt
    obtain ⟨b1,o1,c1,sz1,k1,k2,k3,k4⟩:=rowInt hBw.at_ (show i<H.bears.length by omega)
    have hge:H.bears.getD i 0=H.bears[i]'(by omega):=by rw [List.getD_eq_getElem?_getD,List.getElem?_eq_getElem (by omega)];rfl
    rw [← hge] at k4
    have hup:∀ y:Bool,(y=true↔(x=true∧f i≤H.bears.getD i 0))→(y=true↔H.bearsUpto f (i+1)):=fun y hy=>by
     rw [hy,hx]
     unfold HallR.bearsUpto
     constructor
     ·rintro ⟨h1,h2⟩ b hb
      by_cases e:b=i
      ·rw [e];exact h2
      ·exact h1 b (by omega)
     ·exact fun h=>⟨fun b hb=>h b (by omega),h i (by omega)⟩
    refine .inl ⟨hlt,?_⟩
    cases x with
    | false =>
     simp (disch:=first|omega|(with_unfolding_all exact rfl)|(simp only[new_n,put_n,new_m];omega)|(refine put_m_le ?_;simp only[new_m];omega)) only [K18l0,K18r3,K18r4,K18r5,u3,u4,u5,u6,u7,u8,u9,u10,u11,u12,Abs.W,reduceIte,Nat.reduceEqDiff,Nat.reduceAdd,decide_true,decide_false,kLoop_def,Nat.reduceSub,List.cons_append,List.nil_append,List.append_nil,List.length_cons,List.length_nil,Env.find_set,Nat.zero_add,q1,q2,q5,q6,okM,lM,e0,ad]
     refine ⟨_,_,rfl,rfl,?_,?_,?_,false,?_,hup false (by simp)⟩
     ·simp only [Env.find_set,q1,reduceIte,Nat.reduceEqDiff]
     ·simp only [Env.find_set,q2,reduceIte,Nat.reduceEqDiff]
     ·simp only [Env.find_set,reduceIte,Nat.reduceEqDiff];rfl
     ·simp only [Env.find_set,reduceIte,Nat.reduceEqDiff]
    | true =>
     by_cases h1:f i≤H.bears.getD i 0
     ·have d1:decide (f i≤H.bears.getD i 0)=true:=decide_eq_true h1
      simp (disch:=first|omega|(with_unfolding_all exact rfl)|(simp only[new_n,put_n,new_m];omega)|(refine put_m_le ?_;simp only[new_m];omega)) only [K18l0,K18r3,K18r4,K18r5,u3,u4,u5,u6,u7,u8,u9,u10,u11,u12,Abs.W,reduceIte,Nat.reduceEqDiff,Nat.reduceAdd,decide_true,decide_false,kLoop_def,Nat.reduceSub,List.cons_append,List.nil_append,List.append_nil,List.length_cons,List.length_nil,Env.find_set,Nat.zero_add,q1,q2,q5,q6,okM,lM,e0,hix,wc,hca,w0,kB,k2,k3,k4,d1,ad]
      refine ⟨_,_,rfl,rfl,?_,?_,?_,true,?_,hup true ⟨fun _=>⟨rfl,h1⟩,fun _=>rfl⟩⟩
      ·simp only [Env.find_set,q1,reduceIte,Nat.reduceEqDiff]
      ·simp only [Env.find_set,q2,reduceIte,Nat.reduceEqDiff]
      ·simp only [Env.find_set,reduceIte,Nat.reduceEqDiff];rfl
      ·simp only [Env.find_set,reduceIte,Nat.reduceEqDiff]
     ·have d1:decide (f i≤H.bears.getD i 0)=false:=decide_eq_false h1
      simp (disch:=first|omega|(with_unfolding_all exact rfl)|(simp only[new_n,put_n,new_m];omega)|(refine put_m_le ?_;simp only[new_m];omega)) only [K18l0,K18r3,K18r4,K18r5,u3,u4,u5,u6,u7,u8,u9,u10,u11,u12,Abs.W,reduceIte,Nat.reduceEqDiff,Nat.reduceAdd,decide_true,decide_false,kLoop_def,Nat.reduceSub,List.cons_append,List.nil_append,List.append_nil,List.length_cons,List.length_nil,Env.find_set,Nat.zero_add,q1,q2,q5,q6,okM,lM,e0,hix,wc,hca,w0,kB,k2,k3,k4,d1,ad]
      refine ⟨_,_,rfl,rfl,?_,?_,?_,false,?_,hup false ⟨fun h=>(by cases h),fun h=>absurd h.2 h1⟩⟩
      ·simp only [Env.find_set,q1,reduceIte,Nat.reduceEqDiff]
      ·simp only [Env.find_set,q2,reduceIte,Nat.reduceEqDiff]
      ·simp only [Env.find_set,reduceIte,Nat.reduceEqDiff];rfl
      ·simp only [Env.find_set,reduceIte,Nat.reduceEqDiff]
   ·obtain rfl:i=H.bays:=by omega
    have e0:decide ((H.bays:Int)<(H.bays:Int))=false:=by simp
    have hxi:x=is:=by
     cases x<;>cases is
     ·rfl
     ·exact absurd (hx.mpr (his.mp rfl)) (by simp)
     ·exact absurd (his.mpr (hx.mp rfl)) (by simp)
     ·rfl
    refine .inr ⟨.exit 0,L.set 10 (.bool false),t,by simp,?_,rfl,by rw [← hxi];simp only [Env.find_set,q5,reduceIte,Nat.reduceEqDiff],rfl⟩
    simp (disch:=first|omega|(with_unfolding_all exact rfl)|(simp only[new_n,put_n,new_m];omega)|(refine put_m_le ?_;simp only[new_m];omega)) only [K18l0,K18r3,Abs.W,reduceIte,Nat.reduceEqDiff,Nat.reduceAdd,decide_true,decide_false,kLoop_def,Nat.reduceSub,List.cons_append,List.nil_append,List.append_nil,List.length_cons,List.length_nil,Env.find_set,q1,q6,okM,lM,e0])
 simp (disch:=first|omega|(with_unfolding_all exact rfl)|(simp only[new_n,put_n,new_m];omega)|(refine put_m_le ?_;simp only[new_m];omega)) only [K18r6,res18,Abs.W,reduceIte,Nat.reduceEqDiff,Nat.reduceAdd,decide_true,decide_false,kLoop_def,Nat.reduceSub,List.cons_append,List.nil_append,List.append_nil,List.length_cons,List.length_nil,Env.find_set,q5]
 refine ⟨_,rfl,?_⟩
 omega
end Go.Proofs.Ytoklbkgcclkejaa.walk
set_option maxRecDepth 10000
namespace Go.Proofs.Ytoklbkgcclkejaa.walk
open Go.Abs Go.Proofs.Ytoklbkgcclkejaa.code
noncomputable abbrev awd (n:Nat):CallF:=knows 19 (call Try.prog X n)
noncomputable def vtrRest:K:=(kSeq (kRegion K3r2 [4]) (kSeq (kRegion K3r3 [5]) (kSeq (kRegion K3r4 [6,7]) (kSeq (kRegion K3r5 [8,9]) (kSeq (kSeq (kRegion K3r6 [46]) (kCond (.tmp 46) (kSeq (kRegion K3r7 [2]) kRet) kSkip)) (kSeq (kSeq (kRegion K3r8 [10]) (kBlock 0 (kLoop K3l1))) (kSeq (kRegion K3r20 [2]) kRet)))))))
theorem verdict_sure {H:HallR} {l:List PutR} (h:H.verdict l=1):∀ b,b<H.bays→tot (H.highs l) b≤H.bears.getD b 0:=fun b hb=>by
 unfold HallR.verdict at h
 split at h
 ·cases h
 ·split at h
  ·cases h
  ·rename_i h2
   exact Int.not_lt.mp fun h3=>h2 ⟨b,hb,h3⟩
theorem verdict_never {H:HallR} {l:List PutR} (h:H.verdict l=2):∃ b,b<H.bays∧H.bears.getD b 0<tot (H.lows l) b:=by
 unfold HallR.verdict at h
 split at h
 ·assumption
 ·split at h<;>cases h
theorem truly_sum {H:HallR} {l:List PutR} {T:List Int} (h:Truly H l T) (b:Nat):tot (H.lows l) b≤tot (H.trues l T) b∧tot (H.trues l T) b≤tot (H.highs l) b:=true_between l T b h.len h.is
theorem bears_dec (H:HallR) (f:Nat→Int):∃ is:Bool,is=true↔H.bearsUpto f H.bays:=by
 by_cases h:H.bearsUpto f H.bays
 ·exact ⟨true,by simp [h]⟩
 ·exact ⟨false,by simp [h]⟩
theorem vtr_round (n:Nat) (hn:20≤n) (cx:Ctx) {s t:St} {d p4 bx kk:Nat} {H:HallR} {vW vS vB vK v:AV} {l:List PutR} {L:Env} (ok:H.Ok) (hv:H.Valid l) (hl:∀ q ∈ l,q.In H) (hl24:l.length≤24) (hdn:d<s.n) (hdm:d≤s.m) (hsm:s.m≤far) (S:Stir d s t kk) (D:Die d t.h) (hH:HallAt (fun c=>c≠d) s.h s.n H vW vS vB vK) (hR:Sl (fun c=>c≠d) s.h s.n 3 (l.map PutR.row) v) (g4:s.h.get p4=some (.cells (hallV H vW vS vB vK) (tag 30))) (hp4:p4<s.n∧p4≠d) (gx:s.h.get bx=some (.cells (H.loadRows l).flatten 0)) (hbx:bx<s.n∧bx≠d) (hs:s.n+kk+100000≤far) {i:Nat} (hi:i<6)
  (q3:L.find 3=.ptr d 0) (q4:L.find 4=.ptr p4 0) (q5:L.find 5=v) (q6:L.find 6=.slice bx 0 H.bays H.bays false) (q8:L.find 8=.int .i64 (H.verdict l)) (q10:L.find 10=.int .i64 (i:Int)) :
  ∃ L1 t1,K3l1 (awd n) cx L [] t=.done .norm L1 [] t1∧Stir d s t1 (kk+1000)∧Die d t1.h∧L1.find 3=.ptr d 0∧L1.find 4=.ptr p4 0∧L1.find 5=v∧L1.find 6=.slice bx 0 H.bays H.bays false∧L1.find 8=.int .i64 (H.verdict l)∧L1.find 10=.int .i64 ((i+1:Nat):Int):=by
 have hf:far=1000000000:=rfl
 have knT:∀ args s,awd n (.fn 16) args s=call Try.prog X n (.fn 16) args s:=fun _ _=>rfl
 have knC:∀ args s,awd n (.fn 15) args s=call Try.prog X n (.fn 15) args s:=fun _ _=>rfl
 have knH:∀ args s,awd n (.fn 17) args s=call Try.prog X n (.fn 17) args s:=fun _ _=>rfl
 have knB:∀ args s,awd n (.fn 18) args s=call Try.prog X n (.fn 18) args s:=fun _ _=>rfl
 have tn:=S.n
 have tl:=S.le
 have tm:=S.m hdm
 have tml:=S.mle
 have hb24:=bays_le ok.toSize
 have kv:=hR.okA
 have t4:=(S.same p4 hp4.1 hp4.2).trans g4
 have hHt:=hH.move (h':=t.h) (n':=t.n) (no':=fun c=>c≠d) (fun c h1 h2=>⟨S.same c h1 h2,h2⟩) tn
 have hRt:=hR.move (h':=t.h) (n':=t.n) (no':=fun c=>c≠d) (fun c h1 h2=>⟨S.same c h1 h2,h2⟩) tn
 have e0:decide ((i:Int)<6)=true:=decide_eq_true (by omega)
 have ad:∀ s,aAdd s .i64 (i:Int) 1=.val (.int .i64 ((i:Int)+1)) s:=fun s=>aAdd_i64 s _ _ (by omega)
 simp (disch:=first|omega|(with_unfolding_all exact rfl)|(simp only[new_n,put_n,new_m];omega)|(refine put_m_le ?_;simp only[new_m];omega)) only [K3l1,K3r9,K3r10,Abs.W,reduceIte,Nat.reduceEqDiff,Nat.reduceAdd,decide_true,decide_false,kLoop_def,Nat.reduceSub,List.cons_append,List.nil_append,List.append_nil,List.length_cons,List.length_nil,Env.find_set,Nat.zero_add,q3,q4,q5,q10,e0,t4,kv,knT]
 generalize hc1:call _ _ _ (.fn 16) _ _=r1
 obtain ⟨T,vt,t1,rfl,st1,d1,hT,hQ⟩:=trueLoads_ex hc1 (by omega) D (by show d<t.n;omega) ok (by simp) hHt.k hRt hl hl24 (by show t.n+3000≤far;omega)
 have n1:t.n≤t1.n:=st1.n
 have k1:t1.n≤t.n+200:=st1.le
 have m1:d≤t1.m:=st1.m (by show d≤far;omega)
 have g1:∀ c,c<t.n→c≠d→t1.h.get c=t.h.get c:=fun c hc hcd=>st1.same c hc hcd
 have hQ':Sl (fun c=>t.n≤c) t1.h t1.n 1 (intRows T) vt:=hQ
 have kt:=hQ'.okA
 have a4:=(g1 p4 (by omega) hp4.2).trans t4
 simp (disch:=first|omega|(with_unfolding_all exact rfl)|(simp only[new_n,put_n,new_m];omega)|(refine put_m_le ?_;simp only[new_m];omega)) only [thenT_turn,Abs.W,reduceIte,Nat.reduceEqDiff,Nat.reduceAdd,decide_true,decide_false,kLoop_def,Nat.reduceSub,List.cons_append,List.nil_append,List.append_nil,List.length_cons,List.length_nil,Env.find_set,find_cons,knC,Nat.zero_add]
 obtain ⟨ya,hya⟩:∃ ya:St,ya=⟨t1.h,t1.n,minN t.m t1.m⟩:=⟨_,rfl⟩
 have yan:ya.n=t1.n:=by rw [hya]
 have yah:ya.h=t1.h:=by rw [hya]
 have yam:ya.m=min t.m t1.m:=by rw [hya];simp only [minN_eq]
 rw [← hya]
 generalize hc2:call _ _ _ (.fn 15) _ _=r2
 have hRa:Sl (fun c=>c≠d) ya.h ya.n 3 (l.map PutR.row) v:=hRt.move (fun c h1 h2=>⟨by rw [yah];exact g1 c h1 h2,h2⟩) (by omega)
 have hQa:Sl (fun c=>c≠d) ya.h ya.n 1 (intRows T) vt:=hQ'.move (fun c h1 h2=>⟨by rw [yah],by have h3:t.n≤c:=h2;omega⟩) (by omega)
 obtain ⟨t2,bl,rfl,st2,hbl1,hbl2,hbl3⟩:=carried_ex hc2 (by omega) ok hRa hQa hT.len (truly_bound ok hT hl) (may_in hv) hl24 (by omega)
 have n2:=st2.n
 have k2:=st2.le
 have m2:=st2.m
 have g2:∀ c,c<t1.n→t2.h.get c=t1.h.get c:=fun c hc=>(st2.same c (by omega)).trans (by rw [yah])
 have okM:∀ t,okA (.val (.slice bl 0 H.bays H.bays false) t)=.val (.slice bl 0 H.bays H.bays false) t:=fun _=>rfl
 have okX:∀ t,okA (.val (.slice bx 0 H.bays H.bays false) t)=.val (.slice bx 0 H.bays H.bays false) t:=fun _=>rfl
 have lX:∀ s,lenSlA s (.slice bx 0 H.bays H.bays false)=.val (.int .i64 (H.bays:Int)) s:=fun _=>rfl
 simp (disch:=first|omega|(with_unfolding_all exact rfl)|(simp only[new_n,put_n,new_m];omega)|(refine put_m_le ?_;simp only[new_m];omega)) only [Abs.W,reduceIte,Nat.reduceEqDiff,Nat.reduceAdd,decide_true,decide_false,kLoop_def,Nat.reduceSub,List.cons_append,List.nil_append,List.append_nil,List.length_cons,List.length_nil,Env.find_set,find_cons,okM,Nat.zero_add]
 rw [endT_kept (l:=[4]) (s':=t1) (by simp only [keptAll_cons,keptAll_nil,find_cons,Env.find_set,q4,keptV_ptr,t4,a4,sameO_cells,reduceIte,Nat.reduceEqDiff,Bool.and_self])]
 rw [endO_ok _ (endOk_nil _)]
 have S2:Stir d s t2 (kk+300):=⟨fun c hc hcd=>(g2 c (by omega)).trans ((g1 c (by omega) hcd).trans (S.same c hc hcd)),by omega,by omega,fun _=>by omega,by omega⟩
 have D2:Die d t2.h:=d1.keep (g2 d (by omega))
 have x2:=(S2.same bx hbx.1 hbx.2).trans gx
 have b4:=(S2.same p4 hp4.1 hp4.2).trans g4
 have hH2:=hH.move (h':=t2.h) (n':=t2.n) (no':=fun c=>c≠d) (fun c h1 h2=>⟨S2.same c h1 h2,h2⟩) S2.n
 simp (disch:=first|omega|(with_unfolding_all exact rfl)|(simp only[new_n,put_n,new_m];omega)|(refine put_m_le ?_;simp only[new_m];omega)) only [K3r11,Abs.W,reduceIte,Nat.reduceEqDiff,Nat.reduceAdd,decide_true,decide_false,kLoop_def,Nat.reduceSub,List.cons_append,List.nil_append,List.append_nil,List.length_cons,List.length_nil,Env.find_set,find_cons]
 generalize hL0:Env.set 12 _ _=L0
 have f4:L0.find 4=.ptr p4 0:=by rw [← hL0];simp only [Env.find_set,q4,reduceIte,Nat.reduceEqDiff]
 have f6:L0.find 6=.slice bx 0 H.bays H.bays false:=by rw [← hL0];simp only [Env.find_set,q6,reduceIte,Nat.reduceEqDiff]
 have f11:L0.find 11=.slice bl 0 H.bays H.bays false:=by rw [← hL0];simp only [Env.find_set,reduceIte,Nat.reduceEqDiff]
 have f12:L0.find 12=.int .i64 0:=by rw [← hL0];simp only [Env.find_set,reduceIte,Nat.reduceEqDiff]
 have f8:L0.find 8=.int .i64 (H.verdict l):=by rw [← hL0];simp only [Env.find_set,q8,reduceIte,Nat.reduceEqDiff]
 have f3:L0.find 3=.ptr d 0:=by rw [← hL0];simp only [Env.find_set,q3,reduceIte,Nat.reduceEqDiff]
 have f5:L0.find 5=v:=by rw [← hL0];simp only [Env.find_set,q5,reduceIte,Nat.reduceEqDiff]
 have f10:L0.find 10=.int .i64 (i:Int):=by rw [← hL0];simp only [Env.find_set,q10,reduceIte,Nat.reduceEqDiff]
 clear hL0
 generalize hlp:loopN _ rounds _ _ _ _ _=rl
 obtain ⟨eE,L1,t3,rfl,rfl,rfl,hL1⟩:=loop_of hlp (fun j L' t'=>t'=t2∧(∀ c,c<12→L'.find c=L0.find c)∧L'.find 12=.int .i64 (j:Int))
  (fun e L' t'=>e=.exit 2∧t'=t2∧∀ c,c<12→L'.find c=L0.find c) H.bays (by unfold rounds;omega)
  ⟨rfl,fun _ _=>rfl,f12⟩
  (fun j L' t' hj ⟨ht,hc,q12⟩=>by
   subst ht
   have h6:=(hc 6 (by omega)).trans f6
   have h11:=(hc 11 (by omega)).trans f11
   by_cases hlt:j<H.bays
   ·have e0:decide ((j:Int)<(H.bays:Int))=true:=decide_eq_true (by omega)
    have ad:∀ s,aAdd s .i64 (j:Int) 1=.val (.int .i64 ((j:Int)+1)) s:=fun s=>aAdd_i64 s _ _ (by omega)
    have hix:∀ s,ixsA 2 s (.slice bx 0 H.bays H.bays false) (.int .i64 (j:Int))=.val (.ptr bx (j * 2)) s:=fun s=>by rw [ixs_slice _ _ _ _ _ _ _ _ hlt,Nat.zero_add]
    have hcut:cut (j * 2) 2 (H.loadRows l).flatten=some [.int .i64 (tot (H.lows l) j),.int .i64 (tot (H.highs l) j)]:=by
     rw [flatten_cut (loadRows_wide H _) (by rw [loadRows_len];exact hlt),loadRows_at H _ hlt];rfl
    have hil:∀ s,ixsA 1 s (.slice bl 0 H.bays H.bays false) (.int .i64 (j:Int))=.val (.ptr bl j) s:=fun s=>by rw [ixs_slice _ _ _ _ _ _ _ _ hlt,Nat.zero_add,Nat.mul_one]
    have hca:=carC_at H l T hlt
    have hsum:=truly_sum hT j
    have eh:call Try.prog X n (.fn 17) [.agg [.int .i64 (tot (H.lows l) j),.int .i64 (tot (H.highs l) j)],.int .i64 (tot (H.trues l T) j)] t'=.val (.bool true) t':=by
     have:=holds_ok n (by omega) (tot (H.lows l) j) (tot (H.highs l) j) (tot (H.trues l T) j) t' (by omega)
     rwa [decide_eq_true hsum] at this
    refine .inl ⟨hlt,_,t',by
     simp (disch:=first|omega|(with_unfolding_all exact rfl)|(simp only[new_n,put_n,new_m];omega)|(refine put_m_le ?_;simp only[new_m];omega)) only [K3l0,K3r12,K3r13,K3r15,Abs.W,reduceIte,Nat.reduceEqDiff,Nat.reduceAdd,decide_true,decide_false,kLoop_def,Nat.reduceSub,List.cons_append,List.nil_append,List.append_nil,List.length_cons,List.length_nil,Env.find_set,Nat.zero_add,h6,h11,q12,okX,okM,lX,e0,hix,x2,hcut,hil,hbl3,hca,knH,eh,ad]
     rfl,rfl,fun c hcc=>?_,?_⟩
    ·simp only [Env.find_set]
     repeat rw [if_neg (by omega)]
     exact hc c hcc
    ·simp only [Env.find_set,reduceIte,Nat.reduceEqDiff];rfl
   ·obtain rfl:j=H.bays:=by omega
    have e0:decide ((H.bays:Int)<(H.bays:Int))=false:=by simp
    refine .inr ⟨.exit 2,L'.set 61 (.bool false),t',by simp,?_,rfl,rfl,fun c hcc=>?_⟩
    ·simp (disch:=first|omega|(with_unfolding_all exact rfl)|(simp only[new_n,put_n,new_m];omega)|(refine put_m_le ?_;simp only[new_m];omega)) only [K3l0,K3r12,Abs.W,reduceIte,Nat.reduceEqDiff,Nat.reduceAdd,decide_true,decide_false,kLoop_def,Nat.reduceSub,List.cons_append,List.nil_append,List.append_nil,List.length_cons,List.length_nil,Env.find_set,h6,q12,okX,lX,e0]
    ·simp only [Env.find_set]
     rw [if_neg (by omega)]
     exact hc c hcc)
 have m3:=(hL1 3 (by omega)).trans f3
 have m4:=(hL1 4 (by omega)).trans f4
 have m5:=(hL1 5 (by omega)).trans f5
 have m6:=(hL1 6 (by omega)).trans f6
 have m8:=(hL1 8 (by omega)).trans f8
 have m10:=(hL1 10 (by omega)).trans f10
 have m11:=(hL1 11 (by omega)).trans f11
 obtain ⟨is,his⟩:=bears_dec H (fun b=>tot (H.trues l T) b)
 have ebo:call Try.prog X n (.fn 18) [.agg (hallV H vW vS vB vK),.slice bl 0 H.bays H.bays false] t3=.val (.bool is) t3:=borne_ok n (by omega) ok hH2.b (by omega) ⟨_,hbl3,fun b hb=>carC_at H l T hb⟩ is his (by omega)
 have u4:=fun cl L s=>congrFun (congrFun (congrFun K3r17s4.eq_1 cl) L) s
 have u5:=fun cl L s=>congrFun (congrFun (congrFun K3r17s5.eq_1 cl) L) s
 have u8:=fun cl L s=>congrFun (congrFun (congrFun K3r17s8.eq_1 cl) L) s
 have u9:=fun cl L s=>congrFun (congrFun (congrFun K3r17s9.eq_1 cl) L) s
 have u10:=fun cl L s=>congrFun (congrFun (congrFun K3r17s10.eq_1 cl) L) s
 have u11:=fun cl L s=>congrFun (congrFun (congrFun K3r17s11.eq_1 cl) L) s
 have u12:=fun cl L s=>congrFun (congrFun (congrFun K3r17s12.eq_1 cl) L) s
 have hfin:∃ M:Env,(∀ c,c<12→M.find c=L1.find c)∧regR [89] (L1.set 13 (.bool is)) [] (K3r17 (awd n) (L1.set 13 (.bool is)) t3)=.done .norm (M.set 89 (.bool false)) [] t3:=by
  have k13:(L1.set 13 (.bool is)).find 13=.bool is:=(by simp only [Env.find_set,reduceIte,Nat.reduceEqDiff])
  have k8:(L1.set 13 (.bool is)).find 8=.int .i64 (H.verdict l):=by simp only [Env.find_set,m8,reduceIte,Nat.reduceEqDiff]
  have hcs:∀ c,c<12→(L1.set 13 (.bool is)).find c=L1.find c:=fun c hc=>by simp only [Env.find_set];rw [if_neg (by omega)]
  generalize L1.set 13 (.bool is)=M0 at k13 k8 hcs ⊢
  refine ⟨M0,hcs,?_⟩
  by_cases h1:H.verdict l=1
  ·have hb:=verdict_sure h1
   have hit:is=true:=his.mpr fun b hb'=>Int.le_trans (truly_sum hT b).2 (hb b hb')
   subst hit
   rw [h1] at k8
   have e1:decide ((1:Int)=1)=true:=rfl
   have e2:decide ((1:Int)=2)=false:=rfl
   simp (disch:=first|omega|(with_unfolding_all exact rfl)|(simp only[new_n,put_n,new_m];omega)|(refine put_m_le ?_;simp only[new_m];omega)) only [K3r17,u4,u5,u8,u9,u10,u11,u12,Abs.W,reduceIte,Nat.reduceEqDiff,Nat.reduceAdd,decide_true,decide_false,kLoop_def,Nat.reduceSub,List.cons_append,List.nil_append,List.append_nil,List.length_cons,List.length_nil,Env.find_set,find_cons,k13,k8,e1,e2]
  ·have e1:decide (H.verdict l=1)=false:=decide_eq_false h1
   by_cases h2:H.verdict l=2
   ·obtain ⟨b,hb,hb2⟩:=verdict_never h2
    have hif:is=false:=by
     cases is with
     | false=>rfl
     | true =>
      have h3:tot (H.trues l T) b≤H.bears.getD b 0:=his.mp rfl b hb
      have:=(truly_sum hT b).1
      omega
    subst hif
    rw [h2] at k8 e1
    have e2:decide ((2:Int)=2)=true:=rfl
    simp (disch:=first|omega|(with_unfolding_all exact rfl)|(simp only[new_n,put_n,new_m];omega)|(refine put_m_le ?_;simp only[new_m];omega)) only [K3r17,u4,u5,u8,u9,u10,u11,u12,Abs.W,reduceIte,Nat.reduceEqDiff,Nat.reduceAdd,decide_true,decide_false,kLoop_def,Nat.reduceSub,List.cons_append,List.nil_append,List.append_nil,List.length_cons,List.length_nil,Env.find_set,find_cons,k13,k8,e1,e2]
   ·have e2:decide (H.verdict l=2)=false:=decide_eq_false h2
    simp (disch:=first|omega|(with_unfolding_all exact rfl)|(simp only[new_n,put_n,new_m];omega)|(refine put_m_le ?_;simp only[new_m];omega)) only [K3r17,u4,u5,u8,u9,u10,u11,u12,Abs.W,reduceIte,Nat.reduceEqDiff,Nat.reduceAdd,decide_true,decide_false,kLoop_def,Nat.reduceSub,List.cons_append,List.nil_append,List.append_nil,List.length_cons,List.length_nil,Env.find_set,find_cons,k13,k8,e1,e2]
 obtain ⟨M,hMc,hM⟩:=hfin
 have z10:=(hMc 10 (by omega)).trans m10
 simp (disch:=first|omega|(with_unfolding_all exact rfl)|(simp only[new_n,put_n,new_m];omega)|(refine put_m_le ?_;simp only[new_m];omega)) only [K3r16,Abs.W,reduceIte,Nat.reduceEqDiff,Nat.reduceAdd,decide_true,decide_false,kLoop_def,Nat.reduceSub,List.cons_append,List.nil_append,List.append_nil,List.length_cons,List.length_nil,Env.find_set,find_cons,m4,m11,b4,okM,knB,ebo,Nat.zero_add]
 simp (disch:=first|omega|(with_unfolding_all exact rfl)|(simp only[new_n,put_n,new_m];omega)|(refine put_m_le ?_;simp only[new_m];omega)) only [hM,K3r19,Abs.W,reduceIte,Nat.reduceEqDiff,Nat.reduceAdd,decide_true,decide_false,kLoop_def,Nat.reduceSub,List.cons_append,List.nil_append,List.append_nil,List.length_cons,List.length_nil,Env.find_set,find_cons,z10,ad]
 refine ⟨_,_,rfl,S2.mono (by omega),D2,?_,?_,?_,?_,?_,?_⟩
 ·simp only [Env.find_set,hMc 3 (by omega),m3,reduceIte,Nat.reduceEqDiff]
 ·simp only [Env.find_set,hMc 4 (by omega),m4,reduceIte,Nat.reduceEqDiff]
 ·simp only [Env.find_set,hMc 5 (by omega),m5,reduceIte,Nat.reduceEqDiff]
 ·simp only [Env.find_set,hMc 6 (by omega),m6,reduceIte,Nat.reduceEqDiff]
 ·simp only [Env.find_set,hMc 8 (by omega),m8,reduceIte,Nat.reduceEqDiff]
 ·simp only [Env.find_set,reduceIte,Nat.reduceEqDiff];rfl
theorem vtr_body (n:Nat) (hn:20≤n) (cx:Ctx) (s:St) (d:Nat) (hd:Die d s.h) (hdn:d<s.n) (hs:s.n+900000000≤far) (hm:s.m=far) :
  ∃ s',finA Try.prog Try.f3 (vtrRest (awd n) cx (.cons 3 (.ptr d 0) .nil) [] s)=.val (.bool true) s':=by
 have hf:far=1000000000:=rfl
 have knH:∀ args s,awd n (.fn 11) args s=call Try.prog X n (.fn 11) args s:=fun _ _=>rfl
 have knL:∀ args s,awd n (.fn 12) args s=call Try.prog X n (.fn 12) args s:=fun _ _=>rfl
 have knO:∀ args s,awd n (.fn 13) args s=call Try.prog X n (.fn 13) args s:=fun _ _=>rfl
 have knB:∀ args s,awd n (.fn 14) args s=call Try.prog X n (.fn 14) args s:=fun _ _=>rfl
 have knA:∀ s,awd n (.fn 19) [] s=.val (.bool true) s:=fun _=>rfl
 have ex0:∀ (a b:AV) (s:St),extA 0 s (.tup [a,b])=.val a s:=fun _ _ _=>rfl
 have ex1:∀ (a b:AV) (s:St),extA 1 s (.tup [a,b])=.val b s:=fun _ _ _=>rfl
 have okt:∀ (a b:AV) (s:St),okA (.val (.tup [a,b]) s)=.val (.tup [a,b]) s:=fun _ _ _=>rfl
 have w4:=fun cl L s=>congrFun (congrFun (congrFun K3r6s4.eq_1 cl) L) s
 have w5:=fun cl L s=>congrFun (congrFun (congrFun K3r6s5.eq_1 cl) L) s
 have w8:=fun cl L s=>congrFun (congrFun (congrFun K3r6s8.eq_1 cl) L) s
 have w9:=fun cl L s=>congrFun (congrFun (congrFun K3r6s9.eq_1 cl) L) s
 have w10:=fun cl L s=>congrFun (congrFun (congrFun K3r6s10.eq_1 cl) L) s
 have w11:=fun cl L s=>congrFun (congrFun (congrFun K3r6s11.eq_1 cl) L) s
 have w12:=fun cl L s=>congrFun (congrFun (congrFun K3r6s12.eq_1 cl) L) s
 have w13:=fun cl L s=>congrFun (congrFun (congrFun K3r6s13.eq_1 cl) L) s
 unfold vtrRest
 simp (disch:=first|omega|(with_unfolding_all exact rfl)|(simp only[new_n,put_n,new_m];omega)|(refine put_m_le ?_;simp only[new_m];omega)) only [K3r2,Abs.W,reduceIte,Nat.reduceEqDiff,Nat.reduceAdd,decide_true,decide_false,kLoop_def,Nat.reduceSub,List.cons_append,List.nil_append,List.append_nil,List.length_cons,List.length_nil,Env.find_set,find_cons,knH]
 generalize hc1:call _ _ _ (.fn 11) _ _=r1
 obtain ⟨H,vW,vS,vB,vK,t1,rfl,st1,d1,ok,hH,_⟩:=hallOf_ex (W:=5) (D:=3) (K:=3) hc1 (by omega) hd hdn (by omega) (by omega) (by omega) (by omega)
 have n1:=st1.n
 have k1:=st1.le
 have m1:=st1.m (by omega)
 have scB:=hH.scal
 have kW:=hH.w.okA
 have kS:=hH.s.okA
 have kB:=hH.b.okA
 have kK:=hH.k.okA
 have okh:∀ t,okA (.val (.agg (hallV H vW vS vB vK)) t)=.val (.agg (hallV H vW vS vB vK)) t:=fun _=>rfl
 obtain ⟨y,hy⟩:∃ y:St,y=(t1.new (.cells [.int .i64 0,.int .i64 0,.nilslice,.nilslice,.int .i64 0,.int .i64 0,.nilslice,.nilslice] (tag 30))).put t1.n (.cells (hallV H vW vS vB vK) (tag 30)):=⟨_,rfl⟩
 have sty:storeA 8 (t1.new (.cells [.int .i64 0,.int .i64 0,.nilslice,.nilslice,.int .i64 0,.int .i64 0,.nilslice,.nilslice] (tag 30))) (.agg (hallV H vW vS vB vK)) (.ptr t1.n 0)=.val .undef y:=by
  rw [hy];exact store_all _ 8 _ _ _ _ (get_new_eq _ _ _ rfl (by omega)) rfl rfl scB
 have yn:y.n=t1.n+1:=by rw [hy];rfl
 have ym:y.m=min t1.m t1.n:=by rw [hy];simp only [St.put,minN_eq,new_m]
 have yg:∀ c,c<t1.n→y.h.get c=t1.h.get c:=fun c hc=>by rw [hy,get_put_ne' _ _ _ _ (by omega),get_new_ne _ _ _ (by omega)]
 have y4:y.h.get t1.n=some (.cells (hallV H vW vS vB vK) (tag 30)):=by rw [hy];exact get_put_eq _ _ _ _ rfl (by omega)
 have dy:Die d y.h:=d1.keep (yg d (by omega))
 have hHy:HallAt (fun c=>c≠d) y.h y.n H vW vS vB vK:=hH.move (fun c h1 h2=>⟨yg c h1,by have h3:s.n≤c:=h2;omega⟩) (by omega)
 clear hy
 have m1l:=st1.mle
 simp (disch:=first|omega|(with_unfolding_all exact rfl)|(simp only[new_n,put_n,new_m];omega)|(refine put_m_le ?_;simp only[new_m];omega)) only [sty,K3r3,Abs.W,reduceIte,Nat.reduceEqDiff,Nat.reduceAdd,decide_true,decide_false,kLoop_def,Nat.reduceSub,List.cons_append,List.nil_append,List.append_nil,List.length_cons,List.length_nil,Env.find_set,find_cons,y4,okh,knL,Nat.zero_add]
 generalize hc2:call _ _ _ (.fn 12) _ _=r2
 obtain ⟨l,v,t2,rfl,st2,d2,hv,hin,hl8,hR⟩:=layoutOf_ex (most:=8) hc2 (by omega) dy (by omega) ok hHy (by omega) (by omega)
 have n2:=st2.n
 have k2:=st2.le
 have m2:=st2.m (by omega)
 have m2l:=st2.mle
 have kv:=hR.okA
 have z4:=(st2.same t1.n (by omega) (by omega)).trans y4
 have hH2:HallAt (fun c=>c≠d) t2.h t2.n H vW vS vB vK:=hHy.move (fun c h1 h2=>⟨st2.same c h1 h2,h2⟩) n2
 have hR2:Sl (fun c=>c≠d) t2.h t2.n 3 (l.map PutR.row) v:=hR.move (fun c h1 h2=>⟨rfl,by have h3:y.n≤c:=h2;omega⟩) (Nat.le_refl _)
 simp (disch:=first|omega|(with_unfolding_all exact rfl)|(simp only[new_n,put_n,new_m];omega)|(refine put_m_le ?_;simp only[new_m];omega)) only [K3r4,Abs.W,reduceIte,Nat.reduceEqDiff,Nat.reduceAdd,decide_true,decide_false,kLoop_def,Nat.reduceSub,List.cons_append,List.nil_append,List.append_nil,List.length_cons,List.length_nil,Env.find_set,find_cons,z4,kv,okh,knO,Nat.zero_add]
 generalize hc3:call _ _ _ (.fn 13) _ _=r3
 obtain ⟨t3,bx,rfl,st3,hb1,hb2,hb3⟩:=vaultLoads_ex hc3 (by omega) ok hH2 hR2 hin (by omega) hv (by omega)
 have n3:=st3.n
 have k3:=st3.le
 have m3:=st3.m
 have z43:=(st3.same t1.n (by omega)).trans z4
 have hH3:=hH2.grow st3.same n3
 have hR3:=hR2.grow st3.same n3
 have d3:Die d t3.h:=d2.keep (st3.same d (by omega))
 have okX:∀ t,okA (.val (.slice bx 0 H.bays H.bays false) t)=.val (.slice bx 0 H.bays H.bays false) t:=fun _=>rfl
 have lX:∀ s,lenSlA s (.slice bx 0 H.bays H.bays false)=.val (.int .i64 (H.bays:Int)) s:=fun _=>rfl
 have lB:=rowLen hH3.b.at_
 have ebe:=vaultBears_ok n (by omega) ok hH3 hR3 hin (by omega) hv (by omega)
 have hbl:=ok.bl
 have z0:decide ((0:Int)=0)=true:=rfl
 have d5:decide ((H.bays:Int)=(H.bears.length:Int))=true:=decide_eq_true (by omega)
 simp (disch:=first|omega|(with_unfolding_all exact rfl)|(simp only[new_n,put_n,new_m];omega)|(refine put_m_le ?_;simp only[new_m];omega)) only [K3r5,K3r6,w4,w5,w8,w9,w10,w11,w12,w13,Abs.W,reduceIte,Nat.reduceEqDiff,Nat.reduceAdd,decide_true,decide_false,kLoop_def,Nat.reduceSub,List.cons_append,List.nil_append,List.append_nil,List.length_cons,List.length_nil,Env.find_set,find_cons,ex0,ex1,okt,okX,lX,lB,kB,z43,kv,okh,knB,ebe,z0,d5,Nat.zero_add]
 simp (disch:=first|omega|(with_unfolding_all exact rfl)|(simp only[new_n,put_n,new_m];omega)|(refine put_m_le ?_;simp only[new_m];omega)) only [K3r8,Abs.W,reduceIte,Nat.reduceEqDiff,Nat.reduceAdd,decide_true,decide_false,kLoop_def,Nat.reduceSub,List.cons_append,List.nil_append,List.append_nil,List.length_cons,List.length_nil,Env.find_set,find_cons]
 generalize hlp:loopN _ rounds _ _ _ _ _=rl
 obtain ⟨eE,L1,t4,rfl,rfl⟩:=loop_of hlp (fun i L' t'=>Stir d t3 t' (1000 * i)∧Die d t'.h∧L'.find 3=.ptr d 0∧L'.find 4=.ptr t1.n 0∧L'.find 5=v∧L'.find 6=.slice bx 0 H.bays H.bays false∧L'.find 8=.int .i64 (H.verdict l)∧L'.find 10=.int .i64 (i:Int))
  (fun e L' t'=>e=.exit 0) 6 (by unfold rounds;omega)
  ⟨Stir.refl d t3,d3,(by simp only [find_cons,Env.find_set,reduceIte,Nat.reduceEqDiff]),(by simp only [find_cons,Env.find_set,reduceIte,Nat.reduceEqDiff]),(by simp only [find_cons,Env.find_set,reduceIte,Nat.reduceEqDiff]),(by simp only [find_cons,Env.find_set,reduceIte,Nat.reduceEqDiff]),(by simp only [find_cons,Env.find_set,reduceIte,Nat.reduceEqDiff]),(by simp only [find_cons,Env.find_set,reduceIte,Nat.reduceEqDiff];rfl)⟩
  (fun i L' t' hi ⟨S,D,q3,q4,q5,q6,q8,q10⟩=>by
   by_cases hlt:i<6
   ·obtain ⟨L1,t1',k1,k2,k3,k4,k5,k6,k7,k8,k9⟩:=vtr_round n hn cx ok hv hin (by omega) (by omega) (by omega) (by omega) S D hH3 hR3 z43 ⟨by omega,by omega⟩ hb3 ⟨hb2,by omega⟩ (by omega) hlt q3 q4 q5 q6 q8 q10
    exact .inl ⟨hlt,L1,t1',k1,k2,k3,k4,k5,k6,k7,k8,k9⟩
   ·obtain rfl:i=6:=by omega
    have e0:decide (((6:Nat):Int)<6)=false:=rfl
    refine .inr ⟨.exit 0,L'.set 48 (.bool false),t',by simp,?_,rfl⟩
    simp (disch:=first|omega|(with_unfolding_all exact rfl)|(simp only[new_n,put_n,new_m];omega)|(refine put_m_le ?_;simp only[new_m];omega)) only [K3l1,K3r9,Abs.W,reduceIte,Nat.reduceEqDiff,Nat.reduceAdd,decide_true,decide_false,kLoop_def,Nat.reduceSub,List.cons_append,List.nil_append,List.append_nil,List.length_cons,List.length_nil,Env.find_set,q10,e0])
 simp (disch:=first|omega|(with_unfolding_all exact rfl)|(simp only[new_n,put_n,new_m];omega)|(refine put_m_le ?_;simp only[new_m];omega)) only [K3r20,res3,Abs.W,reduceIte,Nat.reduceEqDiff,Nat.reduceAdd,decide_true,decide_false,kLoop_def,Nat.reduceSub,List.cons_append,List.nil_append,List.append_nil,List.length_cons,List.length_nil,Env.find_set,knA]
 exact ⟨_,rfl⟩
end Go.Proofs.Ytoklbkgcclkejaa.walk
namespace Go.Proofs.Ytoklbkgcclkejaa.mdie
open Go.RowKit
def Die (b:Nat) (w:World):Prop:=∃ s,w.heap[b]? = some (.cells #[.int .u64 s] 74 (0,0))
theorem Die.old {b:Nat} {w:World} (h:Die b w):(∃ s,w.cell? ⟨b,0,none⟩=some (.int .u64 s))∧w.frozen? ⟨b,0,none⟩=false:=by
 obtain ⟨s,hs⟩:=h
 refine ⟨⟨s,?_⟩,?_⟩
 ·unfold World.cell?;simp [hs]
 ·unfold World.frozen?;simp [hs]
structure Stir (b:Nat) (w w':World):Prop where
 below:Below b w w'
 rest:∀ p:Addr,p.block≠b→p.block<w.heap.size→w'.cell? p=w.cell? p∧w'.frozen? p=w.frozen? p
 die:Die b w'
def Gives (b:Nat) (k:IntKind) (Q:Int→Prop) (w:World) (e:Ending) (w':World):Prop:=∃ r,Q r∧e=.returned (.int k r)∧Stir b w w'
theorem bits_nonneg (op:BinOp) (x y:Int):0≤bits op .u64 x y:=by
 have:=bounds_u64 (wf_bits (k:=.u64) (op:=op) (x:=x) (y:=y))
 exact this.1
theorem Stir.set {b:Nat} {w:World} (h:Die b w) (s:Int):Stir b w (w.setCell ⟨b,0,none⟩ (.int .u64 s)):=by
 obtain ⟨t,ht⟩:=h
 refine ⟨(Below.refl b w).setCell (p:=⟨b,0,none⟩) (Nat.le_refl b) _,fun p hp _=>⟨World.cell?_of_block (Below.heap_setCell _ _ _ _ hp),World.frozen?_of_block (Below.heap_setCell _ _ _ _ hp)⟩,⟨s,?_⟩⟩
 unfold World.setCell
 simp [Array.getElem?_modify,ht]
theorem roll (b:Nat) (w:World) (h:Die b w):Calls Try.prog 39 #[.pointer (some ⟨b,0,none⟩)] w (Gives b .u64 (fun r=>0≤r) w):=by
 have h':=Lib.hid h
 obtain ⟨⟨s,hs⟩,hf⟩:=h.old
 clear h
 go_enter Try.func39,Try.ntmps39
 go_wp2
 go_ret
 exact ⟨_,bits_nonneg _ _ _,rfl,Stir.set h'.out _⟩
theorem Stir.refl {b:Nat} {w:World} (h:Die b w):Stir b w w:=⟨Below.refl _ _,fun _ _ _=>⟨rfl,rfl⟩,h⟩
theorem Stir.trans {b:Nat} {u v w:World} (h:Stir b u v) (k:Stir b v w):Stir b u w :=
 ⟨h.below.trans k.below,fun p hp hb=>⟨(k.rest p hp (Nat.lt_of_lt_of_le hb h.below.size)).1.trans (h.rest p hp hb).1,(k.rest p hp (Nat.lt_of_lt_of_le hb h.below.size)).2.trans (h.rest p hp hb).2⟩,k.die⟩
theorem Die.lt {b:Nat} {w:World} (h:Die b w):b<w.heap.size:=by obtain ⟨⟨s,hs⟩,_⟩:=h.old;exact World.block_lt_of_cell? w _ hs
theorem Stir.drew {b:Nat} {w w':World} (h:Stir b w w'):Stir b w w'.drew:=h.trans ⟨⟨rfl,rfl,rfl,Nat.le_refl _,fun _ _=>rfl⟩,fun _ _ _=>⟨rfl,rfl⟩,h.die⟩
def Born (w:World) (e:Ending) (w':World):Prop:=e=.returned (.pointer (some ⟨w.heap.size,0,none⟩))∧Below w.heap.size w w'∧Die w.heap.size w'∧w.heap.size<w'.heap.size
theorem Die.born (w:World) (s:Int):Die w.heap.size (w.alloc (.cells #[.int .u64 s] 74)):=⟨s,by show (w.heap.push _)[w.heap.size]? = _;rw [Array.getElem?_push,if_pos rfl]⟩
set_option maxRecDepth 100000 in
theorem born (x:Option Addr) (n c:Nat) (w:World) (hn:n≤maxLen) (hc:∀ i,i<n→∃ b o,x=some ⟨b,o,none⟩∧∃ v,w.cell? ⟨b,o+i,none⟩=some (.int .i64 v)) :
  Calls Try.prog 10 #[.slice x n c] w (Born w):=by
 unfold maxLen at hn
 have HC:=Lib.hid hc
 clear hc
 have hdie:=Lib.hid (Die.born w 2611923443488327891)
 go_enter Try.func10,Try.ntmps10
 go_wp2
 go_loopw [4] (fun i wr=>∃ k:Nat,k≤n∧i=.int .i64 k∧Stir w.heap.size (w.alloc (.cells #[.int .u64 2611923443488327891] 74)) wr) (fun i _=>n - (intOf i).toNat)
 case atStart=>exact ⟨0,Nat.zero_le _,rfl,Stir.refl hdie.out⟩
 case round =>
  obtain ⟨k,hk,rfl,hs⟩:=hrel
  by_cases hlt:k<n
  ·obtain ⟨b,o,rfl,v,hv⟩:=HC.out k hlt
   have hb:=World.block_lt_of_cell? _ _ hv
   simp only at hb
   have hv1:wr.cell? ⟨b,o+k,none⟩=some (.int .i64 v):=((hs.rest ⟨b,o+k,none⟩ (Nat.ne_of_lt hb) (by simp;omega)).1.trans (World.cell?_of_block (Below.heap_alloc _ _ _ hb))).trans hv
   clear hv
   obtain ⟨⟨s,hd⟩,hf⟩:=hs.die.old
   have hst:=Lib.hid (fun s1:Int=>(hs.drew).trans (Stir.set hs.drew.die s1))
   have hlt':(k:Int)<(n:Int):=by omega
   have hk0:(0:Int)≤(k:Int):=by omega
   go_wp2
   go_still_tail 12,(by kernel_rfl)
   change wpList _ _ _ _ _ wr.drew
   go_wp2_with (go_at_call 39;refine (roll _ _ ?_).mono ?_;exact (hst.out _).die;rintro e w1 ⟨r,hr,rfl,hs1⟩;(have hs2:=(hst.out _).trans hs1))
   go_roundw
   case rel=>exact ⟨k+1,by omega,by go_num,hs2⟩
   case measure=>simp [intOf];omega
  ·go_wp2
   go_ret
   exact ⟨rfl,((Below.refl w.heap.size w).alloc (Nat.le_refl _) _).trans hs.below,hs.die,by have:=hs.below.size;simp at this;omega⟩
end Go.Proofs.Ytoklbkgcclkejaa.mdie
namespace Go.Abs
open Go.RowKit
variable {P:Program}
theorem mid_calls {cl:CallF} (hc:CallSound P cl) {f:FuncId} {fn:Func} (hf:P.funcs[f]? = some fn) {c0 c1 rest:Code} (hb:fn.body=some (.seq c0 (.seq c1 rest))) {X:FuncId→List Nat} {k:K} {A:Array Value} {W:World} {R:Ending→World→Prop}
  (h:c0.wp P (Exit.then (fun a w=>c1.wp P (Exit.then (fun a w=>∃ ρ L s v s',ActRel ρ fn.ntmps L [] a∧Clean (X f) L∧SRel ρ s w∧finA P fn (k cl ⟨f,none,fn.ntmps,X f⟩ L [] s)=.val v s'∧∀ ρ' V W',After ρ s w ρ' s' W'→VRel ρ' v V→R (.returned V) W') fun _ _ _=>False) a w) fun _ _ _=>False)
   { tmps:=A++Array.replicate (fn.ntmps - A.size) undef,defers:=[] } W)
  (hk:codeK P (X f) fn.ntmps rest=some k):Calls P f A W R:=by
 intro cs
 obtain ⟨b,hbd⟩:∃ b:Frame,b={ (default:Frame) with fn:=f,kind:=.normal }:=⟨_,rfl⟩
 have hr:b.roundOf=none:=by rw [hbd];rfl
 have henter:Frame.enter P f A .normal=b.at { tmps:=A++Array.replicate (fn.ntmps - A.size) undef,defers:=[] } [.code (.seq c0 (.seq c1 rest))]:=by
  rw [hbd];simp [Frame.enter,Frame.at,hf,hb]
 obtain ⟨e0,a0,w0,q0,ar0⟩:=h b [.code (.seq c1 rest)] cs
 cases e0<;>simp only [Exit.then] at q0
 obtain ⟨e1,a1,w1,q1,ar1⟩:=q0 b [.code rest] cs
 cases e1<;>simp only [Exit.then] at q1
 obtain ⟨ρ,L,s,v,s',hact,hclean,hs,hfin,hR⟩:=q1
 have st1:Steps P (lone (Frame.enter P f A .normal) cs W) (lone (b.atR a1 [.code rest]) cs w1):=by
  rw [henter,Frame.atR_of_none hr]
  exact (Steps.head step_seq ar0).trans (Steps.head step_seq ar1)
 have hctx:CtxRel ρ ⟨f,none,fn.ntmps,X f⟩ b:=⟨by rw [hbd],by rw [hbd],fun _=>hr,fun l e=>by cases e⟩
 generalize hr2:k cl ⟨f,none,fn.ntmps,X f⟩ L [] s=r at hfin
 cases r with
 | fail=>cases hfin
 | done e L1 d s₁ =>
  obtain ⟨ρ₁,a₁,W₁,af,ha₁,_,_,st⟩:=codeK_sound rest hk hc rfl rfl hctx hact hclean hs hr2
  have fin:∀ (hle:leaveA P fn.results.toList L1 d s₁=.val v s') (hst:∃ t,Steps P (lone (Frame.enter P f A .normal) cs W) (lone (back b a₁ t) cs W₁)),
    ∃ V w' fr,R (.returned V) w'∧Steps P (lone (Frame.enter P f A .normal) cs W) (lone fr cs w')∧fr.fn=f∧fr.leaving P w' (.returned V):=by
   intro hle hst
   obtain ⟨V,W₂,af₂,hv,st₂⟩:=leaveA_calls ha₁ af.rel hle
   obtain ⟨t,st₁⟩:=hst
   obtain ⟨fr,h1,h2,h3⟩:=st₂ b (by rw [hbd]) (by rw [hbd];exact hf) t cs
   exact ⟨V,W₂,fr,hR _ _ _ (af.trans af₂) hv,Steps.trans st₁ h1,by rw [h2,hbd],h3⟩
  cases e with
  | exit id=>cases hfin
  | norm =>
   have z:=st [] cs
   obtain ⟨V,w',fr,h1,h2,h3,h4⟩:=fin hfin ⟨[],st1.trans (Steps.trans z (.one (stepR_end hr)))⟩
   exact ⟨.returned V,w',fr,h1,h2,h3,h4⟩
  | ret =>
   obtain ⟨k0,z⟩:=st [] cs
   obtain ⟨V,w',fr,h1,h2,h3,h4⟩:=fin hfin ⟨.code .ret::k0,st1.trans (z.trans (.one (stepR_ret hr)))⟩
   exact ⟨.returned V,w',fr,h1,h2,h3,h4⟩
end Go.Abs
set_option maxRecDepth 10000
namespace Go.Proofs.Ytoklbkgcclkejaa.walk
open Go.Abs Go.RowKit Go.Proofs.Ytoklbkgcclkejaa.code
noncomputable def die0 (F:Int):St:=St.new ⟨.nil,0,far⟩ (.cells [.int .u64 F] (tag 74))
def rho0 (d:Nat):Rho:=fun b=>if b=0 then some (d,(0,0)) else none
theorem die0_get {F:Int} {b:Nat} {o:AObj} (h:(die0 F).h.get b=some o):b=0∧o=.cells [.int .u64 F] (tag 74):=by
 by_cases e:b=0
 ·subst e
  have:(die0 F).h.get 0=some (.cells [.int .u64 F] (tag 74)):=get_new_eq _ _ _ rfl (by decide)
  rw [this] at h
  exact ⟨rfl,(Option.some.inj h).symm⟩
 ·unfold die0 at h
  rw [get_new_ne _ _ _ e] at h
  cases h
theorem die0_has {F:Int} {b x:Nat} {o:AObj} (h:Has (die0 F).h b x o):b=0∧x=0∧o=.cells [.int .u64 F] (tag 74):=by
 obtain ⟨y,hy,hp⟩:=h
 obtain ⟨rfl,rfl⟩:=die0_get hy
 have hl:AObj.lone (.cells [.int .u64 F] (tag 74)):=trivial
 rw [parts_lone hl] at hp
 have:=List.mem_singleton.mp hp
 cases this
 exact ⟨rfl,rfl,rfl⟩
theorem die0_rel {F:Int} {d:Nat} {W:World} (h:W.heap[d]? = some (.cells #[.int .u64 F] 74 (0,0))):SRel (rho0 d) (die0 F) W:=by
 refine ⟨⟨fun b o hb=>?_,fun b x o hb=>?_,fun b b' x x' o o' c e e' hb hb' _ _=>?_,fun g cs hg=>(by cases hg),fun b x o c e hb hr=>rfl,fun b x x' o o' c e e' hb hb' hr hr'=>?_⟩,fun b hb=>?_⟩
 ·rw [(die0_get hb).1];decide
 ·obtain ⟨rfl,rfl,rfl⟩:=die0_has hb
  exact ⟨d,(0,0),_,if_pos rfl,h,.cells rfl (.cons (.int _ _) .nil) (Typed.tag _)⟩
 ·rw [(die0_has hb).1,(die0_has hb').1]
 ·obtain ⟨_,rfl,_⟩:=die0_has hb
  obtain ⟨_,rfl,_⟩:=die0_has hb'
  rw [hr] at hr'
  cases hr'
  rfl
 ·have:1≤b:=hb
  exact if_neg (by omega)
end Go.Proofs.Ytoklbkgcclkejaa.walk
