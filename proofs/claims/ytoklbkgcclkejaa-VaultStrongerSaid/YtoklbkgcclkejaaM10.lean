/- The search for the layout that earns most: a layout is noted. -/
import Derived.Test.YtoklbkgcclkejaaM9
import Derived.Test.YtoklbkgcclkejaaM7
import Derived.Test.YtoklbkgcclkejaaCodes
import Derived.Test.YtoklbkgcclkejaaProg
import Derived.Tactics
import Derived.Tactics2
import Derived.WalkKit
import Derived.OpenShut
import Derived.Below
import Derived.Lib.Hide
import Derived.KernelRfl
import Derived.Deep.RegionHeld3
import Derived.OwnWalk
import Derived.StillTailTactics
import Derived.Test.YtoklbkgcclkejaaAbsTop
import Derived.Test.YtoklbkgcclkejaaAbsWalk
import Derived.Test.YtoklbkgcclkejaaM6
import Derived.Test.YtoklbkgcclkejaaWalkAll
set_option linter.unusedSimpArgs false
set_option linter.unusedVariables false
set_option maxHeartbeats 16000000
set_option linter.unusedVariables false
set_option maxRecDepth 10000
namespace Go.Proofs.Ytoklbkgcclkejaa.walk
open Go.Abs Go.Proofs.Ytoklbkgcclkejaa.code
theorem cloneP_nil (N:Nat) (hN:1≤N) (s:St) (hs:s.n+10≤far):call Try.prog X N (.fn 84) [.nilslice] s=.val .nilslice s:=by
 obtain ⟨n,rfl⟩:∃ n,N=n+1:=⟨N - 1,by omega⟩
 refine zr Try.func84 (fun u uh un um=>?_) rfl
 have hf:far=1000000000:=rfl
 have hnil:∀ s,eqlA .nilS false s .nilslice .nilslice=.val (.bool true) s:=fun s=>by simp [eqlA,Cmp.eq]
 rw [enter84]
 simp (disch:=first|omega|with_unfolding_all exact rfl) only [res84,K84r0,K84r1,K84r2,K84r3,K84,Abs.W,reduceIte,Nat.reduceEqDiff,Nat.reduceAdd,Nat.reduceSub,kEqlE,hnil]
 exact ⟨_,rfl,by omega⟩
theorem s_bump (M:Nat) (hM:2≤M) (cx:Ctx) {h0:Heap} {s:St} {lo pt pc q:Nat} {v:AV} {rest:List (Nat × Nat)} {l:List PutR} {T:(Int × Int) × List PutR} {H:HallR} {L:Env} (S:SNow h0 s.h s.n lo pt pc v rest l T) (hl:l.length≤30) (hq:lo≤q∧q<s.n∧jJ v≠some q) (gq:s.h.get q=some (.cells [.int .i64 (H.worth l).1,.int .i64 (H.worth l).2] (tag 120))) (hlt:pt<lo∧pc<lo∧pt≠pc∧pt≤pc) (hs:s.n+1000≤far) (hm:s.m≤far)
  (q0:L.find 0=v) (q3:L.find 3=.ptr pt 0) (q4:L.find 4=.ptr pc 0) (q10:L.find 10=.ptr q 0) :
  ∃ b t,(zH (zD K82r1 [17]) (jG (.tmp 17) (zv K82r2 []) jF)) (call Try.prog X M) cx L [] s=.done .norm (L.set 17 (.bool b)) [] t∧SPost h0 s t lo pt pc v rest l T (bump H.worth l T) 10:=by
 have hf:far=1000000000:=rfl
 obtain ⟨a1,a2,⟨vc,a3,a4⟩,a5,a6⟩:=id S
 have kv:=(a5.puts (no:=fun _=>True) fun _ _ _=>trivial).okA
 have hbl:=a5.block
 have nb:∀ b,b<lo→jJ v≠some b:=fun b hb h=>by have:=hbl b h;omega
 have okW:∀ (a b:Int) t,okA (.val (.agg [.int .i64 a,.int .i64 b]) t)=.val (.agg [.int .i64 a,.int .i64 b]) t:=fun _ _ _=>rfl
 have ebt:=beats_ok M (by omega) (H.worth l) T.1 s (by omega)
 by_cases hb:Bt (H.worth l) T.1
 ·have hbt:decide (Bt (H.worth l) T.1)=true:=decide_eq_true hb
  rw [hbt] at ebt
  have hbu:bump H.worth l T=(H.worth l,l):=by unfold bump;rw [if_pos hb]
  rw [hbu]
  -- the copy
  obtain ⟨vc',t1,e1,st1,hch⟩:∃ vc' t1,call Try.prog X M (.fn 84) [v] ⟨s.h,s.n,far⟩=.val vc' t1∧New ⟨s.h,s.n,far⟩ t1 2∧((l=[]∧vc'=.nilslice)∨∃ bc,s.n≤bc∧bc<t1.n∧vc'=.slice bc 0 l.length l.length true∧l≠[]∧t1.h.get bc=some (.cells (vA l) (3+tag 51))):=by
   by_cases hl0:l=[]
   ·have hv:v=.nilslice:=by
     rcases a5 with ⟨_,h,_⟩ | ⟨P,_,h,_⟩ | ⟨h,_⟩
     ·exact h
     ·rw [hl0] at h;cases h
     ·rw [hl0] at h;simp at h
    rw [hv]
    exact ⟨_,_,cloneP_nil M (by omega) ⟨s.h,s.n,far⟩ (by show s.n+10≤far;omega),⟨fun _ _=>rfl,Nat.le_refl _,Nat.le_add_right _ _,rfl⟩,.inl ⟨hl0,rfl⟩⟩
   ·obtain ⟨bc,t1,e,st,h1,h2,h3⟩:=cloneP_ex (N:=M) (s:=⟨s.h,s.n,far⟩) l rfl (by omega) a5 hl0 hl (by show s.n+100≤far;omega)
    exact ⟨_,_,e,st,.inr ⟨bc,h1,h2,rfl,hl0,h3⟩⟩
  have n1:s.n≤t1.n:=st1.n
  have k1:t1.n≤s.n+2:=st1.le
  have m1:t1.m=far:=st1.m
  have g1:∀ b,b<s.n→t1.h.get b=s.h.get b:=fun b hb=>st1.same b hb
  have okc:∀ t,okA (.val vc' t)=.val vc' t:=fun t=>by
   rcases hch with ⟨_,h⟩ | ⟨_,_,_,h,_⟩<;>rw [h]<;>rfl
  have scc:cellsOf 1 vc'=some [vc']∧scalars [vc']=true:=by
   rcases hch with ⟨_,h⟩ | ⟨_,_,_,h,_⟩<;>rw [h]<;>exact ⟨rfl,rfl⟩
  obtain ⟨y,hy⟩:∃ y:St,y=⟨t1.h,t1.n,jt s.m t1.m⟩:=⟨_,rfl⟩
  have yn:y.n=t1.n:=by rw [hy]
  have yh:y.h=t1.h:=by rw [hy]
  have ym:y.m=s.m:=by rw [hy];show jt s.m t1.m=_;rw [zP];omega
  have tv:∀ ws v d rest cl L,thenT (some ws) (.val v t1) d rest cl L s=rest cl (d.put v L) y:=fun ws v d rest cl L=>by rw [hy];exact Jb _ _ _ _ _ _ _ _ (by omega)
  have yt:y.h.get pt=some (.cells [.int .i64 T.1.1,.int .i64 T.1.2] (tag 120)):=by rw [yh,g1 pt (by omega)];exact a2
  have yc:y.h.get pc=some (.cells [vc] (tag 32)):=by rw [yh,g1 pc (by omega)];exact a3
  have st2:jL 2 y (.agg [.int .i64 (H.worth l).1,.int .i64 (H.worth l).2]) (.ptr pt 0)=.val .undef (y.put pt (.cells [.int .i64 (H.worth l).1,.int .i64 (H.worth l).2] (tag 120))):=ju _ 2 _ _ _ _ yt rfl rfl rfl
  have st3:jL 1 (y.put pt (.cells [.int .i64 (H.worth l).1,.int .i64 (H.worth l).2] (tag 120))) vc' (.ptr pc 0)=.val .undef ((y.put pt (.cells [.int .i64 (H.worth l).1,.int .i64 (H.worth l).2] (tag 120))).put pc (.cells [vc'] (tag 32))):=jf (c:=[vc]) (by rw [zI _ _ _ _ (by omega)];exact yc) (by show 0<1;omega) scc.1 scc.2
  obtain ⟨z,hz⟩:∃ z:St,z=(y.put pt (.cells [.int .i64 (H.worth l).1,.int .i64 (H.worth l).2] (tag 120))).put pc (.cells [vc'] (tag 32)):=⟨_,rfl⟩
  have zn:z.n=y.n:=by rw [hz];rfl
  have zm:z.m=min (min s.m pt) pc:=by rw [hz];simp only [St.put,zP,ym]
  have zg:∀ b,b≠pt→b≠pc→z.h.get b=t1.h.get b:=fun b h1 h2=>by rw [hz,zI _ _ _ _ h2,zI _ _ _ _ h1,yh]
  have zt:z.h.get pt=some (.cells [.int .i64 (H.worth l).1,.int .i64 (H.worth l).2] (tag 120)):=by rw [hz,zI _ _ _ _ (by omega)];exact zO _ _ _ _ rfl (by omega)
  have zc:z.h.get pc=some (.cells [vc'] (tag 32)):=by rw [hz];exact zO _ _ _ _ rfl (by omega)
  rw [← hz] at st3
  refine ⟨true,z,?_,⟨⟨fun b h1 h2 h3=>?_,zt,⟨vc',zc,?_⟩,a5.grow (fun b h1 h2=>?_) (by omega),by omega⟩,fun b h1 h2 h3 _=>(zg b h2 h3).trans (g1 b h1),by omega,by omega,fun k h1 h2 h3=>by omega,by omega,.inl (by omega)⟩⟩
  ·simp (disch:=first|omega|with_unfolding_all exact rfl) only [K82r1,K82r2,Abs.W,reduceIte,Nat.reduceEqDiff,Nat.reduceAdd,Nat.reduceSub,q0,q3,q4,q10,gq,a2,okW,ebt,kv,e1,tv,okc,st2,st3,Nat.zero_add]
  ·rw [zg b h2 h3,g1 b (by omega)];exact a1 b h1 h2 h3
  ·rcases hch with ⟨h1,h2⟩ | ⟨bc,h1,h2,h3,h4,h5⟩
   ·exact .inl ⟨h1,h2⟩
   ·exact .inr ⟨bc,by omega,by omega,h3,h4,fun h=>by have:=hbl bc h;omega,(zg bc (by omega) (by omega)).trans h5⟩
  ·have h3:=hbl b h2
   rw [zg b (by omega) (by omega)];exact g1 b h1
 ·have hbt:decide (Bt (H.worth l) T.1)=false:=decide_eq_false hb
  rw [hbt] at ebt
  have hbu:bump H.worth l T=T:=by unfold bump;rw [if_neg hb]
  rw [hbu]
  refine ⟨false,s,?_,⟨S,fun _ _ _ _ _=>rfl,Nat.le_refl _,by omega,fun _ _ _ h=>h,Nat.le_refl _,.inr rfl⟩⟩
  simp (disch:=first|omega|with_unfolding_all exact rfl) only [K82r1,Abs.W,reduceIte,Nat.reduceEqDiff,Nat.reduceAdd,Nat.reduceSub,q3,q10,gq,a2,okW,ebt,Nat.zero_add]
end Go.Proofs.Ytoklbkgcclkejaa.walk
set_option maxRecDepth 10000
namespace Go.Proofs.Ytoklbkgcclkejaa.walk
open Go.Abs Go.Proofs.Ytoklbkgcclkejaa.code
theorem s_hope (M:Nat) (hM:2≤M) (cx:Ctx) {h0:Heap} {s:St} {lo pt pc ph ps po pf hb p rb q i:Nat} {sc:List AV} {v vo:AV} {rest:List (Nat × Nat)} {l:List PutR} {T:(Int × Int) × List PutR} {H:HallR} {vW vS vB vK:AV} {O:List (Int × Int)} {L:Env} (ok:H.Ok) (F:SFix h0 lo pt pc ph ps po pf hb p rb sc H vW vS vB vK vo O) (S:SNow h0 s.h s.n lo pt pc v rest l T) (hg:H.Good l) (hl:l.length≤30) (hi:i≤O.length) (gq:s.h.get q=some (.cells [.int .i64 (H.worth l).1,.int .i64 (H.worth l).2] (tag 120))) (hs:s.n+1000≤far) (hm:s.m≤far)
  (q2:L.find 2=.int .i64 (i:Int)) (q3:L.find 3=.ptr pt 0) (q5:L.find 5=.ptr ph 0) (q10:L.find 10=.ptr q 0) :
  zv K82r3 [29] (call Try.prog X M) cx L [] s=.done .norm (L.set 29 (.bool (!decide (Bt (wplus (H.worth l) (H.hopeL (O.drop i))) T.1)))) [] s:=by
 have hf:far=1000000000:=rfl
 have hlt:=F.lt
 have hne:=F.ne
 have o8:=F.o8
 have gh:=(S.same ph (by omega) (by omega) (by omega)).trans F.bh
 have gb:=(S.same hb (by omega) (by omega) (by omega)).trans F.bb
 have hix:∀ s,yJ 2 s (.slice hb 0 (O.length+1) (O.length+1) false) (.int .i64 (i:Int))=.val (.ptr hb (i * 2)) s:=fun s=>by rw [yI _ _ _ _ _ _ _ _ (by omega),Nat.zero_add]
 have hcut:cut (i * 2) 2 (H.hopeRows O 0).flatten=some [.int .i64 (H.hopeL (O.drop i)).1,.int .i64 (H.hopeL (O.drop i)).2]:=by
  rw [vL (JZ H O _) (by rw [ZC];omega),hopeRows_at H O _ (by omega)]
  unfold HallR.hopeRow;rw [if_pos (Nat.zero_le _)]
 have okW:∀ (a b:Int) t,okA (.val (.agg [.int .i64 a,.int .i64 b]) t)=.val (.agg [.int .i64 a,.int .i64 b]) t:=fun _ _ _=>rfl
 have okS:∀ t,okA (.val (.slice hb 0 (O.length+1) (O.length+1) false) t)=.val (.slice hb 0 (O.length+1) (O.length+1) false) t:=fun _=>rfl
 have hb1:=hopeL_bound ok (O.drop i)
 have hdl:(O.drop i).length≤6:=by rw [List.length_drop];omega
 have hlen:l.length≤30:=hl
 have hr:(0≤(H.worth l).1∧(H.worth l).1≤100000000)∧0≤(H.worth l).2∧(H.worth l).2≤100000000:=by
  have h:=ZI (H.rents l) 0 1000000 (by omega) fun x hx=>by
   obtain ⟨p,hp,rfl⟩:=List.mem_map.mp hx
   have h:=wM ok (hg.i p hp).k
   exact ⟨h.r0,h.r1⟩
  have e:(H.rents l).length=l.length:=by unfold HallR.rents;rw [List.length_map]
  rw [e] at h
  unfold HallR.worth
  simp only
  omega
 have epl:=plus_ok M (by omega) (H.worth l) (H.hopeL (O.drop i)) ⟨s.h,s.n,far⟩ hr ⟨⟨hb1.1.1,by omega⟩,hb1.2.1,by omega⟩ (by show s.n+10≤far;omega)
 have hts:=fun v=>yK (v:=v) (s:=s) (h:=(by omega:s.n≤far)) (hm:=hm)
 have ebt:=beats_ok M (by omega) (wplus (H.worth l) (H.hopeL (O.drop i))) T.1 s (by omega)
 have ebt':call Try.prog X M (.fn 83) [.agg [.int .i64 ((H.worth l).1+(H.hopeL (O.drop i)).1),.int .i64 ((H.worth l).2+(H.hopeL (O.drop i)).2)],.agg [.int .i64 T.1.1,.int .i64 T.1.2]] s=.val (.bool (decide (Bt (wplus (H.worth l) (H.hopeL (O.drop i))) T.1))) s:=ebt
 have gt:=S.top
 simp (disch:=first|omega|with_unfolding_all exact rfl) only [K82r3,Abs.W,reduceIte,Nat.reduceEqDiff,Nat.reduceAdd,Nat.reduceSub,q2,q3,q5,q10,gq,gh,gb,hix,hcut,okW,okS,epl,hts,gt,ebt',Nat.zero_add]
end Go.Proofs.Ytoklbkgcclkejaa.walk
set_option maxRecDepth 10000
namespace Go.Proofs.Ytoklbkgcclkejaa.walk
open Go.Abs Go.Proofs.Ytoklbkgcclkejaa.code
structure SAt (h:Heap) (n pt pc ph ps po pf hb p rb:Nat) (sc:List AV) (H:HallR) (vW vS vB vK vo:AV) (O:List (Int × Int)):Prop where
 bh:h.get ph=some (.cells [.slice hb 0 (O.length+1) (O.length+1) false] (tag 117))
 bb:h.get hb=some (.cells (H.hopeRows O 0).flatten 0)
 bs:h.get ps=some (.cells [.ptr p 0] (tag 78))
 bo:h.get po=some (.cells [vo] (tag 25))
 bf:∃ sz,h.get pf=some (.cells [.func 82 [] [.ptr pt 0,.ptr pc 0,.ptr ph 0,.ptr ps 0,.ptr po 0,.ptr pf 0]] sz)
 g:h.get p=some (vX sc)
 gr:h.get rb=some (.cells (ZZ p) 0)
 hH:HallAt (fun b=>b≠pt∧b≠pc) h n H vW vS vB vK
 hO:Sl (fun b=>b≠pt∧b≠pc) h n 2 (O.map jE) vo
 lp:p<n∧rb<n
theorem SFix.at_ {h0 h:Heap} {n lo pt pc ph ps po pf hb p rb:Nat} {sc:List AV} {H:HallR} {vW vS vB vK vo v:AV} {O:List (Int × Int)} {rest:List (Nat × Nat)} {l:List PutR} {T:(Int × Int) × List PutR} (F:SFix h0 lo pt pc ph ps po pf hb p rb sc H vW vS vB vK vo O) (S:SNow h0 h n lo pt pc v rest l T):SAt h n pt pc ph ps po pf hb p rb sc H vW vS vB vK vo O:=by
 have tf:=S.same
 have hlo:=S.lo
 obtain ⟨⟨l1,l2,l3,l4,l5,l6,l7⟩,l8,l9⟩:=F.lt
 obtain ⟨⟨n1,n2,n3,n4,n5,n6,n7⟩,⟨m1,m2,m3,m4,m5,m6,m7⟩,_⟩:=F.ne
 obtain ⟨sz,hf⟩:=F.bf
 exact ⟨(tf ph l1 n1 m1).trans F.bh,(tf hb l5 n5 m5).trans F.bb,(tf ps l2 n2 m2).trans F.bs,(tf po l3 n3 m3).trans F.bo,⟨sz,(tf pf l4 n4 m4).trans hf⟩,(tf p l6 n6 m6).trans F.g,(tf rb l7 n7 m7).trans F.gr,F.hH.move (fun b h1 h2=>⟨tf b h1 h2.1 h2.2,h2⟩) hlo,F.hO.move (fun b h1 h2=>⟨tf b h1 h2.1 h2.2,h2⟩) hlo,Nat.lt_of_lt_of_le l6 hlo,Nat.lt_of_lt_of_le l7 hlo⟩
theorem SNow.grow {h0 h h':Heap} {n n' lo pt pc:Nat} {v:AV} {rest:List (Nat × Nat)} {l:List PutR} {T:(Int × Int) × List PutR} (S:SNow h0 h n lo pt pc v rest l T) (hh:∀ b,b<n→h'.get b=h.get b) (hn:n≤n') (hp:pt<n∧pc<n):SNow h0 h' n' lo pt pc v rest l T:=by
 have hlo:=S.lo
 obtain ⟨a1,a2,⟨vc,a3,a4⟩,a5,a6⟩:=S
 exact ⟨fun b h1 h2 h3=>(hh b (by omega)).trans (a1 b h1 h2 h3),(hh pt hp.1).trans a2,⟨vc,(hh pc hp.2).trans a3,a4.grow (fun b h1 h2 h3=>⟨hh b h2,h3⟩) hn⟩,a5.grow (fun b h1 h2=>hh b h1) hn,by omega⟩
end Go.Proofs.Ytoklbkgcclkejaa.walk
set_option maxRecDepth 10000
namespace Go.Proofs.Ytoklbkgcclkejaa.walk
open Go.Abs Go.Proofs.Ytoklbkgcclkejaa.code
theorem apart_block {v:AV} {c o:Nat} (h:jJ v≠some c):vV v (.ptr c o)=true:=by
 unfold vV
 cases hv:jJ v with
 | none=>rfl
 | some b =>
  rw [hv] at h
  simp only [jJ]
  rw [vb (fun e=>h (by rw [e]))]
  rfl
theorem worth_range {H:HallR} (ok:H.Ok) {l:List PutR} (hl:l.length≤30) (hi:∀ q ∈ l,q.In H):(0≤(H.worth l).1∧(H.worth l).1≤100000000)∧0≤(H.worth l).2∧(H.worth l).2≤100000000:=by
 have h:=ZI (H.rents l) 0 1000000 (by omega) fun x hx=>by
  obtain ⟨p,hp,rfl⟩:=List.mem_map.mp hx
  have h:=wM ok (hi p hp).k
  exact ⟨h.r0,h.r1⟩
 have e:(H.rents l).length=l.length:=by unfold HallR.rents;rw [List.length_map]
 rw [e] at h
 unfold HallR.worth
 simp only
 omega
theorem s_round (M m:Nat) (hM:8≤M) (cx:Ctx) {h0:Heap} {t:St} {lo pt pc ph ps po pf hb p rb q i k:Nat} {sc:List AV} {v vo:AV} {rest:List (Nat × Nat)} {l:List PutR} {T:(Int × Int) × List PutR} {H:HallR} {vW vS vB vK:AV} {O:List (Int × Int)} {L:Env} (ok:H.Ok) (F:SFix h0 lo pt pc ph ps po pf hb p rb sc H vW vS vB vK vo O) (IH:SOk M m h0 lo pt pc ph ps po pf H O) (S:SNow h0 t.h t.n lo pt pc v rest l T) (hpp:pt≤pc) (hg:H.Good l) (hl:l.length≤i) (him:i+1+m=O.length) (hk:k<H.kinds.length) (hq:lo≤q∧q<t.n∧jJ v≠some q) (gq:t.h.get q=some (.cells [.int .i64 (H.worth l).1,.int .i64 (H.worth l).2] (tag 120))) (hs:t.n+60010+wide m≤far) (hm:t.m≤far)
  (q0:L.find 0=v) (q2:L.find 2=.int .i64 (i:Int)) (q6:L.find 6=.ptr ps 0) (q7:L.find 7=.ptr po 0) (q8:L.find 8=.ptr pf 0) (q10:L.find 10=.ptr q 0) (q34:L.find 34=vK) (q35:L.find 35=.int .i64 (H.kinds.length:Int)) (q36:L.find 36=.int .i64 (k:Int)) :
  ∃ L1 t1,K82l0 (call Try.prog X M) cx L [] t=.done .norm L1 [] t1∧SPost h0 t t1 lo pt pc v rest l T (if H.takesB l (yA (O.getD i (0,0)) k)=true then srch H.kinds.length H.takesB H.worth H.rent (O.drop (i+1)) (l++[yA (O.getD i (0,0)) k]) T else T) (30+wide m)∧(∀ c,c<11→L1.find c=L.find c)∧L1.find 34=vK∧L1.find 35=.int .i64 (H.kinds.length:Int)∧L1.find 36=.int .i64 ((k+1:Nat):Int):=by
 have hf:far=1000000000:=rfl
 have o8:=F.o8
 have hlo:=S.lo
 have htl:=F.lt.2.1
 have hcl:=F.lt.2.2
 have hpfl:=F.lt.1.2.2.2.1
 have kv:=(S.fam.puts (no:=fun _=>True) fun _ _ _=>trivial).okA
 have hbl:=S.fam.block
 have nb:∀ b,b<lo→jJ v≠some b:=fun b hb h=>by have:=hbl b h;omega
 have W:=F.at_ S
 obtain ⟨c,hc⟩:∃ c,c=O.getD i (0,0):=⟨_,rfl⟩
 have hil:i<O.length:=by omega
 have hcx:O[i]=c:=by rw [hc,List.getD_eq_getElem?_getD,List.getElem?_eq_getElem hil];rfl
 have hcin:H.In c:=by rw [← hcx];exact F.oin _ (List.getElem_mem hil)
 rw [← hc]
 have hPin:=put_in ok hcin hk
 -- the kind and the place
 have e0:decide ((k:Int)<(H.kinds.length:Int))=true:=decide_eq_true (by omega)
 have ad:∀ s,jK s .i64 (k:Int) 1=.val (.int .i64 ((k:Int)+1)) s:=fun s=>zd s _ _ (by have:=ok.k1;omega)
 have ad2:∀ s,jK s .i64 (i:Int) 1=.val (.int .i64 ((i+1:Nat):Int)) s:=fun s=>by rw [zd s _ _ (by omega)];rfl
 obtain ⟨aw,kb,koo,kc,ksz,⟨kb1,kbn⟩,kb2,kb3,kcut,hAw⟩:=W.hH.k.get hk
 have hki:H.kind k=H.kinds[k]:=by unfold HallR.kind;rw [List.getD_eq_getElem?_getD,List.getElem?_eq_getElem hk];rfl
 rw [← hki] at kcut hAw
 obtain ⟨ob,oo,oc,osz,⟨o1,o1n⟩,o2,o3,o4⟩:=slCell W.hO hil
 rw [hcx] at o4
 have hkr:=wM ok hk
 have hr0:=hkr.r0
 have hr1:=hkr.r1
 have hsc:scalars ((H.kind k).row aw)=true:=by
  show scalars [aw,.int .i64 (H.kind k).rent,.int .i64 (H.kind k).most]=true
  rw [hAw.scal.2.2];rfl
 have okr:∀ t,okA (.val (.agg ((H.kind k).row aw)) t)=.val (.agg ((H.kind k).row aw)) t:=fun _=>rfl
 have okc:∀ t,okA (.val (.agg (jE c)) t)=.val (.agg (jE c)) t:=fun _=>rfl
 obtain ⟨A,hA⟩:∃ A:St,A=(t.new (.cells [.int .i64 0,.int .i64 0,.bool false,.nilslice,.int .i64 0,.int .i64 0] (tag 49))).put t.n (.cells ((H.kind k).row aw) (tag 49)):=⟨_,rfl⟩
 have stA:jL 6 (t.new (.cells [.int .i64 0,.int .i64 0,.bool false,.nilslice,.int .i64 0,.int .i64 0] (tag 49))) (.agg ((H.kind k).row aw)) (.ptr t.n 0)=.val .undef A:=by
  rw [hA];exact ju _ 6 _ _ _ _ (zM _ _ _ rfl (by omega)) rfl rfl hsc
 have An:A.n=t.n+1:=by rw [hA];rfl
 have Am:A.m=min t.m t.n:=by rw [hA];simp only [St.put,zP,zN]
 have Ag:∀ b,b<t.n→A.h.get b=t.h.get b:=fun b hb=>by rw [hA,zI _ _ _ _ (by omega),zG _ _ _ (by omega)]
 have A13:A.h.get t.n=some (.cells ((H.kind k).row aw) (tag 49)):=by rw [hA];exact zO _ _ _ _ rfl (by omega)
 clear hA
 obtain ⟨B,hB⟩:∃ B:St,B=(A.new (.cells [.int .i64 0,.int .i64 0,.int .i64 0] (tag 51))).put A.n (.cells [.int .i64 c.1,.int .i64 c.2,.int .i64 (k:Int)] (tag 51)):=⟨_,rfl⟩
 have stB:jL 3 (A.new (.cells [.int .i64 0,.int .i64 0,.int .i64 0] (tag 51))) (.agg [.int .i64 c.1,.int .i64 c.2,.int .i64 (k:Int)]) (.ptr A.n 0)=.val .undef B:=by
  rw [hB];exact ju _ 3 _ _ _ _ (zM _ _ _ rfl (by omega)) rfl rfl rfl
 have Bn:B.n=A.n+1:=by rw [hB];rfl
 have Bm:B.m=min A.m A.n:=by rw [hB];simp only [St.put,zP,zN]
 have Bg:∀ b,b<A.n→B.h.get b=A.h.get b:=fun b hb=>by rw [hB,zI _ _ _ _ (by omega),zG _ _ _ (by omega)]
 have B14:B.h.get A.n=some (.cells [.int .i64 c.1,.int .i64 c.2,.int .i64 (k:Int)] (tag 51)):=by rw [hB];exact zO _ _ _ _ rfl (by omega)
 clear hB
 have Bt':∀ b,b<t.n→B.h.get b=t.h.get b:=fun b hb=>(Bg b (by omega)).trans (Ag b hb)
 have SA:SNow h0 A.h A.n lo pt pc v rest l T:=S.grow Ag (by omega) (by omega)
 have SB:SNow h0 B.h B.n lo pt pc v rest l T:=S.grow Bt' (by omega) (by omega)
 have WA:=F.at_ SA
 have WB:=F.at_ SB
 have ko:=W.hO.okA
 have go7:=WA.bo
 have goA:=(Ag ob o1).trans o3
 have gB6:=WB.bs
 obtain ⟨is,eis,his⟩:=takes_ok M (by omega) F.c ok WB.hH.b WB.hH.k (SB.fam.puts (no:=fun b=>b≠pt∧b≠pc) fun b h1 _=>⟨by omega,by omega⟩) hg.i (may_in hg.v) (by omega) hPin WB.g WB.gr WB.lp.1 WB.lp.2 (by omega)
 have hT:H.takesB l (yA c k)=is:=by
  cases is with
  | true=>exact yj.mpr (his.mp rfl)
  | false =>
   cases h:H.takesB l (yA c k) with
   | false=>rfl
   | true=>exact absurd (his.mpr (yj.mp h)) (by simp)
 rw [hT]
 have eis':call Try.prog X M (.fn 54) [.ptr p 0,v,.agg [.int .i64 c.1,.int .i64 c.2,.int .i64 (k:Int)]] B=.val (.bool is) B:=eis
 have ll:∀ s,jH s vK=.val (.int .i64 (H.kinds.length:Int)) s:=fun s=>W.hH.k.len s
 simp (disch:=first|omega|with_unfolding_all exact rfl) only [K82l0,K82r5,K82r6,K82r7,K82r8,K82r10,Abs.W,reduceIte,Nat.reduceEqDiff,Nat.reduceAdd,Nat.reduceSub,q0,q2,q6,q7,q8,q10,q34,q35,q36,e0,kb2,kb3,kcut,okr,stA,go7,o2,goA,o4,okc,stB,gB6,B14,kv,ko,eis',ad,Nat.zero_add]
 cases is with
 | false =>
  simp (disch:=first|omega|with_unfolding_all exact rfl) only [Abs.W,reduceIte,Nat.reduceEqDiff,Nat.reduceAdd,Nat.reduceSub,q36,ad,Nat.zero_add]
  refine ⟨_,B,rfl,⟨SB,fun b h1 h2 h3 h4=>Bt' b h1,by omega,by omega,fun x h1 h2 h3=>by omega,by omega,.inr rfl⟩,fun c hc=>?_,?_,?_,?_⟩
  ·have h1:¬ 12=c:=by omega
   have h2:¬ 13=c:=by omega
   have h3:¬ 14=c:=by omega
   have h4:¬ 36=c:=by omega
   have h5:¬ 37=c:=by omega
   have h6:¬ 50=c:=by omega
   simp only [efs,h1,h2,h3,h4,h5,h6,reduceIte]
  ·simp only [efs,q34,reduceIte,Nat.reduceEqDiff]
  ·simp only [efs,q35,reduceIte,Nat.reduceEqDiff]
  ·simp only [efs,reduceIte,Nat.reduceEqDiff];rfl
 | true =>
  have hTk:H.Takes l (yA c k):=his.mp rfl
  have hgP:=(good_put ok hg hcin hk).mp hTk
  obtain ⟨pfz,gf⟩:=WB.bf
  obtain ⟨C,hC⟩:∃ C:St,C=B.new (.cells [.int .i64 c.1,.int .i64 c.2,.int .i64 (k:Int)] 0):=⟨_,rfl⟩
  have Cn:C.n=B.n+1:=by rw [hC];rfl
  have Cm:C.m=B.m:=by rw [hC];rfl
  have Cg:∀ b,b<B.n→C.h.get b=B.h.get b:=fun b hb=>by rw [hC,zG _ _ _ (by omega)]
  have CB:C.h.get B.n=some (.cells (yA c k).row 0):=by rw [hC];exact zM _ _ _ rfl (by omega)
  have fC:FamAt C.h C.n lo v rest l:=SB.fam.grow (fun b h1 h2=>Cg b h1) (by omega)
  obtain ⟨v',D,rest',e4,fD,Dn,Dg,Dk,Dle,b1,b2,back⟩:=fam_append fC (by omega) CB (by omega) (by omega)
  have okv':∀ s,okA (.val v' s)=.val v' s:=fun s=>(fD.puts (no:=fun _=>True) fun _ _ _=>trivial).okA s
  have nb':∀ b,b<t.n→jJ v≠some b→jJ v'≠some b:=fun b hb h1 h2=>by
   rcases b1 b h2 with h | h
   ·exact h1 h
   ·omega
  have Dt:∀ b,b<t.n→jJ v≠some b→D.h.get b=t.h.get b:=fun b hb h1=>(Dg b (by omega) h1).trans ((Cg b (by omega)).trans (Bt' b hb))
  have DB:∀ b,b<B.n→jJ v≠some b→D.h.get b=B.h.get b:=fun b hb h1=>(Dg b (by omega) h1).trans (Cg b hb)
  have gq':=(Dt q hq.2.1 hq.2.2).trans gq
  have g13:D.h.get t.n=some (.cells ((H.kind k).row aw) (tag 49)):=(DB t.n (by omega) (fun h=>by have:=hbl _ h;omega)).trans ((Bg t.n (by omega)).trans A13)
  have f4:nth ((H.kind k).row aw) 4=.int .i64 (H.kind k).rent:=rfl
  have wr:=worth_range ok (l:=l) (by omega) hg.i
  have epl:=plus_ok M (by omega) (H.worth l) ((H.kind k).rent,1) ⟨D.h,D.n,far⟩ wr ⟨⟨hr0,by show (H.kind k).rent≤100000000;omega⟩,by show (0:Int)≤1;omega,by show (1:Int)≤100000000;omega⟩ (by show D.n+10≤far;omega)
  have hD:=fun v=>yK (v:=v) (s:=D) (h:=(by omega:D.n≤far)) (hm:=by omega)
  have hwp:H.worth (l++[yA c k])=((H.worth l).1+(H.kind k).rent,(H.worth l).2+1):=worth_put H l (yA c k)
  have SD:SNow h0 D.h D.n lo pt pc v' rest' (l++[yA c k]) T:=by
   obtain ⟨a1,a2,⟨vc,a3,a4⟩,a5,a6⟩:=id SB
   refine ⟨fun b h1 h2 h3=>(DB b (by omega) (nb b h1)).trans (a1 b h1 h2 h3),(DB pt (by omega) (nb pt htl)).trans a2,⟨vc,(DB pc (by omega) (nb pc hcl)).trans a3,a4.grow (fun b h1 h2 h3=>⟨DB b h2 h3,fun h=>?_⟩) (by omega)⟩,fD,by omega⟩
   rcases b1 b h with h' | h'
   ·exact h3 h'
   ·omega
  obtain ⟨E,e5,po⟩:=IH D v' rest' (l++[yA c k]) T (i+1) him SD hgP (by rw [List.length_append,List.length_singleton];omega) (by omega) (by omega)
  rw [hwp] at e5
  obtain ⟨r1,r2,r3,r4,r5,r6,r7⟩:=po
  have ap1:vV v (.ptr pf 0)=true:=apart_block (nb pf hpfl)
  have ap2:vV v (.ptr q 0)=true:=apart_block hq.2.2
  have ap3:vV v (.ptr t.n 4)=true:=apart_block (fun h=>by have:=hbl _ h;omega)
  simp (disch:=first|omega|with_unfolding_all exact rfl) only [K82r9,Abs.W,reduceIte,Nat.reduceEqDiff,Nat.reduceAdd,Nat.reduceSub,q0,q2,q8,q10,q36,gf,kv,wJ,B14,Nat.zero_add]
  rw [← hC]
  simp (disch:=first|omega|with_unfolding_all exact rfl) only [Abs.W,reduceIte,Nat.reduceEqDiff,Nat.reduceAdd,Nat.reduceSub,q0,q2,q8,q10,q36,e4,okv',gq',fldE,g13,f4,epl,hD,ad2,e5,Nat.zero_add]
  rw [ZE]
  rotate_left
  ·refine (wo ?_).trans ((wo ?_).trans ((wo ?_).trans (vi _)))
   ·simp only [zJ,efs,q8,reduceIte,Nat.reduceEqDiff];exact ap1
   ·simp only [zJ,efs,q10,reduceIte,Nat.reduceEqDiff];exact ap2
   ·simp only [zJ,efs,reduceIte,Nat.reduceEqDiff];exact ap3
  simp (disch:=first|omega|with_unfolding_all exact rfl) only [Abs.W,reduceIte,Nat.reduceEqDiff,Nat.reduceAdd,Nat.reduceSub,q36,ad,Nat.zero_add]
  refine ⟨_,E,rfl,⟨?_,fun b h1 h2 h3 h4=>(r2 b (by omega) h2 h3 (nb' b h1 h4)).trans (Dt b h1 h4),by omega,by omega,fun x h1 h2 h3=>r5 x h1 h2 (Dk x (by omega) (by omega)),by omega,r7⟩,fun c hc=>?_,?_,?_,?_⟩
  ·obtain ⟨a1,a2,⟨vc,a3,a4⟩,a5,a6⟩:=r1
   exact ⟨a1,a2,⟨vc,a3,a4.grow (fun b h1 h2 h3=>⟨rfl,fun h=>h3 (b2 b h)⟩) (Nat.le_refl _)⟩,back _ _ a5,a6⟩
  ·have h1:¬ 12=c:=by omega
   have h2:¬ 13=c:=by omega
   have h3:¬ 14=c:=by omega
   have h4:¬ 36=c:=by omega
   have h5:¬ 37=c:=by omega
   have h6:¬ 50=c:=by omega
   simp only [efs,h1,h2,h3,h4,h5,h6,reduceIte]
  ·simp only [efs,q34,reduceIte,Nat.reduceEqDiff]
  ·simp only [efs,q35,reduceIte,Nat.reduceEqDiff]
  ·simp only [efs,reduceIte,Nat.reduceEqDiff];rfl
end Go.Proofs.Ytoklbkgcclkejaa.walk
set_option maxRecDepth 10000
namespace Go.Proofs.Ytoklbkgcclkejaa.walk
open Go.Abs Go.Proofs.Ytoklbkgcclkejaa.code
theorem SPost.more {h0:Heap} {s t:St} {lo pt pc:Nat} {v:AV} {rest:List (Nat × Nat)} {l:List PutR} {T T':(Int × Int) × List PutR} {k k':Nat} (a:SPost h0 s t lo pt pc v rest l T T' k) (h:k≤k'):SPost h0 s t lo pt pc v rest l T T' k' :=
 ⟨a.now,a.old,a.n,Nat.le_trans a.le (Nat.add_le_add_left h _),a.m,a.mle,a.or⟩
theorem bump_ge {H:HallR} (l:List PutR) (T:(Int × Int) × List PutR):¬ Bt (H.worth l) (bump H.worth l T).1:=by
 unfold bump
 by_cases h:Bt (H.worth l) T.1
 ·rw [if_pos h];exact nbt_self _
 ·rw [if_neg h];exact h
noncomputable def HallR.kindStep (H:HallR) (O:List (Int × Int)) (i:Nat) (l:List PutR) (T:(Int × Int) × List PutR) (k:Nat):(Int × Int) × List PutR :=
 if H.takesB l (yA (O.getD i (0,0)) k)=true then srch H.kinds.length H.takesB H.worth H.rent (O.drop (i+1)) (l++[yA (O.getD i (0,0)) k]) T else T
theorem srch_at {H:HallR} {O:List (Int × Int)} {i:Nat} (hi:i<O.length) (l:List PutR) (T:(Int × Int) × List PutR):srch H.kinds.length H.takesB H.worth H.rent (O.drop i) l T=if Bt (wplus (H.worth l) (H.hopeL (O.drop i))) (bump H.worth l T).1 then srch H.kinds.length H.takesB H.worth H.rent (O.drop (i+1)) l ((List.range H.kinds.length).foldl (H.kindStep O i l) (bump H.worth l T)) else bump H.worth l T:=by
 have e:O.drop i=O.getD i (0,0)::O.drop (i+1):=by
  rw [List.drop_eq_getElem_cons hi,List.getD_eq_getElem?_getD,List.getElem?_eq_getElem hi];rfl
 rw [e]
 rfl
theorem fold_snoc {α:Type} (f:α→Nat→α) (b:α) (i:Nat):(List.range (i+1)).foldl f b=f ((List.range i).foldl f b) i:=by
 rw [List.range_succ,List.foldl_append];rfl
theorem s_body (M m:Nat) (hM:8≤M) (cx:Ctx) {h0:Heap} {s:St} {lo pt pc ph ps po pf hb p rb q i:Nat} {sc:List AV} {v vo:AV} {rest:List (Nat × Nat)} {l:List PutR} {T:(Int × Int) × List PutR} {H:HallR} {vW vS vB vK:AV} {O:List (Int × Int)} {L:Env} (ok:H.Ok) (F:SFix h0 lo pt pc ph ps po pf hb p rb sc H vW vS vB vK vo O) (IH:∀ m',m=m'+1→SOk M m' h0 lo pt pc ph ps po pf H O) (S:SNow h0 s.h s.n lo pt pc v rest l T) (hpp:pt≤pc) (hg:H.Good l) (hl:l.length≤i) (him:i+m=O.length) (hq:lo≤q∧q<s.n∧jJ v≠some q) (gq:s.h.get q=some (.cells [.int .i64 (H.worth l).1,.int .i64 (H.worth l).2] (tag 120))) (hs:s.n+59999+wide m≤far) (hm:s.m≤far)
  (q0:L.find 0=v) (q2:L.find 2=.int .i64 (i:Int)) (q3:L.find 3=.ptr pt 0) (q4:L.find 4=.ptr pc 0) (q5:L.find 5=.ptr ph 0) (q6:L.find 6=.ptr ps 0) (q7:L.find 7=.ptr po 0) (q8:L.find 8=.ptr pf 0) (q10:L.find 10=.ptr q 0) :
  ∃ e L1 t1 kk,(zH (zH (zD K82r1 [17]) (jG (.tmp 17) (zv K82r2 []) jF)) (zH (zH (zv K82r3 [29]) (jG (.tmp 29) jT jF)) (zH (zH (zD K82r4 [34,35,36]) (zj 0 (yR K82l0))) (zD K82r11 [])))) (call Try.prog X M) cx L [] s=.done e L1 [] t1∧(e=.norm∨e=.ret)∧SPost h0 s t1 lo pt pc v rest l T (srch H.kinds.length H.takesB H.worth H.rent (O.drop i) l T) kk∧kk+1≤wide m:=by
 have hf:far=1000000000:=rfl
 have o8:=F.o8
 have k2:=F.k2
 have hlo:=S.lo
 have htl:=F.lt.2.1
 have hcl:=F.lt.2.2
 have hpc:pt≠pc:=F.ne.2.2
 have hw0:20≤wide m:=by
  cases m with
  | zero=>exact Nat.le_refl _
  | succ m=>show 20≤3 * (30+wide m)+30;omega
 obtain ⟨b,t1,e1,p1⟩:=s_bump M (by omega) cx S (by omega) hq gq ⟨htl,hcl,hpc,hpp⟩ (by omega) hm q0 q3 q4 q10
 have nbq:jJ v≠some q:=hq.2.2
 have S1:=p1.now
 have n1:=p1.n
 have l1:=p1.le
 have m1:=p1.mle
 have gq1:=(p1.old q hq.2.1 (by omega) (by omega) nbq).trans gq
 rw [gO,e1,vN,gO,gO]
 have e2:=s_hope M (by omega) cx (i:=i) (L:=L.set 17 (.bool b)) ok F S1 hg (by omega) (by omega) gq1 (by omega) (by omega) (by simp only [efs,q2,reduceIte,Nat.reduceEqDiff]) (by simp only [efs,q3,reduceIte,Nat.reduceEqDiff]) (by simp only [efs,q5,reduceIte,Nat.reduceEqDiff]) (by simp only [efs,q10,reduceIte,Nat.reduceEqDiff])
 rw [e2,vN]
 by_cases hB:Bt (wplus (H.worth l) (H.hopeL (O.drop i))) (bump H.worth l T).1
 ·match m,him,IH,hs,hw0 with
  | 0,him,_,_,_ =>
   exfalso
   have e:O.drop i=[]:=List.drop_eq_nil_of_le (by omega)
   rw [e] at hB
   have:wplus (H.worth l) (H.hopeL [])=H.worth l:=by
    show ((H.worth l).1+0,(H.worth l).2+0)=_
    rw [Int.add_zero,Int.add_zero]
   rw [this] at hB
   exact bump_ge l T hB
  | m'+1,him,IH,hs,_ =>
   have IH:=IH m' rfl
   have hwd:wide (m'+1)=3 * (30+wide m')+30:=rfl
   rw [hwd] at hs ⊢
   rw [srch_at (by omega),if_pos hB]
   have hbt:decide (Bt (wplus (H.worth l) (H.hopeL (O.drop i))) (bump H.worth l T).1)=true:=decide_eq_true hB
   rw [hbt]
   obtain ⟨T1,hT1⟩:∃ T1,T1=bump H.worth l T:=⟨_,rfl⟩
   rw [← hT1] at S1 p1 ⊢
   have W1:=F.at_ S1
   have kK:=W1.hH.k.okA
   have lK:=W1.hH.k.len
   have gs:=W1.bs
   have gp:=W1.g
   have hsk:=F.c.k
   -- the loop
   have loop:∀ (L0:Env) (r:R),jR K82l0 rounds (call Try.prog X M) cx L0 [] t1=r→((∀ c,c<11→L0.find c=L.find c)∧L0.find 34=vK∧L0.find 35=.int .i64 (H.kinds.length:Int)∧L0.find 36=.int .i64 0)→∃ L1 t,r=.done (.exit 0) L1 [] t∧(∀ c,c<11→L1.find c=L.find c)∧SPost h0 t1 t lo pt pc v rest l T1 ((List.range H.kinds.length).foldl (H.kindStep O i l) T1) (H.kinds.length * (30+wide m')):=by
    intro L0 r hlp ⟨l1',l34,l35,l36⟩
    obtain ⟨e,L1,t,rfl,rfl,j⟩:=jj hlp
     (fun k L1 t=>((∀ c,c<11→L1.find c=L.find c)∧L1.find 34=vK∧L1.find 35=.int .i64 (H.kinds.length:Int)∧L1.find 36=.int .i64 (k:Int))∧SPost h0 t1 t lo pt pc v rest l T1 ((List.range k).foldl (H.kindStep O i l) T1) (k * (30+wide m')))
     (fun e L1 t=>e=.exit 0∧(∀ c,c<11→L1.find c=L.find c)∧SPost h0 t1 t lo pt pc v rest l T1 ((List.range H.kinds.length).foldl (H.kindStep O i l) T1) (H.kinds.length * (30+wide m'))) H.kinds.length (by unfold rounds;omega)
     ⟨⟨l1',l34,l35,l36⟩,by rw [Nat.zero_mul];exact SPost.refl S1⟩
     (fun k L1 t hk ⟨⟨a1,a34,a35,a36⟩,po⟩=>by
      by_cases hlt:k<H.kinds.length
      ·have hmul:k * (30+wide m')≤1 * (30+wide m'):=Nat.mul_le_mul_right _ (by omega)
       have g1:=po.n
       have g2:=po.le
       have g3:=po.mle
       have gq2:=(po.old q (by omega) (by omega) (by omega) nbq).trans gq1
       obtain ⟨L2,t2,w1,w2,w3,w34,w35,w36⟩:=s_round M m' hM cx ok F IH po.now hpp hg hl (by omega) hlt ⟨hq.1,by omega,nbq⟩ gq2 (by omega) (by omega) (by rw [a1 0 (by omega)];exact q0) (by rw [a1 2 (by omega)];exact q2) (by rw [a1 6 (by omega)];exact q6) (by rw [a1 7 (by omega)];exact q7) (by rw [a1 8 (by omega)];exact q8) (by rw [a1 10 (by omega)];exact q10) a34 a35 a36
       refine .inl ⟨hlt,L2,t2,w1,⟨fun c hc=>(w3 c hc).trans (a1 c hc),w34,w35,w36⟩,?_⟩
       rw [fold_snoc,Nat.succ_mul]
       exact po.trans w2
      ·obtain rfl:k=H.kinds.length:=by omega
       have e0:decide ((H.kinds.length:Int)<(H.kinds.length:Int))=false:=decide_eq_false (by omega)
       refine .inr ⟨.exit 0,L1.set 37 (.bool false),t,by simp,?_,rfl,fun c hc=>?_,po⟩
       ·simp (disch:=first|omega|with_unfolding_all exact rfl) only [K82l0,K82r5,Abs.W,reduceIte,Nat.reduceEqDiff,Nat.reduceAdd,Nat.reduceSub,a35,a36,e0,Nat.zero_add]
       ·have h5:¬ 37=c:=by omega
        simp only [efs,h5,reduceIte]
        exact a1 c hc)
    exact ⟨L1,t,rfl,j⟩
   have ad2:∀ s,jK s .i64 (i:Int) 1=.val (.int .i64 ((i+1:Nat):Int)) s:=fun s=>by rw [zd s _ _ (by omega)];rfl
   simp (disch:=first|omega|with_unfolding_all exact rfl) only [K82r4,Abs.W,reduceIte,Nat.reduceEqDiff,Nat.reduceAdd,Nat.reduceSub,q6,gs,gp,hsk,kK,lK,Nat.zero_add]
   generalize hlp:jR _ rounds _ _ _ _ _=r1
   obtain ⟨L1,t,rfl,fk,po⟩:=loop _ _ hlp ⟨fun c hc=>by
    have h1:¬ 36=c:=by omega
    have h2:¬ 35=c:=by omega
    have h3:¬ 34=c:=by omega
    have h4:¬ 29=c:=by omega
    have h5:¬ 17=c:=by omega
    simp only [efs,h1,h2,h3,h4,h5,reduceIte],by simp only [efs,reduceIte,Nat.reduceEqDiff],by simp only [efs,reduceIte,Nat.reduceEqDiff],by simp only [efs,reduceIte,Nat.reduceEqDiff]⟩
   have g1:=po.n
   have g2:=po.le
   have g3:=po.mle
   have hmul:H.kinds.length * (30+wide m')≤2 * (30+wide m'):=Nat.mul_le_mul_right _ (by omega)
   have St:=po.now
   have gq2:=(po.old q (by omega) (by omega) (by omega) nbq).trans gq1
   obtain ⟨pfz,gf⟩:=(F.at_ St).bf
   have kv:=(St.fam.puts (no:=fun _=>True) fun _ _ _=>trivial).okA
   have f0:=(fk 0 (by omega)).trans q0
   have f2:=(fk 2 (by omega)).trans q2
   have f8:=(fk 8 (by omega)).trans q8
   have f10:=(fk 10 (by omega)).trans q10
   obtain ⟨u,e5,p5⟩:=IH t v rest l ((List.range H.kinds.length).foldl (H.kindStep O i l) T1) (i+1) (by omega) St hg (by omega) (by omega) (by omega)
   simp (disch:=first|omega|with_unfolding_all exact rfl) only [K82r11,Abs.W,reduceIte,Nat.reduceEqDiff,Nat.reduceAdd,Nat.reduceSub,f0,f2,f8,f10,gf,kv,wJ,gq2,ad2,e5,Nat.zero_add]
   exact ⟨_,_,_,_,rfl,.inl rfl,(p1.trans po).trans p5,by omega⟩
 ·have hbt:decide (Bt (wplus (H.worth l) (H.hopeL (O.drop i))) (bump H.worth l T).1)=false:=decide_eq_false hB
  rw [hbt]
  have hT':srch H.kinds.length H.takesB H.worth H.rent (O.drop i) l T=bump H.worth l T:=by
   by_cases hi:i<O.length
   ·rw [srch_at hi,if_neg hB]
   ·rw [List.drop_eq_nil_of_le (by omega)];rfl
  rw [hT']
  simp (disch:=first|omega|with_unfolding_all exact rfl) only [Abs.W,reduceIte,Nat.reduceEqDiff,Nat.reduceAdd,Nat.reduceSub,Nat.zero_add]
  exact ⟨_,_,_,_,rfl,.inr rfl,p1,by omega⟩
theorem s_call {M m:Nat} (hM:8≤M) {h0:Heap} {lo pt pc ph ps po pf hb p rb:Nat} {sc:List AV} {vo:AV} {H:HallR} {vW vS vB vK:AV} {O:List (Int × Int)} (ok:H.Ok) (F:SFix h0 lo pt pc ph ps po pf hb p rb sc H vW vS vB vK vo O) (hpp:pt≤pc) (IH:∀ m',m=m'+1→SOk M m' h0 lo pt pc ph ps po pf H O):SOk (M+1) m h0 lo pt pc ph ps po pf H O:=by
 intro s v rest l T i him S hg hl hs hm
 have hf:far=1000000000:=rfl
 have htl:=F.lt.2.1
 have hcl:=F.lt.2.2
 have hlo:=S.lo
 obtain ⟨T',hT'⟩:∃ T',T'=srch H.kinds.length H.takesB H.worth H.rent (O.drop i) l T:=⟨_,rfl⟩
 rw [← hT']
 obtain ⟨w,t,mm,e,⟨rfl,q1,q2,q3,q4,q5,q6⟩,hm'⟩:=call_any (n:=M) (args:=[v,.agg [.int .i64 (H.worth l).1,.int .i64 (H.worth l).2],.int .i64 (i:Int),.ptr pt 0,.ptr pc 0,.ptr ph 0,.ptr ps 0,.ptr po 0,.ptr pf 0]) (s:=s) (Q:=fun w h n m'=>w=.tup []∧SNow h0 h n lo pt pc v rest l T'∧(∀ b,b<s.n→b≠pt→b≠pc→jJ v≠some b→h.get b=s.h.get b)∧s.n≤n∧n≤s.n+wide m∧(∀ k,k≤pt→k≤pc→k≤m')∧(m'≤pt∨T'=T)) Try.func82 rfl (fun U uh un um=>by
  have S':=S
  rw [← uh,← un] at S'
  have hbl:=S'.fam.block
  obtain ⟨w,hw⟩:∃ w:St,w=U.new (.cells [.int .i64 (H.worth l).1,.int .i64 (H.worth l).2] (tag 120)):=⟨_,rfl⟩
  have wn:w.n=U.n+1:=by rw [hw];rfl
  have wm:w.m=far:=by rw [hw];exact um
  have wg:∀ c,c<U.n→w.h.get c=U.h.get c:=fun c hc=>by rw [hw,zG _ _ _ (by omega)]
  have wq:w.h.get U.n=some (.cells [.int .i64 (H.worth l).1,.int .i64 (H.worth l).2] (tag 120)):=by rw [hw];exact zM _ _ _ rfl (by omega)
  have Sw:SNow h0 w.h w.n lo pt pc v rest l T:=S'.grow wg (by omega) (by omega)
  rw [enter82]
  unfold K82
  rw [gO]
  have e0:∃ L,(zD K82r0 [10]) (call Try.prog X M) ⟨82,none,Try.f82.ntmps,X 82⟩ (zQ 0 [v,.agg [.int .i64 (H.worth l).1,.int .i64 (H.worth l).2],.int .i64 (i:Int),.ptr pt 0,.ptr pc 0,.ptr ph 0,.ptr ps 0,.ptr po 0,.ptr pf 0] .nil) [] U=.done .norm L [] w∧L.find 0=v∧L.find 2=.int .i64 (i:Int)∧L.find 3=.ptr pt 0∧L.find 4=.ptr pc 0∧L.find 5=.ptr ph 0∧L.find 6=.ptr ps 0∧L.find 7=.ptr po 0∧L.find 8=.ptr pf 0∧L.find 10=.ptr U.n 0:=by
   simp (disch:=first|omega|with_unfolding_all exact rfl) only [K82r0,Abs.W,reduceIte,Nat.reduceEqDiff,Nat.reduceAdd,Nat.reduceSub]
   rw [← hw]
   refine ⟨_,rfl,?_,?_,?_,?_,?_,?_,?_,?_,?_⟩<;>simp only [zJ,efs,reduceIte,Nat.reduceEqDiff]
  obtain ⟨L,e0,f0,f2,f3,f4,f5,f6,f7,f8,f10⟩:=e0
  rw [e0,vN]
  obtain ⟨e,L1,t1,kk,e1,he,po,hkk⟩:=s_body M m hM ⟨82,none,Try.f82.ntmps,X 82⟩ ok F IH Sw hpp hg hl him ⟨by omega,by omega,fun h=>by have:=hbl _ h;omega⟩ wq (by omega) (by omega) f0 f2 f3 f4 f5 f6 f7 f8 f10
  rw [e1,← hT'] at *
  obtain ⟨r1,r2,r3,r4,r5,r6,r7⟩:=po
  have hfin:yF Try.prog Try.f82 (.done e L1 [] t1)=.val (.tup []) t1:=by
   rcases he with rfl | rfl
   ·rw [finA_norm,res82,leave_nil]
   ·rw [finA_ret,res82,leave_nil]
  refine ⟨_,_,hfin,⟨rfl,r1,fun b h1 h2 h3 h4=>by rw [r2 b (by omega) h2 h3 h4,wg b (by omega),uh],by omega,by omega,fun k h1 h2=>r5 k h1 h2 (by omega),r7⟩,fun _ hle=>?_⟩
  have hTT:T'=T:=by
   rcases r7 with h | h
   ·omega
   ·exact h
  exact ⟨rfl,by rw [hTT];exact S,fun _ _ _ _ _=>rfl,Nat.le_refl _,Nat.le_add_right _ _,fun k h1 h2=>r5 k h1 h2 (by omega),.inr hTT⟩)
 refine ⟨t,e,q1,q2,q3,q4,fun k h1 h2 h3=>?_,?_,?_⟩
 ·have:=q5 k h1 h2
  rcases hm' with ⟨_,hm'⟩ | ⟨_,hm'⟩<;>omega
 ·rcases hm' with ⟨_,hm'⟩ | ⟨_,hm'⟩<;>omega
 ·rcases q6 with h | h
  ·left
   rcases hm' with ⟨_,hm'⟩ | ⟨_,hm'⟩<;>omega
  ·exact .inr h
theorem s_ok {h0:Heap} {lo pt pc ph ps po pf hb p rb:Nat} {sc:List AV} {vo:AV} {H:HallR} {vW vS vB vK:AV} {O:List (Int × Int)} (ok:H.Ok) (F:SFix h0 lo pt pc ph ps po pf hb p rb sc H vW vS vB vK vo O) (hpp:pt≤pc):∀ (m N:Nat),9+m≤N→SOk N m h0 lo pt pc ph ps po pf H O
 | m,N,hN=>by
  obtain ⟨M,rfl⟩:∃ M,N=M+1:=⟨N - 1,by omega⟩
  refine s_call (by omega) ok F hpp fun m' h=>?_
  subst h
  exact s_ok ok F hpp m' M (by omega)
 termination_by m=>m
end Go.Proofs.Ytoklbkgcclkejaa.walk
set_option maxRecDepth 10000
namespace Go.Proofs.Ytoklbkgcclkejaa.walk
open Go.Abs Go.Proofs.Ytoklbkgcclkejaa.code
theorem wide_le:∀ {m:Nat},m≤6→wide m≤60000
 | 0,_=>by decide
 | 1,_=>by decide
 | 2,_=>by decide
 | 3,_=>by decide
 | 4,_=>by decide
 | 5,_=>by decide
 | 6,_=>by decide
 | m+7,h=>by omega
def MadeAt (h:Heap) (lo n:Nat) (C:List PutR) (v:AV):Prop:=(C=[]∧v=.nilslice)∨∃ b,lo≤b∧b<n∧v=.slice b 0 C.length C.length true∧C≠[]∧h.get b=some (.cells (vA C) (3+tag 51))
theorem MadeAt.sl {h:Heap} {lo n:Nat} {C:List PutR} {v:AV} (r:MadeAt h lo n C v):Sl (fun b=>lo≤b) h n 3 (C.map PutR.row) v:=by
 have wd:∀ x ∈ C.map PutR.row,x.length=3:=fun x hx=>by obtain ⟨p,_,rfl⟩:=List.mem_map.mp hx;rfl
 rcases r with ⟨rfl,rfl⟩ | ⟨b,h1,h2,rfl,h4,h5⟩
 ·exact Sl.nil _ _ _ _
 ·refine ⟨wd,.inr ⟨b,0,C.length,true,_,_,h2,h1,⟨by rw [List.length_map];exact Nat.le_refl _,fun _=>List.length_pos_iff.mpr h4⟩,by rw [List.length_map],h5,?_⟩⟩
  rw [yS,← jy wd]
  exact vQ _
theorem bestl_ex {N:Nat} {no:Nat→Prop} {sc:List AV} {H:HallR} {vW vS vB vK v:AV} {rb p:Nat} {O:List (Int × Int)} {s:St} {r:ARes} (hr:call Try.prog X N (.fn 57) [.ptr p 0,v] s=r) (hN:20≤N) (hS:SiteC sc H vW vS vB vK rb) (ok:H.Ok) (hH:HallAt no s.h s.n H vW vS vB vK) (g:s.h.get p=some (vX sc)) (gr:s.h.get rb=some (.cells (ZZ p) 0)) (hp:p<s.n) (hrb:rb<s.n) (hO:Sl no s.h s.n 2 (O.map jE) v) (hin:∀ c ∈ O,H.In c) (h6:O.length≤6) (hk2:H.kinds.length≤2) (hs:s.n+200000≤far) :
  ∃ w t,r=.val w t∧New s t 70000∧MadeAt t.h s.n t.n (srch H.kinds.length H.takesB H.worth H.rent O [] ((0,0),[])).2 w:=by
 obtain ⟨M,rfl⟩:∃ M,N=M+1:=⟨N - 1,by omega⟩
 have hf:far=1000000000:=rfl
 obtain ⟨T',hT'⟩:∃ T',T'=srch H.kinds.length H.takesB H.worth H.rent O [] ((0,0),[]):=⟨_,rfl⟩
 rw [← hT']
 obtain ⟨w,t,e,st,hQ⟩:=call_new' (n:=M) (args:=[.ptr p 0,v]) (s:=s) (k:=70000) (Q:=fun w h n=>MadeAt h s.n n T'.2 w) Try.func57 rfl (fun u uh un um=>by
  rw [← uh,← un] at hH hO
  rw [← uh] at g gr
  rw [← un] at hp hrb hs ⊢
  have kv:=hO.okA
  have bx:∀ sz s,boxA sz s v=.val (.ptr s.n 0) (s.new (.cells [v] sz)):=fun sz s=>by
   rcases hO.is with ⟨_,h⟩ | ⟨_,_,_,_,_,_,_,_,_,h,_⟩<;>rw [h]<;>rfl
  have bxp:∀ sz s,boxA sz s (.ptr p 0)=.val (.ptr s.n 0) (s.new (.cells [.ptr p 0] sz)):=fun _ _=>rfl
  obtain ⟨w,hw⟩:∃ w:St,w=(u.new (.cells [.ptr p 0] (tag 78))).new (.cells [v] (tag 25)):=⟨_,rfl⟩
  have wn:w.n=u.n+2:=by rw [hw];rfl
  have wm:w.m=far:=by rw [hw];exact um
  have wg:∀ c,c<u.n→w.h.get c=u.h.get c:=fun c hc=>by rw [hw,zG _ _ _ (by simp only [zT];omega),zG _ _ _ (by omega)]
  have w2:w.h.get u.n=some (.cells [.ptr p 0] (tag 78)):=by rw [hw,zG _ _ _ (by simp only [zT];omega)];exact zM _ _ _ rfl (by omega)
  have w3:w.h.get (u.n+1)=some (.cells [v] (tag 25)):=by rw [hw];exact zM _ _ _ rfl (by simp only [zT];omega)
  rw [enter57]
  simp (disch:=first|omega|with_unfolding_all exact rfl) only [K57,K57r0,Abs.W,reduceIte,Nat.reduceEqDiff,Nat.reduceAdd,Nat.reduceSub,bx,bxp,zT]
  rw [← hw]
  simp (disch:=first|omega|with_unfolding_all exact rfl) only [K57r1,Abs.W,reduceIte,Nat.reduceEqDiff,Nat.reduceAdd,Nat.reduceSub,w2,w3,kv,Nat.zero_add]
  generalize hc1:call _ _ _ (.fn 81) _ _=r1
  obtain ⟨t1,hb,rfl,st1,hb1,hb2,hb3⟩:=hope_ex hc1 (by omega) hS ok (hH.grow wg (by omega)) ((wg p hp).trans g) ((wg rb hrb).trans gr) (by omega) (by omega) (hO.grow wg (by omega)) hin (by omega) (by omega)
  have n1:=st1.n
  have k1:=st1.le
  have m1:t1.m=far:=st1.m.trans wm
  obtain ⟨vh,hvh⟩:∃ vh:AV,vh=.slice hb 0 (O.length+1) (O.length+1) false:=⟨_,rfl⟩
  have kh:∀ t,okA (.val vh t)=.val vh t:=fun t=>by rw [hvh];rfl
  rw [← hvh]
  obtain ⟨y,hy⟩:∃ y:St,y=(t1.new (.cells [.nilslice] (tag 117))).put t1.n (.cells [vh] (tag 117)):=⟨_,rfl⟩
  have sty:jL 1 (t1.new (.cells [.nilslice] (tag 117))) vh (.ptr t1.n 0)=.val .undef y:=by
   rw [hy];exact jf (zM _ _ _ rfl (by omega)) (by show 0<1;omega) (by rw [hvh];rfl) (by rw [hvh];rfl)
  have yn:y.n=t1.n+1:=by rw [hy];rfl
  have ym:y.m=min far t1.n:=by rw [hy];simp only [St.put,zP,zN,m1]
  have yg:∀ c,c<t1.n→y.h.get c=t1.h.get c:=fun c hc=>by rw [hy,zI _ _ _ _ (by omega),zG _ _ _ (by omega)]
  have yp:y.h.get t1.n=some (.cells [vh] (tag 117)):=by rw [hy];exact zO _ _ _ _ rfl (by omega)
  simp (disch:=first|omega|with_unfolding_all exact rfl) only [Abs.W,reduceIte,Nat.reduceEqDiff,Nat.reduceAdd,Nat.reduceSub,kh,sty,Nat.zero_add]
  clear hy sty
  obtain ⟨x,hx⟩:∃ x:St,x=((y.new (.cells [.int .i64 0,.int .i64 0] (tag 120))).new (.cells [.nilslice] (tag 32))).new (.cells [.nilfunc] (tag 121)):=⟨_,rfl⟩
  have xn:x.n=y.n+3:=by rw [hx];rfl
  have xm:x.m=y.m:=by rw [hx];rfl
  have xg:∀ c,c<y.n→x.h.get c=y.h.get c:=fun c hc=>by rw [hx,zG _ _ _ (by simp only [zT];omega),zG _ _ _ (by simp only [zT];omega),zG _ _ _ (by omega)]
  have x1:x.h.get y.n=some (.cells [.int .i64 0,.int .i64 0] (tag 120)):=by rw [hx,zG _ _ _ (by simp only [zT];omega),zG _ _ _ (by simp only [zT];omega)];exact zM _ _ _ rfl (by omega)
  have x2:x.h.get (y.n+1)=some (.cells [.nilslice] (tag 32)):=by rw [hx,zG _ _ _ (by simp only [zT];omega)];exact zM _ _ _ rfl (by simp only [zT];omega)
  have x3:x.h.get (y.n+2)=some (.cells [.nilfunc] (tag 121)):=by rw [hx];exact zM _ _ _ rfl (by simp only [zT];omega)
  simp (disch:=first|omega|with_unfolding_all exact rfl) only [K57r2,K57r3,K57r4,Abs.W,reduceIte,Nat.reduceEqDiff,Nat.reduceAdd,Nat.reduceSub,zT,Nat.zero_add]
  rw [← hx]
  obtain ⟨z,hz⟩:∃ z:St,z=x.put (y.n+2) (.cells [.func 82 [] [.ptr y.n 0,.ptr (y.n+1) 0,.ptr t1.n 0,.ptr u.n 0,.ptr (u.n+1) 0,.ptr (y.n+2) 0]] (tag 121)):=⟨_,rfl⟩
  have stz:jL 1 x (.func 82 [] [.ptr y.n 0,.ptr (y.n+1) 0,.ptr t1.n 0,.ptr u.n 0,.ptr (u.n+1) 0,.ptr (y.n+1+1) 0]) (.ptr (y.n+1+1) 0)=.val .undef z:=by
   rw [hz];exact jf x3 (by show 0<1;omega) rfl rfl
  have zn:z.n=y.n+3:=by rw [hz,zW];exact xn
  have zm:z.m=min (min far t1.n) (y.n+2):=by rw [hz];simp only [St.put,zP,xm,ym]
  have zg:∀ c,c≠y.n+2→z.h.get c=x.h.get c:=fun c hc=>by rw [hz,zI _ _ _ _ hc]
  have z8:z.h.get (y.n+2)=some (.cells [.func 82 [] [.ptr y.n 0,.ptr (y.n+1) 0,.ptr t1.n 0,.ptr u.n 0,.ptr (u.n+1) 0,.ptr (y.n+2) 0]] (tag 121)):=by rw [hz];exact zO _ _ _ _ rfl (by omega)
  simp (disch:=first|omega|with_unfolding_all exact rfl) only [K57r5,Abs.W,reduceIte,Nat.reduceEqDiff,Nat.reduceAdd,Nat.reduceSub,kFuncE,stz,Nat.zero_add]
  clear hz stz hx
  have zy:∀ c,c<y.n→z.h.get c=y.h.get c:=fun c hc=>(zg c (by omega)).trans (xg c hc)
  have zt:∀ c,c<t1.n→z.h.get c=t1.h.get c:=fun c hc=>(zy c (by omega)).trans (yg c hc)
  have zu:∀ c,c<u.n→z.h.get c=u.h.get c:=fun c hc=>(zt c (by omega)).trans ((st1.same c (by omega)).trans (wg c hc))
  have z2:=(zt u.n (by omega)).trans ((st1.same u.n (by omega)).trans w2)
  have z3:=(zt (u.n+1) (by omega)).trans ((st1.same (u.n+1) (by omega)).trans w3)
  have zh:=(zy t1.n (by omega)).trans yp
  have z6:=(zg y.n (by omega)).trans x1
  have z7:=(zg (y.n+1) (by omega)).trans x2
  have zb:=(zt hb hb2).trans hb3
  have F:SFix z.h z.n y.n (y.n+1) t1.n u.n (u.n+1) (y.n+2) hb p rb sc H vW vS vB vK v O :=
   { bh:=by rw [zh,hvh],bb:=zb,bs:=z2,bo:=z3,bf:=⟨_,z8⟩,c:=hS,g:=(zu p hp).trans g,gr:=(zu rb hrb).trans gr,hH:=hH.move (fun b h1 _=>⟨zu b h1,by omega,by omega⟩) (by omega),hO:=hO.move (fun b h1 _=>⟨zu b h1,by omega,by omega⟩) (by omega),lt:=⟨⟨by omega,by omega,by omega,by omega,by omega,by omega,by omega⟩,by omega,by omega⟩,ne:=⟨⟨by omega,by omega,by omega,by omega,by omega,by omega,by omega⟩,⟨by omega,by omega,by omega,by omega,by omega,by omega,by omega⟩,by omega⟩,oin:=hin,o8:=h6,k2:=hk2 }
  have S:SNow z.h z.h z.n z.n y.n (y.n+1) .nilslice [] [] ((0,0),[]) :=
   ⟨fun _ _ _ _=>rfl,z6,⟨.nilslice,z7,.inl ⟨rfl,rfl⟩⟩,.inl ⟨rfl,rfl,rfl⟩,Nat.le_refl _⟩
  have hwl:=wide_le h6
  obtain ⟨t2,e2,po⟩:=s_ok ok F (Nat.le_succ _) O.length M (by omega) z .nilslice [] [] ((0,0),[]) 0 (Nat.zero_add _) S (Zq ok) (Nat.le_refl _) (by omega) (by omega)
  have hw0:H.worth []=(0,0):=rfl
  rw [hw0,List.drop_zero,← hT'] at *
  have e2':call Try.prog X M (.fn 82) [.nilslice,.agg [.int .i64 0,.int .i64 0],.int .i64 0,.ptr y.n 0,.ptr (y.n+1) 0,.ptr t1.n 0,.ptr u.n 0,.ptr (u.n+1) 0,.ptr (y.n+2) 0] z=.val (.tup []) t2:=e2
  obtain ⟨r1,r2,r3,r4,r5,r6,r7⟩:=po
  obtain ⟨_,_,⟨vc,c1,c2⟩,_,_⟩:=r1
  have kc:∀ t,okA (.val vc t)=.val vc t:=fun t=>by
   rcases c2 with ⟨_,h⟩ | ⟨_,_,_,h,_⟩<;>rw [h]<;>rfl
  have z8':z.h.get (y.n+1+1)=_:=z8
  simp (disch:=first|omega|with_unfolding_all exact rfl) only [K57r6,K57r7,Abs.W,reduceIte,Nat.reduceEqDiff,Nat.reduceAdd,Nat.reduceSub,z8',wJ,e2',c1,kc,Nat.zero_add]
  rw [res57]
  simp (disch:=first|omega|with_unfolding_all exact rfl) only [Abs.W,reduceIte,Nat.reduceEqDiff,Nat.reduceAdd,Nat.reduceSub,kc]
  refine ⟨_,_,rfl,⟨fun c hc=>?_,by omega,by omega,?_,by omega⟩,?_,fun hp=>?_⟩
  ·exact (r2 c (by omega) (by omega) (by omega) (by simp [jJ])).trans (zu c hc)
  ·exact r5 u.n (by omega) (by omega) (by omega)
  ·rcases c2 with h | ⟨bc,h1,h2,h3,h4,_,h6⟩
   ·exact .inl h
   ·exact .inr ⟨bc,by omega,h2,h3,h4,h6⟩
  ·rcases c2 with h | ⟨bc,h1,h2,h3,h4,_,h6⟩
   ·exact .inl h
   ·rw [h3] at hp;cases hp)
 exact ⟨w,t,hr.symm.trans e,st,hQ⟩
end Go.Proofs.Ytoklbkgcclkejaa.walk
set_option maxRecDepth 10000
namespace Go.Proofs.Ytoklbkgcclkejaa.walk
open Go.Abs Go.Proofs.Ytoklbkgcclkejaa.code
theorem best_ex {N:Nat} {no:Nat→Prop} {H:HallR} {vW vS vB vK:AV} {s:St} {r:ARes} (hr:call Try.prog X N (.fn 29) [.agg (zY H vW vS vB vK)] s=r) (hN:30≤N) (ok:H.Ok) (hH:HallAt no s.h s.n H vW vS vB vK) (h6:H.opens.length≤6) (hk2:H.kinds.length≤2) (hs:s.n+300000≤far) :
  ∃ w t,r=.val (.tup [w,.int .i64 0]) t∧New s t 90000∧MadeAt t.h s.n t.n H.best.2 w:=by
 obtain ⟨M,rfl⟩:∃ M,N=M+1:=⟨N - 1,by omega⟩
 have hf:far=1000000000:=rfl
 obtain ⟨vv,t,e,st,w,rfl,hQ⟩:=call_new' (n:=M) (args:=[.agg (zY H vW vS vB vK)]) (s:=s) (k:=90000) (Q:=fun v h n=>∃ w,v=.tup [w,.int .i64 0]∧MadeAt h s.n n H.best.2 w) Try.func29 rfl (fun u uh un um=>by
  rw [← uh,← un] at hH
  rw [← un] at hs ⊢
  obtain ⟨w,hw⟩:∃ w:St,w=u.new (.cells (zY H vW vS vB vK) (tag 30)):=⟨_,rfl⟩
  have wn:w.n=u.n+1:=by rw [hw];rfl
  have wm:w.m=far:=by rw [hw];exact um
  have wg:∀ c,c<u.n→w.h.get c=u.h.get c:=fun c hc=>by rw [hw,zG _ _ _ (by omega)]
  have w1:w.h.get u.n=some (.cells (zY H vW vS vB vK) (tag 30)):=by rw [hw];exact zM _ _ _ rfl (by omega)
  have hHw:HallAt no w.h w.n H vW vS vB vK:=hH.grow wg (by omega)
  have eck:=hallCheck_ok M (by omega) H ok vW vS vB vK w hHw (by omega)
  have z0:decide ((0:Int)=0)=true:=rfl
  rw [enter29]
  simp (disch:=first|omega|with_unfolding_all exact rfl) only [K29,K29r0,Abs.W,reduceIte,Nat.reduceEqDiff,Nat.reduceAdd,Nat.reduceSub,zT]
  rw [← hw]
  simp (disch:=first|omega|with_unfolding_all exact rfl) only [K29r1,K29r2,K29r4,Abs.W,reduceIte,Nat.reduceEqDiff,Nat.reduceAdd,Nat.reduceSub,w1,eck,z0,Nat.zero_add]
  generalize hc1:call _ _ _ (.fn 44) _ _=r1
  obtain ⟨t1,p,rfl,st1,hp,sc,rb,hC,hpn,hrb,g,gr⟩:=siteOf_ex hc1 (by omega) ok hHw (by omega)
  have n1:=st1.n
  have k1:=st1.le
  have m1:t1.m=far:=st1.m.trans wm
  have t1g:∀ c,c<u.n→t1.h.get c=u.h.get c:=fun c hc=>(st1.same c (by omega)).trans (wg c hc)
  simp (disch:=first|omega|with_unfolding_all exact rfl) only [K29r5,Abs.W,reduceIte,Nat.reduceEqDiff,Nat.reduceAdd,Nat.reduceSub,Nat.zero_add]
  generalize hc2:call _ _ _ (.fn 56) _ _=r2
  obtain ⟨vo,t2,rfl,st2,hO⟩:=opens_ex hc2 (by omega) hC ok g hpn (by omega)
  have n2:=st2.n
  have k2:=st2.le
  have m2:t2.m=far:=st2.m.trans m1
  have ko:=hO.okA
  have lo:=slCells hO
  have d8:decide ((8:Int)<(H.opens.length:Int))=false:=decide_eq_false (by omega)
  simp (disch:=first|omega|with_unfolding_all exact rfl) only [K29r6,K29r8,Abs.W,reduceIte,Nat.reduceEqDiff,Nat.reduceAdd,Nat.reduceSub,ko,lo,d8,Nat.zero_add]
  generalize hc3:call _ _ _ (.fn 57) _ _=r3
  have hH2:HallAt (fun _=>True) t2.h t2.n H vW vS vB vK:=hH.move (fun c h1 _=>⟨(st2.same c (by omega)).trans (t1g c h1),trivial⟩) (by omega)
  obtain ⟨vc,t3,rfl,st3,hM⟩:=bestl_ex (no:=fun _=>True) hc3 (by omega) hC ok hH2 ((st2.same p (by omega)).trans g) ((st2.same rb (by omega)).trans gr) (by omega) (by omega) (hO.move (fun c _ _=>⟨rfl,trivial⟩) (Nat.le_refl _)) (fun c hc=>Je ok.w0 c (List.mem_filter.mp hc).1) h6 hk2 (by omega)
  have n3:=st3.n
  have k3:=st3.le
  have m3:t3.m=far:=st3.m.trans m2
  have kc:∀ t,okA (.val vc t)=.val vc t:=hM.sl.okA
  simp (disch:=first|omega|with_unfolding_all exact rfl) only [Abs.W,reduceIte,Nat.reduceEqDiff,Nat.reduceAdd,Nat.reduceSub,kc,Nat.zero_add]
  rw [res29,leave_two]
  simp only [efs,zJ,reduceIte,Nat.reduceEqDiff]
  have hb:srch H.kinds.length H.takesB H.worth H.rent H.opens [] ((0,0),[])=H.best:=rfl
  rw [hb] at hM
  refine ⟨_,_,rfl,⟨fun c hc=>(st3.same c (by omega)).trans ((st2.same c (by omega)).trans (t1g c hc)),by omega,by omega,by omega,by omega⟩,⟨vc,rfl,?_⟩,fun hpl=>?_⟩
  ·rcases hM with h | ⟨b,h1,h2,h3⟩
   ·exact .inl h
   ·exact .inr ⟨b,by omega,h2,h3⟩
  ·rcases hM with h | ⟨b,h1,h2,h3,_⟩
   ·exact ⟨vc,rfl,.inl h⟩
   ·rw [h3] at hpl;cases hpl)
 exact ⟨w,t,hr.symm.trans e,st,hQ⟩
end Go.Proofs.Ytoklbkgcclkejaa.walk
set_option maxRecDepth 10000
namespace Go.Proofs.Ytoklbkgcclkejaa.walk
open Go.Abs Go.Proofs.Ytoklbkgcclkejaa.code
theorem earns_ok (N:Nat) (hN:10≤N) {no:Nat→Prop} {H:HallR} {vW vS vB vK:AV} {l:List PutR} {v:AV} {s:St} (ok:H.Ok) (hH:HallAt no s.h s.n H vW vS vB vK) (hR:Sl no s.h s.n 3 (l.map PutR.row) v) (hl:∀ q ∈ l,q.In H) (hl1:l.length≤24) (hv:H.Valid l) (hs:s.n+60000≤far) :
  call Try.prog X N (.fn 23) [.agg (zY H vW vS vB vK),v] s=.val (.tup [.int .i64 (tot (H.rents l) 0),.int .i64 0]) s:=by
 obtain ⟨n,rfl⟩:∃ n,N=n+1:=⟨N - 1,by omega⟩
 have hf:far=1000000000:=rfl
 refine zr Try.func23 (fun u uh un um=>?_) rfl
 rw [← uh,← un] at hH hR
 have kv:=hR.okA
 have lv:=slPuts hR
 obtain ⟨w,hw⟩:∃ w:St,w=u.new (.cells (zY H vW vS vB vK) (tag 30)):=⟨_,rfl⟩
 have wn:w.n=u.n+1:=by rw [hw];rfl
 have wm:w.m=far:=by rw [hw];exact um
 have wg:∀ c,c<u.n→w.h.get c=u.h.get c:=fun c hc=>by rw [hw,zG _ _ _ (by omega)]
 have w0:w.h.get u.n=some (.cells (zY H vW vS vB vK) (tag 30)):=by rw [hw];exact zM _ _ _ rfl (by omega)
 have hHw:HallAt no w.h w.n H vW vS vB vK:=hH.grow wg (by omega)
 have hRw:=hR.grow wg (by omega:u.n≤w.n)
 obtain ⟨e0,ec,hz⟩:=checkLayout_ex (N:=n) rfl (by omega) ok hHw hRw hl hl1 (by omega)
 rw [hz.mpr hv] at ec
 have z0:decide ((0:Int)=0)=true:=rfl
 rw [enter23]
 simp (disch:=first|omega|with_unfolding_all exact rfl) only [K23,K23r0,Abs.W,reduceIte,Nat.reduceEqDiff,Nat.reduceAdd,Nat.reduceSub]
 rw [← hw]
 simp (disch:=first|omega|with_unfolding_all exact rfl) only [K23r1,K23r2,K23r4,K23r5,Abs.W,reduceIte,Nat.reduceEqDiff,Nat.reduceAdd,Nat.reduceSub,w0,kv,lv,ec,z0,Nat.zero_add]
 generalize hlp:jR _ rounds _ _ _ _ _=rl1
 obtain ⟨eE,L1,t3,rfl,rfl,q7,sg,sn,sm⟩:=jj hlp (fun i L t=>(∀ c,c<w.n→t.h.get c=w.h.get c)∧w.n≤t.n∧t.n≤w.n+i∧w.n≤t.m∧L.find 2=.ptr u.n 0∧L.find 7=.int .i64 (tot (H.rents (l.take i)) 0)∧L.find 16=v∧L.find 17=.int .i64 (l.length:Int)∧L.find 18=.int .i64 (i:Int))
  (fun e L t=>e=.exit 0∧L.find 7=.int .i64 (tot (H.rents l) 0)∧(∀ c,c<w.n→t.h.get c=w.h.get c)∧w.n≤t.n∧w.n≤t.m) l.length (by unfold rounds;omega)
  ⟨fun _ _=>rfl,Nat.le_refl _,by omega,by omega,(by simp only [zJ,efs,reduceIte,Nat.reduceEqDiff]),(by simp only [zJ,efs,reduceIte,Nat.reduceEqDiff];rfl),(by simp only [zJ,efs,reduceIte,Nat.reduceEqDiff]),(by simp only [zJ,efs,reduceIte,Nat.reduceEqDiff]),(by simp only [zJ,efs,reduceIte,Nat.reduceEqDiff];rfl)⟩
  (fun i L t hi ⟨tg,tn,tl,tm,q2,q7,q16,q17,q18⟩=>by
   by_cases hlt:i<l.length
   ·have e0:decide ((i:Int)<(l.length:Int))=true:=decide_eq_true (by omega)
    have ad:∀ s,jK s .i64 (i:Int) 1=.val (.int .i64 ((i:Int)+1)) s:=fun s=>zd s _ _ (by omega)
    have tu:∀ c,c<u.n→t.h.get c=u.h.get c:=fun c hc=>(tg c (by omega)).trans (wg c hc)
    have hRt:=hR.grow (h':=t.h) (n':=t.n) tu (by omega)
    have hKt:KindsAt no t.h t.n H.kinds vK:=hH.k.move (fun c h1 h2=>⟨tu c h1,h2⟩) (by omega)
    have hsn:=rents_snoc H hlt
    have hbd:=rents_bound ok (l:=l.take i) (fun p hp=>hl p (List.mem_of_mem_take hp)) (by rw [List.length_take];omega)
    have hIn:=hl _ (List.getElem_mem hlt)
    obtain ⟨b,bp,c,szz,⟨r1,_⟩,r2,r3,r4⟩:=slPut hRt hlt
    generalize l[i]=P at *
    have hkP:=wM ok hIn.k
    obtain ⟨aw,kb,ko,kc,ksz,⟨kb1,_⟩,kb2,kb3,_,_,_,_,kcut⟩:=hKt.cells hIn.k
    have kK:=hKt.okA
    have kc4:nth kc (ko+4)=.int .i64 (H.kind P.kind).rent:=(cut_nth kcut (by omega)).trans rfl
    have hr0:=hkP.r0
    have hr1:=hkP.r1
    have ad2:∀ s,jK s .i64 (tot (H.rents (l.take i)) 0) (H.kind P.kind).rent=.val (.int .i64 (tot (H.rents (l.take i)) 0+(H.kind P.kind).rent)) s:=fun s=>zd s _ _ (by omega)
    have t0:=(tg u.n (by omega)).trans w0
    have okR:∀ t,okA (.val (.agg P.row) t)=.val (.agg P.row) t:=fun _=>rfl
    have okR':∀ (a b c:Int) t,okA (.val (.agg [.int .i64 a,.int .i64 b,.int .i64 c]) t)=.val (.agg [.int .i64 a,.int .i64 b,.int .i64 c]) t:=fun _ _ _ _=>rfl
    obtain ⟨z,hz⟩:∃ z:St,z=(t.new (.cells [.int .i64 0,.int .i64 0,.int .i64 0] (tag 51))).put t.n (.cells P.row (tag 51)):=⟨_,rfl⟩
    have stz:jL 3 (t.new (.cells [.int .i64 0,.int .i64 0,.int .i64 0] (tag 51))) (.agg P.row) (.ptr t.n 0)=.val .undef z:=by
     rw [hz];exact ju _ 3 _ _ _ _ (zM _ _ _ rfl (by omega)) rfl rfl rfl
    have zn:z.n=t.n+1:=by rw [hz];rfl
    have zm:z.m=min t.m t.n:=by rw [hz];simp only [St.put,zP,zN]
    have zg:∀ c,c<t.n→z.h.get c=t.h.get c:=fun c hc=>by rw [hz,zI _ _ _ _ (by omega),zG _ _ _ (by omega)]
    have z9:z.h.get t.n=some (.cells P.row (tag 51)):=by rw [hz];exact zO _ _ _ _ rfl (by omega)
    have zu:=(zg u.n (by omega)).trans t0
    have zk:=(zg kb (by omega)).trans kb3
    have n2:nth P.row 2=.int .i64 (P.kind:Int):=rfl
    clear hz
    refine .inl ⟨hlt,?_⟩
    simp (disch:=first|omega|with_unfolding_all exact rfl) only [K23l0,K23r6,K23r7,K23r8,K23r9,Abs.W,reduceIte,Nat.reduceEqDiff,Nat.reduceAdd,Nat.reduceSub,Nat.zero_add,q2,q7,q16,q17,q18,kv,e0,r2,r3,r4,okR,stz,zu,kK,z9,n2,kb2,zk,kc4,ad2,ad]
    refine ⟨_,_,rfl,fun c hc=>(zg c (by omega)).trans (tg c hc),by omega,by omega,by omega,?_,?_,?_,?_,?_⟩
    ·simp only [efs,q2,reduceIte,Nat.reduceEqDiff]
    ·rw [hsn];simp only [efs,reduceIte,Nat.reduceEqDiff]
    ·simp only [efs,q16,reduceIte,Nat.reduceEqDiff]
    ·simp only [efs,q17,reduceIte,Nat.reduceEqDiff]
    ·simp only [efs,reduceIte,Nat.reduceEqDiff];rfl
   ·obtain rfl:i=l.length:=by omega
    have e0:decide ((l.length:Int)<(l.length:Int))=false:=by simp
    rw [List.take_length] at q7
    refine .inr ⟨.exit 0,L.set 19 (.bool false),t,by simp,?_,rfl,?_,tg,tn,tm⟩
    ·simp (disch:=first|omega|with_unfolding_all exact rfl) only [K23l0,K23r6,Abs.W,reduceIte,Nat.reduceEqDiff,Nat.reduceAdd,Nat.reduceSub,q17,q18,e0]
    ·simp only [efs,q7,reduceIte,Nat.reduceEqDiff])
 simp (disch:=first|omega|with_unfolding_all exact rfl) only [K23r10,Abs.W,reduceIte,Nat.reduceEqDiff,Nat.reduceAdd,Nat.reduceSub,q7,res23,leave_two]
 exact ⟨_,rfl,by omega⟩
end Go.Proofs.Ytoklbkgcclkejaa.walk
set_option maxRecDepth 10000
namespace Go.Proofs.Ytoklbkgcclkejaa.walk
open Go.Abs Go.Proofs.Ytoklbkgcclkejaa.code
theorem kbet_refl {m:Nat} {k:KindR} (ok:k.Ok m):KBet m k k:=⟨ok,Int.le_refl _,rfl,Int.le_refl _,Int.le_refl _,fun _ _ _=>Int.le_refl _⟩
theorem getD_at {α:Type} (l:List α) (x:α) {i:Nat} (h:i<l.length):l.getD i x=l[i]:=by rw [List.getD_eq_getElem?_getD,List.getElem?_eq_getElem h];rfl
theorem Jk {α:Type} (l:List α) (x:α) {i:Nat} (h:l.length≤i):l.getD i x=x:=by rw [List.getD_eq_getElem?_getD,List.getElem?_eq_none h];rfl
theorem better_of {H:HallR} (ok:H.Ok) {B:List Int} {Ks:List KindR} (hB:B.length=H.bears.length) (hb:∀ j (h1:j<H.bears.length) (h2:j<B.length),H.bears[j]≤B[j]) (hK:Ks.length=H.kinds.length) (hk:∀ j (h1:j<H.kinds.length) (h2:j<Ks.length),KBet H.kinds.length H.kinds[j] Ks[j]):Better H { H with bears:=B,kinds:=Ks }:=by
 refine ⟨rfl,rfl,rfl,rfl,rfl,rfl,hK,fun i=>?_,fun k=>?_⟩
 ·by_cases h:i<H.bears.length
  ·rw [getD_at _ _ h]
   show _≤B.getD i 0
   rw [getD_at _ _ (by omega)]
   exact hb i h (by omega)
  ·rw [Jk _ _ (by omega)]
   show _≤B.getD i 0
   rw [Jk _ _ (by omega)]
   exact Int.le_refl _
 ·have e1:({ H with bears:=B,kinds:=Ks }:HallR).kind k=Ks.getD k noKind:=rfl
  have e2:H.kind k=H.kinds.getD k noKind:=rfl
  rw [e1,e2]
  by_cases h:k<H.kinds.length
  ·rw [getD_at _ _ h,getD_at _ _ (by omega)]
   obtain ⟨a1,a2,a3,a4,a5,a6⟩:=hk k h (by omega)
   have l1:=(ok.k _ (List.getElem_mem h)).al
   have l2:=a1.al
   refine ⟨a2,a3,a4,a5,fun j=>?_⟩
   by_cases hj:j<H.kinds.length
   ·rw [getD_at _ _ (by omega),getD_at _ _ (by omega)]
    exact a6 j (by omega) (by omega)
   ·rw [Jk _ _ (by omega),Jk _ _ (by omega)]
    exact Int.le_refl _
  ·rw [Jk _ _ (by omega),Jk _ _ (by omega)]
   exact ⟨Int.le_refl _,rfl,Int.le_refl _,Int.le_refl _,fun _=>Int.le_refl _⟩
theorem ok_of {H:HallR} (ok:H.Ok) {B:List Int} {Ks:List KindR} (hB:B.length=H.bears.length) (hb:∀ x ∈ B,0≤x∧x≤10000000) (hK:Ks.length=H.kinds.length) (hk:∀ x ∈ Ks,x.Ok H.kinds.length):HallR.Ok { H with bears:=B,kinds:=Ks } :=
 ⟨⟨ok.w0,ok.w1,ok.d0,ok.d1,ok.x0,ok.x1,ok.z0,ok.z1⟩,ok.wa,ok.wn,ok.wl,ok.sa,ok.sn,ok.sl,hB.trans ok.bl,hb,by show 1≤Ks.length;rw [hK];exact ok.k0,by show Ks.length≤6;rw [hK];exact ok.k1,fun x hx=>by show x.Ok Ks.length;rw [hK];exact hk x hx⟩
theorem opens_few {H:HallR} (hw:H.wide≤3) (hd:H.deep≤2):H.placesI.length≤6∧H.opens.length≤6:=by
 have hpl:H.placesI.length≤6:=by
  rw [vI,yw]
  have h1:H.deep * H.wide≤2 * H.wide:=Nat.mul_le_mul_right _ hd
  omega
 refine ⟨hpl,?_⟩
 have:=List.length_filter_le (fun c=>!decide (c ∈ H.shut)) H.placesI
 show (H.placesI.filter _).length≤6
 omega
theorem ext_len {K:Nat} {tB:List PutR→PutR→Bool} {cs:List (Int × Int)} {l x:List PutR} (h:Ext K tB cs l x):x.length≤l.length+cs.length:=by
 induction h with
 | nil l=>exact Nat.le_refl _
 | skip _ ih=>rw [List.length_cons];omega
 | put k hk ht _ ih=>rw [List.length_append,List.length_singleton] at ih;rw [List.length_cons];omega
theorem best_len {H:HallR} (ok:H.Ok) (ho:H.opens.length≤6):H.best.2.length≤24:=by
 obtain ⟨_,_,b3,_⟩:=best_is ok
 have h5:=(Zk ok H.placesI [] H.best.2 (Je ok.w0) (Zq ok)).mp b3
 have:=ext_len h5
 have h6:(H.placesI.filter fun c=>!decide (c ∈ H.shut)).length≤6:=ho
 rw [List.length_nil] at this
 omega
noncomputable def vstRest:K:=(zH (zD K8r2 [4]) (zH (zD K8r3 [5]) (zH (zH (zD K8r4 [6]) (zj 0 (yR K8l0))) (zH (zH (zD K8r8 [7]) (zj 2 (yR K8l2))) (zH (zD K8r18 [10,11]) (zH (zD K8r19 [12,13]) (zH (zD K8r20 [14,15]) (zH (zD K8r21 [16,17]) (zH (zD K8r22 [2]) jT)))))))))
theorem vst_bears (n:Nat) (hn:20≤n) (cx:Ctx) {t0 t:St} {d s0 tc bB q m bK kk:Nat} {ba:List Nat} {H:HallR} {xW xS xK:AV} {L:Env} {r:R} (hr:jR K8l0 rounds (awd n) cx L [] t=r) (J:XJ t0 t d s0 tc bB q m bK ba H xW xS xK kk) (hsm:∀ x ∈ H.bears,0≤x∧x≤300) (hl:H.bears.length≤24) (hs:tc+kk+2000≤far)
  (q3:L.find 3=.ptr d 0) (q5:L.find 5=.ptr tc 0) (q6:L.find 6=.int .i64 0) :
  ∃ L1 t1 B,r=.done (.exit 0) L1 [] t1∧B.length=H.bears.length∧(∀ j (h1:j<H.bears.length) (h2:j<B.length),H.bears[j]≤B[j]∧B[j]≤360)∧XJ t0 t1 d s0 tc bB q m bK ba { H with bears:=B } xW xS xK (kk+120)∧L1.find 3=.ptr d 0∧L1.find 4=L.find 4∧L1.find 5=.ptr tc 0:=by
 have hf:far=1000000000:=rfl
 obtain ⟨e,L1,t1,rfl,rfl,B,hB,hb,J1,z3,z4,z5⟩:=jj hr
  (fun i L' t=>∃ B:List Int,B.length=H.bears.length∧(∀ j (h1:j<H.bears.length) (h2:j<B.length),(H.bears[j]≤B[j]∧B[j]≤360)∧(i≤j→B[j]=H.bears[j]))∧XJ t0 t d s0 tc bB q m bK ba { H with bears:=B } xW xS xK (kk+5 * i)∧L'.find 3=.ptr d 0∧L'.find 4=L.find 4∧L'.find 5=.ptr tc 0∧L'.find 6=.int .i64 (i:Int))
  (fun e L' t=>e=.exit 0∧∃ B:List Int,B.length=H.bears.length∧(∀ j (h1:j<H.bears.length) (h2:j<B.length),H.bears[j]≤B[j]∧B[j]≤360)∧XJ t0 t d s0 tc bB q m bK ba { H with bears:=B } xW xS xK (kk+120)∧L'.find 3=.ptr d 0∧L'.find 4=L.find 4∧L'.find 5=.ptr tc 0) H.bears.length (by unfold rounds;omega)
  ⟨H.bears,rfl,fun j h1 h2=>⟨⟨Int.le_refl _,by have:=(hsm _ (List.getElem_mem h1)).2;omega⟩,fun _=>rfl⟩,J,q3,rfl,q5,q6⟩
  (fun i L' t hi ⟨B,hB,hb,J,z3,z4,z5,z6⟩=>by
   by_cases hlt:i<H.bears.length
   ·have hi2:i<B.length:=by omega
    obtain ⟨⟨h1,h2⟩,h3⟩:=hb i hlt hi2
    have h3:=h3 (Nat.le_refl _)
    have h4:=hsm _ (List.getElem_mem hlt)
    obtain ⟨L2,t2,x,r1,r2,r3,r4,r5,r6,r7⟩:=up_bear n hn cx (G:={ H with bears:=B }) J hi2 ⟨by show 0≤B[i];omega,by show B[i]≤300;omega⟩ (by show B.length≤24;omega) (by omega) z3 z5 z6
    refine .inl ⟨hlt,L2,t2,r1,B.set i (B[i]+x),by rw [List.length_set];exact hB,fun j j1 j2=>?_,?_,r4,r5.trans z4,r6,r7⟩
    ·rw [List.length_set] at j2
     by_cases e:i=j
     ·subst e
      rw [List.getElem_set,if_pos rfl]
      exact ⟨⟨by omega,by omega⟩,fun h=>by omega⟩
     ·rw [List.getElem_set,if_neg e]
      obtain ⟨b1,b2⟩:=hb j j1 j2
      exact ⟨b1,fun h=>b2 (by omega)⟩
    ·obtain ⟨x1,x2,x3,x4,x5,x6,x7,x8⟩:=r2
     exact ⟨x1,x2,x3,x4,x5,by omega,x7,x8⟩
   ·obtain rfl:i=H.bears.length:=by omega
    have g5:=J.g5
    have e0:decide ((H.bears.length:Int)<(H.bears.length:Int))=false:=decide_eq_false (by omega)
    have g5':t.h.get tc=some (.cells (zY { H with bears:=B } xW xS (slI bB H.bears.length) xK) (tag 30)):=by rw [← hB];exact g5
    have ll:∀ s,jH s (slI bB H.bears.length)=.val (.int .i64 (H.bears.length:Int)) s:=fun _=>rfl
    have okI:∀ t,okA (.val (slI bB H.bears.length) t)=.val (slI bB H.bears.length) t:=fun _=>rfl
    refine .inr ⟨.exit 0,L'.set 28 (.bool false),t,by simp,?_,rfl,B,hB,fun j h1 h2=>(hb j h1 h2).1,?_,?_,?_,?_⟩
    ·simp (disch:=first|omega|with_unfolding_all exact rfl) only [K8l0,K8r5,Abs.W,reduceIte,Nat.reduceEqDiff,Nat.reduceAdd,Nat.reduceSub,z5,z6,g5',ll,okI,e0,Nat.zero_add]
    ·obtain ⟨x1,x2,x3,x4,x5,x6,x7,x8⟩:=J
     exact ⟨x1,x2,x3,x4,x5,by omega,x7,x8⟩
    ·simp only [efs,z3,reduceIte,Nat.reduceEqDiff]
    ·simp only [efs,z4,reduceIte,Nat.reduceEqDiff]
    ·simp only [efs,z5,reduceIte,Nat.reduceEqDiff])
 exact ⟨L1,t1,B,rfl,hB,hb,J1,z3,z4,z5⟩
theorem vst_kinds (n:Nat) (hn:20≤n) (cx:Ctx) {t0 t:St} {d s0 tc bB q bK kk:Nat} {ba:List Nat} {H:HallR} {xW xS xK:AV} {L:Env} {r:R} (hr:jR K8l2 rounds (awd n) cx L [] t=r) (J:XJ t0 t d s0 tc bB q H.kinds.length bK ba H xW xS xK kk) (hok:∀ x ∈ H.kinds,x.Ok H.kinds.length) (hsm:∀ x ∈ H.kinds,x.rent≤100∧x.most≤10) (hk2:H.kinds.length≤2) (hk0:1≤H.kinds.length) (hs:tc+kk+3000≤far)
  (q3:L.find 3=.ptr d 0) (q5:L.find 5=.ptr tc 0) (q7:L.find 7=.int .i64 0) :
  ∃ L1 t1 Ks,r=.done (.exit 2) L1 [] t1∧Ks.length=H.kinds.length∧(∀ j (h1:j<H.kinds.length) (h2:j<Ks.length),KBet H.kinds.length H.kinds[j] Ks[j])∧XJ t0 t1 d s0 tc bB q H.kinds.length bK ba { H with kinds:=Ks } xW xS xK (kk+60)∧L1.find 4=L.find 4∧L1.find 5=.ptr tc 0:=by
 have hf:far=1000000000:=rfl
 obtain ⟨e,L1,t1,rfl,rfl,Ks,hK,hk,J1,z4,z5⟩:=jj hr
  (fun i L' t=>∃ Ks:List KindR,Ks.length=H.kinds.length∧(∀ j (h1:j<H.kinds.length) (h2:j<Ks.length),KBet H.kinds.length H.kinds[j] Ks[j]∧(i≤j→Ks[j]=H.kinds[j]))∧XJ t0 t d s0 tc bB q H.kinds.length bK ba { H with kinds:=Ks } xW xS xK (kk+30 * i)∧L'.find 3=.ptr d 0∧L'.find 4=L.find 4∧L'.find 5=.ptr tc 0∧L'.find 7=.int .i64 (i:Int))
  (fun e L' t=>e=.exit 2∧∃ Ks:List KindR,Ks.length=H.kinds.length∧(∀ j (h1:j<H.kinds.length) (h2:j<Ks.length),KBet H.kinds.length H.kinds[j] Ks[j])∧XJ t0 t d s0 tc bB q H.kinds.length bK ba { H with kinds:=Ks } xW xS xK (kk+60)∧L'.find 4=L.find 4∧L'.find 5=.ptr tc 0) H.kinds.length (by unfold rounds;omega)
  ⟨H.kinds,rfl,fun j h1 h2=>⟨kbet_refl (hok _ (List.getElem_mem h1)),fun _=>rfl⟩,J,q3,rfl,q5,q7⟩
  (fun i L' t hi ⟨Ks,hK,hk,J,z3,z4,z5,z7⟩=>by
   by_cases hlt:i<H.kinds.length
   ·have hi2:i<Ks.length:=by omega
    obtain ⟨h1,h3⟩:=hk i hlt hi2
    have h3:=h3 (Nat.le_refl _)
    have h4:=hsm _ (List.getElem_mem hlt)
    obtain ⟨L2,t2,K',r1,r2,r3,r4,r5,r6,r7⟩:=up_kind n hn cx (G:={ H with kinds:=Ks }) (K:=H.kinds[i]) J hi2 h3 (hok _ (List.getElem_mem hlt)) h4 ⟨by show Ks.length≤2;omega,hk2⟩ (by omega) z3 z5 z7
    refine .inl ⟨hlt,L2,t2,r1,Ks.set i K',by rw [List.length_set];exact hK,fun j j1 j2=>?_,?_,r4,r5.trans z4,r6,r7⟩
    ·rw [List.length_set] at j2
     by_cases e:i=j
     ·subst e
      rw [List.getElem_set,if_pos rfl]
      exact ⟨r3,fun h=>by omega⟩
     ·rw [List.getElem_set,if_neg e]
      obtain ⟨b1,b2⟩:=hk j j1 j2
      exact ⟨b1,fun h=>b2 (by omega)⟩
    ·obtain ⟨x1,x2,x3,x4,x5,x6,x7,x8⟩:=r2
     exact ⟨x1,x2,x3,x4,x5,by omega,x7,x8⟩
   ·obtain rfl:i=H.kinds.length:=by omega
    have g5:=J.g5
    have e0:decide ((H.kinds.length:Int)<(H.kinds.length:Int))=false:=decide_eq_false (by omega)
    obtain ⟨s1,_⟩:=J.hx.k.row (i:=0) (by show 0<Ks.length;omega)
    have ll:∀ s,jH s xK=.val (.int .i64 (H.kinds.length:Int)) s:=fun s=>by rw [s1,← hK];rfl
    have okI:∀ t,okA (.val xK t)=.val xK t:=fun t=>by rw [s1];rfl
    refine .inr ⟨.exit 2,L'.set 50 (.bool false),t,by simp,?_,rfl,Ks,hK,fun j h1 h2=>(hk j h1 h2).1,?_,?_,?_⟩
    ·simp (disch:=first|omega|with_unfolding_all exact rfl) only [K8l2,K8r9,Abs.W,reduceIte,Nat.reduceEqDiff,Nat.reduceAdd,Nat.reduceSub,z5,z7,g5,ll,okI,e0,Nat.zero_add]
    ·obtain ⟨x1,x2,x3,x4,x5,x6,x7,x8⟩:=J
     exact ⟨x1,x2,x3,x4,x5,by omega,x7,x8⟩
    ·simp only [efs,z4,reduceIte,Nat.reduceEqDiff]
    ·simp only [efs,z5,reduceIte,Nat.reduceEqDiff])
 exact ⟨L1,t1,Ks,rfl,hK,hk,J1,z4,z5⟩
end Go.Proofs.Ytoklbkgcclkejaa.walk
set_option maxRecDepth 10000
namespace Go.Proofs.Ytoklbkgcclkejaa.walk
open Go.Abs Go.Proofs.Ytoklbkgcclkejaa.code
theorem vst_body (n:Nat) (hn:40≤n) (cx:Ctx) (s:St) (d:Nat) (hd:Die d s.h) (hdn:d<s.n) (hs:s.n+900000000≤far) (hm:s.m=far) :
  ∃ s',yF Try.prog Try.f8 (vstRest (awd n) cx (.cons 3 (.ptr d 0) .nil) [] s)=.val (.bool true) s':=by
 have hf:far=1000000000:=rfl
 have knH:∀ args s,awd n (.fn 11) args s=call Try.prog X n (.fn 11) args s:=fun _ _=>rfl
 have knC:∀ args s,awd n (.fn 33) args s=call Try.prog X n (.fn 33) args s:=fun _ _=>rfl
 have knT:∀ args s,awd n (.fn 29) args s=call Try.prog X n (.fn 29) args s:=fun _ _=>rfl
 have knE:∀ args s,awd n (.fn 23) args s=call Try.prog X n (.fn 23) args s:=fun _ _=>rfl
 have knA:∀ s,awd n (.fn 19) [] s=.val (.bool true) s:=fun _=>rfl
 have ex0:∀ (a b:AV) (s:St),extA 0 s (.tup [a,b])=.val a s:=fun _ _ _=>rfl
 have ex1:∀ (a b:AV) (s:St),extA 1 s (.tup [a,b])=.val b s:=fun _ _ _=>rfl
 have okt:∀ (a b:AV) (s:St),okA (.val (.tup [a,b]) s)=.val (.tup [a,b]) s:=fun _ _ _=>rfl
 have u4:=eq3 K8r22s4.eq_1
 have u5:=eq3 K8r22s5.eq_1
 have u8:=eq3 K8r22s8.eq_1
 have u9:=eq3 K8r22s9.eq_1
 have u12:=eq3 K8r22s12.eq_1
 have u13:=eq3 K8r22s13.eq_1
 have u16:=eq3 K8r22s16.eq_1
 have u17:=eq3 K8r22s17.eq_1
 have u18:=eq3 K8r22s18.eq_1
 have u21:=eq3 K8r22s21.eq_1
 unfold vstRest
 simp (disch:=first|omega|with_unfolding_all exact rfl) only [K8r2,Abs.W,reduceIte,Nat.reduceEqDiff,Nat.reduceAdd,Nat.reduceSub,knH]
 generalize hc1:call _ _ _ (.fn 11) _ _=r1
 obtain ⟨H,vW,vS,vB,vK,t1,rfl,st1,d1,ok,hH,hW3,hD2,hK2,hSm⟩:=hallOf_ex2 (W:=3) (D:=2) (K:=2) hc1 (by omega) hd hdn (by omega) (by omega) (by omega) (by omega)
 have n1:=st1.n
 have k1:=st1.le
 have m1:=st1.m (by omega)
 have m1l:=st1.mle
 have scB:=hH.scal
 have okh:∀ t,okA (.val (.agg (zY H vW vS vB vK)) t)=.val (.agg (zY H vW vS vB vK)) t:=fun _=>rfl
 obtain ⟨y,hy⟩:∃ y:St,y=(t1.new (.cells [.int .i64 0,.int .i64 0,.nilslice,.nilslice,.int .i64 0,.int .i64 0,.nilslice,.nilslice] (tag 30))).put t1.n (.cells (zY H vW vS vB vK) (tag 30)):=⟨_,rfl⟩
 have sty:jL 8 (t1.new (.cells [.int .i64 0,.int .i64 0,.nilslice,.nilslice,.int .i64 0,.int .i64 0,.nilslice,.nilslice] (tag 30))) (.agg (zY H vW vS vB vK)) (.ptr t1.n 0)=.val .undef y:=by
  rw [hy];exact ju _ 8 _ _ _ _ (zM _ _ _ rfl (by omega)) rfl rfl scB
 have yn:y.n=t1.n+1:=by rw [hy];rfl
 have ym:y.m=min t1.m t1.n:=by rw [hy];simp only [St.put,zP,zN]
 have yg:∀ c,c<t1.n→y.h.get c=t1.h.get c:=fun c hc=>by rw [hy,zI _ _ _ _ (by omega),zG _ _ _ (by omega)]
 have y4:y.h.get t1.n=some (.cells (zY H vW vS vB vK) (tag 30)):=by rw [hy];exact zO _ _ _ _ rfl (by omega)
 have dy:Die d y.h:=d1.keep (yg d (by omega))
 have hHy:HallAt (fun c=>c≠d) y.h y.n H vW vS vB vK:=hH.move (fun c h1 h2=>⟨yg c h1,by have h3:s.n≤c:=h2;omega⟩) (by omega)
 clear hy
 simp (disch:=first|omega|with_unfolding_all exact rfl) only [sty,K8r3,Abs.W,reduceIte,Nat.reduceEqDiff,Nat.reduceAdd,Nat.reduceSub,y4,okh,knC,Nat.zero_add]
 generalize hc2:call _ _ _ (.fn 33) _ _=r2
 obtain ⟨xW,xS,xB,xK,t2,bB,q,bK,ba,rfl,st2,hX⟩:=copyHall_ex hc2 (by omega) ok hHy (by omega)
 have n2:=st2.n
 have k2:=st2.le
 have m2:t2.m=y.m:=st2.m
 obtain rfl:xB=slI bB H.bears.length:=hX.b.1
 have kk0:=ok.k0
 have kk1:=ok.k1
 have hbb:=ok.bl
 have hbp:=bays_pos ok.toSize
 have hb24:=ZG ok.toSize
 have hb0:H.bears≠[]:=fun h=>by rw [h] at hbb;simp at hbb;omega
 have scX:=(hX.at_ hb0 kk0).scal
 obtain ⟨z,hz⟩:∃ z:St,z=(t2.new (.cells [.int .i64 0,.int .i64 0,.nilslice,.nilslice,.int .i64 0,.int .i64 0,.nilslice,.nilslice] (tag 30))).put t2.n (.cells (zY H xW xS (slI bB H.bears.length) xK) (tag 30)):=⟨_,rfl⟩
 have stz:jL 8 (t2.new (.cells [.int .i64 0,.int .i64 0,.nilslice,.nilslice,.int .i64 0,.int .i64 0,.nilslice,.nilslice] (tag 30))) (.agg (zY H xW xS (slI bB H.bears.length) xK)) (.ptr t2.n 0)=.val .undef z:=by
  rw [hz];exact ju _ 8 _ _ _ _ (zM _ _ _ rfl (by omega)) rfl rfl scX
 have zn:z.n=t2.n+1:=by rw [hz];rfl
 have zm:z.m=min t2.m t2.n:=by rw [hz];simp only [St.put,zP,zN]
 have zg:∀ c,c<t2.n→z.h.get c=t2.h.get c:=fun c hc=>by rw [hz,zI _ _ _ _ (by omega),zG _ _ _ (by omega)]
 have z5:z.h.get t2.n=some (.cells (zY H xW xS (slI bB H.bears.length) xK) (tag 30)):=by rw [hz];exact zO _ _ _ _ rfl (by omega)
 clear hz
 have J0:XJ y z d y.n t2.n bB q H.kinds.length bK ba H xW xS xK 1:=⟨dy.keep ((zg d (by omega)).trans (st2.same d (by omega))),z5,hX.move (fun c h1 _=>zg c h1) (Nat.le_refl _),fun c h1 _=>(zg c (by omega)).trans (st2.same c h1),by omega,by omega,by omega,by omega⟩
 simp (disch:=first|omega|with_unfolding_all exact rfl) only [stz,K8r4,Abs.W,reduceIte,Nat.reduceEqDiff,Nat.reduceAdd,Nat.reduceSub,Nat.zero_add]
 generalize hlp:jR _ rounds _ _ _ _ _=rl
 obtain ⟨L1,t3,B,rfl,hB,hb,J1,q3,q4,q5⟩:=vst_bears n (by omega) _ hlp J0 (fun x hx=>⟨(ok.b x hx).1,hSm.b x hx⟩) (by omega) (by omega) (by simp only [zJ,efs,reduceIte,Nat.reduceEqDiff]) (by simp only [zJ,efs,reduceIte,Nat.reduceEqDiff]) (by simp only [zJ,efs,reduceIte,Nat.reduceEqDiff])
 have q4:L1.find 4=.ptr t1.n 0:=q4.trans (by simp only [zJ,efs,reduceIte,Nat.reduceEqDiff])
 simp (disch:=first|omega|with_unfolding_all exact rfl) only [K8r8,Abs.W,reduceIte,Nat.reduceEqDiff,Nat.reduceAdd,Nat.reduceSub,Nat.zero_add]
 generalize hlp2:jR _ rounds _ _ _ _ _=rl2
 obtain ⟨L2,t5,Ks,rfl,hK,hk,J2,p4,p5⟩:=vst_kinds n (by omega) _ (H:={ H with bears:=B }) hlp2 J1 ok.k hSm.k hK2 kk0 (by omega) (by simp only [efs,q3,reduceIte,Nat.reduceEqDiff]) (by simp only [efs,q5,reduceIte,Nat.reduceEqDiff]) (by simp only [efs,reduceIte,Nat.reduceEqDiff])
 have p4:L2.find 4=.ptr t1.n 0:=p4.trans (by simp only [efs,q4,reduceIte,Nat.reduceEqDiff])
 have hK:Ks.length=H.kinds.length:=hK
 obtain ⟨G,hG⟩:∃ G:HallR,G={ H with bears:=B,kinds:=Ks }:=⟨_,rfl⟩
 have hGb:G.bears.length=B.length:=by rw [hG]
 have J3:XJ y t5 d y.n t2.n bB q H.kinds.length bK ba G xW xS xK (1+120+60):=by rw [hG];exact J2
 have okG:G.Ok:=by
  rw [hG]
  refine ok_of ok hB (fun x hx=>?_) hK fun x hx=>?_
  ·obtain ⟨j,hj,rfl⟩:=List.getElem_of_mem hx
   have h1:=hb j (by omega) hj
   have h2:=(ok.b _ (List.getElem_mem (show j<H.bears.length by omega))).1
   omega
  ·obtain ⟨j,hj,rfl⟩:=List.getElem_of_mem hx
   exact (hk j (by show j<H.kinds.length;omega) hj).ok
 have hBet:Better H G:=by
  rw [hG]
  exact better_of ok hB (fun j h1 h2=>(hb j h1 h2).1) hK hk
 have jn:=J3.n
 have jle:=J3.le
 have jm:=J3.m
 have jq:=J3.hx.q
 have g4:t5.h.get t1.n=some (.cells (zY H vW vS vB vK) (tag 30)):=(J3.old t1.n (by omega) (by omega)).trans y4
 have g5:=J3.g5
 have hH5:HallAt (fun _=>True) t5.h t5.n H vW vS vB vK:=hHy.move (fun c h1 h2=>⟨J3.old c h1 h2,trivial⟩) (by omega)
 have hGb0:G.bears≠[]:=fun h=>by rw [h] at hGb;simp at hGb;omega
 have hG5:HallAt (fun _=>True) t5.h t5.n G xW xS (slI bB G.bears.length) xK:=(J3.hx.at_ hGb0 kk0).move (fun c h1 _=>⟨rfl,trivial⟩) (by omega)
 have oH:=(opens_few hW3 hD2).2
 have oG:=(opens_few (H:=G) (by rw [hBet.w];exact hW3) (by rw [hBet.d];exact hD2)).2
 have okg:∀ t,okA (.val (.agg (zY G xW xS (slI bB G.bears.length) xK)) t)=.val (.agg (zY G xW xS (slI bB G.bears.length) xK)) t:=fun _=>rfl
 simp (disch:=first|omega|with_unfolding_all exact rfl) only [K8r18,Abs.W,reduceIte,Nat.reduceEqDiff,Nat.reduceAdd,Nat.reduceSub,p4,p5,g4,okh,knT,Nat.zero_add]
 generalize hc3:call _ _ _ (.fn 29) _ _=r3
 obtain ⟨w1,t6,rfl,st6,hM1⟩:=best_ex hc3 (by omega) ok hH5 oH hK2 (by omega)
 have n6:=st6.n
 have k6:=st6.le
 have kw1:=hM1.sl.okA
 have g56:=(st6.same t2.n (by omega)).trans g5
 have g46:=(st6.same t1.n (by omega)).trans g4
 simp (disch:=first|omega|with_unfolding_all exact rfl) only [K8r19,Abs.W,reduceIte,Nat.reduceEqDiff,Nat.reduceAdd,Nat.reduceSub,okt,ex0,ex1,kw1,p4,p5,g56,okg,knT,Nat.zero_add]
 generalize hc4:call _ _ _ (.fn 29) _ _=r4
 have hG6:HallAt (fun _=>True) t6.h t6.n G xW xS (slI bB G.bears.length) xK:=hG5.grow st6.same n6
 obtain ⟨w2,t7,rfl,st7,hM2⟩:=best_ex hc4 (by omega) okG hG6 oG (by rw [hBet.n];exact hK2) (by omega)
 have n7:=st7.n
 have k7:=st7.le
 have kw2:=hM2.sl.okA
 have g57:=(st7.same t2.n (by omega)).trans g56
 have g47:=(st7.same t1.n (by omega)).trans g46
 obtain ⟨_,bH,_,_⟩:=best_is ok
 obtain ⟨_,bG,_,_⟩:=best_is okG
 have hH7:HallAt (fun _=>True) t7.h t7.n H vW vS vB vK:=(hH5.grow st6.same n6).grow st7.same n7
 have hG7:HallAt (fun _=>True) t7.h t7.n G xW xS (slI bB G.bears.length) xK:=hG6.grow st7.same n7
 have sl1:Sl (fun _=>True) t7.h t7.n 3 (H.best.2.map PutR.row) w1:=hM1.sl.move (fun c h1 _=>⟨st7.same c h1,trivial⟩) n7
 have sl2:Sl (fun _=>True) t7.h t7.n 3 (G.best.2.map PutR.row) w2:=hM2.sl.move (fun c h1 _=>⟨rfl,trivial⟩) (Nat.le_refl _)
 have ee1:=earns_ok n (by omega) ok hH7 sl1 bH.i (best_len ok oH) bH.v (by omega)
 have ee2:=earns_ok n (by omega) okG hG7 sl2 bG.i (best_len okG oG) bG.v (by omega)
 have hge:=hBet.best ok okG
 have z0:decide ((0:Int)=0)=true:=rfl
 have dge:decide (tot (H.rents H.best.2) 0≤tot (G.rents G.best.2) 0)=true:=decide_eq_true hge
 simp (config:={ maxSteps:=3000000 }) (disch:=first|omega|with_unfolding_all exact rfl) only [K8r20,K8r21,K8r22,u4,u5,u8,u9,u12,u13,u16,u17,u18,u21,res8,Abs.W,reduceIte,Nat.reduceEqDiff,Nat.reduceAdd,Nat.reduceSub,okt,okh,okg,ex0,ex1,kw1,kw2,p4,p5,g47,g57,knE,ee1,ee2,z0,dge,ge_iff_le,knA,Nat.zero_add]
 exact ⟨_,rfl⟩
end Go.Proofs.Ytoklbkgcclkejaa.walk
namespace Go.Proofs.Ytoklbkgcclkejaa.mdie
open Go.RowKit
def Die (b:Nat) (w:World):Prop:=∃ s,w.heap[b]? = some (.cells #[.int .u64 s] 74 (0,0))
theorem Die.old {b:Nat} {w:World} (h:Die b w):(∃ s,w.cell? ⟨b,0,none⟩=some (.int .u64 s))∧w.frozen? ⟨b,0,none⟩=false:=by
 obtain ⟨s,hs⟩:=h
 refine ⟨⟨s,?_⟩,?_⟩
 ·unfold World.cell?;simp [hs]
 ·unfold World.frozen?;simp [hs]
structure Stir (b:Nat) (w w':World):Prop where
 below:Below b w w'
 rest:∀ p:Addr,p.block≠b→p.block<w.heap.size→w'.cell? p=w.cell? p∧w'.frozen? p=w.frozen? p
 die:Die b w'
def Gives (b:Nat) (k:IntKind) (Q:Int→Prop) (w:World) (e:Ending) (w':World):Prop:=∃ r,Q r∧e=.returned (.int k r)∧Stir b w w'
theorem bits_nonneg (op:BinOp) (x y:Int):0≤bits op .u64 x y:=by
 have:=bounds_u64 (wf_bits (k:=.u64) (op:=op) (x:=x) (y:=y))
 exact this.1
theorem Stir.set {b:Nat} {w:World} (h:Die b w) (s:Int):Stir b w (w.setCell ⟨b,0,none⟩ (.int .u64 s)):=by
 obtain ⟨t,ht⟩:=h
 refine ⟨(Below.refl b w).setCell (p:=⟨b,0,none⟩) (Nat.le_refl b) _,fun p hp _=>⟨World.cell?_of_block (Below.heap_setCell _ _ _ _ hp),World.frozen?_of_block (Below.heap_setCell _ _ _ _ hp)⟩,⟨s,?_⟩⟩
 unfold World.setCell
 simp [Array.getElem?_modify,ht]
theorem roll (b:Nat) (w:World) (h:Die b w):Calls Try.prog 39 #[.pointer (some ⟨b,0,none⟩)] w (Gives b .u64 (fun r=>0≤r) w):=by
 have h':=Lib.hid h
 obtain ⟨⟨s,hs⟩,hf⟩:=h.old
 clear h
 go_enter Try.func39,Try.ntmps39
 go_wp2
 go_ret
 exact ⟨_,bits_nonneg _ _ _,rfl,Stir.set h'.out _⟩
theorem Stir.refl {b:Nat} {w:World} (h:Die b w):Stir b w w:=⟨Below.refl _ _,fun _ _ _=>⟨rfl,rfl⟩,h⟩
theorem Stir.trans {b:Nat} {u v w:World} (h:Stir b u v) (k:Stir b v w):Stir b u w :=
 ⟨h.below.trans k.below,fun p hp hb=>⟨(k.rest p hp (Nat.lt_of_lt_of_le hb h.below.size)).1.trans (h.rest p hp hb).1,(k.rest p hp (Nat.lt_of_lt_of_le hb h.below.size)).2.trans (h.rest p hp hb).2⟩,k.die⟩
theorem Die.lt {b:Nat} {w:World} (h:Die b w):b<w.heap.size:=by obtain ⟨⟨s,hs⟩,_⟩:=h.old;exact World.block_lt_of_cell? w _ hs
theorem Stir.drew {b:Nat} {w w':World} (h:Stir b w w'):Stir b w w'.drew:=h.trans ⟨⟨rfl,rfl,rfl,Nat.le_refl _,fun _ _=>rfl⟩,fun _ _ _=>⟨rfl,rfl⟩,h.die⟩
def Born (w:World) (e:Ending) (w':World):Prop:=e=.returned (.pointer (some ⟨w.heap.size,0,none⟩))∧Below w.heap.size w w'∧Die w.heap.size w'∧w.heap.size<w'.heap.size
theorem Die.born (w:World) (s:Int):Die w.heap.size (w.alloc (.cells #[.int .u64 s] 74)):=⟨s,by show (w.heap.push _)[w.heap.size]? = _;rw [Array.getElem?_push,if_pos rfl]⟩
set_option maxRecDepth 100000 in
theorem born (x:Option Addr) (n c:Nat) (w:World) (hn:n≤maxLen) (hc:∀ i,i<n→∃ b o,x=some ⟨b,o,none⟩∧∃ v,w.cell? ⟨b,o+i,none⟩=some (.int .i64 v)) :
  Calls Try.prog 10 #[.slice x n c] w (Born w):=by
 unfold maxLen at hn
 have HC:=Lib.hid hc
 clear hc
 have hdie:=Lib.hid (Die.born w 2611923443488327891)
 go_enter Try.func10,Try.ntmps10
 go_wp2
 go_loopw [4] (fun i wr=>∃ k:Nat,k≤n∧i=.int .i64 k∧Stir w.heap.size (w.alloc (.cells #[.int .u64 2611923443488327891] 74)) wr) (fun i _=>n - (intOf i).toNat)
 case atStart=>exact ⟨0,Nat.zero_le _,rfl,Stir.refl hdie.out⟩
 case round =>
  obtain ⟨k,hk,rfl,hs⟩:=hrel
  by_cases hlt:k<n
  ·obtain ⟨b,o,rfl,v,hv⟩:=HC.out k hlt
   have hb:=World.block_lt_of_cell? _ _ hv
   simp only at hb
   have hv1:wr.cell? ⟨b,o+k,none⟩=some (.int .i64 v):=((hs.rest ⟨b,o+k,none⟩ (Nat.ne_of_lt hb) (by simp;omega)).1.trans (World.cell?_of_block (Below.heap_alloc _ _ _ hb))).trans hv
   clear hv
   obtain ⟨⟨s,hd⟩,hf⟩:=hs.die.old
   have hst:=Lib.hid (fun s1:Int=>(hs.drew).trans (Stir.set hs.drew.die s1))
   have hlt':(k:Int)<(n:Int):=by omega
   have hk0:(0:Int)≤(k:Int):=by omega
   go_wp2
   go_still_tail 12,(by kernel_rfl)
   change wpList _ _ _ _ _ wr.drew
   go_wp2_with (go_at_call 39;refine (roll _ _ ?_).mono ?_;exact (hst.out _).die;rintro e w1 ⟨r,hr,rfl,hs1⟩;(have hs2:=(hst.out _).trans hs1))
   go_roundw
   case rel=>exact ⟨k+1,by omega,by go_num,hs2⟩
   case measure=>simp [intOf];omega
  ·go_wp2
   go_ret
   exact ⟨rfl,((Below.refl w.heap.size w).alloc (Nat.le_refl _) _).trans hs.below,hs.die,by have:=hs.below.size;simp at this;omega⟩
end Go.Proofs.Ytoklbkgcclkejaa.mdie
namespace Go.Abs
open Go.RowKit
variable {P:Program}
theorem mid_calls {cl:zR} (hc:CallSound P cl) {f:FuncId} {fn:Func} (hf:P.funcs[f]? = some fn) {c0 c1 rest:Code} (hb:fn.body=some (.seq c0 (.seq c1 rest))) {X:FuncId→List Nat} {k:K} {A:Array Value} {W:World} {R:Ending→World→Prop}
  (h:c0.wp P (Exit.then (fun a w=>c1.wp P (Exit.then (fun a w=>∃ ρ L s v s',ActRel ρ fn.ntmps L [] a∧Clean (X f) L∧SRel ρ s w∧yF P fn (k cl ⟨f,none,fn.ntmps,X f⟩ L [] s)=.val v s'∧∀ ρ' V W',After ρ s w ρ' s' W'→VRel ρ' v V→R (.returned V) W') fun _ _ _=>False) a w) fun _ _ _=>False)
   { tmps:=A++Array.replicate (fn.ntmps - A.size) undef,defers:=[] } W)
  (hk:jX P (X f) fn.ntmps rest=some k):Calls P f A W R:=by
 intro cs
 obtain ⟨b,hbd⟩:∃ b:Frame,b={ (default:Frame) with fn:=f,kind:=.normal }:=⟨_,rfl⟩
 have hr:b.roundOf=none:=by rw [hbd];rfl
 have henter:Frame.enter P f A .normal=b.at { tmps:=A++Array.replicate (fn.ntmps - A.size) undef,defers:=[] } [.code (.seq c0 (.seq c1 rest))]:=by
  rw [hbd];simp [Frame.enter,Frame.at,hf,hb]
 obtain ⟨e0,a0,w0,q0,ar0⟩:=h b [.code (.seq c1 rest)] cs
 cases e0<;>simp only [Exit.then] at q0
 obtain ⟨e1,a1,w1,q1,ar1⟩:=q0 b [.code rest] cs
 cases e1<;>simp only [Exit.then] at q1
 obtain ⟨ρ,L,s,v,s',hact,hclean,hs,hfin,hR⟩:=q1
 have st1:Steps P (lone (Frame.enter P f A .normal) cs W) (lone (b.atR a1 [.code rest]) cs w1):=by
  rw [henter,Frame.atR_of_none hr]
  exact (Steps.head step_seq ar0).trans (Steps.head step_seq ar1)
 have hctx:CtxRel ρ ⟨f,none,fn.ntmps,X f⟩ b:=⟨by rw [hbd],by rw [hbd],fun _=>hr,fun l e=>by cases e⟩
 generalize hr2:k cl ⟨f,none,fn.ntmps,X f⟩ L [] s=r at hfin
 cases r with
 | fail=>cases hfin
 | done e L1 d s₁ =>
  obtain ⟨ρ₁,a₁,W₁,af,ha₁,_,_,st⟩:=yO rest hk hc rfl rfl hctx hact hclean hs hr2
  have fin:∀ (hle:yL P fn.results.toList L1 d s₁=.val v s') (hst:∃ t,Steps P (lone (Frame.enter P f A .normal) cs W) (lone (back b a₁ t) cs W₁)),
    ∃ V w' fr,R (.returned V) w'∧Steps P (lone (Frame.enter P f A .normal) cs W) (lone fr cs w')∧fr.fn=f∧fr.leaving P w' (.returned V):=by
   intro hle hst
   obtain ⟨V,W₂,af₂,hv,st₂⟩:=leaveA_calls ha₁ af.rel hle
   obtain ⟨t,st₁⟩:=hst
   obtain ⟨fr,h1,h2,h3⟩:=st₂ b (by rw [hbd]) (by rw [hbd];exact hf) t cs
   exact ⟨V,W₂,fr,hR _ _ _ (af.trans af₂) hv,Steps.trans st₁ h1,by rw [h2,hbd],h3⟩
  cases e with
  | exit id=>cases hfin
  | norm =>
   have z:=st [] cs
   obtain ⟨V,w',fr,h1,h2,h3,h4⟩:=fin hfin ⟨[],st1.trans (Steps.trans z (.one (stepR_end hr)))⟩
   exact ⟨.returned V,w',fr,h1,h2,h3,h4⟩
  | ret =>
   obtain ⟨k0,z⟩:=st [] cs
   obtain ⟨V,w',fr,h1,h2,h3,h4⟩:=fin hfin ⟨.code .ret::k0,st1.trans (z.trans (.one (stepR_ret hr)))⟩
   exact ⟨.returned V,w',fr,h1,h2,h3,h4⟩
end Go.Abs
set_option maxRecDepth 10000
namespace Go.Proofs.Ytoklbkgcclkejaa.walk
open Go.Abs Go.RowKit Go.Proofs.Ytoklbkgcclkejaa.code
noncomputable def die0 (F:Int):St:=St.new ⟨.nil,0,far⟩ (.cells [.int .u64 F] (tag 74))
def rho0 (d:Nat):Rho:=fun b=>if b=0 then some (d,(0,0)) else none
theorem die0_get {F:Int} {b:Nat} {o:AObj} (h:(die0 F).h.get b=some o):b=0∧o=.cells [.int .u64 F] (tag 74):=by
 by_cases e:b=0
 ·subst e
  have:(die0 F).h.get 0=some (.cells [.int .u64 F] (tag 74)):=zM _ _ _ rfl (by decide)
  rw [this] at h
  exact ⟨rfl,(Option.some.inj h).symm⟩
 ·unfold die0 at h
  rw [zG _ _ _ e] at h
  cases h
theorem Jo {F:Int} {b x:Nat} {o:AObj} (h:Has (die0 F).h b x o):b=0∧x=0∧o=.cells [.int .u64 F] (tag 74):=by
 obtain ⟨y,hy,hp⟩:=h
 obtain ⟨rfl,rfl⟩:=die0_get hy
 have hl:AObj.lone (.cells [.int .u64 F] (tag 74)):=trivial
 rw [vZ hl] at hp
 have:=List.mem_singleton.mp hp
 cases this
 exact ⟨rfl,rfl,rfl⟩
theorem die0_rel {F:Int} {d:Nat} {W:World} (h:W.heap[d]? = some (.cells #[.int .u64 F] 74 (0,0))):SRel (rho0 d) (die0 F) W:=by
 refine ⟨⟨fun b o hb=>?_,fun b x o hb=>?_,fun b b' x x' o o' c e e' hb hb' _ _=>?_,fun g cs hg=>(by cases hg),fun b x o c e hb hr=>rfl,fun b x x' o o' c e e' hb hb' hr hr'=>?_⟩,fun b hb=>?_⟩
 ·rw [(die0_get hb).1];decide
 ·obtain ⟨rfl,rfl,rfl⟩:=Jo hb
  exact ⟨d,(0,0),_,if_pos rfl,h,.cells rfl (.cons (.int _ _) .nil) (Typed.tag _)⟩
 ·rw [(Jo hb).1,(Jo hb').1]
 ·obtain ⟨_,rfl,_⟩:=Jo hb
  obtain ⟨_,rfl,_⟩:=Jo hb'
  rw [hr] at hr'
  cases hr'
  rfl
 ·have:1≤b:=hb
  exact if_neg (by omega)
end Go.Proofs.Ytoklbkgcclkejaa.walk
