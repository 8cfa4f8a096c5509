/- The law ColdColder: what a colder cellar does to losses, and the law's body behind its die. -/
import Derived.Test.YtanecldpcceaoaaM6
import Derived.Test.YtanecldpcceaoaaProg
import Derived.Tactics
import Derived.Tactics2
import Derived.WalkKit
import Derived.OpenShut
import Derived.Below
import Derived.Lib.Hide
import Derived.KernelRfl
import Derived.Deep.RegionHeld3
import Derived.OwnWalk
import Derived.StillTailTactics
import Derived.Test.YtanecldpcceaoaaAbsTop
import Derived.Test.YtanecldpcceaoaaAbsWalk
import Derived.Test.YtanecldpcceaoaaM1
import Derived.Test.YtanecldpcceaoaaAwake
import Derived.Test.YtanecldpcceaoaaWalkAll
set_option linter.unusedSimpArgs false
set_option maxHeartbeats 16000000
set_option linter.unusedVariables false
set_option maxRecDepth 10000
namespace Go.Proofs.Ytanecldpcceaoaa.walk
open Go.Abs Go.Proofs.Ytanecldpcceaoaa.code
structure Cellar.Colder (c d:Cellar):Prop where
 hl:d.hl≤c.hl
 hh:d.hh≤c.hh
 len:d.boxes.length=c.boxes.length
 box:∀ j (h:j<c.boxes.length),(c.boxes[j]).Colder (d.boxes[j]'(by omega))
 f:d.fills=c.fills
 r:d.rates=c.rates
theorem Cellar.Colder.ok {c d:Cellar} (h:c.Colder d) (ok:c.Ok) (h0 : -300≤d.hl) (h1:d.hl≤d.hh):d.Ok:=by
 refine ⟨h0,h1,by have:=ok.h2;have:=h.hh;omega,by rw [h.len];exact ok.b,fun b hb=>?_,by rw [h.f];exact ok.f,fun f hf=>?_,?_,by rw [h.r];exact ok.r0,by rw [h.r];exact ok.r,by rw [h.r];exact ok.rok,?_⟩
 ·obtain ⟨j,hj,rfl⟩:=List.getElem_of_mem hb
  exact (h.box j (by rw [← h.len];exact hj)).ok
 ·rw [h.len];exact ok.fok f (by rw [← h.f];exact hf)
 ·have:=ok.fo
  rw [← h.f] at this
  exact this
 ·have:=ok.ro
  rw [← h.r] at this
  exact this
theorem Cellar.Colder.at_le {c d:Cellar} (h:c.Colder d) (ok:c.Ok) (l:Lot) (okl:l.Ok c.boxes.length) (k:Nat):(d.at l k).1≤(c.at l k).1∧(d.at l k).2≤(c.at l k).2:=by
 unfold Cellar.at
 cases hf:l.stays.find? (hit k) with
 | none=>exact ⟨h.hl,h.hh⟩
 | some t =>
  have ht:=okl.sok t (List.mem_of_find?_eq_some hf)
  obtain ⟨b,hb⟩:∃ b:Nat,t.box=b:=⟨t.box.toNat,by have:=ht.b0;omega⟩
  have hlt:b<c.boxes.length:=by have:=ht.b1;omega
  simp only [hb,Int.toNat_natCast]
  have e1:c.box b=c.boxes[b]:=by unfold Cellar.box;rw [List.getD_eq_getElem?_getD,List.getElem?_eq_getElem hlt];rfl
  have e2:d.box b=d.boxes[b]'(by rw [h.len];exact hlt):=by unfold Cellar.box;rw [List.getD_eq_getElem?_getD,List.getElem?_eq_getElem (by rw [h.len];exact hlt)];rfl
  have hc:=h.box b hlt
  have okb:=ok.bok _ (List.getElem_mem hlt)
  rw [← e1,← e2] at hc
  rw [← e1] at okb
  have ef:d.of b=c.of b:=by unfold Cellar.of;rw [h.f]
  have i1:c.iceLo b k≤d.iceLo b k:=by
   unfold Cellar.iceLo
   rw [ef,hc.mh]
   exact lev_mono hc.room (fun _=>Int.le_refl _) k 0 _ _ _ hc.il
  have i2:c.iceHi b k≤d.iceHi b k:=by
   unfold Cellar.iceHi
   rw [ef]
   exact lev_mono hc.room (fun _=>hc.ml) k 0 _ _ _ hc.ih
  obtain ⟨w1,w2,w3,w4⟩:=hc.w
  obtain ⟨_,_,_,_,_,_,_,_,_,c1,c2,c3,_⟩:=okb
  unfold Cellar.warm
  rw [w1,w2,w3,w4]
  refine ⟨?_,?_⟩
  ·show (if 0<d.iceHi b k then (c.box b).cl else (c.box b).wl)≤(if 0<c.iceHi b k then (c.box b).cl else (c.box b).wl)
   split<;>split<;>omega
  ·show (if 0<d.iceLo b k then (c.box b).ch else (c.box b).wh)≤(if 0<c.iceLo b k then (c.box b).ch else (c.box b).wh)
   split<;>split<;>omega
theorem Cellar.Colder.lost {c d:Cellar} (h:c.Colder d) (ok:c.Ok) (okd:d.Ok) (l:Lot) (okl:l.Ok c.boxes.length) (m:Nat) (hm:l.born+m≤240):(d.lost l m).1≤(c.lost l m).1∧(d.lost l m).2≤(c.lost l m).2:=by
 obtain ⟨h1,h2⟩:=Cellar.lost_le d c okd h.r l (by rw [h.len];exact okl) okl m hm
 exact ⟨h1 fun k _=>(h.at_le ok l okl k).1,h2 fun k _=>(h.at_le ok l okl k).2⟩
theorem Cellar.Colder.last {c d:Cellar} (h:c.Colder d) (ok:c.Ok) (okd:d.Ok) (l:Lot) (okl:l.Ok c.boxes.length):c.last l≤d.last l:=by
 obtain ⟨a1,a2,_⟩:=c.last_spec l
 obtain ⟨b1,_,b3⟩:=d.last_spec l
 have hb:=okl.b1
 by_cases hlt:c.last l≤d.last l
 ·exact hlt
 ·exfalso
  rcases b3 with b3 | b3
  ·omega
  ·rcases a2 with a2 | a2
   ·omega
   ·have h1:=(h.lost ok okd l okl (d.last l+1) (by omega)).2
    have h2:=(c.lost_up ok l (d.last l+1) (c.last l - (d.last l+1))).2
    rw [show d.last l+1+(c.last l - (d.last l+1))=c.last l by omega] at h2
    omega
end Go.Proofs.Ytanecldpcceaoaa.walk
set_option maxRecDepth 10000
namespace Go.Proofs.Ytanecldpcceaoaa.walk
open Go.Abs Go.Proofs.Ytanecldpcceaoaa.code
theorem colder_loop {r:R} (n:Nat) (hn:5≤n) (cx:Ctx) (bs0:List Box) (hok:∀ b ∈ bs0,b.Ok∧b.room≤500) (a b:Int) (w1 w2 w3:AV) (d p7 lo n1:Nat) (L:Env) (s:St) (hr:loopN K3l0 rounds (knows 13 (call Try.prog X n)) cx L [] s=r) (hd:Die d s.h) (hdl:d<lo) (hlo:lo≤n1) (hn1:n1≤p7) (hp7:p7<s.n) (hs:s.n+2000≤far) (hk:bs0.length≤6)
  (g7:s.h.get p7=some (.cells [.int .i64 a,.int .i64 b,w1,w2,w3] (tag 31))) (own:Own s.h lo n1 9 (tag 42) (bs0.map Box.cells) w1)
  (l3:L.find 3=.ptr d 0) (l7:L.find 7=.ptr p7 0) (l9:L.find 9=.int .i64 0) :
  ∃ (L1:Env) (s1:St) (bs:List Box),r=.done (.exit 0) L1 [] s1∧(∀ t,t=3∨t=4∨t=5∨t=6∨t=7→L1.find t=L.find t)∧bs.length=bs0.length∧(∀ j (h:j<bs0.length) (h':j<bs.length),(bs0[j]).Colder bs[j]) ∧
   Own s1.h lo n1 9 (tag 42) (bs.map Box.cells) w1∧Die d s1.h∧(∀ c,c<s.n→c≠d→(c<lo∨n1≤c)→s1.h.get c=s.h.get c)∧s.n≤s1.n∧s1.n≤s.n+5 * bs0.length:=by
 have hff:far=1000000000:=rfl
 obtain ⟨e,L1,s1,rfl,rfl,h⟩:=loop_of hr
  (fun i L' t=>∃ bs:List Box,bs.length=bs0.length∧(∀ j (h:j<bs0.length) (h':j<bs.length),(j<i→(bs0[j]).Colder bs[j])∧(i≤j→bs[j]=bs0[j]))∧(∀ t,t=3∨t=4∨t=5∨t=6∨t=7→L'.find t=L.find t)∧L'.find 9=.int .i64 i ∧
   Own t.h lo n1 9 (tag 42) (bs.map Box.cells) w1∧Die d t.h∧(∀ c,c<s.n→c≠d→(c<lo∨n1≤c)→t.h.get c=s.h.get c)∧s.n≤t.n∧t.n≤s.n+5 * i)
  (fun e L1 s1=>e=.exit 0∧∃ bs:List Box,(∀ t,t=3∨t=4∨t=5∨t=6∨t=7→L1.find t=L.find t)∧bs.length=bs0.length∧(∀ j (h:j<bs0.length) (h':j<bs.length),(bs0[j]).Colder bs[j]) ∧
   Own s1.h lo n1 9 (tag 42) (bs.map Box.cells) w1∧Die d s1.h∧(∀ c,c<s.n→c≠d→(c<lo∨n1≤c)→s1.h.get c=s.h.get c)∧s.n≤s1.n∧s1.n≤s.n+5 * bs0.length)
  bs0.length (by unfold rounds;omega)
  ⟨bs0,rfl,fun j h h'=>⟨fun h=>absurd h (Nat.not_lt_zero _),fun _=>rfl⟩,fun _ _=>rfl,l9,own,hd,fun _ _ _ _=>rfl,Nat.le_refl _,Nat.le_refl _⟩
  (fun i L' t hi ⟨bs,q1,q2,q3,q4,q5,q6,q7,q8,q9⟩=>by
   have g7t:=(q7 p7 hp7 (by omega) (.inr hn1)).trans g7
   by_cases hlt:i<bs0.length
   ·have hib:i<bs.length:=by omega
    have hbe:=(q2 i hlt hib).2 (Nat.le_refl _)
    have hbo:=hok _ (List.getElem_mem hlt)
    obtain ⟨L1,s1,B,p0,p1,p2,p3,p4,p5,p6,p7',p8⟩:=colder_round n hn cx bs a b w1 w2 w3 d p7 lo n1 i L' t hib (by rw [hbe];exact hbo.1) (by rw [hbe];exact hbo.2) q6 hdl hlo hn1 (by omega) (by omega) (by omega) g7t q5 ((q3 3 (by simp)).trans l3) ((q3 7 (by simp)).trans l7) q4
    refine .inl ⟨hlt,L1,s1,p0,bs.set i B,by rw [List.length_set];exact q1,fun j h h'=>⟨fun hj=>?_,fun hj=>?_⟩,fun q hq=>(p1 q hq).trans (q3 q hq),by rw [p2];rfl,p4,p5,fun c hc hcd hcl=>(p6 c (by omega) hcd hcl).trans (q7 c hc hcd hcl),by omega,by omega⟩
    ·rw [List.length_set] at h'
     by_cases e:j=i
     ·subst e
      rw [List.getElem_set_self,← hbe];exact p3
     ·rw [List.getElem_set_ne (by omega)]
      exact (q2 j h h').1 (by omega)
    ·rw [List.length_set] at h'
     rw [List.getElem_set_ne (by omega)]
     exact (q2 j h h').2 (by omega)
   ·obtain rfl:i=bs0.length:=by omega
    have e0:decide ((bs0.length:Int)<(bs0.length:Int))=false:=by simp
    have len1:=q5.seq.at_.len
    rw [List.length_map,q1] at len1
    obtain ⟨ok1,_,_⟩:=q5.seq.scalar
    refine .inr ⟨.exit 0,L'.set 52 (.bool false),t,by simp,?_,rfl,bs,fun q hq=>?_,q1,fun j h h'=>(q2 j h h').1 h,q5,q6,q7,q8,q9⟩
    ·simp (disch:=first|omega|(with_unfolding_all exact rfl)|(simp only[new_n,put_n,new_m];omega)|(refine put_m_le ?_;simp only[new_m];omega)) only [K3l0,K3r9,Abs.W,reduceIte,Nat.reduceEqDiff,Nat.reduceAdd,decide_true,decide_false,kLoop_def,Nat.reduceSub,List.cons_append,List.nil_append,List.append_nil,List.length_cons,List.length_nil,Env.find_set,(q3 7 (by simp)).trans l7,q4,g7t,ok1,len1,e0,Nat.zero_add]
    ·rw [← q3 q hq]
     rcases hq with rfl | rfl | rfl | rfl | rfl<;>simp only [Env.find_set,reduceIte,Nat.reduceEqDiff])
 obtain ⟨bs,h1,h2,h3,h4,h5,h6,h7,h8⟩:=h
 exact ⟨L1,s1,bs,rfl,h1,h2,h3,h4,h5,h6,h7,h8⟩
noncomputable def ccRest:K:=kSeq (kRegion K3r2 [4]) (kSeq (kRegion K3r3 [5]) (kSeq (kRegion K3r4 [6]) (kSeq (kRegion K3r5 [7]) (kSeq (kRegion K3r6 [8]) (kSeq (kRegion K3r7 []) (kSeq (kSeq (kRegion K3r8 [9]) (kBlock 0 (kLoop K3l0))) (kSeq (kRegion K3r15 [12,13]) (kSeq (kRegion K3r16 [14,15]) (kSeq (kRegion K3r17 [16,17]) (kSeq (kRegion K3r18 [18,19]) (kSeq (kRegion K3r19 [2]) kRet)))))))))))
theorem cc_body (n:Nat) (hn:13≤n) (cx:Ctx) (s:St) (d:Nat) (hd:Die d s.h) (hdn:d<s.n) (hs:s.n+900000≤far) (hm:s.m=far) :
  ∃ s',finA Try.prog Try.f3 (ccRest (knows 13 (call Try.prog X n)) cx (.cons 3 (.ptr d 0) .nil) [] s)=.val (.bool true) s':=by
 have hff:far=1000000000:=rfl
 have kn12:∀ args s,knows 13 (call Try.prog X n) (.fn 5) args s=call Try.prog X n (.fn 5) args s:=fun _ _=>rfl
 have kn13:∀ args s,knows 13 (call Try.prog X n) (.fn 6) args s=call Try.prog X n (.fn 6) args s:=fun _ _=>rfl
 have knH:∀ args s,knows 13 (call Try.prog X n) (.fn 7) args s=call Try.prog X n (.fn 7) args s:=fun _ _=>rfl
 have knC:∀ args s,knows 13 (call Try.prog X n) (.fn 8) args s=call Try.prog X n (.fn 8) args s:=fun _ _=>rfl
 have kn14:∀ args s,knows 13 (call Try.prog X n) (.fn 9) args s=call Try.prog X n (.fn 9) args s:=fun _ _=>rfl
 have knL:∀ args s,knows 13 (call Try.prog X n) (.fn 11) args s=call Try.prog X n (.fn 11) args s:=fun _ _=>rfl
 have knA:∀ args s,knows 13 (call Try.prog X n) (.fn 12) args s=call Try.prog X n (.fn 12) args s:=fun _ _=>rfl
 have kn24:∀ s,knows 13 (call Try.prog X n) (.fn 13) [] s=.val (.bool true) s:=fun _=>rfl
 have ex0:∀ (a b:AV) (s:St),extA 0 s (.tup [a,b])=.val a s:=fun _ _ _=>rfl
 have ex1:∀ (a b:AV) (s:St),extA 1 s (.tup [a,b])=.val b s:=fun _ _ _=>rfl
 unfold ccRest
 simp (disch:=first|omega|(with_unfolding_all exact rfl)|(simp only[new_n,put_n,new_m];omega)|(refine put_m_le ?_;simp only[new_m];omega)) only [K3r2,Abs.W,reduceIte,Nat.reduceEqDiff,Nat.reduceAdd,decide_true,decide_false,kLoop_def,Nat.reduceSub,List.cons_append,List.nil_append,List.append_nil,List.length_cons,List.length_nil,Env.find_set,kn12]
 generalize hc1:call _ _ _ (.fn 5) _ _=r1
 obtain ⟨c,v1,v2,v3,t1,rfl,st1,d1,⟨ok,tame⟩,hC⟩:=CellarOf_tame 3 5 hc1 (by omega) (by omega) (by omega) hd hdn (by omega)
 have n1:s.n≤t1.n:=st1.n
 have k1:t1.n≤s.n+1000:=st1.le
 obtain ⟨ok1,c1,sc1⟩:=hC.b.scalar
 obtain ⟨ok2,c2,sc2⟩:=hC.f.scalar
 obtain ⟨ok3,c3,sc3⟩:=hC.r.scalar
 have len1:=hC.b.len
 rw [List.length_map] at len1
 simp (disch:=first|omega|(with_unfolding_all exact rfl)|(simp only[new_n,put_n,new_m];omega)|(refine put_m_le ?_;simp only[new_m];omega)) only [Abs.W,reduceIte,Nat.reduceEqDiff,Nat.reduceAdd,decide_true,decide_false,kLoop_def,Nat.reduceSub,List.cons_append,List.nil_append,List.append_nil,List.length_cons,List.length_nil,Env.find_set,sc1,sc2,sc3,scal_nil]
 obtain ⟨y,hy⟩:∃ y:St,y=(t1.new (.cells [.int .i64 0,.int .i64 0,.nilslice,.nilslice,.nilslice] (tag 31))).put t1.n (.cells [.int .i64 c.hl,.int .i64 c.hh,v1,v2,v3] (tag 31)):=⟨_,rfl⟩
 rw [← hy]
 have yn:y.n=t1.n+1:=by rw [hy];rfl
 have yg:∀ c,c≠t1.n→y.h.get c=t1.h.get c:=fun c hc=>by rw [hy,get_put_ne' _ _ _ _ hc,get_new_ne _ _ _ hc]
 have y4:y.h.get t1.n=some (.cells [.int .i64 c.hl,.int .i64 c.hh,v1,v2,v3] (tag 31)):=by rw [hy];exact get_put_eq _ _ _ _ rfl (by omega)
 have dy:Die d y.h:=by obtain ⟨f,hf'⟩:=d1;exact ⟨f,by rw [yg _ (by omega)];exact hf'⟩
 clear hy
 simp (disch:=first|omega|(with_unfolding_all exact rfl)|(simp only[new_n,put_n,new_m];omega)|(refine put_m_le ?_;simp only[new_m];omega)) only [K3r3,Abs.W,reduceIte,Nat.reduceEqDiff,Nat.reduceAdd,decide_true,decide_false,kLoop_def,Nat.reduceSub,List.cons_append,List.nil_append,List.append_nil,List.length_cons,List.length_nil,Env.find_set,y4,kn13,Nat.zero_add]
 generalize hc2:call _ _ _ (.fn 6) _ _=r2
 obtain ⟨l,v4,t2,rfl,st2,d2,okl,b9,hR⟩:=LotOf_ex (k:=c.boxes.length) 4 hc2 (by omega) (by omega) dy (by omega) (by omega) (by have:=ok.b;omega) len1 ok1
 have n2:y.n≤t2.n:=st2.n
 have k2:t2.n≤y.n+1000:=st2.le
 obtain ⟨ok4,c4,sc4⟩:=hR.scalar
 have z4:=(st2.same t1.n (by omega) (by omega)).trans y4
 simp (disch:=first|omega|(with_unfolding_all exact rfl)|(simp only[new_n,put_n,new_m];omega)|(refine put_m_le ?_;simp only[new_m];omega)) only [Abs.W,reduceIte,Nat.reduceEqDiff,Nat.reduceAdd,decide_true,decide_false,kLoop_def,Nat.reduceSub,List.cons_append,List.nil_append,List.append_nil,List.length_cons,List.length_nil,Env.find_set,sc4,scal_nil]
 obtain ⟨z,hz⟩:∃ z:St,z=(t2.new (.cells [.int .i64 0,.int .i64 0,.nilslice] (tag 35))).put t2.n (.cells [.int .i64 l.born,.int .i64 l.keeps,v4] (tag 35)):=⟨_,rfl⟩
 rw [← hz]
 have zn:z.n=t2.n+1:=by rw [hz];rfl
 have zg:∀ c,c≠t2.n→z.h.get c=t2.h.get c:=fun c hc=>by rw [hz,get_put_ne' _ _ _ _ hc,get_new_ne _ _ _ hc]
 have z5:z.h.get t2.n=some (.cells [.int .i64 l.born,.int .i64 l.keeps,v4] (tag 35)):=by rw [hz];exact get_put_eq _ _ _ _ rfl (by omega)
 have dz:Die d z.h:=by obtain ⟨f,hf'⟩:=d2;exact ⟨f,by rw [zg _ (by omega)];exact hf'⟩
 have z4':=(zg t1.n (by omega)).trans z4
 clear hz
 have b0:=okl.b0
 simp (disch:=first|omega|(with_unfolding_all exact rfl)|(simp only[new_n,put_n,new_m];omega)|(refine put_m_le ?_;simp only[new_m];omega)) only [K3r4,Abs.W,reduceIte,Nat.reduceEqDiff,Nat.reduceAdd,decide_true,decide_false,kLoop_def,Nat.reduceSub,List.cons_append,List.nil_append,List.append_nil,List.length_cons,List.length_nil,Env.find_set,z5,knH,Nat.zero_add]
 generalize hc3:call _ _ _ (.fn 7) _ _=r3
 obtain ⟨hour,t3,rfl,st3,d3,h0,h1⟩:=HourOf_ex hc3 (by omega) dz (by omega) (by omega) ⟨b0,by omega⟩
 have n3:z.n≤t3.n:=st3.n
 have k3:t3.n≤z.n+10:=st3.le
 have f4:=(st3.same t1.n (by omega) (by omega)).trans z4'
 have f5:=(st3.same t2.n (by omega) (by omega)).trans z5
 have low:∀ c,c<t3.n→c≠d→c<t1.n→t3.h.get c=t1.h.get c:=fun c _ hcd hc=>by
  rw [st3.same c (by omega) hcd,zg c (by omega),st2.same c (by omega) hcd,yg c (by omega)]
 have hC3:CellarNew t3.h (s.n+1) t1.n c v1 v2 v3:=hC.mono (fun b hb hbn=>low b (by omega) (by omega) hbn) (Nat.le_refl _)
 have hR3:Abs.Rows t3.h (y.n+1) t2.n 3 (tag 62) (l.stays.map Stay.cells) v4:=hR.mono (fun b hb hbn=>by rw [st3.same b (by omega) (by omega),zg b (by omega)]) (Nat.le_refl _)
 simp (disch:=first|omega|(with_unfolding_all exact rfl)|(simp only[new_n,put_n,new_m];omega)|(refine put_m_le ?_;simp only[new_m];omega)) only [K3r5,Abs.W,reduceIte,Nat.reduceEqDiff,Nat.reduceAdd,decide_true,decide_false,kLoop_def,Nat.reduceSub,List.cons_append,List.nil_append,List.append_nil,List.length_cons,List.length_nil,Env.find_set,f4,knC,Nat.zero_add]
 generalize hc4:call _ _ _ (.fn 8) _ _=r4
 have up1:∀ (b:Nat),b<t1.n→b<t3.n:=fun b hb=>by omega
 obtain ⟨w1,w2,w3,t4,m1,m2,rfl,st4,le1,le2,le3,o1,o2,o3⟩:=CopyCellar_ex c hc4 (by omega) (hC3.b.seq.grow (n':=t3.n) (fun _ _=>rfl) (by omega)) (hC3.f.seq.grow (n':=t3.n) (fun _ _=>rfl) (by omega)) (hC3.r.seq.grow (n':=t3.n) (fun _ _=>rfl) (by omega)) (by have:=ok.b;omega) ok.f (by have:=ok.r;omega) (by omega)
 have n4:t3.n≤t4.n:=st4.n
 have k4:t4.n≤t3.n+10:=st4.le
 obtain ⟨ow1,cw1,sw1⟩:=o1.seq.scalar
 obtain ⟨ow2,cw2,sw2⟩:=o2.seq.scalar
 obtain ⟨ow3,cw3,sw3⟩:=o3.seq.scalar
 simp (disch:=first|omega|(with_unfolding_all exact rfl)|(simp only[new_n,put_n,new_m];omega)|(refine put_m_le ?_;simp only[new_m];omega)) only [Abs.W,reduceIte,Nat.reduceEqDiff,Nat.reduceAdd,decide_true,decide_false,kLoop_def,Nat.reduceSub,List.cons_append,List.nil_append,List.append_nil,List.length_cons,List.length_nil,Env.find_set,sw1,sw2,sw3,scal_nil]
 obtain ⟨x,hx⟩:∃ x:St,x=(t4.new (.cells [.int .i64 0,.int .i64 0,.nilslice,.nilslice,.nilslice] (tag 31))).put t4.n (.cells [.int .i64 c.hl,.int .i64 c.hh,w1,w2,w3] (tag 31)):=⟨_,rfl⟩
 rw [← hx]
 have xn:x.n=t4.n+1:=by rw [hx];rfl
 have xg:∀ c,c≠t4.n→x.h.get c=t4.h.get c:=fun c hc=>by rw [hx,get_put_ne' _ _ _ _ hc,get_new_ne _ _ _ hc]
 have x7:x.h.get t4.n=some (.cells [.int .i64 c.hl,.int .i64 c.hh,w1,w2,w3] (tag 31)):=by rw [hx];exact get_put_eq _ _ _ _ rfl (by omega)
 have dx:Die d x.h:=by obtain ⟨f,hf'⟩:=d3;exact ⟨f,by rw [xg _ (by omega),st4.same _ (by omega)];exact hf'⟩
 clear hx
 simp (disch:=first|omega|(with_unfolding_all exact rfl)|(simp only[new_n,put_n,new_m];omega)|(refine put_m_le ?_;simp only[new_m];omega)) only [K3r6,Abs.W,reduceIte,Nat.reduceEqDiff,Nat.reduceAdd,decide_true,decide_false,kLoop_def,Nat.reduceSub,List.cons_append,List.nil_append,List.append_nil,List.length_cons,List.length_nil,Env.find_set,kn14]
 generalize hc5:call _ _ _ (.fn 9) _ _=r5
 obtain ⟨less,t5,rfl,st5,d5,less0,less1⟩:=cast_ex hc5 (by omega) dx (by omega) (by omega) (by omega)
 have n5:x.n≤t5.n:=st5.n
 have k5:t5.n≤x.n:=st5.le
 have t57:=(st5.same t4.n (by omega) (by omega)).trans x7
 obtain ⟨q0,q1,q2⟩ : -20≤c.hl∧c.hl≤c.hh∧c.hh≤200:=⟨tame.h0,ok.h1,tame.h1⟩
 have a1:∀ s,aSub s .i64 c.hl less=.val (.int .i64 (c.hl - less)) s:=fun s=>aSub_i64 s _ _ (by omega)
 have a2:∀ s,aSub s .i64 c.hh less=.val (.int .i64 (c.hh - less)) s:=fun s=>aSub_i64 s _ _ (by omega)
 simp (disch:=first|omega|(with_unfolding_all exact rfl)|(simp only[new_n,put_n,new_m];omega)|(refine put_m_le ?_;simp only[new_m];omega)) only [K3r7,K3r8,Abs.W,reduceIte,Nat.reduceEqDiff,Nat.reduceAdd,decide_true,decide_false,kLoop_def,Nat.reduceSub,List.cons_append,List.nil_append,List.append_nil,List.length_cons,List.length_nil,Env.find_set,t57,a1,a2,Nat.zero_add,Nat.add_zero]
 generalize hx6:St.put (St.put t5 t4.n _) t4.n _=x6
 have x6n:x6.n=t5.n:=by rw [← hx6];rfl
 have x6g:∀ c,c≠t4.n→x6.h.get c=t5.h.get c:=fun c hc=>by rw [← hx6,get_put_ne' _ _ _ _ hc,get_put_ne' _ _ _ _ hc]
 have x67:x6.h.get t4.n=some (.cells [.int .i64 (c.hl - less),.int .i64 (c.hh - less),w1,w2,w3] (tag 31)):=by rw [← hx6];exact get_put_eq _ _ _ _ rfl (by omega)
 clear hx6
 have d6:Die d x6.h:=by obtain ⟨f,hf'⟩:=d5;exact ⟨f,by rw [x6g _ (by omega)];exact hf'⟩
 have g46:∀ c,c<t4.n→c≠d→x6.h.get c=t4.h.get c:=fun c hc hcd=>by
  rw [x6g c (by omega),st5.same c (by omega) hcd,xg c (by omega)]
 generalize hlp:loopN _ rounds _ _ _ _ _=rl
 obtain ⟨L7,t7,bs,rfl,lk,bsl,bsc,ow7,d7,fr7,n7,k7⟩:=colder_loop n (by omega) cx c.boxes (fun b hb=>⟨ok.bok b hb,tame.r b hb⟩) (c.hl - less) (c.hh - less) w1 w2 w3 d t4.n t3.n m1 _ x6 hlp d6 (by omega) (by omega) (by omega) (by omega) (by omega) (by have:=tame.b;omega) x67 (o1.move (fun b hb hbn=>g46 b (by omega) (by omega)) (Nat.le_refl _) (Nat.le_refl _))
  (by simp only [find_cons,Env.find_set,reduceIte,Nat.reduceEqDiff]) (by simp only [find_cons,Env.find_set,reduceIte,Nat.reduceEqDiff]) (by simp only [find_cons,Env.find_set,reduceIte,Nat.reduceEqDiff])
 have tb:=tame.b
 have l74:L7.find 4=.ptr t1.n 0:=(lk 4 (by simp)).trans (by simp only [find_cons,Env.find_set,reduceIte,Nat.reduceEqDiff])
 have l75:L7.find 5=.ptr t2.n 0:=(lk 5 (by simp)).trans (by simp only [find_cons,Env.find_set,reduceIte,Nat.reduceEqDiff])
 have l76:L7.find 6=.int .i64 hour:=(lk 6 (by simp)).trans (by simp only [find_cons,Env.find_set,reduceIte,Nat.reduceEqDiff])
 have l77:L7.find 7=.ptr t4.n 0:=(lk 7 (by simp)).trans (by simp only [find_cons,Env.find_set,reduceIte,Nat.reduceEqDiff])
 clear lk
 have g37:∀ c,c<t3.n→c≠d→t7.h.get c=t3.h.get c:=fun c hc hcd=>by
  rw [fr7 c (by omega) hcd (.inl hc),g46 c (by omega) hcd,st4.same c hc]
 have e4:=(g37 t1.n (by omega) (by omega)).trans f4
 have e5:=(g37 t2.n (by omega) (by omega)).trans f5
 have e7:=(fr7 t4.n (by omega) (by omega) (.inr (by omega))).trans x67
 obtain ⟨c',hc'⟩:∃ c':Cellar,c'=⟨c.hl - less,c.hh - less,bs,c.fills,c.rates⟩:=⟨_,rfl⟩
 have col:c.Colder c':=by
  rw [hc']
  exact ⟨by simp only;omega,by simp only;omega,bsl,fun j hj=>bsc j hj (by rw [bsl];exact hj),rfl,rfl⟩
 have okc':c'.Ok:=col.ok ok (by rw [hc'];simp only;omega) (by rw [hc'];simp only;omega)
 have okl':l.Ok c'.boxes.length:=by rw [col.len];exact okl
 have hCin:CellarIn t7.h t7.n c v1 v2 v3:=(hC3.mono (n':=t7.n) (fun b hb hbn=>g37 b (by omega) (by omega)) (by omega)).in_
 have hRin:RowsAt t7.h t7.n 3 (l.stays.map Stay.cells) v4:=(hR3.mono (n':=t7.n) (fun b hb hbn=>g37 b (by omega) (by omega)) (by omega)).at_
 have hCin':CellarIn t7.h t7.n c' w1 w2 w3:=by
  rw [hc']
  have o2':Own t7.h m1 t7.n 3 (tag 58) (c.fills.map Fill.cells) w2:=o2.move (fun b hb hbn=>by rw [fr7 b (by omega) (by omega) (.inr hb),g46 b (by omega) (by omega)]) (Nat.le_refl _) (by omega)
  have o3':Own t7.h m1 t7.n 2 (tag 60) (c.rates.map Rate.cells) w3:=o3.move (fun b hb hbn=>by rw [fr7 b (by omega) (by omega) (.inr (by omega)),g46 b (by omega) (by omega)]) (by omega) (by omega)
  have o1':Own t7.h t3.n t7.n 9 (tag 42) (bs.map Box.cells) w1:=ow7.move (fun _ _ _=>rfl) (Nat.le_refl _) (by omega)
  exact ⟨⟨o1'.seq.at_,o2'.seq.at_,o3'.seq.at_⟩,o2'.seq,own_scal o1',own_scal o3'⟩
 have s4:v4.scalar=true:=rows_scal hR
 obtain ⟨m,hmm⟩:∃ m:Nat,hour=l.born+m:=⟨(hour - l.born).toNat,by omega⟩
 have E1:=Lost_ok (N:=n) (s:=t7) (hour:=hour) c ok l okl m (by omega) hCin hRin s4 hmm (by omega) (by omega)
 simp (disch:=first|omega|(with_unfolding_all exact rfl)|(simp only[new_n,put_n,new_m];omega)|(refine put_m_le ?_;simp only[new_m];omega)) only [K3r15,Abs.W,reduceIte,Nat.reduceEqDiff,Nat.reduceAdd,decide_true,decide_false,kLoop_def,Nat.reduceSub,List.cons_append,List.nil_append,List.append_nil,List.length_cons,List.length_nil,Env.find_set,l74,l75,l76,l77,e4,e5,knL,E1,ex0,ex1,Nat.zero_add]
 generalize hu1:St.put (St.new t7 _) t7.n _=u1
 have u1n:u1.n=t7.n+1:=by rw [← hu1];rfl
 have u1g:∀ c,c<t7.n→u1.h.get c=t7.h.get c:=fun c hc=>by rw [← hu1,get_put_ne' _ _ _ _ (by omega),get_new_ne _ _ _ (by omega)]
 have u1x:u1.h.get t7.n=some (.cells [.int .i64 (c.lost l m).1,.int .i64 (c.lost l m).2] (tag 26)):=by rw [← hu1];exact get_put_eq _ _ _ _ rfl (by omega)
 clear hu1
 have e51:=(u1g t2.n (by omega)).trans e5
 have e41:=(u1g t1.n (by omega)).trans e4
 have e71:=(u1g t4.n (by omega)).trans e7
 have hchl:c'.hl=c.hl - less:=by rw [hc']
 have hchh:c'.hh=c.hh - less:=by rw [hc']
 rw [← hchl,← hchh] at e71
 have E2:=Lost_ok (N:=n) (s:=u1) (hour:=hour) c' okc' l okl' m (by omega) (hCin'.grow u1g (by omega)) (hRin.grow u1g (by omega)) s4 hmm (by omega) (by omega)
 simp (disch:=first|omega|(with_unfolding_all exact rfl)|(simp only[new_n,put_n,new_m];omega)|(refine put_m_le ?_;simp only[new_m];omega)) only [K3r16,Abs.W,reduceIte,Nat.reduceEqDiff,Nat.reduceAdd,decide_true,decide_false,kLoop_def,Nat.reduceSub,List.cons_append,List.nil_append,List.append_nil,List.length_cons,List.length_nil,Env.find_set,l74,l75,l76,l77,e51,e71,knL,E2,ex0,ex1,Nat.zero_add]
 generalize hu2:St.put (St.new u1 _) u1.n _=u2
 have u2n:u2.n=u1.n+1:=by rw [← hu2];rfl
 have u2g:∀ c,c<u1.n→u2.h.get c=u1.h.get c:=fun c hc=>by rw [← hu2,get_put_ne' _ _ _ _ (by omega),get_new_ne _ _ _ (by omega)]
 have u2y:u2.h.get u1.n=some (.cells [.int .i64 (c'.lost l m).1,.int .i64 (c'.lost l m).2] (tag 26)):=by rw [← hu2];exact get_put_eq _ _ _ _ rfl (by omega)
 clear hu2
 have u2x:=(u2g t7.n (by omega)).trans u1x
 have e52:=(u2g t2.n (by omega)).trans e51
 have e42:=(u2g t1.n (by omega)).trans e41
 have e72:=(u2g t4.n (by omega)).trans e71
 have g72:∀ c,c<t7.n→u2.h.get c=t7.h.get c:=fun c hc=>(u2g c (by omega)).trans (u1g c hc)
 have E3:=Last_ok (N:=n) (s:=u2) c ok l okl (by omega) (hCin.grow g72 (by omega)) (hRin.grow g72 (by omega)) s4 (by omega)
 have E4:=Last_ok (N:=n) (s:=u2) c' okc' l okl' (by omega) (hCin'.grow g72 (by omega)) (hRin.grow g72 (by omega)) s4 (by omega)
 simp (disch:=first|omega|(with_unfolding_all exact rfl)|(simp only[new_n,put_n,new_m];omega)|(refine put_m_le ?_;simp only[new_m];omega)) only [K3r17,K3r18,Abs.W,reduceIte,Nat.reduceEqDiff,Nat.reduceAdd,decide_true,decide_false,kLoop_def,Nat.reduceSub,List.cons_append,List.nil_append,List.append_nil,List.length_cons,List.length_nil,Env.find_set,l74,l75,l76,l77,e52,e42,e72,knA,E3,E4,ex0,ex1,Nat.zero_add]
 have hl:=col.lost ok okc' l okl m (by omega)
 have hla:=col.last ok okc' l okl
 have m1':decide ((c'.lost l m).1≤(c.lost l m).1)=true:=decide_eq_true hl.1
 have m2':decide ((c'.lost l m).2≤(c.lost l m).2)=true:=decide_eq_true hl.2
 have m3':decide (l.born+(c.last l:Int)≤l.born+(c'.last l:Int))=true:=decide_eq_true (by omega)
 have q0:=fun cl L s=>congrFun (congrFun (congrFun K3r19.eq_1 cl) L) s
 have qs4:=fun cl L s=>congrFun (congrFun (congrFun K3r19s4.eq_1 cl) L) s
 have qs5:=fun cl L s=>congrFun (congrFun (congrFun K3r19s5.eq_1 cl) L) s
 have qs8:=fun cl L s=>congrFun (congrFun (congrFun K3r19s8.eq_1 cl) L) s
 have qs9:=fun cl L s=>congrFun (congrFun (congrFun K3r19s9.eq_1 cl) L) s
 have qs12:=fun cl L s=>congrFun (congrFun (congrFun K3r19s12.eq_1 cl) L) s
 have qs13:=fun cl L s=>congrFun (congrFun (congrFun K3r19s13.eq_1 cl) L) s
 have qs16:=fun cl L s=>congrFun (congrFun (congrFun K3r19s16.eq_1 cl) L) s
 have qs17:=fun cl L s=>congrFun (congrFun (congrFun K3r19s17.eq_1 cl) L) s
 have qs18:=fun cl L s=>congrFun (congrFun (congrFun K3r19s18.eq_1 cl) L) s
 have qs19:=fun cl L s=>congrFun (congrFun (congrFun K3r19s19.eq_1 cl) L) s
 have qs20:=fun cl L s=>congrFun (congrFun (congrFun K3r19s20.eq_1 cl) L) s
 have qs23:=fun cl L s=>congrFun (congrFun (congrFun K3r19s23.eq_1 cl) L) s
 have qs24:=fun cl L s=>congrFun (congrFun (congrFun K3r19s24.eq_1 cl) L) s
 have qs25:=fun cl L s=>congrFun (congrFun (congrFun K3r19s25.eq_1 cl) L) s
 have qs26:=fun cl L s=>congrFun (congrFun (congrFun K3r19s26.eq_1 cl) L) s
 have qs27:=fun cl L s=>congrFun (congrFun (congrFun K3r19s27.eq_1 cl) L) s
 have qs30:=fun cl L s=>congrFun (congrFun (congrFun K3r19s30.eq_1 cl) L) s
 have qs31:=fun cl L s=>congrFun (congrFun (congrFun K3r19s31.eq_1 cl) L) s
 have qs32:=fun cl L s=>congrFun (congrFun (congrFun K3r19s32.eq_1 cl) L) s
 have qs35:=fun cl L s=>congrFun (congrFun (congrFun K3r19s35.eq_1 cl) L) s
 have d0:decide ((0:Int)=0)=true:=rfl
 simp (config:={ maxSteps:=2000000 }) (disch:=first|omega|(with_unfolding_all exact rfl)|(simp only[new_n,put_n,new_m];omega)|(refine put_m_le ?_;simp only[new_m];omega)) only [q0,qs4,qs5,qs8,qs9,qs12,qs13,qs16,qs17,qs18,qs19,qs20,qs23,qs24,qs25,qs26,qs27,qs30,qs31,qs32,qs35,res3,Abs.W,reduceIte,Nat.reduceEqDiff,Nat.reduceAdd,decide_true,decide_false,kLoop_def,Nat.reduceSub,List.cons_append,List.nil_append,List.append_nil,List.length_cons,List.length_nil,Env.find_set,l74,l75,l76,l77,u2x,u2y,d0,m1',m2',m3',kn24,Nat.zero_add]
 exact ⟨_,rfl⟩
end Go.Proofs.Ytanecldpcceaoaa.walk
namespace Go.Proofs.Ytanecldpcceaoaa.mdie
open Go.RowKit
def Die (b:Nat) (w:World):Prop:=∃ s,w.heap[b]? = some (.cells #[.int .u64 s] 53 (0,0))
theorem Die.old {b:Nat} {w:World} (h:Die b w):(∃ s,w.cell? ⟨b,0,none⟩=some (.int .u64 s))∧w.frozen? ⟨b,0,none⟩=false:=by
 obtain ⟨s,hs⟩:=h
 refine ⟨⟨s,?_⟩,?_⟩
 ·unfold World.cell?;simp [hs]
 ·unfold World.frozen?;simp [hs]
structure Stir (b:Nat) (w w':World):Prop where
 below:Below b w w'
 rest:∀ p:Addr,p.block≠b→p.block<w.heap.size→w'.cell? p=w.cell? p∧w'.frozen? p=w.frozen? p
 die:Die b w'
def Gives (b:Nat) (k:IntKind) (Q:Int→Prop) (w:World) (e:Ending) (w':World):Prop:=∃ r,Q r∧e=.returned (.int k r)∧Stir b w w'
theorem bits_nonneg (op:BinOp) (x y:Int):0≤bits op .u64 x y:=by
 have:=bounds_u64 (wf_bits (k:=.u64) (op:=op) (x:=x) (y:=y))
 exact this.1
theorem Stir.set {b:Nat} {w:World} (h:Die b w) (s:Int):Stir b w (w.setCell ⟨b,0,none⟩ (.int .u64 s)):=by
 obtain ⟨t,ht⟩:=h
 refine ⟨(Below.refl b w).setCell (p:=⟨b,0,none⟩) (Nat.le_refl b) _,fun p hp _=>⟨World.cell?_of_block (Below.heap_setCell _ _ _ _ hp),World.frozen?_of_block (Below.heap_setCell _ _ _ _ hp)⟩,⟨s,?_⟩⟩
 unfold World.setCell
 simp [Array.getElem?_modify,ht]
theorem roll (b:Nat) (w:World) (h:Die b w):Calls Try.prog 14 #[.pointer (some ⟨b,0,none⟩)] w (Gives b .u64 (fun r=>0≤r) w):=by
 have h':=Lib.hid h
 obtain ⟨⟨s,hs⟩,hf⟩:=h.old
 clear h
 go_enter Try.func14,Try.ntmps14
 go_wp2
 go_ret
 exact ⟨_,bits_nonneg _ _ _,rfl,Stir.set h'.out _⟩
theorem Stir.refl {b:Nat} {w:World} (h:Die b w):Stir b w w:=⟨Below.refl _ _,fun _ _ _=>⟨rfl,rfl⟩,h⟩
theorem Stir.trans {b:Nat} {u v w:World} (h:Stir b u v) (k:Stir b v w):Stir b u w :=
 ⟨h.below.trans k.below,fun p hp hb=>⟨(k.rest p hp (Nat.lt_of_lt_of_le hb h.below.size)).1.trans (h.rest p hp hb).1,(k.rest p hp (Nat.lt_of_lt_of_le hb h.below.size)).2.trans (h.rest p hp hb).2⟩,k.die⟩
theorem Die.lt {b:Nat} {w:World} (h:Die b w):b<w.heap.size:=by obtain ⟨⟨s,hs⟩,_⟩:=h.old;exact World.block_lt_of_cell? w _ hs
theorem Stir.drew {b:Nat} {w w':World} (h:Stir b w w'):Stir b w w'.drew:=h.trans ⟨⟨rfl,rfl,rfl,Nat.le_refl _,fun _ _=>rfl⟩,fun _ _ _=>⟨rfl,rfl⟩,h.die⟩
def Born (w:World) (e:Ending) (w':World):Prop:=e=.returned (.pointer (some ⟨w.heap.size,0,none⟩))∧Below w.heap.size w w'∧Die w.heap.size w'∧w.heap.size<w'.heap.size
theorem Die.born (w:World) (s:Int):Die w.heap.size (w.alloc (.cells #[.int .u64 s] 53)):=⟨s,by show (w.heap.push _)[w.heap.size]? = _;rw [Array.getElem?_push,if_pos rfl]⟩
set_option maxRecDepth 100000 in
theorem born (x:Option Addr) (n c:Nat) (w:World) (hn:n≤maxLen) (hc:∀ i,i<n→∃ b o,x=some ⟨b,o,none⟩∧∃ v,w.cell? ⟨b,o+i,none⟩=some (.int .i64 v)) :
  Calls Try.prog 4 #[.slice x n c] w (Born w):=by
 unfold maxLen at hn
 have HC:=Lib.hid hc
 clear hc
 have hdie:=Lib.hid (Die.born w 2611923443488327891)
 go_enter Try.func4,Try.ntmps4
 go_wp2
 go_loopw [4] (fun i wr=>∃ k:Nat,k≤n∧i=.int .i64 k∧Stir w.heap.size (w.alloc (.cells #[.int .u64 2611923443488327891] 53)) wr) (fun i _=>n - (intOf i).toNat)
 case atStart=>exact ⟨0,Nat.zero_le _,rfl,Stir.refl hdie.out⟩
 case round =>
  obtain ⟨k,hk,rfl,hs⟩:=hrel
  by_cases hlt:k<n
  ·obtain ⟨b,o,rfl,v,hv⟩:=HC.out k hlt
   have hb:=World.block_lt_of_cell? _ _ hv
   simp only at hb
   have hv1:wr.cell? ⟨b,o+k,none⟩=some (.int .i64 v):=((hs.rest ⟨b,o+k,none⟩ (Nat.ne_of_lt hb) (by simp;omega)).1.trans (World.cell?_of_block (Below.heap_alloc _ _ _ hb))).trans hv
   clear hv
   obtain ⟨⟨s,hd⟩,hf⟩:=hs.die.old
   have hst:=Lib.hid (fun s1:Int=>(hs.drew).trans (Stir.set hs.drew.die s1))
   have hlt':(k:Int)<(n:Int):=by omega
   have hk0:(0:Int)≤(k:Int):=by omega
   go_wp2
   go_still_tail 12,(by kernel_rfl)
   change wpList _ _ _ _ _ wr.drew
   go_wp2_with (go_at_call 14;refine (roll _ _ ?_).mono ?_;exact (hst.out _).die;rintro e w1 ⟨r,hr,rfl,hs1⟩;(have hs2:=(hst.out _).trans hs1))
   go_roundw
   case rel=>exact ⟨k+1,by omega,by go_num,hs2⟩
   case measure=>simp [intOf];omega
  ·go_wp2
   go_ret
   exact ⟨rfl,((Below.refl w.heap.size w).alloc (Nat.le_refl _) _).trans hs.below,hs.die,by have:=hs.below.size;simp at this;omega⟩
end Go.Proofs.Ytanecldpcceaoaa.mdie
namespace Go.Abs
open Go.RowKit
variable {P:Program}
theorem mid_calls {cl:CallF} (hc:CallSound P cl) {f:FuncId} {fn:Func} (hf:P.funcs[f]? = some fn) {c0 c1 rest:Code} (hb:fn.body=some (.seq c0 (.seq c1 rest))) {X:FuncId→List Nat} {k:K} {A:Array Value} {W:World} {R:Ending→World→Prop}
  (h:c0.wp P (Exit.then (fun a w=>c1.wp P (Exit.then (fun a w=>∃ ρ L s v s',ActRel ρ fn.ntmps L [] a∧Clean (X f) L∧SRel ρ s w∧finA P fn (k cl ⟨f,none,fn.ntmps,X f⟩ L [] s)=.val v s'∧∀ ρ' V W',After ρ s w ρ' s' W'→VRel ρ' v V→R (.returned V) W') fun _ _ _=>False) a w) fun _ _ _=>False)
   { tmps:=A++Array.replicate (fn.ntmps - A.size) undef,defers:=[] } W)
  (hk:codeK P (X f) fn.ntmps rest=some k):Calls P f A W R:=by
 intro cs
 obtain ⟨b,hbd⟩:∃ b:Frame,b={ (default:Frame) with fn:=f,kind:=.normal }:=⟨_,rfl⟩
 have hr:b.roundOf=none:=by rw [hbd];rfl
 have henter:Frame.enter P f A .normal=b.at { tmps:=A++Array.replicate (fn.ntmps - A.size) undef,defers:=[] } [.code (.seq c0 (.seq c1 rest))]:=by
  rw [hbd];simp [Frame.enter,Frame.at,hf,hb]
 obtain ⟨e0,a0,w0,q0,ar0⟩:=h b [.code (.seq c1 rest)] cs
 cases e0<;>simp only [Exit.then] at q0
 obtain ⟨e1,a1,w1,q1,ar1⟩:=q0 b [.code rest] cs
 cases e1<;>simp only [Exit.then] at q1
 obtain ⟨ρ,L,s,v,s',hact,hclean,hs,hfin,hR⟩:=q1
 have st1:Steps P (lone (Frame.enter P f A .normal) cs W) (lone (b.atR a1 [.code rest]) cs w1):=by
  rw [henter,Frame.atR_of_none hr]
  exact (Steps.head step_seq ar0).trans (Steps.head step_seq ar1)
 have hctx:CtxRel ρ ⟨f,none,fn.ntmps,X f⟩ b:=⟨by rw [hbd],by rw [hbd],fun _=>hr,fun l e=>by cases e⟩
 generalize hr2:k cl ⟨f,none,fn.ntmps,X f⟩ L [] s=r at hfin
 cases r with
 | fail=>cases hfin
 | done e L1 d s₁ =>
  obtain ⟨ρ₁,a₁,W₁,af,ha₁,_,_,st⟩:=codeK_sound rest hk hc rfl rfl hctx hact hclean hs hr2
  have fin:∀ (hle:leaveA P fn.results.toList L1 d s₁=.val v s') (hst:∃ t,Steps P (lone (Frame.enter P f A .normal) cs W) (lone (back b a₁ t) cs W₁)),
    ∃ V w' fr,R (.returned V) w'∧Steps P (lone (Frame.enter P f A .normal) cs W) (lone fr cs w')∧fr.fn=f∧fr.leaving P w' (.returned V):=by
   intro hle hst
   obtain ⟨V,W₂,af₂,hv,st₂⟩:=leaveA_calls ha₁ af.rel hle
   obtain ⟨t,st₁⟩:=hst
   obtain ⟨fr,h1,h2,h3⟩:=st₂ b (by rw [hbd]) (by rw [hbd];exact hf) t cs
   exact ⟨V,W₂,fr,hR _ _ _ (af.trans af₂) hv,Steps.trans st₁ h1,by rw [h2,hbd],h3⟩
  cases e with
  | exit id=>cases hfin
  | norm =>
   have z:=st [] cs
   obtain ⟨V,w',fr,h1,h2,h3,h4⟩:=fin hfin ⟨[],st1.trans (Steps.trans z (.one (stepR_end hr)))⟩
   exact ⟨.returned V,w',fr,h1,h2,h3,h4⟩
  | ret =>
   obtain ⟨k0,z⟩:=st [] cs
   obtain ⟨V,w',fr,h1,h2,h3,h4⟩:=fin hfin ⟨.code .ret::k0,st1.trans (z.trans (.one (stepR_ret hr)))⟩
   exact ⟨.returned V,w',fr,h1,h2,h3,h4⟩
end Go.Abs
set_option maxRecDepth 10000
namespace Go.Proofs.Ytanecldpcceaoaa.walk
open Go.Abs Go.RowKit Go.Proofs.Ytanecldpcceaoaa.code
noncomputable def die0 (F:Int):St:=St.new ⟨.nil,0,far⟩ (.cells [.int .u64 F] (tag 53))
def rho0 (d:Nat):Rho:=fun b=>if b=0 then some (d,(0,0)) else none
theorem die0_get {F:Int} {b:Nat} {o:AObj} (h:(die0 F).h.get b=some o):b=0∧o=.cells [.int .u64 F] (tag 53):=by
 by_cases e:b=0
 ·subst e
  have:(die0 F).h.get 0=some (.cells [.int .u64 F] (tag 53)):=get_new_eq _ _ _ rfl (by decide)
  rw [this] at h
  exact ⟨rfl,(Option.some.inj h).symm⟩
 ·unfold die0 at h
  rw [get_new_ne _ _ _ e] at h
  cases h
theorem die0_has {F:Int} {b x:Nat} {o:AObj} (h:Has (die0 F).h b x o):b=0∧x=0∧o=.cells [.int .u64 F] (tag 53):=by
 obtain ⟨y,hy,hp⟩:=h
 obtain ⟨rfl,rfl⟩:=die0_get hy
 have hl:AObj.lone (.cells [.int .u64 F] (tag 53)):=trivial
 rw [parts_lone hl] at hp
 have:=List.mem_singleton.mp hp
 cases this
 exact ⟨rfl,rfl,rfl⟩
theorem die0_rel {F:Int} {d:Nat} {W:World} (h:W.heap[d]? = some (.cells #[.int .u64 F] 53 (0,0))):SRel (rho0 d) (die0 F) W:=by
 refine ⟨⟨fun b o hb=>?_,fun b x o hb=>?_,fun b b' x x' o o' c e e' hb hb' _ _=>?_,fun g cs hg=>(by cases hg),fun b x o c e hb hr=>rfl,fun b x x' o o' c e e' hb hb' hr hr'=>?_⟩,fun b hb=>?_⟩
 ·rw [(die0_get hb).1];decide
 ·obtain ⟨rfl,rfl,rfl⟩:=die0_has hb
  exact ⟨d,(0,0),_,if_pos rfl,h,.cells rfl (.cons (.int _ _) .nil) (Typed.tag _)⟩
 ·rw [(die0_has hb).1,(die0_has hb').1]
 ·obtain ⟨_,rfl,_⟩:=die0_has hb
  obtain ⟨_,rfl,_⟩:=die0_has hb'
  rw [hr] at hr'
  cases hr'
  rfl
 ·have:1≤b:=hb
  exact if_neg (by omega)
end Go.Proofs.Ytanecldpcceaoaa.walk
set_option maxRecDepth 10000
namespace Go.Proofs.Ytanecldpcceaoaa.walk
open Go.Abs Go.RowKit Go.Proofs.Ytanecldpcceaoaa.code
set_option maxRecDepth 100000 in
theorem cc_calls (a:Option Addr) (n c:Nat) (w:World) (hn:n≤maxLen) (hc:∀ i,i<n→∃ b o,a=some ⟨b,o,none⟩∧∃ v,w.cell? ⟨b,o+i,none⟩=some (.int .i64 v)) :
  Calls Try.prog 3 #[.slice a n c] w fun e w'=>e=.returned (.bool true)∧Below w.heap.size w w':=by
 have HC:=Lib.hid hc
 clear hc
 refine mid_calls (cl:=knows 13 (call Try.prog X 20)) (knows_sound (call_sound 200) Try.func13 awake.entered (call_sound 20)) Try.func3 rfl (X:=X) (k:=ccRest) ?_ (by kernel_rfl)
 simp only [Try.ntmps3,List.size_toArray,List.length_cons,List.length_nil,Nat.reduceAdd,Nat.reduceSub,Array.replicate_succ,Array.replicate_zero,List.push_toArray,List.append_toArray,List.nil_append,List.cons_append]
 go_wp2_with (go_at_call 4;((with_reducible refine (mdie.born _ _ _ _ hn HC.out).mono ?_);rintro e w1 ⟨rfl,hB1,⟨F,hF⟩,hg1⟩))
 have hd0:walk.Die 0 (die0 F).h:=⟨F,get_new_eq _ _ _ rfl (by decide)⟩
 obtain ⟨s',hs'⟩:=cc_body 20 (by omega) ⟨3,none,Try.f3.ntmps,X 3⟩ (die0 F) 0 hd0 (by show 0<1;omega) (by show 1+900000≤1000000000;omega) rfl
 refine ⟨rho0 w.heap.size,.cons 3 (.ptr 0 0) .nil,die0 F,.bool true,s',⟨fun t=>?_,rfl,.nil⟩,fun t ht=>?_,die0_rel hF,hs',fun ρ' V W' af hv=>?_⟩
 ·by_cases e:t=3
  ·subst e
   exact .ptr (e:=(0,0)) (if_pos rfl)
  ·rw [show (Env.cons 3 (.ptr 0 0) .nil).find t=AV.bad by rw [find_cons,if_neg (by omega)];rfl]
   exact .bad _
 ·by_cases e:t=3
  ·subst e
   have hx:(X 3).contains 3=true:=by kernel_rfl
   rw [hx] at ht
   cases ht
  ·rw [find_cons,if_neg (by omega)];rfl
 ·cases hv
  refine ⟨rfl,hB1.trans ⟨af.os,af.tape,af.output,af.size,fun k hk=>af.frame k (by omega) fun b x o e hb hr=>?_⟩⟩
  obtain ⟨_,rfl,_⟩:=die0_has hb
  have hr:some (w.heap.size,(0,0))=some (k,e):=hr
  injection hr with hr
  injection hr with hr _
  omega
end Go.Proofs.Ytanecldpcceaoaa.walk
