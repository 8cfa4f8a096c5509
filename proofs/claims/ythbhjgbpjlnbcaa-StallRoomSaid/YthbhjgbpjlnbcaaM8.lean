/- One who waits makes its offers. -/
import Derived.Test.YthbhjgbpjlnbcaaM7
import Derived.Test.YthbhjgbpjlnbcaaM1
import Derived.Test.YthbhjgbpjlnbcaaM2
import Derived.Test.YthbhjgbpjlnbcaaCodes
import Derived.Test.YthbhjgbpjlnbcaaM4
import Derived.Test.YthbhjgbpjlnbcaaWalkAll
set_option linter.unusedSimpArgs false
set_option maxHeartbeats 16000000
set_option linter.unusedVariables false
set_option maxRecDepth 10000
namespace Go.Proofs.Ythbhjgbpjlnbcaa.walk
open Go.Abs Go.Proofs.Ythbhjgbpjlnbcaa.code
def holdF (hs:List Int):Nat→Int:=fun s=>hs.getD s (-1)
theorem holdF_set {hs:List Int} {s:Nat} (h:s<hs.length) (a:Int):holdF (hs.set s a)=Mkt.upd (holdF hs) s a:=by
 funext t
 unfold holdF Mkt.upd
 by_cases e:t=s
 ·subst e
  rw [if_pos rfl]
  simp [List.getD,h]
 ·rw [if_neg e]
  simp [List.getD,List.getElem?_set_ne (Ne.symm e)]
structure OfferB (no na:Nat→Prop) (w:St) (u0 nr bm pr bh ph b0 pw z5 z6:Nat) (l:Letting) (vS vA vr:AV):Prop where
 box:w.h.get u0=some (.cells [vS,vA] (tag 28))
 lt:LetAt no na w.h u0 l vS vA
 g5:w.h.get pr=some (.cells [vr] z5)
 rk:RkS w.h nr bm (u0+1) l l.stalls.length vr
 rb:bm<nr→u0+1≤bm
 g6:w.h.get ph=some (.cells [.slice bh 0 l.stalls.length l.stalls.length false] z6)
 o0:u0<pr
 o1:nr≤pr
 o2:pr<bh
 o3:bh<ph
 o4:ph<b0
 o5:b0<pw
 o6:pw<w.n
structure OfferJ (w t:St) (u0 bh b0 pw zh z7:Nat) (l:Letting) (hs:List Int) (q:List Nat) (d:List Nat) (kk:Nat):Prop where
 gh:t.h.get bh=some (.cells (hcell hs) zh)
 hk:hs.length=l.stalls.length
 qu:∃ vq b,t.h.get pw=some (.cells [vq] z7)∧QAt t.h t.n b q vq∧(b=b0∨w.n≤b)
 same:∀ c,c<w.n→c≠bh→c≠pw→c≠b0→t.h.get c=w.h.get c
 n:w.n≤t.n
 le:t.n≤w.n+kk
 m:u0≤t.m
 ml:t.m≤far
 dd:∀ c ∈ d,w.n≤c∧c<t.n∧t.h.get c=some .dfr
 dn:d.Nodup
theorem rnd_le {a b c d e:Nat} (h1:a≤b+2+10 * (10+2000)) (h2:b=c+3) (h3:c≤d+e):a≤d+(e+30000):=by
 rw [← Nat.add_assoc]
 omega
theorem offer_round (M:Nat) (hM:1≤M) {no na:Nat→Prop} {w t:St} {u0 nr bm pr bh ph b0 pw z5 z6 zh z7 kk a:Nat} {l:Letting} {vS vA vr:AV} {hs:List Int} {r d:List Nat} {L:Env} (ok:l.Ok) (B:OfferB no na w u0 nr bm pr bh ph b0 pw z5 z6 l vS vA vr) (J:OfferJ w t u0 bh b0 pw zh z7 l hs (a::r) d kk) (I:(mktOf l).Inv (holdF hs) (a::r)) (hr:r.length≤90)
  (f1:L.find 1=.ptr u0 0) (f5:L.find 5=.ptr pr 0) (f6:L.find 6=.ptr ph 0) (f7:L.find 7=.ptr pw 0) (hs':w.n+kk+100000≤far) :
  ∃ L1 d1 t1 hs1 q1,K18l0 (call Try.prog X (M+4)) ⟨18,none,Try.f18.ntmps,X 18⟩ L d t=.done .norm L1 d1 t1∧OfferJ w t1 u0 bh b0 pw zh z7 l hs1 q1 d1 (kk+30000)∧(mktOf l).Inv (holdF hs1) q1∧(mktOf l).meas (holdF hs1) q1+1≤(mktOf l).meas (holdF hs) (a::r)∧L1.find 1=.ptr u0 0∧L1.find 5=.ptr pr 0∧L1.find 6=.ptr ph 0∧L1.find 7=.ptr pw 0:=by
 have hf:far=1000000000:=rfl
 obtain ⟨box,hL,g5,rk,rb,g6,o0,o1,o2,o3,o4,o5,o6⟩:=B
 obtain ⟨gh,hk,⟨vq,b,gw,hQ,hb⟩,same,jn,jle,jm,jml,dd,dn⟩:=J
 have ha:a<l.appls.length:=(I.qn a (List.mem_cons_self ..)).1
 have kS:=hL.okS
 have kA:=hL.okV
 have kq:=hQ.okA
 have lq:=hQ.len
 have e0:decide ((0:Int)<((r.length+1:Nat):Int))=true:=decide_eq_true (by omega)
 obtain ⟨o,cq,zq,h1,h2,h3⟩:=hQ.head
 obtain ⟨v',t1,hQ'⟩:=hQ.tail
 have bl:=hQ.1
 have sc:=hQ'.scal
 have kq':=hQ'.okA
 obtain ⟨y1,hy1⟩:∃ y1:St,y1=(t.new (.cells [.int .i64 0] (tag 3))).put t.n (.cells [.int .i64 (a:Int)] (tag 3)):=⟨_,rfl⟩
 have y1n:y1.n=t.n+1:=by rw [hy1];rfl
 have y1m:y1.m=min t.m t.n:=by rw [hy1];simp only [St.put,minN_eq,new_m]
 have y1g:∀ c,c<t.n→y1.h.get c=t.h.get c:=fun c hc=>by rw [hy1,get_put_ne' _ _ _ _ (by omega),get_new_ne _ _ _ (by omega)]
 have y1p:y1.h.get t.n=some (.cells [.int .i64 (a:Int)] (tag 3)):=by rw [hy1];exact get_put_eq _ _ _ _ rfl (by omega)
 have y1w:=(y1g pw (by omega)).trans gw
 obtain ⟨y2,hy2⟩:∃ y2:St,y2=y1.put pw (.cells [v'] z7):=⟨_,rfl⟩
 have y2n:y2.n=t.n+1:=by rw [hy2,put_n];exact y1n
 have y2m:y2.m=min y1.m pw:=by rw [hy2];simp only [St.put,minN_eq]
 have y2g:∀ c,c<t.n→c≠pw→y2.h.get c=t.h.get c:=fun c hc hw=>by rw [hy2,get_put_ne' _ _ _ _ hw];exact y1g c hc
 have y2w:y2.h.get pw=some (.cells [v'] z7):=by rw [hy2];exact get_put_eq _ _ _ _ rfl (by omega)
 have y2p:y2.h.get t.n=some (.cells [.int .i64 (a:Int)] (tag 3)):=by rw [hy2,get_put_ne' _ _ _ _ (by omega)];exact y1p
 have y20:y2.h.get u0=some (.cells [vS,vA] (tag 28)):=by rw [y2g u0 (by omega) (by omega),same u0 (by omega) (by omega) (by omega) (by omega)];exact box
 have re:=reach_ok (M+4) (by omega) [vS,vA] (a:Int) y2 (by omega)
 obtain ⟨s0,hs0⟩:∃ s0:St,s0=(y2.new (.cells [vS,vA] (tag 28))).new (.cells [.int .i64 (a:Int)] (tag 3)):=⟨_,rfl⟩
 have s0n:s0.n=t.n+3:=by rw [hs0];show y2.n+1+1=_;omega
 have s0m:s0.m=y2.m:=by rw [hs0];rfl
 have s0g:∀ c,c<y2.n→s0.h.get c=y2.h.get c:=fun c hc=>by rw [hs0,get_new_ne _ _ _ (by rw [new_n];omega),get_new_ne _ _ _ (by omega)]
 have s00:s0.h.get (t.n+1)=some (.cells [vS,vA] (tag 28)):=by rw [hs0,get_new_ne _ _ _ (by rw [new_n];omega)];exact get_new_eq _ _ _ (by omega) (by omega)
 have s01:s0.h.get (t.n+2)=some (.cells [.int .i64 (a:Int)] (tag 3)):=by rw [hs0];exact get_new_eq _ _ _ (by rw [new_n];omega) (by rw [new_n];omega)
 rw [← hs0,y2n] at re
 have s0t:∀ c,c<t.n→c≠pw→s0.h.get c=t.h.get c:=fun c hc hw=>(s0g c (by omega)).trans (y2g c hc hw)
 have s0p:=(s0g t.n (by omega)).trans y2p
 have s0w:=(s0g pw (by omega)).trans y2w
 simp (disch:=first|omega|(with_unfolding_all exact rfl)|(simp only[new_n,put_n,new_m];omega)|(refine put_m_le ?_;simp only[new_m];omega)) only [K18l0,K18r7,K18r8,Abs.W,reduceIte,Nat.reduceEqDiff,Nat.reduceAdd,decide_true,decide_false,kLoop_def,Nat.reduceSub,List.cons_append,List.nil_append,List.append_nil,List.length_cons,List.length_nil,Env.find_set,f7,gw,kq,lq,e0,h1,h2,h3,Nat.zero_add]
 rw [← hy1]
 simp (disch:=first|omega|(with_unfolding_all exact rfl)|(simp only[new_n,put_n,new_m];omega)|(refine put_m_le ?_;simp only[new_m];omega)) only [K18r9,Abs.W,reduceIte,Nat.reduceEqDiff,Nat.reduceAdd,decide_true,decide_false,kLoop_def,Nat.reduceSub,List.cons_append,List.nil_append,List.append_nil,List.length_cons,List.length_nil,Env.find_set,f7,y1w,kq,kSlice_def,optEv_some,optEv_none,t1,sc.1,sc.2,Nat.zero_add]
 rw [← hy2]
 simp (disch:=first|omega|(with_unfolding_all exact rfl)|(simp only[new_n,put_n,new_m];omega)|(refine put_m_le ?_;simp only[new_m];omega)) only [K18r10,Abs.W,reduceIte,Nat.reduceEqDiff,Nat.reduceAdd,decide_true,decide_false,kLoop_def,Nat.reduceSub,List.cons_append,List.nil_append,List.append_nil,List.length_cons,List.length_nil,Env.find_set,f1,y20,y2p,kS,kA,re,Nat.zero_add]
 obtain ⟨L0,hL0⟩:∃ L0,L0=Env.set 35 (.func 56 [] [.ptr (t.n+1) 0,.ptr (t.n+1+1) 0]) (Env.set 8 (.ptr t.n 0) (Env.set 27 (.bool true) L)):=⟨_,rfl⟩
 rw [← hL0]
 have k1:L0.find 1=.ptr u0 0:=by rw [hL0];simp only [Env.find_set,f1,reduceIte,Nat.reduceEqDiff]
 have k5:L0.find 5=.ptr pr 0:=by rw [hL0];simp only [Env.find_set,f5,reduceIte,Nat.reduceEqDiff]
 have k6:L0.find 6=.ptr ph 0:=by rw [hL0];simp only [Env.find_set,f6,reduceIte,Nat.reduceEqDiff]
 have k7:L0.find 7=.ptr pw 0:=by rw [hL0];simp only [Env.find_set,f7,reduceIte,Nat.reduceEqDiff]
 have k8:L0.find 8=.ptr t.n 0:=by rw [hL0];simp only [Env.find_set,reduceIte,Nat.reduceEqDiff]
 have k35:L0.find 35=.func 56 [] [.ptr (t.n+1) 0,.ptr (t.n+2) 0]:=by rw [hL0];simp only [Env.find_set,reduceIte,Nat.reduceEqDiff]
 clear hL0 re t1 h1 h2 h3
 have s0u:∀ c,c<u0→s0.h.get c=w.h.get c:=fun c hc=>(s0t c (by omega) (by omega)).trans (same c (by omega) (by omega) (by omega) (by omega))
 have hLb:=hL.bound.move (h':=s0.h) (n':=u0) (no':=fun y=>no y∧y<u0) (na':=fun y=>na y∧y<u0) (fun b h1 h2=>⟨s0u b h1,h2⟩) (fun b h1 h2=>⟨s0u b h1,h2⟩) (Nat.le_refl _)
 have hh:=reach1_hands (N:=M+1) (p1:=t.n+1) (p2:=t.n+2) (H:=s0.h) (rd:=fun y=>y=t.n+1∨y=t.n+2∨(no y∧y<u0)∨(na y∧y<u0)) ok hLb ha s00 s01 (.inl rfl) (.inr (.inl rfl)) (fun y h=>.inr (.inr (.inl h))) (fun y h=>.inr (.inr (.inr h)))
 have rl:∀ y,(y=t.n+1∨y=t.n+2∨(no y∧y<u0)∨(na y∧y<u0))→y=t.n+1∨y=t.n+2∨y<u0:=fun y h=>by
  rcases h with h | h | h | h
  ·exact .inl h
  ·exact .inr (.inl h)
  ·exact .inr (.inr h.2)
  ·exact .inr (.inr h.2)
 have hTm:∀ x ∈ reachOf l.stalls l.appls[a],∃ st:Nat,x.1=st∧st<l.stalls.length∧a ∈ ableL l st:=fun x hx=>by
  rw [← applAt_of ha] at hx
  obtain ⟨st,h1,h2,_⟩:=reach_mem ok ha hx
  refine ⟨st,h1,h2,(able_iff ok ha).mpr (List.mem_map.mpr ⟨x,hx,by rw [h1];exact Int.toNat_natCast st⟩)⟩
 have hRT:(mktOf l).R a=(reachOf l.stalls l.appls[a]).map fun x=>x.1.toNat:=by rw [← applAt_of ha];rfl
 have hbl2:u0<b:=by omega
 have sw:∀ c,c<w.n→c≠bh→c≠pw→c≠b0→s0.h.get c=w.h.get c:=fun c h1 h2 h3 h4=>(s0t c (by omega) h3).trans (same c h1 h2 h3 h4)
 have sb:s0.h.get b=t.h.get b:=s0t b bl (by omega)
 have sh:s0.h.get bh=t.h.get bh:=s0t bh (by omega) (by omega)
 generalize reachOf l.stalls l.appls[a]=T at hh hTm hRT
 obtain ⟨e,s',e1,hE,e3,e4,e5,e6,e7,e8⟩:=hands_range (P:=Try.prog) (X:=X) (M:=M) (Z:=M+4) hh (f:=.tmp 35) (ps:=[36,37]) (c:=⟨18,none,Try.f18.ntmps,X 18⟩) (L:=L0) (d:=d) (s:=s0) rfl (by rw [ev_tmp,k35]) (fun _=>rfl) code18a0 code18b0 10 u0 300 (fun y=>y=bh∨y=pw∨y=b) (fun _ _=>True) (fun _ _ _ _ _=>trivial) (fun _=>trivial)
  (fun p h n=>(∀ x ∈ p,betterB l x.1.toNat a (hs.getD x.1.toNat (-1))=false)∧h.get bh=s0.h.get bh∧h.get pw=s0.h.get pw∧h.get b=s0.h.get b)
  (fun e p x kx h n=>e=.exit 1∧(∀ x ∈ p,betterB l x.1.toNat a (hs.getD x.1.toNat (-1))=false)∧betterB l x.1.toNat a (hs.getD x.1.toNat (-1))=true∧h.get bh=some (.cells (hcell (hs.set x.1.toNat a)) zh)∧∃ vq' b',h.get pw=some (.cells [vq'] z7)∧QAt h n b' (Mkt.behind r (hs.getD x.1.toNat (-1))) vq'∧(b'=b∨kx≤b'))
  (fun y hy=>⟨by have:=rl y hy;omega,rfl⟩) (fun y hy=>⟨fun h=>by have:=rl y h;omega,by omega⟩) (by omega) (by omega) (by omega) (by omega) ⟨(fun _ h=>(by cases h)),rfl,rfl,rfl⟩
  (fun p h h' n n' hb' hn ⟨h0,h1,h2,h3⟩=>⟨h0,(hb' _ (by omega)).trans h1,(hb' _ (by omega)).trans h2,(hb' _ (by omega)).trans h3⟩)
  (fun e p x kx h h' n n' hb' hn ⟨h0,h1,h2,h3,vq',b',h4,h5,h6⟩=>⟨h0,h1,h2,(hb' _ (by omega)).trans h3,vq',b',(hb' _ (by omega)).trans h4,h5.move (hb' _ (by omega)) hn,h6⟩)
  (fun p x rest t' ht ⟨p1,p2,p3,p4⟩ hfr htn htf htm htm' _=>by
   have hmem:x ∈ T:=by rw [← ht];simp
   obtain ⟨st,x1,x2,x3⟩:=hTm x hmem
   obtain ⟨xs,xb⟩:=x
   simp only at x1
   subst x1
   have etn:((st:Int),xb).1.toNat=st:=Int.toNat_natCast st
   have hass:K18a0 (call Try.prog X M) ⟨18,some (s0.n+1),Try.f18.ntmps,X 18⟩ (setParams L0 [36,37] (ev2 ((st:Int),xb))) [] t'=.done .norm (((L0.set 36 (.int .i64 (st:Int))).set 37 (.int .i64 xb)).set 9 (.int .i64 (st:Int))) [] t':=by
    simp (disch:=first|omega|(with_unfolding_all exact rfl)|(simp only[new_n,put_n,new_m];omega)|(refine put_m_le ?_;simp only[new_m];omega)) only [K18a0,K18a0r0,ev2,setParams2,Abs.W,reduceIte,Nat.reduceEqDiff,Nat.reduceAdd,decide_true,decide_false,kLoop_def,Nat.reduceSub,List.cons_append,List.nil_append,List.append_nil,List.length_cons,List.length_nil,Env.find_set,Nat.reduceEqDiff]
   obtain ⟨L1,hL1⟩:∃ L1,L1=(((L0.set 36 (.int .i64 (st:Int))).set 37 (.int .i64 xb)).set 9 (.int .i64 (st:Int))):=⟨_,rfl⟩
   rw [← hL1] at hass
   have l5:L1.find 5=.ptr pr 0:=by rw [hL1];simp only [Env.find_set,k5,reduceIte,Nat.reduceEqDiff]
   have l6:L1.find 6=.ptr ph 0:=by rw [hL1];simp only [Env.find_set,k6,reduceIte,Nat.reduceEqDiff]
   have l7:L1.find 7=.ptr pw 0:=by rw [hL1];simp only [Env.find_set,k7,reduceIte,Nat.reduceEqDiff]
   have l8:L1.find 8=.ptr t.n 0:=by rw [hL1];simp only [Env.find_set,k8,reduceIte,Nat.reduceEqDiff]
   have l9:L1.find 9=.int .i64 (st:Int):=by rw [hL1];simp only [Env.find_set,reduceIte,Nat.reduceEqDiff]
   clear hL1
   have tw:∀ c,c<w.n→c≠bh→c≠pw→c≠b0→t'.h.get c=w.h.get c:=fun c h1 h2 h3 h4=>(hfr c (by omega) (by omega)).trans (sw c h1 h2 h3 h4)
   have held:Held l st (hs.getD st (-1)):=by
    rcases I.form st with h | ⟨c,h⟩
    ·exact .inl h
    ·obtain ⟨q1,q2⟩:=I.hold st c h
     exact .inr ⟨c,h,(able_iff ok q1).mpr q2⟩
   have hR':RkS t'.h nr bm (u0+1) l l.stalls.length vr:=rk.move rb (fun c h1 _=>tw c (by omega) (by omega) (by omega) (by omega)) (Nat.le_refl _)
   obtain ⟨e,L2,t2,b1,b2,b3,b4,b5,b6,b7,b8⟩:=offer_body M hM (cx:=⟨18,some (s0.n+1),Try.f18.ntmps,X 18⟩) (t:=t') (O:=.loop { loopO ⟨18,none,Try.f18.ntmps,X 18⟩ L0 [36,37] (rangeAt Try.f18 0).1 (rangeAt Try.f18 0).2 s0 with state:=.busy }) (lb:=s0.n+1) (b:=b) (u0:=u0) (r:=r) l5 l6 l7 l8 l9
    ((tw pr (by omega) (by omega) (by omega) (by omega)).trans g5) hR' ((tw ph (by omega) (by omega) (by omega) (by omega)).trans g6) (p2.trans (sh.trans gh)) hk (p3.trans s0w) (hQ'.move (p4.trans sb) (by omega)) ((hfr t.n (by omega) (by omega)).trans s0p)
    (by omega) rb (by omega) ⟨by omega,by omega,by omega,by omega,by omega,by omega,by omega,by omega,by omega,by omega,by omega,by omega,by omega,by omega,by omega,by omega,by omega,by omega⟩ (by omega) (by omega) (by omega) (by omega) x2 x3 held (by omega) (by omega) (by omega) (by omega) (by omega) (by omega) htm
   refine ⟨L1,t',e,L2,t2,hass,rfl,b1,fun he=>?_,fun he=>?_,b3,fun y h1 h2 h3=>b4 y h1 h2 (fun h=>h3 (.inl h)) (fun h=>h3 (.inr (.inl h))) (fun h=>h3 (.inr (.inr h))),b5,b6,b7,b8,trivial⟩
   ·rcases b2 with ⟨c1,_,c3⟩ | ⟨_,c2,_⟩
    ·subst c3
     refine ⟨fun y hy=>?_,?_,?_,?_⟩
     ·rcases List.mem_append.mp hy with h | h
      ·exact p1 y h
      ·rw [List.mem_singleton.mp h];exact c1
     ·rw [get_put_ne' _ _ _ _ (by omega)];exact p2
     ·rw [get_put_ne' _ _ _ _ (by omega)];exact p3
     ·rw [get_put_ne' _ _ _ _ (by omega)];exact p4
    ·subst c2;cases he
   ·rcases b2 with ⟨_,c2,_⟩ | ⟨c1,c2,c3,vq',b',c4,c5,c6⟩
    ·exact absurd c2 he
    ·exact ⟨c2,p1,c1,c3,vq',b',c4,c5,c6⟩)
 rw [e1]
 have bnd:∀ c ∈ d,b≠c:=fun c hc e=>by
  obtain ⟨_,o,cc,zz,hg,_⟩:=hQ
  have:=(dd c hc).2.2
  rw [← e,hg] at this
  cases this
 have sd:∀ c ∈ s0.n::d,w.n≤c∧c<s'.n∧s'.h.get c=some .dfr:=fun c hc=>by
  rcases List.mem_cons.mp hc with rfl | hc
  ·exact ⟨by omega,by omega,e4⟩
  ·obtain ⟨c1,c2,c3⟩:=dd c hc
   have c4:=bnd c hc
   refine ⟨c1,by omega,?_⟩
   rw [e3 c (by omega) (by omega),s0t c c2 (by omega)]
   exact c3
 have snd:(s0.n::d).Nodup:=List.nodup_cons.mpr ⟨fun h=>by have:=(dd _ h).2.1;omega,dn⟩
 have ssame:∀ c,c<w.n→c≠bh→c≠pw→c≠b0→s'.h.get c=w.h.get c:=fun c h1 h2 h3 h4=>(e3 c (by omega) (by omega)).trans (sw c h1 h2 h3 h4)
 have hn1:w.n≤s'.n:=by omega
 have hn2:s'.n≤w.n+(kk+30000):=rnd_le e6 s0n jle
 have hm2:s'.m≤far:=by omega
 rcases hE with ⟨rfl,⟨q1,q2,q3,q4⟩,_⟩ | ⟨_,p,x,rest,kx,hT,hkx,⟨rfl,q1,q2,q3,vq',b',q4,q5,q6⟩,_⟩
 ·rw [blkR_norm,blkR_norm]
  refine ⟨L0,_,s',hs,r,rfl,⟨q2.trans (sh.trans gh),hk,⟨v',b,q3.trans s0w,hQ'.move (q4.trans sb) (by omega),hb⟩,ssame,hn1,hn2,e7,hm2,sd,snd⟩,I.refuse (fun s hsm hb=>?_),Nat.le_of_eq (Mkt.meas_refuse _ _ _),k1,k5,k6,k7⟩
  rw [hRT] at hsm
  obtain ⟨x,hx,rfl⟩:=List.mem_map.mp hsm
  have:=q1 x hx
  have h2:betterB l x.1.toNat a (hs.getD x.1.toNat (-1))=true:=(betterB_iff l _ a _).mpr hb
  rw [h2] at this
  cases this
 ·rw [blkR_pass _ _ _ _ _ (by omega),blkR_exit]
  obtain ⟨st,x1,x2,x3⟩:=hTm x (by rw [← hT];simp)
  have etn:x.1.toNat=st:=by rw [x1];exact Int.toNat_natCast st
  rw [etn] at q2 q3 q5
  have hb':=(betterB_iff l st a _).mp q2
  have hsl:st<hs.length:=by omega
  have hR2:(mktOf l).R a=p.map (fun x=>x.1.toNat)++st::rest.map (fun x=>x.1.toNat):=by
   rw [hRT,← hT,List.map_append,List.map_cons,etn]
  refine ⟨L0,_,s',hs.set st a,Mkt.behind r (hs.getD st (-1)),rfl,⟨q3,by rw [List.length_set];exact hk,⟨vq',b',q4,q5,by omega⟩,ssame,hn1,hn2,e7,hm2,sd,snd⟩,?_,?_,k1,k5,k6,k7⟩
  ·rw [holdF_set hsl]
   refine I.take (mktOf_ok ok) hR2 (fun t ht hb=>?_) hb'
   obtain ⟨y,hy,rfl⟩:=List.mem_map.mp ht
   have:=q1 y hy
   have h2:betterB l y.1.toNat a (hs.getD y.1.toNat (-1))=true:=(betterB_iff l _ a _).mpr hb
   rw [h2] at this
   cases this
  ·rw [holdF_set hsl]
   exact Mkt.meas_take (H:=holdF hs) ha x2 hb'
end Go.Proofs.Ythbhjgbpjlnbcaa.walk
set_option maxRecDepth 10000
namespace Go.Proofs.Ythbhjgbpjlnbcaa.walk
open Go.Abs Go.Proofs.Ythbhjgbpjlnbcaa.code
theorem Mkt.Inv.rekey {m m':Mkt} (hn:m'.n=m.n) (hR:∀ a,m'.R a=m.R a) (hk:∀ a,a<m.n→∀ s ∈ m.R a,m'.key s a=m.key s a) {H:Nat→Int} {q:List Nat} (I:m.Inv H q):m'.Inv H q:=by
 have pe:∀ a s,m'.pos a s=m.pos a s:=fun a s=>by unfold Mkt.pos;rw [hR]
 refine ⟨I.form,fun s a h=>?_,I.inj,fun a h=>?_,I.qd,fun a h1 h2 s hs=>?_,fun μ F s t a h1 h2=>?_⟩
 ·rw [hn,hR];exact I.hold s a h
 ·rw [hn];exact I.qn a h
 ·rw [hn] at h1
  rw [hR] at hs
  rcases I.stab a h1 h2 s hs with ⟨t,t1,t2⟩ | hb
  ·exact .inl ⟨t,t1,by rw [pe,pe];exact t2⟩
  ·refine .inr fun hb'=>hb ?_
   rcases hb' with h | h
   ·exact .inl h
   ·rcases I.form s with h0 | ⟨c,hc⟩
    ·exact .inl h0
    ·obtain ⟨c1,c2⟩:=I.hold s c hc
     rw [hc,Int.toNat_natCast,hk a h1 s hs,hk c c1 s c2] at h
     exact .inr (by rw [hc,Int.toNat_natCast];exact h)
 ·rw [pe,pe]
  refine I.opt μ ⟨F.form,fun s a h=>?_,F.inj,fun a ha s hs=>?_⟩ s t a h1 h2
  ·have:=F.hold s a h
   rwa [hn,hR] at this
  ·rcases F.fair a (by rw [hn];exact ha) s (by rw [hR];exact hs) with ⟨t,t1,t2⟩ | hb | hb
   ·exact .inl ⟨t,t1,by rw [pe,pe] at t2;exact t2⟩
   ·exact .inr (.inl hb)
   ·rcases F.form s with e | ⟨c,hc⟩
    ·exact .inr (.inl e)
    ·refine .inr (.inr fun h=>hb ?_)
     have c2:=F.hold s c hc
     rw [hn,hR] at c2
     rw [hc,Int.toNat_natCast] at h ⊢
     rw [hk a ha s hs,hk c c2.1 s c2.2]
     exact h
def Letting.told (l:Letting) (who:Nat) (ws bs:List Int):Letting:=⟨l.stalls,l.appls.set who ⟨(applAt l who).years,(applAt l who).token,ws,bs⟩⟩
def picks (l:List Int) (g:List Nat):List Int:=g.map fun k=>l.getD k 0
theorem told_len (l:Letting) (who:Nat) (ws bs:List Int):(l.told who ws bs).appls.length=l.appls.length:=List.length_set ..
theorem told_at {l:Letting} {who:Nat} (hw:who<l.appls.length) (ws bs:List Int):applAt (l.told who ws bs) who=⟨(applAt l who).years,(applAt l who).token,ws,bs⟩:=by
 rw [applAt_of hw]
 unfold applAt Letting.told
 simp [List.getD,hw,applAt_of hw]
theorem told_ne {l:Letting} {who a:Nat} (h:a≠who) (ws bs:List Int):applAt (l.told who ws bs) a=applAt l a:=by
 unfold applAt Letting.told
 simp [List.getD,List.getElem?_set_ne (Ne.symm h)]
theorem picks_mem {l:List Int} {g:List Nat} (h:∀ k ∈ g,k<l.length) {x:Int} (hx:x ∈ picks l g):x ∈ l:=by
 obtain ⟨k,k1,k2⟩:=List.mem_map.mp hx
 rw [← k2]
 have:=h k k1
 simp [List.getD,this]
theorem picks_nodup {l:List Int} (hl:l.Nodup):∀ {g:List Nat},g.Nodup→(∀ k ∈ g,k<l.length)→(picks l g).Nodup
 | [],_,_=>List.nodup_nil
 | k::g,hd,h=>by
  obtain ⟨h1,h2⟩:=List.nodup_cons.mp hd
  show (l.getD k 0::picks l g).Nodup
  refine List.nodup_cons.mpr ⟨fun hm=>?_,picks_nodup hl h2 fun x hx=>h x (List.mem_cons_of_mem _ hx)⟩
  obtain ⟨j,j1,j2⟩:=List.mem_map.mp hm
  have b1:=h k (List.mem_cons_self ..)
  have b2:=h j (List.mem_cons_of_mem _ j1)
  have e1:l.getD k 0=l[k]:=by simp [List.getD,b1]
  have e2:l.getD j 0=l[j]:=by simp [List.getD,b2]
  rw [e1,e2] at j2
  have:j=k:=(List.getElem_inj hl).mp j2
  exact h1 (by rw [← this];exact j1)
theorem told_ok {l:Letting} (ok:l.Ok) {who:Nat} (hw:who<l.appls.length) {g:List Nat} (hd:g.Nodup) (hg:∀ k ∈ g,k<l.appls[who].wishes.length):(l.told who (picks l.appls[who].wishes g) (picks l.appls[who].bids g)).Ok:=by
 have A:=ok.ap _ (List.getElem_mem hw)
 have gl:g.length≤l.appls[who].wishes.length:=by
  have:=len_sub (k:=List.range l.appls[who].wishes.length) hd fun x hx=>List.mem_range.mpr (hg x hx)
  rwa [List.length_range] at this
 refine ⟨ok.k0,ok.k1,by rw [told_len];exact ok.m1,fun s hs=>by rw [told_len];exact ok.st s hs,fun a ha=>?_⟩
 rcases List.mem_or_eq_of_mem_set ha with h | h
 ·exact ok.ap a h
 ·rw [h,applAt_of hw]
  exact ⟨A.y0,A.y1,A.t0,A.t1,fun x hx=>A.w x (picks_mem hg hx),picks_nodup A.nd hd hg,by unfold picks;rw [List.length_map];have:=A.wl;omega,by unfold picks;rw [List.length_map,List.length_map],fun x hx=>A.b x (picks_mem (fun k hk=>by rw [A.bl];exact hg k hk) hx)⟩
theorem tok_same:∀ {l:List Appl} {i:Nat} (hi:i<l.length) {A:Appl},A.token=l[i].token→tok (l.set i A)=tok l
 | x::l,0,_,A,h=>by
  show A.token.toNat+tok l=x.token.toNat+tok l
  rw [h];rfl
 | x::l,i+1,hi,A,h=>by
  show x.token.toNat+tok (l.set i A)=x.token.toNat+tok l
  rw [tok_same (l:=l) (i:=i) (by simpa using hi) h]
theorem told_draw {l:Letting} {who:Nat} (hw:who<l.appls.length) (ws bs:List Int):drI (l.told who ws bs)=drI l:=by
 unfold drI drawL
 rw [told_len]
 have:tok (l.told who ws bs).appls=tok l.appls:=tok_same hw (by rw [applAt_of hw])
 rw [this]
theorem bidOf_of:∀ {T:List (Int × Int)} {x:Int × Int},(T.map Prod.fst).Nodup→x ∈ T→bidOf x.1 T=(x.2,true)
 | y::T,x,hd,hx=>by
  obtain ⟨h1,h2⟩:=List.nodup_cons.mp hd
  unfold bidOf
  by_cases e:y.1=x.1
  ·rw [if_pos e]
   rcases List.mem_cons.mp hx with h | h
   ·rw [h]
   ·exact absurd (List.mem_map.mpr ⟨x,h,e.symm⟩) h1
  ·rw [if_neg e]
   rcases List.mem_cons.mp hx with h | h
   ·exact absurd (by rw [h]) e
   ·exact bidOf_of h2 h
theorem picks_zip {a b:List Int} (hb:b.length=a.length) {g:List Nat} (h:∀ k ∈ g,k<a.length) {x:Int × Int} (hx:x ∈ (picks a g).zip (picks b g)):x ∈ a.zip b:=by
 unfold picks at hx
 rw [List.zip_map',List.mem_map] at hx
 obtain ⟨k,k1,rfl⟩:=hx
 have k2:=h k k1
 have e1:a.getD k 0=a[k]:=by simp [List.getD,k2]
 have e2:b.getD k 0=b[k]:=by simp [List.getD,hb,k2]
 rw [e1,e2]
 have hz:k<(a.zip b).length:=by rw [List.length_zip];omega
 have:(a.zip b)[k]=(a[k],b[k]):=List.getElem_zip
 rw [← this]
 exact List.getElem_mem hz
theorem idx_ne {α:Type} [BEq α] [LawfulBEq α] {a b:α} {l:List α} (h:a≠b):(a::l).idxOf b=l.idxOf b+1:=by
 have e:(a == b)=false:=by
  cases hb:(a == b) with
  | false=>rfl
  | true=>exact absurd (eq_of_beq hb) h
 rw [List.idxOf_cons,e]
 rfl
theorem sub_mono {l' l:List Nat} (h:l'.Sublist l):l.Nodup→∀ {s t:Nat},s ∈ l'→t ∈ l'→l'.idxOf s≤l'.idxOf t→l.idxOf s≤l.idxOf t:=by
 induction h with
 | slnil=>intro _ s t hs;cases hs
 | @cons l₁ l₂ a hsub ih =>
  intro hd s t hs ht he
  obtain ⟨h1,h2⟩:=List.nodup_cons.mp hd
  have es:a≠s:=fun e=>h1 (by rw [e];exact hsub.subset hs)
  have et:a≠t:=fun e=>h1 (by rw [e];exact hsub.subset ht)
  rw [idx_ne es,idx_ne et]
  have:=ih h2 hs ht he
  omega
 | @cons_cons l₁ l₂ a hsub ih =>
  intro hd s t hs ht he
  obtain ⟨h1,h2⟩:=List.nodup_cons.mp hd
  by_cases es:a=s
  ·subst es;rw [List.idxOf_cons_self];exact Nat.zero_le _
  ·by_cases et:a=t
   ·subst et
    rw [List.idxOf_cons_self,idx_ne es] at he
    omega
   ·rw [idx_ne es,idx_ne et] at he ⊢
    have:=ih h2 ((List.mem_cons.mp hs).resolve_left (Ne.symm es)) ((List.mem_cons.mp ht).resolve_left (Ne.symm et)) (by omega)
    omega
theorem idx_nat:∀ {l:List Int},(∀ x ∈ l,0≤x)→∀ s:Nat,(l.map Int.toNat).idxOf s=l.idxOf (s:Int)
 | [],_,_=>rfl
 | x::l,h,s=>by
  have hx:=h x (List.mem_cons_self ..)
  rw [List.map_cons]
  by_cases e:x=(s:Int)
  ·rw [e,Int.toNat_natCast,List.idxOf_cons_self,List.idxOf_cons_self]
  ·rw [idx_ne (show x.toNat≠s by omega),idx_ne e,idx_nat (fun y hy=>h y (List.mem_cons_of_mem _ hy)) s]
theorem told_R {l:Letting} {who a:Nat} (h:a≠who) (ws bs:List Int):(mktOf (l.told who ws bs)).R a=(mktOf l).R a:=by
 show ((reachOf l.stalls (applAt (l.told who ws bs) a)).map fun x=>x.1.toNat)=_
 rw [told_ne h];rfl
theorem told_key {l:Letting} (ok:l.Ok) {who:Nat} (hw:who<l.appls.length) {g:List Nat} (hd:g.Nodup) (hg:∀ k ∈ g,k<l.appls[who].wishes.length) {a s:Nat} (ha:a<l.appls.length) (hs:s ∈ (mktOf (l.told who (picks l.appls[who].wishes g) (picks l.appls[who].bids g))).R a) :
  keyL (l.told who (picks l.appls[who].wishes g) (picks l.appls[who].bids g)) s a=keyL l s a∧s ∈ (mktOf l).R a:=by
 have ok':=told_ok ok hw hd hg
 have A:=ok.ap _ (List.getElem_mem hw)
 unfold keyL
 rw [told_draw hw]
 by_cases e:a=who
 ·subst e
  obtain ⟨x,hx,hxs⟩:=List.mem_map.mp hs
  have hx':=hx
  obtain ⟨k,k1,_⟩:=reach_mem ok' (by rw [told_len];exact ha) hx
  have ex:x.1=(s:Int):=by omega
  have hb':=bidOf_of (reach_nodup ok' (by rw [told_len];exact ha)) hx
  rw [told_at hw] at hx
  unfold reachOf at hx
  obtain ⟨z1,z2⟩:=List.mem_filter.mp hx
  have hz:=picks_zip A.bl hg z1
  have hm:x ∈ reachOf l.stalls (applAt l a):=by
   rw [applAt_of hw]
   unfold reachOf
   exact List.mem_filter.mpr ⟨hz,z2⟩
  have hb:=bidOf_of (reach_nodup ok ha) hm
  refine ⟨?_,List.mem_map.mpr ⟨x,hm,hxs⟩⟩
  have e1:bidI (l.told a (picks l.appls[a].wishes g) (picks l.appls[a].bids g)) s a=bidI l s a:=by
   unfold bidI
   show bidOf (s:Int) (reachOf l.stalls (applAt (l.told a (picks l.appls[a].wishes g) (picks l.appls[a].bids g)) a))=bidOf (s:Int) (reachOf l.stalls (applAt l a))
   rw [← ex,hb]
   exact hb'
  have e2:yearsI (l.told a (picks l.appls[a].wishes g) (picks l.appls[a].bids g)) a=yearsI l a:=by
   unfold yearsI
   show (applAt (l.told a (picks l.appls[a].wishes g) (picks l.appls[a].bids g)) a).years=(applAt l a).years
   rw [told_at hw]
  unfold keyI
  rw [e1,e2]
  rfl
 ·rw [told_R e] at hs
  refine ⟨?_,hs⟩
  have e1:bidI (l.told who (picks l.appls[who].wishes g) (picks l.appls[who].bids g)) s a=bidI l s a:=by
   unfold bidI
   show bidOf (s:Int) (reachOf l.stalls (applAt (l.told who (picks l.appls[who].wishes g) (picks l.appls[who].bids g)) a))=bidOf (s:Int) (reachOf l.stalls (applAt l a))
   rw [told_ne e]
  have e2:yearsI (l.told who (picks l.appls[who].wishes g) (picks l.appls[who].bids g)) a=yearsI l a:=by
   unfold yearsI
   show (applAt (l.told who (picks l.appls[who].wishes g) (picks l.appls[who].bids g)) a).years=(applAt l a).years
   rw [told_ne e]
  unfold keyI
  rw [e1,e2]
  rfl
theorem placeI_none {l:Letting} {hs:List Int} {a:Nat} (h:¬ ∃ s,holdF hs s=a):placeI l hs a=(applAt l a).wishes.length:=by
 unfold placeI
 refine if_neg fun hlt=>h ⟨hs.idxOf (a:Int),?_⟩
 unfold holdF
 have:=List.getElem_idxOf hlt
 simp [List.getD,hlt,this]
theorem placeI_some {l:Letting} {hs:List Int} {a s:Nat} (inj:∀ t,holdF hs t=a→t=s) (h:holdF hs s=a):placeI l hs a=(applAt l a).wishes.idxOf (s:Int):=by
 have hsl:s<hs.length:=by
  rcases Nat.lt_or_ge s hs.length with h2 | h2
  ·exact h2
  ·unfold holdF at h
   simp [List.getD,h2] at h
 have hm:(a:Int) ∈ hs:=by
  unfold holdF at h
  simp [List.getD,hsl] at h
  rw [← h]
  exact List.getElem_mem hsl
 have hlt:=List.idxOf_lt_length_of_mem hm
 have e:hs.idxOf (a:Int)=s:=inj _ (by
  unfold holdF
  have:=List.getElem_idxOf hlt
  simp [List.getD,hlt,this])
 unfold placeI
 rw [if_pos hlt,e]
theorem placeI_le (l:Letting) (hs:List Int) (a:Nat):placeI l hs a≤(applAt l a).wishes.length:=by
 unfold placeI
 split
 ·exact List.idxOf_le_length
 ·exact Nat.le_refl _
end Go.Proofs.Ythbhjgbpjlnbcaa.walk
set_option maxRecDepth 10000
namespace Go.Proofs.Ythbhjgbpjlnbcaa.walk
open Go.Abs Go.Proofs.Ythbhjgbpjlnbcaa.code
namespace Mkt
theorem more_fair {m m':Mkt} (ok':m'.Ok) (hn:m'.n=m.n) (hR:∀ a,a<m.n→(m.R a).Sublist (m'.R a)) (hk:∀ a,a<m.n→∀ s ∈ m.R a,m'.key s a=m.key s a) {H:Nat→Int} (S:m.Stable H) (he:∀ a,a<m.n→∀ s ∈ m'.R a,s ∉ m.R a→H s = -1):m'.Fair H:=by
 refine ⟨S.form,fun s a h=>?_,S.inj,fun a ha s hs=>?_⟩
 ·obtain ⟨q1,q2⟩:=S.hold s a h
  exact ⟨by rw [hn];exact q1,(hR a q1).subset q2⟩
 ·rw [hn] at ha
  by_cases e:s ∈ m.R a
  ·rcases S.stab a ha s e with ⟨t,t1,t2⟩ | hb
   ·exact .inl ⟨t,t1,sub_mono (hR a ha) (ok'.nd a (by rw [hn];exact ha)) (S.hold t a t1).2 e t2⟩
   ·rcases S.form s with h0 | ⟨c,hc⟩
    ·exact .inr (.inl h0)
    ·refine .inr (.inr fun h=>hb (.inr ?_))
     obtain ⟨c1,c2⟩:=S.hold s c hc
     rw [hc,Int.toNat_natCast] at h ⊢
     rw [hk a ha s e,hk c c1 s c2] at h
     exact h
  ·exact .inr (.inl (he a ha s hs e))
def leave (H:Nat→Int) (w:Nat):Nat→Int:=fun s=>if H s=w then -1 else H s
theorem leave_of {H:Nat→Int} {w s a:Nat} (h:a≠w) (e:H s=a):leave H w s=a:=by
 unfold leave
 rw [if_neg (by omega)];exact e
theorem leave_back {H:Nat→Int} {w s a:Nat} (e:leave H w s=a):H s=a∧a≠w:=by
 unfold leave at e
 split at e
 ·omega
 ·rename_i h
  exact ⟨e,fun h2=>h (by rw [e,h2])⟩
theorem less_fair {m:Mkt} {w:Nat} {H:Nat→Int} (S:m.Stable H):(m.withR w []).Fair (leave H w):=by
 refine ⟨fun s=>?_,fun s a h=>?_,fun s t a h1 h2=>S.inj s t a (leave_back h1).1 (leave_back h2).1,fun a ha s hs=>?_⟩
 ·unfold leave
  split
  ·exact .inl rfl
  ·exact S.form s
 ·obtain ⟨h1,h2⟩:=leave_back h
  obtain ⟨q1,q2⟩:=S.hold s a h1
  exact ⟨q1,by rw [withR_ne _ h2];exact q2⟩
 ·by_cases e:a=w
  ·subst e;rw [withR_at] at hs;cases hs
  ·have e1:(m.withR w []).R a=m.R a:=withR_ne _ e
   rw [e1] at hs
   rcases S.stab a ha s hs with ⟨t,t1,t2⟩ | hb
   ·exact .inl ⟨t,leave_of e t1,by rw [pos_eq e1,pos_eq e1];exact t2⟩
   ·by_cases e2:H s=w
    ·exact .inr (.inl (by unfold leave;rw [if_pos e2]))
    ·have e3:leave H w s=H s:=by unfold leave;rw [if_neg e2]
     rw [e3]
     exact .inr (.inr fun h=>hb (.inr h))
end Mkt
theorem place_mono {l:Letting} (ok:l.Ok) {a:Nat} (ha:a<l.appls.length) {hs hs2:List Int} (i1:∀ s t,holdF hs s=a→holdF hs t=a→s=t) (i2:∀ s t,holdF hs2 s=a→holdF hs2 t=a→s=t) (h:∀ t,holdF hs t=a→∃ s,holdF hs2 s=a∧s ∈ (mktOf l).R a∧t ∈ (mktOf l).R a∧(mktOf l).pos a s≤(mktOf l).pos a t):placeI l hs2 a≤placeI l hs a:=by
 have A:=ok.ap _ (List.getElem_mem ha)
 have pos0:∀ x ∈ l.appls[a].wishes,0≤x:=fun x hx=>(A.w x hx).1
 have hsub:((mktOf l).R a).Sublist (l.appls[a].wishes.map Int.toNat):=by
  have e:(mktOf l).R a=((reachOf l.stalls l.appls[a]).map Prod.fst).map Int.toNat:=by
   show List.map (fun x:Int × Int=>x.1.toNat) (reachOf l.stalls (applAt l a))=_
   rw [applAt_of ha,List.map_map]
   rfl
  rw [e]
  refine List.Sublist.map _ ?_
  unfold reachOf
  have h1:((l.appls[a].wishes.zip l.appls[a].bids).filter (can l.stalls)).map Prod.fst |>.Sublist ((l.appls[a].wishes.zip l.appls[a].bids).map Prod.fst):=List.filter_sublist.map _
  rwa [zip_fst A.bl] at h1
 by_cases hm:∃ t,holdF hs t=a
 ·obtain ⟨t,ht⟩:=hm
  obtain ⟨s,h1,q1,q2,h2⟩:=h t ht
  rw [placeI_some (fun t' h=>i2 t' s h h1) h1,placeI_some (fun t' h=>i1 t' t h ht) ht]
  rw [applAt_of ha]
  have hfin:=sub_mono hsub (nodup_toNat pos0 A.nd) q1 q2 h2
  rw [idx_nat pos0,idx_nat pos0] at hfin
  exact hfin
 ·rw [placeI_none hm]
  exact placeI_le l hs2 a
theorem lessL {l:Letting} (ok:l.Ok) {who:Nat} (hw:who<l.appls.length) {hs hs1:List Int} (I:(mktOf l).Inv (holdF hs) []) (I1:(mktOf (l.told who [] [])).Inv (holdF hs1) []) {a:Nat} (ha:a<l.appls.length) (hne:a≠who):placeI l hs1 a≤placeI l hs a:=by
 have I1':(mktOf (l.told who (picks l.appls[who].wishes []) (picks l.appls[who].bids []))).Inv (holdF hs1) []:=I1
 have e0:(mktOf (l.told who (picks l.appls[who].wishes []) (picks l.appls[who].bids []))).R who=[]:=by
  show (reachOf l.stalls (applAt (l.told who (picks l.appls[who].wishes []) (picks l.appls[who].bids [])) who)).map _=_
  rw [told_at hw];rfl
 have hk:∀ a,a<l.appls.length→∀ s ∈ (mktOf (l.told who (picks l.appls[who].wishes []) (picks l.appls[who].bids []))).R a,keyL (l.told who (picks l.appls[who].wishes []) (picks l.appls[who].bids [])) s a=keyL l s a∧s ∈ (mktOf l).R a:=fun a ha s hs=>told_key ok hw List.nodup_nil (fun k hk=>by cases hk) ha hs
 have I2:((mktOf l).withR who []).Inv (holdF hs1) []:=by
  refine I1'.rekey ?_ (fun a=>?_) (fun a ha s hs=>?_)
  ·exact (told_len l who _ _).symm
  ·by_cases e:a=who
   ·subst e;rw [Mkt.withR_at,e0]
   ·rw [Mkt.withR_ne _ e,told_R e]
  ·have ha':a<l.appls.length:=by
    have:a<(l.told who (picks l.appls[who].wishes []) (picks l.appls[who].bids [])).appls.length:=ha
    rwa [told_len] at this
   exact (hk a ha' s hs).1.symm
 have okm:=mktOf_ok ok
 have okw:=Mkt.withR_ok (R':=[]) okm hw List.nodup_nil (fun s h=>by cases h)
 refine place_mono ok ha (fun s t h1 h2=>I.inj s t a h1 h2) (fun s t h1 h2=>I1.inj s t a h1 h2) fun t ht=>?_
 obtain ⟨s,h1,h2⟩:=I2.best okw (Mkt.less_fair I.stable) (Mkt.leave_of hne ht)
 have e1:((mktOf l).withR who []).R a=(mktOf l).R a:=Mkt.withR_ne _ hne
 have q1:=(I2.hold s a h1).2
 rw [e1] at q1
 exact ⟨s,h1,q1,(I.hold t a ht).2,by rw [← Mkt.pos_eq e1,← Mkt.pos_eq e1];exact h2⟩
theorem moreL {l l':Letting} (ok:l.Ok) (ok':l'.Ok) (hn:l'.appls.length=l.appls.length) (hR:∀ a,a<l.appls.length→((mktOf l).R a).Sublist ((mktOf l').R a)) (hk:∀ a,a<l.appls.length→∀ s ∈ (mktOf l).R a,keyL l' s a=keyL l s a) (hnew:∀ a,a<l.appls.length→∀ s ∈ (mktOf l').R a,s ∉ (mktOf l).R a→l.stalls.length≤s) {hs hs1:List Int} (hl:hs.length=l.stalls.length) (I:(mktOf l).Inv (holdF hs) []) (I1:(mktOf l').Inv (holdF hs1) []) {a:Nat} (ha:a<l.appls.length):placeI l' hs1 a≤placeI l' (hs++[-1]) a:=by
 have eh:holdF (hs++[-1])=holdF hs:=by
  funext s
  unfold holdF
  by_cases h:s<hs.length
  ·simp [List.getD,h,List.getElem?_append_left h]
  ·have h2:hs.length≤s:=by omega
   have e1:hs[s]? = none:=List.getElem?_eq_none h2
   simp only [List.getD,e1,Option.getD_none]
   by_cases h3:s=hs.length
   ·subst h3;simp
   ·have:(hs++[-1])[s]? = none:=List.getElem?_eq_none (by rw [List.length_append,List.length_singleton];omega)
    rw [this];rfl
 have F:(mktOf l').Fair (holdF hs):=by
  refine Mkt.more_fair (m:=mktOf l) (mktOf_ok ok') hn hR hk I.stable fun a ha s h1 h2=>?_
  have:=hnew a ha s h1 h2
  unfold holdF
  simp [List.getD,List.getElem?_eq_none (show hs.length≤s by omega)]
 refine place_mono ok' (by rw [hn];exact ha) (fun s t h1 h2=>?_) (fun s t h1 h2=>I1.inj s t a h1 h2) fun t ht=>?_
 ·rw [eh] at h1 h2
  exact I.inj s t a h1 h2
 ·rw [eh] at ht
  obtain ⟨s,h1,h2⟩:=I1.best (mktOf_ok ok') F ht
  exact ⟨s,h1,(I1.hold s a h1).2,(F.hold t a ht).2,h2⟩
end Go.Proofs.Ythbhjgbpjlnbcaa.walk
set_option maxRecDepth 10000
namespace Go.Proofs.Ythbhjgbpjlnbcaa.walk
open Go.Abs Go.Proofs.Ythbhjgbpjlnbcaa.code
def Spliced (k:Nat) (a a':Appl):Prop:=a'=a∨∃ (p:Nat) (b:Int),p≤a.wishes.length∧0≤b∧b≤8∧a'=⟨a.years,a.token,a.wishes.take p++(k:Int)::a.wishes.drop p,a.bids.take p++b::a.bids.drop p⟩
structure RoomL (l l':Letting):Prop where
 st:∃ r,1≤r∧r≤3∧l'.stalls=l.stalls++[⟨r,0, -1⟩]
 len:l'.appls.length=l.appls.length
 ap:∀ i (h:i<l.appls.length) (h':i<l'.appls.length),Spliced l.stalls.length l.appls[i] l'.appls[i]
 k:l.stalls.length≤6
theorem Spliced.years {k:Nat} {a a':Appl} (s:Spliced k a a'):a'.years=a.years:=by
 rcases s with h | ⟨p,b,_,_,_,h⟩<;>rw [h]
theorem Spliced.token {k:Nat} {a a':Appl} (s:Spliced k a a'):a'.token=a.token:=by
 rcases s with h | ⟨p,b,_,_,_,h⟩<;>rw [h]
theorem few_wishes {k:Nat} {w:List Int} (h:∀ x ∈ w,0≤x∧x<k) (nd:w.Nodup):w.length≤k:=by
 have h1:=len_sub (k:=List.range k) (nodup_toNat (fun x hx=>(h x hx).1) nd) fun x hx=>by
  obtain ⟨y,y1,y2⟩:=List.mem_map.mp hx
  have:=h y y1
  exact List.mem_range.mpr (by omega)
 rwa [List.length_map,List.length_range] at h1
theorem Spliced.ok {k:Nat} {a a':Appl} (s:Spliced k a a') (hk:k≤6) (A:a.Ok k):a'.Ok (k+1):=by
 have wl:=few_wishes A.w A.nd
 have bl:=A.bl
 rcases s with h | ⟨p,b,h1,h2,h3,h⟩
 ·rw [h]
  exact ⟨A.y0,A.y1,A.t0,A.t1,fun x hx=>by have:=A.w x hx;omega,A.nd,A.wl,A.bl,A.b⟩
 ·subst h
  refine ⟨A.y0,A.y1,A.t0,A.t1,fun x hx=>?_,?_,?_,?_,fun x hx=>?_⟩
  ·rcases List.mem_append.mp hx with h | h
   ·have:=A.w x (List.mem_of_mem_take h);omega
   ·rcases List.mem_cons.mp h with h | h
    ·omega
    ·have:=A.w x (List.mem_of_mem_drop h);omega
  ·refine (List.perm_middle.nodup_iff).mpr ?_
   rw [List.take_append_drop]
   refine List.nodup_cons.mpr ⟨fun hm=>?_,A.nd⟩
   have:=A.w _ hm
   omega
  ·show (a.wishes.take p++(k:Int)::a.wishes.drop p).length≤8
   rw [List.length_append,List.length_cons,List.length_take,List.length_drop];omega
  ·show (a.bids.take p++b::a.bids.drop p).length=(a.wishes.take p++(k:Int)::a.wishes.drop p).length
   rw [List.length_append,List.length_cons,List.length_take,List.length_drop,List.length_append,List.length_cons,List.length_take,List.length_drop];omega
  ·rcases List.mem_append.mp hx with h | h
   ·exact A.b x (List.mem_of_mem_take h)
   ·rcases List.mem_cons.mp h with h | h
    ·omega
    ·exact A.b x (List.mem_of_mem_drop h)
theorem RoomL.slen {l l':Letting} (r:RoomL l l'):l'.stalls.length=l.stalls.length+1:=by
 obtain ⟨x,_,_,h⟩:=r.st
 rw [h,List.length_append];rfl
theorem RoomL.ok {l l':Letting} (r:RoomL l l') (ok:l.Ok):l'.Ok:=by
 have sl:=r.slen
 have k:=r.k
 obtain ⟨x,x1,x2,x3⟩:=r.st
 refine ⟨by omega,by omega,by rw [r.len];exact ok.m1,fun s hs=>?_,fun a ha=>?_⟩
 ·rw [r.len]
  rw [x3] at hs
  rcases List.mem_append.mp hs with h | h
  ·exact ok.st s h
  ·rw [List.mem_singleton.mp h]
   exact ⟨x1,x2,by show (0:Int)≤0;omega,by show (0:Int)≤1000;omega,by show (-1:Int) ≤ -1;omega,by show (-1:Int)<_;omega⟩
 ·obtain ⟨i,hi,he⟩:=List.getElem_of_mem ha
  rw [← he,sl]
  exact (r.ap i (by rw [← r.len];exact hi) hi).ok k (ok.ap _ (List.getElem_mem _))
theorem RoomL.stall {l l':Letting} (r:RoomL l l') {x:Int} (h:0≤x∧x<l.stalls.length):stallAt l'.stalls x=stallAt l.stalls x:=by
 obtain ⟨y,_,_,e⟩:=r.st
 unfold walk.stallAt
 rw [e]
 simp [List.getD,List.getElem?_append_left (show x.toNat<l.stalls.length by omega)]
theorem filter_can {l l':Letting} (r:RoomL l l'):∀ {T:List (Int × Int)},(∀ x ∈ T,0≤x.1∧x.1<l.stalls.length)→T.filter (can l'.stalls)=T.filter (can l.stalls):=fun {T} h=>by
 refine List.filter_congr fun x hx=>?_
 unfold can
 rw [r.stall (h x hx)]
theorem RoomL.reach {l l':Letting} (r:RoomL l l') (ok:l.Ok) {a:Nat} (ha:a<l.appls.length):reachOf l'.stalls (applAt l' a)=reachOf l.stalls (applAt l a)∨∃ p q b,reachOf l.stalls (applAt l a)=p++q∧reachOf l'.stalls (applAt l' a)=p++((l.stalls.length:Int),b)::q:=by
 have A:=ok.ap _ (List.getElem_mem ha)
 have ha':a<l'.appls.length:=by rw [r.len];exact ha
 rw [applAt_of ha,applAt_of ha']
 have hz:∀ x ∈ l.appls[a].wishes.zip l.appls[a].bids,0≤x.1∧x.1<l.stalls.length:=fun x hx=>A.w _ (zip_mem hx).1
 rcases r.ap a ha ha' with h | ⟨p,b,h1,_,_,h⟩
 ·left
  rw [h]
  unfold reachOf
  exact filter_can r hz
 ·rw [h]
  have bl:=A.bl
  have e0:l.appls[a].wishes.zip l.appls[a].bids=(l.appls[a].wishes.take p).zip (l.appls[a].bids.take p)++(l.appls[a].wishes.drop p).zip (l.appls[a].bids.drop p):=by
   conv=>lhs;rw [← List.take_append_drop p l.appls[a].wishes,← List.take_append_drop p l.appls[a].bids]
   exact List.zip_append (by rw [List.length_take,List.length_take];omega)
  have e1:(l.appls[a].wishes.take p++(l.stalls.length:Int)::l.appls[a].wishes.drop p).zip (l.appls[a].bids.take p++b::l.appls[a].bids.drop p)=(l.appls[a].wishes.take p).zip (l.appls[a].bids.take p)++((l.stalls.length:Int),b)::(l.appls[a].wishes.drop p).zip (l.appls[a].bids.drop p):=by
   rw [List.zip_append (by rw [List.length_take,List.length_take];omega)]
   rfl
  unfold reachOf
  show (_=_)∨_
  simp only
  rw [e1,e0]
  rw [e0] at hz
  rw [List.filter_append,List.filter_append,filter_can r (fun x hx=>hz x (List.mem_append_left _ hx)),List.filter_cons,filter_can r (fun x hx=>hz x (List.mem_append_right _ hx))]
  by_cases hc:can l'.stalls ((l.stalls.length:Int),b)=true
  ·right
   rw [if_pos hc]
   exact ⟨_,_,b,rfl,rfl⟩
  ·left
   rw [if_neg hc]
theorem RoomL.draw {l l':Letting} (r:RoomL l l'):drI l'=drI l:=by
 have:∀ (x y:List Appl),y.length=x.length→(∀ i (h:i<x.length) (h':i<y.length),y[i].token=x[i].token)→tok y=tok x:=by
  intro x
  induction x with
  | nil=>intro y h _;rw [List.length_eq_zero_iff.mp h]
  | cons a x ih =>
   intro y h ht
   cases y with
   | nil=>simp at h
   | cons b y =>
    show b.token.toNat+tok y=a.token.toNat+tok x
    have h0:b.token=a.token:=ht 0 (by simp) (by simp)
    rw [h0,ih y (by simpa using h) fun i h1 h2=>ht (i+1) (by simpa using h1) (by simpa using h2)]
 unfold drI drawL
 rw [r.len,this l.appls l'.appls r.len fun i h h'=>(r.ap i h h').token]
theorem RoomL.keys {l l':Letting} (r:RoomL l l') (ok:l.Ok) {a:Nat} (ha:a<l.appls.length) {s:Nat} (hs:s ∈ (mktOf l).R a):keyL l' s a=keyL l s a:=by
 have ok':=r.ok ok
 have ha':a<l'.appls.length:=by rw [r.len];exact ha
 obtain ⟨x,x1,x2⟩:=List.mem_map.mp hs
 obtain ⟨k,k1,k2,_⟩:=reach_mem ok ha x1
 have ex:x.1=(s:Int):=by omega
 have x1':x ∈ reachOf l'.stalls (applAt l' a):=by
  rcases r.reach ok ha with h | ⟨p,q,b,h1,h2⟩
  ·rw [h];exact x1
  ·rw [h2]
   rw [h1] at x1
   rcases List.mem_append.mp x1 with h | h
   ·exact List.mem_append_left _ h
   ·exact List.mem_append_right _ (List.mem_cons_of_mem _ h)
 have b1:=bidOf_of (reach_nodup ok ha) x1
 have b2:=bidOf_of (reach_nodup ok' ha') x1'
 rw [ex] at b1 b2
 have e1:bidI l' s a=bidI l s a:=by
  unfold bidI
  exact b2.trans b1.symm
 have e2:yearsI l' a=yearsI l a:=by
  unfold yearsI
  show (applAt l' a).years=(applAt l a).years
  rw [applAt_of ha,applAt_of ha']
  exact (r.ap a ha ha').years
 have e3:stallAt l'.stalls (s:Int)=stallAt l.stalls (s:Int):=r.stall ⟨by omega,by omega⟩
 unfold keyL keyI
 rw [r.draw,e1,e2,e3]
theorem roomL_place {l l':Letting} (r:RoomL l l') (ok:l.Ok) {hs hs1:List Int} (hl:hs.length=l.stalls.length) (I:(mktOf l).Inv (holdF hs) []) (I1:(mktOf l').Inv (holdF hs1) []) {a:Nat} (ha:a<l.appls.length):placeI l' hs1 a≤placeI l' (hs++[-1]) a:=by
 have hR:∀ a,(mktOf l).R a=(reachOf l.stalls (applAt l a)).map fun x=>x.1.toNat:=fun _=>rfl
 have hR':∀ a,(mktOf l').R a=(reachOf l'.stalls (applAt l' a)).map fun x=>x.1.toNat:=fun _=>rfl
 refine moreL ok (r.ok ok) r.len (fun a ha=>?_) (fun a ha s hs=>r.keys ok ha hs) (fun a ha s h1 h2=>?_) hl I I1 ha
 ·rw [hR,hR']
  refine List.Sublist.map _ ?_
  rcases r.reach ok ha with h | ⟨p,q,b,h1,h2⟩
  ·rw [h];exact List.Sublist.refl _
  ·rw [h1,h2]
   exact List.Sublist.append (List.Sublist.refl _) (List.sublist_cons_self _ _)
 ·rw [hR] at h2
  rw [hR'] at h1
  rcases r.reach ok ha with h | ⟨p,q,b,e1,e2⟩
  ·rw [h] at h1;exact absurd h1 h2
  ·rw [e2,List.map_append,List.map_cons] at h1
   rw [e1,List.map_append] at h2
   rcases List.mem_append.mp h1 with h | h
   ·exact absurd (List.mem_append_left _ h) h2
   ·rcases List.mem_cons.mp h with h | h
    ·rw [h];simp
    ·exact absurd (List.mem_append_right _ h) h2
end Go.Proofs.Ythbhjgbpjlnbcaa.walk
set_option maxRecDepth 10000
namespace Go.Proofs.Ythbhjgbpjlnbcaa.walk
open Go.Abs Go.Proofs.Ythbhjgbpjlnbcaa.code
theorem app_all {no:Nat→Prop} {s:St} {p w bytes tg sz:Nat} {rows:List (List AV)} {y:AV} (hY:Sl no s.h s.n w rows y) (hp:s.h.get p=some (.cells [] sz)) (hpn:p<s.n) (hsc:scalars rows.flatten=true) (hb:rows.length * bytes≤1000000) (htg:szOf (w+tg)=w) (hs:s.n+10≤far) :
  ∃ v s',appendA false w bytes tg s (.slice p 0 0 0 false) y=.val v s'∧Sl (fun x=>x=p∨x=s.n) s'.h s'.n w rows v∧(rows≠[]→IsAt s'.h s'.n s.n w tg rows v)∧s.n≤s'.n∧s'.n≤s.n+1∧(∀ c,c<s.n→s'.h.get c=s.h.get c)∧min s.m p≤s'.m∧s'.m≤s.m∧plain v=false∧(rows=[]→v=.slice p 0 0 0 false):=by
 have hf:far=1000000000:=rfl
 have hfl:=flatten_len hY.wide
 have e1:lenA y=some rows.length∧firstA w rows.length s y=some rows.flatten:=by
  rcases hY.is with ⟨h1,h2⟩ | ⟨b,o,cap,e,c,zz,h1,_,h2,h3,h4,h5⟩
  ·subst h1 h2;exact ⟨rfl,rfl⟩
  ·subst h3
   refine ⟨rfl,?_⟩
   show (match s.h.get b with | some (.cells c _)=>Abs.cut o (rows.length * w) c | some (.fam c _ q _)=>Abs.cut o (rows.length * w) (c.take q) | _=>none)=_
   rw [h4]
   exact h5
 have hA:appendA false w bytes tg s (.slice p 0 0 0 false) y=growA w bytes tg rows.length rows.flatten s (.slice p 0 0 0 false):=by
  unfold appendA
  simp only [e1.1,e1.2,hfl,Nat.beq_refl,hsc]
 have e2:Nat.ble (rows.length * bytes) limit=true:=Nat.ble_eq_true_of_le (by unfold limit;omega)
 rw [hA]
 by_cases h0:rows=[]
 ·subst h0
  refine ⟨.slice p 0 0 0 false,s.put p (.cells [] sz),?_,⟨hY.wide,.inr ⟨p,0,0,false,[],sz,hpn,.inl rfl,⟨Nat.le_refl _,fun h=>(by cases h)⟩,rfl,get_put_eq _ _ _ _ rfl (by omega),?_⟩⟩,fun h=>absurd rfl h,Nat.le_refl _,by rw [put_n];omega,fun c hc=>?_,by simp only [St.put,minN_eq];omega,by simp only [St.put,minN_eq];omega,rfl,fun _=>rfl⟩
  ·unfold growA
   simp only [hp,List.length_nil,List.flatten_nil,Nat.zero_mul,Nat.add_zero]
   rfl
  ·simp only [List.length_nil,Nat.zero_mul];rfl
  ·by_cases e:c=p
   ·subst e;rw [get_put_eq _ _ _ _ rfl (by omega)];exact hp.symm
   ·rw [get_put_ne' _ _ _ _ e]
 ·have hl:0<rows.length:=List.length_pos_iff.mpr h0
  have e3:Nat.ble rows.length 0=false:=by
   cases h:Nat.ble rows.length 0 with
   | false=>rfl
   | true=>have:=Nat.le_of_ble_eq_true h;omega
  have gI:IsAt (s.new (.cells rows.flatten (w+tg))).h (s.new (.cells rows.flatten (w+tg))).n s.n w tg rows (.slice s.n 0 rows.length rows.length true):=⟨hY.wide,.inr ⟨h0,by rw [new_n];omega,rfl,get_new_eq _ _ _ rfl (by omega)⟩⟩
  refine ⟨.slice s.n 0 rows.length rows.length true,s.new (.cells rows.flatten (w+tg)),?_,Sl.of_at gI fun _=>.inr rfl,fun _=>gI,by rw [new_n];omega,by rw [new_n];omega,fun c hc=>get_new_ne _ _ _ (by omega),by rw [new_m];omega,by rw [new_m];omega,rfl,fun h=>absurd h h0⟩
  unfold growA
  simp only [hp,Nat.zero_add,e3,e2,Nat.zero_mul]
  rfl
theorem intRows_scal (l:List Int):scalars (intRows l).flatten=true:=scalars_flatten fun r hr=>by
 unfold intRows at hr
 obtain ⟨x,_,rfl⟩:=List.mem_map.mp hr
 rfl
theorem copyInts_ex {N:Nat} {no:Nat→Prop} {l:List Int} {v:AV} {s:St} {r:ARes} (hr:call Try.prog X N (.fn 28) [v] s=r) (hN:1≤N) (hR:Sl no s.h s.n 1 (intRows l) v) (hl:l.length≤1000) (hs:s.n+100≤far) :
  ∃ w t,r=.val w t∧New s t 2∧Sl (fun x=>s.n≤x) t.h t.n 1 (intRows l) w∧(l≠[]→IsAt t.h t.n (s.n+1) 1 (tag 3) (intRows l) w)∧(l=[]→∃ sz,w=.slice s.n 0 0 0 false∧t.h.get s.n=some (.cells [] sz)):=by
 obtain ⟨n,rfl⟩:∃ n,N=n+1:=⟨N - 1,by omega⟩
 have hf:far=1000000000:=rfl
 obtain ⟨w,t,e,st,hq⟩:=call_new (n:=n) (args:=[v]) (s:=s) (k:=2) (Q:=fun w h n=>Sl (fun x=>s.n≤x) h n 1 (intRows l) w∧(l≠[]→IsAt h n (s.n+1) 1 (tag 3) (intRows l) w)∧(l=[]→∃ sz,w=.slice s.n 0 0 0 false∧h.get s.n=some (.cells [] sz))) Try.func28 rfl (fun u uh un um=>by
  rw [← uh,← un] at hR
  rw [← un]
  rw [enter28]
  obtain ⟨y,hy⟩:∃ y:St,y=u.new (.cells [] 0):=⟨_,rfl⟩
  have yn:y.n=u.n+1:=by rw [hy];rfl
  have ym:y.m=far:=by rw [hy];exact um
  have yg:∀ c,c<u.n→y.h.get c=u.h.get c:=fun c hc=>by rw [hy,get_new_ne _ _ _ (by omega)]
  have y0:y.h.get u.n=some (.cells [] 0):=by rw [hy];exact get_new_eq _ _ _ rfl (by omega)
  simp (disch:=first|omega|(with_unfolding_all exact rfl)|(simp only[new_n,put_n,new_m];omega)|(refine put_m_le ?_;simp only[new_m];omega)) only [res28,K28r0,K28r1,K28,Abs.W,reduceIte,Nat.reduceEqDiff,Nat.reduceAdd,decide_true,decide_false,kLoop_def,Nat.reduceSub,List.cons_append,List.nil_append,List.append_nil,List.length_cons,List.length_nil,Env.find_set]
  obtain ⟨w,s',e1,hS,hI,n1,n2,hg,m1,m2,hpl,hnil⟩:=app_all (tg:=tag 3) (bytes:=8) (hR.grow yg (by omega:u.n≤y.n)) y0 (by omega) (intRows_scal l) (by unfold intRows;rw [List.length_map];omega) (by kernel_rfl) (by omega)
  rw [hy] at e1
  simp (disch:=first|omega|(with_unfolding_all exact rfl)|(simp only[new_n,put_n,new_m];omega)|(refine put_m_le ?_;simp only[new_m];omega)) only [res28,K28r0,K28r1,K28,Abs.W,reduceIte,Nat.reduceEqDiff,Nat.reduceAdd,decide_true,decide_false,kLoop_def,Nat.reduceSub,List.cons_append,List.nil_append,List.append_nil,List.length_cons,List.length_nil,Env.find_set,e1]
  have hne:l≠[]→intRows l≠[]:=fun h e=>h (List.map_eq_nil_iff.mp e)
  refine ⟨_,_,rfl,⟨fun c hc=>(hg c (by omega)).trans (yg c hc),by omega,by omega,by omega,by omega⟩,hpl,hS.move (fun b _ h=>⟨rfl,by omega⟩) (Nat.le_refl _),fun h=>?_,fun h=>?_⟩
  ·have:=hI (hne h)
   rwa [yn] at this
  ·subst h
   exact ⟨0,hnil rfl,(hg u.n (by omega)).trans y0⟩)
 exact ⟨w,t,hr.symm.trans e,st,hq⟩
end Go.Proofs.Ythbhjgbpjlnbcaa.walk
set_option maxRecDepth 10000
namespace Go.Abs
theorem over_none:∀ (o:Nat) (c:List AV),o≤c.length→over o [] c=some c
 | 0,c,_=>by cases c<;>rfl
 | o+1,[],h=>by simp at h
 | o+1,a::c,h=>by
  rw [over_cons]
  have ih:=over_none o c (by simpa using h)
  first | (rw [ih];rfl) | (rw [if_neg (by omega),show o+1 - 1=o by omega,ih];rfl)
structure Rest (no:Nat→Prop) (h:Heap) (n w:Nat) (rows:List (List AV)) (v:AV):Prop where
 wide:∀ r ∈ rows,r.length=w
 first:∀ s:St,(∀ b,b<n→no b→s.h.get b=h.get b)→lenA v=some rows.length∧firstA w rows.length s v=some rows.flatten
 ok:∀ t,okA (.val v t)=.val v t
theorem flatten_drop:∀ {rows:List (List AV)} {w:Nat},(∀ r ∈ rows,r.length=w)→∀ i,(rows.drop i).flatten=rows.flatten.drop (i * w)
 | [],w,_,i=>by simp
 | r::rows,w,h,0=>by simp
 | r::rows,w,h,i+1=>by
  rw [List.drop_succ_cons,flatten_drop (fun x hx=>h x (List.mem_cons_of_mem _ hx)) i,List.flatten_cons,Nat.succ_mul,Nat.add_comm (i * w) w,← List.drop_drop]
  have hr:=h r (List.mem_cons_self ..)
  rw [← hr,List.drop_left]
theorem Sl.from_ {no:Nat→Prop} {h:Heap} {n w i:Nat} {rows:List (List AV)} {v:AV} (r:Sl no h n w rows v) (hi:i≤rows.length):∃ v',(∀ s,sliceVal w (some (.int .i64 (i:Int))) none s v=.val v' s)∧Rest no h n w (rows.drop i) v':=by
 have wd:∀ x ∈ rows.drop i,x.length=w:=fun x hx=>r.wide x (List.mem_of_mem_drop hx)
 rcases r.is with ⟨h1,h2⟩ | ⟨b,o,cap,e,c,sz,q1,q2,q3,q4,q5,q6⟩
 ·subst h1;subst h2
  have:i=0:=by simpa using hi
  subst this
  exact ⟨.nilslice,fun s=>rfl,wd,fun s _=>⟨rfl,rfl⟩,fun _=>rfl⟩
 ·subst q4
  have e1:boundsA rows.length cap (some (.int .i64 (i:Int))) none=some (i,rows.length):=by
   unfold boundsA hiA loA
   simp only [boundA_nat _ _ _ hi]
  have ld:(rows.drop i).length=rows.length - i:=List.length_drop
  by_cases hc:cap=i
  ·have hil:rows.length=i:=by have:=q3.1;omega
   have e0:rows.drop i=[]:=List.drop_eq_nil_of_le (by omega)
   subst hc
   cases e with
   | true =>
    refine ⟨.tail b (o+cap * w),fun s=>?_,wd,fun s _=>?_,fun _=>rfl⟩
    ·unfold sliceVal
     simp only [Nat.ble_eq_true_of_le q3.1,e1,Nat.beq_refl,if_true]
    ·rw [e0];exact ⟨rfl,rfl⟩
   | false =>
    refine ⟨.slice b o (rows.length - cap) 0 false,fun s=>?_,wd,fun s hs=>?_,fun _=>rfl⟩
    ·unfold sliceVal
     simp only [Nat.ble_eq_true_of_le q3.1,e1,Nat.beq_refl]
     rfl
    ·rw [e0]
     refine ⟨by show some (rows.length - cap)=_;rw [hil,Nat.sub_self];rfl,?_⟩
     show (match s.h.get b with | some (.cells c _)=>Abs.cut o (0 * w) c | some (.fam c _ q _)=>Abs.cut o (0 * w) (c.take q) | _=>none)=_
     rw [hs b q1 q2,q5]
     obtain ⟨x,y,z1,z2,z3⟩:=cut_some q6
     have:=cut_skip x (rows.flatten++y) 0 0
     rw [← List.append_assoc,← z1,z2,Nat.add_zero] at this
     show Abs.cut o (0 * w) c=_
     rw [Nat.zero_mul,this,cut_zero]
     cases rows.flatten++y<;>rfl
  ·have hlt:i<cap:=by have:=q3.1;omega
   refine ⟨.slice b (o+i * w) (rows.length - i) (cap - i) e,fun s=>slice_from w s b o rows.length cap i e q3.1 hi hlt,wd,fun s hs=>⟨by show some (rows.length - i)=_;rw [ld],?_⟩,fun _=>rfl⟩
   show (match s.h.get b with | some (.cells c _)=>Abs.cut (o+i * w) ((rows.drop i).length * w) c | some (.fam c _ q _)=>Abs.cut (o+i * w) ((rows.drop i).length * w) (c.take q) | _=>none)=_
   rw [hs b q1 q2,q5]
   show Abs.cut (o+i * w) ((rows.drop i).length * w) c=_
   refine cut_cut q6 ?_
   have hf:=flatten_len r.wide
   have hs1:rows.flatten=rows.flatten.take (i * w)++rows.flatten.drop (i * w):=(List.take_append_drop _ _).symm
   have ht:(rows.flatten.take (i * w)).length=i * w:=by
    rw [List.length_take,hf]
    have:=Nat.mul_le_mul_right w hi
    omega
   have:=cut_skip (rows.flatten.take (i * w)) (rows.flatten.drop (i * w)) 0 ((rows.drop i).length * w)
   rw [ht,← hs1,Nat.add_zero] at this
   rw [this,cut_zero,flatten_drop r.wide i]
   have e2:=cut1_all (rows.flatten.drop (i * w))
   rw [← flatten_drop r.wide i,flatten_len wd] at e2
   rw [flatten_drop r.wide i] at e2
   exact e2
theorem app_rest {no:Nat→Prop} {s:St} {h:Heap} {n b w bytes tg:Nat} {rows1 rows2:List (List AV)} {v1 v2:AV} (r1:IsAt s.h s.n b w tg rows1 v1) (h1:rows1≠[]) (r2:Rest no h n w rows2 v2) (hsame:∀ c,c<n→no c→s.h.get c=h.get c) (hsc:∀ r ∈ rows2,scalars r=true) (hb:(rows1.length+rows2.length) * bytes≤1000000) (htg:szOf (w+tg)=w) (hs:s.n<549755813888) :
  ∃ v' s' b',appendA false w bytes tg s v1 v2=.val v' s'∧IsAt s'.h s'.n b' w tg (rows1++rows2) v'∧(b'=b∨b'=s.n)∧s.n≤s'.n∧s'.n≤s.n+1∧(∀ c,c<s.n→c≠b→s'.h.get c=s.h.get c)∧(∀ k,k≤b→k≤s.m→k≤s'.m)∧s'.m≤s.m:=by
 obtain ⟨e1,e2⟩:=r2.first s hsame
 have e3:Nat.beq rows2.flatten.length (rows2.length * w)=true:=by rw [flatten_len r2.wide];exact Nat.beq_refl _
 have h2:appendA false w bytes tg s v1 v2=growA w bytes tg rows2.length rows2.flatten s v1:=by
  unfold appendA
  simp only [e1,e2,e3,scalars_flatten hsc]
 have wide:∀ x ∈ rows1++rows2,x.length=w:=fun x hx=>by
  rcases List.mem_append.mp hx with hx | hx
  ·exact r1.wide x hx
  ·exact r2.wide x hx
 rw [h2]
 rcases r1.is with ⟨z,_⟩ | ⟨_,z1,rfl,z3⟩
 ·exact absurd z h1
 ·have hfl:=flatten_len r1.wide
  unfold growA
  simp only [z3]
  by_cases h0:rows2=[]
  ·subst h0
   have e1:Nat.ble (rows1.length+([]:List (List AV)).length) rows1.length=true:=Nat.ble_eq_true_of_le (by simp)
   have e2:=over_none (0+rows1.length * w) rows1.flatten (by omega)
   simp only [e1,List.flatten_nil,e2]
   refine ⟨_,_,b,rfl,⟨wide,.inr ⟨by simpa using h1,by simp only [put_n];exact z1,by simp,?_⟩⟩,.inl rfl,Nat.le_refl _,Nat.le_succ _,fun c _ hc=>get_put_ne' _ _ _ _ hc,fun k hk hm=>?_,minN_le_left _ _⟩
   ·rw [List.append_nil];exact get_put_eq _ _ _ _ rfl (by omega)
   ·show k≤minN s.m b
    rw [minN_min];omega
  ·have hpos:0<rows2.length:=List.length_pos_iff.mpr h0
   have e1:Nat.ble (rows1.length+rows2.length) rows1.length=false:=by
    cases h:Nat.ble (rows1.length+rows2.length) rows1.length with
    | false=>rfl
    | true=>have:=Nat.le_of_ble_eq_true h;omega
   have e2:Nat.ble ((rows1.length+rows2.length) * bytes) limit=true:=Nat.ble_eq_true_of_le hb
   simp only [e1,e2,hfl,htg,Nat.zero_add,List.drop_zero,and_self,if_true]
   refine ⟨_,_,s.n,rfl,⟨wide,.inr ⟨by simp [h1],Nat.lt_succ_self _,by simp,?_⟩⟩,.inr rfl,Nat.le_succ _,Nat.le_refl _,fun c hc hcb=>?_,fun k hk hm=>?_,minN_le_left _ _⟩
   ·rw [List.flatten_append];exact get_new_eq _ _ _ rfl hs
   ·rw [get_new_ne _ _ _ (by show c≠s.n;omega),St.kill_h,heap_set_ne _ _ _ _ hcb]
   ·show k≤minN s.m b
    rw [minN_min];omega
end Go.Abs
namespace Go.Proofs.Ythbhjgbpjlnbcaa.walk
open Go.Abs Go.Proofs.Ythbhjgbpjlnbcaa.code
theorem intRows_drop (l:List Int) (i:Nat):(intRows l).drop i=intRows (l.drop i):=by unfold intRows;rw [List.map_drop]
theorem intRows_app (l k:List Int):intRows (l++k)=intRows l++intRows k:=by unfold intRows;rw [List.map_append]
theorem copy_push {s:St} {a p sz:Nat} {l:List Int} {w:AV} {x:Int} (hI:l≠[]→IsAt s.h s.n (a+1) 1 (tag 3) (intRows l) w) (h0:l=[]→∃ sz,w=.slice a 0 0 0 false∧s.h.get a=some (.cells [] sz)) (hp:s.h.get p=some (.cells [.int .i64 x] sz)) (hl:l.length≤1000) (hs:s.n+10≤far) :
  ∃ v' s',appendA false 1 8 (tag 3) s w (.slice p 0 1 1 false)=.val v' s'∧IsAt s'.h s'.n s.n 1 (tag 3) (intRows (l++[x])) v'∧s'.n=s.n+1∧(∀ c,c<s.n→c≠a+1→s'.h.get c=s.h.get c)∧(∀ k,k≤a→k≤s.n→k≤s.m→k≤s'.m)∧s'.m≤s.m:=by
 have hf:far=1000000000:=rfl
 by_cases e:l=[]
 ·obtain ⟨z,rfl,h2⟩:=h0 e
  subst e
  refine ⟨.slice s.n 0 1 1 true,s.new (.cells [.int .i64 x] (1+tag 3)),?_,⟨fun r hr=>?_,.inr ⟨by unfold intRows;simp,by rw [new_n];omega,rfl,get_new_eq _ _ _ rfl (by omega)⟩⟩,rfl,fun c hc _=>get_new_ne _ _ _ (by omega),fun k _ _ h=>by rw [new_m];exact h,by rw [new_m];omega⟩
  ·rw [app_grow (w:=1) hp rfl rfl]
   unfold growA
   simp only [h2]
   rfl
  ·unfold intRows at hr
   obtain ⟨y,_,rfl⟩:=List.mem_map.mp hr
   rfl
 ·obtain ⟨s',e1,h1,h2,h3,h4,h5⟩:=append_at (bytes:=8) (hI e) hp rfl rfl (by rw [intRows_len];omega) (by kernel_rfl) (by omega)
  refine ⟨_,s',e1,?_,h2,h3,fun k a1 a2 a3=>h4 k (by omega) a2 a3,h5⟩
  rw [intRows_app]
  exact h1
end Go.Proofs.Ythbhjgbpjlnbcaa.walk
set_option maxRecDepth 10000
namespace Go.Proofs.Ythbhjgbpjlnbcaa.walk
open Go.Abs Go.Proofs.Ythbhjgbpjlnbcaa.code
theorem once_ex {N d:Nat} {n:Int} {s:St} {r:ARes} (hr:call Try.prog X N (.fn 27) [.ptr d 0,.int .i64 n] s=r) (hN:3≤N) (hd:Die d s.h) (hlt:d<s.n) (hs:s.n+200≤far) (hn:n≤4000000000) :
  ∃ b t,r=.val (.bool b) t∧Stir d s t 0∧Die d t.h:=by
 obtain ⟨m,rfl⟩:∃ m,N=m+1:=⟨N - 1,by omega⟩
 have hf:far=1000000000:=rfl
 obtain ⟨v,t,e,st,⟨x,rfl⟩,hd'⟩:=call_stir_plain (n:=m) (args:=[.ptr d 0,.int .i64 n]) (d:=d) (k:=0) (Q:=fun v=>∃ b,v=.bool b) (R:=Die d) Try.func27 hd (fun u uh un um=>by
  rw [← uh] at hd
  rw [enter27]
  simp (disch:=first|omega|(with_unfolding_all exact rfl)|(simp only[new_n,put_n,new_m];omega)|(refine put_m_le ?_;simp only[new_m];omega)) only [res27,K27r0,K27r1,K27,Abs.W,reduceIte,Nat.reduceEqDiff,Nat.reduceAdd,decide_true,decide_false,kLoop_def,Nat.reduceSub,List.cons_append,List.nil_append,List.append_nil,List.length_cons,List.length_nil]
  generalize hc:call _ _ _ (.fn 15) _ _=r1
  obtain ⟨y,w,rfl,sw,dw,y0,y1⟩:=cast_ex hc (by omega) hd (by omega) (by omega) hn
  simp (disch:=first|omega|(with_unfolding_all exact rfl)|(simp only[new_n,put_n,new_m];omega)|(refine put_m_le ?_;simp only[new_m];omega)) only [res27,K27r0,K27r1,K27,Abs.W,reduceIte,Nat.reduceEqDiff,Nat.reduceAdd,decide_true,decide_false,kLoop_def,Nat.reduceSub,List.cons_append,List.nil_append,List.append_nil,List.length_cons,List.length_nil]
  exact ⟨_,_,rfl,sw,rfl,⟨_,rfl⟩,dw⟩) (by omega)
 exact ⟨x,t,hr.symm.trans e,st,hd'⟩
end Go.Proofs.Ythbhjgbpjlnbcaa.walk
