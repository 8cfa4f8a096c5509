/- All allowed layouts, as the statement lists them: one kind. -/
import Derived.Test.YtoklbkgcclkejaaM9
import Derived.Test.YtoklbkgcclkejaaM7
import Derived.Test.YtoklbkgcclkejaaCodes
import Derived.Test.YtoklbkgcclkejaaM6
import Derived.Test.YtoklbkgcclkejaaM5
import Derived.Test.YtoklbkgcclkejaaProg
import Derived.Tactics
import Derived.Tactics2
import Derived.WalkKit
import Derived.OpenShut
import Derived.Below
import Derived.Lib.Hide
import Derived.KernelRfl
import Derived.Deep.RegionHeld3
import Derived.OwnWalk
import Derived.StillTailTactics
import Derived.Test.YtoklbkgcclkejaaAbsTop
import Derived.Test.YtoklbkgcclkejaaAbsWalk
import Derived.Test.YtoklbkgcclkejaaAwake
import Derived.Test.YtoklbkgcclkejaaWalkAll
set_option linter.unusedSimpArgs false
set_option linter.unusedVariables false
set_option maxHeartbeats 16000000
set_option linter.unusedVariables false
set_option maxRecDepth 10000
namespace Go.Proofs.Ytoklbkgcclkejaa.walk
open Go.Abs Go.Proofs.Ytoklbkgcclkejaa.code
theorem lays_round (M m:Nat) (hM:10≤M) (cx:Ctx) {H:HallR} {t:St} {lo b i k q4:Nat} {l:List PutR} {v vo vA vW vS vB vK:AV} {MM:List (List PutR)} {L:Env} (ok:H.Ok) (IH:LaysOk M m H) (hp6:H.placesI.length≤6) (hk:k<H.kinds.length) (him:i+1+m=H.placesI.length) (hH:HallAt (fun x=>x<lo) t.h t.n H vW vS vB vK) (hR:Sl (fun x=>x≠b∧lo≤x) t.h t.n 3 (l.map PutR.row) v) (hA:Sl (fun x=>x≠b) t.h t.n 2 (H.placesI.map jE) vA) (g4:t.h.get q4=some (.cells (zo H vW vS vB vK) (tag 30))) (h4:q4<t.n∧q4≠b) (tab:TabP t.h t.n b lo MM vo) (hlo:lo≤t.n) (hg:H.Good l) (hl:l.length≤i) (hMM:MM.length+3 ^ m≤1000) (hs:t.n+layS m+10010≤far) (hm:t.m≤far)
  (f1:L.find 1=v) (f2:L.find 2=.int .i64 (i:Int)) (f3:L.find 3=vo) (f4:L.find 4=.ptr q4 0) (f9:L.find 9=vA) (f10:L.find 10=.int .i64 (k:Int)) :
  ∃ L1 t1 b1 vo1,K30l0 (call Try.prog X M) cx L [] t=.done .norm L1 [] t1∧TabP t1.h t1.n b1 lo (MM++if H.goodL l (jN (H.placesI.getD i (0,0)) k)=true then H.lays (H.placesI.drop (i+1)) (l++[jN (H.placesI.getD i (0,0)) k]) else []) vo1∧(b1=b∨t.n≤b1)∧t.n≤t1.n∧t1.n≤t.n+10+layS m∧(∀ c,c<t.n→c≠b→t1.h.get c=t.h.get c)∧(∀ x,x≤b→x≤t.n→x≤t.m→x≤t1.m)∧t1.m≤t.m∧L1.find 1=v∧L1.find 2=.int .i64 (i:Int)∧L1.find 3=vo1∧L1.find 4=.ptr q4 0∧L1.find 9=vA∧L1.find 10=.int .i64 ((k+1:Nat):Int):=by
 have hf:far=1000000000:=rfl
 have k6:=ok.k1
 have kv:=hR.okA
 have ka:=hA.okA
 have ko:=tab.okA
 have tbl:=tab.block
 have kK:=hH.k.okA
 have lK:=hH.k.len
 obtain ⟨c,hc⟩:∃ c,c=H.placesI.getD i (0,0):=⟨_,rfl⟩
 have hil:i<H.placesI.length:=by omega
 have hcx:H.placesI[i]=c:=by rw [hc,List.getD_eq_getElem?_getD,List.getElem?_eq_getElem hil];rfl
 have hcin:H.In c:=by rw [← hcx];exact places_in ok.w0 _ (List.getElem_mem hil)
 rw [← hc]
 have hPin:=put_in ok hcin hk
 have e0:decide ((k:Int)<(H.kinds.length:Int))=true:=decide_eq_true (by omega)
 have ad:∀ s,jH s .i64 (k:Int) 1=.val (.int .i64 ((k:Int)+1)) s:=fun s=>ze s _ _ (by omega)
 have ad2:∀ s,jH s .i64 (i:Int) 1=.val (.int .i64 ((i+1:Nat):Int)) s:=fun s=>by rw [ze s _ _ (by omega)];rfl
 obtain ⟨ob,oo,oc,osz,⟨o1,o1n⟩,o2,o3,o4⟩:=Jx hA hil
 rw [hcx] at o4
 have okc:∀ t,okA (.val (.agg (jE c)) t)=.val (.agg (jE c)) t:=fun _=>rfl
 -- the copy
 obtain ⟨y,hy⟩:∃ y:St,y=t.new (.cells [] 0):=⟨_,rfl⟩
 have yn:y.n=t.n+1:=by rw [hy];rfl
 have ym:y.m=t.m:=by rw [hy];rfl
 have yg:∀ c,c<t.n→y.h.get c=t.h.get c:=fun c hc=>by rw [hy,zH _ _ _ (by omega)]
 have y0:y.h.get t.n=some (.cells [] 0):=by rw [hy];exact zL _ _ _ rfl (by omega)
 obtain ⟨w1,s1,e1,hO,n1,n2,sg,m1,m2⟩:=append_copy (tg:=tag 51) (bytes:=24) (hR.grow yg (by omega:t.n≤y.n)).seq y0 (by omega) (put_scal l) (by rw [List.length_map];omega) (by omega)
 have kw1:∀ t,okA (.val w1 t)=.val w1 t:=fun t=>by
  rcases hO.is with ⟨h1,h2 | ⟨b,_,_,h4,_⟩⟩ | ⟨_,b,_,_,h4,_⟩
  ·rw [h2];rfl
  ·rw [h4];rfl
  ·rw [h4];rfl
 have m1':=m1 t.n (Nat.le_refl _)
 obtain ⟨s2,hs2⟩:∃ s2:St,s2=s1.new (.cells [.int .i64 c.1,.int .i64 c.2,.int .i64 (k:Int)] 0):=⟨_,rfl⟩
 have s2n:s2.n=s1.n+1:=by rw [hs2];rfl
 have s2m:s2.m=s1.m:=by rw [hs2];rfl
 have s2g:∀ c,c<s1.n→s2.h.get c=s1.h.get c:=fun c hc=>by rw [hs2,zH _ _ _ (by omega)]
 have s2p:s2.h.get s1.n=some (.cells (jN c k).row 0):=by rw [hs2];exact zL _ _ _ rfl (by omega)
 have hO2:Own s2.h t.n s1.n 3 (tag 51) (l.map PutR.row) w1:=hO.mono (fun b h1 h2=>s2g b h2) (Nat.le_refl _)
 obtain ⟨s3,e3,hI,s3n,s3g,s3m,s3l⟩:=append_own (bytes:=24) hO2 (by omega) s2p rfl rfl (by rw [List.length_map];omega) (by kernel_rfl) (by omega)
 obtain ⟨vx,hvx⟩:∃ vx:AV,vx=.slice s2.n 0 ((l.map PutR.row).length+1) ((l.map PutR.row).length+1) true:=⟨_,rfl⟩
 rw [← hvx] at e3 hI
 have kx:∀ t,okA (.val vx t)=.val vx t:=fun t=>by rw [hvx];rfl
 have hrow:l.map PutR.row++[(jN c k).row]=(l++[jN c k]).map PutR.row:=by rw [List.map_append];rfl
 rw [hrow] at hI
 have g3:∀ c,c<t.n→s3.h.get c=t.h.get c:=fun c hc=>(s3g c (by omega) (.inl hc)).trans ((s2g c (by omega)).trans ((sg c (by omega)).trans (yg c hc)))
 have hX:Sl (fun x=>x≠b∧lo≤x) s3.h s3.n 3 ((l++[jN c k]).map PutR.row) vx:=Sl.of_at hI fun _=>by omega
 have hH3:HallAt (fun x=>x<lo) s3.h s3.n H vW vS vB vK:=hH.grow g3 (by omega)
 have tab3:TabP s3.h s3.n b lo MM vo:=tab.move (fun c hc _=>g3 c hc) (by omega)
 have g43:=(g3 q4 h4.1).trans g4
 have os1:=(sg ob (by omega)).trans ((yg ob o1).trans o3)
 have ap:yx (.slice t.n 0 0 0 false) (.ptr ob oo)=true:=apart_slice (by omega)
 have hlx:∀ q ∈ l++[jN c k],q.In H:=fun q hq=>by
  rcases List.mem_append.mp hq with h | h
  ·exact hg.i q h
  ·rw [List.mem_singleton.mp h];exact hPin
 obtain ⟨is,eis,his⟩:=allowed_ok (no:=fun _=>True) M (by omega) ok (hH3.move (fun _ _ _=>⟨rfl,trivial⟩) (Nat.le_refl _)) (hX.move (fun _ _ _=>⟨rfl,trivial⟩) (Nat.le_refl _)) hlx (by rw [List.length_append,List.length_singleton];omega) (by omega)
 have hgl:H.goodL l (jN c k)=is:=by
  cases is with
  | true=>exact goodL_iff.mpr (his.mp rfl)
  | false =>
   cases h:H.goodL l (jN c k) with
   | false=>rfl
   | true=>exact absurd (his.mpr (goodL_iff.mp h)) (by simp)
 rw [hgl]
 simp (disch:=first|omega|with_unfolding_all exact rfl) only [K30l0,K30r6,K30r7,Abs.W,reduceIte,Nat.reduceEqDiff,Nat.reduceAdd,Nat.reduceSub,f1,f2,f3,f4,f9,f10,g4,kK,lK,e0,kv,ka,Nat.zero_add]
 rw [← hy]
 simp (disch:=first|omega|with_unfolding_all exact rfl) only [Abs.W,reduceIte,Nat.reduceEqDiff,Nat.reduceAdd,Nat.reduceSub,f1,f2,f3,f4,f9,f10,e1,kw1,ka,o2,os1,o4,okc,Nat.zero_add]
 rw [← hs2]
 simp (disch:=first|omega|with_unfolding_all exact rfl) only [Abs.W,reduceIte,Nat.reduceEqDiff,Nat.reduceAdd,Nat.reduceSub,e3,kx,Nat.zero_add]
 rw [gE _ (by
  refine (vF ?_).trans (vM _)
  simp only [zI,efs,reduceIte,Nat.reduceEqDiff]
  exact ap)]
 have g43':s3.h.get q4=some (.cells (zo H vW vS vB vK) (tag 30)):=g43
 simp (disch:=first|omega|with_unfolding_all exact rfl) only [K30r8,Abs.W,reduceIte,Nat.reduceEqDiff,Nat.reduceAdd,Nat.reduceSub,f4,g43',kx,eis,Nat.zero_add]
 cases is with
 | false =>
  simp (disch:=first|omega|with_unfolding_all exact rfl) only [K30r10,Abs.W,reduceIte,Nat.reduceEqDiff,Nat.reduceAdd,Nat.reduceSub,f10,ad,Nat.zero_add]
  refine ⟨_,s3,b,vo,rfl,by simpa using tab3,.inl rfl,by omega,by omega,fun c hc _=>g3 c hc,fun x h1 h2 h3=>s3m x (by omega) (by omega) (by rw [s2m];exact m1 x (by omega) (by omega)),by omega,?_,?_,?_,?_,?_,?_⟩
  ·simp only [efs,f1,reduceIte,Nat.reduceEqDiff]
  ·simp only [efs,f2,reduceIte,Nat.reduceEqDiff]
  ·simp only [efs,f3,reduceIte,Nat.reduceEqDiff]
  ·simp only [efs,f4,reduceIte,Nat.reduceEqDiff]
  ·simp only [efs,f9,reduceIte,Nat.reduceEqDiff]
  ·simp only [efs,reduceIte,Nat.reduceEqDiff];rfl
 | true =>
  have hgx:H.Good (l++[jN c k]):=⟨(his.mp rfl).1,(his.mp rfl).2,hlx⟩
  obtain ⟨w5,t5,b5,e5,T5,p1,p2,p3,p4,p5,p6⟩:=IH (i:=i+1) him hH3 hX hgx (by rw [List.length_append,List.length_singleton];omega) (.inr tab3) (by omega) hMM (by omega) (by omega)
  have k5:=T5.okA
  simp (disch:=first|omega|with_unfolding_all exact rfl) only [K30r9,K30r10,Abs.W,reduceIte,Nat.reduceEqDiff,Nat.reduceAdd,Nat.reduceSub,f2,f3,f4,f10,g43',kx,ko,ad,ad2,e5,k5,Nat.zero_add]
  refine ⟨_,t5,b5,w5,rfl,T5,.inr (by omega),by omega,by omega,fun c hc hcb=>(p4 c (by omega) hcb).trans (g3 c hc),fun x h1 h2 h3=>p5 x h1 (by omega) (s3m x (by omega) (by omega) (by rw [s2m];exact m1 x (by omega) (by omega))),by omega,?_,?_,?_,?_,?_,?_⟩
  ·simp only [efs,f1,reduceIte,Nat.reduceEqDiff]
  ·simp only [efs,f2,reduceIte,Nat.reduceEqDiff]
  ·simp only [efs,reduceIte,Nat.reduceEqDiff]
  ·simp only [efs,f4,reduceIte,Nat.reduceEqDiff]
  ·simp only [efs,f9,reduceIte,Nat.reduceEqDiff]
  ·simp only [efs,reduceIte,Nat.reduceEqDiff];rfl
end Go.Proofs.Ytoklbkgcclkejaa.walk
set_option maxRecDepth 10000
namespace Go.Proofs.Ytoklbkgcclkejaa.walk
open Go.Abs Go.Proofs.Ytoklbkgcclkejaa.code
theorem lays_call {M m:Nat} (hM:10≤M) {H:HallR} (ok:H.Ok) (hp6:H.placesI.length≤6) (hk2:H.kinds.length≤2) (IH:∀ m',m=m'+1→LaysOk M m' H):LaysOk (M+1) m H:=by
 intro s lo b i l v vo vW vS vB vK MM him hH hR hg hl hacc hlo hMM hs hm
 have hf:far=1000000000:=rfl
 obtain ⟨w,t,mm,e,⟨b',T0,q1,q2,q3,q4,q5⟩,hm'⟩:=call_any (n:=M) (args:=[.agg (zo H vW vS vB vK),v,.int .i64 (i:Int),vo]) (s:=s) (Q:=fun w h n m'=>∃ b',TabP h n b' lo (MM++H.lays (H.placesI.drop i) l) w∧s.n≤b'∧s.n≤n∧n≤s.n+layS m∧(∀ c,c<s.n→c≠b→h.get c=s.h.get c)∧(∀ k,k≤b→k≤s.n→k≤m')) Try.func30 rfl (fun U uh un um=>by
  rw [← uh,← un] at hH hR hacc
  rw [← un] at hlo hs
  have kv:=hR.okA
  have sv:=hR.scal
  have ko:=hacc.okA
  have hbl:lo≤b∧(b<U.n∨far<b):=by
   rcases hacc with ⟨_,_,h⟩ | h
   ·exact ⟨by omega,.inr h⟩
   ·have:=h.block
    exact ⟨this.1,.inl this.2⟩
  obtain ⟨w,hw⟩:∃ w:St,w=U.new (.cells (zo H vW vS vB vK) (tag 30)):=⟨_,rfl⟩
  have wn:w.n=U.n+1:=by rw [hw];rfl
  have wm:w.m=far:=by rw [hw];exact um
  have wg:∀ c,c<U.n→w.h.get c=U.h.get c:=fun c hc=>by rw [hw,zH _ _ _ (by omega)]
  have w4:w.h.get U.n=some (.cells (zo H vW vS vB vK) (tag 30)):=by rw [hw];exact zL _ _ _ rfl (by omega)
  rw [enter30]
  simp (disch:=first|omega|with_unfolding_all exact rfl) only [K30,K30r0,Abs.W,reduceIte,Nat.reduceEqDiff,Nat.reduceAdd,Nat.reduceSub,zP]
  rw [← hw]
  simp (disch:=first|omega|with_unfolding_all exact rfl) only [K30r1,Abs.W,reduceIte,Nat.reduceEqDiff,Nat.reduceAdd,Nat.reduceSub,w4,Nat.zero_add]
  generalize hc1:call _ _ _ (.fn 40) _ _=r1
  obtain ⟨vA,t1,pb,rfl,st1,hpb1,hpb2,hI⟩:=places_ex hc1 (by omega) ok.toSize (by omega)
  have n1:=st1.n
  have k1:=st1.le
  have m1:t1.m=far:=st1.m.trans wm
  have t1g:∀ c,c<U.n→t1.h.get c=U.h.get c:=fun c hc=>(st1.same c (by omega)).trans (wg c hc)
  have t14:=(st1.same U.n (by omega)).trans w4
  have hA:Sl (fun x=>x≠b) t1.h t1.n 2 (H.placesI.map jE) vA:=(Sl.of_at (no:=fun x=>x=pb) hI fun _=>rfl).move (fun c _ h=>⟨rfl,by omega⟩) (Nat.le_refl _)
  have ka:=hA.okA
  have lA:=Jw hA
  have hH1:HallAt (fun x=>x<lo) t1.h t1.n H vW vS vB vK:=hH.grow t1g (by omega)
  have hR1:Sl (fun x=>x≠b∧lo≤x) t1.h t1.n 3 (l.map PutR.row) v:=hR.grow t1g (by omega)
  have hacc1:AccP t1.h t1.n b lo MM vo:=hacc.move (fun c hc _=>t1g c hc) (by omega)
  by_cases hi:i=H.placesI.length
  ·have hm0:m=0:=by omega
   subst hm0
   have e0:decide ((i:Int)=(H.placesI.length:Int))=true:=decide_eq_true (by omega)
   have hdr:H.lays (H.placesI.drop i) l=[l]:=by rw [List.drop_eq_nil_of_le (by omega)];rfl
   rw [hdr]
   obtain ⟨Y,hY⟩:∃ Y:St,Y=t1.new (.cells [v] 0):=⟨_,rfl⟩
   have Yn:Y.n=t1.n+1:=by rw [hY];rfl
   have Ym:Y.m=t1.m:=by rw [hY];rfl
   have Yg:∀ c,c<t1.n→Y.h.get c=t1.h.get c:=fun c hc=>by rw [hY,zH _ _ _ (by omega)]
   have Yp:Y.h.get t1.n=some (.cells [v] 0):=by rw [hY];exact zL _ _ _ rfl (by omega)
   have h3:(3:Nat) ^ 0=1:=rfl
   have hl0:layS 0=100:=rfl
   obtain ⟨w5,s5,e5,T5,s5n,s5g,s5m,s5l⟩:=(hacc1.move (fun c hc _=>Yg c hc) (by omega:t1.n≤Y.n)).put (hR1.grow Yg (by omega)) Yp (by omega) (by omega) (by omega)
   have k5:=T5.okA
   simp (disch:=first|omega|with_unfolding_all exact rfl) only [K30r2,K30r3,Abs.W,reduceIte,Nat.reduceEqDiff,Nat.reduceAdd,Nat.reduceSub,kv,ka,ko,lA,e0,sv.1,sv.2.1,sv.2.2,Nat.zero_add]
   rw [← hY]
   simp (disch:=first|omega|with_unfolding_all exact rfl) only [Abs.W,reduceIte,Nat.reduceEqDiff,Nat.reduceAdd,Nat.reduceSub,e5,k5,Nat.zero_add]
   rw [res30]
   simp (disch:=first|omega|with_unfolding_all exact rfl) only [Abs.W,reduceIte,Nat.reduceEqDiff,Nat.reduceAdd,Nat.reduceSub,k5]
   refine ⟨_,_,rfl,⟨Y.n,T5,by omega,by omega,by omega,fun c hc hcb=>?_,fun k h1 h2=>s5m k h1 (by omega)⟩,fun hpl=>?_⟩
   ·rw [s5g c (by omega) hcb,Yg c (by omega),t1g c (by omega),uh]
   ·rw [T5.plain] at hpl;cases hpl
  ·match m,him,IH,hMM,hs with
   | 0,him,_,_,_=>exact absurd him (by omega)
   | m'+1,him,IH,hMM,hs =>
    have IH:LaysOk M m' H:=IH m' rfl
    have e0:decide ((i:Int)=(H.placesI.length:Int))=false:=decide_eq_false (by omega)
    have hls:layS (m'+1)=3 * layS m'+100:=rfl
    have h3s:3 ^ (m'+1)=3 ^ m' * 3:=Nat.pow_succ ..
    have ad2:∀ s,jH s .i64 (i:Int) 1=.val (.int .i64 ((i+1:Nat):Int)) s:=fun s=>by rw [ze s _ _ (by omega)];rfl
    obtain ⟨w5,t5,b5,e5,T5,p1,p2,p3,p4,p5,p6⟩:=IH (i:=i+1) (by omega) hH1 hR1 hg (by omega) hacc1 (by omega) (by omega) (by omega) (by omega)
    have k5:=T5.okA
    rw [lays_at (by omega)]
    have hm3:H.placesI.length - (i+1)=m':=by omega
    have hfew:=fun k=>laysK_few hk2 i l k
    rw [hm3] at hfew
    have hfst:=(lays_few hk2 (H.placesI.drop (i+1)) l).1
    rw [List.length_drop,hm3] at hfst
    -- the loop over the kinds
    have loop:∀ (L0:Env) (r:R),jL K30l0 rounds (call Try.prog X M) ⟨30,none,Try.f30.ntmps,X 30⟩ L0 [] t5=r→(L0.find 1=v∧L0.find 2=.int .i64 (i:Int)∧L0.find 3=w5∧L0.find 4=.ptr U.n 0∧L0.find 9=vA∧L0.find 10=.int .i64 0)→∃ L1 t b1 vo1,r=.done (.exit 0) L1 [] t∧L1.find 3=vo1∧TabP t.h t.n b1 lo (MM++(H.lays (H.placesI.drop (i+1)) l++H.laysK i l H.kinds.length)) vo1∧t1.n≤b1∧t1.n≤t.n∧t.n≤t5.n+H.kinds.length * (10+layS m')∧(∀ c,c<t1.n→c≠b→t.h.get c=t1.h.get c)∧(∀ x,x≤b→x≤t1.n→x≤t1.m→x≤t.m):=by
     intro L0 r hlp ⟨f1,f2,f3,f4,f9,f10⟩
     obtain ⟨e,L1,t,rfl,rfl,b1,vo1,j⟩:=jT hlp
      (fun k L1 t=>∃ b1 vo1,(L1.find 1=v∧L1.find 2=.int .i64 (i:Int)∧L1.find 3=vo1∧L1.find 4=.ptr U.n 0∧L1.find 9=vA∧L1.find 10=.int .i64 (k:Int))∧TabP t.h t.n b1 lo (MM++(H.lays (H.placesI.drop (i+1)) l++H.laysK i l k)) vo1∧t1.n≤b1∧t1.n≤t.n∧t.n≤t5.n+k * (10+layS m')∧(∀ c,c<t1.n→c≠b→t.h.get c=t1.h.get c)∧(∀ x,x≤b→x≤t1.n→x≤t1.m→x≤t.m)∧t.m≤far)
      (fun e L1 t=>e=.exit 0∧∃ b1 vo1,L1.find 3=vo1∧TabP t.h t.n b1 lo (MM++(H.lays (H.placesI.drop (i+1)) l++H.laysK i l H.kinds.length)) vo1∧t1.n≤b1∧t1.n≤t.n∧t.n≤t5.n+H.kinds.length * (10+layS m')∧(∀ c,c<t1.n→c≠b→t.h.get c=t1.h.get c)∧(∀ x,x≤b→x≤t1.n→x≤t1.m→x≤t.m)) H.kinds.length (by unfold rounds;omega)
      ⟨b5,w5,⟨f1,f2,f3,f4,f9,f10⟩,by
       have:H.laysK i l 0=[]:=rfl
       rw [this,List.append_nil];exact T5,p1,p2,by omega,p4,fun x h1 h2 h3=>p5 x h1 h2 h3,by omega⟩
      (fun k L1 t hk ⟨b1,vo1,⟨f1,f2,f3,f4,f9,f10⟩,T1,g1,g2,g3,g4,g5,g6⟩=>by
       have hHt:HallAt (fun x=>x<lo) t.h t.n H vW vS vB vK:=hH1.move (fun c h1 h2=>⟨g4 c h1 (by omega),h2⟩) (by omega)
       have g44:=(g4 U.n (by omega) (by omega)).trans t14
       by_cases hlt:k<H.kinds.length
       ·have hmul:k * (10+layS m')≤1 * (10+layS m'):=Nat.mul_le_mul_right _ (by omega)
        have hmul2:k * 3 ^ m'≤1 * 3 ^ m':=Nat.mul_le_mul_right _ (by omega)
        have hfk:=hfew k
        obtain ⟨L2,t2,b2,vo2,r1,r2,r3,r4,r5,r6,r7,r8,r9⟩:=lays_round M m' hM ⟨30,none,Try.f30.ntmps,X 30⟩ (b:=b1) (q4:=U.n) ok IH hp6 hlt (by omega) hHt (hR.move (fun c h1 h2=>⟨(g4 c (by omega) h2.1).trans (t1g c h1),by omega,h2.2⟩) (by omega)) (hA.move (fun c h1 h2=>⟨g4 c h1 h2,by omega⟩) (by omega)) g44 ⟨by omega,by omega⟩ T1 (by omega) hg hl (by rw [List.length_append,List.length_append];omega) (by omega) g6 f1 f2 f3 f4 f9 f10
        refine .inl ⟨hlt,L2,t2,r1,b2,vo2,r9,?_,by omega,by omega,by rw [Nat.succ_mul];omega,fun c h1 h2=>(r6 c (by omega) (by omega)).trans (g4 c h1 h2),fun x h1 h2 h3=>r7 x (by omega) (by omega) (g5 x h1 h2 h3),by omega⟩
        rw [laysK_snoc,← List.append_assoc (H.lays _ _),← List.append_assoc]
        exact r2
       ·obtain rfl:k=H.kinds.length:=by omega
        have kK:=hHt.k.okA
        have lK:=hHt.k.len
        have e0:decide ((H.kinds.length:Int)<(H.kinds.length:Int))=false:=decide_eq_false (by omega)
        refine .inr ⟨.exit 0,L1.set 32 (.bool false),t,by simp,?_,rfl,b1,vo1,?_,T1,g1,g2,g3,g4,g5⟩
        ·simp (disch:=first|omega|with_unfolding_all exact rfl) only [K30l0,K30r6,Abs.W,reduceIte,Nat.reduceEqDiff,Nat.reduceAdd,Nat.reduceSub,f4,f10,g44,kK,lK,e0,Nat.zero_add]
        ·simp only [efs,f3,reduceIte,Nat.reduceEqDiff])
     exact ⟨L1,t,b1,vo1,rfl,j⟩
    simp (disch:=first|omega|with_unfolding_all exact rfl) only [K30r2,K30r4,K30r5,Abs.W,reduceIte,Nat.reduceEqDiff,Nat.reduceAdd,Nat.reduceSub,kv,ka,ko,lA,e0,t14,ad2,e5,k5,Nat.zero_add]
    generalize hlp:jL _ rounds _ _ _ _ _=r1
    obtain ⟨L1,t6,b6,vo6,rfl,f3,T6,g1,g2,g3,g4,g5⟩:=loop _ _ hlp ⟨(by simp only [zI,efs,reduceIte,Nat.reduceEqDiff]),(by simp only [zI,efs,reduceIte,Nat.reduceEqDiff]),(by simp only [zI,efs,reduceIte,Nat.reduceEqDiff]),(by simp only [zI,efs,reduceIte,Nat.reduceEqDiff]),(by simp only [zI,efs,reduceIte,Nat.reduceEqDiff]),(by simp only [zI,efs,reduceIte,Nat.reduceEqDiff])⟩
    have hmul:H.kinds.length * (10+layS m')≤2 * (10+layS m'):=Nat.mul_le_mul_right _ hk2
    have k6:=T6.okA
    simp (disch:=first|omega|with_unfolding_all exact rfl) only [K30r11,Abs.W,reduceIte,Nat.reduceEqDiff,Nat.reduceAdd,Nat.reduceSub,f3,k6,Nat.zero_add]
    rw [res30]
    simp (disch:=first|omega|with_unfolding_all exact rfl) only [Abs.W,reduceIte,Nat.reduceEqDiff,Nat.reduceAdd,Nat.reduceSub,k6]
    refine ⟨_,_,rfl,⟨b6,T6,by omega,by omega,by omega,fun c hc hcb=>?_,fun k h1 h2=>g5 k h1 (by omega) (by omega)⟩,fun hpl=>?_⟩
    ·rw [g4 c (by omega) hcb,t1g c (by omega),uh]
    ·rw [T6.plain] at hpl;cases hpl)
 refine ⟨w,t,b',e,T0,q1,q2,q3,q4,fun k h1 h2 h3=>?_,?_⟩
 ·have:=q5 k h1 h2
  rcases hm' with ⟨_,hm'⟩ | ⟨_,hm'⟩<;>omega
 ·rcases hm' with ⟨_,hm'⟩ | ⟨_,hm'⟩<;>omega
theorem lays_ok {H:HallR} (ok:H.Ok) (hp6:H.placesI.length≤6) (hk2:H.kinds.length≤2):∀ (m N:Nat),11+m≤N→LaysOk N m H
 | m,N,hN=>by
  obtain ⟨M,rfl⟩:∃ M,N=M+1:=⟨N - 1,by omega⟩
  refine lays_call (by omega) ok hp6 hk2 fun m' h=>?_
  subst h
  exact lays_ok ok hp6 hk2 m' M (by omega)
 termination_by m=>m
end Go.Proofs.Ytoklbkgcclkejaa.walk
set_option maxRecDepth 10000
namespace Go.Proofs.Ytoklbkgcclkejaa.walk
open Go.Abs Go.Proofs.Ytoklbkgcclkejaa.code
theorem earns_ok (N:Nat) (hN:10≤N) {no:Nat→Prop} {H:HallR} {vW vS vB vK:AV} {l:List PutR} {v:AV} {s:St} (ok:H.Ok) (hH:HallAt no s.h s.n H vW vS vB vK) (hR:Sl no s.h s.n 3 (l.map PutR.row) v) (hl:∀ q ∈ l,q.In H) (hl1:l.length≤24) (hv:H.Valid l) (hs:s.n+60000≤far) :
  call Try.prog X N (.fn 23) [.agg (zo H vW vS vB vK),v] s=.val (.tup [.int .i64 (tot (H.rents l) 0),.int .i64 0]) s:=by
 obtain ⟨n,rfl⟩:∃ n,N=n+1:=⟨N - 1,by omega⟩
 have hf:far=1000000000:=rfl
 refine zq Try.func23 (fun u uh un um=>?_) rfl
 rw [← uh,← un] at hH hR
 have kv:=hR.okA
 have lv:=slPuts hR
 obtain ⟨w,hw⟩:∃ w:St,w=u.new (.cells (zo H vW vS vB vK) (tag 30)):=⟨_,rfl⟩
 have wn:w.n=u.n+1:=by rw [hw];rfl
 have wm:w.m=far:=by rw [hw];exact um
 have wg:∀ c,c<u.n→w.h.get c=u.h.get c:=fun c hc=>by rw [hw,zH _ _ _ (by omega)]
 have w0:w.h.get u.n=some (.cells (zo H vW vS vB vK) (tag 30)):=by rw [hw];exact zL _ _ _ rfl (by omega)
 have hHw:HallAt no w.h w.n H vW vS vB vK:=hH.grow wg (by omega)
 have hRw:=hR.grow wg (by omega:u.n≤w.n)
 obtain ⟨e0,ec,hz⟩:=checkLayout_ex (N:=n) rfl (by omega) ok hHw hRw hl hl1 (by omega)
 rw [hz.mpr hv] at ec
 have z0:decide ((0:Int)=0)=true:=rfl
 rw [enter23]
 simp (disch:=first|omega|with_unfolding_all exact rfl) only [K23,K23r0,Abs.W,reduceIte,Nat.reduceEqDiff,Nat.reduceAdd,Nat.reduceSub]
 rw [← hw]
 simp (disch:=first|omega|with_unfolding_all exact rfl) only [K23r1,K23r2,K23r4,K23r5,Abs.W,reduceIte,Nat.reduceEqDiff,Nat.reduceAdd,Nat.reduceSub,w0,kv,lv,ec,z0,Nat.zero_add]
 generalize hlp:jL _ rounds _ _ _ _ _=rl1
 obtain ⟨eE,L1,t3,rfl,rfl,q7,sg,sn,sm⟩:=jT hlp (fun i L t=>(∀ c,c<w.n→t.h.get c=w.h.get c)∧w.n≤t.n∧t.n≤w.n+i∧w.n≤t.m∧L.find 2=.ptr u.n 0∧L.find 7=.int .i64 (tot (H.rents (l.take i)) 0)∧L.find 16=v∧L.find 17=.int .i64 (l.length:Int)∧L.find 18=.int .i64 (i:Int))
  (fun e L t=>e=.exit 0∧L.find 7=.int .i64 (tot (H.rents l) 0)∧(∀ c,c<w.n→t.h.get c=w.h.get c)∧w.n≤t.n∧w.n≤t.m) l.length (by unfold rounds;omega)
  ⟨fun _ _=>rfl,Nat.le_refl _,by omega,by omega,(by simp only [zI,efs,reduceIte,Nat.reduceEqDiff]),(by simp only [zI,efs,reduceIte,Nat.reduceEqDiff];rfl),(by simp only [zI,efs,reduceIte,Nat.reduceEqDiff]),(by simp only [zI,efs,reduceIte,Nat.reduceEqDiff]),(by simp only [zI,efs,reduceIte,Nat.reduceEqDiff];rfl)⟩
  (fun i L t hi ⟨tg,tn,tl,tm,q2,q7,q16,q17,q18⟩=>by
   by_cases hlt:i<l.length
   ·have e0:decide ((i:Int)<(l.length:Int))=true:=decide_eq_true (by omega)
    have ad:∀ s,jH s .i64 (i:Int) 1=.val (.int .i64 ((i:Int)+1)) s:=fun s=>ze s _ _ (by omega)
    have tu:∀ c,c<u.n→t.h.get c=u.h.get c:=fun c hc=>(tg c (by omega)).trans (wg c hc)
    have hRt:=hR.grow (h':=t.h) (n':=t.n) tu (by omega)
    have hKt:KindsAt no t.h t.n H.kinds vK:=hH.k.move (fun c h1 h2=>⟨tu c h1,h2⟩) (by omega)
    have hsn:=rents_snoc H hlt
    have hbd:=rents_bound ok (l:=l.take i) (fun p hp=>hl p (List.mem_of_mem_take hp)) (by rw [List.length_take];omega)
    have hIn:=hl _ (List.getElem_mem hlt)
    obtain ⟨b,bp,c,szz,⟨r1,_⟩,r2,r3,r4⟩:=slPut hRt hlt
    generalize l[i]=P at *
    have hkP:=vj ok hIn.k
    obtain ⟨aw,kb,ko,kc,ksz,⟨kb1,_⟩,kb2,kb3,_,_,_,_,kcut⟩:=hKt.cells hIn.k
    have kK:=hKt.okA
    have kc4:nth kc (ko+4)=.int .i64 (H.kind P.kind).rent:=(wN kcut (by omega)).trans rfl
    have hr0:=hkP.r0
    have hr1:=hkP.r1
    have ad2:∀ s,jH s .i64 (tot (H.rents (l.take i)) 0) (H.kind P.kind).rent=.val (.int .i64 (tot (H.rents (l.take i)) 0+(H.kind P.kind).rent)) s:=fun s=>ze s _ _ (by omega)
    have t0:=(tg u.n (by omega)).trans w0
    have okR:∀ t,okA (.val (.agg P.row) t)=.val (.agg P.row) t:=fun _=>rfl
    have okR':∀ (a b c:Int) t,okA (.val (.agg [.int .i64 a,.int .i64 b,.int .i64 c]) t)=.val (.agg [.int .i64 a,.int .i64 b,.int .i64 c]) t:=fun _ _ _ _=>rfl
    obtain ⟨z,hz⟩:∃ z:St,z=(t.new (.cells [.int .i64 0,.int .i64 0,.int .i64 0] (tag 51))).put t.n (.cells P.row (tag 51)):=⟨_,rfl⟩
    have stz:jX 3 (t.new (.cells [.int .i64 0,.int .i64 0,.int .i64 0] (tag 51))) (.agg P.row) (.ptr t.n 0)=.val .undef z:=by
     rw [hz];exact jr _ 3 _ _ _ _ (zL _ _ _ rfl (by omega)) rfl rfl rfl
    have zn:z.n=t.n+1:=by rw [hz];rfl
    have zm:z.m=min t.m t.n:=by rw [hz];simp only [St.put,zU,zN]
    have zg:∀ c,c<t.n→z.h.get c=t.h.get c:=fun c hc=>by rw [hz,zM _ _ _ _ (by omega),zH _ _ _ (by omega)]
    have z9:z.h.get t.n=some (.cells P.row (tag 51)):=by rw [hz];exact zT _ _ _ _ rfl (by omega)
    have zu:=(zg u.n (by omega)).trans t0
    have zk:=(zg kb (by omega)).trans kb3
    have n2:nth P.row 2=.int .i64 (P.kind:Int):=rfl
    clear hz
    refine .inl ⟨hlt,?_⟩
    simp (disch:=first|omega|with_unfolding_all exact rfl) only [K23l0,K23r6,K23r7,K23r8,K23r9,Abs.W,reduceIte,Nat.reduceEqDiff,Nat.reduceAdd,Nat.reduceSub,Nat.zero_add,q2,q7,q16,q17,q18,kv,e0,r2,r3,r4,okR,stz,zu,kK,z9,n2,kb2,zk,kc4,ad2,ad]
    refine ⟨_,_,rfl,fun c hc=>(zg c (by omega)).trans (tg c hc),by omega,by omega,by omega,?_,?_,?_,?_,?_⟩
    ·simp only [efs,q2,reduceIte,Nat.reduceEqDiff]
    ·rw [hsn];simp only [efs,reduceIte,Nat.reduceEqDiff]
    ·simp only [efs,q16,reduceIte,Nat.reduceEqDiff]
    ·simp only [efs,q17,reduceIte,Nat.reduceEqDiff]
    ·simp only [efs,reduceIte,Nat.reduceEqDiff];rfl
   ·obtain rfl:i=l.length:=by omega
    have e0:decide ((l.length:Int)<(l.length:Int))=false:=by simp
    rw [List.take_length] at q7
    refine .inr ⟨.exit 0,L.set 19 (.bool false),t,by simp,?_,rfl,?_,tg,tn,tm⟩
    ·simp (disch:=first|omega|with_unfolding_all exact rfl) only [K23l0,K23r6,Abs.W,reduceIte,Nat.reduceEqDiff,Nat.reduceAdd,Nat.reduceSub,q17,q18,e0]
    ·simp only [efs,q7,reduceIte,Nat.reduceEqDiff])
 simp (disch:=first|omega|with_unfolding_all exact rfl) only [K23r10,Abs.W,reduceIte,Nat.reduceEqDiff,Nat.reduceAdd,Nat.reduceSub,q7,res23,leave_two]
 exact ⟨_,rfl,by omega⟩
end Go.Proofs.Ytoklbkgcclkejaa.walk
set_option maxRecDepth 10000
namespace Go.Proofs.Ytoklbkgcclkejaa.walk
open Go.Abs Go.Proofs.Ytoklbkgcclkejaa.code
theorem lays_len {H:HallR}:∀ (cs:List (Int × Int)) (l x:List PutR),x ∈ H.lays cs l→x.length≤l.length+cs.length
 | [],l,x,h=>by
  have h:x ∈ [l]:=h
  rw [List.mem_singleton.mp h];exact Nat.le_refl _
 | c::rest,l,x,h=>by
  have h:x ∈ H.lays rest l++(List.range H.kinds.length).flatMap (fun k=>if H.goodL l (jN c k)=true then H.lays rest (l++[jN c k]) else []):=h
  rw [List.length_cons]
  rcases List.mem_append.mp h with h | h
  ·have:=lays_len rest l x h
   omega
  ·obtain ⟨k,_,hx⟩:=List.mem_flatMap.mp h
   split at hx
   ·have:=lays_len rest _ x hx
    rw [List.length_append,List.length_singleton] at this
    omega
   ·cases hx
theorem vbe_cond (n:Nat) (hn:20≤n) (cx:Ctx) {t:St} {no no':Nat→Prop} {i b:Nat} {p:Nat} {c:List AV} {sz:Nat} {a B:List PutR} {m k:Int} {vo v w:AV} {L:Env} (hA:Sl no t.h t.n 3 (a.map PutR.row) v) (hB:Sl no' t.h t.n 3 (B.map PutR.row) w) (ha:a.length≤24) (hlt:¬ k<m) (heq:m=k→¬ a.length<B.length) (hfi:m=k→a.length=B.length→¬ First a B) (ko:∀ s,okA (.val vo s)=.val vo s) (hix:∀ s,jR 1 s vo (.int .i64 (i:Int))=.val (.ptr b p) s) (gb:t.h.get b=some (.cells c sz)) (hv:nth c p=v) (hs:t.n+10000≤far)
  (q4:L.find 4=w) (q8:L.find 8=.int .i64 k) (q10:L.find 10=vo) (q12:L.find 12=.int .i64 (i:Int)) (q13:L.find 13=.int .i64 m) (q14:L.find 14=.int .i64 0) (q15:L.find 15=.int .i64 1) (q16:L.find 16=.int .i64 0) :
  zD K7r13 [124] (awd n) cx L [] t=.done .norm (L.set 124 (.bool false)) [] t:=by
 have hf:far=1000000000:=rfl
 have knF:∀ args s,awd n (.fn 31) args s=call Try.prog X n (.fn 31) args s:=fun _ _=>rfl
 have kv:=hA.okA
 have kw:=hB.okA
 have lv:∀ s,jA s v=.val (.int .i64 (a.length:Int)) s:=fun s=>by have:=hA.len s;rwa [List.length_map] at this
 have lw:∀ s,jA s w=.val (.int .i64 (B.length:Int)) s:=fun s=>by have:=hB.len s;rwa [List.length_map] at this
 have u4:=eq3 K7r13s4.eq_1
 have u5:=eq3 K7r13s5.eq_1
 have u8:=eq3 K7r13s8.eq_1
 have u9:=eq3 K7r13s9.eq_1
 have u12:=eq3 K7r13s12.eq_1
 have u13:=eq3 K7r13s13.eq_1
 have u14:=eq3 K7r13s14.eq_1
 have u17:=eq3 K7r13s17.eq_1
 have u18:=eq3 K7r13s18.eq_1
 have u19:=eq3 K7r13s19.eq_1
 have u20:=eq3 K7r13s20.eq_1
 have u21:=eq3 K7r13s21.eq_1
 have u22:=eq3 K7r13s22.eq_1
 have u23:=eq3 K7r13s23.eq_1
 have u24:=eq3 K7r13s24.eq_1
 have u25:=eq3 K7r13s25.eq_1
 have u26:=eq3 K7r13s26.eq_1
 have u27:=eq3 K7r13s27.eq_1
 have u28:=eq3 K7r13s28.eq_1
 have u29:=eq3 K7r13s29.eq_1
 have u30:=eq3 K7r13s30.eq_1
 have u31:=eq3 K7r13s31.eq_1
 have u32:=eq3 K7r13s32.eq_1
 have u33:=eq3 K7r13s33.eq_1
 have u34:=eq3 K7r13s34.eq_1
 have u35:=eq3 K7r13s35.eq_1
 have u36:=eq3 K7r13s36.eq_1
 have u37:=eq3 K7r13s37.eq_1
 have u38:=eq3 K7r13s38.eq_1
 have u39:=eq3 K7r13s39.eq_1
 have u40:=eq3 K7r13s40.eq_1
 have u41:=eq3 K7r13s41.eq_1
 have u42:=eq3 K7r13s42.eq_1
 have u43:=eq3 K7r13s43.eq_1
 have u44:=eq3 K7r13s44.eq_1
 have u45:=eq3 K7r13s45.eq_1
 have u46:=eq3 K7r13s46.eq_1
 have u47:=eq3 K7r13s47.eq_1
 have z0:decide ((0:Int)=0)=true:=rfl
 have z1:decide ((1:Int)=1)=true:=rfl
 have d1:decide (k<m)=false:=decide_eq_false hlt
 by_cases h1:m=k
 ·have d2:decide (m=k)=true:=decide_eq_true h1
  have d3:decide ((a.length:Int)<(B.length:Int))=false:=decide_eq_false (by have:=heq h1;omega)
  by_cases h2:a.length=B.length
  ·have d4:decide ((a.length:Int)=(B.length:Int))=true:=decide_eq_true (by omega)
   obtain ⟨is,e1,e2⟩:=first_ok n (by omega) hA hB h2 (by omega) (by omega)
   have hf0:is=false:=by
    cases is with
    | false=>rfl
    | true=>exact absurd (e2.mp rfl) (hfi h1 h2)
   rw [hf0] at e1
   simp (config:={ maxSteps:=3000000 }) (disch:=first|omega|with_unfolding_all exact rfl) only [K7r13,u4,u5,u8,u9,u12,u13,u14,u17,u18,u19,u20,u21,u22,u23,u24,u25,u26,u27,u28,u29,u30,u31,u32,u33,u34,u35,u36,u37,u38,u39,u40,u41,u42,u43,u44,u45,u46,u47,Abs.W,reduceIte,Nat.reduceEqDiff,Nat.reduceAdd,Nat.reduceSub,q4,q8,q10,q12,q13,q14,q15,q16,z0,z1,d1,d2,d3,d4,ko,hix,gb,hv,kv,kw,lv,lw,knF,e1,Nat.zero_add]
  ·have d4:decide ((a.length:Int)=(B.length:Int))=false:=decide_eq_false (by omega)
   simp (config:={ maxSteps:=3000000 }) (disch:=first|omega|with_unfolding_all exact rfl) only [K7r13,u4,u5,u8,u9,u12,u13,u14,u17,u18,u19,u20,u21,u22,u23,u24,u25,u26,u27,u28,u29,u30,u31,u32,u33,u34,u35,u36,u37,u38,u39,u40,u41,u42,u43,u44,u45,u46,u47,Abs.W,reduceIte,Nat.reduceEqDiff,Nat.reduceAdd,Nat.reduceSub,q4,q8,q10,q12,q13,q14,q15,q16,z0,z1,d1,d2,d3,d4,ko,hix,gb,hv,kv,kw,lv,lw,Nat.zero_add]
 ·have d2:decide (m=k)=false:=decide_eq_false h1
  simp (config:={ maxSteps:=3000000 }) (disch:=first|omega|with_unfolding_all exact rfl) only [K7r13,u4,u5,u8,u9,u12,u13,u14,u17,u18,u19,u20,u21,u22,u23,u24,u25,u26,u27,u28,u29,u30,u31,u32,u33,u34,u35,u36,u37,u38,u39,u40,u41,u42,u43,u44,u45,u46,u47,Abs.W,reduceIte,Nat.reduceEqDiff,Nat.reduceAdd,Nat.reduceSub,q4,q8,q10,q12,q13,q14,q15,q16,z0,z1,d1,d2,ko,hix,gb,hv,kv,kw,lv,lw,Nat.zero_add]
theorem vbe_same (n:Nat) (hn:20≤n) (cx:Ctx) {t:St} {no no':Nat→Prop} {i b:Nat} {p:Nat} {c:List AV} {sz:Nat} {a B:List PutR} {vo v w:AV} {found:Bool} {L:Env} (hA:Sl no t.h t.n 3 (a.map PutR.row) v) (hB:Sl no' t.h t.n 3 (B.map PutR.row) w) (ha:a.length≤24) (ko:∀ s,okA (.val vo s)=.val vo s) (hix:∀ s,jR 1 s vo (.int .i64 (i:Int))=.val (.ptr b p) s) (gb:t.h.get b=some (.cells c sz)) (hv:nth c p=v) (hs:t.n+10000≤far)
  (q4:L.find 4=w) (q10:L.find 10=vo) (q11:L.find 11=.bool found) (q12:L.find 12=.int .i64 (i:Int)) :
  ∃ is:Bool,zD K7r15 [11] (awd n) cx L [] t=.done .norm (L.set 11 (.bool is)) [] t∧(is=true↔found=true∨a=B):=by
 have hf:far=1000000000:=rfl
 have knF:∀ args s,awd n (.fn 32) args s=call Try.prog X n (.fn 32) args s:=fun _ _=>rfl
 have kv:=hA.okA
 have kw:=hB.okA
 have u3:=eq3 K7r15s3.eq_1
 have u4:=eq3 K7r15s4.eq_1
 have u5:=eq3 K7r15s5.eq_1
 have u6:=eq3 K7r15s6.eq_1
 have u7:=eq3 K7r15s7.eq_1
 have u8:=eq3 K7r15s8.eq_1
 cases found with
 | true =>
  refine ⟨true,?_,by simp⟩
  simp (config:={ maxSteps:=3000000 }) (disch:=first|omega|with_unfolding_all exact rfl) only [K7r15,u3,u4,u5,u6,u7,u8,Abs.W,reduceIte,Nat.reduceEqDiff,Nat.reduceAdd,Nat.reduceSub,q4,q10,q11,q12,ko,hix,gb,hv,kv,kw,Nat.zero_add]
 | false =>
  obtain ⟨is,e1,e2⟩:=sameLayouts_ok n (by omega) (puts hA) (puts hB) (by omega) (by omega)
  refine ⟨is,?_,by rw [e2];simp⟩
  simp (config:={ maxSteps:=3000000 }) (disch:=first|omega|with_unfolding_all exact rfl) only [K7r15,u3,u4,u5,u6,u7,u8,Abs.W,reduceIte,Nat.reduceEqDiff,Nat.reduceAdd,Nat.reduceSub,q4,q10,q11,q12,ko,hix,gb,hv,kv,kw,knF,e1,Nat.zero_add]
end Go.Proofs.Ytoklbkgcclkejaa.walk
set_option maxRecDepth 10000
namespace Go.Proofs.Ytoklbkgcclkejaa.walk
open Go.Abs Go.Proofs.Ytoklbkgcclkejaa.code
noncomputable def vbeFirst:zF:=(zz (.tmp 19) (.con (.func 11 [] [])) [(.tmp 18),(.con (.int Go.IntKind.i64 3)),(.con (.int Go.IntKind.i64 2)),(.con (.int Go.IntKind.i64 2))] (zC (.tmp 3) (jO [(.int Go.IntKind.i64 0),(.int Go.IntKind.i64 0),.nilslice,.nilslice,(.int Go.IntKind.i64 0),(.int Go.IntKind.i64 0),.nilslice,.nilslice] (tag 30)) (zC .none (jC 8 (.tmp 3) (.tmp 19)) zK)))
noncomputable def vbeRest:K:=(zG (zD K7r2 [4,5]) (zG (zD K7r3 [6,7]) (zG (zD K7r4 [8,9]) (zG (zG (zD K7r5 [50]) (zv (.tmp 50) (zG (zD K7r6 [2]) jI) zw)) (zG (zD K7r7 [10]) (zG (zD K7r8 [11]) (zG (zG (zD K7r9 [12]) (zd 0 (jx K7l0))) (zG (zD K7r17 [2]) jI))))))))
theorem vbe_round (n:Nat) (hn:20≤n) (cx:Ctx) {t:St} {no:Nat→Prop} {H:HallR} {i b lo q3:Nat} {vo w vW vS vB vK:AV} {Ms:List (List PutR)} {B:List PutR} {L:Env} (ok:H.Ok) (hH:HallAt no t.h t.n H vW vS vB vK) (g3:t.h.get q3=some (.cells (zo H vW vS vB vK) (tag 30))) (tab:TabP t.h t.n b lo Ms vo) (hW:Sl no t.h t.n 3 (B.map PutR.row) w) (hi:i<Ms.length) (hall:∀ x ∈ Ms,x.length≤24∧H.Good x∧¬ Bt (H.worth x) (H.worth B)∧(H.worth x=H.worth B→¬ First x B)) (hs:t.n+100000≤far) (hMs:Ms.length≤1000)
  (q3':L.find 3=.ptr q3 0) (q4:L.find 4=w) (q8:L.find 8=.int .i64 (H.worth B).1) (q10:L.find 10=vo) (q11:L.find 11=.bool (decide (B ∈ Ms.take i))) (q12:L.find 12=.int .i64 (i:Int)) :
  ∃ L1,K7l0 (awd n) cx L [] t=.done .norm L1 [] t∧L1.find 3=.ptr q3 0∧L1.find 4=w∧L1.find 8=.int .i64 (H.worth B).1∧L1.find 10=vo∧L1.find 11=.bool (decide (B ∈ Ms.take (i+1)))∧L1.find 12=.int .i64 ((i+1:Nat):Int):=by
 have hf:far=1000000000:=rfl
 have knE:∀ args s,awd n (.fn 23) args s=call Try.prog X n (.fn 23) args s:=fun _ _=>rfl
 have knB:∀ args s,awd n (.fn 14) args s=call Try.prog X n (.fn 14) args s:=fun _ _=>rfl
 have ex0:∀ (a b:AV) (s:St),Ja 0 s (.tup [a,b])=.val a s:=fun _ _ _=>rfl
 have ex1:∀ (a b:AV) (s:St),Ja 1 s (.tup [a,b])=.val b s:=fun _ _ _=>rfl
 have okt:∀ (a b:AV) (s:St),okA (.val (.tup [a,b]) s)=.val (.tup [a,b]) s:=fun _ _ _=>rfl
 have okh:∀ t,okA (.val (.agg (zo H vW vS vB vK)) t)=.val (.agg (zo H vW vS vB vK)) t:=fun _=>rfl
 obtain ⟨h24,hg,hbt,hfi⟩:=hall Ms[i] (List.getElem_mem hi)
 obtain ⟨v,p,c,sz,hA,hix,gb,hv⟩:=tab.get hi
 have ko:=tab.okA
 have lo':=tab.len
 have kv:=hA.okA
 have e0:decide ((i:Int)<(Ms.length:Int))=true:=decide_eq_true (by omega)
 have ad:∀ s,jH s .i64 (i:Int) 1=.val (.int .i64 ((i:Int)+1)) s:=fun s=>ze s _ _ (by omega)
 have hA':Sl (fun _=>True) t.h t.n 3 (Ms[i].map PutR.row) v:=hA.move (fun _ _ _=>⟨rfl,trivial⟩) (Nat.le_refl _)
 have hH':HallAt (fun _=>True) t.h t.n H vW vS vB vK:=hH.move (fun _ _ _=>⟨rfl,trivial⟩) (Nat.le_refl _)
 have ee:=earns_ok n (by omega) ok hH' hA' hg.i h24 hg.v (by omega)
 have eb:=vaultBears_ok n (by omega) ok hH' hA' hg.i h24 hg.v (by omega)
 rw [hg.s] at eb
 have hw1:(H.worth B).1=tot (H.rents B) 0:=rfl
 have hlt:¬ (H.worth B).1<tot (H.rents Ms[i]) 0:=fun h=>hbt (.inl h)
 have heq:tot (H.rents Ms[i]) 0=(H.worth B).1→¬ Ms[i].length<B.length:=fun h h2=>hbt (.inr ⟨h,by show (Ms[i].length:Int)<(B.length:Int);omega⟩)
 have hfi':tot (H.rents Ms[i]) 0=(H.worth B).1→Ms[i].length=B.length→¬ First Ms[i] B:=fun h h2=>hfi (Prod.ext h (by show (Ms[i].length:Int)=(B.length:Int);omega))
 have hc:∀ L',L'.find 4=w→L'.find 8=.int .i64 (H.worth B).1→L'.find 10=vo→L'.find 12=.int .i64 (i:Int)→L'.find 13=.int .i64 (tot (H.rents Ms[i]) 0)→L'.find 14=.int .i64 0→L'.find 15=.int .i64 1→L'.find 16=.int .i64 0→regR [124] L' [] (K7r13 (awd n) L' t)=.done .norm (L'.set 124 (.bool false)) [] t:=fun L' a4 a8 a10 a12 a13 a14 a15 a16=>by
  have:=vbe_cond n hn cx hA hW h24 hlt heq hfi' ko hix gb hv (by omega) a4 a8 a10 a12 a13 a14 a15 a16
  rw [gQ] at this
  exact this
 obtain ⟨is,hsm⟩:∃ is:Bool,(is=true↔B ∈ Ms.take (i+1))∧∀ L',L'.find 4=w→L'.find 10=vo→L'.find 11=.bool (decide (B ∈ Ms.take i))→L'.find 12=.int .i64 (i:Int)→regR [11] L' [] (K7r15 (awd n) L' t)=.done .norm (L'.set 11 (.bool is)) [] t:=by
  refine ⟨decide (B ∈ Ms.take (i+1)),decide_eq_true_iff,fun L' a4 a10 a11 a12=>?_⟩
  obtain ⟨is,h1,h2⟩:=vbe_same n hn cx hA hW h24 ko hix gb hv (by omega) a4 a10 a11 a12
  rw [gQ] at h1
  have:is=decide (B ∈ Ms.take (i+1)):=by
   rw [Bool.eq_iff_iff,h2,decide_eq_true_iff,decide_eq_true_iff,jq hi,List.mem_append,List.mem_singleton]
   exact ⟨fun h=>h.imp id Eq.symm,fun h=>h.imp id Eq.symm⟩
  rw [← this];exact h1
 have hts:is=decide (B ∈ Ms.take (i+1)):=by rw [Bool.eq_iff_iff,hsm.1,decide_eq_true_iff]
 have hsm:=hsm.2
 rw [hts] at hsm
 simp (disch:=first|omega|with_unfolding_all exact rfl) only [K7l0,K7r10,K7r11,K7r12,Abs.W,reduceIte,Nat.reduceEqDiff,Nat.reduceAdd,Nat.reduceSub,q3',q4,q8,q10,q11,q12,ko,lo',e0,g3,okh,hix,gb,hv,kv,knE,ee,knB,eb,okt,ex0,ex1,Nat.zero_add]
 rw [hc _ (by simp only [efs,q4,reduceIte,Nat.reduceEqDiff]) (by simp only [efs,q8,reduceIte,Nat.reduceEqDiff]) (by simp only [efs,q10,reduceIte,Nat.reduceEqDiff]) (by simp only [efs,q12,reduceIte,Nat.reduceEqDiff]) (by simp only [efs,reduceIte,Nat.reduceEqDiff]) (by simp only [efs,reduceIte,Nat.reduceEqDiff]) (by simp only [efs,reduceIte,Nat.reduceEqDiff]) (by simp only [efs,reduceIte,Nat.reduceEqDiff])]
 simp (disch:=first|omega|with_unfolding_all exact rfl) only [Abs.W,reduceIte,Nat.reduceEqDiff,Nat.reduceAdd,Nat.reduceSub,Nat.zero_add]
 rw [hsm _ (by simp only [efs,q4,reduceIte,Nat.reduceEqDiff]) (by simp only [efs,q10,reduceIte,Nat.reduceEqDiff]) (by simp only [efs,q11,reduceIte,Nat.reduceEqDiff]) (by simp only [efs,q12,reduceIte,Nat.reduceEqDiff])]
 simp (disch:=first|omega|with_unfolding_all exact rfl) only [K7r16,Abs.W,reduceIte,Nat.reduceEqDiff,Nat.reduceAdd,Nat.reduceSub,q12,ad,Nat.zero_add]
 refine ⟨_,rfl,?_,?_,?_,?_,?_,?_⟩
 ·simp only [efs,q3',reduceIte,Nat.reduceEqDiff]
 ·simp only [efs,q4,reduceIte,Nat.reduceEqDiff]
 ·simp only [efs,q8,reduceIte,Nat.reduceEqDiff]
 ·simp only [efs,q10,reduceIte,Nat.reduceEqDiff]
 ·simp only [efs,reduceIte,Nat.reduceEqDiff]
 ·simp only [efs,reduceIte,Nat.reduceEqDiff];rfl
theorem vbe_body (n:Nat) (hn:40≤n) (cx:Ctx) (s:St) (d:Nat) (hd:Die d s.h) (hdn:d<s.n) (hs:s.n+900000000≤far) (hm:s.m≤far) :
  ∃ M s1 s',vbeFirst (awd n) (.cons 18 (.ptr d 0) .nil) s=.ok M s1∧∀ kl,kl=[3]→jh Try.prog Try.f7 (vbeRest (awd n) cx (wU kl M .nil) [] s1)=.val (.bool true) s':=by
 have hf:far=1000000000:=rfl
 have knH:∀ args s,awd n (.fn 11) args s=call Try.prog X n (.fn 11) args s:=fun _ _=>rfl
 have knT:∀ args s,awd n (.fn 29) args s=call Try.prog X n (.fn 29) args s:=fun _ _=>rfl
 have knE:∀ args s,awd n (.fn 23) args s=call Try.prog X n (.fn 23) args s:=fun _ _=>rfl
 have knB:∀ args s,awd n (.fn 14) args s=call Try.prog X n (.fn 14) args s:=fun _ _=>rfl
 have knL:∀ args s,awd n (.fn 30) args s=call Try.prog X n (.fn 30) args s:=fun _ _=>rfl
 have knA:∀ s,awd n (.fn 19) [] s=.val (.bool true) s:=fun _=>rfl
 have ex0:∀ (a b:AV) (s:St),Ja 0 s (.tup [a,b])=.val a s:=fun _ _ _=>rfl
 have ex1:∀ (a b:AV) (s:St),Ja 1 s (.tup [a,b])=.val b s:=fun _ _ _=>rfl
 have okt:∀ (a b:AV) (s:St),okA (.val (.tup [a,b]) s)=.val (.tup [a,b]) s:=fun _ _ _=>rfl
 have u4:=eq3 K7r5s4.eq_1
 have u5:=eq3 K7r5s5.eq_1
 have u8:=eq3 K7r5s8.eq_1
 have u9:=eq3 K7r5s9.eq_1
 have u12:=eq3 K7r5s12.eq_1
 have u13:=eq3 K7r5s13.eq_1
 have w3:=eq3 K7r17s3.eq_1
 unfold vbeFirst
 simp (disch:=first|omega|with_unfolding_all exact rfl) only [Abs.W,reduceIte,Nat.reduceEqDiff,Nat.reduceAdd,Nat.reduceSub,knH]
 generalize hc1:call _ _ _ (.fn 11) _ _=r1
 obtain ⟨H,vW,vS,vB,vK,t1,rfl,st1,d1,ok,hH,hW3,hD2,hK2⟩:=hallOf_ex (W:=3) (D:=2) (K:=2) hc1 (by omega) hd hdn (by omega) (by omega) (by omega) (by omega)
 have n1:=st1.n
 have k1:=st1.le
 have m1l:=st1.mle
 have scB:=hH.scal
 have okh:∀ t,okA (.val (.agg (zo H vW vS vB vK)) t)=.val (.agg (zo H vW vS vB vK)) t:=fun _=>rfl
 obtain ⟨y,hy⟩:∃ y:St,y=(t1.new (.cells [.int .i64 0,.int .i64 0,.nilslice,.nilslice,.int .i64 0,.int .i64 0,.nilslice,.nilslice] (tag 30))).put t1.n (.cells (zo H vW vS vB vK) (tag 30)):=⟨_,rfl⟩
 have sty:jX 8 (t1.new (.cells [.int .i64 0,.int .i64 0,.nilslice,.nilslice,.int .i64 0,.int .i64 0,.nilslice,.nilslice] (tag 30))) (.agg (zo H vW vS vB vK)) (.ptr t1.n 0)=.val .undef y:=by
  rw [hy];exact jr _ 8 _ _ _ _ (zL _ _ _ rfl (by omega)) rfl rfl scB
 have yn:y.n=t1.n+1:=by rw [hy];rfl
 have ym:y.m=min t1.m t1.n:=by rw [hy];simp only [St.put,zU,zN]
 have yg:∀ c,c<t1.n→y.h.get c=t1.h.get c:=fun c hc=>by rw [hy,zM _ _ _ _ (by omega),zH _ _ _ (by omega)]
 have y3:y.h.get t1.n=some (.cells (zo H vW vS vB vK) (tag 30)):=by rw [hy];exact zT _ _ _ _ rfl (by omega)
 have hHy:HallAt (fun _=>True) y.h y.n H vW vS vB vK:=hH.move (fun c h1 h2=>⟨yg c h1,trivial⟩) (by omega)
 clear hy
 simp (disch:=first|omega|with_unfolding_all exact rfl) only [sty,Abs.W,reduceIte,Nat.reduceEqDiff,Nat.reduceAdd,Nat.reduceSub,Nat.zero_add]
 suffices main:∃ s',jh Try.prog Try.f7 (vbeRest (awd n) cx (Env.set 3 (.ptr t1.n 0) .nil) [] y)=.val (.bool true) s' by
  obtain ⟨s',HH⟩:=main
  exact ⟨_,y,s',rfl,fun kl hkl=>by subst hkl;exact HH⟩
 have hpl:H.placesI.length≤6:=by
  rw [yz,yf]
  have h1:H.deep * H.wide≤2 * H.wide:=Nat.mul_le_mul_right _ hD2
  omega
 have hol:H.opens.length≤6:=by
  have:=List.length_filter_le (fun c=>!decide (c ∈ H.shut)) H.placesI
  show (H.placesI.filter _).length≤6
  omega
 obtain ⟨b1,b2,b3,b4⟩:=best_is ok
 have hb24:H.best.2.length≤24:=by
  have:=lays_len _ _ _ b3
  rw [List.length_nil] at this
  omega
 unfold vbeRest
 simp (disch:=first|omega|with_unfolding_all exact rfl) only [K7r2,Abs.W,reduceIte,Nat.reduceEqDiff,Nat.reduceAdd,Nat.reduceSub,y3,okh,knT,Nat.zero_add]
 generalize hc2:call _ _ _ (.fn 29) _ _=r2
 obtain ⟨w,t2,rfl,st2,hM⟩:=best_ex hc2 (by omega) ok hHy hol hK2 (by omega)
 have n2:=st2.n
 have k2:=st2.le
 have m2:=st2.m
 have hWs:=hM.sl
 have kw:=hWs.okA
 have t23:=(st2.same t1.n (by omega)).trans y3
 have hH2:HallAt (fun x=>x<t2.n) t2.h t2.n H vW vS vB vK:=hHy.move (fun c h1 _=>⟨st2.same c h1,by omega⟩) n2
 have hH2':HallAt (fun _=>True) t2.h t2.n H vW vS vB vK:=hHy.move (fun c h1 _=>⟨st2.same c h1,trivial⟩) n2
 have hW2:Sl (fun _=>True) t2.h t2.n 3 (H.best.2.map PutR.row) w:=hWs.move (fun _ _ _=>⟨rfl,trivial⟩) (Nat.le_refl _)
 have eb:=vaultBears_ok n (by omega) ok hH2' hW2 b2.i hb24 b2.v (by omega)
 rw [b2.s] at eb
 have ee:=earns_ok n (by omega) ok hH2' hW2 b2.i hb24 b2.v (by omega)
 have z0:decide ((0:Int)=0)=true:=rfl
 have z1:decide ((1:Int)=1)=true:=rfl
 simp (config:={ maxSteps:=3000000 }) (disch:=first|omega|with_unfolding_all exact rfl) only [K7r3,K7r4,K7r5,u4,u5,u8,u9,u12,u13,Abs.W,reduceIte,Nat.reduceEqDiff,Nat.reduceAdd,Nat.reduceSub,okt,okh,ex0,ex1,kw,t23,knB,eb,knE,ee,z0,z1,Nat.zero_add]
 have hlS':layS H.placesI.length≤110000:=by
  have h:H.placesI.length=0∨H.placesI.length=1∨H.placesI.length=2∨H.placesI.length=3∨H.placesI.length=4∨H.placesI.length=5∨H.placesI.length=6:=by omega
  rcases h with h | h | h | h | h | h | h<;>rw [h]<;>decide
 have h3S:3 ^ H.placesI.length≤729:=Nat.le_trans (Nat.pow_le_pow_right (by decide) hpl) (by decide)
 obtain ⟨vl,t3,bl,e3,T3,p1,p2,p3,p4,p5,p6⟩:=lays_ok ok hpl hK2 H.placesI.length n (by omega) (s:=t2) (lo:=t2.n) (b:=far+1) (i:=0) (l:=[]) (v:=.nilslice) (vo:=.nilslice) (M:=[]) (Nat.zero_add _) hH2 (Sl.nil _ _ _ _) (good_nil ok) (Nat.le_refl _) (.inl ⟨rfl,rfl,by omega⟩) (Nat.le_refl _) (by simp only [List.length_nil];omega) (by omega) (by omega)
 rw [List.drop_zero,List.nil_append] at T3
 have e3':call Try.prog X n (.fn 30) [.agg (zo H vW vS vB vK),.nilslice,.int .i64 0,.nilslice] t2=.val vl t3:=e3
 have kl:=T3.okA
 simp (disch:=first|omega|with_unfolding_all exact rfl) only [K7r7,K7r8,K7r9,Abs.W,reduceIte,Nat.reduceEqDiff,Nat.reduceAdd,Nat.reduceSub,okh,t23,knL,e3',kl,Nat.zero_add]
 have t33:=(p4 t1.n (by omega) (by omega)).trans t23
 have hH3:HallAt (fun _=>True) t3.h t3.n H vW vS vB vK:=hH2'.move (fun c h1 _=>⟨p4 c h1 (by omega),trivial⟩) p2
 have hW3':Sl (fun _=>True) t3.h t3.n 3 (H.best.2.map PutR.row) w:=hW2.move (fun c h1 _=>⟨p4 c h1 (by omega),trivial⟩) p2
 have hlen:(H.lays H.placesI []).length≤1000:=by
  have:=(lays_few hK2 H.placesI []).1
  omega
 have hallg:∀ x ∈ H.lays H.placesI [],x.length≤24∧H.Good x∧¬ Bt (H.worth x) (H.worth H.best.2)∧(H.worth x=H.worth H.best.2→¬ First x H.best.2):=fun x hx=>⟨by
  have:=lays_len _ _ _ hx
  rw [List.length_nil] at this
  omega,b4 x hx⟩
 obtain ⟨Ms,hMs⟩:∃ Ms,Ms=H.lays H.placesI []:=⟨_,rfl⟩
 rw [← hMs] at T3 hlen hallg b3
 have lM:=T3.len
 generalize hlp:jL _ rounds _ _ _ _ _=rl
 obtain ⟨e,L1,t4,rfl,rfl,j11⟩:=jT hlp (fun i L t=>t=t3∧L.find 3=.ptr t1.n 0∧L.find 4=w∧L.find 8=.int .i64 (H.worth H.best.2).1∧L.find 10=vl∧L.find 11=.bool (decide (H.best.2 ∈ Ms.take i))∧L.find 12=.int .i64 (i:Int))
  (fun e L t=>e=.exit 0∧L.find 11=.bool true) Ms.length (by unfold rounds;omega)
  ⟨rfl,(by simp only [zI,efs,reduceIte,Nat.reduceEqDiff]),(by simp only [zI,efs,reduceIte,Nat.reduceEqDiff]),(by simp only [zI,efs,reduceIte,Nat.reduceEqDiff];rfl),(by simp only [zI,efs,reduceIte,Nat.reduceEqDiff]),(by simp only [zI,efs,reduceIte,Nat.reduceEqDiff];rfl),(by simp only [zI,efs,reduceIte,Nat.reduceEqDiff];rfl)⟩
  (fun i L t hi ⟨ht,q3,q4,q8,q10,q11,q12⟩=>by
   subst ht
   by_cases hlt:i<Ms.length
   ·obtain ⟨L2,r1,r2,r3,r4,r5,r6,r7⟩:=vbe_round n (by omega) _ ok hH3 t33 T3 hW3' hlt hallg (by omega) hlen q3 q4 q8 q10 q11 q12
    exact .inl ⟨hlt,L2,_,r1,rfl,r2,r3,r4,r5,r6,r7⟩
   ·obtain rfl:i=Ms.length:=by omega
    have e0:decide ((Ms.length:Int)<(Ms.length:Int))=false:=decide_eq_false (by omega)
    rw [List.take_length] at q11
    refine .inr ⟨.exit 0,L.set 56 (.bool false),t,by simp,?_,rfl,?_⟩
    ·simp (disch:=first|omega|with_unfolding_all exact rfl) only [K7l0,K7r10,Abs.W,reduceIte,Nat.reduceEqDiff,Nat.reduceAdd,Nat.reduceSub,q10,q12,kl,lM,e0,Nat.zero_add]
    ·simp only [efs,q11,reduceIte,Nat.reduceEqDiff]
     rw [decide_eq_true b3])
 simp (disch:=first|omega|with_unfolding_all exact rfl) only [K7r17,w3,res7,Abs.W,reduceIte,Nat.reduceEqDiff,Nat.reduceAdd,Nat.reduceSub,j11,knA]
 exact ⟨_,rfl⟩
end Go.Proofs.Ytoklbkgcclkejaa.walk
namespace Go.Proofs.Ytoklbkgcclkejaa.mdie
open Go.RowKit
def Die (b:Nat) (w:World):Prop:=∃ s,w.heap[b]? = some (.cells #[.int .u64 s] 74 (0,0))
theorem Die.old {b:Nat} {w:World} (h:Die b w):(∃ s,w.cell? ⟨b,0,none⟩=some (.int .u64 s))∧w.frozen? ⟨b,0,none⟩=false:=by
 obtain ⟨s,hs⟩:=h
 refine ⟨⟨s,?_⟩,?_⟩
 ·unfold World.cell?;simp [hs]
 ·unfold World.frozen?;simp [hs]
structure Stir (b:Nat) (w w':World):Prop where
 below:Below b w w'
 rest:∀ p:Addr,p.block≠b→p.block<w.heap.size→w'.cell? p=w.cell? p∧w'.frozen? p=w.frozen? p
 die:Die b w'
def Gives (b:Nat) (k:IntKind) (Q:Int→Prop) (w:World) (e:Ending) (w':World):Prop:=∃ r,Q r∧e=.returned (.int k r)∧Stir b w w'
theorem bits_nonneg (op:BinOp) (x y:Int):0≤bits op .u64 x y:=by
 have:=bounds_u64 (wf_bits (k:=.u64) (op:=op) (x:=x) (y:=y))
 exact this.1
theorem Stir.set {b:Nat} {w:World} (h:Die b w) (s:Int):Stir b w (w.setCell ⟨b,0,none⟩ (.int .u64 s)):=by
 obtain ⟨t,ht⟩:=h
 refine ⟨(Below.refl b w).setCell (p:=⟨b,0,none⟩) (Nat.le_refl b) _,fun p hp _=>⟨World.cell?_of_block (Below.heap_setCell _ _ _ _ hp),World.frozen?_of_block (Below.heap_setCell _ _ _ _ hp)⟩,⟨s,?_⟩⟩
 unfold World.setCell
 simp [Array.getElem?_modify,ht]
theorem roll (b:Nat) (w:World) (h:Die b w):Calls Try.prog 39 #[.pointer (some ⟨b,0,none⟩)] w (Gives b .u64 (fun r=>0≤r) w):=by
 have h':=Lib.hid h
 obtain ⟨⟨s,hs⟩,hf⟩:=h.old
 clear h
 go_enter Try.func39,Try.ntmps39
 go_wp2
 go_ret
 exact ⟨_,bits_nonneg _ _ _,rfl,Stir.set h'.out _⟩
theorem Stir.refl {b:Nat} {w:World} (h:Die b w):Stir b w w:=⟨Below.refl _ _,fun _ _ _=>⟨rfl,rfl⟩,h⟩
theorem Stir.trans {b:Nat} {u v w:World} (h:Stir b u v) (k:Stir b v w):Stir b u w :=
 ⟨h.below.trans k.below,fun p hp hb=>⟨(k.rest p hp (Nat.lt_of_lt_of_le hb h.below.size)).1.trans (h.rest p hp hb).1,(k.rest p hp (Nat.lt_of_lt_of_le hb h.below.size)).2.trans (h.rest p hp hb).2⟩,k.die⟩
theorem Die.lt {b:Nat} {w:World} (h:Die b w):b<w.heap.size:=by obtain ⟨⟨s,hs⟩,_⟩:=h.old;exact World.block_lt_of_cell? w _ hs
theorem Stir.drew {b:Nat} {w w':World} (h:Stir b w w'):Stir b w w'.drew:=h.trans ⟨⟨rfl,rfl,rfl,Nat.le_refl _,fun _ _=>rfl⟩,fun _ _ _=>⟨rfl,rfl⟩,h.die⟩
def Born (w:World) (e:Ending) (w':World):Prop:=e=.returned (.pointer (some ⟨w.heap.size,0,none⟩))∧Below w.heap.size w w'∧Die w.heap.size w'∧w.heap.size<w'.heap.size
theorem Die.born (w:World) (s:Int):Die w.heap.size (w.alloc (.cells #[.int .u64 s] 74)):=⟨s,by show (w.heap.push _)[w.heap.size]? = _;rw [Array.getElem?_push,if_pos rfl]⟩
set_option maxRecDepth 100000 in
theorem born (x:Option Addr) (n c:Nat) (w:World) (hn:n≤maxLen) (hc:∀ i,i<n→∃ b o,x=some ⟨b,o,none⟩∧∃ v,w.cell? ⟨b,o+i,none⟩=some (.int .i64 v)) :
  Calls Try.prog 10 #[.slice x n c] w (Born w):=by
 unfold maxLen at hn
 have HC:=Lib.hid hc
 clear hc
 have hdie:=Lib.hid (Die.born w 2611923443488327891)
 go_enter Try.func10,Try.ntmps10
 go_wp2
 go_loopw [4] (fun i wr=>∃ k:Nat,k≤n∧i=.int .i64 k∧Stir w.heap.size (w.alloc (.cells #[.int .u64 2611923443488327891] 74)) wr) (fun i _=>n - (intOf i).toNat)
 case atStart=>exact ⟨0,Nat.zero_le _,rfl,Stir.refl hdie.out⟩
 case round =>
  obtain ⟨k,hk,rfl,hs⟩:=hrel
  by_cases hlt:k<n
  ·obtain ⟨b,o,rfl,v,hv⟩:=HC.out k hlt
   have hb:=World.block_lt_of_cell? _ _ hv
   simp only at hb
   have hv1:wr.cell? ⟨b,o+k,none⟩=some (.int .i64 v):=((hs.rest ⟨b,o+k,none⟩ (Nat.ne_of_lt hb) (by simp;omega)).1.trans (World.cell?_of_block (Below.heap_alloc _ _ _ hb))).trans hv
   clear hv
   obtain ⟨⟨s,hd⟩,hf⟩:=hs.die.old
   have hst:=Lib.hid (fun s1:Int=>(hs.drew).trans (Stir.set hs.drew.die s1))
   have hlt':(k:Int)<(n:Int):=by omega
   have hk0:(0:Int)≤(k:Int):=by omega
   go_wp2
   go_still_tail 12,(by kernel_rfl)
   change wpList _ _ _ _ _ wr.drew
   go_wp2_with (go_at_call 39;refine (roll _ _ ?_).mono ?_;exact (hst.out _).die;rintro e w1 ⟨r,hr,rfl,hs1⟩;(have hs2:=(hst.out _).trans hs1))
   go_roundw
   case rel=>exact ⟨k+1,by omega,by go_num,hs2⟩
   case measure=>simp [intOf];omega
  ·go_wp2
   go_ret
   exact ⟨rfl,((Below.refl w.heap.size w).alloc (Nat.le_refl _) _).trans hs.below,hs.die,by have:=hs.below.size;simp at this;omega⟩
end Go.Proofs.Ytoklbkgcclkejaa.mdie
namespace Go.Abs
open Go.RowKit
variable {P:Program}
end Go.Abs
set_option maxRecDepth 10000
namespace Go.Proofs.Ytoklbkgcclkejaa.walk
open Go.Abs Go.RowKit Go.Proofs.Ytoklbkgcclkejaa.code
noncomputable def die0 (F:Int):St:=St.new ⟨.nil,0,far⟩ (.cells [.int .u64 F] (tag 74))
def rho0 (d:Nat):Rho:=fun b=>if b=0 then some (d,(0,0)) else none
theorem die0_get {F:Int} {b:Nat} {o:AObj} (h:(die0 F).h.get b=some o):b=0∧o=.cells [.int .u64 F] (tag 74):=by
 by_cases e:b=0
 ·subst e
  have:(die0 F).h.get 0=some (.cells [.int .u64 F] (tag 74)):=zL _ _ _ rfl (by decide)
  rw [this] at h
  exact ⟨rfl,(Option.some.inj h).symm⟩
 ·unfold die0 at h
  rw [zH _ _ _ e] at h
  cases h
theorem Jn {F:Int} {b x:Nat} {o:AObj} (h:Has (die0 F).h b x o):b=0∧x=0∧o=.cells [.int .u64 F] (tag 74):=by
 obtain ⟨y,hy,hp⟩:=h
 obtain ⟨rfl,rfl⟩:=die0_get hy
 have hl:AObj.lone (.cells [.int .u64 F] (tag 74)):=trivial
 rw [vR hl] at hp
 have:=List.mem_singleton.mp hp
 cases this
 exact ⟨rfl,rfl,rfl⟩
theorem die0_rel {F:Int} {d:Nat} {W:World} (h:W.heap[d]? = some (.cells #[.int .u64 F] 74 (0,0))):SRel (rho0 d) (die0 F) W:=by
 refine ⟨⟨fun b o hb=>?_,fun b x o hb=>?_,fun b b' x x' o o' c e e' hb hb' _ _=>?_,fun g cs hg=>(by cases hg),fun b x o c e hb hr=>rfl,fun b x x' o o' c e e' hb hb' hr hr'=>?_⟩,fun b hb=>?_⟩
 ·rw [(die0_get hb).1];decide
 ·obtain ⟨rfl,rfl,rfl⟩:=Jn hb
  exact ⟨d,(0,0),_,if_pos rfl,h,.cells rfl (.cons (.int _ _) .nil) (Typed.tag _)⟩
 ·rw [(Jn hb).1,(Jn hb').1]
 ·obtain ⟨_,rfl,_⟩:=Jn hb
  obtain ⟨_,rfl,_⟩:=Jn hb'
  rw [hr] at hr'
  cases hr'
  rfl
 ·have:1≤b:=hb
  exact if_neg (by omega)
end Go.Proofs.Ytoklbkgcclkejaa.walk
namespace Go.Abs
open Go.RowKit
variable {P:Program}
theorem range_two (n:Nat):List.range' 0 (n+2)=0::1::List.range' 2 n:=rfl
theorem mid2_calls {cl:zS} (hc:CallSound P cl) {f:FuncId} {fn:Func} (hf:P.funcs[f]? = some fn) {c0 rest:Code} {id:Nat} {ops:Array Oper} (hb:fn.body=some (.seq c0 (.seq (.region id ops false) rest))) {X:FuncId→List Nat} {k:K} {fo:zF} {o0 o1:Oper} {suf:List Oper} {A:Array Value} {W:World} {R:Ending→World→Prop}
  (hops:ops.toList=o0::o1::suf) (g0:o0.guard=none) (g1:o1.guard=none) (hd0:∀ c,o0.op≠.defer c) (hd1:∀ c,o1.op≠.defer c) (hfo:opsK P fn.ntmps ops suf=some fo) (hk:jY P (X f) fn.ntmps rest=some k)
  (h:c0.wp P (Exit.then (fun a w=>∃ V0 g B,(execOp a.eval o0).run P w=.ok (.value V0) w∧(execOp (a.put o0.dst V0).eval o1).run P w=.ok (.enter g B) w∧Calls P g B w fun e w2=>∃ V1,e=.returned V1∧∃ ρ L0 L2 s M s1 v s',ActRel ρ fn.ntmps L2 [] ((a.put o0.dst V0).put o1.dst V1)∧Clean (X f) L0∧(∀ t,(∀ o ∈ ops.toList,o.dst≠some t)→L2.find t=L0.find t)∧SRel ρ s w2∧fo cl L2 s=.ok M s1 ∧
    jh P fn (k cl ⟨f,none,fn.ntmps,X f⟩ (wU (gY (X f) ops.toList) M L0) [] s1)=.val v s'∧∀ ρ' V W',After ρ s w2 ρ' s' W'→VRel ρ' v V→R (.returned V) W') fun _ _ _=>False)
   { tmps:=A++Array.replicate (fn.ntmps - A.size) undef,defers:=[] } W):Calls P f A W R:=by
 intro cs
 obtain ⟨b,hbd⟩:∃ b:Frame,b={ (default:Frame) with fn:=f,kind:=.normal }:=⟨_,rfl⟩
 have hr:b.roundOf=none:=by rw [hbd];rfl
 have henter:Frame.enter P f A .normal=b.at { tmps:=A++Array.replicate (fn.ntmps - A.size) undef,defers:=[] } [.code (.seq c0 (.seq (.region id ops false) rest))]:=by
  rw [hbd];simp [Frame.enter,Frame.at,hf,hb]
 have ho0:ops[0]? = some o0:=by rw [← Array.getElem?_toList,hops];rfl
 have ho1:ops[1]? = some o1:=by rw [← Array.getElem?_toList,hops];rfl
 have hsz:ops.size=suf.length+2:=by rw [← Array.length_toList,hops];rfl
 obtain ⟨e0,a0,w0,q0,ar0⟩:=h b [.code (.seq (.region id ops false) rest)] cs
 cases e0<;>simp only [Exit.then] at q0
 obtain ⟨V0,g,B,r0,r1,hcall⟩:=q0
 have st1:Steps P (lone (Frame.enter P f A .normal) cs W) (lone (b.atR a0 (.inRegion ops (0::1::List.range' 2 suf.length)::[.code rest])) cs w0):=by
  rw [henter]
  refine (Steps.head step_seq ar0).trans ?_
  rw [← Frame.atR_of_none hr]
  refine Steps.head stepR_seq ?_
  have:=Steps.one (stepR_region (P:=P) (b:=b) (a:=a0) (k:=[.code rest]) (cs:=cs) (w:=w0) (ops:=ops) (id:=id))
  rw [List.range_eq_range',hsz,range_two] at this
  exact this
 have st2:Steps P (lone (b.atR a0 (.inRegion ops (0::1::List.range' 2 suf.length)::[.code rest])) cs w0) (lone (b.atR (a0.put o0.dst V0) (.inRegion ops (1::List.range' 2 suf.length)::[.code rest])) cs w0) :=
  .one (stepR_value ho0 (JA g0) hd0 r0)
 have st3:Steps P (lone (b.atR (a0.put o0.dst V0) (.inRegion ops (1::List.range' 2 suf.length)::[.code rest])) cs w0) (lone (Frame.enter P g B .normal) (b.atR (a0.put o0.dst V0) (.inRegion ops (1::List.range' 2 suf.length)::[.code rest])::cs) w0) :=
  .one (stepR_enter ho1 (JA g1) hd1 r1)
 obtain ⟨e1,w2,fr,⟨V1,rfl,ρ,L0,L2,s,M,s1,v,s',hact,hclean,hL,hs,hfoM,hfin,hR⟩,hcomes,_,hleave⟩:=hcall (b.atR (a0.put o0.dst V0) (.inRegion ops (1::List.range' 2 suf.length)::[.code rest])::cs)
 have st4:Steps P (lone fr (b.atR (a0.put o0.dst V0) (.inRegion ops (1::List.range' 2 suf.length)::[.code rest])::cs) w2) (lone (b.atR ((a0.put o0.dst V0).put o1.dst V1) (.inRegion ops (List.range' 2 suf.length)::[.code rest])) cs w2):=by
  have hfi:=Frame.finish_atR b (a0.put o0.dst V0) ops 1 (List.range' 2 suf.length) [.code rest] V1
  simp only [ho1,Option.bind_some] at hfi
  rw [← hfi]
  exact .one (step_leave_returned hleave)
 obtain ⟨ρ',W',a',af,ha',hq,st5⟩:=ops_sound hc (suf:=suf) (i:=2) (by rw [hops];rfl) hfo hact hs hfoM
 obtain ⟨h1,h2⟩:=keep_rel (xs:=X f) (ops:=ops.toList) (L:=L0) ha' (fun t ht=>(hq t fun o ho=>ht o (by rw [hops];exact List.mem_cons_of_mem _ (List.mem_cons_of_mem _ ho))).trans (hL t ht)) hclean
 have stA:Steps P (lone (Frame.enter P f A .normal) cs W) (lone (b.atR a' [.code rest]) cs W') :=
  st1.trans (st2.trans (st3.trans (Steps.trans hcomes (st4.trans ((st5 b [.code rest] cs).trans (.one stepR_region_end))))))
 have hctx:CtxRel ρ' ⟨f,none,fn.ntmps,X f⟩ b:=⟨by rw [hbd],by rw [hbd],fun _=>hr,fun l e=>by cases e⟩
 generalize hr2:k cl ⟨f,none,fn.ntmps,X f⟩ (wU (gY (X f) ops.toList) M L0) [] s1=r at hfin
 cases r with
 | fail=>cases hfin
 | done e L1 d s₁ =>
  obtain ⟨ρ₁,a₁,W₁,af₁,ha₁,_,_,st⟩:=yJ rest hk hc rfl rfl hctx h1 h2 af.rel hr2
  have fin:∀ (hle:yE P fn.results.toList L1 d s₁=.val v s') (hst:∃ t,Steps P (lone (Frame.enter P f A .normal) cs W) (lone (back b a₁ t) cs W₁)),
    ∃ V w' fr,R (.returned V) w'∧Steps P (lone (Frame.enter P f A .normal) cs W) (lone fr cs w')∧fr.fn=f∧fr.leaving P w' (.returned V):=by
   intro hle hst
   obtain ⟨V,W₂,af₂,hv,st₂⟩:=leaveA_calls ha₁ af₁.rel hle
   obtain ⟨t,st₁⟩:=hst
   obtain ⟨fr,h1,h2,h3⟩:=st₂ b (by rw [hbd]) (by rw [hbd];exact hf) t cs
   exact ⟨V,W₂,fr,hR _ _ _ (af.trans (af₁.trans af₂)) hv,Steps.trans st₁ h1,by rw [h2,hbd],h3⟩
  cases e with
  | exit id=>cases hfin
  | norm =>
   have z:=st [] cs
   obtain ⟨V,w',fr,h1,h2,h3,h4⟩:=fin hfin ⟨[],stA.trans (Steps.trans z (.one (stepR_end hr)))⟩
   exact ⟨.returned V,w',fr,h1,h2,h3,h4⟩
  | ret =>
   obtain ⟨k0,z⟩:=st [] cs
   obtain ⟨V,w',fr,h1,h2,h3,h4⟩:=fin hfin ⟨.code .ret::k0,stA.trans (z.trans (.one (stepR_ret hr)))⟩
   exact ⟨.returned V,w',fr,h1,h2,h3,h4⟩
end Go.Abs
set_option maxRecDepth 10000
namespace Go.Proofs.Ytoklbkgcclkejaa.walk
open Go.Abs Go.RowKit Go.Proofs.Ytoklbkgcclkejaa.code
set_option maxRecDepth 100000 in
theorem vbe_calls (a:Option Addr) (n c:Nat) (w:World) (hn:n≤maxLen) (hc:∀ i,i<n→∃ b o,a=some ⟨b,o,none⟩∧∃ v,w.cell? ⟨b,o+i,none⟩=some (.int .i64 v)) :
  Calls Try.prog 7 #[.slice a n c] w fun e w'=>e=.returned (.bool true)∧Below w.heap.size w w':=by
 have HC:=Lib.hid hc
 clear hc
 refine mid2_calls (cl:=knows 19 (call Try.prog X 40)) (knows_sound (YY 200) Try.func19 awake.entered (YY 40)) Try.func7 rfl (X:=X) (k:=vbeRest) (fo:=vbeFirst) rfl rfl rfl (fun c h=>by cases h) (fun c h=>by cases h) (by kernel_rfl) (by kernel_rfl) ?_
 simp only [Try.ntmps7,List.size_toArray,List.length_cons,List.length_nil,Nat.reduceAdd,Nat.reduceSub,Array.replicate_succ,Array.replicate_zero,List.push_toArray,List.append_toArray,List.nil_append,List.cons_append]
 go_wp2
 refine ⟨.slice a n c,10,#[.slice a n c],rfl,by kernel_rfl,(mdie.born _ _ _ _ hn HC.out).mono ?_⟩
 rintro e w1 ⟨rfl,hB1,⟨F,hF⟩,hg1⟩
 have hd0:walk.Die 0 (die0 F).h:=⟨F,zL _ _ _ rfl (by decide)⟩
 obtain ⟨M,s1,s',hM,hs'⟩:=vbe_body 40 (by omega) ⟨7,none,Try.f7.ntmps,X 7⟩ (die0 F) 0 hd0 (by show 0<1;omega) (by show 1+900000000≤1000000000;omega) (Nat.le_refl _)
 refine ⟨_,rfl,rho0 w.heap.size,.nil,.cons 18 (.ptr 0 0) .nil,die0 F,M,s1,.bool true,s',⟨fun t=>?_,rfl,.nil⟩,fun t _=>rfl,fun t ht=>?_,die0_rel hF,hM,hs' _ (by kernel_rfl),fun ρ' V W' af hv=>?_⟩
 ·by_cases e:t=18
  ·subst e
   exact .ptr (e:=(0,0)) (if_pos rfl)
  ·rw [show (Env.cons 18 (.ptr 0 0) .nil).find t=AV.bad by rw [zI,if_neg (by omega)];rfl]
   exact .bad _
 ·by_cases e:t=18
  ·subst e
   exact absurd rfl (ht _ (List.mem_cons_of_mem _ (List.mem_cons_self ..)))
  ·rw [zI,if_neg (fun h=>by first | exact e h | exact e h.symm)]
 ·cases hv
  refine ⟨rfl,hB1.trans ⟨af.os,af.tape,af.output,af.size,fun k hk=>af.frame k (by omega) fun b x o e hb hr=>?_⟩⟩
  obtain ⟨_,rfl,_⟩:=Jn hb
  have hr:some (w.heap.size,(0,0))=some (k,e):=hr
  injection hr with hr
  injection hr with hr _
  omega
end Go.Proofs.Ytoklbkgcclkejaa.walk
