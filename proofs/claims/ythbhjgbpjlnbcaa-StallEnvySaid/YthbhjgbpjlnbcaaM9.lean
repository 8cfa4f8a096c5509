/- Who envies what: Envies of any valid holders. -/
import Derived.Test.YthbhjgbpjlnbcaaM8
import Derived.Test.YthbhjgbpjlnbcaaM5
import Derived.Test.YthbhjgbpjlnbcaaM4
import Derived.Test.YthbhjgbpjlnbcaaM6
import Derived.Test.YthbhjgbpjlnbcaaM7
import Derived.Test.YthbhjgbpjlnbcaaCodes
import Derived.Test.YthbhjgbpjlnbcaaM2
import Derived.Test.YthbhjgbpjlnbcaaWalkAll
set_option maxHeartbeats 16000000
set_option linter.unusedVariables false
set_option maxRecDepth 10000
namespace Go.Proofs.Ythbhjgbpjlnbcaa.walk
open Go.Abs Go.Proofs.Ythbhjgbpjlnbcaa.code
theorem envies_ex {N:Nat} {no na nh:Nat→Prop} {l:Letting} {vS vA vH:AV} {hs:List Int} {s:St} {r:ARes} (hr:call Try.prog X N (.fn 20) [.agg (letV vS vA),vH] s=r) (hN:16≤N) (ok:l.Ok) (V:ValidH l hs) (hL:LetAt no na s.h s.n l vS vA) (hH:Sl nh s.h s.n 1 (intRows hs) vH) (hs':s.n+4000000≤far) :
  ∃ v8 b8 t,r=.val (.tup [v8,.int .i64 0]) t∧New s t 300000∧IsAt t.h t.n b8 2 (tag 59) ((envP l hs l.appls.length).map pairRow) v8∧s.n≤b8:=by
 have hl:=V.len
 obtain ⟨M,rfl⟩:∃ M,N=M+5:=⟨N - 5,by omega⟩
 have hf:far=1000000000:=rfl
 obtain ⟨v,t,e,st,v8,b8,rfl,hq⟩:=call_new' (n:=M+4) (args:=[.agg (letV vS vA),vH]) (s:=s) (k:=300000) (Q:=fun v h n=>∃ v8 b8,v=.tup [v8,.int .i64 0]∧IsAt h n b8 2 (tag 59) ((envP l hs l.appls.length).map pairRow) v8∧s.n≤b8) Try.func20 rfl (fun u uh un um=>by
  rw [← uh,← un] at hL hH
  rw [← uh,← un]
  have k0:=ok.k0
  have k1:=ok.k1
  have m1:=ok.m1
  have kA:=hL.okV
  have kS:=hL.okS
  have lS:=hL.lenS
  have z0:decide ((0:Int)=0)=true:=rfl
  have hvH:∃ b o cap e,vH=.slice b o (intRows hs).length cap e:=by
   rcases hH.is with ⟨z,_⟩ | ⟨b,o,cap,e,c,sz,_,_,_,z,_⟩
   ·have:=intRows_len hs
    rw [z] at this;simp at this;omega
   ·exact ⟨b,o,cap,e,z⟩
  obtain ⟨bb,oo,cc,ee,hvH⟩:=hvH
  have bx:∀ s,boxA (tag 22) s vH=.val (.ptr s.n 0) (s.new (.cells [vH] (tag 22))):=fun s=>by rw [hvH];rfl
  obtain ⟨w0,hw0⟩:∃ w:St,w=(u.new (.cells [vS,vA] (tag 28))).new (.cells [vH] (tag 22)):=⟨_,rfl⟩
  have w0n:w0.n=u.n+2:=by rw [hw0];rfl
  have w0m:w0.m=far:=by rw [hw0];exact um
  have w0g:∀ c,c<u.n→w0.h.get c=u.h.get c:=fun c hc=>by rw [hw0,get_new_ne _ _ _ (by rw [new_n];omega),get_new_ne _ _ _ (by omega)]
  have w00:w0.h.get u.n=some (.cells [vS,vA] (tag 28)):=by rw [hw0,get_new_ne _ _ _ (by rw [new_n];omega)];exact get_new_eq _ _ _ rfl (by omega)
  have w01:w0.h.get (u.n+1)=some (.cells [vH] (tag 22)):=by rw [hw0];exact get_new_eq _ _ _ rfl (by rw [new_n];omega)
  have hM:=hL.grow w0g (by omega:u.n≤w0.n)
  have hHM:=hH.grow w0g (by omega:u.n≤w0.n)
  have kH:=hHM.okA
  have c1:=checkHolders_ok (M+4) (by omega) ok V hM hHM (by omega)
  rw [enter20]
  simp (disch:=first|omega|(with_unfolding_all exact rfl)|(simp only[new_n,put_n,new_m];omega)|(refine put_m_le ?_;simp only[new_m];omega)) only [K20,K20r0,Abs.W,reduceIte,Nat.reduceEqDiff,Nat.reduceAdd,bx,new_n]
  rw [← hw0]
  simp (disch:=first|omega|(with_unfolding_all exact rfl)|(simp only[new_n,put_n,new_m];omega)|(refine put_m_le ?_;simp only[new_m];omega)) only [K20r1,K20r2,K20r4,Abs.W,reduceIte,Nat.reduceEqDiff,decide_true,Nat.reduceSub,w00,w01,c1,kH]
  generalize hc:call _ _ _ (.fn 39) _ _=rc
  obtain ⟨vr,t1,bm,rfl,s1,hR,hbm⟩:=rank_ex hc (by omega) ok hM (by omega)
  have s1n:=s1.n
  have s1l:=s1.le
  have s1m:=s1.m
  obtain ⟨hv,hbm2⟩:=hR.slice (by omega)
  subst hv
  have t1g:∀ c,c<w0.n→t1.h.get c=w0.h.get c:=s1.same
  simp (disch:=first|omega|(with_unfolding_all exact rfl)|(simp only[new_n,put_n,new_m];omega)|(refine put_m_le ?_;simp only[new_m];omega)) only [Abs.W,reduceIte,Nat.reduceEqDiff,Nat.reduceSub]
  generalize hy:St.put _ _ _=y
  have yn:y.n=t1.n+1:=by rw [← hy,put_n,new_n]
  have yg:∀ c,c<t1.n→y.h.get c=t1.h.get c:=fun c hc=>by rw [← hy,get_put_ne' _ _ _ _ (by omega),get_new_ne _ _ _ (by omega)]
  have yp:∃ z5,y.h.get t1.n=some (.cells [.slice bm 0 l.stalls.length l.stalls.length true] z5):=⟨_,by rw [← hy];exact get_put_eq _ _ _ _ rfl (by omega)⟩
  have ym:y.m=min t1.m t1.n:=by rw [← hy];simp only [St.put,minN_eq,new_m]
  obtain ⟨z5,yp⟩:=yp
  have y0:=(yg u.n (by omega)).trans ((t1g u.n (by omega)).trans w00)
  have hLy:=hL.grow (h':=y.h) (n':=y.n) (fun c hc=>(yg c (by omega)).trans ((t1g c (by omega)).trans (w0g c hc))) (by omega)
  simp (disch:=first|omega|(with_unfolding_all exact rfl)|(simp only[new_n,put_n,new_m];omega)|(refine put_m_le ?_;simp only[new_m];omega)) only [K20r5,K20r6,Abs.W,reduceIte,Nat.reduceEqDiff,Nat.reduceSub,y0]
  generalize hc3:call _ _ _ (.fn 41) _ _=rc
  obtain ⟨w,rfl,s3,wn,wE⟩:=everybody_ex hc3 (by omega) ok hLy (by omega)
  have s3m:=s3.m
  have lE:∀ s,lenSlA s (.slice (y.n+1) 0 l.appls.length l.appls.length false)=.val (.int .i64 (l.appls.length:Int)) s:=fun _=>rfl
  simp (disch:=first|omega|(with_unfolding_all exact rfl)|(simp only[new_n,put_n,new_m];omega)|(refine put_m_le ?_;simp only[new_m];omega)) only [Abs.W,reduceIte,Nat.reduceEqDiff,kLoop_def,lE]
  have b0:∀ c,c<t1.n→w.h.get c=t1.h.get c:=fun c hc=>(s3.same c (by omega)).trans (yg c hc)
  have bu:∀ c,c<u.n→w.h.get c=u.h.get c:=fun c hc=>(b0 c (by omega)).trans ((t1g c (by omega)).trans (w0g c hc))
  have rk:=(hR.move (h':=w.h) (fun _=>by omega) (fun c h1 _=>b0 c h1) (Nat.le_refl _)).weak (lo':=u.n+2) (by omega)
  generalize hlp:loopN _ rounds _ _ _ _ _=rl
  obtain ⟨e,L1,d1,s',rfl,rfl,same,jn,jle,jm,jml,dd,dn,v8,b8,f8,i8,o8,o8'⟩:=loop_d hlp (fun i L d t=>(∀ c,c<w.n→t.h.get c=w.h.get c)∧w.n≤t.n∧t.n≤w.n+30000 * i∧u.n≤t.m∧t.m≤far∧(∀ c ∈ d,w.n≤c∧c<t.n∧t.h.get c=some .dfr)∧d.Nodup∧L.find 2=.ptr u.n 0∧L.find 3=.ptr (u.n+1) 0∧L.find 7=.ptr t1.n 0∧(∃ v8 b8,L.find 8=v8∧IsAt t.h t.n b8 2 (tag 59) ((envP l hs i).map pairRow) v8∧w.n≤b8∧(b8<t.n∨far<b8))∧L.find 24=.slice (y.n+1) 0 l.appls.length l.appls.length false∧L.find 25=.int .i64 (l.appls.length:Int)∧L.find 26=.int .i64 (i:Nat))
   (fun e L d t=>e=.exit 0∧(∀ c,c<w.n→t.h.get c=w.h.get c)∧w.n≤t.n∧t.n≤w.n+240000∧u.n≤t.m∧t.m≤far∧(∀ c ∈ d,w.n≤c∧c<t.n∧t.h.get c=some .dfr)∧d.Nodup∧∃ v8 b8,L.find 8=v8∧IsAt t.h t.n b8 2 (tag 59) ((envP l hs l.appls.length).map pairRow) v8∧w.n≤b8∧(b8<t.n∨far<b8)) l.appls.length (by unfold rounds;omega)
   ⟨fun _ _=>rfl,Nat.le_refl _,by omega,by omega,by omega,fun c h=>(by cases h),List.nodup_nil,by simp only [find_cons,reduceIte,Nat.reduceEqDiff],by simp only [find_cons,reduceIte,Nat.reduceEqDiff],by simp only [find_cons,reduceIte,Nat.reduceEqDiff],⟨.nilslice,far+1+w.n,by simp only [find_cons,reduceIte,Nat.reduceEqDiff],IsAt.nil _ _ _ _ _,by omega,.inr (by omega)⟩,by simp only [find_cons,reduceIte,Nat.reduceEqDiff],by simp only [find_cons,reduceIte,Nat.reduceEqDiff],by simp only [find_cons,reduceIte,Nat.reduceEqDiff];rfl⟩
   (fun i L d t hi ⟨same,jn,jle,jm,jml,dd,dn,q2,q3,q7,⟨v8,b8,q8,i8,o8,o8'⟩,q24,q25,q26⟩=>by
    by_cases hlt:i<l.appls.length
    ·obtain ⟨L1,d1,t2,v9,b9,x1,x2,x3,x4,x5,x6,x7,x8,x9,x11,x12,x13,x14,x10⟩:=env_round M (by omega) (w:=w) (bE:=y.n+1) ok hlt hl V ((b0 u.n (by omega)).trans ((t1g u.n (by omega)).trans w00)) ((b0 (u.n+1) (by omega)).trans ((t1g (u.n+1) (by omega)).trans w01)) (hL.bound.move (h':=w.h) (n':=u.n) (no':=fun y=>no y∧y<u.n) (na':=fun y=>na y∧y<u.n) (fun b h1 h2=>⟨bu b h1,h2⟩) (fun b h1 h2=>⟨bu b h1,h2⟩) (Nat.le_refl _)) (hH.grow bu (by omega:u.n≤w.n)) ((s3.same t1.n (by omega)).trans yp) rk (fun _=>by omega) (Nat.le_refl _) (by omega) (by omega)
      (fun s=>by rw [ixs_slice 1 s (y.n+1) 0 _ _ false i hlt,Nat.zero_add,Nat.mul_one]) ⟨_,_,wE,by rw [natRows_nth (by rw [List.length_range];exact hlt)];simp [List.getD,hlt]⟩ (by omega) same jn jle jm jml dd dn (by omega) q2 q3 q7 q8 i8 ⟨o8,o8'⟩ q24 q25 q26
     exact .inl ⟨hlt,L1,d1,t2,x1,x2,x3,by rw [Nat.mul_succ];exact x4,x5,x6,x7,x8,(x10 2 (by omega) (by simp)).trans q2,(x10 3 (by omega) (by simp)).trans q3,(x10 7 (by omega) (by simp)).trans q7,⟨v9,b9,x11,x12,x13,x14⟩,(x10 24 (by omega) (by simp)).trans q24,(x10 25 (by omega) (by simp)).trans q25,x9⟩
    ·obtain rfl:i=l.appls.length:=by omega
     have e0:decide ((l.appls.length:Int)<(l.appls.length:Int))=false:=by simp
     refine .inr ⟨.exit 0,L.set 27 (.bool false),d,t,by simp,?_,rfl,same,jn,by omega,jm,jml,dd,dn,v8,b8,?_,i8,o8,o8'⟩
     ·simp (disch:=first|omega|(with_unfolding_all exact rfl)|(simp only[new_n,put_n,new_m];omega)|(refine put_m_le ?_;simp only[new_m];omega)) only [K20l1,K20r7,Abs.W,reduceIte,efs,q25,q26,e0]
     ·simp only [efs,q8,reduceIte,Nat.reduceEqDiff])
  obtain ⟨b8,i8,o8,hc8⟩:∃ b,IsAt s'.h s'.n b 2 (tag 59) ((envP l hs l.appls.length).map pairRow) v8∧w.n≤b∧CellsOr s' b:=by
   rcases i8.is with ⟨z,z2⟩ | ⟨_,z1,_,z3⟩
   ·refine ⟨far+w.n+1,?_,by omega,.inl (by omega)⟩
    rw [z,z2]
    exact IsAt.nil _ _ _ _ _
   ·exact ⟨b8,i8,o8,.inr ⟨_,_,z3⟩⟩
  obtain ⟨s'',ed,d0,d1n,d2,d3⟩:=take_dfrs dn (fun c hc=>(dd c hc).2.2)
  simp (disch:=first|omega|(with_unfolding_all exact rfl)|(simp only[new_n,put_n,new_m];omega)|(refine put_m_le ?_;simp only[new_m];omega)) only [K20r18,res20,Abs.W,reduceIte,Nat.reduceEqDiff,f8]
  rw [leave_dfrs ed]
  have dl:∀ c ∈ d1,w.n≤c:=fun c hc=>(dd c hc).1
  have hsm:=d2 u.n jm (fun c hc=>by have:=dl c hc;omega)
  have lv:leaveA Try.prog [.tmp 4,.tmp 5] (Env.set 5 (.int .i64 0) (Env.set 4 v8 L1)) [] s''=.val (.tup [v8,.int .i64 0]) s'':=by
   have e2:(Env.set 5 (.int .i64 0) (Env.set 4 v8 L1)).find 4=v8:=by simp only [efs,reduceIte,Nat.reduceEqDiff]
   have e3:(Env.set 5 (.int .i64 0) (Env.set 4 v8 L1)).find 5=.int .i64 0:=by simp only [efs,reduceIte,Nat.reduceEqDiff]
   show ARes.val (oneA [Env.find 4 _,Env.find 5 _]) s''=_
   rw [e2,e3]
   rfl
  rw [lv]
  have i9:IsAt s''.h s''.n b8 2 (tag 59) ((envP l hs l.appls.length).map pairRow) v8:=i8.mono (fun h=>d0 b8 (fun hm=>by
   rcases hc8 with z | ⟨_,_,z3⟩
   ·have:=(dd b8 hm).2.1;omega
   ·rw [(dd b8 hm).2.2] at z3;cases z3)) (by omega)
  refine ⟨_,_,rfl,⟨fun c hc=>?_,by omega,by omega,hsm,by omega⟩,⟨v8,b8,rfl,i9,by omega⟩,fun hp=>⟨v8,b8,rfl,?_,by omega⟩⟩
  ·rw [d0 c (fun h=>by have:=dl _ h;omega),same c (by omega)]
   exact bu c hc
  ·rcases i8.is with ⟨z,z2⟩ | ⟨_,_,z2,_⟩
   ·rw [z,z2];exact IsAt.nil _ _ _ _ _
   ·rw [z2] at hp;cases hp)
 exact ⟨v8,b8,t,hr.symm.trans e,st,hq⟩
end Go.Proofs.Ythbhjgbpjlnbcaa.walk
set_option maxRecDepth 10000
namespace Go.Proofs.Ythbhjgbpjlnbcaa.walk
open Go.Abs Go.Proofs.Ythbhjgbpjlnbcaa.code
theorem rank_pairwise {l:Letting} {st:Nat} {g:List Nat} (r:RankOf l st g):g.Pairwise (fun a b=>keyL l st a<keyL l st b):=by
 rw [List.pairwise_iff_getElem]
 intro i j hi hj hij
 have:=r.up i j hij (by rw [← r.same.len];exact hj)
 unfold at0 at this
 simp [List.getD,hi,hj] at this
 exact this
theorem ahead_is {l:Letting} (ok:l.Ok) {hs:List Int} (V:ValidH l hs) {st:Nat} (hst:st<hs.length) {g:List Nat} (r:RankOf l st g) {a:Nat} (ha:a<l.appls.length) {k:Nat} (hk:k≤g.length) (h1:∀ j,∀ h:j<g.length,j<k→(g[j]:Int)≠hs[st]) (h2:k=g.length∨∃ h:k<g.length,(g[k]:Int)=hs[st]):a ∈ g.take k↔st ∈ (mktOf l).R a∧betterB l st a hs[st]=true:=by
 have hmem:a ∈ g↔st ∈ (mktOf l).R a:=by rw [r.same.mem,able_iff ok ha]
 rcases V.can st hst with h | ⟨c,h,hc,hcan⟩
 ·have hb:betterB l st a hs[st]=true:=by unfold betterB;rw [h];simp
  have hkl:k=g.length:=by
   rcases h2 with h3 | ⟨h3,h4⟩
   ·exact h3
   ·rw [h] at h4;omega
  rw [hkl,List.take_length,hmem,hb]
  exact ⟨fun h=>⟨h,rfl⟩,fun h=>h.1⟩
 ·have hcg:c ∈ g:=by rw [r.same.mem,able_iff ok hc];exact (canI_iff ok hc).mp hcan
  have hb:betterB l st a hs[st]=true↔keyL l st a<keyL l st c:=by
   rw [betterB_iff,h]
   unfold Mkt.Better
   rw [Int.toNat_natCast]
   exact ⟨fun h=>h.resolve_left (by omega),fun h=>.inr h⟩
  have hkl:∃ hlt:k<g.length,g[k]=c:=by
   rcases h2 with h3 | ⟨h3,h4⟩
   ·exfalso
    obtain ⟨j,hj,he⟩:=List.getElem_of_mem hcg
    exact h1 j hj (by omega) (by rw [he,h])
   ·exact ⟨h3,by rw [h] at h4;omega⟩
  obtain ⟨hlt,hgk⟩:=hkl
  have hsp:=take_split hlt
  rw [hgk] at hsp
  have hp:=rank_pairwise r
  rw [← hsp] at hp
  obtain ⟨_,p2,p3⟩:=List.pairwise_append.mp hp
  rw [hb,← hmem]
  constructor
  ·intro hm
   exact ⟨List.mem_of_mem_take hm,p3 a hm c (List.mem_cons_self ..)⟩
  ·rintro ⟨hm,hlt2⟩
   rw [← hsp] at hm
   rcases List.mem_append.mp hm with h | h
   ·exact h
   ·rcases List.mem_cons.mp h with h | h
    ·subst h;omega
    ·have:=(List.pairwise_cons.mp p2).1 a h
     omega
theorem wish_more {l:Letting} (ok:l.Ok) {hs:List Int} (V:ValidH l hs) {a st:Nat} (ha:a<l.appls.length) (hs':st ∈ (mktOf l).R a):l.appls[a].wishes.idxOf (st:Int)<placeI l hs a↔∀ t,t<l.stalls.length→holdF hs t=(a:Int)→(mktOf l).pos a st<(mktOf l).pos a t:=by
 have A:=ok.ap _ (List.getElem_mem ha)
 have okm:=mktOf_ok ok
 have pos0:∀ x ∈ l.appls[a].wishes,0≤x:=fun x hx=>(A.w x hx).1
 have hsub:((mktOf l).R a).Sublist (l.appls[a].wishes.map Int.toNat):=by
  have e:(mktOf l).R a=((reachOf l.stalls (applAt l a)).map Prod.fst).map Int.toNat:=by
   show List.map (fun x:Int × Int=>x.1.toNat) (reachOf l.stalls (applAt l a))=_
   rw [applAt_of ha,List.map_map]
   rfl
  rw [e]
  refine List.Sublist.map _ ?_
  unfold reachOf
  rw [applAt_of ha]
  have h1:((l.appls[a].wishes.zip l.appls[a].bids).filter (can l.stalls)).map Prod.fst |>.Sublist ((l.appls[a].wishes.zip l.appls[a].bids).map Prod.fst):=List.filter_sublist.map _
  rwa [zip_fst A.bl] at h1
 have le:∀ {s t:Nat},s ∈ (mktOf l).R a→t ∈ (mktOf l).R a→(mktOf l).pos a s≤(mktOf l).pos a t→l.appls[a].wishes.idxOf (s:Int)≤l.appls[a].wishes.idxOf (t:Int):=fun {s t} h1 h2 h3=>by
  have:=sub_mono hsub (nodup_toNat pos0 A.nd) h1 h2 h3
  rwa [idx_nat pos0,idx_nat pos0] at this
 have mem:∀ {s:Nat},s ∈ (mktOf l).R a→(s:Int) ∈ l.appls[a].wishes:=fun {s} h=>by
  obtain ⟨x,x1,x2⟩:=List.mem_map.mp h
  obtain ⟨k,k1,_,k3⟩:=reach_mem ok ha x1
  have e:x.1=(s:Int):=by omega
  rw [e] at k3
  exact k3
 have own:∀ t,holdF hs t=(a:Int)→t<hs.length∧t ∈ (mktOf l).R a:=fun t ht=>by
  rcases Nat.lt_or_ge t hs.length with h | h
  ·rw [holdF_get h] at ht
   rcases V.can t h with h1 | ⟨b,h1,h2,h3⟩
   ·omega
   ·have:b=a:=by omega
    subst this
    exact ⟨h,(canI_iff ok ha).mp h3⟩
  ·rw [holdF_far h] at ht;omega
 have inj:∀ s t,holdF hs s=(a:Int)→holdF hs t=(a:Int)→s=t:=fun s t h1 h2=>by
  obtain ⟨q1,_⟩:=own s h1
  obtain ⟨q2,_⟩:=own t h2
  rw [holdF_get q1] at h1
  rw [holdF_get q2] at h2
  exact V.once s t q1 q2 (by rw [h1,h2]) (by rw [h1];omega)
 by_cases hm:∃ t,holdF hs t=(a:Int)
 ·obtain ⟨t,ht⟩:=hm
  obtain ⟨q1,q2⟩:=own t ht
  rw [placeI_some (fun t' h=>inj t' t h ht) ht,applAt_of ha]
  constructor
  ·intro h t' _ h'
   have:t'=t:=inj t' t h' ht
   subst this
   rcases Nat.lt_or_ge ((mktOf l).pos a st) ((mktOf l).pos a t') with h3 | h3
   ·exact h3
   ·have:=le q2 hs' h3
    omega
  ·intro h
   have h3:=h t (by rw [← V.len];exact q1) ht
   have h4:=le hs' q2 (Nat.le_of_lt h3)
   rcases Nat.lt_or_ge (l.appls[a].wishes.idxOf (st:Int)) (l.appls[a].wishes.idxOf (t:Int)) with h5 | h5
   ·exact h5
   ·exfalso
    have e:l.appls[a].wishes.idxOf (st:Int)=l.appls[a].wishes.idxOf (t:Int):=by omega
    have e1:=List.getElem_idxOf (List.idxOf_lt_length_of_mem (mem hs'))
    have e2:=List.getElem_idxOf (List.idxOf_lt_length_of_mem (mem q2))
    have:(st:Int)=(t:Int):=by rw [← e1,← e2];congr 1
    have:st=t:=by omega
    subst this
    omega
 ·rw [placeI_none hm,applAt_of ha]
  have:=List.idxOf_lt_length_of_mem (mem hs')
  exact ⟨fun _ t _ h=>absurd ⟨t,h⟩ hm,fun _=>this⟩
theorem envB_is {l:Letting} (ok:l.Ok) {hs:List Int} (V:ValidH l hs) {a st:Nat} (ha:a<l.appls.length) (hst:st<hs.length):envB l hs a st=(decide (st ∈ (mktOf l).R a∧betterB l st a hs[st]=true) && decide (l.appls[a].wishes.idxOf (st:Int)<placeI l hs a)):=by
 have hgd:hs.getD st (-1)=hs[st]:=by simp [List.getD,hst]
 unfold envB
 rw [hgd]
 by_cases h1:st ∈ (mktOf l).R a
 ·have:=wish_more ok V ha h1
  rw [decide_eq_true h1,Bool.true_and]
  by_cases h2:betterB l st a hs[st]=true
  ·rw [h2,Bool.and_true,decide_eq_true (And.intro h1 rfl),Bool.true_and,decide_eq_decide]
   exact this.symm
  ·have h2':betterB l st a hs[st]=false:=by simpa using h2
   rw [h2',Bool.and_false]
   simp
 ·have e:decide (st ∈ (mktOf l).R a∧betterB l st a hs[st]=true)=false:=decide_eq_false fun h=>h1 h.1
  rw [e,decide_eq_false h1]
  simp
def atE (l:Letting) (hs:List Int) (a st:Nat):Nat:=(envP l hs a).length+((List.range st).filter (envB l hs a)).length
theorem atE_start (l:Letting) (hs:List Int) (a:Nat):atE l hs a 0=(envP l hs a).length:=rfl
theorem atE_end (l:Letting) (hs:List Int) (a:Nat):atE l hs a l.stalls.length=atE l hs (a+1) 0:=by
 rw [atE_start,envP_succ,List.length_append,List.length_map]
 rfl
theorem atE_succ (l:Letting) (hs:List Int) (a st:Nat):atE l hs a (st+1)=atE l hs a st+(if envB l hs a st=true then 1 else 0):=by
 unfold atE
 rw [List.range_succ,List.filter_append,List.length_append,Nat.add_assoc]
 congr 2
 simp only [List.filter_cons,List.filter_nil]
 split<;>rfl
theorem envP_pre (l:Letting) (hs:List Int):∀ (n a:Nat),a≤n→∃ tl,envP l hs n=envP l hs a++tl
 | 0,a,h=>⟨[],by rw [show a=0 by omega];simp⟩
 | n+1,a,h=>by
  by_cases e:a=n+1
  ·exact ⟨[],by rw [e];simp⟩
  ·obtain ⟨tl,h1⟩:=envP_pre l hs n a (by omega)
   exact ⟨tl++(envS l hs n).map fun st=>(n,st),by rw [envP_succ,h1,List.append_assoc]⟩
theorem atE_named {l:Letting} {hs:List Int} {a st:Nat} (ha:a<l.appls.length) (hst:st<l.stalls.length) (he:envB l hs a st=true):∃ h:atE l hs a st<(envP l hs l.appls.length).length,(envP l hs l.appls.length)[atE l hs a st]=(a,st):=by
 obtain ⟨tl,h1⟩:=envP_pre l hs l.appls.length (a+1) ha
 have hr:List.range l.stalls.length=List.range st++st::(List.range l.stalls.length).drop (st+1):=by
  have h3:=take_split (l:=List.range l.stalls.length) (i:=st) (by rw [List.length_range];exact hst)
  rw [List.getElem_range,List.take_range,Nat.min_eq_left (Nat.le_of_lt hst)] at h3
  exact h3.symm
 have hS:envS l hs a=(List.range st).filter (envB l hs a)++st::((List.range l.stalls.length).drop (st+1)).filter (envB l hs a):=by
  unfold envS
  conv=>lhs;rw [hr]
  rw [List.filter_append,List.filter_cons,if_pos he]
 have hP:envP l hs l.appls.length=(envP l hs a++((List.range st).filter (envB l hs a)).map (fun st=>(a,st)))++(a,st)::((((List.range l.stalls.length).drop (st+1)).filter (envB l hs a)).map (fun st=>(a,st))++tl):=by
  rw [h1,envP_succ,hS]
  simp only [List.map_append,List.map_cons,List.append_assoc,List.cons_append]
 have hl:(envP l hs a++((List.range st).filter (envB l hs a)).map (fun st=>(a,st))).length=atE l hs a st:=by
  rw [List.length_append,List.length_map];rfl
 have hlt:atE l hs a st<(envP l hs l.appls.length).length:=by
  rw [hP,List.length_append,hl,List.length_cons];omega
 refine ⟨hlt,?_⟩
 have:(envP l hs l.appls.length)[atE l hs a st]? = some (a,st):=by
  rw [hP,List.getElem?_append_right (by omega),hl,Nat.sub_self]
  rfl
 rw [List.getElem?_eq_getElem hlt] at this
 exact Option.some.inj this
theorem left_valid {l:Letting} {hs:List Int} (V:ValidH l hs) (st:Nat):ValidH l (hs.set st (-1)):=by
 refine ⟨by rw [List.length_set];exact V.len,fun s h=>?_,fun s t h h' he hn=>?_⟩
 ·rw [List.getElem_set]
  split
  ·exact .inl rfl
  ·exact V.can s (by rw [List.length_set] at h;exact h)
 ·rw [List.length_set] at h h'
  rw [List.getElem_set] at he hn
  rw [List.getElem_set] at he
  by_cases e1:st=s
  ·rw [if_pos e1] at hn;exact absurd rfl hn
  ·rw [if_neg e1] at he hn
   by_cases e2:st=t
   ·rw [if_pos e2] at he;exact absurd he hn
   ·rw [if_neg e2] at he
    exact V.once s t h h' he hn
theorem left_envy {l:Letting} (ok:l.Ok) {hs:List Int} (V:ValidH l hs) {st a:Nat} (hst:st<hs.length) (ha:hs[st]=(a:Int)):(a,st) ∈ envP l (hs.set st (-1)) l.appls.length:=by
 rcases V.can st hst with h | ⟨b,h1,h2,h3⟩
 ·omega
 ·have:b=a:=by omega
  subst this
  have hR:=(canI_iff ok h2).mp h3
  unfold envP
  refine List.mem_flatMap.mpr ⟨b,List.mem_range.mpr h2,List.mem_map.mpr ⟨st,?_,rfl⟩⟩
  unfold envS
  refine List.mem_filter.mpr ⟨List.mem_range.mpr (by rw [← V.len];exact hst),?_⟩
  unfold envB
  rw [decide_eq_true hR,Bool.true_and,Bool.and_eq_true,decide_eq_true_eq]
  refine ⟨fun t ht hht=>?_,?_⟩
  ·exfalso
   have hl:t<(hs.set st (-1)).length:=by rw [List.length_set,V.len];exact ht
   rw [holdF_get hl,List.getElem_set] at hht
   split at hht
   ·omega
   ·rename_i hne
    rw [List.length_set] at hl
    have:=V.once st t hst hl (by rw [h1,hht]) (by rw [h1];omega)
    exact hne this
  ·have:(hs.set st (-1)).getD st (-1) = -1:=by simp [List.getD,hst]
   rw [this]
   unfold betterB
   simp
end Go.Proofs.Ythbhjgbpjlnbcaa.walk
set_option maxRecDepth 10000
namespace Go.Proofs.Ythbhjgbpjlnbcaa.walk
open Go.Abs Go.Proofs.Ythbhjgbpjlnbcaa.code
noncomputable abbrev awd (n:Nat):CallF:=knows 14 (call Try.prog X n)
def MetS (h:Heap) (n bm lo:Nat) (M:List (List Nat)) (v:AV):Prop :=
 ∃ vs:List AV,vs.length=M.length∧IsAt h n bm 1 (tag 22) (vs.map fun v=>[v]) v∧∀ j (h1:j<vs.length) (h2:j<M.length),Sl (fun x=>lo≤x∧x≠bm) h n 1 (natRows M[j]) vs[j]
section
variable {h h':Heap} {n n' bm lo:Nat} {M:List (List Nat)} {v:AV}
theorem MetS.nil (h:Heap) (n bm lo:Nat):MetS h n bm lo [] .nilslice:=⟨[],rfl,IsAt.nil _ _ _ _ _,fun j h1 _=>by simp at h1⟩
theorem MetS.move (a:MetS h n bm lo M v) (hb:bm<n→lo≤bm) (hh:∀ c,c<n→lo≤c→h'.get c=h.get c) (hn:n≤n'):MetS h' n' bm lo M v:=by
 obtain ⟨vs,h1,h2,h3⟩:=a
 exact ⟨vs,h1,h2.mono (fun h=>hh _ h (hb h)) hn,fun j j1 j2=>(h3 j j1 j2).move (fun c hc hl=>⟨hh c hc hl.1,hl⟩) hn⟩
theorem MetS.okA (a:MetS h n bm lo M v) (t:St):Abs.okA (.val v t)=.val v t:=by obtain ⟨rows,h1,h2,h3⟩:=a;exact h2.okA t
theorem MetS.len (a:MetS h n bm lo M v) (s:St):lenSlA s v=.val (.int .i64 (M.length:Int)) s:=by
 obtain ⟨vs,h1,h2,h3⟩:=a
 have:=h2.rows.at_.len s
 rw [List.length_map,h1] at this
 exact this
theorem MetS.get (a:MetS h n bm lo M v) {j:Nat} (hj:j<M.length) :
  ∃ w p c sz,Sl (fun x=>lo≤x∧x≠bm) h n 1 (natRows M[j]) w∧(∀ s,ixsA 1 s v (.int .i64 (j:Int))=.val (.ptr bm p) s)∧h.get bm=some (.cells c sz)∧nth c p=w:=by
 obtain ⟨vs,h1,h2,h3⟩:=a
 have hr:j<vs.length:=by omega
 rcases h2.is with ⟨z,_⟩ | ⟨_,z1,z2,z3⟩
 ·rw [List.map_eq_nil_iff] at z
  subst z
  simp at hr
 ·refine ⟨vs[j],0+j * 1,_,_,h3 j hr hj,fun s=>by rw [z2];exact ixs_slice 1 s bm 0 _ _ true j (by rw [List.length_map];exact hr),z3,?_⟩
  rw [Nat.zero_add]
  have:=flatten_cut (rows:=vs.map fun v=>[v]) (w:=1) (i:=j) h2.wide (by rw [List.length_map];exact hr)
  exact cut1_nth (this.trans (by simp))
end
theorem MetS.push {s:St} {bm lo:Nat} {M:List (List Nat)} {v:AV} (a:MetS s.h s.n bm lo M v) {l:List Nat} {w:AV} (hw:Sl (fun x=>lo≤x∧x≠bm) s.h s.n 1 (natRows l) w) {p sz:Nat} (hp:s.h.get p=some (.cells [w] sz)) (hl:M.length+1≤1000) (hs:s.n+10≤far) :
  ∃ v' s',appendA false 1 24 (tag 22) s v (.slice p 0 1 1 false)=.val v' s'∧MetS s'.h s'.n s.n lo (M++[l]) v'∧s'.n=s.n+1∧(∀ c,c<s.n→c≠bm→s'.h.get c=s.h.get c):=by
 have hf:far=1000000000:=rfl
 obtain ⟨vs,h1,h2,h3⟩:=a
 obtain ⟨s',e1,e2,e3,e4,e5,e6⟩:=append_at (bytes:=24) h2 hp rfl hw.scal.1 (by rw [List.length_map];omega) (by kernel_rfl) (by omega)
 have mv:∀ {l:List Nat} {w:AV},Sl (fun x=>lo≤x∧x≠bm) s.h s.n 1 (natRows l) w→Sl (fun x=>lo≤x∧x≠s.n) s'.h s'.n 1 (natRows l) w:=fun q=>q.move (fun b b1 b2=>⟨e4 b b1 b2.2,b2.1,by omega⟩) (by omega)
 refine ⟨_,s',e1,⟨vs++[w],by simp [h1],?_,fun j j1 j2=>?_⟩,e3,e4⟩
 ·rw [List.map_append];exact e2
 ·by_cases e:j<vs.length
  ·rw [List.getElem_append_left e,List.getElem_append_left (by omega)]
   exact mv (h3 j e (by omega))
  ·have hj:j=vs.length:=by rw [List.length_append,List.length_singleton] at j1;omega
   subst hj
   rw [List.getElem_append_right (Nat.le_refl _),List.getElem_append_right (by omega)]
   simp only [h1,Nat.sub_self,List.getElem_singleton]
   exact mv hw
/-! ### The draw has each once -/
def draws (n base from_ j:Nat):List (List Nat):=(List.range j).map fun i=>pickL n (base+from_+i) (List.range n)
structure DrawnJ (w t:St) (p4 lo bS bA who bm n base from_ j kk:Nat) (l:Letting) (vS vA vm:AV):Prop where
 own:∃ x,0≤x∧x≤1000000000∧LetOwn t.h w.n lo bS bA (l.withTok who x) vS vA
 g4:t.h.get p4=some (.cells [vS,vA] (tag 28))
 met:MetS t.h t.n bm w.n (draws n base from_ j) vm
 bmc:(w.n≤bm∧bm<t.n)∨far<bm
 n:w.n≤t.n
 le:t.n≤w.n+kk
end Go.Proofs.Ythbhjgbpjlnbcaa.walk
set_option maxRecDepth 10000
namespace Go.Proofs.Ythbhjgbpjlnbcaa.walk
open Go.Abs Go.Proofs.Ythbhjgbpjlnbcaa.code
theorem take_memN {M:List Nat} {i:Nat} (h:i<M.length) (x:Nat):decide (x ∈ M.take (i+1))=(decide (x ∈ M.take i) || decide (M[i]=x)):=by
 rw [take_snoc h,Bool.eq_iff_iff,Bool.or_eq_true,decide_eq_true_eq,decide_eq_true_eq,decide_eq_true_eq,List.mem_append,List.mem_singleton]
 exact ⟨fun h=>h.imp id Eq.symm,fun h=>h.imp id Eq.symm⟩
theorem envy_inner (N:Nat) {cx:Ctx} {w:St} {a st bd:Nat} {vX vR:AV} {nx:Nat→Prop} {hs:List Int} {g:List Nat} {L:Env} {r:R} (hr:loopN K9l0 rounds (awd N) cx L [] w=r) (hX:Sl nx w.h w.n 1 (intRows hs) vX) (hst:st<hs.length) (hG:IsAt w.h w.n bd 1 (tag 3) (natRows g) vR) (hg:g.length≤8) (hm:w.m≤far) (hs':w.n+100≤far)
  (q6:L.find 6=vX) (q10:L.find 10=.int .i64 (a:Nat)) (q11:L.find 11=.int .i64 (st:Nat)) (q12:L.find 12=vR) (q14:L.find 14=.bool false) (q15:L.find 15=.int .i64 (0:Nat)) :
  ∃ L1 k,r=.done (.exit 4) L1 [] w∧k≤g.length∧(∀ j,∀ h:j<g.length,j<k→(g[j]:Int)≠hs[st])∧(k=g.length∨∃ h:k<g.length,(g[k]:Int)=hs[st])∧L1.find 14=.bool (decide (a ∈ g.take k))∧∀ c,c<14→L1.find c=L.find c:=by
 have hf:far=1000000000:=rfl
 have kX:=hX.okA
 have kR:=hG.okA
 have lR:=natLen hG.rows.at_
 obtain ⟨b1,o1,c1,s1,x1,x2,x3,x4⟩:=rowInt hX.at_ hst
 obtain ⟨e,L1,t,rfl,rfl,rfl,k,h1,h2,h3,h4,h5⟩:=loop_of hr (fun k L' t'=>t'=w∧(∀ j,∀ h:j<g.length,j<k→(g[j]:Int)≠hs[st])∧L'.find 14=.bool (decide (a ∈ g.take k))∧L'.find 15=.int .i64 (k:Nat)∧∀ c,c<14→L'.find c=L.find c) (fun e L' t'=>e=.exit 4∧t'=w∧∃ k,k≤g.length∧(∀ j,∀ h:j<g.length,j<k→(g[j]:Int)≠hs[st])∧(k=g.length∨∃ h:k<g.length,(g[k]:Int)=hs[st])∧L'.find 14=.bool (decide (a ∈ g.take k))∧∀ c,c<14→L'.find c=L.find c) g.length (by unfold rounds;omega)
  ⟨rfl,fun j _ h=>absurd h (by omega),by rw [q14];simp,q15,fun _ _=>rfl⟩
  (fun k L' t' hk ⟨hw,hno,p14,p15,q⟩=>by
   subst hw
   have p6:=(q 6 (by omega)).trans q6
   have p10:=(q 10 (by omega)).trans q10
   have p11:=(q 11 (by omega)).trans q11
   have p12:=(q 12 (by omega)).trans q12
   have u6:=eq3 K9r18s6.eq_1
   have u7:=eq3 K9r18s7.eq_1
   have u8:=eq3 K9r18s8.eq_1
   have u9:=eq3 K9r18s9.eq_1
   have u10:=eq3 K9r18s10.eq_1
   have u11:=eq3 K9r18s11.eq_1
   have u12:=eq3 K9r18s12.eq_1
   have u13:=eq3 K9r18s13.eq_1
   have u14:=eq3 K9r18s14.eq_1
   by_cases hlt:k<g.length
   ·have e0:decide ((k:Int)<(g.length:Int))=true:=decide_eq_true (by omega)
    obtain ⟨b2,o2,c2,s2,y1,y2,y3,y4⟩:=natRow hG.rows.at_ hlt
    by_cases he:(g[k]:Int)=hs[st]
    ·have e1:decide ((g[k]:Int)=hs[st])=true:=decide_eq_true he
     refine .inr ⟨.exit 4,L'.set 81 (.bool false),t',by simp,?_,rfl,rfl,k,by omega,hno,.inr ⟨hlt,he⟩,?_,fun c hc=>?_⟩
     ·simp (config:={ maxSteps:=2000000 }) (disch:=first|omega|(with_unfolding_all exact rfl)|(simp only[new_n,put_n,new_m];omega)|(refine put_m_le ?_;simp only[new_m];omega)) only [K9l0,K9r18,u6,u7,u8,u9,u10,u11,u12,u13,u14,Abs.W,reduceIte,Nat.reduceEqDiff,efs,p6,p11,p12,p15,lR,e0,x2,x3,x4,y2,y3,y4,e1]
     ·simp only [efs,p14,reduceIte,Nat.reduceEqDiff]
     ·simp only [efs]
      rw [if_neg (by omega)]
      exact q c hc
    ·have e1:decide ((g[k]:Int)=hs[st])=false:=decide_eq_false he
     have ad:∀ s,aAdd s .i64 (k:Int) 1=.val (.int .i64 ((k:Int)+1)) s:=fun s=>aAdd_i64 s _ _ (by omega)
     have etk:=take_memN hlt a
     have v3:=eq3 K9r19s3.eq_1
     have v4:=eq3 K9r19s4.eq_1
     have v5:=eq3 K9r19s5.eq_1
     have v6:=eq3 K9r19s6.eq_1
     have v7:=eq3 K9r19s7.eq_1
     have v8:=eq3 K9r19s8.eq_1
     have hno':∀ j,∀ h:j<g.length,j<k+1→(g[j]:Int)≠hs[st]:=fun j h h2=>by
      by_cases ej:j=k
      ·subst ej;exact he
      ·exact hno j h (by omega)
     cases hd:decide (a ∈ g.take k) with
     | true =>
      rw [hd] at p14 etk
      refine .inl ⟨hlt,_,t',by
       simp (config:={ maxSteps:=2000000 }) (disch:=first|omega|(with_unfolding_all exact rfl)|(simp only[new_n,put_n,new_m];omega)|(refine put_m_le ?_;simp only[new_m];omega)) only [K9l0,K9r18,u6,u7,u8,u9,u10,u11,u12,u13,u14,K9r19,v3,v4,v5,v6,v7,v8,K9r20,Abs.W,reduceIte,Nat.reduceEqDiff,efs,p6,p11,p12,p14,p15,lR,e0,x2,x3,x4,y2,y3,y4,e1,ad]
       rfl,rfl,hno',?_,?_,fun c hc=>?_⟩
      ·rw [etk]
       simp only [efs,reduceIte,Nat.reduceEqDiff];rfl
      ·simp only [efs,reduceIte,Nat.reduceEqDiff];rfl
      ·simp only [efs]
       repeat rw [if_neg (by omega)]
       exact q c hc
     | false =>
      rw [hd] at p14 etk
      have e2:decide ((g[k]:Int)=(a:Int))=decide (g[k]=a):=by rw [decide_eq_decide];omega
      refine .inl ⟨hlt,_,t',by
       simp (config:={ maxSteps:=2000000 }) (disch:=first|omega|(with_unfolding_all exact rfl)|(simp only[new_n,put_n,new_m];omega)|(refine put_m_le ?_;simp only[new_m];omega)) only [K9l0,K9r18,u6,u7,u8,u9,u10,u11,u12,u13,u14,K9r19,v3,v4,v5,v6,v7,v8,K9r20,Abs.W,reduceIte,Nat.reduceEqDiff,efs,p6,p10,p11,p12,p14,p15,lR,e0,x2,x3,x4,y2,y3,y4,e1,e2,ad]
       rfl,rfl,hno',?_,?_,fun c hc=>?_⟩
      ·rw [etk]
       simp only [efs,reduceIte,Nat.reduceEqDiff,Bool.false_or]
      ·simp only [efs,reduceIte,Nat.reduceEqDiff];rfl
      ·simp only [efs]
       repeat rw [if_neg (by omega)]
       exact q c hc
   ·obtain rfl:k=g.length:=by omega
    have e0:decide ((g.length:Int)<(g.length:Int))=false:=by simp
    refine .inr ⟨.exit 4,L'.set 81 (.bool false),t',by simp,?_,rfl,rfl,g.length,Nat.le_refl _,hno,.inl rfl,?_,fun c hc=>?_⟩
    ·simp (config:={ maxSteps:=2000000 }) (disch:=first|omega|(with_unfolding_all exact rfl)|(simp only[new_n,put_n,new_m];omega)|(refine put_m_le ?_;simp only[new_m];omega)) only [K9l0,K9r18,u6,u7,u8,u9,u10,u11,u12,u13,u14,Abs.W,reduceIte,Nat.reduceEqDiff,efs,p12,p15,lR,e0]
    ·simp only [efs,p14,reduceIte,Nat.reduceEqDiff]
    ·simp only [efs]
     rw [if_neg (by omega)]
     exact q c hc)
 exact ⟨L1,k,rfl,h1,h2,h3,h4,h5⟩
theorem rowEql (q:Bool) (a b c d:Int) (s:St):eqlA (.row [(0,none,.int),(1,none,.int)]) q s (.agg [.int .i64 a,.int .i64 b]) (.agg [.int .i64 c,.int .i64 d])=.val (.bool (xor (decide (a=c) && decide (b=d)) q)) s:=by
 by_cases h1:a=c<;>by_cases h2:b=d<;>cases q<;>simp [eqlA,Cmp.eq,Cmp.eqs,partS_one,nth_cons,eqI_eq,h1,h2]
theorem kEqlC (c:Cmp) (neg:Bool) (x y:Arg) (L:Env) (s:St):kEql c neg x y L s=eqlA c neg s (x.ev L) (y.ev L):=Eq.trans (Eq.refl _) (Eq.refl _)
theorem envy_round1 (N:Nat) (hN:17≤N) (cx:Ctx) {w t:St} {p4 z4 b8 a st kk:Nat} {l:Letting} {vS vA vX vN:AV} {no na nx:Nat→Prop} {hs:List Int} {L:Env} (ok:l.Ok) (V:ValidH l hs) (ha:a<l.appls.length) (hst:st<l.stalls.length) (hL:LetAt no na w.h w.n l vS vA) (g4:w.h.get p4=some (.cells [vS,vA] z4)) (hp:p4<w.n) (hX:Sl nx w.h w.n 1 (intRows hs) vX) (hN':IsAt w.h w.n b8 2 (tag 59) ((envP l hs l.appls.length).map pairRow) vN) (same:∀ c,c<w.n→t.h.get c=w.h.get c) (jn:w.n≤t.n) (jle:t.n≤w.n+kk) (jml:t.m≤far) (hs':w.n+kk+1000000≤far)
  (q4:L.find 4=.ptr p4 0) (q6:L.find 6=vX) (q7:L.find 7=vN) (q9:L.find 9=.int .i64 (atE l hs a st:Nat)) (q10:L.find 10=.int .i64 (a:Nat)) (q11:L.find 11=.int .i64 (st:Nat)) :
  ∃ L1 t1,K9l1 (awd N) cx L [] t=.done .norm L1 [] t1∧(∀ c,c<w.n→t1.h.get c=w.h.get c)∧w.n≤t1.n∧t1.n≤w.n+(kk+5000)∧t1.m≤far∧L1.find 9=.int .i64 (atE l hs a (st+1):Nat)∧L1.find 11=.int .i64 (st+1:Nat)∧∀ c,c<11→c≠9→L1.find c=L.find c:=by
 have hf:far=1000000000:=rfl
 have knR:∀ args s,awd N (.fn 29) args s=call Try.prog X N (.fn 29) args s:=fun _ _=>rfl
 have knW:∀ args s,awd N (.fn 30) args s=call Try.prog X N (.fn 30) args s:=fun _ _=>rfl
 have knP:∀ args s,awd N (.fn 23) args s=call Try.prog X N (.fn 23) args s:=fun _ _=>rfl
 have k1:=ok.k1
 have m1:=ok.m1
 have hih:st<hs.length:=by rw [V.len];exact hst
 have hLt:=hL.grow same jn
 have t4:=(same p4 hp).trans g4
 have kA:=hLt.okV
 have kS:=hLt.okS
 have lS:=hLt.lenS
 have e0:decide ((st:Int)<(l.stalls.length:Int))=true:=decide_eq_true (by omega)
 have ex0:∀ (a b:AV) (s:St),extA 0 s (.tup [a,b])=.val a s:=fun _ _ _=>rfl
 have ex1:∀ (a b:AV) (s:St),extA 1 s (.tup [a,b])=.val b s:=fun _ _ _=>rfl
 have okt:∀ (a b:AV) (s:St),okA (.val (.tup [a,b]) s)=.val (.tup [a,b]) s:=fun _ _ _=>rfl
 have z0:decide ((0:Int)=0)=true:=rfl
 have n1:∀ s (c:Bool),notA s (.bool c)=.val (.bool !c) s:=fun _ _=>rfl
 simp (disch:=first|omega|(with_unfolding_all exact rfl)|(simp only[new_n,put_n,new_m];omega)|(refine put_m_le ?_;simp only[new_m];omega)) only [K9l1,K9r12,K9r13,Abs.W,reduceIte,Nat.reduceEqDiff,Nat.reduceSub,efs,q4,q11,t4,kS,lS,e0,knR,Nat.zero_add]
 generalize hc:call _ _ _ (.fn 29) _ _=rc
 obtain ⟨vR,bd,g,t1,rfl,s1,hbd,hG,hR⟩:=Ranks_ex hc (by omega) ok hst hLt (by omega)
 have s1n:=s1.n
 have s1l:=s1.le
 have s1m:=s1.m
 have kR:=hG.okA
 have t1w:∀ c,c<w.n→t1.h.get c=w.h.get c:=fun c hc=>(s1.same c (by omega)).trans (same c hc)
 have hX1:=hX.grow (h':=t1.h) (n':=t1.n) t1w (by omega)
 have hgl:g.length≤8:=by rw [hR.same.len];exact ableL_len ok st
 simp (disch:=first|omega|(with_unfolding_all exact rfl)|(simp only[new_n,put_n,new_m];omega)|(refine put_m_le ?_;simp only[new_m];omega)) only [K9r14,K9r16,K9r17,Abs.W,reduceIte,Nat.reduceEqDiff,decide_true,kLoop_def,efs,ex0,ex1]
 generalize hlp:loopN _ rounds _ _ _ _ _=rl
 obtain ⟨L2,k,rfl,hk,h1,h2,f14,f2⟩:=envy_inner N (a:=a) (st:=st) (bd:=bd) hlp hX1 hih hG hgl (by omega) (by omega)
  (by simp only [efs,q6,reduceIte,Nat.reduceEqDiff]) (by simp only [efs,q10,reduceIte,Nat.reduceEqDiff]) (by simp only [efs,q11,reduceIte,Nat.reduceEqDiff]) (by simp only [efs,reduceIte,Nat.reduceEqDiff]) (by simp only [efs,reduceIte,Nat.reduceEqDiff]) (by simp only [efs,reduceIte,Nat.reduceEqDiff];rfl)
 have hah:=ahead_is ok V hih hR ha hk h1 h2
 have heb:=envB_is ok V ha hih
 have hd0:decide (a ∈ g.take k)=decide (st ∈ (mktOf l).R a∧betterB l st a hs[st]=true):=by rw [decide_eq_decide];exact hah
 rw [hd0] at f14
 have hsucc:=atE_succ l hs a st
 have g4':L2.find 4=.ptr p4 0:=(f2 4 (by omega)).trans (by simp only [efs,q4,reduceIte,Nat.reduceEqDiff])
 have g6:L2.find 6=vX:=(f2 6 (by omega)).trans (by simp only [efs,q6,reduceIte,Nat.reduceEqDiff])
 have g7:L2.find 7=vN:=(f2 7 (by omega)).trans (by simp only [efs,q7,reduceIte,Nat.reduceEqDiff])
 have g9:L2.find 9=.int .i64 (atE l hs a st:Nat):=(f2 9 (by omega)).trans (by simp only [efs,q9,reduceIte,Nat.reduceEqDiff])
 have g10:L2.find 10=.int .i64 (a:Nat):=(f2 10 (by omega)).trans (by simp only [efs,q10,reduceIte,Nat.reduceEqDiff])
 have g11:L2.find 11=.int .i64 (st:Nat):=(f2 11 (by omega)).trans (by simp only [efs,q11,reduceIte,Nat.reduceEqDiff])
 have rest:∀ c,c<11→c≠9→L2.find c=L.find c:=fun c hc h9=>by
  rw [f2 c (by omega)]
  simp only [efs]
  repeat rw [if_neg (by omega)]
 have ad:∀ s,aAdd s .i64 (st:Int) 1=.val (.int .i64 ((st:Int)+1)) s:=fun s=>aAdd_i64 s _ _ (by omega)
 have hN1:IsAt t1.h t1.n b8 2 (tag 59) ((envP l hs l.appls.length).map pairRow) vN:=by
  rcases hN'.is with ⟨z,z2⟩ | ⟨_,z1,_,_⟩
  ·rw [z,z2];exact IsAt.nil _ _ _ _ _
  ·exact hN'.mono (fun h=>t1w b8 h) (by omega)
 have u4:=eq3 K9r21s4.eq_1
 have u5:=eq3 K9r21s5.eq_1
 have u6:=eq3 K9r21s6.eq_1
 have u7:=eq3 K9r21s7.eq_1
 have u8:=eq3 K9r21s8.eq_1
 have u9:=eq3 K9r21s9.eq_1
 have u10:=eq3 K9r21s10.eq_1
 have u11:=eq3 K9r21s11.eq_1
 have u12:=eq3 K9r21s12.eq_1
 have u13:=eq3 K9r21s13.eq_1
 have u14:=eq3 K9r21s14.eq_1
 have u15:=eq3 K9r21s15.eq_1
 cases hA:decide (st ∈ (mktOf l).R a∧betterB l st a hs[st]=true) with
 | false =>
  rw [hA] at f14 heb
  rw [Bool.false_and] at heb
  rw [heb] at hsucc
  refine ⟨_,t1,by
   simp (config:={ maxSteps:=2000000 }) (disch:=first|omega|(with_unfolding_all exact rfl)|(simp only[new_n,put_n,new_m];omega)|(refine put_m_le ?_;simp only[new_m];omega)) only [K9r21,u4,u5,u6,u7,u8,u9,u10,u11,u12,u13,u14,u15,K9r25,Abs.W,reduceIte,Nat.reduceEqDiff,efs,f14,g11,n1,ad]
   rfl,t1w,by omega,by rw [← Nat.add_assoc];omega,by omega,?_,?_,fun c hc h9=>?_⟩
  ·rw [hsucc]
   simp only [efs,g9,reduceIte,Nat.reduceEqDiff];rfl
  ·simp only [efs,reduceIte,Nat.reduceEqDiff];rfl
  ·simp only [efs]
   repeat rw [if_neg (by omega)]
   exact rest c hc h9
 | true =>
  rw [hA] at f14 heb
  rw [Bool.true_and] at heb
  have hL1:=hL.grow (h':=t1.h) (n':=t1.n) t1w (by omega)
  have t14:=(t1w p4 hp).trans g4
  obtain ⟨ww,pa,oa,ca,za,⟨pal,_⟩,a1,a2,a3,a4,a5⟩:=hL1.getA2 ha
  obtain ⟨w1,w2⟩:=ww
  simp only at a3 a4 a5
  have sw1:=a4.scal
  have sw2:=a5.scal
  have wl8:=(ok.ap _ (List.getElem_mem ha)).wl
  have wo:=wish_ok N (by omega) (a:=.int .i64 l.appls[a].years) (b:=.int .i64 l.appls[a].token) (bv:=w2) (st:=(st:Int)) (s:=⟨t1.h,t1.n,far⟩) a4 wl8 (by show t1.n+100≤far;omega)
  have po:=place_ok N (by omega) (s:=t1) ok ha hL1 hX1 (by rw [V.len];exact k1) (by omega)
  have kX:=hX1.okA
  have kS1:=hL1.okS
  have kA1:=hL1.okV
  by_cases hW:l.appls[a].wishes.idxOf (st:Int)<placeI l hs a
  ·rw [decide_eq_true hW] at heb
   rw [heb,if_pos rfl] at hsucc
   have e1:decide ((placeI l hs a:Int)≤(l.appls[a].wishes.idxOf (st:Int):Int))=false:=decide_eq_false (by omega)
   obtain ⟨hat,hget⟩:=atE_named ha hst heb
   have kN:=hN1.okA
   have lN:∀ s,lenSlA s vN=.val (.int .i64 ((envP l hs l.appls.length).length:Int)) s:=fun s=>by
    have:=hN1.rows.at_.len s
    rwa [List.length_map] at this
   have e2:decide (((envP l hs l.appls.length).length:Int)≤(atE l hs a st:Int))=false:=decide_eq_false (by omega)
   obtain ⟨bN,oN,cN,zN,y1,y2,y3,y4⟩:=hN1.rows.at_.at_ (atE l hs a st) (by rw [List.length_map];exact hat)
   have hrow:((envP l hs l.appls.length).map pairRow)[atE l hs a st]'(by rw [List.length_map];exact hat)=[.int .i64 (a:Int),.int .i64 (st:Int)]:=by
    rw [List.getElem_map,hget];rfl
   rw [hrow] at y4
   have hpl:=envP_len ok hs (Nat.le_refl l.appls.length)
   have ad2:∀ s,aAdd s .i64 (atE l hs a st:Int) 1=.val (.int .i64 ((atE l hs a st:Int)+1)) s:=fun s=>aAdd_i64 s _ _ (by omega)
   have eq1:∀ s,eqlA (.row [(0,none,.int),(1,none,.int)]) true s (.agg [.int .i64 (a:Int),.int .i64 (st:Int)]) (.agg [.int .i64 (a:Int),.int .i64 (st:Int)])=.val (.bool false) s:=fun s=>by
    rw [rowEql];simp
   have v6:=eq3 K9r22s6.eq_1
   have v7:=eq3 K9r22s7.eq_1
   have v8:=eq3 K9r22s8.eq_1
   have v9:=eq3 K9r22s9.eq_1
   have v10:=eq3 K9r22s10.eq_1
   have v11:=eq3 K9r22s11.eq_1
   have v12:=eq3 K9r22s12.eq_1
   have v13:=eq3 K9r22s13.eq_1
   refine ⟨_,t1,by
    simp (config:={ maxSteps:=3000000 }) (disch:=first|omega|(with_unfolding_all exact rfl)|(simp only[new_n,put_n,new_m];omega)|(refine put_m_le ?_;simp only[new_m];omega)) only [K9r21,u4,u5,u6,u7,u8,u9,u10,u11,u12,u13,u14,u15,K9r22,v6,v7,v8,v9,v10,v11,v12,v13,K9r24,K9r25,Abs.W,reduceIte,Nat.reduceEqDiff,Nat.reduceSub,efs,f14,g4',g6,g7,g9,g10,g11,n1,t14,kA1,a1,a2,a3,knW,wo,knP,po,e1,lN,e2,y2,y3,y4,kEqlC,eq1,ad,ad2,Nat.zero_add]
    rfl,t1w,by omega,by rw [← Nat.add_assoc];omega,by omega,?_,?_,fun c hc h9=>?_⟩
   ·rw [hsucc]
    simp only [efs,reduceIte,Nat.reduceEqDiff];rfl
   ·simp only [efs,reduceIte,Nat.reduceEqDiff];rfl
   ·simp only [efs]
    repeat rw [if_neg (by omega)]
    exact rest c hc h9
  ·rw [decide_eq_false hW] at heb
   rw [heb] at hsucc
   have e1:decide ((placeI l hs a:Int)≤(l.appls[a].wishes.idxOf (st:Int):Int))=true:=decide_eq_true (by omega)
   refine ⟨_,t1,by
    simp (config:={ maxSteps:=3000000 }) (disch:=first|omega|(with_unfolding_all exact rfl)|(simp only[new_n,put_n,new_m];omega)|(refine put_m_le ?_;simp only[new_m];omega)) only [K9r21,u4,u5,u6,u7,u8,u9,u10,u11,u12,u13,u14,u15,K9r25,Abs.W,reduceIte,Nat.reduceEqDiff,Nat.reduceSub,efs,f14,g4',g6,g10,g11,n1,t14,kA1,a1,a2,a3,knW,wo,knP,po,e1,ad,Nat.zero_add]
    rfl,t1w,by omega,by rw [← Nat.add_assoc];omega,by omega,?_,?_,fun c hc h9=>?_⟩
   ·rw [hsucc]
    simp only [efs,g9,reduceIte,Nat.reduceEqDiff];rfl
   ·simp only [efs,reduceIte,Nat.reduceEqDiff];rfl
   ·simp only [efs]
    repeat rw [if_neg (by omega)]
    exact rest c hc h9
end Go.Proofs.Ythbhjgbpjlnbcaa.walk
set_option maxRecDepth 10000
namespace Go.Proofs.Ythbhjgbpjlnbcaa.walk
open Go.Abs Go.Proofs.Ythbhjgbpjlnbcaa.code
theorem envy_loop1 (N:Nat) (hN:17≤N) {cx:Ctx} {w u:St} {p4 z4 b8 a kk:Nat} {l:Letting} {vS vA vX vN:AV} {no na nx:Nat→Prop} {hs:List Int} {L:Env} {r:R} (hr:loopN K9l1 rounds (awd N) cx L [] u=r) (ok:l.Ok) (V:ValidH l hs) (ha:a<l.appls.length) (hL:LetAt no na w.h w.n l vS vA) (g4:w.h.get p4=some (.cells [vS,vA] z4)) (hp:p4<w.n) (hX:Sl nx w.h w.n 1 (intRows hs) vX) (hN':IsAt w.h w.n b8 2 (tag 59) ((envP l hs l.appls.length).map pairRow) vN) (same:∀ c,c<w.n→u.h.get c=w.h.get c) (jn:w.n≤u.n) (jle:u.n≤w.n+kk) (jml:u.m≤far) (hs':w.n+kk+2000000≤far)
  (q4:L.find 4=.ptr p4 0) (q6:L.find 6=vX) (q7:L.find 7=vN) (q9:L.find 9=.int .i64 (atE l hs a 0:Nat)) (q10:L.find 10=.int .i64 (a:Nat)) (q11:L.find 11=.int .i64 (0:Nat)) :
  ∃ L1 t1,r=.done (.exit 2) L1 [] t1∧(∀ c,c<w.n→t1.h.get c=w.h.get c)∧w.n≤t1.n∧t1.n≤w.n+(kk+40000)∧t1.m≤far∧L1.find 9=.int .i64 (atE l hs (a+1) 0:Nat)∧∀ c,c<11→c≠9→L1.find c=L.find c:=by
 have hf:far=1000000000:=rfl
 have k1:=ok.k1
 obtain ⟨e,L1,t,rfl,rfl,h1,h2,h3,h4,h5,h6⟩:=loop_of hr (fun st L' t'=>(∀ c,c<w.n→t'.h.get c=w.h.get c)∧w.n≤t'.n∧t'.n≤w.n+(kk+5000 * st)∧t'.m≤far∧L'.find 9=.int .i64 (atE l hs a st:Nat)∧L'.find 11=.int .i64 (st:Nat)∧∀ c,c<11→c≠9→L'.find c=L.find c) (fun e L' t'=>e=.exit 2∧(∀ c,c<w.n→t'.h.get c=w.h.get c)∧w.n≤t'.n∧t'.n≤w.n+(kk+40000)∧t'.m≤far∧L'.find 9=.int .i64 (atE l hs (a+1) 0:Nat)∧∀ c,c<11→c≠9→L'.find c=L.find c) l.stalls.length (by unfold rounds;omega)
  ⟨same,jn,jle,jml,q9,q11,fun _ _ _=>rfl⟩
  (fun st L' t' hi ⟨same,jn,jle,jml,p9,p11,q⟩=>by
   have p4':=(q 4 (by omega) (by omega)).trans q4
   by_cases hlt:st<l.stalls.length
   ·obtain ⟨L2,t2,x1,x2,x3,x4,x5,x6,x7,x8⟩:=envy_round1 N hN cx ok V ha hlt hL g4 hp hX hN' same jn jle jml (by omega) p4' ((q 6 (by omega) (by omega)).trans q6) ((q 7 (by omega) (by omega)).trans q7) p9 ((q 10 (by omega) (by omega)).trans q10) p11
    exact .inl ⟨hlt,L2,t2,x1,x2,x3,by rw [Nat.mul_succ,← Nat.add_assoc kk];exact x4,x5,x6,x7,fun c hc h9=>(x8 c hc h9).trans (q c hc h9)⟩
   ·obtain rfl:st=l.stalls.length:=by omega
    have e0:decide ((l.stalls.length:Int)<(l.stalls.length:Int))=false:=by simp
    have t4:=(same p4 hp).trans g4
    have kS:=hL.okS
    have lS:=hL.lenS
    rw [atE_end] at p9
    refine .inr ⟨.exit 2,L'.set 56 (.bool false),t',by simp,?_,rfl,same,jn,by omega,jml,?_,fun c hc h9=>?_⟩
    ·simp (disch:=first|omega|(with_unfolding_all exact rfl)|(simp only[new_n,put_n,new_m];omega)|(refine put_m_le ?_;simp only[new_m];omega)) only [K9l1,K9r12,Abs.W,reduceIte,Nat.reduceEqDiff,Nat.reduceSub,efs,p4',p11,t4,kS,lS,e0,Nat.zero_add]
    ·simp only [efs,p9,reduceIte,Nat.reduceEqDiff]
    ·simp only [efs]
     rw [if_neg (by omega)]
     exact q c hc h9)
 exact ⟨L1,t,rfl,h1,h2,h3,h4,h5,h6⟩
theorem envy_loop2 (N:Nat) (hN:17≤N) {cx:Ctx} {w:St} {p4 z4 b8:Nat} {l:Letting} {vS vA vX vN:AV} {no na nx:Nat→Prop} {hs:List Int} {L:Env} {r:R} (hr:loopN K9l2 rounds (awd N) cx L [] w=r) (ok:l.Ok) (V:ValidH l hs) (hL:LetAt no na w.h w.n l vS vA) (g4:w.h.get p4=some (.cells [vS,vA] z4)) (hp:p4<w.n) (hX:Sl nx w.h w.n 1 (intRows hs) vX) (hN':IsAt w.h w.n b8 2 (tag 59) ((envP l hs l.appls.length).map pairRow) vN) (hm:w.m≤far) (hs':w.n+3000000≤far)
  (q4:L.find 4=.ptr p4 0) (q6:L.find 6=vX) (q7:L.find 7=vN) (q9:L.find 9=.int .i64 (0:Nat)) (q10:L.find 10=.int .i64 (0:Nat)) :
  ∃ L1 t1,r=.done (.exit 0) L1 [] t1∧(∀ c,c<w.n→t1.h.get c=w.h.get c)∧w.n≤t1.n∧t1.n≤w.n+400000∧t1.m≤far∧L1.find 9=.int .i64 ((envP l hs l.appls.length).length:Nat)∧∀ c,c<9→L1.find c=L.find c:=by
 have hf:far=1000000000:=rfl
 have m1:=ok.m1
 obtain ⟨e,L1,t,rfl,rfl,h1,h2,h3,h4,h5,h6⟩:=loop_of hr (fun a L' t'=>(∀ c,c<w.n→t'.h.get c=w.h.get c)∧w.n≤t'.n∧t'.n≤w.n+40000 * a∧t'.m≤far∧L'.find 9=.int .i64 (atE l hs a 0:Nat)∧L'.find 10=.int .i64 (a:Nat)∧∀ c,c<9→L'.find c=L.find c) (fun e L' t'=>e=.exit 0∧(∀ c,c<w.n→t'.h.get c=w.h.get c)∧w.n≤t'.n∧t'.n≤w.n+400000∧t'.m≤far∧L'.find 9=.int .i64 ((envP l hs l.appls.length).length:Nat)∧∀ c,c<9→L'.find c=L.find c) l.appls.length (by unfold rounds;omega)
  ⟨fun _ _=>rfl,Nat.le_refl _,by omega,hm,by rw [q9];rfl,q10,fun _ _=>rfl⟩
  (fun a L' t' hi ⟨same,jn,jle,jml,p9,p10,q⟩=>by
   have p4':=(q 4 (by omega)).trans q4
   have t4:=(same p4 hp).trans g4
   have kA:=hL.okV
   have lA:=hL.lenA
   by_cases hlt:a<l.appls.length
   ·have e0:decide ((a:Int)<(l.appls.length:Int))=true:=decide_eq_true (by omega)
    have ad:∀ s,aAdd s .i64 (a:Int) 1=.val (.int .i64 ((a:Int)+1)) s:=fun s=>aAdd_i64 s _ _ (by omega)
    simp (disch:=first|omega|(with_unfolding_all exact rfl)|(simp only[new_n,put_n,new_m];omega)|(refine put_m_le ?_;simp only[new_m];omega)) only [K9l2,K9r10,K9r11,Abs.W,reduceIte,Nat.reduceEqDiff,kLoop_def,Nat.reduceSub,efs,p4',p10,t4,kA,lA,e0,Nat.zero_add]
    generalize hlp:loopN _ rounds _ _ _ _ _=rl
    obtain ⟨L2,t2,rfl,x2,x3,x4,x5,x6,x7⟩:=envy_loop1 N hN (w:=w) (kk:=40000 * a) (a:=a) hlp ok V hlt hL g4 hp hX hN' same jn jle jml (by omega)
     (by simp only [efs,p4',reduceIte,Nat.reduceEqDiff]) (by simp only [efs,q 6 (by omega),q6,reduceIte,Nat.reduceEqDiff]) (by simp only [efs,q 7 (by omega),q7,reduceIte,Nat.reduceEqDiff]) (by simp only [efs,p9,reduceIte,Nat.reduceEqDiff]) (by simp only [efs,p10,reduceIte,Nat.reduceEqDiff]) (by simp only [efs,reduceIte,Nat.reduceEqDiff];rfl)
    have g10:L2.find 10=.int .i64 (a:Nat):=(x7 10 (by omega) (by omega)).trans (by simp only [efs,p10,reduceIte,Nat.reduceEqDiff])
    refine .inl ⟨hlt,_,t2,by
     simp (disch:=first|omega|(with_unfolding_all exact rfl)|(simp only[new_n,put_n,new_m];omega)|(refine put_m_le ?_;simp only[new_m];omega)) only [K9r26,Abs.W,reduceIte,Nat.reduceEqDiff,g10,ad]
     rfl,x2,x3,by rw [Nat.mul_succ];exact x4,x5,?_,?_,fun c hc=>?_⟩
    ·simp only [efs,x6,reduceIte,Nat.reduceEqDiff]
    ·simp only [efs,reduceIte];rfl
    ·simp only [efs]
     repeat rw [if_neg (by omega)]
     rw [x7 c (by omega) (by omega)]
     simp only [efs]
     repeat rw [if_neg (by omega)]
     exact q c hc
   ·obtain rfl:a=l.appls.length:=by omega
    have e0:decide ((l.appls.length:Int)<(l.appls.length:Int))=false:=by simp
    refine .inr ⟨.exit 0,L'.set 49 (.bool false),t',by simp,?_,rfl,same,jn,by omega,jml,?_,fun c hc=>?_⟩
    ·simp (disch:=first|omega|(with_unfolding_all exact rfl)|(simp only[new_n,put_n,new_m];omega)|(refine put_m_le ?_;simp only[new_m];omega)) only [K9l2,K9r10,Abs.W,reduceIte,Nat.reduceEqDiff,Nat.reduceSub,efs,p4',p10,t4,kA,lA,e0,Nat.zero_add]
    ·simp only [efs,p9,reduceIte,Nat.reduceEqDiff];rfl
    ·simp only [efs]
     rw [if_neg (by omega)]
     exact q c hc)
 exact ⟨L1,t,rfl,h1,h2,h3,h4,h5,h6⟩
theorem take_memP {M:List (Nat × Nat)} {i:Nat} (h:i<M.length) (x:Nat × Nat):decide (x ∈ M.take (i+1))=(decide (x ∈ M.take i) || decide (M[i]=x)):=by
 rw [take_snoc h,Bool.eq_iff_iff,Bool.or_eq_true,decide_eq_true_eq,decide_eq_true_eq,decide_eq_true_eq,List.mem_append,List.mem_singleton]
 exact ⟨fun h=>h.imp id Eq.symm,fun h=>h.imp id Eq.symm⟩
theorem envy_some (N:Nat) {cx:Ctx} {w:St} {a st b8:Nat} {vB vY:AV} {nb:Nat→Prop} {hb:List Int} {P:List (Nat × Nat)} {L:Env} {r:R} (hr:loopN K9l3 rounds (awd N) cx L [] w=r) (hB:Sl nb w.h w.n 1 (intRows hb) vB) (hst:st<hb.length) (ha:hb[st]=(a:Int)) (hY:IsAt w.h w.n b8 2 (tag 59) (P.map pairRow) vY) (hP:P.length≤64) (hm:w.m≤far) (hs':w.n+100≤far)
  (q16:L.find 16=vB) (q18:L.find 18=.int .i64 (st:Nat)) (q20:L.find 20=vY) (q22:L.find 22=.bool false) (q23:L.find 23=.int .i64 (0:Nat)) :
  ∃ L1,r=.done (.exit 8) L1 [] w∧L1.find 22=.bool (decide ((a,st) ∈ P))∧∀ c,c<22→L1.find c=L.find c:=by
 have hf:far=1000000000:=rfl
 have kB:=hB.okA
 have kY:=hY.okA
 have lY:∀ s,lenSlA s vY=.val (.int .i64 (P.length:Int)) s:=fun s=>by
  have:=hY.rows.at_.len s
  rwa [List.length_map] at this
 obtain ⟨b1,o1,c1,s1,x1,x2,x3,x4⟩:=rowInt hB.at_ hst
 rw [ha] at x4
 obtain ⟨e,L1,t,rfl,rfl,rfl,h1,h2⟩:=loop_of hr (fun k L' t'=>t'=w∧L'.find 22=.bool (decide ((a,st) ∈ P.take k))∧L'.find 23=.int .i64 (k:Nat)∧∀ c,c<22→L'.find c=L.find c) (fun e L' t'=>e=.exit 8∧t'=w∧L'.find 22=.bool (decide ((a,st) ∈ P))∧∀ c,c<22→L'.find c=L.find c) P.length (by unfold rounds;omega)
  ⟨rfl,by rw [q22];simp,q23,fun _ _=>rfl⟩
  (fun k L' t' hk ⟨hw,p22,p23,q⟩=>by
   subst hw
   have p16:=(q 16 (by omega)).trans q16
   have p18:=(q 18 (by omega)).trans q18
   have p20:=(q 20 (by omega)).trans q20
   by_cases hlt:k<P.length
   ·have e0:decide ((k:Int)<(P.length:Int))=true:=decide_eq_true (by omega)
    have ad:∀ s,aAdd s .i64 (k:Int) 1=.val (.int .i64 ((k:Int)+1)) s:=fun s=>aAdd_i64 s _ _ (by omega)
    have etk:=take_memP hlt (a,st)
    obtain ⟨bN,oN,cN,zN,y1,y2,y3,y4⟩:=hY.rows.at_.at_ k (by rw [List.length_map];exact hlt)
    have hrow:(P.map pairRow)[k]'(by rw [List.length_map];exact hlt)=[.int .i64 (P[k].1:Int),.int .i64 (P[k].2:Int)]:=by
     rw [List.getElem_map];rfl
    rw [hrow] at y4
    have e1:∀ s,eqlA (.row [(0,none,.int),(1,none,.int)]) false s (.agg [.int .i64 (P[k].1:Int),.int .i64 (P[k].2:Int)]) (.agg [.int .i64 (a:Int),.int .i64 (st:Int)])=.val (.bool (decide (P[k]=(a,st)))) s:=fun s=>by
     rw [rowEql,Bool.xor_false]
     congr 2
     rw [Bool.eq_iff_iff,Bool.and_eq_true,decide_eq_true_eq,decide_eq_true_eq,decide_eq_true_eq]
     constructor
     ·rintro ⟨h1,h2⟩;exact Prod.ext (by omega) (by omega)
     ·intro h;rw [h];exact ⟨rfl,rfl⟩
    have v3:=eq3 K9r39s3.eq_1
    have v4:=eq3 K9r39s4.eq_1
    have v5:=eq3 K9r39s5.eq_1
    have v6:=eq3 K9r39s6.eq_1
    have v7:=eq3 K9r39s7.eq_1
    have v8:=eq3 K9r39s8.eq_1
    have v9:=eq3 K9r39s9.eq_1
    have v10:=eq3 K9r39s10.eq_1
    have v11:=eq3 K9r39s11.eq_1
    have v12:=eq3 K9r39s12.eq_1
    have v13:=eq3 K9r39s13.eq_1
    cases hd:decide ((a,st) ∈ P.take k) with
    | true =>
     rw [hd] at p22 etk
     refine .inl ⟨hlt,_,t',by
      simp (config:={ maxSteps:=2000000 }) (disch:=first|omega|(with_unfolding_all exact rfl)|(simp only[new_n,put_n,new_m];omega)|(refine put_m_le ?_;simp only[new_m];omega)) only [K9l3,K9r38,K9r39,v3,v4,v5,v6,v7,v8,v9,v10,v11,v12,v13,K9r40,Abs.W,reduceIte,Nat.reduceEqDiff,efs,p20,p22,p23,lY,e0,ad]
      rfl,rfl,?_,?_,fun c hc=>?_⟩
     ·rw [etk]
      simp only [efs,reduceIte,Nat.reduceEqDiff];rfl
     ·simp only [efs,reduceIte,Nat.reduceEqDiff];rfl
     ·simp only [efs]
      repeat rw [if_neg (by omega)]
      exact q c hc
    | false =>
     rw [hd] at p22 etk
     refine .inl ⟨hlt,_,t',by
      simp (config:={ maxSteps:=2000000 }) (disch:=first|omega|(with_unfolding_all exact rfl)|(simp only[new_n,put_n,new_m];omega)|(refine put_m_le ?_;simp only[new_m];omega)) only [K9l3,K9r38,K9r39,v3,v4,v5,v6,v7,v8,v9,v10,v11,v12,v13,K9r40,Abs.W,reduceIte,Nat.reduceEqDiff,Nat.reduceSub,efs,p16,p18,p20,p22,p23,lY,e0,x2,x3,x4,y2,y3,y4,kEqlC,e1,ad]
      rfl,rfl,?_,?_,fun c hc=>?_⟩
     ·rw [etk]
      simp only [efs,reduceIte,Nat.reduceEqDiff,Bool.false_or]
     ·simp only [efs,reduceIte,Nat.reduceEqDiff];rfl
     ·simp only [efs]
      repeat rw [if_neg (by omega)]
      exact q c hc
   ·obtain rfl:k=P.length:=by omega
    have e0:decide ((P.length:Int)<(P.length:Int))=false:=by simp
    rw [List.take_length] at p22
    refine .inr ⟨.exit 8,L'.set 171 (.bool false),t',by simp,?_,rfl,rfl,?_,fun c hc=>?_⟩
    ·simp (disch:=first|omega|(with_unfolding_all exact rfl)|(simp only[new_n,put_n,new_m];omega)|(refine put_m_le ?_;simp only[new_m];omega)) only [K9l3,K9r38,Abs.W,reduceIte,Nat.reduceEqDiff,efs,p20,p23,lY,e0]
    ·simp only [efs,p22,reduceIte,Nat.reduceEqDiff]
    ·simp only [efs]
     rw [if_neg (by omega)]
     exact q c hc)
 exact ⟨L1,rfl,h1,h2⟩
end Go.Proofs.Ythbhjgbpjlnbcaa.walk
set_option maxRecDepth 10000
namespace Go.Proofs.Ythbhjgbpjlnbcaa.walk
open Go.Abs Go.Proofs.Ythbhjgbpjlnbcaa.code
theorem leave_round (N:Nat) (hN:17≤N) (cx:Ctx) {w t:St} {p4 z4 st kk:Nat} {l:Letting} {vS vA vB:AV} {no na nb:Nat→Prop} {hb:List Int} {L:Env} (ok:l.Ok) (V:ValidH l hb) (hst:st<hb.length) (hL:LetAt no na w.h w.n l vS vA) (g4:w.h.get p4=some (.cells [vS,vA] z4)) (hp:p4<w.n) (hB:Sl nb w.h w.n 1 (intRows hb) vB) (same:∀ c,c<w.n→t.h.get c=w.h.get c) (jn:w.n≤t.n) (jle:t.n≤w.n+kk) (jml:t.m≤far) (hs':w.n+kk+5000000≤far)
  (q4:L.find 4=.ptr p4 0) (q16:L.find 16=vB) (q18:L.find 18=.int .i64 (st:Nat)) :
  ∃ L1 t1,K9l4 (awd N) cx L [] t=.done .norm L1 [] t1∧(∀ c,c<w.n→t1.h.get c=w.h.get c)∧w.n≤t1.n∧t1.n≤w.n+(kk+300100)∧t1.m≤far∧L1.find 18=.int .i64 (st+1:Nat)∧∀ c,c<18→L1.find c=L.find c:=by
 have hf:far=1000000000:=rfl
 have knC:∀ args s,awd N (.fn 28) args s=call Try.prog X N (.fn 28) args s:=fun _ _=>rfl
 have knE:∀ args s,awd N (.fn 20) args s=call Try.prog X N (.fn 20) args s:=fun _ _=>rfl
 have k1:=ok.k1
 have vl:=V.len
 have hBt:=hB.grow same jn
 have kB:=hBt.okA
 have lB:=rowLen hBt.at_
 have e0:decide ((st:Int)<(hb.length:Int))=true:=decide_eq_true (by omega)
 have ad:∀ s,aAdd s .i64 (st:Int) 1=.val (.int .i64 ((st:Int)+1)) s:=fun s=>aAdd_i64 s _ _ (by omega)
 obtain ⟨b1,o1,c1,s1,x1,x2,x3,x4⟩:=rowInt hBt.at_ hst
 rcases V.can st hst with h | ⟨a,h,ha,hc⟩
 ·rw [h] at x4
  have e1:decide ((-1:Int)<0)=true:=rfl
  refine ⟨_,t,by
   simp (disch:=first|omega|(with_unfolding_all exact rfl)|(simp only[new_n,put_n,new_m];omega)|(refine put_m_le ?_;simp only[new_m];omega)) only [K9l4,K9r31,K9r32,K9r43,Abs.W,reduceIte,Nat.reduceEqDiff,efs,q16,q18,lB,e0,x2,x3,x4,e1,ad]
   rfl,same,jn,by omega,jml,?_,fun c hc=>?_⟩
  ·simp only [efs,reduceIte,Nat.reduceEqDiff];rfl
  ·simp only [efs]
   repeat rw [if_neg (by omega)]
 ·have hx:=h
  rw [h] at x4
  have e1:decide ((a:Int)<0)=false:=decide_eq_false (by omega)
  simp (disch:=first|omega|(with_unfolding_all exact rfl)|(simp only[new_n,put_n,new_m];omega)|(refine put_m_le ?_;simp only[new_m];omega)) only [K9l4,K9r31,K9r32,K9r33,Abs.W,reduceIte,Nat.reduceEqDiff,efs,q16,q18,lB,e0,x2,x3,x4,e1,knC]
  generalize hc1:call _ _ _ (.fn 28) _ _=rc
  obtain ⟨vC,t1,rfl,s1',S1,I1,_⟩:=copyInts_ex (l:=hb) hc1 (by omega) hBt (by omega) (by omega)
  have s1n:=s1'.n
  have s1l:=s1'.le
  have s1m:=s1'.m
  have hne:hb≠[]:=fun e=>by rw [e] at hst;simp at hst
  have hvC:vC=.slice (t.n+1) 0 hb.length hb.length true∧t.n+1<t1.n∧t1.h.get (t.n+1)=some (.cells (hcell hb) (1+tag 3)):=by
   rcases (I1 hne).is with ⟨z,_⟩ | ⟨_,z1,z2,z3⟩
   ·exact absurd (List.map_eq_nil_iff.mp z) hne
   ·rw [intRows_len] at z2;exact ⟨z2,z1,z3⟩
  obtain ⟨hvC,hCn,gC⟩:=hvC
  have ixC:∀ s,ixsA 1 s vC (.int .i64 (st:Int))=.val (.ptr (t.n+1) st) s:=fun s=>by rw [hvC,ixs_slice 1 s (t.n+1) 0 _ _ true st hst,Nat.zero_add,Nat.mul_one]
  have ov:=hcell_over (hs:=hb) (i:=st) hst (-1)
  obtain ⟨y,hy⟩:∃ y:St,y=t1.put (t.n+1) (.cells (hcell (hb.set st (-1))) (1+tag 3)):=⟨_,rfl⟩
  have yn:y.n=t1.n:=by rw [hy];rfl
  have ym:y.m≤t1.m:=by rw [hy];simp only [St.put,minN_eq];omega
  have yg:∀ c,c≠t.n+1→y.h.get c=t1.h.get c:=fun c hc=>by rw [hy,get_put_ne' _ _ _ _ hc]
  have yC:y.h.get (t.n+1)=some (.cells (hcell (hb.set st (-1))) (1+tag 3)):=by rw [hy];exact get_put_eq _ _ _ _ rfl (by omega)
  have yw:∀ c,c<w.n→y.h.get c=w.h.get c:=fun c hc=>(yg c (by omega)).trans ((s1'.same c (by omega)).trans (same c hc))
  have IC:IsAt y.h y.n (t.n+1) 1 (tag 3) (intRows (hb.set st (-1))) vC:=by
   refine ⟨hcell_wide _,.inr ⟨fun e=>?_,by omega,?_,yC⟩⟩
   ·have:=congrArg List.length e
    rw [intRows_len,List.length_set,List.length_nil] at this
    exact hne (List.length_eq_zero_iff.mp this)
   ·rw [intRows_len,List.length_set];exact hvC
  have kC:=IC.okA
  have V':=left_valid V st
  have hLy:=hL.grow (h':=y.h) (n':=y.n) yw (by omega)
  have kS:=hLy.okS
  have kA:=hLy.okV
  have y4:=(yw p4 hp).trans g4
  have hBy:=hB.grow (h':=y.h) (n':=y.n) yw (by omega)
  simp (disch:=first|omega|(with_unfolding_all exact rfl)|(simp only[new_n,put_n,new_m];omega)|(refine put_m_le ?_;simp only[new_m];omega)) only [K9r34,Abs.W,reduceIte,Nat.reduceEqDiff,efs,q18,ixC,gC,ov]
  rw [← hy]
  simp (disch:=first|omega|(with_unfolding_all exact rfl)|(simp only[new_n,put_n,new_m];omega)|(refine put_m_le ?_;simp only[new_m];omega)) only [K9r35,Abs.W,reduceIte,Nat.reduceEqDiff,Nat.reduceSub,efs,q4,y4,knE]
  generalize hc2:call _ _ _ (.fn 20) _ _=rc
  obtain ⟨vY,b8,t2,rfl,s2,iY,hb8⟩:=envies_ex hc2 (by omega) ok V' hLy (Sl.of_at (no:=fun _=>True) IC fun _=>trivial) (by omega)
  have s2n:=s2.n
  have s2l:=s2.le
  have s2m:=s2.m
  have kY:=iY.okA
  have ex0:∀ (a b:AV) (s:St),extA 0 s (.tup [a,b])=.val a s:=fun _ _ _=>rfl
  have ex1:∀ (a b:AV) (s:St),extA 1 s (.tup [a,b])=.val b s:=fun _ _ _=>rfl
  have okt:∀ (a b:AV) (s:St),okA (.val (.tup [a,b]) s)=.val (.tup [a,b]) s:=fun _ _ _=>rfl
  have z0:decide ((0:Int)=0)=true:=rfl
  have n1:∀ s (c:Bool),notA s (.bool c)=.val (.bool !c) s:=fun _ _=>rfl
  have hPl:=envP_len ok (hb.set st (-1)) (Nat.le_refl l.appls.length)
  have hmem:=left_envy ok V hst hx
  simp (disch:=first|omega|(with_unfolding_all exact rfl)|(simp only[new_n,put_n,new_m];omega)|(refine put_m_le ?_;simp only[new_m];omega)) only [K9r36,K9r37,Abs.W,reduceIte,Nat.reduceEqDiff,kLoop_def,efs,ex0,ex1]
  generalize hlp:loopN _ rounds _ _ _ _ _=rl
  obtain ⟨L3,rfl,f22,f3⟩:=envy_some N (a:=a) (st:=st) hlp (hBy.grow s2.same (by omega)) hst hx iY hPl (by omega) (by omega)
   (by simp only [efs,q16,reduceIte,Nat.reduceEqDiff]) (by simp only [efs,q18,reduceIte,Nat.reduceEqDiff]) (by simp only [efs,reduceIte,Nat.reduceEqDiff]) (by simp only [efs,reduceIte,Nat.reduceEqDiff]) (by simp only [efs,reduceIte,Nat.reduceEqDiff];rfl)
  rw [decide_eq_true hmem] at f22
  have g18:L3.find 18=.int .i64 (st:Nat):=(f3 18 (by omega)).trans (by simp only [efs,q18,reduceIte,Nat.reduceEqDiff])
  have g21:L3.find 21=.int .i64 0:=(f3 21 (by omega)).trans (by simp only [efs,reduceIte,Nat.reduceEqDiff])
  have v4:=eq3 K9r41s4.eq_1
  have v5:=eq3 K9r41s5.eq_1
  refine ⟨_,t2,by
   simp (disch:=first|omega|(with_unfolding_all exact rfl)|(simp only[new_n,put_n,new_m];omega)|(refine put_m_le ?_;simp only[new_m];omega)) only [K9r41,v4,v5,K9r43,Abs.W,reduceIte,Nat.reduceEqDiff,decide_true,efs,f22,g18,g21,n1,ad]
   rfl,fun c hc=>(s2.same c (by omega)).trans (yw c hc),by omega,by rw [← Nat.add_assoc];omega,by omega,?_,fun c hc=>?_⟩
  ·simp only [efs,reduceIte,Nat.reduceEqDiff];rfl
  ·simp only [efs]
   repeat rw [if_neg (by omega)]
   rw [f3 c (by omega)]
   simp only [efs]
   repeat rw [if_neg (by omega)]
theorem leave_loop (N:Nat) (hN:17≤N) {cx:Ctx} {w:St} {p4 z4:Nat} {l:Letting} {vS vA vB:AV} {no na nb:Nat→Prop} {hb:List Int} {L:Env} {r:R} (hr:loopN K9l4 rounds (awd N) cx L [] w=r) (ok:l.Ok) (V:ValidH l hb) (hL:LetAt no na w.h w.n l vS vA) (g4:w.h.get p4=some (.cells [vS,vA] z4)) (hp:p4<w.n) (hB:Sl nb w.h w.n 1 (intRows hb) vB) (hm:w.m≤far) (hs':w.n+10000000≤far)
  (q4:L.find 4=.ptr p4 0) (q16:L.find 16=vB) (q18:L.find 18=.int .i64 (0:Nat)) :
  ∃ L1 t,r=.done (.exit 6) L1 [] t:=by
 have hf:far=1000000000:=rfl
 have k1:=ok.k1
 have vl:=V.len
 have kB:=hB.okA
 have lB:=rowLen hB.at_
 obtain ⟨e,L1,t,rfl,rfl⟩:=loop_of hr (fun i L' t'=>(∀ c,c<w.n→t'.h.get c=w.h.get c)∧w.n≤t'.n∧t'.n≤w.n+300100 * i∧t'.m≤far∧L'.find 18=.int .i64 (i:Nat)∧∀ c,c<18→L'.find c=L.find c) (fun e L' t'=>e=.exit 6) hb.length (by unfold rounds;omega)
  ⟨fun _ _=>rfl,Nat.le_refl _,by omega,hm,q18,fun _ _=>rfl⟩
  (fun i L' t' hi ⟨same,jn,jle,jml,p18,q⟩=>by
   have p16:=(q 16 (by omega)).trans q16
   by_cases hlt:i<hb.length
   ·obtain ⟨L2,t2,x1,x2,x3,x4,x5,x6,x7⟩:=leave_round N hN cx ok V hlt hL g4 hp hB same jn jle jml (by omega) ((q 4 (by omega)).trans q4) p16 p18
    exact .inl ⟨hlt,L2,t2,x1,x2,x3,by rw [Nat.mul_succ];exact x4,x5,x6,fun c hc=>(x7 c hc).trans (q c hc)⟩
   ·obtain rfl:i=hb.length:=by omega
    have e0:decide ((hb.length:Int)<(hb.length:Int))=false:=by simp
    refine .inr ⟨.exit 6,L'.set 149 (.bool false),t',by simp,?_,rfl⟩
    simp (disch:=first|omega|(with_unfolding_all exact rfl)|(simp only[new_n,put_n,new_m];omega)|(refine put_m_le ?_;simp only[new_m];omega)) only [K9l4,K9r31,Abs.W,reduceIte,Nat.reduceEqDiff,efs,p16,p18,lB,e0])
 exact ⟨L1,t,rfl⟩
noncomputable def envRest:K:=(kSeq (kRegion K9r2 [4]) (kSeq (kRegion K9r3 [5]) (kSeq (kRegion K9r4 [6]) (kSeq (kRegion K9r5 [7,8]) (kSeq (kSeq (kRegion K9r6 [44]) (kCond (.tmp 44) (kSeq (kRegion K9r7 [2]) kRet) kSkip)) (kSeq (kRegion K9r8 [9]) (kSeq (kSeq (kRegion K9r9 [10]) (kBlock 0 (kLoop K9l2))) (kSeq (kRegion K9r27 [16,17]) (kSeq (kSeq (kRegion K9r28 [145]) (kCond (.tmp 145) (kSeq (kRegion K9r29 [2]) kRet) kSkip)) (kSeq (kSeq (kRegion K9r30 [18]) (kBlock 6 (kLoop K9l4))) (kSeq (kRegion K9r44 [2]) kRet)))))))))))
theorem env_body (n:Nat) (hn:20≤n) (cx:Ctx) (s:St) (d:Nat) (hd:Die d s.h) (hdn:d<s.n) (hs:s.n+900000000≤far) (hm:s.m=far) :
  ∃ s',finA Try.prog Try.f9 (envRest (awd n) cx (.cons 3 (.ptr d 0) .nil) [] s)=.val (.bool true) s':=by
 have hf:far=1000000000:=rfl
 have knB:∀ args s,awd n (.fn 12) args s=call Try.prog X n (.fn 12) args s:=fun _ _=>rfl
 have knD:∀ args s,awd n (.fn 18) args s=call Try.prog X n (.fn 18) args s:=fun _ _=>rfl
 have knE:∀ args s,awd n (.fn 22) args s=call Try.prog X n (.fn 22) args s:=fun _ _=>rfl
 have knV:∀ args s,awd n (.fn 20) args s=call Try.prog X n (.fn 20) args s:=fun _ _=>rfl
 have knC:∀ args s,awd n (.fn 15) args s=call Try.prog X n (.fn 15) args s:=fun _ _=>rfl
 have knA:∀ s,awd n (.fn 14) [] s=.val (.bool true) s:=fun _=>rfl
 have ex0:∀ (a b:AV) (s:St),extA 0 s (.tup [a,b])=.val a s:=fun _ _ _=>rfl
 have ex1:∀ (a b:AV) (s:St),extA 1 s (.tup [a,b])=.val b s:=fun _ _ _=>rfl
 have okt:∀ (a b:AV) (s:St),okA (.val (.tup [a,b]) s)=.val (.tup [a,b]) s:=fun _ _ _=>rfl
 have z0:decide ((0:Int)=0)=true:=rfl
 unfold envRest
 simp (disch:=first|omega|(with_unfolding_all exact rfl)|(simp only[new_n,put_n,new_m];omega)|(refine put_m_le ?_;simp only[new_m];omega)) only [K9r2,Abs.W,reduceIte,Nat.reduceEqDiff,knB]
 generalize hc1:call _ _ _ (.fn 12) _ _=r1
 obtain ⟨l,vS,vA,bS,bA,t1,rfl,st1,d1,ok,hk,hmm,own⟩:=LettingOf_ex (k:=4) (m:=4) hc1 (by omega) hd hdn (by omega) (by omega) (by omega)
 have n1:=st1.n
 have k1:=st1.le
 have m1:=st1.mle
 have scB:=own.at_.scal
 have kA:=own.at_.okV
 have kS:=own.at_.okS
 have lS:=own.at_.lenS
 simp (disch:=first|omega|(with_unfolding_all exact rfl)|(simp only[new_n,put_n,new_m];omega)|(refine put_m_le ?_;simp only[new_m];omega)) only [Abs.W,reduceIte,Nat.reduceEqDiff,Nat.reduceAdd,Nat.reduceSub,scB,Nat.zero_add]
 obtain ⟨y,hy⟩:∃ y:St,y=(t1.new (.cells [.nilslice,.nilslice] (tag 28))).put t1.n (.cells [vS,vA] (tag 28)):=⟨_,rfl⟩
 have yn:y.n=t1.n+1:=by rw [hy];rfl
 have ym:y.m≤t1.m:=by rw [hy];simp only [St.put,minN_eq,new_m];omega
 have yg:∀ c,c<t1.n→y.h.get c=t1.h.get c:=fun c hc=>by rw [hy,get_put_ne' _ _ _ _ (by omega),get_new_ne _ _ _ (by omega)]
 have y4:y.h.get t1.n=some (.cells [vS,vA] (tag 28)):=by rw [hy];exact get_put_eq _ _ _ _ rfl (by omega)
 have dy:Die d y.h:=Die.keep d1 (yg d (by omega))
 have owny:=own.grow (h':=y.h) (n':=y.n) (fun c h1 _=>yg c h1) (by omega)
 rw [← hy]
 clear hy
 obtain ⟨hfew,hasz⟩:=all_few hmm hk
 simp (disch:=first|omega|(with_unfolding_all exact rfl)|(simp only[new_n,put_n,new_m];omega)|(refine put_m_le ?_;simp only[new_m];omega)) only [K9r3,Abs.W,reduceIte,Nat.reduceEqDiff,Nat.reduceSub,y4,knE]
 generalize hc5:call _ _ _ (.fn 22) _ _=r5
 obtain ⟨bM,vM,t5,rfl,s5,hT,hbM⟩:=all_ex l.stalls.length (f:=[]) (nf:=fun _=>False) hc5 (by omega) ok hmm hk (by simp) owny.at_ (Sl.nil _ _ _ _) (by omega)
 have n5:=s5.n
 have k5:=s5.le
 have m5:=s5.m
 have x5:=(s5.same t1.n (by omega)).trans y4
 have d5:Die d t5.h:=Die.keep dy (s5.same d (by omega))
 have own5:=owny.grow (h':=t5.h) (n':=t5.n) (fun c h1 _=>s5.same c h1) (by omega)
 have kM:=hT.okA
 have lM:=hT.len
 have hne:=allL_ne l l.stalls.length []
 have hvalid:=allL_valid l l.stalls.length [] (by simp) (part_nil l)
 generalize allL l l.stalls.length []=M at hT lM hne hvalid hfew
 have hpos:0<M.length:=List.length_pos_iff.mpr hne
 simp (disch:=first|omega|(with_unfolding_all exact rfl)|(simp only[new_n,put_n,new_m];omega)|(refine put_m_le ?_;simp only[new_m];omega)) only [K9r4,Abs.W,reduceIte,Nat.reduceEqDiff,lM,knC]
 generalize hc7:call _ _ _ (.fn 15) _ _=r7
 obtain ⟨x7,t7,rfl,st7,d7,x70,x71⟩:=cast_ex hc7 (by omega) d5 (by omega) (by omega) (by omega)
 obtain ⟨j,rfl⟩:∃ n:Nat,x7=n:=⟨x7.toNat,by omega⟩
 have hj:j<M.length:=by omega
 have n7:=st7.n
 have k7:=st7.le
 have m7:=st7.mle
 have g7:∀ c,c<t5.n→c≠d→t7.h.get c=t5.h.get c:=st7.same
 have x7:=(g7 t1.n (by omega) (by omega)).trans x5
 have own7:=own5.grow (h':=t7.h) (n':=t7.n) (fun c h1 h2=>g7 c h1 (by omega)) (by omega)
 have hbM5:bM<t5.n:=by obtain ⟨_,_,_,_,_,h3,_⟩:=hT;exact h3
 have hT7:TabI t7.h t7.n bM (fun x=>y.n≤x) M vM:=hT.move (g7 bM hbM5 (by omega)) (fun c hc h=>by
  have h2:y.n≤c:=h.elim (fun h=>h.1.elim) id
  exact ⟨g7 c hc (by omega),h2⟩) (by omega)
 obtain ⟨vG,pM,cM,zM,G1,G2,G3,G4⟩:=hT7.get hj
 have Vg:=hvalid M[j] (List.getElem_mem hj)
 have kG:=G1.okA
 simp (disch:=first|omega|(with_unfolding_all exact rfl)|(simp only[new_n,put_n,new_m];omega)|(refine put_m_le ?_;simp only[new_m];omega)) only [K9r5,Abs.W,reduceIte,Nat.reduceEqDiff,Nat.reduceSub,G2,G3,G4,kG,x7,knV]
 generalize hc8:call _ _ _ (.fn 20) _ _=r8
 obtain ⟨vN,b8,t8,rfl,s8,i8,hb8⟩:=envies_ex hc8 (by omega) ok Vg own7.at_ G1 (by omega)
 have n8:=s8.n
 have k8':=s8.le
 have m8:=s8.m
 have kN:=i8.okA
 have lN:∀ s,lenSlA s vN=.val (.int .i64 ((envP l M[j] l.appls.length).length:Int)) s:=fun s=>by
  have:=i8.rows.at_.len s
  rwa [List.length_map] at this
 have x8:=(s8.same t1.n (by omega)).trans x7
 have own8:=own7.grow (h':=t8.h) (n':=t8.n) (fun c h1 _=>s8.same c h1) (by omega)
 have G8:=G1.grow s8.same (by omega:t7.n≤t8.n)
 simp (disch:=first|omega|(with_unfolding_all exact rfl)|(simp only[new_n,put_n,new_m];omega)|(refine put_m_le ?_;simp only[new_m];omega)) only [K9r6,K9r8,K9r9,Abs.W,reduceIte,Nat.reduceEqDiff,decide_true,kLoop_def,ex0,ex1]
 generalize hlp:loopN _ rounds _ _ _ _ _=rl
 obtain ⟨L1,t9,rfl,g9,n9,k9,m9,f9,gL⟩:=envy_loop2 n (by omega) (p4:=t1.n) (hs:=M[j]) hlp ok Vg own8.at_ x8 (by omega) G8 i8 (by omega) (by omega)
  (by simp only [find_cons,reduceIte,Nat.reduceEqDiff]) (by simp only [find_cons,reduceIte,Nat.reduceEqDiff]) (by simp only [find_cons,reduceIte,Nat.reduceEqDiff]) (by simp only [find_cons,reduceIte,Nat.reduceEqDiff];rfl) (by simp only [find_cons,reduceIte,Nat.reduceEqDiff];rfl)
 have h4:L1.find 4=.ptr t1.n 0:=(gL 4 (by omega)).trans (by simp only [find_cons,reduceIte,Nat.reduceEqDiff])
 have h7:L1.find 7=vN:=(gL 7 (by omega)).trans (by simp only [find_cons,reduceIte,Nat.reduceEqDiff])
 have x9:=(g9 t1.n (by omega)).trans x8
 have own9:=own8.grow (h':=t9.h) (n':=t9.n) (fun c h1 _=>g9 c h1) (by omega)
 simp (disch:=first|omega|(with_unfolding_all exact rfl)|(simp only[new_n,put_n,new_m];omega)|(refine put_m_le ?_;simp only[new_m];omega)) only [K9r27,Abs.W,reduceIte,Nat.reduceSub,h4,x9,knD]
 generalize hc3:call _ _ _ (.fn 18) _ _=r3
 obtain ⟨vX,t3,hsX,rfl,s3,SX,hXl,IX⟩:=Let_ex hc3 (by omega) ok own9.at_ (by omega)
 have n3:=s3.n
 have k3:=s3.le
 have m3:=s3.m
 have kX:=SX.okA
 have lX:∀ s,lenSlA s vX=.val (.int .i64 (l.stalls.length:Int)) s:=fun s=>by
  have:=rowLen SX.at_ s
  rw [hXl] at this
  exact this
 have x3:=(s3.same t1.n (by omega)).trans x9
 have own3:=own9.grow (h':=t3.h) (n':=t3.n) (fun c h1 _=>s3.same c h1) (by omega)
 have z1:decide ((l.stalls.length:Int)=(l.stalls.length:Int))=true:=by simp
 have z2:decide (((envP l M[j] l.appls.length).length:Int)=((envP l M[j] l.appls.length).length:Int))=true:=by simp
 have u6:=eq3 K9r28s6.eq_1
 have u7:=eq3 K9r28s7.eq_1
 have u10:=eq3 K9r28s10.eq_1
 have u11:=eq3 K9r28s11.eq_1
 have u12:=eq3 K9r28s12.eq_1
 have u13:=eq3 K9r28s13.eq_1
 have u14:=eq3 K9r28s14.eq_1
 have u15:=eq3 K9r28s15.eq_1
 simp (config:={ maxSteps:=2000000 }) (disch:=first|omega|(with_unfolding_all exact rfl)|(simp only[new_n,put_n,new_m];omega)|(refine put_m_le ?_;simp only[new_m];omega)) only [K9r28,u6,u7,u10,u11,u12,u13,u14,u15,K9r30,Abs.W,reduceIte,Nat.reduceEqDiff,decide_true,kLoop_def,Nat.reduceSub,efs,ex0,ex1,f9,h4,h7,x3,kS,lN,lS,lX,Nat.zero_add]
 generalize hlp:loopN _ rounds _ _ _ _ _=rl
 obtain ⟨L2,t10,rfl⟩:=leave_loop n (by omega) (p4:=t1.n) hlp ok (Inv_valid ok hXl IX) own3.at_ x3 (by omega) SX (by omega) (by omega)
  (by simp only [efs,h4,reduceIte,Nat.reduceEqDiff]) (by simp only [efs,reduceIte,Nat.reduceEqDiff]) (by simp only [efs,reduceIte,Nat.reduceEqDiff];rfl)
 simp (disch:=first|omega|(with_unfolding_all exact rfl)|(simp only[new_n,put_n,new_m];omega)|(refine put_m_le ?_;simp only[new_m];omega)) only [K9r44,res9,Abs.W,reduceIte,Nat.reduceEqDiff,efs,knA]
 exact ⟨_,rfl⟩
end Go.Proofs.Ythbhjgbpjlnbcaa.walk
set_option maxRecDepth 10000
namespace Go.Proofs.Ythbhjgbpjlnbcaa.walk
open Go.Abs Go.Proofs.Ythbhjgbpjlnbcaa.code
end Go.Proofs.Ythbhjgbpjlnbcaa.walk
