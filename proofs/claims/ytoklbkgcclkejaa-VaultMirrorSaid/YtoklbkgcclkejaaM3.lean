/- What a site knows of a put: its spot, its kind; distances, and how many there are of a kind. -/
import Derived.Test.YtoklbkgcclkejaaM2
import Derived.Test.YtoklbkgcclkejaaCodes
import Derived.Test.YtoklbkgcclkejaaWalkAll
set_option linter.unusedSimpArgs false
set_option linter.unusedVariables false
set_option maxHeartbeats 16000000
set_option linter.unusedVariables false
set_option maxRecDepth 10000
namespace Go.Abs
theorem zLA (sh:Option Nat) (off:Nat) (s:St) (cs:List AV):WS sh off s (.agg cs)=okA (.val (yW sh cs off) s):=Eq.trans (Eq.refl _) (Eq.refl _)
theorem vCA (c:Cmp) (n:Bool) (x y:Arg) (L:Env) (s:St):wuA c n x y L s=vVA c n s (x.ev L) (y.ev L):=Eq.trans (Eq.refl _) (Eq.refl _)
end Go.Abs
namespace Go.Proofs.Ytoklbkgcclkejaa.walk
open Go.Abs Go.Proofs.Ytoklbkgcclkejaa.code
abbrev PutR.row (p:PutR):List AV:=[.int .i64 p.x,.int .i64 p.y,.int .i64 (p.kind:Int)]
theorem gKA (a b:Int × Int) (s:St):vVA JV false s (.agg (jC a)) (.agg (jC b))=.val (.bool (decide (a=b))) s:=by
 unfold vVA
 rw [VZA]
 cases decide (a=b)<;>rfl
theorem zZA (N:Nat) (hN:1≤N) {sc:List AV} {H:HallR} {vW vS vB vK:AV} {rb p:Nat} (hS:SiteC sc H vW vS vB vK rb) {x y:Nat} (hx:x<6) (hy:y<4) (k:Int) (s:St) (g:s.h.get p=some (vQ sc)) (hp:p<s.n) (hs:s.n+10≤far) :
  call Try.prog X N (.fn 72) [.ptr p 0,.agg [.int .i64 (x:Int),.int .i64 (y:Int),.int .i64 k]] s=.val (.agg [.bool (H.spots (y * 6+x)).water,.bool (H.spots (y * 6+x)).shut,.int .i64 (H.spots (y * 6+x)).bay]) s:=by
 obtain ⟨n,rfl⟩:∃ n,N=n+1:=⟨N - 1,by omega⟩
 refine zj Try.func72 (fun u uh un um=>?_) rfl
 rw [← uh] at g
 rw [← un] at hp
 have hf:=hfar
 have hc:=hS.spot (y * 6+x) (by omega)
 rw [show 8+(y * 6+x) * 3=8+y * 18+x * 3 by omega] at hc
 have i1:=fun s=>Jl 4 18 s p 8 y hy
 have i2:=fun s=>Jl 6 3 s p (8+y * 18) x hx
 have shF:yH Try.prog 102=some (some 3):=by kernel_rfl
 rw [zhQ]
 simp (disch:=first|omega|(with_unfolding_all exact rfl)|(simp only[zW,jB,jF];omega)|(refine jU ?_;simp only[jF];omega)) only [K72,K72r0,K72r1,Abs.W,reduceIte,Nat.reduceEqDiff,Nat.reduceAdd,Nat.reduceSub,g,Nat.zero_add,Nat.add_zero,i1,i2,hc]
 rw [res72]
 refine ⟨_,yz _ _ _ _ shF ?_,?_⟩
 ·simp (disch:=first|omega|(with_unfolding_all exact rfl)|(simp only[zW,jB,jF];omega)|(refine jU ?_;simp only[jF];omega)) only [Abs.W,reduceIte,Nat.reduceEqDiff,Nat.reduceAdd,Nat.reduceSub]
 ·simp only [St.put,zQ,zW,jF];omega
noncomputable def Jy (s:St) (a r:List AV):St:=⟨(((s.new (.cells a (tag 51))).new (.cells [.int .i64 0,.int .i64 0,.bool false,.nilslice,.int .i64 0,.int .i64 0] (tag 49))).put (s.n+1) (.cells r (tag 49))).h,s.n+2,s.m⟩
theorem vz (s:St) (a r:List AV) (b:Nat) (h:b<s.n):(Jy s a r).h.get b=s.h.get b:=by
 unfold Jy
 rw [zL _ _ _ _ (by omega),zH _ _ _ (by rw [zW];omega),zH _ _ _ (by omega)]
theorem JO (N:Nat) (hN:1≤N) {no:Nat→Prop} {sc:List AV} {H:HallR} {vW vS vB vK:AV} {rb p:Nat} (hS:SiteC sc H vW vS vB vK rb) {k:Nat} (hk:k<H.kinds.length) (ok:H.Ok) (u0:St) (hK:KindsAt no u0.h u0.n H.kinds vK) (g:u0.h.get p=some (vQ sc)) (hp:p<u0.n) :
  ∃ w,Sl no u0.h u0.n 1 (jA (H.kind k).away) w∧∀ (x y:Int) (s:St),(∀ b,b<u0.n→s.h.get b=u0.h.get b)→u0.n≤s.n→s.n+10≤far→s.m≤far →
   call Try.prog X N (.fn 74) [.ptr p 0,.agg [.int .i64 x,.int .i64 y,.int .i64 (k:Int)]] s=.val (.agg ((H.kind k).row w)) (Jy s [.int .i64 x,.int .i64 y,.int .i64 (k:Int)] ((H.kind k).row w)):=by
 obtain ⟨n,rfl⟩:∃ n,N=n+1:=⟨N - 1,by omega⟩
 have hf:=hfar
 obtain ⟨w,b,q,cs,sz,⟨r1,_⟩,r2,r3,r4,r5⟩:=hK.get hk
 have hki:H.kind k=H.kinds[k]:=by unfold HallR.kind;rw [List.getD_eq_getElem?_getD,List.getElem?_eq_getElem hk];rfl
 have hal:=(ok.k _ (List.getElem_mem hk)).al
 have hk0:=ok.k0
 rw [← hki] at r4 r5 hal
 generalize H.kind k=K at *
 have hne:∃ b o n c e,w=.slice b o n c e:=by
  rcases r5.is with ⟨h1,_⟩ | ⟨b,o,cap,e,c,sz,_,_,_,h2,_⟩
  ·have:=congrArg List.length h1
   rw [jc,List.length_nil] at this
   omega
  ·exact ⟨_,_,_,_,_,h2⟩
 refine ⟨w,r5,fun x y s hh hn hs hm=>?_⟩
 have hpl:plain (.agg (K.row w))=false:=by
  obtain ⟨b,o,n,c,e,rfl⟩:=hne
  rfl
 have hsc:scalars (K.row w)=true:=by
  show scalars [w,.int .i64 K.rent,.int .i64 K.most]=true
  rw [r5.scal.2.2];rfl
 have kv:=hK.okA
 have kw:=r5.okA
 obtain ⟨v,t,e,st,hv,hh',hn'⟩:=vm (n:=n) (args:=[.ptr p 0,.agg [.int .i64 x,.int .i64 y,.int .i64 (k:Int)]]) (s:=s) (k:=2) (Q:=fun v h n=>v=.agg (K.row w)∧h=(Jy s [.int .i64 x,.int .i64 y,.int .i64 (k:Int)] (K.row w)).h∧n=s.n+2) Try.func74 rfl (fun u uh un um=>by
  have g0:u.h.get p=some (vQ sc):=by rw [uh,hh p hp];exact g
  have gb:u.h.get b=some (.cells cs sz):=by rw [uh,hh b r1];exact r3
  have hk7:=hS.k
  have shF:yH Try.prog 49=some (some 6):=by kernel_rfl
  unfold KindR.row at r4
  obtain ⟨yy,hy⟩:∃ yy:St,yy=(u.new (.cells [.int .i64 x,.int .i64 y,.int .i64 (k:Int)] (tag 51))).new (.cells [.int .i64 0,.int .i64 0,.bool false,.nilslice,.int .i64 0,.int .i64 0] (tag 49)):=⟨_,rfl⟩
  have yn:yy.n=u.n+2:=by rw [hy];rfl
  have ym:yy.m=far:=by rw [hy];exact um
  have yg:∀ c,c<u.n→yy.h.get c=u.h.get c:=fun c hc=>by rw [hy,zH _ _ _ (by rw [zW];omega),zH _ _ _ (by omega)]
  have y1:yy.h.get (u.n+1)=some (.cells [.int .i64 0,.int .i64 0,.bool false,.nilslice,.int .i64 0,.int .i64 0] (tag 49)):=by rw [hy];exact zM _ _ _ rfl (by rw [zW];omega)
  have y0:yy.h.get u.n=some (.cells [.int .i64 x,.int .i64 y,.int .i64 (k:Int)] (tag 51)):=by rw [hy,zH _ _ _ (by rw [zW];omega)];exact zM _ _ _ rfl (by omega)
  have gp:=(yg p (by omega)).trans g0
  have gk:=(yg b (by omega)).trans gb
  have st:jM 6 yy (.agg [.int .i64 K.lo,.int .i64 K.hi,.bool K.water,w,.int .i64 K.rent,.int .i64 K.most]) (.ptr (u.n+1) 0)=.val .undef (yy.put (u.n+1) (.cells (K.row w) (tag 49))):=jk _ 6 _ _ _ _ y1 rfl rfl hsc
  rw [zfQ]
  simp (disch:=first|omega|with_unfolding_all rfl) only [K74,K74r0,Abs.W,reduceIte,Nat.reduceEqDiff,Nat.reduceAdd,Nat.reduceSub]
  rw [← hy]
  simp (disch:=first|omega|(with_unfolding_all exact rfl)|(simp only[zW,jB,jF];omega)|(refine jU ?_;simp only[jF];omega)) only [yJQ,Abs.W,reduceIte,Nat.reduceEqDiff,Nat.reduceAdd,Nat.reduceSub,zW,gp,gk,y0,hk7,kv,r2,r4,st,Nat.zero_add]
  rw [res74]
  refine ⟨_,_,yz _ _ _ _ shF ?_,⟨fun c hc=>?_,?_,?_,?_,?_⟩,hpl,rfl,?_,?_⟩
  ·simp (disch:=first|omega|with_unfolding_all rfl) only [Abs.W,reduceIte,Nat.reduceEqDiff,Nat.reduceAdd,Nat.reduceSub]
   rfl
  ·rw [zL _ _ _ _ (by omega)];exact yg c hc
  ·simp only [jB];omega
  ·simp only [jB];omega
  ·simp only [St.put,zQ];omega
  ·simp only [St.put,zQ];omega
  ·rw [hy]
   unfold Jy St.put St.new
   simp only [uh,un]
  ·rw [jB,yn,un])
 rw [e,hv]
 congr 1
 exact St.ext3 hh' hn' st.m
theorem jaQ (N:Nat) (hN:1≤N) (a b c d:Int) (s:St) (ha : -100≤a∧a≤100) (hb : -100≤b∧b≤100) (hc : -100≤c∧c≤100) (hd : -100≤d∧d≤100) (hs:s.n+10≤far) :
  call Try.prog X N (.fn 93) [.agg [.int .i64 a,.int .i64 b],.agg [.int .i64 c,.int .i64 d]] s=.val (.int .i64 (max (a - c) (c - a)+max (b - d) (d - b))) s:=by
 obtain ⟨n,rfl⟩:∃ n,N=n+1:=⟨N - 1,by omega⟩
 refine zj Try.func93 (fun u uh un um=>?_) rfl
 have hf:=hfar
 have a1:∀ s,yK s .i64 a c=.val (.int .i64 (a - c)) s:=fun s=>je s _ _ (by omega)
 have a2:∀ s,yK s .i64 c a=.val (.int .i64 (c - a)) s:=fun s=>je s _ _ (by omega)
 have a3:∀ s,yK s .i64 b d=.val (.int .i64 (b - d)) s:=fun s=>je s _ _ (by omega)
 have a4:∀ s,yK s .i64 d b=.val (.int .i64 (d - b)) s:=fun s=>je s _ _ (by omega)
 have a5:∀ s,jI s .i64 (max (a - c) (c - a)) (max (b - d) (d - b))=.val (.int .i64 (max (a - c) (c - a)+max (b - d) (d - b))) s:=fun s=>za s _ _ (by omega)
 rw [zOQ]
 simp (disch:=first|omega|(with_unfolding_all exact rfl)|(simp only[zW,jB,jF];omega)|(refine jU ?_;simp only[jF];omega)) only [res93,K93r0,K93r1,K93,Abs.W,reduceIte,Nat.reduceEqDiff,Nat.reduceAdd,Nat.reduceSub,a1,a2,a3,a4,a5,wC,wF,vj,gg,JT,Zx]
 exact ⟨_,rfl,by simp only [zW,jF];omega⟩
theorem wJA {no:Nat→Prop} {h:Heap} {n:Nat} {l:List PutR} {v:AV} (r:Sl no h n 3 (l.map PutR.row) v) {i:Nat} (hi:i<l.length):∃ b p c sz,(b<n∧no b)∧(∀ s,jX 3 s v (.int .i64 (i:Int))=.val (.ptr b p) s)∧h.get b=some (.cells c sz)∧cut p 3 c=some (l[i].row):=by
 obtain ⟨b,p,c,sz,z1,z0,z2,z3,z4⟩:=r.get (i:=i) (by rw [List.length_map];exact hi)
 rw [List.getElem_map] at z4
 exact ⟨b,p,c,sz,⟨z1,z0⟩,z2,z3,z4⟩
theorem jfA {no:Nat→Prop} {h:Heap} {n:Nat} {l:List PutR} {v:AV} (r:Sl no h n 3 (l.map PutR.row) v) (s:St):zq s v=.val (.int .i64 (l.length:Int)) s:=by have:=r.len s;rwa [List.length_map] at this
structure Puts (no:Nat→Prop) (h:Heap) (n:Nat) (l:List PutR) (v:AV):Prop where
 okA:∀ t,okA (.val v t)=.val v t
 len:∀ s,zq s v=.val (.int .i64 (l.length:Int)) s
 get:∀ {i:Nat} (hi:i<l.length),∃ q,(∀ s,jX 3 s v (.int .i64 (i:Int))=.val q s)∧∀ s':St,(∀ b,b<n→no b→s'.h.get b=h.get b)→Jx (some 3) s' q=.val (.agg (l[i].row)) s'
theorem Puts.move {no no':Nat→Prop} {h h':Heap} {n n':Nat} {l:List PutR} {v:AV} (r:Puts no h n l v) (hh:∀ b,b<n→no b→h'.get b=h.get b∧no' b) (hn:n≤n'):Puts no' h' n' l v :=
 ⟨r.okA,r.len,fun hi=>by
  obtain ⟨q,h1,h2⟩:=r.get hi
  exact ⟨q,h1,fun s' hs=>h2 s' fun b hb hno=>(hs b (by omega) (hh b hb hno).2).trans (hh b hb hno).1⟩⟩
theorem Puts.grow {no:Nat→Prop} {h h':Heap} {n n':Nat} {l:List PutR} {v:AV} (r:Puts no h n l v) (hh:∀ b,b<n→h'.get b=h.get b) (hn:n≤n'):Puts no h' n' l v:=r.move (fun b hb hno=>⟨hh b hb,hno⟩) hn
theorem puts {no:Nat→Prop} {h:Heap} {n:Nat} {l:List PutR} {v:AV} (r:Sl no h n 3 (l.map PutR.row) v):Puts no h n l v :=
 ⟨r.okA,jfA r,fun hi=>by
  obtain ⟨b,p,c,sz,⟨h1,h2⟩,h3,h4,h5⟩:=wJA r hi
  exact ⟨.ptr b p,h3,fun s' hs=>by rw [vt,(hs b h1 h2).trans h4,vg,ve,h5];rfl⟩⟩
theorem JkA {l:List PutR} {i:Nat} (hi:i<l.length) (k:Nat):many (l.take (i+1)) k=many (l.take i) k+if l[i].kind=k then 1 else 0:=by
 unfold many
 rw [yE hi,List.filter_append,List.length_append,List.filter_cons]
 by_cases h:l[i].kind=k<;>simp [h]
theorem wOJ (l:List PutR) (k:Nat):many l k≤l.length:=List.length_filter_le _ _
theorem gRA (N:Nat) (hN:1≤N) {no:Nat→Prop} (l:List PutR) (k:Nat) (v:AV) (s:St) (hR:Puts no s.h s.n l v) (hl:l.length≤1000) (hs:s.n+2000≤far) :
  call Try.prog X N (.fn 64) [v,.int .i64 (k:Int)] s=.val (.int .i64 (many l k:Int)) s:=by
 obtain ⟨n,rfl⟩:∃ n,N=n+1:=⟨N - 1,by omega⟩
 refine zj Try.func64 (fun u uh un um=>?_) rfl
 rw [← uh,← un] at hR
 have kv:=hR.okA
 have lv:=hR.len
 have hf:=hfar
 rw [zpQ]
 simp (disch:=first|omega|with_unfolding_all rfl) only [WqA,K64r0,K64r1,K64r2,K64r3,K64r4,K64r5,K64r6,K64r7,K64r8,K64,Abs.W,reduceIte,Nat.reduceEqDiff,Nat.reduceAdd,Nat.reduceSub,kv,lv]
 generalize hlp:jK _ rounds _ _ _ _ _=q1
 obtain ⟨e,L1,s1,rfl,rfl,h5,hB⟩:=jO hlp (fun i L t=>L.find 1=.int .i64 (k:Int)∧L.find 8=v∧L.find 9=.int .i64 (l.length:Int)∧L.find 10=.int .i64 (i:Int)∧L.find 5=.int .i64 (many (l.take i) k:Int)∧Beside u t i)
  (fun e L t=>e=.exit 0∧L.find 5=.int .i64 (many l k:Int)∧Beside u t l.length) l.length (by unfold rounds;omega)
  ⟨(by simp only [zK,efs,reduceIte,Nat.reduceEqDiff]),(by simp only [zK,efs,reduceIte,Nat.reduceEqDiff]),(by simp only [zK,efs,reduceIte,Nat.reduceEqDiff]),(by simp only [zK,efs,reduceIte,Nat.reduceEqDiff];rfl),(by simp only [zK,efs,reduceIte,Nat.reduceEqDiff];rfl),Beside.refl u (by omega) um⟩
  (fun i L t hi ⟨q1,q8,q9,q10,q5,hB⟩=>by
   have tn:=hB.n
   have tl:=hB.le
   have tm:=hB.m
   have tf:=hB.far
   by_cases hlt:i<l.length
   ·have e0:decide ((i:Int)<(l.length:Int))=true:=decide_eq_true (by omega)
    have hRt:=hR.grow (h':=t.h) (n':=t.n) hB.same tn
    obtain ⟨q,r2,rl0⟩:=hRt.get hlt
    have rl:=rl0 t fun _ _ _=>rfl
    have okQ:∀ t,okA (.val (.agg (l[i].row)) t)=.val (.agg (l[i].row)) t:=fun _=>rfl
    have hms:=JkA hlt k
    have hml:=wOJ (l.take i) k
    rw [List.length_take] at hml
    generalize l[i]=P at *
    have ad:∀ s,jI s .i64 (i:Int) 1=.val (.int .i64 ((i:Int)+1)) s:=fun s=>za s _ _ (by omega)
    have ad2:∀ s,jI s .i64 (many (l.take i) k:Int) 1=.val (.int .i64 ((many (l.take i) k:Int)+1)) s:=fun s=>za s _ _ (by omega)
    obtain ⟨y,hy⟩:∃ y:St,y=(t.new (.cells [.int .i64 0,.int .i64 0,.int .i64 0] (tag 51))).put t.n (.cells P.row (tag 51)):=⟨_,rfl⟩
    have By:Beside u y (i+1):=by rw [hy];exact (hB.new _).put _ (by omega)
    have yt:y.h.get t.n=some (.cells [.int .i64 P.x,.int .i64 P.y,.int .i64 (P.kind:Int)] (tag 51)):=by rw [hy];exact zN _ _ _ _ rfl (by omega)
    refine .inl ⟨hlt,?_⟩
    simp (disch:=first|omega|with_unfolding_all rfl) only [K64l0,K64r3,K64r4,Abs.W,reduceIte,Nat.reduceEqDiff,Nat.reduceAdd,Nat.reduceSub,Nat.zero_add,q1,q8,q9,q10,q5,e0,kv,r2,rl,okQ]
    rw [← hy]
    by_cases hk:P.kind=k
    ·have e1:decide ((P.kind:Int)=(k:Int))=true:=decide_eq_true (by omega)
     rw [if_pos hk] at hms
     simp (disch:=first|omega|with_unfolding_all rfl) only [WqA,K64r0,K64r1,K64r2,K64r3,K64r4,K64r5,K64r6,K64r7,K64r8,K64,Abs.W,reduceIte,Nat.reduceEqDiff,Nat.reduceAdd,Nat.reduceSub,Nat.zero_add,q1,q10,q5,yt,e1,ad,ad2]
     refine ⟨_,_,rfl,?_,?_,?_,?_,?_,By⟩
     ·simp only [efs,q1,reduceIte,Nat.reduceEqDiff]
     ·simp only [efs,q8,reduceIte,Nat.reduceEqDiff]
     ·simp only [efs,q9,reduceIte,Nat.reduceEqDiff]
     ·simp only [efs,reduceIte,Nat.reduceEqDiff];rfl
     ·simp only [efs,reduceIte,Nat.reduceEqDiff]
      rw [hms];rfl
    ·have e1:decide ((P.kind:Int)=(k:Int))=false:=decide_eq_false (by omega)
     simp only [if_neg hk,Nat.add_zero] at hms
     simp (disch:=first|omega|with_unfolding_all rfl) only [WqA,K64r0,K64r1,K64r2,K64r3,K64r4,K64r5,K64r6,K64r7,K64r8,K64,Abs.W,reduceIte,Nat.reduceEqDiff,Nat.reduceAdd,Nat.reduceSub,Nat.zero_add,q1,q10,q5,yt,e1,ad,ad2]
     refine ⟨_,_,rfl,?_,?_,?_,?_,?_,By⟩
     ·simp only [efs,q1,reduceIte,Nat.reduceEqDiff]
     ·simp only [efs,q8,reduceIte,Nat.reduceEqDiff]
     ·simp only [efs,q9,reduceIte,Nat.reduceEqDiff]
     ·simp only [efs,reduceIte,Nat.reduceEqDiff];rfl
     ·rw [hms];simp only [efs,q5,reduceIte,Nat.reduceEqDiff]
   ·obtain rfl:i=l.length:=by omega
    have e0:decide ((l.length:Int)<(l.length:Int))=false:=by simp
    rw [List.take_length] at q5
    refine .inr ⟨.exit 0,L.set 11 (.bool false),t,by simp,?_,rfl,by simp only [efs,q5,reduceIte,Nat.reduceEqDiff],hB⟩
    simp (disch:=first|omega|with_unfolding_all rfl) only [WqA,K64r0,K64r1,K64r2,K64r3,K64r4,K64r5,K64r6,K64r7,K64r8,K64,K64l0,Abs.W,reduceIte,Nat.reduceEqDiff,Nat.reduceAdd,Nat.reduceSub,q9,q10,e0])
 have:=hB.m
 simp (disch:=first|omega|with_unfolding_all rfl) only [WqA,K64r0,K64r1,K64r2,K64r3,K64r4,K64r5,K64r6,K64r7,K64r8,K64,Abs.W,reduceIte,Nat.reduceEqDiff,Nat.reduceAdd,Nat.reduceSub,h5]
 exact ⟨_,rfl,by omega⟩
theorem zIA {H:HallR} {p:PutR} (h:H.In p.c):∃ x y:Nat,p.x=(x:Int)∧p.y=(y:Int)∧x<H.wide∧y<H.deep:=by
 obtain ⟨⟨x0,x1⟩,y0,y1⟩:=h
 simp only at x0 x1 y0 y1
 exact ⟨p.x.toNat,p.y.toNat,by omega,by omega,by omega,by omega⟩
theorem jFA {H:HallR} {k:Nat} (hk:k<H.kinds.length):H.kind k=H.kinds[k]:=by unfold HallR.kind;rw [List.getD_eq_getElem?_getD,List.getElem?_eq_getElem hk];rfl
variable {no:Nat→Prop} {sc:List AV} {H:HallR} {vW vS vB vK:AV} {rb p:Nat}
theorem ZXJ (N:Nat) (hN:3≤N) (hS:SiteC sc H vW vS vB vK rb) (P:PutR) (v:AV) (s:St) (g:s.h.get p=some (vQ sc)) (hp:p<s.n) (hs:s.n+20≤far) :
  call Try.prog X N (.fn 66) [.ptr p 0,v,.agg P.row] s=.val (.int .i64 (if H.In P.c then 0 else 3)) s:=by
 obtain ⟨n,rfl⟩:∃ n,N=n+1:=⟨N - 1,by omega⟩
 refine zj Try.func66 (fun u uh un um=>?_) rfl
 rw [← uh] at g
 rw [← un] at hp
 have hf:=hfar
 have hh:=hS.hall
 have ep:∀ s:St,s.n+10≤far→call Try.prog X n (.fn 92) [.agg (zP H vW vS vB vK),.agg [.int .i64 P.x,.int .i64 P.y]] s=.val (.int .i64 (if H.In P.c then 0 else 3)) s:=fun s hs=>WyA n (by omega) H vW vS vB vK P.c s hs
 rw [znQ]
 simp (disch:=first|omega|(with_unfolding_all exact rfl)|(simp only[zW,jB,jF];omega)|(refine jU ?_;simp only[jF];omega)) only [res66,K66r0,K66r1,K66,Abs.W,reduceIte,Nat.reduceEqDiff,Nat.reduceAdd,Nat.reduceSub,g,hh,ep,um,Nat.zero_add]
 exact ⟨_,rfl,by simp only [zW,jF];omega⟩
theorem WgJ (N:Nat) (hN:2≤N) (hS:SiteC sc H vW vS vB vK rb) (sz:H.Size) (P:PutR) (hi:H.In P.c) (v:AV) (s:St) (g:s.h.get p=some (vQ sc)) (hp:p<s.n) (hs:s.n+20≤far) :
  call Try.prog X N (.fn 67) [.ptr p 0,v,.agg P.row] s=.val (.int .i64 (if P.c ∈ H.shut then 11 else 0)) s:=by
 obtain ⟨n,rfl⟩:∃ n,N=n+1:=⟨N - 1,by omega⟩
 refine zj Try.func67 (fun u uh un um=>?_) rfl
 rw [← uh] at g
 rw [← un] at hp
 have hf:=hfar
 obtain ⟨x,y,ex,ey,hx,hy⟩:=zIA hi
 have s6:=sz.w1
 have s4:=sz.d1
 obtain ⟨w,hw⟩:∃ w:St,w=u.new (.cells P.row (tag 51)):=⟨_,rfl⟩
 have wn:w.n=u.n+1:=by rw [hw];rfl
 have wm:w.m=far:=by rw [hw];exact um
 have wp:w.h.get p=some (vQ sc):=by rw [hw,zH _ _ _ (by omega)];exact g
 have w0:w.h.get u.n=some (.cells [.int .i64 P.x,.int .i64 P.y,.int .i64 (P.kind:Int)] (tag 51)):=by rw [hw];exact zM _ _ _ rfl (by omega)
 have es:=zZA n (by omega) hS (show x<6 by omega) (show y<4 by omega) (P.kind:Int) w wp (by omega) (by omega)
 rw [Jp sz hx hy,← ex,← ey] at es
 rw [zmQ]
 simp (disch:=first|omega|with_unfolding_all rfl) only [JhJ,K67,K67r0,Abs.W,reduceIte,Nat.reduceEqDiff,Nat.reduceAdd,Nat.reduceSub]
 rw [← hw]
 by_cases hsh:(P.x,P.y) ∈ H.shut
 ·rw [decide_eq_true hsh] at es
  rw [if_pos hsh]
  simp (disch:=first|omega|with_unfolding_all rfl) only [JhJ,K67r0,K67r1,K67r2,K67r3,K67,Abs.W,reduceIte,Nat.reduceEqDiff,Nat.reduceAdd,Nat.reduceSub,w0,es,zLA,Nat.zero_add]
  exact ⟨_,rfl,by omega⟩
 ·rw [decide_eq_false hsh] at es
  rw [if_neg hsh]
  simp (disch:=first|omega|with_unfolding_all rfl) only [JhJ,K67r0,K67r1,K67r2,K67r3,K67,Abs.W,reduceIte,Nat.reduceEqDiff,Nat.reduceAdd,Nat.reduceSub,w0,es,zLA,Nat.zero_add]
  exact ⟨_,rfl,by omega⟩
theorem VgA (N:Nat) (hN:1≤N) (H:HallR) (vW vS vB vK:AV) (k:Nat) (hk:k<H.kinds.length) (hk6:H.kinds.length≤6) (s:St) (kK:∀ t,okA (.val vK t)=.val vK t) (lK:∀ s,zq s vK=.val (.int .i64 (H.kinds.length:Int)) s) (hs:s.n+20≤far) :
  call Try.prog X N (.fn 52) [.agg (zP H vW vS vB vK),.int .i64 (k:Int)] s=.val (.int .i64 0) s:=by
 obtain ⟨n,rfl⟩:∃ n,N=n+1:=⟨N - 1,by omega⟩
 refine zj Try.func52 (fun u uh un um=>?_) rfl
 have hf:=hfar
 have d1:decide ((k:Int)<0)=false:=decide_eq_false (by omega)
 have d2:decide ((H.kinds.length:Int)≤(k:Int))=false:=decide_eq_false (by omega)
 rw [zzQ]
 simp (disch:=first|omega|with_unfolding_all rfl) only [res52,K52r0,K52r1s8,K52r1s7,K52r1s6,K52r1s5,K52r1s4,K52r1,K52r2,K52r3,K52,Abs.W,reduceIte,Nat.reduceEqDiff,Nat.reduceAdd,Nat.reduceSub,kK,lK,d1,d2,Nat.zero_add]
 exact ⟨_,rfl,by simp only [zW,jF];omega⟩
theorem YQJ (N:Nat) (hN:2≤N) (hS:SiteC sc H vW vS vB vK rb) (P:PutR) (hk:P.kind<H.kinds.length) (hk6:H.kinds.length≤6) (v:AV) (s:St) (hK:KindsAt no s.h s.n H.kinds vK) (g:s.h.get p=some (vQ sc)) (hp:p<s.n) (hs:s.n+40≤far) :
  call Try.prog X N (.fn 68) [.ptr p 0,v,.agg P.row] s=.val (.int .i64 0) s:=by
 obtain ⟨n,rfl⟩:∃ n,N=n+1:=⟨N - 1,by omega⟩
 refine zj Try.func68 (fun u uh un um=>?_) rfl
 rw [← uh] at g
 rw [← un] at hp
 have hf:=hfar
 have hh:=hS.hall
 have ep:∀ s:St,s.n+20≤far→call Try.prog X n (.fn 52) [.agg (zP H vW vS vB vK),.int .i64 (P.kind:Int)] s=.val (.int .i64 0) s:=fun s hs=>VgA n (by omega) H vW vS vB vK P.kind hk hk6 s hK.okA hK.len hs
 rw [zlQ]
 simp (disch:=first|omega|(with_unfolding_all exact rfl)|(simp only[zW,jB,jF];omega)|(refine jU ?_;simp only[jF];omega)) only [res68,K68r0,K68r1,K68,Abs.W,reduceIte,Nat.reduceEqDiff,Nat.reduceAdd,Nat.reduceSub,g,hh,ep,um,Nat.zero_add]
 exact ⟨_,rfl,by simp only [zW,jF];omega⟩
theorem WyJ (N:Nat) (hN:1≤N) (P:PutR) (l:List PutR) (v p0:AV) (s:St) (hR:Puts no s.h s.n l v) (hl:l.length≤1000) (hs:s.n+2000≤far) :
  call Try.prog X N (.fn 69) [p0,v,.agg P.row] s=.val (.int .i64 (if (∃ q ∈ l,q.c=P.c) then 4 else 0)) s:=by
 obtain ⟨n,rfl⟩:∃ n,N=n+1:=⟨N - 1,by omega⟩
 refine zj Try.func69 (fun u uh un um=>?_) rfl
 rw [← uh,← un] at hR
 have kv:=hR.okA
 have lv:=hR.len
 have hf:=hfar
 obtain ⟨w,hw⟩:∃ w:St,w=u.new (.cells P.row (tag 51)):=⟨_,rfl⟩
 have wn:w.n=u.n+1:=by rw [hw];rfl
 have wm:w.m=far:=by rw [hw];exact um
 have wg:∀ c,c<u.n→w.h.get c=u.h.get c:=fun c hc=>by rw [hw,zH _ _ _ (by omega)]
 have w0:w.h.get u.n=some (.cells [.int .i64 P.x,.int .i64 P.y,.int .i64 (P.kind:Int)] (tag 51)):=by rw [hw];exact zM _ _ _ rfl (by omega)
 have hRw:=hR.grow wg (by omega:u.n≤w.n)
 rw [zkQ]
 simp (disch:=first|omega|with_unfolding_all rfl) only [JUA,K69,K69r0,Abs.W,reduceIte,Nat.reduceEqDiff,Nat.reduceAdd,Nat.reduceSub]
 rw [← hw]
 simp (disch:=first|omega|with_unfolding_all rfl) only [K69r1,Abs.W,reduceIte,Nat.reduceEqDiff,Nat.reduceAdd,Nat.reduceSub,kv,lv]
 generalize hlp:jK _ rounds _ _ _ _ _=q1
 obtain ⟨e,L1,s1,rfl,hQ,hB⟩:=jO hlp (fun i L t=>L.find 5=.ptr u.n 0∧L.find 9=v∧L.find 10=.int .i64 (l.length:Int)∧L.find 11=.int .i64 (i:Int)∧(∀ q ∈ l.take i,q.c≠P.c)∧Beside w t i)
  (fun e L t=>((e=.exit 0∧∀ q ∈ l,q.c≠P.c)∨(e=.ret∧L.find 6=.int .i64 4∧∃ q ∈ l,q.c=P.c))∧Beside w t (l.length+1)) l.length (by unfold rounds;omega)
  ⟨(by simp only [zK,efs,reduceIte,Nat.reduceEqDiff]),(by simp only [zK,efs,reduceIte,Nat.reduceEqDiff]),(by simp only [zK,efs,reduceIte,Nat.reduceEqDiff]),(by simp only [zK,efs,reduceIte,Nat.reduceEqDiff];rfl),by simp,Beside.refl w (by omega) wm⟩
  (fun i L t hi ⟨q5,q9,q10,q11,hq,hB⟩=>by
   have tn:=hB.n
   have tl:=hB.le
   have tm:=hB.m
   have tf:=hB.far
   by_cases hlt:i<l.length
   ·have e0:decide ((i:Int)<(l.length:Int))=true:=decide_eq_true (by omega)
    have hRt:=hRw.grow (h':=t.h) (n':=t.n) hB.same tn
    obtain ⟨q,r2,rl0⟩:=hRt.get hlt
    have rl:=rl0 t fun _ _ _=>rfl
    have okQ:∀ t,okA (.val (.agg (l[i].row)) t)=.val (.agg (l[i].row)) t:=fun _=>rfl
    have htk:=yE hlt
    have hmem:=List.getElem_mem hlt
    generalize l[i]=Q at *
    have ad:∀ s,jI s .i64 (i:Int) 1=.val (.int .i64 ((i:Int)+1)) s:=fun s=>za s _ _ (by omega)
    obtain ⟨y,hy⟩:∃ y:St,y=(t.new (.cells [.int .i64 0,.int .i64 0,.int .i64 0] (tag 51))).put t.n (.cells Q.row (tag 51)):=⟨_,rfl⟩
    have By:Beside w y (i+1):=by rw [hy];exact (hB.new _).put _ (by omega)
    have yt:y.h.get t.n=some (.cells [.int .i64 Q.x,.int .i64 Q.y,.int .i64 (Q.kind:Int)] (tag 51)):=by rw [hy];exact zN _ _ _ _ rfl (by omega)
    have y0:=(By.same u.n (by omega)).trans w0
    have eq:=gKA Q.c P.c y
    by_cases hc:Q.c=P.c
    ·have hc':(Q.x,Q.y)=(P.x,P.y):=hc
     rw [decide_eq_true hc'] at eq
     refine .inr ⟨.ret,?_⟩
     simp (disch:=first|omega|with_unfolding_all rfl) only [K69l0,K69r2,K69r3,Abs.W,reduceIte,Nat.reduceEqDiff,Nat.reduceAdd,Nat.reduceSub,Nat.zero_add,q5,q9,q10,q11,e0,kv,r2,rl,okQ]
     rw [← hy]
     simp (disch:=first|omega|with_unfolding_all rfl) only [JUA,K69r0,K69r1,K69r2,K69r3,K69r4,K69r5,K69r6,K69r7,K69,Abs.W,reduceIte,Nat.reduceEqDiff,Nat.reduceAdd,Nat.reduceSub,Nat.zero_add,q5,q9,q10,q11,yt,y0,vCA,eq]
     refine ⟨_,_,by simp,rfl,.inr ⟨trivial,?_,Q,hmem,hc⟩,By.mono (by omega)⟩
     simp only [efs,reduceIte,Nat.reduceEqDiff]
    ·have hc':¬ (Q.x,Q.y)=(P.x,P.y):=hc
     rw [decide_eq_false hc'] at eq
     refine .inl ⟨hlt,?_⟩
     simp (disch:=first|omega|with_unfolding_all rfl) only [K69l0,K69r2,K69r3,Abs.W,reduceIte,Nat.reduceEqDiff,Nat.reduceAdd,Nat.reduceSub,Nat.zero_add,q5,q9,q10,q11,e0,kv,r2,rl,okQ]
     rw [← hy]
     simp (disch:=first|omega|with_unfolding_all rfl) only [JUA,K69r0,K69r1,K69r2,K69r3,K69r4,K69r5,K69r6,K69r7,K69,Abs.W,reduceIte,Nat.reduceEqDiff,Nat.reduceAdd,Nat.reduceSub,Nat.zero_add,q5,q9,q10,q11,yt,y0,vCA,eq,ad]
     refine ⟨_,_,rfl,?_,?_,?_,?_,?_,By⟩
     ·simp only [efs,q5,reduceIte,Nat.reduceEqDiff]
     ·simp only [efs,q9,reduceIte,Nat.reduceEqDiff]
     ·simp only [efs,q10,reduceIte,Nat.reduceEqDiff]
     ·simp only [efs,reduceIte,Nat.reduceEqDiff];rfl
     ·rw [htk]
      intro q hq'
      rcases List.mem_append.mp hq' with h | h
      ·exact hq q h
      ·rw [List.mem_singleton.mp h];exact hc
   ·obtain rfl:i=l.length:=by omega
    have e0:decide ((l.length:Int)<(l.length:Int))=false:=by simp
    rw [List.take_length] at hq
    refine .inr ⟨.exit 0,L.set 12 (.bool false),t,by simp,?_,.inl ⟨rfl,hq⟩,hB.mono (by omega)⟩
    simp (disch:=first|omega|with_unfolding_all rfl) only [JUA,K69r0,K69r1,K69r2,K69r3,K69r4,K69r5,K69r6,K69r7,K69,K69l0,Abs.W,reduceIte,Nat.reduceEqDiff,Nat.reduceAdd,Nat.reduceSub,q10,q11,e0])
 have hm1:=hB.m
 rcases hQ with ⟨rfl,hq⟩ | ⟨rfl,h6,hq⟩
 ·rw [if_neg (by rintro ⟨q,h1,h2⟩;exact hq q h1 h2)]
  simp (disch:=first|omega|with_unfolding_all rfl) only [JUA,K69r0,K69r1,K69r2,K69r3,K69r4,K69r5,K69r6,K69r7,K69,Abs.W,reduceIte,Nat.reduceEqDiff,Nat.reduceAdd,Nat.reduceSub]
  exact ⟨_,rfl,by omega⟩
 ·rw [if_pos hq]
  simp (disch:=first|omega|with_unfolding_all rfl) only [JUA,K69r0,K69r1,K69r2,K69r3,K69r4,K69r5,K69r6,K69r7,K69,Abs.W,reduceIte,Nat.reduceEqDiff,Nat.reduceAdd,Nat.reduceSub,h6]
  exact ⟨_,rfl,by omega⟩
theorem jnJ (N:Nat) (hN:2≤N) (hS:SiteC sc H vW vS vB vK rb) (ok:H.Ok) (P:PutR) (hi:H.In P.c) (hk:P.kind<H.kinds.length) (v:AV) (s:St) (hK:KindsAt no s.h s.n H.kinds vK) (g:s.h.get p=some (vQ sc)) (hp:p<s.n) (hs:s.n+40≤far) :
  call Try.prog X N (.fn 70) [.ptr p 0,v,.agg P.row] s=.val (.int .i64 (if (H.kind P.kind).water=true∧P.c ∉ H.water then 7 else 0)) s:=by
 obtain ⟨n,rfl⟩:∃ n,N=n+1:=⟨N - 1,by omega⟩
 refine zj Try.func70 (fun u uh un um=>?_) rfl
 rw [← uh,← un] at hK
 rw [← uh] at g
 rw [← un] at hp
 have hf:=hfar
 have sz:=ok.toSize
 obtain ⟨x,y,ex,ey,hx,hy⟩:=zIA hi
 have s6:=sz.w1
 have s4:=sz.d1
 obtain ⟨w,hw⟩:∃ w:St,w=u.new (.cells P.row (tag 51)):=⟨_,rfl⟩
 have wn:w.n=u.n+1:=by rw [hw];rfl
 have wm:w.m=far:=by rw [hw];exact um
 have wg:∀ c,c<u.n→w.h.get c=u.h.get c:=fun c hc=>by rw [hw,zH _ _ _ (by omega)]
 have wp:=(wg p hp).trans g
 have w0:w.h.get u.n=some (.cells [.int .i64 P.x,.int .i64 P.y,.int .i64 (P.kind:Int)] (tag 51)):=by rw [hw];exact zM _ _ _ rfl (by omega)
 obtain ⟨aw,hA,ek⟩:=JO n (by omega) hS hk ok u hK g hp
 have ek1:=ek P.x P.y w wg (by omega) (by omega) (by omega)
 obtain ⟨z,hz⟩:∃ z:St,z=Jy w [.int .i64 P.x,.int .i64 P.y,.int .i64 (P.kind:Int)] ((H.kind P.kind).row aw):=⟨_,rfl⟩
 rw [← hz] at ek1
 have zn:z.n=w.n+2:=by rw [hz];rfl
 have zm:z.m=far:=by rw [hz];exact wm
 have zg:∀ c,c<w.n→z.h.get c=w.h.get c:=fun c hc=>by rw [hz];exact vz _ _ _ _ hc
 have zp:=(zg p (by omega)).trans wp
 have z0:=(zg u.n (by omega)).trans w0
 have es:=zZA n (by omega) hS (show x<6 by omega) (show y<4 by omega) (P.kind:Int) z zp (by omega) (by omega)
 rw [Jp sz hx hy,← ex,← ey] at es
 have okr:∀ t,okA (.val (.agg ((H.kind P.kind).row aw)) t)=.val (.agg ((H.kind P.kind).row aw)) t:=fun _=>rfl
 have f2:nth ((H.kind P.kind).row aw) 2=.bool (H.kind P.kind).water:=rfl
 have u6:=eq3 WEA.eq_1
 have u7:=eq3 WDA.eq_1
 have u8:=eq3 WCA.eq_1
 have u9:=eq3 WBA.eq_1
 have u10:=eq3 ZXA.eq_1
 rw [zjQ]
 simp (disch:=first|omega|with_unfolding_all rfl) only [res70,K70,K70r0,Abs.W,reduceIte,Nat.reduceEqDiff,Nat.reduceAdd,Nat.reduceSub]
 rw [← hw]
 cases hwt:(H.kind P.kind).water with
 | true =>
  rw [hwt] at f2
  by_cases hm:(P.x,P.y) ∈ H.water
  ·rw [decide_eq_true hm] at es
   rw [if_neg (by simp [hm])]
   simp (disch:=first|omega|with_unfolding_all rfl) only [wuJ,K70r2,K70r3,u6,u7,u8,u9,u10,Abs.W,reduceIte,Nat.reduceEqDiff,Nat.reduceAdd,Nat.reduceSub,w0,z0,ek1,okr,f2,es,zLA,Nat.zero_add]
   exact ⟨_,rfl,by omega⟩
  ·rw [decide_eq_false hm] at es
   rw [if_pos (by simp [hm])]
   simp (disch:=first|omega|with_unfolding_all rfl) only [wuJ,K70r2,K70r3,u6,u7,u8,u9,u10,Abs.W,reduceIte,Nat.reduceEqDiff,Nat.reduceAdd,Nat.reduceSub,w0,z0,ek1,okr,f2,es,zLA,Nat.zero_add]
   exact ⟨_,rfl,by omega⟩
 | false =>
  rw [hwt] at f2
  rw [if_neg (by simp)]
  simp (disch:=first|omega|with_unfolding_all rfl) only [wuJ,K70r2,K70r3,u6,u7,u8,u9,u10,Abs.W,reduceIte,Nat.reduceEqDiff,Nat.reduceAdd,Nat.reduceSub,w0,z0,ek1,okr,f2,es,zLA,Nat.zero_add]
  exact ⟨_,rfl,by omega⟩
variable {no:Nat→Prop} {sc:List AV} {H:HallR} {vW vS vB vK:AV} {rb p:Nat}
theorem vkA {H:HallR} (ok:H.Ok) {p q:PutR} (hp:p.kind<H.kinds.length) (hq:q.kind<H.kinds.length):∃ h:q.kind<(H.kind p.kind).away.length,(H.kind p.kind).away[q.kind]=H.away p q:=by
 have al:=(ok.k _ (List.getElem_mem hp)).al
 rw [← jFA hp] at al
 refine ⟨by omega,?_⟩
 unfold HallR.away
 rw [List.getD_eq_getElem?_getD,List.getElem?_eq_getElem (by omega)]
 rfl
theorem VeJ (N:Nat) (hN:2≤N) (hS:SiteC sc H vW vS vB vK rb) (ok:H.Ok) (P:PutR) (hP:P.In H) (l:List PutR) (hl:∀ q ∈ l,q.In H) (hl1:l.length≤100) (v:AV) (s:St) (hR:Puts no s.h s.n l v) (hK:KindsAt no s.h s.n H.kinds vK) (g:s.h.get p=some (vQ sc)) (hp:p<s.n) (hs:s.n+2000≤far) :
  call Try.prog X N (.fn 71) [.ptr p 0,v,.agg P.row] s=.val (.int .i64 (if (∃ q ∈ l,H.clash P q) then 9 else 0)) s:=by
 obtain ⟨n,rfl⟩:∃ n,N=n+1:=⟨N - 1,by omega⟩
 refine zj Try.func71 (fun u uh un um=>?_) rfl
 rw [← uh,← un] at hR hK
 rw [← uh] at g
 rw [← un] at hp
 have kv:=hR.okA
 have lv:=hR.len
 have hf:=hfar
 obtain ⟨w,hw⟩:∃ w:St,w=u.new (.cells P.row (tag 51)):=⟨_,rfl⟩
 have wn:w.n=u.n+1:=by rw [hw];rfl
 have wm:w.m=far:=by rw [hw];exact um
 have wg:∀ c,c<u.n→w.h.get c=u.h.get c:=fun c hc=>by rw [hw,zH _ _ _ (by omega)]
 have w0:w.h.get u.n=some (.cells [.int .i64 P.x,.int .i64 P.y,.int .i64 (P.kind:Int)] (tag 51)):=by rw [hw];exact zM _ _ _ rfl (by omega)
 have hRw:=hR.grow wg (by omega:u.n≤w.n)
 obtain ⟨aw,hA,ek⟩:=JO n (by omega) hS hP.k ok u hK g hp
 have p0:=hP.x0
 have p1:=hP.x1
 have p2:=hP.y0
 have p3:=hP.y1
 rw [ziQ]
 simp (disch:=first|omega|with_unfolding_all rfl) only [JTA,K71,K71r0,Abs.W,reduceIte,Nat.reduceEqDiff,Nat.reduceAdd,Nat.reduceSub]
 rw [← hw]
 simp (disch:=first|omega|with_unfolding_all rfl) only [K71r1,Abs.W,reduceIte,Nat.reduceEqDiff,Nat.reduceAdd,Nat.reduceSub,kv,lv]
 generalize hlp:jK _ rounds _ _ _ _ _=q1
 obtain ⟨e,L1,s1,rfl,hQ,hB⟩:=jO hlp (fun i L t=>L.find 0=.ptr p 0∧L.find 5=.ptr u.n 0∧L.find 9=v∧L.find 10=.int .i64 (l.length:Int)∧L.find 11=.int .i64 (i:Int)∧(∀ q ∈ l.take i,¬ H.clash P q)∧Beside w t (5 * i))
  (fun e L t=>((e=.exit 0∧∀ q ∈ l,¬ H.clash P q)∨(e=.ret∧L.find 6=.int .i64 9∧∃ q ∈ l,H.clash P q))∧Beside w t (5 * (l.length+1))) l.length (by unfold rounds;omega)
  ⟨(by simp only [zK,efs,reduceIte,Nat.reduceEqDiff]),(by simp only [zK,efs,reduceIte,Nat.reduceEqDiff]),(by simp only [zK,efs,reduceIte,Nat.reduceEqDiff]),(by simp only [zK,efs,reduceIte,Nat.reduceEqDiff]),(by simp only [zK,efs,reduceIte,Nat.reduceEqDiff];rfl),by simp,Beside.refl w (by omega) wm⟩
  (fun i L t hi ⟨q0,q5,q9,q10,q11,hq,hB⟩=>by
   have tn:=hB.n
   have tl:=hB.le
   have tm:=hB.m
   have tf:=hB.far
   by_cases hlt:i<l.length
   ·have e0:decide ((i:Int)<(l.length:Int))=true:=decide_eq_true (by omega)
    have hRt:=hRw.grow (h':=t.h) (n':=t.n) hB.same tn
    obtain ⟨q,r2,rl0⟩:=hRt.get hlt
    have rl:=rl0 t fun _ _ _=>rfl
    have okQ:∀ t,okA (.val (.agg (l[i].row)) t)=.val (.agg (l[i].row)) t:=fun _=>rfl
    have htk:=yE hlt
    have hmem:=List.getElem_mem hlt
    have hQI:=hl _ hmem
    generalize l[i]=Q at *
    have x0:=hQI.x0
    have x1:=hQI.x1
    have x2:=hQI.y0
    have x3:=hQI.y1
    have ad:∀ s,jI s .i64 (i:Int) 1=.val (.int .i64 ((i:Int)+1)) s:=fun s=>za s _ _ (by omega)
    obtain ⟨y,hy⟩:∃ y:St,y=(t.new (.cells [.int .i64 0,.int .i64 0,.int .i64 0] (tag 51))).put t.n (.cells Q.row (tag 51)):=⟨_,rfl⟩
    have By:Beside w y (5 * i+1):=by rw [hy];exact (hB.new _).put _ (by omega)
    have yn:y.n=t.n+1:=by rw [hy];rfl
    have ym:=By.far
    have yt:y.h.get t.n=some (.cells [.int .i64 Q.x,.int .i64 Q.y,.int .i64 (Q.kind:Int)] (tag 51)):=by rw [hy];exact zN _ _ _ _ rfl (by omega)
    have y0:=(By.same u.n (by omega)).trans w0
    have yu:∀ c,c<u.n→y.h.get c=u.h.get c:=fun c hc=>(By.same c (by omega)).trans (wg c hc)
    have hyn:y.n≤far:=by omega
    have ed:∀ s:St,s.n+10≤far→call Try.prog X n (.fn 93) [.agg [.int .i64 P.x,.int .i64 P.y],.agg [.int .i64 Q.x,.int .i64 Q.y]] s=.val (.int .i64 (dist P Q)) s:=fun s hs=>jaQ n (by omega) P.x P.y Q.x Q.y s ⟨p0,p1⟩ ⟨p2,p3⟩ ⟨x0,x1⟩ ⟨x2,x3⟩ hs
    -- the put's own kind
    have ek1:=ek P.x P.y ⟨y.h,y.n,far⟩ yu (by show u.n≤y.n;omega) (by show y.n+10≤far;omega) (Nat.le_refl _)
    obtain ⟨A,hA0⟩:∃ A:St,A=Jy ⟨y.h,y.n,far⟩ [.int .i64 P.x,.int .i64 P.y,.int .i64 (P.kind:Int)] ((H.kind P.kind).row aw):=⟨_,rfl⟩
    rw [← hA0] at ek1
    have An:A.n=y.n+2:=by rw [hA0];rfl
    have Am:A.m=far:=by rw [hA0];rfl
    have Ag:∀ c,c<y.n→A.h.get c=y.h.get c:=fun c hc=>by rw [hA0];exact vz _ _ _ _ hc
    obtain ⟨Z,hZ⟩:∃ Z:St,Z=⟨A.h,A.n,yA y.m A.m⟩:=⟨_,rfl⟩
    have Zn:Z.n=y.n+2:=by rw [hZ];exact An
    have Zm:Z.m=y.m:=by rw [hZ];show yA y.m A.m=_;rw [zQ];omega
    have Zg:∀ c,c<y.n→Z.h.get c=y.h.get c:=fun c hc=>by rw [hZ];exact Ag c hc
    have tv1:∀ ws v d rest cl L,WV (some ws) (.val v A) d rest cl L y=rest cl (d.put v L) Z:=fun ws v d rest cl L=>by rw [hZ];exact wk _ _ _ _ _ _ _ _ (by omega)
    have Zu:∀ c,c<u.n→Z.h.get c=u.h.get c:=fun c hc=>(Zg c (by omega)).trans (yu c hc)
    have Zt:=(Zg t.n (by omega)).trans yt
    have Z0:=(Zg u.n (by omega)).trans y0
    -- the other's kind
    obtain ⟨bw,hBw,ekq⟩:=JO n (by omega) hS hQI.k ok u hK g hp
    have ek2:=ekq Q.x Q.y ⟨Z.h,Z.n,far⟩ Zu (by show u.n≤Z.n;omega) (by show Z.n+10≤far;omega) (Nat.le_refl _)
    obtain ⟨C,hC0⟩:∃ C:St,C=Jy ⟨Z.h,Z.n,far⟩ [.int .i64 Q.x,.int .i64 Q.y,.int .i64 (Q.kind:Int)] ((H.kind Q.kind).row bw):=⟨_,rfl⟩
    rw [← hC0] at ek2
    have Cn:C.n=Z.n+2:=by rw [hC0];rfl
    have Cm:C.m=far:=by rw [hC0];rfl
    have Cg:∀ c,c<Z.n→C.h.get c=Z.h.get c:=fun c hc=>by rw [hC0];exact vz _ _ _ _ hc
    obtain ⟨D,hD⟩:∃ D:St,D=⟨C.h,C.n,yA Z.m C.m⟩:=⟨_,rfl⟩
    have Dn:D.n=Z.n+2:=by rw [hD];exact Cn
    have Dm:D.m=Z.m:=by rw [hD];show yA Z.m C.m=_;rw [zQ];omega
    have Dg:∀ c,c<Z.n→D.h.get c=Z.h.get c:=fun c hc=>by rw [hD];exact Cg c hc
    have tv2:∀ ws v d rest cl L,WV (some ws) (.val v C) d rest cl L Z=rest cl (d.put v L) D:=fun ws v d rest cl L=>by rw [hD];exact wk _ _ _ _ _ _ _ _ (by omega)
    have Du:∀ c,c<u.n→D.h.get c=u.h.get c:=fun c hc=>(Dg c (by omega)).trans (Zu c hc)
    have D0:=(Dg u.n (by omega)).trans Z0
    have BD:Beside w D (5 * (i+1)):=⟨fun c hc=>(Dg c (by omega)).trans ((Zg c (by omega)).trans (By.same c hc)),by omega,by have:=By.le;omega,by rw [Dm,Zm];exact By.m,by rw [Dm,Zm];exact By.far⟩
    obtain ⟨hi1,ha1⟩:=vkA ok hP.k hQI.k
    obtain ⟨hi2,ha2⟩:=vkA ok hQI.k hP.k
    obtain ⟨b1,o1,c1,sz1,k1,k2,k3,k4⟩:=Jb (hA.grow (h':=Z.h) (n':=Z.n) Zu (by omega)).at_ hi1
    obtain ⟨b2,o2,c2,sz2,m1,m2,m3,m4⟩:=Jb (hBw.grow (h':=D.h) (n':=D.n) Du (by omega)).at_ hi2
    rw [ha1] at k4
    rw [ha2] at m4
    have okr:∀ t,okA (.val (.agg ((H.kind P.kind).row aw)) t)=.val (.agg ((H.kind P.kind).row aw)) t:=fun _=>rfl
    have okq:∀ t,okA (.val (.agg ((H.kind Q.kind).row bw)) t)=.val (.agg ((H.kind Q.kind).row bw)) t:=fun _=>rfl
    have f3:nth ((H.kind P.kind).row aw) 3=aw:=rfl
    have f3':nth ((H.kind Q.kind).row bw) 3=bw:=rfl
    have kaw:=hA.okA
    have kbw:=hBw.okA
    have hts:=yG (v:=.int .i64 (dist P Q)) (s:=y) (h:=hyn) (hm:=ym)
    by_cases hc:H.clash P Q
    ·have e1:decide (dist P Q<max (H.away P Q) (H.away Q P))=true:=decide_eq_true hc
     refine .inr ⟨.ret,?_⟩
     simp (disch:=first|omega|with_unfolding_all rfl) only [K71l0,K71r2,K71r3,Abs.W,reduceIte,Nat.reduceEqDiff,Nat.reduceAdd,Nat.reduceSub,Nat.zero_add,q0,q5,q9,q10,q11,e0,kv,r2,rl,okQ]
     rw [← hy]
     simp (disch:=first|omega|(with_unfolding_all exact rfl)|(simp only[zW,jB,jF];omega)|(refine jU ?_;simp only[jF];omega)) only [JTA,K71r0,K71r1,K71r2,K71r3,K71r4,K71r5,K71r6,K71r7,K71,Abs.W,reduceIte,Nat.reduceEqDiff,Nat.reduceAdd,Nat.reduceSub,Nat.zero_add,q0,q5,q9,q10,q11,yt,y0,ed,hts,ek1,tv1,okr,f3,kaw,Zt,Z0,k2,k3,k4,ek2,tv2,okq,f3',kbw,D0,m2,m3,m4,zLA,wC,wF,vj,gg,JT,Zx,e1]
     refine ⟨_,_,by simp,rfl,.inr ⟨trivial,?_,Q,hmem,hc⟩,BD.mono (by omega)⟩
     simp only [efs,reduceIte,Nat.reduceEqDiff]
    ·have e1:decide (dist P Q<max (H.away P Q) (H.away Q P))=false:=decide_eq_false hc
     refine .inl ⟨hlt,?_⟩
     simp (disch:=first|omega|with_unfolding_all rfl) only [K71l0,K71r2,K71r3,Abs.W,reduceIte,Nat.reduceEqDiff,Nat.reduceAdd,Nat.reduceSub,Nat.zero_add,q0,q5,q9,q10,q11,e0,kv,r2,rl,okQ]
     rw [← hy]
     simp (disch:=first|omega|(with_unfolding_all exact rfl)|(simp only[zW,jB,jF];omega)|(refine jU ?_;simp only[jF];omega)) only [JTA,K71r0,K71r1,K71r2,K71r3,K71r4,K71r5,K71r6,K71r7,K71,Abs.W,reduceIte,Nat.reduceEqDiff,Nat.reduceAdd,Nat.reduceSub,Nat.zero_add,q0,q5,q9,q10,q11,yt,y0,ed,hts,ek1,tv1,okr,f3,kaw,Zt,Z0,k2,k3,k4,ek2,tv2,okq,f3',kbw,D0,m2,m3,m4,zLA,wC,wF,vj,gg,JT,Zx,e1,ad]
     refine ⟨_,_,rfl,?_,?_,?_,?_,?_,?_,BD⟩
     ·simp only [efs,q0,reduceIte,Nat.reduceEqDiff]
     ·simp only [efs,q5,reduceIte,Nat.reduceEqDiff]
     ·simp only [efs,q9,reduceIte,Nat.reduceEqDiff]
     ·simp only [efs,q10,reduceIte,Nat.reduceEqDiff]
     ·simp only [efs,reduceIte,Nat.reduceEqDiff];rfl
     ·rw [htk]
      intro q hq'
      rcases List.mem_append.mp hq' with h | h
      ·exact hq q h
      ·rw [List.mem_singleton.mp h];exact hc
   ·obtain rfl:i=l.length:=by omega
    have e0:decide ((l.length:Int)<(l.length:Int))=false:=by simp
    rw [List.take_length] at hq
    refine .inr ⟨.exit 0,L.set 12 (.bool false),t,by simp,?_,.inl ⟨rfl,hq⟩,hB.mono (by omega)⟩
    simp (disch:=first|omega|with_unfolding_all rfl) only [JTA,K71r0,K71r1,K71r2,K71r3,K71r4,K71r5,K71r6,K71r7,K71,K71l0,Abs.W,reduceIte,Nat.reduceEqDiff,Nat.reduceAdd,Nat.reduceSub,q10,q11,e0])
 have hm1:=hB.m
 rcases hQ with ⟨rfl,hq⟩ | ⟨rfl,h6,hq⟩
 ·rw [if_neg (by rintro ⟨q,h1,h2⟩;exact hq q h1 h2)]
  simp (disch:=first|omega|with_unfolding_all rfl) only [JTA,K71r0,K71r1,K71r2,K71r3,K71r4,K71r5,K71r6,K71r7,K71,Abs.W,reduceIte,Nat.reduceEqDiff,Nat.reduceAdd,Nat.reduceSub]
  exact ⟨_,rfl,by omega⟩
 ·rw [if_pos hq]
  simp (disch:=first|omega|with_unfolding_all rfl) only [JTA,K71r0,K71r1,K71r2,K71r3,K71r4,K71r5,K71r6,K71r7,K71,Abs.W,reduceIte,Nat.reduceEqDiff,Nat.reduceAdd,Nat.reduceSub,h6]
  exact ⟨_,rfl,by omega⟩
variable {no:Nat→Prop} {sc:List AV} {H:HallR} {vW vS vB vK:AV} {rb p:Nat}
def HallR.ruleE (h:HallR) (before:List PutR) (p:PutR):Nat→Int
 | 0=>if h.In p.c then 0 else 3
 | 1=>if p.c ∈ h.shut then 11 else 0
 | 3=>if (∃ q ∈ before,q.c=p.c) then 4 else 0
 | 4=>if (h.kind p.kind).water=true∧p.c ∉ h.water then 7 else 0
 | 5=>if (∃ q ∈ before,h.clash p q) then 9 else 0
 | _=>0
theorem gmJ {h:HallR} {before:List PutR} {p:PutR}:(∀ i,i<6→h.ruleE before p i=0)→h.putE before p=0:=fun a=>by
 have a0:=a 0 (by omega)
 have a1:=a 1 (by omega)
 have a3:=a 3 (by omega)
 have a4:=a 4 (by omega)
 have a5:=a 5 (by omega)
 unfold HallR.ruleE at a0 a1 a3 a4 a5
 simp only at a0 a1 a3 a4 a5
 unfold HallR.putE
 split
 ·rename_i h0;rw [if_neg h0] at a0;cases a0
 ·split
  ·rename_i h1;rw [if_pos h1] at a1;cases a1
  ·split
   ·rename_i h3;rw [if_pos h3] at a3;cases a3
   ·split
    ·rename_i h4;rw [if_pos h4] at a4;cases a4
    ·split
     ·rename_i h5;rw [if_pos h5] at a5;cases a5
     ·rfl
theorem yLJ {h:HallR} {before:List PutR} {p:PutR} {i:Nat} (hi:i<6) (a:∀ j,j<i→h.ruleE before p j=0) (b:h.ruleE before p i≠0):h.putE before p=h.ruleE before p i:=by
 unfold HallR.putE
 have c0:¬ h.In p.c→h.ruleE before p 0=3:=fun h0=>if_neg h0
 have c1:p.c ∈ h.shut→h.ruleE before p 1=11:=fun h0=>if_pos h0
 have c3:(∃ q ∈ before,q.c=p.c)→h.ruleE before p 3=4:=fun h0=>if_pos h0
 have c4:((h.kind p.kind).water=true∧p.c ∉ h.water)→h.ruleE before p 4=7:=fun h0=>if_pos h0
 have c5:(∃ q ∈ before,h.clash p q)→h.ruleE before p 5=9:=fun h0=>if_pos h0
 have key:∀ j (x:Int),h.ruleE before p j=x→x≠0→j ≥ i:=fun j x h1 h2=>by
  rcases Nat.lt_or_ge j i with h3 | h3
  ·exact absurd ((a j h3).symm.trans h1) (Ne.symm h2)
  ·exact h3
 split
 ·rename_i h0
  have:=key 0 3 (c0 h0) (by decide)
  obtain rfl:i=0:=by omega
  exact (c0 h0).symm
 ·rename_i h0
  have n0:h.ruleE before p 0=0:=if_pos (by simpa using h0)
  split
  ·rename_i h1
   have:=key 1 11 (c1 h1) (by decide)
   obtain rfl:i=1:=by
    rcases (by omega:i=0∨i=1) with rfl | rfl
    ·exact absurd n0 b
    ·rfl
   exact (c1 h1).symm
  ·rename_i h1
   have n1:h.ruleE before p 1=0:=if_neg h1
   have n2:h.ruleE before p 2=0:=rfl
   split
   ·rename_i h3
    have:=key 3 4 (c3 h3) (by decide)
    obtain rfl:i=3:=by
     rcases (by omega:i=0∨i=1∨i=2∨i=3) with rfl | rfl | rfl | rfl
     ·exact absurd n0 b
     ·exact absurd n1 b
     ·exact absurd n2 b
     ·rfl
    exact (c3 h3).symm
   ·rename_i h3
    have n3:h.ruleE before p 3=0:=if_neg h3
    split
    ·rename_i h4
     have:=key 4 7 (c4 h4) (by decide)
     obtain rfl:i=4:=by
      rcases (by omega:i=0∨i=1∨i=2∨i=3∨i=4) with rfl | rfl | rfl | rfl | rfl
      ·exact absurd n0 b
      ·exact absurd n1 b
      ·exact absurd n2 b
      ·exact absurd n3 b
      ·rfl
     exact (c4 h4).symm
    ·rename_i h4
     have n4:h.ruleE before p 4=0:=if_neg h4
     have n5:h.ruleE before p 5≠0:=by
      rcases (by omega:i=0∨i=1∨i=2∨i=3∨i=4∨i=5) with rfl | rfl | rfl | rfl | rfl | rfl
      ·exact absurd n0 b
      ·exact absurd n1 b
      ·exact absurd n2 b
      ·exact absurd n3 b
      ·exact absurd n4 b
      ·exact b
     split
     ·rename_i h5
      rcases (by omega:i=0∨i=1∨i=2∨i=3∨i=4∨i=5) with rfl | rfl | rfl | rfl | rfl | rfl
      ·exact absurd n0 b
      ·exact absurd n1 b
      ·exact absurd n2 b
      ·exact absurd n3 b
      ·exact absurd n4 b
      ·exact (c5 h5).symm
     ·rename_i h5
      exact absurd (if_neg h5) n5
def vwJ:Nat→FuncId
 | 0=>66
 | 1=>67
 | 2=>68
 | 3=>69
 | 4=>70
 | _=>71
theorem JdJ (p i:Nat) (hi:i<6):nth (Zj p) i=.func (vwJ i) [.ptr p 0] []:=by
 rcases (by omega:i=0∨i=1∨i=2∨i=3∨i=4∨i=5) with rfl | rfl | rfl | rfl | rfl | rfl<;>rfl
theorem WbJ (n:Nat) (hn:3≤n) (hS:SiteC sc H vW vS vB vK rb) (ok:H.Ok) (P:PutR) (hP:P.In H) (l:List PutR) (hl:∀ q ∈ l,q.In H) (hl1:l.length≤100) (v:AV) (s:St) (hR:Puts no s.h s.n l v) (hK:KindsAt no s.h s.n H.kinds vK) (g:s.h.get p=some (vQ sc)) (hp:p<s.n) (hs:s.n+2000≤far) {i:Nat} (hi:i<6) (a:∀ j,j<i→H.ruleE l P j=0) :
  call Try.prog X n (.fn (vwJ i)) [.ptr p 0,v,.agg P.row] s=.val (.int .i64 (H.ruleE l P i)) s:=by
 have hin:0<i→H.In P.c:=fun h0=>by
  have:=a 0 h0
  unfold HallR.ruleE at this
  simp only at this
  split at this
  ·assumption
  ·cases this
 rcases (by omega:i=0∨i=1∨i=2∨i=3∨i=4∨i=5) with rfl | rfl | rfl | rfl | rfl | rfl
 ·exact ZXJ n (by omega) hS P v s g hp (by omega)
 ·exact WgJ n (by omega) hS ok.toSize P (hin (by omega)) v s g hp (by omega)
 ·exact YQJ n (by omega) hS P hP.k ok.k1 v s hK g hp (by omega)
 ·exact WyJ n (by omega) P l v (.ptr p 0) s hR (by omega) (by omega)
 ·exact jnJ n (by omega) hS ok P (hin (by omega)) hP.k v s hK g hp (by omega)
 ·exact VeJ n (by omega) hS ok P hP l hl hl1 v s hR hK g hp (by omega)
theorem wX (N:Nat) (hN:4≤N) (hS:SiteC sc H vW vS vB vK rb) (ok:H.Ok) (P:PutR) (hP:P.In H) (l:List PutR) (hl:∀ q ∈ l,q.In H) (hl1:l.length≤100) (v:AV) (s:St) (hR:Puts no s.h s.n l v) (hK:KindsAt no s.h s.n H.kinds vK) (g:s.h.get p=some (vQ sc)) (gr:s.h.get rb=some (.cells (Zj p) 0)) (hp:p<s.n) (hrb:rb<s.n) (hs:s.n+3000≤far) :
  call Try.prog X N (.fn 63) [.ptr p 0,v,.agg P.row] s=.val (.int .i64 (H.putE l P)) s:=by
 obtain ⟨n,rfl⟩:∃ n,N=n+1:=⟨N - 1,by omega⟩
 refine zj Try.func63 (fun u uh un um=>?_) rfl
 rw [← uh,← un] at hR hK
 rw [← uh] at g gr
 rw [← un] at hp hrb
 have kv:=hR.okA
 have hf:=hfar
 obtain ⟨w,hw⟩:∃ w:St,w=u.new (.cells P.row (tag 51)):=⟨_,rfl⟩
 have wn:w.n=u.n+1:=by rw [hw];rfl
 have wm:w.m=far:=by rw [hw];exact um
 have wg:∀ c,c<u.n→w.h.get c=u.h.get c:=fun c hc=>by rw [hw,zH _ _ _ (by omega)]
 have w0:w.h.get u.n=some (.cells [.int .i64 P.x,.int .i64 P.y,.int .i64 (P.kind:Int)] (tag 51)):=by rw [hw];exact zM _ _ _ rfl (by omega)
 have hRw:=hR.grow wg (by omega:u.n≤w.n)
 have hKw:KindsAt no w.h w.n H.kinds vK:=hK.move (fun b h1 h2=>⟨wg b h1,h2⟩) (by omega)
 have gw:=(wg p hp).trans g
 have grw:=(wg rb hrb).trans gr
 have h80:=hS.r
 have oks:∀ t,okA (.val (.slice rb 0 6 6 false) t)=.val (.slice rb 0 6 6 false) t:=fun _=>rfl
 rw [zqQ]
 simp (disch:=first|omega|with_unfolding_all rfl) only [res63,K63,K63r0,Abs.W,reduceIte,Nat.reduceEqDiff,Nat.reduceAdd,Nat.reduceSub]
 rw [← hw]
 simp (disch:=first|omega|with_unfolding_all rfl) only [K63r1,Abs.W,reduceIte,Nat.reduceEqDiff,Nat.reduceAdd,Nat.reduceSub,gw,h80,oks,Nat.zero_add]
 generalize hlp:jK _ rounds _ _ _ _ _=q1
 obtain ⟨e,L1,s1,rfl,hQ,rfl⟩:=jO hlp (fun i L t=>t=w∧L.find 1=v∧L.find 5=.ptr u.n 0∧L.find 13=.slice rb 0 6 6 false∧L.find 14=.int .i64 6∧L.find 15=.int .i64 (i:Int)∧∀ j,j<i→H.ruleE l P j=0)
  (fun e L t=>((e=.exit 0∧H.putE l P=0)∨(e=.ret∧L.find 6=.int .i64 (H.putE l P)))∧t=w) 6 (by unfold rounds;omega)
  ⟨rfl,(by simp only [zK,efs,reduceIte,Nat.reduceEqDiff]),(by simp only [zK,efs,reduceIte,Nat.reduceEqDiff]),(by simp only [zK,efs,reduceIte,Nat.reduceEqDiff]),(by simp only [zK,efs,reduceIte,Nat.reduceEqDiff];rfl),(by simp only [zK,efs,reduceIte,Nat.reduceEqDiff];rfl),fun j hj=>absurd hj (Nat.not_lt_zero _)⟩
  (fun i L t hi ⟨ht,q1,q5,q13,q14,q15,ha⟩=>by
   subst ht
   by_cases hlt:i<6
   ·have e0:decide ((i:Int)<6)=true:=decide_eq_true (by omega)
    have er:=WbJ n (by omega) hS ok P hP l hl hl1 v t hRw hKw gw (by omega) (by omega) hlt ha
    have hat:=JdJ p i hlt
    have okf:∀ s,okA (.val (.func (vwJ i) [.ptr p 0] []) s)=.val (.func (vwJ i) [.ptr p 0] []) s:=fun _=>rfl
    have hix:∀ s,jX 1 s (.slice rb 0 6 6 false) (.int .i64 (i:Int))=.val (.ptr rb i) s:=fun s=>by rw [jq _ _ _ _ _ _ _ _ hlt,Nat.zero_add,Nat.mul_one]
    have ad:∀ s,jI s .i64 (i:Int) 1=.val (.int .i64 ((i:Int)+1)) s:=fun s=>za s _ _ (by omega)
    by_cases hz:H.ruleE l P i=0
    ·have e1:decide (H.ruleE l P i=0)=true:=decide_eq_true hz
     refine .inl ⟨hlt,?_⟩
     simp (disch:=first|omega|with_unfolding_all rfl) only [K63l0,res63,K63r0,K63r1,K63r2,K63r3,K63r4,K63r5,K63r6,K63r7,K63r8,K63,Abs.W,reduceIte,Nat.reduceEqDiff,Nat.reduceAdd,Nat.reduceSub,Nat.zero_add,q1,q5,q13,q14,q15,e0,oks,hix,grw,hat,okf,w0,kv,er,e1,ad]
     refine ⟨_,_,rfl,rfl,?_,?_,?_,?_,?_,fun j hj=>?_⟩
     ·simp only [efs,q1,reduceIte,Nat.reduceEqDiff]
     ·simp only [efs,q5,reduceIte,Nat.reduceEqDiff]
     ·simp only [efs,q13,reduceIte,Nat.reduceEqDiff]
     ·simp only [efs,q14,reduceIte,Nat.reduceEqDiff]
     ·simp only [efs,reduceIte,Nat.reduceEqDiff];rfl
     ·by_cases e:j=i
      ·rw [e];exact hz
      ·exact ha j (by omega)
    ·have e1:decide (H.ruleE l P i=0)=false:=decide_eq_false hz
     have hfi:=yLJ hlt ha hz
     refine .inr ⟨.ret,?_⟩
     simp (disch:=first|omega|with_unfolding_all rfl) only [K63l0,res63,K63r0,K63r1,K63r2,K63r3,K63r4,K63r5,K63r6,K63r7,K63r8,K63,Abs.W,reduceIte,Nat.reduceEqDiff,Nat.reduceAdd,Nat.reduceSub,Nat.zero_add,q1,q5,q13,q14,q15,e0,oks,hix,grw,hat,okf,w0,kv,er,e1,ad]
     refine ⟨_,_,by simp,rfl,.inr ⟨trivial,?_⟩,rfl⟩
     rw [hfi]
     simp only [efs,reduceIte,Nat.reduceEqDiff]
   ·obtain rfl:i=6:=by omega
    refine .inr ⟨.exit 0,L.set 16 (.bool false),t,by simp,?_,.inl ⟨rfl,gmJ ha⟩,rfl⟩
    have e0:decide (((6:Nat):Int)<6)=false:=rfl
    simp (disch:=first|omega|with_unfolding_all rfl) only [res63,K63r0,K63r1,K63r2,K63r3,K63r4,K63r5,K63r6,K63r7,K63r8,K63,K63l0,Abs.W,reduceIte,Nat.reduceEqDiff,Nat.reduceAdd,Nat.reduceSub,q14,q15,e0])
 rcases hQ with ⟨rfl,hq⟩ | ⟨rfl,h6⟩
 ·rw [hq]
  simp (disch:=first|omega|with_unfolding_all rfl) only [res63,K63r0,K63r1,K63r2,K63r3,K63r4,K63r5,K63r6,K63r7,K63r8,K63,Abs.W,reduceIte,Nat.reduceEqDiff,Nat.reduceAdd,Nat.reduceSub]
  exact ⟨_,rfl,by omega⟩
 ·simp (disch:=first|omega|with_unfolding_all rfl) only [res63,K63r0,K63r1,K63r2,K63r3,K63r4,K63r5,K63r6,K63r7,K63r8,K63,Abs.W,reduceIte,Nat.reduceEqDiff,Nat.reduceAdd,Nat.reduceSub,h6]
  exact ⟨_,rfl,by omega⟩
theorem Ve {N:Nat} {no:Nat→Prop} {H:HallR} {vW vS vB vK:AV} {l:List PutR} {v:AV} {s:St} {r:ARes} (hr:call Try.prog X N (.fn 43) [.agg (zP H vW vS vB vK),v] s=r) (hN:9≤N) (ok:H.Ok) (hH:HallAt no s.h s.n H vW vS vB vK) (hR:Sl no s.h s.n 3 (l.map PutR.row) v) (hl:∀ q ∈ l,q.In H) (hl1:l.length≤24) (hs:s.n+50000≤far) :
  ∃ e:Int,r=.val (.int .i64 e) s∧(e=0↔H.Valid l):=by
 obtain ⟨n,rfl⟩:∃ n,N=n+1:=⟨N - 1,by omega⟩
 have hf:=hfar
 obtain ⟨vv,e,x,rfl,hx⟩:=WN (n:=n) (s:=s) (k:=1000) (args:=[.agg (zP H vW vS vB vK),v]) (Q:=fun v=>∃ e:Int,v=.int .i64 e∧(e=0↔H.Valid l)) Try.func43 (fun u uh un um=>by
  rw [← uh,← un] at hH hR
  have kv:=hR.okA
  have lv:=jfA hR
  have kK:=hH.k.okA
  have lK:=hH.k.len
  have hk6:=ok.k1
  have z0:decide ((0:Int)=0)=true:=rfl
  obtain ⟨w,hw⟩:∃ w:St,w=u.new (.cells (zP H vW vS vB vK) (tag 30)):=⟨_,rfl⟩
  have wn:w.n=u.n+1:=by rw [hw];rfl
  have wm:w.m=far:=by rw [hw];exact um
  have wg:∀ c,c<u.n→w.h.get c=u.h.get c:=fun c hc=>by rw [hw,zH _ _ _ (by omega)]
  have w0:w.h.get u.n=some (.cells (zP H vW vS vB vK) (tag 30)):=by rw [hw];exact zM _ _ _ rfl (by omega)
  have hHw:HallAt no w.h w.n H vW vS vB vK:=hH.grow wg (by omega)
  have c1:call Try.prog X n (.fn 55) [.agg (zP H vW vS vB vK)] w=.val (.int .i64 0) w:=jKA n (by omega) H ok vW vS vB vK w hHw (by omega)
  have c2:∀ s:St,s.n≤far→call Try.prog X n (.fn 62) [.int .i64 (l.length:Int),.int .i64 0,.int .i64 24] s=.val (.int .i64 0) s:=fun s hs=>zPA n (by omega) _ _ _ s (by omega) (by omega) hs
  rw [jEQ]
  simp (disch:=first|omega|with_unfolding_all rfl) only [K43,K43r0,Abs.W,reduceIte,Nat.reduceEqDiff,Nat.reduceAdd,Nat.reduceSub]
  rw [← hw]
  simp (disch:=first|omega|with_unfolding_all rfl) only [K43r1,K43r2,Abs.W,reduceIte,Nat.reduceEqDiff,Nat.reduceAdd,Nat.reduceSub,w0,kv,lv,c1,c2,veA,z0,Nat.zero_add]
  obtain ⟨y,hy⟩:∃ y:St,y=w.new (.cells [.int .i64 0,.int .i64 0] 0):=⟨_,rfl⟩
  rw [← hy]
  have yn:y.n=w.n+1:=by rw [hy];rfl
  have ym:y.m=far:=by rw [hy];exact wm
  have yg:∀ c,c<w.n→y.h.get c=w.h.get c:=fun c hc=>by rw [hy,zH _ _ _ (by omega)]
  have y0:=(yg u.n (by omega)).trans w0
  have hHy:HallAt no y.h y.n H vW vS vB vK:=hHw.grow yg (by omega)
  simp (disch:=first|omega|with_unfolding_all rfl) only [K43r4,Abs.W,reduceIte,Nat.reduceEqDiff,Nat.reduceAdd,Nat.reduceSub,y0,Nat.zero_add]
  generalize hc:call _ _ _ (.fn 44) _ _=r1
  obtain ⟨t,p,rfl,st,hp,hS⟩:=jgA hc (by omega) ok hHy (by omega)
  have tn:=st.n
  have tl:=st.le
  have tm:t.m=far:=st.m.trans ym
  have tg:∀ c,c<u.n→t.h.get c=u.h.get c:=fun c hc=>(st.same c (by omega)).trans ((yg c (by omega)).trans (wg c hc))
  have t0:=(st.same u.n (by omega)).trans y0
  obtain ⟨sc,rb,hC,hpn,hrb,g,gr⟩:=hS
  have Bt:Beside u t 5:=⟨tg,by omega,by omega,by omega,by omega⟩
  simp (disch:=first|omega|with_unfolding_all rfl) only [K43r5,Abs.W,reduceIte,Nat.reduceEqDiff,Nat.reduceAdd,Nat.reduceSub,kv,lv]
  generalize hlp:jK _ rounds _ _ _ _ _=q1
  obtain ⟨eA,L1,s1,rfl,hQ,h2,h3,hB⟩:=jO hlp (fun i L t'=>L.find 1=v∧L.find 2=.ptr u.n 0∧L.find 6=.ptr p 0∧L.find 24=v∧L.find 25=.int .i64 (l.length:Int)∧L.find 26=.int .i64 (i:Int)∧H.Upto l i∧Beside t t' i)
   (fun e L t'=>((e=.exit 0∧H.Upto l l.length)∨(e=.ret∧(∃ x:Int,x≠0∧L.find 4=.int .i64 x)∧¬ H.Upto l l.length))∧L.find 1=v∧L.find 2=.ptr u.n 0∧Beside t t' (l.length+1)) l.length (by unfold rounds;omega)
   ⟨(by simp only [zK,efs,reduceIte,Nat.reduceEqDiff]),(by simp only [zK,efs,reduceIte,Nat.reduceEqDiff]),(by simp only [zK,efs,reduceIte,Nat.reduceEqDiff]),(by simp only [zK,efs,reduceIte,Nat.reduceEqDiff]),(by simp only [zK,efs,reduceIte,Nat.reduceEqDiff]),(by simp only [zK,efs,reduceIte,Nat.reduceEqDiff];rfl),JFA H l,Beside.refl t (by omega) tm⟩
   (fun i L t' hi ⟨q1,q2,q6,q24,q25,q26,hU,hB⟩=>by
    have tn':=hB.n
    have tl':=hB.le
    have tm':=hB.m
    have tf':=hB.far
    by_cases hlt:i<l.length
    ·have e0:decide ((i:Int)<(l.length:Int))=true:=decide_eq_true (by omega)
     have hRt:=hR.grow (h':=t'.h) (n':=t'.n) (fun c hc=>(hB.same c (by omega)).trans (tg c hc)) (by omega)
     obtain ⟨b,bp,c,sz,⟨r1,_⟩,r2,r3,r4⟩:=wJA hRt hlt
     have hIn:=hl _ (List.getElem_mem hlt)
     have hsucc:=JGA (h:=H) (l:=l) hlt hU
     have hfail:H.putE (l.take i) l[i]≠0→¬ H.Upto l l.length:=fun h1 h2=>h1 (h2 i hlt hlt)
     have hlk:∀ q ∈ l.take i,q.In H:=fun q hq=>hl q (List.mem_of_mem_take hq)
     generalize l[i]=P at *
     obtain ⟨v',t1',t2'⟩:=hRt.to (i:=i) (by rw [List.length_map];omega)
     rw [← List.map_take] at t2'
     have kv':=t2'.okA
     have ad:∀ s,jI s .i64 (i:Int) 1=.val (.int .i64 ((i:Int)+1)) s:=fun s=>za s _ _ (by omega)
     obtain ⟨z,hz⟩:∃ z:St,z=(t'.new (.cells [.int .i64 0,.int .i64 0,.int .i64 0] (tag 51))).put t'.n (.cells P.row (tag 51)):=⟨_,rfl⟩
     have Bz:Beside t z (i+1):=by rw [hz];exact (hB.new _).put _ (by omega)
     have zn:z.n=t'.n+1:=by rw [hz];rfl
     have zg:∀ c,c<t'.n→z.h.get c=t'.h.get c:=fun c hc=>by rw [hz,zL _ _ _ _ (by omega),zH _ _ _ (by omega)]
     have zt:z.h.get t'.n=some (.cells [.int .i64 P.x,.int .i64 P.y,.int .i64 (P.kind:Int)] (tag 51)):=by rw [hz];exact zN _ _ _ _ rfl (by omega)
     have hRz:=t2'.grow (h':=z.h) (n':=z.n) zg (by omega)
     have zu:∀ c,c<u.n→z.h.get c=u.h.get c:=fun c hc=>(Bz.same c (by omega)).trans (tg c hc)
     have hKz:KindsAt no z.h z.n H.kinds vK:=hH.k.move (fun b h1 h2=>⟨zu b h1,h2⟩) (by omega)
     have gz:=(Bz.same p hpn).trans g
     have grz:=(Bz.same rb hrb).trans gr
     have er:=wX n (by omega) hC ok P hIn (l.take i) hlk (by rw [List.length_take];omega) v' z (puts hRz) hKz gz grz (by omega) (by omega) (by omega)
     by_cases hz0:H.putE (l.take i) P=0
     ·have e1:decide (H.putE (l.take i) P=0)=true:=decide_eq_true hz0
      refine .inl ⟨hlt,?_⟩
      simp (disch:=first|omega|with_unfolding_all rfl) only [K43l0,K43r6,K43r7,Abs.W,reduceIte,Nat.reduceEqDiff,Nat.reduceAdd,Nat.reduceSub,Nat.zero_add,q1,q2,q6,q24,q25,q26,e0,kv,r2,r3,r4]
      rw [← hz]
      simp (disch:=first|omega|with_unfolding_all rfl) only [K43r8,K43r9,K43r10,K43r11,Abs.W,reduceIte,Nat.reduceEqDiff,Nat.reduceAdd,Nat.reduceSub,Nat.zero_add,q1,q2,q6,q24,q25,q26,JA,Zq,Zr,t1',zt,kv,kv',er,e1,ad]
      refine ⟨_,_,rfl,?_,?_,?_,?_,?_,?_,hsucc hz0,Bz⟩
      ·simp only [efs,q1,reduceIte,Nat.reduceEqDiff]
      ·simp only [efs,q2,reduceIte,Nat.reduceEqDiff]
      ·simp only [efs,q6,reduceIte,Nat.reduceEqDiff]
      ·simp only [efs,q24,reduceIte,Nat.reduceEqDiff]
      ·simp only [efs,q25,reduceIte,Nat.reduceEqDiff]
      ·simp only [efs,reduceIte,Nat.reduceEqDiff];rfl
     ·have e1:decide (H.putE (l.take i) P=0)=false:=decide_eq_false hz0
      refine .inr ⟨.ret,?_⟩
      simp (disch:=first|omega|with_unfolding_all rfl) only [K43l0,K43r6,K43r7,Abs.W,reduceIte,Nat.reduceEqDiff,Nat.reduceAdd,Nat.reduceSub,Nat.zero_add,q1,q2,q6,q24,q25,q26,e0,kv,r2,r3,r4]
      rw [← hz]
      simp (disch:=first|omega|with_unfolding_all rfl) only [K43r8,K43r9,K43r10,K43r11,Abs.W,reduceIte,Nat.reduceEqDiff,Nat.reduceAdd,Nat.reduceSub,Nat.zero_add,q1,q2,q6,q24,q25,q26,JA,Zq,Zr,t1',zt,kv,kv',er,e1,ad]
      refine ⟨_,_,by simp,rfl,.inr ⟨trivial,⟨_,hz0,?_⟩,hfail hz0⟩,?_,?_,Bz.mono (by omega)⟩
      ·simp only [efs,reduceIte,Nat.reduceEqDiff]
      ·simp only [efs,q1,reduceIte,Nat.reduceEqDiff]
      ·simp only [efs,q2,reduceIte,Nat.reduceEqDiff]
    ·obtain rfl:i=l.length:=by omega
     have e0:decide ((l.length:Int)<(l.length:Int))=false:=by simp
     refine .inr ⟨.exit 0,L.set 27 (.bool false),t',by simp,?_,.inl ⟨rfl,hU⟩,by simp only [efs,q1,reduceIte,Nat.reduceEqDiff],by simp only [efs,q2,reduceIte,Nat.reduceEqDiff],hB.mono (by omega)⟩
     simp (disch:=first|omega|with_unfolding_all rfl) only [res43,K43r0,K43r1,K43r2,K43r3,K43r4,K43r5,K43r6,K43r7,K43r8,K43r9,K43r10,K43r11,K43r12,K43r13,K43r14,K43r15,K43r16,K43r17,K43r18,K43,K43l0,Abs.W,reduceIte,Nat.reduceEqDiff,Nat.reduceAdd,Nat.reduceSub,q25,q26,e0])
  have s1n:=hB.n
  have s1l:=hB.le
  have s1m:=hB.m
  have s1f:=hB.far
  have s1u:∀ c,c<u.n→s1.h.get c=u.h.get c:=fun c hc=>(hB.same c (by omega)).trans (tg c hc)
  have s10:=(hB.same u.n (by omega)).trans t0
  rcases hQ with ⟨rfl,hU⟩ | ⟨rfl,⟨x,hx0,h4⟩,hU⟩
  ·simp (disch:=first|omega|with_unfolding_all rfl) only [K43r12,Abs.W,reduceIte,Nat.reduceEqDiff,Nat.reduceAdd,Nat.reduceSub,h2,h3,s10,kK,lK,Nat.zero_add]
   generalize hlp2:jK _ rounds _ _ _ _ _=q2
   obtain ⟨eB,L2,s2,rfl,hQ2,hB2⟩:=jO hlp2 (fun i L t'=>L.find 1=v∧L.find 42=vK∧L.find 43=.int .i64 (H.kinds.length:Int)∧L.find 44=.int .i64 (i:Int)∧(∀ k,k<i→(many l k:Int)≤(H.kind k).most)∧(∀ c,c<u.n→t'.h.get c=u.h.get c)∧s1.n≤t'.n∧t'.n≤s1.n+i∧u.n≤t'.m∧t'.m≤far)
    (fun e L t'=>((e=.exit 2∧∀ k,k<H.kinds.length→(many l k:Int)≤(H.kind k).most)∨(e=.ret∧L.find 4=.int .i64 13∧¬ ∀ k,k<H.kinds.length→(many l k:Int)≤(H.kind k).most))∧(∀ c,c<u.n→t'.h.get c=u.h.get c)∧s1.n≤t'.n∧t'.n≤s1.n+100∧u.n≤t'.m∧t'.m≤far) H.kinds.length (by unfold rounds;omega)
    ⟨by simp only [efs,h2,reduceIte,Nat.reduceEqDiff],(by simp only [efs,reduceIte,Nat.reduceEqDiff]),(by simp only [efs,reduceIte,Nat.reduceEqDiff]),by simp only [efs,reduceIte,Nat.reduceEqDiff];rfl,fun k hk=>absurd hk (Nat.not_lt_zero _),s1u,Nat.le_refl _,Nat.le_refl _,by omega,by omega⟩
    (fun i L t' hi ⟨q1,q42,q43,q44,hm,tu,tn',tl',tm',tf'⟩=>by
     by_cases hlt:i<H.kinds.length
     ·have e0:decide ((i:Int)<(H.kinds.length:Int))=true:=decide_eq_true (by omega)
      have hKt:KindsAt no t'.h t'.n H.kinds vK:=hH.k.move (fun b h1 h2=>⟨tu b h1,h2⟩) (by omega)
      obtain ⟨aw,b,bp,c,sz,⟨r1,_⟩,r2,r3,r4,r5⟩:=hKt.get hlt
      have hki:=jFA (H:=H) hlt
      rw [← hki] at r4 r5
      have hksc:=r5.scal.2.2
      unfold KindR.row at r4
      have hsc:scalars [.int .i64 (H.kind i).lo,.int .i64 (H.kind i).hi,.bool (H.kind i).water,aw,.int .i64 (H.kind i).rent,.int .i64 (H.kind i).most]=true:=by
       show scalars [aw,.int .i64 (H.kind i).rent,.int .i64 (H.kind i).most]=true
       rw [hksc];rfl
      obtain ⟨z,hz⟩:∃ z:St,z=(t'.new (.cells [.int .i64 0,.int .i64 0,.bool false,.nilslice,.int .i64 0,.int .i64 0] (tag 49))).put t'.n (.cells [.int .i64 (H.kind i).lo,.int .i64 (H.kind i).hi,.bool (H.kind i).water,aw,.int .i64 (H.kind i).rent,.int .i64 (H.kind i).most] (tag 49)):=⟨_,rfl⟩
      have zn:z.n=t'.n+1:=by rw [hz];rfl
      have zm:z.m=min t'.m t'.n:=by rw [hz];simp only [St.put,zQ,jF]
      have zu:∀ c,c<u.n→z.h.get c=u.h.get c:=fun c hc=>by rw [hz,zL _ _ _ _ (by omega),zH _ _ _ (by omega)];exact tu c hc
      have zt:z.h.get t'.n=some (.cells [.int .i64 (H.kind i).lo,.int .i64 (H.kind i).hi,.bool (H.kind i).water,aw,.int .i64 (H.kind i).rent,.int .i64 (H.kind i).most] (tag 49)):=by rw [hz];exact zN _ _ _ _ rfl (by omega)
      have stz:jM 6 (t'.new (.cells [.int .i64 0,.int .i64 0,.bool false,.nilslice,.int .i64 0,.int .i64 0] (tag 49))) (.agg [.int .i64 (H.kind i).lo,.int .i64 (H.kind i).hi,.bool (H.kind i).water,aw,.int .i64 (H.kind i).rent,.int .i64 (H.kind i).most]) (.ptr t'.n 0)=.val .undef z:=by
       rw [hz];exact jk _ 6 _ _ _ _ (zM _ _ _ rfl (by omega)) rfl rfl hsc
      have ec:call Try.prog X n (.fn 64) [v,.int .i64 (i:Int)] ⟨z.h,z.n,far⟩=.val (.int .i64 (many l i:Int)) ⟨z.h,z.n,far⟩:=gRA n (by omega) l i v _ (puts (hR.grow (h':=z.h) (n':=z.n) zu (by omega))) (by omega) (by show z.n+2000≤far;omega)
      have ad:∀ s,jI s .i64 (i:Int) 1=.val (.int .i64 ((i:Int)+1)) s:=fun s=>za s _ _ (by omega)
      have hts:=yG (v:=.int .i64 (many l i:Int)) (s:=z) (h:=by omega) (hm:=by omega)
      by_cases hc:(many l i:Int)≤(H.kind i).most
      ·have e1:decide ((H.kind i).most<(many l i:Int))=false:=decide_eq_false (by omega)
       refine .inl ⟨hlt,?_⟩
       simp (disch:=first|omega|with_unfolding_all rfl) only [K43l1,K43r13,K43r14,Abs.W,reduceIte,Nat.reduceEqDiff,Nat.reduceAdd,Nat.reduceSub,Nat.zero_add,q1,q42,q43,q44,e0,kK,r2,r3,r4,stz]
       simp (disch:=first|omega|with_unfolding_all rfl) only [K43r15,K43r16,K43r17,Abs.W,reduceIte,Nat.reduceEqDiff,Nat.reduceAdd,Nat.reduceSub,Nat.zero_add,q1,q42,q43,q44,kv,zt,ec,hts,e1,ad]
       refine ⟨_,_,rfl,?_,?_,?_,?_,fun k hk=>?_,zu,by omega,by omega,by omega,by omega⟩
       ·simp only [efs,q1,reduceIte,Nat.reduceEqDiff]
       ·simp only [efs,q42,reduceIte,Nat.reduceEqDiff]
       ·simp only [efs,q43,reduceIte,Nat.reduceEqDiff]
       ·simp only [efs,reduceIte,Nat.reduceEqDiff];rfl
       ·by_cases e:k=i
        ·rw [e];exact hc
        ·exact hm k (by omega)
      ·have e1:decide ((H.kind i).most<(many l i:Int))=true:=decide_eq_true (by omega)
       refine .inr ⟨.ret,?_⟩
       simp (disch:=first|omega|with_unfolding_all rfl) only [K43l1,K43r13,K43r14,Abs.W,reduceIte,Nat.reduceEqDiff,Nat.reduceAdd,Nat.reduceSub,Nat.zero_add,q1,q42,q43,q44,e0,kK,r2,r3,r4,stz]
       simp (disch:=first|omega|with_unfolding_all rfl) only [K43r15,K43r16,K43r17,Abs.W,reduceIte,Nat.reduceEqDiff,Nat.reduceAdd,Nat.reduceSub,Nat.zero_add,q1,q42,q43,q44,kv,zt,ec,hts,e1,ad]
       refine ⟨_,_,by simp,rfl,.inr ⟨trivial,?_,fun ha=>hc (ha i hlt)⟩,zu,by omega,by omega,by omega,by omega⟩
       simp only [efs,reduceIte,Nat.reduceEqDiff]
     ·obtain rfl:i=H.kinds.length:=by omega
      have e0:decide ((H.kinds.length:Int)<(H.kinds.length:Int))=false:=by simp
      refine .inr ⟨.exit 2,L.set 45 (.bool false),t',by simp,?_,.inl ⟨rfl,hm⟩,tu,tn',by omega,tm',tf'⟩
      simp (disch:=first|omega|with_unfolding_all rfl) only [res43,K43r0,K43r1,K43r2,K43r3,K43r4,K43r5,K43r6,K43r7,K43r8,K43r9,K43r10,K43r11,K43r12,K43r13,K43r14,K43r15,K43r16,K43r17,K43r18,K43,K43l1,Abs.W,reduceIte,Nat.reduceEqDiff,Nat.reduceAdd,Nat.reduceSub,q43,q44,e0])
   obtain ⟨su,sn,sl,sm,sf⟩:=hB2
   have Bu:Beside u s2 1000:=⟨su,by omega,by omega,by omega,by omega⟩
   rcases hQ2 with ⟨rfl,hm⟩ | ⟨rfl,h4,hm⟩
   ·simp (disch:=first|omega|with_unfolding_all rfl) only [K43r18,res43,Abs.W,reduceIte,Nat.reduceEqDiff,Nat.reduceAdd,Nat.reduceSub]
    exact ⟨_,_,rfl,Bu,rfl,0,rfl,⟨fun _=>ZP.mpr ⟨hU,hm⟩,fun _=>rfl⟩⟩
   ·simp (disch:=first|omega|with_unfolding_all rfl) only [K43r18,res43,Abs.W,reduceIte,Nat.reduceEqDiff,Nat.reduceAdd,Nat.reduceSub,h4]
    exact ⟨_,_,rfl,Bu,rfl,13,rfl,⟨fun h=>(by cases h),fun h=>absurd (ZP.mp h).2 hm⟩⟩
  ·have Bu:Beside u s1 1000:=⟨s1u,by omega,by omega,by omega,by omega⟩
   simp (disch:=first|omega|with_unfolding_all rfl) only [res43,Abs.W,reduceIte,Nat.reduceEqDiff,Nat.reduceAdd,Nat.reduceSub,h4]
   exact ⟨_,_,rfl,Bu,rfl,x,rfl,⟨fun h=>absurd h hx0,fun h=>absurd (ZP.mp h).1 hU⟩⟩)
 exact ⟨x,hr.symm.trans e,hx⟩
end Go.Proofs.Ytoklbkgcclkejaa.walk
set_option maxRecDepth 10000
namespace Go.Abs
theorem jmA {α:Type} (m j:Nat) (f:Nat→α) (r:α):((List.range m).map f).set j r=(List.range m).map (fun i=>if i=j then r else f i):=by
 refine List.ext_getElem (by simp) fun i h1 h2=>?_
 simp only [List.getElem_set,List.getElem_map,List.getElem_range]
 by_cases h:j=i
 ·subst h;simp
 ·rw [if_neg h,if_neg (fun e=>h e.symm)]
theorem wRA {m w:Nat} {f:Nat→List AV} (h:∀ i,(f i).length=w):∀ r ∈ (List.range m).map f,r.length=w:=fun r hr=>by
 obtain ⟨i,_,rfl⟩:=List.mem_map.mp hr
 exact h i
theorem jnA {α:Type} (m:Nat) (z:α):List.replicate m z=(List.range m).map (fun _=>z):=by
 refine List.ext_getElem (by simp) fun i h1 h2=>?_
 simp
end Go.Abs
namespace Go.Proofs.Ytoklbkgcclkejaa.walk
open Go.Abs Go.Proofs.Ytoklbkgcclkejaa.code
theorem vsJ (N:Nat) (hN:1≤N) (a b c d:Int) (bl sz:Nat) (s:St) (g:s.h.get bl=some (.cells [.int .i64 a,.int .i64 b,.int .i64 c,.int .i64 d] sz)) (hbl:bl<s.n) (ha:0≤a∧a≤1000000000) (hb:0≤b∧b≤1000000000) (hc:0≤c∧c≤1000000000) (hd:0≤d∧d≤1000000000) (hs:s.n+20≤far) :
  call Try.prog X N (.fn 73) [.slice bl 0 2 2 false] s=.val (.agg [.int .i64 (a+c),.int .i64 (b+d)]) s:=by
 obtain ⟨n,rfl⟩:∃ n,N=n+1:=⟨N - 1,by omega⟩
 refine zj Try.func73 (fun u uh un um=>?_) rfl
 rw [← uh] at g
 rw [← un] at hbl
 have hf:=hfar
 have oks:∀ t,okA (.val (.slice bl 0 2 2 false) t)=.val (.slice bl 0 2 2 false) t:=fun _=>rfl
 have ll:∀ s,zq s (.slice bl 0 2 2 false)=.val (.int .i64 2) s:=fun _=>rfl
 obtain ⟨w,hw⟩:∃ w:St,w=(u.new (.cells [.int .i64 0,.int .i64 0] (tag 44))).new (.cells [.int .i64 0,.int .i64 0] (tag 44)):=⟨_,rfl⟩
 have wn:w.n=u.n+2:=by rw [hw];rfl
 have wm:w.m=far:=by rw [hw];exact um
 have wg:∀ c,c<u.n→w.h.get c=u.h.get c:=fun c hc=>by rw [hw,zH _ _ _ (by rw [zW];omega),zH _ _ _ (by omega)]
 have w0:w.h.get u.n=some (.cells [.int .i64 0,.int .i64 0] (tag 44)):=by rw [hw,zH _ _ _ (by rw [zW];omega)];exact zM _ _ _ rfl (by omega)
 have w1:w.h.get (u.n+1)=some (.cells [.int .i64 0,.int .i64 0] (tag 44)):=by rw [hw];exact zM _ _ _ rfl (by rw [zW];omega)
 obtain ⟨S0,hS0⟩:∃ S:Nat→Int,S=fun i=>if i=0 then 0 else if i=1 then a else a+c:=⟨_,rfl⟩
 obtain ⟨S1,hS1⟩:∃ S:Nat→Int,S=fun i=>if i=0 then 0 else if i=1 then b else b+d:=⟨_,rfl⟩
 have z0:S0 0=0:=by rw [hS0];rfl
 have z1:S1 0=0:=by rw [hS1];rfl
 have f0:S0 2=a+c:=by rw [hS0];rfl
 have f1:S1 2=b+d:=by rw [hS1];rfl
 have row:∀ i,i<2→∃ x y:Int,cut (i * 2) 2 [.int .i64 a,.int .i64 b,.int .i64 c,.int .i64 d]=some [.int .i64 x,.int .i64 y]∧S0 (i+1)=S0 i+x∧S1 (i+1)=S1 i+y∧0≤x∧x≤1000000000∧0≤y∧y≤1000000000∧0≤S0 i∧S0 i≤1000000000∧0≤S1 i∧S1 i≤1000000000:=fun i hi=>by
  rcases (by omega:i=0∨i=1) with rfl | rfl
  ·exact ⟨a,b,rfl,by rw [hS0];simp,by rw [hS1];simp,ha.1,ha.2,hb.1,hb.2,by rw [z0];omega,by rw [z0];omega,by rw [z1];omega,by rw [z1];omega⟩
  ·exact ⟨c,d,rfl,by rw [hS0];rfl,by rw [hS1];rfl,hc.1,hc.2,hd.1,hd.2,by rw [hS0];exact ha.1,by rw [hS0];exact ha.2,by rw [hS1];exact hb.1,by rw [hS1];exact hb.2⟩
 clear hS0 hS1
 rw [zgQ]
 simp (disch:=first|omega|with_unfolding_all rfl) only [K73,K73r0,K73r1,K73r2,Abs.W,reduceIte,Nat.reduceEqDiff,Nat.reduceAdd,Nat.reduceSub]
 rw [← hw]
 generalize hlp:jK _ rounds _ _ _ _ _=q1
 obtain ⟨e,L1,s1,rfl,rfl,l2,l3,h1,h2,h3,h4⟩:=jO hlp (fun i L t=>L.find 2=.ptr u.n 0∧L.find 3=.ptr (u.n+1) 0∧L.find 6=.slice bl 0 2 2 false∧L.find 7=.int .i64 2∧L.find 8=.int .i64 (i:Int)∧t.h.get (u.n+1)=some (.cells [.int .i64 (S0 i),.int .i64 (S1 i)] (tag 44))∧(∀ c,c<u.n+1→t.h.get c=w.h.get c)∧t.n=u.n+2+i∧u.n≤t.m)
  (fun e L t=>e=.exit 0∧L.find 2=.ptr u.n 0∧L.find 3=.ptr (u.n+1) 0∧t.h.get (u.n+1)=some (.cells [.int .i64 (S0 2),.int .i64 (S1 2)] (tag 44))∧(∀ c,c<u.n+1→t.h.get c=w.h.get c)∧t.n=u.n+4∧u.n≤t.m) 2 (by unfold rounds;omega)
  ⟨(by simp only [zK,efs,reduceIte,Nat.reduceEqDiff]),(by simp only [zK,efs,reduceIte,Nat.reduceEqDiff];rfl),(by simp only [zK,efs,reduceIte,Nat.reduceEqDiff]),(by simp only [zK,efs,reduceIte,Nat.reduceEqDiff];rfl),(by simp only [zK,efs,reduceIte,Nat.reduceEqDiff];rfl),by rw [z0,z1];exact w1,fun _ _=>rfl,by omega,by omega⟩
  (fun i L t hi ⟨q2,q3,q6,q7,q8,tg1,tg,tn,tm⟩=>by
   by_cases hlt:i<2
   ·have e0:decide ((i:Int)<2)=true:=decide_eq_true (by omega)
    obtain ⟨x,y,r1,r2,r3,r4,r5,r6,r7,r8,r9,r10,r11⟩:=row i hlt
    have gt:=(tg bl (by omega)).trans ((wg bl hbl).trans g)
    have hix:∀ s,jX 2 s (.slice bl 0 2 2 false) (.int .i64 (i:Int))=.val (.ptr bl (i * 2)) s:=fun s=>by rw [jq _ _ _ _ _ _ _ _ hlt,Nat.zero_add]
    have ad:∀ s,jI s .i64 (i:Int) 1=.val (.int .i64 ((i:Int)+1)) s:=fun s=>za s _ _ (by omega)
    have a1:∀ s,jI s .i64 (S0 i) x=.val (.int .i64 (S0 (i+1))) s:=fun s=>by rw [r2];exact za s _ _ (by omega)
    have a2:∀ s,jI s .i64 (S1 i) y=.val (.int .i64 (S1 (i+1))) s:=fun s=>by rw [r3];exact za s _ _ (by omega)
    obtain ⟨z,hz⟩:∃ z:St,z=(t.new (.cells [.int .i64 0,.int .i64 0] (tag 44))).put t.n (.cells [.int .i64 x,.int .i64 y] (tag 44)):=⟨_,rfl⟩
    have zn:z.n=t.n+1:=by rw [hz];rfl
    have zm:z.m=min t.m t.n:=by rw [hz];simp only [St.put,zQ,jF]
    have zg:∀ c,c<t.n→z.h.get c=t.h.get c:=fun c hc=>by rw [hz,zL _ _ _ _ (by omega),zH _ _ _ (by omega)]
    have zt:z.h.get t.n=some (.cells [.int .i64 x,.int .i64 y] (tag 44)):=by rw [hz];exact zN _ _ _ _ rfl (by omega)
    have z1':=(zg (u.n+1) (by omega)).trans tg1
    refine .inl ⟨hlt,?_⟩
    simp (disch:=first|omega|with_unfolding_all rfl) only [K73l0,K73r3,K73r4,Abs.W,reduceIte,Nat.reduceEqDiff,Nat.reduceAdd,Nat.reduceSub,Nat.zero_add,q2,q3,q6,q7,q8,e0,oks,hix,gt,r1]
    rw [← hz]
    simp (disch:=first|omega|with_unfolding_all rfl) only [K73r5,K73r6,K73r7,Abs.W,reduceIte,Nat.reduceEqDiff,Nat.reduceAdd,Nat.reduceSub,Nat.zero_add,Nat.add_zero,q2,q3,q6,q7,q8,zt,z1',a1,a2,ad]
    refine ⟨_,_,rfl,?_,?_,?_,?_,?_,zN _ _ _ _ (by omega) (by omega),fun c hc=>?_,?_,?_⟩
    ·simp only [efs,q2,reduceIte,Nat.reduceEqDiff]
    ·simp only [efs,q3,reduceIte,Nat.reduceEqDiff]
    ·simp only [efs,q6,reduceIte,Nat.reduceEqDiff]
    ·simp only [efs,q7,reduceIte,Nat.reduceEqDiff]
    ·simp only [efs,reduceIte,Nat.reduceEqDiff];rfl
    ·rw [zL _ _ _ _ (by omega),zL _ _ _ _ (by omega),zg c (by omega)];exact tg c hc
    ·simp only [jB];omega
    ·simp only [St.put,zQ];omega
   ·obtain rfl:i=2:=by omega
    have e0:decide (((2:Nat):Int)<2)=false:=rfl
    refine .inr ⟨.exit 0,L.set 9 (.bool false),t,by simp,?_,rfl,by simp only [efs,q2,reduceIte,Nat.reduceEqDiff],by simp only [efs,q3,reduceIte,Nat.reduceEqDiff],tg1,tg,tn,tm⟩
    simp (disch:=first|omega|with_unfolding_all rfl) only [jlQ,K73r0,K73r1,K73r2,K73r3,K73r4,K73r5,K73r6,K73r7,K73r8,K73,K73l0,Abs.W,reduceIte,Nat.reduceEqDiff,Nat.reduceAdd,Nat.reduceSub,q7,q8,e0])
 rw [f0,f1] at h1
 have s0:=(h2 u.n (by omega)).trans w0
 have shF:yH Try.prog 44=some (some 2):=by kernel_rfl
 simp (disch:=first|omega|with_unfolding_all rfl) only [K73r8,Abs.W,reduceIte,Nat.reduceEqDiff,Nat.reduceAdd,Nat.reduceSub,l2,l3,h1,s0,Nat.zero_add]
 rw [jlQ]
 refine ⟨_,yz _ _ _ _ shF ?_,?_⟩
 ·simp (disch:=first|omega|with_unfolding_all rfl) only [Abs.W,reduceIte,Nat.reduceEqDiff,Nat.reduceAdd,Nat.reduceSub,l2]
 ·simp only [St.put,zQ];omega
def HallR.loadRow (H:HallR) (l:List PutR) (b:Nat):List AV:=[.int .i64 (tot (H.lows l) b),.int .i64 (tot (H.highs l) b)]
def HallR.loadRows (H:HallR) (l:List PutR):List (List AV):=(List.range H.bays).map (H.loadRow l)
theorem YV (H:HallR) (l:List PutR):(H.loadRows l).length=H.bays:=by unfold HallR.loadRows;simp
theorem Ji (H:HallR) (l:List PutR):∀ r ∈ H.loadRows l,r.length=2:=wRA fun _=>rfl
theorem vBA (H:HallR) (l:List PutR) {b:Nat} (hb:b<H.bays):(H.loadRows l)[b]'(by rw [YV];exact hb)=H.loadRow l b:=by simp [HallR.loadRows]
theorem VJA (H:HallR) {l:List PutR} {i:Nat} (hi:i<l.length) (b:Nat):H.loadRow (l.take (i+1)) b=if b=H.bay l[i] then [.int .i64 (tot (H.lows (l.take i)) b+(H.kind l[i].kind).lo),.int .i64 (tot (H.highs (l.take i)) b+(H.kind l[i].kind).hi)] else H.loadRow (l.take i) b:=by
 unfold HallR.loadRow HallR.lows HallR.highs
 rw [yE hi,List.map_append,List.map_append,List.map_singleton,List.map_singleton,Zd,Zd]
 by_cases h:H.bay l[i]=b
 ·rw [if_pos h,if_pos h.symm,if_pos h]
 ·have h':¬ b=H.bay l[i]:=fun e=>h e.symm
  simp only [h,h',if_false,Int.add_zero]
theorem vP {H:HallR} (ok:H.Ok) {k:Nat} (hk:k<H.kinds.length):(H.kind k).Ok H.kinds.length:=by rw [jFA hk];exact ok.k _ (List.getElem_mem hk)
theorem WSA {H:HallR} (ok:H.Ok) {l:List PutR} (hl:∀ q ∈ l,q.kind<H.kinds.length) (h24:l.length≤24) (b:Nat):(0≤tot (H.lows l) b∧tot (H.lows l) b≤24000000)∧0≤tot (H.highs l) b∧tot (H.highs l) b≤24000000:=by
 have h1:=ZQ (H.lows l) b 1000000 (by decide) fun x hx=>by
  obtain ⟨q,hq,rfl⟩:=List.mem_map.mp hx
  have hk:=vP ok (hl q hq)
  have h3:=hk.l0
  have h4:=hk.l1
  have h5:=hk.l2
  simp only
  omega
 have h2:=ZQ (H.highs l) b 1000000 (by decide) fun x hx=>by
  obtain ⟨q,hq,rfl⟩:=List.mem_map.mp hx
  have hk:=vP ok (hl q hq)
  have h3:=hk.l0
  have h4:=hk.l1
  have h5:=hk.l2
  simp only
  omega
 unfold HallR.lows at h1
 unfold HallR.highs at h2
 rw [List.length_map] at h1 h2
 unfold HallR.lows HallR.highs
 omega
end Go.Proofs.Ytoklbkgcclkejaa.walk
set_option maxRecDepth 10000
namespace Go.Abs
theorem JLA {s:St} {b w j tg:Nat} {rows:List (List AV)} {R:List AV} (h:s.h.get b=some (.cells rows.flatten tg)) (hw:∀ r ∈ rows,r.length=w) (hj:j<rows.length) (hr:R.length=w) (hs:scalars R=true):jM w s (.agg R) (.ptr b (j * w))=.val .undef (s.put b (.cells (rows.set j R).flatten tg)):=by
 rw [Vw,h,YK,vQA,if_pos hr,Yx,hs,Yy,zpA hw hj hr]
 rfl
end Go.Abs
namespace Go.Proofs.Ytoklbkgcclkejaa.walk
open Go.Abs Go.Proofs.Ytoklbkgcclkejaa.code
theorem vjA {H:HallR} {P:PutR} {x y:Nat} (ex:P.x=(x:Int)) (ey:P.y=(y:Int)):H.bay P=H.bayAt x y:=by unfold HallR.bay;rw [ex,ey];rfl
theorem gHJ (H:HallR) {l:List PutR} {i:Nat} (hi:i<l.length):H.loadRows (l.take (i+1))=(H.loadRows (l.take i)).set (H.bay l[i]) [.int .i64 (tot (H.lows (l.take i)) (H.bay l[i])+(H.kind l[i].kind).lo),.int .i64 (tot (H.highs (l.take i)) (H.bay l[i])+(H.kind l[i].kind).hi)]:=by
 unfold HallR.loadRows
 rw [jmA]
 congr 1
 funext b
 rw [VJA H hi b]
 by_cases h:b=H.bay l[i]
 ·subst h;simp only [if_true]
 ·simp only [h,if_false]
theorem gnJ (H:HallR):H.loadRows []=List.replicate H.bays [.int .i64 0,.int .i64 0]:=by rw [jnA];rfl
theorem YNJ {N:Nat} {no:Nat→Prop} {sc:List AV} {H:HallR} {vW vS vB vK:AV} {rb p:Nat} {l:List PutR} {v:AV} {s:St} {r:ARes} (hr:call Try.prog X N (.fn 45) [.ptr p 0,v] s=r) (hN:3≤N) (hS:SiteC sc H vW vS vB vK rb) (ok:H.Ok) (hB0:Sl no s.h s.n 1 (jA H.bears) vB) (hK:KindsAt no s.h s.n H.kinds vK) (hR:Sl no s.h s.n 3 (l.map PutR.row) v) (hl:∀ q ∈ l,q.In H) (hm:∀ q ∈ l,H.In q.c) (hl1:l.length≤24) (g:s.h.get p=some (vQ sc)) (hp:p<s.n) (hs:s.n+1000≤far) :
  ∃ t bl,r=.val (.slice bl 0 H.bays H.bays false) t∧New s t 200∧s.n≤bl∧bl<t.n∧t.h.get bl=some (.cells (H.loadRows l).flatten 0):=by
 obtain ⟨n,rfl⟩:∃ n,N=n+1:=⟨N - 1,by omega⟩
 have hf:=hfar
 obtain ⟨vv,t,e,st,bl,rfl,hb1,hb2,hb3⟩:=vm (n:=n) (args:=[.ptr p 0,v]) (s:=s) (k:=200) (Q:=fun v h n=>∃ bl,v=.slice bl 0 H.bays H.bays false∧s.n≤bl∧bl<n∧h.get bl=some (.cells (H.loadRows l).flatten 0)) Try.func45 rfl (fun u uh un um=>by
  rw [← uh,← un] at hB0 hK hR
  rw [← uh] at g
  rw [← un] at hp ⊢
  have kv:=hR.okA
  have lv:=jfA hR
  have kB:=hB0.okA
  have lB:=wPA hB0.at_
  rw [ok.bl] at lB
  have sz:=ok.toSize
  have hb24:=vY sz
  have h6:=hS.b
  have mk:∀ s:St,VO [.int .i64 0,.int .i64 0] 16 s (.int .i64 (H.bays:Int)) (.int .i64 (H.bays:Int))=.val (.slice s.n 0 H.bays H.bays false) (s.new (.cells (H.loadRows []).flatten 0)):=fun s=>by rw [gnJ];exact WE _ 16 _ s (by omega) (by omega)
  have okS:∀ t,okA (.val (.slice u.n 0 H.bays H.bays false) t)=.val (.slice u.n 0 H.bays H.bays false) t:=fun _=>rfl
  obtain ⟨w,hw⟩:∃ w:St,w=u.new (.cells (H.loadRows []).flatten 0):=⟨_,rfl⟩
  have wn:w.n=u.n+1:=by rw [hw];rfl
  have wm:w.m=far:=by rw [hw];exact um
  have wg:∀ c,c<u.n→w.h.get c=u.h.get c:=fun c hc=>by rw [hw,zH _ _ _ (by omega)]
  have w0:w.h.get u.n=some (.cells (H.loadRows []).flatten 0):=by rw [hw];exact zM _ _ _ rfl (by omega)
  rw [jCQ]
  simp (disch:=first|omega|with_unfolding_all rfl) only [K45,K45r0,K45r1,K45r2,Abs.W,reduceIte,Nat.reduceEqDiff,Nat.reduceAdd,Nat.reduceSub,g,h6,kB,lB,kv,lv,WG,mk,okS,Nat.zero_add]
  rw [← hw]
  generalize hlp:jK _ rounds _ _ _ _ _=q1
  obtain ⟨eA,L1,s1,rfl,rfl,l5,sg,sn,sl,sm,sf,sb⟩:=jO hlp (fun i L t=>L.find 0=.ptr p 0∧L.find 5=.slice u.n 0 H.bays H.bays false∧L.find 16=v∧L.find 17=.int .i64 (l.length:Int)∧L.find 18=.int .i64 (i:Int)∧(∀ c,c<u.n→t.h.get c=u.h.get c)∧w.n≤t.n∧t.n≤w.n+5 * i∧u.n≤t.m∧t.m≤far∧t.h.get u.n=some (.cells (H.loadRows (l.take i)).flatten 0))
   (fun e L t=>e=.exit 0∧L.find 5=.slice u.n 0 H.bays H.bays false∧(∀ c,c<u.n→t.h.get c=u.h.get c)∧w.n≤t.n∧t.n≤w.n+5 * l.length∧u.n≤t.m∧t.m≤far∧t.h.get u.n=some (.cells (H.loadRows l).flatten 0)) l.length (by unfold rounds;omega)
   ⟨(by simp only [zK,efs,reduceIte,Nat.reduceEqDiff]),(by simp only [zK,efs,reduceIte,Nat.reduceEqDiff]),(by simp only [zK,efs,reduceIte,Nat.reduceEqDiff]),(by simp only [zK,efs,reduceIte,Nat.reduceEqDiff]),(by simp only [zK,efs,reduceIte,Nat.reduceEqDiff];rfl),wg,Nat.le_refl _,by omega,by omega,by omega,w0⟩
   (fun i L t hi ⟨q0,q5,q16,q17,q18,tg,tn,tl,tm,tf,tb⟩=>by
    by_cases hlt:i<l.length
    ·have e0:decide ((i:Int)<(l.length:Int))=true:=decide_eq_true (by omega)
     have hRt:=hR.grow (h':=t.h) (n':=t.n) tg (by omega)
     obtain ⟨b,bp,c,szz,⟨r1,_⟩,r2,r3,r4⟩:=wJA hRt hlt
     have hIn:=hl _ (List.getElem_mem hlt)
     have hMay:=hm _ (List.getElem_mem hlt)
     have hsn:=gHJ H hlt
     have hlk:∀ q ∈ l.take i,q.kind<H.kinds.length:=fun q hq=>(hl q (List.mem_of_mem_take hq)).k
     have hbd:=WSA ok hlk (by rw [List.length_take];omega) (H.bay l[i])
     generalize l[i]=P at *
     obtain ⟨x,y,ex,ey,hx,hy⟩:=zIA hMay
     have s6:=sz.w1
     have s4:=sz.d1
     have hkP:=vP ok hIn.k
     have k0:=hkP.l0
     have k1:=hkP.l1
     have k2:=hkP.l2
     have hbay:=vjA (H:=H) ex ey
     have hblt:=gjA sz hx hy
     rw [← hbay] at hblt
     have ad:∀ s,jI s .i64 (i:Int) 1=.val (.int .i64 ((i:Int)+1)) s:=fun s=>za s _ _ (by omega)
     obtain ⟨z,hz⟩:∃ z:St,z=(t.new (.cells [.int .i64 0,.int .i64 0,.int .i64 0] (tag 51))).put t.n (.cells P.row (tag 51)):=⟨_,rfl⟩
     have zn:z.n=t.n+1:=by rw [hz];rfl
     have zm:z.m=min t.m t.n:=by rw [hz];simp only [St.put,zQ,jF]
     have zg:∀ c,c<t.n→z.h.get c=t.h.get c:=fun c hc=>by rw [hz,zL _ _ _ _ (by omega),zH _ _ _ (by omega)]
     have zt:z.h.get t.n=some (.cells [.int .i64 P.x,.int .i64 P.y,.int .i64 (P.kind:Int)] (tag 51)):=by rw [hz];exact zN _ _ _ _ rfl (by omega)
     have zu:∀ c,c<u.n→z.h.get c=u.h.get c:=fun c hc=>(zg c (by omega)).trans (tg c hc)
     have gz:=(zu p hp).trans g
     have zb:=(zg u.n (by omega)).trans tb
     have es:=zZA n (by omega) hS (show x<6 by omega) (show y<4 by omega) (P.kind:Int) z gz (by omega) (by omega)
     rw [Jp sz hx hy,← ex,← ey,← hbay] at es
     obtain ⟨aw,hA,ek⟩:=JO n (by omega) hS hIn.k ok u hK g hp
     have ek1:=ek P.x P.y ⟨z.h,z.n,far⟩ zu (by show u.n≤z.n;omega) (by show z.n+10≤far;omega) (Nat.le_refl _)
     obtain ⟨A,hA0⟩:∃ A:St,A=Jy ⟨z.h,z.n,far⟩ [.int .i64 P.x,.int .i64 P.y,.int .i64 (P.kind:Int)] ((H.kind P.kind).row aw):=⟨_,rfl⟩
     rw [← hA0] at ek1
     have An:A.n=z.n+2:=by rw [hA0];rfl
     have Am:A.m=far:=by rw [hA0];rfl
     have Ag:∀ c,c<z.n→A.h.get c=z.h.get c:=fun c hc=>by rw [hA0];exact vz _ _ _ _ hc
     obtain ⟨Z,hZ⟩:∃ Z:St,Z=⟨A.h,A.n,yA z.m A.m⟩:=⟨_,rfl⟩
     have Zn:Z.n=z.n+2:=by rw [hZ];exact An
     have Zm:Z.m=z.m:=by rw [hZ];show yA z.m A.m=_;rw [zQ];omega
     have Zg:∀ c,c<z.n→Z.h.get c=z.h.get c:=fun c hc=>by rw [hZ];exact Ag c hc
     have tv1:∀ ws v d rest cl L,WV (some ws) (.val v A) d rest cl L z=rest cl (d.put v L) Z:=fun ws v d rest cl L=>by rw [hZ];exact wk _ _ _ _ _ _ _ _ (by omega)
     have okr:∀ t,okA (.val (.agg ((H.kind P.kind).row aw)) t)=.val (.agg ((H.kind P.kind).row aw)) t:=fun _=>rfl
     have f0:cut 0 2 ((H.kind P.kind).row aw)=some [.int .i64 (H.kind P.kind).lo,.int .i64 (H.kind P.kind).hi]:=rfl
     have hix:∀ s,jX 2 s (.slice u.n 0 H.bays H.bays false) (.int .i64 (H.bay P:Int))=.val (.ptr u.n (H.bay P * 2)) s:=fun s=>by rw [jq _ _ _ _ _ _ _ _ hblt,Nat.zero_add]
     have hrl:H.bay P<(H.loadRows (l.take i)).length:=by rw [YV];exact hblt
     have hcut:cut (H.bay P * 2) 2 (H.loadRows (l.take i)).flatten=some [.int .i64 (tot (H.lows (l.take i)) (H.bay P)),.int .i64 (tot (H.highs (l.take i)) (H.bay P))]:=by
      rw [yU (Ji H _) hrl,vBA H _ hblt];rfl
     obtain ⟨Y,hY⟩:∃ Y:St,Y=Z.new (.cells [.int .i64 (tot (H.lows (l.take i)) (H.bay P)),.int .i64 (tot (H.highs (l.take i)) (H.bay P)),.int .i64 (H.kind P.kind).lo,.int .i64 (H.kind P.kind).hi] 0):=⟨_,rfl⟩
     have Yn:Y.n=Z.n+1:=by rw [hY];rfl
     have Ym:Y.m=Z.m:=by rw [hY];rfl
     have Yg:∀ c,c<Z.n→Y.h.get c=Z.h.get c:=fun c hc=>by rw [hY,zH _ _ _ (by omega)]
     have Yt:Y.h.get Z.n=some (.cells [.int .i64 (tot (H.lows (l.take i)) (H.bay P)),.int .i64 (tot (H.highs (l.take i)) (H.bay P)),.int .i64 (H.kind P.kind).lo,.int .i64 (H.kind P.kind).hi] 0):=by rw [hY];exact zM _ _ _ rfl (by omega)
     have esum:=vsJ n (by omega) _ _ _ _ Z.n 0 Y Yt (by omega) ⟨hbd.1.1,by omega⟩ ⟨hbd.2.1,by omega⟩ ⟨k0,by omega⟩ ⟨by omega,by omega⟩ (by omega)
     have Yb:=(Yg u.n (by omega)).trans ((Zg u.n (by omega)).trans zb)
     have stY:=JLA (R:=[.int .i64 (tot (H.lows (l.take i)) (H.bay P)+(H.kind P.kind).lo),.int .i64 (tot (H.highs (l.take i)) (H.bay P)+(H.kind P.kind).hi)]) Yb (Ji H _) hrl rfl rfl
     rw [← hsn] at stY
     refine .inl ⟨hlt,?_⟩
     simp (disch:=first|omega|with_unfolding_all rfl) only [K45l0,K45r3,K45r4,Abs.W,reduceIte,Nat.reduceEqDiff,Nat.reduceAdd,Nat.reduceSub,Nat.zero_add,q0,q5,q16,q17,q18,e0,kv,r2,r3,r4]
     rw [← hz]
     simp (disch:=first|omega|with_unfolding_all rfl) only [K45r5,K45r6,K45r7,Abs.W,reduceIte,Nat.reduceEqDiff,Nat.reduceAdd,Nat.reduceSub,Nat.zero_add,q0,q5,q16,q17,q18,okS,zt,es,zLA,hix,zb,hcut,ek1,tv1,okr,f0]
     rw [← hY]
     simp (disch:=first|omega|(with_unfolding_all exact rfl)|(simp only[zW,jB,jF];omega)|(refine jU ?_;simp only[jF];omega)) only [Abs.W,reduceIte,Nat.reduceEqDiff,Nat.reduceAdd,Nat.reduceSub,esum,stY,hix,Nat.zero_add,q18,ad]
     refine ⟨_,_,rfl,?_,?_,?_,?_,?_,fun c hc=>?_,?_,?_,?_,?_,zN _ _ _ _ rfl (by omega)⟩
     ·simp only [efs,q0,reduceIte,Nat.reduceEqDiff]
     ·simp only [efs,q5,reduceIte,Nat.reduceEqDiff]
     ·simp only [efs,q16,reduceIte,Nat.reduceEqDiff]
     ·simp only [efs,q17,reduceIte,Nat.reduceEqDiff]
     ·simp only [efs,reduceIte,Nat.reduceEqDiff];rfl
     ·rw [zL _ _ _ _ (by omega),Yg c (by omega),Zg c (by omega)];exact zu c hc
     ·rw [jB];omega
     ·rw [jB];omega
     ·simp only [St.put,zQ];omega
     ·simp only [St.put,zQ];omega
    ·obtain rfl:i=l.length:=by omega
     have e0:decide ((l.length:Int)<(l.length:Int))=false:=by simp
     rw [List.take_length] at tb
     refine .inr ⟨.exit 0,L.set 19 (.bool false),t,by simp,?_,rfl,by simp only [efs,q5,reduceIte,Nat.reduceEqDiff],tg,tn,tl,tm,tf,tb⟩
     simp (disch:=first|omega|with_unfolding_all rfl) only [res45,K45r0,K45r1,K45r2,K45r3,K45r4,K45r5,K45r6,K45r7,K45r8,K45,K45l0,Abs.W,reduceIte,Nat.reduceEqDiff,Nat.reduceAdd,Nat.reduceSub,q17,q18,e0])
  simp (disch:=first|omega|with_unfolding_all rfl) only [K45r8,res45,Abs.W,reduceIte,Nat.reduceEqDiff,Nat.reduceAdd,Nat.reduceSub,l5,okS]
  exact ⟨_,_,rfl,⟨sg,by omega,by omega,by omega,by omega⟩,rfl,u.n,rfl,by omega,by omega,sb⟩)
 exact ⟨t,bl,hr.symm.trans e,st,hb1,hb2,hb3⟩
end Go.Proofs.Ytoklbkgcclkejaa.walk
