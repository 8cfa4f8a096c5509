/- Halls in memory; vault.Check of any valid hall, its parts. -/
import Derived.Test.YtoklbkgcclkejaaM1
import Derived.Test.YtoklbkgcclkejaaCodes
import Derived.Test.YtoklbkgcclkejaaWalkAll
set_option linter.unusedSimpArgs false
set_option linter.unusedVariables false
set_option maxHeartbeats 16000000
set_option linter.unusedVariables false
set_option maxRecDepth 10000
namespace Go.Abs
theorem gFJ (c:Cmp) (s:St) (k m:AV) (b:Bool):updK c s k (.bool b) m=YdA c s k (.bool b) m:=Eq.trans (Eq.refl _) (Eq.refl _)
theorem wi (s:St) (a b:Nat) (hb:b≠0) (h:a≤9223372036854775807):JI s .i64 (a:Int) (b:Int)=.val (.int .i64 ((a / b:Nat):Int)) s:=by
 unfold JI
 rw [if_neg (by omega),show (a:Int).tdiv (b:Int)=((a / b:Nat):Int) from rfl,zTA _ (by have:=Nat.div_le_self a b;generalize a / b=q at *;omega)]
theorem jWA (s:St) (a b:Nat) (h:a * b≤1000000):yOA s .i64 (a:Int) (b:Int)=.val (.int .i64 ((a * b:Nat):Int)) s:=by
 rw [jbJ,show Int.mul (a:Int) (b:Int)=((a * b:Nat):Int) from rfl,zTA _ (by omega)]
theorem zwJ (o:Nat) (sh:Option Nat) (c:Cmp) (l:List (Nat × Option Nat × Cmp)) (xs ys:List AV) {b:Bool} (h:Cmp.eq c (yW sh xs o) (yW sh ys o)=some b):Cmp.eqs ((o,sh,c)::l) xs ys=if b then Cmp.eqs l xs ys else some false:=by
 have e:Cmp.eqs ((o,sh,c)::l) xs ys=(match Cmp.eq c (yW sh xs o) (yW sh ys o) with | some true=>Cmp.eqs l xs ys | r=>r):=rfl
 rw [e,h]
 cases b<;>rfl
theorem zIQ (xs ys:List AV):Cmp.eqs [] xs ys=some true:=rfl
end Go.Abs
namespace Go.Proofs.Ytoklbkgcclkejaa.walk
open Go.Abs Go.Proofs.Ytoklbkgcclkejaa.code
abbrev jC (c:Int × Int):List AV:=[.int .i64 c.1,.int .i64 c.2]
abbrev JV:Cmp:=.row [(0,none,.int),(1,none,.int)]
theorem VZA (a b:Int × Int):Cmp.eq JV (.agg (jC a)) (.agg (jC b))=some (decide (a=b)):=by
 obtain ⟨a1,a2⟩:=a
 obtain ⟨b1,b2⟩:=b
 show Cmp.eqs _ (jC (a1,a2)) (jC (b1,b2))=_
 rw [zwJ _ _ _ _ _ _ (wWJ a1 b1),zwJ _ _ _ _ _ _ (wWJ a2 b2),zIQ]
 by_cases h1:a1=b1
 ·by_cases h2:a2=b2
  ·subst h1 h2;simp
  ·simp [h1,h2]
 ·simp [h1]
theorem wpA (c:Int × Int):Wh JV (.agg (jC c))=true:=by
 unfold Wh
 rw [VZA,decide_eq_true rfl]
def JU (l:List (Int × Int)):List (AV × AV):=l.map fun c=>(.agg (jC c),.bool true)
theorem VYA {c:Int × Int}:∀ {l:List (Int × Int)} (i:Nat),c ∉ l→ZG JV (.agg (jC c)) (JU l) i=some none
 | [],_,_=>rfl
 | a::l,i,h=>by
  show (match Cmp.eq JV (.agg (jC c)) (.agg (jC a)) with | some true=>some (some (i,AV.bool true)) | some false=>ZG JV (.agg (jC c)) (JU l) (Nat.succ i) | none=>none)=_
  rw [VZA,decide_eq_false (fun e=>h (by rw [e];exact List.mem_cons_self ..))]
  exact VYA _ fun hm=>h (List.mem_cons_of_mem _ hm)
theorem WnJ {c:Int × Int} {l:List (Int × Int)} (hc:c ∉ l) (b:Nat) (s:St) (h:s.h.get b=some (.map (JU l))):jBA JV (.bool false) false s (.agg (jC c)) (.map b)=.val (.bool false) s:=by
 unfold jBA
 simp only [h,wpA,VYA 0 hc]
 rfl
theorem yxQ {c:Int × Int} {l:List (Int × Int)} (hc:c ∉ l) (b:Nat) (s:St) (h:s.h.get b=some (.map (JU l))):YdA JV s (.agg (jC c)) (.bool true) (.map b)=.val .undef (s.put b (.map (JU (l++[c])))):=by
 unfold YdA
 simp only [h,wpA,VYA 0 hc]
 unfold JU
 rw [List.map_append]
 rfl
/-! ### Halls in memory -/
def KindR.row (k:KindR) (w:AV):List AV:=[.int .i64 k.lo,.int .i64 k.hi,.bool k.water,w,.int .i64 k.rent,.int .i64 k.most]
def yI (l:List KindR) (ws:List AV):List (List AV):=List.zipWith KindR.row l ws
theorem vO {l:List KindR} {ws:List AV} (h:ws.length=l.length):(yI l ws).length=l.length:=by unfold yI;rw [List.length_zipWith,h,Nat.min_self]
def KindsAt (no:Nat→Prop) (h:Heap) (n:Nat) (l:List KindR) (v:AV):Prop:=∃ ws:List AV,ws.length=l.length∧Sl no h n 6 (yI l ws) v∧∀ i (h1:i<ws.length) (h2:i<l.length),Sl no h n 1 (jA l[i].away) ws[i]
structure HallAt (no:Nat→Prop) (h:Heap) (n:Nat) (H:HallR) (vW vS vB vK:AV):Prop where
 w:Sl no h n 2 (H.water.map jC) vW
 s:Sl no h n 2 (H.shut.map jC) vS
 b:Sl no h n 1 (jA H.bears) vB
 k:KindsAt no h n H.kinds vK
abbrev zP (H:HallR) (vW vS vB vK:AV):List AV:=[.int .i64 (H.wide:Int),.int .i64 (H.deep:Int),vW,vS,.int .i64 (H.bx:Int),.int .i64 (H.bz:Int),vB,vK]
section
variable {no no':Nat→Prop} {h h':Heap} {n n':Nat} {H:HallR} {l:List KindR} {v vW vS vB vK:AV}
theorem KindsAt.move (r:KindsAt no h n l v) (hh:∀ b,b<n→no b→h'.get b=h.get b∧no' b) (hn:n≤n'):KindsAt no' h' n' l v:=by
 obtain ⟨ws,q1,q2,q3⟩:=r
 exact ⟨ws,q1,q2.move hh hn,fun i h1 h2=>(q3 i h1 h2).move hh hn⟩
theorem KindsAt.len (r:KindsAt no h n l v) (s:St):zq s v=.val (.int .i64 (l.length:Int)) s:=by
 obtain ⟨ws,q1,q2,q3⟩:=r
 have:=q2.len s
 rwa [vO q1] at this
theorem KindsAt.okA (r:KindsAt no h n l v) (t:St):Abs.okA (.val v t)=.val v t:=by obtain ⟨ws,q1,q2,q3⟩:=r;exact q2.okA t
theorem KindsAt.scal (r:KindsAt no h n l v):∀ m,scalars (v::m)=scalars m:=by obtain ⟨ws,q1,q2,q3⟩:=r;exact q2.scal.2.2
theorem KindsAt.get (r:KindsAt no h n l v) {i:Nat} (hi:i<l.length):∃ (w:AV) (b p:Nat) (c:List AV) (sz:Nat),(b<n∧no b)∧(∀ s,jX 6 s v (.int .i64 (i:Int))=.val (.ptr b p) s)∧h.get b=some (.cells c sz)∧cut p 6 c=some (l[i].row w)∧Sl no h n 1 (jA l[i].away) w:=by
 obtain ⟨ws,q1,q2,q3⟩:=r
 have hw:i<ws.length:=by omega
 obtain ⟨b,p,c,sz,z1,z0,z2,z3,z4⟩:=q2.get (i:=i) (by rw [vO q1];exact hi)
 have e:(yI l ws)[i]'(by rw [vO q1];exact hi)=l[i].row ws[i]:=by unfold yI;exact List.getElem_zipWith ..
 rw [e] at z4
 exact ⟨ws[i],b,p,c,sz,⟨z1,z0⟩,z2,z3,z4,q3 i hw hi⟩
theorem HallAt.move (r:HallAt no h n H vW vS vB vK) (hh:∀ b,b<n→no b→h'.get b=h.get b∧no' b) (hn:n≤n'):HallAt no' h' n' H vW vS vB vK :=
 ⟨r.w.move hh hn,r.s.move hh hn,r.b.move hh hn,r.k.move hh hn⟩
theorem HallAt.grow (r:HallAt no h n H vW vS vB vK) (hh:∀ b,b<n→h'.get b=h.get b) (hn:n≤n'):HallAt no h' n' H vW vS vB vK:=r.move (fun b h1 h2=>⟨hh b h1,h2⟩) hn
theorem HallAt.scal (r:HallAt no h n H vW vS vB vK):scalars (zP H vW vS vB vK)=true:=by
 show scalars (vW::vS::.int .i64 (H.bx:Int)::.int .i64 (H.bz:Int)::[vB,vK])=true
 rw [r.w.scal.2.2,r.s.scal.2.2]
 show scalars [vB,vK]=true
 rw [r.b.scal.2.2,r.k.scal]
 rfl
end
theorem Jb {h:Heap} {n:Nat} {l:List Int} {v:AV} (r:RowsAt h n 1 (jA l) v) {i:Nat} (hi:i<l.length):∃ b p c sz,b<n∧(∀ s,jX 1 s v (.int .i64 (i:Int))=.val (.ptr b p) s)∧h.get b=some (.cells c sz)∧nth c p=.int .i64 l[i]:=by
 obtain ⟨b,p,c,sz,h1,h2,h3,h4⟩:=ZWJ r hi
 refine ⟨b,p,c,sz,h1,h2,h3,?_⟩
 rw [h4]
 simp [List.getD,hi]
theorem wPA {h:Heap} {n:Nat} {l:List Int} {v:AV} (r:RowsAt h n 1 (jA l) v) (s:St):zq s v=.val (.int .i64 l.length) s:=by have:=r.len s;rwa [jc] at this
theorem Ja {no:Nat→Prop} {h:Heap} {n:Nat} {l:List (Int × Int)} {v:AV} (r:Sl no h n 2 (l.map jC) v) {i:Nat} (hi:i<l.length):∃ b p c sz,(b<n∧no b)∧(∀ s,jX 2 s v (.int .i64 (i:Int))=.val (.ptr b p) s)∧h.get b=some (.cells c sz)∧cut p 2 c=some (jC l[i]):=by
 obtain ⟨b,p,c,sz,z1,z0,z2,z3,z4⟩:=r.get (i:=i) (by rw [List.length_map];exact hi)
 rw [List.getElem_map] at z4
 exact ⟨b,p,c,sz,⟨z1,z0⟩,z2,z3,z4⟩
theorem YM {no:Nat→Prop} {h:Heap} {n:Nat} {l:List (Int × Int)} {v:AV} (r:Sl no h n 2 (l.map jC) v) (s:St):zq s v=.val (.int .i64 (l.length:Int)) s:=by have:=r.len s;rwa [List.length_map] at this
/-! ### Numbers and places -/
theorem YGJ (N:Nat) (hN:1≤N) (x hi:Int) (s:St) (hs:s.n≤far):call Try.prog X N (.fn 102) [.int .i64 x,.int .i64 hi] s=.val (.int .i64 (if 0≤x∧x<hi then 0 else 3)) s:=by
 obtain ⟨n,rfl⟩:∃ n,N=n+1:=⟨N - 1,by omega⟩
 refine gI (s':=⟨s.h,s.n,far⟩) Try.func102 ?_ rfl hs
 rw [YzJ]
 by_cases h0:x<0
 ·have e0:decide (x<0)=true:=decide_eq_true h0
  rw [if_neg (by omega)]
  simp only [yMJ,K102r0,K102r1s6,K102r1s5,K102r1s4,K102r1,K102r2,K102r3,K102,Abs.W,reduceIte,Nat.reduceEqDiff,Nat.reduceAdd,Nat.reduceSub,e0]
 ·have e0:decide (x<0)=false:=decide_eq_false h0
  by_cases h1:x<hi
  ·have e1:decide (hi≤x)=false:=decide_eq_false (by omega)
   rw [if_pos (by omega)]
   simp only [yMJ,K102r0,K102r1s6,K102r1s5,K102r1s4,K102r1,K102r2,K102r3,K102,Abs.W,reduceIte,Nat.reduceEqDiff,Nat.reduceAdd,Nat.reduceSub,e0,e1]
  ·have e1:decide (hi≤x)=true:=decide_eq_true (by omega)
   rw [if_neg (by omega)]
   simp only [yMJ,K102r0,K102r1s6,K102r1s5,K102r1s4,K102r1,K102r2,K102r3,K102,Abs.W,reduceIte,Nat.reduceEqDiff,Nat.reduceAdd,Nat.reduceSub,e0,e1]
theorem yYJ (cl:zR) (cx:Ctx) (k m b o cap:Nat) (x:Int) (e:Bool) (c:List AV) (sz:Nat) (s:St) {L:Env} {r:R} (hr:jK K51l0 rounds cl cx L [] s=r) (hb:s.h.get b=some (.cells c sz)) (hc:∀ j,j<m→nth c (o+j)=.int .i64 0) (hx:nth c (o+m)=.int .i64 x) (hx0:x≠0) (hmk:m<k) (hk:k≤1000)
  (q6:L.find 6=.slice b o k cap e) (q7:L.find 7=.int .i64 k) (q8:L.find 8=.int .i64 (0:Nat)) (q3:L.find 3=.int .i64 0) :
  ∃ L',r=.done .ret L' [] s∧L'.find 2=.int .i64 x:=by
 obtain ⟨e',L1,s1,rfl,rfl,rfl,h2⟩:=jO hr (fun i L' t=>t=s∧i≤m∧L'.find 6=.slice b o k cap e∧L'.find 7=.int .i64 k∧L'.find 8=.int .i64 (i:Int)∧L'.find 3=.int .i64 0)
  (fun e L' t=>e=.ret∧t=s∧L'.find 2=.int .i64 x) k (by unfold rounds;omega) ⟨rfl,Nat.zero_le _,q6,q7,q8,q3⟩
  (fun i L' t hi ⟨ht,him,p6,p7,p8,p3⟩=>by
   subst ht
   have hlt:i<k:=by omega
   have e0:decide ((i:Int)<(k:Int))=true:=decide_eq_true (by omega)
   by_cases him':i=m
   ·subst him'
    have e2:decide (x=0)=false:=decide_eq_false hx0
    refine .inr ⟨.ret,_,t,by simp,by
     simp only [wQA,K51r0,K51r1,K51r2,K51r3,K51r4,K51r5,K51r6,K51r7,K51l0,K51r8,K51,Abs.W,reduceIte,Nat.reduceEqDiff,Nat.reduceAdd,Nat.reduceSub,p6,p7,p8,p3,e0,jq _ _ _ _ _ _ _ _ hlt,Nat.mul_one,hb,hx,e2]
     rfl,rfl,rfl,?_⟩
    simp only [efs,reduceIte,Nat.reduceEqDiff]
   ·have e1:=hc i (by omega)
    have e2:decide ((0:Int)=0)=true:=rfl
    refine .inl ⟨hlt,_,t,by
     simp only [wQA,K51r0,K51r1,K51r2,K51r3,K51r4,K51r5,K51r6,K51r7,K51l0,K51r8,K51,Abs.W,reduceIte,Nat.reduceEqDiff,Nat.reduceAdd,Nat.reduceSub,p6,p7,p8,p3,e0,jq _ _ _ _ _ _ _ _ hlt,Nat.mul_one,hb,e1,e2,za _ (i:Int) 1 (by omega)]
     rfl,rfl,by omega,?_,?_,?_,?_⟩
    ·simp only [efs,p6,reduceIte,Nat.reduceEqDiff]
    ·simp only [efs,p7,reduceIte,Nat.reduceEqDiff]
    ·simp only [efs,reduceIte,Nat.reduceEqDiff];rfl
    ·simp only [efs,p3,reduceIte,Nat.reduceEqDiff])
 exact ⟨L1,rfl,h2⟩
theorem zEJ (N:Nat) (hN:1≤N) (k m b o cap:Nat) (x:Int) (e:Bool) (c:List AV) (sz:Nat) (s:St) (hb:s.h.get b=some (.cells c sz)) (hc:∀ j,j<m→nth c (o+j)=.int .i64 0) (hx:nth c (o+m)=.int .i64 x) (hx0:x≠0) (hmk:m<k) (hk:k≤1000) (hs:s.n≤far) :
  call Try.prog X N (.fn 51) [.slice b o k cap e] s=.val (.int .i64 x) s:=by
 obtain ⟨n,rfl⟩:∃ n,N=n+1:=⟨N - 1,by omega⟩
 refine zj Try.func51 (fun u uh un um=>?_) rfl
 rw [← uh] at hb
 rw [wYJ]
 simp only [wQA,K51r0,K51r1,K51r2,K51r3,K51r4,K51r5,K51r6,K51r7,K51r8,K51,Abs.W,reduceIte,Nat.reduceEqDiff,Nat.reduceAdd,Nat.reduceSub]
 generalize hl1:jK _ rounds _ _ _ _ _=q1
 obtain ⟨L1,rfl,h2⟩:=yYJ _ _ k m b o cap x e c sz u hl1 hb hc hx hx0 hmk hk (by simp only [zK,efs,reduceIte,Nat.reduceEqDiff]) (by simp only [zK,efs,reduceIte,Nat.reduceEqDiff]) (by simp only [zK,efs,reduceIte,Nat.reduceEqDiff];rfl) (by simp only [zK,efs,reduceIte,Nat.reduceEqDiff])
 simp only [wQA,K51r0,K51r1,K51r2,K51r3,K51r4,K51r5,K51r6,K51r7,K51r8,K51,Abs.W,reduceIte,Nat.reduceEqDiff,Nat.reduceAdd,Nat.reduceSub,h2]
 exact ⟨_,rfl,by rw [um,un];exact hs⟩
theorem vLQ (N:Nat) (hN:1≤N) (t:St) (x y:Int) (ht:t.n+1≤far):call Try.prog X N (.fn 51) [.slice t.n 0 2 2 false] (t.new (.cells [.int .i64 x,.int .i64 y] 0))=.val (.int .i64 (if x=0 then y else x)) (t.new (.cells [.int .i64 x,.int .i64 y] 0)):=by
 have hf:=hfar
 by_cases hx:x=0
 ·subst hx
  rw [if_pos rfl]
  by_cases hy:y=0
  ·subst hy
   exact veA N hN t ht
  ·exact zEJ N hN 2 1 t.n 0 2 y false _ 0 _ (zM _ _ _ rfl (by omega)) (fun j hj=>by have:j=0:=(by omega);subst this;rfl) rfl hy (by omega) (by omega) (by rw [zW];omega)
 ·rw [if_neg hx]
  exact zEJ N hN 2 0 t.n 0 2 x false _ 0 _ (zM _ _ _ rfl (by omega)) (fun j hj=>absurd hj (Nat.not_lt_zero _)) rfl hx (by omega) (by omega) (by rw [zW];omega)
theorem WyA (N:Nat) (hN:2≤N) (H:HallR) (vW vS vB vK:AV) (c:Int × Int) (s:St) (hs:s.n+10≤far) :
  call Try.prog X N (.fn 92) [.agg (zP H vW vS vB vK),.agg (jC c)] s=.val (.int .i64 (if H.In c then 0 else 3)) s:=by
 obtain ⟨n,rfl⟩:∃ n,N=n+1:=⟨N - 1,by omega⟩
 refine zj Try.func92 (fun u uh un um=>?_) rfl
 have hf:=hfar
 have e:(if (if 0≤c.1∧c.1<(H.wide:Int) then (0:Int) else 3)=0 then (if 0≤c.2∧c.2<(H.deep:Int) then (0:Int) else 3) else (if 0≤c.1∧c.1<(H.wide:Int) then (0:Int) else 3))=if H.In c then 0 else 3:=by
  unfold HallR.In
  by_cases h1:0≤c.1∧c.1<(H.wide:Int)<;>by_cases h2:0≤c.2∧c.2<(H.deep:Int)<;>simp [h1,h2]
 rw [zPQ]
 simp (disch:=first|omega|(with_unfolding_all exact rfl)|(simp only[zW,jB,jF];omega)|(refine jU ?_;simp only[jF];omega)) only [res92,K92r0,K92r1,K92,Abs.W,reduceIte,Nat.reduceEqDiff,Nat.reduceAdd,Nat.reduceSub,YGJ,vLQ,um]
 rw [e]
 exact ⟨_,rfl,by simp only [zW,jF];omega⟩
theorem weA {α:Type} {l:List α} (h:l.Nodup) {i:Nat} (hi:i<l.length):l[i] ∉ l.take i:=by
 intro hm
 obtain ⟨j,hj,e⟩:=List.mem_take_iff_getElem.mp hm
 have:=List.pairwise_iff_getElem.mp h j i (by omega) hi (by omega)
 exact this e
theorem jMJ (N:Nat) (hN:4≤N) {no:Nat→Prop} (H:HallR) (vW vS vB vK:AV) (l:List (Int × Int)) (v:AV) (s:St) (hR:Sl no s.h s.n 2 (l.map jC) v) (hl:l.length≤24) (hin:∀ c ∈ l,H.In c) (hnd:l.Nodup) (hs:s.n+100≤far) :
  call Try.prog X N (.fn 78) [.agg (zP H vW vS vB vK),v] s=.val (.int .i64 0) s:=by
 obtain ⟨n,rfl⟩:∃ n,N=n+1:=⟨N - 1,by omega⟩
 refine zj Try.func78 (fun u uh un um=>?_) rfl
 rw [← uh,← un] at hR
 have kv:=hR.okA
 have lv:=YM hR
 have hf:=hfar
 have z0:decide ((0:Int)=0)=true:=rfl
 obtain ⟨w,hw⟩:∃ w:St,w=(u.new (.cells (zP H vW vS vB vK) (tag 30))).new (.map []):=⟨_,rfl⟩
 have wn:w.n=u.n+2:=by rw [hw];rfl
 have wm:w.m=far:=by rw [hw];exact um
 have wg:∀ c,c<u.n→w.h.get c=u.h.get c:=fun c hc=>by rw [hw,zH _ _ _ (by rw [zW];omega),zH _ _ _ (by omega)]
 have w0:w.h.get u.n=some (.cells (zP H vW vS vB vK) (tag 30)):=by rw [hw,zH _ _ _ (by rw [zW];omega)];exact zM _ _ _ rfl (by omega)
 have w1:w.h.get (u.n+1)=some (.map (JU [])):=by rw [hw];exact zM _ _ _ rfl (by rw [zW];omega)
 have e1:∀ s:St,s.n≤far→call Try.prog X n (.fn 62) [.int .i64 (l.length:Int),.int .i64 0,.int .i64 24] s=.val (.int .i64 0) s:=fun s hs=>zPA n (by omega) _ _ _ s (by omega) (by omega) hs
 rw [zbQ]
 simp (disch:=first|omega|(with_unfolding_all exact rfl)|(simp only[zW,jB,jF];omega)|(refine jU ?_;simp only[jF];omega)) only [wBJ,K78r0,K78r1,K78r2,K78r3,K78r4,K78r5,K78r6,K78r7,K78r8,K78r9,K78r10,K78r11,K78r12,K78r13,K78r14,K78r15,K78,Abs.W,reduceIte,Nat.reduceEqDiff,Nat.reduceAdd,Nat.reduceSub,kv,lv,e1,z0,kMapE]
 show ∃ s',jr _ _ (JKA (VWJ 0 (jK _ rounds _ _ _ _ ((u.new (.cells (zP H vW vS vB vK) (tag 30))).new (.map [])))) _)=_∧_
 rw [← hw]
 generalize hlp:jK _ rounds _ _ _ _ _=q1
 obtain ⟨e,L1,s1,rfl,rfl,hm⟩:=jO hlp (fun i L t=>L.find 2=.ptr u.n 0∧L.find 6=.map (u.n+1)∧L.find 17=v∧L.find 18=.int .i64 (l.length:Int)∧L.find 19=.int .i64 (i:Int)∧(∀ c,c<u.n+1→t.h.get c=w.h.get c)∧t.h.get (u.n+1)=some (.map (JU (l.take i)))∧t.n=u.n+2+i∧u.n≤t.m)
  (fun e L t=>e=.exit 0∧u.n≤t.m) l.length (by unfold rounds;omega)
  ⟨(by simp only [zK,efs,reduceIte,Nat.reduceEqDiff]),(by simp only [zK,efs,reduceIte,Nat.reduceEqDiff];rfl),(by simp only [zK,efs,reduceIte,Nat.reduceEqDiff]),(by simp only [zK,efs,reduceIte,Nat.reduceEqDiff]),(by simp only [zK,efs,reduceIte,Nat.reduceEqDiff];rfl),fun _ _=>rfl,w1,by omega,by omega⟩
  (fun i L t hi ⟨q2,q6,q17,q18,q19,tg,tmap,tn,tm⟩=>by
   by_cases hlt:i<l.length
   ·have e0:decide ((i:Int)<(l.length:Int))=true:=decide_eq_true (by omega)
    have hRt:=hR.grow (h':=t.h) (n':=t.n) (fun c hc=>(tg c (by omega)).trans (wg c hc)) (by omega)
    obtain ⟨b,p,c,sz,⟨r1,_⟩,r2,r3,r4⟩:=Ja hRt hlt
    have g0:=(tg u.n (by omega)).trans w0
    have hn:=weA hnd hlt
    have hi2:=hin _ (List.getElem_mem hlt)
    have ad:∀ s,jI s .i64 (i:Int) 1=.val (.int .i64 ((i:Int)+1)) s:=fun s=>za s _ _ (by omega)
    obtain ⟨y,hy⟩:∃ y:St,y=(t.new (.cells [.int .i64 0,.int .i64 0] (tag 27))).put t.n (.cells (jC l[i]) (tag 27)):=⟨_,rfl⟩
    have yn:y.n=t.n+1:=by rw [hy];rfl
    have ym:y.m=min t.m t.n:=by rw [hy];simp only [St.put,jF,zQ]
    have yg:∀ c,c<t.n→y.h.get c=t.h.get c:=fun c hc=>by rw [hy,zL _ _ _ _ (by omega),zH _ _ _ (by omega)]
    have y0:y.h.get t.n=some (.cells (jC l[i]) (tag 27)):=by rw [hy];exact zN _ _ _ _ rfl (by omega)
    have g0y:=(yg u.n (by omega)).trans g0
    have gmy:=(yg (u.n+1) (by omega)).trans tmap
    have ep:call Try.prog X n (.fn 92) [.agg (zP H vW vS vB vK),.agg (jC l[i])] y=.val (.int .i64 0) y:=by
     have:=WyA n (by omega) H vW vS vB vK l[i] y (by omega)
     rwa [if_pos hi2] at this
    have hlk:=WnJ hn (u.n+1) y gmy
    have hup:=yxQ hn (u.n+1) y gmy
    refine .inl ⟨hlt,?_⟩
    simp (disch:=first|omega|with_unfolding_all rfl) only [K78l0,K78r6,K78r7,Abs.W,reduceIte,Nat.reduceEqDiff,Nat.reduceAdd,Nat.reduceSub,Nat.zero_add,q2,q6,q17,q18,q19,e0,kv,r2,r3,r4]
    rw [← hy]
    simp (disch:=first|omega|with_unfolding_all rfl) only [wBJ,K78r0,K78r1,K78r2,K78r3,K78r4,K78r5,K78r6,K78r7,K78r8,K78r9,K78r10,K78r11,K78r12,K78r13,K78r14,K78r15,K78,Abs.W,reduceIte,Nat.reduceEqDiff,Nat.reduceAdd,Nat.reduceSub,Nat.zero_add,q2,q6,q17,q18,q19,kv,g0y,y0,ep,z0,vQQ,kUpdE,gFJ,hlk,hup,ad]
    refine ⟨_,_,rfl,?_,?_,?_,?_,?_,fun c hc=>?_,?_,?_,?_⟩
    ·simp only [efs,q2,reduceIte,Nat.reduceEqDiff]
    ·simp only [efs,q6,reduceIte,Nat.reduceEqDiff]
    ·simp only [efs,q17,reduceIte,Nat.reduceEqDiff]
    ·simp only [efs,q18,reduceIte,Nat.reduceEqDiff]
    ·simp only [efs,reduceIte,Nat.reduceEqDiff];rfl
    ·rw [zL _ _ _ _ (by omega),yg c (by omega)];exact tg c hc
    ·rw [yE hlt];exact zN _ _ _ _ (by omega) (by omega)
    ·rw [jB];omega
    ·simp only [St.put,zQ];omega
   ·obtain rfl:i=l.length:=by omega
    have e0:decide ((l.length:Int)<(l.length:Int))=false:=by simp
    refine .inr ⟨.exit 0,L.set 20 (.bool false),t,by simp,?_,rfl,tm⟩
    simp (disch:=first|omega|with_unfolding_all rfl) only [wBJ,K78r0,K78r1,K78r2,K78r3,K78r4,K78r5,K78r6,K78r7,K78r8,K78r9,K78r10,K78r11,K78r12,K78r13,K78r14,K78r15,K78,K78l0,Abs.W,reduceIte,Nat.reduceEqDiff,Nat.reduceAdd,Nat.reduceSub,q18,q19,e0])
 simp (disch:=first|omega|with_unfolding_all rfl) only [wBJ,K78r0,K78r1,K78r2,K78r3,K78r4,K78r5,K78r6,K78r7,K78r8,K78r9,K78r10,K78r11,K78r12,K78r13,K78r14,K78r15,K78,Abs.W,reduceIte,Nat.reduceEqDiff,Nat.reduceAdd,Nat.reduceSub]
 exact ⟨_,rfl,by omega⟩
theorem jfQ (N:Nat) (hN:3≤N) {no:Nat→Prop} (l:List Int) (m:Nat) (v:AV) (s:St) (hR:Sl no s.h s.n 1 (jA l) v) (hm:l.length=m) (hm6:m≤6) (hw:∀ x ∈ l,0≤x∧x≤9) (hs:s.n+30≤far) :
  call Try.prog X N (.fn 96) [v,.int .i64 (m:Int)] s=.val (.int .i64 0) s:=by
 obtain ⟨n,rfl⟩:∃ n,N=n+1:=⟨N - 1,by omega⟩
 refine zj Try.func96 (fun u uh un um=>?_) rfl
 rw [← uh,← un] at hR
 have kv:=hR.okA
 have lv:=wPA hR.at_
 have hf:=hfar
 have z0:decide ((0:Int)=0)=true:=rfl
 have el:decide ((l.length:Int)=(m:Int))=true:=decide_eq_true (by omega)
 rw [zLQ]
 simp (disch:=first|omega|with_unfolding_all rfl) only [vxJ,K96r0,K96r1,K96r2,K96r3,K96r4,K96r5,K96r6,K96r7,K96r8,K96r9,K96r10,K96,Abs.W,reduceIte,Nat.reduceEqDiff,Nat.reduceAdd,Nat.reduceSub,kv,lv,el]
 generalize hlp:jK _ rounds _ _ _ _ _=q1
 obtain ⟨e,L1,s1,rfl,rfl,rfl⟩:=jO hlp (fun i L t=>t=u∧L.find 12=v∧L.find 13=.int .i64 (l.length:Int)∧L.find 14=.int .i64 (i:Int))
  (fun e L t=>e=.exit 0∧t=u) l.length (by unfold rounds;omega)
  ⟨rfl,(by simp only [zK,efs,reduceIte,Nat.reduceEqDiff]),(by simp only [zK,efs,reduceIte,Nat.reduceEqDiff]),(by simp only [zK,efs,reduceIte,Nat.reduceEqDiff];rfl)⟩
  (fun i L t hi ⟨ht,q12,q13,q14⟩=>by
   subst ht
   by_cases hlt:i<l.length
   ·have e0:decide ((i:Int)<(l.length:Int))=true:=decide_eq_true (by omega)
    obtain ⟨b,p,c,sz,r1,r2,r3,r4⟩:=Jb hR.at_ hlt
    obtain ⟨x0,x1⟩:=hw _ (List.getElem_mem hlt)
    have ad:∀ s,jI s .i64 (i:Int) 1=.val (.int .i64 ((i:Int)+1)) s:=fun s=>za s _ _ (by omega)
    refine .inl ⟨hlt,_,t,by
     simp (disch:=first|omega|with_unfolding_all rfl) only [vxJ,K96r0,K96r1,K96r2,K96r3,K96r4,K96r5,K96r6,K96r7,K96r8,K96r9,K96r10,K96,K96l0,Abs.W,reduceIte,Nat.reduceEqDiff,Nat.reduceAdd,Nat.reduceSub,q12,q13,q14,e0,kv,r2,r3,r4,ZO,z0,ad]
     rfl,rfl,?_,?_,?_⟩
    ·simp only [efs,q12,reduceIte,Nat.reduceEqDiff]
    ·simp only [efs,q13,reduceIte,Nat.reduceEqDiff]
    ·simp only [efs,reduceIte,Nat.reduceEqDiff];rfl
   ·obtain rfl:i=l.length:=by omega
    have e0:decide ((l.length:Int)<(l.length:Int))=false:=by simp
    refine .inr ⟨.exit 0,L.set 15 (.bool false),t,by simp,?_,rfl,rfl⟩
    simp (disch:=first|omega|with_unfolding_all rfl) only [vxJ,K96r0,K96r1,K96r2,K96r3,K96r4,K96r5,K96r6,K96r7,K96r8,K96r9,K96r10,K96,K96l0,Abs.W,reduceIte,Nat.reduceEqDiff,Nat.reduceAdd,Nat.reduceSub,q13,q14,e0])
 simp (disch:=first|omega|with_unfolding_all rfl) only [vxJ,K96r0,K96r1,K96r2,K96r3,K96r4,K96r5,K96r6,K96r7,K96r8,K96r9,K96r10,K96,Abs.W,reduceIte,Nat.reduceEqDiff,Nat.reduceAdd,Nat.reduceSub]
 exact ⟨_,rfl,by omega⟩
theorem YRJ (N:Nat) (hN:5≤N) {no:Nat→Prop} (l:List KindR) (v:AV) (s:St) (hR:KindsAt no s.h s.n l v) (h0:1≤l.length) (h6:l.length≤6) (ok:∀ k ∈ l,k.Ok l.length) (hs:s.n+300≤far) :
  call Try.prog X N (.fn 80) [v] s=.val (.int .i64 0) s:=by
 obtain ⟨n,rfl⟩:∃ n,N=n+1:=⟨N - 1,by omega⟩
 refine zj Try.func80 (fun u uh un um=>?_) rfl
 rw [← uh,← un] at hR
 have kv:=hR.okA
 have lv:=hR.len
 have hf:=hfar
 have z0:decide ((0:Int)=0)=true:=rfl
 have e1:∀ s:St,s.n≤far→call Try.prog X n (.fn 62) [.int .i64 (l.length:Int),.int .i64 1,.int .i64 6] s=.val (.int .i64 0) s:=fun s hs=>zPA n (by omega) _ _ _ s (by omega) (by omega) hs
 rw [zZQ]
 simp (disch:=first|omega|with_unfolding_all rfl) only [wAJ,K80r0,K80r1,K80r2,K80r3,K80r4,K80r5,K80r6,K80r7,K80r8,K80r9,K80r10,K80r11,K80,Abs.W,reduceIte,Nat.reduceEqDiff,Nat.reduceAdd,Nat.reduceSub,kv,lv,e1,z0]
 generalize hlp:jK _ rounds _ _ _ _ _=q1
 obtain ⟨e,L1,s1,rfl,rfl,hE⟩:=jO hlp (fun i L t=>L.find 0=v∧L.find 13=v∧L.find 14=.int .i64 (l.length:Int)∧L.find 15=.int .i64 (i:Int)∧Beside u t (10 * i))
  (fun e L t=>e=.exit 0∧Beside u t 100) l.length (by unfold rounds;omega)
  ⟨(by simp only [zK,efs,reduceIte,Nat.reduceEqDiff]),(by simp only [zK,efs,reduceIte,Nat.reduceEqDiff]),(by simp only [zK,efs,reduceIte,Nat.reduceEqDiff]),(by simp only [zK,efs,reduceIte,Nat.reduceEqDiff];rfl),Beside.refl u (by omega) um⟩
  (fun i L t hi ⟨q0,q13,q14,q15,hE⟩=>by
   have tn:=hE.n
   have tl:=hE.le
   have tm:=hE.m
   have tf:=hE.far
   by_cases hlt:i<l.length
   ·have e0:decide ((i:Int)<(l.length:Int))=true:=decide_eq_true (by omega)
    have hRt:KindsAt no t.h t.n l v:=hR.move (fun b h1 h2=>⟨hE.same b h1,h2⟩) tn
    obtain ⟨w,b,p,c,sz,⟨r1,_⟩,r2,r3,r4,r5⟩:=hRt.get hlt
    have okI:=ok _ (List.getElem_mem hlt)
    unfold KindR.row at r4
    generalize l[i]=K at *
    obtain ⟨l0,l1,l2,al,a,k0,k1,m0,m1⟩:=okI
    have ad:∀ s,jI s .i64 (i:Int) 1=.val (.int .i64 ((i:Int)+1)) s:=fun s=>za s _ _ (by omega)
    have ksc:=r5.scal.1
    have ksc2:=r5.scal.2.2
    have kcw:=r5.scal.2.1
    have kw:=r5.okA
    have hsc:scalars [.int .i64 K.lo,.int .i64 K.hi,.bool K.water,w,.int .i64 K.rent,.int .i64 K.most]=true:=by
     show scalars [w,.int .i64 K.rent,.int .i64 K.most]=true
     rw [ksc2];rfl
    obtain ⟨y,hy⟩:∃ y:St,y=(t.new (.cells [.int .i64 0,.int .i64 0,.bool false,.nilslice,.int .i64 0,.int .i64 0] (tag 49))).put t.n (.cells [.int .i64 K.lo,.int .i64 K.hi,.bool K.water,w,.int .i64 K.rent,.int .i64 K.most] (tag 49)):=⟨_,rfl⟩
    have Ey:Beside u y (10 * i+1):=by rw [hy];exact (hE.new _).put _ (by omega)
    have yn:y.n=t.n+1:=by rw [hy];rfl
    have yg:∀ c,c<t.n→y.h.get c=t.h.get c:=fun c hc=>by rw [hy,zL _ _ _ _ (by omega),zH _ _ _ (by omega)]
    have y0:y.h.get t.n=some (.cells [.int .i64 K.lo,.int .i64 K.hi,.bool K.water,w,.int .i64 K.rent,.int .i64 K.most] (tag 49)):=by rw [hy];exact zN _ _ _ _ rfl (by omega)
    have st:jM 6 (t.new (.cells [.int .i64 0,.int .i64 0,.bool false,.nilslice,.int .i64 0,.int .i64 0] (tag 49))) (.agg [.int .i64 K.lo,.int .i64 K.hi,.bool K.water,w,.int .i64 K.rent,.int .i64 K.most]) (.ptr t.n 0)=.val .undef y:=by
     rw [hy];exact jk _ 6 _ _ _ _ (zM _ _ _ rfl (by omega)) rfl rfl hsc
    have hyn:y.n≤far:=by omega
    have hym:y.m≤far:=Ey.far
    have r5y:∀ m,Sl no (⟨y.h,y.n,m⟩:St).h (⟨y.h,y.n,m⟩:St).n 1 (jA K.away) w:=fun m=>r5.grow yg (by show t.n≤y.n;omega)
    have ea:∀ m,call Try.prog X n (.fn 96) [w,.int .i64 (l.length:Int)] ⟨y.h,y.n,m⟩=.val (.int .i64 0) ⟨y.h,y.n,m⟩:=fun m=>jfQ n (by omega) _ _ _ _ (r5y m) al (by omega) a (by show y.n+30≤far;omega)
    refine .inl ⟨hlt,?_⟩
    simp (disch:=first|omega|with_unfolding_all rfl) only [K80l0,K80r5,K80r6,Abs.W,reduceIte,Nat.reduceEqDiff,Nat.reduceAdd,Nat.reduceSub,Nat.zero_add,q0,q13,q14,q15,e0,kv,r2,r3,r4,st]
    simp (disch:=first|omega|(with_unfolding_all exact rfl)|(simp only[zW,jB,jF];omega)|(refine jU ?_;simp only[jF];omega)) only [wAJ,K80r0,K80r1,K80r2,K80r3,K80r4,K80r5,K80r6,K80r7,K80r8,K80r9,K80r10,K80r11,K80,Abs.W,reduceIte,Nat.reduceEqDiff,Nat.reduceAdd,Nat.reduceSub,Nat.zero_add,q0,q13,q14,q15,kv,lv,kw,y0,ea,yG _ _ _ _ _ _ _ hyn hym,ZO,WVJ,WfJ,z0,ad]
    refine ⟨_,_,rfl,?_,?_,?_,?_,?_⟩
    ·simp only [efs,q0,reduceIte,Nat.reduceEqDiff]
    ·simp only [efs,q13,reduceIte,Nat.reduceEqDiff]
    ·simp only [efs,q14,reduceIte,Nat.reduceEqDiff]
    ·simp only [efs,reduceIte,Nat.reduceEqDiff];rfl
    ·exact (Ey.new _).mono (by omega)
   ·obtain rfl:i=l.length:=by omega
    have e0:decide ((l.length:Int)<(l.length:Int))=false:=by simp
    refine .inr ⟨.exit 0,L.set 16 (.bool false),t,by simp,?_,rfl,hE.mono (by omega)⟩
    simp (disch:=first|omega|with_unfolding_all rfl) only [wAJ,K80r0,K80r1,K80r2,K80r3,K80r4,K80r5,K80r6,K80r7,K80r8,K80r9,K80r10,K80r11,K80,K80l0,Abs.W,reduceIte,Nat.reduceEqDiff,Nat.reduceAdd,Nat.reduceSub,q14,q15,e0])
 have:=hE.m
 have:=hE.n
 simp (disch:=first|omega|with_unfolding_all rfl) only [wAJ,K80r0,K80r1,K80r2,K80r3,K80r4,K80r5,K80r6,K80r7,K80r8,K80r9,K80r10,K80r11,K80,Abs.W,reduceIte,Nat.reduceEqDiff,Nat.reduceAdd,Nat.reduceSub]
 exact ⟨_,rfl,by omega⟩
theorem wfJ (N:Nat) (hN:1≤N) (H:HallR) (sz:H.Size) (vW vS vB vK:AV) (s:St) (hs:s.n+10≤far) :
  call Try.prog X N (.fn 91) [.agg (zP H vW vS vB vK)] s=.val (.int .i64 (H.cols:Int)) s:=by
 obtain ⟨n,rfl⟩:∃ n,N=n+1:=⟨N - 1,by omega⟩
 refine zj Try.func91 (fun u uh un um=>?_) rfl
 have hf:=hfar
 obtain ⟨w0,w1,d0,d1,x0,x1,z0,z1⟩:=sz
 have a1:∀ s,jI s .i64 (H.wide:Int) (H.bx:Int)=.val (.int .i64 ((H.wide:Int)+H.bx)) s:=fun s=>za s _ _ (by omega)
 have a2:∀ s,yK s .i64 ((H.wide:Int)+H.bx) 1=.val (.int .i64 ((H.wide+H.bx - 1:Nat):Int)) s:=fun s=>by rw [je s _ _ (by omega),show (H.wide:Int)+H.bx - 1=((H.wide+H.bx - 1:Nat):Int) by omega]
 have a3:∀ s,JI s .i64 ((H.wide+H.bx - 1:Nat):Int) (H.bx:Int)=.val (.int .i64 (H.cols:Int)) s:=fun s=>wi s _ _ (by omega) (by omega)
 rw [zQQ]
 simp (disch:=first|omega|with_unfolding_all rfl) only [res91,K91r0,K91r1,K91,Abs.W,reduceIte,Nat.reduceEqDiff,Nat.reduceAdd,Nat.reduceSub,a1,a2,a3]
 exact ⟨_,rfl,by simp only [zW,jF];omega⟩
theorem jeQ (N:Nat) (hN:2≤N) (H:HallR) (sz:H.Size) (vW vS vB vK:AV) (s:St) (hs:s.n+20≤far) (hW:∀ t,okA (.val vW t)=.val vW t) :
  call Try.prog X N (.fn 94) [.agg (zP H vW vS vB vK)] s=.val (.int .i64 (H.bays:Int)) s:=by
 obtain ⟨n,rfl⟩:∃ n,N=n+1:=⟨N - 1,by omega⟩
 refine zj Try.func94 (fun u uh un um=>?_) rfl
 have hf:=hfar
 have hle:=vY sz
 have ec:=fun s hs=>wfJ n (by omega) H sz vW vS vB vK s hs
 obtain ⟨w0,w1,d0,d1,x0,x1,z0,z1⟩:=sz
 have a1:∀ s,jI s .i64 (H.deep:Int) (H.bz:Int)=.val (.int .i64 ((H.deep:Int)+H.bz)) s:=fun s=>za s _ _ (by omega)
 have a2:∀ s,yK s .i64 ((H.deep:Int)+H.bz) 1=.val (.int .i64 ((H.deep+H.bz - 1:Nat):Int)) s:=fun s=>by rw [je s _ _ (by omega),show (H.deep:Int)+H.bz - 1=((H.deep+H.bz - 1:Nat):Int) by omega]
 have a3:∀ s,JI s .i64 ((H.deep+H.bz - 1:Nat):Int) (H.bz:Int)=.val (.int .i64 (((H.deep+H.bz - 1) / H.bz:Nat):Int)) s:=fun s=>wi s _ _ (by omega) (by omega)
 have a4:∀ s,yOA s .i64 (H.cols:Int) (((H.deep+H.bz - 1) / H.bz:Nat):Int)=.val (.int .i64 (H.bays:Int)) s:=fun s=>jWA s _ _ (by unfold HallR.bays at hle;omega)
 rw [zNQ]
 simp (disch:=first|omega|(with_unfolding_all exact rfl)|(simp only[zW,jB,jF];omega)|(refine jU ?_;simp only[jF];omega)) only [res94,K94r0,K94r1,K94,Abs.W,reduceIte,Nat.reduceEqDiff,Nat.reduceAdd,Nat.reduceSub,ec,a1,a2,a3,a4,um]
 exact ⟨_,rfl,by simp only [zW,jF];omega⟩
theorem VhA (N:Nat) (hN:4≤N) {no:Nat→Prop} (H:HallR) (ok:H.Ok) (vW vS vB vK:AV) (s:St) (hH:HallAt no s.h s.n H vW vS vB vK) (hs:s.n+200≤far) :
  call Try.prog X N (.fn 79) [.agg (zP H vW vS vB vK)] s=.val (.int .i64 0) s:=by
 obtain ⟨n,rfl⟩:∃ n,N=n+1:=⟨N - 1,by omega⟩
 refine zj Try.func79 (fun u uh un um=>?_) rfl
 rw [← uh,← un] at hH
 have kB:=hH.b.okA
 have lB:=wPA hH.b.at_
 have kW:=hH.w.okA
 have kS:=hH.s.okA
 have kK:=hH.k.okA
 have hf:=hfar
 have z0:decide ((0:Int)=0)=true:=rfl
 have hle:=vY ok.toSize
 have hbl:=ok.bl
 have el:decide ((H.bears.length:Int)=(H.bays:Int))=true:=decide_eq_true (by omega)
 have eb:=fun s hs=>jeQ n (by omega) H ok.toSize vW vS vB vK s hs kW
 obtain ⟨y0,y1,y2,y3,x0,x1,x2,x3⟩:=ok.toSize
 obtain ⟨w,hw⟩:∃ w:St,w=u.new (.cells (zP H vW vS vB vK) (tag 30)):=⟨_,rfl⟩
 have wn:w.n=u.n+1:=by rw [hw];rfl
 have wm:w.m=far:=by rw [hw];exact um
 have wg:∀ c,c<u.n→w.h.get c=u.h.get c:=fun c hc=>by rw [hw,zH _ _ _ (by omega)]
 have w0:w.h.get u.n=some (.cells (zP H vW vS vB vK) (tag 30)):=by rw [hw];exact zM _ _ _ rfl (by omega)
 have hwn:w.n≤far:=by omega
 have hwm:w.m≤far:=by omega
 rw [zaQ]
 simp (disch:=first|omega|with_unfolding_all rfl) only [WpA,K79,K79r0,Abs.W,reduceIte,Nat.reduceEqDiff,Nat.reduceAdd,Nat.reduceSub]
 rw [← hw]
 simp (disch:=first|omega|with_unfolding_all rfl) only [K79r1,Abs.W,reduceIte,Nat.reduceEqDiff,Nat.reduceAdd,Nat.reduceSub,w0,yG _ _ _ _ _ _ _ hwn hwm,ZO,veA,Nat.zero_add]
 obtain ⟨y,hy⟩:∃ y:St,y=w.new (.cells [.int .i64 0,.int .i64 0] 0):=⟨_,rfl⟩
 rw [← hy]
 have yn:y.n=w.n+1:=by rw [hy];rfl
 have ym:y.m=far:=by rw [hy];exact wm
 have yg:∀ c,c<w.n→y.h.get c=w.h.get c:=fun c hc=>by rw [hy,zH _ _ _ (by omega)]
 have g0:=(yg u.n (by omega)).trans w0
 have hyn:y.n≤far:=by omega
 have hym:y.m≤far:=by omega
 have hBy:=hH.b.grow (h':=y.h) (n':=y.n) (fun c hc=>(yg c (by omega)).trans (wg c hc)) (by omega)
 simp (disch:=first|omega|(with_unfolding_all exact rfl)|(simp only[zW,jB,jF];omega)|(refine jU ?_;simp only[jF];omega)) only [WpA,K79r0,K79r1,K79r2,K79r3,K79r4,K79r5,K79r6,K79r7,K79r8,K79r9,K79r10,K79r11,K79r12,K79r13,K79,Abs.W,reduceIte,Nat.reduceEqDiff,Nat.reduceAdd,Nat.reduceSub,g0,z0,kB,lB,kW,kS,kK,eb,el,yG _ _ _ _ _ _ _ hyn hym,Nat.zero_add]
 generalize hlp:jK _ rounds _ _ _ _ _=q1
 obtain ⟨e,L1,s1,rfl,rfl,rfl⟩:=jO hlp (fun i L t=>t=y∧L.find 31=vB∧L.find 32=.int .i64 (H.bears.length:Int)∧L.find 33=.int .i64 (i:Int))
  (fun e L t=>e=.exit 0∧t=y) H.bears.length (by unfold rounds;omega)
  ⟨rfl,(by simp only [zK,efs,reduceIte,Nat.reduceEqDiff]),(by simp only [zK,efs,reduceIte,Nat.reduceEqDiff]),(by simp only [zK,efs,reduceIte,Nat.reduceEqDiff];rfl)⟩
  (fun i L t hi ⟨ht,q12,q13,q14⟩=>by
   subst ht
   by_cases hlt:i<H.bears.length
   ·have e0:decide ((i:Int)<(H.bears.length:Int))=true:=decide_eq_true (by omega)
    obtain ⟨b,p,c,sz,r1,r2,r3,r4⟩:=Jb hBy.at_ hlt
    obtain ⟨x0,x1⟩:=ok.b _ (List.getElem_mem hlt)
    have ad:∀ s,jI s .i64 (i:Int) 1=.val (.int .i64 ((i:Int)+1)) s:=fun s=>za s _ _ (by omega)
    refine .inl ⟨hlt,_,t,by
     simp (disch:=first|omega|with_unfolding_all rfl) only [WpA,K79r0,K79r1,K79r2,K79r3,K79r4,K79r5,K79r6,K79r7,K79r8,K79r9,K79r10,K79r11,K79r12,K79r13,K79,K79l0,Abs.W,reduceIte,Nat.reduceEqDiff,Nat.reduceAdd,Nat.reduceSub,q12,q13,q14,e0,kB,r2,r3,r4,ZO,z0,ad]
     rfl,rfl,?_,?_,?_⟩
    ·simp only [efs,q12,reduceIte,Nat.reduceEqDiff]
    ·simp only [efs,q13,reduceIte,Nat.reduceEqDiff]
    ·simp only [efs,reduceIte,Nat.reduceEqDiff];rfl
   ·obtain rfl:i=H.bears.length:=by omega
    have e0:decide ((H.bears.length:Int)<(H.bears.length:Int))=false:=by simp
    refine .inr ⟨.exit 0,L.set 34 (.bool false),t,by simp,?_,rfl,rfl⟩
    simp (disch:=first|omega|with_unfolding_all rfl) only [WpA,K79r0,K79r1,K79r2,K79r3,K79r4,K79r5,K79r6,K79r7,K79r8,K79r9,K79r10,K79r11,K79r12,K79r13,K79,K79l0,Abs.W,reduceIte,Nat.reduceEqDiff,Nat.reduceAdd,Nat.reduceSub,q13,q14,e0])
 simp (disch:=first|omega|with_unfolding_all rfl) only [WpA,K79r0,K79r1,K79r2,K79r3,K79r4,K79r5,K79r6,K79r7,K79r8,K79r9,K79r10,K79r11,K79r12,K79r13,K79,Abs.W,reduceIte,Nat.reduceEqDiff,Nat.reduceAdd,Nat.reduceSub]
 exact ⟨_,rfl,by omega⟩
theorem jKA (N:Nat) (hN:6≤N) {no:Nat→Prop} (H:HallR) (ok:H.Ok) (vW vS vB vK:AV) (s:St) (hH:HallAt no s.h s.n H vW vS vB vK) (hs:s.n+1000≤far) :
  call Try.prog X N (.fn 55) [.agg (zP H vW vS vB vK)] s=.val (.int .i64 0) s:=by
 obtain ⟨n,rfl⟩:∃ n,N=n+1:=⟨N - 1,by omega⟩
 refine zj Try.func55 (fun u uh un um=>?_) rfl
 rw [← uh,← un] at hH
 have kB:=hH.b.okA
 have kW:=hH.w.okA
 have kS:=hH.s.okA
 have kK:=hH.k.okA
 have hf:=hfar
 obtain ⟨y0,y1,y2,y3,x0,x1,x2,x3⟩:=ok.toSize
 obtain ⟨w,hw⟩:∃ w:St,w=u.new (.cells (zP H vW vS vB vK) (tag 30)):=⟨_,rfl⟩
 have wn:w.n=u.n+1:=by rw [hw];rfl
 have wm:w.m=far:=by rw [hw];exact um
 have wg:∀ c,c<u.n→w.h.get c=u.h.get c:=fun c hc=>by rw [hw,zH _ _ _ (by omega)]
 have w0:w.h.get u.n=some (.cells (zP H vW vS vB vK) (tag 30)):=by rw [hw];exact zM _ _ _ rfl (by omega)
 have hwn:w.n≤far:=by omega
 have hwm:w.m≤far:=by omega
 have hHw:∀ m,HallAt no (⟨w.h,w.n,m⟩:St).h (⟨w.h,w.n,m⟩:St).n H vW vS vB vK:=fun m=>hH.grow wg (by show u.n≤w.n;omega)
 have c1:∀ m,call Try.prog X n (.fn 78) [.agg (zP H vW vS vB vK),vW] ⟨w.h,w.n,m⟩=.val (.int .i64 0) ⟨w.h,w.n,m⟩:=fun m=>jMJ n (by omega) H vW vS vB vK H.water vW _ (hHw m).w ok.wl ok.wa ok.wn (by show w.n+100≤far;omega)
 have c2:∀ m,call Try.prog X n (.fn 78) [.agg (zP H vW vS vB vK),vS] ⟨w.h,w.n,m⟩=.val (.int .i64 0) ⟨w.h,w.n,m⟩:=fun m=>jMJ n (by omega) H vW vS vB vK H.shut vS _ (hHw m).s ok.sl ok.sa ok.sn (by show w.n+100≤far;omega)
 have c3:∀ m,call Try.prog X n (.fn 79) [.agg (zP H vW vS vB vK)] ⟨w.h,w.n,m⟩=.val (.int .i64 0) ⟨w.h,w.n,m⟩:=fun m=>VhA n (by omega) H ok vW vS vB vK _ (hHw m) (by show w.n+200≤far;omega)
 have c4:call Try.prog X n (.fn 80) [vK] w=.val (.int .i64 0) w:=YRJ n (by omega) H.kinds vK w (hHw w.m).k ok.k0 ok.k1 ok.k (by omega)
 rw [zxQ]
 simp (disch:=first|omega|with_unfolding_all rfl) only [res55,K55,K55r0,Abs.W,reduceIte,Nat.reduceEqDiff,Nat.reduceAdd,Nat.reduceSub]
 rw [← hw]
 simp (disch:=first|omega|(with_unfolding_all exact rfl)|(simp only[zW,jB,jF];omega)|(refine jU ?_;simp only[jF];omega)) only [ySQ,Abs.W,reduceIte,Nat.reduceEqDiff,Nat.reduceAdd,Nat.reduceSub,w0,kB,kW,kS,kK,c1,c2,c3,c4,yG _ _ _ _ _ _ _ hwn hwm,ZO,WeJ,Nat.zero_add]
 exact ⟨_,rfl,by simp only [jF];omega⟩
structure Bedd (u t:St) (l w kk:Nat) (own:Nat→Prop):Prop where
 same:∀ y,y<u.n→y≠l→¬ own y→t.h.get y=u.h.get y
 n:u.n≤t.n
 le:t.n≤u.n+kk
 m:w≤t.m
 mle:t.m≤far
def HallR.places (H:HallR):List (Nat × Nat):=(List.range (H.deep * H.wide)).map fun i=>(i % H.wide,i / H.wide)
theorem yq (H:HallR):H.places.length=H.deep * H.wide:=by unfold HallR.places;rw [List.length_map,List.length_range]
theorem joA (H:HallR) {i:Nat} (hi:i<H.places.length):H.places[i]=(i % H.wide,i / H.wide):=by simp [HallR.places]
theorem zkA {H:HallR} {x y:Nat} (hx:x<H.wide) (hy:y<H.deep):y * H.wide+x<H.places.length:=by
 rw [yq]
 have:y * H.wide+H.wide≤H.deep * H.wide:=by rw [← Nat.succ_mul];exact Nat.mul_le_mul_right _ hy
 omega
theorem WzA {H:HallR} {x y:Nat} (hx:x<H.wide) (hy:y<H.deep):H.places[y * H.wide+x]'(zkA hx hy)=(x,y):=by
 rw [joA,Nat.add_comm,Nat.add_mul_mod_self_right,Nat.mod_eq_of_lt hx,Nat.add_mul_div_right _ _ (by omega),Nat.div_eq_of_lt hx,Nat.zero_add]
theorem ysA {H:HallR} {x y:Nat} (hx:x<H.wide) (hy:y<H.deep):H.places.take (y * H.wide+x+1)=H.places.take (y * H.wide+x)++[(x,y)]∧H.places.take (y * H.wide+x)++(x,y)::H.places.drop (y * H.wide+x+1)=H.places:=by
 have h:=zkA hx hy
 have e:=WzA hx hy
 refine ⟨by rw [yE h,e],?_⟩
 rw [← e,← List.drop_eq_getElem_cons h,List.take_append_drop]
theorem vw {H:HallR} (s:H.Size):H.places.length≤24:=by
 rw [yq]
 have:=s.w1;have:=s.d1
 exact Nat.mul_le_mul (by omega:H.deep≤4) (by omega:H.wide≤6)
abbrev evP (c:Nat × Nat):AV:=.agg [.int .i64 (c.1:Int),.int .i64 (c.2:Int)]
theorem WxA (N:Nat) (cx:Ctx) {l k0 w rm x y kk:Nat} {own:Nat→Prop} {μ:List (Nat × Nat)→Nat→Prop} {J:List (Nat × Nat)→Heap→Nat→Prop} {H:HallR} {u t:St} {L:Env} {P1:AV} (hT:Takes Try.prog X N l k0 w rm own evP H.places μ J)
  (hlu:l<u.n) (hs:u.n+kk+rm+500≤far) (hx:x<H.wide) (hy:y<H.deep) (hy4:H.wide≤6)
  (q0:L.find 0=.yield l) (q1:L.find 1=P1) (q3:L.find 3=.int .i64 (y:Int)) (q6:L.find 6=.int .i64 (H.deep:Int)) (q7:L.find 7=.int .i64 (y:Int)) (q11:L.find 11=.int .i64 (H.wide:Int)) (q12:L.find 12=.int .i64 (x:Int)) (hD:Bedd u t l w kk own) (hz:μ (H.places.take (y * H.wide+x)) t.m) (hJ:J (H.places.take (y * H.wide+x)) t.h t.n) :
  ∃ L1 t1,K75l0 (call Try.prog X N) cx L [] t=.done .norm L1 [] t1∧Bedd u t1 l w (kk+k0) own∧(t1.m≤l∧μ (H.places.take (y * H.wide+x+1)) t1.m)∧J (H.places.take (y * H.wide+x+1)) t1.h t1.n∧L1.find 0=.yield l∧L1.find 1=P1∧L1.find 3=.int .i64 (y:Int)∧L1.find 6=.int .i64 (H.deep:Int)∧L1.find 7=.int .i64 (y:Int)∧L1.find 11=.int .i64 (H.wide:Int)∧L1.find 12=.int .i64 ((x+1:Nat):Int):=by
 have hf:=hfar
 obtain ⟨same,tn,tk,tm,tf⟩:=hD
 have e0:decide ((x:Int)<(H.wide:Int))=true:=decide_eq_true (by omega)
 have ad:∀ s,jI s .i64 (x:Int) 1=.val (.int .i64 ((x:Int)+1)) s:=fun s=>za s _ _ (by omega)
 obtain ⟨hsn,hsp⟩:=ysA hx hy
 have kf:=hT.few
 obtain ⟨s2,e2,k1,k3,k4,k5,k6,k7,k8,k9⟩:=hT.take _ _ _ t hsp hJ (by omega) (by omega) tm tf hz
 have e2':call Try.prog X N (.yield l) [.agg [.int .i64 (x:Int),.int .i64 (y:Int)]] t=.val (.bool true) s2:=e2
 rw [hsn]
 refine ⟨_,s2,by
  simp (disch:=first|omega|with_unfolding_all rfl) only [K75l0,res75,K75r0,K75r1,K75r2,K75r3,K75r4,K75r5,K75r6,K75r7,K75r8,K75,Abs.W,reduceIte,Nat.reduceEqDiff,Nat.reduceAdd,Nat.reduceSub,Nat.zero_add,q0,q1,q3,q6,q7,q11,q12,e0,e2',ad]
  rfl,⟨fun y hy h1 h2=>(k3 y (by omega) h1 h2).trans (same y hy h1 h2),by omega,by omega,k6,by omega⟩,⟨k8,k9⟩,k1,?_,?_,?_,?_,?_,?_,?_⟩
 ·simp only [efs,q0,reduceIte,Nat.reduceEqDiff]
 ·simp only [efs,q1,reduceIte,Nat.reduceEqDiff]
 ·simp only [efs,q3,reduceIte,Nat.reduceEqDiff]
 ·simp only [efs,q6,reduceIte,Nat.reduceEqDiff]
 ·simp only [efs,q7,reduceIte,Nat.reduceEqDiff]
 ·simp only [efs,q11,reduceIte,Nat.reduceEqDiff]
 ·simp only [efs,reduceIte,Nat.reduceEqDiff];rfl
theorem JeJ (N:Nat) (cx:Ctx) {l k0 w rm y kk:Nat} {own:Nat→Prop} {μ:List (Nat × Nat)→Nat→Prop} {J:List (Nat × Nat)→Heap→Nat→Prop} {H:HallR} {u t:St} {L:Env} {P1:AV} {r:R} (hr:jK K75l0 rounds (call Try.prog X N) cx L [] t=r) (hT:Takes Try.prog X N l k0 w rm own evP H.places μ J)
  (hlu:l<u.n) (hs:u.n+kk+k0 * 6+rm+500≤far) (hy:y<H.deep) (hw0:1≤H.wide) (hy4:H.wide≤6)
  (q0:L.find 0=.yield l) (q1:L.find 1=P1) (q3:L.find 3=.int .i64 (y:Int)) (q6:L.find 6=.int .i64 (H.deep:Int)) (q7:L.find 7=.int .i64 (y:Int)) (q11:L.find 11=.int .i64 (H.wide:Int)) (q12:L.find 12=.int .i64 0) (hD:Bedd u t l w kk own) (hz:μ (H.places.take (y * H.wide)) t.m) (hJ:J (H.places.take (y * H.wide)) t.h t.n) :
  ∃ L1 t1,r=.done (.exit 2) L1 [] t1∧Bedd u t1 l w (kk+k0 * 6) own∧(t1.m≤l∧μ (H.places.take ((y+1) * H.wide)) t1.m)∧J (H.places.take ((y+1) * H.wide)) t1.h t1.n∧L1.find 0=.yield l∧L1.find 1=P1∧L1.find 6=.int .i64 (H.deep:Int)∧L1.find 7=.int .i64 (y:Int):=by
 have hf:=hfar
 have hkm:∀ i,i≤6→k0 * i≤k0 * 6:=fun i hi=>Nat.mul_le_mul_left _ hi
 obtain ⟨e,L1,t1,rfl,rfl,h1,h2,h3,h4,h5,h6,h7⟩:=jO hr (fun i L' t'=>L'.find 0=.yield l∧L'.find 1=P1∧L'.find 3=.int .i64 (y:Int)∧L'.find 6=.int .i64 (H.deep:Int)∧L'.find 7=.int .i64 (y:Int)∧L'.find 11=.int .i64 (H.wide:Int)∧L'.find 12=.int .i64 (i:Int)∧Bedd u t' l w (kk+k0 * i) own∧(i=0∨t'.m≤l)∧μ (H.places.take (y * H.wide+i)) t'.m∧J (H.places.take (y * H.wide+i)) t'.h t'.n)
  (fun e L1 t1=>e=.exit 2∧Bedd u t1 l w (kk+k0 * 6) own∧(t1.m≤l∧μ (H.places.take ((y+1) * H.wide)) t1.m)∧J (H.places.take ((y+1) * H.wide)) t1.h t1.n∧L1.find 0=.yield l∧L1.find 1=P1∧L1.find 6=.int .i64 (H.deep:Int)∧L1.find 7=.int .i64 (y:Int)) H.wide (by unfold rounds;omega)
  ⟨q0,q1,q3,q6,q7,q11,q12,hD,.inl rfl,hz,hJ⟩
  (fun i L' t' hi ⟨q0,q1,q3,q6,q7,q11,q12,hD,hm,hz,hJ⟩=>by
   have hki:=hkm i (by omega)
   by_cases hlt:i<H.wide
   ·obtain ⟨L2,t2,p1,p2,⟨p3,p4⟩,p5,z0,z1,z3,z6,z7,z11,z12⟩:=WxA N cx hT hlu (by omega) hlt hy hy4 q0 q1 q3 q6 q7 q11 q12 hD hz hJ
    have p2':Bedd u t2 l w (kk+k0 * (i+1)) own:=by rw [Nat.mul_succ,← Nat.add_assoc];exact p2
    exact .inl ⟨hlt,L2,t2,p1,z0,z1,z3,z6,z7,z11,z12,p2',.inr p3,p4,p5⟩
   ·obtain rfl:i=H.wide:=by omega
    have e0:decide ((H.wide:Int)<(H.wide:Int))=false:=by simp
    rw [← Nat.succ_mul] at hz hJ
    refine .inr ⟨.exit 2,L'.set 13 (.bool false),t',by simp,?_,rfl,⟨hD.same,hD.n,by have:=hD.le;omega,hD.m,hD.mle⟩,⟨by omega,hz⟩,hJ,?_,?_,?_,?_⟩
    ·simp (disch:=first|omega|with_unfolding_all rfl) only [res75,K75r0,K75r1,K75r2,K75r3,K75r4,K75r5,K75r6,K75r7,K75r8,K75,K75l0,Abs.W,reduceIte,Nat.reduceEqDiff,Nat.reduceAdd,Nat.reduceSub,q11,q12,e0]
    ·simp only [efs,q0,reduceIte,Nat.reduceEqDiff]
    ·simp only [efs,q1,reduceIte,Nat.reduceEqDiff]
    ·simp only [efs,q6,reduceIte,Nat.reduceEqDiff]
    ·simp only [efs,q7,reduceIte,Nat.reduceEqDiff])
 exact ⟨L1,t1,rfl,h1,h2,h3,h4,h5,h6,h7⟩
theorem Wa {N p:Nat} {rd:Nat→Prop} {H:HallR} {vW vS vB vK:AV} {H0:Heap} (sz:H.Size) (gp:H0.get p=some (.cells (zP H vW vS vB vK) (tag 30))) (hp:rd p) :
  Hands Try.prog X N (N+1) 10 H0 rd 75 [.ptr p 0] evP H.places:=by
 intro l k0 w rm own μ J s hT ho hrl hH hl hw hs hJ hwm hm
 have hf:=hfar
 have kf:=hT.few
 obtain ⟨w0,w1,d0,d1,_,_,_,_⟩:=sz
 have hkm:∀ i,i≤4→k0 * 6 * i≤k0 * 6 * 4:=fun i hi=>Nat.mul_le_mul_left _ hi
 obtain ⟨v',t,mm,e,⟨rfl,a1,a2,a3,a4,a5,a6,a7,a8⟩,hm'⟩:=gcA (n:=N) (args:=[.yield l,.ptr p 0]) (s:=s) (Q:=fun v h n m'=>v=.tup []∧J H.places h n∧(∀ y,y<s.n→y≠l→¬ own y→h.get y=s.h.get y)∧s.n≤n∧n≤s.n+k0 * 6 * 4∧w≤m'∧m'≤far∧m'≤l∧μ H.places m') Try.func75 rfl (fun u uh un um=>by
  have gpu:u.h.get p=some (.cells (zP H vW vS vB vK) (tag 30)):=by rw [uh,(hH p hp).2];exact gp
  rw [zeQ]
  simp (disch:=first|omega|with_unfolding_all rfl) only [res75,K75r0,K75r1,K75r2,K75r3,K75r4,K75r5,K75r6,K75r7,K75r8,K75,Abs.W,reduceIte,Nat.reduceEqDiff,Nat.reduceAdd,Nat.reduceSub,gpu,Nat.zero_add]
  generalize hlp:jK _ rounds _ _ _ _ _=rl
  have h0:Bedd u u l w (k0 * 6 * 0) own:=⟨fun _ _ _ _=>rfl,Nat.le_refl _,by omega,by omega,by omega⟩
  have hJ0:J (H.places.take (0 * H.wide)) u.h u.n:=by rw [uh,un,Nat.zero_mul];exact hJ
  obtain ⟨e,L1,s1,rfl,rfl,hD,hJ1,hz⟩:=jO hlp (fun i L' t'=>L'.find 0=.yield l∧L'.find 1=.ptr p 0∧L'.find 6=.int .i64 (H.deep:Int)∧L'.find 7=.int .i64 (i:Int)∧Bedd u t' l w (k0 * 6 * i) own∧J (H.places.take (i * H.wide)) t'.h t'.n∧((i=0∨t'.m≤l)∧μ (H.places.take (i * H.wide)) t'.m))
   (fun e L1 t'=>e=.exit 0∧Bedd u t' l w (k0 * 6 * 4) own∧J H.places t'.h t'.n∧(t'.m≤l∧μ H.places t'.m)) H.deep (by unfold rounds;omega)
   ⟨(by simp only [zK,efs,reduceIte,Nat.reduceEqDiff]),(by simp only [zK,efs,reduceIte,Nat.reduceEqDiff]),(by simp only [zK,efs,reduceIte,Nat.reduceEqDiff]),(by simp only [zK,efs,reduceIte,Nat.reduceEqDiff];rfl),h0,hJ0,.inl rfl,by rw [Nat.zero_mul];exact hT.nil _⟩
   (fun i L' t' hi ⟨q0,q1,q6,q7,hD,hJi,hz⟩=>by
    have hki:=hkm i (by omega)
    by_cases hlt:i<H.deep
    ·have e0:decide ((i:Int)<(H.deep:Int))=true:=decide_eq_true (by omega)
     have ad:∀ s,jI s .i64 (i:Int) 1=.val (.int .i64 ((i:Int)+1)) s:=fun s=>za s _ _ (by omega)
     have gpt:t'.h.get p=some (.cells (zP H vW vS vB vK) (tag 30)):=(hD.same p (by have:=(hH p hp).1;omega) (fun e=>hrl (e▸hp)) (fun h=>ho p h hp)).trans gpu
     have hki2:=hkm (i+1) (by omega)
     have hms:k0 * 6 * (i+1)=k0 * 6 * i+k0 * 6:=Nat.mul_succ _ _
     refine .inl ⟨hlt,?_⟩
     simp (disch:=first|omega|with_unfolding_all rfl) only [K75l1,K75r1,K75r2,K75r3,Abs.W,reduceIte,Nat.reduceEqDiff,Nat.reduceAdd,Nat.reduceSub,Nat.zero_add,q0,q1,q6,q7,e0,gpt]
     generalize hlp2:jK _ rounds _ _ _ _ _=rl2
     obtain ⟨L2,t2,rfl,p2,⟨p3,p4⟩,p5,z0,z1,z6,z7⟩:=JeJ (P1:=.ptr p 0) N _ hlp2 hT (by omega) (by omega) hlt w0 w1 (by simp only [efs,q0,reduceIte,Nat.reduceEqDiff]) (by simp only [efs,q1,reduceIte,Nat.reduceEqDiff]) (by simp only [efs,reduceIte,Nat.reduceEqDiff]) (by simp only [efs,q6,reduceIte,Nat.reduceEqDiff]) (by simp only [efs,q7,reduceIte,Nat.reduceEqDiff]) (by simp only [efs,reduceIte,Nat.reduceEqDiff]) (by simp only [efs,reduceIte,Nat.reduceEqDiff]) hD hz.2 hJi
     simp (disch:=first|omega|with_unfolding_all rfl) only [res75,K75r0,K75r1,K75r2,K75r3,K75r4,K75r5,K75r6,K75r7,K75r8,K75,Abs.W,reduceIte,Nat.reduceEqDiff,Nat.reduceAdd,Nat.reduceSub,Nat.zero_add,z7,ad]
     refine ⟨_,_,rfl,?_,?_,?_,?_,by rw [hms];exact p2,p5,.inr p3,p4⟩
     ·simp only [efs,z0,reduceIte,Nat.reduceEqDiff]
     ·simp only [efs,z1,reduceIte,Nat.reduceEqDiff]
     ·simp only [efs,z6,reduceIte,Nat.reduceEqDiff]
     ·simp only [efs,reduceIte,Nat.reduceEqDiff];rfl
    ·obtain rfl:i=H.deep:=by omega
     have e1:decide ((H.deep:Int)<(H.deep:Int))=false:=by simp
     have hpl:H.places.take (H.deep * H.wide)=H.places:=List.take_of_length_le (by rw [yq];exact Nat.le_refl _)
     rw [hpl] at hJi hz
     refine .inr ⟨.exit 0,L'.set 8 (.bool false),t',by simp,?_,rfl,⟨hD.same,hD.n,by have:=hD.le;omega,hD.m,hD.mle⟩,hJi,by omega,hz.2⟩
     simp (disch:=first|omega|with_unfolding_all rfl) only [res75,K75r0,K75r1,K75r2,K75r3,K75r4,K75r5,K75r6,K75r7,K75r8,K75,K75l1,Abs.W,reduceIte,Nat.reduceEqDiff,Nat.reduceAdd,Nat.reduceSub,q6,q7,e1])
  obtain ⟨d1',d2,d3,d4,d5⟩:=hD
  simp (disch:=first|omega|with_unfolding_all rfl) only [res75,K75r0,K75r1,K75r2,K75r3,K75r4,K75r5,K75r6,K75r7,K75r8,K75,Abs.W,reduceIte,Nat.reduceEqDiff,Nat.reduceAdd,Nat.reduceSub,WF]
  refine ⟨_,_,rfl,⟨rfl,hJ1,fun y hy h1 h2=>by rw [d1' y (by omega) h1 h2,uh],by omega,by omega,d4,d5,hz.1,hz.2⟩,fun _ hle=>by omega⟩)
 have hkk:=hkm 4 (Nat.le_refl _)
 refine ⟨t,e,a1,a2,a3,by omega,?_,?_,?_⟩
 ·rcases hm' with ⟨_,hm'⟩ | ⟨_,hm'⟩<;>omega
 ·rcases hm' with ⟨_,hm'⟩ | ⟨_,hm'⟩<;>omega
 ·exact hT.mono _ _ _ (by rcases hm' with ⟨h1,hm'⟩ | ⟨h1,hm'⟩<;>omega) a8
end Go.Proofs.Ytoklbkgcclkejaa.walk
set_option maxRecDepth 10000
namespace Go.Abs
theorem Jl (n size:Nat) (s:St) (b o:Nat) (i:Nat) (h:i<n):jHA n size s (.ptr b o) (.int .i64 (i:Int))=.val (.ptr b (o+i * size)) s:=by
 show Zo s b o n size i=_
 unfold Zo
 rw [Nat.ble_eq_true_of_le (show Nat.succ i≤n from h)]
 rfl
theorem VQA (f:FuncId) (a b:List Arg) (L:Env) (s:St):JQ f a b L s=.val (.func f (evs a L) (evs b L)) s:=Eq.trans (Eq.refl _) (Eq.refl _)
theorem yz {P:Program} (a:Nat) (t:TypeId) (L:Env) (s:St) {sh:Option Nat} (hs:yH P t=some sh) {v:AV} (h:okA (Jx sh s (L.find a))=.val v s):yL P [.cell a t] L [] s=.val v s:=by
 unfold yL
 simp only [gL,wN,hs,h]
 rfl
theorem YCJ:∀ {c:List AV} {i:Nat} {v:AV},c[i]? = some v→nth c i=v
 | [],_,_,h=>by simp at h
 | a::r,0,v,h=>by rw [wR];simpa using h
 | a::r,i+1,v,h=>by rw [wR,if_neg (by omega)];exact YCJ (c:=r) (i:=i) (by simpa using h)
theorem zDJ:∀ {c:List AV} {i:Nat} (x:AV),i<c.length→over i [x] c=some (c.set i x)
 | [],_,_,h=>by simp at h
 | a::r,0,x,_=>by cases r<;>rfl
 | a::r,i+1,x,h=>by
  rw [Js]
  have ih:=zDJ (c:=r) (i:=i) x (by simpa using h)
  first | (rw [ih];rfl) | (rw [if_neg (by omega),show i+1 - 1=i by omega,ih];rfl)
theorem YNA:∀ {c:List AV} {o:Nat} {x y z:AV},c[o]? = some x→c[o+1]? = some y→c[o+2]? = some z→cut o 3 c=some [x,y,z]
 | [],_,_,_,_,h,_,_=>by simp at h
 | a::r,0,x,y,z,h1,h2,h3=>by
  match r,h2,h3 with
  | [],h2,_=>simp at h2
  | [b],_,h3=>simp at h3
  | b::d::r,h2,h3 =>
   have e1:a=x:=by simpa using h1
   have e2:b=y:=by simpa using h2
   have e3:d=z:=by simpa using h3
   subst e1 e2 e3
   rw [JE,if_pos rfl,vq,vq,vq,ZX]
   rfl
 | a::r,o+1,x,y,z,h1,h2,h3=>by
  rw [JE,if_neg (by omega),Nat.add_sub_cancel]
  exact YNA (by simpa using h1) (by simpa using h2) (by simpa using h3)
theorem ylA:∀ {c:List AV},(∀ (i:Nat) (v:AV),c[i]? = some v→v.scalar=true)→scalars c=true
 | [],_=>rfl
 | a::r,h=>by
  have e:scalars (a::r)=(match a.scalar with | true=>scalars r | false=>false):=rfl
  rw [e,h 0 a rfl]
  exact ylA fun i v hv=>h (i+1) v (by simpa using hv)
theorem wUA:∀ {c:List AV},(∀ (i:Nat) (v:AV),c[i]? = some v→plain v=true)→plains c=true
 | [],_=>rfl
 | a::r,h=>by
  have e:plains (a::r)=(match plain a with | true=>plains r | false=>false):=by rw [plains];cases Abs.plain a<;>rfl
  rw [e,h 0 a rfl]
  exact wUA fun i v hv=>h (i+1) v (by simpa using hv)
theorem jZ {s:St} {b o tg:Nat} {c:List AV} {v:AV} (h:s.h.get b=some (.cells c tg)) (ho:o<c.length) (hv:cellsOf 1 v=some [v]) (hs:scalars [v]=true):jM 1 s v (.ptr b o)=.val .undef (s.put b (.cells (c.set o v) tg)):=by
 rw [Vw,h,YK,hv,Yx,hs,Yy,zDJ v ho]
 rfl
theorem St.ext3 {s t:St} (h:s.h=t.h) (n:s.n=t.n) (m:s.m=t.m):s=t:=by
 obtain ⟨a,b,c⟩:=s
 obtain ⟨a',b',c'⟩:=t
 simp only at h n m
 subst h n m
 rfl
theorem JlA {body:K} {cl:zR} {cx:Ctx} {d:List Nat} (I:Nat→Env→St→Prop) (Q:Ex→Env→St→Prop) (k:Nat)
  (step:∀ i L s,i≤k→I i L s→(i<k∧∃ L1 s1,body cl cx L d s=.done .norm L1 d s1∧I (i+1) L1 s1)∨(∃ e L1 s1,e≠.norm∧body cl cx L d s=.done e L1 d s1∧Q e L1 s1)) :
  ∀ (m i fuel:Nat) (L:Env) (s:St),i+m=k→m<fuel→I i L s→∃ e L1 s1,jK body fuel cl cx L d s=.done e L1 d s1∧Q e L1 s1
 | m,i,0,_,_,_,hf,_=>by omega
 | m,i,fuel+1,L,s,hm,hf,hI=>by
  rcases step i L s (by omega) hI with ⟨hi,L1,s1,h1,h2⟩ | ⟨e,L1,s1,he,h1,h2⟩
  ·obtain ⟨m',rfl⟩:∃ m',m=m'+1:=⟨m - 1,by omega⟩
   obtain ⟨e,L2,s2,h3,h4⟩:=JlA I Q k step m' (i+1) fuel L1 s1 (by omega) (by omega) h2
   exact ⟨e,L2,s2,by rw [ww,h1,vN,h3],h4⟩
  ·refine ⟨e,L1,s1,?_,h2⟩
   rw [ww,h1]
   cases e with
   | norm=>exact absurd rfl he
   | exit id=>rfl
   | ret=>rfl
theorem zUJ {body:K} {cl:zR} {cx:Ctx} {L:Env} {d:List Nat} {s:St} {r:R} (hr:jK body rounds cl cx L d s=r) (I:Nat→Env→St→Prop) (Q:Ex→Env→St→Prop) (k:Nat) (hk:k<rounds) (h0:I 0 L s)
  (step:∀ i L s,i≤k→I i L s→(i<k∧∃ L1 s1,body cl cx L d s=.done .norm L1 d s1∧I (i+1) L1 s1)∨(∃ e L1 s1,e≠.norm∧body cl cx L d s=.done e L1 d s1∧Q e L1 s1)) :
  ∃ e L1 s1,r=.done e L1 d s1∧Q e L1 s1:=by
 obtain ⟨e,L1,s1,h1,h2⟩:=JlA I Q k step k 0 rounds L s (by omega) hk h0
 exact ⟨e,L1,s1,hr.symm.trans h1,h2⟩
end Go.Abs
namespace Go.Proofs.Ytoklbkgcclkejaa.walk
open Go.Abs Go.Proofs.Ytoklbkgcclkejaa.code
structure SpotR where
 (water shut:Bool)
 bay:Int
structure FlAt (c:List AV) (F:Nat→SpotR):Prop where
 len:c.length=72
 is:∀ i,i<24→c[i * 3]? = some (.bool (F i).water)∧c[i * 3+1]? = some (.bool (F i).shut)∧c[i * 3+2]? = some (.int .i64 (F i).bay)
theorem FlAt.to {c:List AV} {F G:Nat→SpotR} (h:FlAt c F) (e:∀ i,i<24→F i=G i):FlAt c G:=⟨h.len,fun i hi=>by rw [← e i hi];exact h.is i hi⟩
theorem FlAt.cell {c:List AV} {F:Nat→SpotR} (h:FlAt c F) {j:Nat} {v:AV} (hj:c[j]? = some v):(∃ b,v=.bool b)∨∃ x,v=.int .i64 x:=by
 have hl:j<72:=by
  rw [← h.len]
  rcases Nat.lt_or_ge j c.length with h1 | h1
  ·exact h1
  ·rw [List.getElem?_eq_none h1] at hj;cases hj
 obtain ⟨a,b,d⟩:=h.is (j / 3) (by omega)
 rcases (by omega:j=j / 3 * 3∨j=j / 3 * 3+1∨j=j / 3 * 3+2) with e | e | e
 ·rw [← e,hj] at a;injection a with a;exact .inl ⟨_,a⟩
 ·rw [← e,hj] at b;injection b with b;exact .inl ⟨_,b⟩
 ·rw [← e,hj] at d;injection d with d;exact .inr ⟨_,d⟩
theorem FlAt.scal {c:List AV} {F:Nat→SpotR} (h:FlAt c F):scalars c=true:=ylA fun i v hv=>by rcases h.cell hv with ⟨_,rfl⟩ | ⟨_,rfl⟩<;>rfl
theorem FlAt.plain {c:List AV} {F:Nat→SpotR} (h:FlAt c F):Abs.plain (.agg c)=true:=by
 show plains c=true
 exact wUA fun i v hv=>by rcases h.cell hv with ⟨_,rfl⟩ | ⟨_,rfl⟩<;>rfl
theorem FlAt.spot {c:List AV} {F:Nat→SpotR} (h:FlAt c F) {i:Nat} (hi:i<24):cut (i * 3) 3 c=some [.bool (F i).water,.bool (F i).shut,.int .i64 (F i).bay]:=by
 obtain ⟨a,b,d⟩:=h.is i hi
 exact YNA a b d
def putW (F:Nat→SpotR) (k:Nat):Nat→SpotR:=fun i=>if i=k then { F i with water:=true } else F i
def putS (F:Nat→SpotR) (k:Nat):Nat→SpotR:=fun i=>if i=k then { F i with shut:=true } else F i
def putB (F:Nat→SpotR) (k:Nat) (b:Int):Nat→SpotR:=fun i=>if i=k then { F i with bay:=b } else F i
theorem FlAt.water {c:List AV} {F:Nat→SpotR} (h:FlAt c F) {k:Nat} (hk:k<24):FlAt (c.set (k * 3) (.bool true)) (putW F k):=by
 refine ⟨by rw [List.length_set,h.len],fun i hi=>?_⟩
 obtain ⟨a,b,d⟩:=h.is i hi
 have hl:=h.len
 unfold putW
 by_cases e:i=k
 ·subst e
  rw [if_pos rfl]
  refine ⟨by rw [List.getElem?_set_self (by omega)],by rw [List.getElem?_set_ne (by omega)];exact b,by rw [List.getElem?_set_ne (by omega)];exact d⟩
 ·rw [if_neg e]
  refine ⟨by rw [List.getElem?_set_ne (by omega)];exact a,by rw [List.getElem?_set_ne (by omega)];exact b,by rw [List.getElem?_set_ne (by omega)];exact d⟩
theorem FlAt.shut {c:List AV} {F:Nat→SpotR} (h:FlAt c F) {k:Nat} (hk:k<24):FlAt (c.set (k * 3+1) (.bool true)) (putS F k):=by
 refine ⟨by rw [List.length_set,h.len],fun i hi=>?_⟩
 obtain ⟨a,b,d⟩:=h.is i hi
 have hl:=h.len
 unfold putS
 by_cases e:i=k
 ·subst e
  rw [if_pos rfl]
  refine ⟨by rw [List.getElem?_set_ne (by omega)];exact a,by rw [List.getElem?_set_self (by omega)],by rw [List.getElem?_set_ne (by omega)];exact d⟩
 ·rw [if_neg e]
  refine ⟨by rw [List.getElem?_set_ne (by omega)];exact a,by rw [List.getElem?_set_ne (by omega)];exact b,by rw [List.getElem?_set_ne (by omega)];exact d⟩
theorem FlAt.bay {c:List AV} {F:Nat→SpotR} (h:FlAt c F) {k:Nat} (hk:k<24) (x:Int):FlAt (c.set (k * 3+2) (.int .i64 x)) (putB F k x):=by
 refine ⟨by rw [List.length_set,h.len],fun i hi=>?_⟩
 obtain ⟨a,b,d⟩:=h.is i hi
 have hl:=h.len
 unfold putB
 by_cases e:i=k
 ·subst e
  rw [if_pos rfl]
  refine ⟨by rw [List.getElem?_set_ne (by omega)];exact a,by rw [List.getElem?_set_ne (by omega)];exact b,by rw [List.getElem?_set_self (by omega)]⟩
 ·rw [if_neg e]
  refine ⟨by rw [List.getElem?_set_ne (by omega)];exact a,by rw [List.getElem?_set_ne (by omega)];exact b,by rw [List.getElem?_set_ne (by omega)];exact d⟩
abbrev ZzA:List AV:=[.bool false,.bool false,.int .i64 0,.bool false,.bool false,.int .i64 0,.bool false,.bool false,.int .i64 0,.bool false,.bool false,.int .i64 0,.bool false,.bool false,.int .i64 0,.bool false,.bool false,.int .i64 0,.bool false,.bool false,.int .i64 0,.bool false,.bool false,.int .i64 0,.bool false,.bool false,.int .i64 0,.bool false,.bool false,.int .i64 0,.bool false,.bool false,.int .i64 0,.bool false,.bool false,.int .i64 0,.bool false,.bool false,.int .i64 0,.bool false,.bool false,.int .i64 0,.bool false,.bool false,.int .i64 0,.bool false,.bool false,.int .i64 0,.bool false,.bool false,.int .i64 0,.bool false,.bool false,.int .i64 0,.bool false,.bool false,.int .i64 0,.bool false,.bool false,.int .i64 0,.bool false,.bool false,.int .i64 0,.bool false,.bool false,.int .i64 0,.bool false,.bool false,.int .i64 0,.bool false,.bool false,.int .i64 0]
theorem zEQ:FlAt ZzA (fun _=>⟨false,false,0⟩):=⟨rfl,fun i hi=>by
 match i,hi with
 | 0,_=>exact ⟨rfl,rfl,rfl⟩
 | 1,_=>exact ⟨rfl,rfl,rfl⟩
 | 2,_=>exact ⟨rfl,rfl,rfl⟩
 | 3,_=>exact ⟨rfl,rfl,rfl⟩
 | 4,_=>exact ⟨rfl,rfl,rfl⟩
 | 5,_=>exact ⟨rfl,rfl,rfl⟩
 | 6,_=>exact ⟨rfl,rfl,rfl⟩
 | 7,_=>exact ⟨rfl,rfl,rfl⟩
 | 8,_=>exact ⟨rfl,rfl,rfl⟩
 | 9,_=>exact ⟨rfl,rfl,rfl⟩
 | 10,_=>exact ⟨rfl,rfl,rfl⟩
 | 11,_=>exact ⟨rfl,rfl,rfl⟩
 | 12,_=>exact ⟨rfl,rfl,rfl⟩
 | 13,_=>exact ⟨rfl,rfl,rfl⟩
 | 14,_=>exact ⟨rfl,rfl,rfl⟩
 | 15,_=>exact ⟨rfl,rfl,rfl⟩
 | 16,_=>exact ⟨rfl,rfl,rfl⟩
 | 17,_=>exact ⟨rfl,rfl,rfl⟩
 | 18,_=>exact ⟨rfl,rfl,rfl⟩
 | 19,_=>exact ⟨rfl,rfl,rfl⟩
 | 20,_=>exact ⟨rfl,rfl,rfl⟩
 | 21,_=>exact ⟨rfl,rfl,rfl⟩
 | 22,_=>exact ⟨rfl,rfl,rfl⟩
 | 23,_=>exact ⟨rfl,rfl,rfl⟩
 | i+24,h=>exact absurd h (by omega)⟩
def YSA (i:Nat):Int × Int:=(((i % 6:Nat):Int),((i / 6:Nat):Int))
def HallR.fl (H:HallR) (bs:List (Nat × Nat)) (ws ss:List (Int × Int)) (i:Nat):SpotR:=⟨decide (YSA i ∈ ws),decide (YSA i ∈ ss),if (i % 6,i / 6) ∈ bs then (H.bayAt (i % 6) (i / 6):Int) else 0⟩
theorem vbQ {H:HallR} {bs:List (Nat × Nat)} {ws ss:List (Int × Int)} {x y:Nat} (hx:x<6):∀ i,putB (H.fl bs ws ss) (y * 6+x) (H.bayAt x y:Int) i=H.fl (bs++[(x,y)]) ws ss i:=fun i=>by
 unfold putB HallR.fl
 by_cases e:i=y * 6+x
 ·have h1:i % 6=x:=by omega
  have h2:i / 6=y:=by omega
  have h4:(x,y) ∈ bs++[(x,y)]:=List.mem_append_right _ (List.mem_singleton.mpr rfl)
  rw [if_pos e]
  simp only [h1,h2,if_pos h4]
 ·have h3:((i % 6,i / 6) ∈ bs++[(x,y)])↔(i % 6,i / 6) ∈ bs:=by
   rw [List.mem_append,List.mem_singleton,Prod.mk.injEq]
   constructor
   ·rintro (h | ⟨h,h'⟩)
    ·exact h
    ·omega
   ·exact .inl
  rw [if_neg e]
  simp only [h3]
theorem wgJ {x y i:Nat} (hx:x<6) (h:i≠y * 6+x):YSA i≠((x:Int),(y:Int)):=fun e=>by
 unfold YSA at e
 rw [Prod.mk.injEq] at e
 omega
theorem VlA {x y:Nat} (hx:x<6):YSA (y * 6+x)=((x:Int),(y:Int)):=by
 unfold YSA
 rw [show (y * 6+x) % 6=x by omega,show (y * 6+x) / 6=y by omega]
theorem YrJ {H:HallR} {bs:List (Nat × Nat)} {ws ss:List (Int × Int)} {x y:Nat} (hx:x<6):∀ i,putW (H.fl bs ws ss) (y * 6+x) i=H.fl bs (ws++[((x:Int),(y:Int))]) ss i:=fun i=>by
 unfold putW HallR.fl
 by_cases e:i=y * 6+x
 ·subst e
  rw [if_pos rfl,VlA hx]
  simp
 ·have:=wgJ hx e
  rw [if_neg e]
  simp only [List.mem_append,List.mem_singleton,this,or_false]
theorem zFQ {H:HallR} {bs:List (Nat × Nat)} {ws ss:List (Int × Int)} {x y:Nat} (hx:x<6):∀ i,putS (H.fl bs ws ss) (y * 6+x) i=H.fl bs ws (ss++[((x:Int),(y:Int))]) i:=fun i=>by
 unfold putS HallR.fl
 by_cases e:i=y * 6+x
 ·subst e
  rw [if_pos rfl,VlA hx]
  simp
 ·have:=wgJ hx e
  rw [if_neg e]
  simp only [List.mem_append,List.mem_singleton,this,or_false]
theorem zGQ {H:HallR}:∀ i,i<24→(⟨false,false,0⟩:SpotR)=H.fl [] [] [] i:=fun i _=>by unfold HallR.fl;simp
theorem JWA (N:Nat) (hN:1≤N) (r:List AV) (s:St) (hs:s.n+100≤far):call Try.prog X N (.fn 53) [.agg r] s=.val (.func 75 [] [.ptr s.n 0]) (s.new (.cells r (tag 30))):=by
 obtain ⟨n,rfl⟩:∃ n,N=n+1:=⟨N - 1,by omega⟩
 have hf:=hfar
 obtain ⟨v,t,e,st,hv,hh⟩:=vm (n:=n) (args:=[.agg r]) (s:=s) (k:=1) (Q:=fun v h n=>v=.func 75 [] [.ptr s.n 0]∧h=(s.new (.cells r (tag 30))).h∧n=s.n+1) Try.func53 rfl (fun u uh un um=>by
  rw [zyQ]
  simp (disch:=first|omega|with_unfolding_all rfl) only [res53,K53r0,K53r1,K53,Abs.W,reduceIte,Nat.reduceEqDiff,Nat.reduceAdd,Nat.reduceSub,VQA,wQ]
  refine ⟨_,_,rfl,(Beside.refl u (by omega) um).new _,rfl,by rw [un],?_,?_⟩
  ·show (u.new _).h=(s.new _).h
   unfold St.new
   simp only [uh,un]
  ·show u.n+1=_
   omega)
 rw [e,hv]
 congr 1
 exact St.ext3 hh.1 hh.2 st.m
abbrev flO (c:List AV):AObj:=.cells c (tag 105)
abbrev HallR.spots (H:HallR):Nat→SpotR:=H.fl H.places H.water H.shut
theorem WQA (N:Nat) (cx:Ctx) {no:Nat→Prop} {H:HallR} {u0 p3 i:Nat} {d:List Nat} {vW:AV} {L:Env} {t:St} {c:List AV} (ok:H.Ok) (hW:Sl no t.h t.n 2 (H.water.map jC) vW) (g3:t.h.get p3=some (flO c)) (hp3:p3<t.n) (hc:FlAt c (H.fl H.places (H.water.take i) [])) (hi:i<H.water.length) (hs:t.n+100≤far) (hm:u0≤t.m) (hmf:t.m≤far) (hup:u0≤p3)
  (q3:L.find 3=.ptr p3 0) (q36:L.find 36=vW) (q37:L.find 37=.int .i64 (H.water.length:Int)) (q38:L.find 38=.int .i64 (i:Int)) :
  ∃ L1 t1 c1,K65l0 (call Try.prog X N) cx L d t=.done .norm L1 d t1∧t1.h.get p3=some (flO c1)∧FlAt c1 (H.fl H.places (H.water.take (i+1)) [])∧(∀ b,b<t.n→b≠p3→t1.h.get b=t.h.get b)∧t1.n=t.n+1∧u0≤t1.m∧t1.m≤far∧L1.find 1=L.find 1∧L1.find 2=L.find 2∧L1.find 3=.ptr p3 0∧L1.find 36=vW∧L1.find 37=.int .i64 (H.water.length:Int)∧L1.find 38=.int .i64 ((i+1:Nat):Int):=by
 have hf:=hfar
 have hwl:=ok.wl
 have kv:=hW.okA
 have e0:decide ((i:Int)<(H.water.length:Int))=true:=decide_eq_true (by omega)
 obtain ⟨b,p,cs,sz,⟨r1,_⟩,r2,r3,r4⟩:=Ja hW hi
 obtain ⟨⟨x0,x1⟩,y0,y1⟩:=ok.wa _ (List.getElem_mem hi)
 have htk:=yE hi
 generalize H.water[i]=C at *
 obtain ⟨cx',cy'⟩:=C
 obtain ⟨x,rfl⟩:=Int.eq_ofNat_of_zero_le x0
 obtain ⟨y,rfl⟩:=Int.eq_ofNat_of_zero_le y0
 have sw:=ok.w1
 have sd:=ok.d1
 simp only at x0 x1 y0 y1
 have ad:∀ s,jI s .i64 (i:Int) 1=.val (.int .i64 ((i:Int)+1)) s:=fun s=>za s _ _ (by omega)
 obtain ⟨z,hz⟩:∃ z:St,z=(t.new (.cells [.int .i64 0,.int .i64 0] (tag 27))).put t.n (.cells (jC ((x:Int),(y:Int))) (tag 27)):=⟨_,rfl⟩
 have zn:z.n=t.n+1:=by rw [hz];rfl
 have zm:z.m=min t.m t.n:=by rw [hz];simp only [St.put,jF,zQ]
 have zg:∀ c,c<t.n→z.h.get c=t.h.get c:=fun c hc=>by rw [hz,zL _ _ _ _ (by omega),zH _ _ _ (by omega)]
 have z0:z.h.get t.n=some (.cells [.int .i64 (x:Int),.int .i64 (y:Int)] (tag 27)):=by rw [hz];exact zN _ _ _ _ rfl (by omega)
 have z3:=(zg p3 hp3).trans g3
 have i1:=Jl 4 18 z p3 0 y (by omega)
 have i2:=Jl 6 3 z p3 (y * 18) x (by omega)
 rw [Nat.zero_add] at i1
 have st:jM 1 z (.bool true) (.ptr p3 (y * 18+x * 3))=.val .undef (z.put p3 (flO (c.set (y * 18+x * 3) (.bool true)))):=jZ z3 (by have:=hc.len;omega) rfl rfl
 have hc1:=(hc.water (k:=y * 6+x) (by omega)).to fun j _=>YrJ (H:=H) (by omega) j
 rw [show (y * 6+x) * 3=y * 18+x * 3 by omega,← htk] at hc1
 simp (disch:=first|omega|with_unfolding_all rfl) only [K65l0,K65r4,K65r5,Abs.W,reduceIte,Nat.reduceEqDiff,Nat.reduceAdd,Nat.reduceSub,Nat.zero_add,q3,q36,q37,q38,e0,kv,r2,r3,r4]
 rw [← hz]
 simp (disch:=first|omega|(with_unfolding_all exact rfl)|(simp only[zW,jB,jF];omega)|(refine jU ?_;simp only[jF];omega)) only [K65r6,K65r7,Abs.W,reduceIte,Nat.reduceEqDiff,Nat.reduceAdd,Nat.reduceSub,Nat.zero_add,Nat.add_zero,q3,q38,z0,i1,i2,st,ad]
 refine ⟨_,_,_,rfl,zN _ _ _ _ rfl (by omega),hc1,fun c hc hc3=>?_,?_,?_,?_,?_,?_,?_,?_,?_,?_⟩
 ·rw [zL _ _ _ _ hc3];exact zg c hc
 ·rw [jB];omega
 ·simp only [St.put,zQ];omega
 ·simp only [St.put,zQ];omega
 ·simp only [efs,reduceIte,Nat.reduceEqDiff]
 ·simp only [efs,reduceIte,Nat.reduceEqDiff]
 ·simp only [efs,q3,reduceIte,Nat.reduceEqDiff]
 ·simp only [efs,q36,reduceIte,Nat.reduceEqDiff]
 ·simp only [efs,q37,reduceIte,Nat.reduceEqDiff]
 ·simp only [efs,reduceIte,Nat.reduceEqDiff];rfl
theorem yDJ (N:Nat) (cx:Ctx) {no:Nat→Prop} {H:HallR} {u0 p3 i:Nat} {d:List Nat} {vW:AV} {L:Env} {t:St} {c:List AV} (ok:H.Ok) (hW:Sl no t.h t.n 2 (H.shut.map jC) vW) (g3:t.h.get p3=some (flO c)) (hp3:p3<t.n) (hc:FlAt c (H.fl H.places H.water (H.shut.take i))) (hi:i<H.shut.length) (hs:t.n+100≤far) (hm:u0≤t.m) (hmf:t.m≤far) (hup:u0≤p3)
  (q3:L.find 3=.ptr p3 0) (q36:L.find 51=vW) (q37:L.find 52=.int .i64 (H.shut.length:Int)) (q38:L.find 53=.int .i64 (i:Int)) :
  ∃ L1 t1 c1,K65l1 (call Try.prog X N) cx L d t=.done .norm L1 d t1∧t1.h.get p3=some (flO c1)∧FlAt c1 (H.fl H.places H.water (H.shut.take (i+1)))∧(∀ b,b<t.n→b≠p3→t1.h.get b=t.h.get b)∧t1.n=t.n+1∧u0≤t1.m∧t1.m≤far∧L1.find 1=L.find 1∧L1.find 2=L.find 2∧L1.find 3=.ptr p3 0∧L1.find 51=vW∧L1.find 52=.int .i64 (H.shut.length:Int)∧L1.find 53=.int .i64 ((i+1:Nat):Int):=by
 have hf:=hfar
 have hwl:=ok.sl
 have kv:=hW.okA
 have e0:decide ((i:Int)<(H.shut.length:Int))=true:=decide_eq_true (by omega)
 obtain ⟨b,p,cs,sz,⟨r1,_⟩,r2,r3,r4⟩:=Ja hW hi
 obtain ⟨⟨x0,x1⟩,y0,y1⟩:=ok.sa _ (List.getElem_mem hi)
 have htk:=yE hi
 generalize H.shut[i]=C at *
 obtain ⟨cx',cy'⟩:=C
 obtain ⟨x,rfl⟩:=Int.eq_ofNat_of_zero_le x0
 obtain ⟨y,rfl⟩:=Int.eq_ofNat_of_zero_le y0
 have sw:=ok.w1
 have sd:=ok.d1
 simp only at x0 x1 y0 y1
 have ad:∀ s,jI s .i64 (i:Int) 1=.val (.int .i64 ((i:Int)+1)) s:=fun s=>za s _ _ (by omega)
 obtain ⟨z,hz⟩:∃ z:St,z=(t.new (.cells [.int .i64 0,.int .i64 0] (tag 27))).put t.n (.cells (jC ((x:Int),(y:Int))) (tag 27)):=⟨_,rfl⟩
 have zn:z.n=t.n+1:=by rw [hz];rfl
 have zm:z.m=min t.m t.n:=by rw [hz];simp only [St.put,jF,zQ]
 have zg:∀ c,c<t.n→z.h.get c=t.h.get c:=fun c hc=>by rw [hz,zL _ _ _ _ (by omega),zH _ _ _ (by omega)]
 have z0:z.h.get t.n=some (.cells [.int .i64 (x:Int),.int .i64 (y:Int)] (tag 27)):=by rw [hz];exact zN _ _ _ _ rfl (by omega)
 have z3:=(zg p3 hp3).trans g3
 have i1:=Jl 4 18 z p3 0 y (by omega)
 have i2:=Jl 6 3 z p3 (y * 18) x (by omega)
 rw [Nat.zero_add] at i1
 have st:jM 1 z (.bool true) (.ptr p3 (y * 18+x * 3+1))=.val .undef (z.put p3 (flO (c.set (y * 18+x * 3+1) (.bool true)))):=jZ z3 (by have:=hc.len;omega) rfl rfl
 have hc1:=(hc.shut (k:=y * 6+x) (by omega)).to fun j _=>zFQ (H:=H) (by omega) j
 rw [show (y * 6+x) * 3=y * 18+x * 3 by omega,← htk] at hc1
 simp (disch:=first|omega|with_unfolding_all rfl) only [K65l1,K65r9,K65r10,Abs.W,reduceIte,Nat.reduceEqDiff,Nat.reduceAdd,Nat.reduceSub,Nat.zero_add,q3,q36,q37,q38,e0,kv,r2,r3,r4]
 rw [← hz]
 simp (disch:=first|omega|(with_unfolding_all exact rfl)|(simp only[zW,jB,jF];omega)|(refine jU ?_;simp only[jF];omega)) only [K65r11,K65r12,Abs.W,reduceIte,Nat.reduceEqDiff,Nat.reduceAdd,Nat.reduceSub,Nat.zero_add,Nat.add_zero,q3,q38,z0,i1,i2,st,ad]
 refine ⟨_,_,_,rfl,zN _ _ _ _ rfl (by omega),hc1,fun c hc hc3=>?_,?_,?_,?_,?_,?_,?_,?_,?_,?_⟩
 ·rw [zL _ _ _ _ hc3];exact zg c hc
 ·rw [jB];omega
 ·simp only [St.put,zQ];omega
 ·simp only [St.put,zQ];omega
 ·simp only [efs,reduceIte,Nat.reduceEqDiff]
 ·simp only [efs,reduceIte,Nat.reduceEqDiff]
 ·simp only [efs,q3,reduceIte,Nat.reduceEqDiff]
 ·simp only [efs,q36,reduceIte,Nat.reduceEqDiff]
 ·simp only [efs,q37,reduceIte,Nat.reduceEqDiff]
 ·simp only [efs,reduceIte,Nat.reduceEqDiff];rfl
theorem vLJ {N:Nat} {no:Nat→Prop} {H:HallR} {vW vS vB vK:AV} {s:St} (hN:5≤N) (ok:H.Ok) (hH:HallAt no s.h s.n H vW vS vB vK) (hs:s.n+30000≤far) :
  ∃ c,call Try.prog X N (.fn 65) [.agg (zP H vW vS vB vK)] s=.val (.agg c) s∧FlAt c H.spots:=by
 obtain ⟨M,rfl⟩:∃ M,N=M+3:=⟨N - 3,by omega⟩
 have hf:=hfar
 have pl:=vw ok.toSize
 obtain ⟨v,e,c,rfl,hc⟩:=WN (n:=M+2) (s:=s) (k:=3000) (args:=[.agg (zP H vW vS vB vK)]) (Q:=fun v=>∃ c,v=.agg c∧FlAt c H.spots) Try.func65 (fun u uh un um=>by
  rw [← uh,← un] at hH
  have kW:=hH.w.okA
  have kS:=hH.s.okA
  have lW:=YM hH.w
  have lS:=YM hH.s
  obtain ⟨w,hw⟩:∃ w:St,w=((u.new (.cells (zP H vW vS vB vK) (tag 30))).new (flO ZzA)).new (flO ZzA):=⟨_,rfl⟩
  have wn:w.n=u.n+3:=by rw [hw];rfl
  have wm:w.m=far:=by rw [hw];exact um
  have wg:∀ c,c<u.n→w.h.get c=u.h.get c:=fun c hc=>by rw [hw,zH _ _ _ (by simp only [zW];omega),zH _ _ _ (by simp only [zW];omega),zH _ _ _ (by omega)]
  have w0:w.h.get u.n=some (.cells (zP H vW vS vB vK) (tag 30)):=by rw [hw,zH _ _ _ (by simp only [zW];omega),zH _ _ _ (by simp only [zW];omega)];exact zM _ _ _ rfl (by omega)
  have w1:w.h.get (u.n+1)=some (flO ZzA):=by rw [hw,zH _ _ _ (by simp only [zW];omega)];exact zM _ _ _ rfl (by simp only [zW];omega)
  have w2:w.h.get (u.n+2)=some (flO ZzA):=by rw [hw];exact zM _ _ _ rfl (by simp only [zW];omega)
  have ep:=JWA (M+2) (by omega) (zP H vW vS vB vK) w (by omega)
  obtain ⟨s0,hs0⟩:∃ s0:St,s0=w.new (.cells (zP H vW vS vB vK) (tag 30)):=⟨_,rfl⟩
  have s0n:s0.n=u.n+4:=by rw [hs0];show w.n+1=_;omega
  have s0m:s0.m=far:=by rw [hs0];exact wm
  have s0g:∀ c,c<w.n→s0.h.get c=w.h.get c:=fun c hc=>by rw [hs0,zH _ _ _ (by omega)]
  have s03:s0.h.get (u.n+3)=some (.cells (zP H vW vS vB vK) (tag 30)):=by rw [hs0];exact zM _ _ _ (by omega) (by omega)
  rw [← hs0,wn] at ep
  rw [zoQ]
  simp (disch:=first|omega|with_unfolding_all rfl) only [K65,K65r0,K65r1,Abs.W,reduceIte,Nat.reduceEqDiff,Nat.reduceAdd,Nat.reduceSub]
  rw [← hw]
  simp (disch:=first|omega|with_unfolding_all rfl) only [K65r2,zW,Abs.W,reduceIte,Nat.reduceEqDiff,Nat.reduceAdd,Nat.reduceSub,w0,ep,wQ,Nat.zero_add]
  clear ep hs0 hw
  generalize hL0:Env.cons 0 _ _=L0
  have f1:L0.find 1=.ptr u.n 0:=by rw [← hL0];simp only [zK,reduceIte,Nat.reduceEqDiff]
  have f2:L0.find 2=.ptr (u.n+1) 0:=by rw [← hL0];simp only [zK,reduceIte,Nat.reduceEqDiff]
  have f3:L0.find 3=.ptr (u.n+2) 0:=by rw [← hL0];simp only [zK,reduceIte,Nat.reduceEqDiff]
  have f10:L0.find 10=.func 75 [] [.ptr (u.n+3) 0]:=by rw [← hL0];simp only [zK,reduceIte,Nat.reduceEqDiff]
  clear hL0
  have hh:=Wa (N:=M+1) (p:=u.n+3) (H0:=s0.h) (rd:=fun y=>y=u.n+3) ok.toSize s03 rfl
  obtain ⟨s',e1,⟨c1,e2,e2'⟩,e3,e4,e5,e6,e7,e8,_⟩:=vEA (P:=Try.prog) (X:=X) (M:=M) (Z:=M+2) hh (f:=.tmp 10) (ps:=[11]) (c:=⟨65,none,Try.f65.ntmps,X 65⟩) (L:=L0) (s:=s0) rfl (by rw [yJA,f10]) rfl VOJ VNJ 10 u.n 10000 (fun y=>y=u.n+2) (fun _ _=>True) (fun _ _ _ _ _=>trivial) (fun _=>trivial) (fun p h _=>∃ c,h.get (u.n+2)=some (flO c)∧FlAt c (H.fl p [] []))
   (by omega) (fun y hy=>⟨by omega,rfl⟩) (fun y hy=>by omega) (by omega) (by omega) (by omega) (by omega) ⟨_,(s0g _ (by omega)).trans w2,zEQ.to zGQ⟩ (fun p h h' n n' hb _ _ ⟨c,h1,h2⟩=>⟨c,(hb _ (by omega) (by omega)).trans h1,h2⟩)
   (fun p x rest t ht ⟨c,hp,hc⟩ hfr htn htf htm htm' _=>by
    have hxT:x ∈ H.places:=by rw [← ht];simp
    obtain ⟨k,hk,hke⟩:=List.getElem_of_mem hxT
    rw [joA] at hke
    rw [yq] at hk
    obtain ⟨x1,y1⟩:=x
    injection hke with hk1 hk2
    obtain ⟨z0,z1,z2,z3,z4,z5,z6,z7⟩:=ok.toSize
    have hx1:x1<H.wide:=by rw [← hk1];exact Nat.mod_lt _ (by omega)
    have hy1:y1<H.deep:=by rw [← hk2];exact Nat.div_lt_of_lt_mul (by rw [Nat.mul_comm];exact hk)
    have hb24:=vY ok.toSize
    have hbay:=gjA ok.toSize hx1 hy1
    have hbd:H.bayAt x1 y1=y1 / H.bz * H.cols+x1 / H.bx:=rfl
    have hm24:y1 / H.bz * H.cols≤24:=Nat.le_trans (Nat.le_add_right _ (x1 / H.bx)) (by rw [← hbd];omega)
    have a1:∀ s,JI s .i64 (y1:Int) (H.bz:Int)=.val (.int .i64 ((y1 / H.bz:Nat):Int)) s:=fun s=>wi s _ _ (by omega) (by omega)
    have a2:∀ s,yOA s .i64 ((y1 / H.bz:Nat):Int) (H.cols:Int)=.val (.int .i64 ((y1 / H.bz * H.cols:Nat):Int)) s:=fun s=>jWA s _ _ (by omega)
    have a3:∀ s,JI s .i64 (x1:Int) (H.bx:Int)=.val (.int .i64 ((x1 / H.bx:Nat):Int)) s:=fun s=>wi s _ _ (by omega) (by omega)
    have a4:∀ s,jI s .i64 ((y1 / H.bz * H.cols:Nat):Int) ((x1 / H.bx:Nat):Int)=.val (.int .i64 (H.bayAt x1 y1:Int)) s:=fun s=>by rw [za s _ _ (by omega),hbd];rfl
    obtain ⟨y,hy⟩:∃ y:St,y=(t.new (.cells [.int .i64 0,.int .i64 0] (tag 27))).put t.n (.cells [.int .i64 (x1:Int),.int .i64 (y1:Int)] (tag 27)):=⟨_,rfl⟩
    have yn:y.n=t.n+1:=by rw [hy];rfl
    have yg:∀ c,c<t.n→y.h.get c=t.h.get c:=fun c hc=>by rw [hy,zL _ _ _ _ (by omega),zH _ _ _ (by omega)]
    have yt:y.h.get t.n=some (.cells [.int .i64 (x1:Int),.int .i64 (y1:Int)] (tag 27)):=by rw [hy];exact zN _ _ _ _ rfl (by omega)
    have ym:y.m=min t.m t.n:=by rw [hy];simp only [St.put,zQ,jF]
    obtain ⟨z,hz⟩:∃ z:St,z=y.put (s0.n+1) (.loop { vy ⟨65,none,Try.f65.ntmps,X 65⟩ L0 [11] (yV Try.f65 0).1 (yV Try.f65 0).2 s0 with state:=.busy }):=⟨_,rfl⟩
    have zn:z.n=y.n:=by rw [hz];rfl
    have zg:∀ c,c≠s0.n+1→z.h.get c=y.h.get c:=fun c hc=>by rw [hz,zL _ _ _ _ hc]
    have zl:z.h.get (s0.n+1)=some (.loop { vy ⟨65,none,Try.f65.ntmps,X 65⟩ L0 [11] (yV Try.f65 0).1 (yV Try.f65 0).2 s0 with state:=.busy }):=by rw [hz];exact zN _ _ _ _ rfl (by omega)
    have zm:z.m=min y.m (s0.n+1):=by rw [hz];simp only [St.put,zQ]
    have zh:=(zg u.n (by omega)).trans ((yg u.n (by omega)).trans ((hfr u.n (by omega) (by omega)).trans ((s0g _ (by omega)).trans w0)))
    have zf:=(zg (u.n+2) (by omega)).trans ((yg (u.n+2) (by omega)).trans hp)
    have zt:=(zg t.n (by omega)).trans yt
    have ec:∀ s:St,s.n+10≤far→call Try.prog X M (.fn 91) [.agg (zP H vW vS vB vK)] s=.val (.int .i64 (H.cols:Int)) s:=fun s hs=>wfJ M (by omega) H ok.toSize vW vS vB vK s hs
    have hzn:z.n≤far:=by omega
    have hzm:z.m≤far:=by omega
    have i1:=Jl 4 18 z (u.n+2) 0 y1 (by omega)
    have i2:=Jl 6 3 z (u.n+2) (y1 * 18) x1 (by omega)
    rw [Nat.zero_add] at i1
    have st:jM 1 z (.int .i64 (H.bayAt x1 y1:Int)) (.ptr (u.n+2) (y1 * 18+x1 * 3+2))=.val .undef (z.put (u.n+2) (flO (c.set (y1 * 18+x1 * 3+2) (.int .i64 (H.bayAt x1 y1:Int))))):=jZ zf (by have:=hc.len;omega) rfl rfl
    have hc1:=(hc.bay (k:=y1 * 6+x1) (by omega) (H.bayAt x1 y1:Int)).to fun j _=>vbQ (H:=H) (by omega) j
    rw [show (y1 * 6+x1) * 3=y1 * 18+x1 * 3 by omega] at hc1
    refine ⟨(L0.set 11 (evP (x1,y1))).set 4 (.ptr t.n 0),y,(L0.set 11 (evP (x1,y1))).set 4 (.ptr t.n 0),z.put (u.n+2) (flO (c.set (y1 * 18+x1 * 3+2) (.int .i64 (H.bayAt x1 y1:Int)))),?_,yg _ (by omega),?_,⟨_,zN _ _ _ _ rfl (by omega),hc1⟩,?_,fun c hc h1 h2=>?_,by rw [jB];omega,by rw [jB];omega,?_,?_,trivial⟩
    ·rw [hy]
     simp (disch:=first|omega|with_unfolding_all rfl) only [K65a0,K65a0r0,Abs.W,reduceIte,Nat.reduceEqDiff,Nat.reduceAdd,Nat.reduceSub,wKA,Nat.reduceEqDiff]
    ·rw [← hz]
     simp (disch:=first|omega|(with_unfolding_all exact rfl)|(simp only[zW,jB,jF];omega)|(refine jU ?_;simp only[jF];omega)) only [K65b0,K65b0r0,Abs.W,reduceIte,Nat.reduceEqDiff,Nat.reduceAdd,Nat.reduceSub,Nat.reduceEqDiff,Nat.zero_add,Nat.add_zero,f1,f3,zh,zt,a1,a2,a3,a4,ec,yG _ _ _ _ _ _ _ hzn hzm,i1,i2,st]
    ·rw [zL _ _ _ _ (by omega)];exact zl
    ·rw [zL _ _ _ _ h2,zg c h1];exact yg c hc
    ·simp only [St.put,zQ];omega
    ·simp only [St.put,zQ];omega)
  rw [e1]
  have ed:s'.h.get s0.n=some .dfr:=e4
  have sg:∀ c,c<u.n→s'.h.get c=u.h.get c:=fun c hc=>(e3 c (by omega) (by omega)).trans ((s0g c (by omega)).trans (wg c hc))
  have g0:=(e3 u.n (by omega) (by omega)).trans ((s0g u.n (by omega)).trans w0)
  have g1:=(e3 (u.n+1) (by omega) (by omega)).trans ((s0g (u.n+1) (by omega)).trans w1)
  have hW':=hH.w.grow (h':=s'.h) (n':=s'.n) sg (by omega)
  have hS':=hH.s.grow (h':=s'.h) (n':=s'.n) sg (by omega)
  simp (disch:=first|omega|with_unfolding_all rfl) only [K65r3,Abs.W,reduceIte,Nat.reduceEqDiff,Nat.reduceAdd,Nat.reduceSub,f1,g0,kW,lW,Nat.zero_add]
  generalize hlp:jK _ rounds _ _ _ _ _=q1
  obtain ⟨eA,L1,s1,rfl,rfl,l1,l2,l3,⟨c2,p1,p2⟩,p3,p4,p5,p6,p7⟩:=zUJ hlp (fun i L t=>L.find 1=.ptr u.n 0∧L.find 2=.ptr (u.n+1) 0∧L.find 3=.ptr (u.n+2) 0∧L.find 36=vW∧L.find 37=.int .i64 (H.water.length:Int)∧L.find 38=.int .i64 (i:Int)∧(∃ c,t.h.get (u.n+2)=some (flO c)∧FlAt c (H.fl H.places (H.water.take i) []))∧(∀ b,b<s'.n→b≠u.n+2→t.h.get b=s'.h.get b)∧t.n=s'.n+i∧u.n≤t.m∧t.m≤far)
   (fun e L t=>e=.exit 2∧L.find 1=.ptr u.n 0∧L.find 2=.ptr (u.n+1) 0∧L.find 3=.ptr (u.n+2) 0∧(∃ c,t.h.get (u.n+2)=some (flO c)∧FlAt c (H.fl H.places H.water []))∧(∀ b,b<s'.n→b≠u.n+2→t.h.get b=s'.h.get b)∧s'.n≤t.n∧t.n≤s'.n+24∧u.n≤t.m∧t.m≤far) H.water.length (by unfold rounds;have:=ok.wl;omega)
   ⟨by simp only [efs,f1,reduceIte,Nat.reduceEqDiff],by simp only [efs,f2,reduceIte,Nat.reduceEqDiff],by simp only [efs,f3,reduceIte,Nat.reduceEqDiff],(by simp only [efs,reduceIte,Nat.reduceEqDiff]),(by simp only [efs,reduceIte,Nat.reduceEqDiff]),by simp only [efs,reduceIte,Nat.reduceEqDiff];rfl,⟨c1,e2,by simpa using e2'⟩,fun _ _ _=>rfl,rfl,by omega,by omega⟩
   (fun i L t hi ⟨q1,q2,q3,q36,q37,q38,⟨c,g,hc⟩,tg,tn,tm,tf⟩=>by
    have hwl:=ok.wl
    by_cases hlt:i<H.water.length
    ·obtain ⟨L2,t2,c2,b1,b2,b3,b4,b5,b6,b6',b7,b8,b9,b10,b11,b12⟩:=WQA (M+2) ⟨65,none,Try.f65.ntmps,X 65⟩ (d:=[s0.n]) (u0:=u.n) ok (hH.w.grow (h':=t.h) (n':=t.n) (fun c hc=>(tg c (by omega) (by omega)).trans (sg c hc)) (by omega)) g (by omega) hc hlt (by omega) tm tf (by omega) q3 q36 q37 q38
     exact .inl ⟨hlt,L2,t2,b1,b7.trans q1,b8.trans q2,b9,b10,b11,b12,⟨c2,b2,b3⟩,fun b h1 h2=>(b4 b (by omega) h2).trans (tg b h1 h2),by omega,b6,b6'⟩
    ·obtain rfl:i=H.water.length:=by omega
     have e0:decide ((H.water.length:Int)<(H.water.length:Int))=false:=by simp
     rw [List.take_length] at hc
     refine .inr ⟨.exit 2,L.set 39 (.bool false),t,by simp,?_,rfl,by simp only [efs,q1,reduceIte,Nat.reduceEqDiff],by simp only [efs,q2,reduceIte,Nat.reduceEqDiff],by simp only [efs,q3,reduceIte,Nat.reduceEqDiff],⟨c,g,hc⟩,tg,by omega,by omega,tm,tf⟩
     simp (disch:=first|omega|with_unfolding_all rfl) only [JiJ,K65r0,K65r1,K65r2,K65r3,K65r4,K65r5,K65r6,K65r7,K65r8,K65r9,K65r10,K65r11,K65r12,K65r13,K65,K65a0r0,K65a0,K65b0r0,K65b0,K65l0,Abs.W,reduceIte,Nat.reduceEqDiff,Nat.reduceAdd,Nat.reduceSub,q37,q38,e0])
  have g0':=(p3 u.n (by omega) (by omega)).trans g0
  have g1':=(p3 (u.n+1) (by omega) (by omega)).trans g1
  have sg':∀ c,c<u.n→s1.h.get c=u.h.get c:=fun c hc=>(p3 c (by omega) (by omega)).trans (sg c hc)
  simp (disch:=first|omega|with_unfolding_all rfl) only [K65r8,Abs.W,reduceIte,Nat.reduceEqDiff,Nat.reduceAdd,Nat.reduceSub,l1,g0',kS,lS,Nat.zero_add]
  generalize hlp2:jK _ rounds _ _ _ _ _=q2
  obtain ⟨eB,L2,s2,rfl,rfl,m1,m2,m3,⟨c3,r1,r2⟩,r3,r4,r5,r6,r7⟩:=zUJ hlp2 (fun i L t=>L.find 1=.ptr u.n 0∧L.find 2=.ptr (u.n+1) 0∧L.find 3=.ptr (u.n+2) 0∧L.find 51=vS∧L.find 52=.int .i64 (H.shut.length:Int)∧L.find 53=.int .i64 (i:Int)∧(∃ c,t.h.get (u.n+2)=some (flO c)∧FlAt c (H.fl H.places H.water (H.shut.take i)))∧(∀ b,b<s1.n→b≠u.n+2→t.h.get b=s1.h.get b)∧t.n=s1.n+i∧u.n≤t.m∧t.m≤far)
   (fun e L t=>e=.exit 4∧L.find 1=.ptr u.n 0∧L.find 2=.ptr (u.n+1) 0∧L.find 3=.ptr (u.n+2) 0∧(∃ c,t.h.get (u.n+2)=some (flO c)∧FlAt c H.spots)∧(∀ b,b<s1.n→b≠u.n+2→t.h.get b=s1.h.get b)∧s1.n≤t.n∧t.n≤s1.n+24∧u.n≤t.m∧t.m≤far) H.shut.length (by unfold rounds;have:=ok.sl;omega)
   ⟨by simp only [efs,l1,reduceIte,Nat.reduceEqDiff],by simp only [efs,l2,reduceIte,Nat.reduceEqDiff],by simp only [efs,l3,reduceIte,Nat.reduceEqDiff],(by simp only [efs,reduceIte,Nat.reduceEqDiff]),(by simp only [efs,reduceIte,Nat.reduceEqDiff]),by simp only [efs,reduceIte,Nat.reduceEqDiff];rfl,⟨c2,p1,by simpa using p2⟩,fun _ _ _=>rfl,rfl,by omega,by omega⟩
   (fun i L t hi ⟨q1,q2,q3,q36,q37,q38,⟨c,g,hc⟩,tg,tn,tm,tf⟩=>by
    have hwl:=ok.sl
    by_cases hlt:i<H.shut.length
    ·obtain ⟨L2,t2,c2,b1,b2,b3,b4,b5,b6,b6',b7,b8,b9,b10,b11,b12⟩:=yDJ (M+2) ⟨65,none,Try.f65.ntmps,X 65⟩ (d:=[s0.n]) (u0:=u.n) ok (hH.s.grow (h':=t.h) (n':=t.n) (fun c hc=>(tg c (by omega) (by omega)).trans (sg' c hc)) (by omega)) g (by omega) hc hlt (by omega) tm tf (by omega) q3 q36 q37 q38
     exact .inl ⟨hlt,L2,t2,b1,b7.trans q1,b8.trans q2,b9,b10,b11,b12,⟨c2,b2,b3⟩,fun b h1 h2=>(b4 b (by omega) h2).trans (tg b h1 h2),by omega,b6,b6'⟩
    ·obtain rfl:i=H.shut.length:=by omega
     have e0:decide ((H.shut.length:Int)<(H.shut.length:Int))=false:=by simp
     rw [List.take_length] at hc
     refine .inr ⟨.exit 4,L.set 54 (.bool false),t,by simp,?_,rfl,by simp only [efs,q1,reduceIte,Nat.reduceEqDiff],by simp only [efs,q2,reduceIte,Nat.reduceEqDiff],by simp only [efs,q3,reduceIte,Nat.reduceEqDiff],⟨c,g,hc⟩,tg,by omega,by omega,tm,tf⟩
     simp (disch:=first|omega|with_unfolding_all rfl) only [JiJ,K65r0,K65r1,K65r2,K65r3,K65r4,K65r5,K65r6,K65r7,K65r8,K65r9,K65r10,K65r11,K65r12,K65r13,K65,K65a0r0,K65a0,K65b0r0,K65b0,K65l1,Abs.W,reduceIte,Nat.reduceEqDiff,Nat.reduceAdd,Nat.reduceSub,q37,q38,e0])
  have g1'':=(r3 (u.n+1) (by omega) (by omega)).trans g1'
  have gd:=(r3 s0.n (by omega) (by omega)).trans ((p3 s0.n (by omega) (by omega)).trans ed)
  have ld:okA (Jx (some 72) s2 (.ptr (u.n+2) 0))=.val (.agg c3) s2:=by
   rw [vt,r1,vg,ve,yJ,← r2.len,yr];rfl
  have st:jM 72 s2 (.agg c3) (.ptr (u.n+1) 0)=.val .undef (s2.put (u.n+1) (flO c3)):=jk s2 72 _ _ _ _ g1'' r2.len rfl r2.scal
  simp (disch:=first|omega|with_unfolding_all rfl) only [K65r13,wU,VQ,YsA,wcA,wbA,JsA,zHA,jbA,yJA,efs,zK,YuA,wTA,yBA,yHA,vN,YXA,zhJ,JJA,vvA,jRJ,m2,m3,ld,st,reduceIte,Nat.reduceEqDiff,YWA,gFA]
  rw [jyA _ _ _ _ _ (by rw [zL _ _ _ _ (by omega)];exact gd),JiJ]
  have shF:yH Try.prog 105=some (some 72):=by kernel_rfl
  refine ⟨_,_,yz _ _ _ _ shF ?_,⟨fun c hc=>?_,?_,?_,?_,?_⟩,r2.plain,c3,rfl,r2⟩
  ·rw [m2,vt,wE _ _ _ (by omega),zN _ _ _ _ rfl (by omega),vg,ve,yJ,← r2.len,yr];rfl
  ·rw [wE _ _ _ (by omega),zL _ _ _ _ (by omega),r3 c (by omega) (by omega)];exact sg' c hc
  ·simp only [St.kill,jB];omega
  ·simp only [St.kill,jB];omega
  ·simp only [St.kill,St.put,zQ];omega
  ·simp only [St.kill,St.put,zQ];omega)
 exact ⟨c,e,hc⟩
end Go.Proofs.Ytoklbkgcclkejaa.walk
set_option maxRecDepth 10000
namespace Go.Abs
theorem VjA (f:FuncId) (a b:List AV):cellsOf 1 (.func f a b)=some [.func f a b]:=Eq.trans (Eq.refl _) (Eq.refl _)
theorem yvA:∀ (c z l:List AV),c.length=z.length→wP c (z++l)=some (c++l)
 | [],[],l,_=>Vz l
 | [],_::_,_,h=>by cases h
 | _::_,[],_,h=>by cases h
 | a::c,b::z,l,h=>by
  rw [List.cons_append,YQ,yvA c z l (by simpa using h)]
  rfl
end Go.Abs
namespace Go.Proofs.Ytoklbkgcclkejaa.walk
open Go.Abs Go.Proofs.Ytoklbkgcclkejaa.code
abbrev Zj (p:Nat):List AV:=[.func 66 [.ptr p 0] [],.func 67 [.ptr p 0] [],.func 68 [.ptr p 0] [],.func 69 [.ptr p 0] [],.func 70 [.ptr p 0] [],.func 71 [.ptr p 0] []]
structure SiteC (sc:List AV) (H:HallR) (vW vS vB vK:AV) (rb:Nat):Prop where
 hall:cut 0 8 sc=some (zP H vW vS vB vK)
 k:nth sc 7=vK
 b:nth sc 6=vB
 r:nth sc 80=.slice rb 0 6 6 false
 spot:∀ i,i<24→cut (8+i * 3) 3 sc=some [.bool (H.spots i).water,.bool (H.spots i).shut,.int .i64 (H.spots i).bay]
theorem siteC {H:HallR} {vW vS vB vK:AV} {c:List AV} {rb:Nat} (h:FlAt c H.spots):SiteC (zP H vW vS vB vK++(c++[.slice rb 0 6 6 false])) H vW vS vB vK rb:=by
 have e8:(zP H vW vS vB vK).length=8:=rfl
 refine ⟨by rw [yJ,← e8,YD],rfl,rfl,?_,fun i hi=>?_⟩
 ·have:=ztA (zP H vW vS vB vK) (c++[.slice rb 0 6 6 false]) 72
  rw [e8] at this
  rw [this]
  have:=ztA c [.slice rb 0 6 6 false] 0
  rw [h.len] at this
  exact this
 ·have:=Vb (zP H vW vS vB vK) (c++[.slice rb 0 6 6 false]) (i * 3) 3
  rw [e8] at this
  rw [this]
  exact wcJ (h.spot hi)
abbrev vQ (sc:List AV):AObj:=.cells sc (tag 109)
def SiteAt (h:Heap) (n p:Nat) (H:HallR) (vW vS vB vK:AV):Prop:=∃ sc rb,SiteC sc H vW vS vB vK rb∧p<n∧rb<n∧h.get p=some (vQ sc)∧h.get rb=some (.cells (Zj p) 0)
theorem SiteAt.grow {h h':Heap} {n n' p:Nat} {H:HallR} {vW vS vB vK:AV} (a:SiteAt h n p H vW vS vB vK) (hh:∀ b,b<n→h'.get b=h.get b) (hn:n≤n'):SiteAt h' n' p H vW vS vB vK:=by
 obtain ⟨sc,rb,h1,h2,h3,h4,h5⟩:=a
 exact ⟨sc,rb,h1,by omega,by omega,(hh p h2).trans h4,(hh rb h3).trans h5⟩
theorem Jp {H:HallR} (s:H.Size) {x y:Nat} (hx:x<H.wide) (hy:y<H.deep):H.spots (y * 6+x)=⟨decide (((x:Int),(y:Int)) ∈ H.water),decide (((x:Int),(y:Int)) ∈ H.shut),(H.bayAt x y:Int)⟩:=by
 have:=s.w1
 have hm:(x,y) ∈ H.places:=by rw [← WzA hx hy];exact List.getElem_mem _
 show H.fl _ _ _ _=_
 unfold HallR.fl
 have h1:(y * 6+x) % 6=x:=by omega
 have h2:(y * 6+x) / 6=y:=by omega
 rw [VlA (by omega)]
 simp only [h1,h2,if_pos hm]
theorem jgA {N:Nat} {no:Nat→Prop} {H:HallR} {vW vS vB vK:AV} {s:St} {r:ARes} (hr:call Try.prog X N (.fn 44) [.agg (zP H vW vS vB vK)] s=r) (hN:6≤N) (ok:H.Ok) (hH:HallAt no s.h s.n H vW vS vB vK) (hs:s.n+30100≤far) :
  ∃ t p,r=.val (.ptr p 0) t∧New s t 3∧s.n≤p∧SiteAt t.h t.n p H vW vS vB vK:=by
 obtain ⟨n,rfl⟩:∃ n,N=n+1:=⟨N - 1,by omega⟩
 have hf:=hfar
 obtain ⟨v,t,e,st,p,rfl,hp,hS⟩:=vm (n:=n) (args:=[.agg (zP H vW vS vB vK)]) (s:=s) (k:=3) (Q:=fun v h n=>∃ p,v=.ptr p 0∧s.n≤p∧SiteAt h n p H vW vS vB vK) Try.func44 rfl (fun u uh un um=>by
  rw [← uh,← un] at hH
  obtain ⟨w,hw⟩:∃ w:St,w=u.new (.cells (zP H vW vS vB vK) (tag 30)):=⟨_,rfl⟩
  have wn:w.n=u.n+1:=by rw [hw];rfl
  have wm:w.m=far:=by rw [hw];exact um
  have wg:∀ c,c<u.n→w.h.get c=u.h.get c:=fun c hc=>by rw [hw,zH _ _ _ (by omega)]
  have w0:w.h.get u.n=some (.cells (zP H vW vS vB vK) (tag 30)):=by rw [hw];exact zM _ _ _ rfl (by omega)
  have hwn:w.n≤far:=by omega
  have hwm:w.m≤far:=by omega
  have hHw:HallAt no (⟨w.h,w.n,far⟩:St).h (⟨w.h,w.n,far⟩:St).n H vW vS vB vK:=hH.grow wg (by show u.n≤w.n;omega)
  obtain ⟨c,ec,hc⟩:=vLJ (N:=n) (s:=⟨w.h,w.n,far⟩) (by omega) ok hHw (by show w.n+30000≤far;omega)
  have hl:=hc.len
  have hov:=yvA c ZzA [.nilslice] hl
  have okc:∀ t,okA (.val (.agg c) t)=.val (.agg c) t:=fun _=>rfl
  have hov':wP c [.bool false,.bool false,.int .i64 0,.bool false,.bool false,.int .i64 0,.bool false,.bool false,.int .i64 0,.bool false,.bool false,.int .i64 0,.bool false,.bool false,.int .i64 0,.bool false,.bool false,.int .i64 0,.bool false,.bool false,.int .i64 0,.bool false,.bool false,.int .i64 0,.bool false,.bool false,.int .i64 0,.bool false,.bool false,.int .i64 0,.bool false,.bool false,.int .i64 0,.bool false,.bool false,.int .i64 0,.bool false,.bool false,.int .i64 0,.bool false,.bool false,.int .i64 0,.bool false,.bool false,.int .i64 0,.bool false,.bool false,.int .i64 0,.bool false,.bool false,.int .i64 0,.bool false,.bool false,.int .i64 0,.bool false,.bool false,.int .i64 0,.bool false,.bool false,.int .i64 0,.bool false,.bool false,.int .i64 0,.bool false,.bool false,.int .i64 0,.bool false,.bool false,.int .i64 0,.bool false,.bool false,.int .i64 0,.nilslice]=some (c++[.nilslice]):=hov
  have hcl:(if c.length=72 then some c else none)=some c:=if_pos hl
  rw [jDQ]
  simp (disch:=first|omega|with_unfolding_all rfl) only [K44,K44r0,Abs.W,reduceIte,Nat.reduceEqDiff,Nat.reduceAdd,Nat.reduceSub]
  rw [← hw]
  simp (disch:=first|omega|(with_unfolding_all exact rfl)|(simp only[zW,jB,jF];omega)|(refine jU ?_;simp only[jF];omega)) only [yUQ,Abs.W,reduceIte,Nat.reduceEqDiff,Nat.reduceAdd,Nat.reduceSub,w0,ec,hl,hcl,hov',yG _ _ _ _ _ _ _ hwn hwm,Nat.zero_add]
  obtain ⟨S0,hS0⟩:∃ S0,S0=zP H vW vS vB vK++(c++[.nilslice]):=⟨_,rfl⟩
  obtain ⟨y,hy⟩:∃ y:St,y=w.new (vQ S0):=⟨_,rfl⟩
  have yn:y.n=w.n+1:=by rw [hy];rfl
  have ym:y.m=far:=by rw [hy];exact wm
  have yg:∀ c,c<w.n→y.h.get c=w.h.get c:=fun c hc=>by rw [hy,zH _ _ _ (by omega)]
  have y1:y.h.get w.n=some (vQ S0):=by rw [hy];exact zM _ _ _ rfl (by omega)
  have hy':w.new (AObj.cells (AV.int IntKind.i64 ↑H.wide::AV.int IntKind.i64 ↑H.deep::vW::vS::AV.int IntKind.i64 ↑H.bx::AV.int IntKind.i64 ↑H.bz::vB::vK::(c++[AV.nilslice])) (tag 109))=y:=by rw [hy,hS0];rfl
  rw [hy']
  obtain ⟨z,hz⟩:∃ z:St,z=y.new (.cells (Zj w.n) 0):=⟨_,rfl⟩
  have zn:z.n=y.n+1:=by rw [hz];rfl
  have zm:z.m=far:=by rw [hz];exact ym
  have zg:∀ c,c<y.n→z.h.get c=y.h.get c:=fun c hc=>by rw [hz,zH _ _ _ (by omega)]
  have z1:=(zg w.n (by omega)).trans y1
  have z2:z.h.get y.n=some (.cells (Zj w.n) 0):=by rw [hz];exact zM _ _ _ rfl (by omega)
  have hset:S0.set 80 (.slice y.n 0 6 6 false)=zP H vW vS vB vK++(c++[.slice y.n 0 6 6 false]):=by
   rw [hS0]
   have e8:(zP H vW vS vB vK).length=8:=rfl
   rw [List.set_append_right _ _ (by rw [e8];omega),e8,List.set_append_right _ _ (by omega),hl]
   rfl
  have st:jM 1 z (.slice y.n 0 6 6 false) (.ptr w.n 80)=.val .undef (z.put w.n (vQ (S0.set 80 (.slice y.n 0 6 6 false)))):=jZ z1 (by rw [hS0,List.length_append,List.length_append,hl];show 80<8+(72+1);omega) rfl rfl
  rw [hset] at st
  clear hy' hy hov' hov
  simp (disch:=first|omega|with_unfolding_all rfl) only [yTQ,VQ,YsA,wcA,wbA,JrA,wRJ,VQA,wQ,wKJ,gg,JT,Yr,YFA,gIA,gHA,gGA,Js,Vz,YQ,gWA,yiA,VjA,reduceIte,Nat.reduceEqDiff,Nat.reduceSub,zMJ,zvJ,jbA,yJA,YuA,wTA,efs,zK,WkA,vuJ,Nat.zero_add,zHA,yBA,wrA,yuA,wXA]
  rw [← hz]
  simp (disch:=first|omega|with_unfolding_all rfl) only [st,Abs.W,reduceIte,Nat.reduceEqDiff,Nat.reduceAdd,Nat.reduceSub,K44r3,res44]
  refine ⟨_,_,rfl,⟨fun c hc=>?_,?_,?_,?_,?_⟩,rfl,w.n,rfl,by omega,_,y.n,siteC hc,?_,?_,zN _ _ _ _ rfl (by omega),?_⟩
  ·rw [zL _ _ _ _ (by omega),zg c (by omega),yg c (by omega)];exact wg c hc
  ·simp only [jB];omega
  ·simp only [jB];omega
  ·simp only [St.put,zQ];omega
  ·simp only [St.put,zQ];omega
  ·simp only [jB];omega
  ·simp only [jB];omega
  ·rw [zL _ _ _ _ (by omega)];exact z2)
 exact ⟨t,p,hr.symm.trans e,st,hp,hS⟩
end Go.Proofs.Ytoklbkgcclkejaa.walk
