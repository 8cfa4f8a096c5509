/- Room, whole. -/
import Derived.Test.YtoklbkgcclkejaaM7
import Derived.Test.YtoklbkgcclkejaaM1
import Derived.Test.YtoklbkgcclkejaaWalkAll
set_option linter.unusedSimpArgs false
set_option linter.unusedVariables false
set_option maxHeartbeats 16000000
set_option linter.unusedVariables false
set_option maxRecDepth 10000
namespace Go.Proofs.Ytoklbkgcclkejaa.walk
open Go.Abs Go.Proofs.Ytoklbkgcclkejaa.code
abbrev gaA (c:Nat × Nat):Int × Int:=((c.1:Int),(c.2:Int))
noncomputable def HallR.some (H:HallR) (l:List PutR) (k:Nat) (p:List (Nat × Nat)):List (Int × Int):=(p.map gaA).filter (H.goodB l k)
def HallR.openN (H:HallR) (p:List (Nat × Nat)):List (Int × Int):=(p.map gaA).filter fun c=>!decide (c ∈ H.shut)
def HallR.opens (H:HallR):List (Int × Int):=H.placesI.filter fun c=>!decide (c ∈ H.shut)
theorem JvJ (H:HallR):H.openN H.places=H.opens:=rfl
theorem JtJ (H:HallR) (p:List (Nat × Nat)) (x:Nat × Nat):H.openN (p++[x])=H.openN p++if gaA x ∈ H.shut then [] else [gaA x]:=by
 unfold HallR.openN
 rw [List.map_append,List.filter_append,List.map_cons,List.filter_cons]
 by_cases h:gaA x ∈ H.shut
 ·rw [if_pos h,decide_eq_true h];rfl
 ·rw [if_neg h,decide_eq_false h];rfl
theorem JuJ (H:HallR) (p:List (Nat × Nat)):(H.openN p).length≤p.length:=by
 unfold HallR.openN
 have:=List.length_filter_le (fun c=>!decide (c ∈ H.shut)) (p.map gaA)
 rwa [List.length_map] at this
def OpenI (H:HallR) (p10 lo:Nat) (p:List (Nat × Nat)) (h:Heap) (n:Nat):Prop:=∃ v b,IsAt h n b 2 (tag 27) ((H.openN p).map jC) v∧h.get p10=some (.cells [v] (tag 25))∧lo≤b∧(b<n∨far<b)
theorem JsJ {N:Nat} {sc:List AV} {H:HallR} {vW vS vB vK:AV} {rb p:Nat} {s:St} {r:ARes} (hr:call Try.prog X N (.fn 56) [.ptr p 0] s=r) (hN:5≤N) (hS:SiteC sc H vW vS vB vK rb) (ok:H.Ok) (g:s.h.get p=some (vQ sc)) (hp:p<s.n) (hs:s.n+30000≤far) :
  ∃ w t,r=.val w t∧New s t 8000∧Sl (fun c=>s.n≤c) t.h t.n 2 (H.opens.map jC) w:=by
 obtain ⟨M,rfl⟩:∃ M,N=M+3:=⟨N - 3,by omega⟩
 have hf:=hfar
 have pl:=vw ok.toSize
 obtain ⟨w,t,e,st,hQ⟩:=WO (n:=M+2) (args:=[.ptr p 0]) (s:=s) (k:=8000) (Q:=fun w h n=>Sl (fun c=>s.n≤c) h n 2 (H.opens.map jC) w) Try.func56 rfl (fun u uh un um=>by
  rw [← uh] at g
  rw [← un] at hp hs ⊢
  have h8:=hS.hall
  obtain ⟨x1,hx1⟩:∃ x:St,x=u.new (.cells [.ptr p 0] (tag 78)):=⟨_,rfl⟩
  have x1n:x1.n=u.n+1:=by rw [hx1];rfl
  have x1m:x1.m=far:=by rw [hx1];exact um
  have xu:∀ c,c<u.n→x1.h.get c=u.h.get c:=fun c hc=>by rw [hx1,zH _ _ _ (by omega)]
  have x19:x1.h.get u.n=some (.cells [.ptr p 0] (tag 78)):=by rw [hx1];exact zM _ _ _ rfl (by omega)
  obtain ⟨x2,hx2⟩:∃ x:St,x=x1.new (.cells [.nilslice] (tag 25)):=⟨_,rfl⟩
  have x2n:x2.n=x1.n+1:=by rw [hx2];rfl
  have x2m:x2.m=x1.m:=by rw [hx2];rfl
  have x2g:∀ c,c<x1.n→x2.h.get c=x1.h.get c:=fun c hc=>by rw [hx2,zH _ _ _ (by omega)]
  have x2p:x2.h.get x1.n=some (.cells [.nilslice] (tag 25)):=by rw [hx2];exact zM _ _ _ rfl (by omega)
  have x29:=(x2g u.n (by omega)).trans x19
  have gx:=(xu p hp).trans g
  have g2:=(x2g p (by omega)).trans gx
  have ep:=JWA (M+2) (by omega) (zP H vW vS vB vK) x2 (by omega)
  obtain ⟨s0,hs0⟩:∃ s0:St,s0=x2.new (.cells (zP H vW vS vB vK) (tag 30)):=⟨_,rfl⟩
  have s0n:s0.n=x2.n+1:=by rw [hs0];rfl
  have s0m:s0.m=x1.m:=by rw [hs0];exact x2m
  have s0g:∀ c,c<x2.n→s0.h.get c=x2.h.get c:=fun c hc=>by rw [hs0,zH _ _ _ (by omega)]
  have s0h:s0.h.get x2.n=some (.cells (zP H vW vS vB vK) (tag 30)):=by rw [hs0];exact zM _ _ _ rfl (by omega)
  rw [← hs0] at ep
  have bxp:∀ sz s,vXA sz s (.ptr p 0)=.val (.ptr s.n 0) (s.new (.cells [.ptr p 0] sz)):=fun _ _=>rfl
  rw [zwQ]
  simp (disch:=first|omega|with_unfolding_all rfl) only [K56,K56r0,K56r1,Abs.W,reduceIte,Nat.reduceEqDiff,Nat.reduceAdd,Nat.reduceSub,bxp]
  rw [← hx1,← hx2]
  simp (disch:=first|omega|with_unfolding_all rfl) only [yRQ,zW,Abs.W,reduceIte,Nat.reduceEqDiff,Nat.reduceAdd,Nat.reduceSub,x29,g2,h8,ep,wQ,Nat.zero_add]
  clear ep hs0 hx2 hx1
  generalize hL0:Env.cons 0 _ _=L0
  have f1:L0.find 1=.ptr u.n 0:=by rw [← hL0];simp only [zK,reduceIte,Nat.reduceEqDiff]
  have f3:L0.find 3=.ptr x1.n 0:=by rw [← hL0];simp only [zK,reduceIte,Nat.reduceEqDiff]
  have f9:L0.find 9=.func 75 [] [.ptr x2.n 0]:=by rw [← hL0];simp only [zK,reduceIte,Nat.reduceEqDiff]
  clear hL0
  have hh:=Wa (N:=M+1) (p:=x2.n) (H0:=s0.h) (rd:=fun y=>y=x2.n) ok.toSize s0h rfl
  have xs:∀ c,c<x1.n→s0.h.get c=x1.h.get c:=fun c hc=>(s0g c (by omega)).trans (x2g c hc)
  obtain ⟨s',e1,⟨v1,b1,i1,i2,i3,i4⟩,e3,e4,e5,e6,e7,e8,_⟩:=vEA (P:=Try.prog) (X:=X) (M:=M) (Z:=M+2) hh (f:=.tmp 9) (ps:=[10]) (c:=⟨56,none,Try.f56.ntmps,X 56⟩) (L:=L0) (s:=s0) rfl (by rw [yJA,f9]) rfl VQJ VPJ 100 u.n 10000 (fun y=>y=x1.n∨s0.n+2≤y) (fun _ _=>True) (fun _ _ _ _ _=>trivial) (fun _=>trivial) (OpenI H x1.n (s0.n+2))
   (by omega) (fun y hy=>⟨by omega,rfl⟩) (fun y hy=>by omega) (by omega) (by omega) (by omega) (by omega) ⟨.nilslice,far+1,IsAt.nil _ _ _ _ _,(s0g _ (by omega)).trans x2p,by omega,.inr (by omega)⟩ (fun p h h' n n' hb hn0 hn ⟨v,b,h1,h2,h3,h4⟩=>⟨v,b,h1.mono (fun hbn=>hb b hbn (by omega)) hn,(hb _ (by omega) (by omega)).trans h2,h3,by omega⟩)
   (fun pp x rest t ht ⟨v1,b1,i1,i2,i3,i4⟩ hfr htn htf htm htm' _=>by
    have hxT:x ∈ H.places:=by rw [← ht];simp
    obtain ⟨kk,hkk,hke⟩:=List.getElem_of_mem hxT
    rw [joA] at hke
    rw [yq] at hkk
    have hpp:pp.length≤23:=by
     have:=congrArg List.length ht
     rw [List.length_append,List.length_cons] at this
     omega
    have hso:=JuJ H pp
    have hsp:=JtJ H pp x
    obtain ⟨xx,yy⟩:=x
    injection hke with hk1 hk2
    obtain ⟨z0,z1,z2,z3,z4,z5,z6,z7⟩:=ok.toSize
    have hxx:xx<H.wide:=by rw [← hk1];exact Nat.mod_lt _ (by omega)
    have hyy:yy<H.deep:=by rw [← hk2];exact Nat.div_lt_of_lt_mul (by rw [Nat.mul_comm];exact hkk)
    have tg:∀ c,c<x1.n→t.h.get c=x1.h.get c:=fun c hc=>(hfr c (by omega) (by omega)).trans (xs c hc)
    obtain ⟨y',hy'⟩:∃ y:St,y=(t.new (.cells [.int .i64 0,.int .i64 0] (tag 27))).put t.n (.cells [.int .i64 (xx:Int),.int .i64 (yy:Int)] (tag 27)):=⟨_,rfl⟩
    have yn':y'.n=t.n+1:=by rw [hy'];rfl
    have yg':∀ c,c<t.n→y'.h.get c=t.h.get c:=fun c hc=>by rw [hy',zL _ _ _ _ (by omega),zH _ _ _ (by omega)]
    have yt':y'.h.get t.n=some (.cells [.int .i64 (xx:Int),.int .i64 (yy:Int)] (tag 27)):=by rw [hy'];exact zN _ _ _ _ rfl (by omega)
    have ym':y'.m=min t.m t.n:=by rw [hy'];simp only [St.put,zQ,jF]
    obtain ⟨lo,hlo⟩:∃ o:AObj,o=.loop { vy ⟨56,none,Try.f56.ntmps,X 56⟩ L0 [10] (yV Try.f56 0).1 (yV Try.f56 0).2 s0 with state:=.busy }:=⟨_,rfl⟩
    obtain ⟨z,hz⟩:∃ z:St,z=y'.put (s0.n+1) lo:=⟨_,rfl⟩
    have zn:z.n=y'.n:=by rw [hz];rfl
    have zg:∀ c,c≠s0.n+1→z.h.get c=y'.h.get c:=fun c hc=>by rw [hz,zL _ _ _ _ hc]
    have zl:z.h.get (s0.n+1)=some lo:=by rw [hz];exact zN _ _ _ _ rfl (by omega)
    have zm:z.m=min y'.m (s0.n+1):=by rw [hz];simp only [St.put,zQ]
    have zx:∀ c,c<x1.n→z.h.get c=x1.h.get c:=fun c hc=>(zg c (by omega)).trans ((yg' c (by omega)).trans (tg c hc))
    have zt:=(zg t.n (by omega)).trans yt'
    have zp:=(zg x1.n (by omega)).trans ((yg' x1.n (by omega)).trans i2)
    have z1':=(zx u.n (by omega)).trans x19
    have zs:=(zx p (by omega)).trans gx
    have zi:IsAt z.h z.n b1 2 (tag 27) ((H.openN pp).map jC) v1:=i1.mono (fun hb=>(zg b1 (by omega)).trans (yg' b1 hb)) (by omega)
    have kv1:=zi.okA
    have hcs:=WL (i:=1) (hS.spot (yy * 6+xx) (by omega)) (by omega)
    rw [Jp ok.toSize hxx hyy,show 8+(yy * 6+xx) * 3+1=8+yy * 18+xx * 3+1 by omega] at hcs
    have hcs':nth sc (8+yy * 18+xx * 3+1)=.bool (decide (((xx:Int),(yy:Int)) ∈ H.shut)):=hcs
    have j1:=fun s=>Jl 4 18 s p 8 yy (by omega)
    have j2:=fun s=>Jl 6 3 s p (8+yy * 18) xx (by omega)
    have hka:WBJ (call Try.prog X M) ⟨56,some (s0.n+1),Try.f56.ntmps,X 56⟩ (vE L0 [10] [evP (xx,yy)]) [] t=.done .norm ((L0.set 10 (evP (xx,yy))).set 4 (.ptr t.n 0)) [] y':=by
     rw [hy']
     simp (disch:=first|omega|with_unfolding_all rfl) only [WBJ,K56a0r0,Abs.W,reduceIte,Nat.reduceEqDiff,Nat.reduceAdd,Nat.reduceSub,wKA,Nat.reduceEqDiff]
    by_cases hng:gaA (xx,yy) ∈ H.shut
    ·have hng':decide (((xx:Int),(yy:Int)) ∈ H.shut)=true:=decide_eq_true hng
     rw [if_pos hng,List.append_nil] at hsp
     rw [hng'] at hcs'
     refine ⟨_,y',((L0.set 10 (evP (xx,yy))).set 4 (.ptr t.n 0)).set 22 (.bool false),z,hka,yg' _ (by omega),?_,⟨v1,b1,by rw [hsp];exact zi,zp,i3,by omega⟩,by rw [← hlo];exact zl,fun c hc h1 h2=>(zg c h1).trans (yg' c hc),by omega,by omega,by omega,by omega,trivial⟩
     rw [← hlo,← hz]
     simp (disch:=first|omega|with_unfolding_all rfl) only [WAJ,K56b0r0,Abs.W,reduceIte,Nat.reduceEqDiff,Nat.reduceAdd,Nat.reduceSub,Nat.reduceEqDiff,Nat.zero_add,Nat.add_zero,f1,z1',zt,zs,j1,j2,hcs']
    ·have hng':decide (((xx:Int),(yy:Int)) ∈ H.shut)=false:=decide_eq_false hng
     rw [if_neg hng] at hsp
     rw [hng'] at hcs'
     obtain ⟨Y,hY⟩:∃ Y:St,Y=z.new (.cells [.int .i64 (xx:Int),.int .i64 (yy:Int)] 0):=⟨_,rfl⟩
     have Yn:Y.n=z.n+1:=by rw [hY];rfl
     have Ym:Y.m=z.m:=by rw [hY];rfl
     have Yg:∀ c,c<z.n→Y.h.get c=z.h.get c:=fun c hc=>by rw [hY,zH _ _ _ (by omega)]
     have Yt:Y.h.get z.n=some (.cells [.int .i64 (xx:Int),.int .i64 (yy:Int)] 0):=by rw [hY];exact zM _ _ _ rfl (by omega)
     obtain ⟨s7,e7,l7,s7n,s7g,s7m,s7l⟩:=vI (bytes:=16) (zi.mono (h':=Y.h) (n':=Y.n) (fun h=>Yg b1 h) (by omega)) Yt rfl rfl (by rw [List.length_map];omega) (by kernel_rfl) (by omega)
     rw [List.length_map] at e7 l7
     obtain ⟨v7,hv7⟩:∃ v7,v7=AV.slice Y.n 0 ((H.openN pp).length+1) ((H.openN pp).length+1) true:=⟨_,rfl⟩
     rw [← hv7] at e7 l7
     have okv7:∀ t,okA (.val v7 t)=.val v7 t:=fun t=>by rw [hv7];rfl
     have s7p:=(s7g x1.n (by omega) (by omega)).trans ((Yg x1.n (by omega)).trans zp)
     have s7u:u.n≤s7.m:=s7m u.n (by omega) (by omega) (by omega)
     have st7:jM 1 s7 v7 (.ptr x1.n 0)=.val .undef (s7.put x1.n (.cells [v7] (tag 25))):=jZ s7p (by show 0<1;omega) (by rw [hv7];rfl) (by rw [hv7];rfl)
     have hl7:(H.openN pp).map jC++[[AV.int .i64 (xx:Int),.int .i64 (yy:Int)]]=(H.openN (pp++[(xx,yy)])).map jC:=by rw [hsp,List.map_append];rfl
     rw [hl7] at l7
     refine ⟨_,y',((L0.set 10 (evP (xx,yy))).set 4 (.ptr t.n 0)).set 22 (.bool true),s7.put x1.n (.cells [v7] (tag 25)),hka,yg' _ (by omega),?_,⟨v7,Y.n,l7.mono (fun _=>zL _ _ _ _ (by omega)) (Nat.le_refl _),zN _ _ _ _ rfl (by omega),by omega,.inl (by rw [jB];omega)⟩,?_,fun c hc h1 h2=>?_,by rw [jB];omega,by rw [jB];omega,?_,?_,trivial⟩
     ·rw [← hlo,← hz]
      simp (disch:=first|omega|with_unfolding_all rfl) only [WAJ,K56b0r0,K56b0r1,Abs.W,reduceIte,Nat.reduceEqDiff,Nat.reduceAdd,Nat.reduceSub,Nat.reduceEqDiff,Nat.zero_add,Nat.add_zero,f1,f3,z1',zt,zs,j1,j2,hcs',zp,kv1]
      rw [← hY]
      simp (disch:=first|omega|with_unfolding_all rfl) only [Abs.W,reduceIte,Nat.reduceEqDiff,Nat.reduceAdd,Nat.reduceSub,e7,st7,okv7,f3,Nat.reduceEqDiff]
     ·rw [← hlo,zL _ _ _ _ (by omega),s7g _ (by omega) (by omega),Yg _ (by omega)];exact zl
     ·rw [zL _ _ _ _ (by omega),s7g c (by omega) (by omega),Yg c (by omega),zg c h1];exact yg' c hc
     ·simp only [St.put,zQ];omega
     ·simp only [St.put,zQ];omega)
  rw [e1]
  have kv1:=i1.okA
  have su:∀ c,c<u.n→s'.h.get c=u.h.get c:=fun c hc=>(e3 c (by omega) (by omega)).trans ((xs c (by omega)).trans (xu c hc))
  simp (disch:=first|omega|with_unfolding_all rfl) only [yQQ,Abs.W,reduceIte,Nat.reduceEqDiff,Nat.reduceAdd,Nat.reduceSub,f3,i2,kv1,Nat.zero_add]
  rw [jyA _ _ _ _ _ e4,res56]
  simp (disch:=first|omega|with_unfolding_all rfl) only [Abs.W,reduceIte,Nat.reduceEqDiff,Nat.reduceAdd,Nat.reduceSub,kv1]
  have ik:IsAt (s'.kill s0.n).h (s'.kill s0.n).n b1 2 (tag 27) (H.opens.map jC) v1:=by
   rw [← JvJ];exact i1.mono (fun _=>wE _ _ _ (by omega)) (Nat.le_refl _)
  refine ⟨_,_,rfl,⟨fun c hc=>?_,?_,?_,?_,?_⟩,Sl.of_at ik fun _=>by omega,fun hpl=>?_⟩
  ·rw [wE _ _ _ (by omega)];exact su c hc
  ·simp only [St.kill];omega
  ·simp only [St.kill];omega
  ·simp only [St.kill,zQ];omega
  ·simp only [St.kill,zQ];omega
  ·rcases ik.is with ⟨q1,q2⟩ | ⟨_,_,q3,_⟩
   ·have hrm:H.opens=[]:=List.map_eq_nil_iff.mp q1
    rw [hrm,q2];exact Sl.nil _ _ _ _
   ·rw [q3] at hpl;cases hpl)
 exact ⟨w,t,hr.symm.trans e,st,hQ⟩
end Go.Proofs.Ytoklbkgcclkejaa.walk
set_option maxRecDepth 10000
namespace Go.Abs
structure TakesL {α:Type} (P:Program) (X:FuncId→List Nat) (N l k0 w rm:Nat) (own:Nat→Prop) (ev:α→List AV) (T:List α) (μ:List α→Nat→Prop) (J:List α→Heap→Nat→Prop):Prop where
 mono:∀ p m m',m'≤m→μ p m→μ p m'
 nil:∀ m,μ [] m
 few:k0≤1000000000
 keep:∀ p h h' n n',(∀ b,b<n→h'.get b=h.get b)→n≤n'→J p h n→J p h' n'
 take:∀ p x rest (s:St),p++x::rest=T→J p s.h s.n→l<s.n→s.n+rm≤far→w≤s.m→s.m≤far→μ p s.m→∃ s',Abs.call P X N (.yield l) (ev x) s=.val (.bool true) s'∧J (p++[x]) s'.h s'.n ∧
  (∀ y,y<s.n→y≠l→¬ own y→s'.h.get y=s.h.get y)∧s.n≤s'.n∧s'.n≤s.n+k0∧w≤s'.m∧s'.m≤s.m∧s'.m≤l∧μ (p++[x]) s'.m
def WSJ {α:Type} (P:Program) (X:FuncId→List Nat) (N Z cb:Nat) (H:Heap) (rd:Nat→Prop) (g:FuncId) (cap:List AV) (ev:α→List AV) (T:List α):Prop :=
 ∀ (l k0 w rm:Nat) (own:Nat→Prop) (μ:List α→Nat→Prop) (J:List α→Heap→Nat→Prop) (s:St),TakesL P X N l k0 w rm own ev T μ J→(∀ y,own y→¬ rd y)→¬ rd l→(∀ y,rd y→y<s.n∧s.h.get y=H.get y)→l<s.n→w≤l→s.n+60 * (k0+cb)+rm+1000≤far→J [] s.h s.n→w≤s.m→s.m≤far →
  ∃ s',Abs.call P X Z (.fn g) (.yield l::cap) s=.val (.tup []) s'∧J T s'.h s'.n∧(∀ y,y<s.n→y≠l→¬ own y→s'.h.get y=s.h.get y)∧s.n≤s'.n∧s'.n≤s.n+60 * (k0+cb)∧w≤s'.m∧s'.m≤s.m∧μ T s'.m
theorem VUA {α:Type} {P:Program} {X:FuncId→List Nat} {M Z cb:Nat} {H:Heap} {rd:Nat→Prop} {g:FuncId} {cap:List AV} {ev:α→List AV} {T:List α} (hh:WSJ P X (M+1) Z cb H rd g cap ev T) {f:Arg} {ps:List Tmp} {a b:Code} {ka kb:K} {c:Ctx} {L:Env} {s:St} (hc:c.rnd=none) (hf:f.ev L=.func g [] cap) (hps:∀ x,ps.length=(ev x).length) (ha:jh P c.xs c.nt a=some ka) (hb:jh P c.xs c.nt b=some kb)
  (k0 w rm:Nat) (own:Nat→Prop) (μ:List α→Nat→Prop) (μm:∀ p m m',m'≤m→μ p m→μ p m') (μ0:∀ m,μ [] m) (I:List α→Heap→Nat→Prop) (hk0:k0≤1000000000) (hH:∀ y,rd y→y<s.n∧s.h.get y=H.get y) (ho:∀ y,own y→¬ rd y∧y≠s.n∧y≠s.n+1) (hw:w≤s.n) (hwm:w≤s.m) (hm:s.m≤far) (hs:s.n+60 * (k0+cb)+rm+10000≤far)
  (hI0:I [] s.h s.n) (keep:∀ p h h' n n',(∀ y,y<n→y≠s.n+1→h'.get y=h.get y)→s.n≤n→n≤n'→I p h n→I p h' n')
  (round:∀ p x rest (t:St),p++x::rest=T→I p t.h t.n→(∀ y,y<s.n→¬ own y→t.h.get y=s.h.get y)→s.n+2≤t.n→t.n+rm≤far→w≤t.m→t.m≤far→μ p t.m→∃ L1 t1 L2 t2,ka (Abs.call P X M) ⟨c.fn,some (s.n+1),c.nt,c.xs⟩ (vE L ps (ev x)) [] t=.done .norm L1 [] t1∧t1.h.get (s.n+1)=t.h.get (s.n+1)∧kb (Abs.call P X M) ⟨c.fn,some (s.n+1),c.nt,c.xs⟩ L1 [] (t1.put (s.n+1) (.loop { vy c L ps a b s with state:=.busy }))=.done .norm L2 [] t2∧I (p++[x]) t2.h t2.n∧t2.h.get (s.n+1)=some (.loop { vy c L ps a b s with state:=.busy })∧(∀ y,y<t.n→y≠s.n+1→¬ own y→t2.h.get y=t.h.get y)∧t.n≤t2.n∧t2.n≤t.n+k0∧w≤t2.m∧t2.m≤t.m∧μ (p++[x]) t2.m) :
  ∃ s',wx f ps a b (Abs.call P X Z) c L [] s=.done .norm L [s.n] s'∧I T s'.h s'.n∧(∀ y,y<s.n→¬ own y→s'.h.get y=s.h.get y)∧s'.h.get s.n=some .dfr∧s.n+2≤s'.n∧s'.n≤s.n+2+60 * (k0+cb)∧w≤s'.m∧s'.m≤s.m∧μ T s'.m:=by
 have hff:far=1000000000:=rfl
 obtain ⟨S0,hS0⟩:∃ S0:St,S0=(s.new .dfr).new (.loop (vy c L ps a b s)):=⟨_,rfl⟩
 have n0:S0.n=s.n+2:=by rw [hS0];rfl
 have m0:S0.m=s.m:=by rw [hS0];rfl
 have g0:∀ y,y<s.n→S0.h.get y=s.h.get y:=fun y hy=>by rw [hS0,zH _ _ _ (by rw [zW];omega),zH _ _ _ (by omega)]
 have gd:S0.h.get s.n=some .dfr:=by rw [hS0,zH _ _ _ (by rw [zW];omega)];exact zM _ _ _ rfl (by omega)
 have gl:S0.h.get (s.n+1)=some (.loop (vy c L ps a b s)):=by rw [hS0];exact zM _ _ _ rfl (by rw [zW];omega)
 obtain ⟨s2,e2,⟨j1,j2,j3,j4,j5⟩,k2,k3,k4,k5,k6,k7⟩:=hh (s.n+1) k0 w rm own μ (fun p h n=>h.get (s.n+1)=some (.loop (vy c L ps a b s))∧I p h n∧(∀ y,y<s.n→¬ own y→h.get y=s.h.get y)∧h.get s.n=some .dfr∧s.n+1<n) S0
  ⟨μm,μ0,hk0,fun p h h' n n' hb hn ⟨j1,j2,j3,j4,j5⟩=>⟨(hb _ (by omega)).trans j1,keep p h h' n n' (fun y hy _=>hb y hy) (by omega) hn j2,fun y hy ho'=>(hb y (by omega)).trans (j3 y hy ho'),(hb _ (by omega)).trans j4,by omega⟩,fun p x rest t ht ⟨j1,j2,j3,j4,j5⟩ hl hfar hwt hmt hμ=>by
   obtain ⟨L1,t1,L2,t2,r1,r2,r3,r4,r5,r6,r7,r8,r9,r10,r11⟩:=round p x rest t ht j2 j3 (by omega) (by omega) hwt hmt hμ
   have hcr:=gbA (P:=P) (X:=X) (n:=M) (l:=s.n+1) (args:=ev x) (r:=vy c L ps a b s) (r1:=vy c L ps a b s) j1 (hps x).symm ha hb r1 (r2.trans j1) rfl r3 r5
   rw [YAA,JtA] at hcr
   refine ⟨_,hcr,⟨zN _ _ _ _ rfl (by omega),keep (p++[x]) t2.h _ t2.n _ (fun y _ hy=>zL _ _ _ _ hy) (by omega) (Nat.le_refl _) r4,fun y hy ho'=>?_,?_,by rw [jB];omega⟩,fun y hy hyl hyo=>?_,by rw [jB];omega,by rw [jB];omega,?_,?_,?_,?_⟩
   ·rw [zL _ _ _ _ (by omega),r6 y (by omega) (by omega) ho'];exact j3 y hy ho'
   ·rw [zL _ _ _ _ (by omega),r6 s.n (by omega) (by omega) (fun h=>(ho _ h).2.1 rfl)];exact j4
   ·rw [zL _ _ _ _ hyl];exact r6 y hy hyl hyo
   ·simp only [St.put,zQ];omega
   ·simp only [St.put,zQ];omega
   ·simp only [St.put,zQ];omega
   ·exact μm _ _ _ (by simp only [St.put,zQ];omega) r11⟩
  (fun y hy=>(ho y hy).1) (fun h=>by have:=(hH _ h).1;omega) (fun y hy=>⟨by have:=(hH y hy).1;omega,(g0 y (hH y hy).1).trans (hH y hy).2⟩) (by omega) (by omega) (by omega) ⟨gl,keep [] s.h S0.h s.n S0.n (fun y hy _=>g0 y hy) (Nat.le_refl _) (by omega) hI0,fun y hy _=>g0 y hy,gd,by omega⟩ (by omega) (by omega)
 have hr:=ziA (f:=f) (ps:=ps) (a:=a) (b:=b) (cl:=Abs.call P X Z) (c:=c) (L:=L) (s:=s) (s2:=s2) (v:=.tup []) (r:=vy c L ps a b s) hc (by rw [hf,zQA];rw [hS0] at e2;exact e2) j1 rfl rfl
 refine ⟨_,hr,keep T s2.h _ s2.n _ (fun y _ hy=>zL _ _ _ _ hy) (by omega) (Nat.le_refl _) j2,fun y hy ho'=>?_,?_,by rw [jB];omega,by rw [jB];omega,?_,?_,μm _ _ _ (by simp only [St.put,zQ];omega) k7⟩
 ·rw [zL _ _ _ _ (by omega)];exact j3 y hy ho'
 ·rw [zL _ _ _ _ (by omega)];exact j4
 ·simp only [St.put,zQ];omega
 ·simp only [St.put,zQ];omega
end Go.Abs
set_option maxRecDepth 10000
namespace Go.Proofs.Ytoklbkgcclkejaa.walk
open Go.Abs Go.Proofs.Ytoklbkgcclkejaa.code
theorem jXJ (N:Nat) (hN:1≤N) (v:AV) (s:St) (bx:∀ sz s,vXA sz s v=.val (.ptr s.n 0) (s.new (.cells [v] sz))) (hs:s.n+100≤far):call Try.prog X N (.fn 97) [v] s=.val (.func 103 [] [.ptr s.n 0]) (s.new (.cells [v] (tag 25))):=by
 obtain ⟨n,rfl⟩:∃ n,N=n+1:=⟨N - 1,by omega⟩
 have hf:=hfar
 obtain ⟨w,t,e,st,hv,hh⟩:=vm (n:=n) (args:=[v]) (s:=s) (k:=1) (Q:=fun w h n=>w=.func 103 [] [.ptr s.n 0]∧h=(s.new (.cells [v] (tag 25))).h∧n=s.n+1) Try.func97 rfl (fun u uh un um=>by
  rw [zKQ]
  simp (disch:=first|omega|with_unfolding_all rfl) only [K97,K97r0,K97r1,res97,Abs.W,reduceIte,Nat.reduceEqDiff,Nat.reduceAdd,Nat.reduceSub,bx,VQA,wQ]
  refine ⟨_,_,rfl,(Beside.refl u (by omega) um).new _,rfl,by rw [un],?_,?_⟩
  ·show (u.new _).h=(s.new _).h
   unfold St.new
   simp only [uh,un]
  ·show u.n+1=_
   omega)
 rw [e,hv]
 congr 1
 exact St.ext3 hh.1 hh.2 st.m
abbrev evB (O:List (Int × Int)) (i:Nat):List AV:=[.int .i64 (i:Int),.agg (jC (O.getD i (0,0)))]
abbrev vT (n:Nat):List Nat:=(List.range n).reverse
theorem Vg (n:Nat):(vT n).length=n:=by simp [vT]
theorem wkJ {n i:Nat} (h:i<(vT n).length):(vT n)[i]=n - 1 - i:=by simp [vT]
theorem vgJ {n i:Nat} (h:i<n):(vT n).take (i+1)=(vT n).take i++[n - 1 - i]∧(vT n).take i++(n - 1 - i)::(vT n).drop (i+1)=vT n:=by
 have hl:i<(vT n).length:=by rw [Vg];exact h
 have e:=wkJ hl
 refine ⟨by rw [yE hl,e],?_⟩
 conv=>rhs;rw [← List.take_append_drop i (vT n),List.drop_eq_getElem_cons hl,e]
theorem jYJ {N p:Nat} {rd:Nat→Prop} {v:AV} {O:List (Int × Int)} {H0:Heap} (gp:H0.get p=some (.cells [v] (tag 25))) (hp:rd p) (kv:∀ t,okA (.val v t)=.val v t) (lv:∀ s,zq s v=.val (.int .i64 (O.length:Int)) s) (hget:∀ i (hi:i<O.length),∃ b o c sz,rd b∧(∀ s,jX 2 s v (.int .i64 (i:Int))=.val (.ptr b o) s)∧H0.get b=some (.cells c sz)∧cut o 2 c=some (jC O[i])) (h24:O.length≤24) :
  WSJ Try.prog X N (N+1) 10 H0 rd 103 [.ptr p 0] (evB O) (vT O.length):=by
 intro l k0 w rm own μ J s hT ho hrl hH hl hw hs hJ hwm hm
 have hf:=hfar
 have kf:=hT.few
 have hbl:=Vg O.length
 have hkm:∀ i,i≤24→k0 * i≤k0 * 24:=fun i hi=>Nat.mul_le_mul_left _ hi
 obtain ⟨v',t,mm,e,⟨rfl,a1,a2,a3,a4,a5,a6,a7,a8⟩,hm'⟩:=gcA (n:=N) (args:=[.yield l,.ptr p 0]) (s:=s) (Q:=fun v h n m'=>v=.tup []∧J (vT O.length) h n∧(∀ y,y<s.n→y≠l→¬ own y→h.get y=s.h.get y)∧s.n≤n∧n≤s.n+k0 * 24∧w≤m'∧m'≤far∧(O.length=0∨m'≤l)∧μ (vT O.length) m') Try.func103 rfl (fun u uh un um=>by
  have gpu:u.h.get p=some (.cells [v] (tag 25)):=by rw [uh,(hH p hp).2];exact gp
  have aS:∀ s,yK s .i64 (O.length:Int) 1=.val (.int .i64 ((O.length:Int) - 1)) s:=fun s=>je s _ _ (by omega)
  rw [YyJ]
  simp (disch:=first|omega|with_unfolding_all rfl) only [K103,K103r0,Abs.W,reduceIte,Nat.reduceEqDiff,Nat.reduceAdd,Nat.reduceSub,gpu,kv,lv,aS,Nat.zero_add]
  generalize hlp:jK _ rounds _ _ _ _ _=rl
  have h0:Bedd u u l w (k0 * 0) own:=⟨fun _ _ _ _=>rfl,Nat.le_refl _,by omega,by omega,by omega⟩
  have hJ0:J ((vT O.length).take 0) u.h u.n:=by rw [uh,un];exact hJ
  obtain ⟨e,L1,s1,rfl,rfl,hD,hJ1,hz⟩:=jO hlp (fun i L' t'=>L'.find 0=.yield l∧L'.find 1=.ptr p 0∧L'.find 3=.int .i64 ((O.length:Int) - 1 - (i:Int))∧Bedd u t' l w (k0 * i) own∧J ((vT O.length).take i) t'.h t'.n∧((i=0∨t'.m≤l)∧μ ((vT O.length).take i) t'.m))
   (fun e L1 t'=>e=.exit 0∧Bedd u t' l w (k0 * 24) own∧J (vT O.length) t'.h t'.n∧((O.length=0∨t'.m≤l)∧μ (vT O.length) t'.m)) O.length (by unfold rounds;omega)
   ⟨(by simp only [zK,efs,reduceIte,Nat.reduceEqDiff]),(by simp only [zK,efs,reduceIte,Nat.reduceEqDiff]),(by simp only [zK,efs,reduceIte,Nat.reduceEqDiff];congr 1;omega),h0,hJ0,.inl rfl,hT.nil _⟩
   (fun i L' t' hi ⟨q0,q1,q3,hD,hJi,hz⟩=>by
    have hki:=hkm i (by omega)
    by_cases hlt:i<O.length
    ·obtain ⟨j,hj⟩:∃ j:Nat,j=O.length - 1 - i:=⟨_,rfl⟩
     have hjl:j<O.length:=by omega
     rw [show (O.length:Int) - 1 - (i:Int)=(j:Int) by omega] at q3
     obtain ⟨hsn,hsp⟩:=vgJ hlt
     rw [← hj] at hsn hsp
     obtain ⟨b,o,c,sz,hrb,g1,g2,g3⟩:=hget j hjl
     have hms:k0 * (i+1)=k0 * i+k0:=Nat.mul_succ _ _
     have hki2:=hkm (i+1) (by omega)
     have sm:∀ y,rd y→t'.h.get y=H0.get y:=fun y hy=>by
      have h1:=hH y hy
      rw [hD.same y (by omega) (fun e=>hrl (e▸hy)) (fun h=>ho y h hy),uh];exact h1.2
     have gpt:=(sm p hp).trans gp
     have gbt:=(sm b hrb).trans g2
     have e0:decide ((j:Int)<0)=false:=decide_eq_false (by omega)
     have e0':decide (0≤(j:Int))=true:=decide_eq_true (by omega)
     have aj:∀ s,yK s .i64 (j:Int) 1=.val (.int .i64 ((O.length:Int) - 1 - ((i+1:Nat):Int))) s:=fun s=>by rw [je s _ _ (by omega)];congr 2;omega
     have hdn:=hD.n
     have hdl:=hD.le
     have hdm:=hD.m
     have hdf:=hD.mle
     obtain ⟨s2,e2,k1,k3,k4,k5,k6,k7,k8,k9⟩:=hT.take _ _ _ t' hsp hJi (by omega) (by omega) (by omega) (by omega) hz.2
     have e2':call Try.prog X N (.yield l) [.int .i64 (j:Int),.agg (jC O[j])] t'=.val (.bool true) s2:=by
      have hgd:O.getD j (0,0)=O[j]:=by rw [List.getD_eq_getElem?_getD,List.getElem?_eq_getElem hjl];rfl
      rw [← hgd];exact e2
     have okc:∀ t,okA (.val (.agg (jC O[j])) t)=.val (.agg (jC O[j])) t:=fun _=>rfl
     refine .inl ⟨hlt,?_⟩
     simp (disch:=first|omega|with_unfolding_all rfl) only [voJ,K103r1,K103r2,K103r3,Abs.W,reduceIte,Nat.reduceEqDiff,Nat.reduceAdd,Nat.reduceSub,Nat.zero_add,q0,q1,q3,e0,e0',gpt,kv,g1,gbt,g3,okc,e2',aj]
     rw [hsn]
     refine ⟨_,_,rfl,?_,?_,?_,⟨fun y hy h1 h2=>(k3 y (by omega) h1 h2).trans (hD.same y hy h1 h2),by omega,by omega,by omega,by omega⟩,k1,.inr k8,k9⟩
     ·simp only [efs,q0,reduceIte,Nat.reduceEqDiff]
     ·simp only [efs,q1,reduceIte,Nat.reduceEqDiff]
     ·simp only [efs,reduceIte,Nat.reduceEqDiff]
    ·obtain rfl:i=O.length:=by omega
     rw [show (O.length:Int) - 1 - (O.length:Int) = -1 by omega] at q3
     have e0:decide ((-1:Int)<0)=true:=rfl
     have e0':decide (0≤(-1:Int))=false:=rfl
     have hpl:(vT O.length).take O.length=vT O.length:=List.take_of_length_le (by rw [hbl];exact Nat.le_refl _)
     rw [hpl] at hJi hz
     refine .inr ⟨.exit 0,L'.set 8 (.bool false),t',by simp,?_,rfl,⟨hD.same,hD.n,by have:=hD.le;omega,hD.m,hD.mle⟩,hJi,hz⟩
     simp (disch:=first|omega|with_unfolding_all rfl) only [voJ,K103r1,Abs.W,reduceIte,Nat.reduceEqDiff,Nat.reduceAdd,Nat.reduceSub,q3,e0,e0'])
  obtain ⟨d1',d2,d3,d4,d5⟩:=hD
  simp (disch:=first|omega|with_unfolding_all rfl) only [vDQ,Abs.W,reduceIte,Nat.reduceEqDiff,Nat.reduceAdd,Nat.reduceSub,WF]
  refine ⟨_,_,rfl,⟨rfl,hJ1,fun y hy h1 h2=>by rw [d1' y (by omega) h1 h2,uh],by omega,by omega,d4,d5,hz.1,hz.2⟩,fun _ hle=>?_⟩
  rcases hz.1 with h | h
  ·have hb0:vT O.length=[]:=List.length_eq_zero_iff.mp (by rw [hbl,h])
   exact ⟨by first | rfl | trivial,by rw [hb0];exact hJ,by intros;first | rfl | trivial,Nat.le_refl _,by omega,d4,d5,.inl h,hz.2⟩
  ·omega)
 have hkk:=hkm 24 (Nat.le_refl _)
 refine ⟨t,e,a1,a2,a3,by omega,?_,?_,?_⟩
 ·rcases hm' with ⟨_,hm'⟩ | ⟨_,hm'⟩<;>omega
 ·rcases hm' with ⟨_,hm'⟩ | ⟨_,hm'⟩<;>omega
 ·rcases a7 with h | h
  ·have hb0:vT O.length=[]:=List.length_eq_zero_iff.mp (by rw [hbl,h])
   rw [hb0];exact hT.nil _
  ·exact hT.mono _ _ _ (by rcases hm' with ⟨h1,hm'⟩ | ⟨h1,hm'⟩<;>omega) a8
noncomputable def HallR.takesB (H:HallR) (l:List PutR) (P:PutR):Bool:=@decide (H.Takes l P) (Classical.propDecidable _)
theorem yZ {H:HallR} {l:List PutR} {P:PutR}:H.takesB l P=true↔H.Takes l P:=by
 unfold HallR.takesB
 exact @decide_eq_true_iff _ (Classical.propDecidable _)
def HallR.rent (H:HallR) (k:Nat):Int:=(H.kind k).rent
noncomputable def HallR.topN (H:HallR) (c:Int × Int) (n:Nat):Int × Int:=(List.range n).foldl (fun t k=>if Bt (H.rent k,1) t∧H.takesB [] (yC c k)=true then (H.rent k,1) else t) (0,0)
theorem JIA (H:HallR) (c:Int × Int) (n:Nat):H.topN c (n+1)=if Bt (H.rent n,1) (H.topN c n)∧H.takesB [] (yC c n)=true then (H.rent n,1) else H.topN c n:=by
 unfold HallR.topN
 rw [List.range_succ,List.foldl_append,List.foldl_cons,List.foldl_nil]
theorem YJ {H:HallR} (ok:H.Ok) (c:Int × Int):∀ n,n≤H.kinds.length→(0≤(H.topN c n).1∧(H.topN c n).1≤1000000)∧0≤(H.topN c n).2∧(H.topN c n).2≤1
 | 0,_=>⟨⟨Int.le_refl _,by show (0:Int)≤_;omega⟩,Int.le_refl _,by show (0:Int)≤_;omega⟩
 | n+1,hn=>by
  have h1:=YJ ok c n (by omega)
  have h2:=vP ok (show n<H.kinds.length by omega)
  have h3:=h2.r0
  have h4:=h2.r1
  rw [JIA]
  split
  ·exact ⟨⟨h3,h4⟩,by show (0:Int)≤1;omega,by show (1:Int)≤1;omega⟩
  ·exact h1
theorem vDJ (M:Nat) (hM:6≤M) (cx:Ctx) {t:St} {w0 p rb p2 p7 p8:Nat} {sc:List AV} {H:HallR} {vW vS vB vK:AV} {c:Int × Int} {L:Env} {r:R} (hS:SiteC sc H vW vS vB vK rb) (ok:H.Ok) (hH:HallAt (fun b=>b<w0) t.h t.n H vW vS vB vK) (g:t.h.get p=some (vQ sc)) (gr:t.h.get rb=some (.cells (Zj p) 0)) (hp:p<w0) (hrb:rb<w0) (g2:t.h.get p2=some (.cells [.ptr p 0] (tag 78))) (hp2:p2<t.n∧p2≠p8) (g7:t.h.get p7=some (.cells [.int .i64 c.1,.int .i64 c.2] (tag 27))) (h7:p7<t.n∧p7≠p8) (g8:t.h.get p8=some (.cells [.int .i64 0,.int .i64 0] (tag 120))) (h8:w0≤p8∧p8<t.n) (hw0:w0≤t.n) (hc:H.In c) (hs:t.n+10000≤far) (hm:t.m≤far)
  (q2:L.find 2=.ptr p2 0) (q7:L.find 7=.ptr p7 0) (q8:L.find 8=.ptr p8 0) (q24:L.find 24=vK) (q25:L.find 25=.int .i64 (H.kinds.length:Int)) (q26:L.find 26=.int .i64 0) (hr:jK WR rounds (call Try.prog X M) cx L [] t=r) :
  ∃ L1 t1,r=.done (.exit 2) L1 [] t1∧(∀ b,b<t.n→b≠p8→t1.h.get b=t.h.get b)∧t.n≤t1.n∧t1.n≤t.n+30∧(∀ k,k≤p8→k≤t.m→k≤t1.m)∧t1.m≤t.m∧t1.h.get p8=some (.cells [.int .i64 (H.topN c H.kinds.length).1,.int .i64 (H.topN c H.kinds.length).2] (tag 120))∧L1.find 2=L.find 2∧L1.find 5=L.find 5∧L1.find 6=L.find 6∧L1.find 8=L.find 8:=by
 have hf:=hfar
 have hk6:=ok.k1
 have kK:=hH.k.okA
 have w6:=ok.w1
 have w4:=ok.d1
 have u5:=eq3 yYA.eq_1
 have u6:=eq3 yXA.eq_1
 have u7:=eq3 yWA.eq_1
 have u8:=eq3 yVA.eq_1
 have u9:=eq3 yUA.eq_1
 obtain ⟨e,L1,t1,rfl,rfl,j⟩:=jO hr (fun i L' t'=>L'.find 2=.ptr p2 0∧L'.find 7=.ptr p7 0∧L'.find 8=.ptr p8 0∧L'.find 24=vK∧L'.find 25=.int .i64 (H.kinds.length:Int)∧L'.find 26=.int .i64 (i:Int)∧L'.find 5=L.find 5∧L'.find 6=L.find 6∧(∀ b,b<t.n→b≠p8→t'.h.get b=t.h.get b)∧t.n≤t'.n∧t'.n≤t.n+3 * i∧(∀ k,k≤p8→k≤t.m→k≤t'.m)∧t'.m≤t.m∧t'.h.get p8=some (.cells [.int .i64 (H.topN c i).1,.int .i64 (H.topN c i).2] (tag 120)))
  (fun e L1 t1=>e=.exit 2∧(∀ b,b<t.n→b≠p8→t1.h.get b=t.h.get b)∧t.n≤t1.n∧t1.n≤t.n+30∧(∀ k,k≤p8→k≤t.m→k≤t1.m)∧t1.m≤t.m∧t1.h.get p8=some (.cells [.int .i64 (H.topN c H.kinds.length).1,.int .i64 (H.topN c H.kinds.length).2] (tag 120))∧L1.find 2=L.find 2∧L1.find 5=L.find 5∧L1.find 6=L.find 6∧L1.find 8=L.find 8) H.kinds.length (by unfold rounds;omega)
  ⟨q2,q7,q8,q24,q25,q26,rfl,rfl,fun _ _ _=>rfl,Nat.le_refl _,by omega,fun _ _ h=>h,Nat.le_refl _,g8⟩
  (fun i L' t' hi ⟨l2,l7,l8,l24,l25,l26,l5,l6,tg,tn,tl,tm,tml,tb⟩=>by
   by_cases hlt:i<H.kinds.length
   ·have e0:decide ((i:Int)<(H.kinds.length:Int))=true:=decide_eq_true (by omega)
    have ad:∀ s,jI s .i64 (i:Int) 1=.val (.int .i64 ((i:Int)+1)) s:=fun s=>za s _ _ (by omega)
    have hbd:=YJ ok c i (by omega)
    have hsu:=JIA H c i
    generalize H.topN c i=T at *
    have hHt:HallAt (fun b=>b<w0) t'.h t'.n H vW vS vB vK:=hH.move (fun b h1 h2=>⟨tg b h1 (by omega),h2⟩) tn
    obtain ⟨aw,kb,ko,kc,ksz,⟨kb1,kbw⟩,kb2,kb3,kcut,hAw⟩:=hHt.k.get hlt
    have hki:H.kind i=H.kinds[i]:=by unfold HallR.kind;rw [List.getD_eq_getElem?_getD,List.getElem?_eq_getElem hlt];rfl
    rw [← hki] at kcut hAw
    have hkr:=vP ok hlt
    have hr0:=hkr.r0
    have hr1:=hkr.r1
    have hrent:H.rent i=(H.kind i).rent:=rfl
    generalize H.kind i=Kd at *
    have hsc:scalars (Kd.row aw)=true:=by
     show scalars [aw,.int .i64 Kd.rent,.int .i64 Kd.most]=true
     rw [hAw.scal.2.2];rfl
    have okr:∀ t,okA (.val (.agg (Kd.row aw)) t)=.val (.agg (Kd.row aw)) t:=fun _=>rfl
    have r4:nth (Kd.row aw) 4=.int .i64 Kd.rent:=rfl
    obtain ⟨A,hA⟩:∃ A:St,A=(t'.new (.cells [.int .i64 0,.int .i64 0,.bool false,.nilslice,.int .i64 0,.int .i64 0] (tag 49))).put t'.n (.cells (Kd.row aw) (tag 49)):=⟨_,rfl⟩
    have stA:jM 6 (t'.new (.cells [.int .i64 0,.int .i64 0,.bool false,.nilslice,.int .i64 0,.int .i64 0] (tag 49))) (.agg (Kd.row aw)) (.ptr t'.n 0)=.val .undef A:=by
     rw [hA];exact jk _ 6 _ _ _ _ (zM _ _ _ rfl (by omega)) rfl rfl hsc
    have An:A.n=t'.n+1:=by rw [hA];rfl
    have Am:A.m=min t'.m t'.n:=by rw [hA];simp only [St.put,zQ,jF]
    have Ag:∀ b,b<t'.n→A.h.get b=t'.h.get b:=fun b hb=>by rw [hA,zL _ _ _ _ (by omega),zH _ _ _ (by omega)]
    have A10:A.h.get t'.n=some (.cells (Kd.row aw) (tag 49)):=by rw [hA];exact zN _ _ _ _ rfl (by omega)
    clear hA
    obtain ⟨B,hB⟩:∃ B:St,B=(A.new (.cells [.int .i64 0,.int .i64 0] (tag 120))).put A.n (.cells [.int .i64 Kd.rent,.int .i64 1] (tag 120)):=⟨_,rfl⟩
    have stB:jM 2 (A.new (.cells [.int .i64 0,.int .i64 0] (tag 120))) (.agg [.int .i64 Kd.rent,.int .i64 1]) (.ptr A.n 0)=.val .undef B:=by
     rw [hB];exact jk _ 2 _ _ _ _ (zM _ _ _ rfl (by omega)) rfl rfl rfl
    have Bn:B.n=A.n+1:=by rw [hB];rfl
    have Bm:B.m=min A.m A.n:=by rw [hB];simp only [St.put,zQ,jF]
    have Bg:∀ b,b<A.n→B.h.get b=A.h.get b:=fun b hb=>by rw [hB,zL _ _ _ _ (by omega),zH _ _ _ (by omega)]
    have B11:B.h.get A.n=some (.cells [.int .i64 Kd.rent,.int .i64 1] (tag 120)):=by rw [hB];exact zN _ _ _ _ rfl (by omega)
    clear hB
    have Bt':∀ b,b<t'.n→B.h.get b=t'.h.get b:=fun b hb=>(Bg b (by omega)).trans (Ag b hb)
    have B8:=(Bt' p8 (by omega)).trans tb
    have B7:=(Bt' p7 (by omega)).trans ((tg p7 h7.1 h7.2).trans g7)
    have B2:=(Bt' p2 (by omega)).trans ((tg p2 hp2.1 hp2.2).trans g2)
    have ebt:=giA M (by omega) (Kd.rent,1) T B (by omega)
    simp only at ebt
    have okW:∀ (a b:Int) t,okA (.val (.agg [.int .i64 a,.int .i64 b]) t)=.val (.agg [.int .i64 a,.int .i64 b]) t:=fun _ _ _=>rfl
    obtain ⟨⟨c0,c1⟩,c2,c3⟩:=hc
    have hPin:(yC c i).In H:=⟨hlt,by show -100≤c.1;omega,by show c.1≤100;omega,by show -100≤c.2;omega,by show c.2≤100;omega⟩
    have hHB:HallAt (fun b=>b<w0) B.h B.n H vW vS vB vK:=hHt.move (fun b h1 h2=>⟨Bt' b h1,h2⟩) (by omega)
    obtain ⟨is,eis,his⟩:=WWA M hM hS ok hHB.b hHB.k (puts (l:=[]) (Sl.nil (fun b=>b<w0) B.h B.n 3)) (fun _ h=>by cases h) (fun _ h=>by cases h) (by simp) hPin ((Bt' p (by omega)).trans ((tg p (by omega) (by omega)).trans g)) ((Bt' rb (by omega)).trans ((tg rb (by omega) (by omega)).trans gr)) (by omega) (by omega) (by omega)
    have eis':call Try.prog X M (.fn 54) [.ptr p 0,.nilslice,.agg [.int .i64 c.1,.int .i64 c.2,.int .i64 (i:Int)]] B=.val (.bool is) B:=eis
    have hstep:H.topN c (i+1)=if Bt (Kd.rent,1) T∧is=true then (Kd.rent,1) else T:=by
     rw [hsu,hrent]
     by_cases h:H.Takes [] (yC c i)
     ·rw [yZ.mpr h,his.mpr h]
     ·have h1:H.takesB [] (yC c i)=false:=by rw [← Bool.not_eq_true,yZ];exact h
      have h2:is=false:=by rw [← Bool.not_eq_true,his];exact h
      rw [h1,h2]
    by_cases hb:Bt (Kd.rent,1) T
    ·have hbt:decide (Bt (Kd.rent,1) T)=true:=decide_eq_true hb
     rw [hbt] at ebt
     cases is with
     | true =>
      rw [if_pos ⟨hb,rfl⟩] at hstep
      have st8:jM 2 B (.agg [.int .i64 Kd.rent,.int .i64 1]) (.ptr p8 0)=.val .undef (B.put p8 (.cells [.int .i64 Kd.rent,.int .i64 1] (tag 120))):=jk _ 2 _ _ _ _ B8 rfl rfl rfl
      refine .inl ⟨hlt,?_⟩
      simp (disch:=first|omega|with_unfolding_all rfl) only [WR,K81b0r2,K81b0r3,K81b0r4,K81b0r5,u5,u6,u7,u8,u9,K81b0r6,K81b0r7,Abs.W,reduceIte,Nat.reduceEqDiff,Nat.reduceAdd,Nat.reduceSub,Nat.zero_add,l2,l7,l8,l24,l25,l26,e0,kK,kb2,kb3,kcut,okr,stA,A10,r4,stB,B11,B8,okW,ebt,B2,B7,eis',st8,ad]
      refine ⟨_,_,rfl,?_,?_,?_,?_,?_,?_,?_,?_,fun b h1 h2=>?_,?_,?_,fun k h1 h2=>?_,?_,?_⟩
      ·simp only [efs,l2,reduceIte,Nat.reduceEqDiff]
      ·simp only [efs,l7,reduceIte,Nat.reduceEqDiff]
      ·simp only [efs,l8,reduceIte,Nat.reduceEqDiff]
      ·simp only [efs,l24,reduceIte,Nat.reduceEqDiff]
      ·simp only [efs,l25,reduceIte,Nat.reduceEqDiff]
      ·simp only [efs,reduceIte,Nat.reduceEqDiff];rfl
      ·simp only [efs,l5,reduceIte,Nat.reduceEqDiff]
      ·simp only [efs,l6,reduceIte,Nat.reduceEqDiff]
      ·rw [zL _ _ _ _ h2,Bt' b (by omega)];exact tg b h1 h2
      ·rw [jB];omega
      ·rw [jB];omega
      ·have:=tm k h1 h2;simp only [St.put,zQ];omega
      ·simp only [St.put,zQ];omega
      ·rw [zN _ _ _ _ rfl (by omega),hstep]
     | false =>
      rw [if_neg (fun h=>by cases h.2)] at hstep
      refine .inl ⟨hlt,?_⟩
      simp (disch:=first|omega|with_unfolding_all rfl) only [WR,K81b0r2,K81b0r3,K81b0r4,K81b0r5,u5,u6,u7,u8,u9,K81b0r6,K81b0r7,Abs.W,reduceIte,Nat.reduceEqDiff,Nat.reduceAdd,Nat.reduceSub,Nat.zero_add,l2,l7,l8,l24,l25,l26,e0,kK,kb2,kb3,kcut,okr,stA,A10,r4,stB,B11,B8,okW,ebt,B2,B7,eis',ad]
      refine ⟨_,_,rfl,?_,?_,?_,?_,?_,?_,?_,?_,fun b h1 h2=>(Bt' b (by omega)).trans (tg b h1 h2),by omega,by omega,fun k h1 h2=>by have:=tm k h1 h2;omega,by omega,by rw [hstep];exact B8⟩
      ·simp only [efs,l2,reduceIte,Nat.reduceEqDiff]
      ·simp only [efs,l7,reduceIte,Nat.reduceEqDiff]
      ·simp only [efs,l8,reduceIte,Nat.reduceEqDiff]
      ·simp only [efs,l24,reduceIte,Nat.reduceEqDiff]
      ·simp only [efs,l25,reduceIte,Nat.reduceEqDiff]
      ·simp only [efs,reduceIte,Nat.reduceEqDiff];rfl
      ·simp only [efs,l5,reduceIte,Nat.reduceEqDiff]
      ·simp only [efs,l6,reduceIte,Nat.reduceEqDiff]
    ·have hbt:decide (Bt (Kd.rent,1) T)=false:=decide_eq_false hb
     rw [hbt] at ebt
     rw [if_neg (fun h=>hb h.1)] at hstep
     refine .inl ⟨hlt,?_⟩
     simp (disch:=first|omega|with_unfolding_all rfl) only [WR,K81b0r2,K81b0r3,K81b0r4,K81b0r5,u5,u6,u7,u8,u9,K81b0r6,K81b0r7,Abs.W,reduceIte,Nat.reduceEqDiff,Nat.reduceAdd,Nat.reduceSub,Nat.zero_add,l2,l7,l8,l24,l25,l26,e0,kK,kb2,kb3,kcut,okr,stA,A10,r4,stB,B11,B8,okW,ebt,ad]
     refine ⟨_,_,rfl,?_,?_,?_,?_,?_,?_,?_,?_,fun b h1 h2=>(Bt' b (by omega)).trans (tg b h1 h2),by omega,by omega,fun k h1 h2=>by have:=tm k h1 h2;omega,by omega,by rw [hstep];exact B8⟩
     ·simp only [efs,l2,reduceIte,Nat.reduceEqDiff]
     ·simp only [efs,l7,reduceIte,Nat.reduceEqDiff]
     ·simp only [efs,l8,reduceIte,Nat.reduceEqDiff]
     ·simp only [efs,l24,reduceIte,Nat.reduceEqDiff]
     ·simp only [efs,l25,reduceIte,Nat.reduceEqDiff]
     ·simp only [efs,reduceIte,Nat.reduceEqDiff];rfl
     ·simp only [efs,l5,reduceIte,Nat.reduceEqDiff]
     ·simp only [efs,l6,reduceIte,Nat.reduceEqDiff]
   ·obtain rfl:i=H.kinds.length:=by omega
    have e0:decide ((H.kinds.length:Int)<(H.kinds.length:Int))=false:=by simp
    refine .inr ⟨.exit 2,L'.set 27 (.bool false),t',by simp,?_,rfl,tg,tn,by omega,tm,tml,tb,?_,?_,?_,?_⟩
    ·simp (disch:=first|omega|with_unfolding_all rfl) only [WR,K81b0r2,Abs.W,reduceIte,Nat.reduceEqDiff,Nat.reduceAdd,Nat.reduceSub,l25,l26,e0]
    ·simp only [efs,l2,q2,reduceIte,Nat.reduceEqDiff]
    ·simp only [efs,l5,reduceIte,Nat.reduceEqDiff]
    ·simp only [efs,l6,reduceIte,Nat.reduceEqDiff]
    ·simp only [efs,l8,q8,reduceIte,Nat.reduceEqDiff])
 exact ⟨L1,t1,rfl,j⟩
noncomputable def HallR.hopeL (H:HallR) (O:List (Int × Int)):Int × Int:=VT H.kinds.length H.takesB H.rent O
theorem zJA (H:HallR) (c:Int × Int) (O:List (Int × Int)):H.hopeL (c::O)=wplus (H.hopeL O) (H.topN c H.kinds.length):=rfl
theorem VR {H:HallR} (ok:H.Ok):∀ O:List (Int × Int),(0≤(H.hopeL O).1∧(H.hopeL O).1≤1000000 * O.length)∧0≤(H.hopeL O).2∧(H.hopeL O).2≤O.length
 | []=>⟨⟨Int.le_refl _,by show (0:Int)≤_;simp⟩,Int.le_refl _,by show (0:Int)≤_;simp⟩
 | c::O=>by
  have h1:=VR ok O
  have h2:=YJ ok c H.kinds.length (Nat.le_refl _)
  rw [zJA]
  unfold wplus
  simp only [List.length_cons]
  omega
noncomputable def HallR.hopeRow (H:HallR) (O:List (Int × Int)) (i j:Nat):List AV:=wtR (if i≤j then H.hopeL (O.drop j) else (0,0))
noncomputable def HallR.hopeRows (H:HallR) (O:List (Int × Int)) (i:Nat):List (List AV):=(List.range (O.length+1)).map (H.hopeRow O i)
theorem ZL (H:HallR) (O:List (Int × Int)) (i:Nat):(H.hopeRows O i).length=O.length+1:=by unfold HallR.hopeRows;simp
theorem Jn (H:HallR) (O:List (Int × Int)) (i:Nat):∀ r ∈ H.hopeRows O i,r.length=2:=wRA fun _=>rfl
theorem vDA (H:HallR) (O:List (Int × Int)) (i:Nat) {j:Nat} (h:j<O.length+1):(H.hopeRows O i)[j]'(by rw [ZL];exact h)=H.hopeRow O i j:=by simp [HallR.hopeRows]
theorem VSA (H:HallR) (O:List (Int × Int)):H.hopeRows O O.length=List.replicate (O.length+1) [.int .i64 0,.int .i64 0]:=by
 rw [jnA]
 unfold HallR.hopeRows
 refine List.map_congr_left fun j hj=>?_
 have hj':=List.mem_range.mp hj
 unfold HallR.hopeRow
 by_cases h:O.length≤j
 ·rw [if_pos h,List.drop_of_length_le h];rfl
 ·rw [if_neg h]
theorem VRA (H:HallR) (O:List (Int × Int)) {i:Nat} (hi:i<O.length):(H.hopeRows O (i+1)).set i (wtR (H.hopeL (O.drop i)))=H.hopeRows O i:=by
 unfold HallR.hopeRows
 rw [jmA]
 refine List.map_congr_left fun j _=>?_
 unfold HallR.hopeRow
 by_cases e:j=i
 ·subst e;rw [if_pos rfl,if_pos (Nat.le_refl _)]
 ·rw [if_neg e]
  by_cases h:i≤j
  ·rw [if_pos h,if_pos (by omega)]
  ·rw [if_neg h,if_neg (by omega)]
theorem WuJ {N:Nat} {no:Nat→Prop} {sc:List AV} {H:HallR} {vW vS vB vK v:AV} {rb p:Nat} {O:List (Int × Int)} {s:St} {r:ARes} (hr:call Try.prog X N (.fn 81) [.ptr p 0,v] s=r) (hN:9≤N) (hS:SiteC sc H vW vS vB vK rb) (ok:H.Ok) (hH:HallAt no s.h s.n H vW vS vB vK) (g:s.h.get p=some (vQ sc)) (gr:s.h.get rb=some (.cells (Zj p) 0)) (hp:p<s.n) (hrb:rb<s.n) (hO:Sl no s.h s.n 2 (O.map jC) v) (hin:∀ c ∈ O,H.In c) (h24:O.length≤24) (hs:s.n+40000≤far) :
  ∃ t hb,r=.val (.slice hb 0 (O.length+1) (O.length+1) false) t∧New s t 8000∧s.n≤hb∧hb<t.n∧t.h.get hb=some (.cells (H.hopeRows O 0).flatten 0):=by
 obtain ⟨M,rfl⟩:∃ M,N=M+3:=⟨N - 3,by omega⟩
 have hf:=hfar
 obtain ⟨w,t,e,st,hb,rfl,hb1,hb2,hb3⟩:=vm (n:=M+2) (args:=[.ptr p 0,v]) (s:=s) (k:=8000) (Q:=fun w h n=>∃ hb,w=.slice hb 0 (O.length+1) (O.length+1) false∧s.n≤hb∧hb<n∧h.get hb=some (.cells (H.hopeRows O 0).flatten 0)) Try.func81 rfl (fun u uh un um=>by
  rw [← uh,← un] at hH hO
  rw [← uh] at g gr
  rw [← un] at hp hrb hs ⊢
  have kv:=hO.okA
  have lv:=YM hO
  have hsk:=hS.k
  have kK:=hH.k.okA
  have lK:=hH.k.len
  have bx:∀ sz s,vXA sz s v=.val (.ptr s.n 0) (s.new (.cells [v] sz)):=fun sz s=>by
   rcases hO.is with ⟨_,h⟩ | ⟨_,_,_,_,_,_,_,_,_,h,_⟩<;>rw [h]<;>rfl
  have bxp:∀ sz s,vXA sz s (.ptr p 0)=.val (.ptr s.n 0) (s.new (.cells [.ptr p 0] sz)):=fun _ _=>rfl
  have ad1:∀ s,jI s .i64 (O.length:Int) 1=.val (.int .i64 ((O.length+1:Nat):Int)) s:=fun s=>by rw [za s _ _ (by omega)];rfl
  have mk:∀ s:St,VO [.int .i64 0,.int .i64 0] 16 s (.int .i64 ((O.length+1:Nat):Int)) (.int .i64 ((O.length+1:Nat):Int))=.val (.slice s.n 0 (O.length+1) (O.length+1) false) (s.new (.cells (H.hopeRows O O.length).flatten 0)):=fun s=>by rw [VSA];exact WE _ 16 _ s (by omega) (by omega)
  obtain ⟨vh,hvh⟩:∃ vh:AV,vh=.slice (u.n+1) 0 (O.length+1) (O.length+1) false:=⟨_,rfl⟩
  have kh:∀ t,okA (.val vh t)=.val vh t:=fun t=>by rw [hvh];rfl
  obtain ⟨x0,hx0⟩:∃ x:St,x=((u.new (.cells [.ptr p 0] (tag 78))).new (.cells (H.hopeRows O O.length).flatten 0)).new (.cells [.nilslice] (tag 117)):=⟨_,rfl⟩
  have x0n:x0.n=u.n+3:=by rw [hx0];rfl
  have x0m:x0.m=far:=by rw [hx0];exact um
  have x0g:∀ c,c<u.n→x0.h.get c=u.h.get c:=fun c hc=>by rw [hx0,zH _ _ _ (by simp only [zW];omega),zH _ _ _ (by simp only [zW];omega),zH _ _ _ (by omega)]
  have x02:x0.h.get u.n=some (.cells [.ptr p 0] (tag 78)):=by rw [hx0,zH _ _ _ (by simp only [zW];omega),zH _ _ _ (by simp only [zW];omega)];exact zM _ _ _ rfl (by omega)
  have x0h:x0.h.get (u.n+1)=some (.cells (H.hopeRows O O.length).flatten 0):=by rw [hx0,zH _ _ _ (by simp only [zW];omega)];exact zM _ _ _ rfl (by simp only [zW];omega)
  have x05:x0.h.get (u.n+2)=some (.cells [.nilslice] (tag 117)):=by rw [hx0];exact zM _ _ _ rfl (by simp only [zW];omega)
  obtain ⟨x1,hx1⟩:∃ x:St,x=x0.put (u.n+2) (.cells [vh] (tag 117)):=⟨_,rfl⟩
  have stx:jM 1 x0 vh (.ptr (u.n+2) 0)=.val .undef x1:=by
   rw [hx1];exact jZ x05 (by show 0<1;omega) (by rw [hvh];rfl) (by rw [hvh];rfl)
  have x1n:x1.n=u.n+3:=by rw [hx1,jB];exact x0n
  have x1m:x1.m=min far (u.n+2):=by rw [hx1];simp only [St.put,zQ,x0m]
  have x1g:∀ c,c≠u.n+2→x1.h.get c=x0.h.get c:=fun c hc=>by rw [hx1,zL _ _ _ _ hc]
  have x15:x1.h.get (u.n+2)=some (.cells [vh] (tag 117)):=by rw [hx1];exact zN _ _ _ _ rfl (by omega)
  have x12:=(x1g u.n (by omega)).trans x02
  have x1h:=(x1g (u.n+1) (by omega)).trans x0h
  have xu:∀ c,c<u.n→x1.h.get c=u.h.get c:=fun c hc=>(x1g c (by omega)).trans (x0g c hc)
  have eba:=jXJ (M+2) (by omega) v x1 bx (by omega)
  obtain ⟨s0,hs0⟩:∃ s0:St,s0=x1.new (.cells [v] (tag 25)):=⟨_,rfl⟩
  have s0n:s0.n=u.n+4:=by rw [hs0];show x1.n+1=_;omega
  have s0m:s0.m=x1.m:=by rw [hs0];rfl
  have s0g:∀ c,c<x1.n→s0.h.get c=x1.h.get c:=fun c hc=>by rw [hs0,zH _ _ _ (by omega)]
  have s0p:s0.h.get (u.n+3)=some (.cells [v] (tag 25)):=by rw [hs0];exact zM _ _ _ (by omega) (by omega)
  rw [← hs0,x1n] at eba
  rw [zYQ]
  simp (disch:=first|omega|with_unfolding_all rfl) only [K81,K81r0,K81r1,Abs.W,reduceIte,Nat.reduceEqDiff,Nat.reduceAdd,Nat.reduceSub,bxp,lv,kv,ad1,WG,mk,zW]
  rw [← hx0,← hvh]
  have stx':vyA 1 x0 vh (u.n+1+1) 0 (x0.h.get (u.n+1+1))=.val .undef x1:=by have h:=stx;rw [Vw] at h;exact h
  simp (disch:=first|omega|with_unfolding_all rfl) only [Abs.W,reduceIte,Nat.reduceEqDiff,Nat.reduceAdd,Nat.reduceSub,stx']
  simp (disch:=first|omega|with_unfolding_all rfl) only [yFQ,Abs.W,reduceIte,Nat.reduceEqDiff,Nat.reduceAdd,Nat.reduceSub,kv,eba,wQ]
  clear eba hs0 hx1 hx0
  generalize hL0:Env.cons 0 _ _=L0
  have f2:L0.find 2=.ptr u.n 0:=by rw [← hL0];simp only [zK,reduceIte,Nat.reduceEqDiff]
  have f5:L0.find 5=.ptr (u.n+2) 0:=by rw [← hL0];simp only [zK,reduceIte,Nat.reduceEqDiff]
  have f17:L0.find 17=.func 103 [] [.ptr (u.n+3) 0]:=by rw [← hL0];simp only [zK,reduceIte,Nat.reduceEqDiff]
  clear hL0
  have xs:∀ c,c<u.n+3→s0.h.get c=x1.h.get c:=fun c hc=>s0g c (by omega)
  have hO0:Sl (fun c=>c<u.n) s0.h s0.n 2 (O.map jC) v:=hO.move (fun c h1 h2=>⟨(xs c (by omega)).trans (xu c h1),h1⟩) (by omega)
  have hh:=jYJ (N:=M+1) (p:=u.n+3) (rd:=fun y=>y=u.n+3∨y<u.n) s0p (.inl rfl) kv lv (fun i hi=>by
   obtain ⟨b,o,c,sz,⟨z1,z2⟩,z3,z4,z5⟩:=Ja hO0 hi
   exact ⟨b,o,c,sz,.inr z2,z3,z4,z5⟩) h24
  obtain ⟨s',e1,i1,e3,e4,e5,e6,e7,e8,_⟩:=VUA (P:=Try.prog) (X:=X) (M:=M) (Z:=M+2) hh (f:=.tmp 17) (ps:=[18,19]) (c:=⟨81,none,Try.f81.ntmps,X 81⟩) (L:=L0) (s:=s0) rfl (by rw [yJA,f17]) (fun _=>rfl) VMJ VLJ 60 u.n 20000 (fun y=>y=u.n+1∨s0.n+2≤y) (fun _ _=>True) (fun _ _ _ _ _=>trivial) (fun _=>trivial) (fun pp h _=>h.get (u.n+1)=some (.cells (H.hopeRows O (O.length - pp.length)).flatten 0))
   (by omega) (fun y hy=>⟨by omega,rfl⟩) (fun y hy=>by omega) (by omega) (by omega) (by omega) (by omega) ((xs _ (by omega)).trans x1h) (fun p h h' n n' hb hn0 hn h1=>(hb _ (by omega) (by omega)).trans h1)
   (fun pp x rest t ht i1 hfr htn htf htm htm' _=>by
    have hpl:pp.length<O.length:=by
     have:=congrArg List.length ht
     rw [List.length_append,List.length_cons,Vg] at this
     omega
    have hxe:x=O.length - 1 - pp.length:=by
     have h1:(vT O.length)[pp.length]'(by rw [Vg];exact hpl)=O.length - 1 - pp.length:=wkJ _
     rw [← h1]
     simp only [← ht]
     simp
    have hxl:x<O.length:=by omega
    rw [show O.length - pp.length=x+1 by omega] at i1
    obtain ⟨c,hcd⟩:∃ c,c=O.getD x (0,0):=⟨_,rfl⟩
    have hcx:O[x]=c:=by rw [hcd,List.getD_eq_getElem?_getD,List.getElem?_eq_getElem hxl];rfl
    have hcin:H.In c:=by rw [← hcx];exact hin _ (List.getElem_mem hxl)
    have hdrop:O.drop x=c::O.drop (x+1):=by rw [List.drop_eq_getElem_cons hxl,hcx]
    have hev:evB O x=[.int .i64 (x:Int),.agg [.int .i64 c.1,.int .i64 c.2]]:=by rw [hcd]
    have tg:∀ b,b<u.n+3→b≠u.n+1→t.h.get b=x1.h.get b:=fun b hb hb'=>(hfr b (by omega) (by omega)).trans (xs b hb)
    obtain ⟨y',hy'⟩:∃ y:St,y=(t.new (.cells [.int .i64 0,.int .i64 0] (tag 27))).put t.n (.cells [.int .i64 c.1,.int .i64 c.2] (tag 27)):=⟨_,rfl⟩
    have yn':y'.n=t.n+1:=by rw [hy'];rfl
    have yg':∀ b,b<t.n→y'.h.get b=t.h.get b:=fun b hb=>by rw [hy',zL _ _ _ _ (by omega),zH _ _ _ (by omega)]
    have yt':y'.h.get t.n=some (.cells [.int .i64 c.1,.int .i64 c.2] (tag 27)):=by rw [hy'];exact zN _ _ _ _ rfl (by omega)
    have ym':y'.m=min t.m t.n:=by rw [hy'];simp only [St.put,zQ,jF]
    obtain ⟨lo,hlo⟩:∃ o:AObj,o=.loop { vy ⟨81,none,Try.f81.ntmps,X 81⟩ L0 [18,19] (yV Try.f81 0).1 (yV Try.f81 0).2 s0 with state:=.busy }:=⟨_,rfl⟩
    obtain ⟨z,hz⟩:∃ z:St,z=y'.put (s0.n+1) lo:=⟨_,rfl⟩
    have zn:z.n=y'.n:=by rw [hz];rfl
    have zg:∀ b,b≠s0.n+1→z.h.get b=y'.h.get b:=fun b hb=>by rw [hz,zL _ _ _ _ hb]
    have zl:z.h.get (s0.n+1)=some lo:=by rw [hz];exact zN _ _ _ _ rfl (by omega)
    have zm:z.m=min y'.m (s0.n+1):=by rw [hz];simp only [St.put,zQ]
    obtain ⟨Z,hZ⟩:∃ Z:St,Z=z.new (.cells [.int .i64 0,.int .i64 0] (tag 120)):=⟨_,rfl⟩
    have Zn:Z.n=z.n+1:=by rw [hZ];rfl
    have Zm:Z.m=z.m:=by rw [hZ];rfl
    have Zg:∀ b,b<z.n→Z.h.get b=z.h.get b:=fun b hb=>by rw [hZ,zH _ _ _ (by omega)]
    have Z8:Z.h.get z.n=some (.cells [.int .i64 0,.int .i64 0] (tag 120)):=by rw [hZ];exact zM _ _ _ rfl (by omega)
    have Zt:∀ b,b<t.n→b≠s0.n+1→Z.h.get b=t.h.get b:=fun b hb hb'=>(Zg b (by omega)).trans ((zg b hb').trans (yg' b hb))
    have Zu:∀ b,b<u.n→Z.h.get b=u.h.get b:=fun b hb=>(Zt b (by omega) (by omega)).trans ((tg b (by omega) (by omega)).trans (xu b hb))
    have Z7:=(Zg t.n (by omega)).trans ((zg t.n (by omega)).trans yt')
    have Z2:=(Zt u.n (by omega) (by omega)).trans ((tg u.n (by omega) (by omega)).trans x12)
    have Z5:=(Zt (u.n+2) (by omega) (by omega)).trans ((tg (u.n+2) (by omega) (by omega)).trans x15)
    have Zh:=(Zt (u.n+1) (by omega) (by omega)).trans i1
    have Zp:=(Zu p hp).trans g
    have hHZ:HallAt (fun b=>b<u.n) Z.h Z.n H vW vS vB vK:=hH.move (fun b h1 h2=>⟨Zu b h1,h1⟩) (by omega)
    have hka:VvJ (call Try.prog X M) ⟨81,some (s0.n+1),Try.f81.ntmps,X 81⟩ (vE L0 [18,19] (evB O x)) [] t=.done .norm ((((L0.set 18 (.int .i64 (x:Int))).set 19 (.agg [.int .i64 c.1,.int .i64 c.2])).set 6 (.int .i64 (x:Int))).set 7 (.ptr t.n 0)) [] y':=by
     rw [hev,hy',show vE L0 [18,19] [.int .i64 (x:Int),.agg [.int .i64 c.1,.int .i64 c.2]]=(L0.set 18 (.int .i64 (x:Int))).set 19 (.agg [.int .i64 c.1,.int .i64 c.2]) from rfl]
     simp (disch:=first|omega|with_unfolding_all rfl) only [VvJ,K81a0r0,K81a0r1,Abs.W,reduceIte,Nat.reduceEqDiff,Nat.reduceAdd,Nat.reduceSub,Nat.reduceEqDiff]
    generalize hL1:(((L0.set 18 (.int .i64 (x:Int))).set 19 (.agg [.int .i64 c.1,.int .i64 c.2])).set 6 (.int .i64 (x:Int))).set 7 (.ptr t.n 0)=L1 at hka
    have m2:L1.find 2=.ptr u.n 0:=by rw [← hL1];simp only [efs,f2,reduceIte,Nat.reduceEqDiff]
    have m5:L1.find 5=.ptr (u.n+2) 0:=by rw [← hL1];simp only [efs,f5,reduceIte,Nat.reduceEqDiff]
    have m6:L1.find 6=.int .i64 (x:Int):=by rw [← hL1];simp only [efs,reduceIte,Nat.reduceEqDiff]
    have m7:L1.find 7=.ptr t.n 0:=by rw [← hL1];simp only [efs,reduceIte,Nat.reduceEqDiff]
    clear hL1
    have kb:∃ L2 t2,VuJ (call Try.prog X M) ⟨81,some (s0.n+1),Try.f81.ntmps,X 81⟩ L1 [] z=.done .norm L2 [] t2∧t2.h.get (u.n+1)=some (.cells (H.hopeRows O x).flatten 0)∧(∀ b,b<Z.n→b≠u.n+1→b≠z.n→t2.h.get b=Z.h.get b)∧Z.n≤t2.n∧t2.n≤Z.n+30∧u.n≤t2.m∧t2.m≤Z.m:=by
     simp (disch:=first|omega|with_unfolding_all rfl) only [VuJ,K81b0r0,Abs.W,reduceIte,Nat.reduceEqDiff,Nat.reduceAdd,Nat.reduceSub]
     rw [← hZ]
     simp (disch:=first|omega|with_unfolding_all rfl) only [wsJ,Abs.W,reduceIte,Nat.reduceEqDiff,Nat.reduceAdd,Nat.reduceSub,m2,Z2,Zp,hsk,kK,lK,Nat.zero_add]
     generalize hlp:jK _ rounds _ _ _ _ _=rl
     obtain ⟨L3,t3,rfl,j1,j2,j3,j4,j5,j6,j7,j8,j9,j10⟩:=vDJ M (by omega) _ (w0:=u.n) (p:=p) (rb:=rb) (p2:=u.n) (p7:=t.n) (p8:=z.n) (c:=c) hS ok hHZ Zp ((Zu rb hrb).trans gr) hp hrb Z2 ⟨by omega,by omega⟩ Z7 ⟨by omega,by omega⟩ Z8 ⟨by omega,by omega⟩ (by omega) hcin (by omega) (by omega) (by simp only [efs,m2,reduceIte,Nat.reduceEqDiff]) (by simp only [efs,m7,reduceIte,Nat.reduceEqDiff]) (by simp only [efs,reduceIte,Nat.reduceEqDiff]) (by simp only [efs,reduceIte,Nat.reduceEqDiff]) (by simp only [efs,reduceIte,Nat.reduceEqDiff]) (by simp only [efs,reduceIte,Nat.reduceEqDiff]) hlp
     have n5:L3.find 5=.ptr (u.n+2) 0:=by rw [j8];simp only [efs,m5,reduceIte,Nat.reduceEqDiff]
     have n6:L3.find 6=.int .i64 (x:Int):=by rw [j9];simp only [efs,m6,reduceIte,Nat.reduceEqDiff]
     have n8:L3.find 8=.ptr z.n 0:=by rw [j10];simp only [efs,reduceIte,Nat.reduceEqDiff]
     have t5:=(j1 (u.n+2) (by omega) (by omega)).trans Z5
     have th:=(j1 (u.n+1) (by omega) (by omega)).trans Zh
     have ax:∀ s,jI s .i64 (x:Int) 1=.val (.int .i64 ((x+1:Nat):Int)) s:=fun s=>by rw [za s _ _ (by omega)];rfl
     have i1':∀ s,jX 2 s vh (.int .i64 ((x+1:Nat):Int))=.val (.ptr (u.n+1) ((x+1) * 2)) s:=fun s=>by rw [hvh,jq _ _ _ _ _ _ _ _ (by omega),Nat.zero_add]
     have i2':∀ s,jX 2 s vh (.int .i64 (x:Int))=.val (.ptr (u.n+1) (x * 2)) s:=fun s=>by rw [hvh,jq _ _ _ _ _ _ _ _ (by omega),Nat.zero_add]
     have hcut:cut ((x+1) * 2) 2 (H.hopeRows O (x+1)).flatten=some [.int .i64 (H.hopeL (O.drop (x+1))).1,.int .i64 (H.hopeL (O.drop (x+1))).2]:=by
      rw [yU (Jn H O _) (by rw [ZL];omega),vDA H O _ (by omega)]
      unfold HallR.hopeRow;rw [if_pos (Nat.le_refl _)]
     have hb1:=VR ok (O.drop (x+1))
     have hb2:=YJ ok c H.kinds.length (Nat.le_refl _)
     have hdl:(O.drop (x+1)).length≤24:=by rw [List.length_drop];omega
     have epl:=YwA M (by omega) (H.hopeL (O.drop (x+1))) (H.topN c H.kinds.length) ⟨t3.h,t3.n,far⟩ ⟨⟨hb1.1.1,by omega⟩,hb1.2.1,by omega⟩ ⟨⟨hb2.1.1,by omega⟩,hb2.2.1,by omega⟩ (by show t3.n+10≤far;omega)
     have hts:=fun v=>yG (v:=v) (s:=t3) (h:=(by omega:t3.n≤far)) (hm:=(by omega:t3.m≤far))
     have okW:∀ (a b:Int) t,okA (.val (.agg [.int .i64 a,.int .i64 b]) t)=.val (.agg [.int .i64 a,.int .i64 b]) t:=fun _ _ _=>rfl
     have stF:=JLA (R:=[.int .i64 ((H.hopeL (O.drop (x+1))).1+(H.topN c H.kinds.length).1),.int .i64 ((H.hopeL (O.drop (x+1))).2+(H.topN c H.kinds.length).2)]) (j:=x) th (Jn H O _) (by rw [ZL];omega) rfl rfl
     rw [show [AV.int .i64 ((H.hopeL (O.drop (x+1))).1+(H.topN c H.kinds.length).1),AV.int .i64 ((H.hopeL (O.drop (x+1))).2+(H.topN c H.kinds.length).2)]=wtR (H.hopeL (O.drop x)) from by rw [hdrop,zJA];rfl,VRA H O hxl,show wtR (H.hopeL (O.drop x))=[AV.int .i64 ((H.hopeL (O.drop (x+1))).1+(H.topN c H.kinds.length).1),AV.int .i64 ((H.hopeL (O.drop (x+1))).2+(H.topN c H.kinds.length).2)] from by rw [hdrop,zJA];rfl] at stF
     simp (disch:=first|omega|(with_unfolding_all exact rfl)|(simp only[zW,jB,jF];omega)|(refine jU ?_;simp only[jF];omega)) only [wrJ,Abs.W,reduceIte,Nat.reduceEqDiff,Nat.reduceAdd,Nat.reduceSub,n5,n6,n8,t5,kh,ax,i1',i2',th,hcut,okW,j6,epl,hts,stF,Nat.zero_add]
     refine ⟨_,_,rfl,zN _ _ _ _ rfl (by omega),fun b h1 h2 h3=>?_,by rw [jB];omega,by rw [jB];omega,?_,?_⟩
     ·rw [zL _ _ _ _ h2];exact j1 b h1 h3
     ·have:=j4 u.n (by omega) (by omega);simp only [St.put,zQ];omega
     ·simp only [St.put,zQ];omega
    obtain ⟨L2,t2,r1,r2,r3,r4,r5,r6,r7⟩:=kb
    refine ⟨L1,y',L2,t2,hka,yg' _ (by omega),by rw [← hlo,← hz];exact r1,?_,?_,fun b h1 h2 h3=>?_,by omega,by omega,r6,by omega,trivial⟩
    ·rw [List.length_append,List.length_singleton,show O.length - (pp.length+1)=x by omega];exact r2
    ·rw [← hlo,r3 _ (by omega) (by omega) (by omega),Zg _ (by omega)];exact zl
    ·rw [r3 b (by omega) (by omega) (by omega)];exact Zt b h1 h2)
  rw [e1]
  rw [Vg,Nat.sub_self] at i1
  have su:∀ c,c<u.n→s'.h.get c=u.h.get c:=fun c hc=>(e3 c (by omega) (by omega)).trans ((xs c (by omega)).trans (xu c hc))
  have g5:=(e3 (u.n+2) (by omega) (by omega)).trans ((xs _ (by omega)).trans x15)
  simp (disch:=first|omega|with_unfolding_all rfl) only [yEQ,Abs.W,reduceIte,Nat.reduceEqDiff,Nat.reduceAdd,Nat.reduceSub,f5,g5,kh,Nat.zero_add]
  rw [jyA _ _ _ _ _ e4,res81]
  simp (disch:=first|omega|with_unfolding_all rfl) only [Abs.W,reduceIte,Nat.reduceEqDiff,Nat.reduceAdd,Nat.reduceSub,kh]
  refine ⟨_,_,rfl,⟨fun c hc=>?_,?_,?_,?_,?_⟩,by rw [hvh];rfl,u.n+1,hvh,by omega,?_,?_⟩
  ·rw [wE _ _ _ (by omega)];exact su c hc
  ·simp only [St.kill];omega
  ·simp only [St.kill];omega
  ·simp only [St.kill,zQ];omega
  ·simp only [St.kill,zQ];omega
  ·simp only [St.kill];omega
  ·rw [wE _ _ _ (by omega)];exact i1)
 exact ⟨t,hb,hr.symm.trans e,st,hb1,hb2,hb3⟩
theorem WrJ {H:HallR} (ok:H.Ok) (k:Nat):0≤(H.kind k).hi:=by
 by_cases hk:k<H.kinds.length
 ·have h:=vP ok hk
  have:=h.l0
  have:=h.l1
  omega
 ·unfold HallR.kind
  rw [List.getD_eq_getElem?_getD,List.getElem?_eq_none (by omega)]
  exact Int.le_refl _
theorem JxA {H:HallR} (ok:H.Ok):∀ (l:List PutR) (b:Nat),0≤tot (H.highs l) b
 | [],_=>Int.le_refl _
 | p::l,b=>by
  have h1:=JxA ok l b
  have h2:=WrJ ok p.kind
  show 0≤(if H.bay p=b then (H.kind p.kind).hi else 0)+tot (H.highs l) b
  split<;>omega
theorem gIJ {H:HallR} (ok:H.Ok) {l:List PutR} {P:PutR} (h:H.Takes l P):H.Takes [] P:=by
 obtain ⟨h1,h2,h3⟩:=h
 refine ⟨wO.mpr ⟨(wO.mp h1).1,fun _ h=>(by cases h)⟩,?_,?_⟩
 ·show ((0:Nat):Int)<_
  omega
 ·have:=JxA ok l (H.bay P)
  show (H.kind P.kind).hi+0≤_
  omega
def HallR.worth (H:HallR) (l:List PutR):Int × Int:=(tot (H.rents l) 0,(l.length:Int))
theorem JAA (H:HallR) (l:List PutR) (p:PutR):H.worth (l++[p])=wplus (H.worth l) (H.rent p.kind,1):=by
 unfold HallR.worth wplus
 rw [Prod.mk.injEq]
 refine ⟨?_,by rw [List.length_append];rfl⟩
 unfold HallR.rents
 rw [List.map_append]
 show tot (_++[(0,(H.kind p.kind).rent)]) 0=_
 rw [Zd];rfl
structure HallR.Good (H:HallR) (l:List PutR):Prop where
 v:H.Valid l
 s:H.verdict l=1
 i:∀ q ∈ l,q.In H
theorem gZ {H:HallR} (ok:H.Ok):H.Good [] :=
 ⟨⟨fun _ h=>(by cases h),List.Pairwise.nil,fun k hk=>(vP ok hk).m0⟩,(vxA ok fun _ h=>(by cases h)).mpr fun b hb=>by
  have hbl:=ok.bl
  have:=ok.b (H.bears[b]'(by omega)) (List.getElem_mem _)
  show (0:Int)≤_
  rw [List.getD_eq_getElem?_getD,List.getElem?_eq_getElem (by omega)]
  exact this.1,fun _ h=>(by cases h)⟩
theorem YvA {H:HallR} (ok:H.Ok) {c:Int × Int} (hc:H.In c) {k:Nat} (hk:k<H.kinds.length):(yC c k).In H:=by
 obtain ⟨⟨a,b⟩,e,f⟩:=hc
 have:=ok.w1
 have:=ok.d1
 exact ⟨hk,by show -100≤c.1;omega,by show c.1≤100;omega,by show -100≤c.2;omega,by show c.2≤100;omega⟩
theorem VV {H:HallR} (ok:H.Ok) {l:List PutR} (g:H.Good l) {c:Int × Int} (hc:H.In c) {k:Nat} (hk:k<H.kinds.length):H.Takes l (yC c k)↔H.Good (l++[yC c k]):=by
 have hp:=YvA ok hc hk
 rw [jcA ok g.v g.s g.i hp]
 refine ⟨fun h=>⟨h.1,h.2,fun q hq=>?_⟩,fun h=>⟨h.v,h.s⟩⟩
 rcases List.mem_append.mp hq with h | h
 ·exact g.i q h
 ·rw [List.mem_singleton.mp h];exact hp
noncomputable def HallR.goodL (H:HallR) (l:List PutR) (P:PutR):Bool:=@decide (H.Valid (l++[P])∧H.verdict (l++[P])=1) (Classical.propDecidable _)
theorem JzA {H:HallR} {l:List PutR} {P:PutR}:H.goodL l P=true↔H.Valid (l++[P])∧H.verdict (l++[P])=1:=by
 unfold HallR.goodL
 exact @decide_eq_true_iff _ (Classical.propDecidable _)
noncomputable def HallR.lays (H:HallR):List (Int × Int)→List PutR→List (List PutR)
 | [],l=>[l]
 | c::rest,l=>H.lays rest l++(List.range H.kinds.length).flatMap fun k=>if H.goodL l (yC c k)=true then H.lays rest (l++[yC c k]) else []
theorem gX {H:HallR} (ok:H.Ok):∀ (cs:List (Int × Int)) (l x:List PutR),(∀ c ∈ cs,H.In c)→H.Good l→(x ∈ H.lays cs l↔Ext H.kinds.length H.takesB (cs.filter fun c=>!decide (c ∈ H.shut)) l x)
 | [],l,x,_,_=>by
  show x ∈ [l]↔Ext _ _ [] l x
  rw [List.mem_singleton]
  exact ⟨fun h=>by rw [h];exact .nil l,fun h=>by cases h;rfl⟩
 | c::rest,l,x,hc,g=>by
  have hcc:=hc c (List.mem_cons_self ..)
  have hcr:∀ d ∈ rest,H.In d:=fun d hd=>hc d (List.mem_cons_of_mem _ hd)
  have ih0:=gX ok rest l x hcr g
  have hlays:x ∈ H.lays (c::rest) l↔x ∈ H.lays rest l∨∃ k,k<H.kinds.length∧H.Takes l (yC c k)∧x ∈ H.lays rest (l++[yC c k]):=by
   show x ∈ H.lays rest l++(List.range H.kinds.length).flatMap (fun k=>if H.goodL l (yC c k)=true then H.lays rest (l++[yC c k]) else [])↔_
   rw [List.mem_append,List.mem_flatMap]
   refine or_congr Iff.rfl ⟨?_,?_⟩
   ·rintro ⟨k,hk,hx⟩
    have hk':=List.mem_range.mp hk
    by_cases hg:H.goodL l (yC c k)=true
    ·rw [if_pos hg] at hx
     exact ⟨k,hk',(jcA ok g.v g.s g.i (YvA ok hcc hk')).mpr (JzA.mp hg),hx⟩
    ·rw [if_neg hg] at hx;cases hx
   ·rintro ⟨k,hk,ht,hx⟩
    refine ⟨k,List.mem_range.mpr hk,?_⟩
    rw [if_pos (JzA.mpr ((jcA ok g.v g.s g.i (YvA ok hcc hk)).mp ht))]
    exact hx
  rw [hlays,ih0,List.filter_cons]
  by_cases hsh:c ∈ H.shut
  ·rw [decide_eq_true hsh]
   simp only [Bool.not_true,Bool.false_eq_true,if_false]
   refine ⟨fun h=>h.elim id fun ⟨k,hk,ht,_⟩=>?_,.inl⟩
   exact absurd hsh (wO.mp ht.e).1.s
  ·rw [decide_eq_false hsh]
   simp only [Bool.not_false,if_true]
   constructor
   ·rintro (h | ⟨k,hk,ht,hx⟩)
    ·exact .skip h
    ·have g':=(VV ok g hcc hk).mp ht
     exact .put k hk (yZ.mpr ht) ((gX ok rest (l++[yC c k]) x hcr g').mp hx)
   ·intro h
    cases h with
    | skip h=>exact .inl h
    | put k hk ht h =>
     have ht':=yZ.mp ht
     have g':=(VV ok g hcc hk).mp ht'
     exact .inr ⟨k,hk,ht',(gX ok rest (l++[yC c k]) x hcr g').mpr h⟩
theorem YvJ {H:HallR} (ok:H.Ok) {cs:List (Int × Int)} {l x:List PutR} (h:Ext H.kinds.length H.takesB cs l x) (hc:∀ c ∈ cs,H.In c) (g:H.Good l):H.Good x:=by
 induction h with
 | nil l=>exact g
 | skip _ ih=>exact ih (fun d hd=>hc d (List.mem_cons_of_mem _ hd)) g
 | put k hk ht _ ih=>exact ih (fun d hd=>hc d (List.mem_cons_of_mem _ hd)) ((VV ok g (hc _ (List.mem_cons_self ..)) hk).mp (yZ.mp ht))
theorem YxA {H:HallR} (w0:1≤H.wide):H.placesI.Pairwise Later:=by
 refine List.pairwise_iff_getElem.mpr fun i j hi hj hij=>?_
 rw [Zl,Zl]
 unfold Later
 simp only
 have h1:=Nat.div_add_mod i H.wide
 have h2:=Nat.div_add_mod j H.wide
 have h3:=Nat.div_le_div_right (c:=H.wide) (Nat.le_of_lt hij)
 by_cases e:i / H.wide=j / H.wide
 ·rw [e] at h1
  omega
 ·omega
theorem zFJ {H:HallR} (w0:1≤H.wide):H.opens.Pairwise Later:=(YxA w0).filter _
theorem ZS {H:HallR} (w0:1≤H.wide):∀ c ∈ H.placesI,H.In c:=fun c hc=>by
 obtain ⟨i,hi,rfl⟩:=List.getElem_of_mem hc
 exact Ww w0 hi
noncomputable def HallR.best (H:HallR):(Int × Int) × List PutR:=srch H.kinds.length H.takesB H.worth H.rent H.opens [] ((0,0),[])
theorem jqJ {H:HallR} (ok:H.Ok):∀ l p,H.takesB l p=true→H.takesB [] p=true:=fun _ _ h=>yZ.mpr (gIJ ok (yZ.mp h))
theorem Yq {H:HallR} (ok:H.Ok):H.best.1=H.worth H.best.2∧H.Good H.best.2∧H.best.2 ∈ H.lays H.placesI []∧∀ x ∈ H.lays H.placesI [],H.Good x∧¬ Bt (H.worth x) (H.worth H.best.2)∧(H.worth x=H.worth H.best.2→¬ First x H.best.2):=by
 have hin:=ZS ok.w0
 have hF:=YfA (K:=H.kinds.length) (tB:=H.takesB) (w:=H.worth) (rent:=H.rent) (JAA H) (fun _=>rfl) (jqJ ok) H.opens [] ((0,0),[]) (zFJ ok.w0)
 have hE:∀ x,x ∈ H.lays H.placesI []↔Ext H.kinds.length H.takesB H.opens [] x:=fun x=>gX ok H.placesI [] x hin (gZ ok)
 have hoi:∀ c ∈ H.opens,H.In c:=fun c hc=>hin c (List.mem_filter.mp hc).1
 have hg:∀ x,Ext H.kinds.length H.takesB H.opens [] x→H.Good x:=fun x hx=>YvJ ok hx hoi (gZ ok)
 obtain ⟨h1,h2⟩:=hF
 have hb:H.best=srch H.kinds.length H.takesB H.worth H.rent H.opens [] ((0,0),[]):=rfl
 rw [← hb] at h1 h2
 rcases h2 with h2 | ⟨a1,a2,a3,a4⟩
 ·rw [h2] at h1 ⊢
  have hs:=VY H.kinds.length H.takesB H.opens []
  refine ⟨rfl,gZ ok,(hE _).mpr hs,fun x hx=>⟨hg x ((hE x).mp hx),h1 x ((hE x).mp hx),fun e=>?_⟩⟩
  have:(x.length:Int)=0:=congrArg Prod.snd e
  have:x=[]:=List.length_eq_zero_iff.mp (by omega)
  subst this
  exact yEA _
 ·exact ⟨a2,hg _ a1,(hE _).mpr a1,fun x hx=>⟨hg x ((hE x).mp hx),by rw [← a2];exact h1 x ((hE x).mp hx),fun e=>a4 x ((hE x).mp hx) (by rw [a2];exact e)⟩⟩
structure Better (H G:HallR):Prop where
 w:G.wide=H.wide
 d:G.deep=H.deep
 x:G.bx=H.bx
 z:G.bz=H.bz
 wa:G.water=H.water
 sh:G.shut=H.shut
 n:G.kinds.length=H.kinds.length
 b:∀ i,H.bears.getD i 0≤G.bears.getD i 0
 k:∀ k,(G.kind k).hi≤(H.kind k).hi∧(G.kind k).water=(H.kind k).water∧(H.kind k).rent≤(G.kind k).rent∧(H.kind k).most≤(G.kind k).most∧∀ j,(G.kind k).away.getD j 0≤(H.kind k).away.getD j 0
theorem Better.in_ {H G:HallR} (S:Better H G) (c:Int × Int):G.In c↔H.In c:=by unfold HallR.In;rw [S.w,S.d]
theorem Better.bay {H G:HallR} (S:Better H G) (p:PutR):G.bay p=H.bay p:=by unfold HallR.bay HallR.bayAt HallR.cols;rw [S.w,S.x,S.z]
theorem Better.highs {H G:HallR} (S:Better H G):∀ (l:List PutR) (b:Nat),tot (G.highs l) b≤tot (H.highs l) b
 | [],_=>Int.le_refl _
 | p::l,b=>by
  have h1:=S.highs l b
  have h2:=(S.k p.kind).1
  show (if G.bay p=b then (G.kind p.kind).hi else 0)+tot (G.highs l) b≤(if H.bay p=b then (H.kind p.kind).hi else 0)+tot (H.highs l) b
  rw [S.bay]
  split<;>omega
theorem Better.rents {H G:HallR} (S:Better H G):∀ l:List PutR,tot (H.rents l) 0≤tot (G.rents l) 0
 | []=>Int.le_refl _
 | p::l=>by
  have h1:=S.rents l
  have h2:=(S.k p.kind).2.2.1
  show (if 0=0 then (H.kind p.kind).rent else 0)+tot (H.rents l) 0≤(if 0=0 then (G.kind p.kind).rent else 0)+tot (G.rents l) 0
  rw [if_pos rfl,if_pos rfl]
  omega
theorem Better.clash {H G:HallR} (S:Better H G) {p q:PutR} (h:G.clash p q):H.clash p q:=by
 unfold HallR.clash HallR.away at *
 have h1:=(S.k p.kind).2.2.2.2 q.kind
 have h2:=(S.k q.kind).2.2.2.2 p.kind
 omega
theorem Better.takes {H G:HallR} (S:Better H G) {l:List PutR} {P:PutR} (h:H.Takes l P):G.Takes l P:=by
 obtain ⟨h1,h2,h3⟩:=h
 obtain ⟨⟨a1,a2,a3⟩,a4⟩:=wO.mp h1
 obtain ⟨k1,k2,k3,k4,k5⟩:=S.k P.kind
 refine ⟨wO.mpr ⟨⟨(S.in_ _).mpr a1,by rw [S.sh];exact a2,fun hw=>by rw [S.wa];exact a3 (by rw [← k2];exact hw)⟩,fun q hq=>⟨(a4 q hq).1,fun hc=>(a4 q hq).2 (S.clash hc)⟩⟩,by omega,?_⟩
 have:=S.highs l (H.bay P)
 have:=S.b (H.bay P)
 rw [S.bay]
 omega
theorem YuJ {K:Nat} {t1 t2:List PutR→PutR→Bool} (h:∀ l p,t1 l p=true→t2 l p=true) {cs:List (Int × Int)} {l x:List PutR} (e:Ext K t1 cs l x):Ext K t2 cs l x:=by
 induction e with
 | nil l=>exact .nil l
 | skip _ ih=>exact .skip ih
 | put k hk ht _ ih=>exact .put k hk (h _ _ ht) ih
theorem Better.best {H G:HallR} (S:Better H G) (okH:H.Ok) (okG:G.Ok):tot (H.rents H.best.2) 0≤tot (G.rents G.best.2) 0:=by
 obtain ⟨_,_,h3,_⟩:=Yq okH
 obtain ⟨_,_,_,g4⟩:=Yq okG
 have hp:G.placesI=H.placesI:=by unfold HallR.placesI HallR.places;rw [S.w,S.d]
 have h5:=(gX okH H.placesI [] H.best.2 (ZS okH.w0) (gZ okH)).mp h3
 have h6:Ext G.kinds.length G.takesB (G.placesI.filter fun c=>!decide (c ∈ G.shut)) [] H.best.2:=by
  rw [hp,S.n,S.sh]
  exact YuJ (fun l p h=>yZ.mpr (S.takes (yZ.mp h))) h5
 have h7:=(gX okG G.placesI [] H.best.2 (ZS okG.w0) (gZ okG)).mpr h6
 have h8:¬ tot (G.rents G.best.2) 0<tot (G.rents H.best.2) 0:=fun h=>(g4 _ h7).2.1 (.inl h)
 have:=S.rents H.best.2
 omega
end Go.Proofs.Ytoklbkgcclkejaa.walk
