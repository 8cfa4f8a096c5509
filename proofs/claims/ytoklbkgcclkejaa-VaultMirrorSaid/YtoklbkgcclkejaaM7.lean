/- The law VaultTrue, behind its die. -/
import Derived.Test.YtoklbkgcclkejaaM6
import Derived.Test.YtoklbkgcclkejaaCodes
import Derived.Test.YtoklbkgcclkejaaM3
import Derived.Test.YtoklbkgcclkejaaM4
import Derived.Test.YtoklbkgcclkejaaWalkAll
set_option linter.unusedSimpArgs false
set_option linter.unusedVariables false
set_option maxHeartbeats 16000000
set_option linter.unusedVariables false
set_option maxRecDepth 10000
namespace Go.Proofs.Ytoklbkgcclkejaa.walk
open Go.Abs Go.Proofs.Ytoklbkgcclkejaa.code
noncomputable abbrev awd (n:Nat):zR:=knows 19 (call Try.prog X n)
theorem zUA {H:HallR} {l:List PutR} (h:H.verdict l=1):∀ b,b<H.bays→tot (H.highs l) b≤H.bears.getD b 0:=fun b hb=>by
 unfold HallR.verdict at h
 split at h
 ·cases h
 ·split at h
  ·cases h
  ·rename_i h2
   exact Int.not_lt.mp fun h3=>h2 ⟨b,hb,h3⟩
theorem gGJ {H:HallR} {l:List PutR} {T:List Int} (h:Truly H l T) (b:Nat):tot (H.lows l) b≤tot (H.trues l T) b∧tot (H.trues l T) b≤tot (H.highs l) b:=zWA l T b h.len h.is
def HallR.lowL (H:HallR) (l:List PutR):List Int:=l.map fun p=>(H.kind p.kind).lo
def HallR.highL (H:HallR) (l:List PutR):List Int:=l.map fun p=>(H.kind p.kind).hi
theorem JHA (H:HallR):∀ l:List PutR,H.trues l (H.lowL l)=H.lows l
 | []=>rfl
 | p::l=>by
  have:=JHA H l
  show (H.bay p,(H.kind p.kind).lo)::H.trues l (H.lowL l)=_
  rw [this];rfl
theorem WmJ (H:HallR) (l:List PutR) (i:Nat) (h:i<(H.lowL l).length) (h':i<l.length):(H.lowL l)[i]=(H.kind l[i].kind).lo:=by simp [HallR.lowL]
theorem zTJ {H:HallR} (ok:H.Ok) {l:List PutR} (hl:∀ q ∈ l,q.In H) (b:Nat):tot (H.lows l) b≤tot (H.highs l) b:=by
 have hT:Truly H l (H.lowL l):=⟨by unfold HallR.lowL;rw [List.length_map],fun i h1 h2=>by
  have h3:=(vP ok (hl _ (List.getElem_mem h1)).k).l1
  rw [WmJ H l i h2 h1]
  exact ⟨Int.le_refl _,h3⟩⟩
 have:=gGJ hT b
 rw [JHA] at this
 exact this.2
theorem vxA {H:HallR} (ok:H.Ok) {l:List PutR} (hl:∀ q ∈ l,q.In H):H.verdict l=1↔H.bearsUpto (fun b=>tot (H.highs l) b) H.bays:=by
 constructor
 ·exact fun h=>zUA h
 ·intro h
  unfold HallR.verdict
  rw [if_neg (by rintro ⟨b,h1,h2⟩;have:=h b h1;have:=zTJ ok hl b;simp only at *;omega),if_neg (by rintro ⟨b,h1,h2⟩;have:=h b h1;simp only at *;omega)]
structure EndJ (w t:St) (H:HallR) (l:List PutR) (i:Nat) (v1 v2:AV) (b1 b2:Nat):Prop where
 i1:IsAt t.h t.n b1 1 (tag 3) (jA (H.lowL (l.take i))) v1
 i2:IsAt t.h t.n b2 1 (tag 3) (jA (H.highL (l.take i))) v2
 lo:w.n≤b1∧w.n≤b2∧b1≠b2∧(b1<t.n∨far<b1)∧(b2<t.n∨far<b2)
 same:∀ c,c<w.n→t.h.get c=w.h.get c
 n:w.n≤t.n
 le:t.n≤w.n+4 * i
 m:t.m≤far
theorem jpJ {H:HallR} {l r:List PutR} (h:List.Perm l r) (v:H.Valid l):H.Valid r :=
 ⟨fun p hp=>v.m p (h.mem_iff.mpr hp),(h.pairwise_iff (fun {a b} hab=>⟨fun e=>hab.1 e.symm,fun hc=>hab.2 ((vYJ H _ _).mp hc)⟩)).mp v.p,fun k hk=>by
  have e:many r k=many l k:=((h.filter _).length_eq).symm
  rw [e];exact v.o k hk⟩
theorem gEJ {H:HallR} {l r:List PutR} (h:List.Sublist r l) (v:H.Valid l):H.Valid r :=
 ⟨fun p hp=>v.m p (h.mem hp),v.p.sublist h,fun k hk=>by
  have e:many r k≤many l k:=(h.filter _).length_le
  have:=v.o k hk
  omega⟩
theorem vtA {l r:List (Nat × Int)} (h:List.Perm l r) (b:Nat):tot l b=tot r b:=by
 induction h with
 | nil=>rfl
 | cons x _ ih=>show (if x.1=b then x.2 else 0)+_=(if x.1=b then x.2 else 0)+_;rw [ih]
 | swap x y l=>show (if y.1=b then y.2 else 0)+((if x.1=b then x.2 else 0)+_)=(if x.1=b then x.2 else 0)+((if y.1=b then y.2 else 0)+_);omega
 | trans _ _ i1 i2=>exact i1.trans i2
theorem vpJ {l r:List (Nat × Int)} (h:List.Sublist r l) (hl:∀ x ∈ l,0≤x.2) (b:Nat):tot r b≤tot l b:=by
 induction h with
 | slnil=>exact Int.le_refl _
 | cons x _ ih =>
  have h1:=ih fun y hy=>hl y (List.mem_cons_of_mem _ hy)
  have h2:=hl x (List.mem_cons_self ..)
  show _≤(if x.1=b then x.2 else 0)+_
  split<;>omega
 | cons_cons x _ ih =>
  have h1:=ih fun y hy=>hl y (List.mem_cons_of_mem _ hy)
  show (if x.1=b then x.2 else 0)+_≤(if x.1=b then x.2 else 0)+_
  omega
theorem ZKJ {H:HallR} {l r:List PutR} (h:List.Perm l r) (b:Nat):tot (H.lows l) b=tot (H.lows r) b:=vtA (h.map _) b
theorem vFJ {H:HallR} {l r:List PutR} (h:List.Perm l r) (b:Nat):tot (H.highs l) b=tot (H.highs r) b:=vtA (h.map _) b
theorem YMJ {H:HallR} (ok:H.Ok) {l r:List PutR} (hl:∀ p ∈ l,p.In H) (h:List.Sublist r l) (b:Nat):tot (H.lows r) b≤tot (H.lows l) b :=
 vpJ (h.map _) (fun x hx=>by
  obtain ⟨p,hp,rfl⟩:=List.mem_map.mp hx
  exact (vP ok (hl p hp).k).l0) b
theorem ZYJ {H:HallR} (ok:H.Ok) {l r:List PutR} (hl:∀ p ∈ l,p.In H) (h:List.Sublist r l) (b:Nat):tot (H.highs r) b≤tot (H.highs l) b :=
 vpJ (h.map _) (fun x hx=>by
  obtain ⟨p,hp,rfl⟩:=List.mem_map.mp hx
  have h1:=(vP ok (hl p hp).k).l0
  have h2:=(vP ok (hl p hp).k).l1
  exact Int.le_trans h1 h2) b
theorem YcA {H:HallR} {l r:List PutR} (h:List.Perm l r):H.verdict l=H.verdict r:=by
 unfold HallR.verdict
 simp only [ZKJ h,vFJ h]
theorem WRA {H:HallR} (ok:H.Ok) {l r:List PutR} (hl:∀ p ∈ l,p.In H) (h:List.Sublist r l) (v:H.verdict l=1):H.verdict r=1:=by
 have hb:=zUA v
 have hlo:∀ b,b<H.bays→tot (H.lows l) b≤H.bears.getD b 0:=fun b hb'=>by
  refine Int.not_lt.mp fun hc=>?_
  unfold HallR.verdict at v
  rw [if_pos ⟨b,hb',hc⟩] at v
  cases v
 unfold HallR.verdict
 rw [if_neg (by rintro ⟨b,h1,h2⟩;have:=hlo b h1;have:=YMJ ok hl h b;omega),if_neg (by rintro ⟨b,h1,h2⟩;have:=hb b h1;have:=ZYJ ok hl h b;omega)]
def HallR.rents (H:HallR) (l:List PutR):List (Nat × Int):=l.map fun p=>(0,(H.kind p.kind).rent)
theorem yOJ {H:HallR} {l r:List PutR} (h:List.Perm l r):tot (H.rents l) 0=tot (H.rents r) 0:=vtA (h.map _) 0
theorem yNJ (H:HallR) {l:List PutR} {i:Nat} (hi:i<l.length):tot (H.rents (l.take (i+1))) 0=tot (H.rents (l.take i)) 0+(H.kind l[i].kind).rent:=by
 unfold HallR.rents
 rw [yE hi,List.map_append]
 show tot (_++[(0,(H.kind l[i].kind).rent)]) 0=_
 rw [Zd];rfl
theorem WsA {H:HallR} (ok:H.Ok) {l:List PutR} (hl:∀ p ∈ l,p.In H) (h24:l.length≤24):0≤tot (H.rents l) 0∧tot (H.rents l) 0≤24000000:=by
 have h:=ZQ (H.rents l) 0 1000000 (by omega) fun x hx=>by
  obtain ⟨p,hp,rfl⟩:=List.mem_map.mp hx
  have h:=vP ok (hl p hp).k
  exact ⟨h.r0,h.r1⟩
 have e:(H.rents l).length=l.length:=by unfold HallR.rents;rw [List.length_map]
 omega
theorem ZJJ (H:HallR) {l:List PutR} {i:Nat} (hi:i<l.length) (b:Nat):tot (H.lows (l.take (i+1))) b=tot (H.lows (l.take i)) b+if H.bay l[i]=b then (H.kind l[i].kind).lo else 0:=by
 unfold HallR.lows;rw [yE hi,List.map_append];exact Zd _ _ _
theorem vEJ (H:HallR) {l:List PutR} {i:Nat} (hi:i<l.length) (b:Nat):tot (H.highs (l.take (i+1))) b=tot (H.highs (l.take i)) b+if H.bay l[i]=b then (H.kind l[i].kind).hi else 0:=by
 unfold HallR.highs;rw [yE hi,List.map_append];exact Zd _ _ _
theorem vZJ (N:Nat) (hN:3≤N) {no:Nat→Prop} {sc:List AV} {H:HallR} {vW vS vB vK:AV} {rb p:Nat} {l:List PutR} {P:PutR} {v:AV} {s:St} (hS:SiteC sc H vW vS vB vK rb) (ok:H.Ok) (hB0:Sl no s.h s.n 1 (jA H.bears) vB) (hK:KindsAt no s.h s.n H.kinds vK) (hR:Puts no s.h s.n l v) (hl:∀ q ∈ l,q.In H) (hm:∀ q ∈ l,H.In q.c) (hl1:l.length≤24) (hP:P.In H) (hPc:H.In P.c) (g:s.h.get p=some (vQ sc)) (hp:p<s.n) (hs:s.n+1000≤far) :
  call Try.prog X N (.fn 76) [.ptr p 0,v,.agg P.row] s=.val (.bool (decide ((H.kind P.kind).hi+tot (H.highs l) (H.bay P)≤H.bears.getD (H.bay P) 0))) s:=by
 obtain ⟨n,rfl⟩:∃ n,N=n+1:=⟨N - 1,by omega⟩
 have hf:=hfar
 refine zj Try.func76 (fun u uh un um=>?_) rfl
 rw [← uh,← un] at hB0 hK hR
 rw [← uh] at g
 rw [← un] at hp
 have kv:=hR.okA
 have lv:=hR.len
 have kB:=hB0.okA
 have sz:=ok.toSize
 have hb24:=vY sz
 have h6:=hS.b
 have s6:=sz.w1
 have s4:=sz.d1
 have hbl:=ok.bl
 -- the put
 obtain ⟨X,Y,eX,eY,hX,hY⟩:=zIA hPc
 have hBP:=vjA (H:=H) eX eY
 have hBlt:=gjA sz hX hY
 rw [← hBP] at hBlt
 have hkP:=vP ok hP.k
 have p0:=hkP.l0
 have p1:=hkP.l1
 have p2:=hkP.l2
 obtain ⟨w1,hw1⟩:∃ w1:St,w1=u.new (.cells P.row (tag 51)):=⟨_,rfl⟩
 have w1n:w1.n=u.n+1:=by rw [hw1];rfl
 have w1m:w1.m=far:=by rw [hw1];exact um
 have w1g:∀ c,c<u.n→w1.h.get c=u.h.get c:=fun c hc=>by rw [hw1,zH _ _ _ (by omega)]
 have w15:w1.h.get u.n=some (.cells [.int .i64 P.x,.int .i64 P.y,.int .i64 (P.kind:Int)] (tag 51)):=by rw [hw1];exact zM _ _ _ rfl (by omega)
 have es0:=zZA n (by omega) hS (show X<6 by omega) (show Y<4 by omega) (P.kind:Int) w1 ((w1g p hp).trans g) (by omega) (by omega)
 rw [Jp sz hX hY,← eX,← eY,← hBP] at es0
 obtain ⟨aP,hAP,ekP⟩:=JO n (by omega) hS hP.k ok u hK g hp
 have ekP1:=ekP P.x P.y w1 w1g (by omega) (by omega) (by omega)
 obtain ⟨W,hW0⟩:∃ A:St,A=Jy w1 [.int .i64 P.x,.int .i64 P.y,.int .i64 (P.kind:Int)] ((H.kind P.kind).row aP):=⟨_,rfl⟩
 rw [← hW0] at ekP1
 have Wn:W.n=w1.n+2:=by rw [hW0];rfl
 have Wm:W.m=far:=by rw [hW0];exact w1m
 have Wg:∀ c,c<w1.n→W.h.get c=w1.h.get c:=fun c hc=>by rw [hW0];exact vz _ _ _ _ hc
 have okrP:∀ t,okA (.val (.agg ((H.kind P.kind).row aP)) t)=.val (.agg ((H.kind P.kind).row aP)) t:=fun _=>rfl
 have fP:cut 0 2 ((H.kind P.kind).row aP)=some [.int .i64 (H.kind P.kind).lo,.int .i64 (H.kind P.kind).hi]:=rfl
 have okS2:∀ (a b:Int) t,okA (.val (.agg [.int .i64 a,.int .i64 b]) t)=.val (.agg [.int .i64 a,.int .i64 b]) t:=fun _ _ _=>rfl
 obtain ⟨w,hw⟩:∃ w:St,w=(W.new (.cells [.int .i64 0,.int .i64 0] (tag 44))).put W.n (.cells [.int .i64 (H.kind P.kind).lo,.int .i64 (H.kind P.kind).hi] (tag 44)):=⟨_,rfl⟩
 have stw:jM 2 (W.new (.cells [.int .i64 0,.int .i64 0] (tag 44))) (.agg [.int .i64 (H.kind P.kind).lo,.int .i64 (H.kind P.kind).hi]) (.ptr W.n 0)=.val .undef w:=by
  rw [hw];exact jk _ 2 _ _ _ _ (zM _ _ _ rfl (by omega)) rfl rfl rfl
 have wn:w.n=W.n+1:=by rw [hw];rfl
 have wm:w.m=min far W.n:=by rw [hw];simp only [St.put,zQ,jF,Wm]
 have wg:∀ c,c<W.n→w.h.get c=W.h.get c:=fun c hc=>by rw [hw,zL _ _ _ _ (by omega),zH _ _ _ (by omega)]
 have w8:w.h.get W.n=some (.cells [.int .i64 (H.kind P.kind).lo,.int .i64 (H.kind P.kind).hi] (tag 44)):=by rw [hw];exact zN _ _ _ _ rfl (by omega)
 have wu:∀ c,c<u.n→w.h.get c=u.h.get c:=fun c hc=>(wg c (by omega)).trans ((Wg c (by omega)).trans (w1g c hc))
 have W5:=(Wg u.n (by omega)).trans w15
 clear hw
 rw [zdQ]
 simp (disch:=first|omega|with_unfolding_all rfl) only [K76,K76r0,Abs.W,reduceIte,Nat.reduceEqDiff,Nat.reduceAdd,Nat.reduceSub]
 rw [← hw1]
 simp (disch:=first|omega|with_unfolding_all rfl) only [yIQ,K76r2,K76r3,Abs.W,reduceIte,Nat.reduceEqDiff,Nat.reduceAdd,Nat.reduceSub,w15,es0,ekP1,zLA,fP,okS2,okrP,stw,kv,lv,Nat.zero_add]
 generalize hlp:jK _ rounds _ _ _ _ _=q1
 obtain ⟨eA,L1,s1,rfl,rfl,l0,l7,l8,sg,sn,sm,sf,sb⟩:=jO hlp (fun i L t=>L.find 0=.ptr p 0∧L.find 7=.int .i64 (H.bay P:Int)∧L.find 8=.ptr W.n 0∧L.find 19=v∧L.find 20=.int .i64 (l.length:Int)∧L.find 21=.int .i64 (i:Int)∧(∀ c,c<u.n→t.h.get c=u.h.get c)∧w.n≤t.n∧t.n≤w.n+5 * i∧u.n≤t.m∧t.m≤far∧t.h.get W.n=some (.cells [.int .i64 ((H.kind P.kind).lo+tot (H.lows (l.take i)) (H.bay P)),.int .i64 ((H.kind P.kind).hi+tot (H.highs (l.take i)) (H.bay P))] (tag 44)))
  (fun e L t=>e=.exit 0∧L.find 0=.ptr p 0∧L.find 7=.int .i64 (H.bay P:Int)∧L.find 8=.ptr W.n 0∧(∀ c,c<u.n→t.h.get c=u.h.get c)∧(w.n≤t.n∧t.n≤w.n+5 * l.length)∧u.n≤t.m∧t.m≤far∧t.h.get W.n=some (.cells [.int .i64 ((H.kind P.kind).lo+tot (H.lows l) (H.bay P)),.int .i64 ((H.kind P.kind).hi+tot (H.highs l) (H.bay P))] (tag 44))) l.length (by unfold rounds;omega)
  ⟨(by simp only [zK,efs,reduceIte,Nat.reduceEqDiff]),(by simp only [zK,efs,reduceIte,Nat.reduceEqDiff]),(by simp only [zK,efs,reduceIte,Nat.reduceEqDiff]),(by simp only [zK,efs,reduceIte,Nat.reduceEqDiff]),(by simp only [zK,efs,reduceIte,Nat.reduceEqDiff]),(by simp only [zK,efs,reduceIte,Nat.reduceEqDiff];rfl),wu,Nat.le_refl _,by omega,by omega,by omega,by
   rw [w8]
   show _=some (AObj.cells [.int .i64 ((H.kind P.kind).lo+0),.int .i64 ((H.kind P.kind).hi+0)] _)
   rw [Int.add_zero,Int.add_zero]⟩
  (fun i L t hi ⟨q0,q7,q8,q19,q20,q21,tg,tn,tl,tm,tf,tb⟩=>by
   by_cases hlt:i<l.length
   ·have e0:decide ((i:Int)<(l.length:Int))=true:=decide_eq_true (by omega)
    have hRt:=hR.grow (h':=t.h) (n':=t.n) tg (by omega)
    obtain ⟨qp,r2,rl0⟩:=hRt.get hlt
    have rl:=rl0 t fun _ _ _=>rfl
    have hIn:=hl _ (List.getElem_mem hlt)
    have hMay:=hm _ (List.getElem_mem hlt)
    have hs1:=ZJJ H hlt (H.bay P)
    have hs2:=vEJ H hlt (H.bay P)
    have hlk:∀ q ∈ l.take i,q.kind<H.kinds.length:=fun q hq=>(hl q (List.mem_of_mem_take hq)).k
    have hbd:=WSA ok hlk (by rw [List.length_take];omega) (H.bay P)
    generalize l[i]=Q at *
    obtain ⟨x,y,ex,ey,hx,hy⟩:=zIA hMay
    have hkQ:=vP ok hIn.k
    have k0:=hkQ.l0
    have k1:=hkQ.l1
    have k2:=hkQ.l2
    have hbay:=vjA (H:=H) ex ey
    have ad:∀ s,jI s .i64 (i:Int) 1=.val (.int .i64 ((i:Int)+1)) s:=fun s=>za s _ _ (by omega)
    obtain ⟨z,hz⟩:∃ z:St,z=(t.new (.cells [.int .i64 0,.int .i64 0,.int .i64 0] (tag 51))).put t.n (.cells Q.row (tag 51)):=⟨_,rfl⟩
    have okR:∀ t,okA (.val (.agg Q.row) t)=.val (.agg Q.row) t:=fun _=>rfl
    have stz:jM 3 (t.new (.cells [.int .i64 0,.int .i64 0,.int .i64 0] (tag 51))) (.agg Q.row) (.ptr t.n 0)=.val .undef z:=by
     rw [hz];exact jk _ 3 _ _ _ _ (zM _ _ _ rfl (by omega)) rfl rfl rfl
    have zn:z.n=t.n+1:=by rw [hz];rfl
    have zm:z.m=min t.m t.n:=by rw [hz];simp only [St.put,zQ,jF]
    have zg:∀ c,c<t.n→z.h.get c=t.h.get c:=fun c hc=>by rw [hz,zL _ _ _ _ (by omega),zH _ _ _ (by omega)]
    have zt:z.h.get t.n=some (.cells [.int .i64 Q.x,.int .i64 Q.y,.int .i64 (Q.kind:Int)] (tag 51)):=by rw [hz];exact zN _ _ _ _ rfl (by omega)
    have zu:∀ c,c<u.n→z.h.get c=u.h.get c:=fun c hc=>(zg c (by omega)).trans (tg c hc)
    have gz:=(zu p hp).trans g
    have zb:=(zg W.n (by omega)).trans tb
    clear hz
    have es:=zZA n (by omega) hS (show x<6 by omega) (show y<4 by omega) (Q.kind:Int) z gz (by omega) (by omega)
    rw [Jp sz hx hy,← ex,← ey,← hbay] at es
    by_cases hbq:H.bay Q=H.bay P
    ·have d1:decide ((H.bay Q:Int)=(H.bay P:Int))=true:=decide_eq_true (by omega)
     rw [if_pos hbq] at hs1 hs2
     obtain ⟨aw,hA,ek⟩:=JO n (by omega) hS hIn.k ok u hK g hp
     have ek1:=ek Q.x Q.y ⟨z.h,z.n,far⟩ zu (by show u.n≤z.n;omega) (by show z.n+10≤far;omega) (Nat.le_refl _)
     obtain ⟨A,hA0⟩:∃ A:St,A=Jy ⟨z.h,z.n,far⟩ [.int .i64 Q.x,.int .i64 Q.y,.int .i64 (Q.kind:Int)] ((H.kind Q.kind).row aw):=⟨_,rfl⟩
     rw [← hA0] at ek1
     have An:A.n=z.n+2:=by rw [hA0];rfl
     have Am:A.m=far:=by rw [hA0];rfl
     have Ag:∀ c,c<z.n→A.h.get c=z.h.get c:=fun c hc=>by rw [hA0];exact vz _ _ _ _ hc
     obtain ⟨Z,hZ⟩:∃ Z:St,Z=⟨A.h,A.n,yA z.m A.m⟩:=⟨_,rfl⟩
     have Zn:Z.n=z.n+2:=by rw [hZ];exact An
     have Zm:Z.m=z.m:=by rw [hZ];show yA z.m A.m=_;rw [zQ];omega
     have Zg:∀ c,c<z.n→Z.h.get c=z.h.get c:=fun c hc=>by rw [hZ];exact Ag c hc
     have tv1:∀ ws v d rest cl L,WV (some ws) (.val v A) d rest cl L z=rest cl (d.put v L) Z:=fun ws v d rest cl L=>by rw [hZ];exact wk _ _ _ _ _ _ _ _ (by omega)
     have okr:∀ t,okA (.val (.agg ((H.kind Q.kind).row aw)) t)=.val (.agg ((H.kind Q.kind).row aw)) t:=fun _=>rfl
     have f0:cut 0 2 ((H.kind Q.kind).row aw)=some [.int .i64 (H.kind Q.kind).lo,.int .i64 (H.kind Q.kind).hi]:=rfl
     obtain ⟨a,ha⟩:∃ a,a=(H.kind P.kind).lo+tot (H.lows (l.take i)) (H.bay P):=⟨_,rfl⟩
     obtain ⟨b',hb'⟩:∃ b,b=(H.kind P.kind).hi+tot (H.highs (l.take i)) (H.bay P):=⟨_,rfl⟩
     rw [← ha,← hb'] at zb
     obtain ⟨Y',hY'⟩:∃ Y:St,Y=Z.new (.cells [.int .i64 a,.int .i64 b',.int .i64 (H.kind Q.kind).lo,.int .i64 (H.kind Q.kind).hi] 0):=⟨_,rfl⟩
     have Yn:Y'.n=Z.n+1:=by rw [hY'];rfl
     have Ym:Y'.m=Z.m:=by rw [hY'];rfl
     have Yg:∀ c,c<Z.n→Y'.h.get c=Z.h.get c:=fun c hc=>by rw [hY',zH _ _ _ (by omega)]
     have Yt:Y'.h.get Z.n=some (.cells [.int .i64 a,.int .i64 b',.int .i64 (H.kind Q.kind).lo,.int .i64 (H.kind Q.kind).hi] 0):=by rw [hY'];exact zM _ _ _ rfl (by omega)
     have esum:=vsJ n (by omega) _ _ _ _ Z.n 0 Y' Yt (by omega) (by omega) (by omega) ⟨k0,by omega⟩ ⟨by omega,by omega⟩ (by omega)
     have Yb:=(Yg W.n (by omega)).trans ((Zg W.n (by omega)).trans zb)
     have stY:jM 2 Y' (.agg [.int .i64 (a+(H.kind Q.kind).lo),.int .i64 (b'+(H.kind Q.kind).hi)]) (.ptr W.n 0)=.val .undef (Y'.put W.n (.cells [.int .i64 (a+(H.kind Q.kind).lo),.int .i64 (b'+(H.kind Q.kind).hi)] (tag 44))):=jk _ 2 _ _ _ _ Yb rfl rfl rfl
     refine .inl ⟨hlt,?_⟩
     simp (disch:=first|omega|with_unfolding_all rfl) only [wtJ,K76r4,K76r5,K76r6,Abs.W,reduceIte,Nat.reduceEqDiff,Nat.reduceAdd,Nat.reduceSub,Nat.zero_add,q0,q7,q19,q20,q21,e0,kv,r2,rl,okR,stz,zt,es,zLA,d1]
     simp (disch:=first|omega|with_unfolding_all rfl) only [yHQ,Abs.W,reduceIte,Nat.reduceEqDiff,Nat.reduceAdd,Nat.reduceSub,Nat.zero_add,q0,q8,zb,zt,okS2,ek1,tv1,okr,zLA,f0]
     rw [← hY']
     simp (disch:=first|omega|(with_unfolding_all exact rfl)|(simp only[zW,jB,jF];omega)|(refine jU ?_;simp only[jF];omega)) only [K76r8,Abs.W,reduceIte,Nat.reduceEqDiff,Nat.reduceAdd,Nat.reduceSub,esum,stY,Nat.zero_add,q8,q21,ad]
     refine ⟨_,_,rfl,?_,?_,?_,?_,?_,?_,fun c hc=>?_,?_,?_,?_,?_,?_⟩
     ·simp only [efs,q0,reduceIte,Nat.reduceEqDiff]
     ·simp only [efs,q7,reduceIte,Nat.reduceEqDiff]
     ·simp only [efs,q8,reduceIte,Nat.reduceEqDiff]
     ·simp only [efs,q19,reduceIte,Nat.reduceEqDiff]
     ·simp only [efs,q20,reduceIte,Nat.reduceEqDiff]
     ·simp only [efs,reduceIte,Nat.reduceEqDiff];rfl
     ·rw [zL _ _ _ _ (by omega),Yg c (by omega),Zg c (by omega)];exact zu c hc
     ·rw [jB];omega
     ·rw [jB];omega
     ·simp only [St.put,zQ];omega
     ·simp only [St.put,zQ];omega
     ·rw [zN _ _ _ _ rfl (by omega),hs1,hs2,ha,hb',Int.add_assoc,Int.add_assoc]
    ·have d1:decide ((H.bay Q:Int)=(H.bay P:Int))=false:=decide_eq_false (by omega)
     rw [if_neg hbq] at hs1 hs2
     refine .inl ⟨hlt,?_⟩
     simp (disch:=first|omega|with_unfolding_all rfl) only [wtJ,K76r4,K76r5,K76r6,K76r8,Abs.W,reduceIte,Nat.reduceEqDiff,Nat.reduceAdd,Nat.reduceSub,Nat.zero_add,q0,q7,q19,q20,q21,e0,kv,r2,rl,okR,stz,zt,es,zLA,d1,ad]
     refine ⟨_,_,rfl,?_,?_,?_,?_,?_,?_,zu,by omega,by omega,by omega,by omega,by rw [hs1,hs2,Int.add_zero,Int.add_zero];exact zb⟩
     ·simp only [efs,q0,reduceIte,Nat.reduceEqDiff]
     ·simp only [efs,q7,reduceIte,Nat.reduceEqDiff]
     ·simp only [efs,q8,reduceIte,Nat.reduceEqDiff]
     ·simp only [efs,q19,reduceIte,Nat.reduceEqDiff]
     ·simp only [efs,q20,reduceIte,Nat.reduceEqDiff]
     ·simp only [efs,reduceIte,Nat.reduceEqDiff];rfl
   ·obtain rfl:i=l.length:=by omega
    have e0:decide ((l.length:Int)<(l.length:Int))=false:=by simp
    rw [List.take_length] at tb
    refine .inr ⟨.exit 0,L.set 22 (.bool false),t,by simp,?_,rfl,?_,?_,?_,tg,⟨tn,tl⟩,tm,tf,tb⟩
    ·simp (disch:=first|omega|with_unfolding_all rfl) only [wtJ,K76r4,Abs.W,reduceIte,Nat.reduceEqDiff,Nat.reduceAdd,Nat.reduceSub,q20,q21,e0]
    ·simp only [efs,q0,reduceIte,Nat.reduceEqDiff]
    ·simp only [efs,q7,reduceIte,Nat.reduceEqDiff]
    ·simp only [efs,q8,reduceIte,Nat.reduceEqDiff])
 have hBt:=hB0.grow (h':=s1.h) (n':=s1.n) sg (by omega)
 have g1:=(sg p hp).trans g
 obtain ⟨cb,co,cc,csz,j1,j2,j3,j4⟩:=Jb hBt.at_ (i:=H.bay P) (by omega)
 have eB:H.bears[H.bay P]'(by omega)=H.bears.getD (H.bay P) 0:=by rw [List.getD_eq_getElem?_getD,List.getElem?_eq_getElem (by omega)];rfl
 rw [eB] at j4
 have hsn:=sn.1
 have hsl:=sn.2
 simp (disch:=first|omega|with_unfolding_all rfl) only [yGQ,res76,Abs.W,reduceIte,Nat.reduceEqDiff,Nat.reduceAdd,Nat.reduceSub,Nat.zero_add,l0,l7,l8,sb,g1,h6,kB,j2,j3,j4]
 exact ⟨_,rfl,by omega⟩
structure HallR.Takes (H:HallR) (l:List PutR) (P:PutR):Prop where
 e:H.putE l P=0
 m:(many l P.kind:Int)<(H.kind P.kind).most
 c:(H.kind P.kind).hi+tot (H.highs l) (H.bay P)≤H.bears.getD (H.bay P) 0
theorem zQJ (l:List PutR) (P:PutR) (k:Nat):many (l++[P]) k=many l k+if P.kind=k then 1 else 0:=by
 unfold many
 rw [List.filter_append,List.length_append,List.filter_cons]
 split<;>simp_all
theorem JwA (H:HallR) (l:List PutR) (P:PutR) (b:Nat):tot (H.highs (l++[P])) b=tot (H.highs l) b+if H.bay P=b then (H.kind P.kind).hi else 0:=by
 unfold HallR.highs;rw [List.map_append];exact Zd _ _ _
theorem vSQ {H:HallR} (sz:H.Size) {P:PutR} (h:H.In P.c):H.bay P<H.bays:=by
 obtain ⟨x,y,ex,ey,hx,hy⟩:=zIA h
 rw [vjA ex ey]
 exact gjA sz hx hy
theorem jcA {H:HallR} (ok:H.Ok) {l:List PutR} {P:PutR} (hv:H.Valid l) (h1:H.verdict l=1) (hl:∀ q ∈ l,q.In H) (hP:P.In H):H.Takes l P↔H.Valid (l++[P])∧H.verdict (l++[P])=1:=by
 have hl':∀ q ∈ l++[P],q.In H:=fun q hq=>by
  rcases List.mem_append.mp hq with h | h
  ·exact hl q h
  ·rw [List.mem_singleton.mp h];exact hP
 have hs:=(vxA ok hl).mp h1
 rw [vxA ok hl']
 constructor
 ·intro ⟨he,hm,hc⟩
  obtain ⟨a1,a2⟩:=wO.mp he
  refine ⟨⟨fun q hq=>?_,List.pairwise_append.mpr ⟨hv.p,List.pairwise_singleton _ _,fun a ha b hb=>?_⟩,fun k hk=>?_⟩,fun b hb=>?_⟩
  ·rcases List.mem_append.mp hq with h | h
   ·exact hv.m q h
   ·rw [List.mem_singleton.mp h];exact a1
  ·rw [List.mem_singleton.mp hb];exact a2 a ha
  ·rw [zQJ]
   have:=hv.o k hk
   by_cases e:P.kind=k
   ·subst e;rw [if_pos rfl];omega
   ·rw [if_neg e];omega
  ·show tot (H.highs (l++[P])) b≤_
   rw [JwA]
   by_cases e:H.bay P=b
   ·subst e;rw [if_pos rfl];omega
   ·rw [if_neg e]
    have:tot (H.highs l) b≤H.bears.getD b 0:=hs b hb
    omega
 ·intro ⟨⟨a1,a2,a3⟩,hb⟩
  have hm:=a1 P (List.mem_append_right _ (List.mem_singleton_self P))
  obtain ⟨_,_,a4⟩:=List.pairwise_append.mp a2
  refine ⟨wO.mpr ⟨hm,fun q hq=>a4 q hq P (List.mem_singleton_self P)⟩,?_,?_⟩
  ·have:=a3 P.kind hP.k
   rw [zQJ,if_pos rfl] at this
   omega
  ·have:tot (H.highs (l++[P])) (H.bay P)≤_:=hb _ (vSQ ok.toSize hm.i)
   rw [JwA,if_pos rfl] at this
   omega
def HallR.good (H:HallR) (l:List PutR) (k:Nat) (c:Int × Int):Prop:=H.Valid (l++[⟨c.1,c.2,k⟩])∧H.verdict (l++[⟨c.1,c.2,k⟩])=1
noncomputable def HallR.goodB (H:HallR) (l:List PutR) (k:Nat) (c:Int × Int):Bool:=@decide (H.good l k c) (Classical.propDecidable _)
noncomputable def HallR.seen (H:HallR) (l:List PutR) (k m:Nat):Nat:=((H.placesI.take m).filter (H.goodB l k)).length
def Bt (w v:Int × Int):Prop:=v.1<w.1∨w.1=v.1∧w.2<v.2
instance (w v:Int × Int):Decidable (Bt w v):=by unfold Bt;exact inferInstance
def wplus (w v:Int × Int):Int × Int:=(w.1+v.1,w.2+v.2)
theorem VSJ {a b c:Int × Int} (h:Bt a b) (g:¬ Bt c b):Bt a c:=by unfold Bt at *;omega
theorem WD {a b c:Int × Int} (h:¬ Bt a b) (g:¬ Bt b c):¬ Bt a c:=by unfold Bt at *;omega
theorem vbJ {a b:Int × Int} (h:Bt a b):¬ Bt b a:=by unfold Bt at *;omega
theorem VL (a:Int × Int):¬ Bt a a:=by unfold Bt;omega
def First:List PutR→List PutR→Prop
 | p::a,q::b=>p.y<q.y∨p.y=q.y∧(p.x<q.x∨p.x=q.x∧(p.kind<q.kind∨p.kind=q.kind∧First a b))
 | _,_=>False
theorem yEA (b:List PutR):¬ First [] b:=by cases b<;>exact id
theorem yFA (l a b:List PutR):First (l++a) (l++b)↔First a b:=by
 induction l with
 | nil=>exact Iff.rfl
 | cons p l ih =>
  show (p.y<p.y∨p.y=p.y∧(p.x<p.x∨p.x=p.x∧(p.kind<p.kind∨p.kind=p.kind∧First (l++a) (l++b))))↔_
  rw [ih]
  constructor
  ·rintro (h | ⟨_,h | ⟨_,h | ⟨_,h⟩⟩⟩)
   ·omega
   ·omega
   ·omega
   ·exact h
  ·exact fun h=>.inr ⟨rfl,.inr ⟨rfl,.inr ⟨rfl,h⟩⟩⟩
theorem zMA (l:List PutR):¬ First l l:=fun h=>by
 have:=yFA l [] []
 rw [List.append_nil] at this
 exact yEA _ (this.mp h)
def Later (c d:Int × Int):Prop:=c.2<d.2∨c.2=d.2∧c.1<d.1
abbrev yC (c:Int × Int) (k:Nat):PutR:=⟨c.1,c.2,k⟩
section
variable (K:Nat) (tB:List PutR→PutR→Bool) (w:List PutR→Int × Int) (rent:Nat→Int)
inductive Ext:List (Int × Int)→List PutR→List PutR→Prop
 | nil (l:List PutR):Ext [] l l
 | skip {c:Int × Int} {rest:List (Int × Int)} {l x:List PutR} (h:Ext rest l x):Ext (c::rest) l x
 | put {c:Int × Int} {rest:List (Int × Int)} {l x:List PutR} (k:Nat) (hk:k<K) (ht:tB l (yC c k)=true) (h:Ext rest (l++[yC c k]) x):Ext (c::rest) l x
theorem VY:∀ (rest:List (Int × Int)) (l:List PutR),Ext K tB rest l l
 | [],l=>.nil l
 | _::rest,l=>.skip (VY rest l)
theorem jSA {rest:List (Int × Int)} {l x:List PutR} (h:Ext K tB rest l x):∃ e,x=l++e∧(e=[]∨∃ q e',e=q::e'∧q.c ∈ rest):=by
 induction h with
 | nil l=>exact ⟨[],by simp,.inl rfl⟩
 | skip _ ih =>
  obtain ⟨e,h1,h2⟩:=ih
  exact ⟨e,h1,h2.imp id fun ⟨q,e',h3,h4⟩=>⟨q,e',h3,List.mem_cons_of_mem _ h4⟩⟩
 | put k hk ht _ ih =>
  obtain ⟨e,h1,_⟩:=ih
  exact ⟨yC _ k::e,by rw [h1,List.append_assoc];rfl,.inr ⟨_,_,rfl,List.mem_cons_self ..⟩⟩
def WTA (c:Int × Int):Int × Int:=(List.range K).foldl (fun t k=>if Bt (rent k,1) t∧tB [] (yC c k)=true then (rent k,1) else t) (0,0)
def VT:List (Int × Int)→Int × Int
 | []=>(0,0)
 | c::rest=>wplus (VT rest) (WTA K tB rent c)
theorem ZwJ (c:Int × Int) (n:Nat):¬ Bt (0,0) ((List.range n).foldl (fun t k=>if Bt (rent k,1) t∧tB [] (yC c k)=true then (rent k,1) else t) (0,0))∧∀ k,k<n→tB [] (yC c k)=true→¬ Bt (rent k,1) ((List.range n).foldl (fun t k=>if Bt (rent k,1) t∧tB [] (yC c k)=true then (rent k,1) else t) (0,0)):=by
 induction n with
 | zero=>exact ⟨VL _,fun k hk=>by omega⟩
 | succ n ih =>
  rw [List.range_succ,List.foldl_append,List.foldl_cons,List.foldl_nil]
  generalize (List.range n).foldl (fun t k=>if Bt (rent k,1) t∧tB [] (yC c k)=true then (rent k,1) else t) (0,0)=t at *
  obtain ⟨i1,i2⟩:=ih
  by_cases h:Bt (rent n,1) t∧tB [] (yC c n)=true
  ·rw [if_pos h]
   refine ⟨WD i1 (vbJ h.1),fun k hk ht=>?_⟩
   by_cases e:k=n
   ·subst e;exact VL _
   ·exact WD (i2 k (by omega) ht) (vbJ h.1)
  ·rw [if_neg h]
   refine ⟨i1,fun k hk ht=>?_⟩
   by_cases e:k=n
   ·subst e;exact fun hb=>h ⟨hb,ht⟩
   ·exact i2 k (by omega) ht
variable {K tB w rent}
theorem WtJ (hw:∀ l p,w (l++[p])=wplus (w l) (rent p.kind,1)) (hm:∀ l p,tB l p=true→tB [] p=true) {rest:List (Int × Int)} {l x:List PutR} (h:Ext K tB rest l x):¬ Bt (w x) (wplus (w l) (VT K tB rent rest)):=by
 induction h with
 | nil l =>
  unfold VT wplus Bt
  simp only
  omega
 | @skip c rest l x _ ih =>
  have h1:=(ZwJ tB rent c K).1
  have h2:¬ Bt (0,0) (WTA K tB rent c):=h1
  show ¬ Bt _ (wplus _ (wplus (VT K tB rent rest) (WTA K tB rent c)))
  unfold Bt wplus at *
  simp only at *
  omega
 | @put c rest l x k hk ht _ ih =>
  have h1:=(ZwJ tB rent c K).2 k hk (hm _ _ ht)
  have h2:¬ Bt (rent k,1) (WTA K tB rent c):=h1
  rw [hw] at ih
  show ¬ Bt _ (wplus _ (wplus (VT K tB rent rest) (WTA K tB rent c)))
  unfold Bt wplus at *
  simp only at *
  omega
def Finds (w:List PutR→Int × Int) (S:List PutR→Prop) (s t:(Int × Int) × List PutR):Prop:=(∀ x,S x→¬ Bt (w x) t.1)∧(t=s∨S t.2∧t.1=w t.2∧Bt t.1 s.1∧∀ x,S x→w x=t.1→¬ First x t.2)
theorem ztJ {S:List PutR→Prop} {s t:(Int × Int) × List PutR} (h:Finds w S s t):¬ Bt s.1 t.1:=by
 rcases h.2 with e | ⟨_,_,h,_⟩
 ·rw [e];exact VL _
 ·exact vbJ h
theorem YEA (hl:∀ x,(w x).2=x.length) {A B C:List PutR→Prop} {s t u:(Int × Int) × List PutR} (a:Finds w A s t) (b:Finds w B t u) (hc:∀ x,C x↔A x∨B x) (hx:∀ x y,B x→A y→x.length=y.length→¬ First x y):Finds w C s u:=by
 refine ⟨fun x h=>?_,?_⟩
 ·rcases (hc x).mp h with h | h
  ·exact WD (a.1 x h) (ztJ b)
  ·exact b.1 x h
 ·rcases b.2 with e | ⟨b1,b2,b3,b4⟩
  ·rw [e]
   rcases a.2 with e' | ⟨a1,a2,a3,a4⟩
   ·exact .inl e'
   ·refine .inr ⟨(hc _).mpr (.inl a1),a2,a3,fun x h he=>?_⟩
    rcases (hc x).mp h with h | h
    ·exact a4 x h he
    ·refine hx x t.2 h a1 ?_
     have h1:=hl x
     have h2:=hl t.2
     rw [he,a2,h2] at h1
     omega
  ·refine .inr ⟨(hc _).mpr (.inr b1),b2,VSJ b3 (ztJ a),fun x h he=>?_⟩
   rcases (hc x).mp h with h | h
   ·exact absurd (he▸b3) (a.1 x h)
   ·exact b4 x h he
def bump (w:List PutR→Int × Int) (l:List PutR) (s:(Int × Int) × List PutR):(Int × Int) × List PutR:=if Bt (w l) s.1 then (w l,l) else s
theorem gDA (l:List PutR) (s:(Int × Int) × List PutR):Finds w (fun x=>x=l) s (bump w l s):=by
 unfold bump
 by_cases h:Bt (w l) s.1
 ·rw [if_pos h]
  exact ⟨fun x e=>by rw [e];exact VL _,.inr ⟨rfl,rfl,h,fun x e _=>by
   rw [e]
   exact zMA l⟩⟩
 ·rw [if_neg h]
  exact ⟨fun x e=>by rw [e];exact h,.inl rfl⟩
variable (K tB w rent)
def srch:List (Int × Int)→List PutR→(Int × Int) × List PutR→(Int × Int) × List PutR
 | [],l,s=>bump w l s
 | c::rest,l,s =>
  if Bt (wplus (w l) (VT K tB rent (c::rest))) (bump w l s).1 then srch rest l ((List.range K).foldl (fun s k=>if tB l (yC c k)=true then srch rest (l++[yC c k]) s else s) (bump w l s)) else bump w l s
variable {K tB w rent}
theorem yGA {A C:List PutR→Prop} {s t:(Int × Int) × List PutR} (a:Finds w A s t) (hc:∀ x,C x↔A x):Finds w C s t :=
 ⟨fun x h=>a.1 x ((hc x).mp h),a.2.imp id fun ⟨a1,a2,a3,a4⟩=>⟨(hc _).mpr a1,a2,a3,fun x h=>a4 x ((hc x).mp h)⟩⟩
theorem YfA (hw:∀ l p,w (l++[p])=wplus (w l) (rent p.kind,1)) (hl:∀ x,(w x).2=x.length) (hm:∀ l p,tB l p=true→tB [] p=true):∀ (rest:List (Int × Int)) (l:List PutR) (s:(Int × Int) × List PutR),rest.Pairwise Later→Finds w (Ext K tB rest l) s (srch K tB w rent rest l s)
 | [],l,s,_=>by
  refine yGA (gDA l s) fun x=>⟨fun h=>?_,fun h=>by rw [h];exact .nil l⟩
  cases h;rfl
 | c::rest,l,s,hp=>by
  obtain ⟨hc,hp'⟩:=List.pairwise_cons.mp hp
  have h0:=gDA (w:=w) l s
  by_cases hb:Bt (wplus (w l) (VT K tB rent (c::rest))) (bump w l s).1
  ·have hk:∀ n,Finds w (fun x=>x=l∨∃ k,k<n∧tB l (yC c k)=true∧Ext K tB rest (l++[yC c k]) x) s ((List.range n).foldl (fun s k=>if tB l (yC c k)=true then srch K tB w rent rest (l++[yC c k]) s else s) (bump w l s)):=fun n=>by
    induction n with
    | zero=>exact yGA h0 fun x=>⟨fun h=>h.elim id fun ⟨k,hk,_⟩=>by omega,.inl⟩
    | succ n ih =>
     rw [List.range_succ,List.foldl_append,List.foldl_cons,List.foldl_nil]
     by_cases ht:tB l (yC c n)=true
     ·rw [if_pos ht]
      refine YEA hl ih (YfA hw hl hm rest (l++[yC c n]) _ hp') (fun x=>⟨?_,?_⟩) fun x y hx hy hxy=>?_
      ·rintro (h | ⟨k,hk,h1,h2⟩)
       ·exact .inl (.inl h)
       ·by_cases e:k=n
        ·subst e;exact .inr h2
        ·exact .inl (.inr ⟨k,by omega,h1,h2⟩)
      ·rintro ((h | ⟨k,hk,h1,h2⟩) | h)
       ·exact .inl h
       ·exact .inr ⟨k,by omega,h1,h2⟩
       ·exact .inr ⟨n,by omega,ht,h⟩
      ·obtain ⟨e,rfl,_⟩:=jSA K tB hx
       rcases hy with rfl | ⟨k,hk,_,h2⟩
       ·rw [List.length_append,List.length_append,List.length_singleton] at hxy
        omega
       ·obtain ⟨e',rfl,_⟩:=jSA K tB h2
        rw [List.append_assoc,List.append_assoc,yFA]
        show ¬ (c.2<c.2∨c.2=c.2∧(c.1<c.1∨c.1=c.1∧(n<k∨n=k∧_)))
        omega
     ·rw [if_neg ht]
      refine yGA ih fun x=>⟨?_,?_⟩
      ·rintro (h | ⟨k,hk,h1,h2⟩)
       ·exact .inl h
       ·by_cases e:k=n
        ·subst e;exact absurd h1 ht
        ·exact .inr ⟨k,by omega,h1,h2⟩
      ·rintro (h | ⟨k,hk,h1,h2⟩)
       ·exact .inl h
       ·exact .inr ⟨k,by omega,h1,h2⟩
   unfold srch
   rw [if_pos hb]
   refine YEA hl (hk K) (YfA hw hl hm rest l _ hp') (fun x=>⟨fun h=>?_,?_⟩) fun x y hx hy hxy=>?_
   ·cases h with
    | skip h=>exact .inr h
    | put k hk ht h=>exact .inl (.inr ⟨k,hk,ht,h⟩)
   ·rintro ((h | ⟨k,hk,h1,h2⟩) | h)
    ·rw [h];exact VY K tB _ l
    ·exact .put k hk h1 h2
    ·exact .skip h
   ·obtain ⟨e,rfl,he⟩:=jSA K tB hx
    rcases hy with rfl | ⟨k,hk,_,h2⟩
    ·have:e=[]:=by
      rw [List.length_append] at hxy
      exact List.length_eq_zero_iff.mp (by omega)
     subst this
     rw [List.append_nil]
     exact zMA y
    ·obtain ⟨e',rfl,_⟩:=jSA K tB h2
     rw [List.append_assoc,yFA]
     rcases he with rfl | ⟨q,e2,rfl,hq⟩
     ·exact yEA _
     ·have hlt:=hc _ hq
      unfold Later at hlt
      show ¬ (q.y<c.2∨q.y=c.2∧(q.x<c.1∨q.x=c.1∧_))
      simp only at hlt
      omega
  ·unfold srch
   rw [if_neg hb]
   refine ⟨fun x hx=>WD (WtJ hw hm hx) hb,?_⟩
   rcases h0.2 with e | ⟨a1,a2,a3,a4⟩
   ·exact .inl e
   ·refine .inr ⟨by rw [a1];exact VY K tB _ l,a2,a3,fun x hx he=>?_⟩
    obtain ⟨e,rfl,he'⟩:=jSA K tB hx
    have h1:=hl (l++e)
    have h2:=hl (bump w l s).2
    rw [he,a2,h2,a1,List.length_append] at h1
    have:e=[]:=List.length_eq_zero_iff.mp (by omega)
    subst this
    rw [a1]
    rw [List.append_nil]
    exact zMA l
end
abbrev wtR (w:Int × Int):List AV:=[.int .i64 w.1,.int .i64 w.2]
theorem giA (N:Nat) (hN:1≤N) (w v:Int × Int) (s:St) (hs:s.n+10≤far):call Try.prog X N (.fn 83) [.agg [.int .i64 w.1,.int .i64 w.2],.agg [.int .i64 v.1,.int .i64 v.2]] s=.val (.bool (decide (Bt w v))) s:=by
 obtain ⟨n,rfl⟩:∃ n,N=n+1:=⟨N - 1,by omega⟩
 refine zj Try.func83 (fun u uh un um=>?_) rfl
 have hf:=hfar
 obtain ⟨y,hy⟩:∃ y:St,y=(u.new (.cells (wtR w) (tag 120))).new (.cells (wtR v) (tag 120)):=⟨_,rfl⟩
 have yn:y.n=u.n+2:=by rw [hy];rfl
 have ym:y.m=far:=by rw [hy];exact um
 have y2:y.h.get u.n=some (.cells [.int .i64 w.1,.int .i64 w.2] (tag 120)):=by rw [hy,zH _ _ _ (by rw [zW];omega)];exact zM _ _ _ rfl (by omega)
 have y3:y.h.get (u.n+1)=some (.cells [.int .i64 v.1,.int .i64 v.2] (tag 120)):=by rw [hy];exact zM _ _ _ rfl (by rw [zW];omega)
 have u7:=eq3 WAA.eq_1
 have u8:=eq3 VzA.eq_1
 have u9:=eq3 VyA.eq_1
 have u10:=eq3 ZWA.eq_1
 have u11:=eq3 ZVA.eq_1
 have u12:=eq3 ZUA.eq_1
 have u13:=eq3 ZTA.eq_1
 have u14:=eq3 ZSA.eq_1
 have u15:=eq3 ZRA.eq_1
 have u16:=eq3 ZQA.eq_1
 have u17:=eq3 ZPA.eq_1
 have u18:=eq3 ZOA.eq_1
 rw [zWQ]
 simp (disch:=first|omega|with_unfolding_all rfl) only [K83,K83r0,Abs.W,reduceIte,Nat.reduceEqDiff,Nat.reduceAdd,Nat.reduceSub,zW]
 rw [← hy]
 clear hy
 cases h1:decide (v.1<w.1) with
 | true =>
  have hb:decide (Bt w v)=true:=decide_eq_true (.inl (of_decide_eq_true h1))
  simp (disch:=first|omega|with_unfolding_all rfl) only [wpJ,u7,u8,u9,u10,u11,u12,u13,u14,u15,u16,u17,u18,res83,Abs.W,reduceIte,Nat.reduceEqDiff,Nat.reduceAdd,Nat.reduceSub,Nat.zero_add,y2,y3,h1,hb]
  exact ⟨_,rfl,by omega⟩
 | false =>
  have h1':=of_decide_eq_false h1
  cases h2:decide (w.1=v.1) with
  | false =>
   have h2':=of_decide_eq_false h2
   have hb:decide (Bt w v)=false:=decide_eq_false (by unfold Bt;omega)
   simp (disch:=first|omega|with_unfolding_all rfl) only [wpJ,u7,u8,u9,u10,u11,u12,u13,u14,u15,u16,u17,u18,res83,Abs.W,reduceIte,Nat.reduceEqDiff,Nat.reduceAdd,Nat.reduceSub,Nat.zero_add,y2,y3,h1,h2,hb]
   exact ⟨_,rfl,by omega⟩
  | true =>
   have h2':=of_decide_eq_true h2
   have hb:decide (w.2<v.2)=decide (Bt w v):=decide_eq_decide.mpr (by unfold Bt;omega)
   simp (disch:=first|omega|with_unfolding_all rfl) only [wpJ,u7,u8,u9,u10,u11,u12,u13,u14,u15,u16,u17,u18,res83,Abs.W,reduceIte,Nat.reduceEqDiff,Nat.reduceAdd,Nat.reduceSub,Nat.zero_add,y2,y3,h1,h2,hb]
   exact ⟨_,rfl,by omega⟩
theorem YwA (N:Nat) (hN:1≤N) (w v:Int × Int) (s:St) (hw:(0≤w.1∧w.1≤100000000)∧0≤w.2∧w.2≤100000000) (hv:(0≤v.1∧v.1≤100000000)∧0≤v.2∧v.2≤100000000) (hs:s.n+10≤far):call Try.prog X N (.fn 85) [.agg [.int .i64 w.1,.int .i64 w.2],.agg [.int .i64 v.1,.int .i64 v.2]] s=.val (.agg [.int .i64 (w.1+v.1),.int .i64 (w.2+v.2)]) s:=by
 obtain ⟨n,rfl⟩:∃ n,N=n+1:=⟨N - 1,by omega⟩
 refine zj Try.func85 (fun u uh un um=>?_) rfl
 have hf:=hfar
 have shF:yH Try.prog 120=some (some 2):=by kernel_rfl
 obtain ⟨y,hy⟩:∃ y:St,y=((u.new (.cells (wtR w) (tag 120))).new (.cells (wtR v) (tag 120))).new (.cells [.int .i64 0,.int .i64 0] (tag 120)):=⟨_,rfl⟩
 have yn:y.n=u.n+3:=by rw [hy];rfl
 have ym:y.m=far:=by rw [hy];exact um
 have y2:y.h.get u.n=some (.cells [.int .i64 w.1,.int .i64 w.2] (tag 120)):=by rw [hy,zH _ _ _ (by simp only [zW];omega),zH _ _ _ (by rw [zW];omega)];exact zM _ _ _ rfl (by omega)
 have y3:y.h.get (u.n+1)=some (.cells [.int .i64 v.1,.int .i64 v.2] (tag 120)):=by rw [hy,zH _ _ _ (by simp only [zW];omega)];exact zM _ _ _ rfl (by rw [zW];omega)
 have y4:y.h.get (u.n+2)=some (.cells [.int .i64 0,.int .i64 0] (tag 120)):=by rw [hy];exact zM _ _ _ rfl (by simp only [zW];omega)
 have a1:∀ s,jI s .i64 w.1 v.1=.val (.int .i64 (w.1+v.1)) s:=fun s=>za s _ _ (by omega)
 have a2:∀ s,jI s .i64 w.2 v.2=.val (.int .i64 (w.2+v.2)) s:=fun s=>za s _ _ (by omega)
 have st:jM 2 y (.agg [.int .i64 (w.1+v.1),.int .i64 (w.2+v.2)]) (.ptr (u.n+2) 0)=.val .undef (y.put (u.n+2) (.cells [.int .i64 (w.1+v.1),.int .i64 (w.2+v.2)] (tag 120))):=jk _ 2 _ _ _ _ y4 rfl rfl rfl
 rw [zVQ]
 simp (disch:=first|omega|with_unfolding_all rfl) only [K85,K85r0,Abs.W,reduceIte,Nat.reduceEqDiff,Nat.reduceAdd,Nat.reduceSub,zW]
 rw [← hy]
 simp (disch:=first|omega|with_unfolding_all rfl) only [yCQ,Abs.W,reduceIte,Nat.reduceEqDiff,Nat.reduceAdd,Nat.reduceSub,Nat.zero_add,y2,y3,a1,a2,st]
 rw [res85]
 refine ⟨_,yz _ _ _ _ shF ?_,?_⟩
 ·rw [show (Env.find 4 _)=AV.ptr (u.n+2) 0 from by simp only [zK,efs,reduceIte,Nat.reduceEqDiff],vt,zN _ _ _ _ rfl (by omega)];rfl
 ·simp only [St.put,zQ];omega
theorem WWA (N:Nat) (hN:6≤N) {no:Nat→Prop} {sc:List AV} {H:HallR} {vW vS vB vK:AV} {rb p:Nat} {l:List PutR} {P:PutR} {v:AV} {s:St} (hS:SiteC sc H vW vS vB vK rb) (ok:H.Ok) (hB0:Sl no s.h s.n 1 (jA H.bears) vB) (hK:KindsAt no s.h s.n H.kinds vK) (hR:Puts no s.h s.n l v) (hl:∀ q ∈ l,q.In H) (hm:∀ q ∈ l,H.In q.c) (hl1:l.length≤24) (hP:P.In H) (g:s.h.get p=some (vQ sc)) (gr:s.h.get rb=some (.cells (Zj p) 0)) (hp:p<s.n) (hrb:rb<s.n) (hs:s.n+4000≤far) :
  ∃ is:Bool,call Try.prog X N (.fn 54) [.ptr p 0,v,.agg P.row] s=.val (.bool is) s∧(is=true↔H.Takes l P):=by
 obtain ⟨n,rfl⟩:∃ n,N=n+1:=⟨N - 1,by omega⟩
 have hf:=hfar
 have kv:=hR.okA
 by_cases h1:H.putE l P=0
 ·have hPc:H.In P.c:=(wO.mp h1).1.i
  by_cases h2:(many l P.kind:Int)<(H.kind P.kind).most
  ·refine ⟨decide ((H.kind P.kind).hi+tot (H.highs l) (H.bay P)≤H.bears.getD (H.bay P) 0),?_,⟨fun h=>⟨h1,h2,of_decide_eq_true h⟩,fun h=>decide_eq_true h.c⟩⟩
   refine zj Try.func54 (fun u uh un um=>?_) rfl
   rw [← uh,← un] at hB0 hK hR
   rw [← uh] at g gr
   rw [← un] at hp hrb
   obtain ⟨w,hw⟩:∃ w:St,w=u.new (.cells P.row (tag 51)):=⟨_,rfl⟩
   have wn:w.n=u.n+1:=by rw [hw];rfl
   have wm:w.m=far:=by rw [hw];exact um
   have wg:∀ c,c<u.n→w.h.get c=u.h.get c:=fun c hc=>by rw [hw,zH _ _ _ (by omega)]
   have w5:w.h.get u.n=some (.cells [.int .i64 P.x,.int .i64 P.y,.int .i64 (P.kind:Int)] (tag 51)):=by rw [hw];exact zM _ _ _ rfl (by omega)
   have hRw:=hR.grow wg (by omega:u.n≤w.n)
   have hBw:=hB0.grow wg (by omega:u.n≤w.n)
   have hKw:KindsAt no w.h w.n H.kinds vK:=hK.move (fun c h1 h2=>⟨wg c h1,h2⟩) (by omega)
   have efb:=wX n (by omega) hS ok P hP l hl (by omega) v w hRw hKw ((wg p hp).trans g) ((wg rb hrb).trans gr) (by omega) (by omega) (by omega)
   have u7:=eq3 jZA.eq_1
   have u8:=eq3 jYA.eq_1
   have u9:=eq3 jXA.eq_1
   have u10:=eq3 Vt.eq_1
   have u11:=eq3 Vs.eq_1
   have u12:=eq3 Vr.eq_1
   have u13:=eq3 Vq.eq_1
   have u14:=eq3 Vp.eq_1
   have u15:=eq3 Vo.eq_1
   have u18:=eq3 Vn.eq_1
   have u19:=eq3 Vm.eq_1
   have u20:=eq3 Vl.eq_1
   have u21:=eq3 Vk.eq_1
   have z0:decide ((0:Int)=0)=true:=rfl
   have eco:=gRA n (by omega) l P.kind v ⟨w.h,w.n,far⟩ hRw (by omega) (by show w.n+2000≤far;omega)
   have hts:=fun v=>yG (v:=v) (s:=w) (h:=(by omega:w.n≤far)) (hm:=(by omega:w.m≤far))
   obtain ⟨aP,hAP,ekP⟩:=JO n (by omega) hS hP.k ok u hK g hp
   have ekP1:=ekP P.x P.y w wg (by omega) (by omega) (by omega)
   obtain ⟨W,hW0⟩:∃ A:St,A=Jy w [.int .i64 P.x,.int .i64 P.y,.int .i64 (P.kind:Int)] ((H.kind P.kind).row aP):=⟨_,rfl⟩
   rw [← hW0] at ekP1
   have Wn:W.n=w.n+2:=by rw [hW0];rfl
   have Wm:W.m=far:=by rw [hW0];exact wm
   have Wg:∀ c,c<w.n→W.h.get c=w.h.get c:=fun c hc=>by rw [hW0];exact vz _ _ _ _ hc
   have okrP:∀ t,okA (.val (.agg ((H.kind P.kind).row aP)) t)=.val (.agg ((H.kind P.kind).row aP)) t:=fun _=>rfl
   have f5:nth ((H.kind P.kind).row aP) 5=.int .i64 (H.kind P.kind).most:=rfl
   have W5:=(Wg u.n (by omega)).trans w5
   have Wu:∀ c,c<u.n→W.h.get c=u.h.get c:=fun c hc=>(Wg c (by omega)).trans (wg c hc)
   have hKW:KindsAt no W.h W.n H.kinds vK:=hK.move (fun c h1 h2=>⟨Wu c h1,h2⟩) (by omega)
   have eca:=vZJ n (by omega) hS ok (hB0.grow Wu (by omega:u.n≤W.n)) hKW (hR.grow Wu (by omega:u.n≤W.n)) hl hm hl1 hP hPc ((Wu p hp).trans g) (by omega) (by omega)
   rw [h1] at efb
   have d2:decide ((many l P.kind:Int)<(H.kind P.kind).most)=true:=decide_eq_true h2
   rw [VcA]
   simp (disch:=first|omega|with_unfolding_all rfl) only [K54,K54r0,Abs.W,reduceIte,Nat.reduceEqDiff,Nat.reduceAdd,Nat.reduceSub]
   rw [← hw]
   simp (disch:=first|omega|with_unfolding_all rfl) only [wxJ,u7,u8,u9,u10,u11,u12,u13,u14,u15,u18,u19,u20,u21,res54,Abs.W,reduceIte,Nat.reduceEqDiff,Nat.reduceAdd,Nat.reduceSub,w5,kv,efb,z0,eco,hts,ekP1,zLA,f5,okrP,d2,W5,eca,Nat.zero_add]
   exact ⟨_,rfl,by omega⟩
  ·refine ⟨false,?_,⟨fun h=>(by cases h),fun h=>absurd h.m h2⟩⟩
   refine zj Try.func54 (fun u uh un um=>?_) rfl
   rw [← uh,← un] at hB0 hK hR
   rw [← uh] at g gr
   rw [← un] at hp hrb
   obtain ⟨w,hw⟩:∃ w:St,w=u.new (.cells P.row (tag 51)):=⟨_,rfl⟩
   have wn:w.n=u.n+1:=by rw [hw];rfl
   have wm:w.m=far:=by rw [hw];exact um
   have wg:∀ c,c<u.n→w.h.get c=u.h.get c:=fun c hc=>by rw [hw,zH _ _ _ (by omega)]
   have w5:w.h.get u.n=some (.cells [.int .i64 P.x,.int .i64 P.y,.int .i64 (P.kind:Int)] (tag 51)):=by rw [hw];exact zM _ _ _ rfl (by omega)
   have hRw:=hR.grow wg (by omega:u.n≤w.n)
   have hBw:=hB0.grow wg (by omega:u.n≤w.n)
   have hKw:KindsAt no w.h w.n H.kinds vK:=hK.move (fun c h1 h2=>⟨wg c h1,h2⟩) (by omega)
   have efb:=wX n (by omega) hS ok P hP l hl (by omega) v w hRw hKw ((wg p hp).trans g) ((wg rb hrb).trans gr) (by omega) (by omega) (by omega)
   have u7:=eq3 jZA.eq_1
   have u8:=eq3 jYA.eq_1
   have u9:=eq3 jXA.eq_1
   have u10:=eq3 Vt.eq_1
   have u11:=eq3 Vs.eq_1
   have u12:=eq3 Vr.eq_1
   have u13:=eq3 Vq.eq_1
   have u14:=eq3 Vp.eq_1
   have u15:=eq3 Vo.eq_1
   have u18:=eq3 Vn.eq_1
   have u19:=eq3 Vm.eq_1
   have u20:=eq3 Vl.eq_1
   have u21:=eq3 Vk.eq_1
   have z0:decide ((0:Int)=0)=true:=rfl
   have eco:=gRA n (by omega) l P.kind v ⟨w.h,w.n,far⟩ hRw (by omega) (by show w.n+2000≤far;omega)
   have hts:=fun v=>yG (v:=v) (s:=w) (h:=(by omega:w.n≤far)) (hm:=(by omega:w.m≤far))
   obtain ⟨aP,hAP,ekP⟩:=JO n (by omega) hS hP.k ok u hK g hp
   have ekP1:=ekP P.x P.y w wg (by omega) (by omega) (by omega)
   obtain ⟨W,hW0⟩:∃ A:St,A=Jy w [.int .i64 P.x,.int .i64 P.y,.int .i64 (P.kind:Int)] ((H.kind P.kind).row aP):=⟨_,rfl⟩
   rw [← hW0] at ekP1
   have Wn:W.n=w.n+2:=by rw [hW0];rfl
   have Wm:W.m=far:=by rw [hW0];exact wm
   have Wg:∀ c,c<w.n→W.h.get c=w.h.get c:=fun c hc=>by rw [hW0];exact vz _ _ _ _ hc
   have okrP:∀ t,okA (.val (.agg ((H.kind P.kind).row aP)) t)=.val (.agg ((H.kind P.kind).row aP)) t:=fun _=>rfl
   have f5:nth ((H.kind P.kind).row aP) 5=.int .i64 (H.kind P.kind).most:=rfl
   have W5:=(Wg u.n (by omega)).trans w5
   have Wu:∀ c,c<u.n→W.h.get c=u.h.get c:=fun c hc=>(Wg c (by omega)).trans (wg c hc)
   have hKW:KindsAt no W.h W.n H.kinds vK:=hK.move (fun c h1 h2=>⟨Wu c h1,h2⟩) (by omega)
   rw [h1] at efb
   have d2:decide ((many l P.kind:Int)<(H.kind P.kind).most)=false:=decide_eq_false h2
   rw [VcA]
   simp (disch:=first|omega|with_unfolding_all rfl) only [K54,K54r0,Abs.W,reduceIte,Nat.reduceEqDiff,Nat.reduceAdd,Nat.reduceSub]
   rw [← hw]
   simp (disch:=first|omega|with_unfolding_all rfl) only [wxJ,u7,u8,u9,u10,u11,u12,u13,u14,u15,u18,u19,u20,u21,res54,Abs.W,reduceIte,Nat.reduceEqDiff,Nat.reduceAdd,Nat.reduceSub,w5,kv,efb,z0,eco,hts,ekP1,zLA,f5,okrP,d2,Nat.zero_add]
   exact ⟨_,rfl,by omega⟩
 ·refine ⟨false,?_,⟨fun h=>(by cases h),fun h=>absurd h.e h1⟩⟩
  refine zj Try.func54 (fun u uh un um=>?_) rfl
  rw [← uh,← un] at hB0 hK hR
  rw [← uh] at g gr
  rw [← un] at hp hrb
  obtain ⟨w,hw⟩:∃ w:St,w=u.new (.cells P.row (tag 51)):=⟨_,rfl⟩
  have wn:w.n=u.n+1:=by rw [hw];rfl
  have wm:w.m=far:=by rw [hw];exact um
  have wg:∀ c,c<u.n→w.h.get c=u.h.get c:=fun c hc=>by rw [hw,zH _ _ _ (by omega)]
  have w5:w.h.get u.n=some (.cells [.int .i64 P.x,.int .i64 P.y,.int .i64 (P.kind:Int)] (tag 51)):=by rw [hw];exact zM _ _ _ rfl (by omega)
  have hRw:=hR.grow wg (by omega:u.n≤w.n)
  have hBw:=hB0.grow wg (by omega:u.n≤w.n)
  have hKw:KindsAt no w.h w.n H.kinds vK:=hK.move (fun c h1 h2=>⟨wg c h1,h2⟩) (by omega)
  have efb:=wX n (by omega) hS ok P hP l hl (by omega) v w hRw hKw ((wg p hp).trans g) ((wg rb hrb).trans gr) (by omega) (by omega) (by omega)
  have u7:=eq3 jZA.eq_1
  have u8:=eq3 jYA.eq_1
  have u9:=eq3 jXA.eq_1
  have u10:=eq3 Vt.eq_1
  have u11:=eq3 Vs.eq_1
  have u12:=eq3 Vr.eq_1
  have u13:=eq3 Vq.eq_1
  have u14:=eq3 Vp.eq_1
  have u15:=eq3 Vo.eq_1
  have u18:=eq3 Vn.eq_1
  have u19:=eq3 Vm.eq_1
  have u20:=eq3 Vl.eq_1
  have u21:=eq3 Vk.eq_1
  have d1:decide (H.putE l P=0)=false:=decide_eq_false h1
  rw [VcA]
  simp (disch:=first|omega|with_unfolding_all rfl) only [K54,K54r0,Abs.W,reduceIte,Nat.reduceEqDiff,Nat.reduceAdd,Nat.reduceSub]
  rw [← hw]
  simp (disch:=first|omega|with_unfolding_all rfl) only [wxJ,u7,u8,u9,u10,u11,u12,u13,u14,u15,u18,u19,u20,u21,res54,Abs.W,reduceIte,Nat.reduceEqDiff,Nat.reduceAdd,Nat.reduceSub,w5,kv,efb,d1,Nat.zero_add]
  exact ⟨_,rfl,by omega⟩
end Go.Proofs.Ytoklbkgcclkejaa.walk
