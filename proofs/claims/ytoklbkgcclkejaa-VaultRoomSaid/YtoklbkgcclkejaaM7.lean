/- Layouts in another order, and with fewer puts: the mathematics. -/
import Derived.Test.YtoklbkgcclkejaaM6
import Derived.Test.YtoklbkgcclkejaaCodes
import Derived.Test.YtoklbkgcclkejaaM3
import Derived.Test.YtoklbkgcclkejaaM4
import Derived.Test.YtoklbkgcclkejaaProg
import Derived.Tactics
import Derived.Tactics2
import Derived.WalkKit
import Derived.OpenShut
import Derived.Below
import Derived.Lib.Hide
import Derived.KernelRfl
import Derived.Deep.RegionHeld3
import Derived.OwnWalk
import Derived.StillTailTactics
import Derived.Test.YtoklbkgcclkejaaAbsTop
import Derived.Test.YtoklbkgcclkejaaAbsWalk
import Derived.Test.YtoklbkgcclkejaaWalkAll
set_option linter.unusedSimpArgs false
set_option linter.unusedVariables false
set_option maxHeartbeats 16000000
set_option linter.unusedVariables false
namespace Go.Proofs.Ytoklbkgcclkejaa.walk
open Go.Abs Go.Proofs.Ytoklbkgcclkejaa.code
theorem tot_sub {l r:List (Nat × Int)} (h:List.Sublist r l) (hl:∀ x ∈ l,0≤x.2) (b:Nat):tot r b≤tot l b:=by
 induction h with
 | slnil=>exact Int.le_refl _
 | cons x _ ih =>
  have h1:=ih fun y hy=>hl y (List.mem_cons_of_mem _ hy)
  have h2:=hl x (List.mem_cons_self ..)
  show _≤(if x.1=b then x.2 else 0)+_
  split<;>omega
 | cons_cons x _ ih =>
  have h1:=ih fun y hy=>hl y (List.mem_cons_of_mem _ hy)
  show (if x.1=b then x.2 else 0)+_≤(if x.1=b then x.2 else 0)+_
  omega
theorem lows_sub {H:HallR} (ok:H.Ok) {l r:List PutR} (hl:∀ p ∈ l,p.In H) (h:List.Sublist r l) (b:Nat):tot (H.lows r) b≤tot (H.lows l) b :=
 tot_sub (h.map _) (fun x hx=>by
  obtain ⟨p,hp,rfl⟩:=List.mem_map.mp hx
  exact (kindOk ok (hl p hp).k).l0) b
theorem highs_sub {H:HallR} (ok:H.Ok) {l r:List PutR} (hl:∀ p ∈ l,p.In H) (h:List.Sublist r l) (b:Nat):tot (H.highs r) b≤tot (H.highs l) b :=
 tot_sub (h.map _) (fun x hx=>by
  obtain ⟨p,hp,rfl⟩:=List.mem_map.mp hx
  have h1:=(kindOk ok (hl p hp).k).l0
  have h2:=(kindOk ok (hl p hp).k).l1
  exact Int.le_trans h1 h2) b
theorem verdict_sub {H:HallR} (ok:H.Ok) {l r:List PutR} (hl:∀ p ∈ l,p.In H) (h:List.Sublist r l) (v:H.verdict l=1):H.verdict r=1:=by
 have hb:=verdict_sure v
 have hlo:∀ b,b<H.bays→tot (H.lows l) b≤H.bears.getD b 0:=fun b hb'=>by
  refine Int.not_lt.mp fun hc=>?_
  unfold HallR.verdict at v
  rw [if_pos ⟨b,hb',hc⟩] at v
  cases v
 unfold HallR.verdict
 rw [if_neg (by rintro ⟨b,h1,h2⟩;have:=hlo b h1;have:=lows_sub ok hl h b;omega),if_neg (by rintro ⟨b,h1,h2⟩;have:=hb b h1;have:=highs_sub ok hl h b;omega)]
end Go.Proofs.Ytoklbkgcclkejaa.walk
set_option maxRecDepth 10000
namespace Go.Proofs.Ytoklbkgcclkejaa.walk
open Go.Abs Go.Proofs.Ytoklbkgcclkejaa.code
theorem lows_snoc (H:HallR) {l:List PutR} {i:Nat} (hi:i<l.length) (b:Nat):tot (H.lows (l.take (i+1))) b=tot (H.lows (l.take i)) b+if H.bay l[i]=b then (H.kind l[i].kind).lo else 0:=by
 unfold HallR.lows;rw [take_snoc hi,List.map_append];exact tot_snoc _ _ _
theorem highs_snoc (H:HallR) {l:List PutR} {i:Nat} (hi:i<l.length) (b:Nat):tot (H.highs (l.take (i+1))) b=tot (H.highs (l.take i)) b+if H.bay l[i]=b then (H.kind l[i].kind).hi else 0:=by
 unfold HallR.highs;rw [take_snoc hi,List.map_append];exact tot_snoc _ _ _
theorem carries_ok (N:Nat) (hN:3≤N) {no:Nat→Prop} {sc:List AV} {H:HallR} {vW vS vB vK:AV} {rb p:Nat} {l:List PutR} {P:PutR} {v:AV} {s:St} (hS:SiteC sc H vW vS vB vK rb) (ok:H.Ok) (hB0:Sl no s.h s.n 1 (intRows H.bears) vB) (hK:KindsAt no s.h s.n H.kinds vK) (hR:Sl no s.h s.n 3 (l.map PutR.row) v) (hl:∀ q ∈ l,q.In H) (hm:∀ q ∈ l,H.In q.c) (hl1:l.length≤24) (hP:P.In H) (hPc:H.In P.c) (g:s.h.get p=some (siteO sc)) (hp:p<s.n) (hs:s.n+1000≤far) :
  call Try.prog X N (.fn 76) [.ptr p 0,v,.agg P.row] s=.val (.bool (decide ((H.kind P.kind).hi+tot (H.highs l) (H.bay P)≤H.bears.getD (H.bay P) 0))) s:=by
 obtain ⟨n,rfl⟩:∃ n,N=n+1:=⟨N - 1,by omega⟩
 have hf:far=1000000000:=rfl
 refine call_plain' Try.func76 (fun u uh un um=>?_) rfl
 rw [← uh,← un] at hB0 hK hR
 rw [← uh] at g
 rw [← un] at hp
 have kv:=hR.okA
 have lv:=slPuts hR
 have kB:=hB0.okA
 have sz:=ok.toSize
 have hb24:=bays_le sz
 have h6:=hS.b
 have s6:=sz.w1
 have s4:=sz.d1
 have hbl:=ok.bl
 -- the put
 obtain ⟨X,Y,eX,eY,hX,hY⟩:=in_nat hPc
 have hBP:=bay_nat (H:=H) eX eY
 have hBlt:=bay_lt sz hX hY
 rw [← hBP] at hBlt
 have hkP:=kindOk ok hP.k
 have p0:=hkP.l0
 have p1:=hkP.l1
 have p2:=hkP.l2
 obtain ⟨w1,hw1⟩:∃ w1:St,w1=u.new (.cells P.row (tag 51)):=⟨_,rfl⟩
 have w1n:w1.n=u.n+1:=by rw [hw1];rfl
 have w1m:w1.m=far:=by rw [hw1];exact um
 have w1g:∀ c,c<u.n→w1.h.get c=u.h.get c:=fun c hc=>by rw [hw1,get_new_ne _ _ _ (by omega)]
 have w15:w1.h.get u.n=some (.cells [.int .i64 P.x,.int .i64 P.y,.int .i64 (P.kind:Int)] (tag 51)):=by rw [hw1];exact get_new_eq _ _ _ rfl (by omega)
 have es0:=spot_ok n (by omega) hS (show X<6 by omega) (show Y<4 by omega) (P.kind:Int) w1 ((w1g p hp).trans g) (by omega) (by omega)
 rw [spots_in sz hX hY,← eX,← eY,← hBP] at es0
 obtain ⟨aP,hAP,ekP⟩:=kind_ok n (by omega) hS hP.k ok u hK g hp
 have ekP1:=ekP P.x P.y w1 w1g (by omega) (by omega) (by omega)
 obtain ⟨W,hW0⟩:∃ A:St,A=kindT w1 [.int .i64 P.x,.int .i64 P.y,.int .i64 (P.kind:Int)] ((H.kind P.kind).row aP):=⟨_,rfl⟩
 rw [← hW0] at ekP1
 have Wn:W.n=w1.n+2:=by rw [hW0];rfl
 have Wm:W.m=far:=by rw [hW0];exact w1m
 have Wg:∀ c,c<w1.n→W.h.get c=w1.h.get c:=fun c hc=>by rw [hW0];exact kindT_get _ _ _ _ hc
 have okrP:∀ t,okA (.val (.agg ((H.kind P.kind).row aP)) t)=.val (.agg ((H.kind P.kind).row aP)) t:=fun _=>rfl
 have fP:cut 0 2 ((H.kind P.kind).row aP)=some [.int .i64 (H.kind P.kind).lo,.int .i64 (H.kind P.kind).hi]:=rfl
 have okS2:∀ (a b:Int) t,okA (.val (.agg [.int .i64 a,.int .i64 b]) t)=.val (.agg [.int .i64 a,.int .i64 b]) t:=fun _ _ _=>rfl
 obtain ⟨w,hw⟩:∃ w:St,w=(W.new (.cells [.int .i64 0,.int .i64 0] (tag 44))).put W.n (.cells [.int .i64 (H.kind P.kind).lo,.int .i64 (H.kind P.kind).hi] (tag 44)):=⟨_,rfl⟩
 have stw:storeA 2 (W.new (.cells [.int .i64 0,.int .i64 0] (tag 44))) (.agg [.int .i64 (H.kind P.kind).lo,.int .i64 (H.kind P.kind).hi]) (.ptr W.n 0)=.val .undef w:=by
  rw [hw];exact store_all _ 2 _ _ _ _ (get_new_eq _ _ _ rfl (by omega)) rfl rfl rfl
 have wn:w.n=W.n+1:=by rw [hw];rfl
 have wm:w.m=min far W.n:=by rw [hw];simp only [St.put,minN_eq,new_m,Wm]
 have wg:∀ c,c<W.n→w.h.get c=W.h.get c:=fun c hc=>by rw [hw,get_put_ne' _ _ _ _ (by omega),get_new_ne _ _ _ (by omega)]
 have w8:w.h.get W.n=some (.cells [.int .i64 (H.kind P.kind).lo,.int .i64 (H.kind P.kind).hi] (tag 44)):=by rw [hw];exact get_put_eq _ _ _ _ rfl (by omega)
 have wu:∀ c,c<u.n→w.h.get c=u.h.get c:=fun c hc=>(wg c (by omega)).trans ((Wg c (by omega)).trans (w1g c hc))
 have W5:=(Wg u.n (by omega)).trans w15
 clear hw
 rw [enter76]
 simp (disch:=first|omega|(with_unfolding_all exact rfl)|(simp only[new_n,put_n,new_m];omega)|(refine put_m_le ?_;simp only[new_m];omega)) only [K76,K76r0,Abs.W,reduceIte,Nat.reduceEqDiff,Nat.reduceAdd,decide_true,decide_false,kLoop_def,Nat.reduceSub,List.cons_append,List.nil_append,List.append_nil,List.length_cons,List.length_nil,Env.find_set]
 rw [← hw1]
 simp (disch:=first|omega|(with_unfolding_all exact rfl)|(simp only[new_n,put_n,new_m];omega)|(refine put_m_le ?_;simp only[new_m];omega)) only [K76r1,K76r2,K76r3,Abs.W,reduceIte,Nat.reduceEqDiff,Nat.reduceAdd,decide_true,decide_false,kLoop_def,Nat.reduceSub,List.cons_append,List.nil_append,List.append_nil,List.length_cons,List.length_nil,Env.find_set,find_cons,w15,es0,ekP1,fldE,fP,okS2,okrP,stw,kv,lv,Nat.zero_add]
 generalize hlp:loopN _ rounds _ _ _ _ _=q1
 obtain ⟨eA,L1,s1,rfl,rfl,l0,l7,l8,sg,sn,sm,sf,sb⟩:=loop_of hlp (fun i L t=>L.find 0=.ptr p 0∧L.find 7=.int .i64 (H.bay P:Int)∧L.find 8=.ptr W.n 0∧L.find 19=v∧L.find 20=.int .i64 (l.length:Int)∧L.find 21=.int .i64 (i:Int)∧(∀ c,c<u.n→t.h.get c=u.h.get c)∧w.n≤t.n∧t.n≤w.n+5 * i∧u.n≤t.m∧t.m≤far∧t.h.get W.n=some (.cells [.int .i64 ((H.kind P.kind).lo+tot (H.lows (l.take i)) (H.bay P)),.int .i64 ((H.kind P.kind).hi+tot (H.highs (l.take i)) (H.bay P))] (tag 44)))
  (fun e L t=>e=.exit 0∧L.find 0=.ptr p 0∧L.find 7=.int .i64 (H.bay P:Int)∧L.find 8=.ptr W.n 0∧(∀ c,c<u.n→t.h.get c=u.h.get c)∧(w.n≤t.n∧t.n≤w.n+5 * l.length)∧u.n≤t.m∧t.m≤far∧t.h.get W.n=some (.cells [.int .i64 ((H.kind P.kind).lo+tot (H.lows l) (H.bay P)),.int .i64 ((H.kind P.kind).hi+tot (H.highs l) (H.bay P))] (tag 44))) l.length (by unfold rounds;omega)
  ⟨(by simp only [find_cons,Env.find_set,reduceIte,Nat.reduceEqDiff]),(by simp only [find_cons,Env.find_set,reduceIte,Nat.reduceEqDiff]),(by simp only [find_cons,Env.find_set,reduceIte,Nat.reduceEqDiff]),(by simp only [find_cons,Env.find_set,reduceIte,Nat.reduceEqDiff]),(by simp only [find_cons,Env.find_set,reduceIte,Nat.reduceEqDiff]),(by simp only [find_cons,Env.find_set,reduceIte,Nat.reduceEqDiff];rfl),wu,Nat.le_refl _,by omega,by omega,by omega,by
   rw [w8]
   show _=some (AObj.cells [.int .i64 ((H.kind P.kind).lo+0),.int .i64 ((H.kind P.kind).hi+0)] _)
   rw [Int.add_zero,Int.add_zero]⟩
  (fun i L t hi ⟨q0,q7,q8,q19,q20,q21,tg,tn,tl,tm,tf,tb⟩=>by
   by_cases hlt:i<l.length
   ·have e0:decide ((i:Int)<(l.length:Int))=true:=decide_eq_true (by omega)
    have hRt:=hR.grow (h':=t.h) (n':=t.n) tg (by omega)
    obtain ⟨b,bp,c,szz,⟨r1,_⟩,r2,r3,r4⟩:=slPut hRt hlt
    have hIn:=hl _ (List.getElem_mem hlt)
    have hMay:=hm _ (List.getElem_mem hlt)
    have hs1:=lows_snoc H hlt (H.bay P)
    have hs2:=highs_snoc H hlt (H.bay P)
    have hlk:∀ q ∈ l.take i,q.kind<H.kinds.length:=fun q hq=>(hl q (List.mem_of_mem_take hq)).k
    have hbd:=tot_lows ok hlk (by rw [List.length_take];omega) (H.bay P)
    generalize l[i]=Q at *
    obtain ⟨x,y,ex,ey,hx,hy⟩:=in_nat hMay
    have hkQ:=kindOk ok hIn.k
    have k0:=hkQ.l0
    have k1:=hkQ.l1
    have k2:=hkQ.l2
    have hbay:=bay_nat (H:=H) ex ey
    have ad:∀ s,aAdd s .i64 (i:Int) 1=.val (.int .i64 ((i:Int)+1)) s:=fun s=>aAdd_i64 s _ _ (by omega)
    obtain ⟨z,hz⟩:∃ z:St,z=(t.new (.cells [.int .i64 0,.int .i64 0,.int .i64 0] (tag 51))).put t.n (.cells Q.row (tag 51)):=⟨_,rfl⟩
    have okR:∀ t,okA (.val (.agg Q.row) t)=.val (.agg Q.row) t:=fun _=>rfl
    have stz:storeA 3 (t.new (.cells [.int .i64 0,.int .i64 0,.int .i64 0] (tag 51))) (.agg Q.row) (.ptr t.n 0)=.val .undef z:=by
     rw [hz];exact store_all _ 3 _ _ _ _ (get_new_eq _ _ _ rfl (by omega)) rfl rfl rfl
    have zn:z.n=t.n+1:=by rw [hz];rfl
    have zm:z.m=min t.m t.n:=by rw [hz];simp only [St.put,minN_eq,new_m]
    have zg:∀ c,c<t.n→z.h.get c=t.h.get c:=fun c hc=>by rw [hz,get_put_ne' _ _ _ _ (by omega),get_new_ne _ _ _ (by omega)]
    have zt:z.h.get t.n=some (.cells [.int .i64 Q.x,.int .i64 Q.y,.int .i64 (Q.kind:Int)] (tag 51)):=by rw [hz];exact get_put_eq _ _ _ _ rfl (by omega)
    have zu:∀ c,c<u.n→z.h.get c=u.h.get c:=fun c hc=>(zg c (by omega)).trans (tg c hc)
    have gz:=(zu p hp).trans g
    have zb:=(zg W.n (by omega)).trans tb
    clear hz
    have es:=spot_ok n (by omega) hS (show x<6 by omega) (show y<4 by omega) (Q.kind:Int) z gz (by omega) (by omega)
    rw [spots_in sz hx hy,← ex,← ey,← hbay] at es
    by_cases hbq:H.bay Q=H.bay P
    ·have d1:decide ((H.bay Q:Int)=(H.bay P:Int))=true:=decide_eq_true (by omega)
     rw [if_pos hbq] at hs1 hs2
     obtain ⟨aw,hA,ek⟩:=kind_ok n (by omega) hS hIn.k ok u hK g hp
     have ek1:=ek Q.x Q.y ⟨z.h,z.n,far⟩ zu (by show u.n≤z.n;omega) (by show z.n+10≤far;omega) (Nat.le_refl _)
     obtain ⟨A,hA0⟩:∃ A:St,A=kindT ⟨z.h,z.n,far⟩ [.int .i64 Q.x,.int .i64 Q.y,.int .i64 (Q.kind:Int)] ((H.kind Q.kind).row aw):=⟨_,rfl⟩
     rw [← hA0] at ek1
     have An:A.n=z.n+2:=by rw [hA0];rfl
     have Am:A.m=far:=by rw [hA0];rfl
     have Ag:∀ c,c<z.n→A.h.get c=z.h.get c:=fun c hc=>by rw [hA0];exact kindT_get _ _ _ _ hc
     obtain ⟨Z,hZ⟩:∃ Z:St,Z=⟨A.h,A.n,minN z.m A.m⟩:=⟨_,rfl⟩
     have Zn:Z.n=z.n+2:=by rw [hZ];exact An
     have Zm:Z.m=z.m:=by rw [hZ];show minN z.m A.m=_;rw [minN_eq];omega
     have Zg:∀ c,c<z.n→Z.h.get c=z.h.get c:=fun c hc=>by rw [hZ];exact Ag c hc
     have tv1:∀ ws v d rest cl L,thenT (some ws) (.val v A) d rest cl L z=rest cl (d.put v L) Z:=fun ws v d rest cl L=>by rw [hZ];exact thenT_val _ _ _ _ _ _ _ _ (by omega)
     have okr:∀ t,okA (.val (.agg ((H.kind Q.kind).row aw)) t)=.val (.agg ((H.kind Q.kind).row aw)) t:=fun _=>rfl
     have f0:cut 0 2 ((H.kind Q.kind).row aw)=some [.int .i64 (H.kind Q.kind).lo,.int .i64 (H.kind Q.kind).hi]:=rfl
     obtain ⟨a,ha⟩:∃ a,a=(H.kind P.kind).lo+tot (H.lows (l.take i)) (H.bay P):=⟨_,rfl⟩
     obtain ⟨b',hb'⟩:∃ b,b=(H.kind P.kind).hi+tot (H.highs (l.take i)) (H.bay P):=⟨_,rfl⟩
     rw [← ha,← hb'] at zb
     obtain ⟨Y',hY'⟩:∃ Y:St,Y=Z.new (.cells [.int .i64 a,.int .i64 b',.int .i64 (H.kind Q.kind).lo,.int .i64 (H.kind Q.kind).hi] 0):=⟨_,rfl⟩
     have Yn:Y'.n=Z.n+1:=by rw [hY'];rfl
     have Ym:Y'.m=Z.m:=by rw [hY'];rfl
     have Yg:∀ c,c<Z.n→Y'.h.get c=Z.h.get c:=fun c hc=>by rw [hY',get_new_ne _ _ _ (by omega)]
     have Yt:Y'.h.get Z.n=some (.cells [.int .i64 a,.int .i64 b',.int .i64 (H.kind Q.kind).lo,.int .i64 (H.kind Q.kind).hi] 0):=by rw [hY'];exact get_new_eq _ _ _ rfl (by omega)
     have esum:=sum2_ok n (by omega) _ _ _ _ Z.n 0 Y' Yt (by omega) (by omega) (by omega) ⟨k0,by omega⟩ ⟨by omega,by omega⟩ (by omega)
     have Yb:=(Yg W.n (by omega)).trans ((Zg W.n (by omega)).trans zb)
     have stY:storeA 2 Y' (.agg [.int .i64 (a+(H.kind Q.kind).lo),.int .i64 (b'+(H.kind Q.kind).hi)]) (.ptr W.n 0)=.val .undef (Y'.put W.n (.cells [.int .i64 (a+(H.kind Q.kind).lo),.int .i64 (b'+(H.kind Q.kind).hi)] (tag 44))):=store_all _ 2 _ _ _ _ Yb rfl rfl rfl
     refine .inl ⟨hlt,?_⟩
     simp (disch:=first|omega|(with_unfolding_all exact rfl)|(simp only[new_n,put_n,new_m];omega)|(refine put_m_le ?_;simp only[new_m];omega)) only [K76l0,K76r4,K76r5,K76r6,Abs.W,reduceIte,Nat.reduceEqDiff,Nat.reduceAdd,decide_true,decide_false,kLoop_def,Nat.reduceSub,List.cons_append,List.nil_append,List.append_nil,List.length_cons,List.length_nil,Env.find_set,find_cons,Nat.zero_add,q0,q7,q19,q20,q21,e0,kv,r2,r3,r4,okR,stz,zt,es,fldE,d1]
     simp (disch:=first|omega|(with_unfolding_all exact rfl)|(simp only[new_n,put_n,new_m];omega)|(refine put_m_le ?_;simp only[new_m];omega)) only [K76r7,Abs.W,reduceIte,Nat.reduceEqDiff,Nat.reduceAdd,decide_true,decide_false,kLoop_def,Nat.reduceSub,List.cons_append,List.nil_append,List.append_nil,List.length_cons,List.length_nil,Env.find_set,find_cons,Nat.zero_add,q0,q8,zb,zt,okS2,ek1,tv1,okr,fldE,f0]
     rw [← hY']
     simp (disch:=first|omega|(with_unfolding_all exact rfl)|(simp only[new_n,put_n,new_m];omega)|(refine put_m_le ?_;simp only[new_m];omega)) only [K76r8,Abs.W,reduceIte,Nat.reduceEqDiff,Nat.reduceAdd,decide_true,decide_false,kLoop_def,Nat.reduceSub,List.cons_append,List.nil_append,List.append_nil,List.length_cons,List.length_nil,esum,stY,Env.find_set,find_cons,Nat.zero_add,q8,q21,ad]
     refine ⟨_,_,rfl,?_,?_,?_,?_,?_,?_,fun c hc=>?_,?_,?_,?_,?_,?_⟩
     ·simp only [Env.find_set,q0,reduceIte,Nat.reduceEqDiff]
     ·simp only [Env.find_set,q7,reduceIte,Nat.reduceEqDiff]
     ·simp only [Env.find_set,q8,reduceIte,Nat.reduceEqDiff]
     ·simp only [Env.find_set,q19,reduceIte,Nat.reduceEqDiff]
     ·simp only [Env.find_set,q20,reduceIte,Nat.reduceEqDiff]
     ·simp only [Env.find_set,reduceIte,Nat.reduceEqDiff];rfl
     ·rw [get_put_ne' _ _ _ _ (by omega),Yg c (by omega),Zg c (by omega)];exact zu c hc
     ·rw [put_n];omega
     ·rw [put_n];omega
     ·simp only [St.put,minN_eq];omega
     ·simp only [St.put,minN_eq];omega
     ·rw [get_put_eq _ _ _ _ rfl (by omega),hs1,hs2,ha,hb',Int.add_assoc,Int.add_assoc]
    ·have d1:decide ((H.bay Q:Int)=(H.bay P:Int))=false:=decide_eq_false (by omega)
     rw [if_neg hbq] at hs1 hs2
     refine .inl ⟨hlt,?_⟩
     simp (disch:=first|omega|(with_unfolding_all exact rfl)|(simp only[new_n,put_n,new_m];omega)|(refine put_m_le ?_;simp only[new_m];omega)) only [K76l0,K76r4,K76r5,K76r6,K76r8,Abs.W,reduceIte,Nat.reduceEqDiff,Nat.reduceAdd,decide_true,decide_false,kLoop_def,Nat.reduceSub,List.cons_append,List.nil_append,List.append_nil,List.length_cons,List.length_nil,Env.find_set,find_cons,Nat.zero_add,q0,q7,q19,q20,q21,e0,kv,r2,r3,r4,okR,stz,zt,es,fldE,d1,ad]
     refine ⟨_,_,rfl,?_,?_,?_,?_,?_,?_,zu,by omega,by omega,by omega,by omega,by rw [hs1,hs2,Int.add_zero,Int.add_zero];exact zb⟩
     ·simp only [Env.find_set,q0,reduceIte,Nat.reduceEqDiff]
     ·simp only [Env.find_set,q7,reduceIte,Nat.reduceEqDiff]
     ·simp only [Env.find_set,q8,reduceIte,Nat.reduceEqDiff]
     ·simp only [Env.find_set,q19,reduceIte,Nat.reduceEqDiff]
     ·simp only [Env.find_set,q20,reduceIte,Nat.reduceEqDiff]
     ·simp only [Env.find_set,reduceIte,Nat.reduceEqDiff];rfl
   ·obtain rfl:i=l.length:=by omega
    have e0:decide ((l.length:Int)<(l.length:Int))=false:=by simp
    rw [List.take_length] at tb
    refine .inr ⟨.exit 0,L.set 22 (.bool false),t,by simp,?_,rfl,?_,?_,?_,tg,⟨tn,tl⟩,tm,tf,tb⟩
    ·simp (disch:=first|omega|(with_unfolding_all exact rfl)|(simp only[new_n,put_n,new_m];omega)|(refine put_m_le ?_;simp only[new_m];omega)) only [K76l0,K76r4,Abs.W,reduceIte,Nat.reduceEqDiff,Nat.reduceAdd,decide_true,decide_false,kLoop_def,Nat.reduceSub,List.cons_append,List.nil_append,List.append_nil,List.length_cons,List.length_nil,Env.find_set,q20,q21,e0]
    ·simp only [Env.find_set,q0,reduceIte,Nat.reduceEqDiff]
    ·simp only [Env.find_set,q7,reduceIte,Nat.reduceEqDiff]
    ·simp only [Env.find_set,q8,reduceIte,Nat.reduceEqDiff])
 have hBt:=hB0.grow (h':=s1.h) (n':=s1.n) sg (by omega)
 have g1:=(sg p hp).trans g
 obtain ⟨cb,co,cc,csz,j1,j2,j3,j4⟩:=rowInt hBt.at_ (i:=H.bay P) (by omega)
 have eB:H.bears[H.bay P]'(by omega)=H.bears.getD (H.bay P) 0:=by rw [List.getD_eq_getElem?_getD,List.getElem?_eq_getElem (by omega)];rfl
 rw [eB] at j4
 have hsn:=sn.1
 have hsl:=sn.2
 simp (disch:=first|omega|(with_unfolding_all exact rfl)|(simp only[new_n,put_n,new_m];omega)|(refine put_m_le ?_;simp only[new_m];omega)) only [K76r9,res76,Abs.W,reduceIte,Nat.reduceEqDiff,Nat.reduceAdd,decide_true,decide_false,kLoop_def,Nat.reduceSub,List.cons_append,List.nil_append,List.append_nil,List.length_cons,List.length_nil,Env.find_set,find_cons,Nat.zero_add,l0,l7,l8,sb,g1,h6,kB,j2,j3,j4]
 exact ⟨_,rfl,by omega⟩
end Go.Proofs.Ytoklbkgcclkejaa.walk
namespace Go.Proofs.Ytoklbkgcclkejaa.walk
open Go.Abs Go.Proofs.Ytoklbkgcclkejaa.code
structure HallR.Takes (H:HallR) (l:List PutR) (P:PutR):Prop where
 e:H.putE l P=0
 m:(many l P.kind:Int)<(H.kind P.kind).most
 c:(H.kind P.kind).hi+tot (H.highs l) (H.bay P)≤H.bears.getD (H.bay P) 0
theorem many_put (l:List PutR) (P:PutR) (k:Nat):many (l++[P]) k=many l k+if P.kind=k then 1 else 0:=by
 unfold many
 rw [List.filter_append,List.length_append,List.filter_cons]
 split<;>simp_all
theorem highs_put (H:HallR) (l:List PutR) (P:PutR) (b:Nat):tot (H.highs (l++[P])) b=tot (H.highs l) b+if H.bay P=b then (H.kind P.kind).hi else 0:=by
 unfold HallR.highs;rw [List.map_append];exact tot_snoc _ _ _
theorem in_bay {H:HallR} (sz:H.Size) {P:PutR} (h:H.In P.c):H.bay P<H.bays:=by
 obtain ⟨x,y,ex,ey,hx,hy⟩:=in_nat h
 rw [bay_nat ex ey]
 exact bay_lt sz hx hy
theorem takes_iff {H:HallR} (ok:H.Ok) {l:List PutR} {P:PutR} (hv:H.Valid l) (h1:H.verdict l=1) (hl:∀ q ∈ l,q.In H) (hP:P.In H):H.Takes l P↔H.Valid (l++[P])∧H.verdict (l++[P])=1:=by
 have hl':∀ q ∈ l++[P],q.In H:=fun q hq=>by
  rcases List.mem_append.mp hq with h | h
  ·exact hl q h
  ·rw [List.mem_singleton.mp h];exact hP
 have hs:=(sure_iff ok hl).mp h1
 rw [sure_iff ok hl']
 constructor
 ·intro ⟨he,hm,hc⟩
  obtain ⟨a1,a2⟩:=putE_ok.mp he
  refine ⟨⟨fun q hq=>?_,List.pairwise_append.mpr ⟨hv.p,List.pairwise_singleton _ _,fun a ha b hb=>?_⟩,fun k hk=>?_⟩,fun b hb=>?_⟩
  ·rcases List.mem_append.mp hq with h | h
   ·exact hv.m q h
   ·rw [List.mem_singleton.mp h];exact a1
  ·rw [List.mem_singleton.mp hb];exact a2 a ha
  ·rw [many_put]
   have:=hv.o k hk
   by_cases e:P.kind=k
   ·subst e;rw [if_pos rfl];omega
   ·rw [if_neg e];omega
  ·show tot (H.highs (l++[P])) b≤_
   rw [highs_put]
   by_cases e:H.bay P=b
   ·subst e;rw [if_pos rfl];omega
   ·rw [if_neg e]
    have:tot (H.highs l) b≤H.bears.getD b 0:=hs b hb
    omega
 ·intro ⟨⟨a1,a2,a3⟩,hb⟩
  have hm:=a1 P (List.mem_append_right _ (List.mem_singleton_self P))
  obtain ⟨_,_,a4⟩:=List.pairwise_append.mp a2
  refine ⟨putE_ok.mpr ⟨hm,fun q hq=>a4 q hq P (List.mem_singleton_self P)⟩,?_,?_⟩
  ·have:=a3 P.kind hP.k
   rw [many_put,if_pos rfl] at this
   omega
  ·have:tot (H.highs (l++[P])) (H.bay P)≤_:=hb _ (in_bay ok.toSize hm.i)
   rw [highs_put,if_pos rfl] at this
   omega
def HallR.good (H:HallR) (l:List PutR) (k:Nat) (c:Int × Int):Prop:=H.Valid (l++[⟨c.1,c.2,k⟩])∧H.verdict (l++[⟨c.1,c.2,k⟩])=1
noncomputable def HallR.goodB (H:HallR) (l:List PutR) (k:Nat) (c:Int × Int):Bool:=@decide (H.good l k c) (Classical.propDecidable _)
theorem goodB_iff {H:HallR} {l:List PutR} {k:Nat} {c:Int × Int}:H.goodB l k c=true↔H.good l k c:=by
 unfold HallR.goodB
 exact @decide_eq_true_iff _ (Classical.propDecidable _)
theorem good_in {H:HallR} {l:List PutR} {k:Nat} {c:Int × Int} (h:H.good l k c):H.In c:=(h.1.m _ (List.mem_append_right _ (List.mem_singleton_self _))).i
theorem good_none {H:HallR} (ok:H.Ok) {l:List PutR} {k:Nat} (hl:∀ q ∈ l,q.In H) (hk:k<H.kinds.length) (h:H.verdict l≠1) (c:Int × Int):¬ H.good l k c:=fun hg=>by
 have hin:=good_in hg
 have hl':∀ q ∈ l++[⟨c.1,c.2,k⟩],q.In H:=fun q hq=>by
  rcases List.mem_append.mp hq with h | h
  ·exact hl q h
  ·rw [List.mem_singleton.mp h]
   obtain ⟨⟨a,b⟩,e,f⟩:=hin
   have:=ok.w1
   have:=ok.d1
   exact ⟨hk,by show -100≤c.1;omega,by show c.1≤100;omega,by show -100≤c.2;omega,by show c.2≤100;omega⟩
 exact h (verdict_sub ok hl' (List.sublist_append_left _ _) hg.2)
noncomputable def HallR.rooms (H:HallR) (l:List PutR) (k:Nat):List (Int × Int):=H.placesI.filter (H.goodB l k)
def HallR.vis (H:HallR) (z x:Nat):Nat:=min (z - 1) H.deep * H.wide+if 1≤z∧z≤H.deep then min (x - 1) H.wide else 0
theorem vis_row (H:HallR) (z:Nat):H.vis z (H.wide+2)=H.vis (z+1) 0:=by
 unfold HallR.vis
 have e1:min (H.wide+2 - 1) H.wide=H.wide:=by omega
 have e2:min (0 - 1) H.wide=0:=by omega
 rw [e1,e2]
 by_cases h:1≤z∧z≤H.deep
 ·rw [if_pos h]
  have e3:min (z - 1) H.deep=z - 1:=by omega
  have e4:min (z+1 - 1) H.deep=z - 1+1:=by omega
  rw [e3,e4,Nat.succ_mul]
  split<;>omega
 ·rw [if_neg h]
  have e3:min (z - 1) H.deep=min (z+1 - 1) H.deep:=by omega
  rw [e3]
  split<;>omega
theorem vis_zero (H:HallR):H.vis 0 0=0:=by unfold HallR.vis;simp
theorem vis_end (H:HallR):H.vis (H.deep+2) 0=H.placesI.length:=by
 unfold HallR.vis
 rw [if_neg (by omega),placesI_len,places_len]
 have e:min (H.deep+2 - 1) H.deep=H.deep:=by omega
 rw [e];rfl
noncomputable def HallR.seen (H:HallR) (l:List PutR) (k m:Nat):Nat:=((H.placesI.take m).filter (H.goodB l k)).length
theorem seen_all (H:HallR) (l:List PutR) (k:Nat):H.seen l k H.placesI.length=(H.rooms l k).length:=by unfold HallR.seen HallR.rooms;rw [List.take_length]
theorem seen_le (H:HallR) (l:List PutR) (k m:Nat):H.seen l k m≤H.placesI.length:=by
 unfold HallR.seen
 have h1:=List.length_filter_le (H.goodB l k) (H.placesI.take m)
 rw [List.length_take] at h1
 omega
theorem vis_bad {H:HallR} {l:List PutR} {k z x:Nat} (hx:x<H.wide+2) (hz:z<H.deep+2) (h:¬ H.good l k ((x:Int) - 1,(z:Int) - 1)):H.seen l k (H.vis z (x+1))=H.seen l k (H.vis z x):=by
 by_cases hi:(1≤z∧z≤H.deep)∧1≤x∧x≤H.wide
 ·obtain ⟨h1,h2⟩:=hi
  have e1:H.vis z x=(z - 1) * H.wide+(x - 1):=by
   unfold HallR.vis
   rw [if_pos h1,show min (z - 1) H.deep=z - 1 by omega,show min (x - 1) H.wide=x - 1 by omega]
  have e2:H.vis z (x+1)=(z - 1) * H.wide+(x - 1)+1:=by
   unfold HallR.vis
   rw [if_pos h1,show min (z - 1) H.deep=z - 1 by omega,show min (x+1 - 1) H.wide=x - 1+1 by omega];omega
  unfold HallR.seen
  rw [e1,e2,placeI_is (by omega) (by omega),List.filter_append]
  have e3:H.goodB l k (((x - 1:Nat):Int),((z - 1:Nat):Int))=false:=by
   rw [← Bool.not_eq_true,goodB_iff,show (((x - 1:Nat):Int),((z - 1:Nat):Int))=((x:Int) - 1,(z:Int) - 1) by rw [Prod.mk.injEq];omega]
   exact h
  rw [List.filter_cons,e3]
  simp
 ·have e:H.vis z (x+1)=H.vis z x:=by
   unfold HallR.vis
   split
   ·have:min (x+1 - 1) H.wide=min (x - 1) H.wide:=by omega
    rw [this]
   ·rfl
  rw [e]
theorem vis_good {H:HallR} {l:List PutR} {k z x:Nat} (h:H.good l k ((x:Int) - 1,(z:Int) - 1)):H.seen l k (H.vis z (x+1))=H.seen l k (H.vis z x)+1∧∃ hl:H.seen l k (H.vis z x)<(H.rooms l k).length,(H.rooms l k)[H.seen l k (H.vis z x)]=((x:Int) - 1,(z:Int) - 1):=by
 obtain ⟨⟨a,b⟩,c,d⟩:=good_in h
 simp only at a b c d
 have h1:1≤z∧z≤H.deep:=by omega
 have h2:1≤x∧x≤H.wide:=by omega
 have e1:H.vis z x=(z - 1) * H.wide+(x - 1):=by
  unfold HallR.vis
  rw [if_pos h1,show min (z - 1) H.deep=z - 1 by omega,show min (x - 1) H.wide=x - 1 by omega]
 have e2:H.vis z (x+1)=(z - 1) * H.wide+(x - 1)+1:=by
  unfold HallR.vis
  rw [if_pos h1,show min (z - 1) H.deep=z - 1 by omega,show min (x+1 - 1) H.wide=x - 1+1 by omega];omega
 have ec:(((x - 1:Nat):Int),((z - 1:Nat):Int))=((x:Int) - 1,(z:Int) - 1):=by rw [Prod.mk.injEq];omega
 have e3:H.goodB l k (((x - 1:Nat):Int),((z - 1:Nat):Int))=true:=by rw [goodB_iff,ec];exact h
 have hp:=placeI_is (H:=H) (x:=x - 1) (y:=z - 1) (by omega) (by omega)
 have ef:(H.placesI.take (H.vis z (x+1))).filter (H.goodB l k)=(H.placesI.take (H.vis z x)).filter (H.goodB l k)++[((x:Int) - 1,(z:Int) - 1)]:=by
  rw [e1,e2,hp,List.filter_append,List.filter_cons,e3,ec];simp
 have er:H.rooms l k=(H.placesI.take (H.vis z x)).filter (H.goodB l k)++((x:Int) - 1,(z:Int) - 1)::(H.placesI.drop (H.vis z (x+1))).filter (H.goodB l k):=by
  unfold HallR.rooms
  conv=>lhs;rw [← List.take_append_drop (H.vis z (x+1)) H.placesI,List.filter_append,ef,List.append_assoc]
  rfl
 refine ⟨by unfold HallR.seen;rw [ef,List.length_append];rfl,?_,?_⟩
 ·rw [er];unfold HallR.seen;simp
 ·simp only [er];unfold HallR.seen;simp
end Go.Proofs.Ytoklbkgcclkejaa.walk
set_option maxRecDepth 10000
namespace Go.Proofs.Ytoklbkgcclkejaa.walk
open Go.Abs Go.Proofs.Ytoklbkgcclkejaa.code
theorem takes_ok (N:Nat) (hN:6≤N) {no:Nat→Prop} {sc:List AV} {H:HallR} {vW vS vB vK:AV} {rb p:Nat} {l:List PutR} {P:PutR} {v:AV} {s:St} (hS:SiteC sc H vW vS vB vK rb) (ok:H.Ok) (hB0:Sl no s.h s.n 1 (intRows H.bears) vB) (hK:KindsAt no s.h s.n H.kinds vK) (hR:Sl no s.h s.n 3 (l.map PutR.row) v) (hl:∀ q ∈ l,q.In H) (hm:∀ q ∈ l,H.In q.c) (hl1:l.length≤24) (hP:P.In H) (g:s.h.get p=some (siteO sc)) (gr:s.h.get rb=some (.cells (rulesV p) 0)) (hp:p<s.n) (hrb:rb<s.n) (hs:s.n+4000≤far) :
  ∃ is:Bool,call Try.prog X N (.fn 54) [.ptr p 0,v,.agg P.row] s=.val (.bool is) s∧(is=true↔H.Takes l P):=by
 obtain ⟨n,rfl⟩:∃ n,N=n+1:=⟨N - 1,by omega⟩
 have hf:far=1000000000:=rfl
 have kv:=hR.okA
 by_cases h1:H.putE l P=0
 ·have hPc:H.In P.c:=(putE_ok.mp h1).1.i
  by_cases h2:(many l P.kind:Int)<(H.kind P.kind).most
  ·refine ⟨decide ((H.kind P.kind).hi+tot (H.highs l) (H.bay P)≤H.bears.getD (H.bay P) 0),?_,⟨fun h=>⟨h1,h2,of_decide_eq_true h⟩,fun h=>decide_eq_true h.c⟩⟩
   refine call_plain' Try.func54 (fun u uh un um=>?_) rfl
   rw [← uh,← un] at hB0 hK hR
   rw [← uh] at g gr
   rw [← un] at hp hrb
   obtain ⟨w,hw⟩:∃ w:St,w=u.new (.cells P.row (tag 51)):=⟨_,rfl⟩
   have wn:w.n=u.n+1:=by rw [hw];rfl
   have wm:w.m=far:=by rw [hw];exact um
   have wg:∀ c,c<u.n→w.h.get c=u.h.get c:=fun c hc=>by rw [hw,get_new_ne _ _ _ (by omega)]
   have w5:w.h.get u.n=some (.cells [.int .i64 P.x,.int .i64 P.y,.int .i64 (P.kind:Int)] (tag 51)):=by rw [hw];exact get_new_eq _ _ _ rfl (by omega)
   have hRw:=hR.grow wg (by omega:u.n≤w.n)
   have hBw:=hB0.grow wg (by omega:u.n≤w.n)
   have hKw:KindsAt no w.h w.n H.kinds vK:=hK.move (fun c h1 h2=>⟨wg c h1,h2⟩) (by omega)
   have efb:=firstBroken_ok n (by omega) hS ok P hP l hl (by omega) v w hRw hKw ((wg p hp).trans g) ((wg rb hrb).trans gr) (by omega) (by omega) (by omega)
   have u7:=fun cl L s=>congrFun (congrFun (congrFun K54r1s7.eq_1 cl) L) s
   have u8:=fun cl L s=>congrFun (congrFun (congrFun K54r1s8.eq_1 cl) L) s
   have u9:=fun cl L s=>congrFun (congrFun (congrFun K54r1s9.eq_1 cl) L) s
   have u10:=fun cl L s=>congrFun (congrFun (congrFun K54r1s10.eq_1 cl) L) s
   have u11:=fun cl L s=>congrFun (congrFun (congrFun K54r1s11.eq_1 cl) L) s
   have u12:=fun cl L s=>congrFun (congrFun (congrFun K54r1s12.eq_1 cl) L) s
   have u13:=fun cl L s=>congrFun (congrFun (congrFun K54r1s13.eq_1 cl) L) s
   have u14:=fun cl L s=>congrFun (congrFun (congrFun K54r1s14.eq_1 cl) L) s
   have u15:=fun cl L s=>congrFun (congrFun (congrFun K54r1s15.eq_1 cl) L) s
   have u18:=fun cl L s=>congrFun (congrFun (congrFun K54r1s18.eq_1 cl) L) s
   have u19:=fun cl L s=>congrFun (congrFun (congrFun K54r1s19.eq_1 cl) L) s
   have u20:=fun cl L s=>congrFun (congrFun (congrFun K54r1s20.eq_1 cl) L) s
   have u21:=fun cl L s=>congrFun (congrFun (congrFun K54r1s21.eq_1 cl) L) s
   have z0:decide ((0:Int)=0)=true:=rfl
   have eco:=count_ok n (by omega) l P.kind v ⟨w.h,w.n,far⟩ hRw (by omega) (by show w.n+2000≤far;omega)
   have hts:=fun v=>thenT_same (v:=v) (s:=w) (h:=(by omega:w.n≤far)) (hm:=(by omega:w.m≤far))
   obtain ⟨aP,hAP,ekP⟩:=kind_ok n (by omega) hS hP.k ok u hK g hp
   have ekP1:=ekP P.x P.y w wg (by omega) (by omega) (by omega)
   obtain ⟨W,hW0⟩:∃ A:St,A=kindT w [.int .i64 P.x,.int .i64 P.y,.int .i64 (P.kind:Int)] ((H.kind P.kind).row aP):=⟨_,rfl⟩
   rw [← hW0] at ekP1
   have Wn:W.n=w.n+2:=by rw [hW0];rfl
   have Wm:W.m=far:=by rw [hW0];exact wm
   have Wg:∀ c,c<w.n→W.h.get c=w.h.get c:=fun c hc=>by rw [hW0];exact kindT_get _ _ _ _ hc
   have okrP:∀ t,okA (.val (.agg ((H.kind P.kind).row aP)) t)=.val (.agg ((H.kind P.kind).row aP)) t:=fun _=>rfl
   have f5:nth ((H.kind P.kind).row aP) 5=.int .i64 (H.kind P.kind).most:=rfl
   have W5:=(Wg u.n (by omega)).trans w5
   have Wu:∀ c,c<u.n→W.h.get c=u.h.get c:=fun c hc=>(Wg c (by omega)).trans (wg c hc)
   have hKW:KindsAt no W.h W.n H.kinds vK:=hK.move (fun c h1 h2=>⟨Wu c h1,h2⟩) (by omega)
   have eca:=carries_ok n (by omega) hS ok (hB0.grow Wu (by omega:u.n≤W.n)) hKW (hR.grow Wu (by omega:u.n≤W.n)) hl hm hl1 hP hPc ((Wu p hp).trans g) (by omega) (by omega)
   rw [h1] at efb
   have d2:decide ((many l P.kind:Int)<(H.kind P.kind).most)=true:=decide_eq_true h2
   rw [enter54]
   simp (disch:=first|omega|(with_unfolding_all exact rfl)|(simp only[new_n,put_n,new_m];omega)|(refine put_m_le ?_;simp only[new_m];omega)) only [K54,K54r0,Abs.W,reduceIte,Nat.reduceEqDiff,Nat.reduceAdd,decide_true,decide_false,kLoop_def,Nat.reduceSub,List.cons_append,List.nil_append,List.append_nil,List.length_cons,List.length_nil,Env.find_set]
   rw [← hw]
   simp (disch:=first|omega|(with_unfolding_all exact rfl)|(simp only[new_n,put_n,new_m];omega)|(refine put_m_le ?_;simp only[new_m];omega)) only [K54r1,u7,u8,u9,u10,u11,u12,u13,u14,u15,u18,u19,u20,u21,res54,Abs.W,reduceIte,Nat.reduceEqDiff,Nat.reduceAdd,decide_true,decide_false,kLoop_def,Nat.reduceSub,List.cons_append,List.nil_append,List.append_nil,List.length_cons,List.length_nil,Env.find_set,find_cons,w5,kv,efb,z0,eco,hts,ekP1,fldE,f5,okrP,d2,W5,eca,Nat.zero_add]
   exact ⟨_,rfl,by omega⟩
  ·refine ⟨false,?_,⟨fun h=>(by cases h),fun h=>absurd h.m h2⟩⟩
   refine call_plain' Try.func54 (fun u uh un um=>?_) rfl
   rw [← uh,← un] at hB0 hK hR
   rw [← uh] at g gr
   rw [← un] at hp hrb
   obtain ⟨w,hw⟩:∃ w:St,w=u.new (.cells P.row (tag 51)):=⟨_,rfl⟩
   have wn:w.n=u.n+1:=by rw [hw];rfl
   have wm:w.m=far:=by rw [hw];exact um
   have wg:∀ c,c<u.n→w.h.get c=u.h.get c:=fun c hc=>by rw [hw,get_new_ne _ _ _ (by omega)]
   have w5:w.h.get u.n=some (.cells [.int .i64 P.x,.int .i64 P.y,.int .i64 (P.kind:Int)] (tag 51)):=by rw [hw];exact get_new_eq _ _ _ rfl (by omega)
   have hRw:=hR.grow wg (by omega:u.n≤w.n)
   have hBw:=hB0.grow wg (by omega:u.n≤w.n)
   have hKw:KindsAt no w.h w.n H.kinds vK:=hK.move (fun c h1 h2=>⟨wg c h1,h2⟩) (by omega)
   have efb:=firstBroken_ok n (by omega) hS ok P hP l hl (by omega) v w hRw hKw ((wg p hp).trans g) ((wg rb hrb).trans gr) (by omega) (by omega) (by omega)
   have u7:=fun cl L s=>congrFun (congrFun (congrFun K54r1s7.eq_1 cl) L) s
   have u8:=fun cl L s=>congrFun (congrFun (congrFun K54r1s8.eq_1 cl) L) s
   have u9:=fun cl L s=>congrFun (congrFun (congrFun K54r1s9.eq_1 cl) L) s
   have u10:=fun cl L s=>congrFun (congrFun (congrFun K54r1s10.eq_1 cl) L) s
   have u11:=fun cl L s=>congrFun (congrFun (congrFun K54r1s11.eq_1 cl) L) s
   have u12:=fun cl L s=>congrFun (congrFun (congrFun K54r1s12.eq_1 cl) L) s
   have u13:=fun cl L s=>congrFun (congrFun (congrFun K54r1s13.eq_1 cl) L) s
   have u14:=fun cl L s=>congrFun (congrFun (congrFun K54r1s14.eq_1 cl) L) s
   have u15:=fun cl L s=>congrFun (congrFun (congrFun K54r1s15.eq_1 cl) L) s
   have u18:=fun cl L s=>congrFun (congrFun (congrFun K54r1s18.eq_1 cl) L) s
   have u19:=fun cl L s=>congrFun (congrFun (congrFun K54r1s19.eq_1 cl) L) s
   have u20:=fun cl L s=>congrFun (congrFun (congrFun K54r1s20.eq_1 cl) L) s
   have u21:=fun cl L s=>congrFun (congrFun (congrFun K54r1s21.eq_1 cl) L) s
   have z0:decide ((0:Int)=0)=true:=rfl
   have eco:=count_ok n (by omega) l P.kind v ⟨w.h,w.n,far⟩ hRw (by omega) (by show w.n+2000≤far;omega)
   have hts:=fun v=>thenT_same (v:=v) (s:=w) (h:=(by omega:w.n≤far)) (hm:=(by omega:w.m≤far))
   obtain ⟨aP,hAP,ekP⟩:=kind_ok n (by omega) hS hP.k ok u hK g hp
   have ekP1:=ekP P.x P.y w wg (by omega) (by omega) (by omega)
   obtain ⟨W,hW0⟩:∃ A:St,A=kindT w [.int .i64 P.x,.int .i64 P.y,.int .i64 (P.kind:Int)] ((H.kind P.kind).row aP):=⟨_,rfl⟩
   rw [← hW0] at ekP1
   have Wn:W.n=w.n+2:=by rw [hW0];rfl
   have Wm:W.m=far:=by rw [hW0];exact wm
   have Wg:∀ c,c<w.n→W.h.get c=w.h.get c:=fun c hc=>by rw [hW0];exact kindT_get _ _ _ _ hc
   have okrP:∀ t,okA (.val (.agg ((H.kind P.kind).row aP)) t)=.val (.agg ((H.kind P.kind).row aP)) t:=fun _=>rfl
   have f5:nth ((H.kind P.kind).row aP) 5=.int .i64 (H.kind P.kind).most:=rfl
   have W5:=(Wg u.n (by omega)).trans w5
   have Wu:∀ c,c<u.n→W.h.get c=u.h.get c:=fun c hc=>(Wg c (by omega)).trans (wg c hc)
   have hKW:KindsAt no W.h W.n H.kinds vK:=hK.move (fun c h1 h2=>⟨Wu c h1,h2⟩) (by omega)
   rw [h1] at efb
   have d2:decide ((many l P.kind:Int)<(H.kind P.kind).most)=false:=decide_eq_false h2
   rw [enter54]
   simp (disch:=first|omega|(with_unfolding_all exact rfl)|(simp only[new_n,put_n,new_m];omega)|(refine put_m_le ?_;simp only[new_m];omega)) only [K54,K54r0,Abs.W,reduceIte,Nat.reduceEqDiff,Nat.reduceAdd,decide_true,decide_false,kLoop_def,Nat.reduceSub,List.cons_append,List.nil_append,List.append_nil,List.length_cons,List.length_nil,Env.find_set]
   rw [← hw]
   simp (disch:=first|omega|(with_unfolding_all exact rfl)|(simp only[new_n,put_n,new_m];omega)|(refine put_m_le ?_;simp only[new_m];omega)) only [K54r1,u7,u8,u9,u10,u11,u12,u13,u14,u15,u18,u19,u20,u21,res54,Abs.W,reduceIte,Nat.reduceEqDiff,Nat.reduceAdd,decide_true,decide_false,kLoop_def,Nat.reduceSub,List.cons_append,List.nil_append,List.append_nil,List.length_cons,List.length_nil,Env.find_set,find_cons,w5,kv,efb,z0,eco,hts,ekP1,fldE,f5,okrP,d2,Nat.zero_add]
   exact ⟨_,rfl,by omega⟩
 ·refine ⟨false,?_,⟨fun h=>(by cases h),fun h=>absurd h.e h1⟩⟩
  refine call_plain' Try.func54 (fun u uh un um=>?_) rfl
  rw [← uh,← un] at hB0 hK hR
  rw [← uh] at g gr
  rw [← un] at hp hrb
  obtain ⟨w,hw⟩:∃ w:St,w=u.new (.cells P.row (tag 51)):=⟨_,rfl⟩
  have wn:w.n=u.n+1:=by rw [hw];rfl
  have wm:w.m=far:=by rw [hw];exact um
  have wg:∀ c,c<u.n→w.h.get c=u.h.get c:=fun c hc=>by rw [hw,get_new_ne _ _ _ (by omega)]
  have w5:w.h.get u.n=some (.cells [.int .i64 P.x,.int .i64 P.y,.int .i64 (P.kind:Int)] (tag 51)):=by rw [hw];exact get_new_eq _ _ _ rfl (by omega)
  have hRw:=hR.grow wg (by omega:u.n≤w.n)
  have hBw:=hB0.grow wg (by omega:u.n≤w.n)
  have hKw:KindsAt no w.h w.n H.kinds vK:=hK.move (fun c h1 h2=>⟨wg c h1,h2⟩) (by omega)
  have efb:=firstBroken_ok n (by omega) hS ok P hP l hl (by omega) v w hRw hKw ((wg p hp).trans g) ((wg rb hrb).trans gr) (by omega) (by omega) (by omega)
  have u7:=fun cl L s=>congrFun (congrFun (congrFun K54r1s7.eq_1 cl) L) s
  have u8:=fun cl L s=>congrFun (congrFun (congrFun K54r1s8.eq_1 cl) L) s
  have u9:=fun cl L s=>congrFun (congrFun (congrFun K54r1s9.eq_1 cl) L) s
  have u10:=fun cl L s=>congrFun (congrFun (congrFun K54r1s10.eq_1 cl) L) s
  have u11:=fun cl L s=>congrFun (congrFun (congrFun K54r1s11.eq_1 cl) L) s
  have u12:=fun cl L s=>congrFun (congrFun (congrFun K54r1s12.eq_1 cl) L) s
  have u13:=fun cl L s=>congrFun (congrFun (congrFun K54r1s13.eq_1 cl) L) s
  have u14:=fun cl L s=>congrFun (congrFun (congrFun K54r1s14.eq_1 cl) L) s
  have u15:=fun cl L s=>congrFun (congrFun (congrFun K54r1s15.eq_1 cl) L) s
  have u18:=fun cl L s=>congrFun (congrFun (congrFun K54r1s18.eq_1 cl) L) s
  have u19:=fun cl L s=>congrFun (congrFun (congrFun K54r1s19.eq_1 cl) L) s
  have u20:=fun cl L s=>congrFun (congrFun (congrFun K54r1s20.eq_1 cl) L) s
  have u21:=fun cl L s=>congrFun (congrFun (congrFun K54r1s21.eq_1 cl) L) s
  have d1:decide (H.putE l P=0)=false:=decide_eq_false h1
  rw [enter54]
  simp (disch:=first|omega|(with_unfolding_all exact rfl)|(simp only[new_n,put_n,new_m];omega)|(refine put_m_le ?_;simp only[new_m];omega)) only [K54,K54r0,Abs.W,reduceIte,Nat.reduceEqDiff,Nat.reduceAdd,decide_true,decide_false,kLoop_def,Nat.reduceSub,List.cons_append,List.nil_append,List.append_nil,List.length_cons,List.length_nil,Env.find_set]
  rw [← hw]
  simp (disch:=first|omega|(with_unfolding_all exact rfl)|(simp only[new_n,put_n,new_m];omega)|(refine put_m_le ?_;simp only[new_m];omega)) only [K54r1,u7,u8,u9,u10,u11,u12,u13,u14,u15,u18,u19,u20,u21,res54,Abs.W,reduceIte,Nat.reduceEqDiff,Nat.reduceAdd,decide_true,decide_false,kLoop_def,Nat.reduceSub,List.cons_append,List.nil_append,List.append_nil,List.length_cons,List.length_nil,Env.find_set,find_cons,w5,kv,efb,d1,Nat.zero_add]
  exact ⟨_,rfl,by omega⟩
end Go.Proofs.Ytoklbkgcclkejaa.walk
set_option maxRecDepth 10000
namespace Go.Proofs.Ytoklbkgcclkejaa.walk
open Go.Abs Go.Proofs.Ytoklbkgcclkejaa.code
theorem vaultBears_bad (N:Nat) (hN:10≤N) {no:Nat→Prop} {H:HallR} {vW vS vB vK:AV} {l:List PutR} {v:AV} {s:St} (ok:H.Ok) (hH:HallAt no s.h s.n H vW vS vB vK) (hR:Sl no s.h s.n 3 (l.map PutR.row) v) (hl:∀ q ∈ l,q.In H) (hl1:l.length≤24) (hv:¬ H.Valid l) (hs:s.n+60000≤far) :
  ∃ e:Int,e≠0∧call Try.prog X N (.fn 14) [.agg (hallV H vW vS vB vK),v] s=.val (.tup [.int .i64 0,.int .i64 e]) s:=by
 obtain ⟨n,rfl⟩:∃ n,N=n+1:=⟨N - 1,by omega⟩
 have hf:far=1000000000:=rfl
 obtain ⟨vv,e,x,hx0,rfl⟩:=call_some (n:=n) (s:=s) (k:=10) (args:=[.agg (hallV H vW vS vB vK),v]) (Q:=fun v=>∃ e:Int,e≠0∧v=.tup [.int .i64 0,.int .i64 e]) Try.func14 (fun u uh un um=>by
  rw [← uh,← un] at hH hR
  have kv:=hR.okA
  obtain ⟨w,hw⟩:∃ w:St,w=u.new (.cells (hallV H vW vS vB vK) (tag 30)):=⟨_,rfl⟩
  have wn:w.n=u.n+1:=by rw [hw];rfl
  have wm:w.m=far:=by rw [hw];exact um
  have wg:∀ c,c<u.n→w.h.get c=u.h.get c:=fun c hc=>by rw [hw,get_new_ne _ _ _ (by omega)]
  have w0:w.h.get u.n=some (.cells (hallV H vW vS vB vK) (tag 30)):=by rw [hw];exact get_new_eq _ _ _ rfl (by omega)
  obtain ⟨e0,ec,hz⟩:=checkLayout_ex (N:=n) rfl (by omega) ok (hH.grow wg (by omega)) (hR.grow wg (by omega:u.n≤w.n)) hl hl1 (by omega)
  have he:e0≠0:=fun h=>hv (hz.mp h)
  have z1:decide (e0=0)=false:=decide_eq_false he
  rw [enter14]
  simp (disch:=first|omega|(with_unfolding_all exact rfl)|(simp only[new_n,put_n,new_m];omega)|(refine put_m_le ?_;simp only[new_m];omega)) only [K14,K14r0,Abs.W,reduceIte,Nat.reduceEqDiff,Nat.reduceAdd,decide_true,decide_false,kLoop_def,Nat.reduceSub,List.cons_append,List.nil_append,List.append_nil,List.length_cons,List.length_nil,Env.find_set]
  rw [← hw]
  simp (disch:=first|omega|(with_unfolding_all exact rfl)|(simp only[new_n,put_n,new_m];omega)|(refine put_m_le ?_;simp only[new_m];omega)) only [K14r1,K14r2,K14r3,res14,leave_two,Abs.W,reduceIte,Nat.reduceEqDiff,Nat.reduceAdd,decide_true,decide_false,kLoop_def,Nat.reduceSub,List.cons_append,List.nil_append,List.append_nil,List.length_cons,List.length_nil,Env.find_set,w0,kv,ec,z1,Nat.zero_add]
  exact ⟨_,_,rfl,⟨wg,by omega,by omega,by omega,by omega⟩,rfl,e0,he,rfl⟩)
 exact ⟨x,hx0,e⟩
theorem at_ok (N:Nat) (hN:1≤N) (k x y:Int) (s:St) (hs:s.n+10≤far):call Try.prog X N (.fn 28) [.int .i64 k,.int .i64 x,.int .i64 y] s=.val (.agg [.int .i64 x,.int .i64 y,.int .i64 k]) s:=by
 obtain ⟨n,rfl⟩:∃ n,N=n+1:=⟨N - 1,by omega⟩
 refine call_plain' Try.func28 (fun u uh un um=>?_) rfl
 have hf:far=1000000000:=rfl
 have shF:shapeT Try.prog 51=some (some 3):=by kernel_rfl
 rw [enter28]
 simp (disch:=first|omega|(with_unfolding_all exact rfl)|(simp only[new_n,put_n,new_m];omega)|(refine put_m_le ?_;simp only[new_m];omega)) only [K28,K28r0,K28r1,Abs.W,reduceIte,Nat.reduceEqDiff,Nat.reduceAdd,decide_true,decide_false,kLoop_def,Nat.reduceSub,List.cons_append,List.nil_append,List.append_nil,List.length_cons,List.length_nil,Env.find_set,Nat.zero_add]
 rw [res28]
 refine ⟨_,leave_cell1 _ _ _ _ shF ?_,?_⟩
 ·simp (disch:=first|omega|(with_unfolding_all exact rfl)|(simp only[new_n,put_n,new_m];omega)|(refine put_m_le ?_;simp only[new_m];omega)) only [Abs.W,reduceIte,Nat.reduceEqDiff,Nat.reduceAdd,decide_true,decide_false,kLoop_def,Nat.reduceSub,List.cons_append,List.nil_append,List.append_nil,List.length_cons,List.length_nil,Env.find_set]
 ·simp only [St.put,minN_eq,new_m];omega
end Go.Proofs.Ytoklbkgcclkejaa.walk
set_option maxRecDepth 10000
namespace Go.Proofs.Ytoklbkgcclkejaa.walk
open Go.Abs Go.Proofs.Ytoklbkgcclkejaa.code
abbrev cellN (c:Nat × Nat):Int × Int:=((c.1:Int),(c.2:Int))
noncomputable def HallR.some (H:HallR) (l:List PutR) (k:Nat) (p:List (Nat × Nat)):List (Int × Int):=(p.map cellN).filter (H.goodB l k)
theorem some_all (H:HallR) (l:List PutR) (k:Nat):H.some l k H.places=H.rooms l k:=rfl
theorem some_put (H:HallR) (l:List PutR) (k:Nat) (p:List (Nat × Nat)) (x:Nat × Nat):H.some l k (p++[x])=H.some l k p++if H.goodB l k (cellN x)=true then [cellN x] else []:=by
 unfold HallR.some
 rw [List.map_append,List.filter_append,List.map_cons,List.filter_cons]
 rfl
theorem some_len (H:HallR) (l:List PutR) (k:Nat) (p:List (Nat × Nat)):(H.some l k p).length≤p.length:=by
 unfold HallR.some
 have:=List.length_filter_le (H.goodB l k) (p.map cellN)
 rwa [List.length_map] at this
def RoomI (H:HallR) (l:List PutR) (k p10 lo:Nat) (p:List (Nat × Nat)) (h:Heap) (n:Nat):Prop:=∃ v b,IsAt h n b 2 (tag 27) ((H.some l k p).map cellR) v∧h.get p10=some (.cells [v] (tag 25))∧lo≤b∧(b<n∨far<b)
theorem room_ex {N:Nat} {no:Nat→Prop} {H:HallR} {vW vS vB vK:AV} {l:List PutR} {v:AV} {k:Nat} {s:St} {r:ARes} (hr:call Try.prog X N (.fn 26) [.agg (hallV H vW vS vB vK),v,.int .i64 (k:Int)] s=r) (hN:14≤N) (ok:H.Ok) (hH:HallAt no s.h s.n H vW vS vB vK) (hR:Sl no s.h s.n 3 (l.map PutR.row) v) (hl:∀ q ∈ l,q.In H) (hl1:l.length≤20) (hv:H.Valid l) (hk:k<H.kinds.length) (hs:s.n+100000≤far) :
  ∃ w t,r=.val (.tup [w,.int .i64 0]) t∧New s t 8000∧Sl (fun c=>s.n≤c) t.h t.n 2 ((H.rooms l k).map cellR) w:=by
 obtain ⟨M,rfl⟩:∃ M,N=M+3:=⟨N - 3,by omega⟩
 have hf:far=1000000000:=rfl
 have pl:=places_le ok.toSize
 have hl24:l.length≤24:=by omega
 obtain ⟨vv,t,e,st,w,rfl,hQ⟩:=call_new' (n:=M+2) (args:=[.agg (hallV H vW vS vB vK),v,.int .i64 (k:Int)]) (s:=s) (k:=8000) (Q:=fun v h n=>∃ w,v=.tup [w,.int .i64 0]∧Sl (fun c=>s.n≤c) h n 2 ((H.rooms l k).map cellR) w) Try.func26 rfl (fun u uh un um=>by
  rw [← uh,← un] at hH hR
  rw [← un] at hs ⊢
  have kv:=hR.okA
  have kK:=hH.k.okA
  have lK:=hH.k.len
  have bx:∀ sz s,boxA sz s v=.val (.ptr s.n 0) (s.new (.cells [v] sz)):=fun sz s=>by
   rcases hR.is with ⟨_,h⟩ | ⟨_,_,_,_,_,_,_,_,_,h,_⟩<;>rw [h]<;>rfl
  obtain ⟨w,hw⟩:∃ w:St,w=((u.new (.cells (hallV H vW vS vB vK) (tag 30))).new (.cells [v] (tag 32))).new (.cells [.int .i64 (k:Int)] (tag 3)):=⟨_,rfl⟩
  have wn:w.n=u.n+3:=by rw [hw];rfl
  have wm:w.m=far:=by rw [hw];exact um
  have wg:∀ c,c<u.n→w.h.get c=u.h.get c:=fun c hc=>by rw [hw,get_new_ne _ _ _ (by simp only [new_n];omega),get_new_ne _ _ _ (by simp only [new_n];omega),get_new_ne _ _ _ (by omega)]
  have w3:w.h.get u.n=some (.cells (hallV H vW vS vB vK) (tag 30)):=by rw [hw,get_new_ne _ _ _ (by simp only [new_n];omega),get_new_ne _ _ _ (by simp only [new_n];omega)];exact get_new_eq _ _ _ rfl (by omega)
  have w4:w.h.get (u.n+1)=some (.cells [v] (tag 32)):=by rw [hw,get_new_ne _ _ _ (by simp only [new_n];omega)];exact get_new_eq _ _ _ rfl (by simp only [new_n];omega)
  have w5:w.h.get (u.n+2)=some (.cells [.int .i64 (k:Int)] (tag 3)):=by rw [hw];exact get_new_eq _ _ _ rfl (by simp only [new_n];omega)
  have hHw:HallAt no w.h w.n H vW vS vB vK:=hH.grow wg (by omega)
  have hRw:=hR.grow wg (by omega:u.n≤w.n)
  obtain ⟨e0,ec,hz⟩:=checkLayout_ex (N:=M+2) (s:=⟨w.h,w.n,far⟩) rfl (by omega) ok hHw hRw hl hl24 (by show w.n+50000≤far;omega)
  rw [hz.mpr hv] at ec
  have hts:=fun v=>thenT_same (v:=v) (s:=w) (h:=(by omega:w.n≤far)) (hm:=(by omega:w.m≤far))
  have eck:=checkKind_ok (M+2) (by omega) H vW vS vB vK k hk ok.k1 w kK lK (by omega)
  have z0:decide ((0:Int)=0)=true:=rfl
  rw [enter26]
  simp (disch:=first|omega|(with_unfolding_all exact rfl)|(simp only[new_n,put_n,new_m];omega)|(refine put_m_le ?_;simp only[new_m];omega)) only [K26,K26r0,Abs.W,reduceIte,Nat.reduceEqDiff,Nat.reduceAdd,decide_true,decide_false,kLoop_def,Nat.reduceSub,List.cons_append,List.nil_append,List.append_nil,List.length_cons,List.length_nil,Env.find_set,bx,boxIntE,new_n]
  rw [← hw]
  simp (disch:=first|omega|(with_unfolding_all exact rfl)|(simp only[new_n,put_n,new_m];omega)|(refine put_m_le ?_;simp only[new_m];omega)) only [K26r1,Abs.W,reduceIte,Nat.reduceEqDiff,Nat.reduceAdd,decide_true,decide_false,kLoop_def,Nat.reduceSub,List.cons_append,List.nil_append,List.append_nil,List.length_cons,List.length_nil,Env.find_set,find_cons,w3,w4,w5,kv,ec,hts,eck,or_new2,Nat.zero_add]
  obtain ⟨y,hy⟩:∃ y:St,y=w.new (.cells [.int .i64 0,.int .i64 0] 0):=⟨_,rfl⟩
  have yn:y.n=w.n+1:=by rw [hy];rfl
  have ym:y.m=far:=by rw [hy];exact wm
  have yg:∀ c,c<w.n→y.h.get c=w.h.get c:=fun c hc=>by rw [hy,get_new_ne _ _ _ (by omega)]
  rw [← hy]
  have yu:∀ c,c<u.n→y.h.get c=u.h.get c:=fun c hc=>(yg c (by omega)).trans (wg c hc)
  have y3:=(yg u.n (by omega)).trans w3
  have y4:=(yg (u.n+1) (by omega)).trans w4
  have y5:=(yg (u.n+2) (by omega)).trans w5
  simp (disch:=first|omega|(with_unfolding_all exact rfl)|(simp only[new_n,put_n,new_m];omega)|(refine put_m_le ?_;simp only[new_m];omega)) only [K26r2,K26r4,Abs.W,reduceIte,Nat.reduceEqDiff,Nat.reduceAdd,decide_true,decide_false,kLoop_def,Nat.reduceSub,List.cons_append,List.nil_append,List.append_nil,List.length_cons,List.length_nil,Env.find_set,find_cons,z0,y3,Nat.zero_add]
  generalize hc1:call _ _ _ (.fn 44) _ _=r1
  obtain ⟨t1,p,rfl,st1,hp,sc,rb,hC,hpn,hrb,g,gr⟩:=siteOf_ex hc1 (by omega) ok (hH.grow yu (by omega)) (by omega)
  have n1:=st1.n
  have k1:=st1.le
  have m1:t1.m=far:=st1.m.trans ym
  obtain ⟨x1,hx1⟩:∃ x:St,x=(t1.new (.cells [.nilptr] (tag 78))).put t1.n (.cells [.ptr p 0] (tag 78)):=⟨_,rfl⟩
  have stx:storeA 1 (t1.new (.cells [.nilptr] (tag 78))) (.ptr p 0) (.ptr t1.n 0)=.val .undef x1:=by
   rw [hx1];exact store_cell (get_new_eq _ _ _ rfl (by omega)) (by show 0<1;omega) rfl rfl
  have x1n:x1.n=t1.n+1:=by rw [hx1];rfl
  have x1m:x1.m=min far t1.n:=by rw [hx1];simp only [St.put,minN_eq,new_m,m1]
  have x1g:∀ c,c<t1.n→x1.h.get c=t1.h.get c:=fun c hc=>by rw [hx1,get_put_ne' _ _ _ _ (by omega),get_new_ne _ _ _ (by omega)]
  have x19:x1.h.get t1.n=some (.cells [.ptr p 0] (tag 78)):=by rw [hx1];exact get_put_eq _ _ _ _ rfl (by omega)
  clear hx1
  have x1u:∀ c,c<y.n→x1.h.get c=y.h.get c:=fun c hc=>(x1g c (by omega)).trans (st1.same c hc)
  have x13:=(x1u u.n (by omega)).trans y3
  have x14:=(x1u (u.n+1) (by omega)).trans y4
  have x15:=(x1u (u.n+2) (by omega)).trans y5
  have xu:∀ c,c<u.n→x1.h.get c=u.h.get c:=fun c hc=>(x1u c (by omega)).trans (yu c hc)
  have gx:=(x1g p hpn).trans g
  have grx:=(x1g rb hrb).trans gr
  have hHx:HallAt no x1.h x1.n H vW vS vB vK:=hH.grow xu (by omega)
  have hRx:=hR.grow xu (by omega:u.n≤x1.n)
  have ebe:=bears_ok (M+2) (by omega) hC ok hHx.b hHx.k hRx hl (may_in hv) hl24 gx (by omega) (by omega)
  by_cases hv1:H.verdict l=1
  case neg =>
   have d1:decide (H.verdict l=1)=false:=decide_eq_false hv1
   have hrm:H.rooms l k=[]:=by
    unfold HallR.rooms
    refine List.filter_eq_nil_iff.mpr fun c _ hc=>good_none ok hl hk hv1 c (goodB_iff.mp hc)
   simp (disch:=first|omega|(with_unfolding_all exact rfl)|(simp only[new_n,put_n,new_m];omega)|(refine put_m_le ?_;simp only[new_m];omega)) only [K26r5,K26r6,res26,leave_two,Abs.W,reduceIte,Nat.reduceEqDiff,Nat.reduceAdd,decide_true,decide_false,kLoop_def,Nat.reduceSub,List.cons_append,List.nil_append,List.append_nil,List.length_cons,List.length_nil,Env.find_set,find_cons,stx,x19,x14,kv,ebe,d1,Nat.zero_add]
   refine ⟨_,_,rfl,⟨xu,by omega,by omega,by omega,by omega⟩,⟨_,rfl,by rw [hrm];exact Sl.nil _ _ _ _⟩,fun _=>⟨_,rfl,by rw [hrm];exact Sl.nil _ _ _ _⟩⟩
  case pos =>
  have d1:decide (H.verdict l=1)=true:=decide_eq_true hv1
  obtain ⟨x2,hx2⟩:∃ x:St,x=x1.new (.cells [.nilslice] (tag 25)):=⟨_,rfl⟩
  have x2n:x2.n=x1.n+1:=by rw [hx2];rfl
  have x2m:x2.m=x1.m:=by rw [hx2];rfl
  have x2g:∀ c,c<x1.n→x2.h.get c=x1.h.get c:=fun c hc=>by rw [hx2,get_new_ne _ _ _ (by omega)]
  have x2p:x2.h.get x1.n=some (.cells [.nilslice] (tag 25)):=by rw [hx2];exact get_new_eq _ _ _ rfl (by omega)
  have x23:=(x2g u.n (by omega)).trans x13
  have ep:=places_ok (M+2) (by omega) (hallV H vW vS vB vK) x2 (by omega)
  obtain ⟨s0,hs0⟩:∃ s0:St,s0=x2.new (.cells (hallV H vW vS vB vK) (tag 30)):=⟨_,rfl⟩
  have s0n:s0.n=x2.n+1:=by rw [hs0];rfl
  have s0m:s0.m=x1.m:=by rw [hs0];exact x2m
  have s0g:∀ c,c<x2.n→s0.h.get c=x2.h.get c:=fun c hc=>by rw [hs0,get_new_ne _ _ _ (by omega)]
  have s0h:s0.h.get x2.n=some (.cells (hallV H vW vS vB vK) (tag 30)):=by rw [hs0];exact get_new_eq _ _ _ rfl (by omega)
  rw [← hs0] at ep
  simp (disch:=first|omega|(with_unfolding_all exact rfl)|(simp only[new_n,put_n,new_m];omega)|(refine put_m_le ?_;simp only[new_m];omega)) only [K26r5,K26r7,Abs.W,reduceIte,Nat.reduceEqDiff,Nat.reduceAdd,decide_true,decide_false,kLoop_def,Nat.reduceSub,List.cons_append,List.nil_append,List.append_nil,List.length_cons,List.length_nil,Env.find_set,find_cons,stx,x19,x14,kv,ebe,d1,Nat.zero_add]
  rw [← hx2]
  simp (disch:=first|omega|(with_unfolding_all exact rfl)|(simp only[new_n,put_n,new_m];omega)|(refine put_m_le ?_;simp only[new_m];omega)) only [K26r8,new_n,Abs.W,reduceIte,Nat.reduceEqDiff,Nat.reduceAdd,decide_true,decide_false,kLoop_def,Nat.reduceSub,List.cons_append,List.nil_append,List.append_nil,List.length_cons,List.length_nil,Env.find_set,find_cons,x23,ep,okA_func,Nat.zero_add]
  clear ep hs0 hx2
  generalize hL0:Env.cons 0 _ _=L0
  have f4:L0.find 4=.ptr (u.n+1) 0:=by rw [← hL0];simp only [find_cons,reduceIte,Nat.reduceEqDiff]
  have f5:L0.find 5=.ptr (u.n+2) 0:=by rw [← hL0];simp only [find_cons,reduceIte,Nat.reduceEqDiff]
  have f9:L0.find 9=.ptr t1.n 0:=by rw [← hL0];simp only [find_cons,reduceIte,Nat.reduceEqDiff]
  have f10:L0.find 10=.ptr x1.n 0:=by rw [← hL0];simp only [find_cons,reduceIte,Nat.reduceEqDiff]
  have f30:L0.find 30=.func 75 [] [.ptr x2.n 0]:=by rw [← hL0];simp only [find_cons,reduceIte,Nat.reduceEqDiff]
  clear hL0
  have hh:=places1_hands (N:=M+1) (p:=x2.n) (H0:=s0.h) (rd:=fun y=>y=x2.n) ok.toSize s0h rfl
  have xs:∀ c,c<x1.n→s0.h.get c=x1.h.get c:=fun c hc=>(s0g c (by omega)).trans (x2g c hc)
  obtain ⟨s',e1,⟨v1,b1,i1,i2,i3,i4⟩,e3,e4,e5,e6,e7,e8,_⟩:=hands_range (P:=Try.prog) (X:=X) (M:=M) (Z:=M+2) hh (f:=.tmp 30) (ps:=[31]) (c:=⟨26,none,Try.f26.ntmps,X 26⟩) (L:=L0) (s:=s0) rfl (by rw [ev_tmp,f30]) rfl code26a0 code26b0 100 u.n 10000 (fun y=>y=x1.n∨s0.n+2≤y) (fun _ _=>True) (fun _ _ _ _ _=>trivial) (fun _=>trivial) (RoomI H l k x1.n (s0.n+2))
   (by omega) (fun y hy=>⟨by omega,rfl⟩) (fun y hy=>by omega) (by omega) (by omega) (by omega) (by omega) ⟨.nilslice,far+1,IsAt.nil _ _ _ _ _,(s0g _ (by omega)).trans x2p,by omega,.inr (by omega)⟩ (fun p h h' n n' hb hn0 hn ⟨v,b,h1,h2,h3,h4⟩=>⟨v,b,h1.mono (fun hbn=>hb b hbn (by omega)) hn,(hb _ (by omega) (by omega)).trans h2,h3,by omega⟩)
   (fun pp x rest t ht ⟨v1,b1,i1,i2,i3,i4⟩ hfr htn htf htm htm' _=>by
    have hxT:x ∈ H.places:=by rw [← ht];simp
    obtain ⟨kk,hkk,hke⟩:=List.getElem_of_mem hxT
    rw [places_at] at hke
    rw [places_len] at hkk
    have hpp:pp.length≤23:=by
     have:=congrArg List.length ht
     rw [List.length_append,List.length_cons] at this
     omega
    have hso:=some_len H l k pp
    have hsp:=some_put H l k pp x
    obtain ⟨xx,yy⟩:=x
    injection hke with hk1 hk2
    obtain ⟨z0,z1,z2,z3,z4,z5,z6,z7⟩:=ok.toSize
    have hxx:xx<H.wide:=by rw [← hk1];exact Nat.mod_lt _ (by omega)
    have hyy:yy<H.deep:=by rw [← hk2];exact Nat.div_lt_of_lt_mul (by rw [Nat.mul_comm];exact hkk)
    have tg:∀ c,c<x1.n→t.h.get c=x1.h.get c:=fun c hc=>(hfr c (by omega) (by omega)).trans (xs c hc)
    obtain ⟨y',hy'⟩:∃ y:St,y=(t.new (.cells [.int .i64 0,.int .i64 0] (tag 27))).put t.n (.cells [.int .i64 (xx:Int),.int .i64 (yy:Int)] (tag 27)):=⟨_,rfl⟩
    have yn':y'.n=t.n+1:=by rw [hy'];rfl
    have yg':∀ c,c<t.n→y'.h.get c=t.h.get c:=fun c hc=>by rw [hy',get_put_ne' _ _ _ _ (by omega),get_new_ne _ _ _ (by omega)]
    have yt':y'.h.get t.n=some (.cells [.int .i64 (xx:Int),.int .i64 (yy:Int)] (tag 27)):=by rw [hy'];exact get_put_eq _ _ _ _ rfl (by omega)
    have ym':y'.m=min t.m t.n:=by rw [hy'];simp only [St.put,minN_eq,new_m]
    obtain ⟨lo,hlo⟩:∃ o:AObj,o=.loop { loopO ⟨26,none,Try.f26.ntmps,X 26⟩ L0 [31] (rangeAt Try.f26 0).1 (rangeAt Try.f26 0).2 s0 with state:=.busy }:=⟨_,rfl⟩
    obtain ⟨z,hz⟩:∃ z:St,z=y'.put (s0.n+1) lo:=⟨_,rfl⟩
    have zn:z.n=y'.n:=by rw [hz];rfl
    have zg:∀ c,c≠s0.n+1→z.h.get c=y'.h.get c:=fun c hc=>by rw [hz,get_put_ne' _ _ _ _ hc]
    have zl:z.h.get (s0.n+1)=some lo:=by rw [hz];exact get_put_eq _ _ _ _ rfl (by omega)
    have zm:z.m=min y'.m (s0.n+1):=by rw [hz];simp only [St.put,minN_eq]
    have zx:∀ c,c<x1.n→z.h.get c=x1.h.get c:=fun c hc=>(zg c (by omega)).trans ((yg' c (by omega)).trans (tg c hc))
    have z4':=(zx (u.n+1) (by omega)).trans x14
    have z5':=(zx (u.n+2) (by omega)).trans x15
    have z9':=(zx t1.n (by omega)).trans x19
    have zt:=(zg t.n (by omega)).trans yt'
    have zp:=(zg x1.n (by omega)).trans ((yg' x1.n (by omega)).trans i2)
    have zi:IsAt z.h z.n b1 2 (tag 27) ((H.some l k pp).map cellR) v1:=i1.mono (fun hb=>(zg b1 (by omega)).trans (yg' b1 hb)) (by omega)
    have kv1:=zi.okA
    have hP:(PutR.mk (xx:Int) (yy:Int) k).In H:=⟨hk,by show -100≤(xx:Int);omega,by show (xx:Int)≤100;omega,by show -100≤(yy:Int);omega,by show (yy:Int)≤100;omega⟩
    obtain ⟨is,eis,his⟩:=takes_ok M (by omega) hC ok (hHx.b.grow zx (by omega)) (hHx.k.move (fun c h1 h2=>⟨zx c h1,h2⟩) (by omega):KindsAt no z.h z.n H.kinds vK) (hRx.grow zx (by omega)) hl (may_in hv) hl24 hP ((zx p (by omega)).trans gx) ((zx rb (by omega)).trans grx) (by omega) (by omega) (by omega)
    have eis':call Try.prog X M (.fn 54) [.ptr p 0,v,.agg [.int .i64 (xx:Int),.int .i64 (yy:Int),.int .i64 (k:Int)]] z=.val (.bool is) z:=eis
    have hgo:is=true↔H.goodB l k (cellN (xx,yy))=true:=by
     rw [his,takes_iff ok hv hv1 hl hP,goodB_iff];rfl
    have hka:K26a0 (call Try.prog X M) ⟨26,some (s0.n+1),Try.f26.ntmps,X 26⟩ (setParams L0 [31] [evP (xx,yy)]) [] t=.done .norm ((L0.set 31 (evP (xx,yy))).set 11 (.ptr t.n 0)) [] y':=by
     rw [hy']
     simp (disch:=first|omega|(with_unfolding_all exact rfl)|(simp only[new_n,put_n,new_m];omega)|(refine put_m_le ?_;simp only[new_m];omega)) only [K26a0,K26a0r0,Abs.W,reduceIte,Nat.reduceEqDiff,Nat.reduceAdd,decide_true,decide_false,kLoop_def,Nat.reduceSub,List.cons_append,List.nil_append,List.append_nil,List.length_cons,List.length_nil,setParams1,Env.find_set,Nat.reduceEqDiff]
    cases is with
    | false =>
     have hng:¬ H.goodB l k (cellN (xx,yy))=true:=fun h=>by cases hgo.mpr h
     rw [if_neg hng,List.append_nil] at hsp
     refine ⟨_,y',((L0.set 31 (evP (xx,yy))).set 11 (.ptr t.n 0)).set 37 (.bool false),z,hka,yg' _ (by omega),?_,⟨v1,b1,by rw [hsp];exact zi,zp,i3,by omega⟩,by rw [← hlo];exact zl,fun c hc h1 h2=>(zg c h1).trans (yg' c hc),by omega,by omega,by omega,by omega,trivial⟩
     rw [← hlo,← hz]
     simp (disch:=first|omega|(with_unfolding_all exact rfl)|(simp only[new_n,put_n,new_m];omega)|(refine put_m_le ?_;simp only[new_m];omega)) only [K26b0,K26b0r0,Abs.W,reduceIte,Nat.reduceEqDiff,Nat.reduceAdd,decide_true,decide_false,kLoop_def,Nat.reduceSub,List.cons_append,List.nil_append,List.append_nil,List.length_cons,List.length_nil,Env.find_set,find_cons,Nat.reduceEqDiff,Nat.zero_add,Nat.add_zero,f4,f5,f9,z4',z5',z9',zt,kv,eis']
    | true =>
     rw [if_pos (hgo.mp rfl)] at hsp
     obtain ⟨Y,hY⟩:∃ Y:St,Y=z.new (.cells [.int .i64 (xx:Int),.int .i64 (yy:Int)] 0):=⟨_,rfl⟩
     have Yn:Y.n=z.n+1:=by rw [hY];rfl
     have Ym:Y.m=z.m:=by rw [hY];rfl
     have Yg:∀ c,c<z.n→Y.h.get c=z.h.get c:=fun c hc=>by rw [hY,get_new_ne _ _ _ (by omega)]
     have Yt:Y.h.get z.n=some (.cells [.int .i64 (xx:Int),.int .i64 (yy:Int)] 0):=by rw [hY];exact get_new_eq _ _ _ rfl (by omega)
     obtain ⟨s7,e7,l7,s7n,s7g,s7m,s7l⟩:=append_at (bytes:=16) (zi.mono (h':=Y.h) (n':=Y.n) (fun h=>Yg b1 h) (by omega)) Yt rfl rfl (by rw [List.length_map];omega) (by kernel_rfl) (by omega)
     rw [List.length_map] at e7 l7
     obtain ⟨v7,hv7⟩:∃ v7,v7=AV.slice Y.n 0 ((H.some l k pp).length+1) ((H.some l k pp).length+1) true:=⟨_,rfl⟩
     rw [← hv7] at e7 l7
     have okv7:∀ t,okA (.val v7 t)=.val v7 t:=fun t=>by rw [hv7];rfl
     have s7p:=(s7g x1.n (by omega) (by omega)).trans ((Yg x1.n (by omega)).trans zp)
     have s7u:u.n≤s7.m:=s7m u.n (by omega) (by omega) (by omega)
     have st7:storeA 1 s7 v7 (.ptr x1.n 0)=.val .undef (s7.put x1.n (.cells [v7] (tag 25))):=store_cell s7p (by show 0<1;omega) (by rw [hv7];rfl) (by rw [hv7];rfl)
     have hl7:(H.some l k pp).map cellR++[[AV.int .i64 (xx:Int),.int .i64 (yy:Int)]]=(H.some l k (pp++[(xx,yy)])).map cellR:=by rw [hsp,List.map_append];rfl
     rw [hl7] at l7
     refine ⟨_,y',((L0.set 31 (evP (xx,yy))).set 11 (.ptr t.n 0)).set 37 (.bool true),s7.put x1.n (.cells [v7] (tag 25)),hka,yg' _ (by omega),?_,⟨v7,Y.n,l7.mono (fun _=>get_put_ne' _ _ _ _ (by omega)) (Nat.le_refl _),get_put_eq _ _ _ _ rfl (by omega),by omega,.inl (by rw [put_n];omega)⟩,?_,fun c hc h1 h2=>?_,by rw [put_n];omega,by rw [put_n];omega,?_,?_,trivial⟩
     ·rw [← hlo,← hz]
      simp (disch:=first|omega|(with_unfolding_all exact rfl)|(simp only[new_n,put_n,new_m];omega)|(refine put_m_le ?_;simp only[new_m];omega)) only [K26b0,K26b0r0,K26b0r1,Abs.W,reduceIte,Nat.reduceEqDiff,Nat.reduceAdd,decide_true,decide_false,kLoop_def,Nat.reduceSub,List.cons_append,List.nil_append,List.append_nil,List.length_cons,List.length_nil,Env.find_set,find_cons,Nat.reduceEqDiff,Nat.zero_add,Nat.add_zero,f4,f5,f9,f10,z4',z5',z9',zt,zp,kv,kv1,eis']
      rw [← hY]
      simp (disch:=first|omega|(with_unfolding_all exact rfl)|(simp only[new_n,put_n,new_m];omega)|(refine put_m_le ?_;simp only[new_m];omega)) only [Abs.W,reduceIte,Nat.reduceEqDiff,Nat.reduceAdd,decide_true,decide_false,kLoop_def,Nat.reduceSub,List.cons_append,List.nil_append,List.append_nil,List.length_cons,List.length_nil,Env.find_set,find_cons,e7,st7,okv7,f10,Nat.reduceEqDiff]
     ·rw [← hlo,get_put_ne' _ _ _ _ (by omega),s7g _ (by omega) (by omega),Yg _ (by omega)];exact zl
     ·rw [get_put_ne' _ _ _ _ (by omega),s7g c (by omega) (by omega),Yg c (by omega),zg c h1];exact yg' c hc
     ·simp only [St.put,minN_eq];omega
     ·simp only [St.put,minN_eq];omega)
  rw [e1]
  have kv1:=i1.okA
  have su:∀ c,c<u.n→s'.h.get c=u.h.get c:=fun c hc=>(e3 c (by omega) (by omega)).trans ((xs c (by omega)).trans (xu c hc))
  simp (disch:=first|omega|(with_unfolding_all exact rfl)|(simp only[new_n,put_n,new_m];omega)|(refine put_m_le ?_;simp only[new_m];omega)) only [K26r9,Abs.W,reduceIte,Nat.reduceEqDiff,Nat.reduceAdd,decide_true,decide_false,kLoop_def,Nat.reduceSub,List.cons_append,List.nil_append,List.append_nil,List.length_cons,List.length_nil,Env.find_set,find_cons,f10,i2,kv1,Nat.zero_add]
  rw [leave_dfr _ _ _ _ _ e4,res26,leave_two]
  simp only [Env.find_set,reduceIte,Nat.reduceEqDiff]
  have ik:IsAt (s'.kill s0.n).h (s'.kill s0.n).n b1 2 (tag 27) ((H.rooms l k).map cellR) v1:=by
   rw [← some_all];exact i1.mono (fun _=>get_kill_ne _ _ _ (by omega)) (Nat.le_refl _)
  refine ⟨_,_,rfl,⟨fun c hc=>?_,?_,?_,?_,?_⟩,⟨v1,rfl,Sl.of_at ik fun _=>by omega⟩,fun hpl=>?_⟩
  ·rw [get_kill_ne _ _ _ (by omega)];exact su c hc
  ·simp only [St.kill];omega
  ·simp only [St.kill];omega
  ·simp only [St.kill,minN_eq];omega
  ·simp only [St.kill,minN_eq];omega
  ·rcases ik.is with ⟨q1,q2⟩ | ⟨_,_,q3,_⟩
   ·have hrm:H.rooms l k=[]:=List.map_eq_nil_iff.mp q1
    exact ⟨.nilslice,by rw [q2],by rw [hrm];exact Sl.nil _ _ _ _⟩
   ·rw [q3] at hpl;cases hpl)
 exact ⟨w,t,hr.symm.trans e,st,hQ⟩
end Go.Proofs.Ytoklbkgcclkejaa.walk
set_option maxRecDepth 10000
namespace Go.Proofs.Ytoklbkgcclkejaa.walk
open Go.Abs Go.Proofs.Ytoklbkgcclkejaa.code
noncomputable def vrmRest:K:=(kSeq (kRegion K6r2 [4]) (kSeq (kRegion K6r3 [5]) (kSeq (kRegion K6r4 [6]) (kSeq (kRegion K6r5 [7,8]) (kSeq (kSeq (kRegion K6r6 [35]) (kCond (.tmp 35) (kSeq (kRegion K6r7 [2]) kRet) kSkip)) (kSeq (kRegion K6r8 [9]) (kSeq (kSeq (kRegion K6r9 [10]) (kBlock 0 (kLoop K6l1))) (kSeq (kRegion K6r21 [2]) kRet))))))))
theorem vrm_round (n:Nat) (hn:20≤n) (cx:Ctx) {w t:St} {no:Nat→Prop} {p4 k x z:Nat} {H:HallR} {vW vS vB vK v rv:AV} {l:List PutR} {L:Env} (ok:H.Ok) (hv:H.Valid l) (hl:∀ q ∈ l,q.In H) (hl1:l.length≤10) (hk:k<H.kinds.length) (hH:HallAt no w.h w.n H vW vS vB vK) (hR:Sl no w.h w.n 3 (l.map PutR.row) v) (hM:Sl no w.h w.n 2 ((H.rooms l k).map cellR) rv) (g4:w.h.get p4=some (.cells (hallV H vW vS vB vK) (tag 30))) (hp4:p4<w.n) (tg:∀ c,c<w.n→t.h.get c=w.h.get c) (tn:w.n≤t.n) (hs:t.n+70000≤far) (hx:x<H.wide+2) (hz:z<H.deep+2)
  (q4:L.find 4=.ptr p4 0) (q5:L.find 5=v) (q6:L.find 6=.int .i64 (k:Int)) (q7:L.find 7=rv) (q9:L.find 9=.int .i64 (H.seen l k (H.vis z x):Int)) (q10:L.find 10=.int .i64 ((z:Int) - 1)) (q11:L.find 11=.int .i64 ((x:Int) - 1)) :
  ∃ L1 t1,K6l0 (awd n) cx L [] t=.done .norm L1 [] t1∧(∀ c,c<w.n→t1.h.get c=w.h.get c)∧w.n≤t1.n∧t1.n≤t.n+20∧L1.find 4=.ptr p4 0∧L1.find 5=v∧L1.find 6=.int .i64 (k:Int)∧L1.find 7=rv∧L1.find 9=.int .i64 (H.seen l k (H.vis z (x+1)):Int)∧L1.find 10=.int .i64 ((z:Int) - 1)∧L1.find 11=.int .i64 (((x+1:Nat):Int) - 1):=by
 have hf:far=1000000000:=rfl
 have knC:∀ args s,awd n (.fn 27) args s=call Try.prog X n (.fn 27) args s:=fun _ _=>rfl
 have knT:∀ args s,awd n (.fn 28) args s=call Try.prog X n (.fn 28) args s:=fun _ _=>rfl
 have knB:∀ args s,awd n (.fn 14) args s=call Try.prog X n (.fn 14) args s:=fun _ _=>rfl
 have ex0:∀ (a b:AV) (s:St),extA 0 s (.tup [a,b])=.val a s:=fun _ _ _=>rfl
 have ex1:∀ (a b:AV) (s:St),extA 1 s (.tup [a,b])=.val b s:=fun _ _ _=>rfl
 have okt:∀ (a b:AV) (s:St),okA (.val (.tup [a,b]) s)=.val (.tup [a,b]) s:=fun _ _ _=>rfl
 have u4:=fun cl L s=>congrFun (congrFun (congrFun K6r15s4.eq_1 cl) L) s
 have u5:=fun cl L s=>congrFun (congrFun (congrFun K6r15s5.eq_1 cl) L) s
 have u6:=fun cl L s=>congrFun (congrFun (congrFun K6r16s6.eq_1 cl) L) s
 have u7:=fun cl L s=>congrFun (congrFun (congrFun K6r16s7.eq_1 cl) L) s
 have u8:=fun cl L s=>congrFun (congrFun (congrFun K6r16s8.eq_1 cl) L) s
 have u9:=fun cl L s=>congrFun (congrFun (congrFun K6r16s9.eq_1 cl) L) s
 have u10:=fun cl L s=>congrFun (congrFun (congrFun K6r16s10.eq_1 cl) L) s
 have u11:=fun cl L s=>congrFun (congrFun (congrFun K6r16s11.eq_1 cl) L) s
 have u12:=fun cl L s=>congrFun (congrFun (congrFun K6r16s12.eq_1 cl) L) s
 have u13:=fun cl L s=>congrFun (congrFun (congrFun K6r16s13.eq_1 cl) L) s
 have w1:=ok.w1
 have d1:=ok.d1
 have kv:=hR.okA
 have kM:=hM.okA
 have lM:=slCells hM
 have kW:=hH.w.okA
 have kS:=hH.s.okA
 have kB:=hH.b.okA
 have kK:=hH.k.okA
 have okh:∀ t,okA (.val (.agg (hallV H vW vS vB vK)) t)=.val (.agg (hallV H vW vS vB vK)) t:=fun _=>rfl
 have h24:=places_le ok.toSize
 have hsl:H.seen l k (H.vis z x)≤24:=by have:=seen_le H l k (H.vis z x);rw [placesI_len] at this;omega
 have t4:=(tg p4 hp4).trans g4
 have hRt:Sl no t.h t.n 3 (l.map PutR.row) v:=hR.grow tg tn
 have e0:decide ((x:Int) - 1≤(H.wide:Int))=true:=decide_eq_true (by omega)
 have ad:∀ s,aAdd s .i64 ((x:Int) - 1) 1=.val (.int .i64 (((x+1:Nat):Int) - 1)) s:=fun s=>by rw [aAdd_i64 s _ _ (by omega)];congr 2;omega
 obtain ⟨P,hP⟩:∃ P:PutR,P=⟨(x:Int) - 1,(z:Int) - 1,k⟩:=⟨_,rfl⟩
 have hPin:P.In H:=by rw [hP];exact ⟨hk,by show -100≤(x:Int) - 1;omega,by show (x:Int) - 1≤100;omega,by show -100≤(z:Int) - 1;omega,by show (z:Int) - 1≤100;omega⟩
 have hin:∀ q ∈ l++[P],q.In H:=fun q hq=>by
  rcases List.mem_append.mp hq with h | h
  ·exact hl q h
  ·rw [List.mem_singleton.mp h];exact hPin
 have hgd:H.good l k ((x:Int) - 1,(z:Int) - 1)↔H.Valid (l++[P])∧H.verdict (l++[P])=1:=by rw [hP];rfl
 have hlen:(l++[P]).length≤24:=by rw [List.length_append,List.length_singleton];omega
 simp (disch:=first|omega|(with_unfolding_all exact rfl)|(simp only[new_n,put_n,new_m];omega)|(refine put_m_le ?_;simp only[new_m];omega)) only [K6l0,K6r12,K6r13,Abs.W,reduceIte,Nat.reduceEqDiff,Nat.reduceAdd,decide_true,decide_false,kLoop_def,Nat.reduceSub,List.cons_append,List.nil_append,List.append_nil,List.length_cons,List.length_nil,Env.find_set,find_cons,Nat.zero_add,q4,q5,q11,t4,e0,kv,knC]
 generalize hc1:call _ _ _ (.fn 27) _ _=r1
 obtain ⟨c1,t1,rfl,st1,hW⟩:=copyLayout_ex (l:=l) hc1 (by omega) hRt (by omega) (by omega)
 have n1:=st1.n
 have k1:=st1.le
 have kc:∀ t,okA (.val c1 t)=.val c1 t:=fun t=>okA_ne hW.seq.at_.ne
 have eat:=at_ok n (by omega) (k:Int) ((x:Int) - 1) ((z:Int) - 1) t1 (by omega)
 obtain ⟨y,hy⟩:∃ y:St,y=t1.new (.cells [.int .i64 ((x:Int) - 1),.int .i64 ((z:Int) - 1),.int .i64 (k:Int)] 0):=⟨_,rfl⟩
 have yn:y.n=t1.n+1:=by rw [hy];rfl
 have yg:∀ c,c<t1.n→y.h.get c=t1.h.get c:=fun c hc=>by rw [hy,get_new_ne _ _ _ (by omega)]
 have yp:y.h.get t1.n=some (.cells P.row 0):=by rw [hy,hP];exact get_new_eq _ _ _ rfl (by omega)
 obtain ⟨s7,e7,l7,s7n,s7g,s7m,s7l⟩:=append_own (bytes:=24) (n0:=t1.n) (hW.mono (h':=y.h) (n':=t1.n) (fun c h1 h2=>yg c h2) (Nat.le_refl _)) (by omega) yp rfl rfl (by rw [List.length_map];omega) (by kernel_rfl) (by omega)
 rw [List.length_map] at e7 l7
 obtain ⟨v7,hv7⟩:∃ v7,v7=AV.slice y.n 0 (l.length+1) (l.length+1) true:=⟨_,rfl⟩
 rw [← hv7] at e7 l7
 rw [show l.map PutR.row++[P.row]=(l++[P]).map PutR.row from by rw [List.map_append];rfl] at l7
 have okv7:∀ t,okA (.val v7 t)=.val v7 t:=fun t=>by rw [hv7];rfl
 have g7:∀ c,c<t.n→s7.h.get c=t.h.get c:=fun c hc=>(s7g c (by omega) (.inl hc)).trans ((yg c (by omega)).trans (st1.same c hc))
 have w7:∀ c,c<w.n→s7.h.get c=w.h.get c:=fun c hc=>(g7 c (by omega)).trans (tg c hc)
 have s74:=(g7 p4 (by omega)).trans t4
 have hH7:HallAt (fun _=>True) s7.h s7.n H vW vS vB vK:=hH.move (fun c h1 h2=>⟨w7 c h1,trivial⟩) (by omega)
 have hR7:Sl (fun _=>True) s7.h s7.n 3 ((l++[P]).map PutR.row) v7:=Sl.of_at l7 fun _=>trivial
 simp (disch:=first|omega|(with_unfolding_all exact rfl)|(simp only[new_n,put_n,new_m];omega)|(refine put_m_le ?_;simp only[new_m];omega)) only [Abs.W,reduceIte,Nat.reduceEqDiff,Nat.reduceAdd,decide_true,decide_false,kLoop_def,Nat.reduceSub,List.cons_append,List.nil_append,List.append_nil,List.length_cons,List.length_nil,Env.find_set,find_cons,Nat.zero_add,q6,q10,q11,kc,knT,eat]
 rw [← hy]
 simp (disch:=first|omega|(with_unfolding_all exact rfl)|(simp only[new_n,put_n,new_m];omega)|(refine put_m_le ?_;simp only[new_m];omega)) only [K6r14,Abs.W,reduceIte,Nat.reduceEqDiff,Nat.reduceAdd,decide_true,decide_false,kLoop_def,Nat.reduceSub,List.cons_append,List.nil_append,List.append_nil,List.length_cons,List.length_nil,Env.find_set,find_cons,Nat.zero_add,e7,okv7,q4,s74,okh,knB]
 by_cases hval:H.Valid (l++[P])
 ·have ebe:=vaultBears_ok n (by omega) ok hH7 hR7 hin hlen hval (by omega)
  have z0:decide ((0:Int)=0)=true:=rfl
  by_cases hv1:H.verdict (l++[P])=1
  ·have hg:=hgd.mpr ⟨hval,hv1⟩
   obtain ⟨hse,hlt,hat⟩:=vis_good hg
   have d1:decide (H.verdict (l++[P])=1)=true:=decide_eq_true hv1
   obtain ⟨rb,ro,rc,rsz,⟨r1,_⟩,r2,r3,r4⟩:=slCell hM hlt
   rw [hat] at r4
   have r5:=(w7 rb r1).trans r3
   have dg:decide ((H.rooms l k).length≤H.seen l k (H.vis z x))=false:=decide_eq_false (by omega)
   have dg':decide (((H.rooms l k).length:Int)≤(H.seen l k (H.vis z x):Int))=false:=decide_eq_false (by omega)
   have dl':decide ((H.seen l k (H.vis z x):Int)<((H.rooms l k).length:Int))=true:=decide_eq_true (by omega)
   have ad9:∀ s,aAdd s .i64 (H.seen l k (H.vis z x):Int) 1=.val (.int .i64 (H.seen l k (H.vis z (x+1)):Int)) s:=fun s=>by rw [aAdd_i64 s _ _ (by omega),hse];rfl
   have eq':∀ t,eqlA (.row [(0,none,.int),(1,none,.int)]) true t (.agg [.int .i64 ((x:Int) - 1),.int .i64 ((z:Int) - 1)]) (.agg [.int .i64 ((x:Int) - 1),.int .i64 ((z:Int) - 1)])=.val (.bool false) t:=fun t=>by
    have:=eql_cellN ((x:Int) - 1,(z:Int) - 1) ((x:Int) - 1,(z:Int) - 1) t
    rw [decide_eq_true rfl] at this
    exact this
   have okc:∀ (a b:Int) t,okA (.val (.agg [.int .i64 a,.int .i64 b]) t)=.val (.agg [.int .i64 a,.int .i64 b]) t:=fun _ _ _=>rfl
   simp (disch:=first|omega|(with_unfolding_all exact rfl)|(simp only[new_n,put_n,new_m];omega)|(refine put_m_le ?_;simp only[new_m];omega)) only [K6r15,u4,u5,K6r16,u6,u7,u8,u9,u10,u11,u12,u13,K6r18,K6r19,Abs.W,reduceIte,Nat.reduceEqDiff,Nat.reduceAdd,decide_true,decide_false,kLoop_def,Nat.reduceSub,List.cons_append,List.nil_append,List.append_nil,List.length_cons,List.length_nil,Env.find_set,find_cons,Nat.zero_add,ebe,ex0,ex1,okt,z0,d1,q7,q9,q10,q11,kM,lM,dg',dl',r2,r5,r4,okc,kEqlE,eq',ad9,ad]
   refine ⟨_,_,rfl,w7,by omega,by omega,?_,?_,?_,?_,?_,?_,?_⟩
   ·simp only [Env.find_set,q4,reduceIte,Nat.reduceEqDiff]
   ·simp only [Env.find_set,q5,reduceIte,Nat.reduceEqDiff]
   ·simp only [Env.find_set,q6,reduceIte,Nat.reduceEqDiff]
   ·simp only [Env.find_set,q7,reduceIte,Nat.reduceEqDiff]
   ·simp only [Env.find_set,reduceIte,Nat.reduceEqDiff]
   ·simp only [Env.find_set,q10,reduceIte,Nat.reduceEqDiff]
   ·simp only [Env.find_set,reduceIte,Nat.reduceEqDiff]
  ·have hg:¬ H.good l k ((x:Int) - 1,(z:Int) - 1):=fun h=>hv1 (hgd.mp h).2
   have d1:decide (H.verdict (l++[P])=1)=false:=decide_eq_false hv1
   have hse:=vis_bad hx hz hg
   simp (disch:=first|omega|(with_unfolding_all exact rfl)|(simp only[new_n,put_n,new_m];omega)|(refine put_m_le ?_;simp only[new_m];omega)) only [K6r15,u4,u5,K6r19,Abs.W,reduceIte,Nat.reduceEqDiff,Nat.reduceAdd,decide_true,decide_false,kLoop_def,Nat.reduceSub,List.cons_append,List.nil_append,List.append_nil,List.length_cons,List.length_nil,Env.find_set,find_cons,Nat.zero_add,ebe,ex0,ex1,okt,z0,d1,q11,ad]
   refine ⟨_,_,rfl,w7,by omega,by omega,?_,?_,?_,?_,?_,?_,?_⟩
   ·simp only [Env.find_set,q4,reduceIte,Nat.reduceEqDiff]
   ·simp only [Env.find_set,q5,reduceIte,Nat.reduceEqDiff]
   ·simp only [Env.find_set,q6,reduceIte,Nat.reduceEqDiff]
   ·simp only [Env.find_set,q7,reduceIte,Nat.reduceEqDiff]
   ·rw [hse];simp only [Env.find_set,q9,reduceIte,Nat.reduceEqDiff]
   ·simp only [Env.find_set,q10,reduceIte,Nat.reduceEqDiff]
   ·simp only [Env.find_set,reduceIte,Nat.reduceEqDiff]
 ·have hg:¬ H.good l k ((x:Int) - 1,(z:Int) - 1):=fun h=>hval (hgd.mp h).1
  have hse:=vis_bad hx hz hg
  obtain ⟨eb,heb,ebe⟩:=vaultBears_bad n (by omega) ok hH7 hR7 hin hlen hval (by omega)
  have d1:decide (eb=0)=false:=decide_eq_false heb
  simp (disch:=first|omega|(with_unfolding_all exact rfl)|(simp only[new_n,put_n,new_m];omega)|(refine put_m_le ?_;simp only[new_m];omega)) only [K6r15,u4,u5,K6r19,Abs.W,reduceIte,Nat.reduceEqDiff,Nat.reduceAdd,decide_true,decide_false,kLoop_def,Nat.reduceSub,List.cons_append,List.nil_append,List.append_nil,List.length_cons,List.length_nil,Env.find_set,find_cons,Nat.zero_add,ebe,ex0,ex1,okt,d1,q11,ad]
  refine ⟨_,_,rfl,w7,by omega,by omega,?_,?_,?_,?_,?_,?_,?_⟩
  ·simp only [Env.find_set,q4,reduceIte,Nat.reduceEqDiff]
  ·simp only [Env.find_set,q5,reduceIte,Nat.reduceEqDiff]
  ·simp only [Env.find_set,q6,reduceIte,Nat.reduceEqDiff]
  ·simp only [Env.find_set,q7,reduceIte,Nat.reduceEqDiff]
  ·rw [hse];simp only [Env.find_set,q9,reduceIte,Nat.reduceEqDiff]
  ·simp only [Env.find_set,q10,reduceIte,Nat.reduceEqDiff]
  ·simp only [Env.find_set,reduceIte,Nat.reduceEqDiff]
end Go.Proofs.Ytoklbkgcclkejaa.walk
set_option maxRecDepth 10000
namespace Go.Proofs.Ytoklbkgcclkejaa.walk
open Go.Abs Go.Proofs.Ytoklbkgcclkejaa.code
theorem vrm_row (n:Nat) (hn:20≤n) (cx:Ctx) {w t:St} {no:Nat→Prop} {p4 k z:Nat} {H:HallR} {vW vS vB vK v rv:AV} {l:List PutR} {L:Env} {r:R} (ok:H.Ok) (hv:H.Valid l) (hl:∀ q ∈ l,q.In H) (hl1:l.length≤10) (hk:k<H.kinds.length) (hH:HallAt no w.h w.n H vW vS vB vK) (hR:Sl no w.h w.n 3 (l.map PutR.row) v) (hM:Sl no w.h w.n 2 ((H.rooms l k).map cellR) rv) (g4:w.h.get p4=some (.cells (hallV H vW vS vB vK) (tag 30))) (hp4:p4<w.n) (tg:∀ c,c<w.n→t.h.get c=w.h.get c) (tn:w.n≤t.n) (hs:t.n+80000≤far) (hz:z<H.deep+2)
  (q4:L.find 4=.ptr p4 0) (q5:L.find 5=v) (q6:L.find 6=.int .i64 (k:Int)) (q7:L.find 7=rv) (q9:L.find 9=.int .i64 (H.seen l k (H.vis z 0):Int)) (q10:L.find 10=.int .i64 ((z:Int) - 1)) (q11:L.find 11=.int .i64 (-1)) (hr:loopN K6l0 rounds (awd n) cx L [] t=r) :
  ∃ L1 t1,r=.done (.exit 2) L1 [] t1∧(∀ c,c<w.n→t1.h.get c=w.h.get c)∧w.n≤t1.n∧t1.n≤t.n+200∧L1.find 4=.ptr p4 0∧L1.find 5=v∧L1.find 6=.int .i64 (k:Int)∧L1.find 7=rv∧L1.find 9=.int .i64 (H.seen l k (H.vis (z+1) 0):Int)∧L1.find 10=.int .i64 ((z:Int) - 1):=by
 have hf:far=1000000000:=rfl
 have w1:=ok.w1
 have kW:=hH.w.okA
 obtain ⟨e,L1,t1,rfl,rfl,j1,j2,j3,j4,j5,j6,j7,j9,j10⟩:=loop_of hr (fun x L' t'=>(∀ c,c<w.n→t'.h.get c=w.h.get c)∧w.n≤t'.n∧t'.n≤t.n+20 * x∧L'.find 4=.ptr p4 0∧L'.find 5=v∧L'.find 6=.int .i64 (k:Int)∧L'.find 7=rv∧L'.find 9=.int .i64 (H.seen l k (H.vis z x):Int)∧L'.find 10=.int .i64 ((z:Int) - 1)∧L'.find 11=.int .i64 ((x:Int) - 1))
  (fun e L1 t1=>e=.exit 2∧(∀ c,c<w.n→t1.h.get c=w.h.get c)∧w.n≤t1.n∧t1.n≤t.n+200∧L1.find 4=.ptr p4 0∧L1.find 5=v∧L1.find 6=.int .i64 (k:Int)∧L1.find 7=rv∧L1.find 9=.int .i64 (H.seen l k (H.vis (z+1) 0):Int)∧L1.find 10=.int .i64 ((z:Int) - 1)) (H.wide+2) (by unfold rounds;omega)
  ⟨tg,tn,by omega,q4,q5,q6,q7,q9,q10,q11⟩
  (fun x L' t' hx ⟨tg,tn,tl,q4,q5,q6,q7,q9,q10,q11⟩=>by
   by_cases hlt:x<H.wide+2
   ·obtain ⟨L2,t2,k1,k2,k3,k4,k5,k6,k7,k8,k9,k10,k11⟩:=vrm_round n hn cx ok hv hl hl1 hk hH hR hM g4 hp4 tg tn (by omega) hlt hz q4 q5 q6 q7 q9 q10 q11
    exact .inl ⟨hlt,L2,t2,k1,k2,k3,by omega,k5,k6,k7,k8,k9,k10,k11⟩
   ·obtain rfl:x=H.wide+2:=by omega
    have t4:=(tg p4 hp4).trans g4
    have e0:decide (((H.wide+2:Nat):Int) - 1≤(H.wide:Int))=false:=decide_eq_false (by omega)
    rw [vis_row] at q9
    refine .inr ⟨.exit 2,L'.set 45 (.bool false),t',by simp,?_,rfl,tg,tn,by omega,?_,?_,?_,?_,?_,?_⟩
    ·simp (disch:=first|omega|(with_unfolding_all exact rfl)|(simp only[new_n,put_n,new_m];omega)|(refine put_m_le ?_;simp only[new_m];omega)) only [K6l0,K6r12,Abs.W,reduceIte,Nat.reduceEqDiff,Nat.reduceAdd,decide_true,decide_false,kLoop_def,Nat.reduceSub,List.cons_append,List.nil_append,List.append_nil,List.length_cons,List.length_nil,Env.find_set,find_cons,Nat.zero_add,q4,q11,t4,e0]
    ·simp only [Env.find_set,q4,reduceIte,Nat.reduceEqDiff]
    ·simp only [Env.find_set,q5,reduceIte,Nat.reduceEqDiff]
    ·simp only [Env.find_set,q6,reduceIte,Nat.reduceEqDiff]
    ·simp only [Env.find_set,q7,reduceIte,Nat.reduceEqDiff]
    ·simp only [Env.find_set,q9,reduceIte,Nat.reduceEqDiff]
    ·simp only [Env.find_set,q10,reduceIte,Nat.reduceEqDiff])
 exact ⟨L1,t1,rfl,j1,j2,j3,j4,j5,j6,j7,j9,j10⟩
theorem vrm_grid (n:Nat) (hn:20≤n) (cx:Ctx) {w:St} {no:Nat→Prop} {p4 k:Nat} {H:HallR} {vW vS vB vK v rv:AV} {l:List PutR} {L:Env} {r:R} (ok:H.Ok) (hv:H.Valid l) (hl:∀ q ∈ l,q.In H) (hl1:l.length≤10) (hk:k<H.kinds.length) (hH:HallAt no w.h w.n H vW vS vB vK) (hR:Sl no w.h w.n 3 (l.map PutR.row) v) (hM:Sl no w.h w.n 2 ((H.rooms l k).map cellR) rv) (g4:w.h.get p4=some (.cells (hallV H vW vS vB vK) (tag 30))) (hp4:p4<w.n) (hs:w.n+90000≤far)
  (q4:L.find 4=.ptr p4 0) (q5:L.find 5=v) (q6:L.find 6=.int .i64 (k:Int)) (q7:L.find 7=rv) (q9:L.find 9=.int .i64 0) (q10:L.find 10=.int .i64 (-1)) (hr:loopN K6l1 rounds (awd n) cx L [] w=r) :
  ∃ L1 t1,r=.done (.exit 0) L1 [] t1∧L1.find 7=rv∧L1.find 9=.int .i64 ((H.rooms l k).length:Int):=by
 have hf:far=1000000000:=rfl
 have d1:=ok.d1
 have h0:H.seen l k (H.vis 0 0)=0:=by rw [vis_zero];rfl
 obtain ⟨e,L1,t1,rfl,rfl,j7,j9⟩:=loop_of hr (fun z L' t'=>(∀ c,c<w.n→t'.h.get c=w.h.get c)∧w.n≤t'.n∧t'.n≤w.n+200 * z∧L'.find 4=.ptr p4 0∧L'.find 5=v∧L'.find 6=.int .i64 (k:Int)∧L'.find 7=rv∧L'.find 9=.int .i64 (H.seen l k (H.vis z 0):Int)∧L'.find 10=.int .i64 ((z:Int) - 1))
  (fun e L1 t1=>e=.exit 0∧L1.find 7=rv∧L1.find 9=.int .i64 ((H.rooms l k).length:Int)) (H.deep+2) (by unfold rounds;omega)
  ⟨fun _ _=>rfl,Nat.le_refl _,by omega,q4,q5,q6,q7,by rw [h0];exact q9,q10⟩
  (fun z L' t' hz ⟨tg,tn,tl,q4,q5,q6,q7,q9,q10⟩=>by
   have t4:=(tg p4 hp4).trans g4
   by_cases hlt:z<H.deep+2
   ·have e0:decide ((z:Int) - 1≤(H.deep:Int))=true:=decide_eq_true (by omega)
    have ad:∀ s,aAdd s .i64 ((z:Int) - 1) 1=.val (.int .i64 (((z+1:Nat):Int) - 1)) s:=fun s=>by rw [aAdd_i64 s _ _ (by omega)];congr 2;omega
    refine .inl ⟨hlt,?_⟩
    simp (disch:=first|omega|(with_unfolding_all exact rfl)|(simp only[new_n,put_n,new_m];omega)|(refine put_m_le ?_;simp only[new_m];omega)) only [K6l1,K6r10,K6r11,Abs.W,reduceIte,Nat.reduceEqDiff,Nat.reduceAdd,decide_true,decide_false,kLoop_def,Nat.reduceSub,List.cons_append,List.nil_append,List.append_nil,List.length_cons,List.length_nil,Env.find_set,find_cons,Nat.zero_add,q4,q10,t4,e0]
    generalize hlp:loopN _ rounds _ _ _ _ _=rl
    obtain ⟨L2,t2,rfl,k2,k3,k4,k5,k6,k7,k8,k9,k10⟩:=vrm_row n hn cx ok hv hl hl1 hk hH hR hM g4 hp4 tg tn (by omega) hlt (by simp only [Env.find_set,q4,reduceIte,Nat.reduceEqDiff]) (by simp only [Env.find_set,q5,reduceIte,Nat.reduceEqDiff]) (by simp only [Env.find_set,q6,reduceIte,Nat.reduceEqDiff]) (by simp only [Env.find_set,q7,reduceIte,Nat.reduceEqDiff]) (by simp only [Env.find_set,q9,reduceIte,Nat.reduceEqDiff]) (by simp only [Env.find_set,q10,reduceIte,Nat.reduceEqDiff]) (by simp only [Env.find_set,reduceIte,Nat.reduceEqDiff]) hlp
    simp (disch:=first|omega|(with_unfolding_all exact rfl)|(simp only[new_n,put_n,new_m];omega)|(refine put_m_le ?_;simp only[new_m];omega)) only [K6r20,Abs.W,reduceIte,Nat.reduceEqDiff,Nat.reduceAdd,decide_true,decide_false,kLoop_def,Nat.reduceSub,List.cons_append,List.nil_append,List.append_nil,List.length_cons,List.length_nil,Env.find_set,find_cons,k10,ad]
    refine ⟨_,_,rfl,k2,k3,by omega,?_,?_,?_,?_,?_,?_⟩
    ·simp only [Env.find_set,k5,reduceIte,Nat.reduceEqDiff]
    ·simp only [Env.find_set,k6,reduceIte,Nat.reduceEqDiff]
    ·simp only [Env.find_set,k7,reduceIte,Nat.reduceEqDiff]
    ·simp only [Env.find_set,k8,reduceIte,Nat.reduceEqDiff]
    ·simp only [Env.find_set,k9,reduceIte,Nat.reduceEqDiff]
    ·simp only [Env.find_set,reduceIte,Nat.reduceEqDiff]
   ·obtain rfl:z=H.deep+2:=by omega
    have e0:decide (((H.deep+2:Nat):Int) - 1≤(H.deep:Int))=false:=decide_eq_false (by omega)
    rw [vis_end,seen_all] at q9
    refine .inr ⟨.exit 0,L'.set 39 (.bool false),t',by simp,?_,rfl,?_,?_⟩
    ·simp (disch:=first|omega|(with_unfolding_all exact rfl)|(simp only[new_n,put_n,new_m];omega)|(refine put_m_le ?_;simp only[new_m];omega)) only [K6l1,K6r10,Abs.W,reduceIte,Nat.reduceEqDiff,Nat.reduceAdd,decide_true,decide_false,kLoop_def,Nat.reduceSub,List.cons_append,List.nil_append,List.append_nil,List.length_cons,List.length_nil,Env.find_set,find_cons,Nat.zero_add,q4,q10,t4,e0]
    ·simp only [Env.find_set,q7,reduceIte,Nat.reduceEqDiff]
    ·simp only [Env.find_set,q9,reduceIte,Nat.reduceEqDiff])
 exact ⟨L1,t1,rfl,j7,j9⟩
theorem vrm_body (n:Nat) (hn:20≤n) (cx:Ctx) (s:St) (d:Nat) (hd:Die d s.h) (hdn:d<s.n) (hs:s.n+900000000≤far) (hm:s.m=far) :
  ∃ s',finA Try.prog Try.f6 (vrmRest (awd n) cx (.cons 3 (.ptr d 0) .nil) [] s)=.val (.bool true) s':=by
 have hf:far=1000000000:=rfl
 have knH:∀ args s,awd n (.fn 11) args s=call Try.prog X n (.fn 11) args s:=fun _ _=>rfl
 have knL:∀ args s,awd n (.fn 12) args s=call Try.prog X n (.fn 12) args s:=fun _ _=>rfl
 have knC:∀ args s,awd n (.fn 25) args s=call Try.prog X n (.fn 25) args s:=fun _ _=>rfl
 have knR:∀ args s,awd n (.fn 26) args s=call Try.prog X n (.fn 26) args s:=fun _ _=>rfl
 have knA:∀ s,awd n (.fn 19) [] s=.val (.bool true) s:=fun _=>rfl
 have ex0:∀ (a b:AV) (s:St),extA 0 s (.tup [a,b])=.val a s:=fun _ _ _=>rfl
 have ex1:∀ (a b:AV) (s:St),extA 1 s (.tup [a,b])=.val b s:=fun _ _ _=>rfl
 have okt:∀ (a b:AV) (s:St),okA (.val (.tup [a,b]) s)=.val (.tup [a,b]) s:=fun _ _ _=>rfl
 have w6:=fun cl L s=>congrFun (congrFun (congrFun K6r21s6.eq_1 cl) L) s
 unfold vrmRest
 simp (disch:=first|omega|(with_unfolding_all exact rfl)|(simp only[new_n,put_n,new_m];omega)|(refine put_m_le ?_;simp only[new_m];omega)) only [K6r2,Abs.W,reduceIte,Nat.reduceEqDiff,Nat.reduceAdd,decide_true,decide_false,kLoop_def,Nat.reduceSub,List.cons_append,List.nil_append,List.append_nil,List.length_cons,List.length_nil,Env.find_set,find_cons,knH]
 generalize hc1:call _ _ _ (.fn 11) _ _=r1
 obtain ⟨H,vW,vS,vB,vK,t1,rfl,st1,d1,ok,hH,_⟩:=hallOf_ex (W:=4) (D:=3) (K:=3) hc1 (by omega) hd hdn (by omega) (by omega) (by omega) (by omega)
 have n1:=st1.n
 have k1:=st1.le
 have m1:=st1.m (by omega)
 have scB:=hH.scal
 have kW:=hH.w.okA
 have kS:=hH.s.okA
 have kB:=hH.b.okA
 have kK:=hH.k.okA
 have okh:∀ t,okA (.val (.agg (hallV H vW vS vB vK)) t)=.val (.agg (hallV H vW vS vB vK)) t:=fun _=>rfl
 obtain ⟨y,hy⟩:∃ y:St,y=(t1.new (.cells [.int .i64 0,.int .i64 0,.nilslice,.nilslice,.int .i64 0,.int .i64 0,.nilslice,.nilslice] (tag 30))).put t1.n (.cells (hallV H vW vS vB vK) (tag 30)):=⟨_,rfl⟩
 have sty:storeA 8 (t1.new (.cells [.int .i64 0,.int .i64 0,.nilslice,.nilslice,.int .i64 0,.int .i64 0,.nilslice,.nilslice] (tag 30))) (.agg (hallV H vW vS vB vK)) (.ptr t1.n 0)=.val .undef y:=by
  rw [hy];exact store_all _ 8 _ _ _ _ (get_new_eq _ _ _ rfl (by omega)) rfl rfl scB
 have yn:y.n=t1.n+1:=by rw [hy];rfl
 have ym:y.m=min t1.m t1.n:=by rw [hy];simp only [St.put,minN_eq,new_m]
 have yg:∀ c,c<t1.n→y.h.get c=t1.h.get c:=fun c hc=>by rw [hy,get_put_ne' _ _ _ _ (by omega),get_new_ne _ _ _ (by omega)]
 have y4:y.h.get t1.n=some (.cells (hallV H vW vS vB vK) (tag 30)):=by rw [hy];exact get_put_eq _ _ _ _ rfl (by omega)
 have dy:Die d y.h:=d1.keep (yg d (by omega))
 have hHy:HallAt (fun c=>c≠d) y.h y.n H vW vS vB vK:=hH.move (fun c h1 h2=>⟨yg c h1,by have h3:s.n≤c:=h2;omega⟩) (by omega)
 clear hy
 have m1l:=st1.mle
 simp (disch:=first|omega|(with_unfolding_all exact rfl)|(simp only[new_n,put_n,new_m];omega)|(refine put_m_le ?_;simp only[new_m];omega)) only [sty,K6r3,Abs.W,reduceIte,Nat.reduceEqDiff,Nat.reduceAdd,decide_true,decide_false,kLoop_def,Nat.reduceSub,List.cons_append,List.nil_append,List.append_nil,List.length_cons,List.length_nil,Env.find_set,find_cons,y4,okh,knL,Nat.zero_add]
 generalize hc2:call _ _ _ (.fn 12) _ _=r2
 obtain ⟨l,v,t2,rfl,st2,d2,hv,hin,hl5,hR⟩:=layoutOf_ex (most:=5) hc2 (by omega) dy (by omega) ok hHy (by omega) (by omega)
 have n2:=st2.n
 have k2:=st2.le
 have m2:=st2.m (by omega)
 have m2l:=st2.mle
 have kv:=hR.okA
 have z4:=(st2.same t1.n (by omega) (by omega)).trans y4
 have hH2:HallAt (fun c=>c≠d) t2.h t2.n H vW vS vB vK:=hHy.move (fun c h1 h2=>⟨st2.same c h1 h2,h2⟩) n2
 have hR2:Sl (fun c=>c≠d) t2.h t2.n 3 (l.map PutR.row) v:=hR.move (fun c h1 h2=>⟨rfl,by have h3:y.n≤c:=h2;omega⟩) (Nat.le_refl _)
 have lK:=hH2.k.len
 have hk1:=ok.k0
 have hk6:=ok.k1
 simp (disch:=first|omega|(with_unfolding_all exact rfl)|(simp only[new_n,put_n,new_m];omega)|(refine put_m_le ?_;simp only[new_m];omega)) only [K6r4,Abs.W,reduceIte,Nat.reduceEqDiff,Nat.reduceAdd,decide_true,decide_false,kLoop_def,Nat.reduceSub,List.cons_append,List.nil_append,List.append_nil,List.length_cons,List.length_nil,Env.find_set,find_cons,z4,kK,lK,knC,Nat.zero_add]
 generalize hc3:call _ _ _ (.fn 25) _ _=r3
 obtain ⟨k0,t3,rfl,st3,d3,k00,k01⟩:=cast_ex hc3 (by omega) d2 (by omega) (by omega) (by omega)
 obtain ⟨k,rfl⟩:=Int.eq_ofNat_of_zero_le k00
 have hk:k<H.kinds.length:=by omega
 have n3:=st3.n
 have k3:=st3.le
 have z43:=(st3.same t1.n (by omega) (by omega)).trans z4
 have hH3:HallAt (fun c=>c≠d) t3.h t3.n H vW vS vB vK:=hH2.move (fun c h1 h2=>⟨st3.same c h1 h2,h2⟩) n3
 have hR3:Sl (fun c=>c≠d) t3.h t3.n 3 (l.map PutR.row) v:=hR2.move (fun c h1 h2=>⟨st3.same c h1 h2,h2⟩) n3
 simp (disch:=first|omega|(with_unfolding_all exact rfl)|(simp only[new_n,put_n,new_m];omega)|(refine put_m_le ?_;simp only[new_m];omega)) only [K6r5,Abs.W,reduceIte,Nat.reduceEqDiff,Nat.reduceAdd,decide_true,decide_false,kLoop_def,Nat.reduceSub,List.cons_append,List.nil_append,List.append_nil,List.length_cons,List.length_nil,Env.find_set,find_cons,z43,kv,okh,knR,Nat.zero_add]
 generalize hc4:call _ _ _ (.fn 26) _ _=r4
 obtain ⟨rv,t4,rfl,st4,hM⟩:=room_ex hc4 (by omega) ok hH3 hR3 hin (by omega) hv hk (by omega)
 have n4:=st4.n
 have k4:=st4.le
 have kM:=hM.okA
 have lM:=slCells hM
 have z44:=(st4.same t1.n (by omega)).trans z43
 have hH4:=hH3.grow st4.same n4
 have hR4:=hR3.grow st4.same n4
 have hM4:Sl (fun c=>c≠d) t4.h t4.n 2 ((H.rooms l k).map cellR) rv:=hM.move (fun c h1 h2=>⟨rfl,by have h3:t3.n≤c:=h2;omega⟩) (Nat.le_refl _)
 have z0:decide ((0:Int)=0)=true:=rfl
 simp (disch:=first|omega|(with_unfolding_all exact rfl)|(simp only[new_n,put_n,new_m];omega)|(refine put_m_le ?_;simp only[new_m];omega)) only [K6r6,K6r8,K6r9,Abs.W,reduceIte,Nat.reduceEqDiff,Nat.reduceAdd,decide_true,decide_false,kLoop_def,Nat.reduceSub,List.cons_append,List.nil_append,List.append_nil,List.length_cons,List.length_nil,Env.find_set,find_cons,okt,ex0,ex1,kM,z0]
 generalize hlp:loopN _ rounds _ _ _ _ _=rl
 obtain ⟨L1,t5,rfl,j7,j9⟩:=vrm_grid n hn _ ok hv hin (by omega) hk hH4 hR4 hM4 z44 (by omega) (by omega) (by simp only [find_cons,Env.find_set,reduceIte,Nat.reduceEqDiff]) (by simp only [find_cons,Env.find_set,reduceIte,Nat.reduceEqDiff]) (by simp only [find_cons,Env.find_set,reduceIte,Nat.reduceEqDiff]) (by simp only [find_cons,Env.find_set,reduceIte,Nat.reduceEqDiff]) (by simp only [find_cons,Env.find_set,reduceIte,Nat.reduceEqDiff]) (by simp only [find_cons,Env.find_set,reduceIte,Nat.reduceEqDiff]) hlp
 have de:decide (((H.rooms l k).length:Int)=((H.rooms l k).length:Int))=true:=decide_eq_true rfl
 simp (disch:=first|omega|(with_unfolding_all exact rfl)|(simp only[new_n,put_n,new_m];omega)|(refine put_m_le ?_;simp only[new_m];omega)) only [K6r21,w6,res6,Abs.W,reduceIte,Nat.reduceEqDiff,Nat.reduceAdd,decide_true,decide_false,kLoop_def,Nat.reduceSub,List.cons_append,List.nil_append,List.append_nil,List.length_cons,List.length_nil,Env.find_set,find_cons,j7,j9,kM,lM,de,knA]
 exact ⟨_,rfl⟩
end Go.Proofs.Ytoklbkgcclkejaa.walk
namespace Go.Proofs.Ytoklbkgcclkejaa.mdie
open Go.RowKit
def Die (b:Nat) (w:World):Prop:=∃ s,w.heap[b]? = some (.cells #[.int .u64 s] 74 (0,0))
theorem Die.old {b:Nat} {w:World} (h:Die b w):(∃ s,w.cell? ⟨b,0,none⟩=some (.int .u64 s))∧w.frozen? ⟨b,0,none⟩=false:=by
 obtain ⟨s,hs⟩:=h
 refine ⟨⟨s,?_⟩,?_⟩
 ·unfold World.cell?;simp [hs]
 ·unfold World.frozen?;simp [hs]
structure Stir (b:Nat) (w w':World):Prop where
 below:Below b w w'
 rest:∀ p:Addr,p.block≠b→p.block<w.heap.size→w'.cell? p=w.cell? p∧w'.frozen? p=w.frozen? p
 die:Die b w'
def Gives (b:Nat) (k:IntKind) (Q:Int→Prop) (w:World) (e:Ending) (w':World):Prop:=∃ r,Q r∧e=.returned (.int k r)∧Stir b w w'
theorem bits_nonneg (op:BinOp) (x y:Int):0≤bits op .u64 x y:=by
 have:=bounds_u64 (wf_bits (k:=.u64) (op:=op) (x:=x) (y:=y))
 exact this.1
theorem Stir.set {b:Nat} {w:World} (h:Die b w) (s:Int):Stir b w (w.setCell ⟨b,0,none⟩ (.int .u64 s)):=by
 obtain ⟨t,ht⟩:=h
 refine ⟨(Below.refl b w).setCell (p:=⟨b,0,none⟩) (Nat.le_refl b) _,fun p hp _=>⟨World.cell?_of_block (Below.heap_setCell _ _ _ _ hp),World.frozen?_of_block (Below.heap_setCell _ _ _ _ hp)⟩,⟨s,?_⟩⟩
 unfold World.setCell
 simp [Array.getElem?_modify,ht]
theorem roll (b:Nat) (w:World) (h:Die b w):Calls Try.prog 39 #[.pointer (some ⟨b,0,none⟩)] w (Gives b .u64 (fun r=>0≤r) w):=by
 have h':=Lib.hid h
 obtain ⟨⟨s,hs⟩,hf⟩:=h.old
 clear h
 go_enter Try.func39,Try.ntmps39
 go_wp2
 go_ret
 exact ⟨_,bits_nonneg _ _ _,rfl,Stir.set h'.out _⟩
theorem Stir.refl {b:Nat} {w:World} (h:Die b w):Stir b w w:=⟨Below.refl _ _,fun _ _ _=>⟨rfl,rfl⟩,h⟩
theorem Stir.trans {b:Nat} {u v w:World} (h:Stir b u v) (k:Stir b v w):Stir b u w :=
 ⟨h.below.trans k.below,fun p hp hb=>⟨(k.rest p hp (Nat.lt_of_lt_of_le hb h.below.size)).1.trans (h.rest p hp hb).1,(k.rest p hp (Nat.lt_of_lt_of_le hb h.below.size)).2.trans (h.rest p hp hb).2⟩,k.die⟩
theorem Die.lt {b:Nat} {w:World} (h:Die b w):b<w.heap.size:=by obtain ⟨⟨s,hs⟩,_⟩:=h.old;exact World.block_lt_of_cell? w _ hs
theorem Stir.drew {b:Nat} {w w':World} (h:Stir b w w'):Stir b w w'.drew:=h.trans ⟨⟨rfl,rfl,rfl,Nat.le_refl _,fun _ _=>rfl⟩,fun _ _ _=>⟨rfl,rfl⟩,h.die⟩
def Born (w:World) (e:Ending) (w':World):Prop:=e=.returned (.pointer (some ⟨w.heap.size,0,none⟩))∧Below w.heap.size w w'∧Die w.heap.size w'∧w.heap.size<w'.heap.size
theorem Die.born (w:World) (s:Int):Die w.heap.size (w.alloc (.cells #[.int .u64 s] 74)):=⟨s,by show (w.heap.push _)[w.heap.size]? = _;rw [Array.getElem?_push,if_pos rfl]⟩
set_option maxRecDepth 100000 in
theorem born (x:Option Addr) (n c:Nat) (w:World) (hn:n≤maxLen) (hc:∀ i,i<n→∃ b o,x=some ⟨b,o,none⟩∧∃ v,w.cell? ⟨b,o+i,none⟩=some (.int .i64 v)) :
  Calls Try.prog 10 #[.slice x n c] w (Born w):=by
 unfold maxLen at hn
 have HC:=Lib.hid hc
 clear hc
 have hdie:=Lib.hid (Die.born w 2611923443488327891)
 go_enter Try.func10,Try.ntmps10
 go_wp2
 go_loopw [4] (fun i wr=>∃ k:Nat,k≤n∧i=.int .i64 k∧Stir w.heap.size (w.alloc (.cells #[.int .u64 2611923443488327891] 74)) wr) (fun i _=>n - (intOf i).toNat)
 case atStart=>exact ⟨0,Nat.zero_le _,rfl,Stir.refl hdie.out⟩
 case round =>
  obtain ⟨k,hk,rfl,hs⟩:=hrel
  by_cases hlt:k<n
  ·obtain ⟨b,o,rfl,v,hv⟩:=HC.out k hlt
   have hb:=World.block_lt_of_cell? _ _ hv
   simp only at hb
   have hv1:wr.cell? ⟨b,o+k,none⟩=some (.int .i64 v):=((hs.rest ⟨b,o+k,none⟩ (Nat.ne_of_lt hb) (by simp;omega)).1.trans (World.cell?_of_block (Below.heap_alloc _ _ _ hb))).trans hv
   clear hv
   obtain ⟨⟨s,hd⟩,hf⟩:=hs.die.old
   have hst:=Lib.hid (fun s1:Int=>(hs.drew).trans (Stir.set hs.drew.die s1))
   have hlt':(k:Int)<(n:Int):=by omega
   have hk0:(0:Int)≤(k:Int):=by omega
   go_wp2
   go_still_tail 12,(by kernel_rfl)
   change wpList _ _ _ _ _ wr.drew
   go_wp2_with (go_at_call 39;refine (roll _ _ ?_).mono ?_;exact (hst.out _).die;rintro e w1 ⟨r,hr,rfl,hs1⟩;(have hs2:=(hst.out _).trans hs1))
   go_roundw
   case rel=>exact ⟨k+1,by omega,by go_num,hs2⟩
   case measure=>simp [intOf];omega
  ·go_wp2
   go_ret
   exact ⟨rfl,((Below.refl w.heap.size w).alloc (Nat.le_refl _) _).trans hs.below,hs.die,by have:=hs.below.size;simp at this;omega⟩
end Go.Proofs.Ytoklbkgcclkejaa.mdie
namespace Go.Abs
open Go.RowKit
variable {P:Program}
theorem mid_calls {cl:CallF} (hc:CallSound P cl) {f:FuncId} {fn:Func} (hf:P.funcs[f]? = some fn) {c0 c1 rest:Code} (hb:fn.body=some (.seq c0 (.seq c1 rest))) {X:FuncId→List Nat} {k:K} {A:Array Value} {W:World} {R:Ending→World→Prop}
  (h:c0.wp P (Exit.then (fun a w=>c1.wp P (Exit.then (fun a w=>∃ ρ L s v s',ActRel ρ fn.ntmps L [] a∧Clean (X f) L∧SRel ρ s w∧finA P fn (k cl ⟨f,none,fn.ntmps,X f⟩ L [] s)=.val v s'∧∀ ρ' V W',After ρ s w ρ' s' W'→VRel ρ' v V→R (.returned V) W') fun _ _ _=>False) a w) fun _ _ _=>False)
   { tmps:=A++Array.replicate (fn.ntmps - A.size) undef,defers:=[] } W)
  (hk:codeK P (X f) fn.ntmps rest=some k):Calls P f A W R:=by
 intro cs
 obtain ⟨b,hbd⟩:∃ b:Frame,b={ (default:Frame) with fn:=f,kind:=.normal }:=⟨_,rfl⟩
 have hr:b.roundOf=none:=by rw [hbd];rfl
 have henter:Frame.enter P f A .normal=b.at { tmps:=A++Array.replicate (fn.ntmps - A.size) undef,defers:=[] } [.code (.seq c0 (.seq c1 rest))]:=by
  rw [hbd];simp [Frame.enter,Frame.at,hf,hb]
 obtain ⟨e0,a0,w0,q0,ar0⟩:=h b [.code (.seq c1 rest)] cs
 cases e0<;>simp only [Exit.then] at q0
 obtain ⟨e1,a1,w1,q1,ar1⟩:=q0 b [.code rest] cs
 cases e1<;>simp only [Exit.then] at q1
 obtain ⟨ρ,L,s,v,s',hact,hclean,hs,hfin,hR⟩:=q1
 have st1:Steps P (lone (Frame.enter P f A .normal) cs W) (lone (b.atR a1 [.code rest]) cs w1):=by
  rw [henter,Frame.atR_of_none hr]
  exact (Steps.head step_seq ar0).trans (Steps.head step_seq ar1)
 have hctx:CtxRel ρ ⟨f,none,fn.ntmps,X f⟩ b:=⟨by rw [hbd],by rw [hbd],fun _=>hr,fun l e=>by cases e⟩
 generalize hr2:k cl ⟨f,none,fn.ntmps,X f⟩ L [] s=r at hfin
 cases r with
 | fail=>cases hfin
 | done e L1 d s₁ =>
  obtain ⟨ρ₁,a₁,W₁,af,ha₁,_,_,st⟩:=codeK_sound rest hk hc rfl rfl hctx hact hclean hs hr2
  have fin:∀ (hle:leaveA P fn.results.toList L1 d s₁=.val v s') (hst:∃ t,Steps P (lone (Frame.enter P f A .normal) cs W) (lone (back b a₁ t) cs W₁)),
    ∃ V w' fr,R (.returned V) w'∧Steps P (lone (Frame.enter P f A .normal) cs W) (lone fr cs w')∧fr.fn=f∧fr.leaving P w' (.returned V):=by
   intro hle hst
   obtain ⟨V,W₂,af₂,hv,st₂⟩:=leaveA_calls ha₁ af.rel hle
   obtain ⟨t,st₁⟩:=hst
   obtain ⟨fr,h1,h2,h3⟩:=st₂ b (by rw [hbd]) (by rw [hbd];exact hf) t cs
   exact ⟨V,W₂,fr,hR _ _ _ (af.trans af₂) hv,Steps.trans st₁ h1,by rw [h2,hbd],h3⟩
  cases e with
  | exit id=>cases hfin
  | norm =>
   have z:=st [] cs
   obtain ⟨V,w',fr,h1,h2,h3,h4⟩:=fin hfin ⟨[],st1.trans (Steps.trans z (.one (stepR_end hr)))⟩
   exact ⟨.returned V,w',fr,h1,h2,h3,h4⟩
  | ret =>
   obtain ⟨k0,z⟩:=st [] cs
   obtain ⟨V,w',fr,h1,h2,h3,h4⟩:=fin hfin ⟨.code .ret::k0,st1.trans (z.trans (.one (stepR_ret hr)))⟩
   exact ⟨.returned V,w',fr,h1,h2,h3,h4⟩
end Go.Abs
set_option maxRecDepth 10000
namespace Go.Proofs.Ytoklbkgcclkejaa.walk
open Go.Abs Go.RowKit Go.Proofs.Ytoklbkgcclkejaa.code
noncomputable def die0 (F:Int):St:=St.new ⟨.nil,0,far⟩ (.cells [.int .u64 F] (tag 74))
def rho0 (d:Nat):Rho:=fun b=>if b=0 then some (d,(0,0)) else none
theorem die0_get {F:Int} {b:Nat} {o:AObj} (h:(die0 F).h.get b=some o):b=0∧o=.cells [.int .u64 F] (tag 74):=by
 by_cases e:b=0
 ·subst e
  have:(die0 F).h.get 0=some (.cells [.int .u64 F] (tag 74)):=get_new_eq _ _ _ rfl (by decide)
  rw [this] at h
  exact ⟨rfl,(Option.some.inj h).symm⟩
 ·unfold die0 at h
  rw [get_new_ne _ _ _ e] at h
  cases h
theorem die0_has {F:Int} {b x:Nat} {o:AObj} (h:Has (die0 F).h b x o):b=0∧x=0∧o=.cells [.int .u64 F] (tag 74):=by
 obtain ⟨y,hy,hp⟩:=h
 obtain ⟨rfl,rfl⟩:=die0_get hy
 have hl:AObj.lone (.cells [.int .u64 F] (tag 74)):=trivial
 rw [parts_lone hl] at hp
 have:=List.mem_singleton.mp hp
 cases this
 exact ⟨rfl,rfl,rfl⟩
theorem die0_rel {F:Int} {d:Nat} {W:World} (h:W.heap[d]? = some (.cells #[.int .u64 F] 74 (0,0))):SRel (rho0 d) (die0 F) W:=by
 refine ⟨⟨fun b o hb=>?_,fun b x o hb=>?_,fun b b' x x' o o' c e e' hb hb' _ _=>?_,fun g cs hg=>(by cases hg),fun b x o c e hb hr=>rfl,fun b x x' o o' c e e' hb hb' hr hr'=>?_⟩,fun b hb=>?_⟩
 ·rw [(die0_get hb).1];decide
 ·obtain ⟨rfl,rfl,rfl⟩:=die0_has hb
  exact ⟨d,(0,0),_,if_pos rfl,h,.cells rfl (.cons (.int _ _) .nil) (Typed.tag _)⟩
 ·rw [(die0_has hb).1,(die0_has hb').1]
 ·obtain ⟨_,rfl,_⟩:=die0_has hb
  obtain ⟨_,rfl,_⟩:=die0_has hb'
  rw [hr] at hr'
  cases hr'
  rfl
 ·have:1≤b:=hb
  exact if_neg (by omega)
end Go.Proofs.Ytoklbkgcclkejaa.walk
