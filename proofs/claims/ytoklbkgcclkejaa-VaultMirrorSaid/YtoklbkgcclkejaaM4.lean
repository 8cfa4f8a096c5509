/- Whether vaults bear a layout; vault.Loads and vault.Bears. -/
import Derived.Test.YtoklbkgcclkejaaM3
import Derived.Test.YtoklbkgcclkejaaCodes
import Derived.Test.YtoklbkgcclkejaaM1
import Derived.Test.YtoklbkgcclkejaaWalkAll
set_option linter.unusedSimpArgs false
set_option linter.unusedVariables false
set_option maxHeartbeats 16000000
set_option linter.unusedVariables false
set_option maxRecDepth 10000
namespace Go.Abs
theorem jxA (P:Program) (a b:Nat) (L:Env) (s:St):yL P [.tmp a,.tmp b] L [] s=.val (.tup [L.find a,L.find b]) s:=rfl
end Go.Abs
namespace Go.Proofs.Ytoklbkgcclkejaa.walk
open Go.Abs Go.Proofs.Ytoklbkgcclkejaa.code
theorem VYJ (N:Nat) (hN:4≤N) {no:Nat→Prop} {sc:List AV} {H:HallR} {vW vS vB vK:AV} {rb p:Nat} {l:List PutR} {v:AV} {s:St} (hS:SiteC sc H vW vS vB vK rb) (ok:H.Ok) (hB0:Sl no s.h s.n 1 (jA H.bears) vB) (hK:KindsAt no s.h s.n H.kinds vK) (hR:Sl no s.h s.n 3 (l.map PutR.row) v) (hl:∀ q ∈ l,q.In H) (hm:∀ q ∈ l,H.In q.c) (hl1:l.length≤24) (g:s.h.get p=some (vQ sc)) (hp:p<s.n) (hs:s.n+2000≤far) :
  call Try.prog X N (.fn 46) [.ptr p 0,v] s=.val (.int .i64 (H.verdict l)) s:=by
 obtain ⟨n,rfl⟩:∃ n,N=n+1:=⟨N - 1,by omega⟩
 refine zj Try.func46 (fun u uh un um=>?_) rfl
 have hf:=hfar
 rw [← uh,← un] at hB0 hK hR
 rw [← uh] at g
 rw [← un] at hp
 have kv:=hR.okA
 have kB:=hB0.okA
 have sz:=ok.toSize
 have hb24:=vY sz
 have hbl:=ok.bl
 have h6:=hS.b
 rw [jBQ]
 simp (disch:=first|omega|with_unfolding_all rfl) only [K46,K46r0,K46r1,K46r2,Abs.W,reduceIte,Nat.reduceEqDiff,Nat.reduceAdd,Nat.reduceSub]
 generalize hc:call _ _ _ (.fn 45) _ _=r1
 obtain ⟨t,bl,rfl,st,hb1,hb2,hb3⟩:=YNJ hc (by omega) hS ok hB0 hK hR hl hm hl1 g hp (by omega)
 have tn:=st.n
 have tl:=st.le
 have tm:t.m=far:=st.m.trans um
 have tg:=st.same
 have Bt:Beside u t 200:=⟨tg,tn,tl,by omega,by omega⟩
 have okS:∀ t,okA (.val (.slice bl 0 H.bays H.bays false) t)=.val (.slice bl 0 H.bays H.bays false) t:=fun _=>rfl
 have lS:∀ s,zq s (.slice bl 0 H.bays H.bays false)=.val (.int .i64 (H.bays:Int)) s:=fun _=>rfl
 simp (disch:=first|omega|with_unfolding_all rfl) only [Abs.W,reduceIte,Nat.reduceEqDiff,Nat.reduceAdd,Nat.reduceSub,okS,lS]
 generalize hlp:jK _ rounds _ _ _ _ _=q1
 obtain ⟨e,L1,s1,rfl,hQ,hB⟩:=jO hlp (fun i L t'=>L.find 0=.ptr p 0∧L.find 10=.slice bl 0 H.bays H.bays false∧L.find 11=.int .i64 (H.bays:Int)∧L.find 12=.int .i64 (i:Int)∧(∀ b,b<i→¬ H.bears.getD b 0<tot (H.lows l) b)∧(∃ x:Int,L.find 5=.int .i64 x∧((x=1∧∀ b,b<i→¬ H.bears.getD b 0<tot (H.highs l) b)∨(x=3∧∃ b,b<H.bays∧H.bears.getD b 0<tot (H.highs l) b)))∧Beside t t' i)
  (fun e L t'=>((e=.exit 0∧L.find 5=.int .i64 (H.verdict l))∨(e=.ret∧L.find 4=.int .i64 (H.verdict l)))∧Beside t t' 100) H.bays (by unfold rounds;omega)
  ⟨(by simp only [zK,efs,reduceIte,Nat.reduceEqDiff]),(by simp only [zK,efs,reduceIte,Nat.reduceEqDiff]),(by simp only [zK,efs,reduceIte,Nat.reduceEqDiff]),(by simp only [zK,efs,reduceIte,Nat.reduceEqDiff];rfl),fun b hb=>absurd hb (Nat.not_lt_zero _),⟨1,(by simp only [zK,efs,reduceIte,Nat.reduceEqDiff]),.inl ⟨rfl,fun b hb=>absurd hb (Nat.not_lt_zero _)⟩⟩,Beside.refl t (by omega) tm⟩
  (fun i L t' hi ⟨q0,q10,q11,q12,ha,⟨x,q5,hx⟩,hB⟩=>by
   have tn':=hB.n
   have tl':=hB.le
   have tm':=hB.m
   have tf':=hB.far
   by_cases hlt:i<H.bays
   ·have e0:decide ((i:Int)<(H.bays:Int))=true:=decide_eq_true (by omega)
    have gb:=(hB.same bl hb2).trans hb3
    have hrl:i<(H.loadRows l).length:=by rw [YV];exact hlt
    have hix:∀ s,jX 2 s (.slice bl 0 H.bays H.bays false) (.int .i64 (i:Int))=.val (.ptr bl (i * 2)) s:=fun s=>by rw [jq _ _ _ _ _ _ _ _ hlt,Nat.zero_add]
    have hcut:cut (i * 2) 2 (H.loadRows l).flatten=some [.int .i64 (tot (H.lows l) i),.int .i64 (tot (H.highs l) i)]:=by
     rw [yU (Ji H _) hrl,vBA H _ hlt];rfl
    have hge:H.bears.getD i 0=H.bears[i]'(by omega):=by rw [List.getD_eq_getElem?_getD,List.getElem?_eq_getElem (by omega)];rfl
    have ad:∀ s,jI s .i64 (i:Int) 1=.val (.int .i64 ((i:Int)+1)) s:=fun s=>za s _ _ (by omega)
    obtain ⟨z,hz⟩:∃ z:St,z=(t'.new (.cells [.int .i64 0,.int .i64 0] (tag 44))).put t'.n (.cells [.int .i64 (tot (H.lows l) i),.int .i64 (tot (H.highs l) i)] (tag 44)):=⟨_,rfl⟩
    have zn:z.n=t'.n+1:=by rw [hz];rfl
    have Bz:Beside t z (i+1):=by rw [hz];exact (hB.new _).put _ (by omega)
    have zt:z.h.get t'.n=some (.cells [.int .i64 (tot (H.lows l) i),.int .i64 (tot (H.highs l) i)] (tag 44)):=by rw [hz];exact zN _ _ _ _ rfl (by omega)
    have zu:∀ c,c<u.n→z.h.get c=u.h.get c:=fun c hc=>(Bz.same c (by omega)).trans (tg c hc)
    have gz:=(zu p hp).trans g
    have hBz:=hB0.grow (h':=z.h) (n':=z.n) zu (by have:=Bz.n;omega)
    obtain ⟨b1,o1,c1,sz1,k1,k2,k3,k4⟩:=Jb hBz.at_ (show i<H.bears.length by omega)
    rw [← hge] at k4
    by_cases h1:H.bears.getD i 0<tot (H.lows l) i
    ·have d1:decide (H.bears.getD i 0<tot (H.lows l) i)=true:=decide_eq_true h1
     have hv:H.verdict l=2:=by unfold HallR.verdict;exact if_pos ⟨i,hlt,h1⟩
     refine .inr ⟨.ret,?_⟩
     simp (disch:=first|omega|with_unfolding_all rfl) only [K46l0,K46r3,K46r4,Abs.W,reduceIte,Nat.reduceEqDiff,Nat.reduceAdd,Nat.reduceSub,Nat.zero_add,q0,q10,q11,q12,q5,e0,okS,hix,gb,hcut]
     rw [← hz]
     simp (disch:=first|omega|with_unfolding_all rfl) only [K46r5,K46r6,Abs.W,reduceIte,Nat.reduceEqDiff,Nat.reduceAdd,Nat.reduceSub,Nat.zero_add,q0,q10,q11,q12,q5,zt,gz,h6,kB,k2,k3,k4,d1]
     refine ⟨_,_,by simp,rfl,.inr ⟨trivial,?_⟩,Bz.mono (by omega)⟩
     rw [hv]
     simp only [efs,reduceIte,Nat.reduceEqDiff]
    ·have d1:decide (H.bears.getD i 0<tot (H.lows l) i)=false:=decide_eq_false h1
     have ha':∀ b,b<i+1→¬ H.bears.getD b 0<tot (H.lows l) b:=fun b hb=>by
      by_cases e:b=i
      ·rw [e];exact h1
      ·exact ha b (by omega)
     refine .inl ⟨hlt,?_⟩
     by_cases h2:H.bears.getD i 0<tot (H.highs l) i
     ·have d2:decide (H.bears.getD i 0<tot (H.highs l) i)=true:=decide_eq_true h2
      simp (disch:=first|omega|with_unfolding_all rfl) only [K46l0,K46r3,K46r4,Abs.W,reduceIte,Nat.reduceEqDiff,Nat.reduceAdd,Nat.reduceSub,Nat.zero_add,q0,q10,q11,q12,q5,e0,okS,hix,gb,hcut]
      rw [← hz]
      simp (disch:=first|omega|with_unfolding_all rfl) only [K46r5,K46r7,K46r8,K46r9,Abs.W,reduceIte,Nat.reduceEqDiff,Nat.reduceAdd,Nat.reduceSub,Nat.zero_add,q0,q10,q11,q12,q5,zt,gz,h6,kB,k2,k3,k4,d1,d2,ad]
      refine ⟨_,_,rfl,?_,?_,?_,?_,ha',⟨3,?_,.inr ⟨rfl,i,hlt,h2⟩⟩,Bz⟩
      ·simp only [efs,q0,reduceIte,Nat.reduceEqDiff]
      ·simp only [efs,q10,reduceIte,Nat.reduceEqDiff]
      ·simp only [efs,q11,reduceIte,Nat.reduceEqDiff]
      ·simp only [efs,reduceIte,Nat.reduceEqDiff];rfl
      ·simp only [efs,reduceIte,Nat.reduceEqDiff]
     ·have d2:decide (H.bears.getD i 0<tot (H.highs l) i)=false:=decide_eq_false h2
      simp (disch:=first|omega|with_unfolding_all rfl) only [K46l0,K46r3,K46r4,Abs.W,reduceIte,Nat.reduceEqDiff,Nat.reduceAdd,Nat.reduceSub,Nat.zero_add,q0,q10,q11,q12,q5,e0,okS,hix,gb,hcut]
      rw [← hz]
      simp (disch:=first|omega|with_unfolding_all rfl) only [K46r5,K46r7,K46r8,K46r9,Abs.W,reduceIte,Nat.reduceEqDiff,Nat.reduceAdd,Nat.reduceSub,Nat.zero_add,q0,q10,q11,q12,q5,zt,gz,h6,kB,k2,k3,k4,d1,d2,ad]
      refine ⟨_,_,rfl,?_,?_,?_,?_,ha',⟨x,?_,?_⟩,Bz⟩
      ·simp only [efs,q0,reduceIte,Nat.reduceEqDiff]
      ·simp only [efs,q10,reduceIte,Nat.reduceEqDiff]
      ·simp only [efs,q11,reduceIte,Nat.reduceEqDiff]
      ·simp only [efs,reduceIte,Nat.reduceEqDiff];rfl
      ·simp only [efs,q5,reduceIte,Nat.reduceEqDiff]
      ·rcases hx with ⟨h3,h4⟩ | h3
       ·refine .inl ⟨h3,fun b hb=>?_⟩
        by_cases e:b=i
        ·rw [e];exact h2
        ·exact h4 b (by omega)
       ·exact .inr h3
   ·obtain rfl:i=H.bays:=by omega
    have e0:decide ((H.bays:Int)<(H.bays:Int))=false:=by simp
    have hv:x=H.verdict l:=by
     unfold HallR.verdict
     rw [if_neg (by rintro ⟨b,h1,h2⟩;exact ha b h1 h2)]
     rcases hx with ⟨h3,h4⟩ | ⟨h3,h4⟩
     ·rw [if_neg (by rintro ⟨b,h1,h2⟩;exact h4 b h1 h2)];exact h3
     ·rw [if_pos h4];exact h3
    refine .inr ⟨.exit 0,L.set 13 (.bool false),t',by simp,?_,.inl ⟨rfl,by rw [← hv];simp only [efs,q5,reduceIte,Nat.reduceEqDiff]⟩,hB.mono (by omega)⟩
    simp (disch:=first|omega|with_unfolding_all rfl) only [res46,K46r0,K46r1,K46r2,K46r3,K46r4,K46r5,K46r6,K46r7,K46r8,K46r9,K46r10,K46,K46l0,Abs.W,reduceIte,Nat.reduceEqDiff,Nat.reduceAdd,Nat.reduceSub,q11,q12,e0])
 have hm1:=hB.m
 rcases hQ with ⟨rfl,h5⟩ | ⟨rfl,h4⟩
 ·simp (disch:=first|omega|with_unfolding_all rfl) only [K46r10,res46,Abs.W,reduceIte,Nat.reduceEqDiff,Nat.reduceAdd,Nat.reduceSub,h5]
  exact ⟨_,rfl,by omega⟩
 ·simp (disch:=first|omega|with_unfolding_all rfl) only [res46,Abs.W,reduceIte,Nat.reduceEqDiff,Nat.reduceAdd,Nat.reduceSub,h4]
  exact ⟨_,rfl,by omega⟩
theorem YKJ {H:HallR} {l:List PutR} (hv:H.Valid l):∀ q ∈ l,H.In q.c:=fun q hq=>(hv.m q hq).i
theorem WU (N:Nat) (hN:10≤N) {no:Nat→Prop} {H:HallR} {vW vS vB vK:AV} {l:List PutR} {v:AV} {s:St} (ok:H.Ok) (hH:HallAt no s.h s.n H vW vS vB vK) (hR:Sl no s.h s.n 3 (l.map PutR.row) v) (hl:∀ q ∈ l,q.In H) (hl1:l.length≤24) (hv:H.Valid l) (hs:s.n+60000≤far) :
  call Try.prog X N (.fn 14) [.agg (zP H vW vS vB vK),v] s=.val (.tup [.int .i64 (H.verdict l),.int .i64 0]) s:=by
 obtain ⟨n,rfl⟩:∃ n,N=n+1:=⟨N - 1,by omega⟩
 have hf:=hfar
 refine zj Try.func14 (fun u uh un um=>?_) rfl
 rw [← uh,← un] at hH hR
 have kv:=hR.okA
 obtain ⟨w,hw⟩:∃ w:St,w=u.new (.cells (zP H vW vS vB vK) (tag 30)):=⟨_,rfl⟩
 have wn:w.n=u.n+1:=by rw [hw];rfl
 have wm:w.m=far:=by rw [hw];exact um
 have wg:∀ c,c<u.n→w.h.get c=u.h.get c:=fun c hc=>by rw [hw,zH _ _ _ (by omega)]
 have w0:w.h.get u.n=some (.cells (zP H vW vS vB vK) (tag 30)):=by rw [hw];exact zM _ _ _ rfl (by omega)
 have hHw:HallAt no w.h w.n H vW vS vB vK:=hH.grow wg (by omega)
 have hRw:=hR.grow wg (by omega:u.n≤w.n)
 obtain ⟨e0,ec,hz⟩:=Ve (N:=n) rfl (by omega) ok hHw hRw hl hl1 (by omega)
 rw [hz.mpr hv] at ec
 have z0:decide ((0:Int)=0)=true:=rfl
 rw [jVQ]
 simp (disch:=first|omega|with_unfolding_all rfl) only [K14,K14r0,Abs.W,reduceIte,Nat.reduceEqDiff,Nat.reduceAdd,Nat.reduceSub]
 rw [← hw]
 simp (disch:=first|omega|with_unfolding_all rfl) only [ylQ,K14r2,K14r4,Abs.W,reduceIte,Nat.reduceEqDiff,Nat.reduceAdd,Nat.reduceSub,w0,kv,ec,z0,Nat.zero_add]
 generalize hc:call _ _ _ (.fn 44) _ _=r1
 obtain ⟨t,p,rfl,st,hp,sc,rb,hC,hpn,hrb,g,gr⟩:=jgA hc (by omega) ok hHw (by omega)
 have tn:=st.n
 have tl:=st.le
 have tm:t.m=far:=st.m.trans wm
 have tg:∀ c,c<u.n→t.h.get c=u.h.get c:=fun c hc=>(st.same c (by omega)).trans (wg c hc)
 have hHt:=hH.grow tg (by omega:u.n≤t.n)
 have eb:=VYJ n (by omega) hC ok hHt.b hHt.k (hR.grow tg (by omega:u.n≤t.n)) hl (YKJ hv) hl1 g hpn (by omega)
 simp (disch:=first|omega|with_unfolding_all rfl) only [Abs.W,reduceIte,Nat.reduceEqDiff,Nat.reduceAdd,Nat.reduceSub,kv,eb,res14,jxA]
 exact ⟨_,rfl,by omega⟩
theorem JY (N:Nat) (hN:1≤N) (x lo hi:Int) (s:St) (hs:s.n≤far):call Try.prog X N (.fn 87) [.int .i64 x,.int .i64 lo,.int .i64 hi] s=.val (.bool (decide (lo≤x∧x≤hi))) s:=by
 obtain ⟨n,rfl⟩:∃ n,N=n+1:=⟨N - 1,by omega⟩
 refine gI (s':=⟨s.h,s.n,far⟩) Try.func87 ?_ rfl hs
 rw [zUQ]
 have u5:=eq3 VxA.eq_1
 have u6:=eq3 VwA.eq_1
 have u7:=eq3 VvA.eq_1
 by_cases h0:lo≤x
 ·have e0:decide (lo≤x)=true:=decide_eq_true h0
  by_cases h1:x≤hi
  ·have e1:decide (x≤hi)=true:=decide_eq_true h1
   rw [decide_eq_true (p:=lo≤x∧x≤hi) ⟨h0,h1⟩]
   simp only [JgJ,K87,K87r0,K87r1,u5,u6,u7,Abs.W,reduceIte,Nat.reduceEqDiff,Nat.reduceAdd,Nat.reduceSub,e0,e1]
  ·have e1:decide (x≤hi)=false:=decide_eq_false h1
   rw [decide_eq_false (p:=lo≤x∧x≤hi) (fun h=>h1 h.2)]
   simp only [JgJ,K87,K87r0,K87r1,u5,u6,u7,Abs.W,reduceIte,Nat.reduceEqDiff,Nat.reduceAdd,Nat.reduceSub,e0,e1]
 ·have e0:decide (lo≤x)=false:=decide_eq_false h0
  rw [decide_eq_false (p:=lo≤x∧x≤hi) (fun h=>h0 h.1)]
  simp only [JgJ,K87,K87r0,K87r1,u5,u6,u7,Abs.W,reduceIte,Nat.reduceEqDiff,Nat.reduceAdd,Nat.reduceSub,e0]
theorem wvA (N:Nat) (hN:2≤N) (H:HallR) (sz:H.Size) (vW vS vB vK:AV) (c:Int × Int) (s:St) (hs:s.n+10≤far) :
  call Try.prog X N (.fn 99) [.agg (zP H vW vS vB vK),.agg (jC c)] s=.val (.bool (decide (H.In c))) s:=by
 obtain ⟨n,rfl⟩:∃ n,N=n+1:=⟨N - 1,by omega⟩
 refine zj Try.func99 (fun u uh un um=>?_) rfl
 have hf:=hfar
 obtain ⟨w0,w1,d0,d1,_,_,_,_⟩:=sz
 have a1:∀ s,yK s .i64 (H.wide:Int) 1=.val (.int .i64 ((H.wide:Int) - 1)) s:=fun s=>je s _ _ (by omega)
 have a2:∀ s,yK s .i64 (H.deep:Int) 1=.val (.int .i64 ((H.deep:Int) - 1)) s:=fun s=>je s _ _ (by omega)
 have u8:=eq3 VuA.eq_1
 have u9:=eq3 VtA.eq_1
 have u10:=eq3 ZMA.eq_1
 have u11:=eq3 ZLA.eq_1
 have u12:=eq3 ZKA.eq_1
 have u13:=eq3 ZJA.eq_1
 rw [zJQ]
 by_cases h0:0≤c.1∧c.1≤(H.wide:Int) - 1
 ·have e0:decide (0≤c.1∧c.1≤(H.wide:Int) - 1)=true:=decide_eq_true h0
  by_cases h1:0≤c.2∧c.2≤(H.deep:Int) - 1
  ·have e1:decide (0≤c.2∧c.2≤(H.deep:Int) - 1)=true:=decide_eq_true h1
   rw [decide_eq_true (p:=H.In c) ⟨⟨h0.1,by omega⟩,h1.1,by omega⟩]
   simp (disch:=first|omega|(with_unfolding_all exact rfl)|(simp only[zW,jB,jF];omega)|(refine jU ?_;simp only[jF];omega)) only [JfJ,K99,K99r0,K99r1,u8,u9,u10,u11,u12,u13,Abs.W,reduceIte,Nat.reduceEqDiff,Nat.reduceAdd,Nat.reduceSub,JY,a1,a2,e0,e1,Nat.zero_add]
   exact ⟨_,rfl,by simp only [zW,jF];omega⟩
  ·have e1:decide (0≤c.2∧c.2≤(H.deep:Int) - 1)=false:=decide_eq_false h1
   rw [decide_eq_false (p:=H.In c) (fun h=>h1 ⟨h.2.1,by have:=h.2.2;omega⟩)]
   simp (disch:=first|omega|(with_unfolding_all exact rfl)|(simp only[zW,jB,jF];omega)|(refine jU ?_;simp only[jF];omega)) only [JfJ,K99,K99r0,K99r1,u8,u9,u10,u11,u12,u13,Abs.W,reduceIte,Nat.reduceEqDiff,Nat.reduceAdd,Nat.reduceSub,JY,a1,a2,e0,e1,Nat.zero_add]
   exact ⟨_,rfl,by simp only [zW,jF];omega⟩
 ·have e0:decide (0≤c.1∧c.1≤(H.wide:Int) - 1)=false:=decide_eq_false h0
  rw [decide_eq_false (p:=H.In c) (fun h=>h0 ⟨h.1.1,by have:=h.1.2;omega⟩)]
  simp (disch:=first|omega|(with_unfolding_all exact rfl)|(simp only[zW,jB,jF];omega)|(refine jU ?_;simp only[jF];omega)) only [JfJ,K99,K99r0,K99r1,u8,u9,u10,u11,u12,u13,Abs.W,reduceIte,Nat.reduceEqDiff,Nat.reduceAdd,Nat.reduceSub,JY,a1,a2,e0,Nat.zero_add]
  exact ⟨_,rfl,by simp only [zW,jF];omega⟩
theorem vGJ (N:Nat) (hN:1≤N) {no:Nat→Prop} (l:List (Int × Int)) (c:Int × Int) (v:AV) (s:St) (hR:Sl no s.h s.n 2 (l.map jC) v) (hl:l.length≤1000) (hs:s.n+10≤far) :
  call Try.prog X N (.fn 100) [v,.agg (jC c)] s=.val (.bool (decide (c ∈ l))) s:=by
 obtain ⟨n,rfl⟩:∃ n,N=n+1:=⟨N - 1,by omega⟩
 refine zj Try.func100 (fun u uh un um=>?_) rfl
 rw [← uh,← un] at hR
 have kv:=hR.okA
 have lv:=YM hR
 have hf:=hfar
 obtain ⟨w,hw⟩:∃ w:St,w=u.new (.cells (jC c) (tag 27)):=⟨_,rfl⟩
 have wn:w.n=u.n+1:=by rw [hw];rfl
 have wm:w.m=far:=by rw [hw];exact um
 have wg:∀ c,c<u.n→w.h.get c=u.h.get c:=fun c hc=>by rw [hw,zH _ _ _ (by omega)]
 have w0:w.h.get u.n=some (.cells [.int .i64 c.1,.int .i64 c.2] (tag 27)):=by rw [hw];exact zM _ _ _ rfl (by omega)
 have hRw:=hR.grow wg (by omega:u.n≤w.n)
 rw [VBJ]
 simp (disch:=first|omega|with_unfolding_all rfl) only [res100,K100,K100r0,Abs.W,reduceIte,Nat.reduceEqDiff,Nat.reduceAdd,Nat.reduceSub]
 rw [← hw]
 simp (disch:=first|omega|with_unfolding_all rfl) only [K100r1,Abs.W,reduceIte,Nat.reduceEqDiff,Nat.reduceAdd,Nat.reduceSub]
 generalize hlp:jK _ rounds _ _ _ _ _=q1
 obtain ⟨e,L1,s1,rfl,hQ,rfl⟩:=jO hlp (fun i L t=>t=w∧L.find 0=v∧L.find 3=.ptr u.n 0∧L.find 5=.int .i64 (i:Int)∧c ∉ l.take i)
  (fun e L t=>((e=.exit 0∧c ∉ l)∨(e=.ret∧L.find 4=.bool true∧c ∈ l))∧t=w) l.length (by unfold rounds;omega)
  ⟨rfl,(by simp only [zK,efs,reduceIte,Nat.reduceEqDiff]),(by simp only [zK,efs,reduceIte,Nat.reduceEqDiff]),(by simp only [zK,efs,reduceIte,Nat.reduceEqDiff];rfl),by simp⟩
  (fun i L t hi ⟨ht,q0,q3,q5,hq⟩=>by
   subst ht
   by_cases hlt:i<l.length
   ·have e0:decide ((i:Int)<(l.length:Int))=true:=decide_eq_true (by omega)
    obtain ⟨b,p,cs,sz,⟨r1,_⟩,r2,r3,r4⟩:=Ja hRw hlt
    have htk:=yE hlt
    have hmem:=List.getElem_mem hlt
    generalize l[i]=Q at *
    have ad:∀ s,jI s .i64 (i:Int) 1=.val (.int .i64 ((i:Int)+1)) s:=fun s=>za s _ _ (by omega)
    have eq:=gKA Q c t
    by_cases hc:Q=c
    ·rw [decide_eq_true hc] at eq
     refine .inr ⟨.ret,?_⟩
     simp (disch:=first|omega|with_unfolding_all rfl) only [K100l0,res100,K100r0,K100r1,K100r2,K100r3,K100r4,K100r5,K100r6,K100,Abs.W,reduceIte,Nat.reduceEqDiff,Nat.reduceAdd,Nat.reduceSub,Nat.zero_add,q0,q3,q5,e0,kv,lv,r2,r3,r4,w0,vCA,eq]
     refine ⟨_,_,by simp,rfl,.inr ⟨trivial,?_,hc▸hmem⟩,rfl⟩
     simp only [efs,reduceIte,Nat.reduceEqDiff]
    ·rw [decide_eq_false hc] at eq
     refine .inl ⟨hlt,?_⟩
     simp (disch:=first|omega|with_unfolding_all rfl) only [K100l0,res100,K100r0,K100r1,K100r2,K100r3,K100r4,K100r5,K100r6,K100,Abs.W,reduceIte,Nat.reduceEqDiff,Nat.reduceAdd,Nat.reduceSub,Nat.zero_add,q0,q3,q5,e0,kv,lv,r2,r3,r4,w0,vCA,eq,ad]
     refine ⟨_,_,rfl,rfl,?_,?_,?_,?_⟩
     ·simp only [efs,q0,reduceIte,Nat.reduceEqDiff]
     ·simp only [efs,q3,reduceIte,Nat.reduceEqDiff]
     ·simp only [efs,reduceIte,Nat.reduceEqDiff];rfl
     ·rw [htk,List.mem_append,List.mem_singleton]
      exact fun h=>h.elim hq (fun e=>hc e.symm)
   ·obtain rfl:i=l.length:=by omega
    have e0:decide ((l.length:Int)<(l.length:Int))=false:=by simp
    rw [List.take_length] at hq
    refine .inr ⟨.exit 0,L.set 9 (.bool false),t,by simp,?_,.inl ⟨rfl,hq⟩,rfl⟩
    simp (disch:=first|omega|with_unfolding_all rfl) only [res100,K100r0,K100r1,K100r2,K100r3,K100r4,K100r5,K100r6,K100,K100l0,Abs.W,reduceIte,Nat.reduceEqDiff,Nat.reduceAdd,Nat.reduceSub,q0,q5,kv,lv,e0])
 rcases hQ with ⟨rfl,hq⟩ | ⟨rfl,h6,hq⟩
 ·rw [decide_eq_false hq]
  simp (disch:=first|omega|with_unfolding_all rfl) only [res100,K100r0,K100r1,K100r2,K100r3,K100r4,K100r5,K100r6,K100,Abs.W,reduceIte,Nat.reduceEqDiff,Nat.reduceAdd,Nat.reduceSub]
  exact ⟨_,rfl,by omega⟩
 ·rw [decide_eq_true hq]
  simp (disch:=first|omega|with_unfolding_all rfl) only [res100,K100r0,K100r1,K100r2,K100r3,K100r4,K100r5,K100r6,K100,Abs.W,reduceIte,Nat.reduceEqDiff,Nat.reduceAdd,Nat.reduceSub,h6]
  exact ⟨_,rfl,by omega⟩
theorem yQJ (N:Nat) (hN:1≤N) (a b c d:Int) (s:St) (ha : -100≤a∧a≤100) (hb : -100≤b∧b≤100) (hc : -100≤c∧c≤100) (hd : -100≤d∧d≤100) (hs:s.n+10≤far) :
  call Try.prog X N (.fn 101) [.agg [.int .i64 a,.int .i64 b],.agg [.int .i64 c,.int .i64 d]] s=.val (.int .i64 (max (a - c) (c - a)+max (b - d) (d - b))) s:=by
 obtain ⟨n,rfl⟩:∃ n,N=n+1:=⟨N - 1,by omega⟩
 refine zj Try.func101 (fun u uh un um=>?_) rfl
 have hf:=hfar
 have a1:∀ s,yK s .i64 a c=.val (.int .i64 (a - c)) s:=fun s=>je s _ _ (by omega)
 have a2:∀ s,yK s .i64 c a=.val (.int .i64 (c - a)) s:=fun s=>je s _ _ (by omega)
 have a3:∀ s,yK s .i64 b d=.val (.int .i64 (b - d)) s:=fun s=>je s _ _ (by omega)
 have a4:∀ s,yK s .i64 d b=.val (.int .i64 (d - b)) s:=fun s=>je s _ _ (by omega)
 have a5:∀ s,jI s .i64 (max (a - c) (c - a)) (max (b - d) (d - b))=.val (.int .i64 (max (a - c) (c - a)+max (b - d) (d - b))) s:=fun s=>za s _ _ (by omega)
 rw [VAJ]
 simp (disch:=first|omega|(with_unfolding_all exact rfl)|(simp only[zW,jB,jF];omega)|(refine jU ?_;simp only[jF];omega)) only [vEQ,K101r0,K101r1,K101,Abs.W,reduceIte,Nat.reduceEqDiff,Nat.reduceAdd,Nat.reduceSub,a1,a2,a3,a4,a5,wC,wF,vj,gg,JT,Zx]
 exact ⟨_,rfl,by simp only [zW,jF];omega⟩
theorem VZJ (N:Nat) (hN:1≤N) (H:HallR) (sz:H.Size) (vW vS vB vK:AV) {x y:Nat} (hx:x<H.wide) (hy:y<H.deep) (s:St) (hs:s.n+10≤far) :
  call Try.prog X N (.fn 47) [.agg (zP H vW vS vB vK),.agg [.int .i64 (x:Int),.int .i64 (y:Int)]] s=.val (.int .i64 (H.bayAt x y:Int)) s:=by
 obtain ⟨n,rfl⟩:∃ n,N=n+1:=⟨N - 1,by omega⟩
 refine zj Try.func47 (fun u uh un um=>?_) rfl
 have hf:=hfar
 have hb24:=vY sz
 have hbay:=gjA sz hx hy
 obtain ⟨w0,w1,d0,d1,x0,x1,z0,z1⟩:=sz
 have hbd:H.bayAt x y=y / H.bz * H.cols+x / H.bx:=rfl
 have hm24:y / H.bz * H.cols≤24:=Nat.le_trans (Nat.le_add_right _ (x / H.bx)) (by rw [← hbd];omega)
 have a1:∀ s,jI s .i64 (H.wide:Int) (H.bx:Int)=.val (.int .i64 ((H.wide:Int)+H.bx)) s:=fun s=>za s _ _ (by omega)
 have a2:∀ s,yK s .i64 ((H.wide:Int)+H.bx) 1=.val (.int .i64 ((H.wide+H.bx - 1:Nat):Int)) s:=fun s=>by rw [je s _ _ (by omega),show (H.wide:Int)+H.bx - 1=((H.wide+H.bx - 1:Nat):Int) by omega]
 have a3:∀ s,JI s .i64 ((H.wide+H.bx - 1:Nat):Int) (H.bx:Int)=.val (.int .i64 (H.cols:Int)) s:=fun s=>wi s _ _ (by omega) (by omega)
 have b1:∀ s,JI s .i64 (y:Int) (H.bz:Int)=.val (.int .i64 ((y / H.bz:Nat):Int)) s:=fun s=>wi s _ _ (by omega) (by omega)
 have b2:∀ s,yOA s .i64 ((y / H.bz:Nat):Int) (H.cols:Int)=.val (.int .i64 ((y / H.bz * H.cols:Nat):Int)) s:=fun s=>jWA s _ _ (by omega)
 have b3:∀ s,JI s .i64 (x:Int) (H.bx:Int)=.val (.int .i64 ((x / H.bx:Nat):Int)) s:=fun s=>wi s _ _ (by omega) (by omega)
 have b4:∀ s,jI s .i64 ((y / H.bz * H.cols:Nat):Int) ((x / H.bx:Nat):Int)=.val (.int .i64 (H.bayAt x y:Int)) s:=fun s=>by rw [za s _ _ (by omega),hbd];rfl
 rw [jAQ]
 simp (disch:=first|omega|(with_unfolding_all exact rfl)|(simp only[zW,jB,jF];omega)|(refine jU ?_;simp only[jF];omega)) only [res47,K47r0,K47r1,K47r2,K47,Abs.W,reduceIte,Nat.reduceEqDiff,Nat.reduceAdd,Nat.reduceSub,a1,a2,a3,b1,b2,b3,b4]
 exact ⟨_,rfl,by simp only [zW,jF];omega⟩
theorem Wt (N:Nat) (hN:2≤N) (H:HallR) (sz:H.Size) (vW vS vB vK:AV) (s:St) (hs:s.n+20≤far) :
  call Try.prog X N (.fn 36) [.agg (zP H vW vS vB vK)] s=.val (.int .i64 (H.bays:Int)) s:=by
 obtain ⟨n,rfl⟩:∃ n,N=n+1:=⟨N - 1,by omega⟩
 refine zj Try.func36 (fun u uh un um=>?_) rfl
 have hf:=hfar
 have hb24:=vY sz
 have hb:=jUJ sz
 obtain ⟨w0,w1,d0,d1,x0,x1,z0,z1⟩:=id sz
 have eb:∀ s:St,s.n+10≤far→call Try.prog X n (.fn 47) [.agg (zP H vW vS vB vK),.agg [.int .i64 ((H.wide - 1:Nat):Int),.int .i64 ((H.deep - 1:Nat):Int)]] s=.val (.int .i64 (H.bayAt (H.wide - 1) (H.deep - 1):Int)) s:=fun s hs=>VZJ n (by omega) H sz vW vS vB vK (by omega) (by omega) s hs
 have a1:∀ s,yK s .i64 (H.wide:Int) 1=.val (.int .i64 ((H.wide - 1:Nat):Int)) s:=fun s=>by rw [je s _ _ (by omega),show (H.wide:Int) - 1=((H.wide - 1:Nat):Int) by omega]
 have a2:∀ s,yK s .i64 (H.deep:Int) 1=.val (.int .i64 ((H.deep - 1:Nat):Int)) s:=fun s=>by rw [je s _ _ (by omega),show (H.deep:Int) - 1=((H.deep - 1:Nat):Int) by omega]
 have a3:∀ s,jI s .i64 (H.bayAt (H.wide - 1) (H.deep - 1):Int) 1=.val (.int .i64 (H.bays:Int)) s:=fun s=>by rw [za s _ _ (by omega),← hb];rfl
 rw [jLQ]
 simp (disch:=first|omega|(with_unfolding_all exact rfl)|(simp only[zW,jB,jF];omega)|(refine jU ?_;simp only[jF];omega)) only [res36,K36r0,K36r1,K36,Abs.W,reduceIte,Nat.reduceEqDiff,Nat.reduceAdd,Nat.reduceSub,eb,a1,a2,a3]
 exact ⟨_,rfl,by simp only [zW,jF];omega⟩
theorem yPJ (N:Nat) (hN:2≤N) {no:Nat→Prop} (H:HallR) (vW vS vB vK:AV) (K:KindR) (ok:K.Ok H.kinds.length) (hk6:H.kinds.length≤6) (aw:AV) (s:St) (hA:Sl no s.h s.n 1 (jA K.away) aw) (kK:∀ t,okA (.val vK t)=.val vK t) (lK:∀ s,zq s vK=.val (.int .i64 (H.kinds.length:Int)) s) (hs:s.n+20≤far) :
  call Try.prog X N (.fn 89) [.agg (zP H vW vS vB vK),.agg (K.row aw)] s=.val (.int .i64 0) s:=by
 obtain ⟨n,rfl⟩:∃ n,N=n+1:=⟨N - 1,by omega⟩
 refine zj Try.func89 (fun u uh un um=>?_) rfl
 rw [← uh,← un] at hA
 have hf:=hfar
 obtain ⟨l0,l1,l2,al,a,k0,k1,m0,m1⟩:=ok
 have ka:=hA.okA
 have la:=wPA hA.at_
 have d1:decide (0≤K.lo∧K.lo≤1000000)=true:=decide_eq_true ⟨l0,by omega⟩
 have d2:decide (0≤K.hi∧K.hi≤1000000)=true:=decide_eq_true ⟨by omega,l2⟩
 have d3:decide (K.hi<K.lo)=false:=decide_eq_false (by omega)
 have d4:decide ((K.away.length:Int)=(H.kinds.length:Int))=true:=decide_eq_true (by omega)
 have d5:decide (0≤K.rent∧K.rent≤1000000)=true:=decide_eq_true ⟨k0,k1⟩
 have d6:decide (0≤K.most∧K.most≤24)=true:=decide_eq_true ⟨m0,m1⟩
 have u7:=eq3 K89r1s7.eq_1
 have u8:=eq3 K89r1s8.eq_1
 have u9:=eq3 K89r1s9.eq_1
 have u10:=eq3 K89r1s10.eq_1
 have u11:=eq3 K89r1s11.eq_1
 have v6:=eq3 K89r12s6.eq_1
 have v7:=eq3 K89r12s7.eq_1
 have v8:=eq3 K89r12s8.eq_1
 have v9:=eq3 K89r12s9.eq_1
 obtain ⟨w,hw⟩:∃ w:St,w=(u.new (.cells (zP H vW vS vB vK) (tag 30))).new (.cells (K.row aw) (tag 49)):=⟨_,rfl⟩
 have wn:w.n=u.n+2:=by rw [hw];rfl
 have wm:w.m=far:=by rw [hw];exact um
 have wg:∀ c,c<u.n→w.h.get c=u.h.get c:=fun c hc=>by rw [hw,zH _ _ _ (by rw [zW];omega),zH _ _ _ (by omega)]
 have w0:w.h.get u.n=some (.cells (zP H vW vS vB vK) (tag 30)):=by rw [hw,zH _ _ _ (by rw [zW];omega)];exact zM _ _ _ rfl (by omega)
 have w1:w.h.get (u.n+1)=some (.cells [.int .i64 K.lo,.int .i64 K.hi,.bool K.water,aw,.int .i64 K.rent,.int .i64 K.most] (tag 49)):=by rw [hw];exact zM _ _ _ rfl (by rw [zW];omega)
 have hAw:=hA.grow wg (by omega:u.n≤w.n)
 rw [zSQ]
 simp (disch:=first|omega|with_unfolding_all rfl) only [vyJ,K89,K89r0,Abs.W,reduceIte,Nat.reduceEqDiff,Nat.reduceAdd,Nat.reduceSub,zW]
 rw [← hw]
 simp (disch:=first|omega|with_unfolding_all rfl) only [K89r1,K89r3,K89r5,K89r7,u7,u8,u9,u10,u11,Abs.W,reduceIte,Nat.reduceEqDiff,Nat.reduceAdd,Nat.reduceSub,w0,w1,JY,ka,la,kK,lK,d1,d2,d3,d4,Nat.zero_add]
 generalize hlp:jK _ rounds _ _ _ _ _=q1
 obtain ⟨e,L1,s1,rfl,rfl,l3,rfl⟩:=jO hlp (fun i L t=>t=w∧L.find 3=.ptr (u.n+1) 0∧L.find 5=.int .i64 (i:Int))
  (fun e L t=>e=.exit 0∧L.find 3=.ptr (u.n+1) 0∧t=w) K.away.length (by unfold rounds;omega)
  ⟨rfl,(by simp only [zK,efs,reduceIte,Nat.reduceEqDiff]),(by simp only [zK,efs,reduceIte,Nat.reduceEqDiff];rfl)⟩
  (fun i L t hi ⟨ht,q3,q5⟩=>by
   subst ht
   by_cases hlt:i<K.away.length
   ·have e0:decide ((i:Int)<(K.away.length:Int))=true:=decide_eq_true (by omega)
    obtain ⟨b,p,c,sz,r1,r2,r3,r4⟩:=Jb hAw.at_ hlt
    obtain ⟨x0,x1⟩:=a _ (List.getElem_mem hlt)
    have e2:decide (0≤K.away[i]∧K.away[i]≤9)=true:=decide_eq_true ⟨x0,x1⟩
    have ad:∀ s,jI s .i64 (i:Int) 1=.val (.int .i64 ((i:Int)+1)) s:=fun s=>za s _ _ (by omega)
    refine .inl ⟨hlt,_,t,by
     simp (disch:=first|omega|with_unfolding_all rfl) only [vyJ,K89r0,K89r1s11,K89r1s10,K89r1s9,K89r1s8,K89r1s7,K89r1,K89r2,K89r3,K89r4,K89r5,K89r6,K89r7,K89r8,K89r9,K89r10,K89r11,K89r12s9,K89r12s8,K89r12s7,K89r12s6,K89r12,K89r13,K89r14,K89,K89l0,Abs.W,reduceIte,Nat.reduceEqDiff,Nat.reduceAdd,Nat.reduceSub,q3,q5,e0,w1,ka,la,r2,r3,r4,JY,e2,ad,Nat.zero_add]
     rfl,rfl,?_,?_⟩
    ·simp only [efs,q3,reduceIte,Nat.reduceEqDiff]
    ·simp only [efs,reduceIte,Nat.reduceEqDiff];rfl
   ·obtain rfl:i=K.away.length:=by omega
    have e0:decide ((K.away.length:Int)<(K.away.length:Int))=false:=by simp
    refine .inr ⟨.exit 0,L.set 36 (.bool false),t,by simp,?_,rfl,by simp only [efs,q3,reduceIte,Nat.reduceEqDiff],rfl⟩
    simp (disch:=first|omega|with_unfolding_all rfl) only [vyJ,K89r0,K89r1s11,K89r1s10,K89r1s9,K89r1s8,K89r1s7,K89r1,K89r2,K89r3,K89r4,K89r5,K89r6,K89r7,K89r8,K89r9,K89r10,K89r11,K89r12s9,K89r12s8,K89r12s7,K89r12s6,K89r12,K89r13,K89r14,K89,K89l0,Abs.W,reduceIte,Nat.reduceEqDiff,Nat.reduceAdd,Nat.reduceSub,q3,q5,w1,ka,la,e0,Nat.zero_add])
 simp (disch:=first|omega|with_unfolding_all rfl) only [vyJ,K89r12,K89r14,v6,v7,v8,v9,Abs.W,reduceIte,Nat.reduceEqDiff,Nat.reduceAdd,Nat.reduceSub,l3,w1,JY,d5,d6,Nat.zero_add]
 refine ⟨_,rfl,?_⟩
 omega
theorem ypA (N:Nat) (hN:3≤N) {no:Nat→Prop} (H:HallR) (sz:H.Size) (vW vS vB vK:AV) (l:List (Int × Int)) (v:AV) (s:St) (hR:Sl no s.h s.n 2 (l.map jC) v) (hl:l.length≤24) (hin:∀ c ∈ l,H.In c) (hnd:l.Nodup) (hs:s.n+100≤far) :
  call Try.prog X N (.fn 88) [.agg (zP H vW vS vB vK),v] s=.val (.int .i64 0) s:=by
 obtain ⟨n,rfl⟩:∃ n,N=n+1:=⟨N - 1,by omega⟩
 refine zj Try.func88 (fun u uh un um=>?_) rfl
 rw [← uh,← un] at hR
 have kv:=hR.okA
 have lv:=YM hR
 have hf:=hfar
 have d0:decide (24<(l.length:Int))=false:=decide_eq_false (by omega)
 obtain ⟨w,hw⟩:∃ w:St,w=u.new (.cells (zP H vW vS vB vK) (tag 30)):=⟨_,rfl⟩
 have wn:w.n=u.n+1:=by rw [hw];rfl
 have wm:w.m=far:=by rw [hw];exact um
 have wg:∀ c,c<u.n→w.h.get c=u.h.get c:=fun c hc=>by rw [hw,zH _ _ _ (by omega)]
 have w0:w.h.get u.n=some (.cells (zP H vW vS vB vK) (tag 30)):=by rw [hw];exact zM _ _ _ rfl (by omega)
 have hRw:=hR.grow wg (by omega:u.n≤w.n)
 rw [zTQ]
 simp (disch:=first|omega|with_unfolding_all rfl) only [vzJ,K88,K88r0,Abs.W,reduceIte,Nat.reduceEqDiff,Nat.reduceAdd,Nat.reduceSub]
 rw [← hw]
 simp (disch:=first|omega|with_unfolding_all rfl) only [K88r1,K88r3,Abs.W,reduceIte,Nat.reduceEqDiff,Nat.reduceAdd,Nat.reduceSub,kv,lv,d0]
 generalize hlp:jK _ rounds _ _ _ _ _=q1
 obtain ⟨e,L1,s1,rfl,rfl,rfl⟩:=jO hlp (fun i L t=>t=w∧L.find 1=v∧L.find 2=.ptr u.n 0∧L.find 5=.int .i64 (i:Int))
  (fun e L t=>e=.exit 0∧t=w) l.length (by unfold rounds;omega)
  ⟨rfl,(by simp only [zK,efs,reduceIte,Nat.reduceEqDiff]),(by simp only [zK,efs,reduceIte,Nat.reduceEqDiff]),(by simp only [zK,efs,reduceIte,Nat.reduceEqDiff];rfl)⟩
  (fun i L t hi ⟨ht,q1,q2,q5⟩=>by
   subst ht
   by_cases hlt:i<l.length
   ·have e0:decide ((i:Int)<(l.length:Int))=true:=decide_eq_true (by omega)
    obtain ⟨b,p,cs,szz,⟨r1,_⟩,r2,r3,r4⟩:=Ja hRw hlt
    have hnt:=weA hnd hlt
    have hic:=hin _ (List.getElem_mem hlt)
    generalize l[i]=Q at *
    obtain ⟨v',t1',t2'⟩:=hRw.to (i:=i) (by rw [List.length_map];omega)
    rw [← List.map_take] at t2'
    have kv':=t2'.okA
    have ep:∀ s:St,s.n+10≤far→call Try.prog X n (.fn 99) [.agg (zP H vW vS vB vK),.agg [.int .i64 Q.1,.int .i64 Q.2]] s=.val (.bool true) s:=fun s hs=>by
     have:=wvA n (by omega) H sz vW vS vB vK Q s hs
     rwa [decide_eq_true hic] at this
    have eh:call Try.prog X n (.fn 100) [v',.agg [.int .i64 Q.1,.int .i64 Q.2]] t=.val (.bool false) t:=by
     have:=vGJ n (by omega) (l.take i) Q v' t t2' (by rw [List.length_take];omega) (by omega)
     rwa [decide_eq_false hnt] at this
    have ad:∀ s,jI s .i64 (i:Int) 1=.val (.int .i64 ((i:Int)+1)) s:=fun s=>za s _ _ (by omega)
    refine .inl ⟨hlt,_,t,by
     simp (disch:=first|omega|with_unfolding_all rfl) only [vzJ,K88r0,K88r1,K88r2,K88r3,K88r4,K88r5,K88r6,K88r7,K88r8,K88r9,K88r10,K88,K88l0,Abs.W,reduceIte,Nat.reduceEqDiff,Nat.reduceAdd,Nat.reduceSub,q1,q2,q5,e0,w0,kv,kv',lv,r2,r3,r4,ep,eh,JA,Zq,Zr,t1',ad,Nat.zero_add]
     rfl,rfl,?_,?_,?_⟩
    ·simp only [efs,q1,reduceIte,Nat.reduceEqDiff]
    ·simp only [efs,q2,reduceIte,Nat.reduceEqDiff]
    ·simp only [efs,reduceIte,Nat.reduceEqDiff];rfl
   ·obtain rfl:i=l.length:=by omega
    have e0:decide ((l.length:Int)<(l.length:Int))=false:=by simp
    refine .inr ⟨.exit 0,L.set 12 (.bool false),t,by simp,?_,rfl,rfl⟩
    simp (disch:=first|omega|with_unfolding_all rfl) only [vzJ,K88r0,K88r1,K88r2,K88r3,K88r4,K88r5,K88r6,K88r7,K88r8,K88r9,K88r10,K88,K88l0,Abs.W,reduceIte,Nat.reduceEqDiff,Nat.reduceAdd,Nat.reduceSub,q1,q5,kv,lv,e0])
 simp (disch:=first|omega|with_unfolding_all rfl) only [vzJ,K88r0,K88r1,K88r2,K88r3,K88r4,K88r5,K88r6,K88r7,K88r8,K88r9,K88r10,K88,Abs.W,reduceIte,Nat.reduceEqDiff,Nat.reduceAdd,Nat.reduceSub]
 exact ⟨_,rfl,by omega⟩
theorem WtA (N:Nat) (hN:4≤N) {no:Nat→Prop} (H:HallR) (ok:H.Ok) (vW vS vB vK:AV) (s:St) (hH:HallAt no s.h s.n H vW vS vB vK) (hs:s.n+1000≤far) :
  call Try.prog X N (.fn 60) [.agg (zP H vW vS vB vK)] s=.val (.int .i64 0) s:=by
 obtain ⟨n,rfl⟩:∃ n,N=n+1:=⟨N - 1,by omega⟩
 refine zj Try.func60 (fun u uh un um=>?_) rfl
 rw [← uh,← un] at hH
 have kW:=hH.w.okA
 have kS:=hH.s.okA
 have kB:=hH.b.okA
 have kK:=hH.k.okA
 have lB:=wPA hH.b.at_
 have lK:=hH.k.len
 have hf:=hfar
 have sz:=ok.toSize
 obtain ⟨y0,y1,y2,y3,x0,x1,x2,x3⟩:=id sz
 have hb24:=vY sz
 have hbl:=ok.bl
 have k0:=ok.k0
 have k1:=ok.k1
 have z0:decide ((0:Int)=0)=true:=rfl
 have d1:decide (1≤(H.wide:Int)∧(H.wide:Int)≤6)=true:=decide_eq_true ⟨by omega,by omega⟩
 have d2:decide (1≤(H.deep:Int)∧(H.deep:Int)≤4)=true:=decide_eq_true ⟨by omega,by omega⟩
 have d3:decide (1≤(H.bx:Int)∧(H.bx:Int)≤(H.wide:Int))=true:=decide_eq_true ⟨by omega,by omega⟩
 have d4:decide (1≤(H.bz:Int)∧(H.bz:Int)≤(H.deep:Int))=true:=decide_eq_true ⟨by omega,by omega⟩
 have d5:decide ((H.bears.length:Int)=(H.bays:Int))=true:=decide_eq_true (by omega)
 have d6:decide ((H.kinds.length:Int)=0)=false:=decide_eq_false (by omega)
 have d7:decide (6<(H.kinds.length:Int))=false:=decide_eq_false (by omega)
 have u6:=eq3 WJA.eq_1
 have u7:=eq3 WIA.eq_1
 have u8:=eq3 WHA.eq_1
 have u9:=eq3 WGA.eq_1
 have v9:=eq3 WFA.eq_1
 have v10:=eq3 ZdA.eq_1
 have v11:=eq3 ZcA.eq_1
 have v12:=eq3 ZbA.eq_1
 have v13:=eq3 ZaA.eq_1
 have v14:=eq3 ZZA.eq_1
 have v15:=eq3 ZYA.eq_1
 obtain ⟨w,hw⟩:∃ w:St,w=u.new (.cells (zP H vW vS vB vK) (tag 30)):=⟨_,rfl⟩
 have wn:w.n=u.n+1:=by rw [hw];rfl
 have wm:w.m=far:=by rw [hw];exact um
 have wg:∀ c,c<u.n→w.h.get c=u.h.get c:=fun c hc=>by rw [hw,zH _ _ _ (by omega)]
 have w0:w.h.get u.n=some (.cells (zP H vW vS vB vK) (tag 30)):=by rw [hw];exact zM _ _ _ rfl (by omega)
 have hHw:=hH.grow wg (by omega:u.n≤w.n)
 have c1:call Try.prog X n (.fn 88) [.agg (zP H vW vS vB vK),vW] w=.val (.int .i64 0) w:=ypA n (by omega) H sz vW vS vB vK H.water vW w hHw.w ok.wl ok.wa ok.wn (by omega)
 have c2:call Try.prog X n (.fn 88) [.agg (zP H vW vS vB vK),vS] w=.val (.int .i64 0) w:=ypA n (by omega) H sz vW vS vB vK H.shut vS w hHw.s ok.sl ok.sa ok.sn (by omega)
 have c3:∀ s:St,s.n+20≤far→call Try.prog X n (.fn 36) [.agg (zP H vW vS vB vK)] s=.val (.int .i64 (H.bays:Int)) s:=fun s hs=>Wt n (by omega) H sz vW vS vB vK s hs
 have hwn:w.n≤far:=by omega
 have hwm:w.m≤far:=by omega
 rw [ztQ]
 simp (disch:=first|omega|with_unfolding_all rfl) only [jmQ,K60,K60r0,Abs.W,reduceIte,Nat.reduceEqDiff,Nat.reduceAdd,Nat.reduceSub]
 rw [← hw]
 simp (disch:=first|omega|with_unfolding_all rfl) only [yLQ,u6,u7,u8,u9,K60r3,K60r4,K60r6,K60r7,Abs.W,reduceIte,Nat.reduceEqDiff,Nat.reduceAdd,Nat.reduceSub,w0,JY,d1,d2,z0,kW,kS,kB,kK,c1,c2,Nat.zero_add]
 simp (disch:=first|omega|(with_unfolding_all exact rfl)|(simp only[zW,jB,jF];omega)|(refine jU ?_;simp only[jF];omega)) only [yKQ,v9,v10,v11,v12,v13,v14,v15,K60r11,K60r13,Abs.W,reduceIte,Nat.reduceEqDiff,Nat.reduceAdd,Nat.reduceSub,w0,JY,d3,d4,d5,kW,kS,kB,kK,lB,c3,yG _ _ _ _ _ _ _ hwn hwm,Nat.zero_add]
 generalize hlp:jK _ rounds _ _ _ _ _=q1
 obtain ⟨e,L1,s1,rfl,rfl,l1,rfl⟩:=jO hlp (fun i L t=>t=w∧L.find 1=.ptr u.n 0∧L.find 5=.int .i64 (i:Int))
  (fun e L t=>e=.exit 0∧L.find 1=.ptr u.n 0∧t=w) H.bears.length (by unfold rounds;omega)
  ⟨rfl,(by simp only [zK,efs,reduceIte,Nat.reduceEqDiff]),(by simp only [zK,efs,reduceIte,Nat.reduceEqDiff];rfl)⟩
  (fun i L t hi ⟨ht,q3,q5⟩=>by
   subst ht
   by_cases hlt:i<H.bears.length
   ·have e0:decide ((i:Int)<(H.bears.length:Int))=true:=decide_eq_true (by omega)
    obtain ⟨b,p,c,sz,r1,r2,r3,r4⟩:=Jb hHw.b.at_ hlt
    obtain ⟨x0,x1⟩:=ok.b _ (List.getElem_mem hlt)
    have e2:decide (0≤H.bears[i]∧H.bears[i]≤10000000)=true:=decide_eq_true ⟨x0,x1⟩
    have ad:∀ s,jI s .i64 (i:Int) 1=.val (.int .i64 ((i:Int)+1)) s:=fun s=>za s _ _ (by omega)
    refine .inl ⟨hlt,_,t,by
     simp (disch:=first|omega|with_unfolding_all rfl) only [VzJ,K60r14,K60r15,K60r17,Abs.W,reduceIte,Nat.reduceEqDiff,Nat.reduceAdd,Nat.reduceSub,q3,q5,e0,w0,kB,lB,r2,r3,r4,JY,e2,ad,Nat.zero_add]
     rfl,rfl,?_,?_⟩
    ·simp only [efs,q3,reduceIte,Nat.reduceEqDiff]
    ·simp only [efs,reduceIte,Nat.reduceEqDiff];rfl
   ·obtain rfl:i=H.bears.length:=by omega
    have e0:decide ((H.bears.length:Int)<(H.bears.length:Int))=false:=by simp
    refine .inr ⟨.exit 0,L.set 58 (.bool false),t,by simp,?_,rfl,by simp only [efs,q3,reduceIte,Nat.reduceEqDiff],rfl⟩
    simp (disch:=first|omega|with_unfolding_all rfl) only [VzJ,K60r14,Abs.W,reduceIte,Nat.reduceEqDiff,Nat.reduceAdd,Nat.reduceSub,q3,q5,w0,kB,lB,e0,Nat.zero_add])
 simp (disch:=first|omega|with_unfolding_all rfl) only [VxJ,K60r20,K60r22,Abs.W,reduceIte,Nat.reduceEqDiff,Nat.reduceAdd,Nat.reduceSub,l1,w0,kK,lK,d6,d7,Nat.zero_add]
 generalize hlp2:jK _ rounds _ _ _ _ _=q2
 obtain ⟨eB,L2,s2,rfl,rfl,rfl⟩:=jO hlp2 (fun i L t=>t=s1∧L.find 1=.ptr u.n 0∧L.find 6=.int .i64 (i:Int))
  (fun e L t=>e=.exit 2∧t=s1) H.kinds.length (by unfold rounds;omega)
  ⟨rfl,by simp only [efs,l1,reduceIte,Nat.reduceEqDiff],by simp only [efs,reduceIte,Nat.reduceEqDiff];rfl⟩
  (fun i L t hi ⟨ht,q3,q6⟩=>by
   subst ht
   by_cases hlt:i<H.kinds.length
   ·have e0:decide ((i:Int)<(H.kinds.length:Int))=true:=decide_eq_true (by omega)
    obtain ⟨aw,b,p,c,sz',⟨r1,_⟩,r2,r3,r4,r5⟩:=hHw.k.get hlt
    have okI:=ok.k _ (List.getElem_mem hlt)
    have ek:call Try.prog X n (.fn 89) [.agg (zP H vW vS vB vK),.agg (H.kinds[i].row aw)] t=.val (.int .i64 0) t:=yPJ n (by omega) H vW vS vB vK _ okI k1 aw t r5 kK lK (by omega)
    have ad:∀ s,jI s .i64 (i:Int) 1=.val (.int .i64 ((i:Int)+1)) s:=fun s=>za s _ _ (by omega)
    have okr:∀ t,okA (.val (.agg (H.kinds[i].row aw)) t)=.val (.agg (H.kinds[i].row aw)) t:=fun _=>rfl
    refine .inl ⟨hlt,_,t,by
     simp (disch:=first|omega|with_unfolding_all rfl) only [VyJ,K60r23,K60r24,K60r25,K60r27,Abs.W,reduceIte,Nat.reduceEqDiff,Nat.reduceAdd,Nat.reduceSub,q3,q6,e0,w0,kK,lK,r2,r3,r4,okr,ek,z0,ad,Nat.zero_add]
     rfl,rfl,?_,?_⟩
    ·simp only [efs,q3,reduceIte,Nat.reduceEqDiff]
    ·simp only [efs,reduceIte,Nat.reduceEqDiff];rfl
   ·obtain rfl:i=H.kinds.length:=by omega
    have e0:decide ((H.kinds.length:Int)<(H.kinds.length:Int))=false:=by simp
    refine .inr ⟨.exit 2,L.set 80 (.bool false),t,by simp,?_,rfl,rfl⟩
    simp (disch:=first|omega|with_unfolding_all rfl) only [VyJ,K60r23,Abs.W,reduceIte,Nat.reduceEqDiff,Nat.reduceAdd,Nat.reduceSub,q3,q6,w0,kK,lK,e0,Nat.zero_add])
 simp (disch:=first|omega|with_unfolding_all rfl) only [jmQ,K60r28,Abs.W,reduceIte,Nat.reduceEqDiff,Nat.reduceAdd,Nat.reduceSub]
 refine ⟨_,rfl,?_⟩
 omega
theorem KindsAt.cells {no:Nat→Prop} {h:Heap} {n:Nat} {H:HallR} {v:AV} (r:KindsAt no h n H.kinds v) {k:Nat} (hk:k<H.kinds.length):∃ (w:AV) (b p:Nat) (c:List AV) (sz:Nat),(b<n∧no b)∧(∀ s,jX 6 s v (.int .i64 (k:Int))=.val (.ptr b p) s)∧h.get b=some (.cells c sz)∧nth c (p+2)=.bool (H.kind k).water∧nth c (p+3)=w∧nth c (p+5)=.int .i64 (H.kind k).most∧Sl no h n 1 (jA (H.kind k).away) w∧cut p 6 c=some ((H.kind k).row w):=by
 obtain ⟨w,b,p,c,sz,z1,z2,z3,z4,z5⟩:=r.get hk
 have hki:=jFA (H:=H) hk
 rw [← hki] at z4 z5
 exact ⟨w,b,p,c,sz,z1,z2,z3,(WL z4 (by omega)).trans rfl,(WL z4 (by omega)).trans rfl,(WL z4 (by omega)).trans rfl,z5,z4⟩
theorem gpJ (N:Nat) (hN:3≤N) {no:Nat→Prop} (H:HallR) (ok:H.Ok) (vW vS vB vK:AV) (P:PutR) (hP:P.In H) (l:List PutR) (hl:∀ q ∈ l,q.In H) (hl1:l.length≤100) (v:AV) (s:St) (hH:HallAt no s.h s.n H vW vS vB vK) (hR:Sl no s.h s.n 3 (l.map PutR.row) v) (hs:s.n+1000≤far) :
  call Try.prog X N (.fn 90) [.agg (zP H vW vS vB vK),v,.agg P.row] s=.val (.int .i64 (H.putE l P)) s:=by
 obtain ⟨n,rfl⟩:∃ n,N=n+1:=⟨N - 1,by omega⟩
 refine zj Try.func90 (fun u uh un um=>?_) rfl
 rw [← uh,← un] at hH hR
 have hf:=hfar
 have kv:=hR.okA
 have lv:=jfA hR
 have kW:=hH.w.okA
 have kS:=hH.s.okA
 have kK:=hH.k.okA
 have lK:=hH.k.len
 have sz:=ok.toSize
 have k1:=ok.k1
 have hPk:=hP.k
 have p0:=hP.x0
 have p1:=hP.x1
 have p2:=hP.y0
 have p3:=hP.y1
 obtain ⟨w,hw⟩:∃ w:St,w=(u.new (.cells (zP H vW vS vB vK) (tag 30))).new (.cells P.row (tag 51)):=⟨_,rfl⟩
 have wn:w.n=u.n+2:=by rw [hw];rfl
 have wm:w.m=far:=by rw [hw];exact um
 have wg:∀ c,c<u.n→w.h.get c=u.h.get c:=fun c hc=>by rw [hw,zH _ _ _ (by rw [zW];omega),zH _ _ _ (by omega)]
 have w0:w.h.get u.n=some (.cells (zP H vW vS vB vK) (tag 30)):=by rw [hw,zH _ _ _ (by rw [zW];omega)];exact zM _ _ _ rfl (by omega)
 have w1:w.h.get (u.n+1)=some (.cells [.int .i64 P.x,.int .i64 P.y,.int .i64 (P.kind:Int)] (tag 51)):=by rw [hw];exact zM _ _ _ rfl (by rw [zW];omega)
 have hHw:=hH.grow wg (by omega:u.n≤w.n)
 have hRw:=hR.grow wg (by omega:u.n≤w.n)
 have wl:=ok.wl
 have sl:=ok.sl
 have ei:call Try.prog X n (.fn 99) [.agg (zP H vW vS vB vK),.agg [.int .i64 P.x,.int .i64 P.y]] w=.val (.bool (decide (H.In P.c))) w:=wvA n (by omega) H sz vW vS vB vK P.c w (by omega)
 have es:call Try.prog X n (.fn 100) [vS,.agg [.int .i64 P.x,.int .i64 P.y]] w=.val (.bool (decide (P.c ∈ H.shut))) w:=vGJ n (by omega) H.shut P.c vS w hHw.s (by omega) (by omega)
 have ew:call Try.prog X n (.fn 100) [vW,.agg [.int .i64 P.x,.int .i64 P.y]] w=.val (.bool (decide (P.c ∈ H.water))) w:=vGJ n (by omega) H.water P.c vW w hHw.w (by omega) (by omega)
 have a1:∀ s,yK s .i64 (H.kinds.length:Int) 1=.val (.int .i64 ((H.kinds.length:Int) - 1)) s:=fun s=>je s _ _ (by omega)
 have d1:decide (0≤(P.kind:Int)∧(P.kind:Int)≤(H.kinds.length:Int) - 1)=true:=decide_eq_true ⟨by omega,by omega⟩
 have u9:=eq3 ZNA.eq_1
 have u10:=eq3 yTA.eq_1
 have u11:=eq3 ySA.eq_1
 have u12:=eq3 yRA.eq_1
 have u13:=eq3 yQA.eq_1
 have u14:=eq3 yPA.eq_1
 rw [zRQ]
 simp (disch:=first|omega|with_unfolding_all rfl) only [WoA,K90,K90r0,Abs.W,reduceIte,Nat.reduceEqDiff,Nat.reduceAdd,Nat.reduceSub,zW]
 rw [← hw]
 unfold HallR.putE
 by_cases c1:H.In P.c
 case neg =>
  rw [if_pos c1]
  rw [decide_eq_false c1] at ei
  simp (disch:=first|omega|with_unfolding_all rfl) only [wmJ,K90r2,Abs.W,reduceIte,Nat.reduceEqDiff,Nat.reduceAdd,Nat.reduceSub,w0,w1,ei,Nat.zero_add]
  exact ⟨_,rfl,by omega⟩
 rw [if_neg (by simpa using c1)]
 rw [decide_eq_true c1] at ei
 by_cases c2:P.c ∈ H.shut
 ·rw [if_pos c2]
  rw [decide_eq_true c2] at es
  simp (disch:=first|omega|with_unfolding_all rfl) only [wmJ,K90r3,K90r4,Abs.W,reduceIte,Nat.reduceEqDiff,Nat.reduceAdd,Nat.reduceSub,w0,w1,kS,ei,es,Nat.zero_add]
  exact ⟨_,rfl,by omega⟩
 rw [if_neg c2]
 rw [decide_eq_false c2] at es
 simp (disch:=first|omega|with_unfolding_all rfl) only [wmJ,K90r3,K90r5,K90r7,Abs.W,reduceIte,Nat.reduceEqDiff,Nat.reduceAdd,Nat.reduceSub,w0,w1,kS,kK,lK,ei,es,a1,JY,d1,Nat.zero_add]
 generalize hlp:jK _ rounds _ _ _ _ _=q1
 obtain ⟨e,L1,s1,rfl,hQ,l1,l3,l5,rfl⟩:=jO hlp (fun i L t=>t=w∧L.find 1=v∧L.find 3=.ptr u.n 0∧L.find 5=.ptr (u.n+1) 0∧L.find 7=.int .i64 (i:Int)∧∀ q ∈ l.take i,q.c≠P.c)
  (fun e L t=>((e=.exit 0∧∀ q ∈ l,q.c≠P.c)∨(e=.ret∧L.find 6=.int .i64 4∧∃ q ∈ l,q.c=P.c))∧L.find 1=v∧L.find 3=.ptr u.n 0∧L.find 5=.ptr (u.n+1) 0∧t=w) l.length (by unfold rounds;omega)
  ⟨rfl,(by simp only [zK,efs,reduceIte,Nat.reduceEqDiff]),(by simp only [zK,efs,reduceIte,Nat.reduceEqDiff]),(by simp only [zK,efs,reduceIte,Nat.reduceEqDiff]),(by simp only [zK,efs,reduceIte,Nat.reduceEqDiff];rfl),by simp⟩
  (fun i L t hi ⟨ht,q1,q3,q5,q7,hq⟩=>by
   subst ht
   by_cases hlt:i<l.length
   ·have e0:decide ((i:Int)<(l.length:Int))=true:=decide_eq_true (by omega)
    obtain ⟨b,p,c,szz,⟨r1,_⟩,r2,r3,r4⟩:=wJA hRw hlt
    have htk:=yE hlt
    have hmem:=List.getElem_mem hlt
    generalize l[i]=Q at *
    have r4':=jHJ r4 (show 2≤3 by omega)
    have r4'':cut p 2 c=some [.int .i64 Q.x,.int .i64 Q.y]:=r4'
    have ad:∀ s,jI s .i64 (i:Int) 1=.val (.int .i64 ((i:Int)+1)) s:=fun s=>za s _ _ (by omega)
    have eq:=gKA Q.c P.c t
    by_cases hc:Q.c=P.c
    ·have hc':(Q.x,Q.y)=(P.x,P.y):=hc
     rw [decide_eq_true hc'] at eq
     refine .inr ⟨.ret,?_⟩
     simp (disch:=first|omega|with_unfolding_all rfl) only [woJ,K90r8,K90r9,K90r10,Abs.W,reduceIte,Nat.reduceEqDiff,Nat.reduceAdd,Nat.reduceSub,Nat.zero_add,Nat.add_zero,q1,q3,q5,q7,e0,kv,lv,r2,r3,r4'',w1,vCA,eq]
     refine ⟨_,_,by simp,rfl,.inr ⟨trivial,?_,Q,hmem,hc⟩,?_,?_,?_,rfl⟩
     ·simp only [efs,reduceIte,Nat.reduceEqDiff]
     ·simp only [efs,q1,reduceIte,Nat.reduceEqDiff]
     ·simp only [efs,q3,reduceIte,Nat.reduceEqDiff]
     ·simp only [efs,q5,reduceIte,Nat.reduceEqDiff]
    ·have hc':¬ (Q.x,Q.y)=(P.x,P.y):=hc
     rw [decide_eq_false hc'] at eq
     refine .inl ⟨hlt,?_⟩
     simp (disch:=first|omega|with_unfolding_all rfl) only [woJ,K90r8,K90r9,K90r11,Abs.W,reduceIte,Nat.reduceEqDiff,Nat.reduceAdd,Nat.reduceSub,Nat.zero_add,Nat.add_zero,q1,q3,q5,q7,e0,kv,lv,r2,r3,r4'',w1,vCA,eq,ad]
     refine ⟨_,_,rfl,rfl,?_,?_,?_,?_,?_⟩
     ·simp only [efs,q1,reduceIte,Nat.reduceEqDiff]
     ·simp only [efs,q3,reduceIte,Nat.reduceEqDiff]
     ·simp only [efs,q5,reduceIte,Nat.reduceEqDiff]
     ·simp only [efs,reduceIte,Nat.reduceEqDiff];rfl
     ·rw [htk]
      intro q hq'
      rcases List.mem_append.mp hq' with h | h
      ·exact hq q h
      ·rw [List.mem_singleton.mp h];exact hc
   ·obtain rfl:i=l.length:=by omega
    have e0:decide ((l.length:Int)<(l.length:Int))=false:=by simp
    rw [List.take_length] at hq
    refine .inr ⟨.exit 0,L.set 31 (.bool false),t,by simp,?_,.inl ⟨rfl,hq⟩,by simp only [efs,q1,reduceIte,Nat.reduceEqDiff],by simp only [efs,q3,reduceIte,Nat.reduceEqDiff],by simp only [efs,q5,reduceIte,Nat.reduceEqDiff],rfl⟩
    simp (disch:=first|omega|with_unfolding_all rfl) only [woJ,K90r8,Abs.W,reduceIte,Nat.reduceEqDiff,Nat.reduceAdd,Nat.reduceSub,q1,q7,kv,lv,e0])
 rcases hQ with ⟨rfl,hq⟩ | ⟨rfl,h6,hq⟩
 case inr =>
  rw [if_pos hq]
  simp (disch:=first|omega|with_unfolding_all rfl) only [WoA,Abs.W,reduceIte,Nat.reduceEqDiff,Nat.reduceAdd,Nat.reduceSub,h6]
  exact ⟨_,rfl,by omega⟩
 rw [if_neg (by rintro ⟨q,h1,h2⟩;exact hq q h1 h2)]
 obtain ⟨aw,kb,ko,kc,ksz,⟨kb1,_⟩,kb2,kb3,kb4,kb5,_,kA,_⟩:=hHw.k.cells hPk
 by_cases c4:(H.kind P.kind).water=true∧P.c ∉ H.water
 ·rw [if_pos c4]
  rw [c4.1] at kb4
  rw [decide_eq_false c4.2] at ew
  simp (disch:=first|omega|with_unfolding_all rfl) only [WoA,K90r12,K90r13,u9,u10,u11,u12,u13,u14,Abs.W,reduceIte,Nat.reduceEqDiff,Nat.reduceAdd,Nat.reduceSub,l1,l3,l5,w0,w1,kW,kK,kb2,kb3,kb4,ew,Nat.zero_add]
  exact ⟨_,rfl,by omega⟩
 rw [if_neg c4]
 have hr12:∃ L2:Env,(∀ c,c<9→L2.find c=L1.find c)∧vFQ [56] L1 [] (K90r12 (call Try.prog X n) L1 s1)=.done .norm (L2.set 56 (.bool false)) [] s1:=by
  cases hwt:(H.kind P.kind).water with
  | false =>
   rw [hwt] at kb4
   simp (disch:=first|omega|with_unfolding_all rfl) only [K90r12,u9,u10,u11,u12,u13,u14,Abs.W,reduceIte,Nat.reduceEqDiff,Nat.reduceAdd,Nat.reduceSub,l1,l3,l5,w0,w1,kW,kK,kb2,kb3,kb4,Nat.zero_add]
   exact ⟨L1,fun _ _=>rfl,rfl⟩
  | true =>
   have hm:P.c ∈ H.water:=by
    by_cases hm:P.c ∈ H.water
    ·exact hm
    ·exact absurd ⟨hwt,hm⟩ c4
   rw [hwt] at kb4
   rw [decide_eq_true hm] at ew
   simp (disch:=first|omega|with_unfolding_all rfl) only [K90r12,u9,u10,u11,u12,u13,u14,Abs.W,reduceIte,Nat.reduceEqDiff,Nat.reduceAdd,Nat.reduceSub,l1,l3,l5,w0,w1,kW,kK,kb2,kb3,kb4,ew,Nat.zero_add]
   exact ⟨L1,fun _ _=>rfl,rfl⟩
 obtain ⟨L2,hL2,hr12⟩:=hr12
 have m1:L2.find 1=v:=(hL2 1 (by omega)).trans l1
 have m3:L2.find 3=.ptr u.n 0:=(hL2 3 (by omega)).trans l3
 have m5:L2.find 5=.ptr (u.n+1) 0:=(hL2 5 (by omega)).trans l5
 simp (disch:=first|omega|with_unfolding_all rfl) only [VrJ,hr12,Abs.W,reduceIte,Nat.reduceEqDiff,Nat.reduceAdd,Nat.reduceSub]
 generalize hlp2:jK _ rounds _ _ _ _ _=q2
 obtain ⟨e,L3,s2,rfl,hQ,hB⟩:=jO hlp2 (fun i L t=>L.find 1=v∧L.find 3=.ptr u.n 0∧L.find 5=.ptr (u.n+1) 0∧L.find 8=.int .i64 (i:Int)∧(∀ q ∈ l.take i,¬ H.clash P q)∧Beside s1 t i)
  (fun e L t=>((e=.exit 2∧∀ q ∈ l,¬ H.clash P q)∨(e=.ret∧L.find 6=.int .i64 9∧∃ q ∈ l,H.clash P q))∧Beside s1 t (l.length+1)) l.length (by unfold rounds;omega)
  ⟨by simp only [efs,m1,reduceIte,Nat.reduceEqDiff],by simp only [efs,m3,reduceIte,Nat.reduceEqDiff],by simp only [efs,m5,reduceIte,Nat.reduceEqDiff],by simp only [efs,reduceIte,Nat.reduceEqDiff];rfl,by simp,Beside.refl s1 (by omega) wm⟩
  (fun i L t hi ⟨q1,q3,q5,q8,hq,hB⟩=>by
   have tn:=hB.n
   have tl:=hB.le
   have tm:=hB.m
   have tf:=hB.far
   by_cases hlt:i<l.length
   ·have e0:decide ((i:Int)<(l.length:Int))=true:=decide_eq_true (by omega)
    obtain ⟨b,bp,c,szz,⟨r1,_⟩,r2,r3,r4⟩:=wJA (hRw.grow (h':=t.h) (n':=t.n) hB.same tn) hlt
    have htk:=yE hlt
    have hmem:=List.getElem_mem hlt
    have hQI:=hl _ hmem
    generalize l[i]=Q at *
    have x0:=hQI.x0
    have x1:=hQI.x1
    have x2:=hQI.y0
    have x3:=hQI.y1
    have hdc:=YMA Q P
    have ad:∀ s,jI s .i64 (i:Int) 1=.val (.int .i64 ((i:Int)+1)) s:=fun s=>za s _ _ (by omega)
    obtain ⟨y,hy⟩:∃ y:St,y=(t.new (.cells [.int .i64 0,.int .i64 0,.int .i64 0] (tag 51))).put t.n (.cells Q.row (tag 51)):=⟨_,rfl⟩
    have By:Beside s1 y (i+1):=by rw [hy];exact (hB.new _).put _ (by omega)
    have yn:y.n=t.n+1:=by rw [hy];rfl
    have ym:=By.far
    have hyn:y.n≤far:=by omega
    have yt:y.h.get t.n=some (.cells [.int .i64 Q.x,.int .i64 Q.y,.int .i64 (Q.kind:Int)] (tag 51)):=by rw [hy];exact zN _ _ _ _ rfl (by omega)
    have y0:=(By.same u.n (by omega)).trans w0
    have y1:=(By.same (u.n+1) (by omega)).trans w1
    have yk:=(By.same kb kb1).trans kb3
    have ed:∀ s:St,s.n+10≤far→call Try.prog X n (.fn 101) [.agg [.int .i64 Q.x,.int .i64 Q.y],.agg [.int .i64 P.x,.int .i64 P.y]] s=.val (.int .i64 (dist P Q)) s:=fun s hs=>by
     rw [← hdc]
     exact yQJ n (by omega) Q.x Q.y P.x P.y s ⟨x0,x1⟩ ⟨x2,x3⟩ ⟨p0,p1⟩ ⟨p2,p3⟩ hs
    have hts:=yG (v:=.int .i64 (dist P Q)) (s:=y) (h:=hyn) (hm:=ym)
    have hHy:=hHw.grow (h':=y.h) (n':=y.n) By.same (by omega)
    obtain ⟨bw,qb,qo,qc,qsz,⟨qb1,_⟩,qb2,qb3,_,qb5,_,qA,_⟩:=hHy.k.cells hQI.k
    obtain ⟨hi1,ha1⟩:=vkA ok hPk hQI.k
    obtain ⟨hi2,ha2⟩:=vkA ok hQI.k hPk
    obtain ⟨b1,o1,c1',sz1,j1,j2,j3,j4⟩:=Jb (kA.grow (h':=y.h) (n':=y.n) By.same (by omega)).at_ hi1
    obtain ⟨b2,o2,c2',sz2,m1',m2,m3',m4⟩:=Jb qA.at_ hi2
    rw [ha1] at j4
    rw [ha2] at m4
    have kaw:=kA.okA
    have kbw:=qA.okA
    by_cases hc:H.clash P Q
    ·have e1:decide (dist P Q<max (H.away P Q) (H.away Q P))=true:=decide_eq_true hc
     refine .inr ⟨.ret,?_⟩
     simp (disch:=first|omega|with_unfolding_all rfl) only [wnJ,K90r15,K90r16,Abs.W,reduceIte,Nat.reduceEqDiff,Nat.reduceAdd,Nat.reduceSub,Nat.zero_add,q1,q3,q5,q8,e0,kv,lv,r2,r3,r4]
     rw [← hy]
     simp (disch:=first|omega|(with_unfolding_all exact rfl)|(simp only[zW,jB,jF];omega)|(refine jU ?_;simp only[jF];omega)) only [vlJ,K90r18,Abs.W,reduceIte,Nat.reduceEqDiff,Nat.reduceAdd,Nat.reduceSub,Nat.zero_add,q1,q3,q5,q8,yt,y0,y1,ed,hts,kK,kb2,yk,kb5,kaw,j2,j3,j4,qb2,qb3,qb5,kbw,m2,m3',m4,wC,wF,vj,gg,JT,Zx,e1]
     refine ⟨_,_,by simp,rfl,.inr ⟨trivial,?_,Q,hmem,hc⟩,By.mono (by omega)⟩
     simp only [efs,reduceIte,Nat.reduceEqDiff]
    ·have e1:decide (dist P Q<max (H.away P Q) (H.away Q P))=false:=decide_eq_false hc
     refine .inl ⟨hlt,?_⟩
     simp (disch:=first|omega|with_unfolding_all rfl) only [wnJ,K90r15,K90r16,Abs.W,reduceIte,Nat.reduceEqDiff,Nat.reduceAdd,Nat.reduceSub,Nat.zero_add,q1,q3,q5,q8,e0,kv,lv,r2,r3,r4]
     rw [← hy]
     simp (disch:=first|omega|(with_unfolding_all exact rfl)|(simp only[zW,jB,jF];omega)|(refine jU ?_;simp only[jF];omega)) only [vlJ,K90r19,Abs.W,reduceIte,Nat.reduceEqDiff,Nat.reduceAdd,Nat.reduceSub,Nat.zero_add,q1,q3,q5,q8,yt,y0,y1,ed,hts,kK,kb2,yk,kb5,kaw,j2,j3,j4,qb2,qb3,qb5,kbw,m2,m3',m4,wC,wF,vj,gg,JT,Zx,e1,ad]
     refine ⟨_,_,rfl,?_,?_,?_,?_,?_,By⟩
     ·simp only [efs,q1,reduceIte,Nat.reduceEqDiff]
     ·simp only [efs,q3,reduceIte,Nat.reduceEqDiff]
     ·simp only [efs,q5,reduceIte,Nat.reduceEqDiff]
     ·simp only [efs,reduceIte,Nat.reduceEqDiff];rfl
     ·rw [htk]
      intro q hq'
      rcases List.mem_append.mp hq' with h | h
      ·exact hq q h
      ·rw [List.mem_singleton.mp h];exact hc
   ·obtain rfl:i=l.length:=by omega
    have e0:decide ((l.length:Int)<(l.length:Int))=false:=by simp
    rw [List.take_length] at hq
    refine .inr ⟨.exit 2,L.set 60 (.bool false),t,by simp,?_,.inl ⟨rfl,hq⟩,hB.mono (by omega)⟩
    simp (disch:=first|omega|with_unfolding_all rfl) only [wnJ,K90r15,Abs.W,reduceIte,Nat.reduceEqDiff,Nat.reduceAdd,Nat.reduceSub,q1,q8,kv,lv,e0])
 have hm1:=hB.m
 rcases hQ with ⟨rfl,hq⟩ | ⟨rfl,h6,hq⟩
 ·rw [if_neg (by rintro ⟨q,h1,h2⟩;exact hq q h1 h2)]
  simp (disch:=first|omega|with_unfolding_all rfl) only [WoA,K90r20,Abs.W,reduceIte,Nat.reduceEqDiff,Nat.reduceAdd,Nat.reduceSub]
  refine ⟨_,rfl,?_⟩
  omega
 ·rw [if_pos hq]
  simp (disch:=first|omega|with_unfolding_all rfl) only [WoA,Abs.W,reduceIte,Nat.reduceEqDiff,Nat.reduceAdd,Nat.reduceSub,h6]
  refine ⟨_,rfl,?_⟩
  omega
def Jw (l:List PutR) (K:Nat):List AV:=(List.range K).map fun k=>.int .i64 (many l k:Int)
theorem ZGJ (l:List PutR) (K:Nat):(Jw l K).length=K:=by unfold Jw;simp
theorem zRJ (l:List PutR) {K k:Nat} (hk:k<K):nth (Jw l K) k=.int .i64 (many l k:Int):=YCJ (by unfold Jw;simp [hk])
theorem ylJ (K:Nat):(List.replicate K [AV.int .i64 0]).flatten=Jw [] K:=by
 rw [List.flatten_replicate_singleton,jnA]
 rfl
theorem ymJ {l:List PutR} {i:Nat} (hi:i<l.length) (K:Nat):(Jw (l.take i) K).set l[i].kind (.int .i64 ((many (l.take i) l[i].kind:Int)+1))=Jw (l.take (i+1)) K:=by
 unfold Jw
 rw [jmA]
 congr 1
 funext k
 rw [JkA hi k]
 by_cases h:k=l[i].kind
 ·subst h;simp
 ·have h':¬ l[i].kind=k:=fun e=>h e.symm
  simp [h,h']
theorem YtA {N:Nat} {no:Nat→Prop} {H:HallR} {vW vS vB vK:AV} {l:List PutR} {v:AV} {s:St} {r:ARes} (hr:call Try.prog X N (.fn 61) [.agg (zP H vW vS vB vK),v] s=r) (hN:4≤N) (ok:H.Ok) (hH:HallAt no s.h s.n H vW vS vB vK) (hR:Sl no s.h s.n 3 (l.map PutR.row) v) (hl:∀ q ∈ l,q.In H) (hl1:l.length≤24) (hs:s.n+3000≤far) :
  ∃ e:Int,r=.val (.int .i64 e) s∧(e=0↔H.Valid l):=by
 obtain ⟨n,rfl⟩:∃ n,N=n+1:=⟨N - 1,by omega⟩
 have hf:=hfar
 obtain ⟨vv,e,x,rfl,hx⟩:=WN (n:=n) (s:=s) (k:=10) (args:=[.agg (zP H vW vS vB vK),v]) (Q:=fun v=>∃ e:Int,v=.int .i64 e∧(e=0↔H.Valid l)) Try.func61 (fun u uh un um=>by
  rw [← uh,← un] at hH hR
  have kv:=hR.okA
  have lv:=jfA hR
  have kK:=hH.k.okA
  have lK:=hH.k.len
  have hk6:=ok.k1
  have z0:decide ((0:Int)=0)=true:=rfl
  have d0:decide (24<(l.length:Int))=false:=decide_eq_false (by omega)
  obtain ⟨K,hK⟩:∃ K,K=H.kinds.length:=⟨_,rfl⟩
  have mk:∀ s:St,VO [.int .i64 0] 8 s (.int .i64 (H.kinds.length:Int)) (.int .i64 (H.kinds.length:Int))=.val (.slice s.n 0 H.kinds.length H.kinds.length false) (s.new (.cells (Jw [] H.kinds.length) 0)):=fun s=>by rw [← ylJ];exact WE _ 8 _ s (by omega) (by omega)
  have okM:∀ t,okA (.val (.slice (u.n+1) 0 H.kinds.length H.kinds.length false) t)=.val (.slice (u.n+1) 0 H.kinds.length H.kinds.length false) t:=fun _=>rfl
  have lM:∀ s,zq s (.slice (u.n+1) 0 H.kinds.length H.kinds.length false)=.val (.int .i64 (H.kinds.length:Int)) s:=fun _=>rfl
  obtain ⟨w,hw⟩:∃ w:St,w=(u.new (.cells (zP H vW vS vB vK) (tag 30))).new (.cells (Jw [] H.kinds.length) 0):=⟨_,rfl⟩
  have wn:w.n=u.n+2:=by rw [hw];rfl
  have wm:w.m=far:=by rw [hw];exact um
  have wg:∀ c,c<u.n→w.h.get c=u.h.get c:=fun c hc=>by rw [hw,zH _ _ _ (by rw [zW];omega),zH _ _ _ (by omega)]
  have w0:w.h.get u.n=some (.cells (zP H vW vS vB vK) (tag 30)):=by rw [hw,zH _ _ _ (by rw [zW];omega)];exact zM _ _ _ rfl (by omega)
  have w1:w.h.get (u.n+1)=some (.cells (Jw [] H.kinds.length) 0):=by rw [hw];exact zM _ _ _ rfl (by rw [zW];omega)
  rw [zsQ]
  simp (disch:=first|omega|with_unfolding_all rfl) only [K61,K61r0,K61r1,K61r3,K61r4,Abs.W,reduceIte,Nat.reduceEqDiff,Nat.reduceAdd,Nat.reduceSub,kv,lv,kK,lK,d0,WG,mk,zW,okM,Nat.zero_add]
  rw [← hw]
  generalize hlp:jK _ rounds _ _ _ _ _=q1
  obtain ⟨eA,L1,s1,rfl,hQ,h2,h5,hm0,sg,sn,sm,sf⟩:=jO hlp (fun i L t=>L.find 1=v∧L.find 2=.ptr u.n 0∧L.find 5=.slice (u.n+1) 0 H.kinds.length H.kinds.length false∧L.find 6=.int .i64 (i:Int)∧H.Upto l i∧t.h.get (u.n+1)=some (.cells (Jw (l.take i) H.kinds.length) 0)∧(∀ c,c<u.n+1→t.h.get c=w.h.get c)∧t.n=u.n+2∧u.n≤t.m∧t.m≤far)
   (fun e L t=>((e=.exit 0∧H.Upto l l.length)∨(e=.ret∧(∃ x:Int,x≠0∧L.find 4=.int .i64 x)∧¬ H.Upto l l.length))∧L.find 2=.ptr u.n 0∧L.find 5=.slice (u.n+1) 0 H.kinds.length H.kinds.length false∧(e=.exit 0→t.h.get (u.n+1)=some (.cells (Jw l H.kinds.length) 0))∧(∀ c,c<u.n+1→t.h.get c=w.h.get c)∧t.n=u.n+2∧u.n≤t.m∧t.m≤far) l.length (by unfold rounds;omega)
   ⟨(by simp only [zK,efs,reduceIte,Nat.reduceEqDiff]),(by simp only [zK,efs,reduceIte,Nat.reduceEqDiff]),(by simp only [zK,efs,reduceIte,Nat.reduceEqDiff]),(by simp only [zK,efs,reduceIte,Nat.reduceEqDiff];rfl),JFA H l,w1,fun _ _=>rfl,wn,by omega,by omega⟩
   (fun i L t hi ⟨q1,q2,q5,q6,hU,tm1,tg,tn,tm,tf⟩=>by
    by_cases hlt:i<l.length
    ·have e0:decide ((i:Int)<(l.length:Int))=true:=decide_eq_true (by omega)
     have tu:∀ c,c<u.n→t.h.get c=u.h.get c:=fun c hc=>(tg c (by omega)).trans (wg c hc)
     have hRt:=hR.grow (h':=t.h) (n':=t.n) tu (by omega)
     have hHt:=hH.grow (h':=t.h) (n':=t.n) tu (by omega)
     have t0:=(tg u.n (by omega)).trans w0
     obtain ⟨b,bp,c,sz,⟨r1,_⟩,r2,r3,r4⟩:=wJA hRt hlt
     have hIn:=hl _ (List.getElem_mem hlt)
     have hsucc:=JGA (h:=H) (l:=l) hlt hU
     have hfail:H.putE (l.take i) l[i]≠0→¬ H.Upto l l.length:=fun h1 h2=>h1 (h2 i hlt hlt)
     have hlk:∀ q ∈ l.take i,q.In H:=fun q hq=>hl q (List.mem_of_mem_take hq)
     have hsn:=ymJ hlt H.kinds.length
     have hml:=wOJ (l.take i) l[i].kind
     rw [List.length_take] at hml
     generalize l[i]=P at *
     have r42:nth c (bp+2)=.int .i64 (P.kind:Int):=(WL r4 (by omega)).trans rfl
     obtain ⟨v',t1',t2'⟩:=hRt.to (i:=i) (by rw [List.length_map];omega)
     rw [← List.map_take] at t2'
     have kv':=t2'.okA
     have ad:∀ s,jI s .i64 (i:Int) 1=.val (.int .i64 ((i:Int)+1)) s:=fun s=>za s _ _ (by omega)
     have ad2:∀ s,jI s .i64 (many (l.take i) P.kind:Int) 1=.val (.int .i64 ((many (l.take i) P.kind:Int)+1)) s:=fun s=>za s _ _ (by omega)
     have er:=gpJ n (by omega) H ok vW vS vB vK P hIn (l.take i) hlk (by rw [List.length_take];omega) v' t hHt t2' (by omega)
     have okP:∀ t,okA (.val (.agg P.row) t)=.val (.agg P.row) t:=fun _=>rfl
     have hixm:∀ s,jX 1 s (.slice (u.n+1) 0 H.kinds.length H.kinds.length false) (.int .i64 (P.kind:Int))=.val (.ptr (u.n+1) P.kind) s:=fun s=>by rw [jq _ _ _ _ _ _ _ _ hIn.k,Nat.zero_add,Nat.mul_one]
     have hma:=zRJ (l.take i) hIn.k
     have stm:=jZ (v:=.int .i64 ((many (l.take i) P.kind:Int)+1)) tm1 (o:=P.kind) (by rw [ZGJ];exact hIn.k) rfl rfl
     rw [hsn] at stm
     by_cases hz0:H.putE (l.take i) P=0
     ·have e1:decide (H.putE (l.take i) P=0)=true:=decide_eq_true hz0
      refine .inl ⟨hlt,?_⟩
      simp (disch:=first|omega|with_unfolding_all rfl) only [wwJ,K61r5,K61r6,K61r7,K61r9,K61r10,Abs.W,reduceIte,Nat.reduceEqDiff,Nat.reduceAdd,Nat.reduceSub,Nat.zero_add,q1,q2,q5,q6,e0,t0,kv,kv',lv,r2,r3,r4,r42,okP,JA,Zq,Zr,t1',er,e1,okM,hixm,tm1,hma,ad2,stm,ad]
      refine ⟨_,_,rfl,?_,?_,?_,?_,hsucc hz0,zN _ _ _ _ (by omega) (by omega),fun c hc=>?_,?_,?_,?_⟩
      ·simp only [efs,q1,reduceIte,Nat.reduceEqDiff]
      ·simp only [efs,q2,reduceIte,Nat.reduceEqDiff]
      ·simp only [efs,q5,reduceIte,Nat.reduceEqDiff]
      ·simp only [efs,reduceIte,Nat.reduceEqDiff];rfl
      ·rw [zL _ _ _ _ (by omega)];exact tg c hc
      ·rw [jB];exact tn
      ·simp only [St.put,zQ];omega
      ·simp only [St.put,zQ];omega
     ·have e1:decide (H.putE (l.take i) P=0)=false:=decide_eq_false hz0
      refine .inr ⟨.ret,?_⟩
      simp (disch:=first|omega|with_unfolding_all rfl) only [wwJ,K61r5,K61r6,K61r7,K61r8,Abs.W,reduceIte,Nat.reduceEqDiff,Nat.reduceAdd,Nat.reduceSub,Nat.zero_add,q1,q2,q5,q6,e0,t0,kv,kv',lv,r2,r3,r4,okP,JA,Zq,Zr,t1',er,e1]
      refine ⟨_,_,by simp,rfl,.inr ⟨trivial,⟨_,hz0,?_⟩,hfail hz0⟩,?_,?_,fun h=>(by cases h),tg,tn,tm,tf⟩
      ·simp only [efs,reduceIte,Nat.reduceEqDiff]
      ·simp only [efs,q2,reduceIte,Nat.reduceEqDiff]
      ·simp only [efs,q5,reduceIte,Nat.reduceEqDiff]
    ·obtain rfl:i=l.length:=by omega
     have e0:decide ((l.length:Int)<(l.length:Int))=false:=by simp
     rw [List.take_length] at tm1
     refine .inr ⟨.exit 0,L.set 19 (.bool false),t,by simp,?_,.inl ⟨rfl,hU⟩,by simp only [efs,q2,reduceIte,Nat.reduceEqDiff],by simp only [efs,q5,reduceIte,Nat.reduceEqDiff],fun _=>tm1,tg,tn,tm,tf⟩
     simp (disch:=first|omega|with_unfolding_all rfl) only [wwJ,K61r5,Abs.W,reduceIte,Nat.reduceEqDiff,Nat.reduceAdd,Nat.reduceSub,q1,q6,kv,lv,e0])
  have s1u:∀ c,c<u.n→s1.h.get c=u.h.get c:=fun c hc=>(sg c (by omega)).trans (wg c hc)
  have s10:=(sg u.n (by omega)).trans w0
  have Bu:Beside u s1 10:=⟨s1u,by omega,by omega,by omega,by omega⟩
  rcases hQ with ⟨rfl,hU⟩ | ⟨rfl,⟨x,hx0,h4⟩,hU⟩
  ·have hm1:=hm0 rfl
   have hHs:=hH.grow (h':=s1.h) (n':=s1.n) s1u (by omega)
   simp (disch:=first|omega|with_unfolding_all rfl) only [VwJ,Abs.W,reduceIte,Nat.reduceEqDiff,Nat.reduceAdd,Nat.reduceSub]
   generalize hlp2:jK _ rounds _ _ _ _ _=q2
   obtain ⟨eB,L2,s2,rfl,hQ2,rfl⟩:=jO hlp2 (fun i L t=>t=s1∧L.find 2=.ptr u.n 0∧L.find 5=.slice (u.n+1) 0 H.kinds.length H.kinds.length false∧L.find 8=.int .i64 (i:Int)∧∀ k,k<i→(many l k:Int)≤(H.kind k).most)
    (fun e L t=>((e=.exit 2∧∀ k,k<H.kinds.length→(many l k:Int)≤(H.kind k).most)∨(e=.ret∧L.find 4=.int .i64 13∧¬ ∀ k,k<H.kinds.length→(many l k:Int)≤(H.kind k).most))∧t=s1) H.kinds.length (by unfold rounds;omega)
    ⟨rfl,by simp only [efs,h2,reduceIte,Nat.reduceEqDiff],by simp only [efs,h5,reduceIte,Nat.reduceEqDiff],by simp only [efs,reduceIte,Nat.reduceEqDiff];rfl,fun k hk=>absurd hk (Nat.not_lt_zero _)⟩
    (fun i L t hi ⟨ht,q2,q5,q8,hm⟩=>by
     subst ht
     by_cases hlt:i<H.kinds.length
     ·have e0:decide ((i:Int)<(H.kinds.length:Int))=true:=decide_eq_true (by omega)
      obtain ⟨aw,b,bp,c,sz,⟨r1,_⟩,r2,r3,_,_,r5,_⟩:=hHs.k.cells hlt
      have hixm:∀ s,jX 1 s (.slice (u.n+1) 0 H.kinds.length H.kinds.length false) (.int .i64 (i:Int))=.val (.ptr (u.n+1) i) s:=fun s=>by rw [jq _ _ _ _ _ _ _ _ hlt,Nat.zero_add,Nat.mul_one]
      have hma:=zRJ l hlt
      have ad:∀ s,jI s .i64 (i:Int) 1=.val (.int .i64 ((i:Int)+1)) s:=fun s=>za s _ _ (by omega)
      by_cases hc:(many l i:Int)≤(H.kind i).most
      ·have e1:decide ((H.kind i).most<(many l i:Int))=false:=decide_eq_false (by omega)
       refine .inl ⟨hlt,?_⟩
       simp (disch:=first|omega|with_unfolding_all rfl) only [wvJ,K61r12,K61r13,K61r15,Abs.W,reduceIte,Nat.reduceEqDiff,Nat.reduceAdd,Nat.reduceSub,Nat.zero_add,q2,q5,q8,e0,okM,lM,hixm,hm1,hma,s10,kK,r2,r3,r5,e1,ad]
       refine ⟨_,_,rfl,rfl,?_,?_,?_,fun k hk=>?_⟩
       ·simp only [efs,q2,reduceIte,Nat.reduceEqDiff]
       ·simp only [efs,q5,reduceIte,Nat.reduceEqDiff]
       ·simp only [efs,reduceIte,Nat.reduceEqDiff];rfl
       ·by_cases e:k=i
        ·rw [e];exact hc
        ·exact hm k (by omega)
      ·have e1:decide ((H.kind i).most<(many l i:Int))=true:=decide_eq_true (by omega)
       refine .inr ⟨.ret,?_⟩
       simp (disch:=first|omega|with_unfolding_all rfl) only [wvJ,K61r12,K61r13,K61r14,Abs.W,reduceIte,Nat.reduceEqDiff,Nat.reduceAdd,Nat.reduceSub,Nat.zero_add,q2,q5,q8,e0,okM,lM,hixm,hm1,hma,s10,kK,r2,r3,r5,e1,ad]
       refine ⟨_,_,by simp,rfl,.inr ⟨trivial,?_,fun ha=>hc (ha i hlt)⟩,rfl⟩
       simp only [efs,reduceIte,Nat.reduceEqDiff]
     ·obtain rfl:i=H.kinds.length:=by omega
      have e0:decide ((H.kinds.length:Int)<(H.kinds.length:Int))=false:=by simp
      refine .inr ⟨.exit 2,L.set 47 (.bool false),t,by simp,?_,.inl ⟨rfl,hm⟩,rfl⟩
      simp (disch:=first|omega|with_unfolding_all rfl) only [wvJ,K61r12,Abs.W,reduceIte,Nat.reduceEqDiff,Nat.reduceAdd,Nat.reduceSub,q5,q8,lM,okM,e0])
   rcases hQ2 with ⟨rfl,hm⟩ | ⟨rfl,h4,hm⟩
   ·simp (disch:=first|omega|with_unfolding_all rfl) only [vnJ,res61,Abs.W,reduceIte,Nat.reduceEqDiff,Nat.reduceAdd,Nat.reduceSub]
    exact ⟨_,_,rfl,Bu,rfl,0,rfl,⟨fun _=>ZP.mpr ⟨hU,hm⟩,fun _=>rfl⟩⟩
   ·simp (disch:=first|omega|with_unfolding_all rfl) only [vnJ,res61,Abs.W,reduceIte,Nat.reduceEqDiff,Nat.reduceAdd,Nat.reduceSub,h4]
    exact ⟨_,_,rfl,Bu,rfl,13,rfl,⟨fun h=>(by cases h),fun h=>absurd (ZP.mp h).2 hm⟩⟩
  ·simp (disch:=first|omega|with_unfolding_all rfl) only [res61,Abs.W,reduceIte,Nat.reduceEqDiff,Nat.reduceAdd,Nat.reduceSub,h4]
   exact ⟨_,_,rfl,Bu,rfl,x,rfl,⟨fun h=>absurd h hx0,fun h=>absurd (ZP.mp h).1 hU⟩⟩)
 exact ⟨x,hr.symm.trans e,hx⟩
theorem zhA {N:Nat} {no:Nat→Prop} {H:HallR} {vW vS vB vK:AV} {l:List PutR} {v:AV} {s:St} {r:ARes} (hr:call Try.prog X N (.fn 42) [.agg (zP H vW vS vB vK),v] s=r) (hN:5≤N) (ok:H.Ok) (hH:HallAt no s.h s.n H vW vS vB vK) (hR:Sl no s.h s.n 3 (l.map PutR.row) v) (hl:∀ q ∈ l,q.In H) (hl1:l.length≤24) (hs:s.n+5000≤far) :
  ∃ e:Int,r=.val (.int .i64 e) s∧(e=0↔H.Valid l):=by
 obtain ⟨n,rfl⟩:∃ n,N=n+1:=⟨N - 1,by omega⟩
 have hf:=hfar
 obtain ⟨vv,e,x,rfl,hx⟩:=WN (n:=n) (s:=s) (k:=10) (args:=[.agg (zP H vW vS vB vK),v]) (Q:=fun v=>∃ e:Int,v=.int .i64 e∧(e=0↔H.Valid l)) Try.func42 (fun u uh un um=>by
  rw [← uh,← un] at hH hR
  have kv:=hR.okA
  have z0:decide ((0:Int)=0)=true:=rfl
  obtain ⟨w,hw⟩:∃ w:St,w=u.new (.cells (zP H vW vS vB vK) (tag 30)):=⟨_,rfl⟩
  have wn:w.n=u.n+1:=by rw [hw];rfl
  have wm:w.m=far:=by rw [hw];exact um
  have wg:∀ c,c<u.n→w.h.get c=u.h.get c:=fun c hc=>by rw [hw,zH _ _ _ (by omega)]
  have w0:w.h.get u.n=some (.cells (zP H vW vS vB vK) (tag 30)):=by rw [hw];exact zM _ _ _ rfl (by omega)
  have hHw:HallAt no w.h w.n H vW vS vB vK:=hH.grow wg (by omega)
  have hRw:=hR.grow wg (by omega:u.n≤w.n)
  have c1:call Try.prog X n (.fn 60) [.agg (zP H vW vS vB vK)] w=.val (.int .i64 0) w:=WtA n (by omega) H ok vW vS vB vK w hHw (by omega)
  obtain ⟨x,ex,hx⟩:=YtA (N:=n) rfl (by omega) ok hHw hRw hl hl1 (by omega)
  rw [jFQ]
  simp (disch:=first|omega|with_unfolding_all rfl) only [K42,K42r0,Abs.W,reduceIte,Nat.reduceEqDiff,Nat.reduceAdd,Nat.reduceSub]
  rw [← hw]
  simp (disch:=first|omega|with_unfolding_all rfl) only [yVQ,K42r2,K42r4,res42,Abs.W,reduceIte,Nat.reduceEqDiff,Nat.reduceAdd,Nat.reduceSub,w0,kv,c1,ex,z0,Nat.zero_add]
  exact ⟨_,_,rfl,⟨wg,by omega,by omega,by omega,by omega⟩,rfl,x,rfl,hx⟩)
 exact ⟨x,hr.symm.trans e,hx⟩
def Die (d:Nat) (h:Heap):Prop:=∃ f,h.get d=some (.cells [.int .u64 f] (tag 74))
theorem WcJ {N d:Nat} {s:St} {r:ARes} (hr:call Try.prog X N (.fn 39) [.ptr d 0] s=r) (hN:1≤N) (hd:Die d s.h) (hlt:d<s.n) (hs:s.n+10≤far) :
  ∃ x t,r=.val (.int .u64 x) t∧Stir d s t 0∧Die d t.h∧0≤x∧x≤18446744073709551615:=by
 obtain ⟨n,rfl⟩:∃ n,N=n+1:=⟨N - 1,by omega⟩
 have hf:=hfar
 obtain ⟨f,hg⟩:=hd
 obtain ⟨v,t,e,st,⟨x,rfl,x0,x1⟩,hd'⟩:=yw (n:=n) (args:=[.ptr d 0]) (d:=d) (k:=0) (Q:=fun v=>∃ x,v=.int .u64 x∧0≤x∧x≤18446744073709551615) (R:=Die d) Try.func39 ⟨f,hg⟩ (fun u uh un um=>by
  rw [← uh] at hg
  rw [jIQ]
  simp (disch:=first|omega|with_unfolding_all rfl) only [res39,K39r0,K39r1,K39r2,K39r3,K39r4,K39r5,K39,Abs.W,reduceIte,Nat.reduceEqDiff,Nat.reduceAdd,Nat.reduceSub,hg,Nat.zero_add,wwA,zgJ,WjA,VpJ,jbJ,VgJ]
  refine ⟨_,_,rfl,(Stir.refl d u).put (by omega) _ (.inl rfl),rfl,⟨_,rfl,?_⟩,⟨_,zN _ _ _ _ rfl (by omega)⟩⟩
  exact jmJ _ _) (by omega)
 exact ⟨x,t,hr.symm.trans e,st,hd',x0,x1⟩
theorem we {N d:Nat} {n:Int} {s:St} {r:ARes} (hr:call Try.prog X N (.fn 25) [.ptr d 0,.int .i64 n] s=r) (hN:2≤N) (hd:Die d s.h) (hlt:d<s.n) (hs:s.n+100≤far) (hn:n≤4000000000) :
  ∃ x t,r=.val (.int .i64 x) t∧Stir d s t 0∧Die d t.h∧0≤x∧(x<n∨x=0):=by
 obtain ⟨m,rfl⟩:∃ m,N=m+1:=⟨N - 1,by omega⟩
 have hf:=hfar
 obtain ⟨v,t,e,st,⟨x,rfl,x0,x1⟩,hd'⟩:=yw (n:=m) (args:=[.ptr d 0,.int .i64 n]) (d:=d) (k:=0) (Q:=fun v=>∃ x,v=.int .i64 x∧0≤x∧(x<n∨x=0)) (R:=Die d) Try.func25 hd (fun u uh un um=>by
  rw [← uh] at hd
  rw [jRQ]
  by_cases hlow:n<2
  ·have e0:decide (n<2)=true:=by simpa using hlow
   simp (disch:=first|omega|with_unfolding_all rfl) only [JjJ,K25r0,K25r1,K25r2,K25r3,K25,Abs.W,reduceIte,Nat.reduceEqDiff,Nat.reduceAdd,Nat.reduceSub,e0]
   exact ⟨_,_,rfl,Stir.refl d u,rfl,⟨0,rfl,by omega,.inr rfl⟩,hd⟩
  ·have e0:decide (n<2)=false:=by simpa using hlow
   simp (disch:=first|omega|with_unfolding_all rfl) only [JjJ,K25r0,K25r1,K25r2,K25r3,K25,Abs.W,reduceIte,Nat.reduceEqDiff,Nat.reduceAdd,Nat.reduceSub,e0]
   generalize hc:call _ _ _ (.fn 39) _ _=r1
   obtain ⟨y,w,rfl,sw,dw,y0,y1⟩:=WcJ hc (by omega) hd (by omega) (by omega)
   have q0:0≤YpA y 2:=WiA _ _ y0
   have q2:0≤(YpA y 2).tmod n:=Int.tmod_nonneg _ q0
   have q3:(YpA y 2).tmod n<n:=Int.tmod_lt_of_pos _ (by omega)
   have w1:gR .u64 n=n:=ZrJ n (by omega)
   have w2:gR .i64 ((YpA y 2).tmod n)=(YpA y 2).tmod n:=zTA _ (by omega)
   have w3:∀ s,vZA s .u64 (YpA y 2) n=.val (.int .u64 ((YpA y 2).tmod n)) s:=fun s=>wlJ s _ _ _ (by omega)
   simp (disch:=first|omega|with_unfolding_all rfl) only [JjJ,K25r0,K25r1,K25r2,K25r3,K25,Abs.W,reduceIte,Nat.reduceEqDiff,Nat.reduceAdd,Nat.reduceSub,wwA,zgJ,WjA,VHJ,w1,w2,w3]
   exact ⟨_,_,rfl,sw,rfl,⟨_,rfl,q2,.inl q3⟩,dw⟩) (by omega)
 exact ⟨x,t,hr.symm.trans e,st,hd',x0,x1⟩
theorem JS {N d:Nat} {lo hi:Int} {s:St} {r:ARes} (hr:call Try.prog X N (.fn 35) [.ptr d 0,.int .i64 lo,.int .i64 hi] s=r) (hN:3≤N) (hd:Die d s.h) (hlt:d<s.n) (hs:s.n+200≤far)
  (h0 : -100000000≤lo) (h1:lo≤100000000) (h2 : -100000000≤hi) (h3:hi≤100000000) :
  ∃ x t,r=.val (.int .i64 x) t∧Stir d s t 0∧Die d t.h∧lo≤x∧(x≤hi∨x=lo):=by
 obtain ⟨m,rfl⟩:∃ m,N=m+1:=⟨N - 1,by omega⟩
 have hf:=hfar
 obtain ⟨v,t,e,st,⟨x,rfl,x0,x1⟩,hd'⟩:=yw (n:=m) (args:=[.ptr d 0,.int .i64 lo,.int .i64 hi]) (d:=d) (k:=0) (Q:=fun v=>∃ x,v=.int .i64 x∧lo≤x∧(x≤hi∨x=lo)) (R:=Die d) Try.func35 hd (fun u uh un um=>by
  rw [← uh] at hd
  have a1:∀ s,yK s .i64 hi lo=.val (.int .i64 (hi - lo)) s:=fun s=>je s _ _ (by omega)
  have a2:∀ s,jI s .i64 (hi - lo) 1=.val (.int .i64 (hi - lo+1)) s:=fun s=>za s _ _ (by omega)
  rw [jMQ]
  simp (disch:=first|omega|with_unfolding_all rfl) only [joQ,K35r0,K35r1,K35,Abs.W,reduceIte,Nat.reduceEqDiff,Nat.reduceAdd,Nat.reduceSub,a1,a2]
  generalize hc:call _ _ _ (.fn 25) _ _=r1
  obtain ⟨y,w,rfl,sw,dw,y0,y1⟩:=we hc (by omega) hd (by omega) (by omega) (by omega)
  have a3:∀ s,jI s .i64 lo y=.val (.int .i64 (lo+y)) s:=fun s=>za s _ _ (by omega)
  simp (disch:=first|omega|with_unfolding_all rfl) only [joQ,K35r0,K35r1,K35,Abs.W,reduceIte,Nat.reduceEqDiff,Nat.reduceAdd,Nat.reduceSub,a3]
  exact ⟨_,_,rfl,sw,rfl,⟨_,rfl,by omega,by omega⟩,dw⟩) (by omega)
 exact ⟨x,t,hr.symm.trans e,st,hd',x0,x1⟩
theorem zLJ:∀ {l:List Int} {i:Nat},i<l.length→∃ x ∈ l,nth (l.map fun x=>AV.int .i64 x) i=.int .i64 x
 | [],i,h=>by simp at h
 | a::l,0,_=>⟨a,List.mem_cons_self ..,rfl⟩
 | a::l,i+1,h=>by
  obtain ⟨x,hx,e⟩:=zLJ (l:=l) (i:=i) (by simpa using h)
  exact ⟨x,List.mem_cons_of_mem _ hx,e⟩
theorem VBA {N d b:Nat} {k sz:Nat} (l:List Int) {s:St} {r:ARes} (hr:call Try.prog X N (.fn 34) [.ptr d 0,.slice b 0 k k false] s=r) (hN:3≤N) (hd:Die d s.h) (hlt:d<s.n) (hs:s.n+200≤far)
  (hb:s.h.get b=some (.cells (l.map fun x=>AV.int .i64 x) sz)) (hbn:b<s.n) (hbd:b≠d) (hl:l.length=k) (h0:0<k) (hk:k≤1000) :
  ∃ x t,r=.val (.int .i64 x) t∧Stir d s t 0∧Die d t.h∧x ∈ l:=by
 obtain ⟨m,rfl⟩:∃ m,N=m+1:=⟨N - 1,by omega⟩
 have hf:=hfar
 obtain ⟨v,t,e,st,⟨x,rfl,hx⟩,hd'⟩:=yw (n:=m) (args:=[.ptr d 0,.slice b 0 k k false]) (d:=d) (k:=0) (Q:=fun v=>∃ x,v=.int .i64 x∧x ∈ l) (R:=Die d) Try.func34 hd (fun u uh un um=>by
  rw [← uh] at hd hb
  have e0:decide ((k:Int)=0)=false:=by simp;omega
  rw [jNQ]
  simp (disch:=first|omega|with_unfolding_all rfl) only [jpQ,K34r0,K34r1,K34r2,K34r3,K34,Abs.W,reduceIte,Nat.reduceEqDiff,Nat.reduceAdd,Nat.reduceSub,e0]
  generalize hc:call _ _ _ (.fn 25) _ _=r1
  obtain ⟨y,w,rfl,sw,dw,y0,y1⟩:=we hc (by omega) hd (by omega) (by omega) (by omega)
  obtain ⟨i,rfl⟩:∃ i:Nat,y=i:=⟨y.toNat,by omega⟩
  have hi:i<k:=by omega
  obtain ⟨x,hx,hn⟩:=zLJ (l:=l) (i:=i) (by omega)
  have hg:w.h.get b=some (.cells (l.map fun x=>AV.int .i64 x) sz):=by rw [sw.same b (by omega) hbd];exact hb
  simp (disch:=first|omega|with_unfolding_all rfl) only [jpQ,K34r0,K34r1,K34r2,K34r3,K34,Abs.W,reduceIte,Nat.reduceEqDiff,Nat.reduceAdd,Nat.reduceSub,jq _ _ _ _ _ _ _ _ hi,Nat.mul_one,Nat.zero_add,hg,hn]
  exact ⟨_,_,rfl,sw,rfl,⟨x,rfl,hx⟩,dw⟩) (by omega)
 exact ⟨x,t,hr.symm.trans e,st,hd',hx⟩
theorem WWJ {N d:Nat} {lo hi:Int} {s:St} {r:ARes} (hr:call Try.prog X N (.fn 41) [.ptr d 0,.int .i64 lo,.int .i64 hi] s=r) (hN:4≤N) (hd:Die d s.h) (hlt:d<s.n) (hs:s.n+300≤far)
  (h0 : -1000000≤lo) (h1:lo≤hi) (h2:hi≤1000000) :
  ∃ a b t,r=.val (.agg [.int .i64 a,.int .i64 b]) t∧Stir d s t 2∧Die d t.h∧lo≤a∧a≤b∧b≤hi:=by
 obtain ⟨m,rfl⟩:∃ m,N=m+1:=⟨N - 1,by omega⟩
 have hf:=hfar
 obtain ⟨v,t,e,st,⟨a,b,rfl,x0,x1,x2⟩,hd'⟩:=yw (n:=m) (args:=[.ptr d 0,.int .i64 lo,.int .i64 hi]) (d:=d) (k:=2) (Q:=fun v=>∃ a b,v=.agg [.int .i64 a,.int .i64 b]∧lo≤a∧a≤b∧b≤hi) (R:=Die d) Try.func41 hd (fun u uh un um=>by
  rw [← uh] at hd
  have sh:yH Try.prog 44=some (some 2):=by kernel_rfl
  rw [jGQ]
  simp (disch:=first|omega|with_unfolding_all rfl) only [wCJ,K41r0,K41r1,K41r2,K41r3,K41,Abs.W,reduceIte,Nat.reduceEqDiff,Nat.reduceAdd,Nat.reduceSub]
  generalize hc:call _ _ _ (.fn 35) _ _=r1
  obtain ⟨x,w,rfl,sw,dw,y0,y1⟩:=JS hc (by omega) (by obtain ⟨f,hg⟩:=hd;exact ⟨f,by rw [zH _ _ _ (by omega)];exact hg⟩) (by simp only [zW];omega) (by simp only [zW];omega) (by omega) (by omega) (by omega) (by omega)
  have wn:=sw.n
  have wl:=sw.le
  simp only [zW] at wn wl
  have a1:∀ s,jI s .i64 x 4=.val (.int .i64 (x+4)) s:=fun s=>za s _ _ (by omega)
  simp (disch:=first|omega|with_unfolding_all rfl) only [wCJ,K41r0,K41r1,K41r2,K41r3,K41,Abs.W,reduceIte,Nat.reduceEqDiff,Nat.reduceAdd,Nat.reduceSub,a1,wC,wF,vj,YJJ]
  generalize hc2:call _ _ _ (.fn 34) _ _=r2
  obtain ⟨y,w2,rfl,sw2,dw2,ym⟩:=VBA [x,min hi (x+4),hi] hc2 (by omega) (by obtain ⟨f,hg⟩:=dw;exact ⟨f,by rw [zH _ _ _ (by omega)];exact hg⟩) (by simp only [zW];omega) (by simp only [zW];omega) (zM _ _ _ rfl (by omega)) (by simp only [zW];omega) (by omega) rfl (by omega) (by omega)
  have wn2:=sw2.n
  have wl2:=sw2.le
  simp only [zW] at wn2 wl2
  have ym':x≤y∧y≤hi:=by
   simp only [List.mem_cons,List.not_mem_nil,or_false] at ym
   omega
  simp (disch:=first|omega|with_unfolding_all rfl) only [wCJ,K41r0,K41r1,K41r2,K41r3,K41,Abs.W,reduceIte,Nat.reduceEqDiff,Nat.reduceAdd,Nat.reduceSub]
  generalize hc3:call _ _ _ (.fn 35) _ _=r3
  obtain ⟨z,w3,rfl,sw3,dw3,z0,z1⟩:=JS hc3 (by omega) dw2 (by omega) (by omega) (by omega) (by omega) (by omega) (by omega)
  have wn3:=sw3.n
  have wl3:=sw3.le
  have g:w3.h.get u.n=some (.cells [.int .i64 0,.int .i64 0] (tag 44)):=by
   rw [sw3.same _ (by omega) (by omega),sw2.same _ (by simp only [zW];omega) (by omega),zH _ _ _ (by omega),sw.same _ (by simp only [zW];omega) (by omega)]
   exact zM _ _ _ rfl (by omega)
  simp (disch:=first|omega|with_unfolding_all rfl) only [wCJ,K41r0,K41r1,K41r2,K41r3,K41,Abs.W,reduceIte,Nat.reduceEqDiff,Nat.reduceAdd,Nat.reduceSub,g]
  have S1:Stir d u w3 2:=((((((Stir.refl d u).new _).trans sw).new _).trans sw2).trans sw3)
  refine ⟨_,_,yqJ _ _ _ _ sh ?_,S1.put (by omega) _ (.inr (Nat.le_refl _)),rfl,⟨x,z,rfl,by omega,by omega,by omega⟩,?_⟩
  ·simp (disch:=first|omega|with_unfolding_all rfl) only [Abs.W,reduceIte,Nat.reduceEqDiff,Nat.reduceAdd,Nat.reduceSub]
  ·obtain ⟨f,hg⟩:=dw3
   exact ⟨f,by rw [zL _ _ _ _ (by omega)];exact hg⟩) (by omega)
 exact ⟨a,b,t,hr.symm.trans e,st,hd',x0,x1,x2⟩
end Go.Proofs.Ytoklbkgcclkejaa.walk
