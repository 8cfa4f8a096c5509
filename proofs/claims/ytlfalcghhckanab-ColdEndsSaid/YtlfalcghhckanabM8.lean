/- What a lot truly has lost, by the statements' own reference. -/
import Derived.Test.YtlfalcghhckanabM7
import Derived.Test.YtlfalcghhckanabWalkAll
set_option linter.unusedSimpArgs false
set_option maxHeartbeats 16000000
set_option linter.unusedVariables false
set_option maxRecDepth 10000
namespace Go.Proofs.Ytlfalcghhckanab.walk
open Go.Abs Go.Proofs.Ytlfalcghhckanab.code
structure Truth where
 (ice:List Int) (melts cold warm:List (List Int)) (hall:List Int)
structure Tab (h:Heap) (n:Nat) (tab:List (List Int)) (v:AV):Prop where
 ok:∀ t,okA (.val v t)=.val v t
 at_:∀ i (hi:i<tab.length),∃ b p c sz vr,b<n∧(∀ s,ixsA 1 s v (.int .i64 i)=.val (.ptr b p) s)∧h.get b=some (.cells c sz)∧nth c p=vr∧(∀ t,okA (.val vr t)=.val vr t)∧RowsAt h n 1 (ints tab[i]) vr
theorem Tab.grow {h h':Heap} {n n':Nat} {tab:List (List Int)} {v:AV} (r:Tab h n tab v) (hh:∀ b,b<n→h'.get b=h.get b) (hn:n≤n'):Tab h' n' tab v :=
 ⟨r.ok,fun i hi=>by
  obtain ⟨b,p,c,sz,vr,h1,h2,h3,h4,h5,h6⟩:=r.at_ i hi
  exact ⟨b,p,c,sz,vr,by omega,h2,by rw [hh b h1];exact h3,h4,h5,h6.grow hh hn⟩⟩
structure TruthAt (h:Heap) (n:Nat) (T:Truth) (va vb vc vd ve:AV):Prop where
 ice:RowsAt h n 1 (ints T.ice) va
 melts:Tab h n T.melts vb
 cold:Tab h n T.cold vc
 warm:Tab h n T.warm vd
 hall:RowsAt h n 1 (ints T.hall) ve
theorem TruthAt.grow {h h':Heap} {n n':Nat} {T:Truth} {va vb vc vd ve:AV} (r:TruthAt h n T va vb vc vd ve) (hh:∀ b,b<n→h'.get b=h.get b) (hn:n≤n'):TruthAt h' n' T va vb vc vd ve :=
 ⟨r.ice.grow hh hn,r.melts.grow hh hn,r.cold.grow hh hn,r.warm.grow hh hn,r.hall.grow hh hn⟩
structure TabIn (tab:List (List Int)) (k hours:Nat) (lo hi:Nat→Int):Prop where
 len:tab.length=k
 row:∀ b (h:b<tab.length),(tab[b]).length=hours∧∀ x ∈ tab[b],lo b≤x∧x≤hi b
structure Truth.In (T:Truth) (c:Cellar) (hours:Nat):Prop where
 il:T.ice.length=c.boxes.length
 ice:∀ b (h:b<T.ice.length),(c.box b).il≤T.ice[b]∧T.ice[b]≤(c.box b).ih
 melts:TabIn T.melts c.boxes.length hours (fun b=>(c.box b).ml) (fun b=>(c.box b).mh)
 cold:TabIn T.cold c.boxes.length hours (fun b=>(c.box b).cl) (fun b=>(c.box b).ch)
 warm:TabIn T.warm c.boxes.length hours (fun b=>(c.box b).wl) (fun b=>(c.box b).wh)
 hl:T.hall.length=hours
 hall:∀ x ∈ T.hall,c.hl≤x∧x≤c.hh
def Truth.fall (T:Truth) (c:Cellar) (b k:Nat):Int:=fallN (c.box b).room b c.fills (fun h=>(T.melts.getD b []).getD h 0) k 0 (T.ice.getD b 0)
def Truth.around (T:Truth) (c:Cellar) (ts:List Stay) (h:Nat):Int:=match ts.find? (hit h) with
 | none=>T.hall.getD h 0
 | some t=>if 0<T.fall c t.box.toNat h then (T.cold.getD t.box.toNat []).getD h 0 else (T.warm.getD t.box.toNat []).getD h 0
def sumN (f:Nat→Int):Nat→Int
 | 0=>0
 | m+1=>sumN f m+f m
theorem sumN_range {f:Nat→Int} (hf:∀ i,0≤f i∧f i≤1000):∀ m:Nat,0≤sumN f m∧sumN f m≤1000 * (m:Int)
 | 0=>⟨Int.le_refl _,by simp [sumN]⟩
 | m+1=>by
  have h1:=sumN_range hf m
  have h2:=hf m
  unfold sumN
  omega
def Truth.lost (T:Truth) (c:Cellar) (l:Lot) (m:Nat):Int:=sumN (fun i=>lossFrom (T.around c l.stays (l.born+i).toNat) 0 c.rates) m
theorem getD_eq {α:Type} {l:List α} {i:Nat} (d:α) (h:i<l.length):l.getD i d=l[i]:=by rw [List.getD_eq_getElem?_getD,List.getElem?_eq_getElem h];rfl
theorem fallT_ok (N:Nat) (hN:1≤N) (c:Cellar) (ok:c.Ok) (T:Truth) (hours:Nat) (tin:T.In c hours) (v1 v2 v3 vm:AV) (b k:Nat) (box ice hour:Int) (s:St) (hC:CellarIn s.h s.n c v1 v2 v3) (hb:b<c.boxes.length) (hM:RowsAt s.h s.n 1 (ints (T.melts[b]'(by rw [tin.melts.len];exact hb))) vm) (hbox:box=b) (hice:ice=T.ice.getD b 0) (hhour:hour=k) (hk:k≤hours) (hh:hours≤1000) (hs:s.n+200000≤far) :
  call Try.prog X N (.fn 18) [.agg [.int .i64 c.hl,.int .i64 c.hh,v1,v2,v3],.int .i64 box,.int .i64 ice,vm,.int .i64 hour] s=.val (.int .i64 (T.fall c b k)) s:=by
 subst hhour
 have hbm:b<T.melts.length:=by rw [tin.melts.len];exact hb
 have hbi:b<T.ice.length:=by rw [tin.il];exact hb
 have okb:=ok.bok _ (List.getElem_mem hb)
 rw [← c.box_eq hb] at okb
 have hi:=tin.ice b hbi
 rw [getD_eq _ hbi] at hice
 have hr:=tin.melts.row b hbm
 have:=Fall_ok N hN c ok T.melts[b] 0 v1 v2 v3 vm b k box ice s hC hM hb hbox (by have:=okb.i0;have:=okb.i2;have:=okb.r1;omega) (by omega) (fun x hx=>by have:=hr.2 x hx;have:=okb.m0;have:=okb.m2;omega) (by omega) hs
 rw [this]
 unfold Truth.fall
 rw [getD_eq _ hbm,getD_eq _ hbi,hice]
theorem truly_loop (N:Nat) (hN:2≤N) (cx:Ctx) (c:Cellar) (ok:c.Ok) (l:Lot) (okl:l.Ok c.boxes.length) (T:Truth) (hours:Nat) (tin:T.In c hours) (hh:hours≤1000) (v1 v2 v3 v4 va vb vc vd ve:AV) (p4 p5 p6 z4 z5 z6 m0:Nat) (s:St) (hs:s.n+300000≤far)
  (hC:CellarIn s.h s.n c v1 v2 v3) (hR:RowsAt s.h s.n 3 (l.stays.map Stay.cells) v4) (hT:TruthAt s.h s.n T va vb vc vd ve) (hm0:l.born+m0≤hours)
  (g4:s.h.get p4=some (.cells [.int .i64 c.hl,.int .i64 c.hh,v1,v2,v3] z4)) (g5:s.h.get p5=some (.cells [.int .i64 l.born,.int .i64 l.keeps,v4] z5)) (g6:s.h.get p6=some (.cells [va,vb,vc,vd,ve] z6)) :
  ∀ (m i fuel:Nat) (L:Env),i+m=m0→m<fuel→L.find 3=.int .i64 (l.born+m0)→L.find 4=.ptr p4 0→L.find 5=.ptr p5 0→L.find 6=.ptr p6 0→L.find 9=.int .i64 (T.lost c l i)→L.find 10=.int .i64 (l.born+i) →
   ∃ L',loopN K13l0 fuel (call Try.prog X N) cx L [] s=.done (.exit 0) L' [] s∧L'.find 9=.int .i64 (T.lost c l m0)
 | m,i,0,L,hm,hf,l3,l4,l5,l6,l9,l10=>by omega
 | m,i,fuel+1,L,hm,hf,l3,l4,l5,l6,l9,l10=>by
  have hff:far=1000000000:=rfl
  have b0:=okl.b0
  by_cases hi:i<m0
  ·obtain ⟨m',rfl⟩:∃ m',m=m'+1:=⟨m - 1,by omega⟩
   have e0:decide (l.born+(i:Int)<l.born+(m0:Int))=true:=decide_eq_true (by omega)
   obtain ⟨h,hh0⟩:∃ h:Nat,l.born+(i:Int)=h:=⟨(l.born+i).toNat,by omega⟩
   have hlt:h<hours:=by omega
   have eIn:=In_ok N hN l.stays l.born l.keeps h v4 s (by omega) hR (fun t ht=>by obtain ⟨_,_,x1,x2,x3⟩:=okl.sok t ht;omega) (by have:=okl.s;omega)
   have rng:∀ i,0≤lossFrom (T.around c l.stays (l.born+(i:Nat)).toNat) 0 c.rates∧lossFrom (T.around c l.stays (l.born+(i:Nat)).toNat) 0 c.rates≤1000:=fun i=>lossFrom_range _ c.rates 0 ok.rok ⟨Int.le_refl _,by omega⟩
   have hsum:=sumN_range rng i
   have hnext:T.lost c l (i+1)=T.lost c l i+lossFrom (T.around c l.stays h) 0 c.rates:=by
    show sumN _ i+lossFrom (T.around c l.stays (l.born+i).toNat) 0 c.rates=_
    rw [hh0,Int.toNat_natCast]
    rfl
   have hsum':0≤T.lost c l i∧T.lost c l i≤1000 * (i:Int):=hsum
   have hr1:=lossFrom_range (T.around c l.stays h) c.rates 0 ok.rok ⟨Int.le_refl _,by omega⟩
   have a1:∀ s,aAdd s .i64 (T.lost c l i) (lossFrom (T.around c l.stays h) 0 c.rates)=.val (.int .i64 (T.lost c l (i+1))) s:=fun s=>by rw [hnext];exact aAdd_i64 s _ _ (by omega)
   have a2:∀ s,aAdd s .i64 (h:Int) 1=.val (.int .i64 (l.born+((i+1:Nat):Int))) s:=fun s=>by rw [aAdd_i64 s _ _ (by omega)];congr 2;omega
   have eL:=LossR_ok N (by omega) c ok v1 v2 v3 (T.around c l.stays h) s hC.at_.r (by omega)
   obtain ⟨bh,ph,ch,szh,hbh,hxh,hgh,hnh⟩:=ints_at hT.hall (i:=h) (by rw [tin.hl];exact hlt)
   have hallh:T.hall.getD h 0=T.hall[h]'(by rw [tin.hl];exact hlt):=getD_eq _ _
   rw [← hallh] at hnh
   have oke:∀ t,okA (.val ve t)=.val ve t:=fun t=>okA_ne hT.hall.ne
   have oka:∀ t,okA (.val va t)=.val va t:=fun t=>okA_ne hT.ice.ne
   have okb:=hT.melts.ok
   have okc:=hT.cold.ok
   have okd:=hT.warm.ok
   rw [hh0] at e0 l10
   have go:∀ L2:Env,L2.find 3=.int .i64 (l.born+m0)→L2.find 4=.ptr p4 0→L2.find 5=.ptr p5 0→L2.find 6=.ptr p6 0→L2.find 9=.int .i64 (T.lost c l (i+1))→L2.find 10=.int .i64 (l.born+((i+1:Nat):Int)) →
     ∃ L',loopN K13l0 fuel (call Try.prog X N) cx L2 [] s=.done (.exit 0) L' [] s∧L'.find 9=.int .i64 (T.lost c l m0):=fun L2=>truly_loop N hN cx c ok l okl T hours tin hh v1 v2 v3 v4 va vb vc vd ve p4 p5 p6 z4 z5 z6 m0 s hs hC hR hT hm0 g4 g5 g6 m' (i+1) fuel L2 (by omega) (by omega)
   unfold inBox at eIn
   rw [loopN_succ]
   cases hfnd:l.stays.find? (hit h) with
   | none =>
    have hw:T.around c l.stays h=T.hall.getD h 0:=by unfold Truth.around;rw [hfnd]
    rw [hfnd] at eIn
    rw [hw] at a1 eL
    have d1:decide ((0:Int) ≤ -1)=false:=rfl
    simp (disch:=first|omega|(with_unfolding_all exact rfl)|(simp only[new_n,put_n,new_m];omega)|(refine put_m_le ?_;simp only[new_m];omega)) only [res13,K13r0,K13r1,K13r2,K13r3,K13r4,K13r5,K13r6,K13r7,K13r8,K13r9,K13r10,K13r11,K13l0,K13r12,K13,Abs.W,reduceIte,Nat.reduceEqDiff,Nat.reduceAdd,decide_true,decide_false,kLoop_def,Nat.reduceSub,List.cons_append,List.nil_append,List.append_nil,List.length_cons,List.length_nil,Env.find_set,l3,l4,l5,l6,l9,l10,e0,g4,g5,g6,eIn,oke,hxh,hgh,hnh,d1,eL,a1,a2,Nat.zero_add]
    refine go _ ?_ ?_ ?_ ?_ ?_ ?_<;>simp only [Env.find_set,l3,l4,l5,l6,reduceIte,Nat.reduceEqDiff]
   | some t =>
    have ht:=okl.sok t (List.mem_of_find?_eq_some hfnd)
    obtain ⟨b,hb⟩:∃ b:Nat,t.box=b:=⟨t.box.toNat,by have:=ht.b0;omega⟩
    have hblt:b<c.boxes.length:=by have:=ht.b1;omega
    rw [hfnd] at eIn
    simp only at eIn
    rw [hb] at eIn
    have d1:decide ((0:Int)≤(b:Int))=true:=decide_eq_true (by omega)
    have hbi:b<T.ice.length:=by rw [tin.il];exact hblt
    have hbm:b<T.melts.length:=by rw [tin.melts.len];exact hblt
    have hbc:b<T.cold.length:=by rw [tin.cold.len];exact hblt
    have hbw:b<T.warm.length:=by rw [tin.warm.len];exact hblt
    obtain ⟨bi,pi,ci,szi,hi1,hi2,hi3,hi4⟩:=ints_at hT.ice hbi
    obtain ⟨bm,pm,cm,szm,vrm,hm1,hm2,hm3,hm4,hm5,hm6⟩:=hT.melts.at_ b hbm
    obtain ⟨bc,pc,cc,szc,vrc,hc1,hc2,hc3,hc4,hc5,hc6⟩:=hT.cold.at_ b hbc
    obtain ⟨bw,pw,cw,szw,vrw,hw1,hw2,hw3,hw4,hw5,hw6⟩:=hT.warm.at_ b hbw
    have lc:h<(T.cold[b]).length:=by rw [(tin.cold.row b hbc).1];exact hlt
    have lw:h<(T.warm[b]).length:=by rw [(tin.warm.row b hbw).1];exact hlt
    obtain ⟨bc2,pc2,cc2,szc2,hc21,hc22,hc23,hc24⟩:=ints_at hc6 lc
    obtain ⟨bw2,pw2,cw2,szw2,hw21,hw22,hw23,hw24⟩:=ints_at hw6 lw
    have eF:=fallT_ok N (by omega) c ok T hours tin v1 v2 v3 vrm b h b (T.ice[b]) h s hC hblt hm6 rfl (getD_eq _ hbi).symm rfl (by omega) hh (by omega)
    have hcold:(T.cold.getD b []).getD h 0=(T.cold[b])[h]:=by rw [getD_eq [] hbc,getD_eq 0 lc]
    have hwarm:(T.warm.getD b []).getD h 0=(T.warm[b])[h]:=by rw [getD_eq [] hbw,getD_eq 0 lw]
    by_cases hf0:0<T.fall c b h
    ·have hw:T.around c l.stays h=(T.cold[b])[h]:=by
      unfold Truth.around;rw [hfnd];simp only [hb,Int.toNat_natCast];rw [if_pos hf0,hcold]
     rw [hw] at a1 eL
     have d2:decide ((0:Int)<T.fall c b h)=true:=decide_eq_true hf0
     simp (disch:=first|omega|(with_unfolding_all exact rfl)|(simp only[new_n,put_n,new_m];omega)|(refine put_m_le ?_;simp only[new_m];omega)) only [res13,K13r0,K13r1,K13r2,K13r3,K13r4,K13r5,K13r6,K13r7,K13r8,K13r9,K13r10,K13r11,K13l0,K13r12,K13,Abs.W,reduceIte,Nat.reduceEqDiff,Nat.reduceAdd,decide_true,decide_false,kLoop_def,Nat.reduceSub,List.cons_append,List.nil_append,List.append_nil,List.length_cons,List.length_nil,Env.find_set,l3,l4,l5,l6,l9,l10,e0,g4,g5,g6,eIn,oke,hxh,hgh,hnh,d1,oka,okb,okc,okd,hi2,hi3,hi4,hm2,hm3,hm4,hm5,hc2,hc3,hc4,hc5,hw2,hw3,hw4,hw5,hc22,hc23,hc24,hw22,hw23,hw24,eF,d2,eL,a1,a2,endO_nil,regD_ok,Nat.zero_add]
     refine go _ ?_ ?_ ?_ ?_ ?_ ?_<;>simp only [Env.find_set,l3,l4,l5,l6,reduceIte,Nat.reduceEqDiff]
    ·have hw:T.around c l.stays h=(T.warm[b])[h]:=by
      unfold Truth.around;rw [hfnd];simp only [hb,Int.toNat_natCast];rw [if_neg hf0,hwarm]
     rw [hw] at a1 eL
     have d2:decide ((0:Int)<T.fall c b h)=false:=decide_eq_false hf0
     simp (disch:=first|omega|(with_unfolding_all exact rfl)|(simp only[new_n,put_n,new_m];omega)|(refine put_m_le ?_;simp only[new_m];omega)) only [res13,K13r0,K13r1,K13r2,K13r3,K13r4,K13r5,K13r6,K13r7,K13r8,K13r9,K13r10,K13r11,K13l0,K13r12,K13,Abs.W,reduceIte,Nat.reduceEqDiff,Nat.reduceAdd,decide_true,decide_false,kLoop_def,Nat.reduceSub,List.cons_append,List.nil_append,List.append_nil,List.length_cons,List.length_nil,Env.find_set,l3,l4,l5,l6,l9,l10,e0,g4,g5,g6,eIn,oke,hxh,hgh,hnh,d1,oka,okb,okc,okd,hi2,hi3,hi4,hm2,hm3,hm4,hm5,hw2,hw3,hw4,hw5,hw22,hw23,hw24,eF,d2,eL,a1,a2,endO_nil,regD_ok,Nat.zero_add]
     refine go _ ?_ ?_ ?_ ?_ ?_ ?_<;>simp only [Env.find_set,l3,l4,l5,l6,reduceIte,Nat.reduceEqDiff]
  ·obtain rfl:i=m0:=by omega
   have e0:decide (l.born+(i:Int)<l.born+(i:Int))=false:=by simp
   rw [loopN_succ]
   simp (disch:=first|omega|(with_unfolding_all exact rfl)|(simp only[new_n,put_n,new_m];omega)|(refine put_m_le ?_;simp only[new_m];omega)) only [res13,K13r0,K13r1,K13r2,K13r3,K13r4,K13r5,K13r6,K13r7,K13r8,K13r9,K13r10,K13r11,K13l0,K13r12,K13,Abs.W,reduceIte,Nat.reduceEqDiff,Nat.reduceAdd,decide_true,decide_false,kLoop_def,Nat.reduceSub,List.cons_append,List.nil_append,List.append_nil,List.length_cons,List.length_nil,Env.find_set,l3,l4,l5,l6,l9,l10,e0]
   exact ⟨_,rfl,by simp only [Env.find_set,l9,reduceIte,Nat.reduceEqDiff]⟩
theorem truly_ok (N:Nat) (hN:3≤N) (c:Cellar) (ok:c.Ok) (l:Lot) (okl:l.Ok c.boxes.length) (T:Truth) (hours:Nat) (tin:T.In c hours) (hh:hours≤1000) (v1 v2 v3 v4 va vb vc vd ve:AV) (m0:Nat) (hour:Int) (s:St) (hs:s.n+400000≤far)
  (hC:CellarIn s.h s.n c v1 v2 v3) (hR:RowsAt s.h s.n 3 (l.stays.map Stay.cells) v4) (hT:TruthAt s.h s.n T va vb vc vd ve) (hhour:hour=l.born+m0) (hm0:l.born+m0≤hours) :
  call Try.prog X N (.fn 13) [.agg [.int .i64 c.hl,.int .i64 c.hh,v1,v2,v3],.agg [.int .i64 l.born,.int .i64 l.keeps,v4],.agg [va,vb,vc,vd,ve],.int .i64 hour] s=.val (.int .i64 (T.lost c l m0)) s:=by
 obtain ⟨n,rfl⟩:∃ n,N=n+1:=⟨N - 1,by omega⟩
 subst hhour
 refine call_plain' Try.func13 (fun u uh un um=>?_) rfl
 have hff:far=1000000000:=rfl
 rw [← uh,← un] at hC hR hT
 obtain ⟨w,hw⟩:∃ w:St,w=((u.new (.cells [.int .i64 c.hl,.int .i64 c.hh,v1,v2,v3] (tag 31))).new (.cells [.int .i64 l.born,.int .i64 l.keeps,v4] (tag 35))).new (.cells [va,vb,vc,vd,ve] (tag 41)):=⟨_,rfl⟩
 have wn:w.n=u.n+3:=by rw [hw];rfl
 have wm:w.m=far:=by rw [hw];exact um
 have wg:∀ c,c<u.n→w.h.get c=u.h.get c:=fun c hc=>by rw [hw,get_new_ne _ _ _ (by simp only [new_n];omega),get_new_ne _ _ _ (by simp only [new_n];omega),get_new_ne _ _ _ (by omega)]
 have w0:w.h.get u.n=some (.cells [.int .i64 c.hl,.int .i64 c.hh,v1,v2,v3] (tag 31)):=by
  rw [hw,get_new_ne _ _ _ (by simp only [new_n];omega),get_new_ne _ _ _ (by simp only [new_n];omega)];exact get_new_eq _ _ _ rfl (by omega)
 have w1:w.h.get (u.n+1)=some (.cells [.int .i64 l.born,.int .i64 l.keeps,v4] (tag 35)):=by
  rw [hw,get_new_ne _ _ _ (by simp only [new_n];omega)];exact get_new_eq _ _ _ rfl (by simp only [new_n];omega)
 have w2:w.h.get (u.n+2)=some (.cells [va,vb,vc,vd,ve] (tag 41)):=by rw [hw];exact get_new_eq _ _ _ rfl (by simp only [new_n];omega)
 have nn1:∀ o,(u.new o).n=u.n+1:=fun _=>rfl
 have nn2:∀ o1 o2,((u.new o1).new o2).n=u.n+2:=fun _ _=>rfl
 rw [enter13]
 simp (disch:=first|omega|(with_unfolding_all exact rfl)|(simp only[new_n,put_n,new_m];omega)|(refine put_m_le ?_;simp only[new_m];omega)) only [K13,K13r0,Abs.W,reduceIte,Nat.reduceEqDiff,Nat.reduceAdd,decide_true,decide_false,kLoop_def,Nat.reduceSub,List.cons_append,List.nil_append,List.append_nil,List.length_cons,List.length_nil,nn1,nn2]
 rw [← hw]
 simp (disch:=first|omega|(with_unfolding_all exact rfl)|(simp only[new_n,put_n,new_m];omega)|(refine put_m_le ?_;simp only[new_m];omega)) only [K13r1,K13r2,Abs.W,reduceIte,Nat.reduceEqDiff,Nat.reduceAdd,decide_true,decide_false,kLoop_def,Nat.reduceSub,List.cons_append,List.nil_append,List.append_nil,List.length_cons,List.length_nil,Env.find_set,w1,Nat.zero_add]
 generalize hLe:Env.cons 0 _ _=L0
 obtain ⟨L',h1,h2⟩:=truly_loop n (by omega) ⟨13,none,Try.f13.ntmps,X 13⟩ c ok l okl T hours tin hh v1 v2 v3 v4 va vb vc vd ve u.n (u.n+1) (u.n+2) _ _ _ m0 w (by omega) (hC.grow wg (by omega)) (hR.grow wg (by omega)) (hT.grow wg (by omega)) hm0 w0 w1 w2 m0 0 rounds L0 (by omega) (by unfold rounds;have:=okl.b0;omega) (by rw [← hLe];simp only [find_cons,reduceIte,Nat.reduceEqDiff]) (by rw [← hLe];simp only [find_cons,reduceIte,Nat.reduceEqDiff]) (by rw [← hLe];simp only [find_cons,reduceIte,Nat.reduceEqDiff]) (by rw [← hLe];simp only [find_cons,reduceIte,Nat.reduceEqDiff]) (by rw [← hLe];simp only [find_cons,reduceIte,Nat.reduceEqDiff];rfl) (by rw [← hLe];simp only [find_cons,reduceIte,Nat.reduceEqDiff];congr 1;omega)
 simp (disch:=first|omega|(with_unfolding_all exact rfl)|(simp only[new_n,put_n,new_m];omega)|(refine put_m_le ?_;simp only[new_m];omega)) only [K13r12,res13,Abs.W,reduceIte,Nat.reduceEqDiff,Nat.reduceAdd,decide_true,decide_false,kLoop_def,Nat.reduceSub,List.cons_append,List.nil_append,List.append_nil,List.length_cons,List.length_nil,Env.find_set,h1,h2]
 exact ⟨_,rfl,by omega⟩
end Go.Proofs.Ytlfalcghhckanab.walk
set_option maxRecDepth 10000
namespace Go.Abs
structure IsAt (h:Heap) (n b w tg:Nat) (rows:List (List AV)) (v:AV):Prop where
 wide:∀ r ∈ rows,r.length=w
 is:(rows=[]∧v=.nilslice)∨(rows≠[]∧b<n∧v=.slice b 0 rows.length rows.length true∧h.get b=some (.cells rows.flatten (w+tg)))
theorem IsAt.nil (h:Heap) (n b w tg:Nat):IsAt h n b w tg [] .nilslice:=⟨fun _ hr=>(by cases hr),.inl ⟨rfl,rfl⟩⟩
theorem IsAt.mono {h h':Heap} {n n' b w tg:Nat} {rows:List (List AV)} {v:AV} (r:IsAt h n b w tg rows v) (hh:b<n→h'.get b=h.get b) (hn:n≤n'):IsAt h' n' b w tg rows v :=
 ⟨r.wide,r.is.imp id fun ⟨h1,h2,h3,h4⟩=>⟨h1,by omega,h3,by rw [hh h2];exact h4⟩⟩
theorem IsAt.rows {h:Heap} {n b w tg:Nat} {rows:List (List AV)} {v:AV} (r:IsAt h n b w tg rows v):Rows h 0 n w tg rows v :=
 ⟨r.wide,r.is.imp id fun ⟨_,h2,h3,h4⟩=>⟨b,Nat.zero_le _,h2,h3,h4⟩⟩
theorem append_at {s:St} {b w bytes tg:Nat} {rows:List (List AV)} {v:AV} (r:IsAt s.h s.n b w tg rows v) {p sz:Nat} {row:List AV} (hp:s.h.get p=some (.cells row sz)) (hw:row.length=w) (hsc:scalars row=true)
  (hb:(rows.length+1) * bytes≤1000000) (htg:szOf (w+tg)=w) (hs:s.n<549755813888) :
  ∃ s',appendA false w bytes tg s v (.slice p 0 1 1 false)=.val (.slice s.n 0 (rows.length+1) (rows.length+1) true) s'∧IsAt s'.h s'.n s.n w tg (rows++[row]) (.slice s.n 0 (rows.length+1) (rows.length+1) true)∧s'.n=s.n+1∧(∀ c,c<s.n→c≠b→s'.h.get c=s.h.get c)∧(∀ k,k≤b→k≤s.n→k≤s.m→k≤s'.m)∧s'.m≤s.m:=by
 rcases r.is with ⟨h1,h2⟩ | ⟨h1,h2,h3,h4⟩
 ·obtain ⟨v',s',e1,e2,e3,e4,e5,e6,e7,e8⟩:=append_row (lo:=s.n) (bytes:=bytes) (⟨r.wide,.inl ⟨h1,h2⟩⟩:Rows s.h s.n s.n w tg rows v) hp hw hsc hb htg hs (Nat.le_refl _)
  subst e8
  refine ⟨s',e1,⟨e2.wide,.inr ⟨by simp,by omega,by simp,?_⟩⟩,e3,fun c hc _=>e4 c hc,fun k _ hk hm=>e6 k hk hm,e7⟩
  rcases e2.is with ⟨z,_⟩ | ⟨b',_,_,z2,z3⟩
  ·simp at z
  ·injection z2 with z2
   rw [z2];exact z3
 ·obtain ⟨v',s',e1,e2,e3,e4,e5,e6,e7,e8⟩:=append_row (lo:=b) (bytes:=bytes) (⟨r.wide,.inr ⟨b,Nat.le_refl _,h2,h3,h4⟩⟩:Rows s.h b s.n w tg rows v) hp hw hsc hb htg hs (by omega)
  subst e8
  refine ⟨s',e1,⟨e2.wide,.inr ⟨by simp,by omega,by simp,?_⟩⟩,e3,fun c hc hcb=>e5 c hc (by rw [h3];intro z;injection z with z;exact hcb z.symm),fun k hk _ hm=>e6 k hk hm,e7⟩
  rcases e2.is with ⟨z,_⟩ | ⟨b',_,_,z2,z3⟩
  ·simp at z
  ·injection z2 with z2
   rw [z2];exact z3
theorem IsAt.apart {h:Heap} {n b w tg c o:Nat} {rows:List (List AV)} {v:AV} (r:IsAt h n b w tg rows v) (hc:b≠c):apartA v (.ptr c o)=true:=by
 rcases r.is with ⟨_,h2⟩ | ⟨_,_,h3,_⟩
 ·subst h2;rfl
 ·subst h3;exact apart_slice hc
end Go.Abs
namespace Go.Proofs.Ytlfalcghhckanab.walk
open Go.Abs Go.Proofs.Ytlfalcghhckanab.code
theorem ints_len (l:List Int):(ints l).length=l.length:=by unfold ints;rw [List.length_map]
theorem ints_snoc (l:List Int) (x:Int):ints l++[[.int .i64 x]]=ints (l++[x]):=by unfold ints;rw [List.map_append];rfl
abbrev IntsAt (h:Heap) (n b:Nat) (l:List Int) (v:AV):Prop:=IsAt h n b 1 (tag 3) (ints l) v
theorem IntsAt.at_ {h:Heap} {n b:Nat} {l:List Int} {v:AV} (r:IntsAt h n b l v):RowsAt h n 1 (ints l) v:=r.rows.at_
def TabUp (h:Heap) (n b:Nat) (tab:List (List Int)) (v:AV) (no:Nat→Prop):Prop :=
 ∃ vs:List AV,vs.length=tab.length∧IsAt h n b 1 (tag 22) (vs.map fun v=>[v]) v∧∀ j (h1:j<vs.length) (h2:j<tab.length),∃ x,no x∧IntsAt h n x tab[j] vs[j]∧tab[j]≠[]
theorem TabUp.nil (h:Heap) (n b:Nat) (no:Nat→Prop):TabUp h n b [] .nilslice no:=⟨[],rfl,IsAt.nil _ _ _ _ _,fun j h1 _=>by simp at h1⟩
theorem TabUp.mono {h h':Heap} {n n' b:Nat} {tab:List (List Int)} {v:AV} {no no':Nat→Prop} (r:TabUp h n b tab v no) (hb:b<n→h'.get b=h.get b) (hh:∀ x,x<n→no x→h'.get x=h.get x∧no' x) (hn:n≤n'):TabUp h' n' b tab v no':=by
 obtain ⟨vs,h1,h2,h3⟩:=r
 refine ⟨vs,h1,h2.mono hb hn,fun j j1 j2=>?_⟩
 obtain ⟨x,x1,x2,x3⟩:=h3 j j1 j2
 have xn:x<n:=by
  rcases x2.is with ⟨z,_⟩ | ⟨_,z,_⟩
  ·exact absurd (by simpa [ints] using z) x3
  ·exact z
 exact ⟨x,(hh x xn x1).2,x2.mono (fun _=>(hh x xn x1).1) hn,x3⟩
theorem TabUp.push {h':Heap} {n' b':Nat} {tab:List (List Int)} {v' w:AV} {no:Nat→Prop} {vs:List AV} {row:List Int} (h1:vs.length=tab.length) (h2:IsAt h' n' b' 1 (tag 22) ((vs.map fun v=>[v])++[[w]]) v')
  (h3:∀ j (h1:j<vs.length) (h2:j<tab.length),∃ x,no x∧IntsAt h' n' x tab[j] vs[j]∧tab[j]≠[]) {x:Nat} (hx:no x) (hw:IntsAt h' n' x row w) (hr:row≠[]):TabUp h' n' b' (tab++[row]) v' no:=by
 refine ⟨vs++[w],by simp [h1],by rw [List.map_append];exact h2,fun j j1 j2=>?_⟩
 by_cases e:j<vs.length
 ·rw [List.getElem_append_left e,List.getElem_append_left (by omega)]
  exact h3 j e (by omega)
 ·rw [List.getElem_append_right (by omega),List.getElem_append_right (by omega)]
  have:j=vs.length:=by rw [List.length_append,List.length_singleton] at j1;omega
  subst this
  simp only [h1,Nat.sub_self,List.getElem_singleton]
  exact ⟨x,hx,hw,hr⟩
theorem nth_ones:∀ (vs:List AV) (i:Nat) (hi:i<vs.length),nth (vs.map fun v=>[v]).flatten i=vs[i]
 | [],i,h=>by simp at h
 | a::vs,0,_=>rfl
 | a::vs,i+1,h=>by
  rw [List.map_cons,List.flatten_cons,List.cons_append,nth_cons,if_neg (by omega),Nat.add_sub_cancel,List.nil_append]
  exact nth_ones vs i (by simpa using h)
theorem TabUp.tab {h:Heap} {n b:Nat} {tab:List (List Int)} {v:AV} {no:Nat→Prop} (r:TabUp h n b tab v no):Tab h n tab v:=by
 obtain ⟨vs,h1,h2,h3⟩:=r
 refine ⟨fun t=>okA_ne h2.rows.at_.ne,fun i hi=>?_⟩
 obtain ⟨x,_,x2,x3⟩:=h3 i (by omega) hi
 rcases h2.is with ⟨z,_⟩ | ⟨_,z1,z2,z3⟩
 ·rw [List.map_eq_nil_iff] at z
  subst z
  simp at h1
  omega
 ·refine ⟨b,0+i * 1,_,_,vs[i]'(by omega),z1,fun s=>by rw [z2];exact ixs_slice 1 s b 0 _ _ true i (by rw [List.length_map];omega),z3,by rw [Nat.zero_add,Nat.mul_one];exact nth_ones vs i (by omega),fun t=>okA_ne x2.at_.ne,x2.at_⟩
theorem end_ok (N:Nat) (hN:1≤N) (lo hi:Int) (q:Bool) (s:St) (hs:s.n+10≤far):call Try.prog X N (.fn 23) [.agg [.int .i64 lo,.int .i64 hi],.bool q] s=.val (.int .i64 (if q then lo else hi)) s:=by
 obtain ⟨n,rfl⟩:∃ n,N=n+1:=⟨N - 1,by omega⟩
 refine call_plain' Try.func23 (fun u uh un um=>?_) rfl
 have hff:far=1000000000:=rfl
 rw [enter23]
 cases q
 all_goals
  simp (disch:=first|omega|(with_unfolding_all exact rfl)|(simp only[new_n,put_n,new_m];omega)|(refine put_m_le ?_;simp only[new_m];omega)) only [res23,K23r0,K23r1,K23r2,K23r3,K23,Abs.W,reduceIte,Nat.reduceEqDiff,Nat.reduceAdd,decide_true,decide_false,kLoop_def,Nat.reduceSub,List.cons_append,List.nil_append,List.append_nil,List.length_cons,List.length_nil,Nat.zero_add,Nat.add_zero]
  exact ⟨_,rfl,by simp only [new_m];omega⟩
end Go.Proofs.Ytlfalcghhckanab.walk
set_option maxRecDepth 10000
namespace Go.Proofs.Ytlfalcghhckanab.walk
open Go.Abs Go.Proofs.Ytlfalcghhckanab.code
theorem all_snoc {α:Type} {P:Nat→α→Prop} {l:List α} {x:α} (h:∀ j (hj:j<l.length),P j l[j]) (hx:P l.length x):∀ j (hj:j<(l++[x]).length),P j (l++[x])[j]:=by
 intro j hj
 by_cases e:j<l.length
 ·rw [List.getElem_append_left e];exact h j e
 ·have:j=l.length:=by rw [List.length_append,List.length_singleton] at hj;omega
  subst this
  rw [List.getElem_append_right (Nat.le_refl _)]
  simpa using hx
theorem edge_hall {N:Nat} {r:R} {cx:Ctx} {L:Env} {s:St} {hl hh:Int} {v1 v2 v3:AV} {q:Bool} {p3 p7 z3 z7:Nat} (hours:Nat) (hr:loopN K9l0 rounds (call Try.prog X N) cx L [] s=r) (hN:1≤N) (hh5:hours≤500) (h37:p3<p7) (hp7:p7<s.n) (hs:s.n+5000≤far) (hsm:s.m≤far)
  (g3:s.h.get p3=some (.cells [.int .i64 hl,.int .i64 hh,v1,v2,v3] z3)) (g7:s.h.get p7=some (.cells [.nilslice,.nilslice,.nilslice,.nilslice,.nilslice] z7))
  (l1:L.find 1=.int .i64 hours) (l2:L.find 2=.bool q) (l3:L.find 3=.ptr p3 0) (l7:L.find 7=.ptr p7 0) (l8:L.find 8=.int .i64 0) :
  ∃ (L1:Env) (s1:St) (b:Nat) (l:List Int) (v:AV),r=.done (.exit 0) L1 [] s1∧(∀ t,t=1∨t=2∨t=3∨t=6∨t=7→L1.find t=L.find t)∧l.length=hours∧(∀ x ∈ l,x=if q then hl else hh)∧s.n≤b∧IntsAt s1.h s1.n b l v ∧
   s1.h.get p7=some (.cells [.nilslice,.nilslice,.nilslice,.nilslice,v] z7)∧(∀ c,c<s.n→c≠p7→s1.h.get c=s.h.get c)∧s.n≤s1.n∧s1.n≤s.n+2 * hours∧(∀ k,k≤p7→k≤s.m→k≤s1.m)∧s1.m≤far:=by
 have hff:far=1000000000:=rfl
 obtain ⟨e,L1,s1,rfl,rfl,b,l,v,h⟩:=loop_of hr
  (fun i L' t=>∃ (b:Nat) (l:List Int) (v:AV),(∀ t,t=1∨t=2∨t=3∨t=6∨t=7→L'.find t=L.find t)∧L'.find 8=.int .i64 i∧l.length=i∧(∀ x ∈ l,x=if q then hl else hh)∧s.n≤b∧IntsAt t.h t.n b l v∧t.h.get p7=some (.cells [.nilslice,.nilslice,.nilslice,.nilslice,v] z7)∧(∀ c,c<s.n→c≠p7→t.h.get c=s.h.get c)∧s.n≤t.n∧t.n≤s.n+2 * i∧(∀ k,k≤p7→k≤s.m→k≤t.m)∧t.m≤far)
  (fun e L1 s1=>e=.exit 0∧∃ (b:Nat) (l:List Int) (v:AV),(∀ t,t=1∨t=2∨t=3∨t=6∨t=7→L1.find t=L.find t)∧l.length=hours∧(∀ x ∈ l,x=if q then hl else hh)∧s.n≤b∧IntsAt s1.h s1.n b l v∧s1.h.get p7=some (.cells [.nilslice,.nilslice,.nilslice,.nilslice,v] z7)∧(∀ c,c<s.n→c≠p7→s1.h.get c=s.h.get c)∧s.n≤s1.n∧s1.n≤s.n+2 * hours∧(∀ k,k≤p7→k≤s.m→k≤s1.m)∧s1.m≤far)
  hours (by unfold rounds;omega) ⟨far+1,[],.nilslice,fun _ _=>rfl,l8,rfl,fun x hx=>(by cases hx),by omega,IsAt.nil _ _ _ _ _,g7,fun _ _ _=>rfl,Nat.le_refl _,Nat.le_refl _,fun _ _ h=>h,hsm⟩
  (fun i L' t hi ⟨b,l,v,q0,q8,ql,qx,qb,qI,qg,qs,qn,qk,qm,qf⟩=>by
   have k1:=(q0 1 (by simp)).trans l1
   have k2:=(q0 2 (by simp)).trans l2
   have k3:=(q0 3 (by simp)).trans l3
   have k7:=(q0 7 (by simp)).trans l7
   have g3t:=(qs p3 (by omega) (by omega)).trans g3
   by_cases hlt:i<hours
   ·have e0:decide ((i:Int)<(hours:Int))=true:=decide_eq_true (by omega)
    have okv:∀ t,okA (.val v t)=.val v t:=fun t=>okA_ne qI.at_.ne
    have E:=end_ok N hN hl hh q ⟨t.h,t.n,far⟩ (by show t.n+10≤far;omega)
    obtain ⟨x,hx⟩:∃ x:Int,x=if q then hl else hh:=⟨_,rfl⟩
    rw [← hx] at E
    have hnn:(t.new (.cells [.int .i64 x] 0)).n=t.n+1:=rfl
    obtain ⟨s',e1,e2,e3,e4,e5,e6⟩:=append_at (s:=t.new (.cells [.int .i64 x] 0)) (bytes:=8) (row:=[.int .i64 x]) (qI.mono (fun h=>get_new_ne _ _ _ (by omega)) (Nat.le_succ _)) (get_new_eq _ _ _ rfl (by omega)) rfl rfl (by rw [ints_len];omega) (by kernel_rfl) (by omega)
    have hp:s'.h.get p7=_:=(e4 p7 (by omega) (by omega)).trans ((get_new_ne _ _ _ (by omega)).trans qg)
    have a1:∀ s,aAdd s .i64 (i:Int) 1=.val (.int .i64 ((i:Int)+1)) s:=fun s=>aAdd_i64 s _ _ (by omega)
    have htn:t.n≤far:=by omega
    refine .inl ⟨hlt,((L'.set 18 (.bool true)).set 8 (.int .i64 ((i:Int)+1))),s'.put p7 (.cells [.nilslice,.nilslice,.nilslice,.nilslice,.slice (t.n+1) 0 ((ints l).length+1) ((ints l).length+1) true] z7),?_,t.n+1,l++[x],_,fun t ht=>?_,?_,by rw [List.length_append,ql];rfl,?_,by omega,?_,get_put_eq _ _ _ _ rfl (by omega),fun c hc hcp=>?_,by simp only [put_n];omega,by simp only [put_n];omega,fun k hk hm=>?_,?_⟩
    ·simp (disch:=first|omega|(with_unfolding_all exact rfl)|(simp only[new_n,put_n,new_m];omega)|(refine put_m_le ?_;simp only[new_m];omega)) only [K9l0,K9r3,K9r4,K9r5,Abs.W,reduceIte,Nat.reduceEqDiff,Nat.reduceAdd,decide_true,decide_false,kLoop_def,Nat.reduceSub,List.cons_append,List.nil_append,List.append_nil,List.length_cons,List.length_nil,Env.find_set,k1,k2,k3,k7,q8,e0,qg,g3t,okv,E,thenT_same _ _ _ _ _ _ _ htn qf,e1,hp,a1,endO_nil,regD_ok,Nat.zero_add]
     rfl
    ·rcases ht with rfl | rfl | rfl | rfl | rfl<;>simp only [Env.find_set,reduceIte,Nat.reduceEqDiff]
     all_goals exact q0 _ (by simp)
    ·simp only [Env.find_set,reduceIte];rfl
    ·intro y hy
     rcases List.mem_append.mp hy with h | h
     ·exact qx y h
     ·simp at h;rw [h,hx]
    ·rw [ints_snoc] at e2
     exact e2.mono (fun _=>get_put_ne' _ _ _ _ (by omega)) (Nat.le_refl _)
    ·rw [get_put_ne' _ _ _ _ hcp,e4 c (by omega) (by omega),get_new_ne _ _ _ (by omega)];exact qs c hc hcp
    ·have:=e5 k (by omega) (by omega) (by rw [new_m];exact qm k hk hm)
     simp only [St.put,minN_eq];omega
    ·rw [new_m] at e6
     simp only [St.put,minN_eq];omega
   ·obtain rfl:i=hours:=by omega
    have e0:decide ((i:Int)<(i:Int))=false:=by simp
    refine .inr ⟨.exit 0,L'.set 18 (.bool false),t,by simp,?_,rfl,b,l,v,fun t ht=>?_,ql,qx,qb,qI,qg,qs,qn,qk,qm,qf⟩
    ·simp (disch:=first|omega|(with_unfolding_all exact rfl)|(simp only[new_n,put_n,new_m];omega)|(refine put_m_le ?_;simp only[new_m];omega)) only [K9l0,K9r3,Abs.W,reduceIte,Nat.reduceEqDiff,Nat.reduceAdd,decide_true,decide_false,kLoop_def,Nat.reduceSub,List.cons_append,List.nil_append,List.append_nil,List.length_cons,List.length_nil,Env.find_set,k1,q8,e0]
    ·rw [← q0 t ht]
     rcases ht with rfl | rfl | rfl | rfl | rfl<;>simp only [Env.find_set,reduceIte,Nat.reduceEqDiff])
 exact ⟨L1,s1,b,l,v,rfl,h⟩
theorem edge_rows {N:Nat} {r:R} {cx:Ctx} {L:Env} {s:St} {B:Box} {q:Bool} {p10 z:Nat} (hours:Nat) (hr:loopN K9l1 rounds (call Try.prog X N) cx L [] s=r) (hN:1≤N) (hh5:hours≤500) (hp:p10<s.n) (hs:s.n+9000≤far) (hsm:s.m≤far)
  (g:s.h.get p10=some (.cells B.cells z)) (l1:L.find 1=.int .i64 hours) (l2:L.find 2=.bool q) (l10:L.find 10=.ptr p10 0) (l11:L.find 11=.nilslice) (l12:L.find 12=.nilslice) (l13:L.find 13=.nilslice) (l14:L.find 14=.int .i64 0) :
  ∃ (L1:Env) (s1:St) (b1 b2 b3:Nat) (x y w:List Int) (vx vy vw:AV),r=.done (.exit 4) L1 [] s1∧(∀ t,t=1∨t=2∨t=3∨t=6∨t=7∨t=9→L1.find t=L.find t)∧(L1.find 11=vx∧L1.find 12=vy∧L1.find 13=vw)∧(x.length=hours∧y.length=hours∧w.length=hours) ∧
   ((∀ e ∈ x,e=if q then B.ml else B.mh)∧(∀ e ∈ y,e=if q then B.cl else B.ch)∧(∀ e ∈ w,e=if q then B.wl else B.wh))∧(s.n≤b1∧s.n≤b2∧s.n≤b3)∧IntsAt s1.h s1.n b1 x vx∧IntsAt s1.h s1.n b2 y vy∧IntsAt s1.h s1.n b3 w vw ∧
   (∀ c,c<s.n→s1.h.get c=s.h.get c)∧s.n≤s1.n∧s1.n≤s.n+6 * hours∧(∀ k,k≤s.n→k≤s.m→k≤s1.m)∧s1.m≤far:=by
 have hff:far=1000000000:=rfl
 obtain ⟨e,L1,s1,rfl,rfl,b1,b2,b3,x,y,w,vx,vy,vw,h0,h1,h2,h3,h4,_,h5⟩:=loop_of hr
  (fun i L' t=>∃ (b1 b2 b3:Nat) (x y w:List Int) (vx vy vw:AV),(∀ t,t=1∨t=2∨t=3∨t=6∨t=7∨t=9→L'.find t=L.find t)∧(L'.find 11=vx∧L'.find 12=vy∧L'.find 13=vw)∧(x.length=i∧y.length=i∧w.length=i) ∧
   ((∀ e ∈ x,e=if q then B.ml else B.mh)∧(∀ e ∈ y,e=if q then B.cl else B.ch)∧(∀ e ∈ w,e=if q then B.wl else B.wh))∧(s.n≤b1∧s.n≤b2∧s.n≤b3)∧((b1≠b2∧b1≠b3∧b2≠b3)∧(b1<t.n∨far<b1)∧(b2<t.n∨far<b2)∧(b3<t.n∨far<b3))∧IntsAt t.h t.n b1 x vx∧IntsAt t.h t.n b2 y vy∧IntsAt t.h t.n b3 w vw ∧
   (∀ c,c<s.n→t.h.get c=s.h.get c)∧s.n≤t.n∧t.n≤s.n+6 * i∧(∀ k,k≤s.n→k≤s.m→k≤t.m)∧t.m≤far∧L'.find 10=.ptr p10 0∧L'.find 14=.int .i64 i)
  (fun e L1 s1=>e=.exit 4∧∃ (b1 b2 b3:Nat) (x y w:List Int) (vx vy vw:AV),(∀ t,t=1∨t=2∨t=3∨t=6∨t=7∨t=9→L1.find t=L.find t)∧(L1.find 11=vx∧L1.find 12=vy∧L1.find 13=vw)∧(x.length=hours∧y.length=hours∧w.length=hours) ∧
   ((∀ e ∈ x,e=if q then B.ml else B.mh)∧(∀ e ∈ y,e=if q then B.cl else B.ch)∧(∀ e ∈ w,e=if q then B.wl else B.wh))∧(s.n≤b1∧s.n≤b2∧s.n≤b3)∧((b1≠b2∧b1≠b3∧b2≠b3)∧(b1<s1.n∨far<b1)∧(b2<s1.n∨far<b2)∧(b3<s1.n∨far<b3))∧IntsAt s1.h s1.n b1 x vx∧IntsAt s1.h s1.n b2 y vy∧IntsAt s1.h s1.n b3 w vw ∧
   (∀ c,c<s.n→s1.h.get c=s.h.get c)∧s.n≤s1.n∧s1.n≤s.n+6 * hours∧(∀ k,k≤s.n→k≤s.m→k≤s1.m)∧s1.m≤far)
  hours (by unfold rounds;omega) ⟨far+1,far+2,far+3,[],[],[],_,_,_,fun _ _=>rfl,⟨l11,l12,l13⟩,⟨rfl,rfl,rfl⟩,⟨fun x hx=>(by cases hx),fun x hx=>(by cases hx),fun x hx=>(by cases hx)⟩,⟨by omega,by omega,by omega⟩,⟨⟨by omega,by omega,by omega⟩,.inr (by omega),.inr (by omega),.inr (by omega)⟩,IsAt.nil _ _ _ _ _,IsAt.nil _ _ _ _ _,IsAt.nil _ _ _ _ _,fun _ _=>rfl,Nat.le_refl _,Nat.le_refl _,fun _ _ h=>h,hsm,l10,l14⟩
  (fun i L' t hi ⟨b1,b2,b3,x,y,w,vx,vy,vw,q0,⟨q11,q12,q13⟩,⟨qx,qy,qw⟩,⟨ex,ey,ew⟩,⟨hb1,hb2,hb3⟩,⟨⟨n12,n13,n23⟩,hf1,hf2,hf3⟩,I1,I2,I3,qs,qn,qk,qm,qf,q10,q14⟩=>by
   have k1:=(q0 1 (by simp)).trans l1
   have k2:=(q0 2 (by simp)).trans l2
   by_cases hlt:i<hours
   ·have e0:decide ((i:Int)<(hours:Int))=true:=decide_eq_true (by omega)
    have gt:=(qs p10 hp).trans g
    have ok1:∀ t,okA (.val vx t)=.val vx t:=fun t=>okA_ne I1.at_.ne
    obtain ⟨em,hem⟩:∃ e:Int,e=if q then B.ml else B.mh:=⟨_,rfl⟩
    obtain ⟨ec,hec⟩:∃ e:Int,e=if q then B.cl else B.ch:=⟨_,rfl⟩
    obtain ⟨ev,hev⟩:∃ e:Int,e=if q then B.wl else B.wh:=⟨_,rfl⟩
    have E1:=end_ok N hN B.ml B.mh q ⟨t.h,t.n,far⟩ (by show t.n+10≤far;omega)
    rw [← hem] at E1
    have hn1:(t.new (.cells [.int .i64 em] 0)).n=t.n+1:=rfl
    obtain ⟨t1,a1,a2,a3,a4,a5,a6⟩:=append_at (s:=t.new (.cells [.int .i64 em] 0)) (bytes:=8) (row:=[.int .i64 em]) (I1.mono (fun h=>get_new_ne _ _ _ (by omega)) (Nat.le_succ _)) (get_new_eq _ _ _ rfl (by omega)) rfl rfl (by rw [ints_len];omega) (by kernel_rfl) (by omega)
    have g1:=(a4 p10 (by omega) (by omega)).trans ((get_new_ne _ _ _ (by omega)).trans gt)
    have I2':=I2.mono (h':=t1.h) (n':=t1.n) (fun h=>(a4 b2 (by omega) (by omega)).trans (get_new_ne _ _ _ (by omega))) (by omega)
    have I3':=I3.mono (h':=t1.h) (n':=t1.n) (fun h=>(a4 b3 (by omega) (by omega)).trans (get_new_ne _ _ _ (by omega))) (by omega)
    have E2:=end_ok N hN B.cl B.ch q ⟨t1.h,t1.n,far⟩ (by show t1.n+10≤far;omega)
    rw [← hec] at E2
    have hn2:(t1.new (.cells [.int .i64 ec] 0)).n=t1.n+1:=rfl
    obtain ⟨t2,c1,c2,c3,c4,c5,c6⟩:=append_at (s:=t1.new (.cells [.int .i64 ec] 0)) (bytes:=8) (row:=[.int .i64 ec]) (I2'.mono (fun h=>get_new_ne _ _ _ (by omega)) (Nat.le_succ _)) (get_new_eq _ _ _ rfl (by omega)) rfl rfl (by rw [ints_len];omega) (by kernel_rfl) (by omega)
    have g2:=(c4 p10 (by omega) (by omega)).trans ((get_new_ne _ _ _ (by omega)).trans g1)
    have I3'':=I3'.mono (h':=t2.h) (n':=t2.n) (fun h=>(c4 b3 (by omega) (by omega)).trans (get_new_ne _ _ _ (by omega))) (by omega)
    have a2':=a2.mono (h':=t2.h) (n':=t2.n) (fun h=>(c4 _ (by omega) (by omega)).trans (get_new_ne _ _ _ (by omega))) (by omega)
    have E3:=end_ok N hN B.wl B.wh q t2 (by omega)
    rw [← hev] at E3
    have hn3:(t2.new (.cells [.int .i64 ev] 0)).n=t2.n+1:=rfl
    obtain ⟨t3,d1,d2,d3,d4,d5,d6⟩:=append_at (s:=t2.new (.cells [.int .i64 ev] 0)) (bytes:=8) (row:=[.int .i64 ev]) (I3''.mono (fun h=>get_new_ne _ _ _ (by omega)) (Nat.le_succ _)) (get_new_eq _ _ _ rfl (by omega)) rfl rfl (by rw [ints_len];omega) (by kernel_rfl) (by omega)
    have ad:∀ s,aAdd s .i64 (i:Int) 1=.val (.int .i64 ((i:Int)+1)) s:=fun s=>aAdd_i64 s _ _ (by omega)
    have htn:t.n≤far:=by omega
    have ht1:t1.n≤far:=by omega
    have ht1m:t1.m≤far:=by rw [new_m] at a6;omega
    have ap1:=fun o=>I1.apart (c:=p10) (o:=o) (by omega)
    have ap2:=fun o=>I2.apart (c:=p10) (o:=o) (by omega)
    unfold Box.cells at gt g1 g2
    rw [ints_snoc] at a2' c2 d2
    refine .inl ⟨hlt,((((L'.set 54 (.bool true)).set 11 (.slice (t.n+1) 0 ((ints x).length+1) ((ints x).length+1) true)).set 12 (.slice (t1.n+1) 0 ((ints y).length+1) ((ints y).length+1) true)).set 13 (.slice (t2.n+1) 0 ((ints w).length+1) ((ints w).length+1) true)).set 14 (.int .i64 ((i:Int)+1)),t3,?_,t.n+1,t1.n+1,t2.n+1,x++[em],y++[ec],w++[ev],.slice (t.n+1) 0 ((ints x).length+1) ((ints x).length+1) true,.slice (t1.n+1) 0 ((ints y).length+1) ((ints y).length+1) true,.slice (t2.n+1) 0 ((ints w).length+1) ((ints w).length+1) true,fun t ht=>?_,⟨by simp only [Env.find_set,reduceIte,Nat.reduceEqDiff],by simp only [Env.find_set,reduceIte,Nat.reduceEqDiff],by simp only [Env.find_set,reduceIte,Nat.reduceEqDiff]⟩,⟨by simp [qx],by simp [qy],by simp [qw]⟩,⟨fun e he=>?_,fun e he=>?_,fun e he=>?_⟩,⟨by omega,by omega,by omega⟩,⟨⟨by omega,by omega,by omega⟩,.inl (by omega),.inl (by omega),.inl (by omega)⟩,?_,?_,?_,fun c hc=>?_,by omega,by omega,fun k hk hm=>?_,?_,by simp only [Env.find_set,q10,reduceIte,Nat.reduceEqDiff],by simp only [Env.find_set,reduceIte];rfl⟩
    ·simp (disch:=first|omega|(with_unfolding_all exact rfl)|(simp only[new_n,put_n,new_m];omega)|(refine put_m_le ?_;simp only[new_m];omega)) only [K9l1,K9r12,K9r13,K9r14,Abs.W,reduceIte,Nat.reduceEqDiff,Nat.reduceAdd,decide_true,decide_false,kLoop_def,Nat.reduceSub,List.cons_append,List.nil_append,List.append_nil,List.length_cons,List.length_nil,Env.find_set,k1,k2,q10,q11,q12,q13,q14,e0,gt,E1,thenT_same _ _ _ _ _ _ _ htn qf,a1,g1,E2,thenT_same _ _ _ _ _ _ _ ht1 ht1m,c1,g2,E3,d1,ad,Nat.zero_add]
     rw [endO_ok _ (by
      rw [endOk_cons,endOk_cons,endOk_cons,endOk_nil]
      all_goals
       simp only [find_cons,reduceIte,Nat.reduceEqDiff]
       first | exact ap1 _ | exact ap2 _)]
     simp (disch:=first|omega|(with_unfolding_all exact rfl)|(simp only[new_n,put_n,new_m];omega)|(refine put_m_le ?_;simp only[new_m];omega)) only [K9r14,Abs.W,reduceIte,Nat.reduceEqDiff,Nat.reduceAdd,decide_true,decide_false,kLoop_def,Nat.reduceSub,List.cons_append,List.nil_append,List.append_nil,List.length_cons,List.length_nil,Env.find_set,q14,ad,regD_ok]
     rfl
    ·rcases ht with rfl | rfl | rfl | rfl | rfl | rfl<;>simp only [Env.find_set,reduceIte,Nat.reduceEqDiff]
     all_goals exact q0 _ (by simp)
    ·rcases List.mem_append.mp he with h | h
     ·exact ex e h
     ·simp at h;rw [h,hem]
    ·rcases List.mem_append.mp he with h | h
     ·exact ey e h
     ·simp at h;rw [h,hec]
    ·rcases List.mem_append.mp he with h | h
     ·exact ew e h
     ·simp at h;rw [h,hev]
    ·exact a2'.mono (fun h=>(d4 _ (by omega) (by omega)).trans (get_new_ne _ _ _ (by omega))) (by omega)
    ·exact c2.mono (fun h=>(d4 _ (by omega) (by omega)).trans (get_new_ne _ _ _ (by omega))) (by omega)
    ·exact d2
    ·rw [d4 c (by omega) (by omega),get_new_ne _ _ _ (by omega),c4 c (by omega) (by omega),get_new_ne _ _ _ (by omega),a4 c (by omega) (by omega),get_new_ne _ _ _ (by omega)]
     exact qs c hc
    ·have h1:=a5 k (by omega) (by omega) (by rw [new_m];exact qm k hk hm)
     have h2:=c5 k (by omega) (by omega) (by rw [new_m];exact h1)
     exact d5 k (by omega) (by omega) (by rw [new_m];exact h2)
    ·rw [new_m] at a6 c6 d6
     omega
   ·obtain rfl:i=hours:=by omega
    have e0:decide ((i:Int)<(i:Int))=false:=by simp
    refine .inr ⟨.exit 4,L'.set 54 (.bool false),t,by simp,?_,rfl,b1,b2,b3,x,y,w,vx,vy,vw,fun t ht=>?_,⟨by simp only [Env.find_set,q11,reduceIte,Nat.reduceEqDiff],by simp only [Env.find_set,q12,reduceIte,Nat.reduceEqDiff],by simp only [Env.find_set,q13,reduceIte,Nat.reduceEqDiff]⟩,⟨qx,qy,qw⟩,⟨ex,ey,ew⟩,⟨hb1,hb2,hb3⟩,⟨⟨n12,n13,n23⟩,hf1,hf2,hf3⟩,I1,I2,I3,qs,qn,qk,qm,qf⟩
    ·simp (disch:=first|omega|(with_unfolding_all exact rfl)|(simp only[new_n,put_n,new_m];omega)|(refine put_m_le ?_;simp only[new_m];omega)) only [K9l1,K9r12,Abs.W,reduceIte,Nat.reduceEqDiff,Nat.reduceAdd,decide_true,decide_false,kLoop_def,Nat.reduceSub,List.cons_append,List.nil_append,List.append_nil,List.length_cons,List.length_nil,Env.find_set,k1,q14,e0]
    ·rw [← q0 t ht]
     rcases ht with rfl | rfl | rfl | rfl | rfl | rfl<;>simp only [Env.find_set,reduceIte,Nat.reduceEqDiff])
 exact ⟨L1,s1,b1,b2,b3,x,y,w,vx,vy,vw,rfl,h0,h1,h2,h3,h4,h5⟩
end Go.Proofs.Ytlfalcghhckanab.walk
set_option maxRecDepth 10000
namespace Go.Proofs.Ytlfalcghhckanab.walk
open Go.Abs Go.Proofs.Ytlfalcghhckanab.code
def Rest (lo ba bb bc bd:Nat) (x:Nat):Prop:=lo≤x∧x≠ba∧x≠bb∧x≠bc∧x≠bd
structure TruthUp (h:Heap) (n lo p7 z:Nat) (ve:AV) (ba bb bc bd:Nat) (T:Truth) (va vb vc vd:AV):Prop where
 g7:h.get p7=some (.cells [va,vb,vc,vd,ve] z)
 ice:IntsAt h n ba T.ice va
 melts:TabUp h n bb T.melts vb (Rest lo ba bb bc bd)
 cold:TabUp h n bc T.cold vc (Rest lo ba bb bc bd)
 warm:TabUp h n bd T.warm vd (Rest lo ba bb bc bd)
 lo:lo≤ba∧lo≤bb∧lo≤bc∧lo≤bd
 new:(ba<n∨far<ba)∧(bb<n∨far<bb)∧(bc<n∨far<bc)∧(bd<n∨far<bd)
 ne:ba≠bb∧ba≠bc∧ba≠bd∧bb≠bc∧bb≠bd∧bc≠bd
 len:T.melts.length=T.ice.length∧T.cold.length=T.ice.length∧T.warm.length=T.ice.length
def Truth.push (T:Truth) (e:Int) (x y w:List Int):Truth:=⟨T.ice++[e],T.melts++[x],T.cold++[y],T.warm++[w],T.hall⟩
theorem edge_box (N:Nat) (hN:1≤N) (cx:Ctx) (bs:List Box) (hl hh:Int) (v1 v2 v3 ve:AV) (q:Bool) (p3 p7 z3 z7 lo hours i ba bb bc bd:Nat) (T:Truth) (va vb vc vd:AV) (L:Env) (s:St) (hi:i<bs.length) (hk:bs.length≤20) (hh1:1≤hours) (hh5:hours≤500) (h37:p3<p7) (hp7:p7<lo) (hlo:lo≤s.n) (hs:s.n+10000≤far) (hsm:s.m≤far) (hTi:T.ice.length=i)
  (hR:RowsAt s.h lo 9 (bs.map Box.cells) v1) (g3:s.h.get p3=some (.cells [.int .i64 hl,.int .i64 hh,v1,v2,v3] z3)) (U:TruthUp s.h s.n lo p7 z7 ve ba bb bc bd T va vb vc vd)
  (l1:L.find 1=.int .i64 hours) (l2:L.find 2=.bool q) (l3:L.find 3=.ptr p3 0) (l7:L.find 7=.ptr p7 0) (l9:L.find 9=.int .i64 i) :
  ∃ (L1:Env) (s1:St) (ba' bb' bc' bd':Nat) (x y w:List Int) (va' vb' vc' vd':AV),K9l2 (call Try.prog X N) cx L [] s=.done .norm L1 [] s1∧(∀ t,t=1∨t=2∨t=3∨t=6∨t=7→L1.find t=L.find t)∧L1.find 9=.int .i64 ((i:Int)+1) ∧
   TruthUp s1.h s1.n lo p7 z7 ve ba' bb' bc' bd' (T.push (if q then (bs[i]).ih else (bs[i]).il) x y w) va' vb' vc' vd'∧(x.length=hours∧y.length=hours∧w.length=hours) ∧
   ((∀ e ∈ x,e=if q then (bs[i]).ml else (bs[i]).mh)∧(∀ e ∈ y,e=if q then (bs[i]).cl else (bs[i]).ch)∧(∀ e ∈ w,e=if q then (bs[i]).wl else (bs[i]).wh)) ∧
   (∀ c,c<lo→c≠p7→s1.h.get c=s.h.get c)∧s.n≤s1.n∧s1.n≤s.n+6 * hours+20∧(∀ k,k≤p7→k≤s.m→k≤s1.m)∧s1.m≤far:=by
 have hff:far=1000000000:=rfl
 obtain ⟨g7,Iice,Tm,Tc,Tw,⟨lo1,lo2,lo3,lo4⟩,⟨w1,w2,w3,w4⟩,⟨ne1,ne2,ne3,ne4,ne5,ne6⟩,⟨len1,len2,len3⟩⟩:=U
 have fr:∀ X,s.n≤X→X≤far→(X≠ba∧X≠bb)∧X≠bc∧X≠bd:=fun X h1 h2=>by omega
 have nE:∀ _:Unit,(bb≠ba∧bc≠ba∧bd≠ba)∧bc≠bb∧bd≠bb∧bd≠bc:=fun _=>by omega
 clear w1 w2 w3 w4 ne1 ne2 ne3 ne4 ne5 ne6
 have e0:decide ((i:Int)<(bs.length:Int))=true:=decide_eq_true (by omega)
 have hlen:=hR.len
 rw [List.length_map] at hlen
 have ok1:∀ t,okA (.val v1 t)=.val v1 t:=fun t=>okA_ne hR.ne
 obtain ⟨b,p,cc,sz,hbn,hix,hg,hcut⟩:=hR.at_ i (by simpa using hi)
 rw [List.getElem_map] at hcut
 generalize bs[i]=B at hcut ⊢
 -- the box
 obtain ⟨y0,hy⟩:∃ y0:St,y0=(s.new (.cells [.int .i64 0,.int .i64 0,.int .i64 0,.int .i64 0,.int .i64 0,.int .i64 0,.int .i64 0,.int .i64 0,.int .i64 0] (tag 63))).put s.n (.cells B.cells (tag 63)):=⟨_,rfl⟩
 have yn:y0.n=s.n+1:=by rw [hy];rfl
 have ym:y0.m=min s.m s.n:=by rw [hy];simp only [St.put,minN_eq,new_m]
 have yg:∀ c,c≠s.n→y0.h.get c=s.h.get c:=fun c hc=>by rw [hy,get_put_ne' _ _ _ _ hc,get_new_ne _ _ _ hc]
 have yB:y0.h.get s.n=some (.cells B.cells (tag 63)):=by rw [hy];exact get_put_eq _ _ _ _ rfl (by omega)
 have y7:=(yg p7 (by omega)).trans g7
 -- its ice
 obtain ⟨ei,hei⟩:∃ e:Int,e=if q then B.ih else B.il:=⟨_,rfl⟩
 have E:=end_ok N hN B.il B.ih (!q) ⟨y0.h,y0.n,far⟩ (by show y0.n+10≤far;omega)
 have hei2:(if (!q)=true then B.il else B.ih)=ei:=by rw [hei];cases q<;>rfl
 rw [hei2] at E
 have okva:∀ t,okA (.val va t)=.val va t:=fun t=>okA_ne Iice.at_.ne
 have hn0:(y0.new (.cells [.int .i64 ei] 0)).n=y0.n+1:=rfl
 obtain ⟨t1,a1,a2,a3,a4,a5,a6⟩:=append_at (s:=y0.new (.cells [.int .i64 ei] 0)) (bytes:=8) (row:=[.int .i64 ei]) (Iice.mono (n':=(y0.new (.cells [.int .i64 ei] 0)).n) (fun h=>(get_new_ne _ _ _ (by omega)).trans (yg _ (by omega))) (by omega)) (get_new_eq _ _ _ rfl (by omega)) rfl rfl (by rw [ints_len];omega) (by kernel_rfl) (by omega)
 rw [ints_snoc] at a2
 have t17:=(a4 p7 (by omega) (by omega)).trans ((get_new_ne _ _ _ (by omega)).trans y7)
 have hyn:y0.n≤far:=by omega
 have hym:y0.m≤far:=by omega
 obtain ⟨t2,ht2⟩:∃ t2:St,t2=t1.put p7 (.cells [.slice (y0.n+1) 0 ((ints T.ice).length+1) ((ints T.ice).length+1) true,vb,vc,vd,ve] z7):=⟨_,rfl⟩
 have t2n:t2.n=t1.n:=by rw [ht2];rfl
 have t2m:t2.m=min t1.m p7:=by rw [ht2];simp only [St.put,minN_eq]
 have t2g:∀ c,c≠p7→t2.h.get c=t1.h.get c:=fun c hc=>by rw [ht2,get_put_ne' _ _ _ _ hc]
 have t27:t2.h.get p7=some (.cells [.slice (y0.n+1) 0 ((ints T.ice).length+1) ((ints T.ice).length+1) true,vb,vc,vd,ve] z7):=by rw [ht2];exact get_put_eq _ _ _ _ rfl (by omega)
 have f2:∀ c,c<s.n→c≠ba→c≠p7→t2.h.get c=s.h.get c:=fun c hc h1 h2=>by
  rw [t2g c h2,a4 c (by omega) h1,get_new_ne _ _ _ (by omega),yg c (by omega)]
 have t2B:t2.h.get s.n=some (.cells B.cells (tag 63)):=by
  rw [t2g _ (by omega),a4 _ (by omega) (fr _ (Nat.le_refl _) (by omega)).1.1,get_new_ne _ _ _ (by omega)];exact yB
 have kl:K9l2=kSeq (kSeq (kRegion K9r7 [34]) (kCond (.tmp 34) kSkip (kExit 2))) (kSeq (kBlock 3 (kSeq (kRegion K9r8 [10]) (kSeq (kRegionD K9r9 []) (kSeq (kRegion K9r10 [11,12,13]) (kSeq (kSeq (kRegion K9r11 [14]) (kBlock 4 (kLoop K9l1))) (kRegionD K9r15 [])))))) (kRegion K9r16 [9])):=rfl
 rw [kl]
 have hcB:=hcut
 unfold Box.cells at hcB hy yB
 simp (disch:=first|omega|(with_unfolding_all exact rfl)|(simp only[new_n,put_n,new_m];omega)|(refine put_m_le ?_;simp only[new_m];omega)) only [K9r7,K9r8,Abs.W,reduceIte,Nat.reduceEqDiff,Nat.reduceAdd,decide_true,decide_false,kLoop_def,Nat.reduceSub,List.cons_append,List.nil_append,List.append_nil,List.length_cons,List.length_nil,Env.find_set,l1,l2,l3,l7,l9,g3,ok1,hlen,e0,hix,hg,hcB,Nat.zero_add]
 rw [← hy]
 simp (disch:=first|omega|(with_unfolding_all exact rfl)|(simp only[new_n,put_n,new_m];omega)|(refine put_m_le ?_;simp only[new_m];omega)) only [K9r9,K9r10,K9r11,Abs.W,reduceIte,Nat.reduceEqDiff,Nat.reduceAdd,decide_true,decide_false,kLoop_def,Nat.reduceSub,List.cons_append,List.nil_append,List.append_nil,List.length_cons,List.length_nil,Env.find_set,l1,l2,l3,l7,l9,y7,yB,okva,E,thenT_same _ _ _ _ _ _ _ hyn hym,a1,t17,notA_def,endO_nil,regD_ok,Nat.zero_add,Nat.add_zero]
 rw [hn0,← ht2]
 -- its hours
 generalize hlp:loopN _ rounds _ _ _ _ _=rl
 obtain ⟨L3,t3,b1,b2,b3,x,y,w,vx,vy,vw,rfl,lk,⟨f11,f12,f13⟩,⟨xl,yl,wl⟩,vals,⟨hb1,hb2,hb3⟩,I1,I2,I3,fr3,n3,k3,m3,mf3⟩:=edge_rows (q:=q) hours hlp hN hh5 (by omega) (by omega) (by omega) t2B (by simp only [Env.find_set,l1,reduceIte,Nat.reduceEqDiff]) (by simp only [Env.find_set,l2,reduceIte,Nat.reduceEqDiff]) (by simp only [Env.find_set,reduceIte,Nat.reduceEqDiff]) (by simp only [Env.find_set,reduceIte,Nat.reduceEqDiff]) (by simp only [Env.find_set,reduceIte,Nat.reduceEqDiff]) (by simp only [Env.find_set,reduceIte,Nat.reduceEqDiff]) (by simp only [Env.find_set,reduceIte,Nat.reduceEqDiff])
 have nonnil:∀ l:List Int,l.length=hours→l≠[]:=fun l h h2=>by rw [h2] at h;simp at h;omega
 have full:∀ {b:Nat} {l:List Int} {v:AV},IntsAt t3.h t3.n b l v→l.length=hours→b<t3.n∧v=.slice b 0 (ints l).length (ints l).length true:=fun {b l v} I h=>by
  rcases I.is with ⟨z,_⟩ | ⟨_,z1,z2,_⟩
  ·exact absurd (by simpa [ints] using z) (nonnil l h)
  ·exact ⟨z1,z2⟩
 obtain ⟨q1,rfl⟩:=full I1 xl
 obtain ⟨q2,rfl⟩:=full I2 yl
 obtain ⟨q3,rfl⟩:=full I3 wl
 have k1:L3.find 1=.int .i64 hours:=(lk 1 (by simp)).trans (by simp only [Env.find_set,l1,reduceIte,Nat.reduceEqDiff])
 have k7:L3.find 7=.ptr p7 0:=(lk 7 (by simp)).trans (by simp only [Env.find_set,l7,reduceIte,Nat.reduceEqDiff])
 have k9:L3.find 9=.int .i64 i:=(lk 9 (by simp)).trans (by simp only [Env.find_set,l9,reduceIte,Nat.reduceEqDiff])
 have t37:=(fr3 p7 (by omega)).trans t27
 have f3:∀ c,c<s.n→c≠ba→c≠p7→t3.h.get c=s.h.get c:=fun c hc h1 h2=>(fr3 c (by omega)).trans (f2 c hc h1 h2)
 have Ia:IntsAt t3.h t3.n (y0.n+1) (T.ice++[ei]) (.slice (y0.n+1) 0 ((ints T.ice).length+1) ((ints T.ice).length+1) true):=a2.mono (fun h=>(fr3 _ (by omega)).trans (t2g _ (by omega))) (by omega)
 have Tm3:=Tm.mono (h':=t3.h) (n':=t3.n) (no':=fun x=>Rest lo ba bb bc bd x∧x<s.n) (fun h=>f3 bb h (nE ()).1.1 (by omega)) (fun x hx ⟨r1,r2,r3,r4,r5⟩=>⟨f3 x hx r2 (by omega),⟨r1,r2,r3,r4,r5⟩,hx⟩) (by omega)
 have Tc3:=Tc.mono (h':=t3.h) (n':=t3.n) (no':=fun x=>Rest lo ba bb bc bd x∧x<s.n) (fun h=>f3 bc h (nE ()).1.2.1 (by omega)) (fun x hx ⟨r1,r2,r3,r4,r5⟩=>⟨f3 x hx r2 (by omega),⟨r1,r2,r3,r4,r5⟩,hx⟩) (by omega)
 have Tw3:=Tw.mono (h':=t3.h) (n':=t3.n) (no':=fun x=>Rest lo ba bb bc bd x∧x<s.n) (fun h=>f3 bd h (nE ()).1.2.2 (by omega)) (fun x hx ⟨r1,r2,r3,r4,r5⟩=>⟨f3 x hx r2 (by omega),⟨r1,r2,r3,r4,r5⟩,hx⟩) (by omega)
 obtain ⟨vsm,sm1,sm2,sm3⟩:=Tm3
 obtain ⟨vsc,sc1,sc2,sc3⟩:=Tc3
 obtain ⟨vsw,sw1,sw2,sw3⟩:=Tw3
 have okvb:∀ t,okA (.val vb t)=.val vb t:=fun t=>okA_ne sm2.rows.at_.ne
 have okvc:∀ t,okA (.val vc t)=.val vc t:=fun t=>okA_ne sc2.rows.at_.ne
 have okvd:∀ t,okA (.val vd t)=.val vd t:=fun t=>okA_ne sw2.rows.at_.ne
 -- the three tables
 have hn4:(t3.new (.cells [.slice b1 0 (ints x).length (ints x).length true] 0)).n=t3.n+1:=rfl
 obtain ⟨t4,c1,c2,c3,c4,c5,c6⟩:=append_at (s:=t3.new (.cells [.slice b1 0 (ints x).length (ints x).length true] 0)) (bytes:=24) (row:=[.slice b1 0 (ints x).length (ints x).length true]) (sm2.mono (fun h=>get_new_ne _ _ _ (by omega)) (Nat.le_succ _)) (get_new_eq _ _ _ rfl (by omega)) rfl rfl (by rw [List.length_map];omega) (by kernel_rfl) (by omega)
 have f4:∀ c,c<t3.n→c≠bb→t4.h.get c=t3.h.get c:=fun c hc h1=>(c4 c (by omega) h1).trans (get_new_ne _ _ _ (by omega))
 have t47:=(f4 p7 (by omega) (by omega)).trans t37
 have hn5:(t4.new (.cells [.slice b2 0 (ints y).length (ints y).length true] 0)).n=t4.n+1:=rfl
 obtain ⟨t5,d1,d2,d3,d4,d5,d6⟩:=append_at (s:=t4.new (.cells [.slice b2 0 (ints y).length (ints y).length true] 0)) (bytes:=24) (row:=[.slice b2 0 (ints y).length (ints y).length true]) (sc2.mono (n':=(t4.new (.cells [.slice b2 0 (ints y).length (ints y).length true] 0)).n) (fun h=>(get_new_ne _ _ _ (by omega)).trans (f4 _ h (nE ()).2.1)) (by omega)) (get_new_eq _ _ _ rfl (by omega)) rfl rfl (by rw [List.length_map];omega) (by kernel_rfl) (by omega)
 have f5:∀ c,c<t4.n→c≠bc→t5.h.get c=t4.h.get c:=fun c hc h1=>(d4 c (by omega) h1).trans (get_new_ne _ _ _ (by omega))
 have t57:=(f5 p7 (by omega) (by omega)).trans t47
 have hn6:(t5.new (.cells [.slice b3 0 (ints w).length (ints w).length true] 0)).n=t5.n+1:=rfl
 obtain ⟨t6,e1,e2,e3,e4,e5,e6⟩:=append_at (s:=t5.new (.cells [.slice b3 0 (ints w).length (ints w).length true] 0)) (bytes:=24) (row:=[.slice b3 0 (ints w).length (ints w).length true]) (sw2.mono (n':=(t5.new (.cells [.slice b3 0 (ints w).length (ints w).length true] 0)).n) (fun h=>(get_new_ne _ _ _ (by omega)).trans ((f5 _ (by omega) (nE ()).2.2.2).trans (f4 _ h (nE ()).2.2.1))) (by omega)) (get_new_eq _ _ _ rfl (by omega)) rfl rfl (by rw [List.length_map];omega) (by kernel_rfl) (by omega)
 have f6:∀ c,c<t5.n→c≠bd→t6.h.get c=t5.h.get c:=fun c hc h1=>(e4 c (by omega) h1).trans (get_new_ne _ _ _ (by omega))
 have t67:=(f6 p7 (by omega) (by omega)).trans t57
 have f36:∀ c,c<t3.n→c≠bb→c≠bc→c≠bd→t6.h.get c=t3.h.get c:=fun c hc h1 h2 h3=>(f6 c (by omega) h3).trans ((f5 c (by omega) h2).trans (f4 c hc h1))
 have ap1:=fun o=>sm2.apart (c:=p7) (o:=o) (by omega)
 have ap2:=fun o=>sc2.apart (c:=p7) (o:=o) (by omega)
 have ad:∀ s,aAdd s .i64 (i:Int) 1=.val (.int .i64 ((i:Int)+1)) s:=fun s=>aAdd_i64 s _ _ (by omega)
 simp (disch:=first|omega|(with_unfolding_all exact rfl)|(simp only[new_n,put_n,new_m];omega)|(refine put_m_le ?_;simp only[new_m];omega)) only [K9r15,Abs.W,reduceIte,Nat.reduceEqDiff,Nat.reduceAdd,decide_true,decide_false,kLoop_def,Nat.reduceSub,List.cons_append,List.nil_append,List.append_nil,List.length_cons,List.length_nil,Env.find_set,k7,k9,f11,f12,f13,t37,okvb,c1,t47,okvc,d1,t57,okvd,e1,t67,Nat.zero_add]
 rw [endO_ok _ (by
  rw [endOk_cons,endOk_cons,endOk_cons,endOk_nil]
  all_goals
   simp only [find_cons,reduceIte,Nat.reduceEqDiff]
   first | exact ap1 _ | exact ap2 _)]
 simp (disch:=first|omega|(with_unfolding_all exact rfl)|(simp only[new_n,put_n,new_m];omega)|(refine put_m_le ?_;simp only[new_m];omega)) only [K9r16,Abs.W,reduceIte,Nat.reduceEqDiff,Nat.reduceAdd,decide_true,decide_false,kLoop_def,Nat.reduceSub,List.cons_append,List.nil_append,List.append_nil,List.length_cons,List.length_nil,Env.find_set,k9,ad,regD_ok]
 generalize hz:St.put (St.put (St.put t6 p7 _) p7 _) p7 _=t8
 have t8n:t8.n=t6.n:=by rw [← hz];rfl
 have t8m:t8.m=min (min (min t6.m p7) p7) p7:=by rw [← hz];simp only [St.put,minN_eq]
 have t8g:∀ c,c≠p7→t8.h.get c=t6.h.get c:=fun c hc=>by rw [← hz,get_put_ne' _ _ _ _ hc,get_put_ne' _ _ _ _ hc,get_put_ne' _ _ _ _ hc]
 have t87:t8.h.get p7=some (.cells [.slice (y0.n+1) 0 ((ints T.ice).length+1) ((ints T.ice).length+1) true,.slice (t3.n+1) 0 ((vsm.map fun v=>[v]).length+1) ((vsm.map fun v=>[v]).length+1) true,.slice (t4.n+1) 0 ((vsc.map fun v=>[v]).length+1) ((vsc.map fun v=>[v]).length+1) true,.slice (t5.n+1) 0 ((vsw.map fun v=>[v]).length+1) ((vsw.map fun v=>[v]).length+1) true,ve] z7):=by rw [← hz];exact get_put_eq _ _ _ _ rfl (by omega)
 clear hz
 have f8:∀ c,c<t3.n→c≠bb→c≠bc→c≠bd→c≠p7→t8.h.get c=t3.h.get c:=fun c hc h1 h2 h3 h4=>(t8g c h4).trans (f36 c hc h1 h2 h3)
 have R':∀ x,x<t3.n→Rest lo ba bb bc bd x→x≠y0.n+1→t8.h.get x=t3.h.get x∧Rest lo (y0.n+1) (t3.n+1) (t4.n+1) (t5.n+1) x:=fun x hx ⟨r1,r2,r3,r4,r5⟩ hne=>⟨f8 x hx r3 r4 r5 (by omega),r1,hne,by omega,by omega,by omega⟩
 have row:∀ {b:Nat} {l:List Int} {v:AV},t2.n≤b→b<t3.n→IntsAt t3.h t3.n b l v→IntsAt t8.h t8.n b l v∧Rest lo (y0.n+1) (t3.n+1) (t4.n+1) (t5.n+1) b:=fun {b l v} h1 h2 I =>
  ⟨I.mono (fun _=>f8 b h2 (fr b (by omega) (by omega)).1.2 (fr b (by omega) (by omega)).2.1 (fr b (by omega) (by omega)).2.2 (by omega)) (by omega),by omega,by omega,by omega,by omega,by omega⟩
 have old:∀ {tab:List (List Int)} {vs:List AV},(∀ j (h1:j<vs.length) (h2:j<tab.length),∃ x,(Rest lo ba bb bc bd x∧x<s.n)∧IntsAt t3.h t3.n x tab[j] vs[j]∧tab[j]≠[]) →
   ∀ j (h1:j<vs.length) (h2:j<tab.length),∃ x,Rest lo (y0.n+1) (t3.n+1) (t4.n+1) (t5.n+1) x∧IntsAt t8.h t8.n x tab[j] vs[j]∧tab[j]≠[]:=fun {tab vs} h j h1 h2=>by
  obtain ⟨x,⟨x1,x2⟩,x3,x4⟩:=h j h1 h2
  obtain ⟨r1,r2⟩:=R' x (by omega) x1 (by omega)
  exact ⟨x,r2,x3.mono (fun _=>r1) (by omega),x4⟩
 obtain ⟨J1,N1⟩:=row hb1 q1 I1
 obtain ⟨J2,N2⟩:=row hb2 q2 I2
 obtain ⟨J3,N3⟩:=row hb3 q3 I3
 have c2':=c2.mono (h':=t8.h) (n':=t8.n) (fun _=>(t8g _ (by omega)).trans ((f6 _ (by omega) (fr _ (by omega) (by omega)).2.2).trans (f5 _ (by omega) (fr _ (by omega) (by omega)).2.1))) (by omega)
 have d2':=d2.mono (h':=t8.h) (n':=t8.n) (fun _=>(t8g _ (by omega)).trans (f6 _ (by omega) (fr _ (by omega) (by omega)).2.2)) (by omega)
 have e2':=e2.mono (h':=t8.h) (n':=t8.n) (fun _=>t8g _ (by omega)) (by omega)
 have Ia8:=Ia.mono (h':=t8.h) (n':=t8.n) (fun _=>f8 _ (by omega) (fr _ (by omega) (by omega)).1.2 (fr _ (by omega) (by omega)).2.1 (fr _ (by omega) (by omega)).2.2 (by omega)) (by omega)
 rw [← hei]
 refine ⟨_,t8,y0.n+1,t3.n+1,t4.n+1,t5.n+1,x,y,w,_,_,_,_,rfl,fun t ht=>?_,?_,⟨t87,Ia8,TabUp.push sm1 c2' (old sm3) N1 J1 (nonnil x xl),TabUp.push sc1 d2' (old sc3) N2 J2 (nonnil y yl),TabUp.push sw1 e2' (old sw3) N3 J3 (nonnil w wl),⟨by omega,by omega,by omega,by omega⟩,⟨.inl (by omega),.inl (by omega),.inl (by omega),.inl (by omega)⟩,⟨by omega,by omega,by omega,by omega,by omega,by omega⟩,by simp [Truth.push,len1,len2,len3]⟩,⟨xl,yl,wl⟩,vals,fun c hc hcp=>?_,by omega,by omega,fun k hk hm=>?_,?_⟩
 ·rcases ht with rfl | rfl | rfl | rfl | rfl<;>simp only [Env.find_set,reduceIte,Nat.reduceEqDiff]
  ·exact k1.trans l1.symm
  ·exact (lk 2 (by simp)).trans (by simp only [Env.find_set,reduceIte,Nat.reduceEqDiff])
  ·exact (lk 3 (by simp)).trans (by simp only [Env.find_set,reduceIte,Nat.reduceEqDiff])
  ·exact (lk 6 (by simp)).trans (by simp only [Env.find_set,reduceIte,Nat.reduceEqDiff])
  ·exact k7.trans l7.symm
 ·simp only [Env.find_set,reduceIte,Nat.reduceEqDiff]
 ·rw [f8 c (by omega) (by omega) (by omega) (by omega) hcp]
  exact f3 c (by omega) (by omega) hcp
 ·rw [new_m] at a6 c6 d6 e6
  have h1:=a5 k (by omega) (by omega) (by rw [new_m];omega)
  have h2:=m3 k (by omega) (by omega)
  have h3:=c5 k (by omega) (by omega) (by rw [new_m];exact h2)
  have h4:=d5 k (by omega) (by omega) (by rw [new_m];exact h3)
  have h5:=e5 k (by omega) (by omega) (by rw [new_m];exact h4)
  omega
 ·rw [new_m] at c6 d6 e6
  omega
end Go.Proofs.Ytlfalcghhckanab.walk
