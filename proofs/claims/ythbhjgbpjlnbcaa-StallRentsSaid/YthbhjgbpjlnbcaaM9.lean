/- The law StallDrawn: its rounds. -/
import Derived.Test.YthbhjgbpjlnbcaaM7
import Derived.Test.YthbhjgbpjlnbcaaM5
import Derived.Test.YthbhjgbpjlnbcaaM8
import Derived.Test.YthbhjgbpjlnbcaaM6
import Derived.Test.YthbhjgbpjlnbcaaCodes
import Derived.Test.YthbhjgbpjlnbcaaM3
import Derived.Test.YthbhjgbpjlnbcaaProg
import Derived.Tactics
import Derived.Tactics2
import Derived.WalkKit
import Derived.OpenShut
import Derived.Below
import Derived.Lib.Hide
import Derived.KernelRfl
import Derived.Deep.RegionHeld3
import Derived.OwnWalk
import Derived.StillTailTactics
import Derived.Test.YthbhjgbpjlnbcaaAbsTop
import Derived.Test.YthbhjgbpjlnbcaaAbsWalk
import Derived.Test.YthbhjgbpjlnbcaaAwake
import Derived.Test.YthbhjgbpjlnbcaaWalkAll
set_option linter.unusedSimpArgs false
set_option maxHeartbeats 16000000
set_option linter.unusedVariables false
set_option maxRecDepth 10000
namespace Go.Proofs.Ythbhjgbpjlnbcaa.walk
open Go.Abs Go.Proofs.Ythbhjgbpjlnbcaa.code
noncomputable abbrev awd (n:Nat):CallF:=knows 14 (call Try.prog X n)
def MetS (h:Heap) (n bm lo:Nat) (M:List (List Nat)) (v:AV):Prop :=
 ∃ vs:List AV,vs.length=M.length∧IsAt h n bm 1 (tag 22) (vs.map fun v=>[v]) v∧∀ j (h1:j<vs.length) (h2:j<M.length),Sl (fun x=>lo≤x∧x≠bm) h n 1 (natRows M[j]) vs[j]
section
variable {h h':Heap} {n n' bm lo:Nat} {M:List (List Nat)} {v:AV}
theorem MetS.nil (h:Heap) (n bm lo:Nat):MetS h n bm lo [] .nilslice:=⟨[],rfl,IsAt.nil _ _ _ _ _,fun j h1 _=>by simp at h1⟩
theorem MetS.move (a:MetS h n bm lo M v) (hb:bm<n→lo≤bm) (hh:∀ c,c<n→lo≤c→h'.get c=h.get c) (hn:n≤n'):MetS h' n' bm lo M v:=by
 obtain ⟨vs,h1,h2,h3⟩:=a
 exact ⟨vs,h1,h2.mono (fun h=>hh _ h (hb h)) hn,fun j j1 j2=>(h3 j j1 j2).move (fun c hc hl=>⟨hh c hc hl.1,hl⟩) hn⟩
theorem MetS.okA (a:MetS h n bm lo M v) (t:St):Abs.okA (.val v t)=.val v t:=by obtain ⟨rows,h1,h2,h3⟩:=a;exact h2.okA t
theorem MetS.len (a:MetS h n bm lo M v) (s:St):lenSlA s v=.val (.int .i64 (M.length:Int)) s:=by
 obtain ⟨vs,h1,h2,h3⟩:=a
 have:=h2.rows.at_.len s
 rw [List.length_map,h1] at this
 exact this
theorem MetS.get (a:MetS h n bm lo M v) {j:Nat} (hj:j<M.length) :
  ∃ w p c sz,Sl (fun x=>lo≤x∧x≠bm) h n 1 (natRows M[j]) w∧(∀ s,ixsA 1 s v (.int .i64 (j:Int))=.val (.ptr bm p) s)∧h.get bm=some (.cells c sz)∧nth c p=w:=by
 obtain ⟨vs,h1,h2,h3⟩:=a
 have hr:j<vs.length:=by omega
 rcases h2.is with ⟨z,_⟩ | ⟨_,z1,z2,z3⟩
 ·rw [List.map_eq_nil_iff] at z
  subst z
  simp at hr
 ·refine ⟨vs[j],0+j * 1,_,_,h3 j hr hj,fun s=>by rw [z2];exact ixs_slice 1 s bm 0 _ _ true j (by rw [List.length_map];exact hr),z3,?_⟩
  rw [Nat.zero_add]
  have:=flatten_cut (rows:=vs.map fun v=>[v]) (w:=1) (i:=j) h2.wide (by rw [List.length_map];exact hr)
  exact cut1_nth (this.trans (by simp))
end
theorem MetS.push {s:St} {bm lo:Nat} {M:List (List Nat)} {v:AV} (a:MetS s.h s.n bm lo M v) {l:List Nat} {w:AV} (hw:Sl (fun x=>lo≤x∧x≠bm) s.h s.n 1 (natRows l) w) {p sz:Nat} (hp:s.h.get p=some (.cells [w] sz)) (hl:M.length+1≤1000) (hs:s.n+10≤far) :
  ∃ v' s',appendA false 1 24 (tag 22) s v (.slice p 0 1 1 false)=.val v' s'∧MetS s'.h s'.n s.n lo (M++[l]) v'∧s'.n=s.n+1∧(∀ c,c<s.n→c≠bm→s'.h.get c=s.h.get c):=by
 have hf:far=1000000000:=rfl
 obtain ⟨vs,h1,h2,h3⟩:=a
 obtain ⟨s',e1,e2,e3,e4,e5,e6⟩:=append_at (bytes:=24) h2 hp rfl hw.scal.1 (by rw [List.length_map];omega) (by kernel_rfl) (by omega)
 have mv:∀ {l:List Nat} {w:AV},Sl (fun x=>lo≤x∧x≠bm) s.h s.n 1 (natRows l) w→Sl (fun x=>lo≤x∧x≠s.n) s'.h s'.n 1 (natRows l) w:=fun q=>q.move (fun b b1 b2=>⟨e4 b b1 b2.2,b2.1,by omega⟩) (by omega)
 refine ⟨_,s',e1,⟨vs++[w],by simp [h1],?_,fun j j1 j2=>?_⟩,e3,e4⟩
 ·rw [List.map_append];exact e2
 ·by_cases e:j<vs.length
  ·rw [List.getElem_append_left e,List.getElem_append_left (by omega)]
   exact mv (h3 j e (by omega))
  ·have hj:j=vs.length:=by rw [List.length_append,List.length_singleton] at j1;omega
   subst hj
   rw [List.getElem_append_right (Nat.le_refl _),List.getElem_append_right (by omega)]
   simp only [h1,Nat.sub_self,List.getElem_singleton]
   exact mv hw
/-! ### The draw has each once -/
def draws (n base from_ j:Nat):List (List Nat):=(List.range j).map fun i=>pickL n (base+from_+i) (List.range n)
structure DrawnJ (w t:St) (p4 lo bS bA who bm n base from_ j kk:Nat) (l:Letting) (vS vA vm:AV):Prop where
 own:∃ x,0≤x∧x≤1000000000∧LetOwn t.h w.n lo bS bA (l.withTok who x) vS vA
 g4:t.h.get p4=some (.cells [vS,vA] (tag 28))
 met:MetS t.h t.n bm w.n (draws n base from_ j) vm
 bmc:(w.n≤bm∧bm<t.n)∨far<bm
 n:w.n≤t.n
 le:t.n≤w.n+kk
end Go.Proofs.Ythbhjgbpjlnbcaa.walk
set_option maxRecDepth 10000
namespace Go.Proofs.Ythbhjgbpjlnbcaa.walk
open Go.Abs Go.Proofs.Ythbhjgbpjlnbcaa.code
theorem bid_at {l:Letting} (ok:l.Ok) {a st:Nat} (ha:a<l.appls.length) (hc:canI l st a=true):∃ k,∃ (h1:k<l.appls[a].wishes.length) (h2:k<l.appls[a].bids.length),l.appls[a].wishes[k]=(st:Int)∧(bidI l st a).1=l.appls[a].bids[k]:=by
 have A:=ok.ap _ (List.getElem_mem ha)
 have h1:(bidOf (st:Int) (reachOf l.stalls (applAt l a))).2=true:=hc
 obtain ⟨x,hx,hxs⟩:=(bidOf_iff (st:Int) _).mp h1
 have hb:=bidOf_of (reach_nodup ok ha) hx
 rw [hxs] at hb
 have e0:bidI l st a=(x.2,true):=hb
 rw [applAt_of ha] at hx
 unfold reachOf at hx
 obtain ⟨z1,_⟩:=List.mem_filter.mp hx
 obtain ⟨k,hk,he⟩:=List.getElem_of_mem z1
 rw [List.length_zip] at hk
 rw [List.getElem_zip] at he
 have k1:k<l.appls[a].wishes.length:=by omega
 have k2:k<l.appls[a].bids.length:=by omega
 refine ⟨k,k1,k2,?_,?_⟩
 ·rw [← hxs,← he]
 ·rw [e0,← he]
def dueI (S:StallR) (A:Appl) (st j:Nat):Int:=if S.rule=3∧(st:Int) ∈ A.wishes.take j then A.bids.getD (A.wishes.idxOf (st:Int)) 0 else S.least
theorem due_rent {l:Letting} (ok:l.Ok) {hs:List Int} (V:ValidH l hs) {i:Nat} (hi:i<hs.length) {a:Nat} (ha:hs[i]=a) (hal:a<l.appls.length) (hc:canI l i a=true):rentI l hs i=dueI (stallAt l.stalls i) l.appls[a] i l.appls[a].wishes.length∧(stallAt l.stalls i).least≤rentI l hs i:=by
 have A:=ok.ap _ (List.getElem_mem hal)
 have hst:i<l.stalls.length:=by rw [← V.len];exact hi
 have hgd:hs.getD i (-1)=hs[i]:=by simp [List.getD,hi]
 have e1:rentI l hs i=if (stallAt l.stalls i).rule=3 then (bidI l i a).1 else (stallAt l.stalls i).least:=by
  unfold rentI
  rw [hgd,ha,if_neg (by omega),Int.toNat_natCast]
 obtain ⟨k,h1,h2,h3,h4⟩:=bid_at ok hal hc
 obtain ⟨k',h1',h2',hidx,hb⟩:=can_idx ok hal hst hc
 have hm:(i:Int) ∈ l.appls[a].wishes:=by rw [← h3];exact List.getElem_mem h1
 have ek:k'=k:=by
  have e2:l.appls[a].wishes[k']=(i:Int):=by
   have:=List.getElem_idxOf (List.idxOf_lt_length_of_mem hm)
   simp only [hidx] at this
   exact this
  exact (List.getElem_inj A.nd).mp (by rw [e2,h3])
 subst ek
 have est:stallAt l.stalls (i:Int)=l.stalls[i]:=by unfold stallAt;simp [List.getD,hst]
 rw [e1]
 unfold dueI
 rw [List.take_length,hidx,est]
 have gd:l.appls[a].bids.getD k' 0=l.appls[a].bids[k']:=by simp [List.getD,h2]
 by_cases hr:l.stalls[i].rule=3
 ·rw [if_pos hr,if_pos ⟨hr,hm⟩,gd,h4]
  exact ⟨rfl,hb hr⟩
 ·rw [if_neg hr,if_neg (fun h=>hr h.1)]
  exact ⟨rfl,Int.le_refl _⟩
theorem rents_inner (N:Nat) {cx:Ctx} {w:St} {i p11 p12:Nat} {S:StallR} {A:Appl} {a1 a2 wv bv:AV} {no:Nat→Prop} {L:Env} {r:R} (hr:loopN K10l0 rounds (awd N) cx L [] w=r) (g11:w.h.get p11=some (.cells S.cells (tag 53))) (g12:w.h.get p12=some (.cells [a1,a2,wv,bv] (tag 37))) (hW:Sl no w.h w.n 1 (intRows A.wishes) wv) (hB:Sl no w.h w.n 1 (intRows A.bids) bv) (hwl:A.wishes.length≤8) (hbl:A.bids.length=A.wishes.length) (nd:A.wishes.Nodup) (hm:w.m≤far) (hs:w.n+100≤far)
  (q10:L.find 10=.int .i64 (i:Nat)) (q11:L.find 11=.ptr p11 0) (q12:L.find 12=.ptr p12 0) (q13:L.find 13=.int .i64 S.least) (q14:L.find 14=.int .i64 (0:Nat)) :
  ∃ L1,r=.done (.exit 2) L1 [] w∧L1.find 13=.int .i64 (dueI S A i A.wishes.length)∧∀ c,c<13→L1.find c=L.find c:=by
 have hf:far=1000000000:=rfl
 have kW:=hW.okA
 have lW:=rowLen hW.at_
 have kB:=hB.okA
 unfold StallR.cells at g11
 obtain ⟨e,L1,t,rfl,rfl,rfl,h1,h2⟩:=loop_of hr (fun j L' t'=>t'=w∧L'.find 13=.int .i64 (dueI S A i j)∧L'.find 14=.int .i64 (j:Nat)∧∀ c,c<13→L'.find c=L.find c) (fun e L' t'=>e=.exit 2∧t'=w∧L'.find 13=.int .i64 (dueI S A i A.wishes.length)∧∀ c,c<13→L'.find c=L.find c) A.wishes.length (by unfold rounds;omega)
  ⟨rfl,by rw [q13];unfold dueI;simp,q14,fun _ _=>rfl⟩
  (fun j L' t' hj ⟨hw,p13,p14,q⟩=>by
   subst hw
   have p10:=(q 10 (by omega)).trans q10
   have p11':=(q 11 (by omega)).trans q11
   have p12':=(q 12 (by omega)).trans q12
   by_cases hlt:j<A.wishes.length
   ·have e0:decide ((j:Int)<(A.wishes.length:Int))=true:=decide_eq_true (by omega)
    have ad:∀ s,aAdd s .i64 (j:Int) 1=.val (.int .i64 ((j:Int)+1)) s:=fun s=>aAdd_i64 s _ _ (by omega)
    obtain ⟨b1,o1,c1,s1,x1,x2,x3,x4⟩:=rowInt hW.at_ hlt
    obtain ⟨b2,o2,c2,s2,y1,y2,y3,y4⟩:=rowInt hB.at_ (show j<A.bids.length by omega)
    have etk:A.wishes.take (j+1)=A.wishes.take j++[A.wishes[j]]:=take_snoc hlt
    have u5:=fun cl L s=>congrFun (congrFun (congrFun K10r22s5.eq_1 cl) L) s
    have u6:=fun cl L s=>congrFun (congrFun (congrFun K10r22s6.eq_1 cl) L) s
    have u7:=fun cl L s=>congrFun (congrFun (congrFun K10r22s7.eq_1 cl) L) s
    have u8:=fun cl L s=>congrFun (congrFun (congrFun K10r22s8.eq_1 cl) L) s
    have u9:=fun cl L s=>congrFun (congrFun (congrFun K10r22s9.eq_1 cl) L) s
    have u10:=fun cl L s=>congrFun (congrFun (congrFun K10r22s10.eq_1 cl) L) s
    have u11:=fun cl L s=>congrFun (congrFun (congrFun K10r22s11.eq_1 cl) L) s
    by_cases h3:S.rule=3
    ·have e1:decide (S.rule=3)=true:=decide_eq_true h3
     by_cases he:A.wishes[j]=(i:Int)
     ·have e2:decide (A.wishes[j]=(i:Int))=true:=decide_eq_true he
      have hidx:A.wishes.idxOf (i:Int)=j:=idx_at hlt he fun y hy hye=>not_mem_take nd hlt (by rw [he,← hye];exact hy)
      have hd:dueI S A i (j+1)=A.bids[j]'(by omega):=by
       unfold dueI
       rw [if_pos ⟨h3,by rw [etk,he];simp⟩,hidx]
       simp [List.getD,show j<A.bids.length by omega]
      refine .inl ⟨hlt,_,t',by
       simp (disch:=first|omega|(with_unfolding_all exact rfl)|(simp only[new_n,put_n,new_m];omega)|(refine put_m_le ?_;simp only[new_m];omega)) only [K10l0,K10r21,K10r22,K10r23,K10r24,u5,u6,u7,u8,u9,u10,u11,Abs.W,reduceIte,Nat.reduceEqDiff,Nat.reduceAdd,decide_true,decide_false,kLoop_def,Nat.reduceSub,List.cons_append,List.nil_append,List.append_nil,List.length_cons,List.length_nil,Env.find_set,p10,p11',p12',p13,p14,g11,g12,kW,lW,kB,e0,e1,x2,x3,x4,e2,y2,y3,y4,ad,Nat.zero_add]
       rfl,rfl,?_,?_,fun c hc=>?_⟩
      ·simp only [Env.find_set,reduceIte,Nat.reduceEqDiff];rw [hd]
      ·simp only [Env.find_set,reduceIte,Nat.reduceEqDiff];rfl
      ·simp only [Env.find_set]
       repeat rw [if_neg (by omega)]
       exact q c hc
     ·have e2:decide (A.wishes[j]=(i:Int))=false:=decide_eq_false he
      have hd:dueI S A i (j+1)=dueI S A i j:=by
       unfold dueI
       rw [etk]
       simp only [List.mem_append,List.mem_singleton,show ((i:Int)=A.wishes[j])=False from eq_false (fun h=>he h.symm),or_false]
      refine .inl ⟨hlt,_,t',by
       simp (disch:=first|omega|(with_unfolding_all exact rfl)|(simp only[new_n,put_n,new_m];omega)|(refine put_m_le ?_;simp only[new_m];omega)) only [K10l0,K10r21,K10r22,K10r24,u5,u6,u7,u8,u9,u10,u11,Abs.W,reduceIte,Nat.reduceEqDiff,Nat.reduceAdd,decide_true,decide_false,kLoop_def,Nat.reduceSub,List.cons_append,List.nil_append,List.append_nil,List.length_cons,List.length_nil,Env.find_set,p10,p11',p12',p13,p14,g11,g12,kW,lW,e0,e1,x2,x3,x4,e2,ad,Nat.zero_add]
       rfl,rfl,?_,?_,fun c hc=>?_⟩
      ·simp only [Env.find_set,p13,reduceIte,Nat.reduceEqDiff];rw [hd]
      ·simp only [Env.find_set,reduceIte,Nat.reduceEqDiff];rfl
      ·simp only [Env.find_set]
       repeat rw [if_neg (by omega)]
       exact q c hc
    ·have e1:decide (S.rule=3)=false:=decide_eq_false h3
     have hd:dueI S A i (j+1)=dueI S A i j:=by
      unfold dueI
      rw [if_neg (fun h=>h3 h.1),if_neg (fun h=>h3 h.1)]
     refine .inl ⟨hlt,_,t',by
      simp (disch:=first|omega|(with_unfolding_all exact rfl)|(simp only[new_n,put_n,new_m];omega)|(refine put_m_le ?_;simp only[new_m];omega)) only [K10l0,K10r21,K10r22,K10r24,u5,u6,u7,u8,u9,u10,u11,Abs.W,reduceIte,Nat.reduceEqDiff,Nat.reduceAdd,decide_true,decide_false,kLoop_def,Nat.reduceSub,List.cons_append,List.nil_append,List.append_nil,List.length_cons,List.length_nil,Env.find_set,p10,p11',p12',p13,p14,g11,g12,kW,lW,e0,e1,ad,Nat.zero_add]
      rfl,rfl,?_,?_,fun c hc=>?_⟩
     ·simp only [Env.find_set,p13,reduceIte,Nat.reduceEqDiff];rw [hd]
     ·simp only [Env.find_set,reduceIte,Nat.reduceEqDiff];rfl
     ·simp only [Env.find_set]
      repeat rw [if_neg (by omega)]
      exact q c hc
   ·obtain rfl:j=A.wishes.length:=by omega
    have e0:decide ((A.wishes.length:Int)<(A.wishes.length:Int))=false:=by simp
    refine .inr ⟨.exit 2,L'.set 105 (.bool false),t',by simp,?_,rfl,rfl,?_,fun c hc=>?_⟩
    ·simp (disch:=first|omega|(with_unfolding_all exact rfl)|(simp only[new_n,put_n,new_m];omega)|(refine put_m_le ?_;simp only[new_m];omega)) only [K10l0,K10r21,Abs.W,reduceIte,Nat.reduceEqDiff,Nat.reduceAdd,decide_true,decide_false,kLoop_def,Nat.reduceSub,List.cons_append,List.nil_append,List.append_nil,List.length_cons,List.length_nil,Env.find_set,p12',p14,g12,kW,lW,e0,Nat.zero_add]
    ·simp only [Env.find_set,p13,reduceIte,Nat.reduceEqDiff]
    ·simp only [Env.find_set]
     rw [if_neg (by omega)]
     exact q c hc)
 exact ⟨L1,rfl,h1,h2⟩
theorem rents_loop (N:Nat) {cx:Ctx} {w:St} {p4 z4:Nat} {l:Letting} {vS vA vX vY:AV} {no na nx ny:Nat→Prop} {hs:List Int} {L:Env} {r:R} (hr:loopN K10l1 rounds (awd N) cx L [] w=r) (ok:l.Ok) (V:ValidH l hs) (hL:LetAt no na w.h w.n l vS vA) (g4:w.h.get p4=some (.cells [vS,vA] z4)) (hp:p4<w.n) (hX:Sl nx w.h w.n 1 (intRows hs) vX) (hY:Sl ny w.h w.n 1 (intRows (rentL l hs l.stalls.length)) vY) (hm:w.m≤far) (hs':w.n+1000≤far)
  (q4:L.find 4=.ptr p4 0) (q5:L.find 5=vX) (q8:L.find 8=vY) (q10:L.find 10=.int .i64 (0:Nat)) :
  ∃ L1 t,r=.done (.exit 0) L1 [] t:=by
 have hf:far=1000000000:=rfl
 have k1:=ok.k1
 have vl:=V.len
 have kA:=hL.okV
 have kS:=hL.okS
 have lA:=hL.lenA
 have kX:=hX.okA
 have kY:=hY.okA
 have rl:=rentL_len l hs l.stalls.length
 have lY:∀ s,lenSlA s vY=.val (.int .i64 (l.stalls.length:Int)) s:=fun s=>by
  have:=rowLen hY.at_ s
  rwa [rl] at this
 obtain ⟨e,L1,t,rfl,rfl⟩:=loop_of hr (fun i L' t'=>(∀ c,c<w.n→t'.h.get c=w.h.get c)∧w.n≤t'.n∧t'.n≤w.n+2 * i∧t'.m≤far∧L'.find 10=.int .i64 (i:Nat)∧∀ c,c<10→L'.find c=L.find c) (fun e L' t'=>e=.exit 0) l.stalls.length (by unfold rounds;omega)
  ⟨fun _ _=>rfl,Nat.le_refl _,by omega,hm,q10,fun _ _=>rfl⟩
  (fun i L' t hi ⟨same,jn,jle,jml,p10,q⟩=>by
   have p8:=(q 8 (by omega)).trans q8
   by_cases hlt:i<l.stalls.length
   ·have e0:decide ((i:Int)<(l.stalls.length:Int))=true:=decide_eq_true (by omega)
    have p4':=(q 4 (by omega)).trans q4
    have p5:=(q 5 (by omega)).trans q5
    have ad:∀ s,aAdd s .i64 (i:Int) 1=.val (.int .i64 ((i:Int)+1)) s:=fun s=>aAdd_i64 s _ _ (by omega)
    have hih:i<hs.length:=by omega
    have hXt:=hX.grow same jn
    have hYt:=hY.grow same jn
    have hLt:=hL.grow same jn
    have t4:=(same p4 hp).trans g4
    obtain ⟨b1,o1,c1,s1,x1,x2,x3,x4⟩:=rowInt hXt.at_ hih
    obtain ⟨b2,o2,c2,s2,y1,y2,y3,y4⟩:=rowInt hYt.at_ (show i<(rentL l hs l.stalls.length).length by omega)
    have hry:(rentL l hs l.stalls.length)[i]'(by omega)=rentI l hs i:=by
     unfold rentL
     rw [List.getElem_map,List.getElem_range,if_pos hlt]
    rw [hry] at y4
    obtain ⟨ps,os,cs,zs,⟨pl,_⟩,r1,r2,r3⟩:=hLt.getS2 hlt
    have est:stallAt l.stalls (i:Int)=l.stalls[i]:=by unfold stallAt;simp [List.getD,hlt]
    obtain ⟨y,hy⟩:∃ y:St,y=(t.new (.cells [.int .i64 0,.int .i64 0,.int .i64 0] (tag 53))).put t.n (.cells [.int .i64 l.stalls[i].rule,.int .i64 l.stalls[i].least,.int .i64 l.stalls[i].heir] (tag 53)):=⟨_,rfl⟩
    have yn:y.n=t.n+1:=by rw [hy];rfl
    have ym:y.m≤t.m:=by rw [hy];simp only [St.put,minN_eq,new_m];omega
    have yg:∀ c,c<t.n→y.h.get c=t.h.get c:=fun c hc=>by rw [hy,get_put_ne' _ _ _ _ (by omega),get_new_ne _ _ _ (by omega)]
    have yp:y.h.get t.n=some (.cells [.int .i64 l.stalls[i].rule,.int .i64 l.stalls[i].least,.int .i64 l.stalls[i].heir] (tag 53)):=by rw [hy];exact get_put_eq _ _ _ _ rfl (by omega)
    have yx:=(yg b1 x1).trans x3
    have yy:=(yg b2 y1).trans y3
    have y4':=(yg p4 (by omega)).trans t4
    rcases V.can i hih with h | ⟨a,h,ha,hc⟩
    ·have hr0:rentI l hs i=0:=by
      unfold rentI
      rw [show hs.getD i (-1)=hs[i] by simp [List.getD,hih],if_pos h]
     rw [h] at x4
     rw [hr0] at y4
     have e1:decide ((-1:Int)<0)=true:=rfl
     have e2:decide ((0:Int)=0)=true:=rfl
     refine .inl ⟨hlt,_,y,by
      simp (disch:=first|omega|(with_unfolding_all exact rfl)|(simp only[new_n,put_n,new_m];omega)|(refine put_m_le ?_;simp only[new_m];omega)) only [K10l1,K10r11,K10r12,Abs.W,reduceIte,Nat.reduceEqDiff,Nat.reduceAdd,decide_true,decide_false,kLoop_def,Nat.reduceSub,List.cons_append,List.nil_append,List.append_nil,List.length_cons,List.length_nil,Env.find_set,p4',p5,p8,p10,t4,kS,kY,lY,e0,r1,r2,r3,Nat.zero_add]
      rw [← hy]
      simp (disch:=first|omega|(with_unfolding_all exact rfl)|(simp only[new_n,put_n,new_m];omega)|(refine put_m_le ?_;simp only[new_m];omega)) only [K10r13,K10r14,K10r27,Abs.W,reduceIte,Nat.reduceEqDiff,Nat.reduceAdd,decide_true,decide_false,kLoop_def,Nat.reduceSub,List.cons_append,List.nil_append,List.append_nil,List.length_cons,List.length_nil,Env.find_set,p5,p8,p10,kX,kY,x2,yx,x4,e1,y2,yy,y4,e2,ad,Nat.zero_add]
      rfl,fun c hc=>(yg c (by omega)).trans (same c hc),by omega,by omega,by omega,?_,fun c hc=>?_⟩
     ·simp only [Env.find_set,reduceIte,Nat.reduceEqDiff];rfl
     ·simp only [Env.find_set]
      repeat rw [if_neg (by omega)]
      exact q c hc
    ·rw [h] at x4
     have e1:decide ((a:Int)<0)=false:=decide_eq_false (by omega)
     have e2:decide ((l.appls.length:Int)≤(a:Int))=false:=decide_eq_false (by omega)
     obtain ⟨hdue,hleast⟩:=due_rent ok V hih h ha hc
     rw [est] at hdue hleast
     have A0:=ok.ap _ (List.getElem_mem ha)
     obtain ⟨ww,pa,oa,ca,za,⟨pal,_⟩,a1,a2,a3,a4,a5⟩:=hLt.getA2 ha
     obtain ⟨w1,w2⟩:=ww
     simp only at a3 a4 a5
     have ya:=(yg pa pal).trans a2
     have sw1:=a4.scal
     have sw2:=a5.scal
     obtain ⟨z,hz⟩:∃ z:St,z=(y.new (.cells [.int .i64 0,.int .i64 0,.nilslice,.nilslice] (tag 37))).put y.n (.cells [.int .i64 l.appls[a].years,.int .i64 l.appls[a].token,w1,w2] (tag 37)):=⟨_,rfl⟩
     have zn:z.n=y.n+1:=by rw [hz];rfl
     have zm:z.m≤y.m:=by rw [hz];simp only [St.put,minN_eq,new_m];omega
     have zg:∀ c,c<y.n→z.h.get c=y.h.get c:=fun c hc=>by rw [hz,get_put_ne' _ _ _ _ (by omega),get_new_ne _ _ _ (by omega)]
     have zp:z.h.get y.n=some (.cells [.int .i64 l.appls[a].years,.int .i64 l.appls[a].token,w1,w2] (tag 37)):=by rw [hz];exact get_put_eq _ _ _ _ rfl (by omega)
     have zt:∀ c,c<t.n→z.h.get c=t.h.get c:=fun c hc=>(zg c (by omega)).trans (yg c hc)
     have z11:=(zg t.n (by omega)).trans yp
     have zy:=(zt b2 y1).trans y3
     simp (disch:=first|omega|(with_unfolding_all exact rfl)|(simp only[new_n,put_n,new_m];omega)|(refine put_m_le ?_;simp only[new_m];omega)) only [K10l1,K10r11,K10r12,Abs.W,reduceIte,Nat.reduceEqDiff,Nat.reduceAdd,decide_true,decide_false,kLoop_def,Nat.reduceSub,List.cons_append,List.nil_append,List.append_nil,List.length_cons,List.length_nil,Env.find_set,p4',p5,p8,p10,t4,kS,kY,lY,e0,r1,r2,r3,Nat.zero_add]
     rw [← hy]
     simp (disch:=first|omega|(with_unfolding_all exact rfl)|(simp only[new_n,put_n,new_m];omega)|(refine put_m_le ?_;simp only[new_m];omega)) only [K10r13,K10r16,K10r18,Abs.W,reduceIte,Nat.reduceEqDiff,Nat.reduceAdd,decide_true,decide_false,kLoop_def,Nat.reduceSub,List.cons_append,List.nil_append,List.append_nil,List.length_cons,List.length_nil,Env.find_set,p4',p5,p8,p10,kX,kY,kA,lA,x2,yx,x4,e1,e2,y4',a1,ya,a3,sw1.1,sw1.2.1,sw1.2.2,sw2.1,sw2.2.1,sw2.2.2,Nat.zero_add]
     rw [← hz]
     simp (disch:=first|omega|(with_unfolding_all exact rfl)|(simp only[new_n,put_n,new_m];omega)|(refine put_m_le ?_;simp only[new_m];omega)) only [K10r19,K10r20,Abs.W,reduceIte,Nat.reduceEqDiff,Nat.reduceAdd,decide_true,decide_false,kLoop_def,Nat.reduceSub,List.cons_append,List.nil_append,List.append_nil,List.length_cons,List.length_nil,Env.find_set,z11,Nat.zero_add]
     generalize hlp:loopN _ rounds _ _ _ _ _=rl
     obtain ⟨L3,rfl,f13,f3⟩:=rents_inner N (i:=i) (p11:=t.n) (p12:=y.n) (S:=l.stalls[i]) (A:=l.appls[a]) hlp z11 zp (a4.grow zt (by omega)) (a5.grow zt (by omega)) A0.wl A0.bl A0.nd (by omega) (by omega)
      (by simp only [Env.find_set,p10,reduceIte,Nat.reduceEqDiff]) (by simp only [Env.find_set,reduceIte,Nat.reduceEqDiff]) (by simp only [Env.find_set,reduceIte,Nat.reduceEqDiff]) (by simp only [Env.find_set,reduceIte,Nat.reduceEqDiff]) (by simp only [Env.find_set,reduceIte,Nat.reduceEqDiff];rfl)
     rw [← hdue] at f13
     have g8:L3.find 8=vY:=(f3 8 (by omega)).trans (by simp only [Env.find_set,p8,reduceIte,Nat.reduceEqDiff])
     have g10:L3.find 10=.int .i64 (i:Nat):=(f3 10 (by omega)).trans (by simp only [Env.find_set,p10,reduceIte,Nat.reduceEqDiff])
     have g11:L3.find 11=.ptr t.n 0:=(f3 11 (by omega)).trans (by simp only [Env.find_set,reduceIte,Nat.reduceEqDiff])
     have e5:decide (rentI l hs i=rentI l hs i)=true:=by simp
     have e6:decide (rentI l hs i<l.stalls[i].least)=false:=decide_eq_false (by omega)
     have u8:=fun cl L s=>congrFun (congrFun (congrFun K10r25s8.eq_1 cl) L) s
     have u9:=fun cl L s=>congrFun (congrFun (congrFun K10r25s9.eq_1 cl) L) s
     have u10:=fun cl L s=>congrFun (congrFun (congrFun K10r25s10.eq_1 cl) L) s
     have u11:=fun cl L s=>congrFun (congrFun (congrFun K10r25s11.eq_1 cl) L) s
     have u12:=fun cl L s=>congrFun (congrFun (congrFun K10r25s12.eq_1 cl) L) s
     have u13:=fun cl L s=>congrFun (congrFun (congrFun K10r25s13.eq_1 cl) L) s
     have u14:=fun cl L s=>congrFun (congrFun (congrFun K10r25s14.eq_1 cl) L) s
     refine .inl ⟨hlt,_,z,by
      simp (config:={ maxSteps:=2000000 }) (disch:=first|omega|(with_unfolding_all exact rfl)|(simp only[new_n,put_n,new_m];omega)|(refine put_m_le ?_;simp only[new_m];omega)) only [K10r25,u8,u9,u10,u11,u12,u13,u14,K10r27,Abs.W,reduceIte,Nat.reduceEqDiff,Nat.reduceAdd,decide_true,decide_false,kLoop_def,Nat.reduceSub,List.cons_append,List.nil_append,List.append_nil,List.length_cons,List.length_nil,Env.find_set,g8,g10,g11,f13,kY,y2,zy,y4,e5,e6,z11,ad,Nat.zero_add]
      rfl,fun c hc=>(zt c (by omega)).trans (same c hc),by omega,by omega,by omega,?_,fun c hc=>?_⟩
     ·simp only [Env.find_set,reduceIte,Nat.reduceEqDiff];rfl
     ·simp only [Env.find_set]
      repeat rw [if_neg (by omega)]
      rw [f3 c (by omega)]
      simp only [Env.find_set]
      repeat rw [if_neg (by omega)]
      exact q c hc
   ·obtain rfl:i=l.stalls.length:=by omega
    have e0:decide ((l.stalls.length:Int)<(l.stalls.length:Int))=false:=by simp
    refine .inr ⟨.exit 0,L'.set 65 (.bool false),t,by simp,?_,rfl⟩
    simp (disch:=first|omega|(with_unfolding_all exact rfl)|(simp only[new_n,put_n,new_m];omega)|(refine put_m_le ?_;simp only[new_m];omega)) only [K10l1,K10r11,Abs.W,reduceIte,Nat.reduceEqDiff,Nat.reduceAdd,decide_true,decide_false,kLoop_def,Nat.reduceSub,List.cons_append,List.nil_append,List.append_nil,List.length_cons,List.length_nil,Env.find_set,p8,p10,kY,lY,e0])
 exact ⟨L1,t,rfl⟩
end Go.Proofs.Ythbhjgbpjlnbcaa.walk
set_option maxRecDepth 10000
namespace Go.Proofs.Ythbhjgbpjlnbcaa.walk
open Go.Abs Go.Proofs.Ythbhjgbpjlnbcaa.code
noncomputable def renTail:K:=(kSeq (kRegion K10r7 [8,9]) (kSeq (kSeq (kRegion K10r8 [61]) (kCond (.tmp 61) (kSeq (kRegion K10r9 [2]) kRet) kSkip)) (kSeq (kSeq (kRegion K10r10 [10]) (kBlock 0 (kLoop K10l1))) (kSeq (kRegion K10r28 [2]) kRet))))
noncomputable def renRest:K:=(kSeq (kRegion K10r2 [4]) (kSeq (kRegion K10r3 [5,6]) (kSeq (kSeq (kRegion K10r4 [7]) (kSeq (kRegion K10r5 [27]) (kCond (.tmp 27) (kRegion K10r6 [5]) kSkip))) (kSeq (kRegion K10r7 [8,9]) (kSeq (kSeq (kRegion K10r8 [61]) (kCond (.tmp 61) (kSeq (kRegion K10r9 [2]) kRet) kSkip)) (kSeq (kSeq (kRegion K10r10 [10]) (kBlock 0 (kLoop K10l1))) (kSeq (kRegion K10r28 [2]) kRet)))))))
theorem ren_tail (n:Nat) (hn:20≤n) (cx:Ctx) {w:St} {p4 z4:Nat} {l:Letting} {vS vA vX:AV} {no na nx:Nat→Prop} {hs:List Int} {L:Env} (ok:l.Ok) (V:ValidH l hs) (hL:LetAt no na w.h w.n l vS vA) (g4:w.h.get p4=some (.cells [vS,vA] z4)) (hp:p4<w.n) (hX:Sl nx w.h w.n 1 (intRows hs) vX) (hm:w.m≤far) (hs':w.n+1000000≤far)
  (q4:L.find 4=.ptr p4 0) (q5:L.find 5=vX) (q6:L.find 6=.int .i64 0) :
  ∃ s',finA Try.prog Try.f10 (renTail (awd n) cx L [] w)=.val (.bool true) s':=by
 have hf:far=1000000000:=rfl
 have knR:∀ args s,awd n (.fn 31) args s=call Try.prog X n (.fn 31) args s:=fun _ _=>rfl
 have knA:∀ s,awd n (.fn 14) [] s=.val (.bool true) s:=fun _=>rfl
 have kA:=hL.okV
 have kS:=hL.okS
 have lS:=hL.lenS
 have kX:=hX.okA
 have lX:∀ s,lenSlA s vX=.val (.int .i64 (l.stalls.length:Int)) s:=fun s=>by
  have:=rowLen hX.at_ s
  rwa [V.len] at this
 have ex0:∀ (a b:AV) (s:St),extA 0 s (.tup [a,b])=.val a s:=fun _ _ _=>rfl
 have ex1:∀ (a b:AV) (s:St),extA 1 s (.tup [a,b])=.val b s:=fun _ _ _=>rfl
 have okt:∀ (a b:AV) (s:St),okA (.val (.tup [a,b]) s)=.val (.tup [a,b]) s:=fun _ _ _=>rfl
 have z0:decide ((0:Int)=0)=true:=rfl
 have z1:decide ((l.stalls.length:Int)=(l.stalls.length:Int))=true:=by simp
 unfold renTail
 simp (disch:=first|omega|(with_unfolding_all exact rfl)|(simp only[new_n,put_n,new_m];omega)|(refine put_m_le ?_;simp only[new_m];omega)) only [K10r7,Abs.W,reduceIte,Nat.reduceEqDiff,Nat.reduceAdd,decide_true,decide_false,kLoop_def,Nat.reduceSub,List.cons_append,List.nil_append,List.append_nil,List.length_cons,List.length_nil,Env.find_set,q4,q5,g4,kS,kA,kX,knR,Nat.zero_add]
 generalize hc3:call _ _ _ (.fn 31) _ _=r3
 obtain ⟨vY,t3,rfl,s3,SY⟩:=Rents_ex hc3 (by omega) ok V hL hX (by omega)
 have n3:=s3.n
 have k3:=s3.le
 have m3:=s3.m
 have kY:=SY.okA
 have lY:∀ s,lenSlA s vY=.val (.int .i64 (l.stalls.length:Int)) s:=fun s=>by
  have:=rowLen SY.at_ s
  rwa [rentL_len] at this
 have x4:=(s3.same p4 hp).trans g4
 have hL3:=hL.grow s3.same n3
 have hX3:=hX.grow s3.same n3
 have u4:=fun cl L s=>congrFun (congrFun (congrFun K10r8s4.eq_1 cl) L) s
 have u5:=fun cl L s=>congrFun (congrFun (congrFun K10r8s5.eq_1 cl) L) s
 have u8:=fun cl L s=>congrFun (congrFun (congrFun K10r8s8.eq_1 cl) L) s
 have u9:=fun cl L s=>congrFun (congrFun (congrFun K10r8s9.eq_1 cl) L) s
 have u10:=fun cl L s=>congrFun (congrFun (congrFun K10r8s10.eq_1 cl) L) s
 have u11:=fun cl L s=>congrFun (congrFun (congrFun K10r8s11.eq_1 cl) L) s
 have u12:=fun cl L s=>congrFun (congrFun (congrFun K10r8s12.eq_1 cl) L) s
 have u13:=fun cl L s=>congrFun (congrFun (congrFun K10r8s13.eq_1 cl) L) s
 have u16:=fun cl L s=>congrFun (congrFun (congrFun K10r8s16.eq_1 cl) L) s
 have u17:=fun cl L s=>congrFun (congrFun (congrFun K10r8s17.eq_1 cl) L) s
 have u18:=fun cl L s=>congrFun (congrFun (congrFun K10r8s18.eq_1 cl) L) s
 have u19:=fun cl L s=>congrFun (congrFun (congrFun K10r8s19.eq_1 cl) L) s
 have u20:=fun cl L s=>congrFun (congrFun (congrFun K10r8s20.eq_1 cl) L) s
 simp (config:={ maxSteps:=2000000 }) (disch:=first|omega|(with_unfolding_all exact rfl)|(simp only[new_n,put_n,new_m];omega)|(refine put_m_le ?_;simp only[new_m];omega)) only [K10r8,u4,u5,u8,u9,u10,u11,u12,u13,u16,u17,u18,u19,u20,K10r10,Abs.W,reduceIte,Nat.reduceEqDiff,Nat.reduceAdd,decide_true,decide_false,kLoop_def,Nat.reduceSub,List.cons_append,List.nil_append,List.append_nil,List.length_cons,List.length_nil,Env.find_set,ex0,ex1,okt,q4,q5,q6,x4,kS,kX,kY,lS,lX,lY,z0,z1,Nat.zero_add]
 generalize hlp:loopN _ rounds _ _ _ _ _=rl
 obtain ⟨L1,t4,rfl⟩:=rents_loop n (p4:=p4) hlp ok V hL3 x4 (by omega) hX3 SY (by omega) (by omega)
  (by simp only [Env.find_set,q4,reduceIte,Nat.reduceEqDiff]) (by simp only [Env.find_set,q5,reduceIte,Nat.reduceEqDiff]) (by simp only [Env.find_set,reduceIte,Nat.reduceEqDiff]) (by simp only [Env.find_set,reduceIte,Nat.reduceEqDiff];rfl)
 simp (disch:=first|omega|(with_unfolding_all exact rfl)|(simp only[new_n,put_n,new_m];omega)|(refine put_m_le ?_;simp only[new_m];omega)) only [K10r28,res10,Abs.W,reduceIte,Nat.reduceEqDiff,Nat.reduceAdd,decide_true,decide_false,kLoop_def,Nat.reduceSub,List.cons_append,List.nil_append,List.append_nil,List.length_cons,List.length_nil,Env.find_set,knA]
 exact ⟨_,rfl⟩
theorem ren_body (n:Nat) (hn:20≤n) (cx:Ctx) (s:St) (d:Nat) (hd:Die d s.h) (hdn:d<s.n) (hs:s.n+900000000≤far) (hm:s.m=far) :
  ∃ s',finA Try.prog Try.f10 (renRest (awd n) cx (.cons 3 (.ptr d 0) .nil) [] s)=.val (.bool true) s':=by
 have hf:far=1000000000:=rfl
 have knB:∀ args s,awd n (.fn 12) args s=call Try.prog X n (.fn 12) args s:=fun _ _=>rfl
 have knD:∀ args s,awd n (.fn 18) args s=call Try.prog X n (.fn 18) args s:=fun _ _=>rfl
 have knE:∀ args s,awd n (.fn 22) args s=call Try.prog X n (.fn 22) args s:=fun _ _=>rfl
 have knO:∀ args s,awd n (.fn 27) args s=call Try.prog X n (.fn 27) args s:=fun _ _=>rfl
 have knC:∀ args s,awd n (.fn 15) args s=call Try.prog X n (.fn 15) args s:=fun _ _=>rfl
 have ex0:∀ (a b:AV) (s:St),extA 0 s (.tup [a,b])=.val a s:=fun _ _ _=>rfl
 have ex1:∀ (a b:AV) (s:St),extA 1 s (.tup [a,b])=.val b s:=fun _ _ _=>rfl
 have okt:∀ (a b:AV) (s:St),okA (.val (.tup [a,b]) s)=.val (.tup [a,b]) s:=fun _ _ _=>rfl
 unfold renRest
 simp (disch:=first|omega|(with_unfolding_all exact rfl)|(simp only[new_n,put_n,new_m];omega)|(refine put_m_le ?_;simp only[new_m];omega)) only [K10r2,Abs.W,reduceIte,Nat.reduceEqDiff,Nat.reduceAdd,decide_true,decide_false,kLoop_def,Nat.reduceSub,List.cons_append,List.nil_append,List.append_nil,List.length_cons,List.length_nil,Env.find_set,knB]
 generalize hc1:call _ _ _ (.fn 12) _ _=r1
 obtain ⟨l,vS,vA,bS,bA,t1,rfl,st1,d1,ok,hk,hmm,own⟩:=LettingOf_ex (k:=4) (m:=4) hc1 (by omega) hd hdn (by omega) (by omega) (by omega)
 have n1:=st1.n
 have k1:=st1.le
 have m1:=st1.mle
 have scB:=own.at_.scal
 have kA:=own.at_.okV
 have kS:=own.at_.okS
 simp (disch:=first|omega|(with_unfolding_all exact rfl)|(simp only[new_n,put_n,new_m];omega)|(refine put_m_le ?_;simp only[new_m];omega)) only [Abs.W,reduceIte,Nat.reduceEqDiff,Nat.reduceAdd,decide_true,decide_false,kLoop_def,Nat.reduceSub,List.cons_append,List.nil_append,List.append_nil,List.length_cons,List.length_nil,Env.find_set,scB,Nat.zero_add]
 obtain ⟨y,hy⟩:∃ y:St,y=(t1.new (.cells [.nilslice,.nilslice] (tag 28))).put t1.n (.cells [vS,vA] (tag 28)):=⟨_,rfl⟩
 have yn:y.n=t1.n+1:=by rw [hy];rfl
 have ym:y.m≤t1.m:=by rw [hy];simp only [St.put,minN_eq,new_m];omega
 have yg:∀ c,c<t1.n→y.h.get c=t1.h.get c:=fun c hc=>by rw [hy,get_put_ne' _ _ _ _ (by omega),get_new_ne _ _ _ (by omega)]
 have y4:y.h.get t1.n=some (.cells [vS,vA] (tag 28)):=by rw [hy];exact get_put_eq _ _ _ _ rfl (by omega)
 have dy:Die d y.h:=Die.keep d1 (yg d (by omega))
 have owny:=own.grow (h':=y.h) (n':=y.n) (fun c h1 _=>yg c h1) (by omega)
 rw [← hy]
 clear hy
 simp (disch:=first|omega|(with_unfolding_all exact rfl)|(simp only[new_n,put_n,new_m];omega)|(refine put_m_le ?_;simp only[new_m];omega)) only [K10r3,Abs.W,reduceIte,Nat.reduceEqDiff,Nat.reduceAdd,decide_true,decide_false,kLoop_def,Nat.reduceSub,List.cons_append,List.nil_append,List.append_nil,List.length_cons,List.length_nil,Env.find_set,y4,kS,kA,knD,Nat.zero_add]
 generalize hc3:call _ _ _ (.fn 18) _ _=r3
 obtain ⟨vX,t3,hsX,rfl,s3,SX,hXl,IX⟩:=Let_ex hc3 (by omega) ok owny.at_ (by omega)
 have n3:=s3.n
 have k3:=s3.le
 have m3:=s3.m
 have kX:=SX.okA
 have x4:=(s3.same t1.n (by omega)).trans y4
 have d3:Die d t3.h:=Die.keep dy (s3.same d (by omega))
 have own3:=owny.grow (h':=t3.h) (n':=t3.n) (fun c h1 _=>s3.same c h1) (by omega)
 obtain ⟨hfew,hasz⟩:=all_few hmm hk
 simp (disch:=first|omega|(with_unfolding_all exact rfl)|(simp only[new_n,put_n,new_m];omega)|(refine put_m_le ?_;simp only[new_m];omega)) only [K10r4,Abs.W,reduceIte,Nat.reduceEqDiff,Nat.reduceAdd,decide_true,decide_false,kLoop_def,Nat.reduceSub,List.cons_append,List.nil_append,List.append_nil,List.length_cons,List.length_nil,Env.find_set,ex0,ex1,okt,kX,x4,kS,kA,knE,Nat.zero_add]
 generalize hc5:call _ _ _ (.fn 22) _ _=r5
 obtain ⟨bM,vM,t5,rfl,s5,hT,hbM⟩:=all_ex l.stalls.length (f:=[]) (nf:=fun _=>False) hc5 (by omega) ok hmm hk (by simp) own3.at_ (Sl.nil _ _ _ _) (by omega)
 have n5:=s5.n
 have k5:=s5.le
 have m5:=s5.m
 have x5:=(s5.same t1.n (by omega)).trans x4
 have d5:Die d t5.h:=Die.keep d3 (s5.same d (by omega))
 have own5:=own3.grow (h':=t5.h) (n':=t5.n) (fun c h1 _=>s5.same c h1) (by omega)
 have SX5:=SX.grow s5.same (by omega:t3.n≤t5.n)
 have kM:=hT.okA
 have lM:=hT.len
 have hne:=allL_ne l l.stalls.length []
 have hvalid:=allL_valid l l.stalls.length [] (by simp) (part_nil l)
 generalize allL l l.stalls.length []=M at hT lM hne hvalid hfew
 have hpos:0<M.length:=List.length_pos_iff.mpr hne
 simp (disch:=first|omega|(with_unfolding_all exact rfl)|(simp only[new_n,put_n,new_m];omega)|(refine put_m_le ?_;simp only[new_m];omega)) only [K10r5,Abs.W,reduceIte,Nat.reduceEqDiff,Nat.reduceAdd,decide_true,decide_false,kLoop_def,Nat.reduceSub,List.cons_append,List.nil_append,List.append_nil,List.length_cons,List.length_nil,Env.find_set,kM,knO]
 generalize hc6:call _ _ _ (.fn 27) _ _=r6
 obtain ⟨bo,t6,rfl,st6,d6⟩:=once_ex hc6 (by omega) d5 (by omega) (by omega) (by omega)
 have n6:=st6.n
 have k6:=st6.le
 have m6:=st6.mle
 have g6:∀ c,c<t5.n→c≠d→t6.h.get c=t5.h.get c:=st6.same
 have x6:=(g6 t1.n (by omega) (by omega)).trans x5
 have own6:=own5.grow (h':=t6.h) (n':=t6.n) (fun c h1 h2=>g6 c h1 (by omega)) (by omega)
 cases bo with
 | false =>
  have SX6:=SX5.move (h':=t6.h) (n':=t6.n) (fun b hb h=>⟨g6 b hb (by omega),h⟩) (by omega)
  have htail:=fun L q4 q5 q6=>ren_tail n hn cx (L:=L) ok (Inv_valid ok hXl IX) own6.at_ x6 (by omega) SX6 (by omega) (by omega) q4 q5 q6
  unfold renTail at htail
  simp (disch:=first|omega|(with_unfolding_all exact rfl)|(simp only[new_n,put_n,new_m];omega)|(refine put_m_le ?_;simp only[new_m];omega)) only [kSeq_def,kRegion_def] at htail
  simp (disch:=first|omega|(with_unfolding_all exact rfl)|(simp only[new_n,put_n,new_m];omega)|(refine put_m_le ?_;simp only[new_m];omega)) only [Abs.W,reduceIte,Nat.reduceEqDiff,Nat.reduceAdd,decide_true,decide_false,kLoop_def,Nat.reduceSub,List.cons_append,List.nil_append,List.append_nil,List.length_cons,List.length_nil,Env.find_set]
  refine htail _ ?_ ?_ ?_
  ·simp only [find_cons,Env.find_set,reduceIte,Nat.reduceEqDiff]
  ·simp only [find_cons,Env.find_set,reduceIte,Nat.reduceEqDiff]
  ·simp only [find_cons,Env.find_set,reduceIte,Nat.reduceEqDiff]
 | true =>
  simp (disch:=first|omega|(with_unfolding_all exact rfl)|(simp only[new_n,put_n,new_m];omega)|(refine put_m_le ?_;simp only[new_m];omega)) only [K10r6,Abs.W,reduceIte,Nat.reduceEqDiff,Nat.reduceAdd,decide_true,decide_false,kLoop_def,Nat.reduceSub,List.cons_append,List.nil_append,List.append_nil,List.length_cons,List.length_nil,Env.find_set,kM,lM,knC]
  generalize hc7:call _ _ _ (.fn 15) _ _=r7
  obtain ⟨x7,t7,rfl,st7,d7,x70,x71⟩:=cast_ex hc7 (by omega) d6 (by omega) (by omega) (by omega)
  obtain ⟨j,rfl⟩:∃ n:Nat,x7=n:=⟨x7.toNat,by omega⟩
  have hj:j<M.length:=by omega
  have n7:=st7.n
  have k7:=st7.le
  have m7:=st7.mle
  have g7:∀ c,c<t5.n→c≠d→t7.h.get c=t5.h.get c:=fun c h1 h2=>(st7.same c (by omega) h2).trans (g6 c h1 h2)
  have x7:=(g7 t1.n (by omega) (by omega)).trans x5
  have own7:=own5.grow (h':=t7.h) (n':=t7.n) (fun c h1 h2=>g7 c h1 (by omega)) (by omega)
  have hbM5:bM<t5.n:=by obtain ⟨_,_,_,_,_,h3,_⟩:=hT;exact h3
  have hT7:TabI t7.h t7.n bM (fun x=>t3.n≤x) M vM:=hT.move (g7 bM hbM5 (by omega)) (fun c hc h=>by
   have h2:t3.n≤c:=h.elim (fun h=>h.1.elim) id
   exact ⟨g7 c hc (by omega),h2⟩) (by omega)
  obtain ⟨vG,pM,cM,zM,G1,G2,G3,G4⟩:=hT7.get hj
  have kG:=G1.okA
  have htail:=fun L q4 q5 q6=>ren_tail n hn cx (L:=L) ok (hvalid M[j] (List.getElem_mem hj)) own7.at_ x7 (by omega) G1 (by omega) (by omega) q4 q5 q6
  unfold renTail at htail
  simp (disch:=first|omega|(with_unfolding_all exact rfl)|(simp only[new_n,put_n,new_m];omega)|(refine put_m_le ?_;simp only[new_m];omega)) only [kSeq_def,kRegion_def] at htail
  simp (disch:=first|omega|(with_unfolding_all exact rfl)|(simp only[new_n,put_n,new_m];omega)|(refine put_m_le ?_;simp only[new_m];omega)) only [Abs.W,reduceIte,Nat.reduceEqDiff,Nat.reduceAdd,decide_true,decide_false,kLoop_def,Nat.reduceSub,List.cons_append,List.nil_append,List.append_nil,List.length_cons,List.length_nil,Env.find_set,G2,G3,G4,kG]
  refine htail _ ?_ ?_ ?_
  ·simp only [find_cons,Env.find_set,reduceIte,Nat.reduceEqDiff]
  ·simp only [find_cons,Env.find_set,reduceIte,Nat.reduceEqDiff]
  ·simp only [find_cons,Env.find_set,reduceIte,Nat.reduceEqDiff]
end Go.Proofs.Ythbhjgbpjlnbcaa.walk
set_option maxRecDepth 10000
namespace Go.Proofs.Ythbhjgbpjlnbcaa.walk
open Go.Abs Go.Proofs.Ythbhjgbpjlnbcaa.code
end Go.Proofs.Ythbhjgbpjlnbcaa.walk
namespace Go.Proofs.Ythbhjgbpjlnbcaa.mdie
open Go.RowKit
def Die (b:Nat) (w:World):Prop:=∃ s,w.heap[b]? = some (.cells #[.int .u64 s] 63 (0,0))
theorem Die.old {b:Nat} {w:World} (h:Die b w):(∃ s,w.cell? ⟨b,0,none⟩=some (.int .u64 s))∧w.frozen? ⟨b,0,none⟩=false:=by
 obtain ⟨s,hs⟩:=h
 refine ⟨⟨s,?_⟩,?_⟩
 ·unfold World.cell?;simp [hs]
 ·unfold World.frozen?;simp [hs]
structure Stir (b:Nat) (w w':World):Prop where
 below:Below b w w'
 rest:∀ p:Addr,p.block≠b→p.block<w.heap.size→w'.cell? p=w.cell? p∧w'.frozen? p=w.frozen? p
 die:Die b w'
def Gives (b:Nat) (k:IntKind) (Q:Int→Prop) (w:World) (e:Ending) (w':World):Prop:=∃ r,Q r∧e=.returned (.int k r)∧Stir b w w'
theorem bits_nonneg (op:BinOp) (x y:Int):0≤bits op .u64 x y:=by
 have:=bounds_u64 (wf_bits (k:=.u64) (op:=op) (x:=x) (y:=y))
 exact this.1
theorem Stir.set {b:Nat} {w:World} (h:Die b w) (s:Int):Stir b w (w.setCell ⟨b,0,none⟩ (.int .u64 s)):=by
 obtain ⟨t,ht⟩:=h
 refine ⟨(Below.refl b w).setCell (p:=⟨b,0,none⟩) (Nat.le_refl b) _,fun p hp _=>⟨World.cell?_of_block (Below.heap_setCell _ _ _ _ hp),World.frozen?_of_block (Below.heap_setCell _ _ _ _ hp)⟩,⟨s,?_⟩⟩
 unfold World.setCell
 simp [Array.getElem?_modify,ht]
theorem roll (b:Nat) (w:World) (h:Die b w):Calls Try.prog 32 #[.pointer (some ⟨b,0,none⟩)] w (Gives b .u64 (fun r=>0≤r) w):=by
 have h':=Lib.hid h
 obtain ⟨⟨s,hs⟩,hf⟩:=h.old
 clear h
 go_enter Try.func32,Try.ntmps32
 go_wp2
 go_ret
 exact ⟨_,bits_nonneg _ _ _,rfl,Stir.set h'.out _⟩
theorem Stir.refl {b:Nat} {w:World} (h:Die b w):Stir b w w:=⟨Below.refl _ _,fun _ _ _=>⟨rfl,rfl⟩,h⟩
theorem Stir.trans {b:Nat} {u v w:World} (h:Stir b u v) (k:Stir b v w):Stir b u w :=
 ⟨h.below.trans k.below,fun p hp hb=>⟨(k.rest p hp (Nat.lt_of_lt_of_le hb h.below.size)).1.trans (h.rest p hp hb).1,(k.rest p hp (Nat.lt_of_lt_of_le hb h.below.size)).2.trans (h.rest p hp hb).2⟩,k.die⟩
theorem Die.lt {b:Nat} {w:World} (h:Die b w):b<w.heap.size:=by obtain ⟨⟨s,hs⟩,_⟩:=h.old;exact World.block_lt_of_cell? w _ hs
theorem Stir.drew {b:Nat} {w w':World} (h:Stir b w w'):Stir b w w'.drew:=h.trans ⟨⟨rfl,rfl,rfl,Nat.le_refl _,fun _ _=>rfl⟩,fun _ _ _=>⟨rfl,rfl⟩,h.die⟩
def Born (w:World) (e:Ending) (w':World):Prop:=e=.returned (.pointer (some ⟨w.heap.size,0,none⟩))∧Below w.heap.size w w'∧Die w.heap.size w'∧w.heap.size<w'.heap.size
theorem Die.born (w:World) (s:Int):Die w.heap.size (w.alloc (.cells #[.int .u64 s] 63)):=⟨s,by show (w.heap.push _)[w.heap.size]? = _;rw [Array.getElem?_push,if_pos rfl]⟩
set_option maxRecDepth 100000 in
theorem born (x:Option Addr) (n c:Nat) (w:World) (hn:n≤maxLen) (hc:∀ i,i<n→∃ b o,x=some ⟨b,o,none⟩∧∃ v,w.cell? ⟨b,o+i,none⟩=some (.int .i64 v)) :
  Calls Try.prog 11 #[.slice x n c] w (Born w):=by
 unfold maxLen at hn
 have HC:=Lib.hid hc
 clear hc
 have hdie:=Lib.hid (Die.born w 2611923443488327891)
 go_enter Try.func11,Try.ntmps11
 go_wp2
 go_loopw [4] (fun i wr=>∃ k:Nat,k≤n∧i=.int .i64 k∧Stir w.heap.size (w.alloc (.cells #[.int .u64 2611923443488327891] 63)) wr) (fun i _=>n - (intOf i).toNat)
 case atStart=>exact ⟨0,Nat.zero_le _,rfl,Stir.refl hdie.out⟩
 case round =>
  obtain ⟨k,hk,rfl,hs⟩:=hrel
  by_cases hlt:k<n
  ·obtain ⟨b,o,rfl,v,hv⟩:=HC.out k hlt
   have hb:=World.block_lt_of_cell? _ _ hv
   simp only at hb
   have hv1:wr.cell? ⟨b,o+k,none⟩=some (.int .i64 v):=((hs.rest ⟨b,o+k,none⟩ (Nat.ne_of_lt hb) (by simp;omega)).1.trans (World.cell?_of_block (Below.heap_alloc _ _ _ hb))).trans hv
   clear hv
   obtain ⟨⟨s,hd⟩,hf⟩:=hs.die.old
   have hst:=Lib.hid (fun s1:Int=>(hs.drew).trans (Stir.set hs.drew.die s1))
   have hlt':(k:Int)<(n:Int):=by omega
   have hk0:(0:Int)≤(k:Int):=by omega
   go_wp2
   go_still_tail 12,(by kernel_rfl)
   change wpList _ _ _ _ _ wr.drew
   go_wp2_with (go_at_call 32;refine (roll _ _ ?_).mono ?_;exact (hst.out _).die;rintro e w1 ⟨r,hr,rfl,hs1⟩;(have hs2:=(hst.out _).trans hs1))
   go_roundw
   case rel=>exact ⟨k+1,by omega,by go_num,hs2⟩
   case measure=>simp [intOf];omega
  ·go_wp2
   go_ret
   exact ⟨rfl,((Below.refl w.heap.size w).alloc (Nat.le_refl _) _).trans hs.below,hs.die,by have:=hs.below.size;simp at this;omega⟩
end Go.Proofs.Ythbhjgbpjlnbcaa.mdie
namespace Go.Abs
open Go.RowKit
variable {P:Program}
theorem mid_calls {cl:CallF} (hc:CallSound P cl) {f:FuncId} {fn:Func} (hf:P.funcs[f]? = some fn) {c0 c1 rest:Code} (hb:fn.body=some (.seq c0 (.seq c1 rest))) {X:FuncId→List Nat} {k:K} {A:Array Value} {W:World} {R:Ending→World→Prop}
  (h:c0.wp P (Exit.then (fun a w=>c1.wp P (Exit.then (fun a w=>∃ ρ L s v s',ActRel ρ fn.ntmps L [] a∧Clean (X f) L∧SRel ρ s w∧finA P fn (k cl ⟨f,none,fn.ntmps,X f⟩ L [] s)=.val v s'∧∀ ρ' V W',After ρ s w ρ' s' W'→VRel ρ' v V→R (.returned V) W') fun _ _ _=>False) a w) fun _ _ _=>False)
   { tmps:=A++Array.replicate (fn.ntmps - A.size) undef,defers:=[] } W)
  (hk:codeK P (X f) fn.ntmps rest=some k):Calls P f A W R:=by
 intro cs
 obtain ⟨b,hbd⟩:∃ b:Frame,b={ (default:Frame) with fn:=f,kind:=.normal }:=⟨_,rfl⟩
 have hr:b.roundOf=none:=by rw [hbd];rfl
 have henter:Frame.enter P f A .normal=b.at { tmps:=A++Array.replicate (fn.ntmps - A.size) undef,defers:=[] } [.code (.seq c0 (.seq c1 rest))]:=by
  rw [hbd];simp [Frame.enter,Frame.at,hf,hb]
 obtain ⟨e0,a0,w0,q0,ar0⟩:=h b [.code (.seq c1 rest)] cs
 cases e0<;>simp only [Exit.then] at q0
 obtain ⟨e1,a1,w1,q1,ar1⟩:=q0 b [.code rest] cs
 cases e1<;>simp only [Exit.then] at q1
 obtain ⟨ρ,L,s,v,s',hact,hclean,hs,hfin,hR⟩:=q1
 have st1:Steps P (lone (Frame.enter P f A .normal) cs W) (lone (b.atR a1 [.code rest]) cs w1):=by
  rw [henter,Frame.atR_of_none hr]
  exact (Steps.head step_seq ar0).trans (Steps.head step_seq ar1)
 have hctx:CtxRel ρ ⟨f,none,fn.ntmps,X f⟩ b:=⟨by rw [hbd],by rw [hbd],fun _=>hr,fun l e=>by cases e⟩
 generalize hr2:k cl ⟨f,none,fn.ntmps,X f⟩ L [] s=r at hfin
 cases r with
 | fail=>cases hfin
 | done e L1 d s₁ =>
  obtain ⟨ρ₁,a₁,W₁,af,ha₁,_,_,st⟩:=codeK_sound rest hk hc rfl rfl hctx hact hclean hs hr2
  have fin:∀ (hle:leaveA P fn.results.toList L1 d s₁=.val v s') (hst:∃ t,Steps P (lone (Frame.enter P f A .normal) cs W) (lone (back b a₁ t) cs W₁)),
    ∃ V w' fr,R (.returned V) w'∧Steps P (lone (Frame.enter P f A .normal) cs W) (lone fr cs w')∧fr.fn=f∧fr.leaving P w' (.returned V):=by
   intro hle hst
   obtain ⟨V,W₂,af₂,hv,st₂⟩:=leaveA_calls ha₁ af.rel hle
   obtain ⟨t,st₁⟩:=hst
   obtain ⟨fr,h1,h2,h3⟩:=st₂ b (by rw [hbd]) (by rw [hbd];exact hf) t cs
   exact ⟨V,W₂,fr,hR _ _ _ (af.trans af₂) hv,Steps.trans st₁ h1,by rw [h2,hbd],h3⟩
  cases e with
  | exit id=>cases hfin
  | norm =>
   have z:=st [] cs
   obtain ⟨V,w',fr,h1,h2,h3,h4⟩:=fin hfin ⟨[],st1.trans (Steps.trans z (.one (stepR_end hr)))⟩
   exact ⟨.returned V,w',fr,h1,h2,h3,h4⟩
  | ret =>
   obtain ⟨k0,z⟩:=st [] cs
   obtain ⟨V,w',fr,h1,h2,h3,h4⟩:=fin hfin ⟨.code .ret::k0,st1.trans (z.trans (.one (stepR_ret hr)))⟩
   exact ⟨.returned V,w',fr,h1,h2,h3,h4⟩
end Go.Abs
set_option maxRecDepth 10000
namespace Go.Proofs.Ythbhjgbpjlnbcaa.walk
open Go.Abs Go.RowKit Go.Proofs.Ythbhjgbpjlnbcaa.code
noncomputable def die0 (F:Int):St:=St.new ⟨.nil,0,far⟩ (.cells [.int .u64 F] (tag 63))
def rho0 (d:Nat):Rho:=fun b=>if b=0 then some (d,(0,0)) else none
theorem die0_get {F:Int} {b:Nat} {o:AObj} (h:(die0 F).h.get b=some o):b=0∧o=.cells [.int .u64 F] (tag 63):=by
 by_cases e:b=0
 ·subst e
  have:(die0 F).h.get 0=some (.cells [.int .u64 F] (tag 63)):=get_new_eq _ _ _ rfl (by decide)
  rw [this] at h
  exact ⟨rfl,(Option.some.inj h).symm⟩
 ·unfold die0 at h
  rw [get_new_ne _ _ _ e] at h
  cases h
theorem die0_has {F:Int} {b x:Nat} {o:AObj} (h:Has (die0 F).h b x o):b=0∧x=0∧o=.cells [.int .u64 F] (tag 63):=by
 obtain ⟨y,hy,hp⟩:=h
 obtain ⟨rfl,rfl⟩:=die0_get hy
 have hl:AObj.lone (.cells [.int .u64 F] (tag 63)):=trivial
 rw [parts_lone hl] at hp
 have:=List.mem_singleton.mp hp
 cases this
 exact ⟨rfl,rfl,rfl⟩
theorem die0_rel {F:Int} {d:Nat} {W:World} (h:W.heap[d]? = some (.cells #[.int .u64 F] 63 (0,0))):SRel (rho0 d) (die0 F) W:=by
 refine ⟨⟨fun b o hb=>?_,fun b x o hb=>?_,fun b b' x x' o o' c e e' hb hb' _ _=>?_,fun g cs hg=>(by cases hg),fun b x o c e hb hr=>rfl,fun b x x' o o' c e e' hb hb' hr hr'=>?_⟩,fun b hb=>?_⟩
 ·rw [(die0_get hb).1];decide
 ·obtain ⟨rfl,rfl,rfl⟩:=die0_has hb
  exact ⟨d,(0,0),_,if_pos rfl,h,.cells rfl (.cons (.int _ _) .nil) (Typed.tag _)⟩
 ·rw [(die0_has hb).1,(die0_has hb').1]
 ·obtain ⟨_,rfl,_⟩:=die0_has hb
  obtain ⟨_,rfl,_⟩:=die0_has hb'
  rw [hr] at hr'
  cases hr'
  rfl
 ·have:1≤b:=hb
  exact if_neg (by omega)
end Go.Proofs.Ythbhjgbpjlnbcaa.walk
set_option maxRecDepth 10000
namespace Go.Proofs.Ythbhjgbpjlnbcaa.walk
open Go.Abs Go.RowKit Go.Proofs.Ythbhjgbpjlnbcaa.code
set_option maxRecDepth 100000 in
theorem ren_calls (a:Option Addr) (n c:Nat) (w:World) (hn:n≤maxLen) (hc:∀ i,i<n→∃ b o,a=some ⟨b,o,none⟩∧∃ v,w.cell? ⟨b,o+i,none⟩=some (.int .i64 v)) :
  Calls Try.prog 10 #[.slice a n c] w fun e w'=>e=.returned (.bool true)∧Below w.heap.size w w':=by
 have HC:=Lib.hid hc
 clear hc
 refine mid_calls (cl:=knows 14 (call Try.prog X 20)) (knows_sound (call_sound 200) Try.func14 awake.entered (call_sound 20)) Try.func10 rfl (X:=X) (k:=renRest) ?_ (by kernel_rfl)
 simp only [Try.ntmps10,List.size_toArray,List.length_cons,List.length_nil,Nat.reduceAdd,Nat.reduceSub,Array.replicate_succ,Array.replicate_zero,List.push_toArray,List.append_toArray,List.nil_append,List.cons_append]
 go_wp2_with (go_at_call 11;((with_reducible refine (mdie.born _ _ _ _ hn HC.out).mono ?_);rintro e w1 ⟨rfl,hB1,⟨F,hF⟩,hg1⟩))
 have hd0:walk.Die 0 (die0 F).h:=⟨F,get_new_eq _ _ _ rfl (by decide)⟩
 obtain ⟨s',hs'⟩:=ren_body 20 (by omega) ⟨10,none,Try.f10.ntmps,X 10⟩ (die0 F) 0 hd0 (by show 0<1;omega) (by show 1+900000000≤1000000000;omega) rfl
 refine ⟨rho0 w.heap.size,.cons 3 (.ptr 0 0) .nil,die0 F,.bool true,s',⟨fun t=>?_,rfl,.nil⟩,fun t ht=>?_,die0_rel hF,hs',fun ρ' V W' af hv=>?_⟩
 ·by_cases e:t=3
  ·subst e
   exact .ptr (e:=(0,0)) (if_pos rfl)
  ·rw [show (Env.cons 3 (.ptr 0 0) .nil).find t=AV.bad by rw [find_cons,if_neg (by omega)];rfl]
   exact .bad _
 ·by_cases e:t=3
  ·subst e
   have hx:(X 10).contains 3=true:=by kernel_rfl
   rw [hx] at ht
   cases ht
  ·rw [find_cons,if_neg (by omega)];rfl
 ·cases hv
  refine ⟨rfl,hB1.trans ⟨af.os,af.tape,af.output,af.size,fun k hk=>af.frame k (by omega) fun b x o e hb hr=>?_⟩⟩
  obtain ⟨_,rfl,_⟩:=die0_has hb
  have hr:some (w.heap.size,(0,0))=some (k,e):=hr
  injection hr with hr
  injection hr with hr _
  omega
end Go.Proofs.Ythbhjgbpjlnbcaa.walk
