/- Who envies what: Envies of any valid holders. -/
import Derived.Test.YthbhjgbpjlnbcaaM8
import Derived.Test.YthbhjgbpjlnbcaaM5
import Derived.Test.YthbhjgbpjlnbcaaM4
import Derived.Test.YthbhjgbpjlnbcaaM6
import Derived.Test.YthbhjgbpjlnbcaaM7
import Derived.Test.YthbhjgbpjlnbcaaM3
import Derived.Test.YthbhjgbpjlnbcaaCodes
import Derived.Test.YthbhjgbpjlnbcaaWalkAll
set_option linter.unusedSimpArgs false
set_option maxHeartbeats 16000000
set_option linter.unusedVariables false
set_option maxRecDepth 10000
namespace Go.Proofs.Ythbhjgbpjlnbcaa.walk
open Go.Abs Go.Proofs.Ythbhjgbpjlnbcaa.code
end Go.Proofs.Ythbhjgbpjlnbcaa.walk
set_option maxRecDepth 10000
namespace Go.Proofs.Ythbhjgbpjlnbcaa.walk
open Go.Abs Go.Proofs.Ythbhjgbpjlnbcaa.code
theorem rank_pairwise {l:Letting} {st:Nat} {g:List Nat} (r:RankOf l st g):g.Pairwise (fun a b=>keyL l st a<keyL l st b):=by
 rw [List.pairwise_iff_getElem]
 intro i j hi hj hij
 have:=r.up i j hij (by rw [← r.same.len];exact hj)
 unfold at0 at this
 simp [List.getD,hi,hj] at this
 exact this
end Go.Proofs.Ythbhjgbpjlnbcaa.walk
set_option maxRecDepth 10000
namespace Go.Proofs.Ythbhjgbpjlnbcaa.walk
open Go.Abs Go.Proofs.Ythbhjgbpjlnbcaa.code
def wbid (A:Appl) (st j:Nat):Int:=if (st:Int) ∈ A.wishes.take j then A.bids.getD (A.wishes.idxOf (st:Int)) 0 else 0
def wcan (S:StallR) (A:Appl) (st j:Nat):Bool:=decide ((st:Int) ∈ A.wishes.take j) && (!decide (S.rule=3) || decide (S.least≤A.bids.getD (A.wishes.idxOf (st:Int)) 0))
theorem wbid_zero (A:Appl) (st:Nat):wbid A st 0=0:=by unfold wbid;simp
theorem wcan_zero (S:StallR) (A:Appl) (st:Nat):wcan S A st 0=false:=by unfold wcan;simp
theorem wbid_skip {A:Appl} {st j:Nat} (h:j<A.wishes.length) (hn:A.wishes[j]≠(st:Int)):wbid A st (j+1)=wbid A st j:=by
 unfold wbid
 rw [take_snoc h]
 simp only [List.mem_append,List.mem_singleton,show ((st:Int)=A.wishes[j])=False from eq_false (fun e=>hn e.symm),or_false]
theorem wcan_skip {S:StallR} {A:Appl} {st j:Nat} (h:j<A.wishes.length) (hn:A.wishes[j]≠(st:Int)):wcan S A st (j+1)=wcan S A st j:=by
 unfold wcan
 rw [take_snoc h]
 simp only [List.mem_append,List.mem_singleton,show ((st:Int)=A.wishes[j])=False from eq_false (fun e=>hn e.symm),or_false]
theorem wish_idx {A:Appl} {st j:Nat} (nd:A.wishes.Nodup) (h:j<A.wishes.length) (he:A.wishes[j]=(st:Int)):A.wishes.idxOf (st:Int)=j:=idx_at h he fun y hy e=>not_mem_take nd h (by rw [he,← e];exact hy)
theorem wbid_hit {A:Appl} {st j:Nat} (nd:A.wishes.Nodup) (h:j<A.wishes.length) (hb:j<A.bids.length) (he:A.wishes[j]=(st:Int)):wbid A st (j+1)=A.bids[j]:=by
 unfold wbid
 rw [wish_idx nd h he,take_snoc h,he,if_pos (by simp)]
 simp [List.getD,hb]
theorem wcan_hit {S:StallR} {A:Appl} {st j:Nat} (nd:A.wishes.Nodup) (h:j<A.wishes.length) (hb:j<A.bids.length) (he:A.wishes[j]=(st:Int)):wcan S A st (j+1)=(!decide (S.rule=3) || decide (S.least≤A.bids[j])):=by
 unfold wcan
 rw [wish_idx nd h he,take_snoc h,he,decide_eq_true (show (st:Int) ∈ A.wishes.take j++[(st:Int)] by simp),Bool.true_and]
 simp [List.getD,hb]
theorem wcan_full {l:Letting} (ok:l.Ok) {a st:Nat} (ha:a<l.appls.length) (hst:st<l.stalls.length):wcan l.stalls[st] l.appls[a] st l.appls[a].wishes.length=canI l st a:=by
 rw [can_eq ok ha hst]
 unfold wcan
 rw [List.take_length]
 congr 1
 rw [decide_eq_decide]
 exact List.idxOf_lt_length_iff.symm
theorem wbid_full {l:Letting} (ok:l.Ok) {a st:Nat} (ha:a<l.appls.length) (hst:st<l.stalls.length) (hc:canI l st a=true):wbid l.appls[a] st l.appls[a].wishes.length=(bidI l st a).1:=by
 have A:=ok.ap _ (List.getElem_mem ha)
 have h1:(bidOf (st:Int) (reachOf l.stalls (applAt l a))).2=true:=hc
 obtain ⟨x,hx,hxs⟩:=(bidOf_iff (st:Int) _).mp h1
 have hb:=bidOf_of (reach_nodup ok ha) hx
 rw [hxs] at hb
 have e0:bidI l st a=(x.2,true):=hb
 rw [applAt_of ha] at hx
 unfold reachOf at hx
 obtain ⟨z1,_⟩:=List.mem_filter.mp hx
 obtain ⟨k,hk,he⟩:=List.getElem_of_mem z1
 rw [List.length_zip] at hk
 rw [List.getElem_zip] at he
 have k1:k<l.appls[a].wishes.length:=by omega
 have k2:k<l.appls[a].bids.length:=by omega
 have e1:l.appls[a].wishes[k]=(st:Int):=by rw [← hxs,← he]
 unfold wbid
 rw [List.take_length,if_pos (by rw [← e1];exact List.getElem_mem k1),wish_idx A.nd k1 e1,e0,← he]
 simp [List.getD,k2]
def bdL (l:Letting) (st i:Nat):List Int:=(List.range l.appls.length).map fun a=>if a<i then wbid (applAt l a) st (applAt l a).wishes.length else 0
theorem bdL_len (l:Letting) (st i:Nat):(bdL l st i).length=l.appls.length:=by unfold bdL;rw [List.length_map,List.length_range]
theorem bdL_zero (l:Letting) (st:Nat):bdL l st 0=List.replicate l.appls.length 0:=by
 unfold bdL
 rw [List.eq_replicate_iff]
 refine ⟨by rw [List.length_map,List.length_range],fun x hx=>?_⟩
 obtain ⟨j,_,rfl⟩:=List.mem_map.mp hx
 rw [if_neg (by omega)]
theorem bdL_succ {l:Letting} {st i:Nat} (hi:i<l.appls.length):(bdL l st i).set i (wbid l.appls[i] st l.appls[i].wishes.length)=bdL l st (i+1):=by
 unfold bdL
 rw [map_set_range]
 refine List.map_congr_left fun j hj=>?_
 by_cases e:j=i
 ·subst e;rw [if_pos rfl,if_pos (by omega),applAt_of hi]
 ·rw [if_neg e]
  by_cases h:j<i
  ·rw [if_pos h,if_pos (by omega)]
  ·rw [if_neg h,if_neg (by omega)]
theorem bdL_same {l:Letting} {st i:Nat}:(bdL l st i).set i 0=bdL l st i:=by
 unfold bdL
 rw [map_set_range]
 refine List.map_congr_left fun j hj=>?_
 by_cases e:j=i
 ·subst e;rw [if_pos rfl,if_neg (by omega)]
 ·rw [if_neg e]
theorem bdL_get {l:Letting} (ok:l.Ok) {st a:Nat} (ha:a<l.appls.length) (hst:st<l.stalls.length) (hc:canI l st a=true):(bdL l st l.appls.length)[a]'(by rw [bdL_len];exact ha)=(bidI l st a).1:=by
 unfold bdL
 rw [List.getElem_map,List.getElem_range,if_pos ha,applAt_of ha]
 exact wbid_full ok ha hst hc
def plL (l:Letting) (i:Nat):List Int:=(List.range l.appls.length).map fun (a:Nat)=>if drI l a<i then drI l a else 0
theorem plL_len (l:Letting) (i:Nat):(plL l i).length=l.appls.length:=by unfold plL;rw [List.length_map,List.length_range]
theorem plL_zero (l:Letting):plL l 0=List.replicate l.appls.length 0:=by
 unfold plL
 rw [List.eq_replicate_iff]
 refine ⟨by rw [List.length_map,List.length_range],fun x hx=>?_⟩
 obtain ⟨j,hj,rfl⟩:=List.mem_map.mp hx
 obtain ⟨i,_,_,h⟩:=drI_at l (List.mem_range.mp hj)
 rw [if_neg (by omega)]
theorem drawn_lt {l:Letting} {i:Nat} (hi:i<(drawL l).length):(drawL l)[i]<l.appls.length:=(drawL_mem l).mp (List.getElem_mem hi)
theorem drawn_at {l:Letting} {i:Nat} (hi:i<(drawL l).length):drI l ((drawL l)[i]:Nat)=i:=by
 have:=plAll_at (drawL_nd l) hi
 unfold at0 at this
 simp only [List.getD,List.getElem?_eq_getElem hi,Option.getD_some] at this
 exact this
theorem plL_succ {l:Letting} {i:Nat} (hi:i<(drawL l).length):(plL l i).set (drawL l)[i] i=plL l (i+1):=by
 unfold plL
 rw [map_set_range]
 refine List.map_congr_left fun j hj=>?_
 have h0:=drawn_at hi
 have hj':=List.mem_range.mp hj
 by_cases e:j=(drawL l)[i]
 ·rw [if_pos e,e,h0,if_pos (by omega)]
 ·rw [if_neg e]
  have:=drI_ne hj' (drawn_lt hi) e
  by_cases h:drI l j<i
  ·rw [if_pos h,if_pos (by omega)]
  ·rw [if_neg h,if_neg (by omega)]
theorem plL_get {l:Letting} {a:Nat} (ha:a<l.appls.length):(plL l l.appls.length)[a]'(by rw [plL_len];exact ha)=drI l a:=by
 unfold plL
 rw [List.getElem_map,List.getElem_range]
 obtain ⟨i,h1,_,h2⟩:=drI_at l ha
 rw [if_pos (by omega)]
theorem neigh {l:Letting} (ok:l.Ok) {st a b:Nat} (ha:a<l.appls.length) (hb:b<l.appls.length) (hst:st<l.stalls.length) (hk:keyL l st a<keyL l st b) (hh:l.stalls[st].heir≠(a:Int)) :
  l.stalls[st].heir≠(b:Int)∧((l.stalls[st].rule=1∧drI l a<drI l b)∨(l.stalls[st].rule=2∧l.appls[b].years<l.appls[a].years)∨(l.stalls[st].rule=2∧l.appls[a].years=l.appls[b].years∧drI l a<drI l b)∨(l.stalls[st].rule=3∧(bidI l st b).1<(bidI l st a).1)∨(l.stalls[st].rule=3∧(bidI l st a).1=(bidI l st b).1∧l.appls[b].years<l.appls[a].years)∨(l.stalls[st].rule=3∧(bidI l st a).1=(bidI l st b).1∧l.appls[a].years=l.appls[b].years∧drI l a<drI l b)):=by
 have hab:a≠b:=fun e=>by subst e;omega
 have h1:=(ahead_key ok st ha hb hab (drI_lt ok ha) (drI_lt ok hb) (drI_ne ha hb hab)).1.mpr hk
 have S:=ok.st _ (List.getElem_mem hst)
 have r0:=S.r0
 have r1:=S.r1
 have est:stallAt l.stalls (st:Int)=l.stalls[st]:=by unfold stallAt;simp [List.getD,hst]
 have ya:yearsI l a=l.appls[a].years:=by unfold yearsI;simp [List.getD,ha]
 have yb:yearsI l b=l.appls[b].years:=by unfold yearsI;simp [List.getD,hb]
 unfold aheadI at h1
 rw [est,ya,yb] at h1
 generalize l.stalls[st].rule=r at *
 generalize l.stalls[st].heir=h at *
 generalize (bidI l st a).1=ba at *
 generalize (bidI l st b).1=bb at *
 generalize l.appls[a].years=va at *
 generalize l.appls[b].years=vb at *
 generalize drI l a=da at *
 generalize drI l b=db at *
 by_cases e2:h=(b:Int)
 ·exfalso
  simp only [decide_eq_false hh,decide_eq_true e2,Bool.or_true,cond_true] at h1
  cases h1
 ·refine ⟨e2,?_⟩
  simp only [decide_eq_false hh,decide_eq_false e2,Bool.or_self,cond_false] at h1
  by_cases e3:r=3
  ·by_cases e4:ba=bb
   ·by_cases e5:va=vb
    ·simp only [e3,e4,e5,show ¬ (3:Int)=1 by omega,decide_true,decide_false,Bool.not_true,Bool.not_false,Bool.and_false,cond_false,decide_eq_true_eq] at h1
     exact .inr (.inr (.inr (.inr (.inr ⟨e3,e4,e5,h1⟩))))
    ·simp only [e3,e4,e5,show ¬ (3:Int)=1 by omega,decide_true,decide_false,Bool.not_true,Bool.not_false,Bool.and_false,Bool.and_self,cond_false,cond_true,decide_eq_true_eq] at h1
     exact .inr (.inr (.inr (.inr (.inl ⟨e3,e4,h1⟩))))
   ·simp only [e3,e4,decide_true,decide_false,Bool.not_false,Bool.and_self,cond_true,decide_eq_true_eq] at h1
    exact .inr (.inr (.inr (.inl ⟨e3,h1⟩)))
  ·by_cases e1:r=1
   ·simp only [e1,show ¬ (1:Int)=3 by omega,decide_true,decide_false,Bool.false_and,Bool.not_true,cond_false,decide_eq_true_eq] at h1
    exact .inl ⟨e1,h1⟩
   ·by_cases e5:va=vb
    ·simp only [e3,e1,e5,decide_true,decide_false,Bool.false_and,Bool.not_true,Bool.not_false,Bool.and_false,cond_false,decide_eq_true_eq] at h1
     exact .inr (.inr (.inl ⟨by omega,e5,h1⟩))
    ·simp only [e3,e1,e5,decide_false,Bool.false_and,Bool.not_false,Bool.and_self,cond_false,cond_true,decide_eq_true_eq] at h1
     exact .inr (.inl ⟨by omega,h1⟩)
theorem heir_first {l:Letting} (ok:l.Ok) {st a:Nat} {g:List Nat} (r:RankOf l st g) (ha:a<l.appls.length) (hst:st<l.stalls.length) (hc:canI l st a=true) (hh:l.stalls[st].heir=(a:Int)):∃ h:0<g.length,g[0]=a:=by
 have hm:a ∈ g:=by rw [r.same.mem,ableL_mem];exact ⟨ha,hc⟩
 have hp:0<g.length:=List.length_pos_of_mem hm
 refine ⟨hp,?_⟩
 obtain ⟨i,hi,he⟩:=List.getElem_of_mem hm
 by_cases e:i=0
 ·subst e;exact he
 ·exfalso
  have hk:=(List.pairwise_iff_getElem.mp (rank_pairwise r)) 0 i hp hi (by omega)
  rw [he] at hk
  have h0:g[0]<l.appls.length:=(ableL_mem.mp ((r.same.mem g[0]).mp (List.getElem_mem hp))).1
  have hne:g[0]≠a:=fun e=>by rw [e] at hk;omega
  exact (neigh ok h0 ha hst hk (by rw [hh];omega)).1 hh
end Go.Proofs.Ythbhjgbpjlnbcaa.walk
set_option maxRecDepth 10000
namespace Go.Proofs.Ythbhjgbpjlnbcaa.walk
open Go.Abs Go.Proofs.Ythbhjgbpjlnbcaa.code
noncomputable abbrev awd (n:Nat):CallF:=knows 14 (call Try.prog X n)
def MetS (h:Heap) (n bm lo:Nat) (M:List (List Nat)) (v:AV):Prop :=
 ∃ vs:List AV,vs.length=M.length∧IsAt h n bm 1 (tag 22) (vs.map fun v=>[v]) v∧∀ j (h1:j<vs.length) (h2:j<M.length),Sl (fun x=>lo≤x∧x≠bm) h n 1 (natRows M[j]) vs[j]
section
variable {h h':Heap} {n n' bm lo:Nat} {M:List (List Nat)} {v:AV}
theorem MetS.nil (h:Heap) (n bm lo:Nat):MetS h n bm lo [] .nilslice:=⟨[],rfl,IsAt.nil _ _ _ _ _,fun j h1 _=>by simp at h1⟩
theorem MetS.move (a:MetS h n bm lo M v) (hb:bm<n→lo≤bm) (hh:∀ c,c<n→lo≤c→h'.get c=h.get c) (hn:n≤n'):MetS h' n' bm lo M v:=by
 obtain ⟨vs,h1,h2,h3⟩:=a
 exact ⟨vs,h1,h2.mono (fun h=>hh _ h (hb h)) hn,fun j j1 j2=>(h3 j j1 j2).move (fun c hc hl=>⟨hh c hc hl.1,hl⟩) hn⟩
theorem MetS.okA (a:MetS h n bm lo M v) (t:St):Abs.okA (.val v t)=.val v t:=by obtain ⟨rows,h1,h2,h3⟩:=a;exact h2.okA t
theorem MetS.len (a:MetS h n bm lo M v) (s:St):lenSlA s v=.val (.int .i64 (M.length:Int)) s:=by
 obtain ⟨vs,h1,h2,h3⟩:=a
 have:=h2.rows.at_.len s
 rw [List.length_map,h1] at this
 exact this
theorem MetS.get (a:MetS h n bm lo M v) {j:Nat} (hj:j<M.length) :
  ∃ w p c sz,Sl (fun x=>lo≤x∧x≠bm) h n 1 (natRows M[j]) w∧(∀ s,ixsA 1 s v (.int .i64 (j:Int))=.val (.ptr bm p) s)∧h.get bm=some (.cells c sz)∧nth c p=w:=by
 obtain ⟨vs,h1,h2,h3⟩:=a
 have hr:j<vs.length:=by omega
 rcases h2.is with ⟨z,_⟩ | ⟨_,z1,z2,z3⟩
 ·rw [List.map_eq_nil_iff] at z
  subst z
  simp at hr
 ·refine ⟨vs[j],0+j * 1,_,_,h3 j hr hj,fun s=>by rw [z2];exact ixs_slice 1 s bm 0 _ _ true j (by rw [List.length_map];exact hr),z3,?_⟩
  rw [Nat.zero_add]
  have:=flatten_cut (rows:=vs.map fun v=>[v]) (w:=1) (i:=j) h2.wide (by rw [List.length_map];exact hr)
  exact cut1_nth (this.trans (by simp))
end
theorem MetS.push {s:St} {bm lo:Nat} {M:List (List Nat)} {v:AV} (a:MetS s.h s.n bm lo M v) {l:List Nat} {w:AV} (hw:Sl (fun x=>lo≤x∧x≠bm) s.h s.n 1 (natRows l) w) {p sz:Nat} (hp:s.h.get p=some (.cells [w] sz)) (hl:M.length+1≤1000) (hs:s.n+10≤far) :
  ∃ v' s',appendA false 1 24 (tag 22) s v (.slice p 0 1 1 false)=.val v' s'∧MetS s'.h s'.n s.n lo (M++[l]) v'∧s'.n=s.n+1∧(∀ c,c<s.n→c≠bm→s'.h.get c=s.h.get c):=by
 have hf:far=1000000000:=rfl
 obtain ⟨vs,h1,h2,h3⟩:=a
 obtain ⟨s',e1,e2,e3,e4,e5,e6⟩:=append_at (bytes:=24) h2 hp rfl hw.scal.1 (by rw [List.length_map];omega) (by kernel_rfl) (by omega)
 have mv:∀ {l:List Nat} {w:AV},Sl (fun x=>lo≤x∧x≠bm) s.h s.n 1 (natRows l) w→Sl (fun x=>lo≤x∧x≠s.n) s'.h s'.n 1 (natRows l) w:=fun q=>q.move (fun b b1 b2=>⟨e4 b b1 b2.2,b2.1,by omega⟩) (by omega)
 refine ⟨_,s',e1,⟨vs++[w],by simp [h1],?_,fun j j1 j2=>?_⟩,e3,e4⟩
 ·rw [List.map_append];exact e2
 ·by_cases e:j<vs.length
  ·rw [List.getElem_append_left e,List.getElem_append_left (by omega)]
   exact mv (h3 j e (by omega))
  ·have hj:j=vs.length:=by rw [List.length_append,List.length_singleton] at j1;omega
   subst hj
   rw [List.getElem_append_right (Nat.le_refl _),List.getElem_append_right (by omega)]
   simp only [h1,Nat.sub_self,List.getElem_singleton]
   exact mv hw
/-! ### The draw has each once -/
def draws (n base from_ j:Nat):List (List Nat):=(List.range j).map fun i=>pickL n (base+from_+i) (List.range n)
structure DrawnJ (w t:St) (p4 lo bS bA who bm n base from_ j kk:Nat) (l:Letting) (vS vA vm:AV):Prop where
 own:∃ x,0≤x∧x≤1000000000∧LetOwn t.h w.n lo bS bA (l.withTok who x) vS vA
 g4:t.h.get p4=some (.cells [vS,vA] (tag 28))
 met:MetS t.h t.n bm w.n (draws n base from_ j) vm
 bmc:(w.n≤bm∧bm<t.n)∨far<bm
 n:w.n≤t.n
 le:t.n≤w.n+kk
end Go.Proofs.Ythbhjgbpjlnbcaa.walk
set_option maxRecDepth 10000
namespace Go.Proofs.Ythbhjgbpjlnbcaa.walk
open Go.Abs Go.Proofs.Ythbhjgbpjlnbcaa.code
theorem aha_places (N:Nat) {cx:Ctx} {w:St} {bp:Nat} {l:Letting} {vO:AV} {no:Nat→Prop} {L:Env} {r:R} (hr:loopN K8l0 rounds (awd N) cx L [] w=r) (ok:l.Ok) (hO:Sl no w.h w.n 1 (natRows (drawL l)) vO) (hno:¬ no bp) (hbp:bp<w.n) (gp:w.h.get bp=some (.cells (hcell (plL l 0)) 0)) (hm:w.m≤far) (hs:w.n+100≤far)
  (q9:L.find 9=vO) (q12:L.find 12=.slice bp 0 l.appls.length l.appls.length false) (q13:L.find 13=.int .i64 (0:Nat)) :
  ∃ L1 t,r=.done (.exit 0) L1 [] t∧t.h.get bp=some (.cells (hcell (plL l l.appls.length)) 0)∧(∀ c,c≠bp→t.h.get c=w.h.get c)∧t.n=w.n∧t.m≤far∧∀ c,c<13→L1.find c=L.find c:=by
 have hf:far=1000000000:=rfl
 have m1:=ok.m1
 have dl:=drawL_len l
 have kO:=hO.okA
 have lO:=natLen hO.at_
 rw [dl] at lO
 obtain ⟨e,L1,t,rfl,rfl,h1,h2,h3,h4,h5⟩:=loop_of hr (fun i L' t'=>t'.h.get bp=some (.cells (hcell (plL l i)) 0)∧(∀ c,c≠bp→t'.h.get c=w.h.get c)∧t'.n=w.n∧t'.m≤far∧L'.find 13=.int .i64 (i:Nat)∧∀ c,c<13→L'.find c=L.find c) (fun e L' t'=>e=.exit 0∧t'.h.get bp=some (.cells (hcell (plL l l.appls.length)) 0)∧(∀ c,c≠bp→t'.h.get c=w.h.get c)∧t'.n=w.n∧t'.m≤far∧∀ c,c<13→L'.find c=L.find c) l.appls.length (by unfold rounds;omega)
  ⟨gp,fun _ _=>rfl,rfl,hm,q13,fun _ _=>rfl⟩
  (fun i L' t hi ⟨jp,same,jn,jm,p13,q⟩=>by
   have p9:=(q 9 (by omega)).trans q9
   have p12:=(q 12 (by omega)).trans q12
   by_cases hlt:i<l.appls.length
   ·have e0:decide ((i:Int)<(l.appls.length:Int))=true:=decide_eq_true (by omega)
    have ad:∀ s,aAdd s .i64 (i:Int) 1=.val (.int .i64 ((i:Int)+1)) s:=fun s=>aAdd_i64 s _ _ (by omega)
    have hid:i<(drawL l).length:=by omega
    have hOt:=hO.move (h':=t.h) (n':=t.n) (no':=no) (fun b _ h=>⟨same b (by rintro rfl;exact hno h),h⟩) (by omega)
    obtain ⟨b1,o1,c1,s1,x1,x2,x3,x4⟩:=natRow hOt.at_ hid
    have hal:=drawn_lt hid
    have hpl:=plL_succ hid
    generalize (drawL l)[i]=a at *
    have e1:decide ((a:Int)<0)=false:=decide_eq_false (by omega)
    have e2:decide ((l.appls.length:Int)≤(a:Int))=false:=decide_eq_false (by omega)
    have ixR:∀ s,ixsA 1 s (.slice bp 0 l.appls.length l.appls.length false) (.int .i64 (a:Int))=.val (.ptr bp a) s:=fun s=>by rw [ixs_slice 1 s bp 0 _ _ false a hal,Nat.zero_add,Nat.mul_one]
    have ov:=hcell_over (hs:=plL l i) (i:=a) (by rw [plL_len];exact hal) (i:Int)
    have u7:=eq3 K8r12s7.eq_1
    have u8:=eq3 K8r12s8.eq_1
    have u9:=eq3 K8r12s9.eq_1
    have u10:=eq3 K8r12s10.eq_1
    have u11:=eq3 K8r12s11.eq_1
    have u12:=eq3 K8r12s12.eq_1
    have u13:=eq3 K8r12s13.eq_1
    refine .inl ⟨hlt,_,t.put bp (.cells (hcell ((plL l i).set a i)) 0),by
     simp (config:={ maxSteps:=2000000 }) (disch:=first|omega|(with_unfolding_all exact rfl)|(simp only[new_n,put_n,new_m];omega)|(refine put_m_le ?_;simp only[new_m];omega)) only [K8l0,K8r11,K8r12,u7,u8,u9,u10,u11,u12,u13,K8r14,K8r15,Abs.W,reduceIte,Nat.reduceEqDiff,Nat.reduceAdd,decide_true,decide_false,kLoop_def,Nat.reduceSub,List.cons_append,List.nil_append,List.append_nil,List.length_cons,List.length_nil,efs,p9,p12,p13,kO,lO,e0,x2,x3,x4,e1,e2,ixR,jp,ov,ad,Nat.zero_add,Nat.add_zero]
     rfl,by rw [hpl];exact get_put_eq _ _ _ _ rfl (by omega),fun c hc=>(get_put_ne' _ _ _ _ hc).trans (same c hc),by rw [put_n];exact jn,by simp only [St.put,minN_eq];omega,?_,fun c hc=>?_⟩
    ·simp only [efs,reduceIte,Nat.reduceEqDiff];rfl
    ·simp only [efs]
     repeat rw [if_neg (by omega)]
     exact q c hc
   ·obtain rfl:i=l.appls.length:=by omega
    have e0:decide ((l.appls.length:Int)<(l.appls.length:Int))=false:=by simp
    refine .inr ⟨.exit 0,L'.set 77 (.bool false),t,by simp,?_,rfl,jp,same,jn,jm,fun c hc=>?_⟩
    ·simp (disch:=first|omega|(with_unfolding_all exact rfl)|(simp only[new_n,put_n,new_m];omega)|(refine put_m_le ?_;simp only[new_m];omega)) only [K8l0,K8r11,Abs.W,reduceIte,Nat.reduceEqDiff,Nat.reduceAdd,decide_true,decide_false,kLoop_def,Nat.reduceSub,List.cons_append,List.nil_append,List.append_nil,List.length_cons,List.length_nil,efs,p9,p13,kO,lO,e0]
    ·simp only [efs]
     rw [if_neg (by omega)]
     exact q c hc)
 exact ⟨L1,t,rfl,h1,h2,h3,h4,h5⟩
theorem aha_inner (N:Nat) {cx:Ctx} {w:St} {i m st p6 p16 bb:Nat} {S:StallR} {A:Appl} {a1 a2 wv bv:AV} {F:List Int} {L:Env} {r:R} (hr:loopN K8l1 rounds (awd N) cx L [] w=r) (g6:w.h.get p6=some (.cells S.cells (tag 53))) (g16:w.h.get p16=some (.cells [a1,a2,wv,bv] (tag 37))) (hW:Sl (fun x=>x<bb) w.h w.n 1 (intRows A.wishes) wv) (hB:Sl (fun x=>x<bb) w.h w.n 1 (intRows A.bids) bv) (h6:p6≠bb) (h16:p16≠bb) (gb:w.h.get bb=some (.cells (hcell F) 0)) (hF:F.length=m) (hi:i<m) (hF0:F.set i 0=F) (hbb:bb<w.n) (hwl:A.wishes.length≤8) (hbl:A.bids.length=A.wishes.length) (nd:A.wishes.Nodup) (hm:w.m≤far) (hs:w.n+100≤far)
  (q5:L.find 5=.int .i64 (st:Nat)) (q6:L.find 6=.ptr p6 0) (q11:L.find 11=.slice bb 0 m m false) (q15:L.find 15=.int .i64 (i:Nat)) (q16:L.find 16=.ptr p16 0) (q17:L.find 17=.bool false) (q18:L.find 18=.int .i64 (0:Nat)) :
  ∃ L1 t,r=.done (.exit 4) L1 [] t∧t.h.get bb=some (.cells (hcell (F.set i (wbid A st A.wishes.length))) 0)∧(∀ c,c≠bb→t.h.get c=w.h.get c)∧t.n=w.n∧t.m≤far∧L1.find 17=.bool (wcan S A st A.wishes.length)∧∀ c,c<17→L1.find c=L.find c:=by
 have hf:far=1000000000:=rfl
 have kW:=hW.okA
 have lW:=rowLen hW.at_
 have kB:=hB.okA
 unfold StallR.cells at g6
 obtain ⟨e,L1,t,rfl,rfl,h1,h2,h3,h4,h5,h6⟩:=loop_of hr (fun j L' t'=>t'.h.get bb=some (.cells (hcell (F.set i (wbid A st j))) 0)∧(∀ c,c≠bb→t'.h.get c=w.h.get c)∧t'.n=w.n∧t'.m≤far∧L'.find 17=.bool (wcan S A st j)∧L'.find 18=.int .i64 (j:Nat)∧∀ c,c<17→L'.find c=L.find c) (fun e L' t'=>e=.exit 4∧t'.h.get bb=some (.cells (hcell (F.set i (wbid A st A.wishes.length))) 0)∧(∀ c,c≠bb→t'.h.get c=w.h.get c)∧t'.n=w.n∧t'.m≤far∧L'.find 17=.bool (wcan S A st A.wishes.length)∧∀ c,c<17→L'.find c=L.find c) A.wishes.length (by unfold rounds;omega)
  ⟨by rw [wbid_zero,hF0];exact gb,fun _ _=>rfl,rfl,hm,by rw [wcan_zero];exact q17,q18,fun _ _=>rfl⟩
  (fun j L' t hj ⟨jb,same,jn,jm,p17,p18,q⟩=>by
   have p5:=(q 5 (by omega)).trans q5
   have p6':=(q 6 (by omega)).trans q6
   have p11:=(q 11 (by omega)).trans q11
   have p15:=(q 15 (by omega)).trans q15
   have p16':=(q 16 (by omega)).trans q16
   have t6:=(same p6 h6).trans g6
   have t16:=(same p16 h16).trans g16
   by_cases hlt:j<A.wishes.length
   ·have e0:decide ((j:Int)<(A.wishes.length:Int))=true:=decide_eq_true (by omega)
    have ad:∀ s,aAdd s .i64 (j:Int) 1=.val (.int .i64 ((j:Int)+1)) s:=fun s=>aAdd_i64 s _ _ (by omega)
    have hWt:=hW.move (h':=t.h) (n':=t.n) (no':=fun _=>True) (fun b _ h=>⟨same b (by omega),trivial⟩) (by omega)
    have hBt:=hB.move (h':=t.h) (n':=t.n) (no':=fun _=>True) (fun b _ h=>⟨same b (by omega),trivial⟩) (by omega)
    have hjb:j<A.bids.length:=by omega
    obtain ⟨b1,o1,c1,s1,x1,x2,x3,x4⟩:=rowInt hWt.at_ hlt
    by_cases he:A.wishes[j]=(st:Int)
    ·have e1:decide (A.wishes[j]=(st:Int))=true:=decide_eq_true he
     have hbid:=wbid_hit (st:=st) nd hlt hjb he
     have hcan:=wcan_hit (S:=S) (st:=st) nd hlt hjb he
     obtain ⟨b2,o2,c2,s2,y1,y2,y3,y4⟩:=rowInt hBt.at_ hjb
     have ixR:∀ s,ixsA 1 s (.slice bb 0 m m false) (.int .i64 (i:Int))=.val (.ptr bb i) s:=fun s=>by rw [ixs_slice 1 s bb 0 _ _ false i hi,Nat.zero_add,Nat.mul_one]
     have ov:=hcell_over (hs:=F.set i (wbid A st j)) (i:=i) (by rw [List.length_set,hF];exact hi) A.bids[j]
     have hset:(F.set i (wbid A st j)).set i A.bids[j]=F.set i (wbid A st (j+1)):=by rw [List.set_set,hbid]
     rw [hset] at ov
     obtain ⟨z,hz⟩:∃ z:St,z=t.put bb (.cells (hcell (F.set i (wbid A st (j+1)))) 0):=⟨_,rfl⟩
     have zn:z.n=t.n:=by rw [hz];rfl
     have zm:z.m≤far:=by rw [hz];simp only [St.put,minN_eq];omega
     have zg:∀ c,c≠bb→z.h.get c=t.h.get c:=fun c hc=>by rw [hz];exact get_put_ne' _ _ _ _ hc
     have zb:z.h.get bb=some (.cells (hcell (F.set i (wbid A st (j+1)))) 0):=by rw [hz];exact get_put_eq _ _ _ _ rfl (by omega)
     have z6:=(zg p6 h6).trans t6
     have z16:=(zg p16 h16).trans t16
     have hBz:=hB.move (h':=z.h) (n':=z.n) (no':=fun _=>True) (fun b _ h=>⟨(zg b (by omega)).trans (same b (by omega)),trivial⟩) (by omega)
     obtain ⟨b3,o3,c3,s3,w1,w2,w3,w4⟩:=rowInt hBz.at_ hjb
     have u5:=eq3 K8r25s5.eq_1
     have u6:=eq3 K8r25s6.eq_1
     have u7:=eq3 K8r25s7.eq_1
     have u8:=eq3 K8r25s8.eq_1
     have u9:=eq3 K8r25s9.eq_1
     have u10:=eq3 K8r25s10.eq_1
     have u11:=eq3 K8r25s11.eq_1
     have u12:=eq3 K8r25s12.eq_1
     cases h3:decide (S.rule=3) with
     | true =>
      rw [h3] at hcan
      refine .inl ⟨hlt,_,z,by
       simp (config:={ maxSteps:=2000000 }) (disch:=first|omega|(with_unfolding_all exact rfl)|(simp only[new_n,put_n,new_m];omega)|(refine put_m_le ?_;simp only[new_m];omega)) only [K8l1,K8r22,K8r23,K8r24,Abs.W,reduceIte,Nat.reduceEqDiff,Nat.reduceAdd,decide_true,decide_false,kLoop_def,Nat.reduceSub,List.cons_append,List.nil_append,List.append_nil,List.length_cons,List.length_nil,efs,p5,p6',p11,p15,p16',p17,p18,t6,t16,kW,lW,kB,e0,x2,x3,x4,e1,y2,y3,y4,ixR,jb,ov,ad,Nat.zero_add,Nat.add_zero]
       rw [← hz]
       simp (config:={ maxSteps:=2000000 }) (disch:=first|omega|(with_unfolding_all exact rfl)|(simp only[new_n,put_n,new_m];omega)|(refine put_m_le ?_;simp only[new_m];omega)) only [K8r25,u5,u6,u7,u8,u9,u10,u11,u12,K8r26,Abs.W,reduceIte,Nat.reduceEqDiff,Nat.reduceAdd,decide_true,decide_false,kLoop_def,Nat.reduceSub,List.cons_append,List.nil_append,List.append_nil,List.length_cons,List.length_nil,efs,p6',p16',p18,z6,z16,kB,h3,w2,w3,w4,ad,endO_nil,regD_ok,Nat.zero_add,Nat.add_zero]
       rfl,zb,fun c hc=>(zg c hc).trans (same c hc),by omega,zm,?_,?_,fun c hc=>?_⟩
      ·rw [hcan]
       simp only [efs,reduceIte,Nat.reduceEqDiff];rfl
      ·simp only [efs,reduceIte,Nat.reduceEqDiff];rfl
      ·simp only [efs]
       repeat rw [if_neg (by omega)]
       exact q c hc
     | false =>
      rw [h3] at hcan
      refine .inl ⟨hlt,_,z,by
       simp (config:={ maxSteps:=2000000 }) (disch:=first|omega|(with_unfolding_all exact rfl)|(simp only[new_n,put_n,new_m];omega)|(refine put_m_le ?_;simp only[new_m];omega)) only [K8l1,K8r22,K8r23,K8r24,Abs.W,reduceIte,Nat.reduceEqDiff,Nat.reduceAdd,decide_true,decide_false,kLoop_def,Nat.reduceSub,List.cons_append,List.nil_append,List.append_nil,List.length_cons,List.length_nil,efs,p5,p6',p11,p15,p16',p17,p18,t6,t16,kW,lW,kB,e0,x2,x3,x4,e1,y2,y3,y4,ixR,jb,ov,ad,Nat.zero_add,Nat.add_zero]
       rw [← hz]
       simp (config:={ maxSteps:=2000000 }) (disch:=first|omega|(with_unfolding_all exact rfl)|(simp only[new_n,put_n,new_m];omega)|(refine put_m_le ?_;simp only[new_m];omega)) only [K8r25,u5,u6,u7,u8,u9,u10,u11,u12,K8r26,Abs.W,reduceIte,Nat.reduceEqDiff,Nat.reduceAdd,decide_true,decide_false,kLoop_def,Nat.reduceSub,List.cons_append,List.nil_append,List.append_nil,List.length_cons,List.length_nil,efs,p6',p16',p18,z6,z16,kB,h3,w2,w3,w4,ad,endO_nil,regD_ok,Nat.zero_add,Nat.add_zero]
       rfl,zb,fun c hc=>(zg c hc).trans (same c hc),by omega,zm,?_,?_,fun c hc=>?_⟩
      ·rw [hcan]
       simp only [efs,reduceIte,Nat.reduceEqDiff];rfl
      ·simp only [efs,reduceIte,Nat.reduceEqDiff];rfl
      ·simp only [efs]
       repeat rw [if_neg (by omega)]
       exact q c hc
    ·have e1:decide (A.wishes[j]=(st:Int))=false:=decide_eq_false he
     have hbid:=wbid_skip (st:=st) hlt he
     have hcan:=wcan_skip (S:=S) (st:=st) hlt he
     refine .inl ⟨hlt,_,t,by
      simp (disch:=first|omega|(with_unfolding_all exact rfl)|(simp only[new_n,put_n,new_m];omega)|(refine put_m_le ?_;simp only[new_m];omega)) only [K8l1,K8r22,K8r23,K8r26,Abs.W,reduceIte,Nat.reduceEqDiff,Nat.reduceAdd,decide_true,decide_false,kLoop_def,Nat.reduceSub,List.cons_append,List.nil_append,List.append_nil,List.length_cons,List.length_nil,efs,p5,p16',p18,t16,kW,lW,e0,x2,x3,x4,e1,ad,Nat.zero_add,Nat.add_zero]
      rfl,by rw [hbid];exact jb,same,jn,jm,?_,?_,fun c hc=>?_⟩
     ·rw [hcan]
      simp only [efs,p17,reduceIte,Nat.reduceEqDiff]
     ·simp only [efs,reduceIte,Nat.reduceEqDiff];rfl
     ·simp only [efs]
      repeat rw [if_neg (by omega)]
      exact q c hc
   ·obtain rfl:j=A.wishes.length:=by omega
    have e0:decide ((A.wishes.length:Int)<(A.wishes.length:Int))=false:=by simp
    refine .inr ⟨.exit 4,L'.set 117 (.bool false),t,by simp,?_,rfl,jb,same,jn,jm,?_,fun c hc=>?_⟩
    ·simp (disch:=first|omega|(with_unfolding_all exact rfl)|(simp only[new_n,put_n,new_m];omega)|(refine put_m_le ?_;simp only[new_m];omega)) only [K8l1,K8r22,Abs.W,reduceIte,Nat.reduceEqDiff,Nat.reduceAdd,decide_true,decide_false,kLoop_def,Nat.reduceSub,List.cons_append,List.nil_append,List.append_nil,List.length_cons,List.length_nil,efs,p16',p18,t16,kW,lW,e0,Nat.zero_add]
    ·simp only [efs,p17,reduceIte,Nat.reduceEqDiff]
    ·simp only [efs]
     rw [if_neg (by omega)]
     exact q c hc)
 exact ⟨L1,t,rfl,h1,h2,h3,h4,h5,h6⟩
end Go.Proofs.Ythbhjgbpjlnbcaa.walk
set_option maxRecDepth 10000
namespace Go.Proofs.Ythbhjgbpjlnbcaa.walk
open Go.Abs Go.Proofs.Ythbhjgbpjlnbcaa.code
theorem boolEqM (neg:Bool) (s:St) (a b:Bool):eqlA .bool neg s (.bool a) (.bool b)=.val (.bool (xor (a == b) neg)) s:=by cases a<;>cases b<;>cases neg<;>rfl
theorem kEqlM (c:Cmp) (neg:Bool) (x y:Arg) (L:Env) (s:St):kEql c neg x y L s=eqlA c neg s (x.ev L) (y.ev L):=Eq.trans (Eq.refl _) (Eq.refl _)
def manyN (l:Letting) (st i:Nat):Nat:=((List.range i).filter (canI l st)).length
theorem manyN_succ (l:Letting) (st i:Nat):manyN l st (i+1)=manyN l st i+(if canI l st i=true then 1 else 0):=by
 unfold manyN
 rw [List.range_succ,List.filter_append,List.length_append]
 congr 1
 simp only [List.filter_cons,List.filter_nil]
 split<;>rfl
theorem manyN_le (l:Letting) (st i:Nat):manyN l st i≤i:=by
 unfold manyN
 have:=List.length_filter_le (canI l st) (List.range i)
 rwa [List.length_range] at this
theorem aha_round (N:Nat) (hN:17≤N) (cx:Ctx) {w t:St} {p4 z4 p6 bb i st kk:Nat} {l:Letting} {vS vA vR:AV} {g:List Nat} {L:Env} (ok:l.Ok) (hst:st<l.stalls.length) (hR:RankOf l st g) (hi:i<l.appls.length) (hL:LetAt (fun x=>x<bb) (fun x=>x<bb) w.h w.n l vS vA) (g4:w.h.get p4=some (.cells [vS,vA] z4)) (h4:p4<bb) (g6:w.h.get p6=some (.cells l.stalls[st].cells (tag 53))) (h6:p6<bb) (hbb:bb<w.n) (hG:Sl (fun x=>x<bb) w.h w.n 1 (natRows g) vR) (same:∀ c,c<w.n→c≠bb→t.h.get c=w.h.get c) (jb:t.h.get bb=some (.cells (hcell (bdL l st i)) 0)) (jn:w.n≤t.n) (jle:t.n≤w.n+kk) (jm:t.m≤far) (hs':w.n+kk+1000≤far)
  (q4:L.find 4=.ptr p4 0) (q5:L.find 5=.int .i64 (st:Nat)) (q6:L.find 6=.ptr p6 0) (q7:L.find 7=vR) (q11:L.find 11=.slice bb 0 l.appls.length l.appls.length false) (q14:L.find 14=.int .i64 (manyN l st i:Nat)) (q15:L.find 15=.int .i64 (i:Nat)) :
  ∃ L1 t1,K8l2 (awd N) cx L [] t=.done .norm L1 [] t1∧(∀ c,c<w.n→c≠bb→t1.h.get c=w.h.get c)∧t1.h.get bb=some (.cells (hcell (bdL l st (i+1))) 0)∧w.n≤t1.n∧t1.n≤w.n+(kk+1)∧t1.m≤far∧L1.find 14=.int .i64 (manyN l st (i+1):Nat)∧L1.find 15=.int .i64 (i+1:Nat)∧∀ c,c<14→L1.find c=L.find c:=by
 have hf:far=1000000000:=rfl
 have knH:∀ args s,awd N (.fn 16) args s=call Try.prog X N (.fn 16) args s:=fun _ _=>rfl
 have m1:=ok.m1
 have mi:=manyN_le l st i
 have msucc:=manyN_succ l st i
 have hcf:=wcan_full ok hi hst
 have hbs:=bdL_succ (st:=st) hi
 have hLt:=hL.move (h':=t.h) (n':=t.n) (no':=fun x=>x<bb) (na':=fun x=>x<bb) (fun b hb h=>⟨same b hb (by omega),h⟩) (fun b hb h=>⟨same b hb (by omega),h⟩) jn
 have hGt:=hG.move (h':=t.h) (n':=t.n) (no':=fun x=>x<bb) (fun b hb h=>⟨same b hb (by omega),h⟩) jn
 have t4:=(same p4 (by omega) (by omega)).trans g4
 have t6:=(same p6 (by omega) (by omega)).trans g6
 have kA:=hLt.okV
 have lA:=hLt.lenA
 have kR:=hGt.okA
 have e0:decide ((i:Int)<(l.appls.length:Int))=true:=decide_eq_true (by omega)
 have ad:∀ s,aAdd s .i64 (i:Int) 1=.val (.int .i64 ((i:Int)+1)) s:=fun s=>aAdd_i64 s _ _ (by omega)
 have ad2:∀ s,aAdd s .i64 (manyN l st i:Int) 1=.val (.int .i64 ((manyN l st i:Int)+1)) s:=fun s=>aAdd_i64 s _ _ (by omega)
 obtain ⟨ww,pa,oa,ca,za,⟨pal,_⟩,a1,a2,a3,a4,a5⟩:=hLt.getA2 hi
 obtain ⟨w1,w2⟩:=ww
 simp only at a3 a4 a5
 have sw1:=a4.scal
 have sw2:=a5.scal
 have Ai:=ok.ap _ (List.getElem_mem hi)
 obtain ⟨y,hy⟩:∃ y:St,y=(t.new (.cells [.int .i64 0,.int .i64 0,.nilslice,.nilslice] (tag 37))).put t.n (.cells [.int .i64 l.appls[i].years,.int .i64 l.appls[i].token,w1,w2] (tag 37)):=⟨_,rfl⟩
 have yn:y.n=t.n+1:=by rw [hy];rfl
 have ym:y.m≤far:=by rw [hy];simp only [St.put,minN_eq,new_m];omega
 have yg:∀ c,c<t.n→y.h.get c=t.h.get c:=fun c hc=>by rw [hy,get_put_ne' _ _ _ _ (by omega),get_new_ne _ _ _ (by omega)]
 have yp:y.h.get t.n=some (.cells [.int .i64 l.appls[i].years,.int .i64 l.appls[i].token,w1,w2] (tag 37)):=by rw [hy];exact get_put_eq _ _ _ _ rfl (by omega)
 simp (disch:=first|omega|(with_unfolding_all exact rfl)|(simp only[new_n,put_n,new_m];omega)|(refine put_m_le ?_;simp only[new_m];omega)) only [K8l2,K8r18,K8r19,K8r20,K8r21,Abs.W,reduceIte,Nat.reduceEqDiff,Nat.reduceAdd,decide_true,decide_false,kLoop_def,Nat.reduceSub,List.cons_append,List.nil_append,List.append_nil,List.length_cons,List.length_nil,efs,q4,q15,t4,kA,lA,e0,a1,a2,a3,sw1.1,sw1.2.1,sw1.2.2,sw2.1,sw2.2.1,sw2.2.2,Nat.zero_add]
 rw [← hy]
 generalize hlp:loopN _ rounds _ _ _ _ _=rl
 obtain ⟨L2,t2,rfl,f1,f2,f3,f4,f5,f6⟩:=aha_inner N (S:=l.stalls[st]) (st:=st) (p6:=p6) (m:=l.appls.length) hlp ((yg p6 (by omega)).trans t6) yp (a4.grow yg (by omega)) (a5.grow yg (by omega)) (by omega) (by omega) ((yg bb (by omega)).trans jb) (bdL_len l st i) hi bdL_same (by omega) Ai.wl Ai.bl Ai.nd ym (by omega)
  (by simp only [efs,q5,reduceIte,Nat.reduceEqDiff]) (by simp only [efs,q6,reduceIte,Nat.reduceEqDiff]) (by simp only [efs,q11,reduceIte,Nat.reduceEqDiff]) (by simp only [efs,q15,reduceIte,Nat.reduceEqDiff]) (by simp only [efs,reduceIte,Nat.reduceEqDiff]) (by simp only [efs,reduceIte,Nat.reduceEqDiff]) (by simp only [efs,reduceIte,Nat.reduceEqDiff];rfl)
 rw [hbs] at f1
 rw [hcf] at f5
 have g6':L2.find 6=.ptr p6 0:=(f6 6 (by omega)).trans (by simp only [efs,q6,reduceIte,Nat.reduceEqDiff])
 have g7:L2.find 7=vR:=(f6 7 (by omega)).trans (by simp only [efs,q7,reduceIte,Nat.reduceEqDiff])
 have g14:L2.find 14=.int .i64 (manyN l st i:Nat):=(f6 14 (by omega)).trans (by simp only [efs,q14,reduceIte,Nat.reduceEqDiff])
 have g15:L2.find 15=.int .i64 (i:Nat):=(f6 15 (by omega)).trans (by simp only [efs,q15,reduceIte,Nat.reduceEqDiff])
 have rest:∀ c,c<14→L2.find c=L.find c:=fun c hc=>by
  rw [f6 c (by omega)]
  simp only [efs]
  repeat rw [if_neg (by omega)]
 have ty:∀ c,c<w.n→c≠bb→t2.h.get c=w.h.get c:=fun c h1 h2=>(f2 c h2).trans ((yg c (by omega)).trans (same c h1 h2))
 have hG2:=hGt.move (h':=t2.h) (n':=t2.n) (no':=fun x=>x<bb) (fun b hb h=>⟨(f2 b (by omega)).trans (yg b hb),h⟩) (by omega)
 have t26:=(ty p6 (by omega) (by omega)).trans g6
 have hgl:g.length≤8:=by rw [hR.same.len];exact ableL_len ok st
 have hmem:decide ((i:Int) ∈ g.map Int.ofNat)=canI l st i:=by
  rw [Bool.eq_iff_iff,decide_eq_true_eq,List.mem_map]
  constructor
  ·rintro ⟨x,hx,he⟩
   have:x=i:=Int.ofNat.inj he
   subst this
   exact (ableL_mem.mp ((hR.same.mem x).mp hx)).2
  ·intro h
   exact ⟨i,(hR.same.mem i).mpr (ableL_mem.mpr ⟨hi,h⟩),rfl⟩
 have ho:=has_ok N (by omega) (g.map Int.ofNat) (i:Int) vR t2 hG2.at_ (by rw [List.length_map];omega) (by omega)
 have ho':=has_ok N (by omega) (g.map Int.ofNat) (i:Int) vR ⟨t2.h,t2.n,far⟩ hG2.at_ (by rw [List.length_map];omega) (by show t2.n+10≤far;omega)
 rw [hmem] at ho ho'
 have kR2:=hG2.okA
 have u7:=eq3 K8r27s7.eq_1
 have u8:=eq3 K8r27s8.eq_1
 have u9:=eq3 K8r27s9.eq_1
 have u10:=eq3 K8r27s10.eq_1
 have u11:=eq3 K8r27s11.eq_1
 have u12:=eq3 K8r27s12.eq_1
 have u13:=eq3 K8r27s13.eq_1
 have u14:=eq3 K8r27s14.eq_1
 have u15:=eq3 K8r27s15.eq_1
 have u16:=eq3 K8r27s16.eq_1
 have u17:=eq3 K8r27s17.eq_1
 have u18:=eq3 K8r27s18.eq_1
 have u19:=eq3 K8r27s19.eq_1
 have u20:=eq3 K8r27s20.eq_1
 unfold StallR.cells at t26
 cases hc:canI l st i with
 | false =>
  rw [hc] at f5 ho ho' msucc
  have e1:∀ s,eqlA .bool true s (.bool false) (.bool false)=.val (.bool false) s:=fun s=>by rw [boolEqM];rfl
  refine ⟨_,t2,by
   simp (config:={ maxSteps:=2000000 }) (disch:=first|omega|(with_unfolding_all exact rfl)|(simp only[new_n,put_n,new_m];omega)|(refine put_m_le ?_;simp only[new_m];omega)) only [K8r27,u7,u8,u9,u10,u11,u12,u13,u14,u15,u16,u17,u18,u19,u20,K8r29,K8r31,Abs.W,reduceIte,Nat.reduceEqDiff,Nat.reduceAdd,decide_true,decide_false,kLoop_def,Nat.reduceSub,List.cons_append,List.nil_append,List.append_nil,List.length_cons,List.length_nil,efs,g7,g15,f5,kR2,knH,ho,ho',kEqlM,e1,ad,Nat.zero_add]
   rfl,ty,f1,by omega,by omega,by omega,?_,?_,fun c hc=>?_⟩
  ·rw [msucc]
   simp only [efs,g14,reduceIte,Nat.reduceEqDiff];rfl
  ·simp only [efs,reduceIte,Nat.reduceEqDiff];rfl
  ·simp only [efs]
   repeat rw [if_neg (by omega)]
   exact rest c hc
 | true =>
  rw [hc] at f5 ho ho' msucc
  have e1:∀ s,eqlA .bool true s (.bool true) (.bool true)=.val (.bool false) s:=fun s=>by rw [boolEqM];rfl
  by_cases hh:l.stalls[st].heir=(i:Int)
  ·have e2:decide (l.stalls[st].heir=(i:Int))=true:=decide_eq_true hh
   obtain ⟨hp,h0⟩:=heir_first ok hR hi hst hc hh
   obtain ⟨b1,o1,c1,s1,x1,x2,x3,x4⟩:=natRow hG2.at_ hp
   rw [h0] at x4
   have x2':∀ s,ixsA 1 s vR (.int .i64 0)=.val (.ptr b1 o1) s:=x2
   have e3:decide ((i:Int)=(i:Int))=true:=by simp
   refine ⟨_,t2,by
    simp (config:={ maxSteps:=2000000 }) (disch:=first|omega|(with_unfolding_all exact rfl)|(simp only[new_n,put_n,new_m];omega)|(refine put_m_le ?_;simp only[new_m];omega)) only [K8r27,u7,u8,u9,u10,u11,u12,u13,u14,u15,u16,u17,u18,u19,u20,K8r29,K8r30,K8r31,Abs.W,reduceIte,Nat.reduceEqDiff,Nat.reduceAdd,decide_true,decide_false,kLoop_def,Nat.reduceSub,List.cons_append,List.nil_append,List.append_nil,List.length_cons,List.length_nil,efs,g6',g7,g14,g15,f5,kR2,knH,ho,ho',kEqlM,e1,t26,e2,x2',x3,x4,e3,ad,ad2,Nat.zero_add]
    rfl,ty,f1,by omega,by omega,by omega,?_,?_,fun c hc=>?_⟩
   ·rw [msucc]
    simp only [efs,reduceIte,Nat.reduceEqDiff];rfl
   ·simp only [efs,reduceIte,Nat.reduceEqDiff];rfl
   ·simp only [efs]
    repeat rw [if_neg (by omega)]
    exact rest c hc
  ·have e2:decide (l.stalls[st].heir=(i:Int))=false:=decide_eq_false hh
   refine ⟨_,t2,by
    simp (config:={ maxSteps:=2000000 }) (disch:=first|omega|(with_unfolding_all exact rfl)|(simp only[new_n,put_n,new_m];omega)|(refine put_m_le ?_;simp only[new_m];omega)) only [K8r27,u7,u8,u9,u10,u11,u12,u13,u14,u15,u16,u17,u18,u19,u20,K8r29,K8r30,K8r31,Abs.W,reduceIte,Nat.reduceEqDiff,Nat.reduceAdd,decide_true,decide_false,kLoop_def,Nat.reduceSub,List.cons_append,List.nil_append,List.append_nil,List.length_cons,List.length_nil,efs,g6',g7,g14,g15,f5,kR2,knH,ho,ho',kEqlM,e1,t26,e2,ad,ad2,Nat.zero_add]
    rfl,ty,f1,by omega,by omega,by omega,?_,?_,fun c hc=>?_⟩
   ·rw [msucc]
    simp only [efs,reduceIte,Nat.reduceEqDiff];rfl
   ·simp only [efs,reduceIte,Nat.reduceEqDiff];rfl
   ·simp only [efs]
    repeat rw [if_neg (by omega)]
    exact rest c hc
end Go.Proofs.Ythbhjgbpjlnbcaa.walk
