/- Dues: steps that may be, and what they make of a turnover. -/
import Derived.Test.YtamlnddeiokbdaaM3
import Derived.Test.YtamlnddeiokbdaaM2
import Derived.Test.YtamlnddeiokbdaaCodes
import Derived.Test.YtamlnddeiokbdaaM1
import Derived.Test.YtamlnddeiokbdaaWalkAll
set_option linter.unusedSimpArgs false
set_option maxHeartbeats 16000000
set_option linter.unusedVariables false
set_option maxRecDepth 10000
namespace Go.Proofs.Ytamlnddeiokbdaa.walk
open Go.Abs Go.Proofs.Ytamlnddeiokbdaa.code
theorem unless_ok (N:Nat) (hN:1≤N) (e:Int) (s:St) (hs:s.n≤far):call Try.prog X N (.fn 72) [.bool true,.int .i64 e] s=.val (.int .i64 0) s:=by
 obtain ⟨n,rfl⟩:∃ n,N=n+1:=⟨N - 1,by omega⟩
 refine call_plain (s':=⟨s.h,s.n,far⟩) Try.func72 ?_ rfl hs
 rw [enter72]
 simp only [res72,K72r0,K72r1,K72r2,K72r3,K72,Abs.W,reduceIte,Nat.reduceEqDiff,Nat.reduceAdd,decide_true,decide_false,kLoop_def,Nat.reduceSub,List.cons_append,List.nil_append,List.append_nil,List.length_cons,List.length_nil]
end Go.Proofs.Ytamlnddeiokbdaa.walk
set_option maxRecDepth 10000
namespace Go.Proofs.Ytamlnddeiokbdaa.walk
open Go.Abs Go.Proofs.Ytamlnddeiokbdaa.code
end Go.Proofs.Ytamlnddeiokbdaa.walk
namespace Go.Proofs.Ytamlnddeiokbdaa.walk
open Go.Abs Go.Proofs.Ytamlnddeiokbdaa.code
section
variable {l r:List Sale}
end
end Go.Proofs.Ytamlnddeiokbdaa.walk
namespace Go.Proofs.Ytamlnddeiokbdaa.walk
open Go.Abs Go.Proofs.Ytamlnddeiokbdaa.code
abbrev Sold:=Sale × (Int × Int)
def allG (g:Int):List Sold→Int
 | []=>0
 | z::r=>(if z.1.gd=g then z.2.1 else 0)+allG g r
def uptoZ (g p:Int):List Sold→Int
 | []=>0
 | z::r=>(if z.1.gd=g∧z.2.2≤p then z.2.1 else 0)+uptoZ g p r
theorem allG_snoc (g:Int) (x:Sold):∀ l:List Sold,allG g (l++[x])=allG g l+(if x.1.gd=g then x.2.1 else 0)
 | []=>by show _+0=0+_;omega
 | y::l=>by show _+allG g (l++[x])=_+allG g l+_;rw [allG_snoc g x l];omega
theorem uptoZ_snoc (g p:Int) (x:Sold):∀ l:List Sold,uptoZ g p (l++[x])=uptoZ g p l+(if x.1.gd=g∧x.2.2≤p then x.2.1 else 0)
 | []=>by show _+0=0+_;omega
 | y::l=>by show _+uptoZ g p (l++[x])=_+uptoZ g p l+_;rw [uptoZ_snoc g p x l];omega
def fairStep (g all:Int) (Z:List Sold) (st:Int × Bool) (z:Sold):Int × Bool :=
 if z.1.gd≠g∨(st.2=true∧st.1≤z.2.2) then st else if all≤2 * uptoZ g z.2.2 Z then (z.2.2,true) else st
def fairTo (g:Int) (Z:List Sold) (l:List Sold):Int × Bool:=l.foldl (fairStep g (allG g Z) Z) (0,false)
def fairI (g:Int) (Z:List Sold):Int × Bool:=if allG g Z=0 then (0,false) else fairTo g Z Z
structure Sold.Ok (z:Sold):Prop where
 g0:0≤z.1.gl
 g1:z.1.gl≤z.2.1
 g2:z.2.1≤z.1.gh
 g3:z.1.gh≤5000
 c0:0≤z.1.cl
 c1:z.1.cl≤z.2.2
 c2:z.2.2≤z.1.ch
 c3:z.1.ch≤2000
def AllOk (Z:List Sold):Prop:=∀ z ∈ Z,Sold.Ok z
theorem AllOk.tail {z:Sold} {Z:List Sold} (h:AllOk (z::Z)):AllOk Z:=fun x hx=>h x (List.mem_cons_of_mem _ hx)
theorem AllOk.left {l r:List Sold} (h:AllOk (l++r)):AllOk l:=fun x hx=>h x (List.mem_append_left _ hx)
theorem all_range (g:Int):∀ Z:List Sold,AllOk Z→0≤allG g Z∧allG g Z≤5000 * Z.length
 | [],_=>by unfold allG;simp
 | z::r,h=>by
  obtain ⟨a,b⟩:=all_range g r h.tail
  have:=h z (List.mem_cons_self ..)
  obtain ⟨g0,g1,g2,g3,_,_,_,_⟩:=this
  unfold allG
  rw [List.length_cons]
  split<;>omega
theorem upto_range (g p:Int):∀ Z:List Sold,AllOk Z→0≤uptoZ g p Z∧uptoZ g p Z≤allG g Z
 | [],_=>by unfold uptoZ allG;simp
 | z::r,h=>by
  obtain ⟨a,b⟩:=upto_range g p r h.tail
  obtain ⟨g0,g1,g2,g3,_,_,_,_⟩:=h z (List.mem_cons_self ..)
  unfold uptoZ allG
  by_cases h1:z.1.gd=g
  ·by_cases h2:z.2.2≤p
   ·rw [if_pos ⟨h1,h2⟩,if_pos h1];omega
   ·rw [if_neg (fun h=>h2 h.2),if_pos h1];omega
  ·rw [if_neg (fun h=>h1 h.1),if_neg h1];omega
theorem upto_same (g:Int) {p q:Int}:∀ Z:List Sold,(∀ z ∈ Z,z.1.gd=g→(z.2.2≤p↔z.2.2≤q))→uptoZ g p Z=uptoZ g q Z
 | [],_=>rfl
 | z::r,h=>by
  have a:=upto_same g r (fun x hx=>h x (List.mem_cons_of_mem _ hx))
  have c:=h z (List.mem_cons_self ..)
  unfold uptoZ
  rw [a]
  congr 1
  by_cases h1:z.1.gd=g
  ·by_cases h2:z.2.2≤p
   ·rw [if_pos ⟨h1,h2⟩,if_pos ⟨h1,(c h1).mp h2⟩]
   ·rw [if_neg (fun h=>h2 h.2),if_neg (fun h=>h2 ((c h1).mpr h.2))]
  ·rw [if_neg (fun h=>h1 h.1),if_neg (fun h=>h1 h.1)]
theorem upto_some (g p:Int):∀ Z:List Sold,AllOk Z→0<uptoZ g p Z→∃ z ∈ Z,z.1.gd=g∧z.2.2≤p∧0<z.2.1
 | [],_,h=>absurd h (by unfold uptoZ;omega)
 | z::r,ok,h=>by
  unfold uptoZ at h
  by_cases h1:z.1.gd=g∧z.2.2≤p∧0<z.2.1
  ·exact ⟨z,List.mem_cons_self ..,h1⟩
  ·obtain ⟨g0,g1,g2,g3,_,_,_,_⟩:=ok z (List.mem_cons_self ..)
   have:(if z.1.gd=g∧z.2.2≤p then z.2.1 else 0)≤0:=by
    split
    ·rename_i h2
     have:¬ 0<z.2.1:=fun h3=>h1 ⟨h2.1,h2.2,h3⟩
     omega
    ·omega
   obtain ⟨x,hx,hh⟩:=upto_some g p r ok.tail (by omega)
   exact ⟨x,List.mem_cons_of_mem _ hx,hh⟩
theorem fair_fold (g all:Int) (Z:List Sold):∀ (r:List Sold) (st:Int × Bool),
  (st.2=true→(r.foldl (fairStep g all Z) st).2=true∧(r.foldl (fairStep g all Z) st).1≤st.1) ∧
  (∀ z ∈ r,z.1.gd=g→all≤2 * uptoZ g z.2.2 Z→(r.foldl (fairStep g all Z) st).2=true∧(r.foldl (fairStep g all Z) st).1≤z.2.2) ∧
  (r.foldl (fairStep g all Z) st=st∨∃ z ∈ r,z.1.gd=g∧all≤2 * uptoZ g z.2.2 Z∧r.foldl (fairStep g all Z) st=(z.2.2,true))
 | [],st=>⟨fun h=>⟨h,Int.le_refl _⟩,fun z hz=>absurd hz (by simp),Or.inl rfl⟩
 | a::r,st=>by
  obtain ⟨h1,h2,h3⟩:=fair_fold g all Z r (fairStep g all Z st a)
  rw [List.foldl_cons]
  have k1:st.2=true→(fairStep g all Z st a).2=true∧(fairStep g all Z st a).1≤st.1:=fun h=>by
   unfold fairStep
   by_cases c:a.1.gd≠g∨(st.2=true∧st.1≤a.2.2)
   ·rw [if_pos c];exact ⟨h,Int.le_refl _⟩
   ·rw [if_neg c]
    have:¬ st.1≤a.2.2:=fun hh=>c (.inr ⟨h,hh⟩)
    split
    ·exact ⟨rfl,by show a.2.2≤st.1;omega⟩
    ·exact ⟨h,Int.le_refl _⟩
  have k2:a.1.gd=g→all≤2 * uptoZ g a.2.2 Z→(fairStep g all Z st a).2=true∧(fairStep g all Z st a).1≤a.2.2:=fun h hh=>by
   unfold fairStep
   by_cases c:a.1.gd≠g∨(st.2=true∧st.1≤a.2.2)
   ·rw [if_pos c]
    rcases c with c | c
    ·exact absurd h c
    ·exact c
   ·rw [if_neg c,if_pos hh];exact ⟨rfl,Int.le_refl _⟩
  refine ⟨fun h=>?_,fun z hz hg hh=>?_,?_⟩
  ·obtain ⟨a1,a2⟩:=k1 h
   obtain ⟨b1,b2⟩:=h1 a1
   exact ⟨b1,Int.le_trans b2 a2⟩
  ·rcases List.mem_cons.mp hz with rfl | hz
   ·obtain ⟨a1,a2⟩:=k2 hg hh
    obtain ⟨b1,b2⟩:=h1 a1
    exact ⟨b1,Int.le_trans b2 a2⟩
   ·exact h2 z hz hg hh
  ·rcases h3 with h3 | ⟨z,hz,q1,q2,q3⟩
   ·rw [h3]
    unfold fairStep
    by_cases c:a.1.gd≠g∨(st.2=true∧st.1≤a.2.2)
    ·rw [if_pos c];exact .inl rfl
    ·rw [if_neg c]
     by_cases hh:all≤2 * uptoZ g a.2.2 Z
     ·rw [if_pos hh]
      have:a.1.gd=g:=Decidable.byContradiction fun h=>c (.inl h)
      exact .inr ⟨a,List.mem_cons_self ..,this,hh,rfl⟩
     ·rw [if_neg hh];exact .inl rfl
   ·exact .inr ⟨z,List.mem_cons_of_mem _ hz,q1,q2,q3⟩
theorem greatest_z (f:Sold→Int):∀ (l:List Sold),l≠[]→∃ s ∈ l,∀ t ∈ l,f t≤f s
 | [],h=>absurd rfl h
 | [a],_=>⟨a,List.mem_cons_self ..,fun t ht=>by rw [List.mem_singleton.mp ht];exact Int.le_refl _⟩
 | a::b::r,_=>by
  obtain ⟨s,hs,h⟩:=greatest_z f (b::r) (by simp)
  by_cases g:f s≤f a
  ·exact ⟨a,List.mem_cons_self ..,fun t ht=>by
    rcases List.mem_cons.mp ht with rfl | ht
    ·exact Int.le_refl _
    ·exact Int.le_trans (h t ht) g⟩
  ·exact ⟨s,List.mem_cons_of_mem _ hs,fun t ht=>by
    rcases List.mem_cons.mp ht with rfl | ht
    ·omega
    ·exact h t ht⟩
theorem fair_upTo {g:Int} {Z:List Sold} (ok:AllOk Z) (ha:0<allG g Z) {q:Int} (h:allG g Z≤2 * uptoZ g q Z):(fairI g Z).2=true∧(fairI g Z).1≤q:=by
 obtain ⟨z,hz,z1,z2,_⟩:=upto_some g q Z ok (by omega)
 have hm:z ∈ Z.filter (fun t=>decide (t.1.gd=g) && decide (t.2.2≤q)):=List.mem_filter.mpr ⟨hz,by rw [decide_eq_true z1,decide_eq_true z2];rfl⟩
 obtain ⟨m,mm,mg⟩:=greatest_z (fun t=>t.2.2) (Z.filter (fun t=>decide (t.1.gd=g) && decide (t.2.2≤q))) (fun h0=>by rw [h0] at hm;cases hm)
 obtain ⟨m1,m2⟩:=List.mem_filter.mp mm
 obtain ⟨m3,m4⟩:=Bool.and_eq_true_iff.mp m2
 have m3:=of_decide_eq_true m3
 have m4:=of_decide_eq_true m4
 have e:=upto_same g (p:=m.2.2) (q:=q) Z (fun t ht hg=>⟨fun h=>Int.le_trans h m4,fun h=>mg t (List.mem_filter.mpr ⟨ht,by rw [decide_eq_true hg,decide_eq_true h];rfl⟩)⟩)
 obtain ⟨a1,a2⟩:=(fair_fold g (allG g Z) Z Z (0,false)).2.1 m m1 m3 (by rw [e];exact h)
 unfold fairI
 rw [if_neg (by omega)]
 exact ⟨a1,Int.le_trans a2 m4⟩
theorem upto_all (g q:Int):∀ Z:List Sold,(∀ z ∈ Z,z.2.2≤q)→uptoZ g q Z=allG g Z
 | [],_=>rfl
 | z::r,h=>by
  unfold uptoZ allG
  rw [upto_all g q r (fun x hx=>h x (List.mem_cons_of_mem _ hx))]
  have:=h z (List.mem_cons_self ..)
  by_cases h1:z.1.gd=g
  ·rw [if_pos ⟨h1,this⟩,if_pos h1]
  ·rw [if_neg (fun h=>h1 h.1),if_neg h1]
theorem fair_is {g:Int} {Z:List Sold} (ok:AllOk Z) (ha:0<allG g Z):(fairI g Z).2=true∧allG g Z≤2 * uptoZ g (fairI g Z).1 Z:=by
 have h:=fair_upTo ok ha (q:=2000) (by rw [upto_all g 2000 Z (fun z hz=>by have:=ok z hz;obtain ⟨_,_,_,_,_,_,c2,c3⟩:=this;omega)];omega)
 refine ⟨h.1,?_⟩
 have h1:=h.1
 unfold fairI at h1 ⊢
 rw [if_neg (by omega)] at h1 ⊢
 rcases (fair_fold g (allG g Z) Z Z (0,false)).2.2 with e | ⟨z,_,_,q2,q3⟩
 ·unfold fairTo at h1
  rw [e] at h1;cases h1
 ·unfold fairTo
  rw [q3];exact q2
theorem sold_cons (s:Sale) (l:List Sale) (g:Int):soldOf (s::l) g=if s.gd=g∧0<s.gh then s::soldOf l g else soldOf l g:=by
 unfold soldOf
 rw [List.filter_cons]
 by_cases h:s.gd=g∧0<s.gh
 ·rw [if_pos h,if_pos (by rw [decide_eq_true h.1,decide_eq_true h.2];rfl)]
 ·rw [if_neg h]
  have:¬ (decide (s.gd=g) && decide (0<s.gh))=true:=fun hh=>h ⟨of_decide_eq_true (Bool.and_eq_true_iff.mp hh).1,of_decide_eq_true (Bool.and_eq_true_iff.mp hh).2⟩
  rw [if_neg this]
abbrev salesZ (Z:List Sold):List Sale:=Z.map Prod.fst
theorem low_high (g p:Int):∀ Z:List Sold,AllOk Z →
  uptoZ g p Z≤cheapI false p (soldOf (salesZ Z) g)∧dearI false p (soldOf (salesZ Z) g)≤allG g Z - uptoZ g p Z ∧
  cheapI true p (soldOf (salesZ Z) g)≤uptoZ g p Z∧allG g Z - uptoZ g p Z≤dearI true p (soldOf (salesZ Z) g) ∧
  weighI false (soldOf (salesZ Z) g)≤allG g Z∧allG g Z≤weighI true (soldOf (salesZ Z) g)
 | [],_=>by
  show (0:Int)≤0∧(0:Int)≤0 - 0∧(0:Int)≤0∧(0:Int) - 0≤0∧(0:Int)≤0∧(0:Int)≤0
  omega
 | z::r,h=>by
  obtain ⟨a,b,c,d,e,f⟩:=low_high g p r h.tail
  obtain ⟨g0,g1,g2,g3,c0,c1,c2,c3⟩:=h z (List.mem_cons_self ..)
  have e1:(if z.1.gd=g∧z.2.2≤p then z.2.1 else 0)=if z.1.gd=g then (if z.2.2≤p then z.2.1 else 0) else 0:=by
   by_cases h1:z.1.gd=g
   ·by_cases h3:z.2.2≤p
    ·rw [if_pos ⟨h1,h3⟩,if_pos h1,if_pos h3]
    ·rw [if_neg (fun h=>h3 h.2),if_pos h1,if_neg h3]
   ·rw [if_neg (fun h=>h1 h.1),if_neg h1]
  have eS:=sold_cons z.1 (salesZ r) g
  have eU:uptoZ g p (z::r)=(if z.1.gd=g∧z.2.2≤p then z.2.1 else 0)+uptoZ g p r:=rfl
  have eA:allG g (z::r)=(if z.1.gd=g then z.2.1 else 0)+allG g r:=rfl
  rw [eU,eA,e1,show salesZ (z::r)=z.1::salesZ r from rfl,eS]
  generalize soldOf (salesZ r) g=S at *
  by_cases h1:z.1.gd=g
  ·by_cases h2:0<z.1.gh
   ·rw [if_pos (⟨h1,h2⟩:z.1.gd=g∧0<z.1.gh),if_pos h1,if_pos h1]
    show (if z.2.2≤p then z.2.1 else 0)+uptoZ g p r≤(if z.1.cl≤p then z.1.gh else 0)+cheapI false p S∧(if z.1.cl≤p then 0 else z.1.gl)+dearI false p S≤z.2.1+allG g r - ((if z.2.2≤p then z.2.1 else 0)+uptoZ g p r)∧(if z.1.ch≤p then z.1.gl else 0)+cheapI true p S≤(if z.2.2≤p then z.2.1 else 0)+uptoZ g p r∧z.2.1+allG g r - ((if z.2.2≤p then z.2.1 else 0)+uptoZ g p r)≤(if z.1.ch≤p then 0 else z.1.gh)+dearI true p S∧z.1.gl+weighI false S≤z.2.1+allG g r∧z.2.1+allG g r≤z.1.gh+weighI true S
    by_cases q1:z.2.2≤p<;>by_cases q2:z.1.cl≤p<;>by_cases q3:z.1.ch≤p<;>simp only [q1,q2,q3,if_true,if_false]<;>omega
   ·rw [if_neg (fun h:z.1.gd=g∧0<z.1.gh=>h2 h.2),if_pos h1,if_pos h1]
    have:z.2.1=0:=by omega
    rw [this]
    split<;>omega
  ·rw [if_neg (fun h:z.1.gd=g∧0<z.1.gh=>h1 h.1),if_neg h1,if_neg h1];omega
theorem sold_mem {Z:List Sold} {g:Int} {z:Sold} (hz:z ∈ Z) (hg:z.1.gd=g) (hh:0<z.1.gh):z.1 ∈ soldOf (salesZ Z) g :=
 List.mem_filter.mpr ⟨List.mem_map.mpr ⟨z,hz,rfl⟩,by rw [decide_eq_true hg,decide_eq_true hh];rfl⟩
theorem sold_of {Z:List Sold} {g:Int} {s:Sale} (hs:s ∈ soldOf (salesZ Z) g):∃ z ∈ Z,z.1=s∧s.gd=g∧0<s.gh:=by
 obtain ⟨h1,h2⟩:=List.mem_filter.mp hs
 obtain ⟨z,hz,e⟩:=List.mem_map.mp h1
 obtain ⟨h3,h4⟩:=Bool.and_eq_true_iff.mp h2
 exact ⟨z,hz,e,of_decide_eq_true h3,of_decide_eq_true h4⟩
theorem fineZ {Z:List Sold} (ok:AllOk Z) (g:Int):Fine (soldOf (salesZ Z) g):=fun s hs=>by
 obtain ⟨z,hz,e,_,_⟩:=sold_of hs
 obtain ⟨g0,g1,g2,g3,c0,c1,c2,c3⟩:=ok z hz
 subst e
 omega
theorem fair_between {g:Int} {Z:List Sold} (ok:AllOk Z) (ha:0<allG g Z):priceI false (soldOf (salesZ Z) g)≤(fairI g Z).1∧(fairI g Z).1≤priceI true (soldOf (salesZ Z) g):=by
 have hF:=fineZ ok g
 obtain ⟨_,h2⟩:=fair_is ok ha
 obtain ⟨z,hz,z1,z2,z3⟩:=upto_some g (fairI g Z).1 Z ok (by omega)
 have zk:=ok z hz
 obtain ⟨g0,g1,g2,g3,c0,c1,c2,c3⟩:=zk
 have hm:=sold_mem hz z1 (by omega)
 constructor
 ·obtain ⟨a,b,_⟩:=low_high g (fairI g Z).1 Z ok
  exact price_upTo false _ (by omega) hm (by show z.1.cl≤_;omega)
 ·obtain ⟨s,hs,he,hp⟩:=price_is true (soldOf (salesZ Z) g) (fun h0=>by rw [h0] at hm;cases hm) (fun s hs=>by have:=hF s hs;omega)
  obtain ⟨_,_,c,d,_⟩:=low_high g (priceI true (soldOf (salesZ Z) g)) Z ok
  rw [← hp] at he
  have he:dearI true (priceI true (soldOf (salesZ Z) g)) (soldOf (salesZ Z) g)≤cheapI true (priceI true (soldOf (salesZ Z) g)) (soldOf (salesZ Z) g):=of_decide_eq_true he
  exact (fair_upTo ok ha (by omega)).2
end Go.Proofs.Ytamlnddeiokbdaa.walk
set_option maxRecDepth 10000
namespace Go.Abs
theorem nth_app:∀ {r t:List AV} {j:Nat},j<r.length→nth (r++t) j=nth r j
 | [],_,_,h=>by simp at h
 | a::r,t,0,_=>by rw [List.cons_append,nth_cons,nth_cons];rfl
 | a::r,t,j+1,h=>by
  rw [List.cons_append,nth_cons,nth_cons,if_neg (by omega),if_neg (by omega)]
  exact nth_app (by simpa using h)
theorem nth_cut {o k j:Nat} {c r:List AV} (h:cut o k c=some r) (hj:j<r.length):nth c (o+j)=nth r j:=by
 obtain ⟨a,t,z1,z2,z3⟩:=cut_some h
 rw [z1,← z2,List.append_assoc,nth_skip,nth_app hj]
end Go.Abs
namespace Go.Proofs.Ytamlnddeiokbdaa.walk
open Go.Abs Go.Proofs.Ytamlnddeiokbdaa.code
def truthRows (Z:List Sold):List (List AV):=Z.map fun z=>[.int .i64 z.2.1,.int .i64 z.2.2]
theorem truthRows_len (Z:List Sold):(truthRows Z).length=Z.length:=List.length_map ..
theorem sold_read {h:Heap} {n:Nat} {Z:List Sold} {v vt:AV} (RS:RowsAt h n 6 ((salesZ Z).map Sale.cells) v) (RT:RowsAt h n 2 (truthRows Z) vt) {i:Nat} (hi:i<Z.length) :
  ∃ x0 o0 cs sz y0 p0 ct st,(∀ s,ixsA 6 s v (.int .i64 (i:Int))=.val (.ptr x0 o0) s)∧h.get x0=some (.cells cs sz)∧nth cs o0=.int .i64 Z[i].1.st∧nth cs (o0+1)=.int .i64 Z[i].1.gd ∧
   (∀ s,ixsA 2 s vt (.int .i64 (i:Int))=.val (.ptr y0 p0) s)∧h.get y0=some (.cells ct st)∧nth ct p0=.int .i64 Z[i].2.1∧nth ct (p0+1)=.int .i64 Z[i].2.2:=by
 obtain ⟨x0,o0,cs,sz,r1,r2,r3,r4⟩:=RS.at_ i (by simpa using hi)
 obtain ⟨y0,p0,ct,st,t1,t2,t3,t4⟩:=RT.at_ i (by rw [truthRows_len];exact hi)
 have e1:((salesZ Z).map Sale.cells)[i]'(by simpa using hi)=Z[i].1.cells:=by simp [salesZ]
 have e2:(truthRows Z)[i]'(by rw [truthRows_len];exact hi)=[.int .i64 Z[i].2.1,.int .i64 Z[i].2.2]:=by simp [truthRows]
 rw [e1] at r4
 rw [e2] at t4
 exact ⟨x0,o0,cs,sz,y0,p0,ct,st,r2,r3,nth_cut r4 (j:=0) (by simp [Sale.cells]),nth_cut r4 (j:=1) (by simp [Sale.cells]),t2,t3,nth_cut t4 (j:=0) (by simp),nth_cut t4 (j:=1) (by simp)⟩
end Go.Proofs.Ytamlnddeiokbdaa.walk
