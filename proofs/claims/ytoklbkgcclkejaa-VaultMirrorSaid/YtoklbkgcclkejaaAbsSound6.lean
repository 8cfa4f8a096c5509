/- append and copy. -/
import Derived.Test.YtoklbkgcclkejaaAbsSound5
set_option linter.unusedVariables false
noncomputable section
namespace Go.Abs
variable {P:Program}
theorem zZJ {y:AV} {n:Nat} (h:YPJ y=some n) {ρ:Rho} {Y:Value} (hy:VRel ρ y Y) (W:World):(Builtin.lenOf Y).run P W=.ok n W:=by
 unfold YPJ at h
 split at h
 ·cases h;obtain ⟨_,_,_,rfl⟩:=hy.slice_inv;simp [Builtin.lenOf]
 ·cases h;rw [hy.nilslice_inv];simp [Builtin.lenOf]
 ·cases h;obtain ⟨_,_,_,_,_,rfl⟩:=hy.tail_inv;simp [Builtin.lenOf]
 ·cases h;rw [hy.str_inv];simp [Builtin.lenOf]
 ·cases h;obtain ⟨_,_,_,_,_,rfl⟩:=hy.vs_inv;simp [Builtin.lenOf]
 ·cases h
theorem YVA (ρ:Rho):∀ (l:List UInt8),VRels ρ (l.map fun x=>.int .u8 x.toNat) (l.map fun x=>.int .u8 x.toNat)
 | []=>.nil
 | _::l=>.cons (.int _ _) (YVA ρ l)
theorem yDA {ρ:Rho} {W:World} {d:Nat} {e:Ext} {C:Array Value} {el:TypeId} {c:List AV} {size n o len cap:Nat} (hW:W.heap[d]? = some (.cells C el (0,0)))
  (hrel:VRels ρ c ((C.toList.drop e.2).take c.length)) (hlen:o+n * size≤c.length) :
  ∃ N:Array Value,VRels ρ ((c.drop o).take (n * size)) N.toList∧∀ W':World,W'.heap=W.heap→(Builtin.firstCells size n (.slice (some ⟨d,e.2+o,none⟩) len cap)).run P W'=.ok N W':=by
 obtain ⟨e,z⟩:=e
 have hr:VRels ρ ((c.drop o).take (n * size)) ((((C.toList.drop z).take c.length).drop o).take (n * size)):=(hrel.drop o).take (n * size)
 have hl:((((C.toList.drop z).take c.length).drop o).take (n * size)).length=n * size:=by rw [← hr.length];simp;omega
 refine ⟨((((C.toList.drop z).take c.length).drop o).take (n * size)).toArray,by simpa using hr,fun W' hW'=>?_⟩
 have hload:=run_loadCells_list (P:=P) W' ⟨d,z+o,none⟩ ((((C.toList.drop z).take c.length).drop o).take (n * size)) (fun j v hj=>by
  have h2:=wZ (wL (wZ (wL hj)))
  rw [yO,WM (by rw [hW'];exact hW),Nat.add_assoc]
  simpa using h2)
 rw [hl] at hload
 exact hload
theorem vMJ {size n:Nat} {s:St} {y:AV} {new:List AV} (h:JC size n s y=some new) {ρ:Rho} {Y:Value} (hy:VRel ρ y Y) {W:World} (hs:SRel ρ s W) :
  ∃ N,VRels ρ new N.toList∧∀ W':World,W'.heap=W.heap→(Builtin.firstCells size n Y).run P W'=.ok N W':=by
 unfold JC at h
 split at h
 ·rename_i b o len cap ext
  split at h
  ·rename_i c sz hg
   obtain ⟨d,e,C,el,hρ,hW,hsz,hrel,_⟩:=gj hs hg
   obtain ⟨d',e',hρ',rfl⟩:=hy.slice_inv
   rw [hρ] at hρ';cases hρ'
   obtain ⟨rfl,hlen⟩:=JD h
   exact yDA hW hrel hlen
  ·rename_i c sz k vs hg
   obtain ⟨d,e,C,el,hρ,hW,hsz,hrel,_⟩:=ZK hs (Has.base hg)
   obtain ⟨d',e',hρ',rfl⟩:=hy.slice_inv
   rw [hρ] at hρ';cases hρ'
   obtain ⟨rfl,hlen⟩:=JD h
   exact yDA hW hrel hlen
  ·cases h
 ·rename_i b w len
  split at h
  ·rename_i c hg
   obtain ⟨sz,hg⟩:=ZI hg
   obtain ⟨d,e,C,el,hρ,hW,hsz,hrel,_⟩:=ZK hs hg
   obtain ⟨_,d',e',_,hρ',rfl⟩:=hy.vs_inv
   rw [hρ] at hρ';cases hρ'
   obtain ⟨rfl,hlen⟩:=JD h
   exact yDA (o:=0) hW hrel hlen
  ·cases h
 ·split at h
  ·cases h
   rw [hy.nilslice_inv]
   exact ⟨#[],.nil,fun W' _=>by simp [Builtin.firstCells]⟩
  ·cases h
 ·split at h
  ·rename_i h0
   cases h
   have h0:=Nat.eq_of_beq_eq_true h0
   subst h0
   obtain ⟨d,e,q,_,_,rfl⟩:=hy.tail_inv
   exact ⟨#[],.nil,fun W' _=>by simp [Builtin.firstCells,loadCells,loadCellsFrom]⟩
  ·cases h
 ·rename_i b
  cases h
  rw [hy.str_inv]
  refine ⟨(b.extract 0 n).data.map fun x=>.int .u8 x.toNat,?_,fun W' _=>by simp [Builtin.firstCells]⟩
  have:=(YVA ρ b.data.toList).take n
  simpa using this
 ·cases h
theorem YN {t:Option TypeId} (h:ZJ P t=some false):t=none∨(∃ x e,t=some x∧P.underlying x=some (.slice e))∨∃ x,t=some x∧P.underlying x=some .string:=by
 cases t with
 | none=>exact .inl rfl
 | some x =>
  unfold ZJ at h
  simp only at h
  split at h
  ·cases h
  ·rename_i hu;exact .inr (.inl ⟨x,_,rfl,hu⟩)
  ·rename_i hu;exact .inr (.inr ⟨x,rfl,hu⟩)
  ·cases h
theorem Yz {t:Option TypeId} (h:ZJ P t=some true):∃ x k,t=some x∧P.underlying x=some (.int k):=by
 cases t with
 | none=>cases h
 | some x =>
  unfold ZJ at h
  simp only at h
  split at h
  ·rename_i hu;exact ⟨x,_,rfl,hu⟩
  ·cases h
  ·cases h
  ·cases h
theorem jzJ {t elem:TypeId} (hu:P.underlying t=some (.slice elem)) {size:Nat} (hk:jv P elem=some size) {args:Array Operand} {ts:Array TypeId} (ht:ts[0]? = some t) {a b:Arg} (ha:jz args.toList=some [a,b]) :
  Sound P (JF .copy args ts) (jJ (wdJ size) a b):=by
 intro o ho ρ L T s W v s' hL hs h
 have h:ARes.fail=.val v s':=h
 cases h
end Go.Abs
end
