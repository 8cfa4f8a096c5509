/- append and copy. -/
import Derived.Test.YtoklbkgcclkejaaAbsSound5
noncomputable section
namespace Go.Abs
variable {P:Program}
theorem lenA_run {y:AV} {n:Nat} (h:lenA y=some n) {ρ:Rho} {Y:Value} (hy:VRel ρ y Y) (W:World):(Builtin.lenOf Y).run P W=.ok n W:=by
 unfold lenA at h
 split at h
 ·cases h;obtain ⟨_,_,_,rfl⟩:=hy.slice_inv;simp [Builtin.lenOf]
 ·cases h;rw [hy.nilslice_inv];simp [Builtin.lenOf]
 ·cases h;obtain ⟨_,_,_,_,_,rfl⟩:=hy.tail_inv;simp [Builtin.lenOf]
 ·cases h;rw [hy.str_inv];simp [Builtin.lenOf]
 ·cases h;obtain ⟨_,_,_,_,_,rfl⟩:=hy.vs_inv;simp [Builtin.lenOf]
 ·cases h
theorem bytes_rel (ρ:Rho):∀ (l:List UInt8),VRels ρ (l.map fun x=>.int .u8 x.toNat) (l.map fun x=>.int .u8 x.toNat)
 | []=>.nil
 | _::l=>.cons (.int _ _) (bytes_rel ρ l)
theorem first_row {ρ:Rho} {W:World} {d:Nat} {e:Ext} {C:Array Value} {el:TypeId} {c:List AV} {size n o len cap:Nat} (hW:W.heap[d]? = some (.cells C el (0,0)))
  (hrel:VRels ρ c ((C.toList.drop e.2).take c.length)) (hlen:o+n * size≤c.length) :
  ∃ N:Array Value,VRels ρ ((c.drop o).take (n * size)) N.toList∧∀ W':World,W'.heap=W.heap→(Builtin.firstCells size n (.slice (some ⟨d,e.2+o,none⟩) len cap)).run P W'=.ok N W':=by
 obtain ⟨e,z⟩:=e
 have hr:VRels ρ ((c.drop o).take (n * size)) ((((C.toList.drop z).take c.length).drop o).take (n * size)):=(hrel.drop o).take (n * size)
 have hl:((((C.toList.drop z).take c.length).drop o).take (n * size)).length=n * size:=by rw [← hr.length];simp;omega
 refine ⟨((((C.toList.drop z).take c.length).drop o).take (n * size)).toArray,by simpa using hr,fun W' hW'=>?_⟩
 have hload:=run_loadCells_list (P:=P) W' ⟨d,z+o,none⟩ ((((C.toList.drop z).take c.length).drop o).take (n * size)) (fun j v hj=>by
  have h2:=wc (wM (wc (wM hj)))
  rw [yP,cell_at (by rw [hW'];exact hW),Nat.add_assoc]
  simpa using h2)
 rw [hl] at hload
 exact hload
theorem firstA_run {size n:Nat} {s:St} {y:AV} {new:List AV} (h:ZC size n s y=some new) {ρ:Rho} {Y:Value} (hy:VRel ρ y Y) {W:World} (hs:SRel ρ s W) :
  ∃ N,VRels ρ new N.toList∧∀ W':World,W'.heap=W.heap→(Builtin.firstCells size n Y).run P W'=.ok N W':=by
 unfold ZC at h
 split at h
 ·rename_i b o len cap ext
  split at h
  ·rename_i c sz hg
   obtain ⟨d,e,C,el,hρ,hW,hsz,hrel,_⟩:=vw hs hg
   obtain ⟨d',e',hρ',rfl⟩:=hy.slice_inv
   rw [hρ] at hρ';cases hρ'
   obtain ⟨rfl,hlen⟩:=JA h
   exact first_row hW hrel hlen
  ·rename_i c sz k vs hg
   obtain ⟨d,e,C,el,hρ,hW,hsz,hrel,_⟩:=ZH hs (Has.base hg)
   obtain ⟨d',e',hρ',rfl⟩:=hy.slice_inv
   rw [hρ] at hρ';cases hρ'
   obtain ⟨rfl,hlen⟩:=JA h
   exact first_row hW hrel hlen
  ·cases h
 ·rename_i b w len
  split at h
  ·rename_i c hg
   obtain ⟨sz,hg⟩:=ZF hg
   obtain ⟨d,e,C,el,hρ,hW,hsz,hrel,_⟩:=ZH hs hg
   obtain ⟨_,d',e',_,hρ',rfl⟩:=hy.vs_inv
   rw [hρ] at hρ';cases hρ'
   obtain ⟨rfl,hlen⟩:=JA h
   exact first_row (o:=0) hW hrel hlen
  ·cases h
 ·split at h
  ·cases h
   rw [hy.nilslice_inv]
   exact ⟨#[],.nil,fun W' _=>by simp [Builtin.firstCells]⟩
  ·cases h
 ·split at h
  ·rename_i h0
   cases h
   have h0:=Nat.eq_of_beq_eq_true h0
   subst h0
   obtain ⟨d,e,q,_,_,rfl⟩:=hy.tail_inv
   exact ⟨#[],.nil,fun W' _=>by simp [Builtin.firstCells,loadCells,loadCellsFrom]⟩
  ·cases h
 ·rename_i b
  cases h
  rw [hy.str_inv]
  refine ⟨(b.extract 0 n).data.map fun x=>.int .u8 x.toNat,?_,fun W' _=>by simp [Builtin.firstCells]⟩
  have:=(bytes_rel ρ b.data.toList).take n
  simpa using this
 ·cases h
theorem YL {t:Option TypeId} (h:ZG P t=some false):t=none∨(∃ x e,t=some x∧P.underlying x=some (.slice e))∨∃ x,t=some x∧P.underlying x=some .string:=by
 cases t with
 | none=>exact .inl rfl
 | some x =>
  unfold ZG at h
  simp only at h
  split at h
  ·cases h
  ·rename_i hu;exact .inr (.inl ⟨x,_,rfl,hu⟩)
  ·rename_i hu;exact .inr (.inr ⟨x,rfl,hu⟩)
  ·cases h
theorem second_true {t:Option TypeId} (h:ZG P t=some true):∃ x k,t=some x∧P.underlying x=some (.int k):=by
 cases t with
 | none=>cases h
 | some x =>
  unfold ZG at h
  simp only at h
  split at h
  ·rename_i hu;exact ⟨x,_,rfl,hu⟩
  ·cases h
  ·cases h
  ·cases h
theorem sound_copy {t elem:TypeId} (hu:P.underlying t=some (.slice elem)) {size:Nat} (hk:jv P elem=some size) {args:Array Operand} {ts:Array TypeId} (ht:ts[0]? = some t) {a b:Arg} (ha:jz args.toList=some [a,b]) :
  Sound P (JD .copy args ts) (jJ (copyA size) a b):=by
 intro o ho ρ L T s W v s' hL hs hf
 obtain ⟨x,y,hl,ha,hb⟩:=argsA_two ha
 obtain ⟨cs,hrun⟩:=yO (P:=P) ho T W
 have hx:=zX hL ha
 have hy:=zX hL hb
 have h':copyA size s (a.ev L) (b.ev L)=.val v s':=hf
 generalize a.ev L=av at hx h'
 generalize b.ev L=bv at hy h'
 unfold copyA at h'
 split at h'
 ·rename_i dl sl h1 h2
  split at h'
  ·cases h'
  ·rename_i new hnew
   obtain ⟨N,hN,hrunN⟩:=firstA_run (P:=P) hnew hy hs
   have hlen:=lenA_run (P:=P) h2 hy W
   split at h'
   ·cases h'
   ·rename_i hsc
    split at h'
    ·cases h'
     have hx:=hx.nilslice_inv
     have hd:dl=0:=by simpa [lenA] using h1.symm
     subst hd
     have h0:=hrunN W rfl
     refine Res.same hs (V:=goInt (Nat.min sl 0:Nat)) ?_ (.int _ _)
     rw [hrun,args2 hl]
     simp at h0
     simp [builtin,Builtin.copy_,ht,zY W hu,hx,hlen,jK W hk,h0]
    ·rename_i bl p n1 cap ext
     split at h'
     ·rename_i c sz hg
      split at h'
      ·rename_i c' hov
       cases h'
       obtain ⟨d,e,hρ,hx⟩:=hx.slice_inv
       have hd:n1=dl:=by simpa [lenA] using h1
       subst hd
       obtain ⟨W',hst,haf⟩:=JI (P:=P) hs hg hρ hN hsc hov
       refine ⟨ρ,W',goInt (Nat.min sl n1:Nat),.inl ?_,haf,.int _ _⟩
       rw [hrun,args2 hl]
       have h0:=hrunN W rfl
       simp [builtin,Builtin.copy_,ht,zY W hu,hx,hlen,jK W hk,h0,hst]
      ·cases h'
     ·cases h'
    ·cases h'
 ·cases h'
end Go.Abs
end
