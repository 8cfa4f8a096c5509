/- Built values, slices, maps and the built-in functions. -/
import Derived.Test.YtoklbkgcclkejaaAbsSound2
noncomputable section
namespace Go.Abs
variable {P:Program}
theorem YCA (off:Nat):∀ (vs:List Value) (k:Nat) (C:Array Value),off+k+vs.length≤C.size →
  ((vs.zipIdx k).foldl (fun cs x=>cs.setIfInBounds (off+x.2) x.1) C).toList=C.toList.take (off+k)++vs++C.toList.drop (off+k+vs.length)
 | [],k,C,_=>by simp
 | v::vs,k,C,h=>by
  simp only [List.zipIdx_cons,List.foldl_cons]
  rw [YCA off vs (k+1) (C.setIfInBounds (off+k) v) (by simp at h ⊢;omega)]
  have:=list_seg_step C.toList (off+k) v vs (by simp at h ⊢;omega)
  simpa [Array.toList_setIfInBounds,Nat.add_assoc] using this
theorem jRA {ρ:Rho} {L:Env} {T:Array Value} (hL:EnvRel ρ L T) {pl:Nat→Option (Nat × Nat)} {pl':Nat→Option (Nat × Nat)} (hpl:∀ i x,pl i=some x→pl' i=some x) :
  ∀ (parts:List (Nat × Operand)) (l:List (Nat × Nat × Arg)),VG pl parts=some l→∀ {c c':List AV} {C:Array Value},VRels ρ c C.toList→ga l L c=some c' →
   ∃ C',Instr.fill pl' C (parts.map fun x=>(x.1,evT T x.2))=some C'∧VRels ρ c' C'.toList∧C'.size=C.size
 | [],l,h,c,c',C,hc,hf=>by
  cases h;cases hf
  exact ⟨C,rfl,hc,rfl⟩
 | (i,x)::parts,l,h,c,c',C,hc,hf=>by
  unfold VG at h
  split at h
  ·rename_i o k a m h1 h2 h3
   cases h
   unfold ga at hf
   split at hf
   ·cases hf
   ·rename_i vs hvs
    split at hf
    ·rename_i c1 hov
     obtain ⟨hrel,hk⟩:=vPA hvs (zX hL h2)
     obtain ⟨rfl,hlen⟩:=jtA hov
     have hcl:=hc.length
     have hvl:=hrel.length
     have hvl':vs.length=(evT T x).cells.size:=by simpa using hvl
     have hcl':c.length=C.size:=by simpa using hcl
     have hfold:=YCA o (evT T x).cells.toList 0 C (by simp;omega)
     have hrel2:VRels ρ (c.take o++vs++c.drop (o+vs.length)) (((evT T x).cells.zipIdx.foldl (fun cs x=>cs.setIfInBounds (o+x.2) x.1) C).toList):=by
      rw [← Array.foldl_toList,Array.toList_zipIdx,hfold]
      have:=((hc.take o).append hrel).append (hc.drop (o+vs.length))
      simpa [hvl'] using this
     obtain ⟨C',e1,e2,e3⟩:=jRA hL hpl parts m h3 hrel2 hf
     have hsz:((evT T x).cells.zipIdx.foldl (fun cs x=>cs.setIfInBounds (o+x.2) x.1) C).size=C.size:=by
      have:=hrel2.length
      have h5:(c.take o++vs++c.drop (o+vs.length)).length=c.length:=by simp;omega
      rw [h5] at this
      simpa [hcl'] using this.symm
     refine ⟨C',?_,e2,by rw [e3,hsz]⟩
     simp only [List.map_cons,Instr.fill,hpl _ _ h1]
     rw [if_neg (by simp [hk];omega)]
     exact e1
    ·cases hf
  ·cases h
theorem JcJ {α β:Type} {W:World} {f:α→Sem β} {g:α→β} (l:Array α) (h:∀ x ∈ l,(f x).run P W=.ok (g x) W):(l.mapM f).run P W=.ok (l.map g) W:=by
 have key:∀ (l:List α),(∀ x ∈ l,(f x).run P W=.ok (g x) W)→(l.mapM f).run P W=.ok (l.map g) W:=by
  intro l
  induction l with
  | nil=>intro _;simp
  | cons a l ih =>
   intro h
   simp [h a (by simp),ih (fun x hx=>h x (by simp [hx]))]
 have e:l.mapM f=Functor.map List.toArray (l.toList.mapM f):=by
  conv=>lhs;rw [← Array.toArray_toList (xs:=l)]
  exact List.mapM_toArray
 rw [e,Sem.run_map,key l.toList (by simpa using h)]
 have e2:(List.map g l.toList).toArray=Array.map g l:=by apply Array.ext';simp
 simp [e2]
theorem WgA {t:TypeId} {parts:Array (Nat × Operand)} {f:OpF} (hf:gfA P t parts.toList=some f):Sound P (.build t parts) f:=by
 intro o ho ρ L T s W v s' hL hs h
 unfold gfA at hf
 split at hf
 ·rename_i z fields hz hu
  split at hf
  ·rename_i hall
   split at hf
   ·rename_i l hl
    cases hf
    unfold yd at h
    split at h
    ·rename_i c hc
     cases h
     obtain ⟨Z,h1,h2⟩:=Jq W ρ hz
     have hsizes:∀ f ∈ fields,((fun f:Field=>do pure (f.offset,← sizeOf f.type):Field→Sem (Nat × Nat)) f).run P W=.ok ((fun f:Field=>(f.offset,(jv P f.type).getD 0)) f) W:=by
      intro f hfm
      have:=(List.all_eq_true.1 hall) f (by simpa using hfm)
      obtain ⟨n,hn⟩:=Option.isSome_iff_exists.1 this
      simp [jR W hn,hn]
     have hm:=JcJ (P:=P) fields hsizes
     have hpl:∀ i x,fieldPlace P fields i=some x→(fun x=>Option.map (fun f:Field=>(f.offset,(jv P f.type).getD 0)) fields[x]?) i=some x:=by
      intro i x hx
      unfold fieldPlace at hx
      split at hx
      ·rename_i f hf
       split at hx
       ·rename_i n hn;cases hx;simp [hf,hn]
       ·cases hx
      ·cases hx
     obtain ⟨C',e1,e2,_⟩:=jRA hL hpl parts.toList l hl h2 hc
     refine Res.same hs (V:=.agg C') ?_ (.agg e2)
     simp only [execOp,ho,Instr.build,Sem.run_bind,h1,Result.andThen_ok,zY W hu]
     rw [hm]
     simp [e1]
    ·cases h
   ·cases hf
  ·cases hf
 ·rename_i z n elem hz hu
  split at hf
  ·rename_i size hk
   split at hf
   ·rename_i l hl
    cases hf
    unfold yd at h
    split at h
    ·rename_i c hc
     cases h
     obtain ⟨Z,h1,h2⟩:=Jq W ρ hz
     obtain ⟨C',e1,e2,_⟩:=jRA hL (pl':=fun i=>some (i * size,size)) (fun i x hx=>hx) parts.toList l hl h2 hc
     exact Res.same hs (V:=.agg C') (by simp [execOp,ho,Instr.build,h1,zY W hu,jR W hk,e1]) (.agg e2)
    ·cases h
   ·cases hf
  ·cases hf
 ·cases hf
theorem jaA {ρ:Rho} {z:List AV} {Z:Array Value} (h:VRels ρ z Z.toList):∀ (n:Nat),VRels ρ (vV z n) ((Array.range (n * Z.size)).map (fun i=>Z[i % Z.size]!)).toList:=by
 intro n
 have hz:=h.length
 have hz':z.length=Z.size:=by simpa using hz
 refine VRels.of_get ?_ ?_
 ·have:∀ n,(vV z n).length=n * z.length:=by
   intro n;induction n with
   | zero=>simp [vV]
   | succ n ih=>simp [vV,ih,Nat.succ_mul];omega
  rw [this,hz'];simp
 ·have key:∀ (n i:Nat) (a:AV),(vV z n)[i]? = some a→z[i % z.length]? = some a∧0<z.length:=by
   intro n
   induction n with
   | zero=>intro i a ha;simp [vV] at ha
   | succ n ih =>
    intro i a ha
    simp only [vV] at ha
    by_cases hi:i<z.length
    ·rw [List.getElem?_append_left hi] at ha
     exact ⟨by rw [Nat.mod_eq_of_lt hi];exact ha,by omega⟩
    ·rw [List.getElem?_append_right (by omega)] at ha
     obtain ⟨h1,h2⟩:=ih _ _ ha
     exact ⟨by rw [← Nat.mod_eq_sub_mod (by omega)] at h1;exact h1,h2⟩
  intro i a v ha hv
  obtain ⟨h1,h2⟩:=key n i a ha
  obtain ⟨w,hw,hr⟩:=h.get _ _ h1
  have hlt:i % Z.size<Z.size:=Nat.mod_lt _ (by omega)
  have hv':Z[i % Z.size]! = v:=by
   simp only [Array.toList_map,List.getElem?_map] at hv
   cases hri:(Array.range (n * Z.size)).toList[i]? with
   | none=>rw [hri] at hv;cases hv
   | some j =>
    have hj:j=i:=by
     have h3:(List.range (n * Z.size))[i]? = some j:=by simpa using hri
     obtain ⟨hlt',h4⟩:=List.getElem?_eq_some_iff.1 h3
     simpa using h4.symm
    subst hj
    rw [hri] at hv
    simpa using hv
  rw [hz'] at hw
  have:Z[i % Z.size]? = some w:=by simpa using hw
  rw [getElem!_def,this] at hv'
  subst hv'
  exact hr
end Go.Abs
end
