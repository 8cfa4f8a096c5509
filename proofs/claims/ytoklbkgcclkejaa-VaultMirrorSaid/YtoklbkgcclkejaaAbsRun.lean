/- Calls and the operations of a region in the order of the text. -/
import Derived.Test.YtoklbkgcclkejaaAbsStep
import Derived.Test.YtoklbkgcclkejaaAbsFr
noncomputable section
namespace Go.Abs
variable {P:Program}
theorem gi (a:Act):a.eval=evT a.tmps:=by funext x;cases x<;>rfl
inductive DRel (ρ:Rho):List Nat→List Deferred→Prop
 | nil:DRel ρ [] []
 | cons {b c:Nat} {e:Ext} {d:List Nat} {D:List Deferred}:ρ b=some (c,e)→DRel ρ d D→DRel ρ (b::d) ({ target:=.collected c,args:=#[] }::D)
theorem DRel.mono {ρ ρ':Rho} (h:ρ.le ρ'):∀ {d D},DRel ρ d D→DRel ρ' d D
 | _,_,.nil=>.nil
 | _,_,.cons e r=>.cons (h _ _ e) (r.mono h)
structure ActRel (ρ:Rho) (nt:Nat) (L:Env) (d:List Nat) (a:Act):Prop where
 env:EnvRel ρ L a.tmps
 size:a.tmps.size=nt
 defers:DRel ρ d a.defers
theorem ActRel.mono {ρ ρ':Rho} (h:ρ.le ρ') {nt L d a} (r:ActRel ρ nt L d a):ActRel ρ' nt L d a:=⟨r.env.mono h,r.size,r.defers.mono h⟩
theorem yM (t:Nat) (v:AV) (L:Env):(Env.cons t v L).find t=v:=by
 show Bool.rec (motive:=fun _=>AV) _ v (Nat.beq t t)=v
 rw [Nat.beq_refl]
theorem yN {t u:Nat} (v:AV) (L:Env) (h:u≠t):(Env.cons u v L).find t=L.find t:=by
 show Bool.rec (motive:=fun _=>AV) (L.find t) v (Nat.beq u t)=_
 rw [vf h]
theorem EnvRel.put {ρ:Rho} {L:Env} {T:Array Value} {t:Nat} {v:AV} {V:Value} (h:EnvRel ρ L T) (ht:t<T.size) (hv:VRel ρ v V) :
  EnvRel ρ (.cons t v L) (T.setIfInBounds t V):=by
 intro u
 by_cases e:t=u
 ·subst e
  rw [yM,Array.getD_eq_getD_getElem?,Array.getElem?_setIfInBounds_self_of_lt ht]
  exact hv
 ·rw [yN v L e,Array.getD_eq_getD_getElem?,Array.getElem?_setIfInBounds_ne e,← Array.getD_eq_getD_getElem?]
  exact h u
theorem vdA {ρ:Rho} {nt:Nat} {L:Env} {ds:List Nat} {a:Act} {dst:Option Tmp} {d:Dst} {v:AV} {V:Value} (hd:vWA nt dst=some d)
  (h:ActRel ρ nt L ds a) (hv:VRel ρ v V):ActRel ρ nt (d.put v L) ds (a.put dst V):=by
 unfold vWA at hd
 split at hd
 ·cases hd;exact h
 ·split at hd
  ·cases hd
   rename_i t ht
   exact ⟨h.env.put (by rw [h.size];exact ht) hv,by show (a.tmps.setIfInBounds t V).size=nt;rw [Array.size_setIfInBounds];exact h.size,h.defers⟩
  ·cases hd
structure CallSound (P:Program) (cl:zR):Prop where
 fr:FrCall cl
 fn:∀ (f:FuncId) (l:List AV) (s:St) (v:AV) (s':St) (ρ:Rho) (W:World) (A:Array Value),cl (.fn f) l s=.val v s'→SRel ρ s W→VRels ρ l A.toList →
  (callFunc f A).run P W=.ok (.enter f A) W∧∃ ρ' V W',After ρ s W ρ' s' W'∧VRel ρ' v V ∧
   ∀ fr cs,Steps P (lone (Frame.enter P f A .normal) (fr::cs) W) (lone (fr.finish V) cs W')
 yield:∀ (b c:Nat) (e:Ext) (l:List AV) (s:St) (v:AV) (s':St) (ρ:Rho) (W:World) (A:Array Value),cl (.yield b) l s=.val v s'→ρ b=some (c,e)→SRel ρ s W →
  VRels ρ l A.toList→∃ g T x y,(Instr.yield c A).run P W=.ok (.round c g T x y) W∧∃ ρ' V W',After ρ s W ρ' s' W'∧VRel ρ' v V ∧
   ∀ fr cs,Steps P (lone (Frame.round c g T x y .normal) (fr::cs) W) (lone (fr.finish V) cs W')
theorem Vf {cl:zR} (hc:CallSound P cl) {l:List AV} {s s':St} {f v:AV} {ρ:Rho} {W:World} {F:Value} {A:Array Value}
  (h:wh cl l s f=.val v s') (hs:SRel ρ s W) (hf:VRel ρ f F) (hl:VRels ρ l A.toList) :
  ∃ ρ' V W',After ρ s W ρ' s' W'∧VRel ρ' v V ∧
   ((∃ g B,(do let d ← Deferred.ofValue F A;invoke d.target d.args:Sem Next).run P W=.ok (.enter g B) W ∧
     ∀ fr cs,Steps P (lone (Frame.enter P g B .normal) (fr::cs) W) (lone (fr.finish V) cs W')) ∨
   (∃ c g T x y,(do let d ← Deferred.ofValue F A;invoke d.target d.args:Sem Next).run P W=.ok (.round c g T x y) W ∧
     ∀ fr cs,Steps P (lone (Frame.round c g T x y .normal) (fr::cs) W) (lone (fr.finish V) cs W'))):=by
 unfold wh at h
 split at h
 ·cases hf with
  | func h1 h2 =>
   rename_i F1 C1
   obtain ⟨hr,ρ',V,W',a,hv,st⟩:=hc.fn _ _ _ _ _ ρ W ((F1++A)++C1) h hs (by
    rw [Array.toList_append,Array.toList_append];exact (h1.append hl).append h2)
   refine ⟨ρ',V,W',a,hv,.inl ⟨_,_,?_,st⟩⟩
   simp only [Deferred.ofValue,pure_bind,invoke]
   exact hr
 ·cases hf with
  | yield e =>
   obtain ⟨g,T,x,y,hr,ρ',V,W',a,hv,st⟩:=hc.yield _ _ _ _ _ _ _ ρ W A h e hs hl
   refine ⟨ρ',V,W',a,hv,.inr ⟨_,g,T,x,y,?_,st⟩⟩
   simp only [Deferred.ofValue,pure_bind,invoke,Array.empty_append]
   exact hr
 ·cases h
end Go.Abs
end
