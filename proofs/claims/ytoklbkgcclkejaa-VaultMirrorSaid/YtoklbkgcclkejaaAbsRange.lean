/- Ranges over functions. -/
import Derived.Test.YtoklbkgcclkejaaAbsLoop
noncomputable section
namespace Go.Abs
variable {P:Program} {xs:List Nat} {nt:Nat}
theorem yxJ {L L':Env} {d d':List Nat} {s s':St} {j:Option Code} {e:Ex} (h:JuA L d s j=.done e L' d' s') :
  L'=L∧d'=d∧s'=s∧j=YZ e:=by
 unfold JuA at h
 split at h<;>first | (cases h;exact ⟨rfl,rfl,rfl,rfl⟩) | (cases h)
theorem VbJ {b:Frame} {a:Act} {k:List Item} {cs:List Frame} {W:World} (e:Ex) :
  Arr P (lone (b.atR a (((YZ e).map Item.code).toList++k)) cs W) b k cs e a W:=by
 cases e with
 | norm=>exact .refl _ _
 | exit id=>exact ⟨k,rfl,.refl _ _⟩
 | ret=>exact ⟨k,.refl _ _⟩
theorem vUJ {f:Operand} {fa:Arg} {ps:Array Tmp} {x y:Code} (hf:jL f=some fa) (hps:∀ t ∈ ps.toList,t<nt∧xs.contains t=true):jt P xs nt (.rangeFunc f ps x y) (wx fa ps.toList x y):=by
 intro cl hc c ρ L d s a W b e L' d' s' hn hx hb ha hL hs h
 subst hn
 subst hx
 unfold wx at h
 split at h
 ·cases h
 rename_i d₁ s₁ hent
 obtain ⟨l,m,ρ₁,W₁,hrun,af₁,hl,hd,hdd⟩:=ZvA (P:=P) hb ha hL hs hps hent
 split at h
 ·cases h
 rename_i v s₂ hcall
 obtain ⟨ρ₂,V,W₂,af₂,_,hcase⟩:=Vf (A:=#[.func (.yield l) #[] #[]]) hc hcall af₁.rel (zX (ha.env.mono af₁.le) hf) (.cons (.yield hl) .nil)
 split at h
 case h_2=>cases h
 rename_i r hr
 split at h
 ·cases h
 rename_i hst
 obtain ⟨rfl,rfl,rfl,hj⟩:=yxJ h
 have hl₂:=af₂.le _ _ hl
 obtain ⟨W₃,hend,af₃⟩:=zzJ (P:=P) af₂.rel hr hl₂ (fun z=>hst z)
 have hle:=Rho.le_trans af₁.le (Rho.le_trans af₂.le af₃.le)
 refine ⟨ρ₂,vb a m,W₃,af₁.trans (af₂.trans af₃),⟨(ha.env.mono hle),ha.size,(hd.mono af₂.le).mono af₃.le⟩,hL,hdd,fun k cs=>?_⟩
 have hy:∀ l,Vv a.eval f l=(do let d ← Deferred.ofValue (evT a.tmps f) #[.func (.yield l) #[] #[]];invoke d.target d.args:Sem Next):=by
  intro l;rw [gi];simp [Vv,resolve,evT]
 have tail:Steps P (lone ((b.atR (vb a m) (.inRangeFunc l::k)).finish V) cs W₂) (lone (b.atR (vb a m) (((YZ e).map Item.code).toList++k)) cs W₃):=by
  rw [VXA,← hj]
  exact .one (wAA hend)
 refine .of ?_ (VbJ e)
 rcases hcase with ⟨g,B,hr',st⟩ | ⟨l',g,T,x',y',hr',st⟩
 ·exact .head (zYA hrun (by rw [hy];exact hr')) ((st _ _).trans tail)
 ·exact .head (zXA hrun (by rw [hy];exact hr')) ((st _ _).trans tail)
end Go.Abs
end
