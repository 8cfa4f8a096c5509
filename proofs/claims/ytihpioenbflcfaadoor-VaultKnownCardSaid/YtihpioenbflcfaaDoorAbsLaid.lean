/- What a row's listed package variables give the interpreter: their cells. -/
import Derived.Test.YtihpioenbflcfaaDoorAbsPiece
import Derived.OpenShut
import Derived.ChangeArms
noncomputable section
namespace Go.Abs
open Go.ChangeShapes
variable {P : Program} {H : Type} {enc : TypeId × Value → H} {W : World}

theorem glob_of_var {n : String} {g : Nat} {cs : Array Value} {l : List Value} (hg : P.globalNamed n = some g) (hv : W.var? P n = some cs) (hc : cs.toList = l) : GlobOk W g l := by
  simp only [World.var?, hg, Option.bind_some] at hv
  split at hv
  · rename_i c t fr hb
    cases hv
    subst hc
    exact ⟨_, t, fr, hb, List.take_of_length_le (Nat.le_refl _)⟩
  · cases hv

theorem ints_of_trod {base : Nat} {spare : Nat → Bool} {held : Bool} {fuel : Nat} {t e : TypeId} {k : IntKind} {n : Nat} {cs : List Value} {d : DataW H} {p : List MemPlace}
    (ht : P.underlying t = some (.array n e)) (he : P.underlying e = some (.int k)) (hc : P.cellsOf e = 1) (hct : P.cellsOf t = n) (ns : List Int) (hd : d = .agg (ns.map fun z => .lit (.int k z)))
    (h : DataW.trod enc P W base spare held fuel t cs = some (d, p)) : cs = ns.map fun z => .int k z := by
  obtain ⟨xs, m, _, hx, hl, hn, hel⟩ := DataW.trod_array ht h
  rw [hd] at hx
  simp only [Prod.mk.injEq, DataW.agg.injEq] at hx
  have hx := hx.1
  have hlen : ns.length = n := by have := congrArg List.length hx; simp at this; omega
  refine List.ext_getElem? fun i => ?_
  by_cases hi : i < n
  · have h1 := hel i hi
    rw [hc, Nat.mul_one, List.getElem?_eq_getElem (by omega)] at h1
    obtain ⟨z, e1, e2, _⟩ := DataW.trod_int he h1
    have h2 := congrArg (·[i]?) hx
    simp only [List.getElem?_map] at h2
    rw [List.getElem?_eq_getElem (show i < xs.length by omega), List.getElem?_eq_getElem (show i < ns.length by omega)] at h2
    simp only [Option.map_some, Option.some.injEq, e2] at h2
    injection h2 with h2
    injection h2 with _ h2
    have h3 := congrArg (·[0]?) e1
    simp only [List.getElem?_take, List.getElem?_drop] at h3
    simp at h3
    rw [h3, List.getElem?_map, List.getElem?_eq_getElem (show i < ns.length by omega), h2]
    rfl
  · rw [List.getElem?_eq_none (by omega), List.getElem?_eq_none (by simp; omega)]

theorem strs_of_trod {base : Nat} {spare : Nat → Bool} {held : Bool} {fuel : Nat} {t e : TypeId} {n : Nat} {cs : List Value} {d : DataW H} {p : List MemPlace}
    (ht : P.underlying t = some (.array n e)) (he : P.underlying e = some .string) (hc : P.cellsOf e = 1) (_hct : P.cellsOf t = n) (ns : List (List UInt8)) (hd : d = .agg (ns.map fun z => .lit (.string z)))
    (h : DataW.trod enc P W base spare held fuel t cs = some (d, p)) : cs = ns.map fun z => .string ⟨⟨z⟩⟩ := by
  obtain ⟨xs, m, _, hx, hl, hn, hel⟩ := DataW.trod_array ht h
  rw [hd] at hx
  simp only [Prod.mk.injEq, DataW.agg.injEq] at hx
  have hx := hx.1
  have hlen : ns.length = n := by have := congrArg List.length hx; simp at this; omega
  refine List.ext_getElem? fun i => ?_
  by_cases hi : i < n
  · have h1 := hel i hi
    rw [hc, Nat.mul_one, List.getElem?_eq_getElem (by omega)] at h1
    obtain ⟨z, e1, e2, _⟩ := DataW.trod_string he h1
    have h2 := congrArg (·[i]?) hx
    simp only [List.getElem?_map] at h2
    rw [List.getElem?_eq_getElem (show i < xs.length by omega), List.getElem?_eq_getElem (show i < ns.length by omega)] at h2
    simp only [Option.map_some, Option.some.injEq, e2] at h2
    injection h2 with h2
    injection h2 with h2
    have h3 := congrArg (·[0]?) e1
    simp only [List.getElem?_take, List.getElem?_drop] at h3
    simp at h3
    rw [h3, List.getElem?_map, List.getElem?_eq_getElem (show i < ns.length by omega), h2]
    rfl
  · rw [List.getElem?_eq_none (by omega), List.getElem?_eq_none (by simp; omega)]

end Go.Abs
end
