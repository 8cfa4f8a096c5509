/-
  No cell of these rows narrows 'for every input' (looked for: loops, veiled, ifaces, maps, wideKeys, modest, calm, conditions, laid).
  DERIVED. THE GIVEN ROWS OF THIS SEAT. 6 by the template 'for every input the law returns true; each argument reads behind the call as it read before'; 0 by the template 'total and deterministic' (their statements: YtamlnddeiokbdaaTotals.lean).
  GIVEN WITH THE SEED: the statements are not yours to turn. If you find one false, say at which input.
  Laid BY PROGRAM, IN A SANDBOX (cutbox-rows.mjs): the forced cells as the released guide's own fill.sh prints them over the translation ec3ca2b16f1999ad… (all of the seat's roots in one cut). By AI agents, Wed Nov 11 2026. No macro, syntax, notation, axiom, sorry.
-/
import Derived.Test.YtamlnddeiokbdaaChecked
import GoSem.Claim
import GoSem.ClaimJoined
import GoSem.ClaimMapViews
import Derived.JoinedTies
import Derived.KernelRfl
namespace Go.Proofs.Ytamlnddeiokbdaa
/- THE CELL 'sum', in the pinned program and in every row, IS THE sha256 OF THE DUMP (.gsa) THAT YtamlnddeiokbdaaProg.lean LOADS. Nothing in Lean hashes anything: it is a label: what it is worth is what the hold of that sum in a sandbox is worth. -/
noncomputable def Try.pinned : Pinned := { name := "ytamlnddeiokbdaa", sum := "ec3ca2b16f1999ad1b12b17837e3eb6e0d1933b2a0f49edd0ca5036c261f00fb", checked := Try.checked }
namespace Rows
def none {H : Type} : Left H := { results := [], args := [] }

/-- 'shambleslaw08.PriceTrue': WHATEVER THE INPUT: true; the input reads as it did. -/
def priceTrueSpec : ChangeSpec := { name := "priceTrue", fn := fun _ => fun
  | [d] => { results := [.lit (.bool true)], args := [d] }
  | _ => none }
def priceTrueRow : OpenClaim := { program := "ytamlnddeiokbdaa", sum := "ec3ca2b16f1999ad1b12b17837e3eb6e0d1933b2a0f49edd0ca5036c261f00fb", func := "shambles/shambleslaw08.PriceTrue", spec := "priceTrue", unfollowed := true, recurses := true, apart := false }
def PriceTrueSaid : Prop := priceTrueRow.holds Try.pinned (OpenSpec.ofChange priceTrueSpec)

/-- ITS FALSE NEIGHBOUR: 'it returns false'. Refute it at one input. -/
def priceTrueWrong : ChangeSpec := { name := "priceTrue", fn := fun _ => fun
  | [d] => { results := [.lit (.bool false)], args := [d] }
  | _ => none }
def PriceTrueWrongFalsely : Prop := priceTrueRow.holds Try.pinned (OpenSpec.ofChange priceTrueWrong)

/-- 'shambleslaw08.PriceEnds': WHATEVER THE INPUT: true; the input reads as it did. -/
def priceEndsSpec : ChangeSpec := { name := "priceEnds", fn := fun _ => fun
  | [d] => { results := [.lit (.bool true)], args := [d] }
  | _ => none }
def priceEndsRow : OpenClaim := { program := "ytamlnddeiokbdaa", sum := "ec3ca2b16f1999ad1b12b17837e3eb6e0d1933b2a0f49edd0ca5036c261f00fb", func := "shambles/shambleslaw08.PriceEnds", spec := "priceEnds", unfollowed := true, recurses := true, apart := false }
def PriceEndsSaid : Prop := priceEndsRow.holds Try.pinned (OpenSpec.ofChange priceEndsSpec)

/-- ITS FALSE NEIGHBOUR: 'it returns false'. Refute it at one input. -/
def priceEndsWrong : ChangeSpec := { name := "priceEnds", fn := fun _ => fun
  | [d] => { results := [.lit (.bool false)], args := [d] }
  | _ => none }
def PriceEndsWrongFalsely : Prop := priceEndsRow.holds Try.pinned (OpenSpec.ofChange priceEndsWrong)

/-- 'shambleslaw08.PriceOrder': WHATEVER THE INPUT: true; the input reads as it did. -/
def priceOrderSpec : ChangeSpec := { name := "priceOrder", fn := fun _ => fun
  | [d] => { results := [.lit (.bool true)], args := [d] }
  | _ => none }
def priceOrderRow : OpenClaim := { program := "ytamlnddeiokbdaa", sum := "ec3ca2b16f1999ad1b12b17837e3eb6e0d1933b2a0f49edd0ca5036c261f00fb", func := "shambles/shambleslaw08.PriceOrder", spec := "priceOrder", unfollowed := true, recurses := true, apart := false }
def PriceOrderSaid : Prop := priceOrderRow.holds Try.pinned (OpenSpec.ofChange priceOrderSpec)

/-- ITS FALSE NEIGHBOUR: 'it returns false'. Refute it at one input. -/
def priceOrderWrong : ChangeSpec := { name := "priceOrder", fn := fun _ => fun
  | [d] => { results := [.lit (.bool false)], args := [d] }
  | _ => none }
def PriceOrderWrongFalsely : Prop := priceOrderRow.holds Try.pinned (OpenSpec.ofChange priceOrderWrong)

/-- 'shambleslaw08.PriceFound': WHATEVER THE INPUT: true; the input reads as it did. -/
def priceFoundSpec : ChangeSpec := { name := "priceFound", fn := fun _ => fun
  | [d] => { results := [.lit (.bool true)], args := [d] }
  | _ => none }
def priceFoundRow : OpenClaim := { program := "ytamlnddeiokbdaa", sum := "ec3ca2b16f1999ad1b12b17837e3eb6e0d1933b2a0f49edd0ca5036c261f00fb", func := "shambles/shambleslaw08.PriceFound", spec := "priceFound", unfollowed := true, recurses := true, apart := false }
def PriceFoundSaid : Prop := priceFoundRow.holds Try.pinned (OpenSpec.ofChange priceFoundSpec)

/-- ITS FALSE NEIGHBOUR: 'it returns false'. Refute it at one input. -/
def priceFoundWrong : ChangeSpec := { name := "priceFound", fn := fun _ => fun
  | [d] => { results := [.lit (.bool false)], args := [d] }
  | _ => none }
def PriceFoundWrongFalsely : Prop := priceFoundRow.holds Try.pinned (OpenSpec.ofChange priceFoundWrong)

/-- 'shambleslaw08.PriceAdds': WHATEVER THE INPUT: true; the input reads as it did. -/
def priceAddsSpec : ChangeSpec := { name := "priceAdds", fn := fun _ => fun
  | [d] => { results := [.lit (.bool true)], args := [d] }
  | _ => none }
def priceAddsRow : OpenClaim := { program := "ytamlnddeiokbdaa", sum := "ec3ca2b16f1999ad1b12b17837e3eb6e0d1933b2a0f49edd0ca5036c261f00fb", func := "shambles/shambleslaw08.PriceAdds", spec := "priceAdds", unfollowed := true, recurses := true, apart := false }
def PriceAddsSaid : Prop := priceAddsRow.holds Try.pinned (OpenSpec.ofChange priceAddsSpec)

/-- ITS FALSE NEIGHBOUR: 'it returns false'. Refute it at one input. -/
def priceAddsWrong : ChangeSpec := { name := "priceAdds", fn := fun _ => fun
  | [d] => { results := [.lit (.bool false)], args := [d] }
  | _ => none }
def PriceAddsWrongFalsely : Prop := priceAddsRow.holds Try.pinned (OpenSpec.ofChange priceAddsWrong)

/-- 'shambleslaw08.PriceHalf': WHATEVER THE INPUT: true; the input reads as it did. -/
def priceHalfSpec : ChangeSpec := { name := "priceHalf", fn := fun _ => fun
  | [d] => { results := [.lit (.bool true)], args := [d] }
  | _ => none }
def priceHalfRow : OpenClaim := { program := "ytamlnddeiokbdaa", sum := "ec3ca2b16f1999ad1b12b17837e3eb6e0d1933b2a0f49edd0ca5036c261f00fb", func := "shambles/shambleslaw08.PriceHalf", spec := "priceHalf", unfollowed := true, recurses := true, apart := false }
def PriceHalfSaid : Prop := priceHalfRow.holds Try.pinned (OpenSpec.ofChange priceHalfSpec)

/-- ITS FALSE NEIGHBOUR: 'it returns false'. Refute it at one input. -/
def priceHalfWrong : ChangeSpec := { name := "priceHalf", fn := fun _ => fun
  | [d] => { results := [.lit (.bool false)], args := [d] }
  | _ => none }
def PriceHalfWrongFalsely : Prop := priceHalfRow.holds Try.pinned (OpenSpec.ofChange priceHalfWrong)

/- THE SECOND FORM. 'bulk': how many values and letters a reading holds, each counted each time it is reached (what is shared counts as often as it is met; a slice's spare places count too). A statement '..UptoSaid' is the law's where the arguments, and the package variables that the reading takes, are together of bulk at most 1048576: NARROWER than '..Said'. Prove '..Said' where nothing that the law and all that it calls make is longer than what came in: it says more and counts as full. Else prove '..UptoSaid'. A law counts once. -/
mutual
def uptoBulk {H : Type} : DataW H → Nat
  | .lit (.string bytes) => bytes.length + 1
  | .lit _ => 1
  | .nil => 1
  | .ptr d => uptoBulk d + 1
  | .slice elems spare => uptoBulkAll elems + uptoBulkAll spare + 1
  | .agg parts => uptoBulkAll parts + 1
  | .iface _ d => uptoBulk d + 1
  | .map entries => uptoBulkEntries entries + 1
  | .held _ => 1
def uptoBulkAll {H : Type} : List (DataW H) → Nat
  | [] => 0
  | d :: r => uptoBulk d + uptoBulkAll r
def uptoBulkEntries {H : Type} : List (Lit × DataW H) → Nat
  | [] => 0
  | x :: r => uptoBulkEntry x + uptoBulkEntries r
def uptoBulkEntry {H : Type} : Lit × DataW H → Nat
  | (.string bytes, d) => bytes.length + uptoBulk d + 1
  | (_, d) => uptoBulk d + 1
 end
def uptoSmall : (H : Type) → List (DataW H) → Bool := fun _ ds => decide (uptoBulkAll ds ≤ 1048576)
def OpenSpec.upto (s : _root_.Go.ChangeSpec) : _root_.Go.OpenSpec := { _root_.Go.OpenSpec.ofChange s with cond := some uptoSmall }

/-- 'shambleslaw08.PriceTrue', WHERE WHAT IT READS IS OF BULK AT MOST 1048576: true; the input reads as it did. -/
def priceTrueUptoRow : OpenClaim := { program := "ytamlnddeiokbdaa", sum := "ec3ca2b16f1999ad1b12b17837e3eb6e0d1933b2a0f49edd0ca5036c261f00fb", func := "shambles/shambleslaw08.PriceTrue", spec := "priceTrue", unfollowed := true, recurses := true, apart := false, narrowed := true }
def PriceTrueUptoSaid : Prop := priceTrueUptoRow.holds Try.pinned (OpenSpec.upto priceTrueSpec)

/-- 'shambleslaw08.PriceEnds', WHERE WHAT IT READS IS OF BULK AT MOST 1048576: true; the input reads as it did. -/
def priceEndsUptoRow : OpenClaim := { program := "ytamlnddeiokbdaa", sum := "ec3ca2b16f1999ad1b12b17837e3eb6e0d1933b2a0f49edd0ca5036c261f00fb", func := "shambles/shambleslaw08.PriceEnds", spec := "priceEnds", unfollowed := true, recurses := true, apart := false, narrowed := true }
def PriceEndsUptoSaid : Prop := priceEndsUptoRow.holds Try.pinned (OpenSpec.upto priceEndsSpec)

/-- 'shambleslaw08.PriceOrder', WHERE WHAT IT READS IS OF BULK AT MOST 1048576: true; the input reads as it did. -/
def priceOrderUptoRow : OpenClaim := { program := "ytamlnddeiokbdaa", sum := "ec3ca2b16f1999ad1b12b17837e3eb6e0d1933b2a0f49edd0ca5036c261f00fb", func := "shambles/shambleslaw08.PriceOrder", spec := "priceOrder", unfollowed := true, recurses := true, apart := false, narrowed := true }
def PriceOrderUptoSaid : Prop := priceOrderUptoRow.holds Try.pinned (OpenSpec.upto priceOrderSpec)

/-- 'shambleslaw08.PriceFound', WHERE WHAT IT READS IS OF BULK AT MOST 1048576: true; the input reads as it did. -/
def priceFoundUptoRow : OpenClaim := { program := "ytamlnddeiokbdaa", sum := "ec3ca2b16f1999ad1b12b17837e3eb6e0d1933b2a0f49edd0ca5036c261f00fb", func := "shambles/shambleslaw08.PriceFound", spec := "priceFound", unfollowed := true, recurses := true, apart := false, narrowed := true }
def PriceFoundUptoSaid : Prop := priceFoundUptoRow.holds Try.pinned (OpenSpec.upto priceFoundSpec)

/-- 'shambleslaw08.PriceAdds', WHERE WHAT IT READS IS OF BULK AT MOST 1048576: true; the input reads as it did. -/
def priceAddsUptoRow : OpenClaim := { program := "ytamlnddeiokbdaa", sum := "ec3ca2b16f1999ad1b12b17837e3eb6e0d1933b2a0f49edd0ca5036c261f00fb", func := "shambles/shambleslaw08.PriceAdds", spec := "priceAdds", unfollowed := true, recurses := true, apart := false, narrowed := true }
def PriceAddsUptoSaid : Prop := priceAddsUptoRow.holds Try.pinned (OpenSpec.upto priceAddsSpec)

/-- 'shambleslaw08.PriceHalf', WHERE WHAT IT READS IS OF BULK AT MOST 1048576: true; the input reads as it did. -/
def priceHalfUptoRow : OpenClaim := { program := "ytamlnddeiokbdaa", sum := "ec3ca2b16f1999ad1b12b17837e3eb6e0d1933b2a0f49edd0ca5036c261f00fb", func := "shambles/shambleslaw08.PriceHalf", spec := "priceHalf", unfollowed := true, recurses := true, apart := false, narrowed := true }
def PriceHalfUptoSaid : Prop := priceHalfUptoRow.holds Try.pinned (OpenSpec.upto priceHalfSpec)

end Rows
end Go.Proofs.Ytamlnddeiokbdaa
