/-
  No cell of these rows narrows 'for every input' (looked for: loops, veiled, ifaces, maps, wideKeys, modest, calm, conditions, laid).
  DERIVED. THE GIVEN ROWS OF THIS SEAT. 3 by the template 'for every input the law returns true; each argument reads behind the call as it read before'; 0 by the template 'total and deterministic' (their statements: YtndbihaffijhbaaTotals.lean).
  GIVEN WITH THE SEED: the statements are not yours to turn. If you find one false, say at which input.
  Laid BY PROGRAM, IN A SANDBOX (cutbox-rows.mjs): the forced cells as the released guide's own fill.sh prints them over the translation e46f78884e68eb55… (all of the seat's roots in one cut). By AI agents, Wed Nov 11 2026. No macro, syntax, notation, axiom, sorry.
-/
import Derived.Test.YtndbihaffijhbaaChecked
import GoSem.Claim
import GoSem.ClaimJoined
import GoSem.ClaimMapViews
import Derived.JoinedTies
import Derived.KernelRfl
namespace Go.Proofs.Ytndbihaffijhbaa
/- THE CELL 'sum', in the pinned program and in every row, IS THE sha256 OF THE DUMP (.gsa) THAT YtndbihaffijhbaaProg.lean LOADS. Nothing in Lean hashes anything: it is a label: what it is worth is what the hold of that sum in a sandbox is worth. -/
noncomputable def Try.pinned : Pinned := { name := "ytndbihaffijhbaa", sum := "e46f78884e68eb5503b415a459d384c9ee5d1a6af3c721b7f052f810cea1fb83", checked := Try.checked }
namespace Rows
def none {H : Type} : Left H := { results := [], args := [] }

/-- 'shambleslaw04.ColdTrue': WHATEVER THE INPUT: true; the input reads as it did. -/
def coldTrueSpec : ChangeSpec := { name := "coldTrue", fn := fun _ => fun
  | [d] => { results := [.lit (.bool true)], args := [d] }
  | _ => none }
def coldTrueRow : OpenClaim := { program := "ytndbihaffijhbaa", sum := "e46f78884e68eb5503b415a459d384c9ee5d1a6af3c721b7f052f810cea1fb83", func := "shambles/shambleslaw04.ColdTrue", spec := "coldTrue", unfollowed := true, recurses := true, apart := false }
def ColdTrueSaid : Prop := coldTrueRow.holds Try.pinned (OpenSpec.ofChange coldTrueSpec)

/-- ITS FALSE NEIGHBOUR: 'it returns false'. Refute it at one input. -/
def coldTrueWrong : ChangeSpec := { name := "coldTrue", fn := fun _ => fun
  | [d] => { results := [.lit (.bool false)], args := [d] }
  | _ => none }
def ColdTrueWrongFalsely : Prop := coldTrueRow.holds Try.pinned (OpenSpec.ofChange coldTrueWrong)

/-- 'shambleslaw04.ColdEnds': WHATEVER THE INPUT: true; the input reads as it did. -/
def coldEndsSpec : ChangeSpec := { name := "coldEnds", fn := fun _ => fun
  | [d] => { results := [.lit (.bool true)], args := [d] }
  | _ => none }
def coldEndsRow : OpenClaim := { program := "ytndbihaffijhbaa", sum := "e46f78884e68eb5503b415a459d384c9ee5d1a6af3c721b7f052f810cea1fb83", func := "shambles/shambleslaw04.ColdEnds", spec := "coldEnds", unfollowed := true, recurses := true, apart := false }
def ColdEndsSaid : Prop := coldEndsRow.holds Try.pinned (OpenSpec.ofChange coldEndsSpec)

/-- ITS FALSE NEIGHBOUR: 'it returns false'. Refute it at one input. -/
def coldEndsWrong : ChangeSpec := { name := "coldEnds", fn := fun _ => fun
  | [d] => { results := [.lit (.bool false)], args := [d] }
  | _ => none }
def ColdEndsWrongFalsely : Prop := coldEndsRow.holds Try.pinned (OpenSpec.ofChange coldEndsWrong)

/-- 'shambleslaw04.ColdInTime': WHATEVER THE INPUT: true; the input reads as it did. -/
def coldInTimeSpec : ChangeSpec := { name := "coldInTime", fn := fun _ => fun
  | [d] => { results := [.lit (.bool true)], args := [d] }
  | _ => none }
def coldInTimeRow : OpenClaim := { program := "ytndbihaffijhbaa", sum := "e46f78884e68eb5503b415a459d384c9ee5d1a6af3c721b7f052f810cea1fb83", func := "shambles/shambleslaw04.ColdInTime", spec := "coldInTime", unfollowed := true, recurses := true, apart := false }
def ColdInTimeSaid : Prop := coldInTimeRow.holds Try.pinned (OpenSpec.ofChange coldInTimeSpec)

/-- ITS FALSE NEIGHBOUR: 'it returns false'. Refute it at one input. -/
def coldInTimeWrong : ChangeSpec := { name := "coldInTime", fn := fun _ => fun
  | [d] => { results := [.lit (.bool false)], args := [d] }
  | _ => none }
def ColdInTimeWrongFalsely : Prop := coldInTimeRow.holds Try.pinned (OpenSpec.ofChange coldInTimeWrong)

/- THE SECOND FORM. 'bulk': how many values and letters a reading holds, each counted each time it is reached (what is shared counts as often as it is met; a slice's spare places count too). A statement '..UptoSaid' is the law's where the arguments, and the package variables that the reading takes, are together of bulk at most 1048576: NARROWER than '..Said'. Prove '..Said' where nothing that the law and all that it calls make is longer than what came in: it says more and counts as full. Else prove '..UptoSaid'. A law counts once. -/
mutual
def uptoBulk {H : Type} : DataW H → Nat
  | .lit (.string bytes) => bytes.length + 1
  | .lit _ => 1
  | .nil => 1
  | .ptr d => uptoBulk d + 1
  | .slice elems spare => uptoBulkAll elems + uptoBulkAll spare + 1
  | .agg parts => uptoBulkAll parts + 1
  | .iface _ d => uptoBulk d + 1
  | .map entries => uptoBulkEntries entries + 1
  | .held _ => 1
def uptoBulkAll {H : Type} : List (DataW H) → Nat
  | [] => 0
  | d :: r => uptoBulk d + uptoBulkAll r
def uptoBulkEntries {H : Type} : List (Lit × DataW H) → Nat
  | [] => 0
  | x :: r => uptoBulkEntry x + uptoBulkEntries r
def uptoBulkEntry {H : Type} : Lit × DataW H → Nat
  | (.string bytes, d) => bytes.length + uptoBulk d + 1
  | (_, d) => uptoBulk d + 1
 end
def uptoSmall : (H : Type) → List (DataW H) → Bool := fun _ ds => decide (uptoBulkAll ds ≤ 1048576)
def OpenSpec.upto (s : _root_.Go.ChangeSpec) : _root_.Go.OpenSpec := { _root_.Go.OpenSpec.ofChange s with cond := some uptoSmall }

/-- 'shambleslaw04.ColdTrue', WHERE WHAT IT READS IS OF BULK AT MOST 1048576: true; the input reads as it did. -/
def coldTrueUptoRow : OpenClaim := { program := "ytndbihaffijhbaa", sum := "e46f78884e68eb5503b415a459d384c9ee5d1a6af3c721b7f052f810cea1fb83", func := "shambles/shambleslaw04.ColdTrue", spec := "coldTrue", unfollowed := true, recurses := true, apart := false, narrowed := true }
def ColdTrueUptoSaid : Prop := coldTrueUptoRow.holds Try.pinned (OpenSpec.upto coldTrueSpec)

/-- 'shambleslaw04.ColdEnds', WHERE WHAT IT READS IS OF BULK AT MOST 1048576: true; the input reads as it did. -/
def coldEndsUptoRow : OpenClaim := { program := "ytndbihaffijhbaa", sum := "e46f78884e68eb5503b415a459d384c9ee5d1a6af3c721b7f052f810cea1fb83", func := "shambles/shambleslaw04.ColdEnds", spec := "coldEnds", unfollowed := true, recurses := true, apart := false, narrowed := true }
def ColdEndsUptoSaid : Prop := coldEndsUptoRow.holds Try.pinned (OpenSpec.upto coldEndsSpec)

/-- 'shambleslaw04.ColdInTime', WHERE WHAT IT READS IS OF BULK AT MOST 1048576: true; the input reads as it did. -/
def coldInTimeUptoRow : OpenClaim := { program := "ytndbihaffijhbaa", sum := "e46f78884e68eb5503b415a459d384c9ee5d1a6af3c721b7f052f810cea1fb83", func := "shambles/shambleslaw04.ColdInTime", spec := "coldInTime", unfollowed := true, recurses := true, apart := false, narrowed := true }
def ColdInTimeUptoSaid : Prop := coldInTimeUptoRow.holds Try.pinned (OpenSpec.upto coldInTimeSpec)

end Rows
end Go.Proofs.Ytndbihaffijhbaa
