/-
  DERIVED. GIVEN WITH THE SEED: THE CARDS: each row of YtdkpfdcicomgjaaGreatDoorRows.lean that lists a variable, with what it lists TIED to the program's text (the seventh form; the later family's looks); each row that meets fmt, with fmt's text TOLD by the authors' own Lean function (tested against real Go, not proved from fmt's source: count such statements apart). THE CARD IS WHAT COUNTS. Prove the row's statement (the work); the ties are given (YtdkpfdcicomgjaaGreatDoorTie.lean); close each card by the builder's one call (the guide's Derived/Test/ToyasCard.lean, 'card_holds'). Laid BY PROGRAM, IN A SANDBOX (cutbox-door.mjs). By AI agents, Wed Nov 11 2026. No macro, syntax, notation, axiom, sorry.
-/
import Derived.Test.YtdkpfdcicomgjaaGreatDoorRows
import GoSem.ClaimSeven
namespace Go.Proofs.YtdkpfdcicomgjaaGreatDoor
namespace Rows

/-- THE TIED CARD OF 'shambleslaw02.StallRolls'. -/
def stallRollsCard : Claim7 := { stood := { row := stallRollsRow, standIns := [], harness := (true, "26ec823ec5316b62b27afb5b7025df45ba63f9d27584aa41edbf623fe0a56d1b"), looks := true }, kinds := [], alts := [], laidByText := true, laidKinds := [.data, .data, .data, .data, .sentinel, .sentinel, .data, .pinned], laidTests := true, laidLooks := .later }
def StallRollsCardSaid : Prop := Claim7.holds Tryz.pinned (.plain (OpenSpec.ofChange stallRollsSpec)) stallRollsCard

/-- THE TIED CARD OF 'shambleslaw02.StallKnown'. -/
def stallKnownCard : Claim7 := { stood := { row := stallKnownRow, standIns := [], harness := (true, "26ec823ec5316b62b27afb5b7025df45ba63f9d27584aa41edbf623fe0a56d1b"), looks := true }, kinds := [], alts := [], laidByText := true, laidKinds := [.data, .data, .data, .data], laidTests := true, laidLooks := .later }
def StallKnownCardSaid : Prop := Claim7.holds Tryz.pinned (.plain (OpenSpec.ofChange stallKnownSpec)) stallKnownCard

/-- THE TIED CARD OF 'shambleslaw02.StallRead'. -/
def stallReadCard : Claim7 := { stood := { row := stallReadRow, standIns := [], harness := (true, "26ec823ec5316b62b27afb5b7025df45ba63f9d27584aa41edbf623fe0a56d1b"), looks := true }, kinds := [], alts := [], laidByText := true, laidKinds := [.data, .data, .data, .data, .sentinel, .sentinel, .data, .pinned], laidTests := true, laidLooks := .later }
def StallReadCardSaid : Prop := Claim7.holds Tryz.pinned (.plain (OpenSpec.ofChange stallReadSpec)) stallReadCard

/-- THE SECOND FORM's CARD OF 'shambleslaw02.StallRolls'. -/
def stallRollsUptoCard : Claim7 := { stood := { row := stallRollsUptoRow, standIns := [], harness := (true, "26ec823ec5316b62b27afb5b7025df45ba63f9d27584aa41edbf623fe0a56d1b"), looks := true }, kinds := [], alts := [], laidByText := true, laidKinds := [.data, .data, .data, .data, .sentinel, .sentinel, .data, .pinned], laidTests := true, laidLooks := .later }
def StallRollsUptoCardSaid : Prop := Claim7.holds Tryz.pinned (.plain (OpenSpec.upto stallRollsSpec)) stallRollsUptoCard

/-- THE SECOND FORM's CARD OF 'shambleslaw02.StallKnown'. -/
def stallKnownUptoCard : Claim7 := { stood := { row := stallKnownUptoRow, standIns := [], harness := (true, "26ec823ec5316b62b27afb5b7025df45ba63f9d27584aa41edbf623fe0a56d1b"), looks := true }, kinds := [], alts := [], laidByText := true, laidKinds := [.data, .data, .data, .data], laidTests := true, laidLooks := .later }
def StallKnownUptoCardSaid : Prop := Claim7.holds Tryz.pinned (.plain (OpenSpec.upto stallKnownSpec)) stallKnownUptoCard

/-- THE SECOND FORM's CARD OF 'shambleslaw02.StallRead'. -/
def stallReadUptoCard : Claim7 := { stood := { row := stallReadUptoRow, standIns := [], harness := (true, "26ec823ec5316b62b27afb5b7025df45ba63f9d27584aa41edbf623fe0a56d1b"), looks := true }, kinds := [], alts := [], laidByText := true, laidKinds := [.data, .data, .data, .data, .sentinel, .sentinel, .data, .pinned], laidTests := true, laidLooks := .later }
def StallReadUptoCardSaid : Prop := Claim7.holds Tryz.pinned (.plain (OpenSpec.upto stallReadSpec)) stallReadUptoCard
end Rows
end Go.Proofs.YtdkpfdcicomgjaaGreatDoor
