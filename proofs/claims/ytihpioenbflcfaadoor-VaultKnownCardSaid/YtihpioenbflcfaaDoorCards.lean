/-
  DERIVED. GIVEN WITH THE SEED: THE CARDS: each row of YtihpioenbflcfaaDoorRows.lean that lists a variable, with what it lists TIED to the program's text (the seventh form; the later family's looks); each row that meets fmt, with fmt's text TOLD by the authors' own Lean function (tested against real Go, not proved from fmt's source: count such statements apart). THE CARD IS WHAT COUNTS. Prove the row's statement (the work); the ties are given (YtihpioenbflcfaaDoorTie.lean); close each card by the builder's one call (the guide's Derived/Test/ToyasCard.lean, 'card_holds'). Laid BY PROGRAM, IN A SANDBOX (cutbox-door.mjs). By AI agents, Wed Nov 11 2026. No macro, syntax, notation, axiom, sorry.
-/
import Derived.Test.YtihpioenbflcfaaDoorRows
import GoSem.ClaimSeven
namespace Go.Proofs.YtihpioenbflcfaaDoor
namespace Rows

/-- THE TIED CARD OF 'shambleslaw03.VaultKnown'. -/
def vaultKnownCard : Claim7 := { stood := { row := vaultKnownRow, standIns := [], harness := (true, "5d00f32bc5e800ef7ed43d65564b208ef9fe8bc0a8e9427a0575e487de44c287"), looks := false }, kinds := [], alts := [], laidByText := true, laidKinds := [.data, .data, .data], laidTests := true, laidLooks := .later }
def VaultKnownCardSaid : Prop := Claim7.holds Tryd.pinned (.plain (OpenSpec.ofChange vaultKnownSpec)) vaultKnownCard

/-- THE TIED CARD OF 'shambleslaw05.TraceKnown'. -/
def traceKnownCard : Claim7 := { stood := { row := traceKnownRow, standIns := [], harness := (true, "5d00f32bc5e800ef7ed43d65564b208ef9fe8bc0a8e9427a0575e487de44c287"), looks := false }, kinds := [], alts := [], laidByText := true, laidKinds := [.data, .data, .data], laidTests := true, laidLooks := .later }
def TraceKnownCardSaid : Prop := Claim7.holds Tryd.pinned (.plain (OpenSpec.ofChange traceKnownSpec)) traceKnownCard

/-- THE TIED CARD OF 'shambleslaw09.DoorKnown'. -/
def doorKnownCard : Claim7 := { stood := { row := doorKnownRow, standIns := [], harness := (true, "5d00f32bc5e800ef7ed43d65564b208ef9fe8bc0a8e9427a0575e487de44c287"), looks := false }, kinds := [], alts := [], laidByText := true, laidKinds := [.data, .data, .data], laidTests := true, laidLooks := .later }
def DoorKnownCardSaid : Prop := Claim7.holds Tryd.pinned (.plain (OpenSpec.ofChange doorKnownSpec)) doorKnownCard

/-- THE SECOND FORM's CARD OF 'shambleslaw03.VaultKnown'. -/
def vaultKnownUptoCard : Claim7 := { stood := { row := vaultKnownUptoRow, standIns := [], harness := (true, "5d00f32bc5e800ef7ed43d65564b208ef9fe8bc0a8e9427a0575e487de44c287"), looks := false }, kinds := [], alts := [], laidByText := true, laidKinds := [.data, .data, .data], laidTests := true, laidLooks := .later }
def VaultKnownUptoCardSaid : Prop := Claim7.holds Tryd.pinned (.plain (OpenSpec.upto vaultKnownSpec)) vaultKnownUptoCard

/-- THE SECOND FORM's CARD OF 'shambleslaw05.TraceKnown'. -/
def traceKnownUptoCard : Claim7 := { stood := { row := traceKnownUptoRow, standIns := [], harness := (true, "5d00f32bc5e800ef7ed43d65564b208ef9fe8bc0a8e9427a0575e487de44c287"), looks := false }, kinds := [], alts := [], laidByText := true, laidKinds := [.data, .data, .data], laidTests := true, laidLooks := .later }
def TraceKnownUptoCardSaid : Prop := Claim7.holds Tryd.pinned (.plain (OpenSpec.upto traceKnownSpec)) traceKnownUptoCard

/-- THE SECOND FORM's CARD OF 'shambleslaw09.DoorKnown'. -/
def doorKnownUptoCard : Claim7 := { stood := { row := doorKnownUptoRow, standIns := [], harness := (true, "5d00f32bc5e800ef7ed43d65564b208ef9fe8bc0a8e9427a0575e487de44c287"), looks := false }, kinds := [], alts := [], laidByText := true, laidKinds := [.data, .data, .data], laidTests := true, laidLooks := .later }
def DoorKnownUptoCardSaid : Prop := Claim7.holds Tryd.pinned (.plain (OpenSpec.upto doorKnownSpec)) doorKnownUptoCard
end Rows
end Go.Proofs.YtihpioenbflcfaaDoor
