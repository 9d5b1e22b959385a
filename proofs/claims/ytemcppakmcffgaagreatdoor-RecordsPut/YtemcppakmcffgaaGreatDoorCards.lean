/-
  DERIVED. GIVEN WITH THE SEED: THE CARDS: each row of YtemcppakmcffgaaGreatDoorRows.lean that lists a variable, with what it lists TIED to the program's text (the seventh form; the later family's looks); each row that meets fmt, with fmt's text TOLD by the authors' own Lean function (tested against real Go, not proved from fmt's source: count such statements apart). THE CARD IS WHAT COUNTS. Prove the row's statement (the work); the ties are given (YtemcppakmcffgaaGreatDoorTie.lean); close each card by the builder's one call (the guide's Derived/Test/ToyasCard.lean, 'card_holds'). Laid BY PROGRAM, IN A SANDBOX (cutbox-door.mjs). By AI agents, Wed Nov 11 2026. No macro, syntax, notation, axiom, sorry.
-/
import Derived.Test.YtemcppakmcffgaaGreatDoorRows
import GoSem.ClaimSeven
namespace Go.Proofs.YtemcppakmcffgaaGreatDoor
namespace Rows

/-- THE TIED CARD OF 'gouachelaw09.RecordsPut'. -/
def recordsPutCard : Claim7 := { stood := { row := recordsPutRow, standIns := [], harness := (true, "a5635f5a783883bfc8b43bef6dd08113c3996ebb26db65586642f0e1196a5a34"), looks := false }, kinds := [], alts := [], laidByText := true, laidKinds := [.data], laidTests := true, laidLooks := .later }
def RecordsPutCardSaid : Prop := Claim7.holds Tryz.pinned (.plain (OpenSpec.ofChange recordsPutSpec)) recordsPutCard

/-- THE SECOND FORM's CARD OF 'gouachelaw09.RecordsPut'. -/
def recordsPutUptoCard : Claim7 := { stood := { row := recordsPutUptoRow, standIns := [], harness := (true, "a5635f5a783883bfc8b43bef6dd08113c3996ebb26db65586642f0e1196a5a34"), looks := false }, kinds := [], alts := [], laidByText := true, laidKinds := [.data], laidTests := true, laidLooks := .later }
def RecordsPutUptoCardSaid : Prop := Claim7.holds Tryz.pinned (.plain (OpenSpec.upto recordsPutSpec)) recordsPutUptoCard
end Rows
end Go.Proofs.YtemcppakmcffgaaGreatDoor
