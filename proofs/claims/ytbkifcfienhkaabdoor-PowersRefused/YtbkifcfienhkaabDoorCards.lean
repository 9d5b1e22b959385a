/-
  DERIVED. GIVEN WITH THE SEED: THE CARDS: each row of YtbkifcfienhkaabDoorRows.lean that lists a variable, with what it lists TIED to the program's text (the seventh form; the later family's looks); each row that meets fmt, with fmt's text TOLD by the authors' own Lean function (tested against real Go, not proved from fmt's source: count such statements apart). THE CARD IS WHAT COUNTS. Prove the row's statement (the work); the ties are given (YtbkifcfienhkaabDoorTie.lean); close each card by the builder's one call (the guide's Derived/Test/ToyasCard.lean, 'card_holds'). Laid BY PROGRAM, IN A SANDBOX (cutbox-door.mjs). By AI agents, Wed Nov 11 2026. No macro, syntax, notation, axiom, sorry.
-/
import Derived.Test.YtbkifcfienhkaabDoorRows
import GoSem.ClaimSeven
namespace Go.Proofs.YtbkifcfienhkaabDoor
namespace Rows

/-- THE TIED CARD OF 'gouachelaw04.PowersRefused'. -/
def powersRefusedCard : Claim7 := { stood := { row := powersRefusedRow, standIns := [], harness := (true, "126fb234de96f7d9833cb2ebf74903595c94332fce51289ea3761151d6249c6a"), looks := false }, kinds := [], alts := [], laidByText := true, laidKinds := [.data], laidTests := true, laidLooks := .later }
def PowersRefusedCardSaid : Prop := Claim7.holds Tryd.pinned (.plain (OpenSpec.ofChange powersRefusedSpec)) powersRefusedCard

/-- THE SECOND FORM's CARD OF 'gouachelaw04.PowersRefused'. -/
def powersRefusedUptoCard : Claim7 := { stood := { row := powersRefusedUptoRow, standIns := [], harness := (true, "126fb234de96f7d9833cb2ebf74903595c94332fce51289ea3761151d6249c6a"), looks := false }, kinds := [], alts := [], laidByText := true, laidKinds := [.data], laidTests := true, laidLooks := .later }
def PowersRefusedUptoCardSaid : Prop := Claim7.holds Tryd.pinned (.plain (OpenSpec.upto powersRefusedSpec)) powersRefusedUptoCard
end Rows
end Go.Proofs.YtbkifcfienhkaabDoor
