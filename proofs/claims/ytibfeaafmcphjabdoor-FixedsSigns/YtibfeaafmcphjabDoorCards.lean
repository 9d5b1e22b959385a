/-
  DERIVED. GIVEN WITH THE SEED: THE CARDS: each row of YtibfeaafmcphjabDoorRows.lean that lists a variable, with what it lists TIED to the program's text (the seventh form; the later family's looks); each row that meets fmt, with fmt's text TOLD by the authors' own Lean function (tested against real Go, not proved from fmt's source: count such statements apart). THE CARD IS WHAT COUNTS. Prove the row's statement (the work); the ties are given (YtibfeaafmcphjabDoorTie.lean); close each card by the builder's one call (the guide's Derived/Test/ToyasCard.lean, 'card_holds'). Laid BY PROGRAM, IN A SANDBOX (cutbox-door.mjs). By AI agents, Wed Nov 11 2026. No macro, syntax, notation, axiom, sorry.
-/
import Derived.Test.YtibfeaafmcphjabDoorRows
import GoSem.ClaimSeven
namespace Go.Proofs.YtibfeaafmcphjabDoor
namespace Rows

/-- THE TIED CARD OF 'gouachelaw02.FixedsSigns'. -/
def fixedsSignsCard : Claim7 := { stood := { row := fixedsSignsRow, standIns := [], harness := (true, "05f63075b4b0c279995524ff08217e2012809dac48d27cbfb131d011a819f315"), looks := false }, kinds := [], alts := [], laidByText := true, laidKinds := [.data], laidTests := true, laidLooks := .later }
def FixedsSignsCardSaid : Prop := Claim7.holds Tryd.pinned (.plain (OpenSpec.ofChange fixedsSignsSpec)) fixedsSignsCard

/-- THE TIED CARD OF 'gouachelaw02.FixedsRises'. -/
def fixedsRisesCard : Claim7 := { stood := { row := fixedsRisesRow, standIns := [], harness := (true, "05f63075b4b0c279995524ff08217e2012809dac48d27cbfb131d011a819f315"), looks := false }, kinds := [], alts := [], laidByText := true, laidKinds := [.data], laidTests := true, laidLooks := .later }
def FixedsRisesCardSaid : Prop := Claim7.holds Tryd.pinned (.plain (OpenSpec.ofChange fixedsRisesSpec)) fixedsRisesCard

/-- THE SECOND FORM's CARD OF 'gouachelaw02.FixedsSigns'. -/
def fixedsSignsUptoCard : Claim7 := { stood := { row := fixedsSignsUptoRow, standIns := [], harness := (true, "05f63075b4b0c279995524ff08217e2012809dac48d27cbfb131d011a819f315"), looks := false }, kinds := [], alts := [], laidByText := true, laidKinds := [.data], laidTests := true, laidLooks := .later }
def FixedsSignsUptoCardSaid : Prop := Claim7.holds Tryd.pinned (.plain (OpenSpec.upto fixedsSignsSpec)) fixedsSignsUptoCard

/-- THE SECOND FORM's CARD OF 'gouachelaw02.FixedsRises'. -/
def fixedsRisesUptoCard : Claim7 := { stood := { row := fixedsRisesUptoRow, standIns := [], harness := (true, "05f63075b4b0c279995524ff08217e2012809dac48d27cbfb131d011a819f315"), looks := false }, kinds := [], alts := [], laidByText := true, laidKinds := [.data], laidTests := true, laidLooks := .later }
def FixedsRisesUptoCardSaid : Prop := Claim7.holds Tryd.pinned (.plain (OpenSpec.upto fixedsRisesSpec)) fixedsRisesUptoCard
end Rows
end Go.Proofs.YtibfeaafmcphjabDoor
