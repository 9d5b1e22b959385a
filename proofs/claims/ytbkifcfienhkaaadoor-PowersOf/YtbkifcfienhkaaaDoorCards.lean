/-
  DERIVED. GIVEN WITH THE SEED: THE CARDS: each row of YtbkifcfienhkaaaDoorRows.lean that lists a variable, with what it lists TIED to the program's text (the seventh form; the later family's looks); each row that meets fmt, with fmt's text TOLD by the authors' own Lean function (tested against real Go, not proved from fmt's source: count such statements apart). THE CARD IS WHAT COUNTS. Prove the row's statement (the work); the ties are given (YtbkifcfienhkaaaDoorTie.lean); close each card by the builder's one call (the guide's Derived/Test/ToyasCard.lean, 'card_holds'). Laid BY PROGRAM, IN A SANDBOX (cutbox-door.mjs). By AI agents, Wed Nov 11 2026. No macro, syntax, notation, axiom, sorry.
-/
import Derived.Test.YtbkifcfienhkaaaDoorRows
import GoSem.ClaimSeven
namespace Go.Proofs.YtbkifcfienhkaaaDoor
namespace Rows

/-- THE TIED CARD OF 'gouachelaw04.PowersOf'. -/
def powersOfCard : Claim7 := { stood := { row := powersOfRow, standIns := [], harness := (true, "8ad37bd46e96cb3df7336a36d9c4e9332f3daa878e895816fe20b82dcab56150"), looks := false }, kinds := [], alts := [], laidByText := true, laidKinds := [.data], laidTests := true, laidLooks := .later }
def PowersOfCardSaid : Prop := Claim7.holds Tryd.pinned (.plain (OpenSpec.ofChange powersOfSpec)) powersOfCard

/-- THE TIED CARD OF 'gouachelaw04.PowersWhole'. -/
def powersWholeCard : Claim7 := { stood := { row := powersWholeRow, standIns := [], harness := (true, "8ad37bd46e96cb3df7336a36d9c4e9332f3daa878e895816fe20b82dcab56150"), looks := false }, kinds := [], alts := [], laidByText := true, laidKinds := [.data], laidTests := true, laidLooks := .later }
def PowersWholeCardSaid : Prop := Claim7.holds Tryd.pinned (.plain (OpenSpec.ofChange powersWholeSpec)) powersWholeCard

/-- THE TIED CARD OF 'gouachelaw04.PowersBack'. -/
def powersBackCard : Claim7 := { stood := { row := powersBackRow, standIns := [], harness := (true, "8ad37bd46e96cb3df7336a36d9c4e9332f3daa878e895816fe20b82dcab56150"), looks := false }, kinds := [], alts := [], laidByText := true, laidKinds := [.data], laidTests := true, laidLooks := .later }
def PowersBackCardSaid : Prop := Claim7.holds Tryd.pinned (.plain (OpenSpec.ofChange powersBackSpec)) powersBackCard

/-- THE TIED CARD OF 'gouachelaw04.PowersSums'. -/
def powersSumsCard : Claim7 := { stood := { row := powersSumsRow, standIns := [], harness := (true, "8ad37bd46e96cb3df7336a36d9c4e9332f3daa878e895816fe20b82dcab56150"), looks := false }, kinds := [], alts := [], laidByText := true, laidKinds := [.data], laidTests := true, laidLooks := .later }
def PowersSumsCardSaid : Prop := Claim7.holds Tryd.pinned (.plain (OpenSpec.ofChange powersSumsSpec)) powersSumsCard

/-- THE TIED CARD OF 'gouachelaw04.PowersRise'. -/
def powersRiseCard : Claim7 := { stood := { row := powersRiseRow, standIns := [], harness := (true, "8ad37bd46e96cb3df7336a36d9c4e9332f3daa878e895816fe20b82dcab56150"), looks := false }, kinds := [], alts := [], laidByText := true, laidKinds := [.data], laidTests := true, laidLooks := .later }
def PowersRiseCardSaid : Prop := Claim7.holds Tryd.pinned (.plain (OpenSpec.ofChange powersRiseSpec)) powersRiseCard

/-- THE TIED CARD OF 'gouachelaw04.PowersSquares'. -/
def powersSquaresCard : Claim7 := { stood := { row := powersSquaresRow, standIns := [], harness := (true, "8ad37bd46e96cb3df7336a36d9c4e9332f3daa878e895816fe20b82dcab56150"), looks := false }, kinds := [], alts := [], laidByText := true, laidKinds := [.data], laidTests := true, laidLooks := .later }
def PowersSquaresCardSaid : Prop := Claim7.holds Tryd.pinned (.plain (OpenSpec.ofChange powersSquaresSpec)) powersSquaresCard

/-- THE SECOND FORM's CARD OF 'gouachelaw04.PowersOf'. -/
def powersOfUptoCard : Claim7 := { stood := { row := powersOfUptoRow, standIns := [], harness := (true, "8ad37bd46e96cb3df7336a36d9c4e9332f3daa878e895816fe20b82dcab56150"), looks := false }, kinds := [], alts := [], laidByText := true, laidKinds := [.data], laidTests := true, laidLooks := .later }
def PowersOfUptoCardSaid : Prop := Claim7.holds Tryd.pinned (.plain (OpenSpec.upto powersOfSpec)) powersOfUptoCard

/-- THE SECOND FORM's CARD OF 'gouachelaw04.PowersWhole'. -/
def powersWholeUptoCard : Claim7 := { stood := { row := powersWholeUptoRow, standIns := [], harness := (true, "8ad37bd46e96cb3df7336a36d9c4e9332f3daa878e895816fe20b82dcab56150"), looks := false }, kinds := [], alts := [], laidByText := true, laidKinds := [.data], laidTests := true, laidLooks := .later }
def PowersWholeUptoCardSaid : Prop := Claim7.holds Tryd.pinned (.plain (OpenSpec.upto powersWholeSpec)) powersWholeUptoCard

/-- THE SECOND FORM's CARD OF 'gouachelaw04.PowersBack'. -/
def powersBackUptoCard : Claim7 := { stood := { row := powersBackUptoRow, standIns := [], harness := (true, "8ad37bd46e96cb3df7336a36d9c4e9332f3daa878e895816fe20b82dcab56150"), looks := false }, kinds := [], alts := [], laidByText := true, laidKinds := [.data], laidTests := true, laidLooks := .later }
def PowersBackUptoCardSaid : Prop := Claim7.holds Tryd.pinned (.plain (OpenSpec.upto powersBackSpec)) powersBackUptoCard

/-- THE SECOND FORM's CARD OF 'gouachelaw04.PowersSums'. -/
def powersSumsUptoCard : Claim7 := { stood := { row := powersSumsUptoRow, standIns := [], harness := (true, "8ad37bd46e96cb3df7336a36d9c4e9332f3daa878e895816fe20b82dcab56150"), looks := false }, kinds := [], alts := [], laidByText := true, laidKinds := [.data], laidTests := true, laidLooks := .later }
def PowersSumsUptoCardSaid : Prop := Claim7.holds Tryd.pinned (.plain (OpenSpec.upto powersSumsSpec)) powersSumsUptoCard

/-- THE SECOND FORM's CARD OF 'gouachelaw04.PowersRise'. -/
def powersRiseUptoCard : Claim7 := { stood := { row := powersRiseUptoRow, standIns := [], harness := (true, "8ad37bd46e96cb3df7336a36d9c4e9332f3daa878e895816fe20b82dcab56150"), looks := false }, kinds := [], alts := [], laidByText := true, laidKinds := [.data], laidTests := true, laidLooks := .later }
def PowersRiseUptoCardSaid : Prop := Claim7.holds Tryd.pinned (.plain (OpenSpec.upto powersRiseSpec)) powersRiseUptoCard

/-- THE SECOND FORM's CARD OF 'gouachelaw04.PowersSquares'. -/
def powersSquaresUptoCard : Claim7 := { stood := { row := powersSquaresUptoRow, standIns := [], harness := (true, "8ad37bd46e96cb3df7336a36d9c4e9332f3daa878e895816fe20b82dcab56150"), looks := false }, kinds := [], alts := [], laidByText := true, laidKinds := [.data], laidTests := true, laidLooks := .later }
def PowersSquaresUptoCardSaid : Prop := Claim7.holds Tryd.pinned (.plain (OpenSpec.upto powersSquaresSpec)) powersSquaresUptoCard
end Rows
end Go.Proofs.YtbkifcfienhkaaaDoor
