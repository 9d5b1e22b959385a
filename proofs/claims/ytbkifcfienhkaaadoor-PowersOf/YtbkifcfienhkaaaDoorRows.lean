/-
  NARROWER THAN 'FOR EVERY INPUT', by the rows' own cells (each row's printed sentence says how): PowersOf: laid · PowersWhole: laid · PowersBack: laid · PowersSums: laid · PowersRise: laid · PowersSquares: laid.
  DERIVED. THE GIVEN ROWS OF THIS SEAT. 6 by the template 'for every input the law returns true; each argument reads behind the call as it read before'; 0 by the template 'total and deterministic' (their statements: YtbkifcfienhkaaaDoorTotals.lean).
  GIVEN WITH THE SEED: the statements are not yours to turn. If you find one false, say at which input.
  Laid BY PROGRAM, IN A SANDBOX (cutbox-rows.mjs): the forced cells as the released guide's own fill.sh prints them over the translation 56845e422e20a015… (all of the seat's roots in one cut). By AI agents, Wed Nov 11 2026. No macro, syntax, notation, axiom, sorry.
-/
import Derived.Test.YtbkifcfienhkaaaDoorChecked
import GoSem.Claim
import GoSem.ClaimJoined
import GoSem.ClaimMapViews
import Derived.JoinedTies
import Derived.KernelRfl
namespace Go.Proofs.YtbkifcfienhkaaaDoor
/- THE CELL 'sum', in the pinned program and in every row, IS THE sha256 OF THE DUMP (.gsa) THAT YtbkifcfienhkaaaDoorProg.lean LOADS. Nothing in Lean hashes anything: it is a label: what it is worth is what the hold of that sum in a sandbox is worth. -/
noncomputable def Tryd.pinned : Pinned := { name := "ytbkifcfienhkaaadoor", sum := "56845e422e20a015c52466a5ef3fdbf9f5c121e25d305986b26e11d5f679142f", checked := Tryd.checked }
namespace Rows
def none {H : Type} : Left H := { results := [], args := [] }

/- WHAT THE LISTED PACKAGE-LEVEL VARIABLES READ AS WHEN THE CALL BEGINS. Each datum BY PROGRAM (the guide's laid-datum.mjs) off the statement by which the dump's own 'gosem.cut.vars' lays the variable. In a bare row this is a premise. The card (YtbkifcfienhkaaaDoorCards.lean) ties it to the program's text. -/
def laid_gouache_fixeds_lifts {H : Type} : DataW H := .agg [.agg [.lit (.int .i64 0), .lit (.int .i64 0)], .agg [.lit (.int .i64 65535), .lit (.int .i64 65535)], .agg [.lit (.int .i64 32768), .lit (.int .i64 32768)], .agg [.lit (.int .i64 65535), .lit (.int .i64 0)]]

/-- 'gouachelaw04.PowersOf': WHATEVER THE INPUT: true; the input reads as it did. -/
def powersOfSpec : ChangeSpec := { name := "powersOf", fn := fun _ => fun
  | [d1, d2] => { results := [.lit (.bool true)], args := [d1, d2] }
  | _ => none }
def powersOfRow : OpenClaim := { program := "ytbkifcfienhkaaadoor", sum := "56845e422e20a015c52466a5ef3fdbf9f5c121e25d305986b26e11d5f679142f", func := "gouache/gouachelaw04.PowersOf", spec := "powersOf", inPlace := ["math/bits.Sub64", "math/bits.Add64"], unfollowed := true, recurses := true, named := ["math/bits.divideError", "math/bits.overflowError", "gouache/fixeds.lifts"], apart := false, laid := [("gouache/fixeds.lifts", laid_gouache_fixeds_lifts)] }
def PowersOfSaid : Prop := powersOfRow.holds Tryd.pinned (OpenSpec.ofChange powersOfSpec)

/-- ITS FALSE NEIGHBOUR: 'it returns false'. Refute it at one input. -/
def powersOfWrong : ChangeSpec := { name := "powersOf", fn := fun _ => fun
  | [d1, d2] => { results := [.lit (.bool false)], args := [d1, d2] }
  | _ => none }
def PowersOfWrongFalsely : Prop := powersOfRow.holds Tryd.pinned (OpenSpec.ofChange powersOfWrong)

/-- 'gouachelaw04.PowersWhole': WHATEVER THE INPUT: true; the input reads as it did. -/
def powersWholeSpec : ChangeSpec := { name := "powersWhole", fn := fun _ => fun
  | [d1, d2] => { results := [.lit (.bool true)], args := [d1, d2] }
  | _ => none }
def powersWholeRow : OpenClaim := { program := "ytbkifcfienhkaaadoor", sum := "56845e422e20a015c52466a5ef3fdbf9f5c121e25d305986b26e11d5f679142f", func := "gouache/gouachelaw04.PowersWhole", spec := "powersWhole", inPlace := ["math/bits.Sub64", "math/bits.Add64"], unfollowed := true, recurses := true, named := ["math/bits.divideError", "math/bits.overflowError", "gouache/fixeds.lifts"], apart := false, laid := [("gouache/fixeds.lifts", laid_gouache_fixeds_lifts)] }
def PowersWholeSaid : Prop := powersWholeRow.holds Tryd.pinned (OpenSpec.ofChange powersWholeSpec)

/-- ITS FALSE NEIGHBOUR: 'it returns false'. Refute it at one input. -/
def powersWholeWrong : ChangeSpec := { name := "powersWhole", fn := fun _ => fun
  | [d1, d2] => { results := [.lit (.bool false)], args := [d1, d2] }
  | _ => none }
def PowersWholeWrongFalsely : Prop := powersWholeRow.holds Tryd.pinned (OpenSpec.ofChange powersWholeWrong)

/-- 'gouachelaw04.PowersBack': WHATEVER THE INPUT: true; the input reads as it did. -/
def powersBackSpec : ChangeSpec := { name := "powersBack", fn := fun _ => fun
  | [d] => { results := [.lit (.bool true)], args := [d] }
  | _ => none }
def powersBackRow : OpenClaim := { program := "ytbkifcfienhkaaadoor", sum := "56845e422e20a015c52466a5ef3fdbf9f5c121e25d305986b26e11d5f679142f", func := "gouache/gouachelaw04.PowersBack", spec := "powersBack", inPlace := ["math/bits.Sub64", "math/bits.Add64"], unfollowed := true, recurses := true, named := ["math/bits.divideError", "math/bits.overflowError", "gouache/fixeds.lifts"], apart := false, laid := [("gouache/fixeds.lifts", laid_gouache_fixeds_lifts)] }
def PowersBackSaid : Prop := powersBackRow.holds Tryd.pinned (OpenSpec.ofChange powersBackSpec)

/-- ITS FALSE NEIGHBOUR: 'it returns false'. Refute it at one input. -/
def powersBackWrong : ChangeSpec := { name := "powersBack", fn := fun _ => fun
  | [d] => { results := [.lit (.bool false)], args := [d] }
  | _ => none }
def PowersBackWrongFalsely : Prop := powersBackRow.holds Tryd.pinned (OpenSpec.ofChange powersBackWrong)

/-- 'gouachelaw04.PowersSums': WHATEVER THE INPUT: true; the input reads as it did. -/
def powersSumsSpec : ChangeSpec := { name := "powersSums", fn := fun _ => fun
  | [d1, d2] => { results := [.lit (.bool true)], args := [d1, d2] }
  | _ => none }
def powersSumsRow : OpenClaim := { program := "ytbkifcfienhkaaadoor", sum := "56845e422e20a015c52466a5ef3fdbf9f5c121e25d305986b26e11d5f679142f", func := "gouache/gouachelaw04.PowersSums", spec := "powersSums", inPlace := ["math/bits.Sub64", "math/bits.Add64"], unfollowed := true, recurses := true, named := ["math/bits.divideError", "math/bits.overflowError", "gouache/fixeds.lifts"], apart := false, laid := [("gouache/fixeds.lifts", laid_gouache_fixeds_lifts)] }
def PowersSumsSaid : Prop := powersSumsRow.holds Tryd.pinned (OpenSpec.ofChange powersSumsSpec)

/-- ITS FALSE NEIGHBOUR: 'it returns false'. Refute it at one input. -/
def powersSumsWrong : ChangeSpec := { name := "powersSums", fn := fun _ => fun
  | [d1, d2] => { results := [.lit (.bool false)], args := [d1, d2] }
  | _ => none }
def PowersSumsWrongFalsely : Prop := powersSumsRow.holds Tryd.pinned (OpenSpec.ofChange powersSumsWrong)

/-- 'gouachelaw04.PowersRise': WHATEVER THE INPUT: true; the input reads as it did. -/
def powersRiseSpec : ChangeSpec := { name := "powersRise", fn := fun _ => fun
  | [d1, d2, d3] => { results := [.lit (.bool true)], args := [d1, d2, d3] }
  | _ => none }
def powersRiseRow : OpenClaim := { program := "ytbkifcfienhkaaadoor", sum := "56845e422e20a015c52466a5ef3fdbf9f5c121e25d305986b26e11d5f679142f", func := "gouache/gouachelaw04.PowersRise", spec := "powersRise", inPlace := ["math/bits.Sub64", "math/bits.Add64"], unfollowed := true, recurses := true, named := ["math/bits.divideError", "math/bits.overflowError", "gouache/fixeds.lifts"], apart := false, laid := [("gouache/fixeds.lifts", laid_gouache_fixeds_lifts)] }
def PowersRiseSaid : Prop := powersRiseRow.holds Tryd.pinned (OpenSpec.ofChange powersRiseSpec)

/-- ITS FALSE NEIGHBOUR: 'it returns false'. Refute it at one input. -/
def powersRiseWrong : ChangeSpec := { name := "powersRise", fn := fun _ => fun
  | [d1, d2, d3] => { results := [.lit (.bool false)], args := [d1, d2, d3] }
  | _ => none }
def PowersRiseWrongFalsely : Prop := powersRiseRow.holds Tryd.pinned (OpenSpec.ofChange powersRiseWrong)

/-- 'gouachelaw04.PowersSquares': WHATEVER THE INPUT: true; the input reads as it did. -/
def powersSquaresSpec : ChangeSpec := { name := "powersSquares", fn := fun _ => fun
  | [d1, d2] => { results := [.lit (.bool true)], args := [d1, d2] }
  | _ => none }
def powersSquaresRow : OpenClaim := { program := "ytbkifcfienhkaaadoor", sum := "56845e422e20a015c52466a5ef3fdbf9f5c121e25d305986b26e11d5f679142f", func := "gouache/gouachelaw04.PowersSquares", spec := "powersSquares", inPlace := ["math/bits.Sub64", "math/bits.Add64"], unfollowed := true, recurses := true, named := ["math/bits.divideError", "math/bits.overflowError", "gouache/fixeds.lifts"], apart := false, laid := [("gouache/fixeds.lifts", laid_gouache_fixeds_lifts)] }
def PowersSquaresSaid : Prop := powersSquaresRow.holds Tryd.pinned (OpenSpec.ofChange powersSquaresSpec)

/-- ITS FALSE NEIGHBOUR: 'it returns false'. Refute it at one input. -/
def powersSquaresWrong : ChangeSpec := { name := "powersSquares", fn := fun _ => fun
  | [d1, d2] => { results := [.lit (.bool false)], args := [d1, d2] }
  | _ => none }
def PowersSquaresWrongFalsely : Prop := powersSquaresRow.holds Tryd.pinned (OpenSpec.ofChange powersSquaresWrong)

/- THE SECOND FORM. 'bulk': how many values and letters a reading holds, each counted each time it is reached (what is shared counts as often as it is met; a slice's spare places count too). A statement '..UptoSaid' is the law's where the arguments, and the package variables that the reading takes, are together of bulk at most 1048576: NARROWER than '..Said'. Prove '..Said' where nothing that the law and all that it calls make is longer than what came in: it says more and counts as full. Else prove '..UptoSaid'. A law counts once. -/
mutual
def uptoBulk {H : Type} : DataW H → Nat
  | .lit (.string bytes) => bytes.length + 1
  | .lit _ => 1
  | .nil => 1
  | .ptr d => uptoBulk d + 1
  | .slice elems spare => uptoBulkAll elems + uptoBulkAll spare + 1
  | .agg parts => uptoBulkAll parts + 1
  | .iface _ d => uptoBulk d + 1
  | .map entries => uptoBulkEntries entries + 1
  | .held _ => 1
def uptoBulkAll {H : Type} : List (DataW H) → Nat
  | [] => 0
  | d :: r => uptoBulk d + uptoBulkAll r
def uptoBulkEntries {H : Type} : List (Lit × DataW H) → Nat
  | [] => 0
  | x :: r => uptoBulkEntry x + uptoBulkEntries r
def uptoBulkEntry {H : Type} : Lit × DataW H → Nat
  | (.string bytes, d) => bytes.length + uptoBulk d + 1
  | (_, d) => uptoBulk d + 1
 end
def uptoSmall : (H : Type) → List (DataW H) → Bool := fun _ ds => decide (uptoBulkAll ds ≤ 1048576)
def OpenSpec.upto (s : _root_.Go.ChangeSpec) : _root_.Go.OpenSpec := { _root_.Go.OpenSpec.ofChange s with cond := some uptoSmall }

/-- 'gouachelaw04.PowersOf', WHERE WHAT IT READS IS OF BULK AT MOST 1048576: true; the input reads as it did. -/
def powersOfUptoRow : OpenClaim := { program := "ytbkifcfienhkaaadoor", sum := "56845e422e20a015c52466a5ef3fdbf9f5c121e25d305986b26e11d5f679142f", func := "gouache/gouachelaw04.PowersOf", spec := "powersOf", inPlace := ["math/bits.Sub64", "math/bits.Add64"], unfollowed := true, recurses := true, named := ["math/bits.divideError", "math/bits.overflowError", "gouache/fixeds.lifts"], apart := false, laid := [("gouache/fixeds.lifts", laid_gouache_fixeds_lifts)], narrowed := true }
def PowersOfUptoSaid : Prop := powersOfUptoRow.holds Tryd.pinned (OpenSpec.upto powersOfSpec)

/-- 'gouachelaw04.PowersWhole', WHERE WHAT IT READS IS OF BULK AT MOST 1048576: true; the input reads as it did. -/
def powersWholeUptoRow : OpenClaim := { program := "ytbkifcfienhkaaadoor", sum := "56845e422e20a015c52466a5ef3fdbf9f5c121e25d305986b26e11d5f679142f", func := "gouache/gouachelaw04.PowersWhole", spec := "powersWhole", inPlace := ["math/bits.Sub64", "math/bits.Add64"], unfollowed := true, recurses := true, named := ["math/bits.divideError", "math/bits.overflowError", "gouache/fixeds.lifts"], apart := false, laid := [("gouache/fixeds.lifts", laid_gouache_fixeds_lifts)], narrowed := true }
def PowersWholeUptoSaid : Prop := powersWholeUptoRow.holds Tryd.pinned (OpenSpec.upto powersWholeSpec)

/-- 'gouachelaw04.PowersBack', WHERE WHAT IT READS IS OF BULK AT MOST 1048576: true; the input reads as it did. -/
def powersBackUptoRow : OpenClaim := { program := "ytbkifcfienhkaaadoor", sum := "56845e422e20a015c52466a5ef3fdbf9f5c121e25d305986b26e11d5f679142f", func := "gouache/gouachelaw04.PowersBack", spec := "powersBack", inPlace := ["math/bits.Sub64", "math/bits.Add64"], unfollowed := true, recurses := true, named := ["math/bits.divideError", "math/bits.overflowError", "gouache/fixeds.lifts"], apart := false, laid := [("gouache/fixeds.lifts", laid_gouache_fixeds_lifts)], narrowed := true }
def PowersBackUptoSaid : Prop := powersBackUptoRow.holds Tryd.pinned (OpenSpec.upto powersBackSpec)

/-- 'gouachelaw04.PowersSums', WHERE WHAT IT READS IS OF BULK AT MOST 1048576: true; the input reads as it did. -/
def powersSumsUptoRow : OpenClaim := { program := "ytbkifcfienhkaaadoor", sum := "56845e422e20a015c52466a5ef3fdbf9f5c121e25d305986b26e11d5f679142f", func := "gouache/gouachelaw04.PowersSums", spec := "powersSums", inPlace := ["math/bits.Sub64", "math/bits.Add64"], unfollowed := true, recurses := true, named := ["math/bits.divideError", "math/bits.overflowError", "gouache/fixeds.lifts"], apart := false, laid := [("gouache/fixeds.lifts", laid_gouache_fixeds_lifts)], narrowed := true }
def PowersSumsUptoSaid : Prop := powersSumsUptoRow.holds Tryd.pinned (OpenSpec.upto powersSumsSpec)

/-- 'gouachelaw04.PowersRise', WHERE WHAT IT READS IS OF BULK AT MOST 1048576: true; the input reads as it did. -/
def powersRiseUptoRow : OpenClaim := { program := "ytbkifcfienhkaaadoor", sum := "56845e422e20a015c52466a5ef3fdbf9f5c121e25d305986b26e11d5f679142f", func := "gouache/gouachelaw04.PowersRise", spec := "powersRise", inPlace := ["math/bits.Sub64", "math/bits.Add64"], unfollowed := true, recurses := true, named := ["math/bits.divideError", "math/bits.overflowError", "gouache/fixeds.lifts"], apart := false, laid := [("gouache/fixeds.lifts", laid_gouache_fixeds_lifts)], narrowed := true }
def PowersRiseUptoSaid : Prop := powersRiseUptoRow.holds Tryd.pinned (OpenSpec.upto powersRiseSpec)

/-- 'gouachelaw04.PowersSquares', WHERE WHAT IT READS IS OF BULK AT MOST 1048576: true; the input reads as it did. -/
def powersSquaresUptoRow : OpenClaim := { program := "ytbkifcfienhkaaadoor", sum := "56845e422e20a015c52466a5ef3fdbf9f5c121e25d305986b26e11d5f679142f", func := "gouache/gouachelaw04.PowersSquares", spec := "powersSquares", inPlace := ["math/bits.Sub64", "math/bits.Add64"], unfollowed := true, recurses := true, named := ["math/bits.divideError", "math/bits.overflowError", "gouache/fixeds.lifts"], apart := false, laid := [("gouache/fixeds.lifts", laid_gouache_fixeds_lifts)], narrowed := true }
def PowersSquaresUptoSaid : Prop := powersSquaresUptoRow.holds Tryd.pinned (OpenSpec.upto powersSquaresSpec)

end Rows
end Go.Proofs.YtbkifcfienhkaaaDoor
