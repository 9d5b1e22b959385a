/-
  NARROWER THAN 'FOR EVERY INPUT', by the rows' own cells (each row's printed sentence says how): FixedsSigns: laid · FixedsRises: laid.
  DERIVED. THE GIVEN ROWS OF THIS SEAT. 2 by the template 'for every input the law returns true; each argument reads behind the call as it read before'; 0 by the template 'total and deterministic' (their statements: YtibfeaafmcphjabDoorTotals.lean).
  GIVEN WITH THE SEED: the statements are not yours to turn. If you find one false, say at which input.
  Laid BY PROGRAM, IN A SANDBOX (cutbox-rows.mjs): the forced cells as the released guide's own fill.sh prints them over the translation 25cce349278484c0… (all of the seat's roots in one cut). By AI agents, Wed Nov 11 2026. No macro, syntax, notation, axiom, sorry.
-/
import Derived.Test.YtibfeaafmcphjabDoorChecked
import GoSem.Claim
import GoSem.ClaimJoined
import GoSem.ClaimMapViews
import Derived.JoinedTies
import Derived.KernelRfl
namespace Go.Proofs.YtibfeaafmcphjabDoor
/- THE CELL 'sum', in the pinned program and in every row, IS THE sha256 OF THE DUMP (.gsa) THAT YtibfeaafmcphjabDoorProg.lean LOADS. Nothing in Lean hashes anything: it is a label: what it is worth is what the hold of that sum in a sandbox is worth. -/
noncomputable def Tryd.pinned : Pinned := { name := "ytibfeaafmcphjabdoor", sum := "25cce349278484c0684dd1382a1ec45e131201407fceee03662171a49165f456", checked := Tryd.checked }
namespace Rows
def none {H : Type} : Left H := { results := [], args := [] }

/- WHAT THE LISTED PACKAGE-LEVEL VARIABLES READ AS WHEN THE CALL BEGINS. Each datum BY PROGRAM (the guide's laid-datum.mjs) off the statement by which the dump's own 'gosem.cut.vars' lays the variable. In a bare row this is a premise. The card (YtibfeaafmcphjabDoorCards.lean) ties it to the program's text. -/
def laid_gouache_fixeds_lifts {H : Type} : DataW H := .agg [.agg [.lit (.int .i64 0), .lit (.int .i64 0)], .agg [.lit (.int .i64 65535), .lit (.int .i64 65535)], .agg [.lit (.int .i64 32768), .lit (.int .i64 32768)], .agg [.lit (.int .i64 65535), .lit (.int .i64 0)]]

/-- 'gouachelaw02.FixedsSigns': WHATEVER THE INPUT: true; the input reads as it did. -/
def fixedsSignsSpec : ChangeSpec := { name := "fixedsSigns", fn := fun _ => fun
  | [d1, d2, d3] => { results := [.lit (.bool true)], args := [d1, d2, d3] }
  | _ => none }
def fixedsSignsRow : OpenClaim := { program := "ytibfeaafmcphjabdoor", sum := "25cce349278484c0684dd1382a1ec45e131201407fceee03662171a49165f456", func := "gouache/gouachelaw02.FixedsSigns", spec := "fixedsSigns", inPlace := ["math/bits.Sub64", "math/bits.Add64"], unfollowed := true, recurses := true, named := ["math/bits.divideError", "math/bits.overflowError", "gouache/fixeds.lifts"], apart := false, laid := [("gouache/fixeds.lifts", laid_gouache_fixeds_lifts)] }
def FixedsSignsSaid : Prop := fixedsSignsRow.holds Tryd.pinned (OpenSpec.ofChange fixedsSignsSpec)

/-- ITS FALSE NEIGHBOUR: 'it returns false'. Refute it at one input. -/
def fixedsSignsWrong : ChangeSpec := { name := "fixedsSigns", fn := fun _ => fun
  | [d1, d2, d3] => { results := [.lit (.bool false)], args := [d1, d2, d3] }
  | _ => none }
def FixedsSignsWrongFalsely : Prop := fixedsSignsRow.holds Tryd.pinned (OpenSpec.ofChange fixedsSignsWrong)

/-- 'gouachelaw02.FixedsRises': WHATEVER THE INPUT: true; the input reads as it did. -/
def fixedsRisesSpec : ChangeSpec := { name := "fixedsRises", fn := fun _ => fun
  | [d] => { results := [.lit (.bool true)], args := [d] }
  | _ => none }
def fixedsRisesRow : OpenClaim := { program := "ytibfeaafmcphjabdoor", sum := "25cce349278484c0684dd1382a1ec45e131201407fceee03662171a49165f456", func := "gouache/gouachelaw02.FixedsRises", spec := "fixedsRises", inPlace := ["math/bits.Sub64", "math/bits.Add64"], unfollowed := true, recurses := true, named := ["gouache/fixeds.lifts", "math/bits.divideError", "math/bits.overflowError"], apart := false, laid := [("gouache/fixeds.lifts", laid_gouache_fixeds_lifts)] }
def FixedsRisesSaid : Prop := fixedsRisesRow.holds Tryd.pinned (OpenSpec.ofChange fixedsRisesSpec)

/-- ITS FALSE NEIGHBOUR: 'it returns false'. Refute it at one input. -/
def fixedsRisesWrong : ChangeSpec := { name := "fixedsRises", fn := fun _ => fun
  | [d] => { results := [.lit (.bool false)], args := [d] }
  | _ => none }
def FixedsRisesWrongFalsely : Prop := fixedsRisesRow.holds Tryd.pinned (OpenSpec.ofChange fixedsRisesWrong)

/- THE SECOND FORM. 'bulk': how many values and letters a reading holds, each counted each time it is reached (what is shared counts as often as it is met; a slice's spare places count too). A statement '..UptoSaid' is the law's where the arguments, and the package variables that the reading takes, are together of bulk at most 1048576: NARROWER than '..Said'. Prove '..Said' where nothing that the law and all that it calls make is longer than what came in: it says more and counts as full. Else prove '..UptoSaid'. A law counts once. -/
mutual
def uptoBulk {H : Type} : DataW H → Nat
  | .lit (.string bytes) => bytes.length + 1
  | .lit _ => 1
  | .nil => 1
  | .ptr d => uptoBulk d + 1
  | .slice elems spare => uptoBulkAll elems + uptoBulkAll spare + 1
  | .agg parts => uptoBulkAll parts + 1
  | .iface _ d => uptoBulk d + 1
  | .map entries => uptoBulkEntries entries + 1
  | .held _ => 1
def uptoBulkAll {H : Type} : List (DataW H) → Nat
  | [] => 0
  | d :: r => uptoBulk d + uptoBulkAll r
def uptoBulkEntries {H : Type} : List (Lit × DataW H) → Nat
  | [] => 0
  | x :: r => uptoBulkEntry x + uptoBulkEntries r
def uptoBulkEntry {H : Type} : Lit × DataW H → Nat
  | (.string bytes, d) => bytes.length + uptoBulk d + 1
  | (_, d) => uptoBulk d + 1
 end
def uptoSmall : (H : Type) → List (DataW H) → Bool := fun _ ds => decide (uptoBulkAll ds ≤ 1048576)
def OpenSpec.upto (s : _root_.Go.ChangeSpec) : _root_.Go.OpenSpec := { _root_.Go.OpenSpec.ofChange s with cond := some uptoSmall }

/-- 'gouachelaw02.FixedsSigns', WHERE WHAT IT READS IS OF BULK AT MOST 1048576: true; the input reads as it did. -/
def fixedsSignsUptoRow : OpenClaim := { program := "ytibfeaafmcphjabdoor", sum := "25cce349278484c0684dd1382a1ec45e131201407fceee03662171a49165f456", func := "gouache/gouachelaw02.FixedsSigns", spec := "fixedsSigns", inPlace := ["math/bits.Sub64", "math/bits.Add64"], unfollowed := true, recurses := true, named := ["math/bits.divideError", "math/bits.overflowError", "gouache/fixeds.lifts"], apart := false, laid := [("gouache/fixeds.lifts", laid_gouache_fixeds_lifts)], narrowed := true }
def FixedsSignsUptoSaid : Prop := fixedsSignsUptoRow.holds Tryd.pinned (OpenSpec.upto fixedsSignsSpec)

/-- 'gouachelaw02.FixedsRises', WHERE WHAT IT READS IS OF BULK AT MOST 1048576: true; the input reads as it did. -/
def fixedsRisesUptoRow : OpenClaim := { program := "ytibfeaafmcphjabdoor", sum := "25cce349278484c0684dd1382a1ec45e131201407fceee03662171a49165f456", func := "gouache/gouachelaw02.FixedsRises", spec := "fixedsRises", inPlace := ["math/bits.Sub64", "math/bits.Add64"], unfollowed := true, recurses := true, named := ["gouache/fixeds.lifts", "math/bits.divideError", "math/bits.overflowError"], apart := false, laid := [("gouache/fixeds.lifts", laid_gouache_fixeds_lifts)], narrowed := true }
def FixedsRisesUptoSaid : Prop := fixedsRisesUptoRow.holds Tryd.pinned (OpenSpec.upto fixedsRisesSpec)

end Rows
end Go.Proofs.YtibfeaafmcphjabDoor
