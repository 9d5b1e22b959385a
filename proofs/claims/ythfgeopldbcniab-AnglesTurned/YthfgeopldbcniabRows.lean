/-
  No cell of these rows narrows 'for every input' (looked for: loops, veiled, ifaces, maps, wideKeys, modest, calm, conditions, laid).
  DERIVED. THE GIVEN ROWS OF THIS SEAT. 2 by the template 'for every input the law returns true; each argument reads behind the call as it read before'; 0 by the template 'total and deterministic' (their statements: YthfgeopldbcniabTotals.lean).
  GIVEN WITH THE SEED: the statements are not yours to turn. If you find one false, say at which input.
  Laid BY PROGRAM, IN A SANDBOX (cutbox-rows.mjs): the forced cells as the released guide's own fill.sh prints them over the translation a0d38d977eed2125… (all of the seat's roots in one cut). By AI agents, Wed Nov 11 2026. No macro, syntax, notation, axiom, sorry.
-/
import Derived.Test.YthfgeopldbcniabChecked
import GoSem.Claim
import GoSem.ClaimJoined
import GoSem.ClaimMapViews
import Derived.JoinedTies
import Derived.KernelRfl
namespace Go.Proofs.Ythfgeopldbcniab
/- THE CELL 'sum', in the pinned program and in every row, IS THE sha256 OF THE DUMP (.gsa) THAT YthfgeopldbcniabProg.lean LOADS. Nothing in Lean hashes anything: it is a label: what it is worth is what the hold of that sum in a sandbox is worth. -/
noncomputable def Try.pinned : Pinned := { name := "ythfgeopldbcniab", sum := "a0d38d977eed2125a1b9ac923b52682281f5c2f9427f5bf0f5994b872ae38800", checked := Try.checked }
namespace Rows
def none {H : Type} : Left H := { results := [], args := [] }

/-- 'gouachelaw05.AnglesTurned': WHATEVER THE INPUT: true; the input reads as it did. -/
def anglesTurnedSpec : ChangeSpec := { name := "anglesTurned", fn := fun _ => fun
  | [d1, d2, d3] => { results := [.lit (.bool true)], args := [d1, d2, d3] }
  | _ => none }
def anglesTurnedRow : OpenClaim := { program := "ythfgeopldbcniab", sum := "a0d38d977eed2125a1b9ac923b52682281f5c2f9427f5bf0f5994b872ae38800", func := "gouache/gouachelaw05.AnglesTurned", spec := "anglesTurned", inPlace := ["math/bits.Sub64", "math/bits.Add64"], unfollowed := true, recurses := true, named := ["math/bits.divideError", "math/bits.overflowError"], apart := false }
def AnglesTurnedSaid : Prop := anglesTurnedRow.holds Try.pinned (OpenSpec.ofChange anglesTurnedSpec)

/-- ITS FALSE NEIGHBOUR: 'it returns false'. Refute it at one input. -/
def anglesTurnedWrong : ChangeSpec := { name := "anglesTurned", fn := fun _ => fun
  | [d1, d2, d3] => { results := [.lit (.bool false)], args := [d1, d2, d3] }
  | _ => none }
def AnglesTurnedWrongFalsely : Prop := anglesTurnedRow.holds Try.pinned (OpenSpec.ofChange anglesTurnedWrong)

/-- 'gouachelaw05.AnglesMirrored': WHATEVER THE INPUT: true; the input reads as it did. -/
def anglesMirroredSpec : ChangeSpec := { name := "anglesMirrored", fn := fun _ => fun
  | [d1, d2] => { results := [.lit (.bool true)], args := [d1, d2] }
  | _ => none }
def anglesMirroredRow : OpenClaim := { program := "ythfgeopldbcniab", sum := "a0d38d977eed2125a1b9ac923b52682281f5c2f9427f5bf0f5994b872ae38800", func := "gouache/gouachelaw05.AnglesMirrored", spec := "anglesMirrored", inPlace := ["math/bits.Sub64", "math/bits.Add64"], unfollowed := true, recurses := true, named := ["math/bits.divideError", "math/bits.overflowError"], apart := false }
def AnglesMirroredSaid : Prop := anglesMirroredRow.holds Try.pinned (OpenSpec.ofChange anglesMirroredSpec)

/-- ITS FALSE NEIGHBOUR: 'it returns false'. Refute it at one input. -/
def anglesMirroredWrong : ChangeSpec := { name := "anglesMirrored", fn := fun _ => fun
  | [d1, d2] => { results := [.lit (.bool false)], args := [d1, d2] }
  | _ => none }
def AnglesMirroredWrongFalsely : Prop := anglesMirroredRow.holds Try.pinned (OpenSpec.ofChange anglesMirroredWrong)

/- THE SECOND FORM. 'bulk': how many values and letters a reading holds, each counted each time it is reached (what is shared counts as often as it is met; a slice's spare places count too). A statement '..UptoSaid' is the law's where the arguments, and the package variables that the reading takes, are together of bulk at most 1048576: NARROWER than '..Said'. Prove '..Said' where nothing that the law and all that it calls make is longer than what came in: it says more and counts as full. Else prove '..UptoSaid'. A law counts once. -/
mutual
def uptoBulk {H : Type} : DataW H → Nat
  | .lit (.string bytes) => bytes.length + 1
  | .lit _ => 1
  | .nil => 1
  | .ptr d => uptoBulk d + 1
  | .slice elems spare => uptoBulkAll elems + uptoBulkAll spare + 1
  | .agg parts => uptoBulkAll parts + 1
  | .iface _ d => uptoBulk d + 1
  | .map entries => uptoBulkEntries entries + 1
  | .held _ => 1
def uptoBulkAll {H : Type} : List (DataW H) → Nat
  | [] => 0
  | d :: r => uptoBulk d + uptoBulkAll r
def uptoBulkEntries {H : Type} : List (Lit × DataW H) → Nat
  | [] => 0
  | x :: r => uptoBulkEntry x + uptoBulkEntries r
def uptoBulkEntry {H : Type} : Lit × DataW H → Nat
  | (.string bytes, d) => bytes.length + uptoBulk d + 1
  | (_, d) => uptoBulk d + 1
 end
def uptoSmall : (H : Type) → List (DataW H) → Bool := fun _ ds => decide (uptoBulkAll ds ≤ 1048576)
def OpenSpec.upto (s : _root_.Go.ChangeSpec) : _root_.Go.OpenSpec := { _root_.Go.OpenSpec.ofChange s with cond := some uptoSmall }

/-- 'gouachelaw05.AnglesTurned', WHERE WHAT IT READS IS OF BULK AT MOST 1048576: true; the input reads as it did. -/
def anglesTurnedUptoRow : OpenClaim := { program := "ythfgeopldbcniab", sum := "a0d38d977eed2125a1b9ac923b52682281f5c2f9427f5bf0f5994b872ae38800", func := "gouache/gouachelaw05.AnglesTurned", spec := "anglesTurned", inPlace := ["math/bits.Sub64", "math/bits.Add64"], unfollowed := true, recurses := true, named := ["math/bits.divideError", "math/bits.overflowError"], apart := false, narrowed := true }
def AnglesTurnedUptoSaid : Prop := anglesTurnedUptoRow.holds Try.pinned (OpenSpec.upto anglesTurnedSpec)

/-- 'gouachelaw05.AnglesMirrored', WHERE WHAT IT READS IS OF BULK AT MOST 1048576: true; the input reads as it did. -/
def anglesMirroredUptoRow : OpenClaim := { program := "ythfgeopldbcniab", sum := "a0d38d977eed2125a1b9ac923b52682281f5c2f9427f5bf0f5994b872ae38800", func := "gouache/gouachelaw05.AnglesMirrored", spec := "anglesMirrored", inPlace := ["math/bits.Sub64", "math/bits.Add64"], unfollowed := true, recurses := true, named := ["math/bits.divideError", "math/bits.overflowError"], apart := false, narrowed := true }
def AnglesMirroredUptoSaid : Prop := anglesMirroredUptoRow.holds Try.pinned (OpenSpec.upto anglesMirroredSpec)

end Rows
end Go.Proofs.Ythfgeopldbcniab
