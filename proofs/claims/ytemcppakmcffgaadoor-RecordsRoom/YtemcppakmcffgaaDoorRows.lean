/-
  NARROWER THAN 'FOR EVERY INPUT', by the rows' own cells (each row's printed sentence says how): RecordsGet: laid · RecordsBack: laid · RecordsAgain: laid · RecordsEach: laid · RecordsRoom: laid.
  DERIVED. THE GIVEN ROWS OF THIS SEAT. 5 by the template 'for every input the law returns true; each argument reads behind the call as it read before'; 0 by the template 'total and deterministic' (their statements: YtemcppakmcffgaaDoorTotals.lean).
  GIVEN WITH THE SEED: the statements are not yours to turn. If you find one false, say at which input.
  Laid BY PROGRAM, IN A SANDBOX (cutbox-rows.mjs): the forced cells as the released guide's own fill.sh prints them over the translation 61a18f50448aff7a… (all of the seat's roots in one cut). By AI agents, Wed Nov 11 2026. No macro, syntax, notation, axiom, sorry.
-/
import Derived.Test.YtemcppakmcffgaaDoorChecked
import GoSem.Claim
import GoSem.ClaimJoined
import GoSem.ClaimMapViews
import Derived.JoinedTies
import Derived.KernelRfl
namespace Go.Proofs.YtemcppakmcffgaaDoor
/- THE CELL 'sum', in the pinned program and in every row, IS THE sha256 OF THE DUMP (.gsa) THAT YtemcppakmcffgaaDoorProg.lean LOADS. Nothing in Lean hashes anything: it is a label: what it is worth is what the hold of that sum in a sandbox is worth. -/
noncomputable def Tryd.pinned : Pinned := { name := "ytemcppakmcffgaadoor", sum := "61a18f50448aff7a75d280c795f5f1106b8d67d6f3b9d9109bbe535c9f5f1192", checked := Tryd.checked }
namespace Rows
def none {H : Type} : Left H := { results := [], args := [] }

/- WHAT THE LISTED PACKAGE-LEVEL VARIABLES READ AS WHEN THE CALL BEGINS. Each datum BY PROGRAM (the guide's laid-datum.mjs) off the statement by which the dump's own 'gosem.cut.vars' lays the variable. In a bare row this is a premise. The card (YtemcppakmcffgaaDoorCards.lean) ties it to the program's text. -/
def laid_gouache_layouts_usesOf {H : Type} : DataW H := .agg [.lit (.int .u8 0), .lit (.int .u8 3), .lit (.int .u8 7), .lit (.int .u8 0), .lit (.int .u8 7), .lit (.int .u8 0), .lit (.int .u8 0), .lit (.int .u8 0), .lit (.int .u8 7), .lit (.int .u8 0), .lit (.int .u8 0), .lit (.int .u8 0), .lit (.int .u8 3), .lit (.int .u8 0), .lit (.int .u8 0), .lit (.int .u8 0), .lit (.int .u8 3), .lit (.int .u8 0), .lit (.int .u8 0), .lit (.int .u8 0), .lit (.int .u8 0), .lit (.int .u8 0), .lit (.int .u8 0), .lit (.int .u8 0), .lit (.int .u8 1), .lit (.int .u8 0), .lit (.int .u8 0), .lit (.int .u8 0), .lit (.int .u8 0), .lit (.int .u8 0), .lit (.int .u8 0), .lit (.int .u8 0), .lit (.int .u8 1)]

/-- 'gouachelaw09.RecordsGet': WHATEVER THE INPUT: true; the input reads as it did. -/
def recordsGetSpec : ChangeSpec := { name := "recordsGet", fn := fun _ => fun
  | [d1, d2] => { results := [.lit (.bool true)], args := [d1, d2] }
  | _ => none }
def recordsGetRow : OpenClaim := { program := "ytemcppakmcffgaadoor", sum := "61a18f50448aff7a75d280c795f5f1106b8d67d6f3b9d9109bbe535c9f5f1192", func := "gouache/gouachelaw09.RecordsGet", spec := "recordsGet", unfollowed := true, recurses := true, named := ["gouache/layouts.usesOf"], apart := false, laid := [("gouache/layouts.usesOf", laid_gouache_layouts_usesOf)] }
def RecordsGetSaid : Prop := recordsGetRow.holds Tryd.pinned (OpenSpec.ofChange recordsGetSpec)

/-- ITS FALSE NEIGHBOUR: 'it returns false'. Refute it at one input. -/
def recordsGetWrong : ChangeSpec := { name := "recordsGet", fn := fun _ => fun
  | [d1, d2] => { results := [.lit (.bool false)], args := [d1, d2] }
  | _ => none }
def RecordsGetWrongFalsely : Prop := recordsGetRow.holds Tryd.pinned (OpenSpec.ofChange recordsGetWrong)

/-- 'gouachelaw09.RecordsBack': WHATEVER THE INPUT: true; the input reads as it did. -/
def recordsBackSpec : ChangeSpec := { name := "recordsBack", fn := fun _ => fun
  | [d1, d2] => { results := [.lit (.bool true)], args := [d1, d2] }
  | _ => none }
def recordsBackRow : OpenClaim := { program := "ytemcppakmcffgaadoor", sum := "61a18f50448aff7a75d280c795f5f1106b8d67d6f3b9d9109bbe535c9f5f1192", func := "gouache/gouachelaw09.RecordsBack", spec := "recordsBack", unfollowed := true, recurses := true, named := ["gouache/layouts.usesOf"], apart := false, laid := [("gouache/layouts.usesOf", laid_gouache_layouts_usesOf)] }
def RecordsBackSaid : Prop := recordsBackRow.holds Tryd.pinned (OpenSpec.ofChange recordsBackSpec)

/-- ITS FALSE NEIGHBOUR: 'it returns false'. Refute it at one input. -/
def recordsBackWrong : ChangeSpec := { name := "recordsBack", fn := fun _ => fun
  | [d1, d2] => { results := [.lit (.bool false)], args := [d1, d2] }
  | _ => none }
def RecordsBackWrongFalsely : Prop := recordsBackRow.holds Tryd.pinned (OpenSpec.ofChange recordsBackWrong)

/-- 'gouachelaw09.RecordsAgain': WHATEVER THE INPUT: true; the input reads as it did. -/
def recordsAgainSpec : ChangeSpec := { name := "recordsAgain", fn := fun _ => fun
  | [d1, d2] => { results := [.lit (.bool true)], args := [d1, d2] }
  | _ => none }
def recordsAgainRow : OpenClaim := { program := "ytemcppakmcffgaadoor", sum := "61a18f50448aff7a75d280c795f5f1106b8d67d6f3b9d9109bbe535c9f5f1192", func := "gouache/gouachelaw09.RecordsAgain", spec := "recordsAgain", unfollowed := true, recurses := true, named := ["gouache/layouts.usesOf"], apart := false, laid := [("gouache/layouts.usesOf", laid_gouache_layouts_usesOf)] }
def RecordsAgainSaid : Prop := recordsAgainRow.holds Tryd.pinned (OpenSpec.ofChange recordsAgainSpec)

/-- ITS FALSE NEIGHBOUR: 'it returns false'. Refute it at one input. -/
def recordsAgainWrong : ChangeSpec := { name := "recordsAgain", fn := fun _ => fun
  | [d1, d2] => { results := [.lit (.bool false)], args := [d1, d2] }
  | _ => none }
def RecordsAgainWrongFalsely : Prop := recordsAgainRow.holds Tryd.pinned (OpenSpec.ofChange recordsAgainWrong)

/-- 'gouachelaw09.RecordsEach': WHATEVER THE INPUT: true; the input reads as it did. -/
def recordsEachSpec : ChangeSpec := { name := "recordsEach", fn := fun _ => fun
  | [d1, d2] => { results := [.lit (.bool true)], args := [d1, d2] }
  | _ => none }
def recordsEachRow : OpenClaim := { program := "ytemcppakmcffgaadoor", sum := "61a18f50448aff7a75d280c795f5f1106b8d67d6f3b9d9109bbe535c9f5f1192", func := "gouache/gouachelaw09.RecordsEach", spec := "recordsEach", unfollowed := true, recurses := true, named := ["gouache/layouts.usesOf"], apart := false, laid := [("gouache/layouts.usesOf", laid_gouache_layouts_usesOf)] }
def RecordsEachSaid : Prop := recordsEachRow.holds Tryd.pinned (OpenSpec.ofChange recordsEachSpec)

/-- ITS FALSE NEIGHBOUR: 'it returns false'. Refute it at one input. -/
def recordsEachWrong : ChangeSpec := { name := "recordsEach", fn := fun _ => fun
  | [d1, d2] => { results := [.lit (.bool false)], args := [d1, d2] }
  | _ => none }
def RecordsEachWrongFalsely : Prop := recordsEachRow.holds Tryd.pinned (OpenSpec.ofChange recordsEachWrong)

/-- 'gouachelaw09.RecordsRoom': WHATEVER THE INPUT: true; the input reads as it did. -/
def recordsRoomSpec : ChangeSpec := { name := "recordsRoom", fn := fun _ => fun
  | [d1, d2, d3] => { results := [.lit (.bool true)], args := [d1, d2, d3] }
  | _ => none }
def recordsRoomRow : OpenClaim := { program := "ytemcppakmcffgaadoor", sum := "61a18f50448aff7a75d280c795f5f1106b8d67d6f3b9d9109bbe535c9f5f1192", func := "gouache/gouachelaw09.RecordsRoom", spec := "recordsRoom", unfollowed := true, recurses := true, named := ["gouache/layouts.usesOf"], apart := false, laid := [("gouache/layouts.usesOf", laid_gouache_layouts_usesOf)] }
def RecordsRoomSaid : Prop := recordsRoomRow.holds Tryd.pinned (OpenSpec.ofChange recordsRoomSpec)

/-- ITS FALSE NEIGHBOUR: 'it returns false'. Refute it at one input. -/
def recordsRoomWrong : ChangeSpec := { name := "recordsRoom", fn := fun _ => fun
  | [d1, d2, d3] => { results := [.lit (.bool false)], args := [d1, d2, d3] }
  | _ => none }
def RecordsRoomWrongFalsely : Prop := recordsRoomRow.holds Tryd.pinned (OpenSpec.ofChange recordsRoomWrong)

/- THE SECOND FORM. 'bulk': how many values and letters a reading holds, each counted each time it is reached (what is shared counts as often as it is met; a slice's spare places count too). A statement '..UptoSaid' is the law's where the arguments, and the package variables that the reading takes, are together of bulk at most 1048576: NARROWER than '..Said'. Prove '..Said' where nothing that the law and all that it calls make is longer than what came in: it says more and counts as full. Else prove '..UptoSaid'. A law counts once. -/
mutual
def uptoBulk {H : Type} : DataW H → Nat
  | .lit (.string bytes) => bytes.length + 1
  | .lit _ => 1
  | .nil => 1
  | .ptr d => uptoBulk d + 1
  | .slice elems spare => uptoBulkAll elems + uptoBulkAll spare + 1
  | .agg parts => uptoBulkAll parts + 1
  | .iface _ d => uptoBulk d + 1
  | .map entries => uptoBulkEntries entries + 1
  | .held _ => 1
def uptoBulkAll {H : Type} : List (DataW H) → Nat
  | [] => 0
  | d :: r => uptoBulk d + uptoBulkAll r
def uptoBulkEntries {H : Type} : List (Lit × DataW H) → Nat
  | [] => 0
  | x :: r => uptoBulkEntry x + uptoBulkEntries r
def uptoBulkEntry {H : Type} : Lit × DataW H → Nat
  | (.string bytes, d) => bytes.length + uptoBulk d + 1
  | (_, d) => uptoBulk d + 1
 end
def uptoSmall : (H : Type) → List (DataW H) → Bool := fun _ ds => decide (uptoBulkAll ds ≤ 1048576)
def OpenSpec.upto (s : _root_.Go.ChangeSpec) : _root_.Go.OpenSpec := { _root_.Go.OpenSpec.ofChange s with cond := some uptoSmall }

/-- 'gouachelaw09.RecordsGet', WHERE WHAT IT READS IS OF BULK AT MOST 1048576: true; the input reads as it did. -/
def recordsGetUptoRow : OpenClaim := { program := "ytemcppakmcffgaadoor", sum := "61a18f50448aff7a75d280c795f5f1106b8d67d6f3b9d9109bbe535c9f5f1192", func := "gouache/gouachelaw09.RecordsGet", spec := "recordsGet", unfollowed := true, recurses := true, named := ["gouache/layouts.usesOf"], apart := false, laid := [("gouache/layouts.usesOf", laid_gouache_layouts_usesOf)], narrowed := true }
def RecordsGetUptoSaid : Prop := recordsGetUptoRow.holds Tryd.pinned (OpenSpec.upto recordsGetSpec)

/-- 'gouachelaw09.RecordsBack', WHERE WHAT IT READS IS OF BULK AT MOST 1048576: true; the input reads as it did. -/
def recordsBackUptoRow : OpenClaim := { program := "ytemcppakmcffgaadoor", sum := "61a18f50448aff7a75d280c795f5f1106b8d67d6f3b9d9109bbe535c9f5f1192", func := "gouache/gouachelaw09.RecordsBack", spec := "recordsBack", unfollowed := true, recurses := true, named := ["gouache/layouts.usesOf"], apart := false, laid := [("gouache/layouts.usesOf", laid_gouache_layouts_usesOf)], narrowed := true }
def RecordsBackUptoSaid : Prop := recordsBackUptoRow.holds Tryd.pinned (OpenSpec.upto recordsBackSpec)

/-- 'gouachelaw09.RecordsAgain', WHERE WHAT IT READS IS OF BULK AT MOST 1048576: true; the input reads as it did. -/
def recordsAgainUptoRow : OpenClaim := { program := "ytemcppakmcffgaadoor", sum := "61a18f50448aff7a75d280c795f5f1106b8d67d6f3b9d9109bbe535c9f5f1192", func := "gouache/gouachelaw09.RecordsAgain", spec := "recordsAgain", unfollowed := true, recurses := true, named := ["gouache/layouts.usesOf"], apart := false, laid := [("gouache/layouts.usesOf", laid_gouache_layouts_usesOf)], narrowed := true }
def RecordsAgainUptoSaid : Prop := recordsAgainUptoRow.holds Tryd.pinned (OpenSpec.upto recordsAgainSpec)

/-- 'gouachelaw09.RecordsEach', WHERE WHAT IT READS IS OF BULK AT MOST 1048576: true; the input reads as it did. -/
def recordsEachUptoRow : OpenClaim := { program := "ytemcppakmcffgaadoor", sum := "61a18f50448aff7a75d280c795f5f1106b8d67d6f3b9d9109bbe535c9f5f1192", func := "gouache/gouachelaw09.RecordsEach", spec := "recordsEach", unfollowed := true, recurses := true, named := ["gouache/layouts.usesOf"], apart := false, laid := [("gouache/layouts.usesOf", laid_gouache_layouts_usesOf)], narrowed := true }
def RecordsEachUptoSaid : Prop := recordsEachUptoRow.holds Tryd.pinned (OpenSpec.upto recordsEachSpec)

/-- 'gouachelaw09.RecordsRoom', WHERE WHAT IT READS IS OF BULK AT MOST 1048576: true; the input reads as it did. -/
def recordsRoomUptoRow : OpenClaim := { program := "ytemcppakmcffgaadoor", sum := "61a18f50448aff7a75d280c795f5f1106b8d67d6f3b9d9109bbe535c9f5f1192", func := "gouache/gouachelaw09.RecordsRoom", spec := "recordsRoom", unfollowed := true, recurses := true, named := ["gouache/layouts.usesOf"], apart := false, laid := [("gouache/layouts.usesOf", laid_gouache_layouts_usesOf)], narrowed := true }
def RecordsRoomUptoSaid : Prop := recordsRoomUptoRow.holds Tryd.pinned (OpenSpec.upto recordsRoomSpec)

end Rows
end Go.Proofs.YtemcppakmcffgaaDoor
