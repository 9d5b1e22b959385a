/- Arguments of the laws on angles, opened: fixes, numbers of 32 and of 8 bits. -/
import Derived.Test.YthfgeopldbcniabRows
import Derived.Test.YthfgeopldbcniabExt
import Derived.ProofKit
import Derived.OpenShut
import Derived.Lib.SmallJoins
namespace Go.Proofs.Ythfgeopldbcniab
open Go.ChangeShapes Go.WideShapes Go.ChangeAt Go.RowKit Go.Joins
set_option linter.unusedVariables false
theorem own : ownKnob Try.prog.godebug = none := by kernel_rfl
theorem laidOut : laidOutB Try.prog = true := by kernel_rfl
section
variable {H : Type} {enc : TypeId × Value → H} {w : World} {base : Nat} {spare : Nat → Bool} {held : Bool}
/-- An argument without memory reads behind the call as before. -/
theorem again {t : TypeId} {W W' : World} {v : Value} {d : DataW H} (hr : Try.prog.readableRec t = true) (hrow : t < Try.prog.types.size) (h : DataW.Trod enc Try.prog W 0 (fun _ => true) true t v d []) (hb : Ext W W') :
    DataW.Trod enc Try.prog W' 0 (fun b => decide (b < W.heap.size)) true t v d [] := Below.trod laidOut hr hrow h hb (by simp)
set_option maxRecDepth 20000 in
theorem open_fix {r : Reach} {b0 : Nat} {v : Value} {d : DataW H} {p : List MemPlace} (hv : Value.okWide Try.prog w r b0 22 v) (h : DataW.Trod enc Try.prog w base spare held 22 v d p) :
    ∃ n : Int, (-2147483648 ≤ n ∧ n ≤ 2147483647) ∧ v = .int .i32 n ∧ p = [] := by
  obtain ⟨n, rfl, rfl, rfl, wn⟩ := open_int Try.underlying22 hv h
  have := bounds_i32 wn
  exact ⟨n, ⟨by omega, by omega⟩, rfl, rfl⟩
set_option maxRecDepth 20000 in
theorem open_u8 {r : Reach} {b0 : Nat} {v : Value} {d : DataW H} {p : List MemPlace} (hv : Value.okWide Try.prog w r b0 5 v) (h : DataW.Trod enc Try.prog w base spare held 5 v d p) :
    ∃ n : Int, (0 ≤ n ∧ n ≤ 255) ∧ v = .int .u8 n ∧ p = [] := by
  obtain ⟨n, rfl, rfl, rfl, wn⟩ := open_int Try.underlying5 hv h
  have := bounds_u8 wn
  exact ⟨n, ⟨by omega, by omega⟩, rfl, rfl⟩
end
end Go.Proofs.Ythfgeopldbcniab
