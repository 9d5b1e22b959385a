/- Arguments of the laws on angles, opened: fixes, numbers of 32 and of 8 bits. -/
import Derived.Test.YthfgeopldbcniaaRows
import Derived.Test.YthfgeopldbcniaaExt
import Derived.ProofKit
import Derived.OpenShut
import Derived.Lib.SmallJoins
namespace Go.Proofs.Ythfgeopldbcniaa
open Go.ChangeShapes Go.WideShapes Go.ChangeAt Go.RowKit Go.Joins
set_option linter.unusedVariables false
theorem own : ownKnob Try.prog.godebug = none := by kernel_rfl
theorem laidOut : laidOutB Try.prog = true := by kernel_rfl
section
variable {H : Type} {enc : TypeId × Value → H} {w : World} {base : Nat} {spare : Nat → Bool} {held : Bool}
/-- An argument without memory reads behind the call as before. -/
theorem again {t : TypeId} {W W' : World} {v : Value} {d : DataW H} (hr : Try.prog.readableRec t = true) (hrow : t < Try.prog.types.size) (h : DataW.Trod enc Try.prog W 0 (fun _ => true) true t v d []) (hb : Ext W W') :
    DataW.Trod enc Try.prog W' 0 (fun b => decide (b < W.heap.size)) true t v d [] := Below.trod laidOut hr hrow h hb (by simp)
set_option maxRecDepth 20000 in
theorem open_fix {r : Reach} {b0 : Nat} {v : Value} {d : DataW H} {p : List MemPlace} (hv : Value.okWide Try.prog w r b0 22 v) (h : DataW.Trod enc Try.prog w base spare held 22 v d p) :
    ∃ n : Int, (-2147483648 ≤ n ∧ n ≤ 2147483647) ∧ v = .int .i32 n ∧ p = [] := by
  obtain ⟨n, rfl, rfl, rfl, wn⟩ := open_int Try.underlying22 hv h
  have := bounds_i32 wn
  exact ⟨n, ⟨by omega, by omega⟩, rfl, rfl⟩
set_option maxRecDepth 20000 in
theorem open_u32 {r : Reach} {b0 : Nat} {v : Value} {d : DataW H} {p : List MemPlace} (hv : Value.okWide Try.prog w r b0 34 v) (h : DataW.Trod enc Try.prog w base spare held 34 v d p) :
    ∃ n : Int, (0 ≤ n ∧ n ≤ 4294967295) ∧ v = .int .u32 n ∧ p = [] := by
  obtain ⟨n, rfl, rfl, rfl, wn⟩ := open_int Try.underlying34 hv h
  have := bounds_u32 wn
  exact ⟨n, ⟨by omega, by omega⟩, rfl, rfl⟩
set_option maxRecDepth 20000 in
theorem open_i8 {r : Reach} {b0 : Nat} {v : Value} {d : DataW H} {p : List MemPlace} (hv : Value.okWide Try.prog w r b0 29 v) (h : DataW.Trod enc Try.prog w base spare held 29 v d p) :
    ∃ n : Int, (-128 ≤ n ∧ n ≤ 127) ∧ v = .int .i8 n ∧ p = [] := by
  obtain ⟨n, rfl, rfl, rfl, wn⟩ := open_int Try.underlying29 hv h
  have := bounds_i8 wn
  exact ⟨n, ⟨by omega, by omega⟩, rfl, rfl⟩
end
end Go.Proofs.Ythfgeopldbcniaa
