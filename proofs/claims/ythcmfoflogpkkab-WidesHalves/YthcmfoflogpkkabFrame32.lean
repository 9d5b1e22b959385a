/- A number of 32 bits, opened. -/
import Derived.Test.YthcmfoflogpkkabFrame
import Derived.Test.YthcmfoflogpkkabLawHalves
namespace Go.Proofs.Ythcmfoflogpkkab
open Go.ChangeShapes Go.WideShapes Go.ChangeAt Go.RowKit Go.Joins
set_option linter.unusedVariables false
section
variable {H : Type} {enc : TypeId × Value → H} {w : World} {base : Nat} {spare : Nat → Bool} {held : Bool}
theorem open_i32 {r : Reach} {b0 : Nat} {v : Value} {d : DataW H} {p : List MemPlace} (hv : Value.okWide Try.prog w r b0 21 v) (h : DataW.Trod enc Try.prog w base spare held 21 v d p) :
    ∃ n, In32 n ∧ v = .int .i32 n ∧ p = [] := by
  obtain ⟨n, rfl, rfl, rfl, wn⟩ := open_int Try.underlying21 hv h
  exact ⟨n, bounds_i32 wn, rfl, rfl⟩
end
end Go.Proofs.Ythcmfoflogpkkab
