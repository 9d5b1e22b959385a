/- Arguments of the laws on roots, opened: numbers of 64 and of 32 bits without a sign, and fixes. -/
import Derived.Test.YtcknfangjodoiaaFrame
namespace Go.Proofs.Ytcknfangjodoiaa
open Go.ChangeShapes Go.WideShapes Go.ChangeAt Go.RowKit Go.Joins
set_option linter.unusedVariables false
section
variable {H : Type} {enc : TypeId × Value → H} {w : World} {base : Nat} {spare : Nat → Bool} {held : Bool}
theorem open_u64 {r : Reach} {b0 : Nat} {v : Value} {d : DataW H} {p : List MemPlace} (hv : Value.okWide Try.prog w r b0 22 v) (h : DataW.Trod enc Try.prog w base spare held 22 v d p) :
    ∃ n, InU64 n ∧ v = .int .u64 n ∧ p = [] := by
  obtain ⟨n, rfl, rfl, rfl, wn⟩ := open_int Try.underlying22 hv h
  have := bounds_u64 wn
  exact ⟨n, ⟨by omega, by omega⟩, rfl, rfl⟩
theorem open_u32 {r : Reach} {b0 : Nat} {v : Value} {d : DataW H} {p : List MemPlace} (hv : Value.okWide Try.prog w r b0 38 v) (h : DataW.Trod enc Try.prog w base spare held 38 v d p) :
    ∃ n : Int, (0 ≤ n ∧ n ≤ 4294967295) ∧ v = .int .u32 n ∧ p = [] := by
  obtain ⟨n, rfl, rfl, rfl, wn⟩ := open_int Try.underlying38 hv h
  have := bounds_u32 wn
  exact ⟨n, ⟨by omega, by omega⟩, rfl, rfl⟩
theorem open_fix {r : Reach} {b0 : Nat} {v : Value} {d : DataW H} {p : List MemPlace} (hv : Value.okWide Try.prog w r b0 25 v) (h : DataW.Trod enc Try.prog w base spare held 25 v d p) :
    ∃ n : Int, (-2147483648 ≤ n ∧ n ≤ 2147483647) ∧ v = .int .i32 n ∧ p = [] := by
  obtain ⟨n, rfl, rfl, rfl, wn⟩ := open_int Try.underlying25 hv h
  have := bounds_i32 wn
  exact ⟨n, ⟨by omega, by omega⟩, rfl, rfl⟩
end
end Go.Proofs.Ytcknfangjodoiaa
