/- Two bytes in an array, as an argument of a law, opened. -/
import Derived.Test.YtemcppakmcffgaaDoorFrameLay
namespace Go.Proofs.YtemcppakmcffgaaDoor
open Go.ChangeShapes Go.WideShapes Go.ChangeAt Go.RowKit Go.Joins
set_option linter.unusedVariables false
set_option maxRecDepth 20000
theorem flat_u2 : flat Tryd.prog 6 69 = some [some .u8, some .u8] := by kernel_rfl
section
variable {H : Type} {enc : TypeId × Value → H} {w : World} {base : Nat} {spare : Nat → Bool} {held : Bool}
theorem open_u2 {r : Reach} {b0 : Nat} {v : Value} {d : DataW H} {p : List MemPlace} (hv : Value.okWide Tryd.prog w r b0 69 v) (h : DataW.Trod enc Tryd.prog w base spare held 69 v d p) :
    ∃ m n : Int, (0 ≤ m ∧ m ≤ 255) ∧ (0 ≤ n ∧ n ≤ 255) ∧ v = .agg #[.int .u8 m, .int .u8 n] ∧ p = [] := by
  unfold Value.okWide at hv
  rw [Tryd.underlying69] at hv
  obtain ⟨cs, rfl, hsz, _⟩ := hv
  obtain ⟨fuel, hf⟩ := h
  obtain ⟨hk, hp⟩ := flat_cells 6 flat_u2 hf
  simp only [Kinds, OfKind] at hk
  obtain ⟨_, _, e0, ⟨m, rfl, w0⟩, _, _, rfl, ⟨n, rfl, w1⟩, rfl⟩ := hk
  have b0 := bounds_u8 w0
  have b1 := bounds_u8 w1
  refine ⟨m, n, ⟨by omega, by omega⟩, ⟨by omega, by omega⟩, ?_, hp⟩
  have e : cs = #[.int .u8 m, .int .u8 n] := by
    have e1 : cs.toList = _ := e0
    exact Array.ext' e1
  rw [e]
end
end Go.Proofs.YtemcppakmcffgaaDoor
