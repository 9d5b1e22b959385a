/- Three wides in an array, opened. -/
import Derived.Test.YthcmfoflogpkkaaFrame
namespace Go.Proofs.Ythcmfoflogpkkaa
open Go.ChangeShapes Go.WideShapes Go.ChangeAt Go.RowKit Go.Joins
set_option linter.unusedVariables false

theorem array6 {α : Type} {cs : Array α} (h : cs.size = 6) : ∃ c0 c1 c2 c3 c4 c5, cs = #[c0, c1, c2, c3, c4, c5] := by
  obtain ⟨l⟩ := cs
  match l, h with
  | [c0, c1, c2, c3, c4, c5], _ => exact ⟨c0, c1, c2, c3, c4, c5, rfl⟩
section
variable {H : Type} {enc : TypeId × Value → H} {w : World} {base : Nat} {spare : Nat → Bool} {held : Bool}
theorem open_three {r : Reach} {b0 : Nat} {v : Value} {d : DataW H} {p : List MemPlace} (hv : Value.okWide Try.prog w r b0 40 v) (h : DataW.Trod enc Try.prog w base spare held 40 v d p) :
    ∃ x0 x1 x2, InW x0 ∧ InW x1 ∧ InW x2 ∧ v = .agg #[.int .i64 (hi x0), .int .u64 (lo x0), .int .i64 (hi x1), .int .u64 (lo x1), .int .i64 (hi x2), .int .u64 (lo x2)] ∧ p = [] := by
  have hu : Try.prog.underlying 40 = some (.array 3 24) := Try.underlying40
  unfold Value.okWide at hv
  rw [hu] at hv
  obtain ⟨cs, rfl, hsz, _⟩ := hv
  obtain ⟨a0, a1, a2, a3, a4, a5, rfl⟩ := array6 (hsz.trans (by kernel_rfl))
  obtain ⟨fuel, hf⟩ := h
  obtain ⟨xs, m, _, hx, _, hlen, hel⟩ := DataW.trod_array hu hf
  have hc : Try.prog.cellsOf 24 = 2 := by kernel_rfl
  rw [hc] at hel
  match xs, hlen with
  | [y0, y1, y2], _ =>
    have e0 := hel 0 (by omega)
    have e1 := hel 1 (by omega)
    have e2 := hel 2 (by omega)
    simp [Value.cells] at e0 e1 e2
    obtain ⟨x0, i0, rfl, rfl, q0⟩ := wide_cells e0
    obtain ⟨x1, i1, rfl, rfl, q1⟩ := wide_cells e1
    obtain ⟨x2, i2, rfl, rfl, q2⟩ := wide_cells e2
    simp [q0, q1, q2] at hx
    exact ⟨x0, x1, x2, i0, i1, i2, rfl, hx.2⟩
end
end Go.Proofs.Ythcmfoflogpkkaa
