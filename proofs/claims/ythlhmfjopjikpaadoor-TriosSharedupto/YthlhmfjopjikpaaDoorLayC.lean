/- What the given reference of layouts does: Parts, Flag, Size. -/
import Derived.Test.YthlhmfjopjikpaaDoorLayB
namespace Go.Proofs.YthlhmfjopjikpaaDoor
open Go.RowKit Go.BigFrame
set_option linter.unusedSimpArgs false
set_option linter.unusedVariables false

theorem parts_bd {L : Lay} (h : mayl L = true) (u : Int) : 1 ≤ pts L u ∧ pts L u ≤ 16 ∧ 1 ≤ cols L u ∧ cols L u ≤ 4 ∧ 0 ≤ flg L ∧ flg L ≤ 8 ∧ 1 ≤ L.c ∧ L.c ≤ 32 ∧ 1 ≤ L.n * L.p ∧ L.n * L.p ≤ 64 := by
  obtain ⟨h1, h2, h3, h4, h5, h6, h7⟩ := mayl_is h
  have a1 : L.n * L.p ≤ 4 * 16 := Int.mul_le_mul h5 (by omega) (by omega) (by omega)
  have a2 : 1 * 1 ≤ L.n * L.p := Int.mul_le_mul h4 (by omega) (by omega) (by omega)
  refine ⟨?_, ?_, ?_, ?_, ?_, ?_, by omega, by omega, by omega, by omega⟩
  · unfold pts; (repeat' split) <;> omega
  · unfold pts; (repeat' split) <;> omega
  · unfold cols; (repeat' split) <;> omega
  · unfold cols; (repeat' split) <;> omega
  · unfold flg; split
    · omega
    · rename_i h; have := h7 h; omega
  · unfold flg; split
    · omega
    · rename_i h; have := h7 h; omega
theorem lbits_bd {L : Lay} (h : mayl L = true) (u : Int) : 3 ≤ lbits L u ∧ lbits L u ≤ 1288 := by
  obtain ⟨p1, p2, p3, p4, p5, p6, p7, p8, p9, p10⟩ := parts_bd h u
  unfold lbits
  have a1 : pts L u * (2 * L.c) ≤ 16 * 64 := Int.mul_le_mul p2 (by omega) (by omega) (by omega)
  have a2 : 1 * 2 ≤ pts L u * (2 * L.c) := Int.mul_le_mul p1 (by omega) (by omega) (by omega)
  have a3 : cols L u * (L.n * L.p) ≤ 4 * 64 := Int.mul_le_mul p4 p10 (by omega) (by omega)
  have a4 : 1 * 1 ≤ cols L u * (L.n * L.p) := Int.mul_le_mul p3 p9 (by omega) (by omega)
  omega
end Go.Proofs.YthlhmfjopjikpaaDoor
