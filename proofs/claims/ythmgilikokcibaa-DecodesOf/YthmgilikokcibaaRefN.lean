/- What the given function gouacheref01.Floor does, called at any wide number and any number of 64 bits from 1 on. -/
import Derived.Test.YthmgilikokcibaaRefM
namespace Go.Proofs.Ythmgilikokcibaa
open Go.RowKit Go.BigFrame
theorem tell_W (s : Bool) (X y : Int) (hX : InD X) (he : sg s X = y) (hy : InW y) (w : World) : Calls Try.prog 27 #[(.agg #[.bool (s), .int .i64 (dg (X) 0), .int .i64 (dg (X) 1), .int .i64 (dg (X) 2), .int .i64 (dg (X) 3), .int .i64 (dg (X) 4), .int .i64 (dg (X) 5), .int .i64 (dg (X) 6), .int .i64 (dg (X) 7), .int .i64 (dg (X) 8), .int .i64 (dg (X) 9), .int .i64 (dg (X) 10), .int .i64 (dg (X) 11)])] w fun e w' => e = .returned (.tuple #[(.agg #[.int .i64 (hi (y)), .int .u64 (lo (y))]), .int .i64 0]) ∧ Ext w w' := by
  have t := tell_any s X hX w
  rw [he, (fit_of hy).1, (fit_of hy).2] at t
  exact t
theorem small_pos (d : Int) (hd : 0 ≤ d) (hd' : In64 d) (w : World) : Calls Try.prog 31 #[.int .i64 d] w fun e w' => e = .returned (.agg #[.bool (false), .int .i64 (dg (d) 0), .int .i64 (dg (d) 1), .int .i64 (dg (d) 2), .int .i64 (dg (d) 3), .int .i64 (dg (d) 4), .int .i64 (dg (d) 5), .int .i64 (dg (d) 6), .int .i64 (dg (d) 7), .int .i64 (dg (d) 8), .int .i64 (dg (d) 9), .int .i64 (dg (d) 10), .int .i64 (dg (d) 11)]) ∧ Ext w w' := by
  have t := small_any d hd' w
  rw [show decide (d < 0) = false by simp; omega, show ab d = d by unfold ab; rw [if_neg (by omega)]] at t
  exact t
theorem div_inD {X d : Int} (h : InD X) (hd : 1 ≤ d) : InD (X / d) ∧ InD (X % d) ∧ X % d < d ∧ 0 ≤ X % d ∧ X / d ≤ X := by
  have a0 := Int.ediv_nonneg h.1 (show 0 ≤ d by omega)
  have a1 := Int.ediv_le_self d h.1
  have a2 := Int.emod_nonneg X (show d ≠ 0 by omega)
  have a3 := Int.emod_lt_of_pos X (show 0 < d by omega)
  have a4 := Int.mul_ediv_add_emod X d
  have a5 : X / d ≤ d * (X / d) := by
    have := Int.mul_le_mul_of_nonneg_right hd a0
    omega
  have := h.2
  exact ⟨⟨a0, by omega⟩, ⟨a2, by omega⟩, a3, a2, by omega⟩
end Go.Proofs.Ythmgilikokcibaa
