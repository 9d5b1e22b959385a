/- What the given function gouacheref01.Floor does, called at any wide number and any number of 64 bits from 1 on. -/
import Derived.Test.YthcmfoflogpkkaaRefM
namespace Go.Proofs.Ythcmfoflogpkkaa
open Go.RowKit Go.BigFrame
theorem tell_W (s : Bool) (X y : Int) (hX : InD X) (he : sg s X = y) (hy : InW y) (w : World) : Calls Try.prog 32 #[(.agg #[.bool (s), .int .i64 (dg (X) 0), .int .i64 (dg (X) 1), .int .i64 (dg (X) 2), .int .i64 (dg (X) 3), .int .i64 (dg (X) 4), .int .i64 (dg (X) 5), .int .i64 (dg (X) 6), .int .i64 (dg (X) 7), .int .i64 (dg (X) 8), .int .i64 (dg (X) 9), .int .i64 (dg (X) 10), .int .i64 (dg (X) 11)])] w fun e w' => e = .returned (.tuple #[(.agg #[.int .i64 (hi (y)), .int .u64 (lo (y))]), .int .i64 0]) ∧ Ext w w' := by
  have t := tell_any s X hX w
  rw [he, (fit_of hy).1, (fit_of hy).2] at t
  exact t
theorem small_pos (d : Int) (hd : 0 ≤ d) (hd' : In64 d) (w : World) : Calls Try.prog 44 #[.int .i64 d] w fun e w' => e = .returned (.agg #[.bool (false), .int .i64 (dg (d) 0), .int .i64 (dg (d) 1), .int .i64 (dg (d) 2), .int .i64 (dg (d) 3), .int .i64 (dg (d) 4), .int .i64 (dg (d) 5), .int .i64 (dg (d) 6), .int .i64 (dg (d) 7), .int .i64 (dg (d) 8), .int .i64 (dg (d) 9), .int .i64 (dg (d) 10), .int .i64 (dg (d) 11)]) ∧ Ext w w' := by
  have t := small_any d hd' w
  rw [show decide (d < 0) = false by simp; omega, show ab d = d by unfold ab; rw [if_neg (by omega)]] at t
  exact t
theorem div_inD {X d : Int} (h : InD X) (hd : 1 ≤ d) : InD (X / d) ∧ InD (X % d) ∧ X % d < d ∧ 0 ≤ X % d ∧ X / d ≤ X := by
  have a0 := Int.ediv_nonneg h.1 (show 0 ≤ d by omega)
  have a1 := Int.ediv_le_self d h.1
  have a2 := Int.emod_nonneg X (show d ≠ 0 by omega)
  have a3 := Int.emod_lt_of_pos X (show 0 < d by omega)
  have a4 := Int.mul_ediv_add_emod X d
  have a5 : X / d ≤ d * (X / d) := by
    have := Int.mul_le_mul_of_nonneg_right hd a0
    omega
  have := h.2
  exact ⟨⟨a0, by omega⟩, ⟨a2, by omega⟩, a3, a2, by omega⟩
theorem rfloor_any (a d : Int) (ha : InW a) (hd : 1 ≤ d) (hd' : In64 d) (w : World) : Calls Try.prog 24 #[(.agg #[.int .i64 (hi (a)), .int .u64 (lo (a))]), .int .i64 d] w fun e w' => e = .returned (.tuple #[(.agg #[.int .i64 (hi (a / d)), .int .u64 (lo (a / d))]), .int .i64 (a % d), .int .i64 0]) ∧ Ext w w' := by
  have hX := ab_inD ha
  have hl := ab_le ha
  have rd := fun w => read_any a ha w
  have sl := fun w => small_pos d (by omega) hd' w
  have hd2 := hd'.2
  have dv := fun w => divided_any (ab a) d hX (by omega) (by omega) w
  obtain ⟨i1, i2, i3, i4, i5⟩ := div_inD hX hd
  have m0 := Int.emod_nonneg a (show d ≠ 0 by omega)
  have m1 := Int.emod_lt_of_pos a (show 0 < d by omega)
  have mw : In64 (a % d) := ⟨by omega, by omega⟩
  by_cases hn : a < 0
  · rw [show decide (a < 0) = true by simp [hn]] at rd
    by_cases hr : ab a % d = 0
    · obtain ⟨e1, e2, e3, _⟩ := floor_neg0 a d ha hd hn hr
      exact floor_zero_walk a d (ab a) (ab a / d) (ab a % d) (a / d) (a % d) (by omega) rd sl dv (fun w => tell_W true _ _ i1 (by unfold sg; simpa using e1) e3 w) (fun w => tell_W false _ _ i2 (by unfold sg; simp; omega) (in64w mw) w)
        (by rw [isz_eq i2]; simp [hr]) (wrap_lo mw) w
    · obtain ⟨e1, e2, e3, _⟩ := floor_neg1 a d ha hd hn hr
      exact floor_neg_walk a d (ab a) (ab a / d) (ab a % d) (a / d) (a % d) (by omega) rd sl dv (fun w => tell_W true _ _ ⟨by have := i1.1; omega, by omega⟩ (by unfold sg; simpa using e1) e3 w) (fun w => tell_W false _ _ ⟨by omega, by omega⟩ (by unfold sg; simp; omega) (in64w mw) w)
        (by rw [isz_eq i2]; simp [hr]) (fun w => less_any d (ab a % d) i4 (by omega) ⟨by omega, by omega⟩ w) (wrap_lo mw) w
  · rw [show decide (a < 0) = false by simp [hn]] at rd
    obtain ⟨e1, e2, e3⟩ := floor_pos a d ha hd hd' hn
    exact floor_pos_walk a d (ab a) (ab a / d) (ab a % d) (a / d) (a % d) (by omega) rd sl dv (fun w => tell_W false _ _ i1 (by unfold sg; simpa using e1) e3 w) (fun w => tell_W false _ _ i2 (by unfold sg; simp; omega) (in64w mw) w) (wrap_lo mw) w
end Go.Proofs.Ythcmfoflogpkkaa
