/- The given function WidesFloors returns true at every wide and every number of 64 bits: both ways together. -/
import Derived.Test.YthcmfoflogpkkaaLawFloors
namespace Go.Proofs.Ythcmfoflogpkkaa
open Go.RowKit Go.BigFrame
set_option linter.unusedVariables false

theorem err_ok {z : Int} (h : err z = 0) : InW z := by
  apply Classical.byContradiction
  intro hn
  rw [(fit_no hn).2] at h
  cases h
theorem err_no {z : Int} (h : ¬ err z = 0) : ¬ InW z := fun hi => h (fit_of hi).2
set_option maxHeartbeats 1000000 in
theorem floors_walk (a d : Int) (ha : InW a) (hd : In64 d) (w : World) : Calls Try.prog 6 #[(.agg #[.int .i64 (hi (a)), .int .u64 (lo (a))]), .int .i64 d] w fun e w' => e = .returned (.bool true) ∧ Ext w w' := by
  by_cases h : d < 1
  · exact floors_arg a d h w
  have h1 : 1 ≤ d := by omega
  have r0 := Int.emod_nonneg a (show d ≠ 0 by omega)
  have r1 := Int.emod_lt_of_pos a (show 0 < d by omega)
  have k := Int.mul_ediv_add_emod a d
  rw [Int.mul_comm] at k
  obtain ⟨i1, i2⟩ := nr_in a d ha h1
  have F := fun w => floor_any a d ha h1 hd w
  have N := fun w => near_any a d ha h1 hd w
  have nd : nr a d = if d - a % d ≤ a % d then a / d + 1 else a / d := rfl
  generalize nr a d = NN at *
  generalize a / d = Q at *
  generalize a % d = R at *
  have hR : In64 R := by unfold In64 at *; omega
  have hRW : InW R := in64_W hR
  have far : ¬ err (Q * d) = 0 → InW (Q + 1) ∧ InW ((Q + 1) * d) ∧ (Q + 1) * d = a - R + d ∧ fit (Q * d) = 0 := fun hg => by
    have hn := err_no hg
    have e : (Q + 1) * d = a - R + d := by rw [Int.add_mul]; omega
    have hneg : Q < 0 := by
      rcases Int.lt_or_le Q 0 with h | h
      · exact h
      · exfalso
        have : 0 ≤ Q * d := Int.mul_nonneg h (by omega)
        apply hn
        unfold InW at *; omega
    refine ⟨?_, ?_, e, (fit_no hn).1⟩
    · unfold InW at *; omega
    · rw [e]; unfold InW In64 at *; omega
  have K : FK a d Q R NN (fit (Q + 1)) (fit (Q * d)) ((Q + 1) * d) (d - R) (err (Q + 1)) (err (Q * d)) := by
    refine ⟨F, N, fun w => of_any 1 ⟨by decide, by decide⟩ w, fun w => add_any Q 1 i1 ⟨by decide, by decide⟩ w, fun w => times_any Q d i1 hd w, fun hg w => ?_, fun hg w => ?_, fun hg w => ?_, fun hg w => ?_, fun w => of_any d hd w, fun hg w => ?_, fun w => of_any R hR w, r0, r1, h1, hd.2, fun hs => ?_, fun hs => ?_⟩
    · have hi := err_ok hg
      have := sub_any a (Q * d) ha hi w
      rw [show a - Q * d = R by omega, (fit_of hRW).1, (fit_of hRW).2] at this
      rw [(fit_of hi).1]
      exact this
    · obtain ⟨_, _, _, e⟩ := far hg
      have := sub_any a 0 ha ⟨by decide, by decide⟩ w
      rw [show a - 0 = a by omega, (fit_of ha).1, (fit_of ha).2] at this
      rw [e]
      exact this
    · obtain ⟨f1, f2, f3, _⟩ := far hg
      have := times_any (Q + 1) d f1 hd w
      rw [(fit_of f2).1, (fit_of f2).2] at this
      rw [(fit_of f1).1]
      exact this
    · obtain ⟨f1, f2, f3, _⟩ := far hg
      have hl : InW (d - R) := by unfold InW In64 at *; omega
      have := sub_any ((Q + 1) * d) a f2 ha w
      rw [show (Q + 1) * d - a = d - R by omega, (fit_of hl).1, (fit_of hl).2] at this
      exact this
    · have hl : InW (d - R) := by unfold InW In64 at *; omega
      have := sub_any d (d - R) (in64_W hd) hl w
      rw [show d - (d - R) = R by omega, (fit_of hRW).1, (fit_of hRW).2] at this
      exact this
    · rw [nd, if_neg (by omega)]
    · rw [nd, if_pos hs, (fit_of (i2 hs)).1, (fit_of (i2 hs)).2]; exact ⟨rfl, rfl⟩
  by_cases hg : err (Q * d) = 0
  · exact floors_near w K hg
  · exact floors_far w K hg
end Go.Proofs.Ythcmfoflogpkkaa
