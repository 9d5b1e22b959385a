/- What wides.Near does, called at any arguments. -/
import Derived.Test.YthfgeopldbcniaaWideG
namespace Go.Proofs.Ythfgeopldbcniaa
open Go.RowKit Go.BigFrame
set_option linter.unusedSimpArgs false
set_option linter.unusedVariables false

/-- The nearest. -/
def nr (a d : Int) : Int := if d - a % d ≤ a % d then a / d + 1 else a / d
theorem nr_in (a d : Int) (ha : InW a) (hd : 1 ≤ d) : InW (a / d) ∧ (d - a % d ≤ a % d → InW (a / d + 1)) := by
  have k := Int.mul_ediv_add_emod a d
  have r0 := Int.emod_nonneg a (show d ≠ 0 by omega)
  have r1 := Int.emod_lt_of_pos a (show 0 < d by omega)
  generalize a / d = Q at *
  generalize a % d = R at *
  have key : InW Q := by
    rcases Int.lt_or_le Q 0 with h | h
    · have : d * Q ≤ Q := by
        have := Int.mul_le_mul_of_nonpos_right hd (show Q ≤ 0 by omega)
        omega
      have h2 : d * (Q + 1) ≤ Q + 1 := by
        have := Int.mul_le_mul_of_nonpos_right hd (show Q + 1 ≤ 0 by omega)
        omega
      rw [Int.mul_add] at h2
      unfold InW at *; omega
    · have : Q ≤ d * Q := by
        have := Int.mul_le_mul_of_nonneg_right hd h
        omega
      unfold InW at *; omega
  refine ⟨key, fun hh => ?_⟩
  have hd2 : 2 ≤ d := by omega
  rcases Int.lt_or_le Q 0 with h | h
  · unfold InW at *; omega
  · have : 2 * Q ≤ d * Q := Int.mul_le_mul_of_nonneg_right hd2 h
    unfold InW at *; omega

end Go.Proofs.Ythfgeopldbcniaa
