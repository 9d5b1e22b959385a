/- What the functions of package fixeds that round once do, called at any arguments: rounded, Mul, Ratio, Div. -/
import Derived.Test.YthmgilikokcibaaFixA
import Derived.Test.YthmgilikokcibaaWideH
namespace Go.Proofs.Ythmgilikokcibaa
open Go.RowKit Go.BigFrame
set_option linter.unusedSimpArgs false
set_option linter.unusedVariables false

/-- The nearest, whatever the sign of what is divided by. -/
def nrs (x d : Int) : Int := if d < 0 then nr (-x) (-d) else nr x d
theorem nr_W {a d : Int} (ha : InW a) (hd : 1 ≤ d) : InW (nr a d) := by
  have := nr_in a d ha hd
  unfold nr
  split
  · exact this.2 (by assumption)
  · exact this.1
theorem mul_small {a b : Int} (ha : In64 a) (hb : In64 b) : InW (a * b) ∧ InW (-(a * b)) := by
  have h := in64_mul ha hb
  refine ⟨h, ?_⟩
  have h1 : -(9223372036854775808 * 9223372036854775808) ≤ a * b ∧ a * b ≤ 9223372036854775808 * 9223372036854775808 := by
    have k := Int.natAbs_mul a b
    have ka : a.natAbs ≤ 9223372036854775808 := by unfold In64 at ha; omega
    have kb : b.natAbs ≤ 9223372036854775808 := by unfold In64 at hb; omega
    have := Nat.mul_le_mul ka kb
    omega
  unfold InW at *
  omega
/-- The nearest 65536th of the one by the other one, held; nothing where that is 0. -/
def rat (n d : Int) : Int := if d = 0 then 0 else held (nrs (n * 65536) d)
def rate (d : Int) : Int := if d = 0 then 12 else 0
theorem nr_twice (x d : Int) (hd : 0 < d) : nr (2 * x) (2 * d) = nr x d := by
  unfold nr
  rw [Int.mul_ediv_mul_of_pos _ _ (by decide), Int.mul_emod_mul_of_pos _ _ (by decide)]
  by_cases h : d - x % d ≤ x % d
  · rw [if_pos h, if_pos (by omega)]
  · rw [if_neg h, if_neg (by omega)]
end Go.Proofs.Ythmgilikokcibaa
