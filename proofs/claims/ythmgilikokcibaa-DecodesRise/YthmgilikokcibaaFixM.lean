/- Plain arithmetic of what is nearest, held, and not above. -/
import Derived.Test.YthmgilikokcibaaFixB
namespace Go.Proofs.Ythmgilikokcibaa
open Go.RowKit Go.BigFrame
set_option linter.unusedSimpArgs false
set_option linter.unusedVariables false
theorem held_mono {x y : Int} (h : x ≤ y) : held x ≤ held y := by unfold held; split <;> split <;> (try split) <;> (try split) <;> omega
theorem nr_of {a d q : Int} (hd : 0 < d) (h1 : 2 * (d * q) ≤ 2 * a + d) (h2 : 2 * a + d < 2 * (d * q) + 2 * d) : nr a d = q := by
  have k := Int.mul_ediv_add_emod a d
  have r0 := Int.emod_nonneg a (show d ≠ 0 by omega)
  have r1 := Int.emod_lt_of_pos a hd
  unfold nr
  generalize a / d = Q at *
  generalize a % d = R at *
  have key : ∀ z : Int, d * z < d * q + d → -d < d * z - d * q → z = q := by
    intro z z1 z2
    have e1 : d * (z - q) < d * 1 := by rw [Int.mul_sub, Int.mul_one]; omega
    have e2 : d * (-1) < d * (z - q) := by rw [Int.mul_sub, Int.mul_neg, Int.mul_one]; omega
    have f1 := Int.lt_of_mul_lt_mul_left e1 (by omega)
    have f2 := Int.lt_of_mul_lt_mul_left e2 (by omega)
    omega
  split
  · exact key _ (by rw [Int.mul_add]; omega) (by rw [Int.mul_add]; omega)
  · exact key _ (by omega) (by omega)
theorem nr_is (a d : Int) (hd : 0 < d) : 2 * (d * nr a d) ≤ 2 * a + d ∧ 2 * a + d < 2 * (d * nr a d) + 2 * d := by
  have k := Int.mul_ediv_add_emod a d
  have r0 := Int.emod_nonneg a (show d ≠ 0 by omega)
  have r1 := Int.emod_lt_of_pos a hd
  unfold nr
  generalize a / d = Q at *
  generalize a % d = R at *
  split
  · rw [Int.mul_add]; omega
  · omega
theorem nr_mono {x y d : Int} (hd : 0 < d) (h : x ≤ y) : nr x d ≤ nr y d := by
  have hx := nr_is x d hd
  have hy := nr_is y d hd
  have e1 : d * nr x d < d * (nr y d + 1) := by rw [Int.mul_add]; omega
  have f1 := Int.lt_of_mul_lt_mul_left e1 (by omega)
  omega
theorem nr_scale (x d k : Int) (hd : 0 < d) (hk : 0 < k) : nr (k * x) (k * d) = nr x d := by
  have h := nr_is x d hd
  refine nr_of (Int.mul_pos hk hd) ?_ ?_
  · have := Int.mul_le_mul_of_nonneg_left h.1 (show 0 ≤ k by omega)
    rw [Int.mul_add, Int.mul_left_comm k 2 x, Int.mul_left_comm k 2 (d * nr x d), ← Int.mul_assoc k d] at this
    exact this
  · have := Int.mul_lt_mul_of_pos_left h.2 hk
    rw [Int.mul_add, Int.mul_add, Int.mul_left_comm k 2 x, Int.mul_left_comm k 2 (d * nr x d), Int.mul_left_comm k 2 d, ← Int.mul_assoc k d] at this
    exact this
theorem nr_exact (x d : Int) (hd : 0 < d) : nr (d * x) d = x := nr_of hd (by omega) (by omega)
theorem rat_mono {x y d : Int} (hd : 0 ≤ d) (h : x ≤ y) : rat x d ≤ rat y d := by
  unfold rat
  by_cases h0 : d = 0
  · rw [if_pos h0, if_pos h0]; exact Int.le_refl _
  · rw [if_neg h0, if_neg h0]
    unfold nrs
    rw [if_neg (by omega), if_neg (by omega)]
    exact held_mono (nr_mono (by omega) (by omega))
theorem rat_neg (a b : Int) : rat (-a) (-b) = rat a b := by
  unfold rat nrs
  by_cases h0 : b = 0
  · rw [if_pos h0, if_pos (by omega)]
  · rw [if_neg h0, if_neg (by omega)]
    by_cases h1 : b < 0
    · rw [if_neg (by omega), if_pos h1, Int.neg_mul]
    · rw [if_pos (by omega), if_neg h1, Int.neg_mul, Int.neg_neg, Int.neg_neg]
theorem rate_neg (b : Int) : rate (-b) = rate b := by unfold rate; by_cases h0 : b = 0 <;> simp [h0]
theorem rat_scale (k a b : Int) (hk : 0 < k) : rat (k * a) (k * b) = rat a b := by
  unfold rat nrs
  by_cases h0 : b = 0
  · rw [if_pos h0, if_pos (by rw [h0, Int.mul_zero])]
  · have hne : ¬ k * b = 0 := by intro h; rcases Int.mul_eq_zero.1 h with h | h <;> omega
    rw [if_neg h0, if_neg hne]
    by_cases h1 : b < 0
    · have h2 : k * b < 0 := Int.mul_neg_of_pos_of_neg hk h1
      rw [if_pos h1, if_pos h2, show -(k * a * 65536) = k * -(a * 65536) by rw [Int.mul_assoc, Int.mul_neg], show -(k * b) = k * -b by rw [Int.mul_neg], nr_scale _ _ _ (by omega) hk]
    · have h2 : ¬ k * b < 0 := by have := Int.mul_pos hk (show 0 < b by omega); omega
      rw [if_neg h1, if_neg h2, Int.mul_assoc, nr_scale _ _ _ (by omega) hk]
theorem rate_scale (k b : Int) (hk : 0 < k) : rate (k * b) = rate b := by
  unfold rate
  by_cases h0 : b = 0
  · rw [if_pos h0, if_pos (by rw [h0, Int.mul_zero])]
  · rw [if_neg h0, if_neg (by intro h; rcases Int.mul_eq_zero.1 h with h | h <;> omega)]
theorem nr_turn (x : Int) : nr (-x) 65536 = if x % 65536 = 32768 then - nr x 65536 + 1 else - nr x 65536 := by unfold nr; split <;> split <;> split <;> omega
/-- The lower sixteen bits. -/
theorem low16 (x : Int) : bits .and .i64 x 65535 = x % 65536 := by
  have h1 : (BitVec.ofInt 64 x).toNat = (x % 18446744073709551616).toNat := by rw [BitVec.toNat_ofInt]; rfl
  have h2 : (BitVec.ofInt 64 (65535 : Int)).toNat = 65535 := by decide
  show IntKind.i64.wrap ((BitVec.ofInt 64 x &&& BitVec.ofInt 64 (65535 : Int)).toNat : Int) = _
  rw [BitVec.toNat_and, h1, h2, show (x % 18446744073709551616).toNat &&& 65535 = (x % 18446744073709551616).toNat % 65536 from Nat.and_two_pow_sub_one_eq_mod _ 16]
  have h3 : ((((x % 18446744073709551616).toNat % 65536 : Nat)) : Int) = x % 65536 := by omega
  rw [h3]
  simp [IntKind.wrap, IntKind.signed, IntKind.bits]
  omega
end Go.Proofs.Ythmgilikokcibaa
