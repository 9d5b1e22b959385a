/- What math/bits.Mul64 does, called at any arguments; a number without its sign, and with one. -/
import Derived.Test.YthmgilikokcibaaWideA
import Derived.Lib.Mul64
namespace Go.Proofs.Ythmgilikokcibaa
open Go.RowKit Go.BigFrame
set_option linter.unusedSimpArgs false

/-- The lower 32 bits of a word; a word that is one does not wrap. -/
theorem low32 (a : Int) (h : InU64 a) : bits .and .u64 a 4294967295 = a % 4294967296 := by
  unfold InU64 at h
  obtain ⟨n, rfl⟩ := Int.eq_ofNat_of_zero_le h.1
  have e := bits_and_u64_nat n 4294967295 (by omega) (by omega)
  rw [show n &&& 4294967295 = n % 4294967296 from Nat.and_two_pow_sub_one_eq_mod n 32] at e
  rw [show (4294967295 : Int) = ((4294967295 : Nat) : Int) from rfl, e]
  omega
theorem wrap_in (a : Int) (h : InU64 a) : IntKind.u64.wrap a = a := by rw [u64_wrap]; unfold InU64 at h; omega
theorem split4 (x y : Int) (hx : InU64 x) (hy : InU64 y) : ∃ a b c d : Int, x / 4294967296 * (y / 4294967296) = a ∧ x / 4294967296 * (y % 4294967296) = b ∧ x % 4294967296 * (y / 4294967296) = c ∧ x % 4294967296 * (y % 4294967296) = d ∧
    x * y = a * 18446744073709551616 + (b + c) * 4294967296 + d ∧ (0 ≤ a ∧ a ≤ 18446744065119617025) ∧ (0 ≤ b ∧ b ≤ 18446744065119617025) ∧ (0 ≤ c ∧ c ≤ 18446744065119617025) ∧ (0 ≤ d ∧ d ≤ 18446744065119617025) := by
  unfold InU64 at *
  have bd : ∀ p q : Int, 0 ≤ p → p ≤ 4294967295 → 0 ≤ q → q ≤ 4294967295 → 0 ≤ p * q ∧ p * q ≤ 18446744065119617025 := fun p q h1 h2 h3 h4 =>
    ⟨Int.mul_nonneg h1 h3, Int.le_trans (Int.mul_le_mul h2 h4 h3 (by decide)) (by decide)⟩
  refine ⟨_, _, _, _, rfl, rfl, rfl, rfl, ?_, bd _ _ (by omega) (by omega) (by omega) (by omega), bd _ _ (by omega) (by omega) (by omega) (by omega), bd _ _ (by omega) (by omega) (by omega) (by omega), bd _ _ (by omega) (by omega) (by omega) (by omega)⟩
  have ex : x = x / 4294967296 * 4294967296 + x % 4294967296 := by omega
  have ey : y = y / 4294967296 * 4294967296 + y % 4294967296 := by omega
  generalize x / 4294967296 = x1 at *
  generalize x % 4294967296 = x0 at *
  generalize y / 4294967296 = y1 at *
  generalize y % 4294967296 = y0 at *
  subst ex ey
  simp only [Int.add_mul, Int.mul_add]
  have e1 : x1 * 4294967296 * (y1 * 4294967296) = x1 * y1 * 18446744073709551616 := by rw [Int.mul_assoc, ← Int.mul_assoc 4294967296, Int.mul_comm 4294967296 y1, Int.mul_assoc y1, ← Int.mul_assoc]; rfl
  have e2 : x1 * 4294967296 * y0 = x1 * y0 * 4294967296 := by rw [Int.mul_assoc, Int.mul_comm 4294967296, ← Int.mul_assoc]
  have e3 : x0 * (y1 * 4294967296) = x0 * y1 * 4294967296 := by rw [← Int.mul_assoc]
  rw [e1, e2, e3]
  omega
set_option maxHeartbeats 1000000 in
theorem mul64_any (x y : Int) (hx : InU64 x) (hy : InU64 y) (w : World) : Calls Try.prog 68 #[.int .u64 x, .int .u64 y] w fun e w' => e = .returned (.tuple #[.int .u64 (hi (x * y)), .int .u64 (lo (x * y))]) ∧ w' = w := by
  obtain ⟨a, b, c, d, ea, eb, ec, ed, e, ba, bb, bc, bd⟩ := split4 x y hx hy
  have hx0 := hx.1; have hx1 := hx.2; have hy0 := hy.1; have hy1 := hy.2
  have m1 := low32 x hx
  have m2 := low32 y hy
  have w1 : IntKind.u64.wrap d = d := wrap_in _ ⟨by omega, by omega⟩
  have w2 : IntKind.u64.wrap b = b := wrap_in _ ⟨by omega, by omega⟩
  have w3 : IntKind.u64.wrap (b + d / 4294967296) = b + d / 4294967296 := wrap_in _ ⟨by omega, by omega⟩
  have m3 := low32 (b + d / 4294967296) ⟨by omega, by omega⟩
  have w4 : IntKind.u64.wrap c = c := wrap_in _ ⟨by omega, by omega⟩
  have w5 : IntKind.u64.wrap ((b + d / 4294967296) % 4294967296 + c) = (b + d / 4294967296) % 4294967296 + c := wrap_in _ ⟨by omega, by omega⟩
  have w6 : IntKind.u64.wrap a = a := wrap_in _ ⟨by omega, by omega⟩
  have w7 : IntKind.u64.wrap (a + (b + d / 4294967296) / 4294967296) = a + (b + d / 4294967296) / 4294967296 := wrap_in _ ⟨by omega, by omega⟩
  have w8 : IntKind.u64.wrap (a + (b + d / 4294967296) / 4294967296 + ((b + d / 4294967296) % 4294967296 + c) / 4294967296) = a + (b + d / 4294967296) / 4294967296 + ((b + d / 4294967296) % 4294967296 + c) / 4294967296 := wrap_in _ ⟨by omega, by omega⟩
  have r1 : hi (x * y) = a + (b + d / 4294967296) / 4294967296 + ((b + d / 4294967296) % 4294967296 + c) / 4294967296 := by rw [e]; unfold hi; omega
  have r2 : lo (x * y) = IntKind.u64.wrap (x * y) := by rw [u64_wrap]; rfl
  rw [r1, r2]
  have H : Hid (x / 4294967296 * (y / 4294967296) = a ∧ x / 4294967296 * (y % 4294967296) = b ∧ x % 4294967296 * (y / 4294967296) = c ∧ x % 4294967296 * (y % 4294967296) = d ∧ IntKind.u64.wrap d = d ∧ IntKind.u64.wrap b = b ∧ IntKind.u64.wrap (b + d / 4294967296) = b + d / 4294967296 ∧ IntKind.u64.wrap c = c ∧ IntKind.u64.wrap ((b + d / 4294967296) % 4294967296 + c) = (b + d / 4294967296) % 4294967296 + c ∧ IntKind.u64.wrap a = a ∧ IntKind.u64.wrap (a + (b + d / 4294967296) / 4294967296) = a + (b + d / 4294967296) / 4294967296 ∧ IntKind.u64.wrap (a + (b + d / 4294967296) / 4294967296 + ((b + d / 4294967296) % 4294967296 + c) / 4294967296) = a + (b + d / 4294967296) / 4294967296 + ((b + d / 4294967296) % 4294967296 + c) / 4294967296) := ⟨ea, eb, ec, ed, w1, w2, w3, w4, w5, w6, w7, w8⟩
  have M : Hid (bits .and .u64 x 4294967295 = x % 4294967296 ∧ bits .and .u64 y 4294967295 = y % 4294967296 ∧ bits .and .u64 (b + d / 4294967296) 4294967295 = (b + d / 4294967296) % 4294967296) := ⟨m1, m2, m3⟩
  clear r1 r2 e ba bb bc bd ea eb ec ed w1 w2 w3 w4 w5 w6 w7 w8 m1 m2 m3
  go_enter Try.func68, Try.ntmps68
  go_wp2
  obtain ⟨ea, eb, ec, ed, w1, w2, w3, w4, w5, w6, w7, w8⟩ := H.out
  obtain ⟨m1, m2, m3⟩ := M.out
  simp only [m1, m2, ea, eb, ec, ed, w1, w2, w3, m3, w4, w5, w6, w7, w8]
  go_ret2
  exact ⟨rfl, rfl⟩

/-- A number without its sign. -/
def ab (x : Int) : Int := if x < 0 then -x else x
theorem ab_in {x : Int} (h : InW x) : InU (ab x) := by unfold ab InW InU at *; split <;> omega
theorem ab_neg {x : Int} (h : InW x) (hn : x < 0) : um (0 - um x) = ab x := by unfold ab um InW at *; rw [if_pos hn]; omega
theorem ab_pos {x : Int} (h : InW x) (hn : ¬ x < 0) : um x = ab x := by unfold ab um InW at *; rw [if_neg hn]; omega
/-- A number's sign put on. -/
def sg (neg : Bool) (m : Int) : Int := if neg then -m else m
end Go.Proofs.Ythmgilikokcibaa
