/- Roots, floored: plain arithmetic that names no program. -/
import Derived.Test.YthfgeopldbcniaaExt
import Derived.Laws.BitsAllLaws
namespace Go.Proofs.Ythfgeopldbcniaa
set_option linter.unusedVariables false
/-- The root of a number, floored. -/
def isq : Nat → Nat
  | 0 => 0
  | n + 1 => if (isq n + 1) * (isq n + 1) ≤ n + 1 then isq n + 1 else isq n
theorem isq_spec : ∀ n, isq n * isq n ≤ n ∧ n < (isq n + 1) * (isq n + 1)
  | 0 => by simp [isq]
  | n + 1 => by
    have ih := isq_spec n
    have e : isq (n + 1) = if (isq n + 1) * (isq n + 1) ≤ n + 1 then isq n + 1 else isq n := rfl
    rw [e]
    generalize isq n = s at *
    by_cases h : (s + 1) * (s + 1) ≤ n + 1
    · rw [if_pos h]
      refine ⟨h, ?_⟩
      have := Nat.mul_lt_mul'' (show s + 1 < s + 1 + 1 by omega) (show s + 1 < s + 1 + 1 by omega)
      omega
    · rw [if_neg h]
      omega
theorem sq_le {a b : Int} (h0 : 0 ≤ a) (h : a ≤ b) : a * a ≤ b * b := Int.mul_le_mul h h h0 (Int.le_trans h0 h)
theorem sq_lt {a b : Int} (h0 : 0 ≤ a) (h : a < b) : a * a < b * b :=
  Int.lt_of_le_of_lt (Int.mul_le_mul_of_nonneg_left (Int.le_of_lt h) h0) (Int.mul_lt_mul_of_pos_right h (by omega))
theorem le_of_sq {a b : Int} (h0 : 0 ≤ b) (h : a * a ≤ b * b) : a ≤ b := by
  rcases Int.lt_or_le b a with k | k
  · have := sq_lt h0 k; omega
  · exact k
theorem lt_of_sq {a b : Int} (h0 : 0 ≤ b) (h : a * a < b * b) : a < b := by
  rcases Int.lt_or_le a b with k | k
  · exact k
  · have := sq_le h0 k; omega
def rt (x : Int) : Int := (isq x.toNat : Int)
theorem rt_0 (x : Int) : 0 ≤ rt x := by unfold rt; omega
theorem rt_spec {x : Int} (h : 0 ≤ x) : rt x * rt x ≤ x ∧ x < (rt x + 1) * (rt x + 1) := by
  obtain ⟨n, rfl⟩ := Int.eq_ofNat_of_zero_le h
  unfold rt
  rw [Int.toNat_natCast]
  obtain ⟨h1, h2⟩ := isq_spec n
  exact ⟨by exact_mod_cast h1, by exact_mod_cast h2⟩
theorem rt_of {x r : Int} (h0 : 0 ≤ r) (h1 : r * r ≤ x) (h2 : x < (r + 1) * (r + 1)) : rt x = r := by
  have hx : 0 ≤ x := Int.le_trans (Int.mul_nonneg h0 h0) h1
  obtain ⟨k1, k2⟩ := rt_spec hx
  have k0 := rt_0 x
  have a := lt_of_sq (a := rt x) (b := r + 1) (by omega) (by omega)
  have b := lt_of_sq (a := r) (b := rt x + 1) (by omega) (by omega)
  omega
theorem rt_le {x b : Int} (hx : 0 ≤ x) (hb : 0 ≤ b) (h : x < (b + 1) * (b + 1)) : rt x ≤ b := by
  have := lt_of_sq (a := rt x) (b := b + 1) (by omega) (by have := (rt_spec hx).1; omega)
  omega
theorem rt_ge {x b : Int} (hx : 0 ≤ x) (h : b * b ≤ x) : b ≤ rt x := by
  have := lt_of_sq (a := b) (b := rt x + 1) (by have := rt_0 x; omega) (by have := (rt_spec hx).2; omega)
  omega
theorem rt_mono {x y : Int} (hx : 0 ≤ x) (h : x ≤ y) : rt x ≤ rt y :=
  rt_ge (by omega) (by have := (rt_spec hx).1; omega)
theorem rt_sq {b : Int} (hb : 0 ≤ b) : rt (b * b) = b := rt_of hb (Int.le_refl _) (sq_lt hb (by omega))
/-- What is sought bit by bit: k of p bits are told. -/
def Sought (p k n r : Nat) : Prop := (∃ q, r = q * 2 ^ (p - k)) ∧ r + 2 ^ (p - k) ≤ 2 ^ p ∧ r * r ≤ n ∧ n < (r + 2 ^ (p - k)) * (r + 2 ^ (p - k))
theorem Sought.start {p n : Nat} (h : n < 2 ^ p * 2 ^ p) : Sought p 0 n 0 := ⟨⟨0, by simp⟩, by simp, by simp, by simpa using h⟩
theorem Sought.pow {p k : Nat} (h : k < p) : 2 ^ (p - k) = 2 * 2 ^ (p - 1 - k) := by
  rw [show p - k = (p - 1 - k) + 1 by omega, Nat.pow_succ, Nat.mul_comm]
theorem Sought.lt {p k n r : Nat} (s : Sought p k n r) (h : k < p) : r + 2 ^ (p - 1 - k) < 2 ^ p := by
  have := s.2.1
  rw [Sought.pow h] at this
  have : 0 < 2 ^ (p - 1 - k) := Nat.two_pow_pos _
  omega
theorem Sought.or {p k n r : Nat} (s : Sought p k n r) (h : k < p) : r ||| 2 ^ (p - 1 - k) = r + 2 ^ (p - 1 - k) := by
  obtain ⟨⟨q, rfl⟩, _⟩ := s
  have hp := Sought.pow h
  have : 0 < 2 ^ (p - 1 - k) := Nat.two_pow_pos _
  rw [← Nat.shiftLeft_eq, Nat.shiftLeft_add_eq_or_of_lt (by omega)]
theorem Sought.bits {p k n r j : Nat} (s : Sought p k n r) (h : k < p) (hp : 2 ^ p ≤ 18446744073709551616) (hj : j = p - 1 - k) : bits .or .u64 (r : Int) (IntKind.u64.wrap (2 ^ j)) = ((r + 2 ^ j : Nat) : Int) := by
  have hr := s.lt h
  have ho := s.or h
  rw [← hj] at hr ho
  have hq : (2 : Int) ^ j = ((2 ^ j : Nat) : Int) := by exact_mod_cast rfl
  rw [hq, u64_wrap, ← ho]
  have e : ((2 ^ j : Nat) : Int) % 18446744073709551616 = ((2 ^ j : Nat) : Int) := by
    generalize 2 ^ j = d at *
    omega
  rw [e]
  exact u64_or_nat _ _ (by omega) (by omega)
theorem Sought.yes {p k n r : Nat} (s : Sought p k n r) (h : k < p) (hm : (r + 2 ^ (p - 1 - k)) * (r + 2 ^ (p - 1 - k)) ≤ n) : Sought p (k + 1) n (r + 2 ^ (p - 1 - k)) := by
  obtain ⟨⟨q, hq⟩, h1, h2, h3⟩ := s
  unfold Sought
  rw [Sought.pow h] at *
  rw [show p - (k + 1) = p - 1 - k by omega]
  generalize 2 ^ (p - 1 - k) = d at *
  refine ⟨⟨2 * q + 1, ?_⟩, by omega, hm, ?_⟩
  · rw [hq, Nat.add_mul, Nat.one_mul, Nat.mul_comm 2 q, Nat.mul_assoc]
  · rw [show r + d + d = r + 2 * d by omega]; exact h3
theorem Sought.no {p k n r : Nat} (s : Sought p k n r) (h : k < p) (hm : n < (r + 2 ^ (p - 1 - k)) * (r + 2 ^ (p - 1 - k))) : Sought p (k + 1) n r := by
  obtain ⟨⟨q, hq⟩, h1, h2, h3⟩ := s
  unfold Sought
  rw [Sought.pow h] at *
  rw [show p - (k + 1) = p - 1 - k by omega]
  generalize 2 ^ (p - 1 - k) = d at *
  exact ⟨⟨2 * q, by rw [hq, Nat.mul_comm 2 q, Nat.mul_assoc]⟩, by omega, h2, hm⟩
theorem Sought.done {p n r : Nat} (s : Sought p p n r) : rt (n : Int) = (r : Int) := by
  obtain ⟨_, _, h2, h3⟩ := s
  rw [Nat.sub_self, Nat.pow_zero] at h3
  exact rt_of (by omega) (by exact_mod_cast h2) (by exact_mod_cast h3)
end Go.Proofs.Ythfgeopldbcniaa
