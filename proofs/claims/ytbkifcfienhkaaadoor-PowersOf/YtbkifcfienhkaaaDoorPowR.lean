/- Powers of 2 and long logs by the document's rule never fall; of twice as much the long log is one more. Plain arithmetic. -/
import Derived.Test.YtbkifcfienhkaaaDoorPowE
import Derived.Test.YtbkifcfienhkaaaDoorPowC
namespace Go.Proofs.YtbkifcfienhkaaaDoor
set_option linter.unusedVariables false
theorem nst_mid (p : Nat) {u : Int} (h0 : -17 ≤ u) (h1 : u ≤ 14) : nst p u = (((p * 2 ^ (u + 17).toNat + 4611686018427387904) / 9223372036854775808 : Nat) : Int) := by
  unfold nst
  rw [if_neg (by omega), if_neg (by omega)]
  obtain ⟨m, hm⟩ : ∃ m : Nat, u + 17 = (m : Int) := ⟨(u + 17).toNat, by omega⟩
  obtain ⟨k, hk, k0⟩ : ∃ k : Nat, 46 - u = (k : Int) ∧ k + m = 63 ∧ 1 ≤ k := ⟨(46 - u).toNat, by omega, by omega, by omega⟩
  rw [show (45 - u).toNat = k - 1 by omega, hk, hm, Int.toNat_natCast, Int.toNat_natCast]
  have e1 : 2 ^ k * 2 ^ m = 9223372036854775808 := by rw [← Nat.pow_add, k0.1]
  have e2 : 2 ^ (k - 1) * 2 ^ m = 4611686018427387904 := by rw [← Nat.pow_add, show k - 1 + m = 62 by omega]
  rw [← e1, ← e2, ← Nat.add_mul, Nat.mul_div_mul_right _ _ (Nat.two_pow_pos m)]
theorem two_le {e d : Int} (h : e ≤ d) : two e ≤ two d := by
  have he := two_in e
  have hd := two_in d
  have l1 := PP_lt (e % 4294967296).toNat
  have l2 := PP_ge (d % 4294967296).toNat
  by_cases h1 : 15 ≤ d / 4294967296
  · have : two d = 2147483648 := by unfold two nst; rw [if_pos h1]
    omega
  by_cases h2 : e / 4294967296 ≤ -18
  · have : two e = 0 := by unfold two nst; rw [if_neg (by omega), if_pos h2]
    omega
  have hq : e / 4294967296 ≤ d / 4294967296 := by omega
  unfold two
  rw [nst_mid _ (by omega) (by omega), nst_mid _ (by omega) (by omega)]
  refine Int.ofNat_le.2 (Nat.div_le_div_right (Nat.add_le_add_right ?_ _))
  by_cases hw : e / 4294967296 = d / 4294967296
  · rw [hw]
    exact Nat.mul_le_mul_right _ (PP_mono (by omega) (by omega))
  · obtain ⟨j, hj⟩ : ∃ j : Nat, (d / 4294967296 + 17).toNat = (e / 4294967296 + 17).toNat + 1 + j := ⟨(d / 4294967296 + 17).toNat - (e / 4294967296 + 17).toNat - 1, by omega⟩
    rw [hj, Nat.pow_add, Nat.pow_succ]
    have t0 := Nat.two_pow_pos j
    calc PP (e % 4294967296).toNat * 2 ^ (e / 4294967296 + 17).toNat ≤ 9223372036854775808 * 2 ^ (e / 4294967296 + 17).toNat := Nat.mul_le_mul_right _ (by omega)
      _ = 4611686018427387904 * (2 ^ (e / 4294967296 + 17).toNat * 2) := by omega
      _ ≤ PP (d % 4294967296).toNat * (2 ^ (e / 4294967296 + 17).toNat * 2) := Nat.mul_le_mul_right _ l2
      _ = PP (d % 4294967296).toNat * (2 ^ (e / 4294967296 + 17).toNat * 2 * 1) := by rw [Nat.mul_one]
      _ ≤ PP (d % 4294967296).toNat * (2 ^ (e / 4294967296 + 17).toNat * 2 * 2 ^ j) := Nat.mul_le_mul_left _ (Nat.mul_le_mul_left _ t0)
theorem held_le {x y : Int} (h : x ≤ y) : held x ≤ held y := by unfold held; split <;> split <;> (try split) <;> (try split) <;> omega
theorem exq_le {x y : Int} (h : x ≤ y) : exq x ≤ exq y := held_le (two_le (by omega))
theorem nr_le {x y d : Int} (hd : 0 < d) (h : x ≤ y) : nr x d ≤ nr y d := by
  have e : ∀ z, nr z d = (2 * z + d) / (2 * d) := by
    intro z
    have h1 := Int.emod_add_mul_ediv z d
    have h2 := Int.emod_nonneg z (by omega : d ≠ 0)
    have h3 := Int.emod_lt_of_pos z hd
    have h4 : d * (z / d + 1) = d * (z / d) + d := by rw [Int.mul_add, Int.mul_one]
    unfold nr
    by_cases hc : d - z % d ≤ z % d
    · rw [if_pos hc]
      refine ((Int.ediv_eq_iff_of_pos (by omega)).2 ⟨?_, ?_⟩).symm
      · rw [Int.mul_comm (z / d + 1) (2 * d), Int.mul_assoc, h4]; omega
      · rw [Int.mul_comm (z / d + 1) (2 * d), Int.mul_assoc, h4]; omega
    · rw [if_neg hc]
      refine ((Int.ediv_eq_iff_of_pos (by omega)).2 ⟨?_, ?_⟩).symm
      · rw [Int.mul_comm (z / d) (2 * d), Int.mul_assoc]; omega
      · rw [Int.mul_comm (z / d) (2 * d), Int.mul_assoc]; omega
  rw [e, e]
  exact Int.ediv_le_ediv (by omega) (by omega)
theorem lls_le : ∀ (n y z : Nat) (l m : Int), (l < m ∨ (l = m ∧ y ≤ z)) → lls n y l ≤ lls n z m
  | 0, _, _, _, _, h => by unfold lls; omega
  | n + 1, y, z, l, m, h => by
    unfold lls
    rcases h with h | ⟨h, hy⟩
    · split <;> split <;> exact lls_le n _ _ _ _ (.inl (by omega))
    · have ht : tm y y ≤ tm z z := tm_mono hy hy
      split <;> split
      · exact lls_le n _ _ _ _ (.inr ⟨by omega, ht⟩)
      · exact lls_le n _ _ _ _ (.inl (by omega))
      · exfalso; omega
      · exact lls_le n _ _ _ _ (.inr ⟨by omega, Nat.div_le_div_right ht⟩)
theorem LL_le {x y : Nat} (h0 : 0 < x) (h : x ≤ y) : LL x ≤ LL y := by
  unfold LL
  obtain ⟨a1, a2⟩ := (Nat.log2_eq_iff (n := x) (k := x.log2) (by omega)).1 rfl
  obtain ⟨b1, b2⟩ := (Nat.log2_eq_iff (n := y) (k := y.log2) (by omega)).1 rfl
  have hk : x.log2 ≤ y.log2 := by
    rcases Nat.lt_or_ge y.log2 x.log2 with g | g
    · have : 2 ^ (y.log2 + 1) ≤ 2 ^ x.log2 := Nat.pow_le_pow_right (by decide) g
      omega
    · exact g
  refine lls_le _ _ _ _ _ ?_
  rcases Nat.eq_or_lt_of_le hk with e | l
  · right
    rw [e]
    exact ⟨rfl, Nat.mul_le_mul_right _ h⟩
  · left; omega
theorem lls_on : ∀ (n y : Nat) (l d : Int), lls n y (l + d) = lls n y l + d * ((2 ^ n : Nat) : Int)
  | 0, y, l, d => by unfold lls; rw [Nat.pow_zero]; omega
  | n + 1, y, l, d => by
    unfold lls
    have e : d * ((2 ^ (n + 1) : Nat) : Int) = 2 * d * ((2 ^ n : Nat) : Int) := by
      rw [Nat.pow_succ, Nat.mul_comm, Int.natCast_mul, ← Int.mul_assoc, Int.mul_comm d]; rfl
    rw [e]
    split
    · rw [Int.mul_add, lls_on n]
    · rw [Int.mul_add, show 2 * l + 2 * d + 1 = 2 * l + 1 + 2 * d by omega, lls_on n]
theorem LL_double {x : Nat} (h0 : 0 < x) (h1 : x ≤ 2147483648) : LL (2 * x) = LL x + 1099511627776 := by
  obtain ⟨a1, a2⟩ := (Nat.log2_eq_iff (n := x) (k := x.log2) (by omega)).1 rfl
  have e : (2 * x).log2 = x.log2 + 1 := (Nat.log2_eq_iff (by omega)).2 ⟨by rw [Nat.pow_succ]; omega, by rw [Nat.pow_succ]; omega⟩
  have hk : x.log2 ≤ 31 := by
    rcases Nat.lt_or_ge x.log2 32 with h | h
    · omega
    · have : 2 ^ 32 ≤ 2 ^ x.log2 := Nat.pow_le_pow_right (by decide) h
      rw [show (2 : Nat) ^ 32 = 4294967296 from rfl] at this
      omega
  unfold LL
  rw [e]
  have ey : 2 * x * 2 ^ (62 - (x.log2 + 1)) = x * 2 ^ (62 - x.log2) := by
    rw [show 62 - x.log2 = (62 - (x.log2 + 1)) + 1 by omega, Nat.pow_succ, Nat.mul_comm 2 x, Nat.mul_assoc, Nat.mul_comm 2]
  rw [ey, show (((x.log2 + 1 : Nat)) : Int) - 16 = ((x.log2 : Int) - 16) + 1 by omega, lls_on]
  rfl
theorem nr_on (x d k : Int) (hd : 0 < d) : nr (x + d * k) d = nr x d + k := by
  unfold nr
  rw [Int.add_mul_ediv_left _ _ (by omega), Int.add_mul_emod_self_left]
  split <;> omega
theorem lgq_double {x : Int} (h0 : 0 < x) (h1 : x ≤ 1073741823) : lgq (2 * x) = lgq x + 65536 := by
  unfold lgq
  rw [if_neg (by omega), if_neg (by omega), show (2 * x).toNat = 2 * x.toNat by omega, LL_double (by omega) (by omega), show LL x.toNat + 1099511627776 = LL x.toNat + 16777216 * 65536 by omega, nr_on _ _ _ (by decide)]
theorem lgq_le {x y : Int} (h0 : 0 < x) (h : x ≤ y) : lgq x ≤ lgq y := by
  unfold lgq
  rw [if_neg (by omega), if_neg (by omega)]
  exact nr_le (by decide) (LL_le (by omega) (by omega))
theorem rsd_le {a b n : Int} (h0 : 0 < a) (h : a ≤ b) (hn : 0 ≤ n) : rsd a n ≤ rsd b n :=
  two_le (nr_le (by decide) (Int.mul_le_mul_of_nonneg_left (LL_le (by omega) (by omega)) hn))
theorem rsd_ge {a b n : Int} (h0 : 0 < a) (h : a ≤ b) (hn : n ≤ 0) : rsd b n ≤ rsd a n :=
  two_le (nr_le (by decide) (Int.mul_le_mul_of_nonpos_left hn (LL_le (by omega) (by omega))))
end Go.Proofs.YtbkifcfienhkaaaDoor
