/- 2 to the power of a number's log is that number, and the log of 2 to the power of a number is that number, but for what the document allows. Plain arithmetic. -/
import Derived.Test.YtbkifcfienhkaaaDoorPowS
namespace Go.Proofs.YtbkifcfienhkaaaDoor
set_option linter.unusedVariables false
/-- Three parts in 524288, taken 2^21 times, are 2 to the power of 17, and more. -/
theorem three_parts {q : Nat} (hq : q = 2097152) : 2 ^ 17 * 524288 ^ q ≤ 524291 ^ q := by
  obtain ⟨m, hm⟩ : ∃ m : Nat, m = 1024 := ⟨_, rfl⟩
  obtain ⟨k, hk⟩ : ∃ k : Nat, k = 2048 := ⟨_, rfl⟩
  have e : q = m * k := by rw [hq, hm, hk]
  have h1 : 512 ^ 1 * 524291 ^ m ≥ 515 ^ 1 * 524288 ^ m := by
    rw [hm]; decide +kernel
  have h2 : 2 ^ 17 * 512 ^ k ≤ 515 ^ k := by rw [hk]; decide +kernel
  rw [Nat.pow_one, Nat.pow_one] at h1
  have h3 := Nat.pow_le_pow_left h1 k
  rw [Nat.mul_pow, Nat.mul_pow, ← Nat.pow_mul, ← Nat.pow_mul, ← e] at h3
  have sp : 0 < 512 ^ k := Nat.pow_pos (by decide)
  generalize 512 ^ k = a at *
  generalize 515 ^ k = b at *
  generalize 524288 ^ q = c at *
  generalize 524291 ^ q = d at *
  generalize 2 ^ 17 = t at *
  refine Nat.le_of_mul_le_mul_left (c := a) ?_ sp
  calc a * (t * c) = t * a * c := by ac_rfl
    _ ≤ b * c := Nat.mul_le_mul_right _ h2
    _ ≤ a * d := h3
theorem root_three {F m V W : Nat} (hF : F = 1099511627776) (hm : m ≤ 8912896) (h : V ^ F ≤ 2 ^ m * W ^ F) : V * 524288 ≤ W * 524291 := by
  obtain ⟨q, hq⟩ : ∃ q : Nat, q = 2097152 := ⟨_, rfl⟩
  exact rootG (q := q) (j := 524288) (n := 17) (by omega) (by omega) (three_parts hq) (by omega) h
/-- Exp2 of Log2. -/
theorem back_exp {x : Int} (h0 : 0 < x) (h1 : x ≤ 2147483647) : 1048576 * (exq (lgq x) - x) ≤ 6 * x + 589824 ∧ 1048576 * (x - exq (lgq x)) ≤ 6 * x + 589824 := by
  unfold exq lgq
  rw [if_neg (by omega)]
  obtain ⟨l0, l1⟩ := LL_in (x := x.toNat) (by omega) (by omega)
  obtain ⟨n1, n2⟩ := nr_is (LL x.toNat) 16777216 (by decide)
  generalize nr (LL x.toNat) 16777216 = r at *
  obtain ⟨e, he⟩ : ∃ e, r * 65536 = e := ⟨_, rfl⟩
  rw [he]
  have hw : -17 ≤ e / 4294967296 := by omega
  obtain ⟨F, hF⟩ : ∃ F : Nat, F = 1099511627776 := ⟨_, rfl⟩
  obtain ⟨z, hz⟩ : ∃ z : Nat, (z : Int) = 256 * e + 17 * (F : Int) := ⟨(256 * e + 17 * (F : Int)).toNat, by omega⟩
  obtain ⟨l, hl⟩ : ∃ l : Nat, (l : Int) = LL x.toNat + 17 * (F : Int) := ⟨(LL x.toNat + 17 * (F : Int)).toNat, by omega⟩
  have a1 := AA_up hw hF hz
  have a2 := AA_lo hw hF hz
  obtain ⟨x1, x2⟩ := XX_of (x := x.toNat) (by omega) (by omega) hF hl
  have hzl : z ≤ l + 8388608 := by omega
  have hlz : l ≤ z + 8388608 := by omega
  have u := root_three hF (by decide) (cmp_up a1 x1 hzl)
  have v := root_three hF (by decide) (cmp_lo hF a2 x2 hlz)
  clear a1 a2 x1 x2 hz hl hzl hlz n1 n2 he
  obtain ⟨k1, k2, k3⟩ := NN_is e
  rw [(two_NN hw).1]
  generalize NN e = N at *
  generalize AA e = A at *
  clear hw l0 l1
  have b1 : 1048576 * (N - x) ≤ 6 * x + 589824 := by omega
  have b2 : 1048576 * (x - N) ≤ 6 * x + 589824 := by omega
  unfold held
  split
  · omega
  · split <;> omega
/-- A 131072th more or less, taken 2^17 times, is less than four times as much. -/
theorem small_part {n F : Nat} (hn : n = 131072) (hF : F = 1099511627776) : (n + 1) ^ F ≤ 2 ^ 16777216 * n ^ F ∧ n ^ F ≤ 2 ^ 16777216 * (n - 1) ^ F := by
  obtain ⟨M, hM⟩ : ∃ M : Nat, M = 65536 := ⟨_, rfl⟩
  obtain ⟨k, hk⟩ : ∃ k : Nat, k = 16777216 := ⟨_, rfl⟩
  have e : F = M * k := by rw [hF, hM, hk]
  have h1 := Nat.pow_le_pow_left (pow_close n M (by omega)) k
  have h2 := Nat.pow_le_pow_left (pow_close (n - 1) M (by omega)) k
  rw [show n - 1 + 1 = n by omega] at h2
  rw [Nat.mul_pow, ← Nat.pow_mul, ← Nat.pow_mul, ← e, hk] at h1 h2
  exact ⟨h1, h2⟩
theorem pow_lt_two {a b : Nat} (h : 2 ^ a ≤ 2 ^ b) : a ≤ b := (Nat.pow_le_pow_iff_right (by decide)).1 h
/-- Log2 of Exp2. -/
theorem back_log {x : Int} (h0 : 0 ≤ x) (h1 : x ≤ 983039) (hy : exq x ≠ 2147483647) : 0 < exq x ∧ x - 1 ≤ lgq (exq x) ∧ lgq (exq x) ≤ x + 1 := by
  have hw : -17 ≤ x * 65536 / 4294967296 := by omega
  have ey : exq x = held (NN (x * 65536)) := (two_NN hw).1
  obtain ⟨k1, k2, k3⟩ := NN_is (x * 65536)
  have hA : 604462909807314587353088 ≤ AA (x * 65536) := by
    unfold AA
    have hp : 2 ^ 17 ≤ 2 ^ (x * 65536 / 4294967296 + 17).toNat := Nat.pow_le_pow_right (by decide) (by omega)
    exact Nat.mul_le_mul (PP_ge (x * 65536 % 4294967296).toNat) hp
  have eN : exq x = NN (x * 65536) := by
    rw [ey] at hy ⊢
    unfold held at *
    split at hy
    · omega
    · split at hy
      · omega
      · rw [if_neg (by assumption), if_neg (by assumption)]
  have hle : exq x ≤ 2147483647 := by rw [ey]; exact (held_in _).2
  obtain ⟨y, hyy⟩ : ∃ y : Nat, (y : Int) = exq x := ⟨(exq x).toNat, by omega⟩
  rw [← eN, ← hyy] at k1 k2
  rw [← hyy]
  unfold lgq
  rw [if_neg (by omega), Int.toNat_natCast]
  refine ⟨by omega, ?_⟩
  obtain ⟨l0, l1⟩ := LL_in (x := y) (by omega) (by omega)
  obtain ⟨n1, n2⟩ := nr_is (LL y) 16777216 (by decide)
  generalize nr (LL y) 16777216 = r at *
  obtain ⟨F, hF⟩ : ∃ F : Nat, F = 1099511627776 := ⟨_, rfl⟩
  obtain ⟨z, hz⟩ : ∃ z : Nat, (z : Int) = 256 * (x * 65536) + 17 * (F : Int) := ⟨(256 * (x * 65536) + 17 * (F : Int)).toNat, by omega⟩
  obtain ⟨l, hl⟩ : ∃ l : Nat, (l : Int) = LL y + 17 * (F : Int) := ⟨(LL y + 17 * (F : Int)).toNat, by omega⟩
  have a1 := AA_up hw hF hz
  have a2 := AA_lo hw hF hz
  obtain ⟨x1, x2⟩ := XX_of (x := y) (by omega) (by omega) hF hl
  obtain ⟨n, hn⟩ : ∃ n : Nat, n = 131072 := ⟨_, rfl⟩
  obtain ⟨s1, s2⟩ := small_part hn hF
  have hc := near_c hF (k := 97) (by decide)
  have sp : 0 < 4611686018427387904 ^ F := Nat.pow_pos (by decide)
  have spn : 0 < (4611686018427387904 ^ F) ^ 97 := Nat.pow_pos sp
  have np : 0 < n ^ F := Nat.pow_pos (by omega)
  have nq : 0 < (n - 1) ^ F := Nat.pow_pos (by omega)
  obtain ⟨T, hT⟩ : ∃ T : Nat, T = 16777216 := ⟨_, rfl⟩
  rw [← hT] at s1 s2
  generalize AA (x * 65536) = A at *
  have y1 : y * 9223372036854775808 * n ≤ A * (n + 1) := by rw [hn]; omega
  have y2 : A * (n - 1) ≤ y * 9223372036854775808 * n := by rw [hn]; omega
  have z1 := Nat.pow_le_pow_left y1 F
  have z2 := Nat.pow_le_pow_left y2 F
  rw [Nat.mul_pow (y * 9223372036854775808) n F, Nat.mul_pow A (n + 1) F] at z1
  rw [Nat.mul_pow (y * 9223372036854775808) n F, Nat.mul_pow A (n - 1) F] at z2
  rw [Nat.pow_succ _ 96, Nat.pow_succ _ 96] at hc
  rw [Nat.pow_succ _ 96] at spn
  have up : l ≤ z + T := by
    refine pow_lt_two ?_
    rw [Nat.pow_add]
    generalize 4611686018427387904 ^ F = a at *
    generalize (y * 9223372036854775808) ^ F = Y at *
    generalize A ^ F = p at *
    generalize n ^ F = c at *
    generalize (n + 1) ^ F = d at *
    generalize 2 ^ T = t at *
    generalize 2 ^ z = u at *
    generalize 2 ^ l = v at *
    refine Nat.le_of_mul_le_mul_left (c := a * c) ?_ (Nat.mul_pos sp np)
    calc a * c * v = a * v * c := by ac_rfl
      _ ≤ Y * c := Nat.mul_le_mul_right _ x1
      _ ≤ p * d := z1
      _ ≤ a * u * (t * c) := Nat.mul_le_mul a1 s1
      _ = a * c * (u * t) := by ac_rfl
  have lo : z ≤ l + 2 + T := by
    refine pow_lt_two ?_
    rw [Nat.pow_add, Nat.pow_succ 2 (l + 1)]
    generalize 4611686018427387904 ^ F = a at *
    generalize 4611686018427387905 ^ F = k at *
    generalize (y * 9223372036854775808) ^ F = Y at *
    generalize A ^ F = p at *
    generalize n ^ F = c at *
    generalize (n - 1) ^ F = d at *
    generalize 2 ^ T = t at *
    generalize 2 ^ z = u at *
    generalize 2 ^ (l + 1) = v at *
    generalize a ^ 96 = an at *
    generalize k ^ 96 = kn at *
    have p1 : p ≤ t * Y := by
      refine Nat.le_of_mul_le_mul_right (c := d) ?_ nq
      calc p * d ≤ Y * c := z2
        _ ≤ Y * (t * d) := Nat.mul_le_mul_left _ s2
        _ = t * Y * d := by ac_rfl
    refine Nat.le_of_mul_le_mul_left (c := an * a) ?_ spn
    calc an * a * u = a * u * an := by ac_rfl
      _ ≤ p * kn := a2
      _ ≤ t * Y * kn := Nat.mul_le_mul_right _ p1
      _ ≤ t * (v * k) * kn := Nat.mul_le_mul_right _ (Nat.mul_le_mul_left _ x2)
      _ = kn * k * (t * v) := by ac_rfl
      _ ≤ 2 * (an * a) * (t * v) := Nat.mul_le_mul_right _ hc
      _ = an * a * (v * 2 * t) := by ac_rfl
  clear a1 a2 x1 x2 s1 s2 z1 z2 hc sp spn np nq y1 y2
  omega
end Go.Proofs.YtbkifcfienhkaaaDoor
