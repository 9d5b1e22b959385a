/- Cosines, sines and directions of the document's rule, as plain functions of whole numbers, and what follows of them. Plain arithmetic that names no program. -/
import Derived.Test.YthfgeopldbcniaaAngVW
namespace Go.Proofs.Ythfgeopldbcniaa
set_option linter.unusedVariables false
set_option linter.unusedSimpArgs false
def qr (a : Int) : Nat := (a / 5898240 % 4).toNat
def rr (a : Int) : Nat := (a % 5898240).toNat
/-- Cosine and sine of an angle, in 65536ths. -/
def csa (a : Int) : Int × Int := csr (qr a) (rr a)
theorem rr_lt (a : Int) : rr a < 5898240 := by unfold rr; omega
theorem qr_lt (a : Int) : qr a < 4 := by unfold qr; omega
theorem csr_four {q p : Nat} (h : q % 4 = p % 4) (r : Nat) : csr q r = csr p r := by unfold csr; rw [iu_four h]
theorem csr_next (q r : Nat) : csr (q + 1) r = (-(csr q r).2, (csr q r).1) := by
  unfold csr
  rw [← iu_add q 1]
  generalize c2 (ZZ (part r)) = z
  generalize iu q = u
  rw [show iu 1 = (0, 1) from rfl]
  unfold cm; ext <;> simp <;> grind
theorem csa_quarter (a : Int) : csa (a + 5898240) = (-(csa a).2, (csa a).1) := by
  unfold csa
  rw [← csr_next, show rr (a + 5898240) = rr a by unfold rr; omega]
  exact csr_four (by unfold qr; omega) _
theorem csa_round (a : Int) : csa (a + 23592960) = csa a := by
  unfold csa
  rw [show rr (a + 23592960) = rr a by unfold rr; omega, show qr (a + 23592960) = qr a by unfold qr; omega]
theorem csa_back (a : Int) : csa (a - 23592960) = csa a := by
  unfold csa
  rw [show rr (a - 23592960) = rr a by unfold rr; omega, show qr (a - 23592960) = qr a by unfold qr; omega]
theorem c2_0 : c2 (ZZ (part 0)) = (65536, 0) := by decide +kernel
theorem csr_0 (q : Nat) : csr q 0 = (65536 * (iu q).1, 65536 * (iu q).2) := by
  unfold csr
  rw [c2_0]
  generalize iu q = u
  unfold cm; ext <;> simp <;> grind
theorem csa_whole (k : Int) : csa (k * 5898240) = (65536 * (iu (k % 4).toNat).1, 65536 * (iu (k % 4).toNat).2) := by
  unfold csa
  rw [show rr (k * 5898240) = 0 by unfold rr; omega, csr_0, show qr (k * 5898240) = (k % 4).toNat by unfold qr; omega]
/-- What the four quarters make of a place. -/
theorem csr_cases (q r : Nat) : (q % 4 = 0 ∧ (csr q r).1 = c46 (ZZ (part r)).1 ∧ (csr q r).2 = c46 (ZZ (part r)).2) ∨ (q % 4 = 1 ∧ (csr q r).1 = -c46 (ZZ (part r)).2 ∧ (csr q r).2 = c46 (ZZ (part r)).1) ∨ (q % 4 = 2 ∧ (csr q r).1 = -c46 (ZZ (part r)).1 ∧ (csr q r).2 = -c46 (ZZ (part r)).2) ∨ (q % 4 = 3 ∧ (csr q r).1 = c46 (ZZ (part r)).2 ∧ (csr q r).2 = -c46 (ZZ (part r)).1) := by
  unfold csr c2
  generalize c46 (ZZ (part r)).1 = c
  generalize c46 (ZZ (part r)).2 = s
  have h : q % 4 = 0 ∨ q % 4 = 1 ∨ q % 4 = 2 ∨ q % 4 = 3 := by omega
  rcases h with h | h | h | h
  · refine .inl ⟨h, ?_⟩
    rw [iu_four (p := 0) h, show iu 0 = (1, 0) from rfl]; unfold cm; simp
  · refine .inr (.inl ⟨h, ?_⟩)
    rw [iu_four (p := 1) h, show iu 1 = (0, 1) from rfl]; unfold cm; simp
  · refine .inr (.inr (.inl ⟨h, ?_⟩))
    rw [iu_four (p := 2) h, show iu 2 = (-1, 0) from rfl]; unfold cm; simp
  · refine .inr (.inr (.inr ⟨h, ?_⟩))
    rw [iu_four (p := 3) h, show iu 3 = (0, -1) from rfl]; unfold cm; simp
theorem c46_quad (f : Nat) : 0 ≤ c46 (ZZ f).1 ∧ c46 (ZZ f).1 ≤ 65536 ∧ 0 ≤ c46 (ZZ f).2 ∧ c46 (ZZ f).2 ≤ 65536 := by
  have a := ZZ_quad f
  have b := (ZZ_le f).parts
  generalize ZZ f = z at *
  unfold c46
  omega
theorem csa_bd (a : Int) : -65536 ≤ (csa a).1 ∧ (csa a).1 ≤ 65536 ∧ -65536 ≤ (csa a).2 ∧ (csa a).2 ≤ 65536 := by
  have h := c46_quad (part (rr a))
  unfold csa
  have k := csr_cases (qr a) (rr a)
  generalize c46 (ZZ (part (rr a))).1 = c at *
  generalize c46 (ZZ (part (rr a))).2 = s at *
  generalize csr (qr a) (rr a) = z at *
  omega
theorem csa_circle (a : Int) : (csa a).2 * (csa a).2 + (csa a).1 * (csa a).1 - 4294967296 ≤ 92683 ∧ -92683 ≤ (csa a).2 * (csa a).2 + (csa a).1 * (csa a).1 - 4294967296 := by
  have h := circle (part (rr a))
  unfold csa
  rcases csr_cases (qr a) (rr a) with ⟨_, k1, k2⟩ | ⟨_, k1, k2⟩ | ⟨_, k1, k2⟩ | ⟨_, k1, k2⟩ <;> rw [k1, k2] <;> generalize c46 (ZZ (part (rr a))).1 = c at * <;> generalize c46 (ZZ (part (rr a))).2 = s at * <;> (try simp only [Int.neg_mul_neg]) <;> generalize c * c = x at * <;> generalize s * s = y at * <;> omega
theorem csa_sums (a b : Int) : 65536 * (csa (a + b)).2 - (csa a).2 * (csa b).1 - (csa a).1 * (csa b).2 ≤ 125452 ∧ -125452 ≤ 65536 * (csa (a + b)).2 - (csa a).2 * (csa b).1 - (csa a).1 * (csa b).2 := by
  obtain ⟨c, hc, e, eq⟩ : ∃ c : Nat, c ≤ 1 ∧ rr a + rr b = rr (a + b) + c * 5898240 ∧ qr (a + b) % 4 = (qr a + qr b + c) % 4 := by
    by_cases h : rr a + rr b < 5898240
    · exact ⟨0, by omega, by unfold rr at *; omega, by unfold qr rr at *; omega⟩
    · exact ⟨1, by omega, by unfold rr at *; omega, by unfold qr rr at *; omega⟩
  have h := sums5 (qa := qr a) (qb := qr b) (rr_lt a) (rr_lt b) (rr_lt (a + b)) hc e
  unfold csa
  rw [csr_four eq]
  generalize csr (qr a + qr b + c) (rr (a + b)) = z at *
  generalize csr (qr a) (rr a) = x at *
  generalize csr (qr b) (rr b) = y at *
  have e2 : x.1 * y.2 + x.2 * y.1 = x.2 * y.1 + x.1 * y.2 := Int.add_comm _ _
  generalize x.1 * y.2 = m at *
  generalize x.2 * y.1 = n at *
  omega
/-- The other way round. -/
theorem csa_neg (a : Int) : (csa (-a)).2 + (csa a).2 ≤ 1 ∧ -1 ≤ (csa (-a)).2 + (csa a).2 ∧ (csa (-a)).1 - (csa a).1 ≤ 1 ∧ -1 ≤ (csa (-a)).1 - (csa a).1 := by
  unfold csa
  by_cases h : rr a = 0
  · have h2 : rr (-a) = 0 := by unfold rr at *; omega
    have hq : (qr a + qr (-a)) % 4 = 0 := by unfold qr rr at *; omega
    have k1 := csr_cases (qr a) (rr a)
    have k2 := csr_cases (qr (-a)) (rr (-a))
    rw [h] at k1 ⊢
    rw [h2] at k2 ⊢
    have e1 : c46 (ZZ (part 0)).1 = 65536 := congrArg Prod.fst c2_0
    have e2 : c46 (ZZ (part 0)).2 = 0 := congrArg Prod.snd c2_0
    rw [e1, e2] at k1 k2
    generalize csr (qr a) 0 = x at *
    generalize csr (qr (-a)) 0 = y at *
    omega
  · have h2 : rr a + rr (-a) = 5898240 := by unfold rr at *; omega
    have hq : (qr a + qr (-a) + 1) % 4 = 0 := by unfold qr rr at *; omega
    have k1 := csr_cases (qr a) (rr a)
    have k2 := csr_cases (qr (-a)) (rr (-a))
    have m := mirror_near (r := rr a) (s := rr (-a)) (by omega) (rr_lt a) h2
    generalize csr (qr a) (rr a) = x at *
    generalize csr (qr (-a)) (rr (-a)) = y at *
    generalize c46 (ZZ (part (rr a))).1 = c1 at *
    generalize c46 (ZZ (part (rr a))).2 = s1 at *
    generalize c46 (ZZ (part (rr (-a)))).1 = c2 at *
    generalize c46 (ZZ (part (rr (-a)))).2 = s2 at *
    omega
theorem csa_half (a : Int) : (csa (11796480 - a)).2 - (csa a).2 ≤ 1 ∧ -1 ≤ (csa (11796480 - a)).2 - (csa a).2 := by
  have h := csa_neg a
  rw [show 11796480 - a = -a + 5898240 + 5898240 by omega, csa_quarter, csa_quarter]
  simp only
  omega
theorem c46_mono {x y : Int} (h : x ≤ y) : c46 x ≤ c46 y := by unfold c46; omega
theorem csa_first {r : Nat} (h : r < 5898240) : csa (r : Int) = (c46 (ZZ (part r)).1, c46 (ZZ (part r)).2) := by
  unfold csa
  rw [show rr (r : Int) = r by unfold rr; omega, show qr (r : Int) = 0 by unfold qr; omega]
  have k := csr_cases 0 r
  ext <;> simp only <;> omega
theorem csa_rise {x y : Int} (h0 : 0 ≤ x) (h : x ≤ y) (h1 : y ≤ 5898240) : (csa x).2 ≤ (csa y).2 ∧ (csa y).1 ≤ (csa x).1 := by
  obtain ⟨r, rfl⟩ := Int.eq_ofNat_of_zero_le h0
  obtain ⟨s, rfl⟩ := Int.eq_ofNat_of_zero_le (Int.le_trans h0 h)
  by_cases hs : s < 5898240
  · obtain ⟨n, rfl⟩ : ∃ n, s = r + n := ⟨s - r, by omega⟩
    rw [csa_first (show r < 5898240 by omega), csa_first hs]
    have k := rise n hs
    exact ⟨c46_mono k.2, c46_mono k.1⟩
  · have e : (s : Int) = 5898240 := by omega
    rw [e, show (5898240 : Int) = 1 * 5898240 by decide, csa_whole, show iu ((1 : Int) % 4).toNat = (0, 1) from rfl]
    by_cases hr : r < 5898240
    · rw [csa_first hr]
      have := c46_quad (part r)
      simp only
      omega
    · rw [show (r : Int) = 1 * 5898240 by omega, csa_whole, show iu ((1 : Int) % 4).toNat = (0, 1) from rfl]
      simp
/-- How often a place is doubled. -/
def dm (u v : Int) : Nat := 60 - Nat.log2 (max u v).toNat
theorem dm_spec {u v : Int} (h0 : 0 < max u v) (h1 : max u v < 2305843009213693952) : 1152921504606846976 ≤ max u v * ((2 ^ dm u v : Nat) : Int) ∧ max u v * ((2 ^ dm u v : Nat) : Int) < 2305843009213693952 := by
  unfold dm
  generalize max u v = n at *
  obtain ⟨k, rfl⟩ := Int.eq_ofNat_of_zero_le (Int.le_of_lt h0)
  rw [Int.toNat_natCast]
  have k0 : k ≠ 0 := by omega
  have a := Nat.log2_self_le k0
  have b := Nat.lt_log2_self (n := k)
  have c : Nat.log2 k < 61 := (Nat.log2_lt k0).2 (by omega)
  obtain ⟨m, hm⟩ : ∃ m, Nat.log2 k + m = 60 := ⟨60 - Nat.log2 k, by omega⟩
  rw [show 60 - Nat.log2 k = m by omega]
  have d : 2 ^ Nat.log2 k * 2 ^ m = 1152921504606846976 := by rw [← Nat.pow_add, hm]
  have e : 2 ^ (Nat.log2 k + 1) * 2 ^ m = 2305843009213693952 := by rw [← Nat.pow_add, show Nat.log2 k + 1 + m = 61 by omega]
  have f := Nat.mul_le_mul_right (2 ^ m) a
  have g := Nat.mul_lt_mul_of_pos_right b (Nat.two_pow_pos m)
  rw [d] at f
  rw [e] at g
  rw [← Int.natCast_mul]
  generalize k * 2 ^ m = z at *
  omega
theorem pow_one_of {n : Int} {i j : Nat} (h0 : 1152921504606846976 ≤ n * ((2 ^ i : Nat) : Int)) (h1 : n * ((2 ^ j : Nat) : Int) < 2305843009213693952) : j ≤ i := by
  rcases Nat.lt_or_ge i j with h | h
  · exfalso
    obtain ⟨d, rfl⟩ : ∃ d, j = i + 1 + d := ⟨j - (i + 1), by omega⟩
    rw [Nat.pow_add, Nat.pow_succ, Int.natCast_mul, Int.natCast_mul, ← Int.mul_assoc, ← Int.mul_assoc] at h1
    have p : (1 : Int) ≤ ((2 ^ d : Nat) : Int) := by have := Nat.two_pow_pos d; omega
    generalize n * ((2 ^ i : Nat) : Int) = z at *
    have : z * 2 * 1 ≤ z * 2 * ((2 ^ d : Nat) : Int) := Int.mul_le_mul_of_nonneg_left p (by omega)
    rw [show (((2 : Nat)) : Int) = 2 from rfl] at h1
    omega
  · exact h
theorem dm_eq {u v : Int} {m : Nat} (h0 : 1152921504606846976 ≤ max u v * ((2 ^ m : Nat) : Int)) (h1 : max u v * ((2 ^ m : Nat) : Int) < 2305843009213693952) : dm u v = m := by
  have p : 0 < max u v := by
    rcases Int.lt_or_le 0 (max u v) with h | h
    · exact h
    · exfalso
      have : max u v * ((2 ^ m : Nat) : Int) ≤ 0 := Int.mul_nonpos_of_nonpos_of_nonneg h (Int.natCast_nonneg _)
      omega
  have q : max u v < 2305843009213693952 := by
    have : (1 : Int) ≤ ((2 ^ m : Nat) : Int) := by have := Nat.two_pow_pos m; omega
    have : max u v * 1 ≤ max u v * ((2 ^ m : Nat) : Int) := Int.mul_le_mul_of_nonneg_left this (Int.le_of_lt p)
    omega
  have s := dm_spec p q
  have a := pow_one_of s.1 h1
  have b := pow_one_of h0 s.2
  omega
/-- The direction of a place of the first quarter, in 2^-40s of it. -/
def dirq (u v : Int) : Nat := dir (u * ((2 ^ dm u v : Nat) : Int)) (v * ((2 ^ dm u v : Nat) : Int))
def qd (x y : Int) : Nat := if 0 < x ∧ 0 ≤ y then 0 else if 0 < y ∧ x ≤ 0 then 1 else if x < 0 ∧ y ≤ 0 then 2 else 3
def uvq (x y : Int) : Int × Int := if 0 < x ∧ 0 ≤ y then (x, y) else if 0 < y ∧ x ≤ 0 then (y, -x) else if x < 0 ∧ y ≤ 0 then (-x, -y) else (-y, x)
def told (F : Nat) : Int := (5898240 * (F : Int) + 549755813888) / 1099511627776
def atr (y x : Int) : Int := 5898240 * (qd x y : Int) + told (dirq (uvq x y).1 (uvq x y).2)
/-- The direction of a place. -/
def atn (y x : Int) : Int := if atr y x = 23592960 then 0 else atr y x
theorem told_in {F : Nat} (h : F < 2 ^ 40) : 0 ≤ told F ∧ told F ≤ 5898240 := by unfold told; omega
theorem dirq_lt (u v : Int) : dirq u v < 2 ^ 40 := dir_lt _ _
theorem uv_pos {x y : Int} (h : ¬ (x = 0 ∧ y = 0)) : 0 ≤ (uvq x y).1 ∧ 0 ≤ (uvq x y).2 ∧ 0 < (uvq x y).1 := by
  unfold uvq
  split
  · simp only; omega
  · split
    · simp only; omega
    · split <;> (simp only; omega)
theorem atn_in {y x : Int} (h : ¬ (x = 0 ∧ y = 0)) : 0 ≤ atn y x ∧ atn y x < 23592960 := by
  have t := told_in (dirq_lt (uvq x y).1 (uvq x y).2)
  have q : qd x y ≤ 3 := by unfold qd; split; omega; split; omega; split <;> omega
  unfold atn atr
  split <;> omega
theorem qd_turn {x y : Int} (h : ¬ (x = 0 ∧ y = 0)) : qd (-y) x = (qd x y + 1) % 4 ∧ uvq (-y) x = uvq x y := by
  unfold qd uvq
  by_cases h1 : 0 < x ∧ 0 ≤ y
  · rw [if_pos h1, if_pos h1, if_neg (by omega), if_pos (by omega), if_neg (by omega), if_pos (by omega)]
    exact ⟨rfl, by ext <;> simp⟩
  · by_cases h2 : 0 < y ∧ x ≤ 0
    · rw [if_neg h1, if_neg h1, if_pos h2, if_pos h2, if_neg (by omega), if_neg (by omega), if_pos (by omega), if_neg (by omega), if_neg (by omega), if_pos (by omega)]
      exact ⟨rfl, by ext <;> simp⟩
    · by_cases h3 : x < 0 ∧ y ≤ 0
      · rw [if_neg h1, if_neg h1, if_neg h2, if_neg h2, if_pos h3, if_pos h3, if_neg (by omega), if_neg (by omega), if_neg (by omega), if_neg (by omega), if_neg (by omega), if_neg (by omega)]
        exact ⟨rfl, by ext <;> simp⟩
      · rw [if_neg h1, if_neg h1, if_neg h2, if_neg h2, if_neg h3, if_neg h3, if_pos (by omega), if_pos (by omega)]
        exact ⟨rfl, rfl⟩
theorem atn_turn {y x : Int} (h : ¬ (x = 0 ∧ y = 0)) : atn x (-y) = (atn y x + 5898240) % 23592960 := by
  obtain ⟨h1, h2⟩ := qd_turn h
  have t := told_in (dirq_lt (uvq x y).1 (uvq x y).2)
  have q : qd x y ≤ 3 := by unfold qd; split; omega; split; omega; split <;> omega
  unfold atn atr
  rw [h1, h2]
  generalize told (dirq (uvq x y).1 (uvq x y).2) = m at *
  generalize qd x y = n at *
  split <;> split <;> omega
theorem max_mul {u v k : Int} (hk : 0 < k) : max (u * k) (v * k) = max u v * k := by
  rcases Int.le_total u v with h | h
  · rw [Int.max_eq_right h, Int.max_eq_right (Int.mul_le_mul_of_nonneg_right h (Int.le_of_lt hk))]
  · rw [Int.max_eq_left h, Int.max_eq_left (Int.mul_le_mul_of_nonneg_right h (Int.le_of_lt hk))]
theorem dirq_far {u v : Int} {k : Nat} (h0 : 0 < max u v) (h1 : max u v * ((2 ^ k : Nat) : Int) < 2305843009213693952) : dirq (u * ((2 ^ k : Nat) : Int)) (v * ((2 ^ k : Nat) : Int)) = dirq u v := by
  have hk : 0 < ((2 ^ k : Nat) : Int) := by have := Nat.two_pow_pos k; omega
  have l : max u v < 2305843009213693952 := by
    have : max u v * 1 ≤ max u v * ((2 ^ k : Nat) : Int) := Int.mul_le_mul_of_nonneg_left (by omega) (Int.le_of_lt h0)
    omega
  have s := dm_spec h0 l
  have le : k ≤ dm u v := pow_one_of s.1 h1
  obtain ⟨d, hd⟩ : ∃ d, dm u v = k + d := ⟨dm u v - k, by omega⟩
  have e : dm (u * ((2 ^ k : Nat) : Int)) (v * ((2 ^ k : Nat) : Int)) = d := by
    refine dm_eq ?_ ?_ <;> (rw [max_mul hk, Int.mul_assoc, ← Int.natCast_mul, ← Nat.pow_add, ← hd]; first | exact s.1 | exact s.2)
  unfold dirq
  rw [e, hd, Nat.pow_add, Int.natCast_mul, Int.mul_assoc, Int.mul_assoc]
theorem uv_far {x y k : Int} (hk : 0 < k) : qd (x * k) (y * k) = qd x y ∧ uvq (x * k) (y * k) = ((uvq x y).1 * k, (uvq x y).2 * k) := by
  have p (z : Int) : (0 < z * k ↔ 0 < z) ∧ (z * k < 0 ↔ z < 0) ∧ (0 ≤ z * k ↔ 0 ≤ z) ∧ (z * k ≤ 0 ↔ z ≤ 0) := by
    have a : 0 < z → 0 < z * k := fun h => Int.mul_pos h hk
    have b : z < 0 → z * k < 0 := fun h => Int.mul_neg_of_neg_of_pos h hk
    have c : z = 0 → z * k = 0 := fun h => by rw [h, Int.zero_mul]
    omega
  obtain ⟨a1, a2, a3, a4⟩ := p x
  obtain ⟨b1, b2, b3, b4⟩ := p y
  unfold qd uvq
  simp only [a1, a2, a3, a4, b1, b2, b3, b4]
  refine ⟨trivial, ?_⟩
  split
  · rfl
  · split
    · simp only [Int.neg_mul]
    · split <;> simp only [Int.neg_mul]
theorem uv_max {x y : Int} (h : ¬ (x = 0 ∧ y = 0)) : 0 < max (uvq x y).1 (uvq x y).2 ∧ max (uvq x y).1 (uvq x y).2 ≤ max (max x (-x)) (max y (-y)) := by
  have p := uv_pos h
  refine ⟨by omega, ?_⟩
  unfold uvq
  split
  · simp only; omega
  · split
    · simp only; omega
    · split <;> (simp only; omega)
theorem atn_far {y x : Int} {k : Nat} (h : ¬ (x = 0 ∧ y = 0)) (h1 : max (max x (-x)) (max y (-y)) * ((2 ^ k : Nat) : Int) < 2305843009213693952) : atn (y * ((2 ^ k : Nat) : Int)) (x * ((2 ^ k : Nat) : Int)) = atn y x := by
  have hk : 0 < ((2 ^ k : Nat) : Int) := by have := Nat.two_pow_pos k; omega
  obtain ⟨e1, e2⟩ := uv_far (x := x) (y := y) hk
  obtain ⟨m1, m2⟩ := uv_max h
  have l : max (uvq x y).1 (uvq x y).2 * ((2 ^ k : Nat) : Int) < 2305843009213693952 := Int.lt_of_le_of_lt (Int.mul_le_mul_of_nonneg_right m2 (Int.le_of_lt hk)) h1
  unfold atn atr
  rw [e1, e2]
  simp only
  rw [dirq_far m1 l]
theorem long_bd {u v : Int} (hu : 0 ≤ u) (hv : 0 ≤ v) (h0 : 0 < max u v) (h1 : max u v < 2305843009213693952) :
    0 ≤ u * ((2 ^ dm u v : Nat) : Int) ∧ 0 ≤ v * ((2 ^ dm u v : Nat) : Int) ∧ (1152921504606846976 ≤ u * ((2 ^ dm u v : Nat) : Int) ∨ 1152921504606846976 ≤ v * ((2 ^ dm u v : Nat) : Int)) ∧ u * ((2 ^ dm u v : Nat) : Int) < 2305843009213693952 ∧ v * ((2 ^ dm u v : Nat) : Int) < 2305843009213693952 ∧ Bd (u * ((2 ^ dm u v : Nat) : Int), v * ((2 ^ dm u v : Nat) : Int)) 4611686018427387904 := by
  have s := dm_spec h0 h1
  have hk : 0 < ((2 ^ dm u v : Nat) : Int) := by have := Nat.two_pow_pos (dm u v); omega
  rw [← max_mul hk] at s
  have a := Int.mul_nonneg hu (Int.le_of_lt hk)
  have b := Int.mul_nonneg hv (Int.le_of_lt hk)
  generalize u * ((2 ^ dm u v : Nat) : Int) = x at *
  generalize v * ((2 ^ dm u v : Nat) : Int) = y at *
  refine ⟨a, b, by omega, by omega, by omega, by decide, ?_⟩
  have p := Int.mul_le_mul (show x ≤ 2305843009213693952 by omega) (show x ≤ 2305843009213693952 by omega) a (by decide)
  have q := Int.mul_le_mul (show y ≤ 2305843009213693952 by omega) (show y ≤ 2305843009213693952 by omega) b (by decide)
  unfold nn
  simp only
  omega
theorem dirq_mirror {u v : Int} (hu : 0 ≤ u) (hv : 0 ≤ v) (h0 : 0 < max u v) (h1 : max u v < 2305843009213693952) : dirq u v + dirq v u ≤ 2 ^ 40 ∧ 2 ^ 40 ≤ dirq u v + dirq v u + 2 := by
  obtain ⟨a, b, c, _, _, d⟩ := long_bd hu hv h0 h1
  have e : dm v u = dm u v := by unfold dm; rw [Int.max_comm]
  unfold dirq
  rw [e]
  exact dir_mirror a b c d
theorem told_mirror {F K : Nat} (h1 : F + K ≤ 2 ^ 40) (h2 : 2 ^ 40 ≤ F + K + 2) : told F + told K - 5898240 ≤ 1 ∧ -1 ≤ told F + told K - 5898240 := by
  unfold told; omega
theorem atn_mirror {y x : Int} (hy : 0 < y) (hx : 0 < x) (ly : y < 2305843009213693952) (lx : x < 2305843009213693952) :
    (atn y x + atn x y - 5898240 ≤ 1 ∧ -1 ≤ atn y x + atn x y - 5898240) ∧ ((atn y x + atn (-y) x) % 23592960 ≤ 1 ∨ 23592959 ≤ (atn y x + atn (-y) x) % 23592960) ∧ atn y x ≤ 5898240 := by
  have q1 : qd x y = 0 := by unfold qd; rw [if_pos ⟨hx, by omega⟩]
  have q2 : qd y x = 0 := by unfold qd; rw [if_pos ⟨hy, by omega⟩]
  have q3 : qd x (-y) = 3 := by unfold qd; rw [if_neg (by omega), if_neg (by omega), if_neg (by omega)]
  have u1 : uvq x y = (x, y) := by unfold uvq; rw [if_pos ⟨hx, by omega⟩]
  have u2 : uvq y x = (y, x) := by unfold uvq; rw [if_pos ⟨hy, by omega⟩]
  have u3 : uvq x (-y) = (y, x) := by unfold uvq; rw [if_neg (by omega), if_neg (by omega), if_neg (by omega)]; ext <;> simp
  have m := dirq_mirror (u := x) (v := y) (by omega) (by omega) (by omega) (by omega)
  have t := told_mirror m.1 m.2
  have t1 := told_in (dirq_lt x y)
  have t2 := told_in (dirq_lt y x)
  unfold atn atr
  rw [q1, q2, q3, u1, u2, u3]
  simp only
  generalize told (dirq x y) = F at *
  generalize told (dirq y x) = K at *
  clear m q1 q2 q3 u1 u2 u3
  rw [if_neg (by omega), if_neg (by omega)]
  split <;> omega
/-- A quarter's cosine and sine lead back. -/
theorem dirq_back {c s : Int} {f : Nat} (hf : f < 2 ^ 40) (ec : c = c46 (ZZ f).1) (es : s = c46 (ZZ f).2) : dirq c s ≤ f + 7553500 ∧ f ≤ dirq c s + 7553501 := by
  have k := c46_quad f
  have ci := circle f
  rw [← ec, ← es] at k ci
  have big : 32768 ≤ max c s := by
    rcases Int.lt_or_le (max c s) 32768 with h | h
    · exfalso
      have p := Int.mul_le_mul (show c ≤ 32768 by omega) (show c ≤ 32768 by omega) k.1 (by decide)
      have q := Int.mul_le_mul (show s ≤ 32768 by omega) (show s ≤ 32768 by omega) k.2.2.1 (by decide)
      generalize c * c = x at *
      generalize s * s = y at *
      omega
    · exact h
  obtain ⟨a, b, c1, _, _, d⟩ := long_bd k.1 k.2.2.1 (by omega) (by omega)
  by_cases h : max c s = 65536
  · have e : dm c s = 44 := dm_eq (by rw [h]; decide) (by rw [h]; decide)
    unfold dirq
    rw [e] at a b c1 d ⊢
    refine dir_back (P := 4) (.inr rfl) a b c1 d hf ?_ ?_
    · rw [← ec]; omega
    · rw [← es]; omega
  · have e : dm c s = 45 := by
      have p : ((2 ^ 45 : Nat) : Int) = 35184372088832 := by decide
      exact dm_eq (by rw [p]; omega) (by rw [p]; omega)
    unfold dirq
    rw [e] at a b c1 d ⊢
    have p : ((2 ^ 45 : Nat) : Int) = 35184372088832 := by decide
    rw [p] at *
    refine dir_back (P := 2) (.inl rfl) a b c1 d hf ?_ ?_
    · rw [← ec]; omega
    · rw [← es]; omega
end Go.Proofs.Ythfgeopldbcniaa
