/- 2 to the power of a sum is the product of 2 to the power of both, but for what the statement allows; one more doubles. Plain arithmetic. -/
import Derived.Test.YtbkifcfienhkaaaDoorPowZ
namespace Go.Proofs.YtbkifcfienhkaaaDoor
set_option linter.unusedVariables false
theorem PP_sum {f g h c : Nat} (hf : f < 4294967296) (hg : g < 4294967296) (hh : h < 4294967296) (e : f + g = h + c * 4294967296) :
    PP f * PP g ≤ PP h * 2 ^ c * 4611686018427388001 ∧ PP h * 2 ^ c * (4611686018427387904 * 4611686018427387904) ≤ PP f * PP g * 4611686018427388098 := by
  obtain ⟨E, hE⟩ : ∃ E : Nat, E = 4294967296 := ⟨_, rfl⟩
  have hE0 : E ≠ 0 := by omega
  have uf := PP_up hE hf
  have ug := PP_up hE hg
  have uh := PP_up hE hh
  have lf := PP_lo hE hf
  have lg := PP_lo hE hg
  have lh := PP_lo hE hh
  have ep : 2 ^ f * 2 ^ g = 2 ^ h * (2 ^ c) ^ E := by rw [← Nat.pow_mul, ← Nat.pow_add, ← Nat.pow_add, e, hE]
  have hpos : 0 < 4611686018427387904 ^ E := Nat.pow_pos (by decide)
  have r1 : (PP f * PP g * 4611686018427387904 ^ 95) ^ E ≤ (PP h * 2 ^ c * 4611686018427387905 ^ 96) ^ E := by
    simp only [Nat.mul_pow]
    rw [← Nat.pow_mul 4611686018427387904 95 E, Nat.mul_comm 95 E, Nat.pow_mul 4611686018427387904 E 95, ← Nat.pow_mul 4611686018427387905 96 E, Nat.mul_comm 96 E, Nat.pow_mul 4611686018427387905 E 96]
    rw [Nat.pow_succ (4611686018427387904 ^ E) 95] at lh
    generalize 4611686018427387904 ^ E = a at *
    generalize (4611686018427387905 ^ E) ^ 96 = d at *
    generalize a ^ 95 = an at *
    generalize PP f ^ E = x at *
    generalize PP g ^ E = y at *
    generalize PP h ^ E = z at *
    generalize 2 ^ f = p at *
    generalize 2 ^ g = q at *
    generalize 2 ^ h = r at *
    generalize (2 ^ c) ^ E = k at *
    calc x * y * an ≤ a * p * (a * q) * an := Nat.mul_le_mul_right _ (Nat.mul_le_mul uf ug)
      _ = p * q * (a * a * an) := by ac_rfl
      _ = r * k * (a * a * an) := by rw [ep]
      _ = a * r * (an * a) * k := by ac_rfl
      _ ≤ z * d * k := Nat.mul_le_mul_right _ lh
      _ = z * k * d := by ac_rfl
  have r2 : (PP h * 2 ^ c * 4611686018427387904 ^ 193) ^ E ≤ (PP f * PP g * 4611686018427387905 ^ 192) ^ E := by
    simp only [Nat.mul_pow]
    rw [← Nat.pow_mul 4611686018427387904 193 E, Nat.mul_comm 193 E, Nat.pow_mul 4611686018427387904 E 193, ← Nat.pow_mul 4611686018427387905 192 E, Nat.mul_comm 192 E, Nat.pow_mul 4611686018427387905 E 192]
    rw [show (193 : Nat) = 96 + 96 + 1 from rfl, show (192 : Nat) = 96 + 96 from rfl, Nat.pow_add _ (96 + 96) 1, Nat.pow_add _ 96 96, Nat.pow_add _ 96 96, Nat.pow_one]
    generalize 4611686018427387904 ^ E = a at *
    generalize (4611686018427387905 ^ E) ^ 96 = d at *
    generalize a ^ 96 = an at *
    generalize PP f ^ E = x at *
    generalize PP g ^ E = y at *
    generalize PP h ^ E = z at *
    generalize 2 ^ f = p at *
    generalize 2 ^ g = q at *
    generalize 2 ^ h = r at *
    generalize (2 ^ c) ^ E = k at *
    calc z * k * (an * an * a) ≤ a * r * k * (an * an * a) := Nat.mul_le_mul_right _ (Nat.mul_le_mul_right _ uh)
      _ = r * k * (a * a * (an * an)) := by ac_rfl
      _ = p * q * (a * a * (an * an)) := by rw [ep]
      _ = a * p * an * (a * q * an) := by ac_rfl
      _ ≤ x * d * (y * d) := Nat.mul_le_mul lf lg
      _ = x * y * (d * d) := by ac_rfl
  have s1 := (Nat.pow_le_pow_iff_left hE0).1 r1
  have s2 := (Nat.pow_le_pow_iff_left hE0).1 r2
  clear r1 r2 uf ug uh lf lg lh ep hpos
  have c1 : 4611686018427387905 ^ 96 * 4611686018427387904 ≤ 4611686018427388001 * 4611686018427387904 ^ 96 := by decide +kernel
  have c2 : 4611686018427387905 ^ 192 ≤ 4611686018427388098 * 4611686018427387904 ^ 191 := by decide +kernel
  have p1 : 0 < 4611686018427387904 ^ 96 := Nat.pow_pos (by decide)
  have p2 : 0 < 4611686018427387904 ^ 191 := Nat.pow_pos (by decide)
  refine ⟨?_, ?_⟩
  · rw [Nat.pow_succ 4611686018427387904 95] at c1 p1
    generalize 4611686018427387904 ^ 95 = a at *
    generalize 4611686018427387905 ^ 96 = d at *
    generalize PP h * 2 ^ c = z at *
    generalize PP f * PP g = x at *
    refine Nat.le_of_mul_le_mul_right (c := a * 4611686018427387904) ?_ p1
    calc x * (a * 4611686018427387904) = x * a * 4611686018427387904 := by ac_rfl
      _ ≤ z * d * 4611686018427387904 := Nat.mul_le_mul_right _ s1
      _ = z * (d * 4611686018427387904) := by ac_rfl
      _ ≤ z * (4611686018427388001 * (a * 4611686018427387904)) := Nat.mul_le_mul_left _ c1
      _ = z * 4611686018427388001 * (a * 4611686018427387904) := by ac_rfl
  · rw [Nat.pow_succ 4611686018427387904 192, Nat.pow_succ 4611686018427387904 191] at s2
    generalize 4611686018427387904 ^ 191 = a at *
    generalize 4611686018427387905 ^ 192 = d at *
    generalize PP h * 2 ^ c = z at *
    generalize PP f * PP g = x at *
    refine Nat.le_of_mul_le_mul_right (c := a) ?_ p2
    calc z * (4611686018427387904 * 4611686018427387904) * a = z * (a * 4611686018427387904 * 4611686018427387904) := by ac_rfl
      _ ≤ x * d := s2
      _ ≤ x * (4611686018427388098 * a) := Nat.mul_le_mul_left _ c2
      _ = x * 4611686018427388098 * a := by ac_rfl
theorem AA_sum {a b : Int} (ha : -17 ≤ a / 65536) (hb : -17 ≤ b / 65536) (hs : -17 ≤ (a + b) / 65536) :
    AA (a * 65536) * AA (b * 65536) ≤ AA ((a + b) * 65536) * 131072 * 4611686018427388001 ∧ AA ((a + b) * 65536) * 131072 * (4611686018427387904 * 4611686018427387904) ≤ AA (a * 65536) * AA (b * 65536) * 4611686018427388098 := by
  obtain ⟨c, hc⟩ : ∃ c : Nat, (c : Int) = (a + b) / 65536 - a / 65536 - b / 65536 := ⟨((a + b) / 65536 - a / 65536 - b / 65536).toNat, by omega⟩
  have h := PP_sum (f := (a * 65536 % 4294967296).toNat) (g := (b * 65536 % 4294967296).toNat) (h := ((a + b) * 65536 % 4294967296).toNat) (c := c) (by omega) (by omega) (by omega) (by omega)
  unfold AA
  obtain ⟨i, hi⟩ : ∃ i : Nat, (a * 65536 / 4294967296 + 17).toNat = i := ⟨_, rfl⟩
  obtain ⟨j, hj⟩ : ∃ j : Nat, (b * 65536 / 4294967296 + 17).toNat = j := ⟨_, rfl⟩
  obtain ⟨k, hk⟩ : ∃ k : Nat, ((a + b) * 65536 / 4294967296 + 17).toNat = k := ⟨_, rfl⟩
  have hijk : c + (i + j) = k + 17 := by omega
  rw [hi, hj, hk]
  have e2 : 2 ^ c * (2 ^ i * 2 ^ j) = 2 ^ k * 131072 := by
    rw [← Nat.pow_add, ← Nat.pow_add, hijk, Nat.pow_add]
  obtain ⟨h1, h2⟩ := h
  generalize PP (a * 65536 % 4294967296).toNat = x at *
  generalize PP (b * 65536 % 4294967296).toNat = y at *
  generalize PP ((a + b) * 65536 % 4294967296).toNat = z at *
  generalize 2 ^ i = u at *
  generalize 2 ^ j = v at *
  generalize 2 ^ k = w at *
  generalize 2 ^ c = r at *
  refine ⟨?_, ?_⟩
  · calc x * u * (y * v) = x * y * (u * v) := by ac_rfl
      _ ≤ z * r * 4611686018427388001 * (u * v) := Nat.mul_le_mul_right _ h1
      _ = z * (r * (u * v)) * 4611686018427388001 := by ac_rfl
      _ = z * (w * 131072) * 4611686018427388001 := by rw [e2]
      _ = z * w * 131072 * 4611686018427388001 := by ac_rfl
  · calc z * w * 131072 * (4611686018427387904 * 4611686018427387904) = z * (w * 131072) * (4611686018427387904 * 4611686018427387904) := by ac_rfl
      _ = z * (r * (u * v)) * (4611686018427387904 * 4611686018427387904) := by rw [e2]
      _ = z * r * (4611686018427387904 * 4611686018427387904) * (u * v) := by ac_rfl
      _ ≤ x * y * 4611686018427388098 * (u * v) := Nat.mul_le_mul_right _ h2
      _ = x * u * (y * v) * 4611686018427388098 := by ac_rfl
theorem AA_sum_low {a b : Int} (ha : -17 ≤ a / 65536) (hb : -17 ≤ b / 65536) (hs : (a + b) / 65536 ≤ -18) : AA (a * 65536) * AA (b * 65536) ≤ 9223372036854775808 * 65536 * 4611686018427388001 := by
  obtain ⟨c, hc⟩ : ∃ c : Nat, (c : Int) = (a + b) / 65536 - a / 65536 - b / 65536 := ⟨((a + b) / 65536 - a / 65536 - b / 65536).toNat, by omega⟩
  have h := (PP_sum (f := (a * 65536 % 4294967296).toNat) (g := (b * 65536 % 4294967296).toNat) (h := ((a + b) * 65536 % 4294967296).toNat) (c := c) (by omega) (by omega) (by omega) (by omega)).1
  have hz := PP_lt ((a + b) * 65536 % 4294967296).toNat
  unfold AA
  obtain ⟨i, hi⟩ : ∃ i : Nat, (a * 65536 / 4294967296 + 17).toNat = i := ⟨_, rfl⟩
  obtain ⟨j, hj⟩ : ∃ j : Nat, (b * 65536 / 4294967296 + 17).toNat = j := ⟨_, rfl⟩
  have hijk : c + (i + j) ≤ 16 := by omega
  rw [hi, hj]
  have e2 : 2 ^ c * (2 ^ i * 2 ^ j) ≤ 65536 := by
    rw [← Nat.pow_add, ← Nat.pow_add]
    exact Nat.pow_le_pow_right (n := 2) (by decide) hijk
  generalize PP (a * 65536 % 4294967296).toNat = x at *
  generalize PP (b * 65536 % 4294967296).toNat = y at *
  generalize PP ((a + b) * 65536 % 4294967296).toNat = z at *
  generalize 2 ^ i = u at *
  generalize 2 ^ j = v at *
  generalize 2 ^ c = r at *
  calc x * u * (y * v) = x * y * (u * v) := by ac_rfl
    _ ≤ z * r * 4611686018427388001 * (u * v) := Nat.mul_le_mul_right _ h
    _ = z * (r * (u * v)) * 4611686018427388001 := by ac_rfl
    _ ≤ 9223372036854775808 * 65536 * 4611686018427388001 := Nat.mul_le_mul_right _ (Nat.mul_le_mul (Nat.le_of_lt hz) e2)
theorem AA_le {e : Int} (h0 : -17 ≤ e / 4294967296) (h1 : e / 4294967296 ≤ 14) : AA e ≤ 19807040628566084398385987584 := by
  unfold AA
  have hp : 2 ^ (e / 4294967296 + 17).toNat ≤ 2 ^ 31 := Nat.pow_le_pow_right (by decide) (by omega)
  exact Nat.mul_le_mul (Nat.le_of_lt (PP_lt _)) hp
theorem exq_low {a : Int} (h : a / 65536 ≤ -18) : exq a = 0 := by
  unfold exq two nst
  rw [if_neg (by omega), if_pos (by omega)]
  decide
theorem exq_NN {a : Int} (h : -17 ≤ a / 65536) (hm : exq a ≠ 2147483647) : exq a = NN (a * 65536) := by
  have e : exq a = held (NN (a * 65536)) := (two_NN (by omega)).1
  have k := (NN_is (a * 65536)).2.2
  rw [e] at hm ⊢
  unfold held at *
  split at hm
  · omega
  · split at hm
    · omega
    · rw [if_neg (by assumption), if_neg (by assumption)]
theorem exq_NN_le {a : Int} (h : -17 ≤ a / 65536) : exq a ≤ NN (a * 65536) := by
  have e : exq a = held (NN (a * 65536)) := (two_NN (by omega)).1
  have k := (NN_is (a * 65536)).2.2
  rw [e]
  unfold held
  split
  · omega
  · split <;> omega
theorem exq_0 (a : Int) : 0 ≤ exq a := by
  have := two_in (a * 65536)
  unfold exq held
  split
  · omega
  · split <;> omega
theorem two_sums (k h x y : Nat) : (k * x + h) * (k * y + h) = k * k * (x * y) + k * h * (x + y) + h * h := by
  rw [Nat.add_mul, Nat.mul_add, Nat.mul_add, Nat.mul_add (k * h) x y]
  rw [show k * x * (k * y) = k * k * (x * y) by ac_rfl, show k * x * h = k * h * x by ac_rfl, show h * (k * y) = k * h * y by ac_rfl]
  omega
theorem mul_in (x y A B : Nat) (h1 : 9223372036854775808 * x ≤ A + 4611686018427387904) (h2 : A + 4611686018427387904 < 9223372036854775808 * x + 9223372036854775808) (h3 : 9223372036854775808 * y ≤ B + 4611686018427387904) (h4 : B + 4611686018427387904 < 9223372036854775808 * y + 9223372036854775808) :
    85070591730234615865843651857942052864 * (x * y) ≤ A * B + 4611686018427387904 * (A + B) + 21267647932558653966460912964485513216 ∧ A * B ≤ 85070591730234615865843651857942052864 * (x * y) + 42535295865117307932921825928971026432 * (x + y) + 21267647932558653966460912964485513216 := by
  have k1 := Nat.mul_le_mul h1 h3
  have k2 := Nat.mul_le_mul (show A ≤ 9223372036854775808 * x + 4611686018427387904 by omega) (show B ≤ 9223372036854775808 * y + 4611686018427387904 by omega)
  have e1 : 9223372036854775808 * x * (9223372036854775808 * y) = 85070591730234615865843651857942052864 * (x * y) := by rw [Nat.mul_mul_mul_comm]
  have e2 : (A + 4611686018427387904) * (B + 4611686018427387904) = A * B + 4611686018427387904 * (A + B) + 21267647932558653966460912964485513216 := by
    rw [Nat.add_mul, Nat.mul_add, Nat.mul_add, show (4611686018427387904 * 4611686018427387904 : Nat) = 21267647932558653966460912964485513216 from rfl]; omega
  have e3 : (9223372036854775808 * x + 4611686018427387904) * (9223372036854775808 * y + 4611686018427387904) = 85070591730234615865843651857942052864 * (x * y) + 42535295865117307932921825928971026432 * (x + y) + 21267647932558653966460912964485513216 := two_sums 9223372036854775808 4611686018427387904 x y
  rw [e1, e2] at k1
  rw [e3] at k2
  exact ⟨k1, k2⟩
theorem sum_d2 {C p : Nat} (c1 : C ≤ 19807040628566084398385987584) (s1 : p ≤ C * 604462909807314600067072) : p ≤ C * 604462909807314587353088 + 251826397638939139983729071967174656 := by
  calc p ≤ C * 604462909807314600067072 := s1
    _ = C * (604462909807314587353088 + 12713984) := rfl
    _ = C * 604462909807314587353088 + C * 12713984 := Nat.mul_add _ _ _
    _ ≤ C * 604462909807314587353088 + 19807040628566084398385987584 * 12713984 := Nat.add_le_add_left (Nat.mul_le_mul_right _ c1) _
    _ = C * 604462909807314587353088 + 251826397638939139983729071967174656 := rfl
theorem sum_d1 {C p : Nat} (c1 : C ≤ 19807040628566084398385987584) (s1 : p ≤ C * 604462909807314600067072) (s2 : C * 2787593149816327892691964784081045188247552 ≤ p * 4611686018427388098) : C * 604462909807314587353088 ≤ p + 1007331115996888577450086137397248000 := by
  refine Nat.le_of_mul_le_mul_right (c := 4611686018427387904) ?_ (by decide)
  calc C * 604462909807314587353088 * 4611686018427387904 = C * (604462909807314587353088 * 4611686018427387904) := Nat.mul_assoc _ _ _
    _ = C * 2787593149816327892691964784081045188247552 := rfl
    _ ≤ p * 4611686018427388098 := s2
    _ = p * (4611686018427387904 + 194) := rfl
    _ = p * 4611686018427387904 + p * 194 := Nat.mul_add _ _ _
    _ ≤ p * 4611686018427387904 + 19807040628566084398385987584 * 604462909807314600067072 * 194 := Nat.add_le_add_left (Nat.mul_le_mul_right _ (Nat.le_trans s1 (Nat.mul_le_mul_right _ c1))) _
    _ ≤ p * 4611686018427387904 + 1007331115996888577450086137397248000 * 4611686018427387904 := Nat.add_le_add_left (by decide) _
    _ = (p + 1007331115996888577450086137397248000) * 4611686018427387904 := (Nat.add_mul _ _ _).symm
/-- What is lost in a sum whose one part is next to nothing. -/
theorem sums_low {a b : Int} (ha : a / 65536 ≤ -18) (hb1 : b < 983040) (hy : exq b ≠ 2147483647) : 1048576 * exq (a + b) ≤ 9 * (65536 + exq b) + 16 := by
  have h1 := exq_le (show a + b ≤ b - 1114112 by omega)
  have y0 := exq_0 b
  by_cases hb : 0 ≤ b / 65536
  · have h2 := exq_NN_le (a := b - 1114112) (by omega)
    obtain ⟨k1, _, _⟩ := NN_is ((b - 1114112) * 65536)
    have h3 := exq_NN (a := b) (by omega) hy
    obtain ⟨_, m2, _⟩ := NN_is (b * 65536)
    have e : AA (b * 65536) = AA ((b - 1114112) * 65536) * 131072 := by
      unfold AA
      rw [show (b - 1114112) * 65536 % 4294967296 = b * 65536 % 4294967296 by omega, show (b * 65536 / 4294967296 + 17).toNat = ((b - 1114112) * 65536 / 4294967296 + 17).toNat + 17 by omega, Nat.pow_add, Nat.mul_assoc]
    rw [← h3] at m2
    rw [e] at m2
    generalize AA ((b - 1114112) * 65536) = q at *
    generalize NN ((b - 1114112) * 65536) = n at *
    generalize exq (b - 1114112) = t at *
    generalize exq b = y at *
    generalize exq (a + b) = z at *
    omega
  · have h2 := exq_low (a := b - 1114112) (by omega)
    omega
theorem sums_near {a b : Int} (ha1 : a < 983040) (hb1 : b < 983040) (hs1 : a + b < 983040) (hx : exq a ≠ 2147483647) (hy : exq b ≠ 2147483647) (hz : exq (a + b) ≠ 2147483647) :
    16 * (exq (a + b) * 65536 - exq a * exq b) ≤ 9 * (65536 + exq a + exq b) + 16 ∧ 16 * (exq a * exq b - exq (a + b) * 65536) ≤ 9 * (65536 + exq a + exq b) + 16 := by
  have z0 := exq_0 (a + b)
  by_cases ha : a / 65536 ≤ -18
  · rw [exq_low ha, Int.zero_mul]
    have := sums_low ha hb1 hy
    have y0 := exq_0 b
    omega
  · by_cases hb : b / 65536 ≤ -18
    · rw [exq_low hb, Int.mul_zero]
      have := sums_low hb ha1 hx
      rw [Int.add_comm b a] at this
      have x0 := exq_0 a
      omega
    · have ex := exq_NN (a := a) (by omega) hx
      have ey := exq_NN (a := b) (by omega) hy
      obtain ⟨p1, p2, p3⟩ := NN_is (a * 65536)
      obtain ⟨q1, q2, q3⟩ := NN_is (b * 65536)
      rw [← ex] at p1 p2 p3
      rw [← ey] at q1 q2 q3
      obtain ⟨x, hxx⟩ : ∃ x : Nat, (x : Int) = exq a := ⟨(exq a).toNat, by omega⟩
      obtain ⟨y, hyy⟩ : ∃ y : Nat, (y : Int) = exq b := ⟨(exq b).toNat, by omega⟩
      rw [← hxx] at p1 p2 ⊢
      rw [← hyy] at q1 q2 ⊢
      obtain ⟨m1, m2⟩ := mul_in x y (AA (a * 65536)) (AA (b * 65536)) (by omega) (by omega) (by omega) (by omega)
      rw [← Int.natCast_mul]
      by_cases hs : (a + b) / 65536 ≤ -18
      · have hl := AA_sum_low (a := a) (b := b) (by omega) (by omega) hs
        rw [exq_low hs]
        generalize AA (a * 65536) * AA (b * 65536) = p at *
        generalize AA (a * 65536) = A at *
        generalize AA (b * 65536) = B at *
        generalize x * y = t at *
        clear ex ey hxx hyy hx hy hz
        omega
      · have ez := exq_NN (a := a + b) (by omega) hz
        obtain ⟨r1, r2, r3⟩ := NN_is ((a + b) * 65536)
        rw [← ez] at r1 r2 r3
        obtain ⟨s1, s2⟩ := AA_sum (a := a) (b := b) (by omega) (by omega) (by omega)
        have c1 := AA_le (e := (a + b) * 65536) (by omega) (by omega)
        generalize exq (a + b) = z at *
        generalize AA (a * 65536) * AA (b * 65536) = p at *
        generalize AA (a * 65536) = A at *
        generalize AA (b * 65536) = B at *
        generalize AA ((a + b) * 65536) = C at *
        generalize x * y = t at *
        clear ex ey ez hxx hyy hx hy hz
        rw [Nat.mul_assoc, show (131072 * 4611686018427388001 : Nat) = 604462909807314600067072 from rfl] at s1
        rw [Nat.mul_assoc, show (131072 * (4611686018427387904 * 4611686018427387904) : Nat) = 2787593149816327892691964784081045188247552 from rfl] at s2
        have d1 := sum_d1 c1 s1 s2
        have d2 := sum_d2 c1 s1
        clear s1 s2
        omega
theorem doubled {a : Int} (h : a < 917504) : (exq (a + 65536) - 2 * exq a ≤ 1 ∧ -1 ≤ exq (a + 65536) - 2 * exq a) ∨ 2147483646 ≤ 2 * exq a := by
  by_cases h1 : a / 65536 ≤ -19
  · rw [exq_low (a := a) (by omega), exq_low (a := a + 65536) (by omega)]; omega
  · by_cases h2 : a / 65536 ≤ -18
    · rw [exq_low h2]
      have k := exq_NN_le (a := a + 65536) (by omega)
      have z := exq_0 (a + 65536)
      obtain ⟨k1, _, _⟩ := NN_is ((a + 65536) * 65536)
      have e : AA ((a + 65536) * 65536) < 9223372036854775808 := by
        unfold AA
        rw [show ((a + 65536) * 65536 / 4294967296 + 17).toNat = 0 by omega, Nat.pow_zero, Nat.mul_one]
        exact PP_lt _
      generalize exq (a + 65536) = u at *
      generalize AA ((a + 65536) * 65536) = A at *
      generalize NN ((a + 65536) * 65536) = n at *
      omega
    · have e1 : exq a = held (NN (a * 65536)) := (two_NN (by omega)).1
      have e2 : exq (a + 65536) = held (NN ((a + 65536) * 65536)) := (two_NN (by omega)).1
      obtain ⟨p1, p2, p3⟩ := NN_is (a * 65536)
      obtain ⟨q1, q2, q3⟩ := NN_is ((a + 65536) * 65536)
      have c := AA_le (e := a * 65536) (by omega) (by omega)
      have e : AA ((a + 65536) * 65536) = AA (a * 65536) * 2 := by
        unfold AA
        rw [show (a + 65536) * 65536 % 4294967296 = a * 65536 % 4294967296 by omega, show ((a + 65536) * 65536 / 4294967296 + 17).toNat = (a * 65536 / 4294967296 + 17).toNat + 1 by omega, Nat.pow_succ, Nat.mul_assoc]
      rw [e] at q1 q2
      rw [e1, e2]
      generalize AA (a * 65536) = A at *
      generalize NN (a * 65536) = n at *
      generalize NN ((a + 65536) * 65536) = m at *
      unfold held
      split <;> split <;> (try split) <;> (try split) <;> omega
end Go.Proofs.YtbkifcfienhkaaaDoor
