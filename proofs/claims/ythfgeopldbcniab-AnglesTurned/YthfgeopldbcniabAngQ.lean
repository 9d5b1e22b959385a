/- From 0 to 90 degrees the sine never falls, the cosine never rises. Plain arithmetic that names no program. -/
import Derived.Test.YthfgeopldbcniabAngP
namespace Go.Proofs.Ythfgeopldbcniab
set_option linter.unusedVariables false
set_option linter.unusedSimpArgs false
theorem ZZ_d1 : ZZ 186413 = (4611686018427224350, 1228162908980) := by decide +kernel
theorem ZZ_d2 : ZZ 186414 = (4611686018427224348, 1228169497377) := by decide +kernel
/-- What is near is near in each number. -/
theorem Nr.parts {a b : Int × Int} {r : Int} (h : Nr a b r) : a.1 - b.1 ≤ r ∧ b.1 - a.1 ≤ r ∧ a.2 - b.2 ≤ r ∧ b.2 - a.2 ≤ r := by
  have x := see_le (u := (1, 0)) (by decide) h
  have y := see_le (u := (0, 1)) (by decide) h
  unfold see cd at x y
  simp only [Int.one_mul, Int.zero_mul, Int.add_zero, Int.zero_add] at x y
  omega
theorem Bd.parts {a : Int × Int} {r : Int} (h : Bd a r) : -r ≤ a.1 ∧ a.1 ≤ r ∧ -r ≤ a.2 ∧ a.2 ≤ r := by
  have x := see_le (u := (1, 0)) (by decide) h
  have y := see_le (u := (0, 1)) (by decide) h
  unfold see at x y
  simp only [Int.one_mul, Int.zero_mul, Int.add_zero, Int.zero_add] at x y
  omega
/-- One of both is no less than half of one. -/
theorem ZZ_half (f : Nat) : 2305843009213693952 ≤ (ZZ f).1 ∨ 2305843009213693952 ≤ (ZZ f).2 := by
  obtain ⟨a, b⟩ := ZZ_quad f
  have n := ZZ_ge f
  unfold nn at n
  generalize (ZZ f).1 = x at *
  generalize (ZZ f).2 = y at *
  have sq : ∀ z : Int, -2000 ≤ z → z < 2305843009213693952 → z * z ≤ 2305843009213693952 * 2305843009213693952 := by
    intro z h0 h1
    rcases Int.le_total 0 z with h | h
    · exact Int.mul_le_mul (Int.le_of_lt h1) (Int.le_of_lt h1) h (by decide)
    · have := Int.mul_le_mul (show -z ≤ 2305843009213693952 by omega) (show -z ≤ 2305843009213693952 by omega) (show 0 ≤ -z by omega) (by decide)
      rw [Int.neg_mul_neg] at this
      exact this
  rcases Int.lt_or_le x 2305843009213693952 with h | h
  · right
    rcases Int.lt_or_le y 2305843009213693952 with k | k
    · exfalso
      have := sq x a h
      have := sq y b k
      generalize x * x = p at *
      generalize y * y = q at *
      omega
    · exact k
  · exact .inl h
theorem ZZ_sum {f d : Nat} (h : f + d < 2 ^ 40) : (ZZ f).1 * (ZZ d).1 - (ZZ f).2 * (ZZ d).2 - 4611686018427387904 * (ZZ (f + d)).1 ≤ 361 * 4611686018427387904 ∧ 4611686018427387904 * (ZZ (f + d)).1 - ((ZZ f).1 * (ZZ d).1 - (ZZ f).2 * (ZZ d).2) ≤ 361 * 4611686018427387904 ∧ (ZZ f).1 * (ZZ d).2 + (ZZ f).2 * (ZZ d).1 - 4611686018427387904 * (ZZ (f + d)).2 ≤ 361 * 4611686018427387904 ∧ 4611686018427387904 * (ZZ (f + d)).2 - ((ZZ f).1 * (ZZ d).2 + (ZZ f).2 * (ZZ d).1) ≤ 361 * 4611686018427387904 := by
  have := (ZZ_add (f := f) (g := d) (h := f + d) (c := 0) (by decide) (by omega) (by omega) h (by omega)).parts
  rw [pick0, cm_real] at this
  unfold cm ck at this
  exact this
theorem step_x {X Y X' xd yd : Int} (hx : 4611686018427387904 - xd ≥ 150000) (hx2 : 0 ≤ 4611686018427387904 - xd) (hx3 : 4611686018427387904 - xd ≤ 170000) (hy : 1200000000000 ≤ yd) (hy2 : yd ≤ 1300000000000) (q : -2000 ≤ X ∧ -2000 ≤ Y) (hh : 2305843009213693952 ≤ X ∨ 2305843009213693952 ≤ Y)
    (h : 4611686018427387904 * X' - (X * xd - Y * yd) ≤ 361 * 4611686018427387904) : X' ≤ X := by
  obtain ⟨a, ha⟩ : ∃ a, 4611686018427387904 - xd = a := ⟨_, rfl⟩
  rw [ha] at hx hx2 hx3
  have e : X * xd = 4611686018427387904 * X - X * a := by rw [← ha]; grind
  rw [e] at h
  have k : 361 * 4611686018427387904 ≤ X * a + Y * yd := by
    rcases hh with g | g
    · have m1 : 2305843009213693952 * 150000 ≤ X * a := Int.mul_le_mul g hx (by decide) (by omega)
      have m2 : -2000 * 1300000000000 ≤ Y * yd := by
        rcases Int.le_total 0 Y with t | t
        · have := Int.mul_nonneg t (show 0 ≤ yd by omega)
          omega
        · have := Int.mul_le_mul (show -Y ≤ 2000 by omega) hy2 (by omega) (by decide)
          rw [Int.neg_mul] at this
          omega
      omega
    · have m1 : 2305843009213693952 * 1200000000000 ≤ Y * yd := Int.mul_le_mul g hy (by decide) (by omega)
      have m2 : -2000 * 170000 ≤ X * a := by
        rcases Int.le_total 0 X with t | t
        · have := Int.mul_nonneg t hx2
          omega
        · have := Int.mul_le_mul (show -X ≤ 2000 by omega) hx3 (by omega) (by decide)
          rw [Int.neg_mul] at this
          omega
      omega
  generalize X * a = m at *
  generalize Y * yd = n at *
  omega
theorem step_y {X Y X' Y' xd yd : Int} (hx : 4611686018427387904 - xd ≤ 170000) (hx0 : 0 ≤ xd) (hx2 : 150000 ≤ 4611686018427387904 - xd) (hy : 1200000000000 ≤ yd) (hy2 : yd ≤ 1300000000000) (q : -2000 ≤ X ∧ -2000 ≤ Y) (q' : -2000 ≤ X') (hY : Y ≤ 4611686018427387984) (hh : 2305843009213693952 ≤ X ∨ 2305843009213693952 ≤ Y) (hc : (4611686018427387904 - xd) * xd + 150000 * 4600000000000000000 ≤ yd * yd)
    (h : X * yd + Y * xd - 4611686018427387904 * Y' ≤ 361 * 4611686018427387904) (h' : 4611686018427387904 * X' - (X * xd - Y * yd) ≤ 361 * 4611686018427387904) : Y ≤ Y' := by
  obtain ⟨a, ha⟩ : ∃ a, 4611686018427387904 - xd = a := ⟨_, rfl⟩
  rw [ha] at hx hx2 hc
  have e : Y * xd = 4611686018427387904 * Y - Y * a := by rw [← ha]; grind
  rw [e] at h
  have k : 361 * 4611686018427387904 ≤ X * yd - Y * a := by
    rcases hh with g | g
    · have m1 : 2305843009213693952 * 1200000000000 ≤ X * yd := Int.mul_le_mul g hy (by decide) (by omega)
      have m2 : Y * a ≤ 4611686018427387984 * 170000 := by
        rcases Int.le_total 0 Y with t | t
        · exact Int.mul_le_mul hY hx (by omega) (by decide)
        · have := Int.mul_nonneg (show 0 ≤ -Y by omega) (show 0 ≤ a by omega)
          rw [Int.neg_mul] at this
          omega
      omega
    · have w : Y * yd - 2361 * 4611686018427387904 ≤ X * xd := by omega
      have w1 := Int.mul_le_mul_of_nonneg_right w (show 0 ≤ yd by omega)
      have w2 := Int.mul_le_mul_of_nonneg_left hc (show 0 ≤ Y by omega)
      have w3 : 2305843009213693952 * (150000 * 4600000000000000000) ≤ Y * (150000 * 4600000000000000000) := Int.mul_le_mul_of_nonneg_right g (by decide)
      rcases Int.lt_or_le (X * yd - Y * a) (361 * 4611686018427387904) with t | t
      · exfalso
        have t1 := Int.mul_lt_mul_of_pos_right t (show 0 < xd by omega)
        have t2 : 361 * 4611686018427387904 * xd ≤ 361 * 4611686018427387904 * 4611686018427387904 := Int.mul_le_mul_of_nonneg_left (by omega) (by decide)
        have t3 : 2361 * 4611686018427387904 * yd ≤ 2361 * 4611686018427387904 * 1300000000000 := Int.mul_le_mul_of_nonneg_left hy2 (by decide)
        have e1 : (Y * yd - 2361 * 4611686018427387904) * yd = Y * (yd * yd) - 2361 * 4611686018427387904 * yd := by grind
        have e2 : (X * yd - Y * a) * xd = X * xd * yd - Y * (a * xd) := by grind
        have e3 : Y * (a * xd + 150000 * 4600000000000000000) = Y * (a * xd) + Y * (150000 * 4600000000000000000) := by grind
        rw [e1] at w1
        rw [e2] at t1
        rw [e3] at w2
        generalize X * xd * yd = p1 at *
        generalize Y * (a * xd) = p2 at *
        generalize Y * (yd * yd) = p3 at *
        generalize 361 * 4611686018427387904 * xd = p4 at *
        generalize 2361 * 4611686018427387904 * yd = p5 at *
        generalize Y * (150000 * 4600000000000000000) = p6 at *
        clear w g hY hc e h h'
        omega
      · exact t
  generalize X * yd = m at *
  generalize Y * a = n at *
  omega
theorem rise_step {f d : Nat} (hd : d = 186413 ∨ d = 186414) (h : f + d < 2 ^ 40) : (ZZ (f + d)).1 ≤ (ZZ f).1 ∧ (ZZ f).2 ≤ (ZZ (f + d)).2 := by
  obtain ⟨s1, s2, s3, s4⟩ := ZZ_sum h
  have q := ZZ_quad f
  have q' := ZZ_quad (f + d)
  have hh := ZZ_half f
  have hp := (ZZ_le f).parts
  rcases hd with rfl | rfl
  · rw [ZZ_d1] at s1 s2 s3 s4
    exact ⟨step_x (by decide) (by decide) (by decide) (by decide) (by decide) q hh s2, step_y (by decide) (by decide) (by decide) (by decide) (by decide) q q'.1 hp.2.2.2 hh (by decide) s3 s2⟩
  · rw [ZZ_d2] at s1 s2 s3 s4
    exact ⟨step_x (by decide) (by decide) (by decide) (by decide) (by decide) q hh s2, step_y (by decide) (by decide) (by decide) (by decide) (by decide) q q'.1 hp.2.2.2 hh (by decide) s3 s2⟩
/-- Which 2^-40ths of a quarter an angle from 0 to below 90 degrees is. -/
def part (r : Nat) : Nat := r * 1099511627776 / 5898240
theorem part_lt {r : Nat} (h : r < 5898240) : part r < 2 ^ 40 := by unfold part; omega
theorem rise {r : Nat} : ∀ n, r + n < 5898240 → (ZZ (part (r + n))).1 ≤ (ZZ (part r)).1 ∧ (ZZ (part r)).2 ≤ (ZZ (part (r + n))).2
  | 0, _ => ⟨Int.le_refl _, Int.le_refl _⟩
  | n + 1, h => by
    have ih := rise (r := r) n (by omega)
    obtain ⟨d, hd, hs⟩ : ∃ d, (d = 186413 ∨ d = 186414) ∧ part (r + n) + d = part (r + (n + 1)) := ⟨part (r + (n + 1)) - part (r + n), by unfold part; omega, by unfold part; omega⟩
    have st := rise_step hd (by rw [hs]; exact part_lt h)
    rw [hs] at st
    exact ⟨Int.le_trans st.1 ih.1, Int.le_trans ih.2 st.2⟩
end Go.Proofs.Ythfgeopldbcniab
