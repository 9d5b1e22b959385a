/- All turns of less than a quarter stay in the first quarter, but for some small parts; the sine never falls there, the cosine never rises. Plain arithmetic that names no program. From 0 to 90 degrees the sine never falls, the cosine never rises. Plain arithmetic that names no program. -/
import Derived.Test.YthfgeopldbcniaaAngNO
namespace Go.Proofs.Ythfgeopldbcniaa
set_option linter.unusedVariables false
set_option linter.unusedSimpArgs false
/-- A place seen in the direction u. -/
def see (u z : Int × Int) : Int := u.1 * z.1 + u.2 * z.2
theorem see_le {u z : Int × Int} {r : Int} (hu : nn u ≤ 1) (h : Bd z r) : -r ≤ see u z ∧ see u z ≤ r := by
  have a := dot_le (a := u.1) (b := u.2) (c := z.1) (d := z.2) (r := 1) (s := r) (by unfold nn at hu; omega) h.2 (by decide) h.1
  have b := dot_le (a := -u.1) (b := -u.2) (c := z.1) (d := z.2) (r := 1) (s := r) (by rw [Int.neg_mul_neg, Int.neg_mul_neg]; unfold nn at hu; omega) h.2 (by decide) h.1
  have e : -u.1 * z.1 + -u.2 * z.2 = -(u.1 * z.1 + u.2 * z.2) := by grind
  unfold see
  omega
theorem see_cd (u z w : Int × Int) : see u (cd z w) = see u z - see u w := by unfold see cd; grind
theorem see_ck (u : Int × Int) (k : Int) (z : Int × Int) : see u (ck k z) = k * see u z := by unfold see ck; grind
theorem see_near {u z w : Int × Int} {r : Int} (hu : nn u ≤ 1) (h : Nr z w r) : see u w - r ≤ see u z := by
  have := (see_le hu h).1
  rw [see_cd] at this
  omega
/-- Twice its own cosine times a turn is the turn ahead and none, together. -/
theorem half_turn {S : Int} {p t : Int × Int} (h1 : Nr (cm t t) (ck S p) (3 * S)) (h2 : nn t ≤ S * S) (h3 : S * S - 3 * S ≤ nn t) (hS : 0 < S) : Nr (ck (2 * t.1) t) (S * p.1 + S * S, S * p.2) (6 * S) := by
  have a : Bd (nn t - S * S, 0) (3 * S) := by
    refine ⟨by omega, ?_⟩
    generalize nn t = n at *
    unfold nn
    simp only [Int.mul_zero, Int.add_zero]
    have e := Int.mul_le_mul (show S * S - n ≤ 3 * S by omega) (show S * S - n ≤ 3 * S by omega) (by omega) (by omega)
    have f : (n - S * S) * (n - S * S) = (S * S - n) * (S * S - n) := by grind
    omega
  have b := Bd.add h1 a
  unfold Nr
  rw [show cd (ck (2 * t.1) t) (S * p.1 + S * S, S * p.2) = ((cd (cm t t) (ck S p)).1 + (nn t - S * S, (0 : Int)).1, (cd (cm t t) (ck S p)).2 + (nn t - S * S, (0 : Int)).2) by unfold cd ck cm nn; ext <;> simp <;> grind]
  exact b.mono (by omega)
def quadB (S : Int) : Int → List (Int × Int) → Int → Bool
  | e, [], E => decide (e ≤ E)
  | e, t :: ts, E => decide (0 < t.1) && decide (t.1 ≤ S) && quadB S ((e + 6) * S / t.1 + 12) ts E
theorem quad {S : Int} (hS : 0 < S) {u : Int × Int} (hu : nn u ≤ 1) : ∀ (ts : List (Int × Int)) (p : Int × Int) (e E r : Int) (f : Nat) (z : Int × Int), Chain S p ts → (∀ t ∈ ts, S * S - 3 * S ≤ nn t) → quadB S e ts E = true → 0 ≤ e → Bd z r → r + 2 * (ts.length : Int) ≤ 2 * S → -e ≤ see u z → -(e * S) ≤ see u (cm z p) → -E ≤ see u (azz S ts f z)
  | [], p, e, E, r, f, z, _, _, q, _, _, _, h1, _ => by
    unfold quadB at q
    simp only [decide_eq_true_eq] at q
    unfold azz
    omega
  | t :: ts, p, e, E, r, f, z, ch, ge, q, e0, bz, hr, h1, h2 => by
    unfold quadB at q
    simp only [Bool.and_eq_true, decide_eq_true_eq] at q
    obtain ⟨⟨c0, c1⟩, q⟩ := q
    have hg := ge t List.mem_cons_self
    have hge : ∀ x ∈ ts, S * S - 3 * S ≤ nn x := fun x hx => ge x (List.mem_cons_of_mem _ hx)
    rw [List.length_cons, Int.natCast_add] at hr
    obtain ⟨e', he'⟩ : ∃ e', (e + 6) * S / t.1 + 12 = e' := ⟨_, rfl⟩
    rw [he'] at q
    have hdiv : (e + 6) * S < (e' - 11) * t.1 := by
      have := Int.lt_mul_ediv_self_add (x := (e + 6) * S) c0
      have g : (e' - 11) * t.1 = t.1 * ((e + 6) * S / t.1) + t.1 := by rw [← he']; grind
      omega
    have hge6 : e + 6 ≤ e' - 12 := by
      have : e + 6 ≤ (e + 6) * S / t.1 := by
        rw [Int.le_ediv_iff_mul_le c0]
        exact Int.mul_le_mul_of_nonneg_left c1 (by omega)
      omega
    have bt : Bd t S := ⟨Int.le_of_lt hS, ch.2.1⟩
    -- the turn seen
    have half := half_turn ch.1 ch.2.1 hg hS
    have k1 := half.mul bz
    have k2 := see_near hu k1
    have e1 : see u (cm (ck (2 * t.1) t) z) = 2 * t.1 * see u (cm z t) := by unfold see cm ck; grind
    have e2 : see u (cm (S * p.1 + S * S, S * p.2) z) = S * see u (cm z p) + S * S * see u z := by unfold see cm; grind
    rw [e1, e2] at k2
    have k3 : S * (-(e * S)) ≤ S * see u (cm z p) := Int.mul_le_mul_of_nonneg_left h2 (Int.le_of_lt hS)
    have k4 : S * S * (-e) ≤ S * S * see u z := Int.mul_le_mul_of_nonneg_left h1 (Int.le_of_lt (Int.mul_pos hS hS))
    have k5 : 6 * S * r ≤ 6 * S * (2 * S) := Int.mul_le_mul_of_nonneg_left (by omega) (by omega)
    have k6 : -(2 * ((e + 6) * S * S)) ≤ 2 * t.1 * see u (cm z t) := by
      have g : -(2 * ((e + 6) * S * S)) = S * (-(e * S)) + S * S * (-e) - 6 * S * (2 * S) := by grind
      omega
    have k7 : -((e' - 11) * S) ≤ see u (cm z t) := by
      rcases Int.lt_or_le (see u (cm z t)) (-((e' - 11) * S)) with h | h
      · exfalso
        have a := Int.mul_lt_mul_of_pos_left h (show 0 < 2 * t.1 by omega)
        have b := Int.mul_lt_mul_of_pos_right hdiv hS
        have g : 2 * t.1 * -((e' - 11) * S) = -(2 * ((e' - 11) * t.1 * S)) := by grind
        rw [g] at a
        generalize (e' - 11) * t.1 * S = m at *
        generalize (e + 6) * S * S = n at *
        omega
      · exact h
    have hmono : (e' - 11) * S ≤ e' * S := Int.mul_le_mul_of_nonneg_right (by omega) (Int.le_of_lt hS)
    unfold azz
    by_cases hb : f / 2 ^ ts.length % 2 = 1
    · rw [if_pos hb]
      have on1 := on_near hS z t
      have b1 : Bd (on S z t) (r + 2) := by
        have := Bd.of_near on1 (Bd.mul bz bt)
        refine Bd.unscale hS (by have := bz.1; omega) (this.mono ?_)
        have g : S * (r + 2) = 2 * S + r * S := by grind
        omega
      have s1 := see_near hu on1
      rw [see_ck] at s1
      have v1 : -e' ≤ see u (on S z t) := by
        rcases Int.lt_or_le (see u (on S z t)) (-e') with h | h
        · exfalso
          have a := Int.mul_le_mul_of_nonneg_left (show see u (on S z t) ≤ -e' - 1 by omega) (Int.le_of_lt hS)
          have g : S * (-e' - 1) = -(e' * S) - S := by grind
          have g2 : (e' - 11) * S = e' * S - 11 * S := by grind
          omega
        · exact h
      have s2 := see_near hu (on1.mul bt)
      rw [cm_ck, see_ck, cm_assoc] at s2
      have s3 := see_near hu (ch.1.mul bz)
      rw [cm_ck, see_ck, cm_comm (cm t t) z, cm_comm p z] at s3
      have v2 : -(e' * S) ≤ see u (cm (on S z t) t) := by
        rcases Int.lt_or_le (see u (cm (on S z t) t)) (-(e' * S)) with h | h
        · exfalso
          have a := Int.mul_lt_mul_of_pos_left h hS
          have b := Int.mul_le_mul_of_nonneg_right (show e + 8 ≤ e' by omega) (Int.le_of_lt (Int.mul_pos hS hS))
          have c : 3 * S * r ≤ 3 * S * (2 * S) := Int.mul_le_mul_of_nonneg_left (by omega) (by omega)
          have g : S * -(e' * S) = -(e' * (S * S)) := by grind
          have g2 : (e + 8) * (S * S) = e * (S * S) + 8 * (S * S) := by grind
          have g3 : S * (-(e * S)) = -(e * (S * S)) := by grind
          have g4 : 3 * S * (2 * S) = 6 * (S * S) := by grind
          have g5 : 2 * S * S = 2 * (S * S) := by grind
          rw [g] at a
          rw [g3] at k3
          generalize e' * (S * S) = m1 at *
          generalize e * (S * S) = m2 at *
          generalize S * S = m3 at *
          omega
        · exact h
      exact quad hS hu ts t e' E (r + 2) f _ ch.2.2 hge q (by omega) b1 (by omega) v1 v2
    · rw [if_neg hb]
      exact quad hS hu ts t e' E r f z ch.2.2 hge q (by omega) bz (by omega) (by omega) (by omega)
theorem turns_quad : quadB 4611686018427387904 0 turns 2000 = true := by decide +kernel
theorem ZZ_quad (f : Nat) : -2000 ≤ (ZZ f).1 ∧ -2000 ≤ (ZZ f).2 := by
  have a := quad (S := 4611686018427387904) (by decide) (u := (1, 0)) (by decide) turns (0, 4611686018427387904) 0 2000 4611686018427387904 f (4611686018427387904, 0) turns_chain turns_ge turns_quad (by decide) (real_bd (by decide)) (by decide) (by decide) (by decide)
  have b := quad (S := 4611686018427387904) (by decide) (u := (0, 1)) (by decide) turns (0, 4611686018427387904) 0 2000 4611686018427387904 f (4611686018427387904, 0) turns_chain turns_ge turns_quad (by decide) (real_bd (by decide)) (by decide) (by decide) (by decide)
  unfold see at a b
  simp only [Int.one_mul, Int.zero_mul, Int.add_zero, Int.zero_add] at a b
  exact ⟨a, b⟩
end Go.Proofs.Ythfgeopldbcniaa

namespace Go.Proofs.Ythfgeopldbcniaa
set_option linter.unusedVariables false
set_option linter.unusedSimpArgs false
theorem ZZ_d1 : ZZ 186413 = (4611686018427224350, 1228162908980) := by decide +kernel
theorem ZZ_d2 : ZZ 186414 = (4611686018427224348, 1228169497377) := by decide +kernel
/-- What is near is near in each number. -/
theorem Nr.parts {a b : Int × Int} {r : Int} (h : Nr a b r) : a.1 - b.1 ≤ r ∧ b.1 - a.1 ≤ r ∧ a.2 - b.2 ≤ r ∧ b.2 - a.2 ≤ r := by
  have x := see_le (u := (1, 0)) (by decide) h
  have y := see_le (u := (0, 1)) (by decide) h
  unfold see cd at x y
  simp only [Int.one_mul, Int.zero_mul, Int.add_zero, Int.zero_add] at x y
  omega
theorem Bd.parts {a : Int × Int} {r : Int} (h : Bd a r) : -r ≤ a.1 ∧ a.1 ≤ r ∧ -r ≤ a.2 ∧ a.2 ≤ r := by
  have x := see_le (u := (1, 0)) (by decide) h
  have y := see_le (u := (0, 1)) (by decide) h
  unfold see at x y
  simp only [Int.one_mul, Int.zero_mul, Int.add_zero, Int.zero_add] at x y
  omega
/-- One of both is no less than half of one. -/
theorem ZZ_half (f : Nat) : 2305843009213693952 ≤ (ZZ f).1 ∨ 2305843009213693952 ≤ (ZZ f).2 := by
  obtain ⟨a, b⟩ := ZZ_quad f
  have n := ZZ_ge f
  unfold nn at n
  generalize (ZZ f).1 = x at *
  generalize (ZZ f).2 = y at *
  have sq : ∀ z : Int, -2000 ≤ z → z < 2305843009213693952 → z * z ≤ 2305843009213693952 * 2305843009213693952 := by
    intro z h0 h1
    rcases Int.le_total 0 z with h | h
    · exact Int.mul_le_mul (Int.le_of_lt h1) (Int.le_of_lt h1) h (by decide)
    · have := Int.mul_le_mul (show -z ≤ 2305843009213693952 by omega) (show -z ≤ 2305843009213693952 by omega) (show 0 ≤ -z by omega) (by decide)
      rw [Int.neg_mul_neg] at this
      exact this
  rcases Int.lt_or_le x 2305843009213693952 with h | h
  · right
    rcases Int.lt_or_le y 2305843009213693952 with k | k
    · exfalso
      have := sq x a h
      have := sq y b k
      generalize x * x = p at *
      generalize y * y = q at *
      omega
    · exact k
  · exact .inl h
theorem ZZ_sum {f d : Nat} (h : f + d < 2 ^ 40) : (ZZ f).1 * (ZZ d).1 - (ZZ f).2 * (ZZ d).2 - 4611686018427387904 * (ZZ (f + d)).1 ≤ 361 * 4611686018427387904 ∧ 4611686018427387904 * (ZZ (f + d)).1 - ((ZZ f).1 * (ZZ d).1 - (ZZ f).2 * (ZZ d).2) ≤ 361 * 4611686018427387904 ∧ (ZZ f).1 * (ZZ d).2 + (ZZ f).2 * (ZZ d).1 - 4611686018427387904 * (ZZ (f + d)).2 ≤ 361 * 4611686018427387904 ∧ 4611686018427387904 * (ZZ (f + d)).2 - ((ZZ f).1 * (ZZ d).2 + (ZZ f).2 * (ZZ d).1) ≤ 361 * 4611686018427387904 := by
  have := (ZZ_add (f := f) (g := d) (h := f + d) (c := 0) (by decide) (by omega) (by omega) h (by omega)).parts
  rw [pick0, cm_real] at this
  unfold cm ck at this
  exact this
theorem step_x {X Y X' xd yd : Int} (hx : 4611686018427387904 - xd ≥ 150000) (hx2 : 0 ≤ 4611686018427387904 - xd) (hx3 : 4611686018427387904 - xd ≤ 170000) (hy : 1200000000000 ≤ yd) (hy2 : yd ≤ 1300000000000) (q : -2000 ≤ X ∧ -2000 ≤ Y) (hh : 2305843009213693952 ≤ X ∨ 2305843009213693952 ≤ Y)
    (h : 4611686018427387904 * X' - (X * xd - Y * yd) ≤ 361 * 4611686018427387904) : X' ≤ X := by
  obtain ⟨a, ha⟩ : ∃ a, 4611686018427387904 - xd = a := ⟨_, rfl⟩
  rw [ha] at hx hx2 hx3
  have e : X * xd = 4611686018427387904 * X - X * a := by rw [← ha]; grind
  rw [e] at h
  have k : 361 * 4611686018427387904 ≤ X * a + Y * yd := by
    rcases hh with g | g
    · have m1 : 2305843009213693952 * 150000 ≤ X * a := Int.mul_le_mul g hx (by decide) (by omega)
      have m2 : -2000 * 1300000000000 ≤ Y * yd := by
        rcases Int.le_total 0 Y with t | t
        · have := Int.mul_nonneg t (show 0 ≤ yd by omega)
          omega
        · have := Int.mul_le_mul (show -Y ≤ 2000 by omega) hy2 (by omega) (by decide)
          rw [Int.neg_mul] at this
          omega
      omega
    · have m1 : 2305843009213693952 * 1200000000000 ≤ Y * yd := Int.mul_le_mul g hy (by decide) (by omega)
      have m2 : -2000 * 170000 ≤ X * a := by
        rcases Int.le_total 0 X with t | t
        · have := Int.mul_nonneg t hx2
          omega
        · have := Int.mul_le_mul (show -X ≤ 2000 by omega) hx3 (by omega) (by decide)
          rw [Int.neg_mul] at this
          omega
      omega
  generalize X * a = m at *
  generalize Y * yd = n at *
  omega
theorem step_y {X Y X' Y' xd yd : Int} (hx : 4611686018427387904 - xd ≤ 170000) (hx0 : 0 ≤ xd) (hx2 : 150000 ≤ 4611686018427387904 - xd) (hy : 1200000000000 ≤ yd) (hy2 : yd ≤ 1300000000000) (q : -2000 ≤ X ∧ -2000 ≤ Y) (q' : -2000 ≤ X') (hY : Y ≤ 4611686018427387984) (hh : 2305843009213693952 ≤ X ∨ 2305843009213693952 ≤ Y) (hc : (4611686018427387904 - xd) * xd + 150000 * 4600000000000000000 ≤ yd * yd)
    (h : X * yd + Y * xd - 4611686018427387904 * Y' ≤ 361 * 4611686018427387904) (h' : 4611686018427387904 * X' - (X * xd - Y * yd) ≤ 361 * 4611686018427387904) : Y ≤ Y' := by
  obtain ⟨a, ha⟩ : ∃ a, 4611686018427387904 - xd = a := ⟨_, rfl⟩
  rw [ha] at hx hx2 hc
  have e : Y * xd = 4611686018427387904 * Y - Y * a := by rw [← ha]; grind
  rw [e] at h
  have k : 361 * 4611686018427387904 ≤ X * yd - Y * a := by
    rcases hh with g | g
    · have m1 : 2305843009213693952 * 1200000000000 ≤ X * yd := Int.mul_le_mul g hy (by decide) (by omega)
      have m2 : Y * a ≤ 4611686018427387984 * 170000 := by
        rcases Int.le_total 0 Y with t | t
        · exact Int.mul_le_mul hY hx (by omega) (by decide)
        · have := Int.mul_nonneg (show 0 ≤ -Y by omega) (show 0 ≤ a by omega)
          rw [Int.neg_mul] at this
          omega
      omega
    · have w : Y * yd - 2361 * 4611686018427387904 ≤ X * xd := by omega
      have w1 := Int.mul_le_mul_of_nonneg_right w (show 0 ≤ yd by omega)
      have w2 := Int.mul_le_mul_of_nonneg_left hc (show 0 ≤ Y by omega)
      have w3 : 2305843009213693952 * (150000 * 4600000000000000000) ≤ Y * (150000 * 4600000000000000000) := Int.mul_le_mul_of_nonneg_right g (by decide)
      rcases Int.lt_or_le (X * yd - Y * a) (361 * 4611686018427387904) with t | t
      · exfalso
        have t1 := Int.mul_lt_mul_of_pos_right t (show 0 < xd by omega)
        have t2 : 361 * 4611686018427387904 * xd ≤ 361 * 4611686018427387904 * 4611686018427387904 := Int.mul_le_mul_of_nonneg_left (by omega) (by decide)
        have t3 : 2361 * 4611686018427387904 * yd ≤ 2361 * 4611686018427387904 * 1300000000000 := Int.mul_le_mul_of_nonneg_left hy2 (by decide)
        have e1 : (Y * yd - 2361 * 4611686018427387904) * yd = Y * (yd * yd) - 2361 * 4611686018427387904 * yd := by grind
        have e2 : (X * yd - Y * a) * xd = X * xd * yd - Y * (a * xd) := by grind
        have e3 : Y * (a * xd + 150000 * 4600000000000000000) = Y * (a * xd) + Y * (150000 * 4600000000000000000) := by grind
        rw [e1] at w1
        rw [e2] at t1
        rw [e3] at w2
        generalize X * xd * yd = p1 at *
        generalize Y * (a * xd) = p2 at *
        generalize Y * (yd * yd) = p3 at *
        generalize 361 * 4611686018427387904 * xd = p4 at *
        generalize 2361 * 4611686018427387904 * yd = p5 at *
        generalize Y * (150000 * 4600000000000000000) = p6 at *
        clear w g hY hc e h h'
        omega
      · exact t
  generalize X * yd = m at *
  generalize Y * a = n at *
  omega
theorem rise_step {f d : Nat} (hd : d = 186413 ∨ d = 186414) (h : f + d < 2 ^ 40) : (ZZ (f + d)).1 ≤ (ZZ f).1 ∧ (ZZ f).2 ≤ (ZZ (f + d)).2 := by
  obtain ⟨s1, s2, s3, s4⟩ := ZZ_sum h
  have q := ZZ_quad f
  have q' := ZZ_quad (f + d)
  have hh := ZZ_half f
  have hp := (ZZ_le f).parts
  rcases hd with rfl | rfl
  · rw [ZZ_d1] at s1 s2 s3 s4
    exact ⟨step_x (by decide) (by decide) (by decide) (by decide) (by decide) q hh s2, step_y (by decide) (by decide) (by decide) (by decide) (by decide) q q'.1 hp.2.2.2 hh (by decide) s3 s2⟩
  · rw [ZZ_d2] at s1 s2 s3 s4
    exact ⟨step_x (by decide) (by decide) (by decide) (by decide) (by decide) q hh s2, step_y (by decide) (by decide) (by decide) (by decide) (by decide) q q'.1 hp.2.2.2 hh (by decide) s3 s2⟩
/-- Which 2^-40ths of a quarter an angle from 0 to below 90 degrees is. -/
def part (r : Nat) : Nat := r * 1099511627776 / 5898240
theorem part_lt {r : Nat} (h : r < 5898240) : part r < 2 ^ 40 := by unfold part; omega
theorem rise {r : Nat} : ∀ n, r + n < 5898240 → (ZZ (part (r + n))).1 ≤ (ZZ (part r)).1 ∧ (ZZ (part r)).2 ≤ (ZZ (part (r + n))).2
  | 0, _ => ⟨Int.le_refl _, Int.le_refl _⟩
  | n + 1, h => by
    have ih := rise (r := r) n (by omega)
    obtain ⟨d, hd, hs⟩ : ∃ d, (d = 186413 ∨ d = 186414) ∧ part (r + n) + d = part (r + (n + 1)) := ⟨part (r + (n + 1)) - part (r + n), by unfold part; omega, by unfold part; omega⟩
    have st := rise_step hd (by rw [hs]; exact part_lt h)
    rw [hs] at st
    exact ⟨Int.le_trans st.1 ih.1, Int.le_trans ih.2 st.2⟩
end Go.Proofs.Ythfgeopldbcniaa
