/- Two parts of a quarter between which a place lies are no farther apart than they must be. Plain arithmetic that names no program. -/
import Derived.Test.YthfgeopldbcniabAngT
namespace Go.Proofs.Ythfgeopldbcniab
set_option linter.unusedVariables false
set_option linter.unusedSimpArgs false
theorem ZZ_bits : ∀ j : Nat, j < 40 → 6588397 ≤ (ZZ (2 ^ j)).2 := by decide +kernel
theorem sine_some {S xm ym xp yp xb yb : Int} (hS : S = 4611686018427387904) (hm : S / 2 ≤ xm ∨ S / 2 ≤ ym) (b1 : xb ≤ S + 80) (b2 : -2000 ≤ yp) (b3 : yb ≤ S + 80) (b4 : 6588397 ≤ yb) (b6 : -2000 ≤ xb) (b7 : yp ≤ S + 80) (b8 : -2000 ≤ xp)
    (h1 : S * xm - (xb * xp - yb * yp) ≤ 361 * S) (h2 : xb * yp + yb * xp - S * ym ≤ 361 * S) : 3000000 ≤ ym := by
  rcases hm with g | g
  · have k1 : -(2000 * (S + 80)) ≤ yb * yp := by
      rcases Int.le_total 0 yp with t | t
      · have := Int.mul_nonneg (show 0 ≤ yb by omega) t; omega
      · have := Int.mul_le_mul b3 (show -yp ≤ 2000 by omega) (by omega) (by omega)
        rw [Int.mul_neg] at this
        omega
    have k2 : S / 2 - 5000 ≤ xp := by
      rcases Int.lt_or_le xp (S / 2 - 5000) with t | t
      · exfalso
        have : xb * xp ≤ (S + 80) * (S / 2 - 5000) := by
          rcases Int.le_total 0 xp with s | s
          · exact Int.mul_le_mul b1 (Int.le_of_lt t) s (by omega)
          · rcases Int.le_total 0 xb with w | w
            · have a := Int.mul_nonneg w (show 0 ≤ -xp by omega)
              rw [Int.mul_neg] at a
              have b : 0 ≤ (S + 80) * (S / 2 - 5000) := Int.mul_nonneg (by omega) (by omega)
              omega
            · have a := Int.mul_le_mul (show -xb ≤ 2000 by omega) (show -xp ≤ 2000 by omega) (by omega) (by decide)
              rw [Int.neg_mul_neg] at a
              subst hS
              omega
        have h3 := Int.mul_le_mul_of_nonneg_left g (show 0 ≤ S by omega)
        subst hS
        omega
      · exact t
    have k3 : 6588397 * (S / 2 - 5000) ≤ yb * xp := Int.mul_le_mul b4 k2 (by omega) (by omega)
    have k4 : -(2000 * (S + 80)) ≤ xb * yp := by
      rcases Int.le_total 0 yp with t | t
      · rcases Int.le_total 0 xb with w | w
        · have := Int.mul_nonneg w t; omega
        · have := Int.mul_le_mul (show -xb ≤ 2000 by omega) b7 t (by decide)
          rw [Int.neg_mul] at this
          omega
      · rcases Int.le_total 0 xb with w | w
        · have := Int.mul_le_mul b1 (show -yp ≤ 2000 by omega) (by omega) (by omega)
          rw [Int.mul_neg] at this
          omega
        · have := Int.mul_nonneg_of_nonpos_of_nonpos w t; omega
    subst hS
    omega
  · omega
/-- No part but none has next to no sine. -/
theorem ZZ_sine {m : Nat} (h0 : 0 < m) (h : m < 2 ^ 40) : 3000000 ≤ (ZZ m).2 := by
  obtain ⟨g1, g2⟩ := (Nat.log2_eq_iff (n := m) (k := m.log2) (by omega)).1 rfl
  have hj : m.log2 < 40 := by
    rcases Nat.lt_or_ge m.log2 40 with t | t
    · exact t
    · have := Nat.pow_le_pow_right (n := 2) (by decide) t
      omega
  obtain ⟨p, hp⟩ : ∃ p, 2 ^ m.log2 + p = m := ⟨m - 2 ^ m.log2, by omega⟩
  have s := ZZ_sum (f := 2 ^ m.log2) (d := p) (by omega)
  have hb := ZZ_bits _ hj
  rw [hp] at s
  have q1 := ZZ_quad (2 ^ m.log2)
  have q2 := ZZ_quad p
  have r1 := (ZZ_le (2 ^ m.log2)).parts
  have r2 := (ZZ_le p).parts
  exact sine_some rfl (ZZ_half m) (by omega) q2.2 (by omega) hb q1.1 (by omega) q2.1 s.2.1 s.2.2.1
/-- Of two parts the greater one is not far behind a place that the other one is not far ahead of. -/
theorem no_gap {u v A B R Q : Int} {f m : Nat} (hm : 0 < m) (h : f + m < 2 ^ 40) (hb : Bd (u, v) 4611686018427387904) (hA : v * (ZZ f).1 - u * (ZZ f).2 ≤ A) (hA0 : 0 ≤ A) (hQ : -Q ≤ v * (ZZ f).1 - u * (ZZ f).2) (hQ0 : 0 ≤ Q) (hB : -B ≤ v * (ZZ (f + m)).1 - u * (ZZ (f + m)).2) (hR : R ≤ u * (ZZ f).1 + v * (ZZ f).2) (hR0 : 0 ≤ R) :
    R * 3000000 ≤ A * 4611686018427387984 + 2000 * Q + 4611686018427387904 * B + 361 * 4611686018427387904 * 4611686018427387904 := by
  have a := ZZ_add (f := f) (g := m) (h := f + m) (c := 0) (by decide) (by omega) (by omega) h (by omega)
  rw [pick0, cm_real] at a
  have b := (a.cj.mul hb).parts.2.2
  have y := ZZ_sine hm (by omega)
  have x := (ZZ_le m).parts
  have q := ZZ_quad m
  generalize ZZ f = z at *
  generalize ZZ m = w at *
  generalize ZZ (f + m) = t at *
  have e1 : (cm (cj (ck 4611686018427387904 t)) (u, v)).2 = 4611686018427387904 * (v * t.1 - u * t.2) := by unfold cm cj ck; grind
  have e2 : (cm (cj (cm z w)) (u, v)).2 = (v * z.1 - u * z.2) * w.1 - (u * z.1 + v * z.2) * w.2 := by unfold cm cj; grind
  rw [e1, e2] at b
  have k1 : R * 3000000 ≤ (u * z.1 + v * z.2) * w.2 := Int.mul_le_mul hR y (by decide) (by omega)
  have k2 : (v * z.1 - u * z.2) * w.1 ≤ A * 4611686018427387984 + 2000 * Q := by
    generalize v * z.1 - u * z.2 = g at *
    rcases Int.le_total 0 g with s | s
    · rcases Int.le_total 0 w.1 with r | r
      · have := Int.mul_le_mul hA (show w.1 ≤ 4611686018427387984 by omega) r hA0
        omega
      · have := Int.mul_nonneg s (show 0 ≤ -w.1 by omega)
        rw [Int.mul_neg] at this
        omega
    · have := Int.mul_le_mul (show -w.1 ≤ 2000 by omega) (show -g ≤ Q by omega) (by omega) (by decide)
      rw [Int.neg_mul_neg, Int.mul_comm] at this
      omega
  have k3 := Int.mul_le_mul_of_nonneg_left hB (show (0 : Int) ≤ 4611686018427387904 by decide)
  rw [Int.mul_neg] at k3
  omega
end Go.Proofs.Ythfgeopldbcniab
