/- The direction of a place is told but for one part: two ways to tell it agree. Plain arithmetic that names no program. -/
import Derived.Test.YthfgeopldbcniabAngU
namespace Go.Proofs.Ythfgeopldbcniab
set_option linter.unusedVariables false
set_option linter.unusedSimpArgs false
theorem nn_cross (u v : Int) (z : Int × Int) : (v * z.1 - u * z.2) * (v * z.1 - u * z.2) + (u * z.1 + v * z.2) * (u * z.1 + v * z.2) = nn (u, v) * nn z := by unfold nn; grind
theorem sq_of {g q : Int} (h1 : g ≤ q) (h2 : -q ≤ g) : g * g ≤ q * q := by
  rcases Int.le_total 0 g with t | t
  · exact Int.mul_le_mul h1 h1 t (by omega)
  · have := Int.mul_le_mul (show -g ≤ q by omega) (show -g ≤ q by omega) (by omega) (by omega)
    rw [Int.neg_mul_neg] at this
    exact this
theorem nn_big {u v : Int} (hu : 0 ≤ u) (hv : 0 ≤ v) (h : 1152921504606846976 ≤ u ∨ 1152921504606846976 ≤ v) : 1152921504606846976 * 1152921504606846976 ≤ nn (u, v) := by
  unfold nn
  have a := Int.mul_nonneg hu hu
  have b := Int.mul_nonneg hv hv
  rcases h with t | t
  · have := Int.mul_le_mul t t (by decide) (by omega)
    simp only at *
    omega
  · have := Int.mul_le_mul t t (by decide) (by omega)
    simp only at *
    omega
/-- A place that a part nearly leads to lies far out on that part's way. -/
theorem lead_low {u v : Int} {z : Int × Int} (hu : 0 ≤ u) (hv : 0 ≤ v) (h : 1152921504606846976 ≤ u ∨ 1152921504606846976 ≤ v) (hu1 : u ≤ 4611686018427387904) (hv1 : v ≤ 4611686018427387904)
    (hz : (4611686018427387904 - 204) * (4611686018427387904 - 204) ≤ nn z) (q : -2000 ≤ z.1 ∧ -2000 ≤ z.2) (g1 : v * z.1 - u * z.2 ≤ 288230376151711744 * 4611686018427387904) (g2 : -(288230376151711744 * 4611686018427387904) ≤ v * z.1 - u * z.2) :
    576460752303423488 * 4611686018427387904 ≤ u * z.1 + v * z.2 := by
  rcases Int.lt_or_le (u * z.1 + v * z.2) (576460752303423488 * 4611686018427387904) with t | t
  · exfalso
    have a1 : -(2000 * 4611686018427387904) ≤ u * z.1 := by
      have := Int.mul_nonneg hu (show 0 ≤ z.1 + 2000 by omega)
      rw [Int.mul_add] at this
      omega
    have a2 : -(2000 * 4611686018427387904) ≤ v * z.2 := by
      have := Int.mul_nonneg hv (show 0 ≤ z.2 + 2000 by omega)
      rw [Int.mul_add] at this
      omega
    have s1 := sq_of (Int.le_of_lt t) (by omega)
    have s2 := sq_of g1 g2
    have e := nn_cross u v z
    have b := Int.mul_le_mul (nn_big hu hv h) hz (by decide) (Int.le_trans (by decide) (nn_big hu hv h))
    rw [← e] at b
    omega
  · exact t
/-- A part that a place is not far ahead of is not behind one that the place is not far behind of. -/
theorem pin {u v : Int} {f k : Nat} (hu : 0 ≤ u) (hv : 0 ≤ v) (h : 1152921504606846976 ≤ u ∨ 1152921504606846976 ≤ v) (hb : Bd (u, v) 4611686018427387904) (hk : k < 2 ^ 40)
    (hA : v * (ZZ f).1 - u * (ZZ f).2 ≤ 2000 * 4611686018427387904) (hQ : -(288230376151711744 * 4611686018427387904) ≤ v * (ZZ f).1 - u * (ZZ f).2)
    (hB : -(2000 * 4611686018427387904) ≤ v * (ZZ k).1 - u * (ZZ k).2) : k ≤ f := by
  rcases Nat.lt_or_ge f k with t | t
  · exfalso
    obtain ⟨m, rfl⟩ : ∃ m, k = f + m := ⟨k - f, by omega⟩
    have p := hb.parts
    have R := lead_low hu hv h (by simp only at p; omega) (by simp only at p; omega) (ZZ_ge f) (ZZ_quad f) (by omega) hQ
    have n := no_gap (A := 2000 * 4611686018427387904) (B := 2000 * 4611686018427387904) (Q := 288230376151711744 * 4611686018427387904) (by omega) hk hb hA (by decide) hQ (by decide) hB R (by decide)
    revert n
    decide
  · exact t
/-- Parts that lead near one another lie about a place alike. -/
theorem near_lie {u v r : Int} {w z : Int × Int} (h : Nr w z r) (hb : Bd (u, v) 4611686018427387904) : (v * w.1 - u * w.2) - (v * z.1 - u * z.2) ≤ r * 4611686018427387904 ∧ (v * z.1 - u * z.2) - (v * w.1 - u * w.2) ≤ r * 4611686018427387904 := by
  have b := (h.cj.mul hb).parts.2.2
  have e (t : Int × Int) : (cm (cj t) (u, v)).2 = v * t.1 - u * t.2 := by unfold cm cj; grind
  rw [e, e] at b
  exact b
theorem Bd.swap {u v r : Int} (h : Bd (u, v) r) : Bd (v, u) r := ⟨h.1, by have := h.2; unfold nn at *; simp only at *; omega⟩
theorem dir_mirror {u v : Int} (hu : 0 ≤ u) (hv : 0 ≤ v) (h : 1152921504606846976 ≤ u ∨ 1152921504606846976 ≤ v) (hb : Bd (u, v) 4611686018427387904) : dir u v + dir v u ≤ 2 ^ 40 ∧ 2 ^ 40 ≤ dir u v + dir v u + 2 := by
  have p := hb.parts
  simp only at p
  obtain ⟨a1, a2⟩ := dir_bounds hu hv hb
  obtain ⟨b1, b2⟩ := dir_bounds hv hu hb.swap
  have c1 := dir_lt u v
  have c2 := dir_lt v u
  generalize dir u v = F at *
  generalize dir v u = K at *
  constructor
  · rcases Nat.lt_or_ge (2 ^ 40) (F + K) with t | t
    · exfalso
      obtain ⟨g, hg⟩ : ∃ g, K + g = 2 ^ 40 := ⟨2 ^ 40 - K, by omega⟩
      have m := near_lie (ZZ_mirror (f := K) (g := g) (by omega) (by omega) hg) hb
      simp only at m
      have lo : -(288230376151711744 * 4611686018427387904) ≤ v * (ZZ g).1 - u * (ZZ g).2 := by
        rcases Nat.lt_or_ge (K + 1) (2 ^ 40) with s | s
        · have n := near_lie (ZZ_next s) hb.swap
          have b3 := b2 s
          omega
        · have : g = 1 := by omega
          subst this
          rw [ZZ_1]
          simp only
          omega
      have := pin (f := g) (k := F) hu hv h hb c1 (by omega) lo (by omega)
      omega
    · exact t
  · rcases Nat.lt_or_ge (F + K + 2) (2 ^ 40) with t | t
    · exfalso
      obtain ⟨g, hg⟩ : ∃ g, (K + 1) + g = 2 ^ 40 := ⟨2 ^ 40 - (K + 1), by omega⟩
      have m := near_lie (ZZ_mirror (f := K + 1) (g := g) (by omega) (by omega) hg) hb
      simp only at m
      have n := near_lie (ZZ_next (f := F) (by omega)) hb
      have b3 := b2 (by omega)
      have a3 := a2 (by omega)
      have := pin (f := F + 1) (k := g) hu hv h hb (by omega) (by omega) (by omega) (by omega)
      omega
    · exact t
end Go.Proofs.Ythfgeopldbcniab
