/- The direction of a place is told but for one part: two ways to tell it agree. Plain arithmetic that names no program. The direction of an angle's cosine and sine is that angle, but for so many parts. Plain arithmetic that names no program. -/
import Derived.Test.YthfgeopldbcniaaAngTU
namespace Go.Proofs.Ythfgeopldbcniaa
set_option linter.unusedVariables false
set_option linter.unusedSimpArgs false
theorem nn_cross (u v : Int) (z : Int × Int) : (v * z.1 - u * z.2) * (v * z.1 - u * z.2) + (u * z.1 + v * z.2) * (u * z.1 + v * z.2) = nn (u, v) * nn z := by unfold nn; grind
theorem sq_of {g q : Int} (h1 : g ≤ q) (h2 : -q ≤ g) : g * g ≤ q * q := by
  rcases Int.le_total 0 g with t | t
  · exact Int.mul_le_mul h1 h1 t (by omega)
  · have := Int.mul_le_mul (show -g ≤ q by omega) (show -g ≤ q by omega) (by omega) (by omega)
    rw [Int.neg_mul_neg] at this
    exact this
theorem nn_big {u v : Int} (hu : 0 ≤ u) (hv : 0 ≤ v) (h : 1152921504606846976 ≤ u ∨ 1152921504606846976 ≤ v) : 1152921504606846976 * 1152921504606846976 ≤ nn (u, v) := by
  unfold nn
  have a := Int.mul_nonneg hu hu
  have b := Int.mul_nonneg hv hv
  rcases h with t | t
  · have := Int.mul_le_mul t t (by decide) (by omega)
    simp only at *
    omega
  · have := Int.mul_le_mul t t (by decide) (by omega)
    simp only at *
    omega
/-- A place that a part nearly leads to lies far out on that part's way. -/
theorem lead_low {u v : Int} {z : Int × Int} (hu : 0 ≤ u) (hv : 0 ≤ v) (h : 1152921504606846976 ≤ u ∨ 1152921504606846976 ≤ v) (hu1 : u ≤ 4611686018427387904) (hv1 : v ≤ 4611686018427387904)
    (hz : (4611686018427387904 - 204) * (4611686018427387904 - 204) ≤ nn z) (q : -2000 ≤ z.1 ∧ -2000 ≤ z.2) (g1 : v * z.1 - u * z.2 ≤ 288230376151711744 * 4611686018427387904) (g2 : -(288230376151711744 * 4611686018427387904) ≤ v * z.1 - u * z.2) :
    576460752303423488 * 4611686018427387904 ≤ u * z.1 + v * z.2 := by
  rcases Int.lt_or_le (u * z.1 + v * z.2) (576460752303423488 * 4611686018427387904) with t | t
  · exfalso
    have a1 : -(2000 * 4611686018427387904) ≤ u * z.1 := by
      have := Int.mul_nonneg hu (show 0 ≤ z.1 + 2000 by omega)
      rw [Int.mul_add] at this
      omega
    have a2 : -(2000 * 4611686018427387904) ≤ v * z.2 := by
      have := Int.mul_nonneg hv (show 0 ≤ z.2 + 2000 by omega)
      rw [Int.mul_add] at this
      omega
    have s1 := sq_of (Int.le_of_lt t) (by omega)
    have s2 := sq_of g1 g2
    have e := nn_cross u v z
    have b := Int.mul_le_mul (nn_big hu hv h) hz (by decide) (Int.le_trans (by decide) (nn_big hu hv h))
    rw [← e] at b
    omega
  · exact t
/-- A part that a place is not far ahead of is not behind one that the place is not far behind of. -/
theorem pin {u v : Int} {f k : Nat} (hu : 0 ≤ u) (hv : 0 ≤ v) (h : 1152921504606846976 ≤ u ∨ 1152921504606846976 ≤ v) (hb : Bd (u, v) 4611686018427387904) (hk : k < 2 ^ 40)
    (hA : v * (ZZ f).1 - u * (ZZ f).2 ≤ 2000 * 4611686018427387904) (hQ : -(288230376151711744 * 4611686018427387904) ≤ v * (ZZ f).1 - u * (ZZ f).2)
    (hB : -(2000 * 4611686018427387904) ≤ v * (ZZ k).1 - u * (ZZ k).2) : k ≤ f := by
  rcases Nat.lt_or_ge f k with t | t
  · exfalso
    obtain ⟨m, rfl⟩ : ∃ m, k = f + m := ⟨k - f, by omega⟩
    have p := hb.parts
    have R := lead_low hu hv h (by simp only at p; omega) (by simp only at p; omega) (ZZ_ge f) (ZZ_quad f) (by omega) hQ
    have n := no_gap (A := 2000 * 4611686018427387904) (B := 2000 * 4611686018427387904) (Q := 288230376151711744 * 4611686018427387904) (by omega) hk hb hA (by decide) hQ (by decide) hB R (by decide)
    revert n
    decide
  · exact t
/-- Parts that lead near one another lie about a place alike. -/
theorem near_lie {u v r : Int} {w z : Int × Int} (h : Nr w z r) (hb : Bd (u, v) 4611686018427387904) : (v * w.1 - u * w.2) - (v * z.1 - u * z.2) ≤ r * 4611686018427387904 ∧ (v * z.1 - u * z.2) - (v * w.1 - u * w.2) ≤ r * 4611686018427387904 := by
  have b := (h.cj.mul hb).parts.2.2
  have e (t : Int × Int) : (cm (cj t) (u, v)).2 = v * t.1 - u * t.2 := by unfold cm cj; grind
  rw [e, e] at b
  exact b
theorem Bd.swap {u v r : Int} (h : Bd (u, v) r) : Bd (v, u) r := ⟨h.1, by have := h.2; unfold nn at *; simp only at *; omega⟩
theorem dir_mirror {u v : Int} (hu : 0 ≤ u) (hv : 0 ≤ v) (h : 1152921504606846976 ≤ u ∨ 1152921504606846976 ≤ v) (hb : Bd (u, v) 4611686018427387904) : dir u v + dir v u ≤ 2 ^ 40 ∧ 2 ^ 40 ≤ dir u v + dir v u + 2 := by
  have p := hb.parts
  simp only at p
  obtain ⟨a1, a2⟩ := dir_bounds hu hv hb
  obtain ⟨b1, b2⟩ := dir_bounds hv hu hb.swap
  have c1 := dir_lt u v
  have c2 := dir_lt v u
  generalize dir u v = F at *
  generalize dir v u = K at *
  constructor
  · rcases Nat.lt_or_ge (2 ^ 40) (F + K) with t | t
    · exfalso
      obtain ⟨g, hg⟩ : ∃ g, K + g = 2 ^ 40 := ⟨2 ^ 40 - K, by omega⟩
      have m := near_lie (ZZ_mirror (f := K) (g := g) (by omega) (by omega) hg) hb
      simp only at m
      have lo : -(288230376151711744 * 4611686018427387904) ≤ v * (ZZ g).1 - u * (ZZ g).2 := by
        rcases Nat.lt_or_ge (K + 1) (2 ^ 40) with s | s
        · have n := near_lie (ZZ_next s) hb.swap
          have b3 := b2 s
          omega
        · have : g = 1 := by omega
          subst this
          rw [ZZ_1]
          simp only
          omega
      have := pin (f := g) (k := F) hu hv h hb c1 (by omega) lo (by omega)
      omega
    · exact t
  · rcases Nat.lt_or_ge (F + K + 2) (2 ^ 40) with t | t
    · exfalso
      obtain ⟨g, hg⟩ : ∃ g, (K + 1) + g = 2 ^ 40 := ⟨2 ^ 40 - (K + 1), by omega⟩
      have m := near_lie (ZZ_mirror (f := K + 1) (g := g) (by omega) (by omega) hg) hb
      simp only at m
      have n := near_lie (ZZ_next (f := F) (by omega)) hb
      have b3 := b2 (by omega)
      have a3 := a2 (by omega)
      have := pin (f := F + 1) (k := g) hu hv h hb (by omega) (by omega) (by omega) (by omega)
      omega
    · exact t
end Go.Proofs.Ythfgeopldbcniaa

namespace Go.Proofs.Ythfgeopldbcniaa
set_option linter.unusedVariables false
set_option linter.unusedSimpArgs false
theorem ZZ_D : ZZ 7553500 = (4611686018158874278, 49765459130420) := by decide +kernel
theorem c46_off (x : Int) : 70368744177664 * c46 x - x ≤ 35184372088832 ∧ -35184372088832 ≤ 70368744177664 * c46 x - x := by unfold c46; omega
/-- A place brought to 65536ths is off its way by half of one each way, and hardly less far out. -/
theorem round_off {P u v : Int} {z : Int × Int} (hz : Bd z 4611686018427387984) (hn : (4611686018427387904 - 204) * (4611686018427387904 - 204) ≤ nn z) (e1 : P * u = 70368744177664 * c46 z.1) (e2 : P * v = 70368744177664 * c46 z.2) :
    P * (v * z.1 - u * z.2) ≤ 4611686018427387984 * 49758216191608 ∧ -(4611686018427387984 * 49758216191608) ≤ P * (v * z.1 - u * z.2) ∧ (4611686018427387904 - 204) * (4611686018427387904 - 204) - 4611686018427387984 * 49758216191608 ≤ P * (u * z.1 + v * z.2) := by
  have o1 := c46_off z.1
  have o2 := c46_off z.2
  rw [← e1] at o1
  rw [← e2] at o2
  have b : Bd (P * u - z.1, P * v - z.2) 49758216191608 := by
    refine ⟨by decide, ?_⟩
    have s1 := sq_of o1.1 o1.2
    have s2 := sq_of o2.1 o2.2
    unfold nn
    simp only
    omega
  have p := (hz.cj.mul b).parts
  have f1 : (cm (cj z) (P * u - z.1, P * v - z.2)).1 = P * (u * z.1 + v * z.2) - nn z := by unfold cm cj nn; grind
  have f2 : (cm (cj z) (P * u - z.1, P * v - z.2)).2 = P * (v * z.1 - u * z.2) := by unfold cm cj; grind
  rw [f1, f2] at p
  omega
/-- How a place lies about a part, and about one that is another part further on. -/
theorem lie_sum {u v : Int} {f m : Nat} (h : f + m < 2 ^ 40) (hb : Bd (u, v) 4611686018427387904) :
    ((v * (ZZ f).1 - u * (ZZ f).2) * (ZZ m).1 - (u * (ZZ f).1 + v * (ZZ f).2) * (ZZ m).2 - 4611686018427387904 * (v * (ZZ (f + m)).1 - u * (ZZ (f + m)).2) ≤ 361 * 4611686018427387904 * 4611686018427387904 ∧
      4611686018427387904 * (v * (ZZ (f + m)).1 - u * (ZZ (f + m)).2) - ((v * (ZZ f).1 - u * (ZZ f).2) * (ZZ m).1 - (u * (ZZ f).1 + v * (ZZ f).2) * (ZZ m).2) ≤ 361 * 4611686018427387904 * 4611686018427387904) ∧
    ((u * (ZZ f).1 + v * (ZZ f).2) * (ZZ m).1 + (v * (ZZ f).1 - u * (ZZ f).2) * (ZZ m).2 - 4611686018427387904 * (u * (ZZ (f + m)).1 + v * (ZZ (f + m)).2) ≤ 361 * 4611686018427387904 * 4611686018427387904 ∧
      4611686018427387904 * (u * (ZZ (f + m)).1 + v * (ZZ (f + m)).2) - ((u * (ZZ f).1 + v * (ZZ f).2) * (ZZ m).1 + (v * (ZZ f).1 - u * (ZZ f).2) * (ZZ m).2) ≤ 361 * 4611686018427387904 * 4611686018427387904) := by
  have a := ZZ_add (f := f) (g := m) (h := f + m) (c := 0) (by decide) (by omega) (by omega) h (by omega)
  rw [pick0, cm_real] at a
  have b := (a.cj.mul hb).parts
  generalize ZZ f = z at *
  generalize ZZ m = w at *
  generalize ZZ (f + m) = t at *
  have e1 : (cm (cj (ck 4611686018427387904 t)) (u, v)).2 = 4611686018427387904 * (v * t.1 - u * t.2) := by unfold cm cj ck; grind
  have e2 : (cm (cj (cm z w)) (u, v)).2 = (v * z.1 - u * z.2) * w.1 - (u * z.1 + v * z.2) * w.2 := by unfold cm cj; grind
  have e3 : (cm (cj (ck 4611686018427387904 t)) (u, v)).1 = 4611686018427387904 * (u * t.1 + v * t.2) := by unfold cm cj ck; grind
  have e4 : (cm (cj (cm z w)) (u, v)).1 = (u * z.1 + v * z.2) * w.1 + (v * z.1 - u * z.2) * w.2 := by unfold cm cj; grind
  rw [e1, e2, e3, e4] at b
  exact ⟨b.2.2, b.1, b.2.1⟩
theorem up_low {P g R T : Int} (hP : P = 2 ∨ P = 4) (p1 : P * g ≤ 4611686018427387984 * 49758216191608) (p2 : -(4611686018427387984 * 49758216191608) ≤ P * g) (p3 : (4611686018427387904 - 204) * (4611686018427387904 - 204) - 4611686018427387984 * 49758216191608 ≤ P * R) (p4 : R ≤ 4611686018427387904 * 4611686018427387984)
    (b1 : g * 4611686018158874278 - R * 49765459130420 - 4611686018427387904 * T ≤ 361 * 4611686018427387904 * 4611686018427387904)
    (b2 : 4611686018427387904 * T - (g * 4611686018158874278 - R * 49765459130420) ≤ 361 * 4611686018427387904 * 4611686018427387904) : T ≤ 2000 * 4611686018427387904 ∧ -(288230376151711744 * 4611686018427387904) ≤ T := by
  rcases hP with e | e <;> subst e <;> constructor <;> omega
theorem down_high {P g R T U : Int} (hP : P = 2 ∨ P = 4) (p1 : P * g ≤ 4611686018427387984 * 49758216191608) (p2 : -(4611686018427387984 * 49758216191608) ≤ P * g) (p3 : (4611686018427387904 - 204) * (4611686018427387904 - 204) - 4611686018427387984 * 49758216191608 ≤ P * R)
    (b1 : 4611686018427387904 * g - (T * 4611686018158874278 - U * 49765459130420) ≤ 361 * 4611686018427387904 * 4611686018427387904)
    (b2 : 4611686018427387904 * R - (U * 4611686018158874278 + T * 49765459130420) ≤ 361 * 4611686018427387904 * 4611686018427387904) : -(2000 * 4611686018427387904) ≤ T := by
  rcases hP with e | e <;> subst e <;> omega
theorem dir_back {u v P : Int} {r : Nat} (hP : P = 2 ∨ P = 4) (hu : 0 ≤ u) (hv : 0 ≤ v) (h : 1152921504606846976 ≤ u ∨ 1152921504606846976 ≤ v) (hb : Bd (u, v) 4611686018427387904) (hr : r < 2 ^ 40)
    (e1 : P * u = 70368744177664 * c46 (ZZ r).1) (e2 : P * v = 70368744177664 * c46 (ZZ r).2) : dir u v ≤ r + 7553500 ∧ r ≤ dir u v + 7553501 := by
  obtain ⟨p1, p2, p3⟩ := round_off (ZZ_le r) (ZZ_ge r) e1 e2
  obtain ⟨a1, a2⟩ := dir_bounds hu hv hb
  have c1 := dir_lt u v
  generalize dir u v = F at *
  constructor
  · rcases Nat.lt_or_ge (r + 7553500) F with t | t
    · exfalso
      have l := (lie_sum (f := r) (m := 7553500) (by omega) hb).1
      rw [ZZ_D] at l
      have p4 : u * (ZZ r).1 + v * (ZZ r).2 ≤ 4611686018427387904 * 4611686018427387984 := by
        have := (hb.mul (ZZ_le r).cj).parts.2.1
        have e : (cm (u, v) (cj (ZZ r))).1 = u * (ZZ r).1 + v * (ZZ r).2 := by unfold cm cj; grind
        rw [e] at this
        exact this
      have x := up_low hP p1 p2 p3 p4 l.1 l.2
      have := pin (f := r + 7553500) (k := F) hu hv h hb c1 x.1 x.2 (by omega)
      omega
    · exact t
  · rcases Nat.lt_or_ge (F + 7553501) r with t | t
    · exfalso
      obtain ⟨k, rfl⟩ : ∃ k, r = k + 7553500 := ⟨r - 7553500, by omega⟩
      have l := lie_sum (f := k) (m := 7553500) hr hb
      rw [ZZ_D] at l
      have n := near_lie (ZZ_next (f := F) (by omega)) hb
      have a3 := a2 (by omega)
      have x := down_high hP p1 p2 p3 l.1.2 l.2.2
      have := pin (f := F + 1) (k := k) hu hv h hb (by omega) (by omega) (by omega) x
      omega
    · exact t
/-- The direction that is told, in 65536ths of a degree. -/
theorem told_back {r F : Nat} (hr : r < 5898240) (h1 : F ≤ part r + 7553500) (h2 : part r ≤ F + 7553501) : (F * 5898240 + 549755813888) / 1099511627776 ≤ r + 41 ∧ r ≤ (F * 5898240 + 549755813888) / 1099511627776 + 41 := by
  unfold part at *
  omega
end Go.Proofs.Ythfgeopldbcniaa
