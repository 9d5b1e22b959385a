/- Sines and cosines of sums, and of what is missing to a quarter. Plain arithmetic that names no program. -/
import Derived.Test.YthfgeopldbcniabAngQ
namespace Go.Proofs.Ythfgeopldbcniab
set_option linter.unusedVariables false
set_option linter.unusedSimpArgs false
theorem ZZ_0 : ZZ 0 = (4611686018427387904, 0) := by decide +kernel
theorem ZZ_1 : ZZ 1 = (4611686018427387903, 6588397) := by decide +kernel
theorem next_any {S k : Int} (hS : 7000000 ≤ S) {z z' o : Int × Int} (hz : Bd z (S + 80)) (ho : Bd (cd o (S, 0)) k) (hk : 0 ≤ k) (hk2 : k ≤ 7000000) (h : Nr (cm z o) (ck S z') (361 * S)) : Nr z' z (k + 442) := by
  have a := Bd.mul hz ho
  have b : Nr (cm z o) (ck S z) ((S + 80) * k) := by
    unfold Nr
    rw [show cd (cm z o) (ck S z) = cm z (cd o (S, 0)) by unfold cd cm ck; ext <;> simp <;> grind]
    exact a
  have c := h.symm.trans b
  refine Nr.unscale (k := S) (by omega) (by omega) (c.mono ?_)
  have e : S * (k + 442) = k * S + 442 * S := by grind
  have f : (S + 80) * k = k * S + 80 * k := by grind
  rw [e, f]
  generalize k * S = m
  omega
theorem ZZ_next {f : Nat} (h : f + 1 < 2 ^ 40) : Nr (ZZ (f + 1)) (ZZ f) 6588840 := by
  have a := ZZ_add (f := f) (g := 1) (h := f + 1) (c := 0) (by decide) (by omega) (by decide) h (by omega)
  rw [pick0, cm_real, ZZ_1] at a
  exact next_any (k := 6588398) (by decide) (ZZ_le f) ⟨by decide, by decide⟩ (by decide) (by decide) a
theorem mirror_any {S : Int} (hS : 1000000 ≤ S) {z w : Int × Int} (hz : Bd z (S + 80)) (hw : Bd w (S + 80)) (hn : (S - 204) * (S - 204) ≤ nn z) (h : Nr (cm z w) (0, S * S) (361 * S)) : Nr w (z.2, z.1) 770 := by
  have b1 : Bd (z.1, -z.2) (S + 80) := by
    refine ⟨hz.1, ?_⟩
    have := hz.2
    unfold nn at *
    simp only [Int.neg_mul_neg]
    exact this
  have a := h.mul b1
  have e1 : cm (cm z w) (z.1, -z.2) = ck (nn z) w := by unfold cm ck nn; ext <;> simp <;> grind
  have e2 : cm (0, S * S) (z.1, -z.2) = ck (S * S) (z.2, z.1) := by unfold cm ck; ext <;> simp <;> grind
  rw [e1, e2] at a
  have hu := hz.2
  have s1 : (S + 80) * (S + 80) = S * S + 160 * S + 6400 := by grind
  have s2 : (S - 204) * (S - 204) = S * S - 408 * S + 41616 := by grind
  rw [s1] at hu
  rw [s2] at hn
  have b : Nr (ck (S * S) w) (ck (nn z) w) (408 * S * (S + 80)) := by
    have c : Bd (S * S - nn z, 0) (408 * S) := by
      refine ⟨by omega, ?_⟩
      generalize nn z = n at *
      generalize S * S = q at *
      unfold nn
      simp only [Int.mul_zero, Int.add_zero]
      rcases Int.le_total 0 (q - n) with t | t
      · exact Int.mul_le_mul (by omega) (by omega) t (by omega)
      · have := Int.mul_le_mul (show n - q ≤ 408 * S by omega) (show n - q ≤ 408 * S by omega) (by omega) (by omega)
        have f : (q - n) * (q - n) = (n - q) * (n - q) := by grind
        rw [f]; exact this
    have d := Bd.mul c hw
    unfold Nr
    rw [show cd (ck (S * S) w) (ck (nn z) w) = cm (S * S - nn z, 0) w by generalize nn z = n; unfold cd cm ck; ext <;> simp <;> grind]
    exact d
  have c := b.trans a
  refine Nr.unscale (k := S * S) (Int.mul_pos (by omega) (by omega)) (by decide) (c.mono ?_)
  have e3 : 408 * S * (S + 80) + 361 * S * (S + 80) = 769 * (S * S) + 61520 * S := by grind
  have e4 : 61520 * S ≤ S * S := Int.mul_le_mul_of_nonneg_right (by omega) (by omega)
  rw [e3]
  generalize S * S = q at *
  omega
theorem ZZ_mirror {f g : Nat} (hf : f < 2 ^ 40) (hg : g < 2 ^ 40) (e : f + g = 2 ^ 40) : Nr (ZZ g) ((ZZ f).2, (ZZ f).1) 770 := by
  have a := ZZ_add (f := f) (g := g) (h := 0) (c := 1) (by decide) hf hg (by decide) (by omega)
  rw [pick1, ZZ_0] at a
  exact mirror_any (by decide) (ZZ_le f) (ZZ_le g) (ZZ_ge f) a
theorem part_1 {r : Nat} (h : r < 5898240) : part r + 1 < 2 ^ 40 := by unfold part; omega
theorem mirror_next {z z' w : Int × Int} (a : Nr w (z'.2, z'.1) 770) (b : Nr z' z 6588840) : Nr w (z.2, z.1) 6589610 := by
  have c : Nr (z'.2, z'.1) (z.2, z.1) 6588840 := by
    refine ⟨b.1, ?_⟩
    have := b.2
    unfold nn cd at *
    simp only at *
    omega
  exact (a.trans c).mono (by decide)
theorem sum_next {z z' w x : Int × Int} (a : Nr (cm z' w) x (361 * 4611686018427387904)) (b : Nr z' z 6588840) (hw : Bd w 4611686018427387984) : Nr (cm z w) x (6589205 * 4611686018427387904) :=
  ((b.symm.mul hw).trans a).mono (by decide)
/-- What is missing to a quarter: sine and cosine are changed. -/
theorem part_mirror {r s : Nat} (h0 : 0 < r) (h : r < 5898240) (hs : r + s = 5898240) : Nr (ZZ (part s)) ((ZZ (part r)).2, (ZZ (part r)).1) 6589610 := by
  have cs : part r + part s = 2 ^ 40 ∨ part r + 1 + part s = 2 ^ 40 := by unfold part; omega
  rcases cs with e | e
  · exact (ZZ_mirror (part_lt h) (part_lt (by omega)) e).mono (by decide)
  · exact mirror_next (ZZ_mirror (part_1 h) (part_lt (by omega)) e) (ZZ_next (part_1 h))
theorem c46_near {x y : Int} (h1 : x - y ≤ 70368744177664) (h2 : y - x ≤ 70368744177664) : c46 x - c46 y ≤ 1 ∧ c46 y - c46 x ≤ 1 := by unfold c46; omega
theorem near_both {z w : Int × Int} {k : Int} (h : Nr w (z.2, z.1) k) (hk : k ≤ 70368744177664) : (c46 w.1 - c46 z.2 ≤ 1 ∧ c46 z.2 - c46 w.1 ≤ 1) ∧ (c46 w.2 - c46 z.1 ≤ 1 ∧ c46 z.1 - c46 w.2 ≤ 1) := by
  have p := h.parts
  simp only at p
  exact ⟨c46_near (by omega) (by omega), c46_near (by omega) (by omega)⟩
theorem mirror_near {r s : Nat} (h0 : 0 < r) (h : r < 5898240) (hs : r + s = 5898240) : (c46 (ZZ (part s)).1 - c46 (ZZ (part r)).2 ≤ 1 ∧ c46 (ZZ (part r)).2 - c46 (ZZ (part s)).1 ≤ 1) ∧ (c46 (ZZ (part s)).2 - c46 (ZZ (part r)).1 ≤ 1 ∧ c46 (ZZ (part r)).1 - c46 (ZZ (part s)).2 ≤ 1) :=
  near_both (part_mirror h0 h hs) (by decide)
/-- Angles that are added: their parts of a quarter are too, or one less. -/
theorem part_sum {r s t c : Nat} (hr : r < 5898240) (hs : s < 5898240) (ht : t < 5898240) (hc : c ≤ 1) (e : r + s = t + c * 5898240) :
    Nr (cm (ZZ (part r)) (ZZ (part s))) (cm (pick c (0, 4611686018427387904) 4611686018427387904) (ZZ (part t))) (6589205 * 4611686018427387904) := by
  have cs : part r + part s = part t + c * 2 ^ 40 ∨ part r + 1 + part s = part t + c * 2 ^ 40 := by
    have : c = 0 ∨ c = 1 := by omega
    rcases this with rfl | rfl <;> (unfold part; omega)
  rcases cs with g | g
  · exact (ZZ_add hc (part_lt hr) (part_lt hs) (part_lt ht) g).mono (by decide)
  · exact sum_next (ZZ_add hc (part_1 hr) (part_lt hs) (part_lt ht) g) (ZZ_next (part_1 hr)) (ZZ_le (part s))
end Go.Proofs.Ythfgeopldbcniab
