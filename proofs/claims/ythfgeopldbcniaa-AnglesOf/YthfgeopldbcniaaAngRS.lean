/- Sines and cosines of sums, and of what is missing to a quarter. Plain arithmetic that names no program. Cosine and sine of any angle by the document's rule; the rule for sums, within the statement's bound; quarters. Plain arithmetic that names no program. -/
import Derived.Test.YthfgeopldbcniaaAngPQ
namespace Go.Proofs.Ythfgeopldbcniaa
set_option linter.unusedVariables false
set_option linter.unusedSimpArgs false
theorem ZZ_0 : ZZ 0 = (4611686018427387904, 0) := by decide +kernel
theorem ZZ_1 : ZZ 1 = (4611686018427387903, 6588397) := by decide +kernel
theorem next_any {S k : Int} (hS : 7000000 ≤ S) {z z' o : Int × Int} (hz : Bd z (S + 80)) (ho : Bd (cd o (S, 0)) k) (hk : 0 ≤ k) (hk2 : k ≤ 7000000) (h : Nr (cm z o) (ck S z') (361 * S)) : Nr z' z (k + 442) := by
  have a := Bd.mul hz ho
  have b : Nr (cm z o) (ck S z) ((S + 80) * k) := by
    unfold Nr
    rw [show cd (cm z o) (ck S z) = cm z (cd o (S, 0)) by unfold cd cm ck; ext <;> simp <;> grind]
    exact a
  have c := h.symm.trans b
  refine Nr.unscale (k := S) (by omega) (by omega) (c.mono ?_)
  have e : S * (k + 442) = k * S + 442 * S := by grind
  have f : (S + 80) * k = k * S + 80 * k := by grind
  rw [e, f]
  generalize k * S = m
  omega
theorem ZZ_next {f : Nat} (h : f + 1 < 2 ^ 40) : Nr (ZZ (f + 1)) (ZZ f) 6588840 := by
  have a := ZZ_add (f := f) (g := 1) (h := f + 1) (c := 0) (by decide) (by omega) (by decide) h (by omega)
  rw [pick0, cm_real, ZZ_1] at a
  exact next_any (k := 6588398) (by decide) (ZZ_le f) ⟨by decide, by decide⟩ (by decide) (by decide) a
theorem mirror_any {S : Int} (hS : 1000000 ≤ S) {z w : Int × Int} (hz : Bd z (S + 80)) (hw : Bd w (S + 80)) (hn : (S - 204) * (S - 204) ≤ nn z) (h : Nr (cm z w) (0, S * S) (361 * S)) : Nr w (z.2, z.1) 770 := by
  have b1 : Bd (z.1, -z.2) (S + 80) := by
    refine ⟨hz.1, ?_⟩
    have := hz.2
    unfold nn at *
    simp only [Int.neg_mul_neg]
    exact this
  have a := h.mul b1
  have e1 : cm (cm z w) (z.1, -z.2) = ck (nn z) w := by unfold cm ck nn; ext <;> simp <;> grind
  have e2 : cm (0, S * S) (z.1, -z.2) = ck (S * S) (z.2, z.1) := by unfold cm ck; ext <;> simp <;> grind
  rw [e1, e2] at a
  have hu := hz.2
  have s1 : (S + 80) * (S + 80) = S * S + 160 * S + 6400 := by grind
  have s2 : (S - 204) * (S - 204) = S * S - 408 * S + 41616 := by grind
  rw [s1] at hu
  rw [s2] at hn
  have b : Nr (ck (S * S) w) (ck (nn z) w) (408 * S * (S + 80)) := by
    have c : Bd (S * S - nn z, 0) (408 * S) := by
      refine ⟨by omega, ?_⟩
      generalize nn z = n at *
      generalize S * S = q at *
      unfold nn
      simp only [Int.mul_zero, Int.add_zero]
      rcases Int.le_total 0 (q - n) with t | t
      · exact Int.mul_le_mul (by omega) (by omega) t (by omega)
      · have := Int.mul_le_mul (show n - q ≤ 408 * S by omega) (show n - q ≤ 408 * S by omega) (by omega) (by omega)
        have f : (q - n) * (q - n) = (n - q) * (n - q) := by grind
        rw [f]; exact this
    have d := Bd.mul c hw
    unfold Nr
    rw [show cd (ck (S * S) w) (ck (nn z) w) = cm (S * S - nn z, 0) w by generalize nn z = n; unfold cd cm ck; ext <;> simp <;> grind]
    exact d
  have c := b.trans a
  refine Nr.unscale (k := S * S) (Int.mul_pos (by omega) (by omega)) (by decide) (c.mono ?_)
  have e3 : 408 * S * (S + 80) + 361 * S * (S + 80) = 769 * (S * S) + 61520 * S := by grind
  have e4 : 61520 * S ≤ S * S := Int.mul_le_mul_of_nonneg_right (by omega) (by omega)
  rw [e3]
  generalize S * S = q at *
  omega
theorem ZZ_mirror {f g : Nat} (hf : f < 2 ^ 40) (hg : g < 2 ^ 40) (e : f + g = 2 ^ 40) : Nr (ZZ g) ((ZZ f).2, (ZZ f).1) 770 := by
  have a := ZZ_add (f := f) (g := g) (h := 0) (c := 1) (by decide) hf hg (by decide) (by omega)
  rw [pick1, ZZ_0] at a
  exact mirror_any (by decide) (ZZ_le f) (ZZ_le g) (ZZ_ge f) a
theorem part_1 {r : Nat} (h : r < 5898240) : part r + 1 < 2 ^ 40 := by unfold part; omega
theorem mirror_next {z z' w : Int × Int} (a : Nr w (z'.2, z'.1) 770) (b : Nr z' z 6588840) : Nr w (z.2, z.1) 6589610 := by
  have c : Nr (z'.2, z'.1) (z.2, z.1) 6588840 := by
    refine ⟨b.1, ?_⟩
    have := b.2
    unfold nn cd at *
    simp only at *
    omega
  exact (a.trans c).mono (by decide)
theorem sum_next {z z' w x : Int × Int} (a : Nr (cm z' w) x (361 * 4611686018427387904)) (b : Nr z' z 6588840) (hw : Bd w 4611686018427387984) : Nr (cm z w) x (6589205 * 4611686018427387904) :=
  ((b.symm.mul hw).trans a).mono (by decide)
/-- What is missing to a quarter: sine and cosine are changed. -/
theorem part_mirror {r s : Nat} (h0 : 0 < r) (h : r < 5898240) (hs : r + s = 5898240) : Nr (ZZ (part s)) ((ZZ (part r)).2, (ZZ (part r)).1) 6589610 := by
  have cs : part r + part s = 2 ^ 40 ∨ part r + 1 + part s = 2 ^ 40 := by unfold part; omega
  rcases cs with e | e
  · exact (ZZ_mirror (part_lt h) (part_lt (by omega)) e).mono (by decide)
  · exact mirror_next (ZZ_mirror (part_1 h) (part_lt (by omega)) e) (ZZ_next (part_1 h))
theorem c46_near {x y : Int} (h1 : x - y ≤ 70368744177664) (h2 : y - x ≤ 70368744177664) : c46 x - c46 y ≤ 1 ∧ c46 y - c46 x ≤ 1 := by unfold c46; omega
theorem near_both {z w : Int × Int} {k : Int} (h : Nr w (z.2, z.1) k) (hk : k ≤ 70368744177664) : (c46 w.1 - c46 z.2 ≤ 1 ∧ c46 z.2 - c46 w.1 ≤ 1) ∧ (c46 w.2 - c46 z.1 ≤ 1 ∧ c46 z.1 - c46 w.2 ≤ 1) := by
  have p := h.parts
  simp only at p
  exact ⟨c46_near (by omega) (by omega), c46_near (by omega) (by omega)⟩
theorem mirror_near {r s : Nat} (h0 : 0 < r) (h : r < 5898240) (hs : r + s = 5898240) : (c46 (ZZ (part s)).1 - c46 (ZZ (part r)).2 ≤ 1 ∧ c46 (ZZ (part r)).2 - c46 (ZZ (part s)).1 ≤ 1) ∧ (c46 (ZZ (part s)).2 - c46 (ZZ (part r)).1 ≤ 1 ∧ c46 (ZZ (part r)).1 - c46 (ZZ (part s)).2 ≤ 1) :=
  near_both (part_mirror h0 h hs) (by decide)
/-- Angles that are added: their parts of a quarter are too, or one less. -/
theorem part_sum {r s t c : Nat} (hr : r < 5898240) (hs : s < 5898240) (ht : t < 5898240) (hc : c ≤ 1) (e : r + s = t + c * 5898240) :
    Nr (cm (ZZ (part r)) (ZZ (part s))) (cm (pick c (0, 4611686018427387904) 4611686018427387904) (ZZ (part t))) (6589205 * 4611686018427387904) := by
  have cs : part r + part s = part t + c * 2 ^ 40 ∨ part r + 1 + part s = part t + c * 2 ^ 40 := by
    have : c = 0 ∨ c = 1 := by omega
    rcases this with rfl | rfl <;> (unfold part; omega)
  rcases cs with g | g
  · exact (ZZ_add hc (part_lt hr) (part_lt hs) (part_lt ht) g).mono (by decide)
  · exact sum_next (ZZ_add hc (part_1 hr) (part_lt hs) (part_lt ht) g) (ZZ_next (part_1 hr)) (ZZ_le (part s))
end Go.Proofs.Ythfgeopldbcniaa

namespace Go.Proofs.Ythfgeopldbcniaa
set_option linter.unusedVariables false
set_option linter.unusedSimpArgs false
/-- So many quarters. -/
def iu (q : Nat) : Int × Int := if q % 4 = 0 then (1, 0) else if q % 4 = 1 then (0, 1) else if q % 4 = 2 then (-1, 0) else (0, -1)
theorem iu_bd (q : Nat) : Bd (iu q) 1 := by
  unfold iu
  split
  · exact ⟨by decide, by decide⟩
  · split
    · exact ⟨by decide, by decide⟩
    · split <;> exact ⟨by decide, by decide⟩
theorem iu_four {q p : Nat} (h : q % 4 = p % 4) : iu q = iu p := by unfold iu; rw [h]
theorem iu_add (q p : Nat) : cm (iu q) (iu p) = iu (q + p) := by
  have h : ∀ a : Nat, a < 4 → ∀ b : Nat, b < 4 → cm (iu a) (iu b) = iu (a + b) := by decide
  have := h (q % 4) (by omega) (p % 4) (by omega)
  rw [iu_four (q := q % 4) (p := q) (by omega), iu_four (q := p % 4) (p := p) (by omega), iu_four (q := q % 4 + p % 4) (p := q + p) (by omega)] at this
  exact this
/-- Rounded in each number. -/
def c2 (z : Int × Int) : Int × Int := (c46 z.1, c46 z.2)
theorem c2_near (z : Int × Int) : Nr (ck 70368744177664 (c2 z)) z 49758216191608 := by
  obtain ⟨a, ha, a0, a1⟩ := c46_is z.1
  obtain ⟨b, hb, b0, b1⟩ := c46_is z.2
  refine ⟨by decide, ?_⟩
  have e : cd (ck 70368744177664 (c2 z)) z = (a, b) := by
    unfold cd ck c2
    ext
    · simp only; omega
    · simp only; omega
  rw [e]
  unfold nn
  have sq : ∀ t : Int, -35184372088832 < t → t ≤ 35184372088832 → t * t ≤ 35184372088832 * 35184372088832 := by
    intro t h0 h1
    rcases Int.le_total 0 t with h | h
    · exact Int.mul_le_mul h1 h1 h (by decide)
    · have := Int.mul_le_mul (show -t ≤ 35184372088832 by omega) (show -t ≤ 35184372088832 by omega) (show 0 ≤ -t by omega) (by decide)
      rw [Int.neg_mul_neg] at this
      exact this
  have := sq a a0 a1
  have := sq b b0 b1
  simp only
  omega
/-- The small parts of an angle; its cosine and sine. -/
def ang (q r : Nat) : Int × Int := cm (iu q) (ZZ (part r))
def csr (q r : Nat) : Int × Int := cm (iu q) (c2 (ZZ (part r)))
theorem ang_bd (q r : Nat) : Bd (ang q r) 4611686018427387984 := by
  have := Bd.mul (iu_bd q) (ZZ_le (part r))
  rw [Int.one_mul] at this
  exact this
theorem csr_near (q r : Nat) : Nr (ck 70368744177664 (csr q r)) (ang q r) 49758216191608 := by
  have := (c2_near (ZZ (part r))).mul (iu_bd q)
  rw [Int.mul_one, cm_ck, cm_comm (c2 _), cm_comm (ZZ _)] at this
  exact this
theorem round1 (x : Int) : 70368744177664 * c46 x - x ≤ 35184372088832 ∧ x - 70368744177664 * c46 x ≤ 35184372088832 := by unfold c46; omega
theorem csr_2 (q r : Nat) : 70368744177664 * (csr q r).2 - (ang q r).2 ≤ 35184372088832 ∧ (ang q r).2 - 70368744177664 * (csr q r).2 ≤ 35184372088832 := by
  have a := round1 (ZZ (part r)).1
  have b := round1 (ZZ (part r)).2
  unfold csr ang c2
  generalize c46 (ZZ (part r)).1 = c at *
  generalize c46 (ZZ (part r)).2 = s at *
  generalize ZZ (part r) = z at *
  unfold iu cm
  split
  · simp only; omega
  · split
    · simp only; omega
    · split <;> (simp only; omega)
/-- Three places and what they are rounded to. -/
theorem sum_bound {za zb zc ca cb cc : Int × Int} (ha : Nr (ck 70368744177664 ca) za 49758216191608) (hb : Nr (ck 70368744177664 cb) zb 49758216191608) (hc : 70368744177664 * cc.2 - zc.2 ≤ 35184372088832 ∧ zc.2 - 70368744177664 * cc.2 ≤ 35184372088832) (ba : Bd za 4611686018427387984) (bb : Bd zb 4611686018427387984) (h : Nr (cm za zb) (ck 4611686018427387904 zc) (6589205 * 4611686018427387904)) :
    65536 * cc.2 - (ca.1 * cb.2 + ca.2 * cb.1) ≤ 125452 ∧ (ca.1 * cb.2 + ca.2 * cb.1) - 65536 * cc.2 ≤ 125452 := by
  have b2 := Bd.of_near hb bb
  have p1 := ha.mul b2
  have p2 := hb.mul ba
  rw [cm_comm (ck _ cb) za, cm_comm zb za] at p2
  have t := ((p1.trans p2).trans h).parts
  have e : (cm (ck 70368744177664 ca) (ck 70368744177664 cb)).2 = 4951760157141521099596496896 * (ca.1 * cb.2 + ca.2 * cb.1) := by unfold cm ck; grind
  have e2 : (ck 4611686018427387904 zc).2 = 4611686018427387904 * zc.2 := rfl
  rw [e, e2] at t
  generalize ca.1 * cb.2 + ca.2 * cb.1 = m at *
  generalize zc.2 = z at *
  generalize cc.2 = s at *
  clear ha hb ba bb h b2 p1 p2 e e2
  omega
theorem rot_sum {qa qb r s t c : Nat} (hr : r < 5898240) (hs : s < 5898240) (ht : t < 5898240) (hc : c ≤ 1) (e : r + s = t + c * 5898240) : Nr (cm (ang qa r) (ang qb s)) (ck 4611686018427387904 (ang (qa + qb + c) t)) (6589205 * 4611686018427387904) := by
  have a := (part_sum hr hs ht hc e).mul (iu_bd (qa + qb))
  rw [Int.mul_one] at a
  unfold ang
  generalize ZZ (part r) = z at *
  generalize ZZ (part s) = w at *
  generalize ZZ (part t) = x at *
  have e1 : cm (cm z w) (iu (qa + qb)) = cm (cm (iu qa) z) (cm (iu qb) w) := by
    rw [← iu_add]
    generalize iu qa = u
    generalize iu qb = v
    unfold cm; ext <;> simp <;> grind
  have e2 : cm (cm (pick c (0, 4611686018427387904) 4611686018427387904) x) (iu (qa + qb)) = ck 4611686018427387904 (cm (iu (qa + qb + c)) x) := by
    have hp : pick c (0, 4611686018427387904) 4611686018427387904 = ck 4611686018427387904 (iu c) := by
      have : c = 0 ∨ c = 1 := by omega
      rcases this with rfl | rfl <;> decide
    rw [hp, ← iu_add (qa + qb) c]
    generalize iu (qa + qb) = u
    generalize iu c = v
    unfold cm ck; ext <;> simp <;> grind
  rw [e1, e2] at a
  exact a
/-- The rule for sums. -/
theorem sums5 {qa qb r s t c : Nat} (hr : r < 5898240) (hs : s < 5898240) (ht : t < 5898240) (hc : c ≤ 1) (e : r + s = t + c * 5898240) :
    65536 * (csr (qa + qb + c) t).2 - ((csr qa r).1 * (csr qb s).2 + (csr qa r).2 * (csr qb s).1) ≤ 125452 ∧ ((csr qa r).1 * (csr qb s).2 + (csr qa r).2 * (csr qb s).1) - 65536 * (csr (qa + qb + c) t).2 ≤ 125452 :=
  sum_bound (csr_near qa r) (csr_near qb s) (csr_2 _ t) (ang_bd qa r) (ang_bd qb s) (rot_sum hr hs ht hc e)
end Go.Proofs.Ythfgeopldbcniaa
