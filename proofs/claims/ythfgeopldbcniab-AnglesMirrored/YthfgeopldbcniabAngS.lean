/- Cosine and sine of any angle by the document's rule; the rule for sums, within the statement's bound; quarters. Plain arithmetic that names no program. -/
import Derived.Test.YthfgeopldbcniabAngR
namespace Go.Proofs.Ythfgeopldbcniab
set_option linter.unusedVariables false
set_option linter.unusedSimpArgs false
/-- So many quarters. -/
def iu (q : Nat) : Int × Int := if q % 4 = 0 then (1, 0) else if q % 4 = 1 then (0, 1) else if q % 4 = 2 then (-1, 0) else (0, -1)
theorem iu_bd (q : Nat) : Bd (iu q) 1 := by
  unfold iu
  split
  · exact ⟨by decide, by decide⟩
  · split
    · exact ⟨by decide, by decide⟩
    · split <;> exact ⟨by decide, by decide⟩
theorem iu_four {q p : Nat} (h : q % 4 = p % 4) : iu q = iu p := by unfold iu; rw [h]
theorem iu_add (q p : Nat) : cm (iu q) (iu p) = iu (q + p) := by
  have h : ∀ a : Nat, a < 4 → ∀ b : Nat, b < 4 → cm (iu a) (iu b) = iu (a + b) := by decide
  have := h (q % 4) (by omega) (p % 4) (by omega)
  rw [iu_four (q := q % 4) (p := q) (by omega), iu_four (q := p % 4) (p := p) (by omega), iu_four (q := q % 4 + p % 4) (p := q + p) (by omega)] at this
  exact this
/-- Rounded in each number. -/
def c2 (z : Int × Int) : Int × Int := (c46 z.1, c46 z.2)
theorem c2_near (z : Int × Int) : Nr (ck 70368744177664 (c2 z)) z 49758216191608 := by
  obtain ⟨a, ha, a0, a1⟩ := c46_is z.1
  obtain ⟨b, hb, b0, b1⟩ := c46_is z.2
  refine ⟨by decide, ?_⟩
  have e : cd (ck 70368744177664 (c2 z)) z = (a, b) := by
    unfold cd ck c2
    ext
    · simp only; omega
    · simp only; omega
  rw [e]
  unfold nn
  have sq : ∀ t : Int, -35184372088832 < t → t ≤ 35184372088832 → t * t ≤ 35184372088832 * 35184372088832 := by
    intro t h0 h1
    rcases Int.le_total 0 t with h | h
    · exact Int.mul_le_mul h1 h1 h (by decide)
    · have := Int.mul_le_mul (show -t ≤ 35184372088832 by omega) (show -t ≤ 35184372088832 by omega) (show 0 ≤ -t by omega) (by decide)
      rw [Int.neg_mul_neg] at this
      exact this
  have := sq a a0 a1
  have := sq b b0 b1
  simp only
  omega
/-- The small parts of an angle; its cosine and sine. -/
def ang (q r : Nat) : Int × Int := cm (iu q) (ZZ (part r))
def csr (q r : Nat) : Int × Int := cm (iu q) (c2 (ZZ (part r)))
theorem ang_bd (q r : Nat) : Bd (ang q r) 4611686018427387984 := by
  have := Bd.mul (iu_bd q) (ZZ_le (part r))
  rw [Int.one_mul] at this
  exact this
theorem csr_near (q r : Nat) : Nr (ck 70368744177664 (csr q r)) (ang q r) 49758216191608 := by
  have := (c2_near (ZZ (part r))).mul (iu_bd q)
  rw [Int.mul_one, cm_ck, cm_comm (c2 _), cm_comm (ZZ _)] at this
  exact this
theorem round1 (x : Int) : 70368744177664 * c46 x - x ≤ 35184372088832 ∧ x - 70368744177664 * c46 x ≤ 35184372088832 := by unfold c46; omega
theorem csr_2 (q r : Nat) : 70368744177664 * (csr q r).2 - (ang q r).2 ≤ 35184372088832 ∧ (ang q r).2 - 70368744177664 * (csr q r).2 ≤ 35184372088832 := by
  have a := round1 (ZZ (part r)).1
  have b := round1 (ZZ (part r)).2
  unfold csr ang c2
  generalize c46 (ZZ (part r)).1 = c at *
  generalize c46 (ZZ (part r)).2 = s at *
  generalize ZZ (part r) = z at *
  unfold iu cm
  split
  · simp only; omega
  · split
    · simp only; omega
    · split <;> (simp only; omega)
/-- Three places and what they are rounded to. -/
theorem sum_bound {za zb zc ca cb cc : Int × Int} (ha : Nr (ck 70368744177664 ca) za 49758216191608) (hb : Nr (ck 70368744177664 cb) zb 49758216191608) (hc : 70368744177664 * cc.2 - zc.2 ≤ 35184372088832 ∧ zc.2 - 70368744177664 * cc.2 ≤ 35184372088832) (ba : Bd za 4611686018427387984) (bb : Bd zb 4611686018427387984) (h : Nr (cm za zb) (ck 4611686018427387904 zc) (6589205 * 4611686018427387904)) :
    65536 * cc.2 - (ca.1 * cb.2 + ca.2 * cb.1) ≤ 125452 ∧ (ca.1 * cb.2 + ca.2 * cb.1) - 65536 * cc.2 ≤ 125452 := by
  have b2 := Bd.of_near hb bb
  have p1 := ha.mul b2
  have p2 := hb.mul ba
  rw [cm_comm (ck _ cb) za, cm_comm zb za] at p2
  have t := ((p1.trans p2).trans h).parts
  have e : (cm (ck 70368744177664 ca) (ck 70368744177664 cb)).2 = 4951760157141521099596496896 * (ca.1 * cb.2 + ca.2 * cb.1) := by unfold cm ck; grind
  have e2 : (ck 4611686018427387904 zc).2 = 4611686018427387904 * zc.2 := rfl
  rw [e, e2] at t
  generalize ca.1 * cb.2 + ca.2 * cb.1 = m at *
  generalize zc.2 = z at *
  generalize cc.2 = s at *
  clear ha hb ba bb h b2 p1 p2 e e2
  omega
theorem rot_sum {qa qb r s t c : Nat} (hr : r < 5898240) (hs : s < 5898240) (ht : t < 5898240) (hc : c ≤ 1) (e : r + s = t + c * 5898240) : Nr (cm (ang qa r) (ang qb s)) (ck 4611686018427387904 (ang (qa + qb + c) t)) (6589205 * 4611686018427387904) := by
  have a := (part_sum hr hs ht hc e).mul (iu_bd (qa + qb))
  rw [Int.mul_one] at a
  unfold ang
  generalize ZZ (part r) = z at *
  generalize ZZ (part s) = w at *
  generalize ZZ (part t) = x at *
  have e1 : cm (cm z w) (iu (qa + qb)) = cm (cm (iu qa) z) (cm (iu qb) w) := by
    rw [← iu_add]
    generalize iu qa = u
    generalize iu qb = v
    unfold cm; ext <;> simp <;> grind
  have e2 : cm (cm (pick c (0, 4611686018427387904) 4611686018427387904) x) (iu (qa + qb)) = ck 4611686018427387904 (cm (iu (qa + qb + c)) x) := by
    have hp : pick c (0, 4611686018427387904) 4611686018427387904 = ck 4611686018427387904 (iu c) := by
      have : c = 0 ∨ c = 1 := by omega
      rcases this with rfl | rfl <;> decide
    rw [hp, ← iu_add (qa + qb) c]
    generalize iu (qa + qb) = u
    generalize iu c = v
    unfold cm ck; ext <;> simp <;> grind
  rw [e1, e2] at a
  exact a
/-- The rule for sums. -/
theorem sums5 {qa qb r s t c : Nat} (hr : r < 5898240) (hs : s < 5898240) (ht : t < 5898240) (hc : c ≤ 1) (e : r + s = t + c * 5898240) :
    65536 * (csr (qa + qb + c) t).2 - ((csr qa r).1 * (csr qb s).2 + (csr qa r).2 * (csr qb s).1) ≤ 125452 ∧ ((csr qa r).1 * (csr qb s).2 + (csr qa r).2 * (csr qb s).1) - 65536 * (csr (qa + qb + c) t).2 ≤ 125452 :=
  sum_bound (csr_near qa r) (csr_near qb s) (csr_2 _ t) (ang_bd qa r) (ang_bd qb s) (rot_sum hr hs ht hc e)
end Go.Proofs.Ythfgeopldbcniab
