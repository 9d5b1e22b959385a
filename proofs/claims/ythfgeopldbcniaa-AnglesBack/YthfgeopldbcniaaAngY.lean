/- The direction of an angle's cosine and sine is that angle, whole rounds aside, but for 41 65536ths. Plain arithmetic that names no program. -/
import Derived.Test.YthfgeopldbcniaaAngX
namespace Go.Proofs.Ythfgeopldbcniaa
set_option linter.unusedVariables false
set_option linter.unusedSimpArgs false
theorem dirq_up : dirq 0 65536 = 1099511627775 := by decide +kernel
theorem dirq_flat : dirq 65536 0 = 0 := by decide +kernel
theorem told_two {r F : Nat} (hr : r < 5898240) (h1 : F ≤ part r + 7553500) (h2 : part r ≤ F + 7553501) : told F ≤ (r : Int) + 41 ∧ (r : Int) ≤ told F + 41 := by
  have := told_back hr h1 h2
  unfold told
  omega
/-- In the first quarter. -/
theorem first_back {r : Nat} {c s : Int} (hr : r < 5898240) (ec : c = c46 (ZZ (part r)).1) (es : s = c46 (ZZ (part r)).2) : ¬ (c = 0 ∧ s = 0) ∧ atn s c ≤ (r : Int) + 41 ∧ (r : Int) ≤ atn s c + 41 := by
  have k := c46_quad (part r)
  have ci := circle (part r)
  have db := dirq_back (part_lt hr) ec es
  rw [← ec, ← es] at k ci
  clear ec es
  by_cases h : c = 0
  · have hs : s = 65536 := by
      rcases Int.lt_or_le s 65536 with t | t
      · exfalso
        have := Int.mul_le_mul (show s ≤ 65535 by omega) (show s ≤ 65535 by omega) k.2.2.1 (by decide)
        subst h
        generalize s * s = z at *
        omega
      · omega
    subst h hs
    rw [dirq_up] at db
    have q : qd 0 65536 = 1 := by decide
    have u : uvq 0 65536 = (65536, 0) := by decide
    refine ⟨by decide, ?_⟩
    unfold atn atr
    rw [q, u]
    simp only
    rw [dirq_flat, show told 0 = 0 by decide]
    unfold part at db
    rw [if_neg (by decide)]
    omega
  · refine ⟨fun t => h t.1, ?_⟩
    have t := told_two hr db.1 db.2
    have ti := told_in (dirq_lt c s)
    have q : qd c s = 0 := by unfold qd; rw [if_pos ⟨by omega, by omega⟩]
    have u : uvq c s = (c, s) := by unfold uvq; rw [if_pos ⟨by omega, by omega⟩]
    unfold atn atr
    rw [q, u]
    simp only
    generalize told (dirq c s) = F at *
    rw [if_neg (by omega)]
    omega
/-- In each quarter. -/
theorem csr_back {r : Nat} (hr : r < 5898240) : ∀ q : Nat, ¬ ((csr q r).1 = 0 ∧ (csr q r).2 = 0) ∧ ∃ j d : Int, atn (csr q r).2 (csr q r).1 = 5898240 * (q : Int) + (r : Int) + d + 23592960 * j ∧ -41 ≤ d ∧ d ≤ 41
  | 0 => by
    have k := csr_cases 0 r
    have e1 : (csr 0 r).1 = c46 (ZZ (part r)).1 := by omega
    have e2 : (csr 0 r).2 = c46 (ZZ (part r)).2 := by omega
    have b := first_back hr e1 e2
    generalize (csr 0 r).1 = c at *
    generalize (csr 0 r).2 = s at *
    exact ⟨b.1, 0, atn s c - r, by omega, by omega, by omega⟩
  | q + 1 => by
    obtain ⟨n, j, d, e, d0, d1⟩ := csr_back hr q
    rw [csr_next]
    generalize csr q r = z at *
    refine ⟨by simp only; omega, ?_⟩
    simp only
    have t := atn_turn (y := z.2) (x := z.1) n
    rw [t, e]
    refine ⟨j - (5898240 * (q : Int) + (r : Int) + d + 23592960 * j + 5898240) / 23592960, d, ?_, d0, d1⟩
    rw [Int.natCast_add]
    omega
theorem csa_atn (a : Int) : ¬ ((csa a).1 = 0 ∧ (csa a).2 = 0) ∧ ∃ j d : Int, atn (csa a).2 (csa a).1 = a + d + 23592960 * j ∧ -41 ≤ d ∧ d ≤ 41 := by
  obtain ⟨n, j, d, e, d0, d1⟩ := csr_back (rr_lt a) (qr a)
  unfold csa
  refine ⟨n, j - a / 23592960, d, ?_, d0, d1⟩
  rw [e]
  unfold qr rr
  omega
end Go.Proofs.Ythfgeopldbcniaa
