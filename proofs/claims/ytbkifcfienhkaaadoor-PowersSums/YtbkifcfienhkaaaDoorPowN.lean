/- Powers of 2 by the document's rule: what the products of the T(i) are between, and that they never fall. Plain arithmetic. -/
import Derived.Test.YtbkifcfienhkaaaDoorPowM
namespace Go.Proofs.YtbkifcfienhkaaaDoor
set_option linter.unusedVariables false
theorem tm_le {p t : Nat} (h : 4611686018427387904 ≤ t) : p ≤ tm p t := by
  unfold tm
  rw [Nat.le_div_iff_mul_le (by decide)]
  exact Nat.mul_le_mul_left p h
theorem tm_mono {p q s t : Nat} (h : p ≤ q) (k : s ≤ t) : tm p s ≤ tm q t := Nat.div_le_div_right (Nat.mul_le_mul h k)
theorem pwr_ge : ∀ (ts : List Nat) (f p : Nat), (∀ t ∈ ts, 4611686018427387904 ≤ t) → p ≤ pwr ts f p
  | [], _, _, _ => Nat.le_refl _
  | t :: ts, f, p, h => by
    unfold pwr
    have ih := fun p => pwr_ge ts f p (fun t ht => h t (List.mem_cons_of_mem _ ht))
    split
    · exact Nat.le_trans (tm_le (h t List.mem_cons_self)) (ih _)
    · exact ih _
/-- All factors. -/
def all1 : List Nat → Nat → Nat
  | [], p => p
  | t :: ts, p => all1 ts (tm p t)
theorem pwr_all : ∀ (ts : List Nat) (f p q : Nat), (∀ t ∈ ts, 4611686018427387904 ≤ t) → p ≤ q → pwr ts f p ≤ all1 ts q
  | [], _, _, _, _, h => h
  | t :: ts, f, p, q, h, hq => by
    unfold pwr all1
    have ih := fun p q => pwr_all ts f p q (fun t ht => h t (List.mem_cons_of_mem _ ht))
    split
    · exact ih _ _ (tm_mono hq (Nat.le_refl _))
    · exact ih _ _ (Nat.le_trans hq (tm_le (h t List.mem_cons_self)))
theorem tab_ge : ∀ t ∈ tab, 4611686018427387904 ≤ t := by decide +kernel
theorem PP_ge (f : Nat) : 4611686018427387904 ≤ PP f := pwr_ge tab f _ tab_ge
theorem PP_lt (f : Nat) : PP f < 9223372036854775808 := Nat.lt_of_le_of_lt (pwr_all tab f _ _ tab_ge (Nat.le_refl _)) (by decide +kernel)
/-- What all factors together are at most. -/
def upr : List Nat → Nat
  | [] => 4611686018427387904
  | t :: ts => (t * upr ts + 4611686018427387903) / 4611686018427387904
theorem all1_up : ∀ (ts : List Nat) (p : Nat), all1 ts p * 4611686018427387904 ≤ p * upr ts
  | [], p => Nat.le_refl _
  | t :: ts, p => by
    have ih := all1_up ts (tm p t)
    unfold all1
    refine Nat.le_trans ih ?_
    have e : upr (t :: ts) = (t * upr ts + 4611686018427387903) / 4611686018427387904 := rfl
    have h1 : tm p t * 4611686018427387904 ≤ p * t := Nat.div_mul_le_self _ _
    have h2 : t * upr ts ≤ upr (t :: ts) * 4611686018427387904 := by rw [e]; omega
    have h3 : tm p t * upr ts * 4611686018427387904 ≤ p * upr (t :: ts) * 4611686018427387904 := by
      calc tm p t * upr ts * 4611686018427387904 = tm p t * 4611686018427387904 * upr ts := Nat.mul_right_comm _ _ _
        _ ≤ p * t * upr ts := Nat.mul_le_mul_right _ h1
        _ = p * (t * upr ts) := Nat.mul_assoc _ _ _
        _ ≤ p * (upr (t :: ts) * 4611686018427387904) := Nat.mul_le_mul_left _ h2
        _ = p * upr (t :: ts) * 4611686018427387904 := (Nat.mul_assoc _ _ _).symm
    exact Nat.le_of_mul_le_mul_right h3 (by decide)
/-- Each factor is above all those behind it together. -/
def tall : List Nat → Bool
  | [] => true
  | t :: ts => decide (upr ts ≤ t) && decide (4611686018427387904 ≤ t) && tall ts
theorem tall_ge : ∀ (ts : List Nat), tall ts = true → ∀ t ∈ ts, 4611686018427387904 ≤ t
  | [], _, t, h => by cases h
  | s :: ts, g, t, h => by
    unfold tall at g
    simp only [Bool.and_eq_true, decide_eq_true_eq] at g
    rcases List.mem_cons.1 h with rfl | h
    · exact g.1.2
    · exact tall_ge ts g.2 t h
theorem bit_split (f n : Nat) : f % 2 ^ (n + 1) = f / 2 ^ n % 2 * 2 ^ n + f % 2 ^ n := by
  rw [Nat.pow_succ, Nat.mod_mul, Nat.mul_comm (2 ^ n), Nat.add_comm]
theorem pwr_mono : ∀ (ts : List Nat), tall ts = true → ∀ f g p q, p ≤ q → f % 2 ^ ts.length ≤ g % 2 ^ ts.length → pwr ts f p ≤ pwr ts g q
  | [], _, f, g, p, q, h, _ => h
  | t :: ts, k, f, g, p, q, h, hf => by
    have kk := k
    unfold tall at kk
    simp only [Bool.and_eq_true, decide_eq_true_eq] at kk
    have ih := pwr_mono ts kk.2
    have hge := tall_ge ts kk.2
    rw [List.length_cons, bit_split, bit_split] at hf
    unfold pwr
    have m1 : f % 2 ^ ts.length < 2 ^ ts.length := Nat.mod_lt _ (Nat.two_pow_pos _)
    have m2 : g % 2 ^ ts.length < 2 ^ ts.length := Nat.mod_lt _ (Nat.two_pow_pos _)
    have b1 : f / 2 ^ ts.length % 2 = 0 ∨ f / 2 ^ ts.length % 2 = 1 := by omega
    have b2 : g / 2 ^ ts.length % 2 = 0 ∨ g / 2 ^ ts.length % 2 = 1 := by omega
    rcases b1 with b1 | b1 <;> rcases b2 with b2 | b2
    · rw [b1, b2] at hf ⊢
      exact ih f g _ _ h (by omega)
    · rw [b1, b2]
      rw [if_neg (by decide), if_pos rfl]
      have h1 := pwr_all ts f p p hge (Nat.le_refl _)
      have h2 := all1_up ts p
      have h3 : all1 ts p ≤ tm p t := by
        unfold tm
        rw [Nat.le_div_iff_mul_le (by decide)]
        exact Nat.le_trans h2 (Nat.mul_le_mul_left p kk.1.1)
      exact Nat.le_trans h1 (Nat.le_trans h3 (Nat.le_trans (tm_mono h (Nat.le_refl _)) (pwr_ge ts g _ hge)))
    · exfalso
      rw [b1, b2] at hf
      omega
    · rw [b1, b2] at hf ⊢
      rw [if_pos rfl, if_pos rfl]
      exact ih f g _ _ (tm_mono h (Nat.le_refl _)) (by omega)
theorem tab_tall : tall tab = true := by decide +kernel
theorem PP_mono {f g : Nat} (hg : g < 4294967296) (h : f ≤ g) : PP f ≤ PP g := by
  refine pwr_mono tab tab_tall f g _ _ (Nat.le_refl _) ?_
  rw [show tab.length = 32 from rfl, show (2 : Nat) ^ 32 = 4294967296 from rfl]
  omega
end Go.Proofs.YtbkifcfienhkaaaDoor
