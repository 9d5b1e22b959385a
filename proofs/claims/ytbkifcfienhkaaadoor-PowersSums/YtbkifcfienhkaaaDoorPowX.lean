/- How near the products of the T(i) are to powers of 2, and the long logs to logs: said by powers of whole numbers. Plain arithmetic. -/
import Derived.Test.YtbkifcfienhkaaaDoorPowR
namespace Go.Proofs.YtbkifcfienhkaaaDoor
set_option linter.unusedVariables false
theorem sq_pow (z N : Nat) : z ^ (2 * N) = z ^ N * z ^ N := by rw [Nat.two_mul, Nat.pow_add]
theorem up_step {S t u N : Nat} (h : u * u ≤ t * S) (ih : t ^ N ≤ 2 * S ^ N) : u ^ (2 * N) ≤ 2 * S ^ (2 * N) := by
  have h' := Nat.pow_le_pow_left h N
  rw [Nat.mul_pow, Nat.mul_pow] at h'
  rw [sq_pow, sq_pow]
  generalize S ^ N = a at *
  generalize t ^ N = b at *
  generalize u ^ N = d at *
  calc d * d ≤ b * a := h'
    _ ≤ 2 * a * a := Nat.mul_le_mul_right _ ih
    _ = 2 * (a * a) := Nat.mul_assoc _ _ _
theorem lo_step {S C t u N : Nat} (h : S * t * (S * S) ≤ u * u * (C * C)) (ih : 2 * S ^ N * (S ^ N * S ^ N) ≤ t ^ N * (C ^ N * C ^ N)) : 2 * S ^ (2 * N) * (S ^ (2 * N) * S ^ (2 * N)) ≤ u ^ (2 * N) * (C ^ (2 * N) * C ^ (2 * N)) := by
  have h' := Nat.pow_le_pow_left h N
  simp only [Nat.mul_pow] at h'
  simp only [sq_pow]
  generalize S ^ N = a at *
  generalize t ^ N = b at *
  generalize u ^ N = d at *
  generalize C ^ N = c at *
  calc 2 * (a * a) * (a * a * (a * a)) = 2 * a * (a * a) * (a * (a * a)) := by ac_rfl
    _ ≤ b * (c * c) * (a * (a * a)) := Nat.mul_le_mul_right _ ih
    _ = a * b * (a * a) * (c * c) := by ac_rfl
    _ ≤ d * d * (c * c) * (c * c) := Nat.mul_le_mul_right _ h'
    _ = d * d * (c * c * (c * c)) := by ac_rfl
theorem TT_up : ∀ i, i ≤ 32 → TT i ^ (2 ^ i) ≤ 2 * 4611686018427387904 ^ (2 ^ i)
  | 0, _ => by rw [Nat.pow_zero, Nat.pow_one, Nat.pow_one]; exact Nat.le_refl _
  | i + 1, h => by
    rw [Nat.pow_succ, Nat.mul_comm (2 ^ i) 2]
    exact up_step (TT_root i (by omega)).1 (TT_up i (by omega))
theorem TT_lo : ∀ i, i ≤ 32 → 2 * 4611686018427387904 ^ (2 ^ i) * (4611686018427387904 ^ (2 ^ i) * 4611686018427387904 ^ (2 ^ i)) ≤ TT i ^ (2 ^ i) * (4611686018427387905 ^ (2 ^ i) * 4611686018427387905 ^ (2 ^ i))
  | 0, _ => by simp only [Nat.pow_zero, Nat.pow_one]; decide
  | i + 1, h => by
    rw [Nat.pow_succ, Nat.mul_comm (2 ^ i) 2]
    refine lo_step (t := TT i) ?_ (TT_lo i (by omega))
    have h1 := (TT_root i (by omega)).2
    have h2 := (TT_in (i + 1) h).1
    generalize TT (i + 1) = u at *
    generalize TT i = t at *
    have h3 : (u + 1) * 4611686018427387904 ≤ u * 4611686018427387905 := by omega
    have h4 := Nat.mul_le_mul h3 h3
    calc 4611686018427387904 * t * (4611686018427387904 * 4611686018427387904) = t * 4611686018427387904 * (4611686018427387904 * 4611686018427387904) := by rw [Nat.mul_comm 4611686018427387904 t]
      _ ≤ (u + 1) * (u + 1) * (4611686018427387904 * 4611686018427387904) := Nat.mul_le_mul_right _ (Nat.le_of_lt h1)
      _ = (u + 1) * 4611686018427387904 * ((u + 1) * 4611686018427387904) := by ac_rfl
      _ ≤ u * 4611686018427387905 * (u * 4611686018427387905) := h4
      _ = u * u * (4611686018427387905 * 4611686018427387905) := by ac_rfl
/-- What is known of each factor, and of its weight. -/
def Wt (E : Nat) : List Nat → Prop
  | [] => True
  | t :: ts => t ^ E ≤ 2 ^ (2 ^ ts.length) * 4611686018427387904 ^ E ∧ 2 ^ (2 ^ ts.length) * (4611686018427387904 ^ E * (4611686018427387904 ^ E * 4611686018427387904 ^ E)) ≤ t ^ E * (4611686018427387905 ^ E * 4611686018427387905 ^ E) ∧ 4611686018427387904 ≤ t ∧ Wt E ts
theorem EE_split {E i : Nat} (hE : E = 4294967296) (h : i ≤ 32) : 2 ^ i * 2 ^ (32 - i) = E := by rw [← Nat.pow_add, hE, show i + (32 - i) = 32 by omega]
theorem TT_wt {E i : Nat} (hE : E = 4294967296) (h : i ≤ 32) : TT i ^ E ≤ 2 ^ (2 ^ (32 - i)) * 4611686018427387904 ^ E ∧ 2 ^ (2 ^ (32 - i)) * (4611686018427387904 ^ E * (4611686018427387904 ^ E * 4611686018427387904 ^ E)) ≤ TT i ^ E * (4611686018427387905 ^ E * 4611686018427387905 ^ E) := by
  have h1 := Nat.pow_le_pow_left (TT_up i h) (2 ^ (32 - i))
  have h2 := Nat.pow_le_pow_left (TT_lo i h) (2 ^ (32 - i))
  rw [← EE_split hE h]
  simp only [Nat.mul_pow, ← Nat.pow_mul] at h1 h2 ⊢
  refine ⟨h1, ?_⟩
  rw [← Nat.mul_assoc]
  exact h2
theorem wt_drop {E : Nat} (hE : E = 4294967296) : ∀ n k, n + k = 32 → Wt E (tab.drop k)
  | 0, k, h => by rw [show k = 32 by omega]; exact trivial
  | n + 1, k, h => by
    rw [drop_tab (by omega)]
    have := TT_wt hE (i := k + 1) (by omega)
    have e : (tab.drop (k + 1)).length = 32 - (k + 1) := by rw [List.length_drop]; rfl
    refine ⟨by rw [e]; exact this.1, by rw [e]; exact this.2, (TT_in (k + 1) (by omega)).1, wt_drop hE n (k + 1) (by omega)⟩
theorem tab_wt {E : Nat} (hE : E = 4294967296) : Wt E tab := wt_drop hE 32 0 rfl
theorem pwr_up {E : Nat} : ∀ (ts : List Nat), Wt E ts → ∀ f p, pwr ts f p ^ E ≤ p ^ E * 2 ^ (f % 2 ^ ts.length)
  | [], _, f, p => by
    unfold pwr
    rw [List.length_nil, Nat.pow_zero, Nat.mod_one, Nat.pow_zero, Nat.mul_one]
    exact Nat.le_refl _
  | t :: ts, k, f, p => by
    have ih := pwr_up ts k.2.2.2 f
    unfold pwr
    rw [List.length_cons, bit_split]
    by_cases b : f / 2 ^ ts.length % 2 = 1
    · rw [if_pos b, b, Nat.one_mul, Nat.pow_add]
      have h1 : tm p t * 4611686018427387904 ≤ p * t := Nat.div_mul_le_self _ _
      have h2 := Nat.pow_le_pow_left h1 E
      rw [Nat.mul_pow, Nat.mul_pow] at h2
      have h3 := k.1
      have h4 := ih (tm p t)
      have sp : 0 < 4611686018427387904 ^ E := Nat.pow_pos (by decide)
      generalize 4611686018427387904 ^ E = a at *
      generalize tm p t ^ E = x at *
      generalize t ^ E = y at *
      generalize p ^ E = z at *
      generalize 2 ^ (2 ^ ts.length) = u at *
      have h5 : x ≤ z * u := by
        refine Nat.le_of_mul_le_mul_right ?_ sp
        calc x * a ≤ z * y := h2
          _ ≤ z * (u * a) := Nat.mul_le_mul_left _ h3
          _ = z * u * a := (Nat.mul_assoc _ _ _).symm
      refine Nat.le_trans h4 ?_
      rw [← Nat.mul_assoc]
      exact Nat.mul_le_mul_right _ h5
    · rw [if_neg b, show f / 2 ^ ts.length % 2 = 0 by omega, Nat.zero_mul, Nat.zero_add]
      exact ih p
theorem pwr_lo {E : Nat} : ∀ (ts : List Nat), Wt E ts → ∀ f p, 4611686018427387904 ≤ p → p ^ E * 2 ^ (f % 2 ^ ts.length) * (4611686018427387904 ^ E * (4611686018427387904 ^ E * 4611686018427387904 ^ E)) ^ ts.length ≤ pwr ts f p ^ E * (4611686018427387905 ^ E * (4611686018427387905 ^ E * 4611686018427387905 ^ E)) ^ ts.length
  | [], _, f, p, _ => by
    unfold pwr
    rw [List.length_nil, Nat.pow_zero, Nat.mod_one, Nat.pow_zero, Nat.mul_one, Nat.pow_zero]
    exact Nat.le_refl _
  | t :: ts, k, f, p, hp => by
    have ih := pwr_lo ts k.2.2.2 f
    unfold pwr
    rw [List.length_cons, bit_split, Nat.pow_succ, Nat.pow_succ]
    have ac : 4611686018427387904 ^ E ≤ 4611686018427387905 ^ E := Nat.pow_le_pow_left (by decide) E
    by_cases b : f / 2 ^ ts.length % 2 = 1
    · rw [if_pos b, b, Nat.one_mul, Nat.pow_add]
      have hq : 4611686018427387904 ≤ tm p t := Nat.le_trans hp (tm_le k.2.2.1)
      have h0 : p * t ≤ tm p t * 4611686018427387905 := by
        unfold tm at *
        have := Nat.div_add_mod (p * t) 4611686018427387904
        omega
      have h1 := Nat.pow_le_pow_left h0 E
      rw [Nat.mul_pow, Nat.mul_pow] at h1
      have h2 := k.2.1
      have h3 := ih (tm p t) hq
      generalize 4611686018427387904 ^ E = a at *
      generalize 4611686018427387905 ^ E = c at *
      generalize tm p t ^ E = x at *
      generalize t ^ E = y at *
      generalize p ^ E = z at *
      generalize 2 ^ (2 ^ ts.length) = u at *
      generalize 2 ^ (f % 2 ^ ts.length) = r at *
      generalize pwr ts f (tm p t) ^ E = R at *
      generalize (a * (a * a)) ^ ts.length = an at *
      generalize (c * (c * c)) ^ ts.length = cn at *
      calc z * (u * r) * (an * (a * (a * a))) = z * (u * (a * (a * a))) * (r * an) := by ac_rfl
        _ ≤ z * (y * (c * c)) * (r * an) := Nat.mul_le_mul_right _ (Nat.mul_le_mul_left _ h2)
        _ = z * y * (c * c * (r * an)) := by ac_rfl
        _ ≤ x * c * (c * c * (r * an)) := Nat.mul_le_mul_right _ h1
        _ = x * r * an * (c * (c * c)) := by ac_rfl
        _ ≤ R * cn * (c * (c * c)) := Nat.mul_le_mul_right _ h3
        _ = R * (cn * (c * (c * c))) := Nat.mul_assoc _ _ _
    · rw [if_neg b, show f / 2 ^ ts.length % 2 = 0 by omega, Nat.zero_mul, Nat.zero_add, ← Nat.mul_assoc (p ^ E * _), ← Nat.mul_assoc (pwr ts f p ^ E)]
      exact Nat.mul_le_mul (ih p hp) (Nat.mul_le_mul ac (Nat.mul_le_mul ac ac))
theorem PP_up {E f : Nat} (hE : E = 4294967296) (hf : f < 4294967296) : PP f ^ E ≤ 4611686018427387904 ^ E * 2 ^ f := by
  have := pwr_up tab (tab_wt hE) f 4611686018427387904
  rw [show tab.length = 32 from rfl, show f % 2 ^ 32 = f from Nat.mod_eq_of_lt hf] at this
  exact this
theorem PP_lo {E f : Nat} (hE : E = 4294967296) (hf : f < 4294967296) : 4611686018427387904 ^ E * 2 ^ f * (4611686018427387904 ^ E) ^ 96 ≤ PP f ^ E * (4611686018427387905 ^ E) ^ 96 := by
  have := pwr_lo tab (tab_wt hE) f 4611686018427387904 (Nat.le_refl _)
  rw [show tab.length = 32 from rfl, show f % 2 ^ 32 = f from Nat.mod_eq_of_lt hf] at this
  have e : ∀ a : Nat, (a * (a * a)) ^ 32 = a ^ 96 := by
    intro a
    rw [show a * (a * a) = a ^ 3 by rw [Nat.pow_succ, Nat.pow_succ, Nat.pow_one, Nat.mul_assoc], ← Nat.pow_mul]
  rw [e, e] at this
  exact this
/-- The bits of a long log as a number. -/
def llb : Nat → Nat → Nat
  | 0, _ => 0
  | n + 1, y => if tm y y < 9223372036854775808 then llb n (tm y y) else 2 ^ n + llb n (tm y y / 2)
theorem lls_llb : ∀ (n y : Nat) (l : Int), lls n y l = l * ((2 ^ n : Nat) : Int) + (llb n y : Int)
  | 0, y, l => by unfold lls llb; rw [Nat.pow_zero]; omega
  | n + 1, y, l => by
    unfold lls llb
    have e : l * ((2 ^ (n + 1) : Nat) : Int) = 2 * l * ((2 ^ n : Nat) : Int) := by
      rw [Nat.pow_succ, Nat.mul_comm, Int.natCast_mul, ← Int.mul_assoc, Int.mul_comm l]; rfl
    rw [e]
    split
    · rw [lls_llb n]
    · rw [lls_llb n, Int.add_mul, Int.one_mul, Int.natCast_add]; omega
theorem tm_sq {y : Nat} (h : 4611686018427387904 ≤ y) : tm y y * 4611686018427387904 ≤ y * y ∧ y * y < (tm y y + 1) * 4611686018427387904 := by
  unfold tm
  have := Nat.div_add_mod (y * y) 4611686018427387904
  have := Nat.mod_lt (y * y) (show 0 < 4611686018427387904 by decide)
  omega
theorem half_lo {z q : Nat} (h : z * 4611686018427387904 ≤ q) : 2 * (z / 2) * 4611686018427387904 ≤ q :=
  Nat.le_trans (Nat.mul_le_mul_right _ (Nat.mul_div_le z 2)) h
theorem half_hi {z q : Nat} (h : q < (z + 1) * 4611686018427387904) (g : 9223372036854775808 ≤ z) : q ≤ 2 * (z / 2) * 4611686018427387905 := by
  have h1 : z ≤ 2 * (z / 2) + 1 := by omega
  have h2 : 4611686018427387904 ≤ z / 2 := by omega
  generalize z / 2 = m at *
  omega
theorem whole_hi {z q : Nat} (h : q < (z + 1) * 4611686018427387904) (g : 4611686018427387904 ≤ z) : q ≤ z * 4611686018427387905 := by omega
theorem llb_lo : ∀ (n y : Nat), 4611686018427387904 ≤ y → y < 9223372036854775808 → 2 ^ llb n y * 4611686018427387904 ^ (2 ^ n) ≤ y ^ (2 ^ n)
  | 0, y, h, _ => by unfold llb; rw [Nat.pow_zero, Nat.one_mul, Nat.pow_one, Nat.pow_one]; exact h
  | n + 1, y, h0, h1 => by
    obtain ⟨g1, g2⟩ := tm_sq h0
    have l := tm_lt h1 h1
    have g := tm_le (p := y) h0
    unfold llb
    rw [Nat.pow_succ, Nat.mul_comm (2 ^ n) 2, sq_pow, sq_pow]
    split
    · rename_i hb
      have ih := llb_lo n (tm y y) (by omega) hb
      have k := Nat.pow_le_pow_left g1 (2 ^ n)
      rw [Nat.mul_pow, Nat.mul_pow] at k
      generalize 4611686018427387904 ^ (2 ^ n) = a at *
      generalize y ^ (2 ^ n) = b at *
      generalize tm y y ^ (2 ^ n) = d at *
      generalize 2 ^ llb n (tm y y) = u at *
      calc u * (a * a) = u * a * a := (Nat.mul_assoc _ _ _).symm
        _ ≤ d * a := Nat.mul_le_mul_right _ ih
        _ ≤ b * b := k
    · rename_i hb
      have g3 : 2 * (tm y y / 2) * 4611686018427387904 ≤ y * y := half_lo g1
      have ih := llb_lo n (tm y y / 2) (by omega) (by omega)
      have k := Nat.pow_le_pow_left g3 (2 ^ n)
      rw [Nat.mul_pow, Nat.mul_pow, Nat.mul_pow] at k
      rw [Nat.pow_add]
      generalize 4611686018427387904 ^ (2 ^ n) = a at *
      generalize y ^ (2 ^ n) = b at *
      generalize (tm y y / 2) ^ (2 ^ n) = d at *
      generalize 2 ^ llb n (tm y y / 2) = u at *
      generalize 2 ^ (2 ^ n) = c at *
      calc c * u * (a * a) = c * (u * a) * a := by ac_rfl
        _ ≤ c * d * a := Nat.mul_le_mul_right _ (Nat.mul_le_mul_left _ ih)
        _ ≤ b * b := k
theorem llb_hi : ∀ (n y : Nat), 4611686018427387904 ≤ y → y < 9223372036854775808 → y ^ (2 ^ n) ≤ 2 ^ (llb n y + 1) * 4611686018427387905 ^ (2 ^ n)
  | 0, y, h, h1 => by unfold llb; rw [Nat.pow_zero, Nat.pow_one, Nat.pow_one]; omega
  | n + 1, y, h0, h1 => by
    obtain ⟨g1, g2⟩ := tm_sq h0
    have l := tm_lt h1 h1
    have g := tm_le (p := y) h0
    unfold llb
    rw [Nat.pow_succ 2 n, Nat.mul_comm (2 ^ n) 2, sq_pow, sq_pow]
    split
    · rename_i hb
      have g3 : y * y ≤ tm y y * 4611686018427387905 := whole_hi g2 (Nat.le_trans h0 g)
      have ih := llb_hi n (tm y y) (by omega) hb
      have k := Nat.pow_le_pow_left g3 (2 ^ n)
      rw [Nat.mul_pow, Nat.mul_pow] at k
      generalize 4611686018427387905 ^ (2 ^ n) = a at *
      generalize y ^ (2 ^ n) = b at *
      generalize tm y y ^ (2 ^ n) = d at *
      generalize 2 ^ (llb n (tm y y) + 1) = u at *
      calc b * b ≤ d * a := k
        _ ≤ u * a * a := Nat.mul_le_mul_right _ ih
        _ = u * (a * a) := Nat.mul_assoc _ _ _
    · rename_i hb
      have g3 : y * y ≤ 2 * (tm y y / 2) * 4611686018427387905 := half_hi g2 (Nat.le_of_not_lt hb)
      have ih := llb_hi n (tm y y / 2) (by omega) (by omega)
      have k := Nat.pow_le_pow_left g3 (2 ^ n)
      rw [Nat.mul_pow, Nat.mul_pow, Nat.mul_pow] at k
      rw [Nat.add_assoc, Nat.pow_add 2 (2 ^ n)]
      generalize 4611686018427387905 ^ (2 ^ n) = a at *
      generalize y ^ (2 ^ n) = b at *
      generalize (tm y y / 2) ^ (2 ^ n) = d at *
      generalize 2 ^ (llb n (tm y y / 2) + 1) = u at *
      generalize 2 ^ (2 ^ n) = c at *
      calc b * b ≤ c * d * a := k
        _ ≤ c * (u * a) * a := Nat.mul_le_mul_right _ (Nat.mul_le_mul_left _ ih)
        _ = c * u * (a * a) := by ac_rfl
end Go.Proofs.YtbkifcfienhkaaaDoor
