/- Powers of 2 and long logs by the document's rule, as plain functions that name no program. Powers of 2 by the document's rule: what the products of the T(i) are between, and that they never fall. Plain arithmetic. -/
import Derived.Test.YtbkifcfienhkaaaDoorRootM
import Derived.Test.YtbkifcfienhkaaaDoorWideH
import Derived.Test.YtbkifcfienhkaaaDoorFixA
namespace Go.Proofs.YtbkifcfienhkaaaDoor
set_option linter.unusedVariables false
/-- A product of small parts, floored. -/
def tm (a b : Nat) : Nat := a * b / 4611686018427387904
/-- T(1) to T(32). -/
def tab : List Nat := [6521908912666391106, 5484249825272419511, 5029079263719320435, 4815862801830788490, 4712668792719003883, 4661903986662671289, 4636727017470743989, 4624189567668517719, 4617933561212708775, 4614808732577250067, 4613247111281068007, 4612466498810092973, 4612076242109103706, 4611881126141011235, 4611783571252412753, 4611734794581956352, 4611710406440186475, 4611698212417665818, 4611692115418496523, 4611689066921934629, 4611687542674409370, 4611686780550835663, 4611686399489096040, 4611686208958238036, 4611686113692811986, 4611686066060099699, 4611686042243743740, 4611686030335565806, 4611686024381476851, 4611686021404432376, 4611686019915910139, 4611686019171649021]
/-- T(0) to T(32). -/
def TT (i : Nat) : Nat := (9223372036854775808 :: tab).getD i 0
/-- The factors of which the bits are set, one after the other. -/
def pwr : List Nat → Nat → Nat → Nat
  | [], _, p => p
  | t :: ts, f, p => pwr ts f (if f / 2 ^ ts.length % 2 = 1 then tm p t else p)
/-- 2 to the power of f 2^-32s, in small parts. -/
def PP (f : Nat) : Nat := pwr tab f 4611686018427387904
/-- The bits of a long log, one after the other. -/
def lls : Nat → Nat → Int → Int
  | 0, _, l => l
  | n + 1, y, l => if tm y y < 9223372036854775808 then lls n (tm y y) (2 * l) else lls n (tm y y / 2) (2 * l + 1)
/-- The long log, in 2^-40s. -/
def LL (x : Nat) : Int := lls 40 (x * 2 ^ (62 - x.log2)) ((x.log2 : Int) - 16)
/-- The nearest 65536th of so many small parts times 2^w. -/
def nst (p : Nat) (w : Int) : Int := if 15 ≤ w then 2147483648 else if w ≤ -18 then 0 else ((p + 2 ^ (45 - w).toNat) / 2 ^ (46 - w).toNat : Nat)
/-- 2 to the power of e 2^-32s, in 65536ths. -/
def two (e : Int) : Int := nst (PP (e % 4294967296).toNat) (e / 4294967296)
def exq (x : Int) : Int := held (two (x * 65536))
def lgq (x : Int) : Int := if x ≤ 0 then 0 else nr (LL x.toNat) 16777216
def lge (x : Int) : Int := if x ≤ 0 then 1 else 0
def rsd (a n : Int) : Int := two (nr (n * LL a.toNat) 16777216)
def pwq (a n : Int) : Int := if n = 0 then 65536 else if a = 0 then 0 else if 0 < a then held (rsd a n) else if n % 65536 = 0 then (if n / 65536 % 2 = 0 then held (rsd (-a) n) else held (-rsd (-a) n)) else 0
def pwe (a n : Int) : Int := if n = 0 then 0 else if a = 0 then (if n < 0 then 12 else 0) else if 0 < a then 0 else if n % 65536 = 0 then 0 else 1
theorem TT_root : ∀ i, i < 32 → TT (i + 1) * TT (i + 1) ≤ TT i * 4611686018427387904 ∧ TT i * 4611686018427387904 < (TT (i + 1) + 1) * (TT (i + 1) + 1) := by decide +kernel
theorem TT_in : ∀ i, i ≤ 32 → 4611686018427387904 ≤ TT i ∧ TT i ≤ 9223372036854775808 ∧ (i = 0 ∨ TT i < 9223372036854775808) := by decide +kernel
theorem TT_rt {i : Nat} (h : i < 32) : rt ((TT i : Int) * 4611686018427387904) = (TT (i + 1) : Int) := by
  obtain ⟨h1, h2⟩ := TT_root i h
  have k1 := Int.ofNat_le.2 h1
  have k2 := Int.ofNat_lt.2 h2
  rw [Int.natCast_mul, Int.natCast_mul] at k1
  rw [Int.natCast_mul, Int.natCast_mul, Int.natCast_add] at k2
  exact rt_of (by omega) k1 k2
theorem tm_lt {a b : Nat} (ha : a < 9223372036854775808) (hb : b < 9223372036854775808) : tm a b < 18446744073709551616 := by
  unfold tm
  have : a * b < 9223372036854775808 * 9223372036854775808 := Nat.mul_lt_mul'' ha hb
  omega
end Go.Proofs.YtbkifcfienhkaaaDoor

namespace Go.Proofs.YtbkifcfienhkaaaDoor
set_option linter.unusedVariables false
theorem tm_le {p t : Nat} (h : 4611686018427387904 ≤ t) : p ≤ tm p t := by
  unfold tm
  rw [Nat.le_div_iff_mul_le (by decide)]
  exact Nat.mul_le_mul_left p h
theorem tm_mono {p q s t : Nat} (h : p ≤ q) (k : s ≤ t) : tm p s ≤ tm q t := Nat.div_le_div_right (Nat.mul_le_mul h k)
theorem pwr_ge : ∀ (ts : List Nat) (f p : Nat), (∀ t ∈ ts, 4611686018427387904 ≤ t) → p ≤ pwr ts f p
  | [], _, _, _ => Nat.le_refl _
  | t :: ts, f, p, h => by
    unfold pwr
    have ih := fun p => pwr_ge ts f p (fun t ht => h t (List.mem_cons_of_mem _ ht))
    split
    · exact Nat.le_trans (tm_le (h t List.mem_cons_self)) (ih _)
    · exact ih _
/-- All factors. -/
def all1 : List Nat → Nat → Nat
  | [], p => p
  | t :: ts, p => all1 ts (tm p t)
theorem pwr_all : ∀ (ts : List Nat) (f p q : Nat), (∀ t ∈ ts, 4611686018427387904 ≤ t) → p ≤ q → pwr ts f p ≤ all1 ts q
  | [], _, _, _, _, h => h
  | t :: ts, f, p, q, h, hq => by
    unfold pwr all1
    have ih := fun p q => pwr_all ts f p q (fun t ht => h t (List.mem_cons_of_mem _ ht))
    split
    · exact ih _ _ (tm_mono hq (Nat.le_refl _))
    · exact ih _ _ (Nat.le_trans hq (tm_le (h t List.mem_cons_self)))
theorem tab_ge : ∀ t ∈ tab, 4611686018427387904 ≤ t := by decide +kernel
theorem PP_ge (f : Nat) : 4611686018427387904 ≤ PP f := pwr_ge tab f _ tab_ge
theorem PP_lt (f : Nat) : PP f < 9223372036854775808 := Nat.lt_of_le_of_lt (pwr_all tab f _ _ tab_ge (Nat.le_refl _)) (by decide +kernel)
/-- What all factors together are at most. -/
def upr : List Nat → Nat
  | [] => 4611686018427387904
  | t :: ts => (t * upr ts + 4611686018427387903) / 4611686018427387904
theorem all1_up : ∀ (ts : List Nat) (p : Nat), all1 ts p * 4611686018427387904 ≤ p * upr ts
  | [], p => Nat.le_refl _
  | t :: ts, p => by
    have ih := all1_up ts (tm p t)
    unfold all1
    refine Nat.le_trans ih ?_
    have e : upr (t :: ts) = (t * upr ts + 4611686018427387903) / 4611686018427387904 := rfl
    have h1 : tm p t * 4611686018427387904 ≤ p * t := Nat.div_mul_le_self _ _
    have h2 : t * upr ts ≤ upr (t :: ts) * 4611686018427387904 := by rw [e]; omega
    have h3 : tm p t * upr ts * 4611686018427387904 ≤ p * upr (t :: ts) * 4611686018427387904 := by
      calc tm p t * upr ts * 4611686018427387904 = tm p t * 4611686018427387904 * upr ts := Nat.mul_right_comm _ _ _
        _ ≤ p * t * upr ts := Nat.mul_le_mul_right _ h1
        _ = p * (t * upr ts) := Nat.mul_assoc _ _ _
        _ ≤ p * (upr (t :: ts) * 4611686018427387904) := Nat.mul_le_mul_left _ h2
        _ = p * upr (t :: ts) * 4611686018427387904 := (Nat.mul_assoc _ _ _).symm
    exact Nat.le_of_mul_le_mul_right h3 (by decide)
/-- Each factor is above all those behind it together. -/
def tall : List Nat → Bool
  | [] => true
  | t :: ts => decide (upr ts ≤ t) && decide (4611686018427387904 ≤ t) && tall ts
theorem tall_ge : ∀ (ts : List Nat), tall ts = true → ∀ t ∈ ts, 4611686018427387904 ≤ t
  | [], _, t, h => by cases h
  | s :: ts, g, t, h => by
    unfold tall at g
    simp only [Bool.and_eq_true, decide_eq_true_eq] at g
    rcases List.mem_cons.1 h with rfl | h
    · exact g.1.2
    · exact tall_ge ts g.2 t h
theorem bit_split (f n : Nat) : f % 2 ^ (n + 1) = f / 2 ^ n % 2 * 2 ^ n + f % 2 ^ n := by
  rw [Nat.pow_succ, Nat.mod_mul, Nat.mul_comm (2 ^ n), Nat.add_comm]
theorem pwr_mono : ∀ (ts : List Nat), tall ts = true → ∀ f g p q, p ≤ q → f % 2 ^ ts.length ≤ g % 2 ^ ts.length → pwr ts f p ≤ pwr ts g q
  | [], _, f, g, p, q, h, _ => h
  | t :: ts, k, f, g, p, q, h, hf => by
    have kk := k
    unfold tall at kk
    simp only [Bool.and_eq_true, decide_eq_true_eq] at kk
    have ih := pwr_mono ts kk.2
    have hge := tall_ge ts kk.2
    rw [List.length_cons, bit_split, bit_split] at hf
    unfold pwr
    have m1 : f % 2 ^ ts.length < 2 ^ ts.length := Nat.mod_lt _ (Nat.two_pow_pos _)
    have m2 : g % 2 ^ ts.length < 2 ^ ts.length := Nat.mod_lt _ (Nat.two_pow_pos _)
    have b1 : f / 2 ^ ts.length % 2 = 0 ∨ f / 2 ^ ts.length % 2 = 1 := by omega
    have b2 : g / 2 ^ ts.length % 2 = 0 ∨ g / 2 ^ ts.length % 2 = 1 := by omega
    rcases b1 with b1 | b1 <;> rcases b2 with b2 | b2
    · rw [b1, b2] at hf ⊢
      exact ih f g _ _ h (by omega)
    · rw [b1, b2]
      rw [if_neg (by decide), if_pos rfl]
      have h1 := pwr_all ts f p p hge (Nat.le_refl _)
      have h2 := all1_up ts p
      have h3 : all1 ts p ≤ tm p t := by
        unfold tm
        rw [Nat.le_div_iff_mul_le (by decide)]
        exact Nat.le_trans h2 (Nat.mul_le_mul_left p kk.1.1)
      exact Nat.le_trans h1 (Nat.le_trans h3 (Nat.le_trans (tm_mono h (Nat.le_refl _)) (pwr_ge ts g _ hge)))
    · exfalso
      rw [b1, b2] at hf
      omega
    · rw [b1, b2] at hf ⊢
      rw [if_pos rfl, if_pos rfl]
      exact ih f g _ _ (tm_mono h (Nat.le_refl _)) (by omega)
theorem tab_tall : tall tab = true := by decide +kernel
theorem PP_mono {f g : Nat} (hg : g < 4294967296) (h : f ≤ g) : PP f ≤ PP g := by
  refine pwr_mono tab tab_tall f g _ _ (Nat.le_refl _) ?_
  rw [show tab.length = 32 from rfl, show (2 : Nat) ^ 32 = 4294967296 from rfl]
  omega
end Go.Proofs.YtbkifcfienhkaaaDoor
