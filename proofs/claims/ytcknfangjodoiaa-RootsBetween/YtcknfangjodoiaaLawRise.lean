/- The walk of the given function RootsRise: it returns true at every two whole numbers. -/
import Derived.Test.YtcknfangjodoiaaRootD
namespace Go.Proofs.Ytcknfangjodoiaa
open Go.RowKit Go.BigFrame
set_option linter.unusedSimpArgs false
set_option linter.unusedVariables false

set_option maxHeartbeats 4000000 in
theorem rise_high (a b x p q : Int) (a0 : 0 ≤ a) (a1 : a < 18446744073709551616) (b0 : 0 ≤ b) (b1 : b < 18446744073709551616) (ha : 4611686018427387904 ≤ a) (pq : decide (q < p) = false)
    (W1 : ∀ w, Calls Try.prog 9 #[.agg #[.int .i64 0, .int .u64 a]] w fun e w' => e = .returned (.tuple #[.int .u64 x, .int .i64 0]) ∧ Ext w w')
    (R1 : ∀ w, Calls Try.prog 13 #[.int .u64 a] w fun e w' => e = .returned (.int .u64 x) ∧ Ext w w')
    (R2 : ∀ w, Calls Try.prog 13 #[.int .u64 (min a b)] w fun e w' => e = .returned (.int .u64 p) ∧ Ext w w')
    (R3 : ∀ w, Calls Try.prog 13 #[.int .u64 (max a b)] w fun e w' => e = .returned (.int .u64 q) ∧ Ext w w') (w : World) :
    Calls Try.prog 6 #[.int .u64 a, .int .u64 b] w fun e w' => e = .returned (.bool true) ∧ Ext w w' := by
  have EX := Ext.refl w
  have LV := lives_any
  have d : 0 < a / 4611686018427387904 := by omega
  go_enter Try.func6, Try.ntmps6
  go_wp2_with (first | (go_at_call 9; with_reducible refine (W1 _).mono ?_; rintro e v1 ⟨rfl, hb⟩; replace EX := Ext.trans EX hb; clear hb) | (go_at_call 13; with_reducible refine (R1 _).mono ?_; rintro e v1 ⟨rfl, hb⟩; replace EX := Ext.trans EX hb; clear hb) | (go_at_call 13; with_reducible refine (R2 _).mono ?_; rintro e v1 ⟨rfl, hb⟩; replace EX := Ext.trans EX hb; clear hb) | (go_at_call 13; with_reducible refine (R3 _).mono ?_; rintro e v1 ⟨rfl, hb⟩; replace EX := Ext.trans EX hb; clear hb) | (go_at_call 17; with_reducible refine (LV _).mono ?_; rintro e v1 ⟨rfl, hb⟩; replace EX := Ext.trans EX hb; clear hb))
  all_goals (go_ret; exact ⟨rfl, EX⟩)
set_option maxHeartbeats 4000000 in
theorem rise_low (a b x y p q : Int) (a0 : 0 ≤ a) (b0 : 0 ≤ b) (b1 : b < 18446744073709551616) (ha : a < 4611686018427387904) (pq : decide (q < p) = false) (x0 : 0 ≤ x) (x1 : x ≤ 4294967295) (hy : (y == 2 * x) = true ∨ (y == 2 * x) = false ∧ (y == 2 * x + 1) = true)
    (W1 : ∀ w, Calls Try.prog 9 #[.agg #[.int .i64 0, .int .u64 a]] w fun e w' => e = .returned (.tuple #[.int .u64 x, .int .i64 0]) ∧ Ext w w')
    (R1 : ∀ w, Calls Try.prog 13 #[.int .u64 a] w fun e w' => e = .returned (.int .u64 x) ∧ Ext w w')
    (R2 : ∀ w, Calls Try.prog 13 #[.int .u64 (min a b)] w fun e w' => e = .returned (.int .u64 p) ∧ Ext w w')
    (R3 : ∀ w, Calls Try.prog 13 #[.int .u64 (max a b)] w fun e w' => e = .returned (.int .u64 q) ∧ Ext w w')
    (R4 : ∀ w, Calls Try.prog 13 #[.int .u64 (4 * a)] w fun e w' => e = .returned (.int .u64 y) ∧ Ext w w') (w : World) :
    Calls Try.prog 6 #[.int .u64 a, .int .u64 b] w fun e w' => e = .returned (.bool true) ∧ Ext w w' := by
  have EX := Ext.refl w
  have LV := lives_any
  have d : ¬ 0 < a / 4611686018427387904 := by omega
  rcases hy with hy | ⟨hy, hz⟩
  all_goals
    go_enter Try.func6, Try.ntmps6
    go_wp2_with (first | (go_at_call 9; with_reducible refine (W1 _).mono ?_; rintro e v1 ⟨rfl, hb⟩; replace EX := Ext.trans EX hb; clear hb) | (go_at_call 13; with_reducible refine (R1 _).mono ?_; rintro e v1 ⟨rfl, hb⟩; replace EX := Ext.trans EX hb; clear hb) | (go_at_call 13; with_reducible refine (R2 _).mono ?_; rintro e v1 ⟨rfl, hb⟩; replace EX := Ext.trans EX hb; clear hb) | (go_at_call 13; with_reducible refine (R3 _).mono ?_; rintro e v1 ⟨rfl, hb⟩; replace EX := Ext.trans EX hb; clear hb) | (go_at_call 13; with_reducible refine (R4 _).mono ?_; rintro e v1 ⟨rfl, hb⟩; replace EX := Ext.trans EX hb; clear hb) | (go_at_call 17; with_reducible refine (LV _).mono ?_; rintro e v1 ⟨rfl, hb⟩; replace EX := Ext.trans EX hb; clear hb))
    all_goals (go_ret; exact ⟨rfl, EX⟩)
theorem rt_u64 {n : Int} (h : InU64 n) : 0 ≤ rt n ∧ rt n ≤ 4294967295 := ⟨rt_0 n, rt_le h.1 (by decide) (by have := h.2; omega)⟩
theorem rt_four {a : Int} (h : 0 ≤ a) : rt (4 * a) = 2 * rt a ∨ rt (4 * a) = 2 * rt a + 1 := by
  have h1 := rt_spec h
  have h2 := rt_spec (show 0 ≤ 4 * a by omega)
  have r0 := rt_0 a
  have q0 := rt_0 (4 * a)
  generalize rt (4 * a) = y at *
  generalize rt a = x at *
  have e1 : 2 * x * (2 * x) = 4 * (x * x) := by rw [Int.mul_assoc, Int.mul_left_comm x 2 x]; omega
  have e2 : (2 * x + 2) * (2 * x + 2) = 4 * ((x + 1) * (x + 1)) := by
    rw [show 2 * x + 2 = 2 * (x + 1) by omega, Int.mul_assoc, Int.mul_left_comm (x + 1) 2 (x + 1)]; omega
  have a1 := lt_of_sq (a := 2 * x) (b := y + 1) (by omega) (by omega)
  have a2 := lt_of_sq (a := y) (b := 2 * x + 2) (by omega) (by omega)
  omega
theorem rise_law (a b : Int) (ha : InU64 a) (hb : InU64 b) (w : World) : Calls Try.prog 6 #[.int .u64 a, .int .u64 b] w fun e w' => e = .returned (.bool true) ∧ Ext w w' := by
  have hW : InW a := by unfold InU64 InW at *; omega
  have W1 := fun w => rootWide_any a hW ha.1 w
  rw [(hi_u ha).1, (hi_u ha).2] at W1
  have R1 := fun w => root_at a ha w
  have h1 : InU64 (min a b) := by unfold InU64 at *; omega
  have h2 : InU64 (max a b) := by unfold InU64 at *; omega
  have R2 := fun w => root_at (min a b) h1 w
  have R3 := fun w => root_at (max a b) h2 w
  have m := rt_mono h1.1 (show min a b ≤ max a b by omega)
  have hx := rt_u64 ha
  have f := rt_four ha.1
  obtain ⟨a0, a1⟩ := ha
  obtain ⟨b0, b1⟩ := hb
  by_cases h : a < 4611686018427387904
  · have R4 := fun w => root_at (4 * a) ⟨by omega, by omega⟩ w
    refine rise_low a b (rt a) (rt (4 * a)) _ _ a0 b0 b1 h (by rw [decide_eq_false]; omega) hx.1 hx.2 ?_ W1 R1 R2 R3 R4 w
    generalize rt (4 * a) = y at *
    generalize rt a = x at *
    rcases f with rfl | rfl
    · exact .inl (by simp)
    · exact .inr ⟨by simp; omega, by simp⟩
  · exact rise_high a b _ _ _ a0 a1 b0 b1 (by omega) (by rw [decide_eq_false]; omega) W1 R1 R2 R3 w
end Go.Proofs.Ytcknfangjodoiaa
