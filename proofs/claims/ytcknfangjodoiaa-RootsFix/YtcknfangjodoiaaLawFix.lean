/- The walk of the given function RootsFix: it returns true at every fix. -/
import Derived.Test.YtcknfangjodoiaaRootD
namespace Go.Proofs.Ytcknfangjodoiaa
open Go.RowKit Go.BigFrame
set_option linter.unusedSimpArgs false
set_option linter.unusedVariables false

set_option maxHeartbeats 4000000 in
theorem fix_neg (x : Int) (h1 : x < 0) (w : World) : Calls Try.prog 7 #[.int .i32 x] w fun e w' => e = .returned (.bool true) ∧ Ext w w' := by
  have EX := Ext.refl w
  have LV := lives_any
  have S := fun w => sqrt_neg x h1 w
  go_enter Try.func7, Try.ntmps7
  go_wp2_with (first | (go_at_call 11; with_reducible refine (S _).mono ?_; rintro e v1 ⟨rfl, hb⟩; replace EX := Ext.trans EX hb; clear hb) | (go_at_call 17; with_reducible refine (LV _).mono ?_; rintro e v1 ⟨rfl, hb⟩; replace EX := Ext.trans EX hb; clear hb))
  go_ret
  exact ⟨rfl, EX⟩
set_option maxHeartbeats 4000000 in
theorem fix_walk (x y k : Int) (x0 : 0 ≤ x) (x1 : x ≤ 2147483647) (y0 : 0 ≤ y) (y1 : y ≤ 16777216) (hk : x % 181 = k) (k0 : 0 ≤ k) (k1 : k ≤ 180) (g1 : decide (x * 65536 < y * y) = false) (g2 : decide ((y + 1) * (y + 1) ≤ x * 65536) = false)
    (w1 : wrap64 (y * y) = y * y) (w2 : wrap64 ((y + 1) * (y + 1)) = (y + 1) * (y + 1)) (w3 : wrap64 (k * k) = k * k) (kk0 : 0 ≤ k * k) (kk1 : k * k ≤ 32400) (hc : x < 65536 ∧ x ≤ y ∨ x = 65536 ∧ y = 65536 ∨ 65536 < x ∧ y ≤ x)
    (S1 : ∀ w, Calls Try.prog 11 #[.int .i32 x] w fun e w' => e = .returned (.tuple #[.int .i32 y, .int .i64 0]) ∧ Ext w w')
    (S2 : ∀ w, Calls Try.prog 11 #[.int .i32 (k * k * 65536)] w fun e w' => e = .returned (.tuple #[.int .i32 (k * 65536), .int .i64 0]) ∧ Ext w w') (w : World) :
    Calls Try.prog 7 #[.int .i32 x] w fun e w' => e = .returned (.bool true) ∧ Ext w w' := by
  have EX := Ext.refl w
  have LV := lives_any
  have nx : ¬ x < 0 := by omega
  have ny : ¬ y < 0 := by omega
  rcases hc with ⟨c1, c2⟩ | ⟨c1, c2⟩ | ⟨c1, c2⟩
  · go_enter Try.func7, Try.ntmps7
    go_wp2_with (first | (go_at_call 11; with_reducible refine (S1 _).mono ?_; rintro e v1 ⟨rfl, hb⟩; replace EX := Ext.trans EX hb; clear hb) | (go_at_call 11; with_reducible refine (S2 _).mono ?_; rintro e v1 ⟨rfl, hb⟩; replace EX := Ext.trans EX hb; clear hb) | (go_at_call 17; with_reducible refine (LV _).mono ?_; rintro e v1 ⟨rfl, hb⟩; replace EX := Ext.trans EX hb; clear hb))
    go_ret
    exact ⟨rfl, EX⟩
  · have d1 : ¬ x < 65536 := by omega
    have d2 : ¬ 65536 < x := by omega
    have d3 : y ≤ x := by omega
    have d4 : x ≤ y := by omega
    clear c1 c2
    go_enter Try.func7, Try.ntmps7
    go_wp2_with (first | (go_at_call 11; with_reducible refine (S1 _).mono ?_; rintro e v1 ⟨rfl, hb⟩; replace EX := Ext.trans EX hb; clear hb) | (go_at_call 11; with_reducible refine (S2 _).mono ?_; rintro e v1 ⟨rfl, hb⟩; replace EX := Ext.trans EX hb; clear hb) | (go_at_call 17; with_reducible refine (LV _).mono ?_; rintro e v1 ⟨rfl, hb⟩; replace EX := Ext.trans EX hb; clear hb))
    all_goals (go_ret; exact ⟨rfl, EX⟩)
  · have d1 : ¬ x < 65536 := by omega
    go_enter Try.func7, Try.ntmps7
    go_wp2_with (first | (go_at_call 11; with_reducible refine (S1 _).mono ?_; rintro e v1 ⟨rfl, hb⟩; replace EX := Ext.trans EX hb; clear hb) | (go_at_call 11; with_reducible refine (S2 _).mono ?_; rintro e v1 ⟨rfl, hb⟩; replace EX := Ext.trans EX hb; clear hb) | (go_at_call 17; with_reducible refine (LV _).mono ?_; rintro e v1 ⟨rfl, hb⟩; replace EX := Ext.trans EX hb; clear hb))
    all_goals (go_ret; exact ⟨rfl, EX⟩)
theorem sq_scale (k c : Int) : k * k * c * c = k * c * (k * c) := by simp only [Int.mul_assoc, Int.mul_comm, Int.mul_left_comm]
theorem fix_law (x : Int) (hx : -2147483648 ≤ x ∧ x ≤ 2147483647) (w : World) : Calls Try.prog 7 #[.int .i32 x] w fun e w' => e = .returned (.bool true) ∧ Ext w w' := by
  by_cases h : x < 0
  · exact fix_neg x h w
  · have x0 : 0 ≤ x := by omega
    have hr := rt_fix x0 hx.2
    have hs := rt_spec (show 0 ≤ x * 65536 by omega)
    have k0 : 0 ≤ x % 181 := by omega
    have k1 : x % 181 ≤ 180 := by omega
    have kk0 : 0 ≤ x % 181 * (x % 181) := Int.mul_nonneg k0 k0
    have kk1 : x % 181 * (x % 181) ≤ 180 * 180 := Int.mul_le_mul k1 k1 k0 (by decide)
    have S1 := fun w => sqrt_any x x0 hx.2 w
    have S2 := fun w => sqrt_any (x % 181 * (x % 181) * 65536) (by omega) (by omega) w
    have e : rt (x % 181 * (x % 181) * 65536 * 65536) = x % 181 * 65536 := by
      rw [sq_scale]
      exact rt_sq (by omega)
    rw [e] at S2
    have hc : x < 65536 ∧ x ≤ rt (x * 65536) ∨ x = 65536 ∧ rt (x * 65536) = 65536 ∨ 65536 < x ∧ rt (x * 65536) ≤ x := by
      rcases Int.lt_trichotomy x 65536 with c | c | c
      · exact .inl ⟨c, rt_ge (by omega) (Int.mul_le_mul_of_nonneg_left (by omega) x0)⟩
      · exact .inr (.inl ⟨c, by rw [c]; exact rt_sq (by decide)⟩)
      · refine .inr (.inr ⟨c, rt_le (by omega) x0 ?_⟩)
        have := Int.mul_le_mul_of_nonneg_left (show 65536 ≤ x by omega) x0
        have := sq_lt x0 (show x < x + 1 by omega)
        omega
    clear e
    generalize rt (x * 65536) = y at *
    obtain ⟨y0, y1⟩ := hr
    have a1 := sq_le y0 y1
    have a0 := Int.mul_nonneg y0 y0
    have b1 := sq_le (show 0 ≤ y + 1 by omega) (show y + 1 ≤ 16777217 by omega)
    have b0 := Int.mul_nonneg (show 0 ≤ y + 1 by omega) (show 0 ≤ y + 1 by omega)
    generalize hk : x % 181 = k at *
    refine fix_walk x y k x0 hx.2 y0 y1 hk k0 k1 (by rw [decide_eq_false]; omega) (by rw [decide_eq_false]; omega) ?_ ?_ ?_ kk0 (by omega) hc S1 S2 w
    · simp only [wrap64]; omega
    · simp only [wrap64]; omega
    · simp only [wrap64]; omega
end Go.Proofs.Ytcknfangjodoiaa
