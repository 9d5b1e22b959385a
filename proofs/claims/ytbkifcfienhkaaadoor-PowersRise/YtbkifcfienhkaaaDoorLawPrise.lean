/- The walk of the given function PowersRise: it returns true at every three fixes. -/
import Derived.Test.YtbkifcfienhkaaaDoorPowF
import Derived.Test.YtbkifcfienhkaaaDoorPowR
namespace Go.Proofs.YtbkifcfienhkaaaDoor
open Go.RowKit Go.BigFrame
set_option linter.unusedSimpArgs false
set_option linter.unusedVariables false

set_option maxHeartbeats 4000000 in
theorem prise_low (a b n l h x y : Int) (hl : min a b = l) (hh : max a b = h) (hxy : ¬ y < x) (l0 : l ≤ 0) (X1 : ∀ w, Calls Tryd.prog 13 #[.int .i32 l] w fun e w' => e = .returned (.int .i32 x) ∧ Ext w w') (X2 : ∀ w, Calls Tryd.prog 13 #[.int .i32 h] w fun e w' => e = .returned (.int .i32 y) ∧ Ext w w')
    (w : World) (LV : ∀ v, Ext w v → Calls Tryd.prog 15 #[] v fun e w' => e = .returned (.bool true) ∧ Ext v w') :
    Calls Tryd.prog 7 #[.int .i32 a, .int .i32 b, .int .i32 n] w fun e w' => e = .returned (.bool true) ∧ Ext w w' := by
  have EX := Ext.refl w
  go_enter Tryd.func7, Tryd.ntmps7
  go_wp2_with (first | (go_at_call 13; with_reducible refine (X1 _).mono ?_; rintro e v1 ⟨rfl, hb⟩; replace EX := Ext.trans EX hb; clear hb) | (go_at_call 13; with_reducible refine (X2 _).mono ?_; rintro e v1 ⟨rfl, hb⟩; replace EX := Ext.trans EX hb; clear hb) | (go_at_call 15; with_reducible refine (LV _ EX).mono ?_; rintro e v1 ⟨rfl, hb⟩; replace EX := Ext.trans EX hb; clear hb))
  go_ret
  exact ⟨rfl, EX⟩
set_option maxHeartbeats 4000000 in
theorem prise_high (a b n l h x y s t p q : Int) (hl : min a b = l) (hh : max a b = h) (hxy : ¬ y < x) (l0 : ¬ l ≤ 0) (hst : ¬ t < s) (hpq : (0 < n ∧ ¬ n < 0 ∧ ¬ q < p) ∨ (¬ 0 < n ∧ n < 0 ∧ ¬ p < q) ∨ (¬ 0 < n ∧ ¬ n < 0)) (l1 : 1073741823 < l)
    (X1 : ∀ w, Calls Tryd.prog 13 #[.int .i32 l] w fun e w' => e = .returned (.int .i32 x) ∧ Ext w w') (X2 : ∀ w, Calls Tryd.prog 13 #[.int .i32 h] w fun e w' => e = .returned (.int .i32 y) ∧ Ext w w')
    (L1 : ∀ w, Calls Tryd.prog 9 #[.int .i32 l] w fun e w' => e = .returned (.tuple #[.int .i32 s, .int .i64 0]) ∧ Ext w w') (L2 : ∀ w, Calls Tryd.prog 9 #[.int .i32 h] w fun e w' => e = .returned (.tuple #[.int .i32 t, .int .i64 0]) ∧ Ext w w')
    (w : World) (P1 : ∀ v, Ext w v → Calls Tryd.prog 11 #[.int .i32 l, .int .i32 n] v fun e w' => e = .returned (.tuple #[.int .i32 p, .int .i64 0]) ∧ Ext v w') (P2 : ∀ v, Ext w v → Calls Tryd.prog 11 #[.int .i32 h, .int .i32 n] v fun e w' => e = .returned (.tuple #[.int .i32 q, .int .i64 0]) ∧ Ext v w')
    (LV : ∀ v, Ext w v → Calls Tryd.prog 15 #[] v fun e w' => e = .returned (.bool true) ∧ Ext v w') :
    Calls Tryd.prog 7 #[.int .i32 a, .int .i32 b, .int .i32 n] w fun e w' => e = .returned (.bool true) ∧ Ext w w' := by
  have EX := Ext.refl w
  rcases hpq with ⟨n1, n2, n3⟩ | ⟨n1, n2, n3⟩ | ⟨n1, n2⟩
  all_goals
    go_enter Tryd.func7, Tryd.ntmps7
    go_wp2_with (first | (go_at_call 13; with_reducible refine (X1 _).mono ?_; rintro e v1 ⟨rfl, hb⟩; replace EX := Ext.trans EX hb; clear hb) | (go_at_call 13; with_reducible refine (X2 _).mono ?_; rintro e v1 ⟨rfl, hb⟩; replace EX := Ext.trans EX hb; clear hb) | (go_at_call 9; with_reducible refine (L1 _).mono ?_; rintro e v1 ⟨rfl, hb⟩; replace EX := Ext.trans EX hb; clear hb) | (go_at_call 9; with_reducible refine (L2 _).mono ?_; rintro e v1 ⟨rfl, hb⟩; replace EX := Ext.trans EX hb; clear hb) | (go_at_call 11; with_reducible refine (P1 _ EX).mono ?_; rintro e v1 ⟨rfl, hb⟩; replace EX := Ext.trans EX hb; clear hb) | (go_at_call 11; with_reducible refine (P2 _ EX).mono ?_; rintro e v1 ⟨rfl, hb⟩; replace EX := Ext.trans EX hb; clear hb) | (go_at_call 15; with_reducible refine (LV _ EX).mono ?_; rintro e v1 ⟨rfl, hb⟩; replace EX := Ext.trans EX hb; clear hb))
    go_ret
    exact ⟨rfl, EX⟩
set_option maxHeartbeats 4000000 in
theorem prise_all (a b n l h x y s t p q : Int) (hl : min a b = l) (hh : max a b = h) (hxy : ¬ y < x) (l0 : 0 < l) (l2 : ¬ l ≤ 0) (hst : ¬ t < s) (hpq : (0 < n ∧ ¬ n < 0 ∧ ¬ q < p) ∨ (¬ 0 < n ∧ n < 0 ∧ ¬ p < q) ∨ (¬ 0 < n ∧ ¬ n < 0)) (l1 : ¬ 1073741823 < l) (l3 : l ≤ 1073741823) (s0 : -1048576 ≤ s) (s1 : s ≤ 1048577)
    (X1 : ∀ w, Calls Tryd.prog 13 #[.int .i32 l] w fun e w' => e = .returned (.int .i32 x) ∧ Ext w w') (X2 : ∀ w, Calls Tryd.prog 13 #[.int .i32 h] w fun e w' => e = .returned (.int .i32 y) ∧ Ext w w')
    (L1 : ∀ w, Calls Tryd.prog 9 #[.int .i32 l] w fun e w' => e = .returned (.tuple #[.int .i32 s, .int .i64 0]) ∧ Ext w w') (L2 : ∀ w, Calls Tryd.prog 9 #[.int .i32 h] w fun e w' => e = .returned (.tuple #[.int .i32 t, .int .i64 0]) ∧ Ext w w')
    (L3 : ∀ w, Calls Tryd.prog 9 #[.int .i32 (2 * l)] w fun e w' => e = .returned (.tuple #[.int .i32 (s + 65536), .int .i64 0]) ∧ Ext w w')
    (w : World) (P1 : ∀ v, Ext w v → Calls Tryd.prog 11 #[.int .i32 l, .int .i32 n] v fun e w' => e = .returned (.tuple #[.int .i32 p, .int .i64 0]) ∧ Ext v w') (P2 : ∀ v, Ext w v → Calls Tryd.prog 11 #[.int .i32 h, .int .i32 n] v fun e w' => e = .returned (.tuple #[.int .i32 q, .int .i64 0]) ∧ Ext v w')
    (LV : ∀ v, Ext w v → Calls Tryd.prog 15 #[] v fun e w' => e = .returned (.bool true) ∧ Ext v w') :
    Calls Tryd.prog 7 #[.int .i32 a, .int .i32 b, .int .i32 n] w fun e w' => e = .returned (.bool true) ∧ Ext w w' := by
  have EX := Ext.refl w
  rcases hpq with ⟨n1, n2, n3⟩ | ⟨n1, n2, n3⟩ | ⟨n1, n2⟩
  all_goals
    go_enter Tryd.func7, Tryd.ntmps7
    go_wp2_with (first | (go_at_call 13; with_reducible refine (X1 _).mono ?_; rintro e v1 ⟨rfl, hb⟩; replace EX := Ext.trans EX hb; clear hb) | (go_at_call 13; with_reducible refine (X2 _).mono ?_; rintro e v1 ⟨rfl, hb⟩; replace EX := Ext.trans EX hb; clear hb) | (go_at_call 9; with_reducible refine (L1 _).mono ?_; rintro e v1 ⟨rfl, hb⟩; replace EX := Ext.trans EX hb; clear hb) | (go_at_call 9; with_reducible refine (L2 _).mono ?_; rintro e v1 ⟨rfl, hb⟩; replace EX := Ext.trans EX hb; clear hb) | (go_at_call 9; with_reducible refine (L3 _).mono ?_; rintro e v1 ⟨rfl, hb⟩; replace EX := Ext.trans EX hb; clear hb) | (go_at_call 11; with_reducible refine (P1 _ EX).mono ?_; rintro e v1 ⟨rfl, hb⟩; replace EX := Ext.trans EX hb; clear hb) | (go_at_call 11; with_reducible refine (P2 _ EX).mono ?_; rintro e v1 ⟨rfl, hb⟩; replace EX := Ext.trans EX hb; clear hb) | (go_at_call 16; with_reducible refine (is_yes _ _).mono ?_; rintro e v1 ⟨rfl, hb⟩; replace EX := Ext.trans EX hb; clear hb) | (go_at_call 15; with_reducible refine (LV _ EX).mono ?_; rintro e v1 ⟨rfl, hb⟩; replace EX := Ext.trans EX hb; clear hb))
    go_ret
    exact ⟨rfl, EX⟩
theorem prise_law (a b n : Int) (ha : In32 a) (hb : In32 b) (hn : In32 n) (w : World) (L : Laid w) : Calls Tryd.prog 7 #[.int .i32 a, .int .i32 b, .int .i32 n] w fun e w' => e = .returned (.bool true) ∧ Ext w w' := by
  have LV := fun v E => lives_any w L v E
  obtain ⟨l, hl⟩ : ∃ l, min a b = l := ⟨_, rfl⟩
  obtain ⟨h, hh⟩ : ∃ h, max a b = h := ⟨_, rfl⟩
  have il : In32 l := by unfold In32 at *; omega
  have ih : In32 h := by unfold In32 at *; omega
  have hlh : l ≤ h := by omega
  have X1 := fun w => exp2_any l il w
  have X2 := fun w => exp2_any h ih w
  have xy := exq_le hlh
  by_cases l0 : l ≤ 0
  · exact prise_low a b n l h _ _ hl hh (by omega) l0 X1 X2 w LV
  · have L1 := fun w => log2_any l il w
    have L2 := fun w => log2_any h ih w
    have P1 := fun v E => pow_any l n il hn w L v E
    have P2 := fun v E => pow_any h n ih hn w L v E
    have st := lgq_le (show 0 < l by omega) hlh
    have hpq : (0 < n ∧ ¬ n < 0 ∧ ¬ pwq h n < pwq l n) ∨ (¬ 0 < n ∧ n < 0 ∧ ¬ pwq l n < pwq h n) ∨ (¬ 0 < n ∧ ¬ n < 0) := by
      rcases Int.lt_trichotomy n 0 with g | g | g
      · refine .inr (.inl ⟨by omega, g, ?_⟩)
        have := held_le (rsd_ge (show 0 < l by omega) hlh (show n ≤ 0 by omega))
        unfold pwq
        rw [if_neg (by omega), if_neg (by omega), if_pos (by omega), if_neg (by omega), if_neg (by omega), if_pos (by omega)]
        omega
      · exact .inr (.inr ⟨by omega, by omega⟩)
      · refine .inl ⟨g, by omega, ?_⟩
        have := held_le (rsd_le (show 0 < l by omega) hlh (show 0 ≤ n by omega))
        unfold pwq
        rw [if_neg (by omega), if_neg (by omega), if_pos (by omega), if_neg (by omega), if_neg (by omega), if_pos (by omega)]
        omega
    have e1 : lge l = 0 := by unfold lge; rw [if_neg l0]
    have e2 : lge h = 0 := by unfold lge; rw [if_neg (by omega)]
    have e3 : ∀ z, 0 < z → pwe z n = 0 := by
      intro z hz
      unfold pwe
      by_cases g : n = 0
      · rw [if_pos g]
      · rw [if_neg g, if_neg (show ¬ z = 0 by omega), if_pos hz]
    rw [e1] at L1
    rw [e2] at L2
    rw [e3 l (by omega)] at P1
    rw [e3 h (by omega)] at P2
    by_cases l1 : 1073741823 < l
    · exact prise_high a b n l h _ _ _ _ _ _ hl hh (by omega) l0 (by omega) hpq l1 X1 X2 L1 L2 w P1 P2 LV
    · have L3 := fun w => log2_any (2 * l) (by unfold In32; omega) w
      rw [lgq_double (by omega) (by omega), show lge (2 * l) = 0 by unfold lge; rw [if_neg (by omega)]] at L3
      have sb : -1048576 ≤ lgq l ∧ lgq l ≤ 1048577 := by
        unfold lgq
        rw [if_neg l0]
        exact LL_nr (by omega) (by unfold In32 at il; omega)
      exact prise_all a b n l h _ _ _ _ _ _ hl hh (by omega) (by omega) l0 (by omega) hpq l1 (by omega) sb.1 sb.2 X1 X2 L1 L2 L3 w P1 P2 LV
end Go.Proofs.YtbkifcfienhkaaaDoor
