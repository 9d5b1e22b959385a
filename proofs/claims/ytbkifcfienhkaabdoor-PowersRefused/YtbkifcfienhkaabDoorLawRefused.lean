/- The walk of the given function PowersRefused: it returns true at every two fixes. -/
import Derived.Test.YtbkifcfienhkaabDoorPowF
namespace Go.Proofs.YtbkifcfienhkaabDoor
open Go.RowKit Go.BigFrame
set_option linter.unusedSimpArgs false
set_option linter.unusedVariables false

theorem refused_0 (a n : Int) (hn : (n == 0) = true) (w : World) (P : ∀ v, Ext w v → Calls Tryd.prog 4 #[.int .i32 a, .int .i32 n] v fun e w' => e = .returned (.tuple #[.int .i32 65536, .int .i64 0]) ∧ Ext v w') (LV : ∀ v, Ext w v → Calls Tryd.prog 6 #[] v fun e w' => e = .returned (.bool true) ∧ Ext v w') :
    Calls Tryd.prog 3 #[.int .i32 a, .int .i32 n] w fun e w' => e = .returned (.bool true) ∧ Ext w w' := by
  have EX := Ext.refl w
  go_enter Tryd.func3, Tryd.ntmps3
  go_wp2_with (first | (go_at_call 4; with_reducible refine (P _ EX).mono ?_; rintro e v1 ⟨rfl, hb⟩; replace EX := Ext.trans EX hb; clear hb) | (go_at_call 5; with_reducible refine (is_yes _ _).mono ?_; rintro e v1 ⟨rfl, hb⟩; replace EX := Ext.trans EX hb; clear hb) | (go_at_call 7; with_reducible refine (no_yes _ _).mono ?_; rintro e v1 ⟨rfl, hb⟩; replace EX := Ext.trans EX hb; clear hb) | (go_at_call 6; with_reducible refine (LV _ EX).mono ?_; rintro e v1 ⟨rfl, hb⟩; replace EX := Ext.trans EX hb; clear hb))
  go_ret
  exact ⟨rfl, EX⟩
theorem refused_1 (a n : Int) (hn : (n == 0) = false) (ha : (a == 0) = true) (h : n < 0) (w : World) (P : ∀ v, Ext w v → Calls Tryd.prog 4 #[.int .i32 a, .int .i32 n] v fun e w' => e = .returned (.tuple #[.int .i32 0, .int .i64 12]) ∧ Ext v w') (LV : ∀ v, Ext w v → Calls Tryd.prog 6 #[] v fun e w' => e = .returned (.bool true) ∧ Ext v w') :
    Calls Tryd.prog 3 #[.int .i32 a, .int .i32 n] w fun e w' => e = .returned (.bool true) ∧ Ext w w' := by
  have EX := Ext.refl w
  go_enter Tryd.func3, Tryd.ntmps3
  go_wp2_with (first | (go_at_call 4; with_reducible refine (P _ EX).mono ?_; rintro e v1 ⟨rfl, hb⟩; replace EX := Ext.trans EX hb; clear hb) | (go_at_call 5; with_reducible refine (is_yes _ _).mono ?_; rintro e v1 ⟨rfl, hb⟩; replace EX := Ext.trans EX hb; clear hb) | (go_at_call 7; with_reducible refine (no_yes _ _).mono ?_; rintro e v1 ⟨rfl, hb⟩; replace EX := Ext.trans EX hb; clear hb) | (go_at_call 6; with_reducible refine (LV _ EX).mono ?_; rintro e v1 ⟨rfl, hb⟩; replace EX := Ext.trans EX hb; clear hb))
  go_ret
  exact ⟨rfl, EX⟩
theorem refused_2 (a n : Int) (hn : (n == 0) = false) (ha : (a == 0) = true) (h : ¬ n < 0) (w : World) (P : ∀ v, Ext w v → Calls Tryd.prog 4 #[.int .i32 a, .int .i32 n] v fun e w' => e = .returned (.tuple #[.int .i32 0, .int .i64 0]) ∧ Ext v w') (LV : ∀ v, Ext w v → Calls Tryd.prog 6 #[] v fun e w' => e = .returned (.bool true) ∧ Ext v w') :
    Calls Tryd.prog 3 #[.int .i32 a, .int .i32 n] w fun e w' => e = .returned (.bool true) ∧ Ext w w' := by
  have EX := Ext.refl w
  go_enter Tryd.func3, Tryd.ntmps3
  go_wp2_with (first | (go_at_call 4; with_reducible refine (P _ EX).mono ?_; rintro e v1 ⟨rfl, hb⟩; replace EX := Ext.trans EX hb; clear hb) | (go_at_call 5; with_reducible refine (is_yes _ _).mono ?_; rintro e v1 ⟨rfl, hb⟩; replace EX := Ext.trans EX hb; clear hb) | (go_at_call 7; with_reducible refine (no_yes _ _).mono ?_; rintro e v1 ⟨rfl, hb⟩; replace EX := Ext.trans EX hb; clear hb) | (go_at_call 6; with_reducible refine (LV _ EX).mono ?_; rintro e v1 ⟨rfl, hb⟩; replace EX := Ext.trans EX hb; clear hb))
  go_ret
  exact ⟨rfl, EX⟩
theorem refused_3 (a n : Int) (hn : (n == 0) = false) (ha : (a == 0) = false) (h : a < 0) (hr : (Int.tmod n 65536 != 0) = true) (w : World) (P : ∀ v, Ext w v → Calls Tryd.prog 4 #[.int .i32 a, .int .i32 n] v fun e w' => e = .returned (.tuple #[.int .i32 0, .int .i64 1]) ∧ Ext v w') (LV : ∀ v, Ext w v → Calls Tryd.prog 6 #[] v fun e w' => e = .returned (.bool true) ∧ Ext v w') :
    Calls Tryd.prog 3 #[.int .i32 a, .int .i32 n] w fun e w' => e = .returned (.bool true) ∧ Ext w w' := by
  have EX := Ext.refl w
  go_enter Tryd.func3, Tryd.ntmps3
  go_wp2_with (first | (go_at_call 4; with_reducible refine (P _ EX).mono ?_; rintro e v1 ⟨rfl, hb⟩; replace EX := Ext.trans EX hb; clear hb) | (go_at_call 5; with_reducible refine (is_yes _ _).mono ?_; rintro e v1 ⟨rfl, hb⟩; replace EX := Ext.trans EX hb; clear hb) | (go_at_call 7; with_reducible refine (no_yes _ _).mono ?_; rintro e v1 ⟨rfl, hb⟩; replace EX := Ext.trans EX hb; clear hb) | (go_at_call 6; with_reducible refine (LV _ EX).mono ?_; rintro e v1 ⟨rfl, hb⟩; replace EX := Ext.trans EX hb; clear hb))
  go_ret
  exact ⟨rfl, EX⟩
theorem refused_4 (a n x : Int) (hn : (n == 0) = false) (ha : (a == 0) = false) (h : a < 0) (hr : (Int.tmod n 65536 != 0) = false) (w : World) (P : ∀ v, Ext w v → Calls Tryd.prog 4 #[.int .i32 a, .int .i32 n] v fun e w' => e = .returned (.tuple #[.int .i32 x, .int .i64 0]) ∧ Ext v w') (LV : ∀ v, Ext w v → Calls Tryd.prog 6 #[] v fun e w' => e = .returned (.bool true) ∧ Ext v w') :
    Calls Tryd.prog 3 #[.int .i32 a, .int .i32 n] w fun e w' => e = .returned (.bool true) ∧ Ext w w' := by
  have EX := Ext.refl w
  go_enter Tryd.func3, Tryd.ntmps3
  go_wp2_with (first | (go_at_call 4; with_reducible refine (P _ EX).mono ?_; rintro e v1 ⟨rfl, hb⟩; replace EX := Ext.trans EX hb; clear hb) | (go_at_call 5; with_reducible refine (is_yes _ _).mono ?_; rintro e v1 ⟨rfl, hb⟩; replace EX := Ext.trans EX hb; clear hb) | (go_at_call 7; with_reducible refine (no_yes _ _).mono ?_; rintro e v1 ⟨rfl, hb⟩; replace EX := Ext.trans EX hb; clear hb) | (go_at_call 6; with_reducible refine (LV _ EX).mono ?_; rintro e v1 ⟨rfl, hb⟩; replace EX := Ext.trans EX hb; clear hb))
  go_ret
  exact ⟨rfl, EX⟩
theorem refused_5 (a n x : Int) (hn : (n == 0) = false) (ha : (a == 0) = false) (h : ¬ a < 0) (hx : 0 ≤ x) (w : World) (P : ∀ v, Ext w v → Calls Tryd.prog 4 #[.int .i32 a, .int .i32 n] v fun e w' => e = .returned (.tuple #[.int .i32 x, .int .i64 0]) ∧ Ext v w') (LV : ∀ v, Ext w v → Calls Tryd.prog 6 #[] v fun e w' => e = .returned (.bool true) ∧ Ext v w') :
    Calls Tryd.prog 3 #[.int .i32 a, .int .i32 n] w fun e w' => e = .returned (.bool true) ∧ Ext w w' := by
  have EX := Ext.refl w
  go_enter Tryd.func3, Tryd.ntmps3
  go_wp2_with (first | (go_at_call 4; with_reducible refine (P _ EX).mono ?_; rintro e v1 ⟨rfl, hb⟩; replace EX := Ext.trans EX hb; clear hb) | (go_at_call 5; with_reducible refine (is_yes _ _).mono ?_; rintro e v1 ⟨rfl, hb⟩; replace EX := Ext.trans EX hb; clear hb) | (go_at_call 7; with_reducible refine (no_yes _ _).mono ?_; rintro e v1 ⟨rfl, hb⟩; replace EX := Ext.trans EX hb; clear hb) | (go_at_call 6; with_reducible refine (LV _ EX).mono ?_; rintro e v1 ⟨rfl, hb⟩; replace EX := Ext.trans EX hb; clear hb))
  go_ret
  exact ⟨rfl, EX⟩
theorem held_0 {x : Int} (h : 0 ≤ x) : 0 ≤ held x := by unfold held; split <;> (try split) <;> omega
theorem tmod_0 (n : Int) : Int.tmod n 65536 = 0 ↔ n % 65536 = 0 := by
  rw [Int.tmod_eq_emod]
  split <;> omega
theorem refused_law (a n : Int) (ha : In32 a) (hn : In32 n) (w : World) (L : Laid w) : Calls Tryd.prog 3 #[.int .i32 a, .int .i32 n] w fun e w' => e = .returned (.bool true) ∧ Ext w w' := by
  have P := fun v E => pow_any a n ha hn w L v E
  have LV := fun v E => lives_any w L v E
  unfold pwq pwe at P
  by_cases h0 : n = 0
  · rw [if_pos h0, if_pos h0] at P
    exact refused_0 a n (by simpa using h0) w P LV
  · rw [if_neg h0, if_neg h0] at P
    have hn0 : (n == 0) = false := by simpa using h0
    by_cases h1 : a = 0
    · rw [if_pos h1, if_pos h1] at P
      by_cases h2 : n < 0
      · rw [if_pos h2] at P
        exact refused_1 a n hn0 (by simpa using h1) h2 w P LV
      · rw [if_neg h2] at P
        exact refused_2 a n hn0 (by simpa using h1) h2 w P LV
    · rw [if_neg h1, if_neg h1] at P
      have ha0 : (a == 0) = false := by simpa using h1
      by_cases h2 : 0 < a
      · rw [if_pos h2, if_pos h2] at P
        exact refused_5 a n _ hn0 ha0 (by omega) (held_0 (two_in _).1) w P LV
      · rw [if_neg h2, if_neg h2] at P
        by_cases h3 : n % 65536 = 0
        · rw [if_pos h3, if_pos h3] at P
          exact refused_4 a n _ hn0 ha0 (by omega) (by simp [(tmod_0 n).2 h3]) w P LV
        · rw [if_neg h3, if_neg h3] at P
          exact refused_3 a n hn0 ha0 (by omega) (by simpa using fun h => h3 ((tmod_0 n).1 h)) w P LV
end Go.Proofs.YtbkifcfienhkaabDoor
