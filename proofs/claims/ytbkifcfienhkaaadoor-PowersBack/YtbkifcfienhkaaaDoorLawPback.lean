/- The walk of the given function PowersBack: it returns true at every fix. -/
import Derived.Test.YtbkifcfienhkaaaDoorPowF
import Derived.Test.YtbkifcfienhkaaaDoorPowT
namespace Go.Proofs.YtbkifcfienhkaaaDoor
open Go.RowKit Go.BigFrame
set_option linter.unusedSimpArgs false
set_option linter.unusedVariables false


set_option maxHeartbeats 4000000 in
theorem pback_neg (x y : Int) (h : x < 0) (h' : x ≤ 0) (L1 : ∀ w, Calls Tryd.prog 9 #[.int .i32 x] w fun e w' => e = .returned (.tuple #[.int .i32 0, .int .i64 1]) ∧ Ext w w') (X1 : ∀ w, Calls Tryd.prog 13 #[.int .i32 x] w fun e w' => e = .returned (.int .i32 y) ∧ Ext w w') (w : World) (LV : ∀ v, Ext w v → Calls Tryd.prog 15 #[] v fun e w' => e = .returned (.bool true) ∧ Ext v w') : Calls Tryd.prog 5 #[.int .i32 x] w fun e w' => e = .returned (.bool true) ∧ Ext w w' := by
  have EX := Ext.refl w
  go_enter Tryd.func5, Tryd.ntmps5
  go_wp2_with (first | (go_at_call 9; with_reducible refine (L1 _).mono ?_; rintro e v1 ⟨rfl, hb⟩; replace EX := Ext.trans EX hb; clear hb) | (go_at_call 13; with_reducible refine (X1 _).mono ?_; rintro e v1 ⟨rfl, hb⟩; replace EX := Ext.trans EX hb; clear hb) | (go_at_call 17; with_reducible refine (no_yes _ _).mono ?_; rintro e v1 ⟨rfl, hb⟩; replace EX := Ext.trans EX hb; clear hb) | (go_at_call 15; with_reducible refine (LV _ EX).mono ?_; rintro e v1 ⟨rfl, hb⟩; replace EX := Ext.trans EX hb; clear hb))
  go_ret
  exact ⟨rfl, EX⟩
set_option maxHeartbeats 4000000 in
theorem pback_zero (x : Int) (h : ¬ x < 0) (h' : x ≤ 0) (hx : x = 0) (L1 : ∀ w, Calls Tryd.prog 9 #[.int .i32 x] w fun e w' => e = .returned (.tuple #[.int .i32 0, .int .i64 1]) ∧ Ext w w') (X1 : ∀ w, Calls Tryd.prog 13 #[.int .i32 x] w fun e w' => e = .returned (.int .i32 65536) ∧ Ext w w') (L2 : ∀ w, Calls Tryd.prog 9 #[.int .i32 65536] w fun e w' => e = .returned (.tuple #[.int .i32 0, .int .i64 0]) ∧ Ext w w') (w : World) (LV : ∀ v, Ext w v → Calls Tryd.prog 15 #[] v fun e w' => e = .returned (.bool true) ∧ Ext v w') : Calls Tryd.prog 5 #[.int .i32 x] w fun e w' => e = .returned (.bool true) ∧ Ext w w' := by
  have EX := Ext.refl w
  subst hx
  go_enter Tryd.func5, Tryd.ntmps5
  go_wp2_with (first | (go_at_call 9; with_reducible refine (L1 _).mono ?_; rintro e v1 ⟨rfl, hb⟩; replace EX := Ext.trans EX hb; clear hb) | (go_at_call 9; with_reducible refine (L2 _).mono ?_; rintro e v1 ⟨rfl, hb⟩; replace EX := Ext.trans EX hb; clear hb) | (go_at_call 13; with_reducible refine (X1 _).mono ?_; rintro e v1 ⟨rfl, hb⟩; replace EX := Ext.trans EX hb; clear hb) | (go_at_call 17; with_reducible refine (no_yes _ _).mono ?_; rintro e v1 ⟨rfl, hb⟩; replace EX := Ext.trans EX hb; clear hb) | (go_at_call 15; with_reducible refine (LV _ EX).mono ?_; rintro e v1 ⟨rfl, hb⟩; replace EX := Ext.trans EX hb; clear hb))
  go_ret
  exact ⟨rfl, EX⟩
set_option maxHeartbeats 4000000 in
theorem pback_most (x l v D M : Int) (h : 0 < x) (h1 : x ≤ 2147483647) (h2 : ¬ x ≤ 0) (h3 : ¬ x < 0) (v0 : -2147483648 ≤ v) (v1 : v ≤ 2147483647) (hD : v - x = D) (D0 : -4294967296 ≤ D) (D1 : D ≤ 4294967296) (hM : max D (-D) = M) (M0 : 0 ≤ M) (M1 : M ≤ 4294967296) (hb : ¬ 6 * x + 589824 < 1048576 * M) (L1 : ∀ w, Calls Tryd.prog 9 #[.int .i32 x] w fun e w' => e = .returned (.tuple #[.int .i32 l, .int .i64 0]) ∧ Ext w w') (X0 : ∀ w, Calls Tryd.prog 13 #[.int .i32 l] w fun e w' => e = .returned (.int .i32 v) ∧ Ext w w') (X1 : ∀ w, Calls Tryd.prog 13 #[.int .i32 x] w fun e w' => e = .returned (.int .i32 2147483647) ∧ Ext w w') (w : World) (LV : ∀ v, Ext w v → Calls Tryd.prog 15 #[] v fun e w' => e = .returned (.bool true) ∧ Ext v w') : Calls Tryd.prog 5 #[.int .i32 x] w fun e w' => e = .returned (.bool true) ∧ Ext w w' := by
  have EX := Ext.refl w
  go_enter Tryd.func5, Tryd.ntmps5
  go_wp2_with (first | (go_at_call 9; with_reducible refine (L1 _).mono ?_; rintro e v1 ⟨rfl, hb⟩; replace EX := Ext.trans EX hb; clear hb) | (go_at_call 13; with_reducible refine (X0 _).mono ?_; rintro e v1 ⟨rfl, hb⟩; replace EX := Ext.trans EX hb; clear hb) | (go_at_call 13; with_reducible refine (X1 _).mono ?_; rintro e v1 ⟨rfl, hb⟩; replace EX := Ext.trans EX hb; clear hb) | (go_at_call 17; with_reducible refine (no_yes _ _).mono ?_; rintro e v1 ⟨rfl, hb⟩; replace EX := Ext.trans EX hb; clear hb) | (go_at_call 15; with_reducible refine (LV _ EX).mono ?_; rintro e v1 ⟨rfl, hb⟩; replace EX := Ext.trans EX hb; clear hb))
  go_ret
  exact ⟨rfl, EX⟩
set_option maxHeartbeats 4000000 in
theorem pback_all (x l v D M y m : Int) (h : 0 < x) (h1 : x ≤ 2147483646) (h2 : ¬ x ≤ 0) (h3 : ¬ x < 0) (v0 : -2147483648 ≤ v) (v1 : v ≤ 2147483647) (hD : v - x = D) (D0 : -4294967296 ≤ D) (D1 : D ≤ 4294967296) (hM : max D (-D) = M) (M0 : 0 ≤ M) (M1 : M ≤ 4294967296) (hb : ¬ 6 * x + 589824 < 1048576 * M) (L1 : ∀ w, Calls Tryd.prog 9 #[.int .i32 x] w fun e w' => e = .returned (.tuple #[.int .i32 l, .int .i64 0]) ∧ Ext w w') (X0 : ∀ w, Calls Tryd.prog 13 #[.int .i32 l] w fun e w' => e = .returned (.int .i32 v) ∧ Ext w w') (X1 : ∀ w, Calls Tryd.prog 13 #[.int .i32 x] w fun e w' => e = .returned (.int .i32 y) ∧ Ext w w') (hy : (y == 2147483647) = false) (L2 : ∀ w, Calls Tryd.prog 9 #[.int .i32 y] w fun e w' => e = .returned (.tuple #[.int .i32 m, .int .i64 0]) ∧ Ext w w') (m0 : x - 1 ≤ m) (m1 : m ≤ x + 1) (w : World) (LV : ∀ v, Ext w v → Calls Tryd.prog 15 #[] v fun e w' => e = .returned (.bool true) ∧ Ext v w') : Calls Tryd.prog 5 #[.int .i32 x] w fun e w' => e = .returned (.bool true) ∧ Ext w w' := by
  have EX := Ext.refl w
  go_enter Tryd.func5, Tryd.ntmps5
  go_wp2_with (first | (go_at_call 9; with_reducible refine (L1 _).mono ?_; rintro e v1 ⟨rfl, hb⟩; replace EX := Ext.trans EX hb; clear hb) | (go_at_call 9; with_reducible refine (L2 _).mono ?_; rintro e v1 ⟨rfl, hb⟩; replace EX := Ext.trans EX hb; clear hb) | (go_at_call 13; with_reducible refine (X0 _).mono ?_; rintro e v1 ⟨rfl, hb⟩; replace EX := Ext.trans EX hb; clear hb) | (go_at_call 13; with_reducible refine (X1 _).mono ?_; rintro e v1 ⟨rfl, hb⟩; replace EX := Ext.trans EX hb; clear hb) | (go_at_call 17; with_reducible refine (no_yes _ _).mono ?_; rintro e v1 ⟨rfl, hb⟩; replace EX := Ext.trans EX hb; clear hb) | (go_at_call 15; with_reducible refine (LV _ EX).mono ?_; rintro e v1 ⟨rfl, hb⟩; replace EX := Ext.trans EX hb; clear hb))
  go_ret
  exact ⟨rfl, EX⟩
theorem exq_in (x : Int) : 0 ≤ exq x ∧ exq x ≤ 2147483647 := by
  have := two_in (x * 65536)
  have h := held_in (two (x * 65536))
  unfold exq
  refine ⟨?_, h.2⟩
  unfold held
  split
  · omega
  · split <;> omega
theorem exq_big {x : Int} (h : 983040 ≤ x) : exq x = 2147483647 := by
  have h1 := exq_le h
  have h2 := exq_in x
  have h3 := lives_values.2.2.2.2.2.2.2.1
  omega
theorem lgq_in {x : Int} (h0 : 0 < x) (h1 : x ≤ 2147483647) : In32 (lgq x) := by
  unfold lgq
  rw [if_neg (by omega)]
  have := LL_nr (x := x.toNat) (by omega) (by omega)
  unfold In32
  omega
theorem pback_law (x : Int) (hx : In32 x) (w : World) (L : Laid w) : Calls Tryd.prog 5 #[.int .i32 x] w fun e w' => e = .returned (.bool true) ∧ Ext w w' := by
  have LV := fun v E => lives_any w L v E
  obtain ⟨x0, x1⟩ := hx
  have L1 := fun w => log2_any x ⟨x0, x1⟩ w
  have X1 := fun w => exp2_any x ⟨x0, x1⟩ w
  by_cases h : x ≤ 0
  · rw [show lgq x = 0 by unfold lgq; rw [if_pos h], show lge x = 1 by unfold lge; rw [if_pos h]] at L1
    by_cases g : x < 0
    · exact pback_neg x _ g h L1 X1 w LV
    · have hx0 : x = 0 := by omega
      rw [show exq x = 65536 by rw [hx0]; exact lives_values.2.2.1] at X1
      have L2 := fun w => log2_any 65536 ⟨by decide, by decide⟩ w
      rw [lives_values.1.1, lives_errors.1.1] at L2
      exact pback_zero x g h hx0 L1 X1 L2 w LV
  · rw [show lge x = 0 by unfold lge; rw [if_neg h]] at L1
    have X0 := fun w => exp2_any (lgq x) (lgq_in (by omega) x1) w
    obtain ⟨b1, b2⟩ := back_exp (show 0 < x by omega) x1
    have i0 := exq_in (lgq x)
    by_cases g : exq x = 2147483647
    · rw [g] at X1
      exact pback_most x _ _ _ _ (by omega) x1 h (by omega) (by omega) i0.2 rfl (by omega) (by omega) rfl (by omega) (by omega) (by omega) L1 X0 X1 w LV
    · have hb : x ≤ 983039 := by
        rcases Int.lt_or_le x 983040 with k | k
        · omega
        · exact absurd (exq_big k) g
      obtain ⟨c0, c1, c2⟩ := back_log (show 0 ≤ x by omega) hb g
      have i1 := exq_in x
      have L2 := fun w => log2_any (exq x) ⟨by omega, by omega⟩ w
      rw [show lge (exq x) = 0 by unfold lge; rw [if_neg (by omega)]] at L2
      exact pback_all x _ _ _ _ _ _ (by omega) (by omega) h (by omega) (by omega) i0.2 rfl (by omega) (by omega) rfl (by omega) (by omega) (by omega) L1 X0 X1 (by simpa using g) L2 c1 c2 w LV
end Go.Proofs.YtbkifcfienhkaaaDoor
