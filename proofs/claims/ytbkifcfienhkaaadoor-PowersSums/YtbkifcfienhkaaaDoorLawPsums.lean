/- The walk of the given function PowersSums: it returns true at every two fixes. -/
import Derived.Test.YtbkifcfienhkaaaDoorPowF
import Derived.Test.YtbkifcfienhkaaaDoorPowU
namespace Go.Proofs.YtbkifcfienhkaaaDoor
open Go.RowKit Go.BigFrame
set_option linter.unusedSimpArgs false
set_option linter.unusedVariables false


set_option maxHeartbeats 4000000 in
theorem psums_out (a b s : Int) (a0 : -2147483648 ≤ a) (a1 : a ≤ 2147483647) (b0 : -2147483648 ≤ b) (b1 : b ≤ 2147483647) (hs : a + b = s) (h : 983040 ≤ a ∨ (¬ 983040 ≤ a ∧ 983040 ≤ b) ∨ (¬ 983040 ≤ a ∧ ¬ 983040 ≤ b ∧ 983040 ≤ s) ∨ (¬ 983040 ≤ a ∧ ¬ 983040 ≤ b ∧ ¬ 983040 ≤ s ∧ s < -2147483648)) (w : World) (LV : ∀ v, Ext w v → Calls Tryd.prog 15 #[] v fun e w' => e = .returned (.bool true) ∧ Ext v w') : Calls Tryd.prog 6 #[.int .i32 a, .int .i32 b] w fun e w' => e = .returned (.bool true) ∧ Ext w w' := by
  have EX := Ext.refl w
  rcases h with h | ⟨h, h1⟩ | ⟨h, h1, h2⟩ | ⟨h, h1, h2, h3⟩
  all_goals
    go_enter Tryd.func6, Tryd.ntmps6
    go_wp2_with (first | (go_at_call 15; with_reducible refine (LV _ EX).mono ?_; rintro e v1 ⟨rfl, hb⟩; replace EX := Ext.trans EX hb; clear hb))
    all_goals (go_ret; exact ⟨rfl, EX⟩)
set_option maxHeartbeats 4000000 in
theorem psums_most (a b s : Int) (a0 : -2147483648 ≤ a) (a1 : a ≤ 2147483647) (b0 : -2147483648 ≤ b) (b1 : b ≤ 2147483647) (hs : a + b = s) (a2 : ¬ 983040 ≤ a) (b2 : ¬ 983040 ≤ b) (s2 : ¬ 983040 ≤ s) (s3 : ¬ s < -2147483648) (s0 : -2147483648 ≤ s) (s1 : s ≤ 983039) (x y z : Int) (x0 : 0 ≤ x) (x1 : x ≤ 2147483647) (y0 : 0 ≤ y) (y1 : y ≤ 2147483647) (z0 : 0 ≤ z) (z1 : z ≤ 2147483647) (X1 : ∀ w, Calls Tryd.prog 13 #[.int .i32 a] w fun e w' => e = .returned (.int .i32 x) ∧ Ext w w') (X2 : ∀ w, Calls Tryd.prog 13 #[.int .i32 b] w fun e w' => e = .returned (.int .i32 y) ∧ Ext w w') (X3 : ∀ w, Calls Tryd.prog 13 #[.int .i32 s] w fun e w' => e = .returned (.int .i32 z) ∧ Ext w w') (h : (x == 2147483647) = true ∨ ((x == 2147483647) = false ∧ (y == 2147483647) = true) ∨ ((x == 2147483647) = false ∧ (y == 2147483647) = false ∧ (z == 2147483647) = true)) (w : World) (LV : ∀ v, Ext w v → Calls Tryd.prog 15 #[] v fun e w' => e = .returned (.bool true) ∧ Ext v w') : Calls Tryd.prog 6 #[.int .i32 a, .int .i32 b] w fun e w' => e = .returned (.bool true) ∧ Ext w w' := by
  have EX := Ext.refl w
  have sw : wrap32 s = s := wrap_in32 ⟨by omega, by omega⟩
  rcases h with h | ⟨h, h1⟩ | ⟨h, h1, h2⟩
  all_goals
    go_enter Tryd.func6, Tryd.ntmps6
    go_wp2_with (first | (go_at_call 13; with_reducible refine (X1 _).mono ?_; rintro e v1 ⟨rfl, hb⟩; replace EX := Ext.trans EX hb; clear hb) | (go_at_call 13; with_reducible refine (X2 _).mono ?_; rintro e v1 ⟨rfl, hb⟩; replace EX := Ext.trans EX hb; clear hb) | (go_at_call 13; with_reducible refine (X3 _).mono ?_; rintro e v1 ⟨rfl, hb⟩; replace EX := Ext.trans EX hb; clear hb) | (go_at_call 15; with_reducible refine (LV _ EX).mono ?_; rintro e v1 ⟨rfl, hb⟩; replace EX := Ext.trans EX hb; clear hb))
    all_goals (go_ret; exact ⟨rfl, EX⟩)
set_option maxHeartbeats 4000000 in
theorem psums_high (a b s : Int) (a0 : -2147483648 ≤ a) (a1 : a ≤ 2147483647) (b0 : -2147483648 ≤ b) (b1 : b ≤ 2147483647) (hs : a + b = s) (a2 : ¬ 983040 ≤ a) (b2 : ¬ 983040 ≤ b) (s2 : ¬ 983040 ≤ s) (s3 : ¬ s < -2147483648) (s0 : -2147483648 ≤ s) (s1 : s ≤ 983039) (x y z : Int) (x0 : 0 ≤ x) (x1 : x ≤ 2147483647) (y0 : 0 ≤ y) (y1 : y ≤ 2147483647) (z0 : 0 ≤ z) (z1 : z ≤ 2147483647) (X1 : ∀ w, Calls Tryd.prog 13 #[.int .i32 a] w fun e w' => e = .returned (.int .i32 x) ∧ Ext w w') (X2 : ∀ w, Calls Tryd.prog 13 #[.int .i32 b] w fun e w' => e = .returned (.int .i32 y) ∧ Ext w w') (X3 : ∀ w, Calls Tryd.prog 13 #[.int .i32 s] w fun e w' => e = .returned (.int .i32 z) ∧ Ext w w') (hx : (x == 2147483647) = false) (hy : (y == 2147483647) = false) (hz : (z == 2147483647) = false) (t D M : Int) (ht : x * y = t) (t0 : 0 ≤ t) (t1 : t ≤ 4611686014132420609) (hD : z * 65536 - t = D) (D0 : -4611686014132420609 ≤ D) (D1 : D ≤ 140737488355328) (hM : max D (-D) = M) (M0 : 0 ≤ M) (M1 : M ≤ 4294967296) (hb : ¬ 9 * (65536 + x + y) + 16 < 16 * M) (ah : 917504 ≤ a) (w : World) (LV : ∀ v, Ext w v → Calls Tryd.prog 15 #[] v fun e w' => e = .returned (.bool true) ∧ Ext v w') : Calls Tryd.prog 6 #[.int .i32 a, .int .i32 b] w fun e w' => e = .returned (.bool true) ∧ Ext w w' := by
  have EX := Ext.refl w
  have sw : wrap32 s = s := wrap_in32 ⟨by omega, by omega⟩
  have tw : wrap64 t = t := wrap_in64 ⟨by omega, by omega⟩
  all_goals
    go_enter Tryd.func6, Tryd.ntmps6
    go_wp2_with (first | (go_at_call 13; with_reducible refine (X1 _).mono ?_; rintro e v1 ⟨rfl, hb⟩; replace EX := Ext.trans EX hb; clear hb) | (go_at_call 13; with_reducible refine (X2 _).mono ?_; rintro e v1 ⟨rfl, hb⟩; replace EX := Ext.trans EX hb; clear hb) | (go_at_call 13; with_reducible refine (X3 _).mono ?_; rintro e v1 ⟨rfl, hb⟩; replace EX := Ext.trans EX hb; clear hb) | (go_at_call 15; with_reducible refine (LV _ EX).mono ?_; rintro e v1 ⟨rfl, hb⟩; replace EX := Ext.trans EX hb; clear hb))
    all_goals (go_ret; exact ⟨rfl, EX⟩)
set_option maxHeartbeats 4000000 in
theorem psums_all (a b s : Int) (a0 : -2147483648 ≤ a) (a1 : a ≤ 2147483647) (b0 : -2147483648 ≤ b) (b1 : b ≤ 2147483647) (hs : a + b = s) (a2 : ¬ 983040 ≤ a) (b2 : ¬ 983040 ≤ b) (s2 : ¬ 983040 ≤ s) (s3 : ¬ s < -2147483648) (s0 : -2147483648 ≤ s) (s1 : s ≤ 983039) (x y z : Int) (x0 : 0 ≤ x) (x1 : x ≤ 2147483647) (y0 : 0 ≤ y) (y1 : y ≤ 2147483647) (z0 : 0 ≤ z) (z1 : z ≤ 2147483647) (X1 : ∀ w, Calls Tryd.prog 13 #[.int .i32 a] w fun e w' => e = .returned (.int .i32 x) ∧ Ext w w') (X2 : ∀ w, Calls Tryd.prog 13 #[.int .i32 b] w fun e w' => e = .returned (.int .i32 y) ∧ Ext w w') (X3 : ∀ w, Calls Tryd.prog 13 #[.int .i32 s] w fun e w' => e = .returned (.int .i32 z) ∧ Ext w w') (hx : (x == 2147483647) = false) (hy : (y == 2147483647) = false) (hz : (z == 2147483647) = false) (t D M : Int) (ht : x * y = t) (t0 : 0 ≤ t) (t1 : t ≤ 4611686014132420609) (hD : z * 65536 - t = D) (D0 : -4611686014132420609 ≤ D) (D1 : D ≤ 140737488355328) (hM : max D (-D) = M) (M0 : 0 ≤ M) (M1 : M ≤ 4294967296) (hb : ¬ 9 * (65536 + x + y) + 16 < 16 * M) (ah : ¬ 917504 ≤ a) (ah' : a ≤ 917503) (v : Int) (v0 : 0 ≤ v) (v1 : v ≤ 2147483647) (X4 : ∀ w, Calls Tryd.prog 13 #[.int .i32 (a + 65536)] w fun e w' => e = .returned (.int .i32 v) ∧ Ext w w') (h : (-1 ≤ v - 2 * x ∧ v - 2 * x ≤ 1) ∨ (¬ -1 ≤ v - 2 * x ∧ 2147483646 ≤ 2 * x) ∨ (-1 ≤ v - 2 * x ∧ ¬ v - 2 * x ≤ 1 ∧ 2147483646 ≤ 2 * x)) (w : World) (LV : ∀ v, Ext w v → Calls Tryd.prog 15 #[] v fun e w' => e = .returned (.bool true) ∧ Ext v w') : Calls Tryd.prog 6 #[.int .i32 a, .int .i32 b] w fun e w' => e = .returned (.bool true) ∧ Ext w w' := by
  have EX := Ext.refl w
  have sw : wrap32 s = s := wrap_in32 ⟨by omega, by omega⟩
  have tw : wrap64 t = t := wrap_in64 ⟨by omega, by omega⟩
  rcases h with ⟨h, h1⟩ | ⟨h, h1⟩ | ⟨h, h1, h2⟩
  all_goals
    go_enter Tryd.func6, Tryd.ntmps6
    go_wp2_with (first | (go_at_call 13; with_reducible refine (X1 _).mono ?_; rintro e v1 ⟨rfl, hb⟩; replace EX := Ext.trans EX hb; clear hb) | (go_at_call 13; with_reducible refine (X2 _).mono ?_; rintro e v1 ⟨rfl, hb⟩; replace EX := Ext.trans EX hb; clear hb) | (go_at_call 13; with_reducible refine (X3 _).mono ?_; rintro e v1 ⟨rfl, hb⟩; replace EX := Ext.trans EX hb; clear hb) | (go_at_call 13; with_reducible refine (X4 _).mono ?_; rintro e v1 ⟨rfl, hb⟩; replace EX := Ext.trans EX hb; clear hb) | (go_at_call 15; with_reducible refine (LV _ EX).mono ?_; rintro e v1 ⟨rfl, hb⟩; replace EX := Ext.trans EX hb; clear hb))
    all_goals (go_ret; exact ⟨rfl, EX⟩)
theorem exq_1 (x : Int) : exq x ≤ 2147483647 := (held_in _).2
theorem psums_law (a b : Int) (ha : In32 a) (hb : In32 b) (w : World) (L : Laid w) : Calls Tryd.prog 6 #[.int .i32 a, .int .i32 b] w fun e w' => e = .returned (.bool true) ∧ Ext w w' := by
  have LV := fun v E => lives_any w L v E
  by_cases h : 983040 ≤ a ∨ 983040 ≤ b ∨ 983040 ≤ a + b ∨ a + b < -2147483648
  · exact psums_out a b _ ha.1 ha.2 hb.1 hb.2 rfl (by omega) w LV
  · have hs : In32 (a + b) := by unfold In32; omega
    have X1 := fun w => exp2_any a ha w
    have X2 := fun w => exp2_any b hb w
    have X3 := fun w => exp2_any (a + b) hs w
    by_cases hm : exq a = 2147483647 ∨ exq b = 2147483647 ∨ exq (a + b) = 2147483647
    · refine psums_most a b _ ha.1 ha.2 hb.1 hb.2 rfl (by omega) (by omega) (by omega) (by omega) hs.1 (by omega) _ _ _ (exq_0 a) (exq_1 a) (exq_0 b) (exq_1 b) (exq_0 _) (exq_1 _) X1 X2 X3 ?_ w LV
      simp only [beq_iff_eq, beq_eq_false_iff_ne, ne_eq]
      omega
    · have n1 : ¬ exq a = 2147483647 := fun e => hm (.inl e)
      have n2 : ¬ exq b = 2147483647 := fun e => hm (.inr (.inl e))
      have n3 : ¬ exq (a + b) = 2147483647 := fun e => hm (.inr (.inr e))
      obtain ⟨c1, c2⟩ := sums_near (a := a) (b := b) (by omega) (by omega) (by omega) n1 n2 n3
      have x0 := exq_0 a
      have x1 := exq_1 a
      have y0 := exq_0 b
      have y1 := exq_1 b
      have z0 := exq_0 (a + b)
      have z1 := exq_1 (a + b)
      have t0 := Int.mul_nonneg x0 y0
      have t1 : exq a * exq b ≤ 2147483647 * 2147483647 := Int.mul_le_mul x1 y1 y0 (by decide)
      obtain ⟨D, hD⟩ : ∃ D, exq (a + b) * 65536 - exq a * exq b = D := ⟨_, rfl⟩
      have hb1 : ¬ 9 * (65536 + exq a + exq b) + 16 < 16 * max D (-D) := by omega
      by_cases ah : 917504 ≤ a
      · exact psums_high a b _ ha.1 ha.2 hb.1 hb.2 rfl (by omega) (by omega) (by omega) (by omega) hs.1 (by omega) _ _ _ x0 x1 y0 y1 z0 z1 X1 X2 X3 (by simpa using n1) (by simpa using n2) (by simpa using n3) _ D _ rfl t0 (by omega) hD (by omega) (by omega) rfl (by omega) (by omega) hb1 ah w LV
      · have X4 := fun w => exp2_any (a + 65536) (by unfold In32 at *; omega) w
        have hd := doubled (a := a) (by omega)
        exact psums_all a b _ ha.1 ha.2 hb.1 hb.2 rfl (by omega) (by omega) (by omega) (by omega) hs.1 (by omega) _ _ _ x0 x1 y0 y1 z0 z1 X1 X2 X3 (by simpa using n1) (by simpa using n2) (by simpa using n3) _ D _ rfl t0 (by omega) hD (by omega) (by omega) rfl (by omega) (by omega) hb1 ah (by omega) _ (exq_0 _) (exq_1 _) X4 (by omega) w LV
end Go.Proofs.YtbkifcfienhkaaaDoor
