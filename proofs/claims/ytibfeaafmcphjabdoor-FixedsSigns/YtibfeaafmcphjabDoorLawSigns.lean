/- The walk of the given function FixedsSigns: it returns true at every two numbers of 32 bits and every number of 16, where the package's table is as it was laid. -/
import Derived.Test.YtibfeaafmcphjabDoorFixE
import Derived.Test.YtibfeaafmcphjabDoorFixM
namespace Go.Proofs.YtibfeaafmcphjabDoor
open Go.RowKit Go.BigFrame
set_option linter.unusedSimpArgs false
set_option linter.unusedVariables false

theorem held_mid {q : Int} (h1 : ¬ held q = -2147483648) (h2 : ¬ held q = 2147483647) : held q = q ∧ -2147483648 < q ∧ q < 2147483647 := by
  unfold held at *
  by_cases c1 : q < -2147483648
  · rw [if_pos c1] at h1; exact absurd rfl h1
  · rw [if_neg c1] at h1 h2 ⊢
    by_cases c2 : 2147483647 < q
    · rw [if_pos c2] at h2; exact absurd rfl h2
    · rw [if_neg c2] at h1 h2 ⊢; omega
set_option maxRecDepth 20000 in
set_option maxHeartbeats 8000000 in
theorem signs_end1 (a b m k p r s x y z : Int) (e : Int) (wa : wrap64 a = a) (wb : wrap64 b = b) (wm : wrap64 m = m) (wk : wrap64 (m + 1) = k) (wna : wrap64 (-a) = x) (wnb : wrap64 (-b) = y) (wka : wrap64 (k * a) = z) (wkb : wrap64 (k * b) = s) (wp : wrap64 p = p) (w : World)
    (LV : ∀ v, Ext w v → Calls Tryd.prog 7 #[] v fun e w' => e = .returned (.bool true) ∧ Ext v w')
    (M1 : ∀ w, Calls Tryd.prog 5 #[.int .i32 a, .int .i32 b] w fun e w' => e = .returned (.int .i32 p) ∧ Ext w w')
    (M2 : ∀ w, Calls Tryd.prog 5 #[.int .i32 b, .int .i32 a] w fun e w' => e = .returned (.int .i32 p) ∧ Ext w w')
    (M3 : ∀ w, Calls Tryd.prog 5 #[.int .i32 a, .int .i32 65536] w fun e w' => e = .returned (.int .i32 a) ∧ Ext w w')
    (M4 : ∀ w, Calls Tryd.prog 5 #[.int .i32 a, .int .i32 0] w fun e w' => e = .returned (.int .i32 0) ∧ Ext w w')
    (R1 : ∀ w, Calls Tryd.prog 6 #[.int .i64 a, .int .i64 b] w fun e' w' => e' = .returned (.tuple #[.int .i32 r, .int .i64 e]) ∧ Ext w w')
    (R2 : ∀ w, Calls Tryd.prog 6 #[.int .i64 x, .int .i64 y] w fun e' w' => e' = .returned (.tuple #[.int .i32 r, .int .i64 e]) ∧ Ext w w')
    (R3 : ∀ w, Calls Tryd.prog 6 #[.int .i64 z, .int .i64 s] w fun e' w' => e' = .returned (.tuple #[.int .i32 r, .int .i64 e]) ∧ Ext w w') (h1 : (a == -2147483648) = true) : Calls Tryd.prog 3 #[.int .i32 a, .int .i32 b, .int .u16 m] w fun e w' => e = .returned (.bool true) ∧ Ext w w' := by
  have EX := Ext.refl w
  go_enter Tryd.func3, Tryd.ntmps3
  go_wp2_with (first | (go_at_call 5; with_reducible refine (M1 _).mono ?_; rintro e v1 ⟨rfl, hb⟩; replace EX := Ext.trans EX hb; clear hb) | (go_at_call 5; with_reducible refine (M2 _).mono ?_; rintro e v1 ⟨rfl, hb⟩; replace EX := Ext.trans EX hb; clear hb) | (go_at_call 5; with_reducible refine (M3 _).mono ?_; rintro e v1 ⟨rfl, hb⟩; replace EX := Ext.trans EX hb; clear hb) | (go_at_call 5; with_reducible refine (M4 _).mono ?_; rintro e v1 ⟨rfl, hb⟩; replace EX := Ext.trans EX hb; clear hb) | (go_at_call 6; with_reducible refine (R1 _).mono ?_; rintro e v1 ⟨rfl, hb⟩; replace EX := Ext.trans EX hb; clear hb) | (go_at_call 6; with_reducible refine (R2 _).mono ?_; rintro e v1 ⟨rfl, hb⟩; replace EX := Ext.trans EX hb; clear hb) | (go_at_call 6; with_reducible refine (R3 _).mono ?_; rintro e v1 ⟨rfl, hb⟩; replace EX := Ext.trans EX hb; clear hb) | (go_at_call 7; with_reducible refine (LV _ EX).mono ?_; rintro e v1 ⟨rfl, hb⟩; replace EX := Ext.trans EX hb; clear hb))
  all_goals (go_ret; exact ⟨rfl, EX⟩)
set_option maxRecDepth 20000 in
set_option maxHeartbeats 8000000 in
theorem signs_end2 (a b m k p r s x y z : Int) (e : Int) (wa : wrap64 a = a) (wb : wrap64 b = b) (wm : wrap64 m = m) (wk : wrap64 (m + 1) = k) (wna : wrap64 (-a) = x) (wnb : wrap64 (-b) = y) (wka : wrap64 (k * a) = z) (wkb : wrap64 (k * b) = s) (wp : wrap64 p = p) (w : World)
    (LV : ∀ v, Ext w v → Calls Tryd.prog 7 #[] v fun e w' => e = .returned (.bool true) ∧ Ext v w')
    (M1 : ∀ w, Calls Tryd.prog 5 #[.int .i32 a, .int .i32 b] w fun e w' => e = .returned (.int .i32 p) ∧ Ext w w')
    (M2 : ∀ w, Calls Tryd.prog 5 #[.int .i32 b, .int .i32 a] w fun e w' => e = .returned (.int .i32 p) ∧ Ext w w')
    (M3 : ∀ w, Calls Tryd.prog 5 #[.int .i32 a, .int .i32 65536] w fun e w' => e = .returned (.int .i32 a) ∧ Ext w w')
    (M4 : ∀ w, Calls Tryd.prog 5 #[.int .i32 a, .int .i32 0] w fun e w' => e = .returned (.int .i32 0) ∧ Ext w w')
    (R1 : ∀ w, Calls Tryd.prog 6 #[.int .i64 a, .int .i64 b] w fun e' w' => e' = .returned (.tuple #[.int .i32 r, .int .i64 e]) ∧ Ext w w')
    (R2 : ∀ w, Calls Tryd.prog 6 #[.int .i64 x, .int .i64 y] w fun e' w' => e' = .returned (.tuple #[.int .i32 r, .int .i64 e]) ∧ Ext w w')
    (R3 : ∀ w, Calls Tryd.prog 6 #[.int .i64 z, .int .i64 s] w fun e' w' => e' = .returned (.tuple #[.int .i32 r, .int .i64 e]) ∧ Ext w w') (h1 : ¬ a = -2147483648) (h2 : p = -2147483648 ∨ p = 2147483647) : Calls Tryd.prog 3 #[.int .i32 a, .int .i32 b, .int .u16 m] w fun e w' => e = .returned (.bool true) ∧ Ext w w' := by
  rcases h2 with h2 | h2 <;> subst h2
  all_goals
    have EX := Ext.refl w
    go_enter Tryd.func3, Tryd.ntmps3
    go_wp2_with (first | (go_at_call 5; with_reducible refine (M1 _).mono ?_; rintro e v1 ⟨rfl, hb⟩; replace EX := Ext.trans EX hb; clear hb) | (go_at_call 5; with_reducible refine (M2 _).mono ?_; rintro e v1 ⟨rfl, hb⟩; replace EX := Ext.trans EX hb; clear hb) | (go_at_call 5; with_reducible refine (M3 _).mono ?_; rintro e v1 ⟨rfl, hb⟩; replace EX := Ext.trans EX hb; clear hb) | (go_at_call 5; with_reducible refine (M4 _).mono ?_; rintro e v1 ⟨rfl, hb⟩; replace EX := Ext.trans EX hb; clear hb) | (go_at_call 6; with_reducible refine (R1 _).mono ?_; rintro e v1 ⟨rfl, hb⟩; replace EX := Ext.trans EX hb; clear hb) | (go_at_call 6; with_reducible refine (R2 _).mono ?_; rintro e v1 ⟨rfl, hb⟩; replace EX := Ext.trans EX hb; clear hb) | (go_at_call 6; with_reducible refine (R3 _).mono ?_; rintro e v1 ⟨rfl, hb⟩; replace EX := Ext.trans EX hb; clear hb) | (go_at_call 7; with_reducible refine (LV _ EX).mono ?_; rintro e v1 ⟨rfl, hb⟩; replace EX := Ext.trans EX hb; clear hb))
    all_goals (go_ret; exact ⟨rfl, EX⟩)
set_option maxRecDepth 20000 in
set_option maxHeartbeats 8000000 in
theorem signs_mid (a b m k p r s x y z : Int) (e : Int) (wa : wrap64 a = a) (wb : wrap64 b = b) (wm : wrap64 m = m) (wk : wrap64 (m + 1) = k) (wna : wrap64 (-a) = x) (wnb : wrap64 (-b) = y) (wka : wrap64 (k * a) = z) (wkb : wrap64 (k * b) = s) (wp : wrap64 p = p) (w : World)
    (LV : ∀ v, Ext w v → Calls Tryd.prog 7 #[] v fun e w' => e = .returned (.bool true) ∧ Ext v w')
    (M1 : ∀ w, Calls Tryd.prog 5 #[.int .i32 a, .int .i32 b] w fun e w' => e = .returned (.int .i32 p) ∧ Ext w w')
    (M2 : ∀ w, Calls Tryd.prog 5 #[.int .i32 b, .int .i32 a] w fun e w' => e = .returned (.int .i32 p) ∧ Ext w w')
    (M3 : ∀ w, Calls Tryd.prog 5 #[.int .i32 a, .int .i32 65536] w fun e w' => e = .returned (.int .i32 a) ∧ Ext w w')
    (M4 : ∀ w, Calls Tryd.prog 5 #[.int .i32 a, .int .i32 0] w fun e w' => e = .returned (.int .i32 0) ∧ Ext w w')
    (R1 : ∀ w, Calls Tryd.prog 6 #[.int .i64 a, .int .i64 b] w fun e' w' => e' = .returned (.tuple #[.int .i32 r, .int .i64 e]) ∧ Ext w w')
    (R2 : ∀ w, Calls Tryd.prog 6 #[.int .i64 x, .int .i64 y] w fun e' w' => e' = .returned (.tuple #[.int .i32 r, .int .i64 e]) ∧ Ext w w')
    (R3 : ∀ w, Calls Tryd.prog 6 #[.int .i64 z, .int .i64 s] w fun e' w' => e' = .returned (.tuple #[.int .i32 r, .int .i64 e]) ∧ Ext w w') (n u : Int) (h1 : (a == -2147483648) = false) (h2 : (p == -2147483648) = false) (h3 : (p == 2147483647) = false) (wu : wrap32 (-a) = u) (wq : wrap64 (-p) = -p) (wq1 : wrap64 (-p + 1) = -p + 1) (wn : wrap64 n = n) (t o : Int) (wab : wrap64 (a * b) = t) (hl : bits .and .i64 t 65535 = o)
    (M5 : ∀ w, Calls Tryd.prog 5 #[.int .i32 u, .int .i32 b] w fun e w' => e = .returned (.int .i32 n) ∧ Ext w w')
    (h4 : (n = -p ∧ ¬ o = 32768) ∨ (n = -p + 1 ∧ o = 32768) ∨ (n = 2147483647 ∧ p = -2147483647 ∧ o = 32768)) : Calls Tryd.prog 3 #[.int .i32 a, .int .i32 b, .int .u16 m] w fun e w' => e = .returned (.bool true) ∧ Ext w w' := by
  rcases h4 with ⟨rfl, h4⟩ | ⟨rfl, rfl⟩ | ⟨rfl, rfl, rfl⟩
  · have h5 : (o == 32768) = false := (by simpa using h4)
    clear h4
    have EX := Ext.refl w
    go_enter Tryd.func3, Tryd.ntmps3
    go_wp2_with (first | (go_at_call 5; with_reducible refine (M1 _).mono ?_; rintro e v1 ⟨rfl, hb⟩; replace EX := Ext.trans EX hb; clear hb) | (go_at_call 5; with_reducible refine (M2 _).mono ?_; rintro e v1 ⟨rfl, hb⟩; replace EX := Ext.trans EX hb; clear hb) | (go_at_call 5; with_reducible refine (M3 _).mono ?_; rintro e v1 ⟨rfl, hb⟩; replace EX := Ext.trans EX hb; clear hb) | (go_at_call 5; with_reducible refine (M4 _).mono ?_; rintro e v1 ⟨rfl, hb⟩; replace EX := Ext.trans EX hb; clear hb) | (go_at_call 5; with_reducible refine (M5 _).mono ?_; rintro e v1 ⟨rfl, hb⟩; replace EX := Ext.trans EX hb; clear hb) | (go_at_call 6; with_reducible refine (R1 _).mono ?_; rintro e v1 ⟨rfl, hb⟩; replace EX := Ext.trans EX hb; clear hb) | (go_at_call 6; with_reducible refine (R2 _).mono ?_; rintro e v1 ⟨rfl, hb⟩; replace EX := Ext.trans EX hb; clear hb) | (go_at_call 6; with_reducible refine (R3 _).mono ?_; rintro e v1 ⟨rfl, hb⟩; replace EX := Ext.trans EX hb; clear hb) | (go_at_call 7; with_reducible refine (LV _ EX).mono ?_; rintro e v1 ⟨rfl, hb⟩; replace EX := Ext.trans EX hb; clear hb))
    all_goals (go_ret; exact ⟨rfl, EX⟩)
  · have EX := Ext.refl w
    go_enter Tryd.func3, Tryd.ntmps3
    go_wp2_with (first | (go_at_call 5; with_reducible refine (M1 _).mono ?_; rintro e v1 ⟨rfl, hb⟩; replace EX := Ext.trans EX hb; clear hb) | (go_at_call 5; with_reducible refine (M2 _).mono ?_; rintro e v1 ⟨rfl, hb⟩; replace EX := Ext.trans EX hb; clear hb) | (go_at_call 5; with_reducible refine (M3 _).mono ?_; rintro e v1 ⟨rfl, hb⟩; replace EX := Ext.trans EX hb; clear hb) | (go_at_call 5; with_reducible refine (M4 _).mono ?_; rintro e v1 ⟨rfl, hb⟩; replace EX := Ext.trans EX hb; clear hb) | (go_at_call 5; with_reducible refine (M5 _).mono ?_; rintro e v1 ⟨rfl, hb⟩; replace EX := Ext.trans EX hb; clear hb) | (go_at_call 6; with_reducible refine (R1 _).mono ?_; rintro e v1 ⟨rfl, hb⟩; replace EX := Ext.trans EX hb; clear hb) | (go_at_call 6; with_reducible refine (R2 _).mono ?_; rintro e v1 ⟨rfl, hb⟩; replace EX := Ext.trans EX hb; clear hb) | (go_at_call 6; with_reducible refine (R3 _).mono ?_; rintro e v1 ⟨rfl, hb⟩; replace EX := Ext.trans EX hb; clear hb) | (go_at_call 7; with_reducible refine (LV _ EX).mono ?_; rintro e v1 ⟨rfl, hb⟩; replace EX := Ext.trans EX hb; clear hb))
    all_goals (go_ret; exact ⟨rfl, EX⟩)
  · have EX := Ext.refl w
    go_enter Tryd.func3, Tryd.ntmps3
    go_wp2_with (first | (go_at_call 5; with_reducible refine (M1 _).mono ?_; rintro e v1 ⟨rfl, hb⟩; replace EX := Ext.trans EX hb; clear hb) | (go_at_call 5; with_reducible refine (M2 _).mono ?_; rintro e v1 ⟨rfl, hb⟩; replace EX := Ext.trans EX hb; clear hb) | (go_at_call 5; with_reducible refine (M3 _).mono ?_; rintro e v1 ⟨rfl, hb⟩; replace EX := Ext.trans EX hb; clear hb) | (go_at_call 5; with_reducible refine (M4 _).mono ?_; rintro e v1 ⟨rfl, hb⟩; replace EX := Ext.trans EX hb; clear hb) | (go_at_call 5; with_reducible refine (M5 _).mono ?_; rintro e v1 ⟨rfl, hb⟩; replace EX := Ext.trans EX hb; clear hb) | (go_at_call 6; with_reducible refine (R1 _).mono ?_; rintro e v1 ⟨rfl, hb⟩; replace EX := Ext.trans EX hb; clear hb) | (go_at_call 6; with_reducible refine (R2 _).mono ?_; rintro e v1 ⟨rfl, hb⟩; replace EX := Ext.trans EX hb; clear hb) | (go_at_call 6; with_reducible refine (R3 _).mono ?_; rintro e v1 ⟨rfl, hb⟩; replace EX := Ext.trans EX hb; clear hb) | (go_at_call 7; with_reducible refine (LV _ EX).mono ?_; rintro e v1 ⟨rfl, hb⟩; replace EX := Ext.trans EX hb; clear hb))
    all_goals (go_ret; exact ⟨rfl, EX⟩)
theorem signs_any (a b m : Int) (ha : In32 a) (hb : In32 b) (hm : 0 ≤ m) (hm' : m < 65536) (w : World) (L : Laid w) : Calls Tryd.prog 3 #[.int .i32 a, .int .i32 b, .int .u16 m] w fun e w' => e = .returned (.bool true) ∧ Ext w w' := by
  have i1 : In64 (-a) := by unfold In32 In64 at *; omega
  have i2 : In64 (-b) := by unfold In32 In64 at *; omega
  have big : ∀ c : Int, In32 c → In64 ((m + 1) * c) := by
    intro c hc
    have k := Int.natAbs_mul (m + 1) c
    have ka : (m + 1).natAbs ≤ 65536 := by omega
    have kb : c.natAbs ≤ 2147483648 := by unfold In32 at hc; omega
    have := Nat.mul_le_mul ka kb
    unfold In64
    omega
  have LV := fun v E => lives_any w L v E
  have M1 := fun w => fmul_any a b ha hb w
  have M2 := fun w => fmul_any b a hb ha w
  rw [Int.mul_comm b a] at M2
  have M3 := fun w => fmul_any a 65536 ha ⟨by decide, by decide⟩ w
  rw [Int.mul_comm a 65536, nr_exact _ _ (by decide), held_id ha] at M3
  have M4 := fun w => fmul_any a 0 ha ⟨by decide, by decide⟩ w
  rw [Int.mul_zero, show held (nr 0 65536) = 0 by decide] at M4
  have R1 := fun w => ratio_any a b (in32_64 ha) (in32_64 hb) w
  have R2 := fun w => ratio_any (-a) (-b) i1 i2 w
  rw [rat_neg, rate_neg] at R2
  have R3 := fun w => ratio_any ((m + 1) * a) ((m + 1) * b) (big a ha) (big b hb) w
  rw [rat_scale _ _ _ (by omega), rate_scale _ _ (by omega)] at R3
  have hp := held_in (nr (a * b) 65536)
  have wm : wrap64 m = m := wrap_in64 ⟨by omega, by omega⟩
  have wk : wrap64 (m + 1) = m + 1 := wrap_in64 ⟨by omega, by omega⟩
  by_cases h1 : a = -2147483648
  · exact signs_end1 a b m (m + 1) _ _ _ _ _ _ _ (wrap_in64 (in32_64 ha)) (wrap_in64 (in32_64 hb)) wm wk (wrap_in64 i1) (wrap_in64 i2) (wrap_in64 (big a ha)) (wrap_in64 (big b hb)) (wrap_in64 (in32_64 hp)) w LV M1 M2 M3 M4 R1 R2 R3 (by simp [h1])
  · by_cases h2 : held (nr (a * b) 65536) = -2147483648 ∨ held (nr (a * b) 65536) = 2147483647
    · exact signs_end2 a b m (m + 1) _ _ _ _ _ _ _ (wrap_in64 (in32_64 ha)) (wrap_in64 (in32_64 hb)) wm wk (wrap_in64 i1) (wrap_in64 i2) (wrap_in64 (big a ha)) (wrap_in64 (big b hb)) (wrap_in64 (in32_64 hp)) w LV M1 M2 M3 M4 R1 R2 R3 h1 h2
    · have h3 : ¬ held (nr (a * b) 65536) = -2147483648 := fun h => h2 (.inl h)
      have h4 : ¬ held (nr (a * b) 65536) = 2147483647 := fun h => h2 (.inr h)
      have i3 : In32 (-a) := by unfold In32 at *; omega
      have i4 := mul_le33 (a := a) (b := b) (by unfold In32 at ha; omega) (by unfold In32 at hb; omega)
      have i5 : In64 (a * b) := by
        have k := Int.natAbs_mul a b
        have ka : a.natAbs ≤ 2147483648 := by unfold In32 at ha; omega
        have kb : b.natAbs ≤ 2147483648 := by unfold In32 at hb; omega
        have := Nat.mul_le_mul ka kb
        unfold In64
        omega
      have M5 := fun w => fmul_any (-a) b i3 hb w
      rw [Int.neg_mul, nr_turn] at M5
      refine signs_mid a b m (m + 1) _ _ _ _ _ _ _ (wrap_in64 (in32_64 ha)) (wrap_in64 (in32_64 hb)) wm wk (wrap_in64 i1) (wrap_in64 i2) (wrap_in64 (big a ha)) (wrap_in64 (big b hb)) (wrap_in64 (in32_64 hp)) w LV M1 M2 M3 M4 R1 R2 R3
        _ _ (by simpa using h1) (by simpa using h3) (by simpa using h4) (wrap_in32 i3) (wrap_in64 (by unfold In32 In64 at *; omega)) (wrap_in64 (by unfold In32 In64 at *; omega)) (wrap_in64 (in32_64 (held_in _))) (a * b) _ (wrap_in64 i5) (low16 _) M5 ?_
      have key := held_mid h3 h4
      rw [key.1]
      generalize nr (a * b) 65536 = q at *
      generalize a * b % 65536 = o at *
      obtain ⟨-, k1, k2⟩ := key
      clear M1 M2 M3 M4 R1 R2 R3 M5 LV i4 i5 big h1 h2 h3 h4 hp wm wk L
      by_cases ho : o = 32768
      · rw [if_pos ho]
        by_cases hq : q = -2147483647
        · subst hq; exact .inr (.inr ⟨by decide, rfl, ho⟩)
        · exact .inr (.inl ⟨held_id ⟨by omega, by omega⟩, ho⟩)
      · rw [if_neg ho]
        exact .inl ⟨held_id ⟨by omega, by omega⟩, ho⟩
end Go.Proofs.YtibfeaafmcphjabDoor
