/- The walk of the given function PowersSquares: it returns true at every fix and every number of 8 bits. -/
import Derived.Test.YtbkifcfienhkaaaDoorLawPwhole
import Derived.Test.YtbkifcfienhkaaaDoorPowS
namespace Go.Proofs.YtbkifcfienhkaaaDoor
open Go.RowKit Go.BigFrame
set_option linter.unusedSimpArgs false
set_option linter.unusedVariables false



set_option maxRecDepth 20000 in
theorem psq_zero (k : Int) (w : World) (LV : ∀ v, Ext w v → Calls Tryd.prog 15 #[] v fun e w' => e = .returned (.bool true) ∧ Ext v w') : Calls Tryd.prog 8 #[.int .i32 0, .int .i8 k] w fun e w' => e = .returned (.bool true) ∧ Ext w w' := by
  have EX := Ext.refl w
  go_enter Tryd.func8, Tryd.ntmps8
  go_wp2_with (first | (go_at_call 15; with_reducible refine (LV _ EX).mono ?_; rintro e v1 ⟨rfl, hb⟩; replace EX := Ext.trans EX hb; clear hb))
  go_ret
  exact ⟨rfl, EX⟩
set_option maxRecDepth 20000 in
set_option maxHeartbeats 4000000 in
theorem psq_least (a k s r q m : Int) (a0 : ¬ a = 0) (a1 : -2147483648 ≤ a) (a2 : a ≤ 2147483647) (k0 : -128 ≤ k) (k1 : k < 128) (s0 : -2147483648 ≤ s) (s1 : s ≤ 2147483647) (r0 : -2147483648 ≤ r) (r1 : r ≤ 2147483647) (q0 : -2147483648 ≤ q) (q1 : q ≤ 2147483647) (m0 : -2147483648 ≤ m) (m1 : m ≤ 2147483647) (d0 : ¬ s - m < -1) (d1 : ¬ 1 < s - m) (c0 : ¬ r - q < -1) (c1 : ¬ 1 < r - q) (w : World) (P1 : ∀ v, Ext w v → Calls Tryd.prog 11 #[.int .i32 a, .int .i32 131072] v fun e w' => e = .returned (.tuple #[.int .i32 s, .int .i64 0]) ∧ Ext v w') (P2 : ∀ v, Ext w v → Calls Tryd.prog 11 #[.int .i32 a, .int .i32 (-65536)] v fun e w' => e = .returned (.tuple #[.int .i32 r, .int .i64 0]) ∧ Ext v w') (RA : ∀ w, Calls Tryd.prog 18 #[.int .i64 65536, .int .i64 a] w fun e w' => e = .returned (.tuple #[.int .i32 q, .int .i64 0]) ∧ Ext w w') (MU : ∀ w, Calls Tryd.prog 19 #[.int .i32 a, .int .i32 a] w fun e w' => e = .returned (.int .i32 m) ∧ Ext w w') (hl : a < -2147483647) (LV : ∀ v, Ext w v → Calls Tryd.prog 15 #[] v fun e w' => e = .returned (.bool true) ∧ Ext v w') : Calls Tryd.prog 8 #[.int .i32 a, .int .i8 k] w fun e w' => e = .returned (.bool true) ∧ Ext w w' := by
  have EX := Ext.refl w
  have kw : wrap32 (k * 65536) = k * 65536 := wrap_in32 ⟨by omega, by omega⟩
  go_enter Tryd.func8, Tryd.ntmps8
  go_wp2_with (first | (go_at_call 11; with_reducible refine (P1 _ EX).mono ?_; rintro e v1 ⟨rfl, hb⟩; replace EX := Ext.trans EX hb; clear hb) | (go_at_call 11; with_reducible refine (P2 _ EX).mono ?_; rintro e v1 ⟨rfl, hb⟩; replace EX := Ext.trans EX hb; clear hb) | (go_at_call 18; with_reducible refine (RA _).mono ?_; rintro e v1 ⟨rfl, hb⟩; replace EX := Ext.trans EX hb; clear hb) | (go_at_call 19; with_reducible refine (MU _).mono ?_; rintro e v1 ⟨rfl, hb⟩; replace EX := Ext.trans EX hb; clear hb) | (go_at_call 15; with_reducible refine (LV _ EX).mono ?_; rintro e v1 ⟨rfl, hb⟩; replace EX := Ext.trans EX hb; clear hb))
  go_ret
  exact ⟨rfl, EX⟩
set_option maxHeartbeats 4000000 in
theorem psq_even (a k s r q m : Int) (a0 : ¬ a = 0) (a1 : -2147483648 ≤ a) (a2 : a ≤ 2147483647) (k0 : -128 ≤ k) (k1 : k < 128) (s0 : -2147483648 ≤ s) (s1 : s ≤ 2147483647) (r0 : -2147483648 ≤ r) (r1 : r ≤ 2147483647) (q0 : -2147483648 ≤ q) (q1 : q ≤ 2147483647) (m0 : -2147483648 ≤ m) (m1 : m ≤ 2147483647) (d0 : ¬ s - m < -1) (d1 : ¬ 1 < s - m) (c0 : ¬ r - q < -1) (c1 : ¬ 1 < r - q) (w : World) (P1 : ∀ v, Ext w v → Calls Tryd.prog 11 #[.int .i32 a, .int .i32 131072] v fun e w' => e = .returned (.tuple #[.int .i32 s, .int .i64 0]) ∧ Ext v w') (P2 : ∀ v, Ext w v → Calls Tryd.prog 11 #[.int .i32 a, .int .i32 (-65536)] v fun e w' => e = .returned (.tuple #[.int .i32 r, .int .i64 0]) ∧ Ext v w') (RA : ∀ w, Calls Tryd.prog 18 #[.int .i64 65536, .int .i64 a] w fun e w' => e = .returned (.tuple #[.int .i32 q, .int .i64 0]) ∧ Ext w w') (MU : ∀ w, Calls Tryd.prog 19 #[.int .i32 a, .int .i32 a] w fun e w' => e = .returned (.int .i32 m) ∧ Ext w w') (x : Int) (hl : ¬ a < -2147483647) (P3 : ∀ v, Ext w v → Calls Tryd.prog 11 #[.int .i32 a, .int .i32 (k * 65536)] v fun e w' => e = .returned (.tuple #[.int .i32 x, .int .i64 0]) ∧ Ext v w') (P4 : ∀ v, Ext w v → Calls Tryd.prog 11 #[.int .i32 (-a), .int .i32 (k * 65536)] v fun e w' => e = .returned (.tuple #[.int .i32 x, .int .i64 0]) ∧ Ext v w') (he : (Int.tmod k 2 == 0) = true) (LV : ∀ v, Ext w v → Calls Tryd.prog 15 #[] v fun e w' => e = .returned (.bool true) ∧ Ext v w') : Calls Tryd.prog 8 #[.int .i32 a, .int .i8 k] w fun e w' => e = .returned (.bool true) ∧ Ext w w' := by
  have EX := Ext.refl w
  have kw : wrap32 (k * 65536) = k * 65536 := wrap_in32 ⟨by omega, by omega⟩
  have aw : wrap32 (-a) = -a := wrap_in32 ⟨by omega, by omega⟩
  go_enter Tryd.func8, Tryd.ntmps8
  go_wp2_with (first | (go_at_call 11; with_reducible refine (P1 _ EX).mono ?_; rintro e v1 ⟨rfl, hb⟩; replace EX := Ext.trans EX hb; clear hb) | (go_at_call 11; with_reducible refine (P2 _ EX).mono ?_; rintro e v1 ⟨rfl, hb⟩; replace EX := Ext.trans EX hb; clear hb) | (go_at_call 11; with_reducible refine (P3 _ EX).mono ?_; rintro e v1 ⟨rfl, hb⟩; replace EX := Ext.trans EX hb; clear hb) | (go_at_call 11; with_reducible refine (P4 _ EX).mono ?_; rintro e v1 ⟨rfl, hb⟩; replace EX := Ext.trans EX hb; clear hb) | (go_at_call 18; with_reducible refine (RA _).mono ?_; rintro e v1 ⟨rfl, hb⟩; replace EX := Ext.trans EX hb; clear hb) | (go_at_call 19; with_reducible refine (MU _).mono ?_; rintro e v1 ⟨rfl, hb⟩; replace EX := Ext.trans EX hb; clear hb) | (go_at_call 15; with_reducible refine (LV _ EX).mono ?_; rintro e v1 ⟨rfl, hb⟩; replace EX := Ext.trans EX hb; clear hb))
  go_ret
  exact ⟨rfl, EX⟩
set_option maxHeartbeats 4000000 in
theorem psq_odd (a k s r q m : Int) (a0 : ¬ a = 0) (a1 : -2147483648 ≤ a) (a2 : a ≤ 2147483647) (k0 : -128 ≤ k) (k1 : k < 128) (s0 : -2147483648 ≤ s) (s1 : s ≤ 2147483647) (r0 : -2147483648 ≤ r) (r1 : r ≤ 2147483647) (q0 : -2147483648 ≤ q) (q1 : q ≤ 2147483647) (m0 : -2147483648 ≤ m) (m1 : m ≤ 2147483647) (d0 : ¬ s - m < -1) (d1 : ¬ 1 < s - m) (c0 : ¬ r - q < -1) (c1 : ¬ 1 < r - q) (w : World) (P1 : ∀ v, Ext w v → Calls Tryd.prog 11 #[.int .i32 a, .int .i32 131072] v fun e w' => e = .returned (.tuple #[.int .i32 s, .int .i64 0]) ∧ Ext v w') (P2 : ∀ v, Ext w v → Calls Tryd.prog 11 #[.int .i32 a, .int .i32 (-65536)] v fun e w' => e = .returned (.tuple #[.int .i32 r, .int .i64 0]) ∧ Ext v w') (RA : ∀ w, Calls Tryd.prog 18 #[.int .i64 65536, .int .i64 a] w fun e w' => e = .returned (.tuple #[.int .i32 q, .int .i64 0]) ∧ Ext w w') (MU : ∀ w, Calls Tryd.prog 19 #[.int .i32 a, .int .i32 a] w fun e w' => e = .returned (.int .i32 m) ∧ Ext w w') (x y : Int) (hl : ¬ a < -2147483647) (P3 : ∀ v, Ext w v → Calls Tryd.prog 11 #[.int .i32 a, .int .i32 (k * 65536)] v fun e w' => e = .returned (.tuple #[.int .i32 x, .int .i64 0]) ∧ Ext v w') (P4 : ∀ v, Ext w v → Calls Tryd.prog 11 #[.int .i32 (-a), .int .i32 (k * 65536)] v fun e w' => e = .returned (.tuple #[.int .i32 y, .int .i64 0]) ∧ Ext v w') (he : (Int.tmod k 2 == 0) = false) (hy : wrap32 (-y) = x) (LV : ∀ v, Ext w v → Calls Tryd.prog 15 #[] v fun e w' => e = .returned (.bool true) ∧ Ext v w') : Calls Tryd.prog 8 #[.int .i32 a, .int .i8 k] w fun e w' => e = .returned (.bool true) ∧ Ext w w' := by
  have EX := Ext.refl w
  have kw : wrap32 (k * 65536) = k * 65536 := wrap_in32 ⟨by omega, by omega⟩
  have aw : wrap32 (-a) = -a := wrap_in32 ⟨by omega, by omega⟩
  go_enter Tryd.func8, Tryd.ntmps8
  go_wp2_with (first | (go_at_call 11; with_reducible refine (P1 _ EX).mono ?_; rintro e v1 ⟨rfl, hb⟩; replace EX := Ext.trans EX hb; clear hb) | (go_at_call 11; with_reducible refine (P2 _ EX).mono ?_; rintro e v1 ⟨rfl, hb⟩; replace EX := Ext.trans EX hb; clear hb) | (go_at_call 11; with_reducible refine (P3 _ EX).mono ?_; rintro e v1 ⟨rfl, hb⟩; replace EX := Ext.trans EX hb; clear hb) | (go_at_call 11; with_reducible refine (P4 _ EX).mono ?_; rintro e v1 ⟨rfl, hb⟩; replace EX := Ext.trans EX hb; clear hb) | (go_at_call 18; with_reducible refine (RA _).mono ?_; rintro e v1 ⟨rfl, hb⟩; replace EX := Ext.trans EX hb; clear hb) | (go_at_call 19; with_reducible refine (MU _).mono ?_; rintro e v1 ⟨rfl, hb⟩; replace EX := Ext.trans EX hb; clear hb) | (go_at_call 15; with_reducible refine (LV _ EX).mono ?_; rintro e v1 ⟨rfl, hb⟩; replace EX := Ext.trans EX hb; clear hb))
  go_ret
  exact ⟨rfl, EX⟩
set_option maxHeartbeats 4000000 in
theorem psq_most (a k s r q m : Int) (a0 : ¬ a = 0) (a1 : -2147483648 ≤ a) (a2 : a ≤ 2147483647) (k0 : -128 ≤ k) (k1 : k < 128) (s0 : -2147483648 ≤ s) (s1 : s ≤ 2147483647) (r0 : -2147483648 ≤ r) (r1 : r ≤ 2147483647) (q0 : -2147483648 ≤ q) (q1 : q ≤ 2147483647) (m0 : -2147483648 ≤ m) (m1 : m ≤ 2147483647) (d0 : ¬ s - m < -1) (d1 : ¬ 1 < s - m) (c0 : ¬ r - q < -1) (c1 : ¬ 1 < r - q) (w : World) (P1 : ∀ v, Ext w v → Calls Tryd.prog 11 #[.int .i32 a, .int .i32 131072] v fun e w' => e = .returned (.tuple #[.int .i32 s, .int .i64 0]) ∧ Ext v w') (P2 : ∀ v, Ext w v → Calls Tryd.prog 11 #[.int .i32 a, .int .i32 (-65536)] v fun e w' => e = .returned (.tuple #[.int .i32 r, .int .i64 0]) ∧ Ext v w') (RA : ∀ w, Calls Tryd.prog 18 #[.int .i64 65536, .int .i64 a] w fun e w' => e = .returned (.tuple #[.int .i32 q, .int .i64 0]) ∧ Ext w w') (MU : ∀ w, Calls Tryd.prog 19 #[.int .i32 a, .int .i32 a] w fun e w' => e = .returned (.int .i32 m) ∧ Ext w w') (hl : ¬ a < -2147483647) (P3 : ∀ v, Ext w v → Calls Tryd.prog 11 #[.int .i32 a, .int .i32 (k * 65536)] v fun e w' => e = .returned (.tuple #[.int .i32 2147483647, .int .i64 0]) ∧ Ext v w') (P4 : ∀ v, Ext w v → Calls Tryd.prog 11 #[.int .i32 (-a), .int .i32 (k * 65536)] v fun e w' => e = .returned (.tuple #[.int .i32 (-2147483648), .int .i64 0]) ∧ Ext v w') (he : (Int.tmod k 2 == 0) = false) (LV : ∀ v, Ext w v → Calls Tryd.prog 15 #[] v fun e w' => e = .returned (.bool true) ∧ Ext v w') : Calls Tryd.prog 8 #[.int .i32 a, .int .i8 k] w fun e w' => e = .returned (.bool true) ∧ Ext w w' := by
  have EX := Ext.refl w
  have kw : wrap32 (k * 65536) = k * 65536 := wrap_in32 ⟨by omega, by omega⟩
  have aw : wrap32 (-a) = -a := wrap_in32 ⟨by omega, by omega⟩
  have mw : wrap32 2147483648 = -2147483648 := by simp [wrap32]
  go_enter Tryd.func8, Tryd.ntmps8
  go_wp2_with (first | (go_at_call 11; with_reducible refine (P1 _ EX).mono ?_; rintro e v1 ⟨rfl, hb⟩; replace EX := Ext.trans EX hb; clear hb) | (go_at_call 11; with_reducible refine (P2 _ EX).mono ?_; rintro e v1 ⟨rfl, hb⟩; replace EX := Ext.trans EX hb; clear hb) | (go_at_call 11; with_reducible refine (P3 _ EX).mono ?_; rintro e v1 ⟨rfl, hb⟩; replace EX := Ext.trans EX hb; clear hb) | (go_at_call 11; with_reducible refine (P4 _ EX).mono ?_; rintro e v1 ⟨rfl, hb⟩; replace EX := Ext.trans EX hb; clear hb) | (go_at_call 18; with_reducible refine (RA _).mono ?_; rintro e v1 ⟨rfl, hb⟩; replace EX := Ext.trans EX hb; clear hb) | (go_at_call 19; with_reducible refine (MU _).mono ?_; rintro e v1 ⟨rfl, hb⟩; replace EX := Ext.trans EX hb; clear hb) | (go_at_call 15; with_reducible refine (LV _ EX).mono ?_; rintro e v1 ⟨rfl, hb⟩; replace EX := Ext.trans EX hb; clear hb))
  go_ret
  exact ⟨rfl, EX⟩
set_option maxHeartbeats 4000000 in
theorem psq_low (a k s r q m : Int) (a0 : ¬ a = 0) (a1 : -2147483648 ≤ a) (a2 : a ≤ 2147483647) (k0 : -128 ≤ k) (k1 : k < 128) (s0 : -2147483648 ≤ s) (s1 : s ≤ 2147483647) (r0 : -2147483648 ≤ r) (r1 : r ≤ 2147483647) (q0 : -2147483648 ≤ q) (q1 : q ≤ 2147483647) (m0 : -2147483648 ≤ m) (m1 : m ≤ 2147483647) (d0 : ¬ s - m < -1) (d1 : ¬ 1 < s - m) (c0 : ¬ r - q < -1) (c1 : ¬ 1 < r - q) (w : World) (P1 : ∀ v, Ext w v → Calls Tryd.prog 11 #[.int .i32 a, .int .i32 131072] v fun e w' => e = .returned (.tuple #[.int .i32 s, .int .i64 0]) ∧ Ext v w') (P2 : ∀ v, Ext w v → Calls Tryd.prog 11 #[.int .i32 a, .int .i32 (-65536)] v fun e w' => e = .returned (.tuple #[.int .i32 r, .int .i64 0]) ∧ Ext v w') (RA : ∀ w, Calls Tryd.prog 18 #[.int .i64 65536, .int .i64 a] w fun e w' => e = .returned (.tuple #[.int .i32 q, .int .i64 0]) ∧ Ext w w') (MU : ∀ w, Calls Tryd.prog 19 #[.int .i32 a, .int .i32 a] w fun e w' => e = .returned (.int .i32 m) ∧ Ext w w') (hl : ¬ a < -2147483647) (P3 : ∀ v, Ext w v → Calls Tryd.prog 11 #[.int .i32 a, .int .i32 (k * 65536)] v fun e w' => e = .returned (.tuple #[.int .i32 (-2147483648), .int .i64 0]) ∧ Ext v w') (P4 : ∀ v, Ext w v → Calls Tryd.prog 11 #[.int .i32 (-a), .int .i32 (k * 65536)] v fun e w' => e = .returned (.tuple #[.int .i32 2147483647, .int .i64 0]) ∧ Ext v w') (he : (Int.tmod k 2 == 0) = false) (LV : ∀ v, Ext w v → Calls Tryd.prog 15 #[] v fun e w' => e = .returned (.bool true) ∧ Ext v w') : Calls Tryd.prog 8 #[.int .i32 a, .int .i8 k] w fun e w' => e = .returned (.bool true) ∧ Ext w w' := by
  have EX := Ext.refl w
  have kw : wrap32 (k * 65536) = k * 65536 := wrap_in32 ⟨by omega, by omega⟩
  have aw : wrap32 (-a) = -a := wrap_in32 ⟨by omega, by omega⟩
  go_enter Tryd.func8, Tryd.ntmps8
  go_wp2_with (first | (go_at_call 11; with_reducible refine (P1 _ EX).mono ?_; rintro e v1 ⟨rfl, hb⟩; replace EX := Ext.trans EX hb; clear hb) | (go_at_call 11; with_reducible refine (P2 _ EX).mono ?_; rintro e v1 ⟨rfl, hb⟩; replace EX := Ext.trans EX hb; clear hb) | (go_at_call 11; with_reducible refine (P3 _ EX).mono ?_; rintro e v1 ⟨rfl, hb⟩; replace EX := Ext.trans EX hb; clear hb) | (go_at_call 11; with_reducible refine (P4 _ EX).mono ?_; rintro e v1 ⟨rfl, hb⟩; replace EX := Ext.trans EX hb; clear hb) | (go_at_call 18; with_reducible refine (RA _).mono ?_; rintro e v1 ⟨rfl, hb⟩; replace EX := Ext.trans EX hb; clear hb) | (go_at_call 19; with_reducible refine (MU _).mono ?_; rintro e v1 ⟨rfl, hb⟩; replace EX := Ext.trans EX hb; clear hb) | (go_at_call 15; with_reducible refine (LV _ EX).mono ?_; rintro e v1 ⟨rfl, hb⟩; replace EX := Ext.trans EX hb; clear hb))
  go_ret
  exact ⟨rfl, EX⟩
theorem tmod2 (k : Int) : (Int.tmod k 2 == 0) = decide (k % 2 = 0) := by
  have : Int.tmod k 2 = 0 ↔ k % 2 = 0 := by rw [Int.tmod_eq_emod]; split <;> omega
  by_cases h : k % 2 = 0
  · rw [decide_eq_true h]; simpa using this.2 h
  · rw [decide_eq_false h]; simpa using fun g => h (this.1 g)
theorem pwq_whole_pos {a n : Int} (h : 0 < a) (h0 : ¬ n = 0) : pwq a n = held (rsd a n) := by
  unfold pwq
  rw [if_neg h0, if_neg (show ¬ a = 0 by omega), if_pos h]
theorem pwq_whole_neg {a n : Int} (h : a < 0) (h0 : ¬ n = 0) (hn : n % 65536 = 0) : pwq a n = if n / 65536 % 2 = 0 then held (rsd (-a) n) else held (-rsd (-a) n) := by
  unfold pwq
  rw [if_neg h0, if_neg (show ¬ a = 0 by omega), if_neg (show ¬ 0 < a by omega), if_pos hn]
theorem quot_fits {a : Int} (ha : In32 a) (h0 : ¬ a = 0) : pwq a (-65536) ≤ rat 65536 a + 1 ∧ rat 65536 a ≤ pwq a (-65536) + 1 := by
  obtain ⟨a1, a2⟩ := ha
  unfold rat
  rw [if_neg h0]
  unfold nrs
  by_cases h : 0 < a
  · obtain ⟨N, e1, _, n1, n2⟩ := quot_near h (by omega)
    rw [pwq_whole_pos h (by decide), e1, if_neg (by omega)]
    obtain ⟨r1, r2⟩ := nr_is (65536 * 65536) a h
    generalize nr (65536 * 65536) a = R at *
    rw [Int.mul_comm a R] at r1 r2
    have c1 : (N - R) * a ≤ 1 * a := by rw [Int.sub_mul]; omega
    have c2 : (R - N) * a ≤ 1 * a := by rw [Int.sub_mul]; omega
    have d1 := Int.le_of_mul_le_mul_right c1 h
    have d2 := Int.le_of_mul_le_mul_right c2 h
    exact held_near (by omega) (by omega)
  · have hn : a < 0 := by omega
    obtain ⟨N, _, e1, n1, n2⟩ := quot_near (x := -a) (by omega) (by omega)
    rw [pwq_whole_neg hn (by decide) (by decide), if_neg (by decide), e1, if_pos hn]
    obtain ⟨r1, r2⟩ := nr_is (-(65536 * 65536)) (-a) (by omega)
    generalize nr (-(65536 * 65536)) (-a) = R at *
    generalize ht : -a = t at *
    have ht0 : 0 < t := by omega
    rw [Int.mul_comm t R] at r1 r2
    have c2 : (-N - R) * t ≤ 1 * t := by rw [Int.sub_mul, Int.neg_mul]; omega
    have d2 := Int.le_of_mul_le_mul_right c2 ht0
    have d1 : N + R ≤ 1 := by
      by_cases g : t = 1
      · subst g; omega
      · have c1 : (N + R) * t < 2 * t := by rw [Int.add_mul]; omega
        have := Int.lt_of_mul_lt_mul_right c1 (Int.le_of_lt ht0)
        omega
    exact held_near (by omega) (by omega)
theorem square_fits {a : Int} (ha : In32 a) (h0 : ¬ a = 0) : pwq a 131072 ≤ held (nr (a * a) 65536) + 1 ∧ held (nr (a * a) 65536) ≤ pwq a 131072 + 1 := by
  obtain ⟨a1, a2⟩ := ha
  by_cases h : 0 < a
  · rw [pwq_whole_pos h (by decide)]
    exact square_near h (by omega)
  · rw [pwq_whole_neg (by omega) (by decide) (by decide), if_pos (by decide), show a * a = -a * -a by rw [Int.neg_mul_neg]]
    exact square_near (by omega) (by omega)
theorem held_in32 (x : Int) : -2147483648 ≤ held x ∧ held x ≤ 2147483647 := held_in x
theorem pwq_in (a n : Int) : -2147483648 ≤ pwq a n ∧ pwq a n ≤ 2147483647 := by
  unfold pwq
  split
  · omega
  · split
    · omega
    · split
      · exact held_in _
      · split
        · split <;> exact held_in _
        · omega
theorem held_turn {T : Int} (h0 : 0 ≤ T) (h1 : T ≤ 2147483648) : (held (-T) = -held T ∧ held T ≤ 2147483647 ∧ 0 ≤ held T) ∧ (T ≤ 2147483647) ∨ (held T = 2147483647 ∧ held (-T) = -2147483648) := by
  by_cases g : T ≤ 2147483647
  · left
    rw [held_id ⟨by omega, by omega⟩, held_id ⟨by omega, by omega⟩]
    exact ⟨⟨rfl, g, h0⟩, g⟩
  · right
    rw [show T = 2147483648 by omega]
    decide
theorem psquares_law (a k : Int) (ha : In32 a) (hk : -128 ≤ k ∧ k < 128) (w : World) (L : Laid w) : Calls Tryd.prog 8 #[.int .i32 a, .int .i8 k] w fun e w' => e = .returned (.bool true) ∧ Ext w w' := by
  have LV := fun v E => lives_any w L v E
  by_cases a0 : a = 0
  · subst a0; exact psq_zero k w LV
  · have P1 := fun v E => pow_any a 131072 ha ⟨by decide, by decide⟩ w L v E
    have P2 := fun v E => pow_any a (-65536) ha ⟨by decide, by decide⟩ w L v E
    have RA := fun w => ratio_any 65536 a ⟨by decide, by decide⟩ (in32_64 ha) w
    have MU := fun w => fmul_any a a ha ha w
    rw [pwe_whole a _ (by decide) (by decide) a0] at P1
    rw [pwe_whole a _ (by decide) (by decide) a0] at P2
    rw [show rate a = 0 by unfold rate; rw [if_neg a0]] at RA
    obtain ⟨d0, d1⟩ := square_fits ha a0
    obtain ⟨c0, c1⟩ := quot_fits ha a0
    have i1 := pwq_in a 131072
    have i2 := pwq_in a (-65536)
    have i3 : -2147483648 ≤ rat 65536 a ∧ rat 65536 a ≤ 2147483647 := by unfold rat; rw [if_neg a0]; exact held_in _
    have i4 := held_in32 (nr (a * a) 65536)
    by_cases hl : a < -2147483647
    · exact psq_least a k _ _ _ _ a0 ha.1 ha.2 hk.1 hk.2 i1.1 i1.2 i2.1 i2.2 i3.1 i3.2 i4.1 i4.2 (by omega) (by omega) (by omega) (by omega) w P1 P2 RA MU hl LV
    · have hn : In32 (k * 65536) := by unfold In32; omega
      have ha' : In32 (-a) := by unfold In32 at *; omega
      have P3 := fun v E => pow_any a (k * 65536) ha hn w L v E
      have P4 := fun v E => pow_any (-a) (k * 65536) ha' hn w L v E
      by_cases hk0 : k = 0
      · subst hk0
        rw [show pwq a (0 * 65536) = 65536 by unfold pwq; rw [if_pos (by decide)], show pwe a (0 * 65536) = 0 by unfold pwe; rw [if_pos (by decide)]] at P3
        rw [show pwq (-a) (0 * 65536) = 65536 by unfold pwq; rw [if_pos (by decide)], show pwe (-a) (0 * 65536) = 0 by unfold pwe; rw [if_pos (by decide)]] at P4
        exact psq_even a 0 _ _ _ _ a0 ha.1 ha.2 hk.1 hk.2 i1.1 i1.2 i2.1 i2.2 i3.1 i3.2 i4.1 i4.2 (by omega) (by omega) (by omega) (by omega) w P1 P2 RA MU _ hl P3 P4 (by decide) LV
      · have n0 : ¬ k * 65536 = 0 := by omega
        rw [pwe_whole a _ (by omega) n0 a0] at P3
        rw [pwe_whole (-a) _ (by omega) n0 (by omega)] at P4
        have hd : k * 65536 / 65536 = k := by omega
        have T := two_in (nr (k * 65536 * LL a.toNat) 16777216)
        have T' := two_in (nr (k * 65536 * LL (-a).toNat) 16777216)
        have te := tmod2 k
        by_cases h2 : k % 2 = 0
        · rw [decide_eq_true h2] at te
          by_cases hp : 0 < a
          · rw [pwq_whole_pos hp n0] at P3
            rw [pwq_whole_neg (by omega) n0 (by omega), hd, if_pos h2, Int.neg_neg] at P4
            exact psq_even a k _ _ _ _ a0 ha.1 ha.2 hk.1 hk.2 i1.1 i1.2 i2.1 i2.2 i3.1 i3.2 i4.1 i4.2 (by omega) (by omega) (by omega) (by omega) w P1 P2 RA MU _ hl P3 P4 te LV
          · rw [pwq_whole_neg (by omega) n0 (by omega), hd, if_pos h2] at P3
            rw [pwq_whole_pos (by omega) n0] at P4
            exact psq_even a k _ _ _ _ a0 ha.1 ha.2 hk.1 hk.2 i1.1 i1.2 i2.1 i2.2 i3.1 i3.2 i4.1 i4.2 (by omega) (by omega) (by omega) (by omega) w P1 P2 RA MU _ hl P3 P4 te LV
        · rw [decide_eq_false h2] at te
          by_cases hp : 0 < a
          · rw [pwq_whole_pos hp n0] at P3
            rw [pwq_whole_neg (by omega) n0 (by omega), hd, if_neg h2, Int.neg_neg] at P4
            rcases held_turn (T := rsd a (k * 65536)) T.1 T.2 with ⟨⟨t1, t2, t3⟩, _⟩ | ⟨t1, t2⟩
            · rw [t1] at P4
              exact psq_odd a k _ _ _ _ a0 ha.1 ha.2 hk.1 hk.2 i1.1 i1.2 i2.1 i2.2 i3.1 i3.2 i4.1 i4.2 (by omega) (by omega) (by omega) (by omega) w P1 P2 RA MU _ _ hl P3 P4 te (by rw [Int.neg_neg]; exact wrap_in32 ⟨by omega, by omega⟩) LV
            · rw [t1] at P3
              rw [t2] at P4
              exact psq_most a k _ _ _ _ a0 ha.1 ha.2 hk.1 hk.2 i1.1 i1.2 i2.1 i2.2 i3.1 i3.2 i4.1 i4.2 (by omega) (by omega) (by omega) (by omega) w P1 P2 RA MU hl P3 P4 te LV
          · rw [pwq_whole_neg (by omega) n0 (by omega), hd, if_neg h2] at P3
            rw [pwq_whole_pos (by omega) n0] at P4
            rcases held_turn (T := rsd (-a) (k * 65536)) T'.1 T'.2 with ⟨⟨t1, t2, t3⟩, _⟩ | ⟨t1, t2⟩
            · rw [t1] at P3
              exact psq_odd a k _ _ _ _ a0 ha.1 ha.2 hk.1 hk.2 i1.1 i1.2 i2.1 i2.2 i3.1 i3.2 i4.1 i4.2 (by omega) (by omega) (by omega) (by omega) w P1 P2 RA MU _ _ hl P3 P4 te (wrap_in32 ⟨by omega, by omega⟩) LV
            · rw [t2] at P3
              rw [t1] at P4
              exact psq_low a k _ _ _ _ a0 ha.1 ha.2 hk.1 hk.2 i1.1 i1.2 i2.1 i2.2 i3.1 i3.2 i4.1 i4.2 (by omega) (by omega) (by omega) (by omega) w P1 P2 RA MU hl P3 P4 te LV
end Go.Proofs.YtbkifcfienhkaaaDoor
