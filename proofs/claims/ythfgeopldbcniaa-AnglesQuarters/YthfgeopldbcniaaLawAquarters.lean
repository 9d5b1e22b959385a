/- The walk of the given function AnglesQuarters: it returns true at every fix and every number of 8 bits. -/
import Derived.Test.YthfgeopldbcniaaAngF
namespace Go.Proofs.Ythfgeopldbcniaa
open Go.RowKit Go.BigFrame
set_option linter.unusedSimpArgs false
set_option linter.unusedVariables false

set_option maxRecDepth 20000 in
set_option maxHeartbeats 8000000 in
theorem aquart_far0 (a k q : Int) (k0 : -128 ≤ k) (k1 : k ≤ 127) (hq : k * 90 * 65536 = q) (q0 : -2147483648 ≤ q) (q1 : q ≤ 2147483647) (hj : k % 4 = 0) (h : 2123890687 < a ∨ ¬ 2123890687 < a ∧ a < -2123890688)
    (S1 : ∀ w, Calls Try.prog 11 #[.int .i32 (q)] w fun e w' => e = .returned (.int .i32 (0)) ∧ Ext w w') (C1 : ∀ w, Calls Try.prog 13 #[.int .i32 (q)] w fun e w' => e = .returned (.int .i32 (65536)) ∧ Ext w w') (w : World) :
    Calls Try.prog 4 #[.int .i32 a, .int .i8 k] w fun e w' => e = .returned (.bool true) ∧ Ext w w' := by
  have EX := Ext.refl w
  rcases h with h | ⟨h, h2⟩
  all_goals
    go_enter Try.func4, Try.ntmps4
    go_upto_region 4 with (first | (go_at_call 11; with_reducible refine (S1 _).mono ?_; rintro e v1 ⟨rfl, hb⟩; replace EX := Ext.trans EX hb; clear hb) | (go_at_call 13; with_reducible refine (C1 _).mono ?_; rintro e v1 ⟨rfl, hb⟩; replace EX := Ext.trans EX hb; clear hb))
    go_upto_region 6 with fail
    refine rebase (G := fun w' => Code.wp _ _ _ _ w') _ (fun v1 => Ext w v1) (by repeat (first | with_reducible exact EX | with_reducible refine Ext.alloc ?_ _ | with_reducible refine Ext.drew ?_ | with_reducible refine Ext.drewN ?_ _ | with_reducible refine Ext.setCell ?_ (by first | (simp; done) | omega | (dsimp only; omega)) _)) ?_; clear EX; intro v1 EX
    go_wp2_with (first | (go_at_call 15; with_reducible refine (lives_any _).mono ?_; rintro e v1 ⟨rfl, hb⟩; replace EX := Ext.trans EX hb; clear hb))
    go_ret
    exact ⟨rfl, EX⟩
set_option maxRecDepth 20000 in
set_option maxHeartbeats 8000000 in
theorem aquart_all0 (a k q x y : Int) (k0 : -128 ≤ k) (k1 : k ≤ 127) (hq : k * 90 * 65536 = q) (q0 : -2147483648 ≤ q) (q1 : q ≤ 2147483647) (hj : k % 4 = 0) (a0 : -2123890688 ≤ a) (a1 : a ≤ 2123890687) (h1 : ¬ 2123890687 < a) (h2 : ¬ a < -2123890688) (y0 : -65536 ≤ y) (y1 : y ≤ 65536)
    (S1 : ∀ w, Calls Try.prog 11 #[.int .i32 (q)] w fun e w' => e = .returned (.int .i32 (0)) ∧ Ext w w') (C1 : ∀ w, Calls Try.prog 13 #[.int .i32 (q)] w fun e w' => e = .returned (.int .i32 (65536)) ∧ Ext w w')
    (S2 : ∀ w, Calls Try.prog 11 #[.int .i32 (a)] w fun e w' => e = .returned (.int .i32 (y)) ∧ Ext w w') (S3 : ∀ w, Calls Try.prog 11 #[.int .i32 (a + 5898240)] w fun e w' => e = .returned (.int .i32 (x)) ∧ Ext w w') (S4 : ∀ w, Calls Try.prog 11 #[.int .i32 (a + 23592960)] w fun e w' => e = .returned (.int .i32 (y)) ∧ Ext w w') (C2 : ∀ w, Calls Try.prog 13 #[.int .i32 (a)] w fun e w' => e = .returned (.int .i32 (x)) ∧ Ext w w') (C3 : ∀ w, Calls Try.prog 13 #[.int .i32 (a + 5898240)] w fun e w' => e = .returned (.int .i32 (-y)) ∧ Ext w w') (C4 : ∀ w, Calls Try.prog 13 #[.int .i32 (a - 23592960)] w fun e w' => e = .returned (.int .i32 (x)) ∧ Ext w w') (w : World) :
    Calls Try.prog 4 #[.int .i32 a, .int .i8 k] w fun e w' => e = .returned (.bool true) ∧ Ext w w' := by
  have EX := Ext.refl w
  go_enter Try.func4, Try.ntmps4
  go_upto_region 4 with (first | (go_at_call 11; with_reducible refine (S1 _).mono ?_; rintro e v1 ⟨rfl, hb⟩; replace EX := Ext.trans EX hb; clear hb) | (go_at_call 13; with_reducible refine (C1 _).mono ?_; rintro e v1 ⟨rfl, hb⟩; replace EX := Ext.trans EX hb; clear hb))
  go_upto_region 6 with fail
  refine rebase (G := fun w' => Code.wp _ _ _ _ w') _ (fun v1 => Ext w v1) (by repeat (first | with_reducible exact EX | with_reducible refine Ext.alloc ?_ _ | with_reducible refine Ext.drew ?_ | with_reducible refine Ext.drewN ?_ _ | with_reducible refine Ext.setCell ?_ (by first | (simp; done) | omega | (dsimp only; omega)) _)) ?_; clear EX; intro v1 EX
  go_wp2_with (first | (go_at_call 11; with_reducible refine (S2 _).mono ?_; rintro e v1 ⟨rfl, hb⟩; replace EX := Ext.trans EX hb; clear hb) | (go_at_call 11; with_reducible refine (S3 _).mono ?_; rintro e v1 ⟨rfl, hb⟩; replace EX := Ext.trans EX hb; clear hb) | (go_at_call 11; with_reducible refine (S4 _).mono ?_; rintro e v1 ⟨rfl, hb⟩; replace EX := Ext.trans EX hb; clear hb) | (go_at_call 13; with_reducible refine (C2 _).mono ?_; rintro e v1 ⟨rfl, hb⟩; replace EX := Ext.trans EX hb; clear hb) | (go_at_call 13; with_reducible refine (C3 _).mono ?_; rintro e v1 ⟨rfl, hb⟩; replace EX := Ext.trans EX hb; clear hb) | (go_at_call 13; with_reducible refine (C4 _).mono ?_; rintro e v1 ⟨rfl, hb⟩; replace EX := Ext.trans EX hb; clear hb) | (go_at_call 15; with_reducible refine (lives_any _).mono ?_; rintro e v1 ⟨rfl, hb⟩; replace EX := Ext.trans EX hb; clear hb))
  go_ret
  exact ⟨rfl, EX⟩
set_option maxRecDepth 20000 in
set_option maxHeartbeats 8000000 in
theorem aquart_far1 (a k q : Int) (k0 : -128 ≤ k) (k1 : k ≤ 127) (hq : k * 90 * 65536 = q) (q0 : -2147483648 ≤ q) (q1 : q ≤ 2147483647) (hj : k % 4 = 1) (h : 2123890687 < a ∨ ¬ 2123890687 < a ∧ a < -2123890688)
    (S1 : ∀ w, Calls Try.prog 11 #[.int .i32 (q)] w fun e w' => e = .returned (.int .i32 (65536)) ∧ Ext w w') (C1 : ∀ w, Calls Try.prog 13 #[.int .i32 (q)] w fun e w' => e = .returned (.int .i32 (0)) ∧ Ext w w') (w : World) :
    Calls Try.prog 4 #[.int .i32 a, .int .i8 k] w fun e w' => e = .returned (.bool true) ∧ Ext w w' := by
  have EX := Ext.refl w
  rcases h with h | ⟨h, h2⟩
  all_goals
    go_enter Try.func4, Try.ntmps4
    go_upto_region 4 with (first | (go_at_call 11; with_reducible refine (S1 _).mono ?_; rintro e v1 ⟨rfl, hb⟩; replace EX := Ext.trans EX hb; clear hb) | (go_at_call 13; with_reducible refine (C1 _).mono ?_; rintro e v1 ⟨rfl, hb⟩; replace EX := Ext.trans EX hb; clear hb))
    go_upto_region 6 with fail
    refine rebase (G := fun w' => Code.wp _ _ _ _ w') _ (fun v1 => Ext w v1) (by repeat (first | with_reducible exact EX | with_reducible refine Ext.alloc ?_ _ | with_reducible refine Ext.drew ?_ | with_reducible refine Ext.drewN ?_ _ | with_reducible refine Ext.setCell ?_ (by first | (simp; done) | omega | (dsimp only; omega)) _)) ?_; clear EX; intro v1 EX
    go_wp2_with (first | (go_at_call 15; with_reducible refine (lives_any _).mono ?_; rintro e v1 ⟨rfl, hb⟩; replace EX := Ext.trans EX hb; clear hb))
    go_ret
    exact ⟨rfl, EX⟩
set_option maxRecDepth 20000 in
set_option maxHeartbeats 8000000 in
theorem aquart_all1 (a k q x y : Int) (k0 : -128 ≤ k) (k1 : k ≤ 127) (hq : k * 90 * 65536 = q) (q0 : -2147483648 ≤ q) (q1 : q ≤ 2147483647) (hj : k % 4 = 1) (a0 : -2123890688 ≤ a) (a1 : a ≤ 2123890687) (h1 : ¬ 2123890687 < a) (h2 : ¬ a < -2123890688) (y0 : -65536 ≤ y) (y1 : y ≤ 65536)
    (S1 : ∀ w, Calls Try.prog 11 #[.int .i32 (q)] w fun e w' => e = .returned (.int .i32 (65536)) ∧ Ext w w') (C1 : ∀ w, Calls Try.prog 13 #[.int .i32 (q)] w fun e w' => e = .returned (.int .i32 (0)) ∧ Ext w w')
    (S2 : ∀ w, Calls Try.prog 11 #[.int .i32 (a)] w fun e w' => e = .returned (.int .i32 (y)) ∧ Ext w w') (S3 : ∀ w, Calls Try.prog 11 #[.int .i32 (a + 5898240)] w fun e w' => e = .returned (.int .i32 (x)) ∧ Ext w w') (S4 : ∀ w, Calls Try.prog 11 #[.int .i32 (a + 23592960)] w fun e w' => e = .returned (.int .i32 (y)) ∧ Ext w w') (C2 : ∀ w, Calls Try.prog 13 #[.int .i32 (a)] w fun e w' => e = .returned (.int .i32 (x)) ∧ Ext w w') (C3 : ∀ w, Calls Try.prog 13 #[.int .i32 (a + 5898240)] w fun e w' => e = .returned (.int .i32 (-y)) ∧ Ext w w') (C4 : ∀ w, Calls Try.prog 13 #[.int .i32 (a - 23592960)] w fun e w' => e = .returned (.int .i32 (x)) ∧ Ext w w') (w : World) :
    Calls Try.prog 4 #[.int .i32 a, .int .i8 k] w fun e w' => e = .returned (.bool true) ∧ Ext w w' := by
  have EX := Ext.refl w
  go_enter Try.func4, Try.ntmps4
  go_upto_region 4 with (first | (go_at_call 11; with_reducible refine (S1 _).mono ?_; rintro e v1 ⟨rfl, hb⟩; replace EX := Ext.trans EX hb; clear hb) | (go_at_call 13; with_reducible refine (C1 _).mono ?_; rintro e v1 ⟨rfl, hb⟩; replace EX := Ext.trans EX hb; clear hb))
  go_upto_region 6 with fail
  refine rebase (G := fun w' => Code.wp _ _ _ _ w') _ (fun v1 => Ext w v1) (by repeat (first | with_reducible exact EX | with_reducible refine Ext.alloc ?_ _ | with_reducible refine Ext.drew ?_ | with_reducible refine Ext.drewN ?_ _ | with_reducible refine Ext.setCell ?_ (by first | (simp; done) | omega | (dsimp only; omega)) _)) ?_; clear EX; intro v1 EX
  go_wp2_with (first | (go_at_call 11; with_reducible refine (S2 _).mono ?_; rintro e v1 ⟨rfl, hb⟩; replace EX := Ext.trans EX hb; clear hb) | (go_at_call 11; with_reducible refine (S3 _).mono ?_; rintro e v1 ⟨rfl, hb⟩; replace EX := Ext.trans EX hb; clear hb) | (go_at_call 11; with_reducible refine (S4 _).mono ?_; rintro e v1 ⟨rfl, hb⟩; replace EX := Ext.trans EX hb; clear hb) | (go_at_call 13; with_reducible refine (C2 _).mono ?_; rintro e v1 ⟨rfl, hb⟩; replace EX := Ext.trans EX hb; clear hb) | (go_at_call 13; with_reducible refine (C3 _).mono ?_; rintro e v1 ⟨rfl, hb⟩; replace EX := Ext.trans EX hb; clear hb) | (go_at_call 13; with_reducible refine (C4 _).mono ?_; rintro e v1 ⟨rfl, hb⟩; replace EX := Ext.trans EX hb; clear hb) | (go_at_call 15; with_reducible refine (lives_any _).mono ?_; rintro e v1 ⟨rfl, hb⟩; replace EX := Ext.trans EX hb; clear hb))
  go_ret
  exact ⟨rfl, EX⟩
set_option maxRecDepth 20000 in
set_option maxHeartbeats 8000000 in
theorem aquart_far2 (a k q : Int) (k0 : -128 ≤ k) (k1 : k ≤ 127) (hq : k * 90 * 65536 = q) (q0 : -2147483648 ≤ q) (q1 : q ≤ 2147483647) (hj : k % 4 = 2) (h : 2123890687 < a ∨ ¬ 2123890687 < a ∧ a < -2123890688)
    (S1 : ∀ w, Calls Try.prog 11 #[.int .i32 (q)] w fun e w' => e = .returned (.int .i32 (0)) ∧ Ext w w') (C1 : ∀ w, Calls Try.prog 13 #[.int .i32 (q)] w fun e w' => e = .returned (.int .i32 (-65536)) ∧ Ext w w') (w : World) :
    Calls Try.prog 4 #[.int .i32 a, .int .i8 k] w fun e w' => e = .returned (.bool true) ∧ Ext w w' := by
  have EX := Ext.refl w
  rcases h with h | ⟨h, h2⟩
  all_goals
    go_enter Try.func4, Try.ntmps4
    go_upto_region 4 with (first | (go_at_call 11; with_reducible refine (S1 _).mono ?_; rintro e v1 ⟨rfl, hb⟩; replace EX := Ext.trans EX hb; clear hb) | (go_at_call 13; with_reducible refine (C1 _).mono ?_; rintro e v1 ⟨rfl, hb⟩; replace EX := Ext.trans EX hb; clear hb))
    go_upto_region 6 with fail
    refine rebase (G := fun w' => Code.wp _ _ _ _ w') _ (fun v1 => Ext w v1) (by repeat (first | with_reducible exact EX | with_reducible refine Ext.alloc ?_ _ | with_reducible refine Ext.drew ?_ | with_reducible refine Ext.drewN ?_ _ | with_reducible refine Ext.setCell ?_ (by first | (simp; done) | omega | (dsimp only; omega)) _)) ?_; clear EX; intro v1 EX
    go_wp2_with (first | (go_at_call 15; with_reducible refine (lives_any _).mono ?_; rintro e v1 ⟨rfl, hb⟩; replace EX := Ext.trans EX hb; clear hb))
    go_ret
    exact ⟨rfl, EX⟩
set_option maxRecDepth 20000 in
set_option maxHeartbeats 8000000 in
theorem aquart_all2 (a k q x y : Int) (k0 : -128 ≤ k) (k1 : k ≤ 127) (hq : k * 90 * 65536 = q) (q0 : -2147483648 ≤ q) (q1 : q ≤ 2147483647) (hj : k % 4 = 2) (a0 : -2123890688 ≤ a) (a1 : a ≤ 2123890687) (h1 : ¬ 2123890687 < a) (h2 : ¬ a < -2123890688) (y0 : -65536 ≤ y) (y1 : y ≤ 65536)
    (S1 : ∀ w, Calls Try.prog 11 #[.int .i32 (q)] w fun e w' => e = .returned (.int .i32 (0)) ∧ Ext w w') (C1 : ∀ w, Calls Try.prog 13 #[.int .i32 (q)] w fun e w' => e = .returned (.int .i32 (-65536)) ∧ Ext w w')
    (S2 : ∀ w, Calls Try.prog 11 #[.int .i32 (a)] w fun e w' => e = .returned (.int .i32 (y)) ∧ Ext w w') (S3 : ∀ w, Calls Try.prog 11 #[.int .i32 (a + 5898240)] w fun e w' => e = .returned (.int .i32 (x)) ∧ Ext w w') (S4 : ∀ w, Calls Try.prog 11 #[.int .i32 (a + 23592960)] w fun e w' => e = .returned (.int .i32 (y)) ∧ Ext w w') (C2 : ∀ w, Calls Try.prog 13 #[.int .i32 (a)] w fun e w' => e = .returned (.int .i32 (x)) ∧ Ext w w') (C3 : ∀ w, Calls Try.prog 13 #[.int .i32 (a + 5898240)] w fun e w' => e = .returned (.int .i32 (-y)) ∧ Ext w w') (C4 : ∀ w, Calls Try.prog 13 #[.int .i32 (a - 23592960)] w fun e w' => e = .returned (.int .i32 (x)) ∧ Ext w w') (w : World) :
    Calls Try.prog 4 #[.int .i32 a, .int .i8 k] w fun e w' => e = .returned (.bool true) ∧ Ext w w' := by
  have EX := Ext.refl w
  go_enter Try.func4, Try.ntmps4
  go_upto_region 4 with (first | (go_at_call 11; with_reducible refine (S1 _).mono ?_; rintro e v1 ⟨rfl, hb⟩; replace EX := Ext.trans EX hb; clear hb) | (go_at_call 13; with_reducible refine (C1 _).mono ?_; rintro e v1 ⟨rfl, hb⟩; replace EX := Ext.trans EX hb; clear hb))
  go_upto_region 6 with fail
  refine rebase (G := fun w' => Code.wp _ _ _ _ w') _ (fun v1 => Ext w v1) (by repeat (first | with_reducible exact EX | with_reducible refine Ext.alloc ?_ _ | with_reducible refine Ext.drew ?_ | with_reducible refine Ext.drewN ?_ _ | with_reducible refine Ext.setCell ?_ (by first | (simp; done) | omega | (dsimp only; omega)) _)) ?_; clear EX; intro v1 EX
  go_wp2_with (first | (go_at_call 11; with_reducible refine (S2 _).mono ?_; rintro e v1 ⟨rfl, hb⟩; replace EX := Ext.trans EX hb; clear hb) | (go_at_call 11; with_reducible refine (S3 _).mono ?_; rintro e v1 ⟨rfl, hb⟩; replace EX := Ext.trans EX hb; clear hb) | (go_at_call 11; with_reducible refine (S4 _).mono ?_; rintro e v1 ⟨rfl, hb⟩; replace EX := Ext.trans EX hb; clear hb) | (go_at_call 13; with_reducible refine (C2 _).mono ?_; rintro e v1 ⟨rfl, hb⟩; replace EX := Ext.trans EX hb; clear hb) | (go_at_call 13; with_reducible refine (C3 _).mono ?_; rintro e v1 ⟨rfl, hb⟩; replace EX := Ext.trans EX hb; clear hb) | (go_at_call 13; with_reducible refine (C4 _).mono ?_; rintro e v1 ⟨rfl, hb⟩; replace EX := Ext.trans EX hb; clear hb) | (go_at_call 15; with_reducible refine (lives_any _).mono ?_; rintro e v1 ⟨rfl, hb⟩; replace EX := Ext.trans EX hb; clear hb))
  go_ret
  exact ⟨rfl, EX⟩
set_option maxRecDepth 20000 in
set_option maxHeartbeats 8000000 in
theorem aquart_far3 (a k q : Int) (k0 : -128 ≤ k) (k1 : k ≤ 127) (hq : k * 90 * 65536 = q) (q0 : -2147483648 ≤ q) (q1 : q ≤ 2147483647) (hj : k % 4 = 3) (h : 2123890687 < a ∨ ¬ 2123890687 < a ∧ a < -2123890688)
    (S1 : ∀ w, Calls Try.prog 11 #[.int .i32 (q)] w fun e w' => e = .returned (.int .i32 (-65536)) ∧ Ext w w') (C1 : ∀ w, Calls Try.prog 13 #[.int .i32 (q)] w fun e w' => e = .returned (.int .i32 (0)) ∧ Ext w w') (w : World) :
    Calls Try.prog 4 #[.int .i32 a, .int .i8 k] w fun e w' => e = .returned (.bool true) ∧ Ext w w' := by
  have EX := Ext.refl w
  rcases h with h | ⟨h, h2⟩
  all_goals
    go_enter Try.func4, Try.ntmps4
    go_upto_region 4 with (first | (go_at_call 11; with_reducible refine (S1 _).mono ?_; rintro e v1 ⟨rfl, hb⟩; replace EX := Ext.trans EX hb; clear hb) | (go_at_call 13; with_reducible refine (C1 _).mono ?_; rintro e v1 ⟨rfl, hb⟩; replace EX := Ext.trans EX hb; clear hb))
    go_upto_region 6 with fail
    refine rebase (G := fun w' => Code.wp _ _ _ _ w') _ (fun v1 => Ext w v1) (by repeat (first | with_reducible exact EX | with_reducible refine Ext.alloc ?_ _ | with_reducible refine Ext.drew ?_ | with_reducible refine Ext.drewN ?_ _ | with_reducible refine Ext.setCell ?_ (by first | (simp; done) | omega | (dsimp only; omega)) _)) ?_; clear EX; intro v1 EX
    go_wp2_with (first | (go_at_call 15; with_reducible refine (lives_any _).mono ?_; rintro e v1 ⟨rfl, hb⟩; replace EX := Ext.trans EX hb; clear hb))
    go_ret
    exact ⟨rfl, EX⟩
set_option maxRecDepth 20000 in
set_option maxHeartbeats 8000000 in
theorem aquart_all3 (a k q x y : Int) (k0 : -128 ≤ k) (k1 : k ≤ 127) (hq : k * 90 * 65536 = q) (q0 : -2147483648 ≤ q) (q1 : q ≤ 2147483647) (hj : k % 4 = 3) (a0 : -2123890688 ≤ a) (a1 : a ≤ 2123890687) (h1 : ¬ 2123890687 < a) (h2 : ¬ a < -2123890688) (y0 : -65536 ≤ y) (y1 : y ≤ 65536)
    (S1 : ∀ w, Calls Try.prog 11 #[.int .i32 (q)] w fun e w' => e = .returned (.int .i32 (-65536)) ∧ Ext w w') (C1 : ∀ w, Calls Try.prog 13 #[.int .i32 (q)] w fun e w' => e = .returned (.int .i32 (0)) ∧ Ext w w')
    (S2 : ∀ w, Calls Try.prog 11 #[.int .i32 (a)] w fun e w' => e = .returned (.int .i32 (y)) ∧ Ext w w') (S3 : ∀ w, Calls Try.prog 11 #[.int .i32 (a + 5898240)] w fun e w' => e = .returned (.int .i32 (x)) ∧ Ext w w') (S4 : ∀ w, Calls Try.prog 11 #[.int .i32 (a + 23592960)] w fun e w' => e = .returned (.int .i32 (y)) ∧ Ext w w') (C2 : ∀ w, Calls Try.prog 13 #[.int .i32 (a)] w fun e w' => e = .returned (.int .i32 (x)) ∧ Ext w w') (C3 : ∀ w, Calls Try.prog 13 #[.int .i32 (a + 5898240)] w fun e w' => e = .returned (.int .i32 (-y)) ∧ Ext w w') (C4 : ∀ w, Calls Try.prog 13 #[.int .i32 (a - 23592960)] w fun e w' => e = .returned (.int .i32 (x)) ∧ Ext w w') (w : World) :
    Calls Try.prog 4 #[.int .i32 a, .int .i8 k] w fun e w' => e = .returned (.bool true) ∧ Ext w w' := by
  have EX := Ext.refl w
  go_enter Try.func4, Try.ntmps4
  go_upto_region 4 with (first | (go_at_call 11; with_reducible refine (S1 _).mono ?_; rintro e v1 ⟨rfl, hb⟩; replace EX := Ext.trans EX hb; clear hb) | (go_at_call 13; with_reducible refine (C1 _).mono ?_; rintro e v1 ⟨rfl, hb⟩; replace EX := Ext.trans EX hb; clear hb))
  go_upto_region 6 with fail
  refine rebase (G := fun w' => Code.wp _ _ _ _ w') _ (fun v1 => Ext w v1) (by repeat (first | with_reducible exact EX | with_reducible refine Ext.alloc ?_ _ | with_reducible refine Ext.drew ?_ | with_reducible refine Ext.drewN ?_ _ | with_reducible refine Ext.setCell ?_ (by first | (simp; done) | omega | (dsimp only; omega)) _)) ?_; clear EX; intro v1 EX
  go_wp2_with (first | (go_at_call 11; with_reducible refine (S2 _).mono ?_; rintro e v1 ⟨rfl, hb⟩; replace EX := Ext.trans EX hb; clear hb) | (go_at_call 11; with_reducible refine (S3 _).mono ?_; rintro e v1 ⟨rfl, hb⟩; replace EX := Ext.trans EX hb; clear hb) | (go_at_call 11; with_reducible refine (S4 _).mono ?_; rintro e v1 ⟨rfl, hb⟩; replace EX := Ext.trans EX hb; clear hb) | (go_at_call 13; with_reducible refine (C2 _).mono ?_; rintro e v1 ⟨rfl, hb⟩; replace EX := Ext.trans EX hb; clear hb) | (go_at_call 13; with_reducible refine (C3 _).mono ?_; rintro e v1 ⟨rfl, hb⟩; replace EX := Ext.trans EX hb; clear hb) | (go_at_call 13; with_reducible refine (C4 _).mono ?_; rintro e v1 ⟨rfl, hb⟩; replace EX := Ext.trans EX hb; clear hb) | (go_at_call 15; with_reducible refine (lives_any _).mono ?_; rintro e v1 ⟨rfl, hb⟩; replace EX := Ext.trans EX hb; clear hb))
  go_ret
  exact ⟨rfl, EX⟩
theorem aquarters_law (a k : Int) (ha : -2147483648 ≤ a ∧ a ≤ 2147483647) (hk : -128 ≤ k ∧ k ≤ 127) (w : World) : Calls Try.prog 4 #[.int .i32 a, .int .i8 k] w fun e w' => e = .returned (.bool true) ∧ Ext w w' := by
  have e := csa_whole k
  have S1 := fun w => sin_any (k * 5898240) (by omega) (by omega) w
  have C1 := fun w => cos_any (k * 5898240) (by omega) (by omega) w
  rw [e] at S1 C1
  have hq : k * 90 * 65536 = k * 5898240 := by omega
  have hj : k % 4 = 0 ∨ k % 4 = 1 ∨ k % 4 = 2 ∨ k % 4 = 3 := by omega
  by_cases h : 2123890687 < a ∨ ¬ 2123890687 < a ∧ a < -2123890688
  · rcases hj with hj | hj | hj | hj <;> rw [hj] at S1 C1
    · exact aquart_far0 a k _ hk.1 hk.2 hq (by omega) (by omega) hj h S1 C1 w
    · exact aquart_far1 a k _ hk.1 hk.2 hq (by omega) (by omega) hj h S1 C1 w
    · exact aquart_far2 a k _ hk.1 hk.2 hq (by omega) (by omega) hj h S1 C1 w
    · exact aquart_far3 a k _ hk.1 hk.2 hq (by omega) (by omega) hj h S1 C1 w
  · have b := csa_bd a
    have S2 := fun w => sin_any a ha.1 ha.2 w
    have C2 := fun w => cos_any a ha.1 ha.2 w
    have S3 := fun w => sin_any (a + 5898240) (by omega) (by omega) w
    have C3 := fun w => cos_any (a + 5898240) (by omega) (by omega) w
    have S4 := fun w => sin_any (a + 23592960) (by omega) (by omega) w
    have C4 := fun w => cos_any (a - 23592960) (by omega) (by omega) w
    rw [csa_quarter] at S3 C3
    rw [csa_round] at S4
    rw [csa_back] at C4
    generalize csa a = z at *
    rcases hj with hj | hj | hj | hj <;> rw [hj] at S1 C1
    · exact aquart_all0 a k _ z.1 z.2 hk.1 hk.2 hq (by omega) (by omega) hj (by omega) (by omega) (by omega) (by omega) b.2.2.1 b.2.2.2 S1 C1 S2 S3 S4 C2 C3 C4 w
    · exact aquart_all1 a k _ z.1 z.2 hk.1 hk.2 hq (by omega) (by omega) hj (by omega) (by omega) (by omega) (by omega) b.2.2.1 b.2.2.2 S1 C1 S2 S3 S4 C2 C3 C4 w
    · exact aquart_all2 a k _ z.1 z.2 hk.1 hk.2 hq (by omega) (by omega) hj (by omega) (by omega) (by omega) (by omega) b.2.2.1 b.2.2.2 S1 C1 S2 S3 S4 C2 C3 C4 w
    · exact aquart_all3 a k _ z.1 z.2 hk.1 hk.2 hq (by omega) (by omega) hj (by omega) (by omega) (by omega) (by omega) b.2.2.1 b.2.2.2 S1 C1 S2 S3 S4 C2 C3 C4 w
end Go.Proofs.Ythfgeopldbcniaa
