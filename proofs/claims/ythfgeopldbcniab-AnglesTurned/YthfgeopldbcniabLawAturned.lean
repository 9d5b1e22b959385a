/- The walk of the given function AnglesTurned: it returns true at every two fixes and every number of 8 bits. -/
import Derived.Test.YthfgeopldbcniabAngF
namespace Go.Proofs.Ythfgeopldbcniab
open Go.RowKit Go.BigFrame
set_option linter.unusedSimpArgs false
set_option linter.unusedVariables false

theorem max_if (x y : Int) : (if y > x then y else x) = max x y := by
  rcases Int.lt_or_le x y with h | h
  · rw [if_pos h, Int.max_eq_right (Int.le_of_lt h)]
  · rw [if_neg (by omega), Int.max_eq_left h]
/-- The greatest of four. -/
@[go_sem] theorem run_max4 {P : Program} {w : World} (ts : Array TypeId) (t : TypeId) (k : IntKind) (x y z u : Int) : (Builtin.max_ ts t #[.int k x, .int k y, .int k z, .int k u]).run P w = .ok (.int k (max (max (max x y) z) u)) w := by
  rw [← max_if (max (max x y) z) u, ← max_if (max x y) z, ← max_if x y]
  simp [Builtin.max_, Builtin.max2]
set_option maxRecDepth 20000 in
set_option maxHeartbeats 4000000 in
theorem aturn_zero (k : Int) (w : World) :
    Calls Try.prog 3 #[.int .i32 0, .int .i32 0, .int .u8 k] w fun e w' => e = .returned (.bool true) ∧ Ext w w' := by
  have EX := Ext.refl w
  go_enter Try.func3, Try.ntmps3
  go_wp2_with (first | (go_at_call 5; with_reducible refine (atan_zero _).mono ?_; rintro e v1 ⟨rfl, hb⟩; replace EX := Ext.trans EX hb; clear hb) | (go_at_call 6; with_reducible refine (lives_any _).mono ?_; rintro e v1 ⟨rfl, hb⟩; replace EX := Ext.trans EX hb; clear hb))
  go_ret
  exact ⟨rfl, EX⟩
set_option maxRecDepth 20000 in
set_option maxHeartbeats 8000000 in
theorem aturn_low (y x k a : Int) (hz : (y == 0) = false ∨ (y == 0) = true ∧ (x == 0) = false) (a0 : ¬ a < 0) (a1 : ¬ 23592960 ≤ a) (h : (y == -2147483648) = true ∨ (y == -2147483648) = false ∧ (x == -2147483648) = true)
    (T1 : ∀ w, Calls Try.prog 5 #[.int .i32 y, .int .i32 x] w fun e w' => e = .returned (.tuple #[.int .i32 a, .int .i64 0]) ∧ Ext w w') (w : World) :
    Calls Try.prog 3 #[.int .i32 y, .int .i32 x, .int .u8 k] w fun e w' => e = .returned (.bool true) ∧ Ext w w' := by
  have EX := Ext.refl w
  rcases hz with z1 | ⟨z1, z2⟩ <;> rcases h with h | ⟨h, h2⟩
  all_goals
    go_enter Try.func3, Try.ntmps3
    go_wp2_with (first | (go_at_call 5; with_reducible refine (T1 _).mono ?_; rintro e v1 ⟨rfl, hb⟩; replace EX := Ext.trans EX hb; clear hb) | (go_at_call 6; with_reducible refine (lives_any _).mono ?_; rintro e v1 ⟨rfl, hb⟩; replace EX := Ext.trans EX hb; clear hb))
    go_ret
    exact ⟨rfl, EX⟩
set_option maxRecDepth 20000 in
set_option maxHeartbeats 8000000 in
theorem aturn_far (y x k a m b j f g : Int) (hz : (y == 0) = false ∨ (y == 0) = true ∧ (x == 0) = false) (a0 : ¬ a < 0) (a1 : ¬ 23592960 ≤ a) (a2 : 0 ≤ a) (a3 : a < 23592960) (h1 : (y == -2147483648) = false) (h2 : (x == -2147483648) = false) (y0 : -2147483647 ≤ y) (y1 : y ≤ 2147483647) (x0 : -2147483647 ≤ x) (x1 : x ≤ 2147483647) (hm : -y = m) (hb : Int.tmod (a + 5898240) 23592960 = b)
    (k0 : 0 ≤ k) (k1 : k ≤ 255) (hj : k % 32 = j) (j0 : 0 ≤ j) (j1 : j < 32) (hf : max y (max m (max x (-x))) = f) (f0 : 0 ≤ f) (f1 : f ≤ 2147483647) (hg : wrap64 (f * 2 ^ j.toNat) = g) (g1 : 2147483647 < g)
    (T1 : ∀ w, Calls Try.prog 5 #[.int .i32 y, .int .i32 x] w fun e w' => e = .returned (.tuple #[.int .i32 a, .int .i64 0]) ∧ Ext w w')
    (T2 : ∀ w, Calls Try.prog 5 #[.int .i32 x, .int .i32 m] w fun e w' => e = .returned (.tuple #[.int .i32 b, .int .i64 0]) ∧ Ext w w') (w : World) :
    Calls Try.prog 3 #[.int .i32 y, .int .i32 x, .int .u8 k] w fun e w' => e = .returned (.bool true) ∧ Ext w w' := by
  have EX := Ext.refl w
  rcases hz with z1 | ⟨z1, z2⟩
  all_goals
    go_enter Try.func3, Try.ntmps3
    go_wp2_with (first | (go_at_call 5; with_reducible refine (T1 _).mono ?_; rintro e v1 ⟨rfl, hb⟩; replace EX := Ext.trans EX hb; clear hb) | (go_at_call 5; with_reducible refine (T2 _).mono ?_; rintro e v1 ⟨rfl, hb⟩; replace EX := Ext.trans EX hb; clear hb) | (go_at_call 6; with_reducible refine (lives_any _).mono ?_; rintro e v1 ⟨rfl, hb⟩; replace EX := Ext.trans EX hb; clear hb))
    go_ret
    exact ⟨rfl, EX⟩
set_option maxRecDepth 20000 in
set_option maxHeartbeats 8000000 in
theorem aturn_all (y x k a m b j f g u v : Int) (hz : (y == 0) = false ∨ (y == 0) = true ∧ (x == 0) = false) (a0 : ¬ a < 0) (a1 : ¬ 23592960 ≤ a) (a2 : 0 ≤ a) (a3 : a < 23592960) (h1 : (y == -2147483648) = false) (h2 : (x == -2147483648) = false) (y0 : -2147483647 ≤ y) (y1 : y ≤ 2147483647) (x0 : -2147483647 ≤ x) (x1 : x ≤ 2147483647) (hm : -y = m) (hb : Int.tmod (a + 5898240) 23592960 = b)
    (k0 : 0 ≤ k) (k1 : k ≤ 255) (hj : k % 32 = j) (j0 : 0 ≤ j) (j1 : j < 32) (hf : max y (max m (max x (-x))) = f) (f0 : 0 ≤ f) (f1 : f ≤ 2147483647) (hg : wrap64 (f * 2 ^ j.toNat) = g) (g1 : ¬ 2147483647 < g) (hu : wrap32 (y * 2 ^ j.toNat) = u) (hv : wrap32 (x * 2 ^ j.toNat) = v)
    (T1 : ∀ w, Calls Try.prog 5 #[.int .i32 y, .int .i32 x] w fun e w' => e = .returned (.tuple #[.int .i32 a, .int .i64 0]) ∧ Ext w w')
    (T2 : ∀ w, Calls Try.prog 5 #[.int .i32 x, .int .i32 m] w fun e w' => e = .returned (.tuple #[.int .i32 b, .int .i64 0]) ∧ Ext w w')
    (L : ∀ w, Calls Try.prog 7 #[.int .i32 u, .int .i32 v, .int .i32 a] w fun e w' => e = .returned (.bool true) ∧ Ext w w') (w : World) :
    Calls Try.prog 3 #[.int .i32 y, .int .i32 x, .int .u8 k] w fun e w' => e = .returned (.bool true) ∧ Ext w w' := by
  have EX := Ext.refl w
  rcases hz with z1 | ⟨z1, z2⟩
  all_goals
    go_enter Try.func3, Try.ntmps3
    go_wp2_with (first | (go_at_call 5; with_reducible refine (T1 _).mono ?_; rintro e v1 ⟨rfl, hb⟩; replace EX := Ext.trans EX hb; clear hb) | (go_at_call 5; with_reducible refine (T2 _).mono ?_; rintro e v1 ⟨rfl, hb⟩; replace EX := Ext.trans EX hb; clear hb) | (go_at_call 7; with_reducible refine (L _).mono ?_; rintro e v1 ⟨rfl, hb⟩; replace EX := Ext.trans EX hb; clear hb) | (go_at_call 6; with_reducible refine (lives_any _).mono ?_; rintro e v1 ⟨rfl, hb⟩; replace EX := Ext.trans EX hb; clear hb))
    go_ret
    exact ⟨rfl, EX⟩
theorem wrap_i32 {n : Int} (h0 : -2147483648 ≤ n) (h1 : n ≤ 2147483647) : wrap32 n = n := by simp [wrap32]; omega
theorem aturned_law (y x k : Int) (hy : -2147483648 ≤ y ∧ y ≤ 2147483647) (hx : -2147483648 ≤ x ∧ x ≤ 2147483647) (hk : 0 ≤ k ∧ k ≤ 255) (w : World) : Calls Try.prog 3 #[.int .i32 y, .int .i32 x, .int .u8 k] w fun e w' => e = .returned (.bool true) ∧ Ext w w' := by
  by_cases hz : x = 0 ∧ y = 0
  · rw [hz.1, hz.2]; exact aturn_zero k w
  · have i := atn_in hz
    have T1 := fun w => atan_any y x hx.1 hx.2 hy.1 hy.2 hz w
    have z : (y == 0) = false ∨ (y == 0) = true ∧ (x == 0) = false := by
      by_cases h : y = 0
      · exact .inr ⟨by rw [h]; rfl, by simp; omega⟩
      · exact .inl (by simp; omega)
    by_cases hl : y = -2147483648 ∨ x = -2147483648
    · refine aturn_low y x k _ z (by omega) (by omega) ?_ T1 w
      by_cases h : y = -2147483648
      · exact .inl (by rw [h]; rfl)
      · exact .inr ⟨by simp; omega, by simp; omega⟩
    · have t := atn_turn hz
      have T2 := fun w => atan_any x (-y) (by omega) (by omega) hx.1 hx.2 (by omega) w
      have e : Int.tmod (atn y x + 5898240) 23592960 = atn x (-y) := by rw [t]; exact Int.tmod_eq_emod_of_nonneg (by omega)
      obtain ⟨j, hj⟩ : ∃ j : Nat, k % 32 = (j : Int) := ⟨(k % 32).toNat, by omega⟩
      have j32 : j < 32 := by omega
      have p0 := Nat.two_pow_pos j
      have p1 : 2 ^ j ≤ 2147483648 := Nat.pow_le_pow_right (n := 2) (by decide) (show j ≤ 31 by omega)
      have ep : (2 : Int) ^ (j : Int).toNat = ((2 ^ j : Nat) : Int) := by rw [Int.toNat_natCast, Int.natCast_pow]; rfl
      have q0 : (0 : Int) < ((2 ^ j : Nat) : Int) := by omega
      have q1 : ((2 ^ j : Nat) : Int) ≤ 2147483648 := by omega
      obtain ⟨f, hf⟩ : ∃ f, max y (max (-y) (max x (-x))) = f := ⟨_, rfl⟩
      have f0 : 0 ≤ f := by omega
      have f1 : f ≤ 2147483647 := by omega
      have g0 : 0 ≤ f * ((2 ^ j : Nat) : Int) := Int.mul_nonneg f0 (by omega)
      have g1 : f * ((2 ^ j : Nat) : Int) ≤ 2147483647 * 2147483648 := Int.mul_le_mul f1 q1 (by omega) (by decide)
      have hg : wrap64 (f * 2 ^ (j : Int).toNat) = f * ((2 ^ j : Nat) : Int) := by rw [ep]; exact wrap_i64 ⟨by omega, by omega⟩
      have b1 : (y == -2147483648) = false := by simp; omega
      have b2 : (x == -2147483648) = false := by simp; omega
      by_cases h : 2147483647 < f * ((2 ^ j : Nat) : Int)
      · clear t
        generalize atn y x = a at *
        generalize atn x (-y) = b at *
        generalize ((2 ^ j : Nat) : Int) = P at *
        exact aturn_far y x k a (-y) b j f (f * P) z (by omega) (by omega) i.1 i.2 b1 b2 (by omega) hy.2 (by omega) hx.2 rfl e hk.1 hk.2 hj (by omega) (by omega) hf f0 f1 hg h T1 T2 w
      · have far := atn_far (k := j) hz (by
          rw [show max (max x (-x)) (max y (-y)) = f by omega]
          omega)
        have sc (n : Int) (h0 : -f ≤ n) (h1 : n ≤ f) : -2147483648 ≤ n * ((2 ^ j : Nat) : Int) ∧ n * ((2 ^ j : Nat) : Int) ≤ 2147483647 := by
          have k1 := Int.mul_le_mul_of_nonneg_right h1 (Int.le_of_lt q0)
          have k2 := Int.mul_le_mul_of_nonneg_right h0 (Int.le_of_lt q0)
          rw [Int.neg_mul] at k2
          omega
        have cy := sc y (by omega) (by omega)
        have cx := sc x (by omega) (by omega)
        have nz : ¬ (x * ((2 ^ j : Nat) : Int) = 0 ∧ y * ((2 ^ j : Nat) : Int) = 0) := by
          rintro ⟨e1, e2⟩
          rcases Int.mul_eq_zero.1 e1 with e1 | e1
          · rcases Int.mul_eq_zero.1 e2 with e2 | e2
            · exact hz ⟨e1, e2⟩
            · omega
          · omega
        have L := fun w => leads_any (y * ((2 ^ j : Nat) : Int)) (x * ((2 ^ j : Nat) : Int)) (atn y x) cx.1 cx.2 cy.1 cy.2 nz far w
        clear t far nz sc
        generalize atn y x = a at *
        generalize atn x (-y) = b at *
        generalize ((2 ^ j : Nat) : Int) = P at *
        exact aturn_all y x k a (-y) b j f (f * P) (y * P) (x * P) z (by omega) (by omega) i.1 i.2 b1 b2 (by omega) hy.2 (by omega) hx.2 rfl e hk.1 hk.2 hj (by omega) (by omega) hf f0 f1 hg h (by rw [ep]; exact wrap_i32 cy.1 cy.2) (by rw [ep]; exact wrap_i32 cx.1 cx.2) T1 T2 L w
end Go.Proofs.Ythfgeopldbcniab
