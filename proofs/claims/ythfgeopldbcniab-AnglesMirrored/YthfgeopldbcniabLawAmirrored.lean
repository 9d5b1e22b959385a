/- The walk of the given function AnglesMirrored: it returns true at every two fixes. -/
import Derived.Test.YthfgeopldbcniabAngF
namespace Go.Proofs.Ythfgeopldbcniab
open Go.RowKit Go.BigFrame
set_option linter.unusedSimpArgs false
set_option linter.unusedVariables false

set_option maxRecDepth 20000 in
set_option maxHeartbeats 4000000 in
theorem amirr_none (y x : Int) (h : y ≤ 0 ∨ ¬ y ≤ 0 ∧ x ≤ 0) (w : World) :
    Calls Try.prog 4 #[.int .i32 y, .int .i32 x] w fun e w' => e = .returned (.bool true) ∧ Ext w w' := by
  have EX := Ext.refl w
  rcases h with h | ⟨h, h2⟩
  all_goals
    go_enter Try.func4, Try.ntmps4
    go_wp2_with (first | (go_at_call 6; with_reducible refine (lives_any _).mono ?_; rintro e v1 ⟨rfl, hb⟩; replace EX := Ext.trans EX hb; clear hb))
    go_ret
    exact ⟨rfl, EX⟩
set_option maxRecDepth 20000 in
set_option maxHeartbeats 8000000 in
theorem amirr_walk (y x m a b c s : Int) (hy : ¬ y ≤ 0) (hx : ¬ x ≤ 0) (y1 : 0 < y) (y2 : y ≤ 2147483647) (hm : -y = m) (a0 : 0 ≤ a) (a1 : a < 23592960) (b0 : 0 ≤ b) (b1 : b < 23592960) (c0 : 0 ≤ c) (c1 : c < 23592960) (d0 : -1 ≤ a + b - 5898240) (d1 : a + b - 5898240 ≤ 1) (hs : Int.tmod (a + c) 23592960 = s) (s0 : 0 ≤ s) (s1 : s < 23592960) (h : s ≤ 1 ∨ ¬ s ≤ 1 ∧ 23592959 ≤ s) (a2 : a ≤ 5898240)
    (T1 : ∀ w, Calls Try.prog 5 #[.int .i32 y, .int .i32 x] w fun e w' => e = .returned (.tuple #[.int .i32 a, .int .i64 0]) ∧ Ext w w')
    (T2 : ∀ w, Calls Try.prog 5 #[.int .i32 x, .int .i32 y] w fun e w' => e = .returned (.tuple #[.int .i32 b, .int .i64 0]) ∧ Ext w w')
    (T3 : ∀ w, Calls Try.prog 5 #[.int .i32 m, .int .i32 x] w fun e w' => e = .returned (.tuple #[.int .i32 c, .int .i64 0]) ∧ Ext w w') (w : World) :
    Calls Try.prog 4 #[.int .i32 y, .int .i32 x] w fun e w' => e = .returned (.bool true) ∧ Ext w w' := by
  have EX := Ext.refl w
  rcases h with h | ⟨h, h2⟩
  all_goals
    go_enter Try.func4, Try.ntmps4
    go_wp2_with (first | (go_at_call 5; with_reducible refine (T1 _).mono ?_; rintro e v1 ⟨rfl, hb⟩; replace EX := Ext.trans EX hb; clear hb) | (go_at_call 5; with_reducible refine (T2 _).mono ?_; rintro e v1 ⟨rfl, hb⟩; replace EX := Ext.trans EX hb; clear hb) | (go_at_call 5; with_reducible refine (T3 _).mono ?_; rintro e v1 ⟨rfl, hb⟩; replace EX := Ext.trans EX hb; clear hb) | (go_at_call 6; with_reducible refine (lives_any _).mono ?_; rintro e v1 ⟨rfl, hb⟩; replace EX := Ext.trans EX hb; clear hb))
    go_ret
    exact ⟨rfl, EX⟩
theorem amirrored_law (y x : Int) (hy : -2147483648 ≤ y ∧ y ≤ 2147483647) (hx : -2147483648 ≤ x ∧ x ≤ 2147483647) (w : World) : Calls Try.prog 4 #[.int .i32 y, .int .i32 x] w fun e w' => e = .returned (.bool true) ∧ Ext w w' := by
  by_cases h : y ≤ 0 ∨ ¬ y ≤ 0 ∧ x ≤ 0
  · exact amirr_none y x h w
  · obtain ⟨m1, m2, m3⟩ := atn_mirror (y := y) (x := x) (by omega) (by omega) (by omega) (by omega)
    have i1 := atn_in (y := y) (x := x) (by omega)
    have i2 := atn_in (y := x) (x := y) (by omega)
    have i3 := atn_in (y := -y) (x := x) (by omega)
    have T1 := fun w => atan_any y x hx.1 hx.2 hy.1 hy.2 (by omega) w
    have T2 := fun w => atan_any x y hy.1 hy.2 hx.1 hx.2 (by omega) w
    have T3 := fun w => atan_any (-y) x hx.1 hx.2 (by omega) (by omega) (by omega) w
    generalize atn y x = a at *
    generalize atn x y = b at *
    generalize atn (-y) x = c at *
    have e : Int.tmod (a + c) 23592960 = (a + c) % 23592960 := Int.tmod_eq_emod_of_nonneg (by omega)
    exact amirr_walk y x _ a b c _ (by omega) (by omega) (by omega) hy.2 rfl i1.1 i1.2 i2.1 i2.2 i3.1 i3.2 m1.2 m1.1 e (by omega) (by omega) (by omega) m3 T1 T2 T3 w
end Go.Proofs.Ythfgeopldbcniab
