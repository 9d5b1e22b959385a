/- The walk of the given function AnglesOf: it returns true at every three fixes. -/
import Derived.Test.YthfgeopldbcniaaAngJ
namespace Go.Proofs.Ythfgeopldbcniaa
open Go.RowKit Go.BigFrame
set_option linter.unusedSimpArgs false
set_option linter.unusedVariables false

set_option maxRecDepth 20000 in
set_option maxHeartbeats 8000000 in
theorem aof_walk (a y x s c d e : Int)
    (S1 : ∀ w, Calls Try.prog 11 #[.int .i32 a] w fun e w' => e = .returned (.int .i32 s) ∧ Ext w w') (S2 : ∀ w, Calls Try.prog 12 #[.int .i32 a] w fun e w' => e = .returned (.int .i32 s) ∧ Ext w w')
    (C1 : ∀ w, Calls Try.prog 13 #[.int .i32 a] w fun e w' => e = .returned (.int .i32 c) ∧ Ext w w') (C2 : ∀ w, Calls Try.prog 14 #[.int .i32 a] w fun e w' => e = .returned (.int .i32 c) ∧ Ext w w')
    (T1 : ∀ w, Calls Try.prog 9 #[.int .i32 y, .int .i32 x] w fun e' w' => e' = .returned (.tuple #[.int .i32 d, .int .i64 e]) ∧ Ext w w') (T2 : ∀ w, Calls Try.prog 10 #[.int .i32 y, .int .i32 x] w fun e' w' => e' = .returned (.tuple #[.int .i32 d, .int .i64 e]) ∧ Ext w w') (w : World) :
    Calls Try.prog 3 #[.int .i32 a, .int .i32 y, .int .i32 x] w fun e w' => e = .returned (.bool true) ∧ Ext w w' := by
  have EX := Ext.refl w
  go_enter Try.func3, Try.ntmps3
  go_wp2_with (first | (go_at_call 9; with_reducible refine (T1 _).mono ?_; rintro e v1 ⟨rfl, hb⟩; replace EX := Ext.trans EX hb; clear hb) | (go_at_call 10; with_reducible refine (T2 _).mono ?_; rintro e v1 ⟨rfl, hb⟩; replace EX := Ext.trans EX hb; clear hb) | (go_at_call 11; with_reducible refine (S1 _).mono ?_; rintro e v1 ⟨rfl, hb⟩; replace EX := Ext.trans EX hb; clear hb) | (go_at_call 12; with_reducible refine (S2 _).mono ?_; rintro e v1 ⟨rfl, hb⟩; replace EX := Ext.trans EX hb; clear hb) | (go_at_call 13; with_reducible refine (C1 _).mono ?_; rintro e v1 ⟨rfl, hb⟩; replace EX := Ext.trans EX hb; clear hb) | (go_at_call 14; with_reducible refine (C2 _).mono ?_; rintro e v1 ⟨rfl, hb⟩; replace EX := Ext.trans EX hb; clear hb) | (go_at_call 15; with_reducible refine (lives_any _).mono ?_; rintro e v1 ⟨rfl, hb⟩; replace EX := Ext.trans EX hb; clear hb))
  go_ret
  exact ⟨rfl, EX⟩
theorem aof_law (a y x : Int) (ha : -2147483648 ≤ a ∧ a ≤ 2147483647) (hy : -2147483648 ≤ y ∧ y ≤ 2147483647) (hx : -2147483648 ≤ x ∧ x ≤ 2147483647) (w : World) : Calls Try.prog 3 #[.int .i32 a, .int .i32 y, .int .i32 x] w fun e w' => e = .returned (.bool true) ∧ Ext w w' := by
  have S1 := fun w => sin_any a ha.1 ha.2 w
  have S2 := fun w => sin5_any a ha.1 ha.2 w
  have C1 := fun w => cos_any a ha.1 ha.2 w
  have C2 := fun w => cos5_any a ha.1 ha.2 w
  by_cases h : x = 0 ∧ y = 0
  · rw [h.1, h.2]
    exact aof_walk a 0 0 _ _ 0 12 S1 S2 C1 C2 atan_zero atan5_zero w
  · have T1 := fun w => atan_any y x hx.1 hx.2 hy.1 hy.2 h w
    have T2 := fun w => atan5_any y x hx.1 hx.2 hy.1 hy.2 h w
    generalize atn y x = d at *
    exact aof_walk a y x _ _ d 0 S1 S2 C1 C2 T1 T2 w
end Go.Proofs.Ythfgeopldbcniaa
