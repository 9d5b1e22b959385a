/- The chapter's answers: the given functions leads and lives of gouachelaw05. -/
import Derived.Test.YthfgeopldbcniaaAngE
namespace Go.Proofs.Ythfgeopldbcniaa
open Go.RowKit Go.BigFrame
set_option linter.unusedSimpArgs false
set_option linter.unusedVariables false
theorem leads_walk (y x a : Int) (AT : ∀ w, Calls Try.prog 9 #[.int .i32 y, .int .i32 x] w fun e w' => e = .returned (.tuple #[.int .i32 a, .int .i64 0]) ∧ Ext w w') (w : World) :
    Calls Try.prog 28 #[.int .i32 y, .int .i32 x, .int .i32 a] w fun e w' => e = .returned (.bool true) ∧ Ext w w' := by
  have EX := Ext.refl w
  go_enter Try.func28, Try.ntmps28
  go_wp2_with (first | (go_at_call 9; with_reducible refine (AT _).mono ?_; rintro e v1 ⟨rfl, hb⟩; replace EX := Ext.trans EX hb; clear hb))
  go_ret
  exact ⟨rfl, EX⟩
theorem leads_any (y x a : Int) (x0 : -2147483648 ≤ x) (x1 : x ≤ 2147483647) (y0 : -2147483648 ≤ y) (y1 : y ≤ 2147483647) (h : ¬ (x = 0 ∧ y = 0)) (e : atn y x = a) (w : World) :
    Calls Try.prog 28 #[.int .i32 y, .int .i32 x, .int .i32 a] w fun e w' => e = .returned (.bool true) ∧ Ext w w' :=
  leads_walk y x a (fun w => e ▸ atan_any y x x0 x1 y0 y1 h w) w
theorem lives_sines : ((csa 0).2 = 0 ∧ (csa 5898240).2 = 65536 ∧ (csa 1966080).2 = 32768) ∧ ((csa 3932160).1 = 32768 ∧ (csa 11796480).1 = -65536 ∧ (csa (-5898240)).2 = -65536) := by decide +kernel
theorem lives_dirs : atn 0 5 = 0 ∧ atn 1 0 = 5898240 ∧ atn 1 1 = 2949120 ∧ atn 0 (-1) = 11796480 ∧ atn (-1) 0 = 17694720 := by decide +kernel

set_option maxRecDepth 20000 in
set_option maxHeartbeats 8000000 in
theorem lives_any (w : World) : Calls Try.prog 15 #[] w fun e w' => e = .returned (.bool true) ∧ Ext w w' := by
  obtain ⟨⟨a1, a2, a3⟩, a4, a5, a6⟩ := lives_sines
  obtain ⟨b1, b2, b3, b4, b5⟩ := lives_dirs
  have L1 := fun w => leads_any 0 5 0 (by decide) (by decide) (by decide) (by decide) (by decide) b1 w
  have L2 := fun w => leads_any 1 0 5898240 (by decide) (by decide) (by decide) (by decide) (by decide) b2 w
  have L3 := fun w => leads_any 1 1 2949120 (by decide) (by decide) (by decide) (by decide) (by decide) b3 w
  have L4 := fun w => leads_any 0 (-1) 11796480 (by decide) (by decide) (by decide) (by decide) (by decide) b4 w
  have L5 := fun w => leads_any (-1) 0 17694720 (by decide) (by decide) (by decide) (by decide) (by decide) b5 w
  have S1 := fun w => sin_any 0 (by decide) (by decide) w
  have S2 := fun w => sin_any 5898240 (by decide) (by decide) w
  have S3 := fun w => sin_any 1966080 (by decide) (by decide) w
  have S4 := fun w => cos_any 3932160 (by decide) (by decide) w
  have S5 := fun w => cos_any 11796480 (by decide) (by decide) w
  have S6 := fun w => sin_any (-5898240) (by decide) (by decide) w
  rw [a1] at S1
  rw [a2] at S2
  rw [a3] at S3
  rw [a4] at S4
  rw [a5] at S5
  rw [a6] at S6
  clear a1 a2 a3 a4 a5 a6 b1 b2 b3 b4 b5
  have EX := Ext.refl w
  go_enter Try.func15, Try.ntmps15
  go_wp2_with (first | (go_at_call 9; with_reducible refine (atan_zero _).mono ?_; rintro e v1 ⟨rfl, hb⟩; replace EX := Ext.trans EX hb; clear hb) | (go_at_call 28; with_reducible refine (L1 _).mono ?_; rintro e v1 ⟨rfl, hb⟩; replace EX := Ext.trans EX hb; clear hb) | (go_at_call 28; with_reducible refine (L2 _).mono ?_; rintro e v1 ⟨rfl, hb⟩; replace EX := Ext.trans EX hb; clear hb) | (go_at_call 28; with_reducible refine (L3 _).mono ?_; rintro e v1 ⟨rfl, hb⟩; replace EX := Ext.trans EX hb; clear hb) | (go_at_call 28; with_reducible refine (L4 _).mono ?_; rintro e v1 ⟨rfl, hb⟩; replace EX := Ext.trans EX hb; clear hb) | (go_at_call 28; with_reducible refine (L5 _).mono ?_; rintro e v1 ⟨rfl, hb⟩; replace EX := Ext.trans EX hb; clear hb) | (go_at_call 11; with_reducible refine (S1 _).mono ?_; rintro e v1 ⟨rfl, hb⟩; replace EX := Ext.trans EX hb; clear hb) | (go_at_call 11; with_reducible refine (S2 _).mono ?_; rintro e v1 ⟨rfl, hb⟩; replace EX := Ext.trans EX hb; clear hb) | (go_at_call 11; with_reducible refine (S3 _).mono ?_; rintro e v1 ⟨rfl, hb⟩; replace EX := Ext.trans EX hb; clear hb) | (go_at_call 11; with_reducible refine (S6 _).mono ?_; rintro e v1 ⟨rfl, hb⟩; replace EX := Ext.trans EX hb; clear hb) | (go_at_call 13; with_reducible refine (S4 _).mono ?_; rintro e v1 ⟨rfl, hb⟩; replace EX := Ext.trans EX hb; clear hb) | (go_at_call 13; with_reducible refine (S5 _).mono ?_; rintro e v1 ⟨rfl, hb⟩; replace EX := Ext.trans EX hb; clear hb))
  go_ret
  exact ⟨rfl, EX⟩
end Go.Proofs.Ythfgeopldbcniaa
