/- The chapter's answers: the given function gouachelaw04.lives returns true where the table of package fixeds is as it was laid. -/
import Derived.Test.YtbkifcfienhkaaaDoorPowE
namespace Go.Proofs.YtbkifcfienhkaaaDoor
open Go.RowKit Go.BigFrame
set_option linter.unusedSimpArgs false
set_option linter.unusedVariables false
theorem is_yes (x : Int) (w : World) : Calls Tryd.prog 16 #[.int .i32 x, .int .i64 0, .int .i32 x] w fun e w' => e = .returned (.bool true) ∧ Ext w w' := by
  go_enter Tryd.func16, Tryd.ntmps16
  go_wp2
  go_ret
  exact ⟨rfl, Ext.refl _⟩
theorem no_yes (e : Int) (w : World) : Calls Tryd.prog 17 #[.int .i32 0, .int .i64 e, .int .i64 e] w fun e w' => e = .returned (.bool true) ∧ Ext w w' := by
  go_enter Tryd.func17, Tryd.ntmps17
  go_wp2
  go_ret
  exact ⟨rfl, Ext.refl _⟩
theorem lives_values : (lgq 65536 = 0 ∧ lgq 1 = -1048576 ∧ lgq 0 = 0) ∧ (pwq 196608 131072 = 589824 ∧ pwq (-131072) 196608 = -524288 ∧ pwq (-1) 1 = 0 ∧ pwq 0 0 = 65536 ∧ pwq 0 (-1) = 0) ∧ (exq 0 = 65536 ∧ exq 65536 = 131072 ∧ exq (-1048576) = 1 ∧ exq (-1114112) = 1 ∧ exq (-1179648) = 0 ∧ exq 983040 = 2147483647 ∧ exq 32768 = 92682) := by decide +kernel
theorem lives_errors : (lge 65536 = 0 ∧ lge 1 = 0 ∧ lge 0 = 1) ∧ (pwe 196608 131072 = 0 ∧ pwe (-131072) 196608 = 0 ∧ pwe (-1) 1 = 1 ∧ pwe 0 0 = 0 ∧ pwe 0 (-1) = 12) := by decide +kernel

set_option maxRecDepth 20000 in
set_option maxHeartbeats 8000000 in
theorem lives_any (w0 : World) (L : Laid w0) (w : World) (E : Ext w0 w) : Calls Tryd.prog 15 #[] w fun e w' => e = .returned (.bool true) ∧ Ext w w' := by
  replace L := L.later E
  clear E
  obtain ⟨⟨a1, a2, a3⟩, ⟨b1, b2, b3, b4, b5⟩, ⟨c1, c2, c3, c4, c5, c6, c7⟩⟩ := lives_values
  obtain ⟨⟨d1, d2, d3⟩, ⟨e1, e2, e3, e4, e5⟩⟩ := lives_errors
  have L1 := fun w => log2_any 65536 ⟨by decide, by decide⟩ w
  have L2 := fun w => log2_any 1 ⟨by decide, by decide⟩ w
  have L3 := fun w => log2_any 0 ⟨by decide, by decide⟩ w
  rw [a1, d1] at L1
  rw [a2, d2] at L2
  rw [a3, d3] at L3
  have P1 := fun v E => pow_any 196608 131072 ⟨by decide, by decide⟩ ⟨by decide, by decide⟩ w L v E
  have P2 := fun v E => pow_any (-131072) 196608 ⟨by decide, by decide⟩ ⟨by decide, by decide⟩ w L v E
  have P3 := fun v E => pow_any (-1) 1 ⟨by decide, by decide⟩ ⟨by decide, by decide⟩ w L v E
  have P4 := fun v E => pow_any 0 0 ⟨by decide, by decide⟩ ⟨by decide, by decide⟩ w L v E
  have P5 := fun v E => pow_any 0 (-1) ⟨by decide, by decide⟩ ⟨by decide, by decide⟩ w L v E
  rw [b1, e1] at P1
  rw [b2, e2] at P2
  rw [b3, e3] at P3
  rw [b4, e4] at P4
  rw [b5, e5] at P5
  have X1 := fun w => exp2_any 0 ⟨by decide, by decide⟩ w
  have X2 := fun w => exp2_any 65536 ⟨by decide, by decide⟩ w
  have X3 := fun w => exp2_any (-1048576) ⟨by decide, by decide⟩ w
  have X4 := fun w => exp2_any (-1114112) ⟨by decide, by decide⟩ w
  have X5 := fun w => exp2_any (-1179648) ⟨by decide, by decide⟩ w
  have X6 := fun w => exp2_any 983040 ⟨by decide, by decide⟩ w
  have X7 := fun w => exp2_any 32768 ⟨by decide, by decide⟩ w
  rw [c1] at X1
  rw [c2] at X2
  rw [c3] at X3
  rw [c4] at X4
  rw [c5] at X5
  rw [c6] at X6
  rw [c7] at X7
  have EX := Ext.refl w
  clear L a1 a2 a3 b1 b2 b3 b4 b5 c1 c2 c3 c4 c5 c6 c7 d1 d2 d3 e1 e2 e3 e4 e5
  go_enter Tryd.func15, Tryd.ntmps15
  go_wp2_with (first | (go_at_call 9; with_reducible refine (L1 _).mono ?_; rintro e v1 ⟨rfl, hb⟩; replace EX := Ext.trans EX hb; clear hb) | (go_at_call 9; with_reducible refine (L2 _).mono ?_; rintro e v1 ⟨rfl, hb⟩; replace EX := Ext.trans EX hb; clear hb) | (go_at_call 9; with_reducible refine (L3 _).mono ?_; rintro e v1 ⟨rfl, hb⟩; replace EX := Ext.trans EX hb; clear hb) | (go_at_call 11; with_reducible refine (P1 _ EX).mono ?_; rintro e v1 ⟨rfl, hb⟩; replace EX := Ext.trans EX hb; clear hb) | (go_at_call 11; with_reducible refine (P2 _ EX).mono ?_; rintro e v1 ⟨rfl, hb⟩; replace EX := Ext.trans EX hb; clear hb) | (go_at_call 11; with_reducible refine (P3 _ EX).mono ?_; rintro e v1 ⟨rfl, hb⟩; replace EX := Ext.trans EX hb; clear hb) | (go_at_call 11; with_reducible refine (P4 _ EX).mono ?_; rintro e v1 ⟨rfl, hb⟩; replace EX := Ext.trans EX hb; clear hb) | (go_at_call 11; with_reducible refine (P5 _ EX).mono ?_; rintro e v1 ⟨rfl, hb⟩; replace EX := Ext.trans EX hb; clear hb) | (go_at_call 13; with_reducible refine (X1 _).mono ?_; rintro e v1 ⟨rfl, hb⟩; replace EX := Ext.trans EX hb; clear hb) | (go_at_call 13; with_reducible refine (X2 _).mono ?_; rintro e v1 ⟨rfl, hb⟩; replace EX := Ext.trans EX hb; clear hb) | (go_at_call 13; with_reducible refine (X3 _).mono ?_; rintro e v1 ⟨rfl, hb⟩; replace EX := Ext.trans EX hb; clear hb) | (go_at_call 13; with_reducible refine (X4 _).mono ?_; rintro e v1 ⟨rfl, hb⟩; replace EX := Ext.trans EX hb; clear hb) | (go_at_call 13; with_reducible refine (X5 _).mono ?_; rintro e v1 ⟨rfl, hb⟩; replace EX := Ext.trans EX hb; clear hb) | (go_at_call 13; with_reducible refine (X6 _).mono ?_; rintro e v1 ⟨rfl, hb⟩; replace EX := Ext.trans EX hb; clear hb) | (go_at_call 13; with_reducible refine (X7 _).mono ?_; rintro e v1 ⟨rfl, hb⟩; replace EX := Ext.trans EX hb; clear hb) | (go_at_call 16; with_reducible refine (is_yes _ _).mono ?_; rintro e v1 ⟨rfl, hb⟩; replace EX := Ext.trans EX hb; clear hb) | (go_at_call 17; with_reducible refine (no_yes _ _).mono ?_; rintro e v1 ⟨rfl, hb⟩; replace EX := Ext.trans EX hb; clear hb))
  go_ret
  exact ⟨rfl, EX⟩
end Go.Proofs.YtbkifcfienhkaaaDoor
