/- The chapter's answers: the given function gouachelaw03.lives returns true. -/
import Derived.Test.YtcknfangjodoiaaRootC
namespace Go.Proofs.Ytcknfangjodoiaa
open Go.RowKit Go.BigFrame
set_option linter.unusedSimpArgs false
set_option linter.unusedVariables false
set_option maxRecDepth 20000 in
set_option maxHeartbeats 8000000 in
theorem lives_any (w : World) : Calls Try.prog 17 #[] w fun e w' => e = .returned (.bool true) ∧ Ext w w' := by
  have W1 := fun w => rootWide_any 170141183460469231731687303715884105727 ⟨by decide, by decide⟩ (by decide) w
  rw [show hi 170141183460469231731687303715884105727 = 9223372036854775807 by decide, show lo 170141183460469231731687303715884105727 = 18446744073709551615 by decide, show rt 170141183460469231731687303715884105727 = 13043817825332782212 from rt_of (by decide) (by decide) (by decide)] at W1
  have O1 := fun w => of_any (-1) ⟨by decide, by decide⟩ w
  have W2 := fun w => rootWide_neg (-1) (by decide) w
  have S1 := fun w => sqrt_any 131072 (by decide) (by decide) w
  rw [show rt (131072 * 65536) = 92681 from rt_of (by decide) (by decide) (by decide)] at S1
  have S2 := fun w => sqrt_any 1 (by decide) (by decide) w
  rw [show rt (1 * 65536) = 256 from rt_of (by decide) (by decide) (by decide)] at S2
  have S3 := fun w => sqrt_neg (-1) (by decide) w
  have R1 := fun w => root_at 0 ⟨by decide, by decide⟩ w
  rw [show rt 0 = 0 from rt_of (by decide) (by decide) (by decide)] at R1
  have R2 := fun w => root_at 24 ⟨by decide, by decide⟩ w
  rw [show rt 24 = 4 from rt_of (by decide) (by decide) (by decide)] at R2
  have R3 := fun w => root_at 25 ⟨by decide, by decide⟩ w
  rw [show rt 25 = 5 from rt_of (by decide) (by decide) (by decide)] at R3
  have R4 := fun w => root_at 18446744073709551615 ⟨by decide, by decide⟩ w
  rw [show rt 18446744073709551615 = 4294967295 from rt_of (by decide) (by decide) (by decide)] at R4
  have L1 := fun w => log_any 0 ⟨by decide, by decide⟩ w
  rw [lg_0] at L1
  have L2 := fun w => log_any 1 ⟨by decide, by decide⟩ w
  rw [show lg 1 = 0 by decide] at L2
  have L3 := fun w => log_any 9223372036854775808 ⟨by decide, by decide⟩ w
  rw [show lg 9223372036854775808 = 63 by decide] at L3
  have EX := Ext.refl w
  go_enter Try.func17, Try.ntmps17
  go_wp2_with (first | (go_at_call 9; with_reducible refine (W1 _).mono ?_; rintro e v1 ⟨rfl, hb⟩; replace EX := Ext.trans EX hb; clear hb) | (go_at_call 27; with_reducible refine (O1 _).mono ?_; rintro e v1 ⟨rfl, hb⟩; replace EX := Ext.trans EX hb; clear hb) | (go_at_call 9; with_reducible refine (W2 _).mono ?_; rintro e v1 ⟨rfl, hb⟩; replace EX := Ext.trans EX hb; clear hb) | (go_at_call 11; with_reducible refine (S1 _).mono ?_; rintro e v1 ⟨rfl, hb⟩; replace EX := Ext.trans EX hb; clear hb) | (go_at_call 11; with_reducible refine (S2 _).mono ?_; rintro e v1 ⟨rfl, hb⟩; replace EX := Ext.trans EX hb; clear hb) | (go_at_call 11; with_reducible refine (S3 _).mono ?_; rintro e v1 ⟨rfl, hb⟩; replace EX := Ext.trans EX hb; clear hb) | (go_at_call 13; with_reducible refine (R1 _).mono ?_; rintro e v1 ⟨rfl, hb⟩; replace EX := Ext.trans EX hb; clear hb) | (go_at_call 13; with_reducible refine (R2 _).mono ?_; rintro e v1 ⟨rfl, hb⟩; replace EX := Ext.trans EX hb; clear hb) | (go_at_call 13; with_reducible refine (R3 _).mono ?_; rintro e v1 ⟨rfl, hb⟩; replace EX := Ext.trans EX hb; clear hb) | (go_at_call 13; with_reducible refine (R4 _).mono ?_; rintro e v1 ⟨rfl, hb⟩; replace EX := Ext.trans EX hb; clear hb) | (go_at_call 15; with_reducible refine (L1 _).mono ?_; rintro e v1 ⟨rfl, hb⟩; replace EX := Ext.trans EX hb; clear hb) | (go_at_call 15; with_reducible refine (L2 _).mono ?_; rintro e v1 ⟨rfl, hb⟩; replace EX := Ext.trans EX hb; clear hb) | (go_at_call 15; with_reducible refine (L3 _).mono ?_; rintro e v1 ⟨rfl, hb⟩; replace EX := Ext.trans EX hb; clear hb))
  go_ret
  exact ⟨rfl, EX⟩
end Go.Proofs.Ytcknfangjodoiaa
