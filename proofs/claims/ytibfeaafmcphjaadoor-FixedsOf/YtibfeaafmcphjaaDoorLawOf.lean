/- The walk of the given function FixedsOf: it returns true at every two numbers of 32 bits, where the package's table is as it was laid. -/
import Derived.Test.YtibfeaafmcphjaaDoorFixE
import Derived.Test.YtibfeaafmcphjaaDoorFixR
namespace Go.Proofs.YtibfeaafmcphjaaDoor
open Go.RowKit Go.BigFrame
set_option linter.unusedSimpArgs false
set_option linter.unusedVariables false

set_option maxRecDepth 20000 in
set_option maxHeartbeats 8000000 in
theorem of_law (a b : Int) (ha : In32 a) (hb : In32 b) (w : World) (L : Laid w) : Calls Tryd.prog 3 #[.int .i32 a, .int .i32 b] w fun e w' => e = .returned (.bool true) ∧ Ext w w' := by
  have LV := fun v E => lives_any w L v E
  have D1 := fun w => fdiv_any a b ha hb w
  have D2 := fun w => r2div_any a b ha hb w
  have A1 := fun w => fadd_any a b ha hb w
  have A2 := fun w => r2add_any a b ha hb w
  have S1 := fun w => fsub_any a b ha hb w
  have S2 := fun w => r2sub_any a b ha hb w
  have M1 := fun w => fmul_any a b ha hb w
  have M2 := fun w => r2mul_any a b ha hb w
  have F1 := fun v E => ffloor_any a ha w L v E
  have F2 := fun w => r2floor_any a ha w
  have C1 := fun v E => fceil_any a ha w L v E
  have C2 := fun w => r2ceil_any a ha w
  have O1 := fun v E => fround_any a ha w L v E
  have O2 := fun w => r2round_any a ha w
  have T1 := fun v E => ftrunc_any a ha w L v E
  have T2 := fun w => r2trunc_any a ha w
  have EX := Ext.refl w
  clear L ha hb
  generalize rat a b = x1 at *
  generalize rate b = x2 at *
  generalize held (a + b) = x3 at *
  generalize held (a - b) = x4 at *
  generalize held (nr (a * b) 65536) = x5 at *
  generalize held (dn a) = x6 at *
  generalize held (dn (a + 65535)) = x7 at *
  generalize held (dn (a + 32768)) = x8 at *
  generalize held (if a < 0 then dn (a + 65535) else dn a) = x9 at *
  go_enter Tryd.func3, Tryd.ntmps3
  go_wp2_with (first | (go_at_call 9; with_reducible refine (D1 _).mono ?_; rintro e v1 ⟨rfl, hb⟩; replace EX := Ext.trans EX hb; clear hb) | (go_at_call 10; with_reducible refine (D2 _).mono ?_; rintro e v1 ⟨rfl, hb⟩; replace EX := Ext.trans EX hb; clear hb) | (go_at_call 11; with_reducible refine (A1 _).mono ?_; rintro e v1 ⟨rfl, hb⟩; replace EX := Ext.trans EX hb; clear hb) | (go_at_call 12; with_reducible refine (A2 _).mono ?_; rintro e v1 ⟨rfl, hb⟩; replace EX := Ext.trans EX hb; clear hb) | (go_at_call 13; with_reducible refine (S1 _).mono ?_; rintro e v1 ⟨rfl, hb⟩; replace EX := Ext.trans EX hb; clear hb) | (go_at_call 14; with_reducible refine (S2 _).mono ?_; rintro e v1 ⟨rfl, hb⟩; replace EX := Ext.trans EX hb; clear hb) | (go_at_call 15; with_reducible refine (M1 _).mono ?_; rintro e v1 ⟨rfl, hb⟩; replace EX := Ext.trans EX hb; clear hb) | (go_at_call 16; with_reducible refine (M2 _).mono ?_; rintro e v1 ⟨rfl, hb⟩; replace EX := Ext.trans EX hb; clear hb) | (go_at_call 17; with_reducible refine (F1 _ EX).mono ?_; rintro e v1 ⟨rfl, hb⟩; replace EX := Ext.trans EX hb; clear hb) | (go_at_call 18; with_reducible refine (F2 _).mono ?_; rintro e v1 ⟨rfl, hb⟩; replace EX := Ext.trans EX hb; clear hb) | (go_at_call 19; with_reducible refine (C1 _ EX).mono ?_; rintro e v1 ⟨rfl, hb⟩; replace EX := Ext.trans EX hb; clear hb) | (go_at_call 20; with_reducible refine (C2 _).mono ?_; rintro e v1 ⟨rfl, hb⟩; replace EX := Ext.trans EX hb; clear hb) | (go_at_call 21; with_reducible refine (O1 _ EX).mono ?_; rintro e v1 ⟨rfl, hb⟩; replace EX := Ext.trans EX hb; clear hb) | (go_at_call 22; with_reducible refine (O2 _).mono ?_; rintro e v1 ⟨rfl, hb⟩; replace EX := Ext.trans EX hb; clear hb) | (go_at_call 23; with_reducible refine (T1 _ EX).mono ?_; rintro e v1 ⟨rfl, hb⟩; replace EX := Ext.trans EX hb; clear hb) | (go_at_call 24; with_reducible refine (T2 _).mono ?_; rintro e v1 ⟨rfl, hb⟩; replace EX := Ext.trans EX hb; clear hb) | (go_at_call 25; with_reducible refine (LV _ EX).mono ?_; rintro e v1 ⟨rfl, hb⟩; replace EX := Ext.trans EX hb; clear hb))
  go_ret
  exact ⟨rfl, EX⟩
end Go.Proofs.YtibfeaafmcphjaaDoor
