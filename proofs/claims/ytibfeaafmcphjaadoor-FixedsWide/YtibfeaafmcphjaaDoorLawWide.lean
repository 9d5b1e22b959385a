/- The walk of the given function FixedsWide: it returns true at every two numbers of 64 bits, where the package's table is as it was laid. -/
import Derived.Test.YtibfeaafmcphjaaDoorFixE
import Derived.Test.YtibfeaafmcphjaaDoorFixR
namespace Go.Proofs.YtibfeaafmcphjaaDoor
open Go.RowKit Go.BigFrame
set_option linter.unusedSimpArgs false
set_option linter.unusedVariables false

set_option maxRecDepth 20000 in
set_option maxHeartbeats 8000000 in
theorem wide_law (n d : Int) (hn : In64 n) (hd : In64 d) (w : World) (L : Laid w) : Calls Tryd.prog 4 #[.int .i64 n, .int .i64 d] w fun e w' => e = .returned (.bool true) ∧ Ext w w' := by
  have LV := fun v E => lives_any w L v E
  have D1 := fun w => ratio_any n d hn hd w
  have D2 := fun w => r2ratio_any n d hn hd w
  have S1 := fun w => sat_any n hn w
  have S2 := fun w => r2sat_any n hn w
  have O1 := fun w => fof_any d hd w
  have O2 := fun w => r2of_any d hd w
  have w1 := wrap_in64 hn
  have w2 := wrap_in64 hd
  have EX := Ext.refl w
  clear L hn hd
  generalize rat n d = x1 at *
  generalize rate d = x2 at *
  generalize held n = x3 at *
  generalize held (d * 65536) = x4 at *
  go_enter Tryd.func4, Tryd.ntmps4
  go_wp2_with (first | (go_at_call 26; with_reducible refine (D1 _).mono ?_; rintro e v1 ⟨rfl, hb⟩; replace EX := Ext.trans EX hb; clear hb) | (go_at_call 27; with_reducible refine (D2 _).mono ?_; rintro e v1 ⟨rfl, hb⟩; replace EX := Ext.trans EX hb; clear hb) | (go_at_call 28; with_reducible refine (S1 _).mono ?_; rintro e v1 ⟨rfl, hb⟩; replace EX := Ext.trans EX hb; clear hb) | (go_at_call 29; with_reducible refine (S2 _).mono ?_; rintro e v1 ⟨rfl, hb⟩; replace EX := Ext.trans EX hb; clear hb) | (go_at_call 30; with_reducible refine (O1 _).mono ?_; rintro e v1 ⟨rfl, hb⟩; replace EX := Ext.trans EX hb; clear hb) | (go_at_call 31; with_reducible refine (O2 _).mono ?_; rintro e v1 ⟨rfl, hb⟩; replace EX := Ext.trans EX hb; clear hb) | (go_at_call 25; with_reducible refine (LV _ EX).mono ?_; rintro e v1 ⟨rfl, hb⟩; replace EX := Ext.trans EX hb; clear hb))
  go_ret
  exact ⟨rfl, EX⟩
end Go.Proofs.YtibfeaafmcphjaaDoor
