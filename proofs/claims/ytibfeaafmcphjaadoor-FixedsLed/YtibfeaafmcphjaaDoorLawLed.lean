/- The walk of the given function FixedsLed: it returns true at every number of 32 bits and every two ranges, where the package's table is as it was laid. -/
import Derived.Test.YtibfeaafmcphjaaDoorFixE
import Derived.Test.YtibfeaafmcphjaaDoorFixR
namespace Go.Proofs.YtibfeaafmcphjaaDoor
open Go.RowKit Go.BigFrame
set_option linter.unusedSimpArgs false
set_option linter.unusedVariables false

set_option maxRecDepth 20000 in
set_option maxHeartbeats 8000000 in
theorem led_law (x a b c d : Int) (hx : In32 x) (ha : In32 a) (hb : In32 b) (hc : In32 c) (hd : In32 d) (w : World) (L : Laid w) : Calls Tryd.prog 5 #[.int .i32 x, .agg #[.int .i32 a, .int .i32 b], .agg #[.int .i32 c, .int .i32 d]] w fun e w' => e = .returned (.bool true) ∧ Ext w w' := by
  have LV := fun v E => lives_any w L v E
  have L1 := fun w => line_any x a b c d hx ha hb hc hd w
  have L2 := fun w => r2line_any x a b c d hx ha hb hc hd w
  have EX := Ext.refl w
  clear L hx ha hb hc hd
  generalize led x a b c d = x1 at *
  generalize lede a b = x2 at *
  go_enter Tryd.func5, Tryd.ntmps5
  go_upto_region 1 with fail
  refine rebase (G := fun w' => Code.wp _ _ _ _ w') _ (fun v1 => Ext w v1 ∧ S2m v1 (w.heap.size) (.int .i32 a) (.int .i32 b) ∧ S2m v1 (w.heap.size + 1) (.int .i32 c) (.int .i32 d)) ⟨by repeat (first | with_reducible exact EX | with_reducible refine Ext.alloc ?_ _ | with_reducible refine Ext.drew ?_ | with_reducible refine Ext.drewN ?_ _ | with_reducible refine Ext.setCell ?_ (by first | (simp; done) | omega | (dsimp only; omega)) _), by repeat (first | with_reducible assumption | with_reducible refine S2m.drew ?_ | with_reducible refine S2m.drewN ?_ _ | (with_reducible refine S2m.skip ?_ ?_; focus (first | omega | (simp; done))) | with_reducible refine S2m.store ?_ | with_reducible refine S2m.set0 ?_ _ | with_reducible refine S2m.set1 ?_ _ | with_reducible refine S2m.new (by first | rfl | (simp; done) | with_unfolding_all rfl) (by with_unfolding_all rfl) (by with_unfolding_all rfl) | with_reducible refine S2m.alloc ?_ _ | exact S2m.any (by with_reducible assumption) | with_reducible refine S2mAny.drew ?_ | with_reducible refine S2mAny.drewN ?_ _ | (with_reducible refine S2mAny.skip ?_ ?_; focus (first | omega | (simp; done))) | with_reducible refine S2mAny.alloc ?_ _), by repeat (first | with_reducible assumption | with_reducible refine S2m.drew ?_ | with_reducible refine S2m.drewN ?_ _ | (with_reducible refine S2m.skip ?_ ?_; focus (first | omega | (simp; done))) | with_reducible refine S2m.store ?_ | with_reducible refine S2m.set0 ?_ _ | with_reducible refine S2m.set1 ?_ _ | with_reducible refine S2m.new (by first | rfl | (simp; done) | with_unfolding_all rfl) (by with_unfolding_all rfl) (by with_unfolding_all rfl) | with_reducible refine S2m.alloc ?_ _ | exact S2m.any (by with_reducible assumption) | with_reducible refine S2mAny.drew ?_ | with_reducible refine S2mAny.drewN ?_ _ | (with_reducible refine S2mAny.skip ?_ ?_; focus (first | omega | (simp; done))) | with_reducible refine S2mAny.alloc ?_ _)⟩ ?_; clear EX ; rintro v1 ⟨EX, SA, SB⟩; rename World => v; have SAc0 := SA.c0; have SAc1 := SA.c1; have SAfz := SA.fz; have SAlt := SA.lt; have SBc0 := SB.c0; have SBc1 := SB.c1; have SBfz := SB.fz; have SBlt := SB.lt
  go_wp2_with (first | (go_at_call 32; with_reducible refine (L1 _).mono ?_; rintro e v1 ⟨rfl, hb⟩; replace EX := Ext.trans EX hb; replace SA := SA.later hb; replace SB := SB.later hb; replace SAc0 := SA.c0; replace SAc1 := SA.c1; replace SAfz := SA.fz; replace SAlt := SA.lt; replace SBc0 := SB.c0; replace SBc1 := SB.c1; replace SBfz := SB.fz; replace SBlt := SB.lt; clear hb v; rename World => v) | (go_at_call 33; with_reducible refine (L2 _).mono ?_; rintro e v1 ⟨rfl, hb⟩; replace EX := Ext.trans EX hb; replace SA := SA.later hb; replace SB := SB.later hb; replace SAc0 := SA.c0; replace SAc1 := SA.c1; replace SAfz := SA.fz; replace SAlt := SA.lt; replace SBc0 := SB.c0; replace SBc1 := SB.c1; replace SBfz := SB.fz; replace SBlt := SB.lt; clear hb v; rename World => v) | (go_at_call 25; with_reducible refine (LV _ EX).mono ?_; rintro e v1 ⟨rfl, hb⟩; replace EX := Ext.trans EX hb; replace SA := SA.later hb; replace SB := SB.later hb; replace SAc0 := SA.c0; replace SAc1 := SA.c1; replace SAfz := SA.fz; replace SAlt := SA.lt; replace SBc0 := SB.c0; replace SBc1 := SB.c1; replace SBfz := SB.fz; replace SBlt := SB.lt; clear hb v; rename World => v))
  go_ret
  exact ⟨rfl, EX⟩
end Go.Proofs.YtibfeaafmcphjaaDoor
