/- The walk of the given function LayoutsOf: it returns true at every layout and every flag. -/
import Derived.Test.YtmpckombelebjaaDoorLayE
import Derived.Test.YtmpckombelebjaaDoorLayH
import Derived.Test.YtmpckombelebjaaDoorLayD
namespace Go.Proofs.YtmpckombelebjaaDoor
open Go.RowKit Go.BigFrame
set_option linter.unusedSimpArgs false
set_option linter.unusedVariables false

set_option maxRecDepth 20000 in
set_option maxHeartbeats 8000000 in
theorem lof_walk (L : Lay) (u n m : Int) (w : World)
    (CK : ∀ v, Ext w v → Calls Tryd.prog 7 #[(.agg (lv (L)))] v fun e w' => e = .returned (.int .i64 n) ∧ Ext v w')
    (RC : ∀ v, Ext w v → Calls Tryd.prog 8 #[(.agg (lv (L)))] v fun e w' => e = .returned (.int .i64 n) ∧ Ext v w')
    (SZ : ∀ v, Ext w v → Calls Tryd.prog 9 #[(.agg (lv (L))), .int .u8 u] v fun e w' => e = .returned (.int .i64 m) ∧ Ext v w')
    (RS : ∀ v, Ext w v → Calls Tryd.prog 10 #[(.agg (lv (L))), .int .u8 u] v fun e w' => e = .returned (.int .i64 m) ∧ Ext v w')
    (LV : ∀ v, Ext w v → Calls Tryd.prog 11 #[] v fun e w' => e = .returned (.bool true) ∧ Ext v w') :
    Calls Tryd.prog 3 #[(.agg (lv (L))), .int .u8 u] w fun e w' => e = .returned (.bool true) ∧ Ext w w' := by
  have EX := Ext.refl w
  go_enter Tryd.func3, Tryd.ntmps3
  go_upto_region 1 with fail
  refine rebase (G := fun w' => Code.wp _ _ _ _ w') _ (fun v1 => Ext w v1 ∧ Lm v1 (w.heap.size) (L)) ⟨by repeat (first | with_reducible exact EX | with_reducible refine Ext.setCells' ?_ _ (by first | exact EX.more | (have := EX.more; omega)) _ _ |  with_reducible refine Ext.alloc ?_ _ | with_reducible refine Ext.drew ?_ | with_reducible refine Ext.drewN ?_ _ | with_reducible refine Ext.setCell ?_ (by first | (simp; done) | omega | (dsimp only; omega)) _), by repeat (first | with_reducible assumption | with_reducible refine Lm.drew ?_ | with_reducible refine Lm.drewN ?_ _ | (with_reducible refine Lm.skip ?_ ?_; focus (first | omega | (simp; done))) | with_reducible refine Lm.set0 ?_ _ | with_reducible refine Lm.set4 ?_ _ | with_reducible refine Lm.set5 ?_ _ | with_reducible refine Lm.setk ?_ _ (by decide) | (with_reducible refine Lm.cells1 ?_; exact ⟨_, by with_reducible assumption⟩) | (with_reducible refine Lm.skips ?_ _ _ ?_; focus (first | omega | (simp; done))) | (with_reducible refine Lm.new ?_ <;> first | rfl | (simp; done)) | (with_reducible refine Lm.fresh ?_ ?_ <;> first | rfl | (simp; done)) | with_reducible refine Lm.alloc ?_ _)⟩ ?_; clear EX ; rintro v1 ⟨EX, LB⟩; rename World => v; have LBc0 := LB.c0; have LBc1 := LB.c1; have LBc2 := LB.c2; have LBc3 := LB.c3; have LBc4 := LB.c4; have LBc5 := LB.c5; have LBdg := LB.dg; have LBfz := LB.fz; have LBlt := LB.lt
  have gLBc0 := fun x' : Grow v => (LB.later x'.ext).c0; have gLBc1 := fun x' : Grow v => (LB.later x'.ext).c1; have gLBc2 := fun x' : Grow v => (LB.later x'.ext).c2; have gLBc3 := fun x' : Grow v => (LB.later x'.ext).c3; have gLBc4 := fun x' : Grow v => (LB.later x'.ext).c4; have gLBc5 := fun x' : Grow v => (LB.later x'.ext).c5; have gLBdg := fun x' : Grow v => (LB.later x'.ext).dg; have gLBfz := fun x' : Grow v => (LB.later x'.ext).fz; have gLBlt := fun x' : Grow v => (LB.later x'.ext).lt; refine wp_region_grow (by kernel_rfl) (by kernel_rfl) ?_; (repeat (first | (go_big_quiet_want; refine quiet_load_lay _ (w.heap.size) rfl rfl (by rintro _ ⟨x', rfl⟩; exact LB.later x'.ext) ?_; simp only [Act.put, List.setIfInBounds_toArray, List.set_cons_succ, List.set_cons_zero]; go_big_quiet_on) | go_big_quiet_step ((go_at_call 7; with_reducible exact calls_grow (CK _ (Ext.trans EX (Grow.ext _))))) | go_big_quiet_step ((go_at_call 8; with_reducible exact calls_grow (RC _ (Ext.trans EX (Grow.ext _))))) | go_big_quiet_step ((go_at_call 9; with_reducible exact calls_grow (SZ _ (Ext.trans EX (Grow.ext _))))) | go_big_quiet_step ((go_at_call 10; with_reducible exact calls_grow (RS _ (Ext.trans EX (Grow.ext _))))) | go_big_quiet_step ((go_at_call 11; with_reducible exact calls_grow (LV _ (Ext.trans EX (Grow.ext _))))) | go_big_quiet_step (fail))); refine wpQuiet_nil ?_; clear gLBc0 gLBc1 gLBc2 gLBc3 gLBc4 gLBc5 gLBdg gLBfz gLBlt; rintro _ ⟨xq, rfl⟩; replace EX := Ext.trans EX xq.ext; replace LB := LB.later xq.ext; replace LBc0 := LB.c0; replace LBc1 := LB.c1; replace LBc2 := LB.c2; replace LBc3 := LB.c3; replace LBc4 := LB.c4; replace LBc5 := LB.c5; replace LBdg := LB.dg; replace LBfz := LB.fz; replace LBlt := LB.lt; generalize xq.out = v1 at *; clear xq v; rename World => v
  go_wp2
  go_ret
  exact ⟨rfl, EX⟩
theorem lof_law (L : Lay) (u : Int) (hu : 0 ≤ u ∧ u < 256) (w : World) (TL : LaidL w) : Calls Tryd.prog 3 #[(.agg (lv (L))), .int .u8 u] w fun e w' => e = .returned (.bool true) ∧ Ext w w' :=
  lof_walk L u _ _ w (fun v h => lcheck_any L v (TL.later (h))) (fun v _ => rcheck_any L v) (fun v h => lsize_any L u hu v (TL.later (h))) (fun v _ => rsize_any L u hu v) (fun v h => lives_any v (TL.later (h)))
end Go.Proofs.YtmpckombelebjaaDoor
