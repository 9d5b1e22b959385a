/- What the given function gouacheref01.Int does, called at any wide number. -/
import Derived.Test.YthmgilikokcibaaRefK
namespace Go.Proofs.Ythmgilikokcibaa
open Go.RowKit Go.BigFrame
set_option linter.unusedSimpArgs false
set_option linter.unusedVariables false

theorem wrap_lo {x : Int} (h : In64 x) : wrap64 (lo x) = x := by simp [wrap64]; unfold lo In64 at *; omega
theorem wrap_iff (x : Int) : (wrap64 x = x) ↔ In64 x := by simp [wrap64]; unfold In64; omega
set_option maxHeartbeats 4000000 in
theorem rint_any (x : Int) (hx : InW x) (w : World) : Calls Try.prog 57 #[(.agg #[.int .i64 (hi (x)), .int .u64 (lo (x))])] w fun e w' => e = .returned (.tuple #[.int .i64 (if wrap64 x = x then x else 0), .bool (decide (wrap64 x = x))]) ∧ Ext w w' := by
  have EX := Ext.refl w
  have o1 := fun w => rof_any (-9223372036854775808) ⟨by decide, by decide⟩ w
  have o2 := fun w => rof_any 9223372036854775807 ⟨by decide, by decide⟩ w
  have k1 := fun w => rcmp_any x (-9223372036854775808) hx ⟨by decide, by decide⟩ w
  have k2 := fun w => rcmp_any x 9223372036854775807 hx ⟨by decide, by decide⟩ w
  have hw := wrap_iff x
  clear hx
  by_cases c1 : x < -9223372036854775808
  · rw [show sgn x (-9223372036854775808) = -1 by unfold sgn; rw [if_pos c1]] at k1
    have hn : ¬ wrap64 x = x := by rw [hw]; unfold In64; omega
    rw [if_neg hn, show decide (wrap64 x = x) = false by simp [hn]]
    clear hw hn c1 o2 k2
    go_enter Try.func57, Try.ntmps57
    go_upto_region 1 with fail
    refine rebase (G := fun w' => Code.wp _ _ _ _ w') _ (fun v1 => Ext w v1 ∧ Wm v1 (w.heap.size) (hi x) (lo x)) ⟨by repeat (first | with_reducible exact EX | with_reducible refine Ext.alloc ?_ _ | with_reducible refine Ext.drew ?_ | with_reducible refine Ext.drewN ?_ _ | with_reducible refine Ext.setCell ?_ (by first | (simp; done) | omega | (dsimp only; omega)) _), by repeat (first | with_reducible assumption | with_reducible refine Wm.drew ?_ | with_reducible refine Wm.drewN ?_ _ | (with_reducible refine Wm.skip ?_ ?_; focus (first | omega | (simp; done))) | with_reducible refine Wm.store ?_ _ _ | with_reducible refine Wm.new (by first | rfl | (simp; done) | with_unfolding_all rfl) (by with_unfolding_all rfl) (by with_unfolding_all rfl) | with_reducible refine Wm.alloc ?_ _ | exact Wm.any (by with_reducible assumption) | with_reducible refine WmAny.drew ?_ | with_reducible refine WmAny.drewN ?_ _ | (with_reducible refine WmAny.skip ?_ ?_; focus (first | omega | (simp; done))) | with_reducible refine WmAny.alloc ?_ _)⟩ ?_; clear EX ; rintro v1 ⟨EX, WA⟩; rename World => v; have WAhi := WA.hi; have WAlo := WA.lo; have WAfz := WA.fz; have WAlt := WA.lt
    have gWAhi := fun x' : Grow v => (WA.later x'.ext).hi; have gWAlo := fun x' : Grow v => (WA.later x'.ext).lo; have gWAfz := fun x' : Grow v => (WA.later x'.ext).fz; have gWAlt := fun x' : Grow v => (WA.later x'.ext).lt; refine wp_region_grow (by kernel_rfl) (by kernel_rfl) ?_; (repeat (first | go_big_quiet_step ((go_at_call 55; with_reducible exact calls_grow (o1 _))) | go_big_quiet_step ((go_at_call 67; with_reducible exact calls_grow (k1 _))) | go_big_quiet_step (fail))); refine wpQuiet_nil ?_; clear gWAhi gWAlo gWAfz gWAlt; rintro _ ⟨xq, rfl⟩; replace EX := Ext.trans EX xq.ext; replace WA := WA.later xq.ext; replace WAhi := WA.hi; replace WAlo := WA.lo; replace WAfz := WA.fz; replace WAlt := WA.lt; generalize xq.out = v1 at *; clear xq v; rename World => v
    go_wp2
    refine bodyPost_ret (by simp only [results, Try.results57]; simp [go_sem, *]; try rfl) rfl ⟨rfl, ?_⟩; repeat (first | with_reducible exact EX | with_reducible refine Ext.alloc ?_ _ | with_reducible refine Ext.drew ?_ | with_reducible refine Ext.drewN ?_ _ | with_reducible refine Ext.setCell ?_ (by first | (simp; done) | omega | (dsimp only; omega)) _)
  · have d1 : decide (sgn x (-9223372036854775808) < 0) = false := by unfold sgn; rw [if_neg c1]; split <;> simp
    by_cases c2 : 9223372036854775807 < x
    · rw [show sgn x 9223372036854775807 = 1 by unfold sgn; rw [if_neg (by omega), if_neg (by omega)]] at k2
      have hn : ¬ wrap64 x = x := by rw [hw]; unfold In64; omega
      rw [if_neg hn, show decide (wrap64 x = x) = false by simp [hn]]
      clear hw hn c1 c2
      generalize sgn x (-9223372036854775808) = s1 at *
      go_enter Try.func57, Try.ntmps57
      go_upto_region 1 with fail
      refine rebase (G := fun w' => Code.wp _ _ _ _ w') _ (fun v1 => Ext w v1 ∧ Wm v1 (w.heap.size) (hi x) (lo x)) ⟨by repeat (first | with_reducible exact EX | with_reducible refine Ext.alloc ?_ _ | with_reducible refine Ext.drew ?_ | with_reducible refine Ext.drewN ?_ _ | with_reducible refine Ext.setCell ?_ (by first | (simp; done) | omega | (dsimp only; omega)) _), by repeat (first | with_reducible assumption | with_reducible refine Wm.drew ?_ | with_reducible refine Wm.drewN ?_ _ | (with_reducible refine Wm.skip ?_ ?_; focus (first | omega | (simp; done))) | with_reducible refine Wm.store ?_ _ _ | with_reducible refine Wm.new (by first | rfl | (simp; done) | with_unfolding_all rfl) (by with_unfolding_all rfl) (by with_unfolding_all rfl) | with_reducible refine Wm.alloc ?_ _ | exact Wm.any (by with_reducible assumption) | with_reducible refine WmAny.drew ?_ | with_reducible refine WmAny.drewN ?_ _ | (with_reducible refine WmAny.skip ?_ ?_; focus (first | omega | (simp; done))) | with_reducible refine WmAny.alloc ?_ _)⟩ ?_; clear EX ; rintro v1 ⟨EX, WA⟩; rename World => v; have WAhi := WA.hi; have WAlo := WA.lo; have WAfz := WA.fz; have WAlt := WA.lt
      have gWAhi := fun x' : Grow v => (WA.later x'.ext).hi; have gWAlo := fun x' : Grow v => (WA.later x'.ext).lo; have gWAfz := fun x' : Grow v => (WA.later x'.ext).fz; have gWAlt := fun x' : Grow v => (WA.later x'.ext).lt; refine wp_region_grow (by kernel_rfl) (by kernel_rfl) ?_; (repeat (first | go_big_quiet_step ((go_at_call 55; with_reducible exact calls_grow (o1 _))) | go_big_quiet_step ((go_at_call 55; with_reducible exact calls_grow (o2 _))) | go_big_quiet_step ((go_at_call 67; with_reducible exact calls_grow (k1 _))) | go_big_quiet_step ((go_at_call 67; with_reducible exact calls_grow (k2 _))) | go_big_quiet_step (fail))); refine wpQuiet_nil ?_; clear gWAhi gWAlo gWAfz gWAlt; rintro _ ⟨xq, rfl⟩; replace EX := Ext.trans EX xq.ext; replace WA := WA.later xq.ext; replace WAhi := WA.hi; replace WAlo := WA.lo; replace WAfz := WA.fz; replace WAlt := WA.lt; generalize xq.out = v1 at *; clear xq v; rename World => v
      go_wp2
      refine bodyPost_ret (by simp only [results, Try.results57]; simp [go_sem, *]; try rfl) rfl ⟨rfl, ?_⟩; repeat (first | with_reducible exact EX | with_reducible refine Ext.alloc ?_ _ | with_reducible refine Ext.drew ?_ | with_reducible refine Ext.drewN ?_ _ | with_reducible refine Ext.setCell ?_ (by first | (simp; done) | omega | (dsimp only; omega)) _)
    · have d2 : ¬ 0 < sgn x 9223372036854775807 := by unfold sgn; split <;> (try split) <;> omega
      have hy : In64 x := by unfold In64; omega
      rw [if_pos (hw.2 hy), show decide (wrap64 x = x) = true by simp [hw.2 hy]]
      have hl := wrap_lo hy
      clear hw c1 c2 hy
      generalize sgn x (-9223372036854775808) = s1 at *
      generalize sgn x 9223372036854775807 = s2 at *
      go_enter Try.func57, Try.ntmps57
      go_upto_region 1 with fail
      refine rebase (G := fun w' => Code.wp _ _ _ _ w') _ (fun v1 => Ext w v1 ∧ Wm v1 (w.heap.size) (hi x) (lo x)) ⟨by repeat (first | with_reducible exact EX | with_reducible refine Ext.alloc ?_ _ | with_reducible refine Ext.drew ?_ | with_reducible refine Ext.drewN ?_ _ | with_reducible refine Ext.setCell ?_ (by first | (simp; done) | omega | (dsimp only; omega)) _), by repeat (first | with_reducible assumption | with_reducible refine Wm.drew ?_ | with_reducible refine Wm.drewN ?_ _ | (with_reducible refine Wm.skip ?_ ?_; focus (first | omega | (simp; done))) | with_reducible refine Wm.store ?_ _ _ | with_reducible refine Wm.new (by first | rfl | (simp; done) | with_unfolding_all rfl) (by with_unfolding_all rfl) (by with_unfolding_all rfl) | with_reducible refine Wm.alloc ?_ _ | exact Wm.any (by with_reducible assumption) | with_reducible refine WmAny.drew ?_ | with_reducible refine WmAny.drewN ?_ _ | (with_reducible refine WmAny.skip ?_ ?_; focus (first | omega | (simp; done))) | with_reducible refine WmAny.alloc ?_ _)⟩ ?_; clear EX ; rintro v1 ⟨EX, WA⟩; rename World => v; have WAhi := WA.hi; have WAlo := WA.lo; have WAfz := WA.fz; have WAlt := WA.lt
      have gWAhi := fun x' : Grow v => (WA.later x'.ext).hi; have gWAlo := fun x' : Grow v => (WA.later x'.ext).lo; have gWAfz := fun x' : Grow v => (WA.later x'.ext).fz; have gWAlt := fun x' : Grow v => (WA.later x'.ext).lt; refine wp_region_grow (by kernel_rfl) (by kernel_rfl) ?_; (repeat (first | go_big_quiet_step ((go_at_call 55; with_reducible exact calls_grow (o1 _))) | go_big_quiet_step ((go_at_call 55; with_reducible exact calls_grow (o2 _))) | go_big_quiet_step ((go_at_call 67; with_reducible exact calls_grow (k1 _))) | go_big_quiet_step ((go_at_call 67; with_reducible exact calls_grow (k2 _))) | go_big_quiet_step (fail))); refine wpQuiet_nil ?_; clear gWAhi gWAlo gWAfz gWAlt; rintro _ ⟨xq, rfl⟩; replace EX := Ext.trans EX xq.ext; replace WA := WA.later xq.ext; replace WAhi := WA.hi; replace WAlo := WA.lo; replace WAfz := WA.fz; replace WAlt := WA.lt; generalize xq.out = v1 at *; clear xq v; rename World => v
      go_wp2
      refine bodyPost_ret (by simp only [results, Try.results57]; simp [go_sem, *]; try rfl) rfl ⟨rfl, ?_⟩; repeat (first | with_reducible exact EX | with_reducible refine Ext.alloc ?_ _ | with_reducible refine Ext.drew ?_ | with_reducible refine Ext.drewN ?_ _ | with_reducible refine Ext.setCell ?_ (by first | (simp; done) | omega | (dsimp only; omega)) _)
end Go.Proofs.Ythmgilikokcibaa
