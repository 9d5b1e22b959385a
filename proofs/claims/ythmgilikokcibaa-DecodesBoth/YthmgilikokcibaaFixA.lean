/- What the functions of package fixeds that hold a number within the ends do, called at any arguments: hold, holder, Sat, Of, Add, Sub. -/
import Derived.Test.YthmgilikokcibaaWideE
import Derived.Test.YthmgilikokcibaaBoxS
import Derived.Test.YthmgilikokcibaaMany
namespace Go.Proofs.Ythmgilikokcibaa
open Go.RowKit Go.BigFrame
set_option linter.unusedSimpArgs false
set_option linter.unusedVariables false

/-- A number of 32 bits. -/
def In32 (n : Int) : Prop := -2147483648 ≤ n ∧ n ≤ 2147483647
/-- A number, or the end that it is beyond. -/
def held (x : Int) : Int := if x < -2147483648 then -2147483648 else if 2147483647 < x then 2147483647 else x
theorem held_in (x : Int) : In32 (held x) := by unfold held In32; split <;> (try split) <;> omega
theorem held_id {x : Int} (h : In32 x) : held x = x := by unfold held In32 at *; rw [if_neg (by omega), if_neg (by omega)]
theorem in32_64 {n : Int} (h : In32 n) : In64 n := by unfold In32 In64 at *; omega
theorem wrap_in64 {n : Int} (h : In64 n) : wrap64 n = n := by simp [wrap64]; unfold In64 at *; omega
theorem wrap_in32 {n : Int} (h : In32 n) : wrap32 n = n := by simp [wrap32]; unfold In32 at *; omega
set_option maxHeartbeats 4000000 in
theorem hold_any (x : Int) (hx : InW x) (w : World) : Calls Try.prog 66 #[.agg #[.int .i32 (-2147483648), .int .i32 2147483647], (.agg #[.int .i64 (hi (x)), .int .u64 (lo (x))])] w fun e w' => e = .returned (.int .i32 (held x)) ∧ Ext w w' := by
  have EX := Ext.refl w
  have o1 := fun w => of_any (-2147483648) ⟨by decide, by decide⟩ w
  have o2 := fun w => of_any 2147483647 ⟨by decide, by decide⟩ w
  have k1 := fun w => cmp_any x (-2147483648) w
  have k2 := fun w => cmp_any x 2147483647 w
  have it := fun w => int_any x w
  clear hx
  unfold held
  by_cases c1 : x < -2147483648
  · rw [show sgn x (-2147483648) = -1 by unfold sgn; rw [if_pos c1]] at k1
    rw [if_pos c1]
    clear c1 o2 k2 it
    go_enter Try.func66, Try.ntmps66
    go_upto_region 1 with fail
    refine rebase (G := fun w' => Code.wp _ _ _ _ w') _ (fun v1 => Ext w v1 ∧ S2m v1 (w.heap.size) (.int .i32 (-2147483648)) (.int .i32 2147483647) ∧ Wm v1 (w.heap.size + 1) (hi x) (lo x)) ⟨by repeat (first | with_reducible exact EX | with_reducible refine Ext.alloc ?_ _ | with_reducible refine Ext.drew ?_ | with_reducible refine Ext.drewN ?_ _ | with_reducible refine Ext.setCell ?_ (by first | (simp; done) | omega | (dsimp only; omega)) _), by repeat (first | with_reducible assumption | with_reducible refine S2m.drew ?_ | with_reducible refine S2m.drewN ?_ _ | (with_reducible refine S2m.skip ?_ ?_; focus (first | omega | (simp; done))) | with_reducible refine S2m.store ?_ | with_reducible refine S2m.set0 ?_ _ | with_reducible refine S2m.set1 ?_ _ | with_reducible refine S2m.new (by first | rfl | (simp; done) | with_unfolding_all rfl) (by with_unfolding_all rfl) (by with_unfolding_all rfl) | with_reducible refine S2m.alloc ?_ _ | exact S2m.any (by with_reducible assumption) | with_reducible refine S2mAny.drew ?_ | with_reducible refine S2mAny.drewN ?_ _ | (with_reducible refine S2mAny.skip ?_ ?_; focus (first | omega | (simp; done))) | with_reducible refine S2mAny.alloc ?_ _), by repeat (first | with_reducible assumption | with_reducible refine Wm.drew ?_ | with_reducible refine Wm.drewN ?_ _ | (with_reducible refine Wm.skip ?_ ?_; focus (first | omega | (simp; done))) | with_reducible refine Wm.store ?_ _ _ | with_reducible refine Wm.new (by first | rfl | (simp; done) | with_unfolding_all rfl) (by with_unfolding_all rfl) (by with_unfolding_all rfl) | with_reducible refine Wm.alloc ?_ _ | exact Wm.any (by with_reducible assumption) | with_reducible refine WmAny.drew ?_ | with_reducible refine WmAny.drewN ?_ _ | (with_reducible refine WmAny.skip ?_ ?_; focus (first | omega | (simp; done))) | with_reducible refine WmAny.alloc ?_ _)⟩ ?_; clear EX ; rintro v1 ⟨EX, SS, WA⟩; rename World => v; have SSc0 := SS.c0; have SSc1 := SS.c1; have SSfz := SS.fz; have SSlt := SS.lt; have WAhi := WA.hi; have WAlo := WA.lo; have WAfz := WA.fz; have WAlt := WA.lt
    have gSSc0 := fun x' : Grow v => (SS.later x'.ext).c0; have gSSc1 := fun x' : Grow v => (SS.later x'.ext).c1; have gSSfz := fun x' : Grow v => (SS.later x'.ext).fz; have gSSlt := fun x' : Grow v => (SS.later x'.ext).lt; have gWAhi := fun x' : Grow v => (WA.later x'.ext).hi; have gWAlo := fun x' : Grow v => (WA.later x'.ext).lo; have gWAfz := fun x' : Grow v => (WA.later x'.ext).fz; have gWAlt := fun x' : Grow v => (WA.later x'.ext).lt; refine wp_region_grow (by kernel_rfl) (by kernel_rfl) ?_; (repeat (first | go_big_quiet_step ((go_at_call 36; with_reducible exact calls_grow (o1 _))) | go_big_quiet_step ((go_at_call 20; with_reducible exact calls_grow (k1 _))) | go_big_quiet_step (fail))); refine wpQuiet_nil ?_; clear gSSc0 gSSc1 gSSfz gSSlt gWAhi gWAlo gWAfz gWAlt; rintro _ ⟨xq, rfl⟩; replace EX := Ext.trans EX xq.ext; replace SS := SS.later xq.ext; replace WA := WA.later xq.ext; replace SSc0 := SS.c0; replace SSc1 := SS.c1; replace SSfz := SS.fz; replace SSlt := SS.lt; replace WAhi := WA.hi; replace WAlo := WA.lo; replace WAfz := WA.fz; replace WAlt := WA.lt; generalize xq.out = v1 at *; clear xq v; rename World => v
    go_wp2
    go_ret
    exact ⟨rfl, EX⟩
  · have d1 : decide (sgn x (-2147483648) < 0) = false := by unfold sgn; rw [if_neg c1]; split <;> simp
    rw [if_neg c1]
    by_cases c2 : 2147483647 < x
    · rw [show sgn x 2147483647 = 1 by unfold sgn; rw [if_neg (by omega), if_neg (by omega)]] at k2
      rw [if_pos c2]
      clear c1 c2 it
      generalize sgn x (-2147483648) = s1 at *
      go_enter Try.func66, Try.ntmps66
      go_upto_region 1 with fail
      refine rebase (G := fun w' => Code.wp _ _ _ _ w') _ (fun v1 => Ext w v1 ∧ S2m v1 (w.heap.size) (.int .i32 (-2147483648)) (.int .i32 2147483647) ∧ Wm v1 (w.heap.size + 1) (hi x) (lo x)) ⟨by repeat (first | with_reducible exact EX | with_reducible refine Ext.alloc ?_ _ | with_reducible refine Ext.drew ?_ | with_reducible refine Ext.drewN ?_ _ | with_reducible refine Ext.setCell ?_ (by first | (simp; done) | omega | (dsimp only; omega)) _), by repeat (first | with_reducible assumption | with_reducible refine S2m.drew ?_ | with_reducible refine S2m.drewN ?_ _ | (with_reducible refine S2m.skip ?_ ?_; focus (first | omega | (simp; done))) | with_reducible refine S2m.store ?_ | with_reducible refine S2m.set0 ?_ _ | with_reducible refine S2m.set1 ?_ _ | with_reducible refine S2m.new (by first | rfl | (simp; done) | with_unfolding_all rfl) (by with_unfolding_all rfl) (by with_unfolding_all rfl) | with_reducible refine S2m.alloc ?_ _ | exact S2m.any (by with_reducible assumption) | with_reducible refine S2mAny.drew ?_ | with_reducible refine S2mAny.drewN ?_ _ | (with_reducible refine S2mAny.skip ?_ ?_; focus (first | omega | (simp; done))) | with_reducible refine S2mAny.alloc ?_ _), by repeat (first | with_reducible assumption | with_reducible refine Wm.drew ?_ | with_reducible refine Wm.drewN ?_ _ | (with_reducible refine Wm.skip ?_ ?_; focus (first | omega | (simp; done))) | with_reducible refine Wm.store ?_ _ _ | with_reducible refine Wm.new (by first | rfl | (simp; done) | with_unfolding_all rfl) (by with_unfolding_all rfl) (by with_unfolding_all rfl) | with_reducible refine Wm.alloc ?_ _ | exact Wm.any (by with_reducible assumption) | with_reducible refine WmAny.drew ?_ | with_reducible refine WmAny.drewN ?_ _ | (with_reducible refine WmAny.skip ?_ ?_; focus (first | omega | (simp; done))) | with_reducible refine WmAny.alloc ?_ _)⟩ ?_; clear EX ; rintro v1 ⟨EX, SS, WA⟩; rename World => v; have SSc0 := SS.c0; have SSc1 := SS.c1; have SSfz := SS.fz; have SSlt := SS.lt; have WAhi := WA.hi; have WAlo := WA.lo; have WAfz := WA.fz; have WAlt := WA.lt
      have gSSc0 := fun x' : Grow v => (SS.later x'.ext).c0; have gSSc1 := fun x' : Grow v => (SS.later x'.ext).c1; have gSSfz := fun x' : Grow v => (SS.later x'.ext).fz; have gSSlt := fun x' : Grow v => (SS.later x'.ext).lt; have gWAhi := fun x' : Grow v => (WA.later x'.ext).hi; have gWAlo := fun x' : Grow v => (WA.later x'.ext).lo; have gWAfz := fun x' : Grow v => (WA.later x'.ext).fz; have gWAlt := fun x' : Grow v => (WA.later x'.ext).lt; refine wp_region_grow (by kernel_rfl) (by kernel_rfl) ?_; (repeat (first | go_big_quiet_step ((go_at_call 36; with_reducible exact calls_grow (o1 _))) | go_big_quiet_step ((go_at_call 20; with_reducible exact calls_grow (k1 _))) | go_big_quiet_step (fail))); refine wpQuiet_nil ?_; clear gSSc0 gSSc1 gSSfz gSSlt gWAhi gWAlo gWAfz gWAlt; rintro _ ⟨xq, rfl⟩; replace EX := Ext.trans EX xq.ext; replace SS := SS.later xq.ext; replace WA := WA.later xq.ext; replace SSc0 := SS.c0; replace SSc1 := SS.c1; replace SSfz := SS.fz; replace SSlt := SS.lt; replace WAhi := WA.hi; replace WAlo := WA.lo; replace WAfz := WA.fz; replace WAlt := WA.lt; generalize xq.out = v1 at *; clear xq v; rename World => v
      go_upto_region 3 with fail
      have gSSc0 := fun x' : Grow v => (SS.later x'.ext).c0; have gSSc1 := fun x' : Grow v => (SS.later x'.ext).c1; have gSSfz := fun x' : Grow v => (SS.later x'.ext).fz; have gSSlt := fun x' : Grow v => (SS.later x'.ext).lt; have gWAhi := fun x' : Grow v => (WA.later x'.ext).hi; have gWAlo := fun x' : Grow v => (WA.later x'.ext).lo; have gWAfz := fun x' : Grow v => (WA.later x'.ext).fz; have gWAlt := fun x' : Grow v => (WA.later x'.ext).lt; refine wp_region_grow (by kernel_rfl) (by kernel_rfl) ?_; (repeat (first | go_big_quiet_step ((go_at_call 36; with_reducible exact calls_grow (o2 _))) | go_big_quiet_step ((go_at_call 20; with_reducible exact calls_grow (k2 _))) | go_big_quiet_step (fail))); refine wpQuiet_nil ?_; clear gSSc0 gSSc1 gSSfz gSSlt gWAhi gWAlo gWAfz gWAlt; rintro _ ⟨xq, rfl⟩; replace EX := Ext.trans EX xq.ext; replace SS := SS.later xq.ext; replace WA := WA.later xq.ext; replace SSc0 := SS.c0; replace SSc1 := SS.c1; replace SSfz := SS.fz; replace SSlt := SS.lt; replace WAhi := WA.hi; replace WAlo := WA.lo; replace WAfz := WA.fz; replace WAlt := WA.lt; generalize xq.out = v1 at *; clear xq v; rename World => v
      go_wp2
      go_ret
      exact ⟨rfl, EX⟩
    · have d2 : ¬ 0 < sgn x 2147483647 := by unfold sgn; split <;> (try split) <;> omega
      have hy : In64 x := by unfold In64; omega
      have hz : wrap32 x = x := wrap_in32 ⟨by omega, by omega⟩
      rw [if_neg c2]
      rw [show wrap64 x = x from wrap_in64 hy, if_pos rfl] at it
      clear c1 c2 hy
      generalize sgn x (-2147483648) = s1 at *
      generalize sgn x 2147483647 = s2 at *
      go_enter Try.func66, Try.ntmps66
      go_upto_region 1 with fail
      refine rebase (G := fun w' => Code.wp _ _ _ _ w') _ (fun v1 => Ext w v1 ∧ S2m v1 (w.heap.size) (.int .i32 (-2147483648)) (.int .i32 2147483647) ∧ Wm v1 (w.heap.size + 1) (hi x) (lo x)) ⟨by repeat (first | with_reducible exact EX | with_reducible refine Ext.alloc ?_ _ | with_reducible refine Ext.drew ?_ | with_reducible refine Ext.drewN ?_ _ | with_reducible refine Ext.setCell ?_ (by first | (simp; done) | omega | (dsimp only; omega)) _), by repeat (first | with_reducible assumption | with_reducible refine S2m.drew ?_ | with_reducible refine S2m.drewN ?_ _ | (with_reducible refine S2m.skip ?_ ?_; focus (first | omega | (simp; done))) | with_reducible refine S2m.store ?_ | with_reducible refine S2m.set0 ?_ _ | with_reducible refine S2m.set1 ?_ _ | with_reducible refine S2m.new (by first | rfl | (simp; done) | with_unfolding_all rfl) (by with_unfolding_all rfl) (by with_unfolding_all rfl) | with_reducible refine S2m.alloc ?_ _ | exact S2m.any (by with_reducible assumption) | with_reducible refine S2mAny.drew ?_ | with_reducible refine S2mAny.drewN ?_ _ | (with_reducible refine S2mAny.skip ?_ ?_; focus (first | omega | (simp; done))) | with_reducible refine S2mAny.alloc ?_ _), by repeat (first | with_reducible assumption | with_reducible refine Wm.drew ?_ | with_reducible refine Wm.drewN ?_ _ | (with_reducible refine Wm.skip ?_ ?_; focus (first | omega | (simp; done))) | with_reducible refine Wm.store ?_ _ _ | with_reducible refine Wm.new (by first | rfl | (simp; done) | with_unfolding_all rfl) (by with_unfolding_all rfl) (by with_unfolding_all rfl) | with_reducible refine Wm.alloc ?_ _ | exact Wm.any (by with_reducible assumption) | with_reducible refine WmAny.drew ?_ | with_reducible refine WmAny.drewN ?_ _ | (with_reducible refine WmAny.skip ?_ ?_; focus (first | omega | (simp; done))) | with_reducible refine WmAny.alloc ?_ _)⟩ ?_; clear EX ; rintro v1 ⟨EX, SS, WA⟩; rename World => v; have SSc0 := SS.c0; have SSc1 := SS.c1; have SSfz := SS.fz; have SSlt := SS.lt; have WAhi := WA.hi; have WAlo := WA.lo; have WAfz := WA.fz; have WAlt := WA.lt
      have gSSc0 := fun x' : Grow v => (SS.later x'.ext).c0; have gSSc1 := fun x' : Grow v => (SS.later x'.ext).c1; have gSSfz := fun x' : Grow v => (SS.later x'.ext).fz; have gSSlt := fun x' : Grow v => (SS.later x'.ext).lt; have gWAhi := fun x' : Grow v => (WA.later x'.ext).hi; have gWAlo := fun x' : Grow v => (WA.later x'.ext).lo; have gWAfz := fun x' : Grow v => (WA.later x'.ext).fz; have gWAlt := fun x' : Grow v => (WA.later x'.ext).lt; refine wp_region_grow (by kernel_rfl) (by kernel_rfl) ?_; (repeat (first | go_big_quiet_step ((go_at_call 36; with_reducible exact calls_grow (o1 _))) | go_big_quiet_step ((go_at_call 20; with_reducible exact calls_grow (k1 _))) | go_big_quiet_step (fail))); refine wpQuiet_nil ?_; clear gSSc0 gSSc1 gSSfz gSSlt gWAhi gWAlo gWAfz gWAlt; rintro _ ⟨xq, rfl⟩; replace EX := Ext.trans EX xq.ext; replace SS := SS.later xq.ext; replace WA := WA.later xq.ext; replace SSc0 := SS.c0; replace SSc1 := SS.c1; replace SSfz := SS.fz; replace SSlt := SS.lt; replace WAhi := WA.hi; replace WAlo := WA.lo; replace WAfz := WA.fz; replace WAlt := WA.lt; generalize xq.out = v1 at *; clear xq v; rename World => v
      go_upto_region 3 with fail
      have gSSc0 := fun x' : Grow v => (SS.later x'.ext).c0; have gSSc1 := fun x' : Grow v => (SS.later x'.ext).c1; have gSSfz := fun x' : Grow v => (SS.later x'.ext).fz; have gSSlt := fun x' : Grow v => (SS.later x'.ext).lt; have gWAhi := fun x' : Grow v => (WA.later x'.ext).hi; have gWAlo := fun x' : Grow v => (WA.later x'.ext).lo; have gWAfz := fun x' : Grow v => (WA.later x'.ext).fz; have gWAlt := fun x' : Grow v => (WA.later x'.ext).lt; refine wp_region_grow (by kernel_rfl) (by kernel_rfl) ?_; (repeat (first | go_big_quiet_step ((go_at_call 36; with_reducible exact calls_grow (o2 _))) | go_big_quiet_step ((go_at_call 20; with_reducible exact calls_grow (k2 _))) | go_big_quiet_step (fail))); refine wpQuiet_nil ?_; clear gSSc0 gSSc1 gSSfz gSSlt gWAhi gWAlo gWAfz gWAlt; rintro _ ⟨xq, rfl⟩; replace EX := Ext.trans EX xq.ext; replace SS := SS.later xq.ext; replace WA := WA.later xq.ext; replace SSc0 := SS.c0; replace SSc1 := SS.c1; replace SSfz := SS.fz; replace SSlt := SS.lt; replace WAhi := WA.hi; replace WAlo := WA.lo; replace WAfz := WA.fz; replace WAlt := WA.lt; generalize xq.out = v1 at *; clear xq v; rename World => v
      go_wp2_with (first | (go_at_call 18; with_reducible refine (it _).mono ?_; rintro e v1 ⟨rfl, hb⟩; replace EX := Ext.trans EX hb; replace SS := SS.later hb; replace WA := WA.later hb; replace SSc0 := SS.c0; replace SSc1 := SS.c1; replace SSfz := SS.fz; replace SSlt := SS.lt; replace WAhi := WA.hi; replace WAlo := WA.lo; replace WAfz := WA.fz; replace WAlt := WA.lt; clear hb v; rename World => v))
      go_ret
      exact ⟨by simp [hz], EX⟩
theorem holder_any (w : World) : Calls Try.prog 56 #[] w fun e w' => e = .returned (.func (.func 66) #[.agg #[.int .i32 (-2147483648), .int .i32 2147483647]] #[]) ∧ Ext w w' := by
  have hmf : ∀ (fn : Fn) (first cap : Array Value) (w : World), (Instr.makeFunc fn first cap).run Try.prog w = .ok (.func fn first cap) w := fun _ _ _ _ => rfl
  go_enter Try.func56, Try.ntmps56
  go_wp2
  go_ret
  exact ⟨rfl, Ext.refl _⟩
theorem sat_any (n : Int) (hn : In64 n) (w : World) : Calls Try.prog 33 #[.int .i64 n] w fun e w' => e = .returned (.int .i32 (held n)) ∧ Ext w w' := by
  have EX := Ext.refl w
  have H := fun w => hold_any n (in64_W hn) w
  go_enter Try.func33, Try.ntmps33
  go_wp2_with (first | (go_at_call 56; with_reducible refine (holder_any _).mono ?_; rintro e v1 ⟨rfl, hb⟩; replace EX := Ext.trans EX hb; clear hb) | (go_at_call 36; with_reducible refine (of_any n hn _).mono ?_; rintro e v1 ⟨rfl, hb⟩; replace EX := Ext.trans EX hb; clear hb) | (go_at_call 66; with_reducible refine (H _).mono ?_; rintro e v1 ⟨rfl, hb⟩; replace EX := Ext.trans EX hb; clear hb))
  go_ret
  exact ⟨rfl, EX⟩
end Go.Proofs.Ythmgilikokcibaa
