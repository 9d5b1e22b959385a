/- What the given functions gouacheref02.Hold, num, times do, called at any numbers. -/
import Derived.Test.YthmgilikokcibaaRefR
import Derived.Test.YthmgilikokcibaaRefQ
import Derived.Test.YthmgilikokcibaaFixM
namespace Go.Proofs.Ythmgilikokcibaa
open Go.RowKit Go.BigFrame
set_option linter.unusedSimpArgs false
set_option linter.unusedVariables false

set_option maxHeartbeats 8000000 in
theorem rhold_walk (s t U c1 c2 b1 b2 ok : Bool) (X Y V K1 K2 q n r : Int) (ne : ∀ w, Calls Try.prog 30 #[(.agg #[.bool (s), .int .i64 (dg (X) 0), .int .i64 (dg (X) 1), .int .i64 (dg (X) 2), .int .i64 (dg (X) 3), .int .i64 (dg (X) 4), .int .i64 (dg (X) 5), .int .i64 (dg (X) 6), .int .i64 (dg (X) 7), .int .i64 (dg (X) 8), .int .i64 (dg (X) 9), .int .i64 (dg (X) 10), .int .i64 (dg (X) 11)]), (.agg #[.bool (t), .int .i64 (dg (Y) 0), .int .i64 (dg (Y) 1), .int .i64 (dg (Y) 2), .int .i64 (dg (Y) 3), .int .i64 (dg (Y) 4), .int .i64 (dg (Y) 5), .int .i64 (dg (Y) 6), .int .i64 (dg (Y) 7), .int .i64 (dg (Y) 8), .int .i64 (dg (Y) 9), .int .i64 (dg (Y) 10), .int .i64 (dg (Y) 11)])] w fun e w' => e = .returned (.agg #[.bool (U), .int .i64 (dg (V) 0), .int .i64 (dg (V) 1), .int .i64 (dg (V) 2), .int .i64 (dg (V) 3), .int .i64 (dg (V) 4), .int .i64 (dg (V) 5), .int .i64 (dg (V) 6), .int .i64 (dg (V) 7), .int .i64 (dg (V) 8), .int .i64 (dg (V) 9), .int .i64 (dg (V) 10), .int .i64 (dg (V) 11)]) ∧ Ext w w')
    (sl1 : ∀ w, Calls Try.prog 31 #[.int .i64 2147483647] w fun e w' => e = .returned (.agg #[.bool (c1), .int .i64 (dg (K1) 0), .int .i64 (dg (K1) 1), .int .i64 (dg (K1) 2), .int .i64 (dg (K1) 3), .int .i64 (dg (K1) 4), .int .i64 (dg (K1) 5), .int .i64 (dg (K1) 6), .int .i64 (dg (K1) 7), .int .i64 (dg (K1) 8), .int .i64 (dg (K1) 9), .int .i64 (dg (K1) 10), .int .i64 (dg (K1) 11)]) ∧ Ext w w')
    (sl2 : ∀ w, Calls Try.prog 31 #[.int .i64 (-2147483648)] w fun e w' => e = .returned (.agg #[.bool (c2), .int .i64 (dg (K2) 0), .int .i64 (dg (K2) 1), .int .i64 (dg (K2) 2), .int .i64 (dg (K2) 3), .int .i64 (dg (K2) 4), .int .i64 (dg (K2) 5), .int .i64 (dg (K2) 6), .int .i64 (dg (K2) 7), .int .i64 (dg (K2) 8), .int .i64 (dg (K2) 9), .int .i64 (dg (K2) 10), .int .i64 (dg (K2) 11)]) ∧ Ext w w')
    (ab1 : ∀ w, Calls Try.prog 32 #[(.agg #[.bool (U), .int .i64 (dg (V) 0), .int .i64 (dg (V) 1), .int .i64 (dg (V) 2), .int .i64 (dg (V) 3), .int .i64 (dg (V) 4), .int .i64 (dg (V) 5), .int .i64 (dg (V) 6), .int .i64 (dg (V) 7), .int .i64 (dg (V) 8), .int .i64 (dg (V) 9), .int .i64 (dg (V) 10), .int .i64 (dg (V) 11)]), (.agg #[.bool (c1), .int .i64 (dg (K1) 0), .int .i64 (dg (K1) 1), .int .i64 (dg (K1) 2), .int .i64 (dg (K1) 3), .int .i64 (dg (K1) 4), .int .i64 (dg (K1) 5), .int .i64 (dg (K1) 6), .int .i64 (dg (K1) 7), .int .i64 (dg (K1) 8), .int .i64 (dg (K1) 9), .int .i64 (dg (K1) 10), .int .i64 (dg (K1) 11)])] w fun e w' => e = .returned (.bool b1) ∧ Ext w w')
    (ab2 : ∀ w, Calls Try.prog 32 #[(.agg #[.bool (c2), .int .i64 (dg (K2) 0), .int .i64 (dg (K2) 1), .int .i64 (dg (K2) 2), .int .i64 (dg (K2) 3), .int .i64 (dg (K2) 4), .int .i64 (dg (K2) 5), .int .i64 (dg (K2) 6), .int .i64 (dg (K2) 7), .int .i64 (dg (K2) 8), .int .i64 (dg (K2) 9), .int .i64 (dg (K2) 10), .int .i64 (dg (K2) 11)]), (.agg #[.bool (U), .int .i64 (dg (V) 0), .int .i64 (dg (V) 1), .int .i64 (dg (V) 2), .int .i64 (dg (V) 3), .int .i64 (dg (V) 4), .int .i64 (dg (V) 5), .int .i64 (dg (V) 6), .int .i64 (dg (V) 7), .int .i64 (dg (V) 8), .int .i64 (dg (V) 9), .int .i64 (dg (V) 10), .int .i64 (dg (V) 11)])] w fun e w' => e = .returned (.bool b2) ∧ Ext w w')
    (hr : (b1 = true ∧ r = 2147483647) ∨ (b1 = false ∧ b2 = true ∧ r = -2147483648) ∨ (b1 = false ∧ b2 = false ∧ wrap32 n = r ∧ (∀ w, Calls Try.prog 27 #[(.agg #[.bool (U), .int .i64 (dg (V) 0), .int .i64 (dg (V) 1), .int .i64 (dg (V) 2), .int .i64 (dg (V) 3), .int .i64 (dg (V) 4), .int .i64 (dg (V) 5), .int .i64 (dg (V) 6), .int .i64 (dg (V) 7), .int .i64 (dg (V) 8), .int .i64 (dg (V) 9), .int .i64 (dg (V) 10), .int .i64 (dg (V) 11)])] w fun e w' => e = .returned (.tuple #[(.agg #[.int .i64 (hi (q)), .int .u64 (lo (q))]), .int .i64 0]) ∧ Ext w w') ∧
      (∀ w, Calls Try.prog 57 #[(.agg #[.int .i64 (hi (q)), .int .u64 (lo (q))])] w fun e w' => e = .returned (.tuple #[.int .i64 n, .bool ok]) ∧ Ext w w'))) (w : World) :
    Calls Try.prog 34 #[(.agg #[.bool (s), .int .i64 (dg (X) 0), .int .i64 (dg (X) 1), .int .i64 (dg (X) 2), .int .i64 (dg (X) 3), .int .i64 (dg (X) 4), .int .i64 (dg (X) 5), .int .i64 (dg (X) 6), .int .i64 (dg (X) 7), .int .i64 (dg (X) 8), .int .i64 (dg (X) 9), .int .i64 (dg (X) 10), .int .i64 (dg (X) 11)]), (.agg #[.bool (t), .int .i64 (dg (Y) 0), .int .i64 (dg (Y) 1), .int .i64 (dg (Y) 2), .int .i64 (dg (Y) 3), .int .i64 (dg (Y) 4), .int .i64 (dg (Y) 5), .int .i64 (dg (Y) 6), .int .i64 (dg (Y) 7), .int .i64 (dg (Y) 8), .int .i64 (dg (Y) 9), .int .i64 (dg (Y) 10), .int .i64 (dg (Y) 11)])] w fun e w' => e = .returned (.int .i32 r) ∧ Ext w w' := by
  have EX := Ext.refl w
  rcases hr with ⟨rfl, rfl⟩ | ⟨rfl, rfl, rfl⟩ | ⟨rfl, rfl, hr, tl, it⟩
  all_goals
    go_enter Try.func34, Try.ntmps34
    go_upto_region 1 with fail
    refine rebase (G := fun w' => Code.wp _ _ _ _ w') _ (fun v1 => Ext w v1 ∧ Nm v1 (w.heap.size) (s) (dg X) ∧ Nm v1 (w.heap.size + 1) (t) (dg Y)) ⟨by repeat (first | with_reducible exact EX | with_reducible refine Ext.alloc ?_ _ | with_reducible refine Ext.drew ?_ | with_reducible refine Ext.drewN ?_ _ | with_reducible refine Ext.setCell ?_ (by first | (simp; done) | omega | (dsimp only; omega)) _), by repeat (first | with_reducible assumption | with_reducible refine Nm.drew ?_ | with_reducible refine Nm.drewN ?_ _ | (with_reducible refine Nm.skip ?_ ?_; focus (first | omega | (simp; done))) | with_reducible refine Nm.store ?_ rfl rfl rfl rfl rfl rfl rfl rfl rfl rfl rfl rfl rfl | with_reducible refine Nm.new (by first | rfl | (simp; done) | with_unfolding_all rfl) (by with_unfolding_all rfl) (all12 (by with_unfolding_all rfl) (by with_unfolding_all rfl) (by with_unfolding_all rfl) (by with_unfolding_all rfl) (by with_unfolding_all rfl) (by with_unfolding_all rfl) (by with_unfolding_all rfl) (by with_unfolding_all rfl) (by with_unfolding_all rfl) (by with_unfolding_all rfl) (by with_unfolding_all rfl) (by with_unfolding_all rfl)) | with_reducible refine Nm.alloc ?_ _ | exact Nm.any (by with_reducible assumption) | with_reducible refine NmAny.drew ?_ | with_reducible refine NmAny.drewN ?_ _ | (with_reducible refine NmAny.skip ?_ ?_; focus (first | omega | (simp; done))) | with_reducible refine NmAny.alloc ?_ _), by repeat (first | with_reducible assumption | with_reducible refine Nm.drew ?_ | with_reducible refine Nm.drewN ?_ _ | (with_reducible refine Nm.skip ?_ ?_; focus (first | omega | (simp; done))) | with_reducible refine Nm.store ?_ rfl rfl rfl rfl rfl rfl rfl rfl rfl rfl rfl rfl rfl | with_reducible refine Nm.new (by first | rfl | (simp; done) | with_unfolding_all rfl) (by with_unfolding_all rfl) (all12 (by with_unfolding_all rfl) (by with_unfolding_all rfl) (by with_unfolding_all rfl) (by with_unfolding_all rfl) (by with_unfolding_all rfl) (by with_unfolding_all rfl) (by with_unfolding_all rfl) (by with_unfolding_all rfl) (by with_unfolding_all rfl) (by with_unfolding_all rfl) (by with_unfolding_all rfl) (by with_unfolding_all rfl)) | with_reducible refine Nm.alloc ?_ _ | exact Nm.any (by with_reducible assumption) | with_reducible refine NmAny.drew ?_ | with_reducible refine NmAny.drewN ?_ _ | (with_reducible refine NmAny.skip ?_ ?_; focus (first | omega | (simp; done))) | with_reducible refine NmAny.alloc ?_ _)⟩ ?_; clear EX ; rintro v1 ⟨EX, NA, NB⟩; rename World => v; have NAsg := NA.sg; have NAdg := NA.dg; have NAfz := NA.fz; have NAlt := NA.lt; have NBsg := NB.sg; have NBdg := NB.dg; have NBfz := NB.fz; have NBlt := NB.lt
    go_upto_region 2 with (first | (go_at_call 30; with_reducible refine (ne _).mono ?_; rintro e v1 ⟨rfl, hb⟩; replace EX := Ext.trans EX hb; replace NA := NA.later hb; replace NB := NB.later hb; replace NAsg := NA.sg; replace NAdg := NA.dg; replace NAfz := NA.fz; replace NAlt := NA.lt; replace NBsg := NB.sg; replace NBdg := NB.dg; replace NBfz := NB.fz; replace NBlt := NB.lt; clear hb v; rename World => v))
    refine rebase (G := fun w' => Code.wp _ _ _ _ w') _ (fun v1 => Ext w v1 ∧ Nm v1 (v.heap.size) (U) (dg V)) ⟨by repeat (first | with_reducible exact EX | with_reducible refine Ext.alloc ?_ _ | with_reducible refine Ext.drew ?_ | with_reducible refine Ext.drewN ?_ _ | with_reducible refine Ext.setCell ?_ (by first | (simp; done) | omega | (dsimp only; omega)) _), by repeat (first | with_reducible assumption | with_reducible refine Nm.drew ?_ | with_reducible refine Nm.drewN ?_ _ | (with_reducible refine Nm.skip ?_ ?_; focus (first | omega | (simp; done))) | with_reducible refine Nm.store ?_ rfl rfl rfl rfl rfl rfl rfl rfl rfl rfl rfl rfl rfl | with_reducible refine Nm.new (by first | rfl | (simp; done) | with_unfolding_all rfl) (by with_unfolding_all rfl) (all12 (by with_unfolding_all rfl) (by with_unfolding_all rfl) (by with_unfolding_all rfl) (by with_unfolding_all rfl) (by with_unfolding_all rfl) (by with_unfolding_all rfl) (by with_unfolding_all rfl) (by with_unfolding_all rfl) (by with_unfolding_all rfl) (by with_unfolding_all rfl) (by with_unfolding_all rfl) (by with_unfolding_all rfl)) | with_reducible refine Nm.alloc ?_ _ | exact Nm.any (by with_reducible assumption) | with_reducible refine NmAny.drew ?_ | with_reducible refine NmAny.drewN ?_ _ | (with_reducible refine NmAny.skip ?_ ?_; focus (first | omega | (simp; done))) | with_reducible refine NmAny.alloc ?_ _)⟩ ?_; have qNA := NA.lt; have qNB := NB.lt; have qw := EX.more; clear NAsg NAdg NAfz NAlt NBsg NBdg NBfz NBlt; clear EX NA NB; rintro v1 ⟨EX, NX⟩; obtain ⟨b3, hb3⟩ : ∃ b, v.heap.size = b := ⟨_, rfl⟩; rw [hb3] at qNA qNB qw NX ⊢; clear hb3; clear v; rename World => v; have NXsg := NX.sg; have NXdg := NX.dg; have NXfz := NX.fz; have NXlt := NX.lt
    have gNXsg := fun x' : Grow v => (NX.later x'.ext).sg; have gNXdg := fun x' : Grow v => (NX.later x'.ext).dg; have gNXfz := fun x' : Grow v => (NX.later x'.ext).fz; have gNXlt := fun x' : Grow v => (NX.later x'.ext).lt; refine wp_region_grow (by kernel_rfl) (by kernel_rfl) ?_; (repeat (first | go_big_quiet_step ((go_at_call 31; with_reducible exact calls_grow (sl1 _))) | go_big_quiet_step ((go_at_call 32; with_reducible exact calls_grow (ab1 _))) | go_big_quiet_step (fail))); refine wpQuiet_nil ?_; clear gNXsg gNXdg gNXfz gNXlt; rintro _ ⟨xq, rfl⟩; replace EX := Ext.trans EX xq.ext; replace NX := NX.later xq.ext; replace NXsg := NX.sg; replace NXdg := NX.dg; replace NXfz := NX.fz; replace NXlt := NX.lt; generalize xq.out = v1 at *; clear xq v; rename World => v
  · go_wp2
    go_ret
    exact ⟨rfl, EX⟩
  · go_upto_region 4 with fail
    have gNXsg := fun x' : Grow v => (NX.later x'.ext).sg; have gNXdg := fun x' : Grow v => (NX.later x'.ext).dg; have gNXfz := fun x' : Grow v => (NX.later x'.ext).fz; have gNXlt := fun x' : Grow v => (NX.later x'.ext).lt; refine wp_region_grow (by kernel_rfl) (by kernel_rfl) ?_; (repeat (first | go_big_quiet_step ((go_at_call 31; with_reducible exact calls_grow (sl2 _))) | go_big_quiet_step ((go_at_call 32; with_reducible exact calls_grow (ab2 _))) | go_big_quiet_step (fail))); refine wpQuiet_nil ?_; clear gNXsg gNXdg gNXfz gNXlt; rintro _ ⟨xq, rfl⟩; replace EX := Ext.trans EX xq.ext; replace NX := NX.later xq.ext; replace NXsg := NX.sg; replace NXdg := NX.dg; replace NXfz := NX.fz; replace NXlt := NX.lt; generalize xq.out = v1 at *; clear xq v; rename World => v
    go_wp2
    go_ret
    exact ⟨rfl, EX⟩
  · go_upto_region 4 with fail
    have gNXsg := fun x' : Grow v => (NX.later x'.ext).sg; have gNXdg := fun x' : Grow v => (NX.later x'.ext).dg; have gNXfz := fun x' : Grow v => (NX.later x'.ext).fz; have gNXlt := fun x' : Grow v => (NX.later x'.ext).lt; refine wp_region_grow (by kernel_rfl) (by kernel_rfl) ?_; (repeat (first | go_big_quiet_step ((go_at_call 31; with_reducible exact calls_grow (sl2 _))) | go_big_quiet_step ((go_at_call 32; with_reducible exact calls_grow (ab2 _))) | go_big_quiet_step (fail))); refine wpQuiet_nil ?_; clear gNXsg gNXdg gNXfz gNXlt; rintro _ ⟨xq, rfl⟩; replace EX := Ext.trans EX xq.ext; replace NX := NX.later xq.ext; replace NXsg := NX.sg; replace NXdg := NX.dg; replace NXfz := NX.fz; replace NXlt := NX.lt; generalize xq.out = v1 at *; clear xq v; rename World => v
    go_upto_region 7 with (first | (go_at_call 27; with_reducible refine (tl _).mono ?_; rintro e v1 ⟨rfl, hb⟩; replace EX := Ext.trans EX hb; replace NX := NX.later hb; replace NXsg := NX.sg; replace NXdg := NX.dg; replace NXfz := NX.fz; replace NXlt := NX.lt; clear hb v; rename World => v))
    refine rebase (G := fun w' => Code.wp _ _ _ _ w') _ (fun v1 => Ext w v1 ∧ Wm v1 (v.heap.size) (hi q) (lo q)) ⟨by repeat (first | with_reducible exact EX | with_reducible refine Ext.alloc ?_ _ | with_reducible refine Ext.drew ?_ | with_reducible refine Ext.drewN ?_ _ | with_reducible refine Ext.setCell ?_ (by first | (simp; done) | omega | (dsimp only; omega)) _), by repeat (first | with_reducible assumption | with_reducible refine Wm.drew ?_ | with_reducible refine Wm.drewN ?_ _ | (with_reducible refine Wm.skip ?_ ?_; focus (first | omega | (simp; done))) | with_reducible refine Wm.store ?_ _ _ | with_reducible refine Wm.new (by first | rfl | (simp; done) | with_unfolding_all rfl) (by with_unfolding_all rfl) (by with_unfolding_all rfl) | with_reducible refine Wm.alloc ?_ _ | exact Wm.any (by with_reducible assumption) | with_reducible refine WmAny.drew ?_ | with_reducible refine WmAny.drewN ?_ _ | (with_reducible refine WmAny.skip ?_ ?_; focus (first | omega | (simp; done))) | with_reducible refine WmAny.alloc ?_ _)⟩ ?_; have qNX := NX.lt; have qw := EX.more; clear NXsg NXdg NXfz NXlt; clear EX NX; rintro v1 ⟨EX, WW⟩; obtain ⟨b4, hb4⟩ : ∃ b, v.heap.size = b := ⟨_, rfl⟩; rw [hb4] at qNX qw WW ⊢; clear hb4; clear v; rename World => v; have WWhi := WW.hi; have WWlo := WW.lo; have WWfz := WW.fz; have WWlt := WW.lt
    go_wp2_with (first | (go_at_call 57; with_reducible refine (it _).mono ?_; rintro e v1 ⟨rfl, hb⟩; replace EX := Ext.trans EX hb; replace WW := WW.later hb; replace WWhi := WW.hi; replace WWlo := WW.lo; replace WWfz := WW.fz; replace WWlt := WW.lt; clear hb v; rename World => v))
    go_ret
    exact ⟨by simp [hr], EX⟩
theorem nq_nrs (a b : Int) (h : ¬ b = 0) : nq a b = nrs a b := by
  unfold nrs
  by_cases hb : b < 0
  · rw [if_pos hb, ← nq_nr _ _ (by omega)]
    unfold nq
    rw [if_pos hb, if_neg (by omega)]
  · rw [if_neg hb, nq_nr _ _ (by omega)]
theorem sg_abs {U : Bool} {V : Int} (h : 0 ≤ V) : V = ab (sg U V) := by unfold ab sg; cases U <;> simp only [Bool.false_eq_true, if_false, if_true] <;> split <;> omega
theorem nrs_small {x d : Int} (hx : -680564733841876926926749214863536422912 < x ∧ x < 680564733841876926926749214863536422912) (hd : ¬ d = 0) : -680564733841876926926749214863536422912 < nrs x d ∧ nrs x d < 680564733841876926926749214863536422912 := by
  have key : ∀ y e : Int, 0 < e → (-680564733841876926926749214863536422912 < y ∧ y < 680564733841876926926749214863536422912) → -680564733841876926926749214863536422912 < nr y e ∧ nr y e < 680564733841876926926749214863536422912 := by
    intro y e he hy
    have k := nr_is y e he
    have lo : -680564733841876926926749214863536422912 < nr y e := by
      rcases Int.lt_or_le (nr y e) 0 with h | h
      · have := Int.mul_le_mul_of_nonpos_right (show 1 ≤ e by omega) (show nr y e + 1 ≤ 0 by omega)
        rw [Int.mul_add e] at this
        omega
      · omega
    have hi : nr y e < 680564733841876926926749214863536422912 := by
      rcases Int.lt_or_le 0 (nr y e) with h | h
      · have := Int.mul_le_mul_of_nonneg_right (show 1 ≤ e by omega) (show 0 ≤ nr y e - 1 by omega)
        rw [Int.mul_sub e] at this
        omega
      · omega
    exact ⟨lo, hi⟩
  unfold nrs
  by_cases h : d < 0
  · rw [if_pos h]; exact key _ _ (by omega) (by omega)
  · rw [if_neg h]; exact key _ _ (by omega) (by omega)
theorem rhold_any (s t : Bool) (X Y : Int) (hX : 0 ≤ X) (hX' : X < 680564733841876926926749214863536422912) (hY : 0 < Y) (hY' : Y ≤ 18446744073709551616) (w : World) :
    Calls Try.prog 34 #[(.agg #[.bool (s), .int .i64 (dg (X) 0), .int .i64 (dg (X) 1), .int .i64 (dg (X) 2), .int .i64 (dg (X) 3), .int .i64 (dg (X) 4), .int .i64 (dg (X) 5), .int .i64 (dg (X) 6), .int .i64 (dg (X) 7), .int .i64 (dg (X) 8), .int .i64 (dg (X) 9), .int .i64 (dg (X) 10), .int .i64 (dg (X) 11)]), (.agg #[.bool (t), .int .i64 (dg (Y) 0), .int .i64 (dg (Y) 1), .int .i64 (dg (Y) 2), .int .i64 (dg (Y) 3), .int .i64 (dg (Y) 4), .int .i64 (dg (Y) 5), .int .i64 (dg (Y) 6), .int .i64 (dg (Y) 7), .int .i64 (dg (Y) 8), .int .i64 (dg (Y) 9), .int .i64 (dg (Y) 10), .int .i64 (dg (Y) 11)])] w fun e w' => e = .returned (.int .i32 (held (nrs (sg s X) (sg t Y)))) ∧ Ext w w' := by
  have ne := fun w => nearest_any s t X Y hX hY (by omega) (by omega) w
  have us := up_sg s t X Y hY
  have hsy : ¬ sg t Y = 0 := by unfold sg; split <;> omega
  rw [nq_nrs _ _ hsy] at us
  have sml := nrs_small (x := sg s X) (d := sg t Y) (by unfold sg; split <;> omega) hsy
  have hV0 : InD (dnX (upS (s != t) X Y) (upX (s != t) X Y) (Y + Y)) := (dnX_in _ (sumX_in (s != t) false (X := X + X) (Y := Y) (by omega) (by omega) (by omega)).1 (by
    have := (sumX_in (s != t) false (X := X + X) (Y := Y) (by omega) (by omega) (by omega)).2
    omega) (by omega)).1
  generalize upS (s != t) X Y = U at *
  generalize dnX U (upX (s != t) X Y) (Y + Y) = V at *
  have hVa := sg_abs (U := U) hV0.1
  have hVb : V < 680564733841876926926749214863536422912 := by rw [hVa, us]; unfold ab; split <;> omega
  have sl1 := fun w => small_any 2147483647 ⟨by decide, by decide⟩ w
  have sl2 := fun w => small_any (-2147483648) ⟨by decide, by decide⟩ w
  have a1 : ab 2147483647 = 2147483647 := by decide
  have a2 : ab (-2147483648) = 2147483648 := by decide
  have hV1 := hV0.1
  have ab1 := fun w => above_any U (decide ((2147483647 : Int) < 0)) V (ab 2147483647) hV1 (by omega) (by omega) w
  have ab2 := fun w => above_any (decide ((-2147483648 : Int) < 0)) U (ab (-2147483648)) V (by omega) hV1 (by omega) w
  rw [us, sg_ab] at ab1 ab2
  refine rhold_walk s t U _ _ _ _ true X Y V _ _ (nrs (sg s X) (sg t Y)) (nrs (sg s X) (sg t Y)) _ ne sl1 sl2 ab1 ab2 ?_ w
  generalize nrs (sg s X) (sg t Y) = q at *
  unfold held
  by_cases c1 : 2147483647 < q
  · rw [if_neg (by omega), if_pos c1]
    exact .inl ⟨by simpa using c1, rfl⟩
  · by_cases c2 : q < -2147483648
    · rw [if_pos c2]
      exact .inr (.inl ⟨by simpa using c1, by simpa using c2, rfl⟩)
    · rw [if_neg c2, if_neg c1]
      refine .inr (.inr ⟨by simpa using c1, by simpa using c2, wrap_in32 ⟨by omega, by omega⟩, fun w => tell_W U V q hV0 us ⟨by omega, by omega⟩ w, fun w => ?_⟩)
      have := rint_any q ⟨by omega, by omega⟩ w
      rw [wrap_in64 ⟨by omega, by omega⟩, if_pos rfl] at this
      simpa using this
end Go.Proofs.Ythmgilikokcibaa
