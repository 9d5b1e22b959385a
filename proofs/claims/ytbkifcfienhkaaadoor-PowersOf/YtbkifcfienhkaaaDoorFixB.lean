/- What the functions of package fixeds that round once do, called at any arguments: rounded, Mul, Ratio, Div. -/
import Derived.Test.YtbkifcfienhkaaaDoorFixA
import Derived.Test.YtbkifcfienhkaaaDoorWideH
namespace Go.Proofs.YtbkifcfienhkaaaDoor
open Go.RowKit Go.BigFrame
set_option linter.unusedSimpArgs false
set_option linter.unusedVariables false

/-- The nearest, whatever the sign of what is divided by. -/
def nrs (x d : Int) : Int := if d < 0 then nr (-x) (-d) else nr x d
theorem nr_W {a d : Int} (ha : InW a) (hd : 1 ≤ d) : InW (nr a d) := by
  have := nr_in a d ha hd
  unfold nr
  split
  · exact this.2 (by assumption)
  · exact this.1
set_option maxHeartbeats 4000000 in
theorem rounded_pos (x d q : Int) (hd : ¬ d < 0) (NE : ∀ w, Calls Tryd.prog 39 #[(.agg #[.int .i64 (hi (x)), .int .u64 (lo (x))]), .int .i64 d] w fun e w' => e = .returned (.tuple #[(.agg #[.int .i64 (hi (q)), .int .u64 (lo (q))]), .int .i64 0]) ∧ Ext w w') (hq : InW q) (w : World) :
    Calls Tryd.prog 37 #[(.agg #[.int .i64 (hi (x)), .int .u64 (lo (x))]), .int .i64 d] w fun e w' => e = .returned (.int .i32 (held q)) ∧ Ext w w' := by
  have EX := Ext.refl w
  have H := fun w => hold_any q hq w
  clear hq
  go_enter Tryd.func37, Tryd.ntmps37
  go_upto_region 1 with fail
  refine rebase (G := fun w' => Code.wp _ _ _ _ w') _ (fun v1 => Ext w v1 ∧ Wm v1 (w.heap.size) (hi x) (lo x)) ⟨by repeat (first | with_reducible exact EX | with_reducible refine Ext.alloc ?_ _ | with_reducible refine Ext.drew ?_ | with_reducible refine Ext.drewN ?_ _ | with_reducible refine Ext.setCell ?_ (by first | (simp; done) | omega | (dsimp only; omega)) _), by repeat (first | with_reducible assumption | with_reducible refine Wm.drew ?_ | with_reducible refine Wm.drewN ?_ _ | (with_reducible refine Wm.skip ?_ ?_; focus (first | omega | (simp; done))) | with_reducible refine Wm.store ?_ _ _ | with_reducible refine Wm.new (by first | rfl | (simp; done) | with_unfolding_all rfl) (by with_unfolding_all rfl) (by with_unfolding_all rfl) | with_reducible refine Wm.alloc ?_ _ | exact Wm.any (by with_reducible assumption) | with_reducible refine WmAny.drew ?_ | with_reducible refine WmAny.drewN ?_ _ | (with_reducible refine WmAny.skip ?_ ?_; focus (first | omega | (simp; done))) | with_reducible refine WmAny.alloc ?_ _)⟩ ?_; clear EX ; rintro v1 ⟨EX, WA⟩; rename World => v; have WAhi := WA.hi; have WAlo := WA.lo; have WAfz := WA.fz; have WAlt := WA.lt
  go_upto_region 5 with (first | (go_at_call 39; with_reducible refine (NE _).mono ?_; rintro e v1 ⟨rfl, hb⟩; replace EX := Ext.trans EX hb; replace WA := WA.later hb; replace WAhi := WA.hi; replace WAlo := WA.lo; replace WAfz := WA.fz; replace WAlt := WA.lt; clear hb v; rename World => v))
  refine rebase (G := fun w' => Code.wp _ _ _ _ w') _ (fun v1 => Ext w v1 ∧ Wm v1 (w.heap.size) (hi x) (lo x) ∧ Wm v1 (v.heap.size) (hi q) (lo q)) ⟨by repeat (first | with_reducible exact EX | with_reducible refine Ext.alloc ?_ _ | with_reducible refine Ext.drew ?_ | with_reducible refine Ext.drewN ?_ _ | with_reducible refine Ext.setCell ?_ (by first | (simp; done) | omega | (dsimp only; omega)) _), by repeat (first | with_reducible assumption | with_reducible refine Wm.drew ?_ | with_reducible refine Wm.drewN ?_ _ | (with_reducible refine Wm.skip ?_ ?_; focus (first | omega | (simp; done))) | with_reducible refine Wm.store ?_ _ _ | with_reducible refine Wm.new (by first | rfl | (simp; done) | with_unfolding_all rfl) (by with_unfolding_all rfl) (by with_unfolding_all rfl) | with_reducible refine Wm.alloc ?_ _ | exact Wm.any (by with_reducible assumption) | with_reducible refine WmAny.drew ?_ | with_reducible refine WmAny.drewN ?_ _ | (with_reducible refine WmAny.skip ?_ ?_; focus (first | omega | (simp; done))) | with_reducible refine WmAny.alloc ?_ _), by repeat (first | with_reducible assumption | with_reducible refine Wm.drew ?_ | with_reducible refine Wm.drewN ?_ _ | (with_reducible refine Wm.skip ?_ ?_; focus (first | omega | (simp; done))) | with_reducible refine Wm.store ?_ _ _ | with_reducible refine Wm.new (by first | rfl | (simp; done) | with_unfolding_all rfl) (by with_unfolding_all rfl) (by with_unfolding_all rfl) | with_reducible refine Wm.alloc ?_ _ | exact Wm.any (by with_reducible assumption) | with_reducible refine WmAny.drew ?_ | with_reducible refine WmAny.drewN ?_ _ | (with_reducible refine WmAny.skip ?_ ?_; focus (first | omega | (simp; done))) | with_reducible refine WmAny.alloc ?_ _)⟩ ?_; have qWA := WA.lt; have qw := EX.more; clear WAhi WAlo WAfz WAlt; clear EX WA; rintro v1 ⟨EX, WA, WQ⟩; obtain ⟨b1, hb1⟩ : ∃ b, v.heap.size = b := ⟨_, rfl⟩; rw [hb1] at qWA qw WQ ⊢; clear hb1; clear v; rename World => v; have WAhi := WA.hi; have WAlo := WA.lo; have WAfz := WA.fz; have WAlt := WA.lt; have WQhi := WQ.hi; have WQlo := WQ.lo; have WQfz := WQ.fz; have WQlt := WQ.lt
  have gWAhi := fun x' : Grow v => (WA.later x'.ext).hi; have gWAlo := fun x' : Grow v => (WA.later x'.ext).lo; have gWAfz := fun x' : Grow v => (WA.later x'.ext).fz; have gWAlt := fun x' : Grow v => (WA.later x'.ext).lt; have gWQhi := fun x' : Grow v => (WQ.later x'.ext).hi; have gWQlo := fun x' : Grow v => (WQ.later x'.ext).lo; have gWQfz := fun x' : Grow v => (WQ.later x'.ext).fz; have gWQlt := fun x' : Grow v => (WQ.later x'.ext).lt; refine wp_region_grow (by kernel_rfl) (by kernel_rfl) ?_; (repeat (first | go_big_quiet_step ((go_at_call 50; with_reducible exact calls_grow (holder_any _))) | go_big_quiet_step ((go_at_call 70; with_reducible exact calls_grow (H _))) | go_big_quiet_step (fail))); refine wpQuiet_nil ?_; clear gWAhi gWAlo gWAfz gWAlt gWQhi gWQlo gWQfz gWQlt; rintro _ ⟨xq, rfl⟩; replace EX := Ext.trans EX xq.ext; replace WA := WA.later xq.ext; replace WQ := WQ.later xq.ext; replace WAhi := WA.hi; replace WAlo := WA.lo; replace WAfz := WA.fz; replace WAlt := WA.lt; replace WQhi := WQ.hi; replace WQlo := WQ.lo; replace WQfz := WQ.fz; replace WQlt := WQ.lt; generalize xq.out = v1 at *; clear xq v; rename World => v
  go_wp2
  go_ret
  exact ⟨rfl, EX⟩
set_option maxHeartbeats 4000000 in
theorem rounded_neg (x y d k q : Int) (hd : d < 0) (hk : wrap64 (-d) = k) (SB : ∀ w, Calls Tryd.prog 59 #[.agg #[.int .i64 0, .int .u64 0], (.agg #[.int .i64 (hi (x)), .int .u64 (lo (x))])] w fun e w' => e = .returned (.tuple #[(.agg #[.int .i64 (hi (y)), .int .u64 (lo (y))]), .int .i64 0]) ∧ Ext w w')
    (NE : ∀ w, Calls Tryd.prog 39 #[(.agg #[.int .i64 (hi (y)), .int .u64 (lo (y))]), .int .i64 k] w fun e w' => e = .returned (.tuple #[(.agg #[.int .i64 (hi (q)), .int .u64 (lo (q))]), .int .i64 0]) ∧ Ext w w') (hq : InW q) (w : World) :
    Calls Tryd.prog 37 #[(.agg #[.int .i64 (hi (x)), .int .u64 (lo (x))]), .int .i64 d] w fun e w' => e = .returned (.int .i32 (held q)) ∧ Ext w w' := by
  have EX := Ext.refl w
  have H := fun w => hold_any q hq w
  clear hq
  go_enter Tryd.func37, Tryd.ntmps37
  go_upto_region 1 with fail
  refine rebase (G := fun w' => Code.wp _ _ _ _ w') _ (fun v1 => Ext w v1 ∧ Wm v1 (w.heap.size) (hi x) (lo x)) ⟨by repeat (first | with_reducible exact EX | with_reducible refine Ext.alloc ?_ _ | with_reducible refine Ext.drew ?_ | with_reducible refine Ext.drewN ?_ _ | with_reducible refine Ext.setCell ?_ (by first | (simp; done) | omega | (dsimp only; omega)) _), by repeat (first | with_reducible assumption | with_reducible refine Wm.drew ?_ | with_reducible refine Wm.drewN ?_ _ | (with_reducible refine Wm.skip ?_ ?_; focus (first | omega | (simp; done))) | with_reducible refine Wm.store ?_ _ _ | with_reducible refine Wm.new (by first | rfl | (simp; done) | with_unfolding_all rfl) (by with_unfolding_all rfl) (by with_unfolding_all rfl) | with_reducible refine Wm.alloc ?_ _ | exact Wm.any (by with_reducible assumption) | with_reducible refine WmAny.drew ?_ | with_reducible refine WmAny.drewN ?_ _ | (with_reducible refine WmAny.skip ?_ ?_; focus (first | omega | (simp; done))) | with_reducible refine WmAny.alloc ?_ _)⟩ ?_; clear EX ; rintro v1 ⟨EX, WA⟩; rename World => v; have WAhi := WA.hi; have WAlo := WA.lo; have WAfz := WA.fz; have WAlt := WA.lt
  go_upto_region 3 with (first | (go_at_call 59; with_reducible refine (SB _).mono ?_; rintro e v1 ⟨rfl, hb⟩; replace EX := Ext.trans EX hb; replace WA := WA.later hb; replace WAhi := WA.hi; replace WAlo := WA.lo; replace WAfz := WA.fz; replace WAlt := WA.lt; clear hb v; rename World => v))
  refine rebase (G := fun w' => Code.wp _ _ _ _ w') _ (fun v1 => Ext w v1 ∧ Wm v1 (w.heap.size) (hi y) (lo y)) ⟨by repeat (first | with_reducible exact EX | with_reducible refine Ext.alloc ?_ _ | with_reducible refine Ext.drew ?_ | with_reducible refine Ext.drewN ?_ _ | with_reducible refine Ext.setCell ?_ (by first | (simp; done) | omega | (dsimp only; omega)) _), by repeat (first | with_reducible assumption | with_reducible refine Wm.drew ?_ | with_reducible refine Wm.drewN ?_ _ | (with_reducible refine Wm.skip ?_ ?_; focus (first | omega | (simp; done))) | with_reducible refine Wm.store ?_ _ _ | with_reducible refine Wm.new (by first | rfl | (simp; done) | with_unfolding_all rfl) (by with_unfolding_all rfl) (by with_unfolding_all rfl) | with_reducible refine Wm.alloc ?_ _ | exact Wm.any (by with_reducible assumption) | with_reducible refine WmAny.drew ?_ | with_reducible refine WmAny.drewN ?_ _ | (with_reducible refine WmAny.skip ?_ ?_; focus (first | omega | (simp; done))) | with_reducible refine WmAny.alloc ?_ _)⟩ ?_; clear WAhi WAlo WAfz WAlt; clear EX WA; rintro v1 ⟨EX, WA⟩; clear v; rename World => v; have WAhi := WA.hi; have WAlo := WA.lo; have WAfz := WA.fz; have WAlt := WA.lt
  go_upto_region 5 with (first | (go_at_call 39; with_reducible refine (NE _).mono ?_; rintro e v1 ⟨rfl, hb⟩; replace EX := Ext.trans EX hb; replace WA := WA.later hb; replace WAhi := WA.hi; replace WAlo := WA.lo; replace WAfz := WA.fz; replace WAlt := WA.lt; clear hb v; rename World => v))
  refine rebase (G := fun w' => Code.wp _ _ _ _ w') _ (fun v1 => Ext w v1 ∧ Wm v1 (w.heap.size) (hi y) (lo y) ∧ Wm v1 (v.heap.size) (hi q) (lo q)) ⟨by repeat (first | with_reducible exact EX | with_reducible refine Ext.alloc ?_ _ | with_reducible refine Ext.drew ?_ | with_reducible refine Ext.drewN ?_ _ | with_reducible refine Ext.setCell ?_ (by first | (simp; done) | omega | (dsimp only; omega)) _), by repeat (first | with_reducible assumption | with_reducible refine Wm.drew ?_ | with_reducible refine Wm.drewN ?_ _ | (with_reducible refine Wm.skip ?_ ?_; focus (first | omega | (simp; done))) | with_reducible refine Wm.store ?_ _ _ | with_reducible refine Wm.new (by first | rfl | (simp; done) | with_unfolding_all rfl) (by with_unfolding_all rfl) (by with_unfolding_all rfl) | with_reducible refine Wm.alloc ?_ _ | exact Wm.any (by with_reducible assumption) | with_reducible refine WmAny.drew ?_ | with_reducible refine WmAny.drewN ?_ _ | (with_reducible refine WmAny.skip ?_ ?_; focus (first | omega | (simp; done))) | with_reducible refine WmAny.alloc ?_ _), by repeat (first | with_reducible assumption | with_reducible refine Wm.drew ?_ | with_reducible refine Wm.drewN ?_ _ | (with_reducible refine Wm.skip ?_ ?_; focus (first | omega | (simp; done))) | with_reducible refine Wm.store ?_ _ _ | with_reducible refine Wm.new (by first | rfl | (simp; done) | with_unfolding_all rfl) (by with_unfolding_all rfl) (by with_unfolding_all rfl) | with_reducible refine Wm.alloc ?_ _ | exact Wm.any (by with_reducible assumption) | with_reducible refine WmAny.drew ?_ | with_reducible refine WmAny.drewN ?_ _ | (with_reducible refine WmAny.skip ?_ ?_; focus (first | omega | (simp; done))) | with_reducible refine WmAny.alloc ?_ _)⟩ ?_; have qWA := WA.lt; have qw := EX.more; clear WAhi WAlo WAfz WAlt; clear EX WA; rintro v1 ⟨EX, WA, WQ⟩; obtain ⟨b1, hb1⟩ : ∃ b, v.heap.size = b := ⟨_, rfl⟩; rw [hb1] at qWA qw WQ ⊢; clear hb1; clear v; rename World => v; have WAhi := WA.hi; have WAlo := WA.lo; have WAfz := WA.fz; have WAlt := WA.lt; have WQhi := WQ.hi; have WQlo := WQ.lo; have WQfz := WQ.fz; have WQlt := WQ.lt
  have gWAhi := fun x' : Grow v => (WA.later x'.ext).hi; have gWAlo := fun x' : Grow v => (WA.later x'.ext).lo; have gWAfz := fun x' : Grow v => (WA.later x'.ext).fz; have gWAlt := fun x' : Grow v => (WA.later x'.ext).lt; have gWQhi := fun x' : Grow v => (WQ.later x'.ext).hi; have gWQlo := fun x' : Grow v => (WQ.later x'.ext).lo; have gWQfz := fun x' : Grow v => (WQ.later x'.ext).fz; have gWQlt := fun x' : Grow v => (WQ.later x'.ext).lt; refine wp_region_grow (by kernel_rfl) (by kernel_rfl) ?_; (repeat (first | go_big_quiet_step ((go_at_call 50; with_reducible exact calls_grow (holder_any _))) | go_big_quiet_step ((go_at_call 70; with_reducible exact calls_grow (H _))) | go_big_quiet_step (fail))); refine wpQuiet_nil ?_; clear gWAhi gWAlo gWAfz gWAlt gWQhi gWQlo gWQfz gWQlt; rintro _ ⟨xq, rfl⟩; replace EX := Ext.trans EX xq.ext; replace WA := WA.later xq.ext; replace WQ := WQ.later xq.ext; replace WAhi := WA.hi; replace WAlo := WA.lo; replace WAfz := WA.fz; replace WAlt := WA.lt; replace WQhi := WQ.hi; replace WQlo := WQ.lo; replace WQfz := WQ.fz; replace WQlt := WQ.lt; generalize xq.out = v1 at *; clear xq v; rename World => v
  go_wp2
  go_ret
  exact ⟨rfl, EX⟩
theorem rounded_any (x d : Int) (hx : InW x) (hx' : InW (-x)) (hd : d ≠ 0) (hd1 : -9223372036854775808 < d) (hd2 : d < 9223372036854775808) (w : World) :
    Calls Tryd.prog 37 #[(.agg #[.int .i64 (hi (x)), .int .u64 (lo (x))]), .int .i64 d] w fun e w' => e = .returned (.int .i32 (held (nrs x d))) ∧ Ext w w' := by
  unfold nrs
  by_cases h : d < 0
  · rw [if_pos h]
    refine rounded_neg x (-x) d (-d) (nr (-x) (-d)) h (wrap_in64 ⟨by omega, by omega⟩) ?_ (fun w => near_any (-x) (-d) hx' (by omega) ⟨by omega, by omega⟩ w) (nr_W hx' (by omega)) w
    intro w
    have := sub_any 0 x ⟨by decide, by decide⟩ hx w
    rw [Int.zero_sub, (fit_of hx').1, (fit_of hx').2] at this
    exact this
  · rw [if_neg h]
    exact rounded_pos x d (nr x d) h (fun w => near_any x d hx (by omega) ⟨by omega, by omega⟩ w) (nr_W hx (by omega)) w
theorem mul_small {a b : Int} (ha : In64 a) (hb : In64 b) : InW (a * b) ∧ InW (-(a * b)) := by
  have h := in64_mul ha hb
  refine ⟨h, ?_⟩
  have h1 : -(9223372036854775808 * 9223372036854775808) ≤ a * b ∧ a * b ≤ 9223372036854775808 * 9223372036854775808 := by
    have k := Int.natAbs_mul a b
    have ka : a.natAbs ≤ 9223372036854775808 := by unfold In64 at ha; omega
    have kb : b.natAbs ≤ 9223372036854775808 := by unfold In64 at hb; omega
    have := Nat.mul_le_mul ka kb
    omega
  unfold InW at *
  omega
theorem fmul_any (a b : Int) (ha : In32 a) (hb : In32 b) (w : World) : Calls Tryd.prog 19 #[.int .i32 a, .int .i32 b] w fun e w' => e = .returned (.int .i32 (held (nr (a * b) 65536))) ∧ Ext w w' := by
  have EX := Ext.refl w
  have M := fun w => mul_any a b (in32_64 ha) (in32_64 hb) w
  have hm := mul_small (in32_64 ha) (in32_64 hb)
  have R := fun w => rounded_any (a * b) 65536 hm.1 hm.2 (by decide) (by decide) (by decide) w
  rw [show nrs (a * b) 65536 = nr (a * b) 65536 from rfl] at R
  have w1 := wrap_in64 (in32_64 ha)
  have w2 := wrap_in64 (in32_64 hb)
  clear ha hb hm
  generalize held (nr (a * b) 65536) = r at *
  generalize a * b = k at *
  go_enter Tryd.func19, Tryd.ntmps19
  go_wp2_with (first | (go_at_call 38; with_reducible refine (M _).mono ?_; rintro e v1 ⟨rfl, hb⟩; replace EX := Ext.trans EX hb; clear hb) | (go_at_call 37; with_reducible refine (R _).mono ?_; rintro e v1 ⟨rfl, hb⟩; replace EX := Ext.trans EX hb; clear hb))
  go_ret
  exact ⟨rfl, EX⟩
/-- The nearest 65536th of the one by the other one, held; nothing where that is 0. -/
def rat (n d : Int) : Int := if d = 0 then 0 else held (nrs (n * 65536) d)
def rate (d : Int) : Int := if d = 0 then 12 else 0
theorem nr_twice (x d : Int) (hd : 0 < d) : nr (2 * x) (2 * d) = nr x d := by
  unfold nr
  rw [Int.mul_ediv_mul_of_pos _ _ (by decide), Int.mul_emod_mul_of_pos _ _ (by decide)]
  by_cases h : d - x % d ≤ x % d
  · rw [if_pos h, if_pos (by omega)]
  · rw [if_neg h, if_neg (by omega)]
set_option maxHeartbeats 4000000 in
theorem ratio_any (n d : Int) (hn : In64 n) (hd : In64 d) (w : World) : Calls Tryd.prog 18 #[.int .i64 n, .int .i64 d] w fun e w' => e = .returned (.tuple #[.int .i32 (rat n d), .int .i64 (rate d)]) ∧ Ext w w' := by
  have EX := Ext.refl w
  unfold rat rate
  by_cases h0 : d = 0
  · subst h0
    rw [if_pos rfl, if_pos rfl]
    clear hn hd
    go_enter Tryd.func18, Tryd.ntmps18
    go_wp2
    go_ret2
    exact ⟨rfl, EX⟩
  · rw [if_neg h0, if_neg h0]
    by_cases h1 : d = -9223372036854775808
    · subst h1
      have M := fun w => mul_any n 32768 hn ⟨by decide, by decide⟩ w
      have hm := mul_small hn (show In64 32768 from ⟨by decide, by decide⟩)
      have R := fun w => rounded_any (n * 32768) (-4611686018427387904) hm.1 hm.2 (by decide) (by decide) (by decide) w
      have e1 : nrs (n * 32768) (-4611686018427387904) = nrs (n * 65536) (-9223372036854775808) := by
        unfold nrs
        rw [if_pos (by decide), if_pos (by decide), show (-(n * 65536)) = 2 * (-(n * 32768)) by omega, show (-(-9223372036854775808 : Int)) = 2 * (-(-4611686018427387904)) by decide, nr_twice _ _ (by decide)]
      rw [e1] at R
      clear hn hd hm e1 h0
      generalize held (nrs (n * 65536) (-9223372036854775808)) = r at *
      generalize n * 32768 = k at *
      go_enter Tryd.func18, Tryd.ntmps18
      go_wp2_with (first | (go_at_call 38; with_reducible refine (M _).mono ?_; rintro e v1 ⟨rfl, hb⟩; replace EX := Ext.trans EX hb; clear hb) | (go_at_call 37; with_reducible refine (R _).mono ?_; rintro e v1 ⟨rfl, hb⟩; replace EX := Ext.trans EX hb; clear hb))
      go_ret2
      exact ⟨rfl, EX⟩
    · have M := fun w => mul_any n 65536 hn ⟨by decide, by decide⟩ w
      have hm := mul_small hn (show In64 65536 from ⟨by decide, by decide⟩)
      have R := fun w => rounded_any (n * 65536) d hm.1 hm.2 h0 (by unfold In64 at hd; omega) (by unfold In64 at hd; omega) w
      clear hn hd hm
      generalize held (nrs (n * 65536) d) = r at *
      generalize n * 65536 = k at *
      go_enter Tryd.func18, Tryd.ntmps18
      go_wp2_with (first | (go_at_call 38; with_reducible refine (M _).mono ?_; rintro e v1 ⟨rfl, hb⟩; replace EX := Ext.trans EX hb; clear hb) | (go_at_call 37; with_reducible refine (R _).mono ?_; rintro e v1 ⟨rfl, hb⟩; replace EX := Ext.trans EX hb; clear hb))
      go_ret2
      exact ⟨rfl, EX⟩
end Go.Proofs.YtbkifcfienhkaaaDoor
