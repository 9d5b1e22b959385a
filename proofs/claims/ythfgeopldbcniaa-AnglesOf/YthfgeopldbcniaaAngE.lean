/- What lengthened, onCircle, Sin, Cos and Atan of package angles do, called at any arguments. -/
import Derived.Test.YthfgeopldbcniaaAngD
namespace Go.Proofs.Ythfgeopldbcniaa
open Go.RowKit Go.BigFrame
set_option linter.unusedSimpArgs false
set_option linter.unusedVariables false

set_option maxHeartbeats 4000000 in
theorem long_walk (x y n l x1 y1 : Int) (hn : max x y = n) (n0 : 0 ≤ n) (n1 : n < 9223372036854775808) (l0 : 0 ≤ l) (l1 : l ≤ 60) (hx : Hid (wrap64 (x * 2 ^ (60 - l).toNat) = x1)) (hy : Hid (wrap64 (y * 2 ^ (60 - l).toNat) = y1))
    (L : ∀ w, Calls Try.prog 29 #[.int .u64 n] w fun e w' => e = .returned (.int .i64 l) ∧ Ext w w') (w : World) :
    Calls Try.prog 19 #[.agg #[.int .i64 x, .int .i64 y]] w fun e w' => e = .returned (.agg #[.int .i64 x1, .int .i64 y1]) ∧ Ext w w' := by
  have EX := Ext.refl w
  go_enter Try.func19, Try.ntmps19
  go_upto_region 1 with fail
  refine rebase (G := fun w' => Code.wp _ _ _ _ w') _ (fun v1 => Ext w v1 ∧ S2m v1 (w.heap.size) (.int .i64 x) (.int .i64 y) ∧ S2m v1 (w.heap.size + 1) (.int .i64 0) (.int .i64 0)) ⟨by repeat (first | with_reducible exact EX | with_reducible refine Ext.alloc ?_ _ | with_reducible refine Ext.drew ?_ | with_reducible refine Ext.drewN ?_ _ | with_reducible refine Ext.setCell ?_ (by first | (simp; done) | omega | (dsimp only; omega)) _), by repeat (first | with_reducible assumption | with_reducible refine S2m.drew ?_ | with_reducible refine S2m.drewN ?_ _ | (with_reducible refine S2m.skip ?_ ?_; focus (first | omega | (simp; done))) | with_reducible refine S2m.store ?_ | with_reducible refine S2m.set0 ?_ _ | with_reducible refine S2m.set1 ?_ _ | with_reducible refine S2m.new (by first | rfl | (simp; done) | with_unfolding_all rfl) (by with_unfolding_all rfl) (by with_unfolding_all rfl) | with_reducible refine S2m.alloc ?_ _ | exact S2m.any (by with_reducible assumption) | with_reducible refine S2mAny.drew ?_ | with_reducible refine S2mAny.drewN ?_ _ | (with_reducible refine S2mAny.skip ?_ ?_; focus (first | omega | (simp; done))) | with_reducible refine S2mAny.alloc ?_ _), by repeat (first | with_reducible assumption | with_reducible refine S2m.drew ?_ | with_reducible refine S2m.drewN ?_ _ | (with_reducible refine S2m.skip ?_ ?_; focus (first | omega | (simp; done))) | with_reducible refine S2m.store ?_ | with_reducible refine S2m.set0 ?_ _ | with_reducible refine S2m.set1 ?_ _ | with_reducible refine S2m.new (by first | rfl | (simp; done) | with_unfolding_all rfl) (by with_unfolding_all rfl) (by with_unfolding_all rfl) | with_reducible refine S2m.alloc ?_ _ | exact S2m.any (by with_reducible assumption) | with_reducible refine S2mAny.drew ?_ | with_reducible refine S2mAny.drewN ?_ _ | (with_reducible refine S2mAny.skip ?_ ?_; focus (first | omega | (simp; done))) | with_reducible refine S2mAny.alloc ?_ _)⟩ ?_; clear EX ; rintro v1 ⟨EX, PX, PR⟩; rename World => v; have PXc0 := PX.c0; have PXc1 := PX.c1; have PXfz := PX.fz; have PXlt := PX.lt; have PRc0 := PR.c0; have PRc1 := PR.c1; have PRfz := PR.fz; have PRlt := PR.lt
  go_upto_region 2 with (first | (go_at_call 29; with_reducible refine (L _).mono ?_; rintro e v1 ⟨rfl, hb⟩; replace EX := Ext.trans EX hb; replace PX := PX.later hb; replace PR := PR.later hb; replace PXc0 := PX.c0; replace PXc1 := PX.c1; replace PXfz := PX.fz; replace PXlt := PX.lt; replace PRc0 := PR.c0; replace PRc1 := PR.c1; replace PRfz := PR.fz; replace PRlt := PR.lt; clear hb v; rename World => v))
  refine wp_region_many 9 [] (fun i => false) (by kernel_rfl) (by kernel_rfl) (by kernel_rfl) (fun c a x v w h => by cases x <;> exact h) ?_ ?_ ?_; (focus (intro i o hi ho; simp at hi)); (focus (intro m hm; simp at hm)); intro B hB l' hl'; simp [dumbsM, dumbM, isNew] at hl'; subst hl'; have gPXc0 := fun x' : Grow B => (PX.later (Ext.trans hB x'.ext)).c0; have gPXc1 := fun x' : Grow B => (PX.later (Ext.trans hB x'.ext)).c1; have gPXfz := fun x' : Grow B => (PX.later (Ext.trans hB x'.ext)).fz; have gPXlt := fun x' : Grow B => (PX.later (Ext.trans hB x'.ext)).lt; have gPRc0 := fun x' : Grow B => (PR.later (Ext.trans hB x'.ext)).c0; have gPRc1 := fun x' : Grow B => (PR.later (Ext.trans hB x'.ext)).c1; have gPRfz := fun x' : Grow B => (PR.later (Ext.trans hB x'.ext)).fz; have gPRlt := fun x' : Grow B => (PR.later (Ext.trans hB x'.ext)).lt; (repeat (first | go_big_quiet_step (fail))); refine wpQuiet_nil ?_; clear gPXc0 gPXc1 gPXfz gPXlt gPRc0 gPRc1 gPRfz gPRlt; clear hB B; intro bs v1 hv hms hne t ht; simp at ht; subst ht; simp only [puts, if_true]; clear hms hne; replace EX := Ext.trans EX hv; replace PR := PR.later hv; clear PXc0 PXc1 PXfz PXlt PRc0 PRc1 PRfz PRlt; clear PX; clear hv v; clear bs; rename World => v; have PRc0 := PR.c0; have PRc1 := PR.c1; have PRfz := PR.fz; have PRlt := PR.lt
  go_wp2
  rw [← hx.out, ← hy.out]
  refine rebase (G := fun w' => bodyPost _ _ _ _ _ w') _ (fun v1 => Ext w v1 ∧ S2m v1 (w.heap.size + 1) (.int .i64 (wrap64 (x * 2 ^ (60 - l).toNat))) (.int .i64 (wrap64 (y * 2 ^ (60 - l).toNat)))) ⟨by repeat (first | with_reducible exact EX | with_reducible refine Ext.alloc ?_ _ | with_reducible refine Ext.drew ?_ | with_reducible refine Ext.drewN ?_ _ | with_reducible refine Ext.setCell ?_ (by first | (simp; done) | omega | (dsimp only; omega)) _), by repeat (first | with_reducible assumption | with_reducible refine S2m.drew ?_ | with_reducible refine S2m.drewN ?_ _ | (with_reducible refine S2m.skip ?_ ?_; focus (first | omega | (simp; done))) | with_reducible refine S2m.store ?_ | with_reducible refine S2m.set0 ?_ _ | with_reducible refine S2m.set1 ?_ _ | with_reducible refine S2m.new (by first | rfl | (simp; done) | with_unfolding_all rfl) (by with_unfolding_all rfl) (by with_unfolding_all rfl) | with_reducible refine S2m.alloc ?_ _ | exact S2m.any (by with_reducible assumption) | with_reducible refine S2mAny.drew ?_ | with_reducible refine S2mAny.drewN ?_ _ | (with_reducible refine S2mAny.skip ?_ ?_; focus (first | omega | (simp; done))) | with_reducible refine S2mAny.alloc ?_ _)⟩ ?_; clear PRc0 PRc1 PRfz PRlt; clear EX PR; rintro v1 ⟨EX, PR⟩; clear v; rename World => v; have PRc0 := PR.c0; have PRc1 := PR.c1; have PRfz := PR.fz; have PRlt := PR.lt
  refine bodyPost_ret (by simp only [results, Try.results19]; simp [go_sem, *]; try rfl) rfl ⟨rfl, ?_⟩; repeat (first | with_reducible exact EX | with_reducible refine Ext.alloc ?_ _ | with_reducible refine Ext.drew ?_ | with_reducible refine Ext.drewN ?_ _ | with_reducible refine Ext.setCell ?_ (by first | (simp; done) | omega | (dsimp only; omega)) _)




theorem wrap_i64 {n : Int} (h : In64 n) : wrap64 n = n := by simp [wrap64]; unfold In64 at *; omega
theorem long_any (u v : Int) (hu : 0 ≤ u) (hv : 0 ≤ v) (h0 : 0 < max u v) (h1 : max u v < 2305843009213693952) (w : World) :
    Calls Try.prog 19 #[.agg #[.int .i64 u, .int .i64 v]] w fun e w' => e = .returned (.agg #[.int .i64 (u * ((2 ^ dm u v : Nat) : Int)), .int .i64 (v * ((2 ^ dm u v : Nat) : Int))]) ∧ Ext w w' := by
  obtain ⟨b1, b2, _, b3, b4, _⟩ := long_bd hu hv h0 h1
  have hU : InU64 (max u v) := ⟨by omega, by omega⟩
  obtain ⟨k, hk, k63, p1, p2⟩ := lg_pow hU h0
  have k60 : k ≤ 60 := by
    rcases Nat.lt_or_ge 60 k with h | h
    · exfalso
      have : 2 ^ 61 ≤ 2 ^ k := Nat.pow_le_pow_right (by decide) h
      rw [show (2 : Nat) ^ 61 = 2305843009213693952 by decide] at this
      generalize 2 ^ k = t at *
      omega
    · exact h
  have e : dm u v = 60 - k := by
    obtain ⟨n, hn⟩ := Int.eq_ofNat_of_zero_le (Int.le_of_lt h0)
    rw [hn] at p1 p2
    have q1 : 2 ^ k ≤ n := by generalize 2 ^ k = t at *; omega
    have q2 : n < 2 ^ (k + 1) := by generalize 2 ^ (k + 1) = t at *; omega
    have r1 := Nat.mul_le_mul_right (2 ^ (60 - k)) q1
    have r2 := Nat.mul_lt_mul_of_pos_right q2 (Nat.two_pow_pos (60 - k))
    rw [← Nat.pow_add, show k + (60 - k) = 60 by omega, show (2 : Nat) ^ 60 = 1152921504606846976 by decide] at r1
    rw [← Nat.pow_add, show k + 1 + (60 - k) = 61 by omega, show (2 : Nat) ^ 61 = 2305843009213693952 by decide] at r2
    refine dm_eq ?_ ?_
    · rw [hn, ← Int.natCast_mul]; generalize n * 2 ^ (60 - k) = t at *; omega
    · rw [hn, ← Int.natCast_mul]; generalize n * 2 ^ (60 - k) = t at *; omega
  have f : (2 : Int) ^ (60 - (k : Int)).toNat = ((2 ^ dm u v : Nat) : Int) := by
    rw [e, show (60 - (k : Int)).toNat = 60 - k by omega, Int.natCast_pow]; rfl
  refine long_walk u v (max u v) (k : Int) _ _ rfl (by omega) (by omega) (by omega) (by omega) ?_ ?_ (fun w => ?_) w
  · show wrap64 _ = _
    rw [f]; exact wrap_i64 ⟨by omega, by omega⟩
  · show wrap64 _ = _
    rw [f]; exact wrap_i64 ⟨by omega, by omega⟩
  · rw [← hk]; exact log_any _ hU w

set_option maxRecDepth 20000 in
set_option maxHeartbeats 8000000 in
theorem circle_walk (a q r f z1 z2 c s x y : Int) (a0 : -2147483648 ≤ a) (a1 : a ≤ 2147483647) (r0 : 0 ≤ r) (r1 : r < 5898240) (hf : Int.tdiv (r * 1099511627776) 5898240 = f) (f0 : 0 ≤ f) (f1 : f < 1099511627776)
    (C1 : ∀ w, Calls Try.prog 47 #[.int .i64 a] w fun e w' => e = .returned (.agg #[.int .i64 (hi (a)), .int .u64 (lo (a))]) ∧ Ext w w')
    (C2 : ∀ w, Calls Try.prog 46 #[(.agg #[.int .i64 (hi (a)), .int .u64 (lo (a))]), .int .i64 5898240] w fun e w' => e = .returned (.tuple #[(.agg #[.int .i64 (hi (q)), .int .u64 (lo (q))]), .int .i64 r, .int .i64 0]) ∧ Ext w w')
    (C3 : ∀ w, Calls Try.prog 48 #[(.agg #[.int .i64 (hi (q)), .int .u64 (lo (q))])] w fun e w' => e = .returned (.tuple #[.int .i64 q, .bool true]) ∧ Ext w w')
    (C4 : ∀ w, Calls Try.prog 49 #[.int .i64 f] w fun e w' => e = .returned (.agg #[.int .i64 z1, .int .i64 z2]) ∧ Ext w w')
    (C5 : ∀ w, Calls Try.prog 17 #[.int .i64 z1, .int .i64 46] w fun e w' => e = .returned (.int .i64 c) ∧ Ext w w')
    (C6 : ∀ w, Calls Try.prog 17 #[.int .i64 z2, .int .i64 46] w fun e w' => e = .returned (.int .i64 s) ∧ Ext w w')
    (C7 : ∀ w, Calls Try.prog 18 #[.agg #[.int .i64 c, .int .i64 s], .int .i64 q] w fun e w' => e = .returned (.agg #[.int .i64 x, .int .i64 y]) ∧ Ext w w') (w : World) :
    Calls Try.prog 26 #[.int .i32 a] w fun e w' => e = .returned (.agg #[.int .i64 x, .int .i64 y]) ∧ Ext w w' := by
  have EX := Ext.refl w
  go_enter Try.func26, Try.ntmps26
  go_upto_region 1 with fail
  refine rebase (G := fun w' => Code.wp _ _ _ _ w') _ (fun v1 => Ext w v1 ∧ S2m v1 (w.heap.size) (.int .i64 0) (.int .i64 0)) ⟨by repeat (first | with_reducible exact EX | with_reducible refine Ext.alloc ?_ _ | with_reducible refine Ext.drew ?_ | with_reducible refine Ext.drewN ?_ _ | with_reducible refine Ext.setCell ?_ (by first | (simp; done) | omega | (dsimp only; omega)) _), by repeat (first | with_reducible assumption | with_reducible refine S2m.drew ?_ | with_reducible refine S2m.drewN ?_ _ | (with_reducible refine S2m.skip ?_ ?_; focus (first | omega | (simp; done))) | with_reducible refine S2m.store ?_ | with_reducible refine S2m.set0 ?_ _ | with_reducible refine S2m.set1 ?_ _ | with_reducible refine S2m.new (by first | rfl | (simp; done) | with_unfolding_all rfl) (by with_unfolding_all rfl) (by with_unfolding_all rfl) | with_reducible refine S2m.alloc ?_ _ | exact S2m.any (by with_reducible assumption) | with_reducible refine S2mAny.drew ?_ | with_reducible refine S2mAny.drewN ?_ _ | (with_reducible refine S2mAny.skip ?_ ?_; focus (first | omega | (simp; done))) | with_reducible refine S2mAny.alloc ?_ _)⟩ ?_; clear EX ; rintro v1 ⟨EX, RB⟩; rename World => v; have RBc0 := RB.c0; have RBc1 := RB.c1; have RBfz := RB.fz; have RBlt := RB.lt
  go_upto_region 2 with (first | (go_at_call 47; with_reducible refine (C1 _).mono ?_; rintro e v1 ⟨rfl, hb⟩; replace EX := Ext.trans EX hb; replace RB := RB.later hb; replace RBc0 := RB.c0; replace RBc1 := RB.c1; replace RBfz := RB.fz; replace RBlt := RB.lt; clear hb v; rename World => v) | (go_at_call 46; with_reducible refine (C2 _).mono ?_; rintro e v1 ⟨rfl, hb⟩; replace EX := Ext.trans EX hb; replace RB := RB.later hb; replace RBc0 := RB.c0; replace RBc1 := RB.c1; replace RBfz := RB.fz; replace RBlt := RB.lt; clear hb v; rename World => v))
  refine rebase (G := fun w' => Code.wp _ _ _ _ w') _ (fun v1 => Ext w v1 ∧ S2m v1 (w.heap.size) (.int .i64 0) (.int .i64 0) ∧ Wm v1 (v.heap.size) (hi q) (lo q)) ⟨by repeat (first | with_reducible exact EX | with_reducible refine Ext.alloc ?_ _ | with_reducible refine Ext.drew ?_ | with_reducible refine Ext.drewN ?_ _ | with_reducible refine Ext.setCell ?_ (by first | (simp; done) | omega | (dsimp only; omega)) _), by repeat (first | with_reducible assumption | with_reducible refine S2m.drew ?_ | with_reducible refine S2m.drewN ?_ _ | (with_reducible refine S2m.skip ?_ ?_; focus (first | omega | (simp; done))) | with_reducible refine S2m.store ?_ | with_reducible refine S2m.set0 ?_ _ | with_reducible refine S2m.set1 ?_ _ | with_reducible refine S2m.new (by first | rfl | (simp; done) | with_unfolding_all rfl) (by with_unfolding_all rfl) (by with_unfolding_all rfl) | with_reducible refine S2m.alloc ?_ _ | exact S2m.any (by with_reducible assumption) | with_reducible refine S2mAny.drew ?_ | with_reducible refine S2mAny.drewN ?_ _ | (with_reducible refine S2mAny.skip ?_ ?_; focus (first | omega | (simp; done))) | with_reducible refine S2mAny.alloc ?_ _), by repeat (first | with_reducible assumption | with_reducible refine Wm.drew ?_ | with_reducible refine Wm.drewN ?_ _ | (with_reducible refine Wm.skip ?_ ?_; focus (first | omega | (simp; done))) | with_reducible refine Wm.store ?_ _ _ | with_reducible refine Wm.new (by first | rfl | (simp; done) | with_unfolding_all rfl) (by with_unfolding_all rfl) (by with_unfolding_all rfl) | with_reducible refine Wm.alloc ?_ _ | exact Wm.any (by with_reducible assumption) | with_reducible refine WmAny.drew ?_ | with_reducible refine WmAny.drewN ?_ _ | (with_reducible refine WmAny.skip ?_ ?_; focus (first | omega | (simp; done))) | with_reducible refine WmAny.alloc ?_ _)⟩ ?_; have qRB := RB.lt; have qw := EX.more; clear RBc0 RBc1 RBfz RBlt; clear EX RB; rintro v1 ⟨EX, RB, WQ⟩; obtain ⟨b1, hb1⟩ : ∃ b, v.heap.size = b := ⟨_, rfl⟩; rw [hb1] at qRB qw WQ ⊢; clear hb1; clear v; rename World => v; have RBc0 := RB.c0; have RBc1 := RB.c1; have RBfz := RB.fz; have RBlt := RB.lt; have WQhi := WQ.hi; have WQlo := WQ.lo; have WQfz := WQ.fz; have WQlt := WQ.lt
  go_upto_region 3 with (first | (go_at_call 48; with_reducible refine (C3 _).mono ?_; rintro e v1 ⟨rfl, hb⟩; replace EX := Ext.trans EX hb; replace RB := RB.later hb; replace WQ := WQ.later hb; replace RBc0 := RB.c0; replace RBc1 := RB.c1; replace RBfz := RB.fz; replace RBlt := RB.lt; replace WQhi := WQ.hi; replace WQlo := WQ.lo; replace WQfz := WQ.fz; replace WQlt := WQ.lt; clear hb v; rename World => v))
  go_upto_region 4 with (first | (go_at_call 49; with_reducible refine (C4 _).mono ?_; rintro e v1 ⟨rfl, hb⟩; replace EX := Ext.trans EX hb; replace RB := RB.later hb; replace WQ := WQ.later hb; replace RBc0 := RB.c0; replace RBc1 := RB.c1; replace RBfz := RB.fz; replace RBlt := RB.lt; replace WQhi := WQ.hi; replace WQlo := WQ.lo; replace WQfz := WQ.fz; replace WQlt := WQ.lt; clear hb v; rename World => v))
  refine rebase (G := fun w' => Code.wp _ _ _ _ w') _ (fun v1 => Ext w v1 ∧ S2m v1 (w.heap.size) (.int .i64 0) (.int .i64 0) ∧ S2m v1 (v.heap.size) (.int .i64 z1) (.int .i64 z2)) ⟨by repeat (first | with_reducible exact EX | with_reducible refine Ext.alloc ?_ _ | with_reducible refine Ext.drew ?_ | with_reducible refine Ext.drewN ?_ _ | with_reducible refine Ext.setCell ?_ (by first | (simp; done) | omega | (dsimp only; omega)) _), by repeat (first | with_reducible assumption | with_reducible refine S2m.drew ?_ | with_reducible refine S2m.drewN ?_ _ | (with_reducible refine S2m.skip ?_ ?_; focus (first | omega | (simp; done))) | with_reducible refine S2m.store ?_ | with_reducible refine S2m.set0 ?_ _ | with_reducible refine S2m.set1 ?_ _ | with_reducible refine S2m.new (by first | rfl | (simp; done) | with_unfolding_all rfl) (by with_unfolding_all rfl) (by with_unfolding_all rfl) | with_reducible refine S2m.alloc ?_ _ | exact S2m.any (by with_reducible assumption) | with_reducible refine S2mAny.drew ?_ | with_reducible refine S2mAny.drewN ?_ _ | (with_reducible refine S2mAny.skip ?_ ?_; focus (first | omega | (simp; done))) | with_reducible refine S2mAny.alloc ?_ _), by repeat (first | with_reducible assumption | with_reducible refine S2m.drew ?_ | with_reducible refine S2m.drewN ?_ _ | (with_reducible refine S2m.skip ?_ ?_; focus (first | omega | (simp; done))) | with_reducible refine S2m.store ?_ | with_reducible refine S2m.set0 ?_ _ | with_reducible refine S2m.set1 ?_ _ | with_reducible refine S2m.new (by first | rfl | (simp; done) | with_unfolding_all rfl) (by with_unfolding_all rfl) (by with_unfolding_all rfl) | with_reducible refine S2m.alloc ?_ _ | exact S2m.any (by with_reducible assumption) | with_reducible refine S2mAny.drew ?_ | with_reducible refine S2mAny.drewN ?_ _ | (with_reducible refine S2mAny.skip ?_ ?_; focus (first | omega | (simp; done))) | with_reducible refine S2mAny.alloc ?_ _)⟩ ?_; have qRB := RB.lt; have qWQ := WQ.lt; have qw := EX.more; clear RBc0 RBc1 RBfz RBlt WQhi WQlo WQfz WQlt; clear EX RB WQ; rintro v1 ⟨EX, RB, PZ⟩; obtain ⟨b2, hb2⟩ : ∃ b, v.heap.size = b := ⟨_, rfl⟩; rw [hb2] at qRB qWQ qw PZ ⊢; clear hb2; clear v; rename World => v; have RBc0 := RB.c0; have RBc1 := RB.c1; have RBfz := RB.fz; have RBlt := RB.lt; have PZc0 := PZ.c0; have PZc1 := PZ.c1; have PZfz := PZ.fz; have PZlt := PZ.lt
  refine wp_region_many 8 [(7, 9, (.cells #[.int .i64 0, .int .i64 0] 37))] (fun i => false) (by kernel_rfl) (by kernel_rfl) (by kernel_rfl) (fun c a x v w h => by cases x <;> exact h) ?_ ?_ ?_; (focus (intro i o hi ho; simp at hi)); (focus (intro m hm o ho a w; simp only [List.mem_cons, List.not_mem_nil, or_false] at hm; rcases hm with rfl <;> (cases ho; go_simp))); intro B hB l' hl'; simp [dumbsM, dumbM, isNew] at hl'; subst hl'; have gRBc0 := fun x' : Grow B => (RB.later (Ext.trans hB x'.ext)).c0; have gRBc1 := fun x' : Grow B => (RB.later (Ext.trans hB x'.ext)).c1; have gRBfz := fun x' : Grow B => (RB.later (Ext.trans hB x'.ext)).fz; have gRBlt := fun x' : Grow B => (RB.later (Ext.trans hB x'.ext)).lt; have gPZc0 := fun x' : Grow B => (PZ.later (Ext.trans hB x'.ext)).c0; have gPZc1 := fun x' : Grow B => (PZ.later (Ext.trans hB x'.ext)).c1; have gPZfz := fun x' : Grow B => (PZ.later (Ext.trans hB x'.ext)).fz; have gPZlt := fun x' : Grow B => (PZ.later (Ext.trans hB x'.ext)).lt; (repeat (first | go_big_quiet_step ((go_at_call 17; with_reducible exact calls_grow (C5 _))) | go_big_quiet_step ((go_at_call 17; with_reducible exact calls_grow (C6 _))) | go_big_quiet_step (fail))); refine wpQuiet_nil ?_; clear gRBc0 gRBc1 gRBfz gRBlt gPZc0 gPZc1 gPZfz gPZlt; clear hB B; intro bs v1 hv hms hne t ht; simp at ht; subst ht; simp only [puts, if_true]; obtain ⟨wn, n1, n2, n3⟩ := hms _ List.mem_cons_self; replace n3 : bs 7 = wn.heap.size := n3; have PN : S2m v1 (bs 7) (.int .i64 0) (.int .i64 0) := (by rw [n3]; exact S2m.later n2 (S2m.new rfl (by with_unfolding_all rfl) (by with_unfolding_all rfl))); have n4 := n1.more; have n5 := EX.more; have qPN_w : w.heap.size ≤ bs 7 := (by omega); have qPN_RB : w.heap.size < bs 7 := (by have := RB.lt; omega); have qPN_PZ : b2 < bs 7 := (by have := PZ.lt; omega); clear n1 n2 n3 n4 n5 wn; clear hms hne; replace EX := Ext.trans EX hv; replace RB := RB.later hv; clear RBc0 RBc1 RBfz RBlt PZc0 PZc1 PZfz PZlt; clear PZ; clear hv v; generalize bs 7 = b3 at *; clear bs; rename World => v; have RBc0 := RB.c0; have RBc1 := RB.c1; have RBfz := RB.fz; have RBlt := RB.lt; have PNc0 := PN.c0; have PNc1 := PN.c1; have PNfz := PN.fz; have PNlt := PN.lt
  go_upto_region 5 with fail
  refine rebase (G := fun w' => Code.wp _ _ _ _ w') _ (fun v1 => Ext w v1 ∧ S2m v1 (w.heap.size) (.int .i64 0) (.int .i64 0) ∧ S2m v1 (b3) (.int .i64 c) (.int .i64 s)) ⟨by repeat (first | with_reducible exact EX | with_reducible refine Ext.alloc ?_ _ | with_reducible refine Ext.drew ?_ | with_reducible refine Ext.drewN ?_ _ | with_reducible refine Ext.setCell ?_ (by first | (simp; done) | omega | (dsimp only; omega)) _), by repeat (first | with_reducible assumption | with_reducible refine S2m.drew ?_ | with_reducible refine S2m.drewN ?_ _ | (with_reducible refine S2m.skip ?_ ?_; focus (first | omega | (simp; done))) | with_reducible refine S2m.store ?_ | with_reducible refine S2m.set0 ?_ _ | with_reducible refine S2m.set1 ?_ _ | with_reducible refine S2m.new (by first | rfl | (simp; done) | with_unfolding_all rfl) (by with_unfolding_all rfl) (by with_unfolding_all rfl) | with_reducible refine S2m.alloc ?_ _ | exact S2m.any (by with_reducible assumption) | with_reducible refine S2mAny.drew ?_ | with_reducible refine S2mAny.drewN ?_ _ | (with_reducible refine S2mAny.skip ?_ ?_; focus (first | omega | (simp; done))) | with_reducible refine S2mAny.alloc ?_ _), by repeat (first | with_reducible assumption | with_reducible refine S2m.drew ?_ | with_reducible refine S2m.drewN ?_ _ | (with_reducible refine S2m.skip ?_ ?_; focus (first | omega | (simp; done))) | with_reducible refine S2m.store ?_ | with_reducible refine S2m.set0 ?_ _ | with_reducible refine S2m.set1 ?_ _ | with_reducible refine S2m.new (by first | rfl | (simp; done) | with_unfolding_all rfl) (by with_unfolding_all rfl) (by with_unfolding_all rfl) | with_reducible refine S2m.alloc ?_ _ | exact S2m.any (by with_reducible assumption) | with_reducible refine S2mAny.drew ?_ | with_reducible refine S2mAny.drewN ?_ _ | (with_reducible refine S2mAny.skip ?_ ?_; focus (first | omega | (simp; done))) | with_reducible refine S2mAny.alloc ?_ _)⟩ ?_; clear RBc0 RBc1 RBfz RBlt PNc0 PNc1 PNfz PNlt; clear EX RB PN; rintro v1 ⟨EX, RB, PN⟩; clear v; rename World => v; have RBc0 := RB.c0; have RBc1 := RB.c1; have RBfz := RB.fz; have RBlt := RB.lt; have PNc0 := PN.c0; have PNc1 := PN.c1; have PNfz := PN.fz; have PNlt := PN.lt
  go_wp2_with (first | (go_at_call 18; with_reducible refine (C7 _).mono ?_; rintro e v1 ⟨rfl, hb⟩; replace EX := Ext.trans EX hb; replace RB := RB.later hb; replace PN := PN.later hb; replace RBc0 := RB.c0; replace RBc1 := RB.c1; replace RBfz := RB.fz; replace RBlt := RB.lt; replace PNc0 := PN.c0; replace PNc1 := PN.c1; replace PNfz := PN.fz; replace PNlt := PN.lt; clear hb v; rename World => v))
  refine rebase (G := fun w' => bodyPost _ _ _ _ _ w') _ (fun v1 => Ext w v1 ∧ S2m v1 (w.heap.size) (.int .i64 x) (.int .i64 y)) ⟨by repeat (first | with_reducible exact EX | with_reducible refine Ext.alloc ?_ _ | with_reducible refine Ext.drew ?_ | with_reducible refine Ext.drewN ?_ _ | with_reducible refine Ext.setCell ?_ (by first | (simp; done) | omega | (dsimp only; omega)) _), by repeat (first | with_reducible assumption | with_reducible refine S2m.drew ?_ | with_reducible refine S2m.drewN ?_ _ | (with_reducible refine S2m.skip ?_ ?_; focus (first | omega | (simp; done))) | with_reducible refine S2m.store ?_ | with_reducible refine S2m.set0 ?_ _ | with_reducible refine S2m.set1 ?_ _ | with_reducible refine S2m.new (by first | rfl | (simp; done) | with_unfolding_all rfl) (by with_unfolding_all rfl) (by with_unfolding_all rfl) | with_reducible refine S2m.alloc ?_ _ | exact S2m.any (by with_reducible assumption) | with_reducible refine S2mAny.drew ?_ | with_reducible refine S2mAny.drewN ?_ _ | (with_reducible refine S2mAny.skip ?_ ?_; focus (first | omega | (simp; done))) | with_reducible refine S2mAny.alloc ?_ _)⟩ ?_; clear RBc0 RBc1 RBfz RBlt PNc0 PNc1 PNfz PNlt; clear EX RB PN; rintro v1 ⟨EX, RB⟩; clear v; rename World => v; have RBc0 := RB.c0; have RBc1 := RB.c1; have RBfz := RB.fz; have RBlt := RB.lt
  refine bodyPost_ret (by simp only [results, Try.results26]; simp [go_sem, *]; try rfl) rfl ⟨rfl, ?_⟩; repeat (first | with_reducible exact EX | with_reducible refine Ext.alloc ?_ _ | with_reducible refine Ext.drew ?_ | with_reducible refine Ext.drewN ?_ _ | with_reducible refine Ext.setCell ?_ (by first | (simp; done) | omega | (dsimp only; omega)) _)
theorem csa_bits (a : Int) (h0 : -2147483648 ≤ a) (h1 : a ≤ 2147483647) : (a / 5898240) % 4 = ((qr a % 4 : Nat) : Int) ∧ a % 5898240 = (rr a : Int) ∧ Int.tdiv (a % 5898240 * 1099511627776) 5898240 = (part (rr a) : Int) := by
  have e : a % 5898240 = (rr a : Int) := by unfold rr; omega
  refine ⟨by unfold qr; omega, e, ?_⟩
  rw [e, Int.tdiv_eq_ediv_of_nonneg (by omega)]
  unfold part
  omega
theorem onCircle_any (a : Int) (h0 : -2147483648 ≤ a) (h1 : a ≤ 2147483647) (w : World) : Calls Try.prog 26 #[.int .i32 a] w fun e w' => e = .returned (.agg #[.int .i64 (csa a).1, .int .i64 (csa a).2]) ∧ Ext w w' := by
  obtain ⟨e1, e2, e3⟩ := csa_bits a h0 h1
  have ia : In64 a := ⟨by omega, by omega⟩
  have bz := (ZZ_le (part (rr a))).parts
  have bq := c46_quad (part (rr a))
  refine circle_walk a (a / 5898240) (a % 5898240) _ (ZZ (part (rr a))).1 (ZZ (part (rr a))).2 (c46 (ZZ (part (rr a))).1) (c46 (ZZ (part (rr a))).2) _ _ h0 h1 (by omega) (by omega) e3 (by omega) (by have := part_lt (rr_lt a); omega) (fun w => of_any a ia w) (fun w => floor_any a 5898240 (in64_W ia) (by decide) ⟨by decide, by decide⟩ w) (fun w => ?_) (fun w => atShare_any (part (rr a)) (part_lt (rr_lt a)) w) (fun w => short46 _ (by omega) (by omega) w) (fun w => short46 _ (by omega) (by omega) w) (fun w => ?_) w
  · have := int_any (a / 5898240) w
    rw [wrap_i64 ⟨by omega, by omega⟩, if_pos rfl, decide_eq_true rfl] at this
    exact this
  · have e : csa a = cm (iu (qr a)) (c46 (ZZ (part (rr a))).1, c46 (ZZ (part (rr a))).2) := rfl
    rw [e]
    generalize c46 (ZZ (part (rr a))).1 = c at *
    generalize c46 (ZZ (part (rr a))).2 = s at *
    have b : Bd (c, s) 4611686018427389904 := by
      refine ⟨by decide, ?_⟩
      unfold nn
      have p := Int.mul_le_mul bq.2.1 bq.2.1 bq.1 (by decide)
      have q := Int.mul_le_mul bq.2.2.2 bq.2.2.2 bq.2.2.1 (by decide)
      simp only
      omega
    exact quarters_any (c, s) (a / 5898240) (qr a) e1 b w
set_option maxRecDepth 20000 in
set_option maxHeartbeats 4000000 in
theorem sin_walk (a x y : Int) (y0 : -65536 ≤ y) (y1 : y ≤ 65536) (C : ∀ w, Calls Try.prog 26 #[.int .i32 a] w fun e w' => e = .returned (.agg #[.int .i64 x, .int .i64 y]) ∧ Ext w w') (w : World) : Calls Try.prog 11 #[.int .i32 a] w fun e w' => e = .returned (.int .i32 y) ∧ Ext w w' := by
  have EX := Ext.refl w
  have hfd : ∀ w : World, (Instr.field 37 (.agg #[.int .i64 x, .int .i64 y]) 1).run Try.prog w = .ok (.int .i64 y) w := fun _ => by kernel_rfl
  go_enter Try.func11, Try.ntmps11
  go_wp2_with (first | (go_at_call 26; with_reducible refine (C _).mono ?_; rintro e v1 ⟨rfl, hb⟩; replace EX := Ext.trans EX hb; clear hb))
  go_ret
  exact ⟨rfl, EX⟩
set_option maxRecDepth 20000 in
set_option maxHeartbeats 4000000 in
theorem cos_walk (a x y : Int) (x0 : -65536 ≤ x) (x1 : x ≤ 65536) (C : ∀ w, Calls Try.prog 26 #[.int .i32 a] w fun e w' => e = .returned (.agg #[.int .i64 x, .int .i64 y]) ∧ Ext w w') (w : World) : Calls Try.prog 13 #[.int .i32 a] w fun e w' => e = .returned (.int .i32 x) ∧ Ext w w' := by
  have EX := Ext.refl w
  have hfd : ∀ w : World, (Instr.field 37 (.agg #[.int .i64 x, .int .i64 y]) 0).run Try.prog w = .ok (.int .i64 x) w := fun _ => by kernel_rfl
  go_enter Try.func13, Try.ntmps13
  go_wp2_with (first | (go_at_call 26; with_reducible refine (C _).mono ?_; rintro e v1 ⟨rfl, hb⟩; replace EX := Ext.trans EX hb; clear hb))
  go_ret
  exact ⟨rfl, EX⟩
theorem sin_any (a : Int) (h0 : -2147483648 ≤ a) (h1 : a ≤ 2147483647) (w : World) : Calls Try.prog 11 #[.int .i32 a] w fun e w' => e = .returned (.int .i32 (csa a).2) ∧ Ext w w' :=
  sin_walk a (csa a).1 (csa a).2 (csa_bd a).2.2.1 (csa_bd a).2.2.2 (fun w => onCircle_any a h0 h1 w) w
theorem cos_any (a : Int) (h0 : -2147483648 ≤ a) (h1 : a ≤ 2147483647) (w : World) : Calls Try.prog 13 #[.int .i32 a] w fun e w' => e = .returned (.int .i32 (csa a).1) ∧ Ext w w' :=
  cos_walk a (csa a).1 (csa a).2 (csa_bd a).1 (csa_bd a).2.1 (fun w => onCircle_any a h0 h1 w) w
theorem atan_zero (w : World) : Calls Try.prog 9 #[.int .i32 0, .int .i32 0] w fun e w' => e = .returned (.tuple #[.int .i32 0, .int .i64 12]) ∧ Ext w w' := by
  go_enter Try.func9, Try.ntmps9
  go_wp2
  go_ret2
  exact ⟨rfl, Ext.refl _⟩

set_option maxHeartbeats 8000000 in
theorem atan_nx (y x q n u v u1 v1 F l a : Int) (x0 : -2147483648 ≤ x) (x1 : x ≤ 2147483647) (y0 : -2147483648 ≤ y) (y1 : y ≤ 2147483647) (q0 : 0 ≤ q) (q3 : q ≤ 3) (F0 : 0 ≤ F) (F1 : F < 1099511627776) (l0 : 0 ≤ l) (l1 : l ≤ 5898240) (hn : -q = n) (ha : 5898240 * q + l = a) (he : (a == 23592960) = false) (hz : (x == 0) = false)
    (C1 : ∀ w, Calls Try.prog 16 #[.agg #[.int .i64 x, .int .i64 y]] w fun e w' => e = .returned (.int .i64 q) ∧ Ext w w')
    (C2 : ∀ w, Calls Try.prog 18 #[.agg #[.int .i64 x, .int .i64 y], .int .i64 n] w fun e w' => e = .returned (.agg #[.int .i64 u, .int .i64 v]) ∧ Ext w w')
    (C3 : ∀ w, Calls Try.prog 19 #[.agg #[.int .i64 u, .int .i64 v]] w fun e w' => e = .returned (.agg #[.int .i64 u1, .int .i64 v1]) ∧ Ext w w')
    (C4 : ∀ w, Calls Try.prog 20 #[.agg #[.int .i64 u1, .int .i64 v1]] w fun e w' => e = .returned (.int .i64 F) ∧ Ext w w')
    (C5 : ∀ w, Calls Try.prog 17 #[.int .i64 (5898240 * F), .int .i64 40] w fun e w' => e = .returned (.int .i64 l) ∧ Ext w w') (w : World) :
    Calls Try.prog 9 #[.int .i32 y, .int .i32 x] w fun e w' => e = .returned (.tuple #[.int .i32 (a), .int .i64 0]) ∧ Ext w w' := by
  have EX := Ext.refl w
  have a0 : 0 ≤ a := by omega
  have a1 : a ≤ 23592960 := by omega
  go_enter Try.func9, Try.ntmps9
  go_upto_region 4 with fail
  refine rebase (G := fun w' => Code.wp _ _ _ _ w') _ (fun v1 => Ext w v1 ∧ S2m v1 (w.heap.size) (.int .i64 x) (.int .i64 y)) ⟨by repeat (first | with_reducible exact EX | with_reducible refine Ext.alloc ?_ _ | with_reducible refine Ext.drew ?_ | with_reducible refine Ext.drewN ?_ _ | with_reducible refine Ext.setCell ?_ (by first | (simp; done) | omega | (dsimp only; omega)) _), by repeat (first | with_reducible assumption | with_reducible refine S2m.drew ?_ | with_reducible refine S2m.drewN ?_ _ | (with_reducible refine S2m.skip ?_ ?_; focus (first | omega | (simp; done))) | with_reducible refine S2m.store ?_ | with_reducible refine S2m.set0 ?_ _ | with_reducible refine S2m.set1 ?_ _ | with_reducible refine S2m.new (by first | rfl | (simp; done) | with_unfolding_all rfl) (by with_unfolding_all rfl) (by with_unfolding_all rfl) | with_reducible refine S2m.alloc ?_ _ | exact S2m.any (by with_reducible assumption) | with_reducible refine S2mAny.drew ?_ | with_reducible refine S2mAny.drewN ?_ _ | (with_reducible refine S2mAny.skip ?_ ?_; focus (first | omega | (simp; done))) | with_reducible refine S2mAny.alloc ?_ _)⟩ ?_; clear EX ; rintro v1 ⟨EX, PX⟩; rename World => v; have PXc0 := PX.c0; have PXc1 := PX.c1; have PXfz := PX.fz; have PXlt := PX.lt
  go_upto_region 9 with (first | (go_at_call 16; with_reducible refine (C1 _).mono ?_; rintro e v1 ⟨rfl, hb⟩; replace EX := Ext.trans EX hb; replace PX := PX.later hb; replace PXc0 := PX.c0; replace PXc1 := PX.c1; replace PXfz := PX.fz; replace PXlt := PX.lt; clear hb v; rename World => v) | (go_at_call 18; with_reducible refine (C2 _).mono ?_; rintro e v1 ⟨rfl, hb⟩; replace EX := Ext.trans EX hb; replace PX := PX.later hb; replace PXc0 := PX.c0; replace PXc1 := PX.c1; replace PXfz := PX.fz; replace PXlt := PX.lt; clear hb v; rename World => v) | (go_at_call 19; with_reducible refine (C3 _).mono ?_; rintro e v1 ⟨rfl, hb⟩; replace EX := Ext.trans EX hb; replace PX := PX.later hb; replace PXc0 := PX.c0; replace PXc1 := PX.c1; replace PXfz := PX.fz; replace PXlt := PX.lt; clear hb v; rename World => v) | (go_at_call 20; with_reducible refine (C4 _).mono ?_; rintro e v1 ⟨rfl, hb⟩; replace EX := Ext.trans EX hb; replace PX := PX.later hb; replace PXc0 := PX.c0; replace PXc1 := PX.c1; replace PXfz := PX.fz; replace PXlt := PX.lt; clear hb v; rename World => v) | (go_at_call 17; with_reducible refine (C5 _).mono ?_; rintro e v1 ⟨rfl, hb⟩; replace EX := Ext.trans EX hb; replace PX := PX.later hb; replace PXc0 := PX.c0; replace PXc1 := PX.c1; replace PXfz := PX.fz; replace PXlt := PX.lt; clear hb v; rename World => v))
  go_wp2
  go_ret2
  exact ⟨rfl, by repeat (first | with_reducible exact EX | with_reducible refine Ext.alloc ?_ _ | with_reducible refine Ext.drew ?_ | with_reducible refine Ext.drewN ?_ _ | with_reducible refine Ext.setCell ?_ (by first | (simp; done) | omega | (dsimp only; omega)) _)⟩

set_option maxHeartbeats 8000000 in
theorem atan_ny (y x q n u v u1 v1 F l a : Int) (x0 : -2147483648 ≤ x) (x1 : x ≤ 2147483647) (y0 : -2147483648 ≤ y) (y1 : y ≤ 2147483647) (q0 : 0 ≤ q) (q3 : q ≤ 3) (F0 : 0 ≤ F) (F1 : F < 1099511627776) (l0 : 0 ≤ l) (l1 : l ≤ 5898240) (hn : -q = n) (ha : 5898240 * q + l = a) (he : (a == 23592960) = false) (hz : (x == 0) = true) (hy : (y == 0) = false)
    (C1 : ∀ w, Calls Try.prog 16 #[.agg #[.int .i64 x, .int .i64 y]] w fun e w' => e = .returned (.int .i64 q) ∧ Ext w w')
    (C2 : ∀ w, Calls Try.prog 18 #[.agg #[.int .i64 x, .int .i64 y], .int .i64 n] w fun e w' => e = .returned (.agg #[.int .i64 u, .int .i64 v]) ∧ Ext w w')
    (C3 : ∀ w, Calls Try.prog 19 #[.agg #[.int .i64 u, .int .i64 v]] w fun e w' => e = .returned (.agg #[.int .i64 u1, .int .i64 v1]) ∧ Ext w w')
    (C4 : ∀ w, Calls Try.prog 20 #[.agg #[.int .i64 u1, .int .i64 v1]] w fun e w' => e = .returned (.int .i64 F) ∧ Ext w w')
    (C5 : ∀ w, Calls Try.prog 17 #[.int .i64 (5898240 * F), .int .i64 40] w fun e w' => e = .returned (.int .i64 l) ∧ Ext w w') (w : World) :
    Calls Try.prog 9 #[.int .i32 y, .int .i32 x] w fun e w' => e = .returned (.tuple #[.int .i32 (a), .int .i64 0]) ∧ Ext w w' := by
  have EX := Ext.refl w
  have a0 : 0 ≤ a := by omega
  have a1 : a ≤ 23592960 := by omega
  go_enter Try.func9, Try.ntmps9
  go_upto_region 4 with fail
  refine rebase (G := fun w' => Code.wp _ _ _ _ w') _ (fun v1 => Ext w v1 ∧ S2m v1 (w.heap.size) (.int .i64 x) (.int .i64 y)) ⟨by repeat (first | with_reducible exact EX | with_reducible refine Ext.alloc ?_ _ | with_reducible refine Ext.drew ?_ | with_reducible refine Ext.drewN ?_ _ | with_reducible refine Ext.setCell ?_ (by first | (simp; done) | omega | (dsimp only; omega)) _), by repeat (first | with_reducible assumption | with_reducible refine S2m.drew ?_ | with_reducible refine S2m.drewN ?_ _ | (with_reducible refine S2m.skip ?_ ?_; focus (first | omega | (simp; done))) | with_reducible refine S2m.store ?_ | with_reducible refine S2m.set0 ?_ _ | with_reducible refine S2m.set1 ?_ _ | with_reducible refine S2m.new (by first | rfl | (simp; done) | with_unfolding_all rfl) (by with_unfolding_all rfl) (by with_unfolding_all rfl) | with_reducible refine S2m.alloc ?_ _ | exact S2m.any (by with_reducible assumption) | with_reducible refine S2mAny.drew ?_ | with_reducible refine S2mAny.drewN ?_ _ | (with_reducible refine S2mAny.skip ?_ ?_; focus (first | omega | (simp; done))) | with_reducible refine S2mAny.alloc ?_ _)⟩ ?_; clear EX ; rintro v1 ⟨EX, PX⟩; rename World => v; have PXc0 := PX.c0; have PXc1 := PX.c1; have PXfz := PX.fz; have PXlt := PX.lt
  go_upto_region 9 with (first | (go_at_call 16; with_reducible refine (C1 _).mono ?_; rintro e v1 ⟨rfl, hb⟩; replace EX := Ext.trans EX hb; replace PX := PX.later hb; replace PXc0 := PX.c0; replace PXc1 := PX.c1; replace PXfz := PX.fz; replace PXlt := PX.lt; clear hb v; rename World => v) | (go_at_call 18; with_reducible refine (C2 _).mono ?_; rintro e v1 ⟨rfl, hb⟩; replace EX := Ext.trans EX hb; replace PX := PX.later hb; replace PXc0 := PX.c0; replace PXc1 := PX.c1; replace PXfz := PX.fz; replace PXlt := PX.lt; clear hb v; rename World => v) | (go_at_call 19; with_reducible refine (C3 _).mono ?_; rintro e v1 ⟨rfl, hb⟩; replace EX := Ext.trans EX hb; replace PX := PX.later hb; replace PXc0 := PX.c0; replace PXc1 := PX.c1; replace PXfz := PX.fz; replace PXlt := PX.lt; clear hb v; rename World => v) | (go_at_call 20; with_reducible refine (C4 _).mono ?_; rintro e v1 ⟨rfl, hb⟩; replace EX := Ext.trans EX hb; replace PX := PX.later hb; replace PXc0 := PX.c0; replace PXc1 := PX.c1; replace PXfz := PX.fz; replace PXlt := PX.lt; clear hb v; rename World => v) | (go_at_call 17; with_reducible refine (C5 _).mono ?_; rintro e v1 ⟨rfl, hb⟩; replace EX := Ext.trans EX hb; replace PX := PX.later hb; replace PXc0 := PX.c0; replace PXc1 := PX.c1; replace PXfz := PX.fz; replace PXlt := PX.lt; clear hb v; rename World => v))
  go_wp2
  go_ret2
  exact ⟨rfl, by repeat (first | with_reducible exact EX | with_reducible refine Ext.alloc ?_ _ | with_reducible refine Ext.drew ?_ | with_reducible refine Ext.drewN ?_ _ | with_reducible refine Ext.setCell ?_ (by first | (simp; done) | omega | (dsimp only; omega)) _)⟩

set_option maxHeartbeats 8000000 in
theorem atan_nxe (y x q n u v u1 v1 F l a : Int) (x0 : -2147483648 ≤ x) (x1 : x ≤ 2147483647) (y0 : -2147483648 ≤ y) (y1 : y ≤ 2147483647) (q0 : 0 ≤ q) (q3 : q ≤ 3) (F0 : 0 ≤ F) (F1 : F < 1099511627776) (l0 : 0 ≤ l) (l1 : l ≤ 5898240) (hn : -q = n) (ha : 5898240 * q + l = a) (he : (a == 23592960) = true) (hz : (x == 0) = false)
    (C1 : ∀ w, Calls Try.prog 16 #[.agg #[.int .i64 x, .int .i64 y]] w fun e w' => e = .returned (.int .i64 q) ∧ Ext w w')
    (C2 : ∀ w, Calls Try.prog 18 #[.agg #[.int .i64 x, .int .i64 y], .int .i64 n] w fun e w' => e = .returned (.agg #[.int .i64 u, .int .i64 v]) ∧ Ext w w')
    (C3 : ∀ w, Calls Try.prog 19 #[.agg #[.int .i64 u, .int .i64 v]] w fun e w' => e = .returned (.agg #[.int .i64 u1, .int .i64 v1]) ∧ Ext w w')
    (C4 : ∀ w, Calls Try.prog 20 #[.agg #[.int .i64 u1, .int .i64 v1]] w fun e w' => e = .returned (.int .i64 F) ∧ Ext w w')
    (C5 : ∀ w, Calls Try.prog 17 #[.int .i64 (5898240 * F), .int .i64 40] w fun e w' => e = .returned (.int .i64 l) ∧ Ext w w') (w : World) :
    Calls Try.prog 9 #[.int .i32 y, .int .i32 x] w fun e w' => e = .returned (.tuple #[.int .i32 (0), .int .i64 0]) ∧ Ext w w' := by
  have EX := Ext.refl w
  have a0 : 0 ≤ a := by omega
  have a1 : a ≤ 23592960 := by omega
  go_enter Try.func9, Try.ntmps9
  go_upto_region 4 with fail
  refine rebase (G := fun w' => Code.wp _ _ _ _ w') _ (fun v1 => Ext w v1 ∧ S2m v1 (w.heap.size) (.int .i64 x) (.int .i64 y)) ⟨by repeat (first | with_reducible exact EX | with_reducible refine Ext.alloc ?_ _ | with_reducible refine Ext.drew ?_ | with_reducible refine Ext.drewN ?_ _ | with_reducible refine Ext.setCell ?_ (by first | (simp; done) | omega | (dsimp only; omega)) _), by repeat (first | with_reducible assumption | with_reducible refine S2m.drew ?_ | with_reducible refine S2m.drewN ?_ _ | (with_reducible refine S2m.skip ?_ ?_; focus (first | omega | (simp; done))) | with_reducible refine S2m.store ?_ | with_reducible refine S2m.set0 ?_ _ | with_reducible refine S2m.set1 ?_ _ | with_reducible refine S2m.new (by first | rfl | (simp; done) | with_unfolding_all rfl) (by with_unfolding_all rfl) (by with_unfolding_all rfl) | with_reducible refine S2m.alloc ?_ _ | exact S2m.any (by with_reducible assumption) | with_reducible refine S2mAny.drew ?_ | with_reducible refine S2mAny.drewN ?_ _ | (with_reducible refine S2mAny.skip ?_ ?_; focus (first | omega | (simp; done))) | with_reducible refine S2mAny.alloc ?_ _)⟩ ?_; clear EX ; rintro v1 ⟨EX, PX⟩; rename World => v; have PXc0 := PX.c0; have PXc1 := PX.c1; have PXfz := PX.fz; have PXlt := PX.lt
  go_upto_region 9 with (first | (go_at_call 16; with_reducible refine (C1 _).mono ?_; rintro e v1 ⟨rfl, hb⟩; replace EX := Ext.trans EX hb; replace PX := PX.later hb; replace PXc0 := PX.c0; replace PXc1 := PX.c1; replace PXfz := PX.fz; replace PXlt := PX.lt; clear hb v; rename World => v) | (go_at_call 18; with_reducible refine (C2 _).mono ?_; rintro e v1 ⟨rfl, hb⟩; replace EX := Ext.trans EX hb; replace PX := PX.later hb; replace PXc0 := PX.c0; replace PXc1 := PX.c1; replace PXfz := PX.fz; replace PXlt := PX.lt; clear hb v; rename World => v) | (go_at_call 19; with_reducible refine (C3 _).mono ?_; rintro e v1 ⟨rfl, hb⟩; replace EX := Ext.trans EX hb; replace PX := PX.later hb; replace PXc0 := PX.c0; replace PXc1 := PX.c1; replace PXfz := PX.fz; replace PXlt := PX.lt; clear hb v; rename World => v) | (go_at_call 20; with_reducible refine (C4 _).mono ?_; rintro e v1 ⟨rfl, hb⟩; replace EX := Ext.trans EX hb; replace PX := PX.later hb; replace PXc0 := PX.c0; replace PXc1 := PX.c1; replace PXfz := PX.fz; replace PXlt := PX.lt; clear hb v; rename World => v) | (go_at_call 17; with_reducible refine (C5 _).mono ?_; rintro e v1 ⟨rfl, hb⟩; replace EX := Ext.trans EX hb; replace PX := PX.later hb; replace PXc0 := PX.c0; replace PXc1 := PX.c1; replace PXfz := PX.fz; replace PXlt := PX.lt; clear hb v; rename World => v))
  go_wp2
  go_ret2
  exact ⟨rfl, by repeat (first | with_reducible exact EX | with_reducible refine Ext.alloc ?_ _ | with_reducible refine Ext.drew ?_ | with_reducible refine Ext.drewN ?_ _ | with_reducible refine Ext.setCell ?_ (by first | (simp; done) | omega | (dsimp only; omega)) _)⟩

set_option maxHeartbeats 8000000 in
theorem atan_nye (y x q n u v u1 v1 F l a : Int) (x0 : -2147483648 ≤ x) (x1 : x ≤ 2147483647) (y0 : -2147483648 ≤ y) (y1 : y ≤ 2147483647) (q0 : 0 ≤ q) (q3 : q ≤ 3) (F0 : 0 ≤ F) (F1 : F < 1099511627776) (l0 : 0 ≤ l) (l1 : l ≤ 5898240) (hn : -q = n) (ha : 5898240 * q + l = a) (he : (a == 23592960) = true) (hz : (x == 0) = true) (hy : (y == 0) = false)
    (C1 : ∀ w, Calls Try.prog 16 #[.agg #[.int .i64 x, .int .i64 y]] w fun e w' => e = .returned (.int .i64 q) ∧ Ext w w')
    (C2 : ∀ w, Calls Try.prog 18 #[.agg #[.int .i64 x, .int .i64 y], .int .i64 n] w fun e w' => e = .returned (.agg #[.int .i64 u, .int .i64 v]) ∧ Ext w w')
    (C3 : ∀ w, Calls Try.prog 19 #[.agg #[.int .i64 u, .int .i64 v]] w fun e w' => e = .returned (.agg #[.int .i64 u1, .int .i64 v1]) ∧ Ext w w')
    (C4 : ∀ w, Calls Try.prog 20 #[.agg #[.int .i64 u1, .int .i64 v1]] w fun e w' => e = .returned (.int .i64 F) ∧ Ext w w')
    (C5 : ∀ w, Calls Try.prog 17 #[.int .i64 (5898240 * F), .int .i64 40] w fun e w' => e = .returned (.int .i64 l) ∧ Ext w w') (w : World) :
    Calls Try.prog 9 #[.int .i32 y, .int .i32 x] w fun e w' => e = .returned (.tuple #[.int .i32 (0), .int .i64 0]) ∧ Ext w w' := by
  have EX := Ext.refl w
  have a0 : 0 ≤ a := by omega
  have a1 : a ≤ 23592960 := by omega
  go_enter Try.func9, Try.ntmps9
  go_upto_region 4 with fail
  refine rebase (G := fun w' => Code.wp _ _ _ _ w') _ (fun v1 => Ext w v1 ∧ S2m v1 (w.heap.size) (.int .i64 x) (.int .i64 y)) ⟨by repeat (first | with_reducible exact EX | with_reducible refine Ext.alloc ?_ _ | with_reducible refine Ext.drew ?_ | with_reducible refine Ext.drewN ?_ _ | with_reducible refine Ext.setCell ?_ (by first | (simp; done) | omega | (dsimp only; omega)) _), by repeat (first | with_reducible assumption | with_reducible refine S2m.drew ?_ | with_reducible refine S2m.drewN ?_ _ | (with_reducible refine S2m.skip ?_ ?_; focus (first | omega | (simp; done))) | with_reducible refine S2m.store ?_ | with_reducible refine S2m.set0 ?_ _ | with_reducible refine S2m.set1 ?_ _ | with_reducible refine S2m.new (by first | rfl | (simp; done) | with_unfolding_all rfl) (by with_unfolding_all rfl) (by with_unfolding_all rfl) | with_reducible refine S2m.alloc ?_ _ | exact S2m.any (by with_reducible assumption) | with_reducible refine S2mAny.drew ?_ | with_reducible refine S2mAny.drewN ?_ _ | (with_reducible refine S2mAny.skip ?_ ?_; focus (first | omega | (simp; done))) | with_reducible refine S2mAny.alloc ?_ _)⟩ ?_; clear EX ; rintro v1 ⟨EX, PX⟩; rename World => v; have PXc0 := PX.c0; have PXc1 := PX.c1; have PXfz := PX.fz; have PXlt := PX.lt
  go_upto_region 9 with (first | (go_at_call 16; with_reducible refine (C1 _).mono ?_; rintro e v1 ⟨rfl, hb⟩; replace EX := Ext.trans EX hb; replace PX := PX.later hb; replace PXc0 := PX.c0; replace PXc1 := PX.c1; replace PXfz := PX.fz; replace PXlt := PX.lt; clear hb v; rename World => v) | (go_at_call 18; with_reducible refine (C2 _).mono ?_; rintro e v1 ⟨rfl, hb⟩; replace EX := Ext.trans EX hb; replace PX := PX.later hb; replace PXc0 := PX.c0; replace PXc1 := PX.c1; replace PXfz := PX.fz; replace PXlt := PX.lt; clear hb v; rename World => v) | (go_at_call 19; with_reducible refine (C3 _).mono ?_; rintro e v1 ⟨rfl, hb⟩; replace EX := Ext.trans EX hb; replace PX := PX.later hb; replace PXc0 := PX.c0; replace PXc1 := PX.c1; replace PXfz := PX.fz; replace PXlt := PX.lt; clear hb v; rename World => v) | (go_at_call 20; with_reducible refine (C4 _).mono ?_; rintro e v1 ⟨rfl, hb⟩; replace EX := Ext.trans EX hb; replace PX := PX.later hb; replace PXc0 := PX.c0; replace PXc1 := PX.c1; replace PXfz := PX.fz; replace PXlt := PX.lt; clear hb v; rename World => v) | (go_at_call 17; with_reducible refine (C5 _).mono ?_; rintro e v1 ⟨rfl, hb⟩; replace EX := Ext.trans EX hb; replace PX := PX.later hb; replace PXc0 := PX.c0; replace PXc1 := PX.c1; replace PXfz := PX.fz; replace PXlt := PX.lt; clear hb v; rename World => v))
  go_wp2
  go_ret2
  exact ⟨rfl, by repeat (first | with_reducible exact EX | with_reducible refine Ext.alloc ?_ _ | with_reducible refine Ext.drew ?_ | with_reducible refine Ext.drewN ?_ _ | with_reducible refine Ext.setCell ?_ (by first | (simp; done) | omega | (dsimp only; omega)) _)⟩

theorem uv_cm (x y : Int) : cm (iu (4 - qd x y)) (x, y) = uvq x y ∧ (-(qd x y : Int)) % 4 = (((4 - qd x y) % 4 : Nat) : Int) ∧ qd x y ≤ 3 := by
  unfold qd uvq
  split
  · exact ⟨by rw [show iu (4 - 0) = (1, 0) from rfl]; unfold cm; simp, by decide, by decide⟩
  · split
    · exact ⟨by rw [show iu (4 - 1) = (0, -1) from rfl]; unfold cm; simp, by decide, by decide⟩
    · split
      · exact ⟨by rw [show iu (4 - 2) = (-1, 0) from rfl]; unfold cm; simp, by decide, by decide⟩
      · exact ⟨by rw [show iu (4 - 3) = (0, 1) from rfl]; unfold cm; simp, by decide, by decide⟩
theorem atan_any (y x : Int) (x0 : -2147483648 ≤ x) (x1 : x ≤ 2147483647) (y0 : -2147483648 ≤ y) (y1 : y ≤ 2147483647) (h : ¬ (x = 0 ∧ y = 0)) (w : World) :
    Calls Try.prog 9 #[.int .i32 y, .int .i32 x] w fun e w' => e = .returned (.tuple #[.int .i32 (atn y x), .int .i64 0]) ∧ Ext w w' := by
  obtain ⟨u1, u2, u3⟩ := uv_cm x y
  obtain ⟨p1, p2, p3⟩ := uv_pos h
  obtain ⟨m1, m2⟩ := uv_max h
  have m3 : max (uvq x y).1 (uvq x y).2 < 2305843009213693952 := by omega
  obtain ⟨b1, b2, _, b3, b4, b5⟩ := long_bd p1 p2 m1 m3
  have bxy : Bd (x, y) 4611686018427389904 := by
    refine ⟨by decide, ?_⟩
    have k (z : Int) (h0 : -2147483648 ≤ z) (h1 : z ≤ 2147483647) : z * z ≤ 2147483648 * 2147483648 := by
      rcases Int.le_total 0 z with t | t
      · exact Int.mul_le_mul (by omega) (by omega) t (by decide)
      · have := Int.mul_le_mul (show -z ≤ 2147483648 by omega) (show -z ≤ 2147483648 by omega) (show 0 ≤ -z by omega) (by decide)
        rw [Int.neg_mul_neg] at this
        exact this
    have kx := k x x0 x1
    have ky := k y y0 y1
    unfold nn
    simp only
    omega
  have C1 := fun w => quadrant_any x y w
  have C2 := fun w => quarters_any (x, y) (-(qd x y : Int)) (4 - qd x y) u2 bxy w
  rw [u1] at C2
  have C3 := fun w => long_any (uvq x y).1 (uvq x y).2 p1 p2 m1 m3 w
  have C4 := fun w => share_any _ _ b5 w
  have F1 := dirq_lt (uvq x y).1 (uvq x y).2
  have tl := told_in F1
  have C5 := fun w => short40 (5898240 * (dirq (uvq x y).1 (uvq x y).2 : Int)) (by omega) (by omega) w
  change ∀ w, Calls _ _ _ _ (fun e w' => e = .returned (.int .i64 (told (dirq (uvq x y).1 (uvq x y).2))) ∧ Ext _ w') at C5
  change ∀ w, Calls _ _ _ _ (fun e w' => e = .returned (.int .i64 (dirq (uvq x y).1 (uvq x y).2 : Int)) ∧ Ext _ w') at C4
  unfold atn
  have ea : 5898240 * (qd x y : Int) + told (dirq (uvq x y).1 (uvq x y).2) = atr y x := rfl
  generalize told (dirq (uvq x y).1 (uvq x y).2) = l at *
  generalize dirq (uvq x y).1 (uvq x y).2 = F at *
  generalize (uvq x y).1 * ((2 ^ dm (uvq x y).1 (uvq x y).2 : Nat) : Int) = U at *
  generalize (uvq x y).2 * ((2 ^ dm (uvq x y).1 (uvq x y).2 : Nat) : Int) = V at *
  generalize (uvq x y).1 = u at *
  generalize (uvq x y).2 = v at *
  generalize atr y x = a at *
  generalize qd x y = q at *
  by_cases ha : a = 23592960
  · rw [if_pos ha]
    by_cases hx : x = 0
    · exact atan_nye y x q _ u v U V F l a x0 x1 y0 y1 (by omega) (by omega) (by omega) (by omega) (by omega) (by omega) rfl ea (by rw [ha]; rfl) (by rw [hx]; rfl) (by simp; omega) C1 C2 C3 C4 C5 w
    · exact atan_nxe y x q _ u v U V F l a x0 x1 y0 y1 (by omega) (by omega) (by omega) (by omega) (by omega) (by omega) rfl ea (by rw [ha]; rfl) (by simp; omega) C1 C2 C3 C4 C5 w
  · rw [if_neg ha]
    by_cases hx : x = 0
    · exact atan_ny y x q _ u v U V F l a x0 x1 y0 y1 (by omega) (by omega) (by omega) (by omega) (by omega) (by omega) rfl ea (by simp; omega) (by rw [hx]; rfl) (by simp; omega) C1 C2 C3 C4 C5 w
    · exact atan_nx y x q _ u v U V F l a x0 x1 y0 y1 (by omega) (by omega) (by omega) (by omega) (by omega) (by omega) rfl ea (by simp; omega) (by simp; omega) C1 C2 C3 C4 C5 w
end Go.Proofs.Ythfgeopldbcniaa
