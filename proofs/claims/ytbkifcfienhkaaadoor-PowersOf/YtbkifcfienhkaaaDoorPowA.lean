/- What the small functions of package powers do, called at any arguments: times, shorter, nearest. -/
import Derived.Test.YtbkifcfienhkaaaDoorPowMN
import Derived.Test.YtbkifcfienhkaaaDoorRootC
import Derived.Test.YtbkifcfienhkaaaDoorFixC
namespace Go.Proofs.YtbkifcfienhkaaaDoor
open Go.RowKit Go.BigFrame
set_option linter.unusedSimpArgs false
set_option linter.unusedVariables false
set_option maxHeartbeats 4000000 in
theorem ptimes_walk (a b x q r : Int) (a0 : 0 ≤ a) (a1 : a < 9223372036854775808) (b0 : 0 ≤ b) (b1 : b < 9223372036854775808) (M : ∀ w, Calls Tryd.prog 38 #[.int .i64 a, .int .i64 b] w fun e w' => e = .returned (.agg #[.int .i64 (hi (x)), .int .u64 (lo (x))]) ∧ Ext w w')
    (FL : ∀ w, Calls Tryd.prog 61 #[(.agg #[.int .i64 (hi (x)), .int .u64 (lo (x))]), .int .i64 4611686018427387904] w fun e w' => e = .returned (.tuple #[(.agg #[.int .i64 (hi (q)), .int .u64 (lo (q))]), .int .i64 r, .int .i64 0]) ∧ Ext w w') (w : World) :
    Calls Tryd.prog 42 #[.int .u64 a, .int .u64 b] w fun e w' => e = .returned (.int .u64 (lo q)) ∧ Ext w w' := by
  have EX := Ext.refl w
  go_enter Tryd.func42, Tryd.ntmps42
  go_wp2_with (first | (go_at_call 38; with_reducible refine (M _).mono ?_; rintro e v1 ⟨rfl, hb⟩; replace EX := Ext.trans EX hb; clear hb) | (go_at_call 61; with_reducible refine (FL _).mono ?_; rintro e v1 ⟨rfl, hb⟩; replace EX := Ext.trans EX hb; clear hb))
  go_ret
  exact ⟨rfl, by repeat (first | with_reducible exact EX | with_reducible refine Ext.alloc ?_ _ | with_reducible refine Ext.drew ?_ | with_reducible refine Ext.drewN ?_ _ | with_reducible refine Ext.setCell ?_ (by first | (simp; done) | omega | (dsimp only; omega)) _)⟩
theorem ptimes_any (a b : Nat) (ha : a < 9223372036854775808) (hb : b < 9223372036854775808) (w : World) : Calls Tryd.prog 42 #[.int .u64 (a : Int), .int .u64 (b : Int)] w fun e w' => e = .returned (.int .u64 ((tm a b : Nat) : Int)) ∧ Ext w w' := by
  have ia : In64 (a : Int) := ⟨by omega, by omega⟩
  have ib : In64 (b : Int) := ⟨by omega, by omega⟩
  have h := ptimes_walk a b ((a : Int) * (b : Int)) ((a : Int) * (b : Int) / 4611686018427387904) ((a : Int) * (b : Int) % 4611686018427387904) (by omega) (by omega) (by omega) (by omega) (fun w => mul_any a b ia ib w) (fun w => floor_any _ 4611686018427387904 (in64_mul ia ib) (by decide) ⟨by decide, by decide⟩ w) w
  have e : lo ((a : Int) * (b : Int) / 4611686018427387904) = ((tm a b : Nat) : Int) := by
    have l := tm_lt ha hb
    unfold tm at *
    have c : ((a * b : Nat) : Int) = (a : Int) * (b : Int) := Int.natCast_mul a b
    rw [← c]
    generalize a * b = m at *
    unfold lo
    omega
  rw [e] at h
  exact h

set_option maxHeartbeats 4000000 in
theorem shorter_walk (x q : Int) (NE : ∀ w, Calls Tryd.prog 39 #[(.agg #[.int .i64 (hi (x)), .int .u64 (lo (x))]), .int .i64 16777216] w fun e w' => e = .returned (.tuple #[(.agg #[.int .i64 (hi (q)), .int .u64 (lo (q))]), .int .i64 0]) ∧ Ext w w')
    (IT : ∀ w, Calls Tryd.prog 40 #[(.agg #[.int .i64 (hi (q)), .int .u64 (lo (q))])] w fun e w' => e = .returned (.tuple #[.int .i64 q, .bool true]) ∧ Ext w w') (w : World) :
    Calls Tryd.prog 20 #[(.agg #[.int .i64 (hi (x)), .int .u64 (lo (x))]), .int .i64 24] w fun e w' => e = .returned (.int .i64 q) ∧ Ext w w' := by
  have EX := Ext.refl w
  go_enter Tryd.func20, Tryd.ntmps20
  go_upto_region 1 with fail
  refine rebase (G := fun w' => Code.wp _ _ _ _ w') _ (fun v1 => Ext w v1 ∧ Wm v1 (w.heap.size) (hi x) (lo x)) ⟨by repeat (first | with_reducible exact EX | with_reducible refine Ext.alloc ?_ _ | with_reducible refine Ext.drew ?_ | with_reducible refine Ext.drewN ?_ _ | with_reducible refine Ext.setCell ?_ (by first | (simp; done) | omega | (dsimp only; omega)) _), by repeat (first | with_reducible assumption | with_reducible refine Wm.drew ?_ | with_reducible refine Wm.drewN ?_ _ | (with_reducible refine Wm.skip ?_ ?_; focus (first | omega | (simp; done))) | with_reducible refine Wm.store ?_ _ _ | with_reducible refine Wm.new (by first | rfl | (simp; done) | with_unfolding_all rfl) (by with_unfolding_all rfl) (by with_unfolding_all rfl) | with_reducible refine Wm.alloc ?_ _ | exact Wm.any (by with_reducible assumption) | with_reducible refine WmAny.drew ?_ | with_reducible refine WmAny.drewN ?_ _ | (with_reducible refine WmAny.skip ?_ ?_; focus (first | omega | (simp; done))) | with_reducible refine WmAny.alloc ?_ _)⟩ ?_; clear EX ; rintro v1 ⟨EX, WA⟩; rename World => v; have WAhi := WA.hi; have WAlo := WA.lo; have WAfz := WA.fz; have WAlt := WA.lt
  refine wp_region_many 8 [(7, 5, (.cells #[.int .i64 0, .int .u64 0] 41))] (fun i => i == 6) (by kernel_rfl) (by kernel_rfl) (by kernel_rfl) (fun c a x v w h => by cases x <;> exact h) ?_ ?_ ?_; (focus (intro i o hi ho; have h5 : i = 6 := (by simpa using hi); rcases h5 with rfl <;> (cases ho; exact fun a w n w1 h => extract_late rfl a w n w1 h))); (focus (intro m hm o ho a w; simp only [List.mem_cons, List.not_mem_nil, or_false] at hm; rcases hm with rfl <;> (cases ho; go_simp))); intro B hB l' hl'; simp [dumbsM, dumbM, isNew] at hl'; subst hl'; have gWAhi := fun x' : Grow B => (WA.later (Ext.trans hB x'.ext)).hi; have gWAlo := fun x' : Grow B => (WA.later (Ext.trans hB x'.ext)).lo; have gWAfz := fun x' : Grow B => (WA.later (Ext.trans hB x'.ext)).fz; have gWAlt := fun x' : Grow B => (WA.later (Ext.trans hB x'.ext)).lt; (repeat (first | go_big_quiet_step ((go_at_call 39; with_reducible exact calls_grow (NE _))) | go_big_quiet_step (fail))); refine wpQuiet_nil ?_; clear gWAhi gWAlo gWAfz gWAlt; clear hB B; intro bs v1 hv hms hne t ht; simp at ht; subst ht; simp only [puts, if_true]; obtain ⟨wn, n1, n2, n3⟩ := hms _ List.mem_cons_self; replace n3 : bs 7 = wn.heap.size := n3; have WQ : Wm v1 (bs 7) (0) (0) := (by rw [n3]; exact Wm.later n2 (Wm.new rfl (by with_unfolding_all rfl) (by with_unfolding_all rfl))); have n4 := n1.more; have n5 := EX.more; have qWQ_w : w.heap.size ≤ bs 7 := (by omega); have qWQ_WA : w.heap.size < bs 7 := (by have := WA.lt; omega); clear n1 n2 n3 n4 n5 wn; clear hms hne; replace EX := Ext.trans EX hv; clear WAhi WAlo WAfz WAlt; clear WA; clear hv v; generalize bs 7 = b1 at *; clear bs; rename World => v; have WQhi := WQ.hi; have WQlo := WQ.lo; have WQfz := WQ.fz; have WQlt := WQ.lt
  go_upto_region 2 with fail
  refine rebase (G := fun w' => Code.wp _ _ _ _ w') _ (fun v1 => Ext w v1 ∧ Wm v1 (b1) (hi q) (lo q)) ⟨by repeat (first | with_reducible exact EX | with_reducible refine Ext.alloc ?_ _ | with_reducible refine Ext.drew ?_ | with_reducible refine Ext.drewN ?_ _ | with_reducible refine Ext.setCell ?_ (by first | (simp; done) | omega | (dsimp only; omega)) _), by repeat (first | with_reducible assumption | with_reducible refine Wm.drew ?_ | with_reducible refine Wm.drewN ?_ _ | (with_reducible refine Wm.skip ?_ ?_; focus (first | omega | (simp; done))) | with_reducible refine Wm.store ?_ _ _ | with_reducible refine Wm.new (by first | rfl | (simp; done) | with_unfolding_all rfl) (by with_unfolding_all rfl) (by with_unfolding_all rfl) | with_reducible refine Wm.alloc ?_ _ | exact Wm.any (by with_reducible assumption) | with_reducible refine WmAny.drew ?_ | with_reducible refine WmAny.drewN ?_ _ | (with_reducible refine WmAny.skip ?_ ?_; focus (first | omega | (simp; done))) | with_reducible refine WmAny.alloc ?_ _)⟩ ?_; clear WQhi WQlo WQfz WQlt; clear EX WQ; rintro v1 ⟨EX, WQ⟩; clear v; rename World => v; have WQhi := WQ.hi; have WQlo := WQ.lo; have WQfz := WQ.fz; have WQlt := WQ.lt
  go_wp2_with (first | (go_at_call 40; with_reducible refine (IT _).mono ?_; rintro e v1 ⟨rfl, hb⟩; replace EX := Ext.trans EX hb; replace WQ := WQ.later hb; replace WQhi := WQ.hi; replace WQlo := WQ.lo; replace WQfz := WQ.fz; replace WQlt := WQ.lt; clear hb v; rename World => v))
  go_ret
  exact ⟨rfl, EX⟩
theorem shorter_any (x : Int) (hx : InW x) (h : In64 (nr x 16777216)) (w : World) : Calls Tryd.prog 20 #[(.agg #[.int .i64 (hi (x)), .int .u64 (lo (x))]), .int .i64 24] w fun e w' => e = .returned (.int .i64 (nr x 16777216)) ∧ Ext w w' := by
  refine shorter_walk x (nr x 16777216) (fun w => near_any x 16777216 hx (by decide) ⟨by decide, by decide⟩ w) (fun w => ?_) w
  have := int_any (nr x 16777216) w
  rw [wrap_in64 h, if_pos rfl, decide_eq_true rfl] at this
  exact this
set_option maxHeartbeats 4000000 in
theorem nearest_big (p w' : Int) (h : 15 ≤ w') (w : World) : Calls Tryd.prog 36 #[.agg #[.int .u64 p, .int .i64 w']] w fun e w' => e = .returned (.int .i64 2147483648) ∧ Ext w w' := by
  have EX := Ext.refl w
  go_enter Tryd.func36, Tryd.ntmps36
  go_wp2
  go_ret
  exact ⟨rfl, by repeat (first | with_reducible exact EX | with_reducible refine Ext.alloc ?_ _ | with_reducible refine Ext.drew ?_ | with_reducible refine Ext.drewN ?_ _ | with_reducible refine Ext.setCell ?_ (by first | (simp; done) | omega | (dsimp only; omega)) _)⟩
set_option maxHeartbeats 4000000 in
theorem nearest_low (p w' : Int) (h : w' ≤ -18) (w : World) : Calls Tryd.prog 36 #[.agg #[.int .u64 p, .int .i64 w']] w fun e w' => e = .returned (.int .i64 0) ∧ Ext w w' := by
  have EX := Ext.refl w
  have h1 : ¬ 15 ≤ w' := by omega
  go_enter Tryd.func36, Tryd.ntmps36
  go_wp2
  go_ret
  exact ⟨rfl, by repeat (first | with_reducible exact EX | with_reducible refine Ext.alloc ?_ _ | with_reducible refine Ext.drew ?_ | with_reducible refine Ext.drewN ?_ _ | with_reducible refine Ext.setCell ?_ (by first | (simp; done) | omega | (dsimp only; omega)) _)⟩

set_option maxHeartbeats 4000000 in
theorem nearest_mid (p u r : Int) (h1 : ¬ 15 ≤ u) (h2 : ¬ u ≤ -18) (hr : wrap64 (IntKind.u64.wrap (p + IntKind.u64.wrap (2 ^ ((46 - u).toNat - 1))) / 2 ^ (46 - u).toNat) = r) (w : World) : Calls Tryd.prog 36 #[.agg #[.int .u64 p, .int .i64 u]] w fun e w' => e = .returned (.int .i64 r) ∧ Ext w w' := by
  have EX := Ext.refl w
  go_enter Tryd.func36, Tryd.ntmps36
  go_upto_region 6 with fail
  refine rebase (G := fun w' => Code.wp _ _ _ _ w') _ (fun v1 => Ext w v1 ∧ S2m v1 (w.heap.size) (.int .u64 p) (.int .i64 u)) ⟨by repeat (first | with_reducible exact EX | with_reducible refine Ext.alloc ?_ _ | with_reducible refine Ext.drew ?_ | with_reducible refine Ext.drewN ?_ _ | with_reducible refine Ext.setCell ?_ (by first | (simp; done) | omega | (dsimp only; omega)) _), by repeat (first | with_reducible assumption | with_reducible refine S2m.drew ?_ | with_reducible refine S2m.drewN ?_ _ | (with_reducible refine S2m.skip ?_ ?_; focus (first | omega | (simp; done))) | with_reducible refine S2m.store ?_ | with_reducible refine S2m.set0 ?_ _ | with_reducible refine S2m.set1 ?_ _ | with_reducible refine S2m.new (by first | rfl | (simp; done) | with_unfolding_all rfl) (by with_unfolding_all rfl) (by with_unfolding_all rfl) | with_reducible refine S2m.alloc ?_ _ | exact S2m.any (by with_reducible assumption) | with_reducible refine S2mAny.drew ?_ | with_reducible refine S2mAny.drewN ?_ _ | (with_reducible refine S2mAny.skip ?_ ?_; focus (first | omega | (simp; done))) | with_reducible refine S2mAny.alloc ?_ _)⟩ ?_; clear EX ; rintro v1 ⟨EX, PB⟩; rename World => v; have PBc0 := PB.c0; have PBc1 := PB.c1; have PBfz := PB.fz; have PBlt := PB.lt
  have gPBc0 := fun x' : Grow v => (PB.later x'.ext).c0; have gPBc1 := fun x' : Grow v => (PB.later x'.ext).c1; have gPBfz := fun x' : Grow v => (PB.later x'.ext).fz; have gPBlt := fun x' : Grow v => (PB.later x'.ext).lt; refine wp_region_grow (by kernel_rfl) (by kernel_rfl) ?_; (repeat (first | go_big_quiet_step (fail))); refine wpQuiet_nil ?_; clear gPBc0 gPBc1 gPBfz gPBlt; rintro _ ⟨xq, rfl⟩; replace EX := Ext.trans EX xq.ext; replace PB := PB.later xq.ext; replace PBc0 := PB.c0; replace PBc1 := PB.c1; replace PBfz := PB.fz; replace PBlt := PB.lt; generalize xq.out = v1 at *; clear xq v; rename World => v
  go_wp2
  go_ret
  exact ⟨by rw [← hr]; rfl, by repeat (first | with_reducible exact EX | with_reducible refine Ext.alloc ?_ _ | with_reducible refine Ext.drew ?_ | with_reducible refine Ext.drewN ?_ _ | with_reducible refine Ext.setCell ?_ (by first | (simp; done) | omega | (dsimp only; omega)) _)⟩
theorem nearest_any' (p : Nat) (hp : p < 9223372036854775808) (u : Int) (w : World) : Calls Tryd.prog 36 #[.agg #[.int .u64 (p : Int), .int .i64 u]] w fun e w' => e = .returned (.int .i64 (nst p u)) ∧ Ext w w' := by
  unfold nst
  by_cases h1 : 15 ≤ u
  · rw [if_pos h1]; exact nearest_big p u h1 w
  · rw [if_neg h1]
    by_cases h2 : u ≤ -18
    · rw [if_pos h2]; exact nearest_low p u h2 w
    · rw [if_neg h2]
      refine nearest_mid p u _ h1 h2 ?_ w
      obtain ⟨k, hk, k0, k1⟩ : ∃ k : Nat, 46 - u = (k : Int) ∧ 32 ≤ k ∧ k ≤ 63 := ⟨(46 - u).toNat, by omega, by omega, by omega⟩
      rw [show (45 - u).toNat = k - 1 by omega, hk, Int.toNat_natCast]
      have e1 : ((2 : Int) ^ (k - 1)) = ((2 ^ (k - 1) : Nat) : Int) := by rw [Int.natCast_pow]; rfl
      have e2 : ((2 : Int) ^ k) = ((2 ^ k : Nat) : Int) := by rw [Int.natCast_pow]; rfl
      have b1 : 2 ^ (k - 1) ≤ 2 ^ 62 := Nat.pow_le_pow_right (by decide) (by omega)
      have b2 : 2 ^ 32 ≤ 2 ^ k := Nat.pow_le_pow_right (by decide) (by omega)
      rw [e1, e2]
      generalize 2 ^ (k - 1) = a at *
      generalize 2 ^ k = c at *
      have hd : (p + a) / c ≤ (p + a) / 4294967296 := Nat.div_le_div_left b2 (by decide)
      rw [show IntKind.u64.wrap (a : Int) = (a : Int) by rw [u64_wrap]; omega, show IntKind.u64.wrap ((p : Int) + (a : Int)) = ((p + a : Nat) : Int) by rw [u64_wrap]; omega, ← Int.natCast_ediv]
      generalize (p + a) / c = d at *
      exact wrap_in64 ⟨by omega, by omega⟩
end Go.Proofs.YtbkifcfienhkaaaDoor
