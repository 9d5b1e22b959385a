/- What the given functions gouacheref07.Value, Raw and Near do, called at any arguments. -/
import Derived.Test.YthmgilikokcibaaDecR
namespace Go.Proofs.Ythmgilikokcibaa
open Go.RowKit Go.BigFrame
set_option linter.unusedSimpArgs false
set_option linter.unusedVariables false

theorem rvalue_any (r b l h : Int) (hr : 0 ≤ r ∧ r < 4294967296) (hm : mayb r b = true) (hl : In32 l) (hh : In32 h) (w : World) : Calls Try.prog 9 #[.int .u32 r, .int .i64 b, .agg #[.int .i32 l, .int .i32 h]] w fun e w' => e = .returned (.tuple #[.agg #[.int .i64 (hi (dval l h (gg b) r)), .int .u64 (lo (dval l h (gg b) r)), .int .i64 (gg b)], .int .i64 0]) ∧ Ext w w' := by
  obtain ⟨h1, h2, h3⟩ := mayb_of hm
  obtain ⟨g1, g2⟩ := gg_in h1 h2
  have i1 : In64 (gg b - r) := by unfold In64; omega
  have i2 : In64 r := by unfold In64; omega
  have bl : 0 ≤ ab l ∧ ab l ≤ 2147483648 := by unfold ab In32 at *; split <;> omega
  have bh : 0 ≤ ab h ∧ ab h ≤ 2147483648 := by unfold ab In32 at *; split <;> omega
  have bk : 0 ≤ ab (gg b - r) ∧ ab (gg b - r) < 4294967296 := by unfold ab; split <;> omega
  have br : 0 ≤ ab r ∧ ab r < 4294967296 := by unfold ab; split <;> omega
  have m1 := mul_small33 (a := ab l) (b := ab (gg b - r)) (by omega) (by omega)
  have m2 := mul_small33 (a := ab h) (b := ab r) (by omega) (by omega)
  have p1 := Int.mul_nonneg bl.1 bk.1
  have p2 := Int.mul_nonneg bh.1 br.1
  have k := sum_sg (decide (l < 0) != decide (gg b - r < 0)) (decide (h < 0) != decide (r < 0)) (ab l * ab (gg b - r)) (ab h * ab r)
  rw [ab_mul, ab_mul, ← dval_other] at k
  have hD := sumX_in (decide (l < 0) != decide (gg b - r < 0)) (decide (h < 0) != decide (r < 0)) p1 p2 (by omega)
  refine rvalue_walk r b l h (gg b) (gg b - r) _ _ _ _ _ _ _ (wrap_in64 (in32_64 hl)) (wrap_in64 (in32_64 hh)) (wrap_in64 i2) (wrap_in64 i1) (by simp; omega) (by omega) (fun w => rgreat_at b h1 h2 w) (fun w => times7_any l (gg b - r) (in32_64 hl) i1 w) (fun w => times7_any h r (in32_64 hh) i2 w)
    (fun w => nsum_any _ _ _ _ ⟨p1, by omega⟩ ⟨p2, by omega⟩ w) ?_ w
  intro w
  have t := tell_any (sumS (decide (l < 0) != decide (gg b - r < 0)) (decide (h < 0) != decide (r < 0)) (ab l * ab (gg b - r)) (ab h * ab r)) (sumX (decide (l < 0) != decide (gg b - r < 0)) (decide (h < 0) != decide (r < 0)) (ab l * ab (gg b - r)) (ab h * ab r)) hD.1 w
  rw [k] at t
  have s1 := dval_W hl hh (show 0 ≤ gg b ∧ gg b < 4294967296 by omega) hr
  rw [(fit_of s1).1, (fit_of s1).2] at t
  exact t
theorem rvalue_not (r b l h : Int) (hr : 0 ≤ r ∧ r < 4294967296) (hm : mayb r b = false) (w : World) : Calls Try.prog 9 #[.int .u32 r, .int .i64 b, .agg #[.int .i32 l, .int .i32 h]] w fun e w' => e = .returned (.tuple #[.agg #[.int .i64 0, .int .u64 0, .int .i64 0], .int .i64 1]) ∧ Ext w w' := by
  have wr : wrap64 r = r := wrap_in64 (by unfold In64; omega)
  by_cases hb : 1 ≤ b ∧ b ≤ 32
  · refine rvalue_bad r b l h (gg b) wr (.inr ?_) (fun w => rgreat_at b hb.1 hb.2 w) w
    apply Int.not_le.mp
    intro k
    rw [mayb_is hb.1 hb.2 k] at hm
    cases hm
  · exact rvalue_bad r b l h 0 wr (.inl rfl) (fun w => rgreat_none b (by omega) w) w
set_option maxHeartbeats 8000000 in
theorem rraw_walk (v0 b l h g x y n p : Int) (s t S s0 s1 c1 c2 : Bool) (X Y Z X0 X1 : Int) (wv : wrap64 v0 = v0) (wl : wrap64 l = l) (wh : wrap64 h = h) (wx : wrap64 (v0 - l) = x) (wy : wrap64 (h - l) = y) (hg : (g == 0) = false) (hne : (l == h) = false)
    (hc : (c1 = true ∧ p = 0) ∨ (c1 = false ∧ c2 = true ∧ g % 4294967296 = p) ∨ (c1 = false ∧ c2 = false ∧ lo n % 4294967296 = p))
    (GR : ∀ w, Calls Try.prog 24 #[.int .i64 b] w fun e w' => e = .returned (.int .i64 g) ∧ Ext w w')
    (TA : ∀ w, Calls Try.prog 26 #[.int .i64 x, .int .i64 g] w fun e w' => e = .returned (.agg #[.bool (s), .int .i64 (dg (X) 0), .int .i64 (dg (X) 1), .int .i64 (dg (X) 2), .int .i64 (dg (X) 3), .int .i64 (dg (X) 4), .int .i64 (dg (X) 5), .int .i64 (dg (X) 6), .int .i64 (dg (X) 7), .int .i64 (dg (X) 8), .int .i64 (dg (X) 9), .int .i64 (dg (X) 10), .int .i64 (dg (X) 11)]) ∧ Ext w w')
    (SY : ∀ w, Calls Try.prog 31 #[.int .i64 y] w fun e w' => e = .returned (.agg #[.bool (t), .int .i64 (dg (Y) 0), .int .i64 (dg (Y) 1), .int .i64 (dg (Y) 2), .int .i64 (dg (Y) 3), .int .i64 (dg (Y) 4), .int .i64 (dg (Y) 5), .int .i64 (dg (Y) 6), .int .i64 (dg (Y) 7), .int .i64 (dg (Y) 8), .int .i64 (dg (Y) 9), .int .i64 (dg (Y) 10), .int .i64 (dg (Y) 11)]) ∧ Ext w w')
    (NE : ∀ w, Calls Try.prog 30 #[(.agg #[.bool (s), .int .i64 (dg (X) 0), .int .i64 (dg (X) 1), .int .i64 (dg (X) 2), .int .i64 (dg (X) 3), .int .i64 (dg (X) 4), .int .i64 (dg (X) 5), .int .i64 (dg (X) 6), .int .i64 (dg (X) 7), .int .i64 (dg (X) 8), .int .i64 (dg (X) 9), .int .i64 (dg (X) 10), .int .i64 (dg (X) 11)]), (.agg #[.bool (t), .int .i64 (dg (Y) 0), .int .i64 (dg (Y) 1), .int .i64 (dg (Y) 2), .int .i64 (dg (Y) 3), .int .i64 (dg (Y) 4), .int .i64 (dg (Y) 5), .int .i64 (dg (Y) 6), .int .i64 (dg (Y) 7), .int .i64 (dg (Y) 8), .int .i64 (dg (Y) 9), .int .i64 (dg (Y) 10), .int .i64 (dg (Y) 11)])] w fun e w' => e = .returned (.agg #[.bool (S), .int .i64 (dg (Z) 0), .int .i64 (dg (Z) 1), .int .i64 (dg (Z) 2), .int .i64 (dg (Z) 3), .int .i64 (dg (Z) 4), .int .i64 (dg (Z) 5), .int .i64 (dg (Z) 6), .int .i64 (dg (Z) 7), .int .i64 (dg (Z) 8), .int .i64 (dg (Z) 9), .int .i64 (dg (Z) 10), .int .i64 (dg (Z) 11)]) ∧ Ext w w')
    (S0 : ∀ w, Calls Try.prog 31 #[.int .i64 0] w fun e w' => e = .returned (.agg #[.bool (s0), .int .i64 (dg (X0) 0), .int .i64 (dg (X0) 1), .int .i64 (dg (X0) 2), .int .i64 (dg (X0) 3), .int .i64 (dg (X0) 4), .int .i64 (dg (X0) 5), .int .i64 (dg (X0) 6), .int .i64 (dg (X0) 7), .int .i64 (dg (X0) 8), .int .i64 (dg (X0) 9), .int .i64 (dg (X0) 10), .int .i64 (dg (X0) 11)]) ∧ Ext w w')
    (A0 : ∀ w, Calls Try.prog 32 #[(.agg #[.bool (s0), .int .i64 (dg (X0) 0), .int .i64 (dg (X0) 1), .int .i64 (dg (X0) 2), .int .i64 (dg (X0) 3), .int .i64 (dg (X0) 4), .int .i64 (dg (X0) 5), .int .i64 (dg (X0) 6), .int .i64 (dg (X0) 7), .int .i64 (dg (X0) 8), .int .i64 (dg (X0) 9), .int .i64 (dg (X0) 10), .int .i64 (dg (X0) 11)]), (.agg #[.bool (S), .int .i64 (dg (Z) 0), .int .i64 (dg (Z) 1), .int .i64 (dg (Z) 2), .int .i64 (dg (Z) 3), .int .i64 (dg (Z) 4), .int .i64 (dg (Z) 5), .int .i64 (dg (Z) 6), .int .i64 (dg (Z) 7), .int .i64 (dg (Z) 8), .int .i64 (dg (Z) 9), .int .i64 (dg (Z) 10), .int .i64 (dg (Z) 11)])] w fun e w' => e = .returned (.bool c1) ∧ Ext w w')
    (S1 : ∀ w, Calls Try.prog 31 #[.int .i64 g] w fun e w' => e = .returned (.agg #[.bool (s1), .int .i64 (dg (X1) 0), .int .i64 (dg (X1) 1), .int .i64 (dg (X1) 2), .int .i64 (dg (X1) 3), .int .i64 (dg (X1) 4), .int .i64 (dg (X1) 5), .int .i64 (dg (X1) 6), .int .i64 (dg (X1) 7), .int .i64 (dg (X1) 8), .int .i64 (dg (X1) 9), .int .i64 (dg (X1) 10), .int .i64 (dg (X1) 11)]) ∧ Ext w w')
    (A1 : ∀ w, Calls Try.prog 32 #[(.agg #[.bool (S), .int .i64 (dg (Z) 0), .int .i64 (dg (Z) 1), .int .i64 (dg (Z) 2), .int .i64 (dg (Z) 3), .int .i64 (dg (Z) 4), .int .i64 (dg (Z) 5), .int .i64 (dg (Z) 6), .int .i64 (dg (Z) 7), .int .i64 (dg (Z) 8), .int .i64 (dg (Z) 9), .int .i64 (dg (Z) 10), .int .i64 (dg (Z) 11)]), (.agg #[.bool (s1), .int .i64 (dg (X1) 0), .int .i64 (dg (X1) 1), .int .i64 (dg (X1) 2), .int .i64 (dg (X1) 3), .int .i64 (dg (X1) 4), .int .i64 (dg (X1) 5), .int .i64 (dg (X1) 6), .int .i64 (dg (X1) 7), .int .i64 (dg (X1) 8), .int .i64 (dg (X1) 9), .int .i64 (dg (X1) 10), .int .i64 (dg (X1) 11)])] w fun e w' => e = .returned (.bool c2) ∧ Ext w w')
    (TL : ∀ w, Calls Try.prog 27 #[(.agg #[.bool (S), .int .i64 (dg (Z) 0), .int .i64 (dg (Z) 1), .int .i64 (dg (Z) 2), .int .i64 (dg (Z) 3), .int .i64 (dg (Z) 4), .int .i64 (dg (Z) 5), .int .i64 (dg (Z) 6), .int .i64 (dg (Z) 7), .int .i64 (dg (Z) 8), .int .i64 (dg (Z) 9), .int .i64 (dg (Z) 10), .int .i64 (dg (Z) 11)])] w fun e w' => e = .returned (.tuple #[(.agg #[.int .i64 (hi (n)), .int .u64 (lo (n))]), .int .i64 0]) ∧ Ext w w')
    (w : World) : Calls Try.prog 11 #[.int .i32 v0, .int .i64 b, .agg #[.int .i32 l, .int .i32 h]] w fun e w' => e = .returned (.tuple #[.int .u32 p, .int .i64 0]) ∧ Ext w w' := by
  have EX := Ext.refl w
  rcases hc with ⟨rfl, rfl⟩ | ⟨rfl, rfl, hp⟩ | ⟨rfl, rfl, hp⟩
  all_goals
    go_enter Try.func11, Try.ntmps11
    go_upto_region 1 with fail
    refine rebase (G := fun w' => Code.wp _ _ _ _ w') _ (fun v1 => Ext w v1 ∧ S2m v1 (w.heap.size) (.int .i32 l) (.int .i32 h)) ⟨by repeat (first | with_reducible exact EX | with_reducible refine Ext.alloc ?_ _ | with_reducible refine Ext.drew ?_ | with_reducible refine Ext.drewN ?_ _ | with_reducible refine Ext.setCell ?_ (by first | (simp; done) | omega | (dsimp only; omega)) _), by repeat (first | with_reducible assumption | with_reducible refine S2m.drew ?_ | with_reducible refine S2m.drewN ?_ _ | (with_reducible refine S2m.skip ?_ ?_; focus (first | omega | (simp; done))) | with_reducible refine S2m.store ?_ | with_reducible refine S2m.set0 ?_ _ | with_reducible refine S2m.set1 ?_ _ | with_reducible refine S2m.new (by first | rfl | (simp; done) | with_unfolding_all rfl) (by with_unfolding_all rfl) (by with_unfolding_all rfl) | with_reducible refine S2m.alloc ?_ _ | exact S2m.any (by with_reducible assumption) | with_reducible refine S2mAny.drew ?_ | with_reducible refine S2mAny.drewN ?_ _ | (with_reducible refine S2mAny.skip ?_ ?_; focus (first | omega | (simp; done))) | with_reducible refine S2mAny.alloc ?_ _)⟩ ?_; clear EX ; rintro v1 ⟨EX, SA⟩; rename World => v; have SAc0 := SA.c0; have SAc1 := SA.c1; have SAfz := SA.fz; have SAlt := SA.lt
    go_upto_region 6 with (first | (go_at_call 24; with_reducible refine (GR _).mono ?_; rintro e v1 ⟨rfl, hb⟩; replace EX := Ext.trans EX hb; replace SA := SA.later hb; replace SAc0 := SA.c0; replace SAc1 := SA.c1; replace SAfz := SA.fz; replace SAlt := SA.lt; clear hb v; rename World => v))
    refine wp_region_many 18 [(17, 9, (.cells #[.bool false, .int .i64 0, .int .i64 0, .int .i64 0, .int .i64 0, .int .i64 0, .int .i64 0, .int .i64 0, .int .i64 0, .int .i64 0, .int .i64 0, .int .i64 0, .int .i64 0] 60))] (fun i => false) (by kernel_rfl) (by kernel_rfl) (by kernel_rfl) (fun c a x v w h => by cases x <;> exact h) ?_ ?_ ?_; (focus (intro i o hi ho; simp at hi)); (focus (intro m hm o ho a w; simp only [List.mem_cons, List.not_mem_nil, or_false] at hm; rcases hm with rfl <;> (cases ho; go_simp))); intro B hB l' hl'; simp [dumbsM, dumbM, isNew] at hl'; subst hl'; have gSAc0 := fun x' : Grow B => (SA.later (Ext.trans hB x'.ext)).c0; have gSAc1 := fun x' : Grow B => (SA.later (Ext.trans hB x'.ext)).c1; have gSAfz := fun x' : Grow B => (SA.later (Ext.trans hB x'.ext)).fz; have gSAlt := fun x' : Grow B => (SA.later (Ext.trans hB x'.ext)).lt; (repeat (first | go_big_quiet_step ((go_at_call 26; with_reducible exact calls_grow (TA _))) | go_big_quiet_step ((go_at_call 31; with_reducible exact calls_grow (SY _))) | go_big_quiet_step ((go_at_call 30; with_reducible exact calls_grow (NE _))) | go_big_quiet_step (fail))); refine wpQuiet_nil ?_; clear gSAc0 gSAc1 gSAfz gSAlt; clear hB B; intro bs v1 hv hms hne t ht; simp at ht; subst ht; simp only [puts, if_true]; obtain ⟨wn, n1, n2, n3⟩ := hms _ List.mem_cons_self; replace n3 : bs 17 = wn.heap.size := n3; have NU : Nm v1 (bs 17) (false) (fun _ => 0) := (by rw [n3]; exact Nm.later n2 (Nm.new rfl (by with_unfolding_all rfl) (all12 (by with_unfolding_all rfl) (by with_unfolding_all rfl) (by with_unfolding_all rfl) (by with_unfolding_all rfl) (by with_unfolding_all rfl) (by with_unfolding_all rfl) (by with_unfolding_all rfl) (by with_unfolding_all rfl) (by with_unfolding_all rfl) (by with_unfolding_all rfl) (by with_unfolding_all rfl) (by with_unfolding_all rfl)))); have n4 := n1.more; have n5 := EX.more; have qNU_w : w.heap.size ≤ bs 17 := (by omega); have qNU_SA : w.heap.size < bs 17 := (by have := SA.lt; omega); clear n1 n2 n3 n4 n5 wn; clear hms hne; replace EX := Ext.trans EX hv; clear SAc0 SAc1 SAfz SAlt; clear SA; clear hv v; generalize bs 17 = b3 at *; clear bs; rename World => v; have NUsg := NU.sg; have NUdg := NU.dg; have NUfz := NU.fz; have NUlt := NU.lt
    go_upto_region 7 with fail
    refine rebase (G := fun w' => Code.wp _ _ _ _ w') _ (fun v1 => Ext w v1 ∧ Nm v1 (b3) (S) (dg Z)) ⟨by repeat (first | with_reducible exact EX | with_reducible refine Ext.alloc ?_ _ | with_reducible refine Ext.drew ?_ | with_reducible refine Ext.drewN ?_ _ | with_reducible refine Ext.setCell ?_ (by first | (simp; done) | omega | (dsimp only; omega)) _), by repeat (first | with_reducible assumption | with_reducible refine Nm.drew ?_ | with_reducible refine Nm.drewN ?_ _ | (with_reducible refine Nm.skip ?_ ?_; focus (first | omega | (simp; done))) | with_reducible refine Nm.store ?_ rfl rfl rfl rfl rfl rfl rfl rfl rfl rfl rfl rfl rfl | with_reducible refine Nm.new (by first | rfl | (simp; done) | with_unfolding_all rfl) (by with_unfolding_all rfl) (all12 (by with_unfolding_all rfl) (by with_unfolding_all rfl) (by with_unfolding_all rfl) (by with_unfolding_all rfl) (by with_unfolding_all rfl) (by with_unfolding_all rfl) (by with_unfolding_all rfl) (by with_unfolding_all rfl) (by with_unfolding_all rfl) (by with_unfolding_all rfl) (by with_unfolding_all rfl) (by with_unfolding_all rfl)) | with_reducible refine Nm.alloc ?_ _ | exact Nm.any (by with_reducible assumption) | with_reducible refine NmAny.drew ?_ | with_reducible refine NmAny.drewN ?_ _ | (with_reducible refine NmAny.skip ?_ ?_; focus (first | omega | (simp; done))) | with_reducible refine NmAny.alloc ?_ _)⟩ ?_; clear NUsg NUdg NUfz NUlt; clear EX NU; rintro v1 ⟨EX, NU⟩; clear v; rename World => v; have NUsg := NU.sg; have NUdg := NU.dg; have NUfz := NU.fz; have NUlt := NU.lt
    have gNUsg := fun x' : Grow v => (NU.later x'.ext).sg; have gNUdg := fun x' : Grow v => (NU.later x'.ext).dg; have gNUfz := fun x' : Grow v => (NU.later x'.ext).fz; have gNUlt := fun x' : Grow v => (NU.later x'.ext).lt; refine wp_region_grow (by kernel_rfl) (by kernel_rfl) ?_; (repeat (first | go_big_quiet_step ((go_at_call 31; with_reducible exact calls_grow (S0 _))) | go_big_quiet_step ((go_at_call 32; with_reducible exact calls_grow (A0 _))) | go_big_quiet_step (fail))); refine wpQuiet_nil ?_; clear gNUsg gNUdg gNUfz gNUlt; rintro _ ⟨xq, rfl⟩; replace EX := Ext.trans EX xq.ext; replace NU := NU.later xq.ext; replace NUsg := NU.sg; replace NUdg := NU.dg; replace NUfz := NU.fz; replace NUlt := NU.lt; generalize xq.out = v1 at *; clear xq v; rename World => v
  · go_wp2
    go_ret2
    exact ⟨rfl, EX⟩
  · go_upto_region 9 with fail
    have gNUsg := fun x' : Grow v => (NU.later x'.ext).sg; have gNUdg := fun x' : Grow v => (NU.later x'.ext).dg; have gNUfz := fun x' : Grow v => (NU.later x'.ext).fz; have gNUlt := fun x' : Grow v => (NU.later x'.ext).lt; refine wp_region_grow (by kernel_rfl) (by kernel_rfl) ?_; (repeat (first | go_big_quiet_step ((go_at_call 31; with_reducible exact calls_grow (S1 _))) | go_big_quiet_step ((go_at_call 32; with_reducible exact calls_grow (A1 _))) | go_big_quiet_step (fail))); refine wpQuiet_nil ?_; clear gNUsg gNUdg gNUfz gNUlt; rintro _ ⟨xq, rfl⟩; replace EX := Ext.trans EX xq.ext; replace NU := NU.later xq.ext; replace NUsg := NU.sg; replace NUdg := NU.dg; replace NUfz := NU.fz; replace NUlt := NU.lt; generalize xq.out = v1 at *; clear xq v; rename World => v
    go_wp2
    go_ret2
    exact ⟨by simp [hp], EX⟩
  · go_upto_region 9 with fail
    have gNUsg := fun x' : Grow v => (NU.later x'.ext).sg; have gNUdg := fun x' : Grow v => (NU.later x'.ext).dg; have gNUfz := fun x' : Grow v => (NU.later x'.ext).fz; have gNUlt := fun x' : Grow v => (NU.later x'.ext).lt; refine wp_region_grow (by kernel_rfl) (by kernel_rfl) ?_; (repeat (first | go_big_quiet_step ((go_at_call 31; with_reducible exact calls_grow (S1 _))) | go_big_quiet_step ((go_at_call 32; with_reducible exact calls_grow (A1 _))) | go_big_quiet_step (fail))); refine wpQuiet_nil ?_; clear gNUsg gNUdg gNUfz gNUlt; rintro _ ⟨xq, rfl⟩; replace EX := Ext.trans EX xq.ext; replace NU := NU.later xq.ext; replace NUsg := NU.sg; replace NUdg := NU.dg; replace NUfz := NU.fz; replace NUlt := NU.lt; generalize xq.out = v1 at *; clear xq v; rename World => v
    go_upto_region 12 with (first | (go_at_call 27; with_reducible refine (TL _).mono ?_; rintro e v1 ⟨rfl, hb⟩; replace EX := Ext.trans EX hb; replace NU := NU.later hb; replace NUsg := NU.sg; replace NUdg := NU.dg; replace NUfz := NU.fz; replace NUlt := NU.lt; clear hb v; rename World => v))
    refine rebase (G := fun w' => Code.wp _ _ _ _ w') _ (fun v1 => Ext w v1 ∧ Wm v1 (v.heap.size) (hi n) (lo n)) ⟨by repeat (first | with_reducible exact EX | with_reducible refine Ext.alloc ?_ _ | with_reducible refine Ext.drew ?_ | with_reducible refine Ext.drewN ?_ _ | with_reducible refine Ext.setCell ?_ (by first | (simp; done) | omega | (dsimp only; omega)) _), by repeat (first | with_reducible assumption | with_reducible refine Wm.drew ?_ | with_reducible refine Wm.drewN ?_ _ | (with_reducible refine Wm.skip ?_ ?_; focus (first | omega | (simp; done))) | with_reducible refine Wm.store ?_ _ _ | with_reducible refine Wm.new (by first | rfl | (simp; done) | with_unfolding_all rfl) (by with_unfolding_all rfl) (by with_unfolding_all rfl) | with_reducible refine Wm.alloc ?_ _ | exact Wm.any (by with_reducible assumption) | with_reducible refine WmAny.drew ?_ | with_reducible refine WmAny.drewN ?_ _ | (with_reducible refine WmAny.skip ?_ ?_; focus (first | omega | (simp; done))) | with_reducible refine WmAny.alloc ?_ _)⟩ ?_; have qNU := NU.lt; have qw := EX.more; clear NUsg NUdg NUfz NUlt; clear EX NU; rintro v1 ⟨EX, WN⟩; obtain ⟨b4, hb4⟩ : ∃ b, v.heap.size = b := ⟨_, rfl⟩; rw [hb4] at qNU qw WN ⊢; clear hb4; clear v; rename World => v; have WNhi := WN.hi; have WNlo := WN.lo; have WNfz := WN.fz; have WNlt := WN.lt
    go_wp2
    go_ret2
    exact ⟨by simp [hp], EX⟩
theorem rraw_arg (v0 b l h : Int) (hb : b < 1 ∨ 32 < b) (w : World) : Calls Try.prog 11 #[.int .i32 v0, .int .i64 b, .agg #[.int .i32 l, .int .i32 h]] w fun e w' => e = .returned (.tuple #[.int .u32 0, .int .i64 1]) ∧ Ext w w' := by
  have EX := Ext.refl w
  have GR := fun w => rgreat_none b hb w
  clear hb
  go_enter Try.func11, Try.ntmps11
  go_upto_region 1 with fail
  refine rebase (G := fun w' => Code.wp _ _ _ _ w') _ (fun v1 => Ext w v1 ∧ S2m v1 (w.heap.size) (.int .i32 l) (.int .i32 h)) ⟨by repeat (first | with_reducible exact EX | with_reducible refine Ext.alloc ?_ _ | with_reducible refine Ext.drew ?_ | with_reducible refine Ext.drewN ?_ _ | with_reducible refine Ext.setCell ?_ (by first | (simp; done) | omega | (dsimp only; omega)) _), by repeat (first | with_reducible assumption | with_reducible refine S2m.drew ?_ | with_reducible refine S2m.drewN ?_ _ | (with_reducible refine S2m.skip ?_ ?_; focus (first | omega | (simp; done))) | with_reducible refine S2m.store ?_ | with_reducible refine S2m.set0 ?_ _ | with_reducible refine S2m.set1 ?_ _ | with_reducible refine S2m.new (by first | rfl | (simp; done) | with_unfolding_all rfl) (by with_unfolding_all rfl) (by with_unfolding_all rfl) | with_reducible refine S2m.alloc ?_ _ | exact S2m.any (by with_reducible assumption) | with_reducible refine S2mAny.drew ?_ | with_reducible refine S2mAny.drewN ?_ _ | (with_reducible refine S2mAny.skip ?_ ?_; focus (first | omega | (simp; done))) | with_reducible refine S2mAny.alloc ?_ _)⟩ ?_; clear EX ; rintro v1 ⟨EX, SA⟩; rename World => v; have SAc0 := SA.c0; have SAc1 := SA.c1; have SAfz := SA.fz; have SAlt := SA.lt
  go_wp2_with (first | (go_at_call 24; with_reducible refine (GR _).mono ?_; rintro e v1 ⟨rfl, hb⟩; replace EX := Ext.trans EX hb; replace SA := SA.later hb; replace SAc0 := SA.c0; replace SAc1 := SA.c1; replace SAfz := SA.fz; replace SAlt := SA.lt; clear hb v; rename World => v))
  go_ret2
  exact ⟨rfl, EX⟩
theorem rraw_zero (v0 b l : Int) (h1 : 1 ≤ b) (h2 : b ≤ 32) (w : World) : Calls Try.prog 11 #[.int .i32 v0, .int .i64 b, .agg #[.int .i32 l, .int .i32 l]] w fun e w' => e = .returned (.tuple #[.int .u32 0, .int .i64 12]) ∧ Ext w w' := by
  have EX := Ext.refl w
  have GR := fun w => rgreat_at b h1 h2 w
  have g1 := gg_in h1 h2
  generalize gg b = g at *
  have hg : (g == 0) = false := by simp; omega
  clear h1 h2 g1
  go_enter Try.func11, Try.ntmps11
  go_upto_region 1 with fail
  refine rebase (G := fun w' => Code.wp _ _ _ _ w') _ (fun v1 => Ext w v1 ∧ S2m v1 (w.heap.size) (.int .i32 l) (.int .i32 l)) ⟨by repeat (first | with_reducible exact EX | with_reducible refine Ext.alloc ?_ _ | with_reducible refine Ext.drew ?_ | with_reducible refine Ext.drewN ?_ _ | with_reducible refine Ext.setCell ?_ (by first | (simp; done) | omega | (dsimp only; omega)) _), by repeat (first | with_reducible assumption | with_reducible refine S2m.drew ?_ | with_reducible refine S2m.drewN ?_ _ | (with_reducible refine S2m.skip ?_ ?_; focus (first | omega | (simp; done))) | with_reducible refine S2m.store ?_ | with_reducible refine S2m.set0 ?_ _ | with_reducible refine S2m.set1 ?_ _ | with_reducible refine S2m.new (by first | rfl | (simp; done) | with_unfolding_all rfl) (by with_unfolding_all rfl) (by with_unfolding_all rfl) | with_reducible refine S2m.alloc ?_ _ | exact S2m.any (by with_reducible assumption) | with_reducible refine S2mAny.drew ?_ | with_reducible refine S2mAny.drewN ?_ _ | (with_reducible refine S2mAny.skip ?_ ?_; focus (first | omega | (simp; done))) | with_reducible refine S2mAny.alloc ?_ _)⟩ ?_; clear EX ; rintro v1 ⟨EX, SA⟩; rename World => v; have SAc0 := SA.c0; have SAc1 := SA.c1; have SAfz := SA.fz; have SAlt := SA.lt
  go_wp2_with (first | (go_at_call 24; with_reducible refine (GR _).mono ?_; rintro e v1 ⟨rfl, hb⟩; replace EX := Ext.trans EX hb; replace SA := SA.later hb; replace SAc0 := SA.c0; replace SAc1 := SA.c1; replace SAfz := SA.fz; replace SAlt := SA.lt; clear hb v; rename World => v))
  go_ret2
  exact ⟨rfl, EX⟩
theorem rraw_any (v0 b l h : Int) (hv : In32 v0) (h1 : 1 ≤ b) (h2 : b ≤ 32) (hl : In32 l) (hh : In32 h) (hne : ¬ l = h) (w : World) : Calls Try.prog 11 #[.int .i32 v0, .int .i64 b, .agg #[.int .i32 l, .int .i32 h]] w fun e w' => e = .returned (.tuple #[.int .u32 (draw v0 l h (gg b)), .int .i64 0]) ∧ Ext w w' := by
  obtain ⟨g1, g2⟩ := gg_in h1 h2
  have GR := fun w => rgreat_at b h1 h2 w
  generalize gg b = g at *
  have i1 : In64 (v0 - l) := by unfold In64 In32 at *; omega
  have i2 : In64 (h - l) := by unfold In64 In32 at *; omega
  have i3 : In64 g := by unfold In64; omega
  have bv : 0 ≤ ab (v0 - l) ∧ ab (v0 - l) < 4294967296 := by unfold ab In32 at *; split <;> omega
  have by_ : 0 < ab (h - l) ∧ ab (h - l) < 4294967296 := by unfold ab In32 at *; split <;> omega
  have bg : 0 ≤ ab g ∧ ab g < 4294967296 := by unfold ab; split <;> omega
  have m1 := mul_small33 (a := ab (v0 - l)) (b := ab g) (by omega) (by omega)
  have p1 := Int.mul_nonneg bv.1 bg.1
  have NE := fun w => nearest_any (decide (v0 - l < 0) != decide (g < 0)) (decide (h - l < 0)) (ab (v0 - l) * ab g) (ab (h - l)) p1 by_.1 (by omega) (by omega) w
  have us := up_sg (decide (v0 - l < 0) != decide (g < 0)) (decide (h - l < 0)) (ab (v0 - l) * ab g) (ab (h - l)) by_.1
  rw [ab_mul, sg_ab, nq_nrs _ _ (by omega)] at us
  have hV := sumX_in ((decide (v0 - l < 0) != decide (g < 0)) != decide (h - l < 0)) false (X := ab (v0 - l) * ab g + ab (v0 - l) * ab g) (Y := ab (h - l)) (by omega) (by omega) (by omega)
  have dI := dnX_in (upS ((decide (v0 - l < 0) != decide (g < 0)) != decide (h - l < 0)) (ab (v0 - l) * ab g) (ab (h - l))) (D := ab (h - l) + ab (h - l)) hV.1 (by omega) (by omega)
  change InD (dnX _ (upX _ (ab (v0 - l) * ab g) (ab (h - l))) _) ∧ dnX _ (upX _ (ab (v0 - l) * ab g) (ab (h - l))) _ ≤ upX _ (ab (v0 - l) * ab g) (ab (h - l)) + 1 at dI
  have hU : upX ((decide (v0 - l < 0) != decide (g < 0)) != decide (h - l < 0)) (ab (v0 - l) * ab g) (ab (h - l)) ≤ ab (v0 - l) * ab g + ab (v0 - l) * ab g + ab (h - l) := hV.2
  generalize dnX (upS ((decide (v0 - l < 0) != decide (g < 0)) != decide (h - l < 0)) (ab (v0 - l) * ab g) (ab (h - l))) (upX ((decide (v0 - l < 0) != decide (g < 0)) != decide (h - l < 0)) (ab (v0 - l) * ab g) (ab (h - l))) (ab (h - l) + ab (h - l)) = Z at *
  generalize upS ((decide (v0 - l < 0) != decide (g < 0)) != decide (h - l < 0)) (ab (v0 - l) * ab g) (ab (h - l)) = S at *
  have A0 := fun w => above_any (decide ((0 : Int) < 0)) S (ab 0) Z (by decide) dI.1.1 (by rw [show ab 0 = 0 by decide]; unfold InD at dI; omega) w
  have A1 := fun w => above_any S (decide (g < 0)) Z (ab g) dI.1.1 bg.1 (by omega) w
  have TL := fun w => tell_any S Z dI.1 w
  rw [us, sg_ab] at A0 A1
  rw [us] at TL
  have z0 := dI.1.1
  have hq : -73786976294838206464 < nrs ((v0 - l) * g) (h - l) ∧ nrs ((v0 - l) * g) (h - l) < 73786976294838206464 := by
    rw [← us]; unfold sg; split <;> omega
  have hd : draw v0 l h g = dcl g (nrs ((v0 - l) * g) (h - l)) := rfl
  rw [hd]
  generalize nrs ((v0 - l) * g) (h - l) = q at *
  have s1 : InW q := by unfold InW; omega
  rw [(fit_of s1).1, (fit_of s1).2] at TL
  refine rraw_walk v0 b l h g (v0 - l) (h - l) q (dcl g q) _ _ S _ _ _ _ _ _ Z _ _ (wrap_in64 (in32_64 hv)) (wrap_in64 (in32_64 hl)) (wrap_in64 (in32_64 hh)) (wrap_in64 i1) (wrap_in64 i2) (by simp; omega) (by simpa using hne) ?_ GR (fun w => times7_any _ _ i1 i3 w) (fun w => small_any _ i2 w) NE (fun w => small_any 0 ⟨by decide, by decide⟩ w) A0 (fun w => small_any g i3 w) A1 TL w
  by_cases c1 : q < 0
  · exact .inl ⟨decide_eq_true c1, dcl_low (by omega) (by omega)⟩
  · by_cases c2 : g < q
    · exact .inr (.inl ⟨decide_eq_false c1, decide_eq_true c2, by rw [dcl_high (by omega) (by omega)]; exact Int.emod_eq_of_lt (by omega) (by omega)⟩)
    · exact .inr (.inr ⟨decide_eq_false c1, decide_eq_false c2, by rw [dcl_id (by omega) (by omega)]; unfold lo; omega⟩)
theorem rnear7_any (a d : Int) (ha : InW a) (hd : In64 d) (w : World) : Calls Try.prog 13 #[.agg #[.int .i64 (hi a), .int .u64 (lo a), .int .i64 d]] w fun e w' => e = .returned (.int .i32 (dnear a d)) ∧ Ext w w' := by
  have EX := Ext.refl w
  unfold dnear
  by_cases h : d < 1
  · rw [if_pos h]
    clear ha hd
    go_enter Try.func13, Try.ntmps13
    go_upto_region 1 with fail
    refine rebase (G := fun w' => Code.wp _ _ _ _ w') _ (fun v1 => Ext w v1 ∧ S3m v1 (w.heap.size) (.int .i64 (hi (a))) (.int .u64 (lo (a))) (.int .i64 d)) ⟨by repeat (first | with_reducible exact EX | with_reducible refine Ext.alloc ?_ _ | with_reducible refine Ext.drew ?_ | with_reducible refine Ext.drewN ?_ _ | with_reducible refine Ext.setCell ?_ (by first | (simp; done) | omega | (dsimp only; omega)) _), by repeat (first | with_reducible assumption | with_reducible refine S3m.drew ?_ | with_reducible refine S3m.drewN ?_ _ | (with_reducible refine S3m.skip ?_ ?_; focus (first | omega | (simp; done))) | with_reducible refine S3m.store ?_ | with_reducible refine S3m.set0 ?_ _ | with_reducible refine S3m.set1 ?_ _ | with_reducible refine S3m.set2 ?_ _ | with_reducible refine S3m.new (by first | rfl | (simp; done) | with_unfolding_all rfl) (by with_unfolding_all rfl) (by with_unfolding_all rfl) (by with_unfolding_all rfl) | with_reducible refine S3m.alloc ?_ _ | exact S3m.any (by with_reducible assumption) | with_reducible refine S3mAny.drew ?_ | with_reducible refine S3mAny.drewN ?_ _ | (with_reducible refine S3mAny.skip ?_ ?_; focus (first | omega | (simp; done))) | with_reducible refine S3mAny.alloc ?_ _)⟩ ?_; clear EX ; rintro v1 ⟨EX, SQ⟩; rename World => v; have SQc0 := SQ.c0; have SQc1 := SQ.c1; have SQc2 := SQ.c2; have SQfz := SQ.fz; have SQlt := SQ.lt
    go_wp2
    go_ret
    exact ⟨rfl, EX⟩
  · rw [if_neg h]
    have h1 := ab_le ha
    have h2 : 0 < ab d ∧ ab d ≤ 9223372036854775808 := by unfold ab In64 at *; split <;> omega
    have RD := fun w => read_any a ha w
    have SD := fun w => small_any d hd w
    have HO := fun w => rhold_any (decide (a < 0)) (decide (d < 0)) (ab a) (ab d) h1.1 (by omega) h2.1 (by omega) w
    rw [sg_ab, sg_ab, show nrs a d = nr a d by unfold nrs; rw [if_neg (by omega)]] at HO
    generalize decide (a < 0) = s at *
    generalize decide (d < 0) = t at *
    generalize ab a = X at *
    generalize ab d = Y at *
    generalize held (nr a d) = p at *
    clear ha hd h1 h2
    go_enter Try.func13, Try.ntmps13
    go_upto_region 1 with fail
    refine rebase (G := fun w' => Code.wp _ _ _ _ w') _ (fun v1 => Ext w v1 ∧ S3m v1 (w.heap.size) (.int .i64 (hi (a))) (.int .u64 (lo (a))) (.int .i64 d)) ⟨by repeat (first | with_reducible exact EX | with_reducible refine Ext.alloc ?_ _ | with_reducible refine Ext.drew ?_ | with_reducible refine Ext.drewN ?_ _ | with_reducible refine Ext.setCell ?_ (by first | (simp; done) | omega | (dsimp only; omega)) _), by repeat (first | with_reducible assumption | with_reducible refine S3m.drew ?_ | with_reducible refine S3m.drewN ?_ _ | (with_reducible refine S3m.skip ?_ ?_; focus (first | omega | (simp; done))) | with_reducible refine S3m.store ?_ | with_reducible refine S3m.set0 ?_ _ | with_reducible refine S3m.set1 ?_ _ | with_reducible refine S3m.set2 ?_ _ | with_reducible refine S3m.new (by first | rfl | (simp; done) | with_unfolding_all rfl) (by with_unfolding_all rfl) (by with_unfolding_all rfl) (by with_unfolding_all rfl) | with_reducible refine S3m.alloc ?_ _ | exact S3m.any (by with_reducible assumption) | with_reducible refine S3mAny.drew ?_ | with_reducible refine S3mAny.drewN ?_ _ | (with_reducible refine S3mAny.skip ?_ ?_; focus (first | omega | (simp; done))) | with_reducible refine S3mAny.alloc ?_ _)⟩ ?_; clear EX ; rintro v1 ⟨EX, SQ⟩; rename World => v; have SQc0 := SQ.c0; have SQc1 := SQ.c1; have SQc2 := SQ.c2; have SQfz := SQ.fz; have SQlt := SQ.lt
    go_upto_region 3 with fail
    have gSQc0 := fun x' : Grow v => (SQ.later x'.ext).c0; have gSQc1 := fun x' : Grow v => (SQ.later x'.ext).c1; have gSQc2 := fun x' : Grow v => (SQ.later x'.ext).c2; have gSQfz := fun x' : Grow v => (SQ.later x'.ext).fz; have gSQlt := fun x' : Grow v => (SQ.later x'.ext).lt; refine wp_region_grow (by kernel_rfl) (by kernel_rfl) ?_; (repeat (first | go_big_quiet_step ((go_at_call 35; with_reducible exact calls_grow (RD _))) | go_big_quiet_step ((go_at_call 31; with_reducible exact calls_grow (SD _))) | go_big_quiet_step ((go_at_call 34; with_reducible exact calls_grow (HO _))) | go_big_quiet_step (fail))); refine wpQuiet_nil ?_; clear gSQc0 gSQc1 gSQc2 gSQfz gSQlt; rintro _ ⟨xq, rfl⟩; replace EX := Ext.trans EX xq.ext; replace SQ := SQ.later xq.ext; replace SQc0 := SQ.c0; replace SQc1 := SQ.c1; replace SQc2 := SQ.c2; replace SQfz := SQ.fz; replace SQlt := SQ.lt; generalize xq.out = v1 at *; clear xq v; rename World => v
    go_wp2
    go_ret
    exact ⟨rfl, EX⟩
end Go.Proofs.Ythmgilikokcibaa
