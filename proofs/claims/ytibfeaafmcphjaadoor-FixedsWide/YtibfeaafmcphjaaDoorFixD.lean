/- What fixeds.width and fixeds.Line do, called at any arguments. -/
import Derived.Test.YtibfeaafmcphjaaDoorFixB
namespace Go.Proofs.YtibfeaafmcphjaaDoor
open Go.RowKit Go.BigFrame
set_option linter.unusedSimpArgs false
set_option linter.unusedVariables false

theorem width_any (l h : Int) (hl : In32 l) (hh : In32 h) (w : World) : Calls Tryd.prog 44 #[.agg #[.int .i32 l, .int .i32 h]] w fun e w' => e = .returned (.int .i64 (h - l)) ∧ Ext w w' := by
  have w1 := wrap_in64 (in32_64 hl)
  have w2 := wrap_in64 (in32_64 hh)
  have w3 : wrap64 (h - l) = h - l := wrap_in64 (by unfold In32 In64 at *; omega)
  clear hl hh
  go_enter Tryd.func44, Tryd.ntmps44
  go_wp2
  go_ret
  exact ⟨by simp [w1, w2, w3], Ext.alloc (Ext.refl _) _⟩
set_option maxHeartbeats 8000000 in
theorem line_walk (x l1 h1 l2 h2 d e k p q n r : Int) (hne : ¬ l1 = h1) (wx : wrap64 x = x) (wl : wrap64 l1 = l1) (wl2 : wrap64 l2 = l2) (hk : wrap64 (x - l1) = k)
    (WD : ∀ w, Calls Tryd.prog 44 #[.agg #[.int .i32 l1, .int .i32 h1]] w fun e w' => e = .returned (.int .i64 d) ∧ Ext w w')
    (WE : ∀ w, Calls Tryd.prog 44 #[.agg #[.int .i32 l2, .int .i32 h2]] w fun e' w' => e' = .returned (.int .i64 e) ∧ Ext w w')
    (MP : ∀ w, Calls Tryd.prog 36 #[.int .i64 k, .int .i64 e] w fun e w' => e = .returned (.agg #[.int .i64 (hi (p)), .int .u64 (lo (p))]) ∧ Ext w w')
    (MQ : ∀ w, Calls Tryd.prog 36 #[.int .i64 l2, .int .i64 d] w fun e w' => e = .returned (.agg #[.int .i64 (hi (q)), .int .u64 (lo (q))]) ∧ Ext w w')
    (AD : ∀ w, Calls Tryd.prog 45 #[(.agg #[.int .i64 (hi (p)), .int .u64 (lo (p))]), (.agg #[.int .i64 (hi (q)), .int .u64 (lo (q))])] w fun e w' => e = .returned (.tuple #[(.agg #[.int .i64 (hi (n)), .int .u64 (lo (n))]), .int .i64 0]) ∧ Ext w w')
    (RD : ∀ w, Calls Tryd.prog 35 #[(.agg #[.int .i64 (hi (n)), .int .u64 (lo (n))]), .int .i64 d] w fun e w' => e = .returned (.int .i32 r) ∧ Ext w w')
    (w : World) : Calls Tryd.prog 32 #[.int .i32 x, .agg #[.int .i32 l1, .int .i32 h1], .agg #[.int .i32 l2, .int .i32 h2]] w fun e w' => e = .returned (.tuple #[.int .i32 r, .int .i64 0]) ∧ Ext w w' := by
  have EX := Ext.refl w
  go_enter Tryd.func32, Tryd.ntmps32
  go_upto_region 1 with fail
  refine rebase (G := fun w' => Code.wp _ _ _ _ w') _ (fun v1 => Ext w v1 ∧ S2m v1 (w.heap.size) (.int .i32 l1) (.int .i32 h1) ∧ S2m v1 (w.heap.size + 1) (.int .i32 l2) (.int .i32 h2)) ⟨by repeat (first | with_reducible exact EX | with_reducible refine Ext.alloc ?_ _ | with_reducible refine Ext.drew ?_ | with_reducible refine Ext.drewN ?_ _ | with_reducible refine Ext.setCell ?_ (by first | (simp; done) | omega | (dsimp only; omega)) _), by repeat (first | with_reducible assumption | with_reducible refine S2m.drew ?_ | with_reducible refine S2m.drewN ?_ _ | (with_reducible refine S2m.skip ?_ ?_; focus (first | omega | (simp; done))) | with_reducible refine S2m.store ?_ | with_reducible refine S2m.set0 ?_ _ | with_reducible refine S2m.set1 ?_ _ | with_reducible refine S2m.new (by first | rfl | (simp; done) | with_unfolding_all rfl) (by with_unfolding_all rfl) (by with_unfolding_all rfl) | with_reducible refine S2m.alloc ?_ _ | exact S2m.any (by with_reducible assumption) | with_reducible refine S2mAny.drew ?_ | with_reducible refine S2mAny.drewN ?_ _ | (with_reducible refine S2mAny.skip ?_ ?_; focus (first | omega | (simp; done))) | with_reducible refine S2mAny.alloc ?_ _), by repeat (first | with_reducible assumption | with_reducible refine S2m.drew ?_ | with_reducible refine S2m.drewN ?_ _ | (with_reducible refine S2m.skip ?_ ?_; focus (first | omega | (simp; done))) | with_reducible refine S2m.store ?_ | with_reducible refine S2m.set0 ?_ _ | with_reducible refine S2m.set1 ?_ _ | with_reducible refine S2m.new (by first | rfl | (simp; done) | with_unfolding_all rfl) (by with_unfolding_all rfl) (by with_unfolding_all rfl) | with_reducible refine S2m.alloc ?_ _ | exact S2m.any (by with_reducible assumption) | with_reducible refine S2mAny.drew ?_ | with_reducible refine S2mAny.drewN ?_ _ | (with_reducible refine S2mAny.skip ?_ ?_; focus (first | omega | (simp; done))) | with_reducible refine S2mAny.alloc ?_ _)⟩ ?_; clear EX ; rintro v1 ⟨EX, SA, SB⟩; rename World => v; have SAc0 := SA.c0; have SAc1 := SA.c1; have SAfz := SA.fz; have SAlt := SA.lt; have SBc0 := SB.c0; have SBc1 := SB.c1; have SBfz := SB.fz; have SBlt := SB.lt
  go_upto_region 4 with (first | (go_at_call 44; with_reducible refine (WD _).mono ?_; rintro e v1 ⟨rfl, hb⟩; replace EX := Ext.trans EX hb; replace SA := SA.later hb; replace SB := SB.later hb; replace SAc0 := SA.c0; replace SAc1 := SA.c1; replace SAfz := SA.fz; replace SAlt := SA.lt; replace SBc0 := SB.c0; replace SBc1 := SB.c1; replace SBfz := SB.fz; replace SBlt := SB.lt; clear hb v; rename World => v))
  refine wp_region_many 19 [(18, 9, (.cells #[.int .i64 0, .int .u64 0] 44))] (fun i => i == 17) (by kernel_rfl) (by kernel_rfl) (by kernel_rfl) (fun c a x v w h => by cases x <;> exact h) ?_ ?_ ?_; (focus (intro i o hi ho; have h5 : i = 17 := (by simpa using hi); rcases h5 with rfl <;> (cases ho; exact fun a w n w1 h => extract_late rfl a w n w1 h))); (focus (intro m hm o ho a w; simp only [List.mem_cons, List.not_mem_nil, or_false] at hm; rcases hm with rfl <;> (cases ho; go_simp))); intro B hB l' hl'; simp [dumbsM, dumbM, isNew] at hl'; subst hl'; have gSAc0 := fun x' : Grow B => (SA.later (Ext.trans hB x'.ext)).c0; have gSAc1 := fun x' : Grow B => (SA.later (Ext.trans hB x'.ext)).c1; have gSAfz := fun x' : Grow B => (SA.later (Ext.trans hB x'.ext)).fz; have gSAlt := fun x' : Grow B => (SA.later (Ext.trans hB x'.ext)).lt; have gSBc0 := fun x' : Grow B => (SB.later (Ext.trans hB x'.ext)).c0; have gSBc1 := fun x' : Grow B => (SB.later (Ext.trans hB x'.ext)).c1; have gSBfz := fun x' : Grow B => (SB.later (Ext.trans hB x'.ext)).fz; have gSBlt := fun x' : Grow B => (SB.later (Ext.trans hB x'.ext)).lt; (repeat (first | go_big_quiet_step ((go_at_call 44; with_reducible exact calls_grow (WE _))) | go_big_quiet_step ((go_at_call 36; with_reducible exact calls_grow (MP _))) | go_big_quiet_step ((go_at_call 36; with_reducible exact calls_grow (MQ _))) | go_big_quiet_step ((go_at_call 45; with_reducible exact calls_grow (AD _))) | go_big_quiet_step (fail))); refine wpQuiet_nil ?_; clear gSAc0 gSAc1 gSAfz gSAlt gSBc0 gSBc1 gSBfz gSBlt; clear hB B; intro bs v1 hv hms hne t ht; simp at ht; subst ht; simp only [puts, if_true]; obtain ⟨wn, n1, n2, n3⟩ := hms _ List.mem_cons_self; replace n3 : bs 18 = wn.heap.size := n3; have WN : Wm v1 (bs 18) (0) (0) := (by rw [n3]; exact Wm.later n2 (Wm.new rfl (by with_unfolding_all rfl) (by with_unfolding_all rfl))); have n4 := n1.more; have n5 := EX.more; have qWN_w : w.heap.size ≤ bs 18 := (by omega); have qWN_SA : w.heap.size < bs 18 := (by have := SA.lt; omega); have qWN_SB : w.heap.size + 1 < bs 18 := (by have := SB.lt; omega); clear n1 n2 n3 n4 n5 wn; clear hms hne; replace EX := Ext.trans EX hv; clear SAc0 SAc1 SAfz SAlt SBc0 SBc1 SBfz SBlt; clear SA SB; clear hv v; generalize bs 18 = b3 at *; clear bs; rename World => v; have WNhi := WN.hi; have WNlo := WN.lo; have WNfz := WN.fz; have WNlt := WN.lt
  go_upto_region 5 with fail
  refine rebase (G := fun w' => Code.wp _ _ _ _ w') _ (fun v1 => Ext w v1 ∧ Wm v1 (b3) (hi n) (lo n)) ⟨by repeat (first | with_reducible exact EX | with_reducible refine Ext.alloc ?_ _ | with_reducible refine Ext.drew ?_ | with_reducible refine Ext.drewN ?_ _ | with_reducible refine Ext.setCell ?_ (by first | (simp; done) | omega | (dsimp only; omega)) _), by repeat (first | with_reducible assumption | with_reducible refine Wm.drew ?_ | with_reducible refine Wm.drewN ?_ _ | (with_reducible refine Wm.skip ?_ ?_; focus (first | omega | (simp; done))) | with_reducible refine Wm.store ?_ _ _ | with_reducible refine Wm.new (by first | rfl | (simp; done) | with_unfolding_all rfl) (by with_unfolding_all rfl) (by with_unfolding_all rfl) | with_reducible refine Wm.alloc ?_ _ | exact Wm.any (by with_reducible assumption) | with_reducible refine WmAny.drew ?_ | with_reducible refine WmAny.drewN ?_ _ | (with_reducible refine WmAny.skip ?_ ?_; focus (first | omega | (simp; done))) | with_reducible refine WmAny.alloc ?_ _)⟩ ?_; clear WNhi WNlo WNfz WNlt; clear EX WN; rintro v1 ⟨EX, WN⟩; clear v; rename World => v; have WNhi := WN.hi; have WNlo := WN.lo; have WNfz := WN.fz; have WNlt := WN.lt
  go_wp2_with (first | (go_at_call 35; with_reducible refine (RD _).mono ?_; rintro e v1 ⟨rfl, hb⟩; replace EX := Ext.trans EX hb; replace WN := WN.later hb; replace WNhi := WN.hi; replace WNlo := WN.lo; replace WNfz := WN.fz; replace WNlt := WN.lt; clear hb v; rename World => v))
  go_ret2
  exact ⟨rfl, EX⟩
/-- Where a number is led; nothing where the range has no width. -/
def led (x l1 h1 l2 h2 : Int) : Int := if l1 = h1 then 0 else held (nrs ((x - l1) * (h2 - l2) + l2 * (h1 - l1)) (h1 - l1))
def lede (l1 h1 : Int) : Int := if l1 = h1 then 12 else 0
theorem mul_le33 {a b : Int} (ha : -4294967296 < a ∧ a < 4294967296) (hb : -4294967296 < b ∧ b < 4294967296) : -18446744073709551616 < a * b ∧ a * b < 18446744073709551616 := by
  have k := Int.natAbs_mul a b
  have ka : a.natAbs ≤ 4294967295 := by omega
  have kb : b.natAbs ≤ 4294967295 := by omega
  have := Nat.mul_le_mul ka kb
  omega
theorem line_any (x l1 h1 l2 h2 : Int) (hx : In32 x) (hl1 : In32 l1) (hh1 : In32 h1) (hl2 : In32 l2) (hh2 : In32 h2) (w : World) : Calls Tryd.prog 32 #[.int .i32 x, .agg #[.int .i32 l1, .int .i32 h1], .agg #[.int .i32 l2, .int .i32 h2]] w fun e w' => e = .returned (.tuple #[.int .i32 (led x l1 h1 l2 h2), .int .i64 (lede l1 h1)]) ∧ Ext w w' := by
  unfold led lede
  by_cases h : l1 = h1
  · subst h
    rw [if_pos rfl, if_pos rfl]
    have EX := Ext.refl w
    clear hx hl1 hh1 hl2 hh2
    go_enter Tryd.func32, Tryd.ntmps32
    go_wp2
    refine bodyPost_ret (by simp only [results, Tryd.results32]; simp [go_sem, *]; try rfl) rfl ⟨rfl, ?_⟩
    repeat (first | with_reducible exact EX | with_reducible refine Ext.alloc ?_ _ | with_reducible refine Ext.drew ?_ | with_reducible refine Ext.drewN ?_ _ | with_reducible refine Ext.setCell ?_ (by first | (simp; done) | omega | (dsimp only; omega)) _)
  · rw [if_neg h, if_neg h]
    have b1 : -4294967296 < x - l1 ∧ x - l1 < 4294967296 := by unfold In32 at *; omega
    have b2 : -4294967296 < h2 - l2 ∧ h2 - l2 < 4294967296 := by unfold In32 at *; omega
    have b3 : -4294967296 < h1 - l1 ∧ h1 - l1 < 4294967296 := by unfold In32 at *; omega
    have b4 : -4294967296 < l2 ∧ l2 < 4294967296 := by unfold In32 at *; omega
    have m1 := mul_le33 b1 b2
    have m2 := mul_le33 b4 b3
    have i1 : In64 (x - l1) := by unfold In64; omega
    have i2 : In64 (h2 - l2) := by unfold In64; omega
    have i3 : In64 (h1 - l1) := by unfold In64; omega
    have s1 : InW ((x - l1) * (h2 - l2) + l2 * (h1 - l1)) := by unfold InW; omega
    have s2 : InW (-((x - l1) * (h2 - l2) + l2 * (h1 - l1))) := by unfold InW; omega
    refine line_walk x l1 h1 l2 h2 (h1 - l1) (h2 - l2) (x - l1) _ _ _ _ h (wrap_in64 (in32_64 hx)) (wrap_in64 (in32_64 hl1)) (wrap_in64 (in32_64 hl2)) (wrap_in64 i1) (fun w => width_any l1 h1 hl1 hh1 w) (fun w => width_any l2 h2 hl2 hh2 w)
      (fun w => mul_any _ _ i1 i2 w) (fun w => mul_any _ _ (in32_64 hl2) i3 w) ?_ (fun w => rounded_any _ _ s1 s2 (by omega) (by omega) (by omega) w) w
    intro w
    have := add_any ((x - l1) * (h2 - l2)) (l2 * (h1 - l1)) (by unfold InW; omega) (by unfold InW; omega) w
    rw [(fit_of s1).1, (fit_of s1).2] at this
    exact this
end Go.Proofs.YtibfeaafmcphjaaDoor
