/- The walk of the given function FixedsEnds: it returns true at every two ranges and every two numbers of 32 bits, where the package's table is as it was laid. -/
import Derived.Test.YtibfeaafmcphjaaDoorFixE
import Derived.Test.YtibfeaafmcphjaaDoorFixM
namespace Go.Proofs.YtibfeaafmcphjaaDoor
open Go.RowKit Go.BigFrame
set_option linter.unusedSimpArgs false
set_option linter.unusedVariables false

set_option maxRecDepth 20000 in
set_option maxHeartbeats 8000000 in
theorem ends_same (a b c d x y : Int) (h : (a == b) = true) (w : World) (LV : ∀ v, Ext w v → Calls Tryd.prog 25 #[] v fun e w' => e = .returned (.bool true) ∧ Ext v w') :
    Calls Tryd.prog 8 #[.agg #[.int .i32 a, .int .i32 b], .agg #[.int .i32 c, .int .i32 d], .agg #[.int .i32 x, .int .i32 y]] w fun e w' => e = .returned (.bool true) ∧ Ext w w' := by
  have EX := Ext.refl w
  go_enter Tryd.func8, Tryd.ntmps8
  go_upto_region 1 with fail
  refine rebase (G := fun w' => Code.wp _ _ _ _ w') _ (fun v1 => Ext w v1 ∧ S2m v1 (w.heap.size) (.int .i32 a) (.int .i32 b) ∧ S2m v1 (w.heap.size + 1) (.int .i32 c) (.int .i32 d) ∧ S2m v1 (w.heap.size + 1 + 1) (.int .i32 x) (.int .i32 y)) ⟨by repeat (first | with_reducible exact EX | with_reducible refine Ext.alloc ?_ _ | with_reducible refine Ext.drew ?_ | with_reducible refine Ext.drewN ?_ _ | with_reducible refine Ext.setCell ?_ (by first | (simp; done) | omega | (dsimp only; omega)) _), by repeat (first | with_reducible assumption | with_reducible refine S2m.drew ?_ | with_reducible refine S2m.drewN ?_ _ | (with_reducible refine S2m.skip ?_ ?_; focus (first | omega | (simp; done))) | with_reducible refine S2m.store ?_ | with_reducible refine S2m.set0 ?_ _ | with_reducible refine S2m.set1 ?_ _ | with_reducible refine S2m.new (by first | rfl | (simp; done) | with_unfolding_all rfl) (by with_unfolding_all rfl) (by with_unfolding_all rfl) | with_reducible refine S2m.alloc ?_ _ | exact S2m.any (by with_reducible assumption) | with_reducible refine S2mAny.drew ?_ | with_reducible refine S2mAny.drewN ?_ _ | (with_reducible refine S2mAny.skip ?_ ?_; focus (first | omega | (simp; done))) | with_reducible refine S2mAny.alloc ?_ _), by repeat (first | with_reducible assumption | with_reducible refine S2m.drew ?_ | with_reducible refine S2m.drewN ?_ _ | (with_reducible refine S2m.skip ?_ ?_; focus (first | omega | (simp; done))) | with_reducible refine S2m.store ?_ | with_reducible refine S2m.set0 ?_ _ | with_reducible refine S2m.set1 ?_ _ | with_reducible refine S2m.new (by first | rfl | (simp; done) | with_unfolding_all rfl) (by with_unfolding_all rfl) (by with_unfolding_all rfl) | with_reducible refine S2m.alloc ?_ _ | exact S2m.any (by with_reducible assumption) | with_reducible refine S2mAny.drew ?_ | with_reducible refine S2mAny.drewN ?_ _ | (with_reducible refine S2mAny.skip ?_ ?_; focus (first | omega | (simp; done))) | with_reducible refine S2mAny.alloc ?_ _), by repeat (first | with_reducible assumption | with_reducible refine S2m.drew ?_ | with_reducible refine S2m.drewN ?_ _ | (with_reducible refine S2m.skip ?_ ?_; focus (first | omega | (simp; done))) | with_reducible refine S2m.store ?_ | with_reducible refine S2m.set0 ?_ _ | with_reducible refine S2m.set1 ?_ _ | with_reducible refine S2m.new (by first | rfl | (simp; done) | with_unfolding_all rfl) (by with_unfolding_all rfl) (by with_unfolding_all rfl) | with_reducible refine S2m.alloc ?_ _ | exact S2m.any (by with_reducible assumption) | with_reducible refine S2mAny.drew ?_ | with_reducible refine S2mAny.drewN ?_ _ | (with_reducible refine S2mAny.skip ?_ ?_; focus (first | omega | (simp; done))) | with_reducible refine S2mAny.alloc ?_ _)⟩ ?_; clear EX ; rintro v1 ⟨EX, SA, SB, SC⟩; rename World => v; have SAc0 := SA.c0; have SAc1 := SA.c1; have SAfz := SA.fz; have SAlt := SA.lt; have SBc0 := SB.c0; have SBc1 := SB.c1; have SBfz := SB.fz; have SBlt := SB.lt; have SCc0 := SC.c0; have SCc1 := SC.c1; have SCfz := SC.fz; have SClt := SC.lt
  go_wp2_with (first | (go_at_call 25; with_reducible refine (LV _ EX).mono ?_; rintro e v1 ⟨rfl, hb⟩; replace EX := Ext.trans EX hb; replace SA := SA.later hb; replace SB := SB.later hb; replace SC := SC.later hb; replace SAc0 := SA.c0; replace SAc1 := SA.c1; replace SAfz := SA.fz; replace SAlt := SA.lt; replace SBc0 := SB.c0; replace SBc1 := SB.c1; replace SBfz := SB.fz; replace SBlt := SB.lt; replace SCc0 := SC.c0; replace SCc1 := SC.c1; replace SCfz := SC.fz; replace SClt := SC.lt; clear hb v; rename World => v))
  go_ret
  exact ⟨rfl, EX⟩
set_option maxRecDepth 20000 in
set_option maxHeartbeats 8000000 in
theorem ends_walk (a b c d x y mn mx p q : Int) (h : (a == b) = false) (h0 : ¬ a = b) (hmin : min x y = mn) (hmax : max x y = mx) (w : World) (LV : ∀ v, Ext w v → Calls Tryd.prog 25 #[] v fun e w' => e = .returned (.bool true) ∧ Ext v w')
    (L1 : ∀ w, Calls Tryd.prog 32 #[.int .i32 a, .agg #[.int .i32 a, .int .i32 b], .agg #[.int .i32 c, .int .i32 d]] w fun e w' => e = .returned (.tuple #[.int .i32 c, .int .i64 0]) ∧ Ext w w') (L2 : ∀ w, Calls Tryd.prog 32 #[.int .i32 b, .agg #[.int .i32 a, .int .i32 b], .agg #[.int .i32 c, .int .i32 d]] w fun e w' => e = .returned (.tuple #[.int .i32 d, .int .i64 0]) ∧ Ext w w') (L3 : ∀ w, Calls Tryd.prog 32 #[.int .i32 x, .agg #[.int .i32 a, .int .i32 b], .agg #[.int .i32 a, .int .i32 b]] w fun e w' => e = .returned (.tuple #[.int .i32 x, .int .i64 0]) ∧ Ext w w') (L4 : ∀ w, Calls Tryd.prog 32 #[.int .i32 mn, .agg #[.int .i32 a, .int .i32 b], .agg #[.int .i32 c, .int .i32 d]] w fun e w' => e = .returned (.tuple #[.int .i32 p, .int .i64 0]) ∧ Ext w w') (L5 : ∀ w, Calls Tryd.prog 32 #[.int .i32 mx, .agg #[.int .i32 a, .int .i32 b], .agg #[.int .i32 c, .int .i32 d]] w fun e w' => e = .returned (.tuple #[.int .i32 q, .int .i64 0]) ∧ Ext w w') (rs : Bool) (hrs : (decide (a < b) == decide (c ≤ d)) = rs) (hpq : (p == q) = true ∨ ((p == q) = false ∧ (decide (p < q) == rs) = true)) :
    Calls Tryd.prog 8 #[.agg #[.int .i32 a, .int .i32 b], .agg #[.int .i32 c, .int .i32 d], .agg #[.int .i32 x, .int .i32 y]] w fun e w' => e = .returned (.bool true) ∧ Ext w w' := by
  have EX := Ext.refl w
  go_enter Tryd.func8, Tryd.ntmps8
  go_upto_region 1 with fail
  refine rebase (G := fun w' => Code.wp _ _ _ _ w') _ (fun v1 => Ext w v1 ∧ S2m v1 (w.heap.size) (.int .i32 a) (.int .i32 b) ∧ S2m v1 (w.heap.size + 1) (.int .i32 c) (.int .i32 d) ∧ S2m v1 (w.heap.size + 1 + 1) (.int .i32 x) (.int .i32 y)) ⟨by repeat (first | with_reducible exact EX | with_reducible refine Ext.alloc ?_ _ | with_reducible refine Ext.drew ?_ | with_reducible refine Ext.drewN ?_ _ | with_reducible refine Ext.setCell ?_ (by first | (simp; done) | omega | (dsimp only; omega)) _), by repeat (first | with_reducible assumption | with_reducible refine S2m.drew ?_ | with_reducible refine S2m.drewN ?_ _ | (with_reducible refine S2m.skip ?_ ?_; focus (first | omega | (simp; done))) | with_reducible refine S2m.store ?_ | with_reducible refine S2m.set0 ?_ _ | with_reducible refine S2m.set1 ?_ _ | with_reducible refine S2m.new (by first | rfl | (simp; done) | with_unfolding_all rfl) (by with_unfolding_all rfl) (by with_unfolding_all rfl) | with_reducible refine S2m.alloc ?_ _ | exact S2m.any (by with_reducible assumption) | with_reducible refine S2mAny.drew ?_ | with_reducible refine S2mAny.drewN ?_ _ | (with_reducible refine S2mAny.skip ?_ ?_; focus (first | omega | (simp; done))) | with_reducible refine S2mAny.alloc ?_ _), by repeat (first | with_reducible assumption | with_reducible refine S2m.drew ?_ | with_reducible refine S2m.drewN ?_ _ | (with_reducible refine S2m.skip ?_ ?_; focus (first | omega | (simp; done))) | with_reducible refine S2m.store ?_ | with_reducible refine S2m.set0 ?_ _ | with_reducible refine S2m.set1 ?_ _ | with_reducible refine S2m.new (by first | rfl | (simp; done) | with_unfolding_all rfl) (by with_unfolding_all rfl) (by with_unfolding_all rfl) | with_reducible refine S2m.alloc ?_ _ | exact S2m.any (by with_reducible assumption) | with_reducible refine S2mAny.drew ?_ | with_reducible refine S2mAny.drewN ?_ _ | (with_reducible refine S2mAny.skip ?_ ?_; focus (first | omega | (simp; done))) | with_reducible refine S2mAny.alloc ?_ _), by repeat (first | with_reducible assumption | with_reducible refine S2m.drew ?_ | with_reducible refine S2m.drewN ?_ _ | (with_reducible refine S2m.skip ?_ ?_; focus (first | omega | (simp; done))) | with_reducible refine S2m.store ?_ | with_reducible refine S2m.set0 ?_ _ | with_reducible refine S2m.set1 ?_ _ | with_reducible refine S2m.new (by first | rfl | (simp; done) | with_unfolding_all rfl) (by with_unfolding_all rfl) (by with_unfolding_all rfl) | with_reducible refine S2m.alloc ?_ _ | exact S2m.any (by with_reducible assumption) | with_reducible refine S2mAny.drew ?_ | with_reducible refine S2mAny.drewN ?_ _ | (with_reducible refine S2mAny.skip ?_ ?_; focus (first | omega | (simp; done))) | with_reducible refine S2mAny.alloc ?_ _)⟩ ?_; clear EX ; rintro v1 ⟨EX, SA, SB, SC⟩; rename World => v; have SAc0 := SA.c0; have SAc1 := SA.c1; have SAfz := SA.fz; have SAlt := SA.lt; have SBc0 := SB.c0; have SBc1 := SB.c1; have SBfz := SB.fz; have SBlt := SB.lt; have SCc0 := SC.c0; have SCc1 := SC.c1; have SCfz := SC.fz; have SClt := SC.lt
  go_upto_region 11 with (first | (go_at_call 32; with_reducible refine (L1 _).mono ?_; rintro e v1 ⟨rfl, hb⟩; replace EX := Ext.trans EX hb; replace SA := SA.later hb; replace SB := SB.later hb; replace SC := SC.later hb; replace SAc0 := SA.c0; replace SAc1 := SA.c1; replace SAfz := SA.fz; replace SAlt := SA.lt; replace SBc0 := SB.c0; replace SBc1 := SB.c1; replace SBfz := SB.fz; replace SBlt := SB.lt; replace SCc0 := SC.c0; replace SCc1 := SC.c1; replace SCfz := SC.fz; replace SClt := SC.lt; clear hb v; rename World => v) | (go_at_call 32; with_reducible refine (L2 _).mono ?_; rintro e v1 ⟨rfl, hb⟩; replace EX := Ext.trans EX hb; replace SA := SA.later hb; replace SB := SB.later hb; replace SC := SC.later hb; replace SAc0 := SA.c0; replace SAc1 := SA.c1; replace SAfz := SA.fz; replace SAlt := SA.lt; replace SBc0 := SB.c0; replace SBc1 := SB.c1; replace SBfz := SB.fz; replace SBlt := SB.lt; replace SCc0 := SC.c0; replace SCc1 := SC.c1; replace SCfz := SC.fz; replace SClt := SC.lt; clear hb v; rename World => v) | (go_at_call 32; with_reducible refine (L3 _).mono ?_; rintro e v1 ⟨rfl, hb⟩; replace EX := Ext.trans EX hb; replace SA := SA.later hb; replace SB := SB.later hb; replace SC := SC.later hb; replace SAc0 := SA.c0; replace SAc1 := SA.c1; replace SAfz := SA.fz; replace SAlt := SA.lt; replace SBc0 := SB.c0; replace SBc1 := SB.c1; replace SBfz := SB.fz; replace SBlt := SB.lt; replace SCc0 := SC.c0; replace SCc1 := SC.c1; replace SCfz := SC.fz; replace SClt := SC.lt; clear hb v; rename World => v) | (go_at_call 32; with_reducible refine (L4 _).mono ?_; rintro e v1 ⟨rfl, hb⟩; replace EX := Ext.trans EX hb; replace SA := SA.later hb; replace SB := SB.later hb; replace SC := SC.later hb; replace SAc0 := SA.c0; replace SAc1 := SA.c1; replace SAfz := SA.fz; replace SAlt := SA.lt; replace SBc0 := SB.c0; replace SBc1 := SB.c1; replace SBfz := SB.fz; replace SBlt := SB.lt; replace SCc0 := SC.c0; replace SCc1 := SC.c1; replace SCfz := SC.fz; replace SClt := SC.lt; clear hb v; rename World => v) | (go_at_call 32; with_reducible refine (L5 _).mono ?_; rintro e v1 ⟨rfl, hb⟩; replace EX := Ext.trans EX hb; replace SA := SA.later hb; replace SB := SB.later hb; replace SC := SC.later hb; replace SAc0 := SA.c0; replace SAc1 := SA.c1; replace SAfz := SA.fz; replace SAlt := SA.lt; replace SBc0 := SB.c0; replace SBc1 := SB.c1; replace SBfz := SB.fz; replace SBlt := SB.lt; replace SCc0 := SC.c0; replace SCc1 := SC.c1; replace SCfz := SC.fz; replace SClt := SC.lt; clear hb v; rename World => v))
  rcases hpq with hpq | ⟨hpq, hpq'⟩
  all_goals
    go_wp2_with (first | (go_at_call 25; with_reducible refine (LV _ EX).mono ?_; rintro e v1 ⟨rfl, hb⟩; replace EX := Ext.trans EX hb; replace SA := SA.later hb; replace SB := SB.later hb; replace SC := SC.later hb; replace SAc0 := SA.c0; replace SAc1 := SA.c1; replace SAfz := SA.fz; replace SAlt := SA.lt; replace SBc0 := SB.c0; replace SBc1 := SB.c1; replace SBfz := SB.fz; replace SBlt := SB.lt; replace SCc0 := SC.c0; replace SCc1 := SC.c1; replace SCfz := SC.fz; replace SClt := SC.lt; clear hb v; rename World => v))
    go_ret
    exact ⟨rfl, EX⟩
theorem nrs_exact (x d : Int) (hd : ¬ d = 0) : nrs (d * x) d = x := by
  unfold nrs
  by_cases h : d < 0
  · rw [if_pos h, ← Int.neg_mul]; exact nr_exact x (-d) (by omega)
  · rw [if_neg h]; exact nr_exact x d (by omega)
theorem led_up {a b c d x y : Int} (h : ¬ a = b) (hxy : x ≤ y) (hs : (a < b ∧ c ≤ d) ∨ (¬ a < b ∧ ¬ c ≤ d)) : led x a b c d ≤ led y a b c d := by
  unfold led nrs
  rw [if_neg h, if_neg h]
  refine held_mono ?_
  rcases hs with ⟨h1, h2⟩ | ⟨h1, h2⟩
  · rw [if_neg (by omega), if_neg (by omega)]
    have := Int.mul_le_mul_of_nonneg_right (show x - a ≤ y - a by omega) (show 0 ≤ d - c by omega)
    exact nr_mono (by omega) (by omega)
  · rw [if_pos (by omega), if_pos (by omega)]
    have := Int.mul_le_mul_of_nonpos_right (show x - a ≤ y - a by omega) (show d - c ≤ 0 by omega)
    exact nr_mono (by omega) (by omega)
theorem led_down {a b c d x y : Int} (h : ¬ a = b) (hxy : x ≤ y) (hs : (a < b ∧ ¬ c ≤ d) ∨ (¬ a < b ∧ c ≤ d)) : led y a b c d ≤ led x a b c d := by
  unfold led nrs
  rw [if_neg h, if_neg h]
  refine held_mono ?_
  rcases hs with ⟨h1, h2⟩ | ⟨h1, h2⟩
  · rw [if_neg (by omega), if_neg (by omega)]
    have := Int.mul_le_mul_of_nonpos_right (show x - a ≤ y - a by omega) (show d - c ≤ 0 by omega)
    exact nr_mono (by omega) (by omega)
  · rw [if_pos (by omega), if_pos (by omega)]
    have := Int.mul_le_mul_of_nonneg_right (show x - a ≤ y - a by omega) (show 0 ≤ d - c by omega)
    exact nr_mono (by omega) (by omega)
theorem led_at {a b c d x v : Int} (h : ¬ a = b) (hv : In32 v) (e : (x - a) * (d - c) + c * (b - a) = (b - a) * v) : led x a b c d = v := by
  unfold led
  rw [if_neg h, e, nrs_exact _ _ (by omega), held_id hv]
theorem ends_law (a b c d x y : Int) (ha : In32 a) (hb : In32 b) (hc : In32 c) (hd : In32 d) (hx : In32 x) (hy : In32 y) (w : World) (L : Laid w) :
    Calls Tryd.prog 8 #[.agg #[.int .i32 a, .int .i32 b], .agg #[.int .i32 c, .int .i32 d], .agg #[.int .i32 x, .int .i32 y]] w fun e w' => e = .returned (.bool true) ∧ Ext w w' := by
  have LV := fun v E => lives_any w L v E
  by_cases h : a = b
  · exact ends_same a b c d x y (by simpa using h) w LV
  · have hmn : In32 (min x y) := by unfold In32 at *; omega
    have hmx : In32 (max x y) := by unfold In32 at *; omega
    have L1 := fun w => line_any a a b c d ha ha hb hc hd w
    have L2 := fun w => line_any b a b c d hb ha hb hc hd w
    have L3 := fun w => line_any x a b a b hx ha hb ha hb w
    have L4 := fun w => line_any (min x y) a b c d hmn ha hb hc hd w
    have L5 := fun w => line_any (max x y) a b c d hmx ha hb hc hd w
    have e0 : lede a b = 0 := by unfold lede; rw [if_neg h]
    rw [e0] at L1 L2 L3 L4 L5
    rw [led_at h hc (by rw [Int.sub_self, Int.zero_mul, Int.zero_add, Int.mul_comm])] at L1
    rw [led_at h hd (by rw [Int.mul_comm c, ← Int.mul_add]; congr 1; omega)] at L2
    rw [led_at h hx (by rw [← Int.add_mul, Int.mul_comm]; congr 1; omega)] at L3
    refine ends_walk a b c d x y (min x y) (max x y) _ _ (by simpa using h) h rfl rfl w LV L1 L2 L3 L4 L5 _ rfl ?_
    have hle : min x y ≤ max x y := by omega
    by_cases hs : (a < b ∧ c ≤ d) ∨ (¬ a < b ∧ ¬ c ≤ d)
    · have k := led_up h hle hs
      generalize led (min x y) a b c d = p at *
      generalize led (max x y) a b c d = q at *
      have r : (decide (a < b) == decide (c ≤ d)) = true := by
        rcases hs with ⟨h1, h2⟩ | ⟨h1, h2⟩ <;> simp [h1, h2]
      rw [r]
      by_cases hpq : p = q
      · exact .inl (by simpa using hpq)
      · exact .inr ⟨by simpa using hpq, by simp; omega⟩
    · have hs' : (a < b ∧ ¬ c ≤ d) ∨ (¬ a < b ∧ c ≤ d) := by omega
      have k := led_down h hle hs'
      generalize led (min x y) a b c d = p at *
      generalize led (max x y) a b c d = q at *
      have r : (decide (a < b) == decide (c ≤ d)) = false := by
        rcases hs' with ⟨h1, h2⟩ | ⟨h1, h2⟩ <;> simp [h1, h2]
      rw [r]
      by_cases hpq : p = q
      · exact .inl (by simpa using hpq)
      · exact .inr ⟨by simpa using hpq, by simp; omega⟩
end Go.Proofs.YtibfeaafmcphjaaDoor
