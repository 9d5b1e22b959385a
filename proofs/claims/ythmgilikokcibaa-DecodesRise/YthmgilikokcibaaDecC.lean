/- Package decodes: Value, Raw, Near, called at any arguments. -/
import Derived.Test.YthmgilikokcibaaDecB
import Derived.Test.YthmgilikokcibaaDecM
import Derived.Test.YthmgilikokcibaaWideH
namespace Go.Proofs.Ythmgilikokcibaa
open Go.RowKit Go.BigFrame
set_option linter.unusedSimpArgs false
set_option linter.unusedVariables false

theorem value_any (r b l h : Int) (hr : 0 ≤ r ∧ r < 4294967296) (hm : mayb r b = true) (hl : In32 l) (hh : In32 h) (w : World) : Calls Try.prog 8 #[.int .u32 r, .int .i64 b, .agg #[.int .i32 l, .int .i32 h]] w fun e w' => e = .returned (.tuple #[.agg #[.int .i64 (hi (dval l h (gg b) r)), .int .u64 (lo (dval l h (gg b) r)), .int .i64 (gg b)], .int .i64 0]) ∧ Ext w w' := by
  obtain ⟨h1, h2, h3⟩ := mayb_of hm
  obtain ⟨g1, g2⟩ := gg_in h1 h2
  have m1 : -18446744073709551616 < l * gg b ∧ l * gg b < 18446744073709551616 := mul_small33 (by unfold In32 at *; omega) (by omega)
  have m2 : -18446744073709551616 < r * (h - l) ∧ r * (h - l) < 18446744073709551616 := mul_small33 (by omega) (by unfold In32 at *; omega)
  have i1 : In64 (gg b) := by unfold In64; omega
  have i2 : In64 (h - l) := by unfold In64 In32 at *; omega
  have i3 : In64 r := by unfold In64; omega
  have s1 : InW (l * gg b + r * (h - l)) := by unfold InW; omega
  refine value_walk r b l h (gg b) (h - l) _ _ _ (wrap_in64 (in32_64 hl)) (wrap_in64 i3) (fun w => number_good r b hr hm w) (fun w => dgreat_at r b h1 h2 w) (fun w => dwidth_any l h hl hh w)
    (fun w => mul_any _ _ (in32_64 hl) i1 w) (fun w => mul_any _ _ i3 i2 w) ?_ w
  intro w
  have := add_any (l * gg b) (r * (h - l)) (by unfold InW; omega) (by unfold InW; omega) w
  rw [(fit_of s1).1, (fit_of s1).2] at this
  exact this
theorem clamp_nr (X Y g : Int) (hY : 0 < Y) (hg : 0 < g) : nr (max 0 (min X Y) * g) Y = dcl g (nr (X * g) Y) := by
  by_cases h1 : X ≤ 0
  · rw [show max 0 (min X Y) = 0 by omega, Int.zero_mul]
    have k : nr (X * g) Y ≤ 0 := nr_low hY (Int.mul_nonpos_of_nonpos_of_nonneg h1 (by omega))
    rw [dcl_low (by omega) k]
    have := nr_exact 0 Y hY
    rwa [Int.mul_zero] at this
  · by_cases h2 : Y ≤ X
    · rw [show max 0 (min X Y) = Y by omega, nr_exact g Y hY]
      exact (dcl_high (by omega) (nr_high hY (Int.mul_le_mul_of_nonneg_right h2 (by omega)))).symm
    · rw [show max 0 (min X Y) = X by omega]
      have k0 := nr_mono hY (Int.mul_nonneg (show 0 ≤ X by omega) (show 0 ≤ g by omega))
      have k1 := nr_mono hY (Int.mul_le_mul_of_nonneg_right (show X ≤ Y by omega) (show 0 ≤ g by omega))
      have e0 := nr_exact 0 Y hY
      rw [Int.mul_zero] at e0
      rw [nr_exact g Y hY] at k1
      rw [e0] at k0
      exact (dcl_id k0 k1).symm
theorem along_draw (v l h g : Int) (hne : ¬ l = h) (hg : 0 < g) : nr (alat v l h * g) (alof l h) = draw v l h g := by
  unfold alat alof
  by_cases k : h - l < 0
  · rw [if_pos k, if_pos k, draw_turn v l h g (by omega), clamp_nr _ _ g (by omega) hg, show -(v - l) = l - v by omega, show -(h - l) = l - h by omega]
  · rw [if_neg k, if_neg k, draw_up v l h g (by omega), clamp_nr _ _ g (by omega) hg]
theorem draw_in (v l h : Int) {g : Int} (hg : 0 ≤ g) : 0 ≤ draw v l h g ∧ draw v l h g ≤ g := dcl_in hg _
set_option maxHeartbeats 4000000 in
theorem raw_walk (v0 b l h g x d p q n : Int) (hne : ¬ l = h) (hn : n % 4294967296 = n)
    (NO : ∀ w, Calls Try.prog 21 #[.int .u32 0, .int .i64 b] w fun e w' => e = .returned (.tuple #[.agg #[.int .u32 0, .int .i64 b], .int .i64 0]) ∧ Ext w w')
    (GR : ∀ w, Calls Try.prog 22 #[.agg #[.int .u32 0, .int .i64 b]] w fun e w' => e = .returned (.int .i64 g) ∧ Ext w w')
    (AL : ∀ w, Calls Try.prog 28 #[.int .i32 v0, .agg #[.int .i32 l, .int .i32 h]] w fun e w' => e = .returned (.tuple #[.int .i64 x, .int .i64 d]) ∧ Ext w w')
    (MP : ∀ w, Calls Try.prog 17 #[.int .i64 x, .int .i64 g] w fun e w' => e = .returned (.agg #[.int .i64 (hi (p)), .int .u64 (lo (p))]) ∧ Ext w w')
    (NE : ∀ w, Calls Try.prog 29 #[(.agg #[.int .i64 (hi (p)), .int .u64 (lo (p))]), .int .i64 d] w fun e w' => e = .returned (.tuple #[(.agg #[.int .i64 (hi (q)), .int .u64 (lo (q))]), .int .i64 0]) ∧ Ext w w')
    (IT : ∀ w, Calls Try.prog 18 #[(.agg #[.int .i64 (hi (q)), .int .u64 (lo (q))])] w fun e w' => e = .returned (.tuple #[.int .i64 n, .bool true]) ∧ Ext w w')
    (w : World) : Calls Try.prog 10 #[.int .i32 v0, .int .i64 b, .agg #[.int .i32 l, .int .i32 h]] w fun e w' => e = .returned (.tuple #[.int .u32 n, .int .i64 0]) ∧ Ext w w' := by
  have EX := Ext.refl w
  go_enter Try.func10, Try.ntmps10
  go_upto_region 1 with fail
  refine rebase (G := fun w' => Code.wp _ _ _ _ w') _ (fun v1 => Ext w v1 ∧ S2m v1 (w.heap.size) (.int .i32 l) (.int .i32 h)) ⟨by repeat (first | with_reducible exact EX | with_reducible refine Ext.alloc ?_ _ | with_reducible refine Ext.drew ?_ | with_reducible refine Ext.drewN ?_ _ | with_reducible refine Ext.setCell ?_ (by first | (simp; done) | omega | (dsimp only; omega)) _), by repeat (first | with_reducible assumption | with_reducible refine S2m.drew ?_ | with_reducible refine S2m.drewN ?_ _ | (with_reducible refine S2m.skip ?_ ?_; focus (first | omega | (simp; done))) | with_reducible refine S2m.store ?_ | with_reducible refine S2m.set0 ?_ _ | with_reducible refine S2m.set1 ?_ _ | with_reducible refine S2m.new (by first | rfl | (simp; done) | with_unfolding_all rfl) (by with_unfolding_all rfl) (by with_unfolding_all rfl) | with_reducible refine S2m.alloc ?_ _ | exact S2m.any (by with_reducible assumption) | with_reducible refine S2mAny.drew ?_ | with_reducible refine S2mAny.drewN ?_ _ | (with_reducible refine S2mAny.skip ?_ ?_; focus (first | omega | (simp; done))) | with_reducible refine S2mAny.alloc ?_ _)⟩ ?_; clear EX ; rintro v1 ⟨EX, SA⟩; rename World => v; have SAc0 := SA.c0; have SAc1 := SA.c1; have SAfz := SA.fz; have SAlt := SA.lt
  go_upto_region 2 with (first | (go_at_call 21; with_reducible refine (NO _).mono ?_; rintro e v1 ⟨rfl, hb⟩; replace EX := Ext.trans EX hb; replace SA := SA.later hb; replace SAc0 := SA.c0; replace SAc1 := SA.c1; replace SAfz := SA.fz; replace SAlt := SA.lt; clear hb v; rename World => v))
  refine rebase (G := fun w' => Code.wp _ _ _ _ w') _ (fun v1 => Ext w v1 ∧ S2m v1 (w.heap.size) (.int .i32 l) (.int .i32 h) ∧ S2m v1 (v.heap.size) (.int .u32 0) (.int .i64 b)) ⟨by repeat (first | with_reducible exact EX | with_reducible refine Ext.alloc ?_ _ | with_reducible refine Ext.drew ?_ | with_reducible refine Ext.drewN ?_ _ | with_reducible refine Ext.setCell ?_ (by first | (simp; done) | omega | (dsimp only; omega)) _), by repeat (first | with_reducible assumption | with_reducible refine S2m.drew ?_ | with_reducible refine S2m.drewN ?_ _ | (with_reducible refine S2m.skip ?_ ?_; focus (first | omega | (simp; done))) | with_reducible refine S2m.store ?_ | with_reducible refine S2m.set0 ?_ _ | with_reducible refine S2m.set1 ?_ _ | with_reducible refine S2m.new (by first | rfl | (simp; done) | with_unfolding_all rfl) (by with_unfolding_all rfl) (by with_unfolding_all rfl) | with_reducible refine S2m.alloc ?_ _ | exact S2m.any (by with_reducible assumption) | with_reducible refine S2mAny.drew ?_ | with_reducible refine S2mAny.drewN ?_ _ | (with_reducible refine S2mAny.skip ?_ ?_; focus (first | omega | (simp; done))) | with_reducible refine S2mAny.alloc ?_ _), by repeat (first | with_reducible assumption | with_reducible refine S2m.drew ?_ | with_reducible refine S2m.drewN ?_ _ | (with_reducible refine S2m.skip ?_ ?_; focus (first | omega | (simp; done))) | with_reducible refine S2m.store ?_ | with_reducible refine S2m.set0 ?_ _ | with_reducible refine S2m.set1 ?_ _ | with_reducible refine S2m.new (by first | rfl | (simp; done) | with_unfolding_all rfl) (by with_unfolding_all rfl) (by with_unfolding_all rfl) | with_reducible refine S2m.alloc ?_ _ | exact S2m.any (by with_reducible assumption) | with_reducible refine S2mAny.drew ?_ | with_reducible refine S2mAny.drewN ?_ _ | (with_reducible refine S2mAny.skip ?_ ?_; focus (first | omega | (simp; done))) | with_reducible refine S2mAny.alloc ?_ _)⟩ ?_; have qSA := SA.lt; have qw := EX.more; clear SAc0 SAc1 SAfz SAlt; clear EX SA; rintro v1 ⟨EX, SA, SN⟩; obtain ⟨b1, hb1⟩ : ∃ b, v.heap.size = b := ⟨_, rfl⟩; rw [hb1] at qSA qw SN ⊢; clear hb1; clear v; rename World => v; have SAc0 := SA.c0; have SAc1 := SA.c1; have SAfz := SA.fz; have SAlt := SA.lt; have SNc0 := SN.c0; have SNc1 := SN.c1; have SNfz := SN.fz; have SNlt := SN.lt
  go_upto_region 8 with (first | (go_at_call 28; with_reducible refine (AL _).mono ?_; rintro e v1 ⟨rfl, hb⟩; replace EX := Ext.trans EX hb; replace SA := SA.later hb; replace SN := SN.later hb; replace SAc0 := SA.c0; replace SAc1 := SA.c1; replace SAfz := SA.fz; replace SAlt := SA.lt; replace SNc0 := SN.c0; replace SNc1 := SN.c1; replace SNfz := SN.fz; replace SNlt := SN.lt; clear hb v; rename World => v) | (go_at_call 22; with_reducible refine (GR _).mono ?_; rintro e v1 ⟨rfl, hb⟩; replace EX := Ext.trans EX hb; replace SA := SA.later hb; replace SN := SN.later hb; replace SAc0 := SA.c0; replace SAc1 := SA.c1; replace SAfz := SA.fz; replace SAlt := SA.lt; replace SNc0 := SN.c0; replace SNc1 := SN.c1; replace SNfz := SN.fz; replace SNlt := SN.lt; clear hb v; rename World => v) | (go_at_call 17; with_reducible refine (MP _).mono ?_; rintro e v1 ⟨rfl, hb⟩; replace EX := Ext.trans EX hb; replace SA := SA.later hb; replace SN := SN.later hb; replace SAc0 := SA.c0; replace SAc1 := SA.c1; replace SAfz := SA.fz; replace SAlt := SA.lt; replace SNc0 := SN.c0; replace SNc1 := SN.c1; replace SNfz := SN.fz; replace SNlt := SN.lt; clear hb v; rename World => v) | (go_at_call 29; with_reducible refine (NE _).mono ?_; rintro e v1 ⟨rfl, hb⟩; replace EX := Ext.trans EX hb; replace SA := SA.later hb; replace SN := SN.later hb; replace SAc0 := SA.c0; replace SAc1 := SA.c1; replace SAfz := SA.fz; replace SAlt := SA.lt; replace SNc0 := SN.c0; replace SNc1 := SN.c1; replace SNfz := SN.fz; replace SNlt := SN.lt; clear hb v; rename World => v))
  refine rebase (G := fun w' => Code.wp _ _ _ _ w') _ (fun v1 => Ext w v1 ∧ Wm v1 (v.heap.size) (hi q) (lo q)) ⟨by repeat (first | with_reducible exact EX | with_reducible refine Ext.alloc ?_ _ | with_reducible refine Ext.drew ?_ | with_reducible refine Ext.drewN ?_ _ | with_reducible refine Ext.setCell ?_ (by first | (simp; done) | omega | (dsimp only; omega)) _), by repeat (first | with_reducible assumption | with_reducible refine Wm.drew ?_ | with_reducible refine Wm.drewN ?_ _ | (with_reducible refine Wm.skip ?_ ?_; focus (first | omega | (simp; done))) | with_reducible refine Wm.store ?_ _ _ | with_reducible refine Wm.new (by first | rfl | (simp; done) | with_unfolding_all rfl) (by with_unfolding_all rfl) (by with_unfolding_all rfl) | with_reducible refine Wm.alloc ?_ _ | exact Wm.any (by with_reducible assumption) | with_reducible refine WmAny.drew ?_ | with_reducible refine WmAny.drewN ?_ _ | (with_reducible refine WmAny.skip ?_ ?_; focus (first | omega | (simp; done))) | with_reducible refine WmAny.alloc ?_ _)⟩ ?_; have qSA := SA.lt; have qSN := SN.lt; have qw := EX.more; clear SAc0 SAc1 SAfz SAlt SNc0 SNc1 SNfz SNlt; clear EX SA SN; rintro v1 ⟨EX, WN⟩; obtain ⟨b3, hb3⟩ : ∃ b, v.heap.size = b := ⟨_, rfl⟩; rw [hb3] at qSA qSN qw WN ⊢; clear hb3; clear v; rename World => v; have WNhi := WN.hi; have WNlo := WN.lo; have WNfz := WN.fz; have WNlt := WN.lt
  go_wp2_with (first | (go_at_call 18; with_reducible refine (IT _).mono ?_; rintro e v1 ⟨rfl, hb⟩; replace EX := Ext.trans EX hb; replace WN := WN.later hb; replace WNhi := WN.hi; replace WNlo := WN.lo; replace WNfz := WN.fz; replace WNlt := WN.lt; clear hb v; rename World => v))
  go_ret2
  exact ⟨by simp [hn], EX⟩
theorem raw_any (v0 b l h : Int) (hv : In32 v0) (h1 : 1 ≤ b) (h2 : b ≤ 32) (hl : In32 l) (hh : In32 h) (hne : ¬ l = h) (w : World) : Calls Try.prog 10 #[.int .i32 v0, .int .i64 b, .agg #[.int .i32 l, .int .i32 h]] w fun e w' => e = .returned (.tuple #[.int .u32 (draw v0 l h (gg b)), .int .i64 0]) ∧ Ext w w' := by
  obtain ⟨g1, g2⟩ := gg_in h1 h2
  have hm : mayb 0 b = true := mayb_is h1 h2 (by omega)
  have D := draw_in v0 l h (g := gg b) (by omega)
  have e := along_draw v0 l h (gg b) hne (by omega)
  have x1 : 0 ≤ alat v0 l h ∧ alat v0 l h < 4294967296 := by unfold alat In32 at *; split <;> omega
  have x2 : 1 ≤ alof l h ∧ alof l h < 4294967296 := by unfold alof In32 at *; split <;> omega
  have m := mul_small33 (a := alat v0 l h) (b := gg b) (by omega) (by omega)
  refine raw_walk v0 b l h (gg b) (alat v0 l h) (alof l h) _ (draw v0 l h (gg b)) (draw v0 l h (gg b)) hne (Int.emod_eq_of_lt (by omega) (by omega)) (fun w => number_good 0 b (by omega) hm w) (fun w => dgreat_at 0 b h1 h2 w) (fun w => along_any v0 l h hv hl hh w)
    (fun w => mul_any _ _ (by unfold In64; omega) (by unfold In64; omega) w) ?_ ?_ w
  · intro w
    have := near_any (alat v0 l h * gg b) (alof l h) (by unfold InW; omega) (by omega) (by unfold In64; omega) w
    rw [e] at this
    exact this
  · intro w
    have := int_any (draw v0 l h (gg b)) w
    rw [if_pos (wrap_in64 (by unfold In64; omega)), decide_eq_true (wrap_in64 (by unfold In64; omega))] at this
    exact this
theorem raw_arg (v0 b l h : Int) (hb : b < 1 ∨ 32 < b) (w : World) : Calls Try.prog 10 #[.int .i32 v0, .int .i64 b, .agg #[.int .i32 l, .int .i32 h]] w fun e w' => e = .returned (.tuple #[.int .u32 0, .int .i64 1]) ∧ Ext w w' := by
  have EX := Ext.refl w
  have hm : mayb 0 b = false := by
    unfold mayb
    rcases hb with h | h
    · rw [decide_eq_false (by omega : ¬ 1 ≤ b)]; rfl
    · rw [decide_eq_false (by omega : ¬ b ≤ 32), Bool.and_false]; rfl
  have NO := fun w => number_bad 0 b (by omega) hm w
  clear hm hb
  go_enter Try.func10, Try.ntmps10
  go_upto_region 1 with fail
  refine rebase (G := fun w' => Code.wp _ _ _ _ w') _ (fun v1 => Ext w v1 ∧ S2m v1 (w.heap.size) (.int .i32 l) (.int .i32 h)) ⟨by repeat (first | with_reducible exact EX | with_reducible refine Ext.alloc ?_ _ | with_reducible refine Ext.drew ?_ | with_reducible refine Ext.drewN ?_ _ | with_reducible refine Ext.setCell ?_ (by first | (simp; done) | omega | (dsimp only; omega)) _), by repeat (first | with_reducible assumption | with_reducible refine S2m.drew ?_ | with_reducible refine S2m.drewN ?_ _ | (with_reducible refine S2m.skip ?_ ?_; focus (first | omega | (simp; done))) | with_reducible refine S2m.store ?_ | with_reducible refine S2m.set0 ?_ _ | with_reducible refine S2m.set1 ?_ _ | with_reducible refine S2m.new (by first | rfl | (simp; done) | with_unfolding_all rfl) (by with_unfolding_all rfl) (by with_unfolding_all rfl) | with_reducible refine S2m.alloc ?_ _ | exact S2m.any (by with_reducible assumption) | with_reducible refine S2mAny.drew ?_ | with_reducible refine S2mAny.drewN ?_ _ | (with_reducible refine S2mAny.skip ?_ ?_; focus (first | omega | (simp; done))) | with_reducible refine S2mAny.alloc ?_ _)⟩ ?_; clear EX ; rintro v1 ⟨EX, SA⟩; rename World => v; have SAc0 := SA.c0; have SAc1 := SA.c1; have SAfz := SA.fz; have SAlt := SA.lt
  go_upto_region 2 with (first | (go_at_call 21; with_reducible refine (NO _).mono ?_; rintro e v1 ⟨rfl, hb⟩; replace EX := Ext.trans EX hb; replace SA := SA.later hb; replace SAc0 := SA.c0; replace SAc1 := SA.c1; replace SAfz := SA.fz; replace SAlt := SA.lt; clear hb v; rename World => v))
  refine rebase (G := fun w' => Code.wp _ _ _ _ w') _ (fun v1 => Ext w v1 ∧ S2m v1 (w.heap.size) (.int .i32 l) (.int .i32 h) ∧ S2m v1 (v.heap.size) (.int .u32 0) (.int .i64 0)) ⟨by repeat (first | with_reducible exact EX | with_reducible refine Ext.alloc ?_ _ | with_reducible refine Ext.drew ?_ | with_reducible refine Ext.drewN ?_ _ | with_reducible refine Ext.setCell ?_ (by first | (simp; done) | omega | (dsimp only; omega)) _), by repeat (first | with_reducible assumption | with_reducible refine S2m.drew ?_ | with_reducible refine S2m.drewN ?_ _ | (with_reducible refine S2m.skip ?_ ?_; focus (first | omega | (simp; done))) | with_reducible refine S2m.store ?_ | with_reducible refine S2m.set0 ?_ _ | with_reducible refine S2m.set1 ?_ _ | with_reducible refine S2m.new (by first | rfl | (simp; done) | with_unfolding_all rfl) (by with_unfolding_all rfl) (by with_unfolding_all rfl) | with_reducible refine S2m.alloc ?_ _ | exact S2m.any (by with_reducible assumption) | with_reducible refine S2mAny.drew ?_ | with_reducible refine S2mAny.drewN ?_ _ | (with_reducible refine S2mAny.skip ?_ ?_; focus (first | omega | (simp; done))) | with_reducible refine S2mAny.alloc ?_ _), by repeat (first | with_reducible assumption | with_reducible refine S2m.drew ?_ | with_reducible refine S2m.drewN ?_ _ | (with_reducible refine S2m.skip ?_ ?_; focus (first | omega | (simp; done))) | with_reducible refine S2m.store ?_ | with_reducible refine S2m.set0 ?_ _ | with_reducible refine S2m.set1 ?_ _ | with_reducible refine S2m.new (by first | rfl | (simp; done) | with_unfolding_all rfl) (by with_unfolding_all rfl) (by with_unfolding_all rfl) | with_reducible refine S2m.alloc ?_ _ | exact S2m.any (by with_reducible assumption) | with_reducible refine S2mAny.drew ?_ | with_reducible refine S2mAny.drewN ?_ _ | (with_reducible refine S2mAny.skip ?_ ?_; focus (first | omega | (simp; done))) | with_reducible refine S2mAny.alloc ?_ _)⟩ ?_; have qSA := SA.lt; have qw := EX.more; clear SAc0 SAc1 SAfz SAlt; clear EX SA; rintro v1 ⟨EX, SA, SN⟩; obtain ⟨b1, hb1⟩ : ∃ b, v.heap.size = b := ⟨_, rfl⟩; rw [hb1] at qSA qw SN ⊢; clear hb1; clear v; rename World => v; have SAc0 := SA.c0; have SAc1 := SA.c1; have SAfz := SA.fz; have SAlt := SA.lt; have SNc0 := SN.c0; have SNc1 := SN.c1; have SNfz := SN.fz; have SNlt := SN.lt
  go_wp2
  go_ret2
  exact ⟨rfl, EX⟩
theorem raw_zero (v0 b l : Int) (h1 : 1 ≤ b) (h2 : b ≤ 32) (w : World) : Calls Try.prog 10 #[.int .i32 v0, .int .i64 b, .agg #[.int .i32 l, .int .i32 l]] w fun e w' => e = .returned (.tuple #[.int .u32 0, .int .i64 12]) ∧ Ext w w' := by
  have EX := Ext.refl w
  obtain ⟨g1, g2⟩ := gg_in h1 h2
  have hm : mayb 0 b = true := mayb_is h1 h2 (by omega)
  have NO := fun w => number_good 0 b (by omega) hm w
  clear hm h1 h2 g1 g2
  go_enter Try.func10, Try.ntmps10
  go_upto_region 1 with fail
  refine rebase (G := fun w' => Code.wp _ _ _ _ w') _ (fun v1 => Ext w v1 ∧ S2m v1 (w.heap.size) (.int .i32 l) (.int .i32 l)) ⟨by repeat (first | with_reducible exact EX | with_reducible refine Ext.alloc ?_ _ | with_reducible refine Ext.drew ?_ | with_reducible refine Ext.drewN ?_ _ | with_reducible refine Ext.setCell ?_ (by first | (simp; done) | omega | (dsimp only; omega)) _), by repeat (first | with_reducible assumption | with_reducible refine S2m.drew ?_ | with_reducible refine S2m.drewN ?_ _ | (with_reducible refine S2m.skip ?_ ?_; focus (first | omega | (simp; done))) | with_reducible refine S2m.store ?_ | with_reducible refine S2m.set0 ?_ _ | with_reducible refine S2m.set1 ?_ _ | with_reducible refine S2m.new (by first | rfl | (simp; done) | with_unfolding_all rfl) (by with_unfolding_all rfl) (by with_unfolding_all rfl) | with_reducible refine S2m.alloc ?_ _ | exact S2m.any (by with_reducible assumption) | with_reducible refine S2mAny.drew ?_ | with_reducible refine S2mAny.drewN ?_ _ | (with_reducible refine S2mAny.skip ?_ ?_; focus (first | omega | (simp; done))) | with_reducible refine S2mAny.alloc ?_ _)⟩ ?_; clear EX ; rintro v1 ⟨EX, SA⟩; rename World => v; have SAc0 := SA.c0; have SAc1 := SA.c1; have SAfz := SA.fz; have SAlt := SA.lt
  go_upto_region 2 with (first | (go_at_call 21; with_reducible refine (NO _).mono ?_; rintro e v1 ⟨rfl, hb⟩; replace EX := Ext.trans EX hb; replace SA := SA.later hb; replace SAc0 := SA.c0; replace SAc1 := SA.c1; replace SAfz := SA.fz; replace SAlt := SA.lt; clear hb v; rename World => v))
  refine rebase (G := fun w' => Code.wp _ _ _ _ w') _ (fun v1 => Ext w v1 ∧ S2m v1 (w.heap.size) (.int .i32 l) (.int .i32 l) ∧ S2m v1 (v.heap.size) (.int .u32 0) (.int .i64 b)) ⟨by repeat (first | with_reducible exact EX | with_reducible refine Ext.alloc ?_ _ | with_reducible refine Ext.drew ?_ | with_reducible refine Ext.drewN ?_ _ | with_reducible refine Ext.setCell ?_ (by first | (simp; done) | omega | (dsimp only; omega)) _), by repeat (first | with_reducible assumption | with_reducible refine S2m.drew ?_ | with_reducible refine S2m.drewN ?_ _ | (with_reducible refine S2m.skip ?_ ?_; focus (first | omega | (simp; done))) | with_reducible refine S2m.store ?_ | with_reducible refine S2m.set0 ?_ _ | with_reducible refine S2m.set1 ?_ _ | with_reducible refine S2m.new (by first | rfl | (simp; done) | with_unfolding_all rfl) (by with_unfolding_all rfl) (by with_unfolding_all rfl) | with_reducible refine S2m.alloc ?_ _ | exact S2m.any (by with_reducible assumption) | with_reducible refine S2mAny.drew ?_ | with_reducible refine S2mAny.drewN ?_ _ | (with_reducible refine S2mAny.skip ?_ ?_; focus (first | omega | (simp; done))) | with_reducible refine S2mAny.alloc ?_ _), by repeat (first | with_reducible assumption | with_reducible refine S2m.drew ?_ | with_reducible refine S2m.drewN ?_ _ | (with_reducible refine S2m.skip ?_ ?_; focus (first | omega | (simp; done))) | with_reducible refine S2m.store ?_ | with_reducible refine S2m.set0 ?_ _ | with_reducible refine S2m.set1 ?_ _ | with_reducible refine S2m.new (by first | rfl | (simp; done) | with_unfolding_all rfl) (by with_unfolding_all rfl) (by with_unfolding_all rfl) | with_reducible refine S2m.alloc ?_ _ | exact S2m.any (by with_reducible assumption) | with_reducible refine S2mAny.drew ?_ | with_reducible refine S2mAny.drewN ?_ _ | (with_reducible refine S2mAny.skip ?_ ?_; focus (first | omega | (simp; done))) | with_reducible refine S2mAny.alloc ?_ _)⟩ ?_; have qSA := SA.lt; have qw := EX.more; clear SAc0 SAc1 SAfz SAlt; clear EX SA; rintro v1 ⟨EX, SA, SN⟩; obtain ⟨b1, hb1⟩ : ∃ b, v.heap.size = b := ⟨_, rfl⟩; rw [hb1] at qSA qw SN ⊢; clear hb1; clear v; rename World => v; have SAc0 := SA.c0; have SAc1 := SA.c1; have SAfz := SA.fz; have SAlt := SA.lt; have SNc0 := SN.c0; have SNc1 := SN.c1; have SNfz := SN.fz; have SNlt := SN.lt
  go_wp2
  go_ret2
  exact ⟨rfl, EX⟩
/-- The nearest fix of a ratio, held; nothing where it is by nought or less. -/
def dnear (a d : Int) : Int := if d < 1 then 0 else held (nr a d)
theorem dnear_arg (a d : Int) (hd : d < 1) (w : World) : Calls Try.prog 12 #[.agg #[.int .i64 (hi a), .int .u64 (lo a), .int .i64 d]] w fun e w' => e = .returned (.int .i32 0) ∧ Ext w w' := by
  have EX := Ext.refl w
  have NE := fun w => near_arg a d hd w
  clear hd
  go_enter Try.func12, Try.ntmps12
  go_upto_region 1 with fail
  refine rebase (G := fun w' => Code.wp _ _ _ _ w') _ (fun v1 => Ext w v1 ∧ S3m v1 (w.heap.size) (.int .i64 (hi (a))) (.int .u64 (lo (a))) (.int .i64 d)) ⟨by repeat (first | with_reducible exact EX | with_reducible refine Ext.alloc ?_ _ | with_reducible refine Ext.drew ?_ | with_reducible refine Ext.drewN ?_ _ | with_reducible refine Ext.setCell ?_ (by first | (simp; done) | omega | (dsimp only; omega)) _), by repeat (first | with_reducible assumption | with_reducible refine S3m.drew ?_ | with_reducible refine S3m.drewN ?_ _ | (with_reducible refine S3m.skip ?_ ?_; focus (first | omega | (simp; done))) | with_reducible refine S3m.store ?_ | with_reducible refine S3m.set0 ?_ _ | with_reducible refine S3m.set1 ?_ _ | with_reducible refine S3m.set2 ?_ _ | with_reducible refine S3m.new (by first | rfl | (simp; done) | with_unfolding_all rfl) (by with_unfolding_all rfl) (by with_unfolding_all rfl) (by with_unfolding_all rfl) | with_reducible refine S3m.alloc ?_ _ | exact S3m.any (by with_reducible assumption) | with_reducible refine S3mAny.drew ?_ | with_reducible refine S3mAny.drewN ?_ _ | (with_reducible refine S3mAny.skip ?_ ?_; focus (first | omega | (simp; done))) | with_reducible refine S3mAny.alloc ?_ _)⟩ ?_; clear EX ; rintro v1 ⟨EX, SQ⟩; rename World => v; have SQc0 := SQ.c0; have SQc1 := SQ.c1; have SQc2 := SQ.c2; have SQfz := SQ.fz; have SQlt := SQ.lt
  go_wp2_with (first | (go_at_call 29; with_reducible refine (NE _).mono ?_; rintro e v1 ⟨rfl, hb⟩; replace EX := Ext.trans EX hb; replace SQ := SQ.later hb; replace SQc0 := SQ.c0; replace SQc1 := SQ.c1; replace SQc2 := SQ.c2; replace SQfz := SQ.fz; replace SQlt := SQ.lt; clear hb v; rename World => v))
  go_ret
  exact ⟨rfl, by repeat (first | with_reducible exact EX | with_reducible refine Ext.alloc ?_ _ | with_reducible refine Ext.drew ?_ | with_reducible refine Ext.drewN ?_ _ | with_reducible refine Ext.setCell ?_ (by first | (simp; done) | omega | (dsimp only; omega)) _)⟩
theorem dnear_walk (a d q k r s : Int) (ok : Bool) (hs : s = -1 ∨ s = 0 ∨ s = 1) (hr : (ok = true → r = held k) ∧ (ok = false → s = -1 → r = -2147483648) ∧ (ok = false → ¬ s = -1 → r = 2147483647)) (hk : In64 k)
    (NE : ∀ w, Calls Try.prog 29 #[(.agg #[.int .i64 (hi (a)), .int .u64 (lo (a))]), .int .i64 d] w fun e w' => e = .returned (.tuple #[(.agg #[.int .i64 (hi (q)), .int .u64 (lo (q))]), .int .i64 0]) ∧ Ext w w')
    (IT : ∀ w, Calls Try.prog 18 #[(.agg #[.int .i64 (hi (q)), .int .u64 (lo (q))])] w fun e w' => e = .returned (.tuple #[.int .i64 k, .bool ok]) ∧ Ext w w')
    (CM : ∀ w, Calls Try.prog 20 #[(.agg #[.int .i64 (hi (q)), .int .u64 (lo (q))]), .agg #[.int .i64 0, .int .u64 0]] w fun e w' => e = .returned (.int .i64 s) ∧ Ext w w')
    (w : World) : Calls Try.prog 12 #[.agg #[.int .i64 (hi a), .int .u64 (lo a), .int .i64 d]] w fun e w' => e = .returned (.int .i32 r) ∧ Ext w w' := by
  have EX := Ext.refl w
  have S1 := fun w => sat_any k hk w
  have S2 := fun w => sat_any (-9223372036854775808) ⟨by decide, by decide⟩ w
  have S3 := fun w => sat_any 9223372036854775807 ⟨by decide, by decide⟩ w
  rw [show held (-9223372036854775808) = -2147483648 by decide] at S2
  rw [show held 9223372036854775807 = 2147483647 by decide] at S3
  clear hk
  generalize held k = t at *
  cases ok
  · rcases hs with rfl | rfl | rfl
    all_goals
      first | (obtain rfl : r = -2147483648 := hr.2.1 rfl rfl) | (obtain rfl : r = 2147483647 := hr.2.2 rfl (by decide))
      clear hr
      go_enter Try.func12, Try.ntmps12
      go_upto_region 1 with fail
      refine rebase (G := fun w' => Code.wp _ _ _ _ w') _ (fun v1 => Ext w v1 ∧ S3m v1 (w.heap.size) (.int .i64 (hi (a))) (.int .u64 (lo (a))) (.int .i64 d)) ⟨by repeat (first | with_reducible exact EX | with_reducible refine Ext.alloc ?_ _ | with_reducible refine Ext.drew ?_ | with_reducible refine Ext.drewN ?_ _ | with_reducible refine Ext.setCell ?_ (by first | (simp; done) | omega | (dsimp only; omega)) _), by repeat (first | with_reducible assumption | with_reducible refine S3m.drew ?_ | with_reducible refine S3m.drewN ?_ _ | (with_reducible refine S3m.skip ?_ ?_; focus (first | omega | (simp; done))) | with_reducible refine S3m.store ?_ | with_reducible refine S3m.set0 ?_ _ | with_reducible refine S3m.set1 ?_ _ | with_reducible refine S3m.set2 ?_ _ | with_reducible refine S3m.new (by first | rfl | (simp; done) | with_unfolding_all rfl) (by with_unfolding_all rfl) (by with_unfolding_all rfl) (by with_unfolding_all rfl) | with_reducible refine S3m.alloc ?_ _ | exact S3m.any (by with_reducible assumption) | with_reducible refine S3mAny.drew ?_ | with_reducible refine S3mAny.drewN ?_ _ | (with_reducible refine S3mAny.skip ?_ ?_; focus (first | omega | (simp; done))) | with_reducible refine S3mAny.alloc ?_ _)⟩ ?_; clear EX ; rintro v1 ⟨EX, SQ⟩; rename World => v; have SQc0 := SQ.c0; have SQc1 := SQ.c1; have SQc2 := SQ.c2; have SQfz := SQ.fz; have SQlt := SQ.lt
      go_upto_region 2 with (first | (go_at_call 29; with_reducible refine (NE _).mono ?_; rintro e v1 ⟨rfl, hb⟩; replace EX := Ext.trans EX hb; replace SQ := SQ.later hb; replace SQc0 := SQ.c0; replace SQc1 := SQ.c1; replace SQc2 := SQ.c2; replace SQfz := SQ.fz; replace SQlt := SQ.lt; clear hb v; rename World => v))
      refine rebase (G := fun w' => Code.wp _ _ _ _ w') _ (fun v1 => Ext w v1 ∧ Wm v1 (v.heap.size) (hi q) (lo q)) ⟨by repeat (first | with_reducible exact EX | with_reducible refine Ext.alloc ?_ _ | with_reducible refine Ext.drew ?_ | with_reducible refine Ext.drewN ?_ _ | with_reducible refine Ext.setCell ?_ (by first | (simp; done) | omega | (dsimp only; omega)) _), by repeat (first | with_reducible assumption | with_reducible refine Wm.drew ?_ | with_reducible refine Wm.drewN ?_ _ | (with_reducible refine Wm.skip ?_ ?_; focus (first | omega | (simp; done))) | with_reducible refine Wm.store ?_ _ _ | with_reducible refine Wm.new (by first | rfl | (simp; done) | with_unfolding_all rfl) (by with_unfolding_all rfl) (by with_unfolding_all rfl) | with_reducible refine Wm.alloc ?_ _ | exact Wm.any (by with_reducible assumption) | with_reducible refine WmAny.drew ?_ | with_reducible refine WmAny.drewN ?_ _ | (with_reducible refine WmAny.skip ?_ ?_; focus (first | omega | (simp; done))) | with_reducible refine WmAny.alloc ?_ _)⟩ ?_; have qSQ := SQ.lt; have qw := EX.more; clear SQc0 SQc1 SQc2 SQfz SQlt; clear EX SQ; rintro v1 ⟨EX, WN⟩; obtain ⟨b3, hb3⟩ : ∃ b, v.heap.size = b := ⟨_, rfl⟩; rw [hb3] at qSQ qw WN ⊢; clear hb3; clear v; rename World => v; have WNhi := WN.hi; have WNlo := WN.lo; have WNfz := WN.fz; have WNlt := WN.lt
      go_wp2_with (first | (go_at_call 18; with_reducible refine (IT _).mono ?_; rintro e v1 ⟨rfl, hb⟩; replace EX := Ext.trans EX hb; replace WN := WN.later hb; replace WNhi := WN.hi; replace WNlo := WN.lo; replace WNfz := WN.fz; replace WNlt := WN.lt; clear hb v; rename World => v) | (go_at_call 20; with_reducible refine (CM _).mono ?_; rintro e v1 ⟨rfl, hb⟩; replace EX := Ext.trans EX hb; replace WN := WN.later hb; replace WNhi := WN.hi; replace WNlo := WN.lo; replace WNfz := WN.fz; replace WNlt := WN.lt; clear hb v; rename World => v) | (go_at_call 33; with_reducible refine (S2 _).mono ?_; rintro e v1 ⟨rfl, hb⟩; replace EX := Ext.trans EX hb; replace WN := WN.later hb; replace WNhi := WN.hi; replace WNlo := WN.lo; replace WNfz := WN.fz; replace WNlt := WN.lt; clear hb v; rename World => v) | (go_at_call 33; with_reducible refine (S3 _).mono ?_; rintro e v1 ⟨rfl, hb⟩; replace EX := Ext.trans EX hb; replace WN := WN.later hb; replace WNhi := WN.hi; replace WNlo := WN.lo; replace WNfz := WN.fz; replace WNlt := WN.lt; clear hb v; rename World => v))
      go_ret
      exact ⟨rfl, EX⟩
  · obtain rfl : r = t := hr.1 rfl
    clear hr
    go_enter Try.func12, Try.ntmps12
    go_upto_region 1 with fail
    refine rebase (G := fun w' => Code.wp _ _ _ _ w') _ (fun v1 => Ext w v1 ∧ S3m v1 (w.heap.size) (.int .i64 (hi (a))) (.int .u64 (lo (a))) (.int .i64 d)) ⟨by repeat (first | with_reducible exact EX | with_reducible refine Ext.alloc ?_ _ | with_reducible refine Ext.drew ?_ | with_reducible refine Ext.drewN ?_ _ | with_reducible refine Ext.setCell ?_ (by first | (simp; done) | omega | (dsimp only; omega)) _), by repeat (first | with_reducible assumption | with_reducible refine S3m.drew ?_ | with_reducible refine S3m.drewN ?_ _ | (with_reducible refine S3m.skip ?_ ?_; focus (first | omega | (simp; done))) | with_reducible refine S3m.store ?_ | with_reducible refine S3m.set0 ?_ _ | with_reducible refine S3m.set1 ?_ _ | with_reducible refine S3m.set2 ?_ _ | with_reducible refine S3m.new (by first | rfl | (simp; done) | with_unfolding_all rfl) (by with_unfolding_all rfl) (by with_unfolding_all rfl) (by with_unfolding_all rfl) | with_reducible refine S3m.alloc ?_ _ | exact S3m.any (by with_reducible assumption) | with_reducible refine S3mAny.drew ?_ | with_reducible refine S3mAny.drewN ?_ _ | (with_reducible refine S3mAny.skip ?_ ?_; focus (first | omega | (simp; done))) | with_reducible refine S3mAny.alloc ?_ _)⟩ ?_; clear EX ; rintro v1 ⟨EX, SQ⟩; rename World => v; have SQc0 := SQ.c0; have SQc1 := SQ.c1; have SQc2 := SQ.c2; have SQfz := SQ.fz; have SQlt := SQ.lt
    go_upto_region 2 with (first | (go_at_call 29; with_reducible refine (NE _).mono ?_; rintro e v1 ⟨rfl, hb⟩; replace EX := Ext.trans EX hb; replace SQ := SQ.later hb; replace SQc0 := SQ.c0; replace SQc1 := SQ.c1; replace SQc2 := SQ.c2; replace SQfz := SQ.fz; replace SQlt := SQ.lt; clear hb v; rename World => v))
    refine rebase (G := fun w' => Code.wp _ _ _ _ w') _ (fun v1 => Ext w v1 ∧ Wm v1 (v.heap.size) (hi q) (lo q)) ⟨by repeat (first | with_reducible exact EX | with_reducible refine Ext.alloc ?_ _ | with_reducible refine Ext.drew ?_ | with_reducible refine Ext.drewN ?_ _ | with_reducible refine Ext.setCell ?_ (by first | (simp; done) | omega | (dsimp only; omega)) _), by repeat (first | with_reducible assumption | with_reducible refine Wm.drew ?_ | with_reducible refine Wm.drewN ?_ _ | (with_reducible refine Wm.skip ?_ ?_; focus (first | omega | (simp; done))) | with_reducible refine Wm.store ?_ _ _ | with_reducible refine Wm.new (by first | rfl | (simp; done) | with_unfolding_all rfl) (by with_unfolding_all rfl) (by with_unfolding_all rfl) | with_reducible refine Wm.alloc ?_ _ | exact Wm.any (by with_reducible assumption) | with_reducible refine WmAny.drew ?_ | with_reducible refine WmAny.drewN ?_ _ | (with_reducible refine WmAny.skip ?_ ?_; focus (first | omega | (simp; done))) | with_reducible refine WmAny.alloc ?_ _)⟩ ?_; have qSQ := SQ.lt; have qw := EX.more; clear SQc0 SQc1 SQc2 SQfz SQlt; clear EX SQ; rintro v1 ⟨EX, WN⟩; obtain ⟨b3, hb3⟩ : ∃ b, v.heap.size = b := ⟨_, rfl⟩; rw [hb3] at qSQ qw WN ⊢; clear hb3; clear v; rename World => v; have WNhi := WN.hi; have WNlo := WN.lo; have WNfz := WN.fz; have WNlt := WN.lt
    go_wp2_with (first | (go_at_call 18; with_reducible refine (IT _).mono ?_; rintro e v1 ⟨rfl, hb⟩; replace EX := Ext.trans EX hb; replace WN := WN.later hb; replace WNhi := WN.hi; replace WNlo := WN.lo; replace WNfz := WN.fz; replace WNlt := WN.lt; clear hb v; rename World => v) | (go_at_call 33; with_reducible refine (S1 _).mono ?_; rintro e v1 ⟨rfl, hb⟩; replace EX := Ext.trans EX hb; replace WN := WN.later hb; replace WNhi := WN.hi; replace WNlo := WN.lo; replace WNfz := WN.fz; replace WNlt := WN.lt; clear hb v; rename World => v))
    go_ret
    exact ⟨rfl, EX⟩
theorem dnear_any (a d : Int) (ha : InW a) (hd' : In64 d) (w : World) : Calls Try.prog 12 #[.agg #[.int .i64 (hi a), .int .u64 (lo a), .int .i64 d]] w fun e w' => e = .returned (.int .i32 (dnear a d)) ∧ Ext w w' := by
  unfold dnear
  by_cases hd : d < 1
  · rw [if_pos hd]; exact dnear_arg a d hd w
  · rw [if_neg hd]
    have hw : ∀ x : Int, wrap64 x = x → In64 x := fun x h => by simp [wrap64] at h; unfold In64; omega
    refine dnear_walk a d (nr a d) (if wrap64 (nr a d) = nr a d then nr a d else 0) _ (sgn (nr a d) 0) (decide (wrap64 (nr a d) = nr a d)) ?_ ⟨?_, ?_, ?_⟩ ?_ (fun w => near_any a d ha (by omega) hd' w) (fun w => int_any _ w) (fun w => cmp_any (nr a d) 0 w) w
    · unfold sgn; split <;> (try split) <;> simp
    · intro h; rw [if_pos (of_decide_eq_true h)]
    · intro h k
      have := of_decide_eq_false h
      have n1 : ¬ In64 (nr a d) := fun h => this (wrap_in64 h)
      have n2 : nr a d < 0 := by unfold sgn at k; split at k <;> (try split at k) <;> omega
      unfold held; unfold In64 at n1; rw [if_pos (by omega)]
    · intro h k
      have := of_decide_eq_false h
      have n1 : ¬ In64 (nr a d) := fun h => this (wrap_in64 h)
      have n2 : 0 ≤ nr a d := by unfold sgn at k; split at k <;> (try split at k) <;> omega
      unfold held; unfold In64 at n1; rw [if_neg (by omega), if_pos (by omega)]
    · split
      · exact hw _ ‹_›
      · unfold In64; omega
end Go.Proofs.Ythmgilikokcibaa
