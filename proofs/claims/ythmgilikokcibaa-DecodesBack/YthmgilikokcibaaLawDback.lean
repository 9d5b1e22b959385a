/- The walk of the given function DecodesBack: it returns true at every number of any bits, every range and every fix. -/
import Derived.Test.YthmgilikokcibaaLawDbackA
import Derived.Test.YthmgilikokcibaaLawDbackB
import Derived.Test.YthmgilikokcibaaDecE
namespace Go.Proofs.Ythmgilikokcibaa
open Go.RowKit Go.BigFrame
set_option linter.unusedSimpArgs false
set_option linter.unusedVariables false


set_option maxRecDepth 20000 in
theorem dback_none (r b l h v0 g : Int) (is : Bool) (hn : is = false ∨ g < r ∨ l = h) (GT : ∀ w, Calls Try.prog 15 #[.int .i64 b] w fun e w' => e = .returned (.tuple #[.int .u32 g, .bool is]) ∧ Ext w w') (w : World) :
    Calls Try.prog 6 #[.agg #[.int .u32 r, .int .i64 b, .int .i32 l, .int .i32 h, .int .i32 v0]] w fun e w' => e = .returned (.bool true) ∧ Ext w w' := by
  have EX := Ext.refl w
  have LV := fun w => lives_any w
  rcases (show is = false ∨ (is = true ∧ g < r) ∨ (is = true ∧ ¬ g < r ∧ l = h) by cases is <;> simp at hn ⊢; omega) with rfl | ⟨rfl, k⟩ | ⟨rfl, k, rfl⟩
  all_goals
    go_enter Try.func6, Try.ntmps6
    go_upto_region 1 with fail
  iterate 2
    focus
      refine rebase (G := fun w' => Code.wp _ _ _ _ w') _ (fun v1 => Ext w v1 ∧ S5m v1 (w.heap.size) (.int .u32 r) (.int .i64 b) (.int .i32 l) (.int .i32 h) (.int .i32 v0)) ⟨by repeat (first | with_reducible exact EX | with_reducible refine Ext.alloc ?_ _ | with_reducible refine Ext.drew ?_ | with_reducible refine Ext.drewN ?_ _ | with_reducible refine Ext.setCell ?_ (by first | (simp; done) | omega | (dsimp only; omega)) _), by repeat (first | with_reducible assumption | with_reducible refine S5m.drew ?_ | with_reducible refine S5m.drewN ?_ _ | (with_reducible refine S5m.skip ?_ ?_; focus (first | omega | (simp; done))) | with_reducible refine S5m.store ?_ | with_reducible refine S5m.set0 ?_ _ | with_reducible refine S5m.set1 ?_ _ | with_reducible refine S5m.set2 ?_ _ | with_reducible refine S5m.set3 ?_ _ | with_reducible refine S5m.set4 ?_ _ | with_reducible refine S5m.new (by first | rfl | (simp; done) | with_unfolding_all rfl) (by with_unfolding_all rfl) (by with_unfolding_all rfl) (by with_unfolding_all rfl) (by with_unfolding_all rfl) (by with_unfolding_all rfl) | with_reducible refine S5m.alloc ?_ _ | exact S5m.any (by with_reducible assumption) | with_reducible refine S5mAny.drew ?_ | with_reducible refine S5mAny.drewN ?_ _ | (with_reducible refine S5mAny.skip ?_ ?_; focus (first | omega | (simp; done))) | with_reducible refine S5mAny.alloc ?_ _)⟩ ?_; clear EX ; rintro v1 ⟨EX, SZ⟩; rename World => v; have SZc0 := SZ.c0; have SZc1 := SZ.c1; have SZc2 := SZ.c2; have SZc3 := SZ.c3; have SZc4 := SZ.c4; have SZfz := SZ.fz; have SZlt := SZ.lt
      go_wp2_with (first | (go_at_call 15; with_reducible refine (GT _).mono ?_; rintro e v1 ⟨rfl, hb⟩; replace EX := Ext.trans EX hb; replace SZ := SZ.later hb; replace SZc0 := SZ.c0; replace SZc1 := SZ.c1; replace SZc2 := SZ.c2; replace SZc3 := SZ.c3; replace SZc4 := SZ.c4; replace SZfz := SZ.fz; replace SZlt := SZ.lt; clear hb v; rename World => v) | (go_at_call 14; with_reducible refine (LV _).mono ?_; rintro e v1 ⟨rfl, hb⟩; replace EX := Ext.trans EX hb; replace SZ := SZ.later hb; replace SZc0 := SZ.c0; replace SZc1 := SZ.c1; replace SZc2 := SZ.c2; replace SZc3 := SZ.c3; replace SZc4 := SZ.c4; replace SZfz := SZ.fz; replace SZlt := SZ.lt; clear hb v; rename World => v))
      go_ret
      exact ⟨rfl, EX⟩
  refine rebase (G := fun w' => Code.wp _ _ _ _ w') _ (fun v1 => Ext w v1 ∧ S5m v1 (w.heap.size) (.int .u32 r) (.int .i64 b) (.int .i32 l) (.int .i32 l) (.int .i32 v0)) ⟨by repeat (first | with_reducible exact EX | with_reducible refine Ext.alloc ?_ _ | with_reducible refine Ext.drew ?_ | with_reducible refine Ext.drewN ?_ _ | with_reducible refine Ext.setCell ?_ (by first | (simp; done) | omega | (dsimp only; omega)) _), by repeat (first | with_reducible assumption | with_reducible refine S5m.drew ?_ | with_reducible refine S5m.drewN ?_ _ | (with_reducible refine S5m.skip ?_ ?_; focus (first | omega | (simp; done))) | with_reducible refine S5m.store ?_ | with_reducible refine S5m.set0 ?_ _ | with_reducible refine S5m.set1 ?_ _ | with_reducible refine S5m.set2 ?_ _ | with_reducible refine S5m.set3 ?_ _ | with_reducible refine S5m.set4 ?_ _ | with_reducible refine S5m.new (by first | rfl | (simp; done) | with_unfolding_all rfl) (by with_unfolding_all rfl) (by with_unfolding_all rfl) (by with_unfolding_all rfl) (by with_unfolding_all rfl) (by with_unfolding_all rfl) | with_reducible refine S5m.alloc ?_ _ | exact S5m.any (by with_reducible assumption) | with_reducible refine S5mAny.drew ?_ | with_reducible refine S5mAny.drewN ?_ _ | (with_reducible refine S5mAny.skip ?_ ?_; focus (first | omega | (simp; done))) | with_reducible refine S5mAny.alloc ?_ _)⟩ ?_; clear EX ; rintro v1 ⟨EX, SZ⟩; rename World => v; have SZc0 := SZ.c0; have SZc1 := SZ.c1; have SZc2 := SZ.c2; have SZc3 := SZ.c3; have SZc4 := SZ.c4; have SZfz := SZ.fz; have SZlt := SZ.lt
  go_wp2_with (first | (go_at_call 15; with_reducible refine (GT _).mono ?_; rintro e v1 ⟨rfl, hb⟩; replace EX := Ext.trans EX hb; replace SZ := SZ.later hb; replace SZc0 := SZ.c0; replace SZc1 := SZ.c1; replace SZc2 := SZ.c2; replace SZc3 := SZ.c3; replace SZc4 := SZ.c4; replace SZfz := SZ.fz; replace SZlt := SZ.lt; clear hb v; rename World => v) | (go_at_call 14; with_reducible refine (LV _).mono ?_; rintro e v1 ⟨rfl, hb⟩; replace EX := Ext.trans EX hb; replace SZ := SZ.later hb; replace SZc0 := SZ.c0; replace SZc1 := SZ.c1; replace SZc2 := SZ.c2; replace SZc3 := SZ.c3; replace SZc4 := SZ.c4; replace SZfz := SZ.fz; replace SZlt := SZ.lt; clear hb v; rename World => v))
  go_ret
  exact ⟨rfl, EX⟩
theorem dback_law (r b l h v0 : Int) (hr : 0 ≤ r ∧ r < 4294967296) (hl : In32 l) (hh : In32 h) (hv : In32 v0) (w : World) :
    Calls Try.prog 6 #[.agg #[.int .u32 r, .int .i64 b, .int .i32 l, .int .i32 h, .int .i32 v0]] w fun e w' => e = .returned (.bool true) ∧ Ext w w' := by
  by_cases hb : 1 ≤ b ∧ b ≤ 32
  · by_cases hg : gg b < r ∨ l = h
    · exact dback_none r b l h v0 (gg b) true (.inr hg) (fun w => greatest_some b hb.1 hb.2 w) w
    · obtain ⟨g1, g2⟩ := gg_in hb.1 hb.2
      have hne : ¬ l = h := fun e => hg (.inr e)
      have hrg : ¬ gg b < r := fun e => hg (.inl e)
      have VA := fun w => value_any r b l h hr (mayb_is hb.1 hb.2 (by omega)) hl hh w
      have RW := fun v (hv : In32 v) w => raw_any v b l h hv hb.1 hb.2 hl hh hne w
      have G := fun w => greatest_some b hb.1 hb.2 w
      generalize gg b = g at *
      have k2 : In64 g := by unfold In64; omega
      have hy : In64 (h - l) := by unfold In64 In32 at *; omega
      have hy' : In64 (-(h - l)) := by unfold In64 In32 at *; omega
      have R1 := RW l hl
      rw [draw_low (by omega) (show l < h ∧ l ≤ l ∨ h < l ∧ l ≤ l by omega)] at R1
      have R2 := RW h hh
      rw [draw_high (by omega) (show l < h ∧ h ≤ h ∨ h < l ∧ h ≤ h by omega)] at R2
      have R3 := RW v0 hv
      have D := draw_in v0 l h (g := g) (by omega)
      have D0 : (l < h ∧ v0 ≤ l ∨ h < l ∧ l ≤ v0) → draw v0 l h g = 0 := draw_low (by omega)
      have D1 : (l < h ∧ h ≤ v0 ∨ h < l ∧ v0 ≤ h) → draw v0 l h g = g := draw_high (by omega)
      generalize hN : draw v0 l h g = n at *
      have hc : (l < h ∧ v0 ≤ l ∧ n = 0) ∨ (l < h ∧ h ≤ v0 ∧ g = n) ∨ (l < h ∧ l < v0 ∧ v0 < h ∧ n ≤ g) ∨ (h < l ∧ l ≤ v0 ∧ n = 0) ∨ (h < l ∧ v0 ≤ h ∧ g = n) ∨ (h < l ∧ h < v0 ∧ v0 < l ∧ n ≤ g) := by omega
      by_cases hm : max (h - l) (-(h - l)) ≤ g
      · exact dback_narrow r b l h v0 g n (h - l) (-(h - l)) hrg (by simpa using hne) (wrap_in64 (in32_64 hl)) (wrap_in64 (in32_64 hh)) (wrap_in64 k2) (wrap_in64 hy) (wrap_in64 hy') hc (by omega) hm G R1 R2 R3 w
      · have hx : In32 (nr (dval l h g r) g) := near_in hl hh (by omega) (by omega) (by omega)
        have A3 := dnear_at hl hh (show 0 < g by omega) hr.1 (show r ≤ g by omega)
        have W3 := dval_W hl hh (show 0 ≤ g ∧ g < 4294967296 by omega) hr
        have R4 := RW _ hx
        rw [draw_back (by omega) hr.1 (by omega) (by omega)] at R4
        have N3 := fun w => dnear_any _ g W3 k2 w
        rw [A3] at N3
        exact dback_wide r b l h v0 g n _ _ (h - l) (-(h - l)) hrg (by simpa using hne) (wrap_in64 (in32_64 hl)) (wrap_in64 (in32_64 hh)) (wrap_in64 k2) (wrap_in64 hy) (wrap_in64 hy') hc (by omega) hm G R1 R2 R3 VA N3 R4 w
  · exact dback_none r b l h v0 0 false (.inl rfl) (fun w => greatest_none b (by omega) w) w
end Go.Proofs.Ythmgilikokcibaa
