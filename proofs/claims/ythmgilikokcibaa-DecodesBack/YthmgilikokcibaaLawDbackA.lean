/- A walk of the given function DecodesBack, where the range is no wider than the greatest number: it returns true at every number of any bits, every range and every fix. -/
import Derived.Test.YthmgilikokcibaaDecD
import Derived.Test.YthmgilikokcibaaDecE
namespace Go.Proofs.Ythmgilikokcibaa
open Go.RowKit Go.BigFrame
set_option linter.unusedSimpArgs false
set_option linter.unusedVariables false


set_option maxRecDepth 20000 in
set_option maxHeartbeats 8000000 in
theorem dback_narrow (r b l h v0 g n y y' : Int) (hrg : ¬ g < r) (hne : (l == h) = false) (wl : wrap64 l = l) (wh : wrap64 h = h) (wg : wrap64 g = g) (wy : wrap64 (h - l) = y) (wy' : wrap64 (-y) = y')
    (hc : (l < h ∧ v0 ≤ l ∧ n = 0) ∨ (l < h ∧ h ≤ v0 ∧ g = n) ∨ (l < h ∧ l < v0 ∧ v0 < h ∧ n ≤ g) ∨ (h < l ∧ l ≤ v0 ∧ n = 0) ∨ (h < l ∧ v0 ≤ h ∧ g = n) ∨ (h < l ∧ h < v0 ∧ v0 < l ∧ n ≤ g)) (h0 : 0 ≤ g) (hm : max y y' ≤ g)
    (GT : ∀ w, Calls Try.prog 15 #[.int .i64 b] w fun e w' => e = .returned (.tuple #[.int .u32 g, .bool true]) ∧ Ext w w')
    (R1 : ∀ w, Calls Try.prog 10 #[.int .i32 l, .int .i64 b, .agg #[.int .i32 l, .int .i32 h]] w fun e w' => e = .returned (.tuple #[.int .u32 0, .int .i64 0]) ∧ Ext w w')
    (R2 : ∀ w, Calls Try.prog 10 #[.int .i32 h, .int .i64 b, .agg #[.int .i32 l, .int .i32 h]] w fun e w' => e = .returned (.tuple #[.int .u32 g, .int .i64 0]) ∧ Ext w w')
    (R3 : ∀ w, Calls Try.prog 10 #[.int .i32 v0, .int .i64 b, .agg #[.int .i32 l, .int .i32 h]] w fun e w' => e = .returned (.tuple #[.int .u32 n, .int .i64 0]) ∧ Ext w w')
    (w : World) : Calls Try.prog 6 #[.agg #[.int .u32 r, .int .i64 b, .int .i32 l, .int .i32 h, .int .i32 v0]] w fun e w' => e = .returned (.bool true) ∧ Ext w w' := by
  have EX := Ext.refl w
  have LV := fun w => lives_any w
  rcases hc with ⟨c1, c2, rfl⟩ | ⟨c1, c2, rfl⟩ | ⟨c1, c2, c3, c4⟩ | ⟨c1, c2, rfl⟩ | ⟨c1, c2, rfl⟩ | ⟨c1, c2, c3, c4⟩
  all_goals
    go_enter Try.func6, Try.ntmps6
    go_upto_region 1 with fail
  all_goals refine rebase (G := fun w' => Code.wp _ _ _ _ w') _ (fun v1 => Ext w v1 ∧ S5m v1 (w.heap.size) (.int .u32 r) (.int .i64 b) (.int .i32 l) (.int .i32 h) (.int .i32 v0)) ⟨by repeat (first | with_reducible exact EX | with_reducible refine Ext.alloc ?_ _ | with_reducible refine Ext.drew ?_ | with_reducible refine Ext.drewN ?_ _ | with_reducible refine Ext.setCell ?_ (by first | (simp; done) | omega | (dsimp only; omega)) _), by repeat (first | with_reducible assumption | with_reducible refine S5m.drew ?_ | with_reducible refine S5m.drewN ?_ _ | (with_reducible refine S5m.skip ?_ ?_; focus (first | omega | (simp; done))) | with_reducible refine S5m.store ?_ | with_reducible refine S5m.set0 ?_ _ | with_reducible refine S5m.set1 ?_ _ | with_reducible refine S5m.set2 ?_ _ | with_reducible refine S5m.set3 ?_ _ | with_reducible refine S5m.set4 ?_ _ | with_reducible refine S5m.new (by first | rfl | (simp; done) | with_unfolding_all rfl) (by with_unfolding_all rfl) (by with_unfolding_all rfl) (by with_unfolding_all rfl) (by with_unfolding_all rfl) (by with_unfolding_all rfl) | with_reducible refine S5m.alloc ?_ _ | exact S5m.any (by with_reducible assumption) | with_reducible refine S5mAny.drew ?_ | with_reducible refine S5mAny.drewN ?_ _ | (with_reducible refine S5mAny.skip ?_ ?_; focus (first | omega | (simp; done))) | with_reducible refine S5mAny.alloc ?_ _)⟩ ?_; clear EX ; rintro v1 ⟨EX, SZ⟩; rename World => v; have SZc0 := SZ.c0; have SZc1 := SZ.c1; have SZc2 := SZ.c2; have SZc3 := SZ.c3; have SZc4 := SZ.c4; have SZfz := SZ.fz; have SZlt := SZ.lt
  all_goals
    go_upto_region 14 with (first | (go_at_call 15; with_reducible refine (GT _).mono ?_; rintro e v1 ⟨rfl, hb⟩; replace EX := Ext.trans EX hb; replace SZ := SZ.later hb; replace SZc0 := SZ.c0; replace SZc1 := SZ.c1; replace SZc2 := SZ.c2; replace SZc3 := SZ.c3; replace SZc4 := SZ.c4; replace SZfz := SZ.fz; replace SZlt := SZ.lt; clear hb v; rename World => v) | (go_at_call 10; with_reducible refine (R1 _).mono ?_; rintro e v1 ⟨rfl, hb⟩; replace EX := Ext.trans EX hb; replace SZ := SZ.later hb; replace SZc0 := SZ.c0; replace SZc1 := SZ.c1; replace SZc2 := SZ.c2; replace SZc3 := SZ.c3; replace SZc4 := SZ.c4; replace SZfz := SZ.fz; replace SZlt := SZ.lt; clear hb v; rename World => v) | (go_at_call 10; with_reducible refine (R2 _).mono ?_; rintro e v1 ⟨rfl, hb⟩; replace EX := Ext.trans EX hb; replace SZ := SZ.later hb; replace SZc0 := SZ.c0; replace SZc1 := SZ.c1; replace SZc2 := SZ.c2; replace SZc3 := SZ.c3; replace SZc4 := SZ.c4; replace SZfz := SZ.fz; replace SZlt := SZ.lt; clear hb v; rename World => v) | (go_at_call 10; with_reducible refine (R3 _).mono ?_; rintro e v1 ⟨rfl, hb⟩; replace EX := Ext.trans EX hb; replace SZ := SZ.later hb; replace SZc0 := SZ.c0; replace SZc1 := SZ.c1; replace SZc2 := SZ.c2; replace SZc3 := SZ.c3; replace SZc4 := SZ.c4; replace SZfz := SZ.fz; replace SZlt := SZ.lt; clear hb v; rename World => v))
  all_goals first | (exfalso; omega) | skip
  all_goals
    go_wp2_with (first | (go_at_call 14; with_reducible refine (LV _).mono ?_; rintro e v1 ⟨rfl, hb⟩; replace EX := Ext.trans EX hb; replace SZ := SZ.later hb; replace SZc0 := SZ.c0; replace SZc1 := SZ.c1; replace SZc2 := SZ.c2; replace SZc3 := SZ.c3; replace SZc4 := SZ.c4; replace SZfz := SZ.fz; replace SZlt := SZ.lt; clear hb v; rename World => v))
    go_ret
    exact ⟨rfl, EX⟩
end Go.Proofs.Ythmgilikokcibaa
