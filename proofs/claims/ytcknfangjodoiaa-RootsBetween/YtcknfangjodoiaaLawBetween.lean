/- The walk of the given function RootsBetween: it returns true at every whole number and every wide. -/
import Derived.Test.YtcknfangjodoiaaLawRise
namespace Go.Proofs.Ytcknfangjodoiaa
open Go.RowKit Go.BigFrame
set_option linter.unusedSimpArgs false
set_option linter.unusedVariables false

set_option maxHeartbeats 8000000 in
theorem between_neg (n X q h l : Int) (n0 : 0 ≤ n) (n1 : n < 18446744073709551616) (X0 : 0 ≤ X) (X1 : X ≤ 4294967295) (hq : IntKind.u64.wrap (X * X) = q) (q0 : 0 ≤ q) (q1 : q ≤ n) (q2 : decide (2 * X < n - q) = false) (hh : h < 0)
    (R1 : ∀ w, Calls Try.prog 13 #[.int .u64 n] w fun e w' => e = .returned (.int .u64 X) ∧ Ext w w')
    (W1 : ∀ w, Calls Try.prog 9 #[.agg #[.int .i64 h, .int .u64 l]] w fun e w' => e = .returned (.tuple #[.int .u64 0, .int .i64 1]) ∧ Ext w w') (w : World) :
    Calls Try.prog 4 #[.int .u64 n, .agg #[.int .i64 h, .int .u64 l]] w fun e w' => e = .returned (.bool true) ∧ Ext w w' := by
  have EX := Ext.refl w
  have LV := lives_any
  go_enter Try.func4, Try.ntmps4
  go_upto_region 1 with fail
  refine rebase (G := fun w' => Code.wp _ _ _ _ w') _ (fun v1 => Ext w v1 ∧ Wm v1 (w.heap.size) (h) (l)) ⟨by repeat (first | with_reducible exact EX | with_reducible refine Ext.alloc ?_ _ | with_reducible refine Ext.drew ?_ | with_reducible refine Ext.drewN ?_ _ | with_reducible refine Ext.setCell ?_ (by first | (simp; done) | omega | (dsimp only; omega)) _), by repeat (first | with_reducible assumption | with_reducible refine Wm.drew ?_ | with_reducible refine Wm.drewN ?_ _ | (with_reducible refine Wm.skip ?_ ?_; focus (first | omega | (simp; done))) | with_reducible refine Wm.store ?_ _ _ | with_reducible refine Wm.new (by first | rfl | (simp; done) | with_unfolding_all rfl) (by with_unfolding_all rfl) (by with_unfolding_all rfl) | with_reducible refine Wm.alloc ?_ _ | exact Wm.any (by with_reducible assumption) | with_reducible refine WmAny.drew ?_ | with_reducible refine WmAny.drewN ?_ _ | (with_reducible refine WmAny.skip ?_ ?_; focus (first | omega | (simp; done))) | with_reducible refine WmAny.alloc ?_ _)⟩ ?_; clear EX ; rintro v1 ⟨EX, WA⟩; rename World => v; have WAhi := WA.hi; have WAlo := WA.lo; have WAfz := WA.fz; have WAlt := WA.lt
  go_wp2_with (first | (go_at_call 13; with_reducible refine (R1 _).mono ?_; rintro e v1 ⟨rfl, hb⟩; replace EX := Ext.trans EX hb; replace WA := WA.later hb; replace WAhi := WA.hi; replace WAlo := WA.lo; replace WAfz := WA.fz; replace WAlt := WA.lt; clear hb v; rename World => v) | (go_at_call 9; with_reducible refine (W1 _).mono ?_; rintro e v1 ⟨rfl, hb⟩; replace EX := Ext.trans EX hb; replace WA := WA.later hb; replace WAhi := WA.hi; replace WAlo := WA.lo; replace WAfz := WA.fz; replace WAlt := WA.lt; clear hb v; rename World => v) | (go_at_call 17; with_reducible refine (LV _).mono ?_; rintro e v1 ⟨rfl, hb⟩; replace EX := Ext.trans EX hb; replace WA := WA.later hb; replace WAhi := WA.hi; replace WAlo := WA.lo; replace WAfz := WA.fz; replace WAlt := WA.lt; clear hb v; rename World => v))
  all_goals (go_ret; exact ⟨rfl, EX⟩)
set_option maxHeartbeats 8000000 in
theorem between_a (n X q h l y H L d R T : Int) (n0 : 0 ≤ n) (n1 : n < 18446744073709551616) (X0 : 0 ≤ X) (X1 : X ≤ 4294967295) (hq : IntKind.u64.wrap (X * X) = q) (q0 : 0 ≤ q) (q1 : q ≤ n) (q2 : decide (2 * X < n - q) = false) (h0 : 0 ≤ h) (h1 : h ≤ 9223372036854775807) (l0 : 0 ≤ l) (l1 : l < 18446744073709551616)
    (y0 : 0 ≤ y) (y1 : y < 18446744073709551616) (H0 : 0 ≤ H) (H1 : H ≤ h) (L0 : 0 ≤ L) (L1 : L ≤ l) (hd : h - H = d) (hR : l - L = R)
    (hc : (d == 0) = true ∧ 9223372036854775807 < y ∨ (d == 0) = true ∧ ¬ 9223372036854775807 < y ∧ decide (R ≤ 2 * y) = true ∨ (d == 0) = false ∧ (d == 1) = true ∧ 9223372036854775807 < y ∧ IntKind.u64.wrap (2 * y) = T ∧ decide (R ≤ T) = true)
    (R1 : ∀ w, Calls Try.prog 13 #[.int .u64 n] w fun e w' => e = .returned (.int .u64 X) ∧ Ext w w')
    (W1 : ∀ w, Calls Try.prog 9 #[.agg #[.int .i64 h, .int .u64 l]] w fun e w' => e = .returned (.tuple #[.int .u64 y, .int .i64 0]) ∧ Ext w w')
    (PR : ∀ w, Calls Try.prog 18 #[.int .u64 y, .int .u64 y] w fun e w' => e = .returned (.tuple #[.int .u64 H, .int .u64 L]) ∧ Ext w w') (w : World) :
    Calls Try.prog 4 #[.int .u64 n, .agg #[.int .i64 h, .int .u64 l]] w fun e w' => e = .returned (.bool true) ∧ Ext w w' := by
  have EX := Ext.refl w
  have LV := lives_any
  have hn : ¬ h < 0 := by omega
  have g1 : decide (h < H) = false := by rw [decide_eq_false]; omega
  have g2 : decide (l < L) = false := by rw [decide_eq_false]; omega
  rcases hc with ⟨c1, c2⟩ | ⟨c1, c2, c3⟩ | ⟨c1, c2, c3, c4, c5⟩
  all_goals
    go_enter Try.func4, Try.ntmps4
    go_upto_region 1 with fail
    refine rebase (G := fun w' => Code.wp _ _ _ _ w') _ (fun v1 => Ext w v1 ∧ Wm v1 (w.heap.size) (h) (l)) ⟨by repeat (first | with_reducible exact EX | with_reducible refine Ext.alloc ?_ _ | with_reducible refine Ext.drew ?_ | with_reducible refine Ext.drewN ?_ _ | with_reducible refine Ext.setCell ?_ (by first | (simp; done) | omega | (dsimp only; omega)) _), by repeat (first | with_reducible assumption | with_reducible refine Wm.drew ?_ | with_reducible refine Wm.drewN ?_ _ | (with_reducible refine Wm.skip ?_ ?_; focus (first | omega | (simp; done))) | with_reducible refine Wm.store ?_ _ _ | with_reducible refine Wm.new (by first | rfl | (simp; done) | with_unfolding_all rfl) (by with_unfolding_all rfl) (by with_unfolding_all rfl) | with_reducible refine Wm.alloc ?_ _ | exact Wm.any (by with_reducible assumption) | with_reducible refine WmAny.drew ?_ | with_reducible refine WmAny.drewN ?_ _ | (with_reducible refine WmAny.skip ?_ ?_; focus (first | omega | (simp; done))) | with_reducible refine WmAny.alloc ?_ _)⟩ ?_; clear EX ; rintro v1 ⟨EX, WA⟩; rename World => v; have WAhi := WA.hi; have WAlo := WA.lo; have WAfz := WA.fz; have WAlt := WA.lt
    go_wp2_with (first | (go_at_call 13; with_reducible refine (R1 _).mono ?_; rintro e v1 ⟨rfl, hb⟩; replace EX := Ext.trans EX hb; replace WA := WA.later hb; replace WAhi := WA.hi; replace WAlo := WA.lo; replace WAfz := WA.fz; replace WAlt := WA.lt; clear hb v; rename World => v) | (go_at_call 9; with_reducible refine (W1 _).mono ?_; rintro e v1 ⟨rfl, hb⟩; replace EX := Ext.trans EX hb; replace WA := WA.later hb; replace WAhi := WA.hi; replace WAlo := WA.lo; replace WAfz := WA.fz; replace WAlt := WA.lt; clear hb v; rename World => v) | (go_at_call 18; with_reducible refine (PR _).mono ?_; rintro e v1 ⟨rfl, hb⟩; replace EX := Ext.trans EX hb; replace WA := WA.later hb; replace WAhi := WA.hi; replace WAlo := WA.lo; replace WAfz := WA.fz; replace WAlt := WA.lt; clear hb v; rename World => v) | (go_at_call 17; with_reducible refine (LV _).mono ?_; rintro e v1 ⟨rfl, hb⟩; replace EX := Ext.trans EX hb; replace WA := WA.later hb; replace WAhi := WA.hi; replace WAlo := WA.lo; replace WAfz := WA.fz; replace WAlt := WA.lt; clear hb v; rename World => v))
    all_goals (go_ret; exact ⟨rfl, EX⟩)
set_option maxHeartbeats 8000000 in
theorem between_b (n X q h l y H L g d R T : Int) (n0 : 0 ≤ n) (n1 : n < 18446744073709551616) (X0 : 0 ≤ X) (X1 : X ≤ 4294967295) (hq : IntKind.u64.wrap (X * X) = q) (q0 : 0 ≤ q) (q1 : q ≤ n) (q2 : decide (2 * X < n - q) = false) (h0 : 0 ≤ h) (h1 : h ≤ 9223372036854775807) (l0 : 0 ≤ l) (l1 : l < 18446744073709551616)
    (y0 : 0 ≤ y) (y1 : y < 18446744073709551616) (H0 : 0 ≤ H) (H1 : H < h) (L0 : 0 ≤ L) (L2 : L < 18446744073709551616) (L1 : l < L) (hg : h - H = g) (hd : g - 1 = d) (hR : IntKind.u64.wrap (l - L) = R)
    (hc : (d == 0) = true ∧ 9223372036854775807 < y ∨ (d == 0) = true ∧ ¬ 9223372036854775807 < y ∧ decide (R ≤ 2 * y) = true ∨ (d == 0) = false ∧ (d == 1) = true ∧ 9223372036854775807 < y ∧ IntKind.u64.wrap (2 * y) = T ∧ decide (R ≤ T) = true)
    (R1 : ∀ w, Calls Try.prog 13 #[.int .u64 n] w fun e w' => e = .returned (.int .u64 X) ∧ Ext w w')
    (W1 : ∀ w, Calls Try.prog 9 #[.agg #[.int .i64 h, .int .u64 l]] w fun e w' => e = .returned (.tuple #[.int .u64 y, .int .i64 0]) ∧ Ext w w')
    (PR : ∀ w, Calls Try.prog 18 #[.int .u64 y, .int .u64 y] w fun e w' => e = .returned (.tuple #[.int .u64 H, .int .u64 L]) ∧ Ext w w') (w : World) :
    Calls Try.prog 4 #[.int .u64 n, .agg #[.int .i64 h, .int .u64 l]] w fun e w' => e = .returned (.bool true) ∧ Ext w w' := by
  have EX := Ext.refl w
  have LV := lives_any
  have hn : ¬ h < 0 := by omega
  have g1 : decide (h < H) = false := by rw [decide_eq_false]; omega
  have g2 : (H == h) = false := by simp; omega
  have g3 : 1 ≤ g := by omega
  have g4 : g ≤ 9223372036854775807 := by omega
  rcases hc with ⟨c1, c2⟩ | ⟨c1, c2, c3⟩ | ⟨c1, c2, c3, c4, c5⟩
  all_goals
    go_enter Try.func4, Try.ntmps4
    go_upto_region 1 with fail
    refine rebase (G := fun w' => Code.wp _ _ _ _ w') _ (fun v1 => Ext w v1 ∧ Wm v1 (w.heap.size) (h) (l)) ⟨by repeat (first | with_reducible exact EX | with_reducible refine Ext.alloc ?_ _ | with_reducible refine Ext.drew ?_ | with_reducible refine Ext.drewN ?_ _ | with_reducible refine Ext.setCell ?_ (by first | (simp; done) | omega | (dsimp only; omega)) _), by repeat (first | with_reducible assumption | with_reducible refine Wm.drew ?_ | with_reducible refine Wm.drewN ?_ _ | (with_reducible refine Wm.skip ?_ ?_; focus (first | omega | (simp; done))) | with_reducible refine Wm.store ?_ _ _ | with_reducible refine Wm.new (by first | rfl | (simp; done) | with_unfolding_all rfl) (by with_unfolding_all rfl) (by with_unfolding_all rfl) | with_reducible refine Wm.alloc ?_ _ | exact Wm.any (by with_reducible assumption) | with_reducible refine WmAny.drew ?_ | with_reducible refine WmAny.drewN ?_ _ | (with_reducible refine WmAny.skip ?_ ?_; focus (first | omega | (simp; done))) | with_reducible refine WmAny.alloc ?_ _)⟩ ?_; clear EX ; rintro v1 ⟨EX, WA⟩; rename World => v; have WAhi := WA.hi; have WAlo := WA.lo; have WAfz := WA.fz; have WAlt := WA.lt
    go_wp2_with (first | (go_at_call 13; with_reducible refine (R1 _).mono ?_; rintro e v1 ⟨rfl, hb⟩; replace EX := Ext.trans EX hb; replace WA := WA.later hb; replace WAhi := WA.hi; replace WAlo := WA.lo; replace WAfz := WA.fz; replace WAlt := WA.lt; clear hb v; rename World => v) | (go_at_call 9; with_reducible refine (W1 _).mono ?_; rintro e v1 ⟨rfl, hb⟩; replace EX := Ext.trans EX hb; replace WA := WA.later hb; replace WAhi := WA.hi; replace WAlo := WA.lo; replace WAfz := WA.fz; replace WAlt := WA.lt; clear hb v; rename World => v) | (go_at_call 18; with_reducible refine (PR _).mono ?_; rintro e v1 ⟨rfl, hb⟩; replace EX := Ext.trans EX hb; replace WA := WA.later hb; replace WAhi := WA.hi; replace WAlo := WA.lo; replace WAfz := WA.fz; replace WAlt := WA.lt; clear hb v; rename World => v) | (go_at_call 17; with_reducible refine (LV _).mono ?_; rintro e v1 ⟨rfl, hb⟩; replace EX := Ext.trans EX hb; replace WA := WA.later hb; replace WAhi := WA.hi; replace WAlo := WA.lo; replace WAfz := WA.fz; replace WAlt := WA.lt; clear hb v; rename World => v))
    all_goals (go_ret; exact ⟨rfl, EX⟩)
theorem between_cases {d R y : Int} (d0 : 0 ≤ d) (R0 : 0 ≤ R) (y1 : y < 18446744073709551616) (h : d * 18446744073709551616 + R ≤ 2 * y) :
    (d == 0) = true ∧ 9223372036854775807 < y ∨ (d == 0) = true ∧ ¬ 9223372036854775807 < y ∧ decide (R ≤ 2 * y) = true ∨ (d == 0) = false ∧ (d == 1) = true ∧ 9223372036854775807 < y ∧ IntKind.u64.wrap (2 * y) = IntKind.u64.wrap (2 * y) ∧ decide (R ≤ IntKind.u64.wrap (2 * y)) = true := by
  rcases (show d = 0 ∨ d = 1 by omega) with rfl | rfl
  · by_cases c : 9223372036854775807 < y
    · exact .inl ⟨rfl, c⟩
    · exact .inr (.inl ⟨rfl, c, by rw [decide_eq_true]; omega⟩)
  · refine .inr (.inr ⟨rfl, rfl, by omega, rfl, ?_⟩)
    rw [decide_eq_true]
    rw [u64_wrap]
    omega
theorem between_law (n x : Int) (hn : InU64 n) (hx : InW x) (w : World) : Calls Try.prog 4 #[.int .u64 n, (.agg #[.int .i64 (hi (x)), .int .u64 (lo (x))])] w fun e w' => e = .returned (.bool true) ∧ Ext w w' := by
  have hX := rt_u64 hn
  have hS := rt_spec hn.1
  have R1 := fun w => root_at n hn w
  obtain ⟨n0, n1⟩ := hn
  generalize rt n = X at *
  obtain ⟨X0, X1⟩ := hX
  have hm := half_mul X0 X1 X0 X1
  have hq := u64_id hm.1 (by omega)
  have e : (X + 1) * (X + 1) = X * X + 2 * X + 1 := by rw [Int.add_mul, Int.mul_add, Int.mul_one, Int.one_mul]; omega
  have q2 : decide (2 * X < n - X * X) = false := by rw [decide_eq_false]; omega
  by_cases h : x < 0
  · exact between_neg n X _ (hi x) (lo x) n0 n1 X0 X1 hq hm.1 hS.1 q2 (by rw [hi_neg]; exact h) R1 (fun w => rootWide_neg x h w) w
  · have x0 : 0 ≤ x := by omega
    have W1 := fun w => rootWide_any x hx x0 w
    have hy := rt_spec x0
    have y0 := rt_0 x
    have y1 : rt x ≤ 18446744073709551615 := rt_le x0 (by decide) (by have := hx.2; omega)
    generalize rt x = y at *
    have PR := fun w => prod4_any y y ⟨y0, by omega⟩ ⟨y0, by omega⟩ w
    have z0 := Int.mul_nonneg y0 y0
    have e2 : (y + 1) * (y + 1) = y * y + 2 * y + 1 := by rw [Int.add_mul, Int.mul_add, Int.mul_one, Int.one_mul]; omega
    rw [e2] at hy
    have f1 := hilo x
    have f2 := hilo (y * y)
    have a0 := lo_0 x
    have a1 := lo_1 x
    have b0 := lo_0 (y * y)
    have b1 := lo_1 (y * y)
    have c0 : 0 ≤ hi x := by unfold hi; omega
    have c1 : hi x ≤ 9223372036854775807 := by unfold hi InW at *; omega
    have d0 : 0 ≤ hi (y * y) := by unfold hi; omega
    generalize hi (y * y) = H at *
    generalize lo (y * y) = L at *
    generalize y * y = z at *
    generalize hi x = h' at *
    generalize lo x = l at *
    by_cases hl : l < L
    · exact between_b n X _ h' l y H L (h' - H) (h' - H - 1) _ _ n0 n1 X0 X1 hq hm.1 hS.1 q2 c0 c1 a0 a1 y0 (by omega) d0 (by omega) b0 b1 hl rfl rfl rfl (between_cases (by omega) (by rw [u64_wrap]; omega) (by omega) (by rw [u64_wrap]; omega)) R1 W1 PR w
    · exact between_a n X _ h' l y H L (h' - H) (l - L) _ n0 n1 X0 X1 hq hm.1 hS.1 q2 c0 c1 a0 a1 y0 (by omega) d0 (by omega) b0 (by omega) rfl rfl (between_cases (by omega) (by omega) (by omega) (by omega)) R1 W1 PR w
end Go.Proofs.Ytcknfangjodoiaa
