/- The walk of the given function RootsOf: it returns true at every whole number, every wide and every fix. -/
import Derived.Test.YtcknfangjodoiaaRootR
import Derived.Test.YtcknfangjodoiaaRootD
namespace Go.Proofs.Ytcknfangjodoiaa
open Go.RowKit Go.BigFrame
set_option linter.unusedSimpArgs false
set_option linter.unusedVariables false

set_option maxHeartbeats 8000000 in
theorem rof_walk (n h l x r p e s f k : Int)
    (A1 : ∀ w, Calls Try.prog 9 #[.agg #[.int .i64 h, .int .u64 l]] w fun e1 w' => e1 = .returned (.tuple #[.int .u64 p, .int .i64 e]) ∧ Ext w w')
    (A2 : ∀ w, Calls Try.prog 10 #[.agg #[.int .i64 h, .int .u64 l]] w fun e1 w' => e1 = .returned (.tuple #[.int .u64 p, .int .i64 e]) ∧ Ext w w')
    (B1 : ∀ w, Calls Try.prog 11 #[.int .i32 x] w fun e1 w' => e1 = .returned (.tuple #[.int .i32 s, .int .i64 f]) ∧ Ext w w')
    (B2 : ∀ w, Calls Try.prog 12 #[.int .i32 x] w fun e1 w' => e1 = .returned (.tuple #[.int .i32 s, .int .i64 f]) ∧ Ext w w')
    (C1 : ∀ w, Calls Try.prog 13 #[.int .u64 n] w fun e1 w' => e1 = .returned (.int .u64 r) ∧ Ext w w')
    (C2 : ∀ w, Calls Try.prog 14 #[.int .u64 n] w fun e1 w' => e1 = .returned (.int .u64 r) ∧ Ext w w')
    (D1 : ∀ w, Calls Try.prog 15 #[.int .u64 n] w fun e1 w' => e1 = .returned (.int .i64 k) ∧ Ext w w')
    (D2 : ∀ w, Calls Try.prog 16 #[.int .u64 n] w fun e1 w' => e1 = .returned (.int .i64 k) ∧ Ext w w') (w : World) :
    Calls Try.prog 3 #[.int .u64 n, .agg #[.int .i64 h, .int .u64 l], .int .i32 x] w fun e w' => e = .returned (.bool true) ∧ Ext w w' := by
  have EX := Ext.refl w
  have LV := lives_any
  go_enter Try.func3, Try.ntmps3
  go_upto_region 1 with fail
  refine rebase (G := fun w' => Code.wp _ _ _ _ w') _ (fun v1 => Ext w v1 ∧ Wm v1 (w.heap.size) (h) (l)) ⟨by repeat (first | with_reducible exact EX | with_reducible refine Ext.alloc ?_ _ | with_reducible refine Ext.drew ?_ | with_reducible refine Ext.drewN ?_ _ | with_reducible refine Ext.setCell ?_ (by first | (simp; done) | omega | (dsimp only; omega)) _), by repeat (first | with_reducible assumption | with_reducible refine Wm.drew ?_ | with_reducible refine Wm.drewN ?_ _ | (with_reducible refine Wm.skip ?_ ?_; focus (first | omega | (simp; done))) | with_reducible refine Wm.store ?_ _ _ | with_reducible refine Wm.new (by first | rfl | (simp; done) | with_unfolding_all rfl) (by with_unfolding_all rfl) (by with_unfolding_all rfl) | with_reducible refine Wm.alloc ?_ _ | exact Wm.any (by with_reducible assumption) | with_reducible refine WmAny.drew ?_ | with_reducible refine WmAny.drewN ?_ _ | (with_reducible refine WmAny.skip ?_ ?_; focus (first | omega | (simp; done))) | with_reducible refine WmAny.alloc ?_ _)⟩ ?_; clear EX ; rintro v1 ⟨EX, WA⟩; rename World => v; have WAhi := WA.hi; have WAlo := WA.lo; have WAfz := WA.fz; have WAlt := WA.lt
  go_wp2_with (first | (go_at_call 9; with_reducible refine (A1 _).mono ?_; rintro e v1 ⟨rfl, hb⟩; replace EX := Ext.trans EX hb; replace WA := WA.later hb; replace WAhi := WA.hi; replace WAlo := WA.lo; replace WAfz := WA.fz; replace WAlt := WA.lt; clear hb v; rename World => v) | (go_at_call 10; with_reducible refine (A2 _).mono ?_; rintro e v1 ⟨rfl, hb⟩; replace EX := Ext.trans EX hb; replace WA := WA.later hb; replace WAhi := WA.hi; replace WAlo := WA.lo; replace WAfz := WA.fz; replace WAlt := WA.lt; clear hb v; rename World => v) | (go_at_call 11; with_reducible refine (B1 _).mono ?_; rintro e v1 ⟨rfl, hb⟩; replace EX := Ext.trans EX hb; replace WA := WA.later hb; replace WAhi := WA.hi; replace WAlo := WA.lo; replace WAfz := WA.fz; replace WAlt := WA.lt; clear hb v; rename World => v) | (go_at_call 12; with_reducible refine (B2 _).mono ?_; rintro e v1 ⟨rfl, hb⟩; replace EX := Ext.trans EX hb; replace WA := WA.later hb; replace WAhi := WA.hi; replace WAlo := WA.lo; replace WAfz := WA.fz; replace WAlt := WA.lt; clear hb v; rename World => v) | (go_at_call 13; with_reducible refine (C1 _).mono ?_; rintro e v1 ⟨rfl, hb⟩; replace EX := Ext.trans EX hb; replace WA := WA.later hb; replace WAhi := WA.hi; replace WAlo := WA.lo; replace WAfz := WA.fz; replace WAlt := WA.lt; clear hb v; rename World => v) | (go_at_call 14; with_reducible refine (C2 _).mono ?_; rintro e v1 ⟨rfl, hb⟩; replace EX := Ext.trans EX hb; replace WA := WA.later hb; replace WAhi := WA.hi; replace WAlo := WA.lo; replace WAfz := WA.fz; replace WAlt := WA.lt; clear hb v; rename World => v) | (go_at_call 15; with_reducible refine (D1 _).mono ?_; rintro e v1 ⟨rfl, hb⟩; replace EX := Ext.trans EX hb; replace WA := WA.later hb; replace WAhi := WA.hi; replace WAlo := WA.lo; replace WAfz := WA.fz; replace WAlt := WA.lt; clear hb v; rename World => v) | (go_at_call 16; with_reducible refine (D2 _).mono ?_; rintro e v1 ⟨rfl, hb⟩; replace EX := Ext.trans EX hb; replace WA := WA.later hb; replace WAhi := WA.hi; replace WAlo := WA.lo; replace WAfz := WA.fz; replace WAlt := WA.lt; clear hb v; rename World => v) | (go_at_call 17; with_reducible refine (LV _).mono ?_; rintro e v1 ⟨rfl, hb⟩; replace EX := Ext.trans EX hb; replace WA := WA.later hb; replace WAhi := WA.hi; replace WAlo := WA.lo; replace WAfz := WA.fz; replace WAlt := WA.lt; clear hb v; rename World => v))
  all_goals (go_ret; exact ⟨rfl, EX⟩)
theorem rof_law (n a x : Int) (hn : InU64 n) (ha : InW a) (hx : -2147483648 ≤ x ∧ x ≤ 2147483647) (w : World) :
    Calls Try.prog 3 #[.int .u64 n, (.agg #[.int .i64 (hi (a)), .int .u64 (lo (a))]), .int .i32 x] w fun e w' => e = .returned (.bool true) ∧ Ext w w' := by
  have C1 := fun w => root_at n hn w
  have C2 := fun w => rRoot_any n hn w
  have D1 := fun w => log_any n hn w
  have D2 := fun w => rLog_any n hn w
  by_cases h : a < 0
  · by_cases g : x < 0
    · exact rof_walk n (hi a) (lo a) x _ _ _ _ _ _ (fun w => rootWide_neg a h w) (fun w => rRootWide_neg a h w) (fun w => sqrt_neg x g w) (fun w => rSqrt_neg x g w) C1 C2 D1 D2 w
    · exact rof_walk n (hi a) (lo a) x _ _ _ _ _ _ (fun w => rootWide_neg a h w) (fun w => rRootWide_neg a h w) (fun w => sqrt_any x (by omega) hx.2 w) (fun w => rSqrt_any x (by omega) hx.2 w) C1 C2 D1 D2 w
  · by_cases g : x < 0
    · exact rof_walk n (hi a) (lo a) x _ _ _ _ _ _ (fun w => rootWide_any a ha (by omega) w) (fun w => rRootWide_any a ha (by omega) w) (fun w => sqrt_neg x g w) (fun w => rSqrt_neg x g w) C1 C2 D1 D2 w
    · exact rof_walk n (hi a) (lo a) x _ _ _ _ _ _ (fun w => rootWide_any a ha (by omega) w) (fun w => rRootWide_any a ha (by omega) w) (fun w => sqrt_any x (by omega) hx.2 w) (fun w => rSqrt_any x (by omega) hx.2 w) C1 C2 D1 D2 w
end Go.Proofs.Ytcknfangjodoiaa
