/- What the given functions of gouacheref03 do, called at any arguments: num, root, Root, RootWide, Sqrt, Log. -/
import Derived.Test.YthfgeopldbcniaaRootC
import Derived.Test.YthfgeopldbcniaaRefI
import Derived.Test.YthfgeopldbcniaaRefR
namespace Go.Proofs.Ythfgeopldbcniaa
open Go.RowKit Go.BigFrame
set_option linter.unusedSimpArgs false
set_option linter.unusedVariables false

theorem num_any (n : Int) (hn : InU64 n) (w : World) : Calls Try.prog 78 #[.int .u64 n] w fun e w' => e = .returned (.agg #[.bool (false), .int .i64 (dg (n) 0), .int .i64 (dg (n) 1), .int .i64 (dg (n) 2), .int .i64 (dg (n) 3), .int .i64 (dg (n) 4), .int .i64 (dg (n) 5), .int .i64 (dg (n) 6), .int .i64 (dg (n) 7), .int .i64 (dg (n) 8), .int .i64 (dg (n) 9), .int .i64 (dg (n) 10), .int .i64 (dg (n) 11)]) ∧ Ext w w' := by
  have EX := Ext.refl w
  have RD := fun w => read_any n (by unfold InU64 InW at *; omega) w
  rw [(hi_u hn).1, (hi_u hn).2, show decide (n < 0) = false by rw [decide_eq_false]; have := hn.1; omega, show ab n = n by unfold ab; rw [if_neg (by have := hn.1; omega)]] at RD
  go_enter Try.func78, Try.ntmps78
  go_wp2_with (first | (go_at_call 41; with_reducible refine (RD _).mono ?_; rintro e v2 ⟨rfl, hc⟩; obtain ⟨r1, r2, r3⟩ := hc.rules))
  refine bodyPost_ret (by simp only [results, Try.results78]; simp [go_sem, *]; try rfl) rfl ⟨rfl, ?_⟩
  replace EX : Ext w v2 := Ext.trans (by repeat (first | with_reducible exact EX | with_reducible refine Ext.alloc ?_ _ | with_reducible refine Ext.drew ?_ | with_reducible refine Ext.drewN ?_ _ | with_reducible refine Ext.setCell ?_ (by first | (simp; done) | omega | (dsimp only; omega)) _)) hc
  repeat (first | with_reducible exact EX | with_reducible refine Ext.alloc ?_ _ | with_reducible refine Ext.drew ?_ | with_reducible refine Ext.drewN ?_ _ | with_reducible refine Ext.setCell ?_ (by first | (simp; done) | omega | (dsimp only; omega)) _)
set_option maxHeartbeats 8000000 in
theorem rroot_any (X : Int) (hX : InU X) (w : World) : Calls Try.prog 63 #[(.agg #[.bool (false), .int .i64 (dg (X) 0), .int .i64 (dg (X) 1), .int .i64 (dg (X) 2), .int .i64 (dg (X) 3), .int .i64 (dg (X) 4), .int .i64 (dg (X) 5), .int .i64 (dg (X) 6), .int .i64 (dg (X) 7), .int .i64 (dg (X) 8), .int .i64 (dg (X) 9), .int .i64 (dg (X) 10), .int .i64 (dg (X) 11)])] w fun e w' => e = .returned (.int .u64 (rt X)) ∧ Ext w w' := by
  have EX := Ext.refl w
  obtain ⟨X0, X1⟩ := hX
  go_enter Try.func63, Try.ntmps63
  go_wp2
  go_loopg [3, 4] 18446744073709551616 (fun gk lw hg wr => ∃ a b : Int, lw = .int .u64 a ∧ hg = .int .u64 b ∧ 0 ≤ a ∧ a ≤ b ∧ b < 18446744073709551616 ∧ b - a ≤ gk ∧ a * a ≤ X ∧ X < (b + 1) * (b + 1) ∧ Ext w wr ∧ Nm wr (w.heap.size) (false) (dg X))
  case atStart =>
    refine ⟨0, 18446744073709551615, rfl, rfl, by decide, by decide, by decide, by decide, by omega, by omega, by repeat (first | with_reducible exact EX | with_reducible refine Ext.alloc ?_ _ | with_reducible refine Ext.drew ?_ | with_reducible refine Ext.drewN ?_ _ | with_reducible refine Ext.setCell ?_ (by first | (simp; done) | omega | (dsimp only; omega)) _), ?_⟩
    repeat (first | with_reducible assumption | with_reducible refine Nm.drew ?_ | with_reducible refine Nm.drewN ?_ _ | (with_reducible refine Nm.skip ?_ ?_; focus (first | omega | (simp; done))) | with_reducible refine Nm.store ?_ rfl rfl rfl rfl rfl rfl rfl rfl rfl rfl rfl rfl rfl | with_reducible refine Nm.new (by first | rfl | (simp; done) | with_unfolding_all rfl) (by with_unfolding_all rfl) (all12 (by with_unfolding_all rfl) (by with_unfolding_all rfl) (by with_unfolding_all rfl) (by with_unfolding_all rfl) (by with_unfolding_all rfl) (by with_unfolding_all rfl) (by with_unfolding_all rfl) (by with_unfolding_all rfl) (by with_unfolding_all rfl) (by with_unfolding_all rfl) (by with_unfolding_all rfl) (by with_unfolding_all rfl)) | with_reducible refine Nm.alloc ?_ _ | exact Nm.any (by with_reducible assumption) | with_reducible refine NmAny.drew ?_ | with_reducible refine NmAny.drewN ?_ _ | (with_reducible refine NmAny.skip ?_ ?_; focus (first | omega | (simp; done))) | with_reducible refine NmAny.alloc ?_ _)
  case round =>
    obtain ⟨a, b, rfl, rfl, a0, ab, b1, hg, s1, s2, EX, NX⟩ := hrel
    obtain ⟨v, hv⟩ : ∃ v, v = wr := ⟨_, rfl⟩
    subst hv
    by_cases hlt : a < b
    · obtain ⟨m, hm⟩ : ∃ m, a + (b - a) / 2 + (b - a) % 2 = m := ⟨_, rfl⟩
      have m0 : a < m := by omega
      have m1 : m ≤ b := by omega
      have q0 := Int.mul_nonneg (show 0 ≤ m by omega) (show 0 ≤ m by omega)
      have q1 := sq_le (show 0 ≤ m by omega) (show m ≤ 18446744073709551615 by omega)
      have NU := fun w => num_any m ⟨by omega, by omega⟩ w
      have PM := fun w => prod_any false false m m ⟨by omega, by omega⟩ w
      have AB := fun w => above_any false false (m * m) X q0 X0 (by omega) w
      rw [show sg false X = X from rfl, show sg false (m * m) = m * m from rfl] at AB
      rw [show (false != false) = false from rfl] at PM
      have HG : Hid (b - a ≤ gk ∧ a * a ≤ X ∧ X < (b + 1) * (b + 1)) := ⟨hg, s1, s2⟩
      clear hg s1 s2
      have m2 : 1 ≤ m := by omega
      have m3 : m < 18446744073709551616 := by omega
      by_cases hc : X < m * m
      · rw [decide_eq_true hc] at AB
        have HC : Hid (X < m * m) := hc
        clear hc q0 q1
        obtain ⟨mm, hmm⟩ : ∃ mm, m * m = mm := ⟨_, rfl⟩
        rw [hmm] at AB PM HC
        have HM : Hid (m * m = mm) := hmm
        clear hmm
        go_upto_region 5 with fail
        have NXsg := NX.sg; have NXdg := NX.dg; have NXfz := NX.fz; have NXlt := NX.lt
        have gNXsg := fun x' : Grow v => (NX.later x'.ext).sg; have gNXdg := fun x' : Grow v => (NX.later x'.ext).dg; have gNXfz := fun x' : Grow v => (NX.later x'.ext).fz; have gNXlt := fun x' : Grow v => (NX.later x'.ext).lt; refine wp_region_grow (by kernel_rfl) (by kernel_rfl) ?_; (repeat (first | go_big_quiet_step ((go_at_call 78; with_reducible exact calls_grow (NU _))) | go_big_quiet_step ((go_at_call 61; with_reducible exact calls_grow (PM _))) | go_big_quiet_step ((go_at_call 77; with_reducible exact calls_grow (AB _))) | go_big_quiet_step (fail))); refine wpQuiet_nil ?_; clear gNXsg gNXdg gNXfz gNXlt; rintro _ ⟨xq, rfl⟩; replace EX := Ext.trans EX xq.ext; replace NX := NX.later xq.ext; replace NXsg := NX.sg; replace NXdg := NX.dg; replace NXfz := NX.fz; replace NXlt := NX.lt; generalize xq.out = v1 at *; clear xq v; rename World => v
        go_wp2
        go_roundg (gk - 1)
        case measure => have := HG.out.1; omega
        case rel =>
          obtain ⟨g1, g2, g3⟩ := HG.out
          have h1 := HC.out
          rw [← HM.out] at h1
          refine ⟨a, m - 1, rfl, rfl, a0, by omega, by omega, by omega, g2, by rw [Int.sub_add_cancel]; exact h1, EX, NX⟩
      · rw [decide_eq_false hc] at AB
        have HC : Hid (m * m ≤ X) := Int.not_lt.1 hc
        clear hc q0 q1
        obtain ⟨mm, hmm⟩ : ∃ mm, m * m = mm := ⟨_, rfl⟩
        rw [hmm] at AB PM
        clear hmm
        go_upto_region 5 with fail
        have NXsg := NX.sg; have NXdg := NX.dg; have NXfz := NX.fz; have NXlt := NX.lt
        have gNXsg := fun x' : Grow v => (NX.later x'.ext).sg; have gNXdg := fun x' : Grow v => (NX.later x'.ext).dg; have gNXfz := fun x' : Grow v => (NX.later x'.ext).fz; have gNXlt := fun x' : Grow v => (NX.later x'.ext).lt; refine wp_region_grow (by kernel_rfl) (by kernel_rfl) ?_; (repeat (first | go_big_quiet_step ((go_at_call 78; with_reducible exact calls_grow (NU _))) | go_big_quiet_step ((go_at_call 61; with_reducible exact calls_grow (PM _))) | go_big_quiet_step ((go_at_call 77; with_reducible exact calls_grow (AB _))) | go_big_quiet_step (fail))); refine wpQuiet_nil ?_; clear gNXsg gNXdg gNXfz gNXlt; rintro _ ⟨xq, rfl⟩; replace EX := Ext.trans EX xq.ext; replace NX := NX.later xq.ext; replace NXsg := NX.sg; replace NXdg := NX.dg; replace NXfz := NX.fz; replace NXlt := NX.lt; generalize xq.out = v1 at *; clear xq v; rename World => v
        go_wp2
        go_roundg (gk - 1)
        case measure => have := HG.out.1; omega
        case rel =>
          obtain ⟨g1, g2, g3⟩ := HG.out
          refine ⟨m, b, rfl, rfl, by omega, by omega, b1, by omega, HC.out, g3, EX, NX⟩
    · have HD : Hid (rt X = a) := by
        rw [show b = a by omega] at s2
        exact rt_of a0 s1 s2
      clear s1 s2 hg
      go_wp2
      go_ret
      exact ⟨by rw [HD.out]; rfl, EX⟩
theorem rRootWide_neg (x : Int) (hx : x < 0) (w : World) : Calls Try.prog 36 #[(.agg #[.int .i64 (hi (x)), .int .u64 (lo (x))])] w fun e w' => e = .returned (.tuple #[.int .u64 0, .int .i64 1]) ∧ Ext w w' := by
  have EX := Ext.refl w
  have hh : hi x < 0 := by rw [hi_neg]; exact hx
  clear hx
  go_enter Try.func36, Try.ntmps36
  go_wp2
  go_ret2
  exact ⟨rfl, by repeat (first | with_reducible exact EX | with_reducible refine Ext.alloc ?_ _ | with_reducible refine Ext.drew ?_ | with_reducible refine Ext.drewN ?_ _ | with_reducible refine Ext.setCell ?_ (by first | (simp; done) | omega | (dsimp only; omega)) _)⟩
theorem rRootWide_walk (x r : Int) (hh : ¬ hi x < 0) (RD : ∀ w, Calls Try.prog 41 #[(.agg #[.int .i64 (hi (x)), .int .u64 (lo (x))])] w fun e w' => e = .returned (.agg #[.bool (false), .int .i64 (dg (x) 0), .int .i64 (dg (x) 1), .int .i64 (dg (x) 2), .int .i64 (dg (x) 3), .int .i64 (dg (x) 4), .int .i64 (dg (x) 5), .int .i64 (dg (x) 6), .int .i64 (dg (x) 7), .int .i64 (dg (x) 8), .int .i64 (dg (x) 9), .int .i64 (dg (x) 10), .int .i64 (dg (x) 11)]) ∧ Ext w w') (RT : ∀ w, Calls Try.prog 63 #[(.agg #[.bool (false), .int .i64 (dg (x) 0), .int .i64 (dg (x) 1), .int .i64 (dg (x) 2), .int .i64 (dg (x) 3), .int .i64 (dg (x) 4), .int .i64 (dg (x) 5), .int .i64 (dg (x) 6), .int .i64 (dg (x) 7), .int .i64 (dg (x) 8), .int .i64 (dg (x) 9), .int .i64 (dg (x) 10), .int .i64 (dg (x) 11)])] w fun e w' => e = .returned (.int .u64 r) ∧ Ext w w') (w : World) :
    Calls Try.prog 36 #[(.agg #[.int .i64 (hi (x)), .int .u64 (lo (x))])] w fun e w' => e = .returned (.tuple #[.int .u64 r, .int .i64 0]) ∧ Ext w w' := by
  have EX := Ext.refl w
  go_enter Try.func36, Try.ntmps36
  go_upto_region 3 with fail
  refine rebase (G := fun w' => Code.wp _ _ _ _ w') _ (fun v1 => Ext w v1 ∧ Wm v1 (w.heap.size) (hi x) (lo x)) ⟨by repeat (first | with_reducible exact EX | with_reducible refine Ext.alloc ?_ _ | with_reducible refine Ext.drew ?_ | with_reducible refine Ext.drewN ?_ _ | with_reducible refine Ext.setCell ?_ (by first | (simp; done) | omega | (dsimp only; omega)) _), by repeat (first | with_reducible assumption | with_reducible refine Wm.drew ?_ | with_reducible refine Wm.drewN ?_ _ | (with_reducible refine Wm.skip ?_ ?_; focus (first | omega | (simp; done))) | with_reducible refine Wm.store ?_ _ _ | with_reducible refine Wm.new (by first | rfl | (simp; done) | with_unfolding_all rfl) (by with_unfolding_all rfl) (by with_unfolding_all rfl) | with_reducible refine Wm.alloc ?_ _ | exact Wm.any (by with_reducible assumption) | with_reducible refine WmAny.drew ?_ | with_reducible refine WmAny.drewN ?_ _ | (with_reducible refine WmAny.skip ?_ ?_; focus (first | omega | (simp; done))) | with_reducible refine WmAny.alloc ?_ _)⟩ ?_; clear EX ; rintro v1 ⟨EX, WA⟩; rename World => v; have WAhi := WA.hi; have WAlo := WA.lo; have WAfz := WA.fz; have WAlt := WA.lt
  go_wp2_with (first | (go_at_call 41; with_reducible refine (RD _).mono ?_; rintro e v1 ⟨rfl, hb⟩; replace EX := Ext.trans EX hb; replace WA := WA.later hb; replace WAhi := WA.hi; replace WAlo := WA.lo; replace WAfz := WA.fz; replace WAlt := WA.lt; clear hb v; rename World => v) | (go_at_call 63; with_reducible refine (RT _).mono ?_; rintro e v1 ⟨rfl, hb⟩; replace EX := Ext.trans EX hb; replace WA := WA.later hb; replace WAhi := WA.hi; replace WAlo := WA.lo; replace WAfz := WA.fz; replace WAlt := WA.lt; clear hb v; rename World => v))
  go_ret2
  exact ⟨rfl, EX⟩
theorem rRootWide_any (x : Int) (hx : InW x) (h0 : 0 ≤ x) (w : World) : Calls Try.prog 36 #[(.agg #[.int .i64 (hi (x)), .int .u64 (lo (x))])] w fun e w' => e = .returned (.tuple #[.int .u64 (rt x), .int .i64 0]) ∧ Ext w w' := by
  have RD := fun w => read_any x hx w
  rw [show decide (x < 0) = false by rw [decide_eq_false]; omega, show ab x = x by unfold ab; rw [if_neg (by omega)]] at RD
  exact rRootWide_walk x (rt x) (by rw [hi_neg]; omega) RD (fun w => rroot_any x ⟨h0, by have := hx.2; omega⟩ w) w
end Go.Proofs.Ythfgeopldbcniaa
