/- What the given functions num, product and Long of gouacheref04 do, called at any arguments. -/
import Derived.Test.YtbkifcfienhkaaaDoorPowD
import Derived.Test.YtbkifcfienhkaaaDoorRootR
import Derived.Test.YtbkifcfienhkaaaDoorRefS
namespace Go.Proofs.YtbkifcfienhkaaaDoor
open Go.RowKit Go.BigFrame
set_option linter.unusedSimpArgs false
set_option linter.unusedVariables false

theorem num4_any (n : Int) (hn : InU64 n) (w : World) : Calls Tryd.prog 56 #[.int .u64 n] w fun e w' => e = .returned (.agg #[.bool (false), .int .i64 (dg (n) 0), .int .i64 (dg (n) 1), .int .i64 (dg (n) 2), .int .i64 (dg (n) 3), .int .i64 (dg (n) 4), .int .i64 (dg (n) 5), .int .i64 (dg (n) 6), .int .i64 (dg (n) 7), .int .i64 (dg (n) 8), .int .i64 (dg (n) 9), .int .i64 (dg (n) 10), .int .i64 (dg (n) 11)]) ∧ Ext w w' := by
  have EX := Ext.refl w
  have RD := fun w => read_any n (by unfold InU64 InW at *; omega) w
  rw [(hi_u hn).1, (hi_u hn).2, show decide (n < 0) = false by rw [decide_eq_false]; have := hn.1; omega, show ab n = n by unfold ab; rw [if_neg (by have := hn.1; omega)]] at RD
  go_enter Tryd.func56, Tryd.ntmps56
  go_wp2_with (first | (go_at_call 46; with_reducible refine (RD _).mono ?_; rintro e v2 ⟨rfl, hc⟩; obtain ⟨r1, r2, r3⟩ := hc.rules))
  refine bodyPost_ret (by simp only [results, Tryd.results56]; simp [go_sem, *]; try rfl) rfl ⟨rfl, ?_⟩
  replace EX : Ext w v2 := Ext.trans (by repeat (first | with_reducible exact EX | with_reducible refine Ext.alloc ?_ _ | with_reducible refine Ext.drew ?_ | with_reducible refine Ext.drewN ?_ _ | with_reducible refine Ext.setCell ?_ (by first | (simp; done) | omega | (dsimp only; omega)) _)) hc
  repeat (first | with_reducible exact EX | with_reducible refine Ext.alloc ?_ _ | with_reducible refine Ext.drew ?_ | with_reducible refine Ext.drewN ?_ _ | with_reducible refine Ext.setCell ?_ (by first | (simp; done) | omega | (dsimp only; omega)) _)
set_option maxHeartbeats 8000000 in
theorem product4_walk (a b X q r : Int) (NA : ∀ w, Calls Tryd.prog 56 #[.int .u64 a] w fun e w' => e = .returned (.agg #[.bool (false), .int .i64 (dg (a) 0), .int .i64 (dg (a) 1), .int .i64 (dg (a) 2), .int .i64 (dg (a) 3), .int .i64 (dg (a) 4), .int .i64 (dg (a) 5), .int .i64 (dg (a) 6), .int .i64 (dg (a) 7), .int .i64 (dg (a) 8), .int .i64 (dg (a) 9), .int .i64 (dg (a) 10), .int .i64 (dg (a) 11)]) ∧ Ext w w') (NB : ∀ w, Calls Tryd.prog 56 #[.int .u64 b] w fun e w' => e = .returned (.agg #[.bool (false), .int .i64 (dg (b) 0), .int .i64 (dg (b) 1), .int .i64 (dg (b) 2), .int .i64 (dg (b) 3), .int .i64 (dg (b) 4), .int .i64 (dg (b) 5), .int .i64 (dg (b) 6), .int .i64 (dg (b) 7), .int .i64 (dg (b) 8), .int .i64 (dg (b) 9), .int .i64 (dg (b) 10), .int .i64 (dg (b) 11)]) ∧ Ext w w')
    (PM : ∀ w, Calls Tryd.prog 55 #[(.agg #[.bool (false), .int .i64 (dg (a) 0), .int .i64 (dg (a) 1), .int .i64 (dg (a) 2), .int .i64 (dg (a) 3), .int .i64 (dg (a) 4), .int .i64 (dg (a) 5), .int .i64 (dg (a) 6), .int .i64 (dg (a) 7), .int .i64 (dg (a) 8), .int .i64 (dg (a) 9), .int .i64 (dg (a) 10), .int .i64 (dg (a) 11)]), (.agg #[.bool (false), .int .i64 (dg (b) 0), .int .i64 (dg (b) 1), .int .i64 (dg (b) 2), .int .i64 (dg (b) 3), .int .i64 (dg (b) 4), .int .i64 (dg (b) 5), .int .i64 (dg (b) 6), .int .i64 (dg (b) 7), .int .i64 (dg (b) 8), .int .i64 (dg (b) 9), .int .i64 (dg (b) 10), .int .i64 (dg (b) 11)])] w fun e w' => e = .returned (.agg #[.bool (false), .int .i64 (dg (X) 0), .int .i64 (dg (X) 1), .int .i64 (dg (X) 2), .int .i64 (dg (X) 3), .int .i64 (dg (X) 4), .int .i64 (dg (X) 5), .int .i64 (dg (X) 6), .int .i64 (dg (X) 7), .int .i64 (dg (X) 8), .int .i64 (dg (X) 9), .int .i64 (dg (X) 10), .int .i64 (dg (X) 11)]) ∧ Ext w w')
    (TL : ∀ w, Calls Tryd.prog 45 #[(.agg #[.bool (false), .int .i64 (dg (X) 0), .int .i64 (dg (X) 1), .int .i64 (dg (X) 2), .int .i64 (dg (X) 3), .int .i64 (dg (X) 4), .int .i64 (dg (X) 5), .int .i64 (dg (X) 6), .int .i64 (dg (X) 7), .int .i64 (dg (X) 8), .int .i64 (dg (X) 9), .int .i64 (dg (X) 10), .int .i64 (dg (X) 11)])] w fun e w' => e = .returned (.tuple #[(.agg #[.int .i64 (hi (X)), .int .u64 (lo (X))]), .int .i64 0]) ∧ Ext w w')
    (FL : ∀ w, Calls Tryd.prog 69 #[(.agg #[.int .i64 (hi (X)), .int .u64 (lo (X))]), .int .i64 4611686018427387904] w fun e w' => e = .returned (.tuple #[(.agg #[.int .i64 (hi (q)), .int .u64 (lo (q))]), .int .i64 r, .int .i64 0]) ∧ Ext w w') (w : World) :
    Calls Tryd.prog 49 #[.int .u64 a, .int .u64 b] w fun e w' => e = .returned (.int .u64 (lo q)) ∧ Ext w w' := by
  have EX := Ext.refl w
  go_enter Tryd.func49, Tryd.ntmps49
  go_upto_region 2 with (first | (go_at_call 56; with_reducible refine (NA _).mono ?_; rintro e v1 ⟨rfl, hb⟩; replace EX := Ext.trans EX hb; clear hb) | (go_at_call 56; with_reducible refine (NB _).mono ?_; rintro e v1 ⟨rfl, hb⟩; replace EX := Ext.trans EX hb; clear hb) | (go_at_call 55; with_reducible refine (PM _).mono ?_; rintro e v1 ⟨rfl, hb⟩; replace EX := Ext.trans EX hb; clear hb))
  rename World => v
  refine rebase (G := fun w' => Code.wp _ _ _ _ w') _ (fun v1 => Ext w v1 ∧ Nm v1 (v.heap.size) (false) (dg X)) ⟨by repeat (first | with_reducible exact EX | with_reducible refine Ext.alloc ?_ _ | with_reducible refine Ext.drew ?_ | with_reducible refine Ext.drewN ?_ _ | with_reducible refine Ext.setCell ?_ (by first | (simp; done) | omega | (dsimp only; omega)) _), by repeat (first | with_reducible assumption | with_reducible refine Nm.drew ?_ | with_reducible refine Nm.drewN ?_ _ | (with_reducible refine Nm.skip ?_ ?_; focus (first | omega | (simp; done))) | with_reducible refine Nm.store ?_ rfl rfl rfl rfl rfl rfl rfl rfl rfl rfl rfl rfl rfl | with_reducible refine Nm.new (by first | rfl | (simp; done) | with_unfolding_all rfl) (by with_unfolding_all rfl) (all12 (by with_unfolding_all rfl) (by with_unfolding_all rfl) (by with_unfolding_all rfl) (by with_unfolding_all rfl) (by with_unfolding_all rfl) (by with_unfolding_all rfl) (by with_unfolding_all rfl) (by with_unfolding_all rfl) (by with_unfolding_all rfl) (by with_unfolding_all rfl) (by with_unfolding_all rfl) (by with_unfolding_all rfl)) | with_reducible refine Nm.alloc ?_ _ | exact Nm.any (by with_reducible assumption) | with_reducible refine NmAny.drew ?_ | with_reducible refine NmAny.drewN ?_ _ | (with_reducible refine NmAny.skip ?_ ?_; focus (first | omega | (simp; done))) | with_reducible refine NmAny.alloc ?_ _)⟩ ?_; have qw := EX.more; clear EX ; rintro v1 ⟨EX, NX⟩; obtain ⟨b1, hb1⟩ : ∃ b, v.heap.size = b := ⟨_, rfl⟩; rw [hb1] at qw NX ⊢; clear hb1; clear v; rename World => v; have NXsg := NX.sg; have NXdg := NX.dg; have NXfz := NX.fz; have NXlt := NX.lt
  go_upto_region 3 with (first | (go_at_call 45; with_reducible refine (TL _).mono ?_; rintro e v1 ⟨rfl, hb⟩; replace EX := Ext.trans EX hb; replace NX := NX.later hb; replace NXsg := NX.sg; replace NXdg := NX.dg; replace NXfz := NX.fz; replace NXlt := NX.lt; clear hb v; rename World => v))
  refine rebase (G := fun w' => Code.wp _ _ _ _ w') _ (fun v1 => Ext w v1 ∧ Wm v1 (v.heap.size) (hi X) (lo X)) ⟨by repeat (first | with_reducible exact EX | with_reducible refine Ext.alloc ?_ _ | with_reducible refine Ext.drew ?_ | with_reducible refine Ext.drewN ?_ _ | with_reducible refine Ext.setCell ?_ (by first | (simp; done) | omega | (dsimp only; omega)) _), by repeat (first | with_reducible assumption | with_reducible refine Wm.drew ?_ | with_reducible refine Wm.drewN ?_ _ | (with_reducible refine Wm.skip ?_ ?_; focus (first | omega | (simp; done))) | with_reducible refine Wm.store ?_ _ _ | with_reducible refine Wm.new (by first | rfl | (simp; done) | with_unfolding_all rfl) (by with_unfolding_all rfl) (by with_unfolding_all rfl) | with_reducible refine Wm.alloc ?_ _ | exact Wm.any (by with_reducible assumption) | with_reducible refine WmAny.drew ?_ | with_reducible refine WmAny.drewN ?_ _ | (with_reducible refine WmAny.skip ?_ ?_; focus (first | omega | (simp; done))) | with_reducible refine WmAny.alloc ?_ _)⟩ ?_; have qNX := NX.lt; have qw := EX.more; clear NXsg NXdg NXfz NXlt; clear EX NX; rintro v1 ⟨EX, WX⟩; obtain ⟨b2, hb2⟩ : ∃ b, v.heap.size = b := ⟨_, rfl⟩; rw [hb2] at qNX qw WX ⊢; clear hb2; clear v; rename World => v; have WXhi := WX.hi; have WXlo := WX.lo; have WXfz := WX.fz; have WXlt := WX.lt
  go_upto_region 4 with (first | (go_at_call 69; with_reducible refine (FL _).mono ?_; rintro e v1 ⟨rfl, hb⟩; replace EX := Ext.trans EX hb; replace WX := WX.later hb; replace WXhi := WX.hi; replace WXlo := WX.lo; replace WXfz := WX.fz; replace WXlt := WX.lt; clear hb v; rename World => v))
  refine rebase (G := fun w' => Code.wp _ _ _ _ w') _ (fun v1 => Ext w v1 ∧ Wm v1 (v.heap.size) (hi q) (lo q)) ⟨by repeat (first | with_reducible exact EX | with_reducible refine Ext.alloc ?_ _ | with_reducible refine Ext.drew ?_ | with_reducible refine Ext.drewN ?_ _ | with_reducible refine Ext.setCell ?_ (by first | (simp; done) | omega | (dsimp only; omega)) _), by repeat (first | with_reducible assumption | with_reducible refine Wm.drew ?_ | with_reducible refine Wm.drewN ?_ _ | (with_reducible refine Wm.skip ?_ ?_; focus (first | omega | (simp; done))) | with_reducible refine Wm.store ?_ _ _ | with_reducible refine Wm.new (by first | rfl | (simp; done) | with_unfolding_all rfl) (by with_unfolding_all rfl) (by with_unfolding_all rfl) | with_reducible refine Wm.alloc ?_ _ | exact Wm.any (by with_reducible assumption) | with_reducible refine WmAny.drew ?_ | with_reducible refine WmAny.drewN ?_ _ | (with_reducible refine WmAny.skip ?_ ?_; focus (first | omega | (simp; done))) | with_reducible refine WmAny.alloc ?_ _)⟩ ?_; have qWX := WX.lt; have qw := EX.more; clear WXhi WXlo WXfz WXlt; clear EX WX; rintro v1 ⟨EX, WQ⟩; obtain ⟨b3, hb3⟩ : ∃ b, v.heap.size = b := ⟨_, rfl⟩; rw [hb3] at qWX qw WQ ⊢; clear hb3; clear v; rename World => v; have WQhi := WQ.hi; have WQlo := WQ.lo; have WQfz := WQ.fz; have WQlt := WQ.lt
  go_wp2
  go_ret
  exact ⟨rfl, EX⟩
theorem product4_any (a b : Nat) (ha : a < 9223372036854775808) (hb : b < 9223372036854775808) (w : World) : Calls Tryd.prog 49 #[.int .u64 (a : Int), .int .u64 (b : Int)] w fun e w' => e = .returned (.int .u64 ((tm a b : Nat) : Int)) ∧ Ext w w' := by
  have c : ((a * b : Nat) : Int) = (a : Int) * (b : Int) := Int.natCast_mul a b
  have bd : a * b < 9223372036854775808 * 9223372036854775808 := Nat.mul_lt_mul'' ha hb
  have hD : InD ((a : Int) * (b : Int)) := by rw [← c]; unfold InD; omega
  have hW : InW ((a : Int) * (b : Int)) := by rw [← c]; unfold InW; omega
  have PM := fun w => prod_any false false (a : Int) (b : Int) (by unfold InD; omega) w
  rw [show (false != false) = false from rfl] at PM
  have h := product4_walk a b ((a : Int) * (b : Int)) ((a : Int) * (b : Int) / 4611686018427387904) ((a : Int) * (b : Int) % 4611686018427387904) (fun w => num4_any a ⟨by omega, by omega⟩ w) (fun w => num4_any b ⟨by omega, by omega⟩ w) PM (fun w => tell_W false _ _ hD rfl hW w) (fun w => rfloor_any _ 4611686018427387904 hW (by decide) ⟨by decide, by decide⟩ w) w
  have e : lo ((a : Int) * (b : Int) / 4611686018427387904) = ((tm a b : Nat) : Int) := by
    have l := tm_lt ha hb
    unfold tm at *
    rw [← c]
    generalize a * b = m at *
    unfold lo
    omega
  rw [e] at h
  exact h
theorem dbl_step {y : Int} {y0 j : Nat} (h : y * ((2 ^ (62 - j) : Nat) : Int) = (y0 : Int)) (hj : j < 62) : 2 * y * ((2 ^ (62 - (j + 1)) : Nat) : Int) = (y0 : Int) := by
  rw [← h, show 62 - j = (62 - (j + 1)) + 1 by omega, Nat.pow_succ, Int.natCast_mul, Int.mul_comm 2 y, Int.mul_assoc, Int.mul_comm 2]
  rfl
theorem dbl_lt {y : Int} {y0 j : Nat} (h : y * ((2 ^ (62 - j) : Nat) : Int) = (y0 : Int)) (h0 : 0 ≤ y) (hy : y0 < 9223372036854775808) (hj : j < 62) : y < 4611686018427387904 := by
  have h1 := dbl_step h hj
  have h2 : (1 : Int) ≤ ((2 ^ (62 - (j + 1)) : Nat) : Int) := by have := Nat.two_pow_pos (62 - (j + 1)); omega
  have h3 : 2 * y * 1 ≤ 2 * y * ((2 ^ (62 - (j + 1)) : Nat) : Int) := Int.mul_le_mul_of_nonneg_left h2 (by omega)
  omega
set_option maxHeartbeats 8000000 in
theorem long4_walk (n k y0 : Nat) (q : Int) (hk : k ≤ 31) (hn : n ≤ 2147483648) (n0 : 0 < n) (LG : ∀ w, Calls Tryd.prog 48 #[.int .u64 (n : Int)] w fun e w' => e = .returned (.int .i64 (k : Int)) ∧ Ext w w')
    (hy : Hid (n * 2 ^ (62 - k) = y0)) (HB : Hid (Bits n 0 y0 ((k : Int) - 16))) (hq : Hid (LL n = q)) (w : World) :
    Calls Tryd.prog 25 #[.int .u64 (n : Int)] w fun e w' => e = .returned (.int .i64 q) ∧ Ext w w' := by
  have EX := Ext.refl w
  go_enter Tryd.func25, Tryd.ntmps25
  go_wp2_with (first | (go_at_call 48; with_reducible refine (LG _).mono ?_; rintro e v1 ⟨rfl, hb⟩; replace EX := Ext.trans EX hb; clear hb))
  go_loopg [4, 5] 62 (fun gk yv iv wr => ∃ (j : Nat) (y : Int), k ≤ j ∧ j + gk = 62 + k ∧ j ≤ 62 ∧ iv = .int .i64 j ∧ yv = .int .u64 y ∧ 0 ≤ y ∧ Hid (y * ((2 ^ (62 - j) : Nat) : Int) = (y0 : Int)) ∧ Ext w wr)
  case atStart =>
    refine ⟨k, (n : Int), Nat.le_refl _, by omega, by omega, rfl, rfl, by omega, ?_, EX⟩
    show (n : Int) * ((2 ^ (62 - k) : Nat) : Int) = (y0 : Int)
    rw [← hy, Int.natCast_mul]
  case round =>
    obtain ⟨j, y, hkj, hj, hj2, rfl, rfl, yz, HY, EX⟩ := hrel
    by_cases hlt : j < 62
    · have hji : (j : Int) < 62 := by omega
      have y1 := dbl_lt HY yz HB.2.2.2.1 hlt
      have HN : Hid (2 * y * ((2 ^ (62 - (j + 1)) : Nat) : Int) = (y0 : Int)) := dbl_step HY hlt
      clear HY hy
      go_wp2
      go_roundg (gk - 1)
      case measure => omega
      case rel => exact ⟨j + 1, 2 * y, by omega, by omega, by omega, by go_num, rfl, by omega, HN, EX⟩
    · have hji : ¬ ((j : Int) < 62) := by omega
      have hjj : j = 62 := by omega
      have ey : y = (y0 : Int) := by
        have h := HY.out
        rw [hjj, Nat.sub_self, Nat.pow_zero] at h
        omega
      subst ey
      clear HY hy yz
      go_wp2
      go_loopg [4, 6, 7] 40 (fun gk yv lv iv wr => ∃ (j y : Nat) (l : Int), j + gk = 40 ∧ iv = .int .i64 j ∧ yv = .int .u64 y ∧ lv = .int .i64 l ∧ Hid (Bits n j y l) ∧ Ext w wr)
      case atStart => exact ⟨0, y0, (k : Int) - 16, rfl, rfl, rfl, rfl, HB, EX⟩
      case round =>
        clear HB
        obtain ⟨j, y, l, hj, rfl, rfl, rfl, HB, EX⟩ := hrel
        by_cases hlt : j < 40
        · have hji : (j : Int) < 40 := by omega
          obtain ⟨l0, l1⟩ := HB.low
          obtain ⟨r, hr⟩ : ∃ r, tm y y = r := ⟨_, rfl⟩
          have TM := fun w => product4_any y y HB.2.2.2.1 HB.2.2.2.1 w
          have rl := tm_lt HB.2.2.2.1 HB.2.2.2.1
          rw [hr] at TM rl
          by_cases hy : r < 9223372036854775808
          · have HN : Hid (Bits n (j + 1) r (l * 2)) := by rw [← hr]; exact HB.no hlt (by rw [hr]; exact hy)
            obtain ⟨z, hz⟩ : ∃ z : Int, (r : Int) = z := ⟨_, rfl⟩
            have hyi : ¬ (9223372036854775808 : Int) ≤ z := by omega
            have hz0 : 0 ≤ z := by omega
            have hz1 : z < 18446744073709551616 := by omega
            rw [hz] at TM
            have HZ : Hid ((r : Int) = z) := hz
            clear HB hr hy rl hz
            go_wp2_with (first | (go_at_call 49; with_reducible refine (TM _).mono ?_; rintro e v1 ⟨rfl, hb⟩; replace EX := Ext.trans EX hb; clear hb))
            go_roundg (gk - 1)
            case measure => omega
            case rel => exact ⟨j + 1, r, l * 2, by omega, by go_num, by rw [HZ.out], by rw [Int.mul_comm], HN, EX⟩
          · have HN : Hid (Bits n (j + 1) (r / 2) (l * 2 + 1)) := by rw [← hr]; exact HB.yes hlt (by rw [hr]; exact hy)
            obtain ⟨z, hz⟩ : ∃ z : Int, (r : Int) = z := ⟨_, rfl⟩
            have hyi : (9223372036854775808 : Int) ≤ z := by omega
            have hz0 : 0 ≤ z := by omega
            have hz1 : z < 18446744073709551616 := by omega
            rw [hz] at TM
            have HZ : Hid ((r : Int) = z) := hz
            clear HB hr hy rl hz
            go_wp2_with (first | (go_at_call 49; with_reducible refine (TM _).mono ?_; rintro e v1 ⟨rfl, hb⟩; replace EX := Ext.trans EX hb; clear hb))
            go_roundg (gk - 1)
            case measure => omega
            case rel => exact ⟨j + 1, r / 2, l * 2 + 1, by omega, by go_num, by rw [Int.natCast_ediv, HZ.out]; rfl, by rw [Int.mul_comm], HN, EX⟩
        · have hji : ¬ ((j : Int) < 40) := by omega
          have HD : Hid (q = l) := by
            rw [← hq]
            have : j = 40 := by omega
            subst this
            exact Bits.done HB
          go_wp2
          go_ret
          exact ⟨by rw [HD.out]; rfl, EX⟩
theorem long4_any (n : Nat) (h0 : 0 < n) (h1 : n ≤ 2147483648) (w : World) : Calls Tryd.prog 25 #[.int .u64 (n : Int)] w fun e w' => e = .returned (.int .i64 (LL n)) ∧ Ext w w' := by
  have hu : InU64 (n : Int) := ⟨by omega, by omega⟩
  obtain ⟨k, hk, _, g1, g2⟩ := lg_pow hu (by omega)
  have g1' : 2 ^ k ≤ n := by omega
  have g2' : n < 2 ^ (k + 1) := by omega
  have hk31 : k ≤ 31 := by
    rcases Nat.lt_or_ge k 32 with h | h
    · omega
    · have : 2 ^ 32 ≤ 2 ^ k := Nat.pow_le_pow_right (by decide) h
      rw [show (2 : Nat) ^ 32 = 4294967296 from rfl] at this
      omega
  exact long4_walk n k (n * 2 ^ (62 - k)) _ hk31 h1 h0 (fun w => by rw [← hk]; exact rLog_any n hu w) rfl (Bits.start g1' g2' hk31) rfl w
end Go.Proofs.YtbkifcfienhkaaaDoor
