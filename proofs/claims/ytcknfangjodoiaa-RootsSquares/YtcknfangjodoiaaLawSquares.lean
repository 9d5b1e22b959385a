/- The walk of the given function RootsSquares: it returns true at every number of 32 bits and every number of 64. -/
import Derived.Test.YtcknfangjodoiaaRootD
namespace Go.Proofs.Ytcknfangjodoiaa
open Go.RowKit Go.BigFrame
set_option linter.unusedSimpArgs false
set_option linter.unusedVariables false

set_option maxHeartbeats 8000000 in
theorem squares_walk (n m c k H L G K r : Int) (n0 : 0 ≤ n) (n1 : n ≤ 4294967295) (m0 : 0 ≤ m) (m1 : m < 18446744073709551616) (hc : IntKind.u64.wrap (n * n) = c) (cn : n = 0 ∨ 0 < n ∧ 1 ≤ c ∧ c < 18446744073709551616)
    (hk : m % 13043817825332782213 = k) (k0 : 0 ≤ k) (k1 : k < 13043817825332782213) (H0 : 0 ≤ H) (H1 : H ≤ 9223372036854775807) (L0 : 0 ≤ L) (L1 : L < 18446744073709551616)
    (hL : 0 < k → L = 0 ∧ 1 ≤ H ∧ G = H - 1 ∧ K = IntKind.u64.wrap (-1) ∨ 1 ≤ L ∧ G = H ∧ K = L - 1) (hr : r = k - 1)
    (R1 : ∀ w, Calls Try.prog 13 #[.int .u64 c] w fun e w' => e = .returned (.int .u64 n) ∧ Ext w w')
    (R2 : 0 < n → ∀ w, Calls Try.prog 13 #[.int .u64 (c - 1)] w fun e w' => e = .returned (.int .u64 (n - 1)) ∧ Ext w w')
    (PR : ∀ w, Calls Try.prog 18 #[.int .u64 k, .int .u64 k] w fun e w' => e = .returned (.tuple #[.int .u64 H, .int .u64 L]) ∧ Ext w w')
    (W1 : ∀ w, Calls Try.prog 9 #[.agg #[.int .i64 H, .int .u64 L]] w fun e w' => e = .returned (.tuple #[.int .u64 k, .int .i64 0]) ∧ Ext w w')
    (W2 : 0 < k → ∀ w, Calls Try.prog 9 #[.agg #[.int .i64 G, .int .u64 K]] w fun e w' => e = .returned (.tuple #[.int .u64 r, .int .i64 0]) ∧ Ext w w') (w : World) :
    Calls Try.prog 5 #[.int .u32 n, .int .u64 m] w fun e w' => e = .returned (.bool true) ∧ Ext w w' := by
  have EX := Ext.refl w
  have LV := lives_any
  subst hr
  rcases cn with rfl | ⟨np, c0, c1⟩
  · clear R2
    obtain rfl : c = 0 := by rw [← hc]; decide
    clear hc
    by_cases kz : k = 0
    · subst kz
      clear hL W2
      go_enter Try.func5, Try.ntmps5
      go_wp2_with (first | (go_at_call 13; with_reducible refine (R1 _).mono ?_; rintro e v1 ⟨rfl, hb⟩; replace EX := Ext.trans EX hb; clear hb) | (go_at_call 9; with_reducible refine (W1 _).mono ?_; rintro e v1 ⟨rfl, hb⟩; replace EX := Ext.trans EX hb; clear hb) | (go_at_call 18; with_reducible refine (PR _).mono ?_; rintro e v1 ⟨rfl, hb⟩; replace EX := Ext.trans EX hb; clear hb) | (go_at_call 17; with_reducible refine (LV _).mono ?_; rintro e v1 ⟨rfl, hb⟩; replace EX := Ext.trans EX hb; clear hb))
      all_goals (go_ret; exact ⟨rfl, EX⟩)
    · have kp : 0 < k := by omega
      have kb : (k == 0) = false := by simp; omega
      replace W2 := W2 kp
      rcases hL kp with ⟨rfl, h1, rfl, rfl⟩ | ⟨h1, hG, rfl⟩
      · clear hL kz
        go_enter Try.func5, Try.ntmps5
        go_wp2_with (first | (go_at_call 13; with_reducible refine (R1 _).mono ?_; rintro e v1 ⟨rfl, hb⟩; replace EX := Ext.trans EX hb; clear hb) | (go_at_call 9; with_reducible refine (W1 _).mono ?_; rintro e v1 ⟨rfl, hb⟩; replace EX := Ext.trans EX hb; clear hb) | (go_at_call 9; with_reducible refine (W2 _).mono ?_; rintro e v1 ⟨rfl, hb⟩; replace EX := Ext.trans EX hb; clear hb) | (go_at_call 18; with_reducible refine (PR _).mono ?_; rintro e v1 ⟨rfl, hb⟩; replace EX := Ext.trans EX hb; clear hb) | (go_at_call 17; with_reducible refine (LV _).mono ?_; rintro e v1 ⟨rfl, hb⟩; replace EX := Ext.trans EX hb; clear hb))
        all_goals (go_ret; exact ⟨rfl, EX⟩)
      · clear hL kz
        rw [hG] at W2
        clear hG
        have lb : (L == 0) = false := by simp; omega
        go_enter Try.func5, Try.ntmps5
        go_wp2_with (first | (go_at_call 13; with_reducible refine (R1 _).mono ?_; rintro e v1 ⟨rfl, hb⟩; replace EX := Ext.trans EX hb; clear hb) | (go_at_call 9; with_reducible refine (W1 _).mono ?_; rintro e v1 ⟨rfl, hb⟩; replace EX := Ext.trans EX hb; clear hb) | (go_at_call 9; with_reducible refine (W2 _).mono ?_; rintro e v1 ⟨rfl, hb⟩; replace EX := Ext.trans EX hb; clear hb) | (go_at_call 18; with_reducible refine (PR _).mono ?_; rintro e v1 ⟨rfl, hb⟩; replace EX := Ext.trans EX hb; clear hb) | (go_at_call 17; with_reducible refine (LV _).mono ?_; rintro e v1 ⟨rfl, hb⟩; replace EX := Ext.trans EX hb; clear hb))
        all_goals (go_ret; exact ⟨rfl, EX⟩)
  · replace R2 := R2 np
    by_cases kz : k = 0
    · subst kz
      clear hL W2
      go_enter Try.func5, Try.ntmps5
      go_wp2_with (first | (go_at_call 13; with_reducible refine (R1 _).mono ?_; rintro e v1 ⟨rfl, hb⟩; replace EX := Ext.trans EX hb; clear hb) | (go_at_call 13; with_reducible refine (R2 _).mono ?_; rintro e v1 ⟨rfl, hb⟩; replace EX := Ext.trans EX hb; clear hb) | (go_at_call 9; with_reducible refine (W1 _).mono ?_; rintro e v1 ⟨rfl, hb⟩; replace EX := Ext.trans EX hb; clear hb) | (go_at_call 18; with_reducible refine (PR _).mono ?_; rintro e v1 ⟨rfl, hb⟩; replace EX := Ext.trans EX hb; clear hb) | (go_at_call 17; with_reducible refine (LV _).mono ?_; rintro e v1 ⟨rfl, hb⟩; replace EX := Ext.trans EX hb; clear hb))
      all_goals (go_ret; exact ⟨rfl, EX⟩)
    · have kp : 0 < k := by omega
      have kb : (k == 0) = false := by simp; omega
      replace W2 := W2 kp
      rcases hL kp with ⟨rfl, h1, rfl, rfl⟩ | ⟨h1, hG, rfl⟩
      · clear hL kz
        go_enter Try.func5, Try.ntmps5
        go_wp2_with (first | (go_at_call 13; with_reducible refine (R1 _).mono ?_; rintro e v1 ⟨rfl, hb⟩; replace EX := Ext.trans EX hb; clear hb) | (go_at_call 13; with_reducible refine (R2 _).mono ?_; rintro e v1 ⟨rfl, hb⟩; replace EX := Ext.trans EX hb; clear hb) | (go_at_call 9; with_reducible refine (W1 _).mono ?_; rintro e v1 ⟨rfl, hb⟩; replace EX := Ext.trans EX hb; clear hb) | (go_at_call 9; with_reducible refine (W2 _).mono ?_; rintro e v1 ⟨rfl, hb⟩; replace EX := Ext.trans EX hb; clear hb) | (go_at_call 18; with_reducible refine (PR _).mono ?_; rintro e v1 ⟨rfl, hb⟩; replace EX := Ext.trans EX hb; clear hb) | (go_at_call 17; with_reducible refine (LV _).mono ?_; rintro e v1 ⟨rfl, hb⟩; replace EX := Ext.trans EX hb; clear hb))
        all_goals (go_ret; exact ⟨rfl, EX⟩)
      · clear hL kz
        rw [hG] at W2
        clear hG
        have lb : (L == 0) = false := by simp; omega
        go_enter Try.func5, Try.ntmps5
        go_wp2_with (first | (go_at_call 13; with_reducible refine (R1 _).mono ?_; rintro e v1 ⟨rfl, hb⟩; replace EX := Ext.trans EX hb; clear hb) | (go_at_call 13; with_reducible refine (R2 _).mono ?_; rintro e v1 ⟨rfl, hb⟩; replace EX := Ext.trans EX hb; clear hb) | (go_at_call 9; with_reducible refine (W1 _).mono ?_; rintro e v1 ⟨rfl, hb⟩; replace EX := Ext.trans EX hb; clear hb) | (go_at_call 9; with_reducible refine (W2 _).mono ?_; rintro e v1 ⟨rfl, hb⟩; replace EX := Ext.trans EX hb; clear hb) | (go_at_call 18; with_reducible refine (PR _).mono ?_; rintro e v1 ⟨rfl, hb⟩; replace EX := Ext.trans EX hb; clear hb) | (go_at_call 17; with_reducible refine (LV _).mono ?_; rintro e v1 ⟨rfl, hb⟩; replace EX := Ext.trans EX hb; clear hb))
        all_goals (go_ret; exact ⟨rfl, EX⟩)
theorem rt_less {k : Int} (h : 0 < k) : rt (k * k - 1) = k - 1 := by
  have e : (k - 1) * (k - 1) = k * k - 2 * k + 1 := by
    rw [Int.sub_mul, Int.mul_sub, Int.mul_one, Int.one_mul]; omega
  refine rt_of (by omega) (by omega) ?_
  rw [Int.sub_add_cancel]
  omega
theorem squares_law (n m : Int) (hn : 0 ≤ n ∧ n ≤ 4294967295) (hm : InU64 m) (w : World) :
    Calls Try.prog 5 #[.int .u32 n, .int .u64 m] w fun e w' => e = .returned (.bool true) ∧ Ext w w' := by
  obtain ⟨n0, n1⟩ := hn
  obtain ⟨m0, m1⟩ := hm
  have hs := half_mul n0 n1 n0 n1
  have hk0 : 0 ≤ m % 13043817825332782213 := by omega
  have hk1 : m % 13043817825332782213 < 13043817825332782213 := by omega
  obtain ⟨k, hk⟩ : ∃ k, m % 13043817825332782213 = k := ⟨_, rfl⟩
  rw [hk] at hk0 hk1
  have q0 := Int.mul_nonneg hk0 hk0
  have q1 := sq_le hk0 (show k ≤ 13043817825332782212 by omega)
  have q2 : k * k ≤ 170141183460469231722567801800623612944 := by
    have : (13043817825332782212 : Int) * 13043817825332782212 = 170141183460469231722567801800623612944 := by decide
    omega
  have qW : InW (k * k) := by unfold InW; omega
  have R1 := fun w => root_at (n * n) ⟨hs.1, by omega⟩ w
  rw [rt_sq n0] at R1
  have PR := fun w => prod4_any k k ⟨hk0, by omega⟩ ⟨hk0, by omega⟩ w
  have W1 := fun w => rootWide_any (k * k) qW q0 w
  rw [rt_sq hk0] at W1
  refine squares_walk n m (n * n) k (hi (k * k)) (lo (k * k)) (hi (k * k - 1)) (lo (k * k - 1)) (k - 1) n0 n1 m0 m1 (u64_id hs.1 (by omega)) ?_ hk hk0 hk1 ?_ ?_ (lo_0 _) (lo_1 _) ?_ rfl R1 ?_ PR W1 ?_ w
  · rcases Int.lt_or_le 0 n with h | h
    · refine .inr ⟨h, ?_, by omega⟩
      have := sq_le (show (0 : Int) ≤ 1 by decide) (show 1 ≤ n by omega)
      omega
    · exact .inl (by omega)
  · unfold hi; omega
  · unfold hi; omega
  · intro kp
    have := sq_le (show (0 : Int) ≤ 1 by decide) (show 1 ≤ k by omega)
    rw [show IntKind.u64.wrap (-1) = 18446744073709551615 by rw [u64_wrap]; decide]
    unfold hi lo
    generalize k * k = z at *
    omega
  · intro np
    have := sq_le (show (0 : Int) ≤ 1 by decide) (show 1 ≤ n by omega)
    have R2 := fun w => root_at (n * n - 1) ⟨by omega, by omega⟩ w
    rw [rt_less np] at R2
    exact R2
  · intro kp
    have := sq_le (show (0 : Int) ≤ 1 by decide) (show 1 ≤ k by omega)
    have W2 := fun w => rootWide_any (k * k - 1) (by unfold InW; omega) (by omega) w
    rw [rt_less kp] at W2
    exact W2
end Go.Proofs.Ytcknfangjodoiaa
