/- What math/bits.Mul64, wides.takeSign, wides.putSign, wides.product, wides.Times and wides.Mul do, called at any arguments. -/
import Derived.Test.YthmgilikokcibaaWideC
import Derived.Test.YthmgilikokcibaaWideM
import Derived.Lib.Mul64
namespace Go.Proofs.Ythmgilikokcibaa
open Go.RowKit Go.BigFrame
set_option linter.unusedSimpArgs false

set_option maxHeartbeats 1000000 in
theorem takeSign_any (x : Int) (hx : InW x) (w : World) : Calls Try.prog 59 #[(.agg #[.int .i64 (hi (x)), .int .u64 (lo (x))])] w fun e w' => e = .returned (.agg #[.bool (decide (x < 0)), .int .u64 (lo (ab x)), .int .u64 (hi (ab x))]) ∧ Ext w w' := by
  have d0 := fun w => diff_any 0 (um x) ⟨by decide, by decide⟩ (um_in x) w
  simp only [show lo 0 = 0 from rfl, show hi 0 = 0 from rfl] at d0
  by_cases hn : x < 0
  · rw [ab_neg hx hn] at d0
    have hh : hi x < 0 := by rw [hi_neg]; exact hn
    go_enter Try.func59, Try.ntmps59
    go_wp2_with (first
      | (go_at_call 39; refine (wordsOf_any _ _).mono ?_; rintro e w1 ⟨rfl, hb⟩)
      | (go_at_call 38; refine (d0 _).mono ?_; rintro e w2 ⟨rfl, hc⟩; have k0 := Ext.later (Ext.trans hb hc) (p := ⟨w.heap.size + 1, 0, none⟩) (v := .bool false) (by go_simp); have k1 := Ext.later (Ext.trans hb hc) (p := ⟨w.heap.size + 1, 1, none⟩) (v := .int .u64 0) (by go_simp); have k2 := Ext.later (Ext.trans hb hc) (p := ⟨w.heap.size + 1, 2, none⟩) (v := .int .u64 0) (by go_simp); have z0 := Ext.thaw (Ext.trans hb hc) (p := ⟨w.heap.size + 1, 0, none⟩) (v := .bool false) (by go_simp) (by go_simp); have z1 := Ext.thaw (Ext.trans hb hc) (p := ⟨w.heap.size + 1, 1, none⟩) (v := .int .u64 0) (by go_simp) (by go_simp); have z2 := Ext.thaw (Ext.trans hb hc) (p := ⟨w.heap.size + 1, 2, none⟩) (v := .int .u64 0) (by go_simp) (by go_simp)))
    refine bodyPost_ret (by simp only [results, Try.results59]; simp [go_sem, *]; try rfl) rfl ⟨by simp [*], ?_⟩
    refine Ext.setCell (Ext.setCell (Ext.setCell (Ext.trans (Ext.trans (Ext.alloc (Ext.alloc (Ext.refl _) _) _) hb) hc) ?_ _) ?_ _) ?_ _ <;> simp
  · have hh : ¬ hi x < 0 := by rw [hi_neg]; exact hn
    rw [← ab_pos hx hn]
    go_enter Try.func59, Try.ntmps59
    go_wp2_with (go_at_call 39; refine (wordsOf_any _ _).mono ?_; rintro e w1 ⟨rfl, hb⟩; have k0 := Ext.later hb (p := ⟨w.heap.size + 1, 0, none⟩) (v := .bool false) (by go_simp); have k1 := Ext.later hb (p := ⟨w.heap.size + 1, 1, none⟩) (v := .int .u64 0) (by go_simp); have k2 := Ext.later hb (p := ⟨w.heap.size + 1, 2, none⟩) (v := .int .u64 0) (by go_simp); have z0 := Ext.thaw hb (p := ⟨w.heap.size + 1, 0, none⟩) (v := .bool false) (by go_simp) (by go_simp); have z1 := Ext.thaw hb (p := ⟨w.heap.size + 1, 1, none⟩) (v := .int .u64 0) (by go_simp) (by go_simp); have z2 := Ext.thaw hb (p := ⟨w.heap.size + 1, 2, none⟩) (v := .int .u64 0) (by go_simp) (by go_simp))
    refine bodyPost_ret (by simp only [results, Try.results59]; simp [go_sem, *]; try rfl) rfl ⟨by simp [*], ?_⟩
    refine Ext.setCell (Ext.setCell (Ext.setCell (Ext.trans (Ext.alloc (Ext.alloc (Ext.refl _) _) _) hb) ?_ _) ?_ _) ?_ _ <;> simp

@[go_sem] theorem eq_words (n : Nat) (a b c d : Int) (w : World) : (Op.equalIn (n + 2) 75 (.agg #[.int .u64 a, .int .u64 b]) (.agg #[.int .u64 c, .int .u64 d])).run Try.prog w = .ok (a == c && b == d) w := by
  have := eq_ints (P := Try.prog) (d := n) (t := 75) (e := 28) (k := .u64) (n := 2) (by kernel_rfl) (by kernel_rfl) (fun w => by go_simp) (fun w => by go_simp) [a, b] [c, d] rfl rfl w
  simpa using this
theorem hi_top {m : Int} (hm : InU m) (h : m < 170141183460469231731687303715884105728) : hi m / 9223372036854775808 = 0 := by unfold hi InU at *; omega
theorem hi_top' {m : Int} (hm : InU m) (h : ¬ m < 170141183460469231731687303715884105728) : hi m / 9223372036854775808 = 1 := by unfold hi InU at *; omega
set_option maxHeartbeats 1000000 in
theorem putSign_any (neg : Bool) (m : Int) (hm : InU m) (w : World) : Calls Try.prog 61 #[.agg #[.bool neg, .int .u64 (lo m), .int .u64 (hi m)]] w fun e w' => e = .returned (.tuple #[(.agg #[.int .i64 (hi (fit (sg neg m))), .int .u64 (lo (fit (sg neg m)))]), .int .i64 (err (sg neg m))]) ∧ Ext w w' := by
  have d0 := fun w => diff_any 0 m ⟨by decide, by decide⟩ hm w
  simp only [show lo 0 = 0 from rfl, show hi 0 = 0 from rfl] at d0
  by_cases h : m < 170141183460469231731687303715884105728
  · have hh := hi_top hm h
    have hz : InW (sg neg m) := by unfold sg InW InU at *; split <;> omega
    have hz2 : sg neg m = if neg then sm (um (0 - m)) else sm m := by unfold sg sm um InU at *; split <;> omega
    rw [(fit_of hz).1, (fit_of hz).2, hz2]
    cases neg
    · clear d0 hz hz2 h hm
      go_enter Try.func61, Try.ntmps61
      go_wp2_with (go_at_call 37; refine (wideOf_any _ _).mono ?_; rintro e w1 ⟨rfl, hb⟩; have k0 := Ext.later hb (p := ⟨w.heap.size + 1, 0, none⟩) (v := .int .i64 0) (by go_simp); have k1 := Ext.later hb (p := ⟨w.heap.size + 1, 1, none⟩) (v := .int .u64 0) (by go_simp); have z0 := Ext.thaw hb (p := ⟨w.heap.size + 1, 0, none⟩) (v := .int .i64 0) (by go_simp) (by go_simp); have z1 := Ext.thaw hb (p := ⟨w.heap.size + 1, 1, none⟩) (v := .int .u64 0) (by go_simp) (by go_simp))
      refine bodyPost_ret (by simp only [results, Try.results61]; simp [go_sem, *]; try rfl) rfl ⟨by simp [*], ?_⟩
      refine Ext.setCell (Ext.setCell (Ext.trans (Ext.alloc (Ext.alloc (Ext.alloc (Ext.refl _) _) _) _) hb) ?_ _) ?_ _ <;> simp
    · clear hz hz2 h hm
      go_enter Try.func61, Try.ntmps61
      go_wp2_with (first
        | (go_at_call 38; refine (d0 _).mono ?_; rintro e w1 ⟨rfl, hb⟩)
        | (go_at_call 37; refine (wideOf_any _ _).mono ?_; rintro e w2 ⟨rfl, hc⟩; have k0 := Ext.later (Ext.trans hb hc) (p := ⟨w.heap.size + 1, 0, none⟩) (v := .int .i64 0) (by go_simp); have k1 := Ext.later (Ext.trans hb hc) (p := ⟨w.heap.size + 1, 1, none⟩) (v := .int .u64 0) (by go_simp); have z0 := Ext.thaw (Ext.trans hb hc) (p := ⟨w.heap.size + 1, 0, none⟩) (v := .int .i64 0) (by go_simp) (by go_simp); have z1 := Ext.thaw (Ext.trans hb hc) (p := ⟨w.heap.size + 1, 1, none⟩) (v := .int .u64 0) (by go_simp) (by go_simp)))
      refine bodyPost_ret (by simp only [results, Try.results61]; simp [go_sem, *]; try rfl) rfl ⟨by simp [*], ?_⟩
      refine Ext.setCell (Ext.setCell (Ext.trans (Ext.trans (Ext.alloc (Ext.alloc (Ext.alloc (Ext.refl _) _) _) _) hb) hc) ?_ _) ?_ _ <;> simp
  · have hh := hi_top' hm h
    by_cases hL : neg = true ∧ m = 170141183460469231731687303715884105728
    · obtain ⟨rfl, rfl⟩ := hL
      rw [show fit (sg true 170141183460469231731687303715884105728) = sm (um (0 - 170141183460469231731687303715884105728)) by decide, show err (sg true 170141183460469231731687303715884105728) = 0 by decide]
      rw [show lo 170141183460469231731687303715884105728 = 0 by decide, show hi 170141183460469231731687303715884105728 = 9223372036854775808 by decide] at *
      clear hh h hm
      go_enter Try.func61, Try.ntmps61
      go_wp2_with (first
        | (go_at_call 38; refine (d0 _).mono ?_; rintro e w1 ⟨rfl, hb⟩)
        | (go_at_call 37; refine (wideOf_any _ _).mono ?_; rintro e w2 ⟨rfl, hc⟩; have k0 := Ext.later (Ext.trans hb hc) (p := ⟨w.heap.size + 1, 0, none⟩) (v := .int .i64 0) (by go_simp); have k1 := Ext.later (Ext.trans hb hc) (p := ⟨w.heap.size + 1, 1, none⟩) (v := .int .u64 0) (by go_simp); have z0 := Ext.thaw (Ext.trans hb hc) (p := ⟨w.heap.size + 1, 0, none⟩) (v := .int .i64 0) (by go_simp) (by go_simp); have z1 := Ext.thaw (Ext.trans hb hc) (p := ⟨w.heap.size + 1, 1, none⟩) (v := .int .u64 0) (by go_simp) (by go_simp)))
      refine bodyPost_ret (by simp only [results, Try.results61]; simp [go_sem, *]; try rfl) rfl ⟨by simp [*], ?_⟩
      refine Ext.setCell (Ext.setCell (Ext.trans (Ext.trans (Ext.alloc (Ext.alloc (Ext.alloc (Ext.refl _) _) _) _) hb) hc) ?_ _) ?_ _ <;> simp
    · have hz : ¬ InW (sg neg m) := by
        unfold sg InW InU at *
        cases neg
        · simp; omega
        · simp at hL ⊢; omega
      rw [(fit_no hz).1, (fit_no hz).2]
      have hne : neg = false ∨ (neg = true ∧ ¬ (lo m = 0)) ∨ (neg = true ∧ lo m = 0 ∧ ¬ (hi m = 9223372036854775808)) := by
        cases neg
        · exact .inl rfl
        · refine .inr ?_
          by_cases h0 : lo m = 0
          · refine .inr ⟨rfl, h0, fun h1 => hL ⟨rfl, ?_⟩⟩
            have := hilo m
            omega
          · exact .inl ⟨rfl, h0⟩
      clear hz hL d0 h hm
      simp only [show lo 0 = 0 from rfl, show hi 0 = 0 from rfl]
      rcases hne with rfl | ⟨rfl, h1⟩ | ⟨rfl, h1, h2⟩
      all_goals
        go_enter Try.func61, Try.ntmps61
        go_wp2
        refine bodyPost_ret (by simp only [results, Try.results61]; simp [go_sem, *]; try rfl) rfl ⟨by simp [*], ?_⟩
        exact Ext.alloc (Ext.alloc (Ext.alloc (Ext.refl _) _) _) _

theorem mul_bd (a b : Int) (ha : InU64 a) (hb : InU64 b) : 0 ≤ a * b ∧ a * b ≤ 340282366920938463426481119284349108225 := by
  unfold InU64 at *
  exact ⟨Int.mul_nonneg ha.1 hb.1, Int.le_trans (Int.mul_le_mul (show a ≤ 18446744073709551615 by omega) (show b ≤ 18446744073709551615 by omega) hb.1 (by decide)) (by decide)⟩
set_option maxHeartbeats 2000000 in
theorem product_any (m n : Int) (hm : InU m) (hn : InU64 n) (w : World) : Calls Try.prog 60 #[(.agg #[.int .u64 (lo (m)), .int .u64 (hi (m))]), .int .u64 n] w fun e w' => e = .returned (.tuple #[(.agg #[.int .u64 (lo (um (m * n))), .int .u64 (hi (um (m * n)))]), .int .u64 (m * n / 340282366920938463463374607431768211456)]) ∧ Ext w w' := by
  have hA := mul_bd (lo m) n (lo_in m) hn
  have hB := mul_bd (hi m) n (hi_inU hm) hn
  have hmn : m * n = hi m * n * 18446744073709551616 + lo m * n := by
    rw [Int.mul_right_comm, ← Int.add_mul, hilo]
  have M1 := fun w => mul64_any (lo m) n (lo_in m) hn w
  have M2 := fun w => mul64_any (hi m) n (hi_inU hm) hn w
  rw [hmn]
  clear hmn
  generalize lo m * n = A at *
  generalize hi m * n = B at *
  have hhA : 0 ≤ hi A ∧ hi A ≤ 18446744073709551614 := by unfold hi; omega
  have hhB : 0 ≤ hi B ∧ hi B ≤ 18446744073709551614 := by unfold hi; omega
  obtain ⟨s0, k0, r0, p1, p2, p3, p4, p5⟩ := add64_run (lo A) 0 0 (lo_in A) ⟨by decide, by decide⟩ (Int.le_refl 0) (by decide)
  have w1 : IntKind.u64.wrap (hi A + k0) = hi A + k0 := wrap_in _ ⟨by omega, by omega⟩
  obtain ⟨s1, k1, r1, q1, q2, q3, q4, q5⟩ := add64_run (lo B) (hi A + k0) 0 (lo_in B) ⟨by omega, by omega⟩ (Int.le_refl 0) (by decide)
  have w2 : IntKind.u64.wrap (hi B + k1) = hi B + k1 := wrap_in _ ⟨by omega, by omega⟩
  have hlA := hilo A; have hlB := hilo B
  have hu := lo_in A; have hv := lo_in B
  have e0 : lo (um (B * 18446744073709551616 + A)) = s0 := by unfold InU64 at *; generalize hi A = hA at *; generalize lo A = lA at *; generalize hi B = hB at *; generalize lo B = lB at *; unfold um lo at *; omega
  have e1 : hi (um (B * 18446744073709551616 + A)) = s1 := by unfold InU64 at *; generalize hi A = hA at *; generalize lo A = lA at *; generalize hi B = hB at *; generalize lo B = lB at *; unfold um hi at *; omega
  have e2 : (B * 18446744073709551616 + A) / 340282366920938463463374607431768211456 = hi B + k1 := by unfold InU64 at *; generalize hi A = hA at *; generalize lo A = lA at *; generalize hi B = hB at *; generalize lo B = lB at *; omega
  rw [e0, e1, e2]
  clear e0 e1 e2 hu hv hlA hlB q1 q2 q3 q4 q5 p1 p2 p3 p4 p5 hhA hhB hA hB hm hn
  go_enter Try.func60, Try.ntmps60
  go_wp2
  refine wp_loop_rounds 3 ?_; rw [rounds_succ]
  go_wp2_with (go_at_call 68; refine (M1 _).mono ?_; rintro e w' ⟨rfl, rfl⟩)
  rw [rounds_succ]
  go_wp2_with (go_at_call 68; refine (M2 _).mono ?_; rintro e w' ⟨rfl, rfl⟩)
  rw [rounds_succ]
  go_wp2
  refine bodyPost_ret (by simp only [results, Try.results60]; simp [go_sem]; try rfl) rfl ⟨rfl, ?_⟩
  repeat (first | exact Ext.refl _ | refine Ext.drew ?_ | refine Ext.alloc ?_ _)
end Go.Proofs.Ythmgilikokcibaa
