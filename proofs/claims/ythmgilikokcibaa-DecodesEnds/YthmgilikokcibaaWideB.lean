/- What wides.sum, wides.difference, wides.Add and wides.Sub do, called at any arguments. -/
import Derived.Test.YthmgilikokcibaaWideA
import Derived.Shelf.Spec.BitsCarry
namespace Go.Proofs.Ythmgilikokcibaa
open Go.RowKit Go.BigFrame
set_option linter.unusedSimpArgs false

theorem add64_run (x y c : Int) (hx : InU64 x) (hy : InU64 y) (hc0 : 0 ≤ c) (hc : c ≤ 1) :
    ∃ s k : Int, (∀ w, (callFunc 62 #[.int .u64 x, .int .u64 y, .int .u64 c]).run Try.prog w = .ok (.value (.tuple #[.int .u64 s, .int .u64 k])) w) ∧ 0 ≤ s ∧ s < 18446744073709551616 ∧ 0 ≤ k ∧ k ≤ 1 ∧ x + y + c = k * 18446744073709551616 + s := by
  unfold InU64 at hx hy
  refine ⟨(x + y + c) % 18446744073709551616, (x + y + c) / 18446744073709551616, fun w => ?_, by omega, by omega, by omega, by omega, by omega⟩
  rw [run_callFunc_extern Try.func62 (by kernel_rfl) (by kernel_rfl) (by kernel_rfl) (e := add64Entry) (by kernel_rfl), run_add64 x y c hx.1 hy.1 hc0 hc]
  simp only [Result.andThen]
theorem sub64_run (x y c : Int) (hx : InU64 x) (hy : InU64 y) (hc0 : 0 ≤ c) (hc : c ≤ 1) :
    ∃ s k : Int, (∀ w, (callFunc 58 #[.int .u64 x, .int .u64 y, .int .u64 c]).run Try.prog w = .ok (.value (.tuple #[.int .u64 s, .int .u64 k])) w) ∧ 0 ≤ s ∧ s < 18446744073709551616 ∧ 0 ≤ k ∧ k ≤ 1 ∧ x - y - c = s - k * 18446744073709551616 := by
  unfold InU64 at hx hy
  obtain ⟨x, rfl⟩ := Int.eq_ofNat_of_zero_le hx.1
  obtain ⟨y, rfl⟩ := Int.eq_ofNat_of_zero_le hy.1
  obtain ⟨c, rfl⟩ := Int.eq_ofNat_of_zero_le hc0
  refine ⟨(((x + 18446744073709551616 - y - c) % 18446744073709551616 : Nat) : Int), ((if x < y + c then 1 else 0 : Nat) : Int), fun w => ?_, ?_⟩
  · rw [run_callFunc_extern Try.func58 (by kernel_rfl) (by kernel_rfl) (by kernel_rfl) (e := sub64Entry) (by kernel_rfl), run_sub64 x y c (by omega)]
    simp only [Result.andThen]
  · split <;> omega

set_option maxHeartbeats 1000000 in
theorem sum_any (a b : Int) (ha : InU a) (hb : InU b) (w : World) : Calls Try.prog 42 #[(.agg #[.int .u64 (lo (a)), .int .u64 (hi (a))]), (.agg #[.int .u64 (lo (b)), .int .u64 (hi (b))])] w fun e w' => e = .returned (.agg #[.int .u64 (lo (um (a + b))), .int .u64 (hi (um (a + b)))]) ∧ Ext w w' := by
  obtain ⟨s0, k0, r0, p1, p2, p3, p4, p5⟩ := add64_run (lo a) (lo b) 0 (lo_in a) (lo_in b) (Int.le_refl 0) (by decide)
  obtain ⟨s1, k1, r1, q1, q2, q3, q4, q5⟩ := add64_run (hi a) (hi b) k0 (hi_inU ha) (hi_inU hb) p3 p4
  have e0 : lo (um (a + b)) = s0 := by have := hilo a; have := hilo b; unfold um lo at *; unfold hi at *; omega
  have e1 : hi (um (a + b)) = s1 := by have := hilo a; have := hilo b; unfold um hi at *; unfold lo at *; omega
  rw [e0, e1]
  clear e0 e1 p1 p2 p3 p4 p5 q1 q2 q3 q4 q5
  go_enter Try.func42, Try.ntmps42
  go_wp2
  refine wp_loop_rounds 3 ?_; rw [rounds_succ]
  go_wp2
  go_region
  go_wp2
  rw [rounds_succ]
  go_wp2
  go_region
  go_wp2
  rw [rounds_succ]
  go_wp2
  refine bodyPost_ret (by simp only [results, Try.results42]; simp [go_sem]; try rfl) rfl ⟨rfl, ?_⟩
  repeat (first | exact Ext.refl _ | refine Ext.drew ?_ | refine Ext.alloc ?_ _)

set_option maxHeartbeats 1000000 in
theorem diff_any (a b : Int) (ha : InU a) (hb : InU b) (w : World) : Calls Try.prog 38 #[(.agg #[.int .u64 (lo (a)), .int .u64 (hi (a))]), (.agg #[.int .u64 (lo (b)), .int .u64 (hi (b))])] w fun e w' => e = .returned (.agg #[.int .u64 (lo (um (a - b))), .int .u64 (hi (um (a - b)))]) ∧ Ext w w' := by
  obtain ⟨s0, k0, r0, p1, p2, p3, p4, p5⟩ := sub64_run (lo a) (lo b) 0 (lo_in a) (lo_in b) (Int.le_refl 0) (by decide)
  obtain ⟨s1, k1, r1, q1, q2, q3, q4, q5⟩ := sub64_run (hi a) (hi b) k0 (hi_inU ha) (hi_inU hb) p3 p4
  have e0 : lo (um (a - b)) = s0 := by have := hilo a; have := hilo b; unfold um lo at *; unfold hi at *; omega
  have e1 : hi (um (a - b)) = s1 := by have := hilo a; have := hilo b; unfold um hi at *; unfold lo at *; omega
  rw [e0, e1]
  clear e0 e1 p1 p2 p3 p4 p5 q1 q2 q3 q4 q5
  go_enter Try.func38, Try.ntmps38
  go_wp2
  refine wp_loop_rounds 3 ?_; rw [rounds_succ]
  go_wp2
  go_region
  go_wp2
  rw [rounds_succ]
  go_wp2
  go_region
  go_wp2
  rw [rounds_succ]
  go_wp2
  refine bodyPost_ret (by simp only [results, Try.results38]; simp [go_sem]; try rfl) rfl ⟨rfl, ?_⟩
  repeat (first | exact Ext.refl _ | refine Ext.drew ?_ | refine Ext.alloc ?_ _)
end Go.Proofs.Ythmgilikokcibaa
