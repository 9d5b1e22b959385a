/- What wides.Near does, called at any arguments. -/
import Derived.Test.YthmgilikokcibaaWideG
namespace Go.Proofs.Ythmgilikokcibaa
open Go.RowKit Go.BigFrame
set_option linter.unusedSimpArgs false
set_option linter.unusedVariables false

/-- The nearest. -/
def nr (a d : Int) : Int := if d - a % d ≤ a % d then a / d + 1 else a / d
theorem nr_in (a d : Int) (ha : InW a) (hd : 1 ≤ d) : InW (a / d) ∧ (d - a % d ≤ a % d → InW (a / d + 1)) := by
  have k := Int.mul_ediv_add_emod a d
  have r0 := Int.emod_nonneg a (show d ≠ 0 by omega)
  have r1 := Int.emod_lt_of_pos a (show 0 < d by omega)
  generalize a / d = Q at *
  generalize a % d = R at *
  have key : InW Q := by
    rcases Int.lt_or_le Q 0 with h | h
    · have : d * Q ≤ Q := by
        have := Int.mul_le_mul_of_nonpos_right hd (show Q ≤ 0 by omega)
        omega
      have h2 : d * (Q + 1) ≤ Q + 1 := by
        have := Int.mul_le_mul_of_nonpos_right hd (show Q + 1 ≤ 0 by omega)
        omega
      rw [Int.mul_add] at h2
      unfold InW at *; omega
    · have : Q ≤ d * Q := by
        have := Int.mul_le_mul_of_nonneg_right hd h
        omega
      unfold InW at *; omega
  refine ⟨key, fun hh => ?_⟩
  have hd2 : 2 ≤ d := by omega
  rcases Int.lt_or_le Q 0 with h | h
  · unfold InW at *; omega
  · have : 2 * Q ≤ d * Q := Int.mul_le_mul_of_nonneg_right hd2 h
    unfold InW at *; omega

set_option maxHeartbeats 2000000 in
theorem near_arg (a d : Int) (hd : d < 1) (w : World) : Calls Try.prog 29 #[(.agg #[.int .i64 (hi (a)), .int .u64 (lo (a))]), .int .i64 d] w fun e w' => e = .returned (.tuple #[(.agg #[.int .i64 (hi (0)), .int .u64 (lo (0))]), .int .i64 1]) ∧ Ext w w' := by
  have FL := fun w => floor_arg a d hd w
  simp only [show lo 0 = 0 from rfl, show hi 0 = 0 from rfl] at FL ⊢
  have EX := Ext.refl w
  go_enter Try.func29, Try.ntmps29
  go_wp2_with (go_at_call 52; refine (FL _).mono ?_; rintro e v ⟨rfl, hb⟩; have EX := Ext.trans (Ext.alloc (Ext.alloc EX _) _) hb; have k0 := Ext.later hb (p := ⟨w.heap.size + 1, 0, none⟩) (v := .int .i64 0) (by go_simp); have k1 := Ext.later hb (p := ⟨w.heap.size + 1, 1, none⟩) (v := .int .u64 0) (by go_simp); have kz0 := Ext.thaw hb (p := ⟨w.heap.size + 1, 0, none⟩) (v := .int .i64 0) (by go_simp) (by go_simp); have kz1 := Ext.thaw hb (p := ⟨w.heap.size + 1, 1, none⟩) (v := .int .u64 0) (by go_simp) (by go_simp); have kl0 := cell_lt k0)
  refine rebase (G := fun w' => bodyPost _ _ _ _ _ w') _ (fun w9 => Ext w w9 ∧ w9.cell? ⟨w.heap.size + 1, 0, none⟩ = some (.int .i64 0) ∧ w9.cell? ⟨w.heap.size + 1, 1, none⟩ = some (.int .u64 0)) ⟨by repeat (first | with_reducible exact EX | with_reducible refine Ext.alloc ?_ _ | with_reducible refine Ext.drew ?_ | with_reducible refine Ext.drewN ?_ _ | with_reducible refine Ext.setCell ?_ (by first | (simp; done) | omega | (dsimp only; omega)) _), by (repeat (first | with_reducible assumption | with_reducible refine cell_same ?_ | with_reducible refine cell_skip (by first | exact .inr (by decide) | exact .inl (by first | (simp; done) | omega)) ?_ | with_reducible refine There.set ?_ | exact There.of (by with_reducible assumption) | (refine new1 ?_; first | rfl | (simp; done)) | with_reducible refine old1 ?_)), by (repeat (first | with_reducible assumption | with_reducible refine cell_same ?_ | with_reducible refine cell_skip (by first | exact .inr (by decide) | exact .inl (by first | (simp; done) | omega)) ?_ | with_reducible refine There.set ?_ | exact There.of (by with_reducible assumption) | (refine new1 ?_; first | rfl | (simp; done)) | with_reducible refine old1 ?_))⟩ ?_; rintro w9 ⟨E9, c0, c1⟩; exact bodyPost_ret (by simp only [results, Try.results29]; simp [go_sem, *]; try rfl) rfl ⟨rfl, E9⟩

set_option maxHeartbeats 2000000 in
theorem near_any (a d : Int) (ha : InW a) (hd : 1 ≤ d) (hd' : In64 d) (w : World) : Calls Try.prog 29 #[(.agg #[.int .i64 (hi (a)), .int .u64 (lo (a))]), .int .i64 d] w fun e w' => e = .returned (.tuple #[(.agg #[.int .i64 (hi (nr a d)), .int .u64 (lo (nr a d))]), .int .i64 0]) ∧ Ext w w' := by
  have FL := fun w => floor_any a d ha hd hd' w
  obtain ⟨i1, i2⟩ := nr_in a d ha hd
  have r0 := Int.emod_nonneg a (show d ≠ 0 by omega)
  have r1 := Int.emod_lt_of_pos a (show 0 < d by omega)
  have h1 := hd'.2
  unfold nr
  by_cases hc : d - a % d ≤ a % d
  · rw [if_pos hc]
    have AD := fun w => add_any (a / d) 1 i1 (by unfold InW; omega) w
    rw [(fit_of (i2 hc)).1, (fit_of (i2 hc)).2] at AD
    clear ha hd' i1 i2
    generalize a / d = Q at *
    generalize a % d = R at *
    have EX := Ext.refl w
    go_enter Try.func29, Try.ntmps29
    go_upto_region 5 with (go_at_call 52; refine (FL _).mono ?_; rintro e v ⟨rfl, hb⟩; have EX := Ext.trans (Ext.alloc (Ext.alloc EX _) _) hb; have k0 := Ext.later hb (p := ⟨w.heap.size + 1, 0, none⟩) (v := .int .i64 0) (by go_simp); have k1 := Ext.later hb (p := ⟨w.heap.size + 1, 1, none⟩) (v := .int .u64 0) (by go_simp); have kz0 := Ext.thaw hb (p := ⟨w.heap.size + 1, 0, none⟩) (v := .int .i64 0) (by go_simp) (by go_simp); have kz1 := Ext.thaw hb (p := ⟨w.heap.size + 1, 1, none⟩) (v := .int .u64 0) (by go_simp) (by go_simp); have kl0 := cell_lt k0)
    refine wp_region_tail 5 (by kernel_rfl) (by kernel_rfl) (by kernel_rfl) ?_
    intro B hB l' hl'
    simp [dumbs, dumb] at hl'
    subst hl'
    have g0 := fun x' : Grow B => (Ext.trans hB x'.ext).later (p := ⟨v.heap.size, 0, none⟩) (v := .int .i64 (hi (Q))) (by go_simp); have g1 := fun x' : Grow B => (Ext.trans hB x'.ext).later (p := ⟨v.heap.size, 1, none⟩) (v := .int .u64 (lo (Q))) (by go_simp)
    repeat (first
      | go_big_quiet_step ((go_at_call 36; exact calls_grow (of_any 1 (by unfold In64; omega) _)))
      | go_big_quiet_step ((go_at_call 19; exact calls_grow (AD _))))
    refine wpQuiet_nil ?_
    clear g0 g1 hB B
    intro w1 hw1 t ht
    simp at ht
    subst ht
    have EX := Ext.trans (Ext.alloc EX _) hw1
    have k0 := Ext.later hw1 (p := ⟨w.heap.size + 1, 0, none⟩) (v := .int .i64 0) (old1 (by with_reducible assumption)); have k1 := Ext.later hw1 (p := ⟨w.heap.size + 1, 1, none⟩) (v := .int .u64 0) (old1 (by with_reducible assumption)); have kz0 := Ext.thaw hw1 (p := ⟨w.heap.size + 1, 0, none⟩) (v := .int .i64 0) (old1 (by with_reducible assumption)) (thaw1 (by with_reducible assumption) (by with_reducible assumption)); have kz1 := Ext.thaw hw1 (p := ⟨w.heap.size + 1, 1, none⟩) (v := .int .u64 0) (old1 (by with_reducible assumption)) (thaw1 (by with_reducible assumption) (by with_reducible assumption)); have kl0 := cell_lt k0
    go_wp2
    refine rebase (G := fun w' => bodyPost _ _ _ _ _ w') _ (fun w9 => Ext w w9 ∧ w9.cell? ⟨w.heap.size + 1, 0, none⟩ = some (.int .i64 (hi (Q + 1))) ∧ w9.cell? ⟨w.heap.size + 1, 1, none⟩ = some (.int .u64 (lo (Q + 1)))) ⟨by repeat (first | with_reducible exact EX | with_reducible refine Ext.alloc ?_ _ | with_reducible refine Ext.drew ?_ | with_reducible refine Ext.drewN ?_ _ | with_reducible refine Ext.setCell ?_ (by first | (simp; done) | omega | (dsimp only; omega)) _), by (repeat (first | with_reducible assumption | with_reducible refine cell_same ?_ | with_reducible refine cell_skip (by first | exact .inr (by decide) | exact .inl (by first | (simp; done) | omega)) ?_ | with_reducible refine There.set ?_ | exact There.of (by with_reducible assumption) | (refine new1 ?_; first | rfl | (simp; done)) | with_reducible refine old1 ?_)), by (repeat (first | with_reducible assumption | with_reducible refine cell_same ?_ | with_reducible refine cell_skip (by first | exact .inr (by decide) | exact .inl (by first | (simp; done) | omega)) ?_ | with_reducible refine There.set ?_ | exact There.of (by with_reducible assumption) | (refine new1 ?_; first | rfl | (simp; done)) | with_reducible refine old1 ?_))⟩ ?_; rintro w9 ⟨E9, c0, c1⟩; exact bodyPost_ret (by simp only [results, Try.results29]; simp [go_sem, *]; try rfl) rfl ⟨rfl, E9⟩
  · rw [if_neg hc]
    clear ha hd' i1 i2
    generalize a / d = Q at *
    generalize a % d = R at *
    have EX := Ext.refl w
    go_enter Try.func29, Try.ntmps29
    go_wp2_with (go_at_call 52; refine (FL _).mono ?_; rintro e v ⟨rfl, hb⟩; have EX := Ext.trans (Ext.alloc (Ext.alloc EX _) _) hb; have k0 := Ext.later hb (p := ⟨w.heap.size + 1, 0, none⟩) (v := .int .i64 0) (by go_simp); have k1 := Ext.later hb (p := ⟨w.heap.size + 1, 1, none⟩) (v := .int .u64 0) (by go_simp); have kz0 := Ext.thaw hb (p := ⟨w.heap.size + 1, 0, none⟩) (v := .int .i64 0) (by go_simp) (by go_simp); have kz1 := Ext.thaw hb (p := ⟨w.heap.size + 1, 1, none⟩) (v := .int .u64 0) (by go_simp) (by go_simp); have kl0 := cell_lt k0)
    refine rebase (G := fun w' => bodyPost _ _ _ _ _ w') _ (fun w9 => Ext w w9 ∧ w9.cell? ⟨w.heap.size + 1, 0, none⟩ = some (.int .i64 (hi (Q))) ∧ w9.cell? ⟨w.heap.size + 1, 1, none⟩ = some (.int .u64 (lo (Q)))) ⟨by repeat (first | with_reducible exact EX | with_reducible refine Ext.alloc ?_ _ | with_reducible refine Ext.drew ?_ | with_reducible refine Ext.drewN ?_ _ | with_reducible refine Ext.setCell ?_ (by first | (simp; done) | omega | (dsimp only; omega)) _), by (repeat (first | with_reducible assumption | with_reducible refine cell_same ?_ | with_reducible refine cell_skip (by first | exact .inr (by decide) | exact .inl (by first | (simp; done) | omega)) ?_ | with_reducible refine There.set ?_ | exact There.of (by with_reducible assumption) | (refine new1 ?_; first | rfl | (simp; done)) | with_reducible refine old1 ?_)), by (repeat (first | with_reducible assumption | with_reducible refine cell_same ?_ | with_reducible refine cell_skip (by first | exact .inr (by decide) | exact .inl (by first | (simp; done) | omega)) ?_ | with_reducible refine There.set ?_ | exact There.of (by with_reducible assumption) | (refine new1 ?_; first | rfl | (simp; done)) | with_reducible refine old1 ?_))⟩ ?_; rintro w9 ⟨E9, c0, c1⟩; exact bodyPost_ret (by simp only [results, Try.results29]; simp [go_sem, *]; try rfl) rfl ⟨rfl, E9⟩
end Go.Proofs.Ythmgilikokcibaa
