/- What wides.Add and wides.Sub do, called at any arguments. -/
import Derived.Test.YthmgilikokcibaaWideB
import Derived.Test.YthmgilikokcibaaNew
namespace Go.Proofs.Ythmgilikokcibaa
open Go.RowKit Go.BigFrame
set_option linter.unusedSimpArgs false
theorem sum_over (x y : Int) (hx : InW x) (hy : InW y) (h1 : (x < 0) ↔ (y < 0)) (h2 : ¬ ((sm (um (um x + um y)) < 0) ↔ (x < 0))) : ¬ InW (x + y) := by
  unfold sm um InW at *; omega
theorem sum_fits (x y : Int) (hx : InW x) (hy : InW y) (h : ¬ ((x < 0) ↔ (y < 0)) ∨ ((sm (um (um x + um y)) < 0) ↔ (x < 0))) : InW (x + y) ∧ sm (um (um x + um y)) = x + y := by
  unfold sm um InW at *; omega
set_option maxHeartbeats 1000000 in
theorem add_any (x y : Int) (hx : InW x) (hy : InW y) (w : World) : Calls Try.prog 19 #[(.agg #[.int .i64 (hi (x)), .int .u64 (lo (x))]), (.agg #[.int .i64 (hi (y)), .int .u64 (lo (y))])] w fun e w' => e = .returned (.tuple #[(.agg #[.int .i64 (hi (fit (x + y))), .int .u64 (lo (fit (x + y)))]), .int .i64 (err (x + y))]) ∧ Ext w w' := by
  go_enter Try.func19, Try.ntmps19
  go_upto_region 1 with fail
  refine wp_region_new 7 6 6 (.cells #[.int .i64 0, .int .u64 0] 30) (by kernel_rfl) (by kernel_rfl) (by kernel_rfl) (by decide) ?_ ?_
  · rintro o ⟨⟩ a w; go_simp
  intro B hB l' hl'
  simp [dumbs, dumb] at hl'
  subst hl'
  have g0 := fun x' : Grow B => (Ext.trans hB x'.ext).later (p := ⟨w.heap.size, 0, none⟩) (v := .int .i64 (hi (x))) (by go_simp); have g1 := fun x' : Grow B => (Ext.trans hB x'.ext).later (p := ⟨w.heap.size, 1, none⟩) (v := .int .u64 (lo (x))) (by go_simp); have g2 := fun x' : Grow B => (Ext.trans hB x'.ext).later (p := ⟨w.heap.size + 1, 0, none⟩) (v := .int .i64 (hi (y))) (by go_simp); have g3 := fun x' : Grow B => (Ext.trans hB x'.ext).later (p := ⟨w.heap.size + 1, 1, none⟩) (v := .int .u64 (lo (y))) (by go_simp)
  repeat (first
    | go_big_quiet_step ((go_at_call 39; exact calls_grow (wordsOf_any _ _)))
    | go_big_quiet_step ((go_at_call 42; exact calls_grow (sum_any _ _ (um_in _) (um_in _) _)))
    | go_big_quiet_step ((go_at_call 37; exact calls_grow (wideOf_any _ _))))
  refine wpQuiet_nil ?_
  clear g0 g1 g2 g3 hB B
  intro w0 w1 hw0 hw1 t ht
  simp at ht
  subst ht
  obtain ⟨r1, r2, r3⟩ := hw1.rules
  go_upto_region 2 with fail
  have hb := hw0.more
  refine rebase (G := fun w' => Code.wp _ _ _ _ w') _ (fun w2 => Ext _ w2 ∧ w2.cell? ⟨w0.heap.size, 0, none⟩ = some (.int .i64 (hi (sm (um (um x + um y))))) ∧ w2.cell? ⟨w0.heap.size, 1, none⟩ = some (.int .u64 (lo (sm (um (um x + um y)))))) ⟨Ext.setCell (Ext.setCell (Ext.trans (Ext.alloc hw0 _) hw1) hb _) hb _, by go_simp, by go_simp⟩ ?_
  rintro w2 ⟨E2, f0, f1⟩
  have k0 := Ext.later E2 (p := ⟨w.heap.size, 0, none⟩) (v := .int .i64 (hi (x))) (by go_simp); have k1 := Ext.later E2 (p := ⟨w.heap.size, 1, none⟩) (v := .int .u64 (lo (x))) (by go_simp); have k2 := Ext.later E2 (p := ⟨w.heap.size + 1, 0, none⟩) (v := .int .i64 (hi (y))) (by go_simp); have k3 := Ext.later E2 (p := ⟨w.heap.size + 1, 1, none⟩) (v := .int .u64 (lo (y))) (by go_simp); have k4 := Ext.later E2 (p := ⟨w.heap.size + 1 + 1, 0, none⟩) (v := .int .i64 0) (by go_simp); have k5 := Ext.later E2 (p := ⟨w.heap.size + 1 + 1, 1, none⟩) (v := .int .u64 0) (by go_simp)
  have z0 := Ext.thaw E2 (p := ⟨w.heap.size + 1 + 1, 0, none⟩) (v := .int .i64 0) (by go_simp) (by go_simp); have z1 := Ext.thaw E2 (p := ⟨w.heap.size + 1 + 1, 1, none⟩) (v := .int .u64 0) (by go_simp) (by go_simp)
  have E3 := Ext.trans (Ext.alloc (Ext.alloc (Ext.alloc (Ext.refl w) _) _) _) E2
  have hz := E2.more
  clear E2 hb r1 r2 r3 hw0 hw1 w1
  generalize hsd : sm (um (um x + um y)) = s at *
  generalize w0.heap.size = b at *
  have h1 := sum_over x y hx hy
  have h2 := sum_fits x y hx hy
  rw [hsd] at h1 h2
  clear hsd hx hy
  have g0 := fun x' : Grow w2 => x'.cell k0; have g1 := fun x' : Grow w2 => x'.cell k1; have g2 := fun x' : Grow w2 => x'.cell k2; have g3 := fun x' : Grow w2 => x'.cell k3; have g4 := fun x' : Grow w2 => x'.cell k4; have g5 := fun x' : Grow w2 => x'.cell k5; have g6 := fun x' : Grow w2 => x'.cell f0; have g7 := fun x' : Grow w2 => x'.cell f1
  have t0 := fun x' : Grow w2 => x'.thaw k4 z0
  have t1 := fun x' : Grow w2 => x'.thaw k5 z1
  by_cases hx : x < 0 <;> by_cases hy : y < 0 <;> by_cases hs : s < 0
  all_goals
    refine wp_region_grow (by kernel_rfl) (by kernel_rfl) ?_
    repeat (go_big_quiet_step ((go_at_call 40; exact calls_grow (below_any _ _))))
    refine wpQuiet_nil ?_
    rintro _ ⟨xq, rfl⟩
    have hq := xq.ext
    go_wp2
    refine bodyPost_ret (by simp only [results, Try.results19]; simp [go_sem, *]; try rfl) rfl ⟨?_, ?_⟩
    · first
        | (rw [(fit_of (h2 (by omega)).1).1, (fit_of (h2 (by omega)).1).2, ← (h2 (by omega)).2])
        | (rw [(fit_no (h1 (by omega) (by omega))).1, (fit_no (h1 (by omega) (by omega))).2]; simp [hi, lo])
    · exact Ext.setCell (Ext.setCell (Ext.trans E3 hq) (by simp; omega) _) (by simp; omega) _
theorem dif_over (x y : Int) (hx : InW x) (hy : InW y) (h1 : ¬ ((x < 0) ↔ (y < 0))) (h2 : ¬ ((sm (um (um x - um y)) < 0) ↔ (x < 0))) : ¬ InW (x - y) := by
  unfold sm um InW at *; omega
theorem dif_fits (x y : Int) (hx : InW x) (hy : InW y) (h : ((x < 0) ↔ (y < 0)) ∨ ((sm (um (um x - um y)) < 0) ↔ (x < 0))) : InW (x - y) ∧ sm (um (um x - um y)) = x - y := by
  unfold sm um InW at *; omega
set_option maxHeartbeats 1000000 in
theorem sub_any (x y : Int) (hx : InW x) (hy : InW y) (w : World) : Calls Try.prog 16 #[(.agg #[.int .i64 (hi (x)), .int .u64 (lo (x))]), (.agg #[.int .i64 (hi (y)), .int .u64 (lo (y))])] w fun e w' => e = .returned (.tuple #[(.agg #[.int .i64 (hi (fit (x - y))), .int .u64 (lo (fit (x - y)))]), .int .i64 (err (x - y))]) ∧ Ext w w' := by
  go_enter Try.func16, Try.ntmps16
  go_upto_region 1 with fail
  refine wp_region_new 7 6 6 (.cells #[.int .i64 0, .int .u64 0] 30) (by kernel_rfl) (by kernel_rfl) (by kernel_rfl) (by decide) ?_ ?_
  · rintro o ⟨⟩ a w; go_simp
  intro B hB l' hl'
  simp [dumbs, dumb] at hl'
  subst hl'
  have g0 := fun x' : Grow B => (Ext.trans hB x'.ext).later (p := ⟨w.heap.size, 0, none⟩) (v := .int .i64 (hi (x))) (by go_simp); have g1 := fun x' : Grow B => (Ext.trans hB x'.ext).later (p := ⟨w.heap.size, 1, none⟩) (v := .int .u64 (lo (x))) (by go_simp); have g2 := fun x' : Grow B => (Ext.trans hB x'.ext).later (p := ⟨w.heap.size + 1, 0, none⟩) (v := .int .i64 (hi (y))) (by go_simp); have g3 := fun x' : Grow B => (Ext.trans hB x'.ext).later (p := ⟨w.heap.size + 1, 1, none⟩) (v := .int .u64 (lo (y))) (by go_simp)
  repeat (first
    | go_big_quiet_step ((go_at_call 39; exact calls_grow (wordsOf_any _ _)))
    | go_big_quiet_step ((go_at_call 38; exact calls_grow (diff_any _ _ (um_in _) (um_in _) _)))
    | go_big_quiet_step ((go_at_call 37; exact calls_grow (wideOf_any _ _))))
  refine wpQuiet_nil ?_
  clear g0 g1 g2 g3 hB B
  intro w0 w1 hw0 hw1 t ht
  simp at ht
  subst ht
  obtain ⟨r1, r2, r3⟩ := hw1.rules
  go_upto_region 2 with fail
  have hb := hw0.more
  refine rebase (G := fun w' => Code.wp _ _ _ _ w') _ (fun w2 => Ext _ w2 ∧ w2.cell? ⟨w0.heap.size, 0, none⟩ = some (.int .i64 (hi (sm (um (um x - um y))))) ∧ w2.cell? ⟨w0.heap.size, 1, none⟩ = some (.int .u64 (lo (sm (um (um x - um y)))))) ⟨Ext.setCell (Ext.setCell (Ext.trans (Ext.alloc hw0 _) hw1) hb _) hb _, by go_simp, by go_simp⟩ ?_
  rintro w2 ⟨E2, f0, f1⟩
  have k0 := Ext.later E2 (p := ⟨w.heap.size, 0, none⟩) (v := .int .i64 (hi (x))) (by go_simp); have k1 := Ext.later E2 (p := ⟨w.heap.size, 1, none⟩) (v := .int .u64 (lo (x))) (by go_simp); have k2 := Ext.later E2 (p := ⟨w.heap.size + 1, 0, none⟩) (v := .int .i64 (hi (y))) (by go_simp); have k3 := Ext.later E2 (p := ⟨w.heap.size + 1, 1, none⟩) (v := .int .u64 (lo (y))) (by go_simp); have k4 := Ext.later E2 (p := ⟨w.heap.size + 1 + 1, 0, none⟩) (v := .int .i64 0) (by go_simp); have k5 := Ext.later E2 (p := ⟨w.heap.size + 1 + 1, 1, none⟩) (v := .int .u64 0) (by go_simp)
  have z0 := Ext.thaw E2 (p := ⟨w.heap.size + 1 + 1, 0, none⟩) (v := .int .i64 0) (by go_simp) (by go_simp); have z1 := Ext.thaw E2 (p := ⟨w.heap.size + 1 + 1, 1, none⟩) (v := .int .u64 0) (by go_simp) (by go_simp)
  have E3 := Ext.trans (Ext.alloc (Ext.alloc (Ext.alloc (Ext.refl w) _) _) _) E2
  have hz := E2.more
  clear E2 hb r1 r2 r3 hw0 hw1 w1
  generalize hsd : sm (um (um x - um y)) = s at *
  generalize w0.heap.size = b at *
  have h1 := dif_over x y hx hy
  have h2 := dif_fits x y hx hy
  rw [hsd] at h1 h2
  clear hsd hx hy
  have g0 := fun x' : Grow w2 => x'.cell k0; have g1 := fun x' : Grow w2 => x'.cell k1; have g2 := fun x' : Grow w2 => x'.cell k2; have g3 := fun x' : Grow w2 => x'.cell k3; have g4 := fun x' : Grow w2 => x'.cell k4; have g5 := fun x' : Grow w2 => x'.cell k5; have g6 := fun x' : Grow w2 => x'.cell f0; have g7 := fun x' : Grow w2 => x'.cell f1
  have t0 := fun x' : Grow w2 => x'.thaw k4 z0
  have t1 := fun x' : Grow w2 => x'.thaw k5 z1
  by_cases hx : x < 0 <;> by_cases hy : y < 0 <;> by_cases hs : s < 0
  all_goals
    refine wp_region_grow (by kernel_rfl) (by kernel_rfl) ?_
    repeat (go_big_quiet_step ((go_at_call 40; exact calls_grow (below_any _ _))))
    refine wpQuiet_nil ?_
    rintro _ ⟨xq, rfl⟩
    have hq := xq.ext
    go_wp2
    refine bodyPost_ret (by simp only [results, Try.results16]; simp [go_sem, *]; try rfl) rfl ⟨?_, ?_⟩
    · first
        | (rw [(fit_of (h2 (by omega)).1).1, (fit_of (h2 (by omega)).1).2, ← (h2 (by omega)).2])
        | (rw [(fit_no (h1 (by omega) (by omega))).1, (fit_no (h1 (by omega) (by omega))).2]; simp [hi, lo])
    · exact Ext.setCell (Ext.setCell (Ext.trans E3 hq) (by simp; omega) _) (by simp; omega) _
end Go.Proofs.Ythmgilikokcibaa
