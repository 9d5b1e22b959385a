/- What wides.quotient, wides.Floor and wides.Near do, called at any arguments. -/
import Derived.Test.YthmgilikokcibaaWideF
namespace Go.Proofs.Ythmgilikokcibaa
open Go.RowKit Go.BigFrame
set_option linter.unusedSimpArgs false
set_option linter.unusedVariables false

theorem quot_words (m d : Int) (hm : InU m) (hd : 0 < d) :
    hi (m / d) = hi m / d ∧ lo (m / d) = (hi m % d * 18446744073709551616 + lo m) / d ∧ m % d = (hi m % d * 18446744073709551616 + lo m) % d ∧ 0 ≤ hi m % d ∧ hi m % d < d := by
  have r0 := Int.emod_nonneg (hi m) (show d ≠ 0 by omega)
  have r1 := Int.emod_lt_of_pos (hi m) hd
  have e := Int.mul_ediv_add_emod (hi m) d
  have hlo := lo_in m
  have hm2 := hilo m
  generalize hA : hi m / d = A at *
  generalize hi m % d = R at *
  have e2 : m = d * (A * 18446744073709551616) + (R * 18446744073709551616 + lo m) := by
    rw [← Int.mul_assoc]; omega
  have q : m / d = A * 18446744073709551616 + (R * 18446744073709551616 + lo m) / d := by
    conv => lhs; rw [e2]
    rw [Int.add_comm, Int.add_mul_ediv_left _ _ (by omega), Int.add_comm]
  have q2 : m % d = (R * 18446744073709551616 + lo m) % d := by
    conv => lhs; rw [e2]
    rw [Int.add_comm, Int.add_mul_emod_self_left]
  have b0 : 0 ≤ (R * 18446744073709551616 + lo m) / d := Int.ediv_nonneg (by unfold InU64 at hlo; omega) (by omega)
  have b1 : (R * 18446744073709551616 + lo m) / d < 18446744073709551616 := by
    apply Int.ediv_lt_of_lt_mul hd
    have : (R + 1) * 18446744073709551616 ≤ d * 18446744073709551616 := Int.mul_le_mul_of_nonneg_right (by omega) (by decide)
    unfold InU64 at hlo
    rw [Int.mul_comm 18446744073709551616 d]
    omega
  refine ⟨?_, ?_, q2, r0, r1⟩
  · rw [q]; exact hi_of _ _ ⟨b0, b1⟩
  · rw [q]; exact lo_of _ _ ⟨b0, b1⟩

set_option maxHeartbeats 2000000 in
theorem quotient_any (m d : Int) (hm : InU m) (hd : InU64 d) (hp : 0 < d) (w : World) : Calls Try.prog 65 #[(.agg #[.int .u64 (lo (m)), .int .u64 (hi (m))]), .int .u64 d] w fun e w' => e = .returned (.tuple #[(.agg #[.int .u64 (lo (m / d)), .int .u64 (hi (m / d))]), .int .u64 (m % d)]) ∧ Ext w w' := by
  obtain ⟨e1, e2, e3, r0, r1⟩ := quot_words m d hm hp
  have D1 := fun w => div64_all 0 (hi m) d (hi_inU hm) hd (Int.le_refl 0) hp w
  have D2 := fun w => div64_all (hi m % d) (lo m) d (lo_in m) hd r0 r1 w
  rw [e1, e2, e3]
  simp only [Int.zero_mul, Int.zero_add] at D1
  clear e1 e2 e3 r0 r1 hm hd hp
  generalize (hi m % d * 18446744073709551616 + lo m) / d = Q0 at *
  generalize (hi m % d * 18446744073709551616 + lo m) % d = R0 at *
  generalize hi m / d = Q1 at *
  generalize hi m % d = R1 at *
  have EX := Ext.refl w
  go_enter Try.func65, Try.ntmps65
  go_wp2
  refine wp_loop_rounds 3 ?_; rw [rounds_succ]
  go_wp2_with (go_at_call 69; refine (D1 _).mono ?_; rintro e v ⟨rfl, hb⟩; have EX := Ext.trans (Ext.alloc (Ext.alloc EX _) _) hb; have k0 := Ext.later hb (p := ⟨w.heap.size, 0, none⟩) (v := .int .u64 (lo (m))) (by go_simp); have k1 := Ext.later hb (p := ⟨w.heap.size, 1, none⟩) (v := .int .u64 (hi (m))) (by go_simp); have k2 := Ext.later hb (p := ⟨w.heap.size + 1, 0, none⟩) (v := .int .u64 0) (by go_simp); have k3 := Ext.later hb (p := ⟨w.heap.size + 1, 1, none⟩) (v := .int .u64 0) (by go_simp); have kz0 := Ext.thaw hb (p := ⟨w.heap.size + 1, 0, none⟩) (v := .int .u64 0) (by go_simp) (by go_simp); have kz1 := Ext.thaw hb (p := ⟨w.heap.size + 1, 1, none⟩) (v := .int .u64 0) (by go_simp) (by go_simp); have kl0 := cell_lt k0; have kl2 := cell_lt k2)
  rw [rounds_succ]
  go_wp2_with (go_at_call 69; refine (D2 _).mono ?_; rintro e u ⟨rfl, hc⟩; have EX := Ext.trans (Ext.setCell EX (p := ⟨w.heap.size + 1, 1, none⟩) (by simp) _) hc; have k0 := Ext.later hc (p := ⟨w.heap.size + 1, 0, none⟩) (v := .int .u64 0) (by go_simp); have k1 := Ext.later hc (p := ⟨w.heap.size + 1, 1, none⟩) (v := .int .u64 Q1) (by go_simp); have kz0 := Ext.thaw hc (p := ⟨w.heap.size + 1, 0, none⟩) (v := .int .u64 0) (by go_simp) (by go_simp); have kz1 := Ext.thaw hc (p := ⟨w.heap.size + 1, 1, none⟩) (v := .int .u64 Q1) (by go_simp) (by go_simp); have kl0 := cell_lt k0)
  rw [rounds_succ]
  go_wp2
  refine bodyPost_ret (by simp only [results, Try.results65]; simp [go_sem, *]; try rfl) rfl ⟨rfl, ?_⟩
  repeat (first | with_reducible exact EX | with_reducible refine Ext.alloc ?_ _ | with_reducible refine Ext.drew ?_ | with_reducible refine Ext.drewN ?_ _ | with_reducible refine Ext.setCell ?_ (by first | (simp; done) | omega | (dsimp only; omega)) _)

/-- The floor, by what is left without the sign. -/
theorem floor_pos (a d : Int) (ha : InW a) (hd : 1 ≤ d) (hd' : In64 d) (hn : ¬ a < 0) : ab a / d = a / d ∧ ab a % d = a % d ∧ InW (a / d) := by
  have e : ab a = a := by unfold ab; rw [if_neg hn]
  rw [e]
  refine ⟨rfl, rfl, ?_⟩
  have h0 : 0 ≤ a / d := Int.ediv_nonneg (by omega) (by omega)
  have h1 : a / d ≤ a := Int.ediv_le_self _ (by omega)
  unfold InW at *; omega
theorem floor_neg0 (a d : Int) (ha : InW a) (hd : 1 ≤ d) (hn : a < 0) (h : ab a % d = 0) : -(ab a / d) = a / d ∧ a % d = 0 ∧ InW (a / d) ∧ InU (ab a / d) := by
  have e : ab a = -a := by unfold ab; rw [if_pos hn]
  rw [e] at h ⊢
  have k := Int.mul_ediv_add_emod (-a) d
  rw [h] at k
  generalize hQ : -a / d = Q at *
  have ea : a = d * (-Q) := by rw [Int.mul_neg]; omega
  have e1 : a / d = -Q := by rw [ea, Int.mul_ediv_cancel_left _ (by omega)]
  have e2 : a % d = 0 := by rw [ea, Int.mul_emod_right]
  have h0 : 0 ≤ Q := by rw [← hQ]; exact Int.ediv_nonneg (by omega) (by omega)
  have h1 : Q ≤ -a := by rw [← hQ]; exact Int.ediv_le_self _ (by omega)
  refine ⟨e1.symm, e2, ?_, ?_⟩
  · rw [e1]; unfold InW at *; omega
  · unfold InU InW at *; omega
theorem floor_neg1 (a d : Int) (ha : InW a) (hd : 1 ≤ d) (hn : a < 0) (h : ¬ ab a % d = 0) : -(ab a / d + 1) = a / d ∧ a % d = d - ab a % d ∧ InW (a / d) ∧ InU (ab a / d) ∧ InU (ab a / d + 1) := by
  have e : ab a = -a := by unfold ab; rw [if_pos hn]
  rw [e] at h ⊢
  have k := Int.mul_ediv_add_emod (-a) d
  have r0 := Int.emod_nonneg (-a) (show d ≠ 0 by omega)
  have r1 := Int.emod_lt_of_pos (-a) (show 0 < d by omega)
  have h0 : 0 ≤ -a / d := Int.ediv_nonneg (by omega) (by omega)
  generalize hQ : -a / d = Q at *
  generalize -a % d = R at *
  have ea : a = d * (-(Q + 1)) + (d - R) := by rw [Int.mul_neg, Int.mul_add]; omega
  have e1 : a / d = -(Q + 1) := by
    conv => lhs; rw [ea]
    rw [Int.add_comm, Int.add_mul_ediv_left _ _ (by omega), Int.ediv_eq_zero_of_lt (by omega) (by omega)]; omega
  have e2 : a % d = d - R := by
    conv => lhs; rw [ea]
    rw [Int.add_comm, Int.add_mul_emod_self_left, Int.emod_eq_of_lt (by omega) (by omega)]
  have h2 : Q ≤ d * Q := by
    have := Int.mul_le_mul_of_nonneg_right hd h0
    omega
  refine ⟨e1.symm, e2, ?_, ?_, ?_⟩
  · rw [e1]; unfold InW at *; omega
  · unfold InU InW at *; omega
  · unfold InU InW at *; omega

/-- Refused. -/
theorem floor_arg (a d : Int) (hd : d < 1) (w : World) : Calls Try.prog 52 #[(.agg #[.int .i64 (hi (a)), .int .u64 (lo (a))]), .int .i64 d] w fun e w' => e = .returned (.tuple #[(.agg #[.int .i64 (hi (0)), .int .u64 (lo (0))]), .int .i64 0, .int .i64 1]) ∧ Ext w w' := by
  simp only [show lo 0 = 0 from rfl, show hi 0 = 0 from rfl]
  have EX := Ext.refl w
  go_enter Try.func52, Try.ntmps52
  go_wp2
  refine bodyPost_ret (by simp only [results, Try.results52]; simp [go_sem, *]; try rfl) rfl ⟨rfl, ?_⟩
  repeat (first | with_reducible exact EX | with_reducible refine Ext.alloc ?_ _ | with_reducible refine Ext.drew ?_ | with_reducible refine Ext.drewN ?_ _ | with_reducible refine Ext.setCell ?_ (by first | (simp; done) | omega | (dsimp only; omega)) _)

set_option maxHeartbeats 4000000 in
theorem floor_any (a d : Int) (ha : InW a) (hd : 1 ≤ d) (hd' : In64 d) (w : World) : Calls Try.prog 52 #[(.agg #[.int .i64 (hi (a)), .int .u64 (lo (a))]), .int .i64 d] w fun e w' => e = .returned (.tuple #[(.agg #[.int .i64 (hi (a / d)), .int .u64 (lo (a / d))]), .int .i64 (a % d), .int .i64 0]) ∧ Ext w w' := by
  have T1 := fun w => takeSign_any a ha w
  have QU := fun w => quotient_any (ab a) d (ab_in ha) ⟨by omega, by unfold In64 at hd'; omega⟩ (by omega) w
  have hdw : IntKind.u64.wrap d = d := wrap_in _ ⟨by omega, by unfold In64 at hd'; omega⟩
  have hd1 : d < 9223372036854775808 := hd'.2
  have hd2 : ¬ d < 1 := by omega
  have L0 := Int.emod_nonneg (ab a) (show d ≠ 0 by omega)
  have L1 := Int.emod_lt_of_pos (ab a) (show 0 < d by omega)
  have P := fun (b : Bool) (m : Int) (h : InU m) (h2 : InW (sg b m)) w => by
    have := putSign_any b m h w
    rw [(fit_of h2).1, (fit_of h2).2] at this
    exact this
  by_cases hn : a < 0
  · by_cases hz : ab a % d = 0
    · obtain ⟨e1, e2, i1, i2⟩ := floor_neg0 a d ha hd hn hz
      have PU := fun w => P true (ab a / d) i2 (by unfold sg; simp; rw [e1]; exact i1) w
      have e3 : sg true (ab a / d) = a / d := by unfold sg; simp; exact e1
      rw [e3] at PU
      rw [e2]
      rw [hz] at QU
      have hdn : decide (a < 0) = true := by simp [hn]
      rw [hdn] at T1
      clear P e1 e2 i1 i2 e3 L0 L1 hz hn ha hdn
      generalize ab a / d = Q at *
      generalize ab a = A at *
      generalize a / d = R at *
      have EX := Ext.refl w
      go_enter Try.func52, Try.ntmps52
      go_wp2_with (first
        | (go_at_call 59; refine (T1 _).mono ?_; rintro e v ⟨rfl, hb⟩; have EX := Ext.trans (Ext.alloc (Ext.alloc EX _) _) hb; have k0 := Ext.later hb (p := ⟨w.heap.size + 1, 0, none⟩) (v := .int .i64 0) (by go_simp); have k1 := Ext.later hb (p := ⟨w.heap.size + 1, 1, none⟩) (v := .int .u64 0) (by go_simp); have kz0 := Ext.thaw hb (p := ⟨w.heap.size + 1, 0, none⟩) (v := .int .i64 0) (by go_simp) (by go_simp); have kz1 := Ext.thaw hb (p := ⟨w.heap.size + 1, 1, none⟩) (v := .int .u64 0) (by go_simp) (by go_simp); have kl0 := cell_lt k0)
        | (go_at_call 65; refine (QU _).mono ?_; rintro e u ⟨rfl, hc⟩; have EX := Ext.trans (Ext.alloc EX _) hc; have m0 := Ext.later hc (p := ⟨v.heap.size, 0, none⟩) (v := .bool (true)) (by go_simp); have m1 := Ext.later hc (p := ⟨v.heap.size, 1, none⟩) (v := .int .u64 (lo (A))) (by go_simp); have m2 := Ext.later hc (p := ⟨v.heap.size, 2, none⟩) (v := .int .u64 (hi (A))) (by go_simp); have ml0 := cell_lt m0; have k0 := Ext.later hc (p := ⟨w.heap.size + 1, 0, none⟩) (v := .int .i64 0) (old1 (by with_reducible assumption)); have k1 := Ext.later hc (p := ⟨w.heap.size + 1, 1, none⟩) (v := .int .u64 0) (old1 (by with_reducible assumption)); have kz0 := Ext.thaw hc (p := ⟨w.heap.size + 1, 0, none⟩) (v := .int .i64 0) (old1 (by with_reducible assumption)) (thaw1 (by with_reducible assumption) (by with_reducible assumption)); have kz1 := Ext.thaw hc (p := ⟨w.heap.size + 1, 1, none⟩) (v := .int .u64 0) (old1 (by with_reducible assumption)) (thaw1 (by with_reducible assumption) (by with_reducible assumption)); have kl0 := cell_lt k0)
        | (go_at_call 61; refine (PU _).mono ?_; rintro e t ⟨rfl, hd⟩; have EX := Ext.trans (Ext.alloc EX _) hd; have k0 := Ext.later hd (p := ⟨w.heap.size + 1, 0, none⟩) (v := .int .i64 0) (old1 (by with_reducible assumption)); have k1 := Ext.later hd (p := ⟨w.heap.size + 1, 1, none⟩) (v := .int .u64 0) (old1 (by with_reducible assumption)); have kz0 := Ext.thaw hd (p := ⟨w.heap.size + 1, 0, none⟩) (v := .int .i64 0) (old1 (by with_reducible assumption)) (thaw1 (by with_reducible assumption) (by with_reducible assumption)); have kz1 := Ext.thaw hd (p := ⟨w.heap.size + 1, 1, none⟩) (v := .int .u64 0) (old1 (by with_reducible assumption)) (thaw1 (by with_reducible assumption) (by with_reducible assumption)); have kl0 := cell_lt k0))
      refine rebase (G := fun w' => bodyPost _ _ _ _ _ w') _ (fun w9 => Ext w w9 ∧ w9.cell? ⟨w.heap.size + 1, 0, none⟩ = some (.int .i64 (hi (R))) ∧ w9.cell? ⟨w.heap.size + 1, 1, none⟩ = some (.int .u64 (lo (R)))) ⟨by repeat (first | with_reducible exact EX | with_reducible refine Ext.alloc ?_ _ | with_reducible refine Ext.drew ?_ | with_reducible refine Ext.drewN ?_ _ | with_reducible refine Ext.setCell ?_ (by first | (simp; done) | omega | (dsimp only; omega)) _), by (repeat (first | with_reducible assumption | with_reducible refine cell_same ?_ | with_reducible refine cell_skip (by first | exact .inr (by decide) | exact .inl (by first | (simp; done) | omega)) ?_ | with_reducible refine There.set ?_ | exact There.of (by with_reducible assumption) | (refine new1 ?_; first | rfl | (simp; done)) | with_reducible refine old1 ?_)), by (repeat (first | with_reducible assumption | with_reducible refine cell_same ?_ | with_reducible refine cell_skip (by first | exact .inr (by decide) | exact .inl (by first | (simp; done) | omega)) ?_ | with_reducible refine There.set ?_ | exact There.of (by with_reducible assumption) | (refine new1 ?_; first | rfl | (simp; done)) | with_reducible refine old1 ?_))⟩ ?_; rintro w9 ⟨E9, c0, c1⟩; exact bodyPost_ret (by simp only [results, Try.results52]; simp [go_sem, *]; try rfl) rfl ⟨rfl, E9⟩
    · obtain ⟨e1, e2, i1, i2, i3⟩ := floor_neg1 a d ha hd hn hz
      have PU := fun w => P true (ab a / d + 1) i3 (by unfold sg; simp; rw [e1]; exact i1) w
      have e3 : sg true (ab a / d + 1) = a / d := by unfold sg; simp; exact e1
      rw [e3] at PU
      rw [e2]
      have SU := fun w => sum_any (ab a / d) 1 i2 ⟨by decide, by decide⟩ w
      rw [show um (ab a / d + 1) = ab a / d + 1 by unfold um InU at *; omega] at SU
      simp only [show lo 1 = 1 from rfl, show hi 1 = 0 from rfl] at SU
      have hdn : decide (a < 0) = true := by simp [hn]
      rw [hdn] at T1
      have hgu : ∀ w0 : World, Ext w w0 → w.heap.size ≤ w0.heap.size := fun w0 h => h.more
      clear P e1 e2 i1 i2 i3 e3 hn ha hdn
      generalize ab a / d = Q at *
      generalize ab a % d = L at *
      generalize ab a = A at *
      generalize a / d = R at *
      have EX := Ext.refl w
      go_enter Try.func52, Try.ntmps52
      go_wp2_with (first
        | (go_at_call 59; refine (T1 _).mono ?_; rintro e v ⟨rfl, hb⟩; have EX := Ext.trans (Ext.alloc (Ext.alloc EX _) _) hb; have k0 := Ext.later hb (p := ⟨w.heap.size + 1, 0, none⟩) (v := .int .i64 0) (by go_simp); have k1 := Ext.later hb (p := ⟨w.heap.size + 1, 1, none⟩) (v := .int .u64 0) (by go_simp); have kz0 := Ext.thaw hb (p := ⟨w.heap.size + 1, 0, none⟩) (v := .int .i64 0) (by go_simp) (by go_simp); have kz1 := Ext.thaw hb (p := ⟨w.heap.size + 1, 1, none⟩) (v := .int .u64 0) (by go_simp) (by go_simp); have kl0 := cell_lt k0)
        | (go_at_call 65; refine (QU _).mono ?_; rintro e u ⟨rfl, hc⟩; have EX := Ext.trans (Ext.alloc EX _) hc; have m0 := Ext.later hc (p := ⟨v.heap.size, 0, none⟩) (v := .bool (true)) (by go_simp); have m1 := Ext.later hc (p := ⟨v.heap.size, 1, none⟩) (v := .int .u64 (lo (A))) (by go_simp); have m2 := Ext.later hc (p := ⟨v.heap.size, 2, none⟩) (v := .int .u64 (hi (A))) (by go_simp); have ml0 := cell_lt m0; have k0 := Ext.later hc (p := ⟨w.heap.size + 1, 0, none⟩) (v := .int .i64 0) (old1 (by with_reducible assumption)); have k1 := Ext.later hc (p := ⟨w.heap.size + 1, 1, none⟩) (v := .int .u64 0) (old1 (by with_reducible assumption)); have kz0 := Ext.thaw hc (p := ⟨w.heap.size + 1, 0, none⟩) (v := .int .i64 0) (old1 (by with_reducible assumption)) (thaw1 (by with_reducible assumption) (by with_reducible assumption)); have kz1 := Ext.thaw hc (p := ⟨w.heap.size + 1, 1, none⟩) (v := .int .u64 0) (old1 (by with_reducible assumption)) (thaw1 (by with_reducible assumption) (by with_reducible assumption)); have kl0 := cell_lt k0)
        | (go_at_call 42; refine (SU _).mono ?_; rintro e s ⟨rfl, he⟩; have EX := Ext.trans (Ext.alloc EX _) he; have hle := EX.more; have p0 := Ext.later he (p := ⟨u.heap.size, 0, none⟩) (v := .int .u64 (lo (Q))) (by go_simp); have p1 := Ext.later he (p := ⟨u.heap.size, 1, none⟩) (v := .int .u64 (hi (Q))) (by go_simp); have pl0 := cell_lt p0; have pz0 := Ext.thaw he (p := ⟨u.heap.size, 0, none⟩) (v := .int .u64 (lo (Q))) (by go_simp) (by go_simp); have pz1 := Ext.thaw he (p := ⟨u.heap.size, 1, none⟩) (v := .int .u64 (hi (Q))) (by go_simp) (by go_simp); have k0 := Ext.later he (p := ⟨v.heap.size, 0, none⟩) (v := .bool (true)) (old1 (by with_reducible assumption)); have k1 := Ext.later he (p := ⟨v.heap.size, 1, none⟩) (v := .int .u64 (lo (A))) (old1 (by with_reducible assumption)); have k2 := Ext.later he (p := ⟨v.heap.size, 2, none⟩) (v := .int .u64 (hi (A))) (old1 (by with_reducible assumption)); have k3 := Ext.later he (p := ⟨w.heap.size + 1, 0, none⟩) (v := .int .i64 0) (old1 (by with_reducible assumption)); have k4 := Ext.later he (p := ⟨w.heap.size + 1, 1, none⟩) (v := .int .u64 0) (old1 (by with_reducible assumption)); have kz0 := Ext.thaw he (p := ⟨w.heap.size + 1, 0, none⟩) (v := .int .i64 0) (old1 (by with_reducible assumption)) (thaw1 (by with_reducible assumption) (by with_reducible assumption)); have kz1 := Ext.thaw he (p := ⟨w.heap.size + 1, 1, none⟩) (v := .int .u64 0) (old1 (by with_reducible assumption)) (thaw1 (by with_reducible assumption) (by with_reducible assumption)); have kl0 := cell_lt k0; have kl3 := cell_lt k3)
        | (go_at_call 61; refine (PU _).mono ?_; rintro e t ⟨rfl, hd⟩; have EX := Ext.trans (Ext.setCell (Ext.setCell EX (p := ⟨u.heap.size, 0, none⟩) (by simp; omega) _) (p := ⟨u.heap.size, 1, none⟩) (by simp; omega) _) hd; have k0 := Ext.later hd (p := ⟨w.heap.size + 1, 0, none⟩) (v := .int .i64 0) (by go_simp); have k1 := Ext.later hd (p := ⟨w.heap.size + 1, 1, none⟩) (v := .int .u64 0) (by go_simp); have kz0 := Ext.thaw hd (p := ⟨w.heap.size + 1, 0, none⟩) (v := .int .i64 0) (by go_simp) (by go_simp); have kz1 := Ext.thaw hd (p := ⟨w.heap.size + 1, 1, none⟩) (v := .int .u64 0) (by go_simp) (by go_simp); have kl0 := cell_lt k0))
      refine rebase (G := fun w' => bodyPost _ _ _ _ _ w') _ (fun w9 => Ext w w9 ∧ w9.cell? ⟨w.heap.size + 1, 0, none⟩ = some (.int .i64 (hi (R))) ∧ w9.cell? ⟨w.heap.size + 1, 1, none⟩ = some (.int .u64 (lo (R)))) ⟨by repeat (first | with_reducible exact EX | with_reducible refine Ext.alloc ?_ _ | with_reducible refine Ext.drew ?_ | with_reducible refine Ext.drewN ?_ _ | with_reducible refine Ext.setCell ?_ (by first | (simp; done) | omega | (dsimp only; omega)) _), by (repeat (first | with_reducible assumption | with_reducible refine cell_same ?_ | with_reducible refine cell_skip (by first | exact .inr (by decide) | exact .inl (by first | (simp; done) | omega)) ?_ | with_reducible refine There.set ?_ | exact There.of (by with_reducible assumption) | (refine new1 ?_; first | rfl | (simp; done)) | with_reducible refine old1 ?_)), by (repeat (first | with_reducible assumption | with_reducible refine cell_same ?_ | with_reducible refine cell_skip (by first | exact .inr (by decide) | exact .inl (by first | (simp; done) | omega)) ?_ | with_reducible refine There.set ?_ | exact There.of (by with_reducible assumption) | (refine new1 ?_; first | rfl | (simp; done)) | with_reducible refine old1 ?_))⟩ ?_; rintro w9 ⟨E9, c0, c1⟩; exact bodyPost_ret (by simp only [results, Try.results52]; simp [go_sem, *]; try rfl) rfl ⟨rfl, E9⟩
  · obtain ⟨e1, e2, i1⟩ := floor_pos a d ha hd hd' hn
    have PU := fun w => P false (ab a / d) (by rw [e1]; have : 0 ≤ a / d := Int.ediv_nonneg (by omega) (by omega); unfold InU InW at *; omega) (by unfold sg; simp; rw [e1]; exact i1) w
    rw [show sg false (ab a / d) = ab a / d from rfl] at PU
    rw [← e1, ← e2]
    have hdn : decide (a < 0) = false := by simp [hn]
    rw [hdn] at T1
    clear P e1 e2 i1 hn ha hdn
    generalize ab a / d = R at *
    generalize ab a % d = L at *
    generalize ab a = A at *
    have EX := Ext.refl w
    go_enter Try.func52, Try.ntmps52
    go_wp2_with (first
      | (go_at_call 59; refine (T1 _).mono ?_; rintro e v ⟨rfl, hb⟩; have EX := Ext.trans (Ext.alloc (Ext.alloc EX _) _) hb; have k0 := Ext.later hb (p := ⟨w.heap.size + 1, 0, none⟩) (v := .int .i64 0) (by go_simp); have k1 := Ext.later hb (p := ⟨w.heap.size + 1, 1, none⟩) (v := .int .u64 0) (by go_simp); have kz0 := Ext.thaw hb (p := ⟨w.heap.size + 1, 0, none⟩) (v := .int .i64 0) (by go_simp) (by go_simp); have kz1 := Ext.thaw hb (p := ⟨w.heap.size + 1, 1, none⟩) (v := .int .u64 0) (by go_simp) (by go_simp); have kl0 := cell_lt k0)
      | (go_at_call 65; refine (QU _).mono ?_; rintro e u ⟨rfl, hc⟩; have EX := Ext.trans (Ext.alloc EX _) hc; have m0 := Ext.later hc (p := ⟨v.heap.size, 0, none⟩) (v := .bool (false)) (by go_simp); have m1 := Ext.later hc (p := ⟨v.heap.size, 1, none⟩) (v := .int .u64 (lo (A))) (by go_simp); have m2 := Ext.later hc (p := ⟨v.heap.size, 2, none⟩) (v := .int .u64 (hi (A))) (by go_simp); have ml0 := cell_lt m0; have k0 := Ext.later hc (p := ⟨w.heap.size + 1, 0, none⟩) (v := .int .i64 0) (old1 (by with_reducible assumption)); have k1 := Ext.later hc (p := ⟨w.heap.size + 1, 1, none⟩) (v := .int .u64 0) (old1 (by with_reducible assumption)); have kz0 := Ext.thaw hc (p := ⟨w.heap.size + 1, 0, none⟩) (v := .int .i64 0) (old1 (by with_reducible assumption)) (thaw1 (by with_reducible assumption) (by with_reducible assumption)); have kz1 := Ext.thaw hc (p := ⟨w.heap.size + 1, 1, none⟩) (v := .int .u64 0) (old1 (by with_reducible assumption)) (thaw1 (by with_reducible assumption) (by with_reducible assumption)); have kl0 := cell_lt k0)
      | (go_at_call 61; refine (PU _).mono ?_; rintro e t ⟨rfl, hd⟩; have EX := Ext.trans (Ext.alloc EX _) hd; have k0 := Ext.later hd (p := ⟨w.heap.size + 1, 0, none⟩) (v := .int .i64 0) (old1 (by with_reducible assumption)); have k1 := Ext.later hd (p := ⟨w.heap.size + 1, 1, none⟩) (v := .int .u64 0) (old1 (by with_reducible assumption)); have kz0 := Ext.thaw hd (p := ⟨w.heap.size + 1, 0, none⟩) (v := .int .i64 0) (old1 (by with_reducible assumption)) (thaw1 (by with_reducible assumption) (by with_reducible assumption)); have kz1 := Ext.thaw hd (p := ⟨w.heap.size + 1, 1, none⟩) (v := .int .u64 0) (old1 (by with_reducible assumption)) (thaw1 (by with_reducible assumption) (by with_reducible assumption)); have kl0 := cell_lt k0))
    refine rebase (G := fun w' => bodyPost _ _ _ _ _ w') _ (fun w9 => Ext w w9 ∧ w9.cell? ⟨w.heap.size + 1, 0, none⟩ = some (.int .i64 (hi (R))) ∧ w9.cell? ⟨w.heap.size + 1, 1, none⟩ = some (.int .u64 (lo (R)))) ⟨by repeat (first | with_reducible exact EX | with_reducible refine Ext.alloc ?_ _ | with_reducible refine Ext.drew ?_ | with_reducible refine Ext.drewN ?_ _ | with_reducible refine Ext.setCell ?_ (by first | (simp; done) | omega | (dsimp only; omega)) _), by (repeat (first | with_reducible assumption | with_reducible refine cell_same ?_ | with_reducible refine cell_skip (by first | exact .inr (by decide) | exact .inl (by first | (simp; done) | omega)) ?_ | with_reducible refine There.set ?_ | exact There.of (by with_reducible assumption) | (refine new1 ?_; first | rfl | (simp; done)) | with_reducible refine old1 ?_)), by (repeat (first | with_reducible assumption | with_reducible refine cell_same ?_ | with_reducible refine cell_skip (by first | exact .inr (by decide) | exact .inl (by first | (simp; done) | omega)) ?_ | with_reducible refine There.set ?_ | exact There.of (by with_reducible assumption) | (refine new1 ?_; first | rfl | (simp; done)) | with_reducible refine old1 ?_))⟩ ?_; rintro w9 ⟨E9, c0, c1⟩; exact bodyPost_ret (by simp only [results, Try.results52]; simp [go_sem, *]; try rfl) rfl ⟨rfl, E9⟩
end Go.Proofs.Ythmgilikokcibaa
