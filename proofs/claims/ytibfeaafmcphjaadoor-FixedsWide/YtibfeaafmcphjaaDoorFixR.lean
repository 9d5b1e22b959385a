/- What the given functions of package gouacheref02 do, called at any arguments: num, times, Sat, Of, Add, Sub, Mul, Ratio, Div, below, Floor, Ceil, Round, Trunc, Line. -/
import Derived.Test.YtibfeaafmcphjaaDoorRefS
namespace Go.Proofs.YtibfeaafmcphjaaDoor
open Go.RowKit Go.BigFrame
set_option linter.unusedSimpArgs false
set_option linter.unusedVariables false

theorem num_any (n : Int) (hn : In64 n) (w : World) : Calls Tryd.prog 39 #[.int .i64 n] w fun e w' => e = .returned (.agg #[.bool (decide (n < 0)), .int .i64 (dg (ab n) 0), .int .i64 (dg (ab n) 1), .int .i64 (dg (ab n) 2), .int .i64 (dg (ab n) 3), .int .i64 (dg (ab n) 4), .int .i64 (dg (ab n) 5), .int .i64 (dg (ab n) 6), .int .i64 (dg (ab n) 7), .int .i64 (dg (ab n) 8), .int .i64 (dg (ab n) 9), .int .i64 (dg (ab n) 10), .int .i64 (dg (ab n) 11)]) ∧ Ext w w' := by
  have EX := Ext.refl w
  have sl := fun w => small_any n hn w
  clear hn
  go_enter Tryd.func39, Tryd.ntmps39
  go_upto_region 1 with fail
  refine rebase (G := fun w' => Code.wp _ _ _ _ w') _ (fun v1 => Ext w v1 ∧ Nm v1 (w.heap.size) (false) (fun _ => 0)) ⟨by repeat (first | with_reducible exact EX | with_reducible refine Ext.alloc ?_ _ | with_reducible refine Ext.drew ?_ | with_reducible refine Ext.drewN ?_ _ | with_reducible refine Ext.setCell ?_ (by first | (simp; done) | omega | (dsimp only; omega)) _), by repeat (first | with_reducible assumption | with_reducible refine Nm.drew ?_ | with_reducible refine Nm.drewN ?_ _ | (with_reducible refine Nm.skip ?_ ?_; focus (first | omega | (simp; done))) | with_reducible refine Nm.store ?_ rfl rfl rfl rfl rfl rfl rfl rfl rfl rfl rfl rfl rfl | with_reducible refine Nm.new (by first | rfl | (simp; done) | with_unfolding_all rfl) (by with_unfolding_all rfl) (all12 (by with_unfolding_all rfl) (by with_unfolding_all rfl) (by with_unfolding_all rfl) (by with_unfolding_all rfl) (by with_unfolding_all rfl) (by with_unfolding_all rfl) (by with_unfolding_all rfl) (by with_unfolding_all rfl) (by with_unfolding_all rfl) (by with_unfolding_all rfl) (by with_unfolding_all rfl) (by with_unfolding_all rfl)) | with_reducible refine Nm.alloc ?_ _ | exact Nm.any (by with_reducible assumption) | with_reducible refine NmAny.drew ?_ | with_reducible refine NmAny.drewN ?_ _ | (with_reducible refine NmAny.skip ?_ ?_; focus (first | omega | (simp; done))) | with_reducible refine NmAny.alloc ?_ _)⟩ ?_; clear EX ; rintro v1 ⟨EX, NR⟩; rename World => v; have NRsg := NR.sg; have NRdg := NR.dg; have NRfz := NR.fz; have NRlt := NR.lt
  go_wp2_with (first | (go_at_call 52; with_reducible refine (sl _).mono ?_; rintro e v1 ⟨rfl, hb⟩; replace EX := Ext.trans EX hb; replace NR := NR.later hb; replace NRsg := NR.sg; replace NRdg := NR.dg; replace NRfz := NR.fz; replace NRlt := NR.lt; clear hb v; rename World => v))
  refine bodyPost_ret (by simp only [results, Tryd.results39]; simp [go_sem, *]; try rfl) rfl ⟨rfl, ?_⟩; repeat (first | with_reducible exact EX | with_reducible refine Ext.alloc ?_ _ | with_reducible refine Ext.drew ?_ | with_reducible refine Ext.drewN ?_ _ | with_reducible refine Ext.setCell ?_ (by first | (simp; done) | omega | (dsimp only; omega)) _)
theorem times_ref (a b : Int) (ha : In64 a) (hb : In64 b) (w : World) : Calls Tryd.prog 38 #[.int .i64 a, .int .i64 b] w fun e w' => e = .returned (.agg #[.bool (decide (a < 0) != decide (b < 0)), .int .i64 (dg (ab a * ab b) 0), .int .i64 (dg (ab a * ab b) 1), .int .i64 (dg (ab a * ab b) 2), .int .i64 (dg (ab a * ab b) 3), .int .i64 (dg (ab a * ab b) 4), .int .i64 (dg (ab a * ab b) 5), .int .i64 (dg (ab a * ab b) 6), .int .i64 (dg (ab a * ab b) 7), .int .i64 (dg (ab a * ab b) 8), .int .i64 (dg (ab a * ab b) 9), .int .i64 (dg (ab a * ab b) 10), .int .i64 (dg (ab a * ab b) 11)]) ∧ Ext w w' := by
  have EX := Ext.refl w
  have s1 := fun w => small_any a ha w
  have s2 := fun w => small_any b hb w
  have pr := fun w => prod_any (decide (a < 0)) (decide (b < 0)) (ab a) (ab b) (ab_inD (in64w ha)) w
  clear ha hb
  generalize ab a * ab b = Z at *
  go_enter Tryd.func38, Tryd.ntmps38
  go_upto_region 1 with fail
  refine rebase (G := fun w' => Code.wp _ _ _ _ w') _ (fun v1 => Ext w v1 ∧ Nm v1 (w.heap.size) (false) (fun _ => 0)) ⟨by repeat (first | with_reducible exact EX | with_reducible refine Ext.alloc ?_ _ | with_reducible refine Ext.drew ?_ | with_reducible refine Ext.drewN ?_ _ | with_reducible refine Ext.setCell ?_ (by first | (simp; done) | omega | (dsimp only; omega)) _), by repeat (first | with_reducible assumption | with_reducible refine Nm.drew ?_ | with_reducible refine Nm.drewN ?_ _ | (with_reducible refine Nm.skip ?_ ?_; focus (first | omega | (simp; done))) | with_reducible refine Nm.store ?_ rfl rfl rfl rfl rfl rfl rfl rfl rfl rfl rfl rfl rfl | with_reducible refine Nm.new (by first | rfl | (simp; done) | with_unfolding_all rfl) (by with_unfolding_all rfl) (all12 (by with_unfolding_all rfl) (by with_unfolding_all rfl) (by with_unfolding_all rfl) (by with_unfolding_all rfl) (by with_unfolding_all rfl) (by with_unfolding_all rfl) (by with_unfolding_all rfl) (by with_unfolding_all rfl) (by with_unfolding_all rfl) (by with_unfolding_all rfl) (by with_unfolding_all rfl) (by with_unfolding_all rfl)) | with_reducible refine Nm.alloc ?_ _ | exact Nm.any (by with_reducible assumption) | with_reducible refine NmAny.drew ?_ | with_reducible refine NmAny.drewN ?_ _ | (with_reducible refine NmAny.skip ?_ ?_; focus (first | omega | (simp; done))) | with_reducible refine NmAny.alloc ?_ _)⟩ ?_; clear EX ; rintro v1 ⟨EX, NR⟩; rename World => v; have NRsg := NR.sg; have NRdg := NR.dg; have NRfz := NR.fz; have NRlt := NR.lt
  go_wp2_with (first | (go_at_call 52; with_reducible refine (s1 _).mono ?_; rintro e v1 ⟨rfl, hb⟩; replace EX := Ext.trans EX hb; replace NR := NR.later hb; replace NRsg := NR.sg; replace NRdg := NR.dg; replace NRfz := NR.fz; replace NRlt := NR.lt; clear hb v; rename World => v) | (go_at_call 52; with_reducible refine (s2 _).mono ?_; rintro e v1 ⟨rfl, hb⟩; replace EX := Ext.trans EX hb; replace NR := NR.later hb; replace NRsg := NR.sg; replace NRdg := NR.dg; replace NRfz := NR.fz; replace NRlt := NR.lt; clear hb v; rename World => v) | (go_at_call 55; with_reducible refine (pr _).mono ?_; rintro e v1 ⟨rfl, hb⟩; replace EX := Ext.trans EX hb; replace NR := NR.later hb; replace NRsg := NR.sg; replace NRdg := NR.dg; replace NRfz := NR.fz; replace NRlt := NR.lt; clear hb v; rename World => v))
  refine bodyPost_ret (by simp only [results, Tryd.results38]; simp [go_sem, *]; try rfl) rfl ⟨rfl, ?_⟩; repeat (first | with_reducible exact EX | with_reducible refine Ext.alloc ?_ _ | with_reducible refine Ext.drew ?_ | with_reducible refine Ext.drewN ?_ _ | with_reducible refine Ext.setCell ?_ (by first | (simp; done) | omega | (dsimp only; omega)) _)
theorem ab64le {n : Int} (h : In64 n) : 0 ≤ ab n ∧ ab n ≤ 9223372036854775808 := by unfold ab In64 at *; split <;> omega
theorem ab_ne {n : Int} (h : ¬ n = 0) : 0 < ab n := by unfold ab; split <;> omega
theorem prod_le {a b : Int} (ha : In64 a) (hb : In64 b) : 0 ≤ ab a * ab b ∧ ab a * ab b < 680564733841876926926749214863536422912 := by
  have h1 := ab64le ha
  have h2 := ab64le hb
  exact ⟨Int.mul_nonneg h1.1 h2.1, Int.lt_of_le_of_lt (Int.mul_le_mul h1.2 h2.2 h2.1 (by decide)) (by decide)⟩
theorem hold_num (n d : Int) (hn : In64 n) (hd : In64 d) (h0 : ¬ d = 0) (w : World) : Calls Tryd.prog 37 #[(.agg #[.bool (decide (n < 0)), .int .i64 (dg (ab n) 0), .int .i64 (dg (ab n) 1), .int .i64 (dg (ab n) 2), .int .i64 (dg (ab n) 3), .int .i64 (dg (ab n) 4), .int .i64 (dg (ab n) 5), .int .i64 (dg (ab n) 6), .int .i64 (dg (ab n) 7), .int .i64 (dg (ab n) 8), .int .i64 (dg (ab n) 9), .int .i64 (dg (ab n) 10), .int .i64 (dg (ab n) 11)]), (.agg #[.bool (decide (d < 0)), .int .i64 (dg (ab d) 0), .int .i64 (dg (ab d) 1), .int .i64 (dg (ab d) 2), .int .i64 (dg (ab d) 3), .int .i64 (dg (ab d) 4), .int .i64 (dg (ab d) 5), .int .i64 (dg (ab d) 6), .int .i64 (dg (ab d) 7), .int .i64 (dg (ab d) 8), .int .i64 (dg (ab d) 9), .int .i64 (dg (ab d) 10), .int .i64 (dg (ab d) 11)])] w fun e w' => e = .returned (.int .i32 (held (nrs n d))) ∧ Ext w w' := by
  have h1 := ab64le hn
  have h2 := ab64le hd
  have := rhold_any (decide (n < 0)) (decide (d < 0)) (ab n) (ab d) h1.1 (by omega) (ab_ne h0) (by omega) w
  rw [sg_ab, sg_ab] at this
  exact this
theorem hold_times (a b d : Int) (ha : In64 a) (hb : In64 b) (hd : In64 d) (h0 : ¬ d = 0) (w : World) : Calls Tryd.prog 37 #[(.agg #[.bool (decide (a < 0) != decide (b < 0)), .int .i64 (dg (ab a * ab b) 0), .int .i64 (dg (ab a * ab b) 1), .int .i64 (dg (ab a * ab b) 2), .int .i64 (dg (ab a * ab b) 3), .int .i64 (dg (ab a * ab b) 4), .int .i64 (dg (ab a * ab b) 5), .int .i64 (dg (ab a * ab b) 6), .int .i64 (dg (ab a * ab b) 7), .int .i64 (dg (ab a * ab b) 8), .int .i64 (dg (ab a * ab b) 9), .int .i64 (dg (ab a * ab b) 10), .int .i64 (dg (ab a * ab b) 11)]), (.agg #[.bool (decide (d < 0)), .int .i64 (dg (ab d) 0), .int .i64 (dg (ab d) 1), .int .i64 (dg (ab d) 2), .int .i64 (dg (ab d) 3), .int .i64 (dg (ab d) 4), .int .i64 (dg (ab d) 5), .int .i64 (dg (ab d) 6), .int .i64 (dg (ab d) 7), .int .i64 (dg (ab d) 8), .int .i64 (dg (ab d) 9), .int .i64 (dg (ab d) 10), .int .i64 (dg (ab d) 11)])] w fun e w' => e = .returned (.int .i32 (held (nrs (a * b) d))) ∧ Ext w w' := by
  have h1 := prod_le ha hb
  have h2 := ab64le hd
  have := rhold_any (decide (a < 0) != decide (b < 0)) (decide (d < 0)) (ab a * ab b) (ab d) h1.1 h1.2 (ab_ne h0) (by omega) w
  rw [ab_mul, sg_ab] at this
  exact this
theorem nrs_one (n : Int) : nrs n 1 = n := by
  have := nr_exact n 1 (by decide)
  rw [Int.one_mul] at this
  exact this
theorem one64 : In64 1 := ⟨by decide, by decide⟩
theorem fix64 : In64 65536 := ⟨by decide, by decide⟩
theorem r2sat_any (n : Int) (hn : In64 n) (w : World) : Calls Tryd.prog 29 #[.int .i64 n] w fun e w' => e = .returned (.int .i32 (held n)) ∧ Ext w w' := by
  have EX := Ext.refl w
  have n1 := fun w => num_any n hn w
  have n2 := fun w => num_any 1 one64 w
  have ho := fun w => hold_num n 1 hn one64 (by decide) w
  rw [nrs_one] at ho
  clear hn
  generalize decide (n < 0) = s at *
  generalize ab n = X at *
  generalize decide ((1 : Int) < 0) = t at *
  generalize ab 1 = Y at *
  generalize held n = r at *
  go_enter Tryd.func29, Tryd.ntmps29
  go_wp2_with (first | (go_at_call 39; with_reducible refine (n1 _).mono ?_; rintro e v1 ⟨rfl, hb⟩; replace EX := Ext.trans EX hb; clear hb) | (go_at_call 39; with_reducible refine (n2 _).mono ?_; rintro e v1 ⟨rfl, hb⟩; replace EX := Ext.trans EX hb; clear hb) | (go_at_call 37; with_reducible refine (ho _).mono ?_; rintro e v1 ⟨rfl, hb⟩; replace EX := Ext.trans EX hb; clear hb))
  go_ret
  exact ⟨rfl, EX⟩
theorem r2of_any (n : Int) (hn : In64 n) (w : World) : Calls Tryd.prog 31 #[.int .i64 n] w fun e w' => e = .returned (.int .i32 (held (n * 65536))) ∧ Ext w w' := by
  have EX := Ext.refl w
  have n1 := fun w => times_ref n 65536 hn fix64 w
  have n2 := fun w => num_any 1 one64 w
  have ho := fun w => hold_times n 65536 1 hn fix64 one64 (by decide) w
  rw [nrs_one] at ho
  clear hn
  generalize (decide (n < 0) != decide ((65536 : Int) < 0)) = s at *
  generalize ab n * ab 65536 = X at *
  generalize decide ((1 : Int) < 0) = t at *
  generalize ab 1 = Y at *
  generalize held (n * 65536) = r at *
  go_enter Tryd.func31, Tryd.ntmps31
  go_wp2_with (first | (go_at_call 38; with_reducible refine (n1 _).mono ?_; rintro e v1 ⟨rfl, hb⟩; replace EX := Ext.trans EX hb; clear hb) | (go_at_call 39; with_reducible refine (n2 _).mono ?_; rintro e v1 ⟨rfl, hb⟩; replace EX := Ext.trans EX hb; clear hb) | (go_at_call 37; with_reducible refine (ho _).mono ?_; rintro e v1 ⟨rfl, hb⟩; replace EX := Ext.trans EX hb; clear hb))
  go_ret
  exact ⟨rfl, EX⟩
theorem r2mul_any (a b : Int) (ha : In32 a) (hb : In32 b) (w : World) : Calls Tryd.prog 16 #[.int .i32 a, .int .i32 b] w fun e w' => e = .returned (.int .i32 (held (nr (a * b) 65536))) ∧ Ext w w' := by
  have EX := Ext.refl w
  have n1 := fun w => times_ref a b (in32_64 ha) (in32_64 hb) w
  have n2 := fun w => num_any 65536 fix64 w
  have ho := fun w => hold_times a b 65536 (in32_64 ha) (in32_64 hb) fix64 (by decide) w
  rw [show nrs (a * b) 65536 = nr (a * b) 65536 from rfl] at ho
  have w1 := wrap_in64 (in32_64 ha)
  have w2 := wrap_in64 (in32_64 hb)
  clear ha hb
  generalize (decide (a < 0) != decide (b < 0)) = s at *
  generalize ab a * ab b = X at *
  generalize decide ((65536 : Int) < 0) = t at *
  generalize ab 65536 = Y at *
  generalize held (nr (a * b) 65536) = r at *
  go_enter Tryd.func16, Tryd.ntmps16
  go_wp2_with (first | (go_at_call 38; with_reducible refine (n1 _).mono ?_; rintro e v1 ⟨rfl, hb⟩; replace EX := Ext.trans EX hb; clear hb) | (go_at_call 39; with_reducible refine (n2 _).mono ?_; rintro e v1 ⟨rfl, hb⟩; replace EX := Ext.trans EX hb; clear hb) | (go_at_call 37; with_reducible refine (ho _).mono ?_; rintro e v1 ⟨rfl, hb⟩; replace EX := Ext.trans EX hb; clear hb))
  go_ret
  exact ⟨rfl, EX⟩
theorem r2ratio_any (n d : Int) (hn : In64 n) (hd : In64 d) (w : World) : Calls Tryd.prog 27 #[.int .i64 n, .int .i64 d] w fun e w' => e = .returned (.tuple #[.int .i32 (rat n d), .int .i64 (rate d)]) ∧ Ext w w' := by
  have EX := Ext.refl w
  unfold rat rate
  by_cases h0 : d = 0
  · subst h0
    rw [if_pos rfl, if_pos rfl]
    clear hn hd
    go_enter Tryd.func27, Tryd.ntmps27
    go_wp2
    go_ret2
    exact ⟨rfl, EX⟩
  · rw [if_neg h0, if_neg h0]
    have n1 := fun w => times_ref n 65536 hn fix64 w
    have n2 := fun w => num_any d hd w
    have ho := fun w => hold_times n 65536 d hn fix64 hd h0 w
    have h1 : (d == 0) = false := (by simpa using h0)
    clear hn hd h0
    generalize (decide (n < 0) != decide ((65536 : Int) < 0)) = s at *
    generalize ab n * ab 65536 = X at *
    generalize decide (d < 0) = t at *
    generalize ab d = Y at *
    generalize held (nrs (n * 65536) d) = r at *
    go_enter Tryd.func27, Tryd.ntmps27
    go_wp2_with (first | (go_at_call 38; with_reducible refine (n1 _).mono ?_; rintro e v1 ⟨rfl, hb⟩; replace EX := Ext.trans EX hb; clear hb) | (go_at_call 39; with_reducible refine (n2 _).mono ?_; rintro e v1 ⟨rfl, hb⟩; replace EX := Ext.trans EX hb; clear hb) | (go_at_call 37; with_reducible refine (ho _).mono ?_; rintro e v1 ⟨rfl, hb⟩; replace EX := Ext.trans EX hb; clear hb))
    go_ret2
    exact ⟨rfl, EX⟩
theorem r2div_any (a b : Int) (ha : In32 a) (hb : In32 b) (w : World) : Calls Tryd.prog 10 #[.int .i32 a, .int .i32 b] w fun e w' => e = .returned (.tuple #[.int .i32 (rat a b), .int .i64 (rate b)]) ∧ Ext w w' := by
  have EX := Ext.refl w
  have R := fun w => r2ratio_any a b (in32_64 ha) (in32_64 hb) w
  have w1 := wrap_in64 (in32_64 ha)
  have w2 := wrap_in64 (in32_64 hb)
  clear ha hb
  generalize rat a b = r at *
  generalize rate b = s at *
  go_enter Tryd.func10, Tryd.ntmps10
  go_wp2_with (first | (go_at_call 27; with_reducible refine (R _).mono ?_; rintro e v1 ⟨rfl, hb⟩; replace EX := Ext.trans EX hb; clear hb))
  go_ret2
  exact ⟨rfl, EX⟩
theorem r2add_any (a b : Int) (ha : In32 a) (hb : In32 b) (w : World) : Calls Tryd.prog 12 #[.int .i32 a, .int .i32 b] w fun e w' => e = .returned (.int .i32 (held (a + b))) ∧ Ext w w' := by
  have EX := Ext.refl w
  have hs : In64 (a + b) := by unfold In32 In64 at *; omega
  have S := fun w => r2sat_any (a + b) hs w
  have w1 := wrap_in64 (in32_64 ha)
  have w2 := wrap_in64 (in32_64 hb)
  have w3 := wrap_in64 hs
  clear ha hb hs
  go_enter Tryd.func12, Tryd.ntmps12
  go_wp2_with (first | (go_at_call 29; with_reducible refine (S _).mono ?_; rintro e v1 ⟨rfl, hb⟩; replace EX := Ext.trans EX hb; clear hb))
  go_ret
  exact ⟨rfl, EX⟩
theorem r2sub_any (a b : Int) (ha : In32 a) (hb : In32 b) (w : World) : Calls Tryd.prog 14 #[.int .i32 a, .int .i32 b] w fun e w' => e = .returned (.int .i32 (held (a - b))) ∧ Ext w w' := by
  have EX := Ext.refl w
  have hs : In64 (a - b) := by unfold In32 In64 at *; omega
  have S := fun w => r2sat_any (a - b) hs w
  have w1 := wrap_in64 (in32_64 ha)
  have w2 := wrap_in64 (in32_64 hb)
  have w3 := wrap_in64 hs
  clear ha hb hs
  go_enter Tryd.func14, Tryd.ntmps14
  go_wp2_with (first | (go_at_call 29; with_reducible refine (S _).mono ?_; rintro e v1 ⟨rfl, hb⟩; replace EX := Ext.trans EX hb; clear hb))
  go_ret
  exact ⟨rfl, EX⟩
theorem tdiv_is (n : Int) : n.tdiv 65536 * 65536 = if n < 0 then -(dn (-n)) else dn n := by
  unfold dn
  by_cases h : n < 0
  · rw [if_pos h]
    have e : n.tdiv 65536 = -((-n).tdiv 65536) := by rw [Int.neg_tdiv, Int.neg_neg]
    rw [e, Int.tdiv_eq_ediv_of_nonneg (by omega)]
    omega
  · rw [if_neg h, Int.tdiv_eq_ediv_of_nonneg (by omega)]
    omega
theorem below_ref (n : Int) (hn : -9007199254740992 ≤ n ∧ n ≤ 9007199254740992) (w : World) : Calls Tryd.prog 41 #[.int .i64 n] w fun e w' => e = .returned (.int .i64 (dn n)) ∧ Ext w w' := by
  have EX := Ext.refl w
  have t := tdiv_is n
  have b : In64 (n.tdiv 65536 * 65536) := by rw [t]; unfold In64 dn; split <;> omega
  have b2 : In64 (n.tdiv 65536) := by unfold In64 at *; omega
  have w1 := wrap_in64 b
  have w2 := wrap_in64 b2
  have w3 : wrap64 (n.tdiv 65536 * 65536 - 65536) = n.tdiv 65536 * 65536 - 65536 := wrap_in64 (by rw [t]; unfold In64 dn; split <;> omega)
  by_cases h : n < n.tdiv 65536 * 65536
  · have e : n.tdiv 65536 * 65536 - 65536 = dn n := by rw [t] at h ⊢; unfold dn at *; split at h <;> (try rw [if_pos (by assumption)]) <;> omega
    rw [← e]
    clear e t b b2 hn
    go_enter Tryd.func41, Tryd.ntmps41
    go_wp2
    go_ret
    exact ⟨by simp [w1, w2, w3], EX⟩
  · have e : n.tdiv 65536 * 65536 = dn n := by rw [t] at h ⊢; unfold dn at *; split at h <;> omega
    rw [← e]
    clear e t b b2 hn
    go_enter Tryd.func41, Tryd.ntmps41
    go_wp2
    go_ret
    exact ⟨by simp [w1, w2, w3], EX⟩
theorem r2floor_any (a : Int) (ha : In32 a) (w : World) : Calls Tryd.prog 18 #[.int .i32 a] w fun e w' => e = .returned (.int .i32 (held (dn a))) ∧ Ext w w' := by
  have EX := Ext.refl w
  have B := fun w => below_ref a (by unfold In32 at ha; omega) w
  have S := fun w => r2sat_any (dn a) (by unfold In32 dn In64 at *; omega) w
  have w1 := wrap_in64 (in32_64 ha)
  clear ha
  generalize held (dn a) = r at *
  generalize dn a = k at *
  go_enter Tryd.func18, Tryd.ntmps18
  go_wp2_with (first | (go_at_call 41; with_reducible refine (B _).mono ?_; rintro e v1 ⟨rfl, hb⟩; replace EX := Ext.trans EX hb; clear hb) | (go_at_call 29; with_reducible refine (S _).mono ?_; rintro e v1 ⟨rfl, hb⟩; replace EX := Ext.trans EX hb; clear hb))
  go_ret
  exact ⟨rfl, EX⟩
theorem r2ceil_any (a : Int) (ha : In32 a) (w : World) : Calls Tryd.prog 20 #[.int .i32 a] w fun e w' => e = .returned (.int .i32 (held (dn (a + 65535)))) ∧ Ext w w' := by
  have EX := Ext.refl w
  have B := fun w => below_ref (-a) (by unfold In32 at ha; omega) w
  have S := fun w => r2sat_any (-(dn (-a))) (by unfold In32 dn In64 at *; omega) w
  have w1 := wrap_in64 (in32_64 ha)
  have w2 : wrap64 (-a) = -a := wrap_in64 (by unfold In32 In64 at *; omega)
  have w3 : wrap64 (-(dn (-a))) = -(dn (-a)) := wrap_in64 (by unfold In32 dn In64 at *; omega)
  rw [show dn (a + 65535) = -(dn (-a)) by unfold dn; omega]
  clear ha
  generalize held (-(dn (-a))) = r at *
  generalize dn (-a) = k at *
  go_enter Tryd.func20, Tryd.ntmps20
  go_wp2_with (first | (go_at_call 41; with_reducible refine (B _).mono ?_; rintro e v1 ⟨rfl, hb⟩; replace EX := Ext.trans EX hb; clear hb) | (go_at_call 29; with_reducible refine (S _).mono ?_; rintro e v1 ⟨rfl, hb⟩; replace EX := Ext.trans EX hb; clear hb))
  go_ret
  exact ⟨rfl, EX⟩
theorem r2round_any (a : Int) (ha : In32 a) (w : World) : Calls Tryd.prog 22 #[.int .i32 a] w fun e w' => e = .returned (.int .i32 (held (dn (a + 32768)))) ∧ Ext w w' := by
  have EX := Ext.refl w
  have B := fun w => below_ref (a + 32768) (by unfold In32 at ha; omega) w
  have S := fun w => r2sat_any (dn (a + 32768)) (by unfold In32 dn In64 at *; omega) w
  have w1 := wrap_in64 (in32_64 ha)
  have w2 : wrap64 (a + 32768) = a + 32768 := wrap_in64 (by unfold In32 In64 at *; omega)
  clear ha
  generalize held (dn (a + 32768)) = r at *
  generalize dn (a + 32768) = k at *
  go_enter Tryd.func22, Tryd.ntmps22
  go_wp2_with (first | (go_at_call 41; with_reducible refine (B _).mono ?_; rintro e v1 ⟨rfl, hb⟩; replace EX := Ext.trans EX hb; clear hb) | (go_at_call 29; with_reducible refine (S _).mono ?_; rintro e v1 ⟨rfl, hb⟩; replace EX := Ext.trans EX hb; clear hb))
  go_ret
  exact ⟨rfl, EX⟩
theorem r2trunc_any (a : Int) (ha : In32 a) (w : World) : Calls Tryd.prog 24 #[.int .i32 a] w fun e w' => e = .returned (.int .i32 (held (if a < 0 then dn (a + 65535) else dn a))) ∧ Ext w w' := by
  have EX := Ext.refl w
  have t := tdiv_is a
  have b : In32 (a.tdiv 65536 * 65536) := by rw [t]; unfold In32 dn at *; split <;> omega
  have b2 : In32 (a.tdiv 65536) := by unfold In32 at *; omega
  have w1 := wrap_in32 b
  have w2 := wrap_in32 b2
  have e : (if a < 0 then dn (a + 65535) else dn a) = a.tdiv 65536 * 65536 := by rw [t]; unfold dn; split <;> omega
  rw [e, held_id b]
  clear e t b b2 ha
  go_enter Tryd.func24, Tryd.ntmps24
  go_wp2
  go_ret
  exact ⟨by simp [w1, w2], EX⟩
set_option maxHeartbeats 8000000 in
theorem r2line_walk (x l1 h1 l2 h2 d e k r : Int) (hne : ¬ l1 = h1) (hne' : (l1 == h1) = false) (wx : wrap64 x = x) (wl : wrap64 l1 = l1) (wh : wrap64 h1 = h1) (wl2 : wrap64 l2 = l2) (wh2 : wrap64 h2 = h2) (hd : wrap64 (h1 - l1) = d) (he : wrap64 (h2 - l2) = e) (hk : wrap64 (x - l1) = k) (S1 S2 S T : Bool) (Z1 Z2 Z Y : Int)
    (T1 : ∀ w, Calls Tryd.prog 38 #[.int .i64 l2, .int .i64 d] w fun e w' => e = .returned (.agg #[.bool (S1), .int .i64 (dg (Z1) 0), .int .i64 (dg (Z1) 1), .int .i64 (dg (Z1) 2), .int .i64 (dg (Z1) 3), .int .i64 (dg (Z1) 4), .int .i64 (dg (Z1) 5), .int .i64 (dg (Z1) 6), .int .i64 (dg (Z1) 7), .int .i64 (dg (Z1) 8), .int .i64 (dg (Z1) 9), .int .i64 (dg (Z1) 10), .int .i64 (dg (Z1) 11)]) ∧ Ext w w')
    (T2 : ∀ w, Calls Tryd.prog 38 #[.int .i64 k, .int .i64 e] w fun e w' => e = .returned (.agg #[.bool (S2), .int .i64 (dg (Z2) 0), .int .i64 (dg (Z2) 1), .int .i64 (dg (Z2) 2), .int .i64 (dg (Z2) 3), .int .i64 (dg (Z2) 4), .int .i64 (dg (Z2) 5), .int .i64 (dg (Z2) 6), .int .i64 (dg (Z2) 7), .int .i64 (dg (Z2) 8), .int .i64 (dg (Z2) 9), .int .i64 (dg (Z2) 10), .int .i64 (dg (Z2) 11)]) ∧ Ext w w')
    (SM : ∀ w, Calls Tryd.prog 46 #[(.agg #[.bool (S1), .int .i64 (dg (Z1) 0), .int .i64 (dg (Z1) 1), .int .i64 (dg (Z1) 2), .int .i64 (dg (Z1) 3), .int .i64 (dg (Z1) 4), .int .i64 (dg (Z1) 5), .int .i64 (dg (Z1) 6), .int .i64 (dg (Z1) 7), .int .i64 (dg (Z1) 8), .int .i64 (dg (Z1) 9), .int .i64 (dg (Z1) 10), .int .i64 (dg (Z1) 11)]), (.agg #[.bool (S2), .int .i64 (dg (Z2) 0), .int .i64 (dg (Z2) 1), .int .i64 (dg (Z2) 2), .int .i64 (dg (Z2) 3), .int .i64 (dg (Z2) 4), .int .i64 (dg (Z2) 5), .int .i64 (dg (Z2) 6), .int .i64 (dg (Z2) 7), .int .i64 (dg (Z2) 8), .int .i64 (dg (Z2) 9), .int .i64 (dg (Z2) 10), .int .i64 (dg (Z2) 11)])] w fun e w' => e = .returned (.agg #[.bool (S), .int .i64 (dg (Z) 0), .int .i64 (dg (Z) 1), .int .i64 (dg (Z) 2), .int .i64 (dg (Z) 3), .int .i64 (dg (Z) 4), .int .i64 (dg (Z) 5), .int .i64 (dg (Z) 6), .int .i64 (dg (Z) 7), .int .i64 (dg (Z) 8), .int .i64 (dg (Z) 9), .int .i64 (dg (Z) 10), .int .i64 (dg (Z) 11)]) ∧ Ext w w')
    (NM : ∀ w, Calls Tryd.prog 39 #[.int .i64 d] w fun e w' => e = .returned (.agg #[.bool (T), .int .i64 (dg (Y) 0), .int .i64 (dg (Y) 1), .int .i64 (dg (Y) 2), .int .i64 (dg (Y) 3), .int .i64 (dg (Y) 4), .int .i64 (dg (Y) 5), .int .i64 (dg (Y) 6), .int .i64 (dg (Y) 7), .int .i64 (dg (Y) 8), .int .i64 (dg (Y) 9), .int .i64 (dg (Y) 10), .int .i64 (dg (Y) 11)]) ∧ Ext w w')
    (HO : ∀ w, Calls Tryd.prog 37 #[(.agg #[.bool (S), .int .i64 (dg (Z) 0), .int .i64 (dg (Z) 1), .int .i64 (dg (Z) 2), .int .i64 (dg (Z) 3), .int .i64 (dg (Z) 4), .int .i64 (dg (Z) 5), .int .i64 (dg (Z) 6), .int .i64 (dg (Z) 7), .int .i64 (dg (Z) 8), .int .i64 (dg (Z) 9), .int .i64 (dg (Z) 10), .int .i64 (dg (Z) 11)]), (.agg #[.bool (T), .int .i64 (dg (Y) 0), .int .i64 (dg (Y) 1), .int .i64 (dg (Y) 2), .int .i64 (dg (Y) 3), .int .i64 (dg (Y) 4), .int .i64 (dg (Y) 5), .int .i64 (dg (Y) 6), .int .i64 (dg (Y) 7), .int .i64 (dg (Y) 8), .int .i64 (dg (Y) 9), .int .i64 (dg (Y) 10), .int .i64 (dg (Y) 11)])] w fun e w' => e = .returned (.int .i32 r) ∧ Ext w w')
    (w : World) : Calls Tryd.prog 33 #[.int .i32 x, .agg #[.int .i32 l1, .int .i32 h1], .agg #[.int .i32 l2, .int .i32 h2]] w fun e w' => e = .returned (.tuple #[.int .i32 r, .int .i64 0]) ∧ Ext w w' := by
  have EX := Ext.refl w
  go_enter Tryd.func33, Tryd.ntmps33
  go_upto_region 1 with fail
  refine rebase (G := fun w' => Code.wp _ _ _ _ w') _ (fun v1 => Ext w v1 ∧ S2m v1 (w.heap.size) (.int .i32 l1) (.int .i32 h1) ∧ S2m v1 (w.heap.size + 1) (.int .i32 l2) (.int .i32 h2)) ⟨by repeat (first | with_reducible exact EX | with_reducible refine Ext.alloc ?_ _ | with_reducible refine Ext.drew ?_ | with_reducible refine Ext.drewN ?_ _ | with_reducible refine Ext.setCell ?_ (by first | (simp; done) | omega | (dsimp only; omega)) _), by repeat (first | with_reducible assumption | with_reducible refine S2m.drew ?_ | with_reducible refine S2m.drewN ?_ _ | (with_reducible refine S2m.skip ?_ ?_; focus (first | omega | (simp; done))) | with_reducible refine S2m.store ?_ | with_reducible refine S2m.set0 ?_ _ | with_reducible refine S2m.set1 ?_ _ | with_reducible refine S2m.new (by first | rfl | (simp; done) | with_unfolding_all rfl) (by with_unfolding_all rfl) (by with_unfolding_all rfl) | with_reducible refine S2m.alloc ?_ _ | exact S2m.any (by with_reducible assumption) | with_reducible refine S2mAny.drew ?_ | with_reducible refine S2mAny.drewN ?_ _ | (with_reducible refine S2mAny.skip ?_ ?_; focus (first | omega | (simp; done))) | with_reducible refine S2mAny.alloc ?_ _), by repeat (first | with_reducible assumption | with_reducible refine S2m.drew ?_ | with_reducible refine S2m.drewN ?_ _ | (with_reducible refine S2m.skip ?_ ?_; focus (first | omega | (simp; done))) | with_reducible refine S2m.store ?_ | with_reducible refine S2m.set0 ?_ _ | with_reducible refine S2m.set1 ?_ _ | with_reducible refine S2m.new (by first | rfl | (simp; done) | with_unfolding_all rfl) (by with_unfolding_all rfl) (by with_unfolding_all rfl) | with_reducible refine S2m.alloc ?_ _ | exact S2m.any (by with_reducible assumption) | with_reducible refine S2mAny.drew ?_ | with_reducible refine S2mAny.drewN ?_ _ | (with_reducible refine S2mAny.skip ?_ ?_; focus (first | omega | (simp; done))) | with_reducible refine S2mAny.alloc ?_ _)⟩ ?_; clear EX ; rintro v1 ⟨EX, SA, SB⟩; rename World => v; have SAc0 := SA.c0; have SAc1 := SA.c1; have SAfz := SA.fz; have SAlt := SA.lt; have SBc0 := SB.c0; have SBc1 := SB.c1; have SBfz := SB.fz; have SBlt := SB.lt
  go_upto_region 4 with fail
  refine wp_region_many 21 [(20, 9, (.cells #[.bool false, .int .i64 0, .int .i64 0, .int .i64 0, .int .i64 0, .int .i64 0, .int .i64 0, .int .i64 0, .int .i64 0, .int .i64 0, .int .i64 0, .int .i64 0, .int .i64 0] 49))] (fun i => false) (by kernel_rfl) (by kernel_rfl) (by kernel_rfl) (fun c a x v w h => by cases x <;> exact h) ?_ ?_ ?_; (focus (intro i o hi ho; simp at hi)); (focus (intro m hm o ho a w; simp only [List.mem_cons, List.not_mem_nil, or_false] at hm; rcases hm with rfl <;> (cases ho; go_simp))); intro B hB l' hl'; simp [dumbsM, dumbM, isNew] at hl'; subst hl'; have gSAc0 := fun x' : Grow B => (SA.later (Ext.trans hB x'.ext)).c0; have gSAc1 := fun x' : Grow B => (SA.later (Ext.trans hB x'.ext)).c1; have gSAfz := fun x' : Grow B => (SA.later (Ext.trans hB x'.ext)).fz; have gSAlt := fun x' : Grow B => (SA.later (Ext.trans hB x'.ext)).lt; have gSBc0 := fun x' : Grow B => (SB.later (Ext.trans hB x'.ext)).c0; have gSBc1 := fun x' : Grow B => (SB.later (Ext.trans hB x'.ext)).c1; have gSBfz := fun x' : Grow B => (SB.later (Ext.trans hB x'.ext)).fz; have gSBlt := fun x' : Grow B => (SB.later (Ext.trans hB x'.ext)).lt; (repeat (first | go_big_quiet_step ((go_at_call 38; with_reducible exact calls_grow (T1 _))) | go_big_quiet_step ((go_at_call 38; with_reducible exact calls_grow (T2 _))) | go_big_quiet_step ((go_at_call 46; with_reducible exact calls_grow (SM _))) | go_big_quiet_step (fail))); refine wpQuiet_nil ?_; clear gSAc0 gSAc1 gSAfz gSAlt gSBc0 gSBc1 gSBfz gSBlt; clear hB B; intro bs v1 hv hms hne t ht; simp at ht; subst ht; simp only [puts, if_true]; obtain ⟨wn, n1, n2, n3⟩ := hms _ List.mem_cons_self; replace n3 : bs 20 = wn.heap.size := n3; have NU : Nm v1 (bs 20) (false) (fun _ => 0) := (by rw [n3]; exact Nm.later n2 (Nm.new rfl (by with_unfolding_all rfl) (all12 (by with_unfolding_all rfl) (by with_unfolding_all rfl) (by with_unfolding_all rfl) (by with_unfolding_all rfl) (by with_unfolding_all rfl) (by with_unfolding_all rfl) (by with_unfolding_all rfl) (by with_unfolding_all rfl) (by with_unfolding_all rfl) (by with_unfolding_all rfl) (by with_unfolding_all rfl) (by with_unfolding_all rfl)))); have n4 := n1.more; have n5 := EX.more; have qNU_w : w.heap.size ≤ bs 20 := (by omega); have qNU_SA : w.heap.size < bs 20 := (by have := SA.lt; omega); have qNU_SB : w.heap.size + 1 < bs 20 := (by have := SB.lt; omega); clear n1 n2 n3 n4 n5 wn; clear hms hne; replace EX := Ext.trans EX hv; clear SAc0 SAc1 SAfz SAlt SBc0 SBc1 SBfz SBlt; clear SA SB; clear hv v; generalize bs 20 = b3 at *; clear bs; rename World => v; have NUsg := NU.sg; have NUdg := NU.dg; have NUfz := NU.fz; have NUlt := NU.lt
  go_upto_region 5 with fail
  refine rebase (G := fun w' => Code.wp _ _ _ _ w') _ (fun v1 => Ext w v1 ∧ Nm v1 (b3) (S) (dg Z)) ⟨by repeat (first | with_reducible exact EX | with_reducible refine Ext.alloc ?_ _ | with_reducible refine Ext.drew ?_ | with_reducible refine Ext.drewN ?_ _ | with_reducible refine Ext.setCell ?_ (by first | (simp; done) | omega | (dsimp only; omega)) _), by repeat (first | with_reducible assumption | with_reducible refine Nm.drew ?_ | with_reducible refine Nm.drewN ?_ _ | (with_reducible refine Nm.skip ?_ ?_; focus (first | omega | (simp; done))) | with_reducible refine Nm.store ?_ rfl rfl rfl rfl rfl rfl rfl rfl rfl rfl rfl rfl rfl | with_reducible refine Nm.new (by first | rfl | (simp; done) | with_unfolding_all rfl) (by with_unfolding_all rfl) (all12 (by with_unfolding_all rfl) (by with_unfolding_all rfl) (by with_unfolding_all rfl) (by with_unfolding_all rfl) (by with_unfolding_all rfl) (by with_unfolding_all rfl) (by with_unfolding_all rfl) (by with_unfolding_all rfl) (by with_unfolding_all rfl) (by with_unfolding_all rfl) (by with_unfolding_all rfl) (by with_unfolding_all rfl)) | with_reducible refine Nm.alloc ?_ _ | exact Nm.any (by with_reducible assumption) | with_reducible refine NmAny.drew ?_ | with_reducible refine NmAny.drewN ?_ _ | (with_reducible refine NmAny.skip ?_ ?_; focus (first | omega | (simp; done))) | with_reducible refine NmAny.alloc ?_ _)⟩ ?_; clear NUsg NUdg NUfz NUlt; clear EX NU; rintro v1 ⟨EX, NU⟩; clear v; rename World => v; have NUsg := NU.sg; have NUdg := NU.dg; have NUfz := NU.fz; have NUlt := NU.lt
  have gNUsg := fun x' : Grow v => (NU.later x'.ext).sg; have gNUdg := fun x' : Grow v => (NU.later x'.ext).dg; have gNUfz := fun x' : Grow v => (NU.later x'.ext).fz; have gNUlt := fun x' : Grow v => (NU.later x'.ext).lt; refine wp_region_grow (by kernel_rfl) (by kernel_rfl) ?_; (repeat (first | go_big_quiet_step ((go_at_call 39; with_reducible exact calls_grow (NM _))) | go_big_quiet_step ((go_at_call 37; with_reducible exact calls_grow (HO _))) | go_big_quiet_step (fail))); refine wpQuiet_nil ?_; clear gNUsg gNUdg gNUfz gNUlt; rintro _ ⟨xq, rfl⟩; replace EX := Ext.trans EX xq.ext; replace NU := NU.later xq.ext; replace NUsg := NU.sg; replace NUdg := NU.dg; replace NUfz := NU.fz; replace NUlt := NU.lt; generalize xq.out = v1 at *; clear xq v; rename World => v
  go_wp2
  go_ret2
  exact ⟨rfl, EX⟩
theorem sumX_le (s t : Bool) {X Y : Int} (hX : 0 ≤ X) (hY : 0 ≤ Y) : 0 ≤ sumX s t X Y ∧ sumX s t X Y ≤ X + Y := by
  unfold sumX
  split
  · omega
  · split <;> omega
theorem r2line_any (x l1 h1 l2 h2 : Int) (hx : In32 x) (hl1 : In32 l1) (hh1 : In32 h1) (hl2 : In32 l2) (hh2 : In32 h2) (w : World) : Calls Tryd.prog 33 #[.int .i32 x, .agg #[.int .i32 l1, .int .i32 h1], .agg #[.int .i32 l2, .int .i32 h2]] w fun e w' => e = .returned (.tuple #[.int .i32 (led x l1 h1 l2 h2), .int .i64 (lede l1 h1)]) ∧ Ext w w' := by
  unfold led lede
  by_cases h : l1 = h1
  · subst h
    rw [if_pos rfl, if_pos rfl]
    have EX := Ext.refl w
    clear hx hl1 hh1 hl2 hh2
    go_enter Tryd.func33, Tryd.ntmps33
    go_wp2
    refine bodyPost_ret (by simp only [results, Tryd.results33]; simp [go_sem, *]; try rfl) rfl ⟨rfl, ?_⟩
    repeat (first | with_reducible exact EX | with_reducible refine Ext.alloc ?_ _ | with_reducible refine Ext.drew ?_ | with_reducible refine Ext.drewN ?_ _ | with_reducible refine Ext.setCell ?_ (by first | (simp; done) | omega | (dsimp only; omega)) _)
  · rw [if_neg h, if_neg h]
    have i1 : In64 (x - l1) := by unfold In32 In64 at *; omega
    have i2 : In64 (h2 - l2) := by unfold In32 In64 at *; omega
    have i3 : In64 (h1 - l1) := by unfold In32 In64 at *; omega
    have p1 := prod_le (in32_64 hl2) i3
    have p2 := prod_le i1 i2
    have q1 : ab l2 * ab (h1 - l1) ≤ 18446744073709551616 := by
      have a1 : ab l2 ≤ 4294967296 ∧ 0 ≤ ab l2 := by unfold ab In32 at *; split <;> omega
      have a2 : ab (h1 - l1) ≤ 4294967296 ∧ 0 ≤ ab (h1 - l1) := by unfold ab In32 at *; split <;> omega
      exact Int.mul_le_mul a1.1 a2.1 a2.2 (by decide)
    have q2 : ab (x - l1) * ab (h2 - l2) ≤ 18446744073709551616 := by
      have a1 : ab (x - l1) ≤ 4294967296 ∧ 0 ≤ ab (x - l1) := by unfold ab In32 at *; split <;> omega
      have a2 : ab (h2 - l2) ≤ 4294967296 ∧ 0 ≤ ab (h2 - l2) := by unfold ab In32 at *; split <;> omega
      exact Int.mul_le_mul a1.1 a2.1 a2.2 (by decide)
    have sm := fun w => nsum_any (decide (l2 < 0) != decide (h1 - l1 < 0)) (decide (x - l1 < 0) != decide (h2 - l2 < 0)) (ab l2 * ab (h1 - l1)) (ab (x - l1) * ab (h2 - l2)) ⟨p1.1, by omega⟩ ⟨p2.1, by omega⟩ w
    have sz := sumX_le (decide (l2 < 0) != decide (h1 - l1 < 0)) (decide (x - l1 < 0) != decide (h2 - l2 < 0)) p1.1 p2.1
    have d1 := ab64le i3
    have ho := fun w => rhold_any (sumS (decide (l2 < 0) != decide (h1 - l1 < 0)) (decide (x - l1 < 0) != decide (h2 - l2 < 0)) (ab l2 * ab (h1 - l1)) (ab (x - l1) * ab (h2 - l2))) (decide (h1 - l1 < 0)) (sumX (decide (l2 < 0) != decide (h1 - l1 < 0)) (decide (x - l1 < 0) != decide (h2 - l2 < 0)) (ab l2 * ab (h1 - l1)) (ab (x - l1) * ab (h2 - l2))) (ab (h1 - l1)) sz.1 (by omega) (ab_ne (by omega)) (by omega) w
    rw [sum_sg, ab_mul, ab_mul, sg_ab, Int.add_comm (l2 * (h1 - l1))] at ho
    exact r2line_walk x l1 h1 l2 h2 _ _ _ _ h (by simpa using h) (wrap_in64 (in32_64 hx)) (wrap_in64 (in32_64 hl1)) (wrap_in64 (in32_64 hh1)) (wrap_in64 (in32_64 hl2)) (wrap_in64 (in32_64 hh2)) (wrap_in64 i3) (wrap_in64 i2) (wrap_in64 i1) _ _ _ _ _ _ _ _
      (fun w => times_ref _ _ (in32_64 hl2) i3 w) (fun w => times_ref _ _ i1 i2 w) sm (fun w => num_any _ i3 w) ho w
end Go.Proofs.YtibfeaafmcphjaaDoor
