/- The statement WidesNarrowSaid: the given function WidesNarrow returns true at every wide and every number, and its arguments read afterwards as before. -/
import Derived.Test.YthcmfoflogpkkaaLives
namespace Go.Proofs.Ythcmfoflogpkkaa
open Go.RowKit Go.BigFrame
set_option linter.unusedSimpArgs false
set_option linter.unusedVariables false

theorem wrap64_iff (x : Int) : wrap64 x = x ↔ In64 x := by simp [wrap64]; unfold In64; omega
set_option maxHeartbeats 4000000 in
theorem narrow_walk (a n : Int) (hn : In64 n) (w : World) : Calls Try.prog 8 #[(.agg #[.int .i64 (hi (a)), .int .u64 (lo (a))]), .int .i64 n] w fun e w' => e = .returned (.bool true) ∧ Ext w w' := by
  have I1 := fun w => int_any n w
  have hwn : wrap64 n = n := (wrap64_iff n).2 hn
  rw [if_pos hwn, show decide (wrap64 n = n) = true by simp [hwn]] at I1
  have I2 := fun w => int_any a w
  have O1 := fun w => of_any n hn w
  have O2 := fun w => of_any (-9223372036854775808) ⟨by decide, by decide⟩ w
  have O3 := fun w => of_any 9223372036854775807 ⟨by decide, by decide⟩ w
  have C1 := fun w => cmp_any a (-9223372036854775808) w
  have C2 := fun w => cmp_any a 9223372036854775807 w
  have key : (In64 a ∧ 0 ≤ sgn a (-9223372036854775808) ∧ sgn a 9223372036854775807 ≤ 0) ∨ (¬ In64 a ∧ sgn a (-9223372036854775808) < 0) ∨ (¬ In64 a ∧ 0 ≤ sgn a (-9223372036854775808) ∧ 0 < sgn a 9223372036854775807) := by
    unfold sgn In64
    split <;> split <;> (try split) <;> (try split) <;> omega
  have EX := Ext.refl w
  rcases key with ⟨ha, k1, k2⟩ | ⟨ha, k1⟩ | ⟨ha, k1, k2⟩
  · have hwa : wrap64 a = a := (wrap64_iff a).2 ha
    rw [if_pos hwa, show decide (wrap64 a = a) = true by simp [hwa]] at I2
    have O4 := fun w => of_any a ha w
    clear hwa hwn hn ha
    generalize sgn a (-9223372036854775808) = g1 at *
    generalize sgn a 9223372036854775807 = g2 at *
    go_enter Try.func8, Try.ntmps8
    go_upto_region 1 with fail
    refine rebase (G := fun w' => Code.wp _ _ _ _ w') _ (fun v1 => Ext w v1 ∧ v1.cell? ⟨w.heap.size, 0, none⟩ = some (.int .i64 (hi (a))) ∧ v1.cell? ⟨w.heap.size, 1, none⟩ = some (.int .u64 (lo (a)))) ⟨by repeat (first | with_reducible exact EX | with_reducible refine Ext.alloc ?_ _ | with_reducible refine Ext.drew ?_ | with_reducible refine Ext.setCell ?_ (by first | (simp; done) | omega) _), by (repeat (first | with_reducible assumption | with_reducible refine cell_same ?_ | with_reducible refine cell_skip (by first | exact .inr (by decide) | exact .inl (by first | (simp; done) | omega)) ?_ | with_reducible refine There.set ?_ | exact There.of (by with_reducible assumption) | (refine new1 ?_; first | rfl | (simp; done)) | with_reducible refine old1 ?_)), by (repeat (first | with_reducible assumption | with_reducible refine cell_same ?_ | with_reducible refine cell_skip (by first | exact .inr (by decide) | exact .inl (by first | (simp; done) | omega)) ?_ | with_reducible refine There.set ?_ | exact There.of (by with_reducible assumption) | (refine new1 ?_; first | rfl | (simp; done)) | with_reducible refine old1 ?_))⟩ ?_; clear EX; rintro v1 ⟨EX, c0, c1⟩; obtain ⟨b0, hb0⟩ : ∃ b, w.heap.size = b := ⟨_, rfl⟩; rw [hb0] at c0 c1 ⊢; clear hb0; rename World => v; have l0 := cell_lt c0
    go_upto_region 5 with (first | (go_at_call 21; refine (O1 _).mono ?_; rintro e v1 ⟨rfl, hb⟩; replace EX := Ext.trans EX hb; replace c0 := Ext.later hb c0; replace c1 := Ext.later hb c1; replace l0 := cell_lt c0; clear hb v; rename World => v) | (go_at_call_of 25 (Value.agg #[.int .i64 (hi n), .int .u64 (lo n)]); refine (I1 _).mono ?_; rintro e v1 ⟨rfl, hb⟩; replace EX := Ext.trans EX hb; replace c0 := Ext.later hb c0; replace c1 := Ext.later hb c1; replace l0 := cell_lt c0; clear hb v; rename World => v) | (go_at_call 25; refine (I2 _).mono ?_; rintro e v1 ⟨rfl, hb⟩; replace EX := Ext.trans EX hb; replace c0 := Ext.later hb c0; replace c1 := Ext.later hb c1; replace l0 := cell_lt c0; clear hb v; rename World => v))
    replace c0 := fun x' : Grow v => x'.cell c0
    replace c1 := fun x' : Grow v => x'.cell c1
    clear l0
    refine wp_region_grow (by kernel_rfl) (by kernel_rfl) ?_
    repeat (go_big_quiet_step ((first | (go_at_call 21; with_reducible exact calls_grow (O2 _)) | (go_at_call 21; with_reducible exact calls_grow (O3 _)) | (go_at_call 13; with_reducible exact calls_grow (C1 _)) | (go_at_call 13; with_reducible exact calls_grow (C2 _)))))
    refine wpQuiet_nil ?_
    rintro _ ⟨xq, rfl⟩
    replace EX := Ext.trans EX xq.ext
    replace c0 := c0 xq
    replace c1 := c1 xq
    refine rebase (G := fun w' => Exit.then _ _ _ _ w') _ (fun v1 => Ext w v1 ∧ v1.cell? ⟨b0, 0, none⟩ = some (.int .i64 (hi (a))) ∧ v1.cell? ⟨b0, 1, none⟩ = some (.int .u64 (lo (a)))) ⟨EX, c0, c1⟩ ?_
    clear EX c0 c1 xq v
    rintro v ⟨EX, c0, c1⟩
    go_upto_region 6 with fail
    replace c0 := fun x' : Grow v => x'.cell c0
    replace c1 := fun x' : Grow v => x'.cell c1
    refine wp_region_grow (by kernel_rfl) (by kernel_rfl) ?_
    repeat (go_big_quiet_step ((first | (go_at_call 21; with_reducible exact calls_grow (O4 _)) | (go_at_call 27; exact calls_grow (lives_any _)))))
    refine wpQuiet_nil ?_
    rintro _ ⟨xq, rfl⟩
    replace EX := Ext.trans EX xq.ext
    go_wp2
    go_ret
    exact ⟨rfl, EX⟩
  · have hwa : ¬ wrap64 a = a := fun h => ha ((wrap64_iff a).1 h)
    rw [if_neg hwa, show decide (wrap64 a = a) = false by simp [hwa]] at I2
    have O4 := I2
    clear hwa hwn hn ha
    generalize sgn a (-9223372036854775808) = g1 at *
    generalize sgn a 9223372036854775807 = g2 at *
    have kd : decide (0 ≤ g1) = false := by simp; omega
    go_enter Try.func8, Try.ntmps8
    go_upto_region 1 with fail
    refine rebase (G := fun w' => Code.wp _ _ _ _ w') _ (fun v1 => Ext w v1 ∧ v1.cell? ⟨w.heap.size, 0, none⟩ = some (.int .i64 (hi (a))) ∧ v1.cell? ⟨w.heap.size, 1, none⟩ = some (.int .u64 (lo (a)))) ⟨by repeat (first | with_reducible exact EX | with_reducible refine Ext.alloc ?_ _ | with_reducible refine Ext.drew ?_ | with_reducible refine Ext.setCell ?_ (by first | (simp; done) | omega) _), by (repeat (first | with_reducible assumption | with_reducible refine cell_same ?_ | with_reducible refine cell_skip (by first | exact .inr (by decide) | exact .inl (by first | (simp; done) | omega)) ?_ | with_reducible refine There.set ?_ | exact There.of (by with_reducible assumption) | (refine new1 ?_; first | rfl | (simp; done)) | with_reducible refine old1 ?_)), by (repeat (first | with_reducible assumption | with_reducible refine cell_same ?_ | with_reducible refine cell_skip (by first | exact .inr (by decide) | exact .inl (by first | (simp; done) | omega)) ?_ | with_reducible refine There.set ?_ | exact There.of (by with_reducible assumption) | (refine new1 ?_; first | rfl | (simp; done)) | with_reducible refine old1 ?_))⟩ ?_; clear EX; rintro v1 ⟨EX, c0, c1⟩; obtain ⟨b0, hb0⟩ : ∃ b, w.heap.size = b := ⟨_, rfl⟩; rw [hb0] at c0 c1 ⊢; clear hb0; rename World => v; have l0 := cell_lt c0
    go_upto_region 5 with (first | (go_at_call 21; refine (O1 _).mono ?_; rintro e v1 ⟨rfl, hb⟩; replace EX := Ext.trans EX hb; replace c0 := Ext.later hb c0; replace c1 := Ext.later hb c1; replace l0 := cell_lt c0; clear hb v; rename World => v) | (go_at_call_of 25 (Value.agg #[.int .i64 (hi n), .int .u64 (lo n)]); refine (I1 _).mono ?_; rintro e v1 ⟨rfl, hb⟩; replace EX := Ext.trans EX hb; replace c0 := Ext.later hb c0; replace c1 := Ext.later hb c1; replace l0 := cell_lt c0; clear hb v; rename World => v) | (go_at_call 25; refine (I2 _).mono ?_; rintro e v1 ⟨rfl, hb⟩; replace EX := Ext.trans EX hb; replace c0 := Ext.later hb c0; replace c1 := Ext.later hb c1; replace l0 := cell_lt c0; clear hb v; rename World => v))
    replace c0 := fun x' : Grow v => x'.cell c0
    replace c1 := fun x' : Grow v => x'.cell c1
    clear l0
    refine wp_region_grow (by kernel_rfl) (by kernel_rfl) ?_
    repeat (go_big_quiet_step ((first | (go_at_call 21; with_reducible exact calls_grow (O2 _)) | (go_at_call 21; with_reducible exact calls_grow (O3 _)) | (go_at_call 13; with_reducible exact calls_grow (C1 _)) | (go_at_call 13; with_reducible exact calls_grow (C2 _)))))
    refine wpQuiet_nil ?_
    rintro _ ⟨xq, rfl⟩
    replace EX := Ext.trans EX xq.ext
    replace c0 := c0 xq
    replace c1 := c1 xq
    refine rebase (G := fun w' => Exit.then _ _ _ _ w') _ (fun v1 => Ext w v1 ∧ v1.cell? ⟨b0, 0, none⟩ = some (.int .i64 (hi (a))) ∧ v1.cell? ⟨b0, 1, none⟩ = some (.int .u64 (lo (a)))) ⟨EX, c0, c1⟩ ?_
    clear EX c0 c1 xq v
    rintro v ⟨EX, c0, c1⟩
    go_upto_region 6 with fail
    replace c0 := fun x' : Grow v => x'.cell c0
    replace c1 := fun x' : Grow v => x'.cell c1
    refine wp_region_grow (by kernel_rfl) (by kernel_rfl) ?_
    repeat (go_big_quiet_step ((first | (go_at_call 21; with_reducible exact calls_grow (O4 _)) | (go_at_call 27; exact calls_grow (lives_any _)))))
    refine wpQuiet_nil ?_
    rintro _ ⟨xq, rfl⟩
    replace EX := Ext.trans EX xq.ext
    go_wp2
    go_ret
    exact ⟨rfl, EX⟩
  · have hwa : ¬ wrap64 a = a := fun h => ha ((wrap64_iff a).1 h)
    rw [if_neg hwa, show decide (wrap64 a = a) = false by simp [hwa]] at I2
    have O4 := I2
    clear hwa hwn hn ha
    generalize sgn a (-9223372036854775808) = g1 at *
    generalize sgn a 9223372036854775807 = g2 at *
    have kd : decide (g2 ≤ 0) = false := by simp; omega
    go_enter Try.func8, Try.ntmps8
    go_upto_region 1 with fail
    refine rebase (G := fun w' => Code.wp _ _ _ _ w') _ (fun v1 => Ext w v1 ∧ v1.cell? ⟨w.heap.size, 0, none⟩ = some (.int .i64 (hi (a))) ∧ v1.cell? ⟨w.heap.size, 1, none⟩ = some (.int .u64 (lo (a)))) ⟨by repeat (first | with_reducible exact EX | with_reducible refine Ext.alloc ?_ _ | with_reducible refine Ext.drew ?_ | with_reducible refine Ext.setCell ?_ (by first | (simp; done) | omega) _), by (repeat (first | with_reducible assumption | with_reducible refine cell_same ?_ | with_reducible refine cell_skip (by first | exact .inr (by decide) | exact .inl (by first | (simp; done) | omega)) ?_ | with_reducible refine There.set ?_ | exact There.of (by with_reducible assumption) | (refine new1 ?_; first | rfl | (simp; done)) | with_reducible refine old1 ?_)), by (repeat (first | with_reducible assumption | with_reducible refine cell_same ?_ | with_reducible refine cell_skip (by first | exact .inr (by decide) | exact .inl (by first | (simp; done) | omega)) ?_ | with_reducible refine There.set ?_ | exact There.of (by with_reducible assumption) | (refine new1 ?_; first | rfl | (simp; done)) | with_reducible refine old1 ?_))⟩ ?_; clear EX; rintro v1 ⟨EX, c0, c1⟩; obtain ⟨b0, hb0⟩ : ∃ b, w.heap.size = b := ⟨_, rfl⟩; rw [hb0] at c0 c1 ⊢; clear hb0; rename World => v; have l0 := cell_lt c0
    go_upto_region 5 with (first | (go_at_call 21; refine (O1 _).mono ?_; rintro e v1 ⟨rfl, hb⟩; replace EX := Ext.trans EX hb; replace c0 := Ext.later hb c0; replace c1 := Ext.later hb c1; replace l0 := cell_lt c0; clear hb v; rename World => v) | (go_at_call_of 25 (Value.agg #[.int .i64 (hi n), .int .u64 (lo n)]); refine (I1 _).mono ?_; rintro e v1 ⟨rfl, hb⟩; replace EX := Ext.trans EX hb; replace c0 := Ext.later hb c0; replace c1 := Ext.later hb c1; replace l0 := cell_lt c0; clear hb v; rename World => v) | (go_at_call 25; refine (I2 _).mono ?_; rintro e v1 ⟨rfl, hb⟩; replace EX := Ext.trans EX hb; replace c0 := Ext.later hb c0; replace c1 := Ext.later hb c1; replace l0 := cell_lt c0; clear hb v; rename World => v))
    replace c0 := fun x' : Grow v => x'.cell c0
    replace c1 := fun x' : Grow v => x'.cell c1
    clear l0
    refine wp_region_grow (by kernel_rfl) (by kernel_rfl) ?_
    repeat (go_big_quiet_step ((first | (go_at_call 21; with_reducible exact calls_grow (O2 _)) | (go_at_call 21; with_reducible exact calls_grow (O3 _)) | (go_at_call 13; with_reducible exact calls_grow (C1 _)) | (go_at_call 13; with_reducible exact calls_grow (C2 _)))))
    refine wpQuiet_nil ?_
    rintro _ ⟨xq, rfl⟩
    replace EX := Ext.trans EX xq.ext
    replace c0 := c0 xq
    replace c1 := c1 xq
    refine rebase (G := fun w' => Exit.then _ _ _ _ w') _ (fun v1 => Ext w v1 ∧ v1.cell? ⟨b0, 0, none⟩ = some (.int .i64 (hi (a))) ∧ v1.cell? ⟨b0, 1, none⟩ = some (.int .u64 (lo (a)))) ⟨EX, c0, c1⟩ ?_
    clear EX c0 c1 xq v
    rintro v ⟨EX, c0, c1⟩
    go_upto_region 6 with fail
    replace c0 := fun x' : Grow v => x'.cell c0
    replace c1 := fun x' : Grow v => x'.cell c1
    refine wp_region_grow (by kernel_rfl) (by kernel_rfl) ?_
    repeat (go_big_quiet_step ((first | (go_at_call 21; with_reducible exact calls_grow (O4 _)) | (go_at_call 27; exact calls_grow (lives_any _)))))
    refine wpQuiet_nil ?_
    rintro _ ⟨xq, rfl⟩
    replace EX := Ext.trans EX xq.ext
    go_wp2
    go_ret
    exact ⟨rfl, EX⟩
end Go.Proofs.Ythcmfoflogpkkaa
