/- What wides.Times and wides.Mul do, called at any arguments. -/
import Derived.Test.YthmgilikokcibaaWideD
namespace Go.Proofs.Ythmgilikokcibaa
open Go.RowKit Go.BigFrame
set_option linter.unusedSimpArgs false

theorem ab_mul (a n : Int) : sg (decide (a < 0) != decide (n < 0)) (ab a * ab n) = a * n := by
  unfold sg ab
  by_cases h1 : a < 0 <;> by_cases h2 : n < 0 <;> simp [h1, h2, Int.neg_mul, Int.mul_neg]
theorem ab_nonneg (a : Int) : 0 ≤ ab a := by unfold ab; split <;> omega
theorem sg_over {b : Bool} {m : Int} (h : 340282366920938463463374607431768211456 ≤ m) : ¬ InW (sg b m) := by unfold sg InW; split <;> omega
theorem in64_W {n : Int} (h : In64 n) : InW n := by unfold In64 InW at *; omega
theorem ab64 {n : Int} (h : In64 n) : lo (ab n) = ab n ∧ InU64 (ab n) := by unfold lo ab In64 InU64 at *; split <;> omega

set_option maxHeartbeats 2000000 in
theorem times_any (a n : Int) (ha : InW a) (hn : In64 n) (w : World) : Calls Try.prog 41 #[(.agg #[.int .i64 (hi (a)), .int .u64 (lo (a))]), .int .i64 n] w fun e w' => e = .returned (.tuple #[(.agg #[.int .i64 (hi (fit (a * n))), .int .u64 (lo (fit (a * n)))]), .int .i64 (err (a * n))]) ∧ Ext w w' := by
  have T1 := fun w => takeSign_any a ha w
  have T2 := fun w => takeSign_any n (in64_W hn) w
  obtain ⟨hl, hu⟩ := ab64 hn
  have PR := fun w => product_any (ab a) (ab n) (ab_in ha) hu w
  rw [← ab_mul a n]
  have hP : 0 ≤ ab a * ab n := Int.mul_nonneg (ab_nonneg a) (ab_nonneg n)
  rw [hl] at T2
  have PU := fun (b : Bool) m (h : InU m) w => putSign_any b m h w
  clear ha
  generalize decide (a < 0) = sa at *
  generalize decide (n < 0) = sn at *
  generalize ab a = A at *
  generalize ab n = N at *
  generalize A * N = Z at *
  by_cases hz : Z < 340282366920938463463374607431768211456
  · have e1 : um Z = Z := by unfold um; omega
    have e2 : Z / 340282366920938463463374607431768211456 = 0 := by omega
    have PU := fun w => PU (sa != sn) Z ⟨hP, hz⟩ w
    rw [e1, e2] at PR
    clear e1 e2 hz hP hl hu
    have EX := Ext.refl w
    go_enter Try.func41, Try.ntmps41
    go_wp2_with (first
      | (go_at_call_of 59 (Value.agg #[.int .i64 (hi a), .int .u64 (lo a)]); refine (T1 _).mono ?_; rintro e v ⟨rfl, hb⟩; have EX := Ext.trans (Ext.alloc (Ext.alloc EX _) _) hb; have k0 := Ext.later hb (p := ⟨w.heap.size + 1, 0, none⟩) (v := .int .i64 0) (by go_simp); have k1 := Ext.later hb (p := ⟨w.heap.size + 1, 1, none⟩) (v := .int .u64 0) (by go_simp); have kz0 := Ext.thaw hb (p := ⟨w.heap.size + 1, 0, none⟩) (v := .int .i64 0) (by go_simp) (by go_simp); have kz1 := Ext.thaw hb (p := ⟨w.heap.size + 1, 1, none⟩) (v := .int .u64 0) (by go_simp) (by go_simp); have kl0 := cell_lt k0)
      | (go_at_call 36; refine (of_any n hn _).mono ?_; rintro e v ⟨rfl, hb⟩; have EX := Ext.trans EX hb; have k0 := Ext.later hb (p := ⟨w.heap.size + 1, 0, none⟩) (v := .int .i64 0) (by with_reducible assumption); have k1 := Ext.later hb (p := ⟨w.heap.size + 1, 1, none⟩) (v := .int .u64 0) (by with_reducible assumption); have kz0 := Ext.thaw hb (p := ⟨w.heap.size + 1, 0, none⟩) (v := .int .i64 0) (by with_reducible assumption) (by with_reducible assumption); have kz1 := Ext.thaw hb (p := ⟨w.heap.size + 1, 1, none⟩) (v := .int .u64 0) (by with_reducible assumption) (by with_reducible assumption); have kl0 := cell_lt k0)
      | (go_at_call_of 59 (Value.agg #[.int .i64 (hi n), .int .u64 (lo n)]); refine (T2 _).mono ?_; rintro e v ⟨rfl, hb⟩; have EX := Ext.trans EX hb; have k0 := Ext.later hb (p := ⟨w.heap.size + 1, 0, none⟩) (v := .int .i64 0) (by with_reducible assumption); have k1 := Ext.later hb (p := ⟨w.heap.size + 1, 1, none⟩) (v := .int .u64 0) (by with_reducible assumption); have kz0 := Ext.thaw hb (p := ⟨w.heap.size + 1, 0, none⟩) (v := .int .i64 0) (by with_reducible assumption) (by with_reducible assumption); have kz1 := Ext.thaw hb (p := ⟨w.heap.size + 1, 1, none⟩) (v := .int .u64 0) (by with_reducible assumption) (by with_reducible assumption); have kl0 := cell_lt k0)
      | (go_at_call 60; refine (PR _).mono ?_; rintro e u ⟨rfl, hc⟩; have EX := Ext.trans (Ext.alloc (Ext.alloc EX _) _) hc; have m0 := Ext.later hc (p := ⟨v.heap.size, 0, none⟩) (v := .bool (sa)) (by go_simp); have m1 := Ext.later hc (p := ⟨v.heap.size, 1, none⟩) (v := .int .u64 (lo (A))) (by go_simp); have m2 := Ext.later hc (p := ⟨v.heap.size, 2, none⟩) (v := .int .u64 (hi (A))) (by go_simp); have m3 := Ext.later hc (p := ⟨v.heap.size + 1, 0, none⟩) (v := .bool sn) (by go_simp); have ml0 := cell_lt m0; have ml3 := cell_lt m3; have k0 := Ext.later hc (p := ⟨w.heap.size + 1, 0, none⟩) (v := .int .i64 0) (old2 (by with_reducible assumption)); have k1 := Ext.later hc (p := ⟨w.heap.size + 1, 1, none⟩) (v := .int .u64 0) (old2 (by with_reducible assumption)); have kz0 := Ext.thaw hc (p := ⟨w.heap.size + 1, 0, none⟩) (v := .int .i64 0) (old2 (by with_reducible assumption)) (thaw2 (by with_reducible assumption) (by with_reducible assumption)); have kz1 := Ext.thaw hc (p := ⟨w.heap.size + 1, 1, none⟩) (v := .int .u64 0) (old2 (by with_reducible assumption)) (thaw2 (by with_reducible assumption) (by with_reducible assumption)); have kl0 := cell_lt k0)
      | (go_at_call 61; refine (PU _).mono ?_; rintro e t ⟨rfl, hd⟩; have EX := Ext.trans (Ext.alloc EX _) hd; have k0 := Ext.later hd (p := ⟨w.heap.size + 1, 0, none⟩) (v := .int .i64 0) (old1 (by with_reducible assumption)); have k1 := Ext.later hd (p := ⟨w.heap.size + 1, 1, none⟩) (v := .int .u64 0) (old1 (by with_reducible assumption)); have kz0 := Ext.thaw hd (p := ⟨w.heap.size + 1, 0, none⟩) (v := .int .i64 0) (old1 (by with_reducible assumption)) (thaw1 (by with_reducible assumption) (by with_reducible assumption)); have kz1 := Ext.thaw hd (p := ⟨w.heap.size + 1, 1, none⟩) (v := .int .u64 0) (old1 (by with_reducible assumption)) (thaw1 (by with_reducible assumption) (by with_reducible assumption)); have kl0 := cell_lt k0))
    refine bodyPost_ret (by simp only [results, Try.results41]; simp [go_sem, *]; try rfl) rfl ⟨rfl, ?_⟩
    refine Ext.setCell (Ext.setCell EX ?_ _) ?_ _ <;> simp
  · rw [(fit_no (sg_over (Int.not_lt.1 hz))).1, (fit_no (sg_over (Int.not_lt.1 hz))).2]
    have e2 : ¬ Z / 340282366920938463463374607431768211456 = 0 := by omega
    simp only [show lo 0 = 0 from rfl, show hi 0 = 0 from rfl]
    clear hz hP hl hu PU
    have EX := Ext.refl w
    go_enter Try.func41, Try.ntmps41
    go_wp2_with (first
      | (go_at_call_of 59 (Value.agg #[.int .i64 (hi a), .int .u64 (lo a)]); refine (T1 _).mono ?_; rintro e v ⟨rfl, hb⟩; have EX := Ext.trans (Ext.alloc (Ext.alloc EX _) _) hb; have k0 := Ext.later hb (p := ⟨w.heap.size + 1, 0, none⟩) (v := .int .i64 0) (by go_simp); have k1 := Ext.later hb (p := ⟨w.heap.size + 1, 1, none⟩) (v := .int .u64 0) (by go_simp); have kz0 := Ext.thaw hb (p := ⟨w.heap.size + 1, 0, none⟩) (v := .int .i64 0) (by go_simp) (by go_simp); have kz1 := Ext.thaw hb (p := ⟨w.heap.size + 1, 1, none⟩) (v := .int .u64 0) (by go_simp) (by go_simp); have kl0 := cell_lt k0)
      | (go_at_call 36; refine (of_any n hn _).mono ?_; rintro e v ⟨rfl, hb⟩; have EX := Ext.trans EX hb; have k0 := Ext.later hb (p := ⟨w.heap.size + 1, 0, none⟩) (v := .int .i64 0) (by with_reducible assumption); have k1 := Ext.later hb (p := ⟨w.heap.size + 1, 1, none⟩) (v := .int .u64 0) (by with_reducible assumption); have kz0 := Ext.thaw hb (p := ⟨w.heap.size + 1, 0, none⟩) (v := .int .i64 0) (by with_reducible assumption) (by with_reducible assumption); have kz1 := Ext.thaw hb (p := ⟨w.heap.size + 1, 1, none⟩) (v := .int .u64 0) (by with_reducible assumption) (by with_reducible assumption); have kl0 := cell_lt k0)
      | (go_at_call_of 59 (Value.agg #[.int .i64 (hi n), .int .u64 (lo n)]); refine (T2 _).mono ?_; rintro e v ⟨rfl, hb⟩; have EX := Ext.trans EX hb; have k0 := Ext.later hb (p := ⟨w.heap.size + 1, 0, none⟩) (v := .int .i64 0) (by with_reducible assumption); have k1 := Ext.later hb (p := ⟨w.heap.size + 1, 1, none⟩) (v := .int .u64 0) (by with_reducible assumption); have kz0 := Ext.thaw hb (p := ⟨w.heap.size + 1, 0, none⟩) (v := .int .i64 0) (by with_reducible assumption) (by with_reducible assumption); have kz1 := Ext.thaw hb (p := ⟨w.heap.size + 1, 1, none⟩) (v := .int .u64 0) (by with_reducible assumption) (by with_reducible assumption); have kl0 := cell_lt k0)
      | (go_at_call 60; refine (PR _).mono ?_; rintro e u ⟨rfl, hc⟩; have EX := Ext.trans (Ext.alloc (Ext.alloc EX _) _) hc; have m0 := Ext.later hc (p := ⟨v.heap.size, 0, none⟩) (v := .bool (sa)) (by go_simp); have m1 := Ext.later hc (p := ⟨v.heap.size, 1, none⟩) (v := .int .u64 (lo (A))) (by go_simp); have m2 := Ext.later hc (p := ⟨v.heap.size, 2, none⟩) (v := .int .u64 (hi (A))) (by go_simp); have m3 := Ext.later hc (p := ⟨v.heap.size + 1, 0, none⟩) (v := .bool sn) (by go_simp); have ml0 := cell_lt m0; have ml3 := cell_lt m3; have k0 := Ext.later hc (p := ⟨w.heap.size + 1, 0, none⟩) (v := .int .i64 0) (old2 (by with_reducible assumption)); have k1 := Ext.later hc (p := ⟨w.heap.size + 1, 1, none⟩) (v := .int .u64 0) (old2 (by with_reducible assumption)); have kz0 := Ext.thaw hc (p := ⟨w.heap.size + 1, 0, none⟩) (v := .int .i64 0) (old2 (by with_reducible assumption)) (thaw2 (by with_reducible assumption) (by with_reducible assumption)); have kz1 := Ext.thaw hc (p := ⟨w.heap.size + 1, 1, none⟩) (v := .int .u64 0) (old2 (by with_reducible assumption)) (thaw2 (by with_reducible assumption) (by with_reducible assumption)); have kl0 := cell_lt k0))
    refine bodyPost_ret (by simp only [results, Try.results41]; simp [go_sem, *]; try rfl) rfl ⟨rfl, ?_⟩
    repeat (first | with_reducible exact EX | with_reducible refine Ext.alloc ?_ _ | with_reducible refine Ext.drew ?_ | with_reducible refine Ext.drewN ?_ _ | with_reducible refine Ext.setCell ?_ (by first | (simp; done) | omega | (dsimp only; omega)) _)

theorem in64_mul {a b : Int} (ha : In64 a) (hb : In64 b) : InW (a * b) := by
  have h : ab a * ab b ≤ 9223372036854775808 * 9223372036854775808 := by
    refine Int.mul_le_mul ?_ ?_ (ab_nonneg b) (by decide)
    · unfold ab In64 at *; split <;> omega
    · unfold ab In64 at *; split <;> omega
  have h0 : 0 ≤ ab a * ab b := Int.mul_nonneg (ab_nonneg a) (ab_nonneg b)
  rw [← ab_mul a b]
  unfold sg InW
  split <;> omega
set_option maxHeartbeats 1000000 in
theorem mul_any (a b : Int) (ha : In64 a) (hb : In64 b) (w : World) : Calls Try.prog 17 #[.int .i64 a, .int .i64 b] w fun e w' => e = .returned (.agg #[.int .i64 (hi (a * b)), .int .u64 (lo (a * b))]) ∧ Ext w w' := by
  have TM := fun w => times_any a b (in64_W ha) hb w
  rw [(fit_of (in64_mul ha hb)).1, (fit_of (in64_mul ha hb)).2] at TM
  generalize a * b = Z at *
  have EX := Ext.refl w
  go_enter Try.func17, Try.ntmps17
  go_wp2_with (first
    | (go_at_call 36; refine (of_any a ha _).mono ?_; rintro e v ⟨rfl, hc⟩; have EX := Ext.trans (Ext.alloc EX _) hc; have k0 := Ext.later hc (p := ⟨w.heap.size, 0, none⟩) (v := .int .i64 0) (by go_simp); have k1 := Ext.later hc (p := ⟨w.heap.size, 1, none⟩) (v := .int .u64 0) (by go_simp); have kz0 := Ext.thaw hc (p := ⟨w.heap.size, 0, none⟩) (v := .int .i64 0) (by go_simp) (by go_simp); have kz1 := Ext.thaw hc (p := ⟨w.heap.size, 1, none⟩) (v := .int .u64 0) (by go_simp) (by go_simp); have kl0 := cell_lt k0)
    | (go_at_call 41; refine (TM _).mono ?_; rintro e v ⟨rfl, hc⟩; have EX := Ext.trans EX hc; have k0 := Ext.later hc (p := ⟨w.heap.size, 0, none⟩) (v := .int .i64 0) (by with_reducible assumption); have k1 := Ext.later hc (p := ⟨w.heap.size, 1, none⟩) (v := .int .u64 0) (by with_reducible assumption); have kz0 := Ext.thaw hc (p := ⟨w.heap.size, 0, none⟩) (v := .int .i64 0) (by with_reducible assumption) (by with_reducible assumption); have kz1 := Ext.thaw hc (p := ⟨w.heap.size, 1, none⟩) (v := .int .u64 0) (by with_reducible assumption) (by with_reducible assumption); have kl0 := cell_lt k0))
  refine bodyPost_ret (by simp only [results, Try.results17]; simp [go_sem, *]; try rfl) rfl ⟨rfl, ?_⟩
  repeat (first | with_reducible exact EX | with_reducible refine Ext.alloc ?_ _ | with_reducible refine Ext.drew ?_ | with_reducible refine Ext.drewN ?_ _ | with_reducible refine Ext.setCell ?_ (by first | (simp; done) | omega | (dsimp only; omega)) _)
end Go.Proofs.Ythmgilikokcibaa
