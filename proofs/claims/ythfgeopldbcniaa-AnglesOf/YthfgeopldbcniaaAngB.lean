/- The table of package angles: what halved and arcs do: they return C(0), S(0) to C(40), S(40). -/
import Derived.Test.YthfgeopldbcniaaAngA
import Derived.Test.YthfgeopldbcniaaBoxV
namespace Go.Proofs.Ythfgeopldbcniaa
open Go.RowKit Go.BigFrame
set_option linter.unusedSimpArgs false
set_option linter.unusedVariables false

set_option maxHeartbeats 8000000 in
theorem halved_walk (c s p r p2 q t z : Int) (c0 : 0 ≤ c) (c1 : c ≤ 4611686018427387903) (r0 : 0 ≤ r) (r1 : r < 9223372036854775808) (hz : wrap64 (lo q) = z)
    (M1 : ∀ w, Calls Try.prog 56 #[.int .i64 (4611686018427387904 + c), .int .i64 2305843009213693952] w fun e w' => e = .returned (.agg #[.int .i64 (hi (p)), .int .u64 (lo (p))]) ∧ Ext w w')
    (R1 : ∀ w, Calls Try.prog 81 #[(.agg #[.int .i64 (hi (p)), .int .u64 (lo (p))])] w fun e w' => e = .returned (.tuple #[.int .u64 r, .int .i64 0]) ∧ Ext w w')
    (M2 : ∀ w, Calls Try.prog 56 #[.int .i64 s, .int .i64 2305843009213693952] w fun e w' => e = .returned (.agg #[.int .i64 (hi (p2)), .int .u64 (lo (p2))]) ∧ Ext w w')
    (F1 : ∀ w, Calls Try.prog 46 #[(.agg #[.int .i64 (hi (p2)), .int .u64 (lo (p2))]), .int .i64 r] w fun e w' => e = .returned (.tuple #[(.agg #[.int .i64 (hi (q)), .int .u64 (lo (q))]), .int .i64 t, .int .i64 0]) ∧ Ext w w') (w : World) :
    Calls Try.prog 71 #[.agg #[.int .i64 c, .int .i64 s]] w fun e w' => e = .returned (.agg #[.int .i64 r, .int .i64 z]) ∧ Ext w w' := by
  have EX := Ext.refl w
  go_enter Try.func71, Try.ntmps71
  go_upto_region 1 with fail
  refine rebase (G := fun w' => Code.wp _ _ _ _ w') _ (fun v1 => Ext w v1 ∧ S2m v1 (w.heap.size) (.int .i64 c) (.int .i64 s) ∧ S2m v1 (w.heap.size + 1) (.int .i64 0) (.int .i64 0)) ⟨by repeat (first | with_reducible exact EX | with_reducible refine Ext.alloc ?_ _ | with_reducible refine Ext.drew ?_ | with_reducible refine Ext.drewN ?_ _ | with_reducible refine Ext.setCell ?_ (by first | (simp; done) | omega | (dsimp only; omega)) _), by repeat (first | with_reducible assumption | with_reducible refine S2m.drew ?_ | with_reducible refine S2m.drewN ?_ _ | (with_reducible refine S2m.skip ?_ ?_; focus (first | omega | (simp; done))) | with_reducible refine S2m.store ?_ | with_reducible refine S2m.set0 ?_ _ | with_reducible refine S2m.set1 ?_ _ | with_reducible refine S2m.new (by first | rfl | (simp; done) | with_unfolding_all rfl) (by with_unfolding_all rfl) (by with_unfolding_all rfl) | with_reducible refine S2m.alloc ?_ _ | exact S2m.any (by with_reducible assumption) | with_reducible refine S2mAny.drew ?_ | with_reducible refine S2mAny.drewN ?_ _ | (with_reducible refine S2mAny.skip ?_ ?_; focus (first | omega | (simp; done))) | with_reducible refine S2mAny.alloc ?_ _), by repeat (first | with_reducible assumption | with_reducible refine S2m.drew ?_ | with_reducible refine S2m.drewN ?_ _ | (with_reducible refine S2m.skip ?_ ?_; focus (first | omega | (simp; done))) | with_reducible refine S2m.store ?_ | with_reducible refine S2m.set0 ?_ _ | with_reducible refine S2m.set1 ?_ _ | with_reducible refine S2m.new (by first | rfl | (simp; done) | with_unfolding_all rfl) (by with_unfolding_all rfl) (by with_unfolding_all rfl) | with_reducible refine S2m.alloc ?_ _ | exact S2m.any (by with_reducible assumption) | with_reducible refine S2mAny.drew ?_ | with_reducible refine S2mAny.drewN ?_ _ | (with_reducible refine S2mAny.skip ?_ ?_; focus (first | omega | (simp; done))) | with_reducible refine S2mAny.alloc ?_ _)⟩ ?_; clear EX ; rintro v1 ⟨EX, PA, PR⟩; rename World => v; have PAc0 := PA.c0; have PAc1 := PA.c1; have PAfz := PA.fz; have PAlt := PA.lt; have PRc0 := PR.c0; have PRc1 := PR.c1; have PRfz := PR.fz; have PRlt := PR.lt
  go_upto_region 4 with (first | (go_at_call 56; with_reducible refine (M1 _).mono ?_; rintro e v1 ⟨rfl, hb⟩; replace EX := Ext.trans EX hb; replace PA := PA.later hb; replace PR := PR.later hb; replace PAc0 := PA.c0; replace PAc1 := PA.c1; replace PAfz := PA.fz; replace PAlt := PA.lt; replace PRc0 := PR.c0; replace PRc1 := PR.c1; replace PRfz := PR.fz; replace PRlt := PR.lt; clear hb v; rename World => v) | (go_at_call 56; with_reducible refine (M2 _).mono ?_; rintro e v1 ⟨rfl, hb⟩; replace EX := Ext.trans EX hb; replace PA := PA.later hb; replace PR := PR.later hb; replace PAc0 := PA.c0; replace PAc1 := PA.c1; replace PAfz := PA.fz; replace PAlt := PA.lt; replace PRc0 := PR.c0; replace PRc1 := PR.c1; replace PRfz := PR.fz; replace PRlt := PR.lt; clear hb v; rename World => v) | (go_at_call 81; with_reducible refine (R1 _).mono ?_; rintro e v1 ⟨rfl, hb⟩; replace EX := Ext.trans EX hb; replace PA := PA.later hb; replace PR := PR.later hb; replace PAc0 := PA.c0; replace PAc1 := PA.c1; replace PAfz := PA.fz; replace PAlt := PA.lt; replace PRc0 := PR.c0; replace PRc1 := PR.c1; replace PRfz := PR.fz; replace PRlt := PR.lt; clear hb v; rename World => v) | (go_at_call 46; with_reducible refine (F1 _).mono ?_; rintro e v1 ⟨rfl, hb⟩; replace EX := Ext.trans EX hb; replace PA := PA.later hb; replace PR := PR.later hb; replace PAc0 := PA.c0; replace PAc1 := PA.c1; replace PAfz := PA.fz; replace PAlt := PA.lt; replace PRc0 := PR.c0; replace PRc1 := PR.c1; replace PRfz := PR.fz; replace PRlt := PR.lt; clear hb v; rename World => v))
  refine rebase (G := fun w' => Code.wp _ _ _ _ w') _ (fun v1 => Ext w v1 ∧ S2m v1 (w.heap.size) (.int .i64 c) (.int .i64 s) ∧ S2m v1 (w.heap.size + 1) (.int .i64 0) (.int .i64 0) ∧ Wm v1 (v.heap.size) (hi q) (lo q)) ⟨by repeat (first | with_reducible exact EX | with_reducible refine Ext.alloc ?_ _ | with_reducible refine Ext.drew ?_ | with_reducible refine Ext.drewN ?_ _ | with_reducible refine Ext.setCell ?_ (by first | (simp; done) | omega | (dsimp only; omega)) _), by repeat (first | with_reducible assumption | with_reducible refine S2m.drew ?_ | with_reducible refine S2m.drewN ?_ _ | (with_reducible refine S2m.skip ?_ ?_; focus (first | omega | (simp; done))) | with_reducible refine S2m.store ?_ | with_reducible refine S2m.set0 ?_ _ | with_reducible refine S2m.set1 ?_ _ | with_reducible refine S2m.new (by first | rfl | (simp; done) | with_unfolding_all rfl) (by with_unfolding_all rfl) (by with_unfolding_all rfl) | with_reducible refine S2m.alloc ?_ _ | exact S2m.any (by with_reducible assumption) | with_reducible refine S2mAny.drew ?_ | with_reducible refine S2mAny.drewN ?_ _ | (with_reducible refine S2mAny.skip ?_ ?_; focus (first | omega | (simp; done))) | with_reducible refine S2mAny.alloc ?_ _), by repeat (first | with_reducible assumption | with_reducible refine S2m.drew ?_ | with_reducible refine S2m.drewN ?_ _ | (with_reducible refine S2m.skip ?_ ?_; focus (first | omega | (simp; done))) | with_reducible refine S2m.store ?_ | with_reducible refine S2m.set0 ?_ _ | with_reducible refine S2m.set1 ?_ _ | with_reducible refine S2m.new (by first | rfl | (simp; done) | with_unfolding_all rfl) (by with_unfolding_all rfl) (by with_unfolding_all rfl) | with_reducible refine S2m.alloc ?_ _ | exact S2m.any (by with_reducible assumption) | with_reducible refine S2mAny.drew ?_ | with_reducible refine S2mAny.drewN ?_ _ | (with_reducible refine S2mAny.skip ?_ ?_; focus (first | omega | (simp; done))) | with_reducible refine S2mAny.alloc ?_ _), by repeat (first | with_reducible assumption | with_reducible refine Wm.drew ?_ | with_reducible refine Wm.drewN ?_ _ | (with_reducible refine Wm.skip ?_ ?_; focus (first | omega | (simp; done))) | with_reducible refine Wm.store ?_ _ _ | with_reducible refine Wm.new (by first | rfl | (simp; done) | with_unfolding_all rfl) (by with_unfolding_all rfl) (by with_unfolding_all rfl) | with_reducible refine Wm.alloc ?_ _ | exact Wm.any (by with_reducible assumption) | with_reducible refine WmAny.drew ?_ | with_reducible refine WmAny.drewN ?_ _ | (with_reducible refine WmAny.skip ?_ ?_; focus (first | omega | (simp; done))) | with_reducible refine WmAny.alloc ?_ _)⟩ ?_; have qPA := PA.lt; have qPR := PR.lt; have qw := EX.more; clear PAc0 PAc1 PAfz PAlt PRc0 PRc1 PRfz PRlt; clear EX PA PR; rintro v1 ⟨EX, PA, PR, WQ⟩; obtain ⟨b1, hb1⟩ : ∃ b, v.heap.size = b := ⟨_, rfl⟩; rw [hb1] at qPA qPR qw WQ ⊢; clear hb1; clear v; rename World => v; have PAc0 := PA.c0; have PAc1 := PA.c1; have PAfz := PA.fz; have PAlt := PA.lt; have PRc0 := PR.c0; have PRc1 := PR.c1; have PRfz := PR.fz; have PRlt := PR.lt; have WQhi := WQ.hi; have WQlo := WQ.lo; have WQfz := WQ.fz; have WQlt := WQ.lt
  go_wp2
  subst hz
  refine rebase (G := fun w' => bodyPost _ _ _ _ _ w') _ (fun v1 => Ext w v1 ∧ S2m v1 (w.heap.size + 1) (.int .i64 r) (.int .i64 (wrap64 (lo q)))) ⟨by repeat (first | with_reducible exact EX | with_reducible refine Ext.alloc ?_ _ | with_reducible refine Ext.drew ?_ | with_reducible refine Ext.drewN ?_ _ | with_reducible refine Ext.setCell ?_ (by first | (simp; done) | omega | (dsimp only; omega)) _), by repeat (first | with_reducible assumption | with_reducible refine S2m.drew ?_ | with_reducible refine S2m.drewN ?_ _ | (with_reducible refine S2m.skip ?_ ?_; focus (first | omega | (simp; done))) | with_reducible refine S2m.store ?_ | with_reducible refine S2m.set0 ?_ _ | with_reducible refine S2m.set1 ?_ _ | with_reducible refine S2m.new (by first | rfl | (simp; done) | with_unfolding_all rfl) (by with_unfolding_all rfl) (by with_unfolding_all rfl) | with_reducible refine S2m.alloc ?_ _ | exact S2m.any (by with_reducible assumption) | with_reducible refine S2mAny.drew ?_ | with_reducible refine S2mAny.drewN ?_ _ | (with_reducible refine S2mAny.skip ?_ ?_; focus (first | omega | (simp; done))) | with_reducible refine S2mAny.alloc ?_ _)⟩ ?_; clear PAc0 PAc1 PAfz PAlt PRc0 PRc1 PRfz PRlt WQhi WQlo WQfz WQlt; clear EX PA PR WQ; rintro v1 ⟨EX, PR⟩; clear v; rename World => v; have PRc0 := PR.c0; have PRc1 := PR.c1; have PRfz := PR.fz; have PRlt := PR.lt
  refine bodyPost_ret (by simp only [results, Try.results71]; simp [go_sem, *]; try rfl) rfl ⟨rfl, ?_⟩; repeat (first | with_reducible exact EX | with_reducible refine Ext.alloc ?_ _ | with_reducible refine Ext.drew ?_ | with_reducible refine Ext.drewN ?_ _ | with_reducible refine Ext.setCell ?_ (by first | (simp; done) | omega | (dsimp only; omega)) _)
/-- C(i), S(i). -/
def arcAt (i : Nat) : Int × Int := ((0, 4611686018427387904) :: turns).getD i (0, 0)
theorem arc_step : ∀ i, i < 40 → ((arcAt (i + 1)).1 * (arcAt (i + 1)).1 ≤ (4611686018427387904 + (arcAt i).1) * 2305843009213693952 ∧ (4611686018427387904 + (arcAt i).1) * 2305843009213693952 < ((arcAt (i + 1)).1 + 1) * ((arcAt (i + 1)).1 + 1)) ∧ (arcAt i).2 * 2305843009213693952 / (arcAt (i + 1)).1 = (arcAt (i + 1)).2 := by decide +kernel
theorem arc_in : ∀ i, i < 41 → 0 ≤ (arcAt i).1 ∧ (arcAt i).1 ≤ 4611686018427387903 ∧ 0 < (arcAt i).2 ∧ (arcAt i).2 ≤ 4611686018427387904 ∧ (0 < i → 0 < (arcAt i).1) := by decide +kernel
theorem halved_any (i : Nat) (h : i < 40) (w : World) : Calls Try.prog 71 #[.agg #[.int .i64 (arcAt i).1, .int .i64 (arcAt i).2]] w fun e w' => e = .returned (.agg #[.int .i64 (arcAt (i + 1)).1, .int .i64 (arcAt (i + 1)).2]) ∧ Ext w w' := by
  obtain ⟨⟨a1, a2⟩, a3⟩ := arc_step i h
  obtain ⟨b1, b2, b3, b4, _⟩ := arc_in i (by omega)
  obtain ⟨c1, c2, c3, c4, c5⟩ := arc_in (i + 1) (by omega)
  have c6 := c5 (by omega)
  have hr := rt_of c1 a1 a2
  generalize arcAt i = a at *
  generalize arcAt (i + 1) = b at *
  have i1 : In64 (4611686018427387904 + a.1) := ⟨by omega, by omega⟩
  have i2 : In64 2305843009213693952 := ⟨by decide, by decide⟩
  have i3 : In64 a.2 := ⟨by omega, by omega⟩
  refine halved_walk a.1 a.2 ((4611686018427387904 + a.1) * 2305843009213693952) b.1 (a.2 * 2305843009213693952) b.2 (a.2 * 2305843009213693952 % b.1) b.2 b1 b2 c1 (by omega) (lo_wrap ⟨by omega, by omega⟩) (fun w => mul_any _ _ i1 i2 w) (fun w => ?_) (fun w => mul_any _ _ i3 i2 w) (fun w => ?_) w
  · have := rootWide_any _ (in64_mul i1 i2) (by omega) w
    rw [hr] at this
    exact this
  · have := floor_any (a.2 * 2305843009213693952) b.1 (in64_mul i3 i2) (by omega) ⟨by omega, by omega⟩ w
    rw [a3] at this
    exact this
/-- The table's cells. -/
def arcV (g : Nat → Int × Int) (i : Nat) : Value := .int .i64 (if i % 2 = 0 then (g (i / 2)).1 else (g (i / 2)).2)
/-- The table as far as it is made. -/
def arcF (g : Nat → Int × Int) (k : Nat) : Nat → Int × Int := fun i => if i ≤ k then g i else (0, 0)
theorem arcV_0 (g : Nat → Int × Int) (i : Nat) : arcV g (i * 2) = .int .i64 (g i).1 := by unfold arcV; rw [if_pos (by omega), show i * 2 / 2 = i by omega]
theorem arcV_1 (g : Nat → Int × Int) (i : Nat) : arcV g (i * 2 + 1) = .int .i64 (g i).2 := by unfold arcV; rw [if_neg (by omega), show (i * 2 + 1) / 2 = i by omega]
theorem arcF_at (g : Nat → Int × Int) {i k : Nat} (h : i ≤ k) : arcF g k i = g i := by unfold arcF; rw [if_pos h]
theorem arcF_0 (g : Nat → Int × Int) (g0 : g 0 = (0, 4611686018427387904)) : arcV (arcF g 0) = fun i => .int .i64 (if i = 1 then 4611686018427387904 else 0) := by
  funext i
  unfold arcV arcF
  by_cases h : i / 2 ≤ 0
  · rw [if_pos h, show i / 2 = 0 by omega, g0]
    by_cases h1 : i = 1
    · subst h1; rfl
    · rw [if_pos (by omega), if_neg h1]
  · rw [if_neg h, if_neg (show ¬ i = 1 by omega)]; simp
theorem arcF_next (g : Nat → Int × Int) (k : Nat) : ∀ i, i < 82 → updv (updv (arcV (arcF g k)) ((k + 1) * 2) (.int .i64 (g (k + 1)).1)) ((k + 1) * 2 + 1) (.int .i64 (g (k + 1)).2) i = arcV (arcF g (k + 1)) i := by
  intro i _
  unfold updv
  by_cases h1 : i = (k + 1) * 2 + 1
  · subst h1; rw [if_pos rfl, arcV_1, arcF_at g (Nat.le_refl _)]
  · rw [if_neg h1]
    by_cases h2 : i = (k + 1) * 2
    · subst h2; rw [if_pos rfl, arcV_0, arcF_at g (Nat.le_refl _)]
    · rw [if_neg h2]
      have e : arcF g k (i / 2) = arcF g (k + 1) (i / 2) := by
        unfold arcF
        by_cases h3 : i / 2 ≤ k
        · rw [if_pos h3, if_pos (show i / 2 ≤ k + 1 by omega)]
        · rw [if_neg h3, if_neg (show ¬ i / 2 ≤ k + 1 by omega)]
      unfold arcV
      rw [e]

set_option maxHeartbeats 8000000 in
theorem arcs_walk (g : Nat → Int × Int) (g0 : g 0 = (0, 4611686018427387904)) (HV : ∀ (k : Nat) (hk : k < 40) (w : World), Calls Try.prog 71 #[.agg #[.int .i64 (g k).1, .int .i64 (g k).2]] w fun e w' => e = .returned (.agg #[.int .i64 (g (k + 1)).1, .int .i64 (g (k + 1)).2]) ∧ Ext w w') (w : World) :
    Calls Try.prog 53 #[] w fun e w' => e = .returned (.agg (vl 82 (arcV g)).toArray) ∧ Ext w w' := by
  have EX := Ext.refl w
  go_enter Try.func53, Try.ntmps53
  go_wp2
  go_loopg [4] 40 (fun gk i wr => ∃ k : Nat, k + gk = 40 ∧ i = .int .i64 k ∧ Ext w wr ∧ Vm wr w.heap.size 82 (arcV (arcF g k)))
  case atStart =>
    refine ⟨0, rfl, rfl, by repeat (first | with_reducible exact EX | with_reducible refine Ext.alloc ?_ _ | with_reducible refine Ext.drew ?_ | with_reducible refine Ext.drewN ?_ _ | with_reducible refine Ext.setCell ?_ (by first | (simp; done) | omega | (dsimp only; omega)) _), ?_⟩
    rw [arcF_0 g g0]
    exact Vm.ofList rfl (by with_unfolding_all rfl)
  case round =>
    obtain ⟨k, hk, rfl, EX, TB⟩ := hrel
    obtain ⟨v, hv⟩ : ∃ v, v = wr := ⟨_, rfl⟩
    subst hv
    by_cases hlt : k < 40
    · have hki : (k : Int) < 40 := by omega
      have d0 := TB.dg (k * 2) (by omega)
      have d1 := TB.dg (k * 2 + 1) (by omega)
      have d2 := TB.dg ((k + 1) * 2) (by omega)
      have d3 := TB.dg ((k + 1) * 2 + 1) (by omega)
      rw [arcV_0, arcF_at g (Nat.le_refl _)] at d0
      rw [arcV_1, arcF_at g (Nat.le_refl _)] at d1
      have H := HV k hlt
      obtain ⟨a0, h0⟩ : ∃ a, (g k).1 = a := ⟨_, rfl⟩
      obtain ⟨a1, h1⟩ : ∃ a, (g k).2 = a := ⟨_, rfl⟩
      obtain ⟨b0, k0⟩ : ∃ a, (g (k + 1)).1 = a := ⟨_, rfl⟩
      obtain ⟨b1, k1⟩ : ∃ a, (g (k + 1)).2 = a := ⟨_, rfl⟩
      rw [h0, h1, k0, k1] at H
      rw [h0] at d0
      rw [h1] at d1
      have k0' : Hid ((g (k + 1)).1 = b0) := k0
      have k1' : Hid ((g (k + 1)).2 = b1) := k1
      clear h0 h1 k0 k1 HV
      have TBfz := TB.fz
      have TBlt := TB.lt
      go_wp2_with (first | (go_at_call 71; with_reducible refine (H _).mono ?_; rintro e v1 ⟨rfl, hb⟩; replace EX := Ext.trans EX hb; replace TB := TB.later hb; replace d2 := Ext.later hb d2; replace d3 := Ext.later hb d3; replace TBfz := TB.fz; replace TBlt := TB.lt; clear d0 d1 hb v; rename World => v))
      go_roundg (gk - 1)
      case measure => omega
      case rel =>
        refine ⟨k + 1, by omega, by go_num, by repeat (first | with_reducible exact EX | with_reducible refine Ext.alloc ?_ _ | with_reducible refine Ext.drew ?_ | with_reducible refine Ext.drewN ?_ _ | with_reducible refine Ext.setCell ?_ (by first | (simp; done) | omega | (dsimp only; omega)) _), ?_⟩
        have T2 := Vm.set (Vm.set TB ((k + 1) * 2) (.int .i64 b0)) ((k + 1) * 2 + 1) (.int .i64 b1)
        rw [← k0'.out, ← k1'.out] at T2 ⊢
        exact Vm.eq T2 (arcF_next g k)
    · have hki : ¬ ((k : Int) < 40) := by omega
      replace TB : Vm v w.heap.size 82 (arcV g) := TB.eq (fun i hi => by unfold arcV; rw [arcF_at g (by omega)])
      clear HV
      go_wp2_with (first
        | (refine wpList_load_mid rfl 84 _ rfl w.heap.size 0 rfl (vl 82 (arcV g)) _ TB.range Try.underlying84 rfl (by rw [vl_len]; kernel_rfl) ?_)
        | (refine wpList_store_mid rfl 84 _ _ rfl w.heap.size 0 (vl 82 (arcV g)).toArray rfl rfl (TB.there (by simp [vl_len])) (by rw [List.size_toArray, vl_len]; kernel_rfl) (vl_one 82 (arcV g) (fun i => rfl)) ?_))
      have TC := TB.cells (by decide) (arcV g)
      replace EX := EX.setCells' w.heap.size (Nat.le_refl _) (vl 82 (arcV g)) 0
      have hld := fun t d h1 h2 h3 => run_loadVar_mid (P := Try.prog) _ w.heap.size 0 t (vl 82 (arcV g)) d TC.range h1 h2 h3
      replace hld := hld 84 _ Try.underlying84 rfl (by rw [vl_len]; kernel_rfl)
      refine bodyPost_ret (v := .agg (vl 82 (arcV g)).toArray) ?_ rfl ⟨rfl, EX⟩
      simp only [results, Try.results53]
      simp [asAddr, Result.andThen, hld]
theorem arcs_any (w : World) : Calls Try.prog 53 #[] w fun e w' => e = .returned (.agg (vl 82 (arcV arcAt)).toArray) ∧ Ext w w' :=
  arcs_walk arcAt rfl (fun k hk w => halved_any k hk w) w
end Go.Proofs.Ythfgeopldbcniaa
