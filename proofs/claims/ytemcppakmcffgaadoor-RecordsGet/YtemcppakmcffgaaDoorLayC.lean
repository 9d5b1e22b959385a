/- What the given reference of layouts does: Parts, Flag, Size. -/
import Derived.Test.YtemcppakmcffgaaDoorLayB
namespace Go.Proofs.YtemcppakmcffgaaDoor
open Go.RowKit Go.BigFrame
set_option linter.unusedSimpArgs false
set_option linter.unusedVariables false

set_option maxHeartbeats 2000000 in
theorem rparts_any (L : Lay) (u : Int) (hu : 0 ≤ u ∧ u < 256) (w : World) : Calls Tryd.prog 87 #[(.agg (lv (L))), .int .u8 u] w fun e w' => e = .returned (.tuple #[.int .i64 (pts L u), .int .i64 (cols L u)]) ∧ Ext w w' := by
  have EX := Ext.refl w
  by_cases h1 : L.t < 6
  · go_enter Tryd.func87, Tryd.ntmps87
    go_upto_region 1 with fail
    refine rebase (G := fun w' => Code.wp _ _ _ _ w') _ (fun v1 => Ext w v1 ∧ Lm v1 (w.heap.size) (L)) ⟨by repeat (first | with_reducible exact EX |  with_reducible refine Ext.alloc ?_ _ | with_reducible refine Ext.drew ?_ | with_reducible refine Ext.drewN ?_ _ | with_reducible refine Ext.setCell ?_ (by first | (simp; done) | omega | (dsimp only; omega)) _), by repeat (first | with_reducible assumption | with_reducible refine Lm.drew ?_ | with_reducible refine Lm.drewN ?_ _ | (with_reducible refine Lm.skip ?_ ?_; focus (first | omega | (simp; done))) | with_reducible refine Lm.set0 ?_ _ | with_reducible refine Lm.set4 ?_ _ | with_reducible refine Lm.set5 ?_ _ | with_reducible refine Lm.setk ?_ _ (by decide) | (with_reducible refine Lm.cells1 ?_; exact ⟨_, by with_reducible assumption⟩) | (with_reducible refine Lm.skips ?_ _ _ ?_; focus (first | omega | (simp; done))) | (with_reducible refine Lm.new ?_ <;> first | rfl | (simp; done)) | (with_reducible refine Lm.fresh ?_ ?_ <;> first | rfl | (simp; done)) | with_reducible refine Lm.alloc ?_ _)⟩ ?_; clear EX ; rintro v1 ⟨EX, LB⟩; rename World => v; have LBc0 := LB.c0; have LBc1 := LB.c1; have LBc2 := LB.c2; have LBc3 := LB.c3; have LBc4 := LB.c4; have LBc5 := LB.c5; have LBdg := LB.dg; have LBfz := LB.fz; have LBlt := LB.lt
    go_wp2
    go_ret2
    exact ⟨by simp [pts, cols, h1], EX⟩
  · by_cases h2 : L.t = 7 <;> by_cases h3 : u = 0
    all_goals
      first | have k2 : (L.t == 7) = true := by simp [h2] | have k2 : (L.t == 7) = false := by simp [h2]
      first | have k3 : (u == 0) = true := by simp [h3] | have k3 : (u == 0) = false := by simp [h3]
      go_enter Tryd.func87, Tryd.ntmps87
      go_upto_region 1 with fail
      refine rebase (G := fun w' => Code.wp _ _ _ _ w') _ (fun v1 => Ext w v1 ∧ Lm v1 (w.heap.size) (L)) ⟨by repeat (first | with_reducible exact EX |  with_reducible refine Ext.alloc ?_ _ | with_reducible refine Ext.drew ?_ | with_reducible refine Ext.drewN ?_ _ | with_reducible refine Ext.setCell ?_ (by first | (simp; done) | omega | (dsimp only; omega)) _), by repeat (first | with_reducible assumption | with_reducible refine Lm.drew ?_ | with_reducible refine Lm.drewN ?_ _ | (with_reducible refine Lm.skip ?_ ?_; focus (first | omega | (simp; done))) | with_reducible refine Lm.set0 ?_ _ | with_reducible refine Lm.set4 ?_ _ | with_reducible refine Lm.set5 ?_ _ | with_reducible refine Lm.setk ?_ _ (by decide) | (with_reducible refine Lm.cells1 ?_; exact ⟨_, by with_reducible assumption⟩) | (with_reducible refine Lm.skips ?_ _ _ ?_; focus (first | omega | (simp; done))) | (with_reducible refine Lm.new ?_ <;> first | rfl | (simp; done)) | (with_reducible refine Lm.fresh ?_ ?_ <;> first | rfl | (simp; done)) | with_reducible refine Lm.alloc ?_ _)⟩ ?_; clear EX ; rintro v1 ⟨EX, LB⟩; rename World => v; have LBc0 := LB.c0; have LBc1 := LB.c1; have LBc2 := LB.c2; have LBc3 := LB.c3; have LBc4 := LB.c4; have LBc5 := LB.c5; have LBdg := LB.dg; have LBfz := LB.fz; have LBlt := LB.lt
      go_wp2
      go_ret2
      exact ⟨by simp [pts, cols, h1, h2, h3], EX⟩
theorem rflag_any (L : Lay) (w : World) : Calls Tryd.prog 29 #[(.agg (lv (L)))] w fun e w' => e = .returned (.int .i64 (flg L)) ∧ Ext w w' := by
  have EX := Ext.refl w
  by_cases h2 : L.t = 5
  all_goals
    first | have k2 : (L.t == 5) = true := by simp [h2] | have k2 : (L.t == 5) = false := by simp [h2]
    go_enter Tryd.func29, Tryd.ntmps29
    go_upto_region 1 with fail
    refine rebase (G := fun w' => Code.wp _ _ _ _ w') _ (fun v1 => Ext w v1 ∧ Lm v1 (w.heap.size) (L)) ⟨by repeat (first | with_reducible exact EX |  with_reducible refine Ext.alloc ?_ _ | with_reducible refine Ext.drew ?_ | with_reducible refine Ext.drewN ?_ _ | with_reducible refine Ext.setCell ?_ (by first | (simp; done) | omega | (dsimp only; omega)) _), by repeat (first | with_reducible assumption | with_reducible refine Lm.drew ?_ | with_reducible refine Lm.drewN ?_ _ | (with_reducible refine Lm.skip ?_ ?_; focus (first | omega | (simp; done))) | with_reducible refine Lm.set0 ?_ _ | with_reducible refine Lm.set4 ?_ _ | with_reducible refine Lm.set5 ?_ _ | with_reducible refine Lm.setk ?_ _ (by decide) | (with_reducible refine Lm.cells1 ?_; exact ⟨_, by with_reducible assumption⟩) | (with_reducible refine Lm.skips ?_ _ _ ?_; focus (first | omega | (simp; done))) | (with_reducible refine Lm.new ?_ <;> first | rfl | (simp; done)) | (with_reducible refine Lm.fresh ?_ ?_ <;> first | rfl | (simp; done)) | with_reducible refine Lm.alloc ?_ _)⟩ ?_; clear EX ; rintro v1 ⟨EX, LB⟩; rename World => v; have LBc0 := LB.c0; have LBc1 := LB.c1; have LBc2 := LB.c2; have LBc3 := LB.c3; have LBc4 := LB.c4; have LBc5 := LB.c5; have LBdg := LB.dg; have LBfz := LB.fz; have LBlt := LB.lt
    go_wp2
    go_ret
    exact ⟨by simp [flg, h2], EX⟩
theorem parts_bd {L : Lay} (h : mayl L = true) (u : Int) : 1 ≤ pts L u ∧ pts L u ≤ 16 ∧ 1 ≤ cols L u ∧ cols L u ≤ 4 ∧ 0 ≤ flg L ∧ flg L ≤ 8 ∧ 1 ≤ L.c ∧ L.c ≤ 32 ∧ 1 ≤ L.n * L.p ∧ L.n * L.p ≤ 64 := by
  obtain ⟨h1, h2, h3, h4, h5, h6, h7⟩ := mayl_is h
  have a1 : L.n * L.p ≤ 4 * 16 := Int.mul_le_mul h5 (by omega) (by omega) (by omega)
  have a2 : 1 * 1 ≤ L.n * L.p := Int.mul_le_mul h4 (by omega) (by omega) (by omega)
  refine ⟨?_, ?_, ?_, ?_, ?_, ?_, by omega, by omega, by omega, by omega⟩
  · unfold pts; (repeat' split) <;> omega
  · unfold pts; (repeat' split) <;> omega
  · unfold cols; (repeat' split) <;> omega
  · unfold cols; (repeat' split) <;> omega
  · unfold flg; split
    · omega
    · rename_i h; have := h7 h; omega
  · unfold flg; split
    · omega
    · rename_i h; have := h7 h; omega
theorem lbits_bd {L : Lay} (h : mayl L = true) (u : Int) : 3 ≤ lbits L u ∧ lbits L u ≤ 1288 := by
  obtain ⟨p1, p2, p3, p4, p5, p6, p7, p8, p9, p10⟩ := parts_bd h u
  unfold lbits
  have a1 : pts L u * (2 * L.c) ≤ 16 * 64 := Int.mul_le_mul p2 (by omega) (by omega) (by omega)
  have a2 : 1 * 2 ≤ pts L u * (2 * L.c) := Int.mul_le_mul p1 (by omega) (by omega) (by omega)
  have a3 : cols L u * (L.n * L.p) ≤ 4 * 64 := Int.mul_le_mul p4 p10 (by omega) (by omega)
  have a4 : 1 * 1 ≤ cols L u * (L.n * L.p) := Int.mul_le_mul p3 p9 (by omega) (by omega)
  omega
theorem rsize_bad (L : Lay) (u : Int) (hm : mayl L = false) (w : World) : Calls Tryd.prog 27 #[(.agg (lv (L))), .int .u8 u] w fun e w' => e = .returned (.int .i64 0) ∧ Ext w w' := by
  have EX := Ext.refl w
  have CK := fun w => rcheck_any L w
  rw [hm] at CK
  simp only [Bool.false_eq_true, if_false] at CK
  go_enter Tryd.func27, Tryd.ntmps27
  go_upto_region 1 with fail
  refine rebase (G := fun w' => Code.wp _ _ _ _ w') _ (fun v1 => Ext w v1 ∧ Lm v1 (w.heap.size) (L)) ⟨by repeat (first | with_reducible exact EX |  with_reducible refine Ext.alloc ?_ _ | with_reducible refine Ext.drew ?_ | with_reducible refine Ext.drewN ?_ _ | with_reducible refine Ext.setCell ?_ (by first | (simp; done) | omega | (dsimp only; omega)) _), by repeat (first | with_reducible assumption | with_reducible refine Lm.drew ?_ | with_reducible refine Lm.drewN ?_ _ | (with_reducible refine Lm.skip ?_ ?_; focus (first | omega | (simp; done))) | with_reducible refine Lm.set0 ?_ _ | with_reducible refine Lm.set4 ?_ _ | with_reducible refine Lm.set5 ?_ _ | with_reducible refine Lm.setk ?_ _ (by decide) | (with_reducible refine Lm.cells1 ?_; exact ⟨_, by with_reducible assumption⟩) | (with_reducible refine Lm.skips ?_ _ _ ?_; focus (first | omega | (simp; done))) | (with_reducible refine Lm.new ?_ <;> first | rfl | (simp; done)) | (with_reducible refine Lm.fresh ?_ ?_ <;> first | rfl | (simp; done)) | with_reducible refine Lm.alloc ?_ _)⟩ ?_; clear EX ; rintro v1 ⟨EX, LB⟩; rename World => v; have LBc0 := LB.c0; have LBc1 := LB.c1; have LBc2 := LB.c2; have LBc3 := LB.c3; have LBc4 := LB.c4; have LBc5 := LB.c5; have LBdg := LB.dg; have LBfz := LB.fz; have LBlt := LB.lt
  go_wp2_with (first | (refine wpList_load_lay (w.heap.size) _ rfl rfl rfl LB ?_) | (go_at_call 86; with_reducible refine (CK _).mono ?_; rintro e v1 ⟨rfl, hb⟩; replace EX := Ext.trans EX hb; replace LB := LB.later hb; replace LBc0 := LB.c0; replace LBc1 := LB.c1; replace LBc2 := LB.c2; replace LBc3 := LB.c3; replace LBc4 := LB.c4; replace LBc5 := LB.c5; replace LBdg := LB.dg; replace LBfz := LB.fz; replace LBlt := LB.lt; clear hb v; rename World => v))
  go_ret
  exact ⟨by rfl, EX⟩
end Go.Proofs.YtemcppakmcffgaaDoor
