/- What package records' mayBe, sizeOf and Get do. -/
import Derived.Test.YtemcppakmcffgaaDoorPkC
import Derived.Test.YtemcppakmcffgaaDoorLayH
namespace Go.Proofs.YtemcppakmcffgaaDoor
open Go.RowKit Go.BigFrame
set_option linter.unusedSimpArgs false
set_option linter.unusedVariables false
set_option maxRecDepth 20000

set_option maxHeartbeats 2000000 in
theorem maybe_is (L : Lay) (w : World) (TL : LaidL w) : Calls Tryd.prog 23 #[(.agg (lv (L)))] w fun e w' => e = .returned (.bool (vlay L)) ∧ Ext w w' := by
  have EX := Ext.refl w
  have CK : ∀ v, Ext w v → Calls Tryd.prog 17 #[(.agg (lv (L)))] v fun e w' => e = .returned (.int .i64 (if mayl L = true then 0 else 4)) ∧ Ext v w' := fun v h => lcheck_any L v (TL.later h)
  clear TL
  unfold vlay
  cases hm : mayl L
  · rw [hm] at CK
    simp only [Bool.false_eq_true, if_false] at CK
    go_enter Tryd.func23, Tryd.ntmps23
    go_upto_region 1 with fail
    refine rebase (G := fun w' => Code.wp _ _ _ _ w') _ (fun v1 => Ext w v1 ∧ Lm v1 (w.heap.size) (L)) ⟨by repeat (first | with_reducible exact EX |  with_reducible refine Ext.alloc ?_ _ | with_reducible refine Ext.drew ?_ | with_reducible refine Ext.drewN ?_ _ | with_reducible refine Ext.setCell ?_ (by first | (simp; done) | omega | (dsimp only; omega)) _), by repeat (first | with_reducible assumption | with_reducible refine Lm.drew ?_ | with_reducible refine Lm.drewN ?_ _ | (with_reducible refine Lm.skip ?_ ?_; focus (first | omega | (simp; done))) | with_reducible refine Lm.set0 ?_ _ | with_reducible refine Lm.set4 ?_ _ | with_reducible refine Lm.set5 ?_ _ | with_reducible refine Lm.setk ?_ _ (by decide) | (with_reducible refine Lm.cells1 ?_; exact ⟨_, by with_reducible assumption⟩) | (with_reducible refine Lm.skips ?_ _ _ ?_; focus (first | omega | (simp; done))) | (with_reducible refine Lm.new ?_ <;> first | rfl | (simp; done)) | (with_reducible refine Lm.fresh ?_ ?_ <;> first | rfl | (simp; done)) | with_reducible refine Lm.alloc ?_ _)⟩ ?_; clear EX ; rintro v1 ⟨EX, LB⟩; rename World => v; have LBc0 := LB.c0; have LBc1 := LB.c1; have LBc2 := LB.c2; have LBc3 := LB.c3; have LBc4 := LB.c4; have LBc5 := LB.c5; have LBdg := LB.dg; have LBfz := LB.fz; have LBlt := LB.lt
    go_wp2_with (first | (refine wpList_load_lay (w.heap.size) _ rfl rfl rfl LB ?_) | (go_at_call 17; with_reducible refine (CK _ EX).mono ?_; rintro e v1 ⟨rfl, hb⟩; replace EX := Ext.trans EX hb; replace LB := LB.later hb; replace LBc0 := LB.c0; replace LBc1 := LB.c1; replace LBc2 := LB.c2; replace LBc3 := LB.c3; replace LBc4 := LB.c4; replace LBc5 := LB.c5; replace LBdg := LB.dg; replace LBfz := LB.fz; replace LBlt := LB.lt; clear hb v; rename World => v))
    go_ret
    exact ⟨rfl, EX⟩
  · rw [hm] at CK
    simp only [if_true] at CK
    by_cases h4 : L.t = 4
    · have k4 : (L.t == 4) = true := by simp [h4]
      go_enter Tryd.func23, Tryd.ntmps23
      go_upto_region 1 with fail
      refine rebase (G := fun w' => Code.wp _ _ _ _ w') _ (fun v1 => Ext w v1 ∧ Lm v1 (w.heap.size) (L)) ⟨by repeat (first | with_reducible exact EX |  with_reducible refine Ext.alloc ?_ _ | with_reducible refine Ext.drew ?_ | with_reducible refine Ext.drewN ?_ _ | with_reducible refine Ext.setCell ?_ (by first | (simp; done) | omega | (dsimp only; omega)) _), by repeat (first | with_reducible assumption | with_reducible refine Lm.drew ?_ | with_reducible refine Lm.drewN ?_ _ | (with_reducible refine Lm.skip ?_ ?_; focus (first | omega | (simp; done))) | with_reducible refine Lm.set0 ?_ _ | with_reducible refine Lm.set4 ?_ _ | with_reducible refine Lm.set5 ?_ _ | with_reducible refine Lm.setk ?_ _ (by decide) | (with_reducible refine Lm.cells1 ?_; exact ⟨_, by with_reducible assumption⟩) | (with_reducible refine Lm.skips ?_ _ _ ?_; focus (first | omega | (simp; done))) | (with_reducible refine Lm.new ?_ <;> first | rfl | (simp; done)) | (with_reducible refine Lm.fresh ?_ ?_ <;> first | rfl | (simp; done)) | with_reducible refine Lm.alloc ?_ _)⟩ ?_; clear EX ; rintro v1 ⟨EX, LB⟩; rename World => v; have LBc0 := LB.c0; have LBc1 := LB.c1; have LBc2 := LB.c2; have LBc3 := LB.c3; have LBc4 := LB.c4; have LBc5 := LB.c5; have LBdg := LB.dg; have LBfz := LB.fz; have LBlt := LB.lt
      go_wp2_with (first | (refine wpList_load_lay (w.heap.size) _ rfl rfl rfl LB ?_) | (go_at_call 17; with_reducible refine (CK _ EX).mono ?_; rintro e v1 ⟨rfl, hb⟩; replace EX := Ext.trans EX hb; replace LB := LB.later hb; replace LBc0 := LB.c0; replace LBc1 := LB.c1; replace LBc2 := LB.c2; replace LBc3 := LB.c3; replace LBc4 := LB.c4; replace LBc5 := LB.c5; replace LBdg := LB.dg; replace LBfz := LB.fz; replace LBlt := LB.lt; clear hb v; rename World => v))
      go_ret
      exact ⟨by simp [h4], EX⟩
    · have k4 : (L.t == 4) = false := by simp [h4]
      by_cases h5 : L.t = 5
      all_goals
        first | have k5 : (L.t == 5) = true := by simp [h5] | have k5 : (L.t == 5) = false := by simp [h5]
        go_enter Tryd.func23, Tryd.ntmps23
        go_upto_region 1 with fail
        refine rebase (G := fun w' => Code.wp _ _ _ _ w') _ (fun v1 => Ext w v1 ∧ Lm v1 (w.heap.size) (L)) ⟨by repeat (first | with_reducible exact EX |  with_reducible refine Ext.alloc ?_ _ | with_reducible refine Ext.drew ?_ | with_reducible refine Ext.drewN ?_ _ | with_reducible refine Ext.setCell ?_ (by first | (simp; done) | omega | (dsimp only; omega)) _), by repeat (first | with_reducible assumption | with_reducible refine Lm.drew ?_ | with_reducible refine Lm.drewN ?_ _ | (with_reducible refine Lm.skip ?_ ?_; focus (first | omega | (simp; done))) | with_reducible refine Lm.set0 ?_ _ | with_reducible refine Lm.set4 ?_ _ | with_reducible refine Lm.set5 ?_ _ | with_reducible refine Lm.setk ?_ _ (by decide) | (with_reducible refine Lm.cells1 ?_; exact ⟨_, by with_reducible assumption⟩) | (with_reducible refine Lm.skips ?_ _ _ ?_; focus (first | omega | (simp; done))) | (with_reducible refine Lm.new ?_ <;> first | rfl | (simp; done)) | (with_reducible refine Lm.fresh ?_ ?_ <;> first | rfl | (simp; done)) | with_reducible refine Lm.alloc ?_ _)⟩ ?_; clear EX ; rintro v1 ⟨EX, LB⟩; rename World => v; have LBc0 := LB.c0; have LBc1 := LB.c1; have LBc2 := LB.c2; have LBc3 := LB.c3; have LBc4 := LB.c4; have LBc5 := LB.c5; have LBdg := LB.dg; have LBfz := LB.fz; have LBlt := LB.lt
        go_wp2_with (first | (refine wpList_load_lay (w.heap.size) _ rfl rfl rfl LB ?_) | (go_at_call 17; with_reducible refine (CK _ EX).mono ?_; rintro e v1 ⟨rfl, hb⟩; replace EX := Ext.trans EX hb; replace LB := LB.later hb; replace LBc0 := LB.c0; replace LBc1 := LB.c1; replace LBc2 := LB.c2; replace LBc3 := LB.c3; replace LBc4 := LB.c4; replace LBc5 := LB.c5; replace LBdg := LB.dg; replace LBfz := LB.fz; replace LBlt := LB.lt; clear hb v; rename World => v))
        go_ret
        exact ⟨by simp [h4, h5], EX⟩
theorem sizeof_is (L : Lay) (w : World) (TL : LaidL w) : Calls Tryd.prog 24 #[(.agg (lv (L)))] w fun e w' => e = .returned (.int .i64 (lsize L 0)) ∧ Ext w w' := by
  have EX := Ext.refl w
  have SZ : ∀ v, Ext w v → Calls Tryd.prog 20 #[(.agg (lv (L))), .int .u8 0] v fun e w' => e = .returned (.int .i64 (lsize L 0)) ∧ Ext v w' := fun v h => lsize_any L 0 (by decide) v (TL.later h)
  clear TL
  go_enter Tryd.func24, Tryd.ntmps24
  go_upto_region 1 with fail
  refine rebase (G := fun w' => Code.wp _ _ _ _ w') _ (fun v1 => Ext w v1 ∧ Lm v1 (w.heap.size) (L)) ⟨by repeat (first | with_reducible exact EX |  with_reducible refine Ext.alloc ?_ _ | with_reducible refine Ext.drew ?_ | with_reducible refine Ext.drewN ?_ _ | with_reducible refine Ext.setCell ?_ (by first | (simp; done) | omega | (dsimp only; omega)) _), by repeat (first | with_reducible assumption | with_reducible refine Lm.drew ?_ | with_reducible refine Lm.drewN ?_ _ | (with_reducible refine Lm.skip ?_ ?_; focus (first | omega | (simp; done))) | with_reducible refine Lm.set0 ?_ _ | with_reducible refine Lm.set4 ?_ _ | with_reducible refine Lm.set5 ?_ _ | with_reducible refine Lm.setk ?_ _ (by decide) | (with_reducible refine Lm.cells1 ?_; exact ⟨_, by with_reducible assumption⟩) | (with_reducible refine Lm.skips ?_ _ _ ?_; focus (first | omega | (simp; done))) | (with_reducible refine Lm.new ?_ <;> first | rfl | (simp; done)) | (with_reducible refine Lm.fresh ?_ ?_ <;> first | rfl | (simp; done)) | with_reducible refine Lm.alloc ?_ _)⟩ ?_; clear EX ; rintro v1 ⟨EX, LB⟩; rename World => v; have LBc0 := LB.c0; have LBc1 := LB.c1; have LBc2 := LB.c2; have LBc3 := LB.c3; have LBc4 := LB.c4; have LBc5 := LB.c5; have LBdg := LB.dg; have LBfz := LB.fz; have LBlt := LB.lt
  go_wp2_with (first | (refine wpList_load_lay (w.heap.size) _ rfl rfl rfl LB ?_) | (go_at_call 20; with_reducible refine (SZ _ EX).mono ?_; rintro e v1 ⟨rfl, hb⟩; replace EX := Ext.trans EX hb; replace LB := LB.later hb; replace LBc0 := LB.c0; replace LBc1 := LB.c1; replace LBc2 := LB.c2; replace LBc3 := LB.c3; replace LBc4 := LB.c4; replace LBc5 := LB.c5; replace LBdg := LB.dg; replace LBfz := LB.fz; replace LBlt := LB.lt; clear hb v; rename World => v))
  go_ret
  exact ⟨rfl, EX⟩
theorem get_form (L : Lay) (hv : vlay L = false) (a : Option Addr) (len cap : Nat) (w : World) (TL : LaidL w) :
    Calls Tryd.prog 10 #[(.agg (lv (L))), .slice a len cap] w fun e w' => e = .returned (.tuple #[.slice none 0 0, .int .i64 4]) ∧ Ext w w' := by
  have EX := Ext.refl w
  have CK : ∀ v, Ext w v → Calls Tryd.prog 23 #[(.agg (lv (L)))] v fun e w' => e = .returned (.bool false) ∧ Ext v w' := fun v h => by have := maybe_is L v (TL.later h); rwa [hv] at this
  clear TL
  go_enter Tryd.func10, Tryd.ntmps10
  go_upto_region 1 with fail
  refine rebase (G := fun w' => Code.wp _ _ _ _ w') _ (fun v1 => Ext w v1 ∧ Lm v1 (w.heap.size) (L)) ⟨by repeat (first | with_reducible exact EX |  with_reducible refine Ext.alloc ?_ _ | with_reducible refine Ext.drew ?_ | with_reducible refine Ext.drewN ?_ _ | with_reducible refine Ext.setCell ?_ (by first | (simp; done) | omega | (dsimp only; omega)) _), by repeat (first | with_reducible assumption | with_reducible refine Lm.drew ?_ | with_reducible refine Lm.drewN ?_ _ | (with_reducible refine Lm.skip ?_ ?_; focus (first | omega | (simp; done))) | with_reducible refine Lm.set0 ?_ _ | with_reducible refine Lm.set4 ?_ _ | with_reducible refine Lm.set5 ?_ _ | with_reducible refine Lm.setk ?_ _ (by decide) | (with_reducible refine Lm.cells1 ?_; exact ⟨_, by with_reducible assumption⟩) | (with_reducible refine Lm.skips ?_ _ _ ?_; focus (first | omega | (simp; done))) | (with_reducible refine Lm.new ?_ <;> first | rfl | (simp; done)) | (with_reducible refine Lm.fresh ?_ ?_ <;> first | rfl | (simp; done)) | with_reducible refine Lm.alloc ?_ _)⟩ ?_; clear EX ; rintro v1 ⟨EX, LB⟩; rename World => v; have LBc0 := LB.c0; have LBc1 := LB.c1; have LBc2 := LB.c2; have LBc3 := LB.c3; have LBc4 := LB.c4; have LBc5 := LB.c5; have LBdg := LB.dg; have LBfz := LB.fz; have LBlt := LB.lt
  go_wp2_with (first | (refine wpList_load_lay (w.heap.size) _ rfl rfl rfl LB ?_) | (go_at_call 23; with_reducible refine (CK _ EX).mono ?_; rintro e v1 ⟨rfl, hb⟩; replace EX := Ext.trans EX hb; replace LB := LB.later hb; replace LBc0 := LB.c0; replace LBc1 := LB.c1; replace LBc2 := LB.c2; replace LBc3 := LB.c3; replace LBc4 := LB.c4; replace LBc5 := LB.c5; replace LBdg := LB.dg; replace LBfz := LB.fz; replace LBlt := LB.lt; clear hb v; rename World => v))
  go_ret2
  exact ⟨rfl, EX⟩
theorem get_limit (L : Lay) (hv : vlay L = true) (a : Option Addr) (len cap : Nat) (h : 65536 < len) (w : World) (TL : LaidL w) :
    Calls Tryd.prog 10 #[(.agg (lv (L))), .slice a len cap] w fun e w' => e = .returned (.tuple #[.slice none 0 0, .int .i64 3]) ∧ Ext w w' := by
  have EX := Ext.refl w
  have CK : ∀ v, Ext w v → Calls Tryd.prog 23 #[(.agg (lv (L)))] v fun e w' => e = .returned (.bool true) ∧ Ext v w' := fun v h => by have := maybe_is L v (TL.later h); rwa [hv] at this
  have hbig : (65536 : Int) < (len : Int) := by omega
  clear TL
  go_enter Tryd.func10, Tryd.ntmps10
  go_upto_region 1 with fail
  refine rebase (G := fun w' => Code.wp _ _ _ _ w') _ (fun v1 => Ext w v1 ∧ Lm v1 (w.heap.size) (L)) ⟨by repeat (first | with_reducible exact EX |  with_reducible refine Ext.alloc ?_ _ | with_reducible refine Ext.drew ?_ | with_reducible refine Ext.drewN ?_ _ | with_reducible refine Ext.setCell ?_ (by first | (simp; done) | omega | (dsimp only; omega)) _), by repeat (first | with_reducible assumption | with_reducible refine Lm.drew ?_ | with_reducible refine Lm.drewN ?_ _ | (with_reducible refine Lm.skip ?_ ?_; focus (first | omega | (simp; done))) | with_reducible refine Lm.set0 ?_ _ | with_reducible refine Lm.set4 ?_ _ | with_reducible refine Lm.set5 ?_ _ | with_reducible refine Lm.setk ?_ _ (by decide) | (with_reducible refine Lm.cells1 ?_; exact ⟨_, by with_reducible assumption⟩) | (with_reducible refine Lm.skips ?_ _ _ ?_; focus (first | omega | (simp; done))) | (with_reducible refine Lm.new ?_ <;> first | rfl | (simp; done)) | (with_reducible refine Lm.fresh ?_ ?_ <;> first | rfl | (simp; done)) | with_reducible refine Lm.alloc ?_ _)⟩ ?_; clear EX ; rintro v1 ⟨EX, LB⟩; rename World => v; have LBc0 := LB.c0; have LBc1 := LB.c1; have LBc2 := LB.c2; have LBc3 := LB.c3; have LBc4 := LB.c4; have LBc5 := LB.c5; have LBdg := LB.dg; have LBfz := LB.fz; have LBlt := LB.lt
  go_wp2_with (first | (refine wpList_load_lay (w.heap.size) _ rfl rfl rfl LB ?_) | (go_at_call 23; with_reducible refine (CK _ EX).mono ?_; rintro e v1 ⟨rfl, hb⟩; replace EX := Ext.trans EX hb; replace LB := LB.later hb; replace LBc0 := LB.c0; replace LBc1 := LB.c1; replace LBc2 := LB.c2; replace LBc3 := LB.c3; replace LBc4 := LB.c4; replace LBc5 := LB.c5; replace LBdg := LB.dg; replace LBfz := LB.fz; replace LBlt := LB.lt; clear hb v; rename World => v))
  go_ret2
  exact ⟨rfl, EX⟩
theorem get_short' (L : Lay) (fl c p n sz : Nat) (V : Vl L fl c p n sz) (a : Option Addr) (len cap : Nat) (h : ¬ 65536 < len) (hm : len % sz ≠ 0) (w : World) (TL : LaidL w) :
    Calls Tryd.prog 10 #[(.agg (lv (L))), .slice a len cap] w fun e w' => e = .returned (.tuple #[.slice none 0 0, .int .i64 5]) ∧ Ext w w' := by
  have EX := Ext.refl w
  have CK : ∀ v, Ext w v → Calls Tryd.prog 23 #[(.agg (lv (L)))] v fun e w' => e = .returned (.bool true) ∧ Ext v w' := fun v h => by have := maybe_is L v (TL.later h); rwa [V.may] at this
  have SZ : ∀ v, Ext w v → Calls Tryd.prog 24 #[(.agg (lv (L)))] v fun e w' => e = .returned (.int .i64 (sz : Nat)) ∧ Ext v w' := fun v h => by have := sizeof_is L v (TL.later h); rwa [V.es] at this
  have sz1 := V.s1
  have hbig : ¬ (65536 : Int) < (len : Int) := by omega
  have hmod : ((len : Int) % (sz : Int) != 0) = true := by
    have : ((len : Int) % (sz : Int)) = ((len % sz : Nat) : Int) := by push_cast; rfl
    rw [this]; simp; omega
  have hsz0 : ¬ (sz : Int) = 0 := by omega
  have szp : (0 : Int) < sz := by omega
  clear V hm TL
  go_enter Tryd.func10, Tryd.ntmps10
  go_upto_region 1 with fail
  refine rebase (G := fun w' => Code.wp _ _ _ _ w') _ (fun v1 => Ext w v1 ∧ Lm v1 (w.heap.size) (L)) ⟨by repeat (first | with_reducible exact EX |  with_reducible refine Ext.alloc ?_ _ | with_reducible refine Ext.drew ?_ | with_reducible refine Ext.drewN ?_ _ | with_reducible refine Ext.setCell ?_ (by first | (simp; done) | omega | (dsimp only; omega)) _), by repeat (first | with_reducible assumption | with_reducible refine Lm.drew ?_ | with_reducible refine Lm.drewN ?_ _ | (with_reducible refine Lm.skip ?_ ?_; focus (first | omega | (simp; done))) | with_reducible refine Lm.set0 ?_ _ | with_reducible refine Lm.set4 ?_ _ | with_reducible refine Lm.set5 ?_ _ | with_reducible refine Lm.setk ?_ _ (by decide) | (with_reducible refine Lm.cells1 ?_; exact ⟨_, by with_reducible assumption⟩) | (with_reducible refine Lm.skips ?_ _ _ ?_; focus (first | omega | (simp; done))) | (with_reducible refine Lm.new ?_ <;> first | rfl | (simp; done)) | (with_reducible refine Lm.fresh ?_ ?_ <;> first | rfl | (simp; done)) | with_reducible refine Lm.alloc ?_ _)⟩ ?_; clear EX ; rintro v1 ⟨EX, LB⟩; rename World => v; have LBc0 := LB.c0; have LBc1 := LB.c1; have LBc2 := LB.c2; have LBc3 := LB.c3; have LBc4 := LB.c4; have LBc5 := LB.c5; have LBdg := LB.dg; have LBfz := LB.fz; have LBlt := LB.lt
  go_wp2_with (first | (refine wpList_load_lay (w.heap.size) _ rfl rfl rfl LB ?_) | (go_at_call 23; with_reducible refine (CK _ EX).mono ?_; rintro e v1 ⟨rfl, hb⟩; replace EX := Ext.trans EX hb; replace LB := LB.later hb; replace LBc0 := LB.c0; replace LBc1 := LB.c1; replace LBc2 := LB.c2; replace LBc3 := LB.c3; replace LBc4 := LB.c4; replace LBc5 := LB.c5; replace LBdg := LB.dg; replace LBfz := LB.fz; replace LBlt := LB.lt; clear hb v; rename World => v) | (go_at_call 24; with_reducible refine (SZ _ EX).mono ?_; rintro e v1 ⟨rfl, hb⟩; replace EX := Ext.trans EX hb; replace LB := LB.later hb; replace LBc0 := LB.c0; replace LBc1 := LB.c1; replace LBc2 := LB.c2; replace LBc3 := LB.c3; replace LBc4 := LB.c4; replace LBc5 := LB.c5; replace LBdg := LB.dg; replace LBfz := LB.fz; replace LBlt := LB.lt; clear hb v; rename World => v))
  go_ret2
  exact ⟨rfl, EX⟩
/-- A new list of vertices, all noughts. -/
def zrec : Rcd := ⟨0, 0, 0, fun _ => 0⟩
theorem make_recs (n : Nat) (hn : n ≤ 65536) (w : World) : ∃ cs, (Instr.makeSlice 31 (.int .i64 (n : Int)) (.int .i64 (n : Int))).run Tryd.prog w = .ok (.slice (some ⟨w.heap.size, 0, none⟩) n n) (w.alloc (.cells cs 63)) ∧
    Lst (w.alloc (.cells cs 63)) 63 7 (.slice (some ⟨w.heap.size, 0, none⟩) n n) n (fun _ => rv zrec) := by
  obtain ⟨i0, hi0, hz0, hz1, hz2⟩ := info_parts info_recG
  have hr := run_make (P := Tryd.prog) w 31 63 i0 _ Tryd.underlying31 hi0 hz0 .i64 .i64 n n (by omega) (Int.le_refl _) (by rw [hz2]; omega) (by omega)
  rw [Int.toNat_natCast, hz1] at hr
  refine ⟨_, hr, ?_, .inr ⟨_, _, _, rfl, Nat.zero_le _, heap_alloc_new _ _, Nat.le_refl _, by unfold maxLen; omega, size_madeCells _ _, ?_⟩⟩
  · rw [ew_len]
  · have e : (madeCells (Value.agg #[.int .u8 0, .int .u32 0, .int .u32 0, .int .u16 0, .int .u16 0, .int .u16 0, .int .u16 0]).cells (n * 7)).toList = ew 7 n (fun _ => rv zrec) := by
      refine List.ext_getElem? fun j => ?_
      by_cases hj : j < n * 7
      · have h7 : j % 7 < 7 := Nat.mod_lt _ (by decide)
        have hk : (ew 7 n (fun _ => rv zrec))[j]? = some (rv zrec (j % 7)) := by
          unfold ew
          exact vl_at _ _ hj
        rw [hk, Array.getElem?_toList]
        unfold madeCells
        rw [Array.getElem?_map, Array.getElem?_range, if_pos hj]
        show some ((#[Value.int .u8 0, .int .u32 0, .int .u32 0, .int .u16 0, .int .u16 0, .int .u16 0, .int .u16 0])[j % 7]!) = _
        generalize j % 7 = k at h7
        match k, h7 with
        | 0, _ => rfl
        | 1, _ => rfl
        | 2, _ => rfl
        | 3, _ => rfl
        | 4, _ => rfl
        | 5, _ => rfl
        | 6, _ => rfl
      · refine (List.getElem?_eq_none ?_).trans (List.getElem?_eq_none ?_).symm
        · rw [Array.length_toList, size_madeCells]; omega
        · rw [ew_len]; omega
    rw [List.take_of_length_le (by rw [Array.length_toList, size_madeCells]; exact Nat.le_refl _), e]
end Go.Proofs.YtemcppakmcffgaaDoor
