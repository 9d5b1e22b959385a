/- What package trios' bare, triOf and the library's Clip (of triangles) do, called at anything. -/
import Derived.Test.YthlhmfjopjikpaaDoorTriM
import Derived.Test.YthlhmfjopjikpaaDoorPhases
import Derived.Test.YthlhmfjopjikpaaDoorBookA
import Derived.RegionTactic
import Derived.BigRegion
namespace Go.Proofs.YthlhmfjopjikpaaDoor
open Go.RowKit Go.BigFrame
set_option linter.unusedSimpArgs false
set_option linter.unusedVariables false
set_option maxRecDepth 20000

theorem Vm.flag0' {v : World} {b : Nat} {R : Rcd} (B : Vm v b 7 (rv R)) : Vm (v.setCell ⟨b, 0, none⟩ (.int .u8 0)) b 7 (rv (bare R)) := (B.set 0 _).eq fun i _ => match i with | 0 => rfl | 1 => rfl | 2 => rfl | i + 3 => rfl
set_option maxHeartbeats 2000000 in
theorem tbare_any (R : Rcd) (w : World) : Calls Tryd.prog 76 #[.agg (vl 7 (rv R)).toArray] w fun e w' => e = .returned (.agg (vl 7 (rv (bare R))).toArray) ∧ Ext w w' := by
  have EX := Ext.refl w
  go_enter Tryd.func76, Tryd.ntmps76
  go_upto_region 1 with fail
  refine rebase (G := fun w' => Code.wp _ _ _ _ w') _ (fun v => Ext w v ∧ Vm v w.heap.size 7 (rv R) ∧ Vm v (w.heap.size + 1) 7 (rv zrec)) ⟨(EX.alloc _).alloc _, (Vm.new (by simp) (fun i hi => by rw [List.getElem?_toArray, vl_at _ _ hi])).alloc _, Vm.new (by simp) (fun i hi => match i, hi with | 0, _ => rfl | 1, _ => rfl | 2, _ => rfl | 3, _ => rfl | 4, _ => rfl | 5, _ => rfl | 6, _ => rfl)⟩ ?_
  obtain ⟨b0, hb0⟩ : ∃ b, w.heap.size = b := ⟨_, rfl⟩
  rw [hb0]
  clear EX
  rintro v ⟨EX, XB, RB⟩
  have fx := XB.fz
  have cx : v.cell? ⟨b0, 0, none⟩ = some (.int .u8 R.f) := XB.dg 0 (by decide)
  go_upto_region 2 with fail
  refine rebase (G := fun w' => Code.wp _ _ _ _ w') _ (fun v1 => Ext w v1 ∧ Vm v1 b0 7 (rv (bare R)) ∧ Vm v1 (b0 + 1) 7 (rv zrec)) ⟨EX.setCell (by dsimp only; omega) _, XB.flag0', RB.skip (by omega)⟩ ?_
  clear EX XB RB fx cx v
  rintro v ⟨EX, XB, RB⟩
  have one7 : ∀ u ∈ vl 7 (rv (bare R)), u.oneCell' = true := rv_one _
  have RX := XB.range
  have TH := RB.there (m := 7) rfl
  generalize hg : rv (bare R) = g at *
  go_wp2_with (first | (refine wpList_load_mid rfl 63 (.tmp 1) rfl b0 0 rfl (vl 7 g) _ RX Tryd.underlying63 rfl (by rw [vl_len]; kernel_rfl) ?_) | (refine wpList_store_vl rfl 63 (.tmp 2) (.tmp 4) rfl (b0 + 1) 0 7 g rfl rfl TH size_recQ one7 ?_))
  refine rebase (G := fun w' => bodyPost _ _ _ _ _ w') _ (fun v1 => Ext w v1 ∧ v1.rangeAt (b0 + 1) 0 (vl 7 g)) ⟨Ext.setCells' EX _ (by omega) _ _, (RB.cells (by decide) g).range⟩ ?_
  clear EX XB RX TH RB v
  rintro v ⟨EX, RX⟩
  have hld := run_loadVar_mid (P := Tryd.prog) v (b0 + 1) 0 63 (vl 7 g) _ RX Tryd.underlying63 rfl (by rw [vl_len]; kernel_rfl)
  refine bodyPost_ret (by simp only [results, Tryd.results76]; simp [Act.put, asAddr, Result.andThen, hld]; rfl) rfl ⟨by rw [hg], EX⟩

set_option maxHeartbeats 4000000 in
theorem triof_any (P0 P1 P2 : Rcd) (w : World) : Calls Tryd.prog 71 #[.agg (vl 7 (rv P0)).toArray, .agg (vl 7 (rv P1)).toArray, .agg (vl 7 (rv P2)).toArray] w fun e w' => e = .returned (.agg (vl 21 (tv ⟨P0, P1, P2⟩)).toArray) ∧ Ext w w' := by
  have EX := Ext.refl w
  go_enter Tryd.func71, Tryd.ntmps71
  go_upto_region 1 with fail
  refine rebase (G := fun w' => Code.wp _ _ _ _ w') _ (fun v => Ext w v ∧ Vm v w.heap.size 7 (rv P0) ∧ Vm v (w.heap.size + 1) 7 (rv P1) ∧ Vm v (w.heap.size + 1 + 1) 7 (rv P2) ∧ Vm v (w.heap.size + 1 + 1 + 1) 21 (tv z3)) ⟨(((EX.alloc _).alloc _).alloc _).alloc _, (((Vm.new (by simp) (fun i hi => by rw [List.getElem?_toArray, vl_at _ _ hi])).alloc _).alloc _).alloc _, ((Vm.new (by simp) (fun i hi => by rw [List.getElem?_toArray, vl_at _ _ hi])).alloc _).alloc _, (Vm.new (by simp) (fun i hi => by rw [List.getElem?_toArray, vl_at _ _ hi])).alloc _, Vm.ofList (by simp) rfl⟩ ?_
  obtain ⟨b0, hb0⟩ : ∃ b, w.heap.size = b := ⟨_, rfl⟩
  obtain ⟨b1, hb1⟩ : ∃ b, b0 + 1 = b := ⟨_, rfl⟩
  obtain ⟨b2, hb2⟩ : ∃ b, b1 + 1 = b := ⟨_, rfl⟩
  obtain ⟨b3, hb3⟩ : ∃ b, b2 + 1 = b := ⟨_, rfl⟩
  rw [hb0, hb1, hb2, hb3]
  clear EX
  rintro v ⟨EX, B0, B1, B2, B3⟩
  have R0 := B0.range
  have R1 := B1.range
  have R2 := B2.range
  refine wp_region_phases [(true, [0,2,4]), (false, [1,3,5,6,7])] (fun w' => ∃ x : Alt (fun b => b = b3) v, w' = x.out) (by kernel_rfl) (by kernel_rfl) (fun c a x v w h => by cases x <;> exact h) ⟨⟨v.drew, (Chg.refl _ v).drew⟩, rfl⟩ ?_
  intro pl hpl
  simp [pickO] at hpl
  subst hpl
  unfold wpPh
  (repeat (first | (go_big_quiet_want; refine quiet_load_cells 63 (.tmp 3) b0 0 (vl 7 (rv P0)) _ rfl rfl (by rintro _ ⟨x', rfl⟩; exact range_chg R0 x'.chg (by omega)) Tryd.underlying63 rfl (by rw [vl_len]; kernel_rfl) ?_; simp only [Act.put, List.setIfInBounds_toArray, List.set_cons_succ, List.set_cons_zero]; go_big_quiet_on) | (go_big_quiet_want; refine quiet_load_cells 63 (.tmp 4) b1 0 (vl 7 (rv P1)) _ rfl rfl (by rintro _ ⟨x', rfl⟩; exact range_chg R1 x'.chg (by omega)) Tryd.underlying63 rfl (by rw [vl_len]; kernel_rfl) ?_; simp only [Act.put, List.setIfInBounds_toArray, List.set_cons_succ, List.set_cons_zero]; go_big_quiet_on) | (go_big_quiet_want; refine quiet_load_cells 63 (.tmp 5) b2 0 (vl 7 (rv P2)) _ rfl rfl (by rintro _ ⟨x', rfl⟩; exact range_chg R2 x'.chg (by omega)) Tryd.underlying63 rfl (by rw [vl_len]; kernel_rfl) ?_; simp only [Act.put, List.setIfInBounds_toArray, List.set_cons_succ, List.set_cons_zero]; go_big_quiet_on) | go_big_quiet_step (fail)))
  refine wpQuiet_nil ?_
  have hE0 : Ext v v.drew := (Ext.refl v).drew
  unfold wpPh
  refine holdk_step fun K hK => ?_
  go_wp2_with (first | (go_at_call 76; with_reducible refine (tbare_any P0 _).mono ?_; rintro e v1 ⟨rfl, hb⟩))
  have hE1 := hE0.trans hb
  clear hb
  refine hK _ _ ⟨⟨v1, Chg.of hE1⟩, rfl⟩ ?_
  clear hK K
  refine holdk_step fun K hK => ?_
  go_wp2_with (first | (go_at_call 76; with_reducible refine (tbare_any P1 _).mono ?_; rintro e v2 ⟨rfl, hb⟩))
  have hE2 := hE1.trans hb
  clear hb
  refine hK _ _ ⟨⟨v2, Chg.of hE2⟩, rfl⟩ ?_
  clear hK K
  refine holdk_step fun K hK => ?_
  go_wp2_with (first | (go_at_call 76; with_reducible refine (tbare_any P2 _).mono ?_; rintro e v3 ⟨rfl, hb⟩))
  have hE3 := hE2.trans hb
  clear hb
  refine hK _ _ ⟨⟨v3, Chg.of hE3⟩, rfl⟩ ?_
  clear hK K
  obtain ⟨f0, hf0⟩ : ∃ f, rv (bare P0) = f := ⟨_, rfl⟩
  obtain ⟨f1, hf1⟩ : ∃ f, rv (bare P1) = f := ⟨_, rfl⟩
  obtain ⟨f2, hf2⟩ : ∃ f, rv (bare P2) = f := ⟨_, rfl⟩
  have one : ∀ u ∈ vl 21 (tri21 f0 f1 f2), u.oneCell' = true := by rw [← hf0, ← hf1, ← hf2]; exact tri21_one (rv_one _) (rv_one _) (rv_one _)
  have HF3 : Hid (tri21 (rv (bare P0)) (rv (bare P1)) (rv (bare P2)) = tri21 f0 f1 f2) := by show tri21 _ _ _ = _; rw [hf0, hf1, hf2]
  have B3' := B3.later hE3
  have TH := B3'.there (m := 21) rfl
  rw [hf0, hf1, hf2]
  clear hf0 hf1 hf2
  simp only [vl7]
  refine holdk_step fun K hK => ?_
  go_wp2
  refine hK _ _ ⟨⟨v3, Chg.of hE3⟩, rfl⟩ ?_
  clear hK K
  refine holdk_step fun K hK => ?_
  go_wp2_with (first | (refine wpList_store_vl rfl 65 (.tmp 6) (.tmp 13) rfl b3 0 21 (tri21 f0 f1 f2) rfl rfl TH size_tri21 one ?_))
  have C3 : Chg (fun b => b = b3) v (v3.setCells b3 0 (vl 21 (tri21 f0 f1 f2))) := Chg.cells (S := fun b => b = b3) (Chg.of hE3) (b := b3) (.inl rfl) _ _
  refine hK _ _ ⟨⟨_, C3⟩, rfl⟩ ?_
  clear hK K
  unfold wpHoldK wpPh
  obtain ⟨v4, hv4⟩ : ∃ v4, v3.setCells b3 0 (vl 21 (tri21 f0 f1 f2)) = v4 := ⟨_, rfl⟩
  have EX4 : Ext w v4 := by rw [← hv4]; exact C3.over EX (fun i hi => by omega)
  have RX : v4.rangeAt b3 0 (vl 21 (tri21 f0 f1 f2)) := by rw [← hv4]; exact (B3'.cells (by decide) _).range
  rw [hv4]
  clear EX B0 B1 B2 B3 B3' TH R0 R1 R2 C3 hE0 hE1 hE2 hE3 hv4 v1 v2 v3 v
  go_wp2
  have hld := run_loadVar_mid (P := Tryd.prog) v4 b3 0 65 (vl 21 (tri21 f0 f1 f2)) _ RX Tryd.underlying65 rfl (by rw [vl_len]; kernel_rfl)
  refine bodyPost_ret (by simp only [results, Tryd.results71]; simp [Act.put, asAddr, Result.andThen, hld]; rfl) rfl ⟨by rw [tv_tri, HF3.out], EX4⟩
/-- What a triangle tells of its vertices: nothing of their flags. -/
theorem tv_bare (a b c : Rcd) : tv ⟨bare a, bare b, bare c⟩ = tv ⟨a, b, c⟩ := rfl
/-- A list of triangles, as it is told with no room behind it. -/
theorem clip_any (s : Value) (n : Nat) (X : Nat → Nat → Value) (w : World) (SL : Lst w 65 21 s n X) : Calls Tryd.prog 72 #[s] w fun e w' => ∃ s', e = .returned s' ∧ Ext w w' ∧ Lst w' 65 21 s' n X ∧ s'.ownBlock = s.ownBlock := by
  have EX := Ext.refl w
  rcases own_form SL with ⟨rfl, rfl⟩ | ⟨g, c, c', rfl, h1, h2, h3, _⟩
  · go_enter Tryd.func72, Tryd.ntmps72
    go_wp2
    go_ret
    exact ⟨_, rfl, EX, SL, rfl⟩
  · have h4 : c ≤ maxLen := Nat.le_trans h2 h3
    unfold maxLen at h4
    clear h2 h3
    have HS : Hid (Lst w 65 21 (.slice (some ⟨g, 0, none⟩) n n) n X) := SL.clip (Nat.le_refl _) h1
    clear SL
    go_enter Tryd.func72, Tryd.ntmps72
    go_wp2
    go_ret
    exact ⟨_, rfl, EX, HS.out, rfl⟩
end Go.Proofs.YthlhmfjopjikpaaDoor
