/- The given reference's plain (layer 10): a vertex without its flag. -/
import Derived.Test.YthlhmfjopjikpaaDoorTriM
import Derived.RegionTactic
import Derived.BigRegion
namespace Go.Proofs.YthlhmfjopjikpaaDoor
open Go.RowKit Go.BigFrame
set_option linter.unusedSimpArgs false
set_option linter.unusedVariables false
set_option maxRecDepth 20000
theorem Vm.flag0 {v : World} {b : Nat} {R : Rcd} (B : Vm v b 7 (rv R)) : Vm (v.setCell ⟨b, 0, none⟩ (.int .u8 0)) b 7 (rv (bare R)) := (B.set 0 _).eq fun i _ => match i with | 0 => rfl | 1 => rfl | 2 => rfl | i + 3 => rfl

set_option maxHeartbeats 2000000 in
theorem rplain_any (R : Rcd) (w : World) : Calls Tryd.prog 24 #[.agg (vl 7 (rv R)).toArray] w fun e w' => e = .returned (.agg (vl 7 (rv (bare R))).toArray) ∧ Ext w w' := by
  have EX := Ext.refl w
  go_enter Tryd.func24, Tryd.ntmps24
  go_upto_region 1 with fail
  refine rebase (G := fun w' => Code.wp _ _ _ _ w') _ (fun v => Ext w v ∧ Vm v w.heap.size 7 (rv R) ∧ Vm v (w.heap.size + 1) 7 (rv zrec)) ⟨(EX.alloc _).alloc _, (Vm.new (by simp) (fun i hi => by rw [List.getElem?_toArray, vl_at _ _ hi])).alloc _, Vm.new (by simp) (fun i hi => match i, hi with | 0, _ => rfl | 1, _ => rfl | 2, _ => rfl | 3, _ => rfl | 4, _ => rfl | 5, _ => rfl | 6, _ => rfl)⟩ ?_
  obtain ⟨b0, hb0⟩ : ∃ b, w.heap.size = b := ⟨_, rfl⟩
  rw [hb0]
  clear EX
  rintro v ⟨EX, XB, RB⟩
  have fx := XB.fz
  have cx : v.cell? ⟨b0, 0, none⟩ = some (.int .u8 R.f) := XB.dg 0 (by decide)
  go_upto_region 2 with fail
  refine rebase (G := fun w' => Code.wp _ _ _ _ w') _ (fun v1 => Ext w v1 ∧ Vm v1 b0 7 (rv (bare R)) ∧ Vm v1 (b0 + 1) 7 (rv zrec)) ⟨EX.setCell (by dsimp only; omega) _, XB.flag0, RB.skip (by omega)⟩ ?_
  clear EX XB RB fx cx v
  rintro v ⟨EX, XB, RB⟩
  have one7 : ∀ u ∈ vl 7 (rv (bare R)), u.oneCell' = true := rv_one _
  have RX := XB.range
  have TH := RB.there (m := 7) rfl
  generalize hg : rv (bare R) = g at *
  go_wp2_with (first | (refine wpList_load_mid rfl 63 (.tmp 1) rfl b0 0 rfl (vl 7 g) _ RX Tryd.underlying63 rfl (by rw [vl_len]; kernel_rfl) ?_) | (refine wpList_store_vl rfl 63 (.tmp 2) (.tmp 4) rfl (b0 + 1) 0 7 g rfl rfl TH size_recQ one7 ?_))
  refine rebase (G := fun w' => bodyPost _ _ _ _ _ w') _ (fun v1 => Ext w v1 ∧ v1.rangeAt (b0 + 1) 0 (vl 7 g)) ⟨Ext.setCells' EX _ (by omega) _ _, (RB.cells (by decide) g).range⟩ ?_
  clear EX XB RX TH RB v
  rintro v ⟨EX, RX⟩
  have hld := run_loadVar_mid (P := Tryd.prog) v (b0 + 1) 0 63 (vl 7 g) _ RX Tryd.underlying63 rfl (by rw [vl_len]; kernel_rfl)
  refine bodyPost_ret (by simp only [results, Tryd.results24]; simp [Act.put, asAddr, Result.andThen, hld]; rfl) rfl ⟨by rw [hg], EX⟩

end Go.Proofs.YthlhmfjopjikpaaDoor
