/- What package trios' Of does, called at any layout and any vertices. -/
import Derived.Test.YthlhmfjopjikpaaDoorTrioD
import Derived.Test.YthlhmfjopjikpaaDoorTriV
namespace Go.Proofs.YthlhmfjopjikpaaDoor
open Go.RowKit Go.BigFrame
set_option linter.unusedSimpArgs false
set_option linter.unusedVariables false
set_option maxRecDepth 20000

theorem tlay_mayb {L : Lay} (h : tlay L = true) : mayl L = true ∧ (L.t = 4 ∨ L.t = 5) := by
  unfold tlay at h
  simpa using h
theorem trio_form (L : Lay) (hv : tlay L = false) (a : Option Addr) (N cap : Nat) (w : World) (TL : LaidL w) : Calls Tryd.prog 10 #[(.agg (lv (L))), .slice a N cap] w fun e w' => e = .returned (.tuple #[.slice none 0 0, .int .i64 4]) ∧ Ext w w' := by
  have EX := Ext.refl w
  have CK : ∀ v, Ext w v → Calls Tryd.prog 17 #[(.agg (lv (L)))] v fun e w' => e = .returned (.int .i64 (if mayl L = true then 0 else 4)) ∧ Ext v w' := fun v h => lcheck_any L v (TL.later h)
  clear TL
  by_cases hm : mayl L = true
  · rw [if_pos hm] at CK
    have h4 : (L.t == 4) = false := by unfold tlay at hv; rw [hm] at hv; simp at hv; simp [hv.1]
    have h5 : (L.t == 5) = false := by unfold tlay at hv; rw [hm] at hv; simp at hv; simp [hv.2]
    clear hv hm
    go_enter Tryd.func10, Tryd.ntmps10; go_upto_region 1 with fail; refine rebase (G := fun w' => Code.wp _ _ _ _ w') _ (fun v1 => Ext w v1 ∧ Lm v1 (w.heap.size) (L)) ⟨by repeat (first | with_reducible exact EX |  with_reducible refine Ext.alloc ?_ _ | with_reducible refine Ext.drew ?_ | with_reducible refine Ext.drewN ?_ _ | with_reducible refine Ext.setCell ?_ (by first | (simp; done) | omega | (dsimp only; omega)) _), by repeat (first | with_reducible assumption | with_reducible refine Lm.drew ?_ | with_reducible refine Lm.drewN ?_ _ | (with_reducible refine Lm.skip ?_ ?_; focus (first | omega | (simp; done))) | with_reducible refine Lm.set0 ?_ _ | with_reducible refine Lm.set4 ?_ _ | with_reducible refine Lm.set5 ?_ _ | with_reducible refine Lm.setk ?_ _ (by decide) | (with_reducible refine Lm.cells1 ?_; exact ⟨_, by with_reducible assumption⟩) | (with_reducible refine Lm.skips ?_ _ _ ?_; focus (first | omega | (simp; done))) | (with_reducible refine Lm.new ?_ <;> first | rfl | (simp; done)) | (with_reducible refine Lm.fresh ?_ ?_ <;> first | rfl | (simp; done)) | with_reducible refine Lm.alloc ?_ _)⟩ ?_; clear EX ; rintro v1 ⟨EX, LB⟩; rename World => v; have LBc0 := LB.c0; have LBc1 := LB.c1; have LBc2 := LB.c2; have LBc3 := LB.c3; have LBc4 := LB.c4; have LBc5 := LB.c5; have LBdg := LB.dg; have LBfz := LB.fz; have LBlt := LB.lt; obtain ⟨b0, hb0⟩ : ∃ b0, w.heap.size = b0 := ⟨_, rfl⟩; rw [hb0] at LB LBc0 LBc1 LBc2 LBc3 LBc4 LBc5 LBdg LBfz LBlt ⊢; go_upto_region 4 with (first | go_skip | (refine wpList_load_lay (b0) _ rfl rfl rfl LB ?_) | (go_at_call 17; with_reducible refine (CK _ EX).mono ?_; rintro e v1 ⟨rfl, hb⟩; replace EX := Ext.trans EX hb; replace LB := LB.later hb; replace LBc0 := LB.c0; replace LBc1 := LB.c1; replace LBc2 := LB.c2; replace LBc3 := LB.c3; replace LBc4 := LB.c4; replace LBc5 := LB.c5; replace LBdg := LB.dg; replace LBfz := LB.fz; replace LBlt := LB.lt; clear hb v; rename World => v))
    go_wp2_with (first | go_skip)
    go_ret2
    exact ⟨rfl, EX⟩
  · rw [if_neg hm] at CK
    clear hv hm
    go_enter Tryd.func10, Tryd.ntmps10
    go_upto_region 1 with fail
    refine rebase (G := fun w' => Code.wp _ _ _ _ w') _ (fun v1 => Ext w v1 ∧ Lm v1 (w.heap.size) (L)) ⟨by repeat (first | with_reducible exact EX |  with_reducible refine Ext.alloc ?_ _ | with_reducible refine Ext.drew ?_ | with_reducible refine Ext.drewN ?_ _ | with_reducible refine Ext.setCell ?_ (by first | (simp; done) | omega | (dsimp only; omega)) _), by repeat (first | with_reducible assumption | with_reducible refine Lm.drew ?_ | with_reducible refine Lm.drewN ?_ _ | (with_reducible refine Lm.skip ?_ ?_; focus (first | omega | (simp; done))) | with_reducible refine Lm.set0 ?_ _ | with_reducible refine Lm.set4 ?_ _ | with_reducible refine Lm.set5 ?_ _ | with_reducible refine Lm.setk ?_ _ (by decide) | (with_reducible refine Lm.cells1 ?_; exact ⟨_, by with_reducible assumption⟩) | (with_reducible refine Lm.skips ?_ _ _ ?_; focus (first | omega | (simp; done))) | (with_reducible refine Lm.new ?_ <;> first | rfl | (simp; done)) | (with_reducible refine Lm.fresh ?_ ?_ <;> first | rfl | (simp; done)) | with_reducible refine Lm.alloc ?_ _)⟩ ?_; clear EX ; rintro v1 ⟨EX, LB⟩; rename World => v; have LBc0 := LB.c0; have LBc1 := LB.c1; have LBc2 := LB.c2; have LBc3 := LB.c3; have LBc4 := LB.c4; have LBc5 := LB.c5; have LBdg := LB.dg; have LBfz := LB.fz; have LBlt := LB.lt
    go_wp2_with (first | go_skip | (refine wpList_load_lay (w.heap.size) _ rfl rfl rfl LB ?_) | (go_at_call 17; with_reducible refine (CK _ EX).mono ?_; rintro e v1 ⟨rfl, hb⟩; replace EX := Ext.trans EX hb; replace LB := LB.later hb; replace LBc0 := LB.c0; replace LBc1 := LB.c1; replace LBc2 := LB.c2; replace LBc3 := LB.c3; replace LBc4 := LB.c4; replace LBc5 := LB.c5; replace LBdg := LB.dg; replace LBfz := LB.fz; replace LBlt := LB.lt; clear hb v; rename World => v))
    go_ret2
    exact ⟨rfl, EX⟩
set_option maxHeartbeats 2000000 in
theorem trio_four (L : Lay) (hv : tlay L = true) (h4 : L.t = 4) (a : Option Addr) (N cap : Nat) (Q : Nat → Rcd) (w : World) (TL : LaidL w) (B : Vs w a N Q) (hN : N ≤ 4294967296) : Calls Tryd.prog 10 #[(.agg (lv (L))), .slice a N cap] w (TrAll L Q N w) := by
  have EX := Ext.refl w
  have CK : ∀ v, Ext w v → Calls Tryd.prog 17 #[(.agg (lv (L)))] v fun e w' => e = .returned (.int .i64 0) ∧ Ext v w' := fun v h => by have := lcheck_any L v (TL.later h); rwa [if_pos (tlay_mayb hv).1] at this
  have OF := fun v (h : Ext w v) => offlags_any a N cap Q v (B.later h) hN
  have t4 : (L.t == 4) = true := by simp [h4]
  have HV : Hid (tlay L = true ∧ L.t = 4) := ⟨hv, h4⟩
  clear TL B hN hv h4
  go_enter Tryd.func10, Tryd.ntmps10; go_upto_region 1 with fail; refine rebase (G := fun w' => Code.wp _ _ _ _ w') _ (fun v1 => Ext w v1 ∧ Lm v1 (w.heap.size) (L)) ⟨by repeat (first | with_reducible exact EX |  with_reducible refine Ext.alloc ?_ _ | with_reducible refine Ext.drew ?_ | with_reducible refine Ext.drewN ?_ _ | with_reducible refine Ext.setCell ?_ (by first | (simp; done) | omega | (dsimp only; omega)) _), by repeat (first | with_reducible assumption | with_reducible refine Lm.drew ?_ | with_reducible refine Lm.drewN ?_ _ | (with_reducible refine Lm.skip ?_ ?_; focus (first | omega | (simp; done))) | with_reducible refine Lm.set0 ?_ _ | with_reducible refine Lm.set4 ?_ _ | with_reducible refine Lm.set5 ?_ _ | with_reducible refine Lm.setk ?_ _ (by decide) | (with_reducible refine Lm.cells1 ?_; exact ⟨_, by with_reducible assumption⟩) | (with_reducible refine Lm.skips ?_ _ _ ?_; focus (first | omega | (simp; done))) | (with_reducible refine Lm.new ?_ <;> first | rfl | (simp; done)) | (with_reducible refine Lm.fresh ?_ ?_ <;> first | rfl | (simp; done)) | with_reducible refine Lm.alloc ?_ _)⟩ ?_; clear EX ; rintro v1 ⟨EX, LB⟩; rename World => v; have LBc0 := LB.c0; have LBc1 := LB.c1; have LBc2 := LB.c2; have LBc3 := LB.c3; have LBc4 := LB.c4; have LBc5 := LB.c5; have LBdg := LB.dg; have LBfz := LB.fz; have LBlt := LB.lt; obtain ⟨b0, hb0⟩ : ∃ b0, w.heap.size = b0 := ⟨_, rfl⟩; rw [hb0] at LB LBc0 LBc1 LBc2 LBc3 LBc4 LBc5 LBdg LBfz LBlt ⊢; go_upto_region 5 with (first | go_skip | (refine wpList_load_lay (b0) _ rfl rfl rfl LB ?_) | (go_at_call 17; with_reducible refine (CK _ EX).mono ?_; rintro e v1 ⟨rfl, hb⟩; replace EX := Ext.trans EX hb; replace LB := LB.later hb; replace LBc0 := LB.c0; replace LBc1 := LB.c1; replace LBc2 := LB.c2; replace LBc3 := LB.c3; replace LBc4 := LB.c4; replace LBc5 := LB.c5; replace LBdg := LB.dg; replace LBfz := LB.fz; replace LBlt := LB.lt; clear hb v; rename World => v))
  go_wp2_with (first | go_skip | (go_at_call 20; refine (OF _ EX).mono ?_; rintro e v1 ⟨s, rfl, hb, SL, hn⟩))
  go_ret2
  have hw := EX.more
  exact ⟨s, _, _, fun k => (chL none (ql Q 0 N)).2.getD k z3, rfl, EX.trans hb, SL, fun b h => Nat.le_trans hw (hn b h), .inr (.inr (.inr ⟨HV.out.1, HV.out.2, rfl, rfl, fun _ _ => rfl⟩))⟩
set_option maxHeartbeats 2000000 in
theorem trio_five (L : Lay) (hv : tlay L = true) (h5 : L.t = 5) (a : Option Addr) (N cap r : Nat) (hr : L.r = (r : Int)) (P : Ending → World → World → Prop) (w : World) (TL : LaidL w)
    (CC : ∀ v, Ext w v → Calls Tryd.prog 21 #[.slice a N cap, .int .i64 r] v fun e w' => ∃ s x, e = .returned (.tuple #[s, .int .i64 x]) ∧ Ext v w' ∧ P (.returned (.tuple #[s, .int .i64 x])) v w') :
    Calls Tryd.prog 10 #[(.agg (lv (L))), .slice a N cap] w fun e w' => ∃ v, Ext w v ∧ Ext v w' ∧ P e v w' := by
  have EX := Ext.refl w
  have CK : ∀ v, Ext w v → Calls Tryd.prog 17 #[(.agg (lv (L)))] v fun e w' => e = .returned (.int .i64 0) ∧ Ext v w' := fun v h => by have := lcheck_any L v (TL.later h); rwa [if_pos (tlay_mayb hv).1] at this
  have t4 : (L.t == 4) = false := by simp [h5]
  have t5 : (L.t == 5) = true := by simp [h5]
  have HC : Hid (∀ v, Ext w v → Calls Tryd.prog 21 #[.slice a N cap, .int .i64 r] v fun e w' => ∃ s x, e = .returned (.tuple #[s, .int .i64 x]) ∧ Ext v w' ∧ P (.returned (.tuple #[s, .int .i64 x])) v w') := CC
  clear TL hv h5 CC
  go_enter Tryd.func10, Tryd.ntmps10; go_upto_region 1 with fail; refine rebase (G := fun w' => Code.wp _ _ _ _ w') _ (fun v1 => Ext w v1 ∧ Lm v1 (w.heap.size) (L)) ⟨by repeat (first | with_reducible exact EX |  with_reducible refine Ext.alloc ?_ _ | with_reducible refine Ext.drew ?_ | with_reducible refine Ext.drewN ?_ _ | with_reducible refine Ext.setCell ?_ (by first | (simp; done) | omega | (dsimp only; omega)) _), by repeat (first | with_reducible assumption | with_reducible refine Lm.drew ?_ | with_reducible refine Lm.drewN ?_ _ | (with_reducible refine Lm.skip ?_ ?_; focus (first | omega | (simp; done))) | with_reducible refine Lm.set0 ?_ _ | with_reducible refine Lm.set4 ?_ _ | with_reducible refine Lm.set5 ?_ _ | with_reducible refine Lm.setk ?_ _ (by decide) | (with_reducible refine Lm.cells1 ?_; exact ⟨_, by with_reducible assumption⟩) | (with_reducible refine Lm.skips ?_ _ _ ?_; focus (first | omega | (simp; done))) | (with_reducible refine Lm.new ?_ <;> first | rfl | (simp; done)) | (with_reducible refine Lm.fresh ?_ ?_ <;> first | rfl | (simp; done)) | with_reducible refine Lm.alloc ?_ _)⟩ ?_; clear EX ; rintro v1 ⟨EX, LB⟩; rename World => v; have LBc0 := LB.c0; have LBc1 := LB.c1; have LBc2 := LB.c2; have LBc3 := LB.c3; have LBc4 := LB.c4; have LBc5 := LB.c5; have LBdg := LB.dg; have LBfz := LB.fz; have LBlt := LB.lt; obtain ⟨b0, hb0⟩ : ∃ b0, w.heap.size = b0 := ⟨_, rfl⟩; rw [hb0] at LB LBc0 LBc1 LBc2 LBc3 LBc4 LBc5 LBdg LBfz LBlt ⊢; go_upto_region 4 with (first | go_skip | (refine wpList_load_lay (b0) _ rfl rfl rfl LB ?_) | (go_at_call 17; with_reducible refine (CK _ EX).mono ?_; rintro e v1 ⟨rfl, hb⟩; replace EX := Ext.trans EX hb; replace LB := LB.later hb; replace LBc0 := LB.c0; replace LBc1 := LB.c1; replace LBc2 := LB.c2; replace LBc3 := LB.c3; replace LBc4 := LB.c4; replace LBc5 := LB.c5; replace LBdg := LB.dg; replace LBfz := LB.fz; replace LBlt := LB.lt; clear hb v; rename World => v))
  have HE : Hid (Ext w v) := EX
  go_wp2_with (first | go_skip | (go_at_call 21; refine (HC.out _ HE.out).mono ?_; rintro e v1 ⟨s, x, rfl, hb, hp⟩))
  go_ret2
  exact ⟨v, HE.out, hb, hp⟩
theorem trio_any (L : Lay) (hL : L.r ≤ 9223372036854775807) (a : Option Addr) (N cap : Nat) (Q : Nat → Rcd) (w : World) (TL : LaidL w) (B : Vs w a N Q) (hcap : N ≤ cap) (hN : N ≤ 4294967296) : Calls Tryd.prog 10 #[(.agg (lv (L))), .slice a N cap] w (TrAll L Q N w) := by
  by_cases hv : tlay L = true
  · rcases (tlay_mayb hv).2 with h4 | h5
    · exact trio_four L hv h4 a N cap Q w TL B hN
    · have h2 : 2 ≤ L.r := (mayl_is (tlay_mayb hv).1).2.2.2.2.2.1 h5
      obtain ⟨r, hr⟩ : ∃ r : Nat, L.r = (r : Int) := ⟨L.r.toNat, by omega⟩
      have hrn : L.r.toNat = r := by omega
      by_cases hs : N % r ≠ 0 ∨ N / r < 2
      · refine (trio_five L hv h5 a N cap r hr (fun e _ _ => e = .returned (.tuple #[.slice none 0 0, .int .i64 5])) w TL (fun v _ => (ofrows_short a N cap r v (by omega) (by omega) hN hs).mono fun e w' h => ⟨_, _, h.1, h.2, rfl⟩)).mono ?_
        rintro e w' ⟨v, E1, E2, he⟩
        exact ⟨.slice none 0 0, 5, 0, fun _ => z3, he, E1.trans E2, Lst.nil _ _ _ _, by simp [Value.ownBlock], .inr (.inl ⟨hv, h5, by rw [hrn]; exact hs, rfl, rfl⟩)⟩
      · have h0 : N % r = 0 := Classical.byContradiction fun h => hs (.inl h)
        have h3 : 2 ≤ N / r := by have : ¬ N / r < 2 := fun h => hs (.inr h); omega
        have hm : N / r * r = N := Nat.div_mul_cancel (Nat.dvd_of_mod_eq_zero h0)
        refine (trio_five L hv h5 a N cap r hr (fun e v w' => ∃ s, e = .returned (.tuple #[s, .int .i64 0]) ∧ Lst w' 65 21 s (2 * ((N / r - 1) * (r - 1))) (fun k => tv (cellT Q r k)) ∧ ∀ b, s.ownBlock = some b → v.heap.size ≤ b) w TL
          (fun v hv' => (ofrows_good a N cap r (N / r) Q v (B.later hv') hcap (by omega) hN hm h3).mono fun e w' h => by
            obtain ⟨s, he, E, SL, ho⟩ := h
            exact ⟨s, 0, he, E, s, rfl, SL, ho⟩)).mono ?_
        rintro e w' ⟨v, E1, E2, s, he, SL, ho⟩
        exact ⟨s, 0, _, fun k => cellT Q r k, he, E1.trans E2, SL, fun b hb => Nat.le_trans E1.more (ho b hb), .inr (.inr (.inl ⟨hv, h5, by rw [hrn]; exact h0, by rw [hrn]; exact h3, rfl, by rw [hrn], fun k _ => by rw [hrn]⟩))⟩
  · have hf : tlay L = false := by simpa using hv
    refine (trio_form L hf a N cap w TL).mono ?_
    rintro e w' ⟨he, E⟩
    exact ⟨.slice none 0 0, 4, 0, fun _ => z3, he, E, Lst.nil _ _ _ _, by simp [Value.ownBlock], .inl ⟨hf, rfl, rfl⟩⟩
/-- The chapter's answers. -/
theorem lives10_is (w : World) (TL : LaidL w) : Calls Tryd.prog 8 #[] w fun e w' => e = .returned (.bool true) ∧ Ext w w' :=
  lives10_any w (fun L hL a cap N Q v h V hc hN => trio_any L hL a N cap Q v (TL.later h) V hc (by omega))
end Go.Proofs.YthlhmfjopjikpaaDoor
