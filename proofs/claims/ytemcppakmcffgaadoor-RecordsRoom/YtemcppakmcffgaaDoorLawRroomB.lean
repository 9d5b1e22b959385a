/- The law RecordsRoom: where nothing is asked; both together. -/
import Derived.Test.YtemcppakmcffgaaDoorLawRroom
namespace Go.Proofs.YtemcppakmcffgaaDoor
open Go.RowKit Go.BigFrame
set_option linter.unusedSimpArgs false
set_option linter.unusedVariables false
set_option maxRecDepth 20000


set_option maxHeartbeats 8000000 in
theorem rroom_no (L : Lay) (a : Option Addr) (N cap : Nat) (z0 z1 : Int) (w : World) (TL : LaidL w) (h : ¬ (vlay L = true ∧ N ≤ 100 ∧ 1 ≤ N ∧ (L.t = 5 → 0 ≤ L.f ∧ L.f ≤ 60))) :
    Calls Tryd.prog 7 #[(.agg (lv (L))), .slice a N cap, .agg #[.int .u8 z0, .int .u8 z1]] w fun e w' => e = .returned (.bool true) ∧ Ext w w' := by
  have EX := Ext.refl w
  obtain ⟨y, hy⟩ : ∃ y : Int, (if mayl L = true then 0 else 4) = y := ⟨_, rfl⟩
  have CK : ∀ v, Ext w v → Calls Tryd.prog 17 #[(.agg (lv (L)))] v fun e w' => e = .returned (.int .i64 y) ∧ Ext v w' := fun v h => by have := lcheck_any L v (TL.later h); rwa [hy] at this
  have hc : (y != 0) = true ∨ (y = 0 ∧ decide ((5 : Int) < L.t) = true) ∨ (y = 0 ∧ decide ((5 : Int) < L.t) = false ∧ decide ((100 : Int) < (N : Int)) = true) ∨ (y = 0 ∧ decide ((5 : Int) < L.t) = false ∧ decide ((100 : Int) < (N : Int)) = false ∧ ((N : Int) == 0) = true) ∨
      (y = 0 ∧ decide ((5 : Int) < L.t) = false ∧ decide ((100 : Int) < (N : Int)) = false ∧ ((N : Int) == 0) = false ∧ (L.t == 5) = true ∧ decide (L.f < 0) = true) ∨ (y = 0 ∧ decide ((5 : Int) < L.t) = false ∧ decide ((100 : Int) < (N : Int)) = false ∧ ((N : Int) == 0) = false ∧ (L.t == 5) = true ∧ decide (L.f < 0) = false ∧ decide ((60 : Int) < L.f) = true) := by
    by_cases hm : mayl L = true
    · have y0 : y = 0 := by rw [← hy, if_pos hm]
      have m1 := (mayl_is hm).1
      by_cases h5 : (5 : Int) < L.t
      · exact .inr (.inl ⟨y0, decide_eq_true h5⟩)
      · have hv : vlay L = true := by unfold vlay; rw [hm]; simp; omega
        by_cases hN : (100 : Int) < (N : Int)
        · exact .inr (.inr (.inl ⟨y0, decide_eq_false h5, decide_eq_true hN⟩))
        · by_cases hN1 : N = 0
          · exact .inr (.inr (.inr (.inl ⟨y0, decide_eq_false h5, decide_eq_false hN, by simp [hN1]⟩)))
          · have nn : ((N : Int) == 0) = false := by simp; omega
            have h55 : ¬ (L.t = 5 → 0 ≤ L.f ∧ L.f ≤ 60) := fun hh => h ⟨hv, by omega, by omega, hh⟩
            have t5 : L.t = 5 := Classical.byContradiction fun hn => h55 fun e => absurd e hn
            have hf : ¬ (0 ≤ L.f ∧ L.f ≤ 60) := fun hh => h55 fun _ => hh
            by_cases hf0 : L.f < 0
            · exact .inr (.inr (.inr (.inr (.inl ⟨y0, decide_eq_false h5, decide_eq_false hN, nn, by simp [t5], decide_eq_true hf0⟩))))
            · exact .inr (.inr (.inr (.inr (.inr ⟨y0, decide_eq_false h5, decide_eq_false hN, nn, by simp [t5], decide_eq_false hf0, decide_eq_true (by omega)⟩))))
    · exact .inl (by rw [← hy, if_neg hm]; decide)
  clear h hy
  rcases hc with y1 | ⟨rfl, t5⟩ | ⟨rfl, t5, n4⟩ | ⟨rfl, t5, n4, n5⟩ | ⟨rfl, t5, n4, n5, r1, r2⟩ | ⟨rfl, t5, n4, n5, r1, r2, r3⟩
  all_goals
    go_enter Tryd.func7, Tryd.ntmps7
    go_upto_region 1 with fail
    refine rebase (G := fun w' => Code.wp _ _ _ _ w') _ (fun v => Ext w v ∧ Lm v (w.heap.size) (L)) ⟨(EX.alloc _).alloc _, (Lm.new rfl).alloc _⟩ ?_
    obtain ⟨b0, hb0⟩ : ∃ b0, w.heap.size = b0 := ⟨_, rfl⟩
    rw [hb0]
    clear EX
    rintro v ⟨EX, LB⟩
    have LBc0 := LB.c0; have LBc1 := LB.c1; have LBc2 := LB.c2; have LBc3 := LB.c3; have LBc4 := LB.c4; have LBc5 := LB.c5; have LBdg := LB.dg; have LBfz := LB.fz; have LBlt := LB.lt
    go_wp2_with (first | go_skip | (refine wpList_load_layh (b0) _ rfl rfl LB rfl ?_) | (go_at_call 17; with_reducible refine (CK _ EX).mono ?_; rintro e v1 ⟨rfl, hb⟩; replace EX := Ext.trans EX hb; replace LB := LB.later hb; replace LBc0 := LB.c0; replace LBc1 := LB.c1; replace LBc2 := LB.c2; replace LBc3 := LB.c3; replace LBc4 := LB.c4; replace LBc5 := LB.c5; replace LBdg := LB.dg; replace LBfz := LB.fz; replace LBlt := LB.lt; clear hb v; rename World => v) | (go_at_call 8; with_reducible refine (lives9_any _ (TL.later EX)).mono ?_; rintro e v1 ⟨rfl, hb⟩; replace EX := Ext.trans EX hb; clear hb))
    go_ret
    exact ⟨rfl, EX⟩
theorem rroom_law (L : Lay) (a : Option Addr) (cap : Nat) (Q : Nat → Rcd) (N : Nat) (z0 z1 : Int) (hz0 : 0 ≤ z0 ∧ z0 ≤ 255) (hz1 : 0 ≤ z1 ∧ z1 ≤ 255) (w : World) (TL : LaidL w) (B : Vs w a N Q) :
    Calls Tryd.prog 7 #[(.agg (lv (L))), .slice a N cap, .agg #[.int .u8 z0, .int .u8 z1]] w fun e w' => e = .returned (.bool true) ∧ Ext w w' := by
  by_cases h : vlay L = true ∧ N ≤ 100 ∧ 1 ≤ N ∧ (L.t = 5 → 0 ≤ L.f ∧ L.f ≤ 60)
  · obtain ⟨hv, hN, hN1, h5⟩ := h
    obtain ⟨fl, c, p, n, sz, V⟩ := vl_of hv
    exact rroom_yes L fl c p n sz N V h5 a cap Q z0 z1 hz0 hz1 w TL B hN hN1
  · exact rroom_no L a N cap z0 z1 w TL h
end Go.Proofs.YtemcppakmcffgaaDoor
