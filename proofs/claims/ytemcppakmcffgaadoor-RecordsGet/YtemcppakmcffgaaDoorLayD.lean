/- What the given reference of layouts does: Size, of a layout that may be. -/
import Derived.Test.YtemcppakmcffgaaDoorLayC
namespace Go.Proofs.YtemcppakmcffgaaDoor
open Go.RowKit Go.BigFrame
set_option linter.unusedSimpArgs false
set_option linter.unusedVariables false

theorem up8 {z0 z : Int} {k : Nat} (h0 : 0 ≤ z0) (h1 : z = z0 + k) (h2 : z ≤ z0 + 7 - (z0 + 7) % 8) (h3 : z % 8 = 0) : z / 8 = (z0 + 7) / 8 := by
  omega
set_option maxHeartbeats 4000000 in
theorem rsize_good (L : Lay) (u : Int) (hu : 0 ≤ u ∧ u < 256) (hm : mayl L = true) (w : World) : Calls Tryd.prog 27 #[(.agg (lv (L))), .int .u8 u] w fun e w' => e = .returned (.int .i64 ((lbits L u + 7) / 8)) ∧ Ext w w' := by
  have EX := Ext.refl w
  have CK := fun w => rcheck_any L w
  rw [hm] at CK
  simp only [if_true] at CK
  have PT := fun w => rparts_any L u hu w
  have FL := fun w => rflag_any L w
  obtain ⟨p1, p2, p3, p4, p5, p6, p7, p8, p9, p10⟩ := parts_bd hm u
  have hlb : Hid (lbits L u = flg L + pts L u * (2 * L.c) + cols L u * (L.n * L.p)) := rfl
  obtain ⟨hm1, hm2, hm3, hm4, hm5, _, _⟩ := mayl_is hm
  have q1 : 1 ≤ L.p ∧ L.p ≤ 16 := by omega
  clear hm1 hm2 hm3 hm
  generalize flg L = fl at *
  generalize lbits L u = lb at *
  obtain ⟨p, hp⟩ : ∃ p : Nat, pts L u = p := ⟨(pts L u).toNat, by omega⟩
  obtain ⟨c, hc⟩ : ∃ c : Nat, cols L u = c := ⟨(cols L u).toNat, by omega⟩
  rw [hp, hc] at PT hlb
  rw [hp] at p1 p2
  rw [hc] at p3 p4
  clear hp hc hu
  go_enter Tryd.func27, Tryd.ntmps27
  go_upto_region 1 with fail
  refine rebase (G := fun w' => Code.wp _ _ _ _ w') _ (fun v1 => Ext w v1 ∧ Lm v1 (w.heap.size) (L)) ⟨by repeat (first | with_reducible exact EX |  with_reducible refine Ext.alloc ?_ _ | with_reducible refine Ext.drew ?_ | with_reducible refine Ext.drewN ?_ _ | with_reducible refine Ext.setCell ?_ (by first | (simp; done) | omega | (dsimp only; omega)) _), by repeat (first | with_reducible assumption | with_reducible refine Lm.drew ?_ | with_reducible refine Lm.drewN ?_ _ | (with_reducible refine Lm.skip ?_ ?_; focus (first | omega | (simp; done))) | with_reducible refine Lm.set0 ?_ _ | with_reducible refine Lm.set4 ?_ _ | with_reducible refine Lm.set5 ?_ _ | with_reducible refine Lm.setk ?_ _ (by decide) | (with_reducible refine Lm.cells1 ?_; exact ⟨_, by with_reducible assumption⟩) | (with_reducible refine Lm.skips ?_ _ _ ?_; focus (first | omega | (simp; done))) | (with_reducible refine Lm.new ?_ <;> first | rfl | (simp; done)) | (with_reducible refine Lm.fresh ?_ ?_ <;> first | rfl | (simp; done)) | with_reducible refine Lm.alloc ?_ _)⟩ ?_; clear EX ; rintro v1 ⟨EX, LB⟩; rename World => v; have LBc0 := LB.c0; have LBc1 := LB.c1; have LBc2 := LB.c2; have LBc3 := LB.c3; have LBc4 := LB.c4; have LBc5 := LB.c5; have LBdg := LB.dg; have LBfz := LB.fz; have LBlt := LB.lt
  generalize w.heap.size = b0 at *
  go_wp2_with (first | (refine wpList_load_lay (b0) _ rfl rfl rfl LB ?_) | (go_at_call 86; with_reducible refine (CK _).mono ?_; rintro e v1 ⟨rfl, hb⟩; replace EX := Ext.trans EX hb; replace LB := LB.later hb; replace LBc0 := LB.c0; replace LBc1 := LB.c1; replace LBc2 := LB.c2; replace LBc3 := LB.c3; replace LBc4 := LB.c4; replace LBc5 := LB.c5; replace LBdg := LB.dg; replace LBfz := LB.fz; replace LBlt := LB.lt; clear hb v; rename World => v) | (go_at_call 87; with_reducible refine (PT _).mono ?_; rintro e v1 ⟨rfl, hb⟩; replace EX := Ext.trans EX hb; replace LB := LB.later hb; replace LBc0 := LB.c0; replace LBc1 := LB.c1; replace LBc2 := LB.c2; replace LBc3 := LB.c3; replace LBc4 := LB.c4; replace LBc5 := LB.c5; replace LBdg := LB.dg; replace LBfz := LB.fz; replace LBlt := LB.lt; clear hb v; rename World => v) | (go_at_call 29; with_reducible refine (FL _).mono ?_; rintro e v1 ⟨rfl, hb⟩; replace EX := Ext.trans EX hb; replace LB := LB.later hb; replace LBc0 := LB.c0; replace LBc1 := LB.c1; replace LBc2 := LB.c2; replace LBc3 := LB.c3; replace LBc4 := LB.c4; replace LBc5 := LB.c5; replace LBdg := LB.dg; replace LBfz := LB.fz; replace LBlt := LB.lt; clear hb v; rename World => v))
  go_loopg [7, 8] p (fun gk bv iv wr => ∃ (k : Nat) (z : Int), k + gk = p ∧ iv = .int .i64 k ∧ bv = .int .i64 z ∧ 0 ≤ z ∧ z ≤ 8 + 64 * (k : Int) ∧ Hid (z = fl + (k : Int) * (2 * L.c)) ∧ Ext w wr ∧ Lm wr (b0) (L))
  case atStart => exact ⟨0, fl, by omega, rfl, rfl, by omega, by omega, by simp [Hid], EX, LB⟩
  case round =>
    obtain ⟨k, z, hk, rfl, rfl, hz0, hz1, hz, EX, LB⟩ := hrel
    have LBc0 := LB.c0; have LBc1 := LB.c1; have LBc2 := LB.c2; have LBc3 := LB.c3; have LBc4 := LB.c4; have LBc5 := LB.c5; have LBdg := LB.dg; have LBfz := LB.fz; have LBlt := LB.lt
    by_cases hlt : k < p
    · have hki : (k : Int) < (p : Int) := by omega
      go_wp2
      go_roundg (gk - 1)
      case measure => omega
      case rel =>
        refine ⟨k + 1, z + L.c + L.c, by omega, by go_num, rfl, by omega, by push_cast; omega, ?_, EX, LB⟩
        have := hz.out
        show _ = _
        rw [this]; push_cast
        grind
    · have hki : ¬ ((k : Int) < (p : Int)) := by omega
      have hkp : k = p := by omega
      subst hkp
      have hz2 := hz.out
      obtain ⟨z0, hz0'⟩ : ∃ z0, z = z0 := ⟨_, rfl⟩
      subst hz0'
      have hlb2 : Hid (lb = z + (c : Int) * (L.n * L.p)) := by have := hlb.out; show _ = _; rw [this, hz2]
      have hz3 : z ≤ 1032 := by omega
      clear hz hz1 hz2 hlb
      go_wp2
      go_loopg [7, 9] c (fun gk bv iv wr => ∃ (j : Nat) (y : Int), j + gk = c ∧ iv = .int .i64 j ∧ bv = .int .i64 y ∧ 0 ≤ y ∧ y ≤ 1032 + 64 * (j : Int) ∧ Hid (y = z + (j : Int) * (L.n * L.p)) ∧ Ext w wr ∧ Lm wr (b0) (L))
      case atStart => exact ⟨0, z, by omega, rfl, rfl, by omega, by omega, by simp [Hid], EX, LB⟩
      case round =>
        obtain ⟨j, y, hj, rfl, rfl, hy0, hy1, hy, EX, LB⟩ := hrel
        have LBc0 := LB.c0; have LBc1 := LB.c1; have LBc2 := LB.c2; have LBc3 := LB.c3; have LBc4 := LB.c4; have LBc5 := LB.c5; have LBdg := LB.dg; have LBfz := LB.fz; have LBlt := LB.lt
        by_cases hlt : j < c
        · have hki : (j : Int) < (c : Int) := by omega
          go_wp2
          go_roundg (gk - 1)
          case measure => omega
          case rel =>
            refine ⟨j + 1, y + L.n * L.p, by omega, by go_num, rfl, by omega, by push_cast; omega, ?_, EX, LB⟩
            have := hy.out
            show _ = _
            rw [this]; push_cast
            grind
        · have hki : ¬ ((j : Int) < (c : Int)) := by omega
          have hjc : j = c := by omega
          subst hjc
          have hy2 : lb = y := by rw [hlb2.out, hy.out]
          have hy3 : y ≤ 1288 := by omega
          subst hy2
          clear hy hy1 hlb2
          go_wp2
          go_loopg [7] 8 (fun gk bv wr => ∃ (k : Nat), k + gk = 8 ∧ bv = .int .i64 (lb + k) ∧ Hid (lb + k ≤ lb + 7 - (lb + 7) % 8) ∧ Ext w wr)
          case atStart => exact ⟨0, by omega, by simp, by show _ ≤ _; omega, EX⟩
          case round =>
            obtain ⟨k, hk, rfl, hq, EX⟩ := hrel
            by_cases hlt : ((lb + (k : Int)) % 8 == 0) = true
            · have hn : ((lb + (k : Int)) % 8 != 0) = false := by simpa [bne] using hlt
              go_wp2
              go_ret
              have e : (lb + (k : Int)) % 8 = 0 := by simpa using hlt
              exact ⟨by rw [← up8 hy0 rfl hq.out e]; rfl, EX⟩
            · have hlt : ((lb + (k : Int)) % 8 == 0) = false := by simpa using hlt
              have hn : ((lb + (k : Int)) % 8 != 0) = true := by simp [bne, hlt]
              have e : ¬ (lb + (k : Int)) % 8 = 0 := by simpa using hlt
              have hq2 := hq.out
              have hk7 : k < 7 := by omega
              clear hq
              go_wp2
              go_roundg (gk - 1)
              case measure => omega
              case rel => exact ⟨k + 1, by omega, by go_num, by show _ ≤ _; push_cast; omega, EX⟩
theorem rsize_any (L : Lay) (u : Int) (hu : 0 ≤ u ∧ u < 256) (w : World) : Calls Tryd.prog 27 #[(.agg (lv (L))), .int .u8 u] w fun e w' => e = .returned (.int .i64 (lsize L u)) ∧ Ext w w' := by
  unfold lsize
  cases hm : mayl L
  · exact rsize_bad L u hm w
  · exact rsize_good L u hu hm w
end Go.Proofs.YtemcppakmcffgaaDoor
