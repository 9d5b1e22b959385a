/- What the given reference's Put of records does where it refuses. -/
import Derived.Test.YtemcppakmcffgaaGreatDoorRecQ
namespace Go.Proofs.YtemcppakmcffgaaGreatDoor
open Go.RowKit Go.BigFrame
set_option linter.unusedSimpArgs false
set_option linter.unusedVariables false

set_option maxRecDepth 20000 in
theorem rput9_form (L : Lay) (hv : vlay L = false) (a : Option Addr) (len cap : Nat) (w : World) :
    Calls Tryz.prog 7 #[(.agg (lv (L))), .slice a len cap] w fun e w' => e = .returned (.tuple #[.slice none 0 0, .int .i64 4]) ∧ Ext w w' := by
  have EX := Ext.refl w
  have CK := fun v => rcheck9_any L v
  rw [hv] at CK
  go_enter Tryz.func7, Tryz.ntmps7
  go_upto_region 1 with fail
  refine rebase (G := fun w' => Code.wp _ _ _ _ w') _ (fun v1 => Ext w v1 ∧ Lm v1 (w.heap.size) (L)) ⟨by repeat (first | with_reducible exact EX |  with_reducible refine Ext.alloc ?_ _ | with_reducible refine Ext.drew ?_ | with_reducible refine Ext.drewN ?_ _ | with_reducible refine Ext.setCell ?_ (by first | (simp; done) | omega | (dsimp only; omega)) _), by repeat (first | with_reducible assumption | with_reducible refine Lm.drew ?_ | with_reducible refine Lm.drewN ?_ _ | (with_reducible refine Lm.skip ?_ ?_; focus (first | omega | (simp; done))) | with_reducible refine Lm.set0 ?_ _ | with_reducible refine Lm.set4 ?_ _ | with_reducible refine Lm.set5 ?_ _ | with_reducible refine Lm.setk ?_ _ (by decide) | (with_reducible refine Lm.cells1 ?_; exact ⟨_, by with_reducible assumption⟩) | (with_reducible refine Lm.skips ?_ _ _ ?_; focus (first | omega | (simp; done))) | (with_reducible refine Lm.new ?_ <;> first | rfl | (simp; done)) | (with_reducible refine Lm.fresh ?_ ?_ <;> first | rfl | (simp; done)) | with_reducible refine Lm.alloc ?_ _)⟩ ?_; clear EX ; rintro v1 ⟨EX, LB⟩; rename World => v; have LBc0 := LB.c0; have LBc1 := LB.c1; have LBc2 := LB.c2; have LBc3 := LB.c3; have LBc4 := LB.c4; have LBc5 := LB.c5; have LBdg := LB.dg; have LBfz := LB.fz; have LBlt := LB.lt
  go_wp2_with (first | (refine wpList_load_lay (w.heap.size) _ rfl rfl rfl LB ?_) | (go_at_call 25; with_reducible refine (CK _).mono ?_; rintro e v1 ⟨rfl, hb⟩; replace EX := Ext.trans EX hb; replace LB := LB.later hb; replace LBc0 := LB.c0; replace LBc1 := LB.c1; replace LBc2 := LB.c2; replace LBc3 := LB.c3; replace LBc4 := LB.c4; replace LBc5 := LB.c5; replace LBdg := LB.dg; replace LBfz := LB.fz; replace LBlt := LB.lt; clear hb v; rename World => v))
  go_ret2
  exact ⟨rfl, EX⟩
set_option maxRecDepth 20000 in
set_option maxHeartbeats 8000000 in
theorem rput9_arg (L : Lay) (fl c p n sz N : Nat) (V : Vl L fl c p n sz) (a : Option Addr) (cap : Nat) (R : Nat → Rcd) (w : World) (B : Vs w a N R) (hbad : ¬ ∀ i, i < N → Room fl c p n (R i)) :
    Calls Tryz.prog 7 #[(.agg (lv (L))), .slice a N cap] w fun e w' => e = .returned (.tuple #[.slice none 0 0, .int .i64 1]) ∧ Ext w w' := by
  have EX := Ext.refl w
  have CK := fun v => rcheck9_any L v
  rw [V.may] at CK
  have FG := fun v => rflag_any L v
  rw [V.ef] at FG
  have hc1 := V.ec
  have hp1 := V.ep
  have hn1 := V.en
  have HB : Hid (Vs w a N R) := B
  have HBD : Hid (¬ ∀ i, i < N → Room fl c p n (R i)) := hbad
  have hNl := B.es.len
  have f8 := V.f8
  have c32 := V.c1
  have p16 := V.p1
  have n4 := V.n1
  clear V B hbad
  go_enter Tryz.func7, Tryz.ntmps7
  go_upto_region 1 with fail
  refine rebase (G := fun w' => Code.wp _ _ _ _ w') _ (fun v1 => Ext w v1 ∧ Lm v1 (w.heap.size) (L)) ⟨by repeat (first | with_reducible exact EX |  with_reducible refine Ext.alloc ?_ _ | with_reducible refine Ext.drew ?_ | with_reducible refine Ext.drewN ?_ _ | with_reducible refine Ext.setCell ?_ (by first | (simp; done) | omega | (dsimp only; omega)) _), by repeat (first | with_reducible assumption | with_reducible refine Lm.drew ?_ | with_reducible refine Lm.drewN ?_ _ | (with_reducible refine Lm.skip ?_ ?_; focus (first | omega | (simp; done))) | with_reducible refine Lm.set0 ?_ _ | with_reducible refine Lm.set4 ?_ _ | with_reducible refine Lm.set5 ?_ _ | with_reducible refine Lm.setk ?_ _ (by decide) | (with_reducible refine Lm.cells1 ?_; exact ⟨_, by with_reducible assumption⟩) | (with_reducible refine Lm.skips ?_ _ _ ?_; focus (first | omega | (simp; done))) | (with_reducible refine Lm.new ?_ <;> first | rfl | (simp; done)) | (with_reducible refine Lm.fresh ?_ ?_ <;> first | rfl | (simp; done)) | with_reducible refine Lm.alloc ?_ _)⟩ ?_; clear EX ; rintro v1 ⟨EX, LB⟩; rename World => v; have LBc0 := LB.c0; have LBc1 := LB.c1; have LBc2 := LB.c2; have LBc3 := LB.c3; have LBc4 := LB.c4; have LBc5 := LB.c5; have LBdg := LB.dg; have LBfz := LB.fz; have LBlt := LB.lt
  obtain ⟨b0, hb0⟩ : ∃ b0, w.heap.size = b0 := ⟨_, rfl⟩
  rw [hb0] at LB LBc0 LBc1 LBc2 LBc3 LBc4 LBc5 LBdg LBfz LBlt ⊢
  go_upto_region 4 with (first | (refine wpList_load_lay (b0) _ rfl rfl rfl LB ?_) | (go_at_call 25; with_reducible refine (CK _).mono ?_; rintro e v1 ⟨rfl, hb⟩; replace EX := Ext.trans EX hb; replace LB := LB.later hb; replace LBc0 := LB.c0; replace LBc1 := LB.c1; replace LBc2 := LB.c2; replace LBc3 := LB.c3; replace LBc4 := LB.c4; replace LBc5 := LB.c5; replace LBdg := LB.dg; replace LBfz := LB.fz; replace LBlt := LB.lt; clear hb v; rename World => v))
  go_loopg [6] N (fun gk iv wr => ∃ i : Nat, i + gk = N ∧ iv = .int .i64 i ∧ Ext w wr ∧ Lm wr (b0) (L) ∧ Hid (∀ j, j < i → Room fl c p n (R j)))
  case atStart => exact ⟨0, by omega, rfl, EX, LB, fun j hj => by omega⟩
  case round =>
    clear LBc0 LBc1 LBc2 LBc3 LBc4 LBc5 LBdg LBfz LBlt
    clear EX LB v
    obtain ⟨i, hi, rfl, EX, LB, HSO⟩ := hrel
    obtain ⟨v, hv⟩ : ∃ v, v = wr := ⟨_, rfl⟩
    subst hv
    have LBc0 := LB.c0; have LBc1 := LB.c1; have LBc2 := LB.c2; have LBc3 := LB.c3; have LBc4 := LB.c4; have LBc5 := LB.c5; have LBdg := LB.dg; have LBfz := LB.fz; have LBlt := LB.lt
    obtain ⟨gko, hgko⟩ : ∃ x, x = gk := ⟨_, rfl⟩
    subst hgko
    by_cases hlt : i < N
    · have hii : (i : Int) < (N : Int) := by omega
      obtain ⟨b, o, rfl, hr⟩ := HB.out.es.form (by omega)
      have RX := range_later (hr i hlt) EX
      have bf := HB.out.f i hlt
      have bx := HB.out.x i hlt
      have by' := HB.out.y i hlt
      have bc := fun k (hk : k < 4) => HB.out.c i k hlt hk
      clear hr
      have TH : (v.alloc (.cells #[.int .u8 0, .int .u32 0, .int .u32 0, .int .u16 0, .int .u16 0, .int .u16 0, .int .u16 0] 62)).there v.heap.size 0 7 := there_new 7 rfl
      have HNX : Hid (Room fl c p n (R i) → ∀ j, j < i + 1 → Room fl c p n (R j)) := fun h j hj => by
        by_cases e : j = i
        · subst e; exact h
        · exact HSO.out j (by omega)
      clear HSO
      generalize hRi : R i = Q at *
      have one7 : ∀ u ∈ vl 7 (rv Q), u.oneCell' = true := rv_one Q
      obtain ⟨g, hg⟩ : ∃ g, rv Q = g := ⟨_, rfl⟩
      rw [hg] at RX one7
      go_upto_region 7 with (first | (refine wpList_load_mid rfl 62 (.tmp 24) rfl b (o + i * 7) rfl (vl 7 g) _ RX Tryz.underlying62 rfl (by rw [vl_len]; kernel_rfl) ?_) | (refine wpList_store_vl rfl 62 (.tmp 7) (.tmp 25) rfl v.heap.size 0 7 g rfl rfl ?th size_recQ one7 ?_))
      case th => exact TH
      simp only [Act.put]
      have qb : b0 < v.heap.size := LBlt
      refine rebase (G := fun w' => Code.wp _ _ _ _ w') _ (fun v1 => Ext w v1 ∧ Lm v1 (b0) (L) ∧ Vm v1 v.heap.size 7 g) ⟨Ext.setCells' (EX.alloc _) _ EX.more _ _, (LB.alloc _).skips (by omega) _ _, Vm.fresh (by decide) rfl rfl⟩ ?_
      obtain ⟨b1, hb1⟩ : ∃ b, v.heap.size = b := ⟨_, rfl⟩
      rw [hb1] at qb ⊢
      clear LBc0 LBc1 LBc2 LBc3 LBc4 LBc5 LBdg LBfz LBlt
      clear EX LB RX TH hb1 one7 v
      rintro v ⟨EX, LB, XV⟩
      subst hg
      have XB := XV.s7
      clear XV hRi
      obtain ⟨F, X, Y, C⟩ := Q
      dsimp only at XB bf bx by' bc
      have LBc0 := LB.c0; have LBc1 := LB.c1; have LBc2 := LB.c2; have LBc3 := LB.c3; have LBc4 := LB.c4; have LBc5 := LB.c5; have LBdg := LB.dg; have LBfz := LB.fz; have LBlt := LB.lt; have XBc0 := XB.c0; have XBc1 := XB.c1; have XBc2 := XB.c2; have XBc3 := XB.c3; have XBc4 := XB.c4; have XBc5 := XB.c5; have XBc6 := XB.c6; have XBfz := XB.fz; have XBlt := XB.lt
      have FT1 := fun v => fits9_any F fl (by omega) (by omega) v
      have FT2 := fun v => fits9_any X c bx (by omega) v
      have FT3 := fun v => fits9_any Y c by' (by omega) v
      by_cases hF : F < 2 ^ fl
      case neg =>
        rw [decide_eq_false hF] at FT1
        clear FT2 FT3 hF HNX
        have gLBc0 := fun x' : Grow v => (LB.later x'.ext).c0; have gLBc1 := fun x' : Grow v => (LB.later x'.ext).c1; have gLBc2 := fun x' : Grow v => (LB.later x'.ext).c2; have gLBc3 := fun x' : Grow v => (LB.later x'.ext).c3; have gLBc4 := fun x' : Grow v => (LB.later x'.ext).c4; have gLBc5 := fun x' : Grow v => (LB.later x'.ext).c5; have gLBdg := fun x' : Grow v => (LB.later x'.ext).dg; have gLBfz := fun x' : Grow v => (LB.later x'.ext).fz; have gLBlt := fun x' : Grow v => (LB.later x'.ext).lt; have gXBc0 := fun x' : Grow v => (XB.later x'.ext).c0; have gXBc1 := fun x' : Grow v => (XB.later x'.ext).c1; have gXBc2 := fun x' : Grow v => (XB.later x'.ext).c2; have gXBc3 := fun x' : Grow v => (XB.later x'.ext).c3; have gXBc4 := fun x' : Grow v => (XB.later x'.ext).c4; have gXBc5 := fun x' : Grow v => (XB.later x'.ext).c5; have gXBc6 := fun x' : Grow v => (XB.later x'.ext).c6; have gXBfz := fun x' : Grow v => (XB.later x'.ext).fz; have gXBlt := fun x' : Grow v => (XB.later x'.ext).lt; refine wp_region_grow (by kernel_rfl) (by kernel_rfl) ?_; (repeat (first | (go_big_quiet_want; refine quiet_load_lay _ (b0) rfl rfl (by rintro _ ⟨x', rfl⟩; exact LB.later x'.ext) ?_; simp only [Act.put, List.setIfInBounds_toArray, List.set_cons_succ, List.set_cons_zero]; go_big_quiet_on) | go_big_quiet_step ((go_at_call 27; with_reducible exact calls_grow (FG _))) | go_big_quiet_step ((go_at_call 26; with_reducible exact calls_grow (FT1 _))) | go_big_quiet_step (fail))); refine wpQuiet_nil ?_; clear gLBc0 gLBc1 gLBc2 gLBc3 gLBc4 gLBc5 gLBdg gLBfz gLBlt gXBc0 gXBc1 gXBc2 gXBc3 gXBc4 gXBc5 gXBc6 gXBfz gXBlt; rintro _ ⟨xq, rfl⟩; replace EX := Ext.trans EX xq.ext; replace LB := LB.later xq.ext; replace XB := XB.later xq.ext; replace LBc0 := LB.c0; replace LBc1 := LB.c1; replace LBc2 := LB.c2; replace LBc3 := LB.c3; replace LBc4 := LB.c4; replace LBc5 := LB.c5; replace LBdg := LB.dg; replace LBfz := LB.fz; replace LBlt := LB.lt; replace XBc0 := XB.c0; replace XBc1 := XB.c1; replace XBc2 := XB.c2; replace XBc3 := XB.c3; replace XBc4 := XB.c4; replace XBc5 := XB.c5; replace XBc6 := XB.c6; replace XBfz := XB.fz; replace XBlt := XB.lt; generalize xq.out = v1 at *; clear xq v; rename World => v
        go_wp2
        go_ret2
        exact ⟨rfl, EX⟩
      rw [decide_eq_true hF] at FT1
      by_cases hX : X < 2 ^ c
      case neg =>
        rw [decide_eq_false hX] at FT2
        clear FT3 hF hX HNX
        have gLBc0 := fun x' : Grow v => (LB.later x'.ext).c0; have gLBc1 := fun x' : Grow v => (LB.later x'.ext).c1; have gLBc2 := fun x' : Grow v => (LB.later x'.ext).c2; have gLBc3 := fun x' : Grow v => (LB.later x'.ext).c3; have gLBc4 := fun x' : Grow v => (LB.later x'.ext).c4; have gLBc5 := fun x' : Grow v => (LB.later x'.ext).c5; have gLBdg := fun x' : Grow v => (LB.later x'.ext).dg; have gLBfz := fun x' : Grow v => (LB.later x'.ext).fz; have gLBlt := fun x' : Grow v => (LB.later x'.ext).lt; have gXBc0 := fun x' : Grow v => (XB.later x'.ext).c0; have gXBc1 := fun x' : Grow v => (XB.later x'.ext).c1; have gXBc2 := fun x' : Grow v => (XB.later x'.ext).c2; have gXBc3 := fun x' : Grow v => (XB.later x'.ext).c3; have gXBc4 := fun x' : Grow v => (XB.later x'.ext).c4; have gXBc5 := fun x' : Grow v => (XB.later x'.ext).c5; have gXBc6 := fun x' : Grow v => (XB.later x'.ext).c6; have gXBfz := fun x' : Grow v => (XB.later x'.ext).fz; have gXBlt := fun x' : Grow v => (XB.later x'.ext).lt; refine wp_region_grow (by kernel_rfl) (by kernel_rfl) ?_; (repeat (first | (go_big_quiet_want; refine quiet_load_lay _ (b0) rfl rfl (by rintro _ ⟨x', rfl⟩; exact LB.later x'.ext) ?_; simp only [Act.put, List.setIfInBounds_toArray, List.set_cons_succ, List.set_cons_zero]; go_big_quiet_on) | go_big_quiet_step ((go_at_call 27; with_reducible exact calls_grow (FG _))) | go_big_quiet_step ((go_at_call 26; with_reducible exact calls_grow (FT1 _))) | go_big_quiet_step ((go_at_call 26; with_reducible exact calls_grow (FT2 _))) | go_big_quiet_step (fail))); refine wpQuiet_nil ?_; clear gLBc0 gLBc1 gLBc2 gLBc3 gLBc4 gLBc5 gLBdg gLBfz gLBlt gXBc0 gXBc1 gXBc2 gXBc3 gXBc4 gXBc5 gXBc6 gXBfz gXBlt; rintro _ ⟨xq, rfl⟩; replace EX := Ext.trans EX xq.ext; replace LB := LB.later xq.ext; replace XB := XB.later xq.ext; replace LBc0 := LB.c0; replace LBc1 := LB.c1; replace LBc2 := LB.c2; replace LBc3 := LB.c3; replace LBc4 := LB.c4; replace LBc5 := LB.c5; replace LBdg := LB.dg; replace LBfz := LB.fz; replace LBlt := LB.lt; replace XBc0 := XB.c0; replace XBc1 := XB.c1; replace XBc2 := XB.c2; replace XBc3 := XB.c3; replace XBc4 := XB.c4; replace XBc5 := XB.c5; replace XBc6 := XB.c6; replace XBfz := XB.fz; replace XBlt := XB.lt; generalize xq.out = v1 at *; clear xq v; rename World => v
        go_wp2
        go_ret2
        exact ⟨rfl, EX⟩
      rw [decide_eq_true hX] at FT2
      by_cases hY : Y < 2 ^ c
      case neg =>
        rw [decide_eq_false hY] at FT3
        clear hF hX hY HNX
        have gLBc0 := fun x' : Grow v => (LB.later x'.ext).c0; have gLBc1 := fun x' : Grow v => (LB.later x'.ext).c1; have gLBc2 := fun x' : Grow v => (LB.later x'.ext).c2; have gLBc3 := fun x' : Grow v => (LB.later x'.ext).c3; have gLBc4 := fun x' : Grow v => (LB.later x'.ext).c4; have gLBc5 := fun x' : Grow v => (LB.later x'.ext).c5; have gLBdg := fun x' : Grow v => (LB.later x'.ext).dg; have gLBfz := fun x' : Grow v => (LB.later x'.ext).fz; have gLBlt := fun x' : Grow v => (LB.later x'.ext).lt; have gXBc0 := fun x' : Grow v => (XB.later x'.ext).c0; have gXBc1 := fun x' : Grow v => (XB.later x'.ext).c1; have gXBc2 := fun x' : Grow v => (XB.later x'.ext).c2; have gXBc3 := fun x' : Grow v => (XB.later x'.ext).c3; have gXBc4 := fun x' : Grow v => (XB.later x'.ext).c4; have gXBc5 := fun x' : Grow v => (XB.later x'.ext).c5; have gXBc6 := fun x' : Grow v => (XB.later x'.ext).c6; have gXBfz := fun x' : Grow v => (XB.later x'.ext).fz; have gXBlt := fun x' : Grow v => (XB.later x'.ext).lt; refine wp_region_grow (by kernel_rfl) (by kernel_rfl) ?_; (repeat (first | (go_big_quiet_want; refine quiet_load_lay _ (b0) rfl rfl (by rintro _ ⟨x', rfl⟩; exact LB.later x'.ext) ?_; simp only [Act.put, List.setIfInBounds_toArray, List.set_cons_succ, List.set_cons_zero]; go_big_quiet_on) | go_big_quiet_step ((go_at_call 27; with_reducible exact calls_grow (FG _))) | go_big_quiet_step ((go_at_call 26; with_reducible exact calls_grow (FT1 _))) | go_big_quiet_step ((go_at_call 26; with_reducible exact calls_grow (FT2 _))) | go_big_quiet_step ((go_at_call 26; with_reducible exact calls_grow (FT3 _))) | go_big_quiet_step (fail))); refine wpQuiet_nil ?_; clear gLBc0 gLBc1 gLBc2 gLBc3 gLBc4 gLBc5 gLBdg gLBfz gLBlt gXBc0 gXBc1 gXBc2 gXBc3 gXBc4 gXBc5 gXBc6 gXBfz gXBlt; rintro _ ⟨xq, rfl⟩; replace EX := Ext.trans EX xq.ext; replace LB := LB.later xq.ext; replace XB := XB.later xq.ext; replace LBc0 := LB.c0; replace LBc1 := LB.c1; replace LBc2 := LB.c2; replace LBc3 := LB.c3; replace LBc4 := LB.c4; replace LBc5 := LB.c5; replace LBdg := LB.dg; replace LBfz := LB.fz; replace LBlt := LB.lt; replace XBc0 := XB.c0; replace XBc1 := XB.c1; replace XBc2 := XB.c2; replace XBc3 := XB.c3; replace XBc4 := XB.c4; replace XBc5 := XB.c5; replace XBc6 := XB.c6; replace XBfz := XB.fz; replace XBlt := XB.lt; generalize xq.out = v1 at *; clear xq v; rename World => v
        go_wp2
        go_ret2
        exact ⟨rfl, EX⟩
      rw [decide_eq_true hY] at FT3
      have HRM : Hid ((∀ k, k < 4 → (k < n → C k < 2 ^ p) ∧ (n ≤ k → C k = 0)) → Room fl c p n ⟨F, X, Y, C⟩) := fun h => ⟨⟨bf.1, hF⟩, ⟨bx.1, hX⟩, ⟨by'.1, hY⟩, fun k hk => ⟨(bc k (by omega)).1, (h k (by omega)).1 hk⟩, fun k h1 h2 => (h k h2).2 h1⟩
      clear hF hX hY
      have gLBc0 := fun x' : Grow v => (LB.later x'.ext).c0; have gLBc1 := fun x' : Grow v => (LB.later x'.ext).c1; have gLBc2 := fun x' : Grow v => (LB.later x'.ext).c2; have gLBc3 := fun x' : Grow v => (LB.later x'.ext).c3; have gLBc4 := fun x' : Grow v => (LB.later x'.ext).c4; have gLBc5 := fun x' : Grow v => (LB.later x'.ext).c5; have gLBdg := fun x' : Grow v => (LB.later x'.ext).dg; have gLBfz := fun x' : Grow v => (LB.later x'.ext).fz; have gLBlt := fun x' : Grow v => (LB.later x'.ext).lt; have gXBc0 := fun x' : Grow v => (XB.later x'.ext).c0; have gXBc1 := fun x' : Grow v => (XB.later x'.ext).c1; have gXBc2 := fun x' : Grow v => (XB.later x'.ext).c2; have gXBc3 := fun x' : Grow v => (XB.later x'.ext).c3; have gXBc4 := fun x' : Grow v => (XB.later x'.ext).c4; have gXBc5 := fun x' : Grow v => (XB.later x'.ext).c5; have gXBc6 := fun x' : Grow v => (XB.later x'.ext).c6; have gXBfz := fun x' : Grow v => (XB.later x'.ext).fz; have gXBlt := fun x' : Grow v => (XB.later x'.ext).lt; refine wp_region_grow (by kernel_rfl) (by kernel_rfl) ?_; (repeat (first | (go_big_quiet_want; refine quiet_load_lay _ (b0) rfl rfl (by rintro _ ⟨x', rfl⟩; exact LB.later x'.ext) ?_; simp only [Act.put, List.setIfInBounds_toArray, List.set_cons_succ, List.set_cons_zero]; go_big_quiet_on) | go_big_quiet_step ((go_at_call 27; with_reducible exact calls_grow (FG _))) | go_big_quiet_step ((go_at_call 26; with_reducible exact calls_grow (FT1 _))) | go_big_quiet_step ((go_at_call 26; with_reducible exact calls_grow (FT2 _))) | go_big_quiet_step ((go_at_call 26; with_reducible exact calls_grow (FT3 _))) | go_big_quiet_step (fail))); refine wpQuiet_nil ?_; clear gLBc0 gLBc1 gLBc2 gLBc3 gLBc4 gLBc5 gLBdg gLBfz gLBlt gXBc0 gXBc1 gXBc2 gXBc3 gXBc4 gXBc5 gXBc6 gXBfz gXBlt; rintro _ ⟨xq, rfl⟩; replace EX := Ext.trans EX xq.ext; replace LB := LB.later xq.ext; replace XB := XB.later xq.ext; replace LBc0 := LB.c0; replace LBc1 := LB.c1; replace LBc2 := LB.c2; replace LBc3 := LB.c3; replace LBc4 := LB.c4; replace LBc5 := LB.c5; replace LBdg := LB.dg; replace LBfz := LB.fz; replace LBlt := LB.lt; replace XBc0 := XB.c0; replace XBc1 := XB.c1; replace XBc2 := XB.c2; replace XBc3 := XB.c3; replace XBc4 := XB.c4; replace XBc5 := XB.c5; replace XBc6 := XB.c6; replace XBfz := XB.fz; replace XBlt := XB.lt; generalize xq.out = v1 at *; clear xq v; rename World => v
      clear FT1 FT2 FT3
      go_upto_region 10 with fail
      go_loopg [8] 4 (fun gk kv wr => ∃ k : Nat, k + gk = 4 ∧ kv = .int .i64 k ∧ Ext w wr ∧ Lm wr (b0) (L) ∧ S7m wr (b1) (.int .u8 F) (.int .u32 X) (.int .u32 Y) (.int .u16 (C 0)) (.int .u16 (C 1)) (.int .u16 (C 2)) (.int .u16 (C 3)) ∧ Hid (∀ j, j < k → (j < n → C j < 2 ^ p) ∧ (n ≤ j → C j = 0)))
      case atStart => exact ⟨0, rfl, rfl, EX, LB, XB, fun j hj => by omega⟩
      case round =>
        clear LBc0 LBc1 LBc2 LBc3 LBc4 LBc5 LBdg LBfz LBlt XBc0 XBc1 XBc2 XBc3 XBc4 XBc5 XBc6 XBfz XBlt
        clear EX LB XB v
        obtain ⟨k, hk, rfl, EX, LB, XB, HK⟩ := hrel
        obtain ⟨v, hv⟩ : ∃ v, v = wr := ⟨_, rfl⟩
        subst hv
        have LBc0 := LB.c0; have LBc1 := LB.c1; have LBc2 := LB.c2; have LBc3 := LB.c3; have LBc4 := LB.c4; have LBc5 := LB.c5; have LBdg := LB.dg; have LBfz := LB.fz; have LBlt := LB.lt; have XBc0 := XB.c0; have XBc1 := XB.c1; have XBc2 := XB.c2; have XBc3 := XB.c3; have XBc4 := XB.c4; have XBc5 := XB.c5; have XBc6 := XB.c6; have XBfz := XB.fz; have XBlt := XB.lt
        by_cases hk4 : k < 4
        · have hk4i : (k : Int) < 4 := by omega
          have bk := bc k hk4
          go_upto_region 12 with fail
          have gX3 := fun x' : Grow v => (XB.later x'.ext).at3 hk4
          have HKN : Hid ((k < n → C k < 2 ^ p) ∧ (n ≤ k → C k = 0) → ∀ j, j < k + 1 → (j < n → C j < 2 ^ p) ∧ (n ≤ j → C j = 0)) := fun h j hj => by
            by_cases e : j = k
            · subst e; exact h
            · exact HK.out j (by omega)
          clear HK
          by_cases hkn : k < n
          · have d1 : decide ((k : Int) < (n : Int)) = true := decide_eq_true (by omega)
            have d3 : decide (n ≤ k) = false := decide_eq_false (by omega)
            have d4 : decide (k < n) = true := decide_eq_true hkn
            have FT := fun v => fits9_any (C k) p (by omega) (by omega) v
            by_cases hC : C k < 2 ^ p
            · have NXK : Hid (∀ j, j < k + 1 → (j < n → C j < 2 ^ p) ∧ (n ≤ j → C j = 0)) := HKN.out ⟨fun _ => hC, fun h => by omega⟩
              rw [decide_eq_true hC] at FT
              clear HKN hC
              have gLBc0 := fun x' : Grow v => (LB.later x'.ext).c0; have gLBc1 := fun x' : Grow v => (LB.later x'.ext).c1; have gLBc2 := fun x' : Grow v => (LB.later x'.ext).c2; have gLBc3 := fun x' : Grow v => (LB.later x'.ext).c3; have gLBc4 := fun x' : Grow v => (LB.later x'.ext).c4; have gLBc5 := fun x' : Grow v => (LB.later x'.ext).c5; have gLBdg := fun x' : Grow v => (LB.later x'.ext).dg; have gLBfz := fun x' : Grow v => (LB.later x'.ext).fz; have gLBlt := fun x' : Grow v => (LB.later x'.ext).lt; have gXBc0 := fun x' : Grow v => (XB.later x'.ext).c0; have gXBc1 := fun x' : Grow v => (XB.later x'.ext).c1; have gXBc2 := fun x' : Grow v => (XB.later x'.ext).c2; have gXBc3 := fun x' : Grow v => (XB.later x'.ext).c3; have gXBc4 := fun x' : Grow v => (XB.later x'.ext).c4; have gXBc5 := fun x' : Grow v => (XB.later x'.ext).c5; have gXBc6 := fun x' : Grow v => (XB.later x'.ext).c6; have gXBfz := fun x' : Grow v => (XB.later x'.ext).fz; have gXBlt := fun x' : Grow v => (XB.later x'.ext).lt; refine wp_region_grow (by kernel_rfl) (by kernel_rfl) ?_; (repeat (first | go_big_quiet_step ((go_at_call 26; with_reducible exact calls_grow (FT _))) | go_big_quiet_step (fail))); refine wpQuiet_nil ?_; clear gX3; clear gLBc0 gLBc1 gLBc2 gLBc3 gLBc4 gLBc5 gLBdg gLBfz gLBlt gXBc0 gXBc1 gXBc2 gXBc3 gXBc4 gXBc5 gXBc6 gXBfz gXBlt; rintro _ ⟨xq, rfl⟩; replace EX := Ext.trans EX xq.ext; replace LB := LB.later xq.ext; replace XB := XB.later xq.ext; replace LBc0 := LB.c0; replace LBc1 := LB.c1; replace LBc2 := LB.c2; replace LBc3 := LB.c3; replace LBc4 := LB.c4; replace LBc5 := LB.c5; replace LBdg := LB.dg; replace LBfz := LB.fz; replace LBlt := LB.lt; replace XBc0 := XB.c0; replace XBc1 := XB.c1; replace XBc2 := XB.c2; replace XBc3 := XB.c3; replace XBc4 := XB.c4; replace XBc5 := XB.c5; replace XBc6 := XB.c6; replace XBfz := XB.fz; replace XBlt := XB.lt; generalize xq.out = v1 at *; clear xq v; rename World => v
              go_wp2
              go_roundg (gk - 1)
              case measure => omega
              case rel => exact ⟨k + 1, by omega, by go_num, EX, LB, XB, NXK.out⟩
            · rw [decide_eq_false hC] at FT
              clear HKN hC HRM HNX
              have gLBc0 := fun x' : Grow v => (LB.later x'.ext).c0; have gLBc1 := fun x' : Grow v => (LB.later x'.ext).c1; have gLBc2 := fun x' : Grow v => (LB.later x'.ext).c2; have gLBc3 := fun x' : Grow v => (LB.later x'.ext).c3; have gLBc4 := fun x' : Grow v => (LB.later x'.ext).c4; have gLBc5 := fun x' : Grow v => (LB.later x'.ext).c5; have gLBdg := fun x' : Grow v => (LB.later x'.ext).dg; have gLBfz := fun x' : Grow v => (LB.later x'.ext).fz; have gLBlt := fun x' : Grow v => (LB.later x'.ext).lt; have gXBc0 := fun x' : Grow v => (XB.later x'.ext).c0; have gXBc1 := fun x' : Grow v => (XB.later x'.ext).c1; have gXBc2 := fun x' : Grow v => (XB.later x'.ext).c2; have gXBc3 := fun x' : Grow v => (XB.later x'.ext).c3; have gXBc4 := fun x' : Grow v => (XB.later x'.ext).c4; have gXBc5 := fun x' : Grow v => (XB.later x'.ext).c5; have gXBc6 := fun x' : Grow v => (XB.later x'.ext).c6; have gXBfz := fun x' : Grow v => (XB.later x'.ext).fz; have gXBlt := fun x' : Grow v => (XB.later x'.ext).lt; refine wp_region_grow (by kernel_rfl) (by kernel_rfl) ?_; (repeat (first | go_big_quiet_step ((go_at_call 26; with_reducible exact calls_grow (FT _))) | go_big_quiet_step (fail))); refine wpQuiet_nil ?_; clear gX3; clear gLBc0 gLBc1 gLBc2 gLBc3 gLBc4 gLBc5 gLBdg gLBfz gLBlt gXBc0 gXBc1 gXBc2 gXBc3 gXBc4 gXBc5 gXBc6 gXBfz gXBlt; rintro _ ⟨xq, rfl⟩; replace EX := Ext.trans EX xq.ext; replace LB := LB.later xq.ext; replace XB := XB.later xq.ext; replace LBc0 := LB.c0; replace LBc1 := LB.c1; replace LBc2 := LB.c2; replace LBc3 := LB.c3; replace LBc4 := LB.c4; replace LBc5 := LB.c5; replace LBdg := LB.dg; replace LBfz := LB.fz; replace LBlt := LB.lt; replace XBc0 := XB.c0; replace XBc1 := XB.c1; replace XBc2 := XB.c2; replace XBc3 := XB.c3; replace XBc4 := XB.c4; replace XBc5 := XB.c5; replace XBc6 := XB.c6; replace XBfz := XB.fz; replace XBlt := XB.lt; generalize xq.out = v1 at *; clear xq v; rename World => v
              go_wp2
              go_ret2
              exact ⟨rfl, EX⟩
          · have d1 : decide ((k : Int) < (n : Int)) = false := decide_eq_false (by omega)
            have d3 : decide (n ≤ k) = true := decide_eq_true (by omega)
            have d4 : decide (k < n) = false := decide_eq_false hkn
            by_cases hz : C k = 0
            · have NXK : Hid (∀ j, j < k + 1 → (j < n → C j < 2 ^ p) ∧ (n ≤ j → C j = 0)) := HKN.out ⟨fun h => absurd h hkn, fun _ => hz⟩
              rw [hz] at gX3
              clear HKN hz
              have gLBc0 := fun x' : Grow v => (LB.later x'.ext).c0; have gLBc1 := fun x' : Grow v => (LB.later x'.ext).c1; have gLBc2 := fun x' : Grow v => (LB.later x'.ext).c2; have gLBc3 := fun x' : Grow v => (LB.later x'.ext).c3; have gLBc4 := fun x' : Grow v => (LB.later x'.ext).c4; have gLBc5 := fun x' : Grow v => (LB.later x'.ext).c5; have gLBdg := fun x' : Grow v => (LB.later x'.ext).dg; have gLBfz := fun x' : Grow v => (LB.later x'.ext).fz; have gLBlt := fun x' : Grow v => (LB.later x'.ext).lt; have gXBc0 := fun x' : Grow v => (XB.later x'.ext).c0; have gXBc1 := fun x' : Grow v => (XB.later x'.ext).c1; have gXBc2 := fun x' : Grow v => (XB.later x'.ext).c2; have gXBc3 := fun x' : Grow v => (XB.later x'.ext).c3; have gXBc4 := fun x' : Grow v => (XB.later x'.ext).c4; have gXBc5 := fun x' : Grow v => (XB.later x'.ext).c5; have gXBc6 := fun x' : Grow v => (XB.later x'.ext).c6; have gXBfz := fun x' : Grow v => (XB.later x'.ext).fz; have gXBlt := fun x' : Grow v => (XB.later x'.ext).lt; refine wp_region_grow (by kernel_rfl) (by kernel_rfl) ?_; (repeat (first | go_big_quiet_step (fail))); refine wpQuiet_nil ?_; clear gX3; clear gLBc0 gLBc1 gLBc2 gLBc3 gLBc4 gLBc5 gLBdg gLBfz gLBlt gXBc0 gXBc1 gXBc2 gXBc3 gXBc4 gXBc5 gXBc6 gXBfz gXBlt; rintro _ ⟨xq, rfl⟩; replace EX := Ext.trans EX xq.ext; replace LB := LB.later xq.ext; replace XB := XB.later xq.ext; replace LBc0 := LB.c0; replace LBc1 := LB.c1; replace LBc2 := LB.c2; replace LBc3 := LB.c3; replace LBc4 := LB.c4; replace LBc5 := LB.c5; replace LBdg := LB.dg; replace LBfz := LB.fz; replace LBlt := LB.lt; replace XBc0 := XB.c0; replace XBc1 := XB.c1; replace XBc2 := XB.c2; replace XBc3 := XB.c3; replace XBc4 := XB.c4; replace XBc5 := XB.c5; replace XBc6 := XB.c6; replace XBfz := XB.fz; replace XBlt := XB.lt; generalize xq.out = v1 at *; clear xq v; rename World => v
              go_wp2
              go_roundg (gk - 1)
              case measure => omega
              case rel => exact ⟨k + 1, by omega, by go_num, EX, LB, XB, NXK.out⟩
            · have dz : (C k != 0) = true := by simpa using hz
              generalize C k = ck at gX3 dz
              clear HKN hz HRM HNX
              have gLBc0 := fun x' : Grow v => (LB.later x'.ext).c0; have gLBc1 := fun x' : Grow v => (LB.later x'.ext).c1; have gLBc2 := fun x' : Grow v => (LB.later x'.ext).c2; have gLBc3 := fun x' : Grow v => (LB.later x'.ext).c3; have gLBc4 := fun x' : Grow v => (LB.later x'.ext).c4; have gLBc5 := fun x' : Grow v => (LB.later x'.ext).c5; have gLBdg := fun x' : Grow v => (LB.later x'.ext).dg; have gLBfz := fun x' : Grow v => (LB.later x'.ext).fz; have gLBlt := fun x' : Grow v => (LB.later x'.ext).lt; have gXBc0 := fun x' : Grow v => (XB.later x'.ext).c0; have gXBc1 := fun x' : Grow v => (XB.later x'.ext).c1; have gXBc2 := fun x' : Grow v => (XB.later x'.ext).c2; have gXBc3 := fun x' : Grow v => (XB.later x'.ext).c3; have gXBc4 := fun x' : Grow v => (XB.later x'.ext).c4; have gXBc5 := fun x' : Grow v => (XB.later x'.ext).c5; have gXBc6 := fun x' : Grow v => (XB.later x'.ext).c6; have gXBfz := fun x' : Grow v => (XB.later x'.ext).fz; have gXBlt := fun x' : Grow v => (XB.later x'.ext).lt; refine wp_region_grow (by kernel_rfl) (by kernel_rfl) ?_; (repeat (first | go_big_quiet_step (fail))); refine wpQuiet_nil ?_; clear gX3; clear gLBc0 gLBc1 gLBc2 gLBc3 gLBc4 gLBc5 gLBdg gLBfz gLBlt gXBc0 gXBc1 gXBc2 gXBc3 gXBc4 gXBc5 gXBc6 gXBfz gXBlt; rintro _ ⟨xq, rfl⟩; replace EX := Ext.trans EX xq.ext; replace LB := LB.later xq.ext; replace XB := XB.later xq.ext; replace LBc0 := LB.c0; replace LBc1 := LB.c1; replace LBc2 := LB.c2; replace LBc3 := LB.c3; replace LBc4 := LB.c4; replace LBc5 := LB.c5; replace LBdg := LB.dg; replace LBfz := LB.fz; replace LBlt := LB.lt; replace XBc0 := XB.c0; replace XBc1 := XB.c1; replace XBc2 := XB.c2; replace XBc3 := XB.c3; replace XBc4 := XB.c4; replace XBc5 := XB.c5; replace XBc6 := XB.c6; replace XBfz := XB.fz; replace XBlt := XB.lt; generalize xq.out = v1 at *; clear xq v; rename World => v
              go_wp2
              go_ret2
              exact ⟨rfl, EX⟩
        · have hk4i : ¬ (k : Int) < 4 := by omega
          obtain rfl : k = 4 := by omega
          have NXI : Hid (∀ j, j < i + 1 → Room fl c p n (R j)) := HNX.out (HRM.out HK.out)
          clear XB HK HRM HNX
          go_wp2
          go_roundg (gko - 1)
          case measure => omega
          case rel => exact ⟨i + 1, by omega, by go_num, EX, LB, NXI.out⟩
    · obtain rfl : i = N := by omega
      exact absurd HSO.out HBD.out
end Go.Proofs.YtemcppakmcffgaaGreatDoor
