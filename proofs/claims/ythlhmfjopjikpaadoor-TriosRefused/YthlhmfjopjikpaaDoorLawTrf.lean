/- The law TriosRefused, walked. -/
import Derived.Test.YthlhmfjopjikpaaDoorTrioE
import Derived.Test.YthlhmfjopjikpaaDoorTriK
import Derived.Test.YthlhmfjopjikpaaDoorListTri
import Derived.Test.YthlhmfjopjikpaaDoorLawTK
namespace Go.Proofs.YthlhmfjopjikpaaDoor
open Go.RowKit Go.BigFrame
set_option linter.unusedSimpArgs false
set_option linter.unusedVariables false
set_option maxRecDepth 20000

set_option maxHeartbeats 8000000 in
theorem trf_law (L : Lay) (hLr : L.r ≤ 9223372036854775807) (a : Option Addr) (N cap : Nat) (R : Nat → Rcd) (w : World) (TL : LaidL w) (B : Vs w a N R) (hcap : N ≤ cap) :
    Calls Tryd.prog 7 #[(.agg (lv (L))), .slice a N cap] w fun e w' => e = .returned (.bool true) ∧ Ext w w' := by
  have EX := Ext.refl w
  have HLV : Hid (∀ v, Ext w v → Calls Tryd.prog 8 #[] v fun e w' => e = .returned (.bool true) ∧ Ext v w') := fun v h => lives10_is v (TL.later h)
  have HTL : Hid (LaidL w) := TL
  have HB : Hid (Vs w a N R) := B
  have HLr : Hid (L.r ≤ 9223372036854775807) := hLr
  have hNm := B.es.len
  clear TL B hLr
  go_enter Tryd.func7, Tryd.ntmps7
  go_upto_region 1 with fail
  refine rebase (G := fun w' => Code.wp _ _ _ _ w') _ (fun v1 => Ext w v1 ∧ Lm v1 (w.heap.size) (L)) ⟨by repeat (first | with_reducible exact EX |  with_reducible refine Ext.alloc ?_ _ | with_reducible refine Ext.drew ?_ | with_reducible refine Ext.drewN ?_ _ | with_reducible refine Ext.setCell ?_ (by first | (simp; done) | omega | (dsimp only; omega)) _), by repeat (first | with_reducible assumption | with_reducible refine Lm.drew ?_ | with_reducible refine Lm.drewN ?_ _ | (with_reducible refine Lm.skip ?_ ?_; focus (first | omega | (simp; done))) | with_reducible refine Lm.set0 ?_ _ | with_reducible refine Lm.set4 ?_ _ | with_reducible refine Lm.set5 ?_ _ | with_reducible refine Lm.setk ?_ _ (by decide) | (with_reducible refine Lm.cells1 ?_; exact ⟨_, by with_reducible assumption⟩) | (with_reducible refine Lm.skips ?_ _ _ ?_; focus (first | omega | (simp; done))) | (with_reducible refine Lm.new ?_ <;> first | rfl | (simp; done)) | (with_reducible refine Lm.fresh ?_ ?_ <;> first | rfl | (simp; done)) | with_reducible refine Lm.alloc ?_ _)⟩ ?_; clear EX ; rintro v1 ⟨EX, LB⟩; rename World => v; have LBc0 := LB.c0; have LBc1 := LB.c1; have LBc2 := LB.c2; have LBc3 := LB.c3; have LBc4 := LB.c4; have LBc5 := LB.c5; have LBdg := LB.dg; have LBfz := LB.fz; have LBlt := LB.lt
  obtain ⟨b0, hb0⟩ : ∃ b0, w.heap.size = b0 := ⟨_, rfl⟩
  rw [hb0] at LB LBc0 LBc1 LBc2 LBc3 LBc4 LBc5 LBdg LBfz LBlt ⊢
  have hb0w : w.heap.size ≤ b0 := by omega
  clear hb0
  go_upto_region 2 with fail
  refine rebase (G := fun w' => Code.wp _ _ _ _ w') _ (fun v1 => Ext w v1 ∧ Lm v1 (b0) (L.wt 4)) ⟨by repeat (first | with_reducible exact EX |  with_reducible refine Ext.alloc ?_ _ | with_reducible refine Ext.drew ?_ | with_reducible refine Ext.drewN ?_ _ | with_reducible refine Ext.setCell ?_ (by first | (simp; done) | omega | (dsimp only; omega)) _), by repeat (first | with_reducible assumption | with_reducible refine Lm.drew ?_ | with_reducible refine Lm.drewN ?_ _ | (with_reducible refine Lm.skip ?_ ?_; focus (first | omega | (simp; done))) | with_reducible refine Lm.set0 ?_ _ | with_reducible refine Lm.set4 ?_ _ | with_reducible refine Lm.set5 ?_ _ | with_reducible refine Lm.setk ?_ _ (by decide) | (with_reducible refine Lm.cells1 ?_; exact ⟨_, by with_reducible assumption⟩) | (with_reducible refine Lm.skips ?_ _ _ ?_; focus (first | omega | (simp; done))) | (with_reducible refine Lm.new ?_ <;> first | rfl | (simp; done)) | (with_reducible refine Lm.fresh ?_ ?_ <;> first | rfl | (simp; done)) | with_reducible refine Lm.alloc ?_ _)⟩ ?_; clear LBc0 LBc1 LBc2 LBc3 LBc4 LBc5 LBdg LBfz LBlt; clear EX LB; rintro v1 ⟨EX, LB⟩; clear v; rename World => v; have LBc0 := LB.c0; have LBc1 := LB.c1; have LBc2 := LB.c2; have LBc3 := LB.c3; have LBc4 := LB.c4; have LBc5 := LB.c5; have LBdg := LB.dg; have LBfz := LB.fz; have LBlt := LB.lt
  have HM : Hid ((L.wt 4).t = 4 ∧ (L.wt 4).r ≤ 9223372036854775807) := ⟨rfl, HLr.out⟩
  generalize L.wt 4 = M at *
  clear HLr
  by_cases h3 : N ≤ 300
  case neg =>
    have h3' : decide ((N : Int) > 300) = true := decide_eq_true (by omega)
    have h3'' : (300 : Int) < (N : Int) := by omega
    go_wp2_with (first | go_skip | (go_at_call 8; with_reducible refine (HLV.out _ EX).mono ?_; rintro e v9 ⟨rfl, x9⟩))
    go_ret
    exact ⟨rfl, EX.trans x9⟩
  have h3' : decide ((N : Int) > 300) = false := decide_eq_false (by omega)
  have h3'' : ¬ (300 : Int) < (N : Int) := by omega
  have HCK : Hid (∀ v, Ext w v → Calls Tryd.prog 17 #[(.agg (lv (M)))] v fun e w' => e = .returned (.int .i64 (if mayl M = true then 0 else 4)) ∧ Ext v w') := fun v h => lcheck_any M v (HTL.out.later h)
  by_cases hm : mayl M = true
  case neg =>
    have CK := HCK.out
    rw [if_neg hm] at CK
    go_wp2_with (first | go_skip | (refine wpList_load_lay (b0) _ rfl rfl rfl LB ?_) | (go_at_call 17; with_reducible refine (CK _ EX).mono ?_; rintro e v1 ⟨rfl, hb⟩; replace EX := Ext.trans EX hb; replace LB := LB.later hb; replace LBc0 := LB.c0; replace LBc1 := LB.c1; replace LBc2 := LB.c2; replace LBc3 := LB.c3; replace LBc4 := LB.c4; replace LBc5 := LB.c5; replace LBdg := LB.dg; replace LBfz := LB.fz; replace LBlt := LB.lt; clear hb v; rename World => v) | (go_at_call 8; with_reducible refine (HLV.out _ EX).mono ?_; rintro e v9 ⟨rfl, x9⟩))
    go_ret
    exact ⟨rfl, EX.trans x9⟩
  have CK := HCK.out
  rw [if_pos hm] at CK
  clear HCK
  have HT : Hid (tlay M = true) := by show tlay M = true; unfold tlay; rw [hm, HM.out.1]; rfl
  have PC : ∀ v, Ext w v → Calls Tryd.prog 10 #[(.agg (lv (M))), .slice a N cap] v (TrAll M R N v) := fun v h => trio_any M HM.out.2 a N cap R v (HTL.out.later h) (HB.out.later h) hcap (by omega)
  have HAB : Hid (∀ i, i < N → Bnd (R i)) := HB.out.bnd
  clear hm
  go_upto_region 4 with (first | go_skip | (refine wpList_load_lay (b0) _ rfl rfl rfl LB ?_) | (go_at_call 17; with_reducible refine (CK _ EX).mono ?_; rintro e v1 ⟨rfl, hb⟩; replace EX := Ext.trans EX hb; replace LB := LB.later hb; replace LBc0 := LB.c0; replace LBc1 := LB.c1; replace LBc2 := LB.c2; replace LBc3 := LB.c3; replace LBc4 := LB.c4; replace LBc5 := LB.c5; replace LBdg := LB.dg; replace LBfz := LB.fz; replace LBlt := LB.lt; clear hb v; rename World => v))
  clear CK h3'
  go_upto_region 5 with (first | (refine wpList_load_lay (b0) _ rfl rfl rfl LB ?_) | (go_at_call 10; refine (PC _ EX).mono ?_; rintro e v1 ⟨s1, x1, m1, T1, rfl, hb, S1, n1, I1⟩; clear n1; replace EX := Ext.trans EX hb; replace LB := LB.later hb; clear LBc0 LBc1 LBc2 LBc3 LBc4 LBc5 LBdg LBfz LBlt; clear hb v; rename World => v))
  obtain ⟨a1, c1, rfl⟩ := S1.slice
  have hx1 := I1.four HT.out HM.out.1
  have hm1N := I1.le
  have HI : Hid (TrIs M R N x1 m1 T1) := I1
  clear I1 PC
  have HX1 : Hid (chL none (ql R 0 N) = (x1, (chL none (ql R 0 N)).2) ∧ (chL none (ql R 0 N)).2.length = m1) := ⟨Prod.ext hx1.1 rfl, hx1.2⟩
  clear hx1
  by_cases h0 : N = 0
  · subst h0
    have hz := HX1.out
    rw [show ql R 0 0 = [] from rfl, chL_nil] at hz
    obtain rfl : x1 = 0 := (Prod.mk.inj hz.1).1.symm
    obtain rfl : m1 = 0 := hz.2.symm
    clear hz
    go_wp2_with (first | go_skip | (go_at_call 8; with_reducible refine (HLV.out _ EX).mono ?_; rintro e v9 ⟨rfl, x9⟩))
    go_ret
    exact ⟨rfl, EX.trans x9⟩
  have hpos : 0 < N := by omega
  have hN0 : ((N : Int) == 0) = false := by simp; omega
  have hNp : (0 : Int) < (N : Int) := by omega
  obtain ⟨bv, ov, rfl, hr⟩ := HB.out.es.form hpos
  have HR : Hid (∀ i, i < N → w.rangeAt bv (ov + i * 7) (vl 7 (rv (R i)))) := hr
  have c0 : v.cell? ⟨bv, ov, none⟩ = some (.int .u8 (R 0).f) := by have := range_later (hr 0 hpos) EX 0 _ rfl; rw [Nat.zero_mul] at this; exact this
  clear hr
  by_cases hf0 : (R 0).f = 0
  case neg =>
    have hz := HX1.out
    rw [(Fst.start R).first hpos hf0] at hz
    obtain rfl : x1 = 6 := (Prod.mk.inj hz.1).1.symm
    obtain rfl : m1 = 0 := hz.2.symm
    clear hz
    obtain ⟨f, hf⟩ : ∃ f, (R 0).f = f := ⟨_, rfl⟩
    rw [hf] at c0 hf0
    have hne : (f != 0) = true := by simp [hf0]
    clear hf
    go_wp2_with (first | go_skip | (go_at_call 8; with_reducible refine (HLV.out _ EX).mono ?_; rintro e v9 ⟨rfl, x9⟩))
    go_ret
    exact ⟨rfl, EX.trans x9⟩
  rw [hf0] at c0
  have HF0 : Hid ((R 0).f = 0) := hf0
  clear hf0
  go_upto_region 7 with (first | go_skip)
  clear c0
  go_wp2
  go_loopg [7] N (fun gk iv wr => ∃ (i : Nat) (O : List T3), i + gk = N ∧ iv = .int .i64 i ∧ wr = v ∧ Hid (Fst R i O))
  case atStart => exact ⟨0, [], by omega, rfl, rfl, Fst.start R⟩
  case round =>
    obtain ⟨i, O, hi, rfl, hwr, HF⟩ := hrel
    subst hwr
    rename World => v
    have hiN : i ≤ N := by omega
    by_cases hlt : i < N
    · have hii : (i : Int) < (N : Int) := by omega
      have hf := HB.out.f i hlt
      have cf : v.cell? ⟨bv, ov + i * 7, none⟩ = some (.int .u8 (R i).f) := range_later (HR.out i hlt) EX 0 _ rfl
      obtain ⟨f, hfe⟩ : ∃ f, (R i).f = f := ⟨_, rfl⟩
      rw [hfe] at cf hf
      have HFE : Hid ((R i).f = f) := hfe
      have hip : f ≠ 0 → 0 < i := fun h => by
        rcases Nat.eq_zero_or_pos i with h' | h'
        · subst h'; exact absurd (hfe.symm.trans HF0.out) h
        · exact h'
      clear hfe
      by_cases h2 : 2 < f
      · have d1 : decide (f ≤ 2) = false := decide_eq_false (by omega)
        have hz := HX1.out
        rw [HF.out.flag (hip (by omega)) hlt (by rw [HFE.out]; exact h2)] at hz
        obtain rfl : x1 = 7 := (Prod.mk.inj hz.1).1.symm
        obtain rfl : m1 = 0 := hz.2.symm
        clear hz hip
        go_upto_region 12 with (first | go_skip)
        have PC2 : ∀ v', Ext v v' → Calls Tryd.prog 10 #[(.agg (lv (M))), .slice (some ⟨bv, ov, none⟩) i cap] v' (TrAll M R i v') := fun v' h => trio_any M HM.out.2 _ i cap R v' (HTL.out.later (EX.trans h)) ((HB.out.first hiN).later (EX.trans h)) (by omega) (by omega)
        have gLB := fun x' : Grow v => LB.later x'.ext
        refine wp_region_phases [(true, [0,1,2,3]), (false, [4,5]), (true, [6,7]), (false, [8,9])] (fun w' => ∃ x : Grow v, w' = x.out) (by kernel_rfl) (by kernel_rfl) (fun c a x v w h => by cases x <;> exact h) ⟨⟨v.drew, (Ext.refl v).drew⟩, rfl⟩ ?_
        intro pl hpl
        simp [pickO] at hpl
        subst hpl
        unfold wpPh
        (repeat (first | (go_big_quiet_want; refine quiet_load_lay _ (b0) rfl rfl (by rintro _ ⟨x', rfl⟩; exact gLB x') ?_; simp only [Act.put, List.setIfInBounds_toArray, List.set_cons_succ, List.set_cons_zero]; go_big_quiet_on) | go_big_quiet_step (fail)))
        refine wpQuiet_nil ?_
        clear gLB
        have hE0 : Ext v v.drew := (Ext.refl v).drew
        unfold wpPh
        refine holdk_step fun K hK => ?_
        go_wp2_with (first | (go_at_call 10; refine (PC2 _ hE0).mono ?_; rintro e v2 ⟨s2, x2, m2, T2, rfl, hb, S2, n2, I2⟩))
        have hE1 := hE0.trans hb
        clear hb n2 PC2
        refine hK _ _ ⟨⟨v2, hE1⟩, rfl⟩ ?_
        clear hK K
        refine holdk_step fun K hK => ?_
        go_wp2
        refine hK _ _ ⟨⟨v2, hE1⟩, rfl⟩ ?_
        clear hK K
        unfold wpHoldK wpPh
        (repeat (first | go_big_quiet_step (fail))); refine wpQuiet_nil ?_
        unfold wpPh
        refine holdk_step fun K hK => ?_
        go_wp2
        refine hK _ _ ⟨⟨v2, hE1⟩, rfl⟩ ?_
        clear hK K
        refine holdk_step fun K hK => ?_
        go_wp2
        refine hK _ _ ⟨⟨v2, hE1⟩, rfl⟩ ?_
        clear hK K
        unfold wpHoldK wpPh
        obtain ⟨a2, c2, rfl⟩ := S2.slice
        have hx2 : (0 : Int) = x2 ∧ O.length = m2 := by have h := I2.four HT.out HM.out.1; rw [HF.out.eq] at h; exact h
        obtain ⟨rfl, rfl⟩ := hx2
        have S1' := S1.later hE1
        have EX2 := EX.trans hE1
        clear LB
        have cf2 : v2.cell? ⟨bv, ov + i * 7, none⟩ = some (.int .u8 f) := hE1.later cf
        have d2 : decide (f > 2) = true := decide_eq_true (by omega)
        have hne : ((i : Int) == (N : Int)) = false := by simp; omega
        go_wp2_with (first | go_skip | (go_at_call 8; with_reducible refine (HLV.out _ EX2).mono ?_; rintro e v9 ⟨rfl, x9⟩))
        go_ret
        exact ⟨rfl, EX2.trans x9⟩
      have d1 : decide (f ≤ 2) = true := decide_eq_true (by omega)
      by_cases h0 : f = 0
      · subst h0
        by_cases hs : i + 2 < N
        · have hsi : decide ((i : Int) + 2 < (N : Int)) = true := decide_eq_true (by omega)
          have HN : Hid (Fst R (i + 3) (O ++ [⟨R i, R (i + 1), R (i + 2)⟩])) := HF.out.new HFE.out
          clear hip
          go_wp2_with (first | go_skip)
          go_roundg (gk - 3)
          case measure => omega
          case rel => exact ⟨i + 3, _, by omega, by go_num, rfl, HN⟩
        · have hsi : decide ((i : Int) + 2 < (N : Int)) = false := decide_eq_false (by omega)
          have hz := HX1.out
          rw [HF.out.short hlt HFE.out (by omega)] at hz
          obtain rfl : x1 = 5 := (Prod.mk.inj hz.1).1.symm
          obtain rfl : m1 = 0 := hz.2.symm
          clear hz hip
          go_upto_region 12 with (first | go_skip)
          have PC2 : ∀ v', Ext v v' → Calls Tryd.prog 10 #[(.agg (lv (M))), .slice (some ⟨bv, ov, none⟩) i cap] v' (TrAll M R i v') := fun v' h => trio_any M HM.out.2 _ i cap R v' (HTL.out.later (EX.trans h)) ((HB.out.first hiN).later (EX.trans h)) (by omega) (by omega)
          have gLB := fun x' : Grow v => LB.later x'.ext
          refine wp_region_phases [(true, [0,1,2,3]), (false, [4,5]), (true, [6,7]), (false, [8,9])] (fun w' => ∃ x : Grow v, w' = x.out) (by kernel_rfl) (by kernel_rfl) (fun c a x v w h => by cases x <;> exact h) ⟨⟨v.drew, (Ext.refl v).drew⟩, rfl⟩ ?_
          intro pl hpl
          simp [pickO] at hpl
          subst hpl
          unfold wpPh
          (repeat (first | (go_big_quiet_want; refine quiet_load_lay _ (b0) rfl rfl (by rintro _ ⟨x', rfl⟩; exact gLB x') ?_; simp only [Act.put, List.setIfInBounds_toArray, List.set_cons_succ, List.set_cons_zero]; go_big_quiet_on) | go_big_quiet_step (fail)))
          refine wpQuiet_nil ?_
          clear gLB
          have hE0 : Ext v v.drew := (Ext.refl v).drew
          unfold wpPh
          refine holdk_step fun K hK => ?_
          go_wp2_with (first | (go_at_call 10; refine (PC2 _ hE0).mono ?_; rintro e v2 ⟨s2, x2, m2, T2, rfl, hb, S2, n2, I2⟩))
          have hE1 := hE0.trans hb
          clear hb n2 PC2
          refine hK _ _ ⟨⟨v2, hE1⟩, rfl⟩ ?_
          clear hK K
          refine holdk_step fun K hK => ?_
          go_wp2
          refine hK _ _ ⟨⟨v2, hE1⟩, rfl⟩ ?_
          clear hK K
          unfold wpHoldK wpPh
          (repeat (first | go_big_quiet_step (fail))); refine wpQuiet_nil ?_
          unfold wpPh
          refine holdk_step fun K hK => ?_
          go_wp2
          refine hK _ _ ⟨⟨v2, hE1⟩, rfl⟩ ?_
          clear hK K
          refine holdk_step fun K hK => ?_
          go_wp2
          refine hK _ _ ⟨⟨v2, hE1⟩, rfl⟩ ?_
          clear hK K
          unfold wpHoldK wpPh
          obtain ⟨a2, c2, rfl⟩ := S2.slice
          have hx2 : (0 : Int) = x2 ∧ O.length = m2 := by have h := I2.four HT.out HM.out.1; rw [HF.out.eq] at h; exact h
          obtain ⟨rfl, rfl⟩ := hx2
          have S1' := S1.later hE1
          have EX2 := EX.trans hE1
          clear LB
          have cf2 : v2.cell? ⟨bv, ov + i * 7, none⟩ = some (.int .u8 0) := hE1.later cf
          have hne : ((i : Int) == (N : Int)) = false := by simp; omega
          go_wp2_with (first | go_skip | (go_at_call 8; with_reducible refine (HLV.out _ EX2).mono ?_; rintro e v9 ⟨rfl, x9⟩))
          go_ret
          exact ⟨rfl, EX2.trans x9⟩
      · have d2 : decide (f > 0) = true := decide_eq_true (by omega)
        have d3 : (f == 0) = false := by simp [h0]
        have HN : Hid (Fst R (i + 1) (O ++ [next3 (O.getD (O.length - 1) z3) (R i)])) := HF.out.on (hip h0) (by rw [HFE.out]; exact h0) (by rw [HFE.out]; exact h2)
        clear hip
        go_wp2_with (first | go_skip)
        go_roundg (gk - 1)
        case measure => omega
        case rel => exact ⟨i + 1, _, by omega, by go_num, rfl, HN⟩
    · have hii : ¬ (i : Int) < (N : Int) := by omega
      obtain rfl : i = N := by omega
      have hz := HX1.out
      rw [HF.out.eq] at hz
      obtain rfl : x1 = 0 := (Prod.mk.inj hz.1).1.symm
      obtain rfl : m1 = O.length := hz.2.symm
      clear hz
      go_upto_region 12 with (first | go_skip)
      have PC2 : ∀ v', Ext v v' → Calls Tryd.prog 10 #[(.agg (lv (M))), .slice (some ⟨bv, ov, none⟩) i cap] v' (TrAll M R i v') := fun v' h => trio_any M HM.out.2 _ i cap R v' (HTL.out.later (EX.trans h)) ((HB.out.first hiN).later (EX.trans h)) (by omega) (by omega)
      have gLB := fun x' : Grow v => LB.later x'.ext
      refine wp_region_phases [(true, [0,1,2,3]), (false, [4,5]), (true, [6,7]), (false, [8,9])] (fun w' => ∃ x : Grow v, w' = x.out) (by kernel_rfl) (by kernel_rfl) (fun c a x v w h => by cases x <;> exact h) ⟨⟨v.drew, (Ext.refl v).drew⟩, rfl⟩ ?_
      intro pl hpl
      simp [pickO] at hpl
      subst hpl
      unfold wpPh
      (repeat (first | (go_big_quiet_want; refine quiet_load_lay _ (b0) rfl rfl (by rintro _ ⟨x', rfl⟩; exact gLB x') ?_; simp only [Act.put, List.setIfInBounds_toArray, List.set_cons_succ, List.set_cons_zero]; go_big_quiet_on) | go_big_quiet_step (fail)))
      refine wpQuiet_nil ?_
      clear gLB
      have hE0 : Ext v v.drew := (Ext.refl v).drew
      unfold wpPh
      refine holdk_step fun K hK => ?_
      go_wp2_with (first | (go_at_call 10; refine (PC2 _ hE0).mono ?_; rintro e v2 ⟨s2, x2, m2, T2, rfl, hb, S2, n2, I2⟩))
      have hE1 := hE0.trans hb
      clear hb n2 PC2
      refine hK _ _ ⟨⟨v2, hE1⟩, rfl⟩ ?_
      clear hK K
      refine holdk_step fun K hK => ?_
      go_wp2
      refine hK _ _ ⟨⟨v2, hE1⟩, rfl⟩ ?_
      clear hK K
      unfold wpHoldK wpPh
      (repeat (first | go_big_quiet_step (fail))); refine wpQuiet_nil ?_
      unfold wpPh
      refine holdk_step fun K hK => ?_
      go_wp2
      refine hK _ _ ⟨⟨v2, hE1⟩, rfl⟩ ?_
      clear hK K
      refine holdk_step fun K hK => ?_
      go_wp2
      refine hK _ _ ⟨⟨v2, hE1⟩, rfl⟩ ?_
      clear hK K
      unfold wpHoldK wpPh
      obtain ⟨a2, c2, rfl⟩ := S2.slice
      have hx2 : (0 : Int) = x2 ∧ O.length = m2 := by have h := I2.four HT.out HM.out.1; rw [HF.out.eq] at h; exact h
      obtain ⟨rfl, rfl⟩ := hx2
      have S1' := S1.later hE1
      have EX2 := EX.trans hE1
      clear LB
      have h12 := (I2.one HI.out).2.2
      have hall := HI.out.all HAB.out
      have hOl : O.length ≤ 2 * i := HI.out.le
      obtain ⟨_, _, hs1, E1⟩ := lst_es S1' (by omega)
      obtain ⟨_, _, hs2, E2⟩ := lst_es S2 (by omega)
      cases hs1
      cases hs2
      have SM := same_tris a1 a2 O.length c1 c2 _ _ v2 E1 E2 (fun k hk => by rw [h12 k hk]) (fun k hk => tri_kinds (hall k hk))
      clear E1 E2 h12 hall S1' S2 I2
      go_wp2_with (first | go_skip | (go_at_call 14; with_reducible refine SM.mono ?_; rintro e v3 ⟨rfl, x3⟩; have EX3 := EX2.trans x3; clear SM) | (go_at_call 8; with_reducible refine (HLV.out _ EX3).mono ?_; rintro e v9 ⟨rfl, x9⟩))
      go_ret
      exact ⟨rfl, EX3.trans x9⟩
end Go.Proofs.YthlhmfjopjikpaaDoor
