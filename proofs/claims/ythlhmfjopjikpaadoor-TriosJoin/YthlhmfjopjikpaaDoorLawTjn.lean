/- The law TriosJoin, walked. -/
import Derived.Test.YthlhmfjopjikpaaDoorTrioE
import Derived.Test.YthlhmfjopjikpaaDoorTriP
import Derived.Test.YthlhmfjopjikpaaDoorListTri
import Derived.Test.YthlhmfjopjikpaaDoorLawTK
namespace Go.Proofs.YthlhmfjopjikpaaDoor
open Go.RowKit Go.BigFrame
set_option linter.unusedSimpArgs false
set_option linter.unusedVariables false
set_option maxRecDepth 20000

theorem vs_one {w : World} {a : Option Addr} {n : Nat} {R : Nat → Rcd} (B : Vs w a n R) : ∀ u ∈ ew 7 n (fun i => rv (R i)), u.oneCell' = true := ew_one 7 n _ (fun i hi => rv_one (R i))
/-- Vertices behind others, as a list that was made of both. -/
theorem vs_app {w w' : World} {a b c : Option Addr} {n k cp : Nat} {R S : Nat → Rcd} (B : Vs w a n R) (C : Vs w b k S) (h : Lst w' 63 7 (.slice c (n + k) cp) (n + k) (appF n (fun i => rv (R i)) (fun i => rv (S i)))) (hn : n + k ≤ 140737488355328) : Vs w' c (n + k) (appF n R S) := by
  have e : appF n (fun i => rv (R i)) (fun i => rv (S i)) = fun i => rv (appF n R S i) := by
    funext i; unfold appF; split <;> rfl
  rw [e] at h
  obtain ⟨c', cp', hs, E⟩ := lst_es h hn
  cases hs
  have key : ∀ {P : Rcd → Prop}, (∀ i, i < n → P (R i)) → (∀ i, i < k → P (S i)) → ∀ i, i < n + k → P (appF n R S i) := fun h1 h2 i hi => by
    unfold appF
    split
    · exact h1 i (by assumption)
    · exact h2 (i - n) (by omega)
  exact ⟨E, key (P := fun r => 0 ≤ r.f ∧ r.f < 256) B.f C.f, key (P := fun r => 0 ≤ r.x ∧ r.x < 4294967296) B.x C.x, key (P := fun r => 0 ≤ r.y ∧ r.y < 4294967296) B.y C.y, fun i j hi hj => key (P := fun r => ∀ j, j < 4 → 0 ≤ r.c j ∧ r.c j < 65536) (fun i hi j hj => B.c i j hi hj) (fun i hi j hj => C.c i j hi hj) i hi j hj⟩
set_option maxHeartbeats 8000000 in
theorem tjn_law (L : Lay) (hLr : L.r ≤ 9223372036854775807) (a b : Option Addr) (N cap K cbp : Nat) (R S : Nat → Rcd) (w : World) (TL : LaidL w) (B : Vs w a N R) (C : Vs w b K S) (hcap : N ≤ cap) (hcb : K ≤ cbp) (ha : a = none → N = 0 ∧ cap = 0) (hb : b = none → K = 0 ∧ cbp = 0) :
    Calls Tryd.prog 4 #[(.agg (lv (L))), .slice a N cap, .slice b K cbp] w fun e w' => e = .returned (.bool true) ∧ Ext w w' := by
  have EX := Ext.refl w
  have HLV : Hid (∀ v, Ext w v → Calls Tryd.prog 8 #[] v fun e w' => e = .returned (.bool true) ∧ Ext v w') := fun v h => lives10_is v (TL.later h)
  have HTL : Hid (LaidL w) := TL
  have HB : Hid (Vs w a N R) := B
  have HC : Hid (Vs w b K S) := C
  have HLr : Hid (L.r ≤ 9223372036854775807) := hLr
  have hNm := B.es.len
  have hKm := C.es.len
  obtain ⟨i0, hi0, hz0, hz1, hz2⟩ := info_parts info_recG
  clear TL B C hLr
  go_enter Tryd.func4, Tryd.ntmps4
  go_upto_region 1 with fail
  refine rebase (G := fun w' => Code.wp _ _ _ _ w') _ (fun v1 => Ext w v1 ∧ Lm v1 (w.heap.size) (L)) ⟨by repeat (first | with_reducible exact EX |  with_reducible refine Ext.alloc ?_ _ | with_reducible refine Ext.drew ?_ | with_reducible refine Ext.drewN ?_ _ | with_reducible refine Ext.setCell ?_ (by first | (simp; done) | omega | (dsimp only; omega)) _), by repeat (first | with_reducible assumption | with_reducible refine Lm.drew ?_ | with_reducible refine Lm.drewN ?_ _ | (with_reducible refine Lm.skip ?_ ?_; focus (first | omega | (simp; done))) | with_reducible refine Lm.set0 ?_ _ | with_reducible refine Lm.set4 ?_ _ | with_reducible refine Lm.set5 ?_ _ | with_reducible refine Lm.setk ?_ _ (by decide) | (with_reducible refine Lm.cells1 ?_; exact ⟨_, by with_reducible assumption⟩) | (with_reducible refine Lm.skips ?_ _ _ ?_; focus (first | omega | (simp; done))) | (with_reducible refine Lm.new ?_ <;> first | rfl | (simp; done)) | (with_reducible refine Lm.fresh ?_ ?_ <;> first | rfl | (simp; done)) | with_reducible refine Lm.alloc ?_ _)⟩ ?_; clear EX ; rintro v1 ⟨EX, LB⟩; rename World => v; have LBc0 := LB.c0; have LBc1 := LB.c1; have LBc2 := LB.c2; have LBc3 := LB.c3; have LBc4 := LB.c4; have LBc5 := LB.c5; have LBdg := LB.dg; have LBfz := LB.fz; have LBlt := LB.lt
  obtain ⟨b0, hb0⟩ : ∃ b0, w.heap.size = b0 := ⟨_, rfl⟩
  rw [hb0] at LB LBc0 LBc1 LBc2 LBc3 LBc4 LBc5 LBdg LBfz LBlt ⊢
  have hb0w : w.heap.size ≤ b0 := by omega
  clear hb0
  by_cases h1 : N ≤ 250
  case neg =>
    have h1' : decide ((N : Int) > 250) = true := decide_eq_true (by omega)
    have h1'' : (250 : Int) < (N : Int) := by omega
    go_wp2_with (first | go_skip | (go_at_call 8; with_reducible refine (HLV.out _ EX).mono ?_; rintro e v9 ⟨rfl, x9⟩))
    go_ret
    exact ⟨rfl, EX.trans x9⟩
  have h1' : decide ((N : Int) > 250) = false := decide_eq_false (by omega)
  have h1'' : ¬ (250 : Int) < (N : Int) := by omega
  by_cases h2 : K ≤ 250
  case neg =>
    have h2' : decide ((K : Int) > 250) = true := decide_eq_true (by omega)
    have h2'' : (250 : Int) < (K : Int) := by omega
    go_wp2_with (first | go_skip | (go_at_call 8; with_reducible refine (HLV.out _ EX).mono ?_; rintro e v9 ⟨rfl, x9⟩))
    go_ret
    exact ⟨rfl, EX.trans x9⟩
  have h2' : decide ((K : Int) > 250) = false := decide_eq_false (by omega)
  have h2'' : ¬ (250 : Int) < (K : Int) := by omega
  have PA : ∀ v, Ext w v → Calls Tryd.prog 10 #[(.agg (lv (L))), .slice a N cap] v (TrAll L R N v) := fun v h => trio_any L HLr.out a N cap R v (HTL.out.later h) (HB.out.later h) hcap (by omega)
  have PB : ∀ v, Ext w v → Calls Tryd.prog 10 #[(.agg (lv (L))), .slice b K cbp] v (TrAll L S K v) := fun v h => trio_any L HLr.out b K cbp S v (HTL.out.later h) (HC.out.later h) hcb (by omega)
  have PCc : Hid (∀ c cp v, Ext w v → Vs v c (N + K) (appF N R S) → N + K ≤ cp → Calls Tryd.prog 10 #[(.agg (lv (L))), .slice c (N + K) cp] v (TrAll L (appF N R S) (N + K) v)) := fun c cp v h V hc => trio_any L HLr.out c (N + K) cp _ v (HTL.out.later h) V hc (by omega)
  have HAB : Hid (∀ i, i < N → Bnd (R i)) := HB.out.bnd
  have HAC : Hid (∀ i, i < K → Bnd (S i)) := HC.out.bnd
  go_upto_region 3 with (first | go_skip)
  clear h1' h2' h1'' h2''
  go_upto_region 4 with (first | (refine wpList_load_lay (b0) _ rfl rfl rfl LB ?_) | (go_at_call 10; refine (PA _ EX).mono ?_; rintro e v1 ⟨s1, x1, m1, T1, rfl, hb1, S1, n1, I1⟩; clear n1; replace EX := Ext.trans EX hb1; replace LB := LB.later hb1; clear LBc0 LBc1 LBc2 LBc3 LBc4 LBc5 LBdg LBfz LBlt; clear hb1 v; rename World => v))
  clear PA
  go_upto_region 5 with (first | (refine wpList_load_lay (b0) _ rfl rfl rfl LB ?_) | (go_at_call 10; refine (PB _ EX).mono ?_; rintro e v1 ⟨s2, x2, m2, T2, rfl, hb1, S2, n2, I2⟩; clear n2; replace EX := Ext.trans EX hb1; replace LB := LB.later hb1; replace S1 := S1.later hb1; clear hb1 v; rename World => v))
  clear PB
  have hm1 := I1.le
  have hm2 := I2.le
  have HI1 : Hid (TrIs L R N x1 m1 T1) := I1
  have HI2 : Hid (TrIs L S K x2 m2 T2) := I2
  clear I1 I2
  have gLB := fun x' : Grow v => LB.later x'.ext
  refine wp_region_phases [(true, [0,1,3]), (false, [2,4,5,6]), (true, [7,8]), (false, [9,10])] (fun w' => ∃ x : Grow v, w' = x.out) (by kernel_rfl) (by kernel_rfl) (fun c a x v w h => by cases x <;> exact h) ⟨⟨v.drew, (Ext.refl v).drew⟩, rfl⟩ ?_
  intro pl hpl
  simp [pickO] at hpl
  subst hpl
  unfold wpPh
  (repeat (first | (go_big_quiet_want; refine quiet_load_lay _ (b0) rfl rfl (by rintro _ ⟨x', rfl⟩; exact gLB x') ?_; simp only [Act.put, List.setIfInBounds_toArray, List.set_cons_succ, List.set_cons_zero]; go_big_quiet_on) | go_big_quiet_step (fail)))
  refine wpQuiet_nil ?_
  clear gLB
  have hE0 : Ext v v.drew := (Ext.refl v).drew
  have BE0 := (HB.out.later (EX.trans hE0))
  unfold wpPh
  refine holdk_step fun K' hK => ?_
  go_wp2_with (first | (at_builtin; refine wpList_append_own_any _ (by rfl) _ _ _ (by rfl) v.heap.size 63 i0 _ 7 20 Tryd.underlying28 hi0 hz0 hz1 hz2 rfl (by omega) (.slice none 0 0) 0 [] (by rfl) (World.ownsRow_nil _ _ _ _) a N cap (ew 7 N (fun i => rv (R i))) (by rfl) ha (ew_len _ _ _) BE0.es.cells (vs_one BE0) (by unfold maxLen; omega) (by omega) (Nat.le_refl _) ?_))
  intro vA wA OA GA
  have EA : Ext v wA := grown_over (World.ownsRow_nil v.drew v.heap.size 63 7) hE0 (Nat.le_refl _) GA
  replace OA : wA.ownsRow v.heap.size 63 7 vA N (ew 7 N (fun i => rv (R i))) := by simpa using OA
  have BE1 := (HC.out.later (EX.trans EA))
  go_wp2
  refine hK _ _ ⟨⟨wA, EA⟩, rfl⟩ ?_
  clear hK K' GA
  refine holdk_step fun K' hK => ?_
  go_wp2_with (first | (at_builtin; refine wpList_append_own_any _ (by rfl) _ _ _ (by rfl) v.heap.size 63 i0 _ 7 20 Tryd.underlying28 hi0 hz0 hz1 hz2 rfl (by omega) vA N (ew 7 N (fun i => rv (R i))) (by rfl) OA b K cbp (ew 7 K (fun i => rv (S i))) (by rfl) hb (ew_len _ _ _) BE1.es.cells (vs_one BE1) (by unfold maxLen; omega) (by omega) EA.more ?_))
  intro vB wB OB GB
  have EB : Ext v wB := grown_over OA EA (Nat.le_refl _) GB
  rw [ew_app] at OB
  have LR : Lst wB 63 7 vB (N + K) (appF N (fun i => rv (R i)) (fun i => rv (S i))) := Lst.of (own_base OB)
  obtain ⟨c, cp, rfl⟩ := LR.slice
  have hcp := lst_cap LR
  have V3 := vs_app (HB.out.later (EX.trans EB)) (HC.out.later (EX.trans EB)) LR (by omega)
  clear OB OA GB LR BE0 BE1 EA
  go_wp2
  refine hK _ _ ⟨⟨wB, EB⟩, rfl⟩ ?_
  clear hK K'
  refine holdk_step fun K' hK => ?_
  go_wp2_with (first | (go_at_call 10; refine (PCc.out c cp _ (EX.trans EB) V3 hcp).mono ?_; rintro e v3 ⟨s3, x3, m3, T3, rfl, hb3, S3, n3, I3⟩))
  have E3 := EB.trans hb3
  clear n3 hb3 V3 PCc
  refine hK _ _ ⟨⟨v3, E3⟩, rfl⟩ ?_
  clear hK K'
  refine holdk_step fun K' hK => ?_
  go_wp2
  refine hK _ _ ⟨⟨v3, E3⟩, rfl⟩ ?_
  clear hK K'
  unfold wpHoldK wpPh
  (repeat (first | go_big_quiet_step (fail))); refine wpQuiet_nil ?_
  unfold wpPh
  refine holdk_step fun K' hK => ?_
  go_wp2
  refine hK _ _ ⟨⟨v3, E3⟩, rfl⟩ ?_
  clear hK K'
  refine holdk_step fun K' hK => ?_
  go_wp2
  refine hK _ _ ⟨⟨v3, E3⟩, rfl⟩ ?_
  clear hK K'
  unfold wpHoldK wpPh
  have hm3 := I3.le
  have HI3 : Hid (TrIs L (appF N R S) (N + K) x3 m3 T3) := I3
  replace EX := EX.trans E3
  replace LB := LB.later E3
  replace S1 := S1.later E3
  replace S2 := S2.later E3
  clear I3 E3 EB hE0 v wA wB
  rename World => v
  have LBc0 := LB.c0
  have LBc5 := LB.c5
  obtain ⟨a1, c1, rfl⟩ := S1.slice
  obtain ⟨a2, c2, rfl⟩ := S2.slice
  by_cases ok : x1 = 0 ∧ x2 = 0
  case neg =>
    by_cases hx1 : x1 = 0
    · subst hx1
      have hx2 : (x2 != 0) = true := by simp; exact fun h => ok ⟨rfl, h⟩
      obtain ⟨bb, hbb⟩ : ∃ bb, (L.t != 4) = bb := ⟨_, rfl⟩
      obtain ⟨a3, c3, rfl⟩ := S3.slice
      cases bb
      all_goals
        go_wp2_with (first | go_skip | (go_at_call 8; with_reducible refine (HLV.out _ EX).mono ?_; rintro e v9 ⟨rfl, x9⟩))
        go_ret
        exact ⟨rfl, EX.trans x9⟩
    · have hx1' : (x1 != 0) = true := by simp [hx1]
      have hx1'' : (x1 == 0) = false := by simp [hx1]
      obtain ⟨a3, c3, rfl⟩ := S3.slice
      by_cases h4 : L.t = 4
      · have h4' : (L.t != 4) = false := by simp [h4]
        by_cases h5 : x1 = 5
        · have h5' : (x1 == 5) = true := by simp [h5]
          go_wp2_with (first | go_skip | (go_at_call 8; with_reducible refine (HLV.out _ EX).mono ?_; rintro e v9 ⟨rfl, x9⟩))
          go_ret
          exact ⟨rfl, EX.trans x9⟩
        · have h5' : (x1 == 5) = false := by simp [h5]
          have h3 : (x3 == x1) = true := by rw [HI1.out.more HI3.out h4 hx1 h5]; simp
          go_wp2_with (first | go_skip | (go_at_call 8; with_reducible refine (HLV.out _ EX).mono ?_; rintro e v9 ⟨rfl, x9⟩))
          go_ret
          exact ⟨rfl, EX.trans x9⟩
      · have h4' : (L.t != 4) = true := by simp [h4]
        go_wp2_with (first | go_skip | (go_at_call 8; with_reducible refine (HLV.out _ EX).mono ?_; rintro e v9 ⟨rfl, x9⟩))
        go_ret
        exact ⟨rfl, EX.trans x9⟩
  obtain ⟨rfl, rfl⟩ := ok
  obtain ⟨rfl, bt, hm, ht, hA, hB⟩ := HI1.out.join HI2.out HI3.out
  have hb1 := HI1.out.all HAB.out
  have hb2 := HI2.out.all HAC.out
  have HM : Hid (m3 = m1 + bt + m2) := hm
  have hlt : ¬ (m3 : Int) < (m1 : Int) + (m2 : Int) := by omega
  have hbt : (m3 : Int) - (m1 : Int) - (m2 : Int) = (bt : Int) := by omega
  obtain ⟨k, hk⟩ : ∃ k, m1 + bt = k := ⟨_, rfl⟩
  have hki : (m1 : Int) + (bt : Int) = (k : Int) := by omega
  have hkm : k ≤ m3 := by omega
  have hsub : m3 - k = m2 := by omega
  rw [hk] at hB
  have HMK : Hid (m3 = m1 + bt + m2 ∧ m1 + bt = k ∧ m3 - k = m2) := ⟨hm, hk, hsub⟩
  obtain ⟨_, _, hs1, E1⟩ := lst_es S1 (by omega)
  cases hs1
  obtain ⟨_, _, hs2, E2⟩ := lst_es S2 (by omega)
  cases hs2
  have SMA : ∀ a' c' v', Ext v v' → Es v' 21 a' m1 (fun j => tv (T3 j)) → Calls Tryd.prog 14 #[.slice a' m1 c', .slice a1 m1 c1] v' fun e w' => e = .returned (.bool true) ∧ Ext v' w' := fun a' c' v' h E3 => same_tris a' a1 m1 c' c1 _ _ v' E3 (E1.later h) (fun j hj => by rw [hA j hj]) (fun j hj => by rw [hA j hj]; exact tri_kinds (hb1 j hj))
  have SMB : ∀ a' c' v', Ext v v' → Es v' 21 a' m2 (fun j => tv (T3 (k + j))) → Calls Tryd.prog 14 #[.slice a' m2 c', .slice a2 m2 c2] v' fun e w' => e = .returned (.bool true) ∧ Ext v' w' := fun a' c' v' h E3 => same_tris a' a2 m2 c' c2 _ _ v' E3 (E2.later h) (fun j hj => by rw [hB j hj]) (fun j hj => by rw [hB j hj]; exact tri_kinds (hb2 j hj))
  clear hA hB hb1 hb2 E1 E2 hm hk hsub HI1 HI2 HI3
  rcases own_form S3 with ⟨rfl, hm0⟩ | ⟨g, c3, c3', rfl, hmc, hcc, hcm, _⟩
  · have hmk := HMK.out
    obtain rfl : m3 = 0 := hm0
    obtain rfl : m1 = 0 := by omega
    obtain rfl : bt = 0 := by omega
    obtain rfl : m2 = 0 := by omega
    obtain rfl : k = 0 := by omega
    clear hmk HMK HM
    have t4 : (L.t == 4) = true := by
      rcases ht with ⟨h, _⟩ | ⟨_, _, _, _, h⟩
      · simp [h]
      · omega
    have SA := fun v' h => SMA none 0 v' h (Es.nought v' 21 none _)
    have SB := fun v' h => SMB none 0 v' h (Es.nought v' 21 none _)
    clear SMA SMB ht hbt hki hlt
    go_wp2_with (first | go_skip | (go_at_call 14; first | (with_reducible refine (SA _ (Ext.refl v)).mono ?_; rintro e v4 ⟨rfl, y1⟩; have EX1 := EX.trans y1; clear SA) | (with_reducible refine (SB _ y1).mono ?_; rintro e v5 ⟨rfl, y2⟩; have EX2 := EX1.trans y2; clear SB)) | (go_at_call 8; with_reducible refine (HLV.out _ EX2).mono ?_; rintro e v9 ⟨rfl, x9⟩))
    go_ret
    exact ⟨rfl, EX2.trans x9⟩
  · obtain ⟨_, _, hs3, E3⟩ := lst_es S3 (by omega)
    cases hs3
    have hmk := HMK.out
    unfold maxLen at hcm
    have hm1c : (m1 : Int) ≤ (c3 : Int) := by omega
    have hm1c' : m1 ≤ c3 := by omega
    have hkm' : (k : Int) ≤ (m3 : Int) := by omega
    have hkc : k ≤ c3 := by omega
    have hc3b : c3 ≤ 9223372036854775807 := by omega
    have SA := fun v' h => SMA (some ⟨g, 0, none⟩) c3 v' h ((E3.first (by omega)).later h)
    rcases ht with ⟨t4, rfl⟩ | ⟨t5, hr2, hrN, hbr, hm2p⟩
    · have t4' : (L.t == 4) = true := by simp [t4]
      by_cases hck : c3 = k
      · obtain rfl : m3 = k := by omega
        obtain rfl : c3 = m3 := hck
        obtain rfl : m2 = 0 := by omega
        obtain rfl : m1 = c3 := by omega
        have SB := fun a' c' v' h => SMB a' c' v' h (Es.nought v' 21 _ _)
        clear SMA SMB hmk E3 hcc hcm HMK HM
        go_wp2_with (first | go_skip | (go_at_call 14; first | (with_reducible refine (SA _ (Ext.refl v)).mono ?_; rintro e v4 ⟨rfl, y1⟩; have EX1 := EX.trans y1; clear SA) | (with_reducible refine (SB _ _ _ y1).mono ?_; rintro e v5 ⟨rfl, y2⟩; have EX2 := EX1.trans y2; clear SB)) | (go_at_call 8; with_reducible refine (HLV.out _ EX2).mono ?_; rintro e v9 ⟨rfl, x9⟩))
        go_ret
        exact ⟨rfl, EX2.trans x9⟩
      · have SB : ∀ v', Ext v v' → Calls Tryd.prog 14 #[.slice (some ⟨g, k * 21, none⟩) (m3 - k) (c3 - k), .slice a2 m2 c2] v' fun e w' => e = .returned (.bool true) ∧ Ext v' w' := fun v' h => by rw [hmk.2.2]; exact SMB (some ⟨g, k * 21, none⟩) (c3 - k) v' h (by have := (E3.behind hkm).later h; rw [hmk.2.2, Nat.zero_add] at this; exact this)
        obtain rfl : m1 = k := hmk.2.1
        clear SMA SMB hmk E3 hcc hcm
        go_wp2_with (first | go_skip | (go_at_call 14; first | (with_reducible refine (SA _ (Ext.refl v)).mono ?_; rintro e v4 ⟨rfl, y1⟩; have EX1 := EX.trans y1; clear SA) | (with_reducible refine (SB _ y1).mono ?_; rintro e v5 ⟨rfl, y2⟩; have EX2 := EX1.trans y2; clear SB)) | (go_at_call 8; with_reducible refine (HLV.out _ EX2).mono ?_; rintro e v9 ⟨rfl, x9⟩))
        go_ret
        exact ⟨rfl, EX2.trans x9⟩
    · have t4' : (L.t == 4) = false := by simp [t5]
      have t5' : (L.t == 5) = true := by simp [t5]
      have hck : ¬ c3 = k := by omega
      have hbr' : 2 * (L.r - 1) = (bt : Int) := hbr.symm
      have SB : ∀ v', Ext v v' → Calls Tryd.prog 14 #[.slice (some ⟨g, k * 21, none⟩) (m3 - k) (c3 - k), .slice a2 m2 c2] v' fun e w' => e = .returned (.bool true) ∧ Ext v' w' := fun v' h => by rw [hmk.2.2]; exact SMB (some ⟨g, k * 21, none⟩) (c3 - k) v' h (by have := (E3.behind hkm).later h; rw [hmk.2.2, Nat.zero_add] at this; exact this)
      clear SMA SMB hmk E3 hcc hcm hbr
      go_wp2_with (first | go_skip | (go_at_call 14; first | (with_reducible refine (SA _ (Ext.refl v)).mono ?_; rintro e v4 ⟨rfl, y1⟩; have EX1 := EX.trans y1; clear SA) | (with_reducible refine (SB _ y1).mono ?_; rintro e v5 ⟨rfl, y2⟩; have EX2 := EX1.trans y2; clear SB)) | (go_at_call 8; with_reducible refine (HLV.out _ EX2).mono ?_; rintro e v9 ⟨rfl, x9⟩))
      go_ret
      exact ⟨rfl, EX2.trans x9⟩
end Go.Proofs.YthlhmfjopjikpaaDoor
