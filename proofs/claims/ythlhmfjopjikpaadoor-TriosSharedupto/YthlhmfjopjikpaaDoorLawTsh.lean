/- The law TriosShared, walked, of not too many vertices. -/
import Derived.Test.YthlhmfjopjikpaaDoorTrioE
import Derived.Test.YthlhmfjopjikpaaDoorTriK
import Derived.Test.YthlhmfjopjikpaaDoorListTri
import Derived.Test.YthlhmfjopjikpaaDoorListRec
import Derived.Test.YthlhmfjopjikpaaDoorLawTK
namespace Go.Proofs.YthlhmfjopjikpaaDoor
open Go.RowKit Go.BigFrame
set_option linter.unusedSimpArgs false
set_option linter.unusedVariables false
set_option maxRecDepth 20000

theorem kinds_spot' {x y : Int} (hx : 0 ≤ x ∧ x < 4294967296) (hy : 0 ≤ y ∧ y < 4294967296) : Kinds [some .u32, some .u32] [.int .u32 x, .int .u32 y] := by
  simp only [Kinds, OfKind]
  refine ⟨_, _, rfl, ⟨_, rfl, ?_⟩, _, _, rfl, ⟨_, rfl, ?_⟩, rfl⟩ <;> simp [Lit.wf, IntKind.min, IntKind.max, IntKind.signed, IntKind.bits] <;> omega
theorem self_spot' {x y : Int} (hx : 0 ≤ x ∧ x < 4294967296) (hy : 0 ≤ y ∧ y < 4294967296) (w : World) : (Op.equalIn 10000 58 (.agg #[.int .u32 x, .int .u32 y]) (.agg #[.int .u32 x, .int .u32 y])).run Tryd.prog w = .ok true w :=
  eq_self 6 Tryd.underlying58 (by kernel_rfl) (by kernel_rfl) (by kernel_rfl) (by kernel_rfl) (by decide) (kinds_spot' hx hy) w
theorem kinds_col {c : Nat → Int} (h : ∀ k, k < 4 → 0 ≤ c k ∧ c k < 65536) : Kinds [some .u16, some .u16, some .u16, some .u16] [.int .u16 (c 0), .int .u16 (c 1), .int .u16 (c 2), .int .u16 (c 3)] := by
  have h0 := h 0 (by omega)
  have h1 := h 1 (by omega)
  have h2 := h 2 (by omega)
  have h3 := h 3 (by omega)
  clear h
  generalize c 0 = a0 at *
  generalize c 1 = a1 at *
  generalize c 2 = a2 at *
  generalize c 3 = a3 at *
  simp only [Kinds, OfKind]
  refine ⟨_, _, rfl, ⟨_, rfl, ?_⟩, _, _, rfl, ⟨_, rfl, ?_⟩, _, _, rfl, ⟨_, rfl, ?_⟩, _, _, rfl, ⟨_, rfl, ?_⟩, rfl⟩ <;> simp [Lit.wf, IntKind.min, IntKind.max, IntKind.signed, IntKind.bits] <;> omega
theorem self_col {c : Nat → Int} (h : ∀ k, k < 4 → 0 ≤ c k ∧ c k < 65536) (w : World) : (Op.equalIn 10000 61 (.agg #[.int .u16 (c 0), .int .u16 (c 1), .int .u16 (c 2), .int .u16 (c 3)]) (.agg #[.int .u16 (c 0), .int .u16 (c 1), .int .u16 (c 2), .int .u16 (c 3)])).run Tryd.prog w = .ok true w :=
  eq_selfa 6 Tryd.underlying61 (by kernel_rfl) (by kernel_rfl) (by kernel_rfl) (by kernel_rfl) (by decide) (kinds_col h) w
/-- The place and the colours of a vertex, out of its cells. -/
theorem range_spot' {v : World} {b o : Nat} {Q : Rcd} (h : v.rangeAt b o (vl 7 (rv Q))) : v.rangeAt b (o + 1) [.int .u32 Q.x, .int .u32 Q.y] := fun j u hu => by
  match j, hu with
  | 0, hu => cases hu; have := h 1 _ rfl; exact this
  | 1, hu => cases hu; have := h 2 _ rfl; rw [Nat.add_assoc]; exact this
theorem range_col {v : World} {b o : Nat} {Q : Rcd} (h : v.rangeAt b o (vl 7 (rv Q))) : v.rangeAt b (o + 3) [.int .u16 (Q.c 0), .int .u16 (Q.c 1), .int .u16 (Q.c 2), .int .u16 (Q.c 3)] := fun j u hu => by
  match j, hu with
  | 0, hu => cases hu; have := h 3 _ rfl; exact this
  | 1, hu => cases hu; have := h 4 _ rfl; rw [Nat.add_assoc]; exact this
  | 2, hu => cases hu; have := h 5 _ rfl; rw [Nat.add_assoc]; exact this
  | 3, hu => cases hu; have := h 6 _ rfl; rw [Nat.add_assoc]; exact this
theorem Vm.flag0s {v : World} {b : Nat} {R : Rcd} (B : Vm v b 7 (rv R)) : Vm (v.setCell ⟨b, 0, none⟩ (.int .u8 0)) b 7 (rv (bare R)) := (B.set 0 _).eq fun i _ => match i with | 0 => rfl | 1 => rfl | 2 => rfl | i + 3 => rfl
/-- With an error there are no triangles. -/
theorem TrIs.noTri {L : Lay} {Q : Nat → Rcd} {N m : Nat} {x : Int} {T : Nat → T3} (h : TrIs L Q N x m T) (h4 : L.t = 4) (hx : x ≠ 0) : m = 0 := by
  rcases h with ⟨_, _, h3⟩ | ⟨_, _, _, _, h5⟩ | ⟨_, _, _, _, h5, _⟩ | ⟨_, _, h3, h4, _⟩
  · exact h3
  · exact h5
  · exact absurd h5 hx
  · have := chL_err _ none (ql Q 0 N) (Nat.le_refl _) (by rw [h3]; exact hx)
    rw [this] at h4
    exact h4.symm
theorem Fst.within {Q : Nat → Rcd} {i N : Nat} {P O : List T3} (F : Fst Q i P) (h : i ≤ N) (hO : chL none (ql Q 0 N) = (0, O)) : ∃ r, O = P ++ r := by
  have := F.behind (N - i)
  rw [show i + (N - i) = N by omega, hO] at this
  unfold pre at this
  split at this
  · exact ⟨_, (Prod.mk.inj this).2⟩
  · rename_i hne
    exact absurd (Prod.mk.inj this).1.symm hne
theorem within_at {P r : List T3} {t : T3} : (P ++ [t] ++ r).getD P.length z3 = t ∧ P.length < (P ++ [t] ++ r).length := by
  constructor
  · rw [List.append_assoc, List.getD_eq_getElem?_getD, List.getElem?_append_right (Nat.le_refl _), Nat.sub_self]; rfl
  · rw [List.length_append, List.length_append, List.length_singleton]; omega
theorem within_old {P r : List T3} {k : Nat} (h : k < P.length) : (P ++ r).getD k z3 = P.getD k z3 := by
  rw [List.getD_eq_getElem?_getD, List.getD_eq_getElem?_getD, List.getElem?_append_left h]
set_option maxHeartbeats 8000000 in
theorem tsh_law (L : Lay) (hLr : L.r ≤ 9223372036854775807) (a : Option Addr) (N cap : Nat) (R : Nat → Rcd) (w : World) (TL : LaidL w) (B : Vs w a N R) (hcap : N ≤ cap) (hN : N ≤ 4294967296) :
    Calls Tryd.prog 5 #[(.agg (lv (L))), .slice a N cap] w fun e w' => e = .returned (.bool true) ∧ Ext w w' := by
  have EX := Ext.refl w
  have HLV : Hid (∀ v, Ext w v → Calls Tryd.prog 8 #[] v fun e w' => e = .returned (.bool true) ∧ Ext v w') := fun v h => lives10_is v (TL.later h)
  have HB : Hid (Vs w a N R) := B
  have PC : ∀ v, Ext w v → Calls Tryd.prog 10 #[(.agg (lv (L))), .slice a N cap] v (TrAll L R N v) := fun v h => trio_any L hLr a N cap R v (TL.later h) (B.later h) hcap hN
  have HAB : Hid (∀ i, i < N → Bnd (R i)) := B.bnd
  clear TL B hLr
  go_enter Tryd.func5, Tryd.ntmps5
  go_upto_region 1 with fail
  refine rebase (G := fun w' => Code.wp _ _ _ _ w') _ (fun v1 => Ext w v1 ∧ Lm v1 (w.heap.size) (L)) ⟨by repeat (first | with_reducible exact EX |  with_reducible refine Ext.alloc ?_ _ | with_reducible refine Ext.drew ?_ | with_reducible refine Ext.drewN ?_ _ | with_reducible refine Ext.setCell ?_ (by first | (simp; done) | omega | (dsimp only; omega)) _), by repeat (first | with_reducible assumption | with_reducible refine Lm.drew ?_ | with_reducible refine Lm.drewN ?_ _ | (with_reducible refine Lm.skip ?_ ?_; focus (first | omega | (simp; done))) | with_reducible refine Lm.set0 ?_ _ | with_reducible refine Lm.set4 ?_ _ | with_reducible refine Lm.set5 ?_ _ | with_reducible refine Lm.setk ?_ _ (by decide) | (with_reducible refine Lm.cells1 ?_; exact ⟨_, by with_reducible assumption⟩) | (with_reducible refine Lm.skips ?_ _ _ ?_; focus (first | omega | (simp; done))) | (with_reducible refine Lm.new ?_ <;> first | rfl | (simp; done)) | (with_reducible refine Lm.fresh ?_ ?_ <;> first | rfl | (simp; done)) | with_reducible refine Lm.alloc ?_ _)⟩ ?_; clear EX ; rintro v1 ⟨EX, LB⟩; rename World => v; have LBc0 := LB.c0; have LBc1 := LB.c1; have LBc2 := LB.c2; have LBc3 := LB.c3; have LBc4 := LB.c4; have LBc5 := LB.c5; have LBdg := LB.dg; have LBfz := LB.fz; have LBlt := LB.lt
  obtain ⟨b0, hb0⟩ : ∃ b0, w.heap.size = b0 := ⟨_, rfl⟩
  rw [hb0] at LB LBc0 LBc1 LBc2 LBc3 LBc4 LBc5 LBdg LBfz LBlt ⊢
  have hb0w : w.heap.size ≤ b0 := by omega
  clear hb0
  go_upto_region 2 with (first | (refine wpList_load_lay (b0) _ rfl rfl rfl LB ?_) | (go_at_call 10; refine (PC _ EX).mono ?_; rintro e v1 ⟨s1, x1, m1, T1, rfl, hb, S1, n1, I1⟩; clear n1; replace EX := Ext.trans EX hb; replace LB := LB.later hb; clear LBc0 LBc1 LBc2 LBc3 LBc4 LBc5 LBdg LBfz LBlt; clear hb v; rename World => v))
  have LBc0 := LB.c0
  have hm1 := I1.le
  have HI : Hid (TrIs L R N x1 m1 T1) := I1
  clear I1 PC LB
  have HN : Hid (N ≤ 4294967296) := hN
  by_cases h5 : N ≤ 500
  case neg =>
    obtain ⟨a1, c1, rfl⟩ := S1.slice
    have h5' : decide ((N : Int) > 500) = true := decide_eq_true (by omega)
    have h5'' : (500 : Int) < (N : Int) := by omega
    go_wp2_with (first | go_skip | (go_at_call 8; with_reducible refine (HLV.out _ EX).mono ?_; rintro e v9 ⟨rfl, x9⟩))
    go_ret
    exact ⟨rfl, EX.trans x9⟩
  have h5' : decide ((N : Int) > 500) = false := decide_eq_false (by omega)
  have h5'' : ¬ (500 : Int) < (N : Int) := by omega
  by_cases h4 : L.t = 4
  case neg =>
    obtain ⟨a1, c1, rfl⟩ := S1.slice
    have h4' : (L.t != 4) = true := by simp [h4]
    go_wp2_with (first | go_skip | (go_at_call 8; with_reducible refine (HLV.out _ EX).mono ?_; rintro e v9 ⟨rfl, x9⟩))
    go_ret
    exact ⟨rfl, EX.trans x9⟩
  have h4' : (L.t != 4) = false := by simp [h4]
  by_cases hx : x1 = 0
  case neg =>
    obtain rfl : m1 = 0 := HI.out.noTri h4 hx
    obtain ⟨a1, c1, rfl⟩ := S1.slice
    have hx' : (x1 != 0) = true := by simp [hx]
    go_wp2_with (first | go_skip | (go_at_call 8; with_reducible refine (HLV.out _ EX).mono ?_; rintro e v9 ⟨rfl, x9⟩))
    go_ret
    exact ⟨rfl, EX.trans x9⟩
  subst hx
  obtain ⟨hc1, hc2, hc3⟩ : (chL none (ql R 0 N)).1 = 0 ∧ (chL none (ql R 0 N)).2.length = m1 ∧ ∀ k, k < m1 → T1 k = (chL none (ql R 0 N)).2.getD k z3 := by
    rcases HI.out with ⟨_, h, _⟩ | ⟨_, h, _⟩ | ⟨_, h, _⟩ | ⟨_, _, h1, h2, h3⟩
    · cases h
    · omega
    · omega
    · exact ⟨h1, h2, h3⟩
  obtain ⟨O, hO⟩ : ∃ O, (chL none (ql R 0 N)).2 = O := ⟨_, rfl⟩
  rw [hO] at hc2 hc3
  have HO : Hid (chL none (ql R 0 N) = (0, O) ∧ O.length = m1 ∧ ∀ k, k < m1 → T1 k = O.getD k z3) := ⟨Prod.ext hc1 hO, hc2, hc3⟩
  clear hc1 hO hc2 hc3
  obtain ⟨a1, c1, rfl⟩ := S1.slice
  have HS1 : Hid (Lst v 65 21 (.slice a1 m1 c1) m1 (fun k => tv (T1 k))) := S1
  clear S1
  go_upto_region 6 with (first | go_skip)
  clear LBc0 h4' h5'
  go_loopg [7, 8] N (fun gk kv iv wr => ∃ (k i : Nat) (P : List T3), P.length = k ∧ i + gk = N ∧ kv = .int .i64 k ∧ iv = .int .i64 i ∧ Ext v wr ∧ Hid (Fst R i P))
  case atStart => exact ⟨0, 0, [], rfl, by omega, rfl, rfl, Ext.refl v, Fst.start R⟩
  case round =>
    obtain ⟨k, i, P, hk, hi, rfl, rfl, EV, HF⟩ := hrel
    have HK : Hid (P.length = k) := hk
    have hiN : i ≤ N := by omega
    have hkm : k ≤ m1 := by
      obtain ⟨r, hr⟩ := HF.out.within hiN HO.out.1
      rw [← HO.out.2.1, hr, List.length_append]
      omega
    clear hk
    obtain ⟨v0, hv0⟩ : ∃ v0, v0 = wr := ⟨_, rfl⟩
    subst hv0
    by_cases hlt : i < N
    · have hii : (i : Int) < (N : Int) := by omega
      obtain ⟨bv, ov, rfl, hr⟩ := HB.out.es.form (by omega)
      have HR : Hid (∀ i, i < N → w.rangeAt bv (ov + i * 7) (vl 7 (rv (R i)))) := hr
      have r0 := range_later (HR.out i hlt) (EX.trans EV)
      have hfb := HB.out.f i hlt
      obtain ⟨f, hf⟩ : ∃ f, (R i).f = f := ⟨_, rfl⟩
      have HFE : Hid ((R i).f = f) := hf
      rw [hf] at hfb
      clear hr hf
      -- the triangle that is told next
      have hnx : ∃ u : T3, k < m1 ∧ T1 k = u ∧ ((f = 0 ∧ i + 2 < N ∧ u = ⟨R i, R (i + 1), R (i + 2)⟩ ∧ Fst R (i + 3) (P ++ [u])) ∨ (f ≠ 0 ∧ ¬ 2 < f ∧ 0 < k ∧ u = next3 (T1 (k - 1)) (R i) ∧ Fst R (i + 1) (P ++ [u]))) := by
        by_cases h0 : f = 0
        · have h2 : i + 2 < N := by
            by_cases h : i + 2 < N
            · exact h
            · have := HF.out.short hlt (by rw [HFE.out]; exact h0) (by omega)
              rw [HO.out.1] at this
              exact absurd (Prod.mk.inj this).1 (by decide)
          have F2 := HF.out.new (by rw [HFE.out]; exact h0)
          obtain ⟨r, hr⟩ := F2.within (by omega) HO.out.1
          have hw := within_at (P := P) (r := r) (t := (⟨R i, R (i + 1), R (i + 2)⟩ : T3))
          rw [← hr, HK.out, HO.out.2.1] at hw
          exact ⟨_, hw.2, by rw [HO.out.2.2 k hw.2, hw.1], .inl ⟨h0, h2, rfl, F2⟩⟩
        · have hip : 0 < i := by
            rcases Nat.eq_zero_or_pos i with h | h
            · subst h
              have := HF.out.first (by omega) (by rw [HFE.out]; exact h0)
              rw [HO.out.1] at this
              exact absurd (Prod.mk.inj this).1 (by decide)
            · exact h
          have h2 : ¬ 2 < f := fun h => by
            have := HF.out.flag hip hlt (by rw [HFE.out]; exact h)
            rw [HO.out.1] at this
            exact absurd (Prod.mk.inj this).1 (by decide)
          have hkp : 0 < k := by rw [← HK.out]; exact (HF.out.last hip).2
          have F2 := HF.out.on hip (by rw [HFE.out]; exact h0) (by rw [HFE.out]; exact h2)
          obtain ⟨r, hr⟩ := F2.within (by omega) HO.out.1
          have hw := within_at (P := P) (r := r) (t := next3 (P.getD (P.length - 1) z3) (R i))
          have ho := within_old (P := P ++ [next3 (P.getD (P.length - 1) z3) (R i)]) (r := r) (k := k - 1) (by rw [List.length_append, HK.out, List.length_singleton]; omega)
          have ho2 := within_old (P := P) (r := [next3 (P.getD (P.length - 1) z3) (R i)]) (k := k - 1) (by rw [HK.out]; omega)
          rw [← hr] at ho
          rw [← hr, HK.out, HO.out.2.1] at hw
          have e : T1 (k - 1) = P.getD (k - 1) z3 := by rw [HO.out.2.2 (k - 1) (by omega), ho, ho2]
          rw [HK.out, ← e] at F2
          rw [← e] at hw
          exact ⟨_, hw.2, by rw [HO.out.2.2 k hw.2, hw.1], .inr ⟨h0, h2, hkp, rfl, F2⟩⟩
      obtain ⟨u, hkm1, hTu, hcase⟩ := hnx
      obtain ⟨g1, c1', hg1⟩ := HS1.out.form (by omega)
      cases hg1
      have hki : ¬ (m1 : Int) ≤ (k : Int) := by omega
      have hki2 : (k : Int) < (m1 : Int) := by omega
      have ta := (HS1.out.later EV).range (i := k) hkm1
      rw [hTu] at ta
      have ua := range_parts ta
      obtain ⟨ua0, ua1, ua2⟩ := ua
      clear ta
      obtain ⟨P0, hP0⟩ : ∃ p, R i = p := ⟨_, rfl⟩
      have HP0 : Hid (R i = P0) := hP0
      rw [hP0] at r0
      clear hP0
      have hvs : v0.heap.size = v0.heap.size := rfl
      go_upto_region 11 with (first | go_skip | (refine wpList_load_mid rfl 63 (.tmp 56) rfl bv (ov + i * 7) rfl (vl 7 (rv P0)) _ r0 Tryd.underlying63 rfl (by rw [vl_len]; kernel_rfl) ?_) | (refine wpList_store_vl rfl 63 (.tmp 9) (.tmp 57) rfl v0.heap.size 0 7 (rv P0) rfl rfl (there_new 7 rfl) size_recQ (rv_one _) ?_))
      simp only [Act.put]
      obtain ⟨bx, hbx⟩ : ∃ bx, v0.heap.size = bx := ⟨_, rfl⟩
      refine rebase (G := fun w' => Code.wp _ _ _ _ w') _ (fun v1 => Ext v0 v1 ∧ Vm v1 bx 7 (rv P0)) ⟨Ext.setCells' ((Ext.refl v0).alloc _) _ (Nat.le_refl _) _ _, by rw [← hbx]; exact Vm.fresh (by decide) rfl rfl⟩ ?_
      rw [hbx]
      clear hvs
      rintro v1 ⟨E1, XB⟩
      have fx := XB.fz
      have cx : v1.cell? ⟨bx, 0, none⟩ = some (.int .u8 P0.f) := XB.dg 0 (by decide)
      go_upto_region 12 with fail
      refine rebase (G := fun w' => Code.wp _ _ _ _ w') _ (fun v2 => Ext v0 v2 ∧ Vm v2 bx 7 (rv (bare P0))) ⟨E1.setCell (by dsimp only; omega) _, XB.flag0s⟩ ?_
      clear E1 XB fx cx v1
      rintro v1 ⟨E1, XB⟩
      have EV1 := EV.trans E1
      have EW := EX.trans EV1
      replace r0 := range_later r0 E1
      replace ua0 := range_later ua0 E1
      replace ua1 := range_later ua1 E1
      replace ua2 := range_later ua2 E1
      have XR := XB.range
      have cf : v1.cell? ⟨bv, ov + i * 7, none⟩ = some (.int .u8 f) := by
        have := r0 0 _ rfl
        rw [← HFE.out, HP0.out]
        exact this
      have HU : Hid (T1 k = u) := hTu
      clear E1 EV hbx XB hTu
      have EQ0 := fun w => self_rec (bnd_kinds (bare_bnd (by rw [← HP0.out]; exact HAB.out i hlt : Bnd P0))) w
      clear r0
      obtain ⟨p0, hp0⟩ : ∃ g, rv (bare P0) = g := ⟨_, rfl⟩
      rw [hp0] at XR EQ0
      have HP1 : Hid (rv (bare P0) = p0) := hp0
      clear hp0 EX v0
      rename World => v0
      rcases hcase with ⟨hf0, hi2, hu, F2⟩ | ⟨hf0, hf2, hk0, hu, F2⟩
      · subst hf0
        have HF2 : Hid (Fst R (i + 3) (P ++ [u])) := F2
        rw [hu] at ua0 ua1 ua2
        rw [HP0.out, HP1.out] at ua0
        have sb := range_spot' ua1
        have cb := range_col ua1
        have sc := range_spot' ua2
        have cc := range_col ua2
        have b1 := HAB.out (i + 1) (by omega)
        have b2 := HAB.out (i + 2) (by omega)
        have r1 := range_later (HR.out (i + 1) (by omega)) EW
        have r2 := range_later (HR.out (i + 2) (by omega)) EW
        have sr := range_spot' r1
        have cr := range_col r1
        have st := range_spot' r2
        have ct := range_col r2
        have ES1 := fun w => self_spot' b1.2.1 b1.2.2.1 w
        have EC1 := fun w => self_col b1.2.2.2 w
        have ES2 := fun w => self_spot' b2.2.1 b2.2.2.1 w
        have EC2 := fun w => self_col b2.2.2.2 w
        replace sb : v0.rangeAt g1 (k * 21 + 7 + 1) [.int .u32 (R (i + 1)).x, .int .u32 (R (i + 1)).y] := sb
        replace sc : v0.rangeAt g1 (k * 21 + 14 + 1) [.int .u32 (R (i + 2)).x, .int .u32 (R (i + 2)).y] := sc
        replace cb : v0.rangeAt g1 (k * 21 + 7 + 3) [.int .u16 ((R (i + 1)).c 0), .int .u16 ((R (i + 1)).c 1), .int .u16 ((R (i + 1)).c 2), .int .u16 ((R (i + 1)).c 3)] := cb
        replace cc : v0.rangeAt g1 (k * 21 + 14 + 3) [.int .u16 ((R (i + 2)).c 0), .int .u16 ((R (i + 2)).c 1), .int .u16 ((R (i + 2)).c 2), .int .u16 ((R (i + 2)).c 3)] := cc
        clear ua1 ua2 r1 r2 b1 b2
        generalize (R (i + 1)).x = x1' at *
        generalize (R (i + 1)).y = y1' at *
        generalize (R (i + 1)).c = q1' at *
        generalize (R (i + 2)).x = x2' at *
        generalize (R (i + 2)).y = y2' at *
        generalize (R (i + 2)).c = q2' at *
        have hi2' : ¬ (N : Int) ≤ (i : Int) + 2 := by omega
        go_upto_region 13 with (first | go_skip)
        as_aux_lemma =>
          refine wp_region_grow (by kernel_rfl) (by kernel_rfl) ?_
          (repeat (first | (go_big_quiet_want; refine quiet_load_cells 63 _ g1 (k * 21) (vl 7 p0) _ rfl rfl (by rintro _ ⟨x', rfl⟩; exact range_later ua0 x'.ext) Tryd.underlying63 rfl (by rw [vl_len]; kernel_rfl) ?_; simp only [Act.put, List.setIfInBounds_toArray, List.set_cons_succ, List.set_cons_zero]; go_big_quiet_on) | (go_big_quiet_want; refine quiet_load_cells 63 _ bx (0) (vl 7 p0) _ rfl rfl (by rintro _ ⟨x', rfl⟩; exact range_later XR x'.ext) Tryd.underlying63 rfl (by rw [vl_len]; kernel_rfl) ?_; simp only [Act.put, List.setIfInBounds_toArray, List.set_cons_succ, List.set_cons_zero]; go_big_quiet_on) | (go_big_quiet_want; refine quiet_load_cells 58 _ g1 (k * 21 + 7 + 1) [.int .u32 x1', .int .u32 y1'] _ rfl rfl (by rintro _ ⟨x', rfl⟩; exact range_later sb x'.ext) Tryd.underlying58 rfl (by kernel_rfl) ?_; simp only [Act.put, List.setIfInBounds_toArray, List.set_cons_succ, List.set_cons_zero]; go_big_quiet_on) | (go_big_quiet_want; refine quiet_load_cells 58 _ bv (ov + (i + 1) * 7 + 1) [.int .u32 x1', .int .u32 y1'] _ rfl rfl (by rintro _ ⟨x', rfl⟩; exact range_later sr x'.ext) Tryd.underlying58 rfl (by kernel_rfl) ?_; simp only [Act.put, List.setIfInBounds_toArray, List.set_cons_succ, List.set_cons_zero]; go_big_quiet_on) | (go_big_quiet_want; refine quiet_load_cells 61 _ g1 (k * 21 + 7 + 3) [.int .u16 (q1' 0), .int .u16 (q1' 1), .int .u16 (q1' 2), .int .u16 (q1' 3)] _ rfl rfl (by rintro _ ⟨x', rfl⟩; exact range_later cb x'.ext) Tryd.underlying61 rfl (by kernel_rfl) ?_; simp only [Act.put, List.setIfInBounds_toArray, List.set_cons_succ, List.set_cons_zero]; go_big_quiet_on) | (go_big_quiet_want; refine quiet_load_cells 61 _ bv (ov + (i + 1) * 7 + 3) [.int .u16 (q1' 0), .int .u16 (q1' 1), .int .u16 (q1' 2), .int .u16 (q1' 3)] _ rfl rfl (by rintro _ ⟨x', rfl⟩; exact range_later cr x'.ext) Tryd.underlying61 rfl (by kernel_rfl) ?_; simp only [Act.put, List.setIfInBounds_toArray, List.set_cons_succ, List.set_cons_zero]; go_big_quiet_on) | (go_big_quiet_want; refine quiet_load_cells 58 _ g1 (k * 21 + 14 + 1) [.int .u32 x2', .int .u32 y2'] _ rfl rfl (by rintro _ ⟨x', rfl⟩; exact range_later sc x'.ext) Tryd.underlying58 rfl (by kernel_rfl) ?_; simp only [Act.put, List.setIfInBounds_toArray, List.set_cons_succ, List.set_cons_zero]; go_big_quiet_on) | (go_big_quiet_want; refine quiet_load_cells 58 _ bv (ov + (i + 2) * 7 + 1) [.int .u32 x2', .int .u32 y2'] _ rfl rfl (by rintro _ ⟨x', rfl⟩; exact range_later st x'.ext) Tryd.underlying58 rfl (by kernel_rfl) ?_; simp only [Act.put, List.setIfInBounds_toArray, List.set_cons_succ, List.set_cons_zero]; go_big_quiet_on) | (go_big_quiet_want; refine quiet_load_cells 61 _ g1 (k * 21 + 14 + 3) [.int .u16 (q2' 0), .int .u16 (q2' 1), .int .u16 (q2' 2), .int .u16 (q2' 3)] _ rfl rfl (by rintro _ ⟨x', rfl⟩; exact range_later cc x'.ext) Tryd.underlying61 rfl (by kernel_rfl) ?_; simp only [Act.put, List.setIfInBounds_toArray, List.set_cons_succ, List.set_cons_zero]; go_big_quiet_on) | (go_big_quiet_want; refine quiet_load_cells 61 _ bv (ov + (i + 2) * 7 + 3) [.int .u16 (q2' 0), .int .u16 (q2' 1), .int .u16 (q2' 2), .int .u16 (q2' 3)] _ rfl rfl (by rintro _ ⟨x', rfl⟩; exact range_later ct x'.ext) Tryd.underlying61 rfl (by kernel_rfl) ?_; simp only [Act.put, List.setIfInBounds_toArray, List.set_cons_succ, List.set_cons_zero]; go_big_quiet_on) | go_big_quiet_step (fail)))
          refine wpQuiet_nil ?_
          rintro _ ⟨xr, rfl⟩
          have EV2 := EV1.trans xr.ext
          go_wp2_with (first | go_skip)
          go_roundg (gk - 3)
          case measure => omega
          case rel => exact ⟨k + 1, i + 3, P ++ [u], by rw [List.length_append, HK.out]; rfl, by omega, by go_num, by go_num, EV2, HF2⟩
      · have HF2 : Hid (Fst R (i + 1) (P ++ [u])) := F2
        obtain ⟨k1, hk1⟩ : ∃ k1, k = k1 + 1 := ⟨k - 1, by omega⟩
        have hk1e : k - 1 = k1 := by omega
        rw [hk1e] at hu
        have hki1 : (k : Int) - 1 = (k1 : Int) := by omega
        have hk1m : (k1 : Int) < (m1 : Int) := by omega
        have hkz : ((k : Int) == 0) = false := by simp; omega
        have HKK : Hid (k = k1 + 1) := hk1
        obtain ⟨t, ht⟩ : ∃ t, T1 k1 = t := ⟨_, rfl⟩
        have hall := HI.out.all HAB.out k1 (by omega)
        have tb := (HS1.out.later EV1).range (i := k1) (by omega)
        rw [ht] at hu hall tb
        have tp := range_parts tb
        obtain ⟨tb0, tb1, tb2⟩ := tp
        have f0 : (f == 0) = false := by simp [hf0]
        have EQc := fun w => self_rec (bnd_kinds (bare_bnd hall.2.2)) w
        have EQb := fun w => self_rec (bnd_kinds (bare_bnd hall.2.1)) w
        have EQa := fun w => self_rec (bnd_kinds (bare_bnd hall.1)) w
        rw [hu] at ua0 ua1 ua2
        replace ua1 : v0.rangeAt g1 (k * 21 + 7) (vl 7 (rv (bare t.c))) := ua1
        replace ua2 : v0.rangeAt g1 (k * 21 + 14) (vl 7 (rv (bare (R i)))) := ua2
        rw [HP0.out, HP1.out] at ua2
        have hua : (next3 t (R i)).a = if f = 1 then t.b else t.a := by unfold next3; rw [HFE.out]
        rw [hua] at ua0
        clear hk1 hk1e hu ht tb hall hua
        obtain ⟨pa, hpa⟩ : ∃ g, rv (bare t.a) = g := ⟨_, rfl⟩
        obtain ⟨pb, hpb⟩ : ∃ g, rv (bare t.b) = g := ⟨_, rfl⟩
        obtain ⟨pc, hpc⟩ : ∃ g, rv (bare t.c) = g := ⟨_, rfl⟩
        rw [hpc] at ua1 tb2 EQc
        rw [hpb] at tb1 EQb
        rw [hpa] at tb0 EQa
        by_cases h1 : f = 1
        · have e1 : (f == 1) = true := by simp [h1]
          have e2 : (f == 2) = false := by simp [h1]
          rw [if_pos h1, hpb] at ua0
          clear h1 hpa hpb hpc hf0 hf2 hkm hfb
          go_upto_region 16 with (first | go_skip)
          as_aux_lemma =>
            have gf := fun x' : Grow v0 => x'.ext.later cf
            refine wp_region_grow (by kernel_rfl) (by kernel_rfl) ?_
            (repeat (first | (go_big_quiet_want; refine quiet_load_cells 63 _ g1 (k * 21 + 14) (vl 7 p0) _ rfl rfl (by rintro _ ⟨x', rfl⟩; exact range_later ua2 x'.ext) Tryd.underlying63 rfl (by rw [vl_len]; kernel_rfl) ?_; simp only [Act.put, List.setIfInBounds_toArray, List.set_cons_succ, List.set_cons_zero]; go_big_quiet_on) | (go_big_quiet_want; refine quiet_load_cells 63 _ bx (0) (vl 7 p0) _ rfl rfl (by rintro _ ⟨x', rfl⟩; exact range_later XR x'.ext) Tryd.underlying63 rfl (by rw [vl_len]; kernel_rfl) ?_; simp only [Act.put, List.setIfInBounds_toArray, List.set_cons_succ, List.set_cons_zero]; go_big_quiet_on) | (go_big_quiet_want; refine quiet_load_cells 63 _ g1 (k * 21 + 7) (vl 7 pc) _ rfl rfl (by rintro _ ⟨x', rfl⟩; exact range_later ua1 x'.ext) Tryd.underlying63 rfl (by rw [vl_len]; kernel_rfl) ?_; simp only [Act.put, List.setIfInBounds_toArray, List.set_cons_succ, List.set_cons_zero]; go_big_quiet_on) | (go_big_quiet_want; refine quiet_load_cells 63 _ g1 (k1 * 21 + 14) (vl 7 pc) _ rfl rfl (by rintro _ ⟨x', rfl⟩; exact range_later tb2 x'.ext) Tryd.underlying63 rfl (by rw [vl_len]; kernel_rfl) ?_; simp only [Act.put, List.setIfInBounds_toArray, List.set_cons_succ, List.set_cons_zero]; go_big_quiet_on) | (go_big_quiet_want; refine quiet_load_cells 63 _ g1 (k * 21) (vl 7 pb) _ rfl rfl (by rintro _ ⟨x', rfl⟩; exact range_later ua0 x'.ext) Tryd.underlying63 rfl (by rw [vl_len]; kernel_rfl) ?_; simp only [Act.put, List.setIfInBounds_toArray, List.set_cons_succ, List.set_cons_zero]; go_big_quiet_on) | (go_big_quiet_want; refine quiet_load_cells 63 _ g1 (k1 * 21 + 7) (vl 7 pb) _ rfl rfl (by rintro _ ⟨x', rfl⟩; exact range_later tb1 x'.ext) Tryd.underlying63 rfl (by rw [vl_len]; kernel_rfl) ?_; simp only [Act.put, List.setIfInBounds_toArray, List.set_cons_succ, List.set_cons_zero]; go_big_quiet_on) | go_big_quiet_step (fail)))
            refine wpQuiet_nil ?_
            clear gf
            rintro _ ⟨xr, rfl⟩
            have EV2 := EV1.trans xr.ext
            go_wp2_with (first | go_skip)
            go_roundg (gk - 1)
            case measure => omega
            case rel => exact ⟨k + 1, i + 1, P ++ [u], by rw [List.length_append, HK.out]; rfl, by omega, by go_num, by go_num, EV2, HF2⟩
        · have e1 : (f == 1) = false := by simp [h1]
          have e2 : (f == 2) = true := by simp; omega
          rw [if_neg h1, hpa] at ua0
          clear h1 hpa hpb hpc hf0 hf2 hkm hfb
          go_upto_region 16 with (first | go_skip)
          as_aux_lemma =>
            have gf := fun x' : Grow v0 => x'.ext.later cf
            refine wp_region_grow (by kernel_rfl) (by kernel_rfl) ?_
            (repeat (first | (go_big_quiet_want; refine quiet_load_cells 63 _ g1 (k * 21 + 14) (vl 7 p0) _ rfl rfl (by rintro _ ⟨x', rfl⟩; exact range_later ua2 x'.ext) Tryd.underlying63 rfl (by rw [vl_len]; kernel_rfl) ?_; simp only [Act.put, List.setIfInBounds_toArray, List.set_cons_succ, List.set_cons_zero]; go_big_quiet_on) | (go_big_quiet_want; refine quiet_load_cells 63 _ bx (0) (vl 7 p0) _ rfl rfl (by rintro _ ⟨x', rfl⟩; exact range_later XR x'.ext) Tryd.underlying63 rfl (by rw [vl_len]; kernel_rfl) ?_; simp only [Act.put, List.setIfInBounds_toArray, List.set_cons_succ, List.set_cons_zero]; go_big_quiet_on) | (go_big_quiet_want; refine quiet_load_cells 63 _ g1 (k * 21 + 7) (vl 7 pc) _ rfl rfl (by rintro _ ⟨x', rfl⟩; exact range_later ua1 x'.ext) Tryd.underlying63 rfl (by rw [vl_len]; kernel_rfl) ?_; simp only [Act.put, List.setIfInBounds_toArray, List.set_cons_succ, List.set_cons_zero]; go_big_quiet_on) | (go_big_quiet_want; refine quiet_load_cells 63 _ g1 (k1 * 21 + 14) (vl 7 pc) _ rfl rfl (by rintro _ ⟨x', rfl⟩; exact range_later tb2 x'.ext) Tryd.underlying63 rfl (by rw [vl_len]; kernel_rfl) ?_; simp only [Act.put, List.setIfInBounds_toArray, List.set_cons_succ, List.set_cons_zero]; go_big_quiet_on) | (go_big_quiet_want; refine quiet_load_cells 63 _ g1 (k * 21) (vl 7 pa) _ rfl rfl (by rintro _ ⟨x', rfl⟩; exact range_later ua0 x'.ext) Tryd.underlying63 rfl (by rw [vl_len]; kernel_rfl) ?_; simp only [Act.put, List.setIfInBounds_toArray, List.set_cons_succ, List.set_cons_zero]; go_big_quiet_on) | (go_big_quiet_want; refine quiet_load_cells 63 _ g1 (k1 * 21) (vl 7 pa) _ rfl rfl (by rintro _ ⟨x', rfl⟩; exact range_later tb0 x'.ext) Tryd.underlying63 rfl (by rw [vl_len]; kernel_rfl) ?_; simp only [Act.put, List.setIfInBounds_toArray, List.set_cons_succ, List.set_cons_zero]; go_big_quiet_on) | go_big_quiet_step (fail)))
            refine wpQuiet_nil ?_
            clear gf
            rintro _ ⟨xr, rfl⟩
            have EV2 := EV1.trans xr.ext
            go_wp2_with (first | go_skip)
            go_roundg (gk - 1)
            case measure => omega
            case rel => exact ⟨k + 1, i + 1, P ++ [u], by rw [List.length_append, HK.out]; rfl, by omega, by go_num, by go_num, EV2, HF2⟩
    · have hii : ¬ (i : Int) < (N : Int) := by omega
      obtain rfl : i = N := by omega
      have hkm1 : k = m1 := by
        have := HF.out.eq
        rw [HO.out.1] at this
        rw [← HK.out, ← HO.out.2.1, (Prod.mk.inj this).2]
      subst hkm1
      have EW := EX.trans EV
      clear hkm
      go_wp2_with (first | go_skip | (go_at_call 8; with_reducible refine (HLV.out _ EW).mono ?_; rintro e v9 ⟨rfl, x9⟩))
      go_ret
      exact ⟨rfl, EW.trans x9⟩
end Go.Proofs.YthlhmfjopjikpaaDoor
