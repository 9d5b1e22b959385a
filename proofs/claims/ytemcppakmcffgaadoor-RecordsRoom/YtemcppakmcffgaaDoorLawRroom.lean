/- The law RecordsRoom, walked. -/
import Derived.Test.YtemcppakmcffgaaDoorRoomM
namespace Go.Proofs.YtemcppakmcffgaaDoor
open Go.RowKit Go.BigFrame
set_option linter.unusedSimpArgs false
set_option linter.unusedVariables false
set_option maxRecDepth 20000



set_option maxHeartbeats 8000000 in
theorem rroom_yes (L : Lay) (fl c p n sz N : Nat) (V : Vl L fl c p n sz) (h5 : L.t = 5 → 0 ≤ L.f ∧ L.f ≤ 60) (a : Option Addr) (cap : Nat) (Q : Nat → Rcd) (z0 z1 : Int) (hz0 : 0 ≤ z0 ∧ z0 ≤ 255) (hz1 : 0 ≤ z1 ∧ z1 ≤ 255) (w : World) (TL : LaidL w) (B : Vs w a N Q) (hN : N ≤ 100) (hN1 : 1 ≤ N) :
    Calls Tryd.prog 7 #[(.agg (lv (L))), .slice a N cap, .agg #[.int .u8 z0, .int .u8 z1]] w fun e w' => e = .returned (.bool true) ∧ Ext w w' := by
  have EX := Ext.refl w
  obtain ⟨i0, hi0, hz0', hz1', hz2'⟩ := info_parts info_recG
  have s1 := V.s1
  have hmay : mayl L = true := by have := V.may; unfold vlay at this; exact (Bool.and_eq_true_iff.1 this).1
  have ht45 : L.t = 4 ∨ L.t = 5 := by have := V.may; unfold vlay at this; simpa using (Bool.and_eq_true_iff.1 this).2
  have CK : ∀ v, Ext w v → Calls Tryd.prog 17 #[(.agg (lv (L)))] v fun e w' => e = .returned (.int .i64 0) ∧ Ext v w' := fun v h => by have := lcheck_any L v (TL.later h); rwa [if_pos hmay] at this
  have PC : Hid (∀ R a' cap' v, Ext w v → Vs v a' N R → Calls Tryd.prog 19 #[(.agg (lv (L))), .slice a' N cap'] v (PutAll L R N v)) := fun R a' cap' v h B' => put_all L N cap' a' R v (TL.later h) B' (by omega)
  have HV : Hid (Vl L fl c p n sz) := V
  have HB : Hid (Vs w a N Q) := B
  have HT : Hid (LaidL w) := TL
  have HF5 : Hid (L.t = 5 → 0 ≤ L.f ∧ L.f ≤ 60) := h5
  have t5 : decide ((5 : Int) < L.t) = false := decide_eq_false (by omega)
  have n100 : decide ((100 : Int) < (N : Int)) = false := decide_eq_false (by omega)
  have nn0 : ((N : Int) == 0) = false := by simp; omega
  have hres : ∀ P : Prop, (L.t == 5) = true ∧ decide (L.f < 0) = false ∧ decide ((60 : Int) < L.f) = false ∨ (L.t == 5) = false := fun _ => by
    by_cases h : L.t = 5
    · have := h5 h; exact .inl ⟨by simp [h], decide_eq_false (by omega), decide_eq_false (by omega)⟩
    · exact .inr (by simp [h])
  have hres := hres True
  clear V B TL h5 hmay ht45
  go_enter Tryd.func7, Tryd.ntmps7
  go_upto_region 1 with fail
  refine rebase (G := fun w' => Code.wp _ _ _ _ w') _ (fun v => Ext w v ∧ Lm v (w.heap.size) (L) ∧ S2m v (w.heap.size + 1) (.int .u8 z0) (.int .u8 z1)) ⟨(EX.alloc _).alloc _, (Lm.new rfl).alloc _, S2m.new (by simp) rfl rfl⟩ ?_
  obtain ⟨b0, hb0⟩ : ∃ b0, w.heap.size = b0 := ⟨_, rfl⟩
  rw [hb0]
  clear EX
  rintro v ⟨EX, LB, ZB⟩
  have LBc0 := LB.c0; have LBc1 := LB.c1; have LBc2 := LB.c2; have LBc3 := LB.c3; have LBc4 := LB.c4; have LBc5 := LB.c5; have LBdg := LB.dg; have LBfz := LB.fz; have LBlt := LB.lt; have ZBc0 := ZB.c0; have ZBc1 := ZB.c1; have ZBfz := ZB.fz; have ZBlt := ZB.lt
  go_cut [3, 5, 48] (fun s3 s5 s48 wc => s3 = .pointer (some ⟨b0, 0, none⟩) ∧ s5 = .pointer (some ⟨b0 + 1, 0, none⟩) ∧ s48 = .bool false ∧ Ext w wc ∧ Lm wc (b0) (L) ∧ S2m wc (b0 + 1) (.int .u8 z0) (.int .u8 z1))
  case first =>
    rcases hres with ⟨r1, r2, r3⟩ | r1
    all_goals
      go_wp2_with (first | go_skip | (refine wpList_load_layh (b0) _ rfl rfl LB rfl ?_) | (go_at_call 17; with_reducible refine (CK _ EX).mono ?_; rintro e v1 ⟨rfl, hb⟩; replace EX := Ext.trans EX hb; replace LB := LB.later hb; replace ZB := ZB.later hb; replace LBc0 := LB.c0; replace LBc1 := LB.c1; replace LBc2 := LB.c2; replace LBc3 := LB.c3; replace LBc4 := LB.c4; replace LBc5 := LB.c5; replace LBdg := LB.dg; replace LBfz := LB.fz; replace LBlt := LB.lt; replace ZBc0 := ZB.c0; replace ZBc1 := ZB.c1; replace ZBfz := ZB.fz; replace ZBlt := ZB.lt; clear hb v; rename World => v))
      go_meet
      case rel => exact ⟨rfl, rfl, rfl, EX, LB, ZB⟩
  case rest =>
  clear LBc0 LBc1 LBc2 LBc3 LBc4 LBc5 LBdg LBfz LBlt ZBc0 ZBc1 ZBfz ZBlt
  clear EX LB ZB hres CK t5
  obtain ⟨h3, h5, h48, EX, LB, ZB⟩ := hcut
  subst h3 h5 h48
  rename World => v
  have LBc0 := LB.c0; have LBc1 := LB.c1; have LBc2 := LB.c2; have LBc3 := LB.c3; have LBc4 := LB.c4; have LBc5 := LB.c5; have LBdg := LB.dg; have LBfz := LB.fz; have LBlt := LB.lt; have ZBc0 := ZB.c0; have ZBc1 := ZB.c1; have ZBfz := ZB.fz; have ZBlt := ZB.lt
  go_upto_region 5 with fail
  clear LBc0 LBc1 LBc2 LBc3 LBc4 LBc5 LBdg LBfz LBlt ZBc0 ZBc1 ZBfz ZBlt
  go_loopg [7, 8] N (fun gk ov iv wr => ∃ (j : Nat) (sv : Value), sv = ov ∧ j + gk = N ∧ iv = .int .i64 j ∧ Ext w wr ∧ Lm wr (b0) (L) ∧ S2m wr (b0 + 1) (.int .u8 z0) (.int .u8 z1) ∧ Lst wr 63 7 sv j (fun i => rv (fitR fl c p n (Q i))) ∧ ∀ b, sv.ownBlock = some b → b0 + 2 ≤ b)
  case atStart => exact ⟨0, _, rfl, by omega, rfl, EX, LB, ZB, Lst.nil _ _ _ _, by simp [Value.ownBlock]⟩
  case round =>
    clear EX LB ZB v
    obtain ⟨j, sv, rfl, hj, rfl, EX, LB, ZB, SL, hnew⟩ := hrel
    obtain ⟨v, hv⟩ : ∃ v, v = wr := ⟨_, rfl⟩
    subst hv
    by_cases hlt : j < N
    · have hji : (j : Int) < (N : Int) := by omega
      obtain ⟨bv, ov, rfl, hr⟩ := HB.out.es.form (by omega)
      have hbvw : bv < w.heap.size := cell_lt (hr j hlt 0 _ rfl)
      have RX := range_later (hr j hlt) EX
      have f1 := HB.out.f j hlt
      have f2 := HB.out.x j hlt
      have f3 := HB.out.y j hlt
      have f4 : ∀ k, k < 4 → 0 ≤ (Q j).c k ∧ (Q j).c k < 65536 := fun k hk => HB.out.c j k hlt hk
      have FT : ∀ v1, Calls Tryd.prog 18 #[.agg (lv L), .agg (vl 7 (rv (Q j))).toArray] v1 fun e w' => e = .returned (.agg (vl 7 (rv (fitR fl c p n (Q j)))).toArray) ∧ Ext v1 w' := fun v1 => fitting_is L fl c p n sz HV.out HF5.out (Q j).f (Q j).x (Q j).y (Q j).c f1 f2 f3 f4 v1
      have hone := rv_one (fitR fl c p n (Q j))
      obtain ⟨g, hg⟩ : ∃ g, rv (Q j) = g := ⟨_, rfl⟩
      obtain ⟨h, hh⟩ : ∃ h, rv (fitR fl c p n (Q j)) = h := ⟨_, rfl⟩
      rw [hg] at RX FT
      rw [hh] at FT hone
      have HH : Hid (rv (fitR fl c p n (Q j)) = h) := hh
      clear hr f1 f2 f3 f4 hg hh
      have hnv : ¬ (sv.ownBlock = some bv) := fun h => by have := hnew bv h; omega
      have nLB : ¬ (sv.ownBlock = some (b0)) := fun h => by have := hnew _ h; omega
      have nZB : ¬ (sv.ownBlock = some (b0 + 1)) := fun h => by have := hnew _ h; omega
      have hl0 := LB.lt
      go_upto_region 7 with fail
      have gLB := fun x' : Alt (fun b => sv.ownBlock = some b) v => (LB.vm.blk2 (x'.chg.block b0 LB.lt nLB) x'.chg.size).lm
      refine wp_region_phases [(true, [0,1,2,3,4,5]), (false, [6,7,8,9])] (fun w' => ∃ x : Alt (fun b => sv.ownBlock = some b) v, w' = x.out) (by kernel_rfl) (by kernel_rfl) (fun c a x v w h => by cases x <;> exact h) ⟨⟨v.drew, (Chg.refl _ v).drew⟩, rfl⟩ ?_
      intro pl hpl
      simp [pickO] at hpl
      subst hpl
      unfold wpPh
      (repeat (first | (go_big_quiet_want; refine quiet_load_lay _ (b0) rfl rfl (by rintro _ ⟨x', rfl⟩; exact gLB x') ?_; simp only [Act.put, List.setIfInBounds_toArray, List.set_cons_succ, List.set_cons_zero]; go_big_quiet_on) | (go_big_quiet_want; refine quiet_load_cells 63 (.tmp 60) bv (ov + j * 7) (vl 7 g) _ rfl rfl (by rintro _ ⟨x', rfl⟩; exact range_chg RX x'.chg hnv) Tryd.underlying63 rfl (by rw [vl_len]; kernel_rfl) ?_; simp only [Act.put, List.setIfInBounds_toArray, List.set_cons_succ, List.set_cons_zero]; go_big_quiet_on) | go_big_quiet_step (fail))); refine wpQuiet_nil ?_; clear gLB
      have hE0 : Ext v v.drew := (Ext.refl v).drew
      unfold wpPh
      refine holdk_step fun K hK => ?_
      go_wp2_with (first | (go_at_call 18; refine (FT _).mono ?_; rintro e v1 ⟨rfl, hb⟩))
      have hE := hE0.trans hb
      refine hK _ _ ⟨⟨v1, Chg.of hE⟩, rfl⟩ ?_
      clear hK K
      simp only [vl7]
      refine holdk_step fun K hK => ?_
      go_wp2
      have hE2 := hE.alloc (.cells #[h 0, h 1, h 2, h 3, h 4, h 5, h 6] 63)
      have NB : ∀ k u, ([h 0, h 1, h 2, h 3, h 4, h 5, h 6] : List Value)[k]? = some u → (v1.alloc (.cells #[h 0, h 1, h 2, h 3, h 4, h 5, h 6] 63)).cell? ((⟨v1.heap.size, 0, none⟩ : Addr).add k) = some u := World.news_of_block (cs := #[h 0, h 1, h 2, h 3, h 4, h 5, h 6]) (t := 63) (fr := (0, 0)) (heap_alloc_new v1 _)
      have SL2 : (v1.alloc (.cells #[h 0, h 1, h 2, h 3, h 4, h 5, h 6] 63)).ownsRow 0 63 7 sv j (ew 7 j (fun i => rv (fitR fl c p n (Q i)))) := SL.later hE2
      refine hK _ _ ⟨⟨_, Chg.of hE2⟩, rfl⟩ ?_
      clear hK K
      have hv1 := hE.more
      generalize hv2 : v1.alloc (.cells #[h 0, h 1, h 2, h 3, h 4, h 5, h 6] 63) = v2 at *
      have hv2s : v1.heap.size + 1 = v2.heap.size := by rw [← hv2]; simp
      refine holdk_step fun K hK => ?_
      go_wp2_with (first | (at_builtin; refine wpList_append_lst _ (by rfl) _ _ _ (by rfl) 63 i0 _ 7 20 Tryd.underlying31 hi0 hz0' hz1' hz2' rfl (by omega) sv j _ (by rfl) SL2 ⟨v1.heap.size, 0, none⟩ 1 1 [h 0, h 1, h 2, h 3, h 4, h 5, h 6] (by rfl) (by rfl) NB hone (by omega) (by unfold maxLen; omega) (by omega) ?_))
      intro gg cap' v3 own hat
      have HAT : Hid ((sv = .slice (some ⟨gg, 0, none⟩) j cap' ∧ v2.grownBy v3 (some gg)) ∨ (v2.heap.size ≤ gg ∧ v2.grownBy v3 none)) := hat
      clear hat
      have CH2 : Chg (fun b => sv.ownBlock = some b) v2 v3 := by
        rcases HAT.out with ⟨h, h'⟩ | ⟨_, h'⟩
        · exact Chg.grown h' (fun b hb => by rw [h]; exact hb)
        · exact Chg.grown h' (fun b hb => by cases hb)
      have CH : Chg (fun b => sv.ownBlock = some b) v v3 := (Chg.of hE2).trans CH2 (fun b h => .inl h)
      have OWN : Hid (Lst v3 63 7 (.slice (some ⟨gg, 0, none⟩) (j + 1) cap') (j + 1) (upe (fun i => rv (fitR fl c p n (Q i))) j h)) := Lst.snoc own
      clear own
      go_wp2
      refine hK _ _ ⟨⟨v3, CH⟩, rfl⟩ ?_
      clear hK K
      refine holdk_step fun K hK => ?_
      go_wp2
      refine hK _ _ ⟨⟨v3, CH⟩, rfl⟩ ?_
      clear hK K
      unfold wpHoldK wpPh
      go_wp2
      have hx := CH.size
      go_roundg (gk - 1)
      case measure => omega
      case rel =>
        refine ⟨j + 1, _, rfl, by omega, by go_num, CH.over EX (fun b hb => by have := hnew b hb; omega), (LB.vm.blk2 (CH.block b0 LB.lt nLB) CH.size).lm, ZB.blk (CH.block (b0 + 1) ZB.lt nZB) CH.size, OWN.out.congr fun i t hi ht => ?_, fun b hb => ?_⟩
        · unfold upe
          by_cases e : i = j
          · rw [if_pos e, e, HH.out]
          · rw [if_neg e]
        · simp only [Value.ownBlock, Option.some.injEq] at hb
          subst hb
          rcases HAT.out with ⟨h, _⟩ | ⟨h, _⟩
          · exact hnew gg (by rw [h]; rfl)
          · omega

    · have hji : ¬ (j : Int) < (N : Int) := by omega
      obtain rfl : j = N := by omega
      have LBc0 := LB.c0; have LBc1 := LB.c1; have LBc2 := LB.c2; have LBc3 := LB.c3; have LBc4 := LB.c4; have LBc5 := LB.c5; have LBdg := LB.dg; have LBfz := LB.fz; have LBlt := LB.lt; have ZBc0 := ZB.c0; have ZBc1 := ZB.c1; have ZBfz := ZB.fz; have ZBlt := ZB.lt
      obtain ⟨g, cg, rfl⟩ := SL.form (by omega)
      have hg2 : b0 + 2 ≤ g := hnew g rfl
      have hgl := SL.lt
      clear hnew
      obtain ⟨x, hx⟩ : ∃ x : Nat, z0 % (j : Int) = (x : Int) := ⟨(z0 % (j : Int)).toNat, (Int.toNat_of_nonneg (Int.emod_nonneg _ (by omega))).symm⟩
      have hxj : x < j := by have := Int.emod_lt_of_pos z0 (show (0 : Int) < (j : Int) by omega); omega
      have hK7 : z1 % 7 = 0 ∨ z1 % 7 = 1 ∨ z1 % 7 = 2 ∨ z1 % 7 = 3 ∨ z1 % 7 = 4 ∨ z1 % 7 = 5 ∨ z1 % 7 = 6 := by omega
      have HX0 : Hid (0 ≤ z0 ∧ z0 ≤ 255 ∧ 0 ≤ z1 ∧ z1 ≤ 255) := ⟨hz0.1, hz0.2, hz1.1, hz1.2⟩
      have z0a := hz0.1
      have z0b := hz0.2
      have z1a := hz1.1
      have z1b := hz1.2
      have hj0 : ¬ (j : Int) = 0 := by omega
      clear hlt hji hj
      go_upto_region 11 with fail
      rw [hx]
      iterate 7 (first | go_values | go_skip | go_guarded | go_step | go_upon | go_back)
      generalize z1 % 7 = K at *
      clear hx z0a z0b z1a z1b hz0 hz1 HX0 hj0
      clear LBc0 LBc1 LBc2 LBc3 LBc4 LBc5 LBdg LBfz LBlt ZBc0 ZBc1 ZBfz ZBlt
      clear ZB
      have HV5 : Hid (Vs v (some ⟨g, 0, none⟩) j (fun i => fitR fl c p n (Q i))) := fit_vs HV.out (SL.es_rec (by omega))
      go_cut [10] (fun s10 wc => ∃ mr : Bool, s10 = .bool mr ∧ Ext w wc ∧ Lm wc (b0) (L) ∧ Hid (Wrote fl c p n wc (some ⟨g, 0, none⟩) j x mr))
      case first =>
        have LBc0 := LB.c0; have LBc1 := LB.c1; have LBc2 := LB.c2; have LBc3 := LB.c3; have LBc4 := LB.c4; have LBc5 := LB.c5; have LBdg := LB.dg; have LBfz := LB.fz; have LBlt := LB.lt
        have hc1 := HV.out.ec
        have hp1 := HV.out.ep
        have hn1 := HV.out.en
        have n4 := HV.out.n1
        have c32 := HV.out.c1
        have p16 := HV.out.p1
        rcases hK7 with rfl | rfl | rfl | rfl | rfl | rfl | rfl
        · as_aux_lemma =>
          have hcell := SL.cell hxj (show 3 + 0 < 7 by decide)
          obtain ⟨y, hy, HY⟩ : ∃ y : Int, rv (fitR fl c p n (Q x)) (3 + 0) = .int .u16 y ∧ Hid (y = (fitR fl c p n (Q x)).c 0) := ⟨_, rfl, rfl⟩
          rw [hy] at hcell
          clear hy
          by_cases hk : 0 < n
          · have d1 : decide ((0 : Int) < (n : Int)) = true := decide_eq_true (by omega)
            go_upto_region 20 with fail
            obtain ⟨bit, hbit⟩ : ∃ bit, IntKind.u16.wrap (2 ^ p % 4294967296) = bit := ⟨_, rfl⟩
            rw [hbit]
            obtain ⟨mr, hmr⟩ : ∃ mr, (bit != 0) = mr := ⟨_, rfl⟩
            rw [hmr]
            have HB2 : Hid ((0 ≤ bit ∧ bit < 2 ^ 16) ∧ ((mr = true ∧ bit = 2 ^ p) ∨ (mr = false ∧ bit = 0))) := bit_or p16.2 (by rw [← shl16' p16.2]; exact hbit) hmr
            clear hmr hbit
            have fx := World.ownsRow.frozenAt SL (x * 7 + (3 + 0)); have HH : Hid (Ext w v ∧ Lm v b0 L ∧ Lst v 63 7 (.slice (some ⟨g, 0, none⟩) j cg) j (fun i => rv (fitR fl c p n (Q i))) ∧ Vs v (some ⟨g, 0, none⟩) j (fun i => fitR fl c p n (Q i))) := ⟨EX, LB, SL, HV5.out⟩; clear EX LB SL HV5; go_region
            go_wp2
            go_meet
            case rel =>
              obtain ⟨EX, LB, SL, V5⟩ := HH.out
              have yb := V5.c x 0 hxj (by decide)
              refine ⟨_, rfl, (EX.setCell (by dsimp only; omega) _).drew, (LB.skip (by omega)).drew, (wrote_c (k := 0) SL V5 (fun i _ => fit_room _ _ _ _ _) hxj (by decide) ?_ ?_).drew⟩
              · rw [← HY.out] at yb
                have := or16_bd y bit yb.1 yb.2 HB2.out.1.1 HB2.out.1.2
                exact ⟨Int.le_trans HB2.out.1.1 this.1, this.2⟩
              · rw [← HY.out] at yb ⊢
                rcases HB2.out.2 with ⟨h1, h2⟩ | ⟨h1, h2⟩
                · exact .inl ⟨h1, .inl ⟨hk, by rw [← h2]; exact (or16_bd y bit yb.1 yb.2 HB2.out.1.1 HB2.out.1.2).1⟩⟩
                · exact .inr ⟨h1, by rw [h2]; exact or16_0 y yb.1 yb.2⟩
          · exact absurd n4.1 (by omega)
        · as_aux_lemma =>
          have hcell := SL.cell hxj (show 3 + 1 < 7 by decide)
          obtain ⟨y, hy, HY⟩ : ∃ y : Int, rv (fitR fl c p n (Q x)) (3 + 1) = .int .u16 y ∧ Hid (y = (fitR fl c p n (Q x)).c 1) := ⟨_, rfl, rfl⟩
          rw [hy] at hcell
          clear hy
          by_cases hk : 1 < n
          · have d1 : decide ((1 : Int) < (n : Int)) = true := decide_eq_true (by omega)
            go_upto_region 20 with fail
            obtain ⟨bit, hbit⟩ : ∃ bit, IntKind.u16.wrap (2 ^ p % 4294967296) = bit := ⟨_, rfl⟩
            rw [hbit]
            obtain ⟨mr, hmr⟩ : ∃ mr, (bit != 0) = mr := ⟨_, rfl⟩
            rw [hmr]
            have HB2 : Hid ((0 ≤ bit ∧ bit < 2 ^ 16) ∧ ((mr = true ∧ bit = 2 ^ p) ∨ (mr = false ∧ bit = 0))) := bit_or p16.2 (by rw [← shl16' p16.2]; exact hbit) hmr
            clear hmr hbit
            have fx := World.ownsRow.frozenAt SL (x * 7 + (3 + 1)); have HH : Hid (Ext w v ∧ Lm v b0 L ∧ Lst v 63 7 (.slice (some ⟨g, 0, none⟩) j cg) j (fun i => rv (fitR fl c p n (Q i))) ∧ Vs v (some ⟨g, 0, none⟩) j (fun i => fitR fl c p n (Q i))) := ⟨EX, LB, SL, HV5.out⟩; clear EX LB SL HV5; go_region
            go_wp2
            go_meet
            case rel =>
              obtain ⟨EX, LB, SL, V5⟩ := HH.out
              have yb := V5.c x 1 hxj (by decide)
              refine ⟨_, rfl, (EX.setCell (by dsimp only; omega) _).drew, (LB.skip (by omega)).drew, (wrote_c (k := 1) SL V5 (fun i _ => fit_room _ _ _ _ _) hxj (by decide) ?_ ?_).drew⟩
              · rw [← HY.out] at yb
                have := or16_bd y bit yb.1 yb.2 HB2.out.1.1 HB2.out.1.2
                exact ⟨Int.le_trans HB2.out.1.1 this.1, this.2⟩
              · rw [← HY.out] at yb ⊢
                rcases HB2.out.2 with ⟨h1, h2⟩ | ⟨h1, h2⟩
                · exact .inl ⟨h1, .inl ⟨hk, by rw [← h2]; exact (or16_bd y bit yb.1 yb.2 HB2.out.1.1 HB2.out.1.2).1⟩⟩
                · exact .inr ⟨h1, by rw [h2]; exact or16_0 y yb.1 yb.2⟩
          · have d1 : decide ((1 : Int) < (n : Int)) = false := decide_eq_false (by omega)
            go_upto_region 20 with fail
            have fx := World.ownsRow.frozenAt SL (x * 7 + (3 + 1)); have HH : Hid (Ext w v ∧ Lm v b0 L ∧ Lst v 63 7 (.slice (some ⟨g, 0, none⟩) j cg) j (fun i => rv (fitR fl c p n (Q i))) ∧ Vs v (some ⟨g, 0, none⟩) j (fun i => fitR fl c p n (Q i))) := ⟨EX, LB, SL, HV5.out⟩; clear EX LB SL HV5; go_region
            go_wp2
            go_meet
            case rel =>
              obtain ⟨EX, LB, SL, V5⟩ := HH.out
              have yb := V5.c x 1 hxj (by decide)
              refine ⟨_, rfl, (EX.setCell (by dsimp only; omega) _).drew, (LB.skip (by omega)).drew, (wrote_c (k := 1) (mr := true) SL V5 (fun i _ => fit_room _ _ _ _ _) hxj (by decide) ?_ (.inl ⟨rfl, .inr ⟨by omega, ?_⟩⟩)).drew⟩
              · rw [← HY.out] at yb
                have := or16_bd y 1 yb.1 yb.2 (by decide) (by decide)
                exact ⟨Int.le_trans (by decide) this.1, this.2⟩
              · rw [← HY.out] at yb
                exact (or16_bd y 1 yb.1 yb.2 (by decide) (by decide)).1
        · as_aux_lemma =>
          have hcell := SL.cell hxj (show 3 + 2 < 7 by decide)
          obtain ⟨y, hy, HY⟩ : ∃ y : Int, rv (fitR fl c p n (Q x)) (3 + 2) = .int .u16 y ∧ Hid (y = (fitR fl c p n (Q x)).c 2) := ⟨_, rfl, rfl⟩
          rw [hy] at hcell
          clear hy
          by_cases hk : 2 < n
          · have d1 : decide ((2 : Int) < (n : Int)) = true := decide_eq_true (by omega)
            go_upto_region 20 with fail
            obtain ⟨bit, hbit⟩ : ∃ bit, IntKind.u16.wrap (2 ^ p % 4294967296) = bit := ⟨_, rfl⟩
            rw [hbit]
            obtain ⟨mr, hmr⟩ : ∃ mr, (bit != 0) = mr := ⟨_, rfl⟩
            rw [hmr]
            have HB2 : Hid ((0 ≤ bit ∧ bit < 2 ^ 16) ∧ ((mr = true ∧ bit = 2 ^ p) ∨ (mr = false ∧ bit = 0))) := bit_or p16.2 (by rw [← shl16' p16.2]; exact hbit) hmr
            clear hmr hbit
            have fx := World.ownsRow.frozenAt SL (x * 7 + (3 + 2)); have HH : Hid (Ext w v ∧ Lm v b0 L ∧ Lst v 63 7 (.slice (some ⟨g, 0, none⟩) j cg) j (fun i => rv (fitR fl c p n (Q i))) ∧ Vs v (some ⟨g, 0, none⟩) j (fun i => fitR fl c p n (Q i))) := ⟨EX, LB, SL, HV5.out⟩; clear EX LB SL HV5; go_region
            go_wp2
            go_meet
            case rel =>
              obtain ⟨EX, LB, SL, V5⟩ := HH.out
              have yb := V5.c x 2 hxj (by decide)
              refine ⟨_, rfl, (EX.setCell (by dsimp only; omega) _).drew, (LB.skip (by omega)).drew, (wrote_c (k := 2) SL V5 (fun i _ => fit_room _ _ _ _ _) hxj (by decide) ?_ ?_).drew⟩
              · rw [← HY.out] at yb
                have := or16_bd y bit yb.1 yb.2 HB2.out.1.1 HB2.out.1.2
                exact ⟨Int.le_trans HB2.out.1.1 this.1, this.2⟩
              · rw [← HY.out] at yb ⊢
                rcases HB2.out.2 with ⟨h1, h2⟩ | ⟨h1, h2⟩
                · exact .inl ⟨h1, .inl ⟨hk, by rw [← h2]; exact (or16_bd y bit yb.1 yb.2 HB2.out.1.1 HB2.out.1.2).1⟩⟩
                · exact .inr ⟨h1, by rw [h2]; exact or16_0 y yb.1 yb.2⟩
          · have d1 : decide ((2 : Int) < (n : Int)) = false := decide_eq_false (by omega)
            go_upto_region 20 with fail
            have fx := World.ownsRow.frozenAt SL (x * 7 + (3 + 2)); have HH : Hid (Ext w v ∧ Lm v b0 L ∧ Lst v 63 7 (.slice (some ⟨g, 0, none⟩) j cg) j (fun i => rv (fitR fl c p n (Q i))) ∧ Vs v (some ⟨g, 0, none⟩) j (fun i => fitR fl c p n (Q i))) := ⟨EX, LB, SL, HV5.out⟩; clear EX LB SL HV5; go_region
            go_wp2
            go_meet
            case rel =>
              obtain ⟨EX, LB, SL, V5⟩ := HH.out
              have yb := V5.c x 2 hxj (by decide)
              refine ⟨_, rfl, (EX.setCell (by dsimp only; omega) _).drew, (LB.skip (by omega)).drew, (wrote_c (k := 2) (mr := true) SL V5 (fun i _ => fit_room _ _ _ _ _) hxj (by decide) ?_ (.inl ⟨rfl, .inr ⟨by omega, ?_⟩⟩)).drew⟩
              · rw [← HY.out] at yb
                have := or16_bd y 1 yb.1 yb.2 (by decide) (by decide)
                exact ⟨Int.le_trans (by decide) this.1, this.2⟩
              · rw [← HY.out] at yb
                exact (or16_bd y 1 yb.1 yb.2 (by decide) (by decide)).1
        · as_aux_lemma =>
          have hcell := SL.cell hxj (show 3 + 3 < 7 by decide)
          obtain ⟨y, hy, HY⟩ : ∃ y : Int, rv (fitR fl c p n (Q x)) (3 + 3) = .int .u16 y ∧ Hid (y = (fitR fl c p n (Q x)).c 3) := ⟨_, rfl, rfl⟩
          rw [hy] at hcell
          clear hy
          by_cases hk : 3 < n
          · have d1 : decide ((3 : Int) < (n : Int)) = true := decide_eq_true (by omega)
            go_upto_region 20 with fail
            obtain ⟨bit, hbit⟩ : ∃ bit, IntKind.u16.wrap (2 ^ p % 4294967296) = bit := ⟨_, rfl⟩
            rw [hbit]
            obtain ⟨mr, hmr⟩ : ∃ mr, (bit != 0) = mr := ⟨_, rfl⟩
            rw [hmr]
            have HB2 : Hid ((0 ≤ bit ∧ bit < 2 ^ 16) ∧ ((mr = true ∧ bit = 2 ^ p) ∨ (mr = false ∧ bit = 0))) := bit_or p16.2 (by rw [← shl16' p16.2]; exact hbit) hmr
            clear hmr hbit
            have fx := World.ownsRow.frozenAt SL (x * 7 + (3 + 3)); have HH : Hid (Ext w v ∧ Lm v b0 L ∧ Lst v 63 7 (.slice (some ⟨g, 0, none⟩) j cg) j (fun i => rv (fitR fl c p n (Q i))) ∧ Vs v (some ⟨g, 0, none⟩) j (fun i => fitR fl c p n (Q i))) := ⟨EX, LB, SL, HV5.out⟩; clear EX LB SL HV5; go_region
            go_wp2
            go_meet
            case rel =>
              obtain ⟨EX, LB, SL, V5⟩ := HH.out
              have yb := V5.c x 3 hxj (by decide)
              refine ⟨_, rfl, (EX.setCell (by dsimp only; omega) _).drew, (LB.skip (by omega)).drew, (wrote_c (k := 3) SL V5 (fun i _ => fit_room _ _ _ _ _) hxj (by decide) ?_ ?_).drew⟩
              · rw [← HY.out] at yb
                have := or16_bd y bit yb.1 yb.2 HB2.out.1.1 HB2.out.1.2
                exact ⟨Int.le_trans HB2.out.1.1 this.1, this.2⟩
              · rw [← HY.out] at yb ⊢
                rcases HB2.out.2 with ⟨h1, h2⟩ | ⟨h1, h2⟩
                · exact .inl ⟨h1, .inl ⟨hk, by rw [← h2]; exact (or16_bd y bit yb.1 yb.2 HB2.out.1.1 HB2.out.1.2).1⟩⟩
                · exact .inr ⟨h1, by rw [h2]; exact or16_0 y yb.1 yb.2⟩
          · have d1 : decide ((3 : Int) < (n : Int)) = false := decide_eq_false (by omega)
            go_upto_region 20 with fail
            have fx := World.ownsRow.frozenAt SL (x * 7 + (3 + 3)); have HH : Hid (Ext w v ∧ Lm v b0 L ∧ Lst v 63 7 (.slice (some ⟨g, 0, none⟩) j cg) j (fun i => rv (fitR fl c p n (Q i))) ∧ Vs v (some ⟨g, 0, none⟩) j (fun i => fitR fl c p n (Q i))) := ⟨EX, LB, SL, HV5.out⟩; clear EX LB SL HV5; go_region
            go_wp2
            go_meet
            case rel =>
              obtain ⟨EX, LB, SL, V5⟩ := HH.out
              have yb := V5.c x 3 hxj (by decide)
              refine ⟨_, rfl, (EX.setCell (by dsimp only; omega) _).drew, (LB.skip (by omega)).drew, (wrote_c (k := 3) (mr := true) SL V5 (fun i _ => fit_room _ _ _ _ _) hxj (by decide) ?_ (.inl ⟨rfl, .inr ⟨by omega, ?_⟩⟩)).drew⟩
              · rw [← HY.out] at yb
                have := or16_bd y 1 yb.1 yb.2 (by decide) (by decide)
                exact ⟨Int.le_trans (by decide) this.1, this.2⟩
              · rw [← HY.out] at yb
                exact (or16_bd y 1 yb.1 yb.2 (by decide) (by decide)).1
        · as_aux_lemma =>
          have hcell := SL.cell hxj (show 1 < 7 by decide)
          obtain ⟨y, hy, HY⟩ : ∃ y : Int, rv (fitR fl c p n (Q x)) 1 = .int .u32 y ∧ Hid (y = (fitR fl c p n (Q x)).x) := ⟨_, rfl, rfl⟩
          rw [hy] at hcell
          clear hy
          go_upto_region 23 with fail
          have fx := World.ownsRow.frozenAt SL (x * 7 + (1)); have HH : Hid (Ext w v ∧ Lm v b0 L ∧ Lst v 63 7 (.slice (some ⟨g, 0, none⟩) j cg) j (fun i => rv (fitR fl c p n (Q i))) ∧ Vs v (some ⟨g, 0, none⟩) j (fun i => fitR fl c p n (Q i))) := ⟨EX, LB, SL, HV5.out⟩; clear EX LB SL HV5; go_region
          go_wp2
          go_meet
          case rel =>
            obtain ⟨EX, LB, SL, V5⟩ := HH.out
            have yb := V5.x x hxj
            refine ⟨_, rfl, (EX.setCell (by dsimp only; omega) _).drew, (LB.skip (by omega)).drew, (wrote_x SL V5 (fun i _ => fit_room _ _ _ _ _) hxj ?_ ?_).drew⟩
            · rw [← HY.out] at yb
              have h1 : 0 ≤ IntKind.u64.wrap (2 ^ c) % 4294967296 ∧ IntKind.u64.wrap (2 ^ c) % 4294967296 < 4294967296 := ⟨by omega, by omega⟩
              have := or32_bd y _ yb.1 yb.2 h1.1 h1.2
              exact ⟨Int.le_trans h1.1 this.1, this.2⟩
            · rw [← HY.out] at yb ⊢
              have h0 := shl32' c32.2
              by_cases e : c = 32
              · rw [if_pos e] at h0
                exact .inr ⟨decide_eq_false (by omega), by rw [h0]; exact or32_0 y yb.1 yb.2⟩
              · rw [if_neg e] at h0
                have h1 : 0 ≤ IntKind.u64.wrap (2 ^ c) % 4294967296 ∧ IntKind.u64.wrap (2 ^ c) % 4294967296 < 4294967296 := ⟨by omega, by omega⟩
                exact .inl ⟨decide_eq_true (by omega), Int.le_trans (Int.le_of_eq h0.symm) (or32_bd y _ yb.1 yb.2 h1.1 h1.2).1⟩
        · as_aux_lemma =>
          have hcell := SL.cell hxj (show 2 < 7 by decide)
          obtain ⟨y, hy, HY⟩ : ∃ y : Int, rv (fitR fl c p n (Q x)) 2 = .int .u32 y ∧ Hid (y = (fitR fl c p n (Q x)).y) := ⟨_, rfl, rfl⟩
          rw [hy] at hcell
          clear hy
          go_upto_region 26 with fail
          have fx := World.ownsRow.frozenAt SL (x * 7 + (2)); have HH : Hid (Ext w v ∧ Lm v b0 L ∧ Lst v 63 7 (.slice (some ⟨g, 0, none⟩) j cg) j (fun i => rv (fitR fl c p n (Q i))) ∧ Vs v (some ⟨g, 0, none⟩) j (fun i => fitR fl c p n (Q i))) := ⟨EX, LB, SL, HV5.out⟩; clear EX LB SL HV5; go_region
          go_wp2
          go_meet
          case rel =>
            obtain ⟨EX, LB, SL, V5⟩ := HH.out
            have yb := V5.y x hxj
            refine ⟨_, rfl, (EX.setCell (by dsimp only; omega) _).drew, (LB.skip (by omega)).drew, (wrote_y SL V5 (fun i _ => fit_room _ _ _ _ _) hxj ?_ ?_).drew⟩
            · rw [← HY.out] at yb
              have h1 : 0 ≤ IntKind.u64.wrap (2 ^ c) % 4294967296 ∧ IntKind.u64.wrap (2 ^ c) % 4294967296 < 4294967296 := ⟨by omega, by omega⟩
              have := or32_bd y _ yb.1 yb.2 h1.1 h1.2
              exact ⟨Int.le_trans h1.1 this.1, this.2⟩
            · rw [← HY.out] at yb ⊢
              have h0 := shl32' c32.2
              by_cases e : c = 32
              · rw [if_pos e] at h0
                exact .inr ⟨decide_eq_false (by omega), by rw [h0]; exact or32_0 y yb.1 yb.2⟩
              · rw [if_neg e] at h0
                have h1 : 0 ≤ IntKind.u64.wrap (2 ^ c) % 4294967296 ∧ IntKind.u64.wrap (2 ^ c) % 4294967296 < 4294967296 := ⟨by omega, by omega⟩
                exact .inl ⟨decide_eq_true (by omega), Int.le_trans (Int.le_of_eq h0.symm) (or32_bd y _ yb.1 yb.2 h1.1 h1.2).1⟩
        · as_aux_lemma =>
          have hcell : v.cell? ⟨g, x * 7, none⟩ = some (rv (fitR fl c p n (Q x)) 0) := SL.cell hxj (show 0 < 7 by decide)
          obtain ⟨y, hy, HY⟩ : ∃ y : Int, rv (fitR fl c p n (Q x)) 0 = .int .u8 y ∧ Hid (y = (fitR fl c p n (Q x)).f) := ⟨_, rfl, rfl⟩
          rw [hy] at hcell
          clear hy
          have f8 := HV.out.f8
          have hfe := HV.out.ef
          unfold flg at hfe
          rcases (show L.t = 4 ∨ L.t = 5 by have := HV.out.may; unfold vlay at this; simpa using (Bool.and_eq_true_iff.1 this).2) with e4 | e4
          · have d1 : (L.t == 4) = true := by simp [e4]
            have hf1 : L.f = (fl : Int) := by rw [if_neg (by omega)] at hfe; exact hfe
            clear hfe e4
            go_upto_region 32 with fail
            rw [mod_mod8]
            obtain ⟨bit, hbit⟩ : ∃ bit, (2 : Int) ^ fl % 256 = bit := ⟨_, rfl⟩
            rw [hbit]
            obtain ⟨mr, hmr⟩ : ∃ mr, (bit != 0) = mr := ⟨_, rfl⟩
            rw [hmr]
            have HB2 : Hid ((0 ≤ bit ∧ bit < 2 ^ 8) ∧ ((mr = true ∧ bit = 2 ^ fl) ∨ (mr = false ∧ bit = 0))) := bit_or f8 (by rw [← shl8'' f8]; exact hbit) hmr
            clear hmr hbit
            have fx := World.ownsRow.frozenAt SL (x * 7)
            go_wp2
            go_meet
            case rel =>
              have yb := HV5.out.f x hxj
              refine ⟨_, rfl, EX.setCell (by dsimp only; omega) _, LB.skip (by omega), wrote_f SL HV5.out (fun i _ => fit_room _ _ _ _ _) hxj ?_ ?_⟩
              · rw [← HY.out] at yb
                have := or8_bd y bit yb.1 yb.2 HB2.out.1.1 HB2.out.1.2
                exact ⟨Int.le_trans HB2.out.1.1 this.1, this.2⟩
              · rw [← HY.out] at yb ⊢
                rcases HB2.out.2 with ⟨h1, h2⟩ | ⟨h1, h2⟩
                · exact .inl ⟨h1, by rw [← h2]; exact (or8_bd y bit yb.1 yb.2 HB2.out.1.1 HB2.out.1.2).1⟩
                · exact .inr ⟨h1, by rw [h2]; exact or8_0 y yb.1 yb.2⟩
          · have d1 : (L.t == 4) = false := by simp [e4]
            have hf1 : fl = 0 := by rw [if_pos e4] at hfe; omega
            clear hfe e4
            go_upto_region 32 with fail
            have fx := World.ownsRow.frozenAt SL (x * 7)
            go_wp2
            go_meet
            case rel =>
              have yb := HV5.out.f x hxj
              rw [← HY.out] at yb
              have := or8_bd y 1 yb.1 yb.2 (by decide) (by decide)
              exact ⟨true, rfl, EX.setCell (by dsimp only; omega) _, LB.skip (by omega), wrote_f SL HV5.out (fun i _ => fit_room _ _ _ _ _) hxj ⟨Int.le_trans (by decide) this.1, this.2⟩ (.inl ⟨rfl, by rw [hf1]; exact this.1⟩)⟩
      case rest =>
      clear EX LB SL hK7 HV5 hgl
      obtain ⟨mr, h10, EX, LB, HW⟩ := hcut
      subst h10
      rename World => v
      obtain ⟨R, V5, HRR⟩ := HW.out
      have HR : Hid ((mr = true ∧ ¬ Room fl c p n (R x)) ∨ (mr = false ∧ ∀ i, i < j → Room fl c p n (R i))) := HRR
      clear HRR HW
      have LBc0 := LB.c0; have LBc1 := LB.c1; have LBc2 := LB.c2; have LBc3 := LB.c3; have LBc4 := LB.c4; have LBc5 := LB.c5; have LBdg := LB.dg; have LBfz := LB.fz; have LBlt := LB.lt
      go_upto_region 34 with (first | (refine wpList_load_lay (b0) _ rfl rfl rfl LB ?_) | (go_at_call 19; refine (PC.out R _ _ _ EX V5).mono ?_; rintro e v1 ⟨s2, y, M, rfl, hb, S2, _, hp⟩; replace EX := Ext.trans EX hb; clear hb V5))
      clear LBc0 LBc1 LBc2 LBc3 LBc4 LBc5 LBdg LBfz LBlt
      have TL := HT.out
      rcases HR.out with ⟨h1, h2⟩ | ⟨h1, h2⟩
      · obtain ⟨rfl, rfl⟩ := room_err HV.out hxj h2 hp
        subst h1
        obtain ⟨a2, c2, rfl⟩ := S2.slice
        clear hp S2 HR h2
        go_wp2_with (first | go_skip | (go_at_call 8; with_reducible refine (lives9_any _ (TL.later EX)).mono ?_; rintro e v1 ⟨rfl, hb⟩; replace EX := Ext.trans EX hb; clear hb))
        go_ret
        exact ⟨rfl, EX⟩
      · obtain ⟨rfl, rfl⟩ := put_ok HV.out h2 (by have := Nat.mul_le_mul hN s1.2; omega) hp
        subst h1
        clear hp S2 HR h2
        go_wp2_with (first | go_skip | (go_at_call 8; with_reducible refine (lives9_any _ (TL.later EX)).mono ?_; rintro e v1 ⟨rfl, hb⟩; replace EX := Ext.trans EX hb; clear hb))
        go_ret
        exact ⟨rfl, EX⟩
end Go.Proofs.YtemcppakmcffgaaDoor
