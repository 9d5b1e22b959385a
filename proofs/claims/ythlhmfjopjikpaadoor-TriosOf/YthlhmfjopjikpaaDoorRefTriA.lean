/- The given reference's Of (layer 10), of type 4: vertices one by one. -/
import Derived.Test.YthlhmfjopjikpaaDoorRefTri
import Derived.Test.YthlhmfjopjikpaaDoorLayB
import Derived.Test.YthlhmfjopjikpaaDoorPhases
import Derived.Test.YthlhmfjopjikpaaDoorBookA
import Derived.Deep.LoopGhost
import Derived.Deep.Light
namespace Go.Proofs.YthlhmfjopjikpaaDoor
open Go.RowKit Go.BigFrame
set_option linter.unusedSimpArgs false
set_option linter.unusedVariables false
set_option maxRecDepth 20000
theorem tlay_may {L : Lay} (h : tlay L = true) : mayl L = true ∧ (L.t = 4 ∨ L.t = 5) := by
  unfold tlay at h
  simpa using h
theorem TrAll.four {L : Lay} {Q : Nat → Rcd} {N : Nat} {w w' : World} {x m : Int × List T3} {s : Value} {e : Ending} (hv : tlay L = true) (h4 : L.t = 4) (hc : chL none (ql Q 0 N) = x) (he : e = .returned (.tuple #[s, .int .i64 x.1])) (E : Ext w w')
    (SL : Lst w' 65 21 s x.2.length (fun k => tv (x.2.getD k z3))) (ho : ∀ b, s.ownBlock = some b → w.heap.size ≤ b) : TrAll L Q N w e w' :=
  ⟨s, x.1, x.2.length, fun k => x.2.getD k z3, he, E, SL, ho, .inr (.inr (.inr ⟨hv, h4, by rw [hc], by rw [hc], fun k _ => by rw [hc]⟩))⟩
theorem TrAll.fours {L : Lay} {Q : Nat → Rcd} {N : Nat} {w w' : World} {x : Int} {e : Ending} (hv : tlay L = true) (h4 : L.t = 4) (hc : chL none (ql Q 0 N) = (x, [])) (he : e = .returned (.tuple #[.slice none 0 0, .int .i64 x])) (E : Ext w w') : TrAll L Q N w e w' :=
  TrAll.four (m := (0, [])) hv h4 hc he E (Lst.nil _ _ _ _) (by simp [Value.ownBlock])


set_option maxHeartbeats 8000000 in
theorem rtrios_four (L : Lay) (hv : tlay L = true) (h4 : L.t = 4) (a : Option Addr) (N cap : Nat) (Q : Nat → Rcd) (w : World) (B : Vs w a N Q) (hN : N ≤ 4294967296) : Calls Tryd.prog 11 #[(.agg (lv (L))), .slice a N cap] w fun e w' => TrAll L Q N w e w' := by
  have EX := Ext.refl w
  obtain ⟨i0, hi0, hz0, hz1, hz2⟩ := info_parts info_tri21
  have CK : ∀ v, Calls Tryd.prog 22 #[(.agg (lv (L)))] v fun e w' => e = .returned (.int .i64 0) ∧ Ext v w' := fun v => by have := rcheck_any L v; rwa [if_pos (tlay_may hv).1] at this
  have HB : Hid (Vs w a N Q) := B
  have t4 : (L.t != 4) = false := by simp [h4]
  have t5 : (L.t == 5) = false := by simp [h4]
  have HV : Hid (tlay L = true ∧ L.t = 4) := ⟨hv, h4⟩
  have HN : Hid (N ≤ 4294967296) := hN
  clear B hv h4 hN
  go_enter Tryd.func11, Tryd.ntmps11
  go_upto_region 1 with fail
  refine rebase (G := fun w' => Code.wp _ _ _ _ w') _ (fun v1 => Ext w v1 ∧ Lm v1 (w.heap.size) (L)) ⟨by repeat (first | with_reducible exact EX |  with_reducible refine Ext.alloc ?_ _ | with_reducible refine Ext.drew ?_ | with_reducible refine Ext.drewN ?_ _ | with_reducible refine Ext.setCell ?_ (by first | (simp; done) | omega | (dsimp only; omega)) _), by repeat (first | with_reducible assumption | with_reducible refine Lm.drew ?_ | with_reducible refine Lm.drewN ?_ _ | (with_reducible refine Lm.skip ?_ ?_; focus (first | omega | (simp; done))) | with_reducible refine Lm.set0 ?_ _ | with_reducible refine Lm.set4 ?_ _ | with_reducible refine Lm.set5 ?_ _ | with_reducible refine Lm.setk ?_ _ (by decide) | (with_reducible refine Lm.cells1 ?_; exact ⟨_, by with_reducible assumption⟩) | (with_reducible refine Lm.skips ?_ _ _ ?_; focus (first | omega | (simp; done))) | (with_reducible refine Lm.new ?_ <;> first | rfl | (simp; done)) | (with_reducible refine Lm.fresh ?_ ?_ <;> first | rfl | (simp; done)) | with_reducible refine Lm.alloc ?_ _)⟩ ?_; clear EX ; rintro v1 ⟨EX, LB⟩; rename World => v; have LBc0 := LB.c0; have LBc1 := LB.c1; have LBc2 := LB.c2; have LBc3 := LB.c3; have LBc4 := LB.c4; have LBc5 := LB.c5; have LBdg := LB.dg; have LBfz := LB.fz; have LBlt := LB.lt
  obtain ⟨b0, hb0⟩ : ∃ b0, w.heap.size = b0 := ⟨_, rfl⟩
  rw [hb0] at LB LBc0 LBc1 LBc2 LBc3 LBc4 LBc5 LBdg LBfz LBlt ⊢
  go_upto_region 7 with (first | go_skip | (refine wpList_load_lay (b0) _ rfl rfl rfl LB ?_) | (go_at_call 22; with_reducible refine (CK _).mono ?_; rintro e v1 ⟨rfl, hb⟩; replace EX := Ext.trans EX hb; replace LB := LB.later hb; replace LBc0 := LB.c0; replace LBc1 := LB.c1; replace LBc2 := LB.c2; replace LBc3 := LB.c3; replace LBc4 := LB.c4; replace LBc5 := LB.c5; replace LBdg := LB.dg; replace LBfz := LB.fz; replace LBlt := LB.lt; clear hb v; rename World => v))
  clear LBc0 LBc1 LBc2 LBc3 LBc4 LBc5 LBdg LBfz LBlt
  clear LB CK t4 t5 hb0
  go_loopg [6, 7] N (fun gk ov iv wr => ∃ (i : Nat) (sv : Value) (O : List T3), sv = ov ∧ i + gk = N ∧ iv = .int .i64 i ∧ Ext w wr ∧ Lst wr 65 21 sv O.length (fun k => tv (O.getD k z3)) ∧ (∀ b, sv.ownBlock = some b → w.heap.size ≤ b) ∧ Hid (Chn Q N i O))
  case atStart => exact ⟨0, _, [], rfl, by omega, rfl, EX, Lst.nil _ _ _ _, by simp [Value.ownBlock], Chn.start Q N⟩
  case round =>
    clear EX v
    obtain ⟨i, sv, O, rfl, hi, rfl, EX, SL, hnew, HC⟩ := hrel
    obtain ⟨v, hv⟩ : ∃ v, v = wr := ⟨_, rfl⟩
    subst hv
    by_cases hlt : i < N
    · have hii : (i : Int) < (N : Int) := by omega
      obtain ⟨bv, ov, rfl, hr⟩ := HB.out.es.form (by omega)
      have RX := range_later (hr i hlt) EX
      have HR : Hid (∀ i, i < N → w.rangeAt bv (ov + i * 7) (vl 7 (rv (Q i)))) := hr
      have hbw : bv < w.heap.size := cell_lt (hr i hlt 0 _ rfl)
      have hf := HB.out.f i hlt
      have cf : v.cell? ⟨bv, ov + i * 7, none⟩ = some (.int .u8 (Q i).f) := RX 0 _ rfl
      obtain ⟨f, hfe⟩ : ∃ f, (Q i).f = f := ⟨_, rfl⟩
      rw [hfe] at cf hf
      have HF : Hid ((Q i).f = f) := hfe
      have hN := HN.out
      clear hfe hr RX
      by_cases hA : i = 0 ∧ f ≠ 0
      · obtain ⟨hi0, hf0⟩ := hA
        have f0 : (f != 0) = true := by simp [hf0]
        have i1 : ((i : Int) == 0) = true := by simp [hi0]
        have HE : Hid (chL none (ql Q 0 N) = (6, [])) := by subst hi0; exact HC.out.first hlt (by rw [HF.out]; exact hf0)
        clear hi0
        go_wp2_with (first | go_skip)
        go_ret2
        exact TrAll.fours HV.out.1 HV.out.2 HE.out rfl EX
      by_cases h2 : 2 < f
      · have i1 : ((i : Int) == 0) = false := by simp; omega
        have f2 : decide ((2 : Int) < f) = true := decide_eq_true h2
        go_wp2_with (first | go_skip)
        go_ret2
        exact TrAll.fours HV.out.1 HV.out.2 (HC.out.flag (by omega) hlt (by rw [HF.out]; exact h2)) rfl EX
      have f2 : decide ((2 : Int) < f) = false := decide_eq_false h2
      by_cases h0 : f = 0
      · subst h0
        obtain ⟨bi, hbi⟩ : ∃ bi, ((i : Int) == 0) = bi := ⟨_, rfl⟩
        by_cases hs : N ≤ i + 2
        · have hsi : decide ((N : Int) ≤ (i : Int) + 2) = true := decide_eq_true (by omega)
          cases bi
          all_goals
            go_wp2_with (first | go_skip)
            go_ret2
            exact TrAll.fours HV.out.1 HV.out.2 (HC.out.short hlt HF.out hs) rfl EX
        · have hsi : decide ((N : Int) ≤ (i : Int) + 2) = false := decide_eq_false (by omega)
          have r0 := range_later (HR.out i (by omega)) EX
          have r1 := range_later (HR.out (i + 1) (by omega)) EX
          have r2 := range_later (HR.out (i + 2) (by omega)) EX
          obtain ⟨P0, h0⟩ : ∃ P, Q i = P := ⟨_, rfl⟩
          obtain ⟨P1, h1⟩ : ∃ P, Q (i + 1) = P := ⟨_, rfl⟩
          obtain ⟨P2, h2⟩ : ∃ P, Q (i + 2) = P := ⟨_, rfl⟩
          have HP : Hid (Q i = P0 ∧ Q (i + 1) = P1 ∧ Q (i + 2) = P2) := ⟨h0, h1, h2⟩
          rw [h0] at r0
          rw [h1] at r1
          rw [h2] at r2
          clear h0 h1 h2
          have hnv : ¬ (sv.ownBlock = some bv) := fun h => by have := hnew bv h; omega
          cases bi
          all_goals
            go_upto_region 17 with (first | go_skip)
            refine wp_region_phases [(true, [0,1,2,3,4,6,7,8,9,10,12,13,14,15,16]), (false, [5,11,17,18,19,20,21])] (fun w' => ∃ x : Alt (fun b => sv.ownBlock = some b) v, w' = x.out) (by kernel_rfl) (by kernel_rfl) (fun c a x v w h => by cases x <;> exact h) ⟨⟨v.drew, (Chg.refl _ v).drew⟩, rfl⟩ ?_
            intro pl hpl
            simp [pickO] at hpl
            subst hpl
            unfold wpPh
            (repeat (first | (go_big_quiet_want; refine quiet_load_cells 63 (.tmp 62) bv (ov + (i) * 7) (vl 7 (rv P0)) _ rfl rfl (by rintro _ ⟨x', rfl⟩; exact range_chg r0 x'.chg hnv) Tryd.underlying63 rfl (by rw [vl_len]; kernel_rfl) ?_; simp only [Act.put, List.setIfInBounds_toArray, List.set_cons_succ, List.set_cons_zero]; go_big_quiet_on) | (go_big_quiet_want; refine quiet_load_cells 63 (.tmp 68) bv (ov + (i + 1) * 7) (vl 7 (rv P1)) _ rfl rfl (by rintro _ ⟨x', rfl⟩; exact range_chg r1 x'.chg hnv) Tryd.underlying63 rfl (by rw [vl_len]; kernel_rfl) ?_; simp only [Act.put, List.setIfInBounds_toArray, List.set_cons_succ, List.set_cons_zero]; go_big_quiet_on) | (go_big_quiet_want; refine quiet_load_cells 63 (.tmp 74) bv (ov + (i + 2) * 7) (vl 7 (rv P2)) _ rfl rfl (by rintro _ ⟨x', rfl⟩; exact range_chg r2 x'.chg hnv) Tryd.underlying63 rfl (by rw [vl_len]; kernel_rfl) ?_; simp only [Act.put, List.setIfInBounds_toArray, List.set_cons_succ, List.set_cons_zero]; go_big_quiet_on) | go_big_quiet_step (fail)))
            refine wpQuiet_nil ?_
            have hE0 : Ext v v.drew := (Ext.refl v).drew
            unfold wpPh
            refine holdk_step fun K hK => ?_
            go_wp2_with (first | (go_at_call 24; with_reducible refine (rplain_any P0 _).mono ?_; rintro e v1 ⟨rfl, hb⟩))
            have hE1 := hE0.trans hb
            clear hb
            refine hK _ _ ⟨⟨v1, Chg.of hE1⟩, rfl⟩ ?_
            clear hK K
            refine holdk_step fun K hK => ?_
            go_wp2_with (first | (go_at_call 24; with_reducible refine (rplain_any P1 _).mono ?_; rintro e v2 ⟨rfl, hb⟩))
            have hE2 := hE1.trans hb
            clear hb
            refine hK _ _ ⟨⟨v2, Chg.of hE2⟩, rfl⟩ ?_
            clear hK K
            refine holdk_step fun K hK => ?_
            go_wp2_with (first | (go_at_call 24; with_reducible refine (rplain_any P2 _).mono ?_; rintro e v3 ⟨rfl, hb⟩))
            have hE3 := hE2.trans hb
            clear hb
            refine hK _ _ ⟨⟨v3, Chg.of hE3⟩, rfl⟩ ?_
            clear hK K
            obtain ⟨f0, hf0⟩ : ∃ f, rv (bare P0) = f := ⟨_, rfl⟩
            obtain ⟨f1, hf1⟩ : ∃ f, rv (bare P1) = f := ⟨_, rfl⟩
            obtain ⟨f2, hf2⟩ : ∃ f, rv (bare P2) = f := ⟨_, rfl⟩
            rw [hf0, hf1, hf2]
            have one : ∀ u ∈ [f0 0, f0 1, f0 2, f0 3, f0 4, f0 5, f0 6, f1 0, f1 1, f1 2, f1 3, f1 4, f1 5, f1 6, f2 0, f2 1, f2 2, f2 3, f2 4, f2 5, f2 6], u.oneCell' = true := by rw [← hf0, ← hf1, ← hf2]; exact tri21_one (rv_one _) (rv_one _) (rv_one _)
            have HF3 : Hid (rv (bare P0) = f0 ∧ rv (bare P1) = f1 ∧ rv (bare P2) = f2) := ⟨hf0, hf1, hf2⟩
            clear hf0 hf1 hf2
            simp only [vl7]
            refine holdk_step fun K hK => ?_
            go_wp2
            refine hK _ _ ⟨⟨_, Chg.of hE3⟩, rfl⟩ ?_
            clear hK K
            refine holdk_step fun K hK => ?_
            go_wp2
            have hE9 := hE3.alloc (.cells #[f0 0, f0 1, f0 2, f0 3, f0 4, f0 5, f0 6, f1 0, f1 1, f1 2, f1 3, f1 4, f1 5, f1 6, f2 0, f2 1, f2 2, f2 3, f2 4, f2 5, f2 6] 65)
            have NB : ∀ k u, ([f0 0, f0 1, f0 2, f0 3, f0 4, f0 5, f0 6, f1 0, f1 1, f1 2, f1 3, f1 4, f1 5, f1 6, f2 0, f2 1, f2 2, f2 3, f2 4, f2 5, f2 6] : List Value)[k]? = some u → (v3.alloc (.cells #[f0 0, f0 1, f0 2, f0 3, f0 4, f0 5, f0 6, f1 0, f1 1, f1 2, f1 3, f1 4, f1 5, f1 6, f2 0, f2 1, f2 2, f2 3, f2 4, f2 5, f2 6] 65)).cell? ((⟨v3.heap.size, 0, none⟩ : Addr).add k) = some u := World.news_of_block (cs := #[f0 0, f0 1, f0 2, f0 3, f0 4, f0 5, f0 6, f1 0, f1 1, f1 2, f1 3, f1 4, f1 5, f1 6, f2 0, f2 1, f2 2, f2 3, f2 4, f2 5, f2 6]) (t := 65) (fr := (0, 0)) (heap_alloc_new v3 _)
            have SL2 : World.ownsC (v3.alloc (.cells #[f0 0, f0 1, f0 2, f0 3, f0 4, f0 5, f0 6, f1 0, f1 1, f1 2, f1 3, f1 4, f1 5, f1 6, f2 0, f2 1, f2 2, f2 3, f2 4, f2 5, f2 6] 65)) 0 65 21 sv O.length (ew 21 O.length (fun k => tv (O.getD k z3))) := SL.later hE9
            refine hK _ _ ⟨⟨_, Chg.of hE9⟩, rfl⟩ ?_
            clear hK K
            have hv1 := hE3.more
            generalize hv2 : v3.alloc (.cells #[f0 0, f0 1, f0 2, f0 3, f0 4, f0 5, f0 6, f1 0, f1 1, f1 2, f1 3, f1 4, f1 5, f1 6, f2 0, f2 1, f2 2, f2 3, f2 4, f2 5, f2 6] 65) = v8 at *
            have hv2s : v3.heap.size + 1 = v8.heap.size := by rw [← hv2]; simp
            have hfew := HC.out.few
            have hw0 := EX.more
            refine holdk_step fun K hK => ?_
            go_wp2_with (first | (at_builtin; refine wpList_append_lst _ (by rfl) _ _ _ (by rfl) 65 i0 _ 21 60 Tryd.underlying31 hi0 hz0 hz1 hz2 rfl (by omega) sv O.length _ (by rfl) SL2 ⟨v3.heap.size, 0, none⟩ 1 1 [f0 0, f0 1, f0 2, f0 3, f0 4, f0 5, f0 6, f1 0, f1 1, f1 2, f1 3, f1 4, f1 5, f1 6, f2 0, f2 1, f2 2, f2 3, f2 4, f2 5, f2 6] (by rfl) (by rfl) NB one (by omega) (by unfold maxLen; omega) (by omega) ?_))
            intro gg cap' v9 own hat
            have HAT : Hid ((sv = .slice (some ⟨gg, 0, none⟩) O.length cap' ∧ v8.grownBy v9 (some gg)) ∨ (v8.heap.size ≤ gg ∧ v8.grownBy v9 none)) := hat
            clear hat
            have CH2 : Chg (fun b => sv.ownBlock = some b) v8 v9 := by
              rcases HAT.out with ⟨h, h'⟩ | ⟨_, h'⟩
              · exact Chg.grown h' (fun b hb => by rw [h]; exact hb)
              · exact Chg.grown h' (fun b hb => by cases hb)
            have CH : Chg (fun b => sv.ownBlock = some b) v v9 := (Chg.of hE9).trans CH2 (fun b h => .inl h)
            have OWN : Hid (Lst v9 65 21 (.slice (some ⟨gg, 0, none⟩) (O.length + 1) cap') (O.length + 1) (upe (fun k => tv (O.getD k z3)) O.length (tri21 f0 f1 f2))) := Lst.snoc (Y := tri21 f0 f1 f2) own
            clear own
            go_wp2
            refine hK _ _ ⟨⟨v9, CH⟩, rfl⟩ ?_
            clear hK K
            refine holdk_step fun K hK => ?_
            go_wp2
            refine hK _ _ ⟨⟨v9, CH⟩, rfl⟩ ?_
            clear hK K
            unfold wpHoldK wpPh
            go_wp2
            have hx := CH.size
            go_roundg (gk - 3)
            case measure => omega
            case rel =>
              refine ⟨i + 3, _, O ++ [⟨P0, P1, P2⟩], rfl, by omega, by go_num, CH.over EX (fun b hb => by have := hnew b hb; omega), ?_, fun b hb => ?_, ?_⟩
              · rw [List.length_append, List.length_singleton]
                exact OWN.out.congr fun k t hk ht => by
                  rw [getD_snoc]
                  unfold upe
                  by_cases e : k = O.length
                  · rw [if_pos e, if_pos e, tv_tri, ← HF3.out.1, ← HF3.out.2.1, ← HF3.out.2.2]
                  · rw [if_neg e, if_neg e]
              · simp only [Value.ownBlock, Option.some.injEq] at hb
                subst hb
                rcases HAT.out with ⟨h, _⟩ | ⟨h, _⟩
                · exact hnew gg (by rw [h]; rfl)
                · omega
              · rw [← HP.out.1, ← HP.out.2.1, ← HP.out.2.2]
                exact HC.out.new HF.out (by omega)
      · have i1 : ((i : Int) == 0) = false := by simp; exact fun h => hA ⟨h, h0⟩
        have f0 : (f == 0) = false := by simp [h0]
        have hip : 0 < i := Nat.pos_of_ne_zero fun h => hA ⟨h, h0⟩
        obtain ⟨t, ht, hd, hl⟩ := HC.out.last hip
        obtain ⟨g, cg, rfl⟩ := SL.form hl
        obtain ⟨n, hn⟩ : ∃ n, O.length = n + 1 := ⟨O.length - 1, by omega⟩
        have RL := SL.range (show O.length - 1 < O.length by omega)
        rw [hd, show O.length - 1 = n by omega] at RL
        have hgl := SL.lt
        have hgw := hnew g rfl
        have HSL : Hid (Lst v 65 21 (.slice (some ⟨g, 0, none⟩) O.length cg) O.length (fun k => tv (O.getD k z3))) := SL
        have HL : Hid (O.length = n + 1 ∧ O.getD (O.length - 1) z3 = t) := ⟨hn, hd⟩
        have hnb : n < 4294967296 := by have := HC.out.few; omega
        rw [hn]
        clear SL hl ht hd hA
        have hva : v.heap.size = v.heap.size := rfl
        go_upto_region 20 with (first | go_skip | (refine wpList_load_mid rfl 65 (.tmp 86) rfl g (n * 21) rfl (vl 21 (tv t)) _ RL Tryd.underlying65 rfl (by rw [vl_len]; kernel_rfl) ?_) | (refine wpList_store_vl rfl 65 (.tmp 9) (.tmp 87) rfl v.heap.size 0 21 (tv t) rfl rfl (there_new 21 rfl) size_tri21 (tv_one t) ?_))
        obtain ⟨b9, hb9⟩ : ∃ b, v.heap.size = b := ⟨_, rfl⟩
        refine rebase (G := fun w' => Code.wp _ _ _ _ w') _ (fun v1 => Ext v v1 ∧ Vm v1 b9 21 (tv t)) ⟨Ext.setCells' ((Ext.refl v).alloc _) _ (by omega) _ _, by rw [← hb9]; exact Vm.fresh (by decide) rfl rfl⟩ ?_
        rw [hb9]
        clear RL hva
        rintro v1 ⟨E1, TB⟩
        have RA := (tv_range TB).1
        go_upto_region 21 with (first | go_skip | (refine wpList_load_mid rfl 63 (.tmp 88) rfl b9 0 rfl (vl 7 (rv (bare t.a))) _ RA Tryd.underlying63 rfl (by rw [vl_len]; kernel_rfl) ?_) | (refine wpList_store_vl rfl 63 (.tmp 10) (.tmp 89) rfl v1.heap.size 0 7 (rv (bare t.a)) rfl rfl (there_new 7 rfl) size_recQ (rv_one _) ?_))
        obtain ⟨b10, hb10⟩ : ∃ b, v1.heap.size = b := ⟨_, rfl⟩
        have hlt9 := TB.lt
        refine rebase (G := fun w' => Code.wp _ _ _ _ w') _ (fun v2 => Ext v v2 ∧ Vm v2 b9 21 (tv t) ∧ Vm v2 b10 7 (rv (bare t.a))) ⟨Ext.setCells' (E1.alloc _) _ (by have := E1.more; omega) _ _, Vm.skips (by omega) _ _ (TB.alloc _), by rw [← hb10]; exact Vm.fresh (by decide) rfl rfl⟩ ?_
        rw [hb10]
        clear RA TB
        rintro v2 ⟨E2, TB, FB⟩
        have RB := (tv_range TB).2.1
        have TH := FB.there (m := 7) rfl
        have one7 : ∀ u ∈ vl 7 (rv (bare t.b)), u.oneCell' = true := rv_one _
        clear E1
        have hq : ∃ P0 : Rcd, (f = 1 ∧ P0 = t.b) ∨ (f ≠ 1 ∧ P0 = t.a) := by
          by_cases h : f = 1
          · exact ⟨_, .inl ⟨h, rfl⟩⟩
          · exact ⟨_, .inr ⟨h, rfl⟩⟩
        obtain ⟨P0, hq⟩ := hq
        have HQ : Hid (next3 t (Q i) = ⟨P0, t.c, Q i⟩) := by
          show next3 t (Q i) = ⟨P0, t.c, Q i⟩
          unfold next3
          rw [HF.out]
          rcases hq with ⟨h, h'⟩ | ⟨h, h'⟩
          · rw [if_pos h, h']
          · rw [if_neg h, h']
        have hne9 : b9 ≠ b10 := by omega
        rcases hq with ⟨hq1, hq2⟩ | ⟨hq1, hq2⟩
        case' inl =>
          have f1 : (f == 1) = true := by simp [hq1]
          go_upto_region 23 with (first | go_skip | (refine wpList_load_mid rfl 63 (.tmp 92) rfl b9 7 rfl (vl 7 (rv (bare t.b))) _ RB Tryd.underlying63 rfl (by rw [vl_len]; kernel_rfl) ?_) | (refine wpList_store_vl rfl 63 (.tmp 10) (.tmp 93) rfl b10 0 7 (rv (bare t.b)) rfl rfl TH size_recQ one7 ?_))
          simp only [Act.put, List.setIfInBounds_toArray, List.set_cons_succ, List.set_cons_zero]
          refine rebase (G := fun w' => Code.wp _ _ _ _ w') _ (fun v3 => Ext v v3 ∧ Vm v3 b9 21 (tv t) ∧ Vm v3 b10 7 (rv (bare P0))) ⟨Ext.setCells' E2 _ (by omega) _ _, Vm.skips (by omega) _ _ TB, by rw [hq2]; exact FB.cells (by decide) _⟩ ?_
        case' inr =>
          have f1 : (f == 1) = false := by simp [hq1]
          go_upto_region 23 with (first | go_skip)
          refine rebase (G := fun w' => Code.wp _ _ _ _ w') _ (fun v3 => Ext v v3 ∧ Vm v3 b9 21 (tv t) ∧ Vm v3 b10 7 (rv (bare P0))) ⟨E2, TB, by rw [hq2]; exact FB⟩ ?_
        all_goals
          clear RB TH one7 E2 TB FB hq2 hq1 f1 v2
          rintro v3 ⟨E3, TB, FB⟩
          have EX3 := EX.trans E3
          have RC := (tv_range TB).2.2
          have RF : v3.rangeAt b10 0 (vl 7 (rv (bare P0))) := FB.range
          have R0 := range_later (HR.out i hlt) EX3
          have SL := HSL.out.later E3
          rw [← HL.out.1]
          obtain ⟨sv, hsv⟩ : ∃ sv : Value, .slice (some ⟨g, 0, none⟩) O.length cg = sv := ⟨_, rfl⟩
          have hv9 : ¬ (sv.ownBlock = some b9) := by rw [← hsv]; simp only [Value.ownBlock, Option.some.injEq]; omega
          have hv10 : ¬ (sv.ownBlock = some b10) := by rw [← hsv]; simp only [Value.ownBlock, Option.some.injEq]; omega
          have hnv : ¬ (sv.ownBlock = some bv) := by rw [← hsv]; simp only [Value.ownBlock, Option.some.injEq]; omega
          have hnew : ∀ b, sv.ownBlock = some b → w.heap.size ≤ b := by rw [← hsv]; exact hnew
          rw [hsv] at SL ⊢
          clear HSL TB FB E3 EX hsv hn hnb hgl hgw hlt9 hne9 hb9 hb10 cf
          have EX := EX3
          clear EX3 v v1
          rename World => v
          obtain ⟨P2, hP2⟩ : ∃ P, Q i = P := ⟨_, rfl⟩
          have HP : Hid (Q i = P2) := hP2
          rw [hP2] at R0
          clear hP2
          refine wp_region_phases [(true, [0,1,2,3,4,5,6,7]), (false, [8,9,10,11,12])] (fun w' => ∃ x : Alt (fun b => sv.ownBlock = some b) v, w' = x.out) (by kernel_rfl) (by kernel_rfl) (fun c a x v w h => by cases x <;> exact h) ⟨⟨v.drew, (Chg.refl _ v).drew⟩, rfl⟩ ?_
          intro pl hpl
          simp [pickO] at hpl
          subst hpl
          unfold wpPh
          (repeat (first | (go_big_quiet_want; refine quiet_load_cells 63 (.tmp 10) b10 (0) (vl 7 (rv (bare P0))) _ rfl rfl (by rintro _ ⟨x', rfl⟩; exact range_chg RF x'.chg hv10) Tryd.underlying63 rfl (by rw [vl_len]; kernel_rfl) ?_; simp only [Act.put, List.setIfInBounds_toArray, List.set_cons_succ, List.set_cons_zero]; go_big_quiet_on) | (go_big_quiet_want; refine quiet_load_cells 63 (.tmp 96) b9 (14) (vl 7 (rv (bare t.c))) _ rfl rfl (by rintro _ ⟨x', rfl⟩; exact range_chg RC x'.chg hv9) Tryd.underlying63 rfl (by rw [vl_len]; kernel_rfl) ?_; simp only [Act.put, List.setIfInBounds_toArray, List.set_cons_succ, List.set_cons_zero]; go_big_quiet_on) | (go_big_quiet_want; refine quiet_load_cells 63 (.tmp 100) bv (ov + i * 7) (vl 7 (rv (P2))) _ rfl rfl (by rintro _ ⟨x', rfl⟩; exact range_chg R0 x'.chg hnv) Tryd.underlying63 rfl (by rw [vl_len]; kernel_rfl) ?_; simp only [Act.put, List.setIfInBounds_toArray, List.set_cons_succ, List.set_cons_zero]; go_big_quiet_on) | go_big_quiet_step (fail)))
          refine wpQuiet_nil ?_
          have hE0 : Ext v v.drew := (Ext.refl v).drew
          unfold wpPh
          refine holdk_step fun K hK => ?_
          go_wp2_with (first | (go_at_call 24; with_reducible refine (rplain_any P2 _).mono ?_; rintro e v1 ⟨rfl, hb⟩))
          have hE1 := hE0.trans hb
          clear hb
          refine hK _ _ ⟨⟨v1, Chg.of hE1⟩, rfl⟩ ?_
          clear hK K
          obtain ⟨f0, hf0⟩ : ∃ f, rv (bare P0) = f := ⟨_, rfl⟩
          obtain ⟨f1, hf1⟩ : ∃ f, rv (bare t.c) = f := ⟨_, rfl⟩
          obtain ⟨f2, hf2⟩ : ∃ f, rv (bare P2) = f := ⟨_, rfl⟩
          rw [hf0, hf1, hf2]
          have one : ∀ u ∈ [f0 0, f0 1, f0 2, f0 3, f0 4, f0 5, f0 6, f1 0, f1 1, f1 2, f1 3, f1 4, f1 5, f1 6, f2 0, f2 1, f2 2, f2 3, f2 4, f2 5, f2 6], u.oneCell' = true := by rw [← hf0, ← hf1, ← hf2]; exact tri21_one (rv_one _) (rv_one _) (rv_one _)
          have HF3 : Hid (rv (bare P0) = f0 ∧ rv (bare t.c) = f1 ∧ rv (bare P2) = f2) := ⟨hf0, hf1, hf2⟩
          clear hf0 hf1 hf2
          simp only [vl7]
          refine holdk_step fun K hK => ?_
          go_wp2
          refine hK _ _ ⟨⟨_, Chg.of hE1⟩, rfl⟩ ?_
          clear hK K
          refine holdk_step fun K hK => ?_
          go_wp2
          have hE9 := hE1.alloc (.cells #[f0 0, f0 1, f0 2, f0 3, f0 4, f0 5, f0 6, f1 0, f1 1, f1 2, f1 3, f1 4, f1 5, f1 6, f2 0, f2 1, f2 2, f2 3, f2 4, f2 5, f2 6] 65)
          have NB : ∀ k u, ([f0 0, f0 1, f0 2, f0 3, f0 4, f0 5, f0 6, f1 0, f1 1, f1 2, f1 3, f1 4, f1 5, f1 6, f2 0, f2 1, f2 2, f2 3, f2 4, f2 5, f2 6] : List Value)[k]? = some u → (v1.alloc (.cells #[f0 0, f0 1, f0 2, f0 3, f0 4, f0 5, f0 6, f1 0, f1 1, f1 2, f1 3, f1 4, f1 5, f1 6, f2 0, f2 1, f2 2, f2 3, f2 4, f2 5, f2 6] 65)).cell? ((⟨v1.heap.size, 0, none⟩ : Addr).add k) = some u := World.news_of_block (cs := #[f0 0, f0 1, f0 2, f0 3, f0 4, f0 5, f0 6, f1 0, f1 1, f1 2, f1 3, f1 4, f1 5, f1 6, f2 0, f2 1, f2 2, f2 3, f2 4, f2 5, f2 6]) (t := 65) (fr := (0, 0)) (heap_alloc_new v1 _)
          have SL2 : World.ownsC (v1.alloc (.cells #[f0 0, f0 1, f0 2, f0 3, f0 4, f0 5, f0 6, f1 0, f1 1, f1 2, f1 3, f1 4, f1 5, f1 6, f2 0, f2 1, f2 2, f2 3, f2 4, f2 5, f2 6] 65)) 0 65 21 sv O.length (ew 21 O.length (fun k => tv (O.getD k z3))) := SL.later hE9
          refine hK _ _ ⟨⟨_, Chg.of hE9⟩, rfl⟩ ?_
          clear hK K
          have hv1 := hE1.more
          generalize hv2 : v1.alloc (.cells #[f0 0, f0 1, f0 2, f0 3, f0 4, f0 5, f0 6, f1 0, f1 1, f1 2, f1 3, f1 4, f1 5, f1 6, f2 0, f2 1, f2 2, f2 3, f2 4, f2 5, f2 6] 65) = v8 at *
          have hv2s : v1.heap.size + 1 = v8.heap.size := by rw [← hv2]; simp
          have hfew := HC.out.few
          have hw0 := EX.more
          refine holdk_step fun K hK => ?_
          go_wp2_with (first | (at_builtin; refine wpList_append_lst _ (by rfl) _ _ _ (by rfl) 65 i0 _ 21 60 Tryd.underlying31 hi0 hz0 hz1 hz2 rfl (by omega) sv O.length _ (by rfl) SL2 ⟨v1.heap.size, 0, none⟩ 1 1 [f0 0, f0 1, f0 2, f0 3, f0 4, f0 5, f0 6, f1 0, f1 1, f1 2, f1 3, f1 4, f1 5, f1 6, f2 0, f2 1, f2 2, f2 3, f2 4, f2 5, f2 6] (by rfl) (by rfl) NB one (by omega) (by unfold maxLen; omega) (by omega) ?_))
          intro gg cap' v9 own hat
          have HAT : Hid ((sv = .slice (some ⟨gg, 0, none⟩) O.length cap' ∧ v8.grownBy v9 (some gg)) ∨ (v8.heap.size ≤ gg ∧ v8.grownBy v9 none)) := hat
          clear hat
          have CH2 : Chg (fun b => sv.ownBlock = some b) v8 v9 := by
            rcases HAT.out with ⟨h, h'⟩ | ⟨_, h'⟩
            · exact Chg.grown h' (fun b hb => by rw [h]; exact hb)
            · exact Chg.grown h' (fun b hb => by cases hb)
          have CH : Chg (fun b => sv.ownBlock = some b) v v9 := (Chg.of hE9).trans CH2 (fun b h => .inl h)
          have OWN : Hid (Lst v9 65 21 (.slice (some ⟨gg, 0, none⟩) (O.length + 1) cap') (O.length + 1) (upe (fun k => tv (O.getD k z3)) O.length (tri21 f0 f1 f2))) := Lst.snoc (Y := tri21 f0 f1 f2) own
          clear own
          go_wp2
          refine hK _ _ ⟨⟨v9, CH⟩, rfl⟩ ?_
          clear hK K
          refine holdk_step fun K hK => ?_
          go_wp2
          refine hK _ _ ⟨⟨v9, CH⟩, rfl⟩ ?_
          clear hK K
          unfold wpHoldK wpPh
          go_wp2
          have hx := CH.size
          go_roundg (gk - 1)
          case measure => omega
          case rel =>
            refine ⟨i + 1, _, O ++ [⟨P0, t.c, P2⟩], rfl, by omega, by go_num, CH.over EX (fun b hb => by have := hnew b hb; omega), ?_, fun b hb => ?_, ?_⟩
            · rw [List.length_append, List.length_singleton]
              exact OWN.out.congr fun k t hk ht => by
                rw [getD_snoc]
                unfold upe
                by_cases e : k = O.length
                · rw [if_pos e, if_pos e, tv_tri, ← HF3.out.1, ← HF3.out.2.1, ← HF3.out.2.2]
                · rw [if_neg e, if_neg e]
            · simp only [Value.ownBlock, Option.some.injEq] at hb
              subst hb
              rcases HAT.out with ⟨h, _⟩ | ⟨h, _⟩
              · exact hnew gg (by rw [h]; rfl)
              · omega
            · have e1 := HC.out.on hip hlt (by rw [HF.out]; exact h0) (by rw [HF.out]; omega)
              rw [HL.out.2, HQ.out, HP.out] at e1
              exact e1
    · have hii : ¬ (i : Int) < (N : Int) := by omega
      obtain rfl : i = N := by have := HC.out.le; omega
      go_wp2_with (first | go_skip)
      go_ret2
      exact TrAll.four (m := (0, O)) HV.out.1 HV.out.2 HC.out.done rfl EX SL hnew
end Go.Proofs.YthlhmfjopjikpaaDoor
