/- What package trios' ofFlags does, called at any vertices: triangles of vertices that come one by one. -/
import Derived.Test.YthlhmfjopjikpaaDoorTrioA
import Derived.Test.YthlhmfjopjikpaaDoorTriN
import Derived.WalkMore
import Derived.Deep.LoopGhost
import Derived.Deep.Light
namespace Go.Proofs.YthlhmfjopjikpaaDoor
open Go.RowKit Go.BigFrame
set_option linter.unusedSimpArgs false
set_option linter.unusedVariables false
set_option maxRecDepth 20000
/-- What ofFlags answers: an error and triangles x. -/
def FlIs (Q : Nat → Rcd) (N : Nat) (w : World) (e : Ending) (w' : World) : Prop :=
  ∃ s, e = .returned (.tuple #[s, .int .i64 (chL none (ql Q 0 N)).1]) ∧ Ext w w' ∧ Lst w' 65 21 s (chL none (ql Q 0 N)).2.length (fun k => tv ((chL none (ql Q 0 N)).2.getD k z3)) ∧ ∀ b, s.ownBlock = some b → w.heap.size ≤ b
theorem FlIs.err {Q : Nat → Rcd} {N : Nat} {w w' : World} {e : Ending} {x : Int} (hc : chL none (ql Q 0 N) = (x, [])) (he : e = .returned (.tuple #[.slice none 0 0, .int .i64 x])) (E : Ext w w') : FlIs Q N w e w' :=
  ⟨.slice none 0 0, by rw [hc]; exact he, E, by rw [hc]; exact Lst.nil _ _ _ _, by simp [Value.ownBlock]⟩
theorem FlIs.good {Q : Nat → Rcd} {N : Nat} {w w' : World} {e : Ending} {s : Value} {O : List T3} (hc : chL none (ql Q 0 N) = (0, O)) (he : e = .returned (.tuple #[s, .int .i64 0])) (E : Ext w w') (SL : Lst w' 65 21 s O.length (fun k => tv (O.getD k z3))) (hn : ∀ b, s.ownBlock = some b → w.heap.size ≤ b) : FlIs Q N w e w' :=
  ⟨s, by rw [hc]; exact he, E, by rw [hc]; exact SL, hn⟩
set_option maxHeartbeats 8000000 in
theorem offlags_any (a : Option Addr) (N cap : Nat) (Q : Nat → Rcd) (w : World) (B : Vs w a N Q) (hN : N ≤ 4294967296) : Calls Tryd.prog 20 #[.slice a N cap] w (FlIs Q N w) := by
  have EX := Ext.refl w
  obtain ⟨i0, hi0, hz0, hz1, hz2⟩ := info_parts info_tri21
  have HB : Hid (Vs w a N Q) := B
  have HN : Hid (N ≤ 4294967296) := hN
  have hfst : 0 < N ∧ (Q 0).f ≠ 0 ∨ (0 < N → (Q 0).f = 0) := by
    by_cases h : 0 < N
    · by_cases h' : (Q 0).f = 0
      · exact .inr fun _ => h'
      · exact .inl ⟨h, h'⟩
    · exact .inr fun h' => absurd h' h
  rcases hfst with ⟨hpos, hf0⟩ | HF0
  · have HC : Hid (chL none (ql Q 0 N) = (6, [])) := (Chn.start Q N).first hpos hf0
    obtain ⟨bv, ov, rfl, hr⟩ := B.es.form hpos
    have c0 : w.cell? ⟨bv, ov, none⟩ = some (.int .u8 (Q 0).f) := by have := hr 0 hpos 0 _ rfl; rw [Nat.zero_mul] at this; exact this
    obtain ⟨f, hf⟩ : ∃ f, (Q 0).f = f := ⟨_, rfl⟩
    rw [hf] at c0 hf0
    have g0 : decide ((N : Int) > 0) = true := decide_eq_true (by omega)
    have g0' : decide (0 < (N : Int)) = true := decide_eq_true (by omega)
    have g1 : (f != 0) = true := by simp [hf0]
    have hpi : (0 : Int) < (N : Int) := by omega
    clear B hr hf
    go_enter Tryd.func20, Tryd.ntmps20
    go_upto_region 1 with fail
    go_step3
    go_wp2_with (first | go_skip)
    go_ret2
    exact FlIs.err HC.out rfl EX
  have HFZ : Hid (0 < N → (Q 0).f = 0) := HF0
  have hpost : FlIs Q N w = FlIs Q N w := rfl
  go_enter Tryd.func20, Tryd.ntmps20
  go_upto_region 1 with fail
  go_step3
  by_cases h0 : N = 0
  case pos =>
    subst h0
    have HC : Hid (chL none (ql Q 0 0) = (0, [])) := chL_nil none
    have CL := fun v => clip_any (.slice none 0 0) 0 (fun k => tv (([] : List T3).getD k z3)) v (Lst.nil _ _ _ _)
    clear B hN
    go_upto_region 5 with (first | go_skip)
    refine rebase (G := fun w' => Code.wp _ _ _ _ w') _ (fun v1 => Ext w v1) (by repeat (first | with_reducible exact EX |  with_reducible refine Ext.alloc ?_ _ | with_reducible refine Ext.drew ?_ | with_reducible refine Ext.drewN ?_ _ | with_reducible refine Ext.setCell ?_ (by first | (simp; done) | omega | (dsimp only; omega)) _)) ?_; clear EX; intro v1 EX; rename World => v
    go_wp2
    go_step3
    go_wp2
    go_loopg [4, 6, 7] 0 (fun gk ov uv iv wr => ov = .slice none 0 0 ∧ uv = .int .i64 0 ∧ iv = .int .i64 0 ∧ Ext w wr)
    case atStart => exact ⟨rfl, rfl, rfl, EX⟩
    case round =>
      clear EX v
      obtain ⟨rfl, rfl, rfl, EX⟩ := hrel
      go_wp2_with (first | go_skip | (go_at_call 72; refine (CL _).mono ?_; rintro e v1 ⟨s1, rfl, hb, SL, ho⟩))
      go_ret2
      exact FlIs.good (s := s1) HC.out rfl (EX.trans hb) SL (fun b hb => by rw [ho] at hb; cases hb)
  case neg =>
    have hpos : 0 < N := by omega
    obtain ⟨bv, ov, rfl, hr⟩ := B.es.form hpos
    have HR : Hid (∀ i, i < N → w.rangeAt bv (ov + i * 7) (vl 7 (rv (Q i)))) := hr
    have hbw : bv < w.heap.size := cell_lt (hr 0 hpos 0 _ rfl)
    have c0 : w.cell? ⟨bv, ov, none⟩ = some (.int .u8 0) := by have := hr 0 hpos 0 _ rfl; rw [Nat.zero_mul] at this; rw [← HF0 hpos]; exact this
    have hpi : (0 : Int) < (N : Int) := by omega
    clear B hr hN h0 HF0
    go_upto_region 5 with (first | go_skip)
    refine rebase (G := fun w' => Code.wp _ _ _ _ w') _ (fun v => Ext w v ∧ Vm v w.heap.size 21 (tv z3)) ⟨EX.alloc _, Vm.ofList rfl rfl⟩ ?_
    obtain ⟨bt, hbt⟩ : ∃ b, w.heap.size = b := ⟨_, rfl⟩
    rw [hbt]
    have hbt : w.heap.size ≤ bt := by omega
    have hbvt : bv < bt := by omega
    clear EX c0
    rintro v ⟨EX, TB⟩
    go_wp2
    go_step3
    go_wp2
    go_loopg [4, 6, 7] N (fun gk ov uv iv wr => ∃ (i : Nat) (sv : Value) (O : List T3) (t : T3), sv = ov ∧ uv = .int .i64 0 ∧ i + gk = N ∧ iv = .int .i64 i ∧ Ext w wr ∧ Lst wr 65 21 sv O.length (fun k => tv (O.getD k z3)) ∧ (∀ b, sv.ownBlock = some b → bt < b) ∧ Vm wr bt 21 (tv t) ∧ (0 < i → O.getD (O.length - 1) z3 = t) ∧ Hid (Chn Q N i O))
    case atStart => exact ⟨0, _, [], z3, rfl, rfl, by omega, rfl, EX, Lst.nil _ _ _ _, by simp [Value.ownBlock], TB, fun h => by omega, Chn.start Q N⟩
    case round =>
      clear EX TB v
      obtain ⟨i, sv, O, t, rfl, rfl, hi, rfl, EX, SL, hnew, TB, hlast, HC⟩ := hrel
      have HLT : Hid (0 < i → O.getD (O.length - 1) z3 = t) := hlast
      clear hlast
      obtain ⟨v, hv⟩ : ∃ v, v = wr := ⟨_, rfl⟩
      subst hv
      by_cases hlt : i < N
      · have hii : (i : Int) < (N : Int) := by omega
        have hf := HB.out.f i hlt
        have cf : v.cell? ⟨bv, ov + i * 7, none⟩ = some (.int .u8 (Q i).f) := range_later (HR.out i hlt) EX 0 _ rfl
        obtain ⟨f, hfe⟩ : ∃ f, (Q i).f = f := ⟨_, rfl⟩
        rw [hfe] at cf hf
        have HF : Hid ((Q i).f = f) := hfe
        have hip : f ≠ 0 → 0 < i := fun h => by
          rcases Nat.eq_zero_or_pos i with h' | h'
          · subst h'; exact absurd (hfe.symm.trans (HFZ.out hpos)) h
          · exact h'
        have hN := HN.out
        clear hfe
        by_cases h2 : 2 < f
        · have f0 : (f == 0) = false := by simp; omega
          have f1 : (f == 1) = false := by simp; omega
          have f2 : (f == 2) = false := by simp; omega
          have HE : Hid (chL none (ql Q 0 N) = (7, [])) := HC.out.flag (hip (by omega)) hlt (by rw [HF.out]; exact h2)
          clear hip
          go_wp2_with (first | go_skip)
          go_ret2
          exact FlIs.err HE.out rfl EX
        by_cases h0 : f = 0
        · subst h0
          by_cases hs : N ≤ i + 2
          · have HE : Hid (chL none (ql Q 0 N) = (5, [])) := HC.out.short hlt HF.out hs
            have hsi : decide ((N : Int) - 1 - (i : Int) < 2) = true := decide_eq_true (by omega)
            clear hip
            go_wp2_with (first | go_skip)
            go_ret2
            exact FlIs.err HE.out rfl EX
          · have hsi : decide ((N : Int) - 1 - (i : Int) < 2) = false := decide_eq_false (by omega)
            have r0 := range_later (HR.out i (by omega)) EX
            have r1 := range_later (HR.out (i + 1) (by omega)) EX
            have r2 := range_later (HR.out (i + 2) (by omega)) EX
            obtain ⟨P0, e0⟩ : ∃ P, Q i = P := ⟨_, rfl⟩
            obtain ⟨P1, e1⟩ : ∃ P, Q (i + 1) = P := ⟨_, rfl⟩
            obtain ⟨P2, e2⟩ : ∃ P, Q (i + 2) = P := ⟨_, rfl⟩
            obtain ⟨u, hu⟩ : ∃ u : T3, u = ⟨P0, P1, P2⟩ := ⟨_, rfl⟩
            have HCN : Hid (Chn Q N (i + 3) (O ++ [u])) := by
              have := HC.out.new HF.out (by omega)
              rw [e0, e1, e2] at this
              rw [hu]; exact this
            rw [e0] at r0
            rw [e1] at r1
            rw [e2] at r2
            have TO := fun v => triof_any P0 P1 P2 v
            rw [← hu] at TO
            clear e0 e1 e2 hu hip
            go_upto_region 14 with (first | go_skip)
            clear cf
            refine wp_region_reads (fun i => decide (i < 14)) 1 15 (fun w' => ∃ x : Grow v, w' = x.out) (by kernel_rfl) (by kernel_rfl) (fun c a x v w h => by cases x <;> exact h) ⟨⟨v.drew, (Ext.refl v).drew⟩, rfl⟩ ?_
            intro l1 l2 h1 h2
            simp [pickB] at h1 h2
            subst h1 h2
            (repeat (first | (go_big_quiet_want; refine quiet_load_cells 63 (.tmp 39) bv (ov + i * 7) (vl 7 (rv (P0))) _ rfl rfl (by rintro _ ⟨x', rfl⟩; exact range_later r0 x'.ext) Tryd.underlying63 rfl (by rw [vl_len]; kernel_rfl) ?_; simp only [Act.put, List.setIfInBounds_toArray, List.set_cons_succ, List.set_cons_zero]; go_big_quiet_on) | (go_big_quiet_want; refine quiet_load_cells 63 (.tmp 44) bv (ov + (i + 1) * 7) (vl 7 (rv (P1))) _ rfl rfl (by rintro _ ⟨x', rfl⟩; exact range_later r1 x'.ext) Tryd.underlying63 rfl (by rw [vl_len]; kernel_rfl) ?_; simp only [Act.put, List.setIfInBounds_toArray, List.set_cons_succ, List.set_cons_zero]; go_big_quiet_on) | (go_big_quiet_want; refine quiet_load_cells 63 (.tmp 49) bv (ov + (i + 2) * 7) (vl 7 (rv (P2))) _ rfl rfl (by rintro _ ⟨x', rfl⟩; exact range_later r2 x'.ext) Tryd.underlying63 rfl (by rw [vl_len]; kernel_rfl) ?_; simp only [Act.put, List.setIfInBounds_toArray, List.set_cons_succ, List.set_cons_zero]; go_big_quiet_on) | go_big_quiet_step (fail)))
            refine wpQuiet_nil ?_
            have hE0 : Ext v v.drew := (Ext.refl v).drew
            refine hold_step (n := 0) fun K hK => ?_
            go_wp2_with (first | (go_at_call 71; with_reducible refine (TO _).mono ?_; rintro e v1 ⟨rfl, hb⟩))
            have hE1 := hE0.trans hb
            clear hb
            refine hK _ _ ⟨⟨v1, hE1⟩, rfl⟩ ?_
            clear hK K TO
            refine hold_done ?_
            have TB1 := TB.later hE1
            have TH := TB1.there (m := 21) rfl
            have one21 := tv_one u
            have HTU : Hid (Vm (v1.setCells bt 0 (vl 21 (tv u))) bt 21 (tv u)) := TB1.cells (by decide) _
            have C3 : Chg (fun b => b = bt) v (v1.setCells bt 0 (vl 21 (tv u))) := Chg.cells (S := fun b => b = bt) (Chg.of hE1) (b := bt) (.inl rfl) _ _
            obtain ⟨gu, hg⟩ : ∃ g, tv u = g := ⟨_, rfl⟩
            have HG : Hid (tv u = gu) := hg
            rw [hg] at HTU C3 one21 ⊢
            clear hg
            go_upto_region 15 with (first | (refine wpList_store_vl rfl 65 (.tmp 5) (.tmp 51) rfl bt 0 21 gu rfl rfl TH size_tri21 one21 ?_))
            simp only [Act.put]
            obtain ⟨v4, hv4⟩ : ∃ v4, v1.setCells bt 0 (vl 21 gu) = v4 := ⟨_, rfl⟩
            rw [hv4] at HTU C3 ⊢
            have EX4 : Ext w v4 := C3.over EX (fun i hi => by omega)
            have SL4 := SL.chg C3 (fun b hb e => by have := hnew b hb; omega)
            have TB4 := HTU.out
            rw [← HG.out] at TB4
            clear EX SL TB TB1 TH one21 HTU C3 HG hE0 hE1 hv4 v1 r0 r1 r2
            clear v
            rename World => v
            have EX := EX4
            have SL := SL4
            have TB := TB4
            clear EX4 SL4 TB4
            have HU : Hid (tri21 (rv (bare u.a)) (rv (bare u.b)) (rv (bare u.c)) = tv u) := rfl
            obtain ⟨f0, hf0⟩ : ∃ f, rv (bare u.a) = f := ⟨_, rfl⟩
            obtain ⟨f1, hf1⟩ : ∃ f, rv (bare u.b) = f := ⟨_, rfl⟩
            obtain ⟨f2, hf2⟩ : ∃ f, rv (bare u.c) = f := ⟨_, rfl⟩
            have one : ∀ x ∈ [f0 0, f0 1, f0 2, f0 3, f0 4, f0 5, f0 6, f1 0, f1 1, f1 2, f1 3, f1 4, f1 5, f1 6, f2 0, f2 1, f2 2, f2 3, f2 4, f2 5, f2 6], x.oneCell' = true := by rw [← hf0, ← hf1, ← hf2]; exact tri21_one (rv_one _) (rv_one _) (rv_one _)
            rw [hf0, hf1, hf2] at HU
            clear hf0 hf1 hf2
            have F : v.rangeAt bt 0 [f0 0, f0 1, f0 2, f0 3, f0 4, f0 5, f0 6, f1 0, f1 1, f1 2, f1 3, f1 4, f1 5, f1 6, f2 0, f2 1, f2 2, f2 3, f2 4, f2 5, f2 6] := by have := TB.range; rw [← HU.out, tri21_list] at this; exact this
            have E9 : Ext v (v.alloc (.cells #[f0 0, f0 1, f0 2, f0 3, f0 4, f0 5, f0 6, f1 0, f1 1, f1 2, f1 3, f1 4, f1 5, f1 6, f2 0, f2 1, f2 2, f2 3, f2 4, f2 5, f2 6] 65)) := (Ext.refl v).alloc _
            have NB : ∀ k x, ([f0 0, f0 1, f0 2, f0 3, f0 4, f0 5, f0 6, f1 0, f1 1, f1 2, f1 3, f1 4, f1 5, f1 6, f2 0, f2 1, f2 2, f2 3, f2 4, f2 5, f2 6] : List Value)[k]? = some x → (v.alloc (.cells #[f0 0, f0 1, f0 2, f0 3, f0 4, f0 5, f0 6, f1 0, f1 1, f1 2, f1 3, f1 4, f1 5, f1 6, f2 0, f2 1, f2 2, f2 3, f2 4, f2 5, f2 6] 65)).cell? ((⟨v.heap.size, 0, none⟩ : Addr).add k) = some x := World.news_of_block (cs := #[f0 0, f0 1, f0 2, f0 3, f0 4, f0 5, f0 6, f1 0, f1 1, f1 2, f1 3, f1 4, f1 5, f1 6, f2 0, f2 1, f2 2, f2 3, f2 4, f2 5, f2 6]) (t := 65) (fr := (0, 0)) (heap_alloc_new v _)
            have SL2 : World.ownsC (v.alloc (.cells #[f0 0, f0 1, f0 2, f0 3, f0 4, f0 5, f0 6, f1 0, f1 1, f1 2, f1 3, f1 4, f1 5, f1 6, f2 0, f2 1, f2 2, f2 3, f2 4, f2 5, f2 6] 65)) 0 65 21 sv O.length (ew 21 O.length (fun k => tv (O.getD k z3))) := SL.later E9
            have hsz : (v.alloc (.cells #[f0 0, f0 1, f0 2, f0 3, f0 4, f0 5, f0 6, f1 0, f1 1, f1 2, f1 3, f1 4, f1 5, f1 6, f2 0, f2 1, f2 2, f2 3, f2 4, f2 5, f2 6] 65)).heap.size = v.heap.size + 1 := by simp
            have hfew := HC.out.few
            have hN' := HN.out
            go_upto_region 8 with (first | go_skip | (refine wpList_load_mid rfl 65 (.tmp 5) rfl bt 0 rfl [f0 0, f0 1, f0 2, f0 3, f0 4, f0 5, f0 6, f1 0, f1 1, f1 2, f1 3, f1 4, f1 5, f1 6, f2 0, f2 1, f2 2, f2 3, f2 4, f2 5, f2 6] _ F Tryd.underlying65 rfl (by kernel_rfl) ?_) | (at_builtin; refine wpList_append_lst _ (by rfl) _ _ _ (by rfl) 65 i0 _ 21 60 Tryd.underlying31 hi0 hz0 hz1 hz2 rfl (by omega) sv O.length _ (by rfl) SL2 ⟨v.heap.size, 0, none⟩ 1 1 [f0 0, f0 1, f0 2, f0 3, f0 4, f0 5, f0 6, f1 0, f1 1, f1 2, f1 3, f1 4, f1 5, f1 6, f2 0, f2 1, f2 2, f2 3, f2 4, f2 5, f2 6] (by rfl) (by rfl) NB one (by omega) (by unfold maxLen; omega) (by omega) ?_; intro gg cap' v9 own hat))
            have CH : Chg (fun b => sv.ownBlock = some b) v v9 := by
              refine (Chg.of (S := fun b => sv.ownBlock = some b) E9).trans ?_ (fun b h => .inl h)
              rcases hat with ⟨h, h'⟩ | ⟨_, h'⟩
              · exact Chg.grown h' (fun b hb => by rw [h]; exact hb)
              · exact Chg.grown h' (fun b hb => by cases hb)
            have OWN := Lst.snoc (Y := tri21 f0 f1 f2) own
            have TB9 := TB.blk2 (CH.block bt TB.lt (fun h => by have := hnew _ h; omega)) CH.size
            have hg2 : bt < gg := by
              rcases hat with ⟨h, _⟩ | ⟨h, _⟩
              · exact hnew gg (by rw [h]; rfl)
              · rw [hsz] at h; have := TB.lt; omega
            have EX9 : Ext w v9 := CH.over EX (fun b hb => by have := hnew b hb; omega)
            clear hat NB SL2 E9 F own hsz
            go_wp2_with (first | go_skip)
            go_roundg (gk - 3)
            case measure => omega
            case rel =>
              refine ⟨i + 3, _, O ++ [u], u, rfl, rfl, by omega, by go_num, EX9, ?_, fun b hb => by simp only [Value.ownBlock, Option.some.injEq] at hb; omega, TB9, fun _ => ?_, HCN⟩
              · rw [List.length_append, List.length_singleton]
                exact OWN.congr fun k t hk ht => by
                  rw [getD_snoc]
                  unfold upe
                  by_cases e : k = O.length
                  · rw [if_pos e, if_pos e, ← HU.out]
                  · rw [if_neg e, if_neg e]
              · rw [List.length_append, List.length_singleton, Nat.add_sub_cancel, getD_snoc, if_pos rfl]
        · have f0 : (f == 0) = false := by simp [h0]
          have hip := hip h0
          obtain ⟨ti, ht, hd, hl⟩ := HC.out.last hip
          have hti : ti = t := hd.symm.trans (HLT.out hip)
          have HCO := HC.out.on hip hlt (by rw [HF.out]; exact h0) (by rw [HF.out]; omega)
          rw [hd, hti] at HCO
          have r0 := range_later (HR.out i hlt) EX
          obtain ⟨P2, e2⟩ : ∃ P, Q i = P := ⟨_, rfl⟩
          rw [e2] at r0
          have RA := (tv_range TB).1
          have RB := (tv_range TB).2.1
          have RC := (tv_range TB).2.2
          clear ht hd hl hti
          by_cases h1 : f = 1
          · have f1 : (f == 1) = true := by simp [h1]
            obtain ⟨u, hu⟩ : ∃ u : T3, u = ⟨t.b, t.c, P2⟩ := ⟨_, rfl⟩
            have HCN : Hid (Chn Q N (i + 1) (O ++ [u])) := by
              have e : next3 t (Q i) = u := by unfold next3; rw [HF.out, if_pos h1, e2, hu]
              rw [e] at HCO; exact HCO
            have TO : ∀ v, Calls Tryd.prog 71 #[.agg (vl 7 (rv (bare t.b))).toArray, .agg (vl 7 (rv (bare t.c))).toArray, .agg (vl 7 (rv P2)).toArray] v fun e w' => e = .returned (.agg (vl 21 (tv u)).toArray) ∧ Ext v w' := fun v => by rw [hu]; exact triof_any (bare t.b) (bare t.c) P2 v
            clear e2 hu HCO RA
            go_upto_region 17 with (first | go_skip)
            clear cf
            refine wp_region_reads (fun i => decide (i < 8)) 1 9 (fun w' => ∃ x : Grow v, w' = x.out) (by kernel_rfl) (by kernel_rfl) (fun c a x v w h => by cases x <;> exact h) ⟨⟨v.drew, (Ext.refl v).drew⟩, rfl⟩ ?_
            intro l1 l2 h1 h2
            simp [pickB] at h1 h2
            subst h1 h2
            (repeat (first | (go_big_quiet_want; refine quiet_load_cells 63 (.tmp 56) bt (7) (vl 7 (rv (bare t.b))) _ rfl rfl (by rintro _ ⟨x', rfl⟩; exact range_later RB x'.ext) Tryd.underlying63 rfl (by rw [vl_len]; kernel_rfl) ?_; simp only [Act.put, List.setIfInBounds_toArray, List.set_cons_succ, List.set_cons_zero]; go_big_quiet_on) | (go_big_quiet_want; refine quiet_load_cells 63 (.tmp 58) bt (14) (vl 7 (rv (bare t.c))) _ rfl rfl (by rintro _ ⟨x', rfl⟩; exact range_later RC x'.ext) Tryd.underlying63 rfl (by rw [vl_len]; kernel_rfl) ?_; simp only [Act.put, List.setIfInBounds_toArray, List.set_cons_succ, List.set_cons_zero]; go_big_quiet_on) | (go_big_quiet_want; refine quiet_load_cells 63 (.tmp 62) bv (ov + i * 7) (vl 7 (rv (P2))) _ rfl rfl (by rintro _ ⟨x', rfl⟩; exact range_later r0 x'.ext) Tryd.underlying63 rfl (by rw [vl_len]; kernel_rfl) ?_; simp only [Act.put, List.setIfInBounds_toArray, List.set_cons_succ, List.set_cons_zero]; go_big_quiet_on) | go_big_quiet_step (fail)))
            refine wpQuiet_nil ?_
            have hE0 : Ext v v.drew := (Ext.refl v).drew
            refine hold_step (n := 0) fun K hK => ?_
            go_wp2_with (first | (go_at_call 71; with_reducible refine (TO _).mono ?_; rintro e v1 ⟨rfl, hb⟩))
            have hE1 := hE0.trans hb
            clear hb
            refine hK _ _ ⟨⟨v1, hE1⟩, rfl⟩ ?_
            clear hK K TO
            refine hold_done ?_
            have TB1 := TB.later hE1
            have TH := TB1.there (m := 21) rfl
            have one21 := tv_one u
            have HTU : Hid (Vm (v1.setCells bt 0 (vl 21 (tv u))) bt 21 (tv u)) := TB1.cells (by decide) _
            have C3 : Chg (fun b => b = bt) v (v1.setCells bt 0 (vl 21 (tv u))) := Chg.cells (S := fun b => b = bt) (Chg.of hE1) (b := bt) (.inl rfl) _ _
            obtain ⟨gu, hg⟩ : ∃ g, tv u = g := ⟨_, rfl⟩
            have HG : Hid (tv u = gu) := hg
            rw [hg] at HTU C3 one21 ⊢
            clear hg
            go_upto_region 20 with (first | (refine wpList_store_vl rfl 65 (.tmp 5) (.tmp 64) rfl bt 0 21 gu rfl rfl TH size_tri21 one21 ?_))
            simp only [Act.put]
            obtain ⟨v4, hv4⟩ : ∃ v4, v1.setCells bt 0 (vl 21 gu) = v4 := ⟨_, rfl⟩
            rw [hv4] at HTU C3 ⊢
            have EX4 : Ext w v4 := C3.over EX (fun i hi => by omega)
            have SL4 := SL.chg C3 (fun b hb e => by have := hnew b hb; omega)
            have TB4 := HTU.out
            rw [← HG.out] at TB4
            clear EX SL TB TB1 TH one21 HTU C3 HG hE0 hE1 hv4 v1 r0 RB RC
            clear v
            rename World => v
            have EX := EX4
            have SL := SL4
            have TB := TB4
            clear EX4 SL4 TB4
            have HU : Hid (tri21 (rv (bare u.a)) (rv (bare u.b)) (rv (bare u.c)) = tv u) := rfl
            obtain ⟨f0, hf0⟩ : ∃ f, rv (bare u.a) = f := ⟨_, rfl⟩
            obtain ⟨f1, hf1⟩ : ∃ f, rv (bare u.b) = f := ⟨_, rfl⟩
            obtain ⟨f2, hf2⟩ : ∃ f, rv (bare u.c) = f := ⟨_, rfl⟩
            have one : ∀ x ∈ [f0 0, f0 1, f0 2, f0 3, f0 4, f0 5, f0 6, f1 0, f1 1, f1 2, f1 3, f1 4, f1 5, f1 6, f2 0, f2 1, f2 2, f2 3, f2 4, f2 5, f2 6], x.oneCell' = true := by rw [← hf0, ← hf1, ← hf2]; exact tri21_one (rv_one _) (rv_one _) (rv_one _)
            rw [hf0, hf1, hf2] at HU
            clear hf0 hf1 hf2
            have F : v.rangeAt bt 0 [f0 0, f0 1, f0 2, f0 3, f0 4, f0 5, f0 6, f1 0, f1 1, f1 2, f1 3, f1 4, f1 5, f1 6, f2 0, f2 1, f2 2, f2 3, f2 4, f2 5, f2 6] := by have := TB.range; rw [← HU.out, tri21_list] at this; exact this
            have E9 : Ext v (v.alloc (.cells #[f0 0, f0 1, f0 2, f0 3, f0 4, f0 5, f0 6, f1 0, f1 1, f1 2, f1 3, f1 4, f1 5, f1 6, f2 0, f2 1, f2 2, f2 3, f2 4, f2 5, f2 6] 65)) := (Ext.refl v).alloc _
            have NB : ∀ k x, ([f0 0, f0 1, f0 2, f0 3, f0 4, f0 5, f0 6, f1 0, f1 1, f1 2, f1 3, f1 4, f1 5, f1 6, f2 0, f2 1, f2 2, f2 3, f2 4, f2 5, f2 6] : List Value)[k]? = some x → (v.alloc (.cells #[f0 0, f0 1, f0 2, f0 3, f0 4, f0 5, f0 6, f1 0, f1 1, f1 2, f1 3, f1 4, f1 5, f1 6, f2 0, f2 1, f2 2, f2 3, f2 4, f2 5, f2 6] 65)).cell? ((⟨v.heap.size, 0, none⟩ : Addr).add k) = some x := World.news_of_block (cs := #[f0 0, f0 1, f0 2, f0 3, f0 4, f0 5, f0 6, f1 0, f1 1, f1 2, f1 3, f1 4, f1 5, f1 6, f2 0, f2 1, f2 2, f2 3, f2 4, f2 5, f2 6]) (t := 65) (fr := (0, 0)) (heap_alloc_new v _)
            have SL2 : World.ownsC (v.alloc (.cells #[f0 0, f0 1, f0 2, f0 3, f0 4, f0 5, f0 6, f1 0, f1 1, f1 2, f1 3, f1 4, f1 5, f1 6, f2 0, f2 1, f2 2, f2 3, f2 4, f2 5, f2 6] 65)) 0 65 21 sv O.length (ew 21 O.length (fun k => tv (O.getD k z3))) := SL.later E9
            have hsz : (v.alloc (.cells #[f0 0, f0 1, f0 2, f0 3, f0 4, f0 5, f0 6, f1 0, f1 1, f1 2, f1 3, f1 4, f1 5, f1 6, f2 0, f2 1, f2 2, f2 3, f2 4, f2 5, f2 6] 65)).heap.size = v.heap.size + 1 := by simp
            have hfew := HC.out.few
            have hN' := HN.out
            go_upto_region 8 with (first | go_skip | (refine wpList_load_mid rfl 65 (.tmp 5) rfl bt 0 rfl [f0 0, f0 1, f0 2, f0 3, f0 4, f0 5, f0 6, f1 0, f1 1, f1 2, f1 3, f1 4, f1 5, f1 6, f2 0, f2 1, f2 2, f2 3, f2 4, f2 5, f2 6] _ F Tryd.underlying65 rfl (by kernel_rfl) ?_) | (at_builtin; refine wpList_append_lst _ (by rfl) _ _ _ (by rfl) 65 i0 _ 21 60 Tryd.underlying31 hi0 hz0 hz1 hz2 rfl (by omega) sv O.length _ (by rfl) SL2 ⟨v.heap.size, 0, none⟩ 1 1 [f0 0, f0 1, f0 2, f0 3, f0 4, f0 5, f0 6, f1 0, f1 1, f1 2, f1 3, f1 4, f1 5, f1 6, f2 0, f2 1, f2 2, f2 3, f2 4, f2 5, f2 6] (by rfl) (by rfl) NB one (by omega) (by unfold maxLen; omega) (by omega) ?_; intro gg cap' v9 own hat))
            have CH : Chg (fun b => sv.ownBlock = some b) v v9 := by
              refine (Chg.of (S := fun b => sv.ownBlock = some b) E9).trans ?_ (fun b h => .inl h)
              rcases hat with ⟨h, h'⟩ | ⟨_, h'⟩
              · exact Chg.grown h' (fun b hb => by rw [h]; exact hb)
              · exact Chg.grown h' (fun b hb => by cases hb)
            have OWN := Lst.snoc (Y := tri21 f0 f1 f2) own
            have TB9 := TB.blk2 (CH.block bt TB.lt (fun h => by have := hnew _ h; omega)) CH.size
            have hg2 : bt < gg := by
              rcases hat with ⟨h, _⟩ | ⟨h, _⟩
              · exact hnew gg (by rw [h]; rfl)
              · rw [hsz] at h; have := TB.lt; omega
            have EX9 : Ext w v9 := CH.over EX (fun b hb => by have := hnew b hb; omega)
            clear hat NB SL2 E9 F own hsz
            go_wp2_with (first | go_skip)
            go_roundg (gk - 1)
            case measure => omega
            case rel =>
              refine ⟨i + 1, _, O ++ [u], u, rfl, rfl, by omega, by go_num, EX9, ?_, fun b hb => by simp only [Value.ownBlock, Option.some.injEq] at hb; omega, TB9, fun _ => ?_, HCN⟩
              · rw [List.length_append, List.length_singleton]
                exact OWN.congr fun k t hk ht => by
                  rw [getD_snoc]
                  unfold upe
                  by_cases e : k = O.length
                  · rw [if_pos e, if_pos e, ← HU.out]
                  · rw [if_neg e, if_neg e]
              · rw [List.length_append, List.length_singleton, Nat.add_sub_cancel, getD_snoc, if_pos rfl]
          · have f1 : (f == 1) = false := by simp [h1]
            have f2 : (f == 2) = true := by simp; omega
            obtain ⟨u, hu⟩ : ∃ u : T3, u = ⟨t.a, t.c, P2⟩ := ⟨_, rfl⟩
            have HCN : Hid (Chn Q N (i + 1) (O ++ [u])) := by
              have e : next3 t (Q i) = u := by unfold next3; rw [HF.out, if_neg h1, e2, hu]
              rw [e] at HCO; exact HCO
            have TO : ∀ v, Calls Tryd.prog 71 #[.agg (vl 7 (rv (bare t.a))).toArray, .agg (vl 7 (rv (bare t.c))).toArray, .agg (vl 7 (rv P2)).toArray] v fun e w' => e = .returned (.agg (vl 21 (tv u)).toArray) ∧ Ext v w' := fun v => by rw [hu]; exact triof_any (bare t.a) (bare t.c) P2 v
            clear e2 hu HCO RB
            go_upto_region 19 with (first | go_skip)
            clear cf
            refine wp_region_reads (fun i => decide (i < 8)) 1 9 (fun w' => ∃ x : Grow v, w' = x.out) (by kernel_rfl) (by kernel_rfl) (fun c a x v w h => by cases x <;> exact h) ⟨⟨v.drew, (Ext.refl v).drew⟩, rfl⟩ ?_
            intro l1 l2 h1 h2
            simp [pickB] at h1 h2
            subst h1 h2
            (repeat (first | (go_big_quiet_want; refine quiet_load_cells 63 (.tmp 67) bt (0) (vl 7 (rv (bare t.a))) _ rfl rfl (by rintro _ ⟨x', rfl⟩; exact range_later RA x'.ext) Tryd.underlying63 rfl (by rw [vl_len]; kernel_rfl) ?_; simp only [Act.put, List.setIfInBounds_toArray, List.set_cons_succ, List.set_cons_zero]; go_big_quiet_on) | (go_big_quiet_want; refine quiet_load_cells 63 (.tmp 69) bt (14) (vl 7 (rv (bare t.c))) _ rfl rfl (by rintro _ ⟨x', rfl⟩; exact range_later RC x'.ext) Tryd.underlying63 rfl (by rw [vl_len]; kernel_rfl) ?_; simp only [Act.put, List.setIfInBounds_toArray, List.set_cons_succ, List.set_cons_zero]; go_big_quiet_on) | (go_big_quiet_want; refine quiet_load_cells 63 (.tmp 73) bv (ov + i * 7) (vl 7 (rv (P2))) _ rfl rfl (by rintro _ ⟨x', rfl⟩; exact range_later r0 x'.ext) Tryd.underlying63 rfl (by rw [vl_len]; kernel_rfl) ?_; simp only [Act.put, List.setIfInBounds_toArray, List.set_cons_succ, List.set_cons_zero]; go_big_quiet_on) | go_big_quiet_step (fail)))
            refine wpQuiet_nil ?_
            have hE0 : Ext v v.drew := (Ext.refl v).drew
            refine hold_step (n := 0) fun K hK => ?_
            go_wp2_with (first | (go_at_call 71; with_reducible refine (TO _).mono ?_; rintro e v1 ⟨rfl, hb⟩))
            have hE1 := hE0.trans hb
            clear hb
            refine hK _ _ ⟨⟨v1, hE1⟩, rfl⟩ ?_
            clear hK K TO
            refine hold_done ?_
            have TB1 := TB.later hE1
            have TH := TB1.there (m := 21) rfl
            have one21 := tv_one u
            have HTU : Hid (Vm (v1.setCells bt 0 (vl 21 (tv u))) bt 21 (tv u)) := TB1.cells (by decide) _
            have C3 : Chg (fun b => b = bt) v (v1.setCells bt 0 (vl 21 (tv u))) := Chg.cells (S := fun b => b = bt) (Chg.of hE1) (b := bt) (.inl rfl) _ _
            obtain ⟨gu, hg⟩ : ∃ g, tv u = g := ⟨_, rfl⟩
            have HG : Hid (tv u = gu) := hg
            rw [hg] at HTU C3 one21 ⊢
            clear hg
            go_upto_region 20 with (first | (refine wpList_store_vl rfl 65 (.tmp 5) (.tmp 75) rfl bt 0 21 gu rfl rfl TH size_tri21 one21 ?_))
            simp only [Act.put]
            obtain ⟨v4, hv4⟩ : ∃ v4, v1.setCells bt 0 (vl 21 gu) = v4 := ⟨_, rfl⟩
            rw [hv4] at HTU C3 ⊢
            have EX4 : Ext w v4 := C3.over EX (fun i hi => by omega)
            have SL4 := SL.chg C3 (fun b hb e => by have := hnew b hb; omega)
            have TB4 := HTU.out
            rw [← HG.out] at TB4
            clear EX SL TB TB1 TH one21 HTU C3 HG hE0 hE1 hv4 v1 r0 RA RC
            clear v
            rename World => v
            have EX := EX4
            have SL := SL4
            have TB := TB4
            clear EX4 SL4 TB4
            have HU : Hid (tri21 (rv (bare u.a)) (rv (bare u.b)) (rv (bare u.c)) = tv u) := rfl
            obtain ⟨f0, hf0⟩ : ∃ f, rv (bare u.a) = f := ⟨_, rfl⟩
            obtain ⟨f1, hf1⟩ : ∃ f, rv (bare u.b) = f := ⟨_, rfl⟩
            obtain ⟨f2, hf2⟩ : ∃ f, rv (bare u.c) = f := ⟨_, rfl⟩
            have one : ∀ x ∈ [f0 0, f0 1, f0 2, f0 3, f0 4, f0 5, f0 6, f1 0, f1 1, f1 2, f1 3, f1 4, f1 5, f1 6, f2 0, f2 1, f2 2, f2 3, f2 4, f2 5, f2 6], x.oneCell' = true := by rw [← hf0, ← hf1, ← hf2]; exact tri21_one (rv_one _) (rv_one _) (rv_one _)
            rw [hf0, hf1, hf2] at HU
            clear hf0 hf1 hf2
            have F : v.rangeAt bt 0 [f0 0, f0 1, f0 2, f0 3, f0 4, f0 5, f0 6, f1 0, f1 1, f1 2, f1 3, f1 4, f1 5, f1 6, f2 0, f2 1, f2 2, f2 3, f2 4, f2 5, f2 6] := by have := TB.range; rw [← HU.out, tri21_list] at this; exact this
            have E9 : Ext v (v.alloc (.cells #[f0 0, f0 1, f0 2, f0 3, f0 4, f0 5, f0 6, f1 0, f1 1, f1 2, f1 3, f1 4, f1 5, f1 6, f2 0, f2 1, f2 2, f2 3, f2 4, f2 5, f2 6] 65)) := (Ext.refl v).alloc _
            have NB : ∀ k x, ([f0 0, f0 1, f0 2, f0 3, f0 4, f0 5, f0 6, f1 0, f1 1, f1 2, f1 3, f1 4, f1 5, f1 6, f2 0, f2 1, f2 2, f2 3, f2 4, f2 5, f2 6] : List Value)[k]? = some x → (v.alloc (.cells #[f0 0, f0 1, f0 2, f0 3, f0 4, f0 5, f0 6, f1 0, f1 1, f1 2, f1 3, f1 4, f1 5, f1 6, f2 0, f2 1, f2 2, f2 3, f2 4, f2 5, f2 6] 65)).cell? ((⟨v.heap.size, 0, none⟩ : Addr).add k) = some x := World.news_of_block (cs := #[f0 0, f0 1, f0 2, f0 3, f0 4, f0 5, f0 6, f1 0, f1 1, f1 2, f1 3, f1 4, f1 5, f1 6, f2 0, f2 1, f2 2, f2 3, f2 4, f2 5, f2 6]) (t := 65) (fr := (0, 0)) (heap_alloc_new v _)
            have SL2 : World.ownsC (v.alloc (.cells #[f0 0, f0 1, f0 2, f0 3, f0 4, f0 5, f0 6, f1 0, f1 1, f1 2, f1 3, f1 4, f1 5, f1 6, f2 0, f2 1, f2 2, f2 3, f2 4, f2 5, f2 6] 65)) 0 65 21 sv O.length (ew 21 O.length (fun k => tv (O.getD k z3))) := SL.later E9
            have hsz : (v.alloc (.cells #[f0 0, f0 1, f0 2, f0 3, f0 4, f0 5, f0 6, f1 0, f1 1, f1 2, f1 3, f1 4, f1 5, f1 6, f2 0, f2 1, f2 2, f2 3, f2 4, f2 5, f2 6] 65)).heap.size = v.heap.size + 1 := by simp
            have hfew := HC.out.few
            have hN' := HN.out
            go_upto_region 8 with (first | go_skip | (refine wpList_load_mid rfl 65 (.tmp 5) rfl bt 0 rfl [f0 0, f0 1, f0 2, f0 3, f0 4, f0 5, f0 6, f1 0, f1 1, f1 2, f1 3, f1 4, f1 5, f1 6, f2 0, f2 1, f2 2, f2 3, f2 4, f2 5, f2 6] _ F Tryd.underlying65 rfl (by kernel_rfl) ?_) | (at_builtin; refine wpList_append_lst _ (by rfl) _ _ _ (by rfl) 65 i0 _ 21 60 Tryd.underlying31 hi0 hz0 hz1 hz2 rfl (by omega) sv O.length _ (by rfl) SL2 ⟨v.heap.size, 0, none⟩ 1 1 [f0 0, f0 1, f0 2, f0 3, f0 4, f0 5, f0 6, f1 0, f1 1, f1 2, f1 3, f1 4, f1 5, f1 6, f2 0, f2 1, f2 2, f2 3, f2 4, f2 5, f2 6] (by rfl) (by rfl) NB one (by omega) (by unfold maxLen; omega) (by omega) ?_; intro gg cap' v9 own hat))
            have CH : Chg (fun b => sv.ownBlock = some b) v v9 := by
              refine (Chg.of (S := fun b => sv.ownBlock = some b) E9).trans ?_ (fun b h => .inl h)
              rcases hat with ⟨h, h'⟩ | ⟨_, h'⟩
              · exact Chg.grown h' (fun b hb => by rw [h]; exact hb)
              · exact Chg.grown h' (fun b hb => by cases hb)
            have OWN := Lst.snoc (Y := tri21 f0 f1 f2) own
            have TB9 := TB.blk2 (CH.block bt TB.lt (fun h => by have := hnew _ h; omega)) CH.size
            have hg2 : bt < gg := by
              rcases hat with ⟨h, _⟩ | ⟨h, _⟩
              · exact hnew gg (by rw [h]; rfl)
              · rw [hsz] at h; have := TB.lt; omega
            have EX9 : Ext w v9 := CH.over EX (fun b hb => by have := hnew b hb; omega)
            clear hat NB SL2 E9 F own hsz
            go_wp2_with (first | go_skip)
            go_roundg (gk - 1)
            case measure => omega
            case rel =>
              refine ⟨i + 1, _, O ++ [u], u, rfl, rfl, by omega, by go_num, EX9, ?_, fun b hb => by simp only [Value.ownBlock, Option.some.injEq] at hb; omega, TB9, fun _ => ?_, HCN⟩
              · rw [List.length_append, List.length_singleton]
                exact OWN.congr fun k t hk ht => by
                  rw [getD_snoc]
                  unfold upe
                  by_cases e : k = O.length
                  · rw [if_pos e, if_pos e, ← HU.out]
                  · rw [if_neg e, if_neg e]
              · rw [List.length_append, List.length_singleton, Nat.add_sub_cancel, getD_snoc, if_pos rfl]
      · have hii : ¬ (i : Int) < (N : Int) := by omega
        obtain rfl : i = N := by have := HC.out.le; omega
        have HD : Hid (chL none (ql Q 0 i) = (0, O)) := HC.out.done
        have CL := fun v' (h : Ext v v') => clip_any sv O.length _ v' (SL.later h)
        go_wp2_with (first | go_skip | (go_at_call 72; refine (CL _ (Ext.refl v)).mono ?_; rintro e v1 ⟨s1, rfl, hb, SL1, ho⟩))
        go_ret2
        exact FlIs.good (s := s1) HD.out rfl (EX.trans hb) SL1 (fun b hb => by rw [ho] at hb; have := hnew b hb; omega)
end Go.Proofs.YthlhmfjopjikpaaDoor
