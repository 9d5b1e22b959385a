/- The given book, on lists of tris: fill, grow, marked, and a list more. -/
import Derived.Test.YthlhmfjopjikpaaDoorBookB
import Derived.Test.YthlhmfjopjikpaaDoorBookG
import Derived.Test.YthlhmfjopjikpaaDoorBookN
import Derived.Test.YthlhmfjopjikpaaDoorListB
import Derived.Test.YthlhmfjopjikpaaDoorMany
import Derived.Test.YthlhmfjopjikpaaDoorReads
import Derived.Deep.LoopGhost
import Derived.Deep.Light
namespace Go.Proofs.YthlhmfjopjikpaaDoor
open Go.RowKit Go.BigFrame
set_option linter.unusedSimpArgs false
set_option linter.unusedVariables false
def markTri (n : Nat) : Nat → Value | 0 => .int .u8 0 | 1 => .int .u32 (n : Int) | 2 => .int .u32 0 | 3 => .int .u16 0 | 4 => .int .u16 0 | 5 => .int .u16 0 | 6 => .int .u16 0 | 7 => .int .u8 0 | 8 => .int .u32 0 | 9 => .int .u32 0 | 10 => .int .u16 0 | 11 => .int .u16 0 | 12 => .int .u16 0 | 13 => .int .u16 0 | 14 => .int .u8 0 | 15 => .int .u32 0 | 16 => .int .u32 0 | 17 => .int .u16 0 | 18 => .int .u16 0 | 19 => .int .u16 0 | 20 => .int .u16 0 | _ => undef
def kpTri : Kp := ⟨65, 77, 21, markTri⟩
theorem info_stripTri : (Tryd.prog.info? 77).map (fun i => (i.zero, i.size, i.bytes)) = some (some (.agg #[.slice none 0 0, .slice none 0 0, .int .u8 0, .int .u32 0, .int .u32 0, .int .u16 0, .int .u16 0, .int .u16 0, .int .u16 0, .int .u8 0, .int .u32 0, .int .u32 0, .int .u16 0, .int .u16 0, .int .u16 0, .int .u16 0, .int .u8 0, .int .u32 0, .int .u32 0, .int .u16 0, .int .u16 0, .int .u16 0, .int .u16 0]), 23, 112) := by kernel_rfl
theorem info_triB : (Tryd.prog.info? 65).map (fun i => (i.zero, i.size, i.bytes)) = some (some (.agg #[.int .u8 0, .int .u32 0, .int .u32 0, .int .u16 0, .int .u16 0, .int .u16 0, .int .u16 0, .int .u8 0, .int .u32 0, .int .u32 0, .int .u16 0, .int .u16 0, .int .u16 0, .int .u16 0, .int .u8 0, .int .u32 0, .int .u32 0, .int .u16 0, .int .u16 0, .int .u16 0, .int .u16 0]), 21, 60) := by kernel_rfl
theorem sizeTri : (Tryd.prog.info? 65).map (·.size) = some 21 := by kernel_rfl
/-- The strip i in memory. -/
theorem stripTri {D : Kd} {J : Nat → Value} {v : World} {s cap i : Nat} (h : Strips kpTri D J v) (hu : D.u = .slice (some ⟨s, 0, none⟩) D.c cap) (hi : i < D.c) :
    v.cell? ⟨s, i * 23, none⟩ = some (D.S i) ∧ v.cell? ⟨s, i * 23 + 1, none⟩ = some (J i) ∧ v.rangeAt s (i * 23 + 2) (vl 21 (markTri (D.N i))) ∧ v.frozen? ⟨s, i * 23 + 1, none⟩ = false := by
  unfold Strips at h
  rw [hu] at h
  refine ⟨?_, ?_, fun j u hj => ?_, World.ownsC.frozenAt h _⟩
  · have := h.cell hi (show 0 < kpTri.m + 2 by omega); rw [sc0] at this; exact this
  · have := h.cell hi (show 1 < kpTri.m + 2 by omega); rw [sc1] at this; exact this
  · have hjm : j < 21 := by rw [← vl_len 21 (markTri (D.N i))]; exact (List.getElem?_eq_some_iff.1 hj).1
    rw [vl_at _ _ hjm] at hj
    have := h.cell hi (show j + 2 < kpTri.m + 2 by show j + 2 < 21 + 2; omega)
    rw [sc2] at this
    rw [Nat.add_assoc, Nat.add_comm 2 j]
    exact this.trans hj
theorem one_markTri (n : Nat) : (vl 21 (markTri n)).all (·.oneCell') = true := rfl
set_option maxRecDepth 20000 in
set_option maxHeartbeats 1000000 in
theorem fill_tri (D : Kd) (w : World) (hs : Sound D) (r : Raw kpTri D w) : Calls Tryd.prog 32 #[D.u] w fun e w' => e = .returned (.tuple #[]) ∧ Chg (LB D) w w' ∧ Fld kpTri D w' := by
  have FD := fun v (F : Fil kpTri D w v D.c 0) => F.done hs r
  obtain ⟨n, hn⟩ : ∃ n, D.c = n := ⟨_, rfl⟩
  have hfew := hs.few
  obtain ⟨a, cap0, hu0⟩ := Lst.slice r.1
  by_cases h0 : n = 0
  · subst h0
    rw [hu0, hn]
    exact (fill_nil5 a cap0 w).mono fun e v h => ⟨h.1, by rw [h.2]; exact FD w (by rw [hn]; exact Fil.start r)⟩
  obtain ⟨s, cap, hu⟩ := Lst.form r.1 (by omega)
  have HS : Hid (Sound D) := hs
  have HR : Hid (Raw kpTri D w) := r
  have HN : Hid (D.c = n) := hn
  have HU : Hid (D.u = .slice (some ⟨s, 0, none⟩) D.c cap) := hu
  have HD : Hid (∀ v, Fil kpTri D w v n 0 → Chg (LB D) w v ∧ Fld kpTri D v) := fun v F => FD v (by rw [hn]; exact F)
  have F0 := Fil.start r
  rw [hu, hn]
  have n200 : n ≤ 200 := by omega
  clear hs r hn hu FD hfew h0 hu0 a cap0
  go_enter Tryd.func32, Tryd.ntmps32
  go_upto_region 1 with fail
  go_loopg [2] n (fun gk iv wr => ∃ i : Nat, i + gk = n ∧ iv = .int .i64 i ∧ Fil kpTri D w wr i 0)
  case atStart => exact ⟨0, by omega, rfl, F0⟩
  case round =>
    clear F0
    obtain ⟨i, hi, rfl, F⟩ := hrel
    obtain ⟨gko, hgko⟩ : ∃ x, x = gk := ⟨_, rfl⟩
    subst hgko
    by_cases hlt : i < n
    · have hii : (i : Int) < (n : Int) := by omega
      have hic : i < D.c := by rw [HN.out]; exact hlt
      obtain ⟨X0, hX0⟩ := HR.out.2 i hic
      obtain ⟨ai, ci, hSi0⟩ := hX0.slice
      have hl0 := HS.out.len i hic
      have ST0 : Hid (∀ v, Fil kpTri D w v i 0 ∨ (∃ k, Fil kpTri D w v i k) → Strips kpTri D none3 v) := fun v h => by
        obtain ⟨k, h⟩ : ∃ k, Fil kpTri D w v i k := by rcases h with h | h; exact ⟨0, h⟩; exact h
        exact Lst.chg HR.out.1 h.1 (fun b hb ⟨j, hj, h'⟩ => HS.out.nu j b hj hb h')
      obtain ⟨l, hl⟩ : ∃ l, D.L i = l := ⟨_, rfl⟩
      have HL : Hid (D.L i = l) := hl
      rw [hl] at hl0 hSi0 hX0
      have hSi : D.S i = .slice ai l ci := hSi0
      have HSi : Hid (D.S i = .slice ai l ci) := hSi0
      have hform : Hid (0 < l → ∃ g, ai = some ⟨g, 0, none⟩) := fun hp => by
        obtain ⟨g, c, h⟩ := hX0.form hp
        rw [hSi0] at h; cases h; exact ⟨g, rfl⟩
      clear hX0 hSi0 hl
      obtain ⟨c0, c1, cR, fz1⟩ := stripTri (ST0.out _ (.inl F)) HU.out hic
      rw [hSi] at c0
      clear c1 cR fz1 hSi
      go_upto_region 4 with fail
      clear c0
      go_loopg [3] l (fun gk kv wr => ∃ k : Nat, k + gk = l ∧ kv = .int .i64 k ∧ Fil kpTri D w wr i k)
      case atStart => exact ⟨0, by omega, rfl, F⟩
      case round =>
        clear F
        obtain ⟨k, hk, rfl, F⟩ := hrel
        obtain ⟨v0, hv0⟩ : ∃ v0, v0 = wr := ⟨_, rfl⟩
        subst hv0
        obtain ⟨c0, c1, cR, fz1⟩ := stripTri (ST0.out _ (.inr ⟨k, F⟩)) HU.out hic
        have hSi := HSi.out
        rw [hSi] at c0
        clear c1 fz1
        by_cases hkl : k < l
        · have hkl' : (k : Int) < (l : Int) := by omega
          obtain ⟨g, hg⟩ := hform.out (by omega)
          subst hg
          have NX := F.drew.cells HS.out (i := i) (kk := k) (g := g) (cap := ci) (by rw [HN.out]; exact hlt) (by rw [hSi, HL.out]) (by rw [HL.out]; exact hkl)
          have NXd : Hid (Fil kpTri D w (v0.drew.setCells g (k * 21) (vl 21 (markTri (D.N i)))) i (k + 1)) := NX
          clear NX
          have ONE : ∀ v ∈ vl 21 (markTri (D.N i)), v.oneCell' = true := List.all_eq_true.1 (one_markTri _)
          have TH : (v0.drew).there g (k * 21) 21 := fun j hj => by
            obtain ⟨Y, hY, _⟩ := F.2 i (by rw [HN.out]; exact hlt)
            rw [hSi, HL.out] at hY
            exact hY.there hkl j hj
          generalize markTri (D.N i) = f at *
          clear hSi F
          go_upto_region 6 with fail
          have gA := fun x' : Grow v0 => x'.ext.later c0
          have gR := fun x' : Grow v0 => range_later cR x'.ext
          refine wp_region_reads (fun i => decide (i < 11)) 0 11 (fun w' => ∃ x : Grow v0, w' = x.out) (by kernel_rfl) (by kernel_rfl) (fun c a x v w h => by cases x <;> exact h) ⟨⟨v0.drew, (Ext.refl v0).drew⟩, rfl⟩ ?_
          intro l1 l2 h1 h2
          simp [pickB] at h1 h2
          subst h1 h2
          (repeat (first | (go_big_quiet_want; refine quiet_load_cells 65 _ s (i * 23 + 2) (vl 21 f) _ rfl rfl (by rintro _ ⟨x', rfl⟩; exact gR x') Tryd.underlying65 rfl (by rw [vl_len]; kernel_rfl) ?_; simp only [Act.put, List.setIfInBounds_toArray, List.set_cons_succ, List.set_cons_zero]; go_big_quiet_on) | go_big_quiet_step (fail))); refine wpQuiet_nil ?_; clear gA gR
          refine hold_done ?_
          go_wp2_with (first | (refine wpList_store_vl rfl 65 (.tmp 31) (.tmp 30) rfl g (k * 21) 21 f rfl rfl ?th sizeTri ONE ?_))
          case th => exact TH
          try go_wp2
          go_roundg (gk - 1)
          case measure => omega
          case rel => exact ⟨k + 1, by omega, by go_num, NXd.out⟩
        · have hkl' : ¬ (k : Int) < (l : Int) := by omega
          obtain rfl : k = l := by omega
          have NX : Fil kpTri D w v0 (i + 1) 0 := Fil.next (by rw [HL.out]; exact F)
          clear F hSi cR
          go_wp2
          go_roundg (gko - 1)
          case measure => omega
          case rel => exact ⟨i + 1, by omega, by go_num, NX⟩
    · have hii : ¬ (i : Int) < (n : Int) := by omega
      obtain rfl : i = n := by omega
      go_wp2
      go_end0
      exact ⟨rfl, HD.out _ F⟩
set_option maxRecDepth 20000 in
set_option maxHeartbeats 2000000 in
theorem grow_tri (D : Kd) (w : World) (hs : Sound D) (r : Fld kpTri D w) : Calls Tryd.prog 45 #[D.u] w fun e w' => e = .returned (.tuple #[]) ∧ Chg (KB D) w w' ∧ Grn kpTri D w.heap.size w' := by
  obtain ⟨i0, hi0, hz0, hz1, hz2⟩ := info_parts info_triB
  have G0 := Gro.start r
  have FD := fun v J (F : Gro kpTri D w v D.c J) => F.done
  obtain ⟨n, hn⟩ : ∃ n, D.c = n := ⟨_, rfl⟩
  have hfew := hs.few
  obtain ⟨a, cap0, hu0⟩ := Lst.slice r.1
  by_cases h0 : n = 0
  · subst h0
    rw [hu0, hn]
    exact (grow_nil5 a cap0 w).mono fun e v h => ⟨h.1, by rw [h.2]; exact FD w _ (by rw [hn]; exact G0)⟩
  obtain ⟨s, cap, hu⟩ := Lst.form r.1 (by omega)
  have hsw : s < w.heap.size := Lst.heap r.1 (by rw [hu]; rfl)
  have HS : Hid (Sound D) := hs
  have HN : Hid (D.c = n) := hn
  have HU : Hid (D.u = .slice (some ⟨s, 0, none⟩) D.c cap) := hu
  have HD : Hid (∀ v J, Gro kpTri D w v n J → Chg (KB D) w v ∧ Grn kpTri D w.heap.size v) := fun v J F => FD v J (by rw [hn]; exact F)
  have HW : Hid (∀ b, KB D b → b < w.heap.size) := fun b hb => by
    rcases hb with hb | ⟨j, hj, hb⟩
    · exact Lst.heap r.1 hb
    · exact (r.2 j hj).heap hb
  have HSL : Hid (∀ i, i < n → ∃ ai ci, D.S i = .slice ai (D.L i) ci) := fun i hi => (r.2 i (by rw [hn]; exact hi)).slice
  rw [hu, hn]
  have n200 : n ≤ 200 := by omega
  clear hs r hn hu FD hfew h0 hu0 a cap0
  go_enter Tryd.func45, Tryd.ntmps45
  go_upto_region 1 with fail
  go_loopg [2] n (fun gk iv wr => ∃ i : Nat, i + gk = n ∧ iv = .int .i64 i ∧ ∃ J, Gro kpTri D w wr i J)
  case atStart => exact ⟨0, by omega, rfl, none3, G0⟩
  case round =>
    clear G0
    obtain ⟨i, hi, rfl, J, F⟩ := hrel
    obtain ⟨gko, hgko⟩ : ∃ x, x = gk := ⟨_, rfl⟩
    subst hgko
    by_cases hlt : i < n
    · have hii : (i : Int) < (n : Int) := by omega
      have hic : i < D.c := by rw [HN.out]; exact hlt
      obtain ⟨v0, hv0⟩ : ∃ v0, v0 = wr := ⟨_, rfl⟩
      subst hv0
      have hsv : s < v0.heap.size := by have := F.1.size; omega
      have hl0 := HS.out.len i hic
      obtain ⟨c0, c1, cR, fz1⟩ := stripTri F.2.1 HU.out hic
      have ST : Hid (Gri kpTri D s i J v0 (v0.setCell ⟨s, i * 23 + 1, none⟩ (D.S i)) 0 (D.S i)) := Gri.start HS.out HU.out hic F
      have HF : Hid (Gro kpTri D w v0 i J) := F
      obtain ⟨ai, ci, hSi⟩ := HSL.out i hlt
      rw [hSi] at c0
      have HSi : Hid (D.S i = .slice ai (D.L i) ci) := hSi
      have ST2 : Hid (Gri kpTri D s i J v0 (v0.setCell ⟨s, i * 23 + 1, none⟩ (.slice ai (D.L i) ci)) 0 (D.S i)) := by rw [HSi.out] at ST; exact (by rw [HSi.out]; exact ST.out)
      clear cR F hSi ST
      obtain ⟨l, hl⟩ : ∃ l, D.L i = l := ⟨_, rfl⟩
      have HL : Hid (D.L i = l) := hl
      rw [hl] at hl0 c0 ST2
      clear hl
      go_upto_region 5 with fail
      clear c0 c1 fz1
      go_loopg [3] 24 (fun gk kv wr => ∃ k : Nat, k + gk = 24 ∧ kv = .int .i64 k ∧ ∃ X, Gri kpTri D s i J v0 wr k X)
      case atStart => exact ⟨0, rfl, rfl, _, ST2.out⟩
      case round =>
        clear ST2
        obtain ⟨k, hk, rfl, X, G⟩ := hrel
        obtain ⟨v, hv⟩ : ∃ v, v = wr := ⟨_, rfl⟩
        subst hv
        by_cases hkl : k < 24
        · have hkl' : (k : Int) < 24 := by omega
          have HG : Hid (Gri kpTri D s i J v0 v k X) := G
          obtain ⟨c0, c1, cR, fz1⟩ := stripTri G.strips HU.out hic
          rw [upJ_self] at c1
          have tk := G.ne HS.out HU.out hic hsv
          have hO : Lst v 65 21 X (l + k) (fun _ => markTri (D.N i)) := by have := G.way.long; rw [HL.out] at this; exact this
          obtain ⟨ad, cp, hX⟩ := hO.slice
          clear c0 fz1 G
          have ONE : ∀ v ∈ vl 21 (markTri (D.N i)), v.oneCell' = true := List.all_eq_true.1 (one_markTri _)
          generalize hf : markTri (D.N i) = f at *
          have HX : Hid (X = .slice ad (l + k) cp) := hX
          rw [hX] at c1
          go_upto_region 7 with fail
          have gA := fun x' : Alt (fun b => X.ownBlock = some b) v => x'.cell tk c1
          have gR := fun x' : Alt (fun b => X.ownBlock = some b) v => (fun j u hj => x'.cell tk (cR j u hj) : x'.out.rangeAt s (i * 23 + 2) (vl 21 f))
          refine wp_region_reads (fun i => decide (i < 12)) 2 14 (fun w' => ∃ x : Alt (fun b => X.ownBlock = some b) v, w' = x.out) (by kernel_rfl) (by kernel_rfl) (fun c a x v w h => by cases x <;> exact h) ⟨⟨v.drew, (Chg.refl _ v).drew⟩, rfl⟩ ?_
          intro l1 l2 h1 h2
          simp [pickB] at h1 h2
          subst h1 h2
          (repeat (first | (go_big_quiet_want; refine quiet_load_cells 65 _ s (i * 23 + 2) (vl 21 f) _ rfl rfl (by rintro _ ⟨x', rfl⟩; exact gR x') Tryd.underlying65 rfl (by rw [vl_len]; kernel_rfl) ?_; simp only [Act.put, List.setIfInBounds_toArray, List.set_cons_succ, List.set_cons_zero]; go_big_quiet_on) | go_big_quiet_step (fail))); refine wpQuiet_nil ?_; clear gA gR
          simp only [show vl 21 f = [f 0, f 1, f 2, f 3, f 4, f 5, f 6, f 7, f 8, f 9, f 10, f 11, f 12, f 13, f 14, f 15, f 16, f 17, f 18, f 19, f 20] from rfl]
          refine hold_step (n := 1) fun K hK => ?_
          go_wp2
          refine hK _ _ ⟨⟨_, ((Chg.refl _ v).alloc _).drew⟩, rfl⟩ ?_
          clear hK K
          refine hold_step (n := 0) fun K hK => ?_
          have EA : Ext v ((v.alloc (.cells #[f 0, f 1, f 2, f 3, f 4, f 5, f 6, f 7, f 8, f 9, f 10, f 11, f 12, f 13, f 14, f 15, f 16, f 17, f 18, f 19, f 20] 65)).drew) := ((Ext.refl v).alloc _).drew
          have NB : ∀ j u, ([f 0, f 1, f 2, f 3, f 4, f 5, f 6, f 7, f 8, f 9, f 10, f 11, f 12, f 13, f 14, f 15, f 16, f 17, f 18, f 19, f 20] : List Value)[j]? = some u → ((v.alloc (.cells #[f 0, f 1, f 2, f 3, f 4, f 5, f 6, f 7, f 8, f 9, f 10, f 11, f 12, f 13, f 14, f 15, f 16, f 17, f 18, f 19, f 20] 65)).drew).cell? ((⟨v.heap.size, 0, none⟩ : Addr).add j) = some u := World.news_of_block (cs := #[f 0, f 1, f 2, f 3, f 4, f 5, f 6, f 7, f 8, f 9, f 10, f 11, f 12, f 13, f 14, f 15, f 16, f 17, f 18, f 19, f 20]) (t := 65) (fr := (0, 0)) (heap_alloc_new v _)
          have hO2 : World.ownsC ((v.alloc (.cells #[f 0, f 1, f 2, f 3, f 4, f 5, f 6, f 7, f 8, f 9, f 10, f 11, f 12, f 13, f 14, f 15, f 16, f 17, f 18, f 19, f 20] 65)).drew) 0 65 21 (.slice ad (l + k) cp) (l + k) (ew 21 (l + k) (fun _ => f)) := by have := hO.later EA; rw [hX] at this; exact this
          go_wp2_with (first | (at_builtin; refine wpList_append_lst _ (by rfl) _ _ _ (by rfl) 65 i0 _ 21 60 Tryd.underlying31 hi0 hz0 hz1 hz2 rfl (by omega) (.slice ad (l + k) cp) (l + k) _ (by rfl) hO2 ⟨v.heap.size, 0, none⟩ 1 1 [f 0, f 1, f 2, f 3, f 4, f 5, f 6, f 7, f 8, f 9, f 10, f 11, f 12, f 13, f 14, f 15, f 16, f 17, f 18, f 19, f 20] (by rfl) (by rfl) NB ONE (by omega) (by unfold maxLen; omega) (by omega) ?_))
          intro g cp' v1 own hat
          go_wp2
          have hat : (X = .slice (some ⟨g, 0, none⟩) (l + k) cp' ∧ ((v.alloc (.cells #[f 0, f 1, f 2, f 3, f 4, f 5, f 6, f 7, f 8, f 9, f 10, f 11, f 12, f 13, f 14, f 15, f 16, f 17, f 18, f 19, f 20] 65)).drew).grownBy v1 (some g)) ∨ (((v.alloc (.cells #[f 0, f 1, f 2, f 3, f 4, f 5, f 6, f 7, f 8, f 9, f 10, f 11, f 12, f 13, f 14, f 15, f 16, f 17, f 18, f 19, f 20] 65)).drew).heap.size ≤ g ∧ ((v.alloc (.cells #[f 0, f 1, f 2, f 3, f 4, f 5, f 6, f 7, f 8, f 9, f 10, f 11, f 12, f 13, f 14, f 15, f 16, f 17, f 18, f 19, f 20] 65)).drew).grownBy v1 none) := by
            rcases hat with ⟨⟨h1, h2⟩, h3⟩ | h
            · exact .inl ⟨by rw [HX.out, h1, h2], h3⟩
            · exact .inr ⟨by have := h.1; simpa using this, h.2⟩
          have CH : Chg (fun b => X.ownBlock = some b) v v1 := by
            refine (Chg.of EA).trans (T := fun b => X.ownBlock = some b) ?_ (fun b hb => .inl hb)
            rcases hat with ⟨h, h'⟩ | ⟨_, h'⟩
            · exact Chg.grown h' (fun b hb => by rw [h]; exact hb)
            · exact Chg.grown h' (fun b hb => by cases hb)
          have own2 : World.ownsC v1 0 kpTri.e kpTri.m (.slice (some ⟨g, 0, none⟩) (D.L i + k + 1) cp') (D.L i + k + 1) (ew kpTri.m (D.L i + k) (fun _ => kpTri.mark (D.N i)) ++ vl kpTri.m (kpTri.mark (D.N i))) := by
            rw [HL.out]
            show World.ownsC v1 0 65 21 _ _ (ew 21 (l + k) (fun _ => markTri (D.N i)) ++ vl 21 (markTri (D.N i)))
            rw [hf]
            exact own
          have NXG : Hid (Gri kpTri D s i J v0 (v1.setCell ⟨s, i * 23 + 1, none⟩ (.slice (some ⟨g, 0, none⟩) (l + k + 1) cp')) (k + 1) (.slice (some ⟨g, 0, none⟩) (l + k + 1) cp')) := by
            have := HG.out.step (by decide) HS.out HU.out hic hsv EA own2 (by rw [HL.out]; exact hat)
            rw [HL.out] at this
            exact this
          obtain ⟨d0, d1, dR, f1⟩ := stripTri (HG.out.mid HS.out HU.out hic hsv CH).2 HU.out hic
          rw [upJ_self, hX] at d1
          have ls1 : s < v1.heap.size := cell_lt d1
          refine hK _ _ ⟨⟨v1, CH⟩, rfl⟩ ?_
          clear hK K own own2 hat CH hO2 NB EA d0 dR hO
          refine hold_done ?_
          go_wp2
          go_roundg (gk - 1)
          case measure => omega
          case rel => exact ⟨k + 1, by omega, by go_num, _, NXG.out⟩
        · have hkl' : ¬ (k : Int) < 24 := by omega
          obtain rfl : k = 24 := by omega
          have NX := Gri.done HS.out HU.out hic HW.out HF.out G
          clear G
          go_wp2
          go_roundg (gko - 1)
          case measure => omega
          case rel => exact ⟨i + 1, by omega, by go_num, _, NX⟩
    · have hii : ¬ (i : Int) < (n : Int) := by omega
      obtain rfl : i = n := by omega
      go_wp2
      go_end0
      exact ⟨rfl, HD.out _ _ F⟩
theorem kinds_markTri (n : Nat) (hn : n ≤ 250) : Kinds [some .u8, some .u32, some .u32, some .u16, some .u16, some .u16, some .u16, some .u8, some .u32, some .u32, some .u16, some .u16, some .u16, some .u16, some .u8, some .u32, some .u32, some .u16, some .u16, some .u16, some .u16] (vl 21 (markTri n)) := by
  show Kinds [some .u8, some .u32, some .u32, some .u16, some .u16, some .u16, some .u16, some .u8, some .u32, some .u32, some .u16, some .u16, some .u16, some .u16, some .u8, some .u32, some .u32, some .u16, some .u16, some .u16, some .u16] [.int .u8 0, .int .u32 (n : Int), .int .u32 0, .int .u16 0, .int .u16 0, .int .u16 0, .int .u16 0, .int .u8 0, .int .u32 0, .int .u32 0, .int .u16 0, .int .u16 0, .int .u16 0, .int .u16 0, .int .u8 0, .int .u32 0, .int .u32 0, .int .u16 0, .int .u16 0, .int .u16 0, .int .u16 0]
  simp only [Kinds, OfKind]
  refine ⟨_, _, rfl, ⟨_, rfl, by simp [Lit.wf, IntKind.min, IntKind.max, IntKind.signed, IntKind.bits] <;> omega⟩, ⟨_, _, rfl, ⟨_, rfl, by simp [Lit.wf, IntKind.min, IntKind.max, IntKind.signed, IntKind.bits] <;> omega⟩, ⟨_, _, rfl, ⟨_, rfl, by simp [Lit.wf, IntKind.min, IntKind.max, IntKind.signed, IntKind.bits] <;> omega⟩, ⟨_, _, rfl, ⟨_, rfl, by simp [Lit.wf, IntKind.min, IntKind.max, IntKind.signed, IntKind.bits] <;> omega⟩, ⟨_, _, rfl, ⟨_, rfl, by simp [Lit.wf, IntKind.min, IntKind.max, IntKind.signed, IntKind.bits] <;> omega⟩, ⟨_, _, rfl, ⟨_, rfl, by simp [Lit.wf, IntKind.min, IntKind.max, IntKind.signed, IntKind.bits] <;> omega⟩, ⟨_, _, rfl, ⟨_, rfl, by simp [Lit.wf, IntKind.min, IntKind.max, IntKind.signed, IntKind.bits] <;> omega⟩, ⟨_, _, rfl, ⟨_, rfl, by simp [Lit.wf, IntKind.min, IntKind.max, IntKind.signed, IntKind.bits] <;> omega⟩, ⟨_, _, rfl, ⟨_, rfl, by simp [Lit.wf, IntKind.min, IntKind.max, IntKind.signed, IntKind.bits] <;> omega⟩, ⟨_, _, rfl, ⟨_, rfl, by simp [Lit.wf, IntKind.min, IntKind.max, IntKind.signed, IntKind.bits] <;> omega⟩, ⟨_, _, rfl, ⟨_, rfl, by simp [Lit.wf, IntKind.min, IntKind.max, IntKind.signed, IntKind.bits] <;> omega⟩, ⟨_, _, rfl, ⟨_, rfl, by simp [Lit.wf, IntKind.min, IntKind.max, IntKind.signed, IntKind.bits] <;> omega⟩, ⟨_, _, rfl, ⟨_, rfl, by simp [Lit.wf, IntKind.min, IntKind.max, IntKind.signed, IntKind.bits] <;> omega⟩, ⟨_, _, rfl, ⟨_, rfl, by simp [Lit.wf, IntKind.min, IntKind.max, IntKind.signed, IntKind.bits] <;> omega⟩, ⟨_, _, rfl, ⟨_, rfl, by simp [Lit.wf, IntKind.min, IntKind.max, IntKind.signed, IntKind.bits] <;> omega⟩, ⟨_, _, rfl, ⟨_, rfl, by simp [Lit.wf, IntKind.min, IntKind.max, IntKind.signed, IntKind.bits] <;> omega⟩, ⟨_, _, rfl, ⟨_, rfl, by simp [Lit.wf, IntKind.min, IntKind.max, IntKind.signed, IntKind.bits] <;> omega⟩, ⟨_, _, rfl, ⟨_, rfl, by simp [Lit.wf, IntKind.min, IntKind.max, IntKind.signed, IntKind.bits] <;> omega⟩, ⟨_, _, rfl, ⟨_, rfl, by simp [Lit.wf, IntKind.min, IntKind.max, IntKind.signed, IntKind.bits] <;> omega⟩, ⟨_, _, rfl, ⟨_, rfl, by simp [Lit.wf, IntKind.min, IntKind.max, IntKind.signed, IntKind.bits] <;> omega⟩, ⟨_, _, rfl, ⟨_, rfl, by simp [Lit.wf, IntKind.min, IntKind.max, IntKind.signed, IntKind.bits] <;> omega⟩, rfl⟩⟩⟩⟩⟩⟩⟩⟩⟩⟩⟩⟩⟩⟩⟩⟩⟩⟩⟩⟩⟩
theorem self_markTri (n : Nat) (hn : n ≤ 250) (w : World) : (Op.equalIn 10000 65 (.agg (vl 21 (markTri n)).toArray) (.agg (vl 21 (markTri n)).toArray)).run Tryd.prog w = .ok true w :=
  eq_selfa 6 Tryd.underlying65 (by kernel_rfl) (by kernel_rfl) (by kernel_rfl) (by kernel_rfl) (by decide) (kinds_markTri n hn) w
set_option maxRecDepth 20000 in
set_option maxHeartbeats 4000000 in
theorem marked_tri (D : Kd) (w : World) (hs : Sound D) {H : Nat} (r : Grn kpTri D H w) : Calls Tryd.prog 58 #[D.u] w fun e w' => e = .returned (.bool true) ∧ Ext w w' := by
  obtain ⟨J, hst, rows⟩ := r
  obtain ⟨n, hn⟩ : ∃ n, D.c = n := ⟨_, rfl⟩
  have hfew := hs.few
  obtain ⟨a, cap0, hu0⟩ := Lst.slice hst
  by_cases h0 : n = 0
  · subst h0
    rw [hu0, hn]
    exact (marked_nil5 a cap0 w).mono fun e v h => ⟨h.1, by rw [h.2]; exact Ext.refl w⟩
  obtain ⟨s, cap, hu⟩ := Lst.form hst (by omega)
  have HS : Hid (Sound D) := hs
  have HN : Hid (D.c = n) := hn
  have HC : Hid (∀ i, i < n → w.cell? ⟨s, i * 23, none⟩ = some (D.S i) ∧ w.cell? ⟨s, i * 23 + 1, none⟩ = some (J i) ∧ w.rangeAt s (i * 23 + 2) (vl 21 (markTri (D.N i))) ∧ w.frozen? ⟨s, i * 23 + 1, none⟩ = false) := fun i hi => stripTri hst hu (by rw [hn]; exact hi)
  have HR : Hid (∀ i, i < n → Lst w 65 21 (D.S i) (D.L i) (fun _ => markTri (D.N i)) ∧ Lst w 65 21 (J i) (D.L i + 24) (fun _ => markTri (D.N i))) := fun i hi => ⟨(rows i (by rw [hn]; exact hi)).1, (rows i (by rw [hn]; exact hi)).2.1⟩
  rw [hu, hn]
  have n200 : n ≤ 200 := by omega
  clear hs hst rows hn hu hfew h0 hu0 a cap0
  go_enter Tryd.func58, Tryd.ntmps58
  go_upto_region 2 with fail
  go_loopg [3] n (fun gk iv wr => ∃ i : Nat, i + gk = n ∧ iv = .int .i64 i ∧ Ext w wr)
  case atStart => exact ⟨0, by omega, rfl, Ext.refl w⟩
  case round =>
    obtain ⟨i, hi, rfl, EX⟩ := hrel
    obtain ⟨gko, hgko⟩ : ∃ x, x = gk := ⟨_, rfl⟩
    subst hgko
    by_cases hlt : i < n
    · have hii : (i : Int) < (n : Int) := by omega
      have hic : i < D.c := by rw [HN.out]; exact hlt
      have hl0 := HS.out.len i hic
      obtain ⟨c0w, c1w, cR, _⟩ := HC.out i hlt
      obtain ⟨LS, LO⟩ := HR.out i hlt
      obtain ⟨d, cd, hJ⟩ := LO.form (by omega)
      obtain ⟨ai, ci, hS⟩ := LS.slice
      rw [hJ] at c1w LO
      rw [hS] at c0w LS
      have hform : 0 < D.L i → ∃ g, ai = some ⟨g, 0, none⟩ := fun hp => by
        obtain ⟨g, c, h⟩ := LS.form hp
        cases h; exact ⟨g, rfl⟩
      clear hJ hS
      generalize D.L i = l at *
      obtain ⟨m, hm⟩ : ∃ m, l + 24 = m := ⟨_, rfl⟩
      rw [hm] at c1w LO
      have lm : l ≤ m := by omega
      have m9 : m ≤ 200000 := by omega
      have EQ := fun w => self_markTri (D.N i) (HS.out.num i hic) w
      have HLS : Hid (Lst w 65 21 (.slice ai l ci) l (fun _ => markTri (D.N i))) := LS
      have HLO : Hid (Lst w 65 21 (.slice (some ⟨d, 0, none⟩) m cd) m (fun _ => markTri (D.N i))) := LO
      have HF : Hid (0 < l → ∃ g, ai = some ⟨g, 0, none⟩) := hform
      have HcR : Hid (w.rangeAt s (i * 23 + 2) (vl 21 (markTri (D.N i)))) := cR
      clear LS LO hform cR
      go_upto_region 5 with fail
      go_loopg [4] m (fun gk kv wr => ∃ k : Nat, k + gk = m ∧ kv = .int .i64 k ∧ Ext w wr)
      case atStart => exact ⟨0, by omega, rfl, EX⟩
      case round =>
        clear EX
        obtain ⟨k, hk, rfl, EX⟩ := hrel
        obtain ⟨v0, hv0⟩ : ∃ v0, v0 = wr := ⟨_, rfl⟩
        subst hv0
        have c0 := EX.later c0w
        have c1 := EX.later c1w
        by_cases hkm : k < m
        · have hkm' : (k : Int) < (m : Int) := by omega
          go_upto_region 7 with fail
          have LO := HLO.out
          have LS := HLS.out
          have cR := HcR.out
          have cJ : w.rangeAt d (k * 21) (vl 21 (markTri (D.N i))) := LO.range hkm
          have gA := fun x' : Grow v0 => x'.ext.later c0
          have gB := fun x' : Grow v0 => x'.ext.later c1
          by_cases hkl : k < l
          · have hkl' : (k : Int) < (l : Int) := by omega
            obtain ⟨g, hg⟩ := HF.out (by omega)
            subst hg
            have cL : w.rangeAt g (k * 21) (vl 21 (markTri (D.N i))) := LS.range hkl
            clear LO LS HLO HLS HF HcR
            generalize markTri (D.N i) = f at *
            have gD := fun x' : Grow v0 => range_later cJ (Ext.trans EX x'.ext)
            have gE := fun x' : Grow v0 => range_later cL (Ext.trans EX x'.ext)
            have gR := fun x' : Grow v0 => range_later cR (Ext.trans EX x'.ext)
            have d1 : decide ((k : Int) < (l : Int)) = true := decide_eq_true hkl'
            have d2 : decide (k < l) = true := decide_eq_true hkl
            refine wp_region_grow (by kernel_rfl) (by kernel_rfl) ?_; (repeat (first | (go_big_quiet_want; refine quiet_load_cells 65 _ d (k * 21) (vl 21 f) _ rfl rfl (by rintro _ ⟨x', rfl⟩; exact gD x') Tryd.underlying65 rfl (by rw [vl_len]; kernel_rfl) ?_; simp only [Act.put, List.setIfInBounds_toArray, List.set_cons_succ, List.set_cons_zero]; go_big_quiet_on) | (go_big_quiet_want; refine quiet_load_cells 65 _ s (i * 23 + 2) (vl 21 f) _ rfl rfl (by rintro _ ⟨x', rfl⟩; exact gR x') Tryd.underlying65 rfl (by rw [vl_len]; kernel_rfl) ?_; simp only [Act.put, List.setIfInBounds_toArray, List.set_cons_succ, List.set_cons_zero]; go_big_quiet_on) | (go_big_quiet_want; refine quiet_load_cells 65 _ g (k * 21) (vl 21 f) _ rfl rfl (by rintro _ ⟨x', rfl⟩; exact gE x') Tryd.underlying65 rfl (by rw [vl_len]; kernel_rfl) ?_; simp only [Act.put, List.setIfInBounds_toArray, List.set_cons_succ, List.set_cons_zero]; go_big_quiet_on) | go_big_quiet_step (fail))); refine wpQuiet_nil ?_; clear gA gB gD gE gR; rintro _ ⟨xq, rfl⟩; replace EX := Ext.trans EX xq.ext; generalize xq.out = v1 at *
            go_wp2
            go_roundg (gk - 1)
            case measure => omega
            case rel => exact ⟨k + 1, by omega, by go_num, EX⟩
          · have hkl' : ¬ (k : Int) < (l : Int) := by omega
            clear LO LS HLO HLS HF HcR
            generalize markTri (D.N i) = f at *
            have gD := fun x' : Grow v0 => range_later cJ (Ext.trans EX x'.ext)
            have gR := fun x' : Grow v0 => range_later cR (Ext.trans EX x'.ext)
            have d1 : decide ((k : Int) < (l : Int)) = false := decide_eq_false hkl'
            have d2 : decide (k < l) = false := decide_eq_false hkl
            refine wp_region_grow (by kernel_rfl) (by kernel_rfl) ?_; (repeat (first | (go_big_quiet_want; refine quiet_load_cells 65 _ d (k * 21) (vl 21 f) _ rfl rfl (by rintro _ ⟨x', rfl⟩; exact gD x') Tryd.underlying65 rfl (by rw [vl_len]; kernel_rfl) ?_; simp only [Act.put, List.setIfInBounds_toArray, List.set_cons_succ, List.set_cons_zero]; go_big_quiet_on) | (go_big_quiet_want; refine quiet_load_cells 65 _ s (i * 23 + 2) (vl 21 f) _ rfl rfl (by rintro _ ⟨x', rfl⟩; exact gR x') Tryd.underlying65 rfl (by rw [vl_len]; kernel_rfl) ?_; simp only [Act.put, List.setIfInBounds_toArray, List.set_cons_succ, List.set_cons_zero]; go_big_quiet_on) | go_big_quiet_step (fail))); refine wpQuiet_nil ?_; clear gA gB gD gR; rintro _ ⟨xq, rfl⟩; replace EX := Ext.trans EX xq.ext; generalize xq.out = v1 at *
            go_wp2
            go_roundg (gk - 1)
            case measure => omega
            case rel => exact ⟨k + 1, by omega, by go_num, EX⟩
        · have hkm' : ¬ (k : Int) < (m : Int) := by omega
          go_wp2
          go_roundg (gko - 1)
          case measure => omega
          case rel => exact ⟨i + 1, by omega, by go_num, EX⟩
    · have hii : ¬ (i : Int) < (n : Int) := by omega
      go_wp2
      go_ret
      exact ⟨rfl, EX⟩
set_option maxRecDepth 20000 in
set_option maxHeartbeats 4000000 in
theorem book_tri {kp : Nat → Kp} (hkp : kp 5 = kpTri) (k n l : Nat) (s : Value) (X : Nat → Nat → Value) (D : Nat → Kd) (w : World) (B : Book kp w k n D) (hn : n < 200) (hs : Lst w 65 21 s l X) (hl : l ≤ 100000) (hb : ∀ b, s.ownBlock = some b → ¬ InB D k b) :
    Calls Tryd.prog 13 #[.pointer (some ⟨k, 0, none⟩), s] w fun e w' => e = .returned (.tuple #[]) ∧ ∃ u', Book kp w' k (n + 1) (addD D 5 u' s l (n + 1)) ∧
      Chg (fun b => b = k ∨ (D 5).u.ownBlock = some b) w w' ∧ ∀ b, u'.ownBlock = some b → (D 5).u.ownBlock = some b ∨ w.heap.size ≤ b := by
  obtain ⟨i0, hi0, hz0, hz1, hz2⟩ := info_parts info_stripTri
  have hst := (B.raw 5).1
  rw [hkp] at hst
  obtain ⟨ad, cp, hu⟩ := hst.slice
  obtain ⟨sa, sc, rfl⟩ := hs.slice
  have hcn := B.cnt 5
  have c0 : w.cell? ⟨k, 0, none⟩ = some (.int .i64 n) := B.box.dg 0 (by omega)
  have c1 : w.cell? ⟨k, 5, none⟩ = some (D 5).u := B.box.dg 5 (by omega)
  have lk := B.box.lt
  have fz := B.box.fz 0
  have tk : ¬ (D 5).u.ownBlock = some k := fun h => B.nk 5 (.inl h)
  have O : World.ownsC w 0 77 23 (D 5).u (D 5).c (ew 23 (D 5).c (_root_.Go.Proofs.YthlhmfjopjikpaaDoor.sc (D 5).S none3 (fun i => markTri ((D 5).N i)))) := hst
  have HB : Hid (Book kp w k n D) := B
  have HS : Hid (Lst w 65 21 (.slice sa l sc) l X) := hs
  have HBB : Hid (∀ b, (Value.slice sa l sc).ownBlock = some b → ¬ InB D k b) := hb
  have HU : Hid ((D 5).u = .slice ad (D 5).c cp) := hu
  rw [hu] at c1 O tk
  obtain ⟨c, hc⟩ : ∃ c, (D 5).c = c := ⟨_, rfl⟩
  have HC : Hid ((D 5).c = c) := hc
  rw [hc] at hcn c1 tk
  rw [hc] at O
  have HM : Hid ((B.raw 5).1 = (B.raw 5).1) := rfl
  have V0 := B.box
  have NX : Calls Tryd.prog 25 #[.pointer (some ⟨k, 0, none⟩)] w.drew fun e w' => e = .returned (.int .i64 ((n : Int) + 1)) ∧ Hid (w' = w.drew.setCell ⟨k, 0, none⟩ (.int .i64 ((n : Int) + 1))) := (nextB_any k n w.drew (by omega) c0 fz lk).mono fun e w' h => ⟨h.1, h.2⟩
  have hn1 : ((n : Int) + 1) % 4294967296 = (n : Int) + 1 := by omega
  clear B hst hu hs hb hc HM
  go_enter Tryd.func13, Tryd.ntmps13
  go_upto_region 0 with fail
  have g1 := fun x' : StayC k 5 w => x'.cell c1
  refine wp_region_reads (fun i => decide (i < 7)) 8 15 (fun w' => ∃ x : StayC k 5 w, w' = x.out) (by kernel_rfl) (by kernel_rfl) (fun c a x v w h => by cases x <;> exact h) ⟨⟨w.drew, fun _ h => h⟩, rfl⟩ ?_
  intro l1 l2 h1 h2
  simp [pickB] at h1 h2
  subst h1 h2
  (repeat (first | go_big_quiet_step (fail))); refine wpQuiet_nil ?_; clear g1
  refine hold_step (n := 7) fun K hK => ?_
  go_wp2_with (first | (go_at_call 25; with_reducible refine NX.mono ?_; rintro e v1 ⟨rfl, hv1⟩))
  have S1 : ∀ y, w.cell? ⟨k, 5, none⟩ = some y → v1.cell? ⟨k, 5, none⟩ = some y := fun y hy => by rw [hv1.out]; exact cell_skip (.inr (by omega)) hy
  have O1 : World.ownsC v1 0 77 23 (.slice ad c cp) c (ew 23 c (_root_.Go.Proofs.YthlhmfjopjikpaaDoor.sc (D 5).S none3 (fun i => markTri ((D 5).N i)))) := by rw [hv1.out]; exact cwn_set O.drew tk _
  have V1 : Vm v1 k 14 (updv (bkc n D) 0 (.int .i64 ((n : Int) + 1))) := by rw [hv1.out]; exact Vm.set V0.drew 0 _
  have C1 : Chg (fun b => b = k ∨ (Value.slice ad c cp).ownBlock = some b) w v1 := by rw [hv1.out]; exact ((Chg.refl _ w).drew).setCell (.inl (.inl rfl)) _
  have q1 := C1.size
  clear hv1
  refine hK _ _ ⟨⟨v1, S1⟩, rfl⟩ ?_
  clear hK K
  refine hold_step (n := 6) fun K hK => ?_
  go_wp2
  refine hK _ _ ⟨⟨v1, S1⟩, rfl⟩ ?_
  clear hK K
  refine hold_step (n := 5) fun K hK => ?_
  go_wp2
  refine hK _ _ ⟨⟨v1, S1⟩, rfl⟩ ?_
  clear hK K
  refine hold_step (n := 4) fun K hK => ?_
  go_wp2
  refine hK _ _ ⟨⟨v1, S1⟩, rfl⟩ ?_
  clear hK K
  refine hold_step (n := 3) fun K hK => ?_
  go_wp2
  refine hK _ _ ⟨⟨v1, S1⟩, rfl⟩ ?_
  clear hK K
  refine hold_step (n := 2) fun K hK => ?_
  go_wp2
  refine hK _ _ ⟨⟨v1, S1⟩, rfl⟩ ?_
  clear hK K
  refine hold_step (n := 1) fun K hK => ?_
  go_wp2
  refine hK _ _ ⟨⟨_, fun y hy => old1 (S1 y hy)⟩, rfl⟩ ?_
  clear hK K
  refine hold_step (n := 0) fun K hK => ?_
  have NB : ∀ j u, ([.slice sa l sc, .slice none 0 0, .int .u8 0, .int .u32 ((n : Int) + 1), .int .u32 0, .int .u16 0, .int .u16 0, .int .u16 0, .int .u16 0, .int .u8 0, .int .u32 0, .int .u32 0, .int .u16 0, .int .u16 0, .int .u16 0, .int .u16 0, .int .u8 0, .int .u32 0, .int .u32 0, .int .u16 0, .int .u16 0, .int .u16 0, .int .u16 0] : List Value)[j]? = some u → (v1.alloc (.cells #[.slice sa l sc, .slice none 0 0, .int .u8 0, .int .u32 ((n : Int) + 1), .int .u32 0, .int .u16 0, .int .u16 0, .int .u16 0, .int .u16 0, .int .u8 0, .int .u32 0, .int .u32 0, .int .u16 0, .int .u16 0, .int .u16 0, .int .u16 0, .int .u8 0, .int .u32 0, .int .u32 0, .int .u16 0, .int .u16 0, .int .u16 0, .int .u16 0] 77)).cell? ((⟨v1.heap.size, 0, none⟩ : Addr).add j) = some u := World.news_of_block (cs := #[.slice sa l sc, .slice none 0 0, .int .u8 0, .int .u32 ((n : Int) + 1), .int .u32 0, .int .u16 0, .int .u16 0, .int .u16 0, .int .u16 0, .int .u8 0, .int .u32 0, .int .u32 0, .int .u16 0, .int .u16 0, .int .u16 0, .int .u16 0, .int .u8 0, .int .u32 0, .int .u32 0, .int .u16 0, .int .u16 0, .int .u16 0, .int .u16 0]) (t := 77) (fr := (0, 0)) (heap_alloc_new v1 _)
  go_wp2_with (first | (at_builtin; refine wpList_append_lst _ (by rfl) _ _ _ (by rfl) 77 i0 _ 23 112 Tryd.underlying39 hi0 hz0 hz1 hz2 rfl (by omega) (.slice ad c cp) c _ (by rfl) (O1.alloc _) ⟨v1.heap.size, 0, none⟩ 1 1 [.slice sa l sc, .slice none 0 0, .int .u8 0, .int .u32 ((n : Int) + 1), .int .u32 0, .int .u16 0, .int .u16 0, .int .u16 0, .int .u16 0, .int .u8 0, .int .u32 0, .int .u32 0, .int .u16 0, .int .u16 0, .int .u16 0, .int .u16 0, .int .u8 0, .int .u32 0, .int .u32 0, .int .u16 0, .int .u16 0, .int .u16 0, .int .u16 0] (by rfl) (by rfl) NB (by simp [Value.oneCell']) (by omega) (by unfold maxLen; omega) (by omega) ?_))
  intro gg cap' w1 hown1 hat0
  have CH0 : Chg (fun b => (Value.slice ad c cp).ownBlock = some b) (v1.alloc (.cells #[.slice sa l sc, .slice none 0 0, .int .u8 0, .int .u32 ((n : Int) + 1), .int .u32 0, .int .u16 0, .int .u16 0, .int .u16 0, .int .u16 0, .int .u8 0, .int .u32 0, .int .u32 0, .int .u16 0, .int .u16 0, .int .u16 0, .int .u16 0, .int .u8 0, .int .u32 0, .int .u32 0, .int .u16 0, .int .u16 0, .int .u16 0, .int .u16 0] 77)) w1 := by
    rcases hat0 with ⟨h, h'⟩ | ⟨_, h'⟩
    · exact Chg.grown h' (fun b hb => by rw [h.1]; exact hb)
    · exact Chg.grown h' (fun b hb => by cases hb)
  have CH : Chg (fun b => (Value.slice ad c cp).ownBlock = some b) v1 w1 := (Chg.of (S := fun b => (Value.slice ad c cp).ownBlock = some b) ((Ext.refl v1).alloc _)).trans CH0 (fun i hi => .inl hi)
  have hat : (Value.slice ad c cp).ownBlock = some gg ∨ v1.heap.size + 1 ≤ gg := by
    rcases hat0 with ⟨h, _⟩ | ⟨h, _⟩
    · exact .inl (by rw [h.1]; rfl)
    · exact .inr (by simpa using h)
  clear hat0
  go_wp2
  have V2 := V1.blk2 (CH.block k V1.lt tk) CH.size
  refine hK _ _ ⟨⟨w1, fun y hy => (CH.cell tk (S1 y hy))⟩, rfl⟩ ?_
  clear hK K
  refine hold_done ?_
  have k1 : w1.cell? ⟨k, 5, none⟩ = some (bkc n D 5) := V2.dg 5 (by omega)
  have f1 := V2.fz 5
  have lk2 := V2.lt
  have C2 : Chg (fun b => b = k ∨ (Value.slice ad c cp).ownBlock = some b) w w1 := C1.trans CH (fun i hi => .inl (.inr hi))
  clear V1 S1 NX NB O1 O V0
  go_wp2
  go_end0
  have gk : gg ≠ k := by rcases hat with h | h; exact fun e => tk (by rw [h, e]); omega
  have hue : (D 5).u = .slice ad c cp := by rw [HU.out, HC.out]
  refine ⟨rfl, .slice (some ⟨gg, 0, none⟩) (c + 1) cap', ?_, by rw [hue]; exact C2.setCell (.inl (.inl rfl)) _, fun b hb => ?_⟩
  · refine HB.out.add (q := 5) (X := X) (by omega) hn (by rw [hkp]; exact HS.out) hl HBB.out (by rw [hue]; exact C2.setCell (.inl (.inl rfl)) _) ?_ ?_ (fun b hb => ?_)
    · refine (Vm.set V2 5 _).eq fun i hi => ?_
      unfold updv bkc
      by_cases e : i = 5
      · rw [if_pos e, if_neg (by omega), if_pos e]
      · rw [if_neg e]
        by_cases e0 : i = 0
        · rw [if_pos e0, if_pos e0]
        · rw [if_neg e0, if_neg e0, if_neg e0, if_neg e]
    · rw [hkp, HC.out]
      exact cwn_set hown1 (by simp [Value.ownBlock, gk]) _
    · simp only [Value.ownBlock, Option.some.injEq] at hb
      subst hb
      rw [hue]
      exact hat.imp id (fun h => by omega)
  · simp only [Value.ownBlock, Option.some.injEq] at hb
    subst hb
    rw [hue]
    exact hat.imp id (fun h => by omega)
end Go.Proofs.YthlhmfjopjikpaaDoor
