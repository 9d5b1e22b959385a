/- The given helpers same, twin and left, on lists of Rec. -/
import Derived.Test.YthlhmfjopjikpaaDoorProg
import Derived.Test.YthlhmfjopjikpaaDoorListA
import Derived.Test.YthlhmfjopjikpaaDoorListB
import Derived.Test.YthlhmfjopjikpaaDoorReadsB
import Derived.Test.YthlhmfjopjikpaaDoorMany
import Derived.Deep.LoopGhost
import Derived.Deep.Light
namespace Go.Proofs.YthlhmfjopjikpaaDoor
open Go.RowKit Go.BigFrame
set_option linter.unusedSimpArgs false
set_option linter.unusedVariables false
/-- The kinds of a Rec's cells. -/
def kRec : List (Option IntKind) := [some .u8, some .u32, some .u32, some .u16, some .u16, some .u16, some .u16]
theorem flat_rec : flat Tryd.prog 6 63 = some kRec := by kernel_rfl
theorem named_rec : named Tryd.prog 6 63 = true := by kernel_rfl
theorem key_rec : Tryd.prog.keyTypeAt 6 63 = true := by kernel_rfl
/-- The twin's mark. -/
def mkRec : Nat → Value := fun i => (#[.int .u8 201, .int .u32 0, .int .u32 0, .int .u16 0, .int .u16 0, .int .u16 0, .int .u16 0] : Array Value)[i]?.getD undef
theorem self_rec {f : Nat → Value} (h : Kinds kRec (vl 7 f)) (w : World) : (Op.equalIn 10000 63 (.agg (vl 7 f).toArray) (.agg (vl 7 f).toArray)).run Tryd.prog w = .ok true w :=
  eq_self 6 Tryd.underlying63 flat_rec named_rec key_rec (by kernel_rfl) (by decide) h w
set_option maxRecDepth 20000 in
set_option maxHeartbeats 4000000 in
theorem same_rec_some (b1 o1 b2 o2 L c1 c2 : Nat) (X : Nat → Nat → Value) (w : World) (hL : L ≤ 140737488355328) (h1 : ∀ i, i < L → w.rangeAt b1 (o1 + i * 7) (vl 7 (X i))) (h2 : ∀ i, i < L → w.rangeAt b2 (o2 + i * 7) (vl 7 (X i))) (hk : ∀ i, i < L → Kinds kRec (vl 7 (X i))) :
    Calls Tryd.prog 75 #[.slice (some ⟨b1, o1, none⟩) L c1, .slice (some ⟨b2, o2, none⟩) L c2] w fun e w' => e = .returned (.bool true) ∧ Ext w w' := by
  have H1 : Hid (∀ i, i < L → w.rangeAt b1 (o1 + i * 7) (vl 7 (X i))) := h1
  have H2 : Hid (∀ i, i < L → w.rangeAt b2 (o2 + i * 7) (vl 7 (X i))) := h2
  have HK : Hid (∀ i, i < L → Kinds kRec (vl 7 (X i))) := hk
  clear h1 h2 hk
  go_enter Tryd.func75, Tryd.ntmps75
  go_wp2
  go_loopg [5] L (fun gk iv wr => ∃ k : Nat, k + gk = L ∧ iv = .int .i64 k ∧ Ext w wr)
  case atStart => exact ⟨0, by omega, rfl, Ext.refl w⟩
  case round =>
    obtain ⟨k, hk, rfl, EX⟩ := hrel
    by_cases hlt : k < L
    · have hki : (k : Int) < (L : Int) := by omega
      have r1 := range_later (H1.out k hlt) EX
      have r2 := range_later (H2.out k hlt) EX
      have EQ := fun w => self_rec (HK.out k hlt) w
      generalize X k = f at *
      obtain ⟨v, hv⟩ : ∃ v, v = wr := ⟨_, rfl⟩
      subst hv
      go_upto_region 6 with fail
      have g1 := fun x' : Grow v => range_later r1 x'.ext
      have g2 := fun x' : Grow v => range_later r2 x'.ext
      refine wp_region_grow (by kernel_rfl) (by kernel_rfl) ?_
      (repeat (first | (go_big_quiet_want; refine quiet_load_cells 63 _ b1 (o1 + k * 7) (vl 7 f) _ rfl rfl (by rintro _ ⟨x', rfl⟩; exact g1 x') Tryd.underlying63 rfl (by rw [vl_len]; kernel_rfl) ?_; simp only [Act.put, List.setIfInBounds_toArray, List.set_cons_succ, List.set_cons_zero]; go_big_quiet_on) | (go_big_quiet_want; refine quiet_load_cells 63 _ b2 (o2 + k * 7) (vl 7 f) _ rfl rfl (by rintro _ ⟨x', rfl⟩; exact g2 x') Tryd.underlying63 rfl (by rw [vl_len]; kernel_rfl) ?_; simp only [Act.put, List.setIfInBounds_toArray, List.set_cons_succ, List.set_cons_zero]; go_big_quiet_on) | go_big_quiet_step (fail)))
      refine wpQuiet_nil ?_; clear g1 g2; rintro _ ⟨xq, rfl⟩; replace EX := Ext.trans EX xq.ext; generalize xq.out = v1 at *
      go_wp2
      go_roundg (gk - 1)
      case measure => omega
      case rel => exact ⟨k + 1, by omega, by go_num, EX⟩
    · have hki : ¬ ((k : Int) < (L : Int)) := by omega
      go_wp2
      go_ret
      exact ⟨rfl, EX⟩
set_option maxHeartbeats 4000000 in
theorem same_rec_none (a1 a2 : Option Addr) (c1 c2 : Nat) (w : World) :
    Calls Tryd.prog 75 #[.slice a1 0 c1, .slice a2 0 c2] w fun e w' => e = .returned (.bool true) ∧ Ext w w' := by
  have EX := Ext.refl w
  go_enter Tryd.func75, Tryd.ntmps75
  go_wp2
  go_loopg [5] 1 (fun gk iv wr => gk = 1 ∧ iv = .int .i64 0 ∧ Ext w wr)
  case atStart => exact ⟨rfl, rfl, EX⟩
  case round =>
    obtain ⟨hk, rfl, EX⟩ := hrel
    go_wp2
    go_ret
    exact ⟨rfl, EX⟩
/-- Two lists of the same Recs are the same. -/
theorem same_rec (a1 a2 : Option Addr) (L c1 c2 : Nat) (X Y : Nat → Nat → Value) (w : World) (B : Es w 7 a1 L X) (C : Es w 7 a2 L Y) (h : ∀ i, i < L → vl 7 (X i) = vl 7 (Y i)) (hk : ∀ i, i < L → Kinds kRec (vl 7 (X i))) :
    Calls Tryd.prog 75 #[.slice a1 L c1, .slice a2 L c2] w fun e w' => e = .returned (.bool true) ∧ Ext w w' := by
  by_cases h0 : L = 0
  · subst h0; exact same_rec_none a1 a2 c1 c2 w
  · obtain ⟨b1, o1, rfl, k1⟩ := B.form (by omega)
    obtain ⟨b2, o2, rfl, k2⟩ := C.form (by omega)
    exact same_rec_some b1 o1 b2 o2 L c1 c2 X w B.len k1 (fun i hi => by rw [h i hi]; exact k2 i hi) hk
/-- A list that owns its row, as a list wherever it begins. -/
theorem Lst.es_rec {w : World} {n g c : Nat} {X : Nat → Nat → Value} (h : Lst w 63 7 (.slice (some ⟨g, 0, none⟩) n c) n X) (hn : n ≤ 140737488355328) : Es w 7 (some ⟨g, 0, none⟩) n X :=
  ⟨hn, fun i hi => ⟨g, 0, rfl, by rw [Nat.zero_add]; exact h.range hi⟩⟩
/-- A list ahead of its marks. -/
def twRec (L : Nat) (X : Nat → Nat → Value) (i : Nat) : Nat → Value := if i < L then X i else mkRec
theorem twRec_row {w : World} {g L : Nat} {X : Nat → Nat → Value} (h : w.ownsRow 0 63 7 (.slice (some ⟨g, 0, none⟩) (L + 3) (L + 3)) (L + 3) (ew 7 L X ++ [.int .u8 201, .int .u32 0, .int .u32 0, .int .u16 0, .int .u16 0, .int .u16 0, .int .u16 0, .int .u8 201, .int .u32 0, .int .u32 0, .int .u16 0, .int .u16 0, .int .u16 0, .int .u16 0, .int .u8 201, .int .u32 0, .int .u32 0, .int .u16 0, .int .u16 0, .int .u16 0, .int .u16 0])) :
    Lst w 63 7 (.slice (some ⟨g, 0, none⟩) (L + 3) (L + 3)) (L + 3) (twRec L X) := by
  have e : ew 7 L X ++ [.int .u8 201, .int .u32 0, .int .u32 0, .int .u16 0, .int .u16 0, .int .u16 0, .int .u16 0, .int .u8 201, .int .u32 0, .int .u32 0, .int .u16 0, .int .u16 0, .int .u16 0, .int .u16 0, .int .u8 201, .int .u32 0, .int .u32 0, .int .u16 0, .int .u16 0, .int .u16 0, .int .u16 0] = ew 7 (L + 3) (twRec L X) := by
    have e1 : ([.int .u8 201, .int .u32 0, .int .u32 0, .int .u16 0, .int .u16 0, .int .u16 0, .int .u16 0, .int .u8 201, .int .u32 0, .int .u32 0, .int .u16 0, .int .u16 0, .int .u16 0, .int .u16 0, .int .u8 201, .int .u32 0, .int .u32 0, .int .u16 0, .int .u16 0, .int .u16 0, .int .u16 0] : List Value) = vl 7 mkRec ++ (vl 7 mkRec ++ vl 7 mkRec) := rfl
    rw [e1, ← List.append_assoc, ← List.append_assoc, ew_snoc, ew_snoc, ew_snoc]
    refine ew_eq fun i j hi _ => ?_
    unfold upe twRec
    split
    · rw [if_neg (by omega)]
    · split
      · rw [if_neg (by omega)]
      · split
        · rw [if_neg (by omega)]
        · rw [if_pos (by omega)]
  rw [e] at h
  exact Lst.of h
theorem info_rec : (Tryd.prog.info? 63).map (fun i => (i.zero, i.size, i.bytes)) = some (some (.agg #[.int .u8 0, .int .u32 0, .int .u32 0, .int .u16 0, .int .u16 0, .int .u16 0, .int .u16 0]), 7, 20) := by kernel_rfl
theorem one_rec {f : Nat → Value} (h : Kinds kRec (vl 7 f)) : ∀ v ∈ vl 7 f, v.oneCell' = true := kinds_one h
set_option maxRecDepth 20000 in
set_option maxHeartbeats 8000000 in
theorem twin_rec (a : Option Addr) (L c : Nat) (X : Nat → Nat → Value) (w : World) (B : Es w 7 a L X) (hk : ∀ i, i < L → Kinds kRec (vl 7 (X i))) (hL : L ≤ 70000) (ha : a = none → L = 0 ∧ c = 0) :
    Calls Tryd.prog 19 #[.slice a L c, .agg #[.int .u8 201, .int .u32 0, .int .u32 0, .int .u16 0, .int .u16 0, .int .u16 0, .int .u16 0]] w fun e w' => ∃ g, e = .returned (.slice (some ⟨g, 0, none⟩) L (L + 3)) ∧ w.heap.size ≤ g ∧ Ext w w' ∧ Lst w' 63 7 (.slice (some ⟨g, 0, none⟩) (L + 3) (L + 3)) (L + 3) (twRec L X) := by
  obtain ⟨i0, hi0, hz0, hz1, hz2⟩ := info_parts info_rec
  go_enter Tryd.func19, Tryd.ntmps19
  go_wp2_with (first | (refine wpList_make_own _ (by rfl) _ _ _ (by rfl) 0 63 i0 _ 7 Tryd.underlying28 hi0 hz0 hz1 .i64 .i64 _ (L + 3) (by rfl) (by rfl) (by omega) (by rw [hz2]; omega) (by unfold maxLen; omega) (by omega) ?_))
  intro v1 O1 G1
  have VB : Vm v1 w.heap.size 7 mkRec := (Vm.new (cs := #[.int .u8 201, .int .u32 0, .int .u32 0, .int .u16 0, .int .u16 0, .int .u16 0, .int .u16 0]) (t := 63) (Eq.refl w.heap.size) (fun i hi => by match i, hi with | 0, _ => rfl | 1, _ => rfl | 2, _ => rfl | 3, _ => rfl | 4, _ => rfl | 5, _ => rfl | 6, _ => rfl)).later (grown_ext0 G1)
  have E1 : Ext w v1 := Ext.trans (Ext.alloc (Ext.refl w) _) (grown_ext0 G1)
  have q1 := (grown_ext0 G1).more
  rw [World.size_alloc] at q1
  obtain ⟨g, hg⟩ : ∃ g, w.heap.size + 1 = g := ⟨_, rfl⟩
  obtain ⟨bm, hbm⟩ : ∃ bm, w.heap.size = bm := ⟨_, rfl⟩
  rw [hg] at O1 q1 ⊢
  rw [hbm] at VB ⊢
  clear G1
  have B1 := B.later E1
  have hne : ¬ bm = g := by omega
  go_upto_region 2 with fail
  have gM0 := fun x' : Alt (fun b => b = g) v1 => x'.cell hne (VB.dg 0 (by decide))
  have gM1 := fun x' : Alt (fun b => b = g) v1 => x'.cell hne (VB.dg 1 (by decide))
  have gM2 := fun x' : Alt (fun b => b = g) v1 => x'.cell hne (VB.dg 2 (by decide))
  have gM3 := fun x' : Alt (fun b => b = g) v1 => x'.cell hne (VB.dg 3 (by decide))
  have gM4 := fun x' : Alt (fun b => b = g) v1 => x'.cell hne (VB.dg 4 (by decide))
  have gM5 := fun x' : Alt (fun b => b = g) v1 => x'.cell hne (VB.dg 5 (by decide))
  have gM6 := fun x' : Alt (fun b => b = g) v1 => x'.cell hne (VB.dg 6 (by decide))
  refine wp_region_fork (fun i => i == 0 || i == 1 || i == 3 || i == 4 || i == 5) 1 8 (fun w' => ∃ x : Alt (fun b => b = g) v1, w' = x.out) (by kernel_rfl) (by kernel_rfl) (fun c a x v w h => by cases x <;> exact h) ⟨⟨v1.drew, (Chg.refl _ v1).drew⟩, rfl⟩ ?_
  intro l1 oa ob l2 h1 h2
  simp [pickB] at h1 h2
  obtain ⟨rfl, rfl, rfl⟩ := h2
  subst h1
  (repeat (first | go_big_quiet_step (fail))); refine wpQuiet_nil ?_; clear gM0 gM1 gM2 gM3 gM4 gM5 gM6
  have Q1 : Ext v1 v1.drew := Ext.drew (Ext.refl v1)
  constructor
  · refine hold_step (n := 2) fun K hK => ?_
    go_wp2_with (first | (at_builtin; refine wpList_append_fits_any _ (by rfl) _ _ _ (by rfl) 0 63 i0 7 Tryd.underlying28 hi0 hz1 g 0 (L + 3) [] (by rfl) (World.ownsRow.drew O1) a L c (ew 7 L X) (by rfl) (ew_len _ _ _) ha (B1.later Q1).cells (ew_one _ _ _ (fun i hi => one_rec (hk i hi))) (by omega) ?_))
    intro v2 O2 G2
    have C2 : Chg (fun b => b = g) v1 v2 := ((Chg.refl _ v1).drew).trans (Chg.grown (S := fun b => b = g) G2 (fun k e => (Option.some.inj e).symm)) (fun i hi => .inl hi)
    have E2 := grown_over0 (Ext.drew E1) G2 (by omega)
    have q2 := C2.size
    clear G2 O1
    go_wp2
    refine hK _ _ ⟨⟨v2, C2⟩, rfl⟩ ?_
    clear hK K
    refine hold_step (n := 1) fun K hK => ?_
    go_wp2
    refine hK _ _ ⟨⟨_, C2.alloc _⟩, rfl⟩ ?_
    clear hK K
    refine hold_step (n := 0) fun K hK => ?_
    go_wp2_with (first | (at_builtin; refine wpList_append_fits _ (by rfl) _ _ _ (by rfl) 0 63 i0 7 Tryd.underlying28 hi0 hz1 g _ (L + 3) _ (by rfl) (World.ownsRow.alloc O2 _) ⟨v2.heap.size, 0, none⟩ 3 3 [.int .u8 201, .int .u32 0, .int .u32 0, .int .u16 0, .int .u16 0, .int .u16 0, .int .u16 0, .int .u8 201, .int .u32 0, .int .u32 0, .int .u16 0, .int .u16 0, .int .u16 0, .int .u16 0, .int .u8 201, .int .u32 0, .int .u32 0, .int .u16 0, .int .u16 0, .int .u16 0, .int .u16 0] (by rfl) (by rfl) (World.news_of_block (cs := #[.int .u8 201, .int .u32 0, .int .u32 0, .int .u16 0, .int .u16 0, .int .u16 0, .int .u16 0, .int .u8 201, .int .u32 0, .int .u32 0, .int .u16 0, .int .u16 0, .int .u16 0, .int .u16 0, .int .u8 201, .int .u32 0, .int .u32 0, .int .u16 0, .int .u16 0, .int .u16 0, .int .u16 0]) (t := 63) (fr := (0, 0)) (heap_alloc_new v2 _)) (by simp [Value.oneCell']) (by omega) ?_))
    intro v3 O3 G3
    have C3 : Chg (fun b => b = g) v1 v3 := (C2.alloc _).trans (Chg.grown (S := fun b => b = g) G3 (fun k e => (Option.some.inj e).symm)) (fun i hi => .inl hi)
    have E3 := grown_over0 (E2.alloc _) G3 (by omega)
    clear G3 O2
    go_wp2
    refine hK _ _ ⟨⟨v3, C3⟩, rfl⟩ ?_
    clear hK K
    refine hold_done ?_
    go_wp2
    go_ret
    exact ⟨g, rfl, by omega, E3, twRec_row O3⟩
  · refine hold_step (n := 2) fun K hK => ?_
    go_wp2
    have NB : (v1.drew.alloc (.cells #[.int .u8 201, .int .u32 0, .int .u32 0, .int .u16 0, .int .u16 0, .int .u16 0, .int .u16 0, .int .u8 201, .int .u32 0, .int .u32 0, .int .u16 0, .int .u16 0, .int .u16 0, .int .u16 0, .int .u8 201, .int .u32 0, .int .u32 0, .int .u16 0, .int .u16 0, .int .u16 0, .int .u16 0] 63)).heap[v1.heap.size]? = some (.cells #[.int .u8 201, .int .u32 0, .int .u32 0, .int .u16 0, .int .u16 0, .int .u16 0, .int .u16 0, .int .u8 201, .int .u32 0, .int .u32 0, .int .u16 0, .int .u16 0, .int .u16 0, .int .u16 0, .int .u8 201, .int .u32 0, .int .u32 0, .int .u16 0, .int .u16 0, .int .u16 0, .int .u16 0] 63 (0, 0)) := heap_alloc_new v1.drew _
    have C1 : Chg (fun b => b = g) v1 (v1.drew.alloc (.cells #[.int .u8 201, .int .u32 0, .int .u32 0, .int .u16 0, .int .u16 0, .int .u16 0, .int .u16 0, .int .u8 201, .int .u32 0, .int .u32 0, .int .u16 0, .int .u16 0, .int .u16 0, .int .u16 0, .int .u8 201, .int .u32 0, .int .u32 0, .int .u16 0, .int .u16 0, .int .u16 0, .int .u16 0] 63)) := ((Chg.refl _ v1).drew).alloc _
    have Q2 := Ext.alloc Q1 (.cells #[.int .u8 201, .int .u32 0, .int .u32 0, .int .u16 0, .int .u16 0, .int .u16 0, .int .u16 0, .int .u8 201, .int .u32 0, .int .u32 0, .int .u16 0, .int .u16 0, .int .u16 0, .int .u16 0, .int .u8 201, .int .u32 0, .int .u32 0, .int .u16 0, .int .u16 0, .int .u16 0, .int .u16 0] 63)
    have O1' := World.ownsRow.alloc (World.ownsRow.drew O1) (.cells #[.int .u8 201, .int .u32 0, .int .u32 0, .int .u16 0, .int .u16 0, .int .u16 0, .int .u16 0, .int .u8 201, .int .u32 0, .int .u32 0, .int .u16 0, .int .u16 0, .int .u16 0, .int .u16 0, .int .u8 201, .int .u32 0, .int .u32 0, .int .u16 0, .int .u16 0, .int .u16 0, .int .u16 0] 63)
    refine hK _ _ ⟨⟨_, C1⟩, rfl⟩ ?_
    clear hK K
    refine hold_step (n := 1) fun K hK => ?_
    go_wp2_with (first | (at_builtin; refine wpList_append_fits_any _ (by rfl) _ _ _ (by rfl) 0 63 i0 7 Tryd.underlying28 hi0 hz1 g 0 (L + 3) [] (by rfl) O1' a L c (ew 7 L X) (by rfl) (ew_len _ _ _) ha (B1.later Q2).cells (ew_one _ _ _ (fun i hi => one_rec (hk i hi))) (by omega) ?_))
    intro v2 O2 G2
    have C2 : Chg (fun b => b = g) v1 v2 := C1.trans (Chg.grown (S := fun b => b = g) G2 (fun k e => (Option.some.inj e).symm)) (fun i hi => .inl hi)
    have E2 := grown_over0 (Ext.alloc (Ext.drew E1) _) G2 (by omega)
    have hgh : ¬ v1.heap.size = g := by have := World.ownsRow.lt O1 g rfl; omega
    have NB2 : v2.heap[v1.heap.size]? = some (.cells #[.int .u8 201, .int .u32 0, .int .u32 0, .int .u16 0, .int .u16 0, .int .u16 0, .int .u16 0, .int .u8 201, .int .u32 0, .int .u32 0, .int .u16 0, .int .u16 0, .int .u16 0, .int .u16 0, .int .u8 201, .int .u32 0, .int .u32 0, .int .u16 0, .int .u16 0, .int .u16 0, .int .u16 0] 63 (0, 0)) := (G2.block v1.heap.size (Array.getElem?_eq_some_iff.1 NB).1 (fun e => hgh (Option.some.inj e))).trans NB
    clear G2 O1 O1'
    go_wp2
    refine hK _ _ ⟨⟨v2, C2⟩, rfl⟩ ?_
    clear hK K
    refine hold_step (n := 0) fun K hK => ?_
    go_wp2_with (first | (at_builtin; refine wpList_append_fits _ (by rfl) _ _ _ (by rfl) 0 63 i0 7 Tryd.underlying28 hi0 hz1 g _ (L + 3) _ (by rfl) O2 ⟨v1.heap.size, 0, none⟩ 3 3 [.int .u8 201, .int .u32 0, .int .u32 0, .int .u16 0, .int .u16 0, .int .u16 0, .int .u16 0, .int .u8 201, .int .u32 0, .int .u32 0, .int .u16 0, .int .u16 0, .int .u16 0, .int .u16 0, .int .u8 201, .int .u32 0, .int .u32 0, .int .u16 0, .int .u16 0, .int .u16 0, .int .u16 0] (by rfl) (by rfl) (World.news_of_block (cs := #[.int .u8 201, .int .u32 0, .int .u32 0, .int .u16 0, .int .u16 0, .int .u16 0, .int .u16 0, .int .u8 201, .int .u32 0, .int .u32 0, .int .u16 0, .int .u16 0, .int .u16 0, .int .u16 0, .int .u8 201, .int .u32 0, .int .u32 0, .int .u16 0, .int .u16 0, .int .u16 0, .int .u16 0]) (t := 63) (fr := (0, 0)) NB2) (by simp [Value.oneCell']) (by omega) ?_))
    intro v3 O3 G3
    have C3 : Chg (fun b => b = g) v1 v3 := C2.trans (Chg.grown (S := fun b => b = g) G3 (fun k e => (Option.some.inj e).symm)) (fun i hi => .inl hi)
    have E3 := grown_over0 E2 G3 (by omega)
    clear G3 O2
    go_wp2
    refine hK _ _ ⟨⟨v3, C3⟩, rfl⟩ ?_
    clear hK K
    refine hold_done ?_
    go_wp2
    go_ret
    exact ⟨g, rfl, by omega, E3, twRec_row O3⟩
theorem twin_recs (a : Option Addr) (L c : Nat) (X : Nat → Nat → Value) (w : World) (B : Es w 7 a L X) (hk : ∀ i, i < L → Kinds kRec (vl 7 (X i))) (hL : L ≤ 70000) (ha : a = none → L = 0 ∧ c = 0) :
    Calls Tryd.prog 9 #[.slice a L c] w fun e w' => ∃ g, e = .returned (.slice (some ⟨g, 0, none⟩) L (L + 3)) ∧ w.heap.size ≤ g ∧ Ext w w' ∧ Lst w' 63 7 (.slice (some ⟨g, 0, none⟩) (L + 3) (L + 3)) (L + 3) (twRec L X) := by
  have S := twin_rec a L c X w B hk hL ha
  go_enter Tryd.func9, Tryd.ntmps9
  go_wp2_with (first | (go_at_call 19; with_reducible refine S.mono ?_; rintro e v1 ⟨g, rfl, hg, hb, O⟩))
  go_ret
  exact ⟨g, rfl, hg, hb, O⟩
theorem mkRec_kinds : Kinds kRec (vl 7 mkRec) := by
  show Kinds kRec [.int .u8 201, .int .u32 0, .int .u32 0, .int .u16 0, .int .u16 0, .int .u16 0, .int .u16 0]
  simp only [Kinds, kRec, OfKind]
  refine ⟨_, _, rfl, ⟨_, rfl, by decide⟩, ⟨_, _, rfl, ⟨_, rfl, by decide⟩, ⟨_, _, rfl, ⟨_, rfl, by decide⟩, ⟨_, _, rfl, ⟨_, rfl, by decide⟩, ⟨_, _, rfl, ⟨_, rfl, by decide⟩, ⟨_, _, rfl, ⟨_, rfl, by decide⟩, ⟨_, _, rfl, ⟨_, rfl, by decide⟩, rfl⟩⟩⟩⟩⟩⟩⟩
theorem twRec_kinds {L : Nat} {X : Nat → Nat → Value} (hk : ∀ i, i < L → Kinds kRec (vl 7 (X i))) (i : Nat) : Kinds kRec (vl 7 (twRec L X i)) := by
  unfold twRec
  split
  · exact hk i (by assumption)
  · exact mkRec_kinds
theorem lit_rec (v : World) (t : TypeId) : Es (v.alloc (.cells #[.int .u8 201, .int .u32 0, .int .u32 0, .int .u16 0, .int .u16 0, .int .u16 0, .int .u16 0, .int .u8 201, .int .u32 0, .int .u32 0, .int .u16 0, .int .u16 0, .int .u16 0, .int .u16 0, .int .u8 201, .int .u32 0, .int .u32 0, .int .u16 0, .int .u16 0, .int .u16 0, .int .u16 0] t)) 7 (some ⟨v.heap.size, 0, none⟩) 3 (fun _ => mkRec) :=
  ⟨by decide, fun i hi => ⟨_, 0, rfl, fun j x hx => by
    have hj : j < 7 := by rw [← vl_len 7 mkRec]; exact (List.getElem?_eq_some_iff.1 hx).1
    refine new1 ?_
    rw [← hx]
    match i, hi with
    | 0, _ => match j, hj with | 0, _ => rfl | 1, _ => rfl | 2, _ => rfl | 3, _ => rfl | 4, _ => rfl | 5, _ => rfl | 6, _ => rfl
    | 1, _ => match j, hj with | 0, _ => rfl | 1, _ => rfl | 2, _ => rfl | 3, _ => rfl | 4, _ => rfl | 5, _ => rfl | 6, _ => rfl
    | 2, _ => match j, hj with | 0, _ => rfl | 1, _ => rfl | 2, _ => rfl | 3, _ => rfl | 4, _ => rfl | 5, _ => rfl | 6, _ => rfl⟩⟩
set_option maxRecDepth 20000 in
set_option maxHeartbeats 8000000 in
theorem left_rec (a : Option Addr) (g L c : Nat) (X : Nat → Nat → Value) (w : World) (B : Es w 7 a L X) (hk : ∀ i, i < L → Kinds kRec (vl 7 (X i))) (hL : L ≤ 70000) (O : Lst w 63 7 (.slice (some ⟨g, 0, none⟩) (L + 3) (L + 3)) (L + 3) (twRec L X)) :
    Calls Tryd.prog 27 #[.slice (some ⟨g, 0, none⟩) L (L + 3), .slice a L c, .agg #[.int .u8 201, .int .u32 0, .int .u32 0, .int .u16 0, .int .u16 0, .int .u16 0, .int .u16 0]] w fun e w' => e = .returned (.bool true) ∧ Ext w w' := by
  have EX := Ext.refl w
  have HT := twRec_kinds hk
  have E1 : Es w 7 (some ⟨g, 0, none⟩) L (twRec L X) := ⟨by omega, fun i hi => (O.es_rec (by omega)).at_ i (by omega)⟩
  have E2 : Es w 7 (some ⟨g, L * 7, none⟩) 3 (fun i => twRec L X (L + i)) := ⟨by decide, fun i hi => ⟨g, L * 7, rfl, by rw [← Nat.add_mul]; exact O.range (show L + i < L + 3 by omega)⟩⟩
  have S1 := fun (v : World) (hb : Ext w v) => same_rec (some ⟨g, 0, none⟩) a L (L + 3) c (twRec L X) X v (E1.later hb) (B.later hb) (fun i hi => by unfold twRec; rw [if_pos hi]) (fun i _ => HT i)
  have S2 := fun (v : World) (hb : Ext w v) => same_rec (some ⟨g, L * 7, none⟩) (some ⟨v.heap.size, 0, none⟩) 3 3 3 (fun i => twRec L X (L + i)) (fun _ => mkRec) (v.alloc (.cells #[.int .u8 201, .int .u32 0, .int .u32 0, .int .u16 0, .int .u16 0, .int .u16 0, .int .u16 0, .int .u8 201, .int .u32 0, .int .u32 0, .int .u16 0, .int .u16 0, .int .u16 0, .int .u16 0, .int .u8 201, .int .u32 0, .int .u32 0, .int .u16 0, .int .u16 0, .int .u16 0, .int .u16 0] 63))
    (E2.later (hb.alloc _)) (lit_rec v _) (fun i hi => by unfold twRec; rw [if_neg (by omega)]) (fun i _ => HT _)
  clear HT E1 E2 O B hk
  go_enter Tryd.func27, Tryd.ntmps27
  go_upto_region 1 with fail
  refine rebase (G := fun w' => Code.wp _ _ _ _ w') _ (fun v1 => Ext w v1 ∧ Vm v1 w.heap.size 7 mkRec) ⟨by repeat (first | with_reducible exact EX |  with_reducible refine Ext.alloc ?_ _ | with_reducible refine Ext.drew ?_ | with_reducible refine Ext.drewN ?_ _ | with_reducible refine Ext.setCell ?_ (by first | (simp; done) | omega | (dsimp only; omega)) _), Vm.new (cs := #[.int .u8 201, .int .u32 0, .int .u32 0, .int .u16 0, .int .u16 0, .int .u16 0, .int .u16 0]) (t := 63) (Eq.refl w.heap.size) (fun i hi => by match i, hi with | 0, _ => rfl | 1, _ => rfl | 2, _ => rfl | 3, _ => rfl | 4, _ => rfl | 5, _ => rfl | 6, _ => rfl)⟩ ?_
  clear EX
  rintro v1 ⟨EX, VB⟩
  generalize w.heap.size = bm at *
  rename World => v
  go_upto_region 3 with (first | (go_at_call 75; refine (S1 _ EX).mono ?_; rintro e v1 ⟨rfl, hb⟩; replace EX := Ext.trans EX hb; replace VB := VB.later hb; clear hb v; rename World => v))
  have gM0 := fun x' : Grow v => x'.ext.later (VB.dg 0 (by decide))
  have gM1 := fun x' : Grow v => x'.ext.later (VB.dg 1 (by decide))
  have gM2 := fun x' : Grow v => x'.ext.later (VB.dg 2 (by decide))
  have gM3 := fun x' : Grow v => x'.ext.later (VB.dg 3 (by decide))
  have gM4 := fun x' : Grow v => x'.ext.later (VB.dg 4 (by decide))
  have gM5 := fun x' : Grow v => x'.ext.later (VB.dg 5 (by decide))
  have gM6 := fun x' : Grow v => x'.ext.later (VB.dg 6 (by decide))
  refine wp_region_reads (fun i => decide (i < 9)) 2 11 (fun w' => ∃ x : Grow v, w' = x.out) (by kernel_rfl) (by kernel_rfl) (fun c a x v w h => by cases x <;> exact h) ⟨⟨v.drew, Ext.drew (Ext.refl v)⟩, rfl⟩ ?_
  intro l1 l2 h1 h2
  simp [pickB] at h1 h2
  subst h1 h2
  (repeat (first | go_big_quiet_step (fail))); refine wpQuiet_nil ?_; clear gM0 gM1 gM2 gM3 gM4 gM5 gM6
  refine hold_step (n := 1) fun K hK => ?_
  go_wp2
  refine hK _ _ ⟨⟨_, (Ext.drew (Ext.refl v)).alloc _⟩, rfl⟩ ?_
  clear hK K
  refine hold_step (n := 0) fun K hK => ?_
  go_wp2_with (first | (go_at_call 75; refine (S2 v.drew (Ext.drew EX)).mono ?_; rintro e v2 ⟨rfl, hb⟩))
  refine hK _ _ ⟨⟨v2, Ext.trans ((Ext.drew (Ext.refl v)).alloc _) hb⟩, rfl⟩ ?_
  clear hK K
  refine hold_done ?_
  go_wp2
  go_ret
  exact ⟨rfl, Ext.trans (Ext.alloc (Ext.drew EX) _) hb⟩
theorem left_recs (a : Option Addr) (g L c : Nat) (X : Nat → Nat → Value) (w : World) (B : Es w 7 a L X) (hk : ∀ i, i < L → Kinds kRec (vl 7 (X i))) (hL : L ≤ 70000) (O : Lst w 63 7 (.slice (some ⟨g, 0, none⟩) (L + 3) (L + 3)) (L + 3) (twRec L X)) :
    Calls Tryd.prog 15 #[.slice (some ⟨g, 0, none⟩) L (L + 3), .slice a L c] w fun e w' => e = .returned (.bool true) ∧ Ext w w' := by
  have S := left_rec a g L c X w B hk hL O
  go_enter Tryd.func15, Tryd.ntmps15
  go_wp2_with (first | (go_at_call 27; with_reducible refine S.mono ?_; rintro e v1 ⟨rfl, hb⟩))
  go_ret
  exact ⟨rfl, hb⟩
end Go.Proofs.YthlhmfjopjikpaaDoor
