/- The given helpers same, twin and left, on lists of Rec. -/
import Derived.Test.YtemcppakmcffgaaDoorProg
import Derived.Test.YtemcppakmcffgaaDoorListAB
import Derived.Test.YtemcppakmcffgaaDoorReadsAB
import Derived.Test.YtemcppakmcffgaaDoorMany3
import Derived.Deep.LoopGhost
import Derived.Deep.Light
namespace Go.Proofs.YtemcppakmcffgaaDoor
open Go.RowKit Go.BigFrame
set_option linter.unusedSimpArgs false
set_option linter.unusedVariables false
/-- The kinds of a Rec's cells. -/
def kRec : List (Option IntKind) := [some .u8, some .u32, some .u32, some .u16, some .u16, some .u16, some .u16]
theorem flat_rec : flat Tryd.prog 6 63 = some kRec := by kernel_rfl
theorem named_rec : named Tryd.prog 6 63 = true := by kernel_rfl
theorem key_rec : Tryd.prog.keyTypeAt 6 63 = true := by kernel_rfl
/-- The twin's mark. -/
def mkRec : Nat → Value := fun i => (#[.int .u8 201, .int .u32 0, .int .u32 0, .int .u16 0, .int .u16 0, .int .u16 0, .int .u16 0] : Array Value)[i]?.getD undef
theorem self_rec {f : Nat → Value} (h : Kinds kRec (vl 7 f)) (w : World) : (Op.equalIn 10000 63 (.agg (vl 7 f).toArray) (.agg (vl 7 f).toArray)).run Tryd.prog w = .ok true w :=
  eq_self 6 Tryd.underlying63 flat_rec named_rec key_rec (by kernel_rfl) (by decide) h w
set_option maxRecDepth 20000 in
set_option maxHeartbeats 4000000 in
theorem same_rec_some (b1 o1 b2 o2 L c1 c2 : Nat) (X : Nat → Nat → Value) (w : World) (hL : L ≤ 140737488355328) (h1 : ∀ i, i < L → w.rangeAt b1 (o1 + i * 7) (vl 7 (X i))) (h2 : ∀ i, i < L → w.rangeAt b2 (o2 + i * 7) (vl 7 (X i))) (hk : ∀ i, i < L → Kinds kRec (vl 7 (X i))) :
    Calls Tryd.prog 31 #[.slice (some ⟨b1, o1, none⟩) L c1, .slice (some ⟨b2, o2, none⟩) L c2] w fun e w' => e = .returned (.bool true) ∧ Ext w w' := by
  have H1 : Hid (∀ i, i < L → w.rangeAt b1 (o1 + i * 7) (vl 7 (X i))) := h1
  have H2 : Hid (∀ i, i < L → w.rangeAt b2 (o2 + i * 7) (vl 7 (X i))) := h2
  have HK : Hid (∀ i, i < L → Kinds kRec (vl 7 (X i))) := hk
  clear h1 h2 hk
  go_enter Tryd.func31, Tryd.ntmps31
  go_wp2
  go_loopg [5] L (fun gk iv wr => ∃ k : Nat, k + gk = L ∧ iv = .int .i64 k ∧ Ext w wr)
  case atStart => exact ⟨0, by omega, rfl, Ext.refl w⟩
  case round =>
    obtain ⟨k, hk, rfl, EX⟩ := hrel
    by_cases hlt : k < L
    · have hki : (k : Int) < (L : Int) := by omega
      have r1 := range_later (H1.out k hlt) EX
      have r2 := range_later (H2.out k hlt) EX
      have EQ := fun w => self_rec (HK.out k hlt) w
      generalize X k = f at *
      obtain ⟨v, hv⟩ : ∃ v, v = wr := ⟨_, rfl⟩
      subst hv
      go_upto_region 6 with fail
      have g1 := fun x' : Grow v => range_later r1 x'.ext
      have g2 := fun x' : Grow v => range_later r2 x'.ext
      refine wp_region_grow (by kernel_rfl) (by kernel_rfl) ?_
      (repeat (first | (go_big_quiet_want; refine quiet_load_cells 63 _ b1 (o1 + k * 7) (vl 7 f) _ rfl rfl (by rintro _ ⟨x', rfl⟩; exact g1 x') Tryd.underlying63 rfl (by rw [vl_len]; kernel_rfl) ?_; simp only [Act.put, List.setIfInBounds_toArray, List.set_cons_succ, List.set_cons_zero]; go_big_quiet_on) | (go_big_quiet_want; refine quiet_load_cells 63 _ b2 (o2 + k * 7) (vl 7 f) _ rfl rfl (by rintro _ ⟨x', rfl⟩; exact g2 x') Tryd.underlying63 rfl (by rw [vl_len]; kernel_rfl) ?_; simp only [Act.put, List.setIfInBounds_toArray, List.set_cons_succ, List.set_cons_zero]; go_big_quiet_on) | go_big_quiet_step (fail)))
      refine wpQuiet_nil ?_; clear g1 g2; rintro _ ⟨xq, rfl⟩; replace EX := Ext.trans EX xq.ext; generalize xq.out = v1 at *
      go_wp2
      go_roundg (gk - 1)
      case measure => omega
      case rel => exact ⟨k + 1, by omega, by go_num, EX⟩
    · have hki : ¬ ((k : Int) < (L : Int)) := by omega
      go_wp2
      go_ret
      exact ⟨rfl, EX⟩
set_option maxHeartbeats 4000000 in
theorem same_rec_none (a1 a2 : Option Addr) (c1 c2 : Nat) (w : World) :
    Calls Tryd.prog 31 #[.slice a1 0 c1, .slice a2 0 c2] w fun e w' => e = .returned (.bool true) ∧ Ext w w' := by
  have EX := Ext.refl w
  go_enter Tryd.func31, Tryd.ntmps31
  go_wp2
  go_loopg [5] 1 (fun gk iv wr => gk = 1 ∧ iv = .int .i64 0 ∧ Ext w wr)
  case atStart => exact ⟨rfl, rfl, EX⟩
  case round =>
    obtain ⟨hk, rfl, EX⟩ := hrel
    go_wp2
    go_ret
    exact ⟨rfl, EX⟩
/-- Two lists of the same Recs are the same. -/
theorem same_rec (a1 a2 : Option Addr) (L c1 c2 : Nat) (X Y : Nat → Nat → Value) (w : World) (B : Es w 7 a1 L X) (C : Es w 7 a2 L Y) (h : ∀ i, i < L → vl 7 (X i) = vl 7 (Y i)) (hk : ∀ i, i < L → Kinds kRec (vl 7 (X i))) :
    Calls Tryd.prog 31 #[.slice a1 L c1, .slice a2 L c2] w fun e w' => e = .returned (.bool true) ∧ Ext w w' := by
  by_cases h0 : L = 0
  · subst h0; exact same_rec_none a1 a2 c1 c2 w
  · obtain ⟨b1, o1, rfl, k1⟩ := B.form (by omega)
    obtain ⟨b2, o2, rfl, k2⟩ := C.form (by omega)
    exact same_rec_some b1 o1 b2 o2 L c1 c2 X w B.len k1 (fun i hi => by rw [h i hi]; exact k2 i hi) hk
theorem same_recs (a1 a2 : Option Addr) (L c1 c2 : Nat) (X Y : Nat → Nat → Value) (w : World) (B : Es w 7 a1 L X) (C : Es w 7 a2 L Y) (h : ∀ i, i < L → vl 7 (X i) = vl 7 (Y i)) (hk : ∀ i, i < L → Kinds kRec (vl 7 (X i))) :
    Calls Tryd.prog 14 #[.slice a1 L c1, .slice a2 L c2] w fun e w' => e = .returned (.bool true) ∧ Ext w w' := by
  have S := same_rec a1 a2 L c1 c2 X Y w B C h hk
  go_enter Tryd.func14, Tryd.ntmps14
  go_wp2_with (first | (go_at_call 31; with_reducible refine S.mono ?_; rintro e v1 ⟨rfl, hb⟩))
  go_ret
  exact ⟨rfl, hb⟩
/-- A list that owns its row, as a list wherever it begins. -/
theorem Lst.es_rec {w : World} {n g c : Nat} {X : Nat → Nat → Value} (h : Lst w 63 7 (.slice (some ⟨g, 0, none⟩) n c) n X) (hn : n ≤ 140737488355328) : Es w 7 (some ⟨g, 0, none⟩) n X :=
  ⟨hn, fun i hi => ⟨g, 0, rfl, by rw [Nat.zero_add]; exact h.range hi⟩⟩
/-- A list ahead of its marks. -/
def twRec (L : Nat) (X : Nat → Nat → Value) (i : Nat) : Nat → Value := if i < L then X i else mkRec
theorem twRec_row {w : World} {g L : Nat} {X : Nat → Nat → Value} (h : w.ownsRow 0 63 7 (.slice (some ⟨g, 0, none⟩) (L + 3) (L + 3)) (L + 3) (ew 7 L X ++ [.int .u8 201, .int .u32 0, .int .u32 0, .int .u16 0, .int .u16 0, .int .u16 0, .int .u16 0, .int .u8 201, .int .u32 0, .int .u32 0, .int .u16 0, .int .u16 0, .int .u16 0, .int .u16 0, .int .u8 201, .int .u32 0, .int .u32 0, .int .u16 0, .int .u16 0, .int .u16 0, .int .u16 0])) :
    Lst w 63 7 (.slice (some ⟨g, 0, none⟩) (L + 3) (L + 3)) (L + 3) (twRec L X) := by
  have e : ew 7 L X ++ [.int .u8 201, .int .u32 0, .int .u32 0, .int .u16 0, .int .u16 0, .int .u16 0, .int .u16 0, .int .u8 201, .int .u32 0, .int .u32 0, .int .u16 0, .int .u16 0, .int .u16 0, .int .u16 0, .int .u8 201, .int .u32 0, .int .u32 0, .int .u16 0, .int .u16 0, .int .u16 0, .int .u16 0] = ew 7 (L + 3) (twRec L X) := by
    have e1 : ([.int .u8 201, .int .u32 0, .int .u32 0, .int .u16 0, .int .u16 0, .int .u16 0, .int .u16 0, .int .u8 201, .int .u32 0, .int .u32 0, .int .u16 0, .int .u16 0, .int .u16 0, .int .u16 0, .int .u8 201, .int .u32 0, .int .u32 0, .int .u16 0, .int .u16 0, .int .u16 0, .int .u16 0] : List Value) = vl 7 mkRec ++ (vl 7 mkRec ++ vl 7 mkRec) := rfl
    rw [e1, ← List.append_assoc, ← List.append_assoc, ew_snoc, ew_snoc, ew_snoc]
    refine ew_eq fun i j hi _ => ?_
    unfold upe twRec
    split
    · rw [if_neg (by omega)]
    · split
      · rw [if_neg (by omega)]
      · split
        · rw [if_neg (by omega)]
        · rw [if_pos (by omega)]
  rw [e] at h
  exact h
theorem info_rec : (Tryd.prog.info? 63).map (fun i => (i.zero, i.size, i.bytes)) = some (some (.agg #[.int .u8 0, .int .u32 0, .int .u32 0, .int .u16 0, .int .u16 0, .int .u16 0, .int .u16 0]), 7, 20) := by kernel_rfl
theorem one_rec {f : Nat → Value} (h : Kinds kRec (vl 7 f)) : ∀ v ∈ vl 7 f, v.oneCell' = true := kinds_one h
theorem mkRec_kinds : Kinds kRec (vl 7 mkRec) := by
  show Kinds kRec [.int .u8 201, .int .u32 0, .int .u32 0, .int .u16 0, .int .u16 0, .int .u16 0, .int .u16 0]
  simp only [Kinds, kRec, OfKind]
  refine ⟨_, _, rfl, ⟨_, rfl, by decide⟩, ⟨_, _, rfl, ⟨_, rfl, by decide⟩, ⟨_, _, rfl, ⟨_, rfl, by decide⟩, ⟨_, _, rfl, ⟨_, rfl, by decide⟩, ⟨_, _, rfl, ⟨_, rfl, by decide⟩, ⟨_, _, rfl, ⟨_, rfl, by decide⟩, ⟨_, _, rfl, ⟨_, rfl, by decide⟩, rfl⟩⟩⟩⟩⟩⟩⟩
theorem twRec_kinds {L : Nat} {X : Nat → Nat → Value} (hk : ∀ i, i < L → Kinds kRec (vl 7 (X i))) (i : Nat) : Kinds kRec (vl 7 (twRec L X i)) := by
  unfold twRec
  split
  · exact hk i (by assumption)
  · exact mkRec_kinds
theorem lit_rec (v : World) (t : TypeId) : Es (v.alloc (.cells #[.int .u8 201, .int .u32 0, .int .u32 0, .int .u16 0, .int .u16 0, .int .u16 0, .int .u16 0, .int .u8 201, .int .u32 0, .int .u32 0, .int .u16 0, .int .u16 0, .int .u16 0, .int .u16 0, .int .u8 201, .int .u32 0, .int .u32 0, .int .u16 0, .int .u16 0, .int .u16 0, .int .u16 0] t)) 7 (some ⟨v.heap.size, 0, none⟩) 3 (fun _ => mkRec) :=
  ⟨by decide, fun i hi => ⟨_, 0, rfl, fun j x hx => by
    have hj : j < 7 := by rw [← vl_len 7 mkRec]; exact (List.getElem?_eq_some_iff.1 hx).1
    refine new1 ?_
    rw [← hx]
    match i, hi with
    | 0, _ => match j, hj with | 0, _ => rfl | 1, _ => rfl | 2, _ => rfl | 3, _ => rfl | 4, _ => rfl | 5, _ => rfl | 6, _ => rfl
    | 1, _ => match j, hj with | 0, _ => rfl | 1, _ => rfl | 2, _ => rfl | 3, _ => rfl | 4, _ => rfl | 5, _ => rfl | 6, _ => rfl
    | 2, _ => match j, hj with | 0, _ => rfl | 1, _ => rfl | 2, _ => rfl | 3, _ => rfl | 4, _ => rfl | 5, _ => rfl | 6, _ => rfl⟩⟩
end Go.Proofs.YtemcppakmcffgaaDoor
