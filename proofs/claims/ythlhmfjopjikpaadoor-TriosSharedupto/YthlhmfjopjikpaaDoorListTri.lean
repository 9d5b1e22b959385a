/- The given helpers same, twin and left, on lists of Tri. -/
import Derived.Test.YthlhmfjopjikpaaDoorProg
import Derived.Test.YthlhmfjopjikpaaDoorListA
import Derived.Test.YthlhmfjopjikpaaDoorListB
import Derived.Test.YthlhmfjopjikpaaDoorReadsB
import Derived.Test.YthlhmfjopjikpaaDoorMany
import Derived.Deep.LoopGhost
import Derived.Deep.Light
namespace Go.Proofs.YthlhmfjopjikpaaDoor
open Go.RowKit Go.BigFrame
set_option linter.unusedSimpArgs false
set_option linter.unusedVariables false
/-- The kinds of a Tri's cells. -/
def kTri : List (Option IntKind) := [some .u8, some .u32, some .u32, some .u16, some .u16, some .u16, some .u16, some .u8, some .u32, some .u32, some .u16, some .u16, some .u16, some .u16, some .u8, some .u32, some .u32, some .u16, some .u16, some .u16, some .u16]
theorem flat_tri : flat Tryd.prog 6 65 = some kTri := by kernel_rfl
theorem named_tri : named Tryd.prog 6 65 = true := by kernel_rfl
theorem key_tri : Tryd.prog.keyTypeAt 6 65 = true := by kernel_rfl
/-- The twin's mark. -/
def mkTri : Nat → Value := fun i => (#[.int .u8 0, .int .u32 0, .int .u32 0, .int .u16 0, .int .u16 0, .int .u16 0, .int .u16 0, .int .u8 0, .int .u32 0, .int .u32 0, .int .u16 0, .int .u16 0, .int .u16 0, .int .u16 0, .int .u8 0, .int .u32 0, .int .u32 0, .int .u16 0, .int .u16 0, .int .u16 0, .int .u16 0] : Array Value)[i]?.getD undef
theorem self_tri {f : Nat → Value} (h : Kinds kTri (vl 21 f)) (w : World) : (Op.equalIn 10000 65 (.agg (vl 21 f).toArray) (.agg (vl 21 f).toArray)).run Tryd.prog w = .ok true w :=
  eq_selfa 6 Tryd.underlying65 flat_tri named_tri key_tri (by kernel_rfl) (by decide) h w
set_option maxRecDepth 20000 in
set_option maxHeartbeats 4000000 in
theorem same_tri_some (b1 o1 b2 o2 L c1 c2 : Nat) (X : Nat → Nat → Value) (w : World) (hL : L ≤ 140737488355328) (h1 : ∀ i, i < L → w.rangeAt b1 (o1 + i * 21) (vl 21 (X i))) (h2 : ∀ i, i < L → w.rangeAt b2 (o2 + i * 21) (vl 21 (X i))) (hk : ∀ i, i < L → Kinds kTri (vl 21 (X i))) :
    Calls Tryd.prog 26 #[.slice (some ⟨b1, o1, none⟩) L c1, .slice (some ⟨b2, o2, none⟩) L c2] w fun e w' => e = .returned (.bool true) ∧ Ext w w' := by
  have H1 : Hid (∀ i, i < L → w.rangeAt b1 (o1 + i * 21) (vl 21 (X i))) := h1
  have H2 : Hid (∀ i, i < L → w.rangeAt b2 (o2 + i * 21) (vl 21 (X i))) := h2
  have HK : Hid (∀ i, i < L → Kinds kTri (vl 21 (X i))) := hk
  clear h1 h2 hk
  go_enter Tryd.func26, Tryd.ntmps26
  go_wp2
  go_loopg [5] L (fun gk iv wr => ∃ k : Nat, k + gk = L ∧ iv = .int .i64 k ∧ Ext w wr)
  case atStart => exact ⟨0, by omega, rfl, Ext.refl w⟩
  case round =>
    obtain ⟨k, hk, rfl, EX⟩ := hrel
    by_cases hlt : k < L
    · have hki : (k : Int) < (L : Int) := by omega
      have r1 := range_later (H1.out k hlt) EX
      have r2 := range_later (H2.out k hlt) EX
      have EQ := fun w => self_tri (HK.out k hlt) w
      generalize X k = f at *
      obtain ⟨v, hv⟩ : ∃ v, v = wr := ⟨_, rfl⟩
      subst hv
      go_upto_region 6 with fail
      have g1 := fun x' : Grow v => range_later r1 x'.ext
      have g2 := fun x' : Grow v => range_later r2 x'.ext
      refine wp_region_grow (by kernel_rfl) (by kernel_rfl) ?_
      (repeat (first | (go_big_quiet_want; refine quiet_load_cells 65 _ b1 (o1 + k * 21) (vl 21 f) _ rfl rfl (by rintro _ ⟨x', rfl⟩; exact g1 x') Tryd.underlying65 rfl (by rw [vl_len]; kernel_rfl) ?_; simp only [Act.put, List.setIfInBounds_toArray, List.set_cons_succ, List.set_cons_zero]; go_big_quiet_on) | (go_big_quiet_want; refine quiet_load_cells 65 _ b2 (o2 + k * 21) (vl 21 f) _ rfl rfl (by rintro _ ⟨x', rfl⟩; exact g2 x') Tryd.underlying65 rfl (by rw [vl_len]; kernel_rfl) ?_; simp only [Act.put, List.setIfInBounds_toArray, List.set_cons_succ, List.set_cons_zero]; go_big_quiet_on) | go_big_quiet_step (fail)))
      refine wpQuiet_nil ?_; clear g1 g2; rintro _ ⟨xq, rfl⟩; replace EX := Ext.trans EX xq.ext; generalize xq.out = v1 at *
      go_wp2
      go_roundg (gk - 1)
      case measure => omega
      case rel => exact ⟨k + 1, by omega, by go_num, EX⟩
    · have hki : ¬ ((k : Int) < (L : Int)) := by omega
      go_wp2
      go_ret
      exact ⟨rfl, EX⟩
set_option maxHeartbeats 4000000 in
theorem same_tri_none (a1 a2 : Option Addr) (c1 c2 : Nat) (w : World) :
    Calls Tryd.prog 26 #[.slice a1 0 c1, .slice a2 0 c2] w fun e w' => e = .returned (.bool true) ∧ Ext w w' := by
  have EX := Ext.refl w
  go_enter Tryd.func26, Tryd.ntmps26
  go_wp2
  go_loopg [5] 1 (fun gk iv wr => gk = 1 ∧ iv = .int .i64 0 ∧ Ext w wr)
  case atStart => exact ⟨rfl, rfl, EX⟩
  case round =>
    obtain ⟨hk, rfl, EX⟩ := hrel
    go_wp2
    go_ret
    exact ⟨rfl, EX⟩
/-- Two lists of the same Tris are the same. -/
theorem same_tri (a1 a2 : Option Addr) (L c1 c2 : Nat) (X Y : Nat → Nat → Value) (w : World) (B : Es w 21 a1 L X) (C : Es w 21 a2 L Y) (h : ∀ i, i < L → vl 21 (X i) = vl 21 (Y i)) (hk : ∀ i, i < L → Kinds kTri (vl 21 (X i))) :
    Calls Tryd.prog 26 #[.slice a1 L c1, .slice a2 L c2] w fun e w' => e = .returned (.bool true) ∧ Ext w w' := by
  by_cases h0 : L = 0
  · subst h0; exact same_tri_none a1 a2 c1 c2 w
  · obtain ⟨b1, o1, rfl, k1⟩ := B.form (by omega)
    obtain ⟨b2, o2, rfl, k2⟩ := C.form (by omega)
    exact same_tri_some b1 o1 b2 o2 L c1 c2 X w B.len k1 (fun i hi => by rw [h i hi]; exact k2 i hi) hk
theorem same_tris (a1 a2 : Option Addr) (L c1 c2 : Nat) (X Y : Nat → Nat → Value) (w : World) (B : Es w 21 a1 L X) (C : Es w 21 a2 L Y) (h : ∀ i, i < L → vl 21 (X i) = vl 21 (Y i)) (hk : ∀ i, i < L → Kinds kTri (vl 21 (X i))) :
    Calls Tryd.prog 14 #[.slice a1 L c1, .slice a2 L c2] w fun e w' => e = .returned (.bool true) ∧ Ext w w' := by
  have S := same_tri a1 a2 L c1 c2 X Y w B C h hk
  go_enter Tryd.func14, Tryd.ntmps14
  go_wp2_with (first | (go_at_call 26; with_reducible refine S.mono ?_; rintro e v1 ⟨rfl, hb⟩))
  go_ret
  exact ⟨rfl, hb⟩
/-- A list that owns its row, as a list wherever it begins. -/
theorem Lst.es_tri {w : World} {n g c : Nat} {X : Nat → Nat → Value} (h : Lst w 65 21 (.slice (some ⟨g, 0, none⟩) n c) n X) (hn : n ≤ 140737488355328) : Es w 21 (some ⟨g, 0, none⟩) n X :=
  ⟨hn, fun i hi => ⟨g, 0, rfl, by rw [Nat.zero_add]; exact h.range hi⟩⟩
end Go.Proofs.YthlhmfjopjikpaaDoor
