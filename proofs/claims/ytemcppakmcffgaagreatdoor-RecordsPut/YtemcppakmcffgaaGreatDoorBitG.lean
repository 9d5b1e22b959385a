/- What the given helpers same, twin and left do on bytes, and the reference's Get. -/
import Derived.Test.YtemcppakmcffgaaGreatDoorBitEF
namespace Go.Proofs.YtemcppakmcffgaaGreatDoor
open Go.RowKit Go.BigFrame
set_option linter.unusedSimpArgs false
set_option linter.unusedVariables false
set_option maxRecDepth 20000 in
set_option maxHeartbeats 4000000 in
theorem same_some (b1 o1 b2 o2 L c1 c2 : Nat) (f : Nat → Int) (w : World) (hL : L ≤ 140737488355328) (h1 : ∀ i, i < L → w.cell? ⟨b1, o1 + i, none⟩ = some (.int .u8 (f i))) (h2 : ∀ i, i < L → w.cell? ⟨b2, o2 + i, none⟩ = some (.int .u8 (f i))) :
    Calls Tryz.prog 33 #[.slice (some ⟨b1, o1, none⟩) L c1, .slice (some ⟨b2, o2, none⟩) L c2] w fun e w' => e = .returned (.bool true) ∧ Ext w w' := by
  have H1 : Hid (∀ i, i < L → w.cell? ⟨b1, o1 + i, none⟩ = some (.int .u8 (f i))) := h1
  have H2 : Hid (∀ i, i < L → w.cell? ⟨b2, o2 + i, none⟩ = some (.int .u8 (f i))) := h2
  clear h1 h2
  go_enter Tryz.func33, Tryz.ntmps33
  go_wp2
  go_loopg [5] L (fun gk iv wr => ∃ k : Nat, k + gk = L ∧ iv = .int .i64 k ∧ Ext w wr)
  case atStart => exact ⟨0, by omega, rfl, Ext.refl w⟩
  case round =>
    obtain ⟨k, hk, rfl, EX⟩ := hrel
    by_cases hlt : k < L
    · have hki : (k : Int) < (L : Int) := by omega
      have c1 := EX.later (H1.out k hlt)
      have c2 := EX.later (H2.out k hlt)
      generalize f k = x at *
      obtain ⟨v, hv⟩ : ∃ v, v = wr := ⟨_, rfl⟩
      subst hv
      go_upto_region 6 with fail
      have g1 := fun x' : Grow v => x'.ext.later c1
      have g2 := fun x' : Grow v => x'.ext.later c2
      refine wp_region_grow (by kernel_rfl) (by kernel_rfl) ?_; (repeat (first | go_big_quiet_step (fail))); refine wpQuiet_nil ?_; clear g1 g2; rintro _ ⟨xq, rfl⟩; replace EX := Ext.trans EX xq.ext; generalize xq.out = v1 at *
      go_wp2
      go_roundg (gk - 1)
      case measure => omega
      case rel => exact ⟨k + 1, by omega, by go_num, EX⟩
    · have hki : ¬ ((k : Int) < (L : Int)) := by omega
      go_wp2
      go_ret
      exact ⟨rfl, EX⟩
set_option maxHeartbeats 4000000 in
theorem same_none (a1 a2 : Option Addr) (c1 c2 : Nat) (w : World) :
    Calls Tryz.prog 33 #[.slice a1 0 c1, .slice a2 0 c2] w fun e w' => e = .returned (.bool true) ∧ Ext w w' := by
  have EX := Ext.refl w
  go_enter Tryz.func33, Tryz.ntmps33
  go_wp2
  go_loopg [5] 1 (fun gk iv wr => gk = 1 ∧ iv = .int .i64 0 ∧ Ext w wr)
  case atStart => exact ⟨rfl, rfl, EX⟩
  case round =>
    obtain ⟨hk, rfl, EX⟩ := hrel
    go_wp2
    go_ret
    exact ⟨rfl, EX⟩
/-- Two lists of the same bytes are the same. -/
theorem same_yes (a1 a2 : Option Addr) (L c1 c2 : Nat) (f g : Nat → Int) (w : World) (B : Bs w a1 L f) (C : Bs w a2 L g) (h : ∀ i, i < L → f i = g i) :
    Calls Tryz.prog 33 #[.slice a1 L c1, .slice a2 L c2] w fun e w' => e = .returned (.bool true) ∧ Ext w w' := by
  by_cases h0 : L = 0
  · subst h0; exact same_none a1 a2 c1 c2 w
  · obtain ⟨b1, o1, rfl, k1⟩ := B.some (by omega)
    obtain ⟨b2, o2, rfl, k2⟩ := C.some (by omega)
    exact same_some b1 o1 b2 o2 L c1 c2 f w B.len k1 (fun i hi => by rw [k2 i hi, h i hi])
theorem sameBytes_yes (a1 a2 : Option Addr) (L c1 c2 : Nat) (f g : Nat → Int) (w : World) (B : Bs w a1 L f) (C : Bs w a2 L g) (h : ∀ i, i < L → f i = g i) :
    Calls Tryz.prog 10 #[.slice a1 L c1, .slice a2 L c2] w fun e w' => e = .returned (.bool true) ∧ Ext w w' := by
  have S := same_yes a1 a2 L c1 c2 f g w B C h
  go_enter Tryz.func10, Tryz.ntmps10
  go_wp2_with (first | (go_at_call 33; with_reducible refine S.mono ?_; rintro e v1 ⟨rfl, hb⟩))
  go_ret
  exact ⟨rfl, hb⟩
/-- A row that is owned, as bytes. -/
theorem bs_own {w : World} {g n m cap : Nat} {f : Nat → Int} (h : w.ownsRow 0 5 1 (.slice (some ⟨g, 0, none⟩) m cap) m (vl m (fun i => .int .u8 (f i)))) (hn : n ≤ m) (hm : m ≤ 140737488355328) (hf : ∀ i, i < n → 0 ≤ f i ∧ f i < 256) : Bs w (some ⟨g, 0, none⟩) n f :=
  ⟨by omega, fun i hi => ⟨g, 0, rfl, by
    have := h.cells (g := g) rfl i (.int .u8 (f i)) (vl_at m (fun i => .int .u8 (f i)) (by omega))
    rw [Addr.add_mid] at this
    exact this⟩, hf⟩
theorem bs_cells {w : World} {a : Option Addr} {n : Nat} {f : Nat → Int} (B : Bs w a n f) : ∀ ad, a = some ad → ∀ j u, (vl n (fun i => .int .u8 (f i)))[j]? = some u → w.cell? (ad.add j) = some u := by
  intro ad ha j u hu
  have hj : j < n := by rw [← vl_len n (fun i => Value.int .u8 (f i))]; exact (List.getElem?_eq_some_iff.1 hu).1
  rw [vl_at n (fun i => Value.int .u8 (f i)) hj] at hu
  obtain ⟨b, o, h1, h2⟩ := B.at_ j hj
  rw [ha] at h1
  cases h1
  rw [Addr.add_mid, h2]
  exact hu
theorem vl_app (n m : Nat) (f g : Nat → Value) : vl n f ++ vl m g = vl (n + m) (fun i => if i < n then f i else g (i - n)) := by
  apply List.ext_getElem?
  intro i
  by_cases h : i < n
  · rw [List.getElem?_append_left (by rw [vl_len]; exact h), vl_at n f h, vl_at (n + m) _ (by omega), if_pos h]
  · rw [List.getElem?_append_right (by rw [vl_len]; omega), vl_len]
    by_cases h2 : i < n + m
    · rw [vl_at m g (by omega), vl_at (n + m) _ h2, if_neg h]
    · rw [List.getElem?_eq_none (by rw [vl_len]; omega), List.getElem?_eq_none (by rw [vl_len]; omega)]
def tw (L : Nat) (f : Nat → Int) (i : Nat) : Int := if i < L then f i else 171
theorem grown_ext {w w' : World} (h : w.grownBy w' none) : Ext w w' := ⟨h.os, h.tape, h.output, h.size, fun k hk => h.block k hk (by simp)⟩
theorem grown_over {W w w' : World} {g : Nat} (e : Ext W w) (h : w.grownBy w' (some g)) (hg : W.heap.size ≤ g) : Ext W w' := Chg.over e (Chg.grown (S := fun k => k = g) h (fun k e => (Option.some.inj e).symm)) (fun i hi => by rw [hi]; exact hg)
theorem tw_in {L : Nat} {f : Nat → Int} (hf : ∀ i, i < L → 0 ≤ f i ∧ f i < 256) (i : Nat) : 0 ≤ tw L f i ∧ tw L f i < 256 := by
  unfold tw
  split
  · exact hf i (by assumption)
  · omega
theorem bs_at {w : World} {g o n m cap : Nat} {f : Nat → Int} (h : w.ownsRow 0 5 1 (.slice (some ⟨g, 0, none⟩) m cap) m (vl m (fun i => .int .u8 (f i)))) (hn : o + n ≤ m) (hm : m ≤ 140737488355328) (hf : ∀ i, i < m → 0 ≤ f i ∧ f i < 256) : Bs w (some ⟨g, o, none⟩) n (fun i => f (o + i)) :=
  ⟨by omega, fun i hi => ⟨g, o, rfl, by
    have := h.cells (g := g) rfl (o + i) (.int .u8 (f (o + i))) (vl_at m (fun i => .int .u8 (f i)) (by omega))
    rw [Addr.add_mid, Nat.zero_add] at this
    exact this⟩, fun i hi => hf _ (by omega)⟩
end Go.Proofs.YtemcppakmcffgaaGreatDoor
