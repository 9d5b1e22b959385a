/- What the given helpers same, twin and left do on bytes, and the reference's Get. -/
import Derived.Test.YtemcppakmcffgaaDoorBitEF
namespace Go.Proofs.YtemcppakmcffgaaDoor
open Go.RowKit Go.BigFrame
set_option linter.unusedSimpArgs false
set_option linter.unusedVariables false
set_option maxRecDepth 20000 in
set_option maxHeartbeats 4000000 in
theorem same_some (b1 o1 b2 o2 L c1 c2 : Nat) (f : Nat → Int) (w : World) (hL : L ≤ 140737488355328) (h1 : ∀ i, i < L → w.cell? ⟨b1, o1 + i, none⟩ = some (.int .u8 (f i))) (h2 : ∀ i, i < L → w.cell? ⟨b2, o2 + i, none⟩ = some (.int .u8 (f i))) :
    Calls Tryd.prog 82 #[.slice (some ⟨b1, o1, none⟩) L c1, .slice (some ⟨b2, o2, none⟩) L c2] w fun e w' => e = .returned (.bool true) ∧ Ext w w' := by
  have H1 : Hid (∀ i, i < L → w.cell? ⟨b1, o1 + i, none⟩ = some (.int .u8 (f i))) := h1
  have H2 : Hid (∀ i, i < L → w.cell? ⟨b2, o2 + i, none⟩ = some (.int .u8 (f i))) := h2
  clear h1 h2
  go_enter Tryd.func82, Tryd.ntmps82
  go_wp2
  go_loopg [5] L (fun gk iv wr => ∃ k : Nat, k + gk = L ∧ iv = .int .i64 k ∧ Ext w wr)
  case atStart => exact ⟨0, by omega, rfl, Ext.refl w⟩
  case round =>
    obtain ⟨k, hk, rfl, EX⟩ := hrel
    by_cases hlt : k < L
    · have hki : (k : Int) < (L : Int) := by omega
      have c1 := EX.later (H1.out k hlt)
      have c2 := EX.later (H2.out k hlt)
      generalize f k = x at *
      obtain ⟨v, hv⟩ : ∃ v, v = wr := ⟨_, rfl⟩
      subst hv
      go_upto_region 6 with fail
      have g1 := fun x' : Grow v => x'.ext.later c1
      have g2 := fun x' : Grow v => x'.ext.later c2
      refine wp_region_grow (by kernel_rfl) (by kernel_rfl) ?_; (repeat (first | go_big_quiet_step (fail))); refine wpQuiet_nil ?_; clear g1 g2; rintro _ ⟨xq, rfl⟩; replace EX := Ext.trans EX xq.ext; generalize xq.out = v1 at *
      go_wp2
      go_roundg (gk - 1)
      case measure => omega
      case rel => exact ⟨k + 1, by omega, by go_num, EX⟩
    · have hki : ¬ ((k : Int) < (L : Int)) := by omega
      go_wp2
      go_ret
      exact ⟨rfl, EX⟩
set_option maxHeartbeats 4000000 in
theorem same_none (a1 a2 : Option Addr) (c1 c2 : Nat) (w : World) :
    Calls Tryd.prog 82 #[.slice a1 0 c1, .slice a2 0 c2] w fun e w' => e = .returned (.bool true) ∧ Ext w w' := by
  have EX := Ext.refl w
  go_enter Tryd.func82, Tryd.ntmps82
  go_wp2
  go_loopg [5] 1 (fun gk iv wr => gk = 1 ∧ iv = .int .i64 0 ∧ Ext w wr)
  case atStart => exact ⟨rfl, rfl, EX⟩
  case round =>
    obtain ⟨hk, rfl, EX⟩ := hrel
    go_wp2
    go_ret
    exact ⟨rfl, EX⟩
/-- Two lists of the same bytes are the same. -/
theorem same_yes (a1 a2 : Option Addr) (L c1 c2 : Nat) (f g : Nat → Int) (w : World) (B : Bs w a1 L f) (C : Bs w a2 L g) (h : ∀ i, i < L → f i = g i) :
    Calls Tryd.prog 82 #[.slice a1 L c1, .slice a2 L c2] w fun e w' => e = .returned (.bool true) ∧ Ext w w' := by
  by_cases h0 : L = 0
  · subst h0; exact same_none a1 a2 c1 c2 w
  · obtain ⟨b1, o1, rfl, k1⟩ := B.some (by omega)
    obtain ⟨b2, o2, rfl, k2⟩ := C.some (by omega)
    exact same_some b1 o1 b2 o2 L c1 c2 f w B.len k1 (fun i hi => by rw [k2 i hi, h i hi])
theorem sameBytes_yes (a1 a2 : Option Addr) (L c1 c2 : Nat) (f g : Nat → Int) (w : World) (B : Bs w a1 L f) (C : Bs w a2 L g) (h : ∀ i, i < L → f i = g i) :
    Calls Tryd.prog 21 #[.slice a1 L c1, .slice a2 L c2] w fun e w' => e = .returned (.bool true) ∧ Ext w w' := by
  have S := same_yes a1 a2 L c1 c2 f g w B C h
  go_enter Tryd.func21, Tryd.ntmps21
  go_wp2_with (first | (go_at_call 82; with_reducible refine S.mono ?_; rintro e v1 ⟨rfl, hb⟩))
  go_ret
  exact ⟨rfl, hb⟩
/-- A row that is owned, as bytes. -/
theorem bs_own {w : World} {g n m cap : Nat} {f : Nat → Int} (h : w.ownsRow 0 5 1 (.slice (some ⟨g, 0, none⟩) m cap) m (vl m (fun i => .int .u8 (f i)))) (hn : n ≤ m) (hm : m ≤ 140737488355328) (hf : ∀ i, i < n → 0 ≤ f i ∧ f i < 256) : Bs w (some ⟨g, 0, none⟩) n f :=
  ⟨by omega, fun i hi => ⟨g, 0, rfl, by
    have := h.cells (g := g) rfl i (.int .u8 (f i)) (vl_at m (fun i => .int .u8 (f i)) (by omega))
    rw [Addr.add_mid] at this
    exact this⟩, hf⟩
theorem bs_cells {w : World} {a : Option Addr} {n : Nat} {f : Nat → Int} (B : Bs w a n f) : ∀ ad, a = some ad → ∀ j u, (vl n (fun i => .int .u8 (f i)))[j]? = some u → w.cell? (ad.add j) = some u := by
  intro ad ha j u hu
  have hj : j < n := by rw [← vl_len n (fun i => Value.int .u8 (f i))]; exact (List.getElem?_eq_some_iff.1 hu).1
  rw [vl_at n (fun i => Value.int .u8 (f i)) hj] at hu
  obtain ⟨b, o, h1, h2⟩ := B.at_ j hj
  rw [ha] at h1
  cases h1
  rw [Addr.add_mid, h2]
  exact hu
theorem vl_app (n m : Nat) (f g : Nat → Value) : vl n f ++ vl m g = vl (n + m) (fun i => if i < n then f i else g (i - n)) := by
  apply List.ext_getElem?
  intro i
  by_cases h : i < n
  · rw [List.getElem?_append_left (by rw [vl_len]; exact h), vl_at n f h, vl_at (n + m) _ (by omega), if_pos h]
  · rw [List.getElem?_append_right (by rw [vl_len]; omega), vl_len]
    by_cases h2 : i < n + m
    · rw [vl_at m g (by omega), vl_at (n + m) _ h2, if_neg h]
    · rw [List.getElem?_eq_none (by rw [vl_len]; omega), List.getElem?_eq_none (by rw [vl_len]; omega)]
def tw (L : Nat) (f : Nat → Int) (i : Nat) : Int := if i < L then f i else 171
theorem grown_ext {w w' : World} (h : w.grownBy w' none) : Ext w w' := ⟨h.os, h.tape, h.output, h.size, fun k hk => h.block k hk (by simp)⟩
theorem grown_over {W w w' : World} {g : Nat} (e : Ext W w) (h : w.grownBy w' (some g)) (hg : W.heap.size ≤ g) : Ext W w' := Chg.over e (Chg.grown (S := fun k => k = g) h (fun k e => (Option.some.inj e).symm)) (fun i hi => by rw [hi]; exact hg)
set_option maxRecDepth 20000 in
set_option maxHeartbeats 4000000 in
theorem twin_any (a : Option Addr) (L c : Nat) (f : Nat → Int) (w : World) (B : Bs w a L f) (hL : L ≤ 70000) (ha : a = none → L = 0 ∧ c = 0) :
    Calls Tryd.prog 22 #[.slice a L c, .int .u8 171] w fun e w' => ∃ g, e = .returned (.slice (some ⟨g, 0, none⟩) L (L + 3)) ∧ w.heap.size ≤ g ∧ Ext w w' ∧ w'.ownsRow 0 5 1 (.slice (some ⟨g, 0, none⟩) (L + 3) (L + 3)) (L + 3) (vl (L + 3) (fun i => .int .u8 (tw L f i))) := by
  obtain ⟨i0, hi0, hz0, hz1, hz2⟩ := info_parts info_byte
  go_enter Tryd.func22, Tryd.ntmps22
  go_wp2_with (first | (refine wpList_make_own _ (by rfl) _ _ _ (by rfl) 0 5 i0 _ 1 Tryd.underlying28 hi0 hz0 hz1 .i64 .i64 _ (L + 3) (by rfl) (by rfl) (by omega) (by rw [hz2]; omega) (by unfold maxLen; omega) (by omega) ?_))
  intro v1 O1 G1
  have E1 := grown_ext G1
  have B1 := B.later E1
  have q1 := E1.more
  obtain ⟨g, hg⟩ : ∃ g, w.heap.size = g := ⟨_, rfl⟩
  rw [hg] at O1 q1 ⊢
  clear G1
  go_wp2_with (first | (at_builtin; refine wpList_append_fits_any _ (by rfl) _ _ _ (by rfl) 0 5 i0 1 Tryd.underlying28 hi0 hz1 g 0 (L + 3) [] (by rfl) O1 a L c (vl L (fun i => .int .u8 (f i))) (by rfl) (by rw [vl_len, Nat.mul_one]) ha (bs_cells B1) (fun v hv => by unfold vl at hv; rw [List.mem_map] at hv; obtain ⟨i, _, rfl⟩ := hv; rfl) (by omega) ?_))
  intro v2 O2 G2
  have E2 := grown_over E1 G2 (by omega)
  have q2 := G2.size
  clear G2 O1
  go_wp2_with (first | (at_builtin; refine wpList_append_fits _ (by rfl) _ _ _ (by rfl) 0 5 i0 1 Tryd.underlying28 hi0 hz1 g L (L + 3) (vl L (fun i => .int .u8 (f i))) (by rfl) (O2.alloc _) ⟨v2.heap.size, 0, none⟩ 3 3 [.int .u8 171, .int .u8 171, .int .u8 171] (by rfl) (by rfl) (World.news_of_block (cs := #[.int .u8 171, .int .u8 171, .int .u8 171]) (t := 5) (fr := (0, 0)) (heap_alloc_new v2 _)) (by simp [Value.oneCell']) (by omega) ?_))
  intro v3 O3 G3
  have E3 := grown_over (E2.alloc _) G3 (by omega)
  clear G3 O2
  go_wp2
  go_ret
  refine ⟨g, rfl, by omega, E3, ?_⟩
  have e : vl L (fun i => Value.int .u8 (f i)) ++ [.int .u8 171, .int .u8 171, .int .u8 171] = vl (L + 3) (fun i => .int .u8 (tw L f i)) := by
    have := vl_app L 3 (fun i => Value.int .u8 (f i)) (fun _ => .int .u8 171)
    refine Eq.trans (b := vl L (fun i => Value.int .u8 (f i)) ++ vl 3 (fun _ => .int .u8 171)) (by rfl) (this.trans (vl_eq fun i hi => ?_))
    unfold tw
    by_cases h : i < L
    · rw [if_pos h, if_pos h]
    · rw [if_neg h, if_neg h]
  rw [← e]
  exact O3
theorem tw_in {L : Nat} {f : Nat → Int} (hf : ∀ i, i < L → 0 ≤ f i ∧ f i < 256) (i : Nat) : 0 ≤ tw L f i ∧ tw L f i < 256 := by
  unfold tw
  split
  · exact hf i (by assumption)
  · omega
theorem twinBytes_any (a : Option Addr) (L c : Nat) (f : Nat → Int) (w : World) (B : Bs w a L f) (hL : L ≤ 70000) (ha : a = none → L = 0 ∧ c = 0) :
    Calls Tryd.prog 9 #[.slice a L c] w fun e w' => ∃ g, e = .returned (.slice (some ⟨g, 0, none⟩) L (L + 3)) ∧ w.heap.size ≤ g ∧ Ext w w' ∧ w'.ownsRow 0 5 1 (.slice (some ⟨g, 0, none⟩) (L + 3) (L + 3)) (L + 3) (vl (L + 3) (fun i => .int .u8 (tw L f i))) := by
  have S := twin_any a L c f w B hL ha
  go_enter Tryd.func9, Tryd.ntmps9
  go_wp2_with (first | (go_at_call 22; with_reducible refine S.mono ?_; rintro e v1 ⟨g, rfl, hg, hb, O⟩))
  go_ret
  exact ⟨g, rfl, hg, hb, O⟩
theorem bs_at {w : World} {g o n m cap : Nat} {f : Nat → Int} (h : w.ownsRow 0 5 1 (.slice (some ⟨g, 0, none⟩) m cap) m (vl m (fun i => .int .u8 (f i)))) (hn : o + n ≤ m) (hm : m ≤ 140737488355328) (hf : ∀ i, i < m → 0 ≤ f i ∧ f i < 256) : Bs w (some ⟨g, o, none⟩) n (fun i => f (o + i)) :=
  ⟨by omega, fun i hi => ⟨g, o, rfl, by
    have := h.cells (g := g) rfl (o + i) (.int .u8 (f (o + i))) (vl_at m (fun i => .int .u8 (f i)) (by omega))
    rw [Addr.add_mid, Nat.zero_add] at this
    exact this⟩, fun i hi => hf _ (by omega)⟩
set_option maxRecDepth 20000 in
set_option maxHeartbeats 4000000 in
theorem left_any (a : Option Addr) (g L c : Nat) (f : Nat → Int) (w : World) (B : Bs w a L f) (hL : L ≤ 70000) (O : w.ownsRow 0 5 1 (.slice (some ⟨g, 0, none⟩) (L + 3) (L + 3)) (L + 3) (vl (L + 3) (fun i => .int .u8 (tw L f i)))) :
    Calls Tryd.prog 32 #[.slice (some ⟨g, 0, none⟩) L (L + 3), .slice a L c, .int .u8 171] w fun e w' => e = .returned (.bool true) ∧ Ext w w' := by
  have hf := fun i (hi : i < L + 3) => tw_in B.byte i
  have T1 := bs_own (n := L) O (by omega) (by omega) (fun i hi => hf i (by omega))
  have S1 := same_yes (some ⟨g, 0, none⟩) a L (L + 3) c (tw L f) f w T1 B (fun i hi => if_pos hi)
  have S2 := fun (v : World) (hb : Ext w v) => same_yes (some ⟨g, L, none⟩) (some ⟨v.heap.size, 0, none⟩) 3 3 3 (fun i => tw L f (L + i)) (fun _ => 171) (v.alloc (.cells #[.int .u8 171, .int .u8 171, .int .u8 171] 5))
    ((bs_at (o := L) (n := 3) O (by omega) (by omega) hf).later (hb.alloc _)) (bs_lit _ 3 (by omega) (fun i hi => by match i, hi with | 0, _ => rfl | 1, _ => rfl | 2, _ => rfl) (fun i hi => by omega)) (fun i hi => if_neg (by omega))
  clear T1 hf O B
  go_enter Tryd.func32, Tryd.ntmps32
  go_wp2_with (first | (go_at_call 82; with_reducible refine S1.mono ?_; rintro e v1 ⟨rfl, hb⟩) | (go_at_call 82; with_reducible refine (S2 _ hb).mono ?_; rintro e v2 ⟨rfl, hb2⟩))
  go_ret
  exact ⟨rfl, (hb.alloc _).trans hb2⟩
theorem leftBytes_any (a : Option Addr) (g L c : Nat) (f : Nat → Int) (w : World) (B : Bs w a L f) (hL : L ≤ 70000) (O : w.ownsRow 0 5 1 (.slice (some ⟨g, 0, none⟩) (L + 3) (L + 3)) (L + 3) (vl (L + 3) (fun i => .int .u8 (tw L f i)))) :
    Calls Tryd.prog 15 #[.slice (some ⟨g, 0, none⟩) L (L + 3), .slice a L c] w fun e w' => e = .returned (.bool true) ∧ Ext w w' := by
  have S := left_any a g L c f w B hL O
  go_enter Tryd.func15, Tryd.ntmps15
  go_wp2_with (first | (go_at_call 32; with_reducible refine S.mono ?_; rintro e v1 ⟨rfl, hb⟩))
  go_ret
  exact ⟨rfl, hb⟩
end Go.Proofs.YtemcppakmcffgaaDoor
