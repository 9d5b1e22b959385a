/- Get over any bytes; the helpers got and no; the chapter's examples: lives. -/
import Derived.Test.YthnmofnlcepffaaBitE
import Derived.Laws.BytesString
namespace Go.Proofs.Ythnmofnlcepffaa
open Go.RowKit Go.BigFrame
set_option linter.unusedSimpArgs false
set_option linter.unusedVariables false
set_option maxHeartbeats 1600000 in
theorem get_zero (a : Option Addr) (L c p : Nat) (hL : L ≤ 140737488355328) (h : p ≤ 8 * L) (w : World) :
    Calls Try.prog 11 #[.slice a L c, .int .i64 p, .int .i64 0] w fun e w' => e = .returned (.tuple #[.int .u32 0, .int .i64 0]) ∧ Ext w w' := by
  have EX := Ext.refl w
  go_enter Try.func11, Try.ntmps11
  go_wp2
  go_step3
  go_wp2
  go_step3
  go_wp2
  rw [Exit.noGoto_ret]; go_ret2
  exact ⟨rfl, EX⟩
theorem get_ok (a : Option Addr) (L c p n : Nat) (f : Nat → Int) (w : World) (B : Bs w a L f) (hn : n ≤ 32) (h : p + n ≤ 8 * L) :
    Calls Try.prog 11 #[.slice a L c, .int .i64 p, .int .i64 n] w fun e w' => e = .returned (.tuple #[.int .u32 (nb (bt f) p n), .int .i64 0]) ∧ Ext w w' := by
  by_cases h0 : n = 0
  · subst h0
    exact get_zero a L c p B.len (by omega) w
  · obtain ⟨b, o, rfl, hc⟩ := B.some (by omega)
    exact get_some b o L c p n f w B.len hc B.byte hn h
set_option maxHeartbeats 1600000 in
theorem got_any (a : Option Addr) (L c p n : Nat) (f : Nat → Int) (x : Int) (w : World) (B : Bs w a L f) (hn : n ≤ 32) (h : p + n ≤ 8 * L) :
    Calls Try.prog 28 #[.slice a L c, .int .i64 p, .int .i64 n, .int .u32 x] w fun e w' => e = .returned (.bool (nb (bt f) p n == x)) ∧ Ext w w' := by
  have EX := Ext.refl w
  have G := get_ok a L c p n f w B hn h
  generalize nb (bt f) p n = y at *
  clear B
  by_cases hxy : y = x
  · have e1 : (y == x) = true := by simpa using hxy
    go_enter Try.func28, Try.ntmps28
    go_wp2_with (first | (go_at_call 11; with_reducible refine G.mono ?_; rintro e v1 ⟨rfl, hb⟩; replace EX := Ext.trans EX hb))
    go_ret
    exact ⟨by rw [e1]; rfl, EX⟩
  · have e1 : (y == x) = false := by simpa using hxy
    go_enter Try.func28, Try.ntmps28
    go_wp2_with (first | (go_at_call 11; with_reducible refine G.mono ?_; rintro e v1 ⟨rfl, hb⟩; replace EX := Ext.trans EX hb))
    go_ret
    exact ⟨by rw [e1]; rfl, EX⟩
theorem got_yes (a : Option Addr) (L c p n : Nat) (f : Nat → Int) (x : Int) (w : World) (B : Bs w a L f) (hn : n ≤ 32) (h : p + n ≤ 8 * L) (hx : nb (bt f) p n = x) :
    Calls Try.prog 28 #[.slice a L c, .int .i64 p, .int .i64 n, .int .u32 x] w fun e w' => e = .returned (.bool true) ∧ Ext w w' := by
  have := got_any a L c p n f x w B hn h
  rw [show (nb (bt f) p n == x) = true by simpa using hx] at this
  exact this
set_option maxHeartbeats 1600000 in
theorem no_short (a : Option Addr) (L c p n : Nat) (hL : L ≤ 140737488355328) (hp : (p : Int) < 9223372036854775808) (hn : n ≤ 32) (h : 8 * L < p + n) (w : World) :
    Calls Try.prog 29 #[.slice a L c, .int .i64 p, .int .i64 n, .int .i64 5] w fun e w' => e = .returned (.bool true) ∧ Ext w w' := by
  have EX := Ext.refl w
  have G := get_short a L c p n hL (by omega) hp (by omega) (by omega) (by omega) w
  go_enter Try.func29, Try.ntmps29
  go_wp2_with (first | (go_at_call 11; with_reducible refine G.mono ?_; rintro e v1 ⟨rfl, hb⟩; replace EX := Ext.trans EX hb))
  go_ret
  exact ⟨rfl, EX⟩
theorem no_arg (w : World) : Calls Try.prog 29 #[.slice none 0 0, .int .i64 0, .int .i64 33, .int .i64 1] w fun e w' => e = .returned (.bool true) ∧ Ext w w' := by
  have EX := Ext.refl w
  have G := get_arg none 0 0 0 33 ⟨by decide, by decide⟩ ⟨by decide, by decide⟩ (by omega) w
  go_enter Try.func29, Try.ntmps29
  go_wp2_with (first | (go_at_call 11; with_reducible refine G.mono ?_; rintro e v1 ⟨rfl, hb⟩; replace EX := Ext.trans EX hb))
  go_ret
  exact ⟨rfl, EX⟩
/-- The bits of the chapter's row. -/
def lv (i : Nat) : Int := if i = 0 ∨ i = 2 ∨ i = 9 then 1 else 0
theorem lv_bits : Bits lv := fun i => by unfold lv; split; exact .inr rfl; exact .inl rfl
theorem bs_lit {w : World} {cs : Array Value} {t : TypeId} (f : Nat → Int) (n : Nat) (hn : n ≤ 140737488355328) (h : ∀ i, i < n → cs[i]? = some (.int .u8 (f i))) (hf : ∀ i, i < n → 0 ≤ f i ∧ f i < 256) : Bs (w.alloc (.cells cs t)) (some ⟨w.heap.size, 0, none⟩) n f :=
  ⟨hn, fun i hi => ⟨_, _, rfl, by rw [Nat.zero_add]; exact new1 (h i hi)⟩, hf⟩
def b2 (x y : Int) (i : Nat) : Int := if i = 0 then x else y
theorem lit2 (w : World) (t : TypeId) : Bs (w.alloc (.cells #[.int .u8 172, .int .u8 1] t)) (some ⟨w.heap.size, 0, none⟩) 2 (b2 172 1) :=
  bs_lit _ 2 (by omega) (fun i hi => by match i, hi with | 0, _ => rfl | 1, _ => rfl) (fun i hi => by unfold b2; split <;> omega)
theorem lit1 (w : World) (t : TypeId) : Bs (w.alloc (.cells #[.int .u8 172] t)) (some ⟨w.heap.size, 0, none⟩) 1 (b2 172 1) :=
  bs_lit _ 1 (by omega) (fun i hi => by match i, hi with | 0, _ => rfl) (fun i hi => by unfold b2; split <;> omega)
/-- The same, at numbers that are written out. -/
theorem put_int (r sh n k : Nat) (K : Int) (u : Value) (β : Nat → Int) (v : Int) (w : World) (R : Row w r sh u β n) (hK : K = k) (hk : k ≤ 32) (hv : nb β n k = v) (h : n + k ≤ 524288) :
    Calls Try.prog 18 #[.pointer (some ⟨r, 0, none⟩), .int .u32 v, .int .i64 K] w fun e w' => e = .returned (.int .i64 0) ∧ ∃ u', Row w' r sh u' β (n + k) ∧ Stp w w' r sh u u' := by
  subst hK; exact put_any r sh n k u β v w R hk hv h
theorem got_int (a : Option Addr) (L c p n : Nat) (p' n' : Int) (f : Nat → Int) (x : Int) (w : World) (B : Bs w a L f) (hp : p' = p) (hn' : n' = n) (hn : n ≤ 32) (h : p + n ≤ 8 * L) (hx : nb (bt f) p n = x) :
    Calls Try.prog 28 #[.slice a L c, .int .i64 p', .int .i64 n', .int .u32 x] w fun e w' => e = .returned (.bool true) ∧ Ext w w' := by
  subst hp hn'; exact got_yes a L c p n f x w B hn h hx
theorem no_int (a : Option Addr) (L c p n : Nat) (p' n' : Int) (hp0 : p' = p) (hn' : n' = n) (hL : L ≤ 140737488355328) (hp : (p : Int) < 9223372036854775808) (hn : n ≤ 32) (h : 8 * L < p + n) (w : World) :
    Calls Try.prog 29 #[.slice a L c, .int .i64 p', .int .i64 n', .int .i64 5] w fun e w' => e = .returned (.bool true) ∧ Ext w w' := by
  subst hp0 hn'; exact no_short a L c p n hL hp hn h w
theorem len_lit (r sh n : Nat) (N : Int) (u : Value) (β : Nat → Int) (w : World) (R : Row w r sh u β n) (hN : N = n) :
    Calls Try.prog 21 #[.pointer (some ⟨r, 0, none⟩)] w fun e w' => e = .returned (.int .i64 N) ∧ Ext w w' := by
  subst hN; exact len_any r sh n u β w R
theorem bytes_lit (r sh n : Nat) (u : Value) (β : Nat → Int) (w : World) (R : Row w r sh u β n) (N : Nat) (hN : (n + 7) / 8 = N) :
    Calls Try.prog 20 #[.pointer (some ⟨r, 0, none⟩)] w fun e w' => ∃ g, e = .returned (.slice (some ⟨g, 0, none⟩) N N) ∧ Ans w w' g N (fun i => nb (zb β n) (8 * i) 8) := by
  subst hN; exact bytes_any r sh n u β w R
theorem str2 (w : World) (g : Nat) (f : Nat → Int) (h : w.rowIs g 5 2 (fun i => .int .u8 (f i))) (h0 : f 0 = 160) (h1 : f 1 = 64) : (convert 22 9 (.slice (some ⟨g, 0, none⟩) 2 2)).run Try.prog w = .ok (.string { data := #[160, 64] }) w := by
  have c0 := h.cell (i := 0) (by omega)
  have c1 := h.cell (i := 1) (by omega)
  rw [h0] at c0
  rw [h1] at c1
  rw [run_convert_bytes_string w 22 9 5 _ _ _ Try.underlying22 Try.underlying5 Try.underlying9, run_bytesToString w ⟨g, 0, none⟩ 2 2 [160, 64] (by simp [loadCells, loadCellsFrom, Addr.add, go_sem, c0, c1])]
  rfl
set_option maxRecDepth 20000 in
set_option maxHeartbeats 16000000 in
theorem lives_any (w : World) : Calls Try.prog 9 #[] w fun e w' => e = .returned (.bool true) ∧ Ext w w' := by
  have hN := new_any w
  go_enter Try.func9, Try.ntmps9
  go_upto_region 2 with (first | (go_at_call 14; with_reducible refine hN.mono ?_; rintro e v1 ⟨rfl, EX, HR⟩))
  replace HR := HR lv lv_bits
  have hi : ∀ k, In (w.heap.size + 1) w.heap.size (.slice none 0 0) k → w.heap.size ≤ k := by rintro k (rfl | rfl | h); omega; omega; cases h
  generalize w.heap.size + 1 = r at *
  obtain ⟨sh, hsh⟩ : ∃ sh, w.heap.size = sh := ⟨_, rfl⟩
  rw [hsh] at HR
  replace hi : ∀ k, In r sh (.slice none 0 0) k → w.heap.size ≤ k := by rw [← hsh] at *; exact hi
  generalize (Value.slice none 0 0) = u at HR hi
  clear hsh hN
  have P2 := fun v u (R : Row v r sh u lv 3) => put_arg r sh 3 u lv 8 3 v R (by omega) (by omega) ⟨by decide, by decide⟩ (by decide)
  have P7 := fun v u (R : Row v r sh u lv 10) => pad_any r sh 10 u lv v R (fun i h1 h2 => by unfold lv; rw [if_neg (by omega)])
  have S2 := fun v g (A : World.rowIs v g 5 2 (fun i => .int .u8 (nb (zb lv 10) (8 * i) 8))) => str2 v g _ A (by decide) (by decide)
  go_upto_region 4 with (first
    | (go_at_call 18; with_reducible refine (put_int r sh 0 3 3 _ lv 5 _ HR rfl (by omega) (by decide) (by omega)).mono ?_; rintro e v2 ⟨rfl, u2, HR2, ST2⟩; replace HR2 : Row v2 r sh u2 lv 3 := HR2; clear HR)
    | (go_at_call 18; with_reducible refine (P2 _ _ HR2).mono ?_; rintro e v3 ⟨rfl, hb3⟩; have HR3 := HR2.later hb3; clear HR2)
    | (go_at_call 18; with_reducible refine (put_int r sh 3 7 7 _ lv 1 _ HR3 rfl (by omega) (by decide) (by omega)).mono ?_; rintro e v4 ⟨rfl, u4, HR4, ST4⟩; replace HR4 : Row v4 r sh u4 lv 10 := HR4; clear HR3)
    | (go_at_call 21; with_reducible refine (len_lit r sh 10 10 _ lv _ HR4 rfl).mono ?_; rintro e v5 ⟨rfl, hb5⟩; have HR5 := HR4.later hb5; clear HR4)
    | (go_at_call 20; with_reducible refine (bytes_lit r sh 10 _ lv _ HR5 2 rfl).mono ?_; rintro e v6 ⟨g, rfl, AN⟩; have HR6 := HR5.later AN.ext; have hs6 := S2 _ _ AN.row; clear HR5 S2)
    | (go_at_call 16; with_reducible refine (P7 _ _ HR6).mono ?_; rintro e v7 ⟨rfl, u7, HR7, ST7⟩; replace HR7 : Row v7 r sh u7 lv 16 := HR7; clear HR6)
    | (go_at_call 21; with_reducible refine (len_lit r sh 16 16 _ lv _ HR7 rfl).mono ?_; rintro e v8 ⟨rfl, hb8⟩; clear HR7))
  obtain ⟨E2, i2⟩ := ST2.over EX hi
  obtain ⟨E4, i4⟩ := ST4.over (E2.trans hb3) i2
  obtain ⟨E7, i7⟩ := ST7.over ((E4.trans hb5).trans AN.ext) i4
  replace EX := E7.trans hb8
  clear E2 i2 E4 i4 E7 i7 ST2 ST4 ST7 hb3 hb5 hb8 AN hs6 hi P2 P7 v1 v2 v3 v4 v5 v6 v7 u u2 u4 u7
  have G1 := fun w => got_int (some ⟨World.heap w |>.size, 0, none⟩) 2 2 0 4 0 4 (b2 172 1) 10 _ (lit2 w 5) rfl rfl (by omega) (by omega) (by decide)
  have G2 := fun w => got_int (some ⟨World.heap w |>.size, 0, none⟩) 2 2 6 10 6 10 (b2 172 1) 1 _ (lit2 w 5) rfl rfl (by omega) (by omega) (by decide)
  have G3 := fun a w => no_int a 1 1 4 5 4 5 rfl rfl (by omega) (by omega) (by omega) (by omega) w
  have G4 := fun w => got_int (some ⟨World.heap w |>.size, 0, none⟩) 1 1 8 0 8 0 (b2 172 1) 0 _ (lit1 w 5) rfl rfl (by omega) (by omega) (by decide)
  have G5 := fun a w => no_int a 1 1 9 0 9 0 rfl rfl (by omega) (by omega) (by omega) (by omega) w
  go_wp2_with (first
    | (go_at_call 28; with_reducible refine (G1 _).mono ?_; rintro e v1 ⟨rfl, hb⟩; replace EX := ((EX.alloc _).trans hb); clear hb)
    | (go_at_call 28; with_reducible refine (G2 _).mono ?_; rintro e v1 ⟨rfl, hb⟩; replace EX := ((EX.alloc _).trans hb); clear hb)
    | (go_at_call 28; with_reducible refine (G4 _).mono ?_; rintro e v1 ⟨rfl, hb⟩; replace EX := ((EX.alloc _).trans hb); clear hb)
    | (go_at_call 29; with_reducible refine (G3 _ _).mono ?_; rintro e v1 ⟨rfl, hb⟩; replace EX := ((EX.alloc _).trans hb); clear hb)
    | (go_at_call 29; with_reducible refine (G5 _ _).mono ?_; rintro e v1 ⟨rfl, hb⟩; replace EX := ((EX.alloc _).trans hb); clear hb)
    | (go_at_call 29; with_reducible refine (no_arg _).mono ?_; rintro e v1 ⟨rfl, hb⟩; replace EX := (EX.trans hb); clear hb))
  go_ret
  exact ⟨rfl, EX⟩
end Go.Proofs.Ythnmofnlcepffaa
