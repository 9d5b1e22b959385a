/- What the reference's Get does. -/
import Derived.Test.YtemcppakmcffgaaDoorBitG
namespace Go.Proofs.YtemcppakmcffgaaDoor
open Go.RowKit Go.BigFrame
set_option linter.unusedSimpArgs false
set_option linter.unusedVariables false
set_option maxHeartbeats 1600000 in
theorem rget_arg (a : Option Addr) (L c : Nat) (p n : Int) (hp : In64 p) (hn : In64 n) (h : p < 0 ∨ n < 0 ∨ 32 < n) (w : World) :
    Calls Tryd.prog 88 #[.slice a L c, .int .i64 p, .int .i64 n] w fun e w' => e = .returned (.tuple #[.int .u32 0, .int .i64 1]) ∧ Ext w w' := by
  have EX := Ext.refl w
  rcases (show p < 0 ∨ (¬ p < 0 ∧ n < 0) ∨ (¬ p < 0 ∧ ¬ n < 0 ∧ 32 < n) by omega) with h | ⟨h, k⟩ | ⟨h, k, l⟩
  all_goals
    go_enter Tryd.func88, Tryd.ntmps88
    go_wp2
    go_ret2
    exact ⟨rfl, EX⟩
set_option maxHeartbeats 1600000 in
theorem rget_short (a : Option Addr) (L c : Nat) (p n : Int) (hL : L ≤ 140737488355328) (hp : 0 ≤ p) (hp' : p < 9223372036854775808) (hn : 0 ≤ n) (hn' : n ≤ 32) (h : 8 * (L : Int) < p + n) (w : World) :
    Calls Tryd.prog 88 #[.slice a L c, .int .i64 p, .int .i64 n] w fun e w' => e = .returned (.tuple #[.int .u32 0, .int .i64 5]) ∧ Ext w w' := by
  have EX := Ext.refl w
  by_cases h1 : 8 * (L : Int) < p
  · go_enter Tryd.func88, Tryd.ntmps88
    go_wp2
    go_ret2
    exact ⟨rfl, EX⟩
  · have h2 : 8 * (L : Int) - p < n := by omega
    go_enter Tryd.func88, Tryd.ntmps88
    go_wp2
    go_ret2
    exact ⟨rfl, EX⟩
set_option maxRecDepth 20000 in
set_option maxHeartbeats 4000000 in
theorem rget_ok (a : Option Addr) (L c p n : Nat) (f : Nat → Int) (w : World) (B : Bs w a L f) (hn : n ≤ 32) (h : p + n ≤ 8 * L) :
    Calls Tryd.prog 88 #[.slice a L c, .int .i64 p, .int .i64 n] w fun e w' => e = .returned (.tuple #[.int .u32 (nb (bt f) p n), .int .i64 0]) ∧ Ext w w' := by
  have hL := B.len
  have h1 : ¬ 8 * (L : Int) < (p : Int) := by omega
  have h2 : ¬ 8 * (L : Int) - (p : Int) < (n : Int) := by omega
  have HB : Hid (Bs w a L f) := B
  clear B
  by_cases hn0 : n = 0
  · subst hn0
    go_enter Tryd.func88, Tryd.ntmps88
    go_wp2
    go_loopg [8, 9] 0 (fun gk v i wr => v = .int .u32 0 ∧ i = .int .i64 p ∧ Ext w wr)
    case atStart => exact ⟨rfl, rfl, Ext.refl w⟩
    case round =>
      obtain ⟨rfl, rfl, EX⟩ := hrel
      go_wp2
      go_ret2
      exact ⟨rfl, EX⟩
  · obtain ⟨b, o, rfl, hc⟩ := HB.out.some (by omega)
    have HC : Hid (∀ i, i < L → w.cell? ⟨b, o + i, none⟩ = some (.int .u8 (f i))) := hc
    clear hc
    go_enter Tryd.func88, Tryd.ntmps88
    go_wp2
    go_loopg [8, 9] n (fun gk v i wr => ∃ m j : Nat, ∃ z : Int, m + gk = n ∧ j = p + m ∧ v = .int .u32 z ∧ z = nb (bt f) p m ∧ i = .int .i64 j ∧ Ext w wr)
    case atStart => exact ⟨0, p, 0, by omega, rfl, rfl, rfl, rfl, Ext.refl w⟩
    case round =>
      obtain ⟨m, j, z, hm, hj, rfl, hz, rfl, EX⟩ := hrel
      by_cases hlt : m < n
      · have hji : (j : Int) < (p : Int) + (n : Int) := by omega
        obtain ⟨q, hq⟩ : ∃ q : Nat, (j : Int) / 8 = (q : Int) := ⟨j / 8, by omega⟩
        obtain ⟨d, hd⟩ : ∃ d : Nat, 7 - (j : Int) % 8 = (d : Int) := ⟨7 - j % 8, by omega⟩
        have hqL : q < L := by omega
        have hqi : (q : Int) < (L : Int) := by omega
        have cell := EX.later (HC.out q hqL)
        obtain ⟨x0, x1⟩ := HB.out.byte q hqL
        have hb : bt f j = f q / 2 ^ d % 2 := by unfold bt; rw [show j / 8 = q by omega, show 7 - j % 8 = d by omega]
        have hs : nb (bt f) p (m + 1) = 2 * z + f q / 2 ^ d % 2 := by rw [nb_succ, ← hj, hb, hz]
        have zin := nb_in (bt_bits f) p m
        have z32 : (2 : Int) ^ m ≤ 2147483648 := pow_le2 (n := 31) (by omega)
        rw [← hz] at zin
        generalize f q = x at *
        obtain ⟨z0, z1⟩ := zin
        have zb : z < 2147483648 := by omega
        have HA : bits .and .u8 (x / 2 ^ d) 1 = x / 2 ^ d % 2 := by
          have := div_in d x0 x1
          exact bits_mask .u8 8 (by decide) wraps_u8 1 (by decide) _ this.1 this.2
        have b0 : 0 ≤ x / 2 ^ d % 2 := by omega
        have b1 : x / 2 ^ d % 2 < 2 := by omega
        generalize x / 2 ^ d % 2 = y at *
        have HS : Hid (2 * z + y = nb (bt f) p (m + 1)) := hs.symm
        have HJ : Hid (j = p + m) := hj
        have d8 : d ≤ 7 := by omega
        clear hs hb hz z1 z32 hj
        go_wp2
        go_roundg (gk - 1)
        case measure => omega
        case rel => exact ⟨m + 1, j + 1, 2 * z + y, by omega, by have := HJ.out; omega, rfl, HS.out, by go_num, EX⟩
      · have hji : ¬ (j : Int) < (p : Int) + (n : Int) := by omega
        obtain rfl : m = n := by omega
        have HZ : Hid (z = nb (bt f) p m) := hz
        clear hz
        go_wp2
        go_ret2
        exact ⟨by rw [← HZ.out]; rfl, EX⟩
end Go.Proofs.YtemcppakmcffgaaDoor
