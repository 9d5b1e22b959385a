/- The law BitsParts, walked. -/
import Derived.Test.YthnmofnlcepffaaBitF
namespace Go.Proofs.Ythnmofnlcepffaa
open Go.RowKit Go.BigFrame
set_option linter.unusedSimpArgs false
set_option linter.unusedVariables false
theorem get_short' (a : Option Addr) (L c p n : Nat) (hL : L ≤ 140737488355328) (hp : p ≤ 65535) (hn : n ≤ 32) (h : 8 * L < p + n) (w : World) :
    Calls Try.prog 11 #[.slice a L c, .int .i64 p, .int .i64 n] w fun e w' => e = .returned (.tuple #[.int .u32 0, .int .i64 5]) ∧ Ext w w' :=
  get_short a L c p n hL (by omega) (by omega) (by omega) (by omega) (by omega) w
theorem get_int (a : Option Addr) (L c p n : Nat) (p' n' : Int) (f : Nat → Int) (w : World) (B : Bs w a L f) (hp : p' = p) (hn' : n' = n) (hn : n ≤ 32) (h : p + n ≤ 8 * L) :
    Calls Try.prog 11 #[.slice a L c, .int .i64 p', .int .i64 n'] w fun e w' => e = .returned (.tuple #[.int .u32 (nb (bt f) p n), .int .i64 0]) ∧ Ext w w' := by
  subst hp hn'; exact get_ok a L c p n f w B hn h
set_option maxRecDepth 20000 in
set_option maxHeartbeats 8000000 in
theorem parts_law (a : Option Addr) (L c p z0 z1 : Nat) (f : Nat → Int) (w : World) (B : Bs w a L f) (hp : p ≤ 65535) (h0 : z0 ≤ 255) (h1 : z1 ≤ 255) :
    Calls Try.prog 7 #[.slice a L c, .int .u16 p, .agg #[.int .u8 z0, .int .u8 z1]] w fun e w' => e = .returned (.bool true) ∧ Ext w w' := by
  have hL := lives_any
  have EX := (Ext.refl w).alloc (.cells #[.int .u8 z0, .int .u8 z1] 68)
  replace B := B.later EX
  have hLen := B.len
  obtain ⟨n, hn⟩ : ∃ n : Nat, (z0 : Int) % 33 = (n : Int) := ⟨z0 % 33, by omega⟩
  obtain ⟨k, hk⟩ : ∃ k : Nat, (z1 : Int) % ((n : Int) + 1) = (k : Int) := ⟨z1 % (n + 1), by simp⟩
  have hn32 : n ≤ 32 := by omega
  have hkn : k ≤ n := by have := Int.emod_lt_of_pos (z1 : Int) (show (0 : Int) < (n : Int) + 1 by omega); omega
  by_cases hs : 8 * L < p + n
  · have hs' : 8 * (L : Int) < (p : Int) + (n : Int) := by omega
    have G := fun w => get_short' a L c p n hLen hp hn32 hs w
    clear B
    go_enter Try.func7, Try.ntmps7
    go_wp2_with (first | (go_at_call 11; with_reducible refine (G _).mono ?_; rintro e v ⟨rfl, hb⟩; replace EX := EX.trans hb; clear hb) | (go_at_call 9; with_reducible refine (hL _).mono ?_; rintro e w' ⟨rfl, hb⟩; replace EX := EX.trans hb))
    go_ret
    exact ⟨rfl, EX⟩
  · have hs' : ¬ 8 * (L : Int) < (p : Int) + (n : Int) := by omega
    obtain ⟨d, hd⟩ : ∃ d : Nat, (n : Int) - (k : Int) = (d : Int) := ⟨n - k, by omega⟩
    have G1 := fun w (hb : Ext _ w) => get_ok a L c p n f w (B.later hb) hn32 (by omega)
    have G2 := fun w (hb : Ext _ w) => get_ok a L c p k f w (B.later hb) (by omega) (by omega)
    have G3 := fun w (hb : Ext _ w) => get_int a L c (p + k) d ((p : Int) + (k : Int)) (d : Int) f w (B.later hb) (by omega) rfl (by omega) (by omega)
    have hv := nb_in (bt_bits f) p n
    have hpp := (nb_in (bt_bits f) p k).1
    have hqq := (nb_in (bt_bits f) (p + k) d).1
    have hsum : nb (bt f) p n = nb (bt f) p k * 2 ^ d + nb (bt f) (p + k) d := by rw [← nb_add, show k + d = n by omega]
    have hz : nb (bt f) p n / 2 ^ n = 0 := div_small hv.1 hv.2
    have h32 := pow32 hn32
    have hm : 0 ≤ nb (bt f) p k * 2 ^ d := Int.mul_nonneg hpp (Int.le_of_lt (pow_pos2 d))
    have hv2 := hv.2
    have hx32 : nb (bt f) p k < 4294967296 := by have := (nb_in (bt_bits f) p k).2; have := pow32 (k := k) (by omega); omega
    rw [hsum] at G1 hz hv2
    clear hsum hv B hs
    generalize nb (bt f) p k = x at *
    generalize nb (bt f) (p + k) d = y at *
    have hxd : x * 2 ^ d < 4294967296 := by omega
    have hxy : x * 2 ^ d + y < 4294967296 := by omega
    have hy32 : y < 4294967296 := by omega
    have hsh : x * 2 ^ d % 18446744073709551616 = x * 2 ^ d := Int.emod_eq_of_lt hm (by omega)
    clear hv2 h32
    have d32 : d ≤ 32 := by omega
    go_enter Try.func7, Try.ntmps7
    go_wp2_with (first | (go_at_call 11; with_reducible refine (G1 _ (Ext.refl _)).mono ?_; rintro e v ⟨rfl, hb⟩; replace EX := EX.trans hb; have hb0 := hb; clear hb G1) | (go_at_call 11; with_reducible refine (G2 _ hb0).mono ?_; rintro e v ⟨rfl, hb⟩; replace EX := EX.trans hb; replace hb0 := hb0.trans hb; clear hb G2) | (go_at_call 11; with_reducible refine (G3 _ hb0).mono ?_; rintro e v ⟨rfl, hb⟩; replace EX := EX.trans hb; clear hb0 hb G3) | (go_at_call 9; with_reducible refine (hL _).mono ?_; rintro e w' ⟨rfl, hb⟩; replace EX := EX.trans hb))
    go_ret
    exact ⟨rfl, EX⟩
end Go.Proofs.Ythnmofnlcepffaa
