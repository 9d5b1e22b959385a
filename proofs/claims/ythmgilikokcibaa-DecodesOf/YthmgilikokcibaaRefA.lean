/- Digits to the base 65536: numbers as the given package gouacheref01 holds them; what its function plus does. -/
import Derived.Test.YthmgilikokcibaaNew
import Derived.Test.YthmgilikokcibaaProg
namespace Go.Proofs.Ythmgilikokcibaa
open Go.RowKit Go.BigFrame
set_option linter.unusedSimpArgs false
set_option linter.unusedVariables false

/-- The digit number i; the carry into it. -/
def dg (X : Int) (i : Nat) : Int := X / 65536 ^ i % 65536
def cy (X Y : Int) (i : Nat) : Int := (X % 65536 ^ i + Y % 65536 ^ i) / 65536 ^ i
def top : Int := 6277101735386680763835789423207666416102355444464034512896
theorem dg_0 (X : Int) (i : Nat) : 0 ≤ dg X i := by unfold dg; omega
theorem dg_1 (X : Int) (i : Nat) : dg X i ≤ 65535 := by unfold dg; omega
theorem pow_pos' (i : Nat) : (0 : Int) < 65536 ^ i := Int.pow_pos (by decide)
theorem cy_0 (X Y : Int) (i : Nat) : 0 ≤ cy X Y i := by
  have := pow_pos' i
  exact Int.ediv_nonneg (Int.add_nonneg (Int.emod_nonneg _ (by omega)) (Int.emod_nonneg _ (by omega))) (by omega)
theorem cy_1 (X Y : Int) (i : Nat) : cy X Y i ≤ 1 := by
  have hp := pow_pos' i
  have h1 := Int.emod_lt_of_pos X hp
  have h2 := Int.emod_lt_of_pos Y hp
  have : cy X Y i < 2 := by
    unfold cy
    apply Int.ediv_lt_of_lt_mul hp
    omega
  omega
/-- A number below the next digit. -/
theorem mod_next (X B : Int) (hB : 0 < B) : X % (B * 65536) = X % B + B * (X / B % 65536) := by
  have e1 := Int.mul_ediv_add_emod X B
  have e2 := Int.mul_ediv_add_emod (X / B) 65536
  have h0 := Int.emod_nonneg X (show B ≠ 0 by omega)
  have h1 := Int.emod_lt_of_pos X hB
  have h2 := Int.emod_nonneg (X / B) (show (65536 : Int) ≠ 0 by decide)
  have h3 := Int.emod_lt_of_pos (X / B) (show (0 : Int) < 65536 by decide)
  generalize hQ : X / B = Q at *
  generalize hR : X % B = R at *
  generalize hq : Q / 65536 = q at *
  generalize hr : Q % 65536 = r at *
  have e : X = R + B * r + B * 65536 * q := by
    rw [← e1, ← e2, Int.mul_add, ← Int.mul_assoc]; omega
  have hlt : R + B * r < B * 65536 := by
    have : B * r ≤ B * 65535 := Int.mul_le_mul_of_nonneg_left (by omega) (by omega)
    omega
  have hge : 0 ≤ R + B * r := Int.add_nonneg h0 (Int.mul_nonneg (by omega) h2)
  rw [e, Int.add_mul_emod_self_left, Int.emod_eq_of_lt hge hlt]
/-- One digit of a sum. -/
theorem dg_add (X Y : Int) (i : Nat) : cy X Y i + dg X i + dg Y i = dg (X + Y) i + 65536 * cy X Y (i + 1) := by
  have hp := pow_pos' i
  have eX := mod_next X _ hp
  have eY := mod_next Y _ hp
  have dX := Int.mul_ediv_add_emod X (65536 ^ i)
  have dY := Int.mul_ediv_add_emod Y (65536 ^ i)
  unfold cy dg
  rw [Int.pow_succ, eX, eY]
  generalize (65536 : Int) ^ i = B at *
  have hS := Int.mul_ediv_add_emod (X % B + Y % B) B
  have s0 := Int.emod_nonneg (X % B + Y % B) (show B ≠ 0 by omega)
  have s1 := Int.emod_lt_of_pos (X % B + Y % B) hp
  generalize hc : (X % B + Y % B) / B = c at *
  generalize (X % B + Y % B) % B = s at *
  generalize hx : X / B = x at *
  generalize hy : Y / B = y at *
  have e1 : (X + Y) / B = x + y + c := by
    have : X + Y = s + B * (x + y + c) := by rw [Int.mul_add, Int.mul_add]; omega
    rw [this, Int.add_mul_ediv_left _ _ (by omega), Int.ediv_eq_zero_of_lt s0 s1]; omega
  have e2 : (X % B + B * (x % 65536) + (Y % B + B * (y % 65536))) / (B * 65536) = (x % 65536 + y % 65536 + c) / 65536 := by
    have : X % B + B * (x % 65536) + (Y % B + B * (y % 65536)) = s + B * (x % 65536 + y % 65536 + c) := by rw [Int.mul_add, Int.mul_add]; omega
    rw [this, ← Int.ediv_ediv_of_nonneg (by omega), Int.add_mul_ediv_left _ _ (by omega), Int.ediv_eq_zero_of_lt s0 s1, Int.zero_add]
  rw [e1, e2]
  omega
end Go.Proofs.Ythmgilikokcibaa
