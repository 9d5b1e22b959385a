/- Digits to the base 65536: numbers as the given package gouacheref01 holds them; what its function plus does. What the given function gouacheref01.plus does, called at any two numbers' digits. -/
import Derived.Test.YthfgeopldbcniaaNew
import Derived.Test.YthfgeopldbcniaaProg
namespace Go.Proofs.Ythfgeopldbcniaa
open Go.RowKit Go.BigFrame
set_option linter.unusedSimpArgs false
set_option linter.unusedVariables false

/-- The digit number i; the carry into it. -/
def dg (X : Int) (i : Nat) : Int := X / 65536 ^ i % 65536
def cy (X Y : Int) (i : Nat) : Int := (X % 65536 ^ i + Y % 65536 ^ i) / 65536 ^ i
def top : Int := 6277101735386680763835789423207666416102355444464034512896
theorem dg_0 (X : Int) (i : Nat) : 0 ≤ dg X i := by unfold dg; omega
theorem dg_1 (X : Int) (i : Nat) : dg X i ≤ 65535 := by unfold dg; omega
theorem pow_pos' (i : Nat) : (0 : Int) < 65536 ^ i := Int.pow_pos (by decide)
theorem cy_0 (X Y : Int) (i : Nat) : 0 ≤ cy X Y i := by
  have := pow_pos' i
  exact Int.ediv_nonneg (Int.add_nonneg (Int.emod_nonneg _ (by omega)) (Int.emod_nonneg _ (by omega))) (by omega)
theorem cy_1 (X Y : Int) (i : Nat) : cy X Y i ≤ 1 := by
  have hp := pow_pos' i
  have h1 := Int.emod_lt_of_pos X hp
  have h2 := Int.emod_lt_of_pos Y hp
  have : cy X Y i < 2 := by
    unfold cy
    apply Int.ediv_lt_of_lt_mul hp
    omega
  omega
/-- A number below the next digit. -/
theorem mod_next (X B : Int) (hB : 0 < B) : X % (B * 65536) = X % B + B * (X / B % 65536) := by
  have e1 := Int.mul_ediv_add_emod X B
  have e2 := Int.mul_ediv_add_emod (X / B) 65536
  have h0 := Int.emod_nonneg X (show B ≠ 0 by omega)
  have h1 := Int.emod_lt_of_pos X hB
  have h2 := Int.emod_nonneg (X / B) (show (65536 : Int) ≠ 0 by decide)
  have h3 := Int.emod_lt_of_pos (X / B) (show (0 : Int) < 65536 by decide)
  generalize hQ : X / B = Q at *
  generalize hR : X % B = R at *
  generalize hq : Q / 65536 = q at *
  generalize hr : Q % 65536 = r at *
  have e : X = R + B * r + B * 65536 * q := by
    rw [← e1, ← e2, Int.mul_add, ← Int.mul_assoc]; omega
  have hlt : R + B * r < B * 65536 := by
    have : B * r ≤ B * 65535 := Int.mul_le_mul_of_nonneg_left (by omega) (by omega)
    omega
  have hge : 0 ≤ R + B * r := Int.add_nonneg h0 (Int.mul_nonneg (by omega) h2)
  rw [e, Int.add_mul_emod_self_left, Int.emod_eq_of_lt hge hlt]
/-- One digit of a sum. -/
theorem dg_add (X Y : Int) (i : Nat) : cy X Y i + dg X i + dg Y i = dg (X + Y) i + 65536 * cy X Y (i + 1) := by
  have hp := pow_pos' i
  have eX := mod_next X _ hp
  have eY := mod_next Y _ hp
  have dX := Int.mul_ediv_add_emod X (65536 ^ i)
  have dY := Int.mul_ediv_add_emod Y (65536 ^ i)
  unfold cy dg
  rw [Int.pow_succ, eX, eY]
  generalize (65536 : Int) ^ i = B at *
  have hS := Int.mul_ediv_add_emod (X % B + Y % B) B
  have s0 := Int.emod_nonneg (X % B + Y % B) (show B ≠ 0 by omega)
  have s1 := Int.emod_lt_of_pos (X % B + Y % B) hp
  generalize hc : (X % B + Y % B) / B = c at *
  generalize (X % B + Y % B) % B = s at *
  generalize hx : X / B = x at *
  generalize hy : Y / B = y at *
  have e1 : (X + Y) / B = x + y + c := by
    have : X + Y = s + B * (x + y + c) := by rw [Int.mul_add, Int.mul_add]; omega
    rw [this, Int.add_mul_ediv_left _ _ (by omega), Int.ediv_eq_zero_of_lt s0 s1]; omega
  have e2 : (X % B + B * (x % 65536) + (Y % B + B * (y % 65536))) / (B * 65536) = (x % 65536 + y % 65536 + c) / 65536 := by
    have : X % B + B * (x % 65536) + (Y % B + B * (y % 65536)) = s + B * (x % 65536 + y % 65536 + c) := by rw [Int.mul_add, Int.mul_add]; omega
    rw [this, ← Int.ediv_ediv_of_nonneg (by omega), Int.add_mul_ediv_left _ _ (by omega), Int.ediv_eq_zero_of_lt s0 s1, Int.zero_add]
  rw [e1, e2]
  omega
end Go.Proofs.Ythfgeopldbcniaa

namespace Go.Proofs.Ythfgeopldbcniaa
open Go.RowKit Go.BigFrame
set_option linter.unusedSimpArgs false
set_option linter.unusedVariables false

theorem dg_rem (X Y : Int) (i : Nat) : (cy X Y i + dg X i + dg Y i) % 65536 = dg (X + Y) i ∧ (cy X Y i + dg X i + dg Y i) / 65536 = cy X Y (i + 1) := by
  have := dg_add X Y i; have := dg_0 (X + Y) i; have := dg_1 (X + Y) i; omega
theorem dg_rem0 (X Y : Int) : (dg X 0 + dg Y 0) % 65536 = dg (X + Y) 0 ∧ (dg X 0 + dg Y 0) / 65536 = cy X Y 1 := by
  have := dg_rem X Y 0
  have e : cy X Y 0 = 0 := by unfold cy; simp
  rw [e, Int.zero_add] at this
  exact this
set_option maxHeartbeats 8000000 in
theorem plus_any (X Y : Int) (w : World) : Calls Try.prog 58 #[(.agg #[.int .i64 (dg (X) 0), .int .i64 (dg (X) 1), .int .i64 (dg (X) 2), .int .i64 (dg (X) 3), .int .i64 (dg (X) 4), .int .i64 (dg (X) 5), .int .i64 (dg (X) 6), .int .i64 (dg (X) 7), .int .i64 (dg (X) 8), .int .i64 (dg (X) 9), .int .i64 (dg (X) 10), .int .i64 (dg (X) 11)]), (.agg #[.int .i64 (dg (Y) 0), .int .i64 (dg (Y) 1), .int .i64 (dg (Y) 2), .int .i64 (dg (Y) 3), .int .i64 (dg (Y) 4), .int .i64 (dg (Y) 5), .int .i64 (dg (Y) 6), .int .i64 (dg (Y) 7), .int .i64 (dg (Y) 8), .int .i64 (dg (Y) 9), .int .i64 (dg (Y) 10), .int .i64 (dg (Y) 11)])] w fun e w' => e = .returned (.agg #[.int .i64 (dg (X + Y) 0), .int .i64 (dg (X + Y) 1), .int .i64 (dg (X + Y) 2), .int .i64 (dg (X + Y) 3), .int .i64 (dg (X + Y) 4), .int .i64 (dg (X + Y) 5), .int .i64 (dg (X + Y) 6), .int .i64 (dg (X + Y) 7), .int .i64 (dg (X + Y) 8), .int .i64 (dg (X + Y) 9), .int .i64 (dg (X + Y) 10), .int .i64 (dg (X + Y) 11)]) ∧ Ext w w' := by
  have EX := Ext.refl w
  go_enter Try.func58, Try.ntmps58
  go_wp2
  refine wp_loop_rounds 13 ?_
  rw [rounds_succ]
  obtain ⟨q1, q2⟩ := dg_rem0 X Y
  have u0 := dg_0 X 0; have u1 := dg_1 X 0; have v0 := dg_0 Y 0; have v1 := dg_1 Y 0; have c0 := cy_0 X Y 0; have c1 := cy_1 X Y 0
  go_wp2
  go_region
  go_wp2
  simp only [q1, q2]
  clear q1 q2 u0 u1 v0 v1 c0 c1
  rw [rounds_succ]
  obtain ⟨q1, q2⟩ := dg_rem X Y 1
  have u0 := dg_0 X 1; have u1 := dg_1 X 1; have v0 := dg_0 Y 1; have v1 := dg_1 Y 1; have c0 := cy_0 X Y 1; have c1 := cy_1 X Y 1
  go_wp2
  go_region
  go_wp2
  simp only [q1, q2]
  clear q1 q2 u0 u1 v0 v1 c0 c1
  rw [rounds_succ]
  obtain ⟨q1, q2⟩ := dg_rem X Y 2
  have u0 := dg_0 X 2; have u1 := dg_1 X 2; have v0 := dg_0 Y 2; have v1 := dg_1 Y 2; have c0 := cy_0 X Y 2; have c1 := cy_1 X Y 2
  go_wp2
  go_region
  go_wp2
  simp only [q1, q2]
  clear q1 q2 u0 u1 v0 v1 c0 c1
  rw [rounds_succ]
  obtain ⟨q1, q2⟩ := dg_rem X Y 3
  have u0 := dg_0 X 3; have u1 := dg_1 X 3; have v0 := dg_0 Y 3; have v1 := dg_1 Y 3; have c0 := cy_0 X Y 3; have c1 := cy_1 X Y 3
  go_wp2
  go_region
  go_wp2
  simp only [q1, q2]
  clear q1 q2 u0 u1 v0 v1 c0 c1
  rw [rounds_succ]
  obtain ⟨q1, q2⟩ := dg_rem X Y 4
  have u0 := dg_0 X 4; have u1 := dg_1 X 4; have v0 := dg_0 Y 4; have v1 := dg_1 Y 4; have c0 := cy_0 X Y 4; have c1 := cy_1 X Y 4
  go_wp2
  go_region
  go_wp2
  simp only [q1, q2]
  clear q1 q2 u0 u1 v0 v1 c0 c1
  rw [rounds_succ]
  obtain ⟨q1, q2⟩ := dg_rem X Y 5
  have u0 := dg_0 X 5; have u1 := dg_1 X 5; have v0 := dg_0 Y 5; have v1 := dg_1 Y 5; have c0 := cy_0 X Y 5; have c1 := cy_1 X Y 5
  go_wp2
  go_region
  go_wp2
  simp only [q1, q2]
  clear q1 q2 u0 u1 v0 v1 c0 c1
  rw [rounds_succ]
  obtain ⟨q1, q2⟩ := dg_rem X Y 6
  have u0 := dg_0 X 6; have u1 := dg_1 X 6; have v0 := dg_0 Y 6; have v1 := dg_1 Y 6; have c0 := cy_0 X Y 6; have c1 := cy_1 X Y 6
  go_wp2
  go_region
  go_wp2
  simp only [q1, q2]
  clear q1 q2 u0 u1 v0 v1 c0 c1
  rw [rounds_succ]
  obtain ⟨q1, q2⟩ := dg_rem X Y 7
  have u0 := dg_0 X 7; have u1 := dg_1 X 7; have v0 := dg_0 Y 7; have v1 := dg_1 Y 7; have c0 := cy_0 X Y 7; have c1 := cy_1 X Y 7
  go_wp2
  go_region
  go_wp2
  simp only [q1, q2]
  clear q1 q2 u0 u1 v0 v1 c0 c1
  rw [rounds_succ]
  obtain ⟨q1, q2⟩ := dg_rem X Y 8
  have u0 := dg_0 X 8; have u1 := dg_1 X 8; have v0 := dg_0 Y 8; have v1 := dg_1 Y 8; have c0 := cy_0 X Y 8; have c1 := cy_1 X Y 8
  go_wp2
  go_region
  go_wp2
  simp only [q1, q2]
  clear q1 q2 u0 u1 v0 v1 c0 c1
  rw [rounds_succ]
  obtain ⟨q1, q2⟩ := dg_rem X Y 9
  have u0 := dg_0 X 9; have u1 := dg_1 X 9; have v0 := dg_0 Y 9; have v1 := dg_1 Y 9; have c0 := cy_0 X Y 9; have c1 := cy_1 X Y 9
  go_wp2
  go_region
  go_wp2
  simp only [q1, q2]
  clear q1 q2 u0 u1 v0 v1 c0 c1
  rw [rounds_succ]
  obtain ⟨q1, q2⟩ := dg_rem X Y 10
  have u0 := dg_0 X 10; have u1 := dg_1 X 10; have v0 := dg_0 Y 10; have v1 := dg_1 Y 10; have c0 := cy_0 X Y 10; have c1 := cy_1 X Y 10
  go_wp2
  go_region
  go_wp2
  simp only [q1, q2]
  clear q1 q2 u0 u1 v0 v1 c0 c1
  rw [rounds_succ]
  obtain ⟨q1, q2⟩ := dg_rem X Y 11
  have u0 := dg_0 X 11; have u1 := dg_1 X 11; have v0 := dg_0 Y 11; have v1 := dg_1 Y 11; have c0 := cy_0 X Y 11; have c1 := cy_1 X Y 11
  go_wp2
  go_region
  go_wp2
  simp only [q1, q2]
  clear q1 q2 u0 u1 v0 v1 c0 c1
  rw [rounds_succ]
  go_wp2
  refine bodyPost_ret (by simp only [results, Try.results58]; simp [go_sem]; try rfl) rfl ⟨rfl, ?_⟩
  repeat (first | with_reducible exact EX | with_reducible refine Ext.alloc ?_ _ | with_reducible refine Ext.drew ?_ | with_reducible refine Ext.drewN ?_ _ | with_reducible refine Ext.setCell ?_ (by first | (simp; done) | omega | (dsimp only; omega)) _)
end Go.Proofs.Ythfgeopldbcniaa
