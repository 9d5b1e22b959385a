/- What the given function gouacheref01.plus does, called at any two numbers' digits. -/
import Derived.Test.YthmgilikokcibaaRefA
namespace Go.Proofs.Ythmgilikokcibaa
open Go.RowKit Go.BigFrame
set_option linter.unusedSimpArgs false
set_option linter.unusedVariables false

theorem dg_rem (X Y : Int) (i : Nat) : (cy X Y i + dg X i + dg Y i) % 65536 = dg (X + Y) i ∧ (cy X Y i + dg X i + dg Y i) / 65536 = cy X Y (i + 1) := by
  have := dg_add X Y i; have := dg_0 (X + Y) i; have := dg_1 (X + Y) i; omega
theorem dg_rem0 (X Y : Int) : (dg X 0 + dg Y 0) % 65536 = dg (X + Y) 0 ∧ (dg X 0 + dg Y 0) / 65536 = cy X Y 1 := by
  have := dg_rem X Y 0
  have e : cy X Y 0 = 0 := by unfold cy; simp
  rw [e, Int.zero_add] at this
  exact this
set_option maxHeartbeats 8000000 in
theorem plus_any (X Y : Int) (w : World) : Calls Try.prog 47 #[(.agg #[.int .i64 (dg (X) 0), .int .i64 (dg (X) 1), .int .i64 (dg (X) 2), .int .i64 (dg (X) 3), .int .i64 (dg (X) 4), .int .i64 (dg (X) 5), .int .i64 (dg (X) 6), .int .i64 (dg (X) 7), .int .i64 (dg (X) 8), .int .i64 (dg (X) 9), .int .i64 (dg (X) 10), .int .i64 (dg (X) 11)]), (.agg #[.int .i64 (dg (Y) 0), .int .i64 (dg (Y) 1), .int .i64 (dg (Y) 2), .int .i64 (dg (Y) 3), .int .i64 (dg (Y) 4), .int .i64 (dg (Y) 5), .int .i64 (dg (Y) 6), .int .i64 (dg (Y) 7), .int .i64 (dg (Y) 8), .int .i64 (dg (Y) 9), .int .i64 (dg (Y) 10), .int .i64 (dg (Y) 11)])] w fun e w' => e = .returned (.agg #[.int .i64 (dg (X + Y) 0), .int .i64 (dg (X + Y) 1), .int .i64 (dg (X + Y) 2), .int .i64 (dg (X + Y) 3), .int .i64 (dg (X + Y) 4), .int .i64 (dg (X + Y) 5), .int .i64 (dg (X + Y) 6), .int .i64 (dg (X + Y) 7), .int .i64 (dg (X + Y) 8), .int .i64 (dg (X + Y) 9), .int .i64 (dg (X + Y) 10), .int .i64 (dg (X + Y) 11)]) ∧ Ext w w' := by
  have EX := Ext.refl w
  go_enter Try.func47, Try.ntmps47
  go_wp2
  refine wp_loop_rounds 13 ?_
  rw [rounds_succ]
  obtain ⟨q1, q2⟩ := dg_rem0 X Y
  have u0 := dg_0 X 0; have u1 := dg_1 X 0; have v0 := dg_0 Y 0; have v1 := dg_1 Y 0; have c0 := cy_0 X Y 0; have c1 := cy_1 X Y 0
  go_wp2
  go_region
  go_wp2
  simp only [q1, q2]
  clear q1 q2 u0 u1 v0 v1 c0 c1
  rw [rounds_succ]
  obtain ⟨q1, q2⟩ := dg_rem X Y 1
  have u0 := dg_0 X 1; have u1 := dg_1 X 1; have v0 := dg_0 Y 1; have v1 := dg_1 Y 1; have c0 := cy_0 X Y 1; have c1 := cy_1 X Y 1
  go_wp2
  go_region
  go_wp2
  simp only [q1, q2]
  clear q1 q2 u0 u1 v0 v1 c0 c1
  rw [rounds_succ]
  obtain ⟨q1, q2⟩ := dg_rem X Y 2
  have u0 := dg_0 X 2; have u1 := dg_1 X 2; have v0 := dg_0 Y 2; have v1 := dg_1 Y 2; have c0 := cy_0 X Y 2; have c1 := cy_1 X Y 2
  go_wp2
  go_region
  go_wp2
  simp only [q1, q2]
  clear q1 q2 u0 u1 v0 v1 c0 c1
  rw [rounds_succ]
  obtain ⟨q1, q2⟩ := dg_rem X Y 3
  have u0 := dg_0 X 3; have u1 := dg_1 X 3; have v0 := dg_0 Y 3; have v1 := dg_1 Y 3; have c0 := cy_0 X Y 3; have c1 := cy_1 X Y 3
  go_wp2
  go_region
  go_wp2
  simp only [q1, q2]
  clear q1 q2 u0 u1 v0 v1 c0 c1
  rw [rounds_succ]
  obtain ⟨q1, q2⟩ := dg_rem X Y 4
  have u0 := dg_0 X 4; have u1 := dg_1 X 4; have v0 := dg_0 Y 4; have v1 := dg_1 Y 4; have c0 := cy_0 X Y 4; have c1 := cy_1 X Y 4
  go_wp2
  go_region
  go_wp2
  simp only [q1, q2]
  clear q1 q2 u0 u1 v0 v1 c0 c1
  rw [rounds_succ]
  obtain ⟨q1, q2⟩ := dg_rem X Y 5
  have u0 := dg_0 X 5; have u1 := dg_1 X 5; have v0 := dg_0 Y 5; have v1 := dg_1 Y 5; have c0 := cy_0 X Y 5; have c1 := cy_1 X Y 5
  go_wp2
  go_region
  go_wp2
  simp only [q1, q2]
  clear q1 q2 u0 u1 v0 v1 c0 c1
  rw [rounds_succ]
  obtain ⟨q1, q2⟩ := dg_rem X Y 6
  have u0 := dg_0 X 6; have u1 := dg_1 X 6; have v0 := dg_0 Y 6; have v1 := dg_1 Y 6; have c0 := cy_0 X Y 6; have c1 := cy_1 X Y 6
  go_wp2
  go_region
  go_wp2
  simp only [q1, q2]
  clear q1 q2 u0 u1 v0 v1 c0 c1
  rw [rounds_succ]
  obtain ⟨q1, q2⟩ := dg_rem X Y 7
  have u0 := dg_0 X 7; have u1 := dg_1 X 7; have v0 := dg_0 Y 7; have v1 := dg_1 Y 7; have c0 := cy_0 X Y 7; have c1 := cy_1 X Y 7
  go_wp2
  go_region
  go_wp2
  simp only [q1, q2]
  clear q1 q2 u0 u1 v0 v1 c0 c1
  rw [rounds_succ]
  obtain ⟨q1, q2⟩ := dg_rem X Y 8
  have u0 := dg_0 X 8; have u1 := dg_1 X 8; have v0 := dg_0 Y 8; have v1 := dg_1 Y 8; have c0 := cy_0 X Y 8; have c1 := cy_1 X Y 8
  go_wp2
  go_region
  go_wp2
  simp only [q1, q2]
  clear q1 q2 u0 u1 v0 v1 c0 c1
  rw [rounds_succ]
  obtain ⟨q1, q2⟩ := dg_rem X Y 9
  have u0 := dg_0 X 9; have u1 := dg_1 X 9; have v0 := dg_0 Y 9; have v1 := dg_1 Y 9; have c0 := cy_0 X Y 9; have c1 := cy_1 X Y 9
  go_wp2
  go_region
  go_wp2
  simp only [q1, q2]
  clear q1 q2 u0 u1 v0 v1 c0 c1
  rw [rounds_succ]
  obtain ⟨q1, q2⟩ := dg_rem X Y 10
  have u0 := dg_0 X 10; have u1 := dg_1 X 10; have v0 := dg_0 Y 10; have v1 := dg_1 Y 10; have c0 := cy_0 X Y 10; have c1 := cy_1 X Y 10
  go_wp2
  go_region
  go_wp2
  simp only [q1, q2]
  clear q1 q2 u0 u1 v0 v1 c0 c1
  rw [rounds_succ]
  obtain ⟨q1, q2⟩ := dg_rem X Y 11
  have u0 := dg_0 X 11; have u1 := dg_1 X 11; have v0 := dg_0 Y 11; have v1 := dg_1 Y 11; have c0 := cy_0 X Y 11; have c1 := cy_1 X Y 11
  go_wp2
  go_region
  go_wp2
  simp only [q1, q2]
  clear q1 q2 u0 u1 v0 v1 c0 c1
  rw [rounds_succ]
  go_wp2
  refine bodyPost_ret (by simp only [results, Try.results47]; simp [go_sem]; try rfl) rfl ⟨rfl, ?_⟩
  repeat (first | with_reducible exact EX | with_reducible refine Ext.alloc ?_ _ | with_reducible refine Ext.drew ?_ | with_reducible refine Ext.drewN ?_ _ | with_reducible refine Ext.setCell ?_ (by first | (simp; done) | omega | (dsimp only; omega)) _)
end Go.Proofs.Ythmgilikokcibaa
