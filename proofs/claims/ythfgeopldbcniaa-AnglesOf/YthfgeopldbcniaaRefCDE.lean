/- What the given function gouacheref01.compare does, called at any two numbers' digits. Boxes of twelve digits in memory; what the given function gouacheref01.less does, called at any two numbers' digits of which the second is not above the first. What the given functions gouacheref01.Minus, Num.zero and Sum do, called at any numbers' digits. -/
import Derived.Test.YthfgeopldbcniaaRefAB
import Derived.Test.YthfgeopldbcniaaWideAM
import Derived.Test.YthfgeopldbcniaaBoxes
import Derived.Deep.LoopGhost
import Derived.Deep.Light
namespace Go.Proofs.Ythfgeopldbcniaa
open Go.RowKit Go.BigFrame
set_option linter.unusedSimpArgs false
set_option linter.unusedVariables false

/-- A number of twelve digits. -/
def InD (X : Int) : Prop := 0 ≤ X ∧ X < 6277101735386680763835789423207666416102355444464034512896
theorem div_step (X : Int) (i : Nat) : X / 65536 ^ i = 65536 * (X / 65536 ^ (i + 1)) + dg X i := by
  have hp := pow_pos' i
  unfold dg
  rw [Int.pow_succ, ← Int.ediv_ediv_of_nonneg (by omega)]
  omega
theorem div_top {X : Int} (h : InD X) : X / 65536 ^ 12 = 0 := Int.ediv_eq_zero_of_lt h.1 (by have := h.2; simpa using this)
theorem div_lt {A B : Int} (i : Nat) (h : A / 65536 ^ (i + 1) = B / 65536 ^ (i + 1)) (hd : dg A i < dg B i) : A < B := by
  have e1 := div_step A i
  have e2 := div_step B i
  rw [h] at e1
  have hlt : A / 65536 ^ i < B / 65536 ^ i := by omega
  apply Classical.byContradiction
  intro hn
  have := Int.ediv_le_ediv (pow_pos' i) (Int.not_lt.1 hn)
  omega
theorem div_eq {A B : Int} (i : Nat) (h : A / 65536 ^ (i + 1) = B / 65536 ^ (i + 1)) (hd : dg A i = dg B i) : A / 65536 ^ i = B / 65536 ^ i := by
  rw [div_step A i, div_step B i, h, hd]
set_option maxHeartbeats 8000000 in
theorem compare_any (A B : Int) (hA : InD A) (hB : InD B) (w : World) : Calls Try.prog 59 #[(.agg #[.int .i64 (dg (A) 0), .int .i64 (dg (A) 1), .int .i64 (dg (A) 2), .int .i64 (dg (A) 3), .int .i64 (dg (A) 4), .int .i64 (dg (A) 5), .int .i64 (dg (A) 6), .int .i64 (dg (A) 7), .int .i64 (dg (A) 8), .int .i64 (dg (A) 9), .int .i64 (dg (A) 10), .int .i64 (dg (A) 11)]), (.agg #[.int .i64 (dg (B) 0), .int .i64 (dg (B) 1), .int .i64 (dg (B) 2), .int .i64 (dg (B) 3), .int .i64 (dg (B) 4), .int .i64 (dg (B) 5), .int .i64 (dg (B) 6), .int .i64 (dg (B) 7), .int .i64 (dg (B) 8), .int .i64 (dg (B) 9), .int .i64 (dg (B) 10), .int .i64 (dg (B) 11)])] w fun e w' => e = .returned (.int .i64 (sgn A B)) ∧ Ext w w' := by
  have H : Hid (A / 65536 ^ 12 = B / 65536 ^ 12) := by rw [div_top hA, div_top hB]; rfl
  have lt : Hid (A < B → sgn A B = -1) := fun h => by unfold sgn; rw [if_pos h]
  have gt : Hid (B < A → sgn A B = 1) := fun h => by unfold sgn; rw [if_neg (by omega), if_neg (by omega)]
  have eq : Hid (A = B → sgn A B = 0) := fun h => by unfold sgn; rw [if_neg (by omega), if_pos h]
  clear hA hB
  have EX := Ext.refl w
  go_enter Try.func59, Try.ntmps59
  go_wp2
  refine wp_loop_rounds 13 ?_
  rw [rounds_succ]
  rcases Int.lt_trichotomy (dg A 11) (dg B 11) with h | h | h
  · go_wp2
    go_quiet (fail)
    go_wp2
    go_ret
    exact ⟨by rw [lt.out (div_lt 11 H.out h)]; rfl, by repeat (first | with_reducible exact EX | with_reducible refine Ext.alloc ?_ _ | with_reducible refine Ext.drew ?_ | with_reducible refine Ext.drewN ?_ _ | with_reducible refine Ext.setCell ?_ (by first | (simp; done) | omega | (dsimp only; omega)) _)⟩
  rotate_left
  · have h1 : ¬ dg A 11 < dg B 11 := by omega
    go_wp2
    go_quiet (fail)
    go_wp2
    go_quiet (fail)
    go_wp2
    go_ret
    exact ⟨by rw [gt.out (div_lt 11 H.out.symm h)]; rfl, by repeat (first | with_reducible exact EX | with_reducible refine Ext.alloc ?_ _ | with_reducible refine Ext.drew ?_ | with_reducible refine Ext.drewN ?_ _ | with_reducible refine Ext.setCell ?_ (by first | (simp; done) | omega | (dsimp only; omega)) _)⟩
  have h1 : ¬ dg A 11 < dg B 11 := by omega
  have h2 : ¬ dg B 11 < dg A 11 := by omega
  have H' : Hid (A / 65536 ^ 11 = B / 65536 ^ 11) := div_eq 11 H.out h
  clear H h
  have H := H'
  clear H'
  go_wp2
  go_quiet (fail)
  go_wp2
  go_quiet (fail)
  go_wp2
  clear h1 h2
  rw [rounds_succ]
  rcases Int.lt_trichotomy (dg A 10) (dg B 10) with h | h | h
  · go_wp2
    go_quiet (fail)
    go_wp2
    go_ret
    exact ⟨by rw [lt.out (div_lt 10 H.out h)]; rfl, by repeat (first | with_reducible exact EX | with_reducible refine Ext.alloc ?_ _ | with_reducible refine Ext.drew ?_ | with_reducible refine Ext.drewN ?_ _ | with_reducible refine Ext.setCell ?_ (by first | (simp; done) | omega | (dsimp only; omega)) _)⟩
  rotate_left
  · have h1 : ¬ dg A 10 < dg B 10 := by omega
    go_wp2
    go_quiet (fail)
    go_wp2
    go_quiet (fail)
    go_wp2
    go_ret
    exact ⟨by rw [gt.out (div_lt 10 H.out.symm h)]; rfl, by repeat (first | with_reducible exact EX | with_reducible refine Ext.alloc ?_ _ | with_reducible refine Ext.drew ?_ | with_reducible refine Ext.drewN ?_ _ | with_reducible refine Ext.setCell ?_ (by first | (simp; done) | omega | (dsimp only; omega)) _)⟩
  have h1 : ¬ dg A 10 < dg B 10 := by omega
  have h2 : ¬ dg B 10 < dg A 10 := by omega
  have H' : Hid (A / 65536 ^ 10 = B / 65536 ^ 10) := div_eq 10 H.out h
  clear H h
  have H := H'
  clear H'
  go_wp2
  go_quiet (fail)
  go_wp2
  go_quiet (fail)
  go_wp2
  clear h1 h2
  rw [rounds_succ]
  rcases Int.lt_trichotomy (dg A 9) (dg B 9) with h | h | h
  · go_wp2
    go_quiet (fail)
    go_wp2
    go_ret
    exact ⟨by rw [lt.out (div_lt 9 H.out h)]; rfl, by repeat (first | with_reducible exact EX | with_reducible refine Ext.alloc ?_ _ | with_reducible refine Ext.drew ?_ | with_reducible refine Ext.drewN ?_ _ | with_reducible refine Ext.setCell ?_ (by first | (simp; done) | omega | (dsimp only; omega)) _)⟩
  rotate_left
  · have h1 : ¬ dg A 9 < dg B 9 := by omega
    go_wp2
    go_quiet (fail)
    go_wp2
    go_quiet (fail)
    go_wp2
    go_ret
    exact ⟨by rw [gt.out (div_lt 9 H.out.symm h)]; rfl, by repeat (first | with_reducible exact EX | with_reducible refine Ext.alloc ?_ _ | with_reducible refine Ext.drew ?_ | with_reducible refine Ext.drewN ?_ _ | with_reducible refine Ext.setCell ?_ (by first | (simp; done) | omega | (dsimp only; omega)) _)⟩
  have h1 : ¬ dg A 9 < dg B 9 := by omega
  have h2 : ¬ dg B 9 < dg A 9 := by omega
  have H' : Hid (A / 65536 ^ 9 = B / 65536 ^ 9) := div_eq 9 H.out h
  clear H h
  have H := H'
  clear H'
  go_wp2
  go_quiet (fail)
  go_wp2
  go_quiet (fail)
  go_wp2
  clear h1 h2
  rw [rounds_succ]
  rcases Int.lt_trichotomy (dg A 8) (dg B 8) with h | h | h
  · go_wp2
    go_quiet (fail)
    go_wp2
    go_ret
    exact ⟨by rw [lt.out (div_lt 8 H.out h)]; rfl, by repeat (first | with_reducible exact EX | with_reducible refine Ext.alloc ?_ _ | with_reducible refine Ext.drew ?_ | with_reducible refine Ext.drewN ?_ _ | with_reducible refine Ext.setCell ?_ (by first | (simp; done) | omega | (dsimp only; omega)) _)⟩
  rotate_left
  · have h1 : ¬ dg A 8 < dg B 8 := by omega
    go_wp2
    go_quiet (fail)
    go_wp2
    go_quiet (fail)
    go_wp2
    go_ret
    exact ⟨by rw [gt.out (div_lt 8 H.out.symm h)]; rfl, by repeat (first | with_reducible exact EX | with_reducible refine Ext.alloc ?_ _ | with_reducible refine Ext.drew ?_ | with_reducible refine Ext.drewN ?_ _ | with_reducible refine Ext.setCell ?_ (by first | (simp; done) | omega | (dsimp only; omega)) _)⟩
  have h1 : ¬ dg A 8 < dg B 8 := by omega
  have h2 : ¬ dg B 8 < dg A 8 := by omega
  have H' : Hid (A / 65536 ^ 8 = B / 65536 ^ 8) := div_eq 8 H.out h
  clear H h
  have H := H'
  clear H'
  go_wp2
  go_quiet (fail)
  go_wp2
  go_quiet (fail)
  go_wp2
  clear h1 h2
  rw [rounds_succ]
  rcases Int.lt_trichotomy (dg A 7) (dg B 7) with h | h | h
  · go_wp2
    go_quiet (fail)
    go_wp2
    go_ret
    exact ⟨by rw [lt.out (div_lt 7 H.out h)]; rfl, by repeat (first | with_reducible exact EX | with_reducible refine Ext.alloc ?_ _ | with_reducible refine Ext.drew ?_ | with_reducible refine Ext.drewN ?_ _ | with_reducible refine Ext.setCell ?_ (by first | (simp; done) | omega | (dsimp only; omega)) _)⟩
  rotate_left
  · have h1 : ¬ dg A 7 < dg B 7 := by omega
    go_wp2
    go_quiet (fail)
    go_wp2
    go_quiet (fail)
    go_wp2
    go_ret
    exact ⟨by rw [gt.out (div_lt 7 H.out.symm h)]; rfl, by repeat (first | with_reducible exact EX | with_reducible refine Ext.alloc ?_ _ | with_reducible refine Ext.drew ?_ | with_reducible refine Ext.drewN ?_ _ | with_reducible refine Ext.setCell ?_ (by first | (simp; done) | omega | (dsimp only; omega)) _)⟩
  have h1 : ¬ dg A 7 < dg B 7 := by omega
  have h2 : ¬ dg B 7 < dg A 7 := by omega
  have H' : Hid (A / 65536 ^ 7 = B / 65536 ^ 7) := div_eq 7 H.out h
  clear H h
  have H := H'
  clear H'
  go_wp2
  go_quiet (fail)
  go_wp2
  go_quiet (fail)
  go_wp2
  clear h1 h2
  rw [rounds_succ]
  rcases Int.lt_trichotomy (dg A 6) (dg B 6) with h | h | h
  · go_wp2
    go_quiet (fail)
    go_wp2
    go_ret
    exact ⟨by rw [lt.out (div_lt 6 H.out h)]; rfl, by repeat (first | with_reducible exact EX | with_reducible refine Ext.alloc ?_ _ | with_reducible refine Ext.drew ?_ | with_reducible refine Ext.drewN ?_ _ | with_reducible refine Ext.setCell ?_ (by first | (simp; done) | omega | (dsimp only; omega)) _)⟩
  rotate_left
  · have h1 : ¬ dg A 6 < dg B 6 := by omega
    go_wp2
    go_quiet (fail)
    go_wp2
    go_quiet (fail)
    go_wp2
    go_ret
    exact ⟨by rw [gt.out (div_lt 6 H.out.symm h)]; rfl, by repeat (first | with_reducible exact EX | with_reducible refine Ext.alloc ?_ _ | with_reducible refine Ext.drew ?_ | with_reducible refine Ext.drewN ?_ _ | with_reducible refine Ext.setCell ?_ (by first | (simp; done) | omega | (dsimp only; omega)) _)⟩
  have h1 : ¬ dg A 6 < dg B 6 := by omega
  have h2 : ¬ dg B 6 < dg A 6 := by omega
  have H' : Hid (A / 65536 ^ 6 = B / 65536 ^ 6) := div_eq 6 H.out h
  clear H h
  have H := H'
  clear H'
  go_wp2
  go_quiet (fail)
  go_wp2
  go_quiet (fail)
  go_wp2
  clear h1 h2
  rw [rounds_succ]
  rcases Int.lt_trichotomy (dg A 5) (dg B 5) with h | h | h
  · go_wp2
    go_quiet (fail)
    go_wp2
    go_ret
    exact ⟨by rw [lt.out (div_lt 5 H.out h)]; rfl, by repeat (first | with_reducible exact EX | with_reducible refine Ext.alloc ?_ _ | with_reducible refine Ext.drew ?_ | with_reducible refine Ext.drewN ?_ _ | with_reducible refine Ext.setCell ?_ (by first | (simp; done) | omega | (dsimp only; omega)) _)⟩
  rotate_left
  · have h1 : ¬ dg A 5 < dg B 5 := by omega
    go_wp2
    go_quiet (fail)
    go_wp2
    go_quiet (fail)
    go_wp2
    go_ret
    exact ⟨by rw [gt.out (div_lt 5 H.out.symm h)]; rfl, by repeat (first | with_reducible exact EX | with_reducible refine Ext.alloc ?_ _ | with_reducible refine Ext.drew ?_ | with_reducible refine Ext.drewN ?_ _ | with_reducible refine Ext.setCell ?_ (by first | (simp; done) | omega | (dsimp only; omega)) _)⟩
  have h1 : ¬ dg A 5 < dg B 5 := by omega
  have h2 : ¬ dg B 5 < dg A 5 := by omega
  have H' : Hid (A / 65536 ^ 5 = B / 65536 ^ 5) := div_eq 5 H.out h
  clear H h
  have H := H'
  clear H'
  go_wp2
  go_quiet (fail)
  go_wp2
  go_quiet (fail)
  go_wp2
  clear h1 h2
  rw [rounds_succ]
  rcases Int.lt_trichotomy (dg A 4) (dg B 4) with h | h | h
  · go_wp2
    go_quiet (fail)
    go_wp2
    go_ret
    exact ⟨by rw [lt.out (div_lt 4 H.out h)]; rfl, by repeat (first | with_reducible exact EX | with_reducible refine Ext.alloc ?_ _ | with_reducible refine Ext.drew ?_ | with_reducible refine Ext.drewN ?_ _ | with_reducible refine Ext.setCell ?_ (by first | (simp; done) | omega | (dsimp only; omega)) _)⟩
  rotate_left
  · have h1 : ¬ dg A 4 < dg B 4 := by omega
    go_wp2
    go_quiet (fail)
    go_wp2
    go_quiet (fail)
    go_wp2
    go_ret
    exact ⟨by rw [gt.out (div_lt 4 H.out.symm h)]; rfl, by repeat (first | with_reducible exact EX | with_reducible refine Ext.alloc ?_ _ | with_reducible refine Ext.drew ?_ | with_reducible refine Ext.drewN ?_ _ | with_reducible refine Ext.setCell ?_ (by first | (simp; done) | omega | (dsimp only; omega)) _)⟩
  have h1 : ¬ dg A 4 < dg B 4 := by omega
  have h2 : ¬ dg B 4 < dg A 4 := by omega
  have H' : Hid (A / 65536 ^ 4 = B / 65536 ^ 4) := div_eq 4 H.out h
  clear H h
  have H := H'
  clear H'
  go_wp2
  go_quiet (fail)
  go_wp2
  go_quiet (fail)
  go_wp2
  clear h1 h2
  rw [rounds_succ]
  rcases Int.lt_trichotomy (dg A 3) (dg B 3) with h | h | h
  · go_wp2
    go_quiet (fail)
    go_wp2
    go_ret
    exact ⟨by rw [lt.out (div_lt 3 H.out h)]; rfl, by repeat (first | with_reducible exact EX | with_reducible refine Ext.alloc ?_ _ | with_reducible refine Ext.drew ?_ | with_reducible refine Ext.drewN ?_ _ | with_reducible refine Ext.setCell ?_ (by first | (simp; done) | omega | (dsimp only; omega)) _)⟩
  rotate_left
  · have h1 : ¬ dg A 3 < dg B 3 := by omega
    go_wp2
    go_quiet (fail)
    go_wp2
    go_quiet (fail)
    go_wp2
    go_ret
    exact ⟨by rw [gt.out (div_lt 3 H.out.symm h)]; rfl, by repeat (first | with_reducible exact EX | with_reducible refine Ext.alloc ?_ _ | with_reducible refine Ext.drew ?_ | with_reducible refine Ext.drewN ?_ _ | with_reducible refine Ext.setCell ?_ (by first | (simp; done) | omega | (dsimp only; omega)) _)⟩
  have h1 : ¬ dg A 3 < dg B 3 := by omega
  have h2 : ¬ dg B 3 < dg A 3 := by omega
  have H' : Hid (A / 65536 ^ 3 = B / 65536 ^ 3) := div_eq 3 H.out h
  clear H h
  have H := H'
  clear H'
  go_wp2
  go_quiet (fail)
  go_wp2
  go_quiet (fail)
  go_wp2
  clear h1 h2
  rw [rounds_succ]
  rcases Int.lt_trichotomy (dg A 2) (dg B 2) with h | h | h
  · go_wp2
    go_quiet (fail)
    go_wp2
    go_ret
    exact ⟨by rw [lt.out (div_lt 2 H.out h)]; rfl, by repeat (first | with_reducible exact EX | with_reducible refine Ext.alloc ?_ _ | with_reducible refine Ext.drew ?_ | with_reducible refine Ext.drewN ?_ _ | with_reducible refine Ext.setCell ?_ (by first | (simp; done) | omega | (dsimp only; omega)) _)⟩
  rotate_left
  · have h1 : ¬ dg A 2 < dg B 2 := by omega
    go_wp2
    go_quiet (fail)
    go_wp2
    go_quiet (fail)
    go_wp2
    go_ret
    exact ⟨by rw [gt.out (div_lt 2 H.out.symm h)]; rfl, by repeat (first | with_reducible exact EX | with_reducible refine Ext.alloc ?_ _ | with_reducible refine Ext.drew ?_ | with_reducible refine Ext.drewN ?_ _ | with_reducible refine Ext.setCell ?_ (by first | (simp; done) | omega | (dsimp only; omega)) _)⟩
  have h1 : ¬ dg A 2 < dg B 2 := by omega
  have h2 : ¬ dg B 2 < dg A 2 := by omega
  have H' : Hid (A / 65536 ^ 2 = B / 65536 ^ 2) := div_eq 2 H.out h
  clear H h
  have H := H'
  clear H'
  go_wp2
  go_quiet (fail)
  go_wp2
  go_quiet (fail)
  go_wp2
  clear h1 h2
  rw [rounds_succ]
  rcases Int.lt_trichotomy (dg A 1) (dg B 1) with h | h | h
  · go_wp2
    go_quiet (fail)
    go_wp2
    go_ret
    exact ⟨by rw [lt.out (div_lt 1 H.out h)]; rfl, by repeat (first | with_reducible exact EX | with_reducible refine Ext.alloc ?_ _ | with_reducible refine Ext.drew ?_ | with_reducible refine Ext.drewN ?_ _ | with_reducible refine Ext.setCell ?_ (by first | (simp; done) | omega | (dsimp only; omega)) _)⟩
  rotate_left
  · have h1 : ¬ dg A 1 < dg B 1 := by omega
    go_wp2
    go_quiet (fail)
    go_wp2
    go_quiet (fail)
    go_wp2
    go_ret
    exact ⟨by rw [gt.out (div_lt 1 H.out.symm h)]; rfl, by repeat (first | with_reducible exact EX | with_reducible refine Ext.alloc ?_ _ | with_reducible refine Ext.drew ?_ | with_reducible refine Ext.drewN ?_ _ | with_reducible refine Ext.setCell ?_ (by first | (simp; done) | omega | (dsimp only; omega)) _)⟩
  have h1 : ¬ dg A 1 < dg B 1 := by omega
  have h2 : ¬ dg B 1 < dg A 1 := by omega
  have H' : Hid (A / 65536 ^ 1 = B / 65536 ^ 1) := div_eq 1 H.out h
  clear H h
  have H := H'
  clear H'
  go_wp2
  go_quiet (fail)
  go_wp2
  go_quiet (fail)
  go_wp2
  clear h1 h2
  rw [rounds_succ]
  rcases Int.lt_trichotomy (dg A 0) (dg B 0) with h | h | h
  · go_wp2
    go_quiet (fail)
    go_wp2
    go_ret
    exact ⟨by rw [lt.out (div_lt 0 H.out h)]; rfl, by repeat (first | with_reducible exact EX | with_reducible refine Ext.alloc ?_ _ | with_reducible refine Ext.drew ?_ | with_reducible refine Ext.drewN ?_ _ | with_reducible refine Ext.setCell ?_ (by first | (simp; done) | omega | (dsimp only; omega)) _)⟩
  rotate_left
  · have h1 : ¬ dg A 0 < dg B 0 := by omega
    go_wp2
    go_quiet (fail)
    go_wp2
    go_quiet (fail)
    go_wp2
    go_ret
    exact ⟨by rw [gt.out (div_lt 0 H.out.symm h)]; rfl, by repeat (first | with_reducible exact EX | with_reducible refine Ext.alloc ?_ _ | with_reducible refine Ext.drew ?_ | with_reducible refine Ext.drewN ?_ _ | with_reducible refine Ext.setCell ?_ (by first | (simp; done) | omega | (dsimp only; omega)) _)⟩
  have h1 : ¬ dg A 0 < dg B 0 := by omega
  have h2 : ¬ dg B 0 < dg A 0 := by omega
  have H' : Hid (A / 65536 ^ 0 = B / 65536 ^ 0) := div_eq 0 H.out h
  clear H h
  have H := H'
  clear H'
  go_wp2
  go_quiet (fail)
  go_wp2
  go_quiet (fail)
  go_wp2
  clear h1 h2
  rw [rounds_succ]
  go_wp2
  go_ret
  exact ⟨by rw [eq.out (by have := H.out; simpa using this)]; rfl, by repeat (first | with_reducible exact EX | with_reducible refine Ext.alloc ?_ _ | with_reducible refine Ext.drew ?_ | with_reducible refine Ext.drewN ?_ _ | with_reducible refine Ext.setCell ?_ (by first | (simp; done) | omega | (dsimp only; omega)) _)⟩
end Go.Proofs.Ythfgeopldbcniaa

namespace Go.Proofs.Ythfgeopldbcniaa
open Go.RowKit Go.BigFrame
set_option linter.unusedSimpArgs false
set_option linter.unusedVariables false

/-- Twelve cells hold the integers f 0 .. f 11. -/
theorem dig_new (w : World) (f : Nat → Int) (t : TypeId) {b : Nat} (hb : w.heap.size = b) : ∀ i, i < 12 → (w.alloc (.cells #[.int .i64 (f 0), .int .i64 (f 1), .int .i64 (f 2), .int .i64 (f 3), .int .i64 (f 4), .int .i64 (f 5), .int .i64 (f 6), .int .i64 (f 7), .int .i64 (f 8), .int .i64 (f 9), .int .i64 (f 10), .int .i64 (f 11)] t)).cell? ⟨b, i, none⟩ = some (.int .i64 (f i)) := by
  subst hb
  intro i hi
  rw [World.cell?_alloc_new w _ t i]
  match i, hi with
  | 0, _ => rfl | 1, _ => rfl | 2, _ => rfl | 3, _ => rfl | 4, _ => rfl | 5, _ => rfl | 6, _ => rfl | 7, _ => rfl | 8, _ => rfl | 9, _ => rfl | 10, _ => rfl | 11, _ => rfl
theorem dig_later {w w' : World} (h : Ext w w') {b : Nat} {f : Nat → Int} (c : ∀ i, i < 12 → w.cell? ⟨b, i, none⟩ = some (.int .i64 (f i))) : ∀ i, i < 12 → w'.cell? ⟨b, i, none⟩ = some (.int .i64 (f i)) :=
  fun i hi => Ext.later h (c i hi)
theorem dig_set {v : World} {b : Nat} {f : Nat → Int} (c : ∀ i, i < 12 → v.cell? ⟨b, i, none⟩ = some (.int .i64 (f i))) (k : Nat) (x : Int) : ∀ i, i < 12 → (v.setCell ⟨b, k, none⟩ (.int .i64 x)).cell? ⟨b, i, none⟩ = some (.int .i64 (upd f k x i)) := by
  intro i hi
  unfold upd
  by_cases h : i = k
  · subst h; rw [if_pos rfl]; exact cell_same (There.of (c i hi))
  · rw [if_neg h]; exact cell_skip (.inr (by omega)) (c i hi)
theorem dig_skip {v : World} {b b' o' : Nat} {f : Nat → Int} {x : Value} (hne : b' ≠ b) (c : ∀ i, i < 12 → v.cell? ⟨b, i, none⟩ = some (.int .i64 (f i))) : ∀ i, i < 12 → (v.setCell ⟨b', o', none⟩ x).cell? ⟨b, i, none⟩ = some (.int .i64 (f i)) :=
  fun i hi => cell_skip (.inl hne) (c i hi)
theorem dig_drew {v : World} {b : Nat} {f : Nat → Int} (c : ∀ i, i < 12 → v.cell? ⟨b, i, none⟩ = some (.int .i64 (f i))) : ∀ i, i < 12 → v.drew.cell? ⟨b, i, none⟩ = some (.int .i64 (f i)) := c
theorem dig_eq {v : World} {b : Nat} {f g : Nat → Int} (c : ∀ i, i < 12 → v.cell? ⟨b, i, none⟩ = some (.int .i64 (f i))) (h : ∀ i, i < 12 → f i = g i) : ∀ i, i < 12 → v.cell? ⟨b, i, none⟩ = some (.int .i64 (g i)) :=
  fun i hi => by rw [c i hi, h i hi]
theorem thaw_later {w w' : World} (h : Ext w w') {b : Nat} {f : Nat → Int} (c : ∀ i, i < 12 → w.cell? ⟨b, i, none⟩ = some (.int .i64 (f i))) (z : ∀ i, i < 12 → w.frozen? ⟨b, i, none⟩ = false) : ∀ i, i < 12 → w'.frozen? ⟨b, i, none⟩ = false :=
  fun i hi => Ext.thaw h (c i hi) (z i hi)
theorem thaw_set {v : World} {b b' o' : Nat} {x : Value} (z : ∀ i, i < 12 → v.frozen? ⟨b, i, none⟩ = false) : ∀ i, i < 12 → (v.setCell ⟨b', o', none⟩ x).frozen? ⟨b, i, none⟩ = false :=
  fun i hi => by have := z i hi; go_simp
theorem thaw_drew {v : World} {b : Nat} (z : ∀ i, i < 12 → v.frozen? ⟨b, i, none⟩ = false) : ∀ i, i < 12 → v.drew.frozen? ⟨b, i, none⟩ = false := z
/-- Borrows: the carries of the sum of what is left and what was taken away. -/
theorem bw_rem (A B : Int) (i : Nat) : dg A i - cy (A - B) B i - dg B i = dg (A - B) i - 65536 * cy (A - B) B (i + 1) := by
  have := dg_add (A - B) B i
  rw [Int.sub_add_cancel] at this
  omega
theorem bw_0 (A B : Int) : cy (A - B) B 0 = 0 := by unfold cy; simp
theorem bw_12 {A B : Int} (hB : 0 ≤ B) (hAB : B ≤ A) (hA : InD A) : cy (A - B) B 12 = 0 := by
  have h := hA.2
  unfold cy
  have e : (65536 : Int) ^ 12 = 6277101735386680763835789423207666416102355444464034512896 := by decide
  rw [e, Int.emod_eq_of_lt (by omega) (by omega), Int.emod_eq_of_lt (by omega) (by omega)]
  exact Int.ediv_eq_zero_of_lt (by omega) (by omega)
/-- The digits ahead of round k. -/
def lessAt (A B : Int) (k i : Nat) : Int := if i < k then dg (A - B) i else if i = k then dg A k - cy (A - B) B k else dg A i
theorem lessAt_no {A B : Int} {k : Nat} (h : cy (A - B) B (k + 1) = 0) (i : Nat) : upd (lessAt A B k) k (dg A k - cy (A - B) B k - dg B k) i = lessAt A B (k + 1) i := by
  have e := bw_rem A B k
  unfold upd lessAt
  by_cases h1 : i = k
  · rw [if_pos h1, if_pos (by omega), h1]; omega
  · rw [if_neg h1]
    by_cases h2 : i < k
    · rw [if_pos h2, if_pos (by omega)]
    · rw [if_neg h2, if_neg h1, if_neg (by omega)]
      by_cases h3 : i = k + 1
      · rw [if_pos h3, h3, h]; omega
      · rw [if_neg h3]
theorem lessAt_yes {A B : Int} {k : Nat} (h : cy (A - B) B (k + 1) = 1) (i : Nat) : upd (upd (upd (lessAt A B k) k (dg A k - cy (A - B) B k - dg B k)) k (dg A k - cy (A - B) B k - dg B k + 65536)) (k + 1) (dg A (k + 1) - 1) i = lessAt A B (k + 1) i := by
  have e := bw_rem A B k
  unfold upd lessAt
  by_cases h3 : i = k + 1
  · rw [if_pos h3, if_neg (by omega), if_pos h3, h]
  · rw [if_neg h3]
    by_cases h1 : i = k
    · rw [if_pos h1, if_pos (by omega), h1]; omega
    · rw [if_neg h1, if_neg h1]
      by_cases h2 : i < k
      · rw [if_pos h2, if_pos (by omega)]
      · rw [if_neg h2, if_neg h1, if_neg (by omega), if_neg h3]
set_option maxHeartbeats 8000000 in
theorem less_any (A B : Int) (hB : 0 ≤ B) (hAB : B ≤ A) (hA : InD A) (w : World) : Calls Try.prog 60 #[(.agg #[.int .i64 (dg (A) 0), .int .i64 (dg (A) 1), .int .i64 (dg (A) 2), .int .i64 (dg (A) 3), .int .i64 (dg (A) 4), .int .i64 (dg (A) 5), .int .i64 (dg (A) 6), .int .i64 (dg (A) 7), .int .i64 (dg (A) 8), .int .i64 (dg (A) 9), .int .i64 (dg (A) 10), .int .i64 (dg (A) 11)]), (.agg #[.int .i64 (dg (B) 0), .int .i64 (dg (B) 1), .int .i64 (dg (B) 2), .int .i64 (dg (B) 3), .int .i64 (dg (B) 4), .int .i64 (dg (B) 5), .int .i64 (dg (B) 6), .int .i64 (dg (B) 7), .int .i64 (dg (B) 8), .int .i64 (dg (B) 9), .int .i64 (dg (B) 10), .int .i64 (dg (B) 11)])] w fun e w' => e = .returned (.agg #[.int .i64 (dg (A - B) 0), .int .i64 (dg (A - B) 1), .int .i64 (dg (A - B) 2), .int .i64 (dg (A - B) 3), .int .i64 (dg (A - B) 4), .int .i64 (dg (A - B) 5), .int .i64 (dg (A - B) 6), .int .i64 (dg (A - B) 7), .int .i64 (dg (A - B) 8), .int .i64 (dg (A - B) 9), .int .i64 (dg (A - B) 10), .int .i64 (dg (A - B) 11)]) ∧ Ext w w' := by
  have T : Hid (cy (A - B) B 12 = 0) := bw_12 hB hAB hA
  clear hB hAB hA
  have EX := Ext.refl w
  go_enter Try.func60, Try.ntmps60
  go_wp2
  go_loopg [5] 12 (fun gk i wr => ∃ k : Nat, k + gk = 12 ∧ i = .int .i64 k ∧ Ext w wr ∧ w.heap.size + 1 + 1 < wr.heap.size ∧ (∀ i, i < 12 → wr.cell? ⟨w.heap.size, i, none⟩ = some (.int .i64 (lessAt A B k i))) ∧ (∀ i, i < 12 → wr.frozen? ⟨w.heap.size, i, none⟩ = false) ∧
    (∀ i, i < 12 → wr.cell? ⟨w.heap.size + 1, i, none⟩ = some (.int .i64 (dg B i))) ∧ (∀ i, i < 12 → wr.cell? ⟨w.heap.size + 1 + 1, i, none⟩ = some (.int .i64 0)) ∧ (∀ i, i < 12 → wr.frozen? ⟨w.heap.size + 1 + 1, i, none⟩ = false))
  case atStart =>
    refine ⟨0, rfl, rfl, by repeat (first | with_reducible exact EX | with_reducible refine Ext.alloc ?_ _ | with_reducible refine Ext.drew ?_ | with_reducible refine Ext.drewN ?_ _ | with_reducible refine Ext.setCell ?_ (by first | (simp; done) | omega | (dsimp only; omega)) _), by simp, ?_, ?_, ?_, ?_, ?_⟩
    · intro i hi
      rw [show lessAt A B 0 i = dg A i by unfold lessAt; rw [bw_0]; split <;> (try split) <;> (try subst i) <;> first | omega | rfl]
      exact old1 (old1 (dig_new w (dg A) _ rfl i hi))
    · intro i hi; go_simp
    · intro i hi
      exact old1 (dig_new (w.alloc _) (dg B) _ (by simp) i hi)
    · intro i hi
      exact dig_new ((w.alloc _).alloc _) (fun _ => 0) _ (by simp) i hi
    · intro i hi; go_simp
  case round =>
    obtain ⟨k, hk, rfl, EX, l2, c0, z0, c1, c2, z2⟩ := hrel
    by_cases hlt : k < 12
    · have u0 := dg_0 A k; have u1 := dg_1 A k; have v0 := dg_0 B k; have v1 := dg_1 B k; have b0 := cy_0 (A - B) B k; have b1 := cy_1 (A - B) B k
      have e1 := bw_rem A B k; have d0 := dg_0 (A - B) k; have d1 := dg_1 (A - B) k; have b2 := cy_0 (A - B) B (k + 1); have b3 := cy_1 (A - B) B (k + 1)
      have ck := c0 k hlt
      rw [show lessAt A B k k = dg A k - cy (A - B) B k by unfold lessAt; rw [if_neg (by omega), if_pos rfl]] at ck
      have cb := c1 k hlt
      have zk := z0 k hlt
      have H : Hid ((∀ i, i < 12 → wr.cell? ⟨w.heap.size, i, none⟩ = some (.int .i64 (lessAt A B k i))) ∧ (∀ i, i < 12 → wr.frozen? ⟨w.heap.size, i, none⟩ = false) ∧
        (∀ i, i < 12 → wr.cell? ⟨w.heap.size + 1, i, none⟩ = some (.int .i64 (dg B i))) ∧ (∀ i, i < 12 → wr.cell? ⟨w.heap.size + 1 + 1, i, none⟩ = some (.int .i64 0)) ∧ (∀ i, i < 12 → wr.frozen? ⟨w.heap.size + 1 + 1, i, none⟩ = false)) := ⟨c0, z0, c1, c2, z2⟩
      have E1 : Hid (dg A k - cy (A - B) B k - dg B k = dg (A - B) k - 65536 * cy (A - B) B (k + 1)) := e1
      rcases (show cy (A - B) B (k + 1) = 0 ∨ cy (A - B) B (k + 1) = 1 by omega) with hb | hb
      · have hn : ¬ dg A k - cy (A - B) B k - dg B k < 0 := by omega
        have HB : Hid (cy (A - B) B (k + 1) = 0) := hb
        clear b2 b3 hb c0 z0 c1 c2 z2 e1
        go_wp2
        go_region
        go_wp2
        go_roundg (gk - 1)
        case measure => omega
        case rel =>
          go_light
          obtain ⟨c0, z0, c1, c2, z2⟩ := H.out
          refine ⟨k + 1, by omega, by go_num, by repeat (first | with_reducible exact EX | with_reducible refine Ext.alloc ?_ _ | with_reducible refine Ext.drew ?_ | with_reducible refine Ext.drewN ?_ _ | with_reducible refine Ext.setCell ?_ (by first | (simp; done) | omega | (dsimp only; omega)) _), by simp; omega, ?_, ?_, ?_, ?_, ?_⟩
          · refine dig_eq ?_ (fun i _ => lessAt_no HB.out i)
            repeat (first | with_reducible exact c0 | with_reducible refine dig_drew ?_ | with_reducible refine dig_set ?_ _ _)
          · repeat (first | with_reducible exact z0 | with_reducible refine thaw_drew ?_ | with_reducible refine thaw_set ?_)
          · repeat (first | with_reducible exact c1 | with_reducible refine dig_drew ?_ | with_reducible refine dig_skip (by omega) ?_)
          · repeat (first | with_reducible exact c2 | with_reducible refine dig_drew ?_ | with_reducible refine dig_skip (by omega) ?_)
          · repeat (first | with_reducible exact z2 | with_reducible refine thaw_drew ?_ | with_reducible refine thaw_set ?_)
      · have hn : dg A k - cy (A - B) B k - dg B k < 0 := by omega
        have h11 : k + 1 < 12 := by
          rcases Nat.lt_or_ge (k + 1) 12 with h | h
          · exact h
          · have e : k + 1 = 12 := by omega
            rw [e, T.out] at hb; omega
        have cn := c0 (k + 1) h11
        rw [show lessAt A B k (k + 1) = dg A (k + 1) by unfold lessAt; rw [if_neg (by omega), if_neg (by omega)]] at cn
        have zn := z0 (k + 1) h11
        have x0 := dg_0 A (k + 1); have x1 := dg_1 A (k + 1)
        have HB : Hid (cy (A - B) B (k + 1) = 1) := hb
        clear b2 b3 hb c0 z0 c1 c2 z2 e1
        go_wp2
        go_region
        go_wp2
        go_roundg (gk - 1)
        case measure => omega
        case rel =>
          go_light
          obtain ⟨c0, z0, c1, c2, z2⟩ := H.out
          refine ⟨k + 1, by omega, by go_num, by repeat (first | with_reducible exact EX | with_reducible refine Ext.alloc ?_ _ | with_reducible refine Ext.drew ?_ | with_reducible refine Ext.drewN ?_ _ | with_reducible refine Ext.setCell ?_ (by first | (simp; done) | omega | (dsimp only; omega)) _), by simp; omega, ?_, ?_, ?_, ?_, ?_⟩
          · refine dig_eq ?_ (fun i _ => lessAt_yes HB.out i)
            repeat (first | with_reducible exact c0 | with_reducible refine dig_drew ?_ | with_reducible refine dig_set ?_ _ _)
          · repeat (first | with_reducible exact z0 | with_reducible refine thaw_drew ?_ | with_reducible refine thaw_set ?_)
          · repeat (first | with_reducible exact c1 | with_reducible refine dig_drew ?_ | with_reducible refine dig_skip (by omega) ?_)
          · repeat (first | with_reducible exact c2 | with_reducible refine dig_drew ?_ | with_reducible refine dig_skip (by omega) ?_)
          · repeat (first | with_reducible exact z2 | with_reducible refine thaw_drew ?_ | with_reducible refine thaw_set ?_)
    · obtain rfl : k = 12 := by omega
      have e12 : ∀ i, i < 12 → lessAt A B 12 i = dg (A - B) i := fun i hi => by unfold lessAt; rw [if_pos hi]
      replace c0 := dig_eq c0 e12
      clear T e12
      go_wp2
      refine bodyPost_ret (by simp only [results, Try.results60]; simp [go_sem, *]; try rfl) rfl ⟨rfl, ?_⟩
      repeat (first | with_reducible exact EX | with_reducible refine Ext.alloc ?_ _ | with_reducible refine Ext.drew ?_ | with_reducible refine Ext.drewN ?_ _ | with_reducible refine Ext.setCell ?_ (by first | (simp; done) | omega | (dsimp only; omega)) _)
end Go.Proofs.Ythfgeopldbcniaa

namespace Go.Proofs.Ythfgeopldbcniaa
open Go.RowKit Go.BigFrame
set_option linter.unusedSimpArgs false
set_option linter.unusedVariables false

/-- Thirteen cells: a sign, and the integers f 0 .. f 11. -/
theorem num_new (w : World) (s : Bool) (f : Nat → Int) (t : TypeId) {b : Nat} (hb : w.heap.size = b) : (w.alloc (.cells #[.bool s, .int .i64 (f 0), .int .i64 (f 1), .int .i64 (f 2), .int .i64 (f 3), .int .i64 (f 4), .int .i64 (f 5), .int .i64 (f 6), .int .i64 (f 7), .int .i64 (f 8), .int .i64 (f 9), .int .i64 (f 10), .int .i64 (f 11)] t)).cell? ⟨b, 0, none⟩ = some (.bool s) ∧
    ∀ i, i < 12 → (w.alloc (.cells #[.bool s, .int .i64 (f 0), .int .i64 (f 1), .int .i64 (f 2), .int .i64 (f 3), .int .i64 (f 4), .int .i64 (f 5), .int .i64 (f 6), .int .i64 (f 7), .int .i64 (f 8), .int .i64 (f 9), .int .i64 (f 10), .int .i64 (f 11)] t)).cell? ⟨b, i + 1, none⟩ = some (.int .i64 (f i)) := by
  subst hb
  refine ⟨new1 rfl, ?_⟩
  intro i hi
  rw [World.cell?_alloc_new w _ t (i + 1)]
  match i, hi with
  | 0, _ => rfl | 1, _ => rfl | 2, _ => rfl | 3, _ => rfl | 4, _ => rfl | 5, _ => rfl | 6, _ => rfl | 7, _ => rfl | 8, _ => rfl | 9, _ => rfl | 10, _ => rfl | 11, _ => rfl
theorem minus_any (s : Bool) (X : Int) (w : World) : Calls Try.prog 39 #[(.agg #[.bool (s), .int .i64 (dg (X) 0), .int .i64 (dg (X) 1), .int .i64 (dg (X) 2), .int .i64 (dg (X) 3), .int .i64 (dg (X) 4), .int .i64 (dg (X) 5), .int .i64 (dg (X) 6), .int .i64 (dg (X) 7), .int .i64 (dg (X) 8), .int .i64 (dg (X) 9), .int .i64 (dg (X) 10), .int .i64 (dg (X) 11)])] w fun e w' => e = .returned (.agg #[.bool (!s), .int .i64 (dg (X) 0), .int .i64 (dg (X) 1), .int .i64 (dg (X) 2), .int .i64 (dg (X) 3), .int .i64 (dg (X) 4), .int .i64 (dg (X) 5), .int .i64 (dg (X) 6), .int .i64 (dg (X) 7), .int .i64 (dg (X) 8), .int .i64 (dg (X) 9), .int .i64 (dg (X) 10), .int .i64 (dg (X) 11)]) ∧ Ext w w' := by
  have EX := Ext.refl w
  go_enter Try.func39, Try.ntmps39
  go_wp2
  refine bodyPost_ret (by simp only [results, Try.results39]; simp [go_sem]; try rfl) rfl ⟨rfl, ?_⟩
  repeat (first | with_reducible exact EX | with_reducible refine Ext.alloc ?_ _ | with_reducible refine Ext.drew ?_ | with_reducible refine Ext.drewN ?_ _ | with_reducible refine Ext.setCell ?_ (by first | (simp; done) | omega | (dsimp only; omega)) _)
/-- All digits are 0 just where the number is. -/
def isz (X : Int) : Bool := [dg X 0, dg X 1, dg X 2, dg X 3, dg X 4, dg X 5, dg X 6, dg X 7, dg X 8, dg X 9, dg X 10, dg X 11] == [0, 0, 0, 0, 0, 0, 0, 0, 0, 0, 0, 0]
theorem dg_of0 (i : Nat) : dg 0 i = 0 := by unfold dg; simp
theorem isz_eq {X : Int} (h : InD X) : isz X = decide (X = 0) := by
  unfold isz
  rw [Bool.eq_iff_iff]
  simp only [beq_iff_eq, List.cons.injEq, and_true, decide_eq_true_eq]
  constructor
  · rintro ⟨h0, h1, h2, h3, h4, h5, h6, h7, h8, h9, h10, h11⟩
    have e := div_top h
    have s0 := div_step X 0; have s1 := div_step X 1; have s2 := div_step X 2; have s3 := div_step X 3; have s4 := div_step X 4; have s5 := div_step X 5
    have s6 := div_step X 6; have s7 := div_step X 7; have s8 := div_step X 8; have s9 := div_step X 9; have s10 := div_step X 10; have s11 := div_step X 11
    simp only [Nat.reduceAdd] at *
    rw [Int.pow_zero, Int.ediv_one] at s0
    omega
  · rintro rfl
    simp [dg_of0]
@[go_sem] theorem eq_zeros (n : Nat) (X : Int) (w : World) : (Op.equalIn (n + 2) 64 (.agg #[.int .i64 (dg (X) 0), .int .i64 (dg (X) 1), .int .i64 (dg (X) 2), .int .i64 (dg (X) 3), .int .i64 (dg (X) 4), .int .i64 (dg (X) 5), .int .i64 (dg (X) 6), .int .i64 (dg (X) 7), .int .i64 (dg (X) 8), .int .i64 (dg (X) 9), .int .i64 (dg (X) 10), .int .i64 (dg (X) 11)]) (.agg #[.int .i64 0, .int .i64 0, .int .i64 0, .int .i64 0, .int .i64 0, .int .i64 0, .int .i64 0, .int .i64 0, .int .i64 0, .int .i64 0, .int .i64 0, .int .i64 0])).run Try.prog w = .ok (isz X) w := by
  have := eq_ints (P := Try.prog) (d := n) (t := 64) (e := 3) (k := .i64) (n := 12) (by kernel_rfl) (by kernel_rfl) (fun w => by go_simp) (fun w => by go_simp) [dg X 0, dg X 1, dg X 2, dg X 3, dg X 4, dg X 5, dg X 6, dg X 7, dg X 8, dg X 9, dg X 10, dg X 11] [0, 0, 0, 0, 0, 0, 0, 0, 0, 0, 0, 0] rfl rfl w
  simpa [isz] using this
theorem zero_any (s : Bool) (X : Int) (h : InD X) (w : World) : Calls Try.prog 62 #[(.agg #[.bool (s), .int .i64 (dg (X) 0), .int .i64 (dg (X) 1), .int .i64 (dg (X) 2), .int .i64 (dg (X) 3), .int .i64 (dg (X) 4), .int .i64 (dg (X) 5), .int .i64 (dg (X) 6), .int .i64 (dg (X) 7), .int .i64 (dg (X) 8), .int .i64 (dg (X) 9), .int .i64 (dg (X) 10), .int .i64 (dg (X) 11)])] w fun e w' => e = .returned (.bool (decide (X = 0))) ∧ Ext w w' := by
  rw [← isz_eq h]
  have EX := Ext.refl w
  go_enter Try.func62, Try.ntmps62
  go_wp2
  go_ret
  exact ⟨rfl, by repeat (first | with_reducible exact EX | with_reducible refine Ext.alloc ?_ _ | with_reducible refine Ext.drew ?_ | with_reducible refine Ext.drewN ?_ _ | with_reducible refine Ext.setCell ?_ (by first | (simp; done) | omega | (dsimp only; omega)) _)⟩
end Go.Proofs.Ythfgeopldbcniaa
