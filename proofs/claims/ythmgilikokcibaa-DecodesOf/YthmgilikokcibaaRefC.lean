/- What the given function gouacheref01.compare does, called at any two numbers' digits. -/
import Derived.Test.YthmgilikokcibaaRefA
import Derived.Test.YthmgilikokcibaaWideA
namespace Go.Proofs.Ythmgilikokcibaa
open Go.RowKit Go.BigFrame
set_option linter.unusedSimpArgs false
set_option linter.unusedVariables false

/-- A number of twelve digits. -/
def InD (X : Int) : Prop := 0 ≤ X ∧ X < 6277101735386680763835789423207666416102355444464034512896
theorem div_step (X : Int) (i : Nat) : X / 65536 ^ i = 65536 * (X / 65536 ^ (i + 1)) + dg X i := by
  have hp := pow_pos' i
  unfold dg
  rw [Int.pow_succ, ← Int.ediv_ediv_of_nonneg (by omega)]
  omega
theorem div_top {X : Int} (h : InD X) : X / 65536 ^ 12 = 0 := Int.ediv_eq_zero_of_lt h.1 (by have := h.2; simpa using this)
theorem div_lt {A B : Int} (i : Nat) (h : A / 65536 ^ (i + 1) = B / 65536 ^ (i + 1)) (hd : dg A i < dg B i) : A < B := by
  have e1 := div_step A i
  have e2 := div_step B i
  rw [h] at e1
  have hlt : A / 65536 ^ i < B / 65536 ^ i := by omega
  apply Classical.byContradiction
  intro hn
  have := Int.ediv_le_ediv (pow_pos' i) (Int.not_lt.1 hn)
  omega
theorem div_eq {A B : Int} (i : Nat) (h : A / 65536 ^ (i + 1) = B / 65536 ^ (i + 1)) (hd : dg A i = dg B i) : A / 65536 ^ i = B / 65536 ^ i := by
  rw [div_step A i, div_step B i, h, hd]
set_option maxHeartbeats 8000000 in
theorem compare_any (A B : Int) (hA : InD A) (hB : InD B) (w : World) : Calls Try.prog 48 #[(.agg #[.int .i64 (dg (A) 0), .int .i64 (dg (A) 1), .int .i64 (dg (A) 2), .int .i64 (dg (A) 3), .int .i64 (dg (A) 4), .int .i64 (dg (A) 5), .int .i64 (dg (A) 6), .int .i64 (dg (A) 7), .int .i64 (dg (A) 8), .int .i64 (dg (A) 9), .int .i64 (dg (A) 10), .int .i64 (dg (A) 11)]), (.agg #[.int .i64 (dg (B) 0), .int .i64 (dg (B) 1), .int .i64 (dg (B) 2), .int .i64 (dg (B) 3), .int .i64 (dg (B) 4), .int .i64 (dg (B) 5), .int .i64 (dg (B) 6), .int .i64 (dg (B) 7), .int .i64 (dg (B) 8), .int .i64 (dg (B) 9), .int .i64 (dg (B) 10), .int .i64 (dg (B) 11)])] w fun e w' => e = .returned (.int .i64 (sgn A B)) ∧ Ext w w' := by
  have H : Hid (A / 65536 ^ 12 = B / 65536 ^ 12) := by rw [div_top hA, div_top hB]; rfl
  have lt : Hid (A < B → sgn A B = -1) := fun h => by unfold sgn; rw [if_pos h]
  have gt : Hid (B < A → sgn A B = 1) := fun h => by unfold sgn; rw [if_neg (by omega), if_neg (by omega)]
  have eq : Hid (A = B → sgn A B = 0) := fun h => by unfold sgn; rw [if_neg (by omega), if_pos h]
  clear hA hB
  have EX := Ext.refl w
  go_enter Try.func48, Try.ntmps48
  go_wp2
  refine wp_loop_rounds 13 ?_
  rw [rounds_succ]
  rcases Int.lt_trichotomy (dg A 11) (dg B 11) with h | h | h
  · go_wp2
    go_quiet (fail)
    go_wp2
    go_ret
    exact ⟨by rw [lt.out (div_lt 11 H.out h)]; rfl, by repeat (first | with_reducible exact EX | with_reducible refine Ext.alloc ?_ _ | with_reducible refine Ext.drew ?_ | with_reducible refine Ext.drewN ?_ _ | with_reducible refine Ext.setCell ?_ (by first | (simp; done) | omega | (dsimp only; omega)) _)⟩
  rotate_left
  · have h1 : ¬ dg A 11 < dg B 11 := by omega
    go_wp2
    go_quiet (fail)
    go_wp2
    go_quiet (fail)
    go_wp2
    go_ret
    exact ⟨by rw [gt.out (div_lt 11 H.out.symm h)]; rfl, by repeat (first | with_reducible exact EX | with_reducible refine Ext.alloc ?_ _ | with_reducible refine Ext.drew ?_ | with_reducible refine Ext.drewN ?_ _ | with_reducible refine Ext.setCell ?_ (by first | (simp; done) | omega | (dsimp only; omega)) _)⟩
  have h1 : ¬ dg A 11 < dg B 11 := by omega
  have h2 : ¬ dg B 11 < dg A 11 := by omega
  have H' : Hid (A / 65536 ^ 11 = B / 65536 ^ 11) := div_eq 11 H.out h
  clear H h
  have H := H'
  clear H'
  go_wp2
  go_quiet (fail)
  go_wp2
  go_quiet (fail)
  go_wp2
  clear h1 h2
  rw [rounds_succ]
  rcases Int.lt_trichotomy (dg A 10) (dg B 10) with h | h | h
  · go_wp2
    go_quiet (fail)
    go_wp2
    go_ret
    exact ⟨by rw [lt.out (div_lt 10 H.out h)]; rfl, by repeat (first | with_reducible exact EX | with_reducible refine Ext.alloc ?_ _ | with_reducible refine Ext.drew ?_ | with_reducible refine Ext.drewN ?_ _ | with_reducible refine Ext.setCell ?_ (by first | (simp; done) | omega | (dsimp only; omega)) _)⟩
  rotate_left
  · have h1 : ¬ dg A 10 < dg B 10 := by omega
    go_wp2
    go_quiet (fail)
    go_wp2
    go_quiet (fail)
    go_wp2
    go_ret
    exact ⟨by rw [gt.out (div_lt 10 H.out.symm h)]; rfl, by repeat (first | with_reducible exact EX | with_reducible refine Ext.alloc ?_ _ | with_reducible refine Ext.drew ?_ | with_reducible refine Ext.drewN ?_ _ | with_reducible refine Ext.setCell ?_ (by first | (simp; done) | omega | (dsimp only; omega)) _)⟩
  have h1 : ¬ dg A 10 < dg B 10 := by omega
  have h2 : ¬ dg B 10 < dg A 10 := by omega
  have H' : Hid (A / 65536 ^ 10 = B / 65536 ^ 10) := div_eq 10 H.out h
  clear H h
  have H := H'
  clear H'
  go_wp2
  go_quiet (fail)
  go_wp2
  go_quiet (fail)
  go_wp2
  clear h1 h2
  rw [rounds_succ]
  rcases Int.lt_trichotomy (dg A 9) (dg B 9) with h | h | h
  · go_wp2
    go_quiet (fail)
    go_wp2
    go_ret
    exact ⟨by rw [lt.out (div_lt 9 H.out h)]; rfl, by repeat (first | with_reducible exact EX | with_reducible refine Ext.alloc ?_ _ | with_reducible refine Ext.drew ?_ | with_reducible refine Ext.drewN ?_ _ | with_reducible refine Ext.setCell ?_ (by first | (simp; done) | omega | (dsimp only; omega)) _)⟩
  rotate_left
  · have h1 : ¬ dg A 9 < dg B 9 := by omega
    go_wp2
    go_quiet (fail)
    go_wp2
    go_quiet (fail)
    go_wp2
    go_ret
    exact ⟨by rw [gt.out (div_lt 9 H.out.symm h)]; rfl, by repeat (first | with_reducible exact EX | with_reducible refine Ext.alloc ?_ _ | with_reducible refine Ext.drew ?_ | with_reducible refine Ext.drewN ?_ _ | with_reducible refine Ext.setCell ?_ (by first | (simp; done) | omega | (dsimp only; omega)) _)⟩
  have h1 : ¬ dg A 9 < dg B 9 := by omega
  have h2 : ¬ dg B 9 < dg A 9 := by omega
  have H' : Hid (A / 65536 ^ 9 = B / 65536 ^ 9) := div_eq 9 H.out h
  clear H h
  have H := H'
  clear H'
  go_wp2
  go_quiet (fail)
  go_wp2
  go_quiet (fail)
  go_wp2
  clear h1 h2
  rw [rounds_succ]
  rcases Int.lt_trichotomy (dg A 8) (dg B 8) with h | h | h
  · go_wp2
    go_quiet (fail)
    go_wp2
    go_ret
    exact ⟨by rw [lt.out (div_lt 8 H.out h)]; rfl, by repeat (first | with_reducible exact EX | with_reducible refine Ext.alloc ?_ _ | with_reducible refine Ext.drew ?_ | with_reducible refine Ext.drewN ?_ _ | with_reducible refine Ext.setCell ?_ (by first | (simp; done) | omega | (dsimp only; omega)) _)⟩
  rotate_left
  · have h1 : ¬ dg A 8 < dg B 8 := by omega
    go_wp2
    go_quiet (fail)
    go_wp2
    go_quiet (fail)
    go_wp2
    go_ret
    exact ⟨by rw [gt.out (div_lt 8 H.out.symm h)]; rfl, by repeat (first | with_reducible exact EX | with_reducible refine Ext.alloc ?_ _ | with_reducible refine Ext.drew ?_ | with_reducible refine Ext.drewN ?_ _ | with_reducible refine Ext.setCell ?_ (by first | (simp; done) | omega | (dsimp only; omega)) _)⟩
  have h1 : ¬ dg A 8 < dg B 8 := by omega
  have h2 : ¬ dg B 8 < dg A 8 := by omega
  have H' : Hid (A / 65536 ^ 8 = B / 65536 ^ 8) := div_eq 8 H.out h
  clear H h
  have H := H'
  clear H'
  go_wp2
  go_quiet (fail)
  go_wp2
  go_quiet (fail)
  go_wp2
  clear h1 h2
  rw [rounds_succ]
  rcases Int.lt_trichotomy (dg A 7) (dg B 7) with h | h | h
  · go_wp2
    go_quiet (fail)
    go_wp2
    go_ret
    exact ⟨by rw [lt.out (div_lt 7 H.out h)]; rfl, by repeat (first | with_reducible exact EX | with_reducible refine Ext.alloc ?_ _ | with_reducible refine Ext.drew ?_ | with_reducible refine Ext.drewN ?_ _ | with_reducible refine Ext.setCell ?_ (by first | (simp; done) | omega | (dsimp only; omega)) _)⟩
  rotate_left
  · have h1 : ¬ dg A 7 < dg B 7 := by omega
    go_wp2
    go_quiet (fail)
    go_wp2
    go_quiet (fail)
    go_wp2
    go_ret
    exact ⟨by rw [gt.out (div_lt 7 H.out.symm h)]; rfl, by repeat (first | with_reducible exact EX | with_reducible refine Ext.alloc ?_ _ | with_reducible refine Ext.drew ?_ | with_reducible refine Ext.drewN ?_ _ | with_reducible refine Ext.setCell ?_ (by first | (simp; done) | omega | (dsimp only; omega)) _)⟩
  have h1 : ¬ dg A 7 < dg B 7 := by omega
  have h2 : ¬ dg B 7 < dg A 7 := by omega
  have H' : Hid (A / 65536 ^ 7 = B / 65536 ^ 7) := div_eq 7 H.out h
  clear H h
  have H := H'
  clear H'
  go_wp2
  go_quiet (fail)
  go_wp2
  go_quiet (fail)
  go_wp2
  clear h1 h2
  rw [rounds_succ]
  rcases Int.lt_trichotomy (dg A 6) (dg B 6) with h | h | h
  · go_wp2
    go_quiet (fail)
    go_wp2
    go_ret
    exact ⟨by rw [lt.out (div_lt 6 H.out h)]; rfl, by repeat (first | with_reducible exact EX | with_reducible refine Ext.alloc ?_ _ | with_reducible refine Ext.drew ?_ | with_reducible refine Ext.drewN ?_ _ | with_reducible refine Ext.setCell ?_ (by first | (simp; done) | omega | (dsimp only; omega)) _)⟩
  rotate_left
  · have h1 : ¬ dg A 6 < dg B 6 := by omega
    go_wp2
    go_quiet (fail)
    go_wp2
    go_quiet (fail)
    go_wp2
    go_ret
    exact ⟨by rw [gt.out (div_lt 6 H.out.symm h)]; rfl, by repeat (first | with_reducible exact EX | with_reducible refine Ext.alloc ?_ _ | with_reducible refine Ext.drew ?_ | with_reducible refine Ext.drewN ?_ _ | with_reducible refine Ext.setCell ?_ (by first | (simp; done) | omega | (dsimp only; omega)) _)⟩
  have h1 : ¬ dg A 6 < dg B 6 := by omega
  have h2 : ¬ dg B 6 < dg A 6 := by omega
  have H' : Hid (A / 65536 ^ 6 = B / 65536 ^ 6) := div_eq 6 H.out h
  clear H h
  have H := H'
  clear H'
  go_wp2
  go_quiet (fail)
  go_wp2
  go_quiet (fail)
  go_wp2
  clear h1 h2
  rw [rounds_succ]
  rcases Int.lt_trichotomy (dg A 5) (dg B 5) with h | h | h
  · go_wp2
    go_quiet (fail)
    go_wp2
    go_ret
    exact ⟨by rw [lt.out (div_lt 5 H.out h)]; rfl, by repeat (first | with_reducible exact EX | with_reducible refine Ext.alloc ?_ _ | with_reducible refine Ext.drew ?_ | with_reducible refine Ext.drewN ?_ _ | with_reducible refine Ext.setCell ?_ (by first | (simp; done) | omega | (dsimp only; omega)) _)⟩
  rotate_left
  · have h1 : ¬ dg A 5 < dg B 5 := by omega
    go_wp2
    go_quiet (fail)
    go_wp2
    go_quiet (fail)
    go_wp2
    go_ret
    exact ⟨by rw [gt.out (div_lt 5 H.out.symm h)]; rfl, by repeat (first | with_reducible exact EX | with_reducible refine Ext.alloc ?_ _ | with_reducible refine Ext.drew ?_ | with_reducible refine Ext.drewN ?_ _ | with_reducible refine Ext.setCell ?_ (by first | (simp; done) | omega | (dsimp only; omega)) _)⟩
  have h1 : ¬ dg A 5 < dg B 5 := by omega
  have h2 : ¬ dg B 5 < dg A 5 := by omega
  have H' : Hid (A / 65536 ^ 5 = B / 65536 ^ 5) := div_eq 5 H.out h
  clear H h
  have H := H'
  clear H'
  go_wp2
  go_quiet (fail)
  go_wp2
  go_quiet (fail)
  go_wp2
  clear h1 h2
  rw [rounds_succ]
  rcases Int.lt_trichotomy (dg A 4) (dg B 4) with h | h | h
  · go_wp2
    go_quiet (fail)
    go_wp2
    go_ret
    exact ⟨by rw [lt.out (div_lt 4 H.out h)]; rfl, by repeat (first | with_reducible exact EX | with_reducible refine Ext.alloc ?_ _ | with_reducible refine Ext.drew ?_ | with_reducible refine Ext.drewN ?_ _ | with_reducible refine Ext.setCell ?_ (by first | (simp; done) | omega | (dsimp only; omega)) _)⟩
  rotate_left
  · have h1 : ¬ dg A 4 < dg B 4 := by omega
    go_wp2
    go_quiet (fail)
    go_wp2
    go_quiet (fail)
    go_wp2
    go_ret
    exact ⟨by rw [gt.out (div_lt 4 H.out.symm h)]; rfl, by repeat (first | with_reducible exact EX | with_reducible refine Ext.alloc ?_ _ | with_reducible refine Ext.drew ?_ | with_reducible refine Ext.drewN ?_ _ | with_reducible refine Ext.setCell ?_ (by first | (simp; done) | omega | (dsimp only; omega)) _)⟩
  have h1 : ¬ dg A 4 < dg B 4 := by omega
  have h2 : ¬ dg B 4 < dg A 4 := by omega
  have H' : Hid (A / 65536 ^ 4 = B / 65536 ^ 4) := div_eq 4 H.out h
  clear H h
  have H := H'
  clear H'
  go_wp2
  go_quiet (fail)
  go_wp2
  go_quiet (fail)
  go_wp2
  clear h1 h2
  rw [rounds_succ]
  rcases Int.lt_trichotomy (dg A 3) (dg B 3) with h | h | h
  · go_wp2
    go_quiet (fail)
    go_wp2
    go_ret
    exact ⟨by rw [lt.out (div_lt 3 H.out h)]; rfl, by repeat (first | with_reducible exact EX | with_reducible refine Ext.alloc ?_ _ | with_reducible refine Ext.drew ?_ | with_reducible refine Ext.drewN ?_ _ | with_reducible refine Ext.setCell ?_ (by first | (simp; done) | omega | (dsimp only; omega)) _)⟩
  rotate_left
  · have h1 : ¬ dg A 3 < dg B 3 := by omega
    go_wp2
    go_quiet (fail)
    go_wp2
    go_quiet (fail)
    go_wp2
    go_ret
    exact ⟨by rw [gt.out (div_lt 3 H.out.symm h)]; rfl, by repeat (first | with_reducible exact EX | with_reducible refine Ext.alloc ?_ _ | with_reducible refine Ext.drew ?_ | with_reducible refine Ext.drewN ?_ _ | with_reducible refine Ext.setCell ?_ (by first | (simp; done) | omega | (dsimp only; omega)) _)⟩
  have h1 : ¬ dg A 3 < dg B 3 := by omega
  have h2 : ¬ dg B 3 < dg A 3 := by omega
  have H' : Hid (A / 65536 ^ 3 = B / 65536 ^ 3) := div_eq 3 H.out h
  clear H h
  have H := H'
  clear H'
  go_wp2
  go_quiet (fail)
  go_wp2
  go_quiet (fail)
  go_wp2
  clear h1 h2
  rw [rounds_succ]
  rcases Int.lt_trichotomy (dg A 2) (dg B 2) with h | h | h
  · go_wp2
    go_quiet (fail)
    go_wp2
    go_ret
    exact ⟨by rw [lt.out (div_lt 2 H.out h)]; rfl, by repeat (first | with_reducible exact EX | with_reducible refine Ext.alloc ?_ _ | with_reducible refine Ext.drew ?_ | with_reducible refine Ext.drewN ?_ _ | with_reducible refine Ext.setCell ?_ (by first | (simp; done) | omega | (dsimp only; omega)) _)⟩
  rotate_left
  · have h1 : ¬ dg A 2 < dg B 2 := by omega
    go_wp2
    go_quiet (fail)
    go_wp2
    go_quiet (fail)
    go_wp2
    go_ret
    exact ⟨by rw [gt.out (div_lt 2 H.out.symm h)]; rfl, by repeat (first | with_reducible exact EX | with_reducible refine Ext.alloc ?_ _ | with_reducible refine Ext.drew ?_ | with_reducible refine Ext.drewN ?_ _ | with_reducible refine Ext.setCell ?_ (by first | (simp; done) | omega | (dsimp only; omega)) _)⟩
  have h1 : ¬ dg A 2 < dg B 2 := by omega
  have h2 : ¬ dg B 2 < dg A 2 := by omega
  have H' : Hid (A / 65536 ^ 2 = B / 65536 ^ 2) := div_eq 2 H.out h
  clear H h
  have H := H'
  clear H'
  go_wp2
  go_quiet (fail)
  go_wp2
  go_quiet (fail)
  go_wp2
  clear h1 h2
  rw [rounds_succ]
  rcases Int.lt_trichotomy (dg A 1) (dg B 1) with h | h | h
  · go_wp2
    go_quiet (fail)
    go_wp2
    go_ret
    exact ⟨by rw [lt.out (div_lt 1 H.out h)]; rfl, by repeat (first | with_reducible exact EX | with_reducible refine Ext.alloc ?_ _ | with_reducible refine Ext.drew ?_ | with_reducible refine Ext.drewN ?_ _ | with_reducible refine Ext.setCell ?_ (by first | (simp; done) | omega | (dsimp only; omega)) _)⟩
  rotate_left
  · have h1 : ¬ dg A 1 < dg B 1 := by omega
    go_wp2
    go_quiet (fail)
    go_wp2
    go_quiet (fail)
    go_wp2
    go_ret
    exact ⟨by rw [gt.out (div_lt 1 H.out.symm h)]; rfl, by repeat (first | with_reducible exact EX | with_reducible refine Ext.alloc ?_ _ | with_reducible refine Ext.drew ?_ | with_reducible refine Ext.drewN ?_ _ | with_reducible refine Ext.setCell ?_ (by first | (simp; done) | omega | (dsimp only; omega)) _)⟩
  have h1 : ¬ dg A 1 < dg B 1 := by omega
  have h2 : ¬ dg B 1 < dg A 1 := by omega
  have H' : Hid (A / 65536 ^ 1 = B / 65536 ^ 1) := div_eq 1 H.out h
  clear H h
  have H := H'
  clear H'
  go_wp2
  go_quiet (fail)
  go_wp2
  go_quiet (fail)
  go_wp2
  clear h1 h2
  rw [rounds_succ]
  rcases Int.lt_trichotomy (dg A 0) (dg B 0) with h | h | h
  · go_wp2
    go_quiet (fail)
    go_wp2
    go_ret
    exact ⟨by rw [lt.out (div_lt 0 H.out h)]; rfl, by repeat (first | with_reducible exact EX | with_reducible refine Ext.alloc ?_ _ | with_reducible refine Ext.drew ?_ | with_reducible refine Ext.drewN ?_ _ | with_reducible refine Ext.setCell ?_ (by first | (simp; done) | omega | (dsimp only; omega)) _)⟩
  rotate_left
  · have h1 : ¬ dg A 0 < dg B 0 := by omega
    go_wp2
    go_quiet (fail)
    go_wp2
    go_quiet (fail)
    go_wp2
    go_ret
    exact ⟨by rw [gt.out (div_lt 0 H.out.symm h)]; rfl, by repeat (first | with_reducible exact EX | with_reducible refine Ext.alloc ?_ _ | with_reducible refine Ext.drew ?_ | with_reducible refine Ext.drewN ?_ _ | with_reducible refine Ext.setCell ?_ (by first | (simp; done) | omega | (dsimp only; omega)) _)⟩
  have h1 : ¬ dg A 0 < dg B 0 := by omega
  have h2 : ¬ dg B 0 < dg A 0 := by omega
  have H' : Hid (A / 65536 ^ 0 = B / 65536 ^ 0) := div_eq 0 H.out h
  clear H h
  have H := H'
  clear H'
  go_wp2
  go_quiet (fail)
  go_wp2
  go_quiet (fail)
  go_wp2
  clear h1 h2
  rw [rounds_succ]
  go_wp2
  go_ret
  exact ⟨by rw [eq.out (by have := H.out; simpa using this)]; rfl, by repeat (first | with_reducible exact EX | with_reducible refine Ext.alloc ?_ _ | with_reducible refine Ext.drew ?_ | with_reducible refine Ext.drewN ?_ _ | with_reducible refine Ext.setCell ?_ (by first | (simp; done) | omega | (dsimp only; omega)) _)⟩
end Go.Proofs.Ythmgilikokcibaa
