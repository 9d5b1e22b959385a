/- What the given functions gouacheref01.Minus, Num.zero and Sum do, called at any numbers' digits. -/
import Derived.Test.YthmgilikokcibaaRefD
import Derived.Test.YthmgilikokcibaaWideM
namespace Go.Proofs.Ythmgilikokcibaa
open Go.RowKit Go.BigFrame
set_option linter.unusedSimpArgs false
set_option linter.unusedVariables false

/-- Thirteen cells: a sign, and the integers f 0 .. f 11. -/
theorem num_new (w : World) (s : Bool) (f : Nat → Int) (t : TypeId) {b : Nat} (hb : w.heap.size = b) : (w.alloc (.cells #[.bool s, .int .i64 (f 0), .int .i64 (f 1), .int .i64 (f 2), .int .i64 (f 3), .int .i64 (f 4), .int .i64 (f 5), .int .i64 (f 6), .int .i64 (f 7), .int .i64 (f 8), .int .i64 (f 9), .int .i64 (f 10), .int .i64 (f 11)] t)).cell? ⟨b, 0, none⟩ = some (.bool s) ∧
    ∀ i, i < 12 → (w.alloc (.cells #[.bool s, .int .i64 (f 0), .int .i64 (f 1), .int .i64 (f 2), .int .i64 (f 3), .int .i64 (f 4), .int .i64 (f 5), .int .i64 (f 6), .int .i64 (f 7), .int .i64 (f 8), .int .i64 (f 9), .int .i64 (f 10), .int .i64 (f 11)] t)).cell? ⟨b, i + 1, none⟩ = some (.int .i64 (f i)) := by
  subst hb
  refine ⟨new1 rfl, ?_⟩
  intro i hi
  rw [World.cell?_alloc_new w _ t (i + 1)]
  match i, hi with
  | 0, _ => rfl | 1, _ => rfl | 2, _ => rfl | 3, _ => rfl | 4, _ => rfl | 5, _ => rfl | 6, _ => rfl | 7, _ => rfl | 8, _ => rfl | 9, _ => rfl | 10, _ => rfl | 11, _ => rfl
theorem minus_any (s : Bool) (X : Int) (w : World) : Calls Try.prog 53 #[(.agg #[.bool (s), .int .i64 (dg (X) 0), .int .i64 (dg (X) 1), .int .i64 (dg (X) 2), .int .i64 (dg (X) 3), .int .i64 (dg (X) 4), .int .i64 (dg (X) 5), .int .i64 (dg (X) 6), .int .i64 (dg (X) 7), .int .i64 (dg (X) 8), .int .i64 (dg (X) 9), .int .i64 (dg (X) 10), .int .i64 (dg (X) 11)])] w fun e w' => e = .returned (.agg #[.bool (!s), .int .i64 (dg (X) 0), .int .i64 (dg (X) 1), .int .i64 (dg (X) 2), .int .i64 (dg (X) 3), .int .i64 (dg (X) 4), .int .i64 (dg (X) 5), .int .i64 (dg (X) 6), .int .i64 (dg (X) 7), .int .i64 (dg (X) 8), .int .i64 (dg (X) 9), .int .i64 (dg (X) 10), .int .i64 (dg (X) 11)]) ∧ Ext w w' := by
  have EX := Ext.refl w
  go_enter Try.func53, Try.ntmps53
  go_wp2
  refine bodyPost_ret (by simp only [results, Try.results53]; simp [go_sem]; try rfl) rfl ⟨rfl, ?_⟩
  repeat (first | with_reducible exact EX | with_reducible refine Ext.alloc ?_ _ | with_reducible refine Ext.drew ?_ | with_reducible refine Ext.drewN ?_ _ | with_reducible refine Ext.setCell ?_ (by first | (simp; done) | omega | (dsimp only; omega)) _)
/-- All digits are 0 just where the number is. -/
def isz (X : Int) : Bool := [dg X 0, dg X 1, dg X 2, dg X 3, dg X 4, dg X 5, dg X 6, dg X 7, dg X 8, dg X 9, dg X 10, dg X 11] == [0, 0, 0, 0, 0, 0, 0, 0, 0, 0, 0, 0]
theorem dg_of0 (i : Nat) : dg 0 i = 0 := by unfold dg; simp
theorem isz_eq {X : Int} (h : InD X) : isz X = decide (X = 0) := by
  unfold isz
  rw [Bool.eq_iff_iff]
  simp only [beq_iff_eq, List.cons.injEq, and_true, decide_eq_true_eq]
  constructor
  · rintro ⟨h0, h1, h2, h3, h4, h5, h6, h7, h8, h9, h10, h11⟩
    have e := div_top h
    have s0 := div_step X 0; have s1 := div_step X 1; have s2 := div_step X 2; have s3 := div_step X 3; have s4 := div_step X 4; have s5 := div_step X 5
    have s6 := div_step X 6; have s7 := div_step X 7; have s8 := div_step X 8; have s9 := div_step X 9; have s10 := div_step X 10; have s11 := div_step X 11
    simp only [Nat.reduceAdd] at *
    rw [Int.pow_zero, Int.ediv_one] at s0
    omega
  · rintro rfl
    simp [dg_of0]
@[go_sem] theorem eq_zeros (n : Nat) (X : Int) (w : World) : (Op.equalIn (n + 2) 58 (.agg #[.int .i64 (dg (X) 0), .int .i64 (dg (X) 1), .int .i64 (dg (X) 2), .int .i64 (dg (X) 3), .int .i64 (dg (X) 4), .int .i64 (dg (X) 5), .int .i64 (dg (X) 6), .int .i64 (dg (X) 7), .int .i64 (dg (X) 8), .int .i64 (dg (X) 9), .int .i64 (dg (X) 10), .int .i64 (dg (X) 11)]) (.agg #[.int .i64 0, .int .i64 0, .int .i64 0, .int .i64 0, .int .i64 0, .int .i64 0, .int .i64 0, .int .i64 0, .int .i64 0, .int .i64 0, .int .i64 0, .int .i64 0])).run Try.prog w = .ok (isz X) w := by
  have := eq_ints (P := Try.prog) (d := n) (t := 58) (e := 3) (k := .i64) (n := 12) (by kernel_rfl) (by kernel_rfl) (fun w => by go_simp) (fun w => by go_simp) [dg X 0, dg X 1, dg X 2, dg X 3, dg X 4, dg X 5, dg X 6, dg X 7, dg X 8, dg X 9, dg X 10, dg X 11] [0, 0, 0, 0, 0, 0, 0, 0, 0, 0, 0, 0] rfl rfl w
  simpa [isz] using this
theorem zero_any (s : Bool) (X : Int) (h : InD X) (w : World) : Calls Try.prog 51 #[(.agg #[.bool (s), .int .i64 (dg (X) 0), .int .i64 (dg (X) 1), .int .i64 (dg (X) 2), .int .i64 (dg (X) 3), .int .i64 (dg (X) 4), .int .i64 (dg (X) 5), .int .i64 (dg (X) 6), .int .i64 (dg (X) 7), .int .i64 (dg (X) 8), .int .i64 (dg (X) 9), .int .i64 (dg (X) 10), .int .i64 (dg (X) 11)])] w fun e w' => e = .returned (.bool (decide (X = 0))) ∧ Ext w w' := by
  rw [← isz_eq h]
  have EX := Ext.refl w
  go_enter Try.func51, Try.ntmps51
  go_wp2
  go_ret
  exact ⟨rfl, by repeat (first | with_reducible exact EX | with_reducible refine Ext.alloc ?_ _ | with_reducible refine Ext.drew ?_ | with_reducible refine Ext.drewN ?_ _ | with_reducible refine Ext.setCell ?_ (by first | (simp; done) | omega | (dsimp only; omega)) _)⟩
end Go.Proofs.Ythmgilikokcibaa
