/- The walk of the given function AnglesCircle: it returns true at every fix. -/
import Derived.Test.YthfgeopldbcniaaAngF
namespace Go.Proofs.Ythfgeopldbcniaa
open Go.RowKit Go.BigFrame
set_option linter.unusedSimpArgs false
set_option linter.unusedVariables false

set_option maxRecDepth 20000 in
set_option maxHeartbeats 4000000 in
theorem acircle_walk (a s c p r : Int) (s0 : -65536 ≤ s) (s1 : s ≤ 65536) (c0 : -65536 ≤ c) (c1 : c ≤ 65536) (hp : s * s = p) (hr : c * c = r) (p0 : 0 ≤ p) (p1 : p ≤ 4294967296) (r0 : 0 ≤ r) (r1 : r ≤ 4294967296) (d0 : -92683 ≤ p + r - 4294967296) (d1 : p + r - 4294967296 ≤ 92683)
    (S : ∀ w, Calls Try.prog 11 #[.int .i32 a] w fun e w' => e = .returned (.int .i32 s) ∧ Ext w w') (C : ∀ w, Calls Try.prog 13 #[.int .i32 a] w fun e w' => e = .returned (.int .i32 c) ∧ Ext w w') (w : World) :
    Calls Try.prog 5 #[.int .i32 a] w fun e w' => e = .returned (.bool true) ∧ Ext w w' := by
  have EX := Ext.refl w
  go_enter Try.func5, Try.ntmps5
  go_wp2_with (first | (go_at_call 11; with_reducible refine (S _).mono ?_; rintro e v1 ⟨rfl, hb⟩; replace EX := Ext.trans EX hb; clear hb) | (go_at_call 13; with_reducible refine (C _).mono ?_; rintro e v1 ⟨rfl, hb⟩; replace EX := Ext.trans EX hb; clear hb) | (go_at_call 15; with_reducible refine (lives_any _).mono ?_; rintro e v1 ⟨rfl, hb⟩; replace EX := Ext.trans EX hb; clear hb))
  go_ret
  exact ⟨rfl, EX⟩
theorem sq_bd {x : Int} (h0 : -65536 ≤ x) (h1 : x ≤ 65536) : 0 ≤ x * x ∧ x * x ≤ 4294967296 := by
  refine ⟨sq_0 x, ?_⟩
  rcases Int.le_total 0 x with t | t
  · exact Int.mul_le_mul h1 h1 t (by decide)
  · have := Int.mul_le_mul (show -x ≤ 65536 by omega) (show -x ≤ 65536 by omega) (show 0 ≤ -x by omega) (by decide)
    rw [Int.neg_mul_neg] at this
    exact this
theorem acircle_law (a : Int) (h : -2147483648 ≤ a ∧ a ≤ 2147483647) (w : World) : Calls Try.prog 5 #[.int .i32 a] w fun e w' => e = .returned (.bool true) ∧ Ext w w' := by
  have b := csa_bd a
  have c := csa_circle a
  have S := fun w => sin_any a h.1 h.2 w
  have C := fun w => cos_any a h.1 h.2 w
  generalize (csa a).1 = x at *
  generalize (csa a).2 = y at *
  have k1 := sq_bd b.1 b.2.1
  have k2 := sq_bd b.2.2.1 b.2.2.2
  exact acircle_walk a y x (y * y) (x * x) b.2.2.1 b.2.2.2 b.1 b.2.1 rfl rfl k2.1 k2.2 k1.1 k1.2 c.2 c.1 S C w
end Go.Proofs.Ythfgeopldbcniaa
