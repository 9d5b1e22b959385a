/- The walk of the given function AnglesBack: it returns true at every fix. -/
import Derived.Test.YthfgeopldbcniaaAngF
import Derived.Test.YthfgeopldbcniaaAngY
namespace Go.Proofs.Ythfgeopldbcniaa
open Go.RowKit Go.BigFrame
set_option linter.unusedSimpArgs false
set_option linter.unusedVariables false

set_option maxRecDepth 20000 in
set_option maxHeartbeats 8000000 in
theorem aback_walk (a s c d n : Int) (a0 : -2147483648 ≤ a) (a1 : a ≤ 2147483647) (d0 : 0 ≤ d) (d1 : d < 23592960) (hn : Int.tmod (d - a) 23592960 = n) (n0 : -23592960 < n) (n1 : n < 23592960) (hs : (n < 0 ∧ (n + 23592960 ≤ 41 ∨ ¬ n + 23592960 ≤ 41 ∧ 23592919 ≤ n + 23592960)) ∨ (¬ n < 0 ∧ (n ≤ 41 ∨ ¬ n ≤ 41 ∧ 23592919 ≤ n)))
    (S : ∀ w, Calls Try.prog 11 #[.int .i32 a] w fun e w' => e = .returned (.int .i32 s) ∧ Ext w w') (C : ∀ w, Calls Try.prog 13 #[.int .i32 a] w fun e w' => e = .returned (.int .i32 c) ∧ Ext w w')
    (T : ∀ w, Calls Try.prog 9 #[.int .i32 s, .int .i32 c] w fun e w' => e = .returned (.tuple #[.int .i32 d, .int .i64 0]) ∧ Ext w w') (w : World) :
    Calls Try.prog 8 #[.int .i32 a] w fun e w' => e = .returned (.bool true) ∧ Ext w w' := by
  have EX := Ext.refl w
  rcases hs with ⟨h1, h2 | ⟨h2, h3⟩⟩ | ⟨h1, h2 | ⟨h2, h3⟩⟩
  all_goals
    go_enter Try.func8, Try.ntmps8
    go_wp2_with (first | (go_at_call 11; with_reducible refine (S _).mono ?_; rintro e v1 ⟨rfl, hb⟩; replace EX := Ext.trans EX hb; clear hb) | (go_at_call 13; with_reducible refine (C _).mono ?_; rintro e v1 ⟨rfl, hb⟩; replace EX := Ext.trans EX hb; clear hb) | (go_at_call 9; with_reducible refine (T _).mono ?_; rintro e v1 ⟨rfl, hb⟩; replace EX := Ext.trans EX hb; clear hb) | (go_at_call 15; with_reducible refine (lives_any _).mono ?_; rintro e v1 ⟨rfl, hb⟩; replace EX := Ext.trans EX hb; clear hb))
    go_ret
    exact ⟨rfl, EX⟩
theorem tmod_near {d a j e : Int} (h : d = a + e + 23592960 * j) (e0 : -41 ≤ e) (e1 : e ≤ 41) (n : Int) (hn : Int.tmod (d - a) 23592960 = n) : (-23592960 < n ∧ n < 23592960) ∧ ((n < 0 ∧ (n + 23592960 ≤ 41 ∨ ¬ n + 23592960 ≤ 41 ∧ 23592919 ≤ n + 23592960)) ∨ (¬ n < 0 ∧ (n ≤ 41 ∨ ¬ n ≤ 41 ∧ 23592919 ≤ n))) := by
  have k := Int.mul_tdiv_add_tmod (d - a) 23592960
  have l1 := Int.tmod_lt_of_pos (d - a) (show (0 : Int) < 23592960 by decide)
  have l2 := Int.lt_tmod_of_pos (d - a) (show (0 : Int) < 23592960 by decide)
  rw [hn] at k l1 l2
  generalize (d - a).tdiv 23592960 = m at *
  omega
theorem aback_law (a : Int) (h : -2147483648 ≤ a ∧ a ≤ 2147483647) (w : World) : Calls Try.prog 8 #[.int .i32 a] w fun e w' => e = .returned (.bool true) ∧ Ext w w' := by
  obtain ⟨nz, j, e, he, e0, e1⟩ := csa_atn a
  have b := csa_bd a
  have S := fun w => sin_any a h.1 h.2 w
  have C := fun w => cos_any a h.1 h.2 w
  have T := fun w => atan_any (csa a).2 (csa a).1 (by omega) (by omega) (by omega) (by omega) nz w
  have r := atn_in nz
  generalize atn (csa a).2 (csa a).1 = d at *
  generalize (csa a).1 = c at *
  generalize (csa a).2 = s at *
  obtain ⟨t1, t2⟩ := tmod_near he e0 e1 _ rfl
  exact aback_walk a s c d _ h.1 h.2 r.1 r.2 rfl t1.1 t1.2 t2 S C T w
end Go.Proofs.Ythfgeopldbcniaa
