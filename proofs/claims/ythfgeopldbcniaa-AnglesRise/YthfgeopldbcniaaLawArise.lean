/- The walk of the given function AnglesRise: it returns true at every two numbers of 32 bits. -/
import Derived.Test.YthfgeopldbcniaaAngF
namespace Go.Proofs.Ythfgeopldbcniaa
open Go.RowKit Go.BigFrame
set_option linter.unusedSimpArgs false
set_option linter.unusedVariables false

set_option maxRecDepth 20000 in
set_option maxHeartbeats 4000000 in
theorem arise_walk (a b x y l h s t c d : Int) (hx : Int.tmod a 5898241 = x) (hy : Int.tmod b 5898241 = y) (x0 : 0 ≤ x) (x1 : x ≤ 5898240) (y0 : 0 ≤ y) (y1 : y ≤ 5898240) (hl : min x y = l) (hh : max x y = h) (st : s ≤ t) (cd : d ≤ c)
    (S1 : ∀ w, Calls Try.prog 11 #[.int .i32 l] w fun e w' => e = .returned (.int .i32 s) ∧ Ext w w') (S2 : ∀ w, Calls Try.prog 11 #[.int .i32 h] w fun e w' => e = .returned (.int .i32 t) ∧ Ext w w')
    (C1 : ∀ w, Calls Try.prog 13 #[.int .i32 l] w fun e w' => e = .returned (.int .i32 c) ∧ Ext w w') (C2 : ∀ w, Calls Try.prog 13 #[.int .i32 h] w fun e w' => e = .returned (.int .i32 d) ∧ Ext w w') (w : World) :
    Calls Try.prog 7 #[.int .u32 a, .int .u32 b] w fun e w' => e = .returned (.bool true) ∧ Ext w w' := by
  have EX := Ext.refl w
  go_enter Try.func7, Try.ntmps7
  go_wp2_with (first | (go_at_call 11; with_reducible refine (S1 _).mono ?_; rintro e v1 ⟨rfl, hb⟩; replace EX := Ext.trans EX hb; clear hb) | (go_at_call 11; with_reducible refine (S2 _).mono ?_; rintro e v1 ⟨rfl, hb⟩; replace EX := Ext.trans EX hb; clear hb) | (go_at_call 13; with_reducible refine (C1 _).mono ?_; rintro e v1 ⟨rfl, hb⟩; replace EX := Ext.trans EX hb; clear hb) | (go_at_call 13; with_reducible refine (C2 _).mono ?_; rintro e v1 ⟨rfl, hb⟩; replace EX := Ext.trans EX hb; clear hb) | (go_at_call 15; with_reducible refine (lives_any _).mono ?_; rintro e v1 ⟨rfl, hb⟩; replace EX := Ext.trans EX hb; clear hb))
  go_ret
  exact ⟨rfl, EX⟩
theorem arise_law (a b : Int) (ha : 0 ≤ a ∧ a ≤ 4294967295) (hb : 0 ≤ b ∧ b ≤ 4294967295) (w : World) : Calls Try.prog 7 #[.int .u32 a, .int .u32 b] w fun e w' => e = .returned (.bool true) ∧ Ext w w' := by
  obtain ⟨x, hx⟩ : ∃ x, Int.tmod a 5898241 = x := ⟨_, rfl⟩
  obtain ⟨y, hy⟩ : ∃ y, Int.tmod b 5898241 = y := ⟨_, rfl⟩
  have x0 : 0 ≤ x ∧ x ≤ 5898240 := by rw [← hx, Int.tmod_eq_emod_of_nonneg ha.1]; omega
  have y0 : 0 ≤ y ∧ y ≤ 5898240 := by rw [← hy, Int.tmod_eq_emod_of_nonneg hb.1]; omega
  have r := csa_rise (x := min x y) (y := max x y) (by omega) (by omega) (by omega)
  exact arise_walk a b x y _ _ _ _ _ _ hx hy x0.1 x0.2 y0.1 y0.2 rfl rfl r.1 r.2 (fun w => sin_any _ (by omega) (by omega) w) (fun w => sin_any _ (by omega) (by omega) w) (fun w => cos_any _ (by omega) (by omega) w) (fun w => cos_any _ (by omega) (by omega) w) w
end Go.Proofs.Ythfgeopldbcniaa
