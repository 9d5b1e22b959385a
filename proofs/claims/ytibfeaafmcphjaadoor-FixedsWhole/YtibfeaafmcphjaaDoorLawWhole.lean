/- The walk of the given function FixedsWhole: it returns true at every number of 32 bits, where the package's table is as it was laid. -/
import Derived.Test.YtibfeaafmcphjaaDoorFixE
import Derived.Test.YtibfeaafmcphjaaDoorFixM
namespace Go.Proofs.YtibfeaafmcphjaaDoor
open Go.RowKit Go.BigFrame
set_option linter.unusedSimpArgs false
set_option linter.unusedVariables false

set_option maxRecDepth 20000 in
set_option maxHeartbeats 8000000 in
theorem whole_out (a f c r t : Int) (w : World)
    (LV : ∀ v, Ext w v → Calls Tryd.prog 25 #[] v fun e w' => e = .returned (.bool true) ∧ Ext v w')
    (F : ∀ v, Ext w v → Calls Tryd.prog 17 #[.int .i32 a] v fun e w' => e = .returned (.int .i32 f) ∧ Ext v w')
    (C : ∀ v, Ext w v → Calls Tryd.prog 19 #[.int .i32 a] v fun e w' => e = .returned (.int .i32 c) ∧ Ext v w')
    (O : ∀ v, Ext w v → Calls Tryd.prog 21 #[.int .i32 a] v fun e w' => e = .returned (.int .i32 r) ∧ Ext v w')
    (T : ∀ v, Ext w v → Calls Tryd.prog 23 #[.int .i32 a] v fun e w' => e = .returned (.int .i32 t) ∧ Ext v w') (h : decide (a < -2147418112) = true ∨ (decide (a < -2147418112) = false ∧ decide (2147418111 < a) = true)) : Calls Tryd.prog 7 #[.int .i32 a] w fun e w' => e = .returned (.bool true) ∧ Ext w w' := by
  rcases h with h | ⟨h, h'⟩
  all_goals
    have EX := Ext.refl w
    go_enter Tryd.func7, Tryd.ntmps7
    go_wp2_with (first | (go_at_call 17; with_reducible refine (F _ EX).mono ?_; rintro e v1 ⟨rfl, hb⟩; replace EX := Ext.trans EX hb; clear hb) | (go_at_call 19; with_reducible refine (C _ EX).mono ?_; rintro e v1 ⟨rfl, hb⟩; replace EX := Ext.trans EX hb; clear hb) | (go_at_call 21; with_reducible refine (O _ EX).mono ?_; rintro e v1 ⟨rfl, hb⟩; replace EX := Ext.trans EX hb; clear hb) | (go_at_call 23; with_reducible refine (T _ EX).mono ?_; rintro e v1 ⟨rfl, hb⟩; replace EX := Ext.trans EX hb; clear hb) | (go_at_call 25; with_reducible refine (LV _ EX).mono ?_; rintro e v1 ⟨rfl, hb⟩; replace EX := Ext.trans EX hb; clear hb))
    go_ret
    exact ⟨rfl, EX⟩
set_option maxRecDepth 20000 in
set_option maxHeartbeats 8000000 in
theorem whole_eq (a : Int) (h1 : decide (a < -2147418112) = false) (h2 : decide (2147418111 < a) = false) (h3 : a.tmod 65536 = 0) (w : World)
    (LV : ∀ v, Ext w v → Calls Tryd.prog 25 #[] v fun e w' => e = .returned (.bool true) ∧ Ext v w')
    (F : ∀ v, Ext w v → Calls Tryd.prog 17 #[.int .i32 a] v fun e w' => e = .returned (.int .i32 a) ∧ Ext v w')
    (C : ∀ v, Ext w v → Calls Tryd.prog 19 #[.int .i32 a] v fun e w' => e = .returned (.int .i32 a) ∧ Ext v w')
    (O : ∀ v, Ext w v → Calls Tryd.prog 21 #[.int .i32 a] v fun e w' => e = .returned (.int .i32 a) ∧ Ext v w')
    (T : ∀ v, Ext w v → Calls Tryd.prog 23 #[.int .i32 a] v fun e w' => e = .returned (.int .i32 a) ∧ Ext v w') : Calls Tryd.prog 7 #[.int .i32 a] w fun e w' => e = .returned (.bool true) ∧ Ext w w' := by
  have EX := Ext.refl w
  have z : wrap32 (a - a) = 0 := (by rw [Int.sub_self]; exact wrap_in32 ⟨by decide, by decide⟩)
  go_enter Tryd.func7, Tryd.ntmps7
  go_wp2_with (first | (go_at_call 17; with_reducible refine (F _ EX).mono ?_; rintro e v1 ⟨rfl, hb⟩; replace EX := Ext.trans EX hb; clear hb) | (go_at_call 19; with_reducible refine (C _ EX).mono ?_; rintro e v1 ⟨rfl, hb⟩; replace EX := Ext.trans EX hb; clear hb) | (go_at_call 21; with_reducible refine (O _ EX).mono ?_; rintro e v1 ⟨rfl, hb⟩; replace EX := Ext.trans EX hb; clear hb) | (go_at_call 23; with_reducible refine (T _ EX).mono ?_; rintro e v1 ⟨rfl, hb⟩; replace EX := Ext.trans EX hb; clear hb) | (go_at_call 25; with_reducible refine (LV _ EX).mono ?_; rintro e v1 ⟨rfl, hb⟩; replace EX := Ext.trans EX hb; clear hb))
  all_goals (go_ret; exact ⟨rfl, EX⟩)
set_option maxRecDepth 20000 in
set_option maxHeartbeats 16000000 in
theorem whole_mid (a f c r t g : Int) (h1 : decide (a < -2147418112) = false) (h2 : decide (2147418111 < a) = false) (h3 : f.tmod 65536 = 0) (h4 : c.tmod 65536 = 0) (h5 : decide (a < f) = false) (h6 : decide (c < a) = false) (h7 : (f == a) = false) (h8 : wrap32 (c - f) = 65536)
    (h9 : (f != c) = true) (h10 : (f == c) = false) (h11 : (c != f) = true) (h12 : (c == f) = false) (h13 : wrap32 (a - f) = g) (w : World)
    (LV : ∀ v, Ext w v → Calls Tryd.prog 25 #[] v fun e w' => e = .returned (.bool true) ∧ Ext v w')
    (F : ∀ v, Ext w v → Calls Tryd.prog 17 #[.int .i32 a] v fun e w' => e = .returned (.int .i32 f) ∧ Ext v w')
    (C : ∀ v, Ext w v → Calls Tryd.prog 19 #[.int .i32 a] v fun e w' => e = .returned (.int .i32 c) ∧ Ext v w')
    (O : ∀ v, Ext w v → Calls Tryd.prog 21 #[.int .i32 a] v fun e w' => e = .returned (.int .i32 r) ∧ Ext v w')
    (T : ∀ v, Ext w v → Calls Tryd.prog 23 #[.int .i32 a] v fun e w' => e = .returned (.int .i32 t) ∧ Ext v w') (hr : (r = c ∧ decide (32768 ≤ g) = true) ∨ (r = f ∧ decide (32768 ≤ g) = false)) (ht : (t = f ∧ decide (0 < a) = true) ∨ (t = c ∧ decide (0 < a) = false)) : Calls Tryd.prog 7 #[.int .i32 a] w fun e w' => e = .returned (.bool true) ∧ Ext w w' := by
  rcases hr with ⟨rfl, hr⟩ | ⟨rfl, hr⟩ <;> rcases ht with ⟨rfl, ht⟩ | ⟨rfl, ht⟩
  all_goals
    have EX := Ext.refl w
    go_enter Tryd.func7, Tryd.ntmps7
    go_wp2_with (first | (go_at_call 17; with_reducible refine (F _ EX).mono ?_; rintro e v1 ⟨rfl, hb⟩; replace EX := Ext.trans EX hb; clear hb) | (go_at_call 19; with_reducible refine (C _ EX).mono ?_; rintro e v1 ⟨rfl, hb⟩; replace EX := Ext.trans EX hb; clear hb) | (go_at_call 21; with_reducible refine (O _ EX).mono ?_; rintro e v1 ⟨rfl, hb⟩; replace EX := Ext.trans EX hb; clear hb) | (go_at_call 23; with_reducible refine (T _ EX).mono ?_; rintro e v1 ⟨rfl, hb⟩; replace EX := Ext.trans EX hb; clear hb) | (go_at_call 25; with_reducible refine (LV _ EX).mono ?_; rintro e v1 ⟨rfl, hb⟩; replace EX := Ext.trans EX hb; clear hb))
    go_ret
    exact ⟨rfl, EX⟩
theorem tmod_of {x : Int} (h : x % 65536 = 0) : x.tmod 65536 = 0 := Int.tmod_eq_zero_of_dvd (Int.dvd_of_emod_eq_zero h)
theorem whole_law (a : Int) (ha : In32 a) (w : World) (L : Laid w) : Calls Tryd.prog 7 #[.int .i32 a] w fun e w' => e = .returned (.bool true) ∧ Ext w w' := by
  have LV := fun v E => lives_any w L v E
  have F := fun v E => ffloor_any a ha w L v E
  have C := fun v E => fceil_any a ha w L v E
  have O := fun v E => fround_any a ha w L v E
  have T := fun v E => ftrunc_any a ha w L v E
  by_cases h1 : a < -2147418112
  · exact whole_out a _ _ _ _ w LV F C O T (.inl (by simpa using h1))
  · by_cases h2 : 2147418111 < a
    · exact whole_out a _ _ _ _ w LV F C O T (.inr ⟨by simp; omega, by simpa using h2⟩)
    · have i1 : In32 (dn a) := by unfold In32 dn; omega
      have i2 : In32 (dn (a + 65535)) := by unfold In32 dn; omega
      have i3 : In32 (dn (a + 32768)) := by unfold In32 dn; omega
      have i4 : In32 (if a < 0 then dn (a + 65535) else dn a) := by split <;> assumption
      rw [held_id i1] at F
      rw [held_id i2] at C
      rw [held_id i3] at O
      rw [held_id i4] at T
      have g1 : decide (a < -2147418112) = false := by simpa using h1
      have g2 : decide (2147418111 < a) = false := by simpa using h2
      by_cases h3 : a % 65536 = 0
      · rw [show dn a = a by unfold dn; omega] at F T
        rw [show dn (a + 65535) = a by unfold dn; omega] at C T
        rw [show dn (a + 32768) = a by unfold dn; omega] at O
        rw [show (if a < 0 then a else a) = a by split <;> rfl] at T
        exact whole_eq a g1 g2 (tmod_of h3) w LV F C O T
      · have e1 : dn (a + 65535) = dn a + 65536 := by unfold dn; omega
        have e2 : (dn a) % 65536 = 0 := by unfold dn; omega
        have e3 : dn a < a ∧ a < dn a + 65536 := by unfold dn; omega
        have e4 : (dn (a + 32768) = dn a + 65536 ∧ 32768 ≤ a - dn a) ∨ (dn (a + 32768) = dn a ∧ ¬ 32768 ≤ a - dn a) := by unfold dn; omega
        rw [e1] at C T i2
        refine whole_mid a (dn a) (dn a + 65536) _ _ (a - dn a) g1 g2 (tmod_of e2) (tmod_of (by omega)) (by simp; omega) (by simp; omega) (by simp; omega) (by rw [show dn a + 65536 - dn a = 65536 by omega]; exact wrap_in32 ⟨by decide, by decide⟩) (by simp; omega) (by simp; omega) (by simp; omega) (by simp; omega) (wrap_in32 ⟨by omega, by omega⟩) w LV F C O T ?_ ?_
        · rcases e4 with ⟨e4, e5⟩ | ⟨e4, e5⟩
          · exact .inl ⟨e4, by simpa using e5⟩
          · exact .inr ⟨e4, by simpa using e5⟩
        · by_cases h4 : a < 0
          · rw [if_pos h4]; exact .inr ⟨rfl, by simp; omega⟩
          · rw [if_neg h4]; exact .inl ⟨rfl, by simp; omega⟩
end Go.Proofs.YtibfeaafmcphjaaDoor
