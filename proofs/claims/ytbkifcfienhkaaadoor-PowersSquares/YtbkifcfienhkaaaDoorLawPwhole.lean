/- The walk of the given function PowersWhole: it returns true at every fix and every number of 8 bits. -/
import Derived.Test.YtbkifcfienhkaaaDoorPowF
import Derived.Test.YtbkifcfienhkaaaDoorPowZ
namespace Go.Proofs.YtbkifcfienhkaaaDoor
open Go.RowKit Go.BigFrame
set_option linter.unusedSimpArgs false
set_option linter.unusedVariables false

set_option maxHeartbeats 4000000 in
theorem pwhole_out (x k y : Int) (k0 : -128 ≤ k) (k1 : k < 128) (hk : ¬ -16 ≤ k ∨ (-16 ≤ k ∧ ¬ k ≤ 14)) (w : World) (P1 : ∀ v, Ext w v → Calls Tryd.prog 11 #[.int .i32 131072, .int .i32 x] v fun e w' => e = .returned (.tuple #[.int .i32 y, .int .i64 0]) ∧ Ext v w') (P2 : ∀ v, Ext w v → Calls Tryd.prog 11 #[.int .i32 x, .int .i32 65536] v fun e w' => e = .returned (.tuple #[.int .i32 x, .int .i64 0]) ∧ Ext v w') (P3 : ∀ v, Ext w v → Calls Tryd.prog 11 #[.int .i32 x, .int .i32 0] v fun e w' => e = .returned (.tuple #[.int .i32 65536, .int .i64 0]) ∧ Ext v w') (P4 : ∀ v, Ext w v → Calls Tryd.prog 11 #[.int .i32 65536, .int .i32 x] v fun e w' => e = .returned (.tuple #[.int .i32 65536, .int .i64 0]) ∧ Ext v w') (XE : ∀ w, Calls Tryd.prog 13 #[.int .i32 x] w fun e w' => e = .returned (.int .i32 y) ∧ Ext w w') (LV : ∀ v, Ext w v → Calls Tryd.prog 15 #[] v fun e w' => e = .returned (.bool true) ∧ Ext v w') :
    Calls Tryd.prog 4 #[.int .i32 x, .int .i8 k] w fun e w' => e = .returned (.bool true) ∧ Ext w w' := by
  have EX := Ext.refl w
  rcases hk with hk | ⟨hk, hk'⟩
  all_goals
    go_enter Tryd.func4, Tryd.ntmps4
    go_wp2_with (first | (go_at_call 11; with_reducible refine (P1 _ EX).mono ?_; rintro e v1 ⟨rfl, hb⟩; replace EX := Ext.trans EX hb; clear hb) | (go_at_call 11; with_reducible refine (P2 _ EX).mono ?_; rintro e v1 ⟨rfl, hb⟩; replace EX := Ext.trans EX hb; clear hb) | (go_at_call 11; with_reducible refine (P3 _ EX).mono ?_; rintro e v1 ⟨rfl, hb⟩; replace EX := Ext.trans EX hb; clear hb) | (go_at_call 11; with_reducible refine (P4 _ EX).mono ?_; rintro e v1 ⟨rfl, hb⟩; replace EX := Ext.trans EX hb; clear hb) | (go_at_call 13; with_reducible refine (XE _).mono ?_; rintro e v1 ⟨rfl, hb⟩; replace EX := Ext.trans EX hb; clear hb) | (go_at_call 16; with_reducible refine (is_yes _ _).mono ?_; rintro e v1 ⟨rfl, hb⟩; replace EX := Ext.trans EX hb; clear hb) | (go_at_call 15; with_reducible refine (LV _ EX).mono ?_; rintro e v1 ⟨rfl, hb⟩; replace EX := Ext.trans EX hb; clear hb))
    go_ret
    exact ⟨rfl, EX⟩
set_option maxHeartbeats 4000000 in
theorem pwhole_in (x k y n : Int) (k0 : -16 ≤ k) (k1 : k ≤ 14) (hs : wrap32 (2 ^ (k + 16).toNat) = n) (LN : ∀ w, Calls Tryd.prog 9 #[.int .i32 n] w fun e w' => e = .returned (.tuple #[.int .i32 (k * 65536), .int .i64 0]) ∧ Ext w w')
    (EN : ∀ w, Calls Tryd.prog 13 #[.int .i32 (k * 65536)] w fun e w' => e = .returned (.int .i32 n) ∧ Ext w w') (w : World) (P1 : ∀ v, Ext w v → Calls Tryd.prog 11 #[.int .i32 131072, .int .i32 x] v fun e w' => e = .returned (.tuple #[.int .i32 y, .int .i64 0]) ∧ Ext v w') (P2 : ∀ v, Ext w v → Calls Tryd.prog 11 #[.int .i32 x, .int .i32 65536] v fun e w' => e = .returned (.tuple #[.int .i32 x, .int .i64 0]) ∧ Ext v w') (P3 : ∀ v, Ext w v → Calls Tryd.prog 11 #[.int .i32 x, .int .i32 0] v fun e w' => e = .returned (.tuple #[.int .i32 65536, .int .i64 0]) ∧ Ext v w') (P4 : ∀ v, Ext w v → Calls Tryd.prog 11 #[.int .i32 65536, .int .i32 x] v fun e w' => e = .returned (.tuple #[.int .i32 65536, .int .i64 0]) ∧ Ext v w') (XE : ∀ w, Calls Tryd.prog 13 #[.int .i32 x] w fun e w' => e = .returned (.int .i32 y) ∧ Ext w w') (LV : ∀ v, Ext w v → Calls Tryd.prog 15 #[] v fun e w' => e = .returned (.bool true) ∧ Ext v w') :
    Calls Tryd.prog 4 #[.int .i32 x, .int .i8 k] w fun e w' => e = .returned (.bool true) ∧ Ext w w' := by
  have EX := Ext.refl w
  have kw : wrap32 (k * 65536) = k * 65536 := wrap_in32 ⟨by omega, by omega⟩
  go_enter Tryd.func4, Tryd.ntmps4
  go_wp2_with (first | (go_at_call 9; with_reducible refine (LN _).mono ?_; rintro e v1 ⟨rfl, hb⟩; replace EX := Ext.trans EX hb; clear hb) | (go_at_call 13; with_reducible refine (EN _).mono ?_; rintro e v1 ⟨rfl, hb⟩; replace EX := Ext.trans EX hb; clear hb) | (go_at_call 11; with_reducible refine (P1 _ EX).mono ?_; rintro e v1 ⟨rfl, hb⟩; replace EX := Ext.trans EX hb; clear hb) | (go_at_call 11; with_reducible refine (P2 _ EX).mono ?_; rintro e v1 ⟨rfl, hb⟩; replace EX := Ext.trans EX hb; clear hb) | (go_at_call 11; with_reducible refine (P3 _ EX).mono ?_; rintro e v1 ⟨rfl, hb⟩; replace EX := Ext.trans EX hb; clear hb) | (go_at_call 11; with_reducible refine (P4 _ EX).mono ?_; rintro e v1 ⟨rfl, hb⟩; replace EX := Ext.trans EX hb; clear hb) | (go_at_call 13; with_reducible refine (XE _).mono ?_; rintro e v1 ⟨rfl, hb⟩; replace EX := Ext.trans EX hb; clear hb) | (go_at_call 16; with_reducible refine (is_yes _ _).mono ?_; rintro e v1 ⟨rfl, hb⟩; replace EX := Ext.trans EX hb; clear hb) | (go_at_call 15; with_reducible refine (LV _ EX).mono ?_; rintro e v1 ⟨rfl, hb⟩; replace EX := Ext.trans EX hb; clear hb))
  go_ret
  exact ⟨rfl, EX⟩
theorem whole_values : ∀ i : Nat, i < 31 → exq (((i : Int) - 16) * 65536) = 2 ^ i ∧ lgq (2 ^ i) = ((i : Int) - 16) * 65536 ∧ lge (2 ^ i) = 0 ∧ (0 : Int) < 2 ^ i ∧ (2 : Int) ^ i ≤ 1073741824 := by decide +kernel
theorem LL_values : LL 131072 = 1099511627776 ∧ LL 65536 = 0 ∧ held (two 0) = 65536 := by decide +kernel
theorem pwq_two {x : Int} (hx : In32 x) : pwq 131072 x = exq x := by
  unfold pwq
  by_cases h : x = 0
  · rw [if_pos h, h]; exact (lives_values.2.2.1).symm
  · rw [if_neg h, if_neg (by decide), if_pos (by decide)]
    unfold rsd exq
    rw [show (131072 : Int).toNat = 131072 from rfl, LL_values.1, show x * 1099511627776 = 16777216 * (x * 65536) by omega, nr_exact _ _ (by decide)]
theorem pwq_one {x : Int} (hx : In32 x) : pwq x 65536 = x := by
  obtain ⟨x0, x1⟩ := hx
  unfold pwq
  rw [if_neg (by decide)]
  by_cases h0 : x = 0
  · rw [if_pos h0, h0]
  · rw [if_neg h0]
    by_cases h1 : 0 < x
    · rw [if_pos h1, pow_one h1 (by omega)]
      exact held_id ⟨x0, x1⟩
    · rw [if_neg h1, if_pos (by decide), if_neg (by decide), pow_one (by omega) (by omega), Int.neg_neg]
      exact held_id ⟨x0, x1⟩
theorem pwq_of_one {x : Int} : pwq 65536 x = 65536 := by
  unfold pwq
  by_cases h : x = 0
  · rw [if_pos h]
  · rw [if_neg h, if_neg (by decide), if_pos (by decide)]
    unfold rsd
    rw [show (65536 : Int).toNat = 65536 from rfl, LL_values.2.1, Int.mul_zero, show nr 0 16777216 = 0 by decide]
    exact LL_values.2.2
theorem pwe_pos {a n : Int} (h : 0 < a) : pwe a n = 0 := by
  unfold pwe
  by_cases g : n = 0
  · rw [if_pos g]
  · rw [if_neg g, if_neg (show ¬ a = 0 by omega), if_pos h]
theorem pwe_whole (a n : Int) (hn : n % 65536 = 0) (h0 : ¬ n = 0) (ha : ¬ a = 0) : pwe a n = 0 := by
  unfold pwe
  rw [if_neg h0, if_neg ha, if_pos hn]
  by_cases h : 0 < a
  · rw [if_pos h]
  · rw [if_neg h]
theorem pwe_one (a : Int) : pwe a 65536 = 0 := by
  by_cases h : a = 0
  · subst h; decide
  · exact pwe_whole a 65536 (by decide) (by decide) h
theorem pwhole_law (x k : Int) (hx : In32 x) (hk : -128 ≤ k ∧ k < 128) (w : World) (L : Laid w) : Calls Tryd.prog 4 #[.int .i32 x, .int .i8 k] w fun e w' => e = .returned (.bool true) ∧ Ext w w' := by
  have LV := fun v E => lives_any w L v E
  have P1 := fun v E => pow_any 131072 x ⟨by decide, by decide⟩ hx w L v E
  have P2 := fun v E => pow_any x 65536 hx ⟨by decide, by decide⟩ w L v E
  have P3 := fun v E => pow_any x 0 hx ⟨by decide, by decide⟩ w L v E
  have P4 := fun v E => pow_any 65536 x ⟨by decide, by decide⟩ hx w L v E
  have XE := fun w => exp2_any x hx w
  rw [pwq_two hx, pwe_pos (by decide)] at P1
  rw [pwq_one hx, pwe_one] at P2
  rw [show pwq x 0 = 65536 by unfold pwq; rw [if_pos rfl], show pwe x 0 = 0 by unfold pwe; rw [if_pos rfl]] at P3
  rw [pwq_of_one, pwe_pos (by decide)] at P4
  by_cases h : -16 ≤ k ∧ k ≤ 14
  · obtain ⟨i, hi⟩ : ∃ i : Nat, (i : Int) = k + 16 := ⟨(k + 16).toNat, by omega⟩
    obtain ⟨v1, v2, v3, v4, v5⟩ := whole_values i (by omega)
    rw [show (i : Int) - 16 = k by omega] at v1 v2
    have hn : In32 (2 ^ i) := by unfold In32; omega
    have LN := fun w => log2_any (2 ^ i) hn w
    have EN := fun w => exp2_any (k * 65536) (by unfold In32; omega) w
    rw [v2, v3] at LN
    rw [v1] at EN
    refine pwhole_in x k _ (2 ^ i) h.1 h.2 ?_ LN EN w P1 P2 P3 P4 XE LV
    rw [show (k + 16).toNat = i by omega]
    exact wrap_in32 hn
  · exact pwhole_out x k _ hk.1 hk.2 (by omega) w P1 P2 P3 P4 XE LV
end Go.Proofs.YtbkifcfienhkaaaDoor
