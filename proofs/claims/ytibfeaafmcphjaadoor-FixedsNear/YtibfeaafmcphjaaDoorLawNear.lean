/- The walk of the given function FixedsNear: it returns true at every two numbers of 32 bits, where the package's table is as it was laid. -/
import Derived.Test.YtibfeaafmcphjaaDoorFixE
import Derived.Test.YtibfeaafmcphjaaDoorFixM
namespace Go.Proofs.YtibfeaafmcphjaaDoor
open Go.RowKit Go.BigFrame
set_option linter.unusedSimpArgs false
set_option linter.unusedVariables false

theorem within_any (x d : Int) (h1 : 2 * x ≤ d) (h2 : -2 * x ≤ d) (b : -4611686018427387904 < x ∧ x < 4611686018427387904) (w : World) : Calls Tryd.prog 34 #[.int .i64 x, .int .i64 d] w fun e w' => e = .returned (.bool true) ∧ Ext w w' := by
  have e1 : wrap64 (2 * x) = 2 * x := wrap_in64 ⟨by omega, by omega⟩
  have e2 : wrap64 (-2 * x) = -2 * x := wrap_in64 ⟨by omega, by omega⟩
  have e3 : wrap64 (-(2 * x)) = -2 * x := by rw [← e2]; congr 1; omega
  have h3 : -(2 * x) ≤ d := by omega
  clear b
  go_enter Tryd.func34, Tryd.ntmps34
  go_wp2
  go_ret
  exact ⟨by simp [e1, e2, h1, h2, h3], Ext.refl _⟩
theorem held_cases (x : Int) : (x < -2147483648 ∧ ¬ held x = x) ∨ (2147483647 < x ∧ ¬ held x = x) ∨ (¬ x < -2147483648 ∧ ¬ 2147483647 < x ∧ held x = x) := by
  unfold held
  by_cases h1 : x < -2147483648
  · rw [if_pos h1]; exact .inl ⟨h1, by omega⟩
  · rw [if_neg h1]
    by_cases h2 : 2147483647 < x
    · rw [if_pos h2]; exact .inr (.inl ⟨h2, by omega⟩)
    · rw [if_neg h2]; exact .inr (.inr ⟨h1, h2, rfl⟩)
theorem held_eq {q : Int} (h1 : ¬ held q = -2147483648) (h2 : ¬ held q = 2147483647) : held q = q := by
  unfold held at *
  by_cases c1 : q < -2147483648
  · rw [if_pos c1] at h1; exact absurd rfl h1
  · rw [if_neg c1] at h1 h2 ⊢
    by_cases c2 : 2147483647 < q
    · rw [if_pos c2] at h2; exact absurd rfl h2
    · rw [if_neg c2]
theorem mul32 {a b : Int} (ha : In32 a) (hb : In32 b) : -4611686018427387904 ≤ a * b ∧ a * b ≤ 4611686018427387904 := by
  have k := Int.natAbs_mul a b
  have ka : a.natAbs ≤ 2147483648 := by unfold In32 at ha; omega
  have kb : b.natAbs ≤ 2147483648 := by unfold In32 at hb; omega
  have := Nat.mul_le_mul ka kb
  omega
/-- What is told of a number against the ends: is it beyond, and is what is held another one. -/
def Beyond (x y : Int) : Prop := (decide (x < -2147483648) = true ∧ (y != x) = true) ∨ (decide (x < -2147483648) = false ∧ decide (2147483647 < x) = true ∧ (y != x) = true) ∨ (decide (x < -2147483648) = false ∧ decide (2147483647 < x) = false ∧ (y != x) = false)
theorem beyond (x : Int) : Beyond x (held x) := by
  have h := held_cases x
  unfold Beyond
  rcases h with ⟨h1, h2⟩ | ⟨h1, h2⟩ | ⟨h1, h2, h3⟩
  · exact .inl ⟨by simpa using h1, by simpa using h2⟩
  · exact .inr (.inl ⟨by simp; omega, by simpa using h1, by simpa using h2⟩)
  · exact .inr (.inr ⟨by simp; omega, by simp; omega, by simpa using h3⟩)
set_option maxRecDepth 20000 in
set_option maxHeartbeats 8000000 in
theorem near_walk (a b p m s d x1 x2 q e u : Int) (wa : wrap64 a = a) (wb : wrap64 b = b) (wp : wrap64 (a * b) = p) (wm : wrap64 m = m) (ws : wrap64 (a + b) = s) (wd : wrap64 (a - b) = d) (w1 : wrap64 x1 = x1) (w2 : wrap64 x2 = x2) (wu : wrap64 (m * 65536 - p) = u) (wv : wrap64 (m * 65536) = m * 65536) (w : World)
    (LV : ∀ v, Ext w v → Calls Tryd.prog 25 #[] v fun e w' => e = .returned (.bool true) ∧ Ext v w')
    (MU : ∀ w, Calls Tryd.prog 15 #[.int .i32 a, .int .i32 b] w fun e w' => e = .returned (.int .i32 m) ∧ Ext w w')
    (AD : ∀ w, Calls Tryd.prog 11 #[.int .i32 a, .int .i32 b] w fun e w' => e = .returned (.int .i32 x1) ∧ Ext w w')
    (SB : ∀ w, Calls Tryd.prog 13 #[.int .i32 a, .int .i32 b] w fun e w' => e = .returned (.int .i32 x2) ∧ Ext w w')
    (DV : ∀ w, Calls Tryd.prog 9 #[.int .i32 a, .int .i32 b] w fun e' w' => e' = .returned (.tuple #[.int .i32 q, .int .i64 e]) ∧ Ext w w')
    (hm : (m != -2147483648) = false ∨ ((m != -2147483648) = true ∧ (m != 2147483647) = false) ∨ ((m != -2147483648) = true ∧ (m != 2147483647) = true ∧ ∀ w, Calls Tryd.prog 34 #[.int .i64 u, .int .i64 65536] w fun e w' => e = .returned (.bool true) ∧ Ext w w'))
    (hs : Beyond s x1) (hd : Beyond d x2)
    (hz : ((b == 0) = true ∧ q = 0 ∧ e = 12) ∨ ((b == 0) = false ∧ e = 0 ∧ ∃ nb sz y z t, wrap64 (-b) = nb ∧ max b nb = sz ∧ wrap64 q = q ∧ wrap64 (q * b) = y ∧ wrap64 (a * 65536) = z ∧ wrap64 (y - z) = t ∧
      ((q == -2147483648) = true ∨ ((q == -2147483648) = false ∧ (q == 2147483647) = true) ∨ ((q == -2147483648) = false ∧ (q == 2147483647) = false ∧ ∀ w, Calls Tryd.prog 34 #[.int .i64 t, .int .i64 sz] w fun e w' => e = .returned (.bool true) ∧ Ext w w')))) :
    Calls Tryd.prog 6 #[.int .i32 a, .int .i32 b] w fun e w' => e = .returned (.bool true) ∧ Ext w w' := by
  have EX := Ext.refl w
  go_enter Tryd.func6, Tryd.ntmps6
  go_upto_region 3 with (first | (go_at_call 15; with_reducible refine (MU _).mono ?_; rintro e v1 ⟨rfl, hb⟩; replace EX := Ext.trans EX hb; clear hb))
  try simp only [wm, wp]
  go_cut [34] (fun s34 wc => s34 = .bool false ∧ Ext w wc)
  case first =>
    clear hs hd hz
    rcases hm with hm | ⟨hm, hm'⟩ | ⟨hm, hm', WI⟩
    · go_wp2_with fail
      go_meet
      case rel => exact ⟨rfl, EX⟩
    · go_wp2_with fail
      go_meet
      case rel => exact ⟨rfl, EX⟩
    · go_wp2_with (first | (go_at_call 34; with_reducible refine (WI _).mono ?_; rintro e v1 ⟨rfl, hb⟩; replace EX := Ext.trans EX hb; clear hb))
      go_meet
      case rel => exact ⟨rfl, EX⟩
  case rest =>
    clear EX hm
    obtain ⟨h34, EX⟩ := hcut
    subst h34
    go_upto_region 7 with fail
    try simp only [ws, wd]
    go_cut [72] (fun s72 wc => s72 = .bool false ∧ Ext w wc)
    case first =>
      clear hz
      rcases hs with ⟨hs, hs'⟩ | ⟨hs, hs', hs''⟩ | ⟨hs, hs', hs''⟩ <;> rcases hd with ⟨hd, hd'⟩ | ⟨hd, hd', hd''⟩ | ⟨hd, hd', hd''⟩
      all_goals
        go_wp2_with (first | (go_at_call 11; with_reducible refine (AD _).mono ?_; rintro e v1 ⟨rfl, hb⟩; replace EX := Ext.trans EX hb; clear hb) | (go_at_call 13; with_reducible refine (SB _).mono ?_; rintro e v1 ⟨rfl, hb⟩; replace EX := Ext.trans EX hb; clear hb))
        go_meet
        case rel => exact ⟨rfl, EX⟩
    case rest =>
      clear EX hs hd
      obtain ⟨h72, EX⟩ := hcut
      subst h72
      rcases hz with ⟨hb, rfl, rfl⟩ | ⟨hb, rfl, nb, sz, y, z, t, wnb, hsz, wq, wy, wz, wt, hq⟩
      · go_wp2_with (first | (go_at_call 9; with_reducible refine (DV _).mono ?_; rintro e v1 ⟨rfl, hb⟩; replace EX := Ext.trans EX hb; clear hb) | (go_at_call 25; with_reducible refine (LV _ EX).mono ?_; rintro e v1 ⟨rfl, hb⟩; replace EX := Ext.trans EX hb; clear hb))
        go_ret
        exact ⟨rfl, EX⟩
      · rcases hq with hq | ⟨hq, hq'⟩ | ⟨hq, hq', WI⟩
        · go_wp2_with (first | (go_at_call 9; with_reducible refine (DV _).mono ?_; rintro e v1 ⟨rfl, hb⟩; replace EX := Ext.trans EX hb; clear hb) | (go_at_call 25; with_reducible refine (LV _ EX).mono ?_; rintro e v1 ⟨rfl, hb⟩; replace EX := Ext.trans EX hb; clear hb))
          go_ret
          exact ⟨rfl, EX⟩
        · go_wp2_with (first | (go_at_call 9; with_reducible refine (DV _).mono ?_; rintro e v1 ⟨rfl, hb⟩; replace EX := Ext.trans EX hb; clear hb) | (go_at_call 25; with_reducible refine (LV _ EX).mono ?_; rintro e v1 ⟨rfl, hb⟩; replace EX := Ext.trans EX hb; clear hb))
          go_ret
          exact ⟨rfl, EX⟩
        · go_wp2_with (first | (go_at_call 9; with_reducible refine (DV _).mono ?_; rintro e v1 ⟨rfl, hb⟩; replace EX := Ext.trans EX hb; clear hb) | (go_at_call 34; with_reducible refine (WI _).mono ?_; rintro e v1 ⟨rfl, hb⟩; replace EX := Ext.trans EX hb; clear hb) | (go_at_call 25; with_reducible refine (LV _ EX).mono ?_; rintro e v1 ⟨rfl, hb⟩; replace EX := Ext.trans EX hb; clear hb))
          go_ret
          exact ⟨rfl, EX⟩
theorem rat_near {a b : Int} (ha : In32 a) (hb : In32 b) (h0 : ¬ b = 0) (h1 : ¬ rat a b = -2147483648) (h2 : ¬ rat a b = 2147483647) : 2 * (rat a b * b - a * 65536) ≤ max b (-b) ∧ -2 * (rat a b * b - a * 65536) ≤ max b (-b) := by
  unfold rat at *
  rw [if_neg h0] at h1 h2 ⊢
  rw [held_eq h1 h2]
  unfold nrs
  by_cases h : b < 0
  · rw [if_pos h]
    have k := nr_is (-(a * 65536)) (-b) (by omega)
    generalize nr (-(a * 65536)) (-b) = q at *
    rw [Int.neg_mul, Int.mul_comm b q] at k
    generalize q * b = t at *
    omega
  · rw [if_neg h]
    have k := nr_is (a * 65536) b (by omega)
    generalize nr (a * 65536) b = q at *
    rw [Int.mul_comm b q] at k
    generalize q * b = t at *
    omega
theorem rat_in (a b : Int) : In32 (rat a b) := by
  unfold rat
  split
  · exact ⟨by decide, by decide⟩
  · exact held_in _
theorem near_law (a b : Int) (ha : In32 a) (hb : In32 b) (w : World) (L : Laid w) : Calls Tryd.prog 6 #[.int .i32 a, .int .i32 b] w fun e w' => e = .returned (.bool true) ∧ Ext w w' := by
  have hp := mul32 ha hb
  have hm := held_in (nr (a * b) 65536)
  have hpi : In64 (a * b) := ⟨by omega, by omega⟩
  have hmi : In64 (held (nr (a * b) 65536) * 65536) := by unfold In32 In64 at *; omega
  have hui : -4611686018427387904 - 140737488355328 ≤ held (nr (a * b) 65536) * 65536 - a * b ∧ held (nr (a * b) 65536) * 65536 - a * b ≤ 4611686018427387904 + 140737488355328 := by unfold In32 at hm; omega
  refine near_walk a b (a * b) _ (a + b) (a - b) _ _ _ _ _ (wrap_in64 (in32_64 ha)) (wrap_in64 (in32_64 hb)) (wrap_in64 hpi) (wrap_in64 (in32_64 hm)) (wrap_in64 (by unfold In32 In64 at *; omega)) (wrap_in64 (by unfold In32 In64 at *; omega)) (wrap_in64 (in32_64 (held_in _))) (wrap_in64 (in32_64 (held_in _)))
    (wrap_in64 (by unfold In64; omega)) (wrap_in64 hmi) w (fun v E => lives_any w L v E) (fun w => fmul_any a b ha hb w) (fun w => fadd_any a b ha hb w) (fun w => fsub_any a b ha hb w) (fun w => fdiv_any a b ha hb w) ?_ (beyond _) (beyond _) ?_
  · by_cases h1 : held (nr (a * b) 65536) = -2147483648
    · exact .inl (by simpa using h1)
    · by_cases h2 : held (nr (a * b) 65536) = 2147483647
      · exact .inr (.inl ⟨by simpa using h1, by simpa using h2⟩)
      · refine .inr (.inr ⟨by simpa using h1, by simpa using h2, fun w => ?_⟩)
        have k := nr_is (a * b) 65536 (by decide)
        have e := held_eq h1 h2
        rw [e] at hui hm ⊢
        have f : nr (a * b) 65536 * 65536 = 65536 * nr (a * b) 65536 := Int.mul_comm _ _
        generalize nr (a * b) 65536 = t at *
        exact within_any _ _ (by omega) (by omega) (by omega) w
  · by_cases h0 : b = 0
    · refine .inl ⟨by simpa using h0, ?_, ?_⟩
      · unfold rat; rw [if_pos h0]
      · unfold rate; rw [if_pos h0]
    · refine .inr ⟨by simpa using h0, ?_, -b, max b (-b), rat a b * b, a * 65536, rat a b * b - a * 65536, wrap_in64 ?_, rfl, wrap_in64 (in32_64 (rat_in a b)), ?_, ?_, ?_, ?_⟩
      · unfold rate; rw [if_neg h0]
      · unfold In32 In64 at *; omega
      · have := mul32 (rat_in a b) hb
        exact wrap_in64 ⟨by omega, by omega⟩
      · exact wrap_in64 (by unfold In32 In64 at *; omega)
      · have := mul32 (rat_in a b) hb
        exact wrap_in64 (by unfold In32 In64 at *; omega)
      · by_cases h1 : rat a b = -2147483648
        · exact .inl (by simpa using h1)
        · by_cases h2 : rat a b = 2147483647
          · exact .inr (.inl ⟨by simpa using h1, by simpa using h2⟩)
          · refine .inr (.inr ⟨by simpa using h1, by simpa using h2, fun w => ?_⟩)
            have k := rat_near ha hb h0 h1 h2
            have r := mul32 (rat_in a b) hb
            exact within_any _ _ k.1 k.2 (by unfold In32 at *; omega) w
end Go.Proofs.YtibfeaafmcphjaaDoor
