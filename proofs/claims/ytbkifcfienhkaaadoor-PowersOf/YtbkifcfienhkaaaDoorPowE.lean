/- What Exp2, Log2 and Pow of package powers do, called at any fixes. -/
import Derived.Test.YtbkifcfienhkaaaDoorPowD
namespace Go.Proofs.YtbkifcfienhkaaaDoor
open Go.RowKit Go.BigFrame
set_option linter.unusedSimpArgs false
set_option linter.unusedVariables false
theorem nst_in (p : Nat) (hp : p < 9223372036854775808) (u : Int) : 0 ≤ nst p u ∧ nst p u ≤ 2147483648 := by
  unfold nst
  by_cases h1 : 15 ≤ u
  · rw [if_pos h1]; omega
  · rw [if_neg h1]
    by_cases h2 : u ≤ -18
    · rw [if_pos h2]; omega
    · rw [if_neg h2]
      obtain ⟨k, hk, k0, k1⟩ : ∃ k : Nat, 46 - u = (k : Int) ∧ 32 ≤ k ∧ k ≤ 63 := ⟨(46 - u).toNat, by omega, by omega, by omega⟩
      rw [show (45 - u).toNat = k - 1 by omega, hk, Int.toNat_natCast]
      have e : 2 ^ k = 2 * 2 ^ (k - 1) := by rw [show k = (k - 1) + 1 by omega, Nat.pow_succ, Nat.mul_comm]; rfl
      have b1 : 2 ^ 31 ≤ 2 ^ (k - 1) := Nat.pow_le_pow_right (by decide) (by omega)
      rw [e]
      generalize 2 ^ (k - 1) = c at *
      rw [show (2 : Nat) ^ 31 = 2147483648 from rfl] at b1
      refine ⟨Int.natCast_nonneg _, ?_⟩
      have : (p + c) / (2 * c) ≤ 2147483648 := by
        rw [Nat.div_le_iff_le_mul_add_pred (by omega)]
        omega
      omega
theorem two_in (e : Int) : 0 ≤ two e ∧ two e ≤ 2147483648 := nst_in _ (PP_lt _) _
theorem two_64 (e : Int) : In64 (two e) := by have := two_in e; unfold In64; omega
theorem exp2_any (x : Int) (hx : In32 x) (w : World) : Calls Tryd.prog 13 #[.int .i32 x] w fun e w' => e = .returned (.int .i32 (exq x)) ∧ Ext w w' := by
  have EX := Ext.refl w
  obtain ⟨x0, x1⟩ := hx
  have T := fun w => twoTo_any (x * 65536) ⟨by omega, by omega⟩ w
  have N := fun w => nearest_any' (PP (x * 65536 % 4294967296).toNat) (PP_lt _) (x * 65536 / 4294967296) w
  have S := fun w => sat_any (two (x * 65536)) (two_64 _) w
  rw [show nst (PP (x * 65536 % 4294967296).toNat) (x * 65536 / 4294967296) = two (x * 65536) from rfl] at N
  unfold exq
  generalize held (two (x * 65536)) = r at *
  generalize two (x * 65536) = t at *
  generalize (PP (x * 65536 % 4294967296).toNat : Int) = p at *
  generalize x * 65536 / 4294967296 = q at *
  go_enter Tryd.func13, Tryd.ntmps13
  go_wp2_with (first | (go_at_call 35; with_reducible refine (T _).mono ?_; rintro e v1 ⟨rfl, hb⟩; replace EX := Ext.trans EX hb; clear hb) | (go_at_call 36; with_reducible refine (N _).mono ?_; rintro e v1 ⟨rfl, hb⟩; replace EX := Ext.trans EX hb; clear hb) | (go_at_call 26; with_reducible refine (S _).mono ?_; rintro e v1 ⟨rfl, hb⟩; replace EX := Ext.trans EX hb; clear hb))
  go_ret
  exact ⟨rfl, EX⟩
theorem nr_small {x d : Int} (hd : 0 < d) {b : Int} (h0 : -(b * d) ≤ x) (h1 : x ≤ b * d) : -b ≤ nr x d ∧ nr x d ≤ b + 1 := by
  have e1 : -b ≤ x / d := by rw [Int.le_ediv_iff_mul_le hd, Int.neg_mul]; exact h0
  have e2 : x / d ≤ b := by
    have : x / d < b + 1 := by rw [Int.ediv_lt_iff_lt_mul hd, Int.add_mul]; omega
    omega
  unfold nr
  split <;> omega
theorem LL_nr {x : Nat} (h0 : 0 < x) (h1 : x ≤ 2147483648) : -1048576 ≤ nr (LL x) 16777216 ∧ nr (LL x) 16777216 ≤ 1048577 := by
  obtain ⟨a, b⟩ := LL_in h0 h1
  exact nr_small (b := 1048576) (by decide) (by omega) (by omega)
theorem log2_neg (x : Int) (hx : x ≤ 0) (w : World) : Calls Tryd.prog 9 #[.int .i32 x] w fun e w' => e = .returned (.tuple #[.int .i32 0, .int .i64 1]) ∧ Ext w w' := by
  go_enter Tryd.func9, Tryd.ntmps9
  go_wp2
  go_ret2
  exact ⟨rfl, Ext.refl _⟩
theorem log2_pos (x : Int) (h0 : 0 < x) (h1 : x ≤ 2147483647) (w : World) : Calls Tryd.prog 9 #[.int .i32 x] w fun e w' => e = .returned (.tuple #[.int .i32 (nr (LL x.toNat) 16777216), .int .i64 0]) ∧ Ext w w' := by
  have EX := Ext.refl w
  obtain ⟨a, b⟩ := LL_in (x := x.toNat) (by omega) (by omega)
  obtain ⟨c, d⟩ := LL_nr (x := x.toNat) (by omega) (by omega)
  have G := fun w => longLog_any x.toNat (by omega) (by omega) w
  rw [show ((x.toNat : Nat) : Int) = x by omega] at G
  have O := fun w => of_any (LL x.toNat) ⟨by omega, by omega⟩ w
  have S := fun w => shorter_any (LL x.toNat) (by unfold InW; omega) (by unfold In64; omega) w
  have hx : ¬ x ≤ 0 := by omega
  generalize nr (LL x.toNat) 16777216 = r at *
  generalize LL x.toNat = l at *
  have hw : wrap32 r = r := wrap_in32 ⟨by omega, by omega⟩
  go_enter Tryd.func9, Tryd.ntmps9
  go_wp2_with (first | (go_at_call 22; with_reducible refine (G _).mono ?_; rintro e v1 ⟨rfl, hb⟩; replace EX := Ext.trans EX hb; clear hb) | (go_at_call 21; with_reducible refine (O _).mono ?_; rintro e v1 ⟨rfl, hb⟩; replace EX := Ext.trans EX hb; clear hb) | (go_at_call 20; with_reducible refine (S _).mono ?_; rintro e v1 ⟨rfl, hb⟩; replace EX := Ext.trans EX hb; clear hb))
  go_ret2
  exact ⟨rfl, EX⟩
theorem log2_any (x : Int) (hx : In32 x) (w : World) : Calls Tryd.prog 9 #[.int .i32 x] w fun e w' => e = .returned (.tuple #[.int .i32 (lgq x), .int .i64 (lge x)]) ∧ Ext w w' := by
  unfold lgq lge
  by_cases h : x ≤ 0
  · rw [if_pos h, if_pos h]; exact log2_neg x h w
  · rw [if_neg h, if_neg h]; exact log2_pos x (by omega) hx.2 w
theorem raised_in {a n : Int} (h0 : 0 < a) (h1 : a ≤ 2147483648) (hn : In32 n) : In64 (LL a.toNat) ∧ InW (n * LL a.toNat) ∧ In64 (nr (n * LL a.toNat) 16777216) := by
  obtain ⟨c, d⟩ := LL_in (x := a.toNat) (by omega) (by omega)
  generalize LL a.toNat = l at *
  obtain ⟨n0, n1⟩ := hn
  have hb : -(2251799813685248 * 16777216) ≤ n * l ∧ n * l ≤ 2251799813685248 * 16777216 := by
    have k := Int.natAbs_mul n l
    have := Nat.mul_le_mul (show n.natAbs ≤ 2147483648 by omega) (show l.natAbs ≤ 17592186044416 by omega)
    omega
  have := nr_small (x := n * l) (d := 16777216) (by decide) hb.1 hb.2
  exact ⟨⟨by omega, by omega⟩, ⟨by omega, by omega⟩, ⟨by omega, by omega⟩⟩
theorem raised_any (a n : Int) (h0 : 0 < a) (h1 : a ≤ 2147483648) (hn : In32 n) (w : World) : Calls Tryd.prog 27 #[.int .i64 a, .int .i32 n] w fun e w' => e = .returned (.int .i64 (rsd a n)) ∧ Ext w w' := by
  have EX := Ext.refl w
  obtain ⟨b1, b2, b3⟩ := raised_in h0 h1 hn
  have G := fun w => longLog_any a.toNat (by omega) (by omega) w
  rw [show ((a.toNat : Nat) : Int) = a by omega] at G
  have M := fun w => mul_any n (LL a.toNat) (in32_64 hn) b1 w
  have S := fun w => shorter_any (n * LL a.toNat) b2 b3 w
  unfold rsd
  have T := fun w => twoTo_any (nr (n * LL a.toNat) 16777216) b3 w
  have N := fun w => nearest_any' (PP (nr (n * LL a.toNat) 16777216 % 4294967296).toNat) (PP_lt _) (nr (n * LL a.toNat) 16777216 / 4294967296) w
  rw [show nst (PP (nr (n * LL a.toNat) 16777216 % 4294967296).toNat) (nr (n * LL a.toNat) 16777216 / 4294967296) = two (nr (n * LL a.toNat) 16777216) from rfl] at N
  generalize two (nr (n * LL a.toNat) 16777216) = t at *
  generalize (PP (nr (n * LL a.toNat) 16777216 % 4294967296).toNat : Int) = p at *
  generalize nr (n * LL a.toNat) 16777216 / 4294967296 = q at *
  generalize nr (n * LL a.toNat) 16777216 = r at *
  generalize n * LL a.toNat = m at *
  generalize LL a.toNat = l at *
  have hw := wrap_in64 (in32_64 hn)
  clear hn b1 b2 b3
  go_enter Tryd.func27, Tryd.ntmps27
  go_wp2_with (first | (go_at_call 22; with_reducible refine (G _).mono ?_; rintro e v1 ⟨rfl, hb⟩; replace EX := Ext.trans EX hb; clear hb) | (go_at_call 38; with_reducible refine (M _).mono ?_; rintro e v1 ⟨rfl, hb⟩; replace EX := Ext.trans EX hb; clear hb) | (go_at_call 20; with_reducible refine (S _).mono ?_; rintro e v1 ⟨rfl, hb⟩; replace EX := Ext.trans EX hb; clear hb) | (go_at_call 35; with_reducible refine (T _).mono ?_; rintro e v1 ⟨rfl, hb⟩; replace EX := Ext.trans EX hb; clear hb) | (go_at_call 36; with_reducible refine (N _).mono ?_; rintro e v1 ⟨rfl, hb⟩; replace EX := Ext.trans EX hb; clear hb))
  go_ret
  exact ⟨rfl, EX⟩
theorem and16 (m : Nat) : m &&& 65536 = m / 65536 % 2 * 65536 := by
  apply Nat.eq_of_testBit_eq
  intro i
  rw [Nat.testBit_and, show (65536 : Nat) = 2 ^ 16 from rfl, Nat.testBit_two_pow, Nat.testBit_mul_two_pow]
  by_cases h : 16 = i
  · subst h
    rw [decide_eq_true rfl, Bool.and_true, decide_eq_true (Nat.le_refl 16), Bool.true_and, Nat.testBit_eq_decide_div_mod_eq, Nat.sub_self, Nat.testBit_zero, Nat.mod_mod]
  · rw [decide_eq_false h, Bool.and_false]
    by_cases g : 16 ≤ i
    · rw [decide_eq_true g, Bool.true_and]
      obtain ⟨j, rfl⟩ : ∃ j, i = 16 + (j + 1) := ⟨i - 17, by omega⟩
      rw [show 16 + (j + 1) - 16 = j + 1 by omega, Nat.testBit_succ, show m / 2 ^ 16 % 2 / 2 = 0 by omega, Nat.zero_testBit]
    · rw [decide_eq_false g, Bool.false_and]
/-- The bit that tells odd from even. -/
theorem bit16 (x : Int) : bits .and .i32 x 65536 = x / 65536 % 2 * 65536 := by
  have h1 : (BitVec.ofInt 32 x).toNat = (x % 4294967296).toNat := by rw [BitVec.toNat_ofInt]; rfl
  have h2 : (BitVec.ofInt 32 (65536 : Int)).toNat = 65536 := by decide
  show IntKind.i32.wrap ((BitVec.ofInt 32 x &&& BitVec.ofInt 32 (65536 : Int)).toNat : Int) = _
  rw [BitVec.toNat_and, h1, h2, and16]
  have h4 : ((((x % 4294967296).toNat / 65536 % 2 * 65536 : Nat)) : Int) = x / 65536 % 2 * 65536 := by omega
  rw [h4]
  simp [IntKind.wrap, IntKind.signed, IntKind.bits]
  omega

theorem pow_zero (a : Int) (w : World) : Calls Tryd.prog 11 #[.int .i32 a, .int .i32 0] w fun e w' => e = .returned (.tuple #[.int .i32 65536, .int .i64 0]) ∧ Ext w w' := by
  go_enter Tryd.func11, Tryd.ntmps11
  go_wp2
  go_ret2
  exact ⟨rfl, Ext.refl _⟩
theorem pow_none (n : Int) (hn : n < 0) (w : World) : Calls Tryd.prog 11 #[.int .i32 0, .int .i32 n] w fun e w' => e = .returned (.tuple #[.int .i32 0, .int .i64 12]) ∧ Ext w w' := by
  have h : ¬ n = 0 := by omega
  go_enter Tryd.func11, Tryd.ntmps11
  go_wp2
  go_ret2
  exact ⟨rfl, Ext.refl _⟩
theorem pow_nought (n : Int) (hn : 0 < n) (w : World) : Calls Tryd.prog 11 #[.int .i32 0, .int .i32 n] w fun e w' => e = .returned (.tuple #[.int .i32 0, .int .i64 0]) ∧ Ext w w' := by
  have h : ¬ n = 0 := by omega
  have h' : ¬ n < 0 := by omega
  go_enter Tryd.func11, Tryd.ntmps11
  go_wp2
  go_ret2
  exact ⟨rfl, Ext.refl _⟩
theorem pow_above (a n r s : Int) (ha : 0 < a) (hn : (n == 0) = false) (h1 : ¬ a = 0) (hw : wrap64 a = a) (RS : ∀ w, Calls Tryd.prog 27 #[.int .i64 a, .int .i32 n] w fun e w' => e = .returned (.int .i64 r) ∧ Ext w w')
    (S : ∀ w, Calls Tryd.prog 26 #[.int .i64 r] w fun e w' => e = .returned (.int .i32 s) ∧ Ext w w') (w : World) : Calls Tryd.prog 11 #[.int .i32 a, .int .i32 n] w fun e w' => e = .returned (.tuple #[.int .i32 s, .int .i64 0]) ∧ Ext w w' := by
  have EX := Ext.refl w
  go_enter Tryd.func11, Tryd.ntmps11
  go_wp2_with (first | (go_at_call 27; with_reducible refine (RS _).mono ?_; rintro e v1 ⟨rfl, hb⟩; replace EX := Ext.trans EX hb; clear hb) | (go_at_call 26; with_reducible refine (S _).mono ?_; rintro e v1 ⟨rfl, hb⟩; replace EX := Ext.trans EX hb; clear hb))
  go_ret2
  exact ⟨rfl, EX⟩
set_option maxHeartbeats 4000000 in
theorem pow_broken (a n d : Int) (ha : a < 0) (hn : (n == 0) = false) (h1 : ¬ a = 0) (h2 : ¬ 0 < a) (hd : (d != n) = true) (w0 : World) (FL : ∀ w, Ext w0 w → Calls Tryd.prog 28 #[.int .i32 n] w fun e w' => e = .returned (.int .i32 d) ∧ Ext w w') (w : World) (E : Ext w0 w) : Calls Tryd.prog 11 #[.int .i32 a, .int .i32 n] w fun e w' => e = .returned (.tuple #[.int .i32 0, .int .i64 1]) ∧ Ext w w' := by
  have EX := Ext.refl w
  go_enter Tryd.func11, Tryd.ntmps11
  go_wp2_with (go_at_call 28; with_reducible refine (FL _ (Ext.trans E EX)).mono ?_; rintro e v1 ⟨rfl, hb⟩; replace EX := Ext.trans EX hb; clear hb)
  go_ret2
  exact ⟨rfl, EX⟩
set_option maxHeartbeats 4000000 in
theorem pow_even (a n d c r s : Int) (ha : a < 0) (hn : (n == 0) = false) (h1 : ¬ a = 0) (h2 : ¬ 0 < a) (hd : (d != n) = false) (hb : (bits .and .i32 n 65536 == 0) = true) (hw : wrap64 a = a) (hc : wrap64 (-a) = c) (w0 : World) (FL : ∀ w, Ext w0 w → Calls Tryd.prog 28 #[.int .i32 n] w fun e w' => e = .returned (.int .i32 d) ∧ Ext w w')
    (RS : ∀ w, Calls Tryd.prog 27 #[.int .i64 c, .int .i32 n] w fun e w' => e = .returned (.int .i64 r) ∧ Ext w w')
    (S : ∀ w, Calls Tryd.prog 26 #[.int .i64 r] w fun e w' => e = .returned (.int .i32 s) ∧ Ext w w') (w : World) (E : Ext w0 w) : Calls Tryd.prog 11 #[.int .i32 a, .int .i32 n] w fun e w' => e = .returned (.tuple #[.int .i32 s, .int .i64 0]) ∧ Ext w w' := by
  have EX := Ext.refl w
  go_enter Tryd.func11, Tryd.ntmps11
  go_wp2_with (first | (go_at_call 28; with_reducible refine (FL _ (Ext.trans E EX)).mono ?_; rintro e v1 ⟨rfl, hb⟩; replace EX := Ext.trans EX hb; clear hb) | first | (go_at_call 27; with_reducible refine (RS _).mono ?_; rintro e v1 ⟨rfl, hb⟩; replace EX := Ext.trans EX hb; clear hb) | (go_at_call 26; with_reducible refine (S _).mono ?_; rintro e v1 ⟨rfl, hb⟩; replace EX := Ext.trans EX hb; clear hb))
  go_ret2
  exact ⟨rfl, EX⟩
set_option maxHeartbeats 4000000 in
theorem pow_odd (a n d c r t s : Int) (ha : a < 0) (hn : (n == 0) = false) (h1 : ¬ a = 0) (h2 : ¬ 0 < a) (hd : (d != n) = false) (hb : (bits .and .i32 n 65536 == 0) = false) (hw : wrap64 a = a) (hc : wrap64 (-a) = c) (w0 : World) (FL : ∀ w, Ext w0 w → Calls Tryd.prog 28 #[.int .i32 n] w fun e w' => e = .returned (.int .i32 d) ∧ Ext w w')
    (RS : ∀ w, Calls Tryd.prog 27 #[.int .i64 c, .int .i32 n] w fun e w' => e = .returned (.int .i64 r) ∧ Ext w w') (ht : wrap64 (-r) = t)
    (S : ∀ w, Calls Tryd.prog 26 #[.int .i64 t] w fun e w' => e = .returned (.int .i32 s) ∧ Ext w w') (w : World) (E : Ext w0 w) : Calls Tryd.prog 11 #[.int .i32 a, .int .i32 n] w fun e w' => e = .returned (.tuple #[.int .i32 s, .int .i64 0]) ∧ Ext w w' := by
  have EX := Ext.refl w
  go_enter Tryd.func11, Tryd.ntmps11
  go_wp2_with (first | (go_at_call 28; with_reducible refine (FL _ (Ext.trans E EX)).mono ?_; rintro e v1 ⟨rfl, hb⟩; replace EX := Ext.trans EX hb; clear hb) | first | (go_at_call 27; with_reducible refine (RS _).mono ?_; rintro e v1 ⟨rfl, hb⟩; replace EX := Ext.trans EX hb; clear hb) | (go_at_call 26; with_reducible refine (S _).mono ?_; rintro e v1 ⟨rfl, hb⟩; replace EX := Ext.trans EX hb; clear hb))
  go_ret2
  exact ⟨rfl, EX⟩
theorem held_dn {n : Int} (h : In32 n) : held (dn n) = dn n := held_id (by unfold In32 dn at *; omega)
theorem pow_any (a n : Int) (ha : In32 a) (hn : In32 n) (w0 : World) (L : Laid w0) (w : World) (E : Ext w0 w) : Calls Tryd.prog 11 #[.int .i32 a, .int .i32 n] w fun e w' => e = .returned (.tuple #[.int .i32 (pwq a n), .int .i64 (pwe a n)]) ∧ Ext w w' := by
  unfold pwq pwe
  obtain ⟨a0, a1⟩ := ha
  by_cases h0 : n = 0
  · subst h0; rw [if_pos rfl, if_pos rfl]; exact pow_zero a w
  · rw [if_neg h0, if_neg h0]
    have hn0 : (n == 0) = false := by simpa using h0
    by_cases h1 : a = 0
    · subst h1
      rw [if_pos rfl, if_pos rfl]
      by_cases h2 : n < 0
      · rw [if_pos h2]; exact pow_none n h2 w
      · rw [if_neg h2]; exact pow_nought n (by omega) w
    · rw [if_neg h1, if_neg h1]
      by_cases h2 : 0 < a
      · rw [if_pos h2, if_pos h2]
        exact pow_above a n _ _ h2 hn0 h1 (wrap_in64 ⟨by omega, by omega⟩) (fun w => raised_any a n h2 (by omega) hn w) (fun w => sat_any _ (two_64 _) w) w
      · rw [if_neg h2, if_neg h2]
        have FL := fun w E => ffloor_any n hn w0 L w E
        rw [held_dn hn] at FL
        by_cases h3 : n % 65536 = 0
        · rw [if_pos h3, if_pos h3]
          have hd : (dn n != n) = false := by unfold dn; rw [h3]; simp
          by_cases h4 : n / 65536 % 2 = 0
          · rw [if_pos h4]
            exact pow_even a n _ (-a) _ _ (by omega) hn0 h1 h2 hd (by rw [bit16, h4]; rfl) (wrap_in64 ⟨by omega, by omega⟩) (wrap_in64 ⟨by omega, by omega⟩) w0 FL (fun w => raised_any (-a) n (by omega) (by omega) hn w) (fun w => sat_any _ (two_64 _) w) w E
          · rw [if_neg h4]
            have ht := two_in (nr (n * LL (-a).toNat) 16777216)
            have hr : In64 (-rsd (-a) n) := by unfold rsd In64; omega
            exact pow_odd a n _ (-a) _ _ _ (by omega) hn0 h1 h2 hd (by rw [bit16, show n / 65536 % 2 = 1 by omega]; rfl) (wrap_in64 ⟨by omega, by omega⟩) (wrap_in64 ⟨by omega, by omega⟩) w0 FL (fun w => raised_any (-a) n (by omega) (by omega) hn w) (wrap_in64 hr) (fun w => sat_any _ hr w) w E
        · rw [if_neg h3, if_neg h3]
          exact pow_broken a n _ (by omega) hn0 h1 h2 (by unfold dn; simp; omega) w0 FL w E
end Go.Proofs.YtbkifcfienhkaaaDoor
