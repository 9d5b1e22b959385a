/- The walk of the given function RootsLog: it returns true at every two numbers of 32 bits and every number of 64. -/
import Derived.Test.YtcknfangjodoiaaRootD
namespace Go.Proofs.Ytcknfangjodoiaa
open Go.RowKit Go.BigFrame
set_option linter.unusedSimpArgs false
set_option linter.unusedVariables false

theorem pow_between {s t : Nat} {x : Int} (h1 : ((2 ^ s : Nat) : Int) ≤ x) (h2 : x < ((2 ^ t : Nat) : Int)) : s < t :=
  (Nat.pow_lt_pow_iff_right (by decide : 1 < 2)).1 (Int.ofNat_lt.1 (Int.lt_of_le_of_lt h1 h2))
theorem lg_mul {a b : Int} (ha : InU64 a) (hb : InU64 b) (hab : InU64 (a * b)) (pa : 0 < a) (pb : 0 < b) : lg (a * b) = lg a + lg b ∨ lg (a * b) = lg a + lg b + 1 := by
  obtain ⟨s, es, _, s1, s2⟩ := lg_pow ha pa
  obtain ⟨t, et, _, t1, t2⟩ := lg_pow hb pb
  obtain ⟨p, ep, _, p1, p2⟩ := lg_pow hab (Int.mul_pos pa pb)
  have u1 : ((2 ^ (s + t) : Nat) : Int) ≤ a * b := by
    rw [Nat.pow_add, Int.natCast_mul]
    exact Int.mul_le_mul s1 t1 (Int.natCast_nonneg _) (by omega)
  have u2 : a * b < ((2 ^ (s + 1 + (t + 1)) : Nat) : Int) := by
    rw [Nat.pow_add, Int.natCast_mul]
    exact Int.mul_lt_mul s2 (Int.le_of_lt t2) pb (Int.natCast_nonneg _)
  have := pow_between u1 p2
  have := pow_between p1 u2
  omega
theorem shr_one {n : Int} {k : Nat} (h1 : ((2 ^ k : Nat) : Int) ≤ n) (h2 : n < ((2 ^ (k + 1) : Nat) : Int)) : n / 2 ^ k = 1 := by
  have e : (2 : Int) ^ k = ((2 ^ k : Nat) : Int) := by exact_mod_cast rfl
  rw [Nat.pow_succ] at h2
  rw [e]
  have hp : 0 < 2 ^ k := Nat.two_pow_pos k
  generalize 2 ^ k = d at *
  have a : n / (d : Int) < 2 := Int.ediv_lt_of_lt_mul (by omega) (by omega)
  have b : 1 ≤ n / (d : Int) := Int.le_ediv_of_mul_le (by omega) (by omega)
  omega
set_option maxHeartbeats 4000000 in
theorem log_walk (a b n c p s t : Int) (k : Nat) (ha : 0 ≤ a ∧ a ≤ 4294967295) (hb : 0 ≤ b ∧ b ≤ 4294967295) (n0 : 0 ≤ n) (n1 : n < 18446744073709551616)
    (hn : n = 0 ∧ lg n = -1 ∨ 0 < n ∧ lg n = (k : Int) ∧ k ≤ 63 ∧ n / 2 ^ k = 1) (hc : IntKind.u64.wrap (a * b) = c) (ps : 0 < a → 0 < b → p = s + t ∨ p = s + t + 1)
    (sb : -1 ≤ s ∧ s ≤ 63) (tb : -1 ≤ t ∧ t ≤ 63)
    (LN : ∀ w, Calls Try.prog 15 #[.int .u64 n] w fun e w' => e = .returned (.int .i64 (lg n)) ∧ Ext w w')
    (LC : ∀ w, Calls Try.prog 15 #[.int .u64 c] w fun e w' => e = .returned (.int .i64 p) ∧ Ext w w')
    (LA : ∀ w, Calls Try.prog 15 #[.int .u64 a] w fun e w' => e = .returned (.int .i64 s) ∧ Ext w w')
    (LB : ∀ w, Calls Try.prog 15 #[.int .u64 b] w fun e w' => e = .returned (.int .i64 t) ∧ Ext w w') (w : World) :
    Calls Try.prog 8 #[.int .u32 a, .int .u32 b, .int .u64 n] w fun e w' => e = .returned (.bool true) ∧ Ext w w' := by
  have EX := Ext.refl w
  obtain ⟨a0, a1⟩ := ha
  obtain ⟨b0, b1⟩ := hb
  obtain ⟨s0, s1⟩ := sb
  obtain ⟨t0, t1⟩ := tb
  have LV := lives_any
  by_cases za : a = 0
  · subst za
    clear LC LA LB ps
    rcases hn with ⟨rfl, h2⟩ | ⟨h1, h2, h3, h4⟩
    · rw [h2] at LN
      clear h2
      go_enter Try.func8, Try.ntmps8
      go_wp2_with (first | (go_at_call 15; with_reducible refine (LN _).mono ?_; rintro e v1 ⟨rfl, hb⟩; replace EX := Ext.trans EX hb; clear hb) | (go_at_call 17; with_reducible refine (LV _).mono ?_; rintro e v1 ⟨rfl, hb⟩; replace EX := Ext.trans EX hb; clear hb))
      go_ret
      exact ⟨rfl, EX⟩
    · rw [h2] at LN
      clear h2
      have k0 : (k : Int) ≤ 63 := by omega
      go_enter Try.func8, Try.ntmps8
      go_wp2_with (first | (go_at_call 15; with_reducible refine (LN _).mono ?_; rintro e v1 ⟨rfl, hb⟩; replace EX := Ext.trans EX hb; clear hb) | (go_at_call 17; with_reducible refine (LV _).mono ?_; rintro e v1 ⟨rfl, hb⟩; replace EX := Ext.trans EX hb; clear hb))
      go_ret
      exact ⟨rfl, EX⟩
  · have q1 : 0 < a := by omega
    by_cases zb : b = 0
    · subst zb
      clear LC LA LB ps
      rcases hn with ⟨rfl, h2⟩ | ⟨h1, h2, h3, h4⟩
      · rw [h2] at LN
        clear h2
        go_enter Try.func8, Try.ntmps8
        go_wp2_with (first | (go_at_call 15; with_reducible refine (LN _).mono ?_; rintro e v1 ⟨rfl, hb⟩; replace EX := Ext.trans EX hb; clear hb) | (go_at_call 17; with_reducible refine (LV _).mono ?_; rintro e v1 ⟨rfl, hb⟩; replace EX := Ext.trans EX hb; clear hb))
        go_ret
        exact ⟨rfl, EX⟩
      · rw [h2] at LN
        clear h2
        have k0 : (k : Int) ≤ 63 := by omega
        go_enter Try.func8, Try.ntmps8
        go_wp2_with (first | (go_at_call 15; with_reducible refine (LN _).mono ?_; rintro e v1 ⟨rfl, hb⟩; replace EX := Ext.trans EX hb; clear hb) | (go_at_call 17; with_reducible refine (LV _).mono ?_; rintro e v1 ⟨rfl, hb⟩; replace EX := Ext.trans EX hb; clear hb))
        go_ret
        exact ⟨rfl, EX⟩
    · have q2 : 0 < b := by omega
      have P := ps q1 q2
      clear ps
      rcases hn with ⟨rfl, h2⟩ | ⟨h1, h2, h3, h4⟩
      · rw [h2] at LN
        clear h2
        rcases P with rfl | rfl
        all_goals
          go_enter Try.func8, Try.ntmps8
          go_wp2_with (first | (go_at_call 15; with_reducible refine (LN _).mono ?_; rintro e v1 ⟨rfl, hb⟩; replace EX := Ext.trans EX hb; clear hb) | (go_at_call 15; with_reducible refine (LC _).mono ?_; rintro e v1 ⟨rfl, hb⟩; replace EX := Ext.trans EX hb; clear hb) | (go_at_call 15; with_reducible refine (LA _).mono ?_; rintro e v1 ⟨rfl, hb⟩; replace EX := Ext.trans EX hb; clear hb) | (go_at_call 15; with_reducible refine (LB _).mono ?_; rintro e v1 ⟨rfl, hb⟩; replace EX := Ext.trans EX hb; clear hb) | (go_at_call 17; with_reducible refine (LV _).mono ?_; rintro e v1 ⟨rfl, hb⟩; replace EX := Ext.trans EX hb; clear hb))
          all_goals (go_ret; exact ⟨rfl, EX⟩)
      · rw [h2] at LN
        clear h2
        have k0 : (k : Int) ≤ 63 := by omega
        rcases P with rfl | rfl
        all_goals
          go_enter Try.func8, Try.ntmps8
          go_wp2_with (first | (go_at_call 15; with_reducible refine (LN _).mono ?_; rintro e v1 ⟨rfl, hb⟩; replace EX := Ext.trans EX hb; clear hb) | (go_at_call 15; with_reducible refine (LC _).mono ?_; rintro e v1 ⟨rfl, hb⟩; replace EX := Ext.trans EX hb; clear hb) | (go_at_call 15; with_reducible refine (LA _).mono ?_; rintro e v1 ⟨rfl, hb⟩; replace EX := Ext.trans EX hb; clear hb) | (go_at_call 15; with_reducible refine (LB _).mono ?_; rintro e v1 ⟨rfl, hb⟩; replace EX := Ext.trans EX hb; clear hb) | (go_at_call 17; with_reducible refine (LV _).mono ?_; rintro e v1 ⟨rfl, hb⟩; replace EX := Ext.trans EX hb; clear hb))
          all_goals (go_ret; exact ⟨rfl, EX⟩)
theorem log_law (a b n : Int) (ha : 0 ≤ a ∧ a ≤ 4294967295) (hb : 0 ≤ b ∧ b ≤ 4294967295) (hn : InU64 n) (w : World) :
    Calls Try.prog 8 #[.int .u32 a, .int .u32 b, .int .u64 n] w fun e w' => e = .returned (.bool true) ∧ Ext w w' := by
  have hA : InU64 a := ⟨by omega, by omega⟩
  have hB : InU64 b := ⟨by omega, by omega⟩
  have hm := half_mul ha.1 ha.2 hb.1 hb.2
  have hM : InU64 (a * b) := ⟨hm.1, by omega⟩
  have go := fun k h => log_walk a b n (a * b) (lg (a * b)) (lg a) (lg b) k ha hb hn.1 hn.2 h (u64_id hm.1 (by omega)) (fun p q => lg_mul hA hB hM p q) (lg_in hA) (lg_in hB) (fun w => log_any n hn w) (fun w => log_any _ hM w) (fun w => log_any a hA w) (fun w => log_any b hB w) w
  by_cases h : n = 0
  · exact go 0 (.inl ⟨h, by rw [h]; exact lg_0⟩)
  · obtain ⟨k, e, h1, h2, h3⟩ := lg_pow hn (by have := hn.1; omega)
    exact go k (.inr ⟨by have := hn.1; omega, e, h1, shr_one h2 h3⟩)
end Go.Proofs.Ytcknfangjodoiaa
