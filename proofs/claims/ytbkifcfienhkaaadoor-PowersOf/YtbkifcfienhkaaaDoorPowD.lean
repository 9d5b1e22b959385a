/- What longLog of package powers does, called at any number above 0 of at most 32 bits. -/
import Derived.Test.YtbkifcfienhkaaaDoorPowC
namespace Go.Proofs.YtbkifcfienhkaaaDoor
open Go.RowKit Go.BigFrame
set_option linter.unusedSimpArgs false
set_option linter.unusedVariables false
/-- Of a long log j bits are told: what is left makes it. -/
def Bits (x j y : Nat) (l : Int) : Prop := j ≤ 40 ∧ lls (40 - j) y l = LL x ∧ 4611686018427387904 ≤ y ∧ y < 9223372036854775808 ∧ -16 * ((2 ^ j : Nat) : Int) ≤ l ∧ l < 16 * ((2 ^ j : Nat) : Int)
theorem Bits.low {x j y : Nat} {l : Int} (h : Bits x j y l) : -17592186044416 ≤ l ∧ l < 17592186044416 := by
  obtain ⟨h0, _, _, _, h1, h2⟩ := h
  have : 2 ^ j ≤ 2 ^ 40 := Nat.pow_le_pow_right (by decide) h0
  rw [show (2 : Nat) ^ 40 = 1099511627776 from rfl] at this
  omega
theorem Bits.no {x j y : Nat} {l : Int} (h : Bits x j y l) (hj : j < 40) (hy : tm y y < 9223372036854775808) : Bits x (j + 1) (tm y y) (l * 2) := by
  obtain ⟨h0, h1, h2, h3, h4, h5⟩ := h
  rw [show 40 - j = (40 - (j + 1)) + 1 by omega] at h1
  unfold lls at h1
  rw [if_pos hy] at h1
  refine ⟨hj, by rw [Int.mul_comm]; exact h1, Nat.le_trans h2 (tm_le h2), hy, ?_, ?_⟩ <;> (rw [Nat.pow_succ]; omega)
theorem Bits.yes {x j y : Nat} {l : Int} (h : Bits x j y l) (hj : j < 40) (hy : ¬ tm y y < 9223372036854775808) : Bits x (j + 1) (tm y y / 2) (l * 2 + 1) := by
  obtain ⟨h0, h1, h2, h3, h4, h5⟩ := h
  rw [show 40 - j = (40 - (j + 1)) + 1 by omega] at h1
  unfold lls at h1
  rw [if_neg hy] at h1
  have := tm_lt h3 h3
  refine ⟨hj, by rw [Int.mul_comm]; exact h1, by omega, by omega, ?_, ?_⟩ <;> (rw [Nat.pow_succ]; omega)
theorem Bits.done {x y : Nat} {l : Int} (h : Bits x 40 y l) : LL x = l := h.2.1.symm
theorem log2_is {x k : Nat} (h1 : 2 ^ k ≤ x) (h2 : x < 2 ^ (k + 1)) : x.log2 = k := by
  have h0 : x ≠ 0 := by have := Nat.two_pow_pos k; omega
  exact (Nat.log2_eq_iff h0).2 ⟨h1, h2⟩
theorem Bits.start {x k : Nat} (h1 : 2 ^ k ≤ x) (h2 : x < 2 ^ (k + 1)) (hk : k ≤ 31) : Bits x 0 (x * 2 ^ (62 - k)) ((k : Int) - 16) := by
  have e := log2_is h1 h2
  have p1 : 2 ^ k * 2 ^ (62 - k) = 4611686018427387904 := by rw [← Nat.pow_add, show k + (62 - k) = 62 by omega]
  refine ⟨by decide, ?_, ?_, ?_, ?_, ?_⟩
  · unfold LL; rw [e]
  · rw [← p1]; exact Nat.mul_le_mul_right _ h1
  · rw [Nat.pow_succ] at h2
    have : x * 2 ^ (62 - k) < 2 ^ k * 2 * 2 ^ (62 - k) := Nat.mul_lt_mul_of_pos_right h2 (Nat.two_pow_pos _)
    rw [Nat.mul_right_comm, p1] at this
    omega
  · rw [Nat.pow_zero]; omega
  · rw [Nat.pow_zero]; omega
theorem LL_in {x : Nat} (h0 : 0 < x) (h1 : x ≤ 2147483648) : -17592186044416 ≤ LL x ∧ LL x < 17592186044416 := by
  have e := Nat.log2_eq_iff (n := x) (k := x.log2) (by omega)
  obtain ⟨g1, g2⟩ := e.1 rfl
  have hk : x.log2 ≤ 31 := by
    rcases Nat.lt_or_ge x.log2 32 with h | h
    · omega
    · have : 2 ^ 32 ≤ 2 ^ x.log2 := Nat.pow_le_pow_right (by decide) h
      rw [show (2 : Nat) ^ 32 = 4294967296 from rfl] at this
      omega
  have go : ∀ n j y l, n + j = 40 → Bits x j y l → ∃ y' l', Bits x 40 y' l' := by
    intro n
    induction n with
    | zero => intro j y l hj hb; exact ⟨y, l, by rw [show (40 : Nat) = j by omega]; exact hb⟩
    | succ n ih =>
      intro j y l hj hb
      by_cases hy : tm y y < 9223372036854775808
      · exact ih (j + 1) _ _ (by omega) (hb.no (by omega) hy)
      · exact ih (j + 1) _ _ (by omega) (hb.yes (by omega) hy)
  obtain ⟨y, l, hb⟩ := go 40 0 _ _ rfl (Bits.start g1 g2 hk)
  rw [hb.done]
  exact hb.low
set_option maxHeartbeats 8000000 in
theorem longLog_walk (n : Nat) (k : Nat) (y0 : Nat) (q : Int) (hk : k ≤ 31) (hn : n ≤ 2147483648) (LG : ∀ w, Calls Tryd.prog 41 #[.int .u64 (n : Int)] w fun e w' => e = .returned (.int .i64 (k : Int)) ∧ Ext w w')
    (hs : IntKind.u64.wrap ((n : Int) * 2 ^ (62 - k)) = (y0 : Int)) (HB : Hid (Bits n 0 y0 ((k : Int) - 16))) (hq : Hid (LL n = q)) (w : World) :
    Calls Tryd.prog 22 #[.int .i64 (n : Int)] w fun e w' => e = .returned (.int .i64 q) ∧ Ext w w' := by
  have EX := Ext.refl w
  have wm : IntKind.u64.wrap (n : Int) = (n : Int) := by rw [u64_wrap]; omega
  go_enter Tryd.func22, Tryd.ntmps22
  go_upto_region 1 with fail
  go_step3
  go_wp2_with (first | (go_at_call 41; with_reducible refine (LG _).mono ?_; rintro e v1 ⟨rfl, hb⟩; replace EX := Ext.trans EX hb; clear hb))
  go_step3
  go_wp2
  go_loopg [4, 5, 16] 40 (fun gk lv yv iv wr => ∃ (j y : Nat) (l : Int), j + gk = 40 ∧ iv = .int .i64 j ∧ yv = .int .u64 y ∧ lv = .int .i64 l ∧ Hid (Bits n j y l) ∧ Ext w wr)
  case atStart =>
    exact ⟨0, y0, (k : Int) - 16, rfl, rfl, by rw [← hs], rfl, HB, EX⟩
  case round =>
    obtain ⟨j, y, l, hj, rfl, rfl, rfl, HB, EX⟩ := hrel
    by_cases hlt : j < 40
    · have hji : (j : Int) < 40 := by omega
      obtain ⟨l0, l1⟩ := HB.low
      obtain ⟨r, hr⟩ : ∃ r, tm y y = r := ⟨_, rfl⟩
      have TM := fun w => ptimes_any y y HB.2.2.2.1 HB.2.2.2.1 w
      have rl := tm_lt HB.2.2.2.1 HB.2.2.2.1
      rw [hr] at TM rl
      by_cases hy : r < 9223372036854775808
      · have HN : Hid (Bits n (j + 1) r (l * 2)) := by rw [← hr]; exact HB.no hlt (by rw [hr]; exact hy)
        have hyi : (r : Int) < 9223372036854775808 := by omega
        clear HB hr hy hs wm
        go_wp2_with (first | (go_at_call 42; with_reducible refine (TM _).mono ?_; rintro e v1 ⟨rfl, hb⟩; replace EX := Ext.trans EX hb; clear hb))
        go_roundg (gk - 1)
        case measure => omega
        case rel => exact ⟨j + 1, r, l * 2, by omega, by go_num, rfl, rfl, HN, EX⟩
      · have HN : Hid (Bits n (j + 1) (r / 2) (l * 2 + 1)) := by rw [← hr]; exact HB.yes hlt (by rw [hr]; exact hy)
        obtain ⟨z, hz⟩ : ∃ z : Int, (r : Int) = z := ⟨_, rfl⟩
        have hyi : ¬ z < 9223372036854775808 := by omega
        have hz0 : 0 ≤ z := by omega
        have hz1 : z < 18446744073709551616 := by omega
        rw [hz] at TM
        have HZ : Hid ((r : Int) = z) := hz
        clear HB hr hy hs wm rl hz
        go_wp2_with (first | (go_at_call 42; with_reducible refine (TM _).mono ?_; rintro e v1 ⟨rfl, hb⟩; replace EX := Ext.trans EX hb; clear hb))
        go_roundg (gk - 1)
        case measure => omega
        case rel => exact ⟨j + 1, r / 2, l * 2 + 1, by omega, by go_num, by rw [Int.natCast_ediv, HZ.out]; rfl, rfl, HN, EX⟩
    · have hji : ¬ ((j : Int) < 40) := by omega
      have HD : Hid (q = l) := by
        rw [← hq]
        have : j = 40 := by omega
        subst this
        exact Bits.done HB
      go_wp2
      go_ret
      exact ⟨by rw [HD.out]; rfl, EX⟩
theorem longLog_any (n : Nat) (h0 : 0 < n) (h1 : n ≤ 2147483648) (w : World) : Calls Tryd.prog 22 #[.int .i64 (n : Int)] w fun e w' => e = .returned (.int .i64 (LL n)) ∧ Ext w w' := by
  have hu : InU64 (n : Int) := ⟨by omega, by omega⟩
  obtain ⟨k, hk, _, g1, g2⟩ := lg_pow hu (by omega)
  have g1' : 2 ^ k ≤ n := by omega
  have g2' : n < 2 ^ (k + 1) := by omega
  have hk31 : k ≤ 31 := by
    rcases Nat.lt_or_ge k 32 with h | h
    · omega
    · have : 2 ^ 32 ≤ 2 ^ k := Nat.pow_le_pow_right (by decide) h
      rw [show (2 : Nat) ^ 32 = 4294967296 from rfl] at this
      omega
  have hb := Bits.start g1' g2' hk31
  refine longLog_walk n k (n * 2 ^ (62 - k)) _ hk31 h1 (fun w => by rw [← hk]; exact log_any n hu w) ?_ hb rfl w
  have e : ((n : Int) * 2 ^ (62 - k)) = ((n * 2 ^ (62 - k) : Nat) : Int) := by rw [Int.natCast_mul, Int.natCast_pow]; rfl
  have := hb.2.2.2.1
  rw [e, u64_wrap]
  omega
end Go.Proofs.YtbkifcfienhkaaaDoor
