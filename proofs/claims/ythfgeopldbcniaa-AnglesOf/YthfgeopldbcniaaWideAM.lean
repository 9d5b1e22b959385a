/- What the small functions of package wides do, called at any arguments: Of, Cmp, Int, below, wordsOf, wideOf, sum, difference, Add, Sub. What math/bits.Mul64 does, called at any arguments; a number without its sign, and with one. -/
import Derived.Test.YthfgeopldbcniaaProg
import Derived.Test.YthfgeopldbcniaaExt
import Derived.Lib.Mul64
namespace Go.Proofs.Ythfgeopldbcniaa
open Go.RowKit Go.BigFrame
set_option linter.unusedSimpArgs false

theorem of_any (n : Int) (hn : In64 n) (w : World) : Calls Try.prog 47 #[.int .i64 n] w fun e w' => e = .returned (.agg #[.int .i64 (hi (n)), .int .u64 (lo (n))]) ∧ Ext w w' := by
  have e1 : hi n = if n < 0 then -1 else 0 := by unfold In64 at hn; unfold hi; split <;> omega
  have e2 : lo n = IntKind.u64.wrap n := by rw [u64_wrap]; rfl
  rw [e1, e2]
  clear e1 e2
  go_enter Try.func47, Try.ntmps47
  go_wp2
  all_goals
    refine bodyPost_ret (by simp only [results, Try.results47]; simp [go_sem]; try rfl) rfl ⟨by simp [*], Ext.alloc (Ext.refl _) _⟩

theorem below_any (x : Int) (w : World) : Calls Try.prog 74 #[(.agg #[.int .i64 (hi (x)), .int .u64 (lo (x))])] w fun e w' => e = .returned (.bool (decide (x < 0))) ∧ Ext w w' := by
  go_enter Try.func74, Try.ntmps74
  go_wp2
  go_ret
  exact ⟨by simp [hi_neg], Ext.alloc (Ext.refl _) _⟩

theorem wordsOf_any (x : Int) (w : World) : Calls Try.prog 73 #[(.agg #[.int .i64 (hi (x)), .int .u64 (lo (x))])] w fun e w' => e = .returned (.agg #[.int .u64 (lo (um x)), .int .u64 (hi (um x))]) ∧ Ext w w' := by
  have e1 : lo (um x) = lo x := by unfold lo um; omega
  have e2 : hi (um x) = IntKind.u64.wrap (hi x) := by rw [u64_wrap]; unfold hi um; omega
  rw [e1, e2]
  clear e1 e2
  go_enter Try.func73, Try.ntmps73
  go_wp2
  refine bodyPost_ret (by simp only [results, Try.results73]; simp [go_sem]; try rfl) rfl ⟨rfl, Ext.alloc (Ext.alloc (Ext.refl _) _) _⟩

theorem wideOf_any (m : Int) (w : World) : Calls Try.prog 72 #[(.agg #[.int .u64 (lo (m)), .int .u64 (hi (m))])] w fun e w' => e = .returned (.agg #[.int .i64 (hi (sm m)), .int .u64 (lo (sm m))]) ∧ Ext w w' := by
  have e1 : lo (sm m) = lo m := by unfold lo sm; omega
  have e2 : hi (sm m) = wrap64 (hi m) := by simp [wrap64]; unfold hi sm; omega
  rw [e1, e2]
  clear e1 e2
  go_enter Try.func72, Try.ntmps72
  go_wp2
  refine bodyPost_ret (by simp only [results, Try.results72]; simp [go_sem]; try rfl) rfl ⟨rfl, Ext.alloc (Ext.alloc (Ext.refl _) _) _⟩


theorem int_any (x : Int) (w : World) : Calls Try.prog 48 #[(.agg #[.int .i64 (hi (x)), .int .u64 (lo (x))])] w fun e w' => e = .returned (.tuple #[.int .i64 (if wrap64 x = x then x else 0), .bool (decide (wrap64 x = x))]) ∧ Ext w w' := by
  have e1 : wrap64 (lo x) = wrap64 x := by simp [wrap64]; unfold lo; omega
  have hn : In64 (wrap64 x) := by simp [wrap64]; unfold In64; omega
  by_cases hc : wrap64 x = x
  all_goals
    go_enter Try.func48, Try.ntmps48
    go_upto_region 2 with fail
    have c0 := fun x' : Grow (w.alloc (Obj.cells #[Value.int IntKind.i64 (hi x), Value.int IntKind.u64 (lo x)] 49)) => x'.cell (p := ⟨w.heap.size, 0, none⟩) (v := .int .i64 (hi x)) (by go_simp)
    have c1 := fun x' : Grow (w.alloc (Obj.cells #[Value.int IntKind.i64 (hi x), Value.int IntKind.u64 (lo x)] 49)) => x'.cell (p := ⟨w.heap.size, 1, none⟩) (v := .int .u64 (lo x)) (by go_simp)
    refine wp_region_grow (by kernel_rfl) (by kernel_rfl) ?_
    repeat (go_big_quiet_step ((go_at_call 47; exact calls_grow (of_any _ (by first | exact hn | (rw [hc] at hn; exact hn)) _))))
    refine wpQuiet_nil ?_
    rintro _ ⟨xq, rfl⟩
    have hq := xq.ext
    go_wp2
    go_ret2
    exact ⟨by simp [hc], Ext.trans (Ext.alloc (Ext.refl _) _) hq⟩
/-- Below, the same, or above. -/
def sgn (x y : Int) : Int := if x < y then -1 else if x = y then 0 else 1
theorem cmpi_any (x y : Int) (w : World) : Calls Try.prog 90 #[.int .i64 x, .int .i64 y] w fun e w' => e = .returned (.int .i64 (sgn x y)) ∧ w' = w := by
  unfold sgn
  rcases Int.lt_trichotomy x y with h | h | h
  · go_enter Try.func90, Try.ntmps90
    go_wp2
    go_ret
    exact ⟨by simp, rfl⟩
  · subst h
    go_enter Try.func90, Try.ntmps90
    go_wp2
    go_ret
    exact ⟨by simp, rfl⟩
  · have h1 : ¬ x < y := by omega
    have h2 : ¬ x = y := by omega
    go_enter Try.func90, Try.ntmps90
    go_wp2
    go_ret
    exact ⟨by simp [h1, h2], rfl⟩
theorem cmpu_any (x y : Int) (w : World) : Calls Try.prog 91 #[.int .u64 x, .int .u64 y] w fun e w' => e = .returned (.int .i64 (sgn x y)) ∧ w' = w := by
  unfold sgn
  rcases Int.lt_trichotomy x y with h | h | h
  · go_enter Try.func91, Try.ntmps91
    go_wp2
    go_ret
    exact ⟨by simp, rfl⟩
  · subst h
    go_enter Try.func91, Try.ntmps91
    go_wp2
    go_ret
    exact ⟨by simp, rfl⟩
  · have h1 : ¬ x < y := by omega
    have h2 : ¬ x = y := by omega
    go_enter Try.func91, Try.ntmps91
    go_wp2
    go_ret
    exact ⟨by simp [h1, h2], rfl⟩
theorem sgn_hi (x y : Int) (h : ¬ hi x = hi y) : sgn (hi x) (hi y) = sgn x y := by
  unfold sgn hi at *
  split <;> split <;> (try split) <;> (try split) <;> omega
theorem sgn_lo (x y : Int) (h : hi x = hi y) : sgn (lo x) (lo y) = sgn x y := by
  have := hilo x; have := hilo y; unfold sgn
  split <;> split <;> (try split) <;> (try split) <;> omega
theorem cmp_any (x y : Int) (w : World) : Calls Try.prog 89 #[(.agg #[.int .i64 (hi (x)), .int .u64 (lo (x))]), (.agg #[.int .i64 (hi (y)), .int .u64 (lo (y))])] w fun e w' => e = .returned (.int .i64 (sgn x y)) ∧ Ext w w' := by
  by_cases h : hi x = hi y
  · rw [← sgn_lo x y h]
    go_enter Try.func89, Try.ntmps89
    go_wp2_with (go_at_call 91; refine (cmpu_any _ _ _).mono ?_; rintro e w' ⟨rfl, rfl⟩)
    go_ret
    exact ⟨rfl, Ext.alloc (Ext.alloc (Ext.refl _) _) _⟩
  · rw [← sgn_hi x y h]
    go_enter Try.func89, Try.ntmps89
    go_wp2_with (go_at_call 90; refine (cmpi_any _ _ _).mono ?_; rintro e w' ⟨rfl, rfl⟩)
    go_ret
    exact ⟨rfl, Ext.alloc (Ext.alloc (Ext.refl _) _) _⟩
end Go.Proofs.Ythfgeopldbcniaa

namespace Go.Proofs.Ythfgeopldbcniaa
open Go.RowKit Go.BigFrame
set_option linter.unusedSimpArgs false

/-- The lower 32 bits of a word; a word that is one does not wrap. -/
theorem low32 (a : Int) (h : InU64 a) : bits .and .u64 a 4294967295 = a % 4294967296 := by
  unfold InU64 at h
  obtain ⟨n, rfl⟩ := Int.eq_ofNat_of_zero_le h.1
  have e := bits_and_u64_nat n 4294967295 (by omega) (by omega)
  rw [show n &&& 4294967295 = n % 4294967296 from Nat.and_two_pow_sub_one_eq_mod n 32] at e
  rw [show (4294967295 : Int) = ((4294967295 : Nat) : Int) from rfl, e]
  omega
theorem wrap_in (a : Int) (h : InU64 a) : IntKind.u64.wrap a = a := by rw [u64_wrap]; unfold InU64 at h; omega
theorem split4 (x y : Int) (hx : InU64 x) (hy : InU64 y) : ∃ a b c d : Int, x / 4294967296 * (y / 4294967296) = a ∧ x / 4294967296 * (y % 4294967296) = b ∧ x % 4294967296 * (y / 4294967296) = c ∧ x % 4294967296 * (y % 4294967296) = d ∧
    x * y = a * 18446744073709551616 + (b + c) * 4294967296 + d ∧ (0 ≤ a ∧ a ≤ 18446744065119617025) ∧ (0 ≤ b ∧ b ≤ 18446744065119617025) ∧ (0 ≤ c ∧ c ≤ 18446744065119617025) ∧ (0 ≤ d ∧ d ≤ 18446744065119617025) := by
  unfold InU64 at *
  have bd : ∀ p q : Int, 0 ≤ p → p ≤ 4294967295 → 0 ≤ q → q ≤ 4294967295 → 0 ≤ p * q ∧ p * q ≤ 18446744065119617025 := fun p q h1 h2 h3 h4 =>
    ⟨Int.mul_nonneg h1 h3, Int.le_trans (Int.mul_le_mul h2 h4 h3 (by decide)) (by decide)⟩
  refine ⟨_, _, _, _, rfl, rfl, rfl, rfl, ?_, bd _ _ (by omega) (by omega) (by omega) (by omega), bd _ _ (by omega) (by omega) (by omega) (by omega), bd _ _ (by omega) (by omega) (by omega) (by omega), bd _ _ (by omega) (by omega) (by omega) (by omega)⟩
  have ex : x = x / 4294967296 * 4294967296 + x % 4294967296 := by omega
  have ey : y = y / 4294967296 * 4294967296 + y % 4294967296 := by omega
  generalize x / 4294967296 = x1 at *
  generalize x % 4294967296 = x0 at *
  generalize y / 4294967296 = y1 at *
  generalize y % 4294967296 = y0 at *
  subst ex ey
  simp only [Int.add_mul, Int.mul_add]
  have e1 : x1 * 4294967296 * (y1 * 4294967296) = x1 * y1 * 18446744073709551616 := by rw [Int.mul_assoc, ← Int.mul_assoc 4294967296, Int.mul_comm 4294967296 y1, Int.mul_assoc y1, ← Int.mul_assoc]; rfl
  have e2 : x1 * 4294967296 * y0 = x1 * y0 * 4294967296 := by rw [Int.mul_assoc, Int.mul_comm 4294967296, ← Int.mul_assoc]
  have e3 : x0 * (y1 * 4294967296) = x0 * y1 * 4294967296 := by rw [← Int.mul_assoc]
  rw [e1, e2, e3]
  omega
set_option maxHeartbeats 1000000 in
theorem mul64_any (x y : Int) (hx : InU64 x) (hy : InU64 y) (w : World) : Calls Try.prog 87 #[.int .u64 x, .int .u64 y] w fun e w' => e = .returned (.tuple #[.int .u64 (hi (x * y)), .int .u64 (lo (x * y))]) ∧ w' = w := by
  obtain ⟨a, b, c, d, ea, eb, ec, ed, e, ba, bb, bc, bd⟩ := split4 x y hx hy
  have hx0 := hx.1; have hx1 := hx.2; have hy0 := hy.1; have hy1 := hy.2
  have m1 := low32 x hx
  have m2 := low32 y hy
  have w1 : IntKind.u64.wrap d = d := wrap_in _ ⟨by omega, by omega⟩
  have w2 : IntKind.u64.wrap b = b := wrap_in _ ⟨by omega, by omega⟩
  have w3 : IntKind.u64.wrap (b + d / 4294967296) = b + d / 4294967296 := wrap_in _ ⟨by omega, by omega⟩
  have m3 := low32 (b + d / 4294967296) ⟨by omega, by omega⟩
  have w4 : IntKind.u64.wrap c = c := wrap_in _ ⟨by omega, by omega⟩
  have w5 : IntKind.u64.wrap ((b + d / 4294967296) % 4294967296 + c) = (b + d / 4294967296) % 4294967296 + c := wrap_in _ ⟨by omega, by omega⟩
  have w6 : IntKind.u64.wrap a = a := wrap_in _ ⟨by omega, by omega⟩
  have w7 : IntKind.u64.wrap (a + (b + d / 4294967296) / 4294967296) = a + (b + d / 4294967296) / 4294967296 := wrap_in _ ⟨by omega, by omega⟩
  have w8 : IntKind.u64.wrap (a + (b + d / 4294967296) / 4294967296 + ((b + d / 4294967296) % 4294967296 + c) / 4294967296) = a + (b + d / 4294967296) / 4294967296 + ((b + d / 4294967296) % 4294967296 + c) / 4294967296 := wrap_in _ ⟨by omega, by omega⟩
  have r1 : hi (x * y) = a + (b + d / 4294967296) / 4294967296 + ((b + d / 4294967296) % 4294967296 + c) / 4294967296 := by rw [e]; unfold hi; omega
  have r2 : lo (x * y) = IntKind.u64.wrap (x * y) := by rw [u64_wrap]; rfl
  rw [r1, r2]
  have H : Hid (x / 4294967296 * (y / 4294967296) = a ∧ x / 4294967296 * (y % 4294967296) = b ∧ x % 4294967296 * (y / 4294967296) = c ∧ x % 4294967296 * (y % 4294967296) = d ∧ IntKind.u64.wrap d = d ∧ IntKind.u64.wrap b = b ∧ IntKind.u64.wrap (b + d / 4294967296) = b + d / 4294967296 ∧ IntKind.u64.wrap c = c ∧ IntKind.u64.wrap ((b + d / 4294967296) % 4294967296 + c) = (b + d / 4294967296) % 4294967296 + c ∧ IntKind.u64.wrap a = a ∧ IntKind.u64.wrap (a + (b + d / 4294967296) / 4294967296) = a + (b + d / 4294967296) / 4294967296 ∧ IntKind.u64.wrap (a + (b + d / 4294967296) / 4294967296 + ((b + d / 4294967296) % 4294967296 + c) / 4294967296) = a + (b + d / 4294967296) / 4294967296 + ((b + d / 4294967296) % 4294967296 + c) / 4294967296) := ⟨ea, eb, ec, ed, w1, w2, w3, w4, w5, w6, w7, w8⟩
  have M : Hid (bits .and .u64 x 4294967295 = x % 4294967296 ∧ bits .and .u64 y 4294967295 = y % 4294967296 ∧ bits .and .u64 (b + d / 4294967296) 4294967295 = (b + d / 4294967296) % 4294967296) := ⟨m1, m2, m3⟩
  clear r1 r2 e ba bb bc bd ea eb ec ed w1 w2 w3 w4 w5 w6 w7 w8 m1 m2 m3
  go_enter Try.func87, Try.ntmps87
  go_wp2
  obtain ⟨ea, eb, ec, ed, w1, w2, w3, w4, w5, w6, w7, w8⟩ := H.out
  obtain ⟨m1, m2, m3⟩ := M.out
  simp only [m1, m2, ea, eb, ec, ed, w1, w2, w3, m3, w4, w5, w6, w7, w8]
  go_ret2
  exact ⟨rfl, rfl⟩

/-- A number without its sign. -/
def ab (x : Int) : Int := if x < 0 then -x else x
theorem ab_in {x : Int} (h : InW x) : InU (ab x) := by unfold ab InW InU at *; split <;> omega
theorem ab_neg {x : Int} (h : InW x) (hn : x < 0) : um (0 - um x) = ab x := by unfold ab um InW at *; rw [if_pos hn]; omega
theorem ab_pos {x : Int} (h : InW x) (hn : ¬ x < 0) : um x = ab x := by unfold ab um InW at *; rw [if_neg hn]; omega
/-- A number's sign put on. -/
def sg (neg : Bool) (m : Int) : Int := if neg then -m else m
end Go.Proofs.Ythfgeopldbcniaa
