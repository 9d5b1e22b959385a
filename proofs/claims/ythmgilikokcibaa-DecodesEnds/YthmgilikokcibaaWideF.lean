/- What math/bits.Div64 does, called at any arguments whose quotient is one word. -/
import Derived.Test.YthmgilikokcibaaWideE
import Derived.Test.YthmgilikokcibaaKnuth
import Derived.Shelf.Small.Bits
import Derived.Lib.ItoaNum
import Derived.Deep.CutBlock
namespace Go.Proofs.Ythmgilikokcibaa
open Go.RowKit Go.BigFrame Go.Shelf
set_option linter.unusedSimpArgs false
def lzRen : Go.Shelf.Ren := ⟨fun | 129 => 71 | 134 => 70 | n => n, fun | 3 => 3 | 4 => 4 | 5 => 5 | 9 => 9 | 46 => 102 | 53 => 28 | n => n, fun n => n⟩
theorem lzLay : Lays.n134 Try.prog lzRen := { mixed := by kernel_rfl, f129 := by kernel_rfl, f134 := by kernel_rfl, t3 := by kernel_rfl, a3 := fun _ => by kernel_rfl, z3 := fun _ => by kernel_rfl, v3 := fun _ => by kernel_rfl, t4 := by kernel_rfl, a4 := fun _ => by kernel_rfl, z4 := fun _ => by kernel_rfl, v4 := fun _ => by kernel_rfl, t5 := by kernel_rfl, a5 := fun _ => by kernel_rfl, z5 := fun _ => by kernel_rfl, v5 := fun _ => by kernel_rfl, t9 := by kernel_rfl, a9 := fun _ => by kernel_rfl, z9 := fun _ => by kernel_rfl, v9 := fun _ => by kernel_rfl, t46 := by kernel_rfl, a46 := fun _ => by kernel_rfl, z46 := fun _ => by kernel_rfl, v46 := fun _ => by kernel_rfl, t53 := by kernel_rfl, a53 := fun _ => by kernel_rfl, z53 := fun _ => by kernel_rfl, v53 := fun _ => by kernel_rfl }
/-- Leading zeros: shifted by so many, a word that is not 0 has its uppermost bit. -/
theorem lz_any (y : Int) (hy : 0 < y) (hy' : y < 18446744073709551616) : ∃ s : Nat, s ≤ 63 ∧ 9223372036854775808 ≤ y * ((2 ^ s : Nat) : Int) ∧ y * ((2 ^ s : Nat) : Int) < 18446744073709551616 ∧
    ∀ w, Calls Try.prog 70 #[.int .u64 y] w fun e w' => e = .returned (.int .i64 (s : Int)) ∧ w' = w := by
  obtain ⟨n, rfl⟩ := Int.eq_ofNat_of_zero_le (Int.le_of_lt hy)
  obtain ⟨h1, h2, h3⟩ := Lib.bitLenAux_bounds 64 n (by omega) (by omega)
  have hb : Lib.bitLen n = Lib.bitLenAux 64 n := rfl
  have hle := Any.bitLen_le64 (n : Int) (by omega) (by omega)
  rw [Int.toNat_natCast, hb] at hle
  refine ⟨64 - Lib.bitLenAux 64 n, by omega, ?_, ?_, fun w => ?_⟩
  · have e : 2 ^ (Lib.bitLenAux 64 n - 1) * 2 ^ (64 - Lib.bitLenAux 64 n) = 9223372036854775808 := by
      rw [← Nat.pow_add, show Lib.bitLenAux 64 n - 1 + (64 - Lib.bitLenAux 64 n) = 63 by omega]
    have := Nat.mul_le_mul_right (2 ^ (64 - Lib.bitLenAux 64 n)) h2
    rw [e] at this
    exact Int.ofNat_le.2 this
  · have e : 2 ^ (Lib.bitLenAux 64 n) * 2 ^ (64 - Lib.bitLenAux 64 n) = 18446744073709551616 := by
      rw [← Nat.pow_add, show Lib.bitLenAux 64 n + (64 - Lib.bitLenAux 64 n) = 64 by omega]
    have := Nat.mul_lt_mul_of_pos_right h3 (show 0 < 2 ^ (64 - Lib.bitLenAux 64 n) from Nat.pos_of_ne_zero (by simp))
    rw [e] at this
    exact Int.ofNat_le.2 this
  · have := Any.bits_LeadingZeros64 lzLay (n : Int) w (by omega) (by omega)
    rw [Int.toNat_natCast, hb, show (64 : Int) - (Lib.bitLenAux 64 n : Int) = ((64 - Lib.bitLenAux 64 n : Nat) : Int) by omega] at this
    exact this
set_option maxHeartbeats 1000000 in
theorem div64_small (l y : Int) (hl : InU64 l) (hy : InU64 y) (hp : 0 < y) (w : World) : Calls Try.prog 69 #[.int .u64 0, .int .u64 l, .int .u64 y] w fun e w' => e = .returned (.tuple #[.int .u64 (l / y), .int .u64 (l % y)]) ∧ Ext w w' := by
  have h0 := hl.1; have h1 := hl.2; have h2 := hy.1; have h3 := hy.2
  have hne : ¬ (y = 0) := by omega
  have hle : ¬ (y ≤ 0) := by omega
  go_enter Try.func69, Try.ntmps69
  go_wp2
  go_quiet (fail)
  go_wp2
  go_ret2
  exact ⟨rfl, Ext.drewN (Ext.refl w) nq⟩

/-- Bits that do not meet: their sum. -/
theorem or_sum (s a b : Nat) (hb : b < 2 ^ s) (h : a * 2 ^ s < 18446744073709551616) (hb' : b < 18446744073709551616) : bits .or .u64 ((a * 2 ^ s : Nat) : Int) (b : Int) = ((a * 2 ^ s + b : Nat) : Int) := by
  rw [u64_or_nat _ _ h hb', ← Nat.shiftLeft_eq, Nat.shiftLeft_add_eq_or_of_lt hb]
theorem pow_split (s : Nat) (hs : s ≤ 63) : 2 ^ s * 2 ^ (64 - s) = 18446744073709551616 := by
  rw [← Nat.pow_add, show s + (64 - s) = 64 by omega]
/-- What Div64 lays ready. -/
theorem norm (h l y : Int) (s : Nat) (hl : InU64 l) (hy : InU64 y) (hp : 0 < h) (hh : h < y) (hs : s ≤ 63) (n1 : 9223372036854775808 ≤ y * ((2 ^ s : Nat) : Int)) (n2 : y * ((2 ^ s : Nat) : Int) < 18446744073709551616) :
    ∃ Y U V y1 y0 v1 v0 : Int, IntKind.u64.wrap (y * 2 ^ s) = Y ∧ Y / 4294967296 = y1 ∧ bits .and .u64 Y 4294967295 = y0 ∧ bits .or .u64 (IntKind.u64.wrap (h * 2 ^ s)) (l / 2 ^ (64 - s)) = U ∧ IntKind.u64.wrap (l * 2 ^ s) = V ∧
      V / 4294967296 = v1 ∧ bits .and .u64 V 4294967295 = v0 ∧ Dig Y y1 y0 U v1 ∧ 0 ≤ v0 ∧ v0 < 4294967296 ∧ Y = y * 2 ^ s ∧ (0 : Int) < 2 ^ s ∧ (h * 18446744073709551616 + l) * 2 ^ s = U * 18446744073709551616 + V ∧ V = v1 * 4294967296 + v0 := by
  unfold InU64 at hl hy
  obtain ⟨H, rfl⟩ := Int.eq_ofNat_of_zero_le (Int.le_of_lt hp)
  obtain ⟨L, rfl⟩ := Int.eq_ofNat_of_zero_le hl.1
  obtain ⟨Z, rfl⟩ := Int.eq_ofNat_of_zero_le hy.1
  have hps := pow_split s hs
  have cP : ((2 : Int) ^ s) = ((2 ^ s : Nat) : Int) := by simp
  have cR : ((2 : Int) ^ (64 - s)) = ((2 ^ (64 - s) : Nat) : Int) := by simp
  rw [cP, cR]
  have hPpos : 0 < 2 ^ s := Nat.pos_of_ne_zero (by simp)
  have hRpos : 0 < 2 ^ (64 - s) := Nat.pos_of_ne_zero (by simp)
  have hdiv : L / 2 ^ (64 - s) < 2 ^ s := by rw [Nat.div_lt_iff_lt_mul hRpos, hps]; omega
  have hHZ : H * 2 ^ s + 2 ^ s ≤ Z * 2 ^ s := by
    have : (H + 1) * 2 ^ s ≤ Z * 2 ^ s := Nat.mul_le_mul_right _ (by omega)
    rw [Nat.add_mul, Nat.one_mul] at this
    exact this
  have hLP : L * 2 ^ s = (L / 2 ^ (64 - s)) * 18446744073709551616 + (L * 2 ^ s) % 18446744073709551616 := by
    have e : L * 2 ^ s / 18446744073709551616 = L / 2 ^ (64 - s) := by
      rw [← hps, Nat.mul_comm L, Nat.mul_div_mul_left _ _ hPpos]
    rw [← e]; omega
  have c1 : ((Z : Int) * ((2 ^ s : Nat) : Int)) = ((Z * 2 ^ s : Nat) : Int) := by rw [Int.natCast_mul]
  have c2 : ((H : Int) * ((2 ^ s : Nat) : Int)) = ((H * 2 ^ s : Nat) : Int) := by rw [Int.natCast_mul]
  have c3 : ((L : Int) * ((2 ^ s : Nat) : Int)) = ((L * 2 ^ s : Nat) : Int) := by rw [Int.natCast_mul]
  have c4 : ((L : Int) / ((2 ^ (64 - s) : Nat) : Int)) = ((L / 2 ^ (64 - s) : Nat) : Int) := by rw [Int.natCast_ediv]
  have c5 : ((H : Int) * 18446744073709551616 + L) * ((2 ^ s : Nat) : Int) = ((H * 2 ^ s : Nat) : Int) * 18446744073709551616 + ((L * 2 ^ s : Nat) : Int) := by
    rw [Int.add_mul, Int.mul_right_comm, c2, c3]
  rw [c1] at n1 n2
  have w1 : IntKind.u64.wrap ((Z * 2 ^ s : Nat) : Int) = ((Z * 2 ^ s : Nat) : Int) := wrap_in _ ⟨by omega, n2⟩
  have hH64 : H * 2 ^ s < 18446744073709551616 := by omega
  have w2 : IntKind.u64.wrap ((H * 2 ^ s : Nat) : Int) = ((H * 2 ^ s : Nat) : Int) := wrap_in _ ⟨by omega, by omega⟩
  have w3 : IntKind.u64.wrap ((L * 2 ^ s : Nat) : Int) = ((L * 2 ^ s % 18446744073709551616 : Nat) : Int) := by rw [u64_wrap]; omega
  have o := or_sum s H (L / 2 ^ (64 - s)) hdiv hH64 (by omega)
  have m1 := low32 ((Z * 2 ^ s : Nat) : Int) ⟨by omega, by omega⟩
  have m2 := low32 ((L * 2 ^ s % 18446744073709551616 : Nat) : Int) ⟨by omega, by omega⟩
  rw [c1, c2, c3, c4, c5, w1, w2, w3]
  generalize Z * 2 ^ s = ZP at *
  generalize H * 2 ^ s = HP at *
  generalize L * 2 ^ s = LP at *
  generalize L / 2 ^ (64 - s) = D at *
  generalize (2 ^ s : Nat) = P at *
  refine ⟨(ZP : Int), ((HP + D : Nat) : Int), ((LP % 18446744073709551616 : Nat) : Int), (ZP : Int) / 4294967296, (ZP : Int) % 4294967296, ((LP % 18446744073709551616 : Nat) : Int) / 4294967296, ((LP % 18446744073709551616 : Nat) : Int) % 4294967296, rfl, rfl, m1, o, rfl, rfl, m2, ?_, by omega, by omega, rfl, by omega, by omega, by omega⟩
  exact ⟨by omega, by omega, by omega, by omega, by omega, by omega, by omega, by omega, by omega⟩

/-- Facts on one digit, in the walk's words: nothing of it wraps. -/
theorem Dig.wraps {Y y1 y0 U u q r : Int} (D : Dig Y y1 y0 U u) (h : q * y1 + r = U) (hr : 0 ≤ r) (hr' : r < 4294967296) (hq : 0 ≤ q) (hq' : q ≤ 4294967297) :
    IntKind.u64.wrap (q * y1) = U - r ∧ IntKind.u64.wrap (U - (U - r)) = r ∧ IntKind.u64.wrap (q * y0) = q * y0 ∧ IntKind.u64.wrap (4294967296 * r) = 4294967296 * r ∧ IntKind.u64.wrap (4294967296 * r + u) = 4294967296 * r + u := by
  have := D.f; have := D.lt64; have := D.g; have := D.h; have := D.e
  have h0 : 0 ≤ q * y0 := Int.mul_nonneg hq D.c
  have h2 : 0 ≤ q * y1 := Int.mul_nonneg hq (by have := D.a; omega)
  have h1 : q * y0 ≤ 4294967297 * 4294967295 := Int.mul_le_mul hq' (by have := D.d; omega) D.c (by omega)
  refine ⟨?_, ?_, wrap_in _ ⟨h0, by omega⟩, wrap_in _ ⟨by omega, by omega⟩, wrap_in _ ⟨by omega, by omega⟩⟩
  · rw [show q * y1 = U - r by omega]; exact wrap_in _ ⟨by omega, by omega⟩
  · rw [show U - (U - r) = r by omega]; exact wrap_in _ ⟨by omega, by omega⟩
set_option maxHeartbeats 4000000 in
theorem div64_any (h l y : Int) (hl : InU64 l) (hy : InU64 y) (hp : 0 < h) (hh : h < y) (w : World) : Calls Try.prog 69 #[.int .u64 h, .int .u64 l, .int .u64 y] w fun e w' => e = .returned (.tuple #[.int .u64 ((h * 18446744073709551616 + l) / y), .int .u64 ((h * 18446744073709551616 + l) % y)]) ∧ w' = w := by
  obtain ⟨s, hs, n1, n2, LZ⟩ := lz_any y (by omega) hy.2
  obtain ⟨Y, U, V, y1, y0, v1, v0, e1, e2, e3, e4, e5, e6, e7, D, b1, b2, f1, f2, f3, f4⟩ := norm h l y s hl hy hp hh hs n1 n2
  have hne : ¬ (y = 0) := by omega
  have hne' : ¬ (h = 0) := by omega
  have hle : ¬ (y ≤ h) := by omega
  have hne1 : ¬ (y1 = 0) := by have := D.a; omega
  have h0 := hl.1; have h1 := hl.2; have h2 := hy.1; have h3 := hy.2
  have g1 := D.a; have g2 := D.b; have g3 := D.e; have g4 := D.lt64; have g5 := D.f
  obtain ⟨q, r, c1, c2, c3, c4, c5, c6, c7, C⟩ := D.cases
  obtain ⟨x1, x2, x3, x4, x5⟩ := D.wraps c2 c3 (by omega) c5 c6
  have F : Hid (Y = y * 2 ^ s ∧ (0 : Int) < 2 ^ s ∧ (h * 18446744073709551616 + l) * 2 ^ s = U * 18446744073709551616 + V ∧ V = v1 * 4294967296 + v0) := ⟨f1, f2, f3, f4⟩
  have F2 : Hid (q * y1 + r = U ∧ 9223372036854775808 ≤ y * ((2 ^ s : Nat) : Int) ∧ y * ((2 ^ s : Nat) : Int) < 18446744073709551616) := ⟨c2, n1, n2⟩
  clear f1 f2 f3 f4 c2 n1 n2
  go_enter Try.func69, Try.ntmps69
  go_upto_block 0 with (go_at_call 70; refine (LZ _).mono ?_; rintro e w' ⟨rfl, hw⟩; rw [hw]; clear hw w')
  simp only [c1]
  go_cut [15, 16] (fun s15 s16 wc => s15 = .int .u64 (digit Y U v1) ∧ (∃ r', s16 = .int .u64 r') ∧ wc = w)
  case first =>
    have hq1 : 4294967296 ≤ q ∨ (q < 4294967296 ∧ 4294967296 * r + v1 < q * y0) → 1 ≤ q := fun hc => by
      have := D.nonneg; have := (D.less F2.out.1 (hc.imp id And.right)).1; omega
    have hz : 1 ≤ q → r + y1 < 4294967296 → IntKind.u64.wrap ((q - 1) * y0) = (q - 1) * y0 ∧ IntKind.u64.wrap (4294967296 * (r + y1)) = 4294967296 * (r + y1) ∧ IntKind.u64.wrap (4294967296 * (r + y1) + v1) = 4294967296 * (r + y1) + v1 := fun h1 h2 =>
      (D.wraps (q := q - 1) (r := r + y1) (by have := F2.out.1; rw [Int.sub_mul]; omega) (by omega) (by omega) (by omega) (by omega)).2.2
    have hq2 : r + y1 < 4294967296 → 1 ≤ q → 4294967296 ≤ q - 1 ∨ (q - 1 < 4294967296 ∧ 4294967296 * (r + y1) + v1 < (q - 1) * y0) → 1 ≤ q - 1 := fun h2 h1 hc => by
      have := D.nonneg; have := (D.less (q := q - 1) (r := r + y1) (by have := F2.out.1; rw [Int.sub_mul]; omega) (hc.imp id And.right)).1; omega
    clear c7 hne hne' hle h0 h1 h2 h3 LZ e1 e2 e3 e4 e5 e6 e7 x1 x2 D c1 hl hy F F2
    rcases C with ⟨d1, d2, d3⟩ | ⟨d1, d2, d3⟩ | ⟨d1, d2, d4, d5, d3⟩ | ⟨d1, d2, d4, d5, d3⟩
    · have HD : Hid (q = digit Y U v1) := d3
      clear d3 hq1 hq2 hz
      go_wp2
      refine wp_loop_rounds 1 ?_; rw [rounds_succ]
      go_wp2
      go_meet
      case rel => exact ⟨by rw [← HD.out], ⟨_, rfl⟩, rfl⟩
    · have HD : Hid (q - 1 = digit Y U v1) := d3
      have q1 := hq1 d1
      clear d3 hq1 hq2 hz
      rcases d1 with d1 | ⟨d1, d1'⟩
      all_goals
        go_wp2
        refine wp_loop_rounds 1 ?_; rw [rounds_succ]
        go_wp2
        go_meet
        case rel => exact ⟨by rw [← HD.out], ⟨_, rfl⟩, rfl⟩
    · have HD : Hid (q - 1 = digit Y U v1) := d3
      have q1 := hq1 d1
      obtain ⟨z1, z2, z3⟩ := hz q1 d2
      clear d3 hq1 hq2 hz
      rcases d1 with d1 | ⟨d1, d1'⟩
      all_goals
        go_wp2
        refine wp_loop_rounds 2 ?_; rw [rounds_succ]
        go_wp2
        rw [rounds_succ]
        go_wp2
        go_meet
        case rel => exact ⟨by rw [← HD.out], ⟨_, rfl⟩, rfl⟩
    · have HD : Hid (q - 1 - 1 = digit Y U v1) := d3
      have q1 := hq1 d1
      have q2 := hq2 d2 q1 d4
      obtain ⟨z1, z2, z3⟩ := hz q1 d2
      clear d3 hq1 hq2 hz
      rcases d1 with d1 | ⟨d1, d1'⟩ <;> rcases d4 with d4 | ⟨d4, d4'⟩
      any_goals (exfalso; omega)
      all_goals
        go_wp2
        refine wp_loop_rounds 2 ?_; rw [rounds_succ]
        go_wp2
        rw [rounds_succ]
        go_wp2
        go_meet
        case rel => exact ⟨by rw [← HD.out], ⟨_, rfl⟩, rfl⟩
  case rest =>
    obtain ⟨rfl, ⟨r', rfl⟩, hwc⟩ := hcut
    rw [hwc]
    clear hwc
    obtain ⟨R1, eR1, R1a, R1b, R1c⟩ := D.left
    have T1a := D.nonneg; have T1b := D.small
    have m3 : IntKind.u64.wrap (IntKind.u64.wrap (IntKind.u64.wrap (U * 4294967296) + v1) - IntKind.u64.wrap (digit Y U v1 * Y)) = R1 := by simp only [u64_wrap]; omega
    obtain ⟨a1, hk1⟩ : ∃ a, IntKind.u64.wrap (U * 4294967296) = a := ⟨_, rfl⟩
    obtain ⟨a2, hk2⟩ : ∃ a, IntKind.u64.wrap (a1 + v1) = a := ⟨_, rfl⟩
    obtain ⟨a3, hk3⟩ : ∃ a, IntKind.u64.wrap (digit Y U v1 * Y) = a := ⟨_, rfl⟩
    rw [hk1, hk2, hk3] at m3
    have D2 : Dig Y y1 y0 R1 v0 := ⟨D.y, D.a, D.b, D.c, D.d, R1a, R1b, b1, b2⟩
    clear C x1 x2 x3 x4 x5 c1 c3 c4 c5 c6 c7 F2 LZ e1 e2 e3 e4 e5 e6 e7 hne hne' hle
    generalize digit Y U v1 = T1 at *
    obtain ⟨p, t, c1, c2, c3, c4, c5, c6, c7, C⟩ := D2.cases
    obtain ⟨x1, x2, x3, x4, x5⟩ := D2.wraps c2 c3 (by omega) c5 c6
    have F2 : Hid (p * y1 + t = R1 ∧ T1 * Y + R1 = U * 4294967296 + v1 ∧ R1 = (U * 4294967296 + v1) % Y) := ⟨c2, R1c, eR1⟩
    have hne1 : ¬ (y1 = 0) := by omega
    clear c2 R1c eR1
    go_upto_block 2 with fail
    simp only [c1]
    go_cut [18, 16] (fun s18 s16 wc' => s18 = .int .u64 (digit Y R1 v0) ∧ (∃ r', s16 = .int .u64 r') ∧ wc' = w)
    case first =>
      have hq1 : 4294967296 ≤ p ∨ (p < 4294967296 ∧ 4294967296 * t + v0 < p * y0) → 1 ≤ p := fun hc => by
        have := D2.nonneg; have := (D2.less F2.out.1 (hc.imp id And.right)).1; omega
      have hz : 1 ≤ p → t + y1 < 4294967296 → IntKind.u64.wrap ((p - 1) * y0) = (p - 1) * y0 ∧ IntKind.u64.wrap (4294967296 * (t + y1)) = 4294967296 * (t + y1) ∧ IntKind.u64.wrap (4294967296 * (t + y1) + v0) = 4294967296 * (t + y1) + v0 := fun h1 h2 =>
        (D2.wraps (q := p - 1) (r := t + y1) (by have := F2.out.1; rw [Int.sub_mul]; omega) (by omega) (by omega) (by omega) (by omega)).2.2
      have hq2 : t + y1 < 4294967296 → 1 ≤ p → 4294967296 ≤ p - 1 ∨ (p - 1 < 4294967296 ∧ 4294967296 * (t + y1) + v0 < (p - 1) * y0) → 1 ≤ p - 1 := fun h2 h1 hc => by
        have := D2.nonneg; have := (D2.less (q := p - 1) (r := t + y1) (by have := F2.out.1; rw [Int.sub_mul]; omega) (hc.imp id And.right)).1; omega
      clear c7 h0 h1 h2 h3 x1 x2 D D2 c1 hl hy F F2 m3 hk1 hk2 hk3 R1a R1b T1a T1b
      rcases C with ⟨d1, d2, d3⟩ | ⟨d1, d2, d3⟩ | ⟨d1, d2, d4, d5, d3⟩ | ⟨d1, d2, d4, d5, d3⟩
      · have HD : Hid (p = digit Y R1 v0) := d3
        clear d3 hq1 hq2 hz
        go_wp2
        refine wp_loop_rounds 1 ?_; rw [rounds_succ]
        go_wp2
        go_meet
        case rel => exact ⟨by rw [← HD.out], ⟨_, rfl⟩, rfl⟩
      · have HD : Hid (p - 1 = digit Y R1 v0) := d3
        have q1 := hq1 d1
        clear d3 hq1 hq2 hz
        rcases d1 with d1 | ⟨d1, d1'⟩
        all_goals
          go_wp2
          refine wp_loop_rounds 1 ?_; rw [rounds_succ]
          go_wp2
          go_meet
          case rel => exact ⟨by rw [← HD.out], ⟨_, rfl⟩, rfl⟩
      · have HD : Hid (p - 1 = digit Y R1 v0) := d3
        have q1 := hq1 d1
        obtain ⟨z1, z2, z3⟩ := hz q1 d2
        clear d3 hq1 hq2 hz
        rcases d1 with d1 | ⟨d1, d1'⟩
        all_goals
          go_wp2
          refine wp_loop_rounds 2 ?_; rw [rounds_succ]
          go_wp2
          rw [rounds_succ]
          go_wp2
          go_meet
          case rel => exact ⟨by rw [← HD.out], ⟨_, rfl⟩, rfl⟩
      · have HD : Hid (p - 1 - 1 = digit Y R1 v0) := d3
        have q1 := hq1 d1
        have q2 := hq2 d2 q1 d4
        obtain ⟨z1, z2, z3⟩ := hz q1 d2
        clear d3 hq1 hq2 hz
        rcases d1 with d1 | ⟨d1, d1'⟩ <;> rcases d4 with d4 | ⟨d4, d4'⟩
        any_goals (exfalso; omega)
        all_goals
          go_wp2
          refine wp_loop_rounds 2 ?_; rw [rounds_succ]
          go_wp2
          rw [rounds_succ]
          go_wp2
          go_meet
          case rel => exact ⟨by rw [← HD.out], ⟨_, rfl⟩, rfl⟩
    case rest =>
      obtain ⟨rfl, ⟨r'', rfl⟩, hwc⟩ := hcut
      rw [hwc]
      clear hwc
      obtain ⟨R0, eR0, R0a, R0b, R0c⟩ := D2.left
      have T0a := D2.nonneg; have T0b := D2.small
      obtain ⟨f1, f2, f3, f4⟩ := F.out
      have R1c := F2.out.2.1
      obtain ⟨k1, k2⟩ := both f2 (by omega) f1 f3 f4 R1c R0c R0a R0b
      have m5 : IntKind.u64.wrap (IntKind.u64.wrap (IntKind.u64.wrap (R1 * 4294967296) + v0) - IntKind.u64.wrap (digit Y R1 v0 * Y)) = R0 := by simp only [u64_wrap]; omega
      have m4 : IntKind.u64.wrap (T1 * 4294967296 + digit Y R1 v0) = T1 * 4294967296 + digit Y R1 v0 := by simp only [u64_wrap]; omega
      obtain ⟨a4, hk4⟩ : ∃ a, IntKind.u64.wrap (R1 * 4294967296) = a := ⟨_, rfl⟩
      obtain ⟨a5, hk5⟩ : ∃ a, IntKind.u64.wrap (a4 + v0) = a := ⟨_, rfl⟩
      obtain ⟨a6, hk6⟩ : ∃ a, IntKind.u64.wrap (digit Y R1 v0 * Y) = a := ⟨_, rfl⟩
      rw [hk4, hk5, hk6] at m5
      have HK : Hid ((h * 18446744073709551616 + l) / y = T1 * 4294967296 + digit Y R1 v0 ∧ (h * 18446744073709551616 + l) % y = R0 / 2 ^ s) := ⟨k1, k2⟩
      clear C x1 x2 x3 x4 x5 c1 c3 c4 c5 c6 c7 F F2 R0c R1c k1 k2 f1 f2 f3 f4 hk1 hk2 hk3 m3 eR0
      go_wp2
      go_ret2
      exact ⟨by rw [HK.out.1, HK.out.2]; rfl, rfl⟩

/-- Both ways. -/
theorem div64_all (h l y : Int) (hl : InU64 l) (hy : InU64 y) (h0 : 0 ≤ h) (hh : h < y) (w : World) : Calls Try.prog 69 #[.int .u64 h, .int .u64 l, .int .u64 y] w fun e w' => e = .returned (.tuple #[.int .u64 ((h * 18446744073709551616 + l) / y), .int .u64 ((h * 18446744073709551616 + l) % y)]) ∧ Ext w w' := by
  rcases Int.lt_or_le 0 h with hp | hp
  · exact (div64_any h l y hl hy hp hh w).mono fun e w' he => ⟨he.1, he.2 ▸ Ext.refl w⟩
  · obtain rfl : h = 0 := by omega
    have := div64_small l y hl hy hh w
    simpa using this
end Go.Proofs.Ythmgilikokcibaa
