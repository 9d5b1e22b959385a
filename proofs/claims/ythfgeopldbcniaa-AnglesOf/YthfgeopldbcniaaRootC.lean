/- What the functions of package roots do, called at any arguments: RootWide, Sqrt, Log; and what the given functions product and lives of gouachelaw03 do. -/
import Derived.Test.YthfgeopldbcniaaRootAB
import Derived.Shelf.Small.Bits
import Derived.Lib.ItoaNum
import Derived.Laws.MathBits
namespace Go.Proofs.Ythfgeopldbcniaa
open Go.RowKit Go.BigFrame Go.Shelf
set_option linter.unusedSimpArgs false
set_option linter.unusedVariables false
def lnRen : Go.Shelf.Ren := ⟨fun | 129 => 52 | n => n, fun | 3 => 3 | 4 => 4 | 5 => 5 | 9 => 9 | 46 => 80 | 53 => 47 | n => n, fun n => n⟩
theorem lnLay : Lays.n129 Try.prog lnRen := { mixed := by kernel_rfl, f129 := by kernel_rfl, t3 := by kernel_rfl, a3 := fun _ => by kernel_rfl, z3 := fun _ => by kernel_rfl, v3 := fun _ => by kernel_rfl, t4 := by kernel_rfl, a4 := fun _ => by kernel_rfl, z4 := fun _ => by kernel_rfl, v4 := fun _ => by kernel_rfl, t5 := by kernel_rfl, a5 := fun _ => by kernel_rfl, z5 := fun _ => by kernel_rfl, v5 := fun _ => by kernel_rfl, t9 := by kernel_rfl, a9 := fun _ => by kernel_rfl, z9 := fun _ => by kernel_rfl, v9 := fun _ => by kernel_rfl, t46 := by kernel_rfl, a46 := fun _ => by kernel_rfl, z46 := fun _ => by kernel_rfl, v46 := fun _ => by kernel_rfl, t53 := by kernel_rfl, a53 := fun _ => by kernel_rfl, z53 := fun _ => by kernel_rfl, v53 := fun _ => by kernel_rfl }
/-- The place of the highest bit; -1 of 0. -/
def lg (n : Int) : Int := (Lib.bitLenAux 64 n.toNat : Int) - 1
theorem len_any (n : Int) (hn : InU64 n) (w : World) : Calls Try.prog 52 #[.int .u64 n] w fun e w' => e = .returned (.int .i64 (lg n + 1)) ∧ Ext w w' := by
  have h := Any.bits_Len64 lnLay n w hn.1 (by have := hn.2; omega)
  refine h.mono ?_
  rintro e w' ⟨rfl, rfl⟩
  exact ⟨by unfold lg Lib.bitLen; rw [Int.sub_add_cancel], Ext.refl _⟩
theorem lg_0 : lg 0 = -1 := by decide
theorem lg_in {n : Int} (hn : InU64 n) : -1 ≤ lg n ∧ lg n ≤ 63 := by
  have := Any.bitLen_le64 n hn.1 (by have := hn.2; omega)
  unfold lg; unfold Lib.bitLen at this; omega
/-- What is above 0 lies between two powers of 2. -/
theorem lg_pow {n : Int} (hn : InU64 n) (h : 0 < n) : ∃ k : Nat, lg n = (k : Int) ∧ k ≤ 63 ∧ ((2 ^ k : Nat) : Int) ≤ n ∧ n < ((2 ^ (k + 1) : Nat) : Int) := by
  obtain ⟨m, rfl⟩ := Int.eq_ofNat_of_zero_le hn.1
  obtain ⟨h1, h2, h3⟩ := Lib.bitLenAux_bounds 64 m (by have := hn.2; omega) (by omega)
  have hi := lg_in hn
  refine ⟨Lib.bitLenAux 64 m - 1, ?_, ?_, by exact_mod_cast h2, ?_⟩
  · unfold lg; rw [Int.toNat_natCast]; omega
  · unfold lg at hi; rw [Int.toNat_natCast] at hi; omega
  · rw [Nat.sub_add_cancel h1]; exact_mod_cast h3
theorem log_any (n : Int) (hn : InU64 n) (w : World) : Calls Try.prog 29 #[.int .u64 n] w fun e w' => e = .returned (.int .i64 (lg n)) ∧ Ext w w' := by
  have EX := Ext.refl w
  have L := fun w => len_any n hn w
  have h := lg_in hn
  have e : lg n + 1 - 1 = lg n := by omega
  have h1 := h.1
  have h2 := h.2
  clear h hn
  obtain ⟨l, hl⟩ : ∃ l, lg n + 1 = l := ⟨_, rfl⟩
  rw [hl] at L e
  rw [← e]
  generalize lg n = g at *
  have l1 : 0 ≤ l := by omega
  have l2 : l ≤ 64 := by omega
  clear e hl h1 h2
  go_enter Try.func29, Try.ntmps29
  go_wp2_with (first | (go_at_call 52; with_reducible refine (L _).mono ?_; rintro e v1 ⟨rfl, hb⟩; replace EX := Ext.trans EX hb; clear hb))
  go_ret
  exact ⟨rfl, EX⟩
theorem rootWide_neg (x : Int) (hx : x < 0) (w : World) : Calls Try.prog 81 #[(.agg #[.int .i64 (hi (x)), .int .u64 (lo (x))])] w fun e w' => e = .returned (.tuple #[.int .u64 0, .int .i64 1]) ∧ Ext w w' := by
  have EX := Ext.refl w
  have hh : hi x < 0 := by rw [hi_neg]; exact hx
  clear hx
  go_enter Try.func81, Try.ntmps81
  go_wp2
  go_ret2
  exact ⟨rfl, by repeat (first | with_reducible exact EX | with_reducible refine Ext.alloc ?_ _ | with_reducible refine Ext.drew ?_ | with_reducible refine Ext.drewN ?_ _ | with_reducible refine Ext.setCell ?_ (by first | (simp; done) | omega | (dsimp only; omega)) _)⟩

theorem rootWide_walk (x r : Int) (hh : ¬ hi x < 0) (S : ∀ w, Calls Try.prog 85 #[(.agg #[.int .i64 (hi (x)), .int .u64 (lo (x))]), .agg #[.int .i64 64, .func (.func 88) #[] #[], .func (.func 89) #[] #[]]] w fun e w' => e = .returned (.int .u64 r) ∧ Ext w w') (w : World) :
    Calls Try.prog 81 #[(.agg #[.int .i64 (hi (x)), .int .u64 (lo (x))])] w fun e w' => e = .returned (.tuple #[.int .u64 r, .int .i64 0]) ∧ Ext w w' := by
  have EX := Ext.refl w
  go_enter Try.func81, Try.ntmps81
  go_upto_region 3 with fail
  refine rebase (G := fun w' => Code.wp _ _ _ _ w') _ (fun v1 => Ext w v1 ∧ Wm v1 (w.heap.size) (hi x) (lo x)) ⟨by repeat (first | with_reducible exact EX | with_reducible refine Ext.alloc ?_ _ | with_reducible refine Ext.drew ?_ | with_reducible refine Ext.drewN ?_ _ | with_reducible refine Ext.setCell ?_ (by first | (simp; done) | omega | (dsimp only; omega)) _), by repeat (first | with_reducible assumption | with_reducible refine Wm.drew ?_ | with_reducible refine Wm.drewN ?_ _ | (with_reducible refine Wm.skip ?_ ?_; focus (first | omega | (simp; done))) | with_reducible refine Wm.store ?_ _ _ | with_reducible refine Wm.new (by first | rfl | (simp; done) | with_unfolding_all rfl) (by with_unfolding_all rfl) (by with_unfolding_all rfl) | with_reducible refine Wm.alloc ?_ _ | exact Wm.any (by with_reducible assumption) | with_reducible refine WmAny.drew ?_ | with_reducible refine WmAny.drewN ?_ _ | (with_reducible refine WmAny.skip ?_ ?_; focus (first | omega | (simp; done))) | with_reducible refine WmAny.alloc ?_ _)⟩ ?_; clear EX ; rintro v1 ⟨EX, WA⟩; rename World => v; have WAhi := WA.hi; have WAlo := WA.lo; have WAfz := WA.fz; have WAlt := WA.lt
  have gWAhi := fun x' : Grow v => (WA.later x'.ext).hi; have gWAlo := fun x' : Grow v => (WA.later x'.ext).lo; have gWAfz := fun x' : Grow v => (WA.later x'.ext).fz; have gWAlt := fun x' : Grow v => (WA.later x'.ext).lt; refine wp_region_grow (by kernel_rfl) (by kernel_rfl) ?_; (repeat (first | go_big_quiet_step ((go_at_call 86; with_reducible exact calls_grow (wide_any _))) | go_big_quiet_step ((go_at_call 85; with_reducible exact calls_grow (S _))) | go_big_quiet_step (fail))); refine wpQuiet_nil ?_; clear gWAhi gWAlo gWAfz gWAlt; rintro _ ⟨xq, rfl⟩; replace EX := Ext.trans EX xq.ext; replace WA := WA.later xq.ext; replace WAhi := WA.hi; replace WAlo := WA.lo; replace WAfz := WA.fz; replace WAlt := WA.lt; generalize xq.out = v1 at *; clear xq v; rename World => v
  go_wp2
  go_ret2
  exact ⟨rfl, EX⟩
theorem rootWide_any (x : Int) (hx : InW x) (h0 : 0 ≤ x) (w : World) : Calls Try.prog 81 #[(.agg #[.int .i64 (hi (x)), .int .u64 (lo (x))])] w fun e w' => e = .returned (.tuple #[.int .u64 (rt x), .int .i64 0]) ∧ Ext w w' := by
  obtain ⟨n, rfl⟩ := Int.eq_ofNat_of_zero_le h0
  exact rootWide_walk _ _ (by rw [hi_neg]; omega) (fun w => soughtWide_any n (by have := hx.2; omega) w) w
theorem or_half (c d : Int) (c0 : 0 ≤ c) (c1 : c < 4294967296) (d0 : 0 ≤ d) (d1 : d < 4294967296) : bits .or .u64 (c * 4294967296) d = c * 4294967296 + d := by
  obtain ⟨m, rfl⟩ := Int.eq_ofNat_of_zero_le c0
  obtain ⟨n, rfl⟩ := Int.eq_ofNat_of_zero_le d0
  have h := u64_or_nat (m * 4294967296) n (by omega) (by omega)
  have e : m * 4294967296 ||| n = m * 4294967296 + n := by
    have := Nat.shiftLeft_add_eq_or_of_lt (show n < 2 ^ 32 by omega) m
    rw [Nat.shiftLeft_eq] at this
    exact this.symm
  rw [e, show ((m * 4294967296 + n : Nat) : Int) = (m : Int) * 4294967296 + (n : Int) by omega, show ((m * 4294967296 : Nat) : Int) = (m : Int) * 4294967296 by omega] at h
  exact h
theorem u64_id {n : Int} (h0 : 0 ≤ n) (h1 : n < 18446744073709551616) : IntKind.u64.wrap n = n := by rw [u64_wrap, Int.emod_eq_of_lt h0 h1]
theorem half_mul {x y : Int} (x0 : 0 ≤ x) (x1 : x ≤ 4294967295) (y0 : 0 ≤ y) (y1 : y ≤ 4294967295) : 0 ≤ x * y ∧ x * y ≤ 18446744065119617025 :=
  ⟨Int.mul_nonneg x0 y0, Int.mul_le_mul x1 y1 y0 (by decide)⟩
end Go.Proofs.Ythfgeopldbcniaa
