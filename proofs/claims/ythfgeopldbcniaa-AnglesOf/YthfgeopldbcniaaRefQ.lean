/- What the given functions gouacheref01.Nearest and Near do, called at any numbers of which the second is not 0. -/
import Derived.Test.YthfgeopldbcniaaRefO
import Derived.Test.YthfgeopldbcniaaRefP
import Derived.Test.YthfgeopldbcniaaRefLMN
import Derived.Test.YthfgeopldbcniaaWideH
namespace Go.Proofs.Ythfgeopldbcniaa
open Go.RowKit Go.BigFrame
set_option linter.unusedSimpArgs false
set_option linter.unusedVariables false

/-- The digits of the quotient, rounded down. -/
def dnX (U : Bool) (V D : Int) : Int := if U = true ∧ ¬ V % D = 0 then V / D + 1 else V / D
theorem dn_sg (U : Bool) {V D : Int} (hD : 0 < D) : sg U (dnX U V D) = sg U V / D := by
  unfold dnX sg
  cases U
  · simp
  · simp only [true_and, if_true]
    by_cases h : V % D = 0
    · rw [if_neg (by simp [h]), Int.neg_ediv_of_dvd (Int.dvd_of_emod_eq_zero h)]
    · rw [if_pos h]
      have e := Int.mul_ediv_add_emod V D
      have r0 := Int.emod_nonneg V (show D ≠ 0 by omega)
      have r1 := Int.emod_lt_of_pos V hD
      generalize V / D = k at *
      generalize V % D = r at *
      rw [show -V = (D - r) + D * (-(k + 1)) by rw [← e, Int.mul_neg, Int.mul_add]; omega, Int.add_mul_ediv_left _ _ (by omega), Int.ediv_eq_zero_of_lt (by omega) (by omega)]
      omega
theorem dnX_in (U : Bool) {V D : Int} (h : InD V) (hV : V + 1 < 6277101735386680763835789423207666416102355444464034512896) (hD : 0 < D) : InD (dnX U V D) ∧ dnX U V D ≤ V + 1 := by
  obtain ⟨a, _, _, _, b⟩ := div_inD h (show 1 ≤ D by omega)
  have := a.1
  unfold dnX InD
  split <;> omega
/-- The sign and the digits ahead of the division. -/
def upS (p : Bool) (X Y : Int) : Bool := sumS p false (X + X) Y
def upX (p : Bool) (X Y : Int) : Int := sumX p false (X + X) Y
/-- Nearest, halves up: the floor of twice the one and the other one, by twice the other one. -/
def nq (a b : Int) : Int := if b < 0 then (2 * -a + -b) / (2 * -b) else (2 * a + b) / (2 * b)
theorem nearest_any (s t : Bool) (X Y : Int) (hX : 0 ≤ X) (hY : 0 < Y) (h1 : X + X + Y + 1 < 6277101735386680763835789423207666416102355444464034512896) (h2 : Y + Y + (Y + Y) ≤ 6277101735386680763835789423207666416102355444464034512896) (w : World) :
    Calls Try.prog 40 #[(.agg #[.bool (s), .int .i64 (dg (X) 0), .int .i64 (dg (X) 1), .int .i64 (dg (X) 2), .int .i64 (dg (X) 3), .int .i64 (dg (X) 4), .int .i64 (dg (X) 5), .int .i64 (dg (X) 6), .int .i64 (dg (X) 7), .int .i64 (dg (X) 8), .int .i64 (dg (X) 9), .int .i64 (dg (X) 10), .int .i64 (dg (X) 11)]), (.agg #[.bool (t), .int .i64 (dg (Y) 0), .int .i64 (dg (Y) 1), .int .i64 (dg (Y) 2), .int .i64 (dg (Y) 3), .int .i64 (dg (Y) 4), .int .i64 (dg (Y) 5), .int .i64 (dg (Y) 6), .int .i64 (dg (Y) 7), .int .i64 (dg (Y) 8), .int .i64 (dg (Y) 9), .int .i64 (dg (Y) 10), .int .i64 (dg (Y) 11)])] w fun e w' => e = .returned (.agg #[.bool (upS (s != t) X Y), .int .i64 (dg (dnX (upS (s != t) X Y) (upX (s != t) X Y) (Y + Y)) 0), .int .i64 (dg (dnX (upS (s != t) X Y) (upX (s != t) X Y) (Y + Y)) 1), .int .i64 (dg (dnX (upS (s != t) X Y) (upX (s != t) X Y) (Y + Y)) 2), .int .i64 (dg (dnX (upS (s != t) X Y) (upX (s != t) X Y) (Y + Y)) 3), .int .i64 (dg (dnX (upS (s != t) X Y) (upX (s != t) X Y) (Y + Y)) 4), .int .i64 (dg (dnX (upS (s != t) X Y) (upX (s != t) X Y) (Y + Y)) 5), .int .i64 (dg (dnX (upS (s != t) X Y) (upX (s != t) X Y) (Y + Y)) 6), .int .i64 (dg (dnX (upS (s != t) X Y) (upX (s != t) X Y) (Y + Y)) 7), .int .i64 (dg (dnX (upS (s != t) X Y) (upX (s != t) X Y) (Y + Y)) 8), .int .i64 (dg (dnX (upS (s != t) X Y) (upX (s != t) X Y) (Y + Y)) 9), .int .i64 (dg (dnX (upS (s != t) X Y) (upX (s != t) X Y) (Y + Y)) 10), .int .i64 (dg (dnX (upS (s != t) X Y) (upX (s != t) X Y) (Y + Y)) 11)]) ∧ Ext w w' := by
  have hV := sumX_in (s != t) false (X := X + X) (Y := Y) (by omega) (by omega) (by omega)
  have dv := fun w => divided_any (upX (s != t) X Y) (Y + Y) hV.1 (by omega) h2 w
  have sa := fun w => nsum_any (s != t) (s != t) X X ⟨hX, by omega⟩ ⟨hX, by omega⟩ w
  rw [show sumS (s != t) (s != t) X X = (s != t) by simp [sumS], show sumX (s != t) (s != t) X X = X + X by simp [sumX]] at sa
  have sb := fun w => nsum_any (s != t) false (X + X) Y ⟨by omega, by omega⟩ ⟨by omega, by omega⟩ w
  rw [show sumS (s != t) false (X + X) Y = upS (s != t) X Y from rfl, show sumX (s != t) false (X + X) Y = upX (s != t) X Y from rfl] at sb
  have hr : isz (upX (s != t) X Y % (Y + Y)) = decide (upX (s != t) X Y % (Y + Y) = 0) := isz_eq (div_inD hV.1 (by omega)).2.1
  unfold dnX
  generalize hU : upS (s != t) X Y = U at *
  generalize hV2 : upX (s != t) X Y = V at *
  cases t
  · rw [show (s != false) = s by cases s <;> rfl] at *
    cases U
    · rw [if_neg (by simp)]
      exact nearp_up s X Y V _ _ sa sb dv w
    · by_cases hz : V % (Y + Y) = 0
      · rw [if_neg (by simp [hz])]
        exact nearp_even s X Y V _ _ sa sb dv (by rw [hr]; simp [hz]) w
      · rw [if_pos (by simp [hz])]
        exact nearp_odd s X Y V _ _ sa sb dv (by rw [hr]; simp [hz]) w
  · have m1 := fun w => minus_any s X w
    have m2 := fun w => minus_any true Y w
    rw [show (s != true) = !s by cases s <;> rfl] at *
    cases U
    · rw [if_neg (by simp)]
      exact nearn_up s (!s) X Y V _ _ m1 m2 sa sb dv w
    · by_cases hz : V % (Y + Y) = 0
      · rw [if_neg (by simp [hz])]
        exact nearn_even s (!s) X Y V _ _ m1 m2 sa sb dv (by rw [hr]; simp [hz]) w
      · rw [if_pos (by simp [hz])]
        exact nearn_odd s (!s) X Y V _ _ m1 m2 sa sb dv (by rw [hr]; simp [hz]) w
/-- What these digits are worth. -/
theorem up_sg (s t : Bool) (X Y : Int) (hY : 0 < Y) : sg (upS (s != t) X Y) (dnX (upS (s != t) X Y) (upX (s != t) X Y) (Y + Y)) = nq (sg s X) (sg t Y) := by
  rw [dn_sg _ (by omega)]
  unfold upS upX nq
  rw [sum_sg]
  have e1 : sg (s != t) (X + X) + sg false Y = if sg t Y < 0 then 2 * -sg s X + -sg t Y else 2 * sg s X + sg t Y := by
    unfold sg; cases s <;> cases t <;> simp <;> split <;> omega
  have e2 : Y + Y = if sg t Y < 0 then 2 * -sg t Y else 2 * sg t Y := by
    unfold sg; cases t <;> simp <;> split <;> omega
  rw [e1]
  conv => lhs; rhs; rw [e2]
  split <;> rfl
theorem nq_nr (a d : Int) (hd : 1 ≤ d) : nq a d = nr a d := by
  unfold nq nr
  rw [if_neg (by omega)]
  have e := Int.mul_ediv_add_emod a d
  have r0 := Int.emod_nonneg a (show d ≠ 0 by omega)
  have r1 := Int.emod_lt_of_pos a (show 0 < d by omega)
  generalize a / d = k at *
  generalize a % d = r at *
  have e3 : 2 * a + d = (2 * r + d) + 2 * d * k := by rw [← e, Int.mul_add, Int.mul_assoc]; omega
  rw [e3, Int.add_mul_ediv_left _ _ (by omega)]
  by_cases h : d - r ≤ r
  · rw [if_pos h, show (2 * r + d) = (2 * r - d) + 2 * d * 1 by omega, Int.add_mul_ediv_left _ _ (by omega), Int.ediv_eq_zero_of_lt (by omega) (by omega)]; omega
  · rw [if_neg h, Int.ediv_eq_zero_of_lt (by omega) (by omega)]; omega
theorem rnear_arg (a d : Int) (hd : d < 1) (w : World) : Calls Try.prog 23 #[(.agg #[.int .i64 (hi (a)), .int .u64 (lo (a))]), .int .i64 d] w fun e w' => e = .returned (.tuple #[(.agg #[.int .i64 (hi (0)), .int .u64 (lo (0))]), .int .i64 1]) ∧ Ext w w' := by
  simp only [show lo 0 = 0 from rfl, show hi 0 = 0 from rfl]
  have EX := Ext.refl w
  go_enter Try.func23, Try.ntmps23
  go_wp2
  refine bodyPost_ret (by simp only [results, Try.results23]; simp [go_sem, *]; try rfl) rfl ⟨rfl, ?_⟩
  repeat (first | with_reducible exact EX | with_reducible refine Ext.alloc ?_ _ | with_reducible refine Ext.drew ?_ | with_reducible refine Ext.drewN ?_ _ | with_reducible refine Ext.setCell ?_ (by first | (simp; done) | omega | (dsimp only; omega)) _)
theorem rnear_any (x d : Int) (hx : InW x) (hd : 1 ≤ d) (hd' : In64 d) (w : World) : Calls Try.prog 23 #[(.agg #[.int .i64 (hi (x)), .int .u64 (lo (x))]), .int .i64 d] w fun e w' => e = .returned (.tuple #[(.agg #[.int .i64 (hi (nr x d)), .int .u64 (lo (nr x d))]), .int .i64 0]) ∧ Ext w w' := by
  have EX := Ext.refl w
  have h1 := ab_le hx
  have h2 := hd'.2
  have rd := fun w => read_any x hx w
  have sl := fun w => small_pos d (by omega) hd' w
  have ne := fun w => nearest_any (decide (x < 0)) false (ab x) d h1.1 (by omega) (by omega) (by omega) w
  have hV := sumX_in (decide (x < 0) != false) false (X := ab x + ab x) (Y := d) (by omega) (by omega) (by omega)
  have hi := dnX_in (upS (decide (x < 0) != false) (ab x) d) (V := upX (decide (x < 0) != false) (ab x) d) (D := d + d) hV.1 (by have := hV.2; unfold upX; omega) (by omega)
  have e := up_sg (decide (x < 0)) false (ab x) d (by omega)
  rw [sg_ab, show sg false d = d from rfl, nq_nr x d hd] at e
  have hn : InW (nr x d) := by
    have := nr_in x d hx hd
    unfold nr
    split
    · exact this.2 (by assumption)
    · exact this.1
  have tl := fun w => tell_W _ _ _ hi.1 e hn w
  generalize dnX (upS (decide (x < 0) != false) (ab x) d) (upX (decide (x < 0) != false) (ab x) d) (d + d) = Z at *
  generalize upS (decide (x < 0) != false) (ab x) d = S at *
  have hd1 : ¬ d < 1 := by omega
  clear h1 h2 hx hd hd' hV hi e hn
  go_enter Try.func23, Try.ntmps23
  go_upto_region 3 with fail
  refine rebase (G := fun w' => Code.wp _ _ _ _ w') _ (fun v1 => Ext w v1 ∧ Wm v1 (w.heap.size) (hi x) (lo x) ∧ Wm v1 (w.heap.size + 1) (0) (0)) ⟨by repeat (first | with_reducible exact EX | with_reducible refine Ext.alloc ?_ _ | with_reducible refine Ext.drew ?_ | with_reducible refine Ext.drewN ?_ _ | with_reducible refine Ext.setCell ?_ (by first | (simp; done) | omega | (dsimp only; omega)) _), by repeat (first | with_reducible assumption | with_reducible refine Wm.drew ?_ | with_reducible refine Wm.drewN ?_ _ | (with_reducible refine Wm.skip ?_ ?_; focus (first | omega | (simp; done))) | with_reducible refine Wm.store ?_ _ _ | with_reducible refine Wm.new (by first | rfl | (simp; done) | with_unfolding_all rfl) (by with_unfolding_all rfl) (by with_unfolding_all rfl) | with_reducible refine Wm.alloc ?_ _ | exact Wm.any (by with_reducible assumption) | with_reducible refine WmAny.drew ?_ | with_reducible refine WmAny.drewN ?_ _ | (with_reducible refine WmAny.skip ?_ ?_; focus (first | omega | (simp; done))) | with_reducible refine WmAny.alloc ?_ _), by repeat (first | with_reducible assumption | with_reducible refine Wm.drew ?_ | with_reducible refine Wm.drewN ?_ _ | (with_reducible refine Wm.skip ?_ ?_; focus (first | omega | (simp; done))) | with_reducible refine Wm.store ?_ _ _ | with_reducible refine Wm.new (by first | rfl | (simp; done) | with_unfolding_all rfl) (by with_unfolding_all rfl) (by with_unfolding_all rfl) | with_reducible refine Wm.alloc ?_ _ | exact Wm.any (by with_reducible assumption) | with_reducible refine WmAny.drew ?_ | with_reducible refine WmAny.drewN ?_ _ | (with_reducible refine WmAny.skip ?_ ?_; focus (first | omega | (simp; done))) | with_reducible refine WmAny.alloc ?_ _)⟩ ?_; clear EX ; rintro v1 ⟨EX, WA, WR⟩; rename World => v; have WAhi := WA.hi; have WAlo := WA.lo; have WAfz := WA.fz; have WAlt := WA.lt; have WRhi := WR.hi; have WRlo := WR.lo; have WRfz := WR.fz; have WRlt := WR.lt
  go_wp2_with (first | (go_at_call 41; with_reducible refine (rd _).mono ?_; rintro e v1 ⟨rfl, hb⟩; replace EX := Ext.trans EX hb; replace WA := WA.later hb; replace WR := WR.later hb; replace WAhi := WA.hi; replace WAlo := WA.lo; replace WAfz := WA.fz; replace WAlt := WA.lt; replace WRhi := WR.hi; replace WRlo := WR.lo; replace WRfz := WR.fz; replace WRlt := WR.lt; clear hb v; rename World => v) | (go_at_call 42; with_reducible refine (sl _).mono ?_; rintro e v1 ⟨rfl, hb⟩; replace EX := Ext.trans EX hb; replace WA := WA.later hb; replace WR := WR.later hb; replace WAhi := WA.hi; replace WAlo := WA.lo; replace WAfz := WA.fz; replace WAlt := WA.lt; replace WRhi := WR.hi; replace WRlo := WR.lo; replace WRfz := WR.fz; replace WRlt := WR.lt; clear hb v; rename World => v) | (go_at_call 40; with_reducible refine (ne _).mono ?_; rintro e v1 ⟨rfl, hb⟩; replace EX := Ext.trans EX hb; replace WA := WA.later hb; replace WR := WR.later hb; replace WAhi := WA.hi; replace WAlo := WA.lo; replace WAfz := WA.fz; replace WAlt := WA.lt; replace WRhi := WR.hi; replace WRlo := WR.lo; replace WRfz := WR.fz; replace WRlt := WR.lt; clear hb v; rename World => v) | (go_at_call 35; with_reducible refine (tl _).mono ?_; rintro e v1 ⟨rfl, hb⟩; replace EX := Ext.trans EX hb; replace WA := WA.later hb; replace WR := WR.later hb; replace WAhi := WA.hi; replace WAlo := WA.lo; replace WAfz := WA.fz; replace WAlt := WA.lt; replace WRhi := WR.hi; replace WRlo := WR.lo; replace WRfz := WR.fz; replace WRlt := WR.lt; clear hb v; rename World => v))
  refine bodyPost_ret (by simp only [results, Try.results23]; simp [go_sem, *]; try rfl) rfl ⟨rfl, ?_⟩; repeat (first | with_reducible exact EX | with_reducible refine Ext.alloc ?_ _ | with_reducible refine Ext.drew ?_ | with_reducible refine Ext.drewN ?_ _ | with_reducible refine Ext.setCell ?_ (by first | (simp; done) | omega | (dsimp only; omega)) _)
end Go.Proofs.Ythfgeopldbcniaa
