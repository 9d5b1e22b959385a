/- What the given functions gouacheref01.Nearest and Near do, called at any numbers of which the second is not 0. -/
import Derived.Test.YthmgilikokcibaaRefO
import Derived.Test.YthmgilikokcibaaRefP
import Derived.Test.YthmgilikokcibaaRefN
import Derived.Test.YthmgilikokcibaaWideH
namespace Go.Proofs.Ythmgilikokcibaa
open Go.RowKit Go.BigFrame
set_option linter.unusedSimpArgs false
set_option linter.unusedVariables false

/-- The digits of the quotient, rounded down. -/
def dnX (U : Bool) (V D : Int) : Int := if U = true ∧ ¬ V % D = 0 then V / D + 1 else V / D
theorem dn_sg (U : Bool) {V D : Int} (hD : 0 < D) : sg U (dnX U V D) = sg U V / D := by
  unfold dnX sg
  cases U
  · simp
  · simp only [true_and, if_true]
    by_cases h : V % D = 0
    · rw [if_neg (by simp [h]), Int.neg_ediv_of_dvd (Int.dvd_of_emod_eq_zero h)]
    · rw [if_pos h]
      have e := Int.mul_ediv_add_emod V D
      have r0 := Int.emod_nonneg V (show D ≠ 0 by omega)
      have r1 := Int.emod_lt_of_pos V hD
      generalize V / D = k at *
      generalize V % D = r at *
      rw [show -V = (D - r) + D * (-(k + 1)) by rw [← e, Int.mul_neg, Int.mul_add]; omega, Int.add_mul_ediv_left _ _ (by omega), Int.ediv_eq_zero_of_lt (by omega) (by omega)]
      omega
theorem dnX_in (U : Bool) {V D : Int} (h : InD V) (hV : V + 1 < 6277101735386680763835789423207666416102355444464034512896) (hD : 0 < D) : InD (dnX U V D) ∧ dnX U V D ≤ V + 1 := by
  obtain ⟨a, _, _, _, b⟩ := div_inD h (show 1 ≤ D by omega)
  have := a.1
  unfold dnX InD
  split <;> omega
/-- The sign and the digits ahead of the division. -/
def upS (p : Bool) (X Y : Int) : Bool := sumS p false (X + X) Y
def upX (p : Bool) (X Y : Int) : Int := sumX p false (X + X) Y
/-- Nearest, halves up: the floor of twice the one and the other one, by twice the other one. -/
def nq (a b : Int) : Int := if b < 0 then (2 * -a + -b) / (2 * -b) else (2 * a + b) / (2 * b)
theorem nearest_any (s t : Bool) (X Y : Int) (hX : 0 ≤ X) (hY : 0 < Y) (h1 : X + X + Y + 1 < 6277101735386680763835789423207666416102355444464034512896) (h2 : Y + Y + (Y + Y) ≤ 6277101735386680763835789423207666416102355444464034512896) (w : World) :
    Calls Try.prog 30 #[(.agg #[.bool (s), .int .i64 (dg (X) 0), .int .i64 (dg (X) 1), .int .i64 (dg (X) 2), .int .i64 (dg (X) 3), .int .i64 (dg (X) 4), .int .i64 (dg (X) 5), .int .i64 (dg (X) 6), .int .i64 (dg (X) 7), .int .i64 (dg (X) 8), .int .i64 (dg (X) 9), .int .i64 (dg (X) 10), .int .i64 (dg (X) 11)]), (.agg #[.bool (t), .int .i64 (dg (Y) 0), .int .i64 (dg (Y) 1), .int .i64 (dg (Y) 2), .int .i64 (dg (Y) 3), .int .i64 (dg (Y) 4), .int .i64 (dg (Y) 5), .int .i64 (dg (Y) 6), .int .i64 (dg (Y) 7), .int .i64 (dg (Y) 8), .int .i64 (dg (Y) 9), .int .i64 (dg (Y) 10), .int .i64 (dg (Y) 11)])] w fun e w' => e = .returned (.agg #[.bool (upS (s != t) X Y), .int .i64 (dg (dnX (upS (s != t) X Y) (upX (s != t) X Y) (Y + Y)) 0), .int .i64 (dg (dnX (upS (s != t) X Y) (upX (s != t) X Y) (Y + Y)) 1), .int .i64 (dg (dnX (upS (s != t) X Y) (upX (s != t) X Y) (Y + Y)) 2), .int .i64 (dg (dnX (upS (s != t) X Y) (upX (s != t) X Y) (Y + Y)) 3), .int .i64 (dg (dnX (upS (s != t) X Y) (upX (s != t) X Y) (Y + Y)) 4), .int .i64 (dg (dnX (upS (s != t) X Y) (upX (s != t) X Y) (Y + Y)) 5), .int .i64 (dg (dnX (upS (s != t) X Y) (upX (s != t) X Y) (Y + Y)) 6), .int .i64 (dg (dnX (upS (s != t) X Y) (upX (s != t) X Y) (Y + Y)) 7), .int .i64 (dg (dnX (upS (s != t) X Y) (upX (s != t) X Y) (Y + Y)) 8), .int .i64 (dg (dnX (upS (s != t) X Y) (upX (s != t) X Y) (Y + Y)) 9), .int .i64 (dg (dnX (upS (s != t) X Y) (upX (s != t) X Y) (Y + Y)) 10), .int .i64 (dg (dnX (upS (s != t) X Y) (upX (s != t) X Y) (Y + Y)) 11)]) ∧ Ext w w' := by
  have hV := sumX_in (s != t) false (X := X + X) (Y := Y) (by omega) (by omega) (by omega)
  have dv := fun w => divided_any (upX (s != t) X Y) (Y + Y) hV.1 (by omega) h2 w
  have sa := fun w => nsum_any (s != t) (s != t) X X ⟨hX, by omega⟩ ⟨hX, by omega⟩ w
  rw [show sumS (s != t) (s != t) X X = (s != t) by simp [sumS], show sumX (s != t) (s != t) X X = X + X by simp [sumX]] at sa
  have sb := fun w => nsum_any (s != t) false (X + X) Y ⟨by omega, by omega⟩ ⟨by omega, by omega⟩ w
  rw [show sumS (s != t) false (X + X) Y = upS (s != t) X Y from rfl, show sumX (s != t) false (X + X) Y = upX (s != t) X Y from rfl] at sb
  have hr : isz (upX (s != t) X Y % (Y + Y)) = decide (upX (s != t) X Y % (Y + Y) = 0) := isz_eq (div_inD hV.1 (by omega)).2.1
  unfold dnX
  generalize hU : upS (s != t) X Y = U at *
  generalize hV2 : upX (s != t) X Y = V at *
  cases t
  · rw [show (s != false) = s by cases s <;> rfl] at *
    cases U
    · rw [if_neg (by simp)]
      exact nearp_up s X Y V _ _ sa sb dv w
    · by_cases hz : V % (Y + Y) = 0
      · rw [if_neg (by simp [hz])]
        exact nearp_even s X Y V _ _ sa sb dv (by rw [hr]; simp [hz]) w
      · rw [if_pos (by simp [hz])]
        exact nearp_odd s X Y V _ _ sa sb dv (by rw [hr]; simp [hz]) w
  · have m1 := fun w => minus_any s X w
    have m2 := fun w => minus_any true Y w
    rw [show (s != true) = !s by cases s <;> rfl] at *
    cases U
    · rw [if_neg (by simp)]
      exact nearn_up s (!s) X Y V _ _ m1 m2 sa sb dv w
    · by_cases hz : V % (Y + Y) = 0
      · rw [if_neg (by simp [hz])]
        exact nearn_even s (!s) X Y V _ _ m1 m2 sa sb dv (by rw [hr]; simp [hz]) w
      · rw [if_pos (by simp [hz])]
        exact nearn_odd s (!s) X Y V _ _ m1 m2 sa sb dv (by rw [hr]; simp [hz]) w
/-- What these digits are worth. -/
theorem up_sg (s t : Bool) (X Y : Int) (hY : 0 < Y) : sg (upS (s != t) X Y) (dnX (upS (s != t) X Y) (upX (s != t) X Y) (Y + Y)) = nq (sg s X) (sg t Y) := by
  rw [dn_sg _ (by omega)]
  unfold upS upX nq
  rw [sum_sg]
  have e1 : sg (s != t) (X + X) + sg false Y = if sg t Y < 0 then 2 * -sg s X + -sg t Y else 2 * sg s X + sg t Y := by
    unfold sg; cases s <;> cases t <;> simp <;> split <;> omega
  have e2 : Y + Y = if sg t Y < 0 then 2 * -sg t Y else 2 * sg t Y := by
    unfold sg; cases t <;> simp <;> split <;> omega
  rw [e1]
  conv => lhs; rhs; rw [e2]
  split <;> rfl
theorem nq_nr (a d : Int) (hd : 1 ≤ d) : nq a d = nr a d := by
  unfold nq nr
  rw [if_neg (by omega)]
  have e := Int.mul_ediv_add_emod a d
  have r0 := Int.emod_nonneg a (show d ≠ 0 by omega)
  have r1 := Int.emod_lt_of_pos a (show 0 < d by omega)
  generalize a / d = k at *
  generalize a % d = r at *
  have e3 : 2 * a + d = (2 * r + d) + 2 * d * k := by rw [← e, Int.mul_add, Int.mul_assoc]; omega
  rw [e3, Int.add_mul_ediv_left _ _ (by omega)]
  by_cases h : d - r ≤ r
  · rw [if_pos h, show (2 * r + d) = (2 * r - d) + 2 * d * 1 by omega, Int.add_mul_ediv_left _ _ (by omega), Int.ediv_eq_zero_of_lt (by omega) (by omega)]; omega
  · rw [if_neg h, Int.ediv_eq_zero_of_lt (by omega) (by omega)]; omega
end Go.Proofs.Ythmgilikokcibaa
