/- The arithmetic of package decodes: where a number is led, and which number is led to a fix. -/
import Derived.Test.YthmgilikokcibaaFixM
namespace Go.Proofs.Ythmgilikokcibaa
open Go.RowKit Go.BigFrame
set_option linter.unusedSimpArgs false
set_option linter.unusedVariables false
/-- Where a number x of those up to g is led (by g). -/
def dval (lo hi g x : Int) : Int := lo * g + x * (hi - lo)
/-- What lies beyond 0 and g is brought there. -/
def dcl (g n : Int) : Int := if n < 0 then 0 else if g < n then g else n
/-- The number that is led to v. -/
def draw (v lo hi g : Int) : Int := dcl g (nrs ((v - lo) * g) (hi - lo))
theorem dcl_in {g : Int} (hg : 0 ≤ g) (n : Int) : 0 ≤ dcl g n ∧ dcl g n ≤ g := by unfold dcl; split <;> (try split) <;> omega
theorem dcl_mono {g m n : Int} (hg : 0 ≤ g) (h : m ≤ n) : dcl g m ≤ dcl g n := by unfold dcl; split <;> split <;> (try split) <;> (try split) <;> omega
theorem dcl_id {g n : Int} (h0 : 0 ≤ n) (h1 : n ≤ g) : dcl g n = n := by unfold dcl; rw [if_neg (by omega), if_neg (by omega)]
theorem dcl_low {g n : Int} (hg : 0 ≤ g) (h : n ≤ 0) : dcl g n = 0 := by unfold dcl; split <;> (try split) <;> omega
theorem dcl_high {g n : Int} (hg : 0 ≤ g) (h : g ≤ n) : dcl g n = g := by unfold dcl; split <;> (try split) <;> omega
theorem dval_other (lo hi g x : Int) : dval lo hi g x = lo * (g - x) + hi * x := by unfold dval; grind
theorem dval_zero (lo hi g : Int) : dval lo hi g 0 = g * lo := by unfold dval; grind
theorem dval_full (lo hi g : Int) : dval lo hi g g = g * hi := by unfold dval; grind
theorem dval_both (lo hi g x : Int) : dval lo hi g x + dval lo hi g (g - x) = (lo + hi) * g := by unfold dval; grind
theorem dval_turn (lo hi g x : Int) : dval hi lo g (g - x) = dval lo hi g x := by unfold dval; grind
theorem dval_le {lo hi g x y : Int} (h : lo ≤ hi) (hxy : x ≤ y) : dval lo hi g x ≤ dval lo hi g y := by
  unfold dval
  have := Int.mul_le_mul_of_nonneg_right hxy (show 0 ≤ hi - lo by omega)
  omega
theorem dval_ge {lo hi g x y : Int} (h : hi ≤ lo) (hxy : x ≤ y) : dval lo hi g y ≤ dval lo hi g x := by
  have := dval_le (lo := hi) (hi := lo) (g := g) (x := g - y) (y := g - x) h (by omega)
  rw [dval_turn, dval_turn] at this
  exact this
theorem dval_lt {lo hi g x y : Int} (h : lo < hi) (hxy : x < y) : dval lo hi g x < dval lo hi g y := by
  unfold dval
  have := Int.mul_lt_mul_of_pos_right hxy (show 0 < hi - lo by omega)
  omega
theorem dval_gt {lo hi g x y : Int} (h : hi < lo) (hxy : x < y) : dval lo hi g y < dval lo hi g x := by
  have := dval_lt (lo := hi) (hi := lo) (g := g) (x := g - y) (y := g - x) h (by omega)
  rw [dval_turn, dval_turn] at this
  exact this
theorem near_lo (lo hi g : Int) (hg : 0 < g) : nr (dval lo hi g 0) g = lo := by rw [dval_zero]; exact nr_exact lo g hg
theorem near_hi (lo hi g : Int) (hg : 0 < g) : nr (dval lo hi g g) g = hi := by rw [dval_full]; exact nr_exact hi g hg
/-- What is between lies between. -/
theorem near_between (lo hi g x : Int) (hg : 0 < g) (h0 : 0 ≤ x) (h1 : x ≤ g) : min lo hi ≤ nr (dval lo hi g x) g ∧ nr (dval lo hi g x) g ≤ max lo hi := by
  by_cases h : lo ≤ hi
  · have a := nr_mono hg (dval_le (g := g) h h0)
    have b := nr_mono hg (dval_le (g := g) h h1)
    rw [near_lo lo hi g hg] at a
    rw [near_hi lo hi g hg] at b
    omega
  · have a := nr_mono hg (dval_ge (g := g) (show hi ≤ lo by omega) h0)
    have b := nr_mono hg (dval_ge (g := g) (show hi ≤ lo by omega) h1)
    rw [near_lo lo hi g hg] at a
    rw [near_hi lo hi g hg] at b
    omega
theorem draw_turn (v lo hi g : Int) (h : hi < lo) : draw v lo hi g = dcl g (nr ((lo - v) * g) (lo - hi)) := by
  unfold draw nrs
  rw [if_pos (by omega), show -((v - lo) * g) = (lo - v) * g by grind, show -(hi - lo) = lo - hi by omega]
theorem draw_up (v lo hi g : Int) (h : lo < hi) : draw v lo hi g = dcl g (nr ((v - lo) * g) (hi - lo)) := by
  unfold draw nrs
  rw [if_neg (by omega)]
theorem nr_low {x d : Int} (hd : 0 < d) (h : x ≤ 0) : nr x d ≤ 0 := by
  have := nr_mono hd h
  have e := nr_exact 0 d hd
  rw [Int.mul_zero] at e
  omega
theorem nr_high {x d g : Int} (hd : 0 < d) (h : d * g ≤ x) : g ≤ nr x d := by
  have := nr_mono hd h
  rw [nr_exact g d hd] at this
  exact this
theorem draw_low {v lo hi g : Int} (hg : 0 < g) (h : (lo < hi ∧ v ≤ lo) ∨ (hi < lo ∧ lo ≤ v)) : draw v lo hi g = 0 := by
  rcases h with ⟨h, k⟩ | ⟨h, k⟩
  · rw [draw_up v lo hi g h]
    refine dcl_low (by omega) (nr_low (by omega) ?_)
    have := Int.mul_le_mul_of_nonneg_right (show v - lo ≤ 0 by omega) (show 0 ≤ g by omega)
    omega
  · rw [draw_turn v lo hi g h]
    refine dcl_low (by omega) (nr_low (by omega) ?_)
    have := Int.mul_le_mul_of_nonneg_right (show lo - v ≤ 0 by omega) (show 0 ≤ g by omega)
    omega
theorem draw_high {v lo hi g : Int} (hg : 0 < g) (h : (lo < hi ∧ hi ≤ v) ∨ (hi < lo ∧ v ≤ hi)) : draw v lo hi g = g := by
  rcases h with ⟨h, k⟩ | ⟨h, k⟩
  · rw [draw_up v lo hi g h]
    exact dcl_high (by omega) (nr_high (by omega) (Int.mul_le_mul_of_nonneg_right (by omega) (by omega)))
  · rw [draw_turn v lo hi g h]
    exact dcl_high (by omega) (nr_high (by omega) (Int.mul_le_mul_of_nonneg_right (by omega) (by omega)))
theorem draw_le {u v lo hi g : Int} (hg : 0 < g) (h : lo < hi) (huv : u ≤ v) : draw u lo hi g ≤ draw v lo hi g := by
  rw [draw_up u lo hi g h, draw_up v lo hi g h]
  exact dcl_mono (by omega) (nr_mono (by omega) (Int.mul_le_mul_of_nonneg_right (by omega) (by omega)))
theorem draw_ge {u v lo hi g : Int} (hg : 0 < g) (h : hi < lo) (huv : u ≤ v) : draw v lo hi g ≤ draw u lo hi g := by
  rw [draw_turn u lo hi g h, draw_turn v lo hi g h]
  exact dcl_mono (by omega) (nr_mono (by omega) (Int.mul_le_mul_of_nonneg_right (by omega) (by omega)))
/-- There and back, where the range is wider than the greatest number. -/
theorem draw_back {lo hi g x : Int} (hg : 0 < g) (h0 : 0 ≤ x) (h1 : x ≤ g) (hw : g < hi - lo ∨ g < lo - hi) : draw (nr (dval lo hi g x) g) lo hi g = x := by
  obtain ⟨q1, q2⟩ := nr_is (dval lo hi g x) g hg
  generalize hv : nr (dval lo hi g x) g = v at q1 q2 ⊢
  unfold dval at q1 q2
  have e1 : (v - lo) * g = g * v - lo * g := by grind
  have e2 : (lo - v) * g = lo * g - g * v := by grind
  rcases hw with hw | hw
  · rw [draw_up v lo hi g (by omega), nr_of (q := x) (by omega) ?_ ?_, dcl_id h0 h1]
    · rw [e1, Int.mul_comm (hi - lo) x]
      generalize x * (hi - lo) = p at *
      generalize g * v = r at *
      generalize lo * g = s at *
      omega
    · rw [e1, Int.mul_comm (hi - lo) x]
      generalize x * (hi - lo) = p at *
      generalize g * v = r at *
      generalize lo * g = s at *
      omega
  · have e3 : (lo - hi) * x = -(x * (hi - lo)) := by grind
    rw [draw_turn v lo hi g (by omega), nr_of (q := x) (by omega) ?_ ?_, dcl_id h0 h1]
    · rw [e2, e3]
      generalize x * (hi - lo) = p at *
      generalize g * v = r at *
      generalize lo * g = s at *
      omega
    · rw [e2, e3]
      generalize x * (hi - lo) = p at *
      generalize g * v = r at *
      generalize lo * g = s at *
      omega
end Go.Proofs.Ythmgilikokcibaa
