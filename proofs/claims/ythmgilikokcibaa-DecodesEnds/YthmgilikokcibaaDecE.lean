/- What the laws of package decodes need of where numbers are led. -/
import Derived.Test.YthmgilikokcibaaDecC
namespace Go.Proofs.Ythmgilikokcibaa
open Go.RowKit Go.BigFrame
set_option linter.unusedSimpArgs false
set_option linter.unusedVariables false
theorem dval_bd {l h g x : Int} (hl : In32 l) (hh : In32 h) (hg : 0 ≤ g ∧ g < 4294967296) (hx : 0 ≤ x ∧ x < 4294967296) : -36893488147419103232 < dval l h g x ∧ dval l h g x < 36893488147419103232 := by
  have m1 := mul_small33 (a := l) (b := g) (by unfold In32 at *; omega) (by omega)
  have m2 := mul_small33 (a := x) (b := h - l) (by omega) (by unfold In32 at *; omega)
  unfold dval
  omega
theorem dval_W {l h g x : Int} (hl : In32 l) (hh : In32 h) (hg : 0 ≤ g ∧ g < 4294967296) (hx : 0 ≤ x ∧ x < 4294967296) : InW (dval l h g x) := by
  have := dval_bd hl hh hg hx
  unfold InW
  omega
theorem near_in {l h g x : Int} (hl : In32 l) (hh : In32 h) (hg : 0 < g) (h0 : 0 ≤ x) (h1 : x ≤ g) : In32 (nr (dval l h g x) g) := by
  have := near_between l h g x hg h0 h1
  unfold In32 at *
  omega
theorem dnear_at {l h g x : Int} (hl : In32 l) (hh : In32 h) (hg : 0 < g) (h0 : 0 ≤ x) (h1 : x ≤ g) : dnear (dval l h g x) g = nr (dval l h g x) g := by
  unfold dnear
  rw [if_neg (by omega), held_id (near_in hl hh hg h0 h1)]
/-- Near of it is half a 65536th off at most. -/
theorem near_off {l h g x : Int} (hg : 0 < g) : 2 * (nr (dval l h g x) g * g - dval l h g x) ≤ g ∧ -2 * (nr (dval l h g x) g * g - dval l h g x) < g := by
  obtain ⟨q1, q2⟩ := nr_is (dval l h g x) g hg
  rw [Int.mul_comm g] at q1 q2
  omega
end Go.Proofs.Ythmgilikokcibaa
