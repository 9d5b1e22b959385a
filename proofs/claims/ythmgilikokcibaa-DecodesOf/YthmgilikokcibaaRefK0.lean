/- Plain facts on sums of numbers with signs, and on the sizes of wides. -/
import Derived.Test.YthmgilikokcibaaRefF
import Derived.Test.YthmgilikokcibaaRefG
namespace Go.Proofs.Ythmgilikokcibaa
set_option linter.unusedVariables false
theorem sumX_in (s t : Bool) {X Y : Int} (hX : 0 ≤ X) (hY : 0 ≤ Y) (h : X + Y < 6277101735386680763835789423207666416102355444464034512896) : InD (sumX s t X Y) ∧ sumX s t X Y ≤ X + Y := by
  unfold sumX InD
  split
  · omega
  · split <;> omega
theorem ab_le {x : Int} (h : InW x) : 0 ≤ ab x ∧ ab x ≤ 170141183460469231731687303715884105728 := by unfold ab InW at *; split <;> omega
theorem ab_inD {x : Int} (h : InW x) : InD (ab x) := by have := ab_le h; unfold InD; omega
theorem sg_ab (x : Int) : sg (decide (x < 0)) (ab x) = x := by unfold sg ab; by_cases h : x < 0 <;> simp [h]
theorem sg_not (s : Bool) (X : Int) : sg (!s) X = - sg s X := by unfold sg; cases s <;> simp
end Go.Proofs.Ythmgilikokcibaa
