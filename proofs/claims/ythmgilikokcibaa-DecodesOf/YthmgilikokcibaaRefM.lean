/- What the given function gouacheref01.Floor does, called at any wide number and any number of 64 bits. -/
import Derived.Test.YthmgilikokcibaaRefK
import Derived.Test.YthmgilikokcibaaRefJ
import Derived.Test.YthmgilikokcibaaRefL
import Derived.Test.YthmgilikokcibaaWideG
namespace Go.Proofs.Ythmgilikokcibaa
open Go.RowKit Go.BigFrame
set_option linter.unusedSimpArgs false
set_option linter.unusedVariables false

theorem dg_one : dg 1 0 = 1 ∧ dg 1 1 = 0 ∧ dg 1 2 = 0 ∧ dg 1 3 = 0 ∧ dg 1 4 = 0 ∧ dg 1 5 = 0 ∧ dg 1 6 = 0 ∧ dg 1 7 = 0 ∧ dg 1 8 = 0 ∧ dg 1 9 = 0 ∧ dg 1 10 = 0 ∧ dg 1 11 = 0 := by decide
theorem plus_one (q : Int) (w : World) : Calls Try.prog 47 #[(.agg #[.int .i64 (dg (q) 0), .int .i64 (dg (q) 1), .int .i64 (dg (q) 2), .int .i64 (dg (q) 3), .int .i64 (dg (q) 4), .int .i64 (dg (q) 5), .int .i64 (dg (q) 6), .int .i64 (dg (q) 7), .int .i64 (dg (q) 8), .int .i64 (dg (q) 9), .int .i64 (dg (q) 10), .int .i64 (dg (q) 11)]), .agg #[.int .i64 1, .int .i64 0, .int .i64 0, .int .i64 0, .int .i64 0, .int .i64 0, .int .i64 0, .int .i64 0, .int .i64 0, .int .i64 0, .int .i64 0, .int .i64 0]] w fun e w' => e = .returned (.agg #[.int .i64 (dg (q + 1) 0), .int .i64 (dg (q + 1) 1), .int .i64 (dg (q + 1) 2), .int .i64 (dg (q + 1) 3), .int .i64 (dg (q + 1) 4), .int .i64 (dg (q + 1) 5), .int .i64 (dg (q + 1) 6), .int .i64 (dg (q + 1) 7), .int .i64 (dg (q + 1) 8), .int .i64 (dg (q + 1) 9), .int .i64 (dg (q + 1) 10), .int .i64 (dg (q + 1) 11)]) ∧ Ext w w' := by
  have h := plus_any q 1 w
  obtain ⟨p0, p1, p2, p3, p4, p5, p6, p7, p8, p9, p10, p11⟩ := dg_one
  simp only [p0, p1, p2, p3, p4, p5, p6, p7, p8, p9, p10, p11] at h
  exact h
end Go.Proofs.Ythmgilikokcibaa
