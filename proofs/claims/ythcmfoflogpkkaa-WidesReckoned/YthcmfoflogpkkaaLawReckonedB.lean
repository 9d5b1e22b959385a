/- The given function WidesReckoned returns true at every two wides and every two numbers of 64 bits. -/
import Derived.Test.YthcmfoflogpkkaaLawReckoned
namespace Go.Proofs.Ythcmfoflogpkkaa
open Go.RowKit Go.BigFrame
theorem reckoned_any (x y m n : Int) (hx : InW x) (hy : InW y) (hm : In64 m) (hn : In64 n) (w : World) : Calls Try.prog 3 #[.agg #[.int .i64 (hi x), .int .u64 (lo x), .int .i64 (hi y), .int .u64 (lo y), .int .i64 m, .int .i64 n]] w fun e w' => e = .returned (.bool true) ∧ Ext w w' := by
  by_cases hd : n < 1
  · exact reckoned_walk x y m n _ _ _ _ _ _ _ _ _ _ _ _ _ _ _ _ (fun w => add_any x y hx hy w) (fun w => radd_any x y hx hy w) (fun w => sub_any x y hx hy w) (fun w => rsub_any x y hx hy w) (fun w => cmp_any x y w) (fun w => rcmp_any x y hx hy w)
      (fun w => times_any x n hx hn w) (fun w => rtimes_any x n hx hn w) (fun w => near_arg x n hd w) (fun w => rnear_arg x n hd w) (fun w => mul_any m n hm hn w) (fun w => rmul_any m n hm hn w) (fun w => of_any n hn w) (fun w => rof_any n hn w)
      (fun w => floor_arg x n hd w) (fun w => rfloor_arg x n hd w) (fun w => int_any x w) (fun w => rint_any x hx w) w
  · exact reckoned_walk x y m n _ _ _ _ _ _ _ _ _ _ _ _ _ _ _ _ (fun w => add_any x y hx hy w) (fun w => radd_any x y hx hy w) (fun w => sub_any x y hx hy w) (fun w => rsub_any x y hx hy w) (fun w => cmp_any x y w) (fun w => rcmp_any x y hx hy w)
      (fun w => times_any x n hx hn w) (fun w => rtimes_any x n hx hn w) (fun w => near_any x n hx (by omega) hn w) (fun w => rnear_any x n hx (by omega) hn w) (fun w => mul_any m n hm hn w) (fun w => rmul_any m n hm hn w) (fun w => of_any n hn w) (fun w => rof_any n hn w)
      (fun w => floor_any x n hx (by omega) hn w) (fun w => rfloor_any x n hx (by omega) hn w) (fun w => int_any x w) (fun w => rint_any x hx w) w
end Go.Proofs.Ythcmfoflogpkkaa
