/- The walk of the given function PowersOf: it returns true at every two fixes. -/
import Derived.Test.YtbkifcfienhkaaaDoorPowF
import Derived.Test.YtbkifcfienhkaaaDoorPowJK
namespace Go.Proofs.YtbkifcfienhkaaaDoor
open Go.RowKit Go.BigFrame
set_option linter.unusedSimpArgs false
set_option linter.unusedVariables false

set_option maxHeartbeats 4000000 in
theorem pof_walk (a n x e p g y : Int) (L1 : ∀ w, Calls Tryd.prog 9 #[.int .i32 a] w fun e' w' => e' = .returned (.tuple #[.int .i32 x, .int .i64 e]) ∧ Ext w w') (L2 : ∀ w, Calls Tryd.prog 10 #[.int .i32 a] w fun e' w' => e' = .returned (.tuple #[.int .i32 x, .int .i64 e]) ∧ Ext w w')
    (P2 : ∀ w, Calls Tryd.prog 12 #[.int .i32 a, .int .i32 n] w fun e' w' => e' = .returned (.tuple #[.int .i32 p, .int .i64 g]) ∧ Ext w w')
    (X1 : ∀ w, Calls Tryd.prog 13 #[.int .i32 a] w fun e' w' => e' = .returned (.int .i32 y) ∧ Ext w w') (X2 : ∀ w, Calls Tryd.prog 14 #[.int .i32 a] w fun e' w' => e' = .returned (.int .i32 y) ∧ Ext w w')
    (w : World) (P1 : ∀ v, Ext w v → Calls Tryd.prog 11 #[.int .i32 a, .int .i32 n] v fun e' w' => e' = .returned (.tuple #[.int .i32 p, .int .i64 g]) ∧ Ext v w') (LV : ∀ v, Ext w v → Calls Tryd.prog 15 #[] v fun e w' => e = .returned (.bool true) ∧ Ext v w') :
    Calls Tryd.prog 3 #[.int .i32 a, .int .i32 n] w fun e w' => e = .returned (.bool true) ∧ Ext w w' := by
  have EX := Ext.refl w
  go_enter Tryd.func3, Tryd.ntmps3
  go_wp2_with (first | (go_at_call 9; with_reducible refine (L1 _).mono ?_; rintro e v1 ⟨rfl, hb⟩; replace EX := Ext.trans EX hb; clear hb) | (go_at_call 10; with_reducible refine (L2 _).mono ?_; rintro e v1 ⟨rfl, hb⟩; replace EX := Ext.trans EX hb; clear hb) | (go_at_call 11; with_reducible refine (P1 _ EX).mono ?_; rintro e v1 ⟨rfl, hb⟩; replace EX := Ext.trans EX hb; clear hb) | (go_at_call 12; with_reducible refine (P2 _).mono ?_; rintro e v1 ⟨rfl, hb⟩; replace EX := Ext.trans EX hb; clear hb) | (go_at_call 13; with_reducible refine (X1 _).mono ?_; rintro e v1 ⟨rfl, hb⟩; replace EX := Ext.trans EX hb; clear hb) | (go_at_call 14; with_reducible refine (X2 _).mono ?_; rintro e v1 ⟨rfl, hb⟩; replace EX := Ext.trans EX hb; clear hb) | (go_at_call 15; with_reducible refine (LV _ EX).mono ?_; rintro e v1 ⟨rfl, hb⟩; replace EX := Ext.trans EX hb; clear hb))
  go_ret
  exact ⟨rfl, EX⟩
theorem pof_law (a n : Int) (ha : In32 a) (hn : In32 n) (w : World) (L : Laid w) : Calls Tryd.prog 3 #[.int .i32 a, .int .i32 n] w fun e w' => e = .returned (.bool true) ∧ Ext w w' :=
  pof_walk a n _ _ _ _ _ (fun w => log2_any a ha w) (fun w => rlog2_any a ha w) (fun w => rpow_any a n ha hn w) (fun w => exp2_any a ha w) (fun w => rexp2_any a ha w) w (fun v E => pow_any a n ha hn w L v E) (fun v E => lives_any w L v E)
end Go.Proofs.YtbkifcfienhkaaaDoor
