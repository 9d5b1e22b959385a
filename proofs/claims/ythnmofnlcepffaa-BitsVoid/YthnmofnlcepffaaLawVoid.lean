/- The law BitsVoid, walked. -/
import Derived.Test.YthnmofnlcepffaaBitF
namespace Go.Proofs.Ythnmofnlcepffaa
open Go.RowKit Go.BigFrame
set_option linter.unusedSimpArgs false
set_option linter.unusedVariables false
set_option maxRecDepth 20000 in
set_option maxHeartbeats 8000000 in
theorem void_law (x n : Int) (w : World) : Calls Try.prog 5 #[.int .u32 x, .int .i64 n] w fun e w' => e = .returned (.bool true) ∧ Ext w w' := by
  have hL := lives_any
  go_enter Try.func5, Try.ntmps5
  go_wp2
  go_loopg [7] 2 (fun gk iv wr => ∃ k : Nat, k + gk = 2 ∧ iv = .int .i64 k ∧ S2m wr (w.heap.size + 1) (.pointer none) (.pointer (some ⟨w.heap.size, 0, none⟩)) ∧ wr.cell? ⟨w.heap.size, 0, none⟩ = some (.pointer none) ∧ Ext w wr)
  case atStart => exact ⟨0, rfl, rfl, S2m.new (by simp) rfl rfl, old1 (new1 rfl), ((Ext.refl w).alloc _).alloc _⟩
  case round =>
    obtain ⟨k, hk, rfl, B, c, EX⟩ := hrel
    have c0 := B.c0
    have c1 := B.c1
    generalize w.heap.size + 1 = b at *
    generalize w.heap.size = r at *
    rcases (show k = 0 ∨ k = 1 ∨ k = 2 by omega) with rfl | rfl | rfl
    · go_wp2_with (first | (go_at_call 18; with_reducible refine (put_nil _ _ _).mono ?_; rintro e w' ⟨rfl, rfl⟩) | (go_at_call 16; with_reducible refine (pad_nil _).mono ?_; rintro e w' ⟨rfl, rfl⟩) | (go_at_call 20; with_reducible refine (bytes_nil _).mono ?_; rintro e w' ⟨rfl, rfl⟩) | (go_at_call 21; with_reducible refine (len_nil _).mono ?_; rintro e w' ⟨rfl, rfl⟩))
      go_roundg (gk - 1)
      case measure => omega
      case rel => exact ⟨1, by omega, rfl, B, c, EX⟩
    · go_wp2_with (first | (go_at_call 18; with_reducible refine (put_void _ _ _ _ c).mono ?_; rintro e w' ⟨rfl, rfl⟩) | (go_at_call 16; with_reducible refine (pad_void _ _ c).mono ?_; rintro e w' ⟨rfl, rfl⟩) | (go_at_call 20; with_reducible refine (bytes_void _ _ c).mono ?_; rintro e w' ⟨rfl, rfl⟩) | (go_at_call 21; with_reducible refine (len_void _ _ c).mono ?_; rintro e w' ⟨rfl, rfl⟩))
      go_roundg (gk - 1)
      case measure => omega
      case rel => exact ⟨2, by omega, rfl, B, c, EX⟩
    · go_wp2_with (first | (go_at_call 9; with_reducible refine (hL _).mono ?_; rintro e w' ⟨rfl, hb⟩; replace EX := EX.trans hb))
      go_ret
      exact ⟨rfl, EX⟩
end Go.Proofs.Ythnmofnlcepffaa
