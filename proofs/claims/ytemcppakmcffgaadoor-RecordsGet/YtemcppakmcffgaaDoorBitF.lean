/- Get over any bytes; the helpers got and no; the chapter's examples: lives. -/
import Derived.Test.YtemcppakmcffgaaDoorBitE
import Derived.Laws.BytesString
namespace Go.Proofs.YtemcppakmcffgaaDoor
open Go.RowKit Go.BigFrame
set_option linter.unusedSimpArgs false
set_option linter.unusedVariables false
set_option maxHeartbeats 1600000 in
theorem get_zero (a : Option Addr) (L c p : Nat) (hL : L ≤ 140737488355328) (h : p ≤ 8 * L) (w : World) :
    Calls Tryd.prog 103 #[.slice a L c, .int .i64 p, .int .i64 0] w fun e w' => e = .returned (.tuple #[.int .u32 0, .int .i64 0]) ∧ Ext w w' := by
  have EX := Ext.refl w
  go_enter Tryd.func103, Tryd.ntmps103
  go_wp2
  go_step3
  go_wp2
  go_step3
  go_wp2
  rw [Exit.noGoto_ret]; go_ret2
  exact ⟨rfl, EX⟩
theorem get_ok (a : Option Addr) (L c p n : Nat) (f : Nat → Int) (w : World) (B : Bs w a L f) (hn : n ≤ 32) (h : p + n ≤ 8 * L) :
    Calls Tryd.prog 103 #[.slice a L c, .int .i64 p, .int .i64 n] w fun e w' => e = .returned (.tuple #[.int .u32 (nb (bt f) p n), .int .i64 0]) ∧ Ext w w' := by
  by_cases h0 : n = 0
  · subst h0
    exact get_zero a L c p B.len (by omega) w
  · obtain ⟨b, o, rfl, hc⟩ := B.some (by omega)
    exact get_some b o L c p n f w B.len hc B.byte hn h
theorem bs_lit {w : World} {cs : Array Value} {t : TypeId} (f : Nat → Int) (n : Nat) (hn : n ≤ 140737488355328) (h : ∀ i, i < n → cs[i]? = some (.int .u8 (f i))) (hf : ∀ i, i < n → 0 ≤ f i ∧ f i < 256) : Bs (w.alloc (.cells cs t)) (some ⟨w.heap.size, 0, none⟩) n f :=
  ⟨hn, fun i hi => ⟨_, _, rfl, by rw [Nat.zero_add]; exact new1 (h i hi)⟩, hf⟩
end Go.Proofs.YtemcppakmcffgaaDoor
