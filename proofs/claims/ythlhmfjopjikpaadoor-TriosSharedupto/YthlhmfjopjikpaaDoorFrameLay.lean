/- A layout, and a flag, as arguments of the laws, opened. -/
import Derived.Test.YthlhmfjopjikpaaDoorRows
import Derived.Test.YthlhmfjopjikpaaDoorFlat
import Derived.Test.YthlhmfjopjikpaaDoorBoxL
import Derived.Lib.SmallJoins
namespace Go.Proofs.YthlhmfjopjikpaaDoor
open Go.ChangeShapes Go.WideShapes Go.ChangeAt Go.RowKit Go.Joins
set_option linter.unusedVariables false
set_option maxRecDepth 20000
theorem flat_layout : flat Tryd.prog 6 27 = some [some .i64, some .i64, some .i64, some .i64, some .i64, some .i64, some .i32, some .i32, some .i32, some .i32, some .i32, some .i32, some .i32, some .i32, some .i32, some .i32, some .i32, some .i32] := by kernel_rfl
/-- Twelve numbers, as a function. -/
def of12 (x0 x1 x2 x3 x4 x5 x6 x7 x8 x9 x10 x11 : Int) : Nat → Int
  | 0 => x0 | 1 => x1 | 2 => x2 | 3 => x3 | 4 => x4 | 5 => x5 | 6 => x6 | 7 => x7 | 8 => x8 | 9 => x9 | 10 => x10 | 11 => x11 | _ => 0
section
variable {H : Type} {enc : TypeId × Value → H} {w : World} {base : Nat} {spare : Nat → Bool} {held : Bool}
theorem i64_of {n : Int} (h : (Lit.int .i64 n).wf = true) : In64 n := by have := bounds_i64 h; unfold In64; omega
theorem i32_of {n : Int} (h : (Lit.int .i32 n).wf = true) : -2147483648 ≤ n ∧ n ≤ 2147483647 := by have := bounds_i32 h; omega
theorem open_layout {r : Reach} {b0 : Nat} {v : Value} {d : DataW H} {p : List MemPlace} (hv : Value.okWide Tryd.prog w r b0 27 v) (h : DataW.Trod enc Tryd.prog w base spare held 27 v d p) :
    ∃ L : Lay, L.In ∧ v = .agg (lv L) ∧ p = [] := by
  obtain ⟨cs, rfl, hsz⟩ := okWide_struct Tryd.underlying27 hv
  obtain ⟨fuel, hf⟩ := h
  obtain ⟨hk, hp⟩ := flat_cells 6 flat_layout hf
  simp only [Kinds, OfKind] at hk
  obtain ⟨_, _, e0, ⟨t, rfl, w0⟩, _, _, rfl, ⟨c, rfl, w1⟩, _, _, rfl, ⟨q, rfl, w2⟩, _, _, rfl, ⟨f, rfl, w3⟩, _, _, rfl, ⟨n, rfl, w4⟩, _, _, rfl, ⟨s, rfl, w5⟩, _, _, rfl, ⟨x0, rfl, v0⟩, _, _, rfl, ⟨x1, rfl, v1⟩, _, _, rfl, ⟨x2, rfl, v2⟩, _, _, rfl, ⟨x3, rfl, v3⟩,
    _, _, rfl, ⟨x4, rfl, v4⟩, _, _, rfl, ⟨x5, rfl, v5⟩, _, _, rfl, ⟨x6, rfl, v6⟩, _, _, rfl, ⟨x7, rfl, v7⟩, _, _, rfl, ⟨x8, rfl, v8⟩, _, _, rfl, ⟨x9, rfl, v9⟩, _, _, rfl, ⟨x10, rfl, v10⟩, _, _, rfl, ⟨x11, rfl, v11⟩, rfl⟩ := hk
  refine ⟨⟨t, c, q, f, n, s, of12 x0 x1 x2 x3 x4 x5 x6 x7 x8 x9 x10 x11⟩, ⟨i64_of w0, i64_of w1, i64_of w2, i64_of w3, i64_of w4, i64_of w5, fun i => ?_⟩, ?_, hp⟩
  · dsimp only
    unfold of12
    split <;> first | exact i32_of (by assumption) | decide
  · have e : cs = #[.int .i64 t, .int .i64 c, .int .i64 q, .int .i64 f, .int .i64 n, .int .i64 s, .int .i32 x0, .int .i32 x1, .int .i32 x2, .int .i32 x3, .int .i32 x4, .int .i32 x5, .int .i32 x6, .int .i32 x7, .int .i32 x8, .int .i32 x9, .int .i32 x10, .int .i32 x11] := by
      have e1 : cs.toList = _ := e0
      exact Array.ext' e1
    rw [e]
    rfl
theorem open_u8 {r : Reach} {b0 : Nat} {v : Value} {d : DataW H} {p : List MemPlace} (hv : Value.okWide Tryd.prog w r b0 5 v) (h : DataW.Trod enc Tryd.prog w base spare held 5 v d p) :
    ∃ n : Int, (0 ≤ n ∧ n < 256) ∧ v = .int .u8 n ∧ p = [] := by
  obtain ⟨n, rfl, rfl, rfl, wn⟩ := open_int Tryd.underlying5 hv h
  have := bounds_u8 wn
  exact ⟨n, ⟨by omega, by omega⟩, rfl, rfl⟩
end
end Go.Proofs.YthlhmfjopjikpaaDoor
