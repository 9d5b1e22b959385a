/- Arguments of the laws on decodes, opened: fixes, numbers of 32 bits, ratios, and the struct of a number, its bits, a range and a fix. -/
import Derived.Test.YthmgilikokcibaaRows
import Derived.Test.YthmgilikokcibaaFixA
import Derived.ProofKit
import Derived.OpenShut
import Derived.Lib.SmallJoins
namespace Go.Proofs.Ythmgilikokcibaa
open Go.ChangeShapes Go.WideShapes Go.ChangeAt Go.RowKit Go.Joins
set_option linter.unusedVariables false
set_option maxRecDepth 20000
theorem own : ownKnob Try.prog.godebug = none := by kernel_rfl
theorem laidOut : laidOutB Try.prog = true := by kernel_rfl
theorem array5 {α : Type} {cs : Array α} (h : cs.size = 5) : ∃ c0 c1 c2 c3 c4, cs = #[c0, c1, c2, c3, c4] := by
  obtain ⟨l⟩ := cs
  match l, h with
  | [c0, c1, c2, c3, c4], _ => exact ⟨c0, c1, c2, c3, c4, rfl⟩
section
variable {H : Type} {enc : TypeId × Value → H} {w : World} {base : Nat} {spare : Nat → Bool} {held : Bool}
/-- An argument without memory reads behind the call as before. -/
theorem again {t : TypeId} {W W' : World} {v : Value} {d : DataW H} (hr : Try.prog.readableRec t = true) (hrow : t < Try.prog.types.size) (h : DataW.Trod enc Try.prog W 0 (fun _ => true) true t v d []) (hb : Ext W W') :
    DataW.Trod enc Try.prog W' 0 (fun b => decide (b < W.heap.size)) true t v d [] := Below.trod laidOut hr hrow h hb (by simp)
theorem open_fix {r : Reach} {b0 : Nat} {v : Value} {d : DataW H} {p : List MemPlace} (hv : Value.okWide Try.prog w r b0 23 v) (h : DataW.Trod enc Try.prog w base spare held 23 v d p) :
    ∃ n : Int, In32 n ∧ v = .int .i32 n ∧ p = [] := by
  obtain ⟨n, rfl, rfl, rfl, wn⟩ := open_int Try.underlying23 hv h
  have := bounds_i32 wn
  exact ⟨n, ⟨by omega, by omega⟩, rfl, rfl⟩
theorem open_u32 {r : Reach} {b0 : Nat} {v : Value} {d : DataW H} {p : List MemPlace} (hv : Value.okWide Try.prog w r b0 22 v) (h : DataW.Trod enc Try.prog w base spare held 22 v d p) :
    ∃ n : Int, (0 ≤ n ∧ n < 4294967296) ∧ v = .int .u32 n ∧ p = [] := by
  obtain ⟨n, rfl, rfl, rfl, wn⟩ := open_int Try.underlying22 hv h
  have := bounds_u32 wn
  exact ⟨n, ⟨by omega, by omega⟩, rfl, rfl⟩
theorem fix_cell {m : Nat} {c : Value} {y : DataW H × List MemPlace} (h : DataW.trod enc Try.prog w base spare held m 23 [c] = some y) : ∃ n, In32 n ∧ c = .int .i32 n ∧ y.2 = [] := by
  obtain ⟨a, e0, rfl, wa⟩ := DataW.trod_int Try.underlying23 h
  simp at e0
  have ba := bounds_i32 wa
  exact ⟨a, ⟨by omega, by omega⟩, e0, rfl⟩
theorem u32_cell {m : Nat} {c : Value} {y : DataW H × List MemPlace} (h : DataW.trod enc Try.prog w base spare held m 22 [c] = some y) : ∃ n : Int, (0 ≤ n ∧ n < 4294967296) ∧ c = .int .u32 n ∧ y.2 = [] := by
  obtain ⟨a, e0, rfl, wa⟩ := DataW.trod_int Try.underlying22 h
  simp at e0
  have ba := bounds_u32 wa
  exact ⟨a, ⟨by omega, by omega⟩, e0, rfl⟩
theorem int_cell {m : Nat} {c : Value} {y : DataW H × List MemPlace} (h : DataW.trod enc Try.prog w base spare held m 3 [c] = some y) : ∃ n, In64 n ∧ c = .int .i64 n ∧ y.2 = [] := by
  obtain ⟨a, e0, rfl, wa⟩ := DataW.trod_int Try.underlying3 h
  simp at e0
  have ba := bounds_i64 wa
  exact ⟨a, ⟨by omega, by omega⟩, e0, rfl⟩
theorem i64_cell {m : Nat} {c : Value} {y : DataW H × List MemPlace} (h : DataW.trod enc Try.prog w base spare held m 2 [c] = some y) : ∃ n, In64 n ∧ c = .int .i64 n ∧ y.2 = [] := by
  obtain ⟨a, e0, rfl, wa⟩ := DataW.trod_int Try.underlying2 h
  simp at e0
  have ba := bounds_i64 wa
  exact ⟨a, ⟨by omega, by omega⟩, e0, rfl⟩
theorem range_cells {m : Nat} {c0 c1 : Value} {y : DataW H × List MemPlace} (h : DataW.trod enc Try.prog w base spare held m 25 [c0, c1] = some y) : ∃ l h, In32 l ∧ In32 h ∧ c0 = .int .i32 l ∧ c1 = .int .i32 h ∧ y.2 = [] := by
  obtain ⟨y0, y1, n, hx, _, h0, h1⟩ := trod_struct2 Try.underlying25 h
  have hc : Try.prog.cellsOf 23 = 1 := by kernel_rfl
  simp [hc] at h0 h1
  obtain ⟨x0, i0, rfl, q0⟩ := fix_cell h0
  obtain ⟨x1, i1, rfl, q1⟩ := fix_cell h1
  simp [q0, q1] at hx
  exact ⟨x0, x1, i0, i1, rfl, rfl, by rw [hx]⟩
theorem wide_cells {m : Nat} {c0 c1 : Value} {y : DataW H × List MemPlace} (h : DataW.trod enc Try.prog w base spare held m 30 [c0, c1] = some y) :
    ∃ x, InW x ∧ c0 = .int .i64 (hi x) ∧ c1 = .int .u64 (lo x) ∧ y.2 = [] := by
  obtain ⟨y0, y1, n, rfl, _, h0, h1⟩ := trod_struct2 Try.underlying30 h
  have h0' : DataW.trod enc Try.prog w base spare held n 2 [c0] = some y0 := h0
  have h1' : DataW.trod enc Try.prog w base spare held n 28 [c1] = some y1 := h1
  obtain ⟨a, e0, rfl, wa⟩ := DataW.trod_int Try.underlying2 h0'
  obtain ⟨b, e1, rfl, wb⟩ := DataW.trod_int Try.underlying28 h1'
  simp at e0 e1
  subst e0 e1
  have ba := bounds_i64 wa
  have bb := bounds_u64 wb
  have hb : InU64 b := ⟨by omega, by omega⟩
  refine ⟨a * 18446744073709551616 + b, ?_, by rw [hi_of _ _ hb], by rw [lo_of _ _ hb], rfl⟩
  unfold InW InU64 at *; omega
/-- A number, its bits, a range and a fix, opened. -/
theorem open_led {r : Reach} {b0 : Nat} {v : Value} {d : DataW H} {p : List MemPlace} (hv : Value.okWide Try.prog w r b0 27 v) (h : DataW.Trod enc Try.prog w base spare held 27 v d p) :
    ∃ r b l h v0, (0 ≤ r ∧ r < 4294967296) ∧ In64 b ∧ In32 l ∧ In32 h ∧ In32 v0 ∧ v = .agg #[.int .u32 r, .int .i64 b, .int .i32 l, .int .i32 h, .int .i32 v0] ∧ p = [] := by
  obtain ⟨cs, rfl, hsz⟩ := okWide_struct Try.underlying27 hv
  obtain ⟨a0, a1, a2, a3, a4, rfl⟩ := array5 (hsz.trans (by kernel_rfl))
  obtain ⟨fuel, hf⟩ := h
  obtain ⟨y0, y1, y2, y3, k, hx, _, h0, h1, h2, h3⟩ := trod_struct4 Try.underlying27 hf
  have c0 : Try.prog.cellsOf 22 = 1 := by kernel_rfl
  have c1 : Try.prog.cellsOf 3 = 1 := by kernel_rfl
  have c2 : Try.prog.cellsOf 25 = 2 := by kernel_rfl
  have c3 : Try.prog.cellsOf 23 = 1 := by kernel_rfl
  simp [Value.cells, c0, c1, c2, c3] at h0 h1 h2 h3
  obtain ⟨r, i0, rfl, q0⟩ := u32_cell h0
  obtain ⟨b, i1, rfl, q1⟩ := int_cell h1
  obtain ⟨l, h, i2, i2', rfl, rfl, q2⟩ := range_cells h2
  obtain ⟨v0, i3, rfl, q3⟩ := fix_cell h3
  simp [q0, q1, q2, q3] at hx
  exact ⟨r, b, l, h, v0, i0, i1, i2, i2', i3, rfl, hx.2⟩
/-- A ratio, opened. -/
theorem open_ratio {r : Reach} {b0 : Nat} {v : Value} {d : DataW H} {p : List MemPlace} (hv : Value.okWide Try.prog w r b0 32 v) (h : DataW.Trod enc Try.prog w base spare held 32 v d p) :
    ∃ x n, InW x ∧ In64 n ∧ v = .agg #[.int .i64 (hi x), .int .u64 (lo x), .int .i64 n] ∧ p = [] := by
  obtain ⟨cs, rfl, hsz⟩ := okWide_struct Try.underlying32 hv
  obtain ⟨a0, a1, a2, rfl⟩ := array3 (hsz.trans (by kernel_rfl))
  obtain ⟨fuel, hf⟩ := h
  obtain ⟨y0, y1, k, hx, _, h0, h1⟩ := trod_struct2 Try.underlying32 hf
  have c0 : Try.prog.cellsOf 30 = 2 := by kernel_rfl
  have c1 : Try.prog.cellsOf 2 = 1 := by kernel_rfl
  simp [Value.cells, c0, c1] at h0 h1
  obtain ⟨x, i0, rfl, rfl, q0⟩ := wide_cells h0
  obtain ⟨n, i1, rfl, q1⟩ := i64_cell h1
  simp [q0, q1] at hx
  exact ⟨x, n, i0, i1, rfl, hx.2⟩
end
end Go.Proofs.Ythmgilikokcibaa
