/- Arguments that are wides, or made of wides, opened; and the last step of a law's proof. -/
import Derived.Test.YtcknfangjodoiaaRows
import Derived.Test.YtcknfangjodoiaaExt
import Derived.ProofKit
import Derived.OpenShut
import Derived.Lib.SmallJoins
namespace Go.Proofs.Ytcknfangjodoiaa
open Go.ChangeShapes Go.WideShapes Go.ChangeAt Go.RowKit Go.Joins
set_option linter.unusedVariables false

theorem own : ownKnob Try.prog.godebug = none := by kernel_rfl
theorem laidOut : laidOutB Try.prog = true := by kernel_rfl

section
variable {H : Type} {enc : TypeId × Value → H} {w : World} {base : Nat} {spare : Nat → Bool} {held : Bool}

/-- Two words that read as a wide are one. -/
theorem wide_cells {m : Nat} {c0 c1 : Value} {y : DataW H × List MemPlace} (h : DataW.trod enc Try.prog w base spare held m 24 [c0, c1] = some y) :
    ∃ x, InW x ∧ c0 = .int .i64 (hi x) ∧ c1 = .int .u64 (lo x) ∧ y.2 = [] := by
  obtain ⟨y0, y1, n, rfl, _, h0, h1⟩ := trod_struct2 Try.underlying24 h
  have h0' : DataW.trod enc Try.prog w base spare held n 2 [c0] = some y0 := h0
  have h1' : DataW.trod enc Try.prog w base spare held n 22 [c1] = some y1 := h1
  obtain ⟨a, e0, rfl, wa⟩ := DataW.trod_int Try.underlying2 h0'
  obtain ⟨b, e1, rfl, wb⟩ := DataW.trod_int Try.underlying22 h1'
  simp at e0 e1
  subst e0 e1
  have ba := bounds_i64 wa
  have bb := bounds_u64 wb
  have hb : InU64 b := ⟨by omega, by omega⟩
  refine ⟨a * 18446744073709551616 + b, ?_, by rw [hi_of _ _ hb], by rw [lo_of _ _ hb], rfl⟩
  unfold InW InU64 at *; omega

/-- A wide, opened. -/
theorem open_wide {r : Reach} {b0 : Nat} {v : Value} {d : DataW H} {p : List MemPlace} (hv : Value.okWide Try.prog w r b0 24 v) (h : DataW.Trod enc Try.prog w base spare held 24 v d p) :
    ∃ x, InW x ∧ v = (.agg #[.int .i64 (hi (x)), .int .u64 (lo (x))]) ∧ p = [] := by
  obtain ⟨cs, rfl, hsz⟩ := okWide_struct Try.underlying24 hv
  obtain ⟨c0, c1, rfl⟩ := array2 (hsz.trans (by kernel_rfl))
  obtain ⟨fuel, hf⟩ := h
  obtain ⟨x, hx, e0, e1, hp⟩ := wide_cells (by simpa [Value.cells] using hf)
  exact ⟨x, hx, by rw [e0, e1], hp⟩

/-- A number of 64 bits, opened. -/
theorem open_i64 {r : Reach} {b0 : Nat} {v : Value} {d : DataW H} {p : List MemPlace} (hv : Value.okWide Try.prog w r b0 2 v) (h : DataW.Trod enc Try.prog w base spare held 2 v d p) :
    ∃ n, In64 n ∧ v = .int .i64 n ∧ p = [] := by
  obtain ⟨n, rfl, rfl, rfl, wn⟩ := open_int Try.underlying2 hv h
  have := bounds_i64 wn
  exact ⟨n, ⟨by omega, by omega⟩, rfl, rfl⟩

/-- An argument without memory reads behind the call as before. -/
theorem again {t : TypeId} {W W' : World} {v : Value} {d : DataW H} (hr : Try.prog.readableRec t = true) (hrow : t < Try.prog.types.size) (h : DataW.Trod enc Try.prog W 0 (fun _ => true) true t v d []) (hb : Ext W W') :
    DataW.Trod enc Try.prog W' 0 (fun b => decide (b < W.heap.size)) true t v d [] := Below.trod laidOut hr hrow h hb (by simp)
end
end Go.Proofs.Ytcknfangjodoiaa
