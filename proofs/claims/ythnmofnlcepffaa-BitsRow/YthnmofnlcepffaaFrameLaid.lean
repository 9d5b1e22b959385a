/- A list of numbers, each in so many bits, as an argument, opened. -/
import Derived.Test.YthnmofnlcepffaaFrameBits
import Derived.Test.YthnmofnlcepffaaBitJ
import Derived.Deep.SlicePairs
namespace Go.Proofs.Ythnmofnlcepffaa
open Go.ChangeShapes Go.WideShapes Go.ChangeAt Go.RowKit Go.Joins
set_option linter.unusedVariables false
theorem bytes_laid : Try.prog.bytesOf 52 = 16 := by kernel_rfl
section
variable {H : Type} {enc : TypeId × Value → H} {w : World}
theorem open_laid {ts : List TypeId} {ds : List (DataW H)} {j : Nat} {a : Option Addr} {len cap : Nat} {d : DataW H} {p : List MemPlace} (hsz : (DataW.weightsEach Try.prog ts ds).all (· ≤ reachBytes) = true) (ht : ts[j]? = some 31) (hd : ds[j]? = some d)
    (h : DataW.Trod enc Try.prog w 0 (fun _ => true) true 31 (.slice a len cap) d p) : ∃ V N, Ld w a len V N := by
  obtain ⟨fuel, hf⟩ := h
  rcases Go.Deep.open_slice_pairs Try.underlying31 Try.underlying52 (by kernel_rfl) rfl rfl (by kernel_rfl) (by kernel_rfl) hf with ⟨hcs, _⟩ | ⟨x, l, c, m, n, V0, V1, D0, D1, P0, P1, hcs, _, hl, hm, hmm, hx, hcell⟩
  · simp [Value.cells] at hcs
    obtain ⟨rfl, rfl, rfl⟩ := hcs
    exact ⟨fun _ => 0, fun _ => 0, by omega, fun i hi => by omega, fun i hi => by omega, fun i hi => by omega⟩
  · simp [Value.cells] at hcs
    obtain ⟨rfl, rfl, rfl⟩ := hcs
    simp only [Prod.mk.injEq] at hx
    obtain ⟨rfl, rfl⟩ := hx
    have hr := sized_slice hsz (j := j) (t := 31) (e := 52) ht hd Try.underlying31
    rw [bytes_laid] at hr
    have hb := reachBytes_lt
    simp only [if_true] at hmm
    simp at hr
    obtain ⟨b, o, spot⟩ := x
    have each : ∀ i, i < m → ∃ q : Int × Int, V0 i = .int .u32 q.1 ∧ V1 i = .int .i64 q.2 ∧ (0 ≤ q.1 ∧ q.1 < 4294967296) ∧ In64 q.2 := fun i hi => by
      obtain ⟨_, _, h0, h1⟩ := hcell i hi
      obtain ⟨y0, e0, _, w0⟩ := DataW.trod_int Try.underlying25 h0
      obtain ⟨y1, e1, _, w1⟩ := DataW.trod_int Try.underlying3 h1
      simp at e0 e1
      have q0 := bounds_u32 w0
      have q1 := bounds_i64 w1
      exact ⟨(y0, y1), e0, e1, ⟨by omega, by omega⟩, ⟨by omega, by omega⟩⟩
    obtain ⟨q, hq⟩ := Go.Deep.choose_lt each
    refine ⟨fun i => (q i).1, fun i => (q i).2, by omega, fun i hi => ?_, fun i hi => (hq i (by omega)).2.2.1, fun i hi => (hq i (by omega)).2.2.2⟩
    obtain ⟨c0, c1, _, _⟩ := hcell i (by omega)
    have hs : spot = none := by simpa [Addr.add] using World.cell?_spot (hcell 0 (by omega)).1
    subst hs
    obtain ⟨e0, e1, _, _⟩ := hq i (by omega)
    rw [Addr.add_mid, e0] at c0
    rw [Addr.add_mid, e1, ← Nat.add_assoc] at c1
    exact ⟨b, o, rfl, c0, c1⟩
end
end Go.Proofs.Ythnmofnlcepffaa
