/- Arguments of the laws on bits, opened: bytes, numbers. -/
import Derived.Test.YthnmofnlcepffaaRows
import Derived.Test.YthnmofnlcepffaaBitF
import Derived.ProofKit
import Derived.OpenShut
import Derived.ShutString
import Derived.ChangeOld
import Derived.SizedLaws
import Derived.Lib.SmallJoins
namespace Go.Proofs.Ythnmofnlcepffaa
open Go.ChangeShapes Go.WideShapes Go.ChangeAt Go.RowKit Go.Joins
set_option linter.unusedVariables false
theorem own : ownKnob Try.prog.godebug = none := by kernel_rfl
theorem laidOut : laidOutB Try.prog = true := by kernel_rfl
theorem bytes_one : Try.prog.bytesOf 5 = 1 := by kernel_rfl
section
variable {H : Type} {enc : TypeId × Value → H} {w : World} {base : Nat} {spare : Nat → Bool} {held : Bool}
/-- What came in reads behind the call as before. -/
theorem again {t : TypeId} {W W' : World} {v : Value} {d : DataW H} {p : List MemPlace} (hr : Try.prog.readableRec t = true) (hrow : t < Try.prog.types.size) (h : DataW.Trod enc Try.prog W 0 (fun _ => true) true t v d p) (hb : Ext W W') :
    DataW.Trod enc Try.prog W' 0 (fun b => decide (b < W.heap.size)) true t v d p := Below.trod laidOut hr hrow h hb (by obtain ⟨m, hm⟩ := h; exact DataW.trod_lt m _ _ _ hm)
theorem bs_of {W : World} {x : Addr} {len cap : Nat} {zs : List Int} (hl : len ≤ cap) (hz : zs.length = cap) (hcap : cap ≤ 140737488355328) (hcell : ∀ i, i < zs.length → W.cell? (x.add i) = some (.int .u8 (zs.getD i 0))) (hwz : ∀ n ∈ zs, (Lit.int .u8 n).wf = true) : Bs W (some x) len (fun i => zs.getD i 0) := by
  refine ⟨by omega, fun i hi => ?_, fun i hi => ?_⟩
  · obtain ⟨b, o, spot⟩ := x
    have hc := hcell i (by omega)
    have hs : spot = none := by simpa [Addr.add] using World.cell?_spot (hcell 0 (by omega))
    subst hs
    rw [Addr.add_mid] at hc
    exact ⟨b, o, rfl, hc⟩
  · have hm : zs.getD i 0 ∈ zs := by rw [List.getD_eq_getElem?_getD, List.getElem?_eq_getElem (by omega)]; exact List.getElem_mem _
    have := bounds_u8 (hwz _ hm)
    omega
/-- Bytes: what they read as; their number of bytes is bounded by what a process can have. -/
theorem open_bytes {ts : List TypeId} {ds : List (DataW H)} {j : Nat} {a : Option Addr} {len cap : Nat} {d : DataW H} {p : List MemPlace} (hsz : (DataW.weightsEach Try.prog ts ds).all (· ≤ reachBytes) = true) (ht : ts[j]? = some 22) (hd : ds[j]? = some d)
    (h : DataW.Trod enc Try.prog w 0 (fun _ => true) true 22 (.slice a len cap) d p) : ∃ f, Bs w a len f := by
  obtain ⟨fuel, hf⟩ := h
  rcases open_ints Try.underlying22 Try.underlying5 (by kernel_rfl) hf with ⟨hcs, _⟩ | ⟨x, l, c, zs, hcs, _, hl, hm, hz, hx, hcell, hwz⟩
  · simp [Value.cells] at hcs
    obtain ⟨rfl, rfl, rfl⟩ := hcs
    exact ⟨fun _ => 0, by omega, fun i hi => by omega, fun i hi => by omega⟩
  · simp [Value.cells] at hcs
    obtain ⟨rfl, rfl, rfl⟩ := hcs
    simp only [Prod.mk.injEq] at hx
    obtain ⟨rfl, rfl⟩ := hx
    have hr := sized_slice hsz (j := j) (t := 22) (e := 5) ht hd Try.underlying22
    simp only [if_true] at hz
    rw [bytes_one] at hr
    have hb := reachBytes_lt
    refine ⟨_, bs_of hl hz ?_ hcell hwz⟩
    simp [lits] at hr
    omega
theorem open_none {a : Option Addr} {len cap : Nat} {d : DataW H} {p : List MemPlace} (h : DataW.Trod enc Try.prog w 0 (fun _ => true) true 22 (.slice a len cap) d p) : a = none → len = 0 ∧ cap = 0 := by
  obtain ⟨fuel, hf⟩ := h
  rcases open_ints Try.underlying22 Try.underlying5 (by kernel_rfl) hf with ⟨hcs, _⟩ | ⟨x, l, c, zs, hcs, _, hl, hm, hz, hx, hcell, hwz⟩
  · simp [Value.cells] at hcs
    exact fun _ => ⟨hcs.2.1, hcs.2.2⟩
  · simp [Value.cells] at hcs
    intro ha
    rw [hcs.1] at ha
    cases ha
theorem u8_cell {m : Nat} {c : Value} {y : DataW H × List MemPlace} (h : DataW.trod enc Try.prog w base spare held m 5 [c] = some y) : ∃ n, (0 ≤ n ∧ n ≤ 255) ∧ c = .int .u8 n ∧ y.2 = [] := by
  obtain ⟨a, e0, rfl, wa⟩ := DataW.trod_int Try.underlying5 h
  simp at e0
  have ba := bounds_u8 wa
  exact ⟨a, ⟨by omega, by omega⟩, e0, rfl⟩
set_option maxRecDepth 20000 in
theorem open_u82 {r : Reach} {b0 : Nat} {v : Value} {d : DataW H} {p : List MemPlace} (hv : Value.okWide Try.prog w r b0 68 v) (h : DataW.Trod enc Try.prog w base spare held 68 v d p) :
    ∃ x0 x1, (0 ≤ x0 ∧ x0 ≤ 255) ∧ (0 ≤ x1 ∧ x1 ≤ 255) ∧ v = .agg #[.int .u8 x0, .int .u8 x1] ∧ p = [] := by
  have hu : Try.prog.underlying 68 = some (.array 2 5) := Try.underlying68
  unfold Value.okWide at hv
  rw [hu] at hv
  obtain ⟨cs, rfl, hsz, _⟩ := hv
  obtain ⟨l⟩ := cs
  match l, hsz.trans (show _ = 2 by kernel_rfl) with
  | [a0, a1], _ =>
  obtain ⟨fuel, hf⟩ := h
  obtain ⟨xs, m, _, hx, _, hlen, hel⟩ := DataW.trod_array hu hf
  have hc : Try.prog.cellsOf 5 = 1 := by kernel_rfl
  rw [hc] at hel
  match xs, hlen with
  | [y0, y1], _ =>
    have e0 := hel 0 (by omega)
    have e1 := hel 1 (by omega)
    simp [Value.cells] at e0 e1
    obtain ⟨x0, i0, rfl, q0⟩ := u8_cell e0
    obtain ⟨x1, i1, rfl, q1⟩ := u8_cell e1
    simp [q0, q1] at hx
    exact ⟨x0, x1, i0, i1, rfl, hx.2⟩
end
end Go.Proofs.Ythnmofnlcepffaa
