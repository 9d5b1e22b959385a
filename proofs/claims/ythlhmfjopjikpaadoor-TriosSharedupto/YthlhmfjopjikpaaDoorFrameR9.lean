/- Arguments of the laws on records, opened: layouts, bytes, vertices. -/
import Derived.Test.YthlhmfjopjikpaaDoorFrameLaidL
import Derived.Test.YthlhmfjopjikpaaDoorFrameRec
import Derived.Test.YthlhmfjopjikpaaDoorListRec
import Derived.SizedLaws
namespace Go.Proofs.YthlhmfjopjikpaaDoor
open Go.ChangeShapes Go.WideShapes Go.ChangeAt Go.RowKit Go.Joins
set_option linter.unusedVariables false
set_option maxRecDepth 20000
theorem bytes_rec : Tryd.prog.bytesOf 63 = 20 := by kernel_rfl
theorem cells_rec : Tryd.prog.cellsOf 63 = kRec.length := by kernel_rfl
section
variable {H : Type} {enc : TypeId × Value → H} {w : World}
/-- What came in reads behind the call as before. -/
theorem againm {t : TypeId} {W W' : World} {v : Value} {d : DataW H} {p : List MemPlace} (hr : Tryd.prog.readableRec t = true) (hrow : t < Tryd.prog.types.size) (h : DataW.Trod enc Tryd.prog W 0 (fun _ => true) true t v d p) (hb : Ext W W') :
    DataW.Trod enc Tryd.prog W' 0 (fun b => decide (b < W.heap.size)) true t v d p := Below.trod laidOut hr hrow h hb (by obtain ⟨m, hm⟩ := h; exact DataW.trod_lt m _ _ _ hm)
theorem open_reccap {a : Option Addr} {len cap : Nat} {d : DataW H} {p : List MemPlace} (h : DataW.Trod enc Tryd.prog w 0 (fun _ => true) true 28 (.slice a len cap) d p) : len ≤ cap := by
  obtain ⟨fuel, hf⟩ := h
  rcases Go.Deep.open_slice Tryd.underlying28 hf with ⟨h1, _⟩ | ⟨ad, l, c, m, n, D, Pl, h1, hb, hl, hm, hmm, hx, _⟩
  · simp [Value.cells] at h1
    omega
  · simp [Value.cells] at h1
    obtain ⟨rfl, rfl, rfl⟩ := h1
    simp only [Prod.mk.injEq] at hx
    obtain ⟨rfl, rfl⟩ := hx
    assumption
theorem open_recs {ts : List TypeId} {ds : List (DataW H)} {j : Nat} {a : Option Addr} {len cap : Nat} {d : DataW H} {p : List MemPlace} (hsz : (DataW.weightsEach Tryd.prog ts ds).all (· ≤ reachBytes) = true) (ht : ts[j]? = some 28) (hd : ds[j]? = some d)
    (h : DataW.Trod enc Tryd.prog w 0 (fun _ => true) true 28 (.slice a len cap) d p) : ∃ R, Vs w a len R ∧ (a = none → len = 0 ∧ cap = 0) := by
  obtain ⟨fuel, hf⟩ := h
  have hlen : len ≤ 140737488355328 := by
    rcases Go.Deep.open_slice Tryd.underlying28 hf with ⟨h1, _⟩ | ⟨ad, l, c, m, n, D, Pl, h1, hb, hl, hm, hmm, hx, _⟩
    · simp [Value.cells] at h1
      omega
    · simp [Value.cells] at h1
      obtain ⟨rfl, rfl, rfl⟩ := h1
      simp only [Prod.mk.injEq] at hx
      obtain ⟨rfl, rfl⟩ := hx
      have hr := sized_slice hsz (j := j) (t := 28) (e := 63) ht hd Tryd.underlying28
      rw [bytes_rec] at hr
      have hb := reachBytes_lt
      simp at hr
      omega
  have hcs : (Value.slice a len cap).cells.toList = [.slice a len cap] := rfl
  rw [hcs] at hf
  obtain ⟨X, E, hk, hn, _⟩ := open_list Tryd.underlying28 flat_rec cells_rec (by decide) hlen hf
  obtain ⟨R, hR⟩ := vs_of E hk
  exact ⟨R, hR, hn⟩
end
end Go.Proofs.YthlhmfjopjikpaaDoor
