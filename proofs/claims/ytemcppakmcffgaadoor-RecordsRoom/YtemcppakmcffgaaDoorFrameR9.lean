/- Arguments of the laws on records, opened: layouts, bytes, vertices. -/
import Derived.Test.YtemcppakmcffgaaDoorFrameLaidL
import Derived.Test.YtemcppakmcffgaaDoorFrameBits
import Derived.Test.YtemcppakmcffgaaDoorFrameLR
import Derived.Test.YtemcppakmcffgaaDoorListRec
import Derived.SizedLaws
namespace Go.Proofs.YtemcppakmcffgaaDoor
open Go.ChangeShapes Go.WideShapes Go.ChangeAt Go.RowKit Go.Joins
set_option linter.unusedVariables false
set_option maxRecDepth 20000
theorem bytes_rec : Tryd.prog.bytesOf 63 = 20 := by kernel_rfl
theorem cells_rec : Tryd.prog.cellsOf 63 = kRec.length := by kernel_rfl
section
variable {H : Type} {enc : TypeId × Value → H} {w : World}
theorem open_recs {ts : List TypeId} {ds : List (DataW H)} {j : Nat} {a : Option Addr} {len cap : Nat} {d : DataW H} {p : List MemPlace} (hsz : (DataW.weightsEach Tryd.prog ts ds).all (· ≤ reachBytes) = true) (ht : ts[j]? = some 31) (hd : ds[j]? = some d)
    (h : DataW.Trod enc Tryd.prog w 0 (fun _ => true) true 31 (.slice a len cap) d p) : ∃ R, Vs w a len R ∧ (a = none → len = 0 ∧ cap = 0) := by
  obtain ⟨fuel, hf⟩ := h
  have hlen : len ≤ 140737488355328 := by
    rcases Go.Deep.open_slice Tryd.underlying31 hf with ⟨h1, _⟩ | ⟨ad, l, c, m, n, D, Pl, h1, hb, hl, hm, hmm, hx, _⟩
    · simp [Value.cells] at h1
      omega
    · simp [Value.cells] at h1
      obtain ⟨rfl, rfl, rfl⟩ := h1
      simp only [Prod.mk.injEq] at hx
      obtain ⟨rfl, rfl⟩ := hx
      have hr := sized_slice hsz (j := j) (t := 31) (e := 63) ht hd Tryd.underlying31
      rw [bytes_rec] at hr
      have hb := reachBytes_lt
      simp at hr
      omega
  have hcs : (Value.slice a len cap).cells.toList = [.slice a len cap] := rfl
  rw [hcs] at hf
  obtain ⟨X, E, hk, hn, _⟩ := open_list Tryd.underlying31 flat_rec cells_rec (by decide) hlen hf
  obtain ⟨R, hR⟩ := vs_of E hk
  exact ⟨R, hR, hn⟩
end
end Go.Proofs.YtemcppakmcffgaaDoor
