/- The law RecordsGet, walked, by any contract of package records' Get. -/
import Derived.Test.YtemcppakmcffgaaGreatDoorRecBC
import Derived.Test.YtemcppakmcffgaaGreatDoorListRec
import Derived.Test.YtemcppakmcffgaaGreatDoorBitG
import Derived.Test.YtemcppakmcffgaaGreatDoorBkApByteRec
namespace Go.Proofs.YtemcppakmcffgaaGreatDoor
open Go.RowKit Go.BigFrame
set_option linter.unusedSimpArgs false
set_option linter.unusedVariables false
theorem ew_flat (n : Nat) (F : Nat → Value) : ew 1 n (fun i _ => F i) = vl n F := by
  unfold ew
  rw [Nat.mul_one]
  exact vl_ext fun j _ => by rw [Nat.div_one]
/-- A list that owns its row, as a list wherever it begins. -/
theorem Lst.es {w : World} {e : TypeId} {m n : Nat} {s : Value} {X : Nat → Nat → Value} (h : Lst w e m s n X) (hn : n ≤ 140737488355328) : ∃ a c, s = .slice a n c ∧ Es w m a n X := by
  obtain ⟨a, c, rfl⟩ := h.slice
  refine ⟨a, c, rfl, hn, fun i hi => ?_⟩
  obtain ⟨g, c', hs⟩ := h.form (by omega)
  cases hs
  exact ⟨g, 0, rfl, by rw [Nat.zero_add]; exact h.range hi⟩


end Go.Proofs.YtemcppakmcffgaaGreatDoor
