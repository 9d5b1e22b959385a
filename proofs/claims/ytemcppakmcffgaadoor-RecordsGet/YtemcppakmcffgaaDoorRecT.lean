/- What Put of records answers, in one sentence; the reference's Put, whatever it is handed. -/
import Derived.Test.YtemcppakmcffgaaDoorRecQ
namespace Go.Proofs.YtemcppakmcffgaaDoor
open Go.RowKit Go.BigFrame
set_option linter.unusedSimpArgs false
set_option linter.unusedVariables false
def pbyL (L : Lay) (R : Nat → Rcd) (j : Nat) : Int := pby (flg L).toNat L.c.toNat L.p.toNat L.n.toNat (lsize L 0).toNat R j
def RoomL (L : Lay) (R : Rcd) : Prop := Room (flg L).toNat L.c.toNat L.p.toNat L.n.toNat R
/-- The error of Put, and how many bytes it tells. -/
def PutIs (L : Lay) (R : Nat → Rcd) (N : Nat) (x : Int) (M : Nat) : Prop :=
  (vlay L = false ∧ x = 4 ∧ M = 0) ∨ (vlay L = true ∧ (¬ ∀ i, i < N → RoomL L (R i)) ∧ x = 1 ∧ M = 0) ∨
  (vlay L = true ∧ (∀ i, i < N → RoomL L (R i)) ∧ 65536 < N * (lsize L 0).toNat ∧ x = 3 ∧ M = 0) ∨ (vlay L = true ∧ (∀ i, i < N → RoomL L (R i)) ∧ ¬ 65536 < N * (lsize L 0).toNat ∧ x = 0 ∧ M = N * (lsize L 0).toNat)
theorem PutIs.one {L : Lay} {R : Nat → Rcd} {N M M' : Nat} {x x' : Int} (h : PutIs L R N x M) (h' : PutIs L R N x' M') : x = x' ∧ M = M' := by
  rcases h with ⟨a, rfl, rfl⟩ | ⟨a, b, rfl, rfl⟩ | ⟨a, b, c, rfl, rfl⟩ | ⟨a, b, c, rfl, rfl⟩ <;> rcases h' with ⟨a', rfl, rfl⟩ | ⟨a', b', rfl, rfl⟩ | ⟨a', b', c', rfl, rfl⟩ | ⟨a', b', c', rfl, rfl⟩
  all_goals first
    | exact ⟨rfl, rfl⟩
    | exact absurd (a.symm.trans a') (by decide)
    | exact absurd b' b
    | exact absurd b b'
    | exact absurd c' c
    | exact absurd c c'
/-- What Put answers. -/
def PutAll (L : Lay) (R : Nat → Rcd) (N : Nat) (w : World) (e : Ending) (w' : World) : Prop :=
  ∃ s x M, e = .returned (.tuple #[s, .int .i64 x]) ∧ Ext w w' ∧ Lst w' 5 1 s M (fun j _ => .int .u8 (pbyL L R j)) ∧ (∀ b, s.ownBlock = some b → w.heap.size ≤ b) ∧ PutIs L R N x M
end Go.Proofs.YtemcppakmcffgaaDoor
