/- The law RecordsPut, walked, by any contract of package records' Put. -/
import Derived.Test.YtemcppakmcffgaaDoorRecTU
import Derived.Test.YtemcppakmcffgaaDoorLawRget
namespace Go.Proofs.YtemcppakmcffgaaDoor
open Go.RowKit Go.BigFrame
set_option linter.unusedSimpArgs false
set_option linter.unusedVariables false
theorem rv_kinds {w : World} {a : Option Addr} {n : Nat} {R : Nat → Rcd} (B : Vs w a n R) {i : Nat} (hi : i < n) : Kinds [some .u8, some .u32, some .u32, some .u16, some .u16, some .u16, some .u16] (vl 7 (rv (R i))) := by
  have bf := B.f i hi
  have bx := B.x i hi
  have by' := B.y i hi
  have c0 := B.c i 0 hi (by omega)
  have c1 := B.c i 1 hi (by omega)
  have c2 := B.c i 2 hi (by omega)
  have c3 := B.c i 3 hi (by omega)
  show Kinds _ [.int .u8 (R i).f, .int .u32 (R i).x, .int .u32 (R i).y, .int .u16 ((R i).c 0), .int .u16 ((R i).c 1), .int .u16 ((R i).c 2), .int .u16 ((R i).c 3)]
  generalize (R i).f = y0 at *
  generalize (R i).x = y1 at *
  generalize (R i).y = y2 at *
  generalize (R i).c 0 = z0 at *
  generalize (R i).c 1 = z1 at *
  generalize (R i).c 2 = z2 at *
  generalize (R i).c 3 = z3 at *
  simp only [Kinds, OfKind]
  refine ⟨_, _, rfl, ⟨_, rfl, ?_⟩, _, _, rfl, ⟨_, rfl, ?_⟩, _, _, rfl, ⟨_, rfl, ?_⟩, _, _, rfl, ⟨_, rfl, ?_⟩, _, _, rfl, ⟨_, rfl, ?_⟩, _, _, rfl, ⟨_, rfl, ?_⟩, _, _, rfl, ⟨_, rfl, ?_⟩, rfl⟩ <;> simp [Lit.wf, IntKind.min, IntKind.max, IntKind.signed, IntKind.bits] <;> omega
theorem Lst.bs {w : World} {s : Value} {M : Nat} {f : Nat → Int} (h : Lst w 5 1 s M (fun j _ => .int .u8 (f j))) (hM : M ≤ 140737488355328) (hf : ∀ i, i < M → 0 ≤ f i ∧ f i < 256) : ∃ a c, s = .slice a M c ∧ Bs w a M f := by
  obtain ⟨a, c, rfl⟩ := h.slice
  refine ⟨a, c, rfl, hM, fun i hi => ?_, hf⟩
  obtain ⟨g, c', hs⟩ := h.form (by omega)
  cases hs
  have := h.cell hi (show 0 < 1 by decide)
  rw [Nat.mul_one, Nat.add_zero] at this
  exact ⟨g, 0, rfl, by rw [Nat.zero_add]; exact this⟩
theorem PutIs.le {L : Lay} {R : Nat → Rcd} {N M : Nat} {x : Int} (h : PutIs L R N x M) : M ≤ 65536 := by
  rcases h with ⟨_, _, h⟩ | ⟨_, _, _, h⟩ | ⟨_, _, _, _, h⟩ | ⟨_, _, h1, _, h⟩ <;> omega


end Go.Proofs.YtemcppakmcffgaaDoor
