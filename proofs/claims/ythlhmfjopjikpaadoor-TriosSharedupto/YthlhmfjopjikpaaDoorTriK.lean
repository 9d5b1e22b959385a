/- The first vertices of a list, type 4, in plain words: how far there are triangles, and what stands there. -/
import Derived.Test.YthlhmfjopjikpaaDoorTriJ
namespace Go.Proofs.YthlhmfjopjikpaaDoor
open Go.RowKit Go.BigFrame
set_option linter.unusedSimpArgs false
set_option linter.unusedVariables false
/-- The first i vertices have just these triangles. -/
structure Fst (Q : Nat → Rcd) (i : Nat) (O : List T3) : Prop where
  eq : chL none (ql Q 0 i) = (0, O)
  ne : 0 < i → O ≠ []
section
variable {Q : Nat → Rcd} {i N : Nat} {O : List T3}
theorem Fst.start (Q : Nat → Rcd) : Fst Q 0 [] := ⟨by show chL none [] = _; rw [chL_nil], fun h => by omega⟩
theorem Fst.behind (F : Fst Q i O) (n : Nat) : chL none (ql Q 0 (i + n)) = pre O (chL (lastOr none O) (ql Q i n)) := by
  have h1 : (chL none (ql Q 0 i)).1 = 0 := by rw [F.eq]
  have := chL_append (ql Q 0 i).length none (ql Q 0 i) (ql Q (0 + i) n) (Nat.le_refl _) h1
  rw [← ql_add Q i n 0, F.eq, Nat.zero_add] at this
  exact this
theorem Fst.last (F : Fst Q i O) (h : 0 < i) : lastOr none O = some (O.getD (O.length - 1) z3) ∧ 0 < O.length := by
  have hne := F.ne h
  have hl : 0 < O.length := by cases O with | nil => exact absurd rfl hne | cons => simp
  refine ⟨?_, hl⟩
  unfold lastOr
  rw [List.getLast?_eq_some_getLast hne, List.getLast_eq_getElem, List.getD_eq_getElem?_getD, List.getElem?_eq_getElem (show O.length - 1 < O.length by omega)]
  rfl
theorem Fst.new (F : Fst Q i O) (h0 : (Q i).f = 0) : Fst Q (i + 3) (O ++ [⟨Q i, Q (i + 1), Q (i + 2)⟩]) := by
  refine ⟨?_, fun _ => by simp⟩
  rw [F.behind 3]
  show pre O (chL _ (Q i :: Q (i + 1) :: Q (i + 2) :: [])) = _
  rw [chL_new _ h0, chL_nil, pre_ok, pre_ok, List.append_nil]
theorem Fst.on (F : Fst Q i O) (hi : 0 < i) (h0 : (Q i).f ≠ 0) (h2 : ¬ 2 < (Q i).f) : Fst Q (i + 1) (O ++ [next3 (O.getD (O.length - 1) z3) (Q i)]) := by
  refine ⟨?_, fun _ => by simp⟩
  rw [F.behind 1, (F.last hi).1]
  show pre O (chL _ (Q i :: [])) = _
  rw [chL_on _ h0 h2, chL_nil, pre_ok, pre_ok, List.append_nil]
theorem Fst.rest (F : Fst Q i O) (h : i < N) : chL none (ql Q 0 N) = pre O (chL (lastOr none O) (Q i :: ql Q (i + 1) (N - (i + 1)))) := by
  have := F.behind (N - i)
  rw [show i + (N - i) = N by omega, show N - i = (N - (i + 1)) + 1 by omega] at this
  exact this
theorem Fst.first (F : Fst Q 0 O) (h : 0 < N) (h0 : (Q 0).f ≠ 0) : chL none (ql Q 0 N) = (6, []) := by
  rw [F.rest h]
  have : O = [] := by have := F.eq; rw [show ql Q 0 0 = [] from rfl, chL_nil] at this; exact (Prod.mk.inj this).2.symm
  rw [this, lastOr_nil, chL_first h0, pre_err _ (by decide)]
theorem Fst.flag (F : Fst Q i O) (hi : 0 < i) (h : i < N) (h2 : 2 < (Q i).f) : chL none (ql Q 0 N) = (7, []) := by
  rw [F.rest h, (F.last hi).1, chL_flag _ (by omega) h2, pre_err _ (by decide)]
theorem Fst.short (F : Fst Q i O) (h : i < N) (h0 : (Q i).f = 0) (h2 : N ≤ i + 2) : chL none (ql Q 0 N) = (5, []) := by
  rw [F.rest h, chL_short _ h0 (by rw [ql_len]; omega), pre_err _ (by decide)]
end
/-- Vertices that are alike but for their flags have, in rows, triangles that are alike but for those. -/
theorem cellT_bare {Q R : Nat → Rcd} {r k : Nat} (h : ∀ i, bare (Q i) = bare (R i)) : tv (cellT Q r k) = tv (cellT R r k) := by
  rw [tv_tri, tv_tri]
  unfold cellT
  dsimp only
  split <;> simp only [h]
end Go.Proofs.YthlhmfjopjikpaaDoor
