/- Types without memory, opened: a struct, or an array, of whole numbers and truths, however it is nested, is so many cells, each of its own kind. -/
import Derived.ProofKit
import Derived.OpenShut
namespace Go.Proofs.YthlhmfjopjikpaaDoor
open Go.ChangeShapes Go.WideShapes Go.ChangeAt Go.RowKit
set_option linter.unusedVariables false
set_option linter.unusedSimpArgs false
/-- Pieces that stand one behind the other, from a place on. -/
def inRow : Nat → List (Nat × List (Option IntKind)) → Bool
  | _, [] => true
  | o, p :: l => p.1 == o && inRow (o + p.2.length) l
/-- The kinds of the cells of a type without memory; of a truth: none. -/
def flat (P : Program) : Nat → TypeId → Option (List (Option IntKind))
  | 0, _ => none
  | n + 1, t =>
    match P.underlying t with
    | some .bool => some [none]
    | some (.int k) => some [some k]
    | some (.struct fs) => (fs.toList.mapM fun f => (flat P n f.type).bind fun ks => if P.cellsOf f.type = ks.length then some (f.offset, ks) else none).bind fun l =>
        if inRow 0 l = true ∧ P.cellsOf t = (l.flatMap (·.2)).length then some (l.flatMap (·.2)) else none
    | some (.array m e) => (flat P n e).bind fun ks => if P.cellsOf e = ks.length ∧ P.cellsOf t = m * ks.length then some (List.replicate m ks).flatten else none
    | _ => none
/-- What a cell of a kind holds. -/
def OfKind (k : Option IntKind) (c : Value) : Prop :=
  match k with
  | some k => ∃ n, c = .int k n ∧ (Lit.int k n).wf = true
  | none => ∃ b, c = .bool b
/-- Cells, each of its kind. -/
def Kinds : List (Option IntKind) → List Value → Prop
  | [], cs => cs = []
  | k :: ks, cs => ∃ c cs', cs = c :: cs' ∧ OfKind k c ∧ Kinds ks cs'
theorem Kinds.append {l m : List (Option IntKind)} : ∀ {cs ds : List Value}, Kinds l cs → Kinds m ds → Kinds (l ++ m) (cs ++ ds) := by
  induction l with
  | nil => intro cs ds h1 h2; simp only [Kinds] at h1; subst h1; exact h2
  | cons k ks ih =>
    intro cs ds h1 h2
    obtain ⟨c, cs', rfl, hc, hr⟩ := h1
    exact ⟨c, cs' ++ ds, rfl, hc, ih hr h2⟩
theorem Kinds.pieces : ∀ (l : List (Nat × List (Option IntKind))) (o : Nat) (cs : List Value), inRow o l = true → (cs.drop o).length = (l.flatMap (·.2)).length →
    (∀ p ∈ l, Kinds p.2 ((cs.drop p.1).take p.2.length)) → Kinds (l.flatMap (·.2)) (cs.drop o) := by
  intro l
  induction l with
  | nil => intro o cs _ hl _; exact List.eq_nil_of_length_eq_zero (by simpa using hl)
  | cons p l ih =>
    intro o cs hr hl hp
    simp only [inRow, Bool.and_eq_true, beq_iff_eq] at hr
    obtain ⟨ho, hr⟩ := hr
    subst ho
    have h0 := hp p (List.mem_cons_self ..)
    have h1 := ih (p.1 + p.2.length) cs hr (by simp only [List.flatMap_cons, List.length_append, List.length_drop] at hl ⊢; omega) (fun q hq => hp q (List.mem_cons_of_mem _ hq))
    have e : cs.drop p.1 = (cs.drop p.1).take p.2.length ++ cs.drop (p.1 + p.2.length) := by rw [← List.drop_drop]; exact (List.take_append_drop ..).symm
    rw [e, List.flatMap_cons]
    exact h0.append h1
theorem Kinds.copies (ks : List (Option IntKind)) : ∀ (m : Nat) (o : Nat) (cs : List Value), (cs.drop o).length = m * ks.length → (∀ i, i < m → Kinds ks ((cs.drop (o + i * ks.length)).take ks.length)) →
    Kinds (List.replicate m ks).flatten (cs.drop o) := by
  intro m
  induction m with
  | zero => intro o cs hl _; exact List.eq_nil_of_length_eq_zero (by simpa using hl)
  | succ m ih =>
    intro o cs hl hp
    have h0 := hp 0 (by omega)
    simp only [Nat.zero_mul, Nat.add_zero] at h0
    have h1 := ih (o + ks.length) cs (by simp only [List.length_drop, Nat.add_mul, Nat.one_mul] at hl ⊢; omega) (fun i hi => by
      have := hp (i + 1) (by omega)
      rwa [Nat.add_mul, Nat.one_mul, Nat.add_comm (i * ks.length), ← Nat.add_assoc] at this)
    have e : cs.drop o = (cs.drop o).take ks.length ++ cs.drop (o + ks.length) := by rw [← List.drop_drop]; exact (List.take_append_drop ..).symm
    rw [e, List.replicate_succ, List.flatten_cons]
    exact h0.append h1
theorem mapM_flat {P : Program} {n : Nat} {fs : List Field} {l : List (Nat × List (Option IntKind))}
    (h : (fs.mapM fun (f : Field) => (flat P n f.type).bind fun ks => if P.cellsOf f.type = ks.length then some (f.offset, ks) else none) = some l) (i : Nat) (p : Nat × List (Option IntKind)) (hi : l[i]? = some p) :
    ∃ f : Field, fs[i]? = some f ∧ f.offset = p.1 ∧ flat P n f.type = some p.2 ∧ P.cellsOf f.type = p.2.length := by
  have hlen := mapM_some_length h
  have hlt : i < fs.length := by have := (List.getElem?_eq_some_iff.1 hi).1; omega
  refine ⟨fs[i], List.getElem?_eq_getElem hlt, ?_⟩
  have hg := mapM_some_get h i fs[i] (List.getElem?_eq_getElem hlt)
  rw [hi] at hg
  simp only [Option.bind_eq_some_iff] at hg
  obtain ⟨ks, hk, hq⟩ := hg
  split at hq
  · rename_i hc
    simp only [Option.some.injEq] at hq
    subst hq
    exact ⟨rfl, hk, hc⟩
  · simp at hq
section
variable {H : Type} {enc : TypeId × Value → H} {P : Program} {w : World} {base : Nat} {spare : Nat → Bool} {held : Bool}
/-- A value of a type without memory: its cells, each of its kind, and no places. -/
theorem flat_cells : ∀ (n : Nat) {t : TypeId} {ks : List (Option IntKind)} {fuel : Nat} {cs : List Value} {y : DataW H × List MemPlace}, flat P n t = some ks → DataW.trod enc P w base spare held fuel t cs = some y → Kinds ks cs ∧ y.2 = [] := by
  intro n
  induction n with
  | zero => intro t ks fuel cs y h _; simp [flat] at h
  | succ n ih =>
    intro t ks fuel cs y h hy
    unfold flat at h
    split at h
    · rename_i ht
      simp only [Option.some.injEq] at h
      subst h
      cases fuel with
      | zero => simp [DataW.trod] at hy
      | succ m =>
        unfold DataW.trod at hy
        rw [ht] at hy
        split at hy <;> simp_all
        subst hy
        exact ⟨⟨_, [], rfl, ⟨_, rfl⟩, rfl⟩, rfl⟩
    · rename_i k ht
      simp only [Option.some.injEq] at h
      subst h
      obtain ⟨z, rfl, rfl, hw⟩ := DataW.trod_int ht hy
      exact ⟨⟨_, [], rfl, ⟨z, rfl, hw⟩, rfl⟩, rfl⟩
    · rename_i fs ht
      simp only [Option.bind_eq_some_iff] at h
      obtain ⟨l, hl, h⟩ := h
      split at h
      · rename_i hc
        simp only [Option.some.injEq] at h
        subst h
        obtain ⟨xs, m, _, rfl, hlen, hxs, hf⟩ := DataW.trod_struct ht hy
        have hm := mapM_flat hl
        have hll := mapM_some_length hl
        have hxl : xs.length = l.length := by simp at hll; omega
        refine ⟨Kinds.pieces l 0 cs hc.1 (by simpa using hlen.trans hc.2) fun p hp => ?_, ?_⟩
        · obtain ⟨i, hi, rfl⟩ := List.getElem_of_mem hp
          obtain ⟨f, hfi, ho, hk, hcl⟩ := hm i _ (List.getElem?_eq_getElem hi)
          have hx := hf i f (by simpa using hfi)
          rw [List.getElem?_eq_getElem (by omega), ho, hcl] at hx
          exact (ih hk hx).1
        · simp only [List.flatMap_eq_nil_iff]
          intro x hx
          obtain ⟨i, hi, rfl⟩ := List.getElem_of_mem hx
          obtain ⟨f, hfi, ho, hk, hcl⟩ := hm i _ (List.getElem?_eq_getElem (by omega))
          have h2 := hf i f (by simpa using hfi)
          rw [List.getElem?_eq_getElem hi] at h2
          exact (ih hk h2).2
      · simp at h
    · rename_i m e ht
      simp only [Option.bind_eq_some_iff] at h
      obtain ⟨ks', hk, h⟩ := h
      split at h
      · rename_i hc
        simp only [Option.some.injEq] at h
        subst h
        obtain ⟨xs, m', _, rfl, hlen, hxs, hf⟩ := DataW.trod_array ht hy
        refine ⟨Kinds.copies ks' m 0 cs (by simpa using hlen.trans hc.2) fun i hi => ?_, ?_⟩
        · have hx := hf i hi
          rw [List.getElem?_eq_getElem (by omega)] at hx
          rw [hc.1] at hx
          rw [Nat.zero_add]
          exact (ih hk hx).1
        · simp only [List.flatMap_eq_nil_iff]
          intro x hx
          obtain ⟨i, hi, rfl⟩ := List.getElem_of_mem hx
          have h2 := hf i (by omega)
          rw [List.getElem?_eq_getElem hi] at h2
          exact (ih hk h2).2
      · simp at h
    · simp at h
end
end Go.Proofs.YthlhmfjopjikpaaDoor
