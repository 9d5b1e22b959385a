/- Values without memory: their cells in pieces; equal to themselves; whole values loaded in a region that draws its order. -/
import Derived.Test.YthlhmfjopjikpaaDoorFlat
import Derived.Test.YthlhmfjopjikpaaDoorBoxV
import Derived.Test.YthlhmfjopjikpaaDoorListA
import Derived.DeepKeys
namespace Go.Proofs.YthlhmfjopjikpaaDoor
open Go.RowKit Go.BigFrame
set_option linter.unusedSimpArgs false
set_option linter.unusedVariables false
theorem Kinds.length : ∀ {ks : List (Option IntKind)} {cs : List Value}, Kinds ks cs → cs.length = ks.length := by
  intro ks
  induction ks with
  | nil => intro cs h; simp only [Kinds] at h; rw [h]; rfl
  | cons k ks ih => intro cs h; obtain ⟨c, cs', rfl, _, h⟩ := h; simp [ih h]
theorem Kinds.split {l m : List (Option IntKind)} : ∀ {cs : List Value}, Kinds (l ++ m) cs → Kinds l (cs.take l.length) ∧ Kinds m (cs.drop l.length) := by
  induction l with
  | nil => intro cs h; exact ⟨by simp [Kinds], by simpa using h⟩
  | cons k ks ih =>
    intro cs h
    obtain ⟨c, cs', rfl, hc, h⟩ := h
    obtain ⟨h1, h2⟩ := ih h
    exact ⟨⟨c, _, rfl, hc, h1⟩, by simpa using h2⟩
theorem Kinds.piece : ∀ (l : List (Nat × List (Option IntKind))) (o : Nat) (cs : List Value), inRow o l = true → Kinds (l.flatMap (·.2)) (cs.drop o) → ∀ p ∈ l, Kinds p.2 ((cs.drop p.1).take p.2.length) := by
  intro l
  induction l with
  | nil => intro o cs _ _ p hp; simp at hp
  | cons q l ih =>
    intro o cs hr hk p hp
    simp only [inRow, Bool.and_eq_true, beq_iff_eq] at hr
    obtain ⟨ho, hr⟩ := hr
    rw [List.flatMap_cons] at hk
    obtain ⟨h1, h2⟩ := hk.split
    rcases List.mem_cons.1 hp with rfl | hp
    · rw [ho]; exact h1
    · rw [List.drop_drop] at h2
      exact ih (o + q.2.length) cs hr h2 p hp
theorem Kinds.copy (ks : List (Option IntKind)) : ∀ (m o : Nat) (cs : List Value), Kinds (List.replicate m ks).flatten (cs.drop o) → ∀ i, i < m → Kinds ks ((cs.drop (o + i * ks.length)).take ks.length) := by
  intro m
  induction m with
  | zero => intro o cs _ i hi; omega
  | succ m ih =>
    intro o cs hk i hi
    rw [List.replicate_succ, List.flatten_cons] at hk
    obtain ⟨h1, h2⟩ := hk.split
    cases i with
    | zero => simpa using h1
    | succ i =>
      rw [List.drop_drop] at h2
      have := ih (o + ks.length) cs h2 i (by omega)
      rwa [Nat.add_mul, Nat.one_mul, Nat.add_comm (i * ks.length), ← Nat.add_assoc]
theorem kinds_one : ∀ {ks : List (Option IntKind)} {cs : List Value}, Kinds ks cs → ∀ v ∈ cs, v.oneCell' = true := by
  intro ks
  induction ks with
  | nil => intro cs h v hv; simp only [Kinds] at h; subst h; simp at hv
  | cons k ks ih =>
    intro cs h v hv
    obtain ⟨c, cs', rfl, hc, h⟩ := h
    rcases List.mem_cons.1 hv with rfl | hv
    · cases k with
      | none => obtain ⟨b, rfl⟩ := hc; rfl
      | some k => obtain ⟨n, rfl, _⟩ := hc; rfl
    · exact ih h v hv
theorem len_copies {α : Type} (m : Nat) (ks : List α) : (List.replicate m ks).flatten.length = m * ks.length := by
  induction m with
  | zero => simp
  | succ m ih => rw [List.replicate_succ, List.flatten_cons, List.length_append, ih, Nat.add_mul, Nat.one_mul, Nat.add_comm]
theorem mapM_all {α β : Type} {f : α → Option β} : ∀ {l : List α}, (∀ a ∈ l, ∃ b, f a = some b) → ∃ r, l.mapM f = some r := by
  intro l
  induction l with
  | nil => intro _; exact ⟨[], rfl⟩
  | cons a l ih =>
    intro h
    obtain ⟨b, hb⟩ := h a (List.mem_cons_self ..)
    obtain ⟨r, hr⟩ := ih (fun x hx => h x (List.mem_cons_of_mem _ hx))
    exact ⟨b :: r, by simp [hb, hr]⟩
/-- No field at any depth is blank. -/
def named (P : Program) : Nat → TypeId → Bool
  | 0, _ => false
  | n + 1, t =>
    match P.underlying t with
    | some (.struct fs) => fs.all (·.name != "_") && fs.toList.all (fun f => named P n f.type)
    | some (.array _ e) => named P n e
    | _ => true
theorem flat_lits {P : Program} : ∀ (n : Nat) {t : TypeId} {ks : List (Option IntKind)} {cs : List Value}, flat P n t = some ks → named P n t = true → Kinds ks cs → ∃ l, P.keyLits n t cs = some l := by
  intro n
  induction n with
  | zero => intro t ks cs h _ _; simp [flat] at h
  | succ n ih =>
    intro t ks cs h hn hk
    unfold flat at h
    unfold named at hn
    split at h
    · rename_i ht
      simp only [Option.some.injEq] at h
      subst h
      obtain ⟨c, cs', rfl, ⟨b, rfl⟩, rfl⟩ := hk
      exact ⟨[.bool b], by simp [Program.keyLits, ht]⟩
    · rename_i k ht
      simp only [Option.some.injEq] at h
      subst h
      obtain ⟨c, cs', rfl, ⟨z, rfl, hw⟩, rfl⟩ := hk
      exact ⟨[.int k z], by simp [Program.keyLits, ht, hw]⟩
    · rename_i fs ht
      simp only [Option.bind_eq_some_iff] at h
      obtain ⟨l, hl, h⟩ := h
      split at h
      · rename_i hc
        simp only [Option.some.injEq] at h
        subst h
        rw [ht] at hn
        simp only [Bool.and_eq_true] at hn
        have hlen := hk.length
        obtain ⟨r, hr⟩ := mapM_all (f := fun (f : Field) => P.keyLits n f.type ((cs.drop f.offset).take (P.cellsOf f.type))) (l := fs.toList) (fun f hf => by
          obtain ⟨i, hi, rfl⟩ := List.getElem_of_mem hf
          have hll := mapM_some_length hl
          obtain ⟨g, hg, ho, hfl, hcl⟩ := mapM_flat hl i _ (List.getElem?_eq_getElem (show i < l.length by rw [hll]; exact hi))
          rw [List.getElem?_eq_getElem hi, Option.some.injEq] at hg
          subst hg
          have hp := Kinds.piece l 0 cs hc.1 (by simpa using hk) _ (List.getElem_mem (show i < l.length by rw [hll]; exact hi))
          rw [ho, hcl]
          exact ih hfl (List.all_eq_true.1 hn.2 _ (List.getElem_mem hi)) hp)
        exact ⟨r.flatten, by unfold Program.keyLits; rw [ht]; simp only [hlen, hc.2, hn.1, true_and, and_self, if_true, hr, Option.map_some]⟩
      · simp at h
    · rename_i m e ht
      simp only [Option.bind_eq_some_iff] at h
      obtain ⟨ks', hk', h⟩ := h
      split at h
      · rename_i hc
        simp only [Option.some.injEq] at h
        subst h
        rw [ht] at hn
        have hlen := hk.length
        obtain ⟨r, hr⟩ := mapM_all (f := fun (i : Nat) => P.keyLits n e ((cs.drop (i * P.cellsOf e)).take (P.cellsOf e))) (l := List.range m) (fun i hi => by
          have hp := Kinds.copy ks' m 0 cs (by simpa using hk) i (List.mem_range.1 hi)
          rw [Nat.zero_add] at hp
          rw [hc.1]
          exact ih hk' hn hp)
        have hl2 : cs.length = P.cellsOf t := by rw [hlen, hc.2, len_copies]
        exact ⟨r.flatten, by unfold Program.keyLits; rw [ht]; simp only [hl2, if_true, hr, Option.map_some]⟩
      · simp at h
    · simp at h
/-- A struct without memory is equal to itself. -/
theorem eq_self {P : Program} {t : TypeId} {fs : Array Field} {ks : List (Option IntKind)} {cs : Array Value} (n : Nat) (ht : P.underlying t = some (.struct fs)) (hf : flat P n t = some ks) (hn : named P n t = true) (hk : P.keyTypeAt n t = true) (hc : P.cellsOf t = ks.length) (h10 : n ≤ 10000) (h : Kinds ks cs.toList) (w : World) :
    (Op.equalIn 10000 t (.agg cs) (.agg cs)).run P w = .ok true w := by
  obtain ⟨l, hl⟩ := flat_lits n hf hn h
  have hfm : (Value.agg cs).formed P t = true := by
    unfold Value.formed
    simp only [ht]
    have := h.length
    simp only [Array.length_toList] at this
    rw [this, hc]
    exact beq_self_eq_true _
  have hd : 10000 = (10000 - n) + n := by omega
  obtain ⟨r, hr, hiff⟩ := run_equalIn_deep (P := P) (10000 - n) n t hk w n n (.agg cs) (.agg cs) l l hfm hfm hl hl
  rw [← hd] at hr
  rw [hr, hiff.2 rfl]
/-- An array without memory is equal to itself. -/
theorem eq_selfa {P : Program} {t e : TypeId} {m : Nat} {ks : List (Option IntKind)} {cs : Array Value} (n : Nat) (ht : P.underlying t = some (.array m e)) (hf : flat P n t = some ks) (hn : named P n t = true) (hk : P.keyTypeAt n t = true) (hc : P.cellsOf t = ks.length) (h10 : n ≤ 10000) (h : Kinds ks cs.toList) (w : World) :
    (Op.equalIn 10000 t (.agg cs) (.agg cs)).run P w = .ok true w := by
  obtain ⟨l, hl⟩ := flat_lits n hf hn h
  have hfm : (Value.agg cs).formed P t = true := by
    unfold Value.formed
    simp only [ht]
    have := h.length
    simp only [Array.length_toList] at this
    rw [this, hc]
    exact beq_self_eq_true _
  have hd : 10000 = (10000 - n) + n := by omega
  obtain ⟨r, hr, hiff⟩ := run_equalIn_deep (P := P) (10000 - n) n t hk w n n (.agg cs) (.agg cs) l l hfm hfm hl hl
  rw [← hd] at hr
  rw [hr, hiff.2 rfl]
/-- A whole value loaded, in a region that draws its order. -/
theorem quiet_load_cells {P : Program} {C : World → Prop} {op : Oper} {a : Act} {K : Act → Prop} (ty : TypeId) (x : Operand) (b o : Nat) (cs : List Value) (d : TypeDesc) (ho : op.op = .load ty x) (hx : a.eval x = .pointer (some ⟨b, o, none⟩)) (B : ∀ w, C w → w.rangeAt b o cs)
    (hu : P.underlying ty = some d) (hd : d.isRow = true) (hi : (P.info? ty).map (·.size) = some cs.length) (hk : K (a.put op.dst (.agg cs.toArray))) : op.quiet P a C K :=
  ⟨.agg cs.toArray, fun w hw => by
    have h := run_loadVar_mid (P := P) w b o ty cs d (B w hw) hu hd hi
    unfold Oper.quietAt execOp
    simp only [ho, hx, Instr.loadAt, Instr.sureAddr, Sem.run_bind, Sem.run_pure, Result.andThen_ok, h]
    exact ⟨rfl, rfl⟩, hk⟩
/-- A whole value stored. -/
theorem wpList_store_vl {P : Program} {ops : Array Oper} {rest : List Oper} {op : Oper} {a : Act} {w : World} {Q : Exit → Act → World → Prop} (hgd : op.guard = none) (ty : TypeId) (x y : Operand) (ho : op.op = .store ty x y)
    (b o m : Nat) (f : Nat → Value) (hx : a.eval x = .pointer (some ⟨b, o, none⟩)) (hy : a.eval y = .agg (vl m f).toArray) (ht : w.there b o m) (hi : (P.info? ty).map (·.size) = some m) (h1 : ∀ v ∈ vl m f, v.oneCell' = true)
    (h : wpList P ops Q rest (a.put op.dst undef) (w.setCells b o (vl m f))) : wpList P ops Q (op :: rest) a w :=
  have e : (vl m f).toArray.size = m := by rw [List.size_toArray, vl_len]
  wpList_store_mid hgd ty x y ho b o (vl m f).toArray hx hy (by rw [e]; exact ht) (by rw [e]; exact hi) (all_oneCell_toArray h1) h
theorem grown_ext0 {w w' : World} (h : w.grownBy w' none) : Ext w w' := ⟨h.os, h.tape, h.output, h.size, fun k hk => h.block k hk (by simp)⟩
theorem grown_over0 {W w w' : World} {g : Nat} (e : Ext W w) (h : w.grownBy w' (some g)) (hg : W.heap.size ≤ g) : Ext W w' := Chg.over e (Chg.grown (S := fun k => k = g) h (fun k e => (Option.some.inj e).symm)) (fun i hi => by rw [hi]; exact hg)
/-- A list in memory, wherever it begins: what it reads as. -/
structure Es (w : World) (m : Nat) (a : Option Addr) (n : Nat) (X : Nat → Nat → Value) : Prop where
  len : n ≤ 140737488355328
  at_ : ∀ i, i < n → ∃ b o, a = some ⟨b, o, none⟩ ∧ w.rangeAt b (o + i * m) (vl m (X i))
theorem range_later {w w' : World} {b o : Nat} {cs : List Value} (h : w.rangeAt b o cs) (e : Ext w w') : w'.rangeAt b o cs := fun j v hv => e.later (h j v hv)
theorem Es.later {w w' : World} {m : Nat} {a : Option Addr} {n : Nat} {X : Nat → Nat → Value} (B : Es w m a n X) (e : Ext w w') : Es w' m a n X :=
  ⟨B.len, fun i hi => by obtain ⟨b, o, h1, h2⟩ := B.at_ i hi; exact ⟨b, o, h1, range_later h2 e⟩⟩
theorem Es.form {w : World} {m : Nat} {a : Option Addr} {n : Nat} {X : Nat → Nat → Value} (B : Es w m a n X) (h : 0 < n) : ∃ b o, a = some ⟨b, o, none⟩ ∧ ∀ i, i < n → w.rangeAt b (o + i * m) (vl m (X i)) := by
  obtain ⟨b, o, h1, h2⟩ := B.at_ 0 h
  refine ⟨b, o, h1, fun i hi => ?_⟩
  obtain ⟨b', o', h3, h4⟩ := B.at_ i hi
  rw [h1] at h3
  cases h3
  exact h4
theorem Es.cells {w : World} {m n : Nat} {a : Option Addr} {X : Nat → Nat → Value} (B : Es w m a n X) : ∀ ad, a = some ad → ∀ j u, (ew m n X)[j]? = some u → w.cell? (ad.add j) = some u := by
  intro ad ha j u hu
  have hj : j < n * m := by rw [← ew_len m n X]; exact (List.getElem?_eq_some_iff.1 hu).1
  have hm : 0 < m := by rcases Nat.eq_zero_or_pos m with h | h; · subst h; omega
                        · exact h
  have hi : j / m < n := Nat.div_lt_of_lt_mul (by rw [Nat.mul_comm]; exact hj)
  have hjj : j % m < m := Nat.mod_lt _ hm
  have hkk : j = j / m * m + j % m := by rw [Nat.mul_comm]; exact (Nat.div_add_mod j m).symm
  obtain ⟨b, o, h1, h2⟩ := B.at_ _ hi
  rw [ha] at h1
  cases h1
  rw [hkk, ew_at X hi hjj] at hu
  cases hu
  rw [Addr.add_mid]
  have := h2 (j % m) _ (vl_at m (X (j / m)) hjj)
  rw [← this]
  congr 2
  omega
theorem ew_one (m n : Nat) (X : Nat → Nat → Value) (h : ∀ i, i < n → ∀ v ∈ vl m (X i), v.oneCell' = true) : ∀ v ∈ ew m n X, v.oneCell' = true := by
  intro v hv
  obtain ⟨j, hj, rfl⟩ := List.getElem_of_mem hv
  rw [ew_len] at hj
  have hm : 0 < m := by rcases Nat.eq_zero_or_pos m with h | h; · subst h; omega
                        · exact h
  have hi : j / m < n := Nat.div_lt_of_lt_mul (by rw [Nat.mul_comm]; exact hj)
  have hjj : j % m < m := Nat.mod_lt _ hm
  have hkk : j = j / m * m + j % m := by rw [Nat.mul_comm]; exact (Nat.div_add_mod j m).symm
  have e := ew_at X hi hjj
  rw [← hkk, List.getElem?_eq_getElem (by rw [ew_len]; exact hj), Option.some.injEq] at e
  rw [e]
  exact h _ hi _ (List.mem_of_getElem? (vl_at m (X (j / m)) hjj))
end Go.Proofs.YthlhmfjopjikpaaDoor
