/- Lists in memory that own their rows, of elements of m cells each. Values without memory: their cells in pieces; equal to themselves; whole values loaded in a region that draws its order. -/
import Derived.Test.YtemcppakmcffgaaDoorChg
import Derived.Test.YtemcppakmcffgaaDoorBoxes
import Derived.Test.YtemcppakmcffgaaDoorFlat
import Derived.DeepKeys
namespace Go.Proofs.YtemcppakmcffgaaDoor
open Go.RowKit Go.BigFrame
set_option linter.unusedSimpArgs false
set_option linter.unusedVariables false
theorem at_div {m i j : Nat} (hj : j < m) : (i * m + j) / m = i ∧ (i * m + j) % m = j := by
  have hm : 0 < m := by omega
  rw [Nat.mul_comm]
  exact ⟨by rw [Nat.mul_add_div hm, Nat.div_eq_of_lt hj]; omega, by rw [Nat.mul_add_mod, Nat.mod_eq_of_lt hj]⟩
theorem at_lt {m n i j : Nat} (hi : i < n) (hj : j < m) : i * m + j < n * m := by
  have : (i + 1) * m ≤ n * m := Nat.mul_le_mul_right m hi
  rw [Nat.add_mul] at this
  omega
/-- The cells of n elements of m cells each. -/
def ew (m n : Nat) (X : Nat → Nat → Value) : List Value := vl (n * m) (fun j => X (j / m) (j % m))
theorem ew_len (m n : Nat) (X : Nat → Nat → Value) : (ew m n X).length = n * m := vl_len _ _
theorem ew_at {m n : Nat} (X : Nat → Nat → Value) {i j : Nat} (hi : i < n) (hj : j < m) : (ew m n X)[i * m + j]? = some (X i j) := by
  unfold ew
  rw [vl_at _ _ (at_lt hi hj)]
  obtain ⟨h1, h2⟩ := at_div (i := i) hj
  simp only [h1, h2]
theorem vl_ext {n : Nat} {f g : Nat → Value} (h : ∀ j, j < n → f j = g j) : vl n f = vl n g := by
  unfold vl
  exact List.map_congr_left (fun j hj => h j (List.mem_range.1 hj))
theorem ew_eq {m n : Nat} {X Y : Nat → Nat → Value} (h : ∀ i j, i < n → j < m → X i j = Y i j) : ew m n X = ew m n Y := by
  unfold ew
  refine vl_ext fun j hj => ?_
  by_cases hm : m = 0
  · subst hm; simp at hj
  · exact h _ _ (Nat.div_lt_of_lt_mul (by rw [Nat.mul_comm]; exact hj)) (Nat.mod_lt _ (by omega))
/-- Another element, another cell, in its place. -/
def upe (X : Nat → Nat → Value) (i : Nat) (Y : Nat → Value) : Nat → Nat → Value := fun i' => if i' = i then Y else X i'
def upx (X : Nat → Nat → Value) (i j : Nat) (y : Value) : Nat → Nat → Value := fun i' j' => if i' = i ∧ j' = j then y else X i' j'
theorem vl_add (a b : Nat) (f : Nat → Value) : vl (a + b) f = vl a f ++ vl b (fun j => f (a + j)) := by
  unfold vl
  rw [List.range_add, List.map_append, List.map_map]
  rfl
theorem ew_snoc (m n : Nat) (X : Nat → Nat → Value) (Y : Nat → Value) : ew m n X ++ vl m Y = ew m (n + 1) (upe X n Y) := by
  have e1 : ew m n X = ew m n (upe X n Y) := ew_eq fun i j hi _ => by unfold upe; rw [if_neg (by omega)]
  rw [e1]
  unfold ew
  rw [Nat.add_mul, Nat.one_mul, vl_add]
  congr 1
  refine vl_ext fun j hj => ?_
  obtain ⟨h1, h2⟩ := at_div (i := n) hj
  simp only [h1, h2]
  unfold upe
  rw [if_pos rfl]
/-- A list that owns its row. -/
def Lst (w : World) (e : TypeId) (m : Nat) (s : Value) (n : Nat) (X : Nat → Nat → Value) : Prop := w.ownsRow 0 e m s n (ew m n X)
section
variable {w w' : World} {e : TypeId} {m n g c : Nat} {s : Value} {X : Nat → Nat → Value}
theorem Lst.nil (w : World) (e : TypeId) (m : Nat) (X : Nat → Nat → Value) : Lst w e m (.slice none 0 0) 0 X := ⟨by rw [ew_len], .inl ⟨rfl, rfl⟩⟩
theorem Lst.slice (h : Lst w e m s n X) : ∃ a c, s = .slice a n c := own_slice h
theorem Lst.form (h : Lst w e m s n X) (hn : 0 < n) : ∃ g c, s = .slice (some ⟨g, 0, none⟩) n c := by
  rcases h.2 with ⟨_, h0⟩ | ⟨g, cap, _, h1, _⟩
  · omega
  · exact ⟨g, cap, h1⟩
theorem Lst.lt (h : Lst w e m (.slice (some ⟨g, 0, none⟩) n c) n X) : g < w.heap.size := (World.ownsRow.lt h g rfl).2
theorem Lst.cell (h : Lst w e m (.slice (some ⟨g, 0, none⟩) n c) n X) {i j : Nat} (hi : i < n) (hj : j < m) : w.cell? ⟨g, i * m + j, none⟩ = some (X i j) := by
  rw [World.ownsRow.cellAt h _ (at_lt hi hj)]; exact ew_at X hi hj
theorem Lst.range (h : Lst w e m (.slice (some ⟨g, 0, none⟩) n c) n X) {i : Nat} (hi : i < n) : w.rangeAt g (i * m) (vl m (X i)) := fun j v hv => by
  have hj : j < m := by rw [← vl_len m (X i)]; exact (List.getElem?_eq_some_iff.1 hv).1
  rw [vl_at _ _ hj] at hv
  rw [h.cell hi hj, hv]
theorem Lst.there (h : Lst w e m (.slice (some ⟨g, 0, none⟩) n c) n X) {i : Nat} (hi : i < n) : w.there g (i * m) m := fun j hj => by
  rw [h.cell hi hj]
  exact ⟨rfl, World.ownsRow.frozenAt h _⟩
theorem Lst.congr (h : Lst w e m s n X) {Y : Nat → Nat → Value} (hY : ∀ i j, i < n → j < m → X i j = Y i j) : Lst w e m s n Y := by
  unfold Lst at *
  rwa [← ew_eq hY]
theorem ew_set {i j : Nat} (hi : i < n) (hj : j < m) (y : Value) : (ew m n X).set (i * m + j) y = ew m n (upx X i j y) := by
  refine List.ext_getElem? fun k => ?_
  by_cases hk : k < n * m
  · have hm : 0 < m := by omega
    have hkk : k = k / m * m + k % m := by rw [Nat.mul_comm]; exact (Nat.div_add_mod k m).symm
    have hi' : k / m < n := Nat.div_lt_of_lt_mul (by rw [Nat.mul_comm]; exact hk)
    have hj' : k % m < m := Nat.mod_lt _ hm
    by_cases e : k = i * m + j
    · subst e
      rw [List.getElem?_set_self (by rw [ew_len]; exact hk), ew_at _ hi hj]
      unfold upx; rw [if_pos ⟨rfl, rfl⟩]
    · rw [List.getElem?_set_ne (fun h => e h.symm)]
      rw [hkk, ew_at _ hi' hj', ew_at _ hi' hj']
      unfold upx
      rw [if_neg (fun ⟨h1, h2⟩ => e (by rw [← h1, ← h2]; exact hkk))]
  · rw [List.getElem?_eq_none (by rw [List.length_set, ew_len]; omega), List.getElem?_eq_none (by rw [ew_len]; omega)]
theorem Lst.set (h : Lst w e m (.slice (some ⟨g, 0, none⟩) n c) n X) {i j : Nat} (hi : i < n) (hj : j < m) (y : Value) : Lst (w.setCell ⟨g, i * m + j, none⟩ y) e m (.slice (some ⟨g, 0, none⟩) n c) n (upx X i j y) := by
  have := (World.ownsRow.stored h (i * m + j) y).1
  rw [ew_set hi hj] at this
  exact this
theorem Lst.storeFrom {i : Nat} (hi : i < n) (Y : Nat → Value) : ∀ (k j : Nat) {w : World} {X : Nat → Nat → Value} (h : Lst w e m (.slice (some ⟨g, 0, none⟩) n c) n X), j + k ≤ m →
    Lst (w.setCells g (i * m + j) (vl k (fun t => Y (j + t)))) e m (.slice (some ⟨g, 0, none⟩) n c) n (fun i' j' => if i' = i ∧ j ≤ j' ∧ j' < j + k then Y j' else X i' j') := by
  intro k
  induction k with
  | zero => intro j w X h _; exact h.congr fun i' j' _ _ => by rw [if_neg (by omega)]
  | succ k ih =>
    intro j w X h hk
    have e0 : vl (k + 1) (fun t => Y (j + t)) = Y j :: vl k (fun t => Y (j + 1 + t)) := by
      rw [Nat.add_comm k 1, vl_add]
      show [Y (j + 0)] ++ vl k _ = _
      rw [Nat.add_zero, List.singleton_append]
      congr 1
      exact vl_ext fun t _ => by rw [show j + (1 + t) = j + 1 + t by omega]
    rw [e0, World.setCells]
    have h1 := h.set hi (show j < m by omega) (Y j)
    have h2 := ih (j + 1) h1 (by omega)
    rw [show i * m + j + 1 = i * m + (j + 1) by omega]
    refine h2.congr fun i' j' _ _ => ?_
    unfold upx
    by_cases e1 : i' = i
    · subst e1
      by_cases e2 : j' = j
      · subst e2
        rw [if_neg (by omega), if_pos ⟨rfl, rfl⟩, if_pos (by omega)]
      · by_cases e3 : j + 1 ≤ j' ∧ j' < j + 1 + k
        · rw [if_pos ⟨rfl, e3⟩, if_pos (by omega)]
        · rw [if_neg (fun h => e3 h.2), if_neg (fun h => e2 h.2), if_neg (by omega)]
    · rw [if_neg (fun h => e1 h.1), if_neg (fun h => e1 h.1), if_neg (fun h => e1 h.1)]
theorem Lst.store (h : Lst w e m (.slice (some ⟨g, 0, none⟩) n c) n X) {i : Nat} (hi : i < n) (Y : Nat → Value) : Lst (w.setCells g (i * m) (vl m Y)) e m (.slice (some ⟨g, 0, none⟩) n c) n (upe X i Y) := by
  have h1 := Lst.storeFrom hi Y m 0 h (by omega)
  rw [Nat.add_zero, vl_ext (g := Y) (fun t _ => by rw [Nat.zero_add])] at h1
  refine h1.congr fun i' j' _ hj => ?_
  unfold upe
  by_cases e1 : i' = i
  · rw [if_pos ⟨e1, by omega⟩, if_pos e1]
  · rw [if_neg (fun h => e1 h.1), if_neg e1]
theorem Lst.chg {S : Nat → Prop} (h : Lst w e m s n X) (k : Chg S w w') (hS : ∀ b, s.ownBlock = some b → ¬ S b) : Lst w' e m s n X := own_chg h k hS
theorem Lst.later (h : Lst w e m s n X) (k : Ext w w') : Lst w' e m s n X := own_ext' h k
theorem Lst.drew (h : Lst w e m s n X) : Lst w.drew e m s n X := World.ownsRow.drew h
theorem Lst.skip (h : Lst w e m s n X) {b o : Nat} (hb : s.ownBlock ≠ some b) (u : Value) : Lst (w.setCell ⟨b, o, none⟩ u) e m s n X := own_set h hb u
theorem Lst.skips (h : Lst w e m s n X) {b : Nat} (hb : s.ownBlock ≠ some b) : ∀ (vs : List Value) (o : Nat), Lst (w.setCells b o vs) e m s n X := by
  intro vs
  induction vs generalizing w with
  | nil => intro o; exact h
  | cons v vs ih => intro o; exact ih (h.skip hb v) (o + 1)
end
end Go.Proofs.YtemcppakmcffgaaDoor

namespace Go.Proofs.YtemcppakmcffgaaDoor
open Go.RowKit Go.BigFrame
set_option linter.unusedSimpArgs false
set_option linter.unusedVariables false
theorem Kinds.length : ∀ {ks : List (Option IntKind)} {cs : List Value}, Kinds ks cs → cs.length = ks.length := by
  intro ks
  induction ks with
  | nil => intro cs h; simp only [Kinds] at h; rw [h]; rfl
  | cons k ks ih => intro cs h; obtain ⟨c, cs', rfl, _, h⟩ := h; simp [ih h]
theorem Kinds.split {l m : List (Option IntKind)} : ∀ {cs : List Value}, Kinds (l ++ m) cs → Kinds l (cs.take l.length) ∧ Kinds m (cs.drop l.length) := by
  induction l with
  | nil => intro cs h; exact ⟨by simp [Kinds], by simpa using h⟩
  | cons k ks ih =>
    intro cs h
    obtain ⟨c, cs', rfl, hc, h⟩ := h
    obtain ⟨h1, h2⟩ := ih h
    exact ⟨⟨c, _, rfl, hc, h1⟩, by simpa using h2⟩
theorem Kinds.piece : ∀ (l : List (Nat × List (Option IntKind))) (o : Nat) (cs : List Value), inRow o l = true → Kinds (l.flatMap (·.2)) (cs.drop o) → ∀ p ∈ l, Kinds p.2 ((cs.drop p.1).take p.2.length) := by
  intro l
  induction l with
  | nil => intro o cs _ _ p hp; simp at hp
  | cons q l ih =>
    intro o cs hr hk p hp
    simp only [inRow, Bool.and_eq_true, beq_iff_eq] at hr
    obtain ⟨ho, hr⟩ := hr
    rw [List.flatMap_cons] at hk
    obtain ⟨h1, h2⟩ := hk.split
    rcases List.mem_cons.1 hp with rfl | hp
    · rw [ho]; exact h1
    · rw [List.drop_drop] at h2
      exact ih (o + q.2.length) cs hr h2 p hp
theorem Kinds.copy (ks : List (Option IntKind)) : ∀ (m o : Nat) (cs : List Value), Kinds (List.replicate m ks).flatten (cs.drop o) → ∀ i, i < m → Kinds ks ((cs.drop (o + i * ks.length)).take ks.length) := by
  intro m
  induction m with
  | zero => intro o cs _ i hi; omega
  | succ m ih =>
    intro o cs hk i hi
    rw [List.replicate_succ, List.flatten_cons] at hk
    obtain ⟨h1, h2⟩ := hk.split
    cases i with
    | zero => simpa using h1
    | succ i =>
      rw [List.drop_drop] at h2
      have := ih (o + ks.length) cs h2 i (by omega)
      rwa [Nat.add_mul, Nat.one_mul, Nat.add_comm (i * ks.length), ← Nat.add_assoc]
theorem kinds_one : ∀ {ks : List (Option IntKind)} {cs : List Value}, Kinds ks cs → ∀ v ∈ cs, v.oneCell' = true := by
  intro ks
  induction ks with
  | nil => intro cs h v hv; simp only [Kinds] at h; subst h; simp at hv
  | cons k ks ih =>
    intro cs h v hv
    obtain ⟨c, cs', rfl, hc, h⟩ := h
    rcases List.mem_cons.1 hv with rfl | hv
    · cases k with
      | none => obtain ⟨b, rfl⟩ := hc; rfl
      | some k => obtain ⟨n, rfl, _⟩ := hc; rfl
    · exact ih h v hv
theorem len_copies {α : Type} (m : Nat) (ks : List α) : (List.replicate m ks).flatten.length = m * ks.length := by
  induction m with
  | zero => simp
  | succ m ih => rw [List.replicate_succ, List.flatten_cons, List.length_append, ih, Nat.add_mul, Nat.one_mul, Nat.add_comm]
theorem mapM_all {α β : Type} {f : α → Option β} : ∀ {l : List α}, (∀ a ∈ l, ∃ b, f a = some b) → ∃ r, l.mapM f = some r := by
  intro l
  induction l with
  | nil => intro _; exact ⟨[], rfl⟩
  | cons a l ih =>
    intro h
    obtain ⟨b, hb⟩ := h a (List.mem_cons_self ..)
    obtain ⟨r, hr⟩ := ih (fun x hx => h x (List.mem_cons_of_mem _ hx))
    exact ⟨b :: r, by simp [hb, hr]⟩
/-- No field at any depth is blank. -/
def named (P : Program) : Nat → TypeId → Bool
  | 0, _ => false
  | n + 1, t =>
    match P.underlying t with
    | some (.struct fs) => fs.all (·.name != "_") && fs.toList.all (fun f => named P n f.type)
    | some (.array _ e) => named P n e
    | _ => true
theorem flat_lits {P : Program} : ∀ (n : Nat) {t : TypeId} {ks : List (Option IntKind)} {cs : List Value}, flat P n t = some ks → named P n t = true → Kinds ks cs → ∃ l, P.keyLits n t cs = some l := by
  intro n
  induction n with
  | zero => intro t ks cs h _ _; simp [flat] at h
  | succ n ih =>
    intro t ks cs h hn hk
    unfold flat at h
    unfold named at hn
    split at h
    · rename_i ht
      simp only [Option.some.injEq] at h
      subst h
      obtain ⟨c, cs', rfl, ⟨b, rfl⟩, rfl⟩ := hk
      exact ⟨[.bool b], by simp [Program.keyLits, ht]⟩
    · rename_i k ht
      simp only [Option.some.injEq] at h
      subst h
      obtain ⟨c, cs', rfl, ⟨z, rfl, hw⟩, rfl⟩ := hk
      exact ⟨[.int k z], by simp [Program.keyLits, ht, hw]⟩
    · rename_i fs ht
      simp only [Option.bind_eq_some_iff] at h
      obtain ⟨l, hl, h⟩ := h
      split at h
      · rename_i hc
        simp only [Option.some.injEq] at h
        subst h
        rw [ht] at hn
        simp only [Bool.and_eq_true] at hn
        have hlen := hk.length
        obtain ⟨r, hr⟩ := mapM_all (f := fun (f : Field) => P.keyLits n f.type ((cs.drop f.offset).take (P.cellsOf f.type))) (l := fs.toList) (fun f hf => by
          obtain ⟨i, hi, rfl⟩ := List.getElem_of_mem hf
          have hll := mapM_some_length hl
          obtain ⟨g, hg, ho, hfl, hcl⟩ := mapM_flat hl i _ (List.getElem?_eq_getElem (show i < l.length by rw [hll]; exact hi))
          rw [List.getElem?_eq_getElem hi, Option.some.injEq] at hg
          subst hg
          have hp := Kinds.piece l 0 cs hc.1 (by simpa using hk) _ (List.getElem_mem (show i < l.length by rw [hll]; exact hi))
          rw [ho, hcl]
          exact ih hfl (List.all_eq_true.1 hn.2 _ (List.getElem_mem hi)) hp)
        exact ⟨r.flatten, by unfold Program.keyLits; rw [ht]; simp only [hlen, hc.2, hn.1, true_and, and_self, if_true, hr, Option.map_some]⟩
      · simp at h
    · rename_i m e ht
      simp only [Option.bind_eq_some_iff] at h
      obtain ⟨ks', hk', h⟩ := h
      split at h
      · rename_i hc
        simp only [Option.some.injEq] at h
        subst h
        rw [ht] at hn
        have hlen := hk.length
        obtain ⟨r, hr⟩ := mapM_all (f := fun (i : Nat) => P.keyLits n e ((cs.drop (i * P.cellsOf e)).take (P.cellsOf e))) (l := List.range m) (fun i hi => by
          have hp := Kinds.copy ks' m 0 cs (by simpa using hk) i (List.mem_range.1 hi)
          rw [Nat.zero_add] at hp
          rw [hc.1]
          exact ih hk' hn hp)
        have hl2 : cs.length = P.cellsOf t := by rw [hlen, hc.2, len_copies]
        exact ⟨r.flatten, by unfold Program.keyLits; rw [ht]; simp only [hl2, if_true, hr, Option.map_some]⟩
      · simp at h
    · simp at h
/-- A struct without memory is equal to itself. -/
theorem eq_self {P : Program} {t : TypeId} {fs : Array Field} {ks : List (Option IntKind)} {cs : Array Value} (n : Nat) (ht : P.underlying t = some (.struct fs)) (hf : flat P n t = some ks) (hn : named P n t = true) (hk : P.keyTypeAt n t = true) (hc : P.cellsOf t = ks.length) (h10 : n ≤ 10000) (h : Kinds ks cs.toList) (w : World) :
    (Op.equalIn 10000 t (.agg cs) (.agg cs)).run P w = .ok true w := by
  obtain ⟨l, hl⟩ := flat_lits n hf hn h
  have hfm : (Value.agg cs).formed P t = true := by
    unfold Value.formed
    simp only [ht]
    have := h.length
    simp only [Array.length_toList] at this
    rw [this, hc]
    exact beq_self_eq_true _
  have hd : 10000 = (10000 - n) + n := by omega
  obtain ⟨r, hr, hiff⟩ := run_equalIn_deep (P := P) (10000 - n) n t hk w n n (.agg cs) (.agg cs) l l hfm hfm hl hl
  rw [← hd] at hr
  rw [hr, hiff.2 rfl]
/-- A whole value loaded, in a region that draws its order. -/
theorem quiet_load_cells {P : Program} {C : World → Prop} {op : Oper} {a : Act} {K : Act → Prop} (ty : TypeId) (x : Operand) (b o : Nat) (cs : List Value) (d : TypeDesc) (ho : op.op = .load ty x) (hx : a.eval x = .pointer (some ⟨b, o, none⟩)) (B : ∀ w, C w → w.rangeAt b o cs)
    (hu : P.underlying ty = some d) (hd : d.isRow = true) (hi : (P.info? ty).map (·.size) = some cs.length) (hk : K (a.put op.dst (.agg cs.toArray))) : op.quiet P a C K :=
  ⟨.agg cs.toArray, fun w hw => by
    have h := run_loadVar_mid (P := P) w b o ty cs d (B w hw) hu hd hi
    unfold Oper.quietAt execOp
    simp only [ho, hx, Instr.loadAt, Instr.sureAddr, Sem.run_bind, Sem.run_pure, Result.andThen_ok, h]
    exact ⟨rfl, rfl⟩, hk⟩
/-- A whole value stored. -/
theorem wpList_store_vl {P : Program} {ops : Array Oper} {rest : List Oper} {op : Oper} {a : Act} {w : World} {Q : Exit → Act → World → Prop} (hgd : op.guard = none) (ty : TypeId) (x y : Operand) (ho : op.op = .store ty x y)
    (b o m : Nat) (f : Nat → Value) (hx : a.eval x = .pointer (some ⟨b, o, none⟩)) (hy : a.eval y = .agg (vl m f).toArray) (ht : w.there b o m) (hi : (P.info? ty).map (·.size) = some m) (h1 : ∀ v ∈ vl m f, v.oneCell' = true)
    (h : wpList P ops Q rest (a.put op.dst undef) (w.setCells b o (vl m f))) : wpList P ops Q (op :: rest) a w :=
  have e : (vl m f).toArray.size = m := by rw [List.size_toArray, vl_len]
  wpList_store_mid hgd ty x y ho b o (vl m f).toArray hx hy (by rw [e]; exact ht) (by rw [e]; exact hi) (all_oneCell_toArray h1) h
theorem grown_ext0 {w w' : World} (h : w.grownBy w' none) : Ext w w' := ⟨h.os, h.tape, h.output, h.size, fun k hk => h.block k hk (by simp)⟩
theorem grown_over0 {W w w' : World} {g : Nat} (e : Ext W w) (h : w.grownBy w' (some g)) (hg : W.heap.size ≤ g) : Ext W w' := Chg.over e (Chg.grown (S := fun k => k = g) h (fun k e => (Option.some.inj e).symm)) (fun i hi => by rw [hi]; exact hg)
/-- A list in memory, wherever it begins: what it reads as. -/
structure Es (w : World) (m : Nat) (a : Option Addr) (n : Nat) (X : Nat → Nat → Value) : Prop where
  len : n ≤ 140737488355328
  at_ : ∀ i, i < n → ∃ b o, a = some ⟨b, o, none⟩ ∧ w.rangeAt b (o + i * m) (vl m (X i))
theorem range_later {w w' : World} {b o : Nat} {cs : List Value} (h : w.rangeAt b o cs) (e : Ext w w') : w'.rangeAt b o cs := fun j v hv => e.later (h j v hv)
theorem Es.later {w w' : World} {m : Nat} {a : Option Addr} {n : Nat} {X : Nat → Nat → Value} (B : Es w m a n X) (e : Ext w w') : Es w' m a n X :=
  ⟨B.len, fun i hi => by obtain ⟨b, o, h1, h2⟩ := B.at_ i hi; exact ⟨b, o, h1, range_later h2 e⟩⟩
theorem Es.form {w : World} {m : Nat} {a : Option Addr} {n : Nat} {X : Nat → Nat → Value} (B : Es w m a n X) (h : 0 < n) : ∃ b o, a = some ⟨b, o, none⟩ ∧ ∀ i, i < n → w.rangeAt b (o + i * m) (vl m (X i)) := by
  obtain ⟨b, o, h1, h2⟩ := B.at_ 0 h
  refine ⟨b, o, h1, fun i hi => ?_⟩
  obtain ⟨b', o', h3, h4⟩ := B.at_ i hi
  rw [h1] at h3
  cases h3
  exact h4
theorem Es.cells {w : World} {m n : Nat} {a : Option Addr} {X : Nat → Nat → Value} (B : Es w m a n X) : ∀ ad, a = some ad → ∀ j u, (ew m n X)[j]? = some u → w.cell? (ad.add j) = some u := by
  intro ad ha j u hu
  have hj : j < n * m := by rw [← ew_len m n X]; exact (List.getElem?_eq_some_iff.1 hu).1
  have hm : 0 < m := by rcases Nat.eq_zero_or_pos m with h | h; · subst h; omega
                        · exact h
  have hi : j / m < n := Nat.div_lt_of_lt_mul (by rw [Nat.mul_comm]; exact hj)
  have hjj : j % m < m := Nat.mod_lt _ hm
  have hkk : j = j / m * m + j % m := by rw [Nat.mul_comm]; exact (Nat.div_add_mod j m).symm
  obtain ⟨b, o, h1, h2⟩ := B.at_ _ hi
  rw [ha] at h1
  cases h1
  rw [hkk, ew_at X hi hjj] at hu
  cases hu
  rw [Addr.add_mid]
  have := h2 (j % m) _ (vl_at m (X (j / m)) hjj)
  rw [← this]
  congr 2
  omega
theorem ew_one (m n : Nat) (X : Nat → Nat → Value) (h : ∀ i, i < n → ∀ v ∈ vl m (X i), v.oneCell' = true) : ∀ v ∈ ew m n X, v.oneCell' = true := by
  intro v hv
  obtain ⟨j, hj, rfl⟩ := List.getElem_of_mem hv
  rw [ew_len] at hj
  have hm : 0 < m := by rcases Nat.eq_zero_or_pos m with h | h; · subst h; omega
                        · exact h
  have hi : j / m < n := Nat.div_lt_of_lt_mul (by rw [Nat.mul_comm]; exact hj)
  have hjj : j % m < m := Nat.mod_lt _ hm
  have hkk : j = j / m * m + j % m := by rw [Nat.mul_comm]; exact (Nat.div_add_mod j m).symm
  have e := ew_at X hi hjj
  rw [← hkk, List.getElem?_eq_getElem (by rw [ew_len]; exact hj), Option.some.injEq] at e
  rw [e]
  exact h _ hi _ (List.mem_of_getElem? (vl_at m (X (j / m)) hjj))
end Go.Proofs.YtemcppakmcffgaaDoor
