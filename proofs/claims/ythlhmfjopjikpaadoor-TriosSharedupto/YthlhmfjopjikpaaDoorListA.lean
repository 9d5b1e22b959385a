/- Lists in memory that own their rows, of elements of m cells each. -/
import Derived.Test.YthlhmfjopjikpaaDoorChg
import Derived.Test.YthlhmfjopjikpaaDoorBoxV
namespace Go.Proofs.YthlhmfjopjikpaaDoor
open Go.RowKit Go.BigFrame
set_option linter.unusedSimpArgs false
set_option linter.unusedVariables false
theorem at_div {m i j : Nat} (hj : j < m) : (i * m + j) / m = i ∧ (i * m + j) % m = j := by
  have hm : 0 < m := by omega
  rw [Nat.mul_comm]
  exact ⟨by rw [Nat.mul_add_div hm, Nat.div_eq_of_lt hj]; omega, by rw [Nat.mul_add_mod, Nat.mod_eq_of_lt hj]⟩
theorem at_lt {m n i j : Nat} (hi : i < n) (hj : j < m) : i * m + j < n * m := by
  have : (i + 1) * m ≤ n * m := Nat.mul_le_mul_right m hi
  rw [Nat.add_mul] at this
  omega
/-- The cells of n elements of m cells each. -/
def ew (m n : Nat) (X : Nat → Nat → Value) : List Value := vl (n * m) (fun j => X (j / m) (j % m))
theorem ew_len (m n : Nat) (X : Nat → Nat → Value) : (ew m n X).length = n * m := vl_len _ _
theorem ew_at {m n : Nat} (X : Nat → Nat → Value) {i j : Nat} (hi : i < n) (hj : j < m) : (ew m n X)[i * m + j]? = some (X i j) := by
  unfold ew
  rw [vl_at _ _ (at_lt hi hj)]
  obtain ⟨h1, h2⟩ := at_div (i := i) hj
  simp only [h1, h2]
theorem vl_ext {n : Nat} {f g : Nat → Value} (h : ∀ j, j < n → f j = g j) : vl n f = vl n g := by
  unfold vl
  exact List.map_congr_left (fun j hj => h j (List.mem_range.1 hj))
theorem ew_eq {m n : Nat} {X Y : Nat → Nat → Value} (h : ∀ i j, i < n → j < m → X i j = Y i j) : ew m n X = ew m n Y := by
  unfold ew
  refine vl_ext fun j hj => ?_
  by_cases hm : m = 0
  · subst hm; simp at hj
  · exact h _ _ (Nat.div_lt_of_lt_mul (by rw [Nat.mul_comm]; exact hj)) (Nat.mod_lt _ (by omega))
/-- Another element, another cell, in its place. -/
def upe (X : Nat → Nat → Value) (i : Nat) (Y : Nat → Value) : Nat → Nat → Value := fun i' => if i' = i then Y else X i'
def upx (X : Nat → Nat → Value) (i j : Nat) (y : Value) : Nat → Nat → Value := fun i' j' => if i' = i ∧ j' = j then y else X i' j'
theorem vl_add (a b : Nat) (f : Nat → Value) : vl (a + b) f = vl a f ++ vl b (fun j => f (a + j)) := by
  unfold vl
  rw [List.range_add, List.map_append, List.map_map]
  rfl
theorem ew_snoc (m n : Nat) (X : Nat → Nat → Value) (Y : Nat → Value) : ew m n X ++ vl m Y = ew m (n + 1) (upe X n Y) := by
  have e1 : ew m n X = ew m n (upe X n Y) := ew_eq fun i j hi _ => by unfold upe; rw [if_neg (by omega)]
  rw [e1]
  unfold ew
  rw [Nat.add_mul, Nat.one_mul, vl_add]
  congr 1
  refine vl_ext fun j hj => ?_
  obtain ⟨h1, h2⟩ := at_div (i := n) hj
  simp only [h1, h2]
  unfold upe
  rw [if_pos rfl]
/-- A slice, and the same slice with less room behind it. -/
def Narrow (s' s : Value) : Prop := s' = s ∨ ∃ g n c c', s' = .slice (some ⟨g, 0, none⟩) n c' ∧ s = .slice (some ⟨g, 0, none⟩) n c ∧ n ≤ c ∧ c ≤ c'
/-- A list that owns its row: it may be told with less room than its row has. -/
def World.ownsC (w : World) (base : Nat) (e : TypeId) (m : Nat) (s : Value) (n : Nat) (xs : List Value) : Prop := ∃ s', Narrow s' s ∧ w.ownsRow base e m s' n xs
theorem own_c {w : World} {base : Nat} {e : TypeId} {m n : Nat} {s : Value} {xs : List Value} (h : w.ownsRow base e m s n xs) : World.ownsC w base e m s n xs := ⟨s, .inl rfl, h⟩
theorem Narrow.block {s' s : Value} (h : Narrow s' s) : s'.ownBlock = s.ownBlock := by
  rcases h with rfl | ⟨g, n, c, c', rfl, rfl, _⟩ <;> rfl
section
variable {w w' : World} {base : Nat} {e : TypeId} {m n g c : Nat} {s : Value} {xs : List Value}
theorem own_form (h : World.ownsC w base e m s n xs) : (s = .slice none 0 0 ∧ n = 0) ∨ ∃ g c c', s = .slice (some ⟨g, 0, none⟩) n c ∧ n ≤ c ∧ c ≤ c' ∧ c' ≤ maxLen ∧ w.ownsRow base e m (.slice (some ⟨g, 0, none⟩) n c') n xs := by
  obtain ⟨s', hN, h⟩ := h
  have h0 := h
  rcases h.2 with ⟨rfl, hn⟩ | ⟨g, cap, cur, rfl, _, _, h1, h2, _⟩
  · rcases hN with h | ⟨g, n', c, c', h, _⟩
    · exact .inl ⟨h.symm, hn⟩
    · cases h
  · rcases hN with hs | ⟨g', n', c, c', hs', rfl, h3, h4⟩
    · exact .inr ⟨g, cap, cap, hs.symm, h1, Nat.le_refl _, h2, h0⟩
    · cases hs'
      exact .inr ⟨g, c, cap, rfl, h3, h4, h2, h0⟩
theorem own_at (h : World.ownsC w base e m (.slice (some ⟨g, 0, none⟩) n c) n xs) : ∃ c', n ≤ c ∧ c ≤ c' ∧ c' ≤ maxLen ∧ w.ownsRow base e m (.slice (some ⟨g, 0, none⟩) n c') n xs := by
  rcases own_form h with ⟨h, _⟩ | ⟨g', c1, c', h, h1, h2, h3, h4⟩
  · cases h
  · cases h; exact ⟨c', h1, h2, h3, h4⟩
theorem own_less {c' : Nat} (h1 : n ≤ c) (h2 : c ≤ c') (h : w.ownsRow base e m (.slice (some ⟨g, 0, none⟩) n c') n xs) : World.ownsC w base e m (.slice (some ⟨g, 0, none⟩) n c) n xs :=
  ⟨_, .inr ⟨g, n, c, c', rfl, rfl, h1, h2⟩, h⟩
theorem World.ownsC.lt (h : World.ownsC w base e m s n xs) : ∀ k, s.ownBlock = some k → base ≤ k ∧ k < w.heap.size := by
  obtain ⟨s', hN, h⟩ := h
  intro k hk
  exact World.ownsRow.lt h k (by rw [hN.block]; exact hk)
theorem World.ownsC.cellAt (h : World.ownsC w base e m (.slice (some ⟨g, 0, none⟩) n c) n xs) (j : Nat) (hj : j < n * m) : w.cell? ⟨g, j, none⟩ = xs[j]? := by
  obtain ⟨c', _, _, _, h⟩ := own_at h
  exact World.ownsRow.cellAt h j hj
theorem World.ownsC.frozenAt (h : World.ownsC w base e m (.slice (some ⟨g, 0, none⟩) n c) n xs) (j : Nat) : w.frozen? ⟨g, j, none⟩ = false := by
  obtain ⟨c', _, _, _, h⟩ := own_at h
  exact World.ownsRow.frozenAt h j
theorem World.ownsC.stored (h : World.ownsC w base e m (.slice (some ⟨g, 0, none⟩) n c) n xs) (j : Nat) (u : Value) : World.ownsC (w.setCell ⟨g, j, none⟩ u) base e m (.slice (some ⟨g, 0, none⟩) n c) n (xs.set j u) := by
  obtain ⟨c', h1, h2, _, h⟩ := own_at h
  exact own_less h1 h2 (World.ownsRow.stored h j u).1
theorem World.ownsC.cells (h : World.ownsC w base e m s n xs) {g : Nat} (hg : s.ownBlock = some g) : ∀ j u, xs[j]? = some u → w.cell? ((⟨g, 0, none⟩ : Addr).add j) = some u := by
  obtain ⟨s', hN, h⟩ := h
  exact World.ownsRow.cells h (g := g) (by rw [hN.block]; exact hg)
theorem World.ownsC.drew (h : World.ownsC w base e m s n xs) : World.ownsC w.drew base e m s n xs := by
  obtain ⟨s', hN, h⟩ := h
  exact ⟨s', hN, World.ownsRow.drew h⟩
theorem cwn_chg {S : Nat → Prop} (h : World.ownsC w base e m s n xs) (k : Chg S w w') (hv : ∀ k, s.ownBlock = some k → ¬ S k) : World.ownsC w' base e m s n xs := by
  obtain ⟨s', hN, h⟩ := h
  exact ⟨s', hN, own_chg h k (fun b hb => hv b (by rw [← hN.block]; exact hb))⟩
theorem cwn_set (h : World.ownsC w base e m s n xs) {b o : Nat} (hb : s.ownBlock ≠ some b) (u : Value) : World.ownsC (w.setCell ⟨b, o, none⟩ u) base e m s n xs :=
  cwn_chg h (Chg.setCell (S := fun i => i = b) (Chg.refl _ w) (.inl rfl) u) (fun k hk e => hb (by rw [hk, e]))
theorem cwn_ext (h : World.ownsC w base e m s n xs) (k : Ext w w') : World.ownsC w' base e m s n xs := cwn_chg (S := fun _ => False) h (Chg.of k) (fun _ _ h => h)
theorem World.ownsC.alloc (h : World.ownsC w base e m s n xs) (o : Obj) : World.ownsC (w.alloc o) base e m s n xs := cwn_ext h ((Ext.refl w).alloc o)
theorem cwn_slice (h : World.ownsC w base e m s n xs) : ∃ a cap, s = .slice a n cap := by
  rcases own_form h with ⟨rfl, rfl⟩ | ⟨g, c, c', rfl, _⟩
  · exact ⟨none, 0, rfl⟩
  · exact ⟨_, c, rfl⟩
theorem cwn_len (h : World.ownsC w base e m s n xs) : xs.length = n * m := by
  obtain ⟨s', hN, h⟩ := h
  exact h.1
end
def Lst (w : World) (e : TypeId) (m : Nat) (s : Value) (n : Nat) (X : Nat → Nat → Value) : Prop := World.ownsC w 0 e m s n (ew m n X)
section
variable {w w' : World} {e : TypeId} {m n g c : Nat} {s : Value} {X : Nat → Nat → Value}
theorem Lst.of (h : w.ownsRow 0 e m s n (ew m n X)) : Lst w e m s n X := own_c h
theorem Lst.nil (w : World) (e : TypeId) (m : Nat) (X : Nat → Nat → Value) : Lst w e m (.slice none 0 0) 0 X := Lst.of ⟨by rw [ew_len], .inl ⟨rfl, rfl⟩⟩
theorem Lst.slice (h : Lst w e m s n X) : ∃ a c, s = .slice a n c := cwn_slice h
theorem Lst.form (h : Lst w e m s n X) (hn : 0 < n) : ∃ g c, s = .slice (some ⟨g, 0, none⟩) n c := by
  rcases own_form h with ⟨_, h0⟩ | ⟨g, cap, _, h1, _⟩
  · omega
  · exact ⟨g, cap, h1⟩
theorem Lst.lt (h : Lst w e m (.slice (some ⟨g, 0, none⟩) n c) n X) : g < w.heap.size := (World.ownsC.lt h g rfl).2
theorem Lst.cell (h : Lst w e m (.slice (some ⟨g, 0, none⟩) n c) n X) {i j : Nat} (hi : i < n) (hj : j < m) : w.cell? ⟨g, i * m + j, none⟩ = some (X i j) := by
  rw [World.ownsC.cellAt h _ (at_lt hi hj)]; exact ew_at X hi hj
theorem Lst.range (h : Lst w e m (.slice (some ⟨g, 0, none⟩) n c) n X) {i : Nat} (hi : i < n) : w.rangeAt g (i * m) (vl m (X i)) := fun j v hv => by
  have hj : j < m := by rw [← vl_len m (X i)]; exact (List.getElem?_eq_some_iff.1 hv).1
  rw [vl_at _ _ hj] at hv
  rw [h.cell hi hj, hv]
theorem Lst.there (h : Lst w e m (.slice (some ⟨g, 0, none⟩) n c) n X) {i : Nat} (hi : i < n) : w.there g (i * m) m := fun j hj => by
  rw [h.cell hi hj]
  exact ⟨rfl, World.ownsC.frozenAt h _⟩
theorem Lst.congr (h : Lst w e m s n X) {Y : Nat → Nat → Value} (hY : ∀ i j, i < n → j < m → X i j = Y i j) : Lst w e m s n Y := by
  unfold Lst at *
  rwa [← ew_eq hY]
theorem ew_set {i j : Nat} (hi : i < n) (hj : j < m) (y : Value) : (ew m n X).set (i * m + j) y = ew m n (upx X i j y) := by
  refine List.ext_getElem? fun k => ?_
  by_cases hk : k < n * m
  · have hm : 0 < m := by omega
    have hkk : k = k / m * m + k % m := by rw [Nat.mul_comm]; exact (Nat.div_add_mod k m).symm
    have hi' : k / m < n := Nat.div_lt_of_lt_mul (by rw [Nat.mul_comm]; exact hk)
    have hj' : k % m < m := Nat.mod_lt _ hm
    by_cases e : k = i * m + j
    · subst e
      rw [List.getElem?_set_self (by rw [ew_len]; exact hk), ew_at _ hi hj]
      unfold upx; rw [if_pos ⟨rfl, rfl⟩]
    · rw [List.getElem?_set_ne (fun h => e h.symm)]
      rw [hkk, ew_at _ hi' hj', ew_at _ hi' hj']
      unfold upx
      rw [if_neg (fun ⟨h1, h2⟩ => e (by rw [← h1, ← h2]; exact hkk))]
  · rw [List.getElem?_eq_none (by rw [List.length_set, ew_len]; omega), List.getElem?_eq_none (by rw [ew_len]; omega)]
theorem Lst.set (h : Lst w e m (.slice (some ⟨g, 0, none⟩) n c) n X) {i j : Nat} (hi : i < n) (hj : j < m) (y : Value) : Lst (w.setCell ⟨g, i * m + j, none⟩ y) e m (.slice (some ⟨g, 0, none⟩) n c) n (upx X i j y) := by
  have := World.ownsC.stored h (i * m + j) y
  rw [ew_set hi hj] at this
  exact this
theorem Lst.storeFrom {i : Nat} (hi : i < n) (Y : Nat → Value) : ∀ (k j : Nat) {w : World} {X : Nat → Nat → Value} (h : Lst w e m (.slice (some ⟨g, 0, none⟩) n c) n X), j + k ≤ m →
    Lst (w.setCells g (i * m + j) (vl k (fun t => Y (j + t)))) e m (.slice (some ⟨g, 0, none⟩) n c) n (fun i' j' => if i' = i ∧ j ≤ j' ∧ j' < j + k then Y j' else X i' j') := by
  intro k
  induction k with
  | zero => intro j w X h _; exact h.congr fun i' j' _ _ => by rw [if_neg (by omega)]
  | succ k ih =>
    intro j w X h hk
    have e0 : vl (k + 1) (fun t => Y (j + t)) = Y j :: vl k (fun t => Y (j + 1 + t)) := by
      rw [Nat.add_comm k 1, vl_add]
      show [Y (j + 0)] ++ vl k _ = _
      rw [Nat.add_zero, List.singleton_append]
      congr 1
      exact vl_ext fun t _ => by rw [show j + (1 + t) = j + 1 + t by omega]
    rw [e0, World.setCells]
    have h1 := h.set hi (show j < m by omega) (Y j)
    have h2 := ih (j + 1) h1 (by omega)
    rw [show i * m + j + 1 = i * m + (j + 1) by omega]
    refine h2.congr fun i' j' _ _ => ?_
    unfold upx
    by_cases e1 : i' = i
    · subst e1
      by_cases e2 : j' = j
      · subst e2
        rw [if_neg (by omega), if_pos ⟨rfl, rfl⟩, if_pos (by omega)]
      · by_cases e3 : j + 1 ≤ j' ∧ j' < j + 1 + k
        · rw [if_pos ⟨rfl, e3⟩, if_pos (by omega)]
        · rw [if_neg (fun h => e3 h.2), if_neg (fun h => e2 h.2), if_neg (by omega)]
    · rw [if_neg (fun h => e1 h.1), if_neg (fun h => e1 h.1), if_neg (fun h => e1 h.1)]
theorem Lst.store (h : Lst w e m (.slice (some ⟨g, 0, none⟩) n c) n X) {i : Nat} (hi : i < n) (Y : Nat → Value) : Lst (w.setCells g (i * m) (vl m Y)) e m (.slice (some ⟨g, 0, none⟩) n c) n (upe X i Y) := by
  have h1 := Lst.storeFrom hi Y m 0 h (by omega)
  rw [Nat.add_zero, vl_ext (g := Y) (fun t _ => by rw [Nat.zero_add])] at h1
  refine h1.congr fun i' j' _ hj => ?_
  unfold upe
  by_cases e1 : i' = i
  · rw [if_pos ⟨e1, by omega⟩, if_pos e1]
  · rw [if_neg (fun h => e1 h.1), if_neg e1]
theorem Lst.chg {S : Nat → Prop} (h : Lst w e m s n X) (k : Chg S w w') (hS : ∀ b, s.ownBlock = some b → ¬ S b) : Lst w' e m s n X := cwn_chg h k hS
theorem Lst.later (h : Lst w e m s n X) (k : Ext w w') : Lst w' e m s n X := cwn_ext h k
theorem Lst.drew (h : Lst w e m s n X) : Lst w.drew e m s n X := World.ownsC.drew h
theorem Lst.skip (h : Lst w e m s n X) {b o : Nat} (hb : s.ownBlock ≠ some b) (u : Value) : Lst (w.setCell ⟨b, o, none⟩ u) e m s n X := cwn_set h hb u
theorem Lst.skips (h : Lst w e m s n X) {b : Nat} (hb : s.ownBlock ≠ some b) : ∀ (vs : List Value) (o : Nat), Lst (w.setCells b o vs) e m s n X := by
  intro vs
  induction vs generalizing w with
  | nil => intro o; exact h
  | cons v vs ih => intro o; exact ih (h.skip hb v) (o + 1)
end
end Go.Proofs.YthlhmfjopjikpaaDoor
