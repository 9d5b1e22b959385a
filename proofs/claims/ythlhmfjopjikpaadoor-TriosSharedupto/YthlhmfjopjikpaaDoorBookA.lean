/- The given book of lists, over lists of any elements: what is known of it at each stage. -/
import Derived.Test.YthlhmfjopjikpaaDoorListA
import Derived.ArgAppend
import Derived.OwnWalk
namespace Go.Proofs.YthlhmfjopjikpaaDoor
open Go.RowKit Go.BigFrame
set_option linter.unusedSimpArgs false
set_option linter.unusedVariables false
/-- append to a list that owns its row, whatever room it has: in its row where there is room, else in a new one, with the old one left as it was. -/
theorem wpList_append_lst {P : Program} (w : World) {ops : Array Oper} {rest : List Oper} {o : Oper} {a : Act} {Q : Exit → Act → World → Prop}
    (hg : o.guard = none) (s x : Operand) (t : TypeId) (hop : o.op = Op.call { callee := Callee.builtin Builtin.append, args := #[s, x], argTypes := #[t, t] })
    (e : TypeId) (i : TypeInfo) (z : Value) (size bytes : Nat) (h1 : P.underlying t = some (.slice e)) (h2 : P.info? e = some i) (h3 : i.zero = some z) (h4 : i.size = size) (h5 : i.bytes = bytes) (h6 : z.cells.size = size) (h7 : 0 < size)
    (v : Value) (n : Nat) (xs : List Value) (hs : a.eval s = v) (hown : World.ownsC w 0 e size v n xs)
    (ad : Addr) (m c : Nat) (news : List Value) (hx : a.eval x = .slice (some ad) m c) (hn : news.length = m * size) (hc : ∀ j u, news[j]? = some u → w.cell? (ad.add j) = some u) (h1c : ∀ u ∈ news, u.oneCell' = true) (hm : 0 < m) (b1 : n + m ≤ maxLen) (b2 : (n + m) * bytes ≤ 140737488355328)
    (hK : ∀ g cap w', World.ownsC w' 0 e size (.slice (some ⟨g, 0, none⟩) (n + m) cap) (n + m) (xs ++ news) → ((v = .slice (some ⟨g, 0, none⟩) n cap ∧ w.grownBy w' (some g)) ∨ (w.heap.size ≤ g ∧ w.grownBy w' none)) → wpList P ops Q rest (a.put o.dst (.slice (some ⟨g, 0, none⟩) (n + m) cap)) w') :
    wpList P ops Q (o :: rest) a w := by
  have grows : ∀ (ao : Option Addr) (cap : Nat), v = .slice ao n cap → (ao = none → n = 0 ∧ cap = 0) → xs.length = n * size → (∀ b, ao = some b → ∀ j u, xs[j]? = some u → w.cell? (b.add j) = some u) → cap < n + m → wpList P ops Q (o :: rest) a w := by
    intro ao cap hv hnone hl hcells hfull
    refine wpList_append_grows w hg s x t hop e i z size bytes h1 h2 h3 h4 h5 h6 h7 ao n cap xs (by rw [hs, hv]) hnone hl hcells ad m c news hx hn hc h1c hfull b1 b2 ?_
    intro v' w' hown' hgrow
    obtain ⟨g, cap', rfl, hb, _⟩ := hown'.form (by omega)
    exact hK g cap' w' (own_c ⟨hown'.1, hown'.2.imp id fun ⟨g, c, cur, e1, _, r⟩ => ⟨g, c, cur, e1, Nat.zero_le _, r⟩⟩) (.inr ⟨hb, hgrow⟩)
  have hxl := cwn_len hown
  rcases own_form hown with ⟨hv, rfl⟩ | ⟨g, cap, c', hv, hnc, hcc, hcm, hown'⟩
  · exact grows none 0 hv (fun _ => ⟨rfl, rfl⟩) hxl (fun b hb => by cases hb) (by omega)
  · by_cases hfit : n + m ≤ cap
    · obtain ⟨_, h0 | ⟨g', cap', cur, hv', hb, hg', hn', hm', hsz, ht⟩⟩ := hown'
      · cases h0.1
      · cases hv'
        subst h4
        have hlen : (xs ++ news).length = (n + m) * i.size := by rw [List.length_append, hxl, hn, Nat.add_mul]
        have hf2 : n * i.size + news.length ≤ cur.size := by rw [hn, hsz, ← Nat.add_mul]; exact Nat.mul_le_mul_right _ (by omega)
        refine wpList_plain hg fun K hK' => ?_
        have hrun := run_append_room (P := P) w t o.type e i h1 h2 g n cap cur hg' ad m c news hn hc h1c hfit hf2
        unfold Oper.wp
        simp [execOp, hop, resolve, invoke, builtin, hs, hv, hx, hrun, Result.andThen]
        refine hK' _ _ (hK g cap _ (own_less (c' := c') hfit (by omega) ⟨hlen, .inr ⟨g, c', _, rfl, hb, setRow_heap w g cur _ e _ hg', by omega, hm', ?_, ?_⟩⟩) (.inl ⟨hv, rfl, rfl, rfl, by simp, fun k _ hk => setRow_other w g k _ (fun e => hk (by simp [e]))⟩))
        · simp only [List.size_toArray, List.length_append, List.length_take, List.length_drop, Array.length_toList]
          omega
        · rw [ht, ← hlen, ← List.append_assoc]
          exact List.take_left
    · refine grows (some ⟨g, 0, none⟩) cap hv (fun h => by cases h) hxl (fun b hb' j u hu => ?_) (by omega)
      cases hb'
      subst hv
      exact hown.cells rfl j u hu
section
variable {w w' : World} {e : TypeId} {m n g c : Nat} {s : Value} {X : Nat → Nat → Value}
theorem ew_take {k : Nat} (hk : k ≤ n) : (ew m n X).take (k * m) = ew m k X := by
  have h : k * m ≤ n * m := Nat.mul_le_mul_right m hk
  refine List.ext_getElem? fun j => ?_
  by_cases hj : j < k * m
  · rw [List.getElem?_take_of_lt hj]
    unfold ew
    rw [vl_at _ _ hj, vl_at _ _ (by omega)]
  · rw [List.getElem?_eq_none (by rw [List.length_take, ew_len]; omega), List.getElem?_eq_none (by rw [ew_len]; omega)]
/-- The beginning of a list. -/
theorem Lst.take {k : Nat} (h : Lst w e m (.slice (some ⟨g, 0, none⟩) n c) n X) (hk : k ≤ n) : Lst w e m (.slice (some ⟨g, 0, none⟩) k c) k X := by
  have hkm : k * m ≤ n * m := Nat.mul_le_mul_right m hk
  obtain ⟨c', h1, h2, h3, h⟩ := own_at h
  refine own_less (c' := c') (by omega) h2 ⟨ew_len _ _ _, .inr ?_⟩
  rcases h.2 with ⟨hv, _⟩ | ⟨g', cap, cur, hv, hb, hcur, hnc, hcm, hcs, ht⟩
  · cases hv
  · cases hv
    refine ⟨g, c', cur, rfl, hb, hcur, by omega, hcm, hcs, ?_⟩
    rw [← ew_take hk, ← ht, List.take_take, Nat.min_eq_left hkm]
/-- The same list with less room. -/
theorem Lst.clip {c1 : Nat} (h : Lst w e m (.slice (some ⟨g, 0, none⟩) n c) n X) (h1 : n ≤ c1) (h2 : c1 ≤ c) : Lst w e m (.slice (some ⟨g, 0, none⟩) n c1) n X := by
  obtain ⟨c', h3, h4, h5, h⟩ := own_at h
  exact own_less h1 (by omega) h
theorem Lst.snoc {Y : Nat → Value} (h : World.ownsC w 0 e m s (n + 1) (ew m n X ++ vl m Y)) : Lst w e m s (n + 1) (upe X n Y) := by
  rw [ew_snoc] at h; exact h
theorem Lst.same {Y : Nat → Value} (h : Lst w e m s (n + 1) (upe X n Y)) (hX : ∀ i j, i < n → j < m → X i j = Y j) : Lst w e m s (n + 1) (fun _ => Y) :=
  h.congr fun i j hi hj => by
    unfold upe
    by_cases e : i = n
    · rw [if_pos e]
    · rw [if_neg e]; exact hX i j (by omega) hj
theorem Lst.len (h : Lst w e m (.slice (some ⟨g, 0, none⟩) n c) n X) : n ≤ c ∧ c ≤ maxLen := by
  obtain ⟨c', h1, h2, h3, _⟩ := own_at h
  exact ⟨h1, by omega⟩
theorem Lst.heap (h : Lst w e m s n X) {b : Nat} (hb : s.ownBlock = some b) : b < w.heap.size := (World.ownsC.lt h b hb).2
end
/-- A kind of lists: the elements' type, the strips' type, cells of an element, its mark. -/
structure Kp where
  e : TypeId
  te : TypeId
  m : Nat
  mark : Nat → Nat → Value
/-- The lists of one kind in a book: the slice of strips, how many, the lists, their lengths, their marks' numbers. -/
structure Kd where
  u : Value
  c : Nat
  S : Nat → Value
  L : Nat → Nat
  N : Nat → Nat
/-- A strip's cells. -/
def sc (S J : Nat → Value) (M : Nat → Nat → Value) (i j : Nat) : Value := if j = 0 then S i else if j = 1 then J i else M i (j - 2)
theorem sc0 (S J : Nat → Value) (M : Nat → Nat → Value) (i : Nat) : sc S J M i 0 = S i := rfl
theorem sc1 (S J : Nat → Value) (M : Nat → Nat → Value) (i : Nat) : sc S J M i 1 = J i := rfl
theorem sc2 (S J : Nat → Value) (M : Nat → Nat → Value) (i j : Nat) : sc S J M i (j + 2) = M i j := by unfold sc; rw [if_neg (by omega), if_neg (by omega)]; rfl
def none3 (_ : Nat) : Value := .slice none 0 0
/-- The strips of a kind, with the long lists J. -/
def Strips (p : Kp) (D : Kd) (J : Nat → Value) (v : World) : Prop := Lst v p.te (p.m + 2) D.u D.c (sc D.S J (fun i => p.mark (D.N i)))
/-- What holds of a kind's lists whatever they hold. -/
structure Sound (D : Kd) : Prop where
  inj : ∀ i j b, i < D.c → j < D.c → (D.S i).ownBlock = some b → (D.S j).ownBlock = some b → i = j
  nu : ∀ i b, i < D.c → D.u.ownBlock = some b → (D.S i).ownBlock ≠ some b
  len : ∀ i, i < D.c → D.L i ≤ 100000
  num : ∀ i, i < D.c → D.N i ≤ 250
  few : D.c ≤ 200
def Raw (p : Kp) (D : Kd) (v : World) : Prop := Strips p D none3 v ∧ ∀ i, i < D.c → ∃ X, Lst v p.e p.m (D.S i) (D.L i) X
def Fld (p : Kp) (D : Kd) (v : World) : Prop := Strips p D none3 v ∧ ∀ i, i < D.c → Lst v p.e p.m (D.S i) (D.L i) (fun _ => p.mark (D.N i))
def Grn (p : Kp) (D : Kd) (H : Nat) (v : World) : Prop := ∃ J, Strips p D J v ∧ ∀ i, i < D.c → Lst v p.e p.m (D.S i) (D.L i) (fun _ => p.mark (D.N i)) ∧ Lst v p.e p.m (J i) (D.L i + 24) (fun _ => p.mark (D.N i)) ∧ ∀ b, (J i).ownBlock = some b → (D.S i).ownBlock = some b ∨ H ≤ b
/-- The blocks of a kind's lists; with the strips. -/
def LB (D : Kd) (b : Nat) : Prop := ∃ i, i < D.c ∧ (D.S i).ownBlock = some b
def KB (D : Kd) (b : Nat) : Prop := D.u.ownBlock = some b ∨ LB D b
theorem Raw.lt {p : Kp} {D : Kd} {v : World} (h : Raw p D v) : ∀ b, KB D b → b < v.heap.size := by
  rintro b (hb | ⟨i, hi, hb⟩)
  · exact h.1.heap hb
  · obtain ⟨X, hX⟩ := h.2 i hi; exact hX.heap hb
theorem Raw.chg {p : Kp} {D : Kd} {v v' : World} {T : Nat → Prop} (h : Raw p D v) (k : Chg T v v') (hT : ∀ b, KB D b → ¬ T b) : Raw p D v' :=
  ⟨Lst.chg h.1 k (fun b hb => hT b (.inl hb)), fun i hi => by obtain ⟨X, hX⟩ := h.2 i hi; exact ⟨X, hX.chg k (fun b hb => hT b (.inr ⟨i, hi, hb⟩))⟩⟩
theorem Fld.chg {p : Kp} {D : Kd} {v v' : World} {T : Nat → Prop} (h : Fld p D v) (k : Chg T v v') (hT : ∀ b, KB D b → ¬ T b) : Fld p D v' :=
  ⟨Lst.chg h.1 k (fun b hb => hT b (.inl hb)), fun i hi => (h.2 i hi).chg k (fun b hb => hT b (.inr ⟨i, hi, hb⟩))⟩
theorem Grn.chg {p : Kp} {D : Kd} {H : Nat} {v v' : World} {T : Nat → Prop} (h : Grn p D H v) (k : Chg T v v') (hT : ∀ b, KB D b ∨ H ≤ b → ¬ T b) : Grn p D H v' := by
  obtain ⟨J, h1, h2⟩ := h
  refine ⟨J, Lst.chg h1 k (fun b hb => hT b (.inl (.inl hb))), fun i hi => ?_⟩
  obtain ⟨a1, a2, a3⟩ := h2 i hi
  refine ⟨a1.chg k (fun b hb => hT b (.inl (.inr ⟨i, hi, hb⟩))), a2.chg k (fun b hb => hT b ?_), a3⟩
  rcases a3 b hb with h | h
  · exact .inl (.inr ⟨i, hi, h⟩)
  · exact .inr h
/-- The lists ahead of i are filled, of the list i the first kk elements. -/
def Fil (p : Kp) (D : Kd) (w v : World) (i kk : Nat) : Prop :=
  Chg (LB D) w v ∧ ∀ j, j < D.c → ∃ X, Lst v p.e p.m (D.S j) (D.L j) X ∧ ∀ k, k < D.L j → (j < i ∨ (j = i ∧ k < kk)) → ∀ t, t < p.m → X k t = p.mark (D.N j) t
theorem Fil.start {p : Kp} {D : Kd} {w : World} (h : Raw p D w) : Fil p D w w 0 0 :=
  ⟨Chg.refl _ _, fun j hj => by obtain ⟨X, hX⟩ := h.2 j hj; exact ⟨X, hX, fun k _ hc => by omega⟩⟩
theorem Fil.next {p : Kp} {D : Kd} {w v : World} {i : Nat} (h : Fil p D w v i (D.L i)) : Fil p D w v (i + 1) 0 :=
  ⟨h.1, fun j hj => by
    obtain ⟨f, h1, h2⟩ := h.2 j hj
    refine ⟨f, h1, fun k hk hc => h2 k hk ?_⟩
    by_cases e : j = i
    · subst e; exact .inr ⟨rfl, hk⟩
    · left; omega⟩
theorem Fil.drew {p : Kp} {D : Kd} {w v : World} {i kk : Nat} (h : Fil p D w v i kk) : Fil p D w v.drew i kk := ⟨h.1.drew, h.2⟩
theorem Fil.done {p : Kp} {D : Kd} {w v : World} (hs : Sound D) (r : Raw p D w) (h : Fil p D w v D.c 0) : Chg (LB D) w v ∧ Fld p D v :=
  ⟨h.1, Lst.chg r.1 h.1 (fun b hb ⟨i, hi, h'⟩ => hs.nu i b hi hb h'), fun i hi => by
    obtain ⟨X, h1, h2⟩ := h.2 i hi
    exact h1.congr fun k t hk ht => h2 k hk (.inl hi) t ht⟩
theorem Chg.cells {S : Nat → Prop} {a w : World} (h : Chg S a w) {b : Nat} (hb : S b ∨ a.heap.size ≤ b) : ∀ (vs : List Value) (o : Nat), Chg S a (w.setCells b o vs) := by
  intro vs
  induction vs generalizing w with
  | nil => intro o; exact h
  | cons v vs ih => intro o; exact ih (h.setCell hb v) (o + 1)
/-- One element more is filled. -/
theorem Fil.cells {p : Kp} {D : Kd} (hs : Sound D) {w v : World} {i kk g cap : Nat} (hi : i < D.c) (hS : D.S i = .slice (some ⟨g, 0, none⟩) (D.L i) cap) (hk : kk < D.L i) (h : Fil p D w v i kk) : Fil p D w (v.setCells g (kk * p.m) (vl p.m (p.mark (D.N i)))) i (kk + 1) :=
  ⟨h.1.cells (.inl ⟨i, hi, by rw [hS]; rfl⟩) _ _, fun j hj => by
    obtain ⟨X, h1, h2⟩ := h.2 j hj
    by_cases e : j = i
    · subst e
      rw [hS] at h1 ⊢
      refine ⟨_, h1.store hk (p.mark (D.N j)), fun k hkl hc t ht => ?_⟩
      unfold upe
      by_cases ek : k = kk
      · rw [if_pos ek]
      · rw [if_neg ek]; exact h2 k hkl (by omega) t ht
    · exact ⟨X, h1.skips (fun hb => e (hs.inj j i g hj hi hb (by rw [hS]; rfl))) _ _, fun k hkl hc => h2 k hkl (by omega)⟩⟩
theorem Fil.cell {p : Kp} {D : Kd} (hs : Sound D) {w v : World} {i kk g cap : Nat} (h1 : p.m = 1) (hi : i < D.c) (hS : D.S i = .slice (some ⟨g, 0, none⟩) (D.L i) cap) (hk : kk < D.L i) (h : Fil p D w v i kk) : Fil p D w (v.setCell ⟨g, kk, none⟩ (p.mark (D.N i) 0)) i (kk + 1) := by
  have := h.cells hs hi hS hk
  rw [h1, Nat.mul_one] at this
  exact this
def upJ (J : Nat → Value) (i : Nat) (X : Value) (j : Nat) : Value := if j = i then X else J j
theorem upJ_self (J : Nat → Value) (i : Nat) (X : Value) : upJ J i X i = X := if_pos rfl
theorem upJ_twice (J : Nat → Value) (i : Nat) (X Y : Value) : upJ (upJ J i X) i Y = upJ J i Y := by funext j; unfold upJ; split <;> rfl
/-- Another long list in its strip. -/
theorem Strips.long {p : Kp} {D : Kd} {J : Nat → Value} {v : World} {g cap i : Nat} (h : Strips p D J v) (hu : D.u = .slice (some ⟨g, 0, none⟩) D.c cap) (hi : i < D.c) (X : Value) : Strips p D (upJ J i X) (v.setCell ⟨g, i * (p.m + 2) + 1, none⟩ X) := by
  unfold Strips at *
  rw [hu] at h ⊢
  refine (h.set hi (show 1 < p.m + 2 by omega) X).congr fun i' j' hi' hj' => ?_
  unfold upx sc upJ
  by_cases e1 : i' = i
  · by_cases e2 : j' = 1
    · rw [if_pos ⟨e1, e2⟩, if_neg (by omega), if_pos e2, if_pos e1]
    · rw [if_neg (fun h => e2 h.2)]
      by_cases e3 : j' = 0
      · rw [if_pos e3, if_pos e3]
      · rw [if_neg e3, if_neg e3, if_neg e2, if_neg e2]
  · rw [if_neg (fun h => e1 h.1), if_neg e1]
/-- The list i is under way: k marks are behind it. v0: the world ahead of them. -/
structure Way (p : Kp) (D : Kd) (i : Nat) (H : Nat) (v : World) (X : Value) (k : Nat) : Prop where
  short : Lst v p.e p.m (D.S i) (D.L i) (fun _ => p.mark (D.N i))
  long : Lst v p.e p.m X (D.L i + k) (fun _ => p.mark (D.N i))
  at_ : ∀ b, X.ownBlock = some b → (D.S i).ownBlock = some b ∨ H ≤ b
  cap : ∀ g n c n' c', D.S i = .slice (some ⟨g, 0, none⟩) n c → X = .slice (some ⟨g, 0, none⟩) n' c' → c = c'
theorem Way.start {p : Kp} {D : Kd} {i H : Nat} {v : World} (h : Lst v p.e p.m (D.S i) (D.L i) (fun _ => p.mark (D.N i))) : Way p D i H v (D.S i) 0 := ⟨h, h, fun b hb => .inl hb, fun g n c n' c' h1 h2 => by rw [h1] at h2; cases h2; rfl⟩
theorem Way.chg {p : Kp} {D : Kd} {i H : Nat} {v v' : World} {X : Value} {k : Nat} {T : Nat → Prop} (h : Way p D i H v X k) (c : Chg T v v') (hT : ∀ b, (D.S i).ownBlock = some b ∨ H ≤ b → ¬ T b) : Way p D i H v' X k :=
  ⟨h.short.chg c (fun b hb => hT b (.inl hb)), h.long.chg c (fun b hb => hT b (h.at_ b hb)), h.at_, h.cap⟩
/-- One mark more. -/
theorem Way.add {p : Kp} {D : Kd} {i H : Nat} {v v' : World} {X : Value} {k g cap : Nat} (hm : 0 < p.m) (h : Way p D i H v X k) (hH : H ≤ v.heap.size) (own : World.ownsC v' 0 p.e p.m (.slice (some ⟨g, 0, none⟩) (D.L i + k + 1) cap) (D.L i + k + 1) (ew p.m (D.L i + k) (fun _ => p.mark (D.N i)) ++ vl p.m (p.mark (D.N i))))
    (hat : (X = .slice (some ⟨g, 0, none⟩) (D.L i + k) cap ∧ v.grownBy v' (some g)) ∨ (v.heap.size ≤ g ∧ v.grownBy v' none)) : Way p D i H v' (.slice (some ⟨g, 0, none⟩) (D.L i + k + 1) cap) (k + 1) := by
  have L1 : Lst v' p.e p.m (.slice (some ⟨g, 0, none⟩) (D.L i + k + 1) cap) (D.L i + (k + 1)) (fun _ => p.mark (D.N i)) := (Lst.snoc own).same fun _ _ _ _ => rfl
  refine ⟨?_, L1, fun b hb => ?_, fun g1 n1 c1 n2 c2 e1 e2 => ?_⟩
  · rcases hat with ⟨hX, hgr⟩ | ⟨hg, hgr⟩
    · by_cases hb : (D.S i).ownBlock = some g
      · rcases own_form h.short with ⟨hs, _⟩ | ⟨g1, c, c', hs, _⟩
        · rw [hs] at hb; cases hb
        · rw [hs] at hb
          cases hb
          have hc := h.cap _ _ c _ _ hs hX
          subst hc
          rw [hs]
          exact L1.take (by omega)
      · exact h.short.chg (Chg.grown hgr (S := fun b => b = g) (fun k e => (Option.some.inj e).symm)) (fun b hb' e => hb (by rw [hb', e]))
    · exact h.short.chg (Chg.grown hgr (S := fun _ => False) (fun k e => by cases e)) (fun _ _ h => h)
  · simp only [Value.ownBlock, Option.some.injEq] at hb
    subst hb
    rcases hat with ⟨hX, _⟩ | ⟨hg, _⟩
    · exact h.at_ _ (by rw [hX]; rfl)
    · exact .inr (by omega)
  · cases e2
    rcases hat with ⟨hX, _⟩ | ⟨hg, _⟩
    · exact h.cap _ _ c1 _ _ e1 hX
    · have : g < v.heap.size := h.short.heap (by rw [e1]; rfl)
      omega
end Go.Proofs.YthlhmfjopjikpaaDoor
