/- Triangles of vertices, in plain words: what the chapter says of vertices of type 4 (one by one) and of type 5 (in rows). -/
import Derived.Test.YthlhmfjopjikpaaDoorRecV
namespace Go.Proofs.YthlhmfjopjikpaaDoor
open Go.RowKit Go.BigFrame
set_option linter.unusedSimpArgs false
set_option linter.unusedVariables false
/-- A vertex without its flag. -/
def bare (R : Rcd) : Rcd := ⟨0, R.x, R.y, R.c⟩
/-- A triangle: its vertices (their flags are told nowhere). -/
structure T3 where
  a : Rcd
  b : Rcd
  c : Rcd
def zrec : Rcd := ⟨0, 0, 0, fun _ => 0⟩
def z3 : T3 := ⟨zrec, zrec, zrec⟩
/-- Its cells. -/
def tv (t : T3) (i : Nat) : Value := if i < 7 then rv (bare t.a) i else if i < 14 then rv (bare t.b) (i - 7) else rv (bare t.c) (i - 14)
/-- Three vertices' cells, one behind the other. -/
def tri21 (f g h : Nat → Value) (i : Nat) : Value := if i < 7 then f i else if i < 14 then g (i - 7) else h (i - 14)
theorem tri21_list (f g h : Nat → Value) : vl 21 (tri21 f g h) = [f 0, f 1, f 2, f 3, f 4, f 5, f 6, g 0, g 1, g 2, g 3, g 4, g 5, g 6, h 0, h 1, h 2, h 3, h 4, h 5, h 6] := rfl
theorem tri21_one {f g h : Nat → Value} (h0 : ∀ u ∈ [f 0, f 1, f 2, f 3, f 4, f 5, f 6], u.oneCell' = true) (h1 : ∀ u ∈ [g 0, g 1, g 2, g 3, g 4, g 5, g 6], u.oneCell' = true) (h2 : ∀ u ∈ [h 0, h 1, h 2, h 3, h 4, h 5, h 6], u.oneCell' = true) :
    ∀ u ∈ [f 0, f 1, f 2, f 3, f 4, f 5, f 6, g 0, g 1, g 2, g 3, g 4, g 5, g 6, h 0, h 1, h 2, h 3, h 4, h 5, h 6], u.oneCell' = true := fun u hu => by
  have e : [f 0, f 1, f 2, f 3, f 4, f 5, f 6, g 0, g 1, g 2, g 3, g 4, g 5, g 6, h 0, h 1, h 2, h 3, h 4, h 5, h 6] = [f 0, f 1, f 2, f 3, f 4, f 5, f 6] ++ ([g 0, g 1, g 2, g 3, g 4, g 5, g 6] ++ [h 0, h 1, h 2, h 3, h 4, h 5, h 6]) := rfl
  rw [e, List.mem_append, List.mem_append] at hu
  rcases hu with hu | hu | hu
  · exact h0 u hu
  · exact h1 u hu
  · exact h2 u hu
theorem tv_tri (t : T3) : tv t = tri21 (rv (bare t.a)) (rv (bare t.b)) (rv (bare t.c)) := rfl
theorem tv_vl (t : T3) : vl 21 (tv t) = vl 7 (rv (bare t.a)) ++ vl 7 (rv (bare t.b)) ++ vl 7 (rv (bare t.c)) := rfl
theorem tv_range {v : World} {b : Nat} {t : T3} (B : Vm v b 21 (tv t)) : v.rangeAt b 0 (vl 7 (rv (bare t.a))) ∧ v.rangeAt b 7 (vl 7 (rv (bare t.b))) ∧ v.rangeAt b 14 (vl 7 (rv (bare t.c))) := by
  have key : ∀ (k : Nat) (f : Nat → Value), k + 7 ≤ 21 → (∀ j, j < 7 → tv t (k + j) = f j) → v.rangeAt b k (vl 7 f) := fun k f hk hf j u hu => by
    have hj : j < 7 := by rw [← vl_len 7 f]; exact (List.getElem?_eq_some_iff.1 hu).1
    rw [vl_at _ _ hj] at hu
    rw [← hu, ← hf j hj]
    exact B.dg (k + j) (by omega)
  refine ⟨key 0 _ (by omega) fun j hj => ?_, key 7 _ (by omega) fun j hj => ?_, key 14 _ (by omega) fun j hj => ?_⟩
  · unfold tv; rw [if_pos (by omega), Nat.zero_add]
  · unfold tv; rw [if_neg (by omega), if_pos (by omega), Nat.add_sub_cancel_left]
  · unfold tv; rw [if_neg (by omega), if_neg (by omega), Nat.add_sub_cancel_left]
theorem tv_one (t : T3) : ∀ u ∈ vl 21 (tv t), u.oneCell' = true := tri21_one (rv_one _) (rv_one _) (rv_one _)
theorem size_tri21 : (Tryd.prog.info? 65).map (·.size) = some 21 := by kernel_rfl
/-- Vertices from i on, so many. -/
def ql (Q : Nat → Rcd) : Nat → Nat → List Rcd
  | _, 0 => []
  | i, n + 1 => Q i :: ql Q (i + 1) n
theorem ql_len (Q : Nat → Rcd) : ∀ n i, (ql Q i n).length = n
  | 0, _ => rfl
  | n + 1, i => by rw [ql, List.length_cons, ql_len Q n]
theorem ql_at (Q : Nat → Rcd) : ∀ n i j, j < n → (ql Q i n)[j]? = some (Q (i + j))
  | n + 1, i, 0, _ => rfl
  | n + 1, i, j + 1, h => by rw [ql, List.getElem?_cons_succ, ql_at Q n (i + 1) j (by omega)]; congr 2; omega
theorem ql_add (Q : Nat → Rcd) : ∀ m n i, ql Q i (m + n) = ql Q i m ++ ql Q (i + m) n
  | 0, n, i => by rw [Nat.zero_add]; rfl
  | m + 1, n, i => by rw [show m + 1 + n = (m + n) + 1 by omega, ql, ql, ql_add Q m n (i + 1), List.cons_append]; congr 3; omega
theorem ql_congr {Q R : Nat → Rcd} : ∀ {n i k : Nat}, (∀ j, j < n → Q (i + j) = R (k + j)) → ql Q i n = ql R k n
  | 0, _, _, _ => rfl
  | n + 1, i, k, h => by
    rw [ql, ql, ql_congr (n := n) (i := i + 1) (k := k + 1) (fun j hj => by have := h (j + 1) (by omega); rw [show i + 1 + j = i + (j + 1) by omega, show k + 1 + j = k + (j + 1) by omega]; exact this)]
    have := h 0 (by omega)
    rw [Nat.add_zero, Nat.add_zero] at this
    rw [this]
/-- The triangle that goes on. -/
def next3 (t : T3) (v : Rcd) : T3 := ⟨if v.f = 1 then t.b else t.a, t.c, v⟩
/-- Triangles ahead of an answer (an error, and the triangles). -/
def pre (O : List T3) (r : Int × List T3) : Int × List T3 := if r.1 = 0 then (0, O ++ r.2) else (r.1, [])
theorem pre_err (O : List T3) {x : Int} (h : x ≠ 0) : pre O (x, []) = (x, []) := by unfold pre; rw [if_neg h]
theorem pre_ok (O P : List T3) : pre O (0, P) = (0, O ++ P) := rfl
theorem pre_pre (O P : List T3) (r : Int × List T3) : pre O (pre P r) = pre (O ++ P) r := by
  unfold pre
  by_cases h : r.1 = 0
  · rw [if_pos h, if_pos rfl, if_pos h, List.append_assoc]
  · rw [if_neg h, if_neg h, if_neg h]
theorem pre_fst (O : List T3) (r : Int × List T3) : (pre O r).1 = r.1 := by
  unfold pre
  split
  · rename_i h; exact h.symm
  · rfl
/-- Of type 4: what follows the triangle l (none: nothing is ahead). -/
def chL : Option T3 → List Rcd → Int × List T3
  | _, [] => (0, [])
  | l, v :: r =>
    if v.f = 0 then
      match r with
      | b :: c :: r' => pre [⟨v, b, c⟩] (chL (some ⟨v, b, c⟩) r')
      | _ => (5, [])
    else
      match l with
      | none => (6, [])
      | some t => if 2 < v.f then (7, []) else pre [next3 t v] (chL (some (next3 t v)) r)
theorem chL_nil (l : Option T3) : chL l [] = (0, []) := by unfold chL; rfl
theorem chL_new (l : Option T3) {v : Rcd} (h : v.f = 0) (b c : Rcd) (r : List Rcd) : chL l (v :: b :: c :: r) = pre [⟨v, b, c⟩] (chL (some ⟨v, b, c⟩) r) := by
  rw [chL.eq_def]; dsimp only; rw [if_pos h]
theorem chL_short (l : Option T3) {v : Rcd} (h : v.f = 0) {r : List Rcd} (hr : r.length < 2) : chL l (v :: r) = (5, []) := by
  rw [chL.eq_def]; dsimp only; rw [if_pos h]
  match r, hr with
  | [], _ => rfl
  | [_], _ => rfl
theorem chL_first {v : Rcd} (h : v.f ≠ 0) (r : List Rcd) : chL none (v :: r) = (6, []) := by
  rw [chL.eq_def]; dsimp only; rw [if_neg h]
theorem chL_flag (t : T3) {v : Rcd} (h0 : v.f ≠ 0) (h : 2 < v.f) (r : List Rcd) : chL (some t) (v :: r) = (7, []) := by
  rw [chL.eq_def]; dsimp only; rw [if_neg h0]
  rw [if_pos h]
theorem chL_on (t : T3) {v : Rcd} (h0 : v.f ≠ 0) (h : ¬ 2 < v.f) (r : List Rcd) : chL (some t) (v :: r) = pre [next3 t v] (chL (some (next3 t v)) r) := by
  rw [chL.eq_def]; dsimp only; rw [if_neg h0]
  rw [if_neg h]
/-- Of type 5: the triangle k, of rows of so many. -/
def cellT (Q : Nat → Rcd) (row k : Nat) : T3 :=
  let p := k / 2 / (row - 1) * row + k / 2 % (row - 1)
  if k % 2 = 0 then ⟨Q p, Q (p + 1), Q (p + row)⟩ else ⟨Q (p + 1), Q (p + row + 1), Q (p + row)⟩
/-- Is the layout one of vertices? -/
def tlay (L : Lay) : Bool := mayl L && (decide (L.t = 4) || decide (L.t = 5))
/-- How many triangles the vertices have, which ones, or the error. -/
def TrIs (L : Lay) (Q : Nat → Rcd) (N : Nat) (x : Int) (m : Nat) (T : Nat → T3) : Prop :=
  (tlay L = false ∧ x = 4 ∧ m = 0) ∨
  (tlay L = true ∧ L.t = 5 ∧ (N % L.r.toNat ≠ 0 ∨ N / L.r.toNat < 2) ∧ x = 5 ∧ m = 0) ∨
  (tlay L = true ∧ L.t = 5 ∧ N % L.r.toNat = 0 ∧ 2 ≤ N / L.r.toNat ∧ x = 0 ∧ m = 2 * ((N / L.r.toNat - 1) * (L.r.toNat - 1)) ∧ ∀ k, k < m → T k = cellT Q L.r.toNat k) ∨
  (tlay L = true ∧ L.t = 4 ∧ (chL none (ql Q 0 N)).1 = x ∧ (chL none (ql Q 0 N)).2.length = m ∧ ∀ k, k < m → T k = (chL none (ql Q 0 N)).2.getD k z3)
theorem TrIs.one {L : Lay} {Q : Nat → Rcd} {N m m' : Nat} {x x' : Int} {T T' : Nat → T3} (h : TrIs L Q N x m T) (h' : TrIs L Q N x' m' T') : x = x' ∧ m = m' ∧ ∀ k, k < m → T k = T' k := by
  rcases h with ⟨h1, h2, h3⟩ | ⟨h1, h2, h3, h4, h5⟩ | ⟨h1, h2, h3, h4, h5, h6, h7⟩ | ⟨h1, h2, h3, h4, h5⟩ <;>
  rcases h' with ⟨k1, k2, k3⟩ | ⟨k1, k2, k3, k4, k5⟩ | ⟨k1, k2, k3, k4, k5, k6, k7⟩ | ⟨k1, k2, k3, k4, k5⟩
  all_goals first
    | exact absurd (h1.symm.trans k1) (by decide)
    | (exfalso; omega)
    | (subst_vars; exact ⟨rfl, rfl, fun k hk => by omega⟩)
    | (subst_vars; exact ⟨rfl, rfl, fun k hk => by rw [h7 k hk, k7 k hk]⟩)
    | (subst_vars; exact ⟨rfl, rfl, fun k hk => by rw [h5 k hk, k5 k hk]⟩)
/-- What Of of trios answers, whatever it is handed. -/
def TrAll (L : Lay) (Q : Nat → Rcd) (N : Nat) (w : World) (e : Ending) (w' : World) : Prop :=
  ∃ s x m T, e = .returned (.tuple #[s, .int .i64 x]) ∧ Ext w w' ∧ Lst w' 65 21 s m (fun k => tv (T k)) ∧ (∀ b, s.ownBlock = some b → w.heap.size ≤ b) ∧ TrIs L Q N x m T
theorem info_tri21 : (Tryd.prog.info? 65).map (fun i => (i.zero, i.size, i.bytes)) = some (some (.agg #[.int .u8 0, .int .u32 0, .int .u32 0, .int .u16 0, .int .u16 0, .int .u16 0, .int .u16 0, .int .u8 0, .int .u32 0, .int .u32 0, .int .u16 0, .int .u16 0, .int .u16 0, .int .u16 0, .int .u8 0, .int .u32 0, .int .u32 0, .int .u16 0, .int .u16 0, .int .u16 0, .int .u16 0]), 21, 60) := by kernel_rfl
/-- The type 4, one vertex after the other: what has been told when so many are left. -/
structure Chn (Q : Nat → Rcd) (N i : Nat) (O : List T3) : Prop where
  le : i ≤ N
  eq : chL none (ql Q 0 N) = pre O (chL O.getLast? (ql Q i (N - i)))
  few : O.length ≤ i
  ne : 0 < i → O ≠ []
  z : i = 0 → O = []
theorem Chn.start (Q : Nat → Rcd) (N : Nat) : Chn Q N 0 [] := ⟨by omega, by
  show _ = pre [] (chL none _)
  rw [Nat.sub_zero]
  unfold pre
  split
  · rename_i h; rw [List.nil_append, ← h]
  · rename_i h
    have key : ∀ (n : Nat) (l : Option T3) (r : List Rcd), r.length ≤ n → (chL l r).1 ≠ 0 → (chL l r).2 = [] := by
      intro n
      induction n with
      | zero => intro l r hr h; have : r = [] := List.eq_nil_of_length_eq_zero (by omega); subst this; exact absurd (by rw [chL_nil]) h
      | succ n ih =>
        intro l r hr h
        match r, hr, h with
        | [], _, h => exact absurd (by rw [chL_nil]) h
        | v :: r, hr, h =>
          have ep : ∀ (O : List T3) (z : Int × List T3), (pre O z).1 ≠ 0 → (pre O z).2 = [] := fun O z hz => by
            unfold pre at hz ⊢
            split at hz
            · exact absurd rfl hz
            · rename_i h; rw [if_neg h]
          by_cases h0 : v.f = 0
          · match r, hr, h with
            | [], _, h => rw [chL_short l h0 (by simp)]
            | [_], _, h => rw [chL_short l h0 (by simp)]
            | b :: c :: r, hr, h => rw [chL_new l h0] at h ⊢; exact ep _ _ h
          · cases l with
            | none => rw [chL_first h0]
            | some t =>
              by_cases h2 : 2 < v.f
              · rw [chL_flag t h0 h2]
              · rw [chL_on t h0 h2] at h ⊢; exact ep _ _ h
    exact Prod.ext rfl (key _ none _ (Nat.le_refl _) h), by simp, fun h => by omega, fun _ => rfl⟩
section
variable {Q : Nat → Rcd} {N i : Nat} {O : List T3}
theorem Chn.step (C : Chn Q N i O) (h : i < N) : ql Q i (N - i) = Q i :: ql Q (i + 1) (N - (i + 1)) := by
  rw [show N - i = (N - (i + 1)) + 1 by omega]; rfl
theorem Chn.done (C : Chn Q N N O) : chL none (ql Q 0 N) = (0, O) := by
  rw [C.eq, Nat.sub_self]
  show pre O (chL _ []) = _
  rw [chL_nil, pre_ok, List.append_nil]
theorem Chn.first (C : Chn Q N 0 O) (h : 0 < N) (h0 : (Q 0).f ≠ 0) : chL none (ql Q 0 N) = (6, []) := by
  rw [C.eq, C.step h, C.z rfl]
  show pre [] (chL none _) = _
  rw [chL_first h0, pre_err _ (by decide)]
theorem Chn.short (C : Chn Q N i O) (h : i < N) (h0 : (Q i).f = 0) (h2 : N ≤ i + 2) : chL none (ql Q 0 N) = (5, []) := by
  rw [C.eq, C.step h, chL_short _ h0 (by rw [ql_len]; omega), pre_err _ (by decide)]
theorem Chn.new (C : Chn Q N i O) (h0 : (Q i).f = 0) (h2 : i + 2 < N) : Chn Q N (i + 3) (O ++ [⟨Q i, Q (i + 1), Q (i + 2)⟩]) := by
  refine ⟨by omega, ?_, by have := C.few; rw [List.length_append, List.length_singleton]; omega, fun _ => by simp, fun h => by omega⟩
  rw [C.eq, C.step (by omega), show N - (i + 1) = (N - (i + 3)) + 1 + 1 by omega]
  show pre O (chL _ (Q i :: Q (i + 1) :: Q (i + 2) :: ql Q (i + 3) (N - (i + 3)))) = _
  rw [chL_new _ h0, pre_pre, List.getLast?_concat]
theorem Chn.last (C : Chn Q N i O) (h : 0 < i) : ∃ t, O.getLast? = some t ∧ O.getD (O.length - 1) z3 = t ∧ 0 < O.length := by
  have hne := C.ne h
  have hl : 0 < O.length := by cases O with | nil => exact absurd rfl hne | cons => simp
  refine ⟨O.getLast hne, List.getLast?_eq_some_getLast hne, ?_, hl⟩
  rw [List.getLast_eq_getElem, List.getD_eq_getElem?_getD, List.getElem?_eq_getElem (show O.length - 1 < O.length by omega)]
  rfl
theorem Chn.flag (C : Chn Q N i O) (hi : 0 < i) (h : i < N) (h2 : 2 < (Q i).f) : chL none (ql Q 0 N) = (7, []) := by
  obtain ⟨t, ht, _⟩ := C.last hi
  rw [C.eq, C.step h, ht, chL_flag t (by omega) h2, pre_err _ (by decide)]
theorem Chn.on (C : Chn Q N i O) (hi : 0 < i) (h : i < N) (h0 : (Q i).f ≠ 0) (h2 : ¬ 2 < (Q i).f) : Chn Q N (i + 1) (O ++ [next3 (O.getD (O.length - 1) z3) (Q i)]) := by
  obtain ⟨t, ht, hd, _⟩ := C.last hi
  refine ⟨by omega, ?_, by have := C.few; rw [List.length_append, List.length_singleton]; omega, fun _ => by simp, fun h => by omega⟩
  rw [C.eq, C.step h, ht, hd, chL_on t h0 h2, pre_pre, List.getLast?_concat]
end
theorem getD_snoc (O : List T3) (t : T3) (k : Nat) : (O ++ [t]).getD k z3 = if k = O.length then t else O.getD k z3 := by
  rw [List.getD_eq_getElem?_getD, List.getD_eq_getElem?_getD]
  by_cases h : k = O.length
  · subst h; rw [if_pos rfl, List.getElem?_append_right (Nat.le_refl _), Nat.sub_self]; rfl
  · rw [if_neg h]
    by_cases h2 : k < O.length
    · rw [List.getElem?_append_left h2]
    · rw [List.getElem?_eq_none (by simp; omega), List.getElem?_eq_none (by omega)]
end Go.Proofs.YthlhmfjopjikpaaDoor
