/- Triangles of vertices behind others, type 4, in plain words. -/
import Derived.Test.YthlhmfjopjikpaaDoorTriN
namespace Go.Proofs.YthlhmfjopjikpaaDoor
open Go.RowKit Go.BigFrame
set_option linter.unusedSimpArgs false
set_option linter.unusedVariables false
theorem pre_nil (r : Int × List T3) (h : r.1 ≠ 0 → r.2 = []) : pre [] r = r := by
  unfold pre
  split
  · rename_i h0; rw [List.nil_append, ← h0]
  · rename_i h0; rw [← h h0]
theorem pre_err2 (O : List T3) (r : Int × List T3) : (pre O r).1 ≠ 0 → (pre O r).2 = [] := by
  unfold pre
  split
  · intro h; exact absurd rfl h
  · intro _; rfl
/-- With an error there are no triangles. -/
theorem chL_err : ∀ (n : Nat) (l : Option T3) (r : List Rcd), r.length ≤ n → (chL l r).1 ≠ 0 → (chL l r).2 = [] := by
  intro n
  induction n with
  | zero => intro l r hr h; have : r = [] := List.eq_nil_of_length_eq_zero (by omega); subst this; exact absurd (by rw [chL_nil]) h
  | succ n ih =>
    intro l r hr h
    match r, hr, h with
    | [], _, h => exact absurd (by rw [chL_nil]) h
    | v :: r, hr, h =>
      by_cases h0 : v.f = 0
      · match r, hr, h with
        | [], _, h => rw [chL_short l h0 (by simp)]
        | [_], _, h => rw [chL_short l h0 (by simp)]
        | b :: c :: r, hr, h => rw [chL_new l h0] at h ⊢; exact pre_err2 _ _ h
      · cases l with
        | none => rw [chL_first h0]
        | some t =>
          by_cases h2 : 2 < v.f
          · rw [chL_flag t h0 h2]
          · rw [chL_on t h0 h2] at h ⊢; exact pre_err2 _ _ h
/-- The last triangle: of those told, or the one ahead. -/
def lastOr (l : Option T3) (O : List T3) : Option T3 := match O.getLast? with | some t => some t | none => l
theorem lastOr_nil (l : Option T3) : lastOr l [] = l := rfl
theorem lastOr_cons (l : Option T3) (t : T3) (O : List T3) : lastOr l ([t] ++ O) = lastOr (some t) O := by
  unfold lastOr
  cases O with
  | nil => rfl
  | cons u O =>
    rw [List.getLast?_append, List.getLast?_eq_some_getLast (List.cons_ne_nil u O)]
    rfl
/-- Vertices behind others that have triangles. -/
theorem chL_append : ∀ (n : Nat) (l : Option T3) (r s : List Rcd), r.length ≤ n → (chL l r).1 = 0 → chL l (r ++ s) = pre (chL l r).2 (chL (lastOr l (chL l r).2) s) := by
  intro n
  induction n with
  | zero =>
    intro l r s hr _
    have : r = [] := List.eq_nil_of_length_eq_zero (by omega)
    subst this
    rw [chL_nil, List.nil_append]
    exact (pre_nil _ (chL_err s.length l s (Nat.le_refl _))).symm
  | succ n ih =>
    intro l r s hr h
    match r, hr, h with
    | [], _, _ =>
      rw [chL_nil, List.nil_append]
      exact (pre_nil _ (chL_err s.length l s (Nat.le_refl _))).symm
    | v :: r, hr, h =>
      by_cases h0 : v.f = 0
      · match r, hr, h with
        | [], _, h => rw [chL_short l h0 (by simp)] at h; cases h
        | [_], _, h => rw [chL_short l h0 (by simp)] at h; cases h
        | b :: c :: r, hr, h =>
          rw [chL_new l h0] at h ⊢
          rw [pre_fst] at h
          have e2 : (pre [⟨v, b, c⟩] (chL (some ⟨v, b, c⟩) r)).2 = [⟨v, b, c⟩] ++ (chL (some ⟨v, b, c⟩) r).2 := by unfold pre; rw [if_pos h]
          rw [e2, lastOr_cons, ← pre_pre]
          show chL l (v :: b :: c :: (r ++ s)) = _
          rw [chL_new l h0, ih (some ⟨v, b, c⟩) r s (by simp at hr; omega) h]
      · cases l with
        | none => rw [chL_first h0] at h; cases h
        | some t =>
          by_cases h2 : 2 < v.f
          · rw [chL_flag t h0 h2] at h; cases h
          · rw [chL_on t h0 h2] at h ⊢
            rw [pre_fst] at h
            have e2 : (pre [next3 t v] (chL (some (next3 t v)) r)).2 = [next3 t v] ++ (chL (some (next3 t v)) r).2 := by unfold pre; rw [if_pos h]
            rw [e2, lastOr_cons, ← pre_pre]
            show chL (some t) (v :: (r ++ s)) = _
            rw [chL_on t h0 h2, ih (some (next3 t v)) r s (by simp at hr; omega) h]
/-- What has triangles by itself has the same ones behind others. -/
theorem chL_free (l : Option T3) {s : List Rcd} (h : (chL none s).1 ≠ 6) : chL l s = chL none s := by
  match s with
  | [] => rw [chL_nil, chL_nil]
  | v :: r =>
    by_cases h0 : v.f = 0
    · match r with
      | [] => rw [chL_short l h0 (by simp), chL_short none h0 (by simp)]
      | [_] => rw [chL_short l h0 (by simp), chL_short none h0 (by simp)]
      | b :: c :: r => rw [chL_new l h0, chL_new none h0]
    · rw [chL_first h0] at h; exact absurd rfl h
/-- Both have triangles: so have they one behind the other. -/
theorem chL_join {r s : List Rcd} (h1 : (chL none r).1 = 0) (h2 : (chL none s).1 = 0) : chL none (r ++ s) = (0, (chL none r).2 ++ (chL none s).2) := by
  rw [chL_append r.length none r s (Nat.le_refl _) h1, chL_free (s := s) _ (by rw [h2]; decide)]
  unfold pre
  rw [if_pos h2]
/-- An error other than that they end too soon is told whatever stands behind. -/
theorem chL_more : ∀ (n : Nat) (l : Option T3) (r s : List Rcd), r.length ≤ n → (chL l r).1 ≠ 0 → (chL l r).1 ≠ 5 → (chL l (r ++ s)).1 = (chL l r).1 := by
  intro n
  induction n with
  | zero => intro l r s hr h; have : r = [] := List.eq_nil_of_length_eq_zero (by omega); subst this; exact absurd (by rw [chL_nil]) h
  | succ n ih =>
    intro l r s hr h h5
    match r, hr, h, h5 with
    | [], _, h, _ => exact absurd (by rw [chL_nil]) h
    | v :: r, hr, h, h5 =>
      by_cases h0 : v.f = 0
      · match r, hr, h, h5 with
        | [], _, h, h5 => rw [chL_short l h0 (by simp)] at h5; exact absurd rfl h5
        | [_], _, h, h5 => rw [chL_short l h0 (by simp)] at h5; exact absurd rfl h5
        | b :: c :: r, hr, h, h5 =>
          rw [chL_new l h0, pre_fst] at h h5 ⊢
          show (chL l (v :: b :: c :: (r ++ s))).1 = _
          rw [chL_new l h0, pre_fst]
          exact ih _ r s (by simp at hr; omega) h h5
      · cases l with
        | none =>
          rw [chL_first h0]
          show (chL none (v :: (r ++ s))).1 = _
          rw [chL_first h0]
        | some t =>
          by_cases h2 : 2 < v.f
          · rw [chL_flag t h0 h2]
            show (chL (some t) (v :: (r ++ s))).1 = _
            rw [chL_flag t h0 h2]
          · rw [chL_on t h0 h2, pre_fst] at h h5 ⊢
            show (chL (some t) (v :: (r ++ s))).1 = _
            rw [chL_on t h0 h2, pre_fst]
            exact ih _ r s (by simp at hr; omega) h h5
end Go.Proofs.YthlhmfjopjikpaaDoor
