/- Triangles of vertices, more plain words: their vertices are those that there are; how many. -/
import Derived.Test.YthlhmfjopjikpaaDoorTriM
namespace Go.Proofs.YthlhmfjopjikpaaDoor
open Go.RowKit Go.BigFrame
set_option linter.unusedSimpArgs false
set_option linter.unusedVariables false
/-- A triangle whose vertices are all of a kind. -/
def AllOf (P : Rcd → Prop) (t : T3) : Prop := P t.a ∧ P t.b ∧ P t.c
theorem pre_all {P : T3 → Prop} {O : List T3} {r : Int × List T3} (hO : ∀ t ∈ O, P t) (hr : ∀ t ∈ r.2, P t) : ∀ t ∈ (pre O r).2, P t := by
  intro t ht
  unfold pre at ht
  split at ht
  · rcases List.mem_append.1 ht with h | h
    · exact hO t h
    · exact hr t h
  · cases ht
theorem chL_all {P : Rcd → Prop} : ∀ (n : Nat) (l : Option T3) (r : List Rcd), r.length ≤ n → (∀ t, l = some t → AllOf P t) → (∀ v ∈ r, P v) → ∀ t ∈ (chL l r).2, AllOf P t := by
  intro n
  induction n with
  | zero =>
    intro l r hr _ _ t ht
    have : r = [] := List.eq_nil_of_length_eq_zero (by omega)
    subst this
    rw [chL_nil] at ht
    cases ht
  | succ n ih =>
    intro l r hr hl hv t ht
    match r, hr, hv, ht with
    | [], _, _, ht => rw [chL_nil] at ht; cases ht
    | v :: r, hr, hv, ht =>
      have hv0 := hv v (List.mem_cons_self ..)
      by_cases h0 : v.f = 0
      · match r, hr, hv, ht with
        | [], _, _, ht => rw [chL_short l h0 (by simp)] at ht; cases ht
        | [_], _, _, ht => rw [chL_short l h0 (by simp)] at ht; cases ht
        | b :: c :: r, hr, hv, ht =>
          have hn : AllOf P ⟨v, b, c⟩ := ⟨hv0, hv b (by simp), hv c (by simp)⟩
          rw [chL_new l h0] at ht
          refine pre_all (fun u hu => ?_) (ih (some ⟨v, b, c⟩) r (by simp at hr; omega) (fun u hu => by cases hu; exact hn) (fun u hu => hv u (by simp [hu]))) t ht
          rcases List.mem_singleton.1 hu with rfl
          exact hn
      · cases l with
        | none => rw [chL_first h0] at ht; cases ht
        | some s =>
          by_cases h2 : 2 < v.f
          · rw [chL_flag s h0 h2] at ht; cases ht
          · have hs := hl s rfl
            have hn : AllOf P (next3 s v) := ⟨by unfold next3; dsimp only; split; exact hs.2.1; exact hs.1, hs.2.2, hv0⟩
            rw [chL_on s h0 h2] at ht
            refine pre_all (fun u hu => ?_) (ih (some (next3 s v)) r (by simp at hr; omega) (fun u hu => by cases hu; exact hn) (fun u hu => hv u (by simp [hu]))) t ht
            rcases List.mem_singleton.1 hu with rfl
            exact hn
theorem pre_len (O : List T3) (r : Int × List T3) : (pre O r).2.length ≤ O.length + r.2.length := by
  unfold pre
  split
  · rw [List.length_append]; exact Nat.le_refl _
  · exact Nat.zero_le _
theorem chL_len : ∀ (n : Nat) (l : Option T3) (r : List Rcd), r.length ≤ n → (chL l r).2.length ≤ r.length := by
  intro n
  induction n with
  | zero =>
    intro l r hr
    have : r = [] := List.eq_nil_of_length_eq_zero (by omega)
    subst this
    rw [chL_nil]
    exact Nat.zero_le _
  | succ n ih =>
    intro l r hr
    match r, hr with
    | [], _ => rw [chL_nil]; exact Nat.zero_le _
    | v :: r, hr =>
      by_cases h0 : v.f = 0
      · match r, hr with
        | [], _ => rw [chL_short l h0 (by simp)]; exact Nat.zero_le _
        | [_], _ => rw [chL_short l h0 (by simp)]; exact Nat.zero_le _
        | b :: c :: r, hr =>
          rw [chL_new l h0]
          have h1 := pre_len [⟨v, b, c⟩] (chL (some ⟨v, b, c⟩) r)
          have h2 := ih (some ⟨v, b, c⟩) r (by simp at hr; omega)
          simp only [List.length_cons, List.length_nil] at h1 ⊢
          omega
      · cases l with
        | none => rw [chL_first h0]; exact Nat.zero_le _
        | some s =>
          by_cases h2 : 2 < v.f
          · rw [chL_flag s h0 h2]; exact Nat.zero_le _
          · rw [chL_on s h0 h2]
            have h1 := pre_len [next3 s v] (chL (some (next3 s v)) r)
            have h3 := ih (some (next3 s v)) r (by simp at hr; omega)
            simp only [List.length_cons, List.length_nil] at h1 ⊢
            omega
theorem ql_mem {Q : Nat → Rcd} {P : Rcd → Prop} : ∀ (n i : Nat), (∀ j, j < n → P (Q (i + j))) → ∀ v ∈ ql Q i n, P v
  | 0, _, _, v, h => by cases h
  | n + 1, i, hP, v, h => by
    rcases List.mem_cons.1 h with rfl | h
    · exact hP 0 (by omega)
    · exact ql_mem n (i + 1) (fun j hj => by have := hP (j + 1) (by omega); rw [show i + 1 + j = i + (j + 1) by omega]; exact this) v h
theorem cell_in {N r m k : Nat} (hr : 2 ≤ r) (hm : m * r = N) (hk : k < 2 * ((m - 1) * (r - 1))) : k / 2 / (r - 1) * r + k / 2 % (r - 1) + r + 1 < N := by
  have h1 : k / 2 < (m - 1) * (r - 1) := by omega
  have h2 : k / 2 / (r - 1) < m - 1 := Nat.div_lt_of_lt_mul (by rw [Nat.mul_comm]; exact h1)
  have h3 : k / 2 % (r - 1) < r - 1 := Nat.mod_lt _ (by omega)
  generalize k / 2 / (r - 1) = i at *
  generalize k / 2 % (r - 1) = j at *
  have h4 : (i + 2) * r ≤ m * r := Nat.mul_le_mul_right r (by omega)
  rw [Nat.add_mul] at h4
  omega
theorem cell_even {Q : Nat → Rcd} {r c i j : Nat} (hc : i * (r - 1) = c) (hj : j + 1 < r) : cellT Q r (2 * c + 2 * j) = ⟨Q (i * r + j), Q (i * r + j + 1), Q (i * r + j + r)⟩ := by
  have h2 : (2 * c + 2 * j) / 2 = i * (r - 1) + j := by omega
  have hm : j < r - 1 := by omega
  obtain ⟨h3, h4⟩ := at_div (m := r - 1) (i := i) hm
  unfold cellT
  rw [h2, h3, h4]
  dsimp only
  rw [if_pos (by omega)]
theorem cell_odd {Q : Nat → Rcd} {r c i j : Nat} (hc : i * (r - 1) = c) (hj : j + 1 < r) : cellT Q r (2 * c + 2 * j + 1) = ⟨Q (i * r + j + 1), Q (i * r + j + r + 1), Q (i * r + j + r)⟩ := by
  have h2 : (2 * c + 2 * j + 1) / 2 = i * (r - 1) + j := by omega
  have hm : j < r - 1 := by omega
  obtain ⟨h3, h4⟩ := at_div (m := r - 1) (i := i) hm
  unfold cellT
  rw [h2, h3, h4]
  dsimp only
  rw [if_neg (by omega)]
/-- All vertices of the triangles are of those that there are; there are at most twice as many. -/
theorem TrIs.all {L : Lay} {Q : Nat → Rcd} {N m : Nat} {x : Int} {T : Nat → T3} {P : Rcd → Prop} (h : TrIs L Q N x m T) (hP : ∀ i, i < N → P (Q i)) : ∀ k, k < m → AllOf P (T k) := by
  intro k hk
  rcases h with ⟨_, _, h3⟩ | ⟨_, _, _, _, h5⟩ | ⟨h1, h2, h3, h4, h5, h6, h7⟩ | ⟨h1, h2, h3, h4, h5⟩
  · omega
  · omega
  · have hr : 2 ≤ L.r.toNat := by
      have := (mayl_is (show mayl L = true by unfold tlay at h1; simpa using (Bool.and_eq_true_iff.1 h1).1)).2.2.2.2.2.1 h2
      omega
    have hm : N / L.r.toNat * L.r.toNat = N := Nat.div_mul_cancel (Nat.dvd_of_mod_eq_zero h3)
    have hc := cell_in hr hm (k := k) (by rw [← h6]; exact hk)
    rw [h7 k hk]
    unfold cellT
    dsimp only
    split
    · exact ⟨hP _ (by omega), hP _ (by omega), hP _ (by omega)⟩
    · exact ⟨hP _ (by omega), hP _ (by omega), hP _ (by omega)⟩
  · rw [h5 k hk, List.getD_eq_getElem?_getD, List.getElem?_eq_getElem (show k < (chL none (ql Q 0 N)).2.length by rw [h4]; exact hk)]
    exact chL_all N none (ql Q 0 N) (by rw [ql_len]; exact Nat.le_refl _) (fun t ht => by cases ht) (ql_mem N 0 (fun j hj => by rw [Nat.zero_add]; exact hP j hj)) _ (List.getElem_mem _)
theorem TrIs.le {L : Lay} {Q : Nat → Rcd} {N m : Nat} {x : Int} {T : Nat → T3} (h : TrIs L Q N x m T) : m ≤ 2 * N := by
  rcases h with ⟨_, _, h3⟩ | ⟨_, _, _, _, h5⟩ | ⟨h1, h2, h3, h4, h5, h6, h7⟩ | ⟨h1, h2, h3, h4, h5⟩
  · omega
  · omega
  · have hm : N / L.r.toNat * L.r.toNat = N := Nat.div_mul_cancel (Nat.dvd_of_mod_eq_zero h3)
    have : (N / L.r.toNat - 1) * (L.r.toNat - 1) ≤ N / L.r.toNat * L.r.toNat := Nat.mul_le_mul (by omega) (by omega)
    omega
  · have := chL_len N none (ql Q 0 N) (by rw [ql_len]; exact Nat.le_refl _)
    rw [h4, ql_len] at this
    omega
end Go.Proofs.YthlhmfjopjikpaaDoor
