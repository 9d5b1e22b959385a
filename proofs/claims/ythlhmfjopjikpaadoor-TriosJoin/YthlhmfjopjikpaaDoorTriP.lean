/- Triangles of vertices behind others, in plain words, of both types. -/
import Derived.Test.YthlhmfjopjikpaaDoorTriJ
import Derived.Test.YthlhmfjopjikpaaDoorAppAny
namespace Go.Proofs.YthlhmfjopjikpaaDoor
open Go.RowKit Go.BigFrame
set_option linter.unusedSimpArgs false
set_option linter.unusedVariables false
theorem ql_app (R S : Nat → Rcd) (n k : Nat) : ql (appF n R S) 0 (n + k) = ql R 0 n ++ ql S 0 k := by
  rw [ql_add]
  congr 1
  · exact ql_congr fun j hj => by unfold appF; rw [if_pos (by omega)]
  · exact ql_congr fun j hj => by unfold appF; rw [if_neg (by omega)]; congr 1; omega
theorem getD_app (O P : List T3) (k : Nat) : (O ++ P).getD k z3 = if k < O.length then O.getD k z3 else P.getD (k - O.length) z3 := by
  rw [List.getD_eq_getElem?_getD, List.getD_eq_getElem?_getD, List.getD_eq_getElem?_getD]
  split
  · rw [List.getElem?_append_left (by assumption)]
  · rw [List.getElem?_append_right (by omega)]
theorem TrIs.fine {L : Lay} {Q : Nat → Rcd} {N m : Nat} {T : Nat → T3} (h : TrIs L Q N 0 m T) : tlay L = true ∧ ((L.t = 4 ∧ chL none (ql Q 0 N) = (0, (chL none (ql Q 0 N)).2) ∧ (chL none (ql Q 0 N)).2.length = m ∧ ∀ k, k < m → T k = (chL none (ql Q 0 N)).2.getD k z3) ∨
    (L.t = 5 ∧ N % L.r.toNat = 0 ∧ 2 ≤ N / L.r.toNat ∧ m = 2 * ((N / L.r.toNat - 1) * (L.r.toNat - 1)) ∧ ∀ k, k < m → T k = cellT Q L.r.toNat k)) := by
  rcases h with ⟨_, h2, _⟩ | ⟨_, _, _, h4, _⟩ | ⟨h1, h2, h3, h4, h5, h6, h7⟩ | ⟨h1, h2, h3, h4, h5⟩
  · cases h2
  · cases h4
  · exact ⟨h1, .inr ⟨h2, h3, h4, h6, h7⟩⟩
  · exact ⟨h1, .inl ⟨h2, Prod.ext h3 rfl, h4, h5⟩⟩
/-- An error of type 4 other than that they end too soon is told whatever stands behind. -/
theorem TrIs.more {L : Lay} {R S : Nat → Rcd} {N k m m' : Nat} {x x' : Int} {T T' : Nat → T3} (h : TrIs L R N x m T) (h' : TrIs L (appF N R S) (N + k) x' m' T') (h4 : L.t = 4) (h0 : x ≠ 0) (h5 : x ≠ 5) : x' = x := by
  rcases h with ⟨h1, h2, _⟩ | ⟨_, h2, _⟩ | ⟨_, h2, _⟩ | ⟨h1, h2, h3, _⟩
  · rcases h' with ⟨_, k2, _⟩ | ⟨k1, _⟩ | ⟨k1, _⟩ | ⟨k1, _⟩
    · rw [h2, k2]
    all_goals (rw [h1] at k1; cases k1)
  · omega
  · omega
  · rcases h' with ⟨k1, _⟩ | ⟨_, k2, _⟩ | ⟨_, k2, _⟩ | ⟨k1, k2, k3, _⟩
    · rw [h1] at k1; cases k1
    · omega
    · omega
    · rw [ql_app] at k3
      rw [← k3, ← h3]
      exact chL_more _ none _ _ (Nat.le_refl _) (by rw [h3]; exact h0) (by rw [h3]; exact h5)
theorem cellT_congr {Q R : Nat → Rcd} {r k d : Nat} (hr : 2 ≤ r) {m N : Nat} (hm : m * r = N) (hk : k < 2 * ((m - 1) * (r - 1))) (h : ∀ i, i < N → Q (d * r + i) = R i) : cellT Q r (2 * (d * (r - 1)) + k) = cellT R r k := by
  have hc := cell_in hr hm hk
  have e0 : (2 * (d * (r - 1)) + k) / 2 = (r - 1) * d + k / 2 := by rw [Nat.mul_comm d]; omega
  have e1 : (2 * (d * (r - 1)) + k) / 2 / (r - 1) = d + k / 2 / (r - 1) := by rw [e0, Nat.mul_add_div (by omega)]
  have e2 : (2 * (d * (r - 1)) + k) / 2 % (r - 1) = k / 2 % (r - 1) := by rw [e0, Nat.mul_add_mod]
  have e3 : (2 * (d * (r - 1)) + k) % 2 = k % 2 := by omega
  unfold cellT
  rw [e1, e2, e3]
  dsimp only
  rw [Nat.add_mul]
  generalize k / 2 / (r - 1) * r = p at *
  generalize k / 2 % (r - 1) = q at *
  have f0 := h (p + q) (by omega)
  have f1 := h (p + q + 1) (by omega)
  have f2 := h (p + q + r) (by omega)
  have f3 := h (p + q + r + 1) (by omega)
  rw [show d * r + p + q = d * r + (p + q) by omega, show d * r + (p + q) + 1 = d * r + (p + q + 1) by omega, show d * r + (p + q) + r = d * r + (p + q + r) by omega, show d * r + (p + q + r) + 1 = d * r + (p + q + r + 1) by omega, f0, f1, f2, f3]
/-- Both have triangles: what they have one behind the other. -/
theorem TrIs.join {L : Lay} {R S : Nat → Rcd} {N k m1 m2 m3 : Nat} {x3 : Int} {T1 T2 T3 : Nat → T3} (h1 : TrIs L R N 0 m1 T1) (h2 : TrIs L S k 0 m2 T2) (h3 : TrIs L (appF N R S) (N + k) x3 m3 T3) :
    x3 = 0 ∧ ∃ bt : Nat, m3 = m1 + bt + m2 ∧ (L.t = 4 ∧ bt = 0 ∨ L.t = 5 ∧ 2 ≤ L.r ∧ L.r ≤ N ∧ (bt : Int) = 2 * (L.r - 1) ∧ 0 < m2) ∧ (∀ j, j < m1 → tv (T3 j) = tv (T1 j)) ∧ ∀ j, j < m2 → tv (T3 (m1 + bt + j)) = tv (T2 j) := by
  obtain ⟨hv, h1⟩ := h1.fine
  obtain ⟨_, h2⟩ := h2.fine
  rcases h1 with ⟨t4, c1, l1, g1⟩ | ⟨t5, a1, b1, l1, g1⟩
  · rcases h2 with ⟨_, c2, l2, g2⟩ | ⟨t5, _⟩
    · have hj := chL_join (r := ql R 0 N) (s := ql S 0 k) (by rw [c1]) (by rw [c2])
      rw [← ql_app] at hj
      rcases h3 with ⟨k1, _⟩ | ⟨_, k2, _⟩ | ⟨_, k2, _⟩ | ⟨_, _, k3, k4, k5⟩
      · rw [hv] at k1; cases k1
      · omega
      · omega
      · rw [hj] at k3 k4 k5
        dsimp only at k3 k4 k5
        rw [List.length_append, l1, l2] at k4
        refine ⟨k3.symm, 0, by omega, .inl ⟨t4, rfl⟩, fun j hj => ?_, fun j hj => ?_⟩
        · rw [k5 j (by omega), g1 j hj, getD_app, if_pos (by omega)]
        · rw [k5 (m1 + 0 + j) (by omega), g2 j hj, getD_app, if_neg (by omega), l1, show m1 + 0 + j - m1 = j by omega]
    · omega
  · rcases h2 with ⟨t4, _⟩ | ⟨_, a2, b2, l2, g2⟩
    · omega
    · have hr : 2 ≤ L.r := by
        have hm : mayl L = true := by unfold tlay at hv; simpa using (Bool.and_eq_true_iff.1 hv).1
        exact (mayl_is hm).2.2.2.2.2.1 t5
      obtain ⟨r, hrr⟩ : ∃ r : Nat, L.r = (r : Int) := ⟨L.r.toNat, by omega⟩
      have hrn : L.r.toNat = r := by omega
      rw [hrn] at a1 b1 l1 g1 a2 b2 l2 g2
      obtain ⟨p, hp⟩ : ∃ p, N / r = p := ⟨_, rfl⟩
      obtain ⟨q, hq⟩ : ∃ q, k / r = q := ⟨_, rfl⟩
      have hpN : p * r = N := by rw [← hp]; exact Nat.div_mul_cancel (Nat.dvd_of_mod_eq_zero a1)
      have hqN : q * r = k := by rw [← hq]; exact Nat.div_mul_cancel (Nat.dvd_of_mod_eq_zero a2)
      have hs : (N + k) % r = 0 := by rw [← hpN, ← hqN, ← Nat.add_mul]; exact Nat.mul_mod_left _ _
      have hd : (N + k) / r = p + q := by rw [← hpN, ← hqN, ← Nat.add_mul]; exact Nat.mul_div_cancel _ (by omega)
      rw [hp] at b1 l1
      rw [hq] at b2 l2
      have hrN : r ≤ N := by rw [← hpN]; exact Nat.le_mul_of_pos_left r (by omega)
      have hm2 : 0 < m2 := by
        have : 1 * 1 ≤ (q - 1) * (r - 1) := Nat.mul_le_mul (by omega) (by omega)
        omega
      rcases h3 with ⟨k1, _⟩ | ⟨_, _, k3, _⟩ | ⟨_, _, _, _, k5, k6, k7⟩ | ⟨_, k2, _⟩
      · rw [hv] at k1; cases k1
      · rw [hrn, hs, hd] at k3; omega
      · rw [hrn, hd] at k6
        rw [hrn] at k7
        have e1 : (p + q - 1) * (r - 1) = (p - 1) * (r - 1) + (r - 1) + (q - 1) * (r - 1) := by
          rw [show p + q - 1 = (p - 1) + 1 + (q - 1) by omega, Nat.add_mul, Nat.add_mul, Nat.one_mul]
        have e2 : p * (r - 1) = (p - 1) * (r - 1) + (r - 1) := by
          rw [show p = (p - 1) + 1 by omega, Nat.add_mul, Nat.one_mul, show p - 1 + 1 - 1 = p - 1 by omega]
        refine ⟨k5, 2 * (r - 1), by rw [k6, l1, l2, e1]; omega, .inr ⟨t5, hr, by omega, by omega, hm2⟩, fun j hj => ?_, fun j hj => ?_⟩
        · rw [k7 j (by rw [k6, e1]; omega), g1 j hj]
          have := cellT_congr (Q := appF N R S) (R := R) (r := r) (k := j) (d := 0) (by omega) hpN (by omega) (fun i hi => by unfold appF; rw [Nat.zero_mul, Nat.zero_add, if_pos hi])
          rw [Nat.zero_mul, Nat.mul_zero, Nat.zero_add] at this
          rw [this]
        · rw [k7 (m1 + 2 * (r - 1) + j) (by rw [k6, e1]; omega), g2 j hj]
          have := cellT_congr (Q := appF N R S) (R := S) (r := r) (k := j) (d := p) (by omega) hqN (by omega) (fun i hi => by unfold appF; rw [hpN, if_neg (by omega), Nat.add_sub_cancel_left])
          rw [← this, show m1 + 2 * (r - 1) + j = 2 * (p * (r - 1)) + j by rw [e2, l1]; omega]
      · omega
end Go.Proofs.YthlhmfjopjikpaaDoor
