/- How long a record of a layout is: the arithmetic. -/
import Derived.Test.YtmpckombelebjaaDoorBoxL
namespace Go.Proofs.YtmpckombelebjaaDoor
set_option linter.unusedVariables false
theorem lsize_eq {L : Lay} (h : mayl L = true) (u : Int) : lsize L u = (lbits L u + 7) / 8 := by unfold lsize; rw [if_pos h]
theorem np_bd {L : Lay} (h : mayl L = true) : 1 ≤ L.n * L.p ∧ L.n * L.p ≤ 64 := by
  obtain ⟨h1, h2, h3, h4, h5, h6, h7⟩ := mayl_is h
  have a1 : L.n * L.p ≤ 4 * 16 := Int.mul_le_mul h5 (by omega) (by omega) (by omega)
  have a2 : 1 * 1 ≤ L.n * L.p := Int.mul_le_mul h4 (by omega) (by omega) (by omega)
  omega
theorem lbits_low {L : Lay} (h : L.t < 6) (u : Int) : lbits L u = flg L + 2 * L.c + L.n * L.p := by unfold lbits pts cols; rw [if_pos h, if_pos h]; omega
theorem lbits_first {L : Lay} (h : ¬ L.t < 6) : lbits L 0 = flg L + (12 + (if L.t = 7 then 4 else 0)) * (2 * L.c) + 4 * (L.n * L.p) := by unfold lbits pts cols; rw [if_neg h, if_neg h]; simp
theorem lbits_other {L : Lay} (h : ¬ L.t < 6) {u : Int} (hu : u ≠ 0) : lbits L u = flg L + (8 + (if L.t = 7 then 4 else 0)) * (2 * L.c) + 2 * (L.n * L.p) := by unfold lbits pts cols; rw [if_neg h, if_neg h]; simp [hu]
theorem flg_bd {L : Lay} (h : mayl L = true) : 0 ≤ flg L ∧ flg L ≤ 8 := by
  obtain ⟨_, _, _, _, _, _, h7⟩ := mayl_is h
  unfold flg; split
  · omega
  · rename_i k; have := h7 k; omega
theorem lsize_parts {L : Lay} (hm : mayl L = true) (t6 : ¬ L.t < 6) (u : Int) : lsize L u = if u = 0 then lsize L 0 else lsize L 1 := by
  split
  · rename_i h; rw [h]
  · rename_i h; rw [lsize_eq hm, lsize_eq hm, lbits_other t6 h, lbits_other t6 (show (1 : Int) ≠ 0 by decide)]
theorem high_arith (F C N P G s0 s1 : Int) (f : 0 ≤ F ∧ F ≤ 8) (c : 1 ≤ C ∧ C ≤ 32) (n : 1 ≤ N ∧ N ≤ 64) (g : 0 ≤ G ∧ G ≤ 768) (hP : P = 2 * N) (h0 : s0 = (F + (G + 8 * C) + 4 * N + 7) / 8) (h1 : s1 = (F + G + 2 * N + 7) / 8) :
    1 ≤ s0 ∧ s0 ≤ 161 ∧ 1 ≤ s1 ∧ s1 ≤ 161 ∧ s1 < s0 ∧ 8 * C + P - 8 < 8 * (s0 - s1) ∧ 8 * (s0 - s1) < 8 * C + P + 8 := by omega
theorem lsize_high {L : Lay} (hm : mayl L = true) (t6 : ¬ L.t < 6) : 1 ≤ lsize L 0 ∧ lsize L 0 ≤ 161 ∧ 1 ≤ lsize L 1 ∧ lsize L 1 ≤ 161 ∧ lsize L 1 < lsize L 0 ∧ 8 * L.c + 2 * L.n * L.p - 8 < 8 * (lsize L 0 - lsize L 1) ∧
    8 * (lsize L 0 - lsize L 1) < 8 * L.c + 2 * L.n * L.p + 8 := by
  obtain ⟨h1, h2, h3, h4, h5, h6, h7⟩ := mayl_is hm
  have e0 := lsize_eq hm 0
  have e1 := lsize_eq hm 1
  rw [lbits_first t6] at e0
  rw [lbits_other t6 (by decide)] at e1
  have k : ∀ y : Int, (12 + y) * (2 * L.c) = (8 + y) * (2 * L.c) + 8 * L.c := fun y => by grind
  rw [k] at e0
  have g1 : 0 ≤ (8 + (if L.t = 7 then (4 : Int) else 0)) * (2 * L.c) ∧ (8 + (if L.t = 7 then (4 : Int) else 0)) * (2 * L.c) ≤ 768 := by split <;> omega
  exact high_arith (flg L) L.c (L.n * L.p) _ _ _ _ (flg_bd hm) (by omega) (np_bd hm) g1 (Int.mul_assoc ..) e0 e1
theorem mayl_wn {L : Lay} (h : mayl L = true) (hn : L.n < 4) : mayl (L.wn (L.n + 1)) = true := by
  have h4 := (mayl_is h).2.2.2.1
  unfold mayl Lay.wn at *
  simp only [Bool.and_eq_true, decide_eq_true_eq] at *
  obtain ⟨⟨⟨⟨⟨h1, h2⟩, h3⟩, h4⟩, h5⟩, h6⟩ := h
  exact ⟨⟨⟨⟨⟨h1, h2⟩, h3⟩, by omega⟩, by omega⟩, h6⟩
theorem mayl_wn4 {L : Lay} (hn : L.n = 4) : mayl (L.wn (L.n + 1)) = false := by
  unfold mayl Lay.wn
  simp [hn]
theorem mayl_wt {L : Lay} (h : mayl L = true) (ht : L.t = 6) : mayl (L.wt 7) = true := by
  unfold mayl Lay.wt at *
  simp only [Bool.and_eq_true, decide_eq_true_eq] at *
  obtain ⟨⟨⟨⟨⟨h1, h2⟩, h3⟩, h4⟩, h5⟩, h6⟩ := h
  rw [if_neg (by omega)] at h6
  exact ⟨⟨⟨⟨⟨by decide, h2⟩, h3⟩, h4⟩, h5⟩, by rw [if_neg (by decide)]; exact h6⟩
theorem cols_ge (L : Lay) (u : Int) : 1 ≤ cols L u := by unfold cols; (repeat' split) <;> omega
theorem more_arith (A K N P s k : Int) (hK : 1 ≤ K) (hP : 1 ≤ P) (h0 : s = (A + K * (N * P) + 7) / 8) (h1 : k = (A + K * ((N + 1) * P) + 7) / 8) : s ≤ k ∧ (8 ≤ P → k ≠ s) := by
  have e : K * ((N + 1) * P) = K * (N * P) + K * P := by grind
  have g : P ≤ K * P := by have := Int.mul_le_mul_of_nonneg_right hK (show 0 ≤ P by omega); omega
  rw [e] at h1
  generalize K * (N * P) = X at *
  generalize K * P = Y at *
  constructor
  · omega
  · intro; omega
theorem lsize_more {L : Lay} (h : mayl L = true) (hn : L.n < 4) (u : Int) : lsize L u ≤ lsize (L.wn (L.n + 1)) u ∧ (8 ≤ L.p → lsize (L.wn (L.n + 1)) u ≠ lsize L u) :=
  more_arith (flg L + pts L u * (2 * L.c)) (cols L u) L.n L.p _ _ (cols_ge L u) (by have := (mayl_is h).2.2.1; omega) (lsize_eq h u) (lsize_eq (mayl_wn h hn) u)
theorem lsize_seven {L : Lay} (h : mayl L = true) (ht : L.t = 6) (u : Int) : lsize (L.wt 7) u = lsize L u + L.c := by
  rw [lsize_eq h, lsize_eq (mayl_wt h ht)]
  have e : lbits (L.wt 7) u = lbits L u + 8 * L.c := by
    unfold lbits pts cols flg Lay.wt
    simp only [ht]
    have k : ∀ y : Int, (y + 4) * (2 * L.c) = y * (2 * L.c) + 8 * L.c := fun y => by grind
    split <;> simp [k] <;> omega
  rw [e]
  omega
theorem lsize_bd {L : Lay} (h : mayl L = true) (u : Int) : 0 ≤ lsize L u ∧ lsize L u ≤ 200 := by
  rw [lsize_eq h]
  have p1 : 1 ≤ pts L u ∧ pts L u ≤ 16 := by unfold pts; (repeat' split) <;> omega
  have p2 : 1 ≤ cols L u ∧ cols L u ≤ 4 := by unfold cols; (repeat' split) <;> omega
  obtain ⟨h1, h2, h3, h4, h5, h6, h7⟩ := mayl_is h
  obtain ⟨n1, n2⟩ := np_bd h
  obtain ⟨f1, f2⟩ := flg_bd h
  unfold lbits
  have a1 : pts L u * (2 * L.c) ≤ 16 * 64 := Int.mul_le_mul p1.2 (by omega) (by omega) (by omega)
  have a2 : 1 * 2 ≤ pts L u * (2 * L.c) := Int.mul_le_mul p1.1 (by omega) (by omega) (by omega)
  have a3 : cols L u * (L.n * L.p) ≤ 4 * 64 := Int.mul_le_mul p2.2 n2 (by omega) (by omega)
  have a4 : 1 * 1 ≤ cols L u * (L.n * L.p) := Int.mul_le_mul p2.1 n1 (by omega) (by omega)
  omega
/-- A layout may be just if each of its fields may, in a layout that may be without it. -/
theorem mayl_each (L : Lay) : mayl L = (mayl ⟨L.t, 8, 8, 8, 1, 2, fun _ => 0⟩ && mayl ⟨4, L.c, 8, 8, 1, 2, fun _ => 0⟩ && mayl ⟨4, 8, L.p, 8, 1, 2, fun _ => 0⟩ && mayl ⟨4, 8, 8, 8, L.n, 2, fun _ => 0⟩ &&
    (if (L.t == 5) = true then mayl ⟨5, 8, 8, 0, 1, L.r, fun _ => 0⟩ else mayl ⟨4, 8, 8, L.f, 1, 2, fun _ => 0⟩)) := by
  unfold mayl
  dsimp only
  by_cases h : L.t = 5
  · simp [h, Bool.and_assoc]
  · simp [h, Bool.and_assoc]
end Go.Proofs.YtmpckombelebjaaDoor
