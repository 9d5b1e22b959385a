/- Numbers one behind the other, and their bits; a list of them in memory; what may does. -/
import Derived.Test.YthnmofnlcepffaaBitI
namespace Go.Proofs.Ythnmofnlcepffaa
open Go.RowKit Go.BigFrame
set_option linter.unusedSimpArgs false
set_option linter.unusedVariables false
/-- Where the number i begins. -/
def pl (M : Nat → Nat) : Nat → Nat
  | 0 => 0
  | i + 1 => pl M i + M i
/-- The bits of the first i numbers. -/
def bb (V : Nat → Int) (M : Nat → Nat) : Nat → Nat → Int
  | 0 => fun _ => 0
  | i + 1 => ex (bb V M i) (pl M i) (V i) (M i)
theorem pl_mono (M : Nat → Nat) {i j : Nat} (h : i ≤ j) : pl M i ≤ pl M j := by
  induction j with
  | zero => have : i = 0 := by omega
            rw [this]; exact Nat.le_refl _
  | succ j ih =>
    by_cases h1 : i ≤ j
    · have := ih h1
      show _ ≤ pl M j + M j
      omega
    · have : i = j + 1 := by omega
      rw [this]; exact Nat.le_refl _
theorem pl_le (M : Nat → Nat) : ∀ i, (∀ j, j < i → M j ≤ 32) → pl M i ≤ 32 * i
  | 0, _ => Nat.le_refl _
  | i + 1, h => by
    have := pl_le M i (fun j hj => h j (by omega))
    have := h i (by omega)
    show pl M i + M i ≤ _
    omega
theorem bb_bits (V : Nat → Int) (M : Nat → Nat) : ∀ i, Bits (bb V M i)
  | 0 => fun _ => .inl rfl
  | i + 1 => ex_bits (bb_bits V M i) _ _ _
theorem nb_bb (V : Nat → Int) (M : Nat → Nat) : ∀ i, (∀ j, j < i → 0 ≤ V j ∧ V j < 2 ^ M j) → ∀ j, j < i → nb (bb V M i) (pl M j) (M j) = V j
  | 0, _, j, hj => by omega
  | i + 1, h, j, hj => by
    by_cases he : j = i
    · subst he
      exact nb_ex _ _ _ _ (h j hj).1 (h j hj).2
    · show nb (ex (bb V M i) (pl M i) (V i) (M i)) (pl M j) (M j) = V j
      rw [nb_ex_lt _ _ _ _ (show pl M j + M j ≤ pl M i from pl_mono M (i := j + 1) (by omega))]
      exact nb_bb V M i (fun j hj => h j (by omega)) j (by omega)
/-- A list of numbers, each in so many bits. -/
structure Ld (w : World) (a : Option Addr) (n : Nat) (V N : Nat → Int) : Prop where
  len : n ≤ 140737488355328
  at_ : ∀ i, i < n → ∃ b o, a = some ⟨b, o, none⟩ ∧ w.cell? ⟨b, o + i * 2, none⟩ = some (.int .u32 (V i)) ∧ w.cell? ⟨b, o + i * 2 + 1, none⟩ = some (.int .i64 (N i))
  val : ∀ i, i < n → 0 ≤ V i ∧ V i < 4294967296
  num : ∀ i, i < n → In64 (N i)
theorem Ld.some {w : World} {a : Option Addr} {n : Nat} {V N : Nat → Int} (B : Ld w a n V N) (h : 0 < n) : ∃ b o, a = .some ⟨b, o, none⟩ ∧ b < w.heap.size ∧ ∀ i, i < n → w.cell? ⟨b, o + i * 2, none⟩ = .some (.int .u32 (V i)) ∧ w.cell? ⟨b, o + i * 2 + 1, none⟩ = .some (.int .i64 (N i)) := by
  obtain ⟨b, o, h1, h2, h3⟩ := B.at_ 0 h
  refine ⟨b, o, h1, cell_lt h2, fun i hi => ?_⟩
  obtain ⟨b', o', h4, h5⟩ := B.at_ i hi
  rw [h1] at h4
  cases h4
  exact h5
theorem Ld.later {w w' : World} {a : Option Addr} {n : Nat} {V N : Nat → Int} (B : Ld w a n V N) (e : Ext w w') : Ld w' a n V N :=
  ⟨B.len, fun i hi => by obtain ⟨b, o, h1, h2, h3⟩ := B.at_ i hi; exact ⟨b, o, h1, e.later h2, e.later h3⟩, B.val, B.num⟩
theorem Stp.chg {w w' : World} {r sh : Nat} {u u' : Value} (h : Stp w w' r sh u u') : Chg (In r sh u) w w' := h.1
/-- Bytes over changes elsewhere. -/
theorem Bs.chg {S : Nat → Prop} {w w' : World} {g o n : Nat} {f : Nat → Int} (B : Bs w (.some ⟨g, o, none⟩) n f) (h : Chg S w w') (hg : ¬ S g) : Bs w' (.some ⟨g, o, none⟩) n f :=
  ⟨B.len, fun i hi => by obtain ⟨b, o', h1, h2⟩ := B.at_ i hi; cases h1; exact ⟨_, _, rfl, h.cell hg h2⟩, B.byte⟩
set_option maxHeartbeats 1600000 in
theorem may_yes (x : Int) (n : Nat) (h0 : 0 ≤ x) (h1 : x < 2 ^ n) (hn : n ≤ 32) (w : World) :
    Calls Try.prog 27 #[.agg #[.int .u32 x, .int .i64 n]] w fun e w' => e = .returned (.bool true) ∧ Ext w w' := by
  have EX := Ext.refl w
  have hz : x / 2 ^ n = 0 := div_small h0 h1
  have x1 : x < 4294967296 := by have := pow32 hn; omega
  clear h1
  go_enter Try.func27, Try.ntmps27
  go_wp2
  go_ret
  exact ⟨rfl, EX.alloc _⟩
set_option maxHeartbeats 1600000 in
theorem may_no (x n : Int) (h0 : 0 ≤ x) (h1 : x < 4294967296) (hn : In64 n) (h : ¬ (0 ≤ n ∧ n ≤ 32 ∧ x < 2 ^ n.toNat)) (w : World) :
    Calls Try.prog 27 #[.agg #[.int .u32 x, .int .i64 n]] w fun e w' => e = .returned (.bool false) ∧ Ext w w' := by
  have EX := Ext.refl w
  rcases (show n < 0 ∨ (0 ≤ n ∧ 32 < n) ∨ (0 ≤ n ∧ n ≤ 32 ∧ 2 ^ n.toNat ≤ x) by omega) with k | ⟨k, k'⟩ | ⟨k, k', k''⟩
  · have k2 : ¬ 0 ≤ n := by omega
    clear h
    go_enter Try.func27, Try.ntmps27
    go_wp2
    go_ret
    exact ⟨rfl, EX.alloc _⟩
  · have k2 : ¬ n ≤ 32 := by omega
    clear h
    go_enter Try.func27, Try.ntmps27
    go_wp2
    go_ret
    exact ⟨rfl, EX.alloc _⟩
  · obtain ⟨j, rfl⟩ := Int.eq_ofNat_of_zero_le k
    have hj : (x / 2 ^ j == 0) = false := by
      have := div_great k''
      simpa using this
    have hj2 : j ≤ 32 := by omega
    clear h k k' k''
    go_enter Try.func27, Try.ntmps27
    go_wp2
    go_ret
    exact ⟨rfl, EX.alloc _⟩
end Go.Proofs.Ythnmofnlcepffaa
