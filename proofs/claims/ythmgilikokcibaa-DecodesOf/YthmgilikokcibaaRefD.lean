/- Boxes of twelve digits in memory; what the given function gouacheref01.less does, called at any two numbers' digits of which the second is not above the first. -/
import Derived.Test.YthmgilikokcibaaRefC
import Derived.Test.YthmgilikokcibaaBox
import Derived.Deep.LoopGhost
import Derived.Deep.Light
namespace Go.Proofs.Ythmgilikokcibaa
open Go.RowKit Go.BigFrame
set_option linter.unusedSimpArgs false
set_option linter.unusedVariables false

/-- Twelve cells hold the integers f 0 .. f 11. -/
theorem dig_new (w : World) (f : Nat → Int) (t : TypeId) {b : Nat} (hb : w.heap.size = b) : ∀ i, i < 12 → (w.alloc (.cells #[.int .i64 (f 0), .int .i64 (f 1), .int .i64 (f 2), .int .i64 (f 3), .int .i64 (f 4), .int .i64 (f 5), .int .i64 (f 6), .int .i64 (f 7), .int .i64 (f 8), .int .i64 (f 9), .int .i64 (f 10), .int .i64 (f 11)] t)).cell? ⟨b, i, none⟩ = some (.int .i64 (f i)) := by
  subst hb
  intro i hi
  rw [World.cell?_alloc_new w _ t i]
  match i, hi with
  | 0, _ => rfl | 1, _ => rfl | 2, _ => rfl | 3, _ => rfl | 4, _ => rfl | 5, _ => rfl | 6, _ => rfl | 7, _ => rfl | 8, _ => rfl | 9, _ => rfl | 10, _ => rfl | 11, _ => rfl
theorem dig_later {w w' : World} (h : Ext w w') {b : Nat} {f : Nat → Int} (c : ∀ i, i < 12 → w.cell? ⟨b, i, none⟩ = some (.int .i64 (f i))) : ∀ i, i < 12 → w'.cell? ⟨b, i, none⟩ = some (.int .i64 (f i)) :=
  fun i hi => Ext.later h (c i hi)
theorem dig_set {v : World} {b : Nat} {f : Nat → Int} (c : ∀ i, i < 12 → v.cell? ⟨b, i, none⟩ = some (.int .i64 (f i))) (k : Nat) (x : Int) : ∀ i, i < 12 → (v.setCell ⟨b, k, none⟩ (.int .i64 x)).cell? ⟨b, i, none⟩ = some (.int .i64 (upd f k x i)) := by
  intro i hi
  unfold upd
  by_cases h : i = k
  · subst h; rw [if_pos rfl]; exact cell_same (There.of (c i hi))
  · rw [if_neg h]; exact cell_skip (.inr (by omega)) (c i hi)
theorem dig_skip {v : World} {b b' o' : Nat} {f : Nat → Int} {x : Value} (hne : b' ≠ b) (c : ∀ i, i < 12 → v.cell? ⟨b, i, none⟩ = some (.int .i64 (f i))) : ∀ i, i < 12 → (v.setCell ⟨b', o', none⟩ x).cell? ⟨b, i, none⟩ = some (.int .i64 (f i)) :=
  fun i hi => cell_skip (.inl hne) (c i hi)
theorem dig_drew {v : World} {b : Nat} {f : Nat → Int} (c : ∀ i, i < 12 → v.cell? ⟨b, i, none⟩ = some (.int .i64 (f i))) : ∀ i, i < 12 → v.drew.cell? ⟨b, i, none⟩ = some (.int .i64 (f i)) := c
theorem dig_eq {v : World} {b : Nat} {f g : Nat → Int} (c : ∀ i, i < 12 → v.cell? ⟨b, i, none⟩ = some (.int .i64 (f i))) (h : ∀ i, i < 12 → f i = g i) : ∀ i, i < 12 → v.cell? ⟨b, i, none⟩ = some (.int .i64 (g i)) :=
  fun i hi => by rw [c i hi, h i hi]
theorem thaw_later {w w' : World} (h : Ext w w') {b : Nat} {f : Nat → Int} (c : ∀ i, i < 12 → w.cell? ⟨b, i, none⟩ = some (.int .i64 (f i))) (z : ∀ i, i < 12 → w.frozen? ⟨b, i, none⟩ = false) : ∀ i, i < 12 → w'.frozen? ⟨b, i, none⟩ = false :=
  fun i hi => Ext.thaw h (c i hi) (z i hi)
theorem thaw_set {v : World} {b b' o' : Nat} {x : Value} (z : ∀ i, i < 12 → v.frozen? ⟨b, i, none⟩ = false) : ∀ i, i < 12 → (v.setCell ⟨b', o', none⟩ x).frozen? ⟨b, i, none⟩ = false :=
  fun i hi => by have := z i hi; go_simp
theorem thaw_drew {v : World} {b : Nat} (z : ∀ i, i < 12 → v.frozen? ⟨b, i, none⟩ = false) : ∀ i, i < 12 → v.drew.frozen? ⟨b, i, none⟩ = false := z
/-- Borrows: the carries of the sum of what is left and what was taken away. -/
theorem bw_rem (A B : Int) (i : Nat) : dg A i - cy (A - B) B i - dg B i = dg (A - B) i - 65536 * cy (A - B) B (i + 1) := by
  have := dg_add (A - B) B i
  rw [Int.sub_add_cancel] at this
  omega
theorem bw_0 (A B : Int) : cy (A - B) B 0 = 0 := by unfold cy; simp
theorem bw_12 {A B : Int} (hB : 0 ≤ B) (hAB : B ≤ A) (hA : InD A) : cy (A - B) B 12 = 0 := by
  have h := hA.2
  unfold cy
  have e : (65536 : Int) ^ 12 = 6277101735386680763835789423207666416102355444464034512896 := by decide
  rw [e, Int.emod_eq_of_lt (by omega) (by omega), Int.emod_eq_of_lt (by omega) (by omega)]
  exact Int.ediv_eq_zero_of_lt (by omega) (by omega)
/-- The digits ahead of round k. -/
def lessAt (A B : Int) (k i : Nat) : Int := if i < k then dg (A - B) i else if i = k then dg A k - cy (A - B) B k else dg A i
theorem lessAt_no {A B : Int} {k : Nat} (h : cy (A - B) B (k + 1) = 0) (i : Nat) : upd (lessAt A B k) k (dg A k - cy (A - B) B k - dg B k) i = lessAt A B (k + 1) i := by
  have e := bw_rem A B k
  unfold upd lessAt
  by_cases h1 : i = k
  · rw [if_pos h1, if_pos (by omega), h1]; omega
  · rw [if_neg h1]
    by_cases h2 : i < k
    · rw [if_pos h2, if_pos (by omega)]
    · rw [if_neg h2, if_neg h1, if_neg (by omega)]
      by_cases h3 : i = k + 1
      · rw [if_pos h3, h3, h]; omega
      · rw [if_neg h3]
theorem lessAt_yes {A B : Int} {k : Nat} (h : cy (A - B) B (k + 1) = 1) (i : Nat) : upd (upd (upd (lessAt A B k) k (dg A k - cy (A - B) B k - dg B k)) k (dg A k - cy (A - B) B k - dg B k + 65536)) (k + 1) (dg A (k + 1) - 1) i = lessAt A B (k + 1) i := by
  have e := bw_rem A B k
  unfold upd lessAt
  by_cases h3 : i = k + 1
  · rw [if_pos h3, if_neg (by omega), if_pos h3, h]
  · rw [if_neg h3]
    by_cases h1 : i = k
    · rw [if_pos h1, if_pos (by omega), h1]; omega
    · rw [if_neg h1, if_neg h1]
      by_cases h2 : i < k
      · rw [if_pos h2, if_pos (by omega)]
      · rw [if_neg h2, if_neg h1, if_neg (by omega), if_neg h3]
set_option maxHeartbeats 8000000 in
theorem less_any (A B : Int) (hB : 0 ≤ B) (hAB : B ≤ A) (hA : InD A) (w : World) : Calls Try.prog 49 #[(.agg #[.int .i64 (dg (A) 0), .int .i64 (dg (A) 1), .int .i64 (dg (A) 2), .int .i64 (dg (A) 3), .int .i64 (dg (A) 4), .int .i64 (dg (A) 5), .int .i64 (dg (A) 6), .int .i64 (dg (A) 7), .int .i64 (dg (A) 8), .int .i64 (dg (A) 9), .int .i64 (dg (A) 10), .int .i64 (dg (A) 11)]), (.agg #[.int .i64 (dg (B) 0), .int .i64 (dg (B) 1), .int .i64 (dg (B) 2), .int .i64 (dg (B) 3), .int .i64 (dg (B) 4), .int .i64 (dg (B) 5), .int .i64 (dg (B) 6), .int .i64 (dg (B) 7), .int .i64 (dg (B) 8), .int .i64 (dg (B) 9), .int .i64 (dg (B) 10), .int .i64 (dg (B) 11)])] w fun e w' => e = .returned (.agg #[.int .i64 (dg (A - B) 0), .int .i64 (dg (A - B) 1), .int .i64 (dg (A - B) 2), .int .i64 (dg (A - B) 3), .int .i64 (dg (A - B) 4), .int .i64 (dg (A - B) 5), .int .i64 (dg (A - B) 6), .int .i64 (dg (A - B) 7), .int .i64 (dg (A - B) 8), .int .i64 (dg (A - B) 9), .int .i64 (dg (A - B) 10), .int .i64 (dg (A - B) 11)]) ∧ Ext w w' := by
  have T : Hid (cy (A - B) B 12 = 0) := bw_12 hB hAB hA
  clear hB hAB hA
  have EX := Ext.refl w
  go_enter Try.func49, Try.ntmps49
  go_wp2
  go_loopg [5] 12 (fun gk i wr => ∃ k : Nat, k + gk = 12 ∧ i = .int .i64 k ∧ Ext w wr ∧ w.heap.size + 1 + 1 < wr.heap.size ∧ (∀ i, i < 12 → wr.cell? ⟨w.heap.size, i, none⟩ = some (.int .i64 (lessAt A B k i))) ∧ (∀ i, i < 12 → wr.frozen? ⟨w.heap.size, i, none⟩ = false) ∧
    (∀ i, i < 12 → wr.cell? ⟨w.heap.size + 1, i, none⟩ = some (.int .i64 (dg B i))) ∧ (∀ i, i < 12 → wr.cell? ⟨w.heap.size + 1 + 1, i, none⟩ = some (.int .i64 0)) ∧ (∀ i, i < 12 → wr.frozen? ⟨w.heap.size + 1 + 1, i, none⟩ = false))
  case atStart =>
    refine ⟨0, rfl, rfl, by repeat (first | with_reducible exact EX | with_reducible refine Ext.alloc ?_ _ | with_reducible refine Ext.drew ?_ | with_reducible refine Ext.drewN ?_ _ | with_reducible refine Ext.setCell ?_ (by first | (simp; done) | omega | (dsimp only; omega)) _), by simp, ?_, ?_, ?_, ?_, ?_⟩
    · intro i hi
      rw [show lessAt A B 0 i = dg A i by unfold lessAt; rw [bw_0]; split <;> (try split) <;> (try subst i) <;> first | omega | rfl]
      exact old1 (old1 (dig_new w (dg A) _ rfl i hi))
    · intro i hi; go_simp
    · intro i hi
      exact old1 (dig_new (w.alloc _) (dg B) _ (by simp) i hi)
    · intro i hi
      exact dig_new ((w.alloc _).alloc _) (fun _ => 0) _ (by simp) i hi
    · intro i hi; go_simp
  case round =>
    obtain ⟨k, hk, rfl, EX, l2, c0, z0, c1, c2, z2⟩ := hrel
    by_cases hlt : k < 12
    · have u0 := dg_0 A k; have u1 := dg_1 A k; have v0 := dg_0 B k; have v1 := dg_1 B k; have b0 := cy_0 (A - B) B k; have b1 := cy_1 (A - B) B k
      have e1 := bw_rem A B k; have d0 := dg_0 (A - B) k; have d1 := dg_1 (A - B) k; have b2 := cy_0 (A - B) B (k + 1); have b3 := cy_1 (A - B) B (k + 1)
      have ck := c0 k hlt
      rw [show lessAt A B k k = dg A k - cy (A - B) B k by unfold lessAt; rw [if_neg (by omega), if_pos rfl]] at ck
      have cb := c1 k hlt
      have zk := z0 k hlt
      have H : Hid ((∀ i, i < 12 → wr.cell? ⟨w.heap.size, i, none⟩ = some (.int .i64 (lessAt A B k i))) ∧ (∀ i, i < 12 → wr.frozen? ⟨w.heap.size, i, none⟩ = false) ∧
        (∀ i, i < 12 → wr.cell? ⟨w.heap.size + 1, i, none⟩ = some (.int .i64 (dg B i))) ∧ (∀ i, i < 12 → wr.cell? ⟨w.heap.size + 1 + 1, i, none⟩ = some (.int .i64 0)) ∧ (∀ i, i < 12 → wr.frozen? ⟨w.heap.size + 1 + 1, i, none⟩ = false)) := ⟨c0, z0, c1, c2, z2⟩
      have E1 : Hid (dg A k - cy (A - B) B k - dg B k = dg (A - B) k - 65536 * cy (A - B) B (k + 1)) := e1
      rcases (show cy (A - B) B (k + 1) = 0 ∨ cy (A - B) B (k + 1) = 1 by omega) with hb | hb
      · have hn : ¬ dg A k - cy (A - B) B k - dg B k < 0 := by omega
        have HB : Hid (cy (A - B) B (k + 1) = 0) := hb
        clear b2 b3 hb c0 z0 c1 c2 z2 e1
        go_wp2
        go_region
        go_wp2
        go_roundg (gk - 1)
        case measure => omega
        case rel =>
          go_light
          obtain ⟨c0, z0, c1, c2, z2⟩ := H.out
          refine ⟨k + 1, by omega, by go_num, by repeat (first | with_reducible exact EX | with_reducible refine Ext.alloc ?_ _ | with_reducible refine Ext.drew ?_ | with_reducible refine Ext.drewN ?_ _ | with_reducible refine Ext.setCell ?_ (by first | (simp; done) | omega | (dsimp only; omega)) _), by simp; omega, ?_, ?_, ?_, ?_, ?_⟩
          · refine dig_eq ?_ (fun i _ => lessAt_no HB.out i)
            repeat (first | with_reducible exact c0 | with_reducible refine dig_drew ?_ | with_reducible refine dig_set ?_ _ _)
          · repeat (first | with_reducible exact z0 | with_reducible refine thaw_drew ?_ | with_reducible refine thaw_set ?_)
          · repeat (first | with_reducible exact c1 | with_reducible refine dig_drew ?_ | with_reducible refine dig_skip (by omega) ?_)
          · repeat (first | with_reducible exact c2 | with_reducible refine dig_drew ?_ | with_reducible refine dig_skip (by omega) ?_)
          · repeat (first | with_reducible exact z2 | with_reducible refine thaw_drew ?_ | with_reducible refine thaw_set ?_)
      · have hn : dg A k - cy (A - B) B k - dg B k < 0 := by omega
        have h11 : k + 1 < 12 := by
          rcases Nat.lt_or_ge (k + 1) 12 with h | h
          · exact h
          · have e : k + 1 = 12 := by omega
            rw [e, T.out] at hb; omega
        have cn := c0 (k + 1) h11
        rw [show lessAt A B k (k + 1) = dg A (k + 1) by unfold lessAt; rw [if_neg (by omega), if_neg (by omega)]] at cn
        have zn := z0 (k + 1) h11
        have x0 := dg_0 A (k + 1); have x1 := dg_1 A (k + 1)
        have HB : Hid (cy (A - B) B (k + 1) = 1) := hb
        clear b2 b3 hb c0 z0 c1 c2 z2 e1
        go_wp2
        go_region
        go_wp2
        go_roundg (gk - 1)
        case measure => omega
        case rel =>
          go_light
          obtain ⟨c0, z0, c1, c2, z2⟩ := H.out
          refine ⟨k + 1, by omega, by go_num, by repeat (first | with_reducible exact EX | with_reducible refine Ext.alloc ?_ _ | with_reducible refine Ext.drew ?_ | with_reducible refine Ext.drewN ?_ _ | with_reducible refine Ext.setCell ?_ (by first | (simp; done) | omega | (dsimp only; omega)) _), by simp; omega, ?_, ?_, ?_, ?_, ?_⟩
          · refine dig_eq ?_ (fun i _ => lessAt_yes HB.out i)
            repeat (first | with_reducible exact c0 | with_reducible refine dig_drew ?_ | with_reducible refine dig_set ?_ _ _)
          · repeat (first | with_reducible exact z0 | with_reducible refine thaw_drew ?_ | with_reducible refine thaw_set ?_)
          · repeat (first | with_reducible exact c1 | with_reducible refine dig_drew ?_ | with_reducible refine dig_skip (by omega) ?_)
          · repeat (first | with_reducible exact c2 | with_reducible refine dig_drew ?_ | with_reducible refine dig_skip (by omega) ?_)
          · repeat (first | with_reducible exact z2 | with_reducible refine thaw_drew ?_ | with_reducible refine thaw_set ?_)
    · obtain rfl : k = 12 := by omega
      have e12 : ∀ i, i < 12 → lessAt A B 12 i = dg (A - B) i := fun i hi => by unfold lessAt; rw [if_pos hi]
      replace c0 := dig_eq c0 e12
      clear T e12
      go_wp2
      refine bodyPost_ret (by simp only [results, Try.results49]; simp [go_sem, *]; try rfl) rfl ⟨rfl, ?_⟩
      repeat (first | with_reducible exact EX | with_reducible refine Ext.alloc ?_ _ | with_reducible refine Ext.drew ?_ | with_reducible refine Ext.drewN ?_ _ | with_reducible refine Ext.setCell ?_ (by first | (simp; done) | omega | (dsimp only; omega)) _)
end Go.Proofs.Ythmgilikokcibaa
