/- What the given reference of layouts does: whether a number is of a list, and the tests of a layout. -/
import Derived.Test.YthlhmfjopjikpaaDoorProg
import Derived.Test.YthlhmfjopjikpaaDoorBoxL
import Derived.Test.YthlhmfjopjikpaaDoorMany
import Derived.Deep.LoopGhost
import Derived.Deep.Light
namespace Go.Proofs.YthlhmfjopjikpaaDoor
open Go.RowKit Go.BigFrame
set_option linter.unusedSimpArgs false
set_option linter.unusedVariables false
/-- A list of whole numbers that lies in memory at a block's beginning. -/
def Lies (w : World) (b : Nat) (l : List Int) : Prop := ∀ i, i < l.length → w.cell? ⟨b, i, none⟩ = some (.int .i64 (l[i]?.getD 0))
theorem Lies.later {w w' : World} {b : Nat} {l : List Int} (h : Lies w b l) (e : Ext w w') : Lies w' b l := fun i hi => e.later (h i hi)
theorem Lies.new {w : World} {b : Nat} {l : List Int} {cs : Array Value} {t : TypeId} (hb : w.heap.size = b) (h : cs.toList = l.map (.int .i64 ·)) : Lies (w.alloc (.cells cs t)) b l := fun i hi => by
  subst hb
  refine new1 ?_
  rw [← Array.getElem?_toList, h, List.getElem?_map, List.getElem?_eq_getElem hi]
  rfl
theorem not_yet {n : Int} {l : List Int} {k : Nat} (h : ∀ j, j < k → l[j]?.getD 0 ≠ n) (hk : ¬ l[k]?.getD 0 = n) : ∀ j, j < k + 1 → l[j]?.getD 0 ≠ n := fun j hj => by
  by_cases e : j = k
  · subst e; exact hk
  · exact h j (by omega)
theorem is_in {n : Int} {l : List Int} {k : Nat} (hk : k < l.length) (h : l[k]?.getD 0 = n) : n ∈ l := by
  rw [List.getElem?_eq_getElem hk] at h
  exact h ▸ List.getElem_mem hk
theorem not_in {n : Int} {l : List Int} (h : ∀ j, j < l.length → l[j]?.getD 0 ≠ n) : ¬ n ∈ l := fun hm => by
  obtain ⟨j, hj, e⟩ := List.getElem_of_mem hm
  exact h j hj (by rw [List.getElem?_eq_getElem hj]; exact e)
set_option maxHeartbeats 4000000 in
theorem in_any (n : Int) (l : List Int) (b c : Nat) (hl : l.length ≤ 1000) (w : World) (L : Lies w b l) :
    Calls Tryd.prog 74 #[.int .i64 n, .slice (some ⟨b, 0, none⟩) l.length c] w fun e w' => e = .returned (.bool (decide (n ∈ l))) ∧ Ext w w' := by
  have HL : Hid (Lies w b l) := L
  clear L
  obtain ⟨m, hm⟩ : ∃ m, l.length = m := ⟨_, rfl⟩
  rw [hm] at hl ⊢
  go_enter Tryd.func74, Tryd.ntmps74
  go_wp2
  go_loopg [5] m (fun gk iv wr => ∃ k : Nat, k + gk = m ∧ iv = .int .i64 k ∧ Hid (∀ j, j < k → l[j]?.getD 0 ≠ n) ∧ Ext w wr)
  case atStart => exact ⟨0, by omega, rfl, fun j hj => by omega, Ext.refl w⟩
  case round =>
    obtain ⟨k, hk, rfl, HN, EX⟩ := hrel
    by_cases hlt : k < m
    · have hki : (k : Int) < (m : Int) := by omega
      have c1 := EX.later (HL.out k (by omega))
      obtain ⟨x, hx⟩ : ∃ x, l[k]?.getD 0 = x := ⟨_, rfl⟩
      rw [hx] at c1
      obtain ⟨v, hv⟩ : ∃ v, v = wr := ⟨_, rfl⟩
      subst hv
      by_cases hxn : (x == n) = true
      · go_wp2
        go_ret
        have e : x = n := by simpa using hxn
        exact ⟨by rw [decide_eq_true (is_in (l := l) (k := k) (by omega) (by omega))]; rfl, EX⟩
      · have hxn : (x == n) = false := by simpa using hxn
        go_wp2
        go_roundg (gk - 1)
        case measure => omega
        case rel => exact ⟨k + 1, by omega, by go_num, not_yet HN.out (by rw [hx]; simpa using hxn), EX⟩
    · have hki : ¬ ((k : Int) < (m : Int)) := by omega
      go_wp2
      go_ret
      exact ⟨by rw [decide_eq_false (not_in fun j hj => HN.out j (by omega))]; rfl, EX⟩
end Go.Proofs.YthlhmfjopjikpaaDoor
