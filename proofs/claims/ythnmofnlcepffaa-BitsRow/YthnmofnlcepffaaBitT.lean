/- A row, the reference's row and a book, each in memory of its own. -/
import Derived.Test.YthnmofnlcepffaaBitS
namespace Go.Proofs.Ythnmofnlcepffaa
open Go.RowKit Go.BigFrame
set_option linter.unusedSimpArgs false
set_option linter.unusedVariables false
structure Rs (w v : World) (k r sh m : Nat) (u um ub : Value) (β : Nat → Int) (n : Nat) (γ : Nat → Int) (p i : Nat) (G L : Nat → Nat) : Prop where
  row : Row v r sh u β n
  ref : RR v m um γ p
  book : Bk v k ub i G L
  ext : Ext w v
  d1 : ∀ b, In r sh u b → ¬ In2 m um b
  d2 : ∀ b, In r sh u b → ¬ In3 k ub i G b
  d3 : ∀ b, In2 m um b → ¬ In3 k ub i G b
  n1 : ∀ b, In r sh u b → w.heap.size ≤ b
  n2 : ∀ b, In2 m um b → w.heap.size ≤ b
  n3 : ∀ b, In3 k ub i G b → w.heap.size ≤ b
section
variable {w v v' : World} {k r sh m : Nat} {u um ub : Value} {β : Nat → Int} {n : Nat} {γ : Nat → Int} {p i : Nat} {G L : Nat → Nat}
theorem Rs.later (S : Rs w v k r sh m u um ub β n γ p i G L) (h : Ext v v') : Rs w v' k r sh m u um ub β n γ p i G L :=
  ⟨S.row.later h, S.ref.later h, S.book.later h, S.ext.trans h, S.d1, S.d2, S.d3, S.n1, S.n2, S.n3⟩
theorem Rs.congr {δ : Nat → Int} (S : Rs w v k r sh m u um ub β n β n i G L) (hd : Bits δ) (h : ∀ j, j < n → β j = δ j) : Rs w v k r sh m u um ub δ n δ n i G L :=
  ⟨S.row.congr hd h, S.ref.congr hd h, S.book, S.ext, S.d1, S.d2, S.d3, S.n1, S.n2, S.n3⟩
theorem Rs.put {u' : Value} {β' : Nat → Int} {n' : Nat} (S : Rs w v k r sh m u um ub β n γ p i G L) (R : Row v' r sh u' β' n') (ST : Stp v v' r sh u u') : Rs w v' k r sh m u' um ub β' n' γ p i G L := by
  have hin : ∀ b, In r sh u' b → In r sh u b ∨ v.heap.size ≤ b := by
    rintro b (rfl | rfl | h)
    · exact .inl (.inl rfl)
    · exact .inl (.inr (.inl rfl))
    · exact (ST.2 b h).imp (fun e => .inr (.inr e)) id
  refine ⟨R, S.ref.chg ST.1 (fun b hb hs => S.d1 b hs hb), S.book.chg ST.1 (fun b hb hs => S.d2 b hs hb), ST.1.over S.ext S.n1, fun b hb h2 => ?_, fun b hb h3 => ?_, S.d3, fun b hb => ?_, S.n2, S.n3⟩
  · rcases hin b hb with h | h
    · exact S.d1 b h h2
    · have := S.ref.lt b h2; omega
  · rcases hin b hb with h | h
    · exact S.d2 b h h3
    · have := S.book.lt b h3; omega
  · rcases hin b hb with h | h
    · exact S.n1 b h
    · have := S.ext.more; omega
theorem Rs.put2 {um' : Value} {γ' : Nat → Int} {p' : Nat} (S : Rs w v k r sh m u um ub β n γ p i G L) (R : RR v' m um' γ' p') (ST : Stp2 v v' m um um') : Rs w v' k r sh m u um' ub β n γ' p' i G L := by
  have hin : ∀ b, In2 m um' b → In2 m um b ∨ v.heap.size ≤ b := by
    rintro b (rfl | h)
    · exact .inl (.inl rfl)
    · exact (ST.2 b h).imp (fun e => .inr e) id
  refine ⟨S.row.chg ST.1 (fun b hb hs => S.d1 b hb hs), R, S.book.chg ST.1 (fun b hb hs => S.d3 b hs hb), ST.1.over S.ext S.n2, fun b hb h2 => ?_, S.d2, fun b hb h3 => ?_, S.n1, fun b hb => ?_, S.n3⟩
  · rcases hin b h2 with h | h
    · exact S.d1 b hb h
    · have := S.row.lt b hb; omega
  · rcases hin b hb with h | h
    · exact S.d3 b h h3
    · have := S.book.lt b h3; omega
  · rcases hin b hb with h | h
    · exact S.n2 b h
    · have := S.ext.more; omega
theorem Rs.add {ub' : Value} {g l : Nat} (S : Rs w v k r sh m u um ub β n γ p i G L) (B : Bk v' k ub' (i + 1) (up G i g) (up L i l)) (C : Chg (fun b => b = k ∨ ub.ownBlock = some b) v v')
    (hu : ∀ b, ub'.ownBlock = some b → ub.ownBlock = some b ∨ v.heap.size ≤ b) (g1 : ¬ In r sh u g) (g2 : ¬ In2 m um g) (g3 : w.heap.size ≤ g) : Rs w v' k r sh m u um ub' β n γ p (i + 1) (up G i g) (up L i l) := by
  have h3 : ∀ b, (b = k ∨ ub.ownBlock = some b) → In3 k ub i G b := fun b hb => hb.imp id (fun e => .inl e)
  have hin : ∀ b, In3 k ub' (i + 1) (up G i g) b → In3 k ub i G b ∨ v.heap.size ≤ b ∨ b = g := by
    rintro b (rfl | h | ⟨j, hj, rfl⟩)
    · exact .inl (.inl rfl)
    · rcases hu b h with h | h
      · exact .inl (.inr (.inl h))
      · exact .inr (.inl h)
    · unfold up
      by_cases e : j = i
      · rw [if_pos e]; exact .inr (.inr rfl)
      · rw [if_neg e]; exact .inl (.inr (.inr ⟨j, by omega, rfl⟩))
  refine ⟨S.row.chg C (fun b hb hs => S.d2 b hb (h3 b hs)), S.ref.chg C (fun b hb hs => S.d3 b hb (h3 b hs)), B, C.over S.ext (fun b hb => S.n3 b (h3 b hb)), S.d1, fun b hb h => ?_, fun b hb h => ?_, S.n1, S.n2, fun b hb => ?_⟩
  · rcases hin b h with h | h | h
    · exact S.d2 b hb h
    · have := S.row.lt b hb; omega
    · exact g1 (h ▸ hb)
  · rcases hin b h with h | h | h
    · exact S.d3 b hb h
    · have := S.ref.lt b hb; omega
    · exact g2 (h ▸ hb)
  · rcases hin b hb with h | h | h
    · exact S.n3 b h
    · have := S.ext.more; omega
    · omega
theorem Rs.apart (S : Rs w v k r sh m u um ub β n γ p i G L) (C : Chg (In3 k ub i G) v v') : Row v' r sh u β n ∧ RR v' m um γ p ∧ Ext w v' :=
  ⟨S.row.chg C S.d2, S.ref.chg C S.d3, C.over S.ext S.n3⟩
end
theorem bs_lays {w w' : World} {β : Nat → Int} {n N c : Nat} {a : Option Addr} (hb : Bits β) (hn : n ≤ 524288) (hN : (n + 7) / 8 = N) (h : Lays w w' β n (.slice a N c)) : Bs w' a N (fun i => nb (zb β n) (8 * i) 8) := by
  obtain ⟨_, O, _⟩ := h
  rw [hN] at O
  by_cases h0 : N = 0
  · subst h0
    exact ⟨by omega, fun i hi => by omega, fun i hi => by omega⟩
  · obtain ⟨g, c', hs, _, _⟩ := O.form (by omega)
    cases hs
    exact bs_own O (Nat.le_refl _) (by omega) (fun i hi => nb_in (zb_bits hb n) (8 * i) 8)
theorem rbytes_lit (m n N : Nat) (u : Value) (β : Nat → Int) (w : World) (R : RR w m u β n) (hN : (n + 7) / 8 = N) :
    Calls Try.prog 24 #[.pointer (some ⟨m, 0, none⟩)] w fun e w' => ∃ a c, e = .returned (.slice a N c) ∧ Ext w w' ∧ Bs w' a N (fun i => nb (zb β n) (8 * i) 8) :=
  (rbytes_any m n u β w R).mono fun e w' h => by
    obtain ⟨ub, rfl, LY⟩ := h
    obtain ⟨a, c, rfl⟩ := own_slice LY.2.1
    subst hN
    exact ⟨a, c, rfl, LY.1, bs_lays R.bits R.le rfl LY⟩
/-- Both rows hold the same bits, and the lists that were answered are in the book. -/
def RowSo (w : World) (k r sh m i : Nat) (v : World) : Prop := ∃ u um ub β n G L, Rs w v k r sh m u um ub β n β n i G L ∧ n ≤ 32 * i
theorem rs_start {w v1 v2 : World} {cs : Array Value} {t : TypeId} (E1 : Ext w v1) (E2 : Ext v1 v2) (HR : ∀ β, Bits β → Row v1 (w.heap.size + 1) w.heap.size (.slice none 0 0) β 0) (HQ : ∀ β, Bits β → RR v2 v1.heap.size (.slice none 0 0) β 0)
    (hcs : cs.toList = vl 14 (bkf 0 (.slice none 0 0))) : RowSo w v2.heap.size (w.heap.size + 1) w.heap.size v1.heap.size 0 (v2.alloc (.cells cs t)) := by
  have hb : Bits (fun _ => 0) := fun i => .inl rfl
  have R := HR _ hb
  have Q := HQ _ hb
  have q1 := E1.more
  have q2 := E2.more
  have E3 : Ext v2 (v2.alloc (.cells cs t)) := (Ext.refl v2).alloc _
  have qm := Q.lt v1.heap.size (.inl rfl)
  have i2 : ∀ b, In2 v1.heap.size (.slice none 0 0) b → b = v1.heap.size := by
    rintro b (h | h)
    · exact h
    · cases h
  have i3 : ∀ b, In3 v2.heap.size (.slice none 0 0) 0 (fun _ => 0) b → b = v2.heap.size := by
    rintro b (h | h | ⟨i, hi, _⟩)
    · exact h
    · cases h
    · omega
  have i1 : ∀ b, In (w.heap.size + 1) w.heap.size (.slice none 0 0) b → w.heap.size ≤ b := by
    rintro b (h | h | h)
    · omega
    · omega
    · cases h
  refine ⟨.slice none 0 0, .slice none 0 0, .slice none 0 0, fun _ => 0, 0, fun _ => 0, fun _ => 0, ⟨(R.later E2).later E3, Q.later E3, ⟨Vm.ofList rfl hcs, World.ownsRow_nil _ _ _ _, fun i hi => by omega, fun i j hi => by omega, by simp [Value.ownBlock], fun i hi => by omega, fun i hi => by omega, by omega⟩, (E1.trans E2).trans E3,
    fun b h1 h2 => ?_, fun b h1 h2 => ?_, fun b h1 h2 => ?_, i1, fun b h => ?_, fun b h => ?_⟩, Nat.le_refl _⟩
  · have := i2 b h2; have := R.lt b h1; omega
  · have := i3 b h2; have := R.lt b h1; omega
  · have := i2 b h1; have := i3 b h2; omega
  · have := i2 b h; omega
  · have := i3 b h; omega
end Go.Proofs.Ythnmofnlcepffaa
