/- As Reads, where of the operations that do not only read the first two have no order between them. -/
import Derived.Test.YthlhmfjopjikpaaDoorReads
namespace Go.Proofs.YthlhmfjopjikpaaDoor
open Go.RowKit
set_option linter.unusedVariables false
section
variable {P : Program} {ops : Array Oper} {Q : Exit → Act → World → Prop} {S : World → Prop} {np : Nat}
theorem fork_hold {i j : Nat} {ks : List Nat} {oi oj : Oper} {r : List Oper} {n : Nat} {listed : Array Bool} {a : Act} {w : World} (hi : ops[i]? = some oi) (hj : ops[j]? = some oj) (hf : Fits ops ks r) (hr : Region.ready .any ops listed = [i, j])
    (c1 : chainB ops (j :: ks) (listed.setIfInBounds i true) = true) (c2 : chainB ops (i :: ks) (listed.setIfInBounds j true) = true) (hd : (ks.drop n).all (fun k => decide (np ≤ k)) = true)
    (h1 : wpHold P ops Q S (n + 2) (oi :: oj :: r) a w) (h2 : wpHold P ops Q S (n + 2) (oj :: oi :: r) a w) : wpAnyS P ops Q S np (ks.length + 2) listed a w := by
  refine ⟨fun e => (by rw [hr] at e; cases e), fun k hk => ?_⟩
  rw [hr] at hk
  simp only [List.mem_cons, List.not_mem_nil, or_false] at hk
  rcases hk with rfl | rfl
  · exact wpOp_mono (fun a' w' h' => ⟨fun _ => h'.1, chain_hold (j :: ks) (oj :: r) (n + 1) _ a' w' ⟨oj, r, rfl, hj, hf⟩ (by simpa using hd) c1 h'.2⟩) (op_of_list hi h1)
  · exact wpOp_mono (fun a' w' h' => ⟨fun _ => h'.1, chain_hold (i :: ks) (oi :: r) (n + 1) _ a' w' ⟨oi, r, rfl, hi, hf⟩ (by simpa using hd) c2 h'.2⟩) (op_of_list hj h2)
def forkB (f : Nat → Bool) (n np : Nat) (l : List Oper) : Bool :=
  Region.noSelect l.toArray && takesB l.toArray (idxB f 0 l) (Array.replicate l.length false) &&
  (match idxB (fun i => !f i) 0 l with
    | i :: j :: ks => (Region.ready .any l.toArray (marks (idxB f 0 l) (Array.replicate l.length false)) == [i, j]) && chainB l.toArray (j :: ks) ((marks (idxB f 0 l) (Array.replicate l.length false)).setIfInBounds i true) &&
        chainB l.toArray (i :: ks) ((marks (idxB f 0 l) (Array.replicate l.length false)).setIfInBounds j true) && (ks.drop n).all (fun k => decide (np ≤ k))
    | _ => false) &&
  (idxB f 0 l).all (fun k => decide (k < np)) &&
  (List.range l.length).all fun k => decide (k < np) || (match l[k]? with | none => true | some o => (List.range np).all fun j => o.after.any fun e => decide (e.on = j) && Region.binds .any e)
theorem wp_region_fork {l : List Oper} {id : Nat} {a : Act} {w : World} (f : Nat → Bool) (n np : Nat) (S : World → Prop) (hm : P.follows .mixedOrders = true) (hB : forkB f n np l = true) (hQ : ∀ c a x v w, Q (.panic c) (a.put x v) w → Q (.panic c) a w) (hS : S w.drew)
    (h : ∀ l1 o1 o2 l2, pickB f 0 l = l1 → pickB (fun i => !f i) 0 l = o1 :: o2 :: l2 → wpQuiet P l.toArray S (fun a' => wpHold P l.toArray Q S (n + 2) (o1 :: o2 :: l2) a' w.drew ∧ wpHold P l.toArray Q S (n + 2) (o2 :: o1 :: l2) a' w.drew) l1 a) : (Code.region id l.toArray true).wp P Q a w := by
  simp only [forkB, Bool.and_eq_true] at hB
  obtain ⟨⟨⟨⟨b1, b2⟩, b3⟩, b4⟩, b6⟩ := hB
  have hwt : Waits l.toArray np := fun k o ho hk j hj => by
    have hkl : k < l.length := by simpa using (Array.getElem?_eq_some_iff.1 ho).1
    have := List.all_eq_true.1 b6 k (List.mem_range.2 hkl)
    rw [List.getElem?_toArray] at ho
    simp only [ho, Bool.or_eq_true, decide_eq_true_eq] at this
    rcases this with h1 | h1
    · omega
    · have h2 := List.all_eq_true.1 h1 j (List.mem_range.2 hj)
      rw [Array.any_eq_true] at h2
      obtain ⟨n, hn, hx⟩ := h2
      simp only [Bool.and_eq_true, decide_eq_true_eq] at hx
      exact ⟨_, Array.getElem_mem hn, hx.1, hx.2⟩
  refine wp_region_any hm (wpAny_of_S (S := S) (np := np) _ _ _ _ ?_)
  have hlen := idx_len f l 0
  have hfit := fits_pick (ops := l.toArray) (fun i => !f i) l 0 (fun j => by simp)
  split at b3
  · rename_i i j ks he
    rw [he] at hfit hlen
    obtain ⟨oi, r1, e1, hi, o2, r2, rfl, hj, hf⟩ := hfit
    simp only [Bool.and_eq_true, beq_iff_eq] at b3
    obtain ⟨⟨⟨hr, c1⟩, c2⟩, hd⟩ := b3
    have key := takes_quiet (ops := l.toArray) (S := S) (fuel := ks.length + 2) hwt b1 hQ hS (idxB f 0 l) (pickB f 0 l) (Array.replicate l.length false) a (fits_pick f l 0 (fun j => by simp)) b4 b2
      (fun a' hN => fork_hold (P := P) (Q := Q) (S := S) (np := np) hi hj hf hr c1 c2 hd hN.1 hN.2) (h _ _ _ _ rfl e1)
    simp only [List.length_cons] at hlen
    rw [show (idxB f 0 l).length + (ks.length + 2) = l.length by omega] at key
    simpa using key
  · cases b3
end
end Go.Proofs.YthlhmfjopjikpaaDoor
