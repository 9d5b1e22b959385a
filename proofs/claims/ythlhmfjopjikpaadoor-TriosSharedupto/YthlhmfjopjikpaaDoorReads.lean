/- A region that draws its order, whose first operations only read, and whose others come one behind the other: the reads are taken first, as long as the cells that they read stay: laws that name no program. -/
import Derived.Test.YthlhmfjopjikpaaDoorMany
import Derived.OrdersHeld
namespace Go.Proofs.YthlhmfjopjikpaaDoor
open Go.RowKit
set_option linter.unusedVariables false
section
variable {P : Program} {ops : Array Oper} {Q : Exit → Act → World → Prop} {S : World → Prop} {np : Nat}

/-- Operations that yield a value and nothing else. -/
def plainB (o : Oper) : Bool := match o.op with
  | .move _ | .assign _ | .load _ _ | .nilCheck _ | .binOp _ _ _ _ _ | .unOp _ _ _ | .convert _ _ _ | .slice _ _ _ _ _ | .fieldAddr _ _ _ | .field _ _ _ | .indexAddr _ _ _ | .index _ _ _ | .extract _ _ => true
  | .call c => match c.callee with | .builtin .len => true | .builtin .cap => true | _ => false
  | _ => false
theorem val_of {s : Sem Value} {w w' : World} {n : Next} (h : (do pure (Next.value (← s)) : Sem Next).run P w = .ok n w') : ∃ v, n = .value v := by
  simp only [Sem.run_bind, Sem.run_pure] at h
  cases hs : s.run P w with
  | ok v w1 => rw [hs] at h; simp [Result.andThen] at h; exact ⟨v, h.1.symm⟩
  | halt x w1 => rw [hs] at h; simp [Result.andThen] at h
theorem plain_value {o : Oper} (hp : plainB o = true) (ρ : Operand → Value) {w w' : World} {n : Next} (h : (execOp ρ o).run P w = .ok n w') : ∃ v, n = .value v := by
  unfold plainB at hp
  unfold execOp at h
  split at hp <;> rename_i he <;> simp only [he] at h
  case h_4 =>
    split at h
    case h_4 =>
      split at h
      · cases h
      · simp only [Sem.run_bind] at h
        generalize Sem.run P program w = r1 at h
        cases r1 with
        | halt x w1 => simp [Result.andThen] at h
        | ok p w1 =>
          simp only [Result.andThen_ok] at h
          generalize Sem.run P (nilAhead _ _ _ _) w1 = r2 at h
          cases r2 with
          | halt x w2 => simp [Result.andThen] at h
          | ok b w2 =>
            simp only [Result.andThen_ok] at h
            split at h
            · simp [unsupported] at h
            · simp at h; exact ⟨_, h.1.symm⟩
      · simp at h; exact ⟨_, h.1.symm⟩
    all_goals first | (simp at h; exact ⟨_, h.1.symm⟩) | cases h
  case h_14 =>
    split at hp
    · rename_i he2
      simp only [resolve, he2, Sem.run_bind, Sem.run_pure, Result.andThen_ok, invoke, builtin] at h
      exact val_of (by simpa only [Sem.run_bind, Sem.run_pure] using h)
    · rename_i he2
      simp only [resolve, he2, Sem.run_bind, Sem.run_pure, Result.andThen_ok, invoke, builtin] at h
      exact val_of (by simpa only [Sem.run_bind, Sem.run_pure] using h)
    · cases hp
  all_goals first | exact val_of h | (simp at h; exact ⟨_, h.1.symm⟩) | cases hp

/-- Whatever order is picked from here on; behind each of the first np operations S holds. -/
def wpAnyS (P : Program) (ops : Array Oper) (Q : Exit → Act → World → Prop) (S : World → Prop) (np : Nat) : Nat → Array Bool → Act → World → Prop
  | 0, listed, a, w => Region.ready .any ops listed = [] ∧ Q .normal a w
  | fuel + 1, listed, a, w =>
    (Region.ready .any ops listed = [] → Q .normal a w) ∧
    ∀ i ∈ Region.ready .any ops listed, wpOp P ops Q i (fun a' w' => (i < np → S w') ∧ wpAnyS P ops Q S np fuel (listed.setIfInBounds i true) a' w') a w
theorem wpAny_of_S : ∀ (fuel : Nat) (listed : Array Bool) (a : Act) (w : World), wpAnyS P ops Q S np fuel listed a w → wpAny P .any ops Q fuel listed a w
  | 0, _, _, _, h => h
  | fuel + 1, _, _, _, h => ⟨h.1, fun i hi => wpOp_mono (fun a' w' h' => wpAny_of_S fuel _ a' w' h'.2) (h.2 i hi)⟩
/-- The operations from np on wait for all others. -/
def Waits (ops : Array Oper) (np : Nat) : Prop := ∀ k o, ops[k]? = some o → np ≤ k → ∀ j, j < np → ∃ e ∈ o.after, e.on = j ∧ Region.binds .any e = true
/-- A read may be taken first. -/
theorem wpAnyS_first {i : Nat} {oi : Oper} {v : Value} (hi : ops[i]? = some oi) (hin : i < np) (hw : Waits ops np) (hsel : ∀ (j : Nat) (o : Oper) cs b, ops[j]? = some o → o.op ≠ .select cs b)
    (hQ : ∀ c a w, Q (.panic c) (a.put oi.dst v) w → Q (.panic c) a w) :
    ∀ (fuel : Nat) (listed : Array Bool) (a : Act) (w : World),
      (∀ j oj, ops[j]? = some oj → j ≠ i → listed.getD j true = false → (∀ e ∈ oj.after, Region.binds .any e = true → e.on ≠ i) → oi.apart ops oj = true) →
      i ∈ Region.ready .any ops listed → YieldsIf P ops S oi v a → S w →
      wpAnyS P ops Q S np fuel (listed.setIfInBounds i true) (a.put oi.dst v) w → wpAnyS P ops Q S np (fuel + 1) listed a w := by
  intro fuel
  induction fuel with
  | zero =>
    intro listed a w _ hr hy hS H
    refine ⟨fun h => (by rw [h] at hr; cases hr), fun j hj => ?_⟩
    by_cases hji : j = i
    · subst hji; exact hy.wpOp hi hS ⟨fun _ => hS, H⟩
    · have := ready_mono hj hji
      rw [H.1] at this
      cases this
  | succ fuel ih =>
    intro listed a w hfree hr hy hS H
    have h0 := (mem_ready.1 hr).1
    have hun0 : listed.getD i false = true → False := fun h1 => by
      rcases Nat.lt_or_ge i listed.size with h' | h'
      · simp [h'] at h0 h1; rw [h0] at h1; cases h1
      · simp [Array.getElem?_eq_none h'] at h1
    refine ⟨fun h => (by rw [h] at hr; cases hr), fun j hj => ?_⟩
    by_cases hji : j = i
    · subst hji; exact hy.wpOp hi hS ⟨fun _ => hS, H⟩
    · obtain ⟨hjun, oj, hoj, hall⟩ := mem_ready.1 hj
      have hnot : ∀ e ∈ oj.after, Region.binds .any e = true → e.on ≠ i := fun e he hb heq => hun0 (heq ▸ hall e he hb)
      have hjn : j < np := by
        rcases Nat.lt_or_ge j np with h | h
        · exact h
        · obtain ⟨e, he, heq, hb⟩ := hw j oj hoj h i hin
          exact absurd heq (hnot e he hb)
      have h2 := wpOp_putIf hoj (hfree j oj hoj hji hjun hnot) (fun cs b => hsel i oi cs b hi) (fun cs b => hsel j oj cs b hoj) hQ hy (H.2 j (ready_mono hj hji))
      refine wpOp_mono (fun a' w' h3 => ⟨h3.2.1, ih (listed.setIfInBounds j true) a' w' (fun k ok hk hki hun hno => ?_) (ready_mono hr (Ne.symm hji)) h3.1 (h3.2.1 hjn) ?_⟩) h2
      · refine hfree k ok hk hki ?_ hno
        by_cases hjk : j = k
        · subst hjk; exact hjun
        · rw [getD_set_ne true hjk] at hun; exact hun
      · rw [Array.setIfInBounds_comm _ _ hji]
        exact h3.2.2

/-- The reads, one behind the other. -/
def takesB (ops : Array Oper) : List Nat → Array Bool → Bool
  | [], _ => true
  | k :: ks, listed => (Region.ready .any ops listed).contains k && Region.free .any ops listed k && (match ops[k]? with | none => false | some o => plainB o) && takesB ops ks (listed.setIfInBounds k true)
/-- The others, one behind the other. -/
def chainB (ops : Array Oper) : List Nat → Array Bool → Bool
  | [], listed => (Region.ready .any ops listed).isEmpty
  | k :: ks, listed => (Region.ready .any ops listed == [k]) && chainB ops ks (listed.setIfInBounds k true)
def marks : List Nat → Array Bool → Array Bool
  | [], listed => listed
  | k :: ks, listed => marks ks (listed.setIfInBounds k true)
/-- Those operations that f names, and their numbers. -/
def pickB (f : Nat → Bool) : Nat → List Oper → List Oper
  | _, [] => []
  | k, o :: r => if f k = true then o :: pickB f (k + 1) r else pickB f (k + 1) r
def idxB (f : Nat → Bool) : Nat → List Oper → List Nat
  | _, [] => []
  | k, _ :: r => if f k = true then k :: idxB f (k + 1) r else idxB f (k + 1) r
/-- The operations of a list of numbers. -/
def Fits (ops : Array Oper) : List Nat → List Oper → Prop
  | [], l => l = []
  | k :: ks, l => ∃ o r, l = o :: r ∧ ops[k]? = some o ∧ Fits ops ks r
theorem fits_pick (f : Nat → Bool) : ∀ (l : List Oper) (k : Nat), (∀ j, l[j]? = ops[k + j]?) → Fits ops (idxB f k l) (pickB f k l)
  | [], _, _ => rfl
  | o :: r, k, h => by
    have hk : ops[k]? = some o := by simpa using (h 0).symm
    have t := fits_pick f r (k + 1) (fun j => by have := h (j + 1); simpa [Nat.add_assoc, Nat.add_comm 1 j] using this)
    unfold idxB pickB
    split
    · exact ⟨o, _, rfl, hk, t⟩
    · exact t
theorem idx_len (f : Nat → Bool) : ∀ (l : List Oper) (k : Nat), (idxB f k l).length + (idxB (fun i => !f i) k l).length = l.length
  | [], _ => rfl
  | o :: r, k => by
    have := idx_len f r (k + 1)
    unfold idxB
    cases hf : f k <;> simp <;> omega
/-- The others: S holds behind each of the first n of them. -/
def wpHold (P : Program) (ops : Array Oper) (Q : Exit → Act → World → Prop) (S : World → Prop) : Nat → List Oper → Act → World → Prop
  | 0, r, a, w => wpList P ops Q r a w
  | n + 1, [], a, w => Q .normal a w
  | n + 1, o :: r, a, w => wpList P ops (Exit.then (fun a' w' => S w' ∧ wpHold P ops Q S n r a' w') Q) [o] a w
theorem hold_step {n : Nat} {o : Oper} {r : List Oper} {a : Act} {w : World} (h : ∀ K : Act → World → Prop, (∀ a' w', S w' → wpHold P ops Q S n r a' w' → K a' w') → wpList P ops (Exit.then K Q) [o] a w) : wpHold P ops Q S (n + 1) (o :: r) a w :=
  h _ fun _ _ h1 h2 => ⟨h1, h2⟩
theorem hold_done {r : List Oper} {a : Act} {w : World} (h : wpList P ops Q r a w) : wpHold P ops Q S 0 r a w := h
theorem wp_then {o : Oper} {a : Act} {w : World} {K : Act → World → Prop} {N : Act → World → Prop} (h : o.wp P a w K (Exit.then N Q)) : o.wp P a w K Q := by
  unfold Oper.wp at *
  generalize (execOp a.eval o).run P w = r at *
  cases r with
  | ok n w' => cases n <;> exact h
  | halt x w' => cases x <;> exact h
theorem op_of_list {o : Oper} {k : Nat} (ho : ops[k]? = some o) {a : Act} {w : World} {N : Act → World → Prop} (h : wpList P ops (Exit.then N Q) [o] a w) : wpOp P ops Q k N a w := by
  unfold wpOp
  simp only [ho]
  unfold wpList at h
  split
  · rename_i hw
    rw [if_pos hw] at h
    rcases h with h | h
    · exact .inl (wp_then h)
    · exact .inr h
  · rename_i hw
    rw [if_neg hw] at h
    exact h
theorem chain_hold : ∀ (ks : List Nat) (r : List Oper) (n : Nat) (listed : Array Bool) (a : Act) (w : World), Fits ops ks r → (ks.drop n).all (fun k => decide (np ≤ k)) = true → chainB ops ks listed = true → wpHold P ops Q S n r a w → wpAnyS P ops Q S np ks.length listed a w
  | [], r, n, listed, a, w, hf, h0, hB, h => by
    obtain rfl : r = [] := hf
    refine ⟨by simpa [chainB] using hB, ?_⟩
    cases n <;> exact h
  | k :: ks, r0, n, listed, a, w, hf, h0, hB, h => by
    obtain ⟨o, r, rfl, hk, hl⟩ := hf
    simp only [chainB, Bool.and_eq_true, beq_iff_eq] at hB
    refine ⟨fun e => (by rw [hB.1] at e; cases e), fun i hi => ?_⟩
    rw [hB.1] at hi
    simp only [List.mem_cons, List.not_mem_nil, or_false] at hi
    subst hi
    cases n with
    | zero =>
      have h := (show wpList P ops Q (o :: r) a w from h)
      simp only [List.drop_zero, List.all_cons, Bool.and_eq_true, decide_eq_true_eq] at h0
      unfold wpList at h
      unfold wpOp
      simp only [hk]
      have next : ∀ a' w', wpList P ops Q r a' w' → (i < np → S w') ∧ wpAnyS P ops Q S np ks.length (listed.setIfInBounds i true) a' w' := fun a' w' h' =>
        ⟨fun hlt => by have := h0.1; omega, chain_hold ks r 0 _ a' w' hl (by simpa using h0.2) hB.2 h'⟩
      split
      · rename_i hw
        rw [if_pos hw] at h
        exact h.imp (fun h => Oper.wp_mono next h) id
      · rename_i hw
        rw [if_neg hw] at h
        exact next _ _ h
    | succ n => exact wpOp_mono (fun a' w' h' => ⟨fun _ => h'.1, chain_hold ks r n _ a' w' hl (by simpa using h0) hB.2 h'.2⟩) (op_of_list hk h)
theorem takes_quiet (hw : Waits ops np) (hs : Region.noSelect ops = true) (hQ : ∀ c a x v w, Q (.panic c) (a.put x v) w → Q (.panic c) a w) {w : World} (hS : S w) {N : Act → Prop} {fuel : Nat} :
    ∀ (ks : List Nat) (l : List Oper) (listed : Array Bool) (a : Act), Fits ops ks l → ks.all (fun k => decide (k < np)) = true → takesB ops ks listed = true →
      (∀ a', N a' → wpAnyS P ops Q S np fuel (marks ks listed) a' w) → wpQuiet P ops S N l a → wpAnyS P ops Q S np (ks.length + fuel) listed a w
  | [], l, listed, a, hf, _, _, hN, h => by
    obtain rfl : l = [] := hf
    simpa [marks] using hN a h
  | k :: ks, l0, listed, a, hf, hk, hB, hN, h => by
    obtain ⟨o, l, rfl, h0, hl⟩ := hf
    simp only [takesB, h0, Bool.and_eq_true] at hB
    simp only [List.all_cons, Bool.and_eq_true, decide_eq_true_eq] at hk
    obtain ⟨⟨⟨hr, hf⟩, hp⟩, hB'⟩ := hB
    have next : ∀ a', wpQuiet P ops S N l a' → wpAnyS P ops Q S np (ks.length + fuel) (listed.setIfInBounds k true) a' w := fun a' h' =>
      takes_quiet hw hs hQ hS ks l _ a' hl hk.2 hB' hN h'
    rw [show (k :: ks).length + fuel = ks.length + fuel + 1 by simp; omega]
    unfold wpQuiet at h
    by_cases hwa : Region.wanted o (yielded ops a.tmps) = true
    · rw [if_pos hwa] at h
      obtain ⟨v, hv, hn⟩ := h
      refine wpAnyS_first h0 hk.1 hw (Region.noSelect_spec hs) (fun c a w => hQ c a o.dst v w) _ listed a w (Region.free_spec h0 hf) (by simpa using hr) (.inl ⟨hwa, fun w' hw' => ?_⟩) hS (next _ hn)
      have hq := hv w' hw'
      unfold Oper.quietAt at hq
      cases hrun : (execOp a.eval o).run P w' with
      | halt x w1 => rw [hrun] at hq; simp only [Oper.quietUpon] at hq
      | ok n w1 =>
        obtain ⟨u, rfl⟩ := plain_value hp a.eval hrun
        rw [hrun] at hq
        obtain ⟨rfl, rfl⟩ := hq
        rfl
    · rw [if_neg hwa] at h
      exact wpAnyS_first h0 hk.1 hw (Region.noSelect_spec hs) (fun c a w => hQ c a o.dst undef w) _ listed a w (Region.free_spec h0 hf) (by simpa using hr) (.inr ⟨by simpa using hwa, rfl⟩) hS (next _ h)
/-- The check: the reads that f names; then the others; those from np on wait for all below np, and behind the first n of the others S is asked no more. -/
def readsB (f : Nat → Bool) (n np : Nat) (l : List Oper) : Bool :=
  Region.noSelect l.toArray && takesB l.toArray (idxB f 0 l) (Array.replicate l.length false) && chainB l.toArray (idxB (fun i => !f i) 0 l) (marks (idxB f 0 l) (Array.replicate l.length false)) &&
  (idxB f 0 l).all (fun k => decide (k < np)) && ((idxB (fun i => !f i) 0 l).drop n).all (fun k => decide (np ≤ k)) &&
  (List.range l.length).all fun k => decide (k < np) || (match l[k]? with | none => true | some o => (List.range np).all fun j => o.after.any fun e => decide (e.on = j) && Region.binds .any e)
theorem wp_region_reads {l : List Oper} {id : Nat} {a : Act} {w : World} (f : Nat → Bool) (n np : Nat) (S : World → Prop) (hm : P.follows .mixedOrders = true) (hB : readsB f n np l = true) (hQ : ∀ c a x v w, Q (.panic c) (a.put x v) w → Q (.panic c) a w) (hS : S w.drew)
    (h : ∀ l1 l2, pickB f 0 l = l1 → pickB (fun i => !f i) 0 l = l2 → wpQuiet P l.toArray S (fun a' => wpHold P l.toArray Q S n l2 a' w.drew) l1 a) : (Code.region id l.toArray true).wp P Q a w := by
  simp only [readsB, Bool.and_eq_true] at hB
  obtain ⟨⟨⟨⟨⟨b1, b2⟩, b3⟩, b4⟩, b5⟩, b6⟩ := hB
  have hwt : Waits l.toArray np := fun k o ho hk j hj => by
    have hkl : k < l.length := by simpa using (Array.getElem?_eq_some_iff.1 ho).1
    have := List.all_eq_true.1 b6 k (List.mem_range.2 hkl)
    rw [List.getElem?_toArray] at ho
    simp only [ho, Bool.or_eq_true, decide_eq_true_eq] at this
    rcases this with h1 | h1
    · omega
    · have h2 := List.all_eq_true.1 h1 j (List.mem_range.2 hj)
      rw [Array.any_eq_true] at h2
      obtain ⟨n, hn, hx⟩ := h2
      simp only [Bool.and_eq_true, decide_eq_true_eq] at hx
      exact ⟨_, Array.getElem_mem hn, hx.1, hx.2⟩
  refine wp_region_any hm (wpAny_of_S (S := S) (np := np) _ _ _ _ ?_)
  have key := takes_quiet (ops := l.toArray) (S := S) (fuel := (idxB (fun i => !f i) 0 l).length) hwt b1 hQ hS (idxB f 0 l) (pickB f 0 l) (Array.replicate l.length false) a (fits_pick f l 0 (fun j => by simp)) b4 b2
    (fun a' hN => chain_hold (P := P) (Q := Q) (S := S) (np := np) (ops := l.toArray) _ _ n _ a' w.drew (fits_pick (fun i => !f i) l 0 (fun j => by simp)) b5 b3 hN) (h _ _ rfl rfl)
  rw [idx_len] at key
  simpa using key
end
end Go.Proofs.YthlhmfjopjikpaaDoor
