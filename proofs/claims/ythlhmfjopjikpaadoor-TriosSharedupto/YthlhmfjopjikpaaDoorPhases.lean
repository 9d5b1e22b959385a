/- A region that draws its order, taken in phases: reads one behind the other, then operations each of which is the only one that is ready, then reads again, and so on: laws that name no program. -/
import Derived.Test.YthlhmfjopjikpaaDoorReads
namespace Go.Proofs.YthlhmfjopjikpaaDoor
open Go.RowKit
set_option linter.unusedVariables false
section
variable {P : Program} {ops : Array Oper} {Q : Exit → Act → World → Prop} {S : World → Prop} {np : Nat}
/-- Operations one behind the other, S behind each of them; then K. -/
def wpHoldK (P : Program) (ops : Array Oper) (Q : Exit → Act → World → Prop) (S : World → Prop) (K : Act → World → Prop) : List Oper → Act → World → Prop
  | [], a, w => K a w
  | o :: r, a, w => wpList P ops (Exit.then (fun a' w' => S w' ∧ wpHoldK P ops Q S K r a' w') Q) [o] a w
theorem holdk_step {K : Act → World → Prop} {o : Oper} {r : List Oper} {a : Act} {w : World} (h : ∀ H : Act → World → Prop, (∀ a' w', S w' → wpHoldK P ops Q S K r a' w' → H a' w') → wpList P ops (Exit.then H Q) [o] a w) : wpHoldK P ops Q S K (o :: r) a w :=
  h _ fun _ _ h1 h2 => ⟨h1, h2⟩
/-- The phases: true: reads; false: operations one behind the other. -/
def wpPh (P : Program) (ops : Array Oper) (Q : Exit → Act → World → Prop) (S : World → Prop) : List (Bool × List Oper) → Act → World → Prop
  | [], a, w => Q .normal a w
  | (true, l) :: ph, a, w => wpQuiet P ops S (fun a' => wpPh P ops Q S ph a' w) l a
  | (false, l) :: ph, a, w => wpHoldK P ops Q S (wpPh P ops Q S ph) l a w
def onlyB (ops : Array Oper) : List Nat → Array Bool → Bool
  | [], _ => true
  | k :: ks, listed => (Region.ready .any ops listed == [k]) && onlyB ops ks (listed.setIfInBounds k true)
def phasesB (ops : Array Oper) (np : Nat) : List (Bool × List Nat) → Array Bool → Bool
  | [], listed => (Region.ready .any ops listed).isEmpty
  | (true, ks) :: ph, listed => takesB ops ks listed && ks.all (fun k => decide (k < np)) && phasesB ops np ph (marks ks listed)
  | (false, ks) :: ph, listed => onlyB ops ks listed && ks.all (fun k => decide (k < np)) && phasesB ops np ph (marks ks listed)
def pickO (l : List Oper) : List Nat → List Oper
  | [] => []
  | k :: ks => match l[k]? with | some o => o :: pickO l ks | none => pickO l ks
theorem fits_pickO (l : List Oper) : ∀ ks : List Nat, ks.all (fun k => decide (k < l.length)) = true → Fits l.toArray ks (pickO l ks)
  | [], _ => rfl
  | k :: ks, h => by
    simp only [List.all_cons, Bool.and_eq_true, decide_eq_true_eq] at h
    have hk : l[k]? = some l[k] := List.getElem?_eq_getElem h.1
    unfold pickO
    rw [hk]
    exact ⟨l[k], _, rfl, by rw [List.getElem?_toArray]; exact hk, fits_pickO l ks h.2⟩
theorem only_hold {fuel : Nat} {K : Act → World → Prop} : ∀ (ks : List Nat) (r : List Oper) (listed : Array Bool) (a : Act) (w : World), Fits ops ks r → onlyB ops ks listed = true → S w → wpHoldK P ops Q S K r a w →
    (∀ a' w', S w' → K a' w' → wpAnyS P ops Q S np fuel (marks ks listed) a' w') → wpAnyS P ops Q S np (ks.length + fuel) listed a w
  | [], r, listed, a, w, hf, _, hS, h, hK => by
    obtain rfl : r = [] := hf
    simpa [marks] using hK a w hS h
  | k :: ks, r0, listed, a, w, hf, hB, hS, h, hK => by
    obtain ⟨o, r, rfl, hk, hl⟩ := hf
    simp only [onlyB, Bool.and_eq_true, beq_iff_eq] at hB
    rw [show (k :: ks).length + fuel = ks.length + fuel + 1 by simp; omega]
    refine ⟨fun e => (by rw [hB.1] at e; cases e), fun i hi => ?_⟩
    rw [hB.1] at hi
    simp only [List.mem_cons, List.not_mem_nil, or_false] at hi
    subst hi
    exact wpOp_mono (fun a' w' h' => ⟨fun _ => h'.1, only_hold ks r _ a' w' hl hB.2 h'.1 h'.2 hK⟩) (op_of_list hk h)
theorem phases_any (hw : Waits ops np) (hs : Region.noSelect ops = true) (hQ : ∀ c a x v w, Q (.panic c) (a.put x v) w → Q (.panic c) a w) : ∀ (ph : List (Bool × List Nat)) (pl : List (Bool × List Oper)) (listed : Array Bool) (a : Act) (w : World),
    ph.length = pl.length → (∀ (i : Nat) (p : Bool × List Nat) (q : Bool × List Oper), ph[i]? = some p → pl[i]? = some q → p.1 = q.1 ∧ Fits ops p.2 q.2) → phasesB ops np ph listed = true → S w → wpPh P ops Q S pl a w → wpAnyS P ops Q S np (ph.map (·.2.length)).sum listed a w
  | [], pl, listed, a, w, hl, _, hB, hS, h => by
    have e : pl = [] := List.eq_nil_of_length_eq_zero (by simpa using hl.symm)
    rw [e] at h
    exact ⟨by simpa [phasesB] using hB, h⟩
  | (b, ks) :: ph, [], listed, a, w, hl, _, _, _, _ => by simp at hl
  | (b, ks) :: ph, (b', l) :: pl, listed, a, w, hl, hf, hB, hS, h => by
    obtain ⟨e, hfit⟩ := hf 0 _ _ rfl rfl
    dsimp only at e hfit
    subst e
    have next : ∀ a' w', S w' → wpPh P ops Q S pl a' w' → phasesB ops np ph (marks ks listed) = true → wpAnyS P ops Q S np (ph.map (·.2.length)).sum (marks ks listed) a' w' := fun a' w' hS' h' hb =>
      phases_any hw hs hQ ph pl (marks ks listed) a' w' (by simpa using hl) (fun i p q h1 h2 => hf (i + 1) p q (by simpa using h1) (by simpa using h2)) hb hS' h'
    rw [List.map_cons, List.sum_cons]
    cases b with
    | true =>
      simp only [phasesB, Bool.and_eq_true] at hB
      exact takes_quiet hw hs hQ hS ks l listed a hfit hB.1.2 hB.1.1 (fun a' hN => next a' w hS hN hB.2) h
    | false =>
      simp only [phasesB, Bool.and_eq_true] at hB
      exact only_hold ks l listed a w hfit hB.1.1 hS h (fun a' w' hS' hK => next a' w' hS' hK hB.2)
theorem wp_region_phases {l : List Oper} {id : Nat} {a : Act} {w : World} (ph : List (Bool × List Nat)) (S : World → Prop) (hm : P.follows .mixedOrders = true)
    (hB : (Region.noSelect l.toArray && phasesB l.toArray l.length ph (Array.replicate l.length false) && decide ((ph.map (·.2.length)).sum = l.length) && ph.all (fun p => p.2.all (fun k => decide (k < l.length)))) = true) (hQ : ∀ c a x v w, Q (.panic c) (a.put x v) w → Q (.panic c) a w) (hS : S w.drew)
    (h : ∀ pl, ph.map (fun p => (p.1, pickO l p.2)) = pl → wpPh P l.toArray Q S pl a w.drew) : (Code.region id l.toArray true).wp P Q a w := by
  simp only [Bool.and_eq_true, decide_eq_true_eq] at hB
  obtain ⟨⟨⟨b1, b2⟩, b3⟩, b4⟩ := hB
  have hwt : Waits l.toArray l.length := fun k o ho hk => by
    have hkl : k < l.length := by simpa using (Array.getElem?_eq_some_iff.1 ho).1
    omega
  refine wp_region_any hm (wpAny_of_S (S := S) (np := l.length) _ _ _ _ ?_)
  have key := phases_any (P := P) (Q := Q) (S := S) hwt b1 hQ ph _ (Array.replicate l.length false) a w.drew (by simp) (fun i p q h1 h2 => by
    rw [List.getElem?_map, h1, Option.map_some, Option.some.injEq] at h2
    subst h2
    exact ⟨rfl, fits_pickO l p.2 (List.all_eq_true.1 b4 p (List.mem_of_getElem? h1))⟩) b2 hS (h _ rfl)
  rw [b3] at key
  simpa using key
end
end Go.Proofs.YthlhmfjopjikpaaDoor
