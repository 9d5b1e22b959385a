/- A region that draws its order, makes any number of new variables and ends in stores, whose tail may be overtaken by operations that only take a tuple apart: laws that name no program. -/
import Derived.Test.YthlhmfjopjikpaaDoorLate
namespace Go.Proofs.YthlhmfjopjikpaaDoor
open Go.RowKit
set_option linter.unusedVariables false

/-- A new variable: the number of the operation that makes it, its slot, what it is made of. -/
abbrev Made := Nat × Tmp × Obj
def isNew (ms : List Made) (i : Nat) : Bool := ms.any fun m => m.1 == i
theorem isNew_iff {ms : List Made} {i : Nat} : isNew ms i = true ↔ ∃ m ∈ ms, m.1 = i := by simp [isNew]
def dumbM (np : Nat) (ms : List Made) (i : Nat) (o : Oper) : Oper := if isNew ms i = true then { o with op := .move (.const undef) } else if np ≤ i then { o with op := .move (.const undef), dst := none } else o
def dumbsM (np : Nat) (ms : List Made) : Nat → List Oper → List Oper
  | _, [] => []
  | k, o :: r => dumbM np ms k o :: dumbsM np ms (k + 1) r
theorem dumbsM_at (np : Nat) (ms : List Made) (l : List Oper) : ∀ k i, (dumbsM np ms k l)[i]? = (l[i]?).map (dumbM np ms (k + i)) := by
  induction l with
  | nil => intro k i; simp [dumbsM]
  | cons o r ih =>
    intro k i
    cases i with
    | zero => simp [dumbsM]
    | succ i => simp only [dumbsM, List.getElem?_cons_succ]; rw [ih (k + 1) i, show k + 1 + i = k + (i + 1) by omega]
theorem dumbM_after (np : Nat) (ms : List Made) (i : Nat) (o : Oper) : (dumbM np ms i o).after = o.after := by unfold dumbM; split <;> (try split) <;> rfl
theorem dumbM_guard (np : Nat) (ms : List Made) (i : Nat) (o : Oper) : (dumbM np ms i o).guard = o.guard := by unfold dumbM; split <;> (try split) <;> rfl

/-- The frame with the addresses of the variables that are made. -/
def puts (bs : Nat → Nat) (don : Nat → Bool) : List Made → Act → Act
  | [], a => a
  | m :: r, a => puts bs don r (if don m.1 = true then a.put (some m.2.1) (.pointer (some ⟨bs m.1, 0, none⟩)) else a)
theorem puts_congr {bs bs' : Nat → Nat} {don don' : Nat → Bool} : ∀ (ms : List Made) (a : Act), (∀ m ∈ ms, don m.1 = don' m.1 ∧ bs m.1 = bs' m.1) → puts bs don ms a = puts bs' don' ms a
  | [], _, _ => rfl
  | m :: r, a, h => by
    unfold puts
    rw [(h m List.mem_cons_self).1, (h m List.mem_cons_self).2]
    exact puts_congr r _ fun m' hm => h m' (List.mem_cons_of_mem _ hm)
theorem puts_put {bs : Nat → Nat} {don : Nat → Bool} {x : Option Tmp} (v : Value) : ∀ (ms : List Made) (a : Act), (∀ m ∈ ms, x ≠ some m.2.1) → puts bs don ms (a.put x v) = (puts bs don ms a).put x v
  | [], _, _ => rfl
  | m :: r, a, h => by
    unfold puts
    have hx := h m List.mem_cons_self
    split
    · rw [Act.put_comm a (x := x) (y := some m.2.1) v _ (by rintro _ rfl; simpa [eq_comm] using hx)]
      exact puts_put v r _ fun m' hm => h m' (List.mem_cons_of_mem _ hm)
    · exact puts_put v r _ fun m' hm => h m' (List.mem_cons_of_mem _ hm)
theorem puts_exec {bs : Nat → Nat} {don : Nat → Bool} {ops : Array Oper} {o : Oper} (hs : ∀ cs b, o.op ≠ .select cs b) : ∀ (ms : List Made) (a : Act), (∀ m ∈ ms, m.2.1 ∉ o.looksAt ops) →
    execOp (puts bs don ms a).eval o = execOp a.eval o ∧ Region.wanted o (yielded ops (puts bs don ms a).tmps) = Region.wanted o (yielded ops a.tmps)
  | [], _, _ => ⟨rfl, rfl⟩
  | m :: r, a, h => by
    unfold puts
    have ih := puts_exec (bs := bs) (don := don) hs r (if don m.1 = true then a.put (some m.2.1) (.pointer (some ⟨bs m.1, 0, none⟩)) else a) fun m' hm => h m' (List.mem_cons_of_mem _ hm)
    have hd := h m List.mem_cons_self
    rw [ih.1, ih.2]
    split
    · exact ⟨execOp_put (ops := ops) o hs a (some m.2.1) _ (by rintro _ ⟨⟩; exact hd), wanted_put o a (some m.2.1) _ (by rintro _ ⟨⟩; exact hd)⟩
    · exact ⟨rfl, rfl⟩
theorem puts_make {bs : Nat → Nat} {don : Nat → Bool} {b : Nat} : ∀ (ms : List Made) (a : Act) (m : Made), m ∈ ms → (ms.map (·.1)).Nodup → (ms.map (·.2.1)).Nodup → don m.1 = false →
    puts (fun j => if j = m.1 then b else bs j) (fun j => if j = m.1 then true else don j) ms (a.put (some m.2.1) undef) = (puts bs don ms a).put (some m.2.1) (.pointer (some ⟨b, 0, none⟩))
  | [], _, _, h, _, _, _ => absurd h (by simp)
  | n :: r, a, m, h, h1, h2, h3 => by
    simp only [List.map_cons, List.nodup_cons] at h1 h2
    rcases List.mem_cons.1 h with rfl | hr
    · unfold puts
      simp only [if_true, h3, Bool.false_eq_true, if_false]
      rw [put_put, puts_congr (bs' := bs) (don' := don) r _ (fun m' hm => by
        have : m'.1 ≠ m.1 := fun e => h1.1 (e ▸ List.mem_map_of_mem hm)
        simp [this])]
      exact puts_put _ r _ fun m' hm e => h2.1 (by rw [Option.some.inj e]; exact List.mem_map_of_mem (f := fun x : Made => x.2.1) hm)
    · have hn : n.1 ≠ m.1 := fun e => h1.1 (by rw [e]; exact List.mem_map_of_mem hr)
      have hd : n.2.1 ≠ m.2.1 := fun e => h2.1 (by rw [e]; exact List.mem_map_of_mem (f := fun x : Made => x.2.1) hr)
      unfold puts
      simp only [if_neg hn]
      split
      · rw [Act.put_comm a (x := some m.2.1) (y := some n.2.1) undef _ (by rintro _ ⟨⟩ e; exact hd (Option.some.inj e))]
        exact puts_make r _ m hr h1.2 h2.2 h3
      · exact puts_make r _ m hr h1.2 h2.2 h3

section
variable {P : Program} {l : List Oper} {np : Nat} {ms : List Made} {W : World} {Q : Exit → Act → World → Prop} {late : Nat → Bool}

theorem ready_dumbsM (listed : Array Bool) (i : Nat) : i ∈ Region.ready .any (dumbsM np ms 0 l).toArray listed ↔ i ∈ Region.ready .any l.toArray listed := by
  rw [mem_ready, mem_ready]
  simp only [List.getElem?_toArray, dumbsM_at, Nat.zero_add]
  constructor
  · rintro ⟨h0, o, ho, hall⟩
    cases hi : l[i]? with
    | none => simp [hi] at ho
    | some o' =>
      simp only [hi, Option.map_some, Option.some.injEq] at ho
      subst ho
      exact ⟨h0, o', rfl, by rw [dumbM_after] at hall; exact hall⟩
  · rintro ⟨h0, o, ho, hall⟩
    exact ⟨h0, dumbM np ms i o, by simp [ho], by rw [dumbM_after]; exact hall⟩

/-- As lateB, with any number of new variables. -/
def manyB (np : Nat) (ms : List Made) (late : Nat → Bool) (l : List Oper) : Bool :=
  decide (np < l.length) && decide ((ms.map (·.1)).Nodup) && decide ((ms.map (·.2.1)).Nodup) && (ms.all fun m => decide (m.1 < np) && !late m.1) &&
  (List.range l.length).all fun k => match l[k]? with
    | none => false
    | some o => (o.after.all fun e => decide (e.on < k) || !Region.binds .any e) &&
      (match o.guard with | none => true | some (g, _) => decide (g < np) && !isNew ms g) &&
      (match o.op with | .select _ _ => false | _ => true) &&
      (if np ≤ k then !late k && (List.range k).all fun j => late j && decide (k = np) || o.after.any fun e => decide (e.on = j) && Region.binds .any e
       else if isNew ms k = true then decide (o.guard = none) && ms.all fun m => decide (m.1 ≠ k) || decide (o.dst = some m.2.1)
       else ms.all fun m => !(o.looksAt l.toArray).contains m.2.1 && decide (o.dst ≠ some m.2.1)) &&
      (!late k || (List.range l.length).all fun j => decide (j = k) || (decide (j < np) && !late j) || match l[j]? with
        | none => true
        | some oj => (oj.after.any fun e => decide (e.on = k) && Region.binds .any e) || o.apart l.toArray oj)

theorem manyB_spec (h : manyB np ms late l = true) : np < l.length ∧ (ms.map (·.1)).Nodup ∧ (ms.map (·.2.1)).Nodup ∧ (∀ m ∈ ms, m.1 < np ∧ late m.1 = false) ∧ ∀ k o, l[k]? = some o →
    (∀ e ∈ o.after, Region.binds .any e = true → e.on < k) ∧ (∀ g b, o.guard = some (g, b) → g < np ∧ isNew ms g = false) ∧ (∀ cs b, o.op ≠ .select cs b) ∧
    (np ≤ k → late k = false ∧ ∀ j, j < k → (late j = true ∧ k = np) ∨ ∃ e ∈ o.after, e.on = j ∧ Region.binds .any e = true) ∧ (k < np → ∀ m ∈ ms, m.1 = k → o.dst = some m.2.1 ∧ o.guard = none) ∧ (k < np → isNew ms k = false → ∀ m ∈ ms, m.2.1 ∉ o.looksAt l.toArray ∧ o.dst ≠ some m.2.1) ∧
    (late k = true → ∀ j oj, l[j]? = some oj → j ≠ k → (np ≤ j ∨ late j = true) → (∀ e ∈ oj.after, Region.binds .any e = true → e.on ≠ k) → o.apart l.toArray oj = true) := by
  simp only [manyB, Bool.and_eq_true, decide_eq_true_eq] at h
  obtain ⟨⟨⟨⟨h1, h2⟩, h3⟩, h4⟩, h5⟩ := h
  rw [List.all_eq_true] at h4 h5
  simp only [List.mem_range] at h5
  refine ⟨h1, h2, h3, fun m hm => by simpa using h4 m hm, fun k o ho => ?_⟩
  have hk : k < l.length := (List.getElem?_eq_some_iff.1 ho).1
  have h1 := h5 k hk
  rw [ho] at h1
  simp only [Bool.and_eq_true] at h1
  obtain ⟨⟨⟨⟨a, b⟩, c⟩, e⟩, f⟩ := h1
  refine ⟨?_, ?_, ?_, ?_, ?_, ?_, ?_⟩
  · intro x hx hb
    have := Array.all_eq_true_iff_forall_mem.1 a x hx
    simpa [hb] using this
  · intro g q hg
    rw [hg] at b
    simpa using b
  · intro cs q hq
    rw [hq] at c
    simp at c
  · intro hn
    rw [if_pos hn] at e
    simp only [Bool.and_eq_true, Bool.not_eq_true', List.all_eq_true, List.mem_range] at e
    refine ⟨e.1, fun j hj => ?_⟩
    have := e.2 j hj
    simp only [Bool.or_eq_true, Bool.and_eq_true, decide_eq_true_eq] at this
    rcases this with h2 | h2
    · exact .inl h2
    · rw [Array.any_eq_true] at h2
      obtain ⟨n, hn2, hx2⟩ := h2
      simp only [Bool.and_eq_true, decide_eq_true_eq] at hx2
      exact .inr ⟨_, Array.getElem_mem hn2, hx2.1, hx2.2⟩
  · intro hn m hm hmk
    rw [if_neg (by omega), if_pos (isNew_iff.2 ⟨m, hm, hmk⟩)] at e
    simp only [Bool.and_eq_true, decide_eq_true_eq, List.all_eq_true] at e
    have := e.2 m hm
    simp only [Bool.or_eq_true, decide_eq_true_eq] at this
    rcases this with h9 | h9
    · exact absurd hmk h9
    · exact ⟨h9, e.1⟩
  · intro hn hnew m hm
    rw [if_neg (by omega), if_neg (by simp [hnew])] at e
    rw [List.all_eq_true] at e
    simpa using e m hm
  · intro hl j oj hj hjk hnl hno
    simp only [hl, Bool.not_true, Bool.false_or, List.all_eq_true, List.mem_range] at f
    have hjl : j < l.length := (List.getElem?_eq_some_iff.1 hj).1
    have := f j hjl
    rw [hj] at this
    simp only [Bool.or_eq_true, Bool.and_eq_true, decide_eq_true_eq, Bool.not_eq_true'] at this
    rcases this with (h2 | h2) | h2 | h2
    · exact absurd h2 hjk
    · rcases hnl with h3 | h3
      · omega
      · rw [h3] at h2; cases h2.2
    · rw [Array.any_eq_true] at h2
      obtain ⟨n, hn2, hx2⟩ := h2
      simp only [Bool.and_eq_true, decide_eq_true_eq] at hx2
      exact absurd hx2.1 (hno _ (Array.getElem_mem hn2) hx2.2)
    · exact h2

/-- How the true frame stands to the walk's: the new variables' slots hold their addresses, once they are made. -/
def RelM (ms : List Made) (W : World) (don : Nat → Bool) (aA aR : Act) (w : World) : Prop :=
  ∃ bs : Nat → Nat, (∀ m ∈ ms, don m.1 = true → ∃ w0, Ext W w0 ∧ Ext (w0.alloc m.2.2) w ∧ bs m.1 = w0.heap.size) ∧ (∀ m ∈ ms, ∀ m' ∈ ms, don m.1 = true → don m'.1 = true → m.1 ≠ m'.1 → bs m.1 ≠ bs m'.1) ∧ aR = puts bs don ms aA
theorem RelM.later {don : Nat → Bool} {aA aR : Act} {w w' : World} (h : RelM ms W don aA aR w) (hw : Ext w w') : RelM ms W don aA aR w' := by
  obtain ⟨bs, h1, h2, h3⟩ := h
  refine ⟨bs, fun m hm hd => ?_, h2, h3⟩
  obtain ⟨w0, a, b, c⟩ := h1 m hm hd
  exact ⟨w0, a, Ext.trans b hw, c⟩
theorem RelM.put {don : Nat → Bool} {aA aR : Act} {w : World} (h : RelM ms W don aA aR w) {x : Option Tmp} (hx : ∀ m ∈ ms, x ≠ some m.2.1) (v : Value) : RelM ms W don (aA.put x v) (aR.put x v) w := by
  obtain ⟨bs, h1, h2, h3⟩ := h
  exact ⟨bs, h1, h2, by rw [h3, puts_put v ms aA hx]⟩
theorem RelM.exec {don : Nat → Bool} {aA aR : Act} {w : World} (h : RelM ms W don aA aR w) {o : Oper} (hs : ∀ cs b, o.op ≠ .select cs b) (hd : ∀ m ∈ ms, m.2.1 ∉ o.looksAt l.toArray) :
    execOp aR.eval o = execOp aA.eval o ∧ Region.wanted o (yielded l.toArray aR.tmps) = Region.wanted o (yielded l.toArray aA.tmps) := by
  obtain ⟨bs, h1, h2, rfl⟩ := h
  exact puts_exec hs ms aA hd
theorem RelM.congr {don don' : Nat → Bool} {aA aR : Act} {w : World} (h : RelM ms W don aA aR w) (he : ∀ m ∈ ms, don m.1 = don' m.1) : RelM ms W don' aA aR w := by
  obtain ⟨bs, h1, h2, h3⟩ := h
  exact ⟨bs, fun m hm hd => h1 m hm (by rw [he m hm]; exact hd), fun m hm m' hm' hd hd' => h2 m hm m' hm' (by rw [he m hm]; exact hd) (by rw [he m' hm']; exact hd'), by rw [h3]; exact puts_congr ms aA fun m hm => ⟨he m hm, rfl⟩⟩
theorem RelM.make {don : Nat → Bool} {aA aR : Act} {w : World} (h : RelM ms W don aA aR w) (hw : Ext W w) {m : Made} (hm : m ∈ ms) (n1 : (ms.map (·.1)).Nodup) (n2 : (ms.map (·.2.1)).Nodup) (hd : don m.1 = false) :
    RelM ms W (fun j => if j = m.1 then true else don j) (aA.put (some m.2.1) undef) (aR.put (some m.2.1) (.pointer (some ⟨w.heap.size, 0, none⟩))) (w.alloc m.2.2) := by
  obtain ⟨bs, h1, h2, h3⟩ := h
  have old : ∀ m' ∈ ms, m'.1 ≠ m.1 → don m'.1 = true → bs m'.1 < w.heap.size := fun m' hm' hne hd' => by
    obtain ⟨w0, _, b, c⟩ := h1 m' hm' hd'
    have := b.more
    simp at this
    omega
  have same : ∀ m' ∈ ms, m'.1 = m.1 → m' = m := fun m' hm' he => by
    have : ∀ (ms : List Made), (ms.map (·.1)).Nodup → m ∈ ms → m' ∈ ms → m' = m := by
      intro ms
      induction ms with
      | nil => intro _ h; cases h
      | cons n r ih =>
        intro hn h h'
        simp only [List.map_cons, List.nodup_cons] at hn
        rcases List.mem_cons.1 h with e1 | h3
        · rcases List.mem_cons.1 h' with e2 | h4
          · rw [e1, e2]
          · exact absurd (by rw [← e1, ← he]; exact List.mem_map_of_mem h4) hn.1
        · rcases List.mem_cons.1 h' with e2 | h4
          · exact absurd (by rw [← e2, he]; exact List.mem_map_of_mem h3) hn.1
          · exact ih hn.2 h3 h4
    exact this ms n1 hm hm'
  refine ⟨fun j => if j = m.1 then w.heap.size else bs j, fun m' hm' hd' => ?_, fun m1 hm1 m2' hm2 hd1 hd2 hne => ?_, by rw [h3, puts_make ms aA m hm n1 n2 hd]⟩
  · by_cases he : m'.1 = m.1
    · obtain rfl := same m' hm' he
      exact ⟨w, hw, Ext.refl _, by simp⟩
    · simp only [if_neg he] at hd' ⊢
      obtain ⟨w0, a, b, c⟩ := h1 m' hm' hd'
      exact ⟨w0, a, Ext.alloc b _, c⟩
  · by_cases he1 : m1.1 = m.1
    · by_cases he2 : m2'.1 = m.1
      · exact absurd (he1.trans he2.symm) hne
      · simp only [if_neg he2] at hd2
        simp only [if_pos he1, if_neg he2]
        have := old m2' hm2 he2 hd2
        omega
    · simp only [if_neg he1] at hd1
      by_cases he2 : m2'.1 = m.1
      · simp only [if_neg he1, if_pos he2]
        have := old m1 hm1 he1 hd1
        omega
      · simp only [if_neg he2] at hd2
        simp only [if_neg he1, if_neg he2]
        exact h2 m1 hm1 m2' hm2 hd1 hd2 hne

/-- What the walk must show at its end: the tail, in its order, whatever has been made. -/
def TailM (P : Program) (l : List Oper) (np : Nat) (ms : List Made) (W : World) (Q : Exit → Act → World → Prop) (aA : Act) : Prop :=
  ∀ w aR, Ext W w → RelM ms W (fun _ => true) aA aR w → wpList P l.toArray Q (l.drop np) aR w

/-- All but the tail has come up: the walk's end holds. -/
theorem game_endM {C : World → Prop} {Q' : Act → Prop} : ∀ (fuel : Nat) (listed : Array Bool) (aA : Act), (∀ i, i < np → listed.getD i true = true) → (∀ m ∈ ms, m.1 < np) → C W →
    wpAnyQ P .any (dumbsM np ms 0 l).toArray C Q' fuel listed aA → Q' aA
  | 0, _, _, _, _, _, h => h.2
  | fuel + 1, listed, aA, hp, hal, hC, h => by
    cases hr : Region.ready .any (dumbsM np ms 0 l).toArray listed with
    | nil => exact h.1 hr
    | cons i r =>
      have hi : i ∈ Region.ready .any (dumbsM np ms 0 l).toArray listed := by rw [hr]; exact List.mem_cons_self
      have h1 := h.2 i hi
      obtain ⟨hun, o, ho, _⟩ := mem_ready.1 hi
      have hnp : np ≤ i := by
        rcases Nat.lt_or_ge i np with hlt | hge
        · rw [hp i hlt] at hun; cases hun
        · exact hge
      simp only [List.getElem?_toArray, dumbsM_at, Nat.zero_add] at ho
      cases hl : l[i]? with
      | none => simp [hl] at ho
      | some o' =>
        have hil : i < l.length := (List.getElem?_eq_some_iff.1 hl).1
        have hne : ¬ isNew ms i = true := by
          intro hh
          obtain ⟨m, hm, he⟩ := isNew_iff.1 hh
          have := hal m hm
          omega
        simp only [hl, Option.map_some, Option.some.injEq] at ho
        have hod : o.dst = none := by rw [← ho]; unfold dumbM; rw [if_neg hne, if_pos hnp]
        have hK : wpAnyQ P .any (dumbsM np ms 0 l).toArray C Q' fuel (listed.setIfInBounds i true) aA := by
          unfold qOp at h1
          simp only [List.getElem?_toArray, dumbsM_at, Nat.zero_add, hl, Option.map_some, ho] at h1
          split at h1
          · obtain ⟨v, _, hK⟩ := h1
            rw [hod] at hK
            exact hK
          · rw [hod] at h1
            exact h1
        refine game_endM fuel _ aA (fun j hj => ?_) hal hC hK
        by_cases hij : i = j
        · subst hij; omega
        · rw [getD_set_ne true hij]; exact hp j hj

/-- The tail runs in its order. -/
theorem tail_many (hB : manyB np ms late l = true) {C : World → Prop} {Q' : Act → Prop} : ∀ (fuel : Nat) (t : Nat) (listed : Array Bool) (aA aR : Act) (w : World), np ≤ t → listed.size = l.length →
    (∀ i, i < t → listed.getD i true = true) → (∀ i, t ≤ i → listed.getD i false = false) →
    wpAnyQ P .any (dumbsM np ms 0 l).toArray C Q' fuel listed aA → wpList P l.toArray Q (l.drop t) aR w → wpAny P .any l.toArray Q fuel listed aR w := by
  obtain ⟨hnp, hn1, hn2, hla, hk⟩ := manyB_spec hB
  have hal := fun m hm => (hla m hm).1
  intro fuel
  induction fuel with
  | zero =>
    intro t listed aA aR w ht hs h1 h2 hg hw
    have hr : Region.ready .any l.toArray listed = [] := by
      have := hg.1
      apply List.eq_nil_iff_forall_not_mem.2
      intro i hi
      rw [← ready_dumbsM (np := np) (ms := ms), this] at hi
      cases hi
    refine ⟨hr, ?_⟩
    have hlt : l.length ≤ t := by
      rcases Nat.lt_or_ge t l.length with h | h
      · exact absurd hr (ready_some (fun k o ho => (hk k o ho).1) listed hs t h (h2 t (Nat.le_refl _)))
      · exact h
    rw [List.drop_eq_nil_of_le hlt] at hw
    exact hw
  | succ fuel ih =>
    intro t listed aA aR w ht hs h1 h2 hg hw
    refine ⟨fun hr => ?_, fun i hi => ?_⟩
    · have hlt : l.length ≤ t := by
        rcases Nat.lt_or_ge t l.length with h | h
        · exact absurd hr (ready_some (fun k o ho => (hk k o ho).1) listed hs t h (h2 t (Nat.le_refl _)))
        · exact h
      rw [List.drop_eq_nil_of_le hlt] at hw
      exact hw
    · obtain ⟨hun, o, ho, hall⟩ := mem_ready.1 hi
      simp only [List.getElem?_toArray] at ho
      have hil : i < l.length := (List.getElem?_eq_some_iff.1 ho).1
      have hti : t ≤ i := by
        rcases Nat.lt_or_ge i t with h | h
        · rw [h1 i h] at hun; cases hun
        · exact h
      have hit : i = t := by
        rcases Nat.lt_or_ge t i with h | h
        · rcases ((hk i o ho).2.2.2.1 (by omega)).2 t h with ⟨hlt, hin⟩ | ⟨e, he, hon, hb⟩
          · omega
          · have := hall e (by simpa using he) hb
            rw [hon, h2 t (Nat.le_refl _)] at this
            cases this
        · omega
      subst hit
      have hne : ¬ isNew ms i = true := by
        intro hh
        obtain ⟨m, hm, he⟩ := isNew_iff.1 hh
        have := hal m hm
        omega
      have hg1 := hg.2 i ((ready_dumbsM listed i).2 hi)
      have hod : (dumbM np ms i o).dst = none := by unfold dumbM; rw [if_neg hne, if_pos ht]
      have hK : wpAnyQ P .any (dumbsM np ms 0 l).toArray C Q' fuel (listed.setIfInBounds i true) aA := by
        unfold qOp at hg1
        simp only [List.getElem?_toArray, dumbsM_at, Nat.zero_add, ho, Option.map_some] at hg1
        split at hg1
        · obtain ⟨v, _, hK⟩ := hg1
          rw [hod] at hK
          exact hK
        · rw [hod] at hg1
          exact hg1
      have hlen : i < listed.size := by omega
      have nxt : ∀ a w, wpList P l.toArray Q (l.drop (i + 1)) a w → wpAny P .any l.toArray Q fuel (listed.setIfInBounds i true) a w := fun a w hw => by
        refine ih (i + 1) _ aA a w (by omega) (by simp [hs]) (fun j hj => ?_) (fun j hj => ?_) hK hw
        · by_cases hij : i = j
          · subst hij; simp [hlen]
          · rw [getD_set_ne true hij]; exact h1 j (by omega)
        · rw [getD_set_ne false (by omega)]; exact h2 j (by omega)
      rw [List.drop_eq_getElem_cons hil] at hw
      have hoe : l[i] = o := by rw [List.getElem?_eq_getElem hil] at ho; exact Option.some.inj ho
      rw [hoe] at hw
      unfold wpOp
      simp only [List.getElem?_toArray, ho]
      simp only [wpList] at hw
      split
      · rename_i hwant
        rw [if_pos hwant] at hw
        exact hw.imp (Oper.wp_mono nxt) id
      · rename_i hwant
        rw [if_neg hwant] at hw
        exact nxt _ _ hw
theorem wanted_dumbsM {o : Oper} (hg : ∀ g b, o.guard = some (g, b) → g < np ∧ isNew ms g = false) (tmps : Array Value) : Region.wanted o (yielded (dumbsM np ms 0 l).toArray tmps) = Region.wanted o (yielded l.toArray tmps) := by
  unfold Region.wanted
  cases h : o.guard with
  | none => rfl
  | some gb =>
    obtain ⟨g, b⟩ := gb
    obtain ⟨h1, h2⟩ := hg g b h
    have : yielded (dumbsM np ms 0 l).toArray tmps g = yielded l.toArray tmps g := by
      unfold yielded
      simp only [List.getElem?_toArray, dumbsM_at, Nat.zero_add]
      cases hl : l[g]? with
      | none => simp
      | some o' => simp [dumbM, h2, Nat.not_le_of_lt h1]
    simp only [this]

/-- The late ones may be taken first; then the tail. -/
theorem many_run (hB : manyB np ms late l = true)
    (hQ : ∀ c (a : Act) (x : Option Tmp) (v : Value) w, Q (.panic c) (a.put x v) w → Q (.panic c) a w)
    (hlate : ∀ i o, late i = true → l[i]? = some o → ∀ (a : Act) w n w1, (execOp a.eval o).run P w = .ok n w1 → ∃ v, n = .value v ∧ ∀ w', (execOp a.eval o).run P w' = .ok (.value v) w')
    : ∀ (fuel : Nat) (listed : Array Bool) (aA aR : Act) (w : World), listed.size = l.length → Ext W w → (∀ i, i < np → late i = false → listed.getD i true = true) → (∀ i, np ≤ i → listed.getD i false = false) → RelM ms W (fun _ => true) aA aR w →
    wpAnyQ P .any (dumbsM np ms 0 l).toArray (Cl w) (TailM P l np ms W Q) fuel listed aA → wpAny P .any l.toArray Q fuel listed aR w := by
  obtain ⟨hnp, hn1, hn2, hla, hk⟩ := manyB_spec hB
  have hal := fun m hm => (hla m hm).1
  intro fuel
  induction fuel with
  | zero =>
    intro listed aA aR w hs hw hp ht hrel hg
    exfalso
    refine ready_some (fun k o ho => (hk k o ho).1) listed hs np hnp (ht np (Nat.le_refl _)) ?_
    have := hg.1
    apply List.eq_nil_iff_forall_not_mem.2
    intro i hi
    rw [← ready_dumbsM (np := np) (ms := ms), this] at hi
    cases hi
  | succ fuel ih =>
    intro listed aA aR w hs hw hp ht hrel hg
    by_cases hall : ∀ i, i < np → listed.getD i true = true
    · have hT := game_endM (W := w) (fuel + 1) listed aA hall hal (Cl.of (Ext.refl w)) hg
      exact tail_many hB (fuel + 1) np listed aA aR w (Nat.le_refl _) hs hall ht hg (hT w aR hw hrel)
    · have hex : ∃ i, i < np ∧ listed.getD i true = false := by
        apply Classical.byContradiction
        intro hno
        apply hall
        intro i hi
        cases hc : listed.getD i true with
        | true => rfl
        | false => exact absurd ⟨i, hi, hc⟩ hno
      obtain ⟨i, hi, hc⟩ := hex
      have hfl : ∀ j, listed.getD j true = false → listed.getD j false = false := fun j hj => by
        rcases Nat.lt_or_ge j listed.size with h | h
        · simp [h] at hj ⊢; exact hj
        · simp [Array.getElem?_eq_none h] at hj
      obtain ⟨j, hji, hjf, hjr⟩ := ready_ne' (fun k o ho => (hk k o ho).1) listed hs i (by omega) (hfl i hc)
      obtain ⟨hun, o, ho, _⟩ := mem_ready.1 hjr
      simp only [List.getElem?_toArray] at ho
      have hjl : late j = true := by
        cases h : late j with
        | true => rfl
        | false => rw [hp j (by omega) h] at hun; cases hun
      have hjal : isNew ms j = false := by
        cases h : isNew ms j with
        | false => rfl
        | true => obtain ⟨m, hm, he⟩ := isNew_iff.1 h; rw [← he, (hla m hm).2] at hjl; cases hjl
      obtain ⟨_, hgd, hsel, _, _, hkd, hap⟩ := hk j o ho
      have hlook := fun m hm => (hkd (by omega) hjal m hm).1
      have hdst := fun m hm => (hkd (by omega) hjal m hm).2
      have hdumb : dumbM np ms j o = o := by unfold dumbM; rw [if_neg (by simp [hjal]), if_neg (by omega)]
      obtain ⟨hex, hwt⟩ := RelM.exec hrel hsel hlook
      have hwd := wanted_dumbsM (l := l) hgd aA.tmps
      have h1 := hg.2 j ((ready_dumbsM listed j).2 hjr)
      unfold qOp at h1
      simp only [List.getElem?_toArray, dumbsM_at, Nat.zero_add, ho, Option.map_some, hdumb] at h1
      have hfree : ∀ j' oj, l.toArray[j']? = some oj → j' ≠ j → listed.getD j' true = false → (∀ e ∈ oj.after, Region.binds .any e = true → e.on ≠ j) → o.apart l.toArray oj = true := fun j' oj hj' hne hun' hno => by
        simp only [List.getElem?_toArray] at hj'
        refine hap hjl j' oj hj' hne ?_ hno
        rcases Nat.lt_or_ge j' np with h | h
        · refine .inr ?_
          cases hl : late j' with
          | true => rfl
          | false => rw [hp j' h hl] at hun'; cases hun'
        · exact .inl h
      have hsels : ∀ (k : Nat) (o : Oper) cs b, l.toArray[k]? = some o → o.op ≠ .select cs b := fun k o cs b hk' => (hk k o (by simpa using hk')).2.2.1 cs b
      have go : ∀ v, Yields P l.toArray o v aR → wpAnyQ P .any (dumbsM np ms 0 l).toArray (Cl w) (TailM P l np ms W Q) fuel (listed.setIfInBounds j true) (aA.put o.dst v) → wpAny P .any l.toArray Q (fuel + 1) listed aR w := fun v hy hK => by
        refine wpAny_first (by simpa using ho) hsels (fun c a w h => hQ c a o.dst v w h) fuel listed aR w hfree hjr hy ?_
        refine ih _ (aA.put o.dst v) _ _ (by simp [hs]) hw (fun k hk1 hk2 => ?_) (fun k hk1 => ?_) (RelM.put hrel hdst v) hK
        · by_cases hjk : j = k
          · subst hjk; rw [hjl] at hk2; cases hk2
          · rw [getD_set_ne true hjk]; exact hp k hk1 hk2
        · rw [getD_set_ne false (by omega)]; exact ht k hk1
      by_cases hwant : Region.wanted o (yielded l.toArray aA.tmps) = true
      · rw [if_pos (by rw [hwd]; exact hwant)] at h1
        obtain ⟨v, hq, hK⟩ := h1
        have hqw := hq w (Cl.of (Ext.refl w))
        unfold Oper.quietAt at hqw
        cases hr : (execOp aA.eval o).run P w with
        | halt x w1 => rw [hr] at hqw; simp only [Oper.quietUpon] at hqw
        | ok m w1 =>
          obtain ⟨v', rfl, hv⟩ := hlate j o hjl ho aA w m w1 hr
          rw [hr] at hqw
          simp only [Oper.quietUpon] at hqw
          obtain ⟨_, rfl⟩ := hqw
          exact go v' (.inl ⟨by rw [hwt]; exact hwant, fun w' => by rw [hex]; exact hv w'⟩) hK
      · rw [if_neg (by rw [hwd]; exact hwant)] at h1
        exact go undef (.inr ⟨by rw [hwt]; simpa using hwant, rfl⟩) h1

theorem sim_many (hB : manyB np ms late l = true)
    (hQ : ∀ c (a : Act) (x : Option Tmp) (v : Value) w, Q (.panic c) (a.put x v) w → Q (.panic c) a w)
    (hlate : ∀ i o, late i = true → l[i]? = some o → ∀ (a : Act) w n w1, (execOp a.eval o).run P w = .ok n w1 → ∃ v, n = .value v ∧ ∀ w', (execOp a.eval o).run P w' = .ok (.value v) w')
    (hnew : ∀ m ∈ ms, ∀ o, l[m.1]? = some o → ∀ (a : Act) w, (execOp a.eval o).run P w = .ok (.value (.pointer (some ⟨w.heap.size, 0, none⟩))) (w.alloc m.2.2)) :
    ∀ (fuel : Nat) (listed : Array Bool) (aA aR : Act) (w : World), listed.size = l.length → Ext W w → (∀ i, np ≤ i → listed.getD i false = false) → RelM ms W (fun j => listed.getD j false) aA aR w →
    (∀ B, Ext w B → wpAnyQ P .any (dumbsM np ms 0 l).toArray (Cl B) (TailM P l np ms W Q) fuel listed aA) → wpAny P .any l.toArray Q fuel listed aR w := by
  obtain ⟨hnp, hn1, hn2, hla, hk⟩ := manyB_spec hB
  have hal := fun m hm => (hla m hm).1
  intro fuel
  induction fuel with
  | zero =>
    intro listed aA aR w hs hw ht hrel hg
    exfalso
    refine ready_some (fun k o ho => (hk k o ho).1) listed hs np hnp (ht np (Nat.le_refl _)) ?_
    have := (hg w (Ext.refl w)).1
    apply List.eq_nil_iff_forall_not_mem.2
    intro i hi
    rw [← ready_dumbsM (np := np) (ms := ms), this] at hi
    cases hi
  | succ fuel ih =>
    intro listed aA aR w hs hw ht hrel hg
    refine ⟨fun hr => absurd hr (ready_some (fun k o ho => (hk k o ho).1) listed hs np hnp (ht np (Nat.le_refl _))), fun i hi => ?_⟩
    obtain ⟨hun, o, ho, hall⟩ := mem_ready.1 hi
    simp only [List.getElem?_toArray] at ho
    have hil : i < l.length := (List.getElem?_eq_some_iff.1 ho).1
    have hlen : i < listed.size := by omega
    have hunf : listed.getD i false = false := by simp [hlen] at hun ⊢; exact hun
    obtain ⟨_, hgd, hsel, htl, hkal, hkd, _⟩ := hk i o ho
    have hready := fun B (hBw : Ext w B) => (hg B hBw).2 i ((ready_dumbsM listed i).2 hi)
    have hset : ∀ j, np ≤ j → i < np → (listed.setIfInBounds i true).getD j false = false := fun j hj hlt => by rw [getD_set_ne false (by omega)]; exact ht j hj
    rcases Nat.lt_or_ge i np with hlt | hge
    · by_cases hia : isNew ms i = true
      · obtain ⟨m, hm, hmi⟩ := isNew_iff.1 hia
        obtain ⟨hd, hgn⟩ := hkal hlt m hm hmi
        have hdumb : dumbM np ms i o = { o with op := .move (.const undef) } := by unfold dumbM; rw [if_pos hia]
        have hnext : ∀ B, Ext w B → wpAnyQ P .any (dumbsM np ms 0 l).toArray (Cl B) (TailM P l np ms W Q) fuel (listed.setIfInBounds i true) (aA.put (some m.2.1) undef) := fun B hBw => by
          have h1 := hready B hBw
          unfold qOp at h1
          simp only [List.getElem?_toArray, dumbsM_at, Nat.zero_add, ho, Option.map_some, hdumb] at h1
          rw [if_pos (by simp [Region.wanted, hgn])] at h1
          obtain ⟨v, hq, hK⟩ := h1
          have hv : v = undef := by
            have := hq B (Cl.of (Ext.refl B))
            simp [Oper.quietAt, execOp, Oper.quietUpon, Act.eval] at this
            exact this.symm
          rw [hv, hd] at hK
          exact hK
        unfold wpOp
        simp only [List.getElem?_toArray, ho]
        rw [if_pos (by simp [Region.wanted, hgn])]
        refine .inl ?_
        unfold Oper.wp
        rw [hnew m hm o (by rw [hmi]; exact ho) aR w]
        simp only [Oper.upon]
        rw [hd]
        refine ih _ (aA.put (some m.2.1) undef) _ _ (by simp [hs]) (Ext.alloc hw m.2.2) (fun j hj => hset j hj hlt) ?_ (fun B hBw => hnext B (Ext.trans (Ext.alloc (Ext.refl w) m.2.2) hBw))
        refine RelM.congr (RelM.make hrel hw hm hn1 hn2 (by rw [hmi]; exact hunf)) fun m' hm' => ?_
        by_cases he : m'.1 = m.1
        · rw [if_pos he, he, hmi]; simp [hlen]
        · rw [if_neg he, getD_set_ne false (by omega)]
      · have hia' : isNew ms i = false := by simpa using hia
        have hlook := fun m hm => (hkd hlt hia' m hm).1
        have hdst := fun m hm => (hkd hlt hia' m hm).2
        have hdumb : dumbM np ms i o = o := by unfold dumbM; rw [if_neg hia, if_neg (by omega)]
        obtain ⟨hex, hwt⟩ := RelM.exec hrel hsel hlook
        have hwd := wanted_dumbsM (l := l) hgd aA.tmps
        have hnal : ∀ m ∈ ms, listed.getD m.1 false = (listed.setIfInBounds i true).getD m.1 false := fun m hm => (getD_set_ne false (fun e => hia (isNew_iff.2 ⟨m, hm, e.symm⟩))).symm
        have hgame := fun B (hBw : Ext w B) => by
          have h1 := hready B hBw
          unfold qOp at h1
          simp only [List.getElem?_toArray, dumbsM_at, Nat.zero_add, ho, Option.map_some, hdumb] at h1
          exact h1
        unfold wpOp
        simp only [List.getElem?_toArray, ho]
        by_cases hwant : Region.wanted o (yielded l.toArray aA.tmps) = true
        · rw [if_pos (by rw [hwt]; exact hwant)]
          have h0 := hgame w (Ext.refl w)
          rw [if_pos (by rw [hwd]; exact hwant)] at h0
          obtain ⟨v, hq, _⟩ := h0
          have hnext : ∀ B, Ext w B → wpAnyQ P .any (dumbsM np ms 0 l).toArray (Cl B) (TailM P l np ms W Q) fuel (listed.setIfInBounds i true) (aA.put o.dst v) := fun B hBw => by
            have h1 := hgame B hBw
            rw [if_pos (by rw [hwd]; exact hwant)] at h1
            obtain ⟨vB, hqB, hKB⟩ := h1
            rw [quietAt_det (hqB B (Cl.of (Ext.refl B))) (hq B (Cl.of hBw))] at hKB
            exact hKB
          refine .inl ?_
          unfold Oper.wp
          rw [hex]
          have hqw := hq w (Cl.of (Ext.refl w))
          unfold Oper.quietAt at hqw
          generalize (execOp aA.eval o).run P w = r at *
          cases r with
          | ok n w' =>
            cases n <;> simp only [Oper.quietUpon] at hqw <;> simp only [Oper.upon]
            case value u =>
              obtain ⟨e1, e2⟩ := hqw
              rw [e1, e2]
              exact ih _ (aA.put o.dst v) _ _ (by simp [hs]) hw (fun j hj => hset j hj hlt) (RelM.congr (RelM.put hrel hdst v) hnal) hnext
            case skip =>
              obtain ⟨e1, e2⟩ := hqw
              rw [e1, ← e2]
              exact ih _ (aA.put o.dst v) _ _ (by simp [hs]) hw (fun j hj => hset j hj hlt) (RelM.congr (RelM.put hrel hdst v) hnal) hnext
            case enter f args =>
              obtain ⟨e1, hc⟩ := hqw
              rw [e1]
              refine hc.mono fun e w'' he => ?_
              obtain ⟨he, hcl⟩ := he
              subst he
              have hx := Cl.ext hcl
              exact ih _ (aA.put o.dst v) _ _ (by simp [hs]) (Ext.trans hw hx) (fun j hj => hset j hj hlt) (RelM.congr (RelM.later (RelM.put hrel hdst v) hx) hnal) (fun B hBw => hnext B (Ext.trans hx hBw))
          | halt x w' => simp only [Oper.quietUpon] at hqw
        · rw [if_neg (by rw [hwt]; exact hwant)]
          refine ih _ (aA.put o.dst undef) _ _ (by simp [hs]) hw (fun j hj => hset j hj hlt) (RelM.congr (RelM.put hrel hdst undef) hnal) (fun B hBw => ?_)
          have h1 := hgame B hBw
          rw [if_neg (by rw [hwd]; exact hwant)] at h1
          exact h1
    · have hinp : i = np := by
        rcases Nat.lt_or_ge np i with h | h
        · rcases (htl hge).2 np h with ⟨_, hin⟩ | ⟨e, he, hon, hb⟩
          · omega
          · have := hall e he hb
            rw [hon, ht np (Nat.le_refl _)] at this
            cases this
        · omega
      subst hinp
      have hbefore : ∀ j, j < i → late j = false → listed.getD j false = true := fun j hj hl => by
        rcases (htl hge).2 j hj with ⟨h1, _⟩ | ⟨e, he, hon, hb⟩
        · rw [hl] at h1; cases h1
        · have := hall e he hb
          rwa [hon] at this
      have hpre : ∀ j, j < i → late j = false → listed.getD j true = true := fun j hj hl => by
        have h1 := hbefore j hj hl
        have : j < listed.size := by omega
        simp [this] at h1 ⊢
        exact h1
      replace hrel := RelM.congr (don' := fun _ => true) hrel fun m hm => hbefore m.1 (hal m hm) (hla m hm).2
      exact (many_run hB hQ hlate (fuel + 1) listed aA aR w hs hw hpre ht hrel (hg w (Ext.refl w))).2 i hi
end

section
variable {P : Program} {l : List Oper} {Q : Exit → Act → World → Prop} {id : Nat} {a : Act} {w : World}
theorem wp_region_many_core (np : Nat) (ms : List Made) (late : Nat → Bool) (hm : P.follows .mixedOrders = true) (hL : Region.lexB .any (dumbsM np ms 0 l).toArray = true) (hB : manyB np ms late l = true)
    (hQ : ∀ c (a : Act) (x : Option Tmp) (v : Value) w, Q (.panic c) (a.put x v) w → Q (.panic c) a w)
    (hlate : ∀ i o, late i = true → l[i]? = some o → ∀ (a : Act) w n w1, (execOp a.eval o).run P w = .ok n w1 → ∃ v, n = .value v ∧ ∀ w', (execOp a.eval o).run P w' = .ok (.value v) w')
    (hnew : ∀ m ∈ ms, ∀ o, l[m.1]? = some o → ∀ (a : Act) w, (execOp a.eval o).run P w = .ok (.value (.pointer (some ⟨w.heap.size, 0, none⟩))) (w.alloc m.2.2))
    (h : ∀ B, Ext w B → wpQuiet P (dumbsM np ms 0 l).toArray (Cl B) (TailM P l np ms w Q) (dumbsM np ms 0 l) a) : (Code.region id l.toArray true).wp P Q a w := by
  refine wp_region_any hm ?_
  rw [show l.toArray.size = l.length by simp]
  have hlen : (dumbsM np ms 0 l).length = l.length := by
    have : ∀ k (l : List Oper), (dumbsM np ms k l).length = l.length := by
      intro k l; induction l generalizing k with
      | nil => rfl
      | cons o r ih => simp [dumbsM, ih]
    exact this 0 l
  refine sim_many (W := w) hB hQ hlate hnew l.length _ a a _ (by simp) (Ext.drew (Ext.refl w)) (fun i _ => ?_) ?_ (fun B hBw => ?_)
  · by_cases hi : i < l.length <;> simp [hi]
  · refine RelM.congr (don := fun _ => false) ⟨fun _ => 0, fun m _ h => by simp at h, fun m _ m' _ h => by simp at h, ?_⟩ fun m _ => ?_
    · have : ∀ (ms : List Made) (a : Act), puts (fun _ => 0) (fun _ => false) ms a = a := by
        intro ms; induction ms with
        | nil => intro a; rfl
        | cons m r ih => intro a; unfold puts; simp only [Bool.false_eq_true, if_false]; exact ih a
      exact (this ms a).symm
    · by_cases hi : m.1 < l.length <;> simp [hi]
  · have h1 := h B (Ext.trans (Ext.drew (Ext.refl w)) hBw)
    simp only [Region.lexB, Bool.and_eq_true] at hL
    have h2 := wpAnyQ_lex (P := P) (C := Cl B) (md := .any) hL.1 (dumbsM np ms 0 l) 0 (Array.replicate (dumbsM np ms 0 l).toArray.size false) a (by simp) (by simpa using hL.2) h1
    simpa [hlen] using h2
/-- A region that draws its order, makes the new variables ms and ends in a tail of stores (from number np on): one walk of what stands ahead, then the tail. -/
theorem wp_region_many (np : Nat) (ms : List Made) (late : Nat → Bool) (hm : P.follows .mixedOrders = true) (hL : Region.lexB .any (dumbsM np ms 0 l).toArray = true) (hB : manyB np ms late l = true)
    (hQ : ∀ c (a : Act) (x : Option Tmp) (v : Value) w, Q (.panic c) (a.put x v) w → Q (.panic c) a w)
    (hlate : ∀ i o, late i = true → l[i]? = some o → ∀ (a : Act) w n w1, (execOp a.eval o).run P w = .ok n w1 → ∃ v, n = .value v ∧ ∀ w', (execOp a.eval o).run P w' = .ok (.value v) w')
    (hnew : ∀ m ∈ ms, ∀ o, l[m.1]? = some o → ∀ (a : Act) w, (execOp a.eval o).run P w = .ok (.value (.pointer (some ⟨w.heap.size, 0, none⟩))) (w.alloc m.2.2))
    (h : ∀ B, Ext w B → ∀ l', dumbsM np ms 0 l = l' → wpQuiet P l'.toArray (fun w' => ∃ x : Grow B, w' = x.out) (fun aA => ∀ (bs : Nat → Nat) w', Ext w w' → (∀ m ∈ ms, ∃ w0, Ext w w0 ∧ Ext (w0.alloc m.2.2) w' ∧ bs m.1 = w0.heap.size) → (∀ m ∈ ms, ∀ m' ∈ ms, m.1 ≠ m'.1 → bs m.1 ≠ bs m'.1) →
      ∀ t, l.drop np = t → wpList P l.toArray Q t (puts bs (fun _ => true) ms aA) w') l' a) : (Code.region id l.toArray true).wp P Q a w := by
  refine wp_region_many_core np ms late hm hL hB hQ hlate hnew (fun B hBw => ?_)
  have e : (TailM P l np ms w Q) = (fun aA => ∀ (bs : Nat → Nat) w', Ext w w' → (∀ m ∈ ms, ∃ w0, Ext w w0 ∧ Ext (w0.alloc m.2.2) w' ∧ bs m.1 = w0.heap.size) → (∀ m ∈ ms, ∀ m' ∈ ms, m.1 ≠ m'.1 → bs m.1 ≠ bs m'.1) →
      ∀ t, l.drop np = t → wpList P l.toArray Q t (puts bs (fun _ => true) ms aA) w') := by
    funext aA
    apply propext
    unfold TailM RelM
    exact ⟨fun h bs w' hw h1 h2 t ht => by subst ht; exact h w' _ hw ⟨bs, fun m hm _ => h1 m hm, fun m hm m' hm' _ _ => h2 m hm m' hm', rfl⟩, fun h w' aR hw ⟨bs, h1, h2, hr⟩ => by subst hr; exact h bs w' hw (fun m hm => h1 m hm rfl) (fun m hm m' hm' => h2 m hm m' hm' rfl rfl) _ rfl⟩
  rw [e]
  exact h B hBw _ rfl
end
end Go.Proofs.YthlhmfjopjikpaaDoor
