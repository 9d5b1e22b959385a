/- Two runs of one call end alike; and a region that draws its order, makes one new variable and ends in stores, goes by one walk in the order of the text: laws that name no program. -/
import Derived.Test.YthlhmfjopjikpaaDoorExt
namespace Go.Proofs.YthlhmfjopjikpaaDoor
open Go.RowKit

/-- A caller at which the machine ends. -/
def stopper (P : Program) : Frame := { (default : Frame) with fn := P.funcs.size, tmps := #[], todo := [], defers := [], mode := .returning, kind := .report }
theorem stopper_step (P : Program) (w : World) : ∃ o w', step P (lone (stopper P) [] w) = .ended o w' := by
  have h : ∃ o w', (stepG P true { frame := stopper P, callers := [], status := .running, dying := none } w).bare = .ended o w' := by
    simp [stepG, unwind, doReturn, stopper]
  obtain ⟨o, w', h⟩ := h
  exact ⟨o, w', step_lone_ended h⟩
theorem runN_one (P : Program) (m : Machine) : runN P 1 m = step P m := by
  simp [runN]; cases step P m <;> rfl
/-- The run to the leaving frame, and what follows it. -/
theorem run_past {P : Program} {n : Nat} {m : Machine} {fr : Frame} {w : World} {v : Value} (h : runN P n m = .next (lone fr [stopper P] w)) (hl : fr.leaving P w (.returned v)) :
    runN P (n + 1) m = .next (lone (stopper P) [] w) ∧ ∀ k, ∃ o w', runN P (n + 2 + k) m = .ended o w' := by
  have h1 : runN P (n + 1) m = .next (lone (stopper P) [] w) := by
    rw [runN_add, h]; simp only [runN_one]; exact step_leave_returned hl
  refine ⟨h1, fun k => ?_⟩
  obtain ⟨o, w', hs⟩ := stopper_step P w
  refine ⟨o, w', ?_⟩
  rw [show n + 2 + k = (n + 1) + (1 + k) by omega, runN_add, h1]
  simp only []
  rw [runN_add, runN_one, hs]
theorem run_le {P : Program} {n n' : Nat} {m : Machine} {fr fr' : Frame} {w w' : World} {v : Value} (h : runN P n m = .next (lone fr [stopper P] w)) (hl : fr.leaving P w (.returned v))
    (h' : runN P n' m = .next (lone fr' [stopper P] w')) : n' ≤ n := by
  obtain ⟨a, b⟩ := run_past h hl
  rcases Nat.lt_or_ge n n' with hlt | hge
  · by_cases he : n' = n + 1
    · subst he
      rw [a] at h'
      simp [lone] at h'
    · obtain ⟨o, w2, hb⟩ := b (n' - (n + 2))
      rw [show n + 2 + (n' - (n + 2)) = n' by omega, h'] at hb
      cases hb
  · exact hge
theorem calls_det {P : Program} {f : FuncId} {args : Array Value} {w : World} {v v' : Value} {R R' : World → Prop}
    (h : Calls P f args w fun e w' => e = .returned v ∧ R w') (h' : Calls P f args w fun e w' => e = .returned v' ∧ R' w') : v = v' := by
  obtain ⟨e, w1, fr, ⟨rfl, _⟩, ⟨n, hn⟩, _, hl⟩ := h [stopper P]
  obtain ⟨e', w2, fr', ⟨rfl, _⟩, ⟨n', hn'⟩, _, hl'⟩ := h' [stopper P]
  have h1 := run_le hn hl hn'
  have h2 := run_le hn' hl' hn
  have he : n = n' := by omega
  subst he
  rw [hn] at hn'
  have hf : fr = fr' ∧ w1 = w2 := by simpa [lone, and_comm] using hn'
  obtain ⟨rfl, rfl⟩ := hf
  obtain ⟨_, _, _, fn, hfn, hr⟩ := hl
  obtain ⟨_, _, _, fn', hfn', hr'⟩ := hl'
  rw [hfn] at hfn'
  cases hfn'
  rw [hr] at hr'
  cases hr'
  rfl
theorem quietAt_det {P : Program} {o : Oper} {a : Act} {C C' : World → Prop} {w : World} {v v' : Value} (h : o.quietAt P a C w v) (h' : o.quietAt P a C' w v') : v = v' := by
  unfold Oper.quietAt at *
  generalize (execOp a.eval o).run P w = r at *
  cases r with
  | ok n w' =>
    cases n <;> simp only [Oper.quietUpon] at h h'
    case value u => rw [← h.2, ← h'.2]
    case skip => rw [h.2, h'.2]
    case enter f args => exact calls_det h.2 h'.2
  | halt x w' => simp only [Oper.quietUpon] at h

/-- The class of the worlds that have grown out of B. -/
def Cl (B : World) : World → Prop := fun w' => ∃ x : Grow B, w' = x.out
theorem Cl.of {B w : World} (h : Ext B w) : Cl B w := ⟨⟨w, h⟩, rfl⟩
theorem Cl.ext {B w : World} (h : Cl B w) : Ext B w := by obtain ⟨x, rfl⟩ := h; exact x.2

/-- An operation in whose place nothing is done: the new variable's making (number al), and the tail (from np on). -/
def dumb (np al i : Nat) (o : Oper) : Oper := if i = al then { o with op := .move (.const undef) } else if np ≤ i then { o with op := .move (.const undef), dst := none } else o
def dumbs (np al : Nat) : Nat → List Oper → List Oper
  | _, [] => []
  | k, o :: r => dumb np al k o :: dumbs np al (k + 1) r
theorem dumbs_at (np al : Nat) (l : List Oper) : ∀ k i, (dumbs np al k l)[i]? = (l[i]?).map (dumb np al (k + i)) := by
  induction l with
  | nil => intro k i; simp [dumbs]
  | cons o r ih =>
    intro k i
    cases i with
    | zero => simp [dumbs]
    | succ i => simp only [dumbs, List.getElem?_cons_succ]; rw [ih (k + 1) i, show k + 1 + i = k + (i + 1) by omega]
theorem dumb_after (np al i : Nat) (o : Oper) : (dumb np al i o).after = o.after := by unfold dumb; split <;> (try split) <;> rfl
theorem dumb_guard (np al i : Nat) (o : Oper) : (dumb np al i o).guard = o.guard := by unfold dumb; split <;> (try split) <;> rfl

section
variable {P : Program} {l : List Oper} {np al : Nat} {d : Tmp} {O : Obj} {W : World} {Q : Exit → Act → World → Prop}

theorem ready_dumbs (listed : Array Bool) (i : Nat) : i ∈ Region.ready .any (dumbs np al 0 l).toArray listed ↔ i ∈ Region.ready .any l.toArray listed := by
  rw [mem_ready, mem_ready]
  simp only [List.getElem?_toArray, dumbs_at, Nat.zero_add]
  constructor
  · rintro ⟨h0, o, ho, hall⟩
    cases hi : l[i]? with
    | none => simp [hi] at ho
    | some o' =>
      simp only [hi, Option.map_some, Option.some.injEq] at ho
      subst ho
      exact ⟨h0, o', rfl, by rw [dumb_after] at hall; exact hall⟩
  · rintro ⟨h0, o, ho, hall⟩
    exact ⟨h0, dumb np al i o, by simp [ho], by rw [dumb_after]; exact hall⟩

/-- What is asked of the region, by looking: edges lead to earlier operations; the tail's wait for all that stand ahead; guards hang on operations ahead of the tail; nothing ahead of the tail looks at the new variable's slot or writes it but its making. -/
def newB (np al : Nat) (d : Tmp) (l : List Oper) : Bool :=
  decide (np < l.length) &&
  (List.range l.length).all fun k => match l[k]? with
    | none => false
    | some o => (o.after.all fun e => decide (e.on < k)) &&
      (match o.guard with | none => true | some (g, _) => decide (g < np) && decide (g ≠ al)) &&
      (match o.op with | .select _ _ => false | _ => true) &&
      (if np ≤ k then (List.range k).all fun j => o.after.any fun e => decide (e.on = j) && Region.binds .any e
       else if k = al then decide (o.dst = some d) && decide (o.guard = none)
       else !(o.looksAt l.toArray).contains d && decide (o.dst ≠ some d))
theorem newB_spec (h : newB np al d l = true) : np < l.length ∧ ∀ k o, l[k]? = some o →
    (∀ e ∈ o.after, e.on < k) ∧ (∀ g b, o.guard = some (g, b) → g < np ∧ g ≠ al) ∧ (∀ cs b, o.op ≠ .select cs b) ∧
    (np ≤ k → ∀ j, j < k → ∃ e ∈ o.after, e.on = j ∧ Region.binds .any e = true) ∧ (k < np → k = al → o.dst = some d ∧ o.guard = none) ∧ (k < np → k ≠ al → d ∉ o.looksAt l.toArray ∧ o.dst ≠ some d) := by
  simp only [newB, Bool.and_eq_true, decide_eq_true_eq, List.all_eq_true, List.mem_range] at h
  refine ⟨h.1, fun k o ho => ?_⟩
  have hk : k < l.length := (List.getElem?_eq_some_iff.1 ho).1
  have h1 := h.2 k hk
  rw [ho] at h1
  simp only [Bool.and_eq_true] at h1
  obtain ⟨⟨⟨a, b⟩, c⟩, e⟩ := h1
  refine ⟨?_, ?_, ?_, ?_, ?_, ?_⟩
  · intro x hx
    have := Array.all_eq_true_iff_forall_mem.1 a x hx
    simpa using this
  · intro g q hg
    rw [hg] at b
    simpa using b
  · intro cs q hq
    rw [hq] at c
    simp at c
  · intro hn j hj
    rw [if_pos hn, List.all_eq_true] at e
    have := e j (List.mem_range.2 hj)
    rw [Array.any_eq_true] at this
    obtain ⟨n, hn2, hx2⟩ := this
    simp only [Bool.and_eq_true, decide_eq_true_eq] at hx2
    exact ⟨_, Array.getElem_mem hn2, hx2.1, hx2.2⟩
  · intro hn hal
    rw [if_neg (by omega), if_pos hal] at e
    simpa using e
  · intro hn hal
    rw [if_neg (by omega), if_neg hal] at e
    simpa using e

/-- While something is left, something may come up. -/
theorem ready_ne (he : ∀ (k : Nat) (o : Oper), l[k]? = some o → ∀ e ∈ o.after, e.on < k) (listed : Array Bool) (hs : listed.size = l.length) :
    ∀ i, i < l.length → listed.getD i false = false → Region.ready .any l.toArray listed ≠ [] := by
  intro i
  induction i using Nat.strongRecOn with
  | _ i ih =>
    intro hi hf hnil
    have ho : l[i]? = some l[i] := List.getElem?_eq_getElem hi
    have : i ∈ Region.ready .any l.toArray listed := by
      rw [mem_ready]
      refine ⟨?_, l[i], by simp, fun e hee _ => ?_⟩
      · have hlt : i < listed.size := by omega
        simp [hlt] at hf ⊢
        exact hf
      · cases hc : listed.getD e.on false with
        | true => rfl
        | false => exact absurd hnil (ih e.on (he i _ ho e hee) (by have := he i _ ho e hee; omega) hc)
    rw [hnil] at this
    cases this

/-- How the true frame stands to the walk's: the new variable's slot holds its address, once it is made. -/
def Rel (O : Obj) (W : World) (d : Tmp) (done : Bool) (aA aR : Act) (w : World) : Prop :=
  if done then ∃ w0, Ext W w0 ∧ Ext (w0.alloc O) w ∧ aR = aA.put (some d) (.pointer (some ⟨w0.heap.size, 0, none⟩)) else aR = aA
theorem Rel.later {done : Bool} {aA aR : Act} {w w' : World} (h : Rel O W d done aA aR w) (hw : Ext w w') : Rel O W d done aA aR w' := by
  unfold Rel at *
  cases done
  · exact h
  · obtain ⟨w0, a, b, c⟩ := h
    exact ⟨w0, a, Ext.trans b hw, c⟩
theorem put_put (a : Act) (d : Tmp) (u v : Value) : (a.put (some d) u).put (some d) v = a.put (some d) v := by simp [Act.put]
theorem put_none (a : Act) (v : Value) : a.put none v = a := rfl
theorem Rel.put {done : Bool} {aA aR : Act} {w : World} (h : Rel O W d done aA aR w) {x : Option Tmp} (hx : x ≠ some d) (v : Value) : Rel O W d done (aA.put x v) (aR.put x v) w := by
  unfold Rel at *
  cases done
  · simp only [Bool.false_eq_true, if_false] at *; rw [h]
  · simp only [if_true] at *
    obtain ⟨w0, a, b, c⟩ := h
    exact ⟨w0, a, b, by rw [c]; exact (Act.put_comm aA (x := some d) (y := x) _ v (by rintro _ ⟨⟩; exact hx))⟩
theorem Rel.exec {done : Bool} {aA aR : Act} {w : World} (h : Rel O W d done aA aR w) {o : Oper} (hs : ∀ cs b, o.op ≠ .select cs b) (hd : d ∉ o.looksAt l.toArray) :
    execOp aR.eval o = execOp aA.eval o ∧ Region.wanted o (yielded l.toArray aR.tmps) = Region.wanted o (yielded l.toArray aA.tmps) := by
  unfold Rel at h
  cases done
  · simp only [Bool.false_eq_true, if_false] at h; rw [h]; exact ⟨rfl, rfl⟩
  · simp only [if_true] at h
    obtain ⟨w0, a, b, rfl⟩ := h
    exact ⟨execOp_put (ops := l.toArray) o hs aA (some d) _ (by rintro _ ⟨⟩; exact hd), wanted_put o aA (some d) _ (by rintro _ ⟨⟩; exact hd)⟩

/-- What the walk must show at its end: the tail, in its order, whatever has been made. -/
def Tail (P : Program) (l : List Oper) (np al : Nat) (d : Tmp) (O : Obj) (W : World) (Q : Exit → Act → World → Prop) (aA : Act) : Prop :=
  ∀ w aR, Ext W w → Rel O W d (decide (al < np)) aA aR w → wpList P l.toArray Q (l.drop np) aR w

/-- All but the tail has come up: the walk's end holds. -/
theorem game_end {C : World → Prop} {Q' : Act → Prop} : ∀ (fuel : Nat) (listed : Array Bool) (aA : Act), (∀ i, i < np → listed.getD i true = true) → (np ≤ al → l.length ≤ al) → C W →
    wpAnyQ P .any (dumbs np al 0 l).toArray C Q' fuel listed aA → Q' aA
  | 0, _, _, _, _, _, h => h.2
  | fuel + 1, listed, aA, hp, hal, hC, h => by
    cases hr : Region.ready .any (dumbs np al 0 l).toArray listed with
    | nil => exact h.1 hr
    | cons i r =>
      have hi : i ∈ Region.ready .any (dumbs np al 0 l).toArray listed := by rw [hr]; exact List.mem_cons_self
      have h1 := h.2 i hi
      obtain ⟨hun, o, ho, _⟩ := mem_ready.1 hi
      have hnp : np ≤ i := by
        rcases Nat.lt_or_ge i np with hlt | hge
        · rw [hp i hlt] at hun; cases hun
        · exact hge
      simp only [List.getElem?_toArray, dumbs_at, Nat.zero_add] at ho
      cases hl : l[i]? with
      | none => simp [hl] at ho
      | some o' =>
        have hil : i < l.length := (List.getElem?_eq_some_iff.1 hl).1
        have hne : i ≠ al := by
          rintro rfl
          have := hal hnp
          omega
        simp only [hl, Option.map_some, Option.some.injEq] at ho
        have hod : o.dst = none := by rw [← ho]; unfold dumb; rw [if_neg hne, if_pos hnp]
        have hK : wpAnyQ P .any (dumbs np al 0 l).toArray C Q' fuel (listed.setIfInBounds i true) aA := by
          unfold qOp at h1
          simp only [List.getElem?_toArray, dumbs_at, Nat.zero_add, hl, Option.map_some, ho] at h1
          split at h1
          · obtain ⟨v, _, hK⟩ := h1
            rw [hod] at hK
            exact hK
          · rw [hod] at h1
            exact h1
        refine game_end fuel _ aA (fun j hj => ?_) hal hC hK
        by_cases hij : i = j
        · subst hij; omega
        · rw [getD_set_ne true hij]; exact hp j hj

/-- The tail runs in its order. -/
theorem tail_run (hB : newB np al d l = true) {C : World → Prop} {Q' : Act → Prop} (hal : np ≤ al → l.length ≤ al) : ∀ (fuel : Nat) (t : Nat) (listed : Array Bool) (aA aR : Act) (w : World), np ≤ t → listed.size = l.length →
    (∀ i, i < t → listed.getD i true = true) → (∀ i, t ≤ i → listed.getD i false = false) →
    wpAnyQ P .any (dumbs np al 0 l).toArray C Q' fuel listed aA → wpList P l.toArray Q (l.drop t) aR w → wpAny P .any l.toArray Q fuel listed aR w := by
  obtain ⟨hnp, hk⟩ := newB_spec hB
  intro fuel
  induction fuel with
  | zero =>
    intro t listed aA aR w ht hs h1 h2 hg hw
    have hr : Region.ready .any l.toArray listed = [] := by
      have := hg.1
      apply List.eq_nil_iff_forall_not_mem.2
      intro i hi
      rw [← ready_dumbs (np := np) (al := al), this] at hi
      cases hi
    refine ⟨hr, ?_⟩
    have hlt : l.length ≤ t := by
      rcases Nat.lt_or_ge t l.length with h | h
      · exact absurd hr (ready_ne (fun k o ho => (hk k o ho).1) listed hs t h (h2 t (Nat.le_refl _)))
      · exact h
    rw [List.drop_eq_nil_of_le hlt] at hw
    exact hw
  | succ fuel ih =>
    intro t listed aA aR w ht hs h1 h2 hg hw
    refine ⟨fun hr => ?_, fun i hi => ?_⟩
    · have hlt : l.length ≤ t := by
        rcases Nat.lt_or_ge t l.length with h | h
        · exact absurd hr (ready_ne (fun k o ho => (hk k o ho).1) listed hs t h (h2 t (Nat.le_refl _)))
        · exact h
      rw [List.drop_eq_nil_of_le hlt] at hw
      exact hw
    · obtain ⟨hun, o, ho, hall⟩ := mem_ready.1 hi
      simp only [List.getElem?_toArray] at ho
      have hil : i < l.length := (List.getElem?_eq_some_iff.1 ho).1
      have hti : t ≤ i := by
        rcases Nat.lt_or_ge i t with h | h
        · rw [h1 i h] at hun; cases hun
        · exact h
      have hit : i = t := by
        rcases Nat.lt_or_ge t i with h | h
        · obtain ⟨e, he, hon, hb⟩ := (hk i o ho).2.2.2.1 (by omega) t h
          have := hall e (by simpa using he) hb
          rw [hon, h2 t (Nat.le_refl _)] at this
          cases this
        · omega
      subst hit
      have hne : i ≠ al := by
        rintro rfl
        have := hal ht
        omega
      have hg1 := hg.2 i ((ready_dumbs listed i).2 hi)
      have hod : (dumb np al i o).dst = none := by unfold dumb; rw [if_neg hne, if_pos ht]
      have hK : wpAnyQ P .any (dumbs np al 0 l).toArray C Q' fuel (listed.setIfInBounds i true) aA := by
        unfold qOp at hg1
        simp only [List.getElem?_toArray, dumbs_at, Nat.zero_add, ho, Option.map_some] at hg1
        split at hg1
        · obtain ⟨v, _, hK⟩ := hg1
          rw [hod] at hK
          exact hK
        · rw [hod] at hg1
          exact hg1
      have hlen : i < listed.size := by omega
      have nxt : ∀ a w, wpList P l.toArray Q (l.drop (i + 1)) a w → wpAny P .any l.toArray Q fuel (listed.setIfInBounds i true) a w := fun a w hw => by
        refine ih (i + 1) _ aA a w (by omega) (by simp [hs]) (fun j hj => ?_) (fun j hj => ?_) hK hw
        · by_cases hij : i = j
          · subst hij; simp [hlen]
          · rw [getD_set_ne true hij]; exact h1 j (by omega)
        · rw [getD_set_ne false (by omega)]; exact h2 j (by omega)
      rw [List.drop_eq_getElem_cons hil] at hw
      have hoe : l[i] = o := by rw [List.getElem?_eq_getElem hil] at ho; exact Option.some.inj ho
      rw [hoe] at hw
      unfold wpOp
      simp only [List.getElem?_toArray, ho]
      simp only [wpList] at hw
      split
      · rename_i hwant
        rw [if_pos hwant] at hw
        exact hw.imp (Oper.wp_mono nxt) id
      · rename_i hwant
        rw [if_neg hwant] at hw
        exact nxt _ _ hw

theorem wanted_dumbs {o : Oper} (hg : ∀ g b, o.guard = some (g, b) → g < np ∧ g ≠ al) (tmps : Array Value) : Region.wanted o (yielded (dumbs np al 0 l).toArray tmps) = Region.wanted o (yielded l.toArray tmps) := by
  unfold Region.wanted
  cases h : o.guard with
  | none => rfl
  | some gb =>
    obtain ⟨g, b⟩ := gb
    obtain ⟨h1, h2⟩ := hg g b h
    have : yielded (dumbs np al 0 l).toArray tmps g = yielded l.toArray tmps g := by
      unfold yielded
      simp only [List.getElem?_toArray, dumbs_at, Nat.zero_add]
      cases hl : l[g]? with
      | none => simp
      | some o' => simp [dumb, h2, Nat.not_le_of_lt h1]
    simp only [this]

theorem sim (hB : newB np al d l = true) (hal : np ≤ al → l.length ≤ al)
    (hnew : ∀ o, l[al]? = some o → al < np → ∀ (a : Act) w, (execOp a.eval o).run P w = .ok (.value (.pointer (some ⟨w.heap.size, 0, none⟩))) (w.alloc O)) :
    ∀ (fuel : Nat) (listed : Array Bool) (aA aR : Act) (w : World), listed.size = l.length → Ext W w → (∀ i, np ≤ i → listed.getD i false = false) → Rel O W d (listed.getD al false) aA aR w →
    (∀ B, Ext w B → wpAnyQ P .any (dumbs np al 0 l).toArray (Cl B) (Tail P l np al d O W Q) fuel listed aA) → wpAny P .any l.toArray Q fuel listed aR w := by
  obtain ⟨hnp, hk⟩ := newB_spec hB
  intro fuel
  induction fuel with
  | zero =>
    intro listed aA aR w hs hw ht hrel hg
    exfalso
    refine ready_ne (fun k o ho => (hk k o ho).1) listed hs np hnp (ht np (Nat.le_refl _)) ?_
    have := (hg w (Ext.refl w)).1
    apply List.eq_nil_iff_forall_not_mem.2
    intro i hi
    rw [← ready_dumbs (np := np) (al := al), this] at hi
    cases hi
  | succ fuel ih =>
    intro listed aA aR w hs hw ht hrel hg
    refine ⟨fun hr => absurd hr (ready_ne (fun k o ho => (hk k o ho).1) listed hs np hnp (ht np (Nat.le_refl _))), fun i hi => ?_⟩
    obtain ⟨hun, o, ho, hall⟩ := mem_ready.1 hi
    simp only [List.getElem?_toArray] at ho
    have hil : i < l.length := (List.getElem?_eq_some_iff.1 ho).1
    have hlen : i < listed.size := by omega
    have hunf : listed.getD i false = false := by simp [hlen] at hun ⊢; exact hun
    obtain ⟨_, hgd, hsel, htl, hkal, hkd⟩ := hk i o ho
    have hready := fun B (hBw : Ext w B) => (hg B hBw).2 i ((ready_dumbs listed i).2 hi)
    have hset : ∀ j, np ≤ j → i < np → (listed.setIfInBounds i true).getD j false = false := fun j hj hlt => by rw [getD_set_ne false (by omega)]; exact ht j hj
    rcases Nat.lt_or_ge i np with hlt | hge
    · by_cases hia : i = al
      · obtain ⟨hd, hgn⟩ := hkal hlt hia
        have hdumb : dumb np al i o = { o with op := .move (.const undef) } := by unfold dumb; rw [if_pos hia]
        have hnext : ∀ B, Ext w B → wpAnyQ P .any (dumbs np al 0 l).toArray (Cl B) (Tail P l np al d O W Q) fuel (listed.setIfInBounds i true) (aA.put (some d) undef) := fun B hBw => by
          have h1 := hready B hBw
          unfold qOp at h1
          simp only [List.getElem?_toArray, dumbs_at, Nat.zero_add, ho, Option.map_some, hdumb] at h1
          rw [if_pos (by simp [Region.wanted, hgn])] at h1
          obtain ⟨v, hq, hK⟩ := h1
          have hv : v = undef := by
            have := hq B (Cl.of (Ext.refl B))
            simp [Oper.quietAt, execOp, Oper.quietUpon, Act.eval] at this
            exact this.symm
          rw [hv, hd] at hK
          exact hK
        unfold wpOp
        simp only [List.getElem?_toArray, ho]
        rw [if_pos (by simp [Region.wanted, hgn])]
        refine .inl ?_
        unfold Oper.wp
        rw [hnew o (hia ▸ ho) (hia ▸ hlt) aR w]
        simp only [Oper.upon]
        rw [hd]
        refine ih _ (aA.put (some d) undef) _ _ (by simp [hs]) (Ext.alloc hw O) (fun j hj => hset j hj hlt) ?_ (fun B hBw => hnext B (Ext.trans (Ext.alloc (Ext.refl w) O) hBw))
        rw [← hia] at hrel ⊢
        rw [hunf] at hrel
        simp only [Rel, Bool.false_eq_true, if_false] at hrel
        have : (listed.setIfInBounds i true).getD i false = true := by simp [hlen]
        rw [this]
        simp only [Rel, if_true]
        exact ⟨w, hw, Ext.refl _, by rw [hrel, put_put]⟩
      · obtain ⟨hlook, hdst⟩ := hkd hlt hia
        have hdumb : dumb np al i o = o := by unfold dumb; rw [if_neg hia, if_neg (by omega)]
        obtain ⟨hex, hwt⟩ := Rel.exec hrel hsel hlook
        have hwd := wanted_dumbs (l := l) hgd aA.tmps
        have hnal : (listed.setIfInBounds i true).getD al false = listed.getD al false := getD_set_ne false hia
        have hgame := fun B (hBw : Ext w B) => by
          have h1 := hready B hBw
          unfold qOp at h1
          simp only [List.getElem?_toArray, dumbs_at, Nat.zero_add, ho, Option.map_some, hdumb] at h1
          exact h1
        unfold wpOp
        simp only [List.getElem?_toArray, ho]
        by_cases hwant : Region.wanted o (yielded l.toArray aA.tmps) = true
        · rw [if_pos (by rw [hwt]; exact hwant)]
          have h0 := hgame w (Ext.refl w)
          rw [if_pos (by rw [hwd]; exact hwant)] at h0
          obtain ⟨v, hq, _⟩ := h0
          have hnext : ∀ B, Ext w B → wpAnyQ P .any (dumbs np al 0 l).toArray (Cl B) (Tail P l np al d O W Q) fuel (listed.setIfInBounds i true) (aA.put o.dst v) := fun B hBw => by
            have h1 := hgame B hBw
            rw [if_pos (by rw [hwd]; exact hwant)] at h1
            obtain ⟨vB, hqB, hKB⟩ := h1
            rw [quietAt_det (hqB B (Cl.of (Ext.refl B))) (hq B (Cl.of hBw))] at hKB
            exact hKB
          refine .inl ?_
          unfold Oper.wp
          rw [hex]
          have hqw := hq w (Cl.of (Ext.refl w))
          unfold Oper.quietAt at hqw
          generalize (execOp aA.eval o).run P w = r at *
          cases r with
          | ok n w' =>
            cases n <;> simp only [Oper.quietUpon] at hqw <;> simp only [Oper.upon]
            case value u =>
              obtain ⟨e1, e2⟩ := hqw
              rw [e1, e2]
              exact ih _ (aA.put o.dst v) _ _ (by simp [hs]) hw (fun j hj => hset j hj hlt) (by rw [hnal]; exact Rel.put hrel hdst v) hnext
            case skip =>
              obtain ⟨e1, e2⟩ := hqw
              rw [e1, ← e2]
              exact ih _ (aA.put o.dst v) _ _ (by simp [hs]) hw (fun j hj => hset j hj hlt) (by rw [hnal]; exact Rel.put hrel hdst v) hnext
            case enter f args =>
              obtain ⟨e1, hc⟩ := hqw
              rw [e1]
              refine hc.mono fun e w'' he => ?_
              obtain ⟨he, hcl⟩ := he
              subst he
              have hx := Cl.ext hcl
              exact ih _ (aA.put o.dst v) _ _ (by simp [hs]) (Ext.trans hw hx) (fun j hj => hset j hj hlt) (by rw [hnal]; exact Rel.later (Rel.put hrel hdst v) hx) (fun B hBw => hnext B (Ext.trans hx hBw))
          | halt x w' => simp only [Oper.quietUpon] at hqw
        · rw [if_neg (by rw [hwt]; exact hwant)]
          refine ih _ (aA.put o.dst undef) _ _ (by simp [hs]) hw (fun j hj => hset j hj hlt) (by rw [hnal]; exact Rel.put hrel hdst undef) (fun B hBw => ?_)
          have h1 := hgame B hBw
          rw [if_neg (by rw [hwd]; exact hwant)] at h1
          exact h1
    · have hbefore : ∀ j, j < i → listed.getD j false = true := fun j hj => by
        obtain ⟨e, he, hon, hb⟩ := htl hge j hj
        have := hall e he hb
        rwa [hon] at this
      have hinp : i = np := by
        rcases Nat.lt_or_ge np i with h | h
        · have := hbefore np h
          rw [ht np (Nat.le_refl _)] at this
          cases this
        · omega
      subst hinp
      have hpre : ∀ j, j < i → listed.getD j true = true := fun j hj => by
        have h1 := hbefore j hj
        have : j < listed.size := by omega
        simp [this] at h1 ⊢
        exact h1
      have hT := game_end (W := w) (fuel + 1) listed aA hpre hal (Cl.of (Ext.refl w)) (hg w (Ext.refl w))
      have hdone : listed.getD al false = decide (al < i) := by
        by_cases h : al < i
        · rw [hbefore al h]; simp [h]
        · have h2 : listed.size ≤ al := by rw [hs]; exact hal (by omega)
          simp [h, Array.getElem?_eq_none h2]
      rw [hdone] at hrel
      exact (tail_run hB hal (fuel + 1) i listed aA aR w (Nat.le_refl _) hs hpre ht (hg w (Ext.refl w)) (hT w aR hw hrel)).2 i hi
end

section
variable {P : Program} {l : List Oper} {Q : Exit → Act → World → Prop} {id : Nat} {a : Act} {w : World}

theorem wp_region_core (np al : Nat) (d : Tmp) (O : Obj) (hm : P.follows .mixedOrders = true) (hL : Region.lexB .any (dumbs np al 0 l).toArray = true) (hB : newB np al d l = true) (hal : np ≤ al → l.length ≤ al)
    (hnew : ∀ o, l[al]? = some o → al < np → ∀ (a : Act) w, (execOp a.eval o).run P w = .ok (.value (.pointer (some ⟨w.heap.size, 0, none⟩))) (w.alloc O))
    (h : ∀ B, Ext w B → wpQuiet P (dumbs np al 0 l).toArray (Cl B) (Tail P l np al d O w Q) (dumbs np al 0 l) a) : (Code.region id l.toArray true).wp P Q a w := by
  refine wp_region_any hm ?_
  rw [show l.toArray.size = l.length by simp]
  have hlen : (dumbs np al 0 l).length = l.length := by
    have : ∀ k (l : List Oper), (dumbs np al k l).length = l.length := by
      intro k l; induction l generalizing k with
      | nil => rfl
      | cons o r ih => simp [dumbs, ih]
    exact this 0 l
  refine sim (W := w) hB hal hnew l.length _ a a _ (by simp) (Ext.drew (Ext.refl w)) (fun i _ => ?_) ?_ (fun B hBw => ?_)
  · by_cases hi : i < l.length <;> simp [hi]
  · have : (Array.replicate l.length false).getD al false = false := by by_cases hi : al < l.length <;> simp [hi]
    rw [this]; simp [Rel]
  · have h1 := h B (Ext.trans (Ext.drew (Ext.refl w)) hBw)
    simp only [Region.lexB, Bool.and_eq_true] at hL
    have h2 := wpAnyQ_lex (P := P) (C := Cl B) (md := .any) hL.1 (dumbs np al 0 l) 0 (Array.replicate (dumbs np al 0 l).toArray.size false) a (by simp) (by simpa using hL.2) h1
    simpa [hlen] using h2

/-- A region that draws its order and ends in a tail of stores (from number np on): one walk of what stands ahead, then the tail. -/
theorem wp_region_tail (np : Nat) (hm : P.follows .mixedOrders = true) (hL : Region.lexB .any (dumbs np l.length 0 l).toArray = true) (hB : newB np l.length l.length l = true)
    (h : ∀ B, Ext w B → ∀ l', dumbs np l.length 0 l = l' → wpQuiet P l'.toArray (fun w' => ∃ x : Grow B, w' = x.out) (fun aA => ∀ w', Ext w w' → ∀ t, l.drop np = t → wpList P l.toArray Q t aA w') l' a) : (Code.region id l.toArray true).wp P Q a w := by
  refine wp_region_core np l.length l.length (.cells #[] 0) hm hL hB (fun _ => Nat.le_refl _) (fun o ho => ?_) (fun B hBw => ?_)
  · rw [List.getElem?_eq_none (Nat.le_refl _)] at ho; cases ho
  · have hnp := (newB_spec hB).1
    have e : (Tail P l np l.length l.length (.cells #[] 0) w Q) = (fun aA => ∀ w', Ext w w' → ∀ t, l.drop np = t → wpList P l.toArray Q t aA w') := by
      funext aA
      apply propext
      unfold Tail Rel
      have hd : decide (l.length < np) = false := by simp; omega
      rw [hd]
      simp only [Bool.false_eq_true, if_false]
      exact ⟨fun h w' hw t ht => by subst ht; exact h w' aA hw rfl, fun h w' aR hw hr => by subst hr; exact h w' hw _ rfl⟩
    rw [e]
    exact h B hBw _ rfl

/-- .. that makes one new variable besides (its making is number al, its slot d, what it is made of O). -/
theorem wp_region_new (np al : Nat) (d : Tmp) (O : Obj) (hm : P.follows .mixedOrders = true) (hL : Region.lexB .any (dumbs np al 0 l).toArray = true) (hB : newB np al d l = true) (hal : al < np)
    (hnew : ∀ o, l[al]? = some o → ∀ (a : Act) w, (execOp a.eval o).run P w = .ok (.value (.pointer (some ⟨w.heap.size, 0, none⟩))) (w.alloc O))
    (h : ∀ B, Ext w B → ∀ l', dumbs np al 0 l = l' → wpQuiet P l'.toArray (fun w' => ∃ x : Grow B, w' = x.out) (fun aA => ∀ w0 w', Ext w w0 → Ext (w0.alloc O) w' → ∀ t, l.drop np = t → wpList P l.toArray Q t (aA.put (some d) (.pointer (some ⟨w0.heap.size, 0, none⟩))) w') l' a) : (Code.region id l.toArray true).wp P Q a w := by
  refine wp_region_core np al d O hm hL hB (fun h => absurd hal (by omega)) (fun o ho _ => hnew o ho) (fun B hBw => ?_)
  have e : (Tail P l np al d O w Q) = (fun aA => ∀ w0 w', Ext w w0 → Ext (w0.alloc O) w' → ∀ t, l.drop np = t → wpList P l.toArray Q t (aA.put (some d) (.pointer (some ⟨w0.heap.size, 0, none⟩))) w') := by
    funext aA
    apply propext
    unfold Tail Rel
    have hd : decide (al < np) = true := by simp [hal]
    rw [hd]
    simp only [if_true]
    exact ⟨fun h w0 w' h0 h1 t ht => by subst ht; exact h w' _ (Ext.trans (Ext.alloc h0 O) h1) ⟨w0, h0, h1, rfl⟩, fun h w' aR hw ⟨w0, h0, h1, hr⟩ => by subst hr; exact h w0 w' h0 h1 _ rfl⟩
  rw [e]
  exact h B hBw _ rfl
end
end Go.Proofs.YthlhmfjopjikpaaDoor
