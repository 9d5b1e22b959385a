/- A region that draws its order, whose tail may be overtaken by operations that only take a tuple apart: laws that name no program. -/
import Derived.Test.YthlhmfjopjikpaaDoorNew
namespace Go.Proofs.YthlhmfjopjikpaaDoor
open Go.RowKit
set_option linter.unusedVariables false

section
variable {P : Program} {l : List Oper} {np al : Nat} {d : Tmp} {O : Obj} {W : World} {Q : Exit → Act → World → Prop} {late : Nat → Bool}

/-- As newB, but the tail need not wait for the late ones: these are apart from all that may come up beside them. -/
def lateB (np al : Nat) (d : Tmp) (late : Nat → Bool) (l : List Oper) : Bool :=
  decide (np < l.length) && !late al &&
  (List.range l.length).all fun k => match l[k]? with
    | none => false
    | some o => (o.after.all fun e => decide (e.on < k) || !Region.binds .any e) &&
      (match o.guard with | none => true | some (g, _) => decide (g < np) && decide (g ≠ al)) &&
      (match o.op with | .select _ _ => false | _ => true) &&
      (if np ≤ k then !late k && (List.range k).all fun j => late j && decide (k = np) || o.after.any fun e => decide (e.on = j) && Region.binds .any e
       else if k = al then decide (o.dst = some d) && decide (o.guard = none)
       else !(o.looksAt l.toArray).contains d && decide (o.dst ≠ some d)) &&
      (!late k || (List.range l.length).all fun j => decide (j = k) || (decide (j < np) && !late j) || match l[j]? with
        | none => true
        | some oj => (oj.after.any fun e => decide (e.on = k) && Region.binds .any e) || o.apart l.toArray oj)

theorem lateB_spec (h : lateB np al d late l = true) : np < l.length ∧ late al = false ∧ ∀ k o, l[k]? = some o →
    (∀ e ∈ o.after, Region.binds .any e = true → e.on < k) ∧ (∀ g b, o.guard = some (g, b) → g < np ∧ g ≠ al) ∧ (∀ cs b, o.op ≠ .select cs b) ∧
    (np ≤ k → late k = false ∧ ∀ j, j < k → (late j = true ∧ k = np) ∨ ∃ e ∈ o.after, e.on = j ∧ Region.binds .any e = true) ∧ (k < np → k = al → o.dst = some d ∧ o.guard = none) ∧ (k < np → k ≠ al → d ∉ o.looksAt l.toArray ∧ o.dst ≠ some d) ∧
    (late k = true → ∀ j oj, l[j]? = some oj → j ≠ k → (np ≤ j ∨ late j = true) → (∀ e ∈ oj.after, Region.binds .any e = true → e.on ≠ k) → o.apart l.toArray oj = true) := by
  simp only [lateB, Bool.and_eq_true, decide_eq_true_eq, List.all_eq_true, List.mem_range, Bool.not_eq_true'] at h
  refine ⟨h.1.1, h.1.2, fun k o ho => ?_⟩
  have hk : k < l.length := (List.getElem?_eq_some_iff.1 ho).1
  have h1 := h.2 k hk
  rw [ho] at h1
  simp only [Bool.and_eq_true] at h1
  obtain ⟨⟨⟨⟨a, b⟩, c⟩, e⟩, f⟩ := h1
  refine ⟨?_, ?_, ?_, ?_, ?_, ?_, ?_⟩
  · intro x hx hb
    have := Array.all_eq_true_iff_forall_mem.1 a x hx
    simpa [hb] using this
  · intro g q hg
    rw [hg] at b
    simpa using b
  · intro cs q hq
    rw [hq] at c
    simp at c
  · intro hn
    rw [if_pos hn] at e
    simp only [Bool.and_eq_true, Bool.not_eq_true', List.all_eq_true, List.mem_range] at e
    refine ⟨e.1, fun j hj => ?_⟩
    have := e.2 j hj
    simp only [Bool.or_eq_true, Bool.and_eq_true, decide_eq_true_eq] at this
    rcases this with h2 | h2
    · exact .inl h2
    · rw [Array.any_eq_true] at h2
      obtain ⟨n, hn2, hx2⟩ := h2
      simp only [Bool.and_eq_true, decide_eq_true_eq] at hx2
      exact .inr ⟨_, Array.getElem_mem hn2, hx2.1, hx2.2⟩
  · intro hn hal
    rw [if_neg (by omega), if_pos hal] at e
    simpa using e
  · intro hn hal
    rw [if_neg (by omega), if_neg hal] at e
    simpa using e
  · intro hl j oj hj hjk hnl hno
    simp only [hl, Bool.not_true, Bool.false_or, List.all_eq_true, List.mem_range] at f
    have hjl : j < l.length := (List.getElem?_eq_some_iff.1 hj).1
    have := f j hjl
    rw [hj] at this
    simp only [Bool.or_eq_true, Bool.and_eq_true, decide_eq_true_eq, Bool.not_eq_true'] at this
    rcases this with (h2 | h2) | h2 | h2
    · exact absurd h2 hjk
    · rcases hnl with h3 | h3
      · omega
      · rw [h3] at h2; cases h2.2
    · rw [Array.any_eq_true] at h2
      obtain ⟨n, hn2, hx2⟩ := h2
      simp only [Bool.and_eq_true, decide_eq_true_eq] at hx2
      exact absurd hx2.1 (hno _ (Array.getElem_mem hn2) hx2.2)
    · exact h2

/-- While something is left, something may come up. -/
theorem ready_ne' (he : ∀ (k : Nat) (o : Oper), l[k]? = some o → ∀ e ∈ o.after, Region.binds .any e = true → e.on < k) (listed : Array Bool) (hs : listed.size = l.length) :
    ∀ i, i < l.length → listed.getD i false = false → ∃ j, j ≤ i ∧ listed.getD j false = false ∧ j ∈ Region.ready .any l.toArray listed := by
  intro i
  induction i using Nat.strongRecOn with
  | _ i ih =>
    intro hi hf
    have ho : l[i]? = some l[i] := List.getElem?_eq_getElem hi
    by_cases hall : ∀ e ∈ l[i].after, Region.binds .any e = true → listed.getD e.on false = true
    · refine ⟨i, Nat.le_refl _, hf, ?_⟩
      rw [mem_ready]
      refine ⟨?_, l[i], by simp, hall⟩
      have hlt : i < listed.size := by omega
      simp [hlt] at hf ⊢
      exact hf
    · have hex : ∃ e ∈ l[i].after, Region.binds .any e = true ∧ listed.getD e.on false = false := by
        apply Classical.byContradiction
        intro hno
        apply hall
        intro e he hb
        cases hc : listed.getD e.on false with
        | true => rfl
        | false => exact absurd ⟨e, he, hb, hc⟩ hno
      obtain ⟨e, hee, hb, hc⟩ := hex
      have hlt := he i _ ho e hee hb
      obtain ⟨j, h1, h2, h3⟩ := ih e.on hlt (by omega) hc
      exact ⟨j, by omega, h2, h3⟩

theorem ready_some (he : ∀ (k : Nat) (o : Oper), l[k]? = some o → ∀ e ∈ o.after, Region.binds .any e = true → e.on < k) (listed : Array Bool) (hs : listed.size = l.length)
    (i : Nat) (hi : i < l.length) (hf : listed.getD i false = false) : Region.ready .any l.toArray listed ≠ [] := by
  obtain ⟨j, _, _, h⟩ := ready_ne' he listed hs i hi hf
  intro hn
  rw [hn] at h
  cases h
/-- The tail runs in its order. -/
theorem tail_late (hB : lateB np al d late l = true) {C : World → Prop} {Q' : Act → Prop} (hal : np ≤ al → l.length ≤ al) : ∀ (fuel : Nat) (t : Nat) (listed : Array Bool) (aA aR : Act) (w : World), np ≤ t → listed.size = l.length →
    (∀ i, i < t → listed.getD i true = true) → (∀ i, t ≤ i → listed.getD i false = false) →
    wpAnyQ P .any (dumbs np al 0 l).toArray C Q' fuel listed aA → wpList P l.toArray Q (l.drop t) aR w → wpAny P .any l.toArray Q fuel listed aR w := by
  obtain ⟨hnp, hla, hk⟩ := lateB_spec hB
  intro fuel
  induction fuel with
  | zero =>
    intro t listed aA aR w ht hs h1 h2 hg hw
    have hr : Region.ready .any l.toArray listed = [] := by
      have := hg.1
      apply List.eq_nil_iff_forall_not_mem.2
      intro i hi
      rw [← ready_dumbs (np := np) (al := al), this] at hi
      cases hi
    refine ⟨hr, ?_⟩
    have hlt : l.length ≤ t := by
      rcases Nat.lt_or_ge t l.length with h | h
      · exact absurd hr (ready_some (fun k o ho => (hk k o ho).1) listed hs t h (h2 t (Nat.le_refl _)))
      · exact h
    rw [List.drop_eq_nil_of_le hlt] at hw
    exact hw
  | succ fuel ih =>
    intro t listed aA aR w ht hs h1 h2 hg hw
    refine ⟨fun hr => ?_, fun i hi => ?_⟩
    · have hlt : l.length ≤ t := by
        rcases Nat.lt_or_ge t l.length with h | h
        · exact absurd hr (ready_some (fun k o ho => (hk k o ho).1) listed hs t h (h2 t (Nat.le_refl _)))
        · exact h
      rw [List.drop_eq_nil_of_le hlt] at hw
      exact hw
    · obtain ⟨hun, o, ho, hall⟩ := mem_ready.1 hi
      simp only [List.getElem?_toArray] at ho
      have hil : i < l.length := (List.getElem?_eq_some_iff.1 ho).1
      have hti : t ≤ i := by
        rcases Nat.lt_or_ge i t with h | h
        · rw [h1 i h] at hun; cases hun
        · exact h
      have hit : i = t := by
        rcases Nat.lt_or_ge t i with h | h
        · rcases ((hk i o ho).2.2.2.1 (by omega)).2 t h with ⟨hlt, hin⟩ | ⟨e, he, hon, hb⟩
          · omega
          · have := hall e (by simpa using he) hb
            rw [hon, h2 t (Nat.le_refl _)] at this
            cases this
        · omega
      subst hit
      have hne : i ≠ al := by
        rintro rfl
        have := hal ht
        omega
      have hg1 := hg.2 i ((ready_dumbs listed i).2 hi)
      have hod : (dumb np al i o).dst = none := by unfold dumb; rw [if_neg hne, if_pos ht]
      have hK : wpAnyQ P .any (dumbs np al 0 l).toArray C Q' fuel (listed.setIfInBounds i true) aA := by
        unfold qOp at hg1
        simp only [List.getElem?_toArray, dumbs_at, Nat.zero_add, ho, Option.map_some] at hg1
        split at hg1
        · obtain ⟨v, _, hK⟩ := hg1
          rw [hod] at hK
          exact hK
        · rw [hod] at hg1
          exact hg1
      have hlen : i < listed.size := by omega
      have nxt : ∀ a w, wpList P l.toArray Q (l.drop (i + 1)) a w → wpAny P .any l.toArray Q fuel (listed.setIfInBounds i true) a w := fun a w hw => by
        refine ih (i + 1) _ aA a w (by omega) (by simp [hs]) (fun j hj => ?_) (fun j hj => ?_) hK hw
        · by_cases hij : i = j
          · subst hij; simp [hlen]
          · rw [getD_set_ne true hij]; exact h1 j (by omega)
        · rw [getD_set_ne false (by omega)]; exact h2 j (by omega)
      rw [List.drop_eq_getElem_cons hil] at hw
      have hoe : l[i] = o := by rw [List.getElem?_eq_getElem hil] at ho; exact Option.some.inj ho
      rw [hoe] at hw
      unfold wpOp
      simp only [List.getElem?_toArray, ho]
      simp only [wpList] at hw
      split
      · rename_i hwant
        rw [if_pos hwant] at hw
        exact hw.imp (Oper.wp_mono nxt) id
      · rename_i hwant
        rw [if_neg hwant] at hw
        exact nxt _ _ hw
/-- The late ones may be taken first; then the tail. -/
theorem late_run (hB : lateB np al d late l = true) (hal : np ≤ al → l.length ≤ al)
    (hQ : ∀ c (a : Act) (x : Option Tmp) (v : Value) w, Q (.panic c) (a.put x v) w → Q (.panic c) a w)
    (hlate : ∀ i o, late i = true → l[i]? = some o → ∀ (a : Act) w n w1, (execOp a.eval o).run P w = .ok n w1 → ∃ v, n = .value v ∧ ∀ w', (execOp a.eval o).run P w' = .ok (.value v) w')
    : ∀ (fuel : Nat) (listed : Array Bool) (aA aR : Act) (w : World), listed.size = l.length → Ext W w → (∀ i, i < np → late i = false → listed.getD i true = true) → (∀ i, np ≤ i → listed.getD i false = false) → Rel O W d (decide (al < np)) aA aR w →
    wpAnyQ P .any (dumbs np al 0 l).toArray (Cl w) (Tail P l np al d O W Q) fuel listed aA → wpAny P .any l.toArray Q fuel listed aR w := by
  obtain ⟨hnp, hla, hk⟩ := lateB_spec hB
  intro fuel
  induction fuel with
  | zero =>
    intro listed aA aR w hs hw hp ht hrel hg
    exfalso
    refine ready_some (fun k o ho => (hk k o ho).1) listed hs np hnp (ht np (Nat.le_refl _)) ?_
    have := hg.1
    apply List.eq_nil_iff_forall_not_mem.2
    intro i hi
    rw [← ready_dumbs (np := np) (al := al), this] at hi
    cases hi
  | succ fuel ih =>
    intro listed aA aR w hs hw hp ht hrel hg
    by_cases hall : ∀ i, i < np → listed.getD i true = true
    · have hT := game_end (W := w) (fuel + 1) listed aA hall hal (Cl.of (Ext.refl w)) hg
      exact tail_late hB hal (fuel + 1) np listed aA aR w (Nat.le_refl _) hs hall ht hg (hT w aR hw hrel)
    · have hex : ∃ i, i < np ∧ listed.getD i true = false := by
        apply Classical.byContradiction
        intro hno
        apply hall
        intro i hi
        cases hc : listed.getD i true with
        | true => rfl
        | false => exact absurd ⟨i, hi, hc⟩ hno
      obtain ⟨i, hi, hc⟩ := hex
      have hfl : ∀ j, listed.getD j true = false → listed.getD j false = false := fun j hj => by
        rcases Nat.lt_or_ge j listed.size with h | h
        · simp [h] at hj ⊢; exact hj
        · simp [Array.getElem?_eq_none h] at hj
      obtain ⟨j, hji, hjf, hjr⟩ := ready_ne' (fun k o ho => (hk k o ho).1) listed hs i (by omega) (hfl i hc)
      obtain ⟨hun, o, ho, _⟩ := mem_ready.1 hjr
      simp only [List.getElem?_toArray] at ho
      have hjl : late j = true := by
        cases h : late j with
        | true => rfl
        | false => rw [hp j (by omega) h] at hun; cases hun
      have hjal : j ≠ al := by rintro rfl; rw [hla] at hjl; cases hjl
      obtain ⟨_, hgd, hsel, _, _, hkd, hap⟩ := hk j o ho
      obtain ⟨hlook, hdst⟩ := hkd (by omega) hjal
      have hdumb : dumb np al j o = o := by unfold dumb; rw [if_neg hjal, if_neg (by omega)]
      obtain ⟨hex, hwt⟩ := Rel.exec hrel hsel hlook
      have hwd := wanted_dumbs (l := l) hgd aA.tmps
      have h1 := hg.2 j ((ready_dumbs listed j).2 hjr)
      unfold qOp at h1
      simp only [List.getElem?_toArray, dumbs_at, Nat.zero_add, ho, Option.map_some, hdumb] at h1
      have hfree : ∀ j' oj, l.toArray[j']? = some oj → j' ≠ j → listed.getD j' true = false → (∀ e ∈ oj.after, Region.binds .any e = true → e.on ≠ j) → o.apart l.toArray oj = true := fun j' oj hj' hne hun' hno => by
        simp only [List.getElem?_toArray] at hj'
        refine hap hjl j' oj hj' hne ?_ hno
        rcases Nat.lt_or_ge j' np with h | h
        · refine .inr ?_
          cases hl : late j' with
          | true => rfl
          | false => rw [hp j' h hl] at hun'; cases hun'
        · exact .inl h
      have hsels : ∀ (k : Nat) (o : Oper) cs b, l.toArray[k]? = some o → o.op ≠ .select cs b := fun k o cs b hk' => (hk k o (by simpa using hk')).2.2.1 cs b
      have go : ∀ v, Yields P l.toArray o v aR → wpAnyQ P .any (dumbs np al 0 l).toArray (Cl w) (Tail P l np al d O W Q) fuel (listed.setIfInBounds j true) (aA.put o.dst v) → wpAny P .any l.toArray Q (fuel + 1) listed aR w := fun v hy hK => by
        refine wpAny_first (by simpa using ho) hsels (fun c a w h => hQ c a o.dst v w h) fuel listed aR w hfree hjr hy ?_
        refine ih _ (aA.put o.dst v) _ _ (by simp [hs]) hw (fun k hk1 hk2 => ?_) (fun k hk1 => ?_) (Rel.put hrel hdst v) hK
        · by_cases hjk : j = k
          · subst hjk; rw [hjl] at hk2; cases hk2
          · rw [getD_set_ne true hjk]; exact hp k hk1 hk2
        · rw [getD_set_ne false (by omega)]; exact ht k hk1
      by_cases hwant : Region.wanted o (yielded l.toArray aA.tmps) = true
      · rw [if_pos (by rw [hwd]; exact hwant)] at h1
        obtain ⟨v, hq, hK⟩ := h1
        have hqw := hq w (Cl.of (Ext.refl w))
        unfold Oper.quietAt at hqw
        cases hr : (execOp aA.eval o).run P w with
        | halt x w1 => rw [hr] at hqw; simp only [Oper.quietUpon] at hqw
        | ok m w1 =>
          obtain ⟨v', rfl, hv⟩ := hlate j o hjl ho aA w m w1 hr
          rw [hr] at hqw
          simp only [Oper.quietUpon] at hqw
          obtain ⟨_, rfl⟩ := hqw
          exact go v' (.inl ⟨by rw [hwt]; exact hwant, fun w' => by rw [hex]; exact hv w'⟩) hK
      · rw [if_neg (by rw [hwd]; exact hwant)] at h1
        exact go undef (.inr ⟨by rw [hwt]; simpa using hwant, rfl⟩) h1

theorem sim_late (hB : lateB np al d late l = true) (hal : np ≤ al → l.length ≤ al)
    (hQ : ∀ c (a : Act) (x : Option Tmp) (v : Value) w, Q (.panic c) (a.put x v) w → Q (.panic c) a w)
    (hlate : ∀ i o, late i = true → l[i]? = some o → ∀ (a : Act) w n w1, (execOp a.eval o).run P w = .ok n w1 → ∃ v, n = .value v ∧ ∀ w', (execOp a.eval o).run P w' = .ok (.value v) w')
    (hnew : ∀ o, l[al]? = some o → al < np → ∀ (a : Act) w, (execOp a.eval o).run P w = .ok (.value (.pointer (some ⟨w.heap.size, 0, none⟩))) (w.alloc O)) :
    ∀ (fuel : Nat) (listed : Array Bool) (aA aR : Act) (w : World), listed.size = l.length → Ext W w → (∀ i, np ≤ i → listed.getD i false = false) → Rel O W d (listed.getD al false) aA aR w →
    (∀ B, Ext w B → wpAnyQ P .any (dumbs np al 0 l).toArray (Cl B) (Tail P l np al d O W Q) fuel listed aA) → wpAny P .any l.toArray Q fuel listed aR w := by
  obtain ⟨hnp, hla, hk⟩ := lateB_spec hB
  intro fuel
  induction fuel with
  | zero =>
    intro listed aA aR w hs hw ht hrel hg
    exfalso
    refine ready_some (fun k o ho => (hk k o ho).1) listed hs np hnp (ht np (Nat.le_refl _)) ?_
    have := (hg w (Ext.refl w)).1
    apply List.eq_nil_iff_forall_not_mem.2
    intro i hi
    rw [← ready_dumbs (np := np) (al := al), this] at hi
    cases hi
  | succ fuel ih =>
    intro listed aA aR w hs hw ht hrel hg
    refine ⟨fun hr => absurd hr (ready_some (fun k o ho => (hk k o ho).1) listed hs np hnp (ht np (Nat.le_refl _))), fun i hi => ?_⟩
    obtain ⟨hun, o, ho, hall⟩ := mem_ready.1 hi
    simp only [List.getElem?_toArray] at ho
    have hil : i < l.length := (List.getElem?_eq_some_iff.1 ho).1
    have hlen : i < listed.size := by omega
    have hunf : listed.getD i false = false := by simp [hlen] at hun ⊢; exact hun
    obtain ⟨_, hgd, hsel, htl, hkal, hkd, _⟩ := hk i o ho
    have hready := fun B (hBw : Ext w B) => (hg B hBw).2 i ((ready_dumbs listed i).2 hi)
    have hset : ∀ j, np ≤ j → i < np → (listed.setIfInBounds i true).getD j false = false := fun j hj hlt => by rw [getD_set_ne false (by omega)]; exact ht j hj
    rcases Nat.lt_or_ge i np with hlt | hge
    · by_cases hia : i = al
      · obtain ⟨hd, hgn⟩ := hkal hlt hia
        have hdumb : dumb np al i o = { o with op := .move (.const undef) } := by unfold dumb; rw [if_pos hia]
        have hnext : ∀ B, Ext w B → wpAnyQ P .any (dumbs np al 0 l).toArray (Cl B) (Tail P l np al d O W Q) fuel (listed.setIfInBounds i true) (aA.put (some d) undef) := fun B hBw => by
          have h1 := hready B hBw
          unfold qOp at h1
          simp only [List.getElem?_toArray, dumbs_at, Nat.zero_add, ho, Option.map_some, hdumb] at h1
          rw [if_pos (by simp [Region.wanted, hgn])] at h1
          obtain ⟨v, hq, hK⟩ := h1
          have hv : v = undef := by
            have := hq B (Cl.of (Ext.refl B))
            simp [Oper.quietAt, execOp, Oper.quietUpon, Act.eval] at this
            exact this.symm
          rw [hv, hd] at hK
          exact hK
        unfold wpOp
        simp only [List.getElem?_toArray, ho]
        rw [if_pos (by simp [Region.wanted, hgn])]
        refine .inl ?_
        unfold Oper.wp
        rw [hnew o (hia ▸ ho) (hia ▸ hlt) aR w]
        simp only [Oper.upon]
        rw [hd]
        refine ih _ (aA.put (some d) undef) _ _ (by simp [hs]) (Ext.alloc hw O) (fun j hj => hset j hj hlt) ?_ (fun B hBw => hnext B (Ext.trans (Ext.alloc (Ext.refl w) O) hBw))
        rw [← hia] at hrel ⊢
        rw [hunf] at hrel
        simp only [Rel, Bool.false_eq_true, if_false] at hrel
        have : (listed.setIfInBounds i true).getD i false = true := by simp [hlen]
        rw [this]
        simp only [Rel, if_true]
        exact ⟨w, hw, Ext.refl _, by rw [hrel, put_put]⟩
      · obtain ⟨hlook, hdst⟩ := hkd hlt hia
        have hdumb : dumb np al i o = o := by unfold dumb; rw [if_neg hia, if_neg (by omega)]
        obtain ⟨hex, hwt⟩ := Rel.exec hrel hsel hlook
        have hwd := wanted_dumbs (l := l) hgd aA.tmps
        have hnal : (listed.setIfInBounds i true).getD al false = listed.getD al false := getD_set_ne false hia
        have hgame := fun B (hBw : Ext w B) => by
          have h1 := hready B hBw
          unfold qOp at h1
          simp only [List.getElem?_toArray, dumbs_at, Nat.zero_add, ho, Option.map_some, hdumb] at h1
          exact h1
        unfold wpOp
        simp only [List.getElem?_toArray, ho]
        by_cases hwant : Region.wanted o (yielded l.toArray aA.tmps) = true
        · rw [if_pos (by rw [hwt]; exact hwant)]
          have h0 := hgame w (Ext.refl w)
          rw [if_pos (by rw [hwd]; exact hwant)] at h0
          obtain ⟨v, hq, _⟩ := h0
          have hnext : ∀ B, Ext w B → wpAnyQ P .any (dumbs np al 0 l).toArray (Cl B) (Tail P l np al d O W Q) fuel (listed.setIfInBounds i true) (aA.put o.dst v) := fun B hBw => by
            have h1 := hgame B hBw
            rw [if_pos (by rw [hwd]; exact hwant)] at h1
            obtain ⟨vB, hqB, hKB⟩ := h1
            rw [quietAt_det (hqB B (Cl.of (Ext.refl B))) (hq B (Cl.of hBw))] at hKB
            exact hKB
          refine .inl ?_
          unfold Oper.wp
          rw [hex]
          have hqw := hq w (Cl.of (Ext.refl w))
          unfold Oper.quietAt at hqw
          generalize (execOp aA.eval o).run P w = r at *
          cases r with
          | ok n w' =>
            cases n <;> simp only [Oper.quietUpon] at hqw <;> simp only [Oper.upon]
            case value u =>
              obtain ⟨e1, e2⟩ := hqw
              rw [e1, e2]
              exact ih _ (aA.put o.dst v) _ _ (by simp [hs]) hw (fun j hj => hset j hj hlt) (by rw [hnal]; exact Rel.put hrel hdst v) hnext
            case skip =>
              obtain ⟨e1, e2⟩ := hqw
              rw [e1, ← e2]
              exact ih _ (aA.put o.dst v) _ _ (by simp [hs]) hw (fun j hj => hset j hj hlt) (by rw [hnal]; exact Rel.put hrel hdst v) hnext
            case enter f args =>
              obtain ⟨e1, hc⟩ := hqw
              rw [e1]
              refine hc.mono fun e w'' he => ?_
              obtain ⟨he, hcl⟩ := he
              subst he
              have hx := Cl.ext hcl
              exact ih _ (aA.put o.dst v) _ _ (by simp [hs]) (Ext.trans hw hx) (fun j hj => hset j hj hlt) (by rw [hnal]; exact Rel.later (Rel.put hrel hdst v) hx) (fun B hBw => hnext B (Ext.trans hx hBw))
          | halt x w' => simp only [Oper.quietUpon] at hqw
        · rw [if_neg (by rw [hwt]; exact hwant)]
          refine ih _ (aA.put o.dst undef) _ _ (by simp [hs]) hw (fun j hj => hset j hj hlt) (by rw [hnal]; exact Rel.put hrel hdst undef) (fun B hBw => ?_)
          have h1 := hgame B hBw
          rw [if_neg (by rw [hwd]; exact hwant)] at h1
          exact h1
    · have hinp : i = np := by
        rcases Nat.lt_or_ge np i with h | h
        · rcases (htl hge).2 np h with ⟨_, hin⟩ | ⟨e, he, hon, hb⟩
          · omega
          · have := hall e he hb
            rw [hon, ht np (Nat.le_refl _)] at this
            cases this
        · omega
      subst hinp
      have hbefore : ∀ j, j < i → late j = false → listed.getD j false = true := fun j hj hl => by
        rcases (htl hge).2 j hj with ⟨h1, _⟩ | ⟨e, he, hon, hb⟩
        · rw [hl] at h1; cases h1
        · have := hall e he hb
          rwa [hon] at this
      have hpre : ∀ j, j < i → late j = false → listed.getD j true = true := fun j hj hl => by
        have h1 := hbefore j hj hl
        have : j < listed.size := by omega
        simp [this] at h1 ⊢
        exact h1
      have hdone : listed.getD al false = decide (al < i) := by
        by_cases h : al < i
        · rw [hbefore al h hla]; simp [h]
        · have h2 : listed.size ≤ al := by rw [hs]; exact hal (by omega)
          simp [h, Array.getElem?_eq_none h2]
      rw [hdone] at hrel
      exact (late_run hB hal hQ hlate (fuel + 1) listed aA aR w hs hw hpre ht hrel (hg w (Ext.refl w))).2 i hi
end

section
variable {P : Program} {l : List Oper} {Q : Exit → Act → World → Prop} {id : Nat} {a : Act} {w : World}
theorem wp_region_late_core (np al : Nat) (d : Tmp) (O : Obj) (late : Nat → Bool) (hm : P.follows .mixedOrders = true) (hL : Region.lexB .any (dumbs np al 0 l).toArray = true) (hB : lateB np al d late l = true) (hal : np ≤ al → l.length ≤ al)
    (hQ : ∀ c (a : Act) (x : Option Tmp) (v : Value) w, Q (.panic c) (a.put x v) w → Q (.panic c) a w)
    (hlate : ∀ i o, late i = true → l[i]? = some o → ∀ (a : Act) w n w1, (execOp a.eval o).run P w = .ok n w1 → ∃ v, n = .value v ∧ ∀ w', (execOp a.eval o).run P w' = .ok (.value v) w')
    (hnew : ∀ o, l[al]? = some o → al < np → ∀ (a : Act) w, (execOp a.eval o).run P w = .ok (.value (.pointer (some ⟨w.heap.size, 0, none⟩))) (w.alloc O))
    (h : ∀ B, Ext w B → wpQuiet P (dumbs np al 0 l).toArray (Cl B) (Tail P l np al d O w Q) (dumbs np al 0 l) a) : (Code.region id l.toArray true).wp P Q a w := by
  refine wp_region_any hm ?_
  rw [show l.toArray.size = l.length by simp]
  have hlen : (dumbs np al 0 l).length = l.length := by
    have : ∀ k (l : List Oper), (dumbs np al k l).length = l.length := by
      intro k l; induction l generalizing k with
      | nil => rfl
      | cons o r ih => simp [dumbs, ih]
    exact this 0 l
  refine sim_late (W := w) hB hal hQ hlate hnew l.length _ a a _ (by simp) (Ext.drew (Ext.refl w)) (fun i _ => ?_) ?_ (fun B hBw => ?_)
  · by_cases hi : i < l.length <;> simp [hi]
  · have : (Array.replicate l.length false).getD al false = false := by by_cases hi : al < l.length <;> simp [hi]
    rw [this]; simp [Rel]
  · have h1 := h B (Ext.trans (Ext.drew (Ext.refl w)) hBw)
    simp only [Region.lexB, Bool.and_eq_true] at hL
    have h2 := wpAnyQ_lex (P := P) (C := Cl B) (md := .any) hL.1 (dumbs np al 0 l) 0 (Array.replicate (dumbs np al 0 l).toArray.size false) a (by simp) (by simpa using hL.2) h1
    simpa [hlen] using h2
/-- .. that makes one new variable besides (its making is number al, its slot d, what it is made of O). -/
theorem wp_region_new_late (np al : Nat) (d : Tmp) (O : Obj) (late : Nat → Bool) (hm : P.follows .mixedOrders = true) (hL : Region.lexB .any (dumbs np al 0 l).toArray = true) (hB : lateB np al d late l = true) (hal : al < np)
    (hQ : ∀ c (a : Act) (x : Option Tmp) (v : Value) w, Q (.panic c) (a.put x v) w → Q (.panic c) a w)
    (hlate : ∀ i o, late i = true → l[i]? = some o → ∀ (a : Act) w n w1, (execOp a.eval o).run P w = .ok n w1 → ∃ v, n = .value v ∧ ∀ w', (execOp a.eval o).run P w' = .ok (.value v) w')
    (hnew : ∀ o, l[al]? = some o → ∀ (a : Act) w, (execOp a.eval o).run P w = .ok (.value (.pointer (some ⟨w.heap.size, 0, none⟩))) (w.alloc O))
    (h : ∀ B, Ext w B → ∀ l', dumbs np al 0 l = l' → wpQuiet P l'.toArray (fun w' => ∃ x : Grow B, w' = x.out) (fun aA => ∀ w0 w', Ext w w0 → Ext (w0.alloc O) w' → ∀ t, l.drop np = t → wpList P l.toArray Q t (aA.put (some d) (.pointer (some ⟨w0.heap.size, 0, none⟩))) w') l' a) : (Code.region id l.toArray true).wp P Q a w := by
  refine wp_region_late_core np al d O late hm hL hB (fun h => absurd hal (by omega)) hQ hlate (fun o ho _ => hnew o ho) (fun B hBw => ?_)
  have e : (Tail P l np al d O w Q) = (fun aA => ∀ w0 w', Ext w w0 → Ext (w0.alloc O) w' → ∀ t, l.drop np = t → wpList P l.toArray Q t (aA.put (some d) (.pointer (some ⟨w0.heap.size, 0, none⟩))) w') := by
    funext aA
    apply propext
    unfold Tail Rel
    have hd : decide (al < np) = true := by simp [hal]
    rw [hd]
    simp only [if_true]
    exact ⟨fun h w0 w' h0 h1 t ht => by subst ht; exact h w' _ (Ext.trans (Ext.alloc h0 O) h1) ⟨w0, h0, h1, rfl⟩, fun h w' aR hw ⟨w0, h0, h1, hr⟩ => by subst hr; exact h w0 w' h0 h1 _ rfl⟩
  rw [e]
  exact h B hBw _ rfl
/-- A region that draws its order and ends in a tail of stores (from number np on): one walk of what stands ahead, then the tail. -/
theorem wp_region_tail_late (np : Nat) (late : Nat → Bool) (hm : P.follows .mixedOrders = true) (hL : Region.lexB .any (dumbs np l.length 0 l).toArray = true) (hB : lateB np l.length l.length late l = true)
    (hQ : ∀ c (a : Act) (x : Option Tmp) (v : Value) w, Q (.panic c) (a.put x v) w → Q (.panic c) a w)
    (hlate : ∀ i o, late i = true → l[i]? = some o → ∀ (a : Act) w n w1, (execOp a.eval o).run P w = .ok n w1 → ∃ v, n = .value v ∧ ∀ w', (execOp a.eval o).run P w' = .ok (.value v) w')
    (h : ∀ B, Ext w B → ∀ l', dumbs np l.length 0 l = l' → wpQuiet P l'.toArray (fun w' => ∃ x : Grow B, w' = x.out) (fun aA => ∀ w', Ext w w' → ∀ t, l.drop np = t → wpList P l.toArray Q t aA w') l' a) : (Code.region id l.toArray true).wp P Q a w := by
  refine wp_region_late_core np l.length l.length (.cells #[] 0) late hm hL hB (fun _ => Nat.le_refl _) hQ hlate (fun o ho => ?_) (fun B hBw => ?_)
  · rw [List.getElem?_eq_none (Nat.le_refl _)] at ho; cases ho
  · have hnp := (lateB_spec hB).1
    have e : (Tail P l np l.length l.length (.cells #[] 0) w Q) = (fun aA => ∀ w', Ext w w' → ∀ t, l.drop np = t → wpList P l.toArray Q t aA w') := by
      funext aA
      apply propext
      unfold Tail Rel
      have hd : decide (l.length < np) = false := by simp; omega
      rw [hd]
      simp only [Bool.false_eq_true, if_false]
      exact ⟨fun h w' hw t ht => by subst ht; exact h w' aA hw rfl, fun h w' aR hw hr => by subst hr; exact h w' hw _ rfl⟩
    rw [e]
    exact h B hBw _ rfl
/-- Taking a tuple apart hangs on no world. -/
theorem extract_late {o : Oper} {x : Operand} {k : Nat} (ho : o.op = .extract x k) (a : Act) (w : World) (n : Next) (w1 : World) (h : (execOp a.eval o).run P w = .ok n w1) :
    ∃ v, n = .value v ∧ ∀ w', (execOp a.eval o).run P w' = .ok (.value v) w' := by
  obtain ⟨dst, op, type, pos, after, guard⟩ := o
  simp only at ho
  subst ho
  cases hx : a.eval x <;> simp [execOp, hx, Instr.extract] at h ⊢
  rename_i vs
  cases hv : vs[k]? with
  | none => simp [hv] at h
  | some v => simp [hv] at h ⊢; exact h.1.symm
end
end Go.Proofs.YthlhmfjopjikpaaDoor
