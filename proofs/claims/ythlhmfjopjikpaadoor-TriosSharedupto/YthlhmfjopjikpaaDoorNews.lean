/- A region that draws its order, whose reads may come first, and whose other operations make new variables and fill each of them: laws that name no program. -/
import Derived.Test.YthlhmfjopjikpaaDoorPhases
import Derived.Test.YthlhmfjopjikpaaDoorListB
namespace Go.Proofs.YthlhmfjopjikpaaDoor
open Go.RowKit Go.BigFrame
set_option linter.unusedVariables false
set_option linter.unusedSimpArgs false
/-- A new variable: the number of the operation that makes it, its slot, the number of the one that fills it, the slot of what is put there. -/
structure Nw where
  n : Nat
  sl : Tmp
  s : Nat
  vs : Tmp
def madeOf (ps : List Nw) (o : Obj) : List Made := ps.map fun p => (p.n, p.sl, o)
theorem puts_size {bs : Nat → Nat} {don : Nat → Bool} : ∀ (ms : List Made) (a : Act), (puts bs don ms a).tmps.size = a.tmps.size
  | [], _ => rfl
  | m :: r, a => by
    unfold puts
    rw [puts_size r]
    split
    · simp [Act.put]
    · rfl
theorem puts_eval_ne {bs : Nat → Nat} {don : Nat → Bool} {t : Tmp} : ∀ (ms : List Made) (a : Act), (∀ m ∈ ms, m.2.1 ≠ t) → (puts bs don ms a).eval (.tmp t) = a.eval (.tmp t)
  | [], _, _ => rfl
  | m :: r, a, h => by
    unfold puts
    rw [puts_eval_ne r _ fun m' hm => h m' (List.mem_cons_of_mem _ hm)]
    split
    · have := h m List.mem_cons_self
      simp [Act.put, Act.eval, Array.getD_eq_getD_getElem?, Array.getElem?_setIfInBounds_ne this]
    · rfl
theorem puts_eval {bs : Nat → Nat} {don : Nat → Bool} : ∀ (ms : List Made) (a : Act) (m : Made), m ∈ ms → (ms.map (·.2.1)).Nodup → don m.1 = true → m.2.1 < a.tmps.size → (puts bs don ms a).eval (.tmp m.2.1) = .pointer (some ⟨bs m.1, 0, none⟩)
  | [], _, _, h, _, _, _ => absurd h (by simp)
  | n :: r, a, m, h, hd, ht, hs => by
    simp only [List.map_cons, List.nodup_cons] at hd
    unfold puts
    rcases List.mem_cons.1 h with rfl | hr
    · rw [if_pos ht, puts_eval_ne r _ fun m' hm e => hd.1 (by rw [← e]; exact List.mem_map_of_mem (f := fun x : Made => x.2.1) hm)]
      simp [Act.put, Act.eval, Array.getD_eq_getD_getElem?, Array.getElem?_setIfInBounds_self, hs]
    · refine puts_eval r _ m hr hd.2 ht ?_
      split
      · simpa [Act.put] using hs
      · exact hs
theorem puts_over {bs : Nat → Nat} {don : Nat → Bool} : ∀ (ms : List Made) (a : Act) (m : Made) (v : Value), m ∈ ms → (ms.map (·.2.1)).Nodup → don m.1 = true → puts bs don ms (a.put (some m.2.1) v) = puts bs don ms a
  | [], _, _, _, h, _, _ => absurd h (by simp)
  | n :: r, a, m, v, h, hd, ht => by
    simp only [List.map_cons, List.nodup_cons] at hd
    unfold puts
    rcases List.mem_cons.1 h with rfl | hr
    · rw [if_pos ht, if_pos ht, put_put]
    · have hne : n.2.1 ≠ m.2.1 := fun e => hd.1 (by rw [e]; exact List.mem_map_of_mem (f := fun x : Made => x.2.1) hr)
      split
      · rw [Act.put_comm a (x := some m.2.1) (y := some n.2.1) v _ (by rintro _ ⟨⟩ e; exact hne (Option.some.inj e))]
        exact puts_over r _ m v hr hd.2 ht
      · exact puts_over r _ m v hr hd.2 ht
section
variable {P : Program} {l : List Oper} {Q : Exit → Act → World → Prop} {W : World} {ps : List Nw} {obj : Obj} {m : Nat} {zf : Nat → Value} {val : Nat → Nat → Value} {ty : TypeId}
/-- The check: each operation is a read, or makes one of the variables, or fills it; what waits for what. -/
def newsB (f : Nat → Bool) (ps : List Nw) (l : List Oper) : Bool :=
  Region.noSelect l.toArray && takesB l.toArray (idxB f 0 l) (Array.replicate l.length false) && (idxB f 0 l).all (fun k => decide (k < l.length)) &&
  ((List.range l.length).all fun k => (marks (idxB f 0 l) (Array.replicate l.length false)).getD k true == !((idxB (fun i => !f i) 0 l).contains k)) &&
  decide ((idxB (fun i => !f i) 0 l).Nodup) && decide ((marks (idxB f 0 l) (Array.replicate l.length false)).size = l.length) &&
  ((idxB (fun i => !f i) 0 l).all fun k => ps.any fun p => decide (p.n = k) || decide (p.s = k)) &&
  ((List.range l.length).all fun k => match l[k]? with | none => false | some o => o.after.all fun e => decide (e.on < k) || !Region.binds .any e) &&
  decide ((ps.map (·.n)).Nodup) && decide ((ps.map (·.sl)).Nodup) && decide ((ps.map (·.s)).Nodup) && (ps.all fun p => ps.all fun q => decide (p.n ≠ q.s) && decide (p.vs ≠ q.sl)) &&
  (ps.all fun p => (idxB (fun i => !f i) 0 l).contains p.n && (idxB (fun i => !f i) 0 l).contains p.s) &&
  (ps.all fun p => match l[p.s]? with | none => false | some o => o.after.any fun e => decide (e.on = p.n) && Region.binds .any e)
/-- How things stand when some of them are done. -/
structure RelN (ps : List Nw) (obj : Obj) (m : Nat) (zf : Nat → Value) (val : Nat → Nat → Value) (W : World) (don : Nat → Bool) (aA aR : Act) (w : World) (bs : Nat → Nat) : Prop where
  ext : Ext W w
  box : ∀ p ∈ ps, don p.n = true → W.heap.size ≤ bs p.n ∧ Vm w (bs p.n) m (if don p.s = true then val p.n else zf)
  ne : ∀ p ∈ ps, ∀ q ∈ ps, don p.n = true → don q.n = true → p.n ≠ q.n → bs p.n ≠ bs q.n
  act : aR = puts bs don (madeOf ps obj) aA
  ord : ∀ p ∈ ps, don p.s = true → don p.n = true
theorem all_listed {listed : Array Bool} (hw : ∀ k o, l[k]? = some o → ∀ e ∈ o.after, Region.binds .any e = true → e.on < k) (hs : listed.size = l.length) (hr : Region.ready .any l.toArray listed = []) : ∀ i, i < l.length → listed.getD i true = true := by
  intro i
  induction i using Nat.strongRecOn with
  | ind i ih =>
    intro hi
    by_cases h : listed.getD i true = true
    · exact h
    · exfalso
      have ho : l[i]? = some l[i] := List.getElem?_eq_getElem hi
      have : i ∈ Region.ready .any l.toArray listed := mem_ready.2 ⟨by simpa using h, l[i], by rw [List.getElem?_toArray]; exact ho, fun e he hb => by
        have hlt := hw i _ ho e he hb
        have := ih e.on hlt (by omega)
        have hsz : e.on < listed.size := by omega
        simpa [Array.getD, hsz] using this⟩
      rw [hr] at this
      cases this
theorem ready_none {listed : Array Bool} (hs : listed.size = l.length) (h : ∀ i, i < l.length → listed.getD i true = true) : Region.ready .any l.toArray listed = [] := by
  refine List.eq_nil_iff_forall_not_mem.2 fun i hi => ?_
  obtain ⟨h0, o, ho, _⟩ := mem_ready.1 hi
  have : i < l.length := by simpa using (Array.getElem?_eq_some_iff.1 ho).1
  rw [h i this] at h0
  cases h0
theorem vskips {b n : Nat} {f : Nat → Value} {b' : Nat} (hb : b' ≠ b) : ∀ (vs : List Value) (o : Nat) {v : World}, Vm v b n f → Vm (v.setCells b' o vs) b n f
  | [], _, _, B => B
  | _ :: vs, o, _, B => vskips hb vs (o + 1) (B.skip hb)
theorem inj_of_nodup {α : Type} {g : α → Nat} : ∀ {ps : List α}, (ps.map g).Nodup → ∀ p ∈ ps, ∀ q ∈ ps, g p = g q → p = q
  | [], _, _, h, _, _, _ => absurd h (by simp)
  | x :: r, hd, p, hp, q, hq, e => by
    simp only [List.map_cons, List.nodup_cons] at hd
    rcases List.mem_cons.1 hp with h1 | h1 <;> rcases List.mem_cons.1 hq with h2 | h2
    · rw [h1, h2]
    · exact absurd (by rw [← h1, e]; exact List.mem_map_of_mem h2) hd.1
    · exact absurd (by rw [← h2, ← e]; exact List.mem_map_of_mem h1) hd.1
    · exact inj_of_nodup hd.2 p h1 q h2 e
theorem getD_set {listed : Array Bool} {i k : Nat} (hs : i < listed.size) : (listed.setIfInBounds i true).getD k true = if k = i then true else listed.getD k true := by
  by_cases h : k = i
  · subst h; rw [if_pos rfl]; simp [Array.getD, hs]
  · rw [if_neg h]; exact getD_set_ne true (Ne.symm h)
theorem news_go (hwk : ∀ k o, l[k]? = some o → ∀ e ∈ o.after, Region.binds .any e = true → e.on < k)
    (hns : ∀ p ∈ ps, ∀ q ∈ ps, p.n ≠ q.s ∧ p.vs ≠ q.sl) (hn1 : (ps.map (·.n)).Nodup) (hn2 : (ps.map (·.sl)).Nodup) (hn3 : (ps.map (·.s)).Nodup)
    (hedge : ∀ p ∈ ps, ∀ o, l[p.s]? = some o → ∃ e ∈ o.after, e.on = p.n ∧ Region.binds .any e = true)
    (hal : ∀ p ∈ ps, ∀ o, l[p.n]? = some o → o.guard = none ∧ o.dst = some p.sl ∧ ∀ (a : Act) w, (execOp a.eval o).run P w = .ok (.value (.pointer (some ⟨w.heap.size, 0, none⟩))) (w.alloc obj))
    (hnew : ∀ w : World, Vm (w.alloc obj) w.heap.size m zf)
    (hst : ∀ p ∈ ps, ∀ o, l[p.s]? = some o → o.guard = none ∧ o.dst = none ∧ o.op = .store ty (.tmp p.sl) (.tmp p.vs))
    (hinf : (P.info? ty).map (·.size) = some m) (hm0 : 0 < m)
    (aA : Act) (hsl : ∀ p ∈ ps, p.sl < aA.tmps.size) (hval : ∀ p ∈ ps, aA.eval (.tmp p.vs) = .agg (vl m (val p.n)).toArray) (hone : ∀ p ∈ ps, ∀ v ∈ vl m (val p.n), v.oneCell' = true)
    (hQ : ∀ (bs : Nat → Nat) w', Ext W w' → (∀ p ∈ ps, W.heap.size ≤ bs p.n ∧ Vm w' (bs p.n) m (val p.n)) → (∀ p ∈ ps, ∀ q ∈ ps, p.n ≠ q.n → bs p.n ≠ bs q.n) → Q .normal (puts bs (fun _ => true) (madeOf ps obj) aA) w')
    (hlt : ∀ p ∈ ps, p.n < l.length ∧ p.s < l.length) :
    ∀ (n : Nat) (rem : List Nat) (listed : Array Bool) (aR : Act) (w : World) (bs : Nat → Nat), rem.length = n → rem.Nodup → (∀ k, k < l.length → (listed.getD k true = true ↔ k ∉ rem)) → (∀ k ∈ rem, k < l.length ∧ ∃ p ∈ ps, p.n = k ∨ p.s = k) → listed.size = l.length →
      RelN ps obj m zf val W (fun k => listed.getD k true) aA aR w bs → wpAnyS P l.toArray Q (fun w' => ∃ x : Grow W, w' = x.out) l.length n listed aR w := by
  intro n
  induction n with
  | zero =>
    intro rem listed aR w bs hn hnd hiff hrem hs R
    have hr : rem = [] := List.eq_nil_of_length_eq_zero hn
    subst hr
    have hall : ∀ i, i < l.length → listed.getD i true = true := fun i hi => (hiff i hi).2 (by simp)
    refine ⟨ready_none hs hall, ?_⟩
    rw [R.act, puts_congr (bs' := bs) (don' := fun _ => true) (madeOf ps obj) aA (fun m' hm => by
      unfold madeOf at hm
      obtain ⟨p, hp, rfl⟩ := List.mem_map.1 hm
      exact ⟨hall _ (hlt p hp).1, rfl⟩)]
    refine hQ bs w R.ext (fun p hp => ?_) (fun p hp q hq hne => R.ne p hp q hq (hall _ (hlt p hp).1) (hall _ (hlt q hq).1) hne)
    have := R.box p hp (hall _ (hlt p hp).1)
    rw [if_pos (hall _ (hlt p hp).2)] at this
    exact this
  | succ n ih =>
    intro rem listed aR w bs hn hnd hiff hrem hs R
    refine ⟨fun hr => ?_, fun i hi => ?_⟩
    · exfalso
      have hall := all_listed hwk hs hr
      cases rem with
      | nil => cases hn
      | cons k r => exact ((hiff k (hrem k List.mem_cons_self).1).1 (hall k (hrem k List.mem_cons_self).1)) List.mem_cons_self
    · obtain ⟨h0, o, ho, hall⟩ := mem_ready.1 hi
      rw [List.getElem?_toArray] at ho
      have hil : i < l.length := (List.getElem?_eq_some_iff.1 ho).1
      have hir : i ∈ rem := by
        by_cases h : i ∈ rem
        · exact h
        · rw [(hiff i hil).2 h] at h0; cases h0
      have hset : ∀ k, (listed.setIfInBounds i true).getD k true = if k = i then true else listed.getD k true := fun k => getD_set (by omega)
      have step : ∀ a' w' bs', RelN ps obj m zf val W (fun k => (listed.setIfInBounds i true).getD k true) aA a' w' bs' → ((i < l.length → ∃ x : Grow W, w' = x.out) ∧ wpAnyS P l.toArray Q (fun w' => ∃ x : Grow W, w' = x.out) l.length n (listed.setIfInBounds i true) a' w') := fun a' w' bs' h =>
        ⟨fun _ => ⟨⟨w', h.ext⟩, rfl⟩, ih (rem.erase i) _ a' w' bs' (by rw [List.length_erase_of_mem hir, hn]; rfl) (hnd.erase i) (fun k hk => by
          rw [hset k, hnd.mem_erase_iff]
          by_cases h : k = i
          · rw [if_pos h]; simp [h]
          · rw [if_neg h]
            have := hiff k hk
            simp only [this, h, ne_eq, not_false_eq_true, true_and]) (fun k hk => hrem k (List.mem_of_mem_erase hk)) (by simpa using hs) h⟩
      obtain ⟨_, p, hp, hps⟩ := hrem i hir
      rcases hps with rfl | rfl
      · obtain ⟨g1, g2, g3⟩ := hal p hp o ho
        refine op_of_list (o := o) (by rw [List.getElem?_toArray]; exact ho) (wpList_plain g1 fun K hK => ?_)
        unfold Oper.wp
        rw [g3 aR w]
        refine hK _ _ ?_
        show _ ∧ _
        have hps : ¬ listed.getD p.s true = true := fun h => by have := R.ord p hp h; rw [h0] at this; cases this
        refine step _ _ (fun j => if j = p.n then w.heap.size else bs j) ⟨R.ext.alloc _, fun q hq hd => ?_, fun q hq r hr hdq hdr hne => ?_, ?_, fun q hq hd => ?_⟩
        · have hqs : (listed.setIfInBounds p.n true).getD q.s true = listed.getD q.s true := by rw [hset, if_neg (fun h => (hns p hp q hq).1 h.symm)]
          by_cases e : q.n = p.n
          · obtain rfl := inj_of_nodup hn1 q hq p hp e
            rw [if_pos rfl, hqs, if_neg hps]
            exact ⟨R.ext.more, hnew w⟩
          · rw [if_neg e, hqs]
            have hd' : listed.getD q.n true = true := by have := hd; rw [hset, if_neg e] at this; exact this
            have := R.box q hq hd'
            exact ⟨this.1, this.2.alloc _⟩
        · have old : ∀ q ∈ ps, (listed.setIfInBounds p.n true).getD q.n true = true → q.n ≠ p.n → listed.getD q.n true = true := fun q hq hd e => by rw [hset, if_neg e] at hd; exact hd
          by_cases e1 : q.n = p.n
          · by_cases e2 : r.n = p.n
            · exact absurd (e1.trans e2.symm) hne
            · rw [if_pos e1, if_neg e2]
              have := (R.box r hr (old r hr hdr e2)).2.lt
              omega
          · by_cases e2 : r.n = p.n
            · rw [if_neg e1, if_pos e2]
              have := (R.box q hq (old q hq hdq e1)).2.lt
              omega
            · rw [if_neg e1, if_neg e2]
              exact R.ne q hq r hr (old q hq hdq e1) (old r hr hdr e2) hne
        · have hmm : (p.n, p.sl, obj) ∈ madeOf ps obj := List.mem_map_of_mem (f := fun p : Nw => (p.n, p.sl, obj)) hp
          have m1 : ((madeOf ps obj).map (·.1)).Nodup := by unfold madeOf; rw [List.map_map]; exact hn1
          have m2 : ((madeOf ps obj).map (·.2.1)).Nodup := by unfold madeOf; rw [List.map_map]; exact hn2
          have k1 := puts_make (bs := bs) (don := fun k => listed.getD k true) (b := w.heap.size) (madeOf ps obj) aA (p.n, p.sl, obj) hmm m1 m2 h0
          have k2 := puts_over (bs := fun j => if j = p.n then w.heap.size else bs j) (don := fun j => if j = p.n then true else listed.getD j true) (madeOf ps obj) aA (p.n, p.sl, obj) undef hmm m2 (if_pos rfl)
          rw [g2, R.act]
          refine (k1.symm.trans k2).trans (puts_congr _ _ fun q hq => ⟨(hset q.1).symm, rfl⟩)
        · rw [hset] at hd ⊢
          by_cases e : q.n = p.n
          · rw [if_pos e]
          · rw [if_neg e]
            rw [if_neg (fun h => (hns p hp q hq).1 h.symm)] at hd
            exact R.ord q hq hd
      · obtain ⟨g1, g2, g3⟩ := hst p hp o ho
        obtain ⟨ed, hed, hon, hbd⟩ := hedge p hp o ho
        have hdn : listed.getD p.n true = true := by
          have h1 := hall ed hed hbd
          rw [hon] at h1
          have hsz : p.n < listed.size := by have := (hlt p hp).1; omega
          simpa [Array.getD, hsz] using h1
        have hmm : (p.n, p.sl, obj) ∈ madeOf ps obj := List.mem_map_of_mem (f := fun p : Nw => (p.n, p.sl, obj)) hp
        have m2 : ((madeOf ps obj).map (·.2.1)).Nodup := by unfold madeOf; rw [List.map_map]; exact hn2
        have hx : aR.eval (.tmp p.sl) = .pointer (some ⟨bs p.n, 0, none⟩) := by
          rw [R.act]
          exact puts_eval (don := fun k => listed.getD k true) (madeOf ps obj) aA (p.n, p.sl, obj) hmm m2 hdn (hsl p hp)
        have hy : aR.eval (.tmp p.vs) = .agg (vl m (val p.n)).toArray := by
          rw [R.act, puts_eval_ne (madeOf ps obj) aA (fun m' hm => by
            unfold madeOf at hm
            obtain ⟨q, hq, rfl⟩ := List.mem_map.1 hm
            exact fun h => (hns p hp q hq).2 h.symm)]
          exact hval p hp
        have B := R.box p hp hdn
        rw [if_neg (by rw [h0]; decide)] at B
        refine op_of_list (o := o) (by rw [List.getElem?_toArray]; exact ho) (wpList_store_vl g1 ty (.tmp p.sl) (.tmp p.vs) g3 (bs p.n) 0 m (val p.n) hx hy (B.2.there rfl) hinf (hone p hp) ?_)
        show _ ∧ _
        rw [g2]
        refine step _ _ bs ⟨Ext.setCells' R.ext _ B.1 _ _, fun q hq hd => ?_, fun q hq r hr hdq hdr hne => ?_, ?_, fun q hq hd => ?_⟩
        · have hqn : listed.getD q.n true = true := by have := hd; rw [hset, if_neg ((hns q hq p hp).1)] at this; exact this
          have Bq := R.box q hq hqn
          refine ⟨Bq.1, ?_⟩
          by_cases e : q.n = p.n
          · obtain rfl := inj_of_nodup hn1 q hq p hp e
            rw [hset, if_pos rfl, if_pos rfl]
            exact B.2.cells hm0 _
          · have hne := R.ne p hp q hq hdn hqn (fun h => e h.symm)
            have hsn : q.s ≠ p.s := fun h => e (by rw [inj_of_nodup hn3 q hq p hp h])
            rw [hset, if_neg hsn]
            exact vskips hne _ _ Bq.2
        · rw [hset, if_neg ((hns q hq p hp).1)] at hdq
          rw [hset, if_neg ((hns r hr p hp).1)] at hdr
          exact R.ne q hq r hr hdq hdr hne
        · show aR = _
          rw [R.act]
          refine puts_congr _ _ fun q' hq' => ⟨?_, rfl⟩
          unfold madeOf at hq'
          obtain ⟨q, hq, rfl⟩ := List.mem_map.1 hq'
          rw [hset, if_neg ((hns q hq p hp).1)]
        · rw [hset, if_neg ((hns q hq p hp).1)]
          rw [hset] at hd
          by_cases e : q.s = p.s
          · rw [inj_of_nodup hn3 q hq p hp e]; exact hdn
          · rw [if_neg e] at hd
            exact R.ord q hq hd
theorem idxB_mem (f : Nat → Bool) : ∀ (l : List Oper) (k i : Nat), i ∈ idxB f k l → k ≤ i ∧ i < k + l.length
  | [], _, _, h => by cases h
  | o :: r, k, i, h => by
    unfold idxB at h
    rw [List.length_cons]
    split at h
    · rcases List.mem_cons.1 h with rfl | h
      · omega
      · have := idxB_mem f r (k + 1) i h; omega
    · have := idxB_mem f r (k + 1) i h; omega
/-- A region that draws its order: reads, then new variables that are made and filled, in whatever order: what they hold in the end. -/
theorem wp_region_news {id : Nat} {a : Act} (f : Nat → Bool) (ps : List Nw) (ty : TypeId) (obj : Obj) (m : Nat) (zf : Nat → Value) (val : Nat → Nat → Value) (hm : P.follows .mixedOrders = true) (hB : newsB f ps l = true)
    (hQ : ∀ c (a : Act) (x : Option Tmp) (v : Value) w, Q (.panic c) (a.put x v) w → Q (.panic c) a w)
    (hal : ∀ p ∈ ps, ∀ o, l[p.n]? = some o → o.guard = none ∧ o.dst = some p.sl ∧ ∀ (a : Act) w, (execOp a.eval o).run P w = .ok (.value (.pointer (some ⟨w.heap.size, 0, none⟩))) (w.alloc obj))
    (hnew : ∀ w : World, Vm (w.alloc obj) w.heap.size m zf)
    (hst : ∀ p ∈ ps, ∀ o, l[p.s]? = some o → o.guard = none ∧ o.dst = none ∧ o.op = .store ty (.tmp p.sl) (.tmp p.vs))
    (hinf : (P.info? ty).map (·.size) = some m) (hm0 : 0 < m) (hlt : ∀ p ∈ ps, p.n < l.length ∧ p.s < l.length)
    (h : ∀ l1, pickB f 0 l = l1 → wpQuiet P l.toArray (fun w' => ∃ x : Grow W.drew, w' = x.out) (fun aA => (∀ p ∈ ps, p.sl < aA.tmps.size ∧ aA.eval (.tmp p.vs) = .agg (vl m (val p.n)).toArray ∧ ∀ v ∈ vl m (val p.n), v.oneCell' = true) ∧
      ∀ (bs : Nat → Nat) w', Ext W w' → (∀ p ∈ ps, W.heap.size ≤ bs p.n ∧ Vm w' (bs p.n) m (val p.n)) → (∀ p ∈ ps, ∀ q ∈ ps, p.n ≠ q.n → bs p.n ≠ bs q.n) → Q .normal (puts bs (fun _ => true) (madeOf ps obj) aA) w') l1 a) : (Code.region id l.toArray true).wp P Q a W := by
  simp only [newsB, Bool.and_eq_true, decide_eq_true_eq] at hB
  obtain ⟨⟨⟨⟨⟨⟨⟨⟨⟨⟨⟨⟨⟨b1, b2⟩, b3⟩, b4⟩, b5⟩, b6⟩, b7⟩, b8⟩, b9⟩, b10⟩, b11⟩, b12⟩, b14⟩, b13⟩ := hB
  have hwt : Waits l.toArray l.length := fun k o ho hk => by
    have hkl : k < l.length := by simpa using (Array.getElem?_eq_some_iff.1 ho).1
    omega
  have hwk : ∀ k o, l[k]? = some o → ∀ e ∈ o.after, Region.binds .any e = true → e.on < k := fun k o ho e he hb => by
    have hkl : k < l.length := (List.getElem?_eq_some_iff.1 ho).1
    have := List.all_eq_true.1 b8 k (List.mem_range.2 hkl)
    rw [ho] at this
    have := Array.all_eq_true_iff_forall_mem.1 this e he
    simpa [hb] using this
  have hns : ∀ p ∈ ps, ∀ q ∈ ps, p.n ≠ q.s ∧ p.vs ≠ q.sl := fun p hp q hq => by
    have := List.all_eq_true.1 (List.all_eq_true.1 b12 p hp) q hq
    simpa using this
  have hedge : ∀ p ∈ ps, ∀ o, l[p.s]? = some o → ∃ e ∈ o.after, e.on = p.n ∧ Region.binds .any e = true := fun p hp o ho => by
    have := List.all_eq_true.1 b13 p hp
    rw [ho] at this
    rw [Array.any_eq_true] at this
    obtain ⟨n, hn, hx⟩ := this
    simp only [Bool.and_eq_true, decide_eq_true_eq] at hx
    exact ⟨_, Array.getElem_mem hn, hx.1, hx.2⟩
  refine wp_region_any hm (wpAny_of_S (S := fun w' => ∃ x : Grow W.drew, w' = x.out) (np := l.length) _ _ _ _ ?_)
  have key := takes_quiet (ops := l.toArray) (P := P) (Q := Q) (S := fun w' => ∃ x : Grow W.drew, w' = x.out) (np := l.length) (fuel := (idxB (fun i => !f i) 0 l).length) (w := W.drew) hwt b1 hQ ⟨⟨W.drew, Ext.refl _⟩, rfl⟩ (idxB f 0 l) (pickB f 0 l) (Array.replicate l.length false) a (fits_pick f l 0 (fun j => by simp)) b3 b2
    (fun aA hN => news_go (W := W.drew) (ty := ty) hwk hns b9 b10 b11 hedge hal hnew hst hinf hm0 aA (fun p hp => (hN.1 p hp).1) (fun p hp => (hN.1 p hp).2.1) (fun p hp => (hN.1 p hp).2.2) (fun bs w' hw h1 h2 => hN.2 bs w' ((Ext.refl W).drew.trans hw) h1 h2) hlt _ (idxB (fun i => !f i) 0 l) _ aA W.drew (fun _ => 0) rfl b5 (fun k hk => by
        have := List.all_eq_true.1 b4 k (List.mem_range.2 hk)
        rw [beq_iff_eq] at this
        rw [this]
        simp) (fun k hk => by
        have h1 := idxB_mem _ l 0 k hk
        have := List.all_eq_true.1 b7 k hk
        simp only [List.any_eq_true, Bool.or_eq_true, decide_eq_true_eq] at this
        exact ⟨by omega, this⟩) b6 ?_) (h _ rfl)
  · rw [idx_len] at key
    simpa using key
  · have off : ∀ k, k ∈ idxB (fun i => !f i) 0 l → (marks (idxB f 0 l) (Array.replicate l.length false)).getD k true = false := fun k hk => by
      have h1 := idxB_mem _ l 0 k hk
      have := List.all_eq_true.1 b4 k (List.mem_range.2 (by omega))
      rw [beq_iff_eq] at this
      rw [this]
      simpa using hk
    have hin : ∀ p ∈ ps, (marks (idxB f 0 l) (Array.replicate l.length false)).getD p.n true = false ∧ (marks (idxB f 0 l) (Array.replicate l.length false)).getD p.s true = false := fun p hp => by
      have := List.all_eq_true.1 b14 p hp
      simp only [Bool.and_eq_true, List.contains_iff_mem] at this
      exact ⟨off _ this.1, off _ this.2⟩
    refine ⟨Ext.refl _, fun p hp h => ?_, fun p hp q hq h => ?_, ?_, fun p hp h => ?_⟩
    · rw [(hin p hp).1] at h; cases h
    · rw [(hin p hp).1] at h; cases h
    · have : ∀ (ms : List Made) (a : Act), puts (fun _ => 0) (fun _ => false) ms a = a := by
        intro ms; induction ms with
        | nil => intro a; rfl
        | cons m r ih => intro a; unfold puts; simp only [Bool.false_eq_true, if_false]; exact ih a
      rw [puts_congr (bs' := fun _ => 0) (don' := fun _ => false) (madeOf ps obj) aA (fun m' hm => by
        unfold madeOf at hm
        obtain ⟨p, hp, rfl⟩ := List.mem_map.1 hm
        exact ⟨(hin p hp).1, rfl⟩)]
      exact (this _ _).symm
    · rw [(hin p hp).2] at h; cases h
end
end Go.Proofs.YthlhmfjopjikpaaDoor
