/- A region that draws its order, taken in phases: reads one behind the other, then operations each of which is the only one that is ready, then reads again, and so on: laws that name no program. The law RecordsEach, walked. -/
import Derived.Test.YtemcppakmcffgaaDoorReadsAB
import Derived.Test.YtemcppakmcffgaaDoorLawRagain
namespace Go.Proofs.YtemcppakmcffgaaDoor
open Go.RowKit
set_option linter.unusedVariables false
section
variable {P : Program} {ops : Array Oper} {Q : Exit → Act → World → Prop} {S : World → Prop} {np : Nat}
/-- Operations one behind the other, S behind each of them; then K. -/
def wpHoldK (P : Program) (ops : Array Oper) (Q : Exit → Act → World → Prop) (S : World → Prop) (K : Act → World → Prop) : List Oper → Act → World → Prop
  | [], a, w => K a w
  | o :: r, a, w => wpList P ops (Exit.then (fun a' w' => S w' ∧ wpHoldK P ops Q S K r a' w') Q) [o] a w
theorem holdk_step {K : Act → World → Prop} {o : Oper} {r : List Oper} {a : Act} {w : World} (h : ∀ H : Act → World → Prop, (∀ a' w', S w' → wpHoldK P ops Q S K r a' w' → H a' w') → wpList P ops (Exit.then H Q) [o] a w) : wpHoldK P ops Q S K (o :: r) a w :=
  h _ fun _ _ h1 h2 => ⟨h1, h2⟩
/-- The phases: true: reads; false: operations one behind the other. -/
def wpPh (P : Program) (ops : Array Oper) (Q : Exit → Act → World → Prop) (S : World → Prop) : List (Bool × List Oper) → Act → World → Prop
  | [], a, w => Q .normal a w
  | (true, l) :: ph, a, w => wpQuiet P ops S (fun a' => wpPh P ops Q S ph a' w) l a
  | (false, l) :: ph, a, w => wpHoldK P ops Q S (wpPh P ops Q S ph) l a w
def onlyB (ops : Array Oper) : List Nat → Array Bool → Bool
  | [], _ => true
  | k :: ks, listed => (Region.ready .any ops listed == [k]) && onlyB ops ks (listed.setIfInBounds k true)
def phasesB (ops : Array Oper) (np : Nat) : List (Bool × List Nat) → Array Bool → Bool
  | [], listed => (Region.ready .any ops listed).isEmpty
  | (true, ks) :: ph, listed => takesB ops ks listed && ks.all (fun k => decide (k < np)) && phasesB ops np ph (marks ks listed)
  | (false, ks) :: ph, listed => onlyB ops ks listed && ks.all (fun k => decide (k < np)) && phasesB ops np ph (marks ks listed)
def pickO (l : List Oper) : List Nat → List Oper
  | [] => []
  | k :: ks => match l[k]? with | some o => o :: pickO l ks | none => pickO l ks
theorem fits_pickO (l : List Oper) : ∀ ks : List Nat, ks.all (fun k => decide (k < l.length)) = true → Fits l.toArray ks (pickO l ks)
  | [], _ => rfl
  | k :: ks, h => by
    simp only [List.all_cons, Bool.and_eq_true, decide_eq_true_eq] at h
    have hk : l[k]? = some l[k] := List.getElem?_eq_getElem h.1
    unfold pickO
    rw [hk]
    exact ⟨l[k], _, rfl, by rw [List.getElem?_toArray]; exact hk, fits_pickO l ks h.2⟩
theorem only_hold {fuel : Nat} {K : Act → World → Prop} : ∀ (ks : List Nat) (r : List Oper) (listed : Array Bool) (a : Act) (w : World), Fits ops ks r → onlyB ops ks listed = true → S w → wpHoldK P ops Q S K r a w →
    (∀ a' w', S w' → K a' w' → wpAnyS P ops Q S np fuel (marks ks listed) a' w') → wpAnyS P ops Q S np (ks.length + fuel) listed a w
  | [], r, listed, a, w, hf, _, hS, h, hK => by
    obtain rfl : r = [] := hf
    simpa [marks] using hK a w hS h
  | k :: ks, r0, listed, a, w, hf, hB, hS, h, hK => by
    obtain ⟨o, r, rfl, hk, hl⟩ := hf
    simp only [onlyB, Bool.and_eq_true, beq_iff_eq] at hB
    rw [show (k :: ks).length + fuel = ks.length + fuel + 1 by simp; omega]
    refine ⟨fun e => (by rw [hB.1] at e; cases e), fun i hi => ?_⟩
    rw [hB.1] at hi
    simp only [List.mem_cons, List.not_mem_nil, or_false] at hi
    subst hi
    exact wpOp_mono (fun a' w' h' => ⟨fun _ => h'.1, only_hold ks r _ a' w' hl hB.2 h'.1 h'.2 hK⟩) (op_of_list hk h)
theorem phases_any (hw : Waits ops np) (hs : Region.noSelect ops = true) (hQ : ∀ c a x v w, Q (.panic c) (a.put x v) w → Q (.panic c) a w) : ∀ (ph : List (Bool × List Nat)) (pl : List (Bool × List Oper)) (listed : Array Bool) (a : Act) (w : World),
    ph.length = pl.length → (∀ (i : Nat) (p : Bool × List Nat) (q : Bool × List Oper), ph[i]? = some p → pl[i]? = some q → p.1 = q.1 ∧ Fits ops p.2 q.2) → phasesB ops np ph listed = true → S w → wpPh P ops Q S pl a w → wpAnyS P ops Q S np (ph.map (·.2.length)).sum listed a w
  | [], pl, listed, a, w, hl, _, hB, hS, h => by
    have e : pl = [] := List.eq_nil_of_length_eq_zero (by simpa using hl.symm)
    rw [e] at h
    exact ⟨by simpa [phasesB] using hB, h⟩
  | (b, ks) :: ph, [], listed, a, w, hl, _, _, _, _ => by simp at hl
  | (b, ks) :: ph, (b', l) :: pl, listed, a, w, hl, hf, hB, hS, h => by
    obtain ⟨e, hfit⟩ := hf 0 _ _ rfl rfl
    dsimp only at e hfit
    subst e
    have next : ∀ a' w', S w' → wpPh P ops Q S pl a' w' → phasesB ops np ph (marks ks listed) = true → wpAnyS P ops Q S np (ph.map (·.2.length)).sum (marks ks listed) a' w' := fun a' w' hS' h' hb =>
      phases_any hw hs hQ ph pl (marks ks listed) a' w' (by simpa using hl) (fun i p q h1 h2 => hf (i + 1) p q (by simpa using h1) (by simpa using h2)) hb hS' h'
    rw [List.map_cons, List.sum_cons]
    cases b with
    | true =>
      simp only [phasesB, Bool.and_eq_true] at hB
      exact takes_quiet hw hs hQ hS ks l listed a hfit hB.1.2 hB.1.1 (fun a' hN => next a' w hS hN hB.2) h
    | false =>
      simp only [phasesB, Bool.and_eq_true] at hB
      exact only_hold ks l listed a w hfit hB.1.1 hS h (fun a' w' hS' hK => next a' w' hS' hK hB.2)
theorem wp_region_phases {l : List Oper} {id : Nat} {a : Act} {w : World} (ph : List (Bool × List Nat)) (S : World → Prop) (hm : P.follows .mixedOrders = true)
    (hB : (Region.noSelect l.toArray && phasesB l.toArray l.length ph (Array.replicate l.length false) && decide ((ph.map (·.2.length)).sum = l.length) && ph.all (fun p => p.2.all (fun k => decide (k < l.length)))) = true) (hQ : ∀ c a x v w, Q (.panic c) (a.put x v) w → Q (.panic c) a w) (hS : S w.drew)
    (h : ∀ pl, ph.map (fun p => (p.1, pickO l p.2)) = pl → wpPh P l.toArray Q S pl a w.drew) : (Code.region id l.toArray true).wp P Q a w := by
  simp only [Bool.and_eq_true, decide_eq_true_eq] at hB
  obtain ⟨⟨⟨b1, b2⟩, b3⟩, b4⟩ := hB
  have hwt : Waits l.toArray l.length := fun k o ho hk => by
    have hkl : k < l.length := by simpa using (Array.getElem?_eq_some_iff.1 ho).1
    omega
  refine wp_region_any hm (wpAny_of_S (S := S) (np := l.length) _ _ _ _ ?_)
  have key := phases_any (P := P) (Q := Q) (S := S) hwt b1 hQ ph _ (Array.replicate l.length false) a w.drew (by simp) (fun i p q h1 h2 => by
    rw [List.getElem?_map, h1, Option.map_some, Option.some.injEq] at h2
    subst h2
    exact ⟨rfl, fits_pickO l p.2 (List.all_eq_true.1 b4 p (List.mem_of_getElem? h1))⟩) b2 hS (h _ rfl)
  rw [b3] at key
  simpa using key
end
end Go.Proofs.YtemcppakmcffgaaDoor

namespace Go.Proofs.YtemcppakmcffgaaDoor
open Go.RowKit Go.BigFrame
set_option linter.unusedSimpArgs false
set_option linter.unusedVariables false
set_option maxRecDepth 20000
theorem Bs.sub {w : World} {b o len : Nat} {f : Nat → Int} (B : Bs w (Option.some ⟨b, o, none⟩) len f) (q k : Nat) (hk : q + k ≤ len) : Bs w (Option.some ⟨b, o + q, none⟩) k (fun i => f (q + i)) :=
  ⟨by have := B.len; omega, fun i hi => by
    obtain ⟨b', o', h1, h2⟩ := B.at_ (q + i) (by omega)
    cases h1
    exact ⟨_, _, rfl, by rw [Nat.add_assoc]; exact h2⟩, fun i hi => B.byte _ (by omega)⟩
theorem Es.sub {w : World} {m b o n : Nat} {X : Nat → Nat → Value} (B : Es w m (some ⟨b, o, none⟩) n X) (i k : Nat) (hk : i + k ≤ n) : Es w m (some ⟨b, o + i * m, none⟩) k (fun j => X (i + j)) :=
  ⟨by have := B.len; omega, fun j hj => by
    obtain ⟨b', o', h1, h2⟩ := B.at_ (i + j) (by omega)
    cases h1
    refine ⟨_, _, rfl, ?_⟩
    rw [Nat.add_mul, ← Nat.add_assoc] at h2
    exact h2⟩
theorem Vs.sub {w : World} {b o n : Nat} {R : Nat → Rcd} (B : Vs w (some ⟨b, o, none⟩) n R) (i k : Nat) (hk : i + k ≤ n) : Vs w (some ⟨b, o + i * 7, none⟩) k (fun j => R (i + j)) :=
  ⟨B.es.sub i k hk, fun j hj => B.f _ (by omega), fun j hj => B.x _ (by omega), fun j hj => B.y _ (by omega), fun j t hj ht => B.c _ t (by omega) ht⟩



set_option maxHeartbeats 8000000 in
theorem reach_no (L : Lay) (a : Option Addr) (len cap : Nat) (f : Nat → Int) (w : World) (TL : LaidL w) (B : Bs w a len f) (hc : len ≤ cap) (h : ¬ (len ≤ 2000 ∧ gerr L len = 0)) :
    Calls Tryd.prog 6 #[(.agg (lv (L))), .slice a len cap] w fun e w' => e = .returned (.bool true) ∧ Ext w w' := by
  have EX := Ext.refl w
  have GC := fun v (h : Ext w v) => get_any L a len cap f v (TL.later h) (B.later h) hc
  have SZ : ∀ v, Ext w v → Calls Tryd.prog 20 #[(.agg (lv (L))), .int .u8 0] v fun e w' => e = .returned (.int .i64 (lsize L 0)) ∧ Ext v w' := fun v h => lsize_any L 0 (by decide) v (TL.later h)
  unfold GotAll at GC
  generalize lsize L 0 = y at SZ
  by_cases h5 : len ≤ 2000
  case' pos =>
    have d1 : ¬ (2000 : Int) < (len : Int) := by omega
    have hd : (gerr L len != 0) = true := by
      have hg : gerr L len ≠ 0 := fun hg => h ⟨h5, hg⟩
      simpa using hg
    generalize gerr L len = x at *
  case' neg =>
    have d1 : (2000 : Int) < (len : Int) := by omega
    generalize gerr L len = x at *
  all_goals
    clear h
    go_enter Tryd.func6, Tryd.ntmps6
    go_upto_region 1 with fail
    refine rebase (G := fun w' => Code.wp _ _ _ _ w') _ (fun v1 => Ext w v1 ∧ Lm v1 (w.heap.size) (L)) ⟨by repeat (first | with_reducible exact EX |  with_reducible refine Ext.alloc ?_ _ | with_reducible refine Ext.drew ?_ | with_reducible refine Ext.drewN ?_ _ | with_reducible refine Ext.setCell ?_ (by first | (simp; done) | omega | (dsimp only; omega)) _), by repeat (first | with_reducible assumption | with_reducible refine Lm.drew ?_ | with_reducible refine Lm.drewN ?_ _ | (with_reducible refine Lm.skip ?_ ?_; focus (first | omega | (simp; done))) | with_reducible refine Lm.set0 ?_ _ | with_reducible refine Lm.set4 ?_ _ | with_reducible refine Lm.set5 ?_ _ | with_reducible refine Lm.setk ?_ _ (by decide) | (with_reducible refine Lm.cells1 ?_; exact ⟨_, by with_reducible assumption⟩) | (with_reducible refine Lm.skips ?_ _ _ ?_; focus (first | omega | (simp; done))) | (with_reducible refine Lm.new ?_ <;> first | rfl | (simp; done)) | (with_reducible refine Lm.fresh ?_ ?_ <;> first | rfl | (simp; done)) | with_reducible refine Lm.alloc ?_ _)⟩ ?_; clear EX ; rintro v1 ⟨EX, LB⟩; rename World => v; have LBc0 := LB.c0; have LBc1 := LB.c1; have LBc2 := LB.c2; have LBc3 := LB.c3; have LBc4 := LB.c4; have LBc5 := LB.c5; have LBdg := LB.dg; have LBfz := LB.fz; have LBlt := LB.lt
    obtain ⟨b0, hb0⟩ : ∃ b0, w.heap.size = b0 := ⟨_, rfl⟩
    rw [hb0] at LB LBc0 LBc1 LBc2 LBc3 LBc4 LBc5 LBdg LBfz LBlt ⊢
    go_upto_region 2 with (first | (refine wpList_load_lay (b0) _ rfl rfl rfl LB ?_) | (go_at_call 10; refine (GC _ EX).mono ?_; rintro e v1 ⟨s1, rfl, hb, S1, n1⟩; clear n1 S1; replace EX := Ext.trans EX hb; replace LB := LB.later hb; replace LBc0 := LB.c0; replace LBc1 := LB.c1; replace LBc2 := LB.c2; replace LBc3 := LB.c3; replace LBc4 := LB.c4; replace LBc5 := LB.c5; replace LBdg := LB.dg; replace LBfz := LB.fz; replace LBlt := LB.lt; clear hb v; rename World => v))
    go_wp2_with (first | (refine wpList_load_lay (b0) _ rfl rfl rfl LB ?_) | (go_at_call 20; refine (SZ _ EX).mono ?_; rintro e v1 ⟨rfl, hb⟩; replace EX := Ext.trans EX hb; replace LB := LB.later hb; replace LBc0 := LB.c0; replace LBc1 := LB.c1; replace LBc2 := LB.c2; replace LBc3 := LB.c3; replace LBc4 := LB.c4; replace LBc5 := LB.c5; replace LBdg := LB.dg; replace LBfz := LB.fz; replace LBlt := LB.lt; clear hb v; rename World => v) | (go_at_call 8; with_reducible refine (lives9_any _ (TL.later EX)).mono ?_; rintro e v1 ⟨rfl, hb⟩; replace EX := Ext.trans EX hb; clear hb))
    go_ret
    exact ⟨rfl, EX⟩
set_option maxHeartbeats 8000000 in
theorem reach_yes (L : Lay) (fl c p n sz m : Nat) (V : Vl L fl c p n sz) (a : Option Addr) (len cap : Nat) (f : Nat → Int) (w : World) (TL : LaidL w) (B : Bs w a len f) (hc : len ≤ cap) (h5 : len ≤ 2000) (hlm : len = sz * m) :
    Calls Tryd.prog 6 #[(.agg (lv (L))), .slice a len cap] w fun e w' => e = .returned (.bool true) ∧ Ext w w' := by
  have EX := Ext.refl w
  have d1 : ¬ (2000 : Int) < (len : Int) := by omega
  have s1 := V.s1
  have hml : m ≤ len := by
    have h2 : 1 * m ≤ sz * m := Nat.mul_le_mul_right m (by omega)
    omega
  have hms : m * sz = len := by rw [hlm, Nat.mul_comm]
  obtain ⟨g0, gm⟩ := gerr_ok V (by omega) hlm
  have GC : ∀ v, Ext w v → Calls Tryd.prog 10 #[(.agg (lv (L))), .slice a len cap] v fun e w' => ∃ s, e = .returned (.tuple #[s, .int .i64 0]) ∧ Ext v w' ∧ Lst w' 63 7 s m (recL L f) := fun v h => (get_any L a len cap f v (TL.later h) (B.later h) hc).mono fun e w' h' => by
    obtain ⟨s, he, E, SL, _⟩ := h'
    rw [g0] at he
    rw [gm] at SL
    exact ⟨s, he, E, SL⟩
  have G1 : Hid (∀ f' a' cap' v, Ext w v → Bs v a' sz f' → sz ≤ cap' → Calls Tryd.prog 10 #[(.agg (lv (L))), .slice a' sz cap'] v fun e w' => ∃ s, e = .returned (.tuple #[s, .int .i64 0]) ∧ Ext v w' ∧ Lst w' 63 7 s 1 (recL L f')) := fun f' a' cap' v h B' hc' => (get_any L a' sz cap' f' v (TL.later h) B' hc').mono fun e w' h' => by
    obtain ⟨s, he, E, SL, _⟩ := h'
    obtain ⟨k0, k1⟩ := gerr_ok (m := 1) V (show ¬ 65536 < sz by omega) (by omega)
    rw [k0] at he
    rw [k1] at SL
    exact ⟨s, he, E, SL⟩
  have PC : ∀ N Q a' cap' v, N * sz ≤ 65536 → N ≤ 100000 → Ext w v → Vs v a' N Q → (∀ i, i < N → Room fl c p n (Q i)) → Calls Tryd.prog 19 #[(.agg (lv (L))), .slice a' N cap'] v fun e w' => ∃ s, e = .returned (.tuple #[s, .int .i64 0]) ∧ Ext v w' ∧ Lst w' 5 1 s (N * sz) (fun j _ => .int .u8 (pby fl c p n sz Q j)) := fun N Q a' cap' v hN hN2 h B' hr => (put_all L N cap' a' Q v (TL.later h) B' hN2).mono fun e w' h' => by
    obtain ⟨s, x, M, he, E, SL, _, hp⟩ := h'
    obtain ⟨rfl, rfl⟩ := put_ok V hr (by omega) hp
    exact ⟨s, he, E, SL.congr fun i j hi _ => by rw [pbyL_is V]⟩
  have PA : Hid (∀ Q a' cap' v, Ext w v → Vs v a' m Q → (∀ i, i < m → Room fl c p n (Q i)) → Calls Tryd.prog 19 #[(.agg (lv (L))), .slice a' m cap'] v fun e w' => ∃ s, e = .returned (.tuple #[s, .int .i64 0]) ∧ Ext v w' ∧ Lst w' 5 1 s len (fun j _ => .int .u8 (pby fl c p n sz Q j))) := fun Q a' cap' v h B' hr => by
    have := PC m Q a' cap' v (by omega) (by omega) h B' hr
    rwa [hms] at this
  have P1 : Hid (∀ Q a' cap' v, Ext w v → Vs v a' 1 Q → (∀ i, i < 1 → Room fl c p n (Q i)) → Calls Tryd.prog 19 #[(.agg (lv (L))), .slice a' 1 cap'] v fun e w' => ∃ s, e = .returned (.tuple #[s, .int .i64 0]) ∧ Ext v w' ∧ Lst w' 5 1 s sz (fun j _ => .int .u8 (pby fl c p n sz Q j))) := fun Q a' cap' v h B' hr => by
    have := PC 1 Q a' cap' v (by omega) (by omega) h B' hr
    rwa [Nat.one_mul] at this
  have SZ : ∀ v, Ext w v → Calls Tryd.prog 20 #[(.agg (lv (L))), .int .u8 0] v fun e w' => e = .returned (.int .i64 (sz : Nat)) ∧ Ext v w' := fun v h => by have := lsize_any L 0 (by decide) v (TL.later h); rwa [V.es] at this
  have HV : Hid (Vl L fl c p n sz) := V
  have HB : Hid (Bs w a len f) := B
  have HT : Hid (LaidL w) := TL
  have HLM : Hid (len = sz * m) := hlm
  have hmi : (m : Int) * (sz : Int) = (len : Int) := by rw [← hms, Int.natCast_mul]
  have hsz1 : ¬ (sz : Int) < 1 := by omega
  clear V B TL g0 gm hlm hms PC
  go_enter Tryd.func6, Tryd.ntmps6
  go_upto_region 1 with fail
  refine rebase (G := fun w' => Code.wp _ _ _ _ w') _ (fun v1 => Ext w v1 ∧ Lm v1 (w.heap.size) (L)) ⟨by repeat (first | with_reducible exact EX |  with_reducible refine Ext.alloc ?_ _ | with_reducible refine Ext.drew ?_ | with_reducible refine Ext.drewN ?_ _ | with_reducible refine Ext.setCell ?_ (by first | (simp; done) | omega | (dsimp only; omega)) _), by repeat (first | with_reducible assumption | with_reducible refine Lm.drew ?_ | with_reducible refine Lm.drewN ?_ _ | (with_reducible refine Lm.skip ?_ ?_; focus (first | omega | (simp; done))) | with_reducible refine Lm.set0 ?_ _ | with_reducible refine Lm.set4 ?_ _ | with_reducible refine Lm.set5 ?_ _ | with_reducible refine Lm.setk ?_ _ (by decide) | (with_reducible refine Lm.cells1 ?_; exact ⟨_, by with_reducible assumption⟩) | (with_reducible refine Lm.skips ?_ _ _ ?_; focus (first | omega | (simp; done))) | (with_reducible refine Lm.new ?_ <;> first | rfl | (simp; done)) | (with_reducible refine Lm.fresh ?_ ?_ <;> first | rfl | (simp; done)) | with_reducible refine Lm.alloc ?_ _)⟩ ?_; clear EX ; rintro v1 ⟨EX, LB⟩; rename World => v; have LBc0 := LB.c0; have LBc1 := LB.c1; have LBc2 := LB.c2; have LBc3 := LB.c3; have LBc4 := LB.c4; have LBc5 := LB.c5; have LBdg := LB.dg; have LBfz := LB.fz; have LBlt := LB.lt
  obtain ⟨b0, hb0⟩ : ∃ b0, w.heap.size = b0 := ⟨_, rfl⟩
  rw [hb0] at LB LBc0 LBc1 LBc2 LBc3 LBc4 LBc5 LBdg LBfz LBlt ⊢
  go_upto_region 2 with (first | (refine wpList_load_lay (b0) _ rfl rfl rfl LB ?_) | (go_at_call 10; refine (GC _ EX).mono ?_; rintro e v1 ⟨s1, rfl, hb, S1⟩; replace EX := Ext.trans EX hb; replace LB := LB.later hb; replace LBc0 := LB.c0; replace LBc1 := LB.c1; replace LBc2 := LB.c2; replace LBc3 := LB.c3; replace LBc4 := LB.c4; replace LBc5 := LB.c5; replace LBdg := LB.dg; replace LBfz := LB.fz; replace LBlt := LB.lt; clear hb v; rename World => v))
  obtain ⟨a1, c1, hs1, E1⟩ := S1.es (by omega)
  have hc1 : m ≤ c1 := by
    subst hs1
    rcases S1.2 with ⟨h1, h0⟩ | ⟨g, cp, cur, h1, _, _, h2, _⟩
    · cases h1; exact Nat.le_refl _
    · cases h1; exact h2
  subst hs1
  have V1 := got_vs HV.out E1
  obtain ⟨Q, hQ⟩ : ∃ Q : Nat → Rcd, (fun j => recAt fl c p n (bt f) (8 * (sz * j))) = Q := ⟨_, rfl⟩
  have hQj : ∀ j, Q j = recAt fl c p n (bt f) (8 * (sz * j)) := fun j => by rw [← hQ]
  rw [hQ] at V1
  have HR : Hid (∀ i, i < m → Room fl c p n (Q i)) := fun i _ => by rw [hQj]; exact got_room _ _ _ _ (bt_bits f) _
  have HQ : Hid (∀ j, Q j = recAt fl c p n (bt f) (8 * (sz * j))) := hQj
  clear S1 hQ hQj GC
  go_upto_region 5 with (first | (refine wpList_load_lay (b0) _ rfl rfl rfl LB ?_) | (go_at_call 20; refine (SZ _ EX).mono ?_; rintro e v1 ⟨rfl, hb⟩; replace EX := Ext.trans EX hb; replace LB := LB.later hb; replace LBc0 := LB.c0; replace LBc1 := LB.c1; replace LBc2 := LB.c2; replace LBc3 := LB.c3; replace LBc4 := LB.c4; replace LBc5 := LB.c5; replace LBdg := LB.dg; replace LBfz := LB.fz; replace LBlt := LB.lt; replace E1 := E1.later hb; replace V1 := V1.later hb; clear hb v; rename World => v))
  go_upto_region 6 with (first | (refine wpList_load_lay (b0) _ rfl rfl rfl LB ?_) | (go_at_call 19; refine (PA.out Q a1 c1 _ EX V1 HR.out).mono ?_; rintro e v1 ⟨s2, rfl, hb, S2⟩; replace EX := Ext.trans EX hb; replace LB := LB.later hb; replace LBc0 := LB.c0; replace LBc1 := LB.c1; replace LBc2 := LB.c2; replace LBc3 := LB.c3; replace LBc4 := LB.c4; replace LBc5 := LB.c5; replace LBdg := LB.dg; replace LBfz := LB.fz; replace LBlt := LB.lt; replace E1 := E1.later hb; replace V1 := V1.later hb; clear hb v; rename World => v))
  obtain ⟨a2, c2, hs2, hc2, B2⟩ := S2.bsc (by omega) (fun i _ => pby_in _ _ _ _ _ _ _)
  subst hs2
  clear S2 PA SZ hmi
  go_upto_region 9 with fail
  clear LBc0 LBc1 LBc2 LBc3 LBc4 LBc5 LBdg LBfz LBlt
  go_loopg [10] m (fun gk iv wr => ∃ i : Nat, i + gk = m ∧ iv = .int .i64 i ∧ Ext w wr ∧ Lm wr (b0) (L) ∧ Es wr 7 a1 m (recL L f) ∧ Vs wr a1 m Q ∧ Bs wr a2 len (pby fl c p n sz Q))
  case atStart => exact ⟨0, by omega, rfl, EX, LB, E1, V1, B2⟩
  case round =>
    clear EX LB E1 V1 B2 v
    obtain ⟨i, hi, rfl, EX, LB, E1, V1, B2⟩ := hrel
    obtain ⟨v, hv⟩ : ∃ v, v = wr := ⟨_, rfl⟩
    subst hv
    by_cases hlt : i < m
    · have hii : (i : Int) < (m : Int) := by omega
      obtain ⟨q, hq⟩ : ∃ q, sz * i = q := ⟨_, rfl⟩
      have hiq : (sz : Int) * (i : Int) = (q : Int) := by rw [← hq, Int.natCast_mul]
      have hzl : q + sz ≤ len := by
        have h1 : sz * (i + 1) ≤ sz * m := Nat.mul_le_mul_left sz (by omega)
        have := HLM.out
        rw [Nat.mul_add] at h1
        omega
      obtain ⟨bb, ob, rfl, t1⟩ := HB.out.some (by omega)
      obtain ⟨b1, o1, rfl, t2⟩ := E1.form (by omega)
      obtain ⟨b2, o2, rfl, t3⟩ := B2.some (by omega)
      clear t1 t2 t3
      have HQ1 : Hid (sz * i = q) := hq
      have hcq : ¬ cap = q := by omega
      have hci : ¬ c1 = i := by omega
      have hcq2 : ¬ c2 = q := by omega
      have hqs : q + sz - q = sz := by omega
      have his : i + 1 - i = 1 := by omega
      clear hq
      go_upto_region 11 with fail
      have BS := fun v1 (h : Ext v v1) => ((HB.out.later EX).sub q sz hzl).later h
      have gLB := fun x' : Grow v => LB.later x'.ext
      refine wp_region_phases [(true, [0,1,2,3,4,5,6,7,8,9,10]), (false, [11,12]), (true, [13,14]), (false, [15,16])] (fun w' => ∃ x : Grow v, w' = x.out) (by kernel_rfl) (by kernel_rfl) (fun c a x v w h => by cases x <;> exact h) ⟨⟨v.drew, (Ext.refl v).drew⟩, rfl⟩ ?_
      intro pl hpl
      simp [pickO] at hpl
      subst hpl
      unfold wpPh
      (repeat (first | (go_big_quiet_want; refine quiet_load_lay _ (b0) rfl rfl (by rintro _ ⟨x', rfl⟩; exact gLB x') ?_; simp only [Act.put, List.setIfInBounds_toArray, List.set_cons_succ, List.set_cons_zero]; go_big_quiet_on) | go_big_quiet_step (fail))); refine wpQuiet_nil ?_; clear gLB
      have hE0 : Ext v v.drew := (Ext.refl v).drew
      unfold wpPh
      refine holdk_step fun K hK => ?_
      go_wp2_with (first | (go_at_call 10; refine (G1.out (fun i => f (q + i)) _ _ _ (EX.trans hE0) (BS _ hE0) (by omega)).mono ?_; rintro e v1 ⟨s3, rfl, hb, S3⟩))
      have hE := hE0.trans hb
      refine hK _ _ ⟨⟨v1, hE⟩, rfl⟩ ?_
      clear hK K
      refine holdk_step fun K hK => ?_
      go_wp2
      refine hK _ _ ⟨⟨v1, hE⟩, rfl⟩ ?_
      clear hK K
      unfold wpHoldK wpPh
      (repeat (first | go_big_quiet_step (fail))); refine wpQuiet_nil ?_
      unfold wpPh
      refine holdk_step fun K hK => ?_
      go_wp2
      refine hK _ _ ⟨⟨v1, hE⟩, rfl⟩ ?_
      clear hK K
      refine holdk_step fun K hK => ?_
      go_wp2
      refine hK _ _ ⟨⟨v1, hE⟩, rfl⟩ ?_
      clear hK K
      unfold wpHoldK wpPh
      replace EX := EX.trans hE
      replace LB := LB.later hE
      replace E1 := E1.later hE
      replace V1 := V1.later hE
      replace B2 := B2.later hE
      clear hE0 hE hb BS v
      rename World => v
      go_upto_region 12 with fail
      have VS := fun v1 (h : Ext v v1) => (V1.sub i 1 (by omega)).later h
      have gLB := fun x' : Grow v => LB.later x'.ext
      refine wp_region_phases [(true, [0,1,2,3,4,5]), (false, [6,7]), (true, [8,9]), (false, [10,11])] (fun w' => ∃ x : Grow v, w' = x.out) (by kernel_rfl) (by kernel_rfl) (fun c a x v w h => by cases x <;> exact h) ⟨⟨v.drew, (Ext.refl v).drew⟩, rfl⟩ ?_
      intro pl hpl
      simp [pickO] at hpl
      subst hpl
      unfold wpPh
      (repeat (first | (go_big_quiet_want; refine quiet_load_lay _ (b0) rfl rfl (by rintro _ ⟨x', rfl⟩; exact gLB x') ?_; simp only [Act.put, List.setIfInBounds_toArray, List.set_cons_succ, List.set_cons_zero]; go_big_quiet_on) | go_big_quiet_step (fail))); refine wpQuiet_nil ?_; clear gLB
      have hE0 : Ext v v.drew := (Ext.refl v).drew
      unfold wpPh
      refine holdk_step fun K hK => ?_
      go_wp2_with (first | (go_at_call 19; refine (P1.out (fun j => Q (i + j)) _ _ _ (EX.trans hE0) (VS _ hE0) (fun j hj => HR.out _ (by omega))).mono ?_; rintro e v1 ⟨s4, rfl, hb, S4⟩))
      have hE := hE0.trans hb
      refine hK _ _ ⟨⟨v1, hE⟩, rfl⟩ ?_
      clear hK K
      refine holdk_step fun K hK => ?_
      go_wp2
      refine hK _ _ ⟨⟨v1, hE⟩, rfl⟩ ?_
      clear hK K
      unfold wpHoldK wpPh
      (repeat (first | go_big_quiet_step (fail))); refine wpQuiet_nil ?_
      unfold wpPh
      refine holdk_step fun K hK => ?_
      go_wp2
      refine hK _ _ ⟨⟨v1, hE⟩, rfl⟩ ?_
      clear hK K
      refine holdk_step fun K hK => ?_
      go_wp2
      refine hK _ _ ⟨⟨v1, hE⟩, rfl⟩ ?_
      clear hK K
      unfold wpHoldK wpPh
      replace EX := EX.trans hE
      replace LB := LB.later hE
      replace E1 := E1.later hE
      replace V1 := V1.later hE
      replace B2 := B2.later hE
      replace S3 := S3.later hE
      clear hE0 hE hb VS v
      rename World => v
      obtain ⟨a3, c3, hs3, E3⟩ := S3.es (by decide)
      obtain ⟨a4, c4, hs4, B4⟩ := S4.bs (by omega) (fun i _ => pby_in _ _ _ _ _ _ _)
      subst hs3 hs4
      have SR := fun c5 => same_recs a3 (some ⟨b1, o1 + i * 7, none⟩) 1 c3 c5 _ _ v E3 (E1.sub i 1 (by omega)) (fun j hj => by
        rw [show j = 0 by omega, Nat.add_zero, recL_is HV.out, recL_is HV.out, Nat.mul_zero, Nat.mul_zero, ← HQ1.out]
        exact congrArg (fun K => vl 7 (rv K)) (rec_shift f i HV.out.b.1)) (fun j hj => recL_kinds L _ (len := sz) (by rw [(gerr_ok (m := 1) HV.out (show ¬ 65536 < sz by omega) (by omega)).2]; exact hj))
      have SB := fun v' c5 (h : Ext v v') => sameBytes_yes a4 (some ⟨b2, o2 + q, none⟩) sz c4 c5 _ _ v' (B4.later h) ((B2.sub q sz hzl).later h) (fun j hj => by rw [← HQ1.out]; exact pby_shift Q i j (by omega))
      have HH : Hid (Ext w v ∧ Lm v (b0) (L) ∧ Es v 7 (some ⟨b1, o1, none⟩) m (recL L f) ∧ Vs v (some ⟨b1, o1, none⟩) m Q ∧ Bs v (some ⟨b2, o2, none⟩) len (pby fl c p n sz Q)) := ⟨EX, LB, E1, V1, B2⟩
      clear EX LB E1 V1 B2 S3 S4 E3 B4
      go_wp2_with (first
        | (go_at_call 14; with_reducible refine (SR _).mono ?_; rintro e v1 ⟨rfl, x1⟩; clear SR)
        | (go_at_call 21; with_reducible refine (SB _ _ x1).mono ?_; rintro e v2 ⟨rfl, x2⟩; clear SB))
      have hE := Ext.trans x1 x2
      go_roundg (gk - 1)
      case measure => omega
      case rel => exact ⟨i + 1, by omega, by go_num, HH.out.1.trans hE, HH.out.2.1.later hE, HH.out.2.2.1.later hE, HH.out.2.2.2.1.later hE, HH.out.2.2.2.2.later hE⟩
    · have hii : ¬ (i : Int) < (m : Int) := by omega
      have TL := HT.out
      go_wp2_with (first | (go_at_call 8; with_reducible refine (lives9_any _ (TL.later EX)).mono ?_; rintro e v1 ⟨rfl, hb⟩; replace EX := Ext.trans EX hb; clear hb))
      go_ret
      exact ⟨rfl, EX⟩
theorem reach_law (L : Lay) (a : Option Addr) (len cap : Nat) (f : Nat → Int) (w : World) (TL : LaidL w) (B : Bs w a len f) (hc : len ≤ cap) :
    Calls Tryd.prog 6 #[(.agg (lv (L))), .slice a len cap] w fun e w' => e = .returned (.bool true) ∧ Ext w w' := by
  by_cases h : len ≤ 2000 ∧ gerr L len = 0
  · obtain ⟨h5, hg⟩ := h
    have hv : vlay L = true := by
      cases h : vlay L
      · unfold gerr at hg; rw [if_neg (by rw [h]; decide)] at hg; omega
      · rfl
    obtain ⟨fl, c, p, n, sz, V⟩ := vl_of hv
    have hsz : (lsize L 0).toNat = sz := by rw [V.es]; rfl
    have hm : len % sz = 0 := by
      by_cases hm : len % sz = 0
      · exact hm
      · unfold gerr at hg
        rw [if_pos hv, if_neg (by omega), hsz, if_neg hm] at hg
        omega
    exact reach_yes L fl c p n sz (len / sz) V a len cap f w TL B hc h5 (by have := Nat.div_add_mod len sz; omega)
  · exact reach_no L a len cap f w TL B hc h
end Go.Proofs.YtemcppakmcffgaaDoor
