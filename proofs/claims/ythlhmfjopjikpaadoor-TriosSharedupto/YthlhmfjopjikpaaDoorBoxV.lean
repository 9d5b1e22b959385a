/- Boxes in memory of any number of cells, whatever these hold. What becomes of them as a world grows and is written. -/
import Derived.Test.YthlhmfjopjikpaaDoorBoxS
import Derived.Deep.MidRow
namespace Go.Proofs.YthlhmfjopjikpaaDoor
open Go.RowKit Go.BigFrame
set_option linter.unusedSimpArgs false
set_option linter.unusedVariables false
structure Vm (v : World) (b n : Nat) (f : Nat → Value) : Prop where
  lt : b < v.heap.size
  fz : ∀ o, v.frozen? ⟨b, o, none⟩ = false
  dg : ∀ i, i < n → v.cell? ⟨b, i, none⟩ = some (f i)
theorem Vm.later {v v' : World} {b n : Nat} {f : Nat → Value} (e : Ext v v') (B : Vm v b n f) : Vm v' b n f :=
  ⟨Nat.lt_of_lt_of_le B.lt e.more, frz_later e B.lt B.fz, fun i hi => Ext.later e (B.dg i hi)⟩
theorem Vm.alloc {v : World} {b n : Nat} {f : Nat → Value} (B : Vm v b n f) (o : Obj) : Vm (v.alloc o) b n f := B.later (Ext.alloc (Ext.refl v) o)
theorem Vm.drew {v : World} {b n : Nat} {f : Nat → Value} (B : Vm v b n f) : Vm v.drew b n f := B.later (Ext.drew (Ext.refl v))
theorem Vm.drewN {v : World} {b n : Nat} {f : Nat → Value} (B : Vm v b n f) (k : Nat) : Vm (v.drewN k) b n f := B.later (Ext.drewN (Ext.refl v) k)
theorem Vm.skip {v : World} {b b' o' n : Nat} {y : Value} {f : Nat → Value} (hne : b' ≠ b) (B : Vm v b n f) : Vm (v.setCell ⟨b', o', none⟩ y) b n f :=
  ⟨lt_set B.lt, frz_set B.fz, fun i hi => cell_skip (.inl hne) (B.dg i hi)⟩
theorem Vm.new {v : World} {b n : Nat} {f : Nat → Value} {cs : Array Value} {t : TypeId} (hb : v.heap.size = b) (h : ∀ i, i < n → cs[i]? = some (f i)) : Vm (v.alloc (.cells cs t)) b n f := by
  subst hb; exact ⟨by simp, frz_new _ _ _, fun i hi => new1 (h i hi)⟩
theorem Vm.eq {v : World} {b n : Nat} {f g : Nat → Value} (B : Vm v b n f) (h : ∀ i, i < n → f i = g i) : Vm v b n g := ⟨B.lt, B.fz, fun i hi => by rw [B.dg i hi, h i hi]⟩
def updv (f : Nat → Value) (k : Nat) (x : Value) : Nat → Value := fun i => if i = k then x else f i
theorem Vm.set {v : World} {b n : Nat} {f : Nat → Value} (B : Vm v b n f) (k : Nat) (x : Value) : Vm (v.setCell ⟨b, k, none⟩ x) b n (updv f k x) :=
  ⟨lt_set B.lt, frz_set B.fz, fun i hi => by
    unfold updv
    by_cases h : i = k
    · subst h; rw [if_pos rfl]; exact cell_same (There.of (B.dg i hi))
    · rw [if_neg h]; exact cell_skip (.inr (by omega)) (B.dg i hi)⟩
/-- The cells. -/
def vl (n : Nat) (f : Nat → Value) : List Value := (List.range n).map f
theorem vl_len (n : Nat) (f : Nat → Value) : (vl n f).length = n := by unfold vl; simp
theorem vl_at (n : Nat) (f : Nat → Value) {i : Nat} (h : i < n) : (vl n f)[i]? = some (f i) := by unfold vl; rw [List.getElem?_map, List.getElem?_range h]; rfl
theorem Vm.ofList {v : World} {b n : Nat} {f : Nat → Value} {cs : Array Value} {t : TypeId} (hb : v.heap.size = b) (h : cs.toList = vl n f) : Vm (v.alloc (.cells cs t)) b n f :=
  Vm.new hb (fun i hi => by rw [← Array.getElem?_toList, h, vl_at n f hi])
theorem Vm.range {v : World} {b n : Nat} {f : Nat → Value} (B : Vm v b n f) : v.rangeAt b 0 (vl n f) := fun j x hx => by
  have hj : j < n := by rw [← vl_len n f]; exact (List.getElem?_eq_some_iff.1 hx).1
  rw [vl_at n f hj] at hx
  rw [Nat.zero_add, B.dg j hj, hx]
theorem Vm.there {v : World} {b n : Nat} {f : Nat → Value} (B : Vm v b n f) {m : Nat} (hm : m = n) : v.there b 0 m := fun j hj => by
  rw [Nat.zero_add, B.dg j (by omega)]
  exact ⟨rfl, B.fz j⟩
theorem Vm.cells {v : World} {b n : Nat} {f : Nat → Value} (B : Vm v b n f) (h0 : 0 < n) (g : Nat → Value) : Vm (v.setCells b 0 (vl n g)) b n g := by
  have ht : v.there b 0 (vl n g).length := B.there (vl_len n g)
  refine ⟨?_, fun o => ?_, fun i hi => ?_⟩
  · have := World.rangeAt_setCells_same v b 0 (vl n g) ht 0 _ (vl_at n g h0)
    rw [Nat.zero_add] at this
    exact cell_lt this
  · rw [World.frozen?_setCells]; exact B.fz o
  · have := World.rangeAt_setCells_same v b 0 (vl n g) ht i _ (vl_at n g hi)
    rw [Nat.zero_add] at this
    exact this
theorem vl_one (n : Nat) (f : Nat → Value) (h : ∀ i, (f i).oneCell' = true) : (vl n f).toArray.all (·.oneCell') = true := all_oneCell_toArray (fun v hv => by unfold vl at hv; rw [List.mem_map] at hv; obtain ⟨i, _, rfl⟩ := hv; exact h i)
theorem Ext.setCells' {a w : World} (h : Ext a w) (b : Nat) (hb : a.heap.size ≤ b) : ∀ (vs : List Value) (o : Nat), Ext a (w.setCells b o vs) := by
  intro vs
  induction vs generalizing w with
  | nil => intro o; exact h
  | cons v vs ih => intro o; exact ih (Ext.setCell h (p := ⟨b, o, none⟩) hb v) (o + 1)
theorem S2m.skips' {b b' : Nat} {x y : Value} (hne : b' ≠ b) : ∀ (vs : List Value) (o : Nat) {v : World} (B : S2m v b x y), S2m (v.setCells b' o vs) b x y
  | [], _, _, B => B
  | _ :: vs, o, _, B => S2m.skips' hne vs (o + 1) (B.skip hne)
structure S1m (v : World) (b : Nat) (x0 : Value) : Prop where
  lt : b < v.heap.size
  fz : ∀ o, v.frozen? ⟨b, o, none⟩ = false
  c0 : v.cell? ⟨b, 0, none⟩ = some x0

theorem S1m.later {v v' : World} {b : Nat} {x0 : Value} (e : Ext v v') (B : S1m v b x0) : S1m v' b x0 :=
  ⟨Nat.lt_of_lt_of_le B.lt e.more, frz_later e B.lt B.fz, Ext.later e B.c0⟩
theorem S1m.alloc {v : World} {b : Nat} {x0 : Value} (B : S1m v b x0) (x : Obj) : S1m (v.alloc x) b x0 := B.later (Ext.alloc (Ext.refl v) x)
theorem S1m.drew {v : World} {b : Nat} {x0 : Value} (B : S1m v b x0) : S1m v.drew b x0 := B.later (Ext.drew (Ext.refl v))
theorem S1m.drewN {v : World} {b : Nat} {x0 : Value} (B : S1m v b x0) (n : Nat) : S1m (v.drewN n) b x0 := B.later (Ext.drewN (Ext.refl v) n)
theorem S1m.skip {v : World} {b b' o' : Nat} {x : Value} {x0 : Value} (hne : b' ≠ b) (B : S1m v b x0) : S1m (v.setCell ⟨b', o', none⟩ x) b x0 :=
  ⟨lt_set B.lt, frz_set B.fz, cell_skip (.inl hne) B.c0⟩
def S1mAny (v : World) (b : Nat) : Prop := ∃ x0, S1m v b x0
theorem S1m.any {v : World} {b : Nat} {x0 : Value} (B : S1m v b x0) : S1mAny v b := ⟨x0, B⟩
theorem S1mAny.alloc {v : World} {b : Nat} (h : S1mAny v b) (x : Obj) : S1mAny (v.alloc x) b := by
  obtain ⟨x0, B⟩ := h; exact ⟨x0, B.alloc x⟩
theorem S1mAny.drew {v : World} {b : Nat} (h : S1mAny v b)  : S1mAny v.drew b := by
  obtain ⟨x0, B⟩ := h; exact ⟨x0, B.drew⟩
theorem S1mAny.drewN {v : World} {b : Nat} (h : S1mAny v b) (n : Nat) : S1mAny (v.drewN n) b := by
  obtain ⟨x0, B⟩ := h; exact ⟨x0, B.drewN n⟩
theorem S1mAny.skip {v : World} {b b' o' : Nat} {x : Value} (hne : b' ≠ b) (h : S1mAny v b) : S1mAny (v.setCell ⟨b', o', none⟩ x) b := by
  obtain ⟨x0, B⟩ := h; exact ⟨x0, B.skip hne⟩
theorem S1m.new {v : World} {b : Nat} {x0 : Value} {cs : Array Value} {t : TypeId} (hb : v.heap.size = b) (h0 : cs[0]? = some x0) : S1m (v.alloc (.cells cs t)) b x0 := by
  subst hb; exact ⟨by simp, frz_new _ _ _, new1 h0⟩
theorem S1m.set0 {v : World} {b : Nat} {x0 : Value} (B : S1m v b x0) (y : Value) : S1m (v.setCell ⟨b, 0, none⟩ y) b y :=
  ⟨lt_set B.lt, frz_set B.fz, cell_same (There.of B.c0)⟩
theorem S1m.store {v : World} {b : Nat} {y0 : Value} (H : S1mAny v b) : S1m (v.setCell ⟨b, 0, none⟩ y0) b y0 := by
  obtain ⟨x0, B⟩ := H; exact (B).set0 y0
/-- Two cells of a box, beside each other. -/
structure Jm (v : World) (b i : Nat) (x y : Value) : Prop where
  lt : b < v.heap.size
  fz : ∀ o, v.frozen? ⟨b, o, none⟩ = false
  ci : v.cell? ⟨b, i, none⟩ = some x
  cj : v.cell? ⟨b, i + 1, none⟩ = some y
theorem Jm.later {v v' : World} {b i : Nat} {x y : Value} (e : Ext v v') (B : Jm v b i x y) : Jm v' b i x y :=
  ⟨Nat.lt_of_lt_of_le B.lt e.more, frz_later e B.lt B.fz, Ext.later e B.ci, Ext.later e B.cj⟩
theorem Vm.at {v : World} {b n : Nat} {f : Nat → Value} (B : Vm v b n f) {i : Nat} (h : i + 1 < n) : Jm v b i (f i) (f (i + 1)) := ⟨B.lt, B.fz, B.dg i (by omega), B.dg (i + 1) h⟩
end Go.Proofs.YthlhmfjopjikpaaDoor
