/- Worlds in which only certain blocks have changed; rows that are owned, over changes elsewhere. -/
import Derived.Test.YthlhmfjopjikpaaDoorProg
import Derived.Test.YthlhmfjopjikpaaDoorBoxV
import Derived.OwnWalk
import Derived.Laws.AppendOwn
import Derived.OneCell
import Derived.Deep.AppendLies
namespace Go.Proofs.YthlhmfjopjikpaaDoor
open Go.RowKit Go.BigFrame
set_option linter.unusedSimpArgs false
set_option linter.unusedVariables false
/-- Only the blocks of S may have changed, and new ones may be there. -/
structure Chg (S : Nat → Prop) (w w' : World) : Prop where
  os : w'.os = w.os
  tape : w'.tape = w.tape
  output : w'.output = w.output
  size : w.heap.size ≤ w'.heap.size
  block : ∀ k, k < w.heap.size → ¬ S k → w'.heap[k]? = w.heap[k]?
theorem Chg.refl (S : Nat → Prop) (w : World) : Chg S w w := ⟨rfl, rfl, rfl, Nat.le_refl _, fun _ _ _ => rfl⟩
theorem Chg.of {S : Nat → Prop} {w w' : World} (h : Ext w w') : Chg S w w' := ⟨h.os, h.tape, h.output, h.size, fun k hk _ => h.block k hk⟩
theorem Chg.grown {S : Nat → Prop} {w w' : World} {row : Option Nat} (h : w.grownBy w' row) (hS : ∀ k, row = some k → S k) : Chg S w w' :=
  ⟨h.os, h.tape, h.output, h.size, fun k hk hn => h.block k hk (fun e => hn (hS k e.symm))⟩
theorem Chg.trans {S T : Nat → Prop} {a b c : World} (h : Chg S a b) (k : Chg T b c) (hT : ∀ i, T i → S i ∨ a.heap.size ≤ i) : Chg S a c :=
  ⟨k.os.trans h.os, k.tape.trans h.tape, k.output.trans h.output, Nat.le_trans h.size k.size, fun i hi hn => (k.block i (Nat.lt_of_lt_of_le hi h.size) (fun ht => by
    rcases hT i ht with h1 | h1
    · exact hn h1
    · omega)).trans (h.block i hi hn)⟩
theorem Chg.mono {S T : Nat → Prop} {a b : World} (h : Chg S a b) (hT : ∀ i, S i → T i) : Chg T a b := ⟨h.os, h.tape, h.output, h.size, fun i hi hn => h.block i hi (fun hs => hn (hT i hs))⟩
theorem Chg.setCell {S : Nat → Prop} {a w : World} (h : Chg S a w) {b o : Nat} (hb : S b ∨ a.heap.size ≤ b) (u : Value) : Chg S a (w.setCell ⟨b, o, none⟩ u) :=
  h.trans (T := fun i => i = b) ⟨rfl, rfl, rfl, by simp [World.setCell], fun k hk hn => Below.heap_setCell w ⟨b, o, none⟩ u k hn⟩ (by rintro i rfl; exact hb)
theorem Chg.alloc {S : Nat → Prop} {a w : World} (h : Chg S a w) (o : Obj) : Chg S a (w.alloc o) := h.trans (T := S) (Chg.of (Ext.alloc (Ext.refl w) o)) (fun i hi => .inl hi)
theorem Chg.drew {S : Nat → Prop} {a w : World} (h : Chg S a w) : Chg S a w.drew := h.trans (T := S) (Chg.of (Ext.drew (Ext.refl w))) (fun i hi => .inl hi)
theorem Chg.ext {S : Nat → Prop} {a b : World} (h : Chg S a b) (hS : ∀ i, S i → a.heap.size ≤ i) : Ext a b := ⟨h.os, h.tape, h.output, h.size, fun k hk => h.block k hk (fun hs => by have := hS k hs; omega)⟩
/-- Below a base, where all that may change lies above it. -/
theorem Chg.over {S : Nat → Prop} {W a b : World} (e : Ext W a) (h : Chg S a b) (hS : ∀ i, S i → W.heap.size ≤ i) : Ext W b :=
  ⟨h.os.trans e.os, h.tape.trans e.tape, h.output.trans e.output, Nat.le_trans e.size h.size, fun k hk => (h.block k (Nat.lt_of_lt_of_le hk e.size) (fun hs => by have := hS k hs; omega)).trans (e.block k hk)⟩
theorem Chg.cell {S : Nat → Prop} {w w' : World} (h : Chg S w w') {b o : Nat} {u : Value} (hb : ¬ S b) (hc : w.cell? ⟨b, o, none⟩ = some u) : w'.cell? ⟨b, o, none⟩ = some u :=
  (World.cell?_of_block (a := ⟨b, o, none⟩) (h.block b (cell_lt hc) hb)).trans hc
theorem frz_blk {w w' : World} {b : Nat} (h : w'.heap[b]? = w.heap[b]?) (z : ∀ o, w.frozen? ⟨b, o, none⟩ = false) : ∀ o, w'.frozen? ⟨b, o, none⟩ = false := fun o => (World.frozen?_of_block (a := ⟨b, o, none⟩) h).trans (z o)
theorem S4m.blk {v v' : World} {b : Nat} {x0 x1 x2 x3 : Value} (B : S4m v b x0 x1 x2 x3) (h : v'.heap[b]? = v.heap[b]?) : S4m v' b x0 x1 x2 x3 := by
  have c : ∀ {o u}, v.cell? ⟨b, o, none⟩ = some u → v'.cell? ⟨b, o, none⟩ = some u := fun {o u} hc => (World.cell?_of_block (a := ⟨b, o, none⟩) h).trans hc
  exact ⟨cell_lt (c B.c0), frz_blk h B.fz, c B.c0, c B.c1, c B.c2, c B.c3⟩
theorem S1m.blk {v v' : World} {b : Nat} {x0 : Value} (B : S1m v b x0) (h : v'.heap[b]? = v.heap[b]?) : S1m v' b x0 := by
  have c : ∀ {o u}, v.cell? ⟨b, o, none⟩ = some u → v'.cell? ⟨b, o, none⟩ = some u := fun {o u} hc => (World.cell?_of_block (a := ⟨b, o, none⟩) h).trans hc
  exact ⟨cell_lt (c B.c0), frz_blk h B.fz, c B.c0⟩
theorem Vm.blk2 {v v' : World} {b n : Nat} {f : Nat → Value} (B : Vm v b n f) (h : v'.heap[b]? = v.heap[b]?) (hl : v.heap.size ≤ v'.heap.size) : Vm v' b n f :=
  ⟨Nat.lt_of_lt_of_le B.lt hl, frz_blk h B.fz, fun i hi => (World.cell?_of_block (a := ⟨b, i, none⟩) h).trans (B.dg i hi)⟩
/-- A row that is owned, over changes elsewhere. -/
theorem own_chg {S : Nat → Prop} {w w' : World} {base : Nat} {e : TypeId} {size n : Nat} {v : Value} {xs : List Value} (h : w.ownsRow base e size v n xs) (g : Chg S w w') (hv : ∀ k, v.ownBlock = some k → ¬ S k) : w'.ownsRow base e size v n xs := by
  refine ⟨h.1, h.2.imp id ?_⟩
  rintro ⟨g1, cap, cur, rfl, h1, h2, h3⟩
  refine ⟨g1, cap, cur, rfl, h1, ?_, h3⟩
  rw [g.block g1 (Array.getElem?_eq_some_iff.1 h2).1 (hv g1 rfl)]
  exact h2
theorem own_set {w : World} {base : Nat} {e : TypeId} {size n : Nat} {v : Value} {xs : List Value} (h : w.ownsRow base e size v n xs) {b o : Nat} (hb : v.ownBlock ≠ some b) (u : Value) : (w.setCell ⟨b, o, none⟩ u).ownsRow base e size v n xs :=
  own_chg h (Chg.setCell (S := fun i => i = b) (Chg.refl _ w) (.inl rfl) u) (fun k hk e => hb (by rw [hk, e]))
theorem own_ext' {w w' : World} {base : Nat} {e : TypeId} {size n : Nat} {v : Value} {xs : List Value} (h : w.ownsRow base e size v n xs) (g : Ext w w') : w'.ownsRow base e size v n xs :=
  own_chg (S := fun _ => False) h (Chg.of g) (fun _ _ h => h)
theorem own_slice {w : World} {base : Nat} {e : TypeId} {size n : Nat} {v : Value} {xs : List Value} (h : w.ownsRow base e size v n xs) : ∃ a cap, v = .slice a n cap := by
  rcases h.2 with ⟨rfl, rfl⟩ | ⟨g, cap, cur, rfl, _⟩
  · exact ⟨none, 0, rfl⟩
  · exact ⟨some ⟨g, 0, none⟩, cap, rfl⟩
theorem vl_snoc (n : Nat) (f : Nat → Value) : vl n f ++ [f n] = vl (n + 1) f := by
  unfold vl
  rw [List.range_succ, List.map_append]
  rfl
theorem vl_eq {n : Nat} {f g : Nat → Value} (h : ∀ i, i < n → f i = g i) : vl n f = vl n g := by
  unfold vl
  exact List.map_congr_left fun i hi => h i (List.mem_range.1 hi)
/-- A world in which at most the blocks of S, and new ones, are others. -/
def Alt (S : Nat → Prop) (w : World) : Type := { w' : World // Chg S w w' }
@[go_sem] theorem Alt.all {S : Nat → Prop} {w : World} {p : Prop} : (∀ _ : Alt S w, p) ↔ p := ⟨fun h => h ⟨w, Chg.refl S w⟩, fun h _ => h⟩
def Alt.out {S : Nat → Prop} {w : World} (x : Alt S w) : World := x.1
theorem Alt.chg {S : Nat → Prop} {w : World} (x : Alt S w) : Chg S w x.out := x.2
theorem Alt.cell {S : Nat → Prop} {w : World} (x : Alt S w) {b o : Nat} {u : Value} (hb : ¬ S b) (hc : w.cell? ⟨b, o, none⟩ = some u) : x.out.cell? ⟨b, o, none⟩ = some u := x.2.cell hb hc
end Go.Proofs.YthlhmfjopjikpaaDoor
