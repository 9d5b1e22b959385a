/- Boxes in memory: a number's twelve digits; a sign and twelve digits; a wide number. What becomes of them as a world grows and is written. Boxes in memory of two to eight cells, whatever these hold: what becomes of them as a world grows and is written. Boxes in memory of any number of cells, whatever these hold. What becomes of them as a world grows and is written. -/
import Derived.Test.YtemcppakmcffgaaDoorExt
import Derived.Deep.MidRow
namespace Go.Proofs.YtemcppakmcffgaaDoor
open Go.RowKit Go.BigFrame
set_option linter.unusedSimpArgs false
set_option linter.unusedVariables false

theorem all12 {p : Nat → Prop} (h0 : p 0) (h1 : p 1) (h2 : p 2) (h3 : p 3) (h4 : p 4) (h5 : p 5) (h6 : p 6) (h7 : p 7) (h8 : p 8) (h9 : p 9) (h10 : p 10) (h11 : p 11) : ∀ i, i < 12 → p i := by
  intro i hi
  match i, hi with
  | 0, _ => exact h0 | 1, _ => exact h1 | 2, _ => exact h2 | 3, _ => exact h3 | 4, _ => exact h4 | 5, _ => exact h5 | 6, _ => exact h6 | 7, _ => exact h7 | 8, _ => exact h8 | 9, _ => exact h9 | 10, _ => exact h10 | 11, _ => exact h11
theorem frz_later {w w' : World} (h : Ext w w') {b : Nat} (hb : b < w.heap.size) (z : ∀ o, w.frozen? ⟨b, o, none⟩ = false) : ∀ o, w'.frozen? ⟨b, o, none⟩ = false := fun o => by rw [Below.frozen h hb]; exact z o
theorem frz_set {w : World} {b b' o' : Nat} {x : Value} (z : ∀ o, w.frozen? ⟨b, o, none⟩ = false) : ∀ o, (w.setCell ⟨b', o', none⟩ x).frozen? ⟨b, o, none⟩ = false := fun o => by have := z o; go_simp
theorem frz_new (w : World) (cs : Array Value) (t : TypeId) : ∀ o, (w.alloc (.cells cs t)).frozen? ⟨w.heap.size, o, none⟩ = false := fun o => by go_simp
theorem lt_set {w : World} {b : Nat} {p : Addr} {x : Value} (h : b < w.heap.size) : b < (w.setCell p x).heap.size := by simp only [World.setCell]; simpa using h
def upd (f : Nat → Int) (k : Nat) (x : Int) : Nat → Int := fun i => if i = k then x else f i

structure Dm (v : World) (b : Nat) (f : Nat → Int) : Prop where
  lt : b < v.heap.size
  fz : ∀ o, v.frozen? ⟨b, o, none⟩ = false
  dg : ∀ i, i < 12 → v.cell? ⟨b, i, none⟩ = some (.int .i64 (f i))

theorem Dm.later {v v' : World} {b : Nat} {f : Nat → Int} (e : Ext v v') (B : Dm v b f) : Dm v' b f :=
  ⟨Nat.lt_of_lt_of_le B.lt e.more, frz_later e B.lt B.fz, fun i hi => Ext.later e (B.dg i hi)⟩

theorem Dm.alloc {v : World} {b : Nat} {f : Nat → Int} (B : Dm v b f) (x : Obj) : Dm (v.alloc x) b f := B.later (Ext.alloc (Ext.refl v) x)

theorem Dm.drew {v : World} {b : Nat} {f : Nat → Int} (B : Dm v b f) : Dm v.drew b f := B.later (Ext.drew (Ext.refl v))

theorem Dm.drewN {v : World} {b : Nat} {f : Nat → Int} (B : Dm v b f) (n : Nat) : Dm (v.drewN n) b f := B.later (Ext.drewN (Ext.refl v) n)

theorem Dm.skip {v : World} {b b' o' : Nat} {x : Value} {f : Nat → Int} (hne : b' ≠ b) (B : Dm v b f) : Dm (v.setCell ⟨b', o', none⟩ x) b f :=
  ⟨lt_set B.lt, frz_set B.fz, fun i hi => cell_skip (.inl hne) (B.dg i hi)⟩

structure Nm (v : World) (b : Nat) (s : Bool) (f : Nat → Int) : Prop where
  lt : b < v.heap.size
  fz : ∀ o, v.frozen? ⟨b, o, none⟩ = false
  sg : v.cell? ⟨b, 0, none⟩ = some (.bool s)
  dg : ∀ i, i < 12 → v.cell? ⟨b, i + 1, none⟩ = some (.int .i64 (f i))

theorem Nm.later {v v' : World} {b : Nat} {s : Bool} {f : Nat → Int} (e : Ext v v') (B : Nm v b s f) : Nm v' b s f :=
  ⟨Nat.lt_of_lt_of_le B.lt e.more, frz_later e B.lt B.fz, Ext.later e (B.sg), fun i hi => Ext.later e (B.dg i hi)⟩

theorem Nm.alloc {v : World} {b : Nat} {s : Bool} {f : Nat → Int} (B : Nm v b s f) (x : Obj) : Nm (v.alloc x) b s f := B.later (Ext.alloc (Ext.refl v) x)

theorem Nm.drew {v : World} {b : Nat} {s : Bool} {f : Nat → Int} (B : Nm v b s f) : Nm v.drew b s f := B.later (Ext.drew (Ext.refl v))

theorem Nm.drewN {v : World} {b : Nat} {s : Bool} {f : Nat → Int} (B : Nm v b s f) (n : Nat) : Nm (v.drewN n) b s f := B.later (Ext.drewN (Ext.refl v) n)

theorem Nm.skip {v : World} {b b' o' : Nat} {x : Value} {s : Bool} {f : Nat → Int} (hne : b' ≠ b) (B : Nm v b s f) : Nm (v.setCell ⟨b', o', none⟩ x) b s f :=
  ⟨lt_set B.lt, frz_set B.fz, cell_skip (.inl hne) (B.sg), fun i hi => cell_skip (.inl hne) (B.dg i hi)⟩

structure Wm (v : World) (b : Nat) (h l : Int) : Prop where
  lt : b < v.heap.size
  fz : ∀ o, v.frozen? ⟨b, o, none⟩ = false
  hi : v.cell? ⟨b, 0, none⟩ = some (.int .i64 h)
  lo : v.cell? ⟨b, 1, none⟩ = some (.int .u64 l)

theorem Wm.later {v v' : World} {b : Nat} {h l : Int} (e : Ext v v') (B : Wm v b h l) : Wm v' b h l :=
  ⟨Nat.lt_of_lt_of_le B.lt e.more, frz_later e B.lt B.fz, Ext.later e (B.hi), Ext.later e (B.lo)⟩

theorem Wm.alloc {v : World} {b : Nat} {h l : Int} (B : Wm v b h l) (x : Obj) : Wm (v.alloc x) b h l := B.later (Ext.alloc (Ext.refl v) x)

theorem Wm.drew {v : World} {b : Nat} {h l : Int} (B : Wm v b h l) : Wm v.drew b h l := B.later (Ext.drew (Ext.refl v))

theorem Wm.drewN {v : World} {b : Nat} {h l : Int} (B : Wm v b h l) (n : Nat) : Wm (v.drewN n) b h l := B.later (Ext.drewN (Ext.refl v) n)

theorem Wm.skip {v : World} {b b' o' : Nat} {x : Value} {h l : Int} (hne : b' ≠ b) (B : Wm v b h l) : Wm (v.setCell ⟨b', o', none⟩ x) b h l :=
  ⟨lt_set B.lt, frz_set B.fz, cell_skip (.inl hne) (B.hi), cell_skip (.inl hne) (B.lo)⟩

def DmAny (v : World) (b : Nat) : Prop := ∃ f, Dm v b f
theorem Dm.any {v : World} {b : Nat} {f : Nat → Int} (B : Dm v b f) : DmAny v b := ⟨f, B⟩
theorem DmAny.alloc {v : World} {b : Nat} (h : DmAny v b) (x : Obj) : DmAny (v.alloc x) b := by
  obtain ⟨f, B⟩ := h; exact ⟨f, B.alloc x⟩
theorem DmAny.drew {v : World} {b : Nat} (h : DmAny v b)  : DmAny v.drew b := by
  obtain ⟨f, B⟩ := h; exact ⟨f, B.drew⟩
theorem DmAny.drewN {v : World} {b : Nat} (h : DmAny v b) (n : Nat) : DmAny (v.drewN n) b := by
  obtain ⟨f, B⟩ := h; exact ⟨f, B.drewN n⟩
theorem DmAny.skip {v : World} {b b' o' : Nat} {x : Value} (hne : b' ≠ b) (h : DmAny v b) : DmAny (v.setCell ⟨b', o', none⟩ x) b := by
  obtain ⟨f, B⟩ := h; exact ⟨f, B.skip hne⟩
def NmAny (v : World) (b : Nat) : Prop := ∃ s f, Nm v b s f
theorem Nm.any {v : World} {b : Nat} {s : Bool} {f : Nat → Int} (B : Nm v b s f) : NmAny v b := ⟨s, f, B⟩
theorem NmAny.alloc {v : World} {b : Nat} (h : NmAny v b) (x : Obj) : NmAny (v.alloc x) b := by
  obtain ⟨s, f, B⟩ := h; exact ⟨s, f, B.alloc x⟩
theorem NmAny.drew {v : World} {b : Nat} (h : NmAny v b)  : NmAny v.drew b := by
  obtain ⟨s, f, B⟩ := h; exact ⟨s, f, B.drew⟩
theorem NmAny.drewN {v : World} {b : Nat} (h : NmAny v b) (n : Nat) : NmAny (v.drewN n) b := by
  obtain ⟨s, f, B⟩ := h; exact ⟨s, f, B.drewN n⟩
theorem NmAny.skip {v : World} {b b' o' : Nat} {x : Value} (hne : b' ≠ b) (h : NmAny v b) : NmAny (v.setCell ⟨b', o', none⟩ x) b := by
  obtain ⟨s, f, B⟩ := h; exact ⟨s, f, B.skip hne⟩
def WmAny (v : World) (b : Nat) : Prop := ∃ h l, Wm v b h l
theorem Wm.any {v : World} {b : Nat} {h l : Int} (B : Wm v b h l) : WmAny v b := ⟨h, l, B⟩
theorem WmAny.alloc {v : World} {b : Nat} (h : WmAny v b) (x : Obj) : WmAny (v.alloc x) b := by
  obtain ⟨s, f, B⟩ := h; exact ⟨s, f, B.alloc x⟩
theorem WmAny.drew {v : World} {b : Nat} (h : WmAny v b)  : WmAny v.drew b := by
  obtain ⟨s, f, B⟩ := h; exact ⟨s, f, B.drew⟩
theorem WmAny.drewN {v : World} {b : Nat} (h : WmAny v b) (n : Nat) : WmAny (v.drewN n) b := by
  obtain ⟨s, f, B⟩ := h; exact ⟨s, f, B.drewN n⟩
theorem WmAny.skip {v : World} {b b' o' : Nat} {x : Value} (hne : b' ≠ b) (h : WmAny v b) : WmAny (v.setCell ⟨b', o', none⟩ x) b := by
  obtain ⟨s, f, B⟩ := h; exact ⟨s, f, B.skip hne⟩
theorem Dm.new {v : World} {b : Nat} {f : Nat → Int} {cs : Array Value} {t : TypeId} (hb : v.heap.size = b) (h : ∀ i, i < 12 → cs[i]? = some (.int .i64 (f i))) : Dm (v.alloc (.cells cs t)) b f := by
  subst hb; exact ⟨by simp, frz_new _ _ _, fun i hi => new1 (h i hi)⟩
theorem Nm.new {v : World} {b : Nat} {s : Bool} {f : Nat → Int} {cs : Array Value} {t : TypeId} (hb : v.heap.size = b) (h0 : cs[0]? = some (.bool s)) (h : ∀ i, i < 12 → cs[i + 1]? = some (.int .i64 (f i))) : Nm (v.alloc (.cells cs t)) b s f := by
  subst hb; exact ⟨by simp, frz_new _ _ _, new1 h0, fun i hi => new1 (h i hi)⟩
theorem Wm.new {v : World} {b : Nat} {x y : Int} {cs : Array Value} {t : TypeId} (hb : v.heap.size = b) (h0 : cs[0]? = some (.int .i64 x)) (h1 : cs[1]? = some (.int .u64 y)) : Wm (v.alloc (.cells cs t)) b x y := by
  subst hb; exact ⟨by simp, frz_new _ _ _, new1 h0, new1 h1⟩
theorem Dm.eq {v : World} {b : Nat} {f g : Nat → Int} (B : Dm v b f) (h : ∀ i, i < 12 → f i = g i) : Dm v b g := ⟨B.lt, B.fz, fun i hi => by rw [B.dg i hi, h i hi]⟩
theorem Nm.eq {v : World} {b : Nat} {s : Bool} {f g : Nat → Int} (B : Nm v b s f) (h : ∀ i, i < 12 → f i = g i) : Nm v b s g := ⟨B.lt, B.fz, B.sg, fun i hi => by rw [B.dg i hi, h i hi]⟩
theorem Dm.set {v : World} {b : Nat} {f : Nat → Int} (B : Dm v b f) (k : Nat) (x : Int) : Dm (v.setCell ⟨b, k, none⟩ (.int .i64 x)) b (upd f k x) :=
  ⟨lt_set B.lt, frz_set B.fz, fun i hi => by
    unfold upd
    by_cases h : i = k
    · subst h; rw [if_pos rfl]; exact cell_same (There.of (B.dg i hi))
    · rw [if_neg h]; exact cell_skip (.inr (by omega)) (B.dg i hi)⟩
theorem Nm.set {v : World} {b : Nat} {s : Bool} {f : Nat → Int} (B : Nm v b s f) (k : Nat) (x : Int) : Nm (v.setCell ⟨b, k + 1, none⟩ (.int .i64 x)) b s (upd f k x) :=
  ⟨lt_set B.lt, frz_set B.fz, cell_skip (.inr (by omega)) B.sg, fun i hi => by
    unfold upd
    by_cases h : i = k
    · subst h; rw [if_pos rfl]; exact cell_same (There.of (B.dg i hi))
    · rw [if_neg h]; exact cell_skip (.inr (by omega)) (B.dg i hi)⟩
theorem Nm.sign {v : World} {b : Nat} {s : Bool} {f : Nat → Int} (B : Nm v b s f) (t : Bool) : Nm (v.setCell ⟨b, 0, none⟩ (.bool t)) b t f :=
  ⟨lt_set B.lt, frz_set B.fz, cell_same (There.of B.sg), fun i hi => cell_skip (.inr (by omega)) (B.dg i hi)⟩
theorem Wm.setHi {v : World} {b : Nat} {h l : Int} (B : Wm v b h l) (x : Int) : Wm (v.setCell ⟨b, 0, none⟩ (.int .i64 x)) b x l := ⟨lt_set B.lt, frz_set B.fz, cell_same (There.of B.hi), cell_skip (.inr (by omega)) B.lo⟩
theorem Wm.setLo {v : World} {b : Nat} {h l : Int} (B : Wm v b h l) (x : Int) : Wm (v.setCell ⟨b, 1, none⟩ (.int .u64 x)) b h x := ⟨lt_set B.lt, frz_set B.fz, cell_skip (.inr (by omega)) B.hi, cell_same (There.of B.lo)⟩
theorem Wm.store {v : World} {b : Nat} (H : WmAny v b) (x y : Int) : Wm ((v.setCell ⟨b, 0, none⟩ (.int .i64 x)).setCell ⟨b, 1, none⟩ (.int .u64 y)) b x y := by
  obtain ⟨h, l, B⟩ := H; exact (B.setHi x).setLo y

theorem upd12 {f g : Nat → Int} : ∀ i, i < 12 → (upd (upd (upd (upd (upd (upd (upd (upd (upd (upd (upd (upd (f) 0 (g 0)) 1 (g 1)) 2 (g 2)) 3 (g 3)) 4 (g 4)) 5 (g 5)) 6 (g 6)) 7 (g 7)) 8 (g 8)) 9 (g 9)) 10 (g 10)) 11 (g 11)) i = g i := all12 rfl rfl rfl rfl rfl rfl rfl rfl rfl rfl rfl rfl

theorem Dm.store {v : World} {b : Nat} {g : Nat → Int} {x0 x1 x2 x3 x4 x5 x6 x7 x8 x9 x10 x11 : Value} (H : DmAny v b) (h0 : x0 = .int .i64 (g 0)) (h1 : x1 = .int .i64 (g 1)) (h2 : x2 = .int .i64 (g 2)) (h3 : x3 = .int .i64 (g 3)) (h4 : x4 = .int .i64 (g 4)) (h5 : x5 = .int .i64 (g 5)) (h6 : x6 = .int .i64 (g 6)) (h7 : x7 = .int .i64 (g 7)) (h8 : x8 = .int .i64 (g 8)) (h9 : x9 = .int .i64 (g 9)) (h10 : x10 = .int .i64 (g 10)) (h11 : x11 = .int .i64 (g 11)) : Dm ((((((((((((v.setCell ⟨b, 0, none⟩ x0).setCell ⟨b, 1, none⟩ x1).setCell ⟨b, 2, none⟩ x2).setCell ⟨b, 3, none⟩ x3).setCell ⟨b, 4, none⟩ x4).setCell ⟨b, 5, none⟩ x5).setCell ⟨b, 6, none⟩ x6).setCell ⟨b, 7, none⟩ x7).setCell ⟨b, 8, none⟩ x8).setCell ⟨b, 9, none⟩ x9).setCell ⟨b, 10, none⟩ x10).setCell ⟨b, 11, none⟩ x11) b g := by
  obtain ⟨f, B⟩ := H
  subst h0 h1 h2 h3 h4 h5 h6 h7 h8 h9 h10 h11
  exact (((((((((((((B.set 0 (g 0)).set 1 (g 1)).set 2 (g 2)).set 3 (g 3)).set 4 (g 4)).set 5 (g 5)).set 6 (g 6)).set 7 (g 7)).set 8 (g 8)).set 9 (g 9)).set 10 (g 10)).set 11 (g 11))).eq upd12

theorem Nm.digits {v : World} {b : Nat} {s : Bool} {f g : Nat → Int} {x0 x1 x2 x3 x4 x5 x6 x7 x8 x9 x10 x11 : Value} (B : Nm v b s f) (h0 : x0 = .int .i64 (g 0)) (h1 : x1 = .int .i64 (g 1)) (h2 : x2 = .int .i64 (g 2)) (h3 : x3 = .int .i64 (g 3)) (h4 : x4 = .int .i64 (g 4)) (h5 : x5 = .int .i64 (g 5)) (h6 : x6 = .int .i64 (g 6)) (h7 : x7 = .int .i64 (g 7)) (h8 : x8 = .int .i64 (g 8)) (h9 : x9 = .int .i64 (g 9)) (h10 : x10 = .int .i64 (g 10)) (h11 : x11 = .int .i64 (g 11)) : Nm ((((((((((((v.setCell ⟨b, 1, none⟩ x0).setCell ⟨b, 2, none⟩ x1).setCell ⟨b, 3, none⟩ x2).setCell ⟨b, 4, none⟩ x3).setCell ⟨b, 5, none⟩ x4).setCell ⟨b, 6, none⟩ x5).setCell ⟨b, 7, none⟩ x6).setCell ⟨b, 8, none⟩ x7).setCell ⟨b, 9, none⟩ x8).setCell ⟨b, 10, none⟩ x9).setCell ⟨b, 11, none⟩ x10).setCell ⟨b, 12, none⟩ x11) b s g := by
  subst h0 h1 h2 h3 h4 h5 h6 h7 h8 h9 h10 h11
  exact (((((((((((((B.set 0 (g 0)).set 1 (g 1)).set 2 (g 2)).set 3 (g 3)).set 4 (g 4)).set 5 (g 5)).set 6 (g 6)).set 7 (g 7)).set 8 (g 8)).set 9 (g 9)).set 10 (g 10)).set 11 (g 11))).eq upd12

theorem Nm.store {v : World} {b : Nat} {t : Bool} {g : Nat → Int} {y x0 x1 x2 x3 x4 x5 x6 x7 x8 x9 x10 x11 : Value} (H : NmAny v b) (hy : y = .bool t) (h0 : x0 = .int .i64 (g 0)) (h1 : x1 = .int .i64 (g 1)) (h2 : x2 = .int .i64 (g 2)) (h3 : x3 = .int .i64 (g 3)) (h4 : x4 = .int .i64 (g 4)) (h5 : x5 = .int .i64 (g 5)) (h6 : x6 = .int .i64 (g 6)) (h7 : x7 = .int .i64 (g 7)) (h8 : x8 = .int .i64 (g 8)) (h9 : x9 = .int .i64 (g 9)) (h10 : x10 = .int .i64 (g 10)) (h11 : x11 = .int .i64 (g 11)) : Nm (((((((((((((v.setCell ⟨b, 0, none⟩ y).setCell ⟨b, 1, none⟩ x0).setCell ⟨b, 2, none⟩ x1).setCell ⟨b, 3, none⟩ x2).setCell ⟨b, 4, none⟩ x3).setCell ⟨b, 5, none⟩ x4).setCell ⟨b, 6, none⟩ x5).setCell ⟨b, 7, none⟩ x6).setCell ⟨b, 8, none⟩ x7).setCell ⟨b, 9, none⟩ x8).setCell ⟨b, 10, none⟩ x9).setCell ⟨b, 11, none⟩ x10).setCell ⟨b, 12, none⟩ x11) b t g := by
  obtain ⟨s, f, B⟩ := H
  subst hy
  exact (B.sign t).digits h0 h1 h2 h3 h4 h5 h6 h7 h8 h9 h10 h11

end Go.Proofs.YtemcppakmcffgaaDoor

namespace Go.Proofs.YtemcppakmcffgaaDoor
open Go.RowKit Go.BigFrame
set_option linter.unusedSimpArgs false
set_option linter.unusedVariables false

structure S2m (v : World) (b : Nat) (x0 x1 : Value) : Prop where
  lt : b < v.heap.size
  fz : ∀ o, v.frozen? ⟨b, o, none⟩ = false
  c0 : v.cell? ⟨b, 0, none⟩ = some x0
  c1 : v.cell? ⟨b, 1, none⟩ = some x1

theorem S2m.later {v v' : World} {b : Nat} {x0 x1 : Value} (e : Ext v v') (B : S2m v b x0 x1) : S2m v' b x0 x1 :=
  ⟨Nat.lt_of_lt_of_le B.lt e.more, frz_later e B.lt B.fz, Ext.later e B.c0, Ext.later e B.c1⟩
theorem S2m.alloc {v : World} {b : Nat} {x0 x1 : Value} (B : S2m v b x0 x1) (x : Obj) : S2m (v.alloc x) b x0 x1 := B.later (Ext.alloc (Ext.refl v) x)
theorem S2m.drew {v : World} {b : Nat} {x0 x1 : Value} (B : S2m v b x0 x1) : S2m v.drew b x0 x1 := B.later (Ext.drew (Ext.refl v))
theorem S2m.drewN {v : World} {b : Nat} {x0 x1 : Value} (B : S2m v b x0 x1) (n : Nat) : S2m (v.drewN n) b x0 x1 := B.later (Ext.drewN (Ext.refl v) n)
theorem S2m.skip {v : World} {b b' o' : Nat} {x : Value} {x0 x1 : Value} (hne : b' ≠ b) (B : S2m v b x0 x1) : S2m (v.setCell ⟨b', o', none⟩ x) b x0 x1 :=
  ⟨lt_set B.lt, frz_set B.fz, cell_skip (.inl hne) B.c0, cell_skip (.inl hne) B.c1⟩
def S2mAny (v : World) (b : Nat) : Prop := ∃ x0 x1, S2m v b x0 x1
theorem S2m.any {v : World} {b : Nat} {x0 x1 : Value} (B : S2m v b x0 x1) : S2mAny v b := ⟨x0, x1, B⟩
theorem S2mAny.alloc {v : World} {b : Nat} (h : S2mAny v b) (x : Obj) : S2mAny (v.alloc x) b := by
  obtain ⟨x0, x1, B⟩ := h; exact ⟨x0, x1, B.alloc x⟩
theorem S2mAny.drew {v : World} {b : Nat} (h : S2mAny v b)  : S2mAny v.drew b := by
  obtain ⟨x0, x1, B⟩ := h; exact ⟨x0, x1, B.drew⟩
theorem S2mAny.drewN {v : World} {b : Nat} (h : S2mAny v b) (n : Nat) : S2mAny (v.drewN n) b := by
  obtain ⟨x0, x1, B⟩ := h; exact ⟨x0, x1, B.drewN n⟩
theorem S2mAny.skip {v : World} {b b' o' : Nat} {x : Value} (hne : b' ≠ b) (h : S2mAny v b) : S2mAny (v.setCell ⟨b', o', none⟩ x) b := by
  obtain ⟨x0, x1, B⟩ := h; exact ⟨x0, x1, B.skip hne⟩
theorem S2m.new {v : World} {b : Nat} {x0 x1 : Value} {cs : Array Value} {t : TypeId} (hb : v.heap.size = b) (h0 : cs[0]? = some x0) (h1 : cs[1]? = some x1) : S2m (v.alloc (.cells cs t)) b x0 x1 := by
  subst hb; exact ⟨by simp, frz_new _ _ _, new1 h0, new1 h1⟩
theorem S2m.set0 {v : World} {b : Nat} {x0 x1 : Value} (B : S2m v b x0 x1) (y : Value) : S2m (v.setCell ⟨b, 0, none⟩ y) b y x1 :=
  ⟨lt_set B.lt, frz_set B.fz, cell_same (There.of B.c0), cell_skip (.inr (by decide)) B.c1⟩
theorem S2m.set1 {v : World} {b : Nat} {x0 x1 : Value} (B : S2m v b x0 x1) (y : Value) : S2m (v.setCell ⟨b, 1, none⟩ y) b x0 y :=
  ⟨lt_set B.lt, frz_set B.fz, cell_skip (.inr (by decide)) B.c0, cell_same (There.of B.c1)⟩
theorem S2m.store {v : World} {b : Nat} {y0 y1 : Value} (H : S2mAny v b) : S2m ((v.setCell ⟨b, 0, none⟩ y0).setCell ⟨b, 1, none⟩ y1) b y0 y1 := by
  obtain ⟨x0, x1, B⟩ := H; exact ((B).set0 y0).set1 y1
structure S3m (v : World) (b : Nat) (x0 x1 x2 : Value) : Prop where
  lt : b < v.heap.size
  fz : ∀ o, v.frozen? ⟨b, o, none⟩ = false
  c0 : v.cell? ⟨b, 0, none⟩ = some x0
  c1 : v.cell? ⟨b, 1, none⟩ = some x1
  c2 : v.cell? ⟨b, 2, none⟩ = some x2

theorem S3m.later {v v' : World} {b : Nat} {x0 x1 x2 : Value} (e : Ext v v') (B : S3m v b x0 x1 x2) : S3m v' b x0 x1 x2 :=
  ⟨Nat.lt_of_lt_of_le B.lt e.more, frz_later e B.lt B.fz, Ext.later e B.c0, Ext.later e B.c1, Ext.later e B.c2⟩
theorem S3m.alloc {v : World} {b : Nat} {x0 x1 x2 : Value} (B : S3m v b x0 x1 x2) (x : Obj) : S3m (v.alloc x) b x0 x1 x2 := B.later (Ext.alloc (Ext.refl v) x)
theorem S3m.drew {v : World} {b : Nat} {x0 x1 x2 : Value} (B : S3m v b x0 x1 x2) : S3m v.drew b x0 x1 x2 := B.later (Ext.drew (Ext.refl v))
theorem S3m.drewN {v : World} {b : Nat} {x0 x1 x2 : Value} (B : S3m v b x0 x1 x2) (n : Nat) : S3m (v.drewN n) b x0 x1 x2 := B.later (Ext.drewN (Ext.refl v) n)
theorem S3m.skip {v : World} {b b' o' : Nat} {x : Value} {x0 x1 x2 : Value} (hne : b' ≠ b) (B : S3m v b x0 x1 x2) : S3m (v.setCell ⟨b', o', none⟩ x) b x0 x1 x2 :=
  ⟨lt_set B.lt, frz_set B.fz, cell_skip (.inl hne) B.c0, cell_skip (.inl hne) B.c1, cell_skip (.inl hne) B.c2⟩
def S3mAny (v : World) (b : Nat) : Prop := ∃ x0 x1 x2, S3m v b x0 x1 x2
theorem S3m.any {v : World} {b : Nat} {x0 x1 x2 : Value} (B : S3m v b x0 x1 x2) : S3mAny v b := ⟨x0, x1, x2, B⟩
theorem S3mAny.alloc {v : World} {b : Nat} (h : S3mAny v b) (x : Obj) : S3mAny (v.alloc x) b := by
  obtain ⟨x0, x1, x2, B⟩ := h; exact ⟨x0, x1, x2, B.alloc x⟩
theorem S3mAny.drew {v : World} {b : Nat} (h : S3mAny v b)  : S3mAny v.drew b := by
  obtain ⟨x0, x1, x2, B⟩ := h; exact ⟨x0, x1, x2, B.drew⟩
theorem S3mAny.drewN {v : World} {b : Nat} (h : S3mAny v b) (n : Nat) : S3mAny (v.drewN n) b := by
  obtain ⟨x0, x1, x2, B⟩ := h; exact ⟨x0, x1, x2, B.drewN n⟩
theorem S3mAny.skip {v : World} {b b' o' : Nat} {x : Value} (hne : b' ≠ b) (h : S3mAny v b) : S3mAny (v.setCell ⟨b', o', none⟩ x) b := by
  obtain ⟨x0, x1, x2, B⟩ := h; exact ⟨x0, x1, x2, B.skip hne⟩
theorem S3m.new {v : World} {b : Nat} {x0 x1 x2 : Value} {cs : Array Value} {t : TypeId} (hb : v.heap.size = b) (h0 : cs[0]? = some x0) (h1 : cs[1]? = some x1) (h2 : cs[2]? = some x2) : S3m (v.alloc (.cells cs t)) b x0 x1 x2 := by
  subst hb; exact ⟨by simp, frz_new _ _ _, new1 h0, new1 h1, new1 h2⟩
theorem S3m.set0 {v : World} {b : Nat} {x0 x1 x2 : Value} (B : S3m v b x0 x1 x2) (y : Value) : S3m (v.setCell ⟨b, 0, none⟩ y) b y x1 x2 :=
  ⟨lt_set B.lt, frz_set B.fz, cell_same (There.of B.c0), cell_skip (.inr (by decide)) B.c1, cell_skip (.inr (by decide)) B.c2⟩
theorem S3m.set1 {v : World} {b : Nat} {x0 x1 x2 : Value} (B : S3m v b x0 x1 x2) (y : Value) : S3m (v.setCell ⟨b, 1, none⟩ y) b x0 y x2 :=
  ⟨lt_set B.lt, frz_set B.fz, cell_skip (.inr (by decide)) B.c0, cell_same (There.of B.c1), cell_skip (.inr (by decide)) B.c2⟩
theorem S3m.set2 {v : World} {b : Nat} {x0 x1 x2 : Value} (B : S3m v b x0 x1 x2) (y : Value) : S3m (v.setCell ⟨b, 2, none⟩ y) b x0 x1 y :=
  ⟨lt_set B.lt, frz_set B.fz, cell_skip (.inr (by decide)) B.c0, cell_skip (.inr (by decide)) B.c1, cell_same (There.of B.c2)⟩
theorem S3m.store {v : World} {b : Nat} {y0 y1 y2 : Value} (H : S3mAny v b) : S3m (((v.setCell ⟨b, 0, none⟩ y0).setCell ⟨b, 1, none⟩ y1).setCell ⟨b, 2, none⟩ y2) b y0 y1 y2 := by
  obtain ⟨x0, x1, x2, B⟩ := H; exact (((B).set0 y0).set1 y1).set2 y2
structure S4m (v : World) (b : Nat) (x0 x1 x2 x3 : Value) : Prop where
  lt : b < v.heap.size
  fz : ∀ o, v.frozen? ⟨b, o, none⟩ = false
  c0 : v.cell? ⟨b, 0, none⟩ = some x0
  c1 : v.cell? ⟨b, 1, none⟩ = some x1
  c2 : v.cell? ⟨b, 2, none⟩ = some x2
  c3 : v.cell? ⟨b, 3, none⟩ = some x3

theorem S4m.later {v v' : World} {b : Nat} {x0 x1 x2 x3 : Value} (e : Ext v v') (B : S4m v b x0 x1 x2 x3) : S4m v' b x0 x1 x2 x3 :=
  ⟨Nat.lt_of_lt_of_le B.lt e.more, frz_later e B.lt B.fz, Ext.later e B.c0, Ext.later e B.c1, Ext.later e B.c2, Ext.later e B.c3⟩
theorem S4m.alloc {v : World} {b : Nat} {x0 x1 x2 x3 : Value} (B : S4m v b x0 x1 x2 x3) (x : Obj) : S4m (v.alloc x) b x0 x1 x2 x3 := B.later (Ext.alloc (Ext.refl v) x)
theorem S4m.drew {v : World} {b : Nat} {x0 x1 x2 x3 : Value} (B : S4m v b x0 x1 x2 x3) : S4m v.drew b x0 x1 x2 x3 := B.later (Ext.drew (Ext.refl v))
theorem S4m.drewN {v : World} {b : Nat} {x0 x1 x2 x3 : Value} (B : S4m v b x0 x1 x2 x3) (n : Nat) : S4m (v.drewN n) b x0 x1 x2 x3 := B.later (Ext.drewN (Ext.refl v) n)
theorem S4m.skip {v : World} {b b' o' : Nat} {x : Value} {x0 x1 x2 x3 : Value} (hne : b' ≠ b) (B : S4m v b x0 x1 x2 x3) : S4m (v.setCell ⟨b', o', none⟩ x) b x0 x1 x2 x3 :=
  ⟨lt_set B.lt, frz_set B.fz, cell_skip (.inl hne) B.c0, cell_skip (.inl hne) B.c1, cell_skip (.inl hne) B.c2, cell_skip (.inl hne) B.c3⟩
def S4mAny (v : World) (b : Nat) : Prop := ∃ x0 x1 x2 x3, S4m v b x0 x1 x2 x3
theorem S4m.any {v : World} {b : Nat} {x0 x1 x2 x3 : Value} (B : S4m v b x0 x1 x2 x3) : S4mAny v b := ⟨x0, x1, x2, x3, B⟩
theorem S4mAny.alloc {v : World} {b : Nat} (h : S4mAny v b) (x : Obj) : S4mAny (v.alloc x) b := by
  obtain ⟨x0, x1, x2, x3, B⟩ := h; exact ⟨x0, x1, x2, x3, B.alloc x⟩
theorem S4mAny.drew {v : World} {b : Nat} (h : S4mAny v b)  : S4mAny v.drew b := by
  obtain ⟨x0, x1, x2, x3, B⟩ := h; exact ⟨x0, x1, x2, x3, B.drew⟩
theorem S4mAny.drewN {v : World} {b : Nat} (h : S4mAny v b) (n : Nat) : S4mAny (v.drewN n) b := by
  obtain ⟨x0, x1, x2, x3, B⟩ := h; exact ⟨x0, x1, x2, x3, B.drewN n⟩
theorem S4mAny.skip {v : World} {b b' o' : Nat} {x : Value} (hne : b' ≠ b) (h : S4mAny v b) : S4mAny (v.setCell ⟨b', o', none⟩ x) b := by
  obtain ⟨x0, x1, x2, x3, B⟩ := h; exact ⟨x0, x1, x2, x3, B.skip hne⟩
theorem S4m.new {v : World} {b : Nat} {x0 x1 x2 x3 : Value} {cs : Array Value} {t : TypeId} (hb : v.heap.size = b) (h0 : cs[0]? = some x0) (h1 : cs[1]? = some x1) (h2 : cs[2]? = some x2) (h3 : cs[3]? = some x3) : S4m (v.alloc (.cells cs t)) b x0 x1 x2 x3 := by
  subst hb; exact ⟨by simp, frz_new _ _ _, new1 h0, new1 h1, new1 h2, new1 h3⟩
theorem S4m.set0 {v : World} {b : Nat} {x0 x1 x2 x3 : Value} (B : S4m v b x0 x1 x2 x3) (y : Value) : S4m (v.setCell ⟨b, 0, none⟩ y) b y x1 x2 x3 :=
  ⟨lt_set B.lt, frz_set B.fz, cell_same (There.of B.c0), cell_skip (.inr (by decide)) B.c1, cell_skip (.inr (by decide)) B.c2, cell_skip (.inr (by decide)) B.c3⟩
theorem S4m.set1 {v : World} {b : Nat} {x0 x1 x2 x3 : Value} (B : S4m v b x0 x1 x2 x3) (y : Value) : S4m (v.setCell ⟨b, 1, none⟩ y) b x0 y x2 x3 :=
  ⟨lt_set B.lt, frz_set B.fz, cell_skip (.inr (by decide)) B.c0, cell_same (There.of B.c1), cell_skip (.inr (by decide)) B.c2, cell_skip (.inr (by decide)) B.c3⟩
theorem S4m.set2 {v : World} {b : Nat} {x0 x1 x2 x3 : Value} (B : S4m v b x0 x1 x2 x3) (y : Value) : S4m (v.setCell ⟨b, 2, none⟩ y) b x0 x1 y x3 :=
  ⟨lt_set B.lt, frz_set B.fz, cell_skip (.inr (by decide)) B.c0, cell_skip (.inr (by decide)) B.c1, cell_same (There.of B.c2), cell_skip (.inr (by decide)) B.c3⟩
theorem S4m.set3 {v : World} {b : Nat} {x0 x1 x2 x3 : Value} (B : S4m v b x0 x1 x2 x3) (y : Value) : S4m (v.setCell ⟨b, 3, none⟩ y) b x0 x1 x2 y :=
  ⟨lt_set B.lt, frz_set B.fz, cell_skip (.inr (by decide)) B.c0, cell_skip (.inr (by decide)) B.c1, cell_skip (.inr (by decide)) B.c2, cell_same (There.of B.c3)⟩
theorem S4m.store {v : World} {b : Nat} {y0 y1 y2 y3 : Value} (H : S4mAny v b) : S4m ((((v.setCell ⟨b, 0, none⟩ y0).setCell ⟨b, 1, none⟩ y1).setCell ⟨b, 2, none⟩ y2).setCell ⟨b, 3, none⟩ y3) b y0 y1 y2 y3 := by
  obtain ⟨x0, x1, x2, x3, B⟩ := H; exact ((((B).set0 y0).set1 y1).set2 y2).set3 y3
structure S5m (v : World) (b : Nat) (x0 x1 x2 x3 x4 : Value) : Prop where
  lt : b < v.heap.size
  fz : ∀ o, v.frozen? ⟨b, o, none⟩ = false
  c0 : v.cell? ⟨b, 0, none⟩ = some x0
  c1 : v.cell? ⟨b, 1, none⟩ = some x1
  c2 : v.cell? ⟨b, 2, none⟩ = some x2
  c3 : v.cell? ⟨b, 3, none⟩ = some x3
  c4 : v.cell? ⟨b, 4, none⟩ = some x4

theorem S5m.later {v v' : World} {b : Nat} {x0 x1 x2 x3 x4 : Value} (e : Ext v v') (B : S5m v b x0 x1 x2 x3 x4) : S5m v' b x0 x1 x2 x3 x4 :=
  ⟨Nat.lt_of_lt_of_le B.lt e.more, frz_later e B.lt B.fz, Ext.later e B.c0, Ext.later e B.c1, Ext.later e B.c2, Ext.later e B.c3, Ext.later e B.c4⟩
theorem S5m.alloc {v : World} {b : Nat} {x0 x1 x2 x3 x4 : Value} (B : S5m v b x0 x1 x2 x3 x4) (x : Obj) : S5m (v.alloc x) b x0 x1 x2 x3 x4 := B.later (Ext.alloc (Ext.refl v) x)
theorem S5m.drew {v : World} {b : Nat} {x0 x1 x2 x3 x4 : Value} (B : S5m v b x0 x1 x2 x3 x4) : S5m v.drew b x0 x1 x2 x3 x4 := B.later (Ext.drew (Ext.refl v))
theorem S5m.drewN {v : World} {b : Nat} {x0 x1 x2 x3 x4 : Value} (B : S5m v b x0 x1 x2 x3 x4) (n : Nat) : S5m (v.drewN n) b x0 x1 x2 x3 x4 := B.later (Ext.drewN (Ext.refl v) n)
theorem S5m.skip {v : World} {b b' o' : Nat} {x : Value} {x0 x1 x2 x3 x4 : Value} (hne : b' ≠ b) (B : S5m v b x0 x1 x2 x3 x4) : S5m (v.setCell ⟨b', o', none⟩ x) b x0 x1 x2 x3 x4 :=
  ⟨lt_set B.lt, frz_set B.fz, cell_skip (.inl hne) B.c0, cell_skip (.inl hne) B.c1, cell_skip (.inl hne) B.c2, cell_skip (.inl hne) B.c3, cell_skip (.inl hne) B.c4⟩
def S5mAny (v : World) (b : Nat) : Prop := ∃ x0 x1 x2 x3 x4, S5m v b x0 x1 x2 x3 x4
theorem S5m.any {v : World} {b : Nat} {x0 x1 x2 x3 x4 : Value} (B : S5m v b x0 x1 x2 x3 x4) : S5mAny v b := ⟨x0, x1, x2, x3, x4, B⟩
theorem S5mAny.alloc {v : World} {b : Nat} (h : S5mAny v b) (x : Obj) : S5mAny (v.alloc x) b := by
  obtain ⟨x0, x1, x2, x3, x4, B⟩ := h; exact ⟨x0, x1, x2, x3, x4, B.alloc x⟩
theorem S5mAny.drew {v : World} {b : Nat} (h : S5mAny v b)  : S5mAny v.drew b := by
  obtain ⟨x0, x1, x2, x3, x4, B⟩ := h; exact ⟨x0, x1, x2, x3, x4, B.drew⟩
theorem S5mAny.drewN {v : World} {b : Nat} (h : S5mAny v b) (n : Nat) : S5mAny (v.drewN n) b := by
  obtain ⟨x0, x1, x2, x3, x4, B⟩ := h; exact ⟨x0, x1, x2, x3, x4, B.drewN n⟩
theorem S5mAny.skip {v : World} {b b' o' : Nat} {x : Value} (hne : b' ≠ b) (h : S5mAny v b) : S5mAny (v.setCell ⟨b', o', none⟩ x) b := by
  obtain ⟨x0, x1, x2, x3, x4, B⟩ := h; exact ⟨x0, x1, x2, x3, x4, B.skip hne⟩
theorem S5m.new {v : World} {b : Nat} {x0 x1 x2 x3 x4 : Value} {cs : Array Value} {t : TypeId} (hb : v.heap.size = b) (h0 : cs[0]? = some x0) (h1 : cs[1]? = some x1) (h2 : cs[2]? = some x2) (h3 : cs[3]? = some x3) (h4 : cs[4]? = some x4) : S5m (v.alloc (.cells cs t)) b x0 x1 x2 x3 x4 := by
  subst hb; exact ⟨by simp, frz_new _ _ _, new1 h0, new1 h1, new1 h2, new1 h3, new1 h4⟩
theorem S5m.set0 {v : World} {b : Nat} {x0 x1 x2 x3 x4 : Value} (B : S5m v b x0 x1 x2 x3 x4) (y : Value) : S5m (v.setCell ⟨b, 0, none⟩ y) b y x1 x2 x3 x4 :=
  ⟨lt_set B.lt, frz_set B.fz, cell_same (There.of B.c0), cell_skip (.inr (by decide)) B.c1, cell_skip (.inr (by decide)) B.c2, cell_skip (.inr (by decide)) B.c3, cell_skip (.inr (by decide)) B.c4⟩
theorem S5m.set1 {v : World} {b : Nat} {x0 x1 x2 x3 x4 : Value} (B : S5m v b x0 x1 x2 x3 x4) (y : Value) : S5m (v.setCell ⟨b, 1, none⟩ y) b x0 y x2 x3 x4 :=
  ⟨lt_set B.lt, frz_set B.fz, cell_skip (.inr (by decide)) B.c0, cell_same (There.of B.c1), cell_skip (.inr (by decide)) B.c2, cell_skip (.inr (by decide)) B.c3, cell_skip (.inr (by decide)) B.c4⟩
theorem S5m.set2 {v : World} {b : Nat} {x0 x1 x2 x3 x4 : Value} (B : S5m v b x0 x1 x2 x3 x4) (y : Value) : S5m (v.setCell ⟨b, 2, none⟩ y) b x0 x1 y x3 x4 :=
  ⟨lt_set B.lt, frz_set B.fz, cell_skip (.inr (by decide)) B.c0, cell_skip (.inr (by decide)) B.c1, cell_same (There.of B.c2), cell_skip (.inr (by decide)) B.c3, cell_skip (.inr (by decide)) B.c4⟩
theorem S5m.set3 {v : World} {b : Nat} {x0 x1 x2 x3 x4 : Value} (B : S5m v b x0 x1 x2 x3 x4) (y : Value) : S5m (v.setCell ⟨b, 3, none⟩ y) b x0 x1 x2 y x4 :=
  ⟨lt_set B.lt, frz_set B.fz, cell_skip (.inr (by decide)) B.c0, cell_skip (.inr (by decide)) B.c1, cell_skip (.inr (by decide)) B.c2, cell_same (There.of B.c3), cell_skip (.inr (by decide)) B.c4⟩
theorem S5m.set4 {v : World} {b : Nat} {x0 x1 x2 x3 x4 : Value} (B : S5m v b x0 x1 x2 x3 x4) (y : Value) : S5m (v.setCell ⟨b, 4, none⟩ y) b x0 x1 x2 x3 y :=
  ⟨lt_set B.lt, frz_set B.fz, cell_skip (.inr (by decide)) B.c0, cell_skip (.inr (by decide)) B.c1, cell_skip (.inr (by decide)) B.c2, cell_skip (.inr (by decide)) B.c3, cell_same (There.of B.c4)⟩
theorem S5m.store {v : World} {b : Nat} {y0 y1 y2 y3 y4 : Value} (H : S5mAny v b) : S5m (((((v.setCell ⟨b, 0, none⟩ y0).setCell ⟨b, 1, none⟩ y1).setCell ⟨b, 2, none⟩ y2).setCell ⟨b, 3, none⟩ y3).setCell ⟨b, 4, none⟩ y4) b y0 y1 y2 y3 y4 := by
  obtain ⟨x0, x1, x2, x3, x4, B⟩ := H; exact (((((B).set0 y0).set1 y1).set2 y2).set3 y3).set4 y4
structure S6m (v : World) (b : Nat) (x0 x1 x2 x3 x4 x5 : Value) : Prop where
  lt : b < v.heap.size
  fz : ∀ o, v.frozen? ⟨b, o, none⟩ = false
  c0 : v.cell? ⟨b, 0, none⟩ = some x0
  c1 : v.cell? ⟨b, 1, none⟩ = some x1
  c2 : v.cell? ⟨b, 2, none⟩ = some x2
  c3 : v.cell? ⟨b, 3, none⟩ = some x3
  c4 : v.cell? ⟨b, 4, none⟩ = some x4
  c5 : v.cell? ⟨b, 5, none⟩ = some x5

theorem S6m.later {v v' : World} {b : Nat} {x0 x1 x2 x3 x4 x5 : Value} (e : Ext v v') (B : S6m v b x0 x1 x2 x3 x4 x5) : S6m v' b x0 x1 x2 x3 x4 x5 :=
  ⟨Nat.lt_of_lt_of_le B.lt e.more, frz_later e B.lt B.fz, Ext.later e B.c0, Ext.later e B.c1, Ext.later e B.c2, Ext.later e B.c3, Ext.later e B.c4, Ext.later e B.c5⟩
theorem S6m.alloc {v : World} {b : Nat} {x0 x1 x2 x3 x4 x5 : Value} (B : S6m v b x0 x1 x2 x3 x4 x5) (x : Obj) : S6m (v.alloc x) b x0 x1 x2 x3 x4 x5 := B.later (Ext.alloc (Ext.refl v) x)
theorem S6m.drew {v : World} {b : Nat} {x0 x1 x2 x3 x4 x5 : Value} (B : S6m v b x0 x1 x2 x3 x4 x5) : S6m v.drew b x0 x1 x2 x3 x4 x5 := B.later (Ext.drew (Ext.refl v))
theorem S6m.drewN {v : World} {b : Nat} {x0 x1 x2 x3 x4 x5 : Value} (B : S6m v b x0 x1 x2 x3 x4 x5) (n : Nat) : S6m (v.drewN n) b x0 x1 x2 x3 x4 x5 := B.later (Ext.drewN (Ext.refl v) n)
theorem S6m.skip {v : World} {b b' o' : Nat} {x : Value} {x0 x1 x2 x3 x4 x5 : Value} (hne : b' ≠ b) (B : S6m v b x0 x1 x2 x3 x4 x5) : S6m (v.setCell ⟨b', o', none⟩ x) b x0 x1 x2 x3 x4 x5 :=
  ⟨lt_set B.lt, frz_set B.fz, cell_skip (.inl hne) B.c0, cell_skip (.inl hne) B.c1, cell_skip (.inl hne) B.c2, cell_skip (.inl hne) B.c3, cell_skip (.inl hne) B.c4, cell_skip (.inl hne) B.c5⟩
def S6mAny (v : World) (b : Nat) : Prop := ∃ x0 x1 x2 x3 x4 x5, S6m v b x0 x1 x2 x3 x4 x5
theorem S6m.any {v : World} {b : Nat} {x0 x1 x2 x3 x4 x5 : Value} (B : S6m v b x0 x1 x2 x3 x4 x5) : S6mAny v b := ⟨x0, x1, x2, x3, x4, x5, B⟩
theorem S6mAny.alloc {v : World} {b : Nat} (h : S6mAny v b) (x : Obj) : S6mAny (v.alloc x) b := by
  obtain ⟨x0, x1, x2, x3, x4, x5, B⟩ := h; exact ⟨x0, x1, x2, x3, x4, x5, B.alloc x⟩
theorem S6mAny.drew {v : World} {b : Nat} (h : S6mAny v b)  : S6mAny v.drew b := by
  obtain ⟨x0, x1, x2, x3, x4, x5, B⟩ := h; exact ⟨x0, x1, x2, x3, x4, x5, B.drew⟩
theorem S6mAny.drewN {v : World} {b : Nat} (h : S6mAny v b) (n : Nat) : S6mAny (v.drewN n) b := by
  obtain ⟨x0, x1, x2, x3, x4, x5, B⟩ := h; exact ⟨x0, x1, x2, x3, x4, x5, B.drewN n⟩
theorem S6mAny.skip {v : World} {b b' o' : Nat} {x : Value} (hne : b' ≠ b) (h : S6mAny v b) : S6mAny (v.setCell ⟨b', o', none⟩ x) b := by
  obtain ⟨x0, x1, x2, x3, x4, x5, B⟩ := h; exact ⟨x0, x1, x2, x3, x4, x5, B.skip hne⟩
theorem S6m.new {v : World} {b : Nat} {x0 x1 x2 x3 x4 x5 : Value} {cs : Array Value} {t : TypeId} (hb : v.heap.size = b) (h0 : cs[0]? = some x0) (h1 : cs[1]? = some x1) (h2 : cs[2]? = some x2) (h3 : cs[3]? = some x3) (h4 : cs[4]? = some x4) (h5 : cs[5]? = some x5) : S6m (v.alloc (.cells cs t)) b x0 x1 x2 x3 x4 x5 := by
  subst hb; exact ⟨by simp, frz_new _ _ _, new1 h0, new1 h1, new1 h2, new1 h3, new1 h4, new1 h5⟩
theorem S6m.set0 {v : World} {b : Nat} {x0 x1 x2 x3 x4 x5 : Value} (B : S6m v b x0 x1 x2 x3 x4 x5) (y : Value) : S6m (v.setCell ⟨b, 0, none⟩ y) b y x1 x2 x3 x4 x5 :=
  ⟨lt_set B.lt, frz_set B.fz, cell_same (There.of B.c0), cell_skip (.inr (by decide)) B.c1, cell_skip (.inr (by decide)) B.c2, cell_skip (.inr (by decide)) B.c3, cell_skip (.inr (by decide)) B.c4, cell_skip (.inr (by decide)) B.c5⟩
theorem S6m.set1 {v : World} {b : Nat} {x0 x1 x2 x3 x4 x5 : Value} (B : S6m v b x0 x1 x2 x3 x4 x5) (y : Value) : S6m (v.setCell ⟨b, 1, none⟩ y) b x0 y x2 x3 x4 x5 :=
  ⟨lt_set B.lt, frz_set B.fz, cell_skip (.inr (by decide)) B.c0, cell_same (There.of B.c1), cell_skip (.inr (by decide)) B.c2, cell_skip (.inr (by decide)) B.c3, cell_skip (.inr (by decide)) B.c4, cell_skip (.inr (by decide)) B.c5⟩
theorem S6m.set2 {v : World} {b : Nat} {x0 x1 x2 x3 x4 x5 : Value} (B : S6m v b x0 x1 x2 x3 x4 x5) (y : Value) : S6m (v.setCell ⟨b, 2, none⟩ y) b x0 x1 y x3 x4 x5 :=
  ⟨lt_set B.lt, frz_set B.fz, cell_skip (.inr (by decide)) B.c0, cell_skip (.inr (by decide)) B.c1, cell_same (There.of B.c2), cell_skip (.inr (by decide)) B.c3, cell_skip (.inr (by decide)) B.c4, cell_skip (.inr (by decide)) B.c5⟩
theorem S6m.set3 {v : World} {b : Nat} {x0 x1 x2 x3 x4 x5 : Value} (B : S6m v b x0 x1 x2 x3 x4 x5) (y : Value) : S6m (v.setCell ⟨b, 3, none⟩ y) b x0 x1 x2 y x4 x5 :=
  ⟨lt_set B.lt, frz_set B.fz, cell_skip (.inr (by decide)) B.c0, cell_skip (.inr (by decide)) B.c1, cell_skip (.inr (by decide)) B.c2, cell_same (There.of B.c3), cell_skip (.inr (by decide)) B.c4, cell_skip (.inr (by decide)) B.c5⟩
theorem S6m.set4 {v : World} {b : Nat} {x0 x1 x2 x3 x4 x5 : Value} (B : S6m v b x0 x1 x2 x3 x4 x5) (y : Value) : S6m (v.setCell ⟨b, 4, none⟩ y) b x0 x1 x2 x3 y x5 :=
  ⟨lt_set B.lt, frz_set B.fz, cell_skip (.inr (by decide)) B.c0, cell_skip (.inr (by decide)) B.c1, cell_skip (.inr (by decide)) B.c2, cell_skip (.inr (by decide)) B.c3, cell_same (There.of B.c4), cell_skip (.inr (by decide)) B.c5⟩
theorem S6m.set5 {v : World} {b : Nat} {x0 x1 x2 x3 x4 x5 : Value} (B : S6m v b x0 x1 x2 x3 x4 x5) (y : Value) : S6m (v.setCell ⟨b, 5, none⟩ y) b x0 x1 x2 x3 x4 y :=
  ⟨lt_set B.lt, frz_set B.fz, cell_skip (.inr (by decide)) B.c0, cell_skip (.inr (by decide)) B.c1, cell_skip (.inr (by decide)) B.c2, cell_skip (.inr (by decide)) B.c3, cell_skip (.inr (by decide)) B.c4, cell_same (There.of B.c5)⟩
theorem S6m.store {v : World} {b : Nat} {y0 y1 y2 y3 y4 y5 : Value} (H : S6mAny v b) : S6m ((((((v.setCell ⟨b, 0, none⟩ y0).setCell ⟨b, 1, none⟩ y1).setCell ⟨b, 2, none⟩ y2).setCell ⟨b, 3, none⟩ y3).setCell ⟨b, 4, none⟩ y4).setCell ⟨b, 5, none⟩ y5) b y0 y1 y2 y3 y4 y5 := by
  obtain ⟨x0, x1, x2, x3, x4, x5, B⟩ := H; exact ((((((B).set0 y0).set1 y1).set2 y2).set3 y3).set4 y4).set5 y5
structure S7m (v : World) (b : Nat) (x0 x1 x2 x3 x4 x5 x6 : Value) : Prop where
  lt : b < v.heap.size
  fz : ∀ o, v.frozen? ⟨b, o, none⟩ = false
  c0 : v.cell? ⟨b, 0, none⟩ = some x0
  c1 : v.cell? ⟨b, 1, none⟩ = some x1
  c2 : v.cell? ⟨b, 2, none⟩ = some x2
  c3 : v.cell? ⟨b, 3, none⟩ = some x3
  c4 : v.cell? ⟨b, 4, none⟩ = some x4
  c5 : v.cell? ⟨b, 5, none⟩ = some x5
  c6 : v.cell? ⟨b, 6, none⟩ = some x6

theorem S7m.later {v v' : World} {b : Nat} {x0 x1 x2 x3 x4 x5 x6 : Value} (e : Ext v v') (B : S7m v b x0 x1 x2 x3 x4 x5 x6) : S7m v' b x0 x1 x2 x3 x4 x5 x6 :=
  ⟨Nat.lt_of_lt_of_le B.lt e.more, frz_later e B.lt B.fz, Ext.later e B.c0, Ext.later e B.c1, Ext.later e B.c2, Ext.later e B.c3, Ext.later e B.c4, Ext.later e B.c5, Ext.later e B.c6⟩
theorem S7m.alloc {v : World} {b : Nat} {x0 x1 x2 x3 x4 x5 x6 : Value} (B : S7m v b x0 x1 x2 x3 x4 x5 x6) (x : Obj) : S7m (v.alloc x) b x0 x1 x2 x3 x4 x5 x6 := B.later (Ext.alloc (Ext.refl v) x)
theorem S7m.drew {v : World} {b : Nat} {x0 x1 x2 x3 x4 x5 x6 : Value} (B : S7m v b x0 x1 x2 x3 x4 x5 x6) : S7m v.drew b x0 x1 x2 x3 x4 x5 x6 := B.later (Ext.drew (Ext.refl v))
theorem S7m.drewN {v : World} {b : Nat} {x0 x1 x2 x3 x4 x5 x6 : Value} (B : S7m v b x0 x1 x2 x3 x4 x5 x6) (n : Nat) : S7m (v.drewN n) b x0 x1 x2 x3 x4 x5 x6 := B.later (Ext.drewN (Ext.refl v) n)
theorem S7m.skip {v : World} {b b' o' : Nat} {x : Value} {x0 x1 x2 x3 x4 x5 x6 : Value} (hne : b' ≠ b) (B : S7m v b x0 x1 x2 x3 x4 x5 x6) : S7m (v.setCell ⟨b', o', none⟩ x) b x0 x1 x2 x3 x4 x5 x6 :=
  ⟨lt_set B.lt, frz_set B.fz, cell_skip (.inl hne) B.c0, cell_skip (.inl hne) B.c1, cell_skip (.inl hne) B.c2, cell_skip (.inl hne) B.c3, cell_skip (.inl hne) B.c4, cell_skip (.inl hne) B.c5, cell_skip (.inl hne) B.c6⟩
def S7mAny (v : World) (b : Nat) : Prop := ∃ x0 x1 x2 x3 x4 x5 x6, S7m v b x0 x1 x2 x3 x4 x5 x6
theorem S7m.any {v : World} {b : Nat} {x0 x1 x2 x3 x4 x5 x6 : Value} (B : S7m v b x0 x1 x2 x3 x4 x5 x6) : S7mAny v b := ⟨x0, x1, x2, x3, x4, x5, x6, B⟩
theorem S7mAny.alloc {v : World} {b : Nat} (h : S7mAny v b) (x : Obj) : S7mAny (v.alloc x) b := by
  obtain ⟨x0, x1, x2, x3, x4, x5, x6, B⟩ := h; exact ⟨x0, x1, x2, x3, x4, x5, x6, B.alloc x⟩
theorem S7mAny.drew {v : World} {b : Nat} (h : S7mAny v b)  : S7mAny v.drew b := by
  obtain ⟨x0, x1, x2, x3, x4, x5, x6, B⟩ := h; exact ⟨x0, x1, x2, x3, x4, x5, x6, B.drew⟩
theorem S7mAny.drewN {v : World} {b : Nat} (h : S7mAny v b) (n : Nat) : S7mAny (v.drewN n) b := by
  obtain ⟨x0, x1, x2, x3, x4, x5, x6, B⟩ := h; exact ⟨x0, x1, x2, x3, x4, x5, x6, B.drewN n⟩
theorem S7mAny.skip {v : World} {b b' o' : Nat} {x : Value} (hne : b' ≠ b) (h : S7mAny v b) : S7mAny (v.setCell ⟨b', o', none⟩ x) b := by
  obtain ⟨x0, x1, x2, x3, x4, x5, x6, B⟩ := h; exact ⟨x0, x1, x2, x3, x4, x5, x6, B.skip hne⟩
theorem S7m.new {v : World} {b : Nat} {x0 x1 x2 x3 x4 x5 x6 : Value} {cs : Array Value} {t : TypeId} (hb : v.heap.size = b) (h0 : cs[0]? = some x0) (h1 : cs[1]? = some x1) (h2 : cs[2]? = some x2) (h3 : cs[3]? = some x3) (h4 : cs[4]? = some x4) (h5 : cs[5]? = some x5) (h6 : cs[6]? = some x6) : S7m (v.alloc (.cells cs t)) b x0 x1 x2 x3 x4 x5 x6 := by
  subst hb; exact ⟨by simp, frz_new _ _ _, new1 h0, new1 h1, new1 h2, new1 h3, new1 h4, new1 h5, new1 h6⟩
theorem S7m.set0 {v : World} {b : Nat} {x0 x1 x2 x3 x4 x5 x6 : Value} (B : S7m v b x0 x1 x2 x3 x4 x5 x6) (y : Value) : S7m (v.setCell ⟨b, 0, none⟩ y) b y x1 x2 x3 x4 x5 x6 :=
  ⟨lt_set B.lt, frz_set B.fz, cell_same (There.of B.c0), cell_skip (.inr (by decide)) B.c1, cell_skip (.inr (by decide)) B.c2, cell_skip (.inr (by decide)) B.c3, cell_skip (.inr (by decide)) B.c4, cell_skip (.inr (by decide)) B.c5, cell_skip (.inr (by decide)) B.c6⟩
theorem S7m.set1 {v : World} {b : Nat} {x0 x1 x2 x3 x4 x5 x6 : Value} (B : S7m v b x0 x1 x2 x3 x4 x5 x6) (y : Value) : S7m (v.setCell ⟨b, 1, none⟩ y) b x0 y x2 x3 x4 x5 x6 :=
  ⟨lt_set B.lt, frz_set B.fz, cell_skip (.inr (by decide)) B.c0, cell_same (There.of B.c1), cell_skip (.inr (by decide)) B.c2, cell_skip (.inr (by decide)) B.c3, cell_skip (.inr (by decide)) B.c4, cell_skip (.inr (by decide)) B.c5, cell_skip (.inr (by decide)) B.c6⟩
theorem S7m.set2 {v : World} {b : Nat} {x0 x1 x2 x3 x4 x5 x6 : Value} (B : S7m v b x0 x1 x2 x3 x4 x5 x6) (y : Value) : S7m (v.setCell ⟨b, 2, none⟩ y) b x0 x1 y x3 x4 x5 x6 :=
  ⟨lt_set B.lt, frz_set B.fz, cell_skip (.inr (by decide)) B.c0, cell_skip (.inr (by decide)) B.c1, cell_same (There.of B.c2), cell_skip (.inr (by decide)) B.c3, cell_skip (.inr (by decide)) B.c4, cell_skip (.inr (by decide)) B.c5, cell_skip (.inr (by decide)) B.c6⟩
theorem S7m.set3 {v : World} {b : Nat} {x0 x1 x2 x3 x4 x5 x6 : Value} (B : S7m v b x0 x1 x2 x3 x4 x5 x6) (y : Value) : S7m (v.setCell ⟨b, 3, none⟩ y) b x0 x1 x2 y x4 x5 x6 :=
  ⟨lt_set B.lt, frz_set B.fz, cell_skip (.inr (by decide)) B.c0, cell_skip (.inr (by decide)) B.c1, cell_skip (.inr (by decide)) B.c2, cell_same (There.of B.c3), cell_skip (.inr (by decide)) B.c4, cell_skip (.inr (by decide)) B.c5, cell_skip (.inr (by decide)) B.c6⟩
theorem S7m.set4 {v : World} {b : Nat} {x0 x1 x2 x3 x4 x5 x6 : Value} (B : S7m v b x0 x1 x2 x3 x4 x5 x6) (y : Value) : S7m (v.setCell ⟨b, 4, none⟩ y) b x0 x1 x2 x3 y x5 x6 :=
  ⟨lt_set B.lt, frz_set B.fz, cell_skip (.inr (by decide)) B.c0, cell_skip (.inr (by decide)) B.c1, cell_skip (.inr (by decide)) B.c2, cell_skip (.inr (by decide)) B.c3, cell_same (There.of B.c4), cell_skip (.inr (by decide)) B.c5, cell_skip (.inr (by decide)) B.c6⟩
theorem S7m.set5 {v : World} {b : Nat} {x0 x1 x2 x3 x4 x5 x6 : Value} (B : S7m v b x0 x1 x2 x3 x4 x5 x6) (y : Value) : S7m (v.setCell ⟨b, 5, none⟩ y) b x0 x1 x2 x3 x4 y x6 :=
  ⟨lt_set B.lt, frz_set B.fz, cell_skip (.inr (by decide)) B.c0, cell_skip (.inr (by decide)) B.c1, cell_skip (.inr (by decide)) B.c2, cell_skip (.inr (by decide)) B.c3, cell_skip (.inr (by decide)) B.c4, cell_same (There.of B.c5), cell_skip (.inr (by decide)) B.c6⟩
theorem S7m.set6 {v : World} {b : Nat} {x0 x1 x2 x3 x4 x5 x6 : Value} (B : S7m v b x0 x1 x2 x3 x4 x5 x6) (y : Value) : S7m (v.setCell ⟨b, 6, none⟩ y) b x0 x1 x2 x3 x4 x5 y :=
  ⟨lt_set B.lt, frz_set B.fz, cell_skip (.inr (by decide)) B.c0, cell_skip (.inr (by decide)) B.c1, cell_skip (.inr (by decide)) B.c2, cell_skip (.inr (by decide)) B.c3, cell_skip (.inr (by decide)) B.c4, cell_skip (.inr (by decide)) B.c5, cell_same (There.of B.c6)⟩
theorem S7m.store {v : World} {b : Nat} {y0 y1 y2 y3 y4 y5 y6 : Value} (H : S7mAny v b) : S7m (((((((v.setCell ⟨b, 0, none⟩ y0).setCell ⟨b, 1, none⟩ y1).setCell ⟨b, 2, none⟩ y2).setCell ⟨b, 3, none⟩ y3).setCell ⟨b, 4, none⟩ y4).setCell ⟨b, 5, none⟩ y5).setCell ⟨b, 6, none⟩ y6) b y0 y1 y2 y3 y4 y5 y6 := by
  obtain ⟨x0, x1, x2, x3, x4, x5, x6, B⟩ := H; exact (((((((B).set0 y0).set1 y1).set2 y2).set3 y3).set4 y4).set5 y5).set6 y6
structure S8m (v : World) (b : Nat) (x0 x1 x2 x3 x4 x5 x6 x7 : Value) : Prop where
  lt : b < v.heap.size
  fz : ∀ o, v.frozen? ⟨b, o, none⟩ = false
  c0 : v.cell? ⟨b, 0, none⟩ = some x0
  c1 : v.cell? ⟨b, 1, none⟩ = some x1
  c2 : v.cell? ⟨b, 2, none⟩ = some x2
  c3 : v.cell? ⟨b, 3, none⟩ = some x3
  c4 : v.cell? ⟨b, 4, none⟩ = some x4
  c5 : v.cell? ⟨b, 5, none⟩ = some x5
  c6 : v.cell? ⟨b, 6, none⟩ = some x6
  c7 : v.cell? ⟨b, 7, none⟩ = some x7

theorem S8m.later {v v' : World} {b : Nat} {x0 x1 x2 x3 x4 x5 x6 x7 : Value} (e : Ext v v') (B : S8m v b x0 x1 x2 x3 x4 x5 x6 x7) : S8m v' b x0 x1 x2 x3 x4 x5 x6 x7 :=
  ⟨Nat.lt_of_lt_of_le B.lt e.more, frz_later e B.lt B.fz, Ext.later e B.c0, Ext.later e B.c1, Ext.later e B.c2, Ext.later e B.c3, Ext.later e B.c4, Ext.later e B.c5, Ext.later e B.c6, Ext.later e B.c7⟩
theorem S8m.alloc {v : World} {b : Nat} {x0 x1 x2 x3 x4 x5 x6 x7 : Value} (B : S8m v b x0 x1 x2 x3 x4 x5 x6 x7) (x : Obj) : S8m (v.alloc x) b x0 x1 x2 x3 x4 x5 x6 x7 := B.later (Ext.alloc (Ext.refl v) x)
theorem S8m.drew {v : World} {b : Nat} {x0 x1 x2 x3 x4 x5 x6 x7 : Value} (B : S8m v b x0 x1 x2 x3 x4 x5 x6 x7) : S8m v.drew b x0 x1 x2 x3 x4 x5 x6 x7 := B.later (Ext.drew (Ext.refl v))
theorem S8m.drewN {v : World} {b : Nat} {x0 x1 x2 x3 x4 x5 x6 x7 : Value} (B : S8m v b x0 x1 x2 x3 x4 x5 x6 x7) (n : Nat) : S8m (v.drewN n) b x0 x1 x2 x3 x4 x5 x6 x7 := B.later (Ext.drewN (Ext.refl v) n)
theorem S8m.skip {v : World} {b b' o' : Nat} {x : Value} {x0 x1 x2 x3 x4 x5 x6 x7 : Value} (hne : b' ≠ b) (B : S8m v b x0 x1 x2 x3 x4 x5 x6 x7) : S8m (v.setCell ⟨b', o', none⟩ x) b x0 x1 x2 x3 x4 x5 x6 x7 :=
  ⟨lt_set B.lt, frz_set B.fz, cell_skip (.inl hne) B.c0, cell_skip (.inl hne) B.c1, cell_skip (.inl hne) B.c2, cell_skip (.inl hne) B.c3, cell_skip (.inl hne) B.c4, cell_skip (.inl hne) B.c5, cell_skip (.inl hne) B.c6, cell_skip (.inl hne) B.c7⟩
def S8mAny (v : World) (b : Nat) : Prop := ∃ x0 x1 x2 x3 x4 x5 x6 x7, S8m v b x0 x1 x2 x3 x4 x5 x6 x7
theorem S8m.any {v : World} {b : Nat} {x0 x1 x2 x3 x4 x5 x6 x7 : Value} (B : S8m v b x0 x1 x2 x3 x4 x5 x6 x7) : S8mAny v b := ⟨x0, x1, x2, x3, x4, x5, x6, x7, B⟩
theorem S8mAny.alloc {v : World} {b : Nat} (h : S8mAny v b) (x : Obj) : S8mAny (v.alloc x) b := by
  obtain ⟨x0, x1, x2, x3, x4, x5, x6, x7, B⟩ := h; exact ⟨x0, x1, x2, x3, x4, x5, x6, x7, B.alloc x⟩
theorem S8mAny.drew {v : World} {b : Nat} (h : S8mAny v b)  : S8mAny v.drew b := by
  obtain ⟨x0, x1, x2, x3, x4, x5, x6, x7, B⟩ := h; exact ⟨x0, x1, x2, x3, x4, x5, x6, x7, B.drew⟩
theorem S8mAny.drewN {v : World} {b : Nat} (h : S8mAny v b) (n : Nat) : S8mAny (v.drewN n) b := by
  obtain ⟨x0, x1, x2, x3, x4, x5, x6, x7, B⟩ := h; exact ⟨x0, x1, x2, x3, x4, x5, x6, x7, B.drewN n⟩
theorem S8mAny.skip {v : World} {b b' o' : Nat} {x : Value} (hne : b' ≠ b) (h : S8mAny v b) : S8mAny (v.setCell ⟨b', o', none⟩ x) b := by
  obtain ⟨x0, x1, x2, x3, x4, x5, x6, x7, B⟩ := h; exact ⟨x0, x1, x2, x3, x4, x5, x6, x7, B.skip hne⟩
theorem S8m.new {v : World} {b : Nat} {x0 x1 x2 x3 x4 x5 x6 x7 : Value} {cs : Array Value} {t : TypeId} (hb : v.heap.size = b) (h0 : cs[0]? = some x0) (h1 : cs[1]? = some x1) (h2 : cs[2]? = some x2) (h3 : cs[3]? = some x3) (h4 : cs[4]? = some x4) (h5 : cs[5]? = some x5) (h6 : cs[6]? = some x6) (h7 : cs[7]? = some x7) : S8m (v.alloc (.cells cs t)) b x0 x1 x2 x3 x4 x5 x6 x7 := by
  subst hb; exact ⟨by simp, frz_new _ _ _, new1 h0, new1 h1, new1 h2, new1 h3, new1 h4, new1 h5, new1 h6, new1 h7⟩
theorem S8m.set0 {v : World} {b : Nat} {x0 x1 x2 x3 x4 x5 x6 x7 : Value} (B : S8m v b x0 x1 x2 x3 x4 x5 x6 x7) (y : Value) : S8m (v.setCell ⟨b, 0, none⟩ y) b y x1 x2 x3 x4 x5 x6 x7 :=
  ⟨lt_set B.lt, frz_set B.fz, cell_same (There.of B.c0), cell_skip (.inr (by decide)) B.c1, cell_skip (.inr (by decide)) B.c2, cell_skip (.inr (by decide)) B.c3, cell_skip (.inr (by decide)) B.c4, cell_skip (.inr (by decide)) B.c5, cell_skip (.inr (by decide)) B.c6, cell_skip (.inr (by decide)) B.c7⟩
theorem S8m.set1 {v : World} {b : Nat} {x0 x1 x2 x3 x4 x5 x6 x7 : Value} (B : S8m v b x0 x1 x2 x3 x4 x5 x6 x7) (y : Value) : S8m (v.setCell ⟨b, 1, none⟩ y) b x0 y x2 x3 x4 x5 x6 x7 :=
  ⟨lt_set B.lt, frz_set B.fz, cell_skip (.inr (by decide)) B.c0, cell_same (There.of B.c1), cell_skip (.inr (by decide)) B.c2, cell_skip (.inr (by decide)) B.c3, cell_skip (.inr (by decide)) B.c4, cell_skip (.inr (by decide)) B.c5, cell_skip (.inr (by decide)) B.c6, cell_skip (.inr (by decide)) B.c7⟩
theorem S8m.set2 {v : World} {b : Nat} {x0 x1 x2 x3 x4 x5 x6 x7 : Value} (B : S8m v b x0 x1 x2 x3 x4 x5 x6 x7) (y : Value) : S8m (v.setCell ⟨b, 2, none⟩ y) b x0 x1 y x3 x4 x5 x6 x7 :=
  ⟨lt_set B.lt, frz_set B.fz, cell_skip (.inr (by decide)) B.c0, cell_skip (.inr (by decide)) B.c1, cell_same (There.of B.c2), cell_skip (.inr (by decide)) B.c3, cell_skip (.inr (by decide)) B.c4, cell_skip (.inr (by decide)) B.c5, cell_skip (.inr (by decide)) B.c6, cell_skip (.inr (by decide)) B.c7⟩
theorem S8m.set3 {v : World} {b : Nat} {x0 x1 x2 x3 x4 x5 x6 x7 : Value} (B : S8m v b x0 x1 x2 x3 x4 x5 x6 x7) (y : Value) : S8m (v.setCell ⟨b, 3, none⟩ y) b x0 x1 x2 y x4 x5 x6 x7 :=
  ⟨lt_set B.lt, frz_set B.fz, cell_skip (.inr (by decide)) B.c0, cell_skip (.inr (by decide)) B.c1, cell_skip (.inr (by decide)) B.c2, cell_same (There.of B.c3), cell_skip (.inr (by decide)) B.c4, cell_skip (.inr (by decide)) B.c5, cell_skip (.inr (by decide)) B.c6, cell_skip (.inr (by decide)) B.c7⟩
theorem S8m.set4 {v : World} {b : Nat} {x0 x1 x2 x3 x4 x5 x6 x7 : Value} (B : S8m v b x0 x1 x2 x3 x4 x5 x6 x7) (y : Value) : S8m (v.setCell ⟨b, 4, none⟩ y) b x0 x1 x2 x3 y x5 x6 x7 :=
  ⟨lt_set B.lt, frz_set B.fz, cell_skip (.inr (by decide)) B.c0, cell_skip (.inr (by decide)) B.c1, cell_skip (.inr (by decide)) B.c2, cell_skip (.inr (by decide)) B.c3, cell_same (There.of B.c4), cell_skip (.inr (by decide)) B.c5, cell_skip (.inr (by decide)) B.c6, cell_skip (.inr (by decide)) B.c7⟩
theorem S8m.set5 {v : World} {b : Nat} {x0 x1 x2 x3 x4 x5 x6 x7 : Value} (B : S8m v b x0 x1 x2 x3 x4 x5 x6 x7) (y : Value) : S8m (v.setCell ⟨b, 5, none⟩ y) b x0 x1 x2 x3 x4 y x6 x7 :=
  ⟨lt_set B.lt, frz_set B.fz, cell_skip (.inr (by decide)) B.c0, cell_skip (.inr (by decide)) B.c1, cell_skip (.inr (by decide)) B.c2, cell_skip (.inr (by decide)) B.c3, cell_skip (.inr (by decide)) B.c4, cell_same (There.of B.c5), cell_skip (.inr (by decide)) B.c6, cell_skip (.inr (by decide)) B.c7⟩
theorem S8m.set6 {v : World} {b : Nat} {x0 x1 x2 x3 x4 x5 x6 x7 : Value} (B : S8m v b x0 x1 x2 x3 x4 x5 x6 x7) (y : Value) : S8m (v.setCell ⟨b, 6, none⟩ y) b x0 x1 x2 x3 x4 x5 y x7 :=
  ⟨lt_set B.lt, frz_set B.fz, cell_skip (.inr (by decide)) B.c0, cell_skip (.inr (by decide)) B.c1, cell_skip (.inr (by decide)) B.c2, cell_skip (.inr (by decide)) B.c3, cell_skip (.inr (by decide)) B.c4, cell_skip (.inr (by decide)) B.c5, cell_same (There.of B.c6), cell_skip (.inr (by decide)) B.c7⟩
theorem S8m.set7 {v : World} {b : Nat} {x0 x1 x2 x3 x4 x5 x6 x7 : Value} (B : S8m v b x0 x1 x2 x3 x4 x5 x6 x7) (y : Value) : S8m (v.setCell ⟨b, 7, none⟩ y) b x0 x1 x2 x3 x4 x5 x6 y :=
  ⟨lt_set B.lt, frz_set B.fz, cell_skip (.inr (by decide)) B.c0, cell_skip (.inr (by decide)) B.c1, cell_skip (.inr (by decide)) B.c2, cell_skip (.inr (by decide)) B.c3, cell_skip (.inr (by decide)) B.c4, cell_skip (.inr (by decide)) B.c5, cell_skip (.inr (by decide)) B.c6, cell_same (There.of B.c7)⟩
theorem S8m.store {v : World} {b : Nat} {y0 y1 y2 y3 y4 y5 y6 y7 : Value} (H : S8mAny v b) : S8m ((((((((v.setCell ⟨b, 0, none⟩ y0).setCell ⟨b, 1, none⟩ y1).setCell ⟨b, 2, none⟩ y2).setCell ⟨b, 3, none⟩ y3).setCell ⟨b, 4, none⟩ y4).setCell ⟨b, 5, none⟩ y5).setCell ⟨b, 6, none⟩ y6).setCell ⟨b, 7, none⟩ y7) b y0 y1 y2 y3 y4 y5 y6 y7 := by
  obtain ⟨x0, x1, x2, x3, x4, x5, x6, x7, B⟩ := H; exact ((((((((B).set0 y0).set1 y1).set2 y2).set3 y3).set4 y4).set5 y5).set6 y6).set7 y7
end Go.Proofs.YtemcppakmcffgaaDoor

namespace Go.Proofs.YtemcppakmcffgaaDoor
open Go.RowKit Go.BigFrame
set_option linter.unusedSimpArgs false
set_option linter.unusedVariables false
structure Vm (v : World) (b n : Nat) (f : Nat → Value) : Prop where
  lt : b < v.heap.size
  fz : ∀ o, v.frozen? ⟨b, o, none⟩ = false
  dg : ∀ i, i < n → v.cell? ⟨b, i, none⟩ = some (f i)
theorem Vm.later {v v' : World} {b n : Nat} {f : Nat → Value} (e : Ext v v') (B : Vm v b n f) : Vm v' b n f :=
  ⟨Nat.lt_of_lt_of_le B.lt e.more, frz_later e B.lt B.fz, fun i hi => Ext.later e (B.dg i hi)⟩
theorem Vm.alloc {v : World} {b n : Nat} {f : Nat → Value} (B : Vm v b n f) (o : Obj) : Vm (v.alloc o) b n f := B.later (Ext.alloc (Ext.refl v) o)
theorem Vm.drew {v : World} {b n : Nat} {f : Nat → Value} (B : Vm v b n f) : Vm v.drew b n f := B.later (Ext.drew (Ext.refl v))
theorem Vm.drewN {v : World} {b n : Nat} {f : Nat → Value} (B : Vm v b n f) (k : Nat) : Vm (v.drewN k) b n f := B.later (Ext.drewN (Ext.refl v) k)
theorem Vm.skip {v : World} {b b' o' n : Nat} {y : Value} {f : Nat → Value} (hne : b' ≠ b) (B : Vm v b n f) : Vm (v.setCell ⟨b', o', none⟩ y) b n f :=
  ⟨lt_set B.lt, frz_set B.fz, fun i hi => cell_skip (.inl hne) (B.dg i hi)⟩
theorem Vm.new {v : World} {b n : Nat} {f : Nat → Value} {cs : Array Value} {t : TypeId} (hb : v.heap.size = b) (h : ∀ i, i < n → cs[i]? = some (f i)) : Vm (v.alloc (.cells cs t)) b n f := by
  subst hb; exact ⟨by simp, frz_new _ _ _, fun i hi => new1 (h i hi)⟩
theorem Vm.eq {v : World} {b n : Nat} {f g : Nat → Value} (B : Vm v b n f) (h : ∀ i, i < n → f i = g i) : Vm v b n g := ⟨B.lt, B.fz, fun i hi => by rw [B.dg i hi, h i hi]⟩
def updv (f : Nat → Value) (k : Nat) (x : Value) : Nat → Value := fun i => if i = k then x else f i
theorem Vm.set {v : World} {b n : Nat} {f : Nat → Value} (B : Vm v b n f) (k : Nat) (x : Value) : Vm (v.setCell ⟨b, k, none⟩ x) b n (updv f k x) :=
  ⟨lt_set B.lt, frz_set B.fz, fun i hi => by
    unfold updv
    by_cases h : i = k
    · subst h; rw [if_pos rfl]; exact cell_same (There.of (B.dg i hi))
    · rw [if_neg h]; exact cell_skip (.inr (by omega)) (B.dg i hi)⟩
/-- The cells. -/
def vl (n : Nat) (f : Nat → Value) : List Value := (List.range n).map f
theorem vl_len (n : Nat) (f : Nat → Value) : (vl n f).length = n := by unfold vl; simp
theorem vl_at (n : Nat) (f : Nat → Value) {i : Nat} (h : i < n) : (vl n f)[i]? = some (f i) := by unfold vl; rw [List.getElem?_map, List.getElem?_range h]; rfl
theorem Vm.ofList {v : World} {b n : Nat} {f : Nat → Value} {cs : Array Value} {t : TypeId} (hb : v.heap.size = b) (h : cs.toList = vl n f) : Vm (v.alloc (.cells cs t)) b n f :=
  Vm.new hb (fun i hi => by rw [← Array.getElem?_toList, h, vl_at n f hi])
theorem Vm.range {v : World} {b n : Nat} {f : Nat → Value} (B : Vm v b n f) : v.rangeAt b 0 (vl n f) := fun j x hx => by
  have hj : j < n := by rw [← vl_len n f]; exact (List.getElem?_eq_some_iff.1 hx).1
  rw [vl_at n f hj] at hx
  rw [Nat.zero_add, B.dg j hj, hx]
theorem Vm.there {v : World} {b n : Nat} {f : Nat → Value} (B : Vm v b n f) {m : Nat} (hm : m = n) : v.there b 0 m := fun j hj => by
  rw [Nat.zero_add, B.dg j (by omega)]
  exact ⟨rfl, B.fz j⟩
theorem Vm.cells {v : World} {b n : Nat} {f : Nat → Value} (B : Vm v b n f) (h0 : 0 < n) (g : Nat → Value) : Vm (v.setCells b 0 (vl n g)) b n g := by
  have ht : v.there b 0 (vl n g).length := B.there (vl_len n g)
  refine ⟨?_, fun o => ?_, fun i hi => ?_⟩
  · have := World.rangeAt_setCells_same v b 0 (vl n g) ht 0 _ (vl_at n g h0)
    rw [Nat.zero_add] at this
    exact cell_lt this
  · rw [World.frozen?_setCells]; exact B.fz o
  · have := World.rangeAt_setCells_same v b 0 (vl n g) ht i _ (vl_at n g hi)
    rw [Nat.zero_add] at this
    exact this
theorem vl_one (n : Nat) (f : Nat → Value) (h : ∀ i, (f i).oneCell' = true) : (vl n f).toArray.all (·.oneCell') = true := all_oneCell_toArray (fun v hv => by unfold vl at hv; rw [List.mem_map] at hv; obtain ⟨i, _, rfl⟩ := hv; exact h i)
theorem Ext.setCells' {a w : World} (h : Ext a w) (b : Nat) (hb : a.heap.size ≤ b) : ∀ (vs : List Value) (o : Nat), Ext a (w.setCells b o vs) := by
  intro vs
  induction vs generalizing w with
  | nil => intro o; exact h
  | cons v vs ih => intro o; exact ih (Ext.setCell h (p := ⟨b, o, none⟩) hb v) (o + 1)
theorem S2m.skips' {b b' : Nat} {x y : Value} (hne : b' ≠ b) : ∀ (vs : List Value) (o : Nat) {v : World} (B : S2m v b x y), S2m (v.setCells b' o vs) b x y
  | [], _, _, B => B
  | _ :: vs, o, _, B => S2m.skips' hne vs (o + 1) (B.skip hne)
structure S1m (v : World) (b : Nat) (x0 : Value) : Prop where
  lt : b < v.heap.size
  fz : ∀ o, v.frozen? ⟨b, o, none⟩ = false
  c0 : v.cell? ⟨b, 0, none⟩ = some x0

theorem S1m.later {v v' : World} {b : Nat} {x0 : Value} (e : Ext v v') (B : S1m v b x0) : S1m v' b x0 :=
  ⟨Nat.lt_of_lt_of_le B.lt e.more, frz_later e B.lt B.fz, Ext.later e B.c0⟩
theorem S1m.alloc {v : World} {b : Nat} {x0 : Value} (B : S1m v b x0) (x : Obj) : S1m (v.alloc x) b x0 := B.later (Ext.alloc (Ext.refl v) x)
theorem S1m.drew {v : World} {b : Nat} {x0 : Value} (B : S1m v b x0) : S1m v.drew b x0 := B.later (Ext.drew (Ext.refl v))
theorem S1m.drewN {v : World} {b : Nat} {x0 : Value} (B : S1m v b x0) (n : Nat) : S1m (v.drewN n) b x0 := B.later (Ext.drewN (Ext.refl v) n)
theorem S1m.skip {v : World} {b b' o' : Nat} {x : Value} {x0 : Value} (hne : b' ≠ b) (B : S1m v b x0) : S1m (v.setCell ⟨b', o', none⟩ x) b x0 :=
  ⟨lt_set B.lt, frz_set B.fz, cell_skip (.inl hne) B.c0⟩
def S1mAny (v : World) (b : Nat) : Prop := ∃ x0, S1m v b x0
theorem S1m.any {v : World} {b : Nat} {x0 : Value} (B : S1m v b x0) : S1mAny v b := ⟨x0, B⟩
theorem S1mAny.alloc {v : World} {b : Nat} (h : S1mAny v b) (x : Obj) : S1mAny (v.alloc x) b := by
  obtain ⟨x0, B⟩ := h; exact ⟨x0, B.alloc x⟩
theorem S1mAny.drew {v : World} {b : Nat} (h : S1mAny v b)  : S1mAny v.drew b := by
  obtain ⟨x0, B⟩ := h; exact ⟨x0, B.drew⟩
theorem S1mAny.drewN {v : World} {b : Nat} (h : S1mAny v b) (n : Nat) : S1mAny (v.drewN n) b := by
  obtain ⟨x0, B⟩ := h; exact ⟨x0, B.drewN n⟩
theorem S1mAny.skip {v : World} {b b' o' : Nat} {x : Value} (hne : b' ≠ b) (h : S1mAny v b) : S1mAny (v.setCell ⟨b', o', none⟩ x) b := by
  obtain ⟨x0, B⟩ := h; exact ⟨x0, B.skip hne⟩
theorem S1m.new {v : World} {b : Nat} {x0 : Value} {cs : Array Value} {t : TypeId} (hb : v.heap.size = b) (h0 : cs[0]? = some x0) : S1m (v.alloc (.cells cs t)) b x0 := by
  subst hb; exact ⟨by simp, frz_new _ _ _, new1 h0⟩
theorem S1m.set0 {v : World} {b : Nat} {x0 : Value} (B : S1m v b x0) (y : Value) : S1m (v.setCell ⟨b, 0, none⟩ y) b y :=
  ⟨lt_set B.lt, frz_set B.fz, cell_same (There.of B.c0)⟩
theorem S1m.store {v : World} {b : Nat} {y0 : Value} (H : S1mAny v b) : S1m (v.setCell ⟨b, 0, none⟩ y0) b y0 := by
  obtain ⟨x0, B⟩ := H; exact (B).set0 y0
/-- Two cells of a box, beside each other. -/
structure Jm (v : World) (b i : Nat) (x y : Value) : Prop where
  lt : b < v.heap.size
  fz : ∀ o, v.frozen? ⟨b, o, none⟩ = false
  ci : v.cell? ⟨b, i, none⟩ = some x
  cj : v.cell? ⟨b, i + 1, none⟩ = some y
theorem Jm.later {v v' : World} {b i : Nat} {x y : Value} (e : Ext v v') (B : Jm v b i x y) : Jm v' b i x y :=
  ⟨Nat.lt_of_lt_of_le B.lt e.more, frz_later e B.lt B.fz, Ext.later e B.ci, Ext.later e B.cj⟩
theorem Vm.at {v : World} {b n : Nat} {f : Nat → Value} (B : Vm v b n f) {i : Nat} (h : i + 1 < n) : Jm v b i (f i) (f (i + 1)) := ⟨B.lt, B.fz, B.dg i (by omega), B.dg (i + 1) h⟩
end Go.Proofs.YtemcppakmcffgaaDoor
