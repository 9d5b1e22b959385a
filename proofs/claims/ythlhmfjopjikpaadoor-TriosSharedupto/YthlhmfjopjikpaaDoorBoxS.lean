/- Boxes in memory of two to eight cells, whatever these hold: what becomes of them as a world grows and is written. -/
import Derived.Test.YthlhmfjopjikpaaDoorBox
namespace Go.Proofs.YthlhmfjopjikpaaDoor
open Go.RowKit Go.BigFrame
set_option linter.unusedSimpArgs false
set_option linter.unusedVariables false

structure S2m (v : World) (b : Nat) (x0 x1 : Value) : Prop where
  lt : b < v.heap.size
  fz : ∀ o, v.frozen? ⟨b, o, none⟩ = false
  c0 : v.cell? ⟨b, 0, none⟩ = some x0
  c1 : v.cell? ⟨b, 1, none⟩ = some x1

theorem S2m.later {v v' : World} {b : Nat} {x0 x1 : Value} (e : Ext v v') (B : S2m v b x0 x1) : S2m v' b x0 x1 :=
  ⟨Nat.lt_of_lt_of_le B.lt e.more, frz_later e B.lt B.fz, Ext.later e B.c0, Ext.later e B.c1⟩
theorem S2m.alloc {v : World} {b : Nat} {x0 x1 : Value} (B : S2m v b x0 x1) (x : Obj) : S2m (v.alloc x) b x0 x1 := B.later (Ext.alloc (Ext.refl v) x)
theorem S2m.drew {v : World} {b : Nat} {x0 x1 : Value} (B : S2m v b x0 x1) : S2m v.drew b x0 x1 := B.later (Ext.drew (Ext.refl v))
theorem S2m.drewN {v : World} {b : Nat} {x0 x1 : Value} (B : S2m v b x0 x1) (n : Nat) : S2m (v.drewN n) b x0 x1 := B.later (Ext.drewN (Ext.refl v) n)
theorem S2m.skip {v : World} {b b' o' : Nat} {x : Value} {x0 x1 : Value} (hne : b' ≠ b) (B : S2m v b x0 x1) : S2m (v.setCell ⟨b', o', none⟩ x) b x0 x1 :=
  ⟨lt_set B.lt, frz_set B.fz, cell_skip (.inl hne) B.c0, cell_skip (.inl hne) B.c1⟩
def S2mAny (v : World) (b : Nat) : Prop := ∃ x0 x1, S2m v b x0 x1
theorem S2m.any {v : World} {b : Nat} {x0 x1 : Value} (B : S2m v b x0 x1) : S2mAny v b := ⟨x0, x1, B⟩
theorem S2mAny.alloc {v : World} {b : Nat} (h : S2mAny v b) (x : Obj) : S2mAny (v.alloc x) b := by
  obtain ⟨x0, x1, B⟩ := h; exact ⟨x0, x1, B.alloc x⟩
theorem S2mAny.drew {v : World} {b : Nat} (h : S2mAny v b)  : S2mAny v.drew b := by
  obtain ⟨x0, x1, B⟩ := h; exact ⟨x0, x1, B.drew⟩
theorem S2mAny.drewN {v : World} {b : Nat} (h : S2mAny v b) (n : Nat) : S2mAny (v.drewN n) b := by
  obtain ⟨x0, x1, B⟩ := h; exact ⟨x0, x1, B.drewN n⟩
theorem S2mAny.skip {v : World} {b b' o' : Nat} {x : Value} (hne : b' ≠ b) (h : S2mAny v b) : S2mAny (v.setCell ⟨b', o', none⟩ x) b := by
  obtain ⟨x0, x1, B⟩ := h; exact ⟨x0, x1, B.skip hne⟩
theorem S2m.new {v : World} {b : Nat} {x0 x1 : Value} {cs : Array Value} {t : TypeId} (hb : v.heap.size = b) (h0 : cs[0]? = some x0) (h1 : cs[1]? = some x1) : S2m (v.alloc (.cells cs t)) b x0 x1 := by
  subst hb; exact ⟨by simp, frz_new _ _ _, new1 h0, new1 h1⟩
theorem S2m.set0 {v : World} {b : Nat} {x0 x1 : Value} (B : S2m v b x0 x1) (y : Value) : S2m (v.setCell ⟨b, 0, none⟩ y) b y x1 :=
  ⟨lt_set B.lt, frz_set B.fz, cell_same (There.of B.c0), cell_skip (.inr (by decide)) B.c1⟩
theorem S2m.set1 {v : World} {b : Nat} {x0 x1 : Value} (B : S2m v b x0 x1) (y : Value) : S2m (v.setCell ⟨b, 1, none⟩ y) b x0 y :=
  ⟨lt_set B.lt, frz_set B.fz, cell_skip (.inr (by decide)) B.c0, cell_same (There.of B.c1)⟩
theorem S2m.store {v : World} {b : Nat} {y0 y1 : Value} (H : S2mAny v b) : S2m ((v.setCell ⟨b, 0, none⟩ y0).setCell ⟨b, 1, none⟩ y1) b y0 y1 := by
  obtain ⟨x0, x1, B⟩ := H; exact ((B).set0 y0).set1 y1
structure S3m (v : World) (b : Nat) (x0 x1 x2 : Value) : Prop where
  lt : b < v.heap.size
  fz : ∀ o, v.frozen? ⟨b, o, none⟩ = false
  c0 : v.cell? ⟨b, 0, none⟩ = some x0
  c1 : v.cell? ⟨b, 1, none⟩ = some x1
  c2 : v.cell? ⟨b, 2, none⟩ = some x2

theorem S3m.later {v v' : World} {b : Nat} {x0 x1 x2 : Value} (e : Ext v v') (B : S3m v b x0 x1 x2) : S3m v' b x0 x1 x2 :=
  ⟨Nat.lt_of_lt_of_le B.lt e.more, frz_later e B.lt B.fz, Ext.later e B.c0, Ext.later e B.c1, Ext.later e B.c2⟩
theorem S3m.alloc {v : World} {b : Nat} {x0 x1 x2 : Value} (B : S3m v b x0 x1 x2) (x : Obj) : S3m (v.alloc x) b x0 x1 x2 := B.later (Ext.alloc (Ext.refl v) x)
theorem S3m.drew {v : World} {b : Nat} {x0 x1 x2 : Value} (B : S3m v b x0 x1 x2) : S3m v.drew b x0 x1 x2 := B.later (Ext.drew (Ext.refl v))
theorem S3m.drewN {v : World} {b : Nat} {x0 x1 x2 : Value} (B : S3m v b x0 x1 x2) (n : Nat) : S3m (v.drewN n) b x0 x1 x2 := B.later (Ext.drewN (Ext.refl v) n)
theorem S3m.skip {v : World} {b b' o' : Nat} {x : Value} {x0 x1 x2 : Value} (hne : b' ≠ b) (B : S3m v b x0 x1 x2) : S3m (v.setCell ⟨b', o', none⟩ x) b x0 x1 x2 :=
  ⟨lt_set B.lt, frz_set B.fz, cell_skip (.inl hne) B.c0, cell_skip (.inl hne) B.c1, cell_skip (.inl hne) B.c2⟩
def S3mAny (v : World) (b : Nat) : Prop := ∃ x0 x1 x2, S3m v b x0 x1 x2
theorem S3m.any {v : World} {b : Nat} {x0 x1 x2 : Value} (B : S3m v b x0 x1 x2) : S3mAny v b := ⟨x0, x1, x2, B⟩
theorem S3mAny.alloc {v : World} {b : Nat} (h : S3mAny v b) (x : Obj) : S3mAny (v.alloc x) b := by
  obtain ⟨x0, x1, x2, B⟩ := h; exact ⟨x0, x1, x2, B.alloc x⟩
theorem S3mAny.drew {v : World} {b : Nat} (h : S3mAny v b)  : S3mAny v.drew b := by
  obtain ⟨x0, x1, x2, B⟩ := h; exact ⟨x0, x1, x2, B.drew⟩
theorem S3mAny.drewN {v : World} {b : Nat} (h : S3mAny v b) (n : Nat) : S3mAny (v.drewN n) b := by
  obtain ⟨x0, x1, x2, B⟩ := h; exact ⟨x0, x1, x2, B.drewN n⟩
theorem S3mAny.skip {v : World} {b b' o' : Nat} {x : Value} (hne : b' ≠ b) (h : S3mAny v b) : S3mAny (v.setCell ⟨b', o', none⟩ x) b := by
  obtain ⟨x0, x1, x2, B⟩ := h; exact ⟨x0, x1, x2, B.skip hne⟩
theorem S3m.new {v : World} {b : Nat} {x0 x1 x2 : Value} {cs : Array Value} {t : TypeId} (hb : v.heap.size = b) (h0 : cs[0]? = some x0) (h1 : cs[1]? = some x1) (h2 : cs[2]? = some x2) : S3m (v.alloc (.cells cs t)) b x0 x1 x2 := by
  subst hb; exact ⟨by simp, frz_new _ _ _, new1 h0, new1 h1, new1 h2⟩
theorem S3m.set0 {v : World} {b : Nat} {x0 x1 x2 : Value} (B : S3m v b x0 x1 x2) (y : Value) : S3m (v.setCell ⟨b, 0, none⟩ y) b y x1 x2 :=
  ⟨lt_set B.lt, frz_set B.fz, cell_same (There.of B.c0), cell_skip (.inr (by decide)) B.c1, cell_skip (.inr (by decide)) B.c2⟩
theorem S3m.set1 {v : World} {b : Nat} {x0 x1 x2 : Value} (B : S3m v b x0 x1 x2) (y : Value) : S3m (v.setCell ⟨b, 1, none⟩ y) b x0 y x2 :=
  ⟨lt_set B.lt, frz_set B.fz, cell_skip (.inr (by decide)) B.c0, cell_same (There.of B.c1), cell_skip (.inr (by decide)) B.c2⟩
theorem S3m.set2 {v : World} {b : Nat} {x0 x1 x2 : Value} (B : S3m v b x0 x1 x2) (y : Value) : S3m (v.setCell ⟨b, 2, none⟩ y) b x0 x1 y :=
  ⟨lt_set B.lt, frz_set B.fz, cell_skip (.inr (by decide)) B.c0, cell_skip (.inr (by decide)) B.c1, cell_same (There.of B.c2)⟩
theorem S3m.store {v : World} {b : Nat} {y0 y1 y2 : Value} (H : S3mAny v b) : S3m (((v.setCell ⟨b, 0, none⟩ y0).setCell ⟨b, 1, none⟩ y1).setCell ⟨b, 2, none⟩ y2) b y0 y1 y2 := by
  obtain ⟨x0, x1, x2, B⟩ := H; exact (((B).set0 y0).set1 y1).set2 y2
structure S4m (v : World) (b : Nat) (x0 x1 x2 x3 : Value) : Prop where
  lt : b < v.heap.size
  fz : ∀ o, v.frozen? ⟨b, o, none⟩ = false
  c0 : v.cell? ⟨b, 0, none⟩ = some x0
  c1 : v.cell? ⟨b, 1, none⟩ = some x1
  c2 : v.cell? ⟨b, 2, none⟩ = some x2
  c3 : v.cell? ⟨b, 3, none⟩ = some x3

theorem S4m.later {v v' : World} {b : Nat} {x0 x1 x2 x3 : Value} (e : Ext v v') (B : S4m v b x0 x1 x2 x3) : S4m v' b x0 x1 x2 x3 :=
  ⟨Nat.lt_of_lt_of_le B.lt e.more, frz_later e B.lt B.fz, Ext.later e B.c0, Ext.later e B.c1, Ext.later e B.c2, Ext.later e B.c3⟩
theorem S4m.alloc {v : World} {b : Nat} {x0 x1 x2 x3 : Value} (B : S4m v b x0 x1 x2 x3) (x : Obj) : S4m (v.alloc x) b x0 x1 x2 x3 := B.later (Ext.alloc (Ext.refl v) x)
theorem S4m.drew {v : World} {b : Nat} {x0 x1 x2 x3 : Value} (B : S4m v b x0 x1 x2 x3) : S4m v.drew b x0 x1 x2 x3 := B.later (Ext.drew (Ext.refl v))
theorem S4m.drewN {v : World} {b : Nat} {x0 x1 x2 x3 : Value} (B : S4m v b x0 x1 x2 x3) (n : Nat) : S4m (v.drewN n) b x0 x1 x2 x3 := B.later (Ext.drewN (Ext.refl v) n)
theorem S4m.skip {v : World} {b b' o' : Nat} {x : Value} {x0 x1 x2 x3 : Value} (hne : b' ≠ b) (B : S4m v b x0 x1 x2 x3) : S4m (v.setCell ⟨b', o', none⟩ x) b x0 x1 x2 x3 :=
  ⟨lt_set B.lt, frz_set B.fz, cell_skip (.inl hne) B.c0, cell_skip (.inl hne) B.c1, cell_skip (.inl hne) B.c2, cell_skip (.inl hne) B.c3⟩
def S4mAny (v : World) (b : Nat) : Prop := ∃ x0 x1 x2 x3, S4m v b x0 x1 x2 x3
theorem S4m.any {v : World} {b : Nat} {x0 x1 x2 x3 : Value} (B : S4m v b x0 x1 x2 x3) : S4mAny v b := ⟨x0, x1, x2, x3, B⟩
theorem S4mAny.alloc {v : World} {b : Nat} (h : S4mAny v b) (x : Obj) : S4mAny (v.alloc x) b := by
  obtain ⟨x0, x1, x2, x3, B⟩ := h; exact ⟨x0, x1, x2, x3, B.alloc x⟩
theorem S4mAny.drew {v : World} {b : Nat} (h : S4mAny v b)  : S4mAny v.drew b := by
  obtain ⟨x0, x1, x2, x3, B⟩ := h; exact ⟨x0, x1, x2, x3, B.drew⟩
theorem S4mAny.drewN {v : World} {b : Nat} (h : S4mAny v b) (n : Nat) : S4mAny (v.drewN n) b := by
  obtain ⟨x0, x1, x2, x3, B⟩ := h; exact ⟨x0, x1, x2, x3, B.drewN n⟩
theorem S4mAny.skip {v : World} {b b' o' : Nat} {x : Value} (hne : b' ≠ b) (h : S4mAny v b) : S4mAny (v.setCell ⟨b', o', none⟩ x) b := by
  obtain ⟨x0, x1, x2, x3, B⟩ := h; exact ⟨x0, x1, x2, x3, B.skip hne⟩
theorem S4m.new {v : World} {b : Nat} {x0 x1 x2 x3 : Value} {cs : Array Value} {t : TypeId} (hb : v.heap.size = b) (h0 : cs[0]? = some x0) (h1 : cs[1]? = some x1) (h2 : cs[2]? = some x2) (h3 : cs[3]? = some x3) : S4m (v.alloc (.cells cs t)) b x0 x1 x2 x3 := by
  subst hb; exact ⟨by simp, frz_new _ _ _, new1 h0, new1 h1, new1 h2, new1 h3⟩
theorem S4m.set0 {v : World} {b : Nat} {x0 x1 x2 x3 : Value} (B : S4m v b x0 x1 x2 x3) (y : Value) : S4m (v.setCell ⟨b, 0, none⟩ y) b y x1 x2 x3 :=
  ⟨lt_set B.lt, frz_set B.fz, cell_same (There.of B.c0), cell_skip (.inr (by decide)) B.c1, cell_skip (.inr (by decide)) B.c2, cell_skip (.inr (by decide)) B.c3⟩
theorem S4m.set1 {v : World} {b : Nat} {x0 x1 x2 x3 : Value} (B : S4m v b x0 x1 x2 x3) (y : Value) : S4m (v.setCell ⟨b, 1, none⟩ y) b x0 y x2 x3 :=
  ⟨lt_set B.lt, frz_set B.fz, cell_skip (.inr (by decide)) B.c0, cell_same (There.of B.c1), cell_skip (.inr (by decide)) B.c2, cell_skip (.inr (by decide)) B.c3⟩
theorem S4m.set2 {v : World} {b : Nat} {x0 x1 x2 x3 : Value} (B : S4m v b x0 x1 x2 x3) (y : Value) : S4m (v.setCell ⟨b, 2, none⟩ y) b x0 x1 y x3 :=
  ⟨lt_set B.lt, frz_set B.fz, cell_skip (.inr (by decide)) B.c0, cell_skip (.inr (by decide)) B.c1, cell_same (There.of B.c2), cell_skip (.inr (by decide)) B.c3⟩
theorem S4m.set3 {v : World} {b : Nat} {x0 x1 x2 x3 : Value} (B : S4m v b x0 x1 x2 x3) (y : Value) : S4m (v.setCell ⟨b, 3, none⟩ y) b x0 x1 x2 y :=
  ⟨lt_set B.lt, frz_set B.fz, cell_skip (.inr (by decide)) B.c0, cell_skip (.inr (by decide)) B.c1, cell_skip (.inr (by decide)) B.c2, cell_same (There.of B.c3)⟩
theorem S4m.store {v : World} {b : Nat} {y0 y1 y2 y3 : Value} (H : S4mAny v b) : S4m ((((v.setCell ⟨b, 0, none⟩ y0).setCell ⟨b, 1, none⟩ y1).setCell ⟨b, 2, none⟩ y2).setCell ⟨b, 3, none⟩ y3) b y0 y1 y2 y3 := by
  obtain ⟨x0, x1, x2, x3, B⟩ := H; exact ((((B).set0 y0).set1 y1).set2 y2).set3 y3
structure S5m (v : World) (b : Nat) (x0 x1 x2 x3 x4 : Value) : Prop where
  lt : b < v.heap.size
  fz : ∀ o, v.frozen? ⟨b, o, none⟩ = false
  c0 : v.cell? ⟨b, 0, none⟩ = some x0
  c1 : v.cell? ⟨b, 1, none⟩ = some x1
  c2 : v.cell? ⟨b, 2, none⟩ = some x2
  c3 : v.cell? ⟨b, 3, none⟩ = some x3
  c4 : v.cell? ⟨b, 4, none⟩ = some x4

theorem S5m.later {v v' : World} {b : Nat} {x0 x1 x2 x3 x4 : Value} (e : Ext v v') (B : S5m v b x0 x1 x2 x3 x4) : S5m v' b x0 x1 x2 x3 x4 :=
  ⟨Nat.lt_of_lt_of_le B.lt e.more, frz_later e B.lt B.fz, Ext.later e B.c0, Ext.later e B.c1, Ext.later e B.c2, Ext.later e B.c3, Ext.later e B.c4⟩
theorem S5m.alloc {v : World} {b : Nat} {x0 x1 x2 x3 x4 : Value} (B : S5m v b x0 x1 x2 x3 x4) (x : Obj) : S5m (v.alloc x) b x0 x1 x2 x3 x4 := B.later (Ext.alloc (Ext.refl v) x)
theorem S5m.drew {v : World} {b : Nat} {x0 x1 x2 x3 x4 : Value} (B : S5m v b x0 x1 x2 x3 x4) : S5m v.drew b x0 x1 x2 x3 x4 := B.later (Ext.drew (Ext.refl v))
theorem S5m.drewN {v : World} {b : Nat} {x0 x1 x2 x3 x4 : Value} (B : S5m v b x0 x1 x2 x3 x4) (n : Nat) : S5m (v.drewN n) b x0 x1 x2 x3 x4 := B.later (Ext.drewN (Ext.refl v) n)
theorem S5m.skip {v : World} {b b' o' : Nat} {x : Value} {x0 x1 x2 x3 x4 : Value} (hne : b' ≠ b) (B : S5m v b x0 x1 x2 x3 x4) : S5m (v.setCell ⟨b', o', none⟩ x) b x0 x1 x2 x3 x4 :=
  ⟨lt_set B.lt, frz_set B.fz, cell_skip (.inl hne) B.c0, cell_skip (.inl hne) B.c1, cell_skip (.inl hne) B.c2, cell_skip (.inl hne) B.c3, cell_skip (.inl hne) B.c4⟩
def S5mAny (v : World) (b : Nat) : Prop := ∃ x0 x1 x2 x3 x4, S5m v b x0 x1 x2 x3 x4
theorem S5m.any {v : World} {b : Nat} {x0 x1 x2 x3 x4 : Value} (B : S5m v b x0 x1 x2 x3 x4) : S5mAny v b := ⟨x0, x1, x2, x3, x4, B⟩
theorem S5mAny.alloc {v : World} {b : Nat} (h : S5mAny v b) (x : Obj) : S5mAny (v.alloc x) b := by
  obtain ⟨x0, x1, x2, x3, x4, B⟩ := h; exact ⟨x0, x1, x2, x3, x4, B.alloc x⟩
theorem S5mAny.drew {v : World} {b : Nat} (h : S5mAny v b)  : S5mAny v.drew b := by
  obtain ⟨x0, x1, x2, x3, x4, B⟩ := h; exact ⟨x0, x1, x2, x3, x4, B.drew⟩
theorem S5mAny.drewN {v : World} {b : Nat} (h : S5mAny v b) (n : Nat) : S5mAny (v.drewN n) b := by
  obtain ⟨x0, x1, x2, x3, x4, B⟩ := h; exact ⟨x0, x1, x2, x3, x4, B.drewN n⟩
theorem S5mAny.skip {v : World} {b b' o' : Nat} {x : Value} (hne : b' ≠ b) (h : S5mAny v b) : S5mAny (v.setCell ⟨b', o', none⟩ x) b := by
  obtain ⟨x0, x1, x2, x3, x4, B⟩ := h; exact ⟨x0, x1, x2, x3, x4, B.skip hne⟩
theorem S5m.new {v : World} {b : Nat} {x0 x1 x2 x3 x4 : Value} {cs : Array Value} {t : TypeId} (hb : v.heap.size = b) (h0 : cs[0]? = some x0) (h1 : cs[1]? = some x1) (h2 : cs[2]? = some x2) (h3 : cs[3]? = some x3) (h4 : cs[4]? = some x4) : S5m (v.alloc (.cells cs t)) b x0 x1 x2 x3 x4 := by
  subst hb; exact ⟨by simp, frz_new _ _ _, new1 h0, new1 h1, new1 h2, new1 h3, new1 h4⟩
theorem S5m.set0 {v : World} {b : Nat} {x0 x1 x2 x3 x4 : Value} (B : S5m v b x0 x1 x2 x3 x4) (y : Value) : S5m (v.setCell ⟨b, 0, none⟩ y) b y x1 x2 x3 x4 :=
  ⟨lt_set B.lt, frz_set B.fz, cell_same (There.of B.c0), cell_skip (.inr (by decide)) B.c1, cell_skip (.inr (by decide)) B.c2, cell_skip (.inr (by decide)) B.c3, cell_skip (.inr (by decide)) B.c4⟩
theorem S5m.set1 {v : World} {b : Nat} {x0 x1 x2 x3 x4 : Value} (B : S5m v b x0 x1 x2 x3 x4) (y : Value) : S5m (v.setCell ⟨b, 1, none⟩ y) b x0 y x2 x3 x4 :=
  ⟨lt_set B.lt, frz_set B.fz, cell_skip (.inr (by decide)) B.c0, cell_same (There.of B.c1), cell_skip (.inr (by decide)) B.c2, cell_skip (.inr (by decide)) B.c3, cell_skip (.inr (by decide)) B.c4⟩
theorem S5m.set2 {v : World} {b : Nat} {x0 x1 x2 x3 x4 : Value} (B : S5m v b x0 x1 x2 x3 x4) (y : Value) : S5m (v.setCell ⟨b, 2, none⟩ y) b x0 x1 y x3 x4 :=
  ⟨lt_set B.lt, frz_set B.fz, cell_skip (.inr (by decide)) B.c0, cell_skip (.inr (by decide)) B.c1, cell_same (There.of B.c2), cell_skip (.inr (by decide)) B.c3, cell_skip (.inr (by decide)) B.c4⟩
theorem S5m.set3 {v : World} {b : Nat} {x0 x1 x2 x3 x4 : Value} (B : S5m v b x0 x1 x2 x3 x4) (y : Value) : S5m (v.setCell ⟨b, 3, none⟩ y) b x0 x1 x2 y x4 :=
  ⟨lt_set B.lt, frz_set B.fz, cell_skip (.inr (by decide)) B.c0, cell_skip (.inr (by decide)) B.c1, cell_skip (.inr (by decide)) B.c2, cell_same (There.of B.c3), cell_skip (.inr (by decide)) B.c4⟩
theorem S5m.set4 {v : World} {b : Nat} {x0 x1 x2 x3 x4 : Value} (B : S5m v b x0 x1 x2 x3 x4) (y : Value) : S5m (v.setCell ⟨b, 4, none⟩ y) b x0 x1 x2 x3 y :=
  ⟨lt_set B.lt, frz_set B.fz, cell_skip (.inr (by decide)) B.c0, cell_skip (.inr (by decide)) B.c1, cell_skip (.inr (by decide)) B.c2, cell_skip (.inr (by decide)) B.c3, cell_same (There.of B.c4)⟩
theorem S5m.store {v : World} {b : Nat} {y0 y1 y2 y3 y4 : Value} (H : S5mAny v b) : S5m (((((v.setCell ⟨b, 0, none⟩ y0).setCell ⟨b, 1, none⟩ y1).setCell ⟨b, 2, none⟩ y2).setCell ⟨b, 3, none⟩ y3).setCell ⟨b, 4, none⟩ y4) b y0 y1 y2 y3 y4 := by
  obtain ⟨x0, x1, x2, x3, x4, B⟩ := H; exact (((((B).set0 y0).set1 y1).set2 y2).set3 y3).set4 y4
structure S6m (v : World) (b : Nat) (x0 x1 x2 x3 x4 x5 : Value) : Prop where
  lt : b < v.heap.size
  fz : ∀ o, v.frozen? ⟨b, o, none⟩ = false
  c0 : v.cell? ⟨b, 0, none⟩ = some x0
  c1 : v.cell? ⟨b, 1, none⟩ = some x1
  c2 : v.cell? ⟨b, 2, none⟩ = some x2
  c3 : v.cell? ⟨b, 3, none⟩ = some x3
  c4 : v.cell? ⟨b, 4, none⟩ = some x4
  c5 : v.cell? ⟨b, 5, none⟩ = some x5

theorem S6m.later {v v' : World} {b : Nat} {x0 x1 x2 x3 x4 x5 : Value} (e : Ext v v') (B : S6m v b x0 x1 x2 x3 x4 x5) : S6m v' b x0 x1 x2 x3 x4 x5 :=
  ⟨Nat.lt_of_lt_of_le B.lt e.more, frz_later e B.lt B.fz, Ext.later e B.c0, Ext.later e B.c1, Ext.later e B.c2, Ext.later e B.c3, Ext.later e B.c4, Ext.later e B.c5⟩
theorem S6m.alloc {v : World} {b : Nat} {x0 x1 x2 x3 x4 x5 : Value} (B : S6m v b x0 x1 x2 x3 x4 x5) (x : Obj) : S6m (v.alloc x) b x0 x1 x2 x3 x4 x5 := B.later (Ext.alloc (Ext.refl v) x)
theorem S6m.drew {v : World} {b : Nat} {x0 x1 x2 x3 x4 x5 : Value} (B : S6m v b x0 x1 x2 x3 x4 x5) : S6m v.drew b x0 x1 x2 x3 x4 x5 := B.later (Ext.drew (Ext.refl v))
theorem S6m.drewN {v : World} {b : Nat} {x0 x1 x2 x3 x4 x5 : Value} (B : S6m v b x0 x1 x2 x3 x4 x5) (n : Nat) : S6m (v.drewN n) b x0 x1 x2 x3 x4 x5 := B.later (Ext.drewN (Ext.refl v) n)
theorem S6m.skip {v : World} {b b' o' : Nat} {x : Value} {x0 x1 x2 x3 x4 x5 : Value} (hne : b' ≠ b) (B : S6m v b x0 x1 x2 x3 x4 x5) : S6m (v.setCell ⟨b', o', none⟩ x) b x0 x1 x2 x3 x4 x5 :=
  ⟨lt_set B.lt, frz_set B.fz, cell_skip (.inl hne) B.c0, cell_skip (.inl hne) B.c1, cell_skip (.inl hne) B.c2, cell_skip (.inl hne) B.c3, cell_skip (.inl hne) B.c4, cell_skip (.inl hne) B.c5⟩
def S6mAny (v : World) (b : Nat) : Prop := ∃ x0 x1 x2 x3 x4 x5, S6m v b x0 x1 x2 x3 x4 x5
theorem S6m.any {v : World} {b : Nat} {x0 x1 x2 x3 x4 x5 : Value} (B : S6m v b x0 x1 x2 x3 x4 x5) : S6mAny v b := ⟨x0, x1, x2, x3, x4, x5, B⟩
theorem S6mAny.alloc {v : World} {b : Nat} (h : S6mAny v b) (x : Obj) : S6mAny (v.alloc x) b := by
  obtain ⟨x0, x1, x2, x3, x4, x5, B⟩ := h; exact ⟨x0, x1, x2, x3, x4, x5, B.alloc x⟩
theorem S6mAny.drew {v : World} {b : Nat} (h : S6mAny v b)  : S6mAny v.drew b := by
  obtain ⟨x0, x1, x2, x3, x4, x5, B⟩ := h; exact ⟨x0, x1, x2, x3, x4, x5, B.drew⟩
theorem S6mAny.drewN {v : World} {b : Nat} (h : S6mAny v b) (n : Nat) : S6mAny (v.drewN n) b := by
  obtain ⟨x0, x1, x2, x3, x4, x5, B⟩ := h; exact ⟨x0, x1, x2, x3, x4, x5, B.drewN n⟩
theorem S6mAny.skip {v : World} {b b' o' : Nat} {x : Value} (hne : b' ≠ b) (h : S6mAny v b) : S6mAny (v.setCell ⟨b', o', none⟩ x) b := by
  obtain ⟨x0, x1, x2, x3, x4, x5, B⟩ := h; exact ⟨x0, x1, x2, x3, x4, x5, B.skip hne⟩
theorem S6m.new {v : World} {b : Nat} {x0 x1 x2 x3 x4 x5 : Value} {cs : Array Value} {t : TypeId} (hb : v.heap.size = b) (h0 : cs[0]? = some x0) (h1 : cs[1]? = some x1) (h2 : cs[2]? = some x2) (h3 : cs[3]? = some x3) (h4 : cs[4]? = some x4) (h5 : cs[5]? = some x5) : S6m (v.alloc (.cells cs t)) b x0 x1 x2 x3 x4 x5 := by
  subst hb; exact ⟨by simp, frz_new _ _ _, new1 h0, new1 h1, new1 h2, new1 h3, new1 h4, new1 h5⟩
theorem S6m.set0 {v : World} {b : Nat} {x0 x1 x2 x3 x4 x5 : Value} (B : S6m v b x0 x1 x2 x3 x4 x5) (y : Value) : S6m (v.setCell ⟨b, 0, none⟩ y) b y x1 x2 x3 x4 x5 :=
  ⟨lt_set B.lt, frz_set B.fz, cell_same (There.of B.c0), cell_skip (.inr (by decide)) B.c1, cell_skip (.inr (by decide)) B.c2, cell_skip (.inr (by decide)) B.c3, cell_skip (.inr (by decide)) B.c4, cell_skip (.inr (by decide)) B.c5⟩
theorem S6m.set1 {v : World} {b : Nat} {x0 x1 x2 x3 x4 x5 : Value} (B : S6m v b x0 x1 x2 x3 x4 x5) (y : Value) : S6m (v.setCell ⟨b, 1, none⟩ y) b x0 y x2 x3 x4 x5 :=
  ⟨lt_set B.lt, frz_set B.fz, cell_skip (.inr (by decide)) B.c0, cell_same (There.of B.c1), cell_skip (.inr (by decide)) B.c2, cell_skip (.inr (by decide)) B.c3, cell_skip (.inr (by decide)) B.c4, cell_skip (.inr (by decide)) B.c5⟩
theorem S6m.set2 {v : World} {b : Nat} {x0 x1 x2 x3 x4 x5 : Value} (B : S6m v b x0 x1 x2 x3 x4 x5) (y : Value) : S6m (v.setCell ⟨b, 2, none⟩ y) b x0 x1 y x3 x4 x5 :=
  ⟨lt_set B.lt, frz_set B.fz, cell_skip (.inr (by decide)) B.c0, cell_skip (.inr (by decide)) B.c1, cell_same (There.of B.c2), cell_skip (.inr (by decide)) B.c3, cell_skip (.inr (by decide)) B.c4, cell_skip (.inr (by decide)) B.c5⟩
theorem S6m.set3 {v : World} {b : Nat} {x0 x1 x2 x3 x4 x5 : Value} (B : S6m v b x0 x1 x2 x3 x4 x5) (y : Value) : S6m (v.setCell ⟨b, 3, none⟩ y) b x0 x1 x2 y x4 x5 :=
  ⟨lt_set B.lt, frz_set B.fz, cell_skip (.inr (by decide)) B.c0, cell_skip (.inr (by decide)) B.c1, cell_skip (.inr (by decide)) B.c2, cell_same (There.of B.c3), cell_skip (.inr (by decide)) B.c4, cell_skip (.inr (by decide)) B.c5⟩
theorem S6m.set4 {v : World} {b : Nat} {x0 x1 x2 x3 x4 x5 : Value} (B : S6m v b x0 x1 x2 x3 x4 x5) (y : Value) : S6m (v.setCell ⟨b, 4, none⟩ y) b x0 x1 x2 x3 y x5 :=
  ⟨lt_set B.lt, frz_set B.fz, cell_skip (.inr (by decide)) B.c0, cell_skip (.inr (by decide)) B.c1, cell_skip (.inr (by decide)) B.c2, cell_skip (.inr (by decide)) B.c3, cell_same (There.of B.c4), cell_skip (.inr (by decide)) B.c5⟩
theorem S6m.set5 {v : World} {b : Nat} {x0 x1 x2 x3 x4 x5 : Value} (B : S6m v b x0 x1 x2 x3 x4 x5) (y : Value) : S6m (v.setCell ⟨b, 5, none⟩ y) b x0 x1 x2 x3 x4 y :=
  ⟨lt_set B.lt, frz_set B.fz, cell_skip (.inr (by decide)) B.c0, cell_skip (.inr (by decide)) B.c1, cell_skip (.inr (by decide)) B.c2, cell_skip (.inr (by decide)) B.c3, cell_skip (.inr (by decide)) B.c4, cell_same (There.of B.c5)⟩
theorem S6m.store {v : World} {b : Nat} {y0 y1 y2 y3 y4 y5 : Value} (H : S6mAny v b) : S6m ((((((v.setCell ⟨b, 0, none⟩ y0).setCell ⟨b, 1, none⟩ y1).setCell ⟨b, 2, none⟩ y2).setCell ⟨b, 3, none⟩ y3).setCell ⟨b, 4, none⟩ y4).setCell ⟨b, 5, none⟩ y5) b y0 y1 y2 y3 y4 y5 := by
  obtain ⟨x0, x1, x2, x3, x4, x5, B⟩ := H; exact ((((((B).set0 y0).set1 y1).set2 y2).set3 y3).set4 y4).set5 y5
structure S7m (v : World) (b : Nat) (x0 x1 x2 x3 x4 x5 x6 : Value) : Prop where
  lt : b < v.heap.size
  fz : ∀ o, v.frozen? ⟨b, o, none⟩ = false
  c0 : v.cell? ⟨b, 0, none⟩ = some x0
  c1 : v.cell? ⟨b, 1, none⟩ = some x1
  c2 : v.cell? ⟨b, 2, none⟩ = some x2
  c3 : v.cell? ⟨b, 3, none⟩ = some x3
  c4 : v.cell? ⟨b, 4, none⟩ = some x4
  c5 : v.cell? ⟨b, 5, none⟩ = some x5
  c6 : v.cell? ⟨b, 6, none⟩ = some x6

theorem S7m.later {v v' : World} {b : Nat} {x0 x1 x2 x3 x4 x5 x6 : Value} (e : Ext v v') (B : S7m v b x0 x1 x2 x3 x4 x5 x6) : S7m v' b x0 x1 x2 x3 x4 x5 x6 :=
  ⟨Nat.lt_of_lt_of_le B.lt e.more, frz_later e B.lt B.fz, Ext.later e B.c0, Ext.later e B.c1, Ext.later e B.c2, Ext.later e B.c3, Ext.later e B.c4, Ext.later e B.c5, Ext.later e B.c6⟩
theorem S7m.alloc {v : World} {b : Nat} {x0 x1 x2 x3 x4 x5 x6 : Value} (B : S7m v b x0 x1 x2 x3 x4 x5 x6) (x : Obj) : S7m (v.alloc x) b x0 x1 x2 x3 x4 x5 x6 := B.later (Ext.alloc (Ext.refl v) x)
theorem S7m.drew {v : World} {b : Nat} {x0 x1 x2 x3 x4 x5 x6 : Value} (B : S7m v b x0 x1 x2 x3 x4 x5 x6) : S7m v.drew b x0 x1 x2 x3 x4 x5 x6 := B.later (Ext.drew (Ext.refl v))
theorem S7m.drewN {v : World} {b : Nat} {x0 x1 x2 x3 x4 x5 x6 : Value} (B : S7m v b x0 x1 x2 x3 x4 x5 x6) (n : Nat) : S7m (v.drewN n) b x0 x1 x2 x3 x4 x5 x6 := B.later (Ext.drewN (Ext.refl v) n)
theorem S7m.skip {v : World} {b b' o' : Nat} {x : Value} {x0 x1 x2 x3 x4 x5 x6 : Value} (hne : b' ≠ b) (B : S7m v b x0 x1 x2 x3 x4 x5 x6) : S7m (v.setCell ⟨b', o', none⟩ x) b x0 x1 x2 x3 x4 x5 x6 :=
  ⟨lt_set B.lt, frz_set B.fz, cell_skip (.inl hne) B.c0, cell_skip (.inl hne) B.c1, cell_skip (.inl hne) B.c2, cell_skip (.inl hne) B.c3, cell_skip (.inl hne) B.c4, cell_skip (.inl hne) B.c5, cell_skip (.inl hne) B.c6⟩
def S7mAny (v : World) (b : Nat) : Prop := ∃ x0 x1 x2 x3 x4 x5 x6, S7m v b x0 x1 x2 x3 x4 x5 x6
theorem S7m.any {v : World} {b : Nat} {x0 x1 x2 x3 x4 x5 x6 : Value} (B : S7m v b x0 x1 x2 x3 x4 x5 x6) : S7mAny v b := ⟨x0, x1, x2, x3, x4, x5, x6, B⟩
theorem S7mAny.alloc {v : World} {b : Nat} (h : S7mAny v b) (x : Obj) : S7mAny (v.alloc x) b := by
  obtain ⟨x0, x1, x2, x3, x4, x5, x6, B⟩ := h; exact ⟨x0, x1, x2, x3, x4, x5, x6, B.alloc x⟩
theorem S7mAny.drew {v : World} {b : Nat} (h : S7mAny v b)  : S7mAny v.drew b := by
  obtain ⟨x0, x1, x2, x3, x4, x5, x6, B⟩ := h; exact ⟨x0, x1, x2, x3, x4, x5, x6, B.drew⟩
theorem S7mAny.drewN {v : World} {b : Nat} (h : S7mAny v b) (n : Nat) : S7mAny (v.drewN n) b := by
  obtain ⟨x0, x1, x2, x3, x4, x5, x6, B⟩ := h; exact ⟨x0, x1, x2, x3, x4, x5, x6, B.drewN n⟩
theorem S7mAny.skip {v : World} {b b' o' : Nat} {x : Value} (hne : b' ≠ b) (h : S7mAny v b) : S7mAny (v.setCell ⟨b', o', none⟩ x) b := by
  obtain ⟨x0, x1, x2, x3, x4, x5, x6, B⟩ := h; exact ⟨x0, x1, x2, x3, x4, x5, x6, B.skip hne⟩
theorem S7m.new {v : World} {b : Nat} {x0 x1 x2 x3 x4 x5 x6 : Value} {cs : Array Value} {t : TypeId} (hb : v.heap.size = b) (h0 : cs[0]? = some x0) (h1 : cs[1]? = some x1) (h2 : cs[2]? = some x2) (h3 : cs[3]? = some x3) (h4 : cs[4]? = some x4) (h5 : cs[5]? = some x5) (h6 : cs[6]? = some x6) : S7m (v.alloc (.cells cs t)) b x0 x1 x2 x3 x4 x5 x6 := by
  subst hb; exact ⟨by simp, frz_new _ _ _, new1 h0, new1 h1, new1 h2, new1 h3, new1 h4, new1 h5, new1 h6⟩
theorem S7m.set0 {v : World} {b : Nat} {x0 x1 x2 x3 x4 x5 x6 : Value} (B : S7m v b x0 x1 x2 x3 x4 x5 x6) (y : Value) : S7m (v.setCell ⟨b, 0, none⟩ y) b y x1 x2 x3 x4 x5 x6 :=
  ⟨lt_set B.lt, frz_set B.fz, cell_same (There.of B.c0), cell_skip (.inr (by decide)) B.c1, cell_skip (.inr (by decide)) B.c2, cell_skip (.inr (by decide)) B.c3, cell_skip (.inr (by decide)) B.c4, cell_skip (.inr (by decide)) B.c5, cell_skip (.inr (by decide)) B.c6⟩
theorem S7m.set1 {v : World} {b : Nat} {x0 x1 x2 x3 x4 x5 x6 : Value} (B : S7m v b x0 x1 x2 x3 x4 x5 x6) (y : Value) : S7m (v.setCell ⟨b, 1, none⟩ y) b x0 y x2 x3 x4 x5 x6 :=
  ⟨lt_set B.lt, frz_set B.fz, cell_skip (.inr (by decide)) B.c0, cell_same (There.of B.c1), cell_skip (.inr (by decide)) B.c2, cell_skip (.inr (by decide)) B.c3, cell_skip (.inr (by decide)) B.c4, cell_skip (.inr (by decide)) B.c5, cell_skip (.inr (by decide)) B.c6⟩
theorem S7m.set2 {v : World} {b : Nat} {x0 x1 x2 x3 x4 x5 x6 : Value} (B : S7m v b x0 x1 x2 x3 x4 x5 x6) (y : Value) : S7m (v.setCell ⟨b, 2, none⟩ y) b x0 x1 y x3 x4 x5 x6 :=
  ⟨lt_set B.lt, frz_set B.fz, cell_skip (.inr (by decide)) B.c0, cell_skip (.inr (by decide)) B.c1, cell_same (There.of B.c2), cell_skip (.inr (by decide)) B.c3, cell_skip (.inr (by decide)) B.c4, cell_skip (.inr (by decide)) B.c5, cell_skip (.inr (by decide)) B.c6⟩
theorem S7m.set3 {v : World} {b : Nat} {x0 x1 x2 x3 x4 x5 x6 : Value} (B : S7m v b x0 x1 x2 x3 x4 x5 x6) (y : Value) : S7m (v.setCell ⟨b, 3, none⟩ y) b x0 x1 x2 y x4 x5 x6 :=
  ⟨lt_set B.lt, frz_set B.fz, cell_skip (.inr (by decide)) B.c0, cell_skip (.inr (by decide)) B.c1, cell_skip (.inr (by decide)) B.c2, cell_same (There.of B.c3), cell_skip (.inr (by decide)) B.c4, cell_skip (.inr (by decide)) B.c5, cell_skip (.inr (by decide)) B.c6⟩
theorem S7m.set4 {v : World} {b : Nat} {x0 x1 x2 x3 x4 x5 x6 : Value} (B : S7m v b x0 x1 x2 x3 x4 x5 x6) (y : Value) : S7m (v.setCell ⟨b, 4, none⟩ y) b x0 x1 x2 x3 y x5 x6 :=
  ⟨lt_set B.lt, frz_set B.fz, cell_skip (.inr (by decide)) B.c0, cell_skip (.inr (by decide)) B.c1, cell_skip (.inr (by decide)) B.c2, cell_skip (.inr (by decide)) B.c3, cell_same (There.of B.c4), cell_skip (.inr (by decide)) B.c5, cell_skip (.inr (by decide)) B.c6⟩
theorem S7m.set5 {v : World} {b : Nat} {x0 x1 x2 x3 x4 x5 x6 : Value} (B : S7m v b x0 x1 x2 x3 x4 x5 x6) (y : Value) : S7m (v.setCell ⟨b, 5, none⟩ y) b x0 x1 x2 x3 x4 y x6 :=
  ⟨lt_set B.lt, frz_set B.fz, cell_skip (.inr (by decide)) B.c0, cell_skip (.inr (by decide)) B.c1, cell_skip (.inr (by decide)) B.c2, cell_skip (.inr (by decide)) B.c3, cell_skip (.inr (by decide)) B.c4, cell_same (There.of B.c5), cell_skip (.inr (by decide)) B.c6⟩
theorem S7m.set6 {v : World} {b : Nat} {x0 x1 x2 x3 x4 x5 x6 : Value} (B : S7m v b x0 x1 x2 x3 x4 x5 x6) (y : Value) : S7m (v.setCell ⟨b, 6, none⟩ y) b x0 x1 x2 x3 x4 x5 y :=
  ⟨lt_set B.lt, frz_set B.fz, cell_skip (.inr (by decide)) B.c0, cell_skip (.inr (by decide)) B.c1, cell_skip (.inr (by decide)) B.c2, cell_skip (.inr (by decide)) B.c3, cell_skip (.inr (by decide)) B.c4, cell_skip (.inr (by decide)) B.c5, cell_same (There.of B.c6)⟩
theorem S7m.store {v : World} {b : Nat} {y0 y1 y2 y3 y4 y5 y6 : Value} (H : S7mAny v b) : S7m (((((((v.setCell ⟨b, 0, none⟩ y0).setCell ⟨b, 1, none⟩ y1).setCell ⟨b, 2, none⟩ y2).setCell ⟨b, 3, none⟩ y3).setCell ⟨b, 4, none⟩ y4).setCell ⟨b, 5, none⟩ y5).setCell ⟨b, 6, none⟩ y6) b y0 y1 y2 y3 y4 y5 y6 := by
  obtain ⟨x0, x1, x2, x3, x4, x5, x6, B⟩ := H; exact (((((((B).set0 y0).set1 y1).set2 y2).set3 y3).set4 y4).set5 y5).set6 y6
structure S8m (v : World) (b : Nat) (x0 x1 x2 x3 x4 x5 x6 x7 : Value) : Prop where
  lt : b < v.heap.size
  fz : ∀ o, v.frozen? ⟨b, o, none⟩ = false
  c0 : v.cell? ⟨b, 0, none⟩ = some x0
  c1 : v.cell? ⟨b, 1, none⟩ = some x1
  c2 : v.cell? ⟨b, 2, none⟩ = some x2
  c3 : v.cell? ⟨b, 3, none⟩ = some x3
  c4 : v.cell? ⟨b, 4, none⟩ = some x4
  c5 : v.cell? ⟨b, 5, none⟩ = some x5
  c6 : v.cell? ⟨b, 6, none⟩ = some x6
  c7 : v.cell? ⟨b, 7, none⟩ = some x7

theorem S8m.later {v v' : World} {b : Nat} {x0 x1 x2 x3 x4 x5 x6 x7 : Value} (e : Ext v v') (B : S8m v b x0 x1 x2 x3 x4 x5 x6 x7) : S8m v' b x0 x1 x2 x3 x4 x5 x6 x7 :=
  ⟨Nat.lt_of_lt_of_le B.lt e.more, frz_later e B.lt B.fz, Ext.later e B.c0, Ext.later e B.c1, Ext.later e B.c2, Ext.later e B.c3, Ext.later e B.c4, Ext.later e B.c5, Ext.later e B.c6, Ext.later e B.c7⟩
theorem S8m.alloc {v : World} {b : Nat} {x0 x1 x2 x3 x4 x5 x6 x7 : Value} (B : S8m v b x0 x1 x2 x3 x4 x5 x6 x7) (x : Obj) : S8m (v.alloc x) b x0 x1 x2 x3 x4 x5 x6 x7 := B.later (Ext.alloc (Ext.refl v) x)
theorem S8m.drew {v : World} {b : Nat} {x0 x1 x2 x3 x4 x5 x6 x7 : Value} (B : S8m v b x0 x1 x2 x3 x4 x5 x6 x7) : S8m v.drew b x0 x1 x2 x3 x4 x5 x6 x7 := B.later (Ext.drew (Ext.refl v))
theorem S8m.drewN {v : World} {b : Nat} {x0 x1 x2 x3 x4 x5 x6 x7 : Value} (B : S8m v b x0 x1 x2 x3 x4 x5 x6 x7) (n : Nat) : S8m (v.drewN n) b x0 x1 x2 x3 x4 x5 x6 x7 := B.later (Ext.drewN (Ext.refl v) n)
theorem S8m.skip {v : World} {b b' o' : Nat} {x : Value} {x0 x1 x2 x3 x4 x5 x6 x7 : Value} (hne : b' ≠ b) (B : S8m v b x0 x1 x2 x3 x4 x5 x6 x7) : S8m (v.setCell ⟨b', o', none⟩ x) b x0 x1 x2 x3 x4 x5 x6 x7 :=
  ⟨lt_set B.lt, frz_set B.fz, cell_skip (.inl hne) B.c0, cell_skip (.inl hne) B.c1, cell_skip (.inl hne) B.c2, cell_skip (.inl hne) B.c3, cell_skip (.inl hne) B.c4, cell_skip (.inl hne) B.c5, cell_skip (.inl hne) B.c6, cell_skip (.inl hne) B.c7⟩
def S8mAny (v : World) (b : Nat) : Prop := ∃ x0 x1 x2 x3 x4 x5 x6 x7, S8m v b x0 x1 x2 x3 x4 x5 x6 x7
theorem S8m.any {v : World} {b : Nat} {x0 x1 x2 x3 x4 x5 x6 x7 : Value} (B : S8m v b x0 x1 x2 x3 x4 x5 x6 x7) : S8mAny v b := ⟨x0, x1, x2, x3, x4, x5, x6, x7, B⟩
theorem S8mAny.alloc {v : World} {b : Nat} (h : S8mAny v b) (x : Obj) : S8mAny (v.alloc x) b := by
  obtain ⟨x0, x1, x2, x3, x4, x5, x6, x7, B⟩ := h; exact ⟨x0, x1, x2, x3, x4, x5, x6, x7, B.alloc x⟩
theorem S8mAny.drew {v : World} {b : Nat} (h : S8mAny v b)  : S8mAny v.drew b := by
  obtain ⟨x0, x1, x2, x3, x4, x5, x6, x7, B⟩ := h; exact ⟨x0, x1, x2, x3, x4, x5, x6, x7, B.drew⟩
theorem S8mAny.drewN {v : World} {b : Nat} (h : S8mAny v b) (n : Nat) : S8mAny (v.drewN n) b := by
  obtain ⟨x0, x1, x2, x3, x4, x5, x6, x7, B⟩ := h; exact ⟨x0, x1, x2, x3, x4, x5, x6, x7, B.drewN n⟩
theorem S8mAny.skip {v : World} {b b' o' : Nat} {x : Value} (hne : b' ≠ b) (h : S8mAny v b) : S8mAny (v.setCell ⟨b', o', none⟩ x) b := by
  obtain ⟨x0, x1, x2, x3, x4, x5, x6, x7, B⟩ := h; exact ⟨x0, x1, x2, x3, x4, x5, x6, x7, B.skip hne⟩
theorem S8m.new {v : World} {b : Nat} {x0 x1 x2 x3 x4 x5 x6 x7 : Value} {cs : Array Value} {t : TypeId} (hb : v.heap.size = b) (h0 : cs[0]? = some x0) (h1 : cs[1]? = some x1) (h2 : cs[2]? = some x2) (h3 : cs[3]? = some x3) (h4 : cs[4]? = some x4) (h5 : cs[5]? = some x5) (h6 : cs[6]? = some x6) (h7 : cs[7]? = some x7) : S8m (v.alloc (.cells cs t)) b x0 x1 x2 x3 x4 x5 x6 x7 := by
  subst hb; exact ⟨by simp, frz_new _ _ _, new1 h0, new1 h1, new1 h2, new1 h3, new1 h4, new1 h5, new1 h6, new1 h7⟩
theorem S8m.set0 {v : World} {b : Nat} {x0 x1 x2 x3 x4 x5 x6 x7 : Value} (B : S8m v b x0 x1 x2 x3 x4 x5 x6 x7) (y : Value) : S8m (v.setCell ⟨b, 0, none⟩ y) b y x1 x2 x3 x4 x5 x6 x7 :=
  ⟨lt_set B.lt, frz_set B.fz, cell_same (There.of B.c0), cell_skip (.inr (by decide)) B.c1, cell_skip (.inr (by decide)) B.c2, cell_skip (.inr (by decide)) B.c3, cell_skip (.inr (by decide)) B.c4, cell_skip (.inr (by decide)) B.c5, cell_skip (.inr (by decide)) B.c6, cell_skip (.inr (by decide)) B.c7⟩
theorem S8m.set1 {v : World} {b : Nat} {x0 x1 x2 x3 x4 x5 x6 x7 : Value} (B : S8m v b x0 x1 x2 x3 x4 x5 x6 x7) (y : Value) : S8m (v.setCell ⟨b, 1, none⟩ y) b x0 y x2 x3 x4 x5 x6 x7 :=
  ⟨lt_set B.lt, frz_set B.fz, cell_skip (.inr (by decide)) B.c0, cell_same (There.of B.c1), cell_skip (.inr (by decide)) B.c2, cell_skip (.inr (by decide)) B.c3, cell_skip (.inr (by decide)) B.c4, cell_skip (.inr (by decide)) B.c5, cell_skip (.inr (by decide)) B.c6, cell_skip (.inr (by decide)) B.c7⟩
theorem S8m.set2 {v : World} {b : Nat} {x0 x1 x2 x3 x4 x5 x6 x7 : Value} (B : S8m v b x0 x1 x2 x3 x4 x5 x6 x7) (y : Value) : S8m (v.setCell ⟨b, 2, none⟩ y) b x0 x1 y x3 x4 x5 x6 x7 :=
  ⟨lt_set B.lt, frz_set B.fz, cell_skip (.inr (by decide)) B.c0, cell_skip (.inr (by decide)) B.c1, cell_same (There.of B.c2), cell_skip (.inr (by decide)) B.c3, cell_skip (.inr (by decide)) B.c4, cell_skip (.inr (by decide)) B.c5, cell_skip (.inr (by decide)) B.c6, cell_skip (.inr (by decide)) B.c7⟩
theorem S8m.set3 {v : World} {b : Nat} {x0 x1 x2 x3 x4 x5 x6 x7 : Value} (B : S8m v b x0 x1 x2 x3 x4 x5 x6 x7) (y : Value) : S8m (v.setCell ⟨b, 3, none⟩ y) b x0 x1 x2 y x4 x5 x6 x7 :=
  ⟨lt_set B.lt, frz_set B.fz, cell_skip (.inr (by decide)) B.c0, cell_skip (.inr (by decide)) B.c1, cell_skip (.inr (by decide)) B.c2, cell_same (There.of B.c3), cell_skip (.inr (by decide)) B.c4, cell_skip (.inr (by decide)) B.c5, cell_skip (.inr (by decide)) B.c6, cell_skip (.inr (by decide)) B.c7⟩
theorem S8m.set4 {v : World} {b : Nat} {x0 x1 x2 x3 x4 x5 x6 x7 : Value} (B : S8m v b x0 x1 x2 x3 x4 x5 x6 x7) (y : Value) : S8m (v.setCell ⟨b, 4, none⟩ y) b x0 x1 x2 x3 y x5 x6 x7 :=
  ⟨lt_set B.lt, frz_set B.fz, cell_skip (.inr (by decide)) B.c0, cell_skip (.inr (by decide)) B.c1, cell_skip (.inr (by decide)) B.c2, cell_skip (.inr (by decide)) B.c3, cell_same (There.of B.c4), cell_skip (.inr (by decide)) B.c5, cell_skip (.inr (by decide)) B.c6, cell_skip (.inr (by decide)) B.c7⟩
theorem S8m.set5 {v : World} {b : Nat} {x0 x1 x2 x3 x4 x5 x6 x7 : Value} (B : S8m v b x0 x1 x2 x3 x4 x5 x6 x7) (y : Value) : S8m (v.setCell ⟨b, 5, none⟩ y) b x0 x1 x2 x3 x4 y x6 x7 :=
  ⟨lt_set B.lt, frz_set B.fz, cell_skip (.inr (by decide)) B.c0, cell_skip (.inr (by decide)) B.c1, cell_skip (.inr (by decide)) B.c2, cell_skip (.inr (by decide)) B.c3, cell_skip (.inr (by decide)) B.c4, cell_same (There.of B.c5), cell_skip (.inr (by decide)) B.c6, cell_skip (.inr (by decide)) B.c7⟩
theorem S8m.set6 {v : World} {b : Nat} {x0 x1 x2 x3 x4 x5 x6 x7 : Value} (B : S8m v b x0 x1 x2 x3 x4 x5 x6 x7) (y : Value) : S8m (v.setCell ⟨b, 6, none⟩ y) b x0 x1 x2 x3 x4 x5 y x7 :=
  ⟨lt_set B.lt, frz_set B.fz, cell_skip (.inr (by decide)) B.c0, cell_skip (.inr (by decide)) B.c1, cell_skip (.inr (by decide)) B.c2, cell_skip (.inr (by decide)) B.c3, cell_skip (.inr (by decide)) B.c4, cell_skip (.inr (by decide)) B.c5, cell_same (There.of B.c6), cell_skip (.inr (by decide)) B.c7⟩
theorem S8m.set7 {v : World} {b : Nat} {x0 x1 x2 x3 x4 x5 x6 x7 : Value} (B : S8m v b x0 x1 x2 x3 x4 x5 x6 x7) (y : Value) : S8m (v.setCell ⟨b, 7, none⟩ y) b x0 x1 x2 x3 x4 x5 x6 y :=
  ⟨lt_set B.lt, frz_set B.fz, cell_skip (.inr (by decide)) B.c0, cell_skip (.inr (by decide)) B.c1, cell_skip (.inr (by decide)) B.c2, cell_skip (.inr (by decide)) B.c3, cell_skip (.inr (by decide)) B.c4, cell_skip (.inr (by decide)) B.c5, cell_skip (.inr (by decide)) B.c6, cell_same (There.of B.c7)⟩
theorem S8m.store {v : World} {b : Nat} {y0 y1 y2 y3 y4 y5 y6 y7 : Value} (H : S8mAny v b) : S8m ((((((((v.setCell ⟨b, 0, none⟩ y0).setCell ⟨b, 1, none⟩ y1).setCell ⟨b, 2, none⟩ y2).setCell ⟨b, 3, none⟩ y3).setCell ⟨b, 4, none⟩ y4).setCell ⟨b, 5, none⟩ y5).setCell ⟨b, 6, none⟩ y6).setCell ⟨b, 7, none⟩ y7) b y0 y1 y2 y3 y4 y5 y6 y7 := by
  obtain ⟨x0, x1, x2, x3, x4, x5, x6, x7, B⟩ := H; exact ((((((((B).set0 y0).set1 y1).set2 y2).set3 y3).set4 y4).set5 y5).set6 y6).set7 y7
end Go.Proofs.YthlhmfjopjikpaaDoor
