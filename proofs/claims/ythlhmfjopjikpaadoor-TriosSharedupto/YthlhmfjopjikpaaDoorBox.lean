/- Boxes in memory: a number's twelve digits; a sign and twelve digits; a wide number. What becomes of them as a world grows and is written. -/
import Derived.Test.YthlhmfjopjikpaaDoorExt
namespace Go.Proofs.YthlhmfjopjikpaaDoor
open Go.RowKit Go.BigFrame
set_option linter.unusedSimpArgs false
set_option linter.unusedVariables false

theorem all12 {p : Nat → Prop} (h0 : p 0) (h1 : p 1) (h2 : p 2) (h3 : p 3) (h4 : p 4) (h5 : p 5) (h6 : p 6) (h7 : p 7) (h8 : p 8) (h9 : p 9) (h10 : p 10) (h11 : p 11) : ∀ i, i < 12 → p i := by
  intro i hi
  match i, hi with
  | 0, _ => exact h0 | 1, _ => exact h1 | 2, _ => exact h2 | 3, _ => exact h3 | 4, _ => exact h4 | 5, _ => exact h5 | 6, _ => exact h6 | 7, _ => exact h7 | 8, _ => exact h8 | 9, _ => exact h9 | 10, _ => exact h10 | 11, _ => exact h11
theorem frz_later {w w' : World} (h : Ext w w') {b : Nat} (hb : b < w.heap.size) (z : ∀ o, w.frozen? ⟨b, o, none⟩ = false) : ∀ o, w'.frozen? ⟨b, o, none⟩ = false := fun o => by rw [Below.frozen h hb]; exact z o
theorem frz_set {w : World} {b b' o' : Nat} {x : Value} (z : ∀ o, w.frozen? ⟨b, o, none⟩ = false) : ∀ o, (w.setCell ⟨b', o', none⟩ x).frozen? ⟨b, o, none⟩ = false := fun o => by have := z o; go_simp
theorem frz_new (w : World) (cs : Array Value) (t : TypeId) : ∀ o, (w.alloc (.cells cs t)).frozen? ⟨w.heap.size, o, none⟩ = false := fun o => by go_simp
theorem lt_set {w : World} {b : Nat} {p : Addr} {x : Value} (h : b < w.heap.size) : b < (w.setCell p x).heap.size := by simp only [World.setCell]; simpa using h
def upd (f : Nat → Int) (k : Nat) (x : Int) : Nat → Int := fun i => if i = k then x else f i

structure Dm (v : World) (b : Nat) (f : Nat → Int) : Prop where
  lt : b < v.heap.size
  fz : ∀ o, v.frozen? ⟨b, o, none⟩ = false
  dg : ∀ i, i < 12 → v.cell? ⟨b, i, none⟩ = some (.int .i64 (f i))

theorem Dm.later {v v' : World} {b : Nat} {f : Nat → Int} (e : Ext v v') (B : Dm v b f) : Dm v' b f :=
  ⟨Nat.lt_of_lt_of_le B.lt e.more, frz_later e B.lt B.fz, fun i hi => Ext.later e (B.dg i hi)⟩

theorem Dm.alloc {v : World} {b : Nat} {f : Nat → Int} (B : Dm v b f) (x : Obj) : Dm (v.alloc x) b f := B.later (Ext.alloc (Ext.refl v) x)

theorem Dm.drew {v : World} {b : Nat} {f : Nat → Int} (B : Dm v b f) : Dm v.drew b f := B.later (Ext.drew (Ext.refl v))

theorem Dm.drewN {v : World} {b : Nat} {f : Nat → Int} (B : Dm v b f) (n : Nat) : Dm (v.drewN n) b f := B.later (Ext.drewN (Ext.refl v) n)

theorem Dm.skip {v : World} {b b' o' : Nat} {x : Value} {f : Nat → Int} (hne : b' ≠ b) (B : Dm v b f) : Dm (v.setCell ⟨b', o', none⟩ x) b f :=
  ⟨lt_set B.lt, frz_set B.fz, fun i hi => cell_skip (.inl hne) (B.dg i hi)⟩

structure Nm (v : World) (b : Nat) (s : Bool) (f : Nat → Int) : Prop where
  lt : b < v.heap.size
  fz : ∀ o, v.frozen? ⟨b, o, none⟩ = false
  sg : v.cell? ⟨b, 0, none⟩ = some (.bool s)
  dg : ∀ i, i < 12 → v.cell? ⟨b, i + 1, none⟩ = some (.int .i64 (f i))

theorem Nm.later {v v' : World} {b : Nat} {s : Bool} {f : Nat → Int} (e : Ext v v') (B : Nm v b s f) : Nm v' b s f :=
  ⟨Nat.lt_of_lt_of_le B.lt e.more, frz_later e B.lt B.fz, Ext.later e (B.sg), fun i hi => Ext.later e (B.dg i hi)⟩

theorem Nm.alloc {v : World} {b : Nat} {s : Bool} {f : Nat → Int} (B : Nm v b s f) (x : Obj) : Nm (v.alloc x) b s f := B.later (Ext.alloc (Ext.refl v) x)

theorem Nm.drew {v : World} {b : Nat} {s : Bool} {f : Nat → Int} (B : Nm v b s f) : Nm v.drew b s f := B.later (Ext.drew (Ext.refl v))

theorem Nm.drewN {v : World} {b : Nat} {s : Bool} {f : Nat → Int} (B : Nm v b s f) (n : Nat) : Nm (v.drewN n) b s f := B.later (Ext.drewN (Ext.refl v) n)

theorem Nm.skip {v : World} {b b' o' : Nat} {x : Value} {s : Bool} {f : Nat → Int} (hne : b' ≠ b) (B : Nm v b s f) : Nm (v.setCell ⟨b', o', none⟩ x) b s f :=
  ⟨lt_set B.lt, frz_set B.fz, cell_skip (.inl hne) (B.sg), fun i hi => cell_skip (.inl hne) (B.dg i hi)⟩

structure Wm (v : World) (b : Nat) (h l : Int) : Prop where
  lt : b < v.heap.size
  fz : ∀ o, v.frozen? ⟨b, o, none⟩ = false
  hi : v.cell? ⟨b, 0, none⟩ = some (.int .i64 h)
  lo : v.cell? ⟨b, 1, none⟩ = some (.int .u64 l)

theorem Wm.later {v v' : World} {b : Nat} {h l : Int} (e : Ext v v') (B : Wm v b h l) : Wm v' b h l :=
  ⟨Nat.lt_of_lt_of_le B.lt e.more, frz_later e B.lt B.fz, Ext.later e (B.hi), Ext.later e (B.lo)⟩

theorem Wm.alloc {v : World} {b : Nat} {h l : Int} (B : Wm v b h l) (x : Obj) : Wm (v.alloc x) b h l := B.later (Ext.alloc (Ext.refl v) x)

theorem Wm.drew {v : World} {b : Nat} {h l : Int} (B : Wm v b h l) : Wm v.drew b h l := B.later (Ext.drew (Ext.refl v))

theorem Wm.drewN {v : World} {b : Nat} {h l : Int} (B : Wm v b h l) (n : Nat) : Wm (v.drewN n) b h l := B.later (Ext.drewN (Ext.refl v) n)

theorem Wm.skip {v : World} {b b' o' : Nat} {x : Value} {h l : Int} (hne : b' ≠ b) (B : Wm v b h l) : Wm (v.setCell ⟨b', o', none⟩ x) b h l :=
  ⟨lt_set B.lt, frz_set B.fz, cell_skip (.inl hne) (B.hi), cell_skip (.inl hne) (B.lo)⟩

def DmAny (v : World) (b : Nat) : Prop := ∃ f, Dm v b f
theorem Dm.any {v : World} {b : Nat} {f : Nat → Int} (B : Dm v b f) : DmAny v b := ⟨f, B⟩
theorem DmAny.alloc {v : World} {b : Nat} (h : DmAny v b) (x : Obj) : DmAny (v.alloc x) b := by
  obtain ⟨f, B⟩ := h; exact ⟨f, B.alloc x⟩
theorem DmAny.drew {v : World} {b : Nat} (h : DmAny v b)  : DmAny v.drew b := by
  obtain ⟨f, B⟩ := h; exact ⟨f, B.drew⟩
theorem DmAny.drewN {v : World} {b : Nat} (h : DmAny v b) (n : Nat) : DmAny (v.drewN n) b := by
  obtain ⟨f, B⟩ := h; exact ⟨f, B.drewN n⟩
theorem DmAny.skip {v : World} {b b' o' : Nat} {x : Value} (hne : b' ≠ b) (h : DmAny v b) : DmAny (v.setCell ⟨b', o', none⟩ x) b := by
  obtain ⟨f, B⟩ := h; exact ⟨f, B.skip hne⟩
def NmAny (v : World) (b : Nat) : Prop := ∃ s f, Nm v b s f
theorem Nm.any {v : World} {b : Nat} {s : Bool} {f : Nat → Int} (B : Nm v b s f) : NmAny v b := ⟨s, f, B⟩
theorem NmAny.alloc {v : World} {b : Nat} (h : NmAny v b) (x : Obj) : NmAny (v.alloc x) b := by
  obtain ⟨s, f, B⟩ := h; exact ⟨s, f, B.alloc x⟩
theorem NmAny.drew {v : World} {b : Nat} (h : NmAny v b)  : NmAny v.drew b := by
  obtain ⟨s, f, B⟩ := h; exact ⟨s, f, B.drew⟩
theorem NmAny.drewN {v : World} {b : Nat} (h : NmAny v b) (n : Nat) : NmAny (v.drewN n) b := by
  obtain ⟨s, f, B⟩ := h; exact ⟨s, f, B.drewN n⟩
theorem NmAny.skip {v : World} {b b' o' : Nat} {x : Value} (hne : b' ≠ b) (h : NmAny v b) : NmAny (v.setCell ⟨b', o', none⟩ x) b := by
  obtain ⟨s, f, B⟩ := h; exact ⟨s, f, B.skip hne⟩
def WmAny (v : World) (b : Nat) : Prop := ∃ h l, Wm v b h l
theorem Wm.any {v : World} {b : Nat} {h l : Int} (B : Wm v b h l) : WmAny v b := ⟨h, l, B⟩
theorem WmAny.alloc {v : World} {b : Nat} (h : WmAny v b) (x : Obj) : WmAny (v.alloc x) b := by
  obtain ⟨s, f, B⟩ := h; exact ⟨s, f, B.alloc x⟩
theorem WmAny.drew {v : World} {b : Nat} (h : WmAny v b)  : WmAny v.drew b := by
  obtain ⟨s, f, B⟩ := h; exact ⟨s, f, B.drew⟩
theorem WmAny.drewN {v : World} {b : Nat} (h : WmAny v b) (n : Nat) : WmAny (v.drewN n) b := by
  obtain ⟨s, f, B⟩ := h; exact ⟨s, f, B.drewN n⟩
theorem WmAny.skip {v : World} {b b' o' : Nat} {x : Value} (hne : b' ≠ b) (h : WmAny v b) : WmAny (v.setCell ⟨b', o', none⟩ x) b := by
  obtain ⟨s, f, B⟩ := h; exact ⟨s, f, B.skip hne⟩
theorem Dm.new {v : World} {b : Nat} {f : Nat → Int} {cs : Array Value} {t : TypeId} (hb : v.heap.size = b) (h : ∀ i, i < 12 → cs[i]? = some (.int .i64 (f i))) : Dm (v.alloc (.cells cs t)) b f := by
  subst hb; exact ⟨by simp, frz_new _ _ _, fun i hi => new1 (h i hi)⟩
theorem Nm.new {v : World} {b : Nat} {s : Bool} {f : Nat → Int} {cs : Array Value} {t : TypeId} (hb : v.heap.size = b) (h0 : cs[0]? = some (.bool s)) (h : ∀ i, i < 12 → cs[i + 1]? = some (.int .i64 (f i))) : Nm (v.alloc (.cells cs t)) b s f := by
  subst hb; exact ⟨by simp, frz_new _ _ _, new1 h0, fun i hi => new1 (h i hi)⟩
theorem Wm.new {v : World} {b : Nat} {x y : Int} {cs : Array Value} {t : TypeId} (hb : v.heap.size = b) (h0 : cs[0]? = some (.int .i64 x)) (h1 : cs[1]? = some (.int .u64 y)) : Wm (v.alloc (.cells cs t)) b x y := by
  subst hb; exact ⟨by simp, frz_new _ _ _, new1 h0, new1 h1⟩
theorem Dm.eq {v : World} {b : Nat} {f g : Nat → Int} (B : Dm v b f) (h : ∀ i, i < 12 → f i = g i) : Dm v b g := ⟨B.lt, B.fz, fun i hi => by rw [B.dg i hi, h i hi]⟩
theorem Nm.eq {v : World} {b : Nat} {s : Bool} {f g : Nat → Int} (B : Nm v b s f) (h : ∀ i, i < 12 → f i = g i) : Nm v b s g := ⟨B.lt, B.fz, B.sg, fun i hi => by rw [B.dg i hi, h i hi]⟩
theorem Dm.set {v : World} {b : Nat} {f : Nat → Int} (B : Dm v b f) (k : Nat) (x : Int) : Dm (v.setCell ⟨b, k, none⟩ (.int .i64 x)) b (upd f k x) :=
  ⟨lt_set B.lt, frz_set B.fz, fun i hi => by
    unfold upd
    by_cases h : i = k
    · subst h; rw [if_pos rfl]; exact cell_same (There.of (B.dg i hi))
    · rw [if_neg h]; exact cell_skip (.inr (by omega)) (B.dg i hi)⟩
theorem Nm.set {v : World} {b : Nat} {s : Bool} {f : Nat → Int} (B : Nm v b s f) (k : Nat) (x : Int) : Nm (v.setCell ⟨b, k + 1, none⟩ (.int .i64 x)) b s (upd f k x) :=
  ⟨lt_set B.lt, frz_set B.fz, cell_skip (.inr (by omega)) B.sg, fun i hi => by
    unfold upd
    by_cases h : i = k
    · subst h; rw [if_pos rfl]; exact cell_same (There.of (B.dg i hi))
    · rw [if_neg h]; exact cell_skip (.inr (by omega)) (B.dg i hi)⟩
theorem Nm.sign {v : World} {b : Nat} {s : Bool} {f : Nat → Int} (B : Nm v b s f) (t : Bool) : Nm (v.setCell ⟨b, 0, none⟩ (.bool t)) b t f :=
  ⟨lt_set B.lt, frz_set B.fz, cell_same (There.of B.sg), fun i hi => cell_skip (.inr (by omega)) (B.dg i hi)⟩
theorem Wm.setHi {v : World} {b : Nat} {h l : Int} (B : Wm v b h l) (x : Int) : Wm (v.setCell ⟨b, 0, none⟩ (.int .i64 x)) b x l := ⟨lt_set B.lt, frz_set B.fz, cell_same (There.of B.hi), cell_skip (.inr (by omega)) B.lo⟩
theorem Wm.setLo {v : World} {b : Nat} {h l : Int} (B : Wm v b h l) (x : Int) : Wm (v.setCell ⟨b, 1, none⟩ (.int .u64 x)) b h x := ⟨lt_set B.lt, frz_set B.fz, cell_skip (.inr (by omega)) B.hi, cell_same (There.of B.lo)⟩
theorem Wm.store {v : World} {b : Nat} (H : WmAny v b) (x y : Int) : Wm ((v.setCell ⟨b, 0, none⟩ (.int .i64 x)).setCell ⟨b, 1, none⟩ (.int .u64 y)) b x y := by
  obtain ⟨h, l, B⟩ := H; exact (B.setHi x).setLo y

theorem upd12 {f g : Nat → Int} : ∀ i, i < 12 → (upd (upd (upd (upd (upd (upd (upd (upd (upd (upd (upd (upd (f) 0 (g 0)) 1 (g 1)) 2 (g 2)) 3 (g 3)) 4 (g 4)) 5 (g 5)) 6 (g 6)) 7 (g 7)) 8 (g 8)) 9 (g 9)) 10 (g 10)) 11 (g 11)) i = g i := all12 rfl rfl rfl rfl rfl rfl rfl rfl rfl rfl rfl rfl

theorem Dm.store {v : World} {b : Nat} {g : Nat → Int} {x0 x1 x2 x3 x4 x5 x6 x7 x8 x9 x10 x11 : Value} (H : DmAny v b) (h0 : x0 = .int .i64 (g 0)) (h1 : x1 = .int .i64 (g 1)) (h2 : x2 = .int .i64 (g 2)) (h3 : x3 = .int .i64 (g 3)) (h4 : x4 = .int .i64 (g 4)) (h5 : x5 = .int .i64 (g 5)) (h6 : x6 = .int .i64 (g 6)) (h7 : x7 = .int .i64 (g 7)) (h8 : x8 = .int .i64 (g 8)) (h9 : x9 = .int .i64 (g 9)) (h10 : x10 = .int .i64 (g 10)) (h11 : x11 = .int .i64 (g 11)) : Dm ((((((((((((v.setCell ⟨b, 0, none⟩ x0).setCell ⟨b, 1, none⟩ x1).setCell ⟨b, 2, none⟩ x2).setCell ⟨b, 3, none⟩ x3).setCell ⟨b, 4, none⟩ x4).setCell ⟨b, 5, none⟩ x5).setCell ⟨b, 6, none⟩ x6).setCell ⟨b, 7, none⟩ x7).setCell ⟨b, 8, none⟩ x8).setCell ⟨b, 9, none⟩ x9).setCell ⟨b, 10, none⟩ x10).setCell ⟨b, 11, none⟩ x11) b g := by
  obtain ⟨f, B⟩ := H
  subst h0 h1 h2 h3 h4 h5 h6 h7 h8 h9 h10 h11
  exact (((((((((((((B.set 0 (g 0)).set 1 (g 1)).set 2 (g 2)).set 3 (g 3)).set 4 (g 4)).set 5 (g 5)).set 6 (g 6)).set 7 (g 7)).set 8 (g 8)).set 9 (g 9)).set 10 (g 10)).set 11 (g 11))).eq upd12

theorem Nm.digits {v : World} {b : Nat} {s : Bool} {f g : Nat → Int} {x0 x1 x2 x3 x4 x5 x6 x7 x8 x9 x10 x11 : Value} (B : Nm v b s f) (h0 : x0 = .int .i64 (g 0)) (h1 : x1 = .int .i64 (g 1)) (h2 : x2 = .int .i64 (g 2)) (h3 : x3 = .int .i64 (g 3)) (h4 : x4 = .int .i64 (g 4)) (h5 : x5 = .int .i64 (g 5)) (h6 : x6 = .int .i64 (g 6)) (h7 : x7 = .int .i64 (g 7)) (h8 : x8 = .int .i64 (g 8)) (h9 : x9 = .int .i64 (g 9)) (h10 : x10 = .int .i64 (g 10)) (h11 : x11 = .int .i64 (g 11)) : Nm ((((((((((((v.setCell ⟨b, 1, none⟩ x0).setCell ⟨b, 2, none⟩ x1).setCell ⟨b, 3, none⟩ x2).setCell ⟨b, 4, none⟩ x3).setCell ⟨b, 5, none⟩ x4).setCell ⟨b, 6, none⟩ x5).setCell ⟨b, 7, none⟩ x6).setCell ⟨b, 8, none⟩ x7).setCell ⟨b, 9, none⟩ x8).setCell ⟨b, 10, none⟩ x9).setCell ⟨b, 11, none⟩ x10).setCell ⟨b, 12, none⟩ x11) b s g := by
  subst h0 h1 h2 h3 h4 h5 h6 h7 h8 h9 h10 h11
  exact (((((((((((((B.set 0 (g 0)).set 1 (g 1)).set 2 (g 2)).set 3 (g 3)).set 4 (g 4)).set 5 (g 5)).set 6 (g 6)).set 7 (g 7)).set 8 (g 8)).set 9 (g 9)).set 10 (g 10)).set 11 (g 11))).eq upd12

theorem Nm.store {v : World} {b : Nat} {t : Bool} {g : Nat → Int} {y x0 x1 x2 x3 x4 x5 x6 x7 x8 x9 x10 x11 : Value} (H : NmAny v b) (hy : y = .bool t) (h0 : x0 = .int .i64 (g 0)) (h1 : x1 = .int .i64 (g 1)) (h2 : x2 = .int .i64 (g 2)) (h3 : x3 = .int .i64 (g 3)) (h4 : x4 = .int .i64 (g 4)) (h5 : x5 = .int .i64 (g 5)) (h6 : x6 = .int .i64 (g 6)) (h7 : x7 = .int .i64 (g 7)) (h8 : x8 = .int .i64 (g 8)) (h9 : x9 = .int .i64 (g 9)) (h10 : x10 = .int .i64 (g 10)) (h11 : x11 = .int .i64 (g 11)) : Nm (((((((((((((v.setCell ⟨b, 0, none⟩ y).setCell ⟨b, 1, none⟩ x0).setCell ⟨b, 2, none⟩ x1).setCell ⟨b, 3, none⟩ x2).setCell ⟨b, 4, none⟩ x3).setCell ⟨b, 5, none⟩ x4).setCell ⟨b, 6, none⟩ x5).setCell ⟨b, 7, none⟩ x6).setCell ⟨b, 8, none⟩ x7).setCell ⟨b, 9, none⟩ x8).setCell ⟨b, 10, none⟩ x9).setCell ⟨b, 11, none⟩ x10).setCell ⟨b, 12, none⟩ x11) b t g := by
  obtain ⟨s, f, B⟩ := H
  subst hy
  exact (B.sign t).digits h0 h1 h2 h3 h4 h5 h6 h7 h8 h9 h10 h11

end Go.Proofs.YthlhmfjopjikpaaDoor
