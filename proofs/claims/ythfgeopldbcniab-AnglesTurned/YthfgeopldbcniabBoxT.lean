/- Boxes in memory: 33 words; one word. What becomes of them as a world grows and is written. -/
import Derived.Test.YthfgeopldbcniabBox
namespace Go.Proofs.Ythfgeopldbcniab
open Go.RowKit Go.BigFrame
set_option linter.unusedSimpArgs false
set_option linter.unusedVariables false

theorem all33 {p : Nat → Prop} (h0 : p 0) (h1 : p 1) (h2 : p 2) (h3 : p 3) (h4 : p 4) (h5 : p 5) (h6 : p 6) (h7 : p 7) (h8 : p 8) (h9 : p 9) (h10 : p 10) (h11 : p 11) (h12 : p 12) (h13 : p 13) (h14 : p 14) (h15 : p 15) (h16 : p 16) (h17 : p 17) (h18 : p 18) (h19 : p 19) (h20 : p 20) (h21 : p 21) (h22 : p 22) (h23 : p 23) (h24 : p 24) (h25 : p 25) (h26 : p 26) (h27 : p 27) (h28 : p 28) (h29 : p 29) (h30 : p 30) (h31 : p 31) (h32 : p 32) : ∀ i, i < 33 → p i := by
  intro i hi
  have h : i = 0 ∨ i = 1 ∨ i = 2 ∨ i = 3 ∨ i = 4 ∨ i = 5 ∨ i = 6 ∨ i = 7 ∨ i = 8 ∨ i = 9 ∨ i = 10 ∨ i = 11 ∨ i = 12 ∨ i = 13 ∨ i = 14 ∨ i = 15 ∨ i = 16 ∨ i = 17 ∨ i = 18 ∨ i = 19 ∨ i = 20 ∨ i = 21 ∨ i = 22 ∨ i = 23 ∨ i = 24 ∨ i = 25 ∨ i = 26 ∨ i = 27 ∨ i = 28 ∨ i = 29 ∨ i = 30 ∨ i = 31 ∨ i = 32 := by omega
  rcases h with rfl | rfl | rfl | rfl | rfl | rfl | rfl | rfl | rfl | rfl | rfl | rfl | rfl | rfl | rfl | rfl | rfl | rfl | rfl | rfl | rfl | rfl | rfl | rfl | rfl | rfl | rfl | rfl | rfl | rfl | rfl | rfl | rfl
  · exact h0
  · exact h1
  · exact h2
  · exact h3
  · exact h4
  · exact h5
  · exact h6
  · exact h7
  · exact h8
  · exact h9
  · exact h10
  · exact h11
  · exact h12
  · exact h13
  · exact h14
  · exact h15
  · exact h16
  · exact h17
  · exact h18
  · exact h19
  · exact h20
  · exact h21
  · exact h22
  · exact h23
  · exact h24
  · exact h25
  · exact h26
  · exact h27
  · exact h28
  · exact h29
  · exact h30
  · exact h31
  · exact h32
structure Tm (v : World) (b : Nat) (f : Nat → Int) : Prop where
  lt : b < v.heap.size
  fz : ∀ o, v.frozen? ⟨b, o, none⟩ = false
  dg : ∀ i, i < 33 → v.cell? ⟨b, i, none⟩ = some (.int .u64 (f i))
theorem Tm.later {v v' : World} {b : Nat} {f : Nat → Int} (e : Ext v v') (B : Tm v b f) : Tm v' b f :=
  ⟨Nat.lt_of_lt_of_le B.lt e.more, frz_later e B.lt B.fz, fun i hi => Ext.later e (B.dg i hi)⟩
theorem Tm.alloc {v : World} {b : Nat} {f : Nat → Int} (B : Tm v b f) (o : Obj) : Tm (v.alloc o) b f := B.later (Ext.alloc (Ext.refl v) o)
theorem Tm.drew {v : World} {b : Nat} {f : Nat → Int} (B : Tm v b f) : Tm v.drew b f := B.later (Ext.drew (Ext.refl v))
theorem Tm.drewN {v : World} {b : Nat} {f : Nat → Int} (B : Tm v b f) (n : Nat) : Tm (v.drewN n) b f := B.later (Ext.drewN (Ext.refl v) n)
theorem Tm.skip {v : World} {b b' o' : Nat} {y : Value} {f : Nat → Int} (hne : b' ≠ b) (B : Tm v b f) : Tm (v.setCell ⟨b', o', none⟩ y) b f :=
  ⟨lt_set B.lt, frz_set B.fz, fun i hi => cell_skip (.inl hne) (B.dg i hi)⟩
def TmAny (v : World) (b : Nat) : Prop := ∃ f, Tm v b f
theorem Tm.any {v : World} {b : Nat} {f : Nat → Int} (B : Tm v b f) : TmAny v b := ⟨f, B⟩
theorem TmAny.alloc {v : World} {b : Nat} (h : TmAny v b) (o : Obj) : TmAny (v.alloc o) b := by
  obtain ⟨f, B⟩ := h; exact ⟨f, B.alloc o⟩
theorem TmAny.drew {v : World} {b : Nat} (h : TmAny v b)  : TmAny v.drew b := by
  obtain ⟨f, B⟩ := h; exact ⟨f, B.drew⟩
theorem TmAny.drewN {v : World} {b : Nat} (h : TmAny v b) (n : Nat) : TmAny (v.drewN n) b := by
  obtain ⟨f, B⟩ := h; exact ⟨f, B.drewN n⟩
theorem TmAny.skip {v : World} {b b' o' : Nat} {y : Value} (hne : b' ≠ b) (h : TmAny v b) : TmAny (v.setCell ⟨b', o', none⟩ y) b := by
  obtain ⟨f, B⟩ := h; exact ⟨f, B.skip hne⟩
structure Um (v : World) (b : Nat) (x : Int) : Prop where
  lt : b < v.heap.size
  fz : ∀ o, v.frozen? ⟨b, o, none⟩ = false
  c0 : v.cell? ⟨b, 0, none⟩ = some (.int .u64 x)
theorem Um.later {v v' : World} {b : Nat} {x : Int} (e : Ext v v') (B : Um v b x) : Um v' b x :=
  ⟨Nat.lt_of_lt_of_le B.lt e.more, frz_later e B.lt B.fz, Ext.later e (B.c0)⟩
theorem Um.alloc {v : World} {b : Nat} {x : Int} (B : Um v b x) (o : Obj) : Um (v.alloc o) b x := B.later (Ext.alloc (Ext.refl v) o)
theorem Um.drew {v : World} {b : Nat} {x : Int} (B : Um v b x) : Um v.drew b x := B.later (Ext.drew (Ext.refl v))
theorem Um.drewN {v : World} {b : Nat} {x : Int} (B : Um v b x) (n : Nat) : Um (v.drewN n) b x := B.later (Ext.drewN (Ext.refl v) n)
theorem Um.skip {v : World} {b b' o' : Nat} {y : Value} {x : Int} (hne : b' ≠ b) (B : Um v b x) : Um (v.setCell ⟨b', o', none⟩ y) b x :=
  ⟨lt_set B.lt, frz_set B.fz, cell_skip (.inl hne) (B.c0)⟩
def UmAny (v : World) (b : Nat) : Prop := ∃ x, Um v b x
theorem Um.any {v : World} {b : Nat} {x : Int} (B : Um v b x) : UmAny v b := ⟨x, B⟩
theorem UmAny.alloc {v : World} {b : Nat} (h : UmAny v b) (o : Obj) : UmAny (v.alloc o) b := by
  obtain ⟨f, B⟩ := h; exact ⟨f, B.alloc o⟩
theorem UmAny.drew {v : World} {b : Nat} (h : UmAny v b)  : UmAny v.drew b := by
  obtain ⟨f, B⟩ := h; exact ⟨f, B.drew⟩
theorem UmAny.drewN {v : World} {b : Nat} (h : UmAny v b) (n : Nat) : UmAny (v.drewN n) b := by
  obtain ⟨f, B⟩ := h; exact ⟨f, B.drewN n⟩
theorem UmAny.skip {v : World} {b b' o' : Nat} {y : Value} (hne : b' ≠ b) (h : UmAny v b) : UmAny (v.setCell ⟨b', o', none⟩ y) b := by
  obtain ⟨f, B⟩ := h; exact ⟨f, B.skip hne⟩
theorem Tm.new {v : World} {b : Nat} {f : Nat → Int} {cs : Array Value} {t : TypeId} (hb : v.heap.size = b) (h : ∀ i, i < 33 → cs[i]? = some (.int .u64 (f i))) : Tm (v.alloc (.cells cs t)) b f := by
  subst hb; exact ⟨by simp, frz_new _ _ _, fun i hi => new1 (h i hi)⟩
theorem Um.new {v : World} {b : Nat} {x : Int} {cs : Array Value} {t : TypeId} (hb : v.heap.size = b) (h : cs[0]? = some (.int .u64 x)) : Um (v.alloc (.cells cs t)) b x := by
  subst hb; exact ⟨by simp, frz_new _ _ _, new1 h⟩
theorem Tm.eq {v : World} {b : Nat} {f g : Nat → Int} (B : Tm v b f) (h : ∀ i, i < 33 → f i = g i) : Tm v b g := ⟨B.lt, B.fz, fun i hi => by rw [B.dg i hi, h i hi]⟩
theorem Tm.set {v : World} {b : Nat} {f : Nat → Int} (B : Tm v b f) (k : Nat) (x : Int) : Tm (v.setCell ⟨b, k, none⟩ (.int .u64 x)) b (upd f k x) :=
  ⟨lt_set B.lt, frz_set B.fz, fun i hi => by
    unfold upd
    by_cases h : i = k
    · subst h; rw [if_pos rfl]; exact cell_same (There.of (B.dg i hi))
    · rw [if_neg h]; exact cell_skip (.inr (by omega)) (B.dg i hi)⟩
theorem Um.set {v : World} {b : Nat} {x : Int} (B : Um v b x) (y : Int) : Um (v.setCell ⟨b, 0, none⟩ (.int .u64 y)) b y :=
  ⟨lt_set B.lt, frz_set B.fz, cell_same (There.of B.c0)⟩
theorem Um.store {v : World} {b : Nat} {y : Int} (B : UmAny v b) : Um (v.setCell ⟨b, 0, none⟩ (.int .u64 y)) b y := by
  obtain ⟨x, B⟩ := B; exact B.set y
theorem upd33 {f g : Nat → Int} : ∀ i, i < 33 → (upd (upd (upd (upd (upd (upd (upd (upd (upd (upd (upd (upd (upd (upd (upd (upd (upd (upd (upd (upd (upd (upd (upd (upd (upd (upd (upd (upd (upd (upd (upd (upd (upd f 0 (g 0)) 1 (g 1)) 2 (g 2)) 3 (g 3)) 4 (g 4)) 5 (g 5)) 6 (g 6)) 7 (g 7)) 8 (g 8)) 9 (g 9)) 10 (g 10)) 11 (g 11)) 12 (g 12)) 13 (g 13)) 14 (g 14)) 15 (g 15)) 16 (g 16)) 17 (g 17)) 18 (g 18)) 19 (g 19)) 20 (g 20)) 21 (g 21)) 22 (g 22)) 23 (g 23)) 24 (g 24)) 25 (g 25)) 26 (g 26)) 27 (g 27)) 28 (g 28)) 29 (g 29)) 30 (g 30)) 31 (g 31)) 32 (g 32)) i = g i := all33 rfl rfl rfl rfl rfl rfl rfl rfl rfl rfl rfl rfl rfl rfl rfl rfl rfl rfl rfl rfl rfl rfl rfl rfl rfl rfl rfl rfl rfl rfl rfl rfl rfl
theorem Tm.store {v : World} {b : Nat} {g : Nat → Int} {x0 x1 x2 x3 x4 x5 x6 x7 x8 x9 x10 x11 x12 x13 x14 x15 x16 x17 x18 x19 x20 x21 x22 x23 x24 x25 x26 x27 x28 x29 x30 x31 x32 : Value} (H : TmAny v b) (h0 : x0 = .int .u64 (g 0)) (h1 : x1 = .int .u64 (g 1)) (h2 : x2 = .int .u64 (g 2)) (h3 : x3 = .int .u64 (g 3)) (h4 : x4 = .int .u64 (g 4)) (h5 : x5 = .int .u64 (g 5)) (h6 : x6 = .int .u64 (g 6)) (h7 : x7 = .int .u64 (g 7)) (h8 : x8 = .int .u64 (g 8)) (h9 : x9 = .int .u64 (g 9)) (h10 : x10 = .int .u64 (g 10)) (h11 : x11 = .int .u64 (g 11)) (h12 : x12 = .int .u64 (g 12)) (h13 : x13 = .int .u64 (g 13)) (h14 : x14 = .int .u64 (g 14)) (h15 : x15 = .int .u64 (g 15)) (h16 : x16 = .int .u64 (g 16)) (h17 : x17 = .int .u64 (g 17)) (h18 : x18 = .int .u64 (g 18)) (h19 : x19 = .int .u64 (g 19)) (h20 : x20 = .int .u64 (g 20)) (h21 : x21 = .int .u64 (g 21)) (h22 : x22 = .int .u64 (g 22)) (h23 : x23 = .int .u64 (g 23)) (h24 : x24 = .int .u64 (g 24)) (h25 : x25 = .int .u64 (g 25)) (h26 : x26 = .int .u64 (g 26)) (h27 : x27 = .int .u64 (g 27)) (h28 : x28 = .int .u64 (g 28)) (h29 : x29 = .int .u64 (g 29)) (h30 : x30 = .int .u64 (g 30)) (h31 : x31 = .int .u64 (g 31)) (h32 : x32 = .int .u64 (g 32)) : Tm (((((((((((((((((((((((((((((((((v.setCell ⟨b, 0, none⟩ x0).setCell ⟨b, 1, none⟩ x1).setCell ⟨b, 2, none⟩ x2).setCell ⟨b, 3, none⟩ x3).setCell ⟨b, 4, none⟩ x4).setCell ⟨b, 5, none⟩ x5).setCell ⟨b, 6, none⟩ x6).setCell ⟨b, 7, none⟩ x7).setCell ⟨b, 8, none⟩ x8).setCell ⟨b, 9, none⟩ x9).setCell ⟨b, 10, none⟩ x10).setCell ⟨b, 11, none⟩ x11).setCell ⟨b, 12, none⟩ x12).setCell ⟨b, 13, none⟩ x13).setCell ⟨b, 14, none⟩ x14).setCell ⟨b, 15, none⟩ x15).setCell ⟨b, 16, none⟩ x16).setCell ⟨b, 17, none⟩ x17).setCell ⟨b, 18, none⟩ x18).setCell ⟨b, 19, none⟩ x19).setCell ⟨b, 20, none⟩ x20).setCell ⟨b, 21, none⟩ x21).setCell ⟨b, 22, none⟩ x22).setCell ⟨b, 23, none⟩ x23).setCell ⟨b, 24, none⟩ x24).setCell ⟨b, 25, none⟩ x25).setCell ⟨b, 26, none⟩ x26).setCell ⟨b, 27, none⟩ x27).setCell ⟨b, 28, none⟩ x28).setCell ⟨b, 29, none⟩ x29).setCell ⟨b, 30, none⟩ x30).setCell ⟨b, 31, none⟩ x31).setCell ⟨b, 32, none⟩ x32) b g := by
  obtain ⟨f, B⟩ := H
  subst h0 h1 h2 h3 h4 h5 h6 h7 h8 h9 h10 h11 h12 h13 h14 h15 h16 h17 h18 h19 h20 h21 h22 h23 h24 h25 h26 h27 h28 h29 h30 h31 h32
  exact (((((((((((((((((((((((((((((((((B.set 0 (g 0)).set 1 (g 1)).set 2 (g 2)).set 3 (g 3)).set 4 (g 4)).set 5 (g 5)).set 6 (g 6)).set 7 (g 7)).set 8 (g 8)).set 9 (g 9)).set 10 (g 10)).set 11 (g 11)).set 12 (g 12)).set 13 (g 13)).set 14 (g 14)).set 15 (g 15)).set 16 (g 16)).set 17 (g 17)).set 18 (g 18)).set 19 (g 19)).set 20 (g 20)).set 21 (g 21)).set 22 (g 22)).set 23 (g 23)).set 24 (g 24)).set 25 (g 25)).set 26 (g 26)).set 27 (g 27)).set 28 (g 28)).set 29 (g 29)).set 30 (g 30)).set 31 (g 31)).set 32 (g 32)).eq upd33
structure Im (v : World) (b : Nat) (i : Nat) (x : Int) : Prop where
  lt : b < v.heap.size
  fz : ∀ o, v.frozen? ⟨b, o, none⟩ = false
  ci : v.cell? ⟨b, i, none⟩ = some (.int .u64 x)
theorem Im.later {v v' : World} {b i : Nat} {x : Int} (e : Ext v v') (B : Im v b i x) : Im v' b i x :=
  ⟨Nat.lt_of_lt_of_le B.lt e.more, frz_later e B.lt B.fz, Ext.later e B.ci⟩
theorem Tm.at {v : World} {b : Nat} {f : Nat → Int} (B : Tm v b f) {i : Nat} (h : i < 33) : Im v b i (f i) := ⟨B.lt, B.fz, B.dg i h⟩
end Go.Proofs.Ythfgeopldbcniab
