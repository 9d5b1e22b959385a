/- Worlds that have only grown, the class of such worlds for regions that draw their order, and wide numbers as plain integers: laws that name no program. -/
import Derived.WalkKit
import Derived.WalkSpells
import Derived.WalkLawsBesides
import Derived.Deep.RegionHeld3
import Derived.Deep.CutRange
import Derived.Deep.DeepCutAuto
import Derived.BigQuiet
import Derived.Deep.QuietTactic
namespace Go.Proofs.YthlhmfjopjikpaaDoor
open Go.RowKit

/-- The world has grown: what was there is as it was. -/
def Ext (w w' : World) : Prop := Below w.heap.size w w'
theorem Ext.refl (w : World) : Ext w w := Below.refl _ _
theorem Ext.trans {a b c : World} (h : Ext a b) (k : Ext b c) : Ext a c := Below.trans h (Below.mono k h.size)
theorem Ext.alloc {a w : World} (h : Ext a w) (o : Obj) : Ext a (w.alloc o) := Below.alloc h h.size o
theorem Ext.drew {a w : World} (h : Ext a w) : Ext a w.drew := Below.drew h
theorem Ext.drewN {a w : World} (h : Ext a w) (n : Nat) : Ext a (w.drewN n) := below_drewN h n
theorem Ext.setCell {a w : World} (h : Ext a w) {p : Addr} (hp : a.heap.size ≤ p.block) (u : Value) : Ext a (w.setCell p u) := Below.setCell h hp u
theorem Ext.later {w w' : World} (h : Ext w w') {p : Addr} {v : Value} (hc : w.cell? p = some v) : w'.cell? p = some v := cell_later h hc
theorem Ext.thaw {w w' : World} (h : Ext w w') {p : Addr} {v : Value} (hc : w.cell? p = some v) (hf : w.frozen? p = false) : w'.frozen? p = false := by
  have hlt : p.block < w.heap.size := by
    rcases Nat.lt_or_ge p.block w.heap.size with h | h
    · exact h
    · simp [World.cell?, Array.getElem?_eq_none h] at hc
  rw [Below.frozen h hlt]; exact hf

/-- All old cells and marks read as before: three rules that a walk uses by itself. -/
theorem Ext.rules {W w1 : World} (hb : Ext W w1) : (∀ b o, b < W.heap.size → w1.cell? ⟨b, o, none⟩ = W.cell? ⟨b, o, none⟩) ∧ (∀ b o, b < W.heap.size → w1.frozen? ⟨b, o, none⟩ = W.frozen? ⟨b, o, none⟩) ∧ (∀ n, n < W.heap.size → n < w1.heap.size) :=
  ⟨fun b o h => Below.cell hb (p := ⟨b, o, none⟩) h, fun b o h => Below.frozen hb (p := ⟨b, o, none⟩) h, fun _ h => Nat.lt_of_lt_of_le h hb.size⟩
theorem Ext.more {W w1 : World} (hb : Ext W w1) : W.heap.size ≤ w1.heap.size := hb.size

theorem cell_lt {w : World} {b o : Nat} {v : Value} (h : w.cell? ⟨b, o, none⟩ = some v) : b < w.heap.size := by
  rcases Nat.lt_or_ge b w.heap.size with h' | h'
  · exact h'
  · simp [World.cell?, Array.getElem?_eq_none h'] at h
theorem old1 {w : World} {o : Obj} {p : Addr} {v : Value} (h : w.cell? p = some v) : (w.alloc o).cell? p = some v := Ext.later (Ext.alloc (Ext.refl w) o) h
theorem new1 {w : World} {cs : Array Value} {t : TypeId} {i : Nat} {v : Value} (h : cs[i]? = some v) : (w.alloc (.cells cs t)).cell? ⟨w.heap.size, i, none⟩ = some v := by
  rw [World.cell?_alloc_new w cs t i, h]
theorem old2 {w : World} {o o' : Obj} {p : Addr} {v : Value} (h : w.cell? p = some v) : ((w.alloc o).alloc o').cell? p = some v := old1 (old1 h)
theorem old3 {w : World} {o o' o'' : Obj} {p : Addr} {v : Value} (h : w.cell? p = some v) : (((w.alloc o).alloc o').alloc o'').cell? p = some v := old1 (old2 h)
theorem thaw1 {w : World} {o : Obj} {p : Addr} {v : Value} (h : w.cell? p = some v) (hf : w.frozen? p = false) : (w.alloc o).frozen? p = false := Ext.thaw (Ext.alloc (Ext.refl w) o) h hf
theorem thaw2 {w : World} {o o' : Obj} {p : Addr} {v : Value} (h : w.cell? p = some v) (hf : w.frozen? p = false) : ((w.alloc o).alloc o').frozen? p = false := thaw1 (old1 h) (thaw1 h hf)
theorem thaw3 {w : World} {o o' o'' : Obj} {p : Addr} {v : Value} (h : w.cell? p = some v) (hf : w.frozen? p = false) : (((w.alloc o).alloc o').alloc o'').frozen? p = false := thaw1 (old2 h) (thaw2 h hf)
/-- A cell behind stores. -/
def There (w : World) (p : Addr) : Prop := ∃ u, w.cell? p = some u
theorem There.of {w : World} {p : Addr} {u : Value} (h : w.cell? p = some u) : There w p := ⟨u, h⟩
theorem There.set {w : World} {p q : Addr} {v : Value} (h : There w q) : There (w.setCell p v) q := by
  obtain ⟨u, hu⟩ := h
  obtain ⟨v', hv⟩ := cell?_setCell_some (w := w) (p := p) (x := v) (q := q) (v := u) hu
  exact ⟨v', hv⟩
theorem cell_same {w : World} {b o : Nat} {v : Value} (h : There w ⟨b, o, none⟩) : (w.setCell ⟨b, o, none⟩ v).cell? ⟨b, o, none⟩ = some v := by
  obtain ⟨u, hu⟩ := h
  simp [go_sem, hu]
theorem cell_skip {w : World} {b o b' o' : Nat} {v u : Value} (hne : b ≠ b' ∨ o ≠ o') (h : w.cell? ⟨b', o', none⟩ = some u) : (w.setCell ⟨b, o, none⟩ v).cell? ⟨b', o', none⟩ = some u := by
  rw [World.cell?_setCell_other]
  · exact h
  · intro e; cases e; rcases hne with h | h <;> exact h rfl
/-- Forget how a world was made: keep what is said of it. -/
theorem rebase {G : World → Prop} (W : World) (F : World → Prop) (h : F W) (k : ∀ w, F w → G w) : G W := k W h

/-- A world that has grown out of w. -/
def Grow (w : World) : Type := { w' : World // Ext w w' }
@[go_sem] theorem Grow.all {w : World} {p : Prop} : (∀ _ : Grow w, p) ↔ p := ⟨fun h => h ⟨w, Ext.refl w⟩, fun h _ => h⟩
def Grow.out {w : World} (x : Grow w) : World := x.1
theorem Grow.cell {w : World} (x : Grow w) {p : Addr} {v : Value} (hc : w.cell? p = some v) : x.out.cell? p = some v := Ext.later x.2 hc
theorem Grow.thaw {w : World} (x : Grow w) {p : Addr} {v : Value} (hc : w.cell? p = some v) (hf : w.frozen? p = false) : x.out.frozen? p = false := Ext.thaw x.2 hc hf
theorem Grow.ext {w : World} (x : Grow w) : Ext w x.out := x.2
theorem calls_grow {P : Program} {f : FuncId} {args : Array Value} {w : World} {x : Grow w} {v : Value}
    (h : Calls P f args x.out fun e w' => e = .returned v ∧ Ext x.out w') : Calls P f args x.out fun e w'' => e = .returned v ∧ ∃ y : Grow w, w'' = y.out :=
  h.mono fun _ w' ⟨he, hm⟩ => ⟨he, ⟨w', Ext.trans x.2 hm⟩, rfl⟩
/-- A region that draws its order, whose operations read and whose callees only make memory: the order of the text serves every order. -/
theorem wp_region_grow {P : Program} {id : Nat} {Q : Exit → Act → World → Prop} {a : Act} {w : World} {l : List Oper} (hm : P.follows .mixedOrders = true) (hB : Region.lexB .any l.toArray = true)
    (h : wpQuiet P l.toArray (fun w' => ∃ x : Grow w, w' = x.out) (fun a' => ∀ w', (∃ x : Grow w, w' = x.out) → Q .normal a' w') l a) : (Code.region id l.toArray true).wp P Q a w :=
  wp_region_quiet (C := fun w' => ∃ x : Grow w, w' = x.out) hm hB ⟨⟨_, Ext.drew (Ext.refl w)⟩, rfl⟩ (by simpa using h)

theorem u64_wrap (n : Int) : IntKind.u64.wrap n = n % 18446744073709551616 := by simp [IntKind.wrap, IntKind.signed, IntKind.bits]
/-- The upper and the lower word of a number. -/
def hi (x : Int) : Int := x / 18446744073709551616
def lo (x : Int) : Int := x % 18446744073709551616
/-- Modulo 2^128, and back to a number with a sign. -/
def um (x : Int) : Int := x % 340282366920938463463374607431768211456
def sm (x : Int) : Int := (x + 170141183460469231731687303715884105728) % 340282366920938463463374607431768211456 - 170141183460469231731687303715884105728
def InW (x : Int) : Prop := -170141183460469231731687303715884105728 ≤ x ∧ x < 170141183460469231731687303715884105728
def InU (x : Int) : Prop := 0 ≤ x ∧ x < 340282366920938463463374607431768211456
def In64 (x : Int) : Prop := -9223372036854775808 ≤ x ∧ x < 9223372036854775808
def InU64 (x : Int) : Prop := 0 ≤ x ∧ x < 18446744073709551616
theorem hilo (x : Int) : hi x * 18446744073709551616 + lo x = x := by unfold hi lo; omega
theorem hi_of (h l : Int) (hl : InU64 l) : hi (h * 18446744073709551616 + l) = h := by unfold hi InU64 at *; omega
theorem lo_of (h l : Int) (hl : InU64 l) : lo (h * 18446744073709551616 + l) = l := by unfold lo InU64 at *; omega
theorem lo_in (x : Int) : InU64 (lo x) := by unfold lo InU64; omega
theorem lo_0 (x : Int) : 0 ≤ lo x := (lo_in x).1
theorem lo_1 (x : Int) : lo x < 18446744073709551616 := (lo_in x).2
theorem hi_in {x : Int} (h : InW x) : In64 (hi x) := by unfold hi InW In64 at *; omega
theorem hi_inU {x : Int} (h : InU x) : InU64 (hi x) := by unfold hi InU InU64 at *; omega
theorem um_in (x : Int) : InU (um x) := by unfold um InU; omega
theorem sm_in (x : Int) : InW (sm x) := by unfold sm InW; omega
theorem hi_neg (x : Int) : (hi x < 0) = (x < 0) := by unfold hi; apply propext; omega
theorem hilo_eq (a b : Int) : a = b ↔ hi a = hi b ∧ lo a = lo b := ⟨fun h => by rw [h]; exact ⟨rfl, rfl⟩, fun h => by rw [← hilo a, ← hilo b, h.1, h.2]⟩
@[go_sem] theorem ite_hilo {α : Type} (a b : Int) (X Y : α) : (if hi a = hi b then if lo a = lo b then X else Y else Y) = if a = b then X else Y := by
  by_cases h : a = b
  · simp [h]
  · rw [if_neg h]; split
    · rw [if_neg]; intro hl; exact h ((hilo_eq a b).2 ⟨by assumption, hl⟩)
    · rfl
@[go_sem] theorem ite_lohi {α : Type} (a b : Int) (X Y : α) : (if lo a = lo b then if hi a = hi b then X else Y else Y) = if a = b then X else Y := by
  by_cases h : a = b
  · simp [h]
  · rw [if_neg h]; split
    · rw [if_neg]; intro hl; exact h ((hilo_eq a b).2 ⟨hl, by assumption⟩)
    · rfl
@[go_sem] theorem ite_okb {p : Prop} [Decidable p] (w : World) : (if p then Result.ok (Next.value (.bool true)) w else Result.ok (Next.value (.bool false)) w) = Result.ok (Next.value (.bool (decide p))) w := by
  split <;> simp [*]
@[go_sem] theorem ite_oknb {p : Prop} [Decidable p] (w : World) : (if p then Result.ok (Next.value (.bool false)) w else Result.ok (Next.value (.bool true)) w) = Result.ok (Next.value (.bool (!decide p))) w := by
  split <;> simp [*]
/-- What is answered for a number: itself, or 0 and ErrOver. -/
def fit (z : Int) : Int := if -170141183460469231731687303715884105728 ≤ z ∧ z < 170141183460469231731687303715884105728 then z else 0
def err (z : Int) : Int := if -170141183460469231731687303715884105728 ≤ z ∧ z < 170141183460469231731687303715884105728 then 0 else 11
theorem fit_in (z : Int) : InW (fit z) := by unfold fit InW; split <;> omega
theorem fit_of {z : Int} (h : InW z) : fit z = z ∧ err z = 0 := by unfold fit err InW at *; rw [if_pos h, if_pos h]; exact ⟨rfl, rfl⟩
theorem fit_no {z : Int} (h : ¬ InW z) : fit z = 0 ∧ err z = 11 := by unfold fit err InW at *; rw [if_neg h, if_neg h]; exact ⟨rfl, rfl⟩
/-- Two arrays of integers, cell by cell. -/
theorem eq_ints {P : Program} {d n : Nat} {t e : TypeId} {k : IntKind} (ht : P.underlying t = some (.array n e)) (he : P.underlying e = some (.int k))
    (ha : ∀ w, (isAgg e).run P w = .ok false w) (hz : ∀ w, (sizeOf e).run P w = .ok 1 w) (xs ys : List Int) (hx : xs.length = n) (hy : ys.length = n) (w : World) :
    (Op.equalIn (d + 2) t (.agg (xs.map (.int k)).toArray) (.agg (ys.map (.int k)).toArray)).run P w = .ok (xs == ys) w := by
  rw [Op.equalIn]
  simp only [Sem.run_bind, run_underlying ht, Result.andThen_ok, hz, Nat.mul_one]
  rw [Std.Legacy.Range.forIn_eq_forIn_range']
  simp only [Std.Legacy.Range.size, Nat.sub_zero, Nat.add_sub_cancel, Nat.div_one]
  have key : ∀ m j, j + m = n → ((forIn (List.range' j m) ((none, ()) : Option Bool × Unit) fun i __s => do
      let a ← part e (xs.map (Value.int k)).toArray i
      let b ← part e (ys.map (Value.int k)).toArray i
      let __do_lift ← Op.equalIn (d + 1) e a b
      if (!__do_lift) = true then pure (ForInStep.done (some false, ())) else pure (ForInStep.yield (none, ())))).run P w = .ok ((if xs.drop j == ys.drop j then none else some false), ()) w := by
    intro m
    induction m with
    | zero =>
      intro j hj
      simp [List.drop_eq_nil_of_le (show xs.length ≤ j by omega), List.drop_eq_nil_of_le (show ys.length ≤ j by omega)]
    | succ m ih =>
      intro j hj
      have hjx : j < xs.length := by omega
      have hjy : j < ys.length := by omega
      have p1 : ∀ (zs : List Int) (hz : j < zs.length), (part e (zs.map (.int k)).toArray j).run P w = .ok (.int k zs[j]) w := fun zs hz => by
        simp [part, ha, hz]
      rw [List.range'_succ, List.forIn_cons]
      simp only [Sem.run_bind, p1 xs hjx, p1 ys hjy, Result.andThen_ok, run_equalIn_int w d e k k _ _ he]
      have hd : (xs.drop j == ys.drop j) = (xs[j] == ys[j] && xs.drop (j + 1) == ys.drop (j + 1)) := by
        rw [List.drop_eq_getElem_cons hjx, List.drop_eq_getElem_cons hjy]; rfl
      rw [hd]
      by_cases hh : xs[j] = ys[j]
      · have := ih (j + 1) (by omega)
        simp only [hh, BEq.rfl, Bool.not_true, Bool.false_eq_true, if_false, Sem.run_pure, Result.andThen_ok, Bool.true_and]
        exact this
      · simp [hh]
  rw [key n 0 (by omega)]
  simp only [Result.andThen_ok, List.drop_zero]
  by_cases h : xs == ys <;> simp [h]
end Go.Proofs.YthlhmfjopjikpaaDoor
