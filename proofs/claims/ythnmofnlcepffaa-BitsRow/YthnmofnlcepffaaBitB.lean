/- Worlds in which only certain blocks have changed; a row of package bits in memory; what New, isThere and Len do. -/
import Derived.Test.YthnmofnlcepffaaBitA
import Derived.Test.YthnmofnlcepffaaReads
import Derived.OwnWalk
import Derived.Laws.AppendOwn
import Derived.OneCell
import Derived.Deep.AppendLies
namespace Go.Proofs.Ythnmofnlcepffaa
open Go.RowKit Go.BigFrame
set_option linter.unusedSimpArgs false
set_option linter.unusedVariables false
/-- Only the blocks of S may have changed, and new ones may be there. -/
structure Chg (S : Nat → Prop) (w w' : World) : Prop where
  os : w'.os = w.os
  tape : w'.tape = w.tape
  output : w'.output = w.output
  size : w.heap.size ≤ w'.heap.size
  block : ∀ k, k < w.heap.size → ¬ S k → w'.heap[k]? = w.heap[k]?
theorem Chg.refl (S : Nat → Prop) (w : World) : Chg S w w := ⟨rfl, rfl, rfl, Nat.le_refl _, fun _ _ _ => rfl⟩
theorem Chg.of {S : Nat → Prop} {w w' : World} (h : Ext w w') : Chg S w w' := ⟨h.os, h.tape, h.output, h.size, fun k hk _ => h.block k hk⟩
theorem Chg.grown {S : Nat → Prop} {w w' : World} {row : Option Nat} (h : w.grownBy w' row) (hS : ∀ k, row = some k → S k) : Chg S w w' :=
  ⟨h.os, h.tape, h.output, h.size, fun k hk hn => h.block k hk (fun e => hn (hS k e.symm))⟩
theorem Chg.trans {S T : Nat → Prop} {a b c : World} (h : Chg S a b) (k : Chg T b c) (hT : ∀ i, T i → S i ∨ a.heap.size ≤ i) : Chg S a c :=
  ⟨k.os.trans h.os, k.tape.trans h.tape, k.output.trans h.output, Nat.le_trans h.size k.size, fun i hi hn => (k.block i (Nat.lt_of_lt_of_le hi h.size) (fun ht => by
    rcases hT i ht with h1 | h1
    · exact hn h1
    · omega)).trans (h.block i hi hn)⟩
theorem Chg.mono {S T : Nat → Prop} {a b : World} (h : Chg S a b) (hT : ∀ i, S i → T i) : Chg T a b := ⟨h.os, h.tape, h.output, h.size, fun i hi hn => h.block i hi (fun hs => hn (hT i hs))⟩
theorem Chg.setCell {S : Nat → Prop} {a w : World} (h : Chg S a w) {b o : Nat} (hb : S b ∨ a.heap.size ≤ b) (u : Value) : Chg S a (w.setCell ⟨b, o, none⟩ u) :=
  h.trans (T := fun i => i = b) ⟨rfl, rfl, rfl, by simp [World.setCell], fun k hk hn => Below.heap_setCell w ⟨b, o, none⟩ u k hn⟩ (by rintro i rfl; exact hb)
theorem Chg.alloc {S : Nat → Prop} {a w : World} (h : Chg S a w) (o : Obj) : Chg S a (w.alloc o) := h.trans (T := S) (Chg.of (Ext.alloc (Ext.refl w) o)) (fun i hi => .inl hi)
theorem Chg.drew {S : Nat → Prop} {a w : World} (h : Chg S a w) : Chg S a w.drew := h.trans (T := S) (Chg.of (Ext.drew (Ext.refl w))) (fun i hi => .inl hi)
theorem Chg.ext {S : Nat → Prop} {a b : World} (h : Chg S a b) (hS : ∀ i, S i → a.heap.size ≤ i) : Ext a b := ⟨h.os, h.tape, h.output, h.size, fun k hk => h.block k hk (fun hs => by have := hS k hs; omega)⟩
/-- Below a base, where all that may change lies above it. -/
theorem Chg.over {S : Nat → Prop} {W a b : World} (e : Ext W a) (h : Chg S a b) (hS : ∀ i, S i → W.heap.size ≤ i) : Ext W b :=
  ⟨h.os.trans e.os, h.tape.trans e.tape, h.output.trans e.output, Nat.le_trans e.size h.size, fun k hk => (h.block k (Nat.lt_of_lt_of_le hk e.size) (fun hs => by have := hS k hs; omega)).trans (e.block k hk)⟩
theorem Chg.cell {S : Nat → Prop} {w w' : World} (h : Chg S w w') {b o : Nat} {u : Value} (hb : ¬ S b) (hc : w.cell? ⟨b, o, none⟩ = some u) : w'.cell? ⟨b, o, none⟩ = some u :=
  (World.cell?_of_block (a := ⟨b, o, none⟩) (h.block b (cell_lt hc) hb)).trans hc
theorem frz_blk {w w' : World} {b : Nat} (h : w'.heap[b]? = w.heap[b]?) (z : ∀ o, w.frozen? ⟨b, o, none⟩ = false) : ∀ o, w'.frozen? ⟨b, o, none⟩ = false := fun o => (World.frozen?_of_block (a := ⟨b, o, none⟩) h).trans (z o)
theorem S4m.blk {v v' : World} {b : Nat} {x0 x1 x2 x3 : Value} (B : S4m v b x0 x1 x2 x3) (h : v'.heap[b]? = v.heap[b]?) : S4m v' b x0 x1 x2 x3 := by
  have c : ∀ {o u}, v.cell? ⟨b, o, none⟩ = some u → v'.cell? ⟨b, o, none⟩ = some u := fun {o u} hc => (World.cell?_of_block (a := ⟨b, o, none⟩) h).trans hc
  exact ⟨cell_lt (c B.c0), frz_blk h B.fz, c B.c0, c B.c1, c B.c2, c B.c3⟩
theorem S1m.blk {v v' : World} {b : Nat} {x0 : Value} (B : S1m v b x0) (h : v'.heap[b]? = v.heap[b]?) : S1m v' b x0 := by
  have c : ∀ {o u}, v.cell? ⟨b, o, none⟩ = some u → v'.cell? ⟨b, o, none⟩ = some u := fun {o u} hc => (World.cell?_of_block (a := ⟨b, o, none⟩) h).trans hc
  exact ⟨cell_lt (c B.c0), frz_blk h B.fz, c B.c0⟩
/-- A row that is owned, over changes elsewhere. -/
theorem own_chg {S : Nat → Prop} {w w' : World} {base : Nat} {e : TypeId} {size n : Nat} {v : Value} {xs : List Value} (h : w.ownsRow base e size v n xs) (g : Chg S w w') (hv : ∀ k, v.ownBlock = some k → ¬ S k) : w'.ownsRow base e size v n xs := by
  refine ⟨h.1, h.2.imp id ?_⟩
  rintro ⟨g1, cap, cur, rfl, h1, h2, h3⟩
  refine ⟨g1, cap, cur, rfl, h1, ?_, h3⟩
  rw [g.block g1 (Array.getElem?_eq_some_iff.1 h2).1 (hv g1 rfl)]
  exact h2
theorem own_set {w : World} {base : Nat} {e : TypeId} {size n : Nat} {v : Value} {xs : List Value} (h : w.ownsRow base e size v n xs) {b o : Nat} (hb : v.ownBlock ≠ some b) (u : Value) : (w.setCell ⟨b, o, none⟩ u).ownsRow base e size v n xs :=
  own_chg h (Chg.setCell (S := fun i => i = b) (Chg.refl _ w) (.inl rfl) u) (fun k hk e => hb (by rw [hk, e]))
theorem own_ext' {w w' : World} {base : Nat} {e : TypeId} {size n : Nat} {v : Value} {xs : List Value} (h : w.ownsRow base e size v n xs) (g : Ext w w') : w'.ownsRow base e size v n xs :=
  own_chg (S := fun _ => False) h (Chg.of g) (fun _ _ h => h)
theorem own_slice {w : World} {base : Nat} {e : TypeId} {size n : Nat} {v : Value} {xs : List Value} (h : w.ownsRow base e size v n xs) : ∃ a cap, v = .slice a n cap := by
  rcases h.2 with ⟨rfl, rfl⟩ | ⟨g, cap, cur, rfl, _⟩
  · exact ⟨none, 0, rfl⟩
  · exact ⟨some ⟨g, 0, none⟩, cap, rfl⟩
theorem vl_snoc (n : Nat) (f : Nat → Value) : vl n f ++ [f n] = vl (n + 1) f := by
  unfold vl
  rw [List.range_succ, List.map_append]
  rfl
theorem vl_eq {n : Nat} {f g : Nat → Value} (h : ∀ i, i < n → f i = g i) : vl n f = vl n g := by
  unfold vl
  exact List.map_congr_left fun i hi => h i (List.mem_range.1 hi)
theorem info_byte : (Try.prog.info? 5).map (fun i => (i.zero, i.size, i.bytes)) = some (some (.int .u8 0), 1, 1) := by kernel_rfl

/-- A world in which at most the blocks of S, and new ones, are others. -/
def Alt (S : Nat → Prop) (w : World) : Type := { w' : World // Chg S w w' }
@[go_sem] theorem Alt.all {S : Nat → Prop} {w : World} {p : Prop} : (∀ _ : Alt S w, p) ↔ p := ⟨fun h => h ⟨w, Chg.refl S w⟩, fun h _ => h⟩
def Alt.out {S : Nat → Prop} {w : World} (x : Alt S w) : World := x.1
theorem Alt.chg {S : Nat → Prop} {w : World} (x : Alt S w) : Chg S w x.out := x.2
theorem Alt.cell {S : Nat → Prop} {w : World} (x : Alt S w) {b o : Nat} {u : Value} (hb : ¬ S b) (hc : w.cell? ⟨b, o, none⟩ = some u) : x.out.cell? ⟨b, o, none⟩ = some u := x.2.cell hb hc
/-- A row of bits in memory: its struct r, its shelf sh, the slice u of its whole bytes. -/
structure Row (v : World) (r sh : Nat) (u : Value) (β : Nat → Int) (n : Nat) : Prop where
  box : S4m v r (.pointer (some ⟨sh, 0, none⟩)) (.int .i64 ((n / 8 : Nat) : Int)) (.int .u8 (nb β (8 * (n / 8)) (n % 8) * 2 ^ (8 - n % 8))) (.int .i64 ((8 - n % 8 : Nat) : Int))
  shelf : S1m v sh u
  own : v.ownsRow 0 5 1 u (n / 8) (vl (n / 8) (fun i => .int .u8 (nb β (8 * i) 8)))
  ne : r ≠ sh
  nu : ∀ g, u.ownBlock = some g → g ≠ r ∧ g ≠ sh
  bits : Bits β
  le : n ≤ 524288
/-- The blocks of a row. -/
def In (r sh : Nat) (u : Value) (k : Nat) : Prop := k = r ∨ k = sh ∨ u.ownBlock = some k
theorem Row.chg {v v' : World} {r sh : Nat} {u : Value} {β : Nat → Int} {n : Nat} {S : Nat → Prop} (R : Row v r sh u β n) (h : Chg S v v') (hS : ∀ k, In r sh u k → ¬ S k) : Row v' r sh u β n :=
  ⟨R.box.blk (h.block r R.box.lt (hS r (.inl rfl))), R.shelf.blk (h.block sh R.shelf.lt (hS sh (.inr (.inl rfl)))), own_chg R.own h (fun k hk => hS k (.inr (.inr hk))), R.ne, R.nu, R.bits, R.le⟩
theorem Row.later {v v' : World} {r sh : Nat} {u : Value} {β : Nat → Int} {n : Nat} (R : Row v r sh u β n) (h : Ext v v') : Row v' r sh u β n := R.chg (S := fun _ => False) (Chg.of h) (fun _ _ h => h)
theorem Row.lt {v : World} {r sh : Nat} {u : Value} {β : Nat → Int} {n : Nat} (R : Row v r sh u β n) : ∀ k, In r sh u k → k < v.heap.size := by
  rintro k (rfl | rfl | h)
  · exact R.box.lt
  · exact R.shelf.lt
  · exact (R.own.lt k h).2
/-- Other bits behind the last one. -/
theorem Row.congr {v : World} {r sh : Nat} {u : Value} {β γ : Nat → Int} {n : Nat} (R : Row v r sh u β n) (hγ : Bits γ) (h : ∀ i, i < n → β i = γ i) : Row v r sh u γ n := by
  have e : nb β (8 * (n / 8)) (n % 8) = nb γ (8 * (n / 8)) (n % 8) := nb_congr _ _ fun i h1 h2 => h i (by omega)
  have e2 : vl (n / 8) (fun i => Value.int .u8 (nb β (8 * i) 8)) = vl (n / 8) (fun i => .int .u8 (nb γ (8 * i) 8)) := vl_eq fun i hi => by rw [nb_congr _ _ fun j h1 h2 => h j (by omega)]
  have b := R.box
  have o := R.own
  rw [e] at b
  rw [e2] at o
  exact ⟨b, R.shelf, o, R.ne, R.nu, hγ, R.le⟩
/-- What a call that writes a row does to the world. -/
def Stp (w w' : World) (r sh : Nat) (u u' : Value) : Prop := Chg (In r sh u) w w' ∧ ∀ g, u'.ownBlock = some g → u.ownBlock = some g ∨ w.heap.size ≤ g
theorem Stp.refl (w : World) (r sh : Nat) (u : Value) : Stp w w r sh u u := ⟨Chg.refl _ _, fun _ h => .inl h⟩
theorem Stp.of {w w' : World} (r sh : Nat) (u : Value) (h : Ext w w') : Stp w w' r sh u u := ⟨Chg.of h, fun _ h => .inl h⟩
theorem Stp.trans {a b c : World} {r sh : Nat} {u u' u'' : Value} (h : Stp a b r sh u u') (k : Stp b c r sh u' u'') : Stp a c r sh u u'' := by
  refine ⟨h.1.trans k.1 ?_, fun g hg => ?_⟩
  · rintro i (rfl | rfl | hi)
    · exact .inl (.inl rfl)
    · exact .inl (.inr (.inl rfl))
    · exact (h.2 i hi).imp (fun e => .inr (.inr e)) id
  · rcases k.2 g hg with h1 | h1
    · exact h.2 g h1
    · exact .inr (Nat.le_trans h.1.size h1)
theorem Stp.over {W w w' : World} {r sh : Nat} {u u' : Value} (h : Stp w w' r sh u u') (e : Ext W w) (hr : ∀ k, In r sh u k → W.heap.size ≤ k) : Ext W w' ∧ ∀ k, In r sh u' k → W.heap.size ≤ k := by
  refine ⟨h.1.over e hr, ?_⟩
  rintro k (rfl | rfl | hk)
  · exact hr _ (.inl rfl)
  · exact hr _ (.inr (.inl rfl))
  · rcases h.2 k hk with h1 | h1
    · exact hr _ (.inr (.inr h1))
    · have := e.more; omega
set_option maxHeartbeats 1600000 in
theorem isThere_any (r : Nat) (p : Addr) (w : World) (h : w.cell? ⟨r, 0, none⟩ = some (.pointer (some p))) :
    Calls Try.prog 33 #[.pointer (some ⟨r, 0, none⟩)] w fun e w' => e = .returned (.bool true) ∧ w' = w := by
  go_enter Try.func33, Try.ntmps33
  go_wp2
  go_ret
  exact ⟨rfl, rfl⟩
theorem isThere_nil (w : World) : Calls Try.prog 33 #[.pointer none] w fun e w' => e = .returned (.bool false) ∧ w' = w := by
  go_enter Try.func33, Try.ntmps33
  go_wp2
  go_ret
  exact ⟨rfl, rfl⟩
theorem isThere_void (r : Nat) (w : World) (h : w.cell? ⟨r, 0, none⟩ = some (.pointer none)) :
    Calls Try.prog 33 #[.pointer (some ⟨r, 0, none⟩)] w fun e w' => e = .returned (.bool false) ∧ w' = w := by
  go_enter Try.func33, Try.ntmps33
  go_wp2
  go_ret
  exact ⟨rfl, rfl⟩
set_option maxHeartbeats 1600000 in
theorem len_any (r sh n : Nat) (u : Value) (β : Nat → Int) (w : World) (R : Row w r sh u β n) :
    Calls Try.prog 21 #[.pointer (some ⟨r, 0, none⟩)] w fun e w' => e = .returned (.int .i64 n) ∧ Ext w w' := by
  have EX := Ext.refl w
  have hle := R.le
  have B := R.box
  clear R
  obtain ⟨m, hm⟩ : ∃ m : Nat, n / 8 = m := ⟨_, rfl⟩
  obtain ⟨k, hk⟩ : ∃ k : Nat, 8 - n % 8 = k := ⟨_, rfl⟩
  rw [hm, hk] at B
  have HN : Hid (8 * ((m : Int) + 1) - (k : Int) = n) := show _ = _ by omega
  have hm1 : m ≤ 65536 := by omega
  have hk1 : k ≤ 8 := by omega
  clear hm hk hle
  have c0 := B.c0
  have c1 := B.c1
  have c3 := B.c3
  go_enter Try.func21, Try.ntmps21
  go_wp2_with (first | (go_at_call 33; with_reducible refine (isThere_any _ _ _ c0).mono ?_; rintro e w' ⟨rfl, rfl⟩))
  have g1 := fun x' : Grow w' => x'.ext.later c1
  have g3 := fun x' : Grow w' => x'.ext.later c3
  refine wp_region_grow (by kernel_rfl) (by kernel_rfl) ?_; (repeat (first | go_big_quiet_step (fail))); refine wpQuiet_nil ?_; rintro _ ⟨xq, rfl⟩; replace EX := Ext.trans EX xq.ext; generalize xq.out = v1 at *
  go_wp2
  go_ret
  exact ⟨by rw [← HN.out]; rfl, EX⟩
theorem new_any (w : World) : Calls Try.prog 14 #[] w fun e w' => e = .returned (.pointer (some ⟨w.heap.size + 1, 0, none⟩)) ∧ Ext w w' ∧ ∀ β, Bits β → Row w' (w.heap.size + 1) w.heap.size (.slice none 0 0) β 0 := by
  go_enter Try.func14, Try.ntmps14
  go_wp2
  go_ret
  refine ⟨rfl, ((Ext.refl w).alloc _).alloc _, fun β hb => ⟨S4m.new (by simp) rfl rfl ?_ rfl, (S1m.new rfl rfl).alloc _, World.ownsRow_nil _ _ _ _, by omega, by simp [Value.ownBlock], hb, by omega⟩⟩
  show some (Value.int .u8 0) = some (Value.int .u8 (nb β 0 0 * 2 ^ 8))
  rw [nb_zero, Int.zero_mul]
end Go.Proofs.Ythnmofnlcepffaa
