/- What the given function Turns of gouacheref05 does: it returns C(0), S(0) to C(40), S(40), in new memory. -/
import Derived.Test.YthfgeopldbcniaaAngG
import Derived.OwnWalk
import Derived.Laws.AppendOwn
import Derived.OneCell
namespace Go.Proofs.Ythfgeopldbcniaa
open Go.RowKit Go.BigFrame
set_option linter.unusedSimpArgs false
set_option linter.unusedVariables false
theorem ext_grown {w w' : World} (h : Ext w w') : w.grownBy w' none := ⟨h.os, h.tape, h.output, h.size, fun k hk _ => h.block k hk⟩
theorem own_later {w w' : World} {base : Nat} {e : TypeId} {size n : Nat} {v : Value} {xs : List Value} (h : w.ownsRow base e size v n xs) (g : Ext w w') : w'.ownsRow base e size v n xs :=
  h.kept (ext_grown g) (by by_cases k : v.ownBlock = none; exact .inl k; exact .inr k)
theorem own_ext {a w w' : World} {e : TypeId} {size n : Nat} {v : Value} {xs : List Value} (EX : Ext a w) (h : w.ownsRow a.heap.size e size v n xs) (g : w.grownBy w' v.ownBlock) : Ext a w' :=
  Below.grown EX g EX.size (fun k hk => (h.lt k hk).1)
theorem info_place : (Try.prog.info? 45).map (fun i => (i.zero, i.size, i.bytes)) = some (some (.agg #[.int .i64 0, .int .i64 0]), 2, 16) := by kernel_rfl
/-- A row of places that is owned. -/
structure Om (v : World) (b base cap n : Nat) (xs : List Value) : Prop where
  lt : b < v.heap.size
  fz : ∀ o, v.frozen? ⟨b, o, none⟩ = false
  own : v.ownsRow base 45 2 (.slice (some ⟨b, 0, none⟩) n cap) n xs
theorem Om.later {v v' : World} {b base cap n : Nat} {xs : List Value} (e : Ext v v') (B : Om v b base cap n xs) : Om v' b base cap n xs :=
  ⟨Nat.lt_of_lt_of_le B.lt e.more, frz_later e B.lt B.fz, own_later B.own e⟩
theorem Om.alloc {v : World} {b base cap n : Nat} {xs : List Value} (B : Om v b base cap n xs) (o : Obj) : Om (v.alloc o) b base cap n xs := B.later (Ext.alloc (Ext.refl v) o)
theorem Om.drew {v : World} {b base cap n : Nat} {xs : List Value} (B : Om v b base cap n xs) : Om v.drew b base cap n xs := B.later (Ext.drew (Ext.refl v))
theorem Om.drewN {v : World} {b base cap n : Nat} {xs : List Value} (B : Om v b base cap n xs) (k : Nat) : Om (v.drewN k) b base cap n xs := B.later (Ext.drewN (Ext.refl v) k)
theorem Om.skip {v : World} {b b' o' base cap n : Nat} {xs : List Value} {y : Value} (hne : b' ≠ b) (B : Om v b base cap n xs) : Om (v.setCell ⟨b', o', none⟩ y) b base cap n xs :=
  ⟨lt_set B.lt, frz_set B.fz, ownsRow_setCell_other B.own (by simp [Value.ownBlock]; omega) y⟩
theorem Om.of {v : World} {base n : Nat} {u : Value} {xs : List Value} (h : v.ownsRow base 45 2 u (n + 1) xs) : ∃ b cap, u = .slice (some ⟨b, 0, none⟩) (n + 1) cap ∧ base ≤ b ∧ Om v b base cap (n + 1) xs := by
  have h0 := h
  rcases h.2 with ⟨_, h0⟩ | ⟨b, cap, cur, rfl, hb, h2, h3⟩
  · omega
  · refine ⟨b, cap, rfl, hb, (Array.getElem?_eq_some_iff.1 h2).1, fun o => ?_, h0⟩
    simp [World.frozen?, h2]
theorem Om.cell {v : World} {b base cap n : Nat} {f : Nat → Value} {m : Nat} (B : Om v b base cap n (vl m f)) {i : Nat} (hi : i < m) : v.cell? ⟨b, i, none⟩ = some (f i) := by
  have := B.own.cells (g := b) rfl i (f i) (vl_at m f hi)
  rw [Addr.add_mid, Nat.zero_add] at this
  exact this
theorem Om.pair {v : World} {b base cap n : Nat} {f : Nat → Value} {m : Nat} (B : Om v b base cap n (vl m f)) {i : Nat} (hi : i + 1 < m) : Jm v b i (f i) (f (i + 1)) := ⟨B.lt, B.fz, B.cell (by omega), B.cell hi⟩
theorem Jm.alloc {v : World} {b i : Nat} {x y : Value} (B : Jm v b i x y) (o : Obj) : Jm (v.alloc o) b i x y := B.later (Ext.alloc (Ext.refl v) o)
theorem Jm.drew {v : World} {b i : Nat} {x y : Value} (B : Jm v b i x y) : Jm v.drew b i x y := B.later (Ext.drew (Ext.refl v))
theorem Jm.drewN {v : World} {b i : Nat} {x y : Value} (B : Jm v b i x y) (n : Nat) : Jm (v.drewN n) b i x y := B.later (Ext.drewN (Ext.refl v) n)
theorem Jm.skip {v : World} {b b' o' i : Nat} {u x y : Value} (hne : b' ≠ b) (B : Jm v b i x y) : Jm (v.setCell ⟨b', o', none⟩ u) b i x y :=
  ⟨lt_set B.lt, frz_set B.fz, cell_skip (.inl hne) B.ci, cell_skip (.inl hne) B.cj⟩
theorem vl_next (g : Nat → Int × Int) (k : Nat) : vl ((k + 1) * 2) (arcV g) ++ [.int .i64 (g (k + 1)).1, .int .i64 (g (k + 1)).2] = vl ((k + 1 + 1) * 2) (arcV g) := by
  unfold vl
  rw [show (k + 1 + 1) * 2 = (k + 1) * 2 + 1 + 1 by omega, List.range_succ, List.range_succ, List.map_append, List.map_append]
  simp only [List.map_cons, List.map_nil, List.append_assoc, List.cons_append, List.nil_append]
  rw [arcV_0, arcV_1]
theorem own_start (w : World) (base : Nat) (hb : base ≤ w.heap.size) (g : Nat → Int × Int) (g0 : g 0 = (0, 4611686018427387904)) : (w.alloc (.cells #[.int .i64 0, .int .i64 4611686018427387904] 45)).ownsRow base 45 2 (.slice (some ⟨w.heap.size, 0, none⟩) 1 1) 1 (vl 2 (arcV g)) := by
  have e : vl 2 (arcV g) = [.int .i64 0, .int .i64 4611686018427387904] := by
    unfold vl arcV
    simp [List.range_succ, g0]
  rw [e]
  exact ⟨rfl, .inr ⟨w.heap.size, 1, _, rfl, hb, heap_alloc_new w _, Nat.le_refl _, by decide, rfl, rfl⟩⟩

set_option maxRecDepth 20000 in
set_option maxHeartbeats 16000000 in
theorem turns5_walk (g : Nat → Int × Int) (g0 : g 0 = (0, 4611686018427387904)) (p2 p : Nat → Int) (s1 s2 s3 s4 : Nat → Bool) (X1 X2 X3 X4 : Nat → Int) (rm : Nat → Int) (hr : Hid (∀ k, k < 40 → 0 ≤ (g (k + 1)).1 ∧ (g (k + 1)).1 < 9223372036854775808 ∧ 0 ≤ (g (k + 1)).2 ∧ (g (k + 1)).2 < 9223372036854775808))
    (C1 : Hid (∀ k, k < 40 → ∀ w, Calls Try.prog 34 #[.int .i64 4611686018427387904, .int .i64 2305843009213693952] w fun e w' => e = .returned (.agg #[.bool (s1 k), .int .i64 (dg (X1 k) 0), .int .i64 (dg (X1 k) 1), .int .i64 (dg (X1 k) 2), .int .i64 (dg (X1 k) 3), .int .i64 (dg (X1 k) 4), .int .i64 (dg (X1 k) 5), .int .i64 (dg (X1 k) 6), .int .i64 (dg (X1 k) 7), .int .i64 (dg (X1 k) 8), .int .i64 (dg (X1 k) 9), .int .i64 (dg (X1 k) 10), .int .i64 (dg (X1 k) 11)]) ∧ Ext w w'))
    (C2 : Hid (∀ k, k < 40 → ∀ w, Calls Try.prog 34 #[.int .i64 (g k).1, .int .i64 2305843009213693952] w fun e w' => e = .returned (.agg #[.bool (s2 k), .int .i64 (dg (X2 k) 0), .int .i64 (dg (X2 k) 1), .int .i64 (dg (X2 k) 2), .int .i64 (dg (X2 k) 3), .int .i64 (dg (X2 k) 4), .int .i64 (dg (X2 k) 5), .int .i64 (dg (X2 k) 6), .int .i64 (dg (X2 k) 7), .int .i64 (dg (X2 k) 8), .int .i64 (dg (X2 k) 9), .int .i64 (dg (X2 k) 10), .int .i64 (dg (X2 k) 11)]) ∧ Ext w w'))
    (C3 : Hid (∀ k, k < 40 → ∀ w, Calls Try.prog 33 #[(.agg #[.bool (s1 k), .int .i64 (dg (X1 k) 0), .int .i64 (dg (X1 k) 1), .int .i64 (dg (X1 k) 2), .int .i64 (dg (X1 k) 3), .int .i64 (dg (X1 k) 4), .int .i64 (dg (X1 k) 5), .int .i64 (dg (X1 k) 6), .int .i64 (dg (X1 k) 7), .int .i64 (dg (X1 k) 8), .int .i64 (dg (X1 k) 9), .int .i64 (dg (X1 k) 10), .int .i64 (dg (X1 k) 11)]), (.agg #[.bool (s2 k), .int .i64 (dg (X2 k) 0), .int .i64 (dg (X2 k) 1), .int .i64 (dg (X2 k) 2), .int .i64 (dg (X2 k) 3), .int .i64 (dg (X2 k) 4), .int .i64 (dg (X2 k) 5), .int .i64 (dg (X2 k) 6), .int .i64 (dg (X2 k) 7), .int .i64 (dg (X2 k) 8), .int .i64 (dg (X2 k) 9), .int .i64 (dg (X2 k) 10), .int .i64 (dg (X2 k) 11)])] w fun e w' => e = .returned (.agg #[.bool (s3 k), .int .i64 (dg (X3 k) 0), .int .i64 (dg (X3 k) 1), .int .i64 (dg (X3 k) 2), .int .i64 (dg (X3 k) 3), .int .i64 (dg (X3 k) 4), .int .i64 (dg (X3 k) 5), .int .i64 (dg (X3 k) 6), .int .i64 (dg (X3 k) 7), .int .i64 (dg (X3 k) 8), .int .i64 (dg (X3 k) 9), .int .i64 (dg (X3 k) 10), .int .i64 (dg (X3 k) 11)]) ∧ Ext w w'))
    (C4 : Hid (∀ k, k < 40 → ∀ w, Calls Try.prog 35 #[(.agg #[.bool (s3 k), .int .i64 (dg (X3 k) 0), .int .i64 (dg (X3 k) 1), .int .i64 (dg (X3 k) 2), .int .i64 (dg (X3 k) 3), .int .i64 (dg (X3 k) 4), .int .i64 (dg (X3 k) 5), .int .i64 (dg (X3 k) 6), .int .i64 (dg (X3 k) 7), .int .i64 (dg (X3 k) 8), .int .i64 (dg (X3 k) 9), .int .i64 (dg (X3 k) 10), .int .i64 (dg (X3 k) 11)])] w fun e w' => e = .returned (.tuple #[(.agg #[.int .i64 (hi (p k)), .int .u64 (lo (p k))]), .int .i64 0]) ∧ Ext w w'))
    (C5 : Hid (∀ k, k < 40 → ∀ w, Calls Try.prog 36 #[(.agg #[.int .i64 (hi (p k)), .int .u64 (lo (p k))])] w fun e w' => e = .returned (.tuple #[.int .u64 (g (k + 1)).1, .int .i64 0]) ∧ Ext w w'))
    (C6 : Hid (∀ k, k < 40 → ∀ w, Calls Try.prog 34 #[.int .i64 (g k).2, .int .i64 2305843009213693952] w fun e w' => e = .returned (.agg #[.bool (s4 k), .int .i64 (dg (X4 k) 0), .int .i64 (dg (X4 k) 1), .int .i64 (dg (X4 k) 2), .int .i64 (dg (X4 k) 3), .int .i64 (dg (X4 k) 4), .int .i64 (dg (X4 k) 5), .int .i64 (dg (X4 k) 6), .int .i64 (dg (X4 k) 7), .int .i64 (dg (X4 k) 8), .int .i64 (dg (X4 k) 9), .int .i64 (dg (X4 k) 10), .int .i64 (dg (X4 k) 11)]) ∧ Ext w w'))
    (C7 : Hid (∀ k, k < 40 → ∀ w, Calls Try.prog 35 #[(.agg #[.bool (s4 k), .int .i64 (dg (X4 k) 0), .int .i64 (dg (X4 k) 1), .int .i64 (dg (X4 k) 2), .int .i64 (dg (X4 k) 3), .int .i64 (dg (X4 k) 4), .int .i64 (dg (X4 k) 5), .int .i64 (dg (X4 k) 6), .int .i64 (dg (X4 k) 7), .int .i64 (dg (X4 k) 8), .int .i64 (dg (X4 k) 9), .int .i64 (dg (X4 k) 10), .int .i64 (dg (X4 k) 11)])] w fun e w' => e = .returned (.tuple #[(.agg #[.int .i64 (hi (p2 k)), .int .u64 (lo (p2 k))]), .int .i64 0]) ∧ Ext w w'))
    (C8 : Hid (∀ k, k < 40 → ∀ w, Calls Try.prog 37 #[(.agg #[.int .i64 (hi (p2 k)), .int .u64 (lo (p2 k))]), .int .i64 (g (k + 1)).1] w fun e w' => e = .returned (.tuple #[(.agg #[.int .i64 (hi ((g (k + 1)).2)), .int .u64 (lo ((g (k + 1)).2))]), .int .i64 (rm k), .int .i64 0]) ∧ Ext w w')) (w : World) :
    Calls Try.prog 21 #[] w fun e w' => (∃ v, e = .returned v ∧ w'.ownsRow w.heap.size 45 2 v 41 (vl 82 (arcV g))) ∧ Ext w w' := by
  have EX := Ext.refl w
  obtain ⟨i0, hii, hz0, hz1, hz2⟩ := info_parts info_place
  go_enter Try.func21, Try.ntmps21
  go_wp2
  go_loopg [1, 2] 40 (fun gk lv iv wr => ∃ k : Nat, k + gk = 40 ∧ iv = .int .i64 k ∧ wr.ownsRow w.heap.size 45 2 lv (k + 1) (vl ((k + 1) * 2) (arcV g)) ∧ Ext w wr)
  case atStart => exact ⟨0, rfl, rfl, own_start w _ (Nat.le_refl _) g g0, by repeat (first | with_reducible exact EX | with_reducible refine Ext.alloc ?_ _ | with_reducible refine Ext.drew ?_ | with_reducible refine Ext.drewN ?_ _ | with_reducible refine Ext.setCell ?_ (by first | (simp; done) | omega | (dsimp only; omega)) _)⟩
  case round =>
    obtain ⟨k, hk, rfl, hown, EX⟩ := hrel
    obtain ⟨v, hv⟩ : ∃ v, v = wr := ⟨_, rfl⟩
    subst hv
    by_cases hlt : k < 40
    · have hki : (k : Int) < 40 := by omega
      obtain ⟨gb, cap, rfl, hgb, OW⟩ := Om.of hown
      clear hown
      have JT := OW.pair (i := k * 2) (by omega)
      rw [arcV_0, arcV_1] at JT
      have c1 := C1.out k hlt
      have c2 := C2.out k hlt
      have c3 := C3.out k hlt
      have c4 := C4.out k hlt
      have c5 := C5.out k hlt
      have c6 := C6.out k hlt
      have c7 := C7.out k hlt
      have c8 := C8.out k hlt
      have hr1 := hr.out k hlt
      clear C1 C2 C3 C4 C5 C6 C7 C8 hr
      obtain ⟨c, hc⟩ : ∃ c, (g k).1 = c := ⟨_, rfl⟩
      obtain ⟨s, hs⟩ : ∃ s, (g k).2 = s := ⟨_, rfl⟩
      obtain ⟨r, hr⟩ : ∃ r, (g (k + 1)).1 = r := ⟨_, rfl⟩
      obtain ⟨q, hq⟩ : ∃ q, (g (k + 1)).2 = q := ⟨_, rfl⟩
      have HR : Hid ((g (k + 1)).1 = r ∧ (g (k + 1)).2 = q) := ⟨hr, hq⟩
      rw [hc, hs] at JT
      rw [hc] at c2
      rw [hs] at c6
      rw [hr] at c5
      rw [hr, hq] at c8 hr1
      obtain ⟨r0, r1, q0, q1⟩ := hr1
      clear hc hs hr hq
      generalize s1 k = s1 at *
      generalize s2 k = s2 at *
      generalize s3 k = s3 at *
      generalize s4 k = s4 at *
      generalize X1 k = X1 at *
      generalize X2 k = X2 at *
      generalize X3 k = X3 at *
      generalize X4 k = X4 at *
      generalize p k = p at *
      generalize p2 k = p2 at *
      generalize rm k = rm at *
      have OWown := OW.own; have OWfz := OW.fz; have OWlt := OW.lt; have JTci := JT.ci; have JTcj := JT.cj; have JTfz := JT.fz; have JTlt := JT.lt
      go_upto_region 5 with fail
      refine wp_region_many 9 [(8, 3, (.cells #[.bool false, .int .i64 0, .int .i64 0, .int .i64 0, .int .i64 0, .int .i64 0, .int .i64 0, .int .i64 0, .int .i64 0, .int .i64 0, .int .i64 0, .int .i64 0, .int .i64 0] 66))] (fun i => false) (by kernel_rfl) (by kernel_rfl) (by kernel_rfl) (fun c a x v w h => by cases x <;> exact h) ?_ ?_ ?_; (focus (intro i o hi ho; simp at hi)); (focus (intro m hm o ho a w; simp only [List.mem_cons, List.not_mem_nil, or_false] at hm; rcases hm with rfl <;> (cases ho; go_simp))); intro B hB l' hl'; simp [dumbsM, dumbM, isNew] at hl'; subst hl'; have gOWown := fun x' : Grow B => (OW.later (Ext.trans hB x'.ext)).own; have gOWfz := fun x' : Grow B => (OW.later (Ext.trans hB x'.ext)).fz; have gOWlt := fun x' : Grow B => (OW.later (Ext.trans hB x'.ext)).lt; have gJTci := fun x' : Grow B => (JT.later (Ext.trans hB x'.ext)).ci; have gJTcj := fun x' : Grow B => (JT.later (Ext.trans hB x'.ext)).cj; have gJTfz := fun x' : Grow B => (JT.later (Ext.trans hB x'.ext)).fz; have gJTlt := fun x' : Grow B => (JT.later (Ext.trans hB x'.ext)).lt; (repeat (first | go_big_quiet_step ((go_at_call 34; with_reducible exact calls_grow (c1 _))) | go_big_quiet_step ((go_at_call 34; with_reducible exact calls_grow (c2 _))) | go_big_quiet_step ((go_at_call 33; with_reducible exact calls_grow (c3 _))) | go_big_quiet_step (fail))); refine wpQuiet_nil ?_; clear gOWown gOWfz gOWlt gJTci gJTcj gJTfz gJTlt; clear hB B; intro bs v1 hv hms hne t ht; simp at ht; subst ht; simp only [puts, if_true]; obtain ⟨wn, n1, n2, n3⟩ := hms _ List.mem_cons_self; replace n3 : bs 8 = wn.heap.size := n3; have NX : Nm v1 (bs 8) (false) (fun _ => 0) := (by rw [n3]; exact Nm.later n2 (Nm.new rfl (by with_unfolding_all rfl) (all12 (by with_unfolding_all rfl) (by with_unfolding_all rfl) (by with_unfolding_all rfl) (by with_unfolding_all rfl) (by with_unfolding_all rfl) (by with_unfolding_all rfl) (by with_unfolding_all rfl) (by with_unfolding_all rfl) (by with_unfolding_all rfl) (by with_unfolding_all rfl) (by with_unfolding_all rfl) (by with_unfolding_all rfl)))); have n4 := n1.more; have n5 := EX.more; have qNX_w : w.heap.size ≤ bs 8 := (by omega); have qNX_OW : gb < bs 8 := (by have := OW.lt; omega); have qNX_JT : gb < bs 8 := (by have := JT.lt; omega); clear n1 n2 n3 n4 n5 wn; clear hms hne; replace EX := Ext.trans EX hv; replace OW := OW.later hv; replace JT := JT.later hv; clear OWown OWfz OWlt JTci JTcj JTfz JTlt; clear hv v; generalize bs 8 = b1 at *; clear bs; rename World => v; have OWown := OW.own; have OWfz := OW.fz; have OWlt := OW.lt; have JTci := JT.ci; have JTcj := JT.cj; have JTfz := JT.fz; have JTlt := JT.lt; have NXsg := NX.sg; have NXdg := NX.dg; have NXfz := NX.fz; have NXlt := NX.lt
      go_upto_region 6 with fail
      refine rebase (G := fun w' => Code.wp _ _ _ _ w') _ (fun v1 => Ext w v1 ∧ Om v1 (gb) (w.heap.size) (cap) (k + 1) (vl ((k + 1) * 2) (arcV g)) ∧ Jm v1 (gb) (k * 2) (.int .i64 c) (.int .i64 s) ∧ Nm v1 (b1) (s3) (dg X3)) ⟨by repeat (first | with_reducible exact EX | with_reducible refine Ext.alloc ?_ _ | with_reducible refine Ext.drew ?_ | with_reducible refine Ext.drewN ?_ _ | with_reducible refine Ext.setCell ?_ (by first | (simp; done) | omega | (dsimp only; omega)) _), by repeat (first | with_reducible assumption | with_reducible refine Om.drew ?_ | with_reducible refine Om.drewN ?_ _ | (with_reducible refine Om.skip ?_ ?_; focus (first | omega | (simp; done))) | with_reducible refine Om.alloc ?_ _), by repeat (first | with_reducible assumption | with_reducible refine Jm.drew ?_ | with_reducible refine Jm.drewN ?_ _ | (with_reducible refine Jm.skip ?_ ?_; focus (first | omega | (simp; done))) | with_reducible refine Jm.alloc ?_ _), by repeat (first | with_reducible assumption | with_reducible refine Nm.drew ?_ | with_reducible refine Nm.drewN ?_ _ | (with_reducible refine Nm.skip ?_ ?_; focus (first | omega | (simp; done))) | with_reducible refine Nm.store ?_ rfl rfl rfl rfl rfl rfl rfl rfl rfl rfl rfl rfl rfl | with_reducible refine Nm.new (by first | rfl | (simp; done) | with_unfolding_all rfl) (by with_unfolding_all rfl) (all12 (by with_unfolding_all rfl) (by with_unfolding_all rfl) (by with_unfolding_all rfl) (by with_unfolding_all rfl) (by with_unfolding_all rfl) (by with_unfolding_all rfl) (by with_unfolding_all rfl) (by with_unfolding_all rfl) (by with_unfolding_all rfl) (by with_unfolding_all rfl) (by with_unfolding_all rfl) (by with_unfolding_all rfl)) | with_reducible refine Nm.alloc ?_ _ | exact Nm.any (by with_reducible assumption) | with_reducible refine NmAny.drew ?_ | with_reducible refine NmAny.drewN ?_ _ | (with_reducible refine NmAny.skip ?_ ?_; focus (first | omega | (simp; done))) | with_reducible refine NmAny.alloc ?_ _)⟩ ?_; clear OWown OWfz OWlt JTci JTcj JTfz JTlt NXsg NXdg NXfz NXlt; clear EX OW JT NX; rintro v1 ⟨EX, OW, JT, NX⟩; clear v; rename World => v; have OWown := OW.own; have OWfz := OW.fz; have OWlt := OW.lt; have JTci := JT.ci; have JTcj := JT.cj; have JTfz := JT.fz; have JTlt := JT.lt; have NXsg := NX.sg; have NXdg := NX.dg; have NXfz := NX.fz; have NXlt := NX.lt
      go_upto_region 7 with (first | (go_at_call 35; with_reducible refine (c4 _).mono ?_; rintro e v1 ⟨rfl, hb⟩; replace EX := Ext.trans EX hb; replace OW := OW.later hb; replace JT := JT.later hb; replace NX := NX.later hb; replace OWown := OW.own; replace OWfz := OW.fz; replace OWlt := OW.lt; replace JTci := JT.ci; replace JTcj := JT.cj; replace JTfz := JT.fz; replace JTlt := JT.lt; replace NXsg := NX.sg; replace NXdg := NX.dg; replace NXfz := NX.fz; replace NXlt := NX.lt; clear hb v; rename World => v))
      refine rebase (G := fun w' => Code.wp _ _ _ _ w') _ (fun v1 => Ext w v1 ∧ Om v1 (gb) (w.heap.size) (cap) (k + 1) (vl ((k + 1) * 2) (arcV g)) ∧ Jm v1 (gb) (k * 2) (.int .i64 c) (.int .i64 s) ∧ Wm v1 (v.heap.size) (hi p) (lo p)) ⟨by repeat (first | with_reducible exact EX | with_reducible refine Ext.alloc ?_ _ | with_reducible refine Ext.drew ?_ | with_reducible refine Ext.drewN ?_ _ | with_reducible refine Ext.setCell ?_ (by first | (simp; done) | omega | (dsimp only; omega)) _), by repeat (first | with_reducible assumption | with_reducible refine Om.drew ?_ | with_reducible refine Om.drewN ?_ _ | (with_reducible refine Om.skip ?_ ?_; focus (first | omega | (simp; done))) | with_reducible refine Om.alloc ?_ _), by repeat (first | with_reducible assumption | with_reducible refine Jm.drew ?_ | with_reducible refine Jm.drewN ?_ _ | (with_reducible refine Jm.skip ?_ ?_; focus (first | omega | (simp; done))) | with_reducible refine Jm.alloc ?_ _), by repeat (first | with_reducible assumption | with_reducible refine Wm.drew ?_ | with_reducible refine Wm.drewN ?_ _ | (with_reducible refine Wm.skip ?_ ?_; focus (first | omega | (simp; done))) | with_reducible refine Wm.store ?_ _ _ | with_reducible refine Wm.new (by first | rfl | (simp; done) | with_unfolding_all rfl) (by with_unfolding_all rfl) (by with_unfolding_all rfl) | with_reducible refine Wm.alloc ?_ _ | exact Wm.any (by with_reducible assumption) | with_reducible refine WmAny.drew ?_ | with_reducible refine WmAny.drewN ?_ _ | (with_reducible refine WmAny.skip ?_ ?_; focus (first | omega | (simp; done))) | with_reducible refine WmAny.alloc ?_ _)⟩ ?_; have qOW := OW.lt; have qJT := JT.lt; have qNX := NX.lt; have qw := EX.more; clear OWown OWfz OWlt JTci JTcj JTfz JTlt NXsg NXdg NXfz NXlt; clear EX OW JT NX; rintro v1 ⟨EX, OW, JT, WX⟩; obtain ⟨b2, hb2⟩ : ∃ b, v.heap.size = b := ⟨_, rfl⟩; rw [hb2] at qOW qJT qNX qw WX ⊢; clear hb2; clear v; rename World => v; have OWown := OW.own; have OWfz := OW.fz; have OWlt := OW.lt; have JTci := JT.ci; have JTcj := JT.cj; have JTfz := JT.fz; have JTlt := JT.lt; have WXhi := WX.hi; have WXlo := WX.lo; have WXfz := WX.fz; have WXlt := WX.lt
      go_upto_region 8 with (first | (go_at_call 36; with_reducible refine (c5 _).mono ?_; rintro e v1 ⟨rfl, hb⟩; replace EX := Ext.trans EX hb; replace OW := OW.later hb; replace JT := JT.later hb; replace WX := WX.later hb; replace OWown := OW.own; replace OWfz := OW.fz; replace OWlt := OW.lt; replace JTci := JT.ci; replace JTcj := JT.cj; replace JTfz := JT.fz; replace JTlt := JT.lt; replace WXhi := WX.hi; replace WXlo := WX.lo; replace WXfz := WX.fz; replace WXlt := WX.lt; clear hb v; rename World => v))
      go_upto_region 9 with (first | (go_at_call 34; with_reducible refine (c6 _).mono ?_; rintro e v1 ⟨rfl, hb⟩; replace EX := Ext.trans EX hb; replace OW := OW.later hb; replace JT := JT.later hb; replace WX := WX.later hb; replace OWown := OW.own; replace OWfz := OW.fz; replace OWlt := OW.lt; replace JTci := JT.ci; replace JTcj := JT.cj; replace JTfz := JT.fz; replace JTlt := JT.lt; replace WXhi := WX.hi; replace WXlo := WX.lo; replace WXfz := WX.fz; replace WXlt := WX.lt; clear hb v; rename World => v) | (go_at_call 35; with_reducible refine (c7 _).mono ?_; rintro e v1 ⟨rfl, hb⟩; replace EX := Ext.trans EX hb; replace OW := OW.later hb; replace JT := JT.later hb; replace WX := WX.later hb; replace OWown := OW.own; replace OWfz := OW.fz; replace OWlt := OW.lt; replace JTci := JT.ci; replace JTcj := JT.cj; replace JTfz := JT.fz; replace JTlt := JT.lt; replace WXhi := WX.hi; replace WXlo := WX.lo; replace WXfz := WX.fz; replace WXlt := WX.lt; clear hb v; rename World => v))
      refine rebase (G := fun w' => Code.wp _ _ _ _ w') _ (fun v1 => Ext w v1 ∧ Om v1 (gb) (w.heap.size) (cap) (k + 1) (vl ((k + 1) * 2) (arcV g)) ∧ Wm v1 (b2) (hi p2) (lo p2)) ⟨by repeat (first | with_reducible exact EX | with_reducible refine Ext.alloc ?_ _ | with_reducible refine Ext.drew ?_ | with_reducible refine Ext.drewN ?_ _ | with_reducible refine Ext.setCell ?_ (by first | (simp; done) | omega | (dsimp only; omega)) _), by repeat (first | with_reducible assumption | with_reducible refine Om.drew ?_ | with_reducible refine Om.drewN ?_ _ | (with_reducible refine Om.skip ?_ ?_; focus (first | omega | (simp; done))) | with_reducible refine Om.alloc ?_ _), by repeat (first | with_reducible assumption | with_reducible refine Wm.drew ?_ | with_reducible refine Wm.drewN ?_ _ | (with_reducible refine Wm.skip ?_ ?_; focus (first | omega | (simp; done))) | with_reducible refine Wm.store ?_ _ _ | with_reducible refine Wm.new (by first | rfl | (simp; done) | with_unfolding_all rfl) (by with_unfolding_all rfl) (by with_unfolding_all rfl) | with_reducible refine Wm.alloc ?_ _ | exact Wm.any (by with_reducible assumption) | with_reducible refine WmAny.drew ?_ | with_reducible refine WmAny.drewN ?_ _ | (with_reducible refine WmAny.skip ?_ ?_; focus (first | omega | (simp; done))) | with_reducible refine WmAny.alloc ?_ _)⟩ ?_; clear OWown OWfz OWlt JTci JTcj JTfz JTlt WXhi WXlo WXfz WXlt; clear EX OW JT WX; rintro v1 ⟨EX, OW, WX⟩; clear v; rename World => v; have OWown := OW.own; have OWfz := OW.fz; have OWlt := OW.lt; have WXhi := WX.hi; have WXlo := WX.lo; have WXfz := WX.fz; have WXlt := WX.lt
      go_upto_region 10 with (first | (go_at_call 37; with_reducible refine (c8 _).mono ?_; rintro e v1 ⟨rfl, hb⟩; replace EX := Ext.trans EX hb; replace OW := OW.later hb; replace WX := WX.later hb; replace OWown := OW.own; replace OWfz := OW.fz; replace OWlt := OW.lt; replace WXhi := WX.hi; replace WXlo := WX.lo; replace WXfz := WX.fz; replace WXlt := WX.lt; clear hb v; rename World => v))
      refine rebase (G := fun w' => Code.wp _ _ _ _ w') _ (fun v1 => Ext w v1 ∧ Om v1 (gb) (w.heap.size) (cap) (k + 1) (vl ((k + 1) * 2) (arcV g)) ∧ Wm v1 (v.heap.size) (hi q) (lo q)) ⟨by repeat (first | with_reducible exact EX | with_reducible refine Ext.alloc ?_ _ | with_reducible refine Ext.drew ?_ | with_reducible refine Ext.drewN ?_ _ | with_reducible refine Ext.setCell ?_ (by first | (simp; done) | omega | (dsimp only; omega)) _), by repeat (first | with_reducible assumption | with_reducible refine Om.drew ?_ | with_reducible refine Om.drewN ?_ _ | (with_reducible refine Om.skip ?_ ?_; focus (first | omega | (simp; done))) | with_reducible refine Om.alloc ?_ _), by repeat (first | with_reducible assumption | with_reducible refine Wm.drew ?_ | with_reducible refine Wm.drewN ?_ _ | (with_reducible refine Wm.skip ?_ ?_; focus (first | omega | (simp; done))) | with_reducible refine Wm.store ?_ _ _ | with_reducible refine Wm.new (by first | rfl | (simp; done) | with_unfolding_all rfl) (by with_unfolding_all rfl) (by with_unfolding_all rfl) | with_reducible refine Wm.alloc ?_ _ | exact Wm.any (by with_reducible assumption) | with_reducible refine WmAny.drew ?_ | with_reducible refine WmAny.drewN ?_ _ | (with_reducible refine WmAny.skip ?_ ?_; focus (first | omega | (simp; done))) | with_reducible refine WmAny.alloc ?_ _)⟩ ?_; have qOW := OW.lt; have qWX := WX.lt; have qw := EX.more; clear OWown OWfz OWlt WXhi WXlo WXfz WXlt; clear EX OW WX; rintro v1 ⟨EX, OW, WQ⟩; obtain ⟨b3, hb3⟩ : ∃ b, v.heap.size = b := ⟨_, rfl⟩; rw [hb3] at qOW qWX qw WQ ⊢; clear hb3; clear v; rename World => v; have OWown := OW.own; have OWfz := OW.fz; have OWlt := OW.lt; have WQhi := WQ.hi; have WQlo := WQ.lo; have WQfz := WQ.fz; have WQlt := WQ.lt
      have qw := wrap_i64 (n := lo q) (by unfold lo In64; omega)
      have ql : lo q = q := by unfold lo; omega
      rw [ql] at qw WQlo
      clear ql
      go_wp2_with (first | (at_builtin; refine wpList_append_own _ rfl _ _ 42 rfl w.heap.size 45 i0 (.agg #[.int .i64 0, .int .i64 0]) 2 16 Try.underlying42 hii hz0 hz1 hz2 rfl (by decide) _ _ _ rfl (OW.own.alloc _) ⟨_, 0, none⟩ 1 1 [.int .i64 r, .int .i64 q] rfl rfl ?c1 ?c2 ?c3 ?c4 ?c5 ?_))
      case c1 =>
        intro j u hj
        match j, hj with
        | 0, hj => simp at hj; subst hj; simp [Addr.add]
        | 1, hj => simp at hj; subst hj; simp [Addr.add]
      case c2 => intro u hu; simp at hu; rcases hu with rfl | rfl <;> rfl
      case c3 => unfold maxLen; omega
      case c4 => omega
      case c5 => have := EX.more; simp; omega
      · intro v' w1 hown' hgrow _
        have hv := vl_next g k
        rw [HR.out.1, HR.out.2] at hv
        rw [hv] at hown'
        replace EX := own_ext (EX.alloc _) (OW.own.alloc _) hgrow
        clear hgrow OW OWown OWfz OWlt WQ WQhi WQlo WQfz WQlt
        go_wp2
        go_roundg (gk - 1)
        case measure => omega
        case rel => exact ⟨k + 1, by omega, by go_num, hown', EX⟩
    · have hki : ¬ ((k : Int) < 40) := by omega
      have hk40 : k = 40 := by omega
      subst hk40
      clear C1 C2 C3 C4 C5 C6 C7 C8
      go_wp2
      go_ret
      exact ⟨⟨_, rfl, hown⟩, EX⟩
theorem turns5_any (w : World) : Calls Try.prog 21 #[] w fun e w' => (∃ b c : Nat, e = .returned (.slice (some ⟨b, 0, none⟩) 41 c) ∧ w.heap.size ≤ b ∧ Vm w' b 82 (arcV arcAt)) ∧ Ext w w' := by
  have iS : In64 4611686018427387904 := ⟨by decide, by decide⟩
  have iH : In64 2305843009213693952 := ⟨by decide, by decide⟩
  have A := fun k (hk : k < 40) => arc_in k (by omega)
  have B := fun k (hk : k < 40) => arc_in (k + 1) (by omega)
  have ic := fun k (hk : k < 40) => show In64 (arcAt k).1 from ⟨by have := A k hk; omega, by have := A k hk; omega⟩
  have is := fun k (hk : k < 40) => show In64 (arcAt k).2 from ⟨by have := A k hk; omega, by have := A k hk; omega⟩
  have h := turns5_walk arcAt rfl (fun k => (arcAt k).2 * 2305843009213693952) (fun k => (4611686018427387904 + (arcAt k).1) * 2305843009213693952) (fun k => decide ((4611686018427387904 : Int) < 0) != decide ((2305843009213693952 : Int) < 0)) (fun k => decide ((arcAt k).1 < 0) != decide ((2305843009213693952 : Int) < 0)) _ (fun k => decide ((arcAt k).2 < 0) != decide ((2305843009213693952 : Int) < 0)) (fun k => ab 4611686018427387904 * ab 2305843009213693952) (fun k => ab (arcAt k).1 * ab 2305843009213693952) _ (fun k => ab (arcAt k).2 * ab 2305843009213693952) (fun k => (arcAt k).2 * 2305843009213693952 % (arcAt (k + 1)).1)
    (fun k hk => by have := B k hk; omega)
    (fun k hk w => times5_any _ _ iS iH w)
    (fun k hk w => times5_any _ _ (ic k hk) iH w)
    (fun k hk w => nsum_any _ _ _ _ (inD_prod (ab_prod iS iH)) (inD_prod (ab_prod (ic k hk) iH)) w)
    (fun k hk w => tell_W _ _ _ (sumD (ab_prod iS iH) (ab_prod (ic k hk) iH)) (by rw [sum_sg, ab_mul, ab_mul]; omega) (by have := A k hk; unfold InW; omega) w)
    (fun k hk w => by
      obtain ⟨⟨a1, a2⟩, _⟩ := arc_step k hk
      have := rRootWide_any ((4611686018427387904 + (arcAt k).1) * 2305843009213693952) (by have := A k hk; unfold InW; omega) (by have := A k hk; omega) w
      rw [rt_of (B k hk).1 a1 a2] at this
      exact this)
    (fun k hk w => times5_any _ _ (is k hk) iH w)
    (fun k hk w => tell_W _ _ _ (inD_prod (ab_prod (is k hk) iH)) (by rw [ab_mul]) (in64_mul (is k hk) iH) w)
    (fun k hk w => by
      obtain ⟨_, a3⟩ := arc_step k hk
      have b := B k hk
      have := rfloor_any ((arcAt k).2 * 2305843009213693952) (arcAt (k + 1)).1 (in64_mul (is k hk) iH) (by have := b.2.2.2.2 (by omega); omega) ⟨by omega, by omega⟩ w
      rw [a3] at this
      exact this) w
  refine h.mono ?_
  rintro e w' ⟨⟨v, rfl, hown⟩, EX⟩
  obtain ⟨b, c, rfl, hb, OW⟩ := Om.of (n := 40) hown
  exact ⟨⟨b, c, rfl, hb, OW.lt, OW.fz, fun i hi => OW.cell hi⟩, EX⟩
end Go.Proofs.Ythfgeopldbcniaa
