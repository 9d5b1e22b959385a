/- The list of a record's fields that package records makes. What package records' mayBe, sizeOf and Get do. -/
import Derived.Test.YtemcppakmcffgaaDoorPkAB
import Derived.Test.YtemcppakmcffgaaDoorBoxL
import Derived.Test.YtemcppakmcffgaaDoorLayH
namespace Go.Proofs.YtemcppakmcffgaaDoor
open Go.RowKit Go.BigFrame
set_option linter.unusedSimpArgs false
set_option linter.unusedVariables false
set_option maxRecDepth 20000
@[go_sem] theorem store_fn {P : Program} (w : World) (a : Addr) (m : Mode) (fn : Fn) (x y : Array Value) : (store a (.func fn x y) m).run P w = stored P w a (.func fn x y) m := run_store P w a _ m rfl
/-- A pair of closures over one box. -/
abbrev fpair (a b : Nat) (x : Nat) : Value := .agg #[.func (.func a) #[] #[.pointer (some ⟨x, 0, none⟩)], .func (.func b) #[] #[.pointer (some ⟨x, 0, none⟩)]]

set_option maxHeartbeats 2000000 in
theorem flagIn_is (n : Int) (w : World) : Calls Tryd.prog 83 #[.int .i64 n] w fun e w' => e = .returned (fpair 93 95 w.heap.size) ∧ Ext w w' ∧ w'.cell? ⟨w.heap.size, 0, none⟩ = some (.int .i64 n) := by
  have EX := Ext.refl w
  have hmf : ∀ (fn : Fn) (first cap : Array Value) (w : World), (Instr.makeFunc fn first cap).run Tryd.prog w = .ok (.func fn first cap) w := fun _ _ _ _ => rfl
  go_enter Tryd.func83, Tryd.ntmps83
  go_wp2
  exact bodyPost_ret (by simp only [results, Tryd.results83]; simp [go_sem]; try rfl) rfl ⟨rfl, (EX.alloc _).alloc _, old1 (new1 rfl)⟩
set_option maxHeartbeats 2000000 in
theorem pointIn_is (n : Int) (w : World) : Calls Tryd.prog 84 #[.int .i64 n] w fun e w' => e = .returned (fpair 96 97 w.heap.size) ∧ Ext w w' ∧ w'.cell? ⟨w.heap.size, 0, none⟩ = some (.int .i64 n) := by
  have EX := Ext.refl w
  have hmf : ∀ (fn : Fn) (first cap : Array Value) (w : World), (Instr.makeFunc fn first cap).run Tryd.prog w = .ok (.func fn first cap) w := fun _ _ _ _ => rfl
  go_enter Tryd.func84, Tryd.ntmps84
  go_wp2
  exact bodyPost_ret (by simp only [results, Tryd.results84]; simp [go_sem]; try rfl) rfl ⟨rfl, (EX.alloc _).alloc _, old1 (new1 rfl)⟩
set_option maxHeartbeats 2000000 in
theorem coloursIn_is (a : Option Addr) (l c : Nat) (w : World) : Calls Tryd.prog 85 #[.slice a l c] w fun e w' => e = .returned (fpair 99 100 w.heap.size) ∧ Ext w w' ∧ w'.cell? ⟨w.heap.size, 0, none⟩ = some (.slice a l c) := by
  have EX := Ext.refl w
  have hmf : ∀ (fn : Fn) (first cap : Array Value) (w : World), (Instr.makeFunc fn first cap).run Tryd.prog w = .ok (.func fn first cap) w := fun _ _ _ _ => rfl
  go_enter Tryd.func85, Tryd.ntmps85
  go_wp2
  exact bodyPost_ret (by simp only [results, Tryd.results85]; simp [go_sem]; try rfl) rfl ⟨rfl, (EX.alloc _).alloc _, old1 (new1 rfl)⟩
/-- The list of a record's fields, in memory. -/
structure Fds (w : World) (g bF bP bC bA fl c p n : Nat) : Prop where
  c0 : w.cell? ⟨g, 0, none⟩ = some (.func (.func 93) #[] #[.pointer (some ⟨bF, 0, none⟩)])
  c1 : w.cell? ⟨g, 1, none⟩ = some (.func (.func 95) #[] #[.pointer (some ⟨bF, 0, none⟩)])
  c2 : w.cell? ⟨g, 2, none⟩ = some (.func (.func 96) #[] #[.pointer (some ⟨bP, 0, none⟩)])
  c3 : w.cell? ⟨g, 3, none⟩ = some (.func (.func 97) #[] #[.pointer (some ⟨bP, 0, none⟩)])
  c4 : w.cell? ⟨g, 4, none⟩ = some (.func (.func 99) #[] #[.pointer (some ⟨bC, 0, none⟩)])
  c5 : w.cell? ⟨g, 5, none⟩ = some (.func (.func 100) #[] #[.pointer (some ⟨bC, 0, none⟩)])
  cF : w.cell? ⟨bF, 0, none⟩ = some (.int .i64 (fl : Nat))
  cP : w.cell? ⟨bP, 0, none⟩ = some (.int .i64 (c : Nat))
  cC : w.cell? ⟨bC, 0, none⟩ = some (.slice (some ⟨bA, 0, none⟩) 4 4)
  cA : ∀ i, i < 4 → w.cell? ⟨bA, 0 + i, none⟩ = some (.int .i64 (cbits n p i : Nat))
theorem Fds.chg {S : Nat → Prop} {w w' : World} {g bF bP bC bA fl c p n : Nat} (D : Fds w g bF bP bC bA fl c p n) (h : Chg S w w') (h0 : ¬ S g) (h1 : ¬ S bF) (h2 : ¬ S bP) (h3 : ¬ S bC) (h4 : ¬ S bA) : Fds w' g bF bP bC bA fl c p n :=
  ⟨h.cell h0 D.c0, h.cell h0 D.c1, h.cell h0 D.c2, h.cell h0 D.c3, h.cell h0 D.c4, h.cell h0 D.c5, h.cell h1 D.cF, h.cell h2 D.cP, h.cell h3 D.cC, fun i hi => h.cell h4 (D.cA i hi)⟩
theorem Fds.later {w w' : World} {g bF bP bC bA fl c p n : Nat} (D : Fds w g bF bP bC bA fl c p n) (h : Ext w w') : Fds w' g bF bP bC bA fl c p n := D.chg (S := fun _ => False) (Chg.of h) id id id id id
theorem Fds.lt {w : World} {g bF bP bC bA fl c p n : Nat} (D : Fds w g bF bP bC bA fl c p n) : g < w.heap.size ∧ bF < w.heap.size ∧ bP < w.heap.size ∧ bC < w.heap.size ∧ bA < w.heap.size := ⟨cell_lt D.c0, cell_lt D.cF, cell_lt D.cP, cell_lt D.cC, cell_lt (D.cA 0 (by decide))⟩

set_option maxHeartbeats 4000000 in
theorem fields_is (L : Lay) (fl c p n sz : Nat) (V : Vl L fl c p n sz) (w : World) : Calls Tryd.prog 25 #[(.agg (lv (L)))] w fun e w' => ∃ g bF bP bC bA, e = .returned (.slice (some ⟨g, 0, none⟩) 3 3) ∧ Ext w w' ∧ Fds w' g bF bP bC bA fl c p n ∧
    w.heap.size ≤ g ∧ w.heap.size ≤ bF ∧ w.heap.size ≤ bP ∧ w.heap.size ≤ bC ∧ w.heap.size ≤ bA := by
  have EX := Ext.refl w
  have hf := V.ef
  have hc1 := V.ec
  have hp1 := V.ep
  have hn1 := V.en
  have n4 := V.n1
  unfold flg at hf
  clear V
  go_enter Tryd.func25, Tryd.ntmps25
  go_upto_region 1 with fail
  refine rebase (G := fun w' => Code.wp _ _ _ _ w') _ (fun v1 => Ext w v1 ∧ Lm v1 (w.heap.size) (L)) ⟨by repeat (first | with_reducible exact EX |  with_reducible refine Ext.alloc ?_ _ | with_reducible refine Ext.drew ?_ | with_reducible refine Ext.drewN ?_ _ | with_reducible refine Ext.setCell ?_ (by first | (simp; done) | omega | (dsimp only; omega)) _), by repeat (first | with_reducible assumption | with_reducible refine Lm.drew ?_ | with_reducible refine Lm.drewN ?_ _ | (with_reducible refine Lm.skip ?_ ?_; focus (first | omega | (simp; done))) | with_reducible refine Lm.set0 ?_ _ | with_reducible refine Lm.set4 ?_ _ | with_reducible refine Lm.set5 ?_ _ | with_reducible refine Lm.setk ?_ _ (by decide) | (with_reducible refine Lm.cells1 ?_; exact ⟨_, by with_reducible assumption⟩) | (with_reducible refine Lm.skips ?_ _ _ ?_; focus (first | omega | (simp; done))) | (with_reducible refine Lm.new ?_ <;> first | rfl | (simp; done)) | (with_reducible refine Lm.fresh ?_ ?_ <;> first | rfl | (simp; done)) | with_reducible refine Lm.alloc ?_ _)⟩ ?_; clear EX ; rintro v1 ⟨EX, LB⟩; rename World => v; have LBc0 := LB.c0; have LBc1 := LB.c1; have LBc2 := LB.c2; have LBc3 := LB.c3; have LBc4 := LB.c4; have LBc5 := LB.c5; have LBdg := LB.dg; have LBfz := LB.fz; have LBlt := LB.lt
  obtain ⟨b0, hb0⟩ : ∃ b0, w.heap.size = b0 := ⟨_, rfl⟩
  rw [hb0] at LB LBc0 LBc1 LBc2 LBc3 LBc4 LBc5 LBdg LBfz LBlt ⊢
  by_cases h5 : L.t = 5
  case' pos =>
    have e5 : (L.t == 5) = true := by simp [h5]
    rw [if_pos h5] at hf
    obtain rfl : fl = 0 := by omega
    clear hf
  case' neg =>
    have e5 : (L.t == 5) = false := by simp [h5]
    rw [if_neg h5] at hf
  all_goals
    go_upto_region 4 with fail
    go_upto_region 6 with fail
    have q0 := LB.lt
    have qw := EX.more
    refine rebase (G := fun w' => Code.wp _ _ _ _ w') _ (fun v1 => Ext w v1 ∧ Lm v1 (b0) (L) ∧ Vm v1 v.heap.size 4 (fun i => .int .i64 ((cbits 0 p i : Nat) : Int))) ⟨EX.alloc _, LB.alloc _, Vm.new rfl (fun i hi => match i, hi with | 0, _ => rfl | 1, _ => rfl | 2, _ => rfl | 3, _ => rfl)⟩ ?_
    obtain ⟨b1, hb1⟩ : ∃ b, v.heap.size = b := ⟨_, rfl⟩
    rw [hb1] at q0 qw ⊢
    clear LBc0 LBc1 LBc2 LBc3 LBc4 LBc5 LBdg LBfz LBlt
    clear EX LB hb1 v
    rintro v ⟨EX, LB, AB⟩
    go_loopg [13] n (fun gk iv wr => ∃ k : Nat, k + gk = n ∧ iv = .int .i64 k ∧ Ext w wr ∧ Lm wr (b0) (L) ∧ Vm wr b1 4 (fun i => .int .i64 ((cbits k p i : Nat) : Int)))
    case atStart => exact ⟨0, by omega, rfl, EX, LB, AB⟩
    case round =>
      clear EX LB AB v
      obtain ⟨k, hk, rfl, EX, LB, AB⟩ := hrel
      obtain ⟨v, hv⟩ : ∃ v, v = wr := ⟨_, rfl⟩
      subst hv
      have LBc0 := LB.c0; have LBc1 := LB.c1; have LBc2 := LB.c2; have LBc3 := LB.c3; have LBc4 := LB.c4; have LBc5 := LB.c5; have LBdg := LB.dg; have LBfz := LB.fz; have LBlt := LB.lt
      by_cases hlt : k < n
      · have hki : (k : Int) < (n : Int) := by omega
        have hk4 : (k : Int) < 4 := by omega
        have ac := AB.dg k (by omega)
        have af := AB.fz
        have HP : Hid (L.p = (p : Int)) := hp1
        have HK : Hid (Vm v b1 4 (fun i => .int .i64 ((cbits k p i : Nat) : Int))) := AB
        clear AB
        go_wp2
        go_roundg (gk - 1)
        case measure => omega
        case rel =>
          refine ⟨k + 1, by omega, by go_num, EX.setCell (by dsimp only; omega) _, LB.skip (by omega), (HK.out.set k _).eq fun i hi => ?_⟩
          unfold updv cbits
          show (if i = k then Value.int .i64 (p : Int) else .int .i64 ((if i < k then p else 0 : Nat) : Int)) = _
          by_cases e : i = k
          · rw [if_pos e, if_pos (by omega)]
          · rw [if_neg e]
            by_cases e2 : i < k
            · rw [if_pos e2, if_pos (by omega)]
            · rw [if_neg e2, if_neg (by omega)]
      · have hki : ¬ (k : Int) < (n : Int) := by omega
        obtain rfl : k = n := by omega
        go_upto_region 10 with fail
        have hx := EX.more
        have gC1 := fun x' : Grow v => (LB.later x'.ext).c1
        first | have CI1 := fun v => flagIn_is (fl : Int) v | have CI1 := fun v => flagIn_is 0 v
        have CI2 := fun v => pointIn_is (c : Int) v
        have CI3 := fun v => coloursIn_is (some ⟨b1, 0, none⟩) 4 4 v
        refine wp_region_reads (fun i => decide (i = 0 ∨ i = 2 ∨ i = 3 ∨ i = 5)) 5 9 (fun w' => ∃ x : Grow v, w' = x.out) (by kernel_rfl) (by kernel_rfl) (fun c a x v w h => by cases x <;> exact h) ⟨⟨v.drew, (Ext.refl v).drew⟩, rfl⟩ ?_
        intro l1 l2 h1 h2
        simp [pickB] at h1 h2
        subst h1 h2
        (repeat (first | go_big_quiet_step (fail))); refine wpQuiet_nil ?_; clear gC1
        have E0 : Ext v v.drew := (Ext.refl v).drew
        have A0 : Vm v.drew b1 4 (fun i => .int .i64 ((cbits k p i : Nat) : Int)) := AB.drew
        clear LBc0 LBc1 LBc2 LBc3 LBc4 LBc5 LBdg LBfz LBlt
        clear LB AB
        have HX : Hid (Ext w v ∧ w.heap.size ≤ b1) := ⟨EX, by omega⟩
        clear EX
        refine hold_step (n := 4) fun K hK => ?_
        go_wp2_with (first | (go_at_call 83; refine (CI1 _).mono ?_; rintro e v1 ⟨rfl, h1, cF⟩))
        refine hK _ _ ⟨⟨v1, E0.trans h1⟩, rfl⟩ ?_
        clear hK K
        refine hold_step (n := 3) fun K hK => ?_
        go_wp2_with (first | (go_at_call 84; refine (CI2 _).mono ?_; rintro e v2 ⟨rfl, h2, cP⟩))
        refine hK _ _ ⟨⟨v2, (E0.trans h1).trans h2⟩, rfl⟩ ?_
        clear hK K
        refine hold_step (n := 2) fun K hK => ?_
        go_wp2_with (first | (go_at_call 85; refine (CI3 _).mono ?_; rintro e v3 ⟨rfl, h3, cC⟩))
        refine hK _ _ ⟨⟨v3, ((E0.trans h1).trans h2).trans h3⟩, rfl⟩ ?_
        clear hK K
        refine hold_step (n := 1) fun K hK => ?_
        go_wp2
        have E4 := (((E0.trans h1).trans h2).trans h3).alloc (.cells #[.func (.func 93) #[] #[.pointer (some ⟨v.heap.size, 0, none⟩)], .func (.func 95) #[] #[.pointer (some ⟨v.heap.size, 0, none⟩)], .func (.func 96) #[] #[.pointer (some ⟨v1.heap.size, 0, none⟩)], .func (.func 97) #[] #[.pointer (some ⟨v1.heap.size, 0, none⟩)], .func (.func 99) #[] #[.pointer (some ⟨v2.heap.size, 0, none⟩)], .func (.func 100) #[] #[.pointer (some ⟨v2.heap.size, 0, none⟩)]] 82)
        refine hK _ _ ⟨⟨_, E4⟩, rfl⟩ ?_
        clear hK K
        refine hold_step (n := 0) fun K hK => ?_
        go_wp2
        refine hK _ _ ⟨⟨_, E4⟩, rfl⟩ ?_
        clear hK K
        refine hold_done ?_
        go_wp2
        go_ret
        have m1 := h1.more
        have m2 := h2.more
        have m3 := h3.more
        have m0 := HX.out.1.more
        have md : v.drew.heap.size = v.heap.size := rfl
        refine ⟨v3.heap.size, v.heap.size, v1.heap.size, v2.heap.size, b1, rfl, HX.out.1.trans E4, ⟨new1 rfl, new1 rfl, new1 rfl, new1 rfl, new1 rfl, new1 rfl, old1 (h3.later (h2.later cF)), old1 (h3.later cP), old1 cC, fun i hi => ?_⟩, by omega, by omega, by omega, by omega, HX.out.2⟩
        rw [Nat.zero_add]
        exact old1 (h3.later (h2.later (h1.later (A0.dg i hi))))
end Go.Proofs.YtemcppakmcffgaaDoor

namespace Go.Proofs.YtemcppakmcffgaaDoor
open Go.RowKit Go.BigFrame
set_option linter.unusedSimpArgs false
set_option linter.unusedVariables false
set_option maxRecDepth 20000

set_option maxHeartbeats 2000000 in
theorem maybe_is (L : Lay) (w : World) (TL : LaidL w) : Calls Tryd.prog 23 #[(.agg (lv (L)))] w fun e w' => e = .returned (.bool (vlay L)) ∧ Ext w w' := by
  have EX := Ext.refl w
  have CK : ∀ v, Ext w v → Calls Tryd.prog 17 #[(.agg (lv (L)))] v fun e w' => e = .returned (.int .i64 (if mayl L = true then 0 else 4)) ∧ Ext v w' := fun v h => lcheck_any L v (TL.later h)
  clear TL
  unfold vlay
  cases hm : mayl L
  · rw [hm] at CK
    simp only [Bool.false_eq_true, if_false] at CK
    go_enter Tryd.func23, Tryd.ntmps23
    go_upto_region 1 with fail
    refine rebase (G := fun w' => Code.wp _ _ _ _ w') _ (fun v1 => Ext w v1 ∧ Lm v1 (w.heap.size) (L)) ⟨by repeat (first | with_reducible exact EX |  with_reducible refine Ext.alloc ?_ _ | with_reducible refine Ext.drew ?_ | with_reducible refine Ext.drewN ?_ _ | with_reducible refine Ext.setCell ?_ (by first | (simp; done) | omega | (dsimp only; omega)) _), by repeat (first | with_reducible assumption | with_reducible refine Lm.drew ?_ | with_reducible refine Lm.drewN ?_ _ | (with_reducible refine Lm.skip ?_ ?_; focus (first | omega | (simp; done))) | with_reducible refine Lm.set0 ?_ _ | with_reducible refine Lm.set4 ?_ _ | with_reducible refine Lm.set5 ?_ _ | with_reducible refine Lm.setk ?_ _ (by decide) | (with_reducible refine Lm.cells1 ?_; exact ⟨_, by with_reducible assumption⟩) | (with_reducible refine Lm.skips ?_ _ _ ?_; focus (first | omega | (simp; done))) | (with_reducible refine Lm.new ?_ <;> first | rfl | (simp; done)) | (with_reducible refine Lm.fresh ?_ ?_ <;> first | rfl | (simp; done)) | with_reducible refine Lm.alloc ?_ _)⟩ ?_; clear EX ; rintro v1 ⟨EX, LB⟩; rename World => v; have LBc0 := LB.c0; have LBc1 := LB.c1; have LBc2 := LB.c2; have LBc3 := LB.c3; have LBc4 := LB.c4; have LBc5 := LB.c5; have LBdg := LB.dg; have LBfz := LB.fz; have LBlt := LB.lt
    go_wp2_with (first | (refine wpList_load_lay (w.heap.size) _ rfl rfl rfl LB ?_) | (go_at_call 17; with_reducible refine (CK _ EX).mono ?_; rintro e v1 ⟨rfl, hb⟩; replace EX := Ext.trans EX hb; replace LB := LB.later hb; replace LBc0 := LB.c0; replace LBc1 := LB.c1; replace LBc2 := LB.c2; replace LBc3 := LB.c3; replace LBc4 := LB.c4; replace LBc5 := LB.c5; replace LBdg := LB.dg; replace LBfz := LB.fz; replace LBlt := LB.lt; clear hb v; rename World => v))
    go_ret
    exact ⟨rfl, EX⟩
  · rw [hm] at CK
    simp only [if_true] at CK
    by_cases h4 : L.t = 4
    · have k4 : (L.t == 4) = true := by simp [h4]
      go_enter Tryd.func23, Tryd.ntmps23
      go_upto_region 1 with fail
      refine rebase (G := fun w' => Code.wp _ _ _ _ w') _ (fun v1 => Ext w v1 ∧ Lm v1 (w.heap.size) (L)) ⟨by repeat (first | with_reducible exact EX |  with_reducible refine Ext.alloc ?_ _ | with_reducible refine Ext.drew ?_ | with_reducible refine Ext.drewN ?_ _ | with_reducible refine Ext.setCell ?_ (by first | (simp; done) | omega | (dsimp only; omega)) _), by repeat (first | with_reducible assumption | with_reducible refine Lm.drew ?_ | with_reducible refine Lm.drewN ?_ _ | (with_reducible refine Lm.skip ?_ ?_; focus (first | omega | (simp; done))) | with_reducible refine Lm.set0 ?_ _ | with_reducible refine Lm.set4 ?_ _ | with_reducible refine Lm.set5 ?_ _ | with_reducible refine Lm.setk ?_ _ (by decide) | (with_reducible refine Lm.cells1 ?_; exact ⟨_, by with_reducible assumption⟩) | (with_reducible refine Lm.skips ?_ _ _ ?_; focus (first | omega | (simp; done))) | (with_reducible refine Lm.new ?_ <;> first | rfl | (simp; done)) | (with_reducible refine Lm.fresh ?_ ?_ <;> first | rfl | (simp; done)) | with_reducible refine Lm.alloc ?_ _)⟩ ?_; clear EX ; rintro v1 ⟨EX, LB⟩; rename World => v; have LBc0 := LB.c0; have LBc1 := LB.c1; have LBc2 := LB.c2; have LBc3 := LB.c3; have LBc4 := LB.c4; have LBc5 := LB.c5; have LBdg := LB.dg; have LBfz := LB.fz; have LBlt := LB.lt
      go_wp2_with (first | (refine wpList_load_lay (w.heap.size) _ rfl rfl rfl LB ?_) | (go_at_call 17; with_reducible refine (CK _ EX).mono ?_; rintro e v1 ⟨rfl, hb⟩; replace EX := Ext.trans EX hb; replace LB := LB.later hb; replace LBc0 := LB.c0; replace LBc1 := LB.c1; replace LBc2 := LB.c2; replace LBc3 := LB.c3; replace LBc4 := LB.c4; replace LBc5 := LB.c5; replace LBdg := LB.dg; replace LBfz := LB.fz; replace LBlt := LB.lt; clear hb v; rename World => v))
      go_ret
      exact ⟨by simp [h4], EX⟩
    · have k4 : (L.t == 4) = false := by simp [h4]
      by_cases h5 : L.t = 5
      all_goals
        first | have k5 : (L.t == 5) = true := by simp [h5] | have k5 : (L.t == 5) = false := by simp [h5]
        go_enter Tryd.func23, Tryd.ntmps23
        go_upto_region 1 with fail
        refine rebase (G := fun w' => Code.wp _ _ _ _ w') _ (fun v1 => Ext w v1 ∧ Lm v1 (w.heap.size) (L)) ⟨by repeat (first | with_reducible exact EX |  with_reducible refine Ext.alloc ?_ _ | with_reducible refine Ext.drew ?_ | with_reducible refine Ext.drewN ?_ _ | with_reducible refine Ext.setCell ?_ (by first | (simp; done) | omega | (dsimp only; omega)) _), by repeat (first | with_reducible assumption | with_reducible refine Lm.drew ?_ | with_reducible refine Lm.drewN ?_ _ | (with_reducible refine Lm.skip ?_ ?_; focus (first | omega | (simp; done))) | with_reducible refine Lm.set0 ?_ _ | with_reducible refine Lm.set4 ?_ _ | with_reducible refine Lm.set5 ?_ _ | with_reducible refine Lm.setk ?_ _ (by decide) | (with_reducible refine Lm.cells1 ?_; exact ⟨_, by with_reducible assumption⟩) | (with_reducible refine Lm.skips ?_ _ _ ?_; focus (first | omega | (simp; done))) | (with_reducible refine Lm.new ?_ <;> first | rfl | (simp; done)) | (with_reducible refine Lm.fresh ?_ ?_ <;> first | rfl | (simp; done)) | with_reducible refine Lm.alloc ?_ _)⟩ ?_; clear EX ; rintro v1 ⟨EX, LB⟩; rename World => v; have LBc0 := LB.c0; have LBc1 := LB.c1; have LBc2 := LB.c2; have LBc3 := LB.c3; have LBc4 := LB.c4; have LBc5 := LB.c5; have LBdg := LB.dg; have LBfz := LB.fz; have LBlt := LB.lt
        go_wp2_with (first | (refine wpList_load_lay (w.heap.size) _ rfl rfl rfl LB ?_) | (go_at_call 17; with_reducible refine (CK _ EX).mono ?_; rintro e v1 ⟨rfl, hb⟩; replace EX := Ext.trans EX hb; replace LB := LB.later hb; replace LBc0 := LB.c0; replace LBc1 := LB.c1; replace LBc2 := LB.c2; replace LBc3 := LB.c3; replace LBc4 := LB.c4; replace LBc5 := LB.c5; replace LBdg := LB.dg; replace LBfz := LB.fz; replace LBlt := LB.lt; clear hb v; rename World => v))
        go_ret
        exact ⟨by simp [h4, h5], EX⟩
theorem sizeof_is (L : Lay) (w : World) (TL : LaidL w) : Calls Tryd.prog 24 #[(.agg (lv (L)))] w fun e w' => e = .returned (.int .i64 (lsize L 0)) ∧ Ext w w' := by
  have EX := Ext.refl w
  have SZ : ∀ v, Ext w v → Calls Tryd.prog 20 #[(.agg (lv (L))), .int .u8 0] v fun e w' => e = .returned (.int .i64 (lsize L 0)) ∧ Ext v w' := fun v h => lsize_any L 0 (by decide) v (TL.later h)
  clear TL
  go_enter Tryd.func24, Tryd.ntmps24
  go_upto_region 1 with fail
  refine rebase (G := fun w' => Code.wp _ _ _ _ w') _ (fun v1 => Ext w v1 ∧ Lm v1 (w.heap.size) (L)) ⟨by repeat (first | with_reducible exact EX |  with_reducible refine Ext.alloc ?_ _ | with_reducible refine Ext.drew ?_ | with_reducible refine Ext.drewN ?_ _ | with_reducible refine Ext.setCell ?_ (by first | (simp; done) | omega | (dsimp only; omega)) _), by repeat (first | with_reducible assumption | with_reducible refine Lm.drew ?_ | with_reducible refine Lm.drewN ?_ _ | (with_reducible refine Lm.skip ?_ ?_; focus (first | omega | (simp; done))) | with_reducible refine Lm.set0 ?_ _ | with_reducible refine Lm.set4 ?_ _ | with_reducible refine Lm.set5 ?_ _ | with_reducible refine Lm.setk ?_ _ (by decide) | (with_reducible refine Lm.cells1 ?_; exact ⟨_, by with_reducible assumption⟩) | (with_reducible refine Lm.skips ?_ _ _ ?_; focus (first | omega | (simp; done))) | (with_reducible refine Lm.new ?_ <;> first | rfl | (simp; done)) | (with_reducible refine Lm.fresh ?_ ?_ <;> first | rfl | (simp; done)) | with_reducible refine Lm.alloc ?_ _)⟩ ?_; clear EX ; rintro v1 ⟨EX, LB⟩; rename World => v; have LBc0 := LB.c0; have LBc1 := LB.c1; have LBc2 := LB.c2; have LBc3 := LB.c3; have LBc4 := LB.c4; have LBc5 := LB.c5; have LBdg := LB.dg; have LBfz := LB.fz; have LBlt := LB.lt
  go_wp2_with (first | (refine wpList_load_lay (w.heap.size) _ rfl rfl rfl LB ?_) | (go_at_call 20; with_reducible refine (SZ _ EX).mono ?_; rintro e v1 ⟨rfl, hb⟩; replace EX := Ext.trans EX hb; replace LB := LB.later hb; replace LBc0 := LB.c0; replace LBc1 := LB.c1; replace LBc2 := LB.c2; replace LBc3 := LB.c3; replace LBc4 := LB.c4; replace LBc5 := LB.c5; replace LBdg := LB.dg; replace LBfz := LB.fz; replace LBlt := LB.lt; clear hb v; rename World => v))
  go_ret
  exact ⟨rfl, EX⟩
theorem get_form (L : Lay) (hv : vlay L = false) (a : Option Addr) (len cap : Nat) (w : World) (TL : LaidL w) :
    Calls Tryd.prog 10 #[(.agg (lv (L))), .slice a len cap] w fun e w' => e = .returned (.tuple #[.slice none 0 0, .int .i64 4]) ∧ Ext w w' := by
  have EX := Ext.refl w
  have CK : ∀ v, Ext w v → Calls Tryd.prog 23 #[(.agg (lv (L)))] v fun e w' => e = .returned (.bool false) ∧ Ext v w' := fun v h => by have := maybe_is L v (TL.later h); rwa [hv] at this
  clear TL
  go_enter Tryd.func10, Tryd.ntmps10
  go_upto_region 1 with fail
  refine rebase (G := fun w' => Code.wp _ _ _ _ w') _ (fun v1 => Ext w v1 ∧ Lm v1 (w.heap.size) (L)) ⟨by repeat (first | with_reducible exact EX |  with_reducible refine Ext.alloc ?_ _ | with_reducible refine Ext.drew ?_ | with_reducible refine Ext.drewN ?_ _ | with_reducible refine Ext.setCell ?_ (by first | (simp; done) | omega | (dsimp only; omega)) _), by repeat (first | with_reducible assumption | with_reducible refine Lm.drew ?_ | with_reducible refine Lm.drewN ?_ _ | (with_reducible refine Lm.skip ?_ ?_; focus (first | omega | (simp; done))) | with_reducible refine Lm.set0 ?_ _ | with_reducible refine Lm.set4 ?_ _ | with_reducible refine Lm.set5 ?_ _ | with_reducible refine Lm.setk ?_ _ (by decide) | (with_reducible refine Lm.cells1 ?_; exact ⟨_, by with_reducible assumption⟩) | (with_reducible refine Lm.skips ?_ _ _ ?_; focus (first | omega | (simp; done))) | (with_reducible refine Lm.new ?_ <;> first | rfl | (simp; done)) | (with_reducible refine Lm.fresh ?_ ?_ <;> first | rfl | (simp; done)) | with_reducible refine Lm.alloc ?_ _)⟩ ?_; clear EX ; rintro v1 ⟨EX, LB⟩; rename World => v; have LBc0 := LB.c0; have LBc1 := LB.c1; have LBc2 := LB.c2; have LBc3 := LB.c3; have LBc4 := LB.c4; have LBc5 := LB.c5; have LBdg := LB.dg; have LBfz := LB.fz; have LBlt := LB.lt
  go_wp2_with (first | (refine wpList_load_lay (w.heap.size) _ rfl rfl rfl LB ?_) | (go_at_call 23; with_reducible refine (CK _ EX).mono ?_; rintro e v1 ⟨rfl, hb⟩; replace EX := Ext.trans EX hb; replace LB := LB.later hb; replace LBc0 := LB.c0; replace LBc1 := LB.c1; replace LBc2 := LB.c2; replace LBc3 := LB.c3; replace LBc4 := LB.c4; replace LBc5 := LB.c5; replace LBdg := LB.dg; replace LBfz := LB.fz; replace LBlt := LB.lt; clear hb v; rename World => v))
  go_ret2
  exact ⟨rfl, EX⟩
theorem get_limit (L : Lay) (hv : vlay L = true) (a : Option Addr) (len cap : Nat) (h : 65536 < len) (w : World) (TL : LaidL w) :
    Calls Tryd.prog 10 #[(.agg (lv (L))), .slice a len cap] w fun e w' => e = .returned (.tuple #[.slice none 0 0, .int .i64 3]) ∧ Ext w w' := by
  have EX := Ext.refl w
  have CK : ∀ v, Ext w v → Calls Tryd.prog 23 #[(.agg (lv (L)))] v fun e w' => e = .returned (.bool true) ∧ Ext v w' := fun v h => by have := maybe_is L v (TL.later h); rwa [hv] at this
  have hbig : (65536 : Int) < (len : Int) := by omega
  clear TL
  go_enter Tryd.func10, Tryd.ntmps10
  go_upto_region 1 with fail
  refine rebase (G := fun w' => Code.wp _ _ _ _ w') _ (fun v1 => Ext w v1 ∧ Lm v1 (w.heap.size) (L)) ⟨by repeat (first | with_reducible exact EX |  with_reducible refine Ext.alloc ?_ _ | with_reducible refine Ext.drew ?_ | with_reducible refine Ext.drewN ?_ _ | with_reducible refine Ext.setCell ?_ (by first | (simp; done) | omega | (dsimp only; omega)) _), by repeat (first | with_reducible assumption | with_reducible refine Lm.drew ?_ | with_reducible refine Lm.drewN ?_ _ | (with_reducible refine Lm.skip ?_ ?_; focus (first | omega | (simp; done))) | with_reducible refine Lm.set0 ?_ _ | with_reducible refine Lm.set4 ?_ _ | with_reducible refine Lm.set5 ?_ _ | with_reducible refine Lm.setk ?_ _ (by decide) | (with_reducible refine Lm.cells1 ?_; exact ⟨_, by with_reducible assumption⟩) | (with_reducible refine Lm.skips ?_ _ _ ?_; focus (first | omega | (simp; done))) | (with_reducible refine Lm.new ?_ <;> first | rfl | (simp; done)) | (with_reducible refine Lm.fresh ?_ ?_ <;> first | rfl | (simp; done)) | with_reducible refine Lm.alloc ?_ _)⟩ ?_; clear EX ; rintro v1 ⟨EX, LB⟩; rename World => v; have LBc0 := LB.c0; have LBc1 := LB.c1; have LBc2 := LB.c2; have LBc3 := LB.c3; have LBc4 := LB.c4; have LBc5 := LB.c5; have LBdg := LB.dg; have LBfz := LB.fz; have LBlt := LB.lt
  go_wp2_with (first | (refine wpList_load_lay (w.heap.size) _ rfl rfl rfl LB ?_) | (go_at_call 23; with_reducible refine (CK _ EX).mono ?_; rintro e v1 ⟨rfl, hb⟩; replace EX := Ext.trans EX hb; replace LB := LB.later hb; replace LBc0 := LB.c0; replace LBc1 := LB.c1; replace LBc2 := LB.c2; replace LBc3 := LB.c3; replace LBc4 := LB.c4; replace LBc5 := LB.c5; replace LBdg := LB.dg; replace LBfz := LB.fz; replace LBlt := LB.lt; clear hb v; rename World => v))
  go_ret2
  exact ⟨rfl, EX⟩
theorem get_short' (L : Lay) (fl c p n sz : Nat) (V : Vl L fl c p n sz) (a : Option Addr) (len cap : Nat) (h : ¬ 65536 < len) (hm : len % sz ≠ 0) (w : World) (TL : LaidL w) :
    Calls Tryd.prog 10 #[(.agg (lv (L))), .slice a len cap] w fun e w' => e = .returned (.tuple #[.slice none 0 0, .int .i64 5]) ∧ Ext w w' := by
  have EX := Ext.refl w
  have CK : ∀ v, Ext w v → Calls Tryd.prog 23 #[(.agg (lv (L)))] v fun e w' => e = .returned (.bool true) ∧ Ext v w' := fun v h => by have := maybe_is L v (TL.later h); rwa [V.may] at this
  have SZ : ∀ v, Ext w v → Calls Tryd.prog 24 #[(.agg (lv (L)))] v fun e w' => e = .returned (.int .i64 (sz : Nat)) ∧ Ext v w' := fun v h => by have := sizeof_is L v (TL.later h); rwa [V.es] at this
  have sz1 := V.s1
  have hbig : ¬ (65536 : Int) < (len : Int) := by omega
  have hmod : ((len : Int) % (sz : Int) != 0) = true := by
    have : ((len : Int) % (sz : Int)) = ((len % sz : Nat) : Int) := by push_cast; rfl
    rw [this]; simp; omega
  have hsz0 : ¬ (sz : Int) = 0 := by omega
  have szp : (0 : Int) < sz := by omega
  clear V hm TL
  go_enter Tryd.func10, Tryd.ntmps10
  go_upto_region 1 with fail
  refine rebase (G := fun w' => Code.wp _ _ _ _ w') _ (fun v1 => Ext w v1 ∧ Lm v1 (w.heap.size) (L)) ⟨by repeat (first | with_reducible exact EX |  with_reducible refine Ext.alloc ?_ _ | with_reducible refine Ext.drew ?_ | with_reducible refine Ext.drewN ?_ _ | with_reducible refine Ext.setCell ?_ (by first | (simp; done) | omega | (dsimp only; omega)) _), by repeat (first | with_reducible assumption | with_reducible refine Lm.drew ?_ | with_reducible refine Lm.drewN ?_ _ | (with_reducible refine Lm.skip ?_ ?_; focus (first | omega | (simp; done))) | with_reducible refine Lm.set0 ?_ _ | with_reducible refine Lm.set4 ?_ _ | with_reducible refine Lm.set5 ?_ _ | with_reducible refine Lm.setk ?_ _ (by decide) | (with_reducible refine Lm.cells1 ?_; exact ⟨_, by with_reducible assumption⟩) | (with_reducible refine Lm.skips ?_ _ _ ?_; focus (first | omega | (simp; done))) | (with_reducible refine Lm.new ?_ <;> first | rfl | (simp; done)) | (with_reducible refine Lm.fresh ?_ ?_ <;> first | rfl | (simp; done)) | with_reducible refine Lm.alloc ?_ _)⟩ ?_; clear EX ; rintro v1 ⟨EX, LB⟩; rename World => v; have LBc0 := LB.c0; have LBc1 := LB.c1; have LBc2 := LB.c2; have LBc3 := LB.c3; have LBc4 := LB.c4; have LBc5 := LB.c5; have LBdg := LB.dg; have LBfz := LB.fz; have LBlt := LB.lt
  go_wp2_with (first | (refine wpList_load_lay (w.heap.size) _ rfl rfl rfl LB ?_) | (go_at_call 23; with_reducible refine (CK _ EX).mono ?_; rintro e v1 ⟨rfl, hb⟩; replace EX := Ext.trans EX hb; replace LB := LB.later hb; replace LBc0 := LB.c0; replace LBc1 := LB.c1; replace LBc2 := LB.c2; replace LBc3 := LB.c3; replace LBc4 := LB.c4; replace LBc5 := LB.c5; replace LBdg := LB.dg; replace LBfz := LB.fz; replace LBlt := LB.lt; clear hb v; rename World => v) | (go_at_call 24; with_reducible refine (SZ _ EX).mono ?_; rintro e v1 ⟨rfl, hb⟩; replace EX := Ext.trans EX hb; replace LB := LB.later hb; replace LBc0 := LB.c0; replace LBc1 := LB.c1; replace LBc2 := LB.c2; replace LBc3 := LB.c3; replace LBc4 := LB.c4; replace LBc5 := LB.c5; replace LBdg := LB.dg; replace LBfz := LB.fz; replace LBlt := LB.lt; clear hb v; rename World => v))
  go_ret2
  exact ⟨rfl, EX⟩
/-- A new list of vertices, all noughts. -/
def zrec : Rcd := ⟨0, 0, 0, fun _ => 0⟩
theorem make_recs (n : Nat) (hn : n ≤ 65536) (w : World) : ∃ cs, (Instr.makeSlice 31 (.int .i64 (n : Int)) (.int .i64 (n : Int))).run Tryd.prog w = .ok (.slice (some ⟨w.heap.size, 0, none⟩) n n) (w.alloc (.cells cs 63)) ∧
    Lst (w.alloc (.cells cs 63)) 63 7 (.slice (some ⟨w.heap.size, 0, none⟩) n n) n (fun _ => rv zrec) := by
  obtain ⟨i0, hi0, hz0, hz1, hz2⟩ := info_parts info_recG
  have hr := run_make (P := Tryd.prog) w 31 63 i0 _ Tryd.underlying31 hi0 hz0 .i64 .i64 n n (by omega) (Int.le_refl _) (by rw [hz2]; omega) (by omega)
  rw [Int.toNat_natCast, hz1] at hr
  refine ⟨_, hr, ?_, .inr ⟨_, _, _, rfl, Nat.zero_le _, heap_alloc_new _ _, Nat.le_refl _, by unfold maxLen; omega, size_madeCells _ _, ?_⟩⟩
  · rw [ew_len]
  · have e : (madeCells (Value.agg #[.int .u8 0, .int .u32 0, .int .u32 0, .int .u16 0, .int .u16 0, .int .u16 0, .int .u16 0]).cells (n * 7)).toList = ew 7 n (fun _ => rv zrec) := by
      refine List.ext_getElem? fun j => ?_
      by_cases hj : j < n * 7
      · have h7 : j % 7 < 7 := Nat.mod_lt _ (by decide)
        have hk : (ew 7 n (fun _ => rv zrec))[j]? = some (rv zrec (j % 7)) := by
          unfold ew
          exact vl_at _ _ hj
        rw [hk, Array.getElem?_toList]
        unfold madeCells
        rw [Array.getElem?_map, Array.getElem?_range, if_pos hj]
        show some ((#[Value.int .u8 0, .int .u32 0, .int .u32 0, .int .u16 0, .int .u16 0, .int .u16 0, .int .u16 0])[j % 7]!) = _
        generalize j % 7 = k at h7
        match k, h7 with
        | 0, _ => rfl
        | 1, _ => rfl
        | 2, _ => rfl
        | 3, _ => rfl
        | 4, _ => rfl
        | 5, _ => rfl
        | 6, _ => rfl
      · refine (List.getElem?_eq_none ?_).trans (List.getElem?_eq_none ?_).symm
        · rw [Array.length_toList, size_madeCells]; omega
        · rw [ew_len]; omega
    rw [List.take_of_length_le (by rw [Array.length_toList, size_madeCells]; exact Nat.le_refl _), e]
end Go.Proofs.YtemcppakmcffgaaDoor
