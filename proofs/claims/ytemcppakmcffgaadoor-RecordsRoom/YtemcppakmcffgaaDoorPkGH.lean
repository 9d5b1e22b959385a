/- What package records' closures that lay, and lay itself, do over a row of bits, where there is room. What package records' lay does over a row of bits, where there is room. -/
import Derived.Test.YtemcppakmcffgaaDoorPkEF
import Derived.Test.YtemcppakmcffgaaDoorBitEF
namespace Go.Proofs.YtemcppakmcffgaaDoor
open Go.RowKit Go.BigFrame
set_option linter.unusedSimpArgs false
set_option linter.unusedVariables false
set_option maxRecDepth 20000

theorem Stp.off {v v' : World} {r sh b : Nat} {u u' : Value} (S : Stp v v' r sh u u') (hb : b < v.heap.size) (h : ¬ In r sh u b) : ¬ In r sh u' b := by
  rintro (rfl | rfl | hg)
  · exact h (.inl rfl)
  · exact h (.inr (.inl rfl))
  · rcases S.2 b hg with h1 | h1
    · exact h (.inr (.inr h1))
    · omega
theorem Row.new_off {v : World} {r sh t : Nat} {u : Value} {β : Nat → Int} (RR : Row v r sh u β t) : ¬ In r sh u v.heap.size := fun h => by have := RR.lt _ h; omega
set_option maxHeartbeats 4000000 in
theorem flagPut (r sh t : Nat) (u : Value) (β : Nat → Int) (bF fl : Nat) (F X Y : Int) (C : Nat → Int) (w : World) (RR : Row w r sh u β t) (h8 : fl ≤ 8) (hF : 0 ≤ F ∧ F < 256) (hb : nb β t fl = F) (ht : t + fl ≤ 524288) (c0 : w.cell? ⟨bF, 0, none⟩ = some (.int .i64 (fl : Nat))) :
    Calls Tryd.prog 95 #[.agg (vl 7 (rv ⟨F, X, Y, C⟩)).toArray, .func (.func 77) #[.pointer (some ⟨r, 0, none⟩)] #[], .pointer (some ⟨bF, 0, none⟩)] w fun e w' => e = .returned (.int .i64 0) ∧ ∃ u', Row w' r sh u' β (t + fl) ∧ Stp w w' r sh u u' := by
  have PT := fun v (h : Ext w v) => put_any r sh t fl u β F v (RR.later h) (by omega) hb ht
  have EX := Ext.refl w
  go_enter Tryd.func95, Tryd.ntmps95
  go_upto_region 1 with fail
  have bl := cell_lt c0
  refine rebase (G := fun w' => Code.wp _ _ _ _ w') _ (fun v => Ext w v ∧ v.cell? ⟨bF, 0, none⟩ = some (.int .i64 (fl : Nat)) ∧ v.cell? ⟨w.heap.size, 0, none⟩ = some (.int .u8 F)) ⟨EX.alloc _, old1 c0, new1 rfl⟩ ?_
  clear EX c0 RR
  rintro v ⟨EX, c0, x0⟩
  go_wp2_with (first | (go_at_call 77; with_reducible refine (PT _ EX).mono ?_; rintro e v1 ⟨rfl, u1, R1, ST⟩))
  go_ret
  exact ⟨rfl, u1, R1, (Stp.of _ _ _ EX).trans ST⟩
set_option maxHeartbeats 4000000 in
theorem pointPut (r sh t : Nat) (u : Value) (β : Nat → Int) (bP c : Nat) (F X Y : Int) (C : Nat → Int) (w : World) (RR : Row w r sh u β t) (h8 : c ≤ 32) (hx : nb β t c = X) (hy : nb β (t + c) c = Y) (ht : t + c + c ≤ 524288) (c0 : w.cell? ⟨bP, 0, none⟩ = some (.int .i64 (c : Nat))) (hn : ¬ In r sh u bP) :
    Calls Tryd.prog 97 #[.agg (vl 7 (rv ⟨F, X, Y, C⟩)).toArray, .func (.func 77) #[.pointer (some ⟨r, 0, none⟩)] #[], .pointer (some ⟨bP, 0, none⟩)] w fun e w' => e = .returned (.int .i64 0) ∧ ∃ u', Row w' r sh u' β (t + c + c) ∧ Stp w w' r sh u u' := by
  have EX := Ext.refl w
  have HR : Hid (Row w r sh u β t) := RR
  have nw := RR.new_off
  go_enter Tryd.func97, Tryd.ntmps97
  go_upto_region 1 with fail
  have bl := cell_lt c0
  refine rebase (G := fun w' => Code.wp _ _ _ _ w') _ (fun v => Ext w v ∧ v.cell? ⟨bP, 0, none⟩ = some (.int .i64 (c : Nat)) ∧ v.cell? ⟨w.heap.size, 1, none⟩ = some (.int .u32 X) ∧ v.cell? ⟨w.heap.size, 2, none⟩ = some (.int .u32 Y)) ⟨EX.alloc _, old1 c0, new1 rfl, new1 rfl⟩ ?_
  clear EX c0 RR
  rintro v ⟨EX, c0, x1, x2⟩
  have RV := HR.out.later EX
  have g0 := fun x' : Alt (In r sh u) v => x'.cell hn c0
  have g1 := fun x' : Alt (In r sh u) v => x'.cell nw x1
  have g2 := fun x' : Alt (In r sh u) v => x'.cell nw x2
  refine wp_region_reads (fun i => !decide (i = 5 ∨ 11 ≤ i)) 5 15 (fun w' => ∃ x : Alt (In r sh u) v, w' = x.out) (by kernel_rfl) (by kernel_rfl) (fun c a x v w h => by cases x <;> exact h) ⟨⟨v.drew, (Chg.refl _ v).drew⟩, rfl⟩ ?_
  intro l1 l2 h1 h2
  simp [pickB] at h1 h2
  subst h1 h2
  (repeat (first | go_big_quiet_step (fail))); refine wpQuiet_nil ?_; clear g0 g1 g2 c0 x1 x2
  have S0 : Stp v v.drew r sh u u := Stp.of _ _ _ ((Ext.refl v).drew)
  have PT1 := put_any r sh t c u β X v.drew (RV.later ((Ext.refl v).drew)) (by omega) hx (by omega)
  refine hold_step (n := 4) fun K hK => ?_
  go_wp2_with (first | (go_at_call 77; with_reducible refine PT1.mono ?_; rintro e v1 ⟨rfl, u1, R1, ST1⟩))
  refine hK _ _ ⟨⟨v1, (S0.trans ST1).1⟩, rfl⟩ ?_
  clear hK K PT1
  have PT2 := put_any r sh (t + c) c u1 β Y v1 R1 (by omega) hy (by omega)
  refine hold_step (n := 3) fun K hK => ?_
  go_wp2_with (first | (go_at_call 77; with_reducible refine PT2.mono ?_; rintro e v2 ⟨rfl, u2, R2, ST2⟩))
  refine hK _ _ ⟨⟨v2, ((S0.trans ST1).trans ST2).1⟩, rfl⟩ ?_
  clear hK K PT2
  have S3 : Stp v (v2.alloc (.cells #[.int .i64 0, .int .i64 0] 32)) r sh u u2 := ((S0.trans ST1).trans ST2).trans (Stp.of _ _ _ ((Ext.refl v2).alloc _))
  refine hold_step (n := 2) fun K hK => ?_
  go_wp2
  have OR := or_is v2.heap.size 0 0 (v2.alloc (.cells #[.int .i64 0, .int .i64 0] 32)) (new1 rfl) (new1 rfl)
  rw [if_pos rfl] at OR
  refine hK _ _ ⟨⟨_, S3.1⟩, rfl⟩ ?_
  clear hK K
  refine hold_step (n := 1) fun K hK => ?_
  go_wp2_with (first | (go_at_call 98; with_reducible refine OR.mono ?_; rintro e v4 ⟨rfl, h4⟩))
  have S4 := S3.trans (Stp.of r sh u2 h4)
  refine hK _ _ ⟨⟨v4, S4.1⟩, rfl⟩ ?_
  clear hK K OR
  refine hold_step (n := 0) fun K hK => ?_
  go_wp2
  refine hK _ _ ⟨⟨v4, S4.1⟩, rfl⟩ ?_
  clear hK K
  refine hold_done ?_
  go_wp2
  go_ret
  exact ⟨rfl, u2, (R2.later ((Ext.refl v2).alloc _)).later h4, (Stp.of _ _ _ EX).trans S4⟩
set_option maxHeartbeats 4000000 in
theorem coloursPut (r sh t : Nat) (u : Value) (β : Nat → Int) (bC bA n p : Nat) (F X Y : Int) (C : Nat → Int) (hC : ∀ k, k < 4 → 0 ≤ C k ∧ C k < 65536) (w : World) (RR : Row w r sh u β t) (h8 : p ≤ 16) (n4 : n ≤ 4) (hc : ∀ k, k < 4 → nb β (t + psum (cbits n p) k) (cbits n p k) = C k) (ht : t + n * p ≤ 524288)
    (c0 : w.cell? ⟨bC, 0, none⟩ = some (.slice (some ⟨bA, 0, none⟩) 4 4)) (hA : ∀ i, i < 4 → w.cell? ⟨bA, 0 + i, none⟩ = some (.int .i64 (cbits n p i : Nat))) (hn : ¬ In r sh u bC) (hn2 : ¬ In r sh u bA) :
    Calls Tryd.prog 100 #[.agg (vl 7 (rv ⟨F, X, Y, C⟩)).toArray, .func (.func 77) #[.pointer (some ⟨r, 0, none⟩)] #[], .pointer (some ⟨bC, 0, none⟩)] w fun e w' => e = .returned (.int .i64 0) ∧ ∃ u', Row w' r sh u' β (t + n * p) ∧ Stp w w' r sh u u' := by
  have EX := Ext.refl w
  have hs4 : psum (cbits n p) 4 = n * p := by rw [cbits_sum]; by_cases h : 4 < n; omega; rw [if_neg h]
  have bA0 := cell_lt (hA 0 (by decide))
  have HA : Hid (∀ i, i < 4 → w.cell? ⟨bA, i, none⟩ = some (.int .i64 (cbits n p i : Nat))) := fun i hi => by have := hA i hi; rwa [Nat.zero_add] at this
  have HC : Hid (∀ k, k < 4 → nb β (t + psum (cbits n p) k) (cbits n p k) = C k) := hc
  have HB : Hid (∀ k, k < 4 → 0 ≤ C k ∧ C k < 65536) := hC
  have HS : Hid (psum (cbits n p) 4 = n * p) := hs4
  have nw := RR.new_off
  clear hA hc hC
  go_enter Tryd.func100, Tryd.ntmps100
  go_upto_region 1 with fail
  have bl := cell_lt c0
  refine rebase (G := fun w' => Code.wp _ _ _ _ w') _ (fun v => Ext w v ∧ w.heap.size < v.heap.size ∧ v.cell? ⟨bC, 0, none⟩ = some (.slice (some ⟨bA, 0, none⟩) 4 4) ∧ Hid (∀ j, j < 4 → v.cell? ⟨w.heap.size, 3 + j, none⟩ = some (.int .u16 (C j)))) ⟨EX.alloc _, by simp, old1 c0, fun j hj => new1 (by rw [List.getElem?_toArray, vl_at _ _ (show 3 + j < 7 by omega), Nat.add_comm 3 j]; rfl)⟩ ?_
  clear EX c0
  rintro v ⟨EX, hsz, c0, HX⟩
  replace RR := RR.later EX
  go_upto_region 2 with fail
  clear c0
  rename World => w1
  go_loopg [11] 4 (fun gk iv wr => ∃ (k : Nat) (u1 : Value), k + gk = 4 ∧ iv = .int .i64 k ∧ Row wr r sh u1 β (t + psum (cbits n p) k) ∧ Stp w1 wr r sh u u1)
  case atStart => exact ⟨0, u, rfl, rfl, RR, Stp.refl _ _ _ _⟩
  case round =>
    clear RR
    obtain ⟨k, u1, hk, rfl, RR, ST⟩ := hrel
    obtain ⟨v, hv⟩ : ∃ v, v = wr := ⟨_, rfl⟩
    subst hv
    by_cases hlt : k < 4
    · have hki : (k : Int) < 4 := by omega
      have cK := ST.1.cell hn2 (EX.later (HA.out k hlt))
      have xK := ST.1.cell nw (HX.out k hlt)
      have hb16 : cbits n p k ≤ 16 := by unfold cbits; split <;> omega
      have hle := psum_le (cbits n p) (show k + 1 ≤ 4 by omega)
      rw [HS.out] at hle
      have hle2 : psum (cbits n p) k + cbits n p k ≤ n * p := hle
      have PT := put_any r sh (t + psum (cbits n p) k) (cbits n p k) u1 β (C k) v RR (by omega) (HC.out k hlt) (by omega)
      have HE : Hid (t + psum (cbits n p) k + cbits n p k = t + psum (cbits n p) (k + 1)) := Nat.add_assoc _ _ _
      have bk := HB.out k hlt
      generalize C k = z at *
      clear hle hle2 RR
      generalize t + psum (cbits n p) k = T at *
      generalize cbits n p k = q at *
      go_wp2_with (first | (go_at_call 77; with_reducible refine PT.mono ?_; rintro e v1 ⟨rfl, u2, R2, ST2⟩))
      go_roundg (gk - 1)
      case measure => omega
      case rel => exact ⟨k + 1, u2, by omega, by go_num, by rw [← HE.out]; exact R2, ST.trans ST2⟩
    · obtain rfl : k = 4 := by omega
      go_wp2
      go_ret
      rw [HS.out] at RR
      exact ⟨rfl, u1, RR, (Stp.of _ _ _ EX).trans ST⟩
end Go.Proofs.YtemcppakmcffgaaDoor

namespace Go.Proofs.YtemcppakmcffgaaDoor
open Go.RowKit Go.BigFrame
set_option linter.unusedSimpArgs false
set_option linter.unusedVariables false
set_option maxRecDepth 20000

def lpos (fl c p n : Nat) : Nat → Nat
  | 0 => 0
  | 1 => fl
  | 2 => fl + c + c
  | _ => fl + c + c + n * p
theorem Stp.cell {v v' : World} {r sh b o : Nat} {u u' x : Value} (S : Stp v v' r sh u u') (h : ¬ In r sh u b) (c : v.cell? ⟨b, o, none⟩ = some x) : v'.cell? ⟨b, o, none⟩ = some x := S.1.cell h c

set_option maxHeartbeats 8000000 in
theorem layPut (r sh t : Nat) (u : Value) (β : Nat → Int) (g bF bP bC bA fl c p n cq : Nat) (F X Y : Int) (C : Nat → Int) (hF : 0 ≤ F ∧ F < 256) (hC : ∀ k, k < 4 → 0 ≤ C k ∧ C k < 65536) (f8 : fl ≤ 8) (c32 : c ≤ 32) (p16 : p ≤ 16) (n4 : n ≤ 4) (w : World) (FDS : Fds w g bF bP bC bA fl c p n) (RR : Row w r sh u β t)
    (hN : ∀ b, (b = g ∨ b = bF ∨ b = bP ∨ b = bC ∨ b = bA) → ¬ In r sh u b) (bf : nb β t fl = F) (bx : nb β (t + fl) c = X) (by' : nb β (t + fl + c) c = Y) (bc : ∀ k, k < 4 → nb β (t + fl + c + c + psum (cbits n p) k) (cbits n p k) = C k) (ht : t + fl + c + c + n * p ≤ 524288) :
    Calls Tryd.prog 74 #[.slice (some ⟨g, 0, none⟩) 3 cq, .agg (vl 7 (rv ⟨F, X, Y, C⟩)).toArray, .func (.func 77) #[.pointer (some ⟨r, 0, none⟩)] #[]] w fun e w' => e = .returned (.int .i64 0) ∧ ∃ u', Row w' r sh u' β (t + fl + c + c + n * p) ∧ Stp w w' r sh u u' := by
  have EX := Ext.refl w
  have HC : Hid (∀ k, k < 4 → 0 ≤ C k ∧ C k < 65536) := hC
  have HBC : Hid (∀ k, k < 4 → nb β (t + fl + c + c + psum (cbits n p) k) (cbits n p k) = C k) := bc
  have nw := RR.new_off
  clear hC bc
  go_enter Tryd.func74, Tryd.ntmps74
  go_upto_region 2 with fail
  have fl5 := FDS.lt
  have hNg := hN g (.inl rfl)
  have hNF := hN bF (.inr (.inl rfl))
  have hNP := hN bP (.inr (.inr (.inl rfl)))
  have hNC := hN bC (.inr (.inr (.inr (.inl rfl))))
  have hNA := hN bA (.inr (.inr (.inr (.inr rfl))))
  refine rebase (G := fun w' => Code.wp _ _ _ _ w') _ (fun v => Ext w v ∧ Fds v g bF bP bC bA fl c p n ∧ Vm v w.heap.size 7 (rv ⟨F, X, Y, C⟩) ∧ Row v r sh u β t) ⟨EX.alloc _, FDS.later (EX.alloc _), Vm.new rfl (fun i hi => by rw [List.getElem?_toArray, vl_at _ _ hi]), RR.later (EX.alloc _)⟩ ?_
  obtain ⟨bR, hbR⟩ : ∃ b, w.heap.size = b := ⟨_, rfl⟩
  rw [hbR] at fl5 nw ⊢
  clear EX FDS RR hN
  rintro w1 ⟨EX, FDS1, XB1, RR1⟩
  have h1l := FDS1.lt
  have h1b := XB1.lt
  go_loopg [12] 3 (fun gk iv wr => ∃ (k : Nat) (u1 : Value), k + gk = 3 ∧ iv = .int .i64 k ∧ Row wr r sh u1 β (t + lpos fl c p n k) ∧ Stp w1 wr r sh u u1)
  case atStart => exact ⟨0, u, rfl, rfl, RR1, Stp.refl _ _ _ _⟩
  case round =>
    obtain ⟨k, u1, hk, rfl, RR, ST⟩ := hrel
    obtain ⟨v, hv⟩ : ∃ v, v = wr := ⟨_, rfl⟩
    subst hv
    have FDS := FDS1.chg ST.1 hNg hNF hNP hNC hNA
    have XB := XB1.blk2 (ST.1.block bR h1b nw) ST.1.size
    have oP := ST.off h1l.2.2.1 hNP
    have oC := ST.off h1l.2.2.2.1 hNC
    have oA := ST.off h1l.2.2.2.2 hNA
    have HT : Hid (Stp w1 v r sh u u1) := ST
    clear ST
    rcases (show k = 0 ∨ k = 1 ∨ k = 2 ∨ k = 3 by omega) with rfl | rfl | rfl | rfl
    · have C0 := FDS.c0
      have C1 := FDS.c1
      have CG := fun v1 (h : Ext v v1) => flagPut r sh t u1 β bF fl F X Y C v1 (RR.later h) f8 hF bf (by omega) (h.later FDS.cF)
      have RX := XB.range
      obtain ⟨gv, hgv⟩ : ∃ gv, rv ⟨F, X, Y, C⟩ = gv := ⟨_, rfl⟩
      rw [hgv] at RX CG
      clear XB FDS hgv
      go_upto_region 4 with fail
      refine rebase (G := fun w' => Code.wp _ _ _ _ w') _ (fun v1 => Ext v v1 ∧ v1.cell? ⟨v.heap.size, 1, none⟩ = some (.func (.func 95) #[] #[.pointer (some ⟨bF, 0, none⟩)]) ∧ v1.rangeAt bR 0 (vl 7 gv)) ⟨(Ext.refl v).alloc _, new1 rfl, range_later RX ((Ext.refl v).alloc _)⟩ ?_
      clear RX C0 C1
      rintro v1 ⟨E1, cx, RX⟩
      go_wp2_with (first | (refine wpList_load_mid rfl 63 (.tmp 4) rfl bR 0 rfl (vl 7 gv) _ RX Tryd.underlying63 rfl (by rw [vl_len]; kernel_rfl) ?_) | (go_at_call 95; with_reducible refine (CG _ E1).mono ?_; rintro e v2 ⟨rfl, u2, R2, ST2⟩))
      go_roundg (gk - 1)
      case measure => omega
      case rel => exact ⟨1, u2, by omega, by go_num, by rw [show t + lpos fl c p n 1 = t + fl from by first | rfl | (show t + (fl + c + c) = _; omega) | (show t + (fl + c + c + n * p) = _; omega)]; exact R2, HT.out.trans ((Stp.of _ _ _ E1).trans ST2)⟩
    · have C0 := FDS.c2
      have C1 := FDS.c3
      have CG := fun v1 (h : Ext v v1) => pointPut r sh (t + fl) u1 β bP c F X Y C v1 (RR.later h) c32 bx by' (by omega) (h.later FDS.cP) oP
      have RX := XB.range
      obtain ⟨gv, hgv⟩ : ∃ gv, rv ⟨F, X, Y, C⟩ = gv := ⟨_, rfl⟩
      rw [hgv] at RX CG
      clear XB FDS hgv
      go_upto_region 4 with fail
      refine rebase (G := fun w' => Code.wp _ _ _ _ w') _ (fun v1 => Ext v v1 ∧ v1.cell? ⟨v.heap.size, 1, none⟩ = some (.func (.func 97) #[] #[.pointer (some ⟨bP, 0, none⟩)]) ∧ v1.rangeAt bR 0 (vl 7 gv)) ⟨(Ext.refl v).alloc _, new1 rfl, range_later RX ((Ext.refl v).alloc _)⟩ ?_
      clear RX C0 C1
      rintro v1 ⟨E1, cx, RX⟩
      go_wp2_with (first | (refine wpList_load_mid rfl 63 (.tmp 4) rfl bR 0 rfl (vl 7 gv) _ RX Tryd.underlying63 rfl (by rw [vl_len]; kernel_rfl) ?_) | (go_at_call 97; with_reducible refine (CG _ E1).mono ?_; rintro e v2 ⟨rfl, u2, R2, ST2⟩))
      go_roundg (gk - 1)
      case measure => omega
      case rel => exact ⟨2, u2, by omega, by go_num, by rw [show t + lpos fl c p n 2 = t + fl + c + c from by first | rfl | (show t + (fl + c + c) = _; omega) | (show t + (fl + c + c + n * p) = _; omega)]; exact R2, HT.out.trans ((Stp.of _ _ _ E1).trans ST2)⟩
    · have C0 := FDS.c4
      have C1 := FDS.c5
      have CG := fun v1 (h : Ext v v1) => coloursPut r sh (t + fl + c + c) u1 β bC bA n p F X Y C HC.out v1 (by have := RR.later h; rwa [show t + lpos fl c p n 2 = t + fl + c + c from by show t + (fl + c + c) = _; omega] at this) p16 n4 HBC.out ht (h.later FDS.cC) (fun i hi => h.later (FDS.cA i hi)) oC oA
      have RX := XB.range
      obtain ⟨gv, hgv⟩ : ∃ gv, rv ⟨F, X, Y, C⟩ = gv := ⟨_, rfl⟩
      rw [hgv] at RX CG
      clear XB FDS hgv
      go_upto_region 4 with fail
      refine rebase (G := fun w' => Code.wp _ _ _ _ w') _ (fun v1 => Ext v v1 ∧ v1.cell? ⟨v.heap.size, 1, none⟩ = some (.func (.func 100) #[] #[.pointer (some ⟨bC, 0, none⟩)]) ∧ v1.rangeAt bR 0 (vl 7 gv)) ⟨(Ext.refl v).alloc _, new1 rfl, range_later RX ((Ext.refl v).alloc _)⟩ ?_
      clear RX C0 C1
      rintro v1 ⟨E1, cx, RX⟩
      go_wp2_with (first | (refine wpList_load_mid rfl 63 (.tmp 4) rfl bR 0 rfl (vl 7 gv) _ RX Tryd.underlying63 rfl (by rw [vl_len]; kernel_rfl) ?_) | (go_at_call 100; with_reducible refine (CG _ E1).mono ?_; rintro e v2 ⟨rfl, u2, R2, ST2⟩))
      go_roundg (gk - 1)
      case measure => omega
      case rel => exact ⟨3, u2, by omega, by go_num, by rw [show t + lpos fl c p n 3 = t + fl + c + c + n * p from by first | rfl | (show t + (fl + c + c) = _; omega) | (show t + (fl + c + c + n * p) = _; omega)]; exact R2, HT.out.trans ((Stp.of _ _ _ E1).trans ST2)⟩
    · have HE : Hid (t + lpos fl c p n 3 = t + fl + c + c + n * p) := by show t + (fl + c + c + n * p) = _; omega
      go_wp2
      go_ret
      rw [HE.out] at RR
      exact ⟨rfl, u1, RR, (Stp.of _ _ _ EX).trans HT.out⟩
end Go.Proofs.YtemcppakmcffgaaDoor
