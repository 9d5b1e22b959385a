/- What package records' lay does over a row of bits, where there is room. -/
import Derived.Test.YtemcppakmcffgaaDoorPkG
namespace Go.Proofs.YtemcppakmcffgaaDoor
open Go.RowKit Go.BigFrame
set_option linter.unusedSimpArgs false
set_option linter.unusedVariables false
set_option maxRecDepth 20000

def lpos (fl c p n : Nat) : Nat → Nat
  | 0 => 0
  | 1 => fl
  | 2 => fl + c + c
  | _ => fl + c + c + n * p
theorem Stp.cell {v v' : World} {r sh b o : Nat} {u u' x : Value} (S : Stp v v' r sh u u') (h : ¬ In r sh u b) (c : v.cell? ⟨b, o, none⟩ = some x) : v'.cell? ⟨b, o, none⟩ = some x := S.1.cell h c

set_option maxHeartbeats 8000000 in
theorem layPut (r sh t : Nat) (u : Value) (β : Nat → Int) (g bF bP bC bA fl c p n cq : Nat) (F X Y : Int) (C : Nat → Int) (hF : 0 ≤ F ∧ F < 256) (hC : ∀ k, k < 4 → 0 ≤ C k ∧ C k < 65536) (f8 : fl ≤ 8) (c32 : c ≤ 32) (p16 : p ≤ 16) (n4 : n ≤ 4) (w : World) (FDS : Fds w g bF bP bC bA fl c p n) (RR : Row w r sh u β t)
    (hN : ∀ b, (b = g ∨ b = bF ∨ b = bP ∨ b = bC ∨ b = bA) → ¬ In r sh u b) (bf : nb β t fl = F) (bx : nb β (t + fl) c = X) (by' : nb β (t + fl + c) c = Y) (bc : ∀ k, k < 4 → nb β (t + fl + c + c + psum (cbits n p) k) (cbits n p k) = C k) (ht : t + fl + c + c + n * p ≤ 524288) :
    Calls Tryd.prog 74 #[.slice (some ⟨g, 0, none⟩) 3 cq, .agg (vl 7 (rv ⟨F, X, Y, C⟩)).toArray, .func (.func 77) #[.pointer (some ⟨r, 0, none⟩)] #[]] w fun e w' => e = .returned (.int .i64 0) ∧ ∃ u', Row w' r sh u' β (t + fl + c + c + n * p) ∧ Stp w w' r sh u u' := by
  have EX := Ext.refl w
  have HC : Hid (∀ k, k < 4 → 0 ≤ C k ∧ C k < 65536) := hC
  have HBC : Hid (∀ k, k < 4 → nb β (t + fl + c + c + psum (cbits n p) k) (cbits n p k) = C k) := bc
  have nw := RR.new_off
  clear hC bc
  go_enter Tryd.func74, Tryd.ntmps74
  go_upto_region 2 with fail
  have fl5 := FDS.lt
  have hNg := hN g (.inl rfl)
  have hNF := hN bF (.inr (.inl rfl))
  have hNP := hN bP (.inr (.inr (.inl rfl)))
  have hNC := hN bC (.inr (.inr (.inr (.inl rfl))))
  have hNA := hN bA (.inr (.inr (.inr (.inr rfl))))
  refine rebase (G := fun w' => Code.wp _ _ _ _ w') _ (fun v => Ext w v ∧ Fds v g bF bP bC bA fl c p n ∧ Vm v w.heap.size 7 (rv ⟨F, X, Y, C⟩) ∧ Row v r sh u β t) ⟨EX.alloc _, FDS.later (EX.alloc _), Vm.new rfl (fun i hi => by rw [List.getElem?_toArray, vl_at _ _ hi]), RR.later (EX.alloc _)⟩ ?_
  obtain ⟨bR, hbR⟩ : ∃ b, w.heap.size = b := ⟨_, rfl⟩
  rw [hbR] at fl5 nw ⊢
  clear EX FDS RR hN
  rintro w1 ⟨EX, FDS1, XB1, RR1⟩
  have h1l := FDS1.lt
  have h1b := XB1.lt
  go_loopg [12] 3 (fun gk iv wr => ∃ (k : Nat) (u1 : Value), k + gk = 3 ∧ iv = .int .i64 k ∧ Row wr r sh u1 β (t + lpos fl c p n k) ∧ Stp w1 wr r sh u u1)
  case atStart => exact ⟨0, u, rfl, rfl, RR1, Stp.refl _ _ _ _⟩
  case round =>
    obtain ⟨k, u1, hk, rfl, RR, ST⟩ := hrel
    obtain ⟨v, hv⟩ : ∃ v, v = wr := ⟨_, rfl⟩
    subst hv
    have FDS := FDS1.chg ST.1 hNg hNF hNP hNC hNA
    have XB := XB1.blk2 (ST.1.block bR h1b nw) ST.1.size
    have oP := ST.off h1l.2.2.1 hNP
    have oC := ST.off h1l.2.2.2.1 hNC
    have oA := ST.off h1l.2.2.2.2 hNA
    have HT : Hid (Stp w1 v r sh u u1) := ST
    clear ST
    rcases (show k = 0 ∨ k = 1 ∨ k = 2 ∨ k = 3 by omega) with rfl | rfl | rfl | rfl
    · have C0 := FDS.c0
      have C1 := FDS.c1
      have CG := fun v1 (h : Ext v v1) => flagPut r sh t u1 β bF fl F X Y C v1 (RR.later h) f8 hF bf (by omega) (h.later FDS.cF)
      have RX := XB.range
      obtain ⟨gv, hgv⟩ : ∃ gv, rv ⟨F, X, Y, C⟩ = gv := ⟨_, rfl⟩
      rw [hgv] at RX CG
      clear XB FDS hgv
      go_upto_region 4 with fail
      refine rebase (G := fun w' => Code.wp _ _ _ _ w') _ (fun v1 => Ext v v1 ∧ v1.cell? ⟨v.heap.size, 1, none⟩ = some (.func (.func 95) #[] #[.pointer (some ⟨bF, 0, none⟩)]) ∧ v1.rangeAt bR 0 (vl 7 gv)) ⟨(Ext.refl v).alloc _, new1 rfl, range_later RX ((Ext.refl v).alloc _)⟩ ?_
      clear RX C0 C1
      rintro v1 ⟨E1, cx, RX⟩
      go_wp2_with (first | (refine wpList_load_mid rfl 63 (.tmp 4) rfl bR 0 rfl (vl 7 gv) _ RX Tryd.underlying63 rfl (by rw [vl_len]; kernel_rfl) ?_) | (go_at_call 95; with_reducible refine (CG _ E1).mono ?_; rintro e v2 ⟨rfl, u2, R2, ST2⟩))
      go_roundg (gk - 1)
      case measure => omega
      case rel => exact ⟨1, u2, by omega, by go_num, by rw [show t + lpos fl c p n 1 = t + fl from by first | rfl | (show t + (fl + c + c) = _; omega) | (show t + (fl + c + c + n * p) = _; omega)]; exact R2, HT.out.trans ((Stp.of _ _ _ E1).trans ST2)⟩
    · have C0 := FDS.c2
      have C1 := FDS.c3
      have CG := fun v1 (h : Ext v v1) => pointPut r sh (t + fl) u1 β bP c F X Y C v1 (RR.later h) c32 bx by' (by omega) (h.later FDS.cP) oP
      have RX := XB.range
      obtain ⟨gv, hgv⟩ : ∃ gv, rv ⟨F, X, Y, C⟩ = gv := ⟨_, rfl⟩
      rw [hgv] at RX CG
      clear XB FDS hgv
      go_upto_region 4 with fail
      refine rebase (G := fun w' => Code.wp _ _ _ _ w') _ (fun v1 => Ext v v1 ∧ v1.cell? ⟨v.heap.size, 1, none⟩ = some (.func (.func 97) #[] #[.pointer (some ⟨bP, 0, none⟩)]) ∧ v1.rangeAt bR 0 (vl 7 gv)) ⟨(Ext.refl v).alloc _, new1 rfl, range_later RX ((Ext.refl v).alloc _)⟩ ?_
      clear RX C0 C1
      rintro v1 ⟨E1, cx, RX⟩
      go_wp2_with (first | (refine wpList_load_mid rfl 63 (.tmp 4) rfl bR 0 rfl (vl 7 gv) _ RX Tryd.underlying63 rfl (by rw [vl_len]; kernel_rfl) ?_) | (go_at_call 97; with_reducible refine (CG _ E1).mono ?_; rintro e v2 ⟨rfl, u2, R2, ST2⟩))
      go_roundg (gk - 1)
      case measure => omega
      case rel => exact ⟨2, u2, by omega, by go_num, by rw [show t + lpos fl c p n 2 = t + fl + c + c from by first | rfl | (show t + (fl + c + c) = _; omega) | (show t + (fl + c + c + n * p) = _; omega)]; exact R2, HT.out.trans ((Stp.of _ _ _ E1).trans ST2)⟩
    · have C0 := FDS.c4
      have C1 := FDS.c5
      have CG := fun v1 (h : Ext v v1) => coloursPut r sh (t + fl + c + c) u1 β bC bA n p F X Y C HC.out v1 (by have := RR.later h; rwa [show t + lpos fl c p n 2 = t + fl + c + c from by show t + (fl + c + c) = _; omega] at this) p16 n4 HBC.out ht (h.later FDS.cC) (fun i hi => h.later (FDS.cA i hi)) oC oA
      have RX := XB.range
      obtain ⟨gv, hgv⟩ : ∃ gv, rv ⟨F, X, Y, C⟩ = gv := ⟨_, rfl⟩
      rw [hgv] at RX CG
      clear XB FDS hgv
      go_upto_region 4 with fail
      refine rebase (G := fun w' => Code.wp _ _ _ _ w') _ (fun v1 => Ext v v1 ∧ v1.cell? ⟨v.heap.size, 1, none⟩ = some (.func (.func 100) #[] #[.pointer (some ⟨bC, 0, none⟩)]) ∧ v1.rangeAt bR 0 (vl 7 gv)) ⟨(Ext.refl v).alloc _, new1 rfl, range_later RX ((Ext.refl v).alloc _)⟩ ?_
      clear RX C0 C1
      rintro v1 ⟨E1, cx, RX⟩
      go_wp2_with (first | (refine wpList_load_mid rfl 63 (.tmp 4) rfl bR 0 rfl (vl 7 gv) _ RX Tryd.underlying63 rfl (by rw [vl_len]; kernel_rfl) ?_) | (go_at_call 100; with_reducible refine (CG _ E1).mono ?_; rintro e v2 ⟨rfl, u2, R2, ST2⟩))
      go_roundg (gk - 1)
      case measure => omega
      case rel => exact ⟨3, u2, by omega, by go_num, by rw [show t + lpos fl c p n 3 = t + fl + c + c + n * p from by first | rfl | (show t + (fl + c + c) = _; omega) | (show t + (fl + c + c + n * p) = _; omega)]; exact R2, HT.out.trans ((Stp.of _ _ _ E1).trans ST2)⟩
    · have HE : Hid (t + lpos fl c p n 3 = t + fl + c + c + n * p) := by show t + (fl + c + c + n * p) = _; omega
      go_wp2
      go_ret
      rw [HE.out] at RR
      exact ⟨rfl, u1, RR, (Stp.of _ _ _ EX).trans HT.out⟩
end Go.Proofs.YtemcppakmcffgaaDoor
