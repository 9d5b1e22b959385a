/- What package records' closures that lay, and lay itself, do over fit: is there room? -/
import Derived.Test.YtemcppakmcffgaaDoorPkC
import Derived.Test.YtemcppakmcffgaaDoorRecTU
namespace Go.Proofs.YtemcppakmcffgaaDoor
open Go.RowKit Go.BigFrame
set_option linter.unusedSimpArgs false
set_option linter.unusedVariables false
set_option maxRecDepth 20000

set_option maxHeartbeats 4000000 in
theorem flagFit (bF fl : Nat) (F X Y : Int) (C : Nat → Int) (hF : 0 ≤ F ∧ F < 256) (h8 : fl ≤ 8) (w : World) (c0 : w.cell? ⟨bF, 0, none⟩ = some (.int .i64 (fl : Nat))) :
    Calls Tryd.prog 95 #[.agg (vl 7 (rv ⟨F, X, Y, C⟩)).toArray, .func (.func 75) #[] #[], .pointer (some ⟨bF, 0, none⟩)] w fun e w' => e = .returned (.int .i64 (if F < 2 ^ fl then 0 else 1)) ∧ Ext w w' := by
  have EX := Ext.refl w
  have FT := fun v => fit_is F fl hF.1 (by omega) (by omega) v
  generalize (if F < 2 ^ fl then (0 : Int) else 1) = z at *
  go_enter Tryd.func95, Tryd.ntmps95
  go_upto_region 1 with fail
  have bl := cell_lt c0
  refine rebase (G := fun w' => Code.wp _ _ _ _ w') _ (fun v => Ext w v ∧ v.cell? ⟨bF, 0, none⟩ = some (.int .i64 (fl : Nat)) ∧ v.cell? ⟨w.heap.size, 0, none⟩ = some (.int .u8 F)) ⟨EX.alloc _, old1 c0, new1 rfl⟩ ?_
  clear EX c0
  rintro v ⟨EX, c0, x0⟩
  go_wp2_with (first | (go_at_call 75; with_reducible refine (FT _).mono ?_; rintro e v1 ⟨rfl, hb⟩; replace EX := Ext.trans EX hb; clear hb))
  go_ret
  exact ⟨rfl, EX⟩
/-- The first one of two errors. -/
theorem or_is (b : Nat) (x y : Int) (w : World) (h0 : w.cell? ⟨b, 0, none⟩ = some (.int .i64 x)) (h1 : w.cell? ⟨b, 1, none⟩ = some (.int .i64 y)) :
    Calls Tryd.prog 98 #[.slice (some ⟨b, 0, none⟩) 2 2] w fun e w' => e = .returned (.int .i64 (if x = 0 then y else x)) ∧ Ext w w' := by
  have EX := Ext.refl w
  have HC : Hid (w.cell? ⟨b, 0, none⟩ = some (.int .i64 x) ∧ w.cell? ⟨b, 1, none⟩ = some (.int .i64 y)) := ⟨h0, h1⟩
  obtain ⟨z, hz⟩ : ∃ z, (if x = 0 then y else x) = z := ⟨_, rfl⟩
  have HZ : Hid ((if x = 0 then y else x) = z) := hz
  rw [hz]
  clear h0 h1 hz
  go_enter Tryd.func98, Tryd.ntmps98
  go_upto_region 3 with fail
  go_loopg [8] 2 (fun gk iv wr => ∃ k : Nat, k + gk = 2 ∧ iv = .int .i64 k ∧ Ext w wr ∧ (0 < k → x = 0) ∧ (1 < k → y = 0))
  case atStart => exact ⟨0, rfl, rfl, EX, fun h => by omega, fun h => by omega⟩
  case round =>
    clear EX
    obtain ⟨k, hk, rfl, EX, hx, hy⟩ := hrel
    obtain ⟨v, hv⟩ : ∃ v, v = wr := ⟨_, rfl⟩
    subst hv
    rcases (show k = 0 ∨ k = 1 ∨ k = 2 by omega) with rfl | rfl | rfl
    · have c0 := EX.later HC.out.1
      by_cases h : x = 0
      · have HX : Hid (x = 0) := h
        have h2 : (x != 0) = false := by simp [h]
        clear h hx hy
        go_wp2
        go_roundg (gk - 1)
        case measure => omega
        case rel => exact ⟨1, by omega, by go_num, EX, fun _ => HX.out, fun h => by omega⟩
      · have hz := HZ.out
        rw [if_neg h] at hz
        subst hz
        have h2 : (x != 0) = true := by simpa using h
        clear h hx hy
        go_wp2
        go_ret
        exact ⟨rfl, EX⟩
    · have c0 := EX.later HC.out.2
      have hz := HZ.out
      rw [if_pos (hx (by omega))] at hz
      have HX : Hid (x = 0) := hx (by omega)
      clear hx hy
      by_cases h : y = 0
      · have HY : Hid (y = 0) := h
        have h2 : (y != 0) = false := by simp [h]
        clear h hz
        go_wp2
        go_roundg (gk - 1)
        case measure => omega
        case rel => exact ⟨2, by omega, by go_num, EX, fun _ => HX.out, fun _ => HY.out⟩
      · subst hz
        have h2 : (y != 0) = true := by simpa using h
        clear h
        go_wp2
        go_ret
        exact ⟨rfl, EX⟩
    · have hz := HZ.out
      rw [if_pos (hx (by omega)), hy (by omega)] at hz
      subst hz
      go_wp2
      go_ret
      exact ⟨rfl, EX⟩
set_option maxHeartbeats 4000000 in
theorem pointFit (bP c : Nat) (F X Y : Int) (C : Nat → Int) (hX : 0 ≤ X ∧ X < 4294967296) (hY : 0 ≤ Y ∧ Y < 4294967296) (h8 : c ≤ 32) (w : World) (c0 : w.cell? ⟨bP, 0, none⟩ = some (.int .i64 (c : Nat))) :
    Calls Tryd.prog 97 #[.agg (vl 7 (rv ⟨F, X, Y, C⟩)).toArray, .func (.func 75) #[] #[], .pointer (some ⟨bP, 0, none⟩)] w fun e w' => e = .returned (.int .i64 (if (if X < 2 ^ c then (0 : Int) else 1) = 0 then (if Y < 2 ^ c then 0 else 1) else (if X < 2 ^ c then 0 else 1))) ∧ Ext w w' := by
  have EX := Ext.refl w
  have FT1 := fun v => fit_is X c hX.1 (by omega) (by omega) v
  have FT2 := fun v => fit_is Y c hY.1 (by omega) (by omega) v
  generalize (if X < 2 ^ c then (0 : Int) else 1) = z1 at *
  generalize (if Y < 2 ^ c then (0 : Int) else 1) = z2 at *
  obtain ⟨z, hz⟩ : ∃ z, (if z1 = 0 then z2 else z1) = z := ⟨_, rfl⟩
  have HZ : Hid ((if z1 = 0 then z2 else z1) = z) := hz
  rw [hz]
  clear hz
  go_enter Tryd.func97, Tryd.ntmps97
  go_upto_region 1 with fail
  have bl := cell_lt c0
  refine rebase (G := fun w' => Code.wp _ _ _ _ w') _ (fun v => Ext w v ∧ v.cell? ⟨bP, 0, none⟩ = some (.int .i64 (c : Nat)) ∧ v.cell? ⟨w.heap.size, 1, none⟩ = some (.int .u32 X) ∧ v.cell? ⟨w.heap.size, 2, none⟩ = some (.int .u32 Y)) ⟨EX.alloc _, old1 c0, new1 rfl, new1 rfl⟩ ?_
  clear EX c0
  rintro v ⟨EX, c0, x1, x2⟩
  have g0 := fun x' : Grow v => x'.cell c0
  have g1 := fun x' : Grow v => x'.cell x1
  have g2 := fun x' : Grow v => x'.cell x2
  refine wp_region_reads (fun i => !decide (i = 5 ∨ 11 ≤ i)) 5 15 (fun w' => ∃ x : Grow v, w' = x.out) (by kernel_rfl) (by kernel_rfl) (fun c a x v w h => by cases x <;> exact h) ⟨⟨v.drew, (Ext.refl v).drew⟩, rfl⟩ ?_
  intro l1 l2 h1 h2
  simp [pickB] at h1 h2
  subst h1 h2
  (repeat (first | go_big_quiet_step (fail))); refine wpQuiet_nil ?_; clear g0 g1 g2 c0 x1 x2
  have E0 : Ext v v.drew := (Ext.refl v).drew
  refine hold_step (n := 4) fun K hK => ?_
  go_wp2_with (first | (go_at_call 75; with_reducible refine (FT1 _).mono ?_; rintro e v1 ⟨rfl, h1⟩))
  refine hK _ _ ⟨⟨v1, E0.trans h1⟩, rfl⟩ ?_
  clear hK K FT1
  refine hold_step (n := 3) fun K hK => ?_
  go_wp2_with (first | (go_at_call 75; with_reducible refine (FT2 _).mono ?_; rintro e v2 ⟨rfl, h2⟩))
  refine hK _ _ ⟨⟨v2, (E0.trans h1).trans h2⟩, rfl⟩ ?_
  clear hK K FT2
  refine hold_step (n := 2) fun K hK => ?_
  go_wp2
  have E3 := ((E0.trans h1).trans h2).alloc (.cells #[.int .i64 z1, .int .i64 z2] 32)
  have OR := or_is v2.heap.size z1 z2 (v2.alloc (.cells #[.int .i64 z1, .int .i64 z2] 32)) (new1 rfl) (new1 rfl)
  rw [HZ.out] at OR
  refine hK _ _ ⟨⟨_, E3⟩, rfl⟩ ?_
  clear hK K
  refine hold_step (n := 1) fun K hK => ?_
  go_wp2_with (first | (go_at_call 98; with_reducible refine OR.mono ?_; rintro e v4 ⟨rfl, h4⟩))
  refine hK _ _ ⟨⟨v4, E3.trans h4⟩, rfl⟩ ?_
  clear hK K OR
  refine hold_step (n := 0) fun K hK => ?_
  go_wp2
  refine hK _ _ ⟨⟨v4, E3.trans h4⟩, rfl⟩ ?_
  clear hK K
  refine hold_done ?_
  go_wp2
  go_ret
  exact ⟨rfl, EX.trans (E3.trans h4)⟩
set_option maxHeartbeats 4000000 in
theorem coloursFit (bC bA n p : Nat) (F X Y : Int) (C : Nat → Int) (hC : ∀ k, k < 4 → 0 ≤ C k ∧ C k < 65536) (h8 : p ≤ 16) (w : World) (c0 : w.cell? ⟨bC, 0, none⟩ = some (.slice (some ⟨bA, 0, none⟩) 4 4)) (hA : ∀ i, i < 4 → w.cell? ⟨bA, 0 + i, none⟩ = some (.int .i64 (cbits n p i : Nat))) :
    Calls Tryd.prog 100 #[.agg (vl 7 (rv ⟨F, X, Y, C⟩)).toArray, .func (.func 75) #[] #[], .pointer (some ⟨bC, 0, none⟩)] w fun e w' => ∃ x, e = .returned (.int .i64 x) ∧ Ext w w' ∧ ((x = 0 ∧ ∀ k, k < 4 → C k < 2 ^ cbits n p k) ∨ (x = 1 ∧ ¬ ∀ k, k < 4 → C k < 2 ^ cbits n p k)) := by
  have EX := Ext.refl w
  have HA : Hid (∀ i, i < 4 → w.cell? ⟨bA, i, none⟩ = some (.int .i64 (cbits n p i : Nat))) := fun i hi => by have := hA i hi; rwa [Nat.zero_add] at this
  have HC : Hid (∀ k, k < 4 → 0 ≤ C k ∧ C k < 65536) := hC
  clear hA hC
  go_enter Tryd.func100, Tryd.ntmps100
  go_upto_region 1 with fail
  have bl := cell_lt c0
  refine rebase (G := fun w' => Code.wp _ _ _ _ w') _ (fun v => Ext w v ∧ v.cell? ⟨bC, 0, none⟩ = some (.slice (some ⟨bA, 0, none⟩) 4 4) ∧ Hid (∀ j, j < 4 → v.cell? ⟨w.heap.size, 3 + j, none⟩ = some (.int .u16 (C j)))) ⟨EX.alloc _, old1 c0, fun j hj => new1 (by rw [List.getElem?_toArray, vl_at _ _ (show 3 + j < 7 by omega), Nat.add_comm 3 j]; rfl)⟩ ?_
  clear EX c0
  rintro v ⟨EX, c0, HX⟩
  go_upto_region 2 with fail
  clear c0
  go_loopg [11] 4 (fun gk iv wr => ∃ k : Nat, k + gk = 4 ∧ iv = .int .i64 k ∧ Ext w wr ∧ Hid (∀ j, j < 4 → wr.cell? ⟨w.heap.size, 3 + j, none⟩ = some (.int .u16 (C j))) ∧ Hid (∀ j, j < k → C j < 2 ^ cbits n p j))
  case atStart => exact ⟨0, rfl, rfl, EX, HX, fun j hj => by omega⟩
  case round =>
    clear EX HX v
    obtain ⟨k, hk, rfl, EX, HX, HK⟩ := hrel
    obtain ⟨v, hv⟩ : ∃ v, v = wr := ⟨_, rfl⟩
    subst hv
    by_cases hlt : k < 4
    · have hki : (k : Int) < 4 := by omega
      have cK := EX.later (HA.out k hlt)
      have xK := HX.out k hlt
      have bk := HC.out k hlt
      have hb16 : cbits n p k ≤ 16 := by unfold cbits; split <;> omega
      have FT := fun v => fit_is (C k) (cbits n p k) bk.1 (by omega) (by omega) v
      by_cases hf : C k < 2 ^ cbits n p k
      · rw [if_pos hf] at FT
        have HK2 : Hid (∀ j, j < k + 1 → C j < 2 ^ cbits n p j) := fun j hj => by
          by_cases e : j = k
          · rw [e]; exact hf
          · exact HK.out j (by omega)
        clear hf HK
        generalize C k = z at *
        generalize cbits n p k = u at *
        go_wp2_with (first | (go_at_call 75; with_reducible refine (FT _).mono ?_; rintro e v1 ⟨rfl, hb⟩; replace EX := Ext.trans EX hb))
        go_roundg (gk - 1)
        case measure => omega
        case rel => exact ⟨k + 1, by omega, by go_num, EX, fun j hj => hb.later (HX.out j hj), HK2.out⟩
      · rw [if_neg hf] at FT
        have HN : Hid (¬ ∀ k, k < 4 → C k < 2 ^ cbits n p k) := fun h => hf (h k hlt)
        clear hf HK
        generalize C k = z at *
        generalize cbits n p k = u at *
        go_wp2_with (first | (go_at_call 75; with_reducible refine (FT _).mono ?_; rintro e v1 ⟨rfl, hb⟩; replace EX := Ext.trans EX hb))
        go_ret
        exact ⟨1, rfl, EX, .inr ⟨rfl, HN.out⟩⟩
    · obtain rfl : k = 4 := by omega
      go_wp2
      go_ret
      exact ⟨0, rfl, EX, .inl ⟨rfl, HK.out⟩⟩
/-- Has a vertex room? .. in the words of its fields. -/
theorem room_iff (fl c p n : Nat) (hn : n ≤ 4) {Q : Rcd} (hF : 0 ≤ Q.f) (hX : 0 ≤ Q.x) (hY : 0 ≤ Q.y) (hC : ∀ k, k < 4 → 0 ≤ Q.c k) :
    Room fl c p n Q ↔ Q.f < 2 ^ fl ∧ (Q.x < 2 ^ c ∧ Q.y < 2 ^ c) ∧ ∀ k, k < 4 → Q.c k < 2 ^ cbits n p k := by
  constructor
  · intro h
    refine ⟨h.f.2, ⟨h.x.2, h.y.2⟩, fun k hk => ?_⟩
    unfold cbits
    by_cases e : k < n
    · rw [if_pos e]; exact (h.c k e).2
    · rw [if_neg e, h.z k (by omega) hk]; decide
  · rintro ⟨h1, ⟨h2, h3⟩, h4⟩
    refine ⟨⟨hF, h1⟩, ⟨hX, h2⟩, ⟨hY, h3⟩, fun k hk => ⟨hC k (by omega), ?_⟩, fun k h5 h6 => ?_⟩
    · have := h4 k (by omega)
      unfold cbits at this
      rwa [if_pos hk] at this
    · have := h4 k h6
      unfold cbits at this
      rw [if_neg (by omega)] at this
      have := hC k h6
      have e1 : ((2 : Int) ^ 0) = 1 := rfl
      omega


set_option maxHeartbeats 8000000 in
theorem layFit (g bF bP bC bA fl c p n cq : Nat) (F X Y : Int) (C : Nat → Int) (hF : 0 ≤ F ∧ F < 256) (hX : 0 ≤ X ∧ X < 4294967296) (hY : 0 ≤ Y ∧ Y < 4294967296) (hC : ∀ k, k < 4 → 0 ≤ C k ∧ C k < 65536) (f8 : fl ≤ 8) (c32 : c ≤ 32) (p16 : p ≤ 16) (n4 : n ≤ 4) (w : World) (FDS : Fds w g bF bP bC bA fl c p n) :
    Calls Tryd.prog 74 #[.slice (some ⟨g, 0, none⟩) 3 cq, .agg (vl 7 (rv ⟨F, X, Y, C⟩)).toArray, .func (.func 75) #[] #[]] w fun e w' => ∃ x, e = .returned (.int .i64 x) ∧ Ext w w' ∧ ((x = 0 ∧ Room fl c p n ⟨F, X, Y, C⟩) ∨ (x = 1 ∧ ¬ Room fl c p n ⟨F, X, Y, C⟩)) := by
  have EX := Ext.refl w
  have HR : Hid (Room fl c p n ⟨F, X, Y, C⟩ ↔ F < 2 ^ fl ∧ (X < 2 ^ c ∧ Y < 2 ^ c) ∧ ∀ k, k < 4 → C k < 2 ^ cbits n p k) := room_iff fl c p n n4 hF.1 hX.1 hY.1 (fun k hk => (hC k hk).1)
  have HC : Hid (∀ k, k < 4 → 0 ≤ C k ∧ C k < 65536) := hC
  clear hC
  go_enter Tryd.func74, Tryd.ntmps74
  go_upto_region 2 with fail
  have fl5 := FDS.lt
  refine rebase (G := fun w' => Code.wp _ _ _ _ w') _ (fun v => Ext w v ∧ Fds v g bF bP bC bA fl c p n ∧ Vm v w.heap.size 7 (rv ⟨F, X, Y, C⟩)) ⟨EX.alloc _, FDS.later (EX.alloc _), Vm.new rfl (fun i hi => by rw [List.getElem?_toArray, vl_at _ _ hi])⟩ ?_
  obtain ⟨bR, hbR⟩ : ∃ b, w.heap.size = b := ⟨_, rfl⟩
  rw [hbR] at fl5 ⊢
  clear EX FDS
  rintro v ⟨EX, FDS, XB⟩
  go_loopg [12] 3 (fun gk iv wr => ∃ k : Nat, k + gk = 3 ∧ iv = .int .i64 k ∧ Ext w wr ∧ Fds wr g bF bP bC bA fl c p n ∧ Vm wr bR 7 (rv ⟨F, X, Y, C⟩) ∧ Hid (0 < k → F < 2 ^ fl) ∧ Hid (1 < k → X < 2 ^ c ∧ Y < 2 ^ c) ∧ Hid (2 < k → ∀ j, j < 4 → C j < 2 ^ cbits n p j))
  case atStart => exact ⟨0, rfl, rfl, EX, FDS, XB, fun h => by omega, fun h => by omega, fun h => by omega⟩
  case round =>
    clear EX FDS XB v
    obtain ⟨k, hk, rfl, EX, FDS, XB, H0, H1, H2⟩ := hrel
    obtain ⟨v, hv⟩ : ∃ v, v = wr := ⟨_, rfl⟩
    subst hv
    rcases (show k = 0 ∨ k = 1 ∨ k = 2 ∨ k = 3 by omega) with rfl | rfl | rfl | rfl
    · have C0 := FDS.c0
      have C1 := FDS.c1
      have CG := fun v1 (h : Ext v v1) => flagFit bF fl F X Y C hF f8 v1 (h.later FDS.cF)
      have HH : Hid (Fds v g bF bP bC bA fl c p n) := FDS
      have RX := XB.range
      have one7 : ∀ u ∈ vl 7 (rv ⟨F, X, Y, C⟩), u.oneCell' = true := rv_one _
      have xl := XB.lt
      have HB : Hid (Vm v bR 7 (rv ⟨F, X, Y, C⟩)) := XB
      obtain ⟨gv, hgv⟩ : ∃ gv, rv ⟨F, X, Y, C⟩ = gv := ⟨_, rfl⟩
      rw [hgv] at RX one7 CG
      clear XB FDS hgv
      go_upto_region 4 with fail
      refine rebase (G := fun w' => Code.wp _ _ _ _ w') _ (fun v1 => Ext v v1 ∧ v1.cell? ⟨v.heap.size, 1, none⟩ = some (.func (.func 95) #[] #[.pointer (some ⟨bF, 0, none⟩)]) ∧ v1.rangeAt bR 0 (vl 7 gv)) ⟨(Ext.refl v).alloc _, new1 rfl, range_later RX ((Ext.refl v).alloc _)⟩ ?_
      clear RX C0 C1
      rintro v1 ⟨E1, cx, RX⟩
      
      by_cases hf : F < 2 ^ fl
      · rw [if_pos hf] at CG
        have HF1 : Hid (F < 2 ^ fl) := hf
        clear hf
        go_wp2_with (first | (refine wpList_load_mid rfl 63 (.tmp 4) rfl bR 0 rfl (vl 7 gv) _ RX Tryd.underlying63 rfl (by rw [vl_len]; kernel_rfl) ?_) | (go_at_call 95; with_reducible refine (CG _ E1).mono ?_; rintro e v2 ⟨rfl, hb⟩))
        go_roundg (gk - 1)
        case measure => omega
        case rel => exact ⟨1, by omega, by go_num, EX.trans (E1.trans hb), HH.out.later (E1.trans hb), HB.out.later (E1.trans hb), fun _ => HF1.out, fun h => by omega, fun h => by omega⟩
      · rw [if_neg hf] at CG
        have HN : Hid (¬ Room fl c p n ⟨F, X, Y, C⟩) := fun h => hf (HR.out.1 h).1
        clear hf
        go_wp2_with (first | (refine wpList_load_mid rfl 63 (.tmp 4) rfl bR 0 rfl (vl 7 gv) _ RX Tryd.underlying63 rfl (by rw [vl_len]; kernel_rfl) ?_) | (go_at_call 95; with_reducible refine (CG _ E1).mono ?_; rintro e v2 ⟨rfl, hb⟩))
        go_ret
        exact ⟨1, rfl, EX.trans (E1.trans hb), .inr ⟨rfl, HN.out⟩⟩
    · have C0 := FDS.c2
      have C1 := FDS.c3
      have CG := fun v1 (h : Ext v v1) => pointFit bP c F X Y C hX hY c32 v1 (h.later FDS.cP)
      have HH : Hid (Fds v g bF bP bC bA fl c p n) := FDS
      have RX := XB.range
      have one7 : ∀ u ∈ vl 7 (rv ⟨F, X, Y, C⟩), u.oneCell' = true := rv_one _
      have xl := XB.lt
      have HB : Hid (Vm v bR 7 (rv ⟨F, X, Y, C⟩)) := XB
      obtain ⟨gv, hgv⟩ : ∃ gv, rv ⟨F, X, Y, C⟩ = gv := ⟨_, rfl⟩
      rw [hgv] at RX one7 CG
      clear XB FDS hgv
      go_upto_region 4 with fail
      refine rebase (G := fun w' => Code.wp _ _ _ _ w') _ (fun v1 => Ext v v1 ∧ v1.cell? ⟨v.heap.size, 1, none⟩ = some (.func (.func 97) #[] #[.pointer (some ⟨bP, 0, none⟩)]) ∧ v1.rangeAt bR 0 (vl 7 gv)) ⟨(Ext.refl v).alloc _, new1 rfl, range_later RX ((Ext.refl v).alloc _)⟩ ?_
      clear RX C0 C1
      rintro v1 ⟨E1, cx, RX⟩
      
      have ez : (if (if X < 2 ^ c then (0 : Int) else 1) = 0 then (if Y < 2 ^ c then 0 else 1) else (if X < 2 ^ c then (0 : Int) else 1)) = if X < 2 ^ c ∧ Y < 2 ^ c then 0 else 1 := by
        by_cases h1 : X < 2 ^ c <;> by_cases h2 : Y < 2 ^ c <;> simp [h1, h2]
      rw [ez] at CG
      clear ez
      by_cases hf : X < 2 ^ c ∧ Y < 2 ^ c
      · rw [if_pos hf] at CG
        have HF1 : Hid (X < 2 ^ c ∧ Y < 2 ^ c) := hf
        clear hf
        go_wp2_with (first | (refine wpList_load_mid rfl 63 (.tmp 4) rfl bR 0 rfl (vl 7 gv) _ RX Tryd.underlying63 rfl (by rw [vl_len]; kernel_rfl) ?_) | (go_at_call 97; with_reducible refine (CG _ E1).mono ?_; rintro e v2 ⟨rfl, hb⟩))
        go_roundg (gk - 1)
        case measure => omega
        case rel => exact ⟨2, by omega, by go_num, EX.trans (E1.trans hb), HH.out.later (E1.trans hb), HB.out.later (E1.trans hb), fun _ => H0.out (by omega), fun _ => HF1.out, fun h => by omega⟩
      · rw [if_neg hf] at CG
        have HN : Hid (¬ Room fl c p n ⟨F, X, Y, C⟩) := fun h => hf (HR.out.1 h).2.1
        clear hf
        go_wp2_with (first | (refine wpList_load_mid rfl 63 (.tmp 4) rfl bR 0 rfl (vl 7 gv) _ RX Tryd.underlying63 rfl (by rw [vl_len]; kernel_rfl) ?_) | (go_at_call 97; with_reducible refine (CG _ E1).mono ?_; rintro e v2 ⟨rfl, hb⟩))
        go_ret
        exact ⟨1, rfl, EX.trans (E1.trans hb), .inr ⟨rfl, HN.out⟩⟩
    · have C0 := FDS.c4
      have C1 := FDS.c5
      have CG := fun v1 (h : Ext v v1) => coloursFit bC bA n p F X Y C HC.out p16 v1 (h.later FDS.cC) (fun i hi => h.later (FDS.cA i hi))
      have HH : Hid (Fds v g bF bP bC bA fl c p n) := FDS
      have RX := XB.range
      have one7 : ∀ u ∈ vl 7 (rv ⟨F, X, Y, C⟩), u.oneCell' = true := rv_one _
      have xl := XB.lt
      have HB : Hid (Vm v bR 7 (rv ⟨F, X, Y, C⟩)) := XB
      obtain ⟨gv, hgv⟩ : ∃ gv, rv ⟨F, X, Y, C⟩ = gv := ⟨_, rfl⟩
      rw [hgv] at RX one7 CG
      clear XB FDS hgv
      go_upto_region 4 with fail
      refine rebase (G := fun w' => Code.wp _ _ _ _ w') _ (fun v1 => Ext v v1 ∧ v1.cell? ⟨v.heap.size, 1, none⟩ = some (.func (.func 100) #[] #[.pointer (some ⟨bC, 0, none⟩)]) ∧ v1.rangeAt bR 0 (vl 7 gv)) ⟨(Ext.refl v).alloc _, new1 rfl, range_later RX ((Ext.refl v).alloc _)⟩ ?_
      clear RX C0 C1
      rintro v1 ⟨E1, cx, RX⟩
      
      by_cases hf : ∀ k, k < 4 → C k < 2 ^ cbits n p k
      · have CG2 : ∀ v1, Ext v v1 → Calls Tryd.prog 100 #[.agg (vl 7 gv).toArray, .func (.func 75) #[] #[], .pointer (some ⟨bC, 0, none⟩)] v1 fun e w' => e = .returned (.int .i64 0) ∧ Ext v1 w' := fun v1 h => (CG v1 h).mono fun e w' h' => by
          obtain ⟨x, rfl, hb, ⟨rfl, _⟩ | ⟨_, hn⟩⟩ := h'
          · exact ⟨rfl, hb⟩
          · exact absurd hf hn
        have HF1 : Hid (∀ k, k < 4 → C k < 2 ^ cbits n p k) := hf
        clear hf CG
        go_wp2_with (first | (refine wpList_load_mid rfl 63 (.tmp 4) rfl bR 0 rfl (vl 7 gv) _ RX Tryd.underlying63 rfl (by rw [vl_len]; kernel_rfl) ?_) | (go_at_call 100; with_reducible refine (CG2 _ E1).mono ?_; rintro e v2 ⟨rfl, hb⟩))
        go_roundg (gk - 1)
        case measure => omega
        case rel => exact ⟨3, by omega, by go_num, EX.trans (E1.trans hb), HH.out.later (E1.trans hb), HB.out.later (E1.trans hb), fun _ => H0.out (by omega), fun _ => H1.out (by omega), fun _ => HF1.out⟩
      · have CG2 : ∀ v1, Ext v v1 → Calls Tryd.prog 100 #[.agg (vl 7 gv).toArray, .func (.func 75) #[] #[], .pointer (some ⟨bC, 0, none⟩)] v1 fun e w' => e = .returned (.int .i64 1) ∧ Ext v1 w' := fun v1 h => (CG v1 h).mono fun e w' h' => by
          obtain ⟨x, rfl, hb, ⟨_, hn⟩ | ⟨rfl, _⟩⟩ := h'
          · exact absurd hn hf
          · exact ⟨rfl, hb⟩
        have HN : Hid (¬ Room fl c p n ⟨F, X, Y, C⟩) := fun h => hf (HR.out.1 h).2.2
        clear hf CG
        go_wp2_with (first | (refine wpList_load_mid rfl 63 (.tmp 4) rfl bR 0 rfl (vl 7 gv) _ RX Tryd.underlying63 rfl (by rw [vl_len]; kernel_rfl) ?_) | (go_at_call 100; with_reducible refine (CG2 _ E1).mono ?_; rintro e v2 ⟨rfl, hb⟩))
        go_ret
        exact ⟨1, rfl, EX.trans (E1.trans hb), .inr ⟨rfl, HN.out⟩⟩
    · have HN : Hid (Room fl c p n ⟨F, X, Y, C⟩) := HR.out.2 ⟨H0.out (by omega), H1.out (by omega), H2.out (by omega)⟩
      go_wp2
      go_ret
      exact ⟨0, rfl, EX, .inl ⟨rfl, HN.out⟩⟩
end Go.Proofs.YtemcppakmcffgaaDoor
