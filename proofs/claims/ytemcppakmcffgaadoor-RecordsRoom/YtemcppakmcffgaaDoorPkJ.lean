/- The given helper fitting of the laws on records: a vertex, cut down to what has room. -/
import Derived.Test.YtemcppakmcffgaaDoorRecTU
import Derived.Test.YtemcppakmcffgaaDoorReadsAB
import Derived.RegionTactic
import Derived.BigRegion
namespace Go.Proofs.YtemcppakmcffgaaDoor
open Go.RowKit Go.BigFrame
set_option linter.unusedSimpArgs false
set_option linter.unusedVariables false
set_option maxRecDepth 20000
theorem wraps_u16 (n : Int) (h₀ : 0 ≤ n) (h₁ : n < 2 ^ 16) : IntKind.u16.wrap n = n := by simp [IntKind.wrap, IntKind.signed, IntKind.bits]; omega
theorem wraps_u8 (n : Int) (h₀ : 0 ≤ n) (h₁ : n < 2 ^ 8) : IntKind.u8.wrap n = n := by simp [IntKind.wrap, IntKind.signed, IntKind.bits]; omega
theorem mask16 (y : Int) (k : Nat) (hk : k ≤ 16) (h0 : 0 ≤ y) (h1 : y < 65536) : bits .and .u16 y ((2 ^ k - 1) % 65536) = y % 2 ^ k := by
  have := pow_pos2 k
  have := pow_le2 (n := 16) hk
  have e : ((2 : Int) ^ 16) = 65536 := rfl
  rw [Int.emod_eq_of_lt (by omega) (by omega)]
  exact bits_mask .u16 16 (by decide) wraps_u16 k hk y h0 h1
theorem maskb (y : Int) (k : Nat) (hk : k ≤ 8) (h0 : 0 ≤ y) (h1 : y < 256) : bits .and .u8 y ((2 ^ k - 1) % 256) = y % 2 ^ k := by
  have := pow_pos2 k
  have := pow_le2 (n := 8) hk
  have e : ((2 : Int) ^ 8) = 256 := rfl
  rw [Int.emod_eq_of_lt (by omega) (by omega)]
  exact bits_mask .u8 8 (by decide) wraps_u8 k hk y h0 h1
theorem wrap_mask16 (p : Nat) : IntKind.u16.wrap (IntKind.u16.wrap (2 ^ p) - 1) = (2 ^ p - 1) % 65536 := by
  generalize (2 : Int) ^ p = a
  simp only [IntKind.wrap, IntKind.signed, IntKind.bits]
  simp
  try omega
theorem wrap_mask8 (p : Nat) : IntKind.u8.wrap (IntKind.u8.wrap (2 ^ p) - 1) = (2 ^ p - 1) % 256 := by
  generalize (2 : Int) ^ p = a
  simp only [IntKind.wrap, IntKind.signed, IntKind.bits]
  simp
  try omega
theorem Vm.ff {v : World} {b : Nat} {F X Y z : Int} {C : Nat → Int} (B : Vm v b 7 (rv ⟨F, X, Y, C⟩)) : Vm (v.setCell ⟨b, 0, none⟩ (.int .u8 z)) b 7 (rv ⟨z, X, Y, C⟩) := (B.set 0 _).eq fun i _ => match i with | 0 => rfl | 1 => rfl | 2 => rfl | i + 3 => rfl
theorem Vm.fx {v : World} {b : Nat} {F X Y z : Int} {C : Nat → Int} (B : Vm v b 7 (rv ⟨F, X, Y, C⟩)) : Vm (v.setCell ⟨b, 1, none⟩ (.int .u32 z)) b 7 (rv ⟨F, z, Y, C⟩) := (B.set 1 _).eq fun i _ => match i with | 0 => rfl | 1 => rfl | 2 => rfl | i + 3 => rfl
theorem Vm.fy {v : World} {b : Nat} {F X Y z : Int} {C : Nat → Int} (B : Vm v b 7 (rv ⟨F, X, Y, C⟩)) : Vm (v.setCell ⟨b, 2, none⟩ (.int .u32 z)) b 7 (rv ⟨F, X, z, C⟩) := (B.set 2 _).eq fun i _ => match i with | 0 => rfl | 1 => rfl | 2 => rfl | i + 3 => rfl
def zrec' : Rcd := ⟨0, 0, 0, fun _ => 0⟩

set_option maxHeartbeats 8000000 in
theorem fitting_is (L : Lay) (fl c p n sz : Nat) (V : Vl L fl c p n sz) (h5 : L.t = 5 → 0 ≤ L.f ∧ L.f ≤ 60) (F X Y : Int) (C : Nat → Int) (hF : 0 ≤ F ∧ F < 256) (hX : 0 ≤ X ∧ X < 4294967296) (hY : 0 ≤ Y ∧ Y < 4294967296) (hC : ∀ k, k < 4 → 0 ≤ C k ∧ C k < 65536) (w : World) :
    Calls Tryd.prog 18 #[(.agg (lv (L))), .agg (vl 7 (rv ⟨F, X, Y, C⟩)).toArray] w fun e w' => e = .returned (.agg (vl 7 (rv (fitR fl c p n ⟨F, X, Y, C⟩))).toArray) ∧ Ext w w' := by
  have EX := Ext.refl w
  have hc1 := V.ec
  have hp1 := V.ep
  have hn1 := V.en
  have n4 := V.n1
  have c32 := V.c1
  have p16 := V.p1
  have MX := mask32 X c (by omega) hX.1 hX.2
  have MY := mask32 Y c (by omega) hY.1 hY.2
  have HM : Hid (∀ k, k < 4 → bits .and .u16 (C k) (IntKind.u16.wrap (IntKind.u16.wrap (2 ^ p) - 1)) = C k % 2 ^ p) := fun k hk => by rw [wrap_mask16]; exact mask16 (C k) p (by omega) (hC k hk).1 (hC k hk).2
  have HC : Hid (∀ k, k < 4 → 0 ≤ C k ∧ C k < 65536) := hC
  obtain ⟨q, hq⟩ : ∃ q : Nat, L.f = (q : Int) := by
    refine ⟨L.f.toNat, ?_⟩
    by_cases h : L.t = 5
    · have := h5 h; omega
    · have h1 := V.ef
      unfold flg at h1
      rw [if_neg h] at h1
      omega
  have hq60 : q ≤ 60 := by
    by_cases h : L.t = 5
    · have := h5 h; omega
    · have h1 := V.ef
      have h2 := V.f8
      unfold flg at h1
      rw [if_neg h] at h1
      omega
  have HQ : Hid (L.t ≠ 5 → q = fl) := fun h => by
    have h1 := V.ef
    unfold flg at h1
    rw [if_neg h] at h1
    omega
  have HF0 : Hid (L.t = 5 → fl = 0) := fun h => by
    have h1 := V.ef
    unfold flg at h1
    rw [if_pos h] at h1
    omega
  have HF8 : Hid (fl ≤ 8) := V.f8
  clear V hC h5
  go_enter Tryd.func18, Tryd.ntmps18
  go_upto_region 1 with fail
  refine rebase (G := fun w' => Code.wp _ _ _ _ w') _ (fun v => Ext w v ∧ Lm v (w.heap.size) (L) ∧ Vm v (w.heap.size + 1) 7 (rv ⟨F, X, Y, C⟩) ∧ Vm v (w.heap.size + 2) 7 (rv zrec')) ⟨((EX.alloc _).alloc _).alloc _, ((Lm.new rfl).alloc _).alloc _, (Vm.new (by simp) (fun i hi => by rw [List.getElem?_toArray, vl_at _ _ hi])).alloc _, Vm.new (by simp) (fun i hi => match i, hi with | 0, _ => rfl | 1, _ => rfl | 2, _ => rfl | 3, _ => rfl | 4, _ => rfl | 5, _ => rfl | 6, _ => rfl)⟩ ?_
  obtain ⟨b0, hb0⟩ : ∃ b, w.heap.size = b := ⟨_, rfl⟩
  rw [hb0]
  clear EX
  rintro v ⟨EX, LB, XB, RB⟩
  have gL := fun x' : Grow v => LB.later x'.ext; have gLc0 := fun x' : Grow v => (gL x').c0; have gLc1 := fun x' : Grow v => (gL x').c1; have gLc2 := fun x' : Grow v => (gL x').c2; have gLc3 := fun x' : Grow v => (gL x').c3; have gLc4 := fun x' : Grow v => (gL x').c4; have gLc5 := fun x' : Grow v => (gL x').c5; have gLdg := fun x' : Grow v => (gL x').dg; have gX := fun x' : Grow v => (XB.later x'.ext); have gX0 := fun x' : Grow v => (show x'.out.cell? ⟨b0 + 1, 1, none⟩ = some (.int .u32 X) from (gX x').dg 1 (by decide)); refine wp_region_reads (fun i => decide (i < 8)) 0 8 (fun w' => ∃ x : Grow v, w' = x.out) (by kernel_rfl) (by kernel_rfl) (fun c a x v w h => by cases x <;> exact h) ⟨⟨v.drew, (Ext.refl v).drew⟩, rfl⟩ ?_; intro l1 l2 h1 h2; simp [pickB] at h1 h2; subst h1 h2; (repeat (first | go_big_quiet_step (fail))); refine wpQuiet_nil ?_; clear gLc0 gLc1 gLc2 gLc3 gLc4 gLc5 gLdg gL gX0 gX; refine hold_done ?_; replace EX := EX.drew; replace LB := LB.drew; replace XB := XB.drew; replace RB := RB.drew; generalize v.drew = v1 at *; clear v; rename World => v
  have cx : v.cell? ⟨b0 + 1, 1, none⟩ = some (.int .u32 X) := XB.dg 1 (by decide)
  have fx := XB.fz
  go_upto_region 2 with fail
  refine rebase (G := fun w' => Code.wp _ _ _ _ w') _ (fun v1 => Ext w v1 ∧ Lm v1 (b0) (L) ∧ Vm v1 (b0 + 1) 7 (rv ⟨F, X % 2 ^ c, Y, C⟩) ∧ Vm v1 (b0 + 2) 7 (rv zrec')) ⟨EX.setCell (by dsimp only; omega) _, LB.skip (by omega), XB.fx, RB.skip (by omega)⟩ ?_
  clear EX LB XB RB cx fx MX v
  rintro v ⟨EX, LB, XB, RB⟩
  have gL := fun x' : Grow v => LB.later x'.ext; have gLc0 := fun x' : Grow v => (gL x').c0; have gLc1 := fun x' : Grow v => (gL x').c1; have gLc2 := fun x' : Grow v => (gL x').c2; have gLc3 := fun x' : Grow v => (gL x').c3; have gLc4 := fun x' : Grow v => (gL x').c4; have gLc5 := fun x' : Grow v => (gL x').c5; have gLdg := fun x' : Grow v => (gL x').dg; have gX := fun x' : Grow v => (XB.later x'.ext); have gX0 := fun x' : Grow v => (show x'.out.cell? ⟨b0 + 1, 2, none⟩ = some (.int .u32 Y) from (gX x').dg 2 (by decide)); refine wp_region_reads (fun i => decide (i < 8)) 0 8 (fun w' => ∃ x : Grow v, w' = x.out) (by kernel_rfl) (by kernel_rfl) (fun c a x v w h => by cases x <;> exact h) ⟨⟨v.drew, (Ext.refl v).drew⟩, rfl⟩ ?_; intro l1 l2 h1 h2; simp [pickB] at h1 h2; subst h1 h2; (repeat (first | go_big_quiet_step (fail))); refine wpQuiet_nil ?_; clear gLc0 gLc1 gLc2 gLc3 gLc4 gLc5 gLdg gL gX0 gX; refine hold_done ?_; replace EX := EX.drew; replace LB := LB.drew; replace XB := XB.drew; replace RB := RB.drew; generalize v.drew = v1 at *; clear v; rename World => v
  have cx : v.cell? ⟨b0 + 1, 2, none⟩ = some (.int .u32 Y) := XB.dg 2 (by decide)
  have fx := XB.fz
  go_upto_region 3 with fail
  refine rebase (G := fun w' => Code.wp _ _ _ _ w') _ (fun v1 => Ext w v1 ∧ Lm v1 (b0) (L) ∧ Vm v1 (b0 + 1) 7 (rv ⟨F, X % 2 ^ c, Y % 2 ^ c, C⟩) ∧ Vm v1 (b0 + 2) 7 (rv zrec')) ⟨EX.setCell (by dsimp only; omega) _, LB.skip (by omega), XB.fy, RB.skip (by omega)⟩ ?_
  clear EX LB XB RB cx fx MY v
  rintro v ⟨EX, LB, XB, RB⟩
  go_upto_region 4 with fail
  go_loopg [5] 4 (fun gk iv wr => ∃ (k : Nat) (D : Nat → Int), k + gk = 4 ∧ iv = .int .i64 k ∧ Ext w wr ∧ Lm wr (b0) (L) ∧ Vm wr (b0 + 1) 7 (rv ⟨F, X % 2 ^ c, Y % 2 ^ c, D⟩) ∧ Vm wr (b0 + 2) 7 (rv zrec') ∧ Hid (∀ j, D j = if j < k then (if j < n then C j % 2 ^ p else 0) else C j))
  case atStart => exact ⟨0, C, rfl, rfl, EX, LB, XB, RB, fun j => by rw [if_neg (by omega)]⟩
  case round =>
    clear EX LB XB RB v
    obtain ⟨k, D, hk, rfl, EX, LB, XB, RB, HD⟩ := hrel
    obtain ⟨v, hv⟩ : ∃ v, v = wr := ⟨_, rfl⟩
    subst hv
    by_cases hlt : k < 4
    · have hki : (k : Int) < 4 := by omega
      have hDk : D k = C k := by rw [HD.out k, if_neg (by omega)]
      have MC := HM.out k hlt
      have bk := HC.out k hlt
      rw [← hDk] at MC bk
      obtain ⟨z, hz⟩ : ∃ z, D k = z := ⟨_, rfl⟩
      have hcell : v.cell? ⟨b0 + 1, 3 + k, none⟩ = some (.int .u16 z) := by
        rw [XB.dg (3 + k) (by omega), Nat.add_comm 3 k, ← hz]; rfl
      have HZ : Hid (D k = z ∧ C k = z) := ⟨hz, by rw [← hDk, hz]⟩
      rw [hz] at MC bk
      clear hDk hz
      go_upto_region 6 with fail
      have LBc0 := LB.c0; have LBc1 := LB.c1; have LBc2 := LB.c2; have LBc3 := LB.c3; have LBc4 := LB.c4; have LBc5 := LB.c5; have LBdg := LB.dg; have LBfz := LB.fz; have LBlt := LB.lt
      have fx := XB.fz
      have HH : Hid (Ext w v ∧ Lm v (b0) (L) ∧ Vm v (b0 + 1) 7 (rv ⟨F, X % 2 ^ c, Y % 2 ^ c, D⟩) ∧ Vm v (b0 + 2) 7 (rv zrec')) := ⟨EX, LB, XB, RB⟩
      clear EX LB XB RB
      go_region
      go_upto_region 7 with fail
      obtain ⟨EX, LB, XB, RB⟩ := HH.out
      refine rebase (G := fun w' => Code.wp _ _ _ _ w') _ (fun v1 => Ext w v1 ∧ Lm v1 (b0) (L) ∧ Vm v1 (b0 + 1) 7 (rv ⟨F, X % 2 ^ c, Y % 2 ^ c, fun i => if i = k then z % 2 ^ p else D i⟩) ∧ Vm v1 (b0 + 2) 7 (rv zrec')) ⟨(EX.setCell (by dsimp only; omega) _).drew, (LB.skip (by omega)).drew, XB.col.drew, (RB.skip (by omega)).drew⟩ ?_
      clear LBc0 LBc1 LBc2 LBc3 LBc4 LBc5 LBdg LBfz LBlt
      clear EX LB XB RB HH hcell fx MC v
      rintro v ⟨EX, LB, XB, RB⟩
      have LBc0 := LB.c0; have LBc1 := LB.c1; have LBc2 := LB.c2; have LBc3 := LB.c3; have LBc4 := LB.c4; have LBc5 := LB.c5; have LBdg := LB.dg; have LBfz := LB.fz; have LBlt := LB.lt
      have fx := XB.fz
      have HXB : Hid (Vm v (b0 + 1) 7 (rv ⟨F, X % 2 ^ c, Y % 2 ^ c, fun i => if i = k then z % 2 ^ p else D i⟩)) := XB
      have hcell : v.cell? ⟨b0 + 1, 3 + k, none⟩ = some (.int .u16 (z % 2 ^ p)) := by
        rw [XB.dg (3 + k) (by omega), Nat.add_comm 3 k]
        show some (Value.int .u16 (if k = k then z % 2 ^ p else D k)) = _
        rw [if_pos rfl]
      clear XB
      by_cases hkn : k < n
      · have d2 : decide ((k : Int) ≥ (n : Int)) = false := decide_eq_false (by omega)
        have d3 : decide (n ≤ k) = false := decide_eq_false (by omega)
        go_wp2
        go_roundg (gk - 1)
        case measure => omega
        case rel =>
          refine ⟨k + 1, _, by omega, by go_num, EX, LB, HXB.out, RB, fun j => ?_⟩
          show (if j = k then z % 2 ^ p else D j) = _
          by_cases e : j = k
          · subst e
            rw [if_pos rfl, if_pos (Nat.lt_succ_self j), if_pos hkn, HZ.out.2]
          · rw [if_neg e, HD.out j]
            by_cases e2 : j < k
            · rw [if_pos e2, if_pos (Nat.lt_succ_of_lt e2)]
            · rw [if_neg e2, if_neg (show ¬ j < k + 1 by omega)]
      · have d2 : decide ((k : Int) ≥ (n : Int)) = true := decide_eq_true (by omega)
        have d3 : decide (n ≤ k) = true := decide_eq_true (by omega)
        go_wp2
        go_roundg (gk - 1)
        case measure => omega
        case rel =>
          refine ⟨k + 1, _, by omega, by go_num, EX.setCell (by dsimp only; omega) _, LB.skip (by omega), HXB.out.col, RB.skip (by omega), fun j => ?_⟩
          show (if j = k then 0 else if j = k then z % 2 ^ p else D j) = _
          by_cases e : j = k
          · subst e
            rw [if_pos rfl, if_pos (Nat.lt_succ_self j), if_neg hkn]
          · rw [if_neg e, if_neg e, HD.out j]
            by_cases e2 : j < k
            · rw [if_pos e2, if_pos (Nat.lt_succ_of_lt e2)]
            · rw [if_neg e2, if_neg (show ¬ j < k + 1 by omega)]
    · have hki : ¬ (k : Int) < 4 := by omega
      obtain rfl : k = 4 := by omega
      go_upto_region 9 with fail
      have gL := fun x' : Grow v => LB.later x'.ext; have gLc0 := fun x' : Grow v => (gL x').c0; have gLc1 := fun x' : Grow v => (gL x').c1; have gLc2 := fun x' : Grow v => (gL x').c2; have gLc3 := fun x' : Grow v => (gL x').c3; have gLc4 := fun x' : Grow v => (gL x').c4; have gLc5 := fun x' : Grow v => (gL x').c5; have gLdg := fun x' : Grow v => (gL x').dg; have gX := fun x' : Grow v => (XB.later x'.ext); have gX0 := fun x' : Grow v => (show x'.out.cell? ⟨b0 + 1, 0, none⟩ = some (.int .u8 F) from (gX x').dg 0 (by decide)); refine wp_region_reads (fun i => decide (i < 7)) 0 7 (fun w' => ∃ x : Grow v, w' = x.out) (by kernel_rfl) (by kernel_rfl) (fun c a x v w h => by cases x <;> exact h) ⟨⟨v.drew, (Ext.refl v).drew⟩, rfl⟩ ?_; intro l1 l2 h1 h2; simp [pickB] at h1 h2; subst h1 h2; (repeat (first | go_big_quiet_step (fail))); refine wpQuiet_nil ?_; clear gLc0 gLc1 gLc2 gLc3 gLc4 gLc5 gLdg gL gX0 gX; refine hold_done ?_; replace EX := EX.drew; replace LB := LB.drew; replace XB := XB.drew; replace RB := RB.drew; generalize v.drew = v1 at *; clear v; rename World => v
      have cx : v.cell? ⟨b0 + 1, 0, none⟩ = some (.int .u8 F) := XB.dg 0 (by decide)
      have fx := XB.fz
      go_upto_region 10 with fail
      obtain ⟨m, hm⟩ : ∃ m : Int, bits .and .u8 F ((2 ^ min q 8 - 1) % 256) = m := ⟨_, rfl⟩
      have HM8 : Hid (bits .and .u8 F ((2 ^ min q 8 - 1) % 256) = m) := hm
      rw [hm]
      refine rebase (G := fun w' => Code.wp _ _ _ _ w') _ (fun v1 => Ext w v1 ∧ Lm v1 (b0) (L) ∧ Vm v1 (b0 + 1) 7 (rv ⟨m, X % 2 ^ c, Y % 2 ^ c, D⟩) ∧ Vm v1 (b0 + 2) 7 (rv zrec')) ⟨EX.setCell (by dsimp only; omega) _, LB.skip (by omega), XB.ff, RB.skip (by omega)⟩ ?_
      clear EX LB XB RB cx fx hm v
      rintro v ⟨EX, LB, XB, RB⟩
      have HDc : Hid (∀ j, j < 4 → D j = if j < n then C j % 2 ^ p else 0) := fun j hj => by rw [HD.out j, if_pos hj]
      clear HD
      have LBc0 := LB.c0; have LBc1 := LB.c1; have LBc2 := LB.c2; have LBc3 := LB.c3; have LBc4 := LB.c4; have LBc5 := LB.c5; have LBdg := LB.dg; have LBfz := LB.fz; have LBlt := LB.lt
      have fx := XB.fz
      have c0 : v.cell? ⟨b0 + 1, 0, none⟩ = some (.int .u8 m) := XB.dg 0 (by decide)
      obtain ⟨K, hK⟩ : ∃ K : Rcd, K = ⟨if L.t = 5 then 0 else m, X % 2 ^ c, Y % 2 ^ c, D⟩ := ⟨_, rfl⟩
      have HKV : Hid (vl 7 (rv K) = vl 7 (rv (fitR fl c p n ⟨F, X, Y, C⟩))) := by
        refine vl_alike ⟨?_, ?_, ?_, fun k hk => ?_⟩
        · rw [hK]
          show (if L.t = 5 then 0 else m) = F % 2 ^ fl
          by_cases h : L.t = 5
          · rw [if_pos h, HF0.out h, Int.pow_zero, Int.emod_one]
          · have hql : q = fl := HQ.out h
            rw [if_neg h, ← HM8.out, hql, Nat.min_eq_left HF8.out]
            exact maskb F fl HF8.out hF.1 hF.2
        · rw [hK]; rfl
        · rw [hK]; rfl
        · rw [hK]
          exact HDc.out k hk
      have HB : Hid (Vm v (b0 + 1) 7 (rv ⟨m, X % 2 ^ c, Y % 2 ^ c, D⟩) ∧ Vm v (b0 + 2) 7 (rv zrec')) := ⟨XB, RB⟩
      clear XB RB HM8 HDc HQ HF0 HF8
      by_cases h5 : L.t = 5
      case' pos =>
        have e5 : (L.t == 5) = true := by simp [h5]
        rw [if_pos h5] at hK
      case' neg =>
        have e5 : (L.t == 5) = false := by simp [h5]
        rw [if_neg h5] at hK
      all_goals
        go_upto_region 12 with fail
        refine rebase (G := fun w' => Code.wp _ _ _ _ w') _ (fun v1 => Ext w v1 ∧ Vm v1 (b0 + 1) 7 (rv K) ∧ Vm v1 (b0 + 1 + 1) 7 (rv zrec')) (by first | exact ⟨EX, by rw [hK]; exact HB.out.1, HB.out.2⟩ | exact ⟨EX.setCell (by dsimp only; omega) _, by rw [hK]; exact HB.out.1.ff, HB.out.2.skip (by omega)⟩) ?_
        clear LBc0 LBc1 LBc2 LBc3 LBc4 LBc5 LBdg LBfz LBlt
        clear EX LB HB fx c0 v
        rintro v ⟨EX, XB, RB⟩
        have one7 : ∀ u ∈ vl 7 (rv K), u.oneCell' = true := rv_one K
        have RX := XB.range
        have TH := RB.there (m := 7) rfl
        generalize hg : rv K = g at *
        go_wp2_with (first | (refine wpList_load_mid rfl 63 (.tmp 3) rfl (b0 + 1) 0 rfl (vl 7 g) _ RX Tryd.underlying63 rfl (by rw [vl_len]; kernel_rfl) ?_) | (refine wpList_store_vl rfl 63 (.tmp 4) (.tmp 61) rfl (b0 + 1 + 1) 0 7 g rfl rfl TH size_recQ one7 ?_))
        refine rebase (G := fun w' => bodyPost _ _ _ _ _ w') _ (fun v1 => Ext w v1 ∧ v1.rangeAt (b0 + 1 + 1) 0 (vl 7 g)) ⟨Ext.setCells' EX _ (by omega) _ _, (RB.cells (by decide) g).range⟩ ?_
        clear EX XB RX TH RB v
        rintro v ⟨EX, RX⟩
        have hld := run_loadVar_mid (P := Tryd.prog) v (b0 + 1 + 1) 0 63 (vl 7 g) _ RX Tryd.underlying63 rfl (by rw [vl_len]; kernel_rfl)
        refine bodyPost_ret (by simp only [results, Tryd.results18]; simp [Act.put, asAddr, Result.andThen, hld]; rfl) rfl ⟨by rw [← HKV.out], EX⟩
end Go.Proofs.YtemcppakmcffgaaDoor
