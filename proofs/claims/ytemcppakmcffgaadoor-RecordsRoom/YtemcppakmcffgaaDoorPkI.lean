/- What package records' Put does. -/
import Derived.Test.YtemcppakmcffgaaDoorPkCD
import Derived.Test.YtemcppakmcffgaaDoorPkGH
import Derived.Test.YtemcppakmcffgaaDoorRecTU
namespace Go.Proofs.YtemcppakmcffgaaDoor
open Go.RowKit Go.BigFrame
set_option linter.unusedSimpArgs false
set_option linter.unusedVariables false
set_option maxRecDepth 20000

theorem put_form (L : Lay) (hv : vlay L = false) (a : Option Addr) (len cap : Nat) (w : World) (TL : LaidL w) :
    Calls Tryd.prog 19 #[(.agg (lv (L))), .slice a len cap] w fun e w' => e = .returned (.tuple #[.slice none 0 0, .int .i64 4]) ∧ Ext w w' := by
  have EX := Ext.refl w
  have CK : ∀ v, Ext w v → Calls Tryd.prog 23 #[(.agg (lv (L)))] v fun e w' => e = .returned (.bool false) ∧ Ext v w' := fun v h => by have := maybe_is L v (TL.later h); rwa [hv] at this
  clear TL
  go_enter Tryd.func19, Tryd.ntmps19
  go_upto_region 1 with fail
  refine rebase (G := fun w' => Code.wp _ _ _ _ w') _ (fun v1 => Ext w v1 ∧ Lm v1 (w.heap.size) (L)) ⟨by repeat (first | with_reducible exact EX |  with_reducible refine Ext.alloc ?_ _ | with_reducible refine Ext.drew ?_ | with_reducible refine Ext.drewN ?_ _ | with_reducible refine Ext.setCell ?_ (by first | (simp; done) | omega | (dsimp only; omega)) _), by repeat (first | with_reducible assumption | with_reducible refine Lm.drew ?_ | with_reducible refine Lm.drewN ?_ _ | (with_reducible refine Lm.skip ?_ ?_; focus (first | omega | (simp; done))) | with_reducible refine Lm.set0 ?_ _ | with_reducible refine Lm.set4 ?_ _ | with_reducible refine Lm.set5 ?_ _ | with_reducible refine Lm.setk ?_ _ (by decide) | (with_reducible refine Lm.cells1 ?_; exact ⟨_, by with_reducible assumption⟩) | (with_reducible refine Lm.skips ?_ _ _ ?_; focus (first | omega | (simp; done))) | (with_reducible refine Lm.new ?_ <;> first | rfl | (simp; done)) | (with_reducible refine Lm.fresh ?_ ?_ <;> first | rfl | (simp; done)) | with_reducible refine Lm.alloc ?_ _)⟩ ?_; clear EX ; rintro v1 ⟨EX, LB⟩; rename World => v; have LBc0 := LB.c0; have LBc1 := LB.c1; have LBc2 := LB.c2; have LBc3 := LB.c3; have LBc4 := LB.c4; have LBc5 := LB.c5; have LBdg := LB.dg; have LBfz := LB.fz; have LBlt := LB.lt
  go_wp2_with (first | (refine wpList_load_lay (w.heap.size) _ rfl rfl rfl LB ?_) | (go_at_call 23; with_reducible refine (CK _ EX).mono ?_; rintro e v1 ⟨rfl, hb⟩; replace EX := Ext.trans EX hb; replace LB := LB.later hb; replace LBc0 := LB.c0; replace LBc1 := LB.c1; replace LBc2 := LB.c2; replace LBc3 := LB.c3; replace LBc4 := LB.c4; replace LBc5 := LB.c5; replace LBdg := LB.dg; replace LBfz := LB.fz; replace LBlt := LB.lt; clear hb v; rename World => v))
  go_ret2
  exact ⟨rfl, EX⟩
theorem range_chg {S : Nat → Prop} {w w' : World} {b o : Nat} {cs : List Value} (h : w.rangeAt b o cs) (C : Chg S w w') (hb : ¬ S b) : w'.rangeAt b o cs := fun j v hv => C.cell hb (h j v hv)
set_option maxHeartbeats 8000000 in
theorem put_vl (L : Lay) (fl c p n sz N : Nat) (V : Vl L fl c p n sz) (a : Option Addr) (cap : Nat) (Q : Nat → Rcd) (w : World) (TL : LaidL w) (B : Vs w a N Q) (hN : N ≤ 100000) :
    Calls Tryd.prog 19 #[(.agg (lv (L))), .slice a N cap] w fun e w' => ∃ s x M, e = .returned (.tuple #[s, .int .i64 x]) ∧ Ext w w' ∧ Lst w' 5 1 s M (fun j _ => .int .u8 (pby fl c p n sz Q j)) ∧ (∀ b, s.ownBlock = some b → w.heap.size ≤ b) ∧
      (((¬ ∀ i, i < N → Room fl c p n (Q i)) ∧ x = 1 ∧ M = 0) ∨ ((∀ i, i < N → Room fl c p n (Q i)) ∧ 65536 < N * sz ∧ x = 3 ∧ M = 0) ∨ ((∀ i, i < N → Room fl c p n (Q i)) ∧ ¬ 65536 < N * sz ∧ x = 0 ∧ M = N * sz)) := by
  have EX := Ext.refl w
  have CK : ∀ v, Ext w v → Calls Tryd.prog 23 #[(.agg (lv (L)))] v fun e w' => e = .returned (.bool true) ∧ Ext v w' := fun v h => by have := maybe_is L v (TL.later h); rwa [V.may] at this
  have SZ : Hid (∀ v, Ext w v → Calls Tryd.prog 24 #[(.agg (lv (L)))] v fun e w' => e = .returned (.int .i64 (sz : Nat)) ∧ Ext v w') := fun v h => by have := sizeof_is L v (TL.later h); rwa [V.es] at this
  have FD := fun v => fields_is L fl c p n sz V v
  have HV : Hid (Vl L fl c p n sz) := V
  have HB : Hid (Vs w a N Q) := B
  have sz1 := V.s1
  clear V B TL
  go_enter Tryd.func19, Tryd.ntmps19
  go_upto_region 1 with fail
  refine rebase (G := fun w' => Code.wp _ _ _ _ w') _ (fun v1 => Ext w v1 ∧ Lm v1 (w.heap.size) (L)) ⟨by repeat (first | with_reducible exact EX |  with_reducible refine Ext.alloc ?_ _ | with_reducible refine Ext.drew ?_ | with_reducible refine Ext.drewN ?_ _ | with_reducible refine Ext.setCell ?_ (by first | (simp; done) | omega | (dsimp only; omega)) _), by repeat (first | with_reducible assumption | with_reducible refine Lm.drew ?_ | with_reducible refine Lm.drewN ?_ _ | (with_reducible refine Lm.skip ?_ ?_; focus (first | omega | (simp; done))) | with_reducible refine Lm.set0 ?_ _ | with_reducible refine Lm.set4 ?_ _ | with_reducible refine Lm.set5 ?_ _ | with_reducible refine Lm.setk ?_ _ (by decide) | (with_reducible refine Lm.cells1 ?_; exact ⟨_, by with_reducible assumption⟩) | (with_reducible refine Lm.skips ?_ _ _ ?_; focus (first | omega | (simp; done))) | (with_reducible refine Lm.new ?_ <;> first | rfl | (simp; done)) | (with_reducible refine Lm.fresh ?_ ?_ <;> first | rfl | (simp; done)) | with_reducible refine Lm.alloc ?_ _)⟩ ?_; clear EX ; rintro v1 ⟨EX, LB⟩; rename World => v; have LBc0 := LB.c0; have LBc1 := LB.c1; have LBc2 := LB.c2; have LBc3 := LB.c3; have LBc4 := LB.c4; have LBc5 := LB.c5; have LBdg := LB.dg; have LBfz := LB.fz; have LBlt := LB.lt
  obtain ⟨b0, hb0⟩ : ∃ b0, w.heap.size = b0 := ⟨_, rfl⟩
  rw [hb0] at LB LBc0 LBc1 LBc2 LBc3 LBc4 LBc5 LBdg LBfz LBlt ⊢
  go_upto_region 3 with (first | (refine wpList_load_lay (b0) _ rfl rfl rfl LB ?_) | (go_at_call 23; with_reducible refine (CK _ EX).mono ?_; rintro e v1 ⟨rfl, hb⟩; replace EX := Ext.trans EX hb; replace LB := LB.later hb; replace LBc0 := LB.c0; replace LBc1 := LB.c1; replace LBc2 := LB.c2; replace LBc3 := LB.c3; replace LBc4 := LB.c4; replace LBc5 := LB.c5; replace LBdg := LB.dg; replace LBfz := LB.fz; replace LBlt := LB.lt; clear hb v; rename World => v))
  clear CK
  go_upto_region 4 with (first | (refine wpList_load_lay (b0) _ rfl rfl rfl LB ?_) | (go_at_call 25; refine (FD _).mono ?_; rintro e v1 ⟨gF, bF, bP, bC, bA, rfl, hb, FDS, n0, n1, n2, n3, n4⟩; replace n0 := Nat.le_trans EX.more n0; replace n1 := Nat.le_trans EX.more n1; replace n2 := Nat.le_trans EX.more n2; replace n3 := Nat.le_trans EX.more n3; replace n4 := Nat.le_trans EX.more n4; replace EX := Ext.trans EX hb; replace LB := LB.later hb; clear LBc0 LBc1 LBc2 LBc3 LBc4 LBc5 LBdg LBfz LBlt; clear hb v; rename World => v))
  clear FD
  go_upto_region 5 with fail
  go_loopg [20] N (fun gk iv wr => ∃ i : Nat, i + gk = N ∧ iv = .int .i64 i ∧ Ext w wr ∧ Lm wr (b0) (L) ∧ Fds wr gF bF bP bC bA fl c p n ∧ Hid (∀ j, j < i → Room fl c p n (Q j)))
  case atStart => exact ⟨0, by omega, rfl, EX, LB, FDS, fun j hj => by omega⟩
  case round =>
    clear EX LB FDS v
    obtain ⟨i, hi, rfl, EX, LB, FDS, HSO⟩ := hrel
    obtain ⟨v, hv⟩ : ∃ v, v = wr := ⟨_, rfl⟩
    subst hv
    obtain ⟨gko, hgko⟩ : ∃ x, x = gk := ⟨_, rfl⟩
    subst hgko
    by_cases hlt : i < N
    · have hii : (i : Int) < (N : Int) := by omega
      obtain ⟨b, o, rfl, hr⟩ := HB.out.es.form (by omega)
      have RX := range_later (hr i hlt) EX
      have bf := HB.out.f i hlt
      have bx := HB.out.x i hlt
      have by' := HB.out.y i hlt
      have bc : ∀ k, k < 4 → 0 ≤ (Q i).c k ∧ (Q i).c k < 65536 := fun k hk => HB.out.c i k hlt hk
      clear hr
      have HNX : Hid (Room fl c p n (Q i) → ∀ j, j < i + 1 → Room fl c p n (Q j)) := fun h j hj => by
        by_cases e : j = i
        · subst e; exact h
        · exact HSO.out j (by omega)
      have HNO : Hid (¬ Room fl c p n (Q i) → ¬ ∀ j, j < N → Room fl c p n (Q j)) := fun h h' => h (h' i hlt)
      clear HSO
      have TH : (v.alloc (.cells #[.int .u8 0, .int .u32 0, .int .u32 0, .int .u16 0, .int .u16 0, .int .u16 0, .int .u16 0] 63)).there v.heap.size 0 7 := there_new 7 rfl
      generalize hRi : Q i = K at *
      have one7 : ∀ u ∈ vl 7 (rv K), u.oneCell' = true := rv_one K
      obtain ⟨g, hg⟩ : ∃ g, rv K = g := ⟨_, rfl⟩
      rw [hg] at RX one7
      go_upto_region 7 with (first | (refine wpList_load_mid rfl 63 (.tmp 22) rfl b (o + i * 7) rfl (vl 7 g) _ RX Tryd.underlying63 rfl (by rw [vl_len]; kernel_rfl) ?_) | (refine wpList_store_vl rfl 63 (.tmp 8) (.tmp 23) rfl v.heap.size 0 7 g rfl rfl ?th size_recQ one7 ?_))
      case th => exact TH
      simp only [Act.put]
      have qb : b0 < v.heap.size := LB.lt
      refine rebase (G := fun w' => Code.wp _ _ _ _ w') _ (fun v1 => Ext w v1 ∧ Lm v1 (b0) (L) ∧ Fds v1 gF bF bP bC bA fl c p n ∧ Vm v1 v.heap.size 7 g) ⟨Ext.setCells' (EX.alloc _) _ EX.more _ _, (LB.alloc _).skips (by omega) _ _, FDS.later (Ext.setCells' ((Ext.refl v).alloc _) _ (Nat.le_refl _) _ _), Vm.fresh (by decide) rfl rfl⟩ ?_
      obtain ⟨b1, hb1⟩ : ∃ b, v.heap.size = b := ⟨_, rfl⟩
      rw [hb1] at qb ⊢
      clear EX LB FDS RX TH hb1 one7 v
      rintro v ⟨EX, LB, FDS, XV⟩
      have RX := XV.range
      have LY : ∀ v1, Ext v v1 → Calls Tryd.prog 74 #[.slice (some ⟨gF, 0, none⟩) 3 3, .agg (vl 7 g).toArray, .func (.func 75) #[] #[]] v1 fun e w' => ∃ x, e = .returned (.int .i64 x) ∧ Ext v1 w' ∧ ((x = 0 ∧ Room fl c p n K) ∨ (x = 1 ∧ ¬ Room fl c p n K)) := fun v1 h => by
        subst hg
        have f8 := HV.out.f8
        have c32 := HV.out.c1
        have p16 := HV.out.p1
        have n4 := HV.out.n1
        exact layFit gF bF bP bC bA fl c p n 3 K.f K.x K.y K.c bf bx by' bc f8 c32.2 p16.2 n4.2 v1 (FDS.later h)
      by_cases hroom : Room fl c p n K
      · have LY2 : ∀ v1, Ext v v1 → Calls Tryd.prog 74 #[.slice (some ⟨gF, 0, none⟩) 3 3, .agg (vl 7 g).toArray, .func (.func 75) #[] #[]] v1 fun e w' => e = .returned (.int .i64 0) ∧ Ext v1 w' := fun v1 h => (LY v1 h).mono fun e w' h' => by
          obtain ⟨x, rfl, hb, ⟨rfl, _⟩ | ⟨_, hn⟩⟩ := h'
          · exact ⟨rfl, hb⟩
          · exact absurd hroom hn
        have HH : Hid (Lm v (b0) (L) ∧ Fds v gF bF bP bC bA fl c p n ∧ ∀ j, j < i + 1 → Room fl c p n (Q j)) := ⟨LB, FDS, HNX.out hroom⟩
        clear LY hroom HNX HNO LB FDS XV bf bx by' bc hg hRi
        go_wp2_with (first | (refine wpList_load_mid rfl 63 (.tmp 8) rfl b1 0 rfl (vl 7 g) _ RX Tryd.underlying63 rfl (by rw [vl_len]; kernel_rfl) ?_) | (go_at_call 74; with_reducible refine (LY2 _ (Ext.refl v)).mono ?_; rintro e v2 ⟨rfl, hb⟩))
        go_roundg (gko - 1)
        case measure => omega
        case rel => exact ⟨i + 1, by omega, by go_num, EX.trans hb, HH.out.1.later hb, HH.out.2.1.later hb, HH.out.2.2⟩
      · have LY2 : ∀ v1, Ext v v1 → Calls Tryd.prog 74 #[.slice (some ⟨gF, 0, none⟩) 3 3, .agg (vl 7 g).toArray, .func (.func 75) #[] #[]] v1 fun e w' => e = .returned (.int .i64 1) ∧ Ext v1 w' := fun v1 h => (LY v1 h).mono fun e w' h' => by
          obtain ⟨x, rfl, hb, ⟨_, hn⟩ | ⟨rfl, _⟩⟩ := h'
          · exact absurd hn hroom
          · exact ⟨rfl, hb⟩
        have HH : Hid (¬ ∀ j, j < N → Room fl c p n (Q j)) := HNO.out hroom
        clear LY hroom HNX HNO LB FDS XV bf bx by' bc hg hRi
        go_wp2_with (first | (refine wpList_load_mid rfl 63 (.tmp 8) rfl b1 0 rfl (vl 7 g) _ RX Tryd.underlying63 rfl (by rw [vl_len]; kernel_rfl) ?_) | (go_at_call 74; with_reducible refine (LY2 _ (Ext.refl v)).mono ?_; rintro e v2 ⟨rfl, hb⟩))
        go_ret2
        exact ⟨.slice none 0 0, 1, 0, rfl, EX.trans hb, Lst.nil _ _ _ _, by simp [Value.ownBlock], .inl ⟨HH.out, rfl, rfl⟩⟩
    · have hii : ¬ (i : Int) < (N : Int) := by omega
      obtain rfl : i = N := by omega
      have hsz0 : ¬ (sz : Int) = 0 := by omega
      have szp : (0 : Int) < sz := by omega
      have hq : (65536 : Int) / (sz : Int) = ((65536 / sz : Nat) : Int) := (Int.natCast_ediv 65536 sz).symm
      have HQ : Hid (65536 / sz < i ↔ 65536 < i * sz) := Nat.div_lt_iff_lt_mul (by omega)
      have SZ' := SZ.out
      have LBc0 := LB.c0; have LBc1 := LB.c1; have LBc2 := LB.c2; have LBc3 := LB.c3; have LBc4 := LB.c4; have LBc5 := LB.c5; have LBdg := LB.dg; have LBfz := LB.fz; have LBlt := LB.lt
      obtain ⟨d, hd⟩ : ∃ d, 65536 / sz = d := ⟨_, rfl⟩
      rw [hd] at hq HQ
      clear hd
      by_cases hbig : d < i
      · have hbi : (d : Int) < (i : Int) := by omega
        have HH : Hid (65536 < i * sz) := HQ.out.1 hbig
        clear hbig HQ
        go_wp2_with (first | (refine wpList_load_lay (b0) _ rfl rfl rfl LB ?_) | (go_at_call 24; with_reducible refine (SZ' _ EX).mono ?_; rintro e v1 ⟨rfl, hb⟩; replace EX := Ext.trans EX hb; replace LB := LB.later hb; replace LBc0 := LB.c0; replace LBc1 := LB.c1; replace LBc2 := LB.c2; replace LBc3 := LB.c3; replace LBc4 := LB.c4; replace LBc5 := LB.c5; replace LBdg := LB.dg; replace LBfz := LB.fz; replace LBlt := LB.lt; replace FDS := FDS.later hb; clear hb v; rename World => v))
        go_ret2
        exact ⟨.slice none 0 0, 3, 0, rfl, EX, Lst.nil _ _ _ _, by simp [Value.ownBlock], .inr (.inl ⟨HSO.out, HH.out, rfl, rfl⟩)⟩
      · have hbi : ¬ (d : Int) < (i : Int) := by omega
        have HH : Hid (¬ 65536 < i * sz) := fun h => hbig (HQ.out.2 h)
        clear hbig HQ
        go_upto_region 13 with (first | (refine wpList_load_lay (b0) _ rfl rfl rfl LB ?_) | (go_at_call 24; with_reducible refine (SZ' _ EX).mono ?_; rintro e v1 ⟨rfl, hb⟩; replace EX := Ext.trans EX hb; replace LB := LB.later hb; replace LBc0 := LB.c0; replace LBc1 := LB.c1; replace LBc2 := LB.c2; replace LBc3 := LB.c3; replace LBc4 := LB.c4; replace LBc5 := LB.c5; replace LBdg := LB.dg; replace LBfz := LB.fz; replace LBlt := LB.lt; replace FDS := FDS.later hb; clear hb v; rename World => v))
        have HP : Hid (∀ j, j < i → Room fl c p n (Q j)) := HSO.out
        clear HSO SZ' SZ hq hbi
        have NW := fun v => new_any v
        go_upto_region 14 with (first | (go_at_call 76; refine (NW _).mono ?_; rintro e v1 ⟨rfl, hb, HRR⟩))
        have HRW := HRR (bt (pby fl c p n sz Q)) (bt_bits _)
        have fl5 := FDS.lt
        have FDS1 := FDS.later hb
        have hwv := EX.more
        have E1 := EX.trans hb
        have hr1 : v.heap.size + 1 < v1.heap.size := HRW.box.lt
        clear LBc0 LBc1 LBc2 LBc3 LBc4 LBc5 LBdg LBfz LBlt
        clear LB NW HRR hb EX FDS
        have hin : ∀ k, In (v.heap.size + 1) v.heap.size (.slice none 0 0) k → w.heap.size ≤ k := by
          rintro k (rfl | rfl | h)
          · omega
          · exact hwv
          · cases h
        have hno : ∀ b, b < v.heap.size → ¬ In (v.heap.size + 1) v.heap.size (.slice none 0 0) b := by
          rintro b h (rfl | rfl | h')
          · omega
          · omega
          · cases h'
        have hNg := hno gF fl5.1
        have hNF := hno bF fl5.2.1
        have hNP := hno bP fl5.2.2.1
        have hNC := hno bC fl5.2.2.2.1
        have hNA := hno bA fl5.2.2.2.2
        have hNb : ∀ b, b < w.heap.size → ¬ In (v.heap.size + 1) v.heap.size (.slice none 0 0) b := fun b h => hno b (by omega)
        clear hno fl5 hr1
        generalize v.heap.size + 1 = r at *
        generalize v.heap.size = sh at *
        obtain ⟨u0, hu0⟩ : ∃ u0, (Value.slice none 0 0) = u0 := ⟨_, rfl⟩
        rw [hu0] at HRW hin hNg hNF hNP hNC hNA hNb
        clear hu0 hwv v
        have h1l := FDS1.lt
        have hmf : ∀ (fn : Fn) (first cap : Array Value) (w : World), (Instr.makeFunc fn first cap).run Tryd.prog w = .ok (.func fn first cap) w := fun _ _ _ _ => rfl
        have HE1 : Hid (Ext w v1) := E1
        have HIN : Hid (∀ k, In r sh u0 k → w.heap.size ≤ k) := hin
        have HNB : Hid (∀ b, b < w.heap.size → ¬ In r sh u0 b) := hNb
        have N6 : i * sz ≤ 65536 := by have := HH.out; omega
        clear E1 hin hNb
        obtain ⟨N, hNi⟩ : ∃ N, N = i := ⟨_, rfl⟩
        subst hNi
        go_upto_region 15 with fail
        go_loopg [40] N (fun gk iv wr => ∃ (i : Nat) (u1 : Value), i + gk = N ∧ iv = .int .i64 i ∧ Row wr r sh u1 (bt (pby fl c p n sz Q)) (8 * (sz * i)) ∧ Stp v1 wr r sh u0 u1)
        case atStart => exact ⟨0, u0, by omega, rfl, by rw [Nat.mul_zero]; exact HRW, Stp.refl _ _ _ _⟩
        case round =>
          clear HRW
          obtain ⟨i, u1, hi, rfl, RR, ST⟩ := hrel
          obtain ⟨v, hv⟩ : ∃ v, v = wr := ⟨_, rfl⟩
          subst hv
          by_cases hlt : i < N
          · have hii : (i : Int) < (N : Int) := by omega
            obtain ⟨b, o, rfl, hr⟩ := HB.out.es.form (by omega)
            have hbw : b < w.heap.size := cell_lt (hr i hlt 0 _ rfl)
            have RX := range_chg (range_later (hr i hlt) HE1.out) ST.1 (HNB.out b hbw)
            have bf := HB.out.f i hlt
            have bc : ∀ k, k < 4 → 0 ≤ (Q i).c k ∧ (Q i).c k < 65536 := fun k hk => HB.out.c i k hlt hk
            clear hr
            have TH : (v.alloc (.cells #[.int .u8 0, .int .u32 0, .int .u32 0, .int .u16 0, .int .u16 0, .int .u16 0, .int .u16 0] 63)).there v.heap.size 0 7 := there_new 7 rfl
            have FDS := FDS1.chg ST.1 hNg hNF hNP hNC hNA
            have og := ST.off h1l.1 hNg
            have oF := ST.off h1l.2.1 hNF
            have oP := ST.off h1l.2.2.1 hNP
            have oC := ST.off h1l.2.2.2.1 hNC
            have oA := ST.off h1l.2.2.2.2 hNA
            have f8 := HV.out.f8
            have c32 := HV.out.c1
            have p16 := HV.out.p1
            have n4 := HV.out.n1
            have hb8 := HV.out.b
            have AL := alike_vl (n := 4) (Nat.le_refl _) (put_got (R := Q) (HP.out i hlt) hb8.1)
            have hcap : sz * (i + 1) ≤ sz * N := Nat.mul_le_mul_left sz (by omega)
            rw [Nat.mul_add, Nat.mul_one] at hcap
            have hcomm : sz * N = N * sz := Nat.mul_comm _ _
            have hq1 : sz * (i + 1) = sz * i + sz := by rw [Nat.mul_add, Nat.mul_one]
            have HQ1 : Hid (sz * (i + 1) = sz * i + sz) := hq1
            have hbc : ∀ k, k < 4 → nb (bt (pby fl c p n sz Q)) (8 * (sz * i) + fl + c + c + psum (cbits n p) k) (cbits n p k) = (Q i).c k := fun k hk => by
              rw [cbits_val]
              exact AL.2.2.2 k hk
            have hz : ∀ j, 8 * (sz * i) + fl + c + c + n * p ≤ j → j < 8 * (sz * i) + 8 * sz → bt (pby fl c p n sz Q) j = 0 := fun j h1 h2 => by
              obtain ⟨t, rfl⟩ := Nat.exists_eq_add_of_le (show 8 * (sz * i) ≤ j by omega)
              rw [pby_bits i t (by omega)]
              exact if_neg (by omega)
            have LP : ∀ v2, Ext v v2 → Calls Tryd.prog 74 #[.slice (some ⟨gF, 0, none⟩) 3 3, .agg (vl 7 (rv (Q i))).toArray, .func (.func 77) #[.pointer (some ⟨r, 0, none⟩)] #[]] v2 fun e w' => e = .returned (.int .i64 0) ∧ ∃ u', Row w' r sh u' (bt (pby fl c p n sz Q)) (8 * (sz * i) + fl + c + c + n * p) ∧ Stp v2 w' r sh u1 u' := fun v2 h =>
              layPut r sh (8 * (sz * i)) u1 _ gF bF bP bC bA fl c p n 3 (Q i).f (Q i).x (Q i).y (Q i).c bf bc f8 c32.2 p16.2 n4.2 v2 (FDS.later h) (RR.later h) (by rintro b (rfl | rfl | rfl | rfl | rfl) <;> assumption) AL.1 AL.2.1 AL.2.2.1 hbc (by omega)
            obtain ⟨T, hT⟩ : ∃ T, 8 * (sz * i) + fl + c + c + n * p = T := ⟨_, rfl⟩
            rw [hT] at LP hz
            have hT2 : T + 7 * T % 8 = 8 * (sz * i) + 8 * sz := by omega
            have HT2 : Hid (T + 7 * T % 8 = 8 * (sz * (i + 1))) := show _ = _ by rw [hT2, hq1]; omega
            have PD := fun (u2 : Value) v3 (R2 : Row v3 r sh u2 (bt (pby fl c p n sz Q)) T) => pad_any r sh T u2 _ v3 R2 (fun j h1 h2 => hz j h1 (by omega))
            have one7 : ∀ u ∈ vl 7 (rv (Q i)), u.oneCell' = true := rv_one (Q i)
            obtain ⟨g, hg⟩ : ∃ g, rv (Q i) = g := ⟨_, rfl⟩
            rw [hg] at RX one7 LP
            clear hg hbc hz AL bf bc hcap hcomm hq1 hT hT2 FDS oF oP oC oA og RR
            generalize bt (pby fl c p n sz Q) = β at *
            go_upto_region 17 with (first | (refine wpList_load_mid rfl 63 (.tmp 42) rfl b (o + i * 7) rfl (vl 7 g) _ RX Tryd.underlying63 rfl (by rw [vl_len]; kernel_rfl) ?_) | (refine wpList_store_vl rfl 63 (.tmp 12) (.tmp 43) rfl v.heap.size 0 7 g rfl rfl ?th2 size_recQ one7 ?_))
            case th2 => exact TH
            simp only [Act.put]
            refine rebase (G := fun w' => Code.wp _ _ _ _ w') _ (fun v2 => Ext v v2 ∧ v2.rangeAt v.heap.size 0 (vl 7 g)) ⟨Ext.setCells' ((Ext.refl v).alloc _) _ (Nat.le_refl _) _ _, (Vm.fresh (by decide) rfl rfl).range⟩ ?_
            obtain ⟨b1, hb1⟩ : ∃ b, v.heap.size = b := ⟨_, rfl⟩
            rw [hb1]
            clear RX TH one7 hb1
            rintro v2 ⟨E2, RX⟩
            go_wp2_with (first | (refine wpList_load_mid rfl 63 (.tmp 12) rfl b1 0 rfl (vl 7 g) _ RX Tryd.underlying63 rfl (by rw [vl_len]; kernel_rfl) ?_) | (go_at_call 74; with_reducible refine (LP _ E2).mono ?_; rintro e v3 ⟨rfl, u2, R2, ST2⟩) | (go_at_call 78; with_reducible refine (PD u2 _ R2).mono ?_; rintro e v4 ⟨rfl, u3, R3, ST3⟩))
            go_roundg (gk - 1)
            case measure => omega
            case rel => exact ⟨i + 1, u3, by omega, by go_num, by rw [← HT2.out]; exact R3, ST.trans (((Stp.of _ _ _ E2).trans ST2).trans ST3)⟩
          · have hii : ¬ (i : Int) < (N : Int) := by omega
            obtain rfl : i = N := by omega
            have BY := bytes_any r sh (8 * (sz * i)) u1 _ v RR
            have hM : (8 * (sz * i) + 7) / 8 = i * sz := by rw [Nat.mul_comm sz i]; omega
            rw [hM] at BY
            have HY : Hid (vl (i * sz) (fun j => Value.int .u8 (nb (zb (bt (pby fl c p n sz Q)) (8 * (sz * i))) (8 * j) 8)) = vl (i * sz) (fun j => Value.int .u8 (pby fl c p n sz Q j))) := vl_ext fun j hj => by
              have hc : sz * i = i * sz := Nat.mul_comm _ _
              rw [nb_zb _ _ _ (by omega), nb_byte j (pby_in fl c p n sz Q j)]
            clear hM
            go_wp2_with (first | (go_at_call 79; refine BY.mono ?_; rintro e v2 ⟨g, rfl, AN⟩))
            go_ret2
            obtain ⟨E3, _⟩ := ST.over HE1.out HIN.out
            have hO := own_rowIs AN.row (by unfold maxLen; omega)
            rw [HY.out, ← ew_flat1] at hO
            exact ⟨.slice (some ⟨g, 0, none⟩) (i * sz) (i * sz), 0, i * sz, rfl, E3.trans AN.ext, hO, fun b hb => by simp only [Value.ownBlock, Option.some.injEq] at hb; subst hb; have := AN.new; have := E3.more; omega, .inr (.inr ⟨HP.out, HH.out, rfl, rfl⟩)⟩
theorem put_all (L : Lay) (N cap : Nat) (a : Option Addr) (Q : Nat → Rcd) (w : World) (TL : LaidL w) (B : Vs w a N Q) (hN : N ≤ 100000) : Calls Tryd.prog 19 #[(.agg (lv (L))), .slice a N cap] w (PutAll L Q N w) := by
  cases hv : vlay L
  · exact (put_form L hv a N cap w TL).mono fun e w' h => ⟨_, _, 0, h.1, h.2, Lst.nil _ _ _ _, by simp [Value.ownBlock], .inl ⟨hv, rfl, rfl⟩⟩
  · obtain ⟨fl, c, p, n, sz, V⟩ := vl_of hv
    have hsz : (lsize L 0).toNat = sz := by rw [V.es]; rfl
    have e1 : (flg L).toNat = fl := by rw [V.ef]; rfl
    have e2 : L.c.toNat = c := by rw [V.ec]; rfl
    have e3 : L.p.toNat = p := by rw [V.ep]; rfl
    have e4 : L.n.toNat = n := by rw [V.en]; rfl
    have hR : ∀ K, RoomL L K ↔ Room fl c p n K := fun K => by unfold RoomL; rw [e1, e2, e3, e4]
    have hb : (fun j (_ : Nat) => Value.int .u8 (pbyL L Q j)) = fun j _ => .int .u8 (pby fl c p n sz Q j) := by
      funext j _
      unfold pbyL
      rw [e1, e2, e3, e4, hsz]
    refine (put_vl L fl c p n sz N V a cap Q w TL B hN).mono fun e w' h => ?_
    obtain ⟨s, x, M, he, E, SL, hn, hc⟩ := h
    rw [← hb] at SL
    refine ⟨s, x, M, he, E, SL, hn, ?_⟩
    rcases hc with ⟨h1, h2, h3⟩ | ⟨h1, h2, h3, h4⟩ | ⟨h1, h2, h3, h4⟩
    · exact .inr (.inl ⟨hv, fun h => h1 fun i hi => (hR _).1 (h i hi), h2, h3⟩)
    · exact .inr (.inr (.inl ⟨hv, fun i hi => (hR _).2 (h1 i hi), by rw [hsz]; exact h2, h3, h4⟩))
    · exact .inr (.inr (.inr ⟨hv, fun i hi => (hR _).2 (h1 i hi), by rw [hsz]; exact h2, h3, by rw [hsz]; exact h4⟩))
end Go.Proofs.YtemcppakmcffgaaDoor
