/- The given reference's cells (layer 10): triangles of vertices in rows, type 5; and Of, whatever it is handed. -/
import Derived.Test.YthlhmfjopjikpaaDoorRefTriA
import Derived.Test.YthlhmfjopjikpaaDoorTriN
namespace Go.Proofs.YthlhmfjopjikpaaDoor
open Go.RowKit Go.BigFrame
set_option linter.unusedSimpArgs false
set_option linter.unusedVariables false
set_option maxRecDepth 20000
set_option maxHeartbeats 8000000 in
theorem rcells_short (a : Option Addr) (N cap r : Nat) (w : World) (hr : 2 ≤ r) (hr2 : r < 9223372036854775808) (hN : N ≤ 4294967296) (h : N % r ≠ 0 ∨ N / r < 2) :
    Calls Tryd.prog 23 #[.slice a N cap, .int .i64 r] w fun e w' => e = .returned (.tuple #[.slice none 0 0, .int .i64 5]) ∧ Ext w w' := by
  have EX := Ext.refl w
  have hdm := Nat.div_add_mod N r
  obtain ⟨m, hm⟩ : ∃ m, N / r = m := ⟨_, rfl⟩
  have hmN : m ≤ N := by rw [← hm]; exact Nat.div_le_self _ _
  have hdiv : Int.tdiv (N : Int) (r : Int) = (m : Int) := by rw [← hm]; rfl
  obtain ⟨k, hk⟩ : ∃ k, m * r = k := ⟨_, rfl⟩
  rw [hm] at h hdm
  have hkN : k ≤ N := by rw [← hk, Nat.mul_comm]; omega
  have hmul : (m : Int) * (r : Int) = (k : Int) := by rw [← hk]; exact (Int.natCast_mul m r).symm
  have hc : ((k : Int) != (N : Int)) = true ∨ ((k : Int) != (N : Int)) = false ∧ decide ((m : Int) < 2) = true := by
    by_cases e : k = N
    · refine .inr ⟨by simp [e], decide_eq_true ?_⟩
      have : N % r = 0 := by rw [Nat.mul_comm, hk] at hdm; omega
      omega
    · exact .inl (by simp; omega)
  have hr0 : ¬ (r : Int) = 0 := by omega
  clear hm hdm h hk
  rcases hc with h1 | ⟨h1, h2⟩
  all_goals
    go_enter Tryd.func23, Tryd.ntmps23
    go_wp2_with (first | go_skip)
    go_ret2
    exact ⟨rfl, EX⟩
set_option maxHeartbeats 8000000 in
theorem rcells_good (a : Option Addr) (N cap r m : Nat) (Q : Nat → Rcd) (w : World) (B : Vs w a N Q) (hr : 2 ≤ r) (hN : N ≤ 4294967296) (hm : m * r = N) (hm2 : 2 ≤ m) :
    Calls Tryd.prog 23 #[.slice a N cap, .int .i64 r] w fun e w' => ∃ s, e = .returned (.tuple #[s, .int .i64 0]) ∧ Ext w w' ∧ Lst w' 65 21 s (2 * ((m - 1) * (r - 1))) (fun k => tv (cellT Q r k)) ∧ ∀ b, s.ownBlock = some b → w.heap.size ≤ b := by
  have EX := Ext.refl w
  obtain ⟨i0, hi0, hz0, hz1, hz2⟩ := info_parts info_tri21
  have hrN : r ≤ N := by rw [← hm]; exact Nat.le_mul_of_pos_left r (by omega)
  have hmN : m ≤ N := by rw [← hm]; exact Nat.le_mul_of_pos_right m (by omega)
  have hdiv : Int.tdiv (N : Int) (r : Int) = (m : Int) := by
    have : N / r = m := by rw [← hm]; exact Nat.mul_div_cancel m (by omega)
    rw [← this]; rfl
  have hmul : (m : Int) * (r : Int) = (N : Int) := by rw [← hm]; exact (Int.natCast_mul m r).symm
  have h1 : ((N : Int) != (N : Int)) = false := by simp
  have h2 : decide ((m : Int) < 2) = false := decide_eq_false (by omega)
  have hr0 : ¬ (r : Int) = 0 := by omega
  have HM : Hid (m * r = N) := hm
  obtain ⟨bv, ov, rfl, hrr⟩ := B.es.form (by omega)
  have HR : Hid (∀ i, i < N → w.rangeAt bv (ov + i * 7) (vl 7 (rv (Q i)))) := hrr
  obtain ⟨X, hX⟩ : ∃ X : Nat → Nat → Value, (fun k => tv (cellT Q r k)) = X := ⟨_, rfl⟩
  have HX : Hid ((fun k => tv (cellT Q r k)) = X) := hX
  rw [hX]
  clear hm hrr B hX
  go_enter Tryd.func23, Tryd.ntmps23
  go_upto_region 6 with (first | go_skip)
  clear hdiv hmul h1 h2
  go_loopg [7, 8] (m - 1) (fun gk ov iv wr => ∃ (i : Nat) (sv : Value), sv = ov ∧ i + 1 + gk = m ∧ iv = .int .i64 i ∧ Ext w wr ∧ Lst wr 65 21 sv (2 * (i * (r - 1))) X ∧ (∀ b, sv.ownBlock = some b → w.heap.size ≤ b))
  case atStart => exact ⟨0, _, rfl, by omega, rfl, EX, by rw [Nat.zero_mul]; exact Lst.nil _ _ _ _, by simp [Value.ownBlock]⟩
  case round =>
    clear EX
    obtain ⟨i, sv, rfl, hi, rfl, EX, SL, hnew⟩ := hrel
    obtain ⟨gko, hgko⟩ : ∃ x, x = gk := ⟨_, rfl⟩
    subst hgko
    by_cases hlt : i + 1 < m
    · have hii : (i : Int) + 1 < (m : Int) := by omega
      obtain ⟨c, hc⟩ : ∃ c, i * (r - 1) = c := ⟨_, rfl⟩
      have HC : Hid (i * (r - 1) = c) := hc
      rw [hc] at SL
      obtain ⟨p, hp⟩ : ∃ p, i * r = p := ⟨_, rfl⟩
      have hip : (i : Int) * (r : Int) = (p : Int) := by rw [← hp]; exact (Int.natCast_mul i r).symm
      have hpr : (i + 1) * r = p + r := by rw [Nat.add_mul, hp, Nat.one_mul]
      obtain ⟨q, hq⟩ : ∃ q, p + r = q := ⟨_, rfl⟩
      have hiq : ((i : Int) + 1) * (r : Int) = (q : Int) := by rw [← hq, ← hpr, Int.natCast_mul, Int.natCast_add]; rfl
      have HQ : Hid (p + r = q) := hq
      have hpN : p + r + r ≤ N := by
        rw [← HM.out, ← hpr]
        have : (i + 2) * r ≤ m * r := Nat.mul_le_mul_right r (by omega)
        rw [show i + 2 = i + 1 + 1 by omega, Nat.add_mul (i + 1), Nat.one_mul] at this
        exact this
      have hcN : c ≤ N := by
        have : i * (r - 1) ≤ i * r := Nat.mul_le_mul_left i (by omega)
        omega
      have HP0 : Hid (i * r = p) := hp
      clear hc hp hpr hq
      go_upto_region 9 with (first | go_skip)
      go_loopg [7, 9] (r - 1) (fun gk ov jv wr => ∃ (j : Nat) (sv : Value), sv = ov ∧ j + 1 + gk = r ∧ jv = .int .i64 j ∧ Ext w wr ∧ Lst wr 65 21 sv (2 * c + 2 * j) X ∧ (∀ b, sv.ownBlock = some b → w.heap.size ≤ b))
      case atStart => exact ⟨0, _, rfl, by omega, rfl, EX, SL, hnew⟩
      case round =>
        clear EX SL hnew
        obtain ⟨j, sv, rfl, hj, rfl, EX, SL, hnew⟩ := hrel
        obtain ⟨v, hv⟩ : ∃ v, v = wr := ⟨_, rfl⟩
        subst hv
        by_cases hjl : j + 1 < r
        · have hji : (j : Int) + 1 < (r : Int) := by omega
          obtain ⟨k0, hk0⟩ : ∃ k, p + j = k := ⟨_, rfl⟩
          obtain ⟨k2, hk2⟩ : ∃ k, q + j = k := ⟨_, rfl⟩
          have hq := HQ.out
          have b0 : k0 + 1 < N := by omega
          have b2 : k2 + 1 < N := by omega
          have e0 : (p : Int) + (j : Int) = (k0 : Int) := by omega
          have e2 : (q : Int) + (j : Int) = (k2 : Int) := by omega
          obtain ⟨P0, h0⟩ : ∃ P, Q k0 = P := ⟨_, rfl⟩
          obtain ⟨P1, h1⟩ : ∃ P, Q (k0 + 1) = P := ⟨_, rfl⟩
          obtain ⟨P2, h2⟩ : ∃ P, Q k2 = P := ⟨_, rfl⟩
          obtain ⟨P3, h3⟩ : ∃ P, Q (k2 + 1) = P := ⟨_, rfl⟩
          have HP : Hid (Q (i * r + j) = P0 ∧ Q (i * r + j + 1) = P1 ∧ Q (i * r + j + r) = P2 ∧ Q (i * r + j + r + 1) = P3) := by
            have : k2 = k0 + r := by omega
            rw [HP0.out, hk0, ← this]
            exact ⟨h0, h1, h2, h3⟩
          have G0' : Hid (Q k0 = P0) := h0
          have G1' : Hid (Q (k0 + 1) = P1) := h1
          have G2' : Hid (Q k2 = P2) := h2
          have G3' : Hid (Q (k2 + 1) = P3) := h3
          clear h0 h1 h2 h3 hk0 hk2 hq
          obtain ⟨n, hn⟩ : ∃ n, 2 * c + 2 * j = n := ⟨_, rfl⟩
          have HNn : Hid (2 * c + 2 * j = n) := hn
          have hnN : n ≤ 2 * N + 2 * N := by omega
          rw [hn] at SL
          clear hn
          obtain ⟨H, hH⟩ : ∃ H, v.heap.size = H := ⟨_, rfl⟩
          have hown : ∀ b, sv.ownBlock = some b → b < H := fun b hb => by rw [← hH]; exact (World.ownsC.lt SL b hb).2
          have hHv : H ≤ v.heap.size := by omega
          clear hH
          have R0 : v.rangeAt bv (ov + (k0) * 7) (vl 7 (rv P0)) := by have := range_later (HR.out (k0) (by omega)) EX; rw [G0'.out] at this; exact this
          go_upto_region 12 with (first | go_skip | (refine wpList_load_mid rfl 63 (.tmp 46) rfl bv (ov + (k0) * 7) rfl (vl 7 (rv P0)) _ R0 Tryd.underlying63 rfl (by rw [vl_len]; kernel_rfl) ?_) | (go_at_call 24; with_reducible refine (rplain_any P0 _).mono ?_; rintro e v1 ⟨rfl, hb⟩) | (refine wpList_store_vl rfl 63 (.tmp 10) (.tmp 48) rfl v1.heap.size 0 7 (rv (bare P0)) rfl rfl (there_new 7 rfl) size_recQ (rv_one _) ?_))
          obtain ⟨b0, hb0⟩ : ∃ b, v1.heap.size = b := ⟨_, rfl⟩
          have q0 : H ≤ b0 := by have := hb.more; omega
          refine rebase (G := fun w' => Code.wp _ _ _ _ w') _ (fun v2 => Ext w v2 ∧ H ≤ v2.heap.size ∧ Lst v2 65 21 sv n X ∧ Vm v2 b0 7 (rv (bare P0))) ⟨EX.trans (Ext.setCells' (hb.alloc _) _ hb.more _ _), Nat.le_trans hHv (Ext.setCells' (hb.alloc _) _ hb.more _ _).more, SL.later (Ext.setCells' (hb.alloc _) _ hb.more _ _), by rw [← hb0]; exact Vm.fresh (by decide) rfl rfl⟩ ?_
          rw [hb0]
          clear EX hHv SL R0 hb hb0
          rintro v2 ⟨EX, hHv, SL, B0⟩
          clear v v1
          rename World => v
          simp only [Act.put, List.setIfInBounds_toArray, List.set_cons_succ, List.set_cons_zero]
          have R1 : v.rangeAt bv (ov + (k0 + 1) * 7) (vl 7 (rv P1)) := by have := range_later (HR.out (k0 + 1) (by omega)) EX; rw [G1'.out] at this; exact this
          go_upto_region 13 with (first | go_skip | (refine wpList_load_mid rfl 63 (.tmp 56) rfl bv (ov + (k0 + 1) * 7) rfl (vl 7 (rv P1)) _ R1 Tryd.underlying63 rfl (by rw [vl_len]; kernel_rfl) ?_) | (go_at_call 24; with_reducible refine (rplain_any P1 _).mono ?_; rintro e v1 ⟨rfl, hb⟩) | (refine wpList_store_vl rfl 63 (.tmp 11) (.tmp 58) rfl v1.heap.size 0 7 (rv (bare P1)) rfl rfl (there_new 7 rfl) size_recQ (rv_one _) ?_))
          obtain ⟨b1, hb1⟩ : ∃ b, v1.heap.size = b := ⟨_, rfl⟩
          have q1 : H ≤ b1 := by have := hb.more; omega
          refine rebase (G := fun w' => Code.wp _ _ _ _ w') _ (fun v2 => Ext w v2 ∧ H ≤ v2.heap.size ∧ Lst v2 65 21 sv n X ∧ Vm v2 b0 7 (rv (bare P0)) ∧ Vm v2 b1 7 (rv (bare P1))) ⟨EX.trans (Ext.setCells' (hb.alloc _) _ hb.more _ _), Nat.le_trans hHv (Ext.setCells' (hb.alloc _) _ hb.more _ _).more, SL.later (Ext.setCells' (hb.alloc _) _ hb.more _ _), B0.later (Ext.setCells' (hb.alloc _) _ hb.more _ _), by rw [← hb1]; exact Vm.fresh (by decide) rfl rfl⟩ ?_
          rw [hb1]
          clear EX hHv SL R1 hb hb1 B0
          rintro v2 ⟨EX, hHv, SL, B0, B1⟩
          clear v v1
          rename World => v
          simp only [Act.put, List.setIfInBounds_toArray, List.set_cons_succ, List.set_cons_zero]
          have R2 : v.rangeAt bv (ov + (k2) * 7) (vl 7 (rv P2)) := by have := range_later (HR.out (k2) (by omega)) EX; rw [G2'.out] at this; exact this
          go_upto_region 14 with (first | go_skip | (refine wpList_load_mid rfl 63 (.tmp 66) rfl bv (ov + (k2) * 7) rfl (vl 7 (rv P2)) _ R2 Tryd.underlying63 rfl (by rw [vl_len]; kernel_rfl) ?_) | (go_at_call 24; with_reducible refine (rplain_any P2 _).mono ?_; rintro e v1 ⟨rfl, hb⟩) | (refine wpList_store_vl rfl 63 (.tmp 12) (.tmp 68) rfl v1.heap.size 0 7 (rv (bare P2)) rfl rfl (there_new 7 rfl) size_recQ (rv_one _) ?_))
          obtain ⟨b2, hb2⟩ : ∃ b, v1.heap.size = b := ⟨_, rfl⟩
          have q2 : H ≤ b2 := by have := hb.more; omega
          refine rebase (G := fun w' => Code.wp _ _ _ _ w') _ (fun v2 => Ext w v2 ∧ H ≤ v2.heap.size ∧ Lst v2 65 21 sv n X ∧ Vm v2 b0 7 (rv (bare P0)) ∧ Vm v2 b1 7 (rv (bare P1)) ∧ Vm v2 b2 7 (rv (bare P2))) ⟨EX.trans (Ext.setCells' (hb.alloc _) _ hb.more _ _), Nat.le_trans hHv (Ext.setCells' (hb.alloc _) _ hb.more _ _).more, SL.later (Ext.setCells' (hb.alloc _) _ hb.more _ _), B0.later (Ext.setCells' (hb.alloc _) _ hb.more _ _), B1.later (Ext.setCells' (hb.alloc _) _ hb.more _ _), by rw [← hb2]; exact Vm.fresh (by decide) rfl rfl⟩ ?_
          rw [hb2]
          clear EX hHv SL R2 hb hb2 B0 B1
          rintro v2 ⟨EX, hHv, SL, B0, B1, B2⟩
          clear v v1
          rename World => v
          simp only [Act.put, List.setIfInBounds_toArray, List.set_cons_succ, List.set_cons_zero]
          have R3 : v.rangeAt bv (ov + (k2 + 1) * 7) (vl 7 (rv P3)) := by have := range_later (HR.out (k2 + 1) (by omega)) EX; rw [G3'.out] at this; exact this
          go_upto_region 15 with (first | go_skip | (refine wpList_load_mid rfl 63 (.tmp 77) rfl bv (ov + (k2 + 1) * 7) rfl (vl 7 (rv P3)) _ R3 Tryd.underlying63 rfl (by rw [vl_len]; kernel_rfl) ?_) | (go_at_call 24; with_reducible refine (rplain_any P3 _).mono ?_; rintro e v1 ⟨rfl, hb⟩) | (refine wpList_store_vl rfl 63 (.tmp 13) (.tmp 79) rfl v1.heap.size 0 7 (rv (bare P3)) rfl rfl (there_new 7 rfl) size_recQ (rv_one _) ?_))
          obtain ⟨b3, hb3⟩ : ∃ b, v1.heap.size = b := ⟨_, rfl⟩
          have q3 : H ≤ b3 := by have := hb.more; omega
          refine rebase (G := fun w' => Code.wp _ _ _ _ w') _ (fun v2 => Ext w v2 ∧ H ≤ v2.heap.size ∧ Lst v2 65 21 sv n X ∧ Vm v2 b0 7 (rv (bare P0)) ∧ Vm v2 b1 7 (rv (bare P1)) ∧ Vm v2 b2 7 (rv (bare P2)) ∧ Vm v2 b3 7 (rv (bare P3))) ⟨EX.trans (Ext.setCells' (hb.alloc _) _ hb.more _ _), Nat.le_trans hHv (Ext.setCells' (hb.alloc _) _ hb.more _ _).more, SL.later (Ext.setCells' (hb.alloc _) _ hb.more _ _), B0.later (Ext.setCells' (hb.alloc _) _ hb.more _ _), B1.later (Ext.setCells' (hb.alloc _) _ hb.more _ _), B2.later (Ext.setCells' (hb.alloc _) _ hb.more _ _), by rw [← hb3]; exact Vm.fresh (by decide) rfl rfl⟩ ?_
          rw [hb3]
          clear EX hHv SL R3 hb hb3 B0 B1 B2
          rintro v2 ⟨EX, hHv, SL, B0, B1, B2, B3⟩
          clear v v1
          rename World => v
          simp only [Act.put, List.setIfInBounds_toArray, List.set_cons_succ, List.set_cons_zero]
          obtain ⟨f0, G0⟩ : ∃ f, rv (bare P0) = f := ⟨_, rfl⟩
          obtain ⟨f1, G1⟩ : ∃ f, rv (bare P1) = f := ⟨_, rfl⟩
          obtain ⟨f2, G2⟩ : ∃ f, rv (bare P2) = f := ⟨_, rfl⟩
          obtain ⟨f3, G3⟩ : ∃ f, rv (bare P3) = f := ⟨_, rfl⟩
          have F0 : v.rangeAt b0 0 [f0 0, f0 1, f0 2, f0 3, f0 4, f0 5, f0 6] := by have := B0.range; rw [G0] at this; exact this
          have F1 : v.rangeAt b1 0 [f1 0, f1 1, f1 2, f1 3, f1 4, f1 5, f1 6] := by have := B1.range; rw [G1] at this; exact this
          have F2 : v.rangeAt b2 0 [f2 0, f2 1, f2 2, f2 3, f2 4, f2 5, f2 6] := by have := B2.range; rw [G2] at this; exact this
          have one : ∀ u ∈ [f0 0, f0 1, f0 2, f0 3, f0 4, f0 5, f0 6, f1 0, f1 1, f1 2, f1 3, f1 4, f1 5, f1 6, f2 0, f2 1, f2 2, f2 3, f2 4, f2 5, f2 6], u.oneCell' = true := by rw [← G0, ← G1, ← G2]; exact tri21_one (rv_one _) (rv_one _) (rv_one _)
          have NB : ∀ k u, ([f0 0, f0 1, f0 2, f0 3, f0 4, f0 5, f0 6, f1 0, f1 1, f1 2, f1 3, f1 4, f1 5, f1 6, f2 0, f2 1, f2 2, f2 3, f2 4, f2 5, f2 6] : List Value)[k]? = some u → (v.alloc (.cells #[f0 0, f0 1, f0 2, f0 3, f0 4, f0 5, f0 6, f1 0, f1 1, f1 2, f1 3, f1 4, f1 5, f1 6, f2 0, f2 1, f2 2, f2 3, f2 4, f2 5, f2 6] 65)).cell? ((⟨v.heap.size, 0, none⟩ : Addr).add k) = some u := World.news_of_block (cs := #[f0 0, f0 1, f0 2, f0 3, f0 4, f0 5, f0 6, f1 0, f1 1, f1 2, f1 3, f1 4, f1 5, f1 6, f2 0, f2 1, f2 2, f2 3, f2 4, f2 5, f2 6]) (t := 65) (fr := (0, 0)) (heap_alloc_new v _)
          have E9 : Ext v (v.alloc (.cells #[f0 0, f0 1, f0 2, f0 3, f0 4, f0 5, f0 6, f1 0, f1 1, f1 2, f1 3, f1 4, f1 5, f1 6, f2 0, f2 1, f2 2, f2 3, f2 4, f2 5, f2 6] 65)) := (Ext.refl v).alloc _
          have SL2 : World.ownsC (v.alloc (.cells #[f0 0, f0 1, f0 2, f0 3, f0 4, f0 5, f0 6, f1 0, f1 1, f1 2, f1 3, f1 4, f1 5, f1 6, f2 0, f2 1, f2 2, f2 3, f2 4, f2 5, f2 6] 65)) 0 65 21 sv (n) (ew 21 (n) X) := SL.later E9
          have hsz : (v.alloc (.cells #[f0 0, f0 1, f0 2, f0 3, f0 4, f0 5, f0 6, f1 0, f1 1, f1 2, f1 3, f1 4, f1 5, f1 6, f2 0, f2 1, f2 2, f2 3, f2 4, f2 5, f2 6] 65)).heap.size = v.heap.size + 1 := by simp
          go_upto_region 16 with (first | go_skip | (refine wpList_load_mid rfl 63 (.tmp 10) rfl b0 0 rfl [f0 0, f0 1, f0 2, f0 3, f0 4, f0 5, f0 6] _ F0 Tryd.underlying63 rfl (by kernel_rfl) ?_) | (refine wpList_load_mid rfl 63 (.tmp 11) rfl b1 0 rfl [f1 0, f1 1, f1 2, f1 3, f1 4, f1 5, f1 6] _ F1 Tryd.underlying63 rfl (by kernel_rfl) ?_) | (refine wpList_load_mid rfl 63 (.tmp 12) rfl b2 0 rfl [f2 0, f2 1, f2 2, f2 3, f2 4, f2 5, f2 6] _ F2 Tryd.underlying63 rfl (by kernel_rfl) ?_) | (at_builtin; refine wpList_append_lst _ (by rfl) _ _ _ (by rfl) 65 i0 _ 21 60 Tryd.underlying31 hi0 hz0 hz1 hz2 rfl (by omega) sv (n) _ (by rfl) SL2 ⟨v.heap.size, 0, none⟩ 1 1 [f0 0, f0 1, f0 2, f0 3, f0 4, f0 5, f0 6, f1 0, f1 1, f1 2, f1 3, f1 4, f1 5, f1 6, f2 0, f2 1, f2 2, f2 3, f2 4, f2 5, f2 6] (by rfl) (by rfl) NB one (by omega) (by unfold maxLen; omega) (by omega) ?_; intro gg cap' v9 own hat))
          have CH : Chg (fun b => sv.ownBlock = some b) v v9 := by
            refine (Chg.of (S := fun b => sv.ownBlock = some b) E9).trans ?_ (fun b h => .inl h)
            rcases hat with ⟨h, h'⟩ | ⟨_, h'⟩
            · exact Chg.grown h' (fun b hb => by rw [h]; exact hb)
            · exact Chg.grown h' (fun b hb => by cases hb)
          have OWN : Lst v9 65 21 (.slice (some ⟨gg, 0, none⟩) (n + 1) cap') (n + 1) X := (Lst.snoc (Y := tri21 f0 f1 f2) own).congr fun k t hk ht => by
            unfold upe
            by_cases e : k = n
            · rw [if_pos e, e, ← HX.out]
              show tri21 f0 f1 f2 t = tv (cellT Q r (n)) t
              rw [show n = 2 * c + 2 * j from HNn.out.symm, cell_even HC.out hjl, tv_tri, ← G0, ← G1, ← G2, ← HP.out.1, ← HP.out.2.1, ← HP.out.2.2.1]
            · rw [if_neg e]
          have hg2 : w.heap.size ≤ gg ∧ (gg < H ∨ v.heap.size ≤ gg) := by
            rcases hat with ⟨h, _⟩ | ⟨h, _⟩
            · exact ⟨hnew gg (by rw [h]; rfl), .inl (hown gg (by rw [h]; rfl))⟩
            · rw [hsz] at h; have := EX.more; exact ⟨by omega, .inr (by omega)⟩
          have EX' : Ext w v9 := CH.over EX (fun b hb => hnew b hb)
          obtain ⟨sv', hsv'⟩ : ∃ sv' : Value, .slice (some ⟨gg, 0, none⟩) (n + 1) cap' = sv' := ⟨_, rfl⟩
          rw [hsv'] at OWN ⊢
          have hnew' : ∀ b, sv'.ownBlock = some b → w.heap.size ≤ b := fun b hb => by
            rw [← hsv'] at hb
            simp only [Value.ownBlock, Option.some.injEq] at hb
            omega
          have nB1 : ¬ sv.ownBlock = some b1 := fun h => by have := hown _ h; omega
          have B1' := B1.blk2 (CH.block b1 B1.lt nB1) CH.size
          have nB3 : ¬ sv.ownBlock = some b3 := fun h => by have := hown _ h; omega
          have B3' := B3.blk2 (CH.block b3 B3.lt nB3) CH.size
          have nB2 : ¬ sv.ownBlock = some b2 := fun h => by have := hown _ h; omega
          have B2' := B2.blk2 (CH.block b2 B2.lt nB2) CH.size
          have hown' : ∀ b, sv'.ownBlock = some b → b < H ∨ v.heap.size ≤ b := fun b hb => by
            rw [← hsv'] at hb
            simp only [Value.ownBlock, Option.some.injEq] at hb
            have := hg2.2
            omega
          have l1 := B1.lt
          have l3 := B3.lt
          have l2 := B2.lt
          have nb' : ∀ k, k = b1 ∨ k = b3 ∨ k = b2 → ¬ sv'.ownBlock = some k := fun k hk h => by have := hown' k h; omega
          refine rebase (G := fun w' => Code.wp _ _ _ _ w') _ (fun v2 => Ext w v2 ∧ Lst v2 65 21 sv' (n + 1) X ∧ Vm v2 b1 7 (rv (bare P1)) ∧ Vm v2 b3 7 (rv (bare P3)) ∧ Vm v2 b2 7 (rv (bare P2))) ⟨EX', OWN, B1', B3', B2'⟩ ?_
          clear EX SL B0 B1 B2 B3 B1' B2' B3' OWN EX' CH own hat hnew hown hHv F0 F1 F2 NB SL2 hsz E9 one nB1 nB2 nB3 hown' l1 l2 l3 nb' hg2 hsv' q0 q1 q2 q3 v9
          generalize v.heap.size = hs0
          generalize hsvo : sv = svo
          clear hsvo v sv
          obtain ⟨sv, rfl⟩ : ∃ x, x = sv' := ⟨_, rfl⟩
          have hnew := hnew'
          clear hnew'
          rintro v ⟨EX, SL, B1, B3, B2⟩
          obtain ⟨H2, hH2⟩ : ∃ H2, v.heap.size = H2 := ⟨_, rfl⟩
          have hown : ∀ b, sv.ownBlock = some b → b < H2 := fun b hb => by rw [← hH2]; exact (World.ownsC.lt SL b hb).2
          have hHv : H2 ≤ v.heap.size := by omega
          clear hH2
          have F1 : v.rangeAt b1 0 [f1 0, f1 1, f1 2, f1 3, f1 4, f1 5, f1 6] := by have := B1.range; rw [G1] at this; exact this
          have F3 : v.rangeAt b3 0 [f3 0, f3 1, f3 2, f3 3, f3 4, f3 5, f3 6] := by have := B3.range; rw [G3] at this; exact this
          have F2 : v.rangeAt b2 0 [f2 0, f2 1, f2 2, f2 3, f2 4, f2 5, f2 6] := by have := B2.range; rw [G2] at this; exact this
          have one : ∀ u ∈ [f1 0, f1 1, f1 2, f1 3, f1 4, f1 5, f1 6, f3 0, f3 1, f3 2, f3 3, f3 4, f3 5, f3 6, f2 0, f2 1, f2 2, f2 3, f2 4, f2 5, f2 6], u.oneCell' = true := by rw [← G1, ← G3, ← G2]; exact tri21_one (rv_one _) (rv_one _) (rv_one _)
          have NB : ∀ k u, ([f1 0, f1 1, f1 2, f1 3, f1 4, f1 5, f1 6, f3 0, f3 1, f3 2, f3 3, f3 4, f3 5, f3 6, f2 0, f2 1, f2 2, f2 3, f2 4, f2 5, f2 6] : List Value)[k]? = some u → (v.alloc (.cells #[f1 0, f1 1, f1 2, f1 3, f1 4, f1 5, f1 6, f3 0, f3 1, f3 2, f3 3, f3 4, f3 5, f3 6, f2 0, f2 1, f2 2, f2 3, f2 4, f2 5, f2 6] 65)).cell? ((⟨v.heap.size, 0, none⟩ : Addr).add k) = some u := World.news_of_block (cs := #[f1 0, f1 1, f1 2, f1 3, f1 4, f1 5, f1 6, f3 0, f3 1, f3 2, f3 3, f3 4, f3 5, f3 6, f2 0, f2 1, f2 2, f2 3, f2 4, f2 5, f2 6]) (t := 65) (fr := (0, 0)) (heap_alloc_new v _)
          have E9 : Ext v (v.alloc (.cells #[f1 0, f1 1, f1 2, f1 3, f1 4, f1 5, f1 6, f3 0, f3 1, f3 2, f3 3, f3 4, f3 5, f3 6, f2 0, f2 1, f2 2, f2 3, f2 4, f2 5, f2 6] 65)) := (Ext.refl v).alloc _
          have SL2 : World.ownsC (v.alloc (.cells #[f1 0, f1 1, f1 2, f1 3, f1 4, f1 5, f1 6, f3 0, f3 1, f3 2, f3 3, f3 4, f3 5, f3 6, f2 0, f2 1, f2 2, f2 3, f2 4, f2 5, f2 6] 65)) 0 65 21 sv (n + 1) (ew 21 (n + 1) X) := SL.later E9
          have hsz : (v.alloc (.cells #[f1 0, f1 1, f1 2, f1 3, f1 4, f1 5, f1 6, f3 0, f3 1, f3 2, f3 3, f3 4, f3 5, f3 6, f2 0, f2 1, f2 2, f2 3, f2 4, f2 5, f2 6] 65)).heap.size = v.heap.size + 1 := by simp
          go_upto_region 10 with (first | go_skip | (refine wpList_load_mid rfl 63 (.tmp 11) rfl b1 0 rfl [f1 0, f1 1, f1 2, f1 3, f1 4, f1 5, f1 6] _ F1 Tryd.underlying63 rfl (by kernel_rfl) ?_) | (refine wpList_load_mid rfl 63 (.tmp 13) rfl b3 0 rfl [f3 0, f3 1, f3 2, f3 3, f3 4, f3 5, f3 6] _ F3 Tryd.underlying63 rfl (by kernel_rfl) ?_) | (refine wpList_load_mid rfl 63 (.tmp 12) rfl b2 0 rfl [f2 0, f2 1, f2 2, f2 3, f2 4, f2 5, f2 6] _ F2 Tryd.underlying63 rfl (by kernel_rfl) ?_) | (at_builtin; refine wpList_append_lst _ (by rfl) _ _ _ (by rfl) 65 i0 _ 21 60 Tryd.underlying31 hi0 hz0 hz1 hz2 rfl (by omega) sv (n + 1) _ (by rfl) SL2 ⟨v.heap.size, 0, none⟩ 1 1 [f1 0, f1 1, f1 2, f1 3, f1 4, f1 5, f1 6, f3 0, f3 1, f3 2, f3 3, f3 4, f3 5, f3 6, f2 0, f2 1, f2 2, f2 3, f2 4, f2 5, f2 6] (by rfl) (by rfl) NB one (by omega) (by unfold maxLen; omega) (by omega) ?_; intro gg cap' v9 own hat))
          have CH : Chg (fun b => sv.ownBlock = some b) v v9 := by
            refine (Chg.of (S := fun b => sv.ownBlock = some b) E9).trans ?_ (fun b h => .inl h)
            rcases hat with ⟨h, h'⟩ | ⟨_, h'⟩
            · exact Chg.grown h' (fun b hb => by rw [h]; exact hb)
            · exact Chg.grown h' (fun b hb => by cases hb)
          have OWN : Lst v9 65 21 (.slice (some ⟨gg, 0, none⟩) (n + 1 + 1) cap') (n + 1 + 1) X := (Lst.snoc (Y := tri21 f1 f3 f2) own).congr fun k t hk ht => by
            unfold upe
            by_cases e : k = n + 1
            · rw [if_pos e, e, ← HX.out]
              show tri21 f1 f3 f2 t = tv (cellT Q r (n + 1)) t
              rw [show n + 1 = 2 * c + 2 * j + 1 by rw [HNn.out], cell_odd HC.out hjl, tv_tri, ← G1, ← G3, ← G2, ← HP.out.2.1, ← HP.out.2.2.2, ← HP.out.2.2.1]
            · rw [if_neg e]
          have hg2 : w.heap.size ≤ gg ∧ (gg < H2 ∨ v.heap.size ≤ gg) := by
            rcases hat with ⟨h, _⟩ | ⟨h, _⟩
            · exact ⟨hnew gg (by rw [h]; rfl), .inl (hown gg (by rw [h]; rfl))⟩
            · rw [hsz] at h; have := EX.more; exact ⟨by omega, .inr (by omega)⟩
          have EX' : Ext w v9 := CH.over EX (fun b hb => hnew b hb)
          obtain ⟨sv', hsv'⟩ : ∃ sv' : Value, .slice (some ⟨gg, 0, none⟩) (n + 1 + 1) cap' = sv' := ⟨_, rfl⟩
          rw [hsv'] at OWN ⊢
          have hnew' : ∀ b, sv'.ownBlock = some b → w.heap.size ≤ b := fun b hb => by
            rw [← hsv'] at hb
            simp only [Value.ownBlock, Option.some.injEq] at hb
            omega
          go_wp2
          go_roundg (gk - 1)
          case measure => omega
          case rel => exact ⟨j + 1, sv', rfl, by omega, by go_num, EX', by rw [show 2 * c + 2 * (j + 1) = n + 1 + 1 by rw [← HNn.out]; omega]; exact OWN, hnew'⟩
        · have hji : ¬ (j : Int) + 1 < (r : Int) := by omega
          go_wp2_with (first | go_skip)
          go_roundg (gko - 1)
          case measure => omega
          case rel =>
            refine ⟨i + 1, sv, rfl, by omega, by go_num, EX, ?_, hnew⟩
            have hcc := HC.out
            rw [Nat.add_mul, hcc, Nat.one_mul, show 2 * (c + (r - 1)) = 2 * c + 2 * j by omega]
            exact SL
    · have hii : ¬ (i : Int) + 1 < (m : Int) := by omega
      go_wp2_with (first | go_skip)
      go_ret2
      exact ⟨sv, rfl, EX, by rw [show m - 1 = i by omega]; exact SL, hnew⟩
end Go.Proofs.YthlhmfjopjikpaaDoor
