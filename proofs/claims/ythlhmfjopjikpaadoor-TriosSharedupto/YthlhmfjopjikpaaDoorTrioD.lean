/- What package trios' ofRows and Of do, called at any layout and any vertices. -/
import Derived.Test.YthlhmfjopjikpaaDoorTrioB
import Derived.Test.YthlhmfjopjikpaaDoorTrioC
import Derived.Test.YthlhmfjopjikpaaDoorLayF
namespace Go.Proofs.YthlhmfjopjikpaaDoor
open Go.RowKit Go.BigFrame
set_option linter.unusedSimpArgs false
set_option linter.unusedVariables false
set_option maxRecDepth 20000
theorem ofrows_short (a : Option Addr) (N cap r : Nat) (w : World) (hr : 2 ≤ r) (hrm : r ≤ 9223372036854775807) (hN : N ≤ 4294967296) (h : N % r ≠ 0 ∨ N / r < 2) :
    Calls Tryd.prog 21 #[.slice a N cap, .int .i64 r] w fun e w' => e = .returned (.tuple #[.slice none 0 0, .int .i64 5]) ∧ Ext w w' := by
  have EX := Ext.refl w
  obtain ⟨m, hm⟩ : ∃ m, N / r = m := ⟨_, rfl⟩
  obtain ⟨x, hx⟩ : ∃ x, N % r = x := ⟨_, rfl⟩
  have hmN : m ≤ N := by rw [← hm]; exact Nat.div_le_self _ _
  have hxN : x ≤ N := by rw [← hx]; exact Nat.mod_le _ _
  have hdiv : Int.tdiv (N : Int) (r : Int) = (m : Int) := by rw [← hm]; rfl
  have hmod : Int.tmod (N : Int) (r : Int) = (x : Int) := by rw [← hx]; rfl
  have hmod2 : (N : Int) % (r : Int) = (x : Int) := by rw [← hx]; rfl
  have hdiv2 : (N : Int) / (r : Int) = (m : Int) := by rw [← hm]; rfl
  have hr0 : ¬ (r : Int) = 0 := by omega
  have hc : ((x : Int) != 0) = true ∨ ((x : Int) != 0) = false ∧ decide ((m : Int) < 2) = true := by
    rw [hm, hx] at h
    by_cases e : x = 0
    · exact .inr ⟨by simp [e], decide_eq_true (by omega)⟩
    · exact .inl (by simp; omega)
  clear hm hx h
  rcases hc with h1 | ⟨h1, h2⟩
  all_goals
    go_enter Tryd.func21, Tryd.ntmps21
    go_wp2_with (first | go_skip)
    go_ret2
    exact ⟨rfl, EX⟩
set_option maxHeartbeats 8000000 in
theorem ofrows_good (a : Option Addr) (N cap r m : Nat) (Q : Nat → Rcd) (w : World) (B : Vs w a N Q) (hcap : N ≤ cap) (hr : 2 ≤ r) (hN : N ≤ 4294967296) (hm : m * r = N) (hm2 : 2 ≤ m) :
    Calls Tryd.prog 21 #[.slice a N cap, .int .i64 r] w fun e w' => ∃ s, e = .returned (.tuple #[s, .int .i64 0]) ∧ Ext w w' ∧ Lst w' 65 21 s (2 * ((m - 1) * (r - 1))) (fun k => tv (cellT Q r k)) ∧ ∀ b, s.ownBlock = some b → w.heap.size ≤ b := by
  have EX := Ext.refl w
  obtain ⟨i0, hi0, hz0, hz1, hz2⟩ := info_parts info_tri21
  have hrN : r ≤ N := by rw [← hm]; exact Nat.le_mul_of_pos_left r (by omega)
  have hmN : m ≤ N := by rw [← hm]; exact Nat.le_mul_of_pos_right m (by omega)
  have hdiv : Int.tdiv (N : Int) (r : Int) = (m : Int) := by
    have : N / r = m := by rw [← hm]; exact Nat.mul_div_cancel m (by omega)
    rw [← this]; rfl
  have hmod : Int.tmod (N : Int) (r : Int) = 0 := by
    have : N % r = 0 := by rw [← hm]; exact Nat.mul_mod_left m r
    have h2 : Int.tmod (N : Int) (r : Int) = ((N % r : Nat) : Int) := rfl
    rw [h2, this]; rfl
  obtain ⟨K, hK⟩ : ∃ K, 2 * ((m - 1) * (r - 1)) = K := ⟨_, rfl⟩
  have hKN : K ≤ 2 * N := by
    have : (m - 1) * (r - 1) ≤ m * r := Nat.mul_le_mul (by omega) (by omega)
    omega
  have hmul : 2 * ((m : Int) - 1) * ((r : Int) - 1) = (K : Int) := by
    rw [← hK, Int.mul_assoc, Int.natCast_mul, Int.natCast_mul, Int.natCast_sub (by omega), Int.natCast_sub (by omega)]
    rfl
  have h2 : decide ((m : Int) < 2) = false := decide_eq_false (by omega)
  have hr0 : ¬ (r : Int) = 0 := by omega
  have HM : Hid (m * r = N) := hm
  have HK : Hid (2 * ((m - 1) * (r - 1)) = K) := hK
  rw [hK]
  obtain ⟨bv, ov, rfl, hrr⟩ := B.es.form (by omega)
  have HR : Hid (∀ i, i < N → w.rangeAt bv (ov + i * 7) (vl 7 (rv (Q i)))) := hrr
  have hbw : bv < w.heap.size := cell_lt (hrr 0 (by omega) 0 _ rfl)
  clear hm hrr B hK
  go_enter Tryd.func21, Tryd.ntmps21
  go_upto_region 5 with (first | go_skip | (at_make; refine wpList_make_own _ (by rfl) _ _ 31 (by rfl) 0 65 i0 _ 21 Tryd.underlying31 hi0 hz0 hz1 _ _ _ K rfl rfl rfl (by rw [hz2]; omega) (by unfold maxLen; omega) (by omega) ?_; intro v hown hgrow))
  clear hdiv hmod hmul h2
  have SL0 : Lst v 65 21 (.slice (some ⟨w.heap.size, 0, none⟩) 0 K) (2 * (0 * (r - 1))) (fun k => tv (cellT Q r k)) := by rw [Nat.zero_mul]; exact Lst.of hown
  have EV : Ext w v := grown_ext0 hgrow
  clear hown hgrow EX
  go_loopg [0, 7] (m - 1) (fun gk vv ov' wr => ∃ (i : Nat) (s : Value) (c o : Nat), s = ov' ∧ vv = .slice (some ⟨bv, ov + i * r * 7, none⟩) (N - i * r) c ∧ i + 1 + gk = m ∧ N - i * r ≤ c ∧ Ext w wr ∧ Lst wr 65 21 s (2 * (i * (r - 1))) (fun k => tv (cellT Q r k)) ∧ ∀ b, s.ownBlock = some b → w.heap.size ≤ b)
  case atStart => exact ⟨0, _, cap, 0, rfl, by rw [Nat.zero_mul, Nat.zero_mul, Nat.add_zero, Nat.sub_zero], by omega, by omega, EV, SL0, fun b hb => by simp only [Value.ownBlock, Option.some.injEq] at hb; omega⟩
  case round =>
    clear EV SL0 v
    obtain ⟨i, s, c, _, rfl, rfl, hi, hc, EX, SL, hnew⟩ := hrel
    obtain ⟨v, hv⟩ : ∃ v, v = wr := ⟨_, rfl⟩
    subst hv
    obtain ⟨p, hp⟩ : ∃ p, i * r = p := ⟨_, rfl⟩
    have HP : Hid (i * r = p) := hp
    have hmr := HM.out
    rw [hp] at hc
    by_cases hlt : i + 1 < m
    · have hpr : p + r + r ≤ N := by
        have : (i + 2) * r ≤ m * r := Nat.mul_le_mul_right r (by omega)
        rw [Nat.add_mul, hp] at this
        omega
      obtain ⟨l2, hl2⟩ : ∃ l2, N - p = l2 := ⟨_, rfl⟩
      have hl2r : r < l2 := by omega
      have hrl : (r : Int) < (l2 : Int) := by omega
      have hgt : decide ((l2 : Int) > (r : Int)) = true := decide_eq_true (by omega)
      have hcr : ¬ c = r := by omega
      obtain ⟨o1, ho1⟩ : ∃ o1, ov + p * 7 = o1 := ⟨_, rfl⟩
      have VP : Vt v bv o1 r (fun j => Q (p + j)) := fun j hj => by
        have := range_later (HR.out (p + j) (by omega)) EX
        rw [← ho1, show ov + p * 7 + j * 7 = ov + (p + j) * 7 by omega]
        exact this
      have VR : Vt v bv (o1 + r * 7) r (fun j => Q (p + r + j)) := fun j hj => by
        have := range_later (HR.out (p + r + j) (by omega)) EX
        rw [← ho1, show ov + p * 7 + r * 7 + j * 7 = ov + (p + r + j) * 7 by omega]
        exact this
      obtain ⟨n, hn⟩ : ∃ n, 2 * (i * (r - 1)) = n := ⟨_, rfl⟩
      have hnN : n ≤ 2 * N := by
        have : i * (r - 1) ≤ m * r := Nat.mul_le_mul (by omega) (by omega)
        omega
      have HNN : Hid (2 * (i * (r - 1)) = n) := hn
      rw [hn] at SL
      have AC : ∀ v', Ext v v' → Calls Tryd.prog 73 #[s, .slice (some ⟨bv, o1, none⟩) r c, .slice (some ⟨bv, o1 + r * 7, none⟩) (l2 - r) (c - r)] v' fun e w' => ∃ s', e = .returned s' ∧ Chg (fun b => s.ownBlock = some b) v' w' ∧ Lst w' 65 21 s' (n + 2 * (r - 1)) (behindT n (fun k => tv (cellT Q r k)) (rowT (fun j => Q (p + j)) (fun j => Q (p + r + j)))) ∧ ∀ b, s'.ownBlock = some b → s.ownBlock = some b ∨ v'.heap.size ≤ b := fun v' h =>
        appendcells_any s n r _ bv o1 (o1 + r * 7) c (c - r) (l2 - r) _ _ v' (SL.later h) hr (by omega) (fun j hj => range_later (VP j hj) h) (fun j hj => range_later (VR j hj) h) (fun hb => by have := hnew bv hb; omega) (by omega) (by omega)
      rw [hp, hl2, ho1]
      clear VP VR hn
      have hlc : l2 ≤ c := by omega
      have hrc : r ≤ c := by omega
      have hrl2 : r ≤ l2 := by omega
      have hrci : (r : Int) ≤ (c : Int) := by omega
      have hrli : (r : Int) ≤ (l2 : Int) := by omega
      go_upto_region 7 with (first | go_skip)
      have hsb : ∀ b, s.ownBlock = some b → b < v.heap.size := fun b h => SL.heap h
      refine wp_region_phases [(true, [0,1,2,3,4,5,6]), (false, [7,8])] (fun w' => ∃ x : Alt (fun b => s.ownBlock = some b) v, w' = x.out) (by kernel_rfl) (by kernel_rfl) (fun c a x v w h => by cases x <;> exact h) ⟨⟨v.drew, (Chg.refl _ v).drew⟩, rfl⟩ ?_
      intro pl hpl
      simp [pickO] at hpl
      subst hpl
      unfold wpPh
      (repeat (first | go_big_quiet_step (fail)))
      refine wpQuiet_nil ?_
      have hE0 : Ext v v.drew := (Ext.refl v).drew
      unfold wpPh
      refine holdk_step fun K hK => ?_
      go_wp2_with (first | (go_at_call 73; refine (AC _ hE0).mono ?_; rintro e v2 ⟨s2, rfl, C2, S2, n2⟩))
      have CH : Chg (fun b => s.ownBlock = some b) v v2 := (Chg.of hE0).trans C2 (fun b h => .inl h)
      have hsz : v.heap.size = v.drew.heap.size := rfl
      have EX2 : Ext w v2 := CH.over EX hnew
      refine hK _ _ ⟨⟨v2, CH⟩, rfl⟩ ?_
      clear hK K AC
      refine holdk_step fun K hK => ?_
      go_wp2
      refine hK _ _ ⟨⟨v2, CH⟩, rfl⟩ ?_
      clear hK K
      unfold wpHoldK wpPh
      have hcw := EX.more
      go_wp2
      go_roundg (gk - 1)
      case measure => omega
      case rel =>
        refine ⟨i + 1, s2, c - r, 0, rfl, ?_, by omega, ?_, EX2, ?_, fun b hb => ?_⟩
        · rw [Nat.add_mul, Nat.one_mul, HP.out]
          have e1 : N - (p + r) = l2 - r := by omega
          have e2 : ov + (p + r) * 7 = o1 + r * 7 := by omega
          rw [e1, e2]
        · rw [Nat.add_mul, Nat.one_mul, HP.out]; omega
        · rw [Nat.add_mul, Nat.one_mul, show 2 * (i * (r - 1) + (r - 1)) = n + 2 * (r - 1) by rw [← HNN.out]; omega]
          refine S2.congr fun k t hk ht => ?_
          unfold behindT
          by_cases e : k < n
          · rw [if_pos e]
          · rw [if_neg e]
            have hnn := HNN.out
            have hpp := HP.out
            obtain ⟨j, hj⟩ : ∃ j, k = n + 2 * j ∨ k = n + 2 * j + 1 := ⟨(k - n) / 2, by omega⟩
            unfold rowT
            rcases hj with rfl | rfl
            · rw [show n + 2 * j - n = 2 * j by omega, if_pos (by omega), show 2 * j / 2 = j by omega]
              have := cell_even (Q := Q) (r := r) (c := i * (r - 1)) (i := i) (j := j) rfl (by omega)
              rw [hnn] at this
              rw [this, hpp]
              dsimp only
              rw [show p + (j + 1) = p + j + 1 by omega, show p + r + j = p + j + r by omega]
            · rw [show n + 2 * j + 1 - n = 2 * j + 1 by omega, if_neg (by omega), show (2 * j + 1) / 2 = j by omega]
              have := cell_odd (Q := Q) (r := r) (c := i * (r - 1)) (i := i) (j := j) rfl (by omega)
              rw [hnn] at this
              rw [this, hpp]
              dsimp only
              rw [show p + (j + 1) = p + j + 1 by omega, show p + r + j = p + j + r by omega, show p + r + (j + 1) = p + j + r + 1 by omega]
        · rcases n2 b hb with h | h
          · exact hnew b h
          · have : v.heap.size ≤ b := h
            omega
    · have hpr : N - p ≤ r := by
        have : m * r = (i + 1) * r := by rw [show m = i + 1 by omega]
        rw [Nat.add_mul, hp] at this
        omega
      obtain ⟨l2, hl2⟩ : ∃ l2, N - p = l2 := ⟨_, rfl⟩
      have hrl : ¬ (r : Int) < (l2 : Int) := by omega
      have hgt : decide ((l2 : Int) > (r : Int)) = false := decide_eq_false (by omega)
      have hl2N : l2 ≤ N := by omega
      rw [hp, hl2]
      go_wp2_with (first | go_skip)
      go_ret2
      exact ⟨s, rfl, EX, by rw [← HK.out, show m - 1 = i by omega]; exact SL, hnew⟩
end Go.Proofs.YthlhmfjopjikpaaDoor
