/- The law BitsBack, walked. -/
import Derived.Test.YthnmofnlcepffaaBitJ
namespace Go.Proofs.Ythnmofnlcepffaa
open Go.RowKit Go.BigFrame
set_option linter.unusedSimpArgs false
set_option linter.unusedVariables false
/-- How the first loop stands: i numbers are put. -/
def PutSo (w : World) (r sh : Nat) (V : Nat → Int) (M : Nat → Nat) (N : Nat → Int) (i : Nat) (wr : World) : Prop :=
  (∃ u, Row wr r sh u (bb V M i) (pl M i) ∧ Ext w wr ∧ ∀ k, In r sh u k → w.heap.size ≤ k) ∧ ∀ j, j < i → N j = M j ∧ M j ≤ 32 ∧ V j < 2 ^ M j
set_option maxRecDepth 20000 in
set_option maxHeartbeats 8000000 in
theorem back_law (a : Option Addr) (L c : Nat) (V N : Nat → Int) (w : World) (B : Ld w a L V N) :
    Calls Try.prog 6 #[.slice a L c] w fun e w' => e = .returned (.bool true) ∧ Ext w w' := by
  have hL := lives_any
  have hLen := B.len
  by_cases hb : 200 < L
  · have hbi : (200 : Int) < (L : Int) := by omega
    have EX := Ext.refl w
    go_enter Try.func6, Try.ntmps6
    go_wp2_with (first | (go_at_call 9; with_reducible refine (hL _).mono ?_; rintro e w' ⟨rfl, hb⟩; replace EX := EX.trans hb))
    go_ret
    exact ⟨rfl, EX⟩
  have hbi : ¬ (200 : Int) < (L : Int) := by omega
  have hN := new_any w
  obtain ⟨M, hM⟩ : ∃ M : Nat → Nat, ∀ i, M i = (N i).toNat := ⟨_, fun _ => rfl⟩
  have HB : Hid (Ld w a L V N) := B
  have HM : Hid (∀ i, M i = (N i).toNat) := hM
  clear B hM
  go_enter Try.func6, Try.ntmps6
  go_upto_region 6 with (first | (go_at_call 14; with_reducible refine hN.mono ?_; rintro e v1 ⟨rfl, EX, HR⟩))
  obtain ⟨r, sh, hr, HS⟩ : ∃ r sh, w.heap.size + 1 = r ∧ PutSo w r sh V M N 0 v1 := ⟨_, _, rfl, ⟨_, HR _ (bb_bits V M 0), EX, new_in w⟩, fun j hj => by omega⟩
  rw [hr]
  clear hr HR EX hN
  go_loopg [4, 5] L (fun gk ev iv wr => ∃ i e : Nat, i + gk = L ∧ e = pl M i ∧ ev = .int .i64 e ∧ iv = .int .i64 i ∧ PutSo w r sh V M N i wr)
  case atStart => exact ⟨0, 0, by omega, rfl, rfl, rfl, HS⟩
  case round =>
    clear HS
    obtain ⟨i, ends, hi, he, rfl, rfl, ⟨u, R, EX, hin⟩, hall⟩ := hrel
    have HA : Hid (∀ j, j < i → N j = M j ∧ M j ≤ 32 ∧ V j < 2 ^ M j) := hall
    have hends : ends ≤ 6400 := by rw [he]; have := pl_le M i (fun j hj => (hall j hj).2.1); omega
    clear hall
    by_cases hlt : i < L
    · have hii : (i : Int) < (L : Int) := by omega
      obtain ⟨b, q, rfl, hbw, hc⟩ := HB.out.some (by omega)
      obtain ⟨k0, k1⟩ := hc i hlt
      obtain ⟨x0, x1⟩ := HB.out.val i hlt
      have ni := HB.out.num i hlt
      have c0 := EX.later k0
      have c1 := EX.later k1
      by_cases hok : 0 ≤ N i ∧ N i ≤ 32 ∧ V i < 2 ^ (N i).toNat
      · have hNi : N i = (M i : Int) := by have := HM.out i; omega
        have hm32 : M i ≤ 32 := by omega
        have hv2 : V i < 2 ^ M i := by rw [HM.out i]; exact hok.2.2
        have hA : ∀ j, j < i + 1 → N j = M j ∧ M j ≤ 32 ∧ V j < 2 ^ M j := fun j hj => by
          by_cases h : j = i
          · subst h; exact ⟨hNi, hm32, hv2⟩
          · exact HA.out j (by omega)
        have R' := R.congr (bb_bits V M (i + 1)) (fun j hj => (ex_lt _ _ _ _ hj).symm)
        have hv : nb (bb V M (i + 1)) (pl M i) (M i) = V i := nb_ex _ _ _ _ x0 hv2
        have MY := fun w => may_yes (V i) (M i) x0 hv2 hm32 w
        have P := fun (v' : World) (e : Ext _ v') => put_any r sh (pl M i) (M i) u _ (V i) v' (R'.later e) hm32 hv (by omega)
        have hpl : Hid (pl M i + M i = pl M (i + 1)) := rfl
        have LN := fun (v' : World) (u : Value) (R : Row v' r sh u (bb V M (i + 1)) (pl M i + M i)) => len_lit r sh _ ((ends : Int) + (M i : Int)) u _ v' R (by omega)
        have HA' : Hid (∀ j, j < i + 1 → N j = M j ∧ M j ≤ 32 ∧ V j < 2 ^ M j) := hA
        rw [hNi] at c1 k1
        clear hv R hA HA hok hc hNi ni hv2
        have hnb : ¬ In r sh u b := fun h => by have := hin b h; omega
        have HE : Hid (ends = pl M i) := he
        clear he
        generalize V i = x at *
        generalize M i = m at *
        obtain ⟨v, hv⟩ : ∃ v, v = wr := ⟨_, rfl⟩
        subst hv
        go_upto_region 10 with (first | (go_at_call 27; with_reducible refine (MY _).mono ?_; rintro e v2 ⟨rfl, hb2⟩))
        replace c0 := hb2.later c0
        replace c1 := hb2.later c1
        have g0 := fun x' : Alt (In r sh u) v2 => x'.cell hnb c0
        have g1 := fun x' : Alt (In r sh u) v2 => x'.cell hnb c1
        refine wp_region_reads (fun i => decide (i < 11)) 2 13 (fun w' => ∃ x : Alt (In r sh u) v2, w' = x.out) (by kernel_rfl) (by kernel_rfl) (fun c a x v w h => by cases x <;> exact h) ⟨⟨v2.drew, (Chg.refl _ v2).drew⟩, rfl⟩ ?_
        intro l1 l2 h1 h2
        simp [pickB] at h1 h2
        subst h1 h2
        (repeat (first | go_big_quiet_step (fail))); refine wpQuiet_nil ?_; clear g0 g1
        refine hold_step (n := 1) fun K hK => ?_
        have ED := (hb2.trans (Ext.drew (Ext.refl v2)))
        go_wp2_with (first | (go_at_call 18; with_reducible refine (P _ ED).mono ?_; rintro e v3 ⟨rfl, u3, R3, ST⟩))
        refine hK _ _ ⟨⟨v3, (((Chg.refl _ v2).drew).trans ST.chg (fun i hi => .inl hi))⟩, rfl⟩ ?_
        clear hK K
        refine hold_step (n := 0) fun K hK => ?_
        go_wp2
        refine hK _ _ ⟨⟨v3, (((Chg.refl _ v2).drew).trans ST.chg (fun i hi => .inl hi))⟩, rfl⟩ ?_
        clear hK K
        refine hold_done ?_
        obtain ⟨E3, i3⟩ := ST.over (EX.trans ED) hin
        have c1' := E3.later k1
        have LN3 := LN _ _ R3
        clear c0 c1 MY P LN
        go_wp2_with (first | (go_at_call 21; with_reducible refine LN3.mono ?_; rintro e v4 ⟨rfl, hb4⟩))
        go_roundg (gk - 1)
        case measure => omega
        case rel => exact ⟨i + 1, ends + m, by omega, by rw [← hpl.out, HE.out], by go_num, by go_num, ⟨u3, by rw [← hpl.out]; exact R3.later hb4, E3.trans hb4, i3⟩, HA'.out⟩
      · have MN := fun w => may_no (V i) (N i) x0 x1 ni hok w
        clear R hok hc
        generalize V i = x at *
        generalize N i = m at *
        go_wp2_with (first | (go_at_call 27; with_reducible refine (MN _).mono ?_; rintro e v2 ⟨rfl, hb2⟩) | (go_at_call 9; with_reducible refine (hL _).mono ?_; rintro e v3 ⟨rfl, hb3⟩))
        go_ret
        exact ⟨rfl, (EX.trans hb2).trans hb3⟩
    · have hii : ¬ (i : Int) < (L : Int) := by omega
      obtain rfl : i = L := by omega
      have hbits := bb_bits V M i
      have hnum := nb_bb V M i (fun j hj => ⟨(HB.out.val j hj).1, (HA.out j hj).2.2⟩)
      rw [← he] at R
      have hpl : ∀ j, j < i → pl M j + M j ≤ ends := fun j hj => by rw [he]; exact pl_mono M (i := j + 1) (by omega)
      have HP : Hid (∀ j, j < i → pl M j + M j ≤ ends) := hpl
      clear he hpl
      generalize bb V M i = β at *
      have HNM : Hid (∀ j, j < i → nb β (pl M j) (M j) = V j) := hnum
      clear hnum
      replace R := R.congr (zb_bits hbits ends) (fun j hj => (if_pos hj).symm)
      have BY := bytes_lit r sh ends u _ _ R ((ends + 7) / 8) rfl
      obtain ⟨K, hK⟩ : ∃ K, (ends + 7) / 8 = K := ⟨_, rfl⟩
      have hKi : ((ends : Int) + 7) / 8 = (K : Int) := by omega
      rw [hK] at BY
      have zz : ∀ m, ends ≤ m → ∀ p k, p + k ≤ m → nb (zb (zb β ends) m) p k = nb (zb β ends) p k := fun m hm p k h => nb_zb _ _ _ h
      go_upto_region 16 with (first | (go_at_call 20; with_reducible refine BY.mono ?_; rintro e v1 ⟨g, rfl, AN⟩))
      have X := bs_ans (zb_bits hbits ends) AN (by omega)
      have gn : ¬ In r sh u g := fun h => by have := R.lt g h; have := AN.new; omega
      have R2 := R.later AN.ext
      have E1 := EX.trans AN.ext
      have PD := pad_any r sh ends u _ v1 R2 (fun j h1 h2 => if_neg (by omega))
      obtain ⟨T, hT⟩ : ∃ T, ends + 7 * ends % 8 = T := ⟨_, rfl⟩
      rw [hT] at PD
      have hTK : T = 8 * K := by omega
      have LN := fun (v' : World) (u : Value) (R : Row v' r sh u (zb β ends) T) => len_lit r sh T (8 * (K : Int)) u _ v' R (by omega)
      have B2 := fun (v' : World) (u : Value) (R : Row v' r sh u (zb β ends) T) => bytes_lit r sh T u _ v' R K (by omega)
      have SB := fun v v2 g2 (e : Bs v2 (some ⟨g, 0, none⟩) K (fun j => nb (zb (zb β ends) ends) (8 * j) 8)) (A : Ans v v2 g2 K (fun j => nb (zb (zb β ends) T) (8 * j) 8)) => sameBytes_yes (some ⟨g2, 0, none⟩) (some ⟨g, 0, none⟩) K K K _ _ v2 (bs_ans (zb_bits hbits ends) A (by omega)) e
        (fun j hj => (nb_zb T (8 * j) 8 (by omega)).trans (nb_congr _ _ fun i _ _ => by unfold zb; split <;> rfl))
      have XN : Hid (∀ p n, p + n ≤ ends → nb (bt (fun j => nb (zb (zb β ends) ends) (8 * j) 8)) p n = nb β p n) := fun p n h => (nb_ans (zb_bits hbits ends) h).trans (nb_zb _ _ _ h)
      have HX : Hid (Bs v1 (some ⟨g, 0, none⟩) K (fun j => nb (zb (zb β ends) ends) (8 * j) 8)) := X
      generalize (fun j => nb (zb (zb β ends) ends) (8 * j) 8) = h at *
      clear BY AN X zz R R2
      have K1 : K ≤ 800 := by omega
      go_upto_region 20 with (first
        | (go_at_call 16; with_reducible refine PD.mono ?_; rintro e v2 ⟨rfl, u2, R2, ST⟩; clear PD)
        | (go_at_call 21; with_reducible refine (LN _ _ R2).mono ?_; rintro e v3 ⟨rfl, hb3⟩; have R3 := R2.later hb3; clear LN R2)
        | (go_at_call 20; with_reducible refine (B2 _ _ R3).mono ?_; rintro e v4 ⟨g2, rfl, A4⟩; have X4 := ((HX.out.chg ST.chg gn).later hb3).later A4.ext; have SB4 := SB _ _ _ X4 A4; clear SB R3 B2)
        | (go_at_call 23; with_reducible refine SB4.mono ?_; rintro e v5 ⟨rfl, hb5⟩; clear SB4))
      obtain ⟨E2, _⟩ := ST.over E1 hin
      replace E2 := ((E2.trans hb3).trans A4.ext).trans hb5
      have HX5 : Hid (Bs v5 (some ⟨g, 0, none⟩) K h) := X4.later hb5
      clear X4 hb3 hb5 A4 ST HX E1 EX gn hin
      go_loopg [7, 8] i (fun gk tv iv wr => ∃ j t : Nat, j + gk = i ∧ t = pl M j ∧ tv = .int .i64 t ∧ iv = .int .i64 j ∧ Ext v5 wr)
      case atStart => exact ⟨0, 0, by omega, rfl, rfl, rfl, Ext.refl _⟩
      case round =>
        obtain ⟨j, t, hj, ht, rfl, rfl, E5⟩ := hrel
        by_cases hlt2 : j < i
        · have hji : (j : Int) < (i : Int) := by omega
          obtain ⟨b, q, rfl, hbw, hc⟩ := HB.out.some (by omega)
          obtain ⟨k0, k1⟩ := hc j hlt2
          obtain ⟨x0, x1⟩ := HB.out.val j hlt2
          obtain ⟨n1, n2, n3⟩ := HA.out j hlt2
          rw [n1] at k1
          have hp := HP.out j hlt2
          have hv := HNM.out j hlt2
          rw [← ht] at hp hv
          have HT : Hid (t + M j = pl M (j + 1)) := by rw [ht]; rfl
          have G := fun (v : World) (e : Ext v5 v) => got_yes (some ⟨g, 0, none⟩) K K t (M j) h (V j) v (HX5.out.later e) n2 (by omega) (by rw [XN.out _ _ hp]; exact hv)
          clear hc n3 hv ht n1
          generalize V j = x at *
          generalize M j = m at *
          obtain ⟨v, hv⟩ : ∃ v, v = wr := ⟨_, rfl⟩
          subst hv
          have c0 := (E2.trans E5).later k0
          have c1 := (E2.trans E5).later k1
          have GG := fun x' : Grow v => G _ (E5.trans x'.ext)
          go_upto_region 22 with fail
          have g0 := fun x' : Grow v => x'.ext.later c0
          have g1 := fun x' : Grow v => x'.ext.later c1
          refine wp_region_grow (by kernel_rfl) (by kernel_rfl) ?_; (repeat (first | go_big_quiet_step ((go_at_call 28; with_reducible exact calls_grow (GG _))) | go_big_quiet_step (fail))); refine wpQuiet_nil ?_; clear g0 g1 GG; rintro _ ⟨xq, rfl⟩; replace E5 := Ext.trans E5 xq.ext; generalize xq.out = v6 at *
          clear c0 c1
          have c0 := (E2.trans E5).later k0
          have c1 := (E2.trans E5).later k1
          by_cases q1 : 8 * K < t + m + 8
          · have q1i : 8 * (K : Int) - 8 < (t : Int) + (m : Int) := by omega
            by_cases q2 : 0 < m
            · have q2i : (0 : Int) < (m : Int) := by omega
              obtain ⟨K', hK'⟩ : ∃ K', K = K' + 1 := ⟨K - 1, by omega⟩
              have hKs : (K : Int) - 1 = (K' : Int) := by omega
              have hts : (t : Int) + (m : Int) - (m : Int) = (t : Int) := by omega
              have NO := fun w => no_short (some ⟨g, 0, none⟩) K' K t m (by omega) (by omega) n2 (by omega) w
              have hK2 : K' ≤ K := by omega
              go_upto_region 25 with fail
              have g0 := fun x' : Grow v6 => x'.ext.later c0
              have g1 := fun x' : Grow v6 => x'.ext.later c1
              have d1 : decide (8 * (K : Int) - 8 < (t : Int) + (m : Int)) = true := decide_eq_true (by omega)
              have d2 : decide ((0 : Int) < (m : Int)) = true := decide_eq_true (by omega)
              have d3 : decide (0 < m) = true := decide_eq_true q2
              clear q1i q1 hK'
              refine wp_region_grow (by kernel_rfl) (by kernel_rfl) ?_; (repeat (first | go_big_quiet_step ((go_at_call 29; with_reducible exact calls_grow (NO _))) | go_big_quiet_step (fail))); refine wpQuiet_nil ?_; clear g0 g1; rintro _ ⟨xq, rfl⟩; replace E5 := Ext.trans E5 xq.ext; generalize xq.out = v7 at *
              go_wp2
              go_roundg (gk - 1)
              case measure => omega
              case rel => exact ⟨j + 1, t + m, by omega, HT.out, by go_num, by go_num, E5⟩
            · have q2i : ¬ (0 : Int) < (m : Int) := by omega
              go_upto_region 25 with fail
              have g0 := fun x' : Grow v6 => x'.ext.later c0
              have g1 := fun x' : Grow v6 => x'.ext.later c1
              refine wp_region_grow (by kernel_rfl) (by kernel_rfl) ?_; (repeat (first | go_big_quiet_step (fail))); refine wpQuiet_nil ?_; clear g0 g1; rintro _ ⟨xq, rfl⟩; replace E5 := Ext.trans E5 xq.ext; generalize xq.out = v7 at *
              go_wp2
              go_roundg (gk - 1)
              case measure => omega
              case rel => exact ⟨j + 1, t + m, by omega, HT.out, by go_num, by go_num, E5⟩
          · have q1i : ¬ 8 * (K : Int) - 8 < (t : Int) + (m : Int) := by omega
            go_upto_region 25 with fail
            have g0 := fun x' : Grow v6 => x'.ext.later c0
            have g1 := fun x' : Grow v6 => x'.ext.later c1
            refine wp_region_grow (by kernel_rfl) (by kernel_rfl) ?_; (repeat (first | go_big_quiet_step (fail))); refine wpQuiet_nil ?_; clear g0 g1; rintro _ ⟨xq, rfl⟩; replace E5 := Ext.trans E5 xq.ext; generalize xq.out = v7 at *
            go_wp2
            go_roundg (gk - 1)
            case measure => omega
            case rel => exact ⟨j + 1, t + m, by omega, HT.out, by go_num, by go_num, E5⟩
        · have hji : ¬ (j : Int) < (i : Int) := by omega
          go_wp2_with (first | (go_at_call 9; with_reducible refine (hL _).mono ?_; rintro e v3 ⟨rfl, hb3⟩))
          go_ret
          exact ⟨rfl, (E2.trans E5).trans hb3⟩
end Go.Proofs.Ythnmofnlcepffaa
