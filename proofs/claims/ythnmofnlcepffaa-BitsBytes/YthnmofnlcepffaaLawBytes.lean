/- The law BitsBytes, walked. -/
import Derived.Test.YthnmofnlcepffaaBitI
namespace Go.Proofs.Ythnmofnlcepffaa
open Go.RowKit Go.BigFrame
set_option linter.unusedSimpArgs false
set_option linter.unusedVariables false
set_option maxRecDepth 20000 in
set_option maxHeartbeats 8000000 in
theorem bytes_law (a : Option Addr) (L c y : Nat) (f : Nat → Int) (w : World) (B : Bs w a L f) (hy : y ≤ 255) :
    Calls Try.prog 8 #[.slice a L c, .int .u8 y] w fun e w' => e = .returned (.bool true) ∧ Ext w w' := by
  have hL := lives_any
  have hLen := B.len
  by_cases hb : 2000 < L
  · have hbi : (2000 : Int) < (L : Int) := by omega
    have EX := Ext.refl w
    go_enter Try.func8, Try.ntmps8
    go_wp2_with (first | (go_at_call 9; with_reducible refine (hL _).mono ?_; rintro e w' ⟨rfl, hb⟩; replace EX := EX.trans hb))
    go_ret
    exact ⟨rfl, EX⟩
  have hbi : ¬ (2000 : Int) < (L : Int) := by omega
  obtain ⟨k, hk⟩ : ∃ k : Nat, (y : Int) % 33 = (k : Int) := ⟨y % 33, by omega⟩
  have hk32 : k ≤ 32 := by omega
  have hN := new_any
  have HF : Hid (∀ i, i < L → nb (bt f) (8 * i) 8 = f i) := fun i hi => nb_byte i (B.byte i hi)
  have HM : Hid (∀ p n, nb (mv k (bt f)) (k + p) n = nb (bt f) p n) := fun p n => nb_mv _ _ _ _
  have HM0 : Hid (nb (mv k (bt f)) 0 k = 0) := nb_mv0 _ _
  have hb1 := bt_bits f
  have hb2 := mv_bits hb1 k
  have HB : Hid (Bs w a L f) := B
  clear B
  go_enter Try.func8, Try.ntmps8
  go_upto_region 6 with (first
    | (go_at_call 14; with_reducible refine (hN w).mono ?_; rintro e v1 ⟨rfl, E1, R1⟩)
    | (go_at_call 14; with_reducible refine (hN v1).mono ?_; rintro e v2 ⟨rfl, E2, R2⟩))
  obtain ⟨r, sr, o, so, u, hr, ho, T⟩ := two_new E1 R1 E2 R2 hb1 hb2
  rw [← hr, ← ho]
  clear hr ho E1 E2 R1 R2 v1 hN
  have P := two_put2 T k k 0 rfl hk32 HM0.out (by omega)
  clear T
  go_upto_region 9 with (first | (go_at_call 18; with_reducible refine P.mono ?_; rintro e v3 ⟨rfl, u2, T⟩))
  replace T : Two w v3 r sr u (bt f) 0 o so u2 (mv k (bt f)) k := by rw [← Nat.zero_add k]; simpa using T
  clear P v2
  go_loopg [8] L (fun gk iv wr => ∃ i : Nat, i + gk = L ∧ iv = .int .i64 i ∧ ∃ u u2, Two w wr r sr u (bt f) (8 * i) o so u2 (mv k (bt f)) (k + 8 * i))
  case atStart => exact ⟨0, by omega, rfl, u, u2, T⟩
  case round =>
    clear T u u2 v3
    obtain ⟨i, hi, rfl, u, u2, T⟩ := hrel
    by_cases hlt : i < L
    · have hii : (i : Int) < (L : Int) := by omega
      obtain ⟨b, q, rfl, hc⟩ := HB.out.some (by omega)
      have cell := hc i hlt
      have hx := HF.out i hlt
      obtain ⟨x0, x1⟩ := HB.out.byte i hlt
      have G := fun (v : World) (e : Ext w v) => got_int (some ⟨b, q, none⟩) L c (8 * i) 8 (8 * (i : Int)) 8 f (f i) v (HB.out.later e) (by omega) rfl (by omega) (by omega) hx
      have P1 := two_put1 T 8 8 (f i) rfl (by omega) hx (by omega)
      have P2 := fun v u (T : Two w v r sr u (bt f) (8 * i + 8) o so u2 (mv k (bt f)) (k + 8 * i)) => two_put2 T 8 8 (f i) rfl (by omega) (by rw [HM.out]; exact hx) (by omega)
      have c1 := T.ext.later cell
      clear hx hc T
      generalize f i = x at *
      go_wp2_with (first
        | (go_at_call 18; with_reducible refine P1.mono ?_; rintro e v1 ⟨rfl, u3, T1⟩; have c2 := T1.ext.later cell; clear P1 c1)
        | (go_at_call 18; with_reducible refine (P2 _ _ T1).mono ?_; rintro e v2 ⟨rfl, u4, T2⟩; have c3 := T2.ext.later cell; clear P2 c2 T1)
        | (go_at_call 28; with_reducible refine (G _ T2.ext).mono ?_; rintro e v3 ⟨rfl, hb3⟩))
      go_roundg (gk - 1)
      case measure => omega
      case rel => exact ⟨i + 1, by omega, by go_num, u3, u4, T2.later hb3⟩
    · have hii : ¬ (i : Int) < (L : Int) := by omega
      obtain rfl : i = L := by omega
      have BY := bytes_lit o so (k + 8 * i) u2 _ _ T.two ((k + 8 * i + 7) / 8) rfl
      obtain ⟨N, hN⟩ : ∃ N, (k + 8 * i + 7) / 8 = N := ⟨_, rfl⟩
      rw [hN] at BY
      go_upto_region 15 with (first | (go_at_call 20; with_reducible refine BY.mono ?_; rintro e v1 ⟨g, rfl, AN⟩))
      replace T := T.later AN.ext
      have X := bs_ans hb2 AN (by omega)
      have XN : Hid (∀ p n, p + n ≤ k + 8 * i → nb (bt (fun j => nb (zb (mv k (bt f)) (k + 8 * i)) (8 * j) 8)) p n = nb (mv k (bt f)) p n) := fun p n h => nb_ans hb2 h
      generalize (fun j => nb (zb (mv k (bt f)) (k + 8 * i)) (8 * j) 8) = h at *
      clear BY AN
      have HX : Hid (Bs v1 (some ⟨g, 0, none⟩) N h) := X
      clear X
      go_loopg [10] i (fun gk iv wr => ∃ j : Nat, j + gk = i ∧ iv = .int .i64 j ∧ Ext v1 wr)
      case atStart => exact ⟨0, by omega, rfl, Ext.refl _⟩
      case round =>
        obtain ⟨j, hj, rfl, EX⟩ := hrel
        by_cases hlt2 : j < i
        · have hji : (j : Int) < (i : Int) := by omega
          obtain ⟨b, q, rfl, hc⟩ := HB.out.some (by omega)
          have cell := EX.later (T.ext.later (hc j hlt2))
          obtain ⟨x0, x1⟩ := HB.out.byte j hlt2
          have G := fun (v : World) (e : Ext v1 v) => got_int (some ⟨g, 0, none⟩) N N (k + 8 * j) 8 ((k : Int) + 8 * (j : Int)) 8 h (f j) v (HX.out.later e) (by omega) rfl (by omega) (by omega) (by rw [XN.out _ _ (by omega), HM.out]; exact HF.out j hlt2)
          clear hc
          generalize f j = x at *
          go_wp2_with (first
            | (go_at_call 28; with_reducible refine (G _ EX).mono ?_; rintro e v3 ⟨rfl, hb3⟩))
          go_roundg (gk - 1)
          case measure => omega
          case rel => exact ⟨j + 1, by omega, by go_num, EX.trans hb3⟩
        · have hji : ¬ (j : Int) < (i : Int) := by omega
          have T2 := T.later EX
          have BY := bytes_lit r sr (8 * i) u _ _ T2.one i (by omega)
          have SB := fun v2 g (A : Ans _ v2 g i (fun j => nb (zb (bt f) (8 * i)) (8 * j) 8)) => sameBytes_yes (some ⟨g, 0, none⟩) a i i c _ f v2 (bs_ans hb1 A (by omega)) (HB.out.later (T2.ext.trans A.ext)) (fun j hj => by rw [nb_zb _ _ _ (by omega)]; exact HF.out j hj)
          have LN := fun v (e : Ext _ v) => len_lit o so (k + 8 * i) ((k : Int) + 8 * (i : Int)) u2 _ v (T2.two.later e) (by omega)
          have G := fun (v : World) (e : Ext v1 v) => got_int (some ⟨g, 0, none⟩) N N 0 k 0 k h 0 v (HX.out.later e) rfl rfl (by omega) (by omega) (by rw [XN.out _ _ (by omega)]; exact HM0.out)
          clear HX
          go_wp2_with (first
            | (go_at_call 20; with_reducible refine BY.mono ?_; rintro e v2 ⟨g2, rfl, AN⟩)
            | (go_at_call 23; with_reducible refine (SB _ _ AN).mono ?_; rintro e v3 ⟨rfl, hb3⟩; have e3 := AN.ext.trans hb3; clear hb3)
            | (go_at_call 21; with_reducible refine (LN _ e3).mono ?_; rintro e v4 ⟨rfl, hb4⟩; have e4 := e3.trans hb4; clear hb4)
            | (go_at_call 28; with_reducible refine (G _ (EX.trans e4)).mono ?_; rintro e v5 ⟨rfl, hb5⟩; have e5 := e4.trans hb5; clear hb5)
            | (go_at_call 9; with_reducible refine (hL _).mono ?_; rintro e w' ⟨rfl, hb⟩))
          go_ret
          exact ⟨rfl, (T2.ext.trans e5).trans hb⟩
end Go.Proofs.Ythnmofnlcepffaa
