/- The law BitsRow, walked. -/
import Derived.Test.YthnmofnlcepffaaBitT
namespace Go.Proofs.Ythnmofnlcepffaa
open Go.RowKit Go.BigFrame
set_option linter.unusedSimpArgs false
set_option linter.unusedVariables false
set_option maxRecDepth 20000 in
set_option maxHeartbeats 16000000 in
theorem row_law (a : Option Addr) (L c : Nat) (V N : Nat → Int) (w : World) (B : Ld w a L V N) :
    Calls Try.prog 4 #[.slice a L c] w fun e w' => e = .returned (.bool true) ∧ Ext w w' := by
  have hL := lives_any
  have hLen := B.len
  by_cases hb : 200 < L
  · have hbi : (200 : Int) < (L : Int) := by omega
    have EX := Ext.refl w
    go_enter Try.func4, Try.ntmps4
    go_wp2_with (first | (go_at_call 9; with_reducible refine (hL _).mono ?_; rintro e w' ⟨rfl, hb⟩; replace EX := EX.trans hb))
    go_ret
    exact ⟨rfl, EX⟩
  have hbi : ¬ (200 : Int) < (L : Int) := by omega
  have hN := new_any w
  have hM := rnew_any
  have HB : Hid (Ld w a L V N) := B
  clear B
  go_enter Try.func4, Try.ntmps4
  go_upto_region 6 with (first | (go_at_call 14; with_reducible refine hN.mono ?_; rintro e v1 ⟨rfl, E1, HR⟩) | (go_at_call 15; with_reducible refine (hM _).mono ?_; rintro e v2 ⟨rfl, E2, HQ⟩))
  refine rebase (G := fun w' => Code.wp _ _ _ _ w') _ (fun v => ∃ sh, RowSo w v2.heap.size (w.heap.size + 1) sh v1.heap.size 0 v) ⟨_, rs_start E1 E2 HR HQ (by rfl)⟩ ?_
  clear hN hM HR HQ E2 E1
  generalize v2.heap.size = k
  generalize v1.heap.size = m
  generalize w.heap.size + 1 = r
  rintro v ⟨sh, HS⟩
  go_upto_region 7 with fail
  go_loopg [6] L (fun gk iv wr => ∃ i : Nat, i + gk = L ∧ iv = .int .i64 i ∧ RowSo w k r sh m i wr)
  case atStart => exact ⟨0, by omega, rfl, HS⟩
  case round =>
    clear HS
    obtain ⟨i, hi, rfl, u, um, ub, β, n, G, LL, S, hn⟩ := hrel
    by_cases hlt : i < L
    · have hii : (i : Int) < (L : Int) := by omega
      obtain ⟨b, q, rfl, hbw, hc⟩ := HB.out.some (by omega)
      obtain ⟨k0, k1⟩ := hc i hlt
      obtain ⟨x0, x1⟩ := HB.out.val i hlt
      have ni := HB.out.num i hlt
      clear hc
      generalize V i = x at *
      generalize N i = y at *
      obtain ⟨v0, hv0⟩ : ∃ v0, v0 = wr := ⟨_, rfl⟩
      subst hv0
      have c0 := S.ext.later k0
      have c1 := S.ext.later k1
      have hn6 : n ≤ 6400 := by omega
      have hb1 : ¬ In r sh u b := fun h => by have := S.n1 b h; omega
      have hb2 : ¬ In2 m um b := fun h => by have := S.n2 b h; omega
      have HS : Hid (Rs w v0 k r sh m u um ub β n β n i G LL) := S
      by_cases hy : y = -1
      case' pos =>
        have S' := S.congr (zb_bits S.row.bits n) (fun j hj => (if_pos hj).symm)
        have P1 := pad_any r sh n u _ v0 S'.row (fun j h1 h2 => if_neg (by omega))
        have P2 := fun v1 um (R : RR v1 m um (zb β n) n) => rpad_any m n um _ v1 R (fun j h1 h2 => if_neg (by omega))
        have HS' : Hid (Rs w v0 k r sh m u um ub (zb β n) n (zb β n) n i G LL) := S'
        have hn' : n + 7 * n % 8 ≤ 32 * (i + 1) := by omega
        clear S S' HS
        generalize n + 7 * n % 8 = n2 at *
        subst hy
        go_upto_region 16 with (first
          | (go_at_call 16; with_reducible refine P1.mono ?_; rintro e v1 ⟨rfl, u1, R1, T1⟩; have S1 := HS'.out.put R1 T1; have P3 := P2 _ _ S1.ref; clear P1 P2)
          | (go_at_call 17; with_reducible refine P3.mono ?_; rintro e v2 ⟨rfl, u2, R2, T2⟩; have S2 := S1.put2 R2 T2; clear P3))
      case' neg =>
        have hye : (y == -1) = false := by simp; exact hy
        obtain ⟨e0, δ, n2, hn', S', P1, P2⟩ : ∃ (e0 : Int) (δ : Nat → Int) (n2 : Nat), n2 ≤ 32 * (i + 1) ∧ Rs w v0 k r sh m u um ub δ n δ n i G LL ∧
            (∀ v', Ext v0 v' → Calls Try.prog 18 #[.pointer (some ⟨r, 0, none⟩), .int .u32 x, .int .i64 y] v' fun e w' => e = .returned (.int .i64 e0) ∧ ∃ u', Row w' r sh u' δ n2 ∧ Stp v' w' r sh u u') ∧
            (∀ v' um, RR v' m um δ n → Calls Try.prog 19 #[.pointer (some ⟨m, 0, none⟩), .int .u32 x, .int .i64 y] v' fun e w' => e = .returned (.int .i64 e0) ∧ ∃ u', RR w' m u' δ n2 ∧ Stp2 v' w' m um u') := by
          by_cases hok : 0 ≤ y ∧ y ≤ 32 ∧ x < 2 ^ y.toNat
          · obtain ⟨M, rfl⟩ := Int.eq_ofNat_of_zero_le hok.1
            have hm32 : M ≤ 32 := by omega
            have hv2 : x < 2 ^ M := hok.2.2
            have S' := S.congr (ex_bits S.row.bits n x M) (fun j hj => (ex_lt _ _ _ _ hj).symm)
            exact ⟨0, _, n + M, by omega, S', fun v' e => put_any r sh n M u _ x v' (S'.row.later e) hm32 (nb_ex _ _ _ _ x0 hv2) (by omega), fun v' um R => rput_any m n M um _ x v' R hm32 (nb_ex _ _ _ _ x0 hv2) (by omega)⟩
          · have hbad : y < 0 ∨ 32 < y ∨ (0 ≤ y ∧ y ≤ 32 ∧ 2 ^ y.toNat ≤ x) := by omega
            exact ⟨1, β, n, by omega, S, fun v' e => (put_arg r sh n u β x y v' (S.row.later e) x0 x1 ni hbad).mono fun e w' h => ⟨h.1, u, S.row.later (Ext.trans (by assumption) h.2), Stp.of _ _ _ h.2⟩,
              fun v' um R => (rput_arg _ x y v' x0 x1 ni hbad).mono fun e w' h => ⟨h.1, um, R.later h.2, Stp2.of _ _ h.2⟩⟩
        have HS' : Hid (Rs w v0 k r sh m u um ub δ n δ n i G LL) := S'
        clear S S' HS hy
        go_upto_region 14 with fail
        have g0 := fun x' : Alt (In r sh u) v0 => x'.cell hb1 c0
        have g1 := fun x' : Alt (In r sh u) v0 => x'.cell hb1 c1
        refine wp_region_reads (fun i => decide (i < 11)) 2 13 (fun w' => ∃ x : Alt (In r sh u) v0, w' = x.out) (by kernel_rfl) (by kernel_rfl) (fun c a x v w h => by cases x <;> exact h) ⟨⟨v0.drew, (Chg.refl _ v0).drew⟩, rfl⟩ ?_
        intro l1 l2 h1 h2
        simp [pickB] at h1 h2
        subst h1 h2
        (repeat (first | go_big_quiet_step (fail))); refine wpQuiet_nil ?_; clear g0 g1
        refine hold_step (n := 1) fun K hK => ?_
        have ED := Ext.drew (Ext.refl v0)
        go_wp2_with (first | (go_at_call 18; with_reducible refine (P1 _ ED).mono ?_; rintro e v1 ⟨rfl, u1, R1, T1⟩))
        refine hK _ _ ⟨⟨v1, (((Chg.refl _ v0).drew).trans T1.chg (fun i hi => .inl hi))⟩, rfl⟩ ?_
        clear hK K
        refine hold_step (n := 0) fun K hK => ?_
        go_wp2
        refine hK _ _ ⟨⟨v1, (((Chg.refl _ v0).drew).trans T1.chg (fun i hi => .inl hi))⟩, rfl⟩ ?_
        clear hK K
        refine hold_done ?_
        have S1 := (HS'.out.later ED).put R1 T1
        clear c0 c1 P1
        have c0 := S1.ext.later k0
        have c1 := S1.ext.later k1
        have ED1 := Ext.drew (Ext.refl v1)
        have P3 := P2 _ _ (S1.ref.later ED1)
        clear P2 R1 T1 HS'
        go_upto_region 15 with fail
        have g0 := fun x' : Alt (In2 m um) v1 => x'.cell hb2 c0
        have g1 := fun x' : Alt (In2 m um) v1 => x'.cell hb2 c1
        refine wp_region_reads (fun i => decide (i < 11)) 2 13 (fun w' => ∃ x : Alt (In2 m um) v1, w' = x.out) (by kernel_rfl) (by kernel_rfl) (fun c a x v w h => by cases x <;> exact h) ⟨⟨v1.drew, (Chg.refl _ v1).drew⟩, rfl⟩ ?_
        intro l1 l2 h1 h2
        simp [pickB] at h1 h2
        subst h1 h2
        (repeat (first | go_big_quiet_step (fail))); refine wpQuiet_nil ?_; clear g0 g1
        refine hold_step (n := 1) fun K hK => ?_
        go_wp2_with (first | (go_at_call 19; with_reducible refine P3.mono ?_; rintro e v2 ⟨rfl, u2, R2, T2⟩))
        refine hK _ _ ⟨⟨v2, (((Chg.refl _ v1).drew).trans T2.chg (fun i hi => .inl hi))⟩, rfl⟩ ?_
        clear hK K
        refine hold_step (n := 0) fun K hK => ?_
        go_wp2
        refine hK _ _ ⟨⟨v2, (((Chg.refl _ v1).drew).trans T2.chg (fun i hi => .inl hi))⟩, rfl⟩ ?_
        clear hK K
        refine hold_done ?_
        have S2 := (S1.later ED1).put2 R2 T2
        clear c0 c1 P3 R2 T2 S1
        go_upto_region 16 with fail
      all_goals
        have hn7 : n2 ≤ 6432 := by omega
        obtain ⟨K, hK⟩ : ∃ K, (n2 + 7) / 8 = K := ⟨_, rfl⟩
        have hbits := S2.row.bits
        have BY := bytes_lit r sh n2 u1 _ v2 S2.row K hK
        go_upto_region 17 with (first | (go_at_call 20; with_reducible refine BY.mono ?_; rintro e v3 ⟨g, rfl, AN⟩))
        clear BY
        have S3 := S2.later AN.ext
        have X := bs_ans hbits AN (by omega)
        have g1 : ¬ In r sh u1 g := fun h => by have := S2.row.lt g h; have := AN.new; omega
        have g2 : ¬ In2 m u2 g := fun h => by have := S2.ref.lt g h; have := AN.new; omega
        have g3 : ¬ In3 k ub i G g := fun h => by have := S2.book.lt g h; have := AN.new; omega
        have g4 : w.heap.size ≤ g := by have := S2.ext.more; have := AN.new; omega
        have LN := len_any r sh n2 u1 _ v3 S3.row
        have LM := fun v' (e : Ext v3 v') => rlen_any m n2 u2 _ v' (S3.ref.later e)
        have BM := fun v' (e : Ext v3 v') => rbytes_lit m n2 K u2 _ v' (S3.ref.later e) hK
        have SB := fun v' a c (e : Ext v3 v') (Y : Bs v' a K _) => sameBytes_yes (some ⟨g, 0, none⟩) a K K c _ _ v' (X.later e) Y (fun _ _ => rfl)
        have BB := fun v' (e : Ext v3 v') => book_bytes k i g K ub G LL _ v' (S3.book.later e) (by omega) (AN.row.of_block (e.block g AN.row.lt)) g3 (by omega)
        have HS3 : Hid (Rs w v3 k r sh m u1 u2 ub _ n2 _ n2 i G LL) := S3
        clear S3 S2 X AN hbits
        go_wp2_with (first
          | (go_at_call 21; with_reducible refine LN.mono ?_; rintro e v4 ⟨rfl, e4⟩; clear LN)
          | (go_at_call 22; with_reducible refine (LM _ e4).mono ?_; rintro e v5 ⟨rfl, e5⟩; have E5 := e4.trans e5; clear LM)
          | (go_at_call 24; with_reducible refine (BM _ E5).mono ?_; rintro e v6 ⟨a6, c6, rfl, e6, Y6⟩; have E6 := E5.trans e6; have SB6 := SB _ _ c6 E6 Y6; clear BM SB)
          | (go_at_call 23; with_reducible refine SB6.mono ?_; rintro e v7 ⟨rfl, e7⟩; have E7 := E6.trans e7; have BB7 := BB _ E7; clear SB6 BB)
          | (go_at_call 25; with_reducible refine BB7.mono ?_; rintro e v8 ⟨rfl, ub8, B8, C8, h8⟩; clear BB7))
        go_roundg (gk - 1)
        case measure => omega
        case rel => exact ⟨i + 1, by omega, by go_num, _, _, _, _, _, _, _, (HS3.out.later E7).add B8 C8 h8 g1 g2 g4, hn'⟩
    · have hii : ¬ (i : Int) < (L : Int) := by omega
      obtain rfl : i = L := by omega
      have hn7 : n ≤ 6400 := by omega
      obtain ⟨K, hK⟩ : ∃ K, (n + 7) / 8 = K := ⟨_, rfl⟩
      have hbits := S.row.bits
      have AP := apart_any k i ub G LL wr S.book
      have BY := fun v' (R : Row v' r sh u β n) => bytes_lit r sh n u β v' R K hK
      have BM := fun v' (R : RR v' m um β n) => rbytes_lit m n K um β v' R hK
      have SB := fun v1 v2 v' g a c (A : Ans v1 v2 g K (fun i => nb (zb β n) (8 * i) 8)) (e : Ext v2 v') (Y : Bs v' a K _) => sameBytes_yes (some ⟨g, 0, none⟩) a K K c _ _ v' ((bs_ans hbits A (by omega)).later e) Y (fun _ _ => rfl)
      have HS : Hid (Rs w wr k r sh m u um ub β n β n i G LL) := S
      clear S
      go_wp2_with (first
        | (go_at_call 26; with_reducible refine AP.mono ?_; rintro e v1 ⟨rfl, C1⟩; obtain ⟨R1, Q1, E1⟩ := HS.out.apart C1; have BY1 := BY _ R1; clear AP BY R1)
        | (go_at_call 20; with_reducible refine BY1.mono ?_; rintro e v2 ⟨g, rfl, AN⟩; have BM2 := BM _ (Q1.later AN.ext); clear BY1 BM Q1)
        | (go_at_call 24; with_reducible refine BM2.mono ?_; rintro e v3 ⟨a3, c3, rfl, e3, Y3⟩; have SB3 := SB _ _ _ _ _ c3 AN e3 Y3; clear BM2 SB)
        | (go_at_call 23; with_reducible refine SB3.mono ?_; rintro e v4 ⟨rfl, e4⟩; clear SB3)
        | (go_at_call 9; with_reducible refine (hL _).mono ?_; rintro e v5 ⟨rfl, e5⟩))
      go_ret
      exact ⟨rfl, (((E1.trans AN.ext).trans e3).trans e4).trans e5⟩
end Go.Proofs.Ythnmofnlcepffaa
