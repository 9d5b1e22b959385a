/- What the given functions both, Sin and Cos of gouacheref05 do, called at any angle. -/
import Derived.Test.YthfgeopldbcniaaAngH
namespace Go.Proofs.Ythfgeopldbcniaa
open Go.RowKit Go.BigFrame
set_option linter.unusedSimpArgs false
set_option linter.unusedVariables false
theorem part_bit (r k : Nat) (hk : k < 40) : part r / 2 ^ (39 - k) = r * 2 ^ (k + 1) / 5898240 := by
  unfold part
  rw [Nat.div_div_eq_div_mul, show r * 1099511627776 = r * 2 ^ (k + 1) * 2 ^ (39 - k) by rw [Nat.mul_assoc, ← Nat.pow_add, show k + 1 + (39 - k) = 40 by omega], Nat.mul_div_mul_right _ _ (Nat.two_pow_pos _)]
theorem twice_bit (m : Nat) : (5898240 ≤ 2 * (m % 5898240) → 2 * m / 5898240 % 2 = 1 ∧ 2 * m % 5898240 = 2 * (m % 5898240) - 5898240) ∧ (¬ 5898240 ≤ 2 * (m % 5898240) → ¬ 2 * m / 5898240 % 2 = 1 ∧ 2 * m % 5898240 = 2 * (m % 5898240)) := by omega
theorem step_bit (r k : Nat) (hk : k < 40) : (5898240 ≤ 2 * (r * 2 ^ k % 5898240) → part r / 2 ^ (39 - k) % 2 = 1 ∧ r * 2 ^ (k + 1) % 5898240 = 2 * (r * 2 ^ k % 5898240) - 5898240) ∧ (¬ 5898240 ≤ 2 * (r * 2 ^ k % 5898240) → ¬ part r / 2 ^ (39 - k) % 2 = 1 ∧ r * 2 ^ (k + 1) % 5898240 = 2 * (r * 2 ^ k % 5898240)) := by
  rw [part_bit r k hk, show r * 2 ^ (k + 1) = 2 * (r * 2 ^ k) by rw [Nat.pow_succ, ← Nat.mul_assoc, Nat.mul_comm]]
  exact twice_bit _

set_option maxRecDepth 20000 in
set_option maxHeartbeats 16000000 in
theorem both5_walk (a : Int) (a0 : -2147483648 ≤ a) (a1 : a ≤ 2147483647) (g : Nat → Int × Int) (hg : Hid (g = arcAt)) (f : Nat) (hf : Hid (f = part (rr a))) (X Y : Int) (hX : Hid (X = (csa a).1 ∧ Y = (csa a).2))
    (TN : ∀ w, Calls Try.prog 21 #[] w fun e w' => (∃ b c : Nat, e = .returned (.slice (some ⟨b, 0, none⟩) 41 c) ∧ w.heap.size ≤ b ∧ Vm w' b 82 (arcV g)) ∧ Ext w w')
    (w : World) :
    Calls Try.prog 27 #[.int .i32 a] w fun e w' => e = .returned (.tuple #[.int .i32 X, .int .i32 Y]) ∧ Ext w w' := by
  have EX := Ext.refl w
  go_enter Try.func27, Try.ntmps27
  go_wp2
  go_loopg [5] 92 (fun gk rv wr => ∃ r j : Int, rv = .int .i64 r ∧ r = a + 23592960 * j ∧ -2147483648 ≤ r ∧ r ≤ 2147483647 ∧ -r ≤ 23592960 * (gk : Int) ∧ Ext w wr)
  case atStart => exact ⟨a, 0, rfl, by omega, a0, a1, by omega, EX⟩
  case round =>
    obtain ⟨r, j, rfl, hr, r0, r1, rg, EX⟩ := hrel
    have HR : Hid (r = a + 23592960 * j) := hr
    clear hr
    by_cases hlt : r < 0
    · go_wp2
      go_roundg (gk - 1)
      case measure => omega
      case rel => exact ⟨r + 23592960, j + 1, rfl, by have := HR.out; omega, by omega, by omega, by omega, EX⟩
    · have r2 : 0 ≤ r := by omega
      clear rg r0
      go_wp2
      go_loopg [4, 5] 365 (fun gk qv rv wr => ∃ q s : Int, qv = .int .i64 q ∧ rv = .int .i64 s ∧ 0 ≤ s ∧ 0 ≤ q ∧ q ≤ 400 ∧ Hid (s + 5898240 * q = r) ∧ s < 5898240 * ((gk : Int) + 1) ∧ Ext w wr)
      case atStart => exact ⟨0, r, rfl, rfl, r2, by omega, by omega, (show r + 5898240 * 0 = r by omega), by omega, EX⟩
      case round =>
        obtain ⟨q, s, rfl, rfl, s0, q0, q4, HQ, sg, EX⟩ := hrel
        have q5 : q ≤ 365 := by have := HQ.out; omega
        have s9 : s ≤ 2147483647 := by have := HQ.out; omega
        by_cases hlt2 : 5898240 ≤ s
        · go_wp2
          go_roundg (gk - 1)
          case measure => omega
          case rel => exact ⟨q + 1, s - 5898240, rfl, rfl, by omega, by omega, by omega, (show s - 5898240 + 5898240 * (q + 1) = r by have := HQ.out; omega), by omega, EX⟩
        · have HT : Hid (s = (rr a : Int) ∧ q % 4 = ((qr a : Nat) : Int)) := ⟨by have := HQ.out; have := HR.out; unfold rr; omega, by have := HQ.out; have := HR.out; unfold qr; omega⟩
          clear sg HQ HR q4 hlt r1 r2
          obtain ⟨v, hv⟩ : ∃ v, v = wr := ⟨_, rfl⟩
          subst hv
          have s5 : s < 5898240 := by omega
          go_upto_region 9 with (first | (go_at_call 21; go_loud (with_reducible refine (TN _).mono ?_; rintro e' v1 ⟨⟨b1, c1, rfl, hb1, VT⟩, hb⟩; have hbw : w.heap.size ≤ b1 := (by have := EX.more; omega); replace EX := Ext.trans EX hb; clear hb hb1 v; rename World => v)))
          have VTdg := VT.dg; have VTfz := VT.fz; have VTlt := VT.lt
          go_upto_region 10 with fail
          refine rebase (G := fun w' => Code.wp _ _ _ _ w') _ (fun v1 => Ext w v1 ∧ Vm v1 (b1) (82) (arcV g) ∧ S2m v1 (v.heap.size) (.int .i64 4611686018427387904) (.int .i64 0)) ⟨by repeat (first | with_reducible exact EX | with_reducible refine Ext.alloc ?_ _ | with_reducible refine Ext.drew ?_ | with_reducible refine Ext.drewN ?_ _ | with_reducible refine Ext.setCell ?_ (by first | (simp; done) | omega | (dsimp only; omega)) _), by repeat (first | with_reducible assumption | with_reducible refine Vm.drew ?_ | with_reducible refine Vm.drewN ?_ _ | (with_reducible refine Vm.skip ?_ ?_; focus (first | omega | (simp; done))) | with_reducible refine Vm.alloc ?_ _), by repeat (first | with_reducible assumption | with_reducible refine S2m.drew ?_ | with_reducible refine S2m.drewN ?_ _ | (with_reducible refine S2m.skip ?_ ?_; focus (first | omega | (simp; done))) | with_reducible refine S2m.store ?_ | with_reducible refine S2m.set0 ?_ _ | with_reducible refine S2m.set1 ?_ _ | with_reducible refine S2m.new (by first | rfl | (simp; done) | with_unfolding_all rfl) (by with_unfolding_all rfl) (by with_unfolding_all rfl) | with_reducible refine S2m.alloc ?_ _ | exact S2m.any (by with_reducible assumption) | with_reducible refine S2mAny.drew ?_ | with_reducible refine S2mAny.drewN ?_ _ | (with_reducible refine S2mAny.skip ?_ ?_; focus (first | omega | (simp; done))) | with_reducible refine S2mAny.alloc ?_ _)⟩ ?_; have qVT := VT.lt; have qw := EX.more; clear VTdg VTfz VTlt; clear EX VT; rintro v1 ⟨EX, VT, PB⟩; obtain ⟨b2, hb2⟩ : ∃ b, v.heap.size = b := ⟨_, rfl⟩; rw [hb2] at qVT qw PB ⊢; clear hb2; clear v; rename World => v; have VTdg := VT.dg; have VTfz := VT.fz; have VTlt := VT.lt; have PBc0 := PB.c0; have PBc1 := PB.c1; have PBfz := PB.fz; have PBlt := PB.lt
          go_wp2
          go_loopg [5, 8] 40 (fun gk rv iv wr => ∃ (k : Nat) (z : Int × Int) (t x y : Int), k + gk = 40 ∧ iv = .int .i64 ((k : Int) + 1) ∧ rv = .int .i64 t ∧ 0 ≤ t ∧ t < 5898240 ∧ Hid (OnK f k (4611686018427387904, 0) z ∧ z = (x, y) ∧ t = ((rr a * 2 ^ k % 5898240 : Nat) : Int)) ∧ Ext w wr ∧ Vm wr (b1) (82) (arcV g) ∧ S2m wr (b2) (.int .i64 x) (.int .i64 y))
          case atStart => exact ⟨0, (4611686018427387904, 0), s, _, _, rfl, rfl, rfl, s0, s5, ⟨OnK.start f, rfl, by have := HT.out.1; have := rr_lt a; rw [Nat.pow_zero, Nat.mul_one, Nat.mod_eq_of_lt (rr_lt a)]; omega⟩, EX, VT, PB⟩
          case round =>
            clear VTdg VTfz VTlt PBc0 PBc1 PBfz PBlt
            clear EX VT PB v
            obtain ⟨k, z, t, x, y, hk, rfl, rfl, t0, t1, HZ, EX, VT, PB⟩ := hrel
            obtain ⟨v, hv⟩ : ∃ v, v = wr := ⟨_, rfl⟩
            subst hv
            by_cases hlt : k < 40
            · have hki : (k : Int) + 1 ≤ 40 := by omega
              have N1 := HZ.out.1.next hlt
              have SB := step_bit (rr a) k hlt
              rw [← hf.out] at SB
              have ht := HZ.out.2.2
              by_cases hb : 5898240 ≤ 2 * t
              · obtain ⟨sb1, sb2⟩ := SB.1 (by omega)
                rw [if_pos sb1] at N1
                have W1 := fun w => on5_any z (arcAt (k + 1)) HZ.out.1.bd (by decide) (arc_mem hlt) w
                obtain ⟨ox, hox⟩ : ∃ c, (on 4611686018427387904 z (arcAt (k + 1))).1 = c := ⟨_, rfl⟩
                obtain ⟨oy, hoy⟩ : ∃ c, (on 4611686018427387904 z (arcAt (k + 1))).2 = c := ⟨_, rfl⟩
                have HN : Hid (OnK f (k + 1) (4611686018427387904, 0) (ox, oy) ∧ 2 * t - 5898240 = ((rr a * 2 ^ (k + 1) % 5898240 : Nat) : Int)) := ⟨by rw [← hox, ← hoy]; exact N1, by rw [sb2, ht]; omega⟩
                rw [hox, hoy, ← hg.out, show z.1 = x by rw [HZ.out.2.1], show z.2 = y by rw [HZ.out.2.1]] at W1
                have JT := VT.at (i := (k + 1) * 2) (by omega)
                rw [arcV_0, arcV_1] at JT
                generalize (g (k + 1)).1 = c at *
                generalize (g (k + 1)).2 = s at *
                clear SB sb1 sb2 N1 ht HZ hox hoy
                have VTdg := VT.dg; have VTfz := VT.fz; have VTlt := VT.lt; have PBc0 := PB.c0; have PBc1 := PB.c1; have PBfz := PB.fz; have PBlt := PB.lt; have JTci := JT.ci; have JTcj := JT.cj; have JTfz := JT.fz; have JTlt := JT.lt
                go_upto_region 16 with fail
                refine wp_region_many 6 [] (fun i => false) (by kernel_rfl) (by kernel_rfl) (by kernel_rfl) (fun c a x v w h => by cases x <;> exact h) ?_ ?_ ?_; (focus (intro i o hi ho; simp at hi)); (focus (intro m hm; simp at hm)); intro B hB l' hl'; simp [dumbsM, dumbM, isNew] at hl'; subst hl'; have gVTdg := fun x' : Grow B => (VT.later (Ext.trans hB x'.ext)).dg; have gVTfz := fun x' : Grow B => (VT.later (Ext.trans hB x'.ext)).fz; have gVTlt := fun x' : Grow B => (VT.later (Ext.trans hB x'.ext)).lt; have gPBc0 := fun x' : Grow B => (PB.later (Ext.trans hB x'.ext)).c0; have gPBc1 := fun x' : Grow B => (PB.later (Ext.trans hB x'.ext)).c1; have gPBfz := fun x' : Grow B => (PB.later (Ext.trans hB x'.ext)).fz; have gPBlt := fun x' : Grow B => (PB.later (Ext.trans hB x'.ext)).lt; have gJTci := fun x' : Grow B => (JT.later (Ext.trans hB x'.ext)).ci; have gJTcj := fun x' : Grow B => (JT.later (Ext.trans hB x'.ext)).cj; have gJTfz := fun x' : Grow B => (JT.later (Ext.trans hB x'.ext)).fz; have gJTlt := fun x' : Grow B => (JT.later (Ext.trans hB x'.ext)).lt; (repeat (first | go_big_quiet_step ((go_at_call 50; with_reducible exact calls_grow (W1 _))) | go_big_quiet_step (fail))); refine wpQuiet_nil ?_; clear gVTdg gVTfz gVTlt gPBc0 gPBc1 gPBfz gPBlt gJTci gJTcj gJTfz gJTlt; clear hB B; intro bs v1 hv hms hne t ht; simp at ht; subst ht; simp only [puts, if_true]; clear hms hne; replace EX := Ext.trans EX hv; replace VT := VT.later hv; replace PB := PB.later hv; clear VTdg VTfz VTlt PBc0 PBc1 PBfz PBlt JTci JTcj JTfz JTlt; clear JT; clear hv v; clear bs; rename World => v; have VTdg := VT.dg; have VTfz := VT.fz; have VTlt := VT.lt; have PBc0 := PB.c0; have PBc1 := PB.c1; have PBfz := PB.fz; have PBlt := PB.lt
                go_wp2
                go_roundg (gk - 1)
                case measure => omega
                case rel =>
                  refine ⟨k + 1, (ox, oy), _, ox, oy, by omega, by go_num, rfl, by omega, by omega, ⟨HN.out.1, rfl, HN.out.2⟩, by repeat (first | with_reducible exact EX | with_reducible refine Ext.alloc ?_ _ | with_reducible refine Ext.drew ?_ | with_reducible refine Ext.drewN ?_ _ | with_reducible refine Ext.setCell ?_ (by first | (simp; done) | omega | (dsimp only; omega)) _), ?_, ?_⟩
                  · repeat (first | with_reducible assumption | with_reducible refine Vm.drew ?_ | with_reducible refine Vm.drewN ?_ _ | (with_reducible refine Vm.skip ?_ ?_; focus (first | omega | (simp; done))) | with_reducible refine Vm.alloc ?_ _)
                  · repeat (first | with_reducible assumption | with_reducible refine S2m.drew ?_ | with_reducible refine S2m.drewN ?_ _ | (with_reducible refine S2m.skip ?_ ?_; focus (first | omega | (simp; done))) | with_reducible refine S2m.store ?_ | with_reducible refine S2m.set0 ?_ _ | with_reducible refine S2m.set1 ?_ _ | with_reducible refine S2m.new (by first | rfl | (simp; done) | with_unfolding_all rfl) (by with_unfolding_all rfl) (by with_unfolding_all rfl) | with_reducible refine S2m.alloc ?_ _ | exact S2m.any (by with_reducible assumption) | with_reducible refine S2mAny.drew ?_ | with_reducible refine S2mAny.drewN ?_ _ | (with_reducible refine S2mAny.skip ?_ ?_; focus (first | omega | (simp; done))) | with_reducible refine S2mAny.alloc ?_ _)
              · obtain ⟨sb1, sb2⟩ := SB.2 (by omega)
                rw [if_neg sb1] at N1
                have HN : Hid (OnK f (k + 1) (4611686018427387904, 0) z ∧ z = (x, y) ∧ 2 * t = ((rr a * 2 ^ (k + 1) % 5898240 : Nat) : Int)) := ⟨N1, HZ.out.2.1, by rw [sb2, ht]; omega⟩
                clear SB sb1 sb2 N1 ht HZ
                go_wp2
                go_roundg (gk - 1)
                case measure => omega
                case rel => exact ⟨k + 1, z, _, x, y, by omega, by go_num, rfl, by omega, by omega, HN.out, EX, VT, PB⟩
            · have hki : ¬ ((k : Int) + 1 ≤ 40) := by omega
              have hk40 : k = 40 := by omega
              subst hk40
              have hz := HZ.out.1.done
              have bz := HZ.out.1.bd.parts
              rw [HZ.out.2.1] at hz bz
              have ez : azz 4611686018427387904 turns f (4611686018427387904, 0) = ZZ (part (rr a)) := by rw [hf.out]; rfl
              rw [ez] at hz
              have NX := fun w => near5_any x (by simp only at bz; omega) (by simp only at bz; omega) w
              have NY := fun w => near5_any y (by simp only at bz; omega) (by simp only at bz; omega) w
              have cs := csr_cases (qr a) (rr a)
              rw [← hz] at cs
              simp only at cs
              have bq := c46_quad (part (rr a))
              rw [← hz] at bq
              simp only at bq
              have e := hX.out
              unfold csa at e
              rw [← e.1, ← e.2] at cs
              obtain ⟨b0, b3, b4, b5⟩ := bq
              generalize c46 x = c at *
              generalize c46 y = s at *
              have hqq := HT.out.2
              have cs2 : (q % 4 = 0 ∧ Hid (X = c ∧ Y = s)) ∨ (q % 4 = 1 ∧ Hid (X = -s ∧ Y = c)) ∨ (q % 4 = 2 ∧ Hid (X = -c ∧ Y = -s)) ∨ (q % 4 = 3 ∧ Hid (X = s ∧ Y = -c)) := (by
                have := qr_lt a
                rcases cs with ⟨h1, h2, h3⟩ | ⟨h1, h2, h3⟩ | ⟨h1, h2, h3⟩ | ⟨h1, h2, h3⟩
                · exact .inl ⟨by omega, h2, h3⟩
                · exact .inr (.inl ⟨by omega, h2, h3⟩)
                · exact .inr (.inr (.inl ⟨by omega, h2, h3⟩))
                · exact .inr (.inr (.inr ⟨by omega, h2, h3⟩)))
              clear cs e hz ez bz HZ hqq HT hX VT
              have PBc0 := PB.c0; have PBc1 := PB.c1; have PBfz := PB.fz; have PBlt := PB.lt
              rcases cs2 with ⟨h1, h2⟩ | ⟨h1, h2⟩ | ⟨h1, h2⟩ | ⟨h1, h2⟩
              all_goals
                go_wp2_with (first | (go_at_call 51; with_reducible refine (NX _).mono ?_; rintro e v1 ⟨rfl, hb⟩; replace EX := Ext.trans EX hb; replace PB := PB.later hb; replace PBc0 := PB.c0; replace PBc1 := PB.c1; replace PBfz := PB.fz; replace PBlt := PB.lt; clear hb v; rename World => v) | (go_at_call 51; with_reducible refine (NY _).mono ?_; rintro e v1 ⟨rfl, hb⟩; replace EX := Ext.trans EX hb; replace PB := PB.later hb; replace PBc0 := PB.c0; replace PBc1 := PB.c1; replace PBfz := PB.fz; replace PBlt := PB.lt; clear hb v; rename World => v))
                go_ret2
                exact ⟨by rw [h2.out.1, h2.out.2]; rfl, EX⟩
theorem both5_any (a : Int) (a0 : -2147483648 ≤ a) (a1 : a ≤ 2147483647) (w : World) : Calls Try.prog 27 #[.int .i32 a] w fun e w' => e = .returned (.tuple #[.int .i32 (csa a).1, .int .i32 (csa a).2]) ∧ Ext w w' :=
  both5_walk a a0 a1 arcAt rfl (part (rr a)) rfl _ _ ⟨rfl, rfl⟩ turns5_any w
theorem sin5_any (a : Int) (a0 : -2147483648 ≤ a) (a1 : a ≤ 2147483647) (w : World) : Calls Try.prog 12 #[.int .i32 a] w fun e w' => e = .returned (.int .i32 (csa a).2) ∧ Ext w w' := by
  have EX := Ext.refl w
  have B := fun w => both5_any a a0 a1 w
  generalize (csa a).1 = x at *
  generalize (csa a).2 = y at *
  go_enter Try.func12, Try.ntmps12
  go_wp2_with (first | (go_at_call 27; with_reducible refine (B _).mono ?_; rintro e v1 ⟨rfl, hb⟩; replace EX := Ext.trans EX hb; clear hb))
  go_ret
  exact ⟨rfl, EX⟩
theorem cos5_any (a : Int) (a0 : -2147483648 ≤ a) (a1 : a ≤ 2147483647) (w : World) : Calls Try.prog 14 #[.int .i32 a] w fun e w' => e = .returned (.int .i32 (csa a).1) ∧ Ext w w' := by
  have EX := Ext.refl w
  have B := fun w => both5_any a a0 a1 w
  generalize (csa a).1 = x at *
  generalize (csa a).2 = y at *
  go_enter Try.func14, Try.ntmps14
  go_wp2_with (first | (go_at_call 27; with_reducible refine (B _).mono ?_; rintro e v1 ⟨rfl, hb⟩; replace EX := Ext.trans EX hb; clear hb))
  go_ret
  exact ⟨rfl, EX⟩
end Go.Proofs.Ythfgeopldbcniaa
