/- What the given function Atan of gouacheref05 does, called at any place. -/
import Derived.Test.YthfgeopldbcniaaAngI
import Derived.Deep.CutBlock
import Derived.Deep.DeepCutAuto
namespace Go.Proofs.Ythfgeopldbcniaa
open Go.RowKit Go.BigFrame
set_option linter.unusedSimpArgs false
set_option linter.unusedVariables false
theorem atan5_zero (w : World) : Calls Try.prog 10 #[.int .i32 0, .int .i32 0] w fun e w' => e = .returned (.tuple #[.int .i32 0, .int .i64 12]) ∧ Ext w w' := by
  go_enter Try.func10, Try.ntmps10
  go_wp2
  go_ret2
  exact ⟨rfl, Ext.refl _⟩
/-- So often doubled. -/
def Dbl (U V u v : Int) (n : Nat) : Prop := u = U * ((2 ^ n : Nat) : Int) ∧ v = V * ((2 ^ n : Nat) : Int) ∧ ((2 ^ n : Nat) : Int) ≤ max u v ∧ max u v < 2305843009213693952
theorem Dbl.start {U V : Int} (h : 0 < max U V) (h2 : max U V < 2305843009213693952) : Dbl U V U V 0 := ⟨by simp, by simp, by simp; omega, h2⟩
theorem Dbl.next {U V u v : Int} {n : Nat} (h : Dbl U V u v n) (hl : max u v < 1152921504606846976) : Dbl U V (2 * u) (2 * v) (n + 1) := by
  obtain ⟨h1, h2, h3, h4⟩ := h
  have e (z : Int) : z * ((2 ^ (n + 1) : Nat) : Int) = 2 * (z * ((2 ^ n : Nat) : Int)) := by
    rw [Nat.pow_succ, Int.natCast_mul, ← Int.mul_assoc, Int.mul_comm]; rfl
  refine ⟨by rw [e, ← h1], by rw [e, ← h2], ?_, by omega⟩
  have := e 1
  rw [Int.one_mul, Int.one_mul] at this
  rw [this]
  omega
theorem Dbl.lt {U V u v : Int} {n : Nat} (h : Dbl U V u v n) : n ≤ 60 := by
  rcases Nat.lt_or_ge 60 n with t | t
  · exfalso
    have k : 2 ^ 61 ≤ 2 ^ n := Nat.pow_le_pow_right (by decide) t
    obtain ⟨_, _, h3, h4⟩ := h
    rw [show (2 : Nat) ^ 61 = 2305843009213693952 by decide] at k
    generalize 2 ^ n = z at *
    omega
  · exact t
theorem Dbl.lt' {U V u v : Int} {n : Nat} (h : Dbl U V u v n) (hl : max u v < 1152921504606846976) : n < 60 := by
  have := (h.next hl).lt
  omega
theorem Dbl.done {U V u v : Int} {n : Nat} (h : Dbl U V u v n) (hl : ¬ max u v < 1152921504606846976) : dm U V = n := by
  have hk : 0 < ((2 ^ n : Nat) : Int) := by have := Nat.two_pow_pos n; omega
  obtain ⟨h1, h2, _, h4⟩ := h
  have e := max_mul (u := U) (v := V) hk
  rw [← h1, ← h2] at e
  exact dm_eq (by omega) (by omega)

set_option maxRecDepth 20000 in
set_option maxHeartbeats 16000000 in
theorem atan5_walk (y0' x0' U V q : Int) (A : Int) (x0 : -2147483648 ≤ x0') (x1 : x0' ≤ 2147483647) (y0 : -2147483648 ≤ y0') (y1 : y0' ≤ 2147483647) (hz : ¬ (x0' = 0 ∧ y0' = 0)) (g : Nat → Int × Int) (hg : Hid (g = arcAt)) (hU : Hid (U = (uvq x0' y0').1 ∧ V = (uvq x0' y0').2 ∧ q = (qd x0' y0' : Int))) (hA : Hid (A = atn y0' x0'))
    (TN : ∀ w, Calls Try.prog 21 #[] w fun e w' => (∃ b c : Nat, e = .returned (.slice (some ⟨b, 0, none⟩) 41 c) ∧ w.heap.size ≤ b ∧ Vm w' b 82 (arcV g)) ∧ Ext w w')
    (w : World) :
    Calls Try.prog 10 #[.int .i32 y0', .int .i32 x0'] w fun e w' => e = .returned (.tuple #[.int .i32 A, .int .i64 0]) ∧ Ext w w' := by
  have EX := Ext.refl w
  go_enter Try.func10, Try.ntmps10
  go_upto_block 0 with fail
  go_cut [6, 7, 8] (fun s6 s7 s8 wc => s6 = .int .i64 U ∧ s7 = .int .i64 V ∧ s8 = .int .i64 q ∧ Ext w wc)
  case first =>
    have HU := hU.out
    unfold uvq qd at HU
    have hx : (x0' < 0 ∧ x0' ≤ 0 ∧ ¬ 0 < x0' ∧ ¬ 0 ≤ x0' ∧ (x0' == 0) = false) ∨ (¬ x0' < 0 ∧ x0' ≤ 0 ∧ ¬ 0 < x0' ∧ 0 ≤ x0' ∧ (x0' == 0) = true) ∨ (¬ x0' < 0 ∧ ¬ x0' ≤ 0 ∧ 0 < x0' ∧ 0 ≤ x0' ∧ (x0' == 0) = false) := by
      rcases Int.lt_trichotomy x0' 0 with h | h | h
      · exact .inl ⟨h, by omega, by omega, by omega, by simp; omega⟩
      · exact .inr (.inl ⟨by omega, by omega, by omega, by omega, by simp; omega⟩)
      · exact .inr (.inr ⟨by omega, by omega, h, by omega, by simp; omega⟩)
    have hy : (y0' < 0 ∧ y0' ≤ 0 ∧ ¬ 0 < y0' ∧ ¬ 0 ≤ y0' ∧ (y0' == 0) = false) ∨ (¬ y0' < 0 ∧ y0' ≤ 0 ∧ ¬ 0 < y0' ∧ 0 ≤ y0' ∧ (y0' == 0) = true) ∨ (¬ y0' < 0 ∧ ¬ y0' ≤ 0 ∧ 0 < y0' ∧ 0 ≤ y0' ∧ (y0' == 0) = false) := by
      rcases Int.lt_trichotomy y0' 0 with h | h | h
      · exact .inl ⟨h, by omega, by omega, by omega, by simp; omega⟩
      · exact .inr (.inl ⟨by omega, by omega, by omega, by omega, by simp; omega⟩)
      · exact .inr (.inr ⟨by omega, by omega, h, by omega, by simp; omega⟩)
    clear hU hA TN
    rcases hx with ⟨xa, xb, xc, xd, xe⟩ | ⟨xa, xb, xc, xd, xe⟩ | ⟨xa, xb, xc, xd, xe⟩ <;> rcases hy with ⟨ya, yb, yc, yd, ye⟩ | ⟨ya, yb, yc, yd, ye⟩ | ⟨ya, yb, yc, yd, ye⟩
    all_goals first
      | (exfalso; exact hz ⟨by omega, by omega⟩)
      | (simp only [xa, xb, xc, xd, ya, yb, yc, yd, and_self, and_true, true_and, and_false, false_and, if_true, if_false] at HU
         have HU' : Hid _ := HU
         clear HU hz
         go_wp2_with fail
         go_meet
         case rel => exact ⟨by rw [HU'.out.1], by rw [HU'.out.2.1], by rw [HU'.out.2.2]; rfl, EX⟩)
  case rest =>
    clear EX
    obtain ⟨h6, h7, h8, EX⟩ := hcut
    subst h6 h7 h8
    have p3 := uv_pos hz
    have p4 := uv_max hz
    rw [← hU.out.1, ← hU.out.2.1] at p3 p4
    have q3 : 0 ≤ q ∧ q ≤ 3 := ⟨by have := hU.out.2.2; omega, by have := hU.out.2.2; have := (uv_cm x0' y0').2.2; omega⟩
    obtain ⟨qa, qb⟩ := q3
    have D0 : Hid (Dbl U V U V 0) := Dbl.start p4.1 (by omega)
    have U0 : 0 ≤ U := p3.1
    have V0 : 0 ≤ V := p3.2.1
    clear p3 p4
    go_wp2
    go_loopg [6, 7] 60 (fun gk uv vv wr => ∃ (n : Nat) (u v0 : Int), n + gk = 60 ∧ uv = .int .i64 u ∧ vv = .int .i64 v0 ∧ 0 ≤ u ∧ 0 ≤ v0 ∧ Hid (Dbl U V u v0 n) ∧ Ext w wr)
    case atStart => exact ⟨0, U, V, rfl, rfl, rfl, U0, V0, D0, EX⟩
    case round =>
      obtain ⟨n, u, v0, hn, rfl, rfl, u0, v1, DB, EX⟩ := hrel
      have um : max u v0 < 2305843009213693952 := DB.out.2.2.2
      have ua : u < 2305843009213693952 := by omega
      have va : v0 < 2305843009213693952 := by omega
      by_cases hlt : max u v0 < 1152921504606846976
      · have DN : Hid (Dbl U V (2 * u) (2 * v0) (n + 1)) := DB.out.next hlt
        have n6 := DB.out.lt' hlt
        have ub : u < 1152921504606846976 := by omega
        have vb : v0 < 1152921504606846976 := by omega
        clear um ua va
        go_wp2
        go_roundg (gk - 1)
        case measure => omega
        case rel => exact ⟨n + 1, 2 * u, 2 * v0, by omega, rfl, rfl, by omega, by omega, DN, EX⟩
      · have hd := DB.out.done hlt
        have HU : Hid (u = U * ((2 ^ dm U V : Nat) : Int) ∧ v0 = V * ((2 ^ dm U V : Nat) : Int)) := ⟨by rw [hd]; exact DB.out.1, by rw [hd]; exact DB.out.2.1⟩
        have bu : Bd (u, v0) 4611686018427387904 := by
          refine ⟨by decide, ?_⟩
          have p := Int.mul_le_mul (show u ≤ 2305843009213693952 by omega) (show u ≤ 2305843009213693952 by omega) u0 (by decide)
          have r := Int.mul_le_mul (show v0 ≤ 2305843009213693952 by omega) (show v0 ≤ 2305843009213693952 by omega) v1 (by decide)
          unfold nn
          simp only
          omega
        have BS : Hid (BkK 0 (u, v0) (u, v0) 0) := BkK.start bu
        clear hd DB bu D0 U0 V0
        obtain ⟨v, hv⟩ : ∃ v, v = wr := ⟨_, rfl⟩
        subst hv
        go_upto_region 23 with (first | (go_at_call 21; go_loud (with_reducible refine (TN _).mono ?_; rintro e' v1 ⟨⟨b1, c1, rfl, hb1, VT⟩, hb⟩; have hbw : w.heap.size ≤ b1 := (by have := EX.more; omega); replace EX := Ext.trans EX hb; clear hb hb1 v; rename World => v)))
        have VTdg := VT.dg; have VTfz := VT.fz; have VTlt := VT.lt
        go_upto_region 24 with fail
        refine rebase (G := fun w' => Code.wp _ _ _ _ w') _ (fun v1 => Ext w v1 ∧ Vm v1 (b1) (82) (arcV g) ∧ S2m v1 (v.heap.size) (.int .i64 u) (.int .i64 v0)) ⟨by repeat (first | with_reducible exact EX | with_reducible refine Ext.alloc ?_ _ | with_reducible refine Ext.drew ?_ | with_reducible refine Ext.drewN ?_ _ | with_reducible refine Ext.setCell ?_ (by first | (simp; done) | omega | (dsimp only; omega)) _), by repeat (first | with_reducible assumption | with_reducible refine Vm.drew ?_ | with_reducible refine Vm.drewN ?_ _ | (with_reducible refine Vm.skip ?_ ?_; focus (first | omega | (simp; done))) | with_reducible refine Vm.alloc ?_ _), by repeat (first | with_reducible assumption | with_reducible refine S2m.drew ?_ | with_reducible refine S2m.drewN ?_ _ | (with_reducible refine S2m.skip ?_ ?_; focus (first | omega | (simp; done))) | with_reducible refine S2m.store ?_ | with_reducible refine S2m.set0 ?_ _ | with_reducible refine S2m.set1 ?_ _ | with_reducible refine S2m.new (by first | rfl | (simp; done) | with_unfolding_all rfl) (by with_unfolding_all rfl) (by with_unfolding_all rfl) | with_reducible refine S2m.alloc ?_ _ | exact S2m.any (by with_reducible assumption) | with_reducible refine S2mAny.drew ?_ | with_reducible refine S2mAny.drewN ?_ _ | (with_reducible refine S2mAny.skip ?_ ?_; focus (first | omega | (simp; done))) | with_reducible refine S2mAny.alloc ?_ _)⟩ ?_; have qVT := VT.lt; have qw := EX.more; clear VTdg VTfz VTlt; clear EX VT; rintro v1 ⟨EX, VT, PB⟩; obtain ⟨b2, hb2⟩ : ∃ b, v.heap.size = b := ⟨_, rfl⟩; rw [hb2] at qVT qw PB ⊢; clear hb2; clear v; rename World => v; have VTdg := VT.dg; have VTfz := VT.fz; have VTlt := VT.lt; have PBc0 := PB.c0; have PBc1 := PB.c1; have PBfz := PB.fz; have PBlt := PB.lt
        go_wp2
        go_loopg [11, 12] 40 (fun gk bv iv wr => ∃ (k m : Nat) (z : Int × Int) (t x y : Int), k + gk = 40 ∧ iv = .int .i64 ((k : Int) + 1) ∧ bv = .int .i64 t ∧ 0 ≤ t ∧ t < 4398046511104 ∧ Hid (BkK k (u, v0) z m ∧ z = (x, y) ∧ t = q * ((2 ^ k : Nat) : Int) + (m : Int)) ∧ Ext w wr ∧ Vm wr (b1) (82) (arcV g) ∧ S2m wr (b2) (.int .i64 x) (.int .i64 y))
        case atStart => exact ⟨0, 0, (u, v0), q, _, _, rfl, rfl, rfl, qa, by omega, ⟨BS.out, rfl, by simp⟩, EX, VT, PB⟩
        case round =>
          clear VTdg VTfz VTlt PBc0 PBc1 PBfz PBlt
          clear EX VT PB v
          obtain ⟨k, m, z, t, x, y, hk, rfl, rfl, t0, t1, HZ, EX, VT, PB⟩ := hrel
          obtain ⟨v, hv⟩ : ∃ v, v = wr := ⟨_, rfl⟩
          subst hv
          by_cases hlt : k < 40
          · have hki : (k : Int) + 1 ≤ 40 := by omega
            have N1 := HZ.out.1.next hlt
            have ht := HZ.out.2.2
            have W1 := fun w => back5_any z (arcAt (k + 1)) HZ.out.1.bd (by decide) (arc_mem hlt) w
            obtain ⟨ox, hox⟩ : ∃ c, (on 4611686018427387904 z (cj (arcAt (k + 1)))).1 = c := ⟨_, rfl⟩
            obtain ⟨oy, hoy⟩ : ∃ c, (on 4611686018427387904 z (cj (arcAt (k + 1)))).2 = c := ⟨_, rfl⟩
            have eo : on 4611686018427387904 z (cj (arcAt (k + 1))) = (ox, oy) := by rw [← hox, ← hoy]
            rw [eo] at N1
            simp only at N1
            have e2 : q * ((2 ^ (k + 1) : Nat) : Int) = 2 * (q * ((2 ^ k : Nat) : Int)) := by
              rw [Nat.pow_succ, Int.natCast_mul, ← Int.mul_assoc, Int.mul_comm]; rfl
            have tb : 2 * t + 1 < 4398046511104 := by
              have l1 := N1.lt
              have l2 : ((2 ^ (k + 1) : Nat) : Int) ≤ 1099511627776 := by
                have := Nat.pow_le_pow_right (n := 2) (by decide) (show k + 1 ≤ 40 by omega)
                rw [show (2 : Nat) ^ 40 = 1099511627776 by decide] at this
                omega
              have l3 : q * ((2 ^ (k + 1) : Nat) : Int) ≤ 3 * 1099511627776 := Int.mul_le_mul qb l2 (Int.natCast_nonneg _) (by decide)
              have l4 : 2 * m + 1 < 1099511627776 := by
                have a := HZ.out.1.2.2.2.1
                have b := Nat.pow_le_pow_right (n := 2) (by decide) (show k + 1 ≤ 40 by omega)
                rw [Nat.pow_succ, show (2 : Nat) ^ 40 = 1099511627776 by decide] at b
                omega
              omega
            rw [hox, hoy, ← hg.out, show z.1 = x by rw [HZ.out.2.1], show z.2 = y by rw [HZ.out.2.1]] at W1
            have JT := VT.at (i := (k + 1) * 2) (by omega)
            rw [arcV_0, arcV_1] at JT
            generalize (g (k + 1)).1 = c at *
            generalize (g (k + 1)).2 = s at *
            by_cases hb : 0 ≤ oy
            · rw [if_pos hb, if_pos hb] at N1
              have HN : Hid (BkK (k + 1) (u, v0) (ox, oy) (2 * m + 1) ∧ 2 * t + 1 = q * ((2 ^ (k + 1) : Nat) : Int) + ((2 * m + 1 : Nat) : Int)) := ⟨N1, by rw [e2, ht]; omega⟩
              clear N1 ht HZ hox hoy eo e2
              have VTdg := VT.dg; have VTfz := VT.fz; have VTlt := VT.lt; have PBc0 := PB.c0; have PBc1 := PB.c1; have PBfz := PB.fz; have PBlt := PB.lt; have JTci := JT.ci; have JTcj := JT.cj; have JTfz := JT.fz; have JTlt := JT.lt
              go_upto_region 29 with fail
              refine wp_region_many 7 [(6, 13, (.cells #[.int .i64 0, .int .i64 0] 45))] (fun i => false) (by kernel_rfl) (by kernel_rfl) (by kernel_rfl) (fun c a x v w h => by cases x <;> exact h) ?_ ?_ ?_; (focus (intro i o hi ho; simp at hi)); (focus (intro m hm o ho a w; simp only [List.mem_cons, List.not_mem_nil, or_false] at hm; rcases hm with rfl <;> (cases ho; go_simp))); intro B hB l' hl'; simp [dumbsM, dumbM, isNew] at hl'; subst hl'; have gVTdg := fun x' : Grow B => (VT.later (Ext.trans hB x'.ext)).dg; have gVTfz := fun x' : Grow B => (VT.later (Ext.trans hB x'.ext)).fz; have gVTlt := fun x' : Grow B => (VT.later (Ext.trans hB x'.ext)).lt; have gPBc0 := fun x' : Grow B => (PB.later (Ext.trans hB x'.ext)).c0; have gPBc1 := fun x' : Grow B => (PB.later (Ext.trans hB x'.ext)).c1; have gPBfz := fun x' : Grow B => (PB.later (Ext.trans hB x'.ext)).fz; have gPBlt := fun x' : Grow B => (PB.later (Ext.trans hB x'.ext)).lt; have gJTci := fun x' : Grow B => (JT.later (Ext.trans hB x'.ext)).ci; have gJTcj := fun x' : Grow B => (JT.later (Ext.trans hB x'.ext)).cj; have gJTfz := fun x' : Grow B => (JT.later (Ext.trans hB x'.ext)).fz; have gJTlt := fun x' : Grow B => (JT.later (Ext.trans hB x'.ext)).lt; (repeat (first | go_big_quiet_step ((go_at_call 22; with_reducible exact calls_grow (W1 _))) | go_big_quiet_step (fail))); refine wpQuiet_nil ?_; clear gVTdg gVTfz gVTlt gPBc0 gPBc1 gPBfz gPBlt gJTci gJTcj gJTfz gJTlt; clear hB B; intro bs v1 hv hms hne t ht; simp at ht; subst ht; simp only [puts, if_true]; obtain ⟨wn, n1, n2, n3⟩ := hms _ List.mem_cons_self; replace n3 : bs 6 = wn.heap.size := n3; have PO : S2m v1 (bs 6) (.int .i64 0) (.int .i64 0) := (by rw [n3]; exact S2m.later n2 (S2m.new rfl (by with_unfolding_all rfl) (by with_unfolding_all rfl))); have n4 := n1.more; have n5 := EX.more; have qPO_w : w.heap.size ≤ bs 6 := (by omega); have qPO_VT : b1 < bs 6 := (by have := VT.lt; omega); have qPO_PB : b2 < bs 6 := (by have := PB.lt; omega); have qPO_JT : b1 < bs 6 := (by have := JT.lt; omega); clear n1 n2 n3 n4 n5 wn; clear hms hne; replace EX := Ext.trans EX hv; replace VT := VT.later hv; replace PB := PB.later hv; clear VTdg VTfz VTlt PBc0 PBc1 PBfz PBlt JTci JTcj JTfz JTlt; clear JT; clear hv v; generalize bs 6 = b3 at *; clear bs; rename World => v; have VTdg := VT.dg; have VTfz := VT.fz; have VTlt := VT.lt; have PBc0 := PB.c0; have PBc1 := PB.c1; have PBfz := PB.fz; have PBlt := PB.lt; have POc0 := PO.c0; have POc1 := PO.c1; have POfz := PO.fz; have POlt := PO.lt
              go_upto_region 30 with fail
              refine rebase (G := fun w' => Code.wp _ _ _ _ w') _ (fun v1 => Ext w v1 ∧ Vm v1 (b1) (82) (arcV g) ∧ S2m v1 (b2) (.int .i64 x) (.int .i64 y) ∧ S2m v1 (b3) (.int .i64 ox) (.int .i64 oy)) ⟨by repeat (first | with_reducible exact EX | with_reducible refine Ext.alloc ?_ _ | with_reducible refine Ext.drew ?_ | with_reducible refine Ext.drewN ?_ _ | with_reducible refine Ext.setCell ?_ (by first | (simp; done) | omega | (dsimp only; omega)) _), by repeat (first | with_reducible assumption | with_reducible refine Vm.drew ?_ | with_reducible refine Vm.drewN ?_ _ | (with_reducible refine Vm.skip ?_ ?_; focus (first | omega | (simp; done))) | with_reducible refine Vm.alloc ?_ _), by repeat (first | with_reducible assumption | with_reducible refine S2m.drew ?_ | with_reducible refine S2m.drewN ?_ _ | (with_reducible refine S2m.skip ?_ ?_; focus (first | omega | (simp; done))) | with_reducible refine S2m.store ?_ | with_reducible refine S2m.set0 ?_ _ | with_reducible refine S2m.set1 ?_ _ | with_reducible refine S2m.new (by first | rfl | (simp; done) | with_unfolding_all rfl) (by with_unfolding_all rfl) (by with_unfolding_all rfl) | with_reducible refine S2m.alloc ?_ _ | exact S2m.any (by with_reducible assumption) | with_reducible refine S2mAny.drew ?_ | with_reducible refine S2mAny.drewN ?_ _ | (with_reducible refine S2mAny.skip ?_ ?_; focus (first | omega | (simp; done))) | with_reducible refine S2mAny.alloc ?_ _), by repeat (first | with_reducible assumption | with_reducible refine S2m.drew ?_ | with_reducible refine S2m.drewN ?_ _ | (with_reducible refine S2m.skip ?_ ?_; focus (first | omega | (simp; done))) | with_reducible refine S2m.store ?_ | with_reducible refine S2m.set0 ?_ _ | with_reducible refine S2m.set1 ?_ _ | with_reducible refine S2m.new (by first | rfl | (simp; done) | with_unfolding_all rfl) (by with_unfolding_all rfl) (by with_unfolding_all rfl) | with_reducible refine S2m.alloc ?_ _ | exact S2m.any (by with_reducible assumption) | with_reducible refine S2mAny.drew ?_ | with_reducible refine S2mAny.drewN ?_ _ | (with_reducible refine S2mAny.skip ?_ ?_; focus (first | omega | (simp; done))) | with_reducible refine S2mAny.alloc ?_ _)⟩ ?_; clear VTdg VTfz VTlt PBc0 PBc1 PBfz PBlt POc0 POc1 POfz POlt; clear EX VT PB PO; rintro v1 ⟨EX, VT, PB, PO⟩; clear v; rename World => v; have VTdg := VT.dg; have VTfz := VT.fz; have VTlt := VT.lt; have PBc0 := PB.c0; have PBc1 := PB.c1; have PBfz := PB.fz; have PBlt := PB.lt; have POc0 := PO.c0; have POc1 := PO.c1; have POfz := PO.fz; have POlt := PO.lt
              go_wp2
              go_roundg (gk - 1)
              case measure => omega
              case rel =>
                refine ⟨k + 1, 2 * m + 1, (ox, oy), _, ox, oy, by omega, by go_num, rfl, by omega, by omega, ⟨HN.out.1, rfl, HN.out.2⟩, by repeat (first | with_reducible exact EX | with_reducible refine Ext.alloc ?_ _ | with_reducible refine Ext.drew ?_ | with_reducible refine Ext.drewN ?_ _ | with_reducible refine Ext.setCell ?_ (by first | (simp; done) | omega | (dsimp only; omega)) _), ?_, ?_⟩
                · repeat (first | with_reducible assumption | with_reducible refine Vm.drew ?_ | with_reducible refine Vm.drewN ?_ _ | (with_reducible refine Vm.skip ?_ ?_; focus (first | omega | (simp; done))) | with_reducible refine Vm.alloc ?_ _)
                · repeat (first | with_reducible assumption | with_reducible refine S2m.drew ?_ | with_reducible refine S2m.drewN ?_ _ | (with_reducible refine S2m.skip ?_ ?_; focus (first | omega | (simp; done))) | with_reducible refine S2m.store ?_ | with_reducible refine S2m.set0 ?_ _ | with_reducible refine S2m.set1 ?_ _ | with_reducible refine S2m.new (by first | rfl | (simp; done) | with_unfolding_all rfl) (by with_unfolding_all rfl) (by with_unfolding_all rfl) | with_reducible refine S2m.alloc ?_ _ | exact S2m.any (by with_reducible assumption) | with_reducible refine S2mAny.drew ?_ | with_reducible refine S2mAny.drewN ?_ _ | (with_reducible refine S2mAny.skip ?_ ?_; focus (first | omega | (simp; done))) | with_reducible refine S2mAny.alloc ?_ _)
            · rw [if_neg hb, if_neg hb] at N1
              have HN : Hid (BkK (k + 1) (u, v0) z (2 * m) ∧ z = (x, y) ∧ 2 * t = q * ((2 ^ (k + 1) : Nat) : Int) + ((2 * m : Nat) : Int)) := ⟨N1, HZ.out.2.1, by rw [e2, ht]; omega⟩
              clear N1 ht HZ hox hoy eo e2
              have VTdg := VT.dg; have VTfz := VT.fz; have VTlt := VT.lt; have PBc0 := PB.c0; have PBc1 := PB.c1; have PBfz := PB.fz; have PBlt := PB.lt; have JTci := JT.ci; have JTcj := JT.cj; have JTfz := JT.fz; have JTlt := JT.lt
              go_upto_region 29 with fail
              refine wp_region_many 7 [(6, 13, (.cells #[.int .i64 0, .int .i64 0] 45))] (fun i => false) (by kernel_rfl) (by kernel_rfl) (by kernel_rfl) (fun c a x v w h => by cases x <;> exact h) ?_ ?_ ?_; (focus (intro i o hi ho; simp at hi)); (focus (intro m hm o ho a w; simp only [List.mem_cons, List.not_mem_nil, or_false] at hm; rcases hm with rfl <;> (cases ho; go_simp))); intro B hB l' hl'; simp [dumbsM, dumbM, isNew] at hl'; subst hl'; have gVTdg := fun x' : Grow B => (VT.later (Ext.trans hB x'.ext)).dg; have gVTfz := fun x' : Grow B => (VT.later (Ext.trans hB x'.ext)).fz; have gVTlt := fun x' : Grow B => (VT.later (Ext.trans hB x'.ext)).lt; have gPBc0 := fun x' : Grow B => (PB.later (Ext.trans hB x'.ext)).c0; have gPBc1 := fun x' : Grow B => (PB.later (Ext.trans hB x'.ext)).c1; have gPBfz := fun x' : Grow B => (PB.later (Ext.trans hB x'.ext)).fz; have gPBlt := fun x' : Grow B => (PB.later (Ext.trans hB x'.ext)).lt; have gJTci := fun x' : Grow B => (JT.later (Ext.trans hB x'.ext)).ci; have gJTcj := fun x' : Grow B => (JT.later (Ext.trans hB x'.ext)).cj; have gJTfz := fun x' : Grow B => (JT.later (Ext.trans hB x'.ext)).fz; have gJTlt := fun x' : Grow B => (JT.later (Ext.trans hB x'.ext)).lt; (repeat (first | go_big_quiet_step ((go_at_call 22; with_reducible exact calls_grow (W1 _))) | go_big_quiet_step (fail))); refine wpQuiet_nil ?_; clear gVTdg gVTfz gVTlt gPBc0 gPBc1 gPBfz gPBlt gJTci gJTcj gJTfz gJTlt; clear hB B; intro bs v1 hv hms hne t ht; simp at ht; subst ht; simp only [puts, if_true]; obtain ⟨wn, n1, n2, n3⟩ := hms _ List.mem_cons_self; replace n3 : bs 6 = wn.heap.size := n3; have PO : S2m v1 (bs 6) (.int .i64 0) (.int .i64 0) := (by rw [n3]; exact S2m.later n2 (S2m.new rfl (by with_unfolding_all rfl) (by with_unfolding_all rfl))); have n4 := n1.more; have n5 := EX.more; have qPO_w : w.heap.size ≤ bs 6 := (by omega); have qPO_VT : b1 < bs 6 := (by have := VT.lt; omega); have qPO_PB : b2 < bs 6 := (by have := PB.lt; omega); have qPO_JT : b1 < bs 6 := (by have := JT.lt; omega); clear n1 n2 n3 n4 n5 wn; clear hms hne; replace EX := Ext.trans EX hv; replace VT := VT.later hv; replace PB := PB.later hv; clear VTdg VTfz VTlt PBc0 PBc1 PBfz PBlt JTci JTcj JTfz JTlt; clear JT; clear hv v; generalize bs 6 = b3 at *; clear bs; rename World => v; have VTdg := VT.dg; have VTfz := VT.fz; have VTlt := VT.lt; have PBc0 := PB.c0; have PBc1 := PB.c1; have PBfz := PB.fz; have PBlt := PB.lt; have POc0 := PO.c0; have POc1 := PO.c1; have POfz := PO.fz; have POlt := PO.lt
              go_upto_region 30 with fail
              refine rebase (G := fun w' => Code.wp _ _ _ _ w') _ (fun v1 => Ext w v1 ∧ Vm v1 (b1) (82) (arcV g) ∧ S2m v1 (b2) (.int .i64 x) (.int .i64 y) ∧ S2m v1 (b3) (.int .i64 ox) (.int .i64 oy)) ⟨by repeat (first | with_reducible exact EX | with_reducible refine Ext.alloc ?_ _ | with_reducible refine Ext.drew ?_ | with_reducible refine Ext.drewN ?_ _ | with_reducible refine Ext.setCell ?_ (by first | (simp; done) | omega | (dsimp only; omega)) _), by repeat (first | with_reducible assumption | with_reducible refine Vm.drew ?_ | with_reducible refine Vm.drewN ?_ _ | (with_reducible refine Vm.skip ?_ ?_; focus (first | omega | (simp; done))) | with_reducible refine Vm.alloc ?_ _), by repeat (first | with_reducible assumption | with_reducible refine S2m.drew ?_ | with_reducible refine S2m.drewN ?_ _ | (with_reducible refine S2m.skip ?_ ?_; focus (first | omega | (simp; done))) | with_reducible refine S2m.store ?_ | with_reducible refine S2m.set0 ?_ _ | with_reducible refine S2m.set1 ?_ _ | with_reducible refine S2m.new (by first | rfl | (simp; done) | with_unfolding_all rfl) (by with_unfolding_all rfl) (by with_unfolding_all rfl) | with_reducible refine S2m.alloc ?_ _ | exact S2m.any (by with_reducible assumption) | with_reducible refine S2mAny.drew ?_ | with_reducible refine S2mAny.drewN ?_ _ | (with_reducible refine S2mAny.skip ?_ ?_; focus (first | omega | (simp; done))) | with_reducible refine S2mAny.alloc ?_ _), by repeat (first | with_reducible assumption | with_reducible refine S2m.drew ?_ | with_reducible refine S2m.drewN ?_ _ | (with_reducible refine S2m.skip ?_ ?_; focus (first | omega | (simp; done))) | with_reducible refine S2m.store ?_ | with_reducible refine S2m.set0 ?_ _ | with_reducible refine S2m.set1 ?_ _ | with_reducible refine S2m.new (by first | rfl | (simp; done) | with_unfolding_all rfl) (by with_unfolding_all rfl) (by with_unfolding_all rfl) | with_reducible refine S2m.alloc ?_ _ | exact S2m.any (by with_reducible assumption) | with_reducible refine S2mAny.drew ?_ | with_reducible refine S2mAny.drewN ?_ _ | (with_reducible refine S2mAny.skip ?_ ?_; focus (first | omega | (simp; done))) | with_reducible refine S2mAny.alloc ?_ _)⟩ ?_; clear VTdg VTfz VTlt PBc0 PBc1 PBfz PBlt POc0 POc1 POfz POlt; clear EX VT PB PO; rintro v1 ⟨EX, VT, PB, PO⟩; clear v; rename World => v; have VTdg := VT.dg; have VTfz := VT.fz; have VTlt := VT.lt; have PBc0 := PB.c0; have PBc1 := PB.c1; have PBfz := PB.fz; have PBlt := PB.lt; have POc0 := PO.c0; have POc1 := PO.c1; have POfz := PO.fz; have POlt := PO.lt
              go_wp2
              go_roundg (gk - 1)
              case measure => omega
              case rel => exact ⟨k + 1, 2 * m, z, _, x, y, by omega, by go_num, rfl, by omega, by omega, HN.out, EX, VT, PB⟩
          · have hki : ¬ ((k : Int) + 1 ≤ 40) := by omega
            have hk40 : k = 40 := by omega
            subst hk40
            have hm := HZ.out.1.done
            have ht := HZ.out.2.2
            have ml := HZ.out.1.lt
            rw [show ((2 ^ 40 : Nat) : Int) = 1099511627776 by decide] at ht
            have ed : m = dirq U V := by rw [hm]; unfold dirq dir; rw [← HU.out.1, ← HU.out.2]
            have ea : 5898240 * q + told m = atr y0' x0' := by
              unfold atr
              rw [ed, hU.out.1, hU.out.2.1, hU.out.2.2]
            have tl := told_in (F := m) (by omega)
            have it : In64 t := ⟨by omega, by omega⟩
            have i9 : In64 5898240 := ⟨by decide, by decide⟩
            have en : nr (t * 5898240) 1099511627776 = 5898240 * q + told m := by
              rw [ht]
              unfold told nr
              split <;> omega
            have MU := fun w => rmul_any t 5898240 it i9 w
            have NE := fun w => rnear_any (t * 5898240) 1099511627776 (in64_mul it i9) (by decide) ⟨by decide, by decide⟩ w
            rw [en, ea] at NE
            obtain ⟨N, hN⟩ : ∃ N, atr y0' x0' = N := ⟨_, rfl⟩
            have n0 : 0 ≤ N := by omega
            have n1 : N ≤ 23592960 := by omega
            have IT := fun w => rint_any N (in64_W ⟨by omega, by omega⟩) w
            rw [wrap_i64 ⟨by omega, by omega⟩, if_pos rfl, decide_eq_true rfl] at IT
            rw [hN] at NE
            have HA : Hid (A = if N = 23592960 then 0 else N) := (by
              show A = _
              rw [hA.out]
              unfold atn
              rw [hN])
            generalize t * 5898240 = M at *
            clear hm ht ml ed ea tl it i9 en HZ VT PB hN hA hU HU BS hg
            by_cases hn : N = 23592960
            · have hn1 : (N == 23592960) = true := by rw [hn]; rfl
              have HA2 : Hid (A = 0) := (by rw [HA.out, if_pos hn]; rfl)
              clear HA hn
              go_upto_region 34 with (first | (go_at_call 24; with_reducible refine (MU _).mono ?_; rintro e v1 ⟨rfl, hb⟩; replace EX := Ext.trans EX hb; clear hb) | (go_at_call 23; with_reducible refine (NE _).mono ?_; rintro e v1 ⟨rfl, hb⟩; replace EX := Ext.trans EX hb; clear hb))
              rename World => v
              refine rebase (G := fun w' => Code.wp _ _ _ _ w') _ (fun v1 => Ext w v1 ∧ Wm v1 (v.heap.size) (hi N) (lo N)) ⟨by repeat (first | with_reducible exact EX | with_reducible refine Ext.alloc ?_ _ | with_reducible refine Ext.drew ?_ | with_reducible refine Ext.drewN ?_ _ | with_reducible refine Ext.setCell ?_ (by first | (simp; done) | omega | (dsimp only; omega)) _), by repeat (first | with_reducible assumption | with_reducible refine Wm.drew ?_ | with_reducible refine Wm.drewN ?_ _ | (with_reducible refine Wm.skip ?_ ?_; focus (first | omega | (simp; done))) | with_reducible refine Wm.store ?_ _ _ | with_reducible refine Wm.new (by first | rfl | (simp; done) | with_unfolding_all rfl) (by with_unfolding_all rfl) (by with_unfolding_all rfl) | with_reducible refine Wm.alloc ?_ _ | exact Wm.any (by with_reducible assumption) | with_reducible refine WmAny.drew ?_ | with_reducible refine WmAny.drewN ?_ _ | (with_reducible refine WmAny.skip ?_ ?_; focus (first | omega | (simp; done))) | with_reducible refine WmAny.alloc ?_ _)⟩ ?_; have qw := EX.more; clear EX ; rintro v1 ⟨EX, WQ⟩; obtain ⟨b9, hb9⟩ : ∃ b, v.heap.size = b := ⟨_, rfl⟩; rw [hb9] at qw WQ ⊢; clear hb9; clear v; rename World => v; have WQhi := WQ.hi; have WQlo := WQ.lo; have WQfz := WQ.fz; have WQlt := WQ.lt
              go_wp2_with (first | (go_at_call 25; with_reducible refine (IT _).mono ?_; rintro e v1 ⟨rfl, hb⟩; replace EX := Ext.trans EX hb; replace WQ := WQ.later hb; replace WQhi := WQ.hi; replace WQlo := WQ.lo; replace WQfz := WQ.fz; replace WQlt := WQ.lt; clear hb v; rename World => v))
              go_ret2
              exact ⟨by rw [HA2.out]; rfl, EX⟩
            · have hn1 : (N == 23592960) = false := by simp; omega
              have HA2 : Hid (A = N) := (by rw [HA.out, if_neg hn]; rfl)
              clear HA hn
              go_upto_region 34 with (first | (go_at_call 24; with_reducible refine (MU _).mono ?_; rintro e v1 ⟨rfl, hb⟩; replace EX := Ext.trans EX hb; clear hb) | (go_at_call 23; with_reducible refine (NE _).mono ?_; rintro e v1 ⟨rfl, hb⟩; replace EX := Ext.trans EX hb; clear hb))
              rename World => v
              refine rebase (G := fun w' => Code.wp _ _ _ _ w') _ (fun v1 => Ext w v1 ∧ Wm v1 (v.heap.size) (hi N) (lo N)) ⟨by repeat (first | with_reducible exact EX | with_reducible refine Ext.alloc ?_ _ | with_reducible refine Ext.drew ?_ | with_reducible refine Ext.drewN ?_ _ | with_reducible refine Ext.setCell ?_ (by first | (simp; done) | omega | (dsimp only; omega)) _), by repeat (first | with_reducible assumption | with_reducible refine Wm.drew ?_ | with_reducible refine Wm.drewN ?_ _ | (with_reducible refine Wm.skip ?_ ?_; focus (first | omega | (simp; done))) | with_reducible refine Wm.store ?_ _ _ | with_reducible refine Wm.new (by first | rfl | (simp; done) | with_unfolding_all rfl) (by with_unfolding_all rfl) (by with_unfolding_all rfl) | with_reducible refine Wm.alloc ?_ _ | exact Wm.any (by with_reducible assumption) | with_reducible refine WmAny.drew ?_ | with_reducible refine WmAny.drewN ?_ _ | (with_reducible refine WmAny.skip ?_ ?_; focus (first | omega | (simp; done))) | with_reducible refine WmAny.alloc ?_ _)⟩ ?_; have qw := EX.more; clear EX ; rintro v1 ⟨EX, WQ⟩; obtain ⟨b9, hb9⟩ : ∃ b, v.heap.size = b := ⟨_, rfl⟩; rw [hb9] at qw WQ ⊢; clear hb9; clear v; rename World => v; have WQhi := WQ.hi; have WQlo := WQ.lo; have WQfz := WQ.fz; have WQlt := WQ.lt
              go_wp2_with (first | (go_at_call 25; with_reducible refine (IT _).mono ?_; rintro e v1 ⟨rfl, hb⟩; replace EX := Ext.trans EX hb; replace WQ := WQ.later hb; replace WQhi := WQ.hi; replace WQlo := WQ.lo; replace WQfz := WQ.fz; replace WQlt := WQ.lt; clear hb v; rename World => v))
              go_ret2
              exact ⟨by rw [HA2.out]; rfl, EX⟩
theorem atan5_any (y x : Int) (x0 : -2147483648 ≤ x) (x1 : x ≤ 2147483647) (y0 : -2147483648 ≤ y) (y1 : y ≤ 2147483647) (h : ¬ (x = 0 ∧ y = 0)) (w : World) :
    Calls Try.prog 10 #[.int .i32 y, .int .i32 x] w fun e w' => e = .returned (.tuple #[.int .i32 (atn y x), .int .i64 0]) ∧ Ext w w' :=
  atan5_walk y x _ _ _ _ x0 x1 y0 y1 h arcAt rfl ⟨rfl, rfl, rfl⟩ rfl turns5_any w
end Go.Proofs.Ythfgeopldbcniaa
