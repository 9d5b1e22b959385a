/- What turned of package angles does, called with on and with back; atShare, share. -/
import Derived.Test.YthfgeopldbcniaaAngB
import Derived.WalkMore
namespace Go.Proofs.Ythfgeopldbcniaa
open Go.RowKit Go.BigFrame
set_option linter.unusedSimpArgs false
set_option linter.unusedVariables false
theorem arc_drop {k : Nat} (h : k < 40) : turns.drop k = arcAt (k + 1) :: turns.drop (k + 1) := by
  rw [List.drop_eq_getElem_cons (show k < turns.length from h)]
  congr 1
  unfold arcAt
  rw [List.getD_eq_getElem?_getD, List.getElem?_cons_succ, List.getElem?_eq_getElem (show k < turns.length from h)]
  rfl
theorem arc_mem {k : Nat} (h : k < 40) : nn (arcAt (k + 1)) ≤ 4611686018427387904 * 4611686018427387904 := by
  refine turns_le _ ?_
  have : arcAt (k + 1) ∈ turns.drop k := by rw [arc_drop h]; exact List.mem_cons_self
  exact List.mem_of_mem_drop this
/-- The lowest bit. -/
theorem and_low1 (x : Int) : bits .and .i64 x 1 = x % 2 := by
  have h1 : (BitVec.ofInt 64 x).toNat = (x % 18446744073709551616).toNat := by rw [BitVec.toNat_ofInt]; rfl
  have h2 : (BitVec.ofInt 64 (1 : Int)).toNat = 1 := by decide
  show IntKind.i64.wrap ((BitVec.ofInt 64 x &&& BitVec.ofInt 64 (1 : Int)).toNat : Int) = _
  rw [BitVec.toNat_and, h1, h2, show (x % 18446744073709551616).toNat &&& 1 = (x % 18446744073709551616).toNat % 2 from Nat.and_two_pow_sub_one_eq_mod _ 1]
  have h3 : ((((x % 18446744073709551616).toNat % 2 : Nat)) : Int) = x % 2 := by omega
  rw [h3]
  simp [IntKind.wrap, IntKind.signed, IntKind.bits]
  omega
/-- The lowest two bits. -/
theorem and_low3 (x : Int) : bits .and .i64 x 3 = x % 4 := by
  have h1 : (BitVec.ofInt 64 x).toNat = (x % 18446744073709551616).toNat := by rw [BitVec.toNat_ofInt]; rfl
  have h2 : (BitVec.ofInt 64 (3 : Int)).toNat = 3 := by decide
  show IntKind.i64.wrap ((BitVec.ofInt 64 x &&& BitVec.ofInt 64 (3 : Int)).toNat : Int) = _
  rw [BitVec.toNat_and, h1, h2, show (x % 18446744073709551616).toNat &&& 3 = (x % 18446744073709551616).toNat % 4 from Nat.and_two_pow_sub_one_eq_mod _ 2]
  have h3 : ((((x % 18446744073709551616).toNat % 4 : Nat)) : Int) = x % 4 := by omega
  rw [h3]
  simp [IntKind.wrap, IntKind.signed, IntKind.bits]
  omega
/-- What k of the 40 turns have made of a place. -/
def OnK (f k : Nat) (z0 z : Int × Int) : Prop := k ≤ 40 ∧ azz 4611686018427387904 (turns.drop k) f z = azz 4611686018427387904 turns f z0 ∧ Bd z (4611686018427387904 + 2 * (k : Int))
theorem OnK.start (f : Nat) : OnK f 0 (4611686018427387904, 0) (4611686018427387904, 0) := ⟨by decide, rfl, by simpa using real_bd (S := 4611686018427387904) (by decide)⟩
theorem on_bd {z t : Int × Int} {r : Int} (hz : Bd z r) (ht : nn t ≤ 4611686018427387904 * 4611686018427387904) : Bd (on 4611686018427387904 z t) (r + 2) := by
  have bt : Bd t 4611686018427387904 := ⟨by decide, ht⟩
  have := Bd.of_near (on_near (S := 4611686018427387904) (by decide) z t) (Bd.mul hz bt)
  refine Bd.unscale (k := 4611686018427387904) (by decide) (by have := hz.1; omega) (this.mono ?_)
  omega
theorem OnK.next {f k : Nat} {z0 z : Int × Int} (h : OnK f k z0 z) (hk : k < 40) : OnK f (k + 1) z0 (if f / 2 ^ (39 - k) % 2 = 1 then on 4611686018427387904 z (arcAt (k + 1)) else z) := by
  obtain ⟨_, h2, h3⟩ := h
  refine ⟨hk, ?_, ?_⟩
  · rw [arc_drop hk] at h2
    unfold azz at h2
    rw [List.length_drop, show turns.length - (k + 1) = 39 - k by rw [show turns.length = 40 from rfl]; omega] at h2
    exact h2
  · rw [show 4611686018427387904 + 2 * ((k + 1 : Nat) : Int) = 4611686018427387904 + 2 * (k : Int) + 2 by omega]
    split
    · exact on_bd h3 (arc_mem hk)
    · exact h3.mono (by omega)
theorem OnK.bd {f k : Nat} {z0 z : Int × Int} (h : OnK f k z0 z) : Bd z 4611686018427387984 := h.2.2.mono (by have := h.1; omega)
theorem OnK.done {f : Nat} {z0 z : Int × Int} (h : OnK f 40 z0 z) : z = azz 4611686018427387904 turns f z0 := by
  rw [← h.2.1]; rfl
/-- What k of the 40 turns back have made of a place, and of its direction. -/
def BkK (k : Nat) (z0 z : Int × Int) (m : Nat) : Prop := k ≤ 40 ∧ m * 2 ^ (40 - k) + abit 4611686018427387904 (turns.drop k) z = abit 4611686018427387904 turns z0 ∧ Bd z (4611686018427387904 + 2 * (k : Int)) ∧ m < 2 ^ k ∧ alast 4611686018427387904 (turns.drop k) z = alast 4611686018427387904 turns z0
theorem BkK.start {z : Int × Int} (h : Bd z 4611686018427387904) : BkK 0 z z 0 := ⟨by decide, by simp, by simpa using h, by decide, rfl⟩
theorem BkK.next {k m : Nat} {z0 z : Int × Int} (h : BkK k z0 z m) (hk : k < 40) : BkK (k + 1) z0 (if 0 ≤ (on 4611686018427387904 z (cj (arcAt (k + 1)))).2 then on 4611686018427387904 z (cj (arcAt (k + 1))) else z) (if 0 ≤ (on 4611686018427387904 z (cj (arcAt (k + 1)))).2 then 2 * m + 1 else 2 * m) := by
  obtain ⟨_, h2, h3, h4, h5⟩ := h
  have hp : m * 2 ^ (40 - k) = 2 * m * 2 ^ (40 - (k + 1)) := by
    rw [show 40 - k = 40 - (k + 1) + 1 by omega, Nat.pow_succ, Nat.mul_comm 2 m, Nat.mul_assoc, Nat.mul_comm 2]
  refine ⟨hk, ?_, ?_, ?_, ?_⟩
  · rw [arc_drop hk] at h2
    unfold abit at h2
    rw [List.length_drop, show turns.length - (k + 1) = 40 - (k + 1) by rw [show turns.length = 40 from rfl], hp] at h2
    split
    · rename_i hc
      rw [if_pos hc] at h2
      rw [Nat.add_mul, Nat.one_mul, Nat.add_assoc]
      exact h2
    · rename_i hc
      rw [if_neg hc] at h2
      exact h2
  · rw [show 4611686018427387904 + 2 * ((k + 1 : Nat) : Int) = 4611686018427387904 + 2 * (k : Int) + 2 by omega]
    split
    · exact on_bd h3 (by rw [nn_cj]; exact arc_mem hk)
    · exact h3.mono (by omega)
  · rw [Nat.pow_succ]
    split <;> omega
  · rw [arc_drop hk] at h5
    unfold alast at h5
    split
    · rename_i hc
      rw [if_pos hc] at h5
      exact h5
    · rename_i hc
      rw [if_neg hc] at h5
      exact h5
theorem BkK.bd {k m : Nat} {z0 z : Int × Int} (h : BkK k z0 z m) : Bd z 4611686018427387984 := h.2.2.1.mono (by have := h.1; omega)
theorem BkK.lt {k m : Nat} {z0 z : Int × Int} (h : BkK k z0 z m) : m < 1099511627776 := Nat.lt_of_lt_of_le h.2.2.2.1 (Nat.pow_le_pow_right (by decide) h.1)
theorem BkK.done {m : Nat} {z0 z : Int × Int} (h : BkK 40 z0 z m) : m = abit 4611686018427387904 turns z0 := by
  have h1 := h.2.1
  rw [show turns.drop 40 = [] from rfl, show ∀ z, abit 4611686018427387904 [] z = 0 from fun _ => rfl, Nat.sub_self, Nat.pow_zero, Nat.mul_one, Nat.add_zero] at h1
  exact h1



--@TURNED
set_option maxRecDepth 20000 in
set_option maxHeartbeats 8000000 in
theorem turned_on_walk (z0 : Int × Int) (x0 y0 : Int) (hz0 : Hid (z0 = (x0, y0))) (b0 : Nat) (R : Nat → Int × Int → Nat → Prop) (o : Nat → Int × Int → Int × Int) (tk : Nat → Int × Int → Bool) (g : Nat → Int × Int) (q1 q2 qm : Int)
    (HS : Hid (R 0 z0 0)) (HN : Hid (∀ k z m, R k z m → k < 40 → R (k + 1) (if tk k z = true then o k z else z) (if tk k z = true then 2 * m + 1 else 2 * m))) (HL : Hid (∀ k z m, R k z m → m < 1099511627776)) (HE : Hid (∀ z m, R 40 z m → q1 = z.1 ∧ q2 = z.2 ∧ qm = (m : Int)))
    (TA : ∀ w, Calls Try.prog 53 #[] w fun e w' => e = .returned (.agg (vl 82 (arcV g)).toArray) ∧ Ext w w') (w : World)
    (WY : Hid (∀ k z m, R k z m → k < 40 → ∀ v, Calls Try.prog 69 #[.agg #[.int .i64 z.1, .int .i64 z.2], .agg #[.int .i64 (g (k + 1)).1, .int .i64 (g (k + 1)).2]] v fun e w' => e = .returned (.agg #[.int .i64 (o k z).1, .int .i64 (o k z).2]) ∧ Ext v w'))
    (TK : Hid (∀ k z m, R k z m → k < 40 → ∀ v, Ext w v → Calls Try.prog 70 #[.int .i64 ((k : Int) + 1), .agg #[.int .i64 (o k z).1, .int .i64 (o k z).2], .pointer (some ⟨b0, 0, none⟩)] v fun e w' => e = .returned (.bool (tk k z)) ∧ Ext v w')) :
    Calls Try.prog 30 #[.agg #[.int .i64 x0, .int .i64 y0], .func (.func 69) #[] #[], .func (.func 70) #[] #[.pointer (some ⟨b0, 0, none⟩)]] w fun e w' => e = .returned (.tuple #[.agg #[.int .i64 q1, .int .i64 q2], .int .i64 qm]) ∧ Ext w w' := by
  have EX := Ext.refl w
  go_enter Try.func30, Try.ntmps30
  go_upto_region 1 with fail
  refine rebase (G := fun w' => Code.wp _ _ _ _ w') _ (fun v1 => Ext w v1 ∧ S2m v1 (w.heap.size) (.int .i64 x0) (.int .i64 y0) ∧ S2m v1 (w.heap.size + 1) (.int .i64 0) (.int .i64 0)) ⟨by repeat (first | with_reducible exact EX | with_reducible refine Ext.alloc ?_ _ | with_reducible refine Ext.drew ?_ | with_reducible refine Ext.drewN ?_ _ | with_reducible refine Ext.setCell ?_ (by first | (simp; done) | omega | (dsimp only; omega)) _), by repeat (first | with_reducible assumption | with_reducible refine S2m.drew ?_ | with_reducible refine S2m.drewN ?_ _ | (with_reducible refine S2m.skip ?_ ?_; focus (first | omega | (simp; done))) | with_reducible refine S2m.store ?_ | with_reducible refine S2m.set0 ?_ _ | with_reducible refine S2m.set1 ?_ _ | with_reducible refine S2m.new (by first | rfl | (simp; done) | with_unfolding_all rfl) (by with_unfolding_all rfl) (by with_unfolding_all rfl) | with_reducible refine S2m.alloc ?_ _ | exact S2m.any (by with_reducible assumption) | with_reducible refine S2mAny.drew ?_ | with_reducible refine S2mAny.drewN ?_ _ | (with_reducible refine S2mAny.skip ?_ ?_; focus (first | omega | (simp; done))) | with_reducible refine S2mAny.alloc ?_ _), by repeat (first | with_reducible assumption | with_reducible refine S2m.drew ?_ | with_reducible refine S2m.drewN ?_ _ | (with_reducible refine S2m.skip ?_ ?_; focus (first | omega | (simp; done))) | with_reducible refine S2m.store ?_ | with_reducible refine S2m.set0 ?_ _ | with_reducible refine S2m.set1 ?_ _ | with_reducible refine S2m.new (by first | rfl | (simp; done) | with_unfolding_all rfl) (by with_unfolding_all rfl) (by with_unfolding_all rfl) | with_reducible refine S2m.alloc ?_ _ | exact S2m.any (by with_reducible assumption) | with_reducible refine S2mAny.drew ?_ | with_reducible refine S2mAny.drewN ?_ _ | (with_reducible refine S2mAny.skip ?_ ?_; focus (first | omega | (simp; done))) | with_reducible refine S2mAny.alloc ?_ _)⟩ ?_; clear EX ; rintro v1 ⟨EX, PA, PR⟩; rename World => v; have PAc0 := PA.c0; have PAc1 := PA.c1; have PAfz := PA.fz; have PAlt := PA.lt; have PRc0 := PR.c0; have PRc1 := PR.c1; have PRfz := PR.fz; have PRlt := PR.lt
  go_upto_region 2 with (first | (go_at_call 53; with_reducible refine (TA _).mono ?_; rintro e v1 ⟨rfl, hb⟩; replace EX := Ext.trans EX hb; replace PA := PA.later hb; replace PR := PR.later hb; replace PAc0 := PA.c0; replace PAc1 := PA.c1; replace PAfz := PA.fz; replace PAlt := PA.lt; replace PRc0 := PR.c0; replace PRc1 := PR.c1; replace PRfz := PR.fz; replace PRlt := PR.lt; clear hb v; rename World => v) | (refine wpList_store_mid rfl 84 _ _ rfl v.heap.size 0 (vl 82 (arcV g)).toArray rfl rfl (Vm.there (n := 82) (f := fun _ => .int .i64 0) (Vm.ofList rfl (by with_unfolding_all rfl)) (by simp [vl_len])) (by rw [List.size_toArray, vl_len]; kernel_rfl) (vl_one 82 (arcV g) (fun i => rfl)) ?_))
  obtain ⟨O, hO⟩ : ∃ O, O = Obj.cells Try.zeroCells84 84 := ⟨_, rfl⟩
  have PC := S2m.skips' (show v.heap.size ≠ w.heap.size by omega) (vl 82 (arcV g)) 0 (PA.alloc O)
  have RC := S2m.skips' (show v.heap.size ≠ w.heap.size + 1 by omega) (vl 82 (arcV g)) 0 (PR.alloc O)
  have EY := Ext.setCells' (EX.alloc O) v.heap.size EX.more (vl 82 (arcV g)) 0
  have VT := Vm.cells (v := v.alloc O) (b := v.heap.size) (n := 82) (f := fun _ => .int .i64 0) (by rw [hO]; exact Vm.ofList rfl (by with_unfolding_all rfl)) (by decide) (arcV g)
  rw [hO] at PC RC EY VT
  refine rebase (G := fun w' => Code.wp _ _ _ _ w') _ (fun v1 => Ext w v1 ∧ S2m v1 (w.heap.size) (.int .i64 x0) (.int .i64 y0) ∧ S2m v1 (w.heap.size + 1) (.int .i64 0) (.int .i64 0) ∧ Vm v1 v.heap.size 82 (arcV g)) ⟨EY, PC, RC, VT⟩ ?_
  have qw := EX.more
  clear PC RC VT EY EX PA PAc0 PAc1 PAfz PR PRc0 PRc1 PRfz PAlt hO O
  rintro v1 ⟨EX, PA, PR, VT⟩
  obtain ⟨b1, hb1⟩ : ∃ b, v.heap.size = b := ⟨_, rfl⟩
  rw [hb1] at PRlt qw VT ⊢
  have q01 : w.heap.size + 1 < b1 := PRlt
  clear hb1 PRlt v
  rename World => v
  go_wp2
  go_loopg [9, 10] 40 (fun gk j i wr => ∃ (k : Nat) (z : Int × Int) (m x y : Int) (n : Nat), k + gk = 40 ∧ i = .int .i64 ((k : Int) + 1) ∧ j = .int .i64 m ∧ Hid (R k z n ∧ z = (x, y) ∧ m = (n : Int)) ∧ Ext w wr ∧ S2m wr (w.heap.size) (.int .i64 x) (.int .i64 y) ∧ S2m wr (w.heap.size + 1) (.int .i64 0) (.int .i64 0) ∧ Vm wr (b1) (82) (arcV g))
  case atStart =>
    exact ⟨0, z0, 0, x0, y0, 0, rfl, rfl, rfl, ⟨HS.out, hz0.out, rfl⟩, EX, PA, PR, VT⟩
  case round =>
    obtain ⟨k, z, m, x, y, n, hk, rfl, rfl, HR, EX, PA, PR, VT⟩ := hrel
    obtain ⟨v, hv⟩ : ∃ v, v = wr := ⟨_, rfl⟩
    subst hv
    by_cases hlt : k < 40
    · have hki : (k : Int) + 1 ≤ 40 := by omega
      have hm0 : 0 ≤ m := by have := HR.out.2.2; omega
      have hm1 : m < 1099511627776 := by have := HL.out k z n HR.out.1; have := HR.out.2.2; omega
      have W1 := WY.out k z n HR.out.1 hlt
      have T1 := TK.out k z n HR.out.1 hlt
      have N1 : Hid (R (k + 1) (if tk k z = true then o k z else z) (if tk k z = true then 2 * n + 1 else 2 * n)) := HN.out k z n HR.out.1 hlt
      obtain ⟨c, hc⟩ : ∃ c, (g (k + 1)).1 = c := ⟨_, rfl⟩
      obtain ⟨s, hs⟩ : ∃ s, (g (k + 1)).2 = s := ⟨_, rfl⟩
      obtain ⟨ox, hox⟩ : ∃ c, (o k z).1 = c := ⟨_, rfl⟩
      obtain ⟨oy, hoy⟩ : ∃ s, (o k z).2 = s := ⟨_, rfl⟩
      have JT := VT.at (i := (k + 1) * 2) (by omega)
      rw [arcV_0, arcV_1, hc, hs] at JT
      rw [show z.1 = x by rw [HR.out.2.1], show z.2 = y by rw [HR.out.2.1], hc, hs, hox, hoy] at W1
      rw [hox, hoy] at T1
      have HO : Hid (o k z = (ox, oy)) := (by show o k z = (ox, oy); rw [← hox, ← hoy])
      clear hc hs hox hoy
      have HR' : Hid (z = (x, y) ∧ m = (n : Int)) := HR.out.2
      clear HR
      obtain ⟨t, ht⟩ : ∃ t, tk k z = t := ⟨_, rfl⟩
      rw [ht] at T1
      have N2 := N1.out
      rw [ht] at N2
      have N3 : Hid (R (k + 1) (if t = true then o k z else z) (if t = true then 2 * n + 1 else 2 * n)) := N2
      clear N1 N2 ht
      cases t
      · have N4 : Hid (R (k + 1) z (2 * n)) := (by have := N3.out; rw [if_neg (by decide), if_neg (by decide)] at this; exact this)
        clear N3 HO
        have PAc0 := PA.c0; have PAc1 := PA.c1; have PAfz := PA.fz; have PAlt := PA.lt; have PRc0 := PR.c0; have PRc1 := PR.c1; have PRfz := PR.fz; have PRlt := PR.lt; have VTdg := VT.dg; have VTfz := VT.fz; have VTlt := VT.lt; have JTci := JT.ci; have JTcj := JT.cj; have JTfz := JT.fz; have JTlt := JT.lt
        go_upto_region 7 with fail
        refine wp_region_many 7 [(6, 11, (.cells #[.int .i64 0, .int .i64 0] 37))] (fun i => false) (by kernel_rfl) (by kernel_rfl) (by kernel_rfl) (fun c a x v w h => by cases x <;> exact h) ?_ ?_ ?_; (focus (intro i o hi ho; simp at hi)); (focus (intro m hm o ho a w; simp only [List.mem_cons, List.not_mem_nil, or_false] at hm; rcases hm with rfl <;> (cases ho; go_simp))); intro B hB l' hl'; simp [dumbsM, dumbM, isNew] at hl'; subst hl'; have gPAc0 := fun x' : Grow B => (PA.later (Ext.trans hB x'.ext)).c0; have gPAc1 := fun x' : Grow B => (PA.later (Ext.trans hB x'.ext)).c1; have gPAfz := fun x' : Grow B => (PA.later (Ext.trans hB x'.ext)).fz; have gPAlt := fun x' : Grow B => (PA.later (Ext.trans hB x'.ext)).lt; have gPRc0 := fun x' : Grow B => (PR.later (Ext.trans hB x'.ext)).c0; have gPRc1 := fun x' : Grow B => (PR.later (Ext.trans hB x'.ext)).c1; have gPRfz := fun x' : Grow B => (PR.later (Ext.trans hB x'.ext)).fz; have gPRlt := fun x' : Grow B => (PR.later (Ext.trans hB x'.ext)).lt; have gVTdg := fun x' : Grow B => (VT.later (Ext.trans hB x'.ext)).dg; have gVTfz := fun x' : Grow B => (VT.later (Ext.trans hB x'.ext)).fz; have gVTlt := fun x' : Grow B => (VT.later (Ext.trans hB x'.ext)).lt; have gJTci := fun x' : Grow B => (JT.later (Ext.trans hB x'.ext)).ci; have gJTcj := fun x' : Grow B => (JT.later (Ext.trans hB x'.ext)).cj; have gJTfz := fun x' : Grow B => (JT.later (Ext.trans hB x'.ext)).fz; have gJTlt := fun x' : Grow B => (JT.later (Ext.trans hB x'.ext)).lt; (repeat (first | go_big_quiet_step ((go_at_call 69; with_reducible exact calls_grow (W1 _))) | go_big_quiet_step (fail))); refine wpQuiet_nil ?_; clear gPAc0 gPAc1 gPAfz gPAlt gPRc0 gPRc1 gPRfz gPRlt gVTdg gVTfz gVTlt gJTci gJTcj gJTfz gJTlt; clear hB B; intro bs v1 hv hms hne t ht; simp at ht; subst ht; simp only [puts, if_true]; obtain ⟨wn, n1, n2, n3⟩ := hms _ List.mem_cons_self; replace n3 : bs 6 = wn.heap.size := n3; have PO : S2m v1 (bs 6) (.int .i64 0) (.int .i64 0) := (by rw [n3]; exact S2m.later n2 (S2m.new rfl (by with_unfolding_all rfl) (by with_unfolding_all rfl))); have n4 := n1.more; have n5 := EX.more; have qPO_w : w.heap.size ≤ bs 6 := (by omega); have qPO_PA : w.heap.size < bs 6 := (by have := PA.lt; omega); have qPO_PR : w.heap.size + 1 < bs 6 := (by have := PR.lt; omega); have qPO_VT : b1 < bs 6 := (by have := VT.lt; omega); have qPO_JT : b1 < bs 6 := (by have := JT.lt; omega); clear n1 n2 n3 n4 n5 wn; clear hms hne; replace EX := Ext.trans EX hv; replace PA := PA.later hv; replace PR := PR.later hv; replace VT := VT.later hv; clear PAc0 PAc1 PAfz PAlt PRc0 PRc1 PRfz PRlt VTdg VTfz VTlt JTci JTcj JTfz JTlt; clear JT; clear hv v; generalize bs 6 = b2 at *; clear bs; rename World => v; have PAc0 := PA.c0; have PAc1 := PA.c1; have PAfz := PA.fz; have PAlt := PA.lt; have PRc0 := PR.c0; have PRc1 := PR.c1; have PRfz := PR.fz; have PRlt := PR.lt; have VTdg := VT.dg; have VTfz := VT.fz; have VTlt := VT.lt; have POc0 := PO.c0; have POc1 := PO.c1; have POfz := PO.fz; have POlt := PO.lt
        go_upto_region 8 with fail
        refine rebase (G := fun w' => Code.wp _ _ _ _ w') _ (fun v1 => Ext w v1 ∧ S2m v1 (w.heap.size) (.int .i64 x) (.int .i64 y) ∧ S2m v1 (w.heap.size + 1) (.int .i64 0) (.int .i64 0) ∧ Vm v1 (b1) (82) (arcV g) ∧ S2m v1 (b2) (.int .i64 ox) (.int .i64 oy)) ⟨by repeat (first | with_reducible exact EX | with_reducible refine Ext.alloc ?_ _ | with_reducible refine Ext.drew ?_ | with_reducible refine Ext.drewN ?_ _ | with_reducible refine Ext.setCell ?_ (by first | (simp; done) | omega | (dsimp only; omega)) _), by repeat (first | with_reducible assumption | with_reducible refine S2m.drew ?_ | with_reducible refine S2m.drewN ?_ _ | (with_reducible refine S2m.skip ?_ ?_; focus (first | omega | (simp; done))) | with_reducible refine S2m.store ?_ | with_reducible refine S2m.set0 ?_ _ | with_reducible refine S2m.set1 ?_ _ | with_reducible refine S2m.new (by first | rfl | (simp; done) | with_unfolding_all rfl) (by with_unfolding_all rfl) (by with_unfolding_all rfl) | with_reducible refine S2m.alloc ?_ _ | exact S2m.any (by with_reducible assumption) | with_reducible refine S2mAny.drew ?_ | with_reducible refine S2mAny.drewN ?_ _ | (with_reducible refine S2mAny.skip ?_ ?_; focus (first | omega | (simp; done))) | with_reducible refine S2mAny.alloc ?_ _), by repeat (first | with_reducible assumption | with_reducible refine S2m.drew ?_ | with_reducible refine S2m.drewN ?_ _ | (with_reducible refine S2m.skip ?_ ?_; focus (first | omega | (simp; done))) | with_reducible refine S2m.store ?_ | with_reducible refine S2m.set0 ?_ _ | with_reducible refine S2m.set1 ?_ _ | with_reducible refine S2m.new (by first | rfl | (simp; done) | with_unfolding_all rfl) (by with_unfolding_all rfl) (by with_unfolding_all rfl) | with_reducible refine S2m.alloc ?_ _ | exact S2m.any (by with_reducible assumption) | with_reducible refine S2mAny.drew ?_ | with_reducible refine S2mAny.drewN ?_ _ | (with_reducible refine S2mAny.skip ?_ ?_; focus (first | omega | (simp; done))) | with_reducible refine S2mAny.alloc ?_ _), by repeat (first | with_reducible assumption | with_reducible refine Vm.drew ?_ | with_reducible refine Vm.drewN ?_ _ | (with_reducible refine Vm.skip ?_ ?_; focus (first | omega | (simp; done))) | with_reducible refine Vm.alloc ?_ _), by repeat (first | with_reducible assumption | with_reducible refine S2m.drew ?_ | with_reducible refine S2m.drewN ?_ _ | (with_reducible refine S2m.skip ?_ ?_; focus (first | omega | (simp; done))) | with_reducible refine S2m.store ?_ | with_reducible refine S2m.set0 ?_ _ | with_reducible refine S2m.set1 ?_ _ | with_reducible refine S2m.new (by first | rfl | (simp; done) | with_unfolding_all rfl) (by with_unfolding_all rfl) (by with_unfolding_all rfl) | with_reducible refine S2m.alloc ?_ _ | exact S2m.any (by with_reducible assumption) | with_reducible refine S2mAny.drew ?_ | with_reducible refine S2mAny.drewN ?_ _ | (with_reducible refine S2mAny.skip ?_ ?_; focus (first | omega | (simp; done))) | with_reducible refine S2mAny.alloc ?_ _)⟩ ?_; clear PAc0 PAc1 PAfz PAlt PRc0 PRc1 PRfz PRlt VTdg VTfz VTlt POc0 POc1 POfz POlt; clear EX PA PR VT PO; rintro v1 ⟨EX, PA, PR, VT, PO⟩; clear v; rename World => v; have PAc0 := PA.c0; have PAc1 := PA.c1; have PAfz := PA.fz; have PAlt := PA.lt; have PRc0 := PR.c0; have PRc1 := PR.c1; have PRfz := PR.fz; have PRlt := PR.lt; have VTdg := VT.dg; have VTfz := VT.fz; have VTlt := VT.lt; have POc0 := PO.c0; have POc1 := PO.c1; have POfz := PO.fz; have POlt := PO.lt
        go_wp2_with (first | (go_at_call 70; with_reducible refine (T1 _ EX).mono ?_; rintro e v1 ⟨rfl, hb⟩; replace EX := Ext.trans EX hb; replace PA := PA.later hb; replace PR := PR.later hb; replace VT := VT.later hb; replace PO := PO.later hb; replace PAc0 := PA.c0; replace PAc1 := PA.c1; replace PAfz := PA.fz; replace PAlt := PA.lt; replace PRc0 := PR.c0; replace PRc1 := PR.c1; replace PRfz := PR.fz; replace PRlt := PR.lt; replace VTdg := VT.dg; replace VTfz := VT.fz; replace VTlt := VT.lt; replace POc0 := PO.c0; replace POc1 := PO.c1; replace POfz := PO.fz; replace POlt := PO.lt; clear hb v; rename World => v))
        go_roundg (gk - 1)
        case measure => omega
        case rel =>
          exact ⟨k + 1, z, _, x, y, 2 * n, by omega, by go_num, rfl, ⟨N4.out, HR'.out.1, by have := HR'.out.2; omega⟩, EX, PA, PR, VT⟩
      · have N4 : Hid (R (k + 1) (ox, oy) (2 * n + 1)) := (by have := N3.out; rw [if_pos rfl, if_pos rfl, HO.out] at this; exact this)
        clear N3 HO
        have PAc0 := PA.c0; have PAc1 := PA.c1; have PAfz := PA.fz; have PAlt := PA.lt; have PRc0 := PR.c0; have PRc1 := PR.c1; have PRfz := PR.fz; have PRlt := PR.lt; have VTdg := VT.dg; have VTfz := VT.fz; have VTlt := VT.lt; have JTci := JT.ci; have JTcj := JT.cj; have JTfz := JT.fz; have JTlt := JT.lt
        go_upto_region 7 with fail
        refine wp_region_many 7 [(6, 11, (.cells #[.int .i64 0, .int .i64 0] 37))] (fun i => false) (by kernel_rfl) (by kernel_rfl) (by kernel_rfl) (fun c a x v w h => by cases x <;> exact h) ?_ ?_ ?_; (focus (intro i o hi ho; simp at hi)); (focus (intro m hm o ho a w; simp only [List.mem_cons, List.not_mem_nil, or_false] at hm; rcases hm with rfl <;> (cases ho; go_simp))); intro B hB l' hl'; simp [dumbsM, dumbM, isNew] at hl'; subst hl'; have gPAc0 := fun x' : Grow B => (PA.later (Ext.trans hB x'.ext)).c0; have gPAc1 := fun x' : Grow B => (PA.later (Ext.trans hB x'.ext)).c1; have gPAfz := fun x' : Grow B => (PA.later (Ext.trans hB x'.ext)).fz; have gPAlt := fun x' : Grow B => (PA.later (Ext.trans hB x'.ext)).lt; have gPRc0 := fun x' : Grow B => (PR.later (Ext.trans hB x'.ext)).c0; have gPRc1 := fun x' : Grow B => (PR.later (Ext.trans hB x'.ext)).c1; have gPRfz := fun x' : Grow B => (PR.later (Ext.trans hB x'.ext)).fz; have gPRlt := fun x' : Grow B => (PR.later (Ext.trans hB x'.ext)).lt; have gVTdg := fun x' : Grow B => (VT.later (Ext.trans hB x'.ext)).dg; have gVTfz := fun x' : Grow B => (VT.later (Ext.trans hB x'.ext)).fz; have gVTlt := fun x' : Grow B => (VT.later (Ext.trans hB x'.ext)).lt; have gJTci := fun x' : Grow B => (JT.later (Ext.trans hB x'.ext)).ci; have gJTcj := fun x' : Grow B => (JT.later (Ext.trans hB x'.ext)).cj; have gJTfz := fun x' : Grow B => (JT.later (Ext.trans hB x'.ext)).fz; have gJTlt := fun x' : Grow B => (JT.later (Ext.trans hB x'.ext)).lt; (repeat (first | go_big_quiet_step ((go_at_call 69; with_reducible exact calls_grow (W1 _))) | go_big_quiet_step (fail))); refine wpQuiet_nil ?_; clear gPAc0 gPAc1 gPAfz gPAlt gPRc0 gPRc1 gPRfz gPRlt gVTdg gVTfz gVTlt gJTci gJTcj gJTfz gJTlt; clear hB B; intro bs v1 hv hms hne t ht; simp at ht; subst ht; simp only [puts, if_true]; obtain ⟨wn, n1, n2, n3⟩ := hms _ List.mem_cons_self; replace n3 : bs 6 = wn.heap.size := n3; have PO : S2m v1 (bs 6) (.int .i64 0) (.int .i64 0) := (by rw [n3]; exact S2m.later n2 (S2m.new rfl (by with_unfolding_all rfl) (by with_unfolding_all rfl))); have n4 := n1.more; have n5 := EX.more; have qPO_w : w.heap.size ≤ bs 6 := (by omega); have qPO_PA : w.heap.size < bs 6 := (by have := PA.lt; omega); have qPO_PR : w.heap.size + 1 < bs 6 := (by have := PR.lt; omega); have qPO_VT : b1 < bs 6 := (by have := VT.lt; omega); have qPO_JT : b1 < bs 6 := (by have := JT.lt; omega); clear n1 n2 n3 n4 n5 wn; clear hms hne; replace EX := Ext.trans EX hv; replace PA := PA.later hv; replace PR := PR.later hv; replace VT := VT.later hv; clear PAc0 PAc1 PAfz PAlt PRc0 PRc1 PRfz PRlt VTdg VTfz VTlt JTci JTcj JTfz JTlt; clear JT; clear hv v; generalize bs 6 = b2 at *; clear bs; rename World => v; have PAc0 := PA.c0; have PAc1 := PA.c1; have PAfz := PA.fz; have PAlt := PA.lt; have PRc0 := PR.c0; have PRc1 := PR.c1; have PRfz := PR.fz; have PRlt := PR.lt; have VTdg := VT.dg; have VTfz := VT.fz; have VTlt := VT.lt; have POc0 := PO.c0; have POc1 := PO.c1; have POfz := PO.fz; have POlt := PO.lt
        go_upto_region 8 with fail
        refine rebase (G := fun w' => Code.wp _ _ _ _ w') _ (fun v1 => Ext w v1 ∧ S2m v1 (w.heap.size) (.int .i64 x) (.int .i64 y) ∧ S2m v1 (w.heap.size + 1) (.int .i64 0) (.int .i64 0) ∧ Vm v1 (b1) (82) (arcV g) ∧ S2m v1 (b2) (.int .i64 ox) (.int .i64 oy)) ⟨by repeat (first | with_reducible exact EX | with_reducible refine Ext.alloc ?_ _ | with_reducible refine Ext.drew ?_ | with_reducible refine Ext.drewN ?_ _ | with_reducible refine Ext.setCell ?_ (by first | (simp; done) | omega | (dsimp only; omega)) _), by repeat (first | with_reducible assumption | with_reducible refine S2m.drew ?_ | with_reducible refine S2m.drewN ?_ _ | (with_reducible refine S2m.skip ?_ ?_; focus (first | omega | (simp; done))) | with_reducible refine S2m.store ?_ | with_reducible refine S2m.set0 ?_ _ | with_reducible refine S2m.set1 ?_ _ | with_reducible refine S2m.new (by first | rfl | (simp; done) | with_unfolding_all rfl) (by with_unfolding_all rfl) (by with_unfolding_all rfl) | with_reducible refine S2m.alloc ?_ _ | exact S2m.any (by with_reducible assumption) | with_reducible refine S2mAny.drew ?_ | with_reducible refine S2mAny.drewN ?_ _ | (with_reducible refine S2mAny.skip ?_ ?_; focus (first | omega | (simp; done))) | with_reducible refine S2mAny.alloc ?_ _), by repeat (first | with_reducible assumption | with_reducible refine S2m.drew ?_ | with_reducible refine S2m.drewN ?_ _ | (with_reducible refine S2m.skip ?_ ?_; focus (first | omega | (simp; done))) | with_reducible refine S2m.store ?_ | with_reducible refine S2m.set0 ?_ _ | with_reducible refine S2m.set1 ?_ _ | with_reducible refine S2m.new (by first | rfl | (simp; done) | with_unfolding_all rfl) (by with_unfolding_all rfl) (by with_unfolding_all rfl) | with_reducible refine S2m.alloc ?_ _ | exact S2m.any (by with_reducible assumption) | with_reducible refine S2mAny.drew ?_ | with_reducible refine S2mAny.drewN ?_ _ | (with_reducible refine S2mAny.skip ?_ ?_; focus (first | omega | (simp; done))) | with_reducible refine S2mAny.alloc ?_ _), by repeat (first | with_reducible assumption | with_reducible refine Vm.drew ?_ | with_reducible refine Vm.drewN ?_ _ | (with_reducible refine Vm.skip ?_ ?_; focus (first | omega | (simp; done))) | with_reducible refine Vm.alloc ?_ _), by repeat (first | with_reducible assumption | with_reducible refine S2m.drew ?_ | with_reducible refine S2m.drewN ?_ _ | (with_reducible refine S2m.skip ?_ ?_; focus (first | omega | (simp; done))) | with_reducible refine S2m.store ?_ | with_reducible refine S2m.set0 ?_ _ | with_reducible refine S2m.set1 ?_ _ | with_reducible refine S2m.new (by first | rfl | (simp; done) | with_unfolding_all rfl) (by with_unfolding_all rfl) (by with_unfolding_all rfl) | with_reducible refine S2m.alloc ?_ _ | exact S2m.any (by with_reducible assumption) | with_reducible refine S2mAny.drew ?_ | with_reducible refine S2mAny.drewN ?_ _ | (with_reducible refine S2mAny.skip ?_ ?_; focus (first | omega | (simp; done))) | with_reducible refine S2mAny.alloc ?_ _)⟩ ?_; clear PAc0 PAc1 PAfz PAlt PRc0 PRc1 PRfz PRlt VTdg VTfz VTlt POc0 POc1 POfz POlt; clear EX PA PR VT PO; rintro v1 ⟨EX, PA, PR, VT, PO⟩; clear v; rename World => v; have PAc0 := PA.c0; have PAc1 := PA.c1; have PAfz := PA.fz; have PAlt := PA.lt; have PRc0 := PR.c0; have PRc1 := PR.c1; have PRfz := PR.fz; have PRlt := PR.lt; have VTdg := VT.dg; have VTfz := VT.fz; have VTlt := VT.lt; have POc0 := PO.c0; have POc1 := PO.c1; have POfz := PO.fz; have POlt := PO.lt
        go_wp2_with (first | (go_at_call 70; with_reducible refine (T1 _ EX).mono ?_; rintro e v1 ⟨rfl, hb⟩; replace EX := Ext.trans EX hb; replace PA := PA.later hb; replace PR := PR.later hb; replace VT := VT.later hb; replace PO := PO.later hb; replace PAc0 := PA.c0; replace PAc1 := PA.c1; replace PAfz := PA.fz; replace PAlt := PA.lt; replace PRc0 := PR.c0; replace PRc1 := PR.c1; replace PRfz := PR.fz; replace PRlt := PR.lt; replace VTdg := VT.dg; replace VTfz := VT.fz; replace VTlt := VT.lt; replace POc0 := PO.c0; replace POc1 := PO.c1; replace POfz := PO.fz; replace POlt := PO.lt; clear hb v; rename World => v))
        go_roundg (gk - 1)
        case measure => omega
        case rel =>
          refine ⟨k + 1, (ox, oy), _, ox, oy, 2 * n + 1, by omega, by go_num, rfl, ⟨N4.out, rfl, by have := HR'.out.2; omega⟩, by repeat (first | with_reducible exact EX | with_reducible refine Ext.alloc ?_ _ | with_reducible refine Ext.drew ?_ | with_reducible refine Ext.drewN ?_ _ | with_reducible refine Ext.setCell ?_ (by first | (simp; done) | omega | (dsimp only; omega)) _), ?_, ?_, ?_⟩
          · repeat (first | with_reducible assumption | with_reducible refine S2m.drew ?_ | with_reducible refine S2m.drewN ?_ _ | (with_reducible refine S2m.skip ?_ ?_; focus (first | omega | (simp; done))) | with_reducible refine S2m.store ?_ | with_reducible refine S2m.set0 ?_ _ | with_reducible refine S2m.set1 ?_ _ | with_reducible refine S2m.new (by first | rfl | (simp; done) | with_unfolding_all rfl) (by with_unfolding_all rfl) (by with_unfolding_all rfl) | with_reducible refine S2m.alloc ?_ _ | exact S2m.any (by with_reducible assumption) | with_reducible refine S2mAny.drew ?_ | with_reducible refine S2mAny.drewN ?_ _ | (with_reducible refine S2mAny.skip ?_ ?_; focus (first | omega | (simp; done))) | with_reducible refine S2mAny.alloc ?_ _)
          · repeat (first | with_reducible assumption | with_reducible refine S2m.drew ?_ | with_reducible refine S2m.drewN ?_ _ | (with_reducible refine S2m.skip ?_ ?_; focus (first | omega | (simp; done))) | with_reducible refine S2m.store ?_ | with_reducible refine S2m.set0 ?_ _ | with_reducible refine S2m.set1 ?_ _ | with_reducible refine S2m.new (by first | rfl | (simp; done) | with_unfolding_all rfl) (by with_unfolding_all rfl) (by with_unfolding_all rfl) | with_reducible refine S2m.alloc ?_ _ | exact S2m.any (by with_reducible assumption) | with_reducible refine S2mAny.drew ?_ | with_reducible refine S2mAny.drewN ?_ _ | (with_reducible refine S2mAny.skip ?_ ?_; focus (first | omega | (simp; done))) | with_reducible refine S2mAny.alloc ?_ _)
          · repeat (first | with_reducible assumption | with_reducible refine Vm.drew ?_ | with_reducible refine Vm.drewN ?_ _ | (with_reducible refine Vm.skip ?_ ?_; focus (first | omega | (simp; done))) | with_reducible refine Vm.alloc ?_ _)
    · have hki : ¬ ((k : Int) + 1 ≤ 40) := by omega
      have HD : Hid (q1 = x ∧ q2 = y ∧ qm = m) := (by
        have h40 : k = 40 := by omega
        subst h40
        have := HE.out z n HR.out.1
        rw [HR.out.2.1, ← HR.out.2.2] at this
        exact this)
      clear VT
      have PAc0 := PA.c0; have PAc1 := PA.c1; have PAfz := PA.fz; have PAlt := PA.lt; have PRc0 := PR.c0; have PRc1 := PR.c1; have PRfz := PR.fz; have PRlt := PR.lt
      go_wp2
      refine rebase (G := fun w' => bodyPost _ _ _ _ _ w') _ (fun v1 => Ext w v1 ∧ S2m v1 (w.heap.size + 1) (.int .i64 x) (.int .i64 y)) ⟨by repeat (first | with_reducible exact EX | with_reducible refine Ext.alloc ?_ _ | with_reducible refine Ext.drew ?_ | with_reducible refine Ext.drewN ?_ _ | with_reducible refine Ext.setCell ?_ (by first | (simp; done) | omega | (dsimp only; omega)) _), by repeat (first | with_reducible assumption | with_reducible refine S2m.drew ?_ | with_reducible refine S2m.drewN ?_ _ | (with_reducible refine S2m.skip ?_ ?_; focus (first | omega | (simp; done))) | with_reducible refine S2m.store ?_ | with_reducible refine S2m.set0 ?_ _ | with_reducible refine S2m.set1 ?_ _ | with_reducible refine S2m.new (by first | rfl | (simp; done) | with_unfolding_all rfl) (by with_unfolding_all rfl) (by with_unfolding_all rfl) | with_reducible refine S2m.alloc ?_ _ | exact S2m.any (by with_reducible assumption) | with_reducible refine S2mAny.drew ?_ | with_reducible refine S2mAny.drewN ?_ _ | (with_reducible refine S2mAny.skip ?_ ?_; focus (first | omega | (simp; done))) | with_reducible refine S2mAny.alloc ?_ _)⟩ ?_; clear PAc0 PAc1 PAfz PAlt PRc0 PRc1 PRfz PRlt; clear EX PA PR; rintro v1 ⟨EX, PR⟩; clear v; rename World => v; have PRc0 := PR.c0; have PRc1 := PR.c1; have PRfz := PR.fz; have PRlt := PR.lt
      refine bodyPost_ret (v := .tuple #[.agg #[.int .i64 x, .int .i64 y], .int .i64 m]) (by simp only [results, Try.results30]; simp [go_sem, *]; try rfl) rfl ⟨by rw [HD.out.1, HD.out.2.1, HD.out.2.2], ?_⟩
      repeat (first | with_reducible exact EX | with_reducible refine Ext.alloc ?_ _ | with_reducible refine Ext.drew ?_ | with_reducible refine Ext.drewN ?_ _ | with_reducible refine Ext.setCell ?_ (by first | (simp; done) | omega | (dsimp only; omega)) _)
set_option maxRecDepth 20000 in
set_option maxHeartbeats 8000000 in
theorem turned_back_walk (z0 : Int × Int) (x0 y0 : Int) (hz0 : Hid (z0 = (x0, y0))) (R : Nat → Int × Int → Nat → Prop) (o : Nat → Int × Int → Int × Int) (tk : Nat → Int × Int → Bool) (g : Nat → Int × Int) (q1 q2 qm : Int)
    (HS : Hid (R 0 z0 0)) (HN : Hid (∀ k z m, R k z m → k < 40 → R (k + 1) (if tk k z = true then o k z else z) (if tk k z = true then 2 * m + 1 else 2 * m))) (HL : Hid (∀ k z m, R k z m → m < 1099511627776)) (HE : Hid (∀ z m, R 40 z m → q1 = z.1 ∧ q2 = z.2 ∧ qm = (m : Int)))
    (TA : ∀ w, Calls Try.prog 53 #[] w fun e w' => e = .returned (.agg (vl 82 (arcV g)).toArray) ∧ Ext w w') (w : World)
    (WY : Hid (∀ k z m, R k z m → k < 40 → ∀ v, Calls Try.prog 31 #[.agg #[.int .i64 z.1, .int .i64 z.2], .agg #[.int .i64 (g (k + 1)).1, .int .i64 (g (k + 1)).2]] v fun e w' => e = .returned (.agg #[.int .i64 (o k z).1, .int .i64 (o k z).2]) ∧ Ext v w'))
    (TK : Hid (∀ k z m, R k z m → k < 40 → ∀ v, Ext w v → Calls Try.prog 32 #[.int .i64 ((k : Int) + 1), .agg #[.int .i64 (o k z).1, .int .i64 (o k z).2]] v fun e w' => e = .returned (.bool (tk k z)) ∧ Ext v w')) :
    Calls Try.prog 30 #[.agg #[.int .i64 x0, .int .i64 y0], .func (.func 31) #[] #[], .func (.func 32) #[] #[]] w fun e w' => e = .returned (.tuple #[.agg #[.int .i64 q1, .int .i64 q2], .int .i64 qm]) ∧ Ext w w' := by
  have EX := Ext.refl w
  go_enter Try.func30, Try.ntmps30
  go_upto_region 1 with fail
  refine rebase (G := fun w' => Code.wp _ _ _ _ w') _ (fun v1 => Ext w v1 ∧ S2m v1 (w.heap.size) (.int .i64 x0) (.int .i64 y0) ∧ S2m v1 (w.heap.size + 1) (.int .i64 0) (.int .i64 0)) ⟨by repeat (first | with_reducible exact EX | with_reducible refine Ext.alloc ?_ _ | with_reducible refine Ext.drew ?_ | with_reducible refine Ext.drewN ?_ _ | with_reducible refine Ext.setCell ?_ (by first | (simp; done) | omega | (dsimp only; omega)) _), by repeat (first | with_reducible assumption | with_reducible refine S2m.drew ?_ | with_reducible refine S2m.drewN ?_ _ | (with_reducible refine S2m.skip ?_ ?_; focus (first | omega | (simp; done))) | with_reducible refine S2m.store ?_ | with_reducible refine S2m.set0 ?_ _ | with_reducible refine S2m.set1 ?_ _ | with_reducible refine S2m.new (by first | rfl | (simp; done) | with_unfolding_all rfl) (by with_unfolding_all rfl) (by with_unfolding_all rfl) | with_reducible refine S2m.alloc ?_ _ | exact S2m.any (by with_reducible assumption) | with_reducible refine S2mAny.drew ?_ | with_reducible refine S2mAny.drewN ?_ _ | (with_reducible refine S2mAny.skip ?_ ?_; focus (first | omega | (simp; done))) | with_reducible refine S2mAny.alloc ?_ _), by repeat (first | with_reducible assumption | with_reducible refine S2m.drew ?_ | with_reducible refine S2m.drewN ?_ _ | (with_reducible refine S2m.skip ?_ ?_; focus (first | omega | (simp; done))) | with_reducible refine S2m.store ?_ | with_reducible refine S2m.set0 ?_ _ | with_reducible refine S2m.set1 ?_ _ | with_reducible refine S2m.new (by first | rfl | (simp; done) | with_unfolding_all rfl) (by with_unfolding_all rfl) (by with_unfolding_all rfl) | with_reducible refine S2m.alloc ?_ _ | exact S2m.any (by with_reducible assumption) | with_reducible refine S2mAny.drew ?_ | with_reducible refine S2mAny.drewN ?_ _ | (with_reducible refine S2mAny.skip ?_ ?_; focus (first | omega | (simp; done))) | with_reducible refine S2mAny.alloc ?_ _)⟩ ?_; clear EX ; rintro v1 ⟨EX, PA, PR⟩; rename World => v; have PAc0 := PA.c0; have PAc1 := PA.c1; have PAfz := PA.fz; have PAlt := PA.lt; have PRc0 := PR.c0; have PRc1 := PR.c1; have PRfz := PR.fz; have PRlt := PR.lt
  go_upto_region 2 with (first | (go_at_call 53; with_reducible refine (TA _).mono ?_; rintro e v1 ⟨rfl, hb⟩; replace EX := Ext.trans EX hb; replace PA := PA.later hb; replace PR := PR.later hb; replace PAc0 := PA.c0; replace PAc1 := PA.c1; replace PAfz := PA.fz; replace PAlt := PA.lt; replace PRc0 := PR.c0; replace PRc1 := PR.c1; replace PRfz := PR.fz; replace PRlt := PR.lt; clear hb v; rename World => v) | (refine wpList_store_mid rfl 84 _ _ rfl v.heap.size 0 (vl 82 (arcV g)).toArray rfl rfl (Vm.there (n := 82) (f := fun _ => .int .i64 0) (Vm.ofList rfl (by with_unfolding_all rfl)) (by simp [vl_len])) (by rw [List.size_toArray, vl_len]; kernel_rfl) (vl_one 82 (arcV g) (fun i => rfl)) ?_))
  obtain ⟨O, hO⟩ : ∃ O, O = Obj.cells Try.zeroCells84 84 := ⟨_, rfl⟩
  have PC := S2m.skips' (show v.heap.size ≠ w.heap.size by omega) (vl 82 (arcV g)) 0 (PA.alloc O)
  have RC := S2m.skips' (show v.heap.size ≠ w.heap.size + 1 by omega) (vl 82 (arcV g)) 0 (PR.alloc O)
  have EY := Ext.setCells' (EX.alloc O) v.heap.size EX.more (vl 82 (arcV g)) 0
  have VT := Vm.cells (v := v.alloc O) (b := v.heap.size) (n := 82) (f := fun _ => .int .i64 0) (by rw [hO]; exact Vm.ofList rfl (by with_unfolding_all rfl)) (by decide) (arcV g)
  rw [hO] at PC RC EY VT
  refine rebase (G := fun w' => Code.wp _ _ _ _ w') _ (fun v1 => Ext w v1 ∧ S2m v1 (w.heap.size) (.int .i64 x0) (.int .i64 y0) ∧ S2m v1 (w.heap.size + 1) (.int .i64 0) (.int .i64 0) ∧ Vm v1 v.heap.size 82 (arcV g)) ⟨EY, PC, RC, VT⟩ ?_
  have qw := EX.more
  clear PC RC VT EY EX PA PAc0 PAc1 PAfz PR PRc0 PRc1 PRfz PAlt hO O
  rintro v1 ⟨EX, PA, PR, VT⟩
  obtain ⟨b1, hb1⟩ : ∃ b, v.heap.size = b := ⟨_, rfl⟩
  rw [hb1] at PRlt qw VT ⊢
  have q01 : w.heap.size + 1 < b1 := PRlt
  clear hb1 PRlt v
  rename World => v
  go_wp2
  go_loopg [9, 10] 40 (fun gk j i wr => ∃ (k : Nat) (z : Int × Int) (m x y : Int) (n : Nat), k + gk = 40 ∧ i = .int .i64 ((k : Int) + 1) ∧ j = .int .i64 m ∧ Hid (R k z n ∧ z = (x, y) ∧ m = (n : Int)) ∧ Ext w wr ∧ S2m wr (w.heap.size) (.int .i64 x) (.int .i64 y) ∧ S2m wr (w.heap.size + 1) (.int .i64 0) (.int .i64 0) ∧ Vm wr (b1) (82) (arcV g))
  case atStart =>
    exact ⟨0, z0, 0, x0, y0, 0, rfl, rfl, rfl, ⟨HS.out, hz0.out, rfl⟩, EX, PA, PR, VT⟩
  case round =>
    obtain ⟨k, z, m, x, y, n, hk, rfl, rfl, HR, EX, PA, PR, VT⟩ := hrel
    obtain ⟨v, hv⟩ : ∃ v, v = wr := ⟨_, rfl⟩
    subst hv
    by_cases hlt : k < 40
    · have hki : (k : Int) + 1 ≤ 40 := by omega
      have hm0 : 0 ≤ m := by have := HR.out.2.2; omega
      have hm1 : m < 1099511627776 := by have := HL.out k z n HR.out.1; have := HR.out.2.2; omega
      have W1 := WY.out k z n HR.out.1 hlt
      have T1 := TK.out k z n HR.out.1 hlt
      have N1 : Hid (R (k + 1) (if tk k z = true then o k z else z) (if tk k z = true then 2 * n + 1 else 2 * n)) := HN.out k z n HR.out.1 hlt
      obtain ⟨c, hc⟩ : ∃ c, (g (k + 1)).1 = c := ⟨_, rfl⟩
      obtain ⟨s, hs⟩ : ∃ s, (g (k + 1)).2 = s := ⟨_, rfl⟩
      obtain ⟨ox, hox⟩ : ∃ c, (o k z).1 = c := ⟨_, rfl⟩
      obtain ⟨oy, hoy⟩ : ∃ s, (o k z).2 = s := ⟨_, rfl⟩
      have JT := VT.at (i := (k + 1) * 2) (by omega)
      rw [arcV_0, arcV_1, hc, hs] at JT
      rw [show z.1 = x by rw [HR.out.2.1], show z.2 = y by rw [HR.out.2.1], hc, hs, hox, hoy] at W1
      rw [hox, hoy] at T1
      have HO : Hid (o k z = (ox, oy)) := (by show o k z = (ox, oy); rw [← hox, ← hoy])
      clear hc hs hox hoy
      have HR' : Hid (z = (x, y) ∧ m = (n : Int)) := HR.out.2
      clear HR
      obtain ⟨t, ht⟩ : ∃ t, tk k z = t := ⟨_, rfl⟩
      rw [ht] at T1
      have N2 := N1.out
      rw [ht] at N2
      have N3 : Hid (R (k + 1) (if t = true then o k z else z) (if t = true then 2 * n + 1 else 2 * n)) := N2
      clear N1 N2 ht
      cases t
      · have N4 : Hid (R (k + 1) z (2 * n)) := (by have := N3.out; rw [if_neg (by decide), if_neg (by decide)] at this; exact this)
        clear N3 HO
        have PAc0 := PA.c0; have PAc1 := PA.c1; have PAfz := PA.fz; have PAlt := PA.lt; have PRc0 := PR.c0; have PRc1 := PR.c1; have PRfz := PR.fz; have PRlt := PR.lt; have VTdg := VT.dg; have VTfz := VT.fz; have VTlt := VT.lt; have JTci := JT.ci; have JTcj := JT.cj; have JTfz := JT.fz; have JTlt := JT.lt
        go_upto_region 7 with fail
        refine wp_region_many 7 [(6, 11, (.cells #[.int .i64 0, .int .i64 0] 37))] (fun i => false) (by kernel_rfl) (by kernel_rfl) (by kernel_rfl) (fun c a x v w h => by cases x <;> exact h) ?_ ?_ ?_; (focus (intro i o hi ho; simp at hi)); (focus (intro m hm o ho a w; simp only [List.mem_cons, List.not_mem_nil, or_false] at hm; rcases hm with rfl <;> (cases ho; go_simp))); intro B hB l' hl'; simp [dumbsM, dumbM, isNew] at hl'; subst hl'; have gPAc0 := fun x' : Grow B => (PA.later (Ext.trans hB x'.ext)).c0; have gPAc1 := fun x' : Grow B => (PA.later (Ext.trans hB x'.ext)).c1; have gPAfz := fun x' : Grow B => (PA.later (Ext.trans hB x'.ext)).fz; have gPAlt := fun x' : Grow B => (PA.later (Ext.trans hB x'.ext)).lt; have gPRc0 := fun x' : Grow B => (PR.later (Ext.trans hB x'.ext)).c0; have gPRc1 := fun x' : Grow B => (PR.later (Ext.trans hB x'.ext)).c1; have gPRfz := fun x' : Grow B => (PR.later (Ext.trans hB x'.ext)).fz; have gPRlt := fun x' : Grow B => (PR.later (Ext.trans hB x'.ext)).lt; have gVTdg := fun x' : Grow B => (VT.later (Ext.trans hB x'.ext)).dg; have gVTfz := fun x' : Grow B => (VT.later (Ext.trans hB x'.ext)).fz; have gVTlt := fun x' : Grow B => (VT.later (Ext.trans hB x'.ext)).lt; have gJTci := fun x' : Grow B => (JT.later (Ext.trans hB x'.ext)).ci; have gJTcj := fun x' : Grow B => (JT.later (Ext.trans hB x'.ext)).cj; have gJTfz := fun x' : Grow B => (JT.later (Ext.trans hB x'.ext)).fz; have gJTlt := fun x' : Grow B => (JT.later (Ext.trans hB x'.ext)).lt; (repeat (first | go_big_quiet_step ((go_at_call 31; with_reducible exact calls_grow (W1 _))) | go_big_quiet_step (fail))); refine wpQuiet_nil ?_; clear gPAc0 gPAc1 gPAfz gPAlt gPRc0 gPRc1 gPRfz gPRlt gVTdg gVTfz gVTlt gJTci gJTcj gJTfz gJTlt; clear hB B; intro bs v1 hv hms hne t ht; simp at ht; subst ht; simp only [puts, if_true]; obtain ⟨wn, n1, n2, n3⟩ := hms _ List.mem_cons_self; replace n3 : bs 6 = wn.heap.size := n3; have PO : S2m v1 (bs 6) (.int .i64 0) (.int .i64 0) := (by rw [n3]; exact S2m.later n2 (S2m.new rfl (by with_unfolding_all rfl) (by with_unfolding_all rfl))); have n4 := n1.more; have n5 := EX.more; have qPO_w : w.heap.size ≤ bs 6 := (by omega); have qPO_PA : w.heap.size < bs 6 := (by have := PA.lt; omega); have qPO_PR : w.heap.size + 1 < bs 6 := (by have := PR.lt; omega); have qPO_VT : b1 < bs 6 := (by have := VT.lt; omega); have qPO_JT : b1 < bs 6 := (by have := JT.lt; omega); clear n1 n2 n3 n4 n5 wn; clear hms hne; replace EX := Ext.trans EX hv; replace PA := PA.later hv; replace PR := PR.later hv; replace VT := VT.later hv; clear PAc0 PAc1 PAfz PAlt PRc0 PRc1 PRfz PRlt VTdg VTfz VTlt JTci JTcj JTfz JTlt; clear JT; clear hv v; generalize bs 6 = b2 at *; clear bs; rename World => v; have PAc0 := PA.c0; have PAc1 := PA.c1; have PAfz := PA.fz; have PAlt := PA.lt; have PRc0 := PR.c0; have PRc1 := PR.c1; have PRfz := PR.fz; have PRlt := PR.lt; have VTdg := VT.dg; have VTfz := VT.fz; have VTlt := VT.lt; have POc0 := PO.c0; have POc1 := PO.c1; have POfz := PO.fz; have POlt := PO.lt
        go_upto_region 8 with fail
        refine rebase (G := fun w' => Code.wp _ _ _ _ w') _ (fun v1 => Ext w v1 ∧ S2m v1 (w.heap.size) (.int .i64 x) (.int .i64 y) ∧ S2m v1 (w.heap.size + 1) (.int .i64 0) (.int .i64 0) ∧ Vm v1 (b1) (82) (arcV g) ∧ S2m v1 (b2) (.int .i64 ox) (.int .i64 oy)) ⟨by repeat (first | with_reducible exact EX | with_reducible refine Ext.alloc ?_ _ | with_reducible refine Ext.drew ?_ | with_reducible refine Ext.drewN ?_ _ | with_reducible refine Ext.setCell ?_ (by first | (simp; done) | omega | (dsimp only; omega)) _), by repeat (first | with_reducible assumption | with_reducible refine S2m.drew ?_ | with_reducible refine S2m.drewN ?_ _ | (with_reducible refine S2m.skip ?_ ?_; focus (first | omega | (simp; done))) | with_reducible refine S2m.store ?_ | with_reducible refine S2m.set0 ?_ _ | with_reducible refine S2m.set1 ?_ _ | with_reducible refine S2m.new (by first | rfl | (simp; done) | with_unfolding_all rfl) (by with_unfolding_all rfl) (by with_unfolding_all rfl) | with_reducible refine S2m.alloc ?_ _ | exact S2m.any (by with_reducible assumption) | with_reducible refine S2mAny.drew ?_ | with_reducible refine S2mAny.drewN ?_ _ | (with_reducible refine S2mAny.skip ?_ ?_; focus (first | omega | (simp; done))) | with_reducible refine S2mAny.alloc ?_ _), by repeat (first | with_reducible assumption | with_reducible refine S2m.drew ?_ | with_reducible refine S2m.drewN ?_ _ | (with_reducible refine S2m.skip ?_ ?_; focus (first | omega | (simp; done))) | with_reducible refine S2m.store ?_ | with_reducible refine S2m.set0 ?_ _ | with_reducible refine S2m.set1 ?_ _ | with_reducible refine S2m.new (by first | rfl | (simp; done) | with_unfolding_all rfl) (by with_unfolding_all rfl) (by with_unfolding_all rfl) | with_reducible refine S2m.alloc ?_ _ | exact S2m.any (by with_reducible assumption) | with_reducible refine S2mAny.drew ?_ | with_reducible refine S2mAny.drewN ?_ _ | (with_reducible refine S2mAny.skip ?_ ?_; focus (first | omega | (simp; done))) | with_reducible refine S2mAny.alloc ?_ _), by repeat (first | with_reducible assumption | with_reducible refine Vm.drew ?_ | with_reducible refine Vm.drewN ?_ _ | (with_reducible refine Vm.skip ?_ ?_; focus (first | omega | (simp; done))) | with_reducible refine Vm.alloc ?_ _), by repeat (first | with_reducible assumption | with_reducible refine S2m.drew ?_ | with_reducible refine S2m.drewN ?_ _ | (with_reducible refine S2m.skip ?_ ?_; focus (first | omega | (simp; done))) | with_reducible refine S2m.store ?_ | with_reducible refine S2m.set0 ?_ _ | with_reducible refine S2m.set1 ?_ _ | with_reducible refine S2m.new (by first | rfl | (simp; done) | with_unfolding_all rfl) (by with_unfolding_all rfl) (by with_unfolding_all rfl) | with_reducible refine S2m.alloc ?_ _ | exact S2m.any (by with_reducible assumption) | with_reducible refine S2mAny.drew ?_ | with_reducible refine S2mAny.drewN ?_ _ | (with_reducible refine S2mAny.skip ?_ ?_; focus (first | omega | (simp; done))) | with_reducible refine S2mAny.alloc ?_ _)⟩ ?_; clear PAc0 PAc1 PAfz PAlt PRc0 PRc1 PRfz PRlt VTdg VTfz VTlt POc0 POc1 POfz POlt; clear EX PA PR VT PO; rintro v1 ⟨EX, PA, PR, VT, PO⟩; clear v; rename World => v; have PAc0 := PA.c0; have PAc1 := PA.c1; have PAfz := PA.fz; have PAlt := PA.lt; have PRc0 := PR.c0; have PRc1 := PR.c1; have PRfz := PR.fz; have PRlt := PR.lt; have VTdg := VT.dg; have VTfz := VT.fz; have VTlt := VT.lt; have POc0 := PO.c0; have POc1 := PO.c1; have POfz := PO.fz; have POlt := PO.lt
        go_wp2_with (first | (go_at_call 32; with_reducible refine (T1 _ EX).mono ?_; rintro e v1 ⟨rfl, hb⟩; replace EX := Ext.trans EX hb; replace PA := PA.later hb; replace PR := PR.later hb; replace VT := VT.later hb; replace PO := PO.later hb; replace PAc0 := PA.c0; replace PAc1 := PA.c1; replace PAfz := PA.fz; replace PAlt := PA.lt; replace PRc0 := PR.c0; replace PRc1 := PR.c1; replace PRfz := PR.fz; replace PRlt := PR.lt; replace VTdg := VT.dg; replace VTfz := VT.fz; replace VTlt := VT.lt; replace POc0 := PO.c0; replace POc1 := PO.c1; replace POfz := PO.fz; replace POlt := PO.lt; clear hb v; rename World => v))
        go_roundg (gk - 1)
        case measure => omega
        case rel =>
          exact ⟨k + 1, z, _, x, y, 2 * n, by omega, by go_num, rfl, ⟨N4.out, HR'.out.1, by have := HR'.out.2; omega⟩, EX, PA, PR, VT⟩
      · have N4 : Hid (R (k + 1) (ox, oy) (2 * n + 1)) := (by have := N3.out; rw [if_pos rfl, if_pos rfl, HO.out] at this; exact this)
        clear N3 HO
        have PAc0 := PA.c0; have PAc1 := PA.c1; have PAfz := PA.fz; have PAlt := PA.lt; have PRc0 := PR.c0; have PRc1 := PR.c1; have PRfz := PR.fz; have PRlt := PR.lt; have VTdg := VT.dg; have VTfz := VT.fz; have VTlt := VT.lt; have JTci := JT.ci; have JTcj := JT.cj; have JTfz := JT.fz; have JTlt := JT.lt
        go_upto_region 7 with fail
        refine wp_region_many 7 [(6, 11, (.cells #[.int .i64 0, .int .i64 0] 37))] (fun i => false) (by kernel_rfl) (by kernel_rfl) (by kernel_rfl) (fun c a x v w h => by cases x <;> exact h) ?_ ?_ ?_; (focus (intro i o hi ho; simp at hi)); (focus (intro m hm o ho a w; simp only [List.mem_cons, List.not_mem_nil, or_false] at hm; rcases hm with rfl <;> (cases ho; go_simp))); intro B hB l' hl'; simp [dumbsM, dumbM, isNew] at hl'; subst hl'; have gPAc0 := fun x' : Grow B => (PA.later (Ext.trans hB x'.ext)).c0; have gPAc1 := fun x' : Grow B => (PA.later (Ext.trans hB x'.ext)).c1; have gPAfz := fun x' : Grow B => (PA.later (Ext.trans hB x'.ext)).fz; have gPAlt := fun x' : Grow B => (PA.later (Ext.trans hB x'.ext)).lt; have gPRc0 := fun x' : Grow B => (PR.later (Ext.trans hB x'.ext)).c0; have gPRc1 := fun x' : Grow B => (PR.later (Ext.trans hB x'.ext)).c1; have gPRfz := fun x' : Grow B => (PR.later (Ext.trans hB x'.ext)).fz; have gPRlt := fun x' : Grow B => (PR.later (Ext.trans hB x'.ext)).lt; have gVTdg := fun x' : Grow B => (VT.later (Ext.trans hB x'.ext)).dg; have gVTfz := fun x' : Grow B => (VT.later (Ext.trans hB x'.ext)).fz; have gVTlt := fun x' : Grow B => (VT.later (Ext.trans hB x'.ext)).lt; have gJTci := fun x' : Grow B => (JT.later (Ext.trans hB x'.ext)).ci; have gJTcj := fun x' : Grow B => (JT.later (Ext.trans hB x'.ext)).cj; have gJTfz := fun x' : Grow B => (JT.later (Ext.trans hB x'.ext)).fz; have gJTlt := fun x' : Grow B => (JT.later (Ext.trans hB x'.ext)).lt; (repeat (first | go_big_quiet_step ((go_at_call 31; with_reducible exact calls_grow (W1 _))) | go_big_quiet_step (fail))); refine wpQuiet_nil ?_; clear gPAc0 gPAc1 gPAfz gPAlt gPRc0 gPRc1 gPRfz gPRlt gVTdg gVTfz gVTlt gJTci gJTcj gJTfz gJTlt; clear hB B; intro bs v1 hv hms hne t ht; simp at ht; subst ht; simp only [puts, if_true]; obtain ⟨wn, n1, n2, n3⟩ := hms _ List.mem_cons_self; replace n3 : bs 6 = wn.heap.size := n3; have PO : S2m v1 (bs 6) (.int .i64 0) (.int .i64 0) := (by rw [n3]; exact S2m.later n2 (S2m.new rfl (by with_unfolding_all rfl) (by with_unfolding_all rfl))); have n4 := n1.more; have n5 := EX.more; have qPO_w : w.heap.size ≤ bs 6 := (by omega); have qPO_PA : w.heap.size < bs 6 := (by have := PA.lt; omega); have qPO_PR : w.heap.size + 1 < bs 6 := (by have := PR.lt; omega); have qPO_VT : b1 < bs 6 := (by have := VT.lt; omega); have qPO_JT : b1 < bs 6 := (by have := JT.lt; omega); clear n1 n2 n3 n4 n5 wn; clear hms hne; replace EX := Ext.trans EX hv; replace PA := PA.later hv; replace PR := PR.later hv; replace VT := VT.later hv; clear PAc0 PAc1 PAfz PAlt PRc0 PRc1 PRfz PRlt VTdg VTfz VTlt JTci JTcj JTfz JTlt; clear JT; clear hv v; generalize bs 6 = b2 at *; clear bs; rename World => v; have PAc0 := PA.c0; have PAc1 := PA.c1; have PAfz := PA.fz; have PAlt := PA.lt; have PRc0 := PR.c0; have PRc1 := PR.c1; have PRfz := PR.fz; have PRlt := PR.lt; have VTdg := VT.dg; have VTfz := VT.fz; have VTlt := VT.lt; have POc0 := PO.c0; have POc1 := PO.c1; have POfz := PO.fz; have POlt := PO.lt
        go_upto_region 8 with fail
        refine rebase (G := fun w' => Code.wp _ _ _ _ w') _ (fun v1 => Ext w v1 ∧ S2m v1 (w.heap.size) (.int .i64 x) (.int .i64 y) ∧ S2m v1 (w.heap.size + 1) (.int .i64 0) (.int .i64 0) ∧ Vm v1 (b1) (82) (arcV g) ∧ S2m v1 (b2) (.int .i64 ox) (.int .i64 oy)) ⟨by repeat (first | with_reducible exact EX | with_reducible refine Ext.alloc ?_ _ | with_reducible refine Ext.drew ?_ | with_reducible refine Ext.drewN ?_ _ | with_reducible refine Ext.setCell ?_ (by first | (simp; done) | omega | (dsimp only; omega)) _), by repeat (first | with_reducible assumption | with_reducible refine S2m.drew ?_ | with_reducible refine S2m.drewN ?_ _ | (with_reducible refine S2m.skip ?_ ?_; focus (first | omega | (simp; done))) | with_reducible refine S2m.store ?_ | with_reducible refine S2m.set0 ?_ _ | with_reducible refine S2m.set1 ?_ _ | with_reducible refine S2m.new (by first | rfl | (simp; done) | with_unfolding_all rfl) (by with_unfolding_all rfl) (by with_unfolding_all rfl) | with_reducible refine S2m.alloc ?_ _ | exact S2m.any (by with_reducible assumption) | with_reducible refine S2mAny.drew ?_ | with_reducible refine S2mAny.drewN ?_ _ | (with_reducible refine S2mAny.skip ?_ ?_; focus (first | omega | (simp; done))) | with_reducible refine S2mAny.alloc ?_ _), by repeat (first | with_reducible assumption | with_reducible refine S2m.drew ?_ | with_reducible refine S2m.drewN ?_ _ | (with_reducible refine S2m.skip ?_ ?_; focus (first | omega | (simp; done))) | with_reducible refine S2m.store ?_ | with_reducible refine S2m.set0 ?_ _ | with_reducible refine S2m.set1 ?_ _ | with_reducible refine S2m.new (by first | rfl | (simp; done) | with_unfolding_all rfl) (by with_unfolding_all rfl) (by with_unfolding_all rfl) | with_reducible refine S2m.alloc ?_ _ | exact S2m.any (by with_reducible assumption) | with_reducible refine S2mAny.drew ?_ | with_reducible refine S2mAny.drewN ?_ _ | (with_reducible refine S2mAny.skip ?_ ?_; focus (first | omega | (simp; done))) | with_reducible refine S2mAny.alloc ?_ _), by repeat (first | with_reducible assumption | with_reducible refine Vm.drew ?_ | with_reducible refine Vm.drewN ?_ _ | (with_reducible refine Vm.skip ?_ ?_; focus (first | omega | (simp; done))) | with_reducible refine Vm.alloc ?_ _), by repeat (first | with_reducible assumption | with_reducible refine S2m.drew ?_ | with_reducible refine S2m.drewN ?_ _ | (with_reducible refine S2m.skip ?_ ?_; focus (first | omega | (simp; done))) | with_reducible refine S2m.store ?_ | with_reducible refine S2m.set0 ?_ _ | with_reducible refine S2m.set1 ?_ _ | with_reducible refine S2m.new (by first | rfl | (simp; done) | with_unfolding_all rfl) (by with_unfolding_all rfl) (by with_unfolding_all rfl) | with_reducible refine S2m.alloc ?_ _ | exact S2m.any (by with_reducible assumption) | with_reducible refine S2mAny.drew ?_ | with_reducible refine S2mAny.drewN ?_ _ | (with_reducible refine S2mAny.skip ?_ ?_; focus (first | omega | (simp; done))) | with_reducible refine S2mAny.alloc ?_ _)⟩ ?_; clear PAc0 PAc1 PAfz PAlt PRc0 PRc1 PRfz PRlt VTdg VTfz VTlt POc0 POc1 POfz POlt; clear EX PA PR VT PO; rintro v1 ⟨EX, PA, PR, VT, PO⟩; clear v; rename World => v; have PAc0 := PA.c0; have PAc1 := PA.c1; have PAfz := PA.fz; have PAlt := PA.lt; have PRc0 := PR.c0; have PRc1 := PR.c1; have PRfz := PR.fz; have PRlt := PR.lt; have VTdg := VT.dg; have VTfz := VT.fz; have VTlt := VT.lt; have POc0 := PO.c0; have POc1 := PO.c1; have POfz := PO.fz; have POlt := PO.lt
        go_wp2_with (first | (go_at_call 32; with_reducible refine (T1 _ EX).mono ?_; rintro e v1 ⟨rfl, hb⟩; replace EX := Ext.trans EX hb; replace PA := PA.later hb; replace PR := PR.later hb; replace VT := VT.later hb; replace PO := PO.later hb; replace PAc0 := PA.c0; replace PAc1 := PA.c1; replace PAfz := PA.fz; replace PAlt := PA.lt; replace PRc0 := PR.c0; replace PRc1 := PR.c1; replace PRfz := PR.fz; replace PRlt := PR.lt; replace VTdg := VT.dg; replace VTfz := VT.fz; replace VTlt := VT.lt; replace POc0 := PO.c0; replace POc1 := PO.c1; replace POfz := PO.fz; replace POlt := PO.lt; clear hb v; rename World => v))
        go_roundg (gk - 1)
        case measure => omega
        case rel =>
          refine ⟨k + 1, (ox, oy), _, ox, oy, 2 * n + 1, by omega, by go_num, rfl, ⟨N4.out, rfl, by have := HR'.out.2; omega⟩, by repeat (first | with_reducible exact EX | with_reducible refine Ext.alloc ?_ _ | with_reducible refine Ext.drew ?_ | with_reducible refine Ext.drewN ?_ _ | with_reducible refine Ext.setCell ?_ (by first | (simp; done) | omega | (dsimp only; omega)) _), ?_, ?_, ?_⟩
          · repeat (first | with_reducible assumption | with_reducible refine S2m.drew ?_ | with_reducible refine S2m.drewN ?_ _ | (with_reducible refine S2m.skip ?_ ?_; focus (first | omega | (simp; done))) | with_reducible refine S2m.store ?_ | with_reducible refine S2m.set0 ?_ _ | with_reducible refine S2m.set1 ?_ _ | with_reducible refine S2m.new (by first | rfl | (simp; done) | with_unfolding_all rfl) (by with_unfolding_all rfl) (by with_unfolding_all rfl) | with_reducible refine S2m.alloc ?_ _ | exact S2m.any (by with_reducible assumption) | with_reducible refine S2mAny.drew ?_ | with_reducible refine S2mAny.drewN ?_ _ | (with_reducible refine S2mAny.skip ?_ ?_; focus (first | omega | (simp; done))) | with_reducible refine S2mAny.alloc ?_ _)
          · repeat (first | with_reducible assumption | with_reducible refine S2m.drew ?_ | with_reducible refine S2m.drewN ?_ _ | (with_reducible refine S2m.skip ?_ ?_; focus (first | omega | (simp; done))) | with_reducible refine S2m.store ?_ | with_reducible refine S2m.set0 ?_ _ | with_reducible refine S2m.set1 ?_ _ | with_reducible refine S2m.new (by first | rfl | (simp; done) | with_unfolding_all rfl) (by with_unfolding_all rfl) (by with_unfolding_all rfl) | with_reducible refine S2m.alloc ?_ _ | exact S2m.any (by with_reducible assumption) | with_reducible refine S2mAny.drew ?_ | with_reducible refine S2mAny.drewN ?_ _ | (with_reducible refine S2mAny.skip ?_ ?_; focus (first | omega | (simp; done))) | with_reducible refine S2mAny.alloc ?_ _)
          · repeat (first | with_reducible assumption | with_reducible refine Vm.drew ?_ | with_reducible refine Vm.drewN ?_ _ | (with_reducible refine Vm.skip ?_ ?_; focus (first | omega | (simp; done))) | with_reducible refine Vm.alloc ?_ _)
    · have hki : ¬ ((k : Int) + 1 ≤ 40) := by omega
      have HD : Hid (q1 = x ∧ q2 = y ∧ qm = m) := (by
        have h40 : k = 40 := by omega
        subst h40
        have := HE.out z n HR.out.1
        rw [HR.out.2.1, ← HR.out.2.2] at this
        exact this)
      clear VT
      have PAc0 := PA.c0; have PAc1 := PA.c1; have PAfz := PA.fz; have PAlt := PA.lt; have PRc0 := PR.c0; have PRc1 := PR.c1; have PRfz := PR.fz; have PRlt := PR.lt
      go_wp2
      refine rebase (G := fun w' => bodyPost _ _ _ _ _ w') _ (fun v1 => Ext w v1 ∧ S2m v1 (w.heap.size + 1) (.int .i64 x) (.int .i64 y)) ⟨by repeat (first | with_reducible exact EX | with_reducible refine Ext.alloc ?_ _ | with_reducible refine Ext.drew ?_ | with_reducible refine Ext.drewN ?_ _ | with_reducible refine Ext.setCell ?_ (by first | (simp; done) | omega | (dsimp only; omega)) _), by repeat (first | with_reducible assumption | with_reducible refine S2m.drew ?_ | with_reducible refine S2m.drewN ?_ _ | (with_reducible refine S2m.skip ?_ ?_; focus (first | omega | (simp; done))) | with_reducible refine S2m.store ?_ | with_reducible refine S2m.set0 ?_ _ | with_reducible refine S2m.set1 ?_ _ | with_reducible refine S2m.new (by first | rfl | (simp; done) | with_unfolding_all rfl) (by with_unfolding_all rfl) (by with_unfolding_all rfl) | with_reducible refine S2m.alloc ?_ _ | exact S2m.any (by with_reducible assumption) | with_reducible refine S2mAny.drew ?_ | with_reducible refine S2mAny.drewN ?_ _ | (with_reducible refine S2mAny.skip ?_ ?_; focus (first | omega | (simp; done))) | with_reducible refine S2mAny.alloc ?_ _)⟩ ?_; clear PAc0 PAc1 PAfz PAlt PRc0 PRc1 PRfz PRlt; clear EX PA PR; rintro v1 ⟨EX, PR⟩; clear v; rename World => v; have PRc0 := PR.c0; have PRc1 := PR.c1; have PRfz := PR.fz; have PRlt := PR.lt
      refine bodyPost_ret (v := .tuple #[.agg #[.int .i64 x, .int .i64 y], .int .i64 m]) (by simp only [results, Try.results30]; simp [go_sem, *]; try rfl) rfl ⟨by rw [HD.out.1, HD.out.2.1, HD.out.2.2], ?_⟩
      repeat (first | with_reducible exact EX | with_reducible refine Ext.alloc ?_ _ | with_reducible refine Ext.drew ?_ | with_reducible refine Ext.drewN ?_ _ | with_reducible refine Ext.setCell ?_ (by first | (simp; done) | omega | (dsimp only; omega)) _)
end Go.Proofs.Ythfgeopldbcniaa
