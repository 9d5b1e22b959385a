/- What twoTo of package powers does, called at any number: 2 to the power of it. -/
import Derived.Test.YtbkifcfienhkaaaDoorPowB
import Derived.Test.YtbkifcfienhkaaaDoorPowMN
import Derived.WalkMore
namespace Go.Proofs.YtbkifcfienhkaaaDoor
open Go.RowKit Go.BigFrame
set_option linter.unusedSimpArgs false
set_option linter.unusedVariables false
/-- The lowest bit. -/
theorem low1 (x : Int) : bits .and .i64 x 1 = x % 2 := by
  have h1 : (BitVec.ofInt 64 x).toNat = (x % 18446744073709551616).toNat := by rw [BitVec.toNat_ofInt]; rfl
  have h2 : (BitVec.ofInt 64 (1 : Int)).toNat = 1 := by decide
  show IntKind.i64.wrap ((BitVec.ofInt 64 x &&& BitVec.ofInt 64 (1 : Int)).toNat : Int) = _
  rw [BitVec.toNat_and, h1, h2, show (x % 18446744073709551616).toNat &&& 1 = (x % 18446744073709551616).toNat % 2 from Nat.and_two_pow_sub_one_eq_mod _ 1]
  have h3 : ((((x % 18446744073709551616).toNat % 2 : Nat)) : Int) = x % 2 := by omega
  rw [h3]
  simp [IntKind.wrap, IntKind.signed, IntKind.bits]
  omega
/-- A bit of a number is one of what is behind its floor. -/
theorem bit_of (e : Int) (j : Nat) (hj : j < 32) : e / 2 ^ j % 2 = (((e % 4294967296).toNat / 2 ^ j % 2 : Nat) : Int) := by
  have h0 : (0 : Int) ≤ e % 4294967296 := by omega
  obtain ⟨r, hr⟩ := Int.eq_ofNat_of_zero_le h0
  obtain ⟨d, hd⟩ : ∃ d : Nat, 32 = j + (d + 1) := ⟨31 - j, by omega⟩
  have hp : (4294967296 : Int) = (2 ^ j : Nat) * (2 * (2 ^ d : Nat)) := by
    have : (4294967296 : Nat) = 2 ^ j * (2 * 2 ^ d) := by
      rw [show (4294967296 : Nat) = 2 ^ 32 from rfl, hd, Nat.pow_add, Nat.pow_succ, Nat.mul_comm 2]
    have t : ((4294967296 : Nat) : Int) = ((2 ^ j * (2 * 2 ^ d) : Nat) : Int) := by rw [this]
    rw [Int.natCast_mul, Int.natCast_mul] at t
    exact t
  have he : e = (2 ^ j : Nat) * (2 * (2 ^ d : Nat) * (e / 4294967296)) + r := by
    rw [← Int.mul_assoc, ← hp, ← hr]; omega
  have hpos : ((2 ^ j : Nat) : Int) ≠ 0 := by have := Nat.two_pow_pos j; omega
  rw [hr, Int.toNat_natCast, show (2 : Int) ^ j = ((2 ^ j : Nat) : Int) by rw [Int.natCast_pow]; rfl]
  rw [he, Int.add_comm, Int.add_mul_ediv_left _ _ hpos, Int.mul_assoc 2, Int.add_mul_emod_self_left]
  rw [← Int.natCast_ediv]
  omega
/-- What k of the 32 bits have made of it. -/
def Half (f k p : Nat) : Prop := k ≤ 32 ∧ pwr (tab.drop k) f p = PP f
theorem Half.start (f : Nat) : Half f 0 4611686018427387904 := ⟨by decide, rfl⟩
theorem drop_tab {k : Nat} (h : k < 32) : tab.drop k = TT (k + 1) :: tab.drop (k + 1) := by
  rw [List.drop_eq_getElem_cons (show k < tab.length from h)]
  congr 1
  unfold TT
  rw [List.getD_eq_getElem?_getD, List.getElem?_cons_succ, List.getElem?_eq_getElem (show k < tab.length from h)]
  rfl
theorem Half.lt {f k p : Nat} (h : Half f k p) : p < 9223372036854775808 := by
  have h1 := pwr_ge (tab.drop k) f p (fun t ht => tab_ge t (List.mem_of_mem_drop ht))
  rw [h.2] at h1
  exact Nat.lt_of_le_of_lt h1 (PP_lt f)
theorem Half.next {f k p : Nat} (h : Half f k p) (hk : k < 32) : Half f (k + 1) (if f / 2 ^ (31 - k) % 2 = 1 then tm p (TT (k + 1)) else p) := by
  refine ⟨hk, ?_⟩
  have h2 := h.2
  rw [drop_tab hk] at h2
  unfold pwr at h2
  rw [List.length_drop, show tab.length - (k + 1) = 31 - k by rw [show tab.length = 32 from rfl]; omega] at h2
  exact h2
theorem Half.done {f p : Nat} (h : Half f 32 p) : PP f = p := by
  rw [← h.2]; rfl
theorem S2m.skips {b b' : Nat} {x y : Value} (hne : b' ≠ b) : ∀ (vs : List Value) (o : Nat) {v : World} (B : S2m v b x y), S2m (v.setCells b' o vs) b x y
  | [], _, _, B => B
  | _ :: vs, o, _, B => S2m.skips hne vs (o + 1) (B.skip hne)

set_option maxRecDepth 20000 in
set_option maxHeartbeats 8000000 in
theorem twoTo_walk (e u : Int) (f q : Nat) (hu : e / 4294967296 = u) (he : In64 e) (hq : Hid (PP f = q)) (hf : Hid (f = (e % 4294967296).toNat)) (g : Nat → Int) (hg : Hid (g = fun i => ((TT i : Nat) : Int)))
    (RT : ∀ w, Calls Tryd.prog 58 #[] w fun e w' => e = .returned (.agg (gl g).toArray) ∧ Ext w w') (w : World) :
    Calls Tryd.prog 35 #[.int .i64 e] w fun e w' => e = .returned (.agg #[.int .u64 (q : Int), .int .i64 u]) ∧ Ext w w' := by
  have EX := Ext.refl w
  go_enter Tryd.func35, Tryd.ntmps35
  go_upto_region 1 with fail
  refine rebase (G := fun w' => Code.wp _ _ _ _ w') _ (fun v1 => Ext w v1 ∧ S2m v1 (w.heap.size) (.int .u64 0) (.int .i64 0)) ⟨by repeat (first | with_reducible exact EX | with_reducible refine Ext.alloc ?_ _ | with_reducible refine Ext.drew ?_ | with_reducible refine Ext.drewN ?_ _ | with_reducible refine Ext.setCell ?_ (by first | (simp; done) | omega | (dsimp only; omega)) _), by repeat (first | with_reducible assumption | with_reducible refine S2m.drew ?_ | with_reducible refine S2m.drewN ?_ _ | (with_reducible refine S2m.skip ?_ ?_; focus (first | omega | (simp; done))) | with_reducible refine S2m.store ?_ | with_reducible refine S2m.set0 ?_ _ | with_reducible refine S2m.set1 ?_ _ | with_reducible refine S2m.new (by first | rfl | (simp; done) | with_unfolding_all rfl) (by with_unfolding_all rfl) (by with_unfolding_all rfl) | with_reducible refine S2m.alloc ?_ _ | exact S2m.any (by with_reducible assumption) | with_reducible refine S2mAny.drew ?_ | with_reducible refine S2mAny.drewN ?_ _ | (with_reducible refine S2mAny.skip ?_ ?_; focus (first | omega | (simp; done))) | with_reducible refine S2mAny.alloc ?_ _)⟩ ?_; clear EX ; rintro v1 ⟨EX, RB⟩; rename World => v; have RBc0 := RB.c0; have RBc1 := RB.c1; have RBfz := RB.fz; have RBlt := RB.lt
  go_step3
  go_upto_region 2 with (first | (go_at_call 58; with_reducible refine (RT _).mono ?_; rintro e v1 ⟨rfl, hb⟩; replace EX := Ext.trans EX hb; replace RB := RB.later hb; replace RBc0 := RB.c0; replace RBc1 := RB.c1; replace RBfz := RB.fz; replace RBlt := RB.lt; clear hb v; rename World => v) | (refine wpList_store_mid rfl 79 _ _ rfl v.heap.size 0 (gl g).toArray rfl rfl (Tm.there (g := fun _ => 0) (Tm.new rfl (all33 (by with_unfolding_all rfl) (by with_unfolding_all rfl) (by with_unfolding_all rfl) (by with_unfolding_all rfl) (by with_unfolding_all rfl) (by with_unfolding_all rfl) (by with_unfolding_all rfl) (by with_unfolding_all rfl) (by with_unfolding_all rfl) (by with_unfolding_all rfl) (by with_unfolding_all rfl) (by with_unfolding_all rfl) (by with_unfolding_all rfl) (by with_unfolding_all rfl) (by with_unfolding_all rfl) (by with_unfolding_all rfl) (by with_unfolding_all rfl) (by with_unfolding_all rfl) (by with_unfolding_all rfl) (by with_unfolding_all rfl) (by with_unfolding_all rfl) (by with_unfolding_all rfl) (by with_unfolding_all rfl) (by with_unfolding_all rfl) (by with_unfolding_all rfl) (by with_unfolding_all rfl) (by with_unfolding_all rfl) (by with_unfolding_all rfl) (by with_unfolding_all rfl) (by with_unfolding_all rfl) (by with_unfolding_all rfl) (by with_unfolding_all rfl) (by with_unfolding_all rfl))) (by simp [gl_len])) (by rw [List.size_toArray, gl_len]; kernel_rfl) (gl_one g) ?_))
  have RC := S2m.skips (show v.heap.size ≠ w.heap.size by omega) (gl g) 0 (RB.alloc (.cells #[.int .u64 0, .int .u64 0, .int .u64 0, .int .u64 0, .int .u64 0, .int .u64 0, .int .u64 0, .int .u64 0, .int .u64 0, .int .u64 0, .int .u64 0, .int .u64 0, .int .u64 0, .int .u64 0, .int .u64 0, .int .u64 0, .int .u64 0, .int .u64 0, .int .u64 0, .int .u64 0, .int .u64 0, .int .u64 0, .int .u64 0, .int .u64 0, .int .u64 0, .int .u64 0, .int .u64 0, .int .u64 0, .int .u64 0, .int .u64 0, .int .u64 0, .int .u64 0, .int .u64 0] 79))
  have TB := Tm.cells (Tm.new (f := fun _ => 0) (cs := #[.int .u64 0, .int .u64 0, .int .u64 0, .int .u64 0, .int .u64 0, .int .u64 0, .int .u64 0, .int .u64 0, .int .u64 0, .int .u64 0, .int .u64 0, .int .u64 0, .int .u64 0, .int .u64 0, .int .u64 0, .int .u64 0, .int .u64 0, .int .u64 0, .int .u64 0, .int .u64 0, .int .u64 0, .int .u64 0, .int .u64 0, .int .u64 0, .int .u64 0, .int .u64 0, .int .u64 0, .int .u64 0, .int .u64 0, .int .u64 0, .int .u64 0, .int .u64 0, .int .u64 0]) (t := 79) (v := v) rfl (all33 (by with_unfolding_all rfl) (by with_unfolding_all rfl) (by with_unfolding_all rfl) (by with_unfolding_all rfl) (by with_unfolding_all rfl) (by with_unfolding_all rfl) (by with_unfolding_all rfl) (by with_unfolding_all rfl) (by with_unfolding_all rfl) (by with_unfolding_all rfl) (by with_unfolding_all rfl) (by with_unfolding_all rfl) (by with_unfolding_all rfl) (by with_unfolding_all rfl) (by with_unfolding_all rfl) (by with_unfolding_all rfl) (by with_unfolding_all rfl) (by with_unfolding_all rfl) (by with_unfolding_all rfl) (by with_unfolding_all rfl) (by with_unfolding_all rfl) (by with_unfolding_all rfl) (by with_unfolding_all rfl) (by with_unfolding_all rfl) (by with_unfolding_all rfl) (by with_unfolding_all rfl) (by with_unfolding_all rfl) (by with_unfolding_all rfl) (by with_unfolding_all rfl) (by with_unfolding_all rfl) (by with_unfolding_all rfl) (by with_unfolding_all rfl) (by with_unfolding_all rfl))) g
  have EY := Ext.setCells (EX.alloc (.cells #[.int .u64 0, .int .u64 0, .int .u64 0, .int .u64 0, .int .u64 0, .int .u64 0, .int .u64 0, .int .u64 0, .int .u64 0, .int .u64 0, .int .u64 0, .int .u64 0, .int .u64 0, .int .u64 0, .int .u64 0, .int .u64 0, .int .u64 0, .int .u64 0, .int .u64 0, .int .u64 0, .int .u64 0, .int .u64 0, .int .u64 0, .int .u64 0, .int .u64 0, .int .u64 0, .int .u64 0, .int .u64 0, .int .u64 0, .int .u64 0, .int .u64 0, .int .u64 0, .int .u64 0] 79)) v.heap.size EX.more (gl g) 0
  refine rebase (G := fun w' => Code.wp _ _ _ _ w') _ (fun v1 => Ext w v1 ∧ S2m v1 (w.heap.size) (.int .u64 0) (.int .i64 0) ∧ Tm v1 v.heap.size g) ⟨EY, RC, TB⟩ ?_
  have qw := EX.more
  clear RC TB EY EX RB RBc0 RBc1 RBfz
  rintro v1 ⟨EX, RB, TB⟩
  obtain ⟨b1, hb1⟩ : ∃ b, v.heap.size = b := ⟨_, rfl⟩
  rw [hb1] at RBlt qw TB ⊢
  have q01 : w.heap.size < b1 := RBlt
  clear hb1 RBlt v
  rename World => v
  have RBc0 := RB.c0; have RBc1 := RB.c1; have RBfz := RB.fz; have RBlt := RB.lt; have TBdg := TB.dg; have TBfz := TB.fz; have TBlt := TB.lt
  go_wp2
  refine rebase (G := fun w' => Code.wp _ _ _ _ w') _ (fun v1 => Ext w v1 ∧ S2m v1 (w.heap.size) (.int .u64 0) (.int .i64 0) ∧ Tm v1 (b1) (g) ∧ S2m v1 (v.heap.size) (.int .u64 4611686018427387904) (.int .i64 u)) ⟨by repeat (first | with_reducible exact EX | with_reducible refine Ext.alloc ?_ _ | with_reducible refine Ext.drew ?_ | with_reducible refine Ext.drewN ?_ _ | with_reducible refine Ext.setCell ?_ (by first | (simp; done) | omega | (dsimp only; omega)) _), by repeat (first | with_reducible assumption | with_reducible refine S2m.drew ?_ | with_reducible refine S2m.drewN ?_ _ | (with_reducible refine S2m.skip ?_ ?_; focus (first | omega | (simp; done))) | with_reducible refine S2m.store ?_ | with_reducible refine S2m.set0 ?_ _ | with_reducible refine S2m.set1 ?_ _ | with_reducible refine S2m.new (by first | rfl | (simp; done) | with_unfolding_all rfl) (by with_unfolding_all rfl) (by with_unfolding_all rfl) | with_reducible refine S2m.alloc ?_ _ | exact S2m.any (by with_reducible assumption) | with_reducible refine S2mAny.drew ?_ | with_reducible refine S2mAny.drewN ?_ _ | (with_reducible refine S2mAny.skip ?_ ?_; focus (first | omega | (simp; done))) | with_reducible refine S2mAny.alloc ?_ _), by repeat (first | with_reducible assumption | with_reducible refine Tm.drew ?_ | with_reducible refine Tm.drewN ?_ _ | (with_reducible refine Tm.skip ?_ ?_; focus (first | omega | (simp; done))) | with_reducible refine Tm.store ?_ rfl rfl rfl rfl rfl rfl rfl rfl rfl rfl rfl rfl rfl rfl rfl rfl rfl rfl rfl rfl rfl rfl rfl rfl rfl rfl rfl rfl rfl rfl rfl rfl rfl | with_reducible refine Tm.new (by first | rfl | (simp; done) | with_unfolding_all rfl) (all33 (by with_unfolding_all rfl) (by with_unfolding_all rfl) (by with_unfolding_all rfl) (by with_unfolding_all rfl) (by with_unfolding_all rfl) (by with_unfolding_all rfl) (by with_unfolding_all rfl) (by with_unfolding_all rfl) (by with_unfolding_all rfl) (by with_unfolding_all rfl) (by with_unfolding_all rfl) (by with_unfolding_all rfl) (by with_unfolding_all rfl) (by with_unfolding_all rfl) (by with_unfolding_all rfl) (by with_unfolding_all rfl) (by with_unfolding_all rfl) (by with_unfolding_all rfl) (by with_unfolding_all rfl) (by with_unfolding_all rfl) (by with_unfolding_all rfl) (by with_unfolding_all rfl) (by with_unfolding_all rfl) (by with_unfolding_all rfl) (by with_unfolding_all rfl) (by with_unfolding_all rfl) (by with_unfolding_all rfl) (by with_unfolding_all rfl) (by with_unfolding_all rfl) (by with_unfolding_all rfl) (by with_unfolding_all rfl) (by with_unfolding_all rfl) (by with_unfolding_all rfl)) | with_reducible refine Tm.alloc ?_ _ | exact Tm.any (by with_reducible assumption) | with_reducible refine TmAny.drew ?_ | with_reducible refine TmAny.drewN ?_ _ | (with_reducible refine TmAny.skip ?_ ?_; focus (first | omega | (simp; done))) | with_reducible refine TmAny.alloc ?_ _), by repeat (first | with_reducible assumption | with_reducible refine S2m.drew ?_ | with_reducible refine S2m.drewN ?_ _ | (with_reducible refine S2m.skip ?_ ?_; focus (first | omega | (simp; done))) | with_reducible refine S2m.store ?_ | with_reducible refine S2m.set0 ?_ _ | with_reducible refine S2m.set1 ?_ _ | with_reducible refine S2m.new (by first | rfl | (simp; done) | with_unfolding_all rfl) (by with_unfolding_all rfl) (by with_unfolding_all rfl) | with_reducible refine S2m.alloc ?_ _ | exact S2m.any (by with_reducible assumption) | with_reducible refine S2mAny.drew ?_ | with_reducible refine S2mAny.drewN ?_ _ | (with_reducible refine S2mAny.skip ?_ ?_; focus (first | omega | (simp; done))) | with_reducible refine S2mAny.alloc ?_ _)⟩ ?_; have qRB := RB.lt; have qTB := TB.lt; have qw := EX.more; clear RBc0 RBc1 RBfz RBlt TBdg TBfz TBlt; clear EX RB TB; rintro v1 ⟨EX, RB, TB, PB⟩; obtain ⟨b2, hb2⟩ : ∃ b, v.heap.size = b := ⟨_, rfl⟩; rw [hb2] at qRB qTB qw PB ⊢; clear hb2; clear v; rename World => v; have RBc0 := RB.c0; have RBc1 := RB.c1; have RBfz := RB.fz; have RBlt := RB.lt; have TBdg := TB.dg; have TBfz := TB.fz; have TBlt := TB.lt; have PBc0 := PB.c0; have PBc1 := PB.c1; have PBfz := PB.fz; have PBlt := PB.lt
  go_step3
  go_wp2
  go_loopg [5] 32 (fun gk i wr => ∃ k p : Nat, k + gk = 32 ∧ i = .int .i64 ((k : Int) + 1) ∧ Hid (Half f k p) ∧ Ext w wr ∧ S2m wr (w.heap.size) (.int .u64 0) (.int .i64 0) ∧ Tm wr (b1) (g) ∧ S2m wr (b2) (.int .u64 (p : Int)) (.int .i64 u))
  case atStart =>
    exact ⟨0, 4611686018427387904, rfl, rfl, Half.start f, EX, RB, TB, PB⟩
  case round =>
    obtain ⟨k, p, hk, rfl, HF, EX, RB, TB, PB⟩ := hrel
    obtain ⟨v, hv⟩ : ∃ v, v = wr := ⟨_, rfl⟩
    subst hv
    by_cases hlt : k < 32
    · have hki : (k : Int) + 1 ≤ 32 := by omega
      have HN := HF.next hlt
      have hbit := bit_of e (31 - k) (by omega)
      rw [← hf] at hbit
      by_cases h1 : f / 2 ^ (31 - k) % 2 = 1
      · rw [if_pos h1] at HN
        rw [h1] at hbit
        have hb : (bits .and .i64 (e / 2 ^ (31 - k)) 1 == 0) = false := by rw [low1, hbit]; rfl
        obtain ⟨r, hr⟩ : ∃ r, tm p (TT (k + 1)) = r := ⟨_, rfl⟩
        have TM := fun w => ptimes_any p (TT (k + 1)) HF.lt (by have := TT_in (k + 1) (by omega); omega) w
        rw [hr] at TM HN
        rw [show ((TT (k + 1) : Nat) : Int) = g (k + 1) by rw [hg]] at TM
        have HN' : Hid (Half f (k + 1) r) := HN
        clear HN hr h1 hbit HF
        have TK := TB.at (i := k + 1) (by omega)
        have RBc0 := RB.c0; have RBc1 := RB.c1; have RBfz := RB.fz; have RBlt := RB.lt; have TBdg := TB.dg; have TBfz := TB.fz; have TBlt := TB.lt; have TKci := TK.ci; have TKfz := TK.fz; have TKlt := TK.lt; have PBc0 := PB.c0; have PBc1 := PB.c1; have PBfz := PB.fz; have PBlt := PB.lt
        go_upto_region 7 with fail
        refine wp_region_many 7 [] (fun i => false) (by kernel_rfl) (by kernel_rfl) (by kernel_rfl) (fun c a x v w h => by cases x <;> exact h) ?_ ?_ ?_; (focus (intro i o hi ho; simp at hi)); (focus (intro m hm; simp at hm)); intro B hB l' hl'; simp [dumbsM, dumbM, isNew] at hl'; subst hl'; have gRBc0 := fun x' : Grow B => (RB.later (Ext.trans hB x'.ext)).c0; have gRBc1 := fun x' : Grow B => (RB.later (Ext.trans hB x'.ext)).c1; have gRBfz := fun x' : Grow B => (RB.later (Ext.trans hB x'.ext)).fz; have gRBlt := fun x' : Grow B => (RB.later (Ext.trans hB x'.ext)).lt; have gTBdg := fun x' : Grow B => (TB.later (Ext.trans hB x'.ext)).dg; have gTBfz := fun x' : Grow B => (TB.later (Ext.trans hB x'.ext)).fz; have gTBlt := fun x' : Grow B => (TB.later (Ext.trans hB x'.ext)).lt; have gTKci := fun x' : Grow B => (TK.later (Ext.trans hB x'.ext)).ci; have gTKfz := fun x' : Grow B => (TK.later (Ext.trans hB x'.ext)).fz; have gTKlt := fun x' : Grow B => (TK.later (Ext.trans hB x'.ext)).lt; have gPBc0 := fun x' : Grow B => (PB.later (Ext.trans hB x'.ext)).c0; have gPBc1 := fun x' : Grow B => (PB.later (Ext.trans hB x'.ext)).c1; have gPBfz := fun x' : Grow B => (PB.later (Ext.trans hB x'.ext)).fz; have gPBlt := fun x' : Grow B => (PB.later (Ext.trans hB x'.ext)).lt; (repeat (first | go_big_quiet_step ((go_at_call 42; with_reducible exact calls_grow (TM _))) | go_big_quiet_step (fail))); refine wpQuiet_nil ?_; clear gRBc0 gRBc1 gRBfz gRBlt gTBdg gTBfz gTBlt gTKci gTKfz gTKlt gPBc0 gPBc1 gPBfz gPBlt; clear hB B; intro bs v1 hv hms hne t ht; simp at ht; subst ht; simp only [puts, if_true]; clear hms hne; replace EX := Ext.trans EX hv; replace RB := RB.later hv; replace TB := TB.later hv; replace PB := PB.later hv; clear RBc0 RBc1 RBfz RBlt TBdg TBfz TBlt TKci TKfz TKlt PBc0 PBc1 PBfz PBlt; clear TK; clear hv v; clear bs; rename World => v; have RBc0 := RB.c0; have RBc1 := RB.c1; have RBfz := RB.fz; have RBlt := RB.lt; have TBdg := TB.dg; have TBfz := TB.fz; have TBlt := TB.lt; have PBc0 := PB.c0; have PBc1 := PB.c1; have PBfz := PB.fz; have PBlt := PB.lt
        go_wp2
        go_roundg (gk - 1)
        case measure => omega
        case rel =>
          refine ⟨k + 1, r, by omega, by go_num, HN', by repeat (first | with_reducible exact EX | with_reducible refine Ext.alloc ?_ _ | with_reducible refine Ext.drew ?_ | with_reducible refine Ext.drewN ?_ _ | with_reducible refine Ext.setCell ?_ (by first | (simp; done) | omega | (dsimp only; omega)) _), ?_, ?_, ?_⟩
          · repeat (first | with_reducible assumption | with_reducible refine S2m.drew ?_ | with_reducible refine S2m.drewN ?_ _ | (with_reducible refine S2m.skip ?_ ?_; focus (first | omega | (simp; done))) | with_reducible refine S2m.store ?_ | with_reducible refine S2m.set0 ?_ _ | with_reducible refine S2m.set1 ?_ _ | with_reducible refine S2m.new (by first | rfl | (simp; done) | with_unfolding_all rfl) (by with_unfolding_all rfl) (by with_unfolding_all rfl) | with_reducible refine S2m.alloc ?_ _ | exact S2m.any (by with_reducible assumption) | with_reducible refine S2mAny.drew ?_ | with_reducible refine S2mAny.drewN ?_ _ | (with_reducible refine S2mAny.skip ?_ ?_; focus (first | omega | (simp; done))) | with_reducible refine S2mAny.alloc ?_ _)
          · repeat (first | with_reducible assumption | with_reducible refine Tm.drew ?_ | with_reducible refine Tm.drewN ?_ _ | (with_reducible refine Tm.skip ?_ ?_; focus (first | omega | (simp; done))) | with_reducible refine Tm.store ?_ rfl rfl rfl rfl rfl rfl rfl rfl rfl rfl rfl rfl rfl rfl rfl rfl rfl rfl rfl rfl rfl rfl rfl rfl rfl rfl rfl rfl rfl rfl rfl rfl rfl | with_reducible refine Tm.new (by first | rfl | (simp; done) | with_unfolding_all rfl) (all33 (by with_unfolding_all rfl) (by with_unfolding_all rfl) (by with_unfolding_all rfl) (by with_unfolding_all rfl) (by with_unfolding_all rfl) (by with_unfolding_all rfl) (by with_unfolding_all rfl) (by with_unfolding_all rfl) (by with_unfolding_all rfl) (by with_unfolding_all rfl) (by with_unfolding_all rfl) (by with_unfolding_all rfl) (by with_unfolding_all rfl) (by with_unfolding_all rfl) (by with_unfolding_all rfl) (by with_unfolding_all rfl) (by with_unfolding_all rfl) (by with_unfolding_all rfl) (by with_unfolding_all rfl) (by with_unfolding_all rfl) (by with_unfolding_all rfl) (by with_unfolding_all rfl) (by with_unfolding_all rfl) (by with_unfolding_all rfl) (by with_unfolding_all rfl) (by with_unfolding_all rfl) (by with_unfolding_all rfl) (by with_unfolding_all rfl) (by with_unfolding_all rfl) (by with_unfolding_all rfl) (by with_unfolding_all rfl) (by with_unfolding_all rfl) (by with_unfolding_all rfl)) | with_reducible refine Tm.alloc ?_ _ | exact Tm.any (by with_reducible assumption) | with_reducible refine TmAny.drew ?_ | with_reducible refine TmAny.drewN ?_ _ | (with_reducible refine TmAny.skip ?_ ?_; focus (first | omega | (simp; done))) | with_reducible refine TmAny.alloc ?_ _)
          · exact S2m.set0 PB _
      · rw [if_neg h1] at HN
        have hb : (bits .and .i64 (e / 2 ^ (31 - k)) 1 == 0) = true := by
          rw [low1, hbit, show f / 2 ^ (31 - k) % 2 = 0 by omega]; rfl
        have HN' : Hid (Half f (k + 1) p) := HN
        clear HN h1 hbit HF
        go_wp2
        go_roundg (gk - 1)
        case measure => omega
        case rel => exact ⟨k + 1, p, by omega, by go_num, HN', EX, RB, TB, PB⟩
    · have hki : ¬ ((k : Int) + 1 ≤ 32) := by omega
      have HD : Hid (q = p) := by
        rw [← hq]
        have : k = 32 := by omega
        subst this
        exact Half.done HF
      clear TB
      have RBc0 := RB.c0; have RBc1 := RB.c1; have RBfz := RB.fz; have RBlt := RB.lt; have PBc0 := PB.c0; have PBc1 := PB.c1; have PBfz := PB.fz; have PBlt := PB.lt
      go_wp2
      refine rebase (G := fun w' => bodyPost _ _ _ _ _ w') _ (fun v1 => Ext w v1 ∧ S2m v1 (w.heap.size) (.int .u64 (p : Int)) (.int .i64 u)) ⟨by repeat (first | with_reducible exact EX | with_reducible refine Ext.alloc ?_ _ | with_reducible refine Ext.drew ?_ | with_reducible refine Ext.drewN ?_ _ | with_reducible refine Ext.setCell ?_ (by first | (simp; done) | omega | (dsimp only; omega)) _), by repeat (first | with_reducible assumption | with_reducible refine S2m.drew ?_ | with_reducible refine S2m.drewN ?_ _ | (with_reducible refine S2m.skip ?_ ?_; focus (first | omega | (simp; done))) | with_reducible refine S2m.store ?_ | with_reducible refine S2m.set0 ?_ _ | with_reducible refine S2m.set1 ?_ _ | with_reducible refine S2m.new (by first | rfl | (simp; done) | with_unfolding_all rfl) (by with_unfolding_all rfl) (by with_unfolding_all rfl) | with_reducible refine S2m.alloc ?_ _ | exact S2m.any (by with_reducible assumption) | with_reducible refine S2mAny.drew ?_ | with_reducible refine S2mAny.drewN ?_ _ | (with_reducible refine S2mAny.skip ?_ ?_; focus (first | omega | (simp; done))) | with_reducible refine S2mAny.alloc ?_ _)⟩ ?_; clear RBc0 RBc1 RBfz RBlt PBc0 PBc1 PBfz PBlt; clear EX RB PB; rintro v1 ⟨EX, RB⟩; clear v; rename World => v; have RBc0 := RB.c0; have RBc1 := RB.c1; have RBfz := RB.fz; have RBlt := RB.lt
      refine bodyPost_ret (v := .agg #[.int .u64 (p : Int), .int .i64 u]) (by simp only [results, Tryd.results35]; simp [go_sem, *]) rfl ⟨by rw [HD.out], ?_⟩
      repeat (first | with_reducible exact EX | with_reducible refine Ext.alloc ?_ _ | with_reducible refine Ext.drew ?_ | with_reducible refine Ext.drewN ?_ _ | with_reducible refine Ext.setCell ?_ (by first | (simp; done) | omega | (dsimp only; omega)) _)
theorem twoTo_any (e : Int) (he : In64 e) (w : World) : Calls Tryd.prog 35 #[.int .i64 e] w fun e' w' => e' = .returned (.agg #[.int .u64 (PP (e % 4294967296).toNat : Int), .int .i64 (e / 4294967296)]) ∧ Ext w w' :=
  twoTo_walk e (e / 4294967296) (e % 4294967296).toNat _ rfl he rfl rfl (fun i => ((TT i : Nat) : Int)) rfl rootsOfTwo_any w
end Go.Proofs.YtbkifcfienhkaaaDoor
