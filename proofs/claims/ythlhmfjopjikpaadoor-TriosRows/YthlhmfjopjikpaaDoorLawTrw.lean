/- The law TriosRows, walked. -/
import Derived.Test.YthlhmfjopjikpaaDoorTrioE
import Derived.Test.YthlhmfjopjikpaaDoorTriK
import Derived.Test.YthlhmfjopjikpaaDoorListTri
import Derived.Test.YthlhmfjopjikpaaDoorListRec
import Derived.Test.YthlhmfjopjikpaaDoorLawTK
import Derived.Test.YthlhmfjopjikpaaDoorAppAny
namespace Go.Proofs.YthlhmfjopjikpaaDoor
open Go.RowKit Go.BigFrame
set_option linter.unusedSimpArgs false
set_option linter.unusedVariables false
set_option maxRecDepth 20000

theorem kinds_spot {x y : Int} (hx : 0 ≤ x ∧ x < 4294967296) (hy : 0 ≤ y ∧ y < 4294967296) : Kinds [some .u32, some .u32] [.int .u32 x, .int .u32 y] := by
  simp only [Kinds, OfKind]
  refine ⟨_, _, rfl, ⟨_, rfl, ?_⟩, _, _, rfl, ⟨_, rfl, ?_⟩, rfl⟩ <;> simp [Lit.wf, IntKind.min, IntKind.max, IntKind.signed, IntKind.bits] <;> omega
theorem self_spot {x y : Int} (hx : 0 ≤ x ∧ x < 4294967296) (hy : 0 ≤ y ∧ y < 4294967296) (w : World) : (Op.equalIn 10000 58 (.agg #[.int .u32 x, .int .u32 y]) (.agg #[.int .u32 x, .int .u32 y])).run Tryd.prog w = .ok true w :=
  eq_self 6 Tryd.underlying58 (by kernel_rfl) (by kernel_rfl) (by kernel_rfl) (by kernel_rfl) (by decide) (kinds_spot hx hy) w
/-- The place of a vertex, out of its cells. -/
theorem range_spot {v : World} {b o : Nat} {Q : Rcd} (h : v.rangeAt b o (vl 7 (rv Q))) : v.rangeAt b (o + 1) [.int .u32 Q.x, .int .u32 Q.y] := fun j u hu => by
  match j, hu with
  | 0, hu => cases hu; have := h 1 _ rfl; exact this
  | 1, hu => cases hu; have := h 2 _ rfl; rw [Nat.add_assoc]; exact this
/-- A vertex with the next flag. -/
def fl1 (R : Rcd) : Rcd := ⟨(R.f + 1) % 256, R.x, R.y, R.c⟩
theorem fl1_bare (R : Rcd) : bare (fl1 R) = bare R := rfl
/-- Vertices of which the first ones have their next flags. -/
def upto1 (i : Nat) (R : Nat → Rcd) (j : Nat) : Rcd := if j < i then fl1 (R j) else R j
theorem TrIs.five {L : Lay} {Q : Nat → Rcd} {N m r : Nat} {x : Int} {T : Nat → T3} (h : TrIs L Q N x m T) (hv : tlay L = true) (h5 : L.t = 5) (hr : L.r.toNat = r) :
    ((N % r ≠ 0 ∨ N / r < 2) ∧ x = 5 ∧ m = 0) ∨ (N % r = 0 ∧ 2 ≤ N / r ∧ x = 0 ∧ m = 2 * ((N / r - 1) * (r - 1)) ∧ ∀ k, k < m → T k = cellT Q r k) := by
  rcases h with ⟨h1, _⟩ | ⟨_, _, h3, h4, h5⟩ | ⟨_, _, h3, h4, h5, h6, h7⟩ | ⟨_, h2, _⟩
  · rw [hv] at h1; cases h1
  · rw [hr] at h3; exact .inl ⟨h3, h4, h5⟩
  · rw [hr] at h3 h4 h6 h7; exact .inr ⟨h3, h4, h5, h6, h7⟩
  · omega
theorem vs_upto {w : World} {a : Option Addr} {n i : Nat} {R : Nat → Rcd} (E : Es w 7 a n (fun j => rv (upto1 i R j))) {w0 : World} {a0 : Option Addr} (B : Vs w0 a0 n R) : Vs w a n (upto1 i R) :=
  ⟨E, fun j hj => by unfold upto1 fl1; split; (dsimp only; omega); exact B.f j hj, fun j hj => by unfold upto1 fl1; split; exact B.x j hj; exact B.x j hj, fun j hj => by unfold upto1 fl1; split; exact B.y j hj; exact B.y j hj, fun j k hj hk => by unfold upto1 fl1; split; exact B.c j k hj hk; exact B.c j k hj hk⟩
set_option maxHeartbeats 8000000 in
theorem trw_law (L : Lay) (hLr : L.r ≤ 9223372036854775807) (a : Option Addr) (N cap : Nat) (R : Nat → Rcd) (w : World) (TL : LaidL w) (B : Vs w a N R) (hcap : N ≤ cap) (ha : a = none → N = 0 ∧ cap = 0) :
    Calls Tryd.prog 6 #[(.agg (lv (L))), .slice a N cap] w fun e w' => e = .returned (.bool true) ∧ Ext w w' := by
  have EX := Ext.refl w
  have HLV : Hid (∀ v, Ext w v → Calls Tryd.prog 8 #[] v fun e w' => e = .returned (.bool true) ∧ Ext v w') := fun v h => lives10_is v (TL.later h)
  have HTL : Hid (LaidL w) := TL
  have HB : Hid (Vs w a N R) := B
  have HLr : Hid (L.r ≤ 9223372036854775807) := hLr
  have hNm := B.es.len
  obtain ⟨i0, hi0, hz0, hz1, hz2⟩ := info_parts info_recG
  clear TL B hLr
  go_enter Tryd.func6, Tryd.ntmps6
  go_upto_region 1 with fail
  refine rebase (G := fun w' => Code.wp _ _ _ _ w') _ (fun v1 => Ext w v1 ∧ Lm v1 (w.heap.size) (L)) ⟨by repeat (first | with_reducible exact EX |  with_reducible refine Ext.alloc ?_ _ | with_reducible refine Ext.drew ?_ | with_reducible refine Ext.drewN ?_ _ | with_reducible refine Ext.setCell ?_ (by first | (simp; done) | omega | (dsimp only; omega)) _), by repeat (first | with_reducible assumption | with_reducible refine Lm.drew ?_ | with_reducible refine Lm.drewN ?_ _ | (with_reducible refine Lm.skip ?_ ?_; focus (first | omega | (simp; done))) | with_reducible refine Lm.set0 ?_ _ | with_reducible refine Lm.set4 ?_ _ | with_reducible refine Lm.set5 ?_ _ | with_reducible refine Lm.setk ?_ _ (by decide) | (with_reducible refine Lm.cells1 ?_; exact ⟨_, by with_reducible assumption⟩) | (with_reducible refine Lm.skips ?_ _ _ ?_; focus (first | omega | (simp; done))) | (with_reducible refine Lm.new ?_ <;> first | rfl | (simp; done)) | (with_reducible refine Lm.fresh ?_ ?_ <;> first | rfl | (simp; done)) | with_reducible refine Lm.alloc ?_ _)⟩ ?_; clear EX ; rintro v1 ⟨EX, LB⟩; rename World => v; have LBc0 := LB.c0; have LBc1 := LB.c1; have LBc2 := LB.c2; have LBc3 := LB.c3; have LBc4 := LB.c4; have LBc5 := LB.c5; have LBdg := LB.dg; have LBfz := LB.fz; have LBlt := LB.lt
  obtain ⟨b0, hb0⟩ : ∃ b0, w.heap.size = b0 := ⟨_, rfl⟩
  rw [hb0] at LB LBc0 LBc1 LBc2 LBc3 LBc4 LBc5 LBdg LBfz LBlt ⊢
  have hb0w : w.heap.size ≤ b0 := by omega
  clear hb0
  go_upto_region 2 with fail
  refine rebase (G := fun w' => Code.wp _ _ _ _ w') _ (fun v1 => Ext w v1 ∧ Lm v1 (b0) (L.wt 5)) ⟨by repeat (first | with_reducible exact EX |  with_reducible refine Ext.alloc ?_ _ | with_reducible refine Ext.drew ?_ | with_reducible refine Ext.drewN ?_ _ | with_reducible refine Ext.setCell ?_ (by first | (simp; done) | omega | (dsimp only; omega)) _), by repeat (first | with_reducible assumption | with_reducible refine Lm.drew ?_ | with_reducible refine Lm.drewN ?_ _ | (with_reducible refine Lm.skip ?_ ?_; focus (first | omega | (simp; done))) | with_reducible refine Lm.set0 ?_ _ | with_reducible refine Lm.set4 ?_ _ | with_reducible refine Lm.set5 ?_ _ | with_reducible refine Lm.setk ?_ _ (by decide) | (with_reducible refine Lm.cells1 ?_; exact ⟨_, by with_reducible assumption⟩) | (with_reducible refine Lm.skips ?_ _ _ ?_; focus (first | omega | (simp; done))) | (with_reducible refine Lm.new ?_ <;> first | rfl | (simp; done)) | (with_reducible refine Lm.fresh ?_ ?_ <;> first | rfl | (simp; done)) | with_reducible refine Lm.alloc ?_ _)⟩ ?_; clear LBc0 LBc1 LBc2 LBc3 LBc4 LBc5 LBdg LBfz LBlt; clear EX LB; rintro v1 ⟨EX, LB⟩; clear v; rename World => v; have LBc0 := LB.c0; have LBc1 := LB.c1; have LBc2 := LB.c2; have LBc3 := LB.c3; have LBc4 := LB.c4; have LBc5 := LB.c5; have LBdg := LB.dg; have LBfz := LB.fz; have LBlt := LB.lt
  have HM : Hid ((L.wt 5).t = 5 ∧ (L.wt 5).r ≤ 9223372036854775807) := ⟨rfl, HLr.out⟩
  generalize L.wt 5 = M at *
  clear HLr
  by_cases h3 : N ≤ 500
  case neg =>
    have h3' : decide ((N : Int) > 500) = true := decide_eq_true (by omega)
    have h3'' : (500 : Int) < (N : Int) := by omega
    go_wp2_with (first | go_skip | (go_at_call 8; with_reducible refine (HLV.out _ EX).mono ?_; rintro e v9 ⟨rfl, x9⟩))
    go_ret
    exact ⟨rfl, EX.trans x9⟩
  have h3' : decide ((N : Int) > 500) = false := decide_eq_false (by omega)
  have h3'' : ¬ (500 : Int) < (N : Int) := by omega
  have HCK : Hid (∀ v, Ext w v → Calls Tryd.prog 17 #[(.agg (lv (M)))] v fun e w' => e = .returned (.int .i64 (if mayl M = true then 0 else 4)) ∧ Ext v w') := fun v h => lcheck_any M v (HTL.out.later h)
  by_cases hm : mayl M = true
  case neg =>
    have CK := HCK.out
    rw [if_neg hm] at CK
    go_wp2_with (first | go_skip | (refine wpList_load_lay (b0) _ rfl rfl rfl LB ?_) | (go_at_call 17; with_reducible refine (CK _ EX).mono ?_; rintro e v1 ⟨rfl, hb⟩; replace EX := Ext.trans EX hb; replace LB := LB.later hb; replace LBc0 := LB.c0; replace LBc1 := LB.c1; replace LBc2 := LB.c2; replace LBc3 := LB.c3; replace LBc4 := LB.c4; replace LBc5 := LB.c5; replace LBdg := LB.dg; replace LBfz := LB.fz; replace LBlt := LB.lt; clear hb v; rename World => v) | (go_at_call 8; with_reducible refine (HLV.out _ EX).mono ?_; rintro e v9 ⟨rfl, x9⟩))
    go_ret
    exact ⟨rfl, EX.trans x9⟩
  have CK := HCK.out
  rw [if_pos hm] at CK
  clear HCK
  have HT : Hid (tlay M = true) := by show tlay M = true; unfold tlay; rw [hm, HM.out.1]; rfl
  have hr2 : 2 ≤ M.r := (mayl_is hm).2.2.2.2.2.1 HM.out.1
  obtain ⟨r, hr⟩ : ∃ r : Nat, M.r = (r : Int) := ⟨M.r.toNat, by omega⟩
  have hrn : M.r.toNat = r := by omega
  have hrm : r ≤ 9223372036854775807 := by have := HM.out.2; omega
  have hr2n : 2 ≤ r := by omega
  have PC : ∀ v, Ext w v → Calls Tryd.prog 10 #[(.agg (lv (M))), .slice a N cap] v (TrAll M R N v) := fun v h => trio_any M HM.out.2 a N cap R v (HTL.out.later h) (HB.out.later h) hcap (by omega)
  have PD : Hid (∀ a' cp v R', Ext w v → Vs v a' N R' → N ≤ cp → Calls Tryd.prog 10 #[(.agg (lv (M))), .slice a' N cp] v (TrAll M R' N v)) := fun a' cp v R' h V hc => trio_any M HM.out.2 a' N cp R' v (HTL.out.later h) V hc (by omega)
  have HAB : Hid (∀ i, i < N → Bnd (R i)) := HB.out.bnd
  clear hm hr2
  go_upto_region 4 with (first | go_skip | (refine wpList_load_lay (b0) _ rfl rfl rfl LB ?_) | (go_at_call 17; with_reducible refine (CK _ EX).mono ?_; rintro e v1 ⟨rfl, hb⟩; replace EX := Ext.trans EX hb; replace LB := LB.later hb; replace LBc0 := LB.c0; replace LBc1 := LB.c1; replace LBc2 := LB.c2; replace LBc3 := LB.c3; replace LBc4 := LB.c4; replace LBc5 := LB.c5; replace LBdg := LB.dg; replace LBfz := LB.fz; replace LBlt := LB.lt; clear hb v; rename World => v))
  clear CK h3'
  go_upto_region 5 with (first | (refine wpList_load_lay (b0) _ rfl rfl rfl LB ?_) | (go_at_call 10; refine (PC _ EX).mono ?_; rintro e v1 ⟨s1, x1, m1, T1, rfl, hb, S1, n1, I1⟩; replace n1 := (fun b h => Nat.le_trans EX.more (n1 b h) : ∀ b, s1.ownBlock = some b → w.heap.size ≤ b); replace EX := Ext.trans EX hb; replace LB := LB.later hb; clear LBc0 LBc1 LBc2 LBc3 LBc4 LBc5 LBdg LBfz LBlt; clear hb v; rename World => v))
  have hI1 := I1.five HT.out HM.out.1 hrn
  have hmT := I1.le
  have HI : Hid (TrIs M R N x1 m1 T1) := I1
  clear I1 PC
  have LBc5 := LB.c5
  rw [hr] at LBc5
  obtain ⟨m, hmd⟩ : ∃ m, N / r = m := ⟨_, rfl⟩
  have hmN : m ≤ N := by rw [← hmd]; exact Nat.div_le_self _ _
  have hdiv : Int.tdiv (N : Int) (r : Int) = (m : Int) := by rw [← hmd]; rfl
  obtain ⟨k, hk⟩ : ∃ k, m * r = k := ⟨_, rfl⟩
  have hdm := Nat.div_add_mod N r
  rw [hmd] at hdm hI1
  have hkN : k ≤ N := by rw [← hk, Nat.mul_comm]; omega
  have hmul : (m : Int) * (r : Int) = (k : Int) := by rw [← hk]; exact (Int.natCast_mul m r).symm
  have hr0 : ¬ (r : Int) = 0 := by omega
  rcases hI1 with ⟨hbad, rfl, rfl⟩ | ⟨hmod, hm2, rfl, hmm, hT1⟩
  · have hc : ((k : Int) != (N : Int)) = true ∨ ((k : Int) != (N : Int)) = false ∧ decide ((m : Int) < 2) = true := by
      by_cases e : k = N
      · refine .inr ⟨by simp [e], decide_eq_true ?_⟩
        have : N % r = 0 := by rw [Nat.mul_comm, hk] at hdm; omega
        omega
      · exact .inl (by simp; omega)
    obtain ⟨a1, c1, rfl⟩ := S1.slice
    clear hbad hdm hk hmd
    rcases hc with e1 | ⟨e1, e2⟩
    all_goals
      go_wp2_with (first | go_skip | (go_at_call 8; with_reducible refine (HLV.out _ EX).mono ?_; rintro e v9 ⟨rfl, x9⟩))
      go_ret
      exact ⟨rfl, EX.trans x9⟩
  obtain rfl : k = N := by rw [Nat.mul_comm] at hk; omega
  have hm2i : decide ((m : Int) < 2) = false := decide_eq_false (by omega)
  have hrN : r ≤ k := by rw [← hk]; exact Nat.le_mul_of_pos_left r (by omega)
  have HK : Hid (m * r = k) := hk
  clear hdm hk hmd hmod
  go_upto_region 8 with (first | go_skip)
  have BE := HB.out.later EX
  have one7 : ∀ u ∈ ew 7 k (fun i => rv (R i)), u.oneCell' = true := ew_one 7 k _ (fun i hi => rv_one (R i))
  have hk0 : 0 < k := by omega
  go_upto_region 9 with (first | (at_builtin; refine wpList_append_own_any _ (by rfl) _ _ _ (by rfl) v.heap.size 63 i0 _ 7 20 Tryd.underlying28 hi0 hz0 hz1 hz2 rfl (by omega) (.slice none 0 0) 0 [] (by rfl) (World.ownsRow_nil _ _ _ _) a k cap (ew 7 k (fun i => rv (R i))) (by rfl) ha (ew_len _ _ _) BE.es.cells one7 (by unfold maxLen; omega) (by omega) (Nat.le_refl _) ?_; intro vA wA OA GA))
  have EA : Ext v wA := grown_over (World.ownsRow_nil v v.heap.size 63 7) (Ext.refl v) (Nat.le_refl _) GA
  replace OA : wA.ownsRow v.heap.size 63 7 vA k (ew 7 k (fun i => rv (R i))) := by simpa using OA
  have hgv := fun b (h : vA.ownBlock = some b) => (World.ownsRow.lt OA b h).1
  have LA : Lst wA 63 7 vA k (fun j => rv (upto1 0 R j)) := (Lst.of (own_base OA)).congr fun j t hj ht => by unfold upto1; rw [if_neg (by omega)]
  have hs1 := fun b (h : s1.ownBlock = some b) => S1.heap h
  have hb0v := LB.lt
  obtain ⟨g, cg, rfl⟩ := LA.form hk0
  have hgH := hgv g rfl
  have hg1 : ¬ s1.ownBlock = some g := fun h => by have := hs1 g h; omega
  have hg0 : g ≠ b0 := by omega
  replace EX := EX.trans EA
  replace LB := LB.later EA
  replace S1 := S1.later EA
  have hgw : w.heap.size ≤ g := by omega
  clear EA OA GA BE hgv hs1 hb0v hgH one7 LBc5 v
  rename World => v
  go_upto_region 10 with fail
  go_loopg [9] k (fun gk iv wr => ∃ i : Nat, i + gk = k ∧ iv = .int .i64 i ∧ Ext w wr ∧ Lm wr (b0) (M) ∧ Lst wr 65 21 s1 m1 (fun k => tv (T1 k)) ∧ Lst wr 63 7 (.slice (some ⟨g, 0, none⟩) k cg) k (fun j => rv (upto1 i R j)))
  case atStart => exact ⟨0, by omega, rfl, EX, LB, S1, LA⟩
  case round =>
    clear EX LB S1 LA v
    obtain ⟨i, hi, rfl, EX, LB, S1, LA⟩ := hrel
    obtain ⟨v, hv⟩ : ∃ v, v = wr := ⟨_, rfl⟩
    subst hv
    by_cases hlt : i < k
    · have hii : (i : Int) < (k : Int) := by omega
      have cf : v.cell? ⟨g, i * 7, none⟩ = some (.int .u8 (R i).f) := by
        have := LA.cell hlt (show 0 < 7 by decide)
        unfold upto1 at this
        rw [if_neg (Nat.lt_irrefl i)] at this
        exact this
      have fz : v.frozen? ⟨g, i * 7, none⟩ = false := World.ownsC.frozenAt LA _
      obtain ⟨f, hf⟩ : ∃ f, (R i).f = f := ⟨_, rfl⟩
      have HF : Hid ((R i).f = f) := hf
      rw [hf] at cf
      have hfb := HB.out.f i hlt
      rw [hf] at hfb
      have HS : Hid (Ext w v ∧ Lm v (b0) (M) ∧ Lst v 65 21 s1 m1 (fun k => tv (T1 k)) ∧ Lst v 63 7 (.slice (some ⟨g, 0, none⟩) k cg) k (fun j => rv (upto1 i R j))) := ⟨EX, LB, S1, LA⟩
      clear LA LB S1 EX hf
      go_wp2_with (first | go_skip)
      go_roundg (gk - 1)
      case measure => omega
      case rel =>
        obtain ⟨EX, LB, S1, LA⟩ := HS.out
        refine ⟨i + 1, by omega, by go_num, EX.setCell hgw _, LB.skip hg0, S1.skip hg1 _, ?_⟩
        have S2 := LA.set (i := i) (j := 0) hlt (by decide) (.int .u8 ((f + 1) % 256))
        refine S2.congr fun j t hj ht => ?_
        unfold upx upto1
        dsimp only
        by_cases e : j = i
        · subst e
          by_cases et : t = 0
          · subst et
            rw [if_pos ⟨rfl, rfl⟩, if_pos (by omega), ← HF.out]
            rfl
          · rw [if_neg (fun h => et h.2), if_neg (Nat.lt_irrefl j), if_pos (by omega)]
            match t, et with
            | 0, h => exact absurd rfl h
            | 1, _ => rfl
            | 2, _ => rfl
            | t + 3, _ => rfl
        · rw [if_neg (fun h => e h.1)]
          by_cases hji : j < i
          · rw [if_pos hji, if_pos (by omega)]
          · rw [if_neg hji, if_neg (by omega)]
    · have hii : ¬ (i : Int) < (k : Int) := by omega
      obtain rfl : i = k := by omega
      obtain ⟨_, _, hsl, ES⟩ := lst_es LA (by omega)
      cases hsl
      have VU := vs_upto ES HB.out
      have hicg := lst_cap LA
      have hmm2 : 2 * ((m : Int) - 1) * ((r : Int) - 1) = (m1 : Int) := by
        rw [hmm, Int.mul_assoc, Int.natCast_mul, Int.natCast_mul, Int.natCast_sub (by omega), Int.natCast_sub (by omega)]
        rfl
      have HMM : Hid (m1 = 2 * ((m - 1) * (r - 1))) := hmm
      clear ES LA hmm
      go_upto_region 13 with (first | go_skip)
      go_upto_region 14 with (first | (refine wpList_load_lay (b0) _ rfl rfl rfl LB ?_) | (go_at_call 10; refine (PD.out _ _ _ _ EX VU hicg).mono ?_; rintro e v1 ⟨s2, x2, m2, T2, rfl, hb, S2, n2, I2⟩; clear n2; replace EX := Ext.trans EX hb; replace LB := LB.later hb; replace S1 := S1.later hb; clear VU hb v; rename World => v))
      have hx2 : x2 = 0 ∧ m2 = m1 ∧ ∀ j, j < m1 → tv (T2 j) = tv (T1 j) := by
        rcases HI.out.five HT.out HM.out.1 hrn with ⟨_, h, _⟩ | ⟨e1, e2, _, e3, e4⟩
        · cases h
        · rcases I2.five HT.out HM.out.1 hrn with ⟨h, _⟩ | ⟨_, _, f1, f2, f3⟩
          · omega
          · refine ⟨f1, by rw [f2, e3], fun j hj => ?_⟩
            rw [f3 j (by omega), e4 j hj]
            exact cellT_bare fun q => by unfold upto1; split; exact fl1_bare _; rfl
      obtain ⟨rfl, rfl, hT2⟩ := hx2
      have hall := HI.out.all HAB.out
      obtain ⟨a1, c1, hs1, E1⟩ := lst_es S1 (by omega)
      obtain ⟨a2, c2, hs2, E2⟩ := lst_es S2 (by omega)
      subst hs1 hs2
      have SM := same_tris a1 a2 m2 c1 c2 _ _ v E1 E2 (fun j hj => by rw [hT2 j hj]) (fun j hj => tri_kinds (hall j hj))
      have LBc5 := LB.c5
      rw [hr] at LBc5
      clear E1 E2 S2 I2 hT2
      go_upto_region 16 with (first | go_skip | (refine wpList_load_lay (b0) _ rfl rfl rfl LB ?_) | (go_at_call 14; with_reducible refine SM.mono ?_; rintro e v3 ⟨rfl, x3⟩; replace EX := EX.trans x3; replace S1 := S1.later x3; replace LBc5 := x3.later LBc5; clear SM))
      obtain ⟨bv, ov, rfl, hrr⟩ := HB.out.es.form hk0
      have HR : Hid (∀ j, j < i → w.rangeAt bv (ov + j * 7) (vl 7 (rv (R j)))) := hrr
      obtain ⟨q, hq⟩ : ∃ q, (m - 1) * (r - 1) = q := ⟨_, rfl⟩
      have hmq : m2 = 2 * q := by rw [HMM.out, hq]
      have hq0 : 0 < q := by rw [← hq]; exact Nat.mul_pos (by omega) (by omega)
      obtain ⟨g1, c1', hg1⟩ := S1.form (by omega)
      cases hg1
      have HS1 : Hid (Lst v3 65 21 (.slice (some ⟨g1, 0, none⟩) m2 c1) m2 (fun k => tv (T1 k))) := S1
      have HT1 : Hid (∀ j, j < m2 → T1 j = cellT R r j) := hT1
      have HQ : Hid ((m - 1) * (r - 1) = q ∧ m2 = 2 * q) := ⟨hq, hmq⟩
      have hm2b : m2 ≤ 1000 := by omega
      clear hrr S1 hT1 hq hmq hmm2 hall LB
      go_upto_region 17 with fail
      go_loopg [12] q (fun gk iv wr => ∃ c d : Nat, d = 2 * c ∧ c + gk = q ∧ iv = .int .i64 d ∧ Ext v3 wr)
      case atStart => exact ⟨0, 0, rfl, by omega, rfl, Ext.refl v3⟩
      case round =>
        obtain ⟨c, d, hd, hc, rfl, E3⟩ := hrel
        obtain ⟨v, hv⟩ : ∃ v, v = wr := ⟨_, rfl⟩
        subst hv
        by_cases hlt : c < q
        · have hdm : d + 1 < m2 := by have := HQ.out.2; omega
          have hdi : (d : Int) < (m2 : Int) := by omega
          obtain ⟨qq, hqq⟩ : ∃ x, c / (r - 1) = x := ⟨_, rfl⟩
          obtain ⟨jj, hjj⟩ : ∃ x, c % (r - 1) = x := ⟨_, rfl⟩
          obtain ⟨qr, hqr⟩ : ∃ x, qq * r = x := ⟨_, rfl⟩
          obtain ⟨p, hp⟩ : ∃ x, qr + jj = x := ⟨_, rfl⟩
          have hpc : p + r + 1 < i := by
            have := cell_in (N := i) (r := r) (m := m) (k := d) hr2n HK.out (by rw [← HMM.out]; omega)
            rw [show d / 2 = c by omega, hqq, hqr, hjj, hp] at this
            exact this
          have e1 : cellT R r d = ⟨R p, R (p + 1), R (p + r)⟩ := by
            unfold cellT
            rw [show d / 2 = c by omega, hqq, hqr, hjj, hp]
            dsimp only
            rw [if_pos (by omega)]
          have e2 : cellT R r (d + 1) = ⟨R (p + 1), R (p + r + 1), R (p + r)⟩ := by
            unfold cellT
            rw [show (d + 1) / 2 = c by omega, hqq, hqr, hjj, hp]
            dsimp only
            rw [if_neg (by omega)]
          have b0 := HAB.out p (by omega)
          have b1 := HAB.out (p + 1) (by omega)
          have b2 := HAB.out (p + r) (by omega)
          have b3 := HAB.out (p + r + 1) (by omega)
          have r0 := range_spot (range_later (HR.out p (by omega)) (EX.trans E3))
          have r3 := range_spot (range_later (HR.out (p + r + 1) (by omega)) (EX.trans E3))
          have ta := (HS1.out.later E3).range (i := d) (by omega)
          have tb := (HS1.out.later E3).range (i := d + 1) (by omega)
          skip
          rw [HT1.out d (by omega), e1] at ta
          rw [HT1.out (d + 1) (by omega), e2] at tb
          have ua := range_parts ta
          have ub := range_parts tb
          dsimp only at ua ub
          obtain ⟨ua0, ua1, ua2⟩ := ua
          obtain ⟨ub0, ub1, ub2⟩ := ub
          have sa := range_spot ua0
          have sb := range_spot ub1
          have fa : v.cell? ⟨g1, d * 21, none⟩ = some (.int .u8 0) := ua0 0 _ rfl
          have fb : v.cell? ⟨g1, (d + 1) * 21 + 7, none⟩ = some (.int .u8 0) := ub1 0 _ rfl
          have EQ1 := fun w => self_rec (bnd_kinds (bare_bnd b1)) w
          have EQ2 := fun w => self_rec (bnd_kinds (bare_bnd b2)) w
          have EQ3 := fun w => self_spot b0.2.1 b0.2.2.1 w
          have EQ4 := fun w => self_spot b3.2.1 b3.2.2.1 w
          have L5 := E3.later LBc5
          replace sa : v.rangeAt g1 (d * 21 + 1) [.int .u32 (R p).x, .int .u32 (R p).y] := sa
          replace sb : v.rangeAt g1 ((d + 1) * 21 + 7 + 1) [.int .u32 (R (p + r + 1)).x, .int .u32 (R (p + r + 1)).y] := sb
          generalize (R p).x = x0 at *
          generalize (R p).y = y0 at *
          generalize (R (p + r + 1)).x = x3' at *
          generalize (R (p + r + 1)).y = y3 at *
          generalize rv (bare (R (p + 1))) = f1 at *
          generalize rv (bare (R (p + r))) = f2 at *
          have hr1 : ((r - 1 : Nat) : Int) = (r : Int) - 1 := by omega
          have hd2 : Int.tdiv (d : Int) 2 = (c : Int) := by
            have : ((d / 2 : Nat) : Int) = (c : Int) := by omega
            rw [← this]; rfl
          have hd2' : (d : Int) / 2 = (c : Int) := by omega
          have hq1 : Int.tdiv (c : Int) ((r : Int) - 1) = (qq : Int) := by rw [← hr1, ← hqq]; rfl
          have hq1' : (c : Int) / ((r : Int) - 1) = (qq : Int) := by rw [← hr1, ← hqq]; rfl
          have hq2 : (qq : Int) * (r : Int) = (qr : Int) := by rw [← hqr]; exact (Int.natCast_mul qq r).symm
          have hq3 : Int.tmod (c : Int) ((r : Int) - 1) = (jj : Int) := by rw [← hr1, ← hjj]; rfl
          have hq3' : (c : Int) % ((r : Int) - 1) = (jj : Int) := by rw [← hr1, ← hjj]; rfl
          have hq4 : (qr : Int) + (jj : Int) = (p : Int) := by omega
          have hrne : ¬ (r : Int) - 1 = 0 := by omega
          have hqrb : qr ≤ i := by omega
          have hjb : jj ≤ i := by omega
          have hqqb : qq ≤ i := by have : qq * 1 ≤ qq * r := Nat.mul_le_mul_left qq (by omega); omega
          have hcb : c ≤ 1000 := by omega
          have HD : Hid (d = 2 * c) := hd
          clear ta tb ua0 ub1 e1 e2 b0 b1 b2 b3 hqq hjj hqr hp hd
          go_upto_region 19 with (first | go_skip)
          have g5 := fun x' : Grow v => x'.ext.later L5
          refine wp_region_grow (by kernel_rfl) (by kernel_rfl) ?_
          (repeat (first | go_big_quiet_step (fail)))
          refine wpQuiet_nil ?_
          clear g5
          rintro _ ⟨xq, rfl⟩
          have E4 := E3.trans xq.ext
          replace ua1 := range_later ua1 xq.ext
          replace ua2 := range_later ua2 xq.ext
          replace ub0 := range_later ub0 xq.ext
          replace ub2 := range_later ub2 xq.ext
          replace sa := range_later sa xq.ext
          replace sb := range_later sb xq.ext
          replace r0 := range_later r0 xq.ext
          replace r3 := range_later r3 xq.ext
          replace fa := xq.ext.later fa
          replace fb := xq.ext.later fb
          replace L5 := xq.ext.later L5
          clear hd2 hd2' hq1 hq1' hq2 hq3 hq3' hq4 hrne
          generalize xq.out = v1 at *
          clear xq
          go_upto_region 20 with fail
          dsimp only [List.append]
          have g5 := fun x' : Grow v1 => x'.ext.later L5
          have ga := fun x' : Grow v1 => x'.ext.later fa
          have gb := fun x' : Grow v1 => x'.ext.later fb
          refine wp_region_grow (by kernel_rfl) (by kernel_rfl) ?_
          (repeat (first | (go_big_quiet_want; refine quiet_load_cells 63 _ g1 (d * 21 + 7) (vl 7 f1) _ rfl rfl (by rintro _ ⟨x', rfl⟩; exact range_later ua1 x'.ext) Tryd.underlying63 rfl (by rw [vl_len]; kernel_rfl) ?_; simp only [Act.put, List.setIfInBounds_toArray, List.set_cons_succ, List.set_cons_zero]; go_big_quiet_on) | (go_big_quiet_want; refine quiet_load_cells 63 _ g1 ((d + 1) * 21) (vl 7 f1) _ rfl rfl (by rintro _ ⟨x', rfl⟩; exact range_later ub0 x'.ext) Tryd.underlying63 rfl (by rw [vl_len]; kernel_rfl) ?_; simp only [Act.put, List.setIfInBounds_toArray, List.set_cons_succ, List.set_cons_zero]; go_big_quiet_on) | (go_big_quiet_want; refine quiet_load_cells 63 _ g1 (d * 21 + 14) (vl 7 f2) _ rfl rfl (by rintro _ ⟨x', rfl⟩; exact range_later ua2 x'.ext) Tryd.underlying63 rfl (by rw [vl_len]; kernel_rfl) ?_; simp only [Act.put, List.setIfInBounds_toArray, List.set_cons_succ, List.set_cons_zero]; go_big_quiet_on) | (go_big_quiet_want; refine quiet_load_cells 63 _ g1 ((d + 1) * 21 + 14) (vl 7 f2) _ rfl rfl (by rintro _ ⟨x', rfl⟩; exact range_later ub2 x'.ext) Tryd.underlying63 rfl (by rw [vl_len]; kernel_rfl) ?_; simp only [Act.put, List.setIfInBounds_toArray, List.set_cons_succ, List.set_cons_zero]; go_big_quiet_on) | (go_big_quiet_want; refine quiet_load_cells 58 _ g1 (d * 21 + 1) [.int .u32 x0, .int .u32 y0] _ rfl rfl (by rintro _ ⟨x', rfl⟩; exact range_later sa x'.ext) Tryd.underlying58 rfl (by kernel_rfl) ?_; simp only [Act.put, List.setIfInBounds_toArray, List.set_cons_succ, List.set_cons_zero]; go_big_quiet_on) | (go_big_quiet_want; refine quiet_load_cells 58 _ bv (ov + p * 7 + 1) [.int .u32 x0, .int .u32 y0] _ rfl rfl (by rintro _ ⟨x', rfl⟩; exact range_later r0 x'.ext) Tryd.underlying58 rfl (by kernel_rfl) ?_; simp only [Act.put, List.setIfInBounds_toArray, List.set_cons_succ, List.set_cons_zero]; go_big_quiet_on) | (go_big_quiet_want; refine quiet_load_cells 58 _ g1 ((d + 1) * 21 + 7 + 1) [.int .u32 x3', .int .u32 y3] _ rfl rfl (by rintro _ ⟨x', rfl⟩; exact range_later sb x'.ext) Tryd.underlying58 rfl (by kernel_rfl) ?_; simp only [Act.put, List.setIfInBounds_toArray, List.set_cons_succ, List.set_cons_zero]; go_big_quiet_on) | (go_big_quiet_want; refine quiet_load_cells 58 _ bv (ov + (p + r + 1) * 7 + 1) [.int .u32 x3', .int .u32 y3] _ rfl rfl (by rintro _ ⟨x', rfl⟩; exact range_later r3 x'.ext) Tryd.underlying58 rfl (by kernel_rfl) ?_; simp only [Act.put, List.setIfInBounds_toArray, List.set_cons_succ, List.set_cons_zero]; go_big_quiet_on) | go_big_quiet_step (fail)))
          refine wpQuiet_nil ?_
          clear g5 ga gb
          rintro _ ⟨xr, rfl⟩
          have E5 := E4.trans xr.ext
          go_wp2_with (first | go_skip)
          go_roundg (gk - 1)
          case measure => omega
          case rel => exact ⟨c + 1, d + 2, by have := HD.out; omega, by omega, by go_num, E5⟩
        · have hdi : ¬ (d : Int) < (m2 : Int) := by have := HQ.out.2; omega
          have EX3 := EX.trans E3
          clear hd
          go_wp2_with (first | go_skip | (go_at_call 8; with_reducible refine (HLV.out _ EX3).mono ?_; rintro e v9 ⟨rfl, x9⟩))
          go_ret
          exact ⟨rfl, EX3.trans x9⟩
end Go.Proofs.YthlhmfjopjikpaaDoor
