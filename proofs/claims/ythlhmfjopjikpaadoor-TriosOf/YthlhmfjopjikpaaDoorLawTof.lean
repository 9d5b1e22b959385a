/- The law TriosOf, walked, by any contract of package trios' Of. -/
import Derived.Test.YthlhmfjopjikpaaDoorTriV
import Derived.Test.YthlhmfjopjikpaaDoorTriN
import Derived.Test.YthlhmfjopjikpaaDoorRefTriC
import Derived.Test.YthlhmfjopjikpaaDoorListTri
import Derived.Test.YthlhmfjopjikpaaDoorListRec
import Derived.Test.YthlhmfjopjikpaaDoorBkApRecTri
namespace Go.Proofs.YthlhmfjopjikpaaDoor
open Go.RowKit Go.BigFrame
set_option linter.unusedSimpArgs false
set_option linter.unusedVariables false
theorem Kinds.join {l m : List (Option IntKind)} : ∀ {cs ds : List Value}, Kinds l cs → Kinds m ds → Kinds (l ++ m) (cs ++ ds) := by
  induction l with
  | nil => intro cs ds h1 h2; simp only [Kinds] at h1; subst h1; exact h2
  | cons k ks ih => intro cs ds h1 h2; obtain ⟨c, cs', rfl, hc, h1⟩ := h1; exact ⟨c, _, rfl, hc, ih h1 h2⟩
/-- A vertex whose numbers are of their kinds. -/
def Bnd (R : Rcd) : Prop := (0 ≤ R.f ∧ R.f < 256) ∧ (0 ≤ R.x ∧ R.x < 4294967296) ∧ (0 ≤ R.y ∧ R.y < 4294967296) ∧ ∀ k, k < 4 → 0 ≤ R.c k ∧ R.c k < 65536
theorem Vs.bnd {w : World} {a : Option Addr} {n : Nat} {R : Nat → Rcd} (B : Vs w a n R) (i : Nat) (hi : i < n) : Bnd (R i) := ⟨B.f i hi, B.x i hi, B.y i hi, fun k hk => B.c i k hi hk⟩
theorem bnd_kinds {R : Rcd} (B : Bnd R) : Kinds [some .u8, some .u32, some .u32, some .u16, some .u16, some .u16, some .u16] (vl 7 (rv R)) := by
  obtain ⟨bf, bx, by', hc⟩ := B
  have c0 := hc 0 (by omega)
  have c1 := hc 1 (by omega)
  have c2 := hc 2 (by omega)
  have c3 := hc 3 (by omega)
  show Kinds _ [.int .u8 R.f, .int .u32 R.x, .int .u32 R.y, .int .u16 (R.c 0), .int .u16 (R.c 1), .int .u16 (R.c 2), .int .u16 (R.c 3)]
  clear hc
  generalize R.f = y0 at *
  generalize R.x = y1 at *
  generalize R.y = y2 at *
  generalize R.c 0 = z0 at *
  generalize R.c 1 = z1 at *
  generalize R.c 2 = z2 at *
  generalize R.c 3 = z3 at *
  simp only [Kinds, OfKind]
  refine ⟨_, _, rfl, ⟨_, rfl, ?_⟩, _, _, rfl, ⟨_, rfl, ?_⟩, _, _, rfl, ⟨_, rfl, ?_⟩, _, _, rfl, ⟨_, rfl, ?_⟩, _, _, rfl, ⟨_, rfl, ?_⟩, _, _, rfl, ⟨_, rfl, ?_⟩, _, _, rfl, ⟨_, rfl, ?_⟩, rfl⟩ <;> simp [Lit.wf, IntKind.min, IntKind.max, IntKind.signed, IntKind.bits] <;> omega
theorem bare_bnd {R : Rcd} (B : Bnd R) : Bnd (bare R) := ⟨⟨Int.le_refl 0, (show (0 : Int) < 256 by decide)⟩, B.2.1, B.2.2.1, B.2.2.2⟩
theorem tri_kinds {t : T3} (h : AllOf Bnd t) : Kinds kTri (vl 21 (tv t)) := by
  rw [tv_vl]
  exact Kinds.join (Kinds.join (bnd_kinds (bare_bnd h.1)) (bnd_kinds (bare_bnd h.2.1))) (bnd_kinds (bare_bnd h.2.2))


set_option maxRecDepth 20000 in
set_option maxHeartbeats 8000000 in
theorem tof_walk (L : Lay) (hLr : L.r ≤ 9223372036854775807) (a : Option Addr) (len cap : Nat) (R : Nat → Rcd) (w : World) (B : Vs w a len R) (ha : a = none → len = 0 ∧ cap = 0) (h5 : len ≤ 500)
    (PC : ∀ a cap v, Ext w v → Vs v a len R → len ≤ cap → Calls Tryd.prog 10 #[(.agg (lv (L))), .slice a len cap] v (TrAll L R len v))
    (LV : ∀ v, Ext w v → Calls Tryd.prog 8 #[] v fun e w' => e = .returned (.bool true) ∧ Ext v w') :
    Calls Tryd.prog 3 #[(.agg (lv (L))), .slice a len cap] w fun e w' => e = .returned (.bool true) ∧ Ext w w' := by
  have EX := Ext.refl w
  have HB : Hid (Vs w a len R) := B
  have HL : Hid (L.r ≤ 9223372036854775807) := hLr
  have hkk := fun i (hi : i < len) => bnd_kinds (B.bnd i hi)
  have HK : Hid (∀ i, i < len → Bnd (R i)) := B.bnd
  have TW := fun v (h : Ext w v) => twin_recs a len cap (fun i => rv (R i)) v (HB.out.later h).es hkk (by omega) ha
  have h50 : ¬ (500 : Int) < (len : Int) := by omega
  clear B hLr
  go_enter Tryd.func3, Tryd.ntmps3
  go_upto_region 1 with fail
  refine rebase (G := fun w' => Code.wp _ _ _ _ w') _ (fun v1 => Ext w v1 ∧ Lm v1 (w.heap.size) (L)) ⟨by repeat (first | with_reducible exact EX |  with_reducible refine Ext.alloc ?_ _ | with_reducible refine Ext.drew ?_ | with_reducible refine Ext.drewN ?_ _ | with_reducible refine Ext.setCell ?_ (by first | (simp; done) | omega | (dsimp only; omega)) _), by repeat (first | with_reducible assumption | with_reducible refine Lm.drew ?_ | with_reducible refine Lm.drewN ?_ _ | (with_reducible refine Lm.skip ?_ ?_; focus (first | omega | (simp; done))) | with_reducible refine Lm.set0 ?_ _ | with_reducible refine Lm.set4 ?_ _ | with_reducible refine Lm.set5 ?_ _ | with_reducible refine Lm.setk ?_ _ (by decide) | (with_reducible refine Lm.cells1 ?_; exact ⟨_, by with_reducible assumption⟩) | (with_reducible refine Lm.skips ?_ _ _ ?_; focus (first | omega | (simp; done))) | (with_reducible refine Lm.new ?_ <;> first | rfl | (simp; done)) | (with_reducible refine Lm.fresh ?_ ?_ <;> first | rfl | (simp; done)) | with_reducible refine Lm.alloc ?_ _)⟩ ?_; clear EX ; rintro v1 ⟨EX, LB⟩; rename World => v; have LBc0 := LB.c0; have LBc1 := LB.c1; have LBc2 := LB.c2; have LBc3 := LB.c3; have LBc4 := LB.c4; have LBc5 := LB.c5; have LBdg := LB.dg; have LBfz := LB.fz; have LBlt := LB.lt
  obtain ⟨b0, hb0⟩ : ∃ b0, w.heap.size = b0 := ⟨_, rfl⟩
  rw [hb0] at LB LBc0 LBc1 LBc2 LBc3 LBc4 LBc5 LBdg LBfz LBlt ⊢
  go_upto_region 4 with (first | (go_at_call 9; refine (TW _ EX).mono ?_; rintro e v1 ⟨g, rfl, hg, hb, OT⟩; have hgw : w.heap.size ≤ g := Nat.le_trans EX.more hg; clear hg; replace EX := Ext.trans EX hb; replace LB := LB.later hb; replace LBc0 := LB.c0; replace LBc1 := LB.c1; replace LBc2 := LB.c2; replace LBc3 := LB.c3; replace LBc4 := LB.c4; replace LBc5 := LB.c5; replace LBdg := LB.dg; replace LBfz := LB.fz; replace LBlt := LB.lt; clear hb v; rename World => v))
  have VT : Vs v (some ⟨g, 0, none⟩) len R := ⟨⟨by omega, fun i hi => ⟨g, 0, rfl, by
    have := OT.range (i := i) (by omega)
    rw [Nat.zero_add]
    unfold twRec at this
    rw [if_pos hi] at this
    exact this⟩⟩, HB.out.f, HB.out.x, HB.out.y, HB.out.c⟩
  go_upto_region 5 with (first | (refine wpList_load_lay (b0) _ rfl rfl rfl LB ?_) | (go_at_call 10; refine (PC (some ⟨g, 0, none⟩) (len + 3) _ EX VT (by omega)).mono ?_; rintro e v1 ⟨s1, x1, m1, T1, rfl, hb, S1, n1, I1⟩; have gl := OT.lt; have d1 : ∀ b, s1.ownBlock = some b → g < b := (fun b h => by have := n1 b h; omega); replace EX := Ext.trans EX hb; replace LB := LB.later hb; replace LBc0 := LB.c0; replace LBc1 := LB.c1; replace LBc2 := LB.c2; replace LBc3 := LB.c3; replace LBc4 := LB.c4; replace LBc5 := LB.c5; replace LBdg := LB.dg; replace LBfz := LB.fz; replace LBlt := LB.lt; replace OT := OT.later hb; replace VT := VT.later hb; clear n1 gl; clear hb v; rename World => v))
  go_upto_region 6 with (first | (refine wpList_load_lay (b0) _ rfl rfl rfl LB ?_) | (go_at_call 11; refine (rtrios_any L HL.out a len cap R _ (HB.out.later EX) (by omega)).mono ?_; rintro e v1 ⟨s2, x2, m2, T2, rfl, hb, S2, n2, I2⟩; clear n2; replace EX := Ext.trans EX hb; replace LB := LB.later hb; replace LBc0 := LB.c0; replace LBc1 := LB.c1; replace LBc2 := LB.c2; replace LBc3 := LB.c3; replace LBc4 := LB.c4; replace LBc5 := LB.c5; replace LBdg := LB.dg; replace LBfz := LB.fz; replace LBlt := LB.lt; replace OT := OT.later hb; replace VT := VT.later hb; replace S1 := S1.later hb; clear hb v; rename World => v))
  go_upto_region 7 with (first | (refine wpList_load_lay (b0) _ rfl rfl rfl LB ?_) | (go_at_call 10; refine (PC (some ⟨g, 0, none⟩) (len + 3) _ EX VT (by omega)).mono ?_; rintro e v1 ⟨s3, x3, m3, T3, rfl, hb, S3, n3, I3⟩; have gl := OT.lt; have d3 : ∀ b, s3.ownBlock = some b → g < b := (fun b h => by have := n3 b h; omega); have d4 : ∀ b b', s1.ownBlock = some b → s3.ownBlock = some b' → b < b' := (fun b b' h h' => by have := S1.heap h; have := n3 b' h'; omega); replace EX := Ext.trans EX hb; replace LB := LB.later hb; replace LBc0 := LB.c0; replace LBc1 := LB.c1; replace LBc2 := LB.c2; replace LBc3 := LB.c3; replace LBc4 := LB.c4; replace LBc5 := LB.c5; replace LBdg := LB.dg; replace LBfz := LB.fz; replace LBlt := LB.lt; replace OT := OT.later hb; clear VT n3 gl; replace S1 := S1.later hb; replace S2 := S2.later hb; clear hb v; rename World => v))
  obtain ⟨rfl, rfl, h12⟩ := I1.one I2
  obtain ⟨_, rfl, _⟩ := I1.one I3
  have hall := I1.all HK.out
  have hg1 := I1.le
  clear I1 I2 I3
  go_upto_region 8 with fail
  have gk := OT.lt
  have k1 := fun b (h : s1.ownBlock = some b) => S1.heap h
  have k3 := fun b (h : s3.ownBlock = some b) => S3.heap h
  have k2 := fun b (h : s2.ownBlock = some b) => S2.heap h
  have kw := EX.more
  obtain ⟨k, hk⟩ : ∃ k, v.heap.size = k := ⟨_, rfl⟩
  refine rebase (G := fun w' => Code.wp _ _ _ _ w') _ (fun v1 => Ext w v1 ∧ Book kpRecTri v1 k 0 (fun _ => Kd.none) ∧ Lst v1 63 7 (.slice (some ⟨g, 0, none⟩) (len + 3) (len + 3)) (len + 3) (twRec len (fun i => rv (R i))) ∧ Lst v1 65 21 s1 m1 (fun k => tv (T1 k)) ∧ Lst v1 65 21 s2 m1 (fun k => tv (T2 k)) ∧ Lst v1 65 21 s3 m1 (fun k => tv (T3 k)))
    ⟨EX.alloc _, Book.new (Vm.new hk (fun i hi => match i, hi with | 0, _ => rfl | 1, _ => rfl | 2, _ => rfl | 3, _ => rfl | 4, _ => rfl | 5, _ => rfl | 6, _ => rfl | 7, _ => rfl | 8, _ => rfl | 9, _ => rfl | 10, _ => rfl | 11, _ => rfl | 12, _ => rfl | 13, _ => rfl)), OT.later ((Ext.refl v).alloc _), S1.later ((Ext.refl v).alloc _), S2.later ((Ext.refl v).alloc _), S3.later ((Ext.refl v).alloc _)⟩ ?_
  rw [hk] at gk k1 k2 k3 kw ⊢
  clear LBc0 LBc1 LBc2 LBc3 LBc4 LBc5 LBdg LBfz LBlt
  clear EX LB OT S1 S2 S3 hk v
  rintro v ⟨EX, BK, OT, S1, S2, S3⟩
  have LT : Lst v 63 7 (.slice (some ⟨g, 0, none⟩) len (len + 3)) len (twRec len (fun i => rv (R i))) := OT.take (by omega)
  have kv := BK.box.lt
  have P1 := book_rec (kp := kpRecTri) rfl k 0 len _ _ _ v BK (by omega) LT (by omega) (fun b hb h => by
    rcases h with h | ⟨q, h⟩
    · simp only [Value.ownBlock, Option.some.injEq] at hb; omega
    · exact KB.none h)
  clear LT BK
  go_upto_region 9 with (first | (go_at_call 12; with_reducible refine P1.mono ?_; rintro e v1 ⟨rfl, u1, BK, C1, h1⟩))
  clear P1
  have t1 : ∀ b, b < k → ¬ (b = k ∨ (Kd.none).u.ownBlock = some b) := fun b hb h => by
    rcases h with h | h
    · omega
    · cases h
  replace EX := C1.over EX (fun i hi => by rcases hi with hi | hi; omega; cases hi)
  replace OT := OT.chg C1 (fun b hb => t1 b (by simp only [Value.ownBlock, Option.some.injEq] at hb; omega))
  replace S1 := S1.chg C1 (fun b hb => t1 b (k1 b hb))
  replace S2 := S2.chg C1 (fun b hb => t1 b (k2 b hb))
  replace S3 := S3.chg C1 (fun b hb => t1 b (k3 b hb))
  have nu1 : ∀ b, u1.ownBlock = some b → k < b := fun b hb => by
    rcases h1 b hb with h | h
    · cases h
    · omega
  clear h1 C1 kv v
  rename World => v
  have in1 : ∀ b, b < k → b ≠ g → ¬ InB (addD (fun _ => Kd.none) 4 u1 (.slice (some ⟨g, 0, none⟩) len (len + 3)) len (0 + 1)) k b := fun b hb hg h => by
    rcases addD_in h with h | h | h
    · rcases h with h | ⟨q, h⟩
      · omega
      · exact KB.none h
    · simp only [Value.ownBlock, Option.some.injEq] at h; omega
    · have := nu1 b h; omega
  have kv := BK.box.lt
  have P2 := book_tri (kp := kpRecTri) rfl k 1 (m1) s1 _ _ v BK (by omega) S1 (by omega) (fun b hb => in1 b (k1 b hb) (by have := d1 b hb; omega))
  have BU1 : ∀ b, (Value.slice (some ⟨g, 0, none⟩) len (len + 3)).ownBlock = some b → b < k := fun b hb => by simp only [Value.ownBlock, Option.some.injEq] at hb; omega
  generalize hD1 : addD (fun _ => Kd.none) 4 u1 (.slice (some ⟨g, 0, none⟩) len (len + 3)) len (0 + 1) = D1 at *
  have hn4 : (D1 5).u = .slice none 0 0 := by rw [← hD1]; rfl
  clear BK
  go_upto_region 10 with (first | (go_at_call 13; with_reducible refine P2.mono ?_; rintro e v1 ⟨rfl, u2, BK, C1, h1⟩))
  clear P2
  rw [hn4] at C1 h1
  replace EX := C1.over EX (fun i hi => by rcases hi with hi | hi; omega; cases hi)
  replace OT := OT.chg C1 (fun b hb => t1 b (by simp only [Value.ownBlock, Option.some.injEq] at hb; omega))
  replace S1 := S1.chg C1 (fun b hb => t1 b (k1 b hb))
  replace S2 := S2.chg C1 (fun b hb => t1 b (k2 b hb))
  replace S3 := S3.chg C1 (fun b hb => t1 b (k3 b hb))
  have nu2 : ∀ b, u2.ownBlock = some b → k < b := fun b hb => by
    rcases h1 b hb with h | h
    · cases h
    · omega
  clear h1 C1 kv v
  rename World => v
  have in2 : ∀ b, b < k → b ≠ g → ¬ s1.ownBlock = some b → ¬ InB (addD D1 5 u2 s1 (m1) (1 + 1)) k b := fun b hb hg hs h => by
    rcases addD_in h with h | h | h
    · exact in1 b hb hg h
    · exact hs h
    · have := nu2 b h; omega
  have kv := BK.box.lt
  have P3 := book_tri (kp := kpRecTri) rfl k 2 (m1) s3 _ _ v BK (by omega) S3 (by omega) (fun b hb => in2 b (k3 b hb) (by have := d3 b hb; omega) (fun h => by have := d4 b b h hb; omega))
  have hu4 : (addD D1 5 u2 s1 (m1) (1 + 1) 5).u = u2 := rfl
  generalize hD2 : addD D1 5 u2 s1 (m1) (1 + 1) = D2 at *
  clear BK
  go_upto_region 11 with (first | (go_at_call 13; with_reducible refine P3.mono ?_; rintro e v1 ⟨rfl, u3, BK, C1, h1⟩))
  clear P3
  rw [hu4] at C1 h1
  have t2 : ∀ b, b < k → ¬ (b = k ∨ u2.ownBlock = some b) := fun b hb h => by
    rcases h with h | h
    · omega
    · have := nu2 b h; omega
  replace EX := C1.over EX (fun i hi => by rcases hi with hi | hi; omega; have := nu2 i hi; omega)
  replace OT := OT.chg C1 (fun b hb => t2 b (by simp only [Value.ownBlock, Option.some.injEq] at hb; omega))
  replace S1 := S1.chg C1 (fun b hb => t2 b (k1 b hb))
  replace S2 := S2.chg C1 (fun b hb => t2 b (k2 b hb))
  have hin : ∀ b, InB (addD D2 5 u3 s3 (m1) (2 + 1)) k b → w.heap.size ≤ b := fun b hb => by
    rcases addD_in hb with h | h | h
    · rw [← hD2] at h
      rcases addD_in h with h | h | h
      · rw [← hD1] at h
        rcases addD_in h with h | h | h
        · rcases h with h | ⟨q, h⟩
          · omega
          · exact absurd h KB.none
        · simp only [Value.ownBlock, Option.some.injEq] at h; omega
        · have := nu1 b h; omega
      · have := d1 b h; omega
      · have := nu2 b h; omega
    · have := d3 b h; omega
    · rcases h1 b h with h | h
      · have := nu2 b h; omega
      · omega
  have hDn : ∀ q, q ∉ ([4, 5] : List Nat) → addD D2 5 u3 s3 (m1) (2 + 1) q = Kd.none := fun q hq => by
    simp only [List.mem_cons, List.not_mem_nil, or_false, not_or] at hq
    unfold addD
    rw [if_neg hq.2, ← hD2]
    unfold addD
    rw [if_neg hq.2, ← hD1]
    unfold addD
    rw [if_neg hq.1]
  clear h1 C1 kv v S3
  rename World => v
  obtain ⟨a1, c1, hs1, E1⟩ := lst_es S1 (by omega)
  obtain ⟨a2, c2, hs2, E2⟩ := lst_es S2 (by omega)
  subst hs1 hs2
  have SM := same_tris a1 a2 m1 c1 c2 _ _ v E1 E2 (fun i hi => by rw [h12 i hi]) (fun i hi => tri_kinds (hall i hi))
  have LF := fun v' (h : Ext v v') => left_recs a g len cap (fun i => rv (R i)) v' (HB.out.later (EX.trans h)).es hkk (by omega) (OT.later h)
  have AP := fun v' (h : Ext v v') => apart_rectri _ k 3 v' (BK.later h) hDn
  clear E1 E2 S1 S2 OT
  go_wp2_with (first
    | (go_at_call 14; with_reducible refine SM.mono ?_; rintro e v1 ⟨rfl, x1⟩; clear SM)
    | (go_at_call 15; with_reducible refine (LF _ x1).mono ?_; rintro e v2 ⟨rfl, x2⟩; have x3 := Ext.trans x1 x2; clear LF)
    | (go_at_call 16; with_reducible refine (AP _ x3).mono ?_; rintro e v3 ⟨rfl, x4⟩; clear AP)
    | (go_at_call 8; with_reducible refine (LV _ (x4.over (EX.trans x3) hin)).mono ?_; rintro e v4 ⟨rfl, x5⟩))
  go_ret
  exact ⟨rfl, (x4.over (EX.trans x3) hin).trans x5⟩
set_option maxHeartbeats 2000000 in
theorem tof_law (L : Lay) (hLr : L.r ≤ 9223372036854775807) (a : Option Addr) (len cap : Nat) (R : Nat → Rcd) (w : World) (B : Vs w a len R) (ha : a = none → len = 0 ∧ cap = 0)
    (PC : len ≤ 500 → ∀ a cap v, Ext w v → Vs v a len R → len ≤ cap → Calls Tryd.prog 10 #[(.agg (lv (L))), .slice a len cap] v (TrAll L R len v))
    (LV : ∀ v, Ext w v → Calls Tryd.prog 8 #[] v fun e w' => e = .returned (.bool true) ∧ Ext v w') :
    Calls Tryd.prog 3 #[(.agg (lv (L))), .slice a len cap] w fun e w' => e = .returned (.bool true) ∧ Ext w w' := by
  by_cases h5 : len ≤ 500
  · exact tof_walk L hLr a len cap R w B ha h5 (PC h5) LV
  · have h50 : (500 : Int) < (len : Int) := by omega
    have hb := B.es.len
    have EX := Ext.refl w
    clear PC B
    go_enter Tryd.func3, Tryd.ntmps3
    go_upto_region 1 with fail
    refine rebase (G := fun w' => Code.wp _ _ _ _ w') _ (fun v1 => Ext w v1 ∧ Lm v1 (w.heap.size) (L)) ⟨by repeat (first | with_reducible exact EX |  with_reducible refine Ext.alloc ?_ _ | with_reducible refine Ext.drew ?_ | with_reducible refine Ext.drewN ?_ _ | with_reducible refine Ext.setCell ?_ (by first | (simp; done) | omega | (dsimp only; omega)) _), by repeat (first | with_reducible assumption | with_reducible refine Lm.drew ?_ | with_reducible refine Lm.drewN ?_ _ | (with_reducible refine Lm.skip ?_ ?_; focus (first | omega | (simp; done))) | with_reducible refine Lm.set0 ?_ _ | with_reducible refine Lm.set4 ?_ _ | with_reducible refine Lm.set5 ?_ _ | with_reducible refine Lm.setk ?_ _ (by decide) | (with_reducible refine Lm.cells1 ?_; exact ⟨_, by with_reducible assumption⟩) | (with_reducible refine Lm.skips ?_ _ _ ?_; focus (first | omega | (simp; done))) | (with_reducible refine Lm.new ?_ <;> first | rfl | (simp; done)) | (with_reducible refine Lm.fresh ?_ ?_ <;> first | rfl | (simp; done)) | with_reducible refine Lm.alloc ?_ _)⟩ ?_; clear EX ; rintro v1 ⟨EX, LB⟩; rename World => v; have LBc0 := LB.c0; have LBc1 := LB.c1; have LBc2 := LB.c2; have LBc3 := LB.c3; have LBc4 := LB.c4; have LBc5 := LB.c5; have LBdg := LB.dg; have LBfz := LB.fz; have LBlt := LB.lt
    go_wp2_with (first | go_skip | (go_at_call 8; with_reducible refine (LV _ EX).mono ?_; rintro e v4 ⟨rfl, x5⟩))
    go_ret
    exact ⟨rfl, EX.trans x5⟩
end Go.Proofs.YthlhmfjopjikpaaDoor
