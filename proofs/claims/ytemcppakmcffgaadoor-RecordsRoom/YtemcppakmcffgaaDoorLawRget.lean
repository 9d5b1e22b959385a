/- The law RecordsGet, walked, by any contract of package records' Get. -/
import Derived.Test.YtemcppakmcffgaaDoorRecBC
import Derived.Test.YtemcppakmcffgaaDoorListRec
import Derived.Test.YtemcppakmcffgaaDoorBitG
import Derived.Test.YtemcppakmcffgaaDoorBkApByteRec
namespace Go.Proofs.YtemcppakmcffgaaDoor
open Go.RowKit Go.BigFrame
set_option linter.unusedSimpArgs false
set_option linter.unusedVariables false
theorem ew_flat (n : Nat) (F : Nat → Value) : ew 1 n (fun i _ => F i) = vl n F := by
  unfold ew
  rw [Nat.mul_one]
  exact vl_ext fun j _ => by rw [Nat.div_one]
/-- A list that owns its row, as a list wherever it begins. -/
theorem Lst.es {w : World} {e : TypeId} {m n : Nat} {s : Value} {X : Nat → Nat → Value} (h : Lst w e m s n X) (hn : n ≤ 140737488355328) : ∃ a c, s = .slice a n c ∧ Es w m a n X := by
  obtain ⟨a, c, rfl⟩ := h.slice
  refine ⟨a, c, rfl, hn, fun i hi => ?_⟩
  obtain ⟨g, c', hs⟩ := h.form (by omega)
  cases hs
  exact ⟨g, 0, rfl, by rw [Nat.zero_add]; exact h.range hi⟩


set_option maxRecDepth 20000 in
set_option maxHeartbeats 8000000 in
theorem rget_walk (L : Lay) (a : Option Addr) (len cap : Nat) (f : Nat → Int) (w : World) (B : Bs w a len f) (ha : a = none → len = 0 ∧ cap = 0) (h7 : len ≤ 70000)
    (hdec : (¬ (5000 : Int) < (len : Int)) ∨ ((5000 : Int) < (len : Int) ∧ ¬ (len : Int) ≤ 65536))
    (GC : ∀ (f : Nat → Int) a cap v, Ext w v → Bs v a len f → len ≤ cap → Calls Tryd.prog 10 #[(.agg (lv (L))), .slice a len cap] v (GotAll L f len v))
    (LV : ∀ v, Ext w v → Calls Tryd.prog 8 #[] v fun e w' => e = .returned (.bool true) ∧ Ext v w') :
    Calls Tryd.prog 3 #[(.agg (lv (L))), .slice a len cap] w fun e w' => e = .returned (.bool true) ∧ Ext w w' := by
  have EX := Ext.refl w
  have HB : Hid (Bs w a len f) := B
  have hbyte := B.byte
  have TW := fun v (h : Ext w v) => twinBytes_any a len cap f v (HB.out.later h) h7 ha
  have h70 : ¬ (70000 : Int) < (len : Int) := by omega
  clear B
  go_enter Tryd.func3, Tryd.ntmps3
  go_upto_region 1 with fail
  refine rebase (G := fun w' => Code.wp _ _ _ _ w') _ (fun v1 => Ext w v1 ∧ Lm v1 (w.heap.size) (L)) ⟨by repeat (first | with_reducible exact EX |  with_reducible refine Ext.alloc ?_ _ | with_reducible refine Ext.drew ?_ | with_reducible refine Ext.drewN ?_ _ | with_reducible refine Ext.setCell ?_ (by first | (simp; done) | omega | (dsimp only; omega)) _), by repeat (first | with_reducible assumption | with_reducible refine Lm.drew ?_ | with_reducible refine Lm.drewN ?_ _ | (with_reducible refine Lm.skip ?_ ?_; focus (first | omega | (simp; done))) | with_reducible refine Lm.set0 ?_ _ | with_reducible refine Lm.set4 ?_ _ | with_reducible refine Lm.set5 ?_ _ | with_reducible refine Lm.setk ?_ _ (by decide) | (with_reducible refine Lm.cells1 ?_; exact ⟨_, by with_reducible assumption⟩) | (with_reducible refine Lm.skips ?_ _ _ ?_; focus (first | omega | (simp; done))) | (with_reducible refine Lm.new ?_ <;> first | rfl | (simp; done)) | (with_reducible refine Lm.fresh ?_ ?_ <;> first | rfl | (simp; done)) | with_reducible refine Lm.alloc ?_ _)⟩ ?_; clear EX ; rintro v1 ⟨EX, LB⟩; rename World => v; have LBc0 := LB.c0; have LBc1 := LB.c1; have LBc2 := LB.c2; have LBc3 := LB.c3; have LBc4 := LB.c4; have LBc5 := LB.c5; have LBdg := LB.dg; have LBfz := LB.fz; have LBlt := LB.lt
  obtain ⟨b0, hb0⟩ : ∃ b0, w.heap.size = b0 := ⟨_, rfl⟩
  rw [hb0] at LB LBc0 LBc1 LBc2 LBc3 LBc4 LBc5 LBdg LBfz LBlt ⊢
  rcases hdec with hd | ⟨hd, hd2⟩
  all_goals
    go_upto_region 4 with (first | (go_at_call 9; refine (TW _ EX).mono ?_; rintro e v1 ⟨g, rfl, hg, hb, OT⟩; have hgw : w.heap.size ≤ g := Nat.le_trans EX.more hg; clear hg; replace EX := Ext.trans EX hb; replace LB := LB.later hb; replace LBc0 := LB.c0; replace LBc1 := LB.c1; replace LBc2 := LB.c2; replace LBc3 := LB.c3; replace LBc4 := LB.c4; replace LBc5 := LB.c5; replace LBdg := LB.dg; replace LBfz := LB.fz; replace LBlt := LB.lt; clear hb v; rename World => v))
    have hft := fun i (hi : i < len) => tw_in hbyte i
    have BT := bs_own (n := len) OT (by omega) (by omega) (fun i hi => hft i hi)
    go_upto_region 5 with (first | (refine wpList_load_lay (b0) _ rfl rfl rfl LB ?_) | (go_at_call 10; refine (GC (tw len f) (some ⟨g, 0, none⟩) (len + 3) _ EX BT (by omega)).mono ?_; rintro e v1 ⟨s1, rfl, hb, S1, n1⟩; have gl := (World.ownsRow.lt OT g rfl).2; have d1 : ∀ b, s1.ownBlock = some b → g < b := (fun b h => by have := n1 b h; omega); replace EX := Ext.trans EX hb; replace LB := LB.later hb; replace LBc0 := LB.c0; replace LBc1 := LB.c1; replace LBc2 := LB.c2; replace LBc3 := LB.c3; replace LBc4 := LB.c4; replace LBc5 := LB.c5; replace LBdg := LB.dg; replace LBfz := LB.fz; replace LBlt := LB.lt; replace OT := own_ext' OT hb; replace BT := BT.later hb; clear n1 gl; clear hb v; rename World => v))
    go_upto_region 6 with (first | (refine wpList_load_lay (b0) _ rfl rfl rfl LB ?_) | (go_at_call 11; refine (rget9_any L a len cap f _ (HB.out.later EX)).mono ?_; rintro e v1 ⟨s2, rfl, hb, S2, n2⟩; clear n2; replace EX := Ext.trans EX hb; replace LB := LB.later hb; replace LBc0 := LB.c0; replace LBc1 := LB.c1; replace LBc2 := LB.c2; replace LBc3 := LB.c3; replace LBc4 := LB.c4; replace LBc5 := LB.c5; replace LBdg := LB.dg; replace LBfz := LB.fz; replace LBlt := LB.lt; replace OT := own_ext' OT hb; replace BT := BT.later hb; replace S1 := S1.later hb; clear hb v; rename World => v))
    go_upto_region 7 with (first | (refine wpList_load_lay (b0) _ rfl rfl rfl LB ?_) | (go_at_call 10; refine (GC (tw len f) (some ⟨g, 0, none⟩) (len + 3) _ EX BT (by omega)).mono ?_; rintro e v1 ⟨s3, rfl, hb, S3, n3⟩; have gl := (World.ownsRow.lt OT g rfl).2; have d3 : ∀ b, s3.ownBlock = some b → g < b := (fun b h => by have := n3 b h; omega); have d4 : ∀ b b', s1.ownBlock = some b → s3.ownBlock = some b' → b < b' := (fun b b' h h' => by have := S1.heap h; have := n3 b' h'; omega); replace EX := Ext.trans EX hb; replace LB := LB.later hb; replace LBc0 := LB.c0; replace LBc1 := LB.c1; replace LBc2 := LB.c2; replace LBc3 := LB.c3; replace LBc4 := LB.c4; replace LBc5 := LB.c5; replace LBdg := LB.dg; replace LBfz := LB.fz; replace LBlt := LB.lt; replace OT := own_ext' OT hb; clear BT n3 gl; replace S1 := S1.later hb; replace S2 := S2.later hb; clear hb v; rename World => v))
    go_upto_region 8 with fail
    have hg1 : gcnt L len ≤ 70000 := Nat.le_trans (gcnt_le L len) h7
    have gk := (World.ownsRow.lt OT g rfl).2
    have k1 := fun b (h : s1.ownBlock = some b) => S1.heap h
    have k3 := fun b (h : s3.ownBlock = some b) => S3.heap h
    have k2 := fun b (h : s2.ownBlock = some b) => S2.heap h
    have kw := EX.more
    obtain ⟨k, hk⟩ : ∃ k, v.heap.size = k := ⟨_, rfl⟩
    refine rebase (G := fun w' => Code.wp _ _ _ _ w') _ (fun v1 => Ext w v1 ∧ Book kpByteRec v1 k 0 (fun _ => Kd.none) ∧ v1.ownsRow 0 5 1 (.slice (some ⟨g, 0, none⟩) (len + 3) (len + 3)) (len + 3) (vl (len + 3) (fun i => .int .u8 (tw len f i))) ∧ Lst v1 63 7 s1 (gcnt L len) (recL L (tw len f)) ∧ Lst v1 63 7 s2 (gcnt L len) (recL L f) ∧ Lst v1 63 7 s3 (gcnt L len) (recL L (tw len f)))
      ⟨EX.alloc _, Book.new (Vm.new hk (fun i hi => match i, hi with | 0, _ => rfl | 1, _ => rfl | 2, _ => rfl | 3, _ => rfl | 4, _ => rfl | 5, _ => rfl | 6, _ => rfl | 7, _ => rfl | 8, _ => rfl | 9, _ => rfl | 10, _ => rfl | 11, _ => rfl | 12, _ => rfl | 13, _ => rfl)), own_ext' OT ((Ext.refl v).alloc _), S1.later ((Ext.refl v).alloc _), S2.later ((Ext.refl v).alloc _), S3.later ((Ext.refl v).alloc _)⟩ ?_
    rw [hk] at gk k1 k2 k3 kw ⊢
    clear LBc0 LBc1 LBc2 LBc3 LBc4 LBc5 LBdg LBfz LBlt
    clear EX LB OT S1 S2 S3 hk v
    rintro v ⟨EX, BK, OT, S1, S2, S3⟩
    have LT : Lst v 5 1 (.slice (some ⟨g, 0, none⟩) len (len + 3)) len (fun i _ => .int .u8 (tw len f i)) := Lst.take (n := len + 3) (by unfold Lst; rw [ew_flat]; exact OT) (by omega)
    have kv := BK.box.lt
    have P1 := book_byte (kp := kpByteRec) rfl k 0 len _ _ _ v BK (by omega) LT (by omega) (fun b hb h => by
      rcases h with h | ⟨q, h⟩
      · simp only [Value.ownBlock, Option.some.injEq] at hb; omega
      · exact KB.none h)
    clear LT BK
    go_upto_region 9 with (first | (go_at_call 12; with_reducible refine P1.mono ?_; rintro e v1 ⟨rfl, u1, BK, C1, h1⟩))
    clear P1
    have t1 : ∀ b, b < k → ¬ (b = k ∨ (Kd.none).u.ownBlock = some b) := fun b hb h => by
      rcases h with h | h
      · omega
      · cases h
    replace EX := C1.over EX (fun i hi => by rcases hi with hi | hi; omega; cases hi)
    replace OT := own_chg OT C1 (fun b hb => t1 b (by simp only [Value.ownBlock, Option.some.injEq] at hb; omega))
    replace S1 := S1.chg C1 (fun b hb => t1 b (k1 b hb))
    replace S2 := S2.chg C1 (fun b hb => t1 b (k2 b hb))
    replace S3 := S3.chg C1 (fun b hb => t1 b (k3 b hb))
    have nu1 : ∀ b, u1.ownBlock = some b → k < b := fun b hb => by
      rcases h1 b hb with h | h
      · cases h
      · omega
    clear h1 C1 kv v
    rename World => v
    have in1 : ∀ b, b < k → b ≠ g → ¬ InB (addD (fun _ => Kd.none) 1 u1 (.slice (some ⟨g, 0, none⟩) len (len + 3)) len (0 + 1)) k b := fun b hb hg h => by
      rcases addD_in h with h | h | h
      · rcases h with h | ⟨q, h⟩
        · omega
        · exact KB.none h
      · simp only [Value.ownBlock, Option.some.injEq] at h; omega
      · have := nu1 b h; omega
    have kv := BK.box.lt
    have P2 := book_rec (kp := kpByteRec) rfl k 1 (gcnt L len) s1 _ _ v BK (by omega) S1 (by omega) (fun b hb => in1 b (k1 b hb) (by have := d1 b hb; omega))
    have BU1 : ∀ b, (Value.slice (some ⟨g, 0, none⟩) len (len + 3)).ownBlock = some b → b < k := fun b hb => by simp only [Value.ownBlock, Option.some.injEq] at hb; omega
    generalize hD1 : addD (fun _ => Kd.none) 1 u1 (.slice (some ⟨g, 0, none⟩) len (len + 3)) len (0 + 1) = D1 at *
    have hn4 : (D1 4).u = .slice none 0 0 := by rw [← hD1]; rfl
    clear BK
    go_upto_region 10 with (first | (go_at_call 13; with_reducible refine P2.mono ?_; rintro e v1 ⟨rfl, u2, BK, C1, h1⟩))
    clear P2
    rw [hn4] at C1 h1
    replace EX := C1.over EX (fun i hi => by rcases hi with hi | hi; omega; cases hi)
    replace OT := own_chg OT C1 (fun b hb => t1 b (by simp only [Value.ownBlock, Option.some.injEq] at hb; omega))
    replace S1 := S1.chg C1 (fun b hb => t1 b (k1 b hb))
    replace S2 := S2.chg C1 (fun b hb => t1 b (k2 b hb))
    replace S3 := S3.chg C1 (fun b hb => t1 b (k3 b hb))
    have nu2 : ∀ b, u2.ownBlock = some b → k < b := fun b hb => by
      rcases h1 b hb with h | h
      · cases h
      · omega
    clear h1 C1 kv v
    rename World => v
    have in2 : ∀ b, b < k → b ≠ g → ¬ s1.ownBlock = some b → ¬ InB (addD D1 4 u2 s1 (gcnt L len) (1 + 1)) k b := fun b hb hg hs h => by
      rcases addD_in h with h | h | h
      · exact in1 b hb hg h
      · exact hs h
      · have := nu2 b h; omega
    have kv := BK.box.lt
    have P3 := book_rec (kp := kpByteRec) rfl k 2 (gcnt L len) s3 _ _ v BK (by omega) S3 (by omega) (fun b hb => in2 b (k3 b hb) (by have := d3 b hb; omega) (fun h => by have := d4 b b h hb; omega))
    have hu4 : (addD D1 4 u2 s1 (gcnt L len) (1 + 1) 4).u = u2 := rfl
    generalize hD2 : addD D1 4 u2 s1 (gcnt L len) (1 + 1) = D2 at *
    clear BK
    go_upto_region 11 with (first | (go_at_call 13; with_reducible refine P3.mono ?_; rintro e v1 ⟨rfl, u3, BK, C1, h1⟩))
    clear P3
    rw [hu4] at C1 h1
    have t2 : ∀ b, b < k → ¬ (b = k ∨ u2.ownBlock = some b) := fun b hb h => by
      rcases h with h | h
      · omega
      · have := nu2 b h; omega
    replace EX := C1.over EX (fun i hi => by rcases hi with hi | hi; omega; have := nu2 i hi; omega)
    replace OT := own_chg OT C1 (fun b hb => t2 b (by simp only [Value.ownBlock, Option.some.injEq] at hb; omega))
    replace S1 := S1.chg C1 (fun b hb => t2 b (k1 b hb))
    replace S2 := S2.chg C1 (fun b hb => t2 b (k2 b hb))
    have hin : ∀ b, InB (addD D2 4 u3 s3 (gcnt L len) (2 + 1)) k b → w.heap.size ≤ b := fun b hb => by
      rcases addD_in hb with h | h | h
      · rw [← hD2] at h
        rcases addD_in h with h | h | h
        · rw [← hD1] at h
          rcases addD_in h with h | h | h
          · rcases h with h | ⟨q, h⟩
            · omega
            · exact absurd h KB.none
          · simp only [Value.ownBlock, Option.some.injEq] at h; omega
          · have := nu1 b h; omega
        · have := d1 b h; omega
        · have := nu2 b h; omega
      · have := d3 b h; omega
      · rcases h1 b h with h | h
        · have := nu2 b h; omega
        · omega
    have hDn : ∀ q, q ∉ ([1, 4] : List Nat) → addD D2 4 u3 s3 (gcnt L len) (2 + 1) q = Kd.none := fun q hq => by
      simp only [List.mem_cons, List.not_mem_nil, or_false, not_or] at hq
      unfold addD
      rw [if_neg hq.2, ← hD2]
      unfold addD
      rw [if_neg hq.2, ← hD1]
      unfold addD
      rw [if_neg hq.1]
    clear h1 C1 kv v S3
    rename World => v
    obtain ⟨a1, c1, hs1, E1⟩ := S1.es (by omega)
    obtain ⟨a2, c2, hs2, E2⟩ := S2.es (by omega)
    subst hs1 hs2
    have SM := same_recs a1 a2 (gcnt L len) c1 c2 _ _ v E1 E2 (fun i hi => recL_congr hi (fun j hj => if_pos hj)) (fun i hi => recL_kinds L _ hi)
    have LF := fun v' (h : Ext v v') => leftBytes_any a g len cap f v' (HB.out.later (EX.trans h)) h7 (own_ext' OT h)
    have AP := fun v' (h : Ext v v') => apart_byterec _ k 3 v' (BK.later h) hDn
    clear E1 E2 S1 S2 OT
    generalize gerr L len = x at *
    go_wp2_with (first
      | (go_at_call 14; with_reducible refine SM.mono ?_; rintro e v1 ⟨rfl, x1⟩; clear SM)
      | (go_at_call 15; with_reducible refine (LF _ x1).mono ?_; rintro e v2 ⟨rfl, x2⟩; have x3 := Ext.trans x1 x2; clear LF)
      | (go_at_call 16; with_reducible refine (AP _ x3).mono ?_; rintro e v3 ⟨rfl, x4⟩; clear AP)
      | (go_at_call 8; with_reducible refine (LV _ (x4.over (EX.trans x3) hin)).mono ?_; rintro e v4 ⟨rfl, x5⟩))
    go_ret
    exact ⟨rfl, (x4.over (EX.trans x3) hin).trans x5⟩
end Go.Proofs.YtemcppakmcffgaaDoor
