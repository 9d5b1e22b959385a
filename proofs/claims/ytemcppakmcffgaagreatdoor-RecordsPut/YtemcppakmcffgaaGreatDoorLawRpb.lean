/- The law RecordsPut, walked, by any contract of package records' Put. The laws RecordsGet and RecordsPut, whatever the lengths, by any contracts of package records' Get and Put. -/
import Derived.Test.YtemcppakmcffgaaGreatDoorRecTU
import Derived.Test.YtemcppakmcffgaaGreatDoorLawRget
namespace Go.Proofs.YtemcppakmcffgaaGreatDoor
open Go.RowKit Go.BigFrame
set_option linter.unusedSimpArgs false
set_option linter.unusedVariables false
theorem rv_kinds {w : World} {a : Option Addr} {n : Nat} {R : Nat → Rcd} (B : Vs w a n R) {i : Nat} (hi : i < n) : Kinds [some .u8, some .u32, some .u32, some .u16, some .u16, some .u16, some .u16] (vl 7 (rv (R i))) := by
  have bf := B.f i hi
  have bx := B.x i hi
  have by' := B.y i hi
  have c0 := B.c i 0 hi (by omega)
  have c1 := B.c i 1 hi (by omega)
  have c2 := B.c i 2 hi (by omega)
  have c3 := B.c i 3 hi (by omega)
  show Kinds _ [.int .u8 (R i).f, .int .u32 (R i).x, .int .u32 (R i).y, .int .u16 ((R i).c 0), .int .u16 ((R i).c 1), .int .u16 ((R i).c 2), .int .u16 ((R i).c 3)]
  generalize (R i).f = y0 at *
  generalize (R i).x = y1 at *
  generalize (R i).y = y2 at *
  generalize (R i).c 0 = z0 at *
  generalize (R i).c 1 = z1 at *
  generalize (R i).c 2 = z2 at *
  generalize (R i).c 3 = z3 at *
  simp only [Kinds, OfKind]
  refine ⟨_, _, rfl, ⟨_, rfl, ?_⟩, _, _, rfl, ⟨_, rfl, ?_⟩, _, _, rfl, ⟨_, rfl, ?_⟩, _, _, rfl, ⟨_, rfl, ?_⟩, _, _, rfl, ⟨_, rfl, ?_⟩, _, _, rfl, ⟨_, rfl, ?_⟩, _, _, rfl, ⟨_, rfl, ?_⟩, rfl⟩ <;> simp [Lit.wf, IntKind.min, IntKind.max, IntKind.signed, IntKind.bits] <;> omega
theorem Lst.bs {w : World} {s : Value} {M : Nat} {f : Nat → Int} (h : Lst w 5 1 s M (fun j _ => .int .u8 (f j))) (hM : M ≤ 140737488355328) (hf : ∀ i, i < M → 0 ≤ f i ∧ f i < 256) : ∃ a c, s = .slice a M c ∧ Bs w a M f := by
  obtain ⟨a, c, rfl⟩ := h.slice
  refine ⟨a, c, rfl, hM, fun i hi => ?_, hf⟩
  obtain ⟨g, c', hs⟩ := h.form (by omega)
  cases hs
  have := h.cell hi (show 0 < 1 by decide)
  rw [Nat.mul_one, Nat.add_zero] at this
  exact ⟨g, 0, rfl, by rw [Nat.zero_add]; exact this⟩
theorem PutIs.le {L : Lay} {R : Nat → Rcd} {N M : Nat} {x : Int} (h : PutIs L R N x M) : M ≤ 65536 := by
  rcases h with ⟨_, _, h⟩ | ⟨_, _, _, h⟩ | ⟨_, _, _, _, h⟩ | ⟨_, _, h1, _, h⟩ <;> omega


set_option maxRecDepth 20000 in
set_option maxHeartbeats 8000000 in
theorem rput_walk (L : Lay) (a : Option Addr) (len cap : Nat) (R : Nat → Rcd) (w : World) (B : Vs w a len R) (ha : a = none → len = 0 ∧ cap = 0) (h4 : len ≤ 400)
    (PC : ∀ a cap v, Ext w v → Vs v a len R → Calls Tryz.prog 6 #[(.agg (lv (L))), .slice a len cap] v (PutAll L R len v))
    (LV : ∀ v, Ext w v → Calls Tryz.prog 4 #[] v fun e w' => e = .returned (.bool true) ∧ Ext v w') :
    Calls Tryz.prog 3 #[(.agg (lv (L))), .slice a len cap] w fun e w' => e = .returned (.bool true) ∧ Ext w w' := by
  have EX := Ext.refl w
  have HB : Hid (Vs w a len R) := B
  have hkk := fun i (hi : i < len) => rv_kinds B hi
  have TW := fun v (h : Ext w v) => twin_recs a len cap (fun i => rv (R i)) v (HB.out.later h).es hkk (by omega) ha
  have h40 : ¬ (400 : Int) < (len : Int) := by omega
  clear B
  go_enter Tryz.func3, Tryz.ntmps3
  go_upto_region 1 with fail
  refine rebase (G := fun w' => Code.wp _ _ _ _ w') _ (fun v1 => Ext w v1 ∧ Lm v1 (w.heap.size) (L)) ⟨by repeat (first | with_reducible exact EX |  with_reducible refine Ext.alloc ?_ _ | with_reducible refine Ext.drew ?_ | with_reducible refine Ext.drewN ?_ _ | with_reducible refine Ext.setCell ?_ (by first | (simp; done) | omega | (dsimp only; omega)) _), by repeat (first | with_reducible assumption | with_reducible refine Lm.drew ?_ | with_reducible refine Lm.drewN ?_ _ | (with_reducible refine Lm.skip ?_ ?_; focus (first | omega | (simp; done))) | with_reducible refine Lm.set0 ?_ _ | with_reducible refine Lm.set4 ?_ _ | with_reducible refine Lm.set5 ?_ _ | with_reducible refine Lm.setk ?_ _ (by decide) | (with_reducible refine Lm.cells1 ?_; exact ⟨_, by with_reducible assumption⟩) | (with_reducible refine Lm.skips ?_ _ _ ?_; focus (first | omega | (simp; done))) | (with_reducible refine Lm.new ?_ <;> first | rfl | (simp; done)) | (with_reducible refine Lm.fresh ?_ ?_ <;> first | rfl | (simp; done)) | with_reducible refine Lm.alloc ?_ _)⟩ ?_; clear EX ; rintro v1 ⟨EX, LB⟩; rename World => v; have LBc0 := LB.c0; have LBc1 := LB.c1; have LBc2 := LB.c2; have LBc3 := LB.c3; have LBc4 := LB.c4; have LBc5 := LB.c5; have LBdg := LB.dg; have LBfz := LB.fz; have LBlt := LB.lt
  obtain ⟨b0, hb0⟩ : ∃ b0, w.heap.size = b0 := ⟨_, rfl⟩
  rw [hb0] at LB LBc0 LBc1 LBc2 LBc3 LBc4 LBc5 LBdg LBfz LBlt ⊢
  go_upto_region 4 with (first | (go_at_call 5; refine (TW _ EX).mono ?_; rintro e v1 ⟨g, rfl, hg, hb, OT⟩; have hgw : w.heap.size ≤ g := Nat.le_trans EX.more hg; clear hg; replace EX := Ext.trans EX hb; replace LB := LB.later hb; replace LBc0 := LB.c0; replace LBc1 := LB.c1; replace LBc2 := LB.c2; replace LBc3 := LB.c3; replace LBc4 := LB.c4; replace LBc5 := LB.c5; replace LBdg := LB.dg; replace LBfz := LB.fz; replace LBlt := LB.lt; clear hb v; rename World => v))
  have VT : Vs v (some ⟨g, 0, none⟩) len R := ⟨⟨by omega, fun i hi => ⟨g, 0, rfl, by
    have := OT.range (i := i) (by omega)
    rw [Nat.zero_add]
    unfold twRec at this
    rw [if_pos hi] at this
    exact this⟩⟩, HB.out.f, HB.out.x, HB.out.y, HB.out.c⟩
  go_upto_region 5 with (first | (refine wpList_load_lay (b0) _ rfl rfl rfl LB ?_) | (go_at_call 6; refine (PC (some ⟨g, 0, none⟩) (len + 3) _ EX VT).mono ?_; rintro e v1 ⟨s1, x1, M1, rfl, hb, S1, n1, I1⟩; have gl := OT.lt; have d1 : ∀ b, s1.ownBlock = some b → g < b := (fun b h => by have := n1 b h; omega); replace EX := Ext.trans EX hb; replace LB := LB.later hb; replace LBc0 := LB.c0; replace LBc1 := LB.c1; replace LBc2 := LB.c2; replace LBc3 := LB.c3; replace LBc4 := LB.c4; replace LBc5 := LB.c5; replace LBdg := LB.dg; replace LBfz := LB.fz; replace LBlt := LB.lt; replace OT := OT.later hb; clear VT n1 gl; clear hb v; rename World => v))
  go_upto_region 6 with (first | (refine wpList_load_lay (b0) _ rfl rfl rfl LB ?_) | (go_at_call 7; refine (rput9_any L len cap a R _ (HB.out.later EX) (by omega)).mono ?_; rintro e v1 ⟨s2, x2, M2, rfl, hb, S2, n2, I2⟩; clear n2; replace EX := Ext.trans EX hb; replace LB := LB.later hb; replace LBc0 := LB.c0; replace LBc1 := LB.c1; replace LBc2 := LB.c2; replace LBc3 := LB.c3; replace LBc4 := LB.c4; replace LBc5 := LB.c5; replace LBdg := LB.dg; replace LBfz := LB.fz; replace LBlt := LB.lt; replace OT := OT.later hb; replace S1 := S1.later hb; clear hb v; rename World => v))
  obtain ⟨rfl, rfl⟩ := I1.one I2
  have hM := I1.le
  clear I1 I2
  go_upto_region 7 with fail
  have gk := OT.lt
  have k1 := fun b (h : s1.ownBlock = some b) => S1.heap h
  have k2 := fun b (h : s2.ownBlock = some b) => S2.heap h
  have kw := EX.more
  obtain ⟨k, hk⟩ : ∃ k, v.heap.size = k := ⟨_, rfl⟩
  refine rebase (G := fun w' => Code.wp _ _ _ _ w') _ (fun v1 => Ext w v1 ∧ Book kpByteRec v1 k 0 (fun _ => Kd.none) ∧ Lst v1 62 7 (.slice (some ⟨g, 0, none⟩) (len + 3) (len + 3)) (len + 3) (twRec len (fun i => rv (R i))) ∧ Lst v1 5 1 s1 M1 (fun j _ => .int .u8 (pbyL L R j)) ∧ Lst v1 5 1 s2 M1 (fun j _ => .int .u8 (pbyL L R j)))
    ⟨EX.alloc _, Book.new (Vm.new hk (fun i hi => match i, hi with | 0, _ => rfl | 1, _ => rfl | 2, _ => rfl | 3, _ => rfl | 4, _ => rfl | 5, _ => rfl | 6, _ => rfl | 7, _ => rfl | 8, _ => rfl | 9, _ => rfl | 10, _ => rfl | 11, _ => rfl | 12, _ => rfl | 13, _ => rfl)), OT.later ((Ext.refl v).alloc _), S1.later ((Ext.refl v).alloc _), S2.later ((Ext.refl v).alloc _)⟩ ?_
  rw [hk] at gk k1 k2 kw ⊢
  clear LBc0 LBc1 LBc2 LBc3 LBc4 LBc5 LBdg LBfz LBlt
  clear EX LB OT S1 S2 hk v
  rintro v ⟨EX, BK, OT, S1, S2⟩
  have LT : Lst v 62 7 (.slice (some ⟨g, 0, none⟩) len (len + 3)) len (twRec len (fun i => rv (R i))) := OT.take (by omega)
  have kv := BK.box.lt
  have P1 := book_rec (kp := kpByteRec) rfl k 0 len _ _ _ v BK (by omega) LT (by omega) (fun b hb h => by
    rcases h with h | ⟨q, h⟩
    · simp only [Value.ownBlock, Option.some.injEq] at hb; omega
    · exact KB.none h)
  clear LT BK
  go_upto_region 8 with (first | (go_at_call 8; with_reducible refine P1.mono ?_; rintro e v1 ⟨rfl, u1, BK, C1, h1⟩))
  clear P1
  have t1 : ∀ b, b < k → ¬ (b = k ∨ (Kd.none).u.ownBlock = some b) := fun b hb h => by
    rcases h with h | h
    · omega
    · cases h
  replace EX := C1.over EX (fun i hi => by rcases hi with hi | hi; omega; cases hi)
  replace OT := OT.chg C1 (fun b hb => t1 b (by simp only [Value.ownBlock, Option.some.injEq] at hb; omega))
  replace S1 := S1.chg C1 (fun b hb => t1 b (k1 b hb))
  replace S2 := S2.chg C1 (fun b hb => t1 b (k2 b hb))
  have nu1 : ∀ b, u1.ownBlock = some b → k < b := fun b hb => by
    rcases h1 b hb with h | h
    · cases h
    · omega
  clear h1 C1 kv v
  rename World => v
  have in1 : ∀ b, b < k → b ≠ g → ¬ InB (addD (fun _ => Kd.none) 4 u1 (.slice (some ⟨g, 0, none⟩) len (len + 3)) len (0 + 1)) k b := fun b hb hg h => by
    rcases addD_in h with h | h | h
    · rcases h with h | ⟨q, h⟩
      · omega
      · exact KB.none h
    · simp only [Value.ownBlock, Option.some.injEq] at h; omega
    · have := nu1 b h; omega
  have kv := BK.box.lt
  have P2 := book_byte (kp := kpByteRec) rfl k 1 M1 s1 _ _ v BK (by omega) S1 (by omega) (fun b hb => in1 b (k1 b hb) (by have := d1 b hb; omega))
  generalize hD1 : addD (fun _ => Kd.none) 4 u1 (.slice (some ⟨g, 0, none⟩) len (len + 3)) len (0 + 1) = D1 at *
  have hn4 : (D1 1).u = .slice none 0 0 := by rw [← hD1]; rfl
  clear BK
  go_upto_region 9 with (first | (go_at_call 9; with_reducible refine P2.mono ?_; rintro e v1 ⟨rfl, u2, BK, C1, h1⟩))
  clear P2
  rw [hn4] at C1 h1
  replace EX := C1.over EX (fun i hi => by rcases hi with hi | hi; omega; cases hi)
  replace OT := OT.chg C1 (fun b hb => t1 b (by simp only [Value.ownBlock, Option.some.injEq] at hb; omega))
  replace S1 := S1.chg C1 (fun b hb => t1 b (k1 b hb))
  replace S2 := S2.chg C1 (fun b hb => t1 b (k2 b hb))
  have nu2 : ∀ b, u2.ownBlock = some b → k < b := fun b hb => by
    rcases h1 b hb with h | h
    · cases h
    · omega
  have hin : ∀ b, InB (addD D1 1 u2 s1 M1 (1 + 1)) k b → w.heap.size ≤ b := fun b hb => by
    rcases addD_in hb with h | h | h
    · rw [← hD1] at h
      rcases addD_in h with h | h | h
      · rcases h with h | ⟨q, h⟩
        · omega
        · exact absurd h KB.none
      · simp only [Value.ownBlock, Option.some.injEq] at h; omega
      · have := nu1 b h; omega
    · have := d1 b h; omega
    · have := nu2 b h; omega
  have hDn : ∀ q, q ∉ ([1, 4] : List Nat) → addD D1 1 u2 s1 M1 (1 + 1) q = Kd.none := fun q hq => by
    simp only [List.mem_cons, List.not_mem_nil, or_false, not_or] at hq
    unfold addD
    rw [if_neg hq.1, ← hD1]
    unfold addD
    rw [if_neg hq.2]
  clear h1 C1 kv v
  rename World => v
  have hpb : ∀ i, i < M1 → 0 ≤ pbyL L R i ∧ pbyL L R i < 256 := fun i _ => pby_in _ _ _ _ _ _ _
  obtain ⟨a1, c1, hs1, E1⟩ := S1.bs (by omega) hpb
  obtain ⟨a2, c2, hs2, E2⟩ := S2.bs (by omega) hpb
  subst hs1 hs2
  have SM := sameBytes_yes a1 a2 M1 c1 c2 _ _ v E1 E2 (fun i hi => rfl)
  have LF := fun v' (h : Ext v v') => left_recs a g len cap (fun i => rv (R i)) v' (HB.out.later (EX.trans h)).es hkk (by omega) (OT.later h)
  have AP := fun v' (h : Ext v v') => apart_byterec _ k 2 v' (BK.later h) hDn
  clear E1 E2 S1 S2 OT
  go_wp2_with (first
    | (go_at_call 10; with_reducible refine SM.mono ?_; rintro e v1 ⟨rfl, x1⟩; clear SM)
    | (go_at_call 11; with_reducible refine (LF _ x1).mono ?_; rintro e v2 ⟨rfl, x2⟩; have x3 := Ext.trans x1 x2; clear LF)
    | (go_at_call 12; with_reducible refine (AP _ x3).mono ?_; rintro e v3 ⟨rfl, x4⟩; clear AP)
    | (go_at_call 4; with_reducible refine (LV _ (x4.over (EX.trans x3) hin)).mono ?_; rintro e v4 ⟨rfl, x5⟩))
  go_ret
  exact ⟨rfl, (x4.over (EX.trans x3) hin).trans x5⟩
end Go.Proofs.YtemcppakmcffgaaGreatDoor

namespace Go.Proofs.YtemcppakmcffgaaGreatDoor
open Go.RowKit Go.BigFrame
set_option linter.unusedSimpArgs false
set_option linter.unusedVariables false


set_option maxRecDepth 20000 in
theorem rput_law (L : Lay) (a : Option Addr) (len cap : Nat) (R : Nat → Rcd) (w : World) (B : Vs w a len R) (ha : a = none → len = 0 ∧ cap = 0)
    (PC : len ≤ 400 → ∀ a cap v, Ext w v → Vs v a len R → Calls Tryz.prog 6 #[(.agg (lv (L))), .slice a len cap] v (PutAll L R len v))
    (LV : ∀ v, Ext w v → Calls Tryz.prog 4 #[] v fun e w' => e = .returned (.bool true) ∧ Ext v w') :
    Calls Tryz.prog 3 #[(.agg (lv (L))), .slice a len cap] w fun e w' => e = .returned (.bool true) ∧ Ext w w' := by
  have hlen := B.es.len
  by_cases h1 : len ≤ 400
  · exact rput_walk L a len cap R w B ha h1 (PC h1) LV
  have EX := Ext.refl w
  have d1 : (400 : Int) < (len : Int) := by omega
  clear B PC
  go_enter Tryz.func3, Tryz.ntmps3
  go_upto_region 1 with fail
  refine rebase (G := fun w' => Code.wp _ _ _ _ w') _ (fun v1 => Ext w v1 ∧ Lm v1 (w.heap.size) (L)) ⟨by repeat (first | with_reducible exact EX |  with_reducible refine Ext.alloc ?_ _ | with_reducible refine Ext.drew ?_ | with_reducible refine Ext.drewN ?_ _ | with_reducible refine Ext.setCell ?_ (by first | (simp; done) | omega | (dsimp only; omega)) _), by repeat (first | with_reducible assumption | with_reducible refine Lm.drew ?_ | with_reducible refine Lm.drewN ?_ _ | (with_reducible refine Lm.skip ?_ ?_; focus (first | omega | (simp; done))) | with_reducible refine Lm.set0 ?_ _ | with_reducible refine Lm.set4 ?_ _ | with_reducible refine Lm.set5 ?_ _ | with_reducible refine Lm.setk ?_ _ (by decide) | (with_reducible refine Lm.cells1 ?_; exact ⟨_, by with_reducible assumption⟩) | (with_reducible refine Lm.skips ?_ _ _ ?_; focus (first | omega | (simp; done))) | (with_reducible refine Lm.new ?_ <;> first | rfl | (simp; done)) | (with_reducible refine Lm.fresh ?_ ?_ <;> first | rfl | (simp; done)) | with_reducible refine Lm.alloc ?_ _)⟩ ?_; clear EX ; rintro v1 ⟨EX, LB⟩; rename World => v; have LBc0 := LB.c0; have LBc1 := LB.c1; have LBc2 := LB.c2; have LBc3 := LB.c3; have LBc4 := LB.c4; have LBc5 := LB.c5; have LBdg := LB.dg; have LBfz := LB.fz; have LBlt := LB.lt
  go_wp2_with (first | (go_at_call 4; with_reducible refine (LV _ EX).mono ?_; rintro e v1 ⟨rfl, hb⟩; replace EX := Ext.trans EX hb; clear hb))
  go_ret
  exact ⟨rfl, EX⟩
end Go.Proofs.YtemcppakmcffgaaGreatDoor
