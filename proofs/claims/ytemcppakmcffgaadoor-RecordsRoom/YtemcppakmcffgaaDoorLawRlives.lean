/- The chapter's answers on records ('lives'). -/
import Derived.Test.YtemcppakmcffgaaDoorPkEF
import Derived.Test.YtemcppakmcffgaaDoorPkI
import Derived.Test.YtemcppakmcffgaaDoorLawRput
import Derived.Laws.BytesString
namespace Go.Proofs.YtemcppakmcffgaaDoor
open Go.RowKit Go.BigFrame
set_option linter.unusedSimpArgs false
set_option linter.unusedVariables false
set_option maxRecDepth 20000
def L9 : Lay := ⟨4, 4, 8, 2, 1, 0, fun _ => 0⟩
def X9 : Rcd := ⟨1, 15, 0, fun k => if k = 0 then 255 else 0⟩
def Y9 : Rcd := ⟨4, 0, 0, fun _ => 0⟩
def Z9 : Rcd := ⟨0, 0, 0, fun k => if k < 2 then 1 else 0⟩
theorem vs_lit1 {v : World} {t : TypeId} {K : Rcd} {cs : Array Value} (hcs : ∀ j, j < 7 → cs[j]? = some (rv K j)) (hf : 0 ≤ K.f ∧ K.f < 256) (hx : 0 ≤ K.x ∧ K.x < 4294967296) (hy : 0 ≤ K.y ∧ K.y < 4294967296) (hc : ∀ k, k < 4 → 0 ≤ K.c k ∧ K.c k < 65536) :
    Vs (v.alloc (.cells cs t)) (some ⟨v.heap.size, 0, none⟩) 1 (fun _ => K) :=
  ⟨⟨by omega, fun i hi => ⟨_, _, rfl, fun j u hu => by
    have hj : j < 7 := by rw [← vl_len 7 (rv K)]; exact (List.getElem?_eq_some_iff.1 hu).1
    rw [vl_at _ _ hj, Option.some.injEq] at hu
    subst hu
    obtain rfl : i = 0 := by omega
    rw [Nat.zero_mul, Nat.zero_add]
    try rw [Nat.zero_add]
    exact new1 (hcs j hj)⟩⟩, fun _ _ => hf, fun _ _ => hx, fun _ _ => hy, fun _ k _ hk => hc k hk⟩
theorem lit7 {K : Rcd} {x0 x1 x2 x3 x4 x5 x6 : Value} (h0 : x0 = rv K 0) (h1 : x1 = rv K 1) (h2 : x2 = rv K 2) (h3 : x3 = rv K 3) (h4 : x4 = rv K 4) (h5 : x5 = rv K 5) (h6 : x6 = rv K 6) : ∀ j, j < 7 → (#[x0, x1, x2, x3, x4, x5, x6] : Array Value)[j]? = some (rv K j) := by
  subst h0 h1 h2 h3 h4 h5 h6
  intro j hj
  match j, hj with
  | 0, _ => rfl
  | 1, _ => rfl
  | 2, _ => rfl
  | 3, _ => rfl
  | 4, _ => rfl
  | 5, _ => rfl
  | 6, _ => rfl
theorem l9_may : vlay L9 = true := by decide
theorem l9_size : lsize L9 0 = 3 := by decide
theorem l9_flg : flg L9 = 2 := by decide
theorem room_x9 : RoomL L9 X9 := by
  unfold RoomL
  rw [l9_flg]
  exact ⟨by decide, by decide, by decide, fun k hk => by
    obtain rfl : k = 0 := by have : k < 1 := hk; omega
    decide, fun k h1 h2 => by have : 1 ≤ k := h1; exact if_neg (by omega)⟩
theorem put_x9 : PutIs L9 (fun _ => X9) 1 0 3 := .inr (.inr (.inr ⟨l9_may, fun _ _ => room_x9, by rw [l9_size]; decide, rfl, by rw [l9_size]; rfl⟩))
theorem put_y9 : PutIs L9 (fun _ => Y9) 1 1 0 := .inr (.inl ⟨l9_may, fun h => by
  have := (h 0 (by decide)).f.2
  rw [l9_flg] at this
  exact absurd this (by decide), rfl, rfl⟩)
theorem put_z9 : PutIs L9 (fun _ => Z9) 1 1 0 := .inr (.inl ⟨l9_may, fun h => by
  have := (h 0 (by decide)).z 1 (by decide) (by decide)
  exact absurd this (by decide), rfl, rfl⟩)
def b9 (k : Nat) : Int := if k = 0 then 124 else if k = 1 then 63 else 192
def g9 (k : Nat) : Int := if k = 0 then 124 else if k = 1 then 63 else 255
theorem pby_x9 : ∀ k, k < 3 → pbyL L9 (fun _ => X9) k = b9 k := by decide +kernel
theorem get_x9 : vl 7 (recL L9 g9 0) = vl 7 (rv X9) := vl_ext fun j hj => by
  match j, hj with
  | 0, _ => exact congrArg (Value.int .u8) (by decide +kernel)
  | 1, _ => exact congrArg (Value.int .u32) (by decide +kernel)
  | 2, _ => exact congrArg (Value.int .u32) (by decide +kernel)
  | 3, _ => exact congrArg (Value.int .u16) (by decide +kernel)
  | 4, _ => exact congrArg (Value.int .u16) (by decide +kernel)
  | 5, _ => exact congrArg (Value.int .u16) (by decide +kernel)
  | 6, _ => exact congrArg (Value.int .u16) (by decide +kernel)
theorem gerr_x9 : gerr L9 3 = 0 ∧ gcnt L9 3 = 1 ∧ gerr L9 2 = 5 ∧ gerr (L9.wt 6) 0 = 4 := by decide +kernel
theorem str3 (w : World) (s : Value) (h : Lst w 5 1 s 3 (fun j _ => .int .u8 (b9 j))) : (convert 28 9 s).run Tryd.prog w = .ok (.string { data := #[124, 63, 192] }) w := by
  obtain ⟨g, cp, rfl⟩ := h.form (by decide)
  have c0 := h.cell (i := 0) (j := 0) (by decide) (by decide)
  have c1 := h.cell (i := 1) (j := 0) (by decide) (by decide)
  have c2 := h.cell (i := 2) (j := 0) (by decide) (by decide)
  simp only [Nat.zero_mul, Nat.one_mul, Nat.mul_one, Nat.add_zero] at c0 c1 c2
  rw [show b9 0 = 124 from rfl] at c0
  rw [show b9 1 = 63 from rfl] at c1
  rw [show b9 2 = 192 from rfl] at c2
  rw [run_convert_bytes_string w 28 9 5 _ _ _ Tryd.underlying28 Tryd.underlying5 Tryd.underlying9, run_bytesToString w ⟨g, 0, none⟩ 3 cp [124, 63, 192] (by simp [loadCells, loadCellsFrom, Addr.add, go_sem, c0, c1, c2])]
  rfl


set_option maxHeartbeats 8000000 in
theorem lives9_any (w : World) (TL : LaidL w) : Calls Tryd.prog 8 #[] w fun e w' => e = .returned (.bool true) ∧ Ext w w' := by
  have EX := Ext.refl w
  have PX : ∀ v a c, Ext w v → Vs v a 1 (fun _ => X9) → Calls Tryd.prog 19 #[(.agg (lv (L9))), .slice a 1 c] v fun e w' => ∃ s, e = .returned (.tuple #[s, .int .i64 0]) ∧ Ext v w' ∧ Lst w' 5 1 s 3 (fun j _ => .int .u8 (b9 j)) ∧ ∀ b, s.ownBlock = some b → v.heap.size ≤ b := fun v a c h B => (put_all L9 1 c a _ v (TL.later h) B (by decide)).mono fun e w' h' => by
    obtain ⟨s, x, M, he, E, SL, hn, hp⟩ := h'
    obtain ⟨rfl, rfl⟩ := hp.one put_x9
    exact ⟨s, he, E, SL.congr (fun i j hi _ => by rw [pby_x9 i hi]), hn⟩
  have PY : ∀ v a c, Ext w v → Vs v a 1 (fun _ => Y9) → Calls Tryd.prog 19 #[(.agg (lv (L9))), .slice a 1 c] v fun e w' => ∃ s, e = .returned (.tuple #[s, .int .i64 1]) ∧ Ext v w' := fun v a c h B => (put_all L9 1 c a _ v (TL.later h) B (by decide)).mono fun e w' h' => by
    obtain ⟨s, x, M, he, E, SL, _, hp⟩ := h'
    obtain ⟨rfl, rfl⟩ := hp.one put_y9
    exact ⟨s, he, E⟩
  have PZ : ∀ v a c, Ext w v → Vs v a 1 (fun _ => Z9) → Calls Tryd.prog 19 #[(.agg (lv (L9))), .slice a 1 c] v fun e w' => ∃ s, e = .returned (.tuple #[s, .int .i64 1]) ∧ Ext v w' := fun v a c h B => (put_all L9 1 c a _ v (TL.later h) B (by decide)).mono fun e w' h' => by
    obtain ⟨s, x, M, he, E, SL, _, hp⟩ := h'
    obtain ⟨rfl, rfl⟩ := hp.one put_z9
    exact ⟨s, he, E⟩
  have GX : ∀ v a, Ext w v → Bs v a 3 g9 → Calls Tryd.prog 10 #[(.agg (lv (L9))), .slice a 3 3] v fun e w' => ∃ s, e = .returned (.tuple #[s, .int .i64 0]) ∧ Ext v w' ∧ Lst w' 63 7 s 1 (recL L9 g9) ∧ ∀ b, s.ownBlock = some b → v.heap.size ≤ b := fun v a h B => (get_any L9 a 3 3 _ v (TL.later h) B (Nat.le_refl _)).mono fun e w' h' => by
    obtain ⟨s, he, E, SL, hn⟩ := h'
    rw [gerr_x9.1] at he
    rw [gerr_x9.2.1] at SL
    exact ⟨s, he, E, SL, hn⟩
  have GY : ∀ v a, Ext w v → Bs v a 2 g9 → Calls Tryd.prog 10 #[(.agg (lv (L9))), .slice a 2 2] v fun e w' => ∃ s, e = .returned (.tuple #[s, .int .i64 5]) ∧ Ext v w' := fun v a h B => (get_any L9 a 2 2 _ v (TL.later h) B (Nat.le_refl _)).mono fun e w' h' => by
    obtain ⟨s, he, E, SL, _⟩ := h'
    rw [gerr_x9.2.2.1] at he
    exact ⟨s, he, E⟩
  have GZ : ∀ v, Ext w v → Calls Tryd.prog 10 #[(.agg (lv (L9.wt 6))), .slice none 0 0] v fun e w' => ∃ s, e = .returned (.tuple #[s, .int .i64 4]) ∧ Ext v w' := fun v h => (get_any (L9.wt 6) none 0 0 (fun _ => 0) v (TL.later h) ⟨by omega, fun i hi => by omega, fun i hi => by omega⟩ (Nat.le_refl _)).mono fun e w' h' => by
    obtain ⟨s, he, E, SL, _⟩ := h'
    rw [gerr_x9.2.2.2] at he
    exact ⟨s, he, E⟩
  clear TL
  go_enter Tryd.func8, Tryd.ntmps8
  go_upto_region 1 with fail
  refine rebase (G := fun w' => Code.wp _ _ _ _ w') _ (fun v1 => Ext w v1) (by repeat (first | with_reducible exact EX | with_reducible refine Ext.setCells' ?_ _ (by first | exact EX.more | (have := EX.more; omega)) _ _ |  with_reducible refine Ext.alloc ?_ _ | with_reducible refine Ext.drew ?_ | with_reducible refine Ext.drewN ?_ _ | with_reducible refine Ext.setCell ?_ (by first | (simp; done) | omega | (dsimp only; omega)) _)) ?_; clear EX; intro v1 EX; rename World => v
  go_upto_region 2 with (first | (refine wpList_store_lay (L := L9) v.heap.size _ _ rfl rfl rfl rfl (there_new 18 rfl) ?_))
  refine rebase (G := fun w' => Code.wp _ _ _ _ w') _ (fun v1 => Ext w v1 ∧ Lm v1 (v.heap.size) (L9)) ⟨by repeat (first | with_reducible exact EX | with_reducible refine Ext.setCells' ?_ _ (by first | exact EX.more | (have := EX.more; omega)) _ _ |  with_reducible refine Ext.alloc ?_ _ | with_reducible refine Ext.drew ?_ | with_reducible refine Ext.drewN ?_ _ | with_reducible refine Ext.setCell ?_ (by first | (simp; done) | omega | (dsimp only; omega)) _), by repeat (first | with_reducible assumption | with_reducible refine Lm.drew ?_ | with_reducible refine Lm.drewN ?_ _ | (with_reducible refine Lm.skip ?_ ?_; focus (first | omega | (simp; done))) | with_reducible refine Lm.set0 ?_ _ | with_reducible refine Lm.set4 ?_ _ | with_reducible refine Lm.set5 ?_ _ | with_reducible refine Lm.setk ?_ _ (by decide) | (with_reducible refine Lm.cells1 ?_; exact ⟨_, by with_reducible assumption⟩) | (with_reducible refine Lm.skips ?_ _ _ ?_; focus (first | omega | (simp; done))) | (with_reducible refine Lm.new ?_ <;> first | rfl | (simp; done)) | (with_reducible refine Lm.fresh ?_ ?_ <;> first | rfl | (simp; done)) | with_reducible refine Lm.alloc ?_ _)⟩ ?_; have qw := EX.more; clear EX ; rintro v1 ⟨EX, LB⟩; obtain ⟨ba, hba⟩ : ∃ b, v.heap.size = b := ⟨_, rfl⟩; rw [hba] at qw LB ⊢; clear hba; clear v; rename World => v; have LBc0 := LB.c0; have LBc1 := LB.c1; have LBc2 := LB.c2; have LBc3 := LB.c3; have LBc4 := LB.c4; have LBc5 := LB.c5; have LBdg := LB.dg; have LBfz := LB.fz; have LBlt := LB.lt
  go_upto_region 3 with fail
  refine rebase (G := fun w' => Code.wp _ _ _ _ w') _ (fun v1 => Ext w v1 ∧ Lm v1 (ba) (L9) ∧ S7m v1 (v.heap.size) (.int .u8 1) (.int .u32 15) (.int .u32 0) (.int .u16 255) (.int .u16 0) (.int .u16 0) (.int .u16 0)) ⟨by repeat (first | with_reducible exact EX | with_reducible refine Ext.setCells' ?_ _ (by first | exact EX.more | (have := EX.more; omega)) _ _ |  with_reducible refine Ext.alloc ?_ _ | with_reducible refine Ext.drew ?_ | with_reducible refine Ext.drewN ?_ _ | with_reducible refine Ext.setCell ?_ (by first | (simp; done) | omega | (dsimp only; omega)) _), by repeat (first | with_reducible assumption | with_reducible refine Lm.drew ?_ | with_reducible refine Lm.drewN ?_ _ | (with_reducible refine Lm.skip ?_ ?_; focus (first | omega | (simp; done))) | with_reducible refine Lm.set0 ?_ _ | with_reducible refine Lm.set4 ?_ _ | with_reducible refine Lm.set5 ?_ _ | with_reducible refine Lm.setk ?_ _ (by decide) | (with_reducible refine Lm.cells1 ?_; exact ⟨_, by with_reducible assumption⟩) | (with_reducible refine Lm.skips ?_ _ _ ?_; focus (first | omega | (simp; done))) | (with_reducible refine Lm.new ?_ <;> first | rfl | (simp; done)) | (with_reducible refine Lm.fresh ?_ ?_ <;> first | rfl | (simp; done)) | with_reducible refine Lm.alloc ?_ _), by repeat (first | with_reducible assumption | with_reducible refine S7m.drew ?_ | with_reducible refine S7m.drewN ?_ _ | (with_reducible refine S7m.skip ?_ ?_; focus (first | omega | (simp; done))) | with_reducible refine S7m.store ?_ | with_reducible apply S7m.set0 | with_reducible apply S7m.set1 | with_reducible apply S7m.set2 | with_reducible apply S7m.set3 | with_reducible apply S7m.set4 | with_reducible apply S7m.set5 | with_reducible apply S7m.set6 | with_reducible refine S7m.new (by first | rfl | (simp; done) | with_unfolding_all rfl) (by with_unfolding_all rfl) (by with_unfolding_all rfl) (by with_unfolding_all rfl) (by with_unfolding_all rfl) (by with_unfolding_all rfl) (by with_unfolding_all rfl) (by with_unfolding_all rfl) | with_reducible refine S7m.alloc ?_ _ | exact S7m.any (by with_reducible assumption) | with_reducible refine S7mAny.drew ?_ | with_reducible refine S7mAny.drewN ?_ _ | (with_reducible refine S7mAny.skip ?_ ?_; focus (first | omega | (simp; done))) | with_reducible refine S7mAny.alloc ?_ _)⟩ ?_; have qLB := LB.lt; have qw := EX.more; clear LBc0 LBc1 LBc2 LBc3 LBc4 LBc5 LBdg LBfz LBlt; clear EX LB; rintro v1 ⟨EX, LB, XB⟩; obtain ⟨bx, hbx⟩ : ∃ b, v.heap.size = b := ⟨_, rfl⟩; rw [hbx] at qLB qw XB ⊢; clear hbx; clear v; rename World => v; have LBc0 := LB.c0; have LBc1 := LB.c1; have LBc2 := LB.c2; have LBc3 := LB.c3; have LBc4 := LB.c4; have LBc5 := LB.c5; have LBdg := LB.dg; have LBfz := LB.fz; have LBlt := LB.lt; have XBc0 := XB.c0; have XBc1 := XB.c1; have XBc2 := XB.c2; have XBc3 := XB.c3; have XBc4 := XB.c4; have XBc5 := XB.c5; have XBc6 := XB.c6; have XBfz := XB.fz; have XBlt := XB.lt
  go_upto_region 4 with (first | (refine wpList_load_lay (ba) _ rfl rfl rfl LB ?_) | (go_at_call 19; refine (PX _ _ _ (EX.alloc _) (vs_lit1 (K := X9) (lit7 rfl rfl rfl rfl rfl rfl rfl) (by decide) (by decide) (by decide) (by decide))).mono ?_; rintro e v1 ⟨s1, rfl, hb, S1, nn⟩; have d1 : s1.ownBlock ≠ some ba := (fun h => by have q1 := nn _ h; have q2 := LB.lt; have q3 := (Ext.alloc (Ext.refl v) (.cells #[] 0)).more; have q4 : ∀ o o2, (v.alloc o).heap.size = (v.alloc o2).heap.size := (fun _ _ => by simp); simp at q1; omega); clear nn; have hE := ((Ext.refl v).alloc _).trans hb; replace EX := Ext.trans EX hE; replace LB := LB.later hE; replace XB := XB.later hE; replace LBc0 := LB.c0; replace LBc1 := LB.c1; replace LBc2 := LB.c2; replace LBc3 := LB.c3; replace LBc4 := LB.c4; replace LBc5 := LB.c5; replace LBdg := LB.dg; replace LBfz := LB.fz; replace LBlt := LB.lt; replace XBc0 := XB.c0; replace XBc1 := XB.c1; replace XBc2 := XB.c2; replace XBc3 := XB.c3; replace XBc4 := XB.c4; replace XBc5 := XB.c5; replace XBc6 := XB.c6; replace XBfz := XB.fz; replace XBlt := XB.lt; clear hE hb; generalize v.heap.size = bq; clear v; rename World => v))
  go_upto_region 5 with (first | (refine wpList_load_lay (ba) _ rfl rfl rfl LB ?_) | (go_at_call 10; refine (GX _ _ (EX.alloc _) (bs_lit g9 3 (by decide) (fun i hi => by match i, hi with | 0, _ => rfl | 1, _ => rfl | 2, _ => rfl) (fun i hi => by unfold g9; split <;> (try split) <;> omega))).mono ?_; rintro e v1 ⟨s2, rfl, hb, S2, nn⟩; have d2 : s2.ownBlock ≠ some ba := (fun h => by have q1 := nn _ h; have q2 := LB.lt; have q3 := (Ext.alloc (Ext.refl v) (.cells #[] 0)).more; have q4 : ∀ o o2, (v.alloc o).heap.size = (v.alloc o2).heap.size := (fun _ _ => by simp); simp at q1; omega); clear nn; have hE := ((Ext.refl v).alloc _).trans hb; replace EX := Ext.trans EX hE; replace LB := LB.later hE; replace XB := XB.later hE; replace LBc0 := LB.c0; replace LBc1 := LB.c1; replace LBc2 := LB.c2; replace LBc3 := LB.c3; replace LBc4 := LB.c4; replace LBc5 := LB.c5; replace LBdg := LB.dg; replace LBfz := LB.fz; replace LBlt := LB.lt; replace XBc0 := XB.c0; replace XBc1 := XB.c1; replace XBc2 := XB.c2; replace XBc3 := XB.c3; replace XBc4 := XB.c4; replace XBc5 := XB.c5; replace XBc6 := XB.c6; replace XBfz := XB.fz; replace XBlt := XB.lt; replace S1 := S1.later hE; clear hE hb; generalize v.heap.size = bq; clear v; rename World => v))
  go_upto_region 6 with (first | (refine wpList_load_lay (ba) _ rfl rfl rfl LB ?_) | (go_at_call 10; refine (GY _ _ (EX.alloc _) (bs_lit g9 2 (by decide) (fun i hi => by match i, hi with | 0, _ => rfl | 1, _ => rfl) (fun i hi => by unfold g9; split <;> (try split) <;> omega))).mono ?_; rintro e v1 ⟨s3, rfl, hb⟩; have hE := ((Ext.refl v).alloc _).trans hb; replace EX := Ext.trans EX hE; replace LB := LB.later hE; replace XB := XB.later hE; replace LBc0 := LB.c0; replace LBc1 := LB.c1; replace LBc2 := LB.c2; replace LBc3 := LB.c3; replace LBc4 := LB.c4; replace LBc5 := LB.c5; replace LBdg := LB.dg; replace LBfz := LB.fz; replace LBlt := LB.lt; replace XBc0 := XB.c0; replace XBc1 := XB.c1; replace XBc2 := XB.c2; replace XBc3 := XB.c3; replace XBc4 := XB.c4; replace XBc5 := XB.c5; replace XBc6 := XB.c6; replace XBfz := XB.fz; replace XBlt := XB.lt; replace S1 := S1.later hE; replace S2 := S2.later hE; clear hE hb; generalize v.heap.size = bq; clear v; rename World => v))
  go_upto_region 7 with (first | (refine wpList_load_lay (ba) _ rfl rfl rfl LB ?_) | (go_at_call 19; refine (PY _ _ _ (EX.alloc _) (vs_lit1 (K := Y9) (lit7 rfl rfl rfl rfl rfl rfl rfl) (by decide) (by decide) (by decide) (by decide))).mono ?_; rintro e v1 ⟨s4, rfl, hb⟩; have hE := ((Ext.refl v).alloc _).trans hb; replace EX := Ext.trans EX hE; replace LB := LB.later hE; replace XB := XB.later hE; replace LBc0 := LB.c0; replace LBc1 := LB.c1; replace LBc2 := LB.c2; replace LBc3 := LB.c3; replace LBc4 := LB.c4; replace LBc5 := LB.c5; replace LBdg := LB.dg; replace LBfz := LB.fz; replace LBlt := LB.lt; replace XBc0 := XB.c0; replace XBc1 := XB.c1; replace XBc2 := XB.c2; replace XBc3 := XB.c3; replace XBc4 := XB.c4; replace XBc5 := XB.c5; replace XBc6 := XB.c6; replace XBfz := XB.fz; replace XBlt := XB.lt; replace S1 := S1.later hE; replace S2 := S2.later hE; clear hE hb; generalize v.heap.size = bq; clear v; rename World => v))
  go_upto_region 8 with (first | (refine wpList_load_lay (ba) _ rfl rfl rfl LB ?_) | (go_at_call 19; refine (PZ _ _ _ (EX.alloc _) (vs_lit1 (K := Z9) (lit7 rfl rfl rfl rfl rfl rfl rfl) (by decide) (by decide) (by decide) (by decide))).mono ?_; rintro e v1 ⟨s5, rfl, hb⟩; have hE := ((Ext.refl v).alloc _).trans hb; replace EX := Ext.trans EX hE; replace LB := LB.later hE; replace XB := XB.later hE; replace LBc0 := LB.c0; replace LBc1 := LB.c1; replace LBc2 := LB.c2; replace LBc3 := LB.c3; replace LBc4 := LB.c4; replace LBc5 := LB.c5; replace LBdg := LB.dg; replace LBfz := LB.fz; replace LBlt := LB.lt; replace XBc0 := XB.c0; replace XBc1 := XB.c1; replace XBc2 := XB.c2; replace XBc3 := XB.c3; replace XBc4 := XB.c4; replace XBc5 := XB.c5; replace XBc6 := XB.c6; replace XBfz := XB.fz; replace XBlt := XB.lt; replace S1 := S1.later hE; replace S2 := S2.later hE; clear hE hb; generalize v.heap.size = bq; clear v; rename World => v))
  go_upto_region 9 with fail
  refine rebase (G := fun w' => Code.wp _ _ _ _ w') _ (fun v1 => Ext w v1 ∧ Lm v1 (ba) (L9.wt 6) ∧ S7m v1 (bx) (.int .u8 1) (.int .u32 15) (.int .u32 0) (.int .u16 255) (.int .u16 0) (.int .u16 0) (.int .u16 0) ∧ Lst v1 5 1 s1 3 (fun j _ => .int .u8 (b9 j)) ∧ Lst v1 63 7 s2 1 (recL L9 g9)) ⟨by repeat (first | with_reducible exact EX | with_reducible refine Ext.setCells' ?_ _ (by first | exact EX.more | (have := EX.more; omega)) _ _ |  with_reducible refine Ext.alloc ?_ _ | with_reducible refine Ext.drew ?_ | with_reducible refine Ext.drewN ?_ _ | with_reducible refine Ext.setCell ?_ (by first | (simp; done) | omega | (dsimp only; omega)) _), LB.set0 6, XB.skip (by omega), S1.skip d1 _, S2.skip d2 _⟩ ?_
  clear LBc0 LBc1 LBc2 LBc3 LBc4 LBc5 LBdg LBfz LBlt XBc0 XBc1 XBc2 XBc3 XBc4 XBc5 XBc6 XBfz XBlt
  clear EX LB XB S1 S2 v
  rintro v ⟨EX, LB, XB, S1, S2⟩
  have LBc0 := LB.c0; have LBc1 := LB.c1; have LBc2 := LB.c2; have LBc3 := LB.c3; have LBc4 := LB.c4; have LBc5 := LB.c5; have LBdg := LB.dg; have LBfz := LB.fz; have LBlt := LB.lt; have XBc0 := XB.c0; have XBc1 := XB.c1; have XBc2 := XB.c2; have XBc3 := XB.c3; have XBc4 := XB.c4; have XBc5 := XB.c5; have XBc6 := XB.c6; have XBfz := XB.fz; have XBlt := XB.lt
  go_upto_region 10 with (first | (refine wpList_load_lay (ba) _ rfl rfl rfl LB ?_) | (go_at_call 10; refine (GZ _ EX).mono ?_; rintro e v1 ⟨s6, rfl, hb⟩; have hE := hb; replace EX := Ext.trans EX hE; replace LB := LB.later hE; replace XB := XB.later hE; replace LBc0 := LB.c0; replace LBc1 := LB.c1; replace LBc2 := LB.c2; replace LBc3 := LB.c3; replace LBc4 := LB.c4; replace LBc5 := LB.c5; replace LBdg := LB.dg; replace LBfz := LB.fz; replace LBlt := LB.lt; replace XBc0 := XB.c0; replace XBc1 := XB.c1; replace XBc2 := XB.c2; replace XBc3 := XB.c3; replace XBc4 := XB.c4; replace XBc5 := XB.c5; replace XBc6 := XB.c6; replace XBfz := XB.fz; replace XBlt := XB.lt; replace S1 := S1.later hE; replace S2 := S2.later hE; clear hE hb; generalize v.heap.size = bq; clear v; rename World => v))
  have hs := str3 v s1 S1
  obtain ⟨a2, c2, hs2, E2⟩ := S2.es (by decide)
  subst hs2
  have VX := fun t => vs_lit1 (v := v) (t := t) (K := X9) (lit7 rfl rfl rfl rfl rfl rfl rfl) (by decide) (by decide) (by decide) (by decide)
  have SM := fun t => same_recs a2 (some ⟨v.heap.size, 0, none⟩) 1 c2 1 (recL L9 g9) (fun _ => rv X9) _ (E2.later ((Ext.refl v).alloc _)) (VX t).es (fun i hi => by rw [show i = 0 by omega]; exact get_x9) (fun i hi => recL_kinds L9 g9 (len := 3) (by rw [gerr_x9.2.1]; exact hi))
  go_wp2_with (first | (go_at_call 14; refine (SM _).mono ?_; rintro e v1 ⟨rfl, hb⟩))
  go_ret
  exact ⟨rfl, (EX.alloc _).trans hb⟩
end Go.Proofs.YtemcppakmcffgaaDoor
