/- The given book: Apart. -/
import Derived.Test.YthnmofnlcepffaaBitO
import Derived.Test.YthnmofnlcepffaaBitR
namespace Go.Proofs.Ythnmofnlcepffaa
open Go.RowKit Go.BigFrame
set_option linter.unusedSimpArgs false
set_option linter.unusedVariables false
theorem bk_cells {v : World} {k n : Nat} {u : Value} (V : Vm v k 14 (bkf n u)) : v.cell? ⟨k, 1, none⟩ = some u ∧ v.cell? ⟨k, 2, none⟩ = some (.slice none 0 0) ∧ v.cell? ⟨k, 3, none⟩ = some (.slice none 0 0) ∧ v.cell? ⟨k, 4, none⟩ = some (.slice none 0 0) ∧ v.cell? ⟨k, 5, none⟩ = some (.slice none 0 0) ∧ v.cell? ⟨k, 6, none⟩ = some (.slice none 0 0) ∧ v.cell? ⟨k, 7, none⟩ = some (.slice none 0 0) ∧ v.cell? ⟨k, 8, none⟩ = some (.slice none 0 0) ∧ v.cell? ⟨k, 9, none⟩ = some (.slice none 0 0) ∧ v.cell? ⟨k, 10, none⟩ = some (.slice none 0 0) ∧ v.cell? ⟨k, 11, none⟩ = some (.slice none 0 0) ∧ v.cell? ⟨k, 12, none⟩ = some (.slice none 0 0) ∧ v.cell? ⟨k, 13, none⟩ = some (.slice none 0 0) :=
  ⟨V.dg 1 (by omega), V.dg 2 (by omega), V.dg 3 (by omega), V.dg 4 (by omega), V.dg 5 (by omega), V.dg 6 (by omega), V.dg 7 (by omega), V.dg 8 (by omega), V.dg 9 (by omega), V.dg 10 (by omega), V.dg 11 (by omega), V.dg 12 (by omega), V.dg 13 (by omega)⟩
set_option maxRecDepth 20000 in
set_option maxHeartbeats 8000000 in
theorem apart_none (k cp : Nat) (a : Option Addr) (w : World) (V : Vm w k 14 (bkf 0 (.slice a 0 cp))) : Calls Try.prog 26 #[.pointer (some ⟨k, 0, none⟩)] w fun e w' => e = .returned (.bool true) ∧ Ext w w' := by
  have c0 : w.cell? ⟨k, 0, none⟩ = some (.int .i64 0) := V.dg 0 (by omega)
  obtain ⟨c1, c2, c3, c4, c5, c6, c7, c8, c9, c10, c11, c12, c13⟩ := bk_cells V
  clear V
  go_enter Try.func26, Try.ntmps26
  go_wp2_with (first
    | (go_at_call 37; with_reducible refine (fill_nil0 a cp _).mono ?_; rintro e w' ⟨rfl, rfl⟩)
    | (go_at_call 50; with_reducible refine (grow_nil0 a cp _).mono ?_; rintro e w' ⟨rfl, rfl⟩)
    | (go_at_call 63; with_reducible refine (marked_nil0 a cp _).mono ?_; rintro e w' ⟨rfl, rfl⟩)
    | (go_at_call 38; with_reducible refine (fill_nil1 none 0 _).mono ?_; rintro e w' ⟨rfl, rfl⟩)
    | (go_at_call 39; with_reducible refine (fill_nil2 none 0 _).mono ?_; rintro e w' ⟨rfl, rfl⟩)
    | (go_at_call 40; with_reducible refine (fill_nil3 none 0 _).mono ?_; rintro e w' ⟨rfl, rfl⟩)
    | (go_at_call 41; with_reducible refine (fill_nil4 none 0 _).mono ?_; rintro e w' ⟨rfl, rfl⟩)
    | (go_at_call 42; with_reducible refine (fill_nil5 none 0 _).mono ?_; rintro e w' ⟨rfl, rfl⟩)
    | (go_at_call 43; with_reducible refine (fill_nil6 none 0 _).mono ?_; rintro e w' ⟨rfl, rfl⟩)
    | (go_at_call 44; with_reducible refine (fill_nil7 none 0 _).mono ?_; rintro e w' ⟨rfl, rfl⟩)
    | (go_at_call 45; with_reducible refine (fill_nil8 none 0 _).mono ?_; rintro e w' ⟨rfl, rfl⟩)
    | (go_at_call 46; with_reducible refine (fill_nil9 none 0 _).mono ?_; rintro e w' ⟨rfl, rfl⟩)
    | (go_at_call 47; with_reducible refine (fill_nil10 none 0 _).mono ?_; rintro e w' ⟨rfl, rfl⟩)
    | (go_at_call 48; with_reducible refine (fill_nil11 none 0 _).mono ?_; rintro e w' ⟨rfl, rfl⟩)
    | (go_at_call 49; with_reducible refine (fill_nil12 none 0 _).mono ?_; rintro e w' ⟨rfl, rfl⟩)
    | (go_at_call 51; with_reducible refine (grow_nil1 none 0 _).mono ?_; rintro e w' ⟨rfl, rfl⟩)
    | (go_at_call 52; with_reducible refine (grow_nil2 none 0 _).mono ?_; rintro e w' ⟨rfl, rfl⟩)
    | (go_at_call 53; with_reducible refine (grow_nil3 none 0 _).mono ?_; rintro e w' ⟨rfl, rfl⟩)
    | (go_at_call 54; with_reducible refine (grow_nil4 none 0 _).mono ?_; rintro e w' ⟨rfl, rfl⟩)
    | (go_at_call 55; with_reducible refine (grow_nil5 none 0 _).mono ?_; rintro e w' ⟨rfl, rfl⟩)
    | (go_at_call 56; with_reducible refine (grow_nil6 none 0 _).mono ?_; rintro e w' ⟨rfl, rfl⟩)
    | (go_at_call 57; with_reducible refine (grow_nil7 none 0 _).mono ?_; rintro e w' ⟨rfl, rfl⟩)
    | (go_at_call 58; with_reducible refine (grow_nil8 none 0 _).mono ?_; rintro e w' ⟨rfl, rfl⟩)
    | (go_at_call 59; with_reducible refine (grow_nil9 none 0 _).mono ?_; rintro e w' ⟨rfl, rfl⟩)
    | (go_at_call 60; with_reducible refine (grow_nil10 none 0 _).mono ?_; rintro e w' ⟨rfl, rfl⟩)
    | (go_at_call 61; with_reducible refine (grow_nil11 none 0 _).mono ?_; rintro e w' ⟨rfl, rfl⟩)
    | (go_at_call 62; with_reducible refine (grow_nil12 none 0 _).mono ?_; rintro e w' ⟨rfl, rfl⟩)
    | (go_at_call 64; with_reducible refine (marked_nil1 none 0 _).mono ?_; rintro e w' ⟨rfl, rfl⟩)
    | (go_at_call 65; with_reducible refine (marked_nil2 none 0 _).mono ?_; rintro e w' ⟨rfl, rfl⟩)
    | (go_at_call 66; with_reducible refine (marked_nil3 none 0 _).mono ?_; rintro e w' ⟨rfl, rfl⟩)
    | (go_at_call 67; with_reducible refine (marked_nil4 none 0 _).mono ?_; rintro e w' ⟨rfl, rfl⟩)
    | (go_at_call 68; with_reducible refine (marked_nil5 none 0 _).mono ?_; rintro e w' ⟨rfl, rfl⟩)
    | (go_at_call 69; with_reducible refine (marked_nil6 none 0 _).mono ?_; rintro e w' ⟨rfl, rfl⟩)
    | (go_at_call 70; with_reducible refine (marked_nil7 none 0 _).mono ?_; rintro e w' ⟨rfl, rfl⟩)
    | (go_at_call 71; with_reducible refine (marked_nil8 none 0 _).mono ?_; rintro e w' ⟨rfl, rfl⟩)
    | (go_at_call 72; with_reducible refine (marked_nil9 none 0 _).mono ?_; rintro e w' ⟨rfl, rfl⟩)
    | (go_at_call 73; with_reducible refine (marked_nil10 none 0 _).mono ?_; rintro e w' ⟨rfl, rfl⟩)
    | (go_at_call 74; with_reducible refine (marked_nil11 none 0 _).mono ?_; rintro e w' ⟨rfl, rfl⟩)
    | (go_at_call 75; with_reducible refine (marked_nil12 none 0 _).mono ?_; rintro e w' ⟨rfl, rfl⟩))
  go_ret
  exact ⟨rfl, Ext.refl _⟩
theorem Fil.rows {w v : World} {n : Nat} {G L : Nat → Nat} (F : Fil w v n G L n 0) : ∀ i, i < n → v.rowIs (G i) 5 (L i) (fun _ => mk i) := fun i hi => by
  obtain ⟨f, h1, h2⟩ := F.2 i hi
  exact h1.congr fun k hk => h2 k hk (.inl hi)
set_option maxRecDepth 20000 in
set_option maxHeartbeats 16000000 in
theorem apart_some (k n s cp : Nat) (G L : Nat → Nat) (w : World) (hn0 : 0 < n) (B : Bk w k (.slice (some ⟨s, 0, none⟩) n cp) n G L) : Calls Try.prog 26 #[.pointer (some ⟨k, 0, none⟩)] w fun e w' => e = .returned (.bool true) ∧ Chg (In3 k (.slice (some ⟨s, 0, none⟩) n cp) n G) w w' := by
  have hn := B.few
  have hsk : s ≠ k := fun e => B.nu (by rw [e]; rfl)
  have hns : ∀ i, i < n → G i ≠ s := fun i hi e => (B.ng i hi).2 (by rw [e]; rfl)
  have hs : ¬ ∃ j, j < n ∧ s = G j := fun ⟨j, hj, e⟩ => hns j hj e.symm
  have hk : ¬ ∃ j, j < n ∧ k = G j := fun ⟨j, hj, e⟩ => (B.ng j hj).1 e.symm
  have c0 : w.cell? ⟨k, 0, none⟩ = some (.int .i64 n) := B.box.dg 0 (by omega)
  have hbig : ¬ (250 : Int) < (n : Int) := by omega
  have V : Vm w s (n * 3) (sf G L (fun _ => .slice none 0 0)) := ⟨(B.own.lt s rfl).2, fun o => B.own.frozenAt o, fun i hi => by rw [B.own.cellAt i hi, vl_at _ _ hi]⟩
  have FB := fill_any s n cp G L _ w hn V B.rows B.inj hns B.le
  have D1 := fun v (F : Fil w v n G L n 0) => bk_cells (B.box.blk (F.1.block k B.box.lt hk) F.1.size)
  have GB := fun v (F : Fil w v n G L n 0) => grow_any s n cp G L _ v hn (V.blk (F.1.block s V.lt hs) F.1.size) F.rows hns B.le
  have D2 := fun v v2 (F : Fil w v n G L n 0) (R : Grn v v2 s n G L n) => bk_cells ((B.box.blk (F.1.block k B.box.lt hk) F.1.size).blk (R.1.block k (Nat.lt_of_lt_of_le B.box.lt F.1.size) (fun e => hsk e.symm)) R.1.size)
  have MB : ∀ v v2 (F : Fil w v n G L n 0) (R : Grn v v2 s n G L n), Calls Try.prog 63 #[.slice (some ⟨s, 0, none⟩) n cp] v2 fun e w' => e = .returned (.bool true) ∧ Ext v2 w' := fun v v2 F R => by
    obtain ⟨CR, J, VJ, HJ⟩ := R
    exact marked_any s n cp G L J v2 hn VJ (fun i hi => (F.rows i hi).of_block (CR.block _ (F.rows i hi).lt (hns i hi))) (fun i hi => ⟨_, HJ i hi⟩) B.le
  have D3 := fun v v2 v3 (F : Fil w v n G L n 0) (R : Grn v v2 s n G L n) (e : Ext v2 v3) => bk_cells (((B.box.blk (F.1.block k B.box.lt hk) F.1.size).blk (R.1.block k (Nat.lt_of_lt_of_le B.box.lt F.1.size) (fun e => hsk e.symm)) R.1.size).later e)
  have c1 : w.cell? ⟨k, 1, none⟩ = some (.slice (some ⟨s, 0, none⟩) n cp) := B.box.dg 1 (by omega)
  clear V hns hs hk
  go_enter Try.func26, Try.ntmps26
  go_wp2_with (first
    | (go_at_call 37; with_reducible refine FB.mono ?_; rintro e v1 ⟨rfl, F⟩; obtain ⟨d1, d2, d3, d4, d5, d6, d7, d8, d9, d10, d11, d12, d13⟩ := D1 _ F; clear FB D1 c0 c1)
    | (go_at_call 50; with_reducible refine (GB _ F).mono ?_; rintro e v2 ⟨rfl, R⟩; clear d1 d2 d3 d4 d5 d6 d7 d8 d9 d10 d11 d12 d13; obtain ⟨e1, e2, e3, e4, e5, e6, e7, e8, e9, e10, e11, e12, e13⟩ := D2 _ _ F R; clear GB D2)
    | (go_at_call 63; with_reducible refine (MB _ _ F R).mono ?_; rintro e v3 ⟨rfl, hb⟩; clear e1 e2 e3 e4 e5 e6 e7 e8 e9 e10 e11 e12 e13; obtain ⟨f1, f2, f3, f4, f5, f6, f7, f8, f9, f10, f11, f12, f13⟩ := D3 _ _ _ F R hb; clear MB D3)
    | (go_at_call 38; with_reducible refine (fill_nil1 none 0 _).mono ?_; rintro e w' ⟨rfl, rfl⟩)
    | (go_at_call 39; with_reducible refine (fill_nil2 none 0 _).mono ?_; rintro e w' ⟨rfl, rfl⟩)
    | (go_at_call 40; with_reducible refine (fill_nil3 none 0 _).mono ?_; rintro e w' ⟨rfl, rfl⟩)
    | (go_at_call 41; with_reducible refine (fill_nil4 none 0 _).mono ?_; rintro e w' ⟨rfl, rfl⟩)
    | (go_at_call 42; with_reducible refine (fill_nil5 none 0 _).mono ?_; rintro e w' ⟨rfl, rfl⟩)
    | (go_at_call 43; with_reducible refine (fill_nil6 none 0 _).mono ?_; rintro e w' ⟨rfl, rfl⟩)
    | (go_at_call 44; with_reducible refine (fill_nil7 none 0 _).mono ?_; rintro e w' ⟨rfl, rfl⟩)
    | (go_at_call 45; with_reducible refine (fill_nil8 none 0 _).mono ?_; rintro e w' ⟨rfl, rfl⟩)
    | (go_at_call 46; with_reducible refine (fill_nil9 none 0 _).mono ?_; rintro e w' ⟨rfl, rfl⟩)
    | (go_at_call 47; with_reducible refine (fill_nil10 none 0 _).mono ?_; rintro e w' ⟨rfl, rfl⟩)
    | (go_at_call 48; with_reducible refine (fill_nil11 none 0 _).mono ?_; rintro e w' ⟨rfl, rfl⟩)
    | (go_at_call 49; with_reducible refine (fill_nil12 none 0 _).mono ?_; rintro e w' ⟨rfl, rfl⟩)
    | (go_at_call 51; with_reducible refine (grow_nil1 none 0 _).mono ?_; rintro e w' ⟨rfl, rfl⟩)
    | (go_at_call 52; with_reducible refine (grow_nil2 none 0 _).mono ?_; rintro e w' ⟨rfl, rfl⟩)
    | (go_at_call 53; with_reducible refine (grow_nil3 none 0 _).mono ?_; rintro e w' ⟨rfl, rfl⟩)
    | (go_at_call 54; with_reducible refine (grow_nil4 none 0 _).mono ?_; rintro e w' ⟨rfl, rfl⟩)
    | (go_at_call 55; with_reducible refine (grow_nil5 none 0 _).mono ?_; rintro e w' ⟨rfl, rfl⟩)
    | (go_at_call 56; with_reducible refine (grow_nil6 none 0 _).mono ?_; rintro e w' ⟨rfl, rfl⟩)
    | (go_at_call 57; with_reducible refine (grow_nil7 none 0 _).mono ?_; rintro e w' ⟨rfl, rfl⟩)
    | (go_at_call 58; with_reducible refine (grow_nil8 none 0 _).mono ?_; rintro e w' ⟨rfl, rfl⟩)
    | (go_at_call 59; with_reducible refine (grow_nil9 none 0 _).mono ?_; rintro e w' ⟨rfl, rfl⟩)
    | (go_at_call 60; with_reducible refine (grow_nil10 none 0 _).mono ?_; rintro e w' ⟨rfl, rfl⟩)
    | (go_at_call 61; with_reducible refine (grow_nil11 none 0 _).mono ?_; rintro e w' ⟨rfl, rfl⟩)
    | (go_at_call 62; with_reducible refine (grow_nil12 none 0 _).mono ?_; rintro e w' ⟨rfl, rfl⟩)
    | (go_at_call 64; with_reducible refine (marked_nil1 none 0 _).mono ?_; rintro e w' ⟨rfl, rfl⟩)
    | (go_at_call 65; with_reducible refine (marked_nil2 none 0 _).mono ?_; rintro e w' ⟨rfl, rfl⟩)
    | (go_at_call 66; with_reducible refine (marked_nil3 none 0 _).mono ?_; rintro e w' ⟨rfl, rfl⟩)
    | (go_at_call 67; with_reducible refine (marked_nil4 none 0 _).mono ?_; rintro e w' ⟨rfl, rfl⟩)
    | (go_at_call 68; with_reducible refine (marked_nil5 none 0 _).mono ?_; rintro e w' ⟨rfl, rfl⟩)
    | (go_at_call 69; with_reducible refine (marked_nil6 none 0 _).mono ?_; rintro e w' ⟨rfl, rfl⟩)
    | (go_at_call 70; with_reducible refine (marked_nil7 none 0 _).mono ?_; rintro e w' ⟨rfl, rfl⟩)
    | (go_at_call 71; with_reducible refine (marked_nil8 none 0 _).mono ?_; rintro e w' ⟨rfl, rfl⟩)
    | (go_at_call 72; with_reducible refine (marked_nil9 none 0 _).mono ?_; rintro e w' ⟨rfl, rfl⟩)
    | (go_at_call 73; with_reducible refine (marked_nil10 none 0 _).mono ?_; rintro e w' ⟨rfl, rfl⟩)
    | (go_at_call 74; with_reducible refine (marked_nil11 none 0 _).mono ?_; rintro e w' ⟨rfl, rfl⟩)
    | (go_at_call 75; with_reducible refine (marked_nil12 none 0 _).mono ?_; rintro e w' ⟨rfl, rfl⟩))
  go_ret
  refine ⟨rfl, (F.1.mono (fun b hb => .inr (.inr hb))).trans ((R.1.mono (T := In3 k (.slice (some ⟨s, 0, none⟩) n cp) n G) (fun b hb => .inr (.inl (by rw [hb]; rfl)))).trans (T := fun _ => False) (Chg.of hb) (fun i hi => hi.elim)) (fun i hi => .inl hi)⟩
theorem apart_any (k n : Nat) (u : Value) (G L : Nat → Nat) (w : World) (B : Bk w k u n G L) : Calls Try.prog 26 #[.pointer (some ⟨k, 0, none⟩)] w fun e w' => e = .returned (.bool true) ∧ Chg (In3 k u n G) w w' := by
  obtain ⟨a, cp, rfl⟩ := own_slice B.own
  by_cases h0 : n = 0
  · subst h0
    exact (apart_none k cp a w B.box).mono fun e w' h => ⟨h.1, Chg.of h.2⟩
  · obtain ⟨s, c, hs, _, _⟩ := B.own.form (by omega)
    cases hs
    exact apart_some k n s cp G L w (by omega) B
end Go.Proofs.Ythnmofnlcepffaa
