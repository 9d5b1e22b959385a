/- The law RecordsAgain, walked. -/
import Derived.Test.YtemcppakmcffgaaDoorLawRlives
import Derived.Test.YtemcppakmcffgaaDoorRecTU
import Derived.Test.YtemcppakmcffgaaDoorBitG
namespace Go.Proofs.YtemcppakmcffgaaDoor
open Go.RowKit Go.BigFrame
set_option linter.unusedSimpArgs false
set_option linter.unusedVariables false
set_option maxRecDepth 20000
/-- A list of bytes that owns its row, as bytes wherever they begin; it has room for them. -/
theorem Lst.bsc {w : World} {s : Value} {M : Nat} {f : Nat → Int} (h : Lst w 5 1 s M (fun j _ => .int .u8 (f j))) (hM : M ≤ 140737488355328) (hf : ∀ i, i < M → 0 ≤ f i ∧ f i < 256) : ∃ a c, s = .slice a M c ∧ M ≤ c ∧ Bs w a M f := by
  obtain ⟨a, c, rfl, B⟩ := h.bs hM hf
  refine ⟨a, c, rfl, ?_, B⟩
  rcases h.2 with ⟨h1, h0⟩ | ⟨g, cap, cur, h1, _, _, h2, _⟩
  · cases h1; exact Nat.le_refl _
  · cases h1; exact h2
/-- Vertices that are got, as a list to be put. -/
theorem got_vs {w : World} {L : Lay} {fl c p n sz : Nat} (V : Vl L fl c p n sz) {a : Option Addr} {m : Nat} {f : Nat → Int} (E : Es w 7 a m (recL L f)) : Vs w a m (fun j => recAt fl c p n (bt f) (8 * (sz * j))) := by
  have e1 : (flg L).toNat = fl := by rw [V.ef]; rfl
  have e2 : L.c.toNat = c := by rw [V.ec]; rfl
  have e3 : L.p.toNat = p := by rw [V.ep]; rfl
  have e4 : L.n.toNat = n := by rw [V.en]; rfl
  have hsz : (lsize L 0).toNat = sz := by rw [V.es]; rfl
  have e : recL L f = fun j => rv (recAt fl c p n (bt f) (8 * (sz * j))) := by
    funext j
    unfold recL
    rw [e1, e2, e3, e4, hsz]
  rw [e] at E
  have hb := bt_bits f
  have hu : ∀ q, 0 ≤ nb (bt f) q c ∧ nb (bt f) q c < 4294967296 := fun q => by
    have := nb_in hb q c
    have := pow32 (k := c) V.c1.2
    omega
  exact ⟨E, fun i _ => u8_in hb _ _ V.f8, fun i _ => hu _, fun i _ => hu _, fun i k _ _ => by
    show 0 ≤ (if k < n then _ else _) ∧ (if k < n then _ else _) < _
    split
    · exact u16_in hb _ _ V.p1.2
    · omega⟩
/-- Where all have room, and are not too many: the bytes. -/
theorem put_ok {L : Lay} {fl c p n sz N M : Nat} {x : Int} {Q : Nat → Rcd} (V : Vl L fl c p n sz) (hr : ∀ i, i < N → Room fl c p n (Q i)) (hb : ¬ 65536 < N * sz) (h : PutIs L Q N x M) : x = 0 ∧ M = N * sz := by
  have hsz : (lsize L 0).toNat = sz := by rw [V.es]; rfl
  have e1 : (flg L).toNat = fl := by rw [V.ef]; rfl
  have e2 : L.c.toNat = c := by rw [V.ec]; rfl
  have e3 : L.p.toNat = p := by rw [V.ep]; rfl
  have e4 : L.n.toNat = n := by rw [V.en]; rfl
  exact h.one (.inr (.inr (.inr ⟨V.may, fun i hi => by unfold RoomL; rw [e1, e2, e3, e4]; exact hr i hi, by rw [hsz]; exact hb, rfl, by rw [hsz]⟩)))
theorem pbyL_is {L : Lay} {fl c p n sz : Nat} (V : Vl L fl c p n sz) (Q : Nat → Rcd) (j : Nat) : pbyL L Q j = pby fl c p n sz Q j := by
  have hsz : (lsize L 0).toNat = sz := by rw [V.es]; rfl
  have e1 : (flg L).toNat = fl := by rw [V.ef]; rfl
  have e2 : L.c.toNat = c := by rw [V.ec]; rfl
  have e3 : L.p.toNat = p := by rw [V.ep]; rfl
  have e4 : L.n.toNat = n := by rw [V.en]; rfl
  unfold pbyL
  rw [e1, e2, e3, e4, hsz]
theorem recL_is {L : Lay} {fl c p n sz : Nat} (V : Vl L fl c p n sz) (f : Nat → Int) (j : Nat) : recL L f j = rv (recAt fl c p n (bt f) (8 * (sz * j))) := by
  have hsz : (lsize L 0).toNat = sz := by rw [V.es]; rfl
  have e1 : (flg L).toNat = fl := by rw [V.ef]; rfl
  have e2 : L.c.toNat = c := by rw [V.ec]; rfl
  have e3 : L.p.toNat = p := by rw [V.ep]; rfl
  have e4 : L.n.toNat = n := by rw [V.en]; rfl
  unfold recL
  rw [e1, e2, e3, e4, hsz]
theorem gerr_ok {L : Lay} {fl c p n sz m len : Nat} (V : Vl L fl c p n sz) (hb : ¬ 65536 < len) (hl : len = sz * m) : gerr L len = 0 ∧ gcnt L len = m := by
  have hsz : (lsize L 0).toNat = sz := by rw [V.es]; rfl
  have s1 := V.s1
  have hg : gerr L len = 0 := by unfold gerr; rw [if_pos V.may, if_neg hb, hsz, if_pos (by rw [hl, Nat.mul_mod_right])]
  refine ⟨hg, ?_⟩
  unfold gcnt
  rw [if_pos hg, hsz, hl, Nat.mul_div_cancel_left _ (by omega)]


set_option maxHeartbeats 8000000 in
theorem ragain_no (L : Lay) (a : Option Addr) (len cap : Nat) (f : Nat → Int) (w : World) (TL : LaidL w) (B : Bs w a len f) (hc : len ≤ cap) (h : ¬ (len ≤ 5000 ∧ gerr L len = 0)) :
    Calls Tryd.prog 5 #[(.agg (lv (L))), .slice a len cap] w fun e w' => e = .returned (.bool true) ∧ Ext w w' := by
  have EX := Ext.refl w
  by_cases h5 : len ≤ 5000
  · have d1 : ¬ (5000 : Int) < (len : Int) := by omega
    have hg : gerr L len ≠ 0 := fun hg => h ⟨h5, hg⟩
    have hcnt : gcnt L len = 0 := by unfold gcnt; rw [if_neg hg]
    have GC := fun v (h : Ext w v) => get_any L a len cap f v (TL.later h) (B.later h) hc
    unfold GotAll at GC
    rw [hcnt] at GC
    have hd : (gerr L len != 0) = true := by simpa using hg
    generalize gerr L len = x at *
    go_enter Tryd.func5, Tryd.ntmps5
    go_upto_region 1 with fail
    refine rebase (G := fun w' => Code.wp _ _ _ _ w') _ (fun v1 => Ext w v1 ∧ Lm v1 (w.heap.size) (L)) ⟨by repeat (first | with_reducible exact EX |  with_reducible refine Ext.alloc ?_ _ | with_reducible refine Ext.drew ?_ | with_reducible refine Ext.drewN ?_ _ | with_reducible refine Ext.setCell ?_ (by first | (simp; done) | omega | (dsimp only; omega)) _), by repeat (first | with_reducible assumption | with_reducible refine Lm.drew ?_ | with_reducible refine Lm.drewN ?_ _ | (with_reducible refine Lm.skip ?_ ?_; focus (first | omega | (simp; done))) | with_reducible refine Lm.set0 ?_ _ | with_reducible refine Lm.set4 ?_ _ | with_reducible refine Lm.set5 ?_ _ | with_reducible refine Lm.setk ?_ _ (by decide) | (with_reducible refine Lm.cells1 ?_; exact ⟨_, by with_reducible assumption⟩) | (with_reducible refine Lm.skips ?_ _ _ ?_; focus (first | omega | (simp; done))) | (with_reducible refine Lm.new ?_ <;> first | rfl | (simp; done)) | (with_reducible refine Lm.fresh ?_ ?_ <;> first | rfl | (simp; done)) | with_reducible refine Lm.alloc ?_ _)⟩ ?_; clear EX ; rintro v1 ⟨EX, LB⟩; rename World => v; have LBc0 := LB.c0; have LBc1 := LB.c1; have LBc2 := LB.c2; have LBc3 := LB.c3; have LBc4 := LB.c4; have LBc5 := LB.c5; have LBdg := LB.dg; have LBfz := LB.fz; have LBlt := LB.lt
    obtain ⟨b0, hb0⟩ : ∃ b0, w.heap.size = b0 := ⟨_, rfl⟩
    rw [hb0] at LB LBc0 LBc1 LBc2 LBc3 LBc4 LBc5 LBdg LBfz LBlt ⊢
    go_upto_region 4 with (first | (refine wpList_load_lay (b0) _ rfl rfl rfl LB ?_) | (go_at_call 10; refine (GC _ EX).mono ?_; rintro e v1 ⟨s1, rfl, hb, S1, n1⟩; clear n1; replace EX := Ext.trans EX hb; replace LB := LB.later hb; replace LBc0 := LB.c0; replace LBc1 := LB.c1; replace LBc2 := LB.c2; replace LBc3 := LB.c3; replace LBc4 := LB.c4; replace LBc5 := LB.c5; replace LBdg := LB.dg; replace LBfz := LB.fz; replace LBlt := LB.lt; clear hb v; rename World => v))
    obtain ⟨a1, c1, hs1⟩ := S1.slice
    subst hs1
    clear S1
    go_wp2_with (first | (go_at_call 8; with_reducible refine (lives9_any _ (TL.later EX)).mono ?_; rintro e v1 ⟨rfl, hb⟩; replace EX := Ext.trans EX hb; clear hb))
    go_ret
    exact ⟨rfl, EX⟩
  · have d1 : (5000 : Int) < (len : Int) := by omega
    clear B h
    go_enter Tryd.func5, Tryd.ntmps5
    go_upto_region 1 with fail
    refine rebase (G := fun w' => Code.wp _ _ _ _ w') _ (fun v1 => Ext w v1 ∧ Lm v1 (w.heap.size) (L)) ⟨by repeat (first | with_reducible exact EX |  with_reducible refine Ext.alloc ?_ _ | with_reducible refine Ext.drew ?_ | with_reducible refine Ext.drewN ?_ _ | with_reducible refine Ext.setCell ?_ (by first | (simp; done) | omega | (dsimp only; omega)) _), by repeat (first | with_reducible assumption | with_reducible refine Lm.drew ?_ | with_reducible refine Lm.drewN ?_ _ | (with_reducible refine Lm.skip ?_ ?_; focus (first | omega | (simp; done))) | with_reducible refine Lm.set0 ?_ _ | with_reducible refine Lm.set4 ?_ _ | with_reducible refine Lm.set5 ?_ _ | with_reducible refine Lm.setk ?_ _ (by decide) | (with_reducible refine Lm.cells1 ?_; exact ⟨_, by with_reducible assumption⟩) | (with_reducible refine Lm.skips ?_ _ _ ?_; focus (first | omega | (simp; done))) | (with_reducible refine Lm.new ?_ <;> first | rfl | (simp; done)) | (with_reducible refine Lm.fresh ?_ ?_ <;> first | rfl | (simp; done)) | with_reducible refine Lm.alloc ?_ _)⟩ ?_; clear EX ; rintro v1 ⟨EX, LB⟩; rename World => v; have LBc0 := LB.c0; have LBc1 := LB.c1; have LBc2 := LB.c2; have LBc3 := LB.c3; have LBc4 := LB.c4; have LBc5 := LB.c5; have LBdg := LB.dg; have LBfz := LB.fz; have LBlt := LB.lt
    go_wp2_with (first | (go_at_call 8; with_reducible refine (lives9_any _ (TL.later EX)).mono ?_; rintro e v1 ⟨rfl, hb⟩; replace EX := Ext.trans EX hb; clear hb))
    go_ret
    exact ⟨rfl, EX⟩
set_option maxHeartbeats 8000000 in
theorem ragain_yes (L : Lay) (fl c p n sz m : Nat) (V : Vl L fl c p n sz) (a : Option Addr) (len cap : Nat) (f : Nat → Int) (w : World) (TL : LaidL w) (B : Bs w a len f) (hc : len ≤ cap) (h5 : len ≤ 5000) (hlm : len = sz * m) :
    Calls Tryd.prog 5 #[(.agg (lv (L))), .slice a len cap] w fun e w' => e = .returned (.bool true) ∧ Ext w w' := by
  have EX := Ext.refl w
  have d1 : ¬ (5000 : Int) < (len : Int) := by omega
  have s1 := V.s1
  have hml : m ≤ len := by
    have h2 : 1 * m ≤ sz * m := Nat.mul_le_mul_right m (by omega)
    omega
  have hms : m * sz = len := by rw [hlm, Nat.mul_comm]
  obtain ⟨g0, gm⟩ := gerr_ok V (by omega) hlm
  have GC : ∀ f' a' cap' v, Ext w v → Bs v a' len f' → len ≤ cap' → Calls Tryd.prog 10 #[(.agg (lv (L))), .slice a' len cap'] v fun e w' => ∃ s, e = .returned (.tuple #[s, .int .i64 0]) ∧ Ext v w' ∧ Lst w' 63 7 s m (recL L f') := fun f' a' cap' v h B' hc' => (get_any L a' len cap' f' v (TL.later h) B' hc').mono fun e w' h' => by
    obtain ⟨s, he, E, SL, _⟩ := h'
    rw [g0] at he
    rw [gm] at SL
    exact ⟨s, he, E, SL⟩
  have PC : ∀ Q a' cap' v, Ext w v → Vs v a' m Q → (∀ i, i < m → Room fl c p n (Q i)) → Calls Tryd.prog 19 #[(.agg (lv (L))), .slice a' m cap'] v fun e w' => ∃ s, e = .returned (.tuple #[s, .int .i64 0]) ∧ Ext v w' ∧ Lst w' 5 1 s len (fun j _ => .int .u8 (pby fl c p n sz Q j)) := fun Q a' cap' v h B' hr => (put_all L m cap' a' Q v (TL.later h) B' (by omega)).mono fun e w' h' => by
    obtain ⟨s, x, M, he, E, SL, _, hp⟩ := h'
    obtain ⟨rfl, rfl⟩ := put_ok V hr (by omega) hp
    rw [hms] at SL
    exact ⟨s, he, E, SL.congr fun i j hi _ => by rw [pbyL_is V]⟩
  have SZ : ∀ v, Ext w v → Calls Tryd.prog 20 #[(.agg (lv (L))), .int .u8 0] v fun e w' => e = .returned (.int .i64 (sz : Nat)) ∧ Ext v w' := fun v h => by have := lsize_any L 0 (by decide) v (TL.later h); rwa [V.es] at this
  have HV : Hid (Vl L fl c p n sz) := V
  have HB : Hid (Bs w a len f) := B
  have HT : Hid (LaidL w) := TL
  have HLM : Hid (len = sz * m) := hlm
  have hc1 := V.ec
  have hp1 := V.ep
  have hn1 := V.en
  have hfl : flg L = (fl : Int) := V.ef
  have HFL : Hid (flg L = (fl : Int)) := hfl
  clear hfl V B TL g0 gm hlm hms
  go_enter Tryd.func5, Tryd.ntmps5
  go_upto_region 1 with fail
  refine rebase (G := fun w' => Code.wp _ _ _ _ w') _ (fun v1 => Ext w v1 ∧ Lm v1 (w.heap.size) (L)) ⟨by repeat (first | with_reducible exact EX |  with_reducible refine Ext.alloc ?_ _ | with_reducible refine Ext.drew ?_ | with_reducible refine Ext.drewN ?_ _ | with_reducible refine Ext.setCell ?_ (by first | (simp; done) | omega | (dsimp only; omega)) _), by repeat (first | with_reducible assumption | with_reducible refine Lm.drew ?_ | with_reducible refine Lm.drewN ?_ _ | (with_reducible refine Lm.skip ?_ ?_; focus (first | omega | (simp; done))) | with_reducible refine Lm.set0 ?_ _ | with_reducible refine Lm.set4 ?_ _ | with_reducible refine Lm.set5 ?_ _ | with_reducible refine Lm.setk ?_ _ (by decide) | (with_reducible refine Lm.cells1 ?_; exact ⟨_, by with_reducible assumption⟩) | (with_reducible refine Lm.skips ?_ _ _ ?_; focus (first | omega | (simp; done))) | (with_reducible refine Lm.new ?_ <;> first | rfl | (simp; done)) | (with_reducible refine Lm.fresh ?_ ?_ <;> first | rfl | (simp; done)) | with_reducible refine Lm.alloc ?_ _)⟩ ?_; clear EX ; rintro v1 ⟨EX, LB⟩; rename World => v; have LBc0 := LB.c0; have LBc1 := LB.c1; have LBc2 := LB.c2; have LBc3 := LB.c3; have LBc4 := LB.c4; have LBc5 := LB.c5; have LBdg := LB.dg; have LBfz := LB.fz; have LBlt := LB.lt
  obtain ⟨b0, hb0⟩ : ∃ b0, w.heap.size = b0 := ⟨_, rfl⟩
  rw [hb0] at LB LBc0 LBc1 LBc2 LBc3 LBc4 LBc5 LBdg LBfz LBlt ⊢
  go_upto_region 4 with (first | (refine wpList_load_lay (b0) _ rfl rfl rfl LB ?_) | (go_at_call 10; refine (GC f a cap _ EX (HB.out.later EX) hc).mono ?_; rintro e v1 ⟨s1, rfl, hb, S1⟩; replace EX := Ext.trans EX hb; replace LB := LB.later hb; replace LBc0 := LB.c0; replace LBc1 := LB.c1; replace LBc2 := LB.c2; replace LBc3 := LB.c3; replace LBc4 := LB.c4; replace LBc5 := LB.c5; replace LBdg := LB.dg; replace LBfz := LB.fz; replace LBlt := LB.lt; clear hb v; rename World => v))
  obtain ⟨a1, c1, hs1, E1⟩ := S1.es (by omega)
  subst hs1
  have V1 := got_vs HV.out E1
  obtain ⟨Q, hQ⟩ : ∃ Q : Nat → Rcd, (fun j => recAt fl c p n (bt f) (8 * (sz * j))) = Q := ⟨_, rfl⟩
  have hQj : ∀ j, Q j = recAt fl c p n (bt f) (8 * (sz * j)) := fun j => by rw [← hQ]
  rw [hQ] at V1
  have HR : Hid (∀ i, i < m → Room fl c p n (Q i)) := fun i _ => by rw [hQj]; exact got_room _ _ _ _ (bt_bits f) _
  have HQ : Hid (∀ j, Q j = recAt fl c p n (bt f) (8 * (sz * j))) := hQj
  clear S1 hQ hQj
  go_upto_region 7 with (first | (refine wpList_load_lay (b0) _ rfl rfl rfl LB ?_) | (go_at_call 19; refine (PC Q a1 c1 _ EX V1 HR.out).mono ?_; rintro e v1 ⟨s2, rfl, hb, S2⟩; replace EX := Ext.trans EX hb; replace LB := LB.later hb; replace LBc0 := LB.c0; replace LBc1 := LB.c1; replace LBc2 := LB.c2; replace LBc3 := LB.c3; replace LBc4 := LB.c4; replace LBc5 := LB.c5; replace LBdg := LB.dg; replace LBfz := LB.fz; replace LBlt := LB.lt; replace E1 := E1.later hb; clear V1; clear hb v; rename World => v))
  obtain ⟨a2, c2, hs2, hc2, B2⟩ := S2.bsc (by omega) (fun i _ => pby_in _ _ _ _ _ _ _)
  subst hs2
  clear S2
  go_upto_region 8 with (first | (refine wpList_load_lay (b0) _ rfl rfl rfl LB ?_) | (go_at_call 10; refine (GC (pby fl c p n sz Q) a2 c2 _ EX B2 hc2).mono ?_; rintro e v1 ⟨s3, rfl, hb, S3⟩; replace EX := Ext.trans EX hb; replace LB := LB.later hb; replace LBc0 := LB.c0; replace LBc1 := LB.c1; replace LBc2 := LB.c2; replace LBc3 := LB.c3; replace LBc4 := LB.c4; replace LBc5 := LB.c5; replace LBdg := LB.dg; replace LBfz := LB.fz; replace LBlt := LB.lt; replace E1 := E1.later hb; replace B2 := B2.later hb; clear hb v; rename World => v))
  obtain ⟨a3, c3, hs3, E3⟩ := S3.es (by omega)
  subst hs3
  have V3 := got_vs HV.out E3
  clear S3
  go_upto_region 9 with (first | (refine wpList_load_lay (b0) _ rfl rfl rfl LB ?_) | (go_at_call 19; refine (PC _ a3 c3 _ EX V3 (fun i _ => got_room _ _ _ _ (bt_bits _) _)).mono ?_; rintro e v1 ⟨s4, rfl, hb, S4⟩; replace EX := Ext.trans EX hb; replace LB := LB.later hb; replace LBc0 := LB.c0; replace LBc1 := LB.c1; replace LBc2 := LB.c2; replace LBc3 := LB.c3; replace LBc4 := LB.c4; replace LBc5 := LB.c5; replace LBdg := LB.dg; replace LBfz := LB.fz; replace LBlt := LB.lt; replace E1 := E1.later hb; replace B2 := B2.later hb; replace E3 := E3.later hb; clear V3; clear hb v; rename World => v))
  obtain ⟨a4, c4, hs4, hc4, B4⟩ := S4.bsc (by omega) (fun i _ => pby_in _ _ _ _ _ _ _)
  subst hs4
  clear S4 GC PC
  go_upto_region 10 with (first | (refine wpList_load_lay (b0) _ rfl rfl rfl LB ?_) | (go_at_call 20; refine (SZ _ EX).mono ?_; rintro e v1 ⟨rfl, hb⟩; replace EX := Ext.trans EX hb; replace LB := LB.later hb; replace LBc0 := LB.c0; replace LBc1 := LB.c1; replace LBc2 := LB.c2; replace LBc3 := LB.c3; replace LBc4 := LB.c4; replace LBc5 := LB.c5; replace LBdg := LB.dg; replace LBfz := LB.fz; replace LBlt := LB.lt; replace E1 := E1.later hb; replace B2 := B2.later hb; replace E3 := E3.later hb; replace B4 := B4.later hb; clear hb v; rename World => v))
  have hb8 := HV.out.b
  have n4 := HV.out.n1
  have SR := same_recs a1 a3 m c1 c3 _ _ v E1 E3 (fun i hi => by
    rw [recL_is HV.out, recL_is HV.out, ← HQ.out i]
    exact (put_got (HR.out i hi) hb8.1).symm) (fun i hi => recL_kinds L f (len := len) (by rw [(gerr_ok HV.out (by omega) HLM.out).2]; exact hi))
  have SB := fun v' (h : Ext v v') => sameBytes_yes a2 a4 len c2 c4 _ _ v' (B2.later h) (B4.later h) (fun i hi => (put_again n4.2 (HR.out (i / sz) (by rw [HLM.out] at hi; exact Nat.div_lt_of_lt_mul hi)) hb8.1).symm)
  have hsz1 : ¬ (sz : Int) < 1 := by omega
  clear E1 E3 B4
  go_upto_region 12 with (first
    | (go_at_call 14; with_reducible refine SR.mono ?_; rintro e v1 ⟨rfl, x1⟩; clear SR)
    | (go_at_call 21; with_reducible refine (SB _ x1).mono ?_; rintro e v2 ⟨rfl, x2⟩; clear SB))
  have HL2 : Hid (Ext w v2 ∧ Lm v2 (b0) (L) ∧ Bs v2 a2 len (pby fl c p n sz Q)) := ⟨EX.trans (Ext.trans x1 x2), LB.later (Ext.trans x1 x2), B2.later (Ext.trans x1 x2)⟩
  clear LBc0 LBc1 LBc2 LBc3 LBc4 LBc5 LBdg LBfz LBlt
  clear EX LB B2 x1 x2 v v1
  rename World => v
  obtain ⟨EX, LB, B2⟩ := HL2.out
  clear HL2
  have LBc0 := LB.c0; have LBc1 := LB.c1; have LBc2 := LB.c2; have LBc3 := LB.c3; have LBc4 := LB.c4; have LBc5 := LB.c5; have LBdg := LB.dg; have LBfz := LB.fz; have LBlt := LB.lt
  obtain ⟨k, hk⟩ : ∃ k : Nat, n * p = k := ⟨_, rfl⟩
  have hnp : (n : Int) * (p : Int) = (k : Int) := by rw [← hk, Int.natCast_mul]
  have p16 := HV.out.p1
  have f8 := HV.out.f8
  have c32 := HV.out.c1
  have hk64 : k ≤ 64 := by rw [← hk]; exact Nat.mul_le_mul n4.2 p16.2
  rw [hk] at hb8
  have HK : Hid (n * p = k) := hk
  obtain ⟨T1, hT1⟩ : ∃ T1 : Nat, 2 * (c : Int) + (k : Int) = (T1 : Int) := ⟨2 * c + k, by push_cast; rfl⟩
  obtain ⟨T, hT⟩ : ∃ T : Nat, T1 + fl = T := ⟨_, rfl⟩
  obtain ⟨d, hd⟩ : ∃ d : Nat, 8 * (sz : Int) - (T : Int) = (d : Int) := ⟨8 * sz - T, by omega⟩
  have hd8 : d < 8 := by omega
  have HTT : Hid (fl + c + c + n * p = T ∧ 8 * sz = T + d) := ⟨by rw [HK.out]; omega, by omega⟩
  have hflf : L.t = 4 → L.f = (fl : Int) := fun h => by have := HFL.out; unfold flg at this; rwa [if_neg (by omega)] at this
  have hfl0 : L.t ≠ 4 → fl = 0 := fun h => by
    have h1 := HFL.out
    have h2 := HV.out.may
    unfold vlay at h2
    simp only [Bool.and_eq_true, Bool.or_eq_true, decide_eq_true_eq] at h2
    unfold flg at h1
    rw [if_pos (by omega)] at h1
    omega
  clear hk
  by_cases h4 : L.t = 4
  case' pos =>
    have e4 : (L.t == 4) = true := by simp [h4]
    have hf4 := hflf h4
    have hT2 : (T1 : Int) + (fl : Int) = (T : Int) := by omega
    clear hflf hfl0 h4 hT hb8
    go_upto_region 13 with fail
    clear hT1
    go_upto_region 15 with fail
    clear hT2
  case' neg =>
    have e4 : (L.t == 4) = false := by simp [h4]
    have hf4 := hfl0 h4
    obtain rfl : T1 = T := by omega
    clear hflf hfl0 h4 hT hb8
    go_upto_region 13 with fail
    clear hT1
    go_upto_region 15 with fail
  all_goals
    go_upto_region 16 with fail
    clear LBc0 LBc1 LBc2 LBc3 LBc4 LBc5 LBdg LBfz LBlt
    clear LB
    go_loopg [15] len (fun gk iv wr => ∃ i : Nat, i + gk = len ∧ iv = .int .i64 i ∧ Ext w wr ∧ Bs wr a2 len (pby fl c p n sz Q))
    case atStart => exact ⟨0, by omega, rfl, EX, B2⟩
    case round =>
      clear EX B2 v
      obtain ⟨i, hi, rfl, EX, B2⟩ := hrel
      obtain ⟨v, hv⟩ : ∃ v, v = wr := ⟨_, rfl⟩
      subst hv
      by_cases hlt : i < len
      · have hii : (i : Int) < (len : Int) := by omega
        obtain ⟨b2, o2, rfl, hc2'⟩ := B2.some (by omega)
        obtain ⟨b1, o1, rfl, hc1'⟩ := (HB.out.later EX).some (by omega)
        have x2 := hc2' i hlt
        have x1 := hc1' i hlt
        have fb := HB.out.byte i hlt
        have hj : sz * (i / sz) + i % sz = i := Nat.div_add_mod i sz
        have hqs : i % sz < sz := Nat.mod_lt _ (by omega)
        have HB2 : Hid (Bs v (some ⟨b2, o2, none⟩) len (pby fl c p n sz Q)) := B2
        have hpi : pby fl c p n sz Q i = if i % sz = sz - 1 then f i / 2 ^ d * 2 ^ d else f i := by
          have hT8 := HTT.out
          by_cases e : i % sz = sz - 1
          · rw [if_pos e]
            have := again_last (fl := fl) (c := c) (p := p) (n := n) (f := f) (R := Q) (j := i / sz) (d := d) hqs (HQ.out _) (by rw [hj]; exact fb) hd8 (by omega)
            rwa [hj] at this
          · rw [if_neg e]
            have := again_full (fl := fl) (c := c) (p := p) (n := n) (f := f) (R := Q) (j := i / sz) hqs (HQ.out _) (by rw [hj]; exact fb) (by omega)
            rwa [hj] at this
        have him : (i : Int) % (sz : Int) = ((i % sz : Nat) : Int) := by push_cast; rfl
        by_cases e : i % sz = sz - 1
        · rw [if_pos e] at hpi
          have hm := mask8 (f i) d hd8 fb.1 fb.2
          have eq1 : ((i : Int) % (sz : Int) == (sz : Int) - 1) = true := by rw [him]; simp; omega
          rw [hpi] at x2
          clear hpi hj hqs him e B2 hc2' hc1'
          generalize f i = y at *
          generalize y / 2 ^ d * 2 ^ d = z at *
          have hne : (z != z) = false := by simp
          go_upto_region 21 with fail
          have g1 := fun x' : Grow v => x'.cell x1
          have g2 := fun x' : Grow v => x'.cell x2
          refine wp_region_grow (by kernel_rfl) (by kernel_rfl) ?_; (repeat (first | go_big_quiet_step (fail))); refine wpQuiet_nil ?_; clear g1 g2 x1 x2; rintro _ ⟨xq, rfl⟩
          have hE := xq.ext
          generalize xq.out = v1 at *
          clear xq
          go_wp2
          go_roundg (gk - 1)
          case measure => omega
          case rel => exact ⟨i + 1, by omega, by go_num, EX.trans hE, HB2.out.later hE⟩
        · rw [if_neg e] at hpi
          have hm : bits .and .u8 (f i) 255 = f i := by
            have := mask8 (f i) 0 (by decide) fb.1 fb.2
            simpa using this
          have eq1 : ((i : Int) % (sz : Int) == (sz : Int) - 1) = false := by rw [him]; simp; omega
          rw [hpi] at x2
          clear hpi hj hqs him e B2 hc2' hc1'
          generalize f i = y at *
          have hne : (y != y) = false := by simp
          go_upto_region 21 with fail
          have g1 := fun x' : Grow v => x'.cell x1
          have g2 := fun x' : Grow v => x'.cell x2
          refine wp_region_grow (by kernel_rfl) (by kernel_rfl) ?_; (repeat (first | go_big_quiet_step (fail))); refine wpQuiet_nil ?_; clear g1 g2 x1 x2; rintro _ ⟨xq, rfl⟩
          have hE := xq.ext
          generalize xq.out = v1 at *
          clear xq
          go_wp2
          go_roundg (gk - 1)
          case measure => omega
          case rel => exact ⟨i + 1, by omega, by go_num, EX.trans hE, HB2.out.later hE⟩
      · have hii : ¬ (i : Int) < (len : Int) := by omega
        have TL := HT.out
        go_wp2_with (first | (go_at_call 8; with_reducible refine (lives9_any _ (TL.later EX)).mono ?_; rintro e v1 ⟨rfl, hb⟩; replace EX := Ext.trans EX hb; clear hb))
        go_ret
        exact ⟨rfl, EX⟩
theorem ragain_law (L : Lay) (a : Option Addr) (len cap : Nat) (f : Nat → Int) (w : World) (TL : LaidL w) (B : Bs w a len f) (hc : len ≤ cap) :
    Calls Tryd.prog 5 #[(.agg (lv (L))), .slice a len cap] w fun e w' => e = .returned (.bool true) ∧ Ext w w' := by
  by_cases h : len ≤ 5000 ∧ gerr L len = 0
  · obtain ⟨h5, hg⟩ := h
    have hg0 := hg
    have hv : vlay L = true := by
      cases h : vlay L
      · unfold gerr at hg; rw [if_neg (by rw [h]; decide)] at hg; omega
      · rfl
    obtain ⟨fl, c, p, n, sz, V⟩ := vl_of hv
    have hsz : (lsize L 0).toNat = sz := by rw [V.es]; rfl
    have hm : len % sz = 0 := by
      by_cases hm : len % sz = 0
      · exact hm
      · unfold gerr at hg
        rw [if_pos hv, if_neg (by omega), hsz, if_neg hm] at hg
        omega
    exact ragain_yes L fl c p n sz (len / sz) V a len cap f w TL B hc h5 (by have := Nat.div_add_mod len sz; omega)
  · exact ragain_no L a len cap f w TL B hc h
end Go.Proofs.YtemcppakmcffgaaDoor
