/- The laws' list of vertices, cut down to what has room: one round of the loop that makes it; what it is. The law RecordsBack, walked. -/
import Derived.Test.YtemcppakmcffgaaDoorLawRph
import Derived.Test.YtemcppakmcffgaaDoorPkJ
namespace Go.Proofs.YtemcppakmcffgaaDoor
open Go.RowKit Go.BigFrame
set_option linter.unusedSimpArgs false
set_option linter.unusedVariables false
set_option maxRecDepth 20000
theorem fit_vs {w : World} {L : Lay} {fl c p n sz : Nat} (V : Vl L fl c p n sz) {a : Option Addr} {m : Nat} {Q : Nat → Rcd} (E : Es w 7 a m (fun i => rv (fitR fl c p n (Q i)))) : Vs w a m (fun i => fitR fl c p n (Q i)) := by
  have p8 : (2 : Int) ^ fl ≤ 256 := pow_le2 (n := 8) V.f8
  have p32 := pow32 V.c1.2
  have p16 : (2 : Int) ^ p ≤ 65536 := pow_le2 (n := 16) V.p1.2
  have em : ∀ (x : Int) (k : Nat), 0 ≤ x % 2 ^ k ∧ x % 2 ^ k < 2 ^ k := fun x k => ⟨Int.emod_nonneg _ (Int.ne_of_gt (pow_pos2 _)), Int.emod_lt_of_pos _ (pow_pos2 _)⟩
  refine ⟨E, fun i _ => ?_, fun i _ => ?_, fun i _ => ?_, fun i k _ _ => ?_⟩
  · have := em (Q i).f fl
    show 0 ≤ (Q i).f % 2 ^ fl ∧ (Q i).f % 2 ^ fl < 256
    omega
  · have := em (Q i).x c
    show 0 ≤ (Q i).x % 2 ^ c ∧ (Q i).x % 2 ^ c < 4294967296
    omega
  · have := em (Q i).y c
    show 0 ≤ (Q i).y % 2 ^ c ∧ (Q i).y % 2 ^ c < 4294967296
    omega
  · show 0 ≤ (if k < n then _ else _) ∧ (if k < n then _ else _) < _
    split
    · have := em ((Q i).c k) p
      omega
    · omega
theorem Bs.take {w : World} {a : Option Addr} {len : Nat} {f : Nat → Int} (B : Bs w a len f) (k : Nat) (hk : k ≤ len) : Bs w a k f := ⟨by have := B.len; omega, fun i hi => B.at_ i (by omega), fun i hi => B.byte i (by omega)⟩
/-- The cells of one record, as a list written out. -/
theorem vl7 (g : Nat → Value) : vl 7 g = [g 0, g 1, g 2, g 3, g 4, g 5, g 6] := rfl
/-- A layout loaded out of its box: what the operation is is asked first. -/
theorem wpList_load_layh {ops : Array Oper} {rest : List Oper} {op : Oper} {a : Act} {w : World} {Q : Exit → Act → World → Prop} {L : Lay} (b : Nat) (x : Operand) (ho : op.op = .load 27 x)
    (hx : a.eval x = .pointer (some ⟨b, 0, none⟩)) (B : Lm w b L) (hw : Region.wanted op (yielded ops a.tmps) = true) (h : wpList Tryd.prog ops Q rest (a.put op.dst (.agg (lv L))) w) : wpList Tryd.prog ops Q (op :: rest) a w :=
  wpList_load_lay b x hw ho hx B h
end Go.Proofs.YtemcppakmcffgaaDoor

namespace Go.Proofs.YtemcppakmcffgaaDoor
open Go.RowKit Go.BigFrame
set_option linter.unusedSimpArgs false
set_option linter.unusedVariables false
set_option maxRecDepth 20000
theorem gerr_short {L : Lay} {fl c p n sz m : Nat} (V : Vl L fl c p n sz) (hb : ¬ 65536 < m) (hl : m % sz ≠ 0) : gerr L m = 5 ∧ gcnt L m = 0 := by
  have hsz : (lsize L 0).toNat = sz := by rw [V.es]; rfl
  have hg : gerr L m = 5 := by unfold gerr; rw [if_pos V.may, if_neg hb, hsz, if_neg hl]
  refine ⟨hg, ?_⟩
  unfold gcnt
  rw [hg, if_neg (by decide)]



set_option maxHeartbeats 8000000 in
theorem rback_yes (L : Lay) (fl c p n sz N : Nat) (V : Vl L fl c p n sz) (h5 : L.t = 5 → 0 ≤ L.f ∧ L.f ≤ 60) (a : Option Addr) (cap : Nat) (Q : Nat → Rcd) (w : World) (TL : LaidL w) (B : Vs w a N Q) (hN : N ≤ 400) :
    Calls Tryd.prog 4 #[(.agg (lv (L))), .slice a N cap] w fun e w' => e = .returned (.bool true) ∧ Ext w w' := by
  have EX := Ext.refl w
  obtain ⟨i0, hi0, hz0, hz1, hz2⟩ := info_parts info_recG
  have s1 := V.s1
  have hmay : mayl L = true := by have := V.may; unfold vlay at this; exact (Bool.and_eq_true_iff.1 this).1
  have ht45 : L.t = 4 ∨ L.t = 5 := by have := V.may; unfold vlay at this; simpa using (Bool.and_eq_true_iff.1 this).2
  have CK : ∀ v, Ext w v → Calls Tryd.prog 17 #[(.agg (lv (L)))] v fun e w' => e = .returned (.int .i64 0) ∧ Ext v w' := fun v h => by have := lcheck_any L v (TL.later h); rwa [if_pos hmay] at this
  have SZ : Hid (∀ v, Ext w v → Calls Tryd.prog 20 #[(.agg (lv (L))), .int .u8 0] v fun e w' => e = .returned (.int .i64 (sz : Nat)) ∧ Ext v w') := fun v h => by have := lsize_any L 0 (by decide) v (TL.later h); rwa [V.es] at this
  obtain ⟨M, hM⟩ : ∃ M, N * sz = M := ⟨_, rfl⟩
  have M6 : M ≤ 65536 := by rw [← hM]; exact Nat.le_trans (Nat.mul_le_mul hN V.s1.2) (by decide)
  have hMm : M = sz * N := by rw [← hM, Nat.mul_comm]
  have PC : Hid (∀ Q a' cap' v, Ext w v → Vs v a' N Q → (∀ i, i < N → Room fl c p n (Q i)) → Calls Tryd.prog 19 #[(.agg (lv (L))), .slice a' N cap'] v fun e w' => ∃ s, e = .returned (.tuple #[s, .int .i64 0]) ∧ Ext v w' ∧ Lst w' 5 1 s M (fun j _ => .int .u8 (pby fl c p n sz Q j))) := fun Q a' cap' v h B' hr => (put_all L N cap' a' Q v (TL.later h) B' (by omega)).mono fun e w' h' => by
    obtain ⟨s, x, M', he, E, SL, _, hp⟩ := h'
    obtain ⟨rfl, rfl⟩ := put_ok V hr (by omega) hp
    rw [hM] at SL
    exact ⟨s, he, E, SL.congr fun i j hi _ => by rw [pbyL_is V]⟩
  have GC : Hid (∀ f' a' cap' v, Ext w v → Bs v a' M f' → M ≤ cap' → Calls Tryd.prog 10 #[(.agg (lv (L))), .slice a' M cap'] v fun e w' => ∃ s, e = .returned (.tuple #[s, .int .i64 0]) ∧ Ext v w' ∧ Lst w' 63 7 s N (recL L f')) := fun f' a' cap' v h B' hc' => (get_any L a' M cap' f' v (TL.later h) B' hc').mono fun e w' h' => by
    obtain ⟨s, he, E, SL, _⟩ := h'
    obtain ⟨k0, k1⟩ := gerr_ok (m := N) V (show ¬ 65536 < M by omega) hMm
    rw [k0] at he
    rw [k1] at SL
    exact ⟨s, he, E, SL⟩
  have GS : Hid (∀ m x k, M = m + 1 → gerr L m = x → gcnt L m = k → ∀ f' a' cap' v, Ext w v → Bs v a' m f' → m ≤ cap' → Calls Tryd.prog 10 #[(.agg (lv (L))), .slice a' m cap'] v fun e w' => ∃ s, e = .returned (.tuple #[s, .int .i64 x]) ∧ Ext v w' ∧ Lst w' 63 7 s k (recL L f')) := fun m x k _ hx hk f' a' cap' v h B' hc' => (get_any L a' m cap' f' v (TL.later h) B' hc').mono fun e w' h' => by
    obtain ⟨s, he, E, SL, _⟩ := h'
    rw [hx] at he
    rw [hk] at SL
    exact ⟨s, he, E, SL⟩
  have HM : Hid (N * sz = M) := hM
  clear hM hMm
  have HV : Hid (Vl L fl c p n sz) := V
  have HB : Hid (Vs w a N Q) := B
  have HT : Hid (LaidL w) := TL
  have HF5 : Hid (L.t = 5 → 0 ≤ L.f ∧ L.f ≤ 60) := h5
  have t5 : decide ((5 : Int) < L.t) = false := decide_eq_false (by omega)
  have n400 : decide ((400 : Int) < (N : Int)) = false := decide_eq_false (by omega)
  have hres : ∀ P : Prop, (L.t == 5) = true ∧ decide (L.f < 0) = false ∧ decide ((60 : Int) < L.f) = false ∨ (L.t == 5) = false := fun _ => by
    by_cases h : L.t = 5
    · have := h5 h; exact .inl ⟨by simp [h], decide_eq_false (by omega), decide_eq_false (by omega)⟩
    · exact .inr (by simp [h])
  have hres := hres True
  clear V B TL h5 hmay ht45
  go_enter Tryd.func4, Tryd.ntmps4
  go_upto_region 1 with fail
  refine rebase (G := fun w' => Code.wp _ _ _ _ w') _ (fun v1 => Ext w v1 ∧ Lm v1 (w.heap.size) (L)) ⟨by repeat (first | with_reducible exact EX |  with_reducible refine Ext.alloc ?_ _ | with_reducible refine Ext.drew ?_ | with_reducible refine Ext.drewN ?_ _ | with_reducible refine Ext.setCell ?_ (by first | (simp; done) | omega | (dsimp only; omega)) _), by repeat (first | with_reducible assumption | with_reducible refine Lm.drew ?_ | with_reducible refine Lm.drewN ?_ _ | (with_reducible refine Lm.skip ?_ ?_; focus (first | omega | (simp; done))) | with_reducible refine Lm.set0 ?_ _ | with_reducible refine Lm.set4 ?_ _ | with_reducible refine Lm.set5 ?_ _ | with_reducible refine Lm.setk ?_ _ (by decide) | (with_reducible refine Lm.cells1 ?_; exact ⟨_, by with_reducible assumption⟩) | (with_reducible refine Lm.skips ?_ _ _ ?_; focus (first | omega | (simp; done))) | (with_reducible refine Lm.new ?_ <;> first | rfl | (simp; done)) | (with_reducible refine Lm.fresh ?_ ?_ <;> first | rfl | (simp; done)) | with_reducible refine Lm.alloc ?_ _)⟩ ?_; clear EX ; rintro v1 ⟨EX, LB⟩; rename World => v; have LBc0 := LB.c0; have LBc1 := LB.c1; have LBc2 := LB.c2; have LBc3 := LB.c3; have LBc4 := LB.c4; have LBc5 := LB.c5; have LBdg := LB.dg; have LBfz := LB.fz; have LBlt := LB.lt
  obtain ⟨b0, hb0⟩ : ∃ b0, w.heap.size = b0 := ⟨_, rfl⟩
  rw [hb0] at LB LBc0 LBc1 LBc2 LBc3 LBc4 LBc5 LBdg LBfz LBlt ⊢
  go_cut [2, 39] (fun s2 s39 wc => s2 = .pointer (some ⟨b0, 0, none⟩) ∧ s39 = .bool false ∧ Ext w wc ∧ Lm wc (b0) (L))
  case first =>
    rcases hres with ⟨r1, r2, r3⟩ | r1
    all_goals
      go_wp2_with (first | go_skip | (refine wpList_load_layh (b0) _ rfl rfl LB rfl ?_) | (go_at_call 17; with_reducible refine (CK _ EX).mono ?_; rintro e v1 ⟨rfl, hb⟩; replace EX := Ext.trans EX hb; replace LB := LB.later hb; replace LBc0 := LB.c0; replace LBc1 := LB.c1; replace LBc2 := LB.c2; replace LBc3 := LB.c3; replace LBc4 := LB.c4; replace LBc5 := LB.c5; replace LBdg := LB.dg; replace LBfz := LB.fz; replace LBlt := LB.lt; clear hb v; rename World => v))
      go_meet
      case rel => exact ⟨rfl, rfl, EX, LB⟩
  case rest =>
  clear LBc0 LBc1 LBc2 LBc3 LBc4 LBc5 LBdg LBfz LBlt
  clear EX LB hres CK t5
  obtain ⟨h2, h39, EX, LB⟩ := hcut
  subst h2 h39
  rename World => v
  have LBc0 := LB.c0; have LBc1 := LB.c1; have LBc2 := LB.c2; have LBc3 := LB.c3; have LBc4 := LB.c4; have LBc5 := LB.c5; have LBdg := LB.dg; have LBfz := LB.fz; have LBlt := LB.lt
  go_upto_region 5 with fail
  clear LBc0 LBc1 LBc2 LBc3 LBc4 LBc5 LBdg LBfz LBlt
  go_loopg [5, 6] N (fun gk ov iv wr => ∃ (j : Nat) (sv : Value), sv = ov ∧ j + gk = N ∧ iv = .int .i64 j ∧ Ext w wr ∧ Lm wr (b0) (L) ∧ Lst wr 63 7 sv j (fun i => rv (fitR fl c p n (Q i))) ∧ ∀ b, sv.ownBlock = some b → b0 + 1 ≤ b)
  case atStart => exact ⟨0, _, rfl, by omega, rfl, EX, LB, Lst.nil _ _ _ _, by simp [Value.ownBlock]⟩
  case round =>
    clear EX LB v
    obtain ⟨j, sv, rfl, hj, rfl, EX, LB, SL, hnew⟩ := hrel
    obtain ⟨v, hv⟩ : ∃ v, v = wr := ⟨_, rfl⟩
    subst hv
    by_cases hlt : j < N
    · have hji : (j : Int) < (N : Int) := by omega
      obtain ⟨bv, ov, rfl, hr⟩ := HB.out.es.form (by omega)
      have hbvw : bv < w.heap.size := cell_lt (hr j hlt 0 _ rfl)
      have RX := range_later (hr j hlt) EX
      have f1 := HB.out.f j hlt
      have f2 := HB.out.x j hlt
      have f3 := HB.out.y j hlt
      have f4 : ∀ k, k < 4 → 0 ≤ (Q j).c k ∧ (Q j).c k < 65536 := fun k hk => HB.out.c j k hlt hk
      have FT : ∀ v1, Calls Tryd.prog 18 #[.agg (lv L), .agg (vl 7 (rv (Q j))).toArray] v1 fun e w' => e = .returned (.agg (vl 7 (rv (fitR fl c p n (Q j)))).toArray) ∧ Ext v1 w' := fun v1 => fitting_is L fl c p n sz HV.out HF5.out (Q j).f (Q j).x (Q j).y (Q j).c f1 f2 f3 f4 v1
      have hone := rv_one (fitR fl c p n (Q j))
      obtain ⟨g, hg⟩ : ∃ g, rv (Q j) = g := ⟨_, rfl⟩
      obtain ⟨h, hh⟩ : ∃ h, rv (fitR fl c p n (Q j)) = h := ⟨_, rfl⟩
      rw [hg] at RX FT
      rw [hh] at FT hone
      have HH : Hid (rv (fitR fl c p n (Q j)) = h) := hh
      clear hr f1 f2 f3 f4 hg hh
      have hnv : ¬ (sv.ownBlock = some bv) := fun h => by have := hnew bv h; omega
      have nLB : ¬ (sv.ownBlock = some (b0)) := fun h => by have := hnew _ h; omega
      have hl0 := LB.lt
      go_upto_region 7 with fail
      have gLB := fun x' : Alt (fun b => sv.ownBlock = some b) v => (LB.vm.blk2 (x'.chg.block b0 LB.lt nLB) x'.chg.size).lm
      refine wp_region_phases [(true, [0,1,2,3,4,5]), (false, [6,7,8,9])] (fun w' => ∃ x : Alt (fun b => sv.ownBlock = some b) v, w' = x.out) (by kernel_rfl) (by kernel_rfl) (fun c a x v w h => by cases x <;> exact h) ⟨⟨v.drew, (Chg.refl _ v).drew⟩, rfl⟩ ?_
      intro pl hpl
      simp [pickO] at hpl
      subst hpl
      unfold wpPh
      (repeat (first | (go_big_quiet_want; refine quiet_load_lay _ (b0) rfl rfl (by rintro _ ⟨x', rfl⟩; exact gLB x') ?_; simp only [Act.put, List.setIfInBounds_toArray, List.set_cons_succ, List.set_cons_zero]; go_big_quiet_on) | (go_big_quiet_want; refine quiet_load_cells 63 (.tmp 51) bv (ov + j * 7) (vl 7 g) _ rfl rfl (by rintro _ ⟨x', rfl⟩; exact range_chg RX x'.chg hnv) Tryd.underlying63 rfl (by rw [vl_len]; kernel_rfl) ?_; simp only [Act.put, List.setIfInBounds_toArray, List.set_cons_succ, List.set_cons_zero]; go_big_quiet_on) | go_big_quiet_step (fail))); refine wpQuiet_nil ?_; clear gLB
      have hE0 : Ext v v.drew := (Ext.refl v).drew
      unfold wpPh
      refine holdk_step fun K hK => ?_
      go_wp2_with (first | (go_at_call 18; refine (FT _).mono ?_; rintro e v1 ⟨rfl, hb⟩))
      have hE := hE0.trans hb
      refine hK _ _ ⟨⟨v1, Chg.of hE⟩, rfl⟩ ?_
      clear hK K
      simp only [vl7]
      refine holdk_step fun K hK => ?_
      go_wp2
      have hE2 := hE.alloc (.cells #[h 0, h 1, h 2, h 3, h 4, h 5, h 6] 63)
      have NB : ∀ k u, ([h 0, h 1, h 2, h 3, h 4, h 5, h 6] : List Value)[k]? = some u → (v1.alloc (.cells #[h 0, h 1, h 2, h 3, h 4, h 5, h 6] 63)).cell? ((⟨v1.heap.size, 0, none⟩ : Addr).add k) = some u := World.news_of_block (cs := #[h 0, h 1, h 2, h 3, h 4, h 5, h 6]) (t := 63) (fr := (0, 0)) (heap_alloc_new v1 _)
      have SL2 : (v1.alloc (.cells #[h 0, h 1, h 2, h 3, h 4, h 5, h 6] 63)).ownsRow 0 63 7 sv j (ew 7 j (fun i => rv (fitR fl c p n (Q i)))) := SL.later hE2
      refine hK _ _ ⟨⟨_, Chg.of hE2⟩, rfl⟩ ?_
      clear hK K
      have hv1 := hE.more
      generalize hv2 : v1.alloc (.cells #[h 0, h 1, h 2, h 3, h 4, h 5, h 6] 63) = v2 at *
      have hv2s : v1.heap.size + 1 = v2.heap.size := by rw [← hv2]; simp
      refine holdk_step fun K hK => ?_
      go_wp2_with (first | (at_builtin; refine wpList_append_lst _ (by rfl) _ _ _ (by rfl) 63 i0 _ 7 20 Tryd.underlying31 hi0 hz0 hz1 hz2 rfl (by omega) sv j _ (by rfl) SL2 ⟨v1.heap.size, 0, none⟩ 1 1 [h 0, h 1, h 2, h 3, h 4, h 5, h 6] (by rfl) (by rfl) NB hone (by omega) (by unfold maxLen; omega) (by omega) ?_))
      intro gg cap' v3 own hat
      have HAT : Hid ((sv = .slice (some ⟨gg, 0, none⟩) j cap' ∧ v2.grownBy v3 (some gg)) ∨ (v2.heap.size ≤ gg ∧ v2.grownBy v3 none)) := hat
      clear hat
      have CH2 : Chg (fun b => sv.ownBlock = some b) v2 v3 := by
        rcases HAT.out with ⟨h, h'⟩ | ⟨_, h'⟩
        · exact Chg.grown h' (fun b hb => by rw [h]; exact hb)
        · exact Chg.grown h' (fun b hb => by cases hb)
      have CH : Chg (fun b => sv.ownBlock = some b) v v3 := (Chg.of hE2).trans CH2 (fun b h => .inl h)
      have OWN : Hid (Lst v3 63 7 (.slice (some ⟨gg, 0, none⟩) (j + 1) cap') (j + 1) (upe (fun i => rv (fitR fl c p n (Q i))) j h)) := Lst.snoc own
      clear own
      go_wp2
      refine hK _ _ ⟨⟨v3, CH⟩, rfl⟩ ?_
      clear hK K
      refine holdk_step fun K hK => ?_
      go_wp2
      refine hK _ _ ⟨⟨v3, CH⟩, rfl⟩ ?_
      clear hK K
      unfold wpHoldK wpPh
      go_wp2
      have hx := CH.size
      go_roundg (gk - 1)
      case measure => omega
      case rel =>
        refine ⟨j + 1, _, rfl, by omega, by go_num, CH.over EX (fun b hb => by have := hnew b hb; omega), (LB.vm.blk2 (CH.block b0 LB.lt nLB) CH.size).lm, OWN.out.congr fun i t hi ht => ?_, fun b hb => ?_⟩
        · unfold upe
          by_cases e : i = j
          · rw [if_pos e, e, HH.out]
          · rw [if_neg e]
        · simp only [Value.ownBlock, Option.some.injEq] at hb
          subst hb
          rcases HAT.out with ⟨h, _⟩ | ⟨h, _⟩
          · exact hnew gg (by rw [h]; rfl)
          · omega

    · have hji : ¬ (j : Int) < (N : Int) := by omega
      obtain rfl : j = N := by omega
      have LBc0 := LB.c0; have LBc1 := LB.c1; have LBc2 := LB.c2; have LBc3 := LB.c3; have LBc4 := LB.c4; have LBc5 := LB.c5; have LBdg := LB.dg; have LBfz := LB.fz; have LBlt := LB.lt
      clear hnew
      obtain ⟨Z, hZ⟩ : ∃ Z : Nat → Rcd, (fun i => fitR fl c p n (Q i)) = Z := ⟨_, rfl⟩
      have HR : Hid (∀ i, i < j → Room fl c p n (Z i)) := fun i _ => by rw [← hZ]; exact fit_room _ _ _ _ _
      obtain ⟨a5, c5, hs5, E5⟩ := SL.es (by omega)
      subst hs5
      have V5 := fit_vs HV.out E5
      rw [hZ] at V5
      clear E5 SL hZ hlt
      go_upto_region 9 with (first | (refine wpList_load_lay (b0) _ rfl rfl rfl LB ?_) | (go_at_call 19; refine (PC.out Z (a5) (c5) _ EX V5 HR.out).mono ?_; rintro e v1 ⟨s2, rfl, hb, S2⟩; replace EX := Ext.trans EX hb; replace LB := LB.later hb; replace LBc0 := LB.c0; replace LBc1 := LB.c1; replace LBc2 := LB.c2; replace LBc3 := LB.c3; replace LBc4 := LB.c4; replace LBc5 := LB.c5; replace LBdg := LB.dg; replace LBfz := LB.fz; replace LBlt := LB.lt; replace V5 := V5.later hb; clear hb v; rename World => v))
      obtain ⟨a2, c2, hs2, hc2, B2⟩ := S2.bsc (by omega) (fun i _ => pby_in _ _ _ _ _ _ _)
      subst hs2
      clear S2
      go_upto_region 10 with (first | (refine wpList_load_lay (b0) _ rfl rfl rfl LB ?_) | (go_at_call 10; refine (GC.out _ a2 c2 _ EX B2 hc2).mono ?_; rintro e v1 ⟨s3, rfl, hb, S3⟩; replace EX := Ext.trans EX hb; replace LB := LB.later hb; replace LBc0 := LB.c0; replace LBc1 := LB.c1; replace LBc2 := LB.c2; replace LBc3 := LB.c3; replace LBc4 := LB.c4; replace LBc5 := LB.c5; replace LBdg := LB.dg; replace LBfz := LB.fz; replace LBlt := LB.lt; replace V5 := V5.later hb; replace B2 := B2.later hb; clear hb v; rename World => v))
      obtain ⟨a3, c3, hs3, E3⟩ := S3.es (by omega)
      subst hs3
      clear S3
      go_upto_region 11 with (first | (refine wpList_load_lay (b0) _ rfl rfl rfl LB ?_) | (go_at_call 20; refine (SZ.out _ EX).mono ?_; rintro e v1 ⟨rfl, hb⟩; replace EX := Ext.trans EX hb; replace LB := LB.later hb; replace LBc0 := LB.c0; replace LBc1 := LB.c1; replace LBc2 := LB.c2; replace LBc3 := LB.c3; replace LBc4 := LB.c4; replace LBc5 := LB.c5; replace LBdg := LB.dg; replace LBfz := LB.fz; replace LBlt := LB.lt; replace V5 := V5.later hb; replace B2 := B2.later hb; replace E3 := E3.later hb; clear hb v; rename World => v))
      have hb8 := HV.out.b
      have SR := same_recs a3 a5 j c3 c5 _ _ v E3 V5.es (fun i hi => by
        rw [recL_is HV.out]
        exact put_got (HR.out i hi) hb8.1) (fun i hi => recL_kinds L _ (len := M) (by rw [(gerr_ok (m := j) HV.out (show ¬ 65536 < M by omega) (by rw [← HM.out, Nat.mul_comm])).2]; exact hi))
      have hpr : (sz : Int) * (j : Int) = (M : Int) := by rw [← HM.out, Int.natCast_mul, Int.mul_comm]
      clear E3 V5 hb8
      go_upto_region 13 with (first
        | (go_at_call 14; with_reducible refine SR.mono ?_; rintro e v1 ⟨rfl, hb⟩; clear SR))
      replace EX := EX.trans hb
      replace LB := LB.later hb
      replace B2 := B2.later hb
      clear LBc0 LBc1 LBc2 LBc3 LBc4 LBc5 LBdg LBfz LBlt
      clear hb v hpr HB GC PC SZ
      rename World => v
      by_cases hM0 : M = 0
      · have e0 : ((M : Int) == 0) = true := by simp [hM0]
        have TL := HT.out
        go_wp2_with (first | (go_at_call 8; with_reducible refine (lives9_any _ (TL.later EX)).mono ?_; rintro e v1 ⟨rfl, hb⟩; replace EX := Ext.trans EX hb; clear hb))
        go_ret
        exact ⟨rfl, EX⟩
      · have e0 : ((M : Int) == 0) = false := by simp [hM0]
        have hx : ∃ m x k, M = m + 1 ∧ gerr L m = x ∧ gcnt L m = k ∧ ((sz = 1 ∧ x = 0 ∧ k = m ∧ j = m + 1) ∨ (1 < sz ∧ x = 5 ∧ k = 0)) := by
          have h1 := HM.out
          by_cases hs : sz = 1
          · obtain ⟨k0, k1⟩ := gerr_ok (m := M - 1) HV.out (len := M - 1) (by omega) (by rw [hs, Nat.one_mul])
            rw [hs, Nat.mul_one] at h1
            exact ⟨M - 1, _, _, by omega, k0, k1, .inl ⟨hs, rfl, rfl, by omega⟩⟩
          · obtain ⟨k0, k1⟩ := gerr_short (m := M - 1) HV.out (by omega) (by
              intro h
              have h2 : M % sz = 0 := by rw [← h1]; exact Nat.mul_mod_left _ _
              have h3 := Nat.div_add_mod M sz
              have h4 := Nat.div_add_mod (M - 1) sz
              have h5 : sz * (M / sz) = sz * ((M - 1) / sz) + 1 := by omega
              have h6 : (sz * (M / sz)) % sz = 0 := Nat.mul_mod_right _ _
              rw [h5, Nat.mul_add_mod] at h6
              rw [Nat.mod_eq_of_lt (by omega)] at h6
              omega)
            exact ⟨M - 1, _, _, by omega, k0, k1, .inr ⟨by omega, rfl, rfl⟩⟩
        obtain ⟨m, x, k, rfl, hx1, hx2, hxx⟩ := hx
        have G2 := GS.out m x k rfl hx1 hx2
        have HX : Hid ((sz = 1 ∧ x = 0 ∧ k = m ∧ j = m + 1) ∨ (1 < sz ∧ x = 5 ∧ k = 0)) := hxx
        have hk : k ≤ 65536 := by rcases hxx with ⟨_, _, h, _⟩ | ⟨_, _, h⟩ <;> omega
        obtain ⟨b2, o2, rfl, t2⟩ := B2.some (by omega)
        have hcq : ¬ c2 = 0 := by omega
        clear t2 hM0 hx1 hx2 hxx
        have LBc0 := LB.c0; have LBc1 := LB.c1; have LBc2 := LB.c2; have LBc3 := LB.c3; have LBc4 := LB.c4; have LBc5 := LB.c5; have LBdg := LB.dg; have LBfz := LB.fz; have LBlt := LB.lt
        go_upto_region 15 with fail
        have BS := fun v1 (h : Ext v v1) => (B2.take m (by omega)).later h
        have gLB := fun x' : Grow v => LB.later x'.ext
        refine wp_region_phases [(true, [0,1,2,3,4,5]), (false, [6,7]), (true, [8,9]), (false, [10,11])] (fun w' => ∃ x : Grow v, w' = x.out) (by kernel_rfl) (by kernel_rfl) (fun c a x v w h => by cases x <;> exact h) ⟨⟨v.drew, (Ext.refl v).drew⟩, rfl⟩ ?_
        intro pl hpl
        simp [pickO] at hpl
        subst hpl
        unfold wpPh
        (repeat (first | (go_big_quiet_want; refine quiet_load_lay _ (b0) rfl rfl (by rintro _ ⟨x', rfl⟩; exact gLB x') ?_; simp only [Act.put, List.setIfInBounds_toArray, List.set_cons_succ, List.set_cons_zero]; go_big_quiet_on) | go_big_quiet_step (fail))); refine wpQuiet_nil ?_; clear gLB
        have hE0 : Ext v v.drew := (Ext.refl v).drew
        unfold wpPh
        refine holdk_step fun K hK => ?_
        go_wp2_with (first | (go_at_call 10; refine (G2 _ _ _ _ (EX.trans hE0) (BS _ hE0) (by omega)).mono ?_; rintro e v1 ⟨s3, rfl, hb, S3⟩))
        have hE := hE0.trans hb
        refine hK _ _ ⟨⟨v1, hE⟩, rfl⟩ ?_
        clear hK K
        refine holdk_step fun K hK => ?_
        go_wp2
        refine hK _ _ ⟨⟨v1, hE⟩, rfl⟩ ?_
        clear hK K
        unfold wpHoldK wpPh
        (repeat (first | go_big_quiet_step (fail))); refine wpQuiet_nil ?_
        unfold wpPh
        refine holdk_step fun K hK => ?_
        go_wp2
        refine hK _ _ ⟨⟨v1, hE⟩, rfl⟩ ?_
        clear hK K
        refine holdk_step fun K hK => ?_
        go_wp2
        refine hK _ _ ⟨⟨v1, hE⟩, rfl⟩ ?_
        clear hK K
        unfold wpHoldK wpPh
        obtain ⟨a6, c6, hs6⟩ := S3.slice
        subst hs6
        replace EX := EX.trans hE
        clear LBc0 LBc1 LBc2 LBc3 LBc4 LBc5 LBdg LBfz LBlt
        clear hE0 hE hb BS B2 LB S3 G2 v e0 hcq
        rename World => v
        have TL := HT.out
        rcases HX.out with ⟨h1, h2, h3, h4⟩ | ⟨h1, h2, h3⟩
        · subst h1 h2 h3 h4
          go_wp2_with (first | go_skip | (go_at_call 8; with_reducible refine (lives9_any _ (TL.later EX)).mono ?_; rintro e v1 ⟨rfl, hb⟩; replace EX := Ext.trans EX hb; clear hb))
          go_ret
          exact ⟨rfl, EX⟩
        · subst h2 h3
          have n1 : ((sz : Int) == 1) = false := by simp; omega
          have n2 : decide ((1 : Int) < (sz : Int)) = true := by simp; omega
          go_wp2_with (first | go_skip | (go_at_call 8; with_reducible refine (lives9_any _ (TL.later EX)).mono ?_; rintro e v1 ⟨rfl, hb⟩; replace EX := Ext.trans EX hb; clear hb))
          go_ret
          exact ⟨rfl, EX⟩
set_option maxHeartbeats 8000000 in
theorem rback_no (L : Lay) (a : Option Addr) (N cap : Nat) (w : World) (TL : LaidL w) (h : ¬ (vlay L = true ∧ N ≤ 400 ∧ (L.t = 5 → 0 ≤ L.f ∧ L.f ≤ 60))) :
    Calls Tryd.prog 4 #[(.agg (lv (L))), .slice a N cap] w fun e w' => e = .returned (.bool true) ∧ Ext w w' := by
  have EX := Ext.refl w
  obtain ⟨y, hy⟩ : ∃ y : Int, (if mayl L = true then 0 else 4) = y := ⟨_, rfl⟩
  have CK : ∀ v, Ext w v → Calls Tryd.prog 17 #[(.agg (lv (L)))] v fun e w' => e = .returned (.int .i64 y) ∧ Ext v w' := fun v h => by have := lcheck_any L v (TL.later h); rwa [hy] at this
  have hc : (y != 0) = true ∨ (y = 0 ∧ decide ((5 : Int) < L.t) = true) ∨ (y = 0 ∧ decide ((5 : Int) < L.t) = false ∧ decide ((400 : Int) < (N : Int)) = true) ∨ (y = 0 ∧ decide ((5 : Int) < L.t) = false ∧ decide ((400 : Int) < (N : Int)) = false ∧ (L.t == 5) = true ∧ decide (L.f < 0) = true) ∨ (y = 0 ∧ decide ((5 : Int) < L.t) = false ∧ decide ((400 : Int) < (N : Int)) = false ∧ (L.t == 5) = true ∧ decide (L.f < 0) = false ∧ decide ((60 : Int) < L.f) = true) := by
    by_cases hm : mayl L = true
    · have y0 : y = 0 := by rw [← hy, if_pos hm]
      have m1 := (mayl_is hm).1
      by_cases h5 : (5 : Int) < L.t
      · exact .inr (.inl ⟨y0, decide_eq_true h5⟩)
      · have hv : vlay L = true := by unfold vlay; rw [hm]; simp; omega
        by_cases hN : (400 : Int) < (N : Int)
        · exact .inr (.inr (.inl ⟨y0, decide_eq_false h5, decide_eq_true hN⟩))
        · have h55 : ¬ (L.t = 5 → 0 ≤ L.f ∧ L.f ≤ 60) := fun hh => h ⟨hv, by omega, hh⟩
          have t5 : L.t = 5 := Classical.byContradiction fun hn => h55 fun e => absurd e hn
          have hf : ¬ (0 ≤ L.f ∧ L.f ≤ 60) := fun hh => h55 fun _ => hh
          by_cases hf0 : L.f < 0
          · exact .inr (.inr (.inr (.inl ⟨y0, decide_eq_false h5, decide_eq_false hN, by simp [t5], decide_eq_true hf0⟩)))
          · exact .inr (.inr (.inr (.inr ⟨y0, decide_eq_false h5, decide_eq_false hN, by simp [t5], decide_eq_false hf0, decide_eq_true (by omega)⟩)))
    · exact .inl (by rw [← hy, if_neg hm]; decide)
  clear h hy
  rcases hc with y1 | ⟨rfl, t5⟩ | ⟨rfl, t5, n4⟩ | ⟨rfl, t5, n4, r1, r2⟩ | ⟨rfl, t5, n4, r1, r2, r3⟩
  all_goals
    go_enter Tryd.func4, Tryd.ntmps4
    go_upto_region 1 with fail
    refine rebase (G := fun w' => Code.wp _ _ _ _ w') _ (fun v1 => Ext w v1 ∧ Lm v1 (w.heap.size) (L)) ⟨by repeat (first | with_reducible exact EX |  with_reducible refine Ext.alloc ?_ _ | with_reducible refine Ext.drew ?_ | with_reducible refine Ext.drewN ?_ _ | with_reducible refine Ext.setCell ?_ (by first | (simp; done) | omega | (dsimp only; omega)) _), by repeat (first | with_reducible assumption | with_reducible refine Lm.drew ?_ | with_reducible refine Lm.drewN ?_ _ | (with_reducible refine Lm.skip ?_ ?_; focus (first | omega | (simp; done))) | with_reducible refine Lm.set0 ?_ _ | with_reducible refine Lm.set4 ?_ _ | with_reducible refine Lm.set5 ?_ _ | with_reducible refine Lm.setk ?_ _ (by decide) | (with_reducible refine Lm.cells1 ?_; exact ⟨_, by with_reducible assumption⟩) | (with_reducible refine Lm.skips ?_ _ _ ?_; focus (first | omega | (simp; done))) | (with_reducible refine Lm.new ?_ <;> first | rfl | (simp; done)) | (with_reducible refine Lm.fresh ?_ ?_ <;> first | rfl | (simp; done)) | with_reducible refine Lm.alloc ?_ _)⟩ ?_; clear EX ; rintro v1 ⟨EX, LB⟩; rename World => v; have LBc0 := LB.c0; have LBc1 := LB.c1; have LBc2 := LB.c2; have LBc3 := LB.c3; have LBc4 := LB.c4; have LBc5 := LB.c5; have LBdg := LB.dg; have LBfz := LB.fz; have LBlt := LB.lt
    obtain ⟨b0, hb0⟩ : ∃ b0, w.heap.size = b0 := ⟨_, rfl⟩
    rw [hb0] at LB LBc0 LBc1 LBc2 LBc3 LBc4 LBc5 LBdg LBfz LBlt ⊢
    go_wp2_with (first | go_skip | (refine wpList_load_layh (b0) _ rfl rfl LB rfl ?_) | (go_at_call 17; with_reducible refine (CK _ EX).mono ?_; rintro e v1 ⟨rfl, hb⟩; replace EX := Ext.trans EX hb; replace LB := LB.later hb; replace LBc0 := LB.c0; replace LBc1 := LB.c1; replace LBc2 := LB.c2; replace LBc3 := LB.c3; replace LBc4 := LB.c4; replace LBc5 := LB.c5; replace LBdg := LB.dg; replace LBfz := LB.fz; replace LBlt := LB.lt; clear hb v; rename World => v) | (go_at_call 8; with_reducible refine (lives9_any _ (TL.later EX)).mono ?_; rintro e v1 ⟨rfl, hb⟩; replace EX := Ext.trans EX hb; clear hb))
    go_ret
    exact ⟨rfl, EX⟩
theorem rback_law (L : Lay) (a : Option Addr) (cap : Nat) (Q : Nat → Rcd) (N : Nat) (w : World) (TL : LaidL w) (B : Vs w a N Q) :
    Calls Tryd.prog 4 #[(.agg (lv (L))), .slice a N cap] w fun e w' => e = .returned (.bool true) ∧ Ext w w' := by
  by_cases h : vlay L = true ∧ N ≤ 400 ∧ (L.t = 5 → 0 ≤ L.f ∧ L.f ≤ 60)
  · obtain ⟨hv, hN, h5⟩ := h
    obtain ⟨fl, c, p, n, sz, V⟩ := vl_of hv
    exact rback_yes L fl c p n sz N V h5 a cap Q w TL B hN
  · exact rback_no L a N cap w TL h
end Go.Proofs.YtemcppakmcffgaaDoor
