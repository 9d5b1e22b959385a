/- What package records' fit and read do. What the closures of package records' fields that get do. -/
import Derived.Test.YtemcppakmcffgaaDoorBitEF
import Derived.Test.YtemcppakmcffgaaDoorBoxes
import Derived.Test.YtemcppakmcffgaaDoorMany3
import Derived.Deep.LoopGhost
import Derived.Deep.Light
import Derived.Test.YtemcppakmcffgaaDoorRecP
import Derived.Test.YtemcppakmcffgaaDoorReadsAB
namespace Go.Proofs.YtemcppakmcffgaaDoor
open Go.RowKit Go.BigFrame
set_option linter.unusedSimpArgs false
set_option linter.unusedVariables false
theorem fit_is (x : Int) (k : Nat) (h0 : 0 ≤ x) (h1 : x < 4294967296) (hk : k ≤ 32) (w : World) :
    Calls Tryd.prog 75 #[.int .u32 x, .int .i64 k] w fun e w' => e = .returned (.int .i64 (if x < 2 ^ k then 0 else 1)) ∧ Ext w w' := by
  have EX := Ext.refl w
  by_cases h : x < 2 ^ k
  · have hd : (x / 2 ^ k != 0) = false := by rw [Int.ediv_eq_zero_of_lt h0 h]; rfl
    rw [if_pos h]
    clear h
    go_enter Tryd.func75, Tryd.ntmps75
    go_wp2
    go_ret
    exact ⟨rfl, EX⟩
  · have hd : (x / 2 ^ k != 0) = true := div_great (by omega)
    rw [if_neg h]
    clear h
    go_enter Tryd.func75, Tryd.ntmps75
    go_wp2
    go_ret
    exact ⟨rfl, EX⟩
/-- How many bits the first numbers have together. -/
def psum (cn : Nat → Nat) : Nat → Nat
  | 0 => 0
  | k + 1 => psum cn k + cn k
theorem psum_le (cn : Nat → Nat) {i m : Nat} (h : i ≤ m) : psum cn i ≤ psum cn m := by
  induction m with
  | zero => obtain rfl : i = 0 := by omega
            exact Nat.le_refl _
  | succ m ih =>
    by_cases e : i = m + 1
    · rw [e]; exact Nat.le_refl _
    · have := ih (by omega)
      show _ ≤ psum cn m + cn m
      omega
theorem Bs.chg {S : Nat → Prop} {w w' : World} {a : Option Addr} {n : Nat} {f : Nat → Int} (B : Bs w a n f) (h : Chg S w w') (hS : ∀ ad, a = Option.some ad → ¬ S ad.block) : Bs w' a n f :=
  ⟨B.len, fun i hi => by obtain ⟨b, o, h1, h2⟩ := B.at_ i hi; exact ⟨b, o, h1, h.cell (hS _ h1) h2⟩, B.byte⟩
theorem Vm.of_row {w : World} {g n : Nat} {t : TypeId} {f : Nat → Value} (h : w.rowIs g t n f) : Vm w g n f := ⟨h.lt, fun o => h.frozen o, fun i hi => h.cell hi⟩
theorem S2m.blk {v v' : World} {b : Nat} {x0 x1 : Value} (B : S2m v b x0 x1) (h : v'.heap[b]? = v.heap[b]?) (hl : v.heap.size ≤ v'.heap.size) : S2m v' b x0 x1 :=
  ⟨Nat.lt_of_lt_of_le B.lt hl, frz_blk h B.fz, (World.cell?_of_block (a := ⟨b, 0, none⟩) h).trans B.c0, (World.cell?_of_block (a := ⟨b, 1, none⟩) h).trans B.c1⟩
theorem info_u32 : (Tryd.prog.info? 56).map (fun i => (i.zero, i.size, i.bytes)) = some (some (.int .u32 0), 1, 4) := by kernel_rfl

set_option maxRecDepth 20000 in
set_option maxHeartbeats 4000000 in
theorem read_is (bs bc oc m q L cc cp : Nat) (a : Option Addr) (f : Nat → Int) (cn : Nat → Nat) (w0 : World) (B : Bs w0 a L f) (SB : S2m w0 bs (.slice a L cp) (.int .i64 q))
    (hc : ∀ i, i < m → w0.cell? ⟨bc, oc + i, none⟩ = some (.int .i64 (cn i : Nat))) (hcn : ∀ i, i < m → cn i ≤ 32) (hm : m ≤ 1000) (hL : L ≤ 70000) (hq : q + psum cn m ≤ 8 * L) (hbc : bc ≠ bs) (hba : ∀ ad, a = some ad → ad.block ≠ bs) :
    Calls Tryd.prog 94 #[.pointer (some ⟨bs, 0, none⟩), .slice (some ⟨bc, oc, none⟩) m cc] w0 fun e w' => ∃ g, e = .returned (.slice (some ⟨g, 0, none⟩) m m) ∧ Vm w' g m (fun i => .int .u32 (nb (bt f) (q + psum cn i) (cn i))) ∧
      S2m w' bs (.slice a L cp) (.int .i64 ((q + psum cn m : Nat) : Int)) ∧ Chg (fun b => b = bs) w0 w' ∧ w0.heap.size ≤ g := by
  obtain ⟨i0, hi0, hz0, hz1, hz2⟩ := info_parts info_u32
  have HB : Hid (Bs w0 a L f) := B
  have HC : Hid (∀ i, i < m → w0.cell? ⟨bc, oc + i, none⟩ = some (.int .i64 (cn i : Nat))) := hc
  have HN : Hid (∀ i, i < m → cn i ≤ 32) := hcn
  have HQ : Hid (q + psum cn m ≤ 8 * L) := hq
  have HA : Hid (∀ ad, a = some ad → ad.block ≠ bs) := hba
  have hmk := run_make_row (P := Tryd.prog) 207 56 i0 (.int .u32 0) Tryd.underlying207 hi0 hz0 hz1 rfl .i64 .i64 m (by rw [hz2]; omega) (by omega)
  have sl := SB.lt
  clear B hc hcn hq hba
  go_enter Tryd.func94, Tryd.ntmps94
  go_upto_region 3 with fail
  refine rebase (G := fun w' => Code.wp _ _ _ _ w') _ (fun v => Chg (fun b => b = bs) w0 v ∧ S2m v bs (.slice a L cp) (.int .i64 ((q + psum cn 0 : Nat) : Int)) ∧ Vm v w0.heap.size m (fun i => if i < 0 then .int .u32 (nb (bt f) (q + psum cn i) (cn i)) else .int .u32 0)) ⟨(Chg.refl _ _).alloc _, SB.alloc _, (Vm.of_row (World.rowIs_made _ _ _ _)).eq (fun i _ => by rw [if_neg (by omega)])⟩ ?_
  obtain ⟨g, hgg⟩ : ∃ g, w0.heap.size = g := ⟨_, rfl⟩
  rw [hgg] at sl ⊢
  have hg : w0.heap.size ≤ g := by omega
  clear SB hmk hgg
  rintro v ⟨CH, SB, OB⟩
  go_loopg [13] m (fun gk iv wr => ∃ k : Nat, k + gk = m ∧ iv = .int .i64 k ∧ Chg (fun b => b = bs) w0 wr ∧ S2m wr bs (.slice a L cp) (.int .i64 ((q + psum cn k : Nat) : Int)) ∧ Vm wr g m (fun i => if i < k then .int .u32 (nb (bt f) (q + psum cn i) (cn i)) else .int .u32 0))
  case atStart => exact ⟨0, by omega, rfl, CH, SB, OB⟩
  case round =>
    clear CH SB OB v
    obtain ⟨k, hk, rfl, CH, SB, OB⟩ := hrel
    obtain ⟨w, hw⟩ : ∃ w, w = wr := ⟨_, rfl⟩
    subst hw
    by_cases hlt : k < m
    · have hki : (k : Int) < (m : Int) := by omega
      have BW := HB.out.chg CH (fun ad h => HA.out ad h)
      have cK := CH.cell (fun h => hbc h) (HC.out k hlt)
      have hn := HN.out k hlt
      have hs := psum_le cn (show k + 1 ≤ m by omega)
      have hQ := HQ.out
      obtain ⟨Q, hQe⟩ : ∃ Q, q + psum cn k = Q := ⟨_, rfl⟩
      obtain ⟨c, hce⟩ : ∃ c, cn k = c := ⟨_, rfl⟩
      have hps : q + psum cn (k + 1) = Q + c := by show q + (psum cn k + cn k) = _; omega
      have HPS : Hid (q + psum cn (k + 1) = Q + c) := hps
      have GT := fun v (h : Ext w v) => get_ok a L cp Q c f v (BW.later h) (by omega) (by omega)
      have HV : Hid (nb (bt f) (q + psum cn k) (cn k) = nb (bt f) Q c) := by show _ = _; rw [hQe, hce]
      have hvb := nb_in (bt_bits f) Q c
      have hp32 := pow32 (k := c) (by omega)
      rw [hQe] at SB
      rw [hce] at cK
      have hQL : Q + c ≤ 560000 := by omega
      generalize nb (bt f) Q c = z at *
      have HH : Hid (Chg (fun b => b = bs) w0 w) := CH
      have HOB : Hid (Vm w g m (fun i => if i < k then .int .u32 (nb (bt f) (q + psum cn i) (cn i)) else .int .u32 0)) := OB
      clear BW hs hQ hps hQe hce CH
      refine rebase (G := fun w' => Code.wp _ _ _ _ w') _ (fun v => Ext w v ∧ S2m v bs (.slice a L cp) (.int .i64 (Q : Int)) ∧ v.cell? ⟨bc, oc + k, none⟩ = some (.int .i64 (c : Int))) ⟨Ext.refl w, SB, cK⟩ ?_
      clear SB cK OB
      rintro v ⟨EX, SB, cK⟩
      go_upto_region 5 with fail
      clear cK
      have SBc0 := SB.c0; have SBc1 := SB.c1; have SBfz := SB.fz; have SBlt := SB.lt
      refine wp_region_many 16 [] (fun i => i == 14) (by kernel_rfl) (by kernel_rfl) (by kernel_rfl) (fun c a x v w h => by cases x <;> exact h) ?_ ?_ ?_; (focus (intro i o hi ho; have h5 : i = 14 := (by simpa using hi); rcases h5 with rfl <;> (cases ho; exact fun a w n w1 h => extract_late rfl a w n w1 h))); (focus (intro m hm; simp at hm)); intro B hB l' hl'; simp [dumbsM, dumbM, isNew] at hl'; subst hl'; have gSBc0 := fun x' : Grow B => (SB.later (Ext.trans hB x'.ext)).c0; have gSBc1 := fun x' : Grow B => (SB.later (Ext.trans hB x'.ext)).c1; have gSBfz := fun x' : Grow B => (SB.later (Ext.trans hB x'.ext)).fz; have gSBlt := fun x' : Grow B => (SB.later (Ext.trans hB x'.ext)).lt; (repeat (first | go_big_quiet_step ((go_at_call 103; with_reducible exact calls_grow (GT _ (Ext.trans EX (Ext.trans hB (Grow.ext _)))))) | go_big_quiet_step (fail))); refine wpQuiet_nil ?_; clear gSBc0 gSBc1 gSBfz gSBlt; clear hB B; intro bs v1 hv hms hne t ht; simp at ht; subst ht; simp only [puts, if_true]; clear hms hne; replace EX := Ext.trans EX hv; replace SB := SB.later hv; clear SBc0 SBc1 SBfz SBlt; clear hv v; clear bs; rename World => v; have SBc0 := SB.c0; have SBc1 := SB.c1; have SBfz := SB.fz; have SBlt := SB.lt
      have OB := HOB.out.later EX
      have oc1 := OB.dg k hlt
      have ofz := OB.fz
      have hne : ¬ g = bs := by omega
      clear HOB
      go_upto_region 6 with fail
      have OB2 : Vm (v.setCell ⟨g, k, none⟩ (.int .u32 z)) g m (fun i => if i < k + 1 then .int .u32 (nb (bt f) (q + psum cn i) (cn i)) else .int .u32 0) := (OB.set k (.int .u32 z)).eq fun i hi => by
        unfold updv
        dsimp only
        by_cases e : i = k
        · rw [if_pos e, if_pos (by omega), e, HV.out]
        · rw [if_neg e]
          by_cases e2 : i < k
          · rw [if_pos e2, if_pos (by omega)]
          · rw [if_neg e2, if_neg (by omega)]
      have SB2 := SB.skip (o' := k) (x := Value.int .u32 z) (fun h => hne h)
      refine rebase (G := fun w' => Code.wp _ _ _ _ w') _ (fun v1 => Chg (fun b => b = bs) w0 v1 ∧ S2m v1 bs (.slice a L cp) (.int .i64 (Q : Int)) ∧ Vm v1 g m (fun i => if i < k + 1 then .int .u32 (nb (bt f) (q + psum cn i) (cn i)) else .int .u32 0)) ⟨(HH.out.trans (Chg.of (S := fun _ => False) EX) (fun _ h => h.elim)).setCell (.inr hg) _, SB2, OB2⟩ ?_
      clear SBc0 SBc1 SBfz SBlt
      clear SB2 OB2 OB oc1 ofz SB EX HV HH GT v
      rintro v ⟨CH, SB, OB⟩
      have SBc0 := SB.c0; have SBc1 := SB.c1; have SBfz := SB.fz; have SBlt := SB.lt
      go_wp2
      go_roundg (gk - 1)
      case measure => omega
      case rel =>
        refine ⟨k + 1, by omega, by go_num, CH.setCell (.inl rfl) _, ?_, OB.skip (fun h => hne h.symm)⟩
        rw [HPS.out, Int.natCast_add]
        exact SB.set1 _
    · have hki : ¬ (k : Int) < (m : Int) := by omega
      obtain rfl : k = m := by omega
      have SBc0 := SB.c0; have SBc1 := trivial; have SBfz := SB.fz; have SBlt := SB.lt
      go_wp2
      go_ret
      exact ⟨g, rfl, OB.eq (fun i hi => by rw [if_pos hi]), SB, CH, hg⟩
end Go.Proofs.YtemcppakmcffgaaDoor

namespace Go.Proofs.YtemcppakmcffgaaDoor
open Go.RowKit Go.BigFrame
set_option linter.unusedSimpArgs false
set_option linter.unusedVariables false

/-- One record of a list, while its numbers are got. -/
structure Lg (w : World) (g N cq i : Nat) (X : Nat → Nat → Value) (Q : Rcd) : Prop where
  lst : Lst w 63 7 (.slice (some ⟨g, 0, none⟩) N cq) N X
  at_ : ∀ j, j < 7 → X i j = rv Q j
theorem Lg.later {w w' : World} {g N cq i : Nat} {X : Nat → Nat → Value} {Q : Rcd} (B : Lg w g N cq i X Q) (e : Ext w w') : Lg w' g N cq i X Q := ⟨B.lst.later e, B.at_⟩
theorem Lg.chg {S : Nat → Prop} {w w' : World} {g N cq i : Nat} {X : Nat → Nat → Value} {Q : Rcd} (B : Lg w g N cq i X Q) (e : Chg S w w') (h : ¬ S g) : Lg w' g N cq i X Q := ⟨B.lst.chg e (fun b hb => by simp only [Value.ownBlock, Option.some.injEq] at hb; subst hb; exact h), B.at_⟩
theorem Lg.cell {w : World} {g N cq i : Nat} {X : Nat → Nat → Value} {Q : Rcd} (B : Lg w g N cq i X Q) (hi : i < N) {j : Nat} (hj : j < 7) : w.cell? ⟨g, i * 7 + j, none⟩ = some (rv Q j) := by
  rw [B.lst.cell hi hj, B.at_ j hj]
theorem Lg.frz {w : World} {g N cq i : Nat} {X : Nat → Nat → Value} {Q : Rcd} (B : Lg w g N cq i X Q) : ∀ o, w.frozen? ⟨g, o, none⟩ = false := fun o => World.ownsRow.frozenAt B.lst o
theorem Lg.lt {w : World} {g N cq i : Nat} {X : Nat → Nat → Value} {Q : Rcd} (B : Lg w g N cq i X Q) : g < w.heap.size := B.lst.lt
/-- .. and a number is told. -/
theorem Lg.set {w : World} {g N cq i : Nat} {X : Nat → Nat → Value} {Q Q' : Rcd} (B : Lg w g N cq i X Q) (hi : i < N) {j : Nat} (hj : j < 7) (y : Value) (hy : y = rv Q' j) (hQ : ∀ k, k < 7 → k ≠ j → rv Q k = rv Q' k) : Lg (w.setCell ⟨g, i * 7 + j, none⟩ y) g N cq i (upe X i (rv Q')) Q' :=
  ⟨(B.lst.set hi hj y).congr fun i' j' hi' hj' => by
    unfold upx upe
    by_cases e : i' = i
    · subst e
      rw [if_pos rfl]
      by_cases e2 : j' = j
      · subst e2; rw [if_pos ⟨rfl, rfl⟩, hy]
      · rw [if_neg (fun h => e2 h.2), B.at_ j' hj', hQ j' hj' e2]
    · rw [if_neg (fun h => e h.1), if_neg e], fun j hj => by unfold upe; rw [if_pos rfl]⟩
theorem psum1 (cn : Nat → Nat) : psum cn 1 = cn 0 := Nat.zero_add _
theorem upe_upe (X : Nat → Nat → Value) (i : Nat) (f g : Nat → Value) : upe (upe X i f) i g = upe X i g := by
  funext i' j
  unfold upe
  by_cases e : i' = i
  · rw [if_pos e, if_pos e]
  · rw [if_neg e, if_neg e, if_neg e]
set_option maxRecDepth 20000 in
set_option maxHeartbeats 4000000 in
theorem flagGet (bs bF q fl L cp g N cq i : Nat) (a : Option Addr) (f : Nat → Int) (X : Nat → Nat → Value) (F x y : Int) (C : Nat → Int) (w : World) (B : Bs w a L f) (SB : S2m w bs (.slice a L cp) (.int .i64 q)) (hF : w.cell? ⟨bF, 0, none⟩ = some (.int .i64 (fl : Nat)))
    (G : Lg w g N cq i X ⟨F, x, y, C⟩) (hi : i < N) (h8 : fl ≤ 8) (hL : L ≤ 70000) (hq : q + fl ≤ 8 * L) (hbF : bF ≠ bs) (hg : g ≠ bs) (hba : ∀ ad, a = some ad → ad.block ≠ bs) :
    Calls Tryd.prog 93 #[.pointer (some ⟨bs, 0, none⟩), .pointer (some ⟨g, i * 7, none⟩), .pointer (some ⟨bF, 0, none⟩)] w fun e w' => e = .returned (.tuple #[]) ∧
      Lg w' g N cq i (upe X i (rv ⟨nb (bt f) q fl, x, y, C⟩)) ⟨nb (bt f) q fl, x, y, C⟩ ∧ S2m w' bs (.slice a L cp) (.int .i64 ((q + fl : Nat) : Int)) ∧ Chg (fun b => b = bs ∨ b = g) w w' := by
  have sl := SB.lt
  have gl := G.lt
  have RD := read_is bs w.heap.size 0 1 q L 1 cp a f (fun _ => fl) (w.alloc (.cells #[.int .i64 fl] 3)) (B.later (Ext.alloc (Ext.refl w) _)) (SB.alloc _) (fun i hi => by
      have e : i = 0 := by omega
      subst e
      exact new1 rfl) (fun _ _ => by omega) (by omega) hL (by rw [psum1]; omega) (by omega) hba
  rw [psum1] at RD
  have hb8 := u8_in (bt_bits f) q fl h8
  have HG : Hid (Lg w g N cq i X ⟨F, x, y, C⟩) := G
  clear B SB G
  go_enter Tryd.func93, Tryd.ntmps93
  have hz : nb (bt f) q fl % 256 = nb (bt f) q fl := by omega
  generalize hzz : nb (bt f) q fl = z at *
  go_wp2_with (first | (go_at_call 94; refine RD.mono ?_; rintro e v ⟨r, rfl, OB, SB, CH, hr⟩; have G1 := (HG.out.later (Ext.alloc (Ext.refl w) _)).chg CH hg; have gc : v.cell? ⟨g, i * 7, none⟩ = some (.int .u8 F) := G1.cell hi (show 0 < 7 by decide); have gf := G1.frz; have oc : v.cell? ⟨r, 0, none⟩ = some (.int .u32 z) := (OB.dg 0 (by decide)).trans (by rw [← hzz]; rfl); clear OB RD))
  go_end0
  exact ⟨rfl, G1.set (j := 0) hi (by decide) _ rfl (fun k hk hne => by match k, hne with | 1, _ => rfl | 2, _ => rfl | k + 3, _ => rfl), SB.skip hg, ((Chg.of (Ext.alloc (Ext.refl w) _)).trans CH (fun b h => .inl (.inl h))).setCell (.inl (.inr rfl)) _⟩
theorem psum2 (cn : Nat → Nat) : psum cn 2 = cn 0 + cn 1 := by show psum cn 1 + cn 1 = _; rw [psum1]
theorem Lg.self {w : World} {g N cq i : Nat} {X : Nat → Nat → Value} {Q : Rcd} (B : Lg w g N cq i X Q) : Lg w g N cq i (upe X i (rv Q)) Q :=
  ⟨B.lst.congr fun i' j hi' hj => by
    unfold upe
    by_cases e : i' = i
    · subst e; rw [if_pos rfl, B.at_ j hj]
    · rw [if_neg e], fun j hj => by unfold upe; rw [if_pos rfl]⟩
set_option maxRecDepth 20000 in
set_option maxHeartbeats 4000000 in
theorem pointGet (bs bP q c L cp g N cq i : Nat) (a : Option Addr) (f : Nat → Int) (X : Nat → Nat → Value) (F x y : Int) (C : Nat → Int) (w : World) (B : Bs w a L f) (SB : S2m w bs (.slice a L cp) (.int .i64 q)) (hP : w.cell? ⟨bP, 0, none⟩ = some (.int .i64 (c : Nat)))
    (G : Lg w g N cq i X ⟨F, x, y, C⟩) (hi : i < N) (h8 : c ≤ 32) (hL : L ≤ 70000) (hq : q + c + c ≤ 8 * L) (hbP : bP ≠ bs) (hg : g ≠ bs) (hba : ∀ ad, a = some ad → ad.block ≠ bs) :
    Calls Tryd.prog 96 #[.pointer (some ⟨bs, 0, none⟩), .pointer (some ⟨g, i * 7, none⟩), .pointer (some ⟨bP, 0, none⟩)] w fun e w' => e = .returned (.tuple #[]) ∧
      Lg w' g N cq i (upe X i (rv ⟨F, nb (bt f) q c, nb (bt f) (q + c) c, C⟩)) ⟨F, nb (bt f) q c, nb (bt f) (q + c) c, C⟩ ∧ S2m w' bs (.slice a L cp) (.int .i64 ((q + c + c : Nat) : Int)) ∧ Chg (fun b => b = bs ∨ b = g) w w' := by
  have sl := SB.lt
  have gl := G.lt
  have hs2 : q + psum (fun _ => c) 2 = q + c + c := by rw [psum2]; omega
  have hs1 : q + psum (fun _ => c) 1 = q + c := by rw [psum1]
  have RD := read_is bs w.heap.size 0 2 q L 2 cp a f (fun _ => c) (w.alloc (.cells #[.int .i64 c, .int .i64 c] 3)) (B.later (Ext.alloc (Ext.refl w) _)) (SB.alloc _) (fun i hi => by
      match i, hi with
      | 0, _ => exact new1 rfl
      | 1, _ => exact new1 rfl) (fun _ _ => h8) (by omega) hL (by rw [hs2]; exact hq) (by omega) hba
  rw [hs2] at RD
  have HG : Hid (Lg w g N cq i X ⟨F, x, y, C⟩) := G
  clear B SB G
  obtain ⟨z, hz⟩ : ∃ z, nb (bt f) q c = z := ⟨_, rfl⟩
  obtain ⟨t, ht⟩ : ∃ t, nb (bt f) (q + c) c = t := ⟨_, rfl⟩
  rw [hz, ht]
  go_enter Tryd.func96, Tryd.ntmps96
  go_upto_region 1 with (first | (go_at_call 94; refine RD.mono ?_; rintro e v ⟨r, rfl, OB, SB, CH, hr⟩))
  have G1 := (HG.out.later (Ext.alloc (Ext.refl w) _)).chg CH hg
  have O2 : S2m v r (.int .u32 z) (.int .u32 t) := ⟨OB.lt, OB.fz, (OB.dg 0 (by decide)).trans (by rw [← hz]; rfl), (OB.dg 1 (by decide)).trans (by rw [← ht, hs1])⟩
  clear OB RD HG hz ht hr
  have g0 := fun x' : Grow v => (O2.later x'.ext).c0
  have g1 := fun x' : Grow v => (O2.later x'.ext).c1
  refine wp_region_reads (fun i => decide (i < 7)) 1 8 (fun w' => ∃ x : Grow v, w' = x.out) (by kernel_rfl) (by kernel_rfl) (fun c a x v w h => by cases x <;> exact h) ⟨⟨v.drew, (Ext.refl v).drew⟩, rfl⟩ ?_
  intro l1 l2 h1 h2
  simp [pickB] at h1 h2
  subst h1 h2
  (repeat (first | go_big_quiet_step (fail))); refine wpQuiet_nil ?_; clear g0 g1
  have EX : Ext v v.drew := (Ext.refl v).drew
  replace G1 := G1.later EX
  have c1 : v.drew.cell? ⟨g, i * 7 + 1, none⟩ = some (.int .u32 x) := G1.cell hi (show 1 < 7 by decide)
  have c2 : v.drew.cell? ⟨g, i * 7 + 2, none⟩ = some (.int .u32 y) := G1.cell hi (show 2 < 7 by decide)
  have gf := G1.frz
  refine hold_step (n := 0) fun K hK => ?_
  go_wp2
  refine hK _ _ ⟨⟨v.drew, (Ext.refl v).drew⟩, rfl⟩ ?_
  clear hK K O2
  refine hold_done ?_
  generalize v.drew = v1 at *
  go_wp2
  go_end0
  have G2 := (G1.set (j := 1) (Q' := ⟨F, z, y, C⟩) hi (by decide) (.int .u32 z) rfl (fun k hk hne => by match k, hne with | 0, _ => rfl | 2, _ => rfl | k + 3, _ => rfl)).set (j := 2) (Q' := ⟨F, z, t, C⟩) hi (by decide) (.int .u32 t) rfl (fun k hk hne => by match k, hne with | 0, _ => rfl | 1, _ => rfl | k + 3, _ => rfl)
  rw [upe_upe] at G2
  exact ⟨rfl, G2, ((SB.later EX).skip hg).skip hg, ((((Chg.of (Ext.alloc (Ext.refl w) _)).trans CH (fun b h => .inl (.inl h))).trans (Chg.of (S := fun _ => False) EX) (fun _ h => h.elim)).setCell (.inl (.inr rfl)) _).setCell (.inl (.inr rfl)) _⟩
/-- The bits of the colours: none beyond n. -/
def cbits (n p i : Nat) : Nat := if i < n then p else 0
theorem cbits_sum (n p : Nat) : ∀ k, psum (cbits n p) k = (if k < n then k else n) * p
  | 0 => by
    show 0 = _
    by_cases h : 0 < n
    · rw [if_pos h, Nat.zero_mul]
    · rw [if_neg h, show n = 0 by omega, Nat.zero_mul]
  | k + 1 => by
    show psum (cbits n p) k + cbits n p k = _
    rw [cbits_sum n p k]
    unfold cbits
    by_cases h : k < n
    · rw [if_pos h, if_pos h]
      by_cases h2 : k + 1 < n
      · rw [if_pos h2, Nat.add_mul, Nat.one_mul]
      · rw [if_neg h2, show n = k + 1 by omega, Nat.add_mul, Nat.one_mul]
    · rw [if_neg h, if_neg h, if_neg (by omega)]; rfl
theorem cbits_val (β : Nat → Int) (q n p k : Nat) : nb β (q + psum (cbits n p) k) (cbits n p k) = if k < n then nb β (q + k * p) p else 0 := by
  rw [cbits_sum]
  unfold cbits
  by_cases h : k < n
  · rw [if_pos h, if_pos h, if_pos h]
  · rw [if_neg h, if_neg h, if_neg h]; rfl
set_option maxRecDepth 20000 in
set_option maxHeartbeats 4000000 in
theorem coloursGet (bs bC bA q n p L cp g N cq i : Nat) (a : Option Addr) (f : Nat → Int) (X : Nat → Nat → Value) (F x y : Int) (w : World) (B : Bs w a L f) (SB : S2m w bs (.slice a L cp) (.int .i64 q)) (hC : w.cell? ⟨bC, 0, none⟩ = some (.slice (some ⟨bA, 0, none⟩) 4 4))
    (hA : ∀ i, i < 4 → w.cell? ⟨bA, 0 + i, none⟩ = some (.int .i64 (cbits n p i : Nat))) (G : Lg w g N cq i X ⟨F, x, y, fun _ => 0⟩) (hi : i < N) (h8 : p ≤ 16) (hn : n ≤ 4) (hL : L ≤ 70000) (hq : q + n * p ≤ 8 * L) (hbC : bC ≠ bs) (hbA : bA ≠ bs) (hg : g ≠ bs) (hba : ∀ ad, a = some ad → ad.block ≠ bs) :
    Calls Tryd.prog 99 #[.pointer (some ⟨bs, 0, none⟩), .pointer (some ⟨g, i * 7, none⟩), .pointer (some ⟨bC, 0, none⟩)] w fun e w' => e = .returned (.tuple #[]) ∧
      Lg w' g N cq i (upe X i (rv ⟨F, x, y, fun k => if k < n then nb (bt f) (q + k * p) p else 0⟩)) ⟨F, x, y, fun k => if k < n then nb (bt f) (q + k * p) p else 0⟩ ∧ S2m w' bs (.slice a L cp) (.int .i64 ((q + n * p : Nat) : Int)) ∧ Chg (fun b => b = bs ∨ b = g) w w' := by
  have sl := SB.lt
  have gl := G.lt
  have hs4 : q + psum (cbits n p) 4 = q + n * p := by rw [cbits_sum]; by_cases h : 4 < n; omega; rw [if_neg h]
  have RD := read_is bs bA 0 4 q L 4 cp a f (cbits n p) w B SB hA (fun i _ => by unfold cbits; split <;> omega) (by omega) hL (by rw [hs4]; exact hq) hbA hba
  rw [hs4] at RD
  have HG : Hid (Lg w g N cq i X ⟨F, x, y, fun _ => 0⟩) := G
  have hu := fun k => u16_in (bt_bits f) (q + k * p) p h8
  clear B SB G hA
  obtain ⟨c, hc⟩ : ∃ c : Nat → Int, (fun k => if k < n then nb (bt f) (q + k * p) p else 0) = c := ⟨_, rfl⟩
  have hcn : ∀ k, (if k < n then nb (bt f) (q + k * p) p else 0) = c k := fun k => congrFun hc k
  have hcb : ∀ k, 0 ≤ c k ∧ c k < 65536 := fun k => by
    rw [← hcn k]
    split
    · exact hu k
    · omega
  have hc4 : ∀ k, 4 ≤ k → c k = 0 := fun k hk => by rw [← hcn k, if_neg (by omega)]
  rw [hc]
  clear hc hu
  go_enter Tryd.func99, Tryd.ntmps99
  go_upto_region 1 with (first | (go_at_call 94; refine RD.mono ?_; rintro e v ⟨r, rfl, OB, SB, CH, hr⟩))
  have G1 := (HG.out.chg CH hg).self
  have hgr : g ≠ r := by omega
  have hsr : bs ≠ r := by omega
  replace OB : Vm v r 4 (fun k => .int .u32 (if k < n then nb (bt f) (q + k * p) p else 0)) := OB.eq fun k hk => by rw [cbits_val]
  clear RD HG hr
  simp only [hcn] at OB
  clear hcn
  go_loopg [11] 4 (fun gk iv wr => ∃ (k : Nat) (D : Nat → Int), k + gk = 4 ∧ iv = .int .i64 k ∧ Lg wr g N cq i (upe X i (rv ⟨F, x, y, D⟩)) ⟨F, x, y, D⟩ ∧ S2m wr bs (.slice a L cp) (.int .i64 ((q + n * p : Nat) : Int)) ∧ Vm wr r 4 (fun k => .int .u32 (c k)) ∧ Chg (fun b => b = bs ∨ b = g) w wr ∧ Hid (∀ j, D j = if j < k then c j else 0))
  case atStart => exact ⟨0, _, rfl, rfl, G1, SB, OB, CH.mono (fun b h => .inl h), fun j => by rw [if_neg (by omega)]⟩
  case round =>
    clear G1 SB CH OB v
    obtain ⟨k, D, hk, rfl, G1, SB, OB, CH, HD⟩ := hrel
    obtain ⟨v, hv⟩ : ∃ v, v = wr := ⟨_, rfl⟩
    subst hv
    by_cases hlt : k < 4
    · have hki : (k : Int) < 4 := by omega
      have gc : v.cell? ⟨g, i * 7 + 3 + k, none⟩ = some (.int .u16 (D k)) := by
        have := G1.cell hi (show 3 + k < 7 by omega)
        rw [← Nat.add_assoc, Nat.add_comm 3 k] at this
        exact this
      have gf := G1.frz
      have oc := OB.dg k hlt
      have hz : c k % 65536 = c k := by have := hcb k; omega
      have HE : Hid (∃ z, z = c k) := ⟨_, rfl⟩
      generalize hcz : c k = z at oc hz
      have HZ : Hid (c k = z) := hcz
      clear hcz HE
      have HG1 : Hid (Lg v g N cq i (upe X i (rv ⟨F, x, y, D⟩)) ⟨F, x, y, D⟩ ∧ S2m v bs (.slice a L cp) (.int .i64 ((q + n * p : Nat) : Int)) ∧ Vm v r 4 (fun k => .int .u32 (c k)) ∧ Chg (fun b => b = bs ∨ b = g) w v) := ⟨G1, SB, OB, CH⟩
      clear G1 SB OB CH
      go_wp2
      go_roundg (gk - 1)
      case measure => omega
      case rel =>
        obtain ⟨G1, SB, OB, CH⟩ := HG1.out
        have G2 := G1.set (j := 3 + k) (Q' := ⟨F, x, y, fun i => if i = k then z else D i⟩) hi (by omega) (.int .u16 z) (by rw [Nat.add_comm 3 k]; show _ = Value.int .u16 (if k = k then z else D k); rw [if_pos rfl]) (fun j hj hne => by
          match j, hne with
          | 0, _ => rfl
          | 1, _ => rfl
          | 2, _ => rfl
          | j + 3, h => show Value.int .u16 (D j) = .int .u16 (if j = k then z else D j); rw [if_neg (by omega)])
        rw [upe_upe, ← Nat.add_assoc] at G2
        refine ⟨k + 1, _, by omega, by go_num, G2, SB.skip hg, OB.skip hgr, CH.setCell (.inl (.inr rfl)) _, fun j => ?_⟩
        show (if j = k then z else D j) = _
        by_cases e : j = k
        · rw [if_pos e, if_pos (by omega), e, HZ.out]
        · rw [if_neg e, HD.out j]
          by_cases e2 : j < k
          · rw [if_pos e2, if_pos (by omega)]
          · rw [if_neg e2, if_neg (by omega)]
    · have hki : ¬ (k : Int) < 4 := by omega
      obtain rfl : k = 4 := by omega
      have hDc : D = c := funext fun j => by
        rw [HD.out j]
        by_cases h : j < 4
        · rw [if_pos h]
        · rw [if_neg h, hc4 j (by omega)]
      subst hDc
      go_wp2
      go_end0
      exact ⟨rfl, G1, SB, CH⟩
end Go.Proofs.YtemcppakmcffgaaDoor
