/- What package records' fit and read do. -/
import Derived.Test.YtemcppakmcffgaaDoorBitEF
import Derived.Test.YtemcppakmcffgaaDoorBoxes
import Derived.Test.YtemcppakmcffgaaDoorMany
import Derived.Deep.LoopGhost
import Derived.Deep.Light
namespace Go.Proofs.YtemcppakmcffgaaDoor
open Go.RowKit Go.BigFrame
set_option linter.unusedSimpArgs false
set_option linter.unusedVariables false
theorem fit_is (x : Int) (k : Nat) (h0 : 0 ≤ x) (h1 : x < 4294967296) (hk : k ≤ 32) (w : World) :
    Calls Tryd.prog 75 #[.int .u32 x, .int .i64 k] w fun e w' => e = .returned (.int .i64 (if x < 2 ^ k then 0 else 1)) ∧ Ext w w' := by
  have EX := Ext.refl w
  by_cases h : x < 2 ^ k
  · have hd : (x / 2 ^ k != 0) = false := by rw [Int.ediv_eq_zero_of_lt h0 h]; rfl
    rw [if_pos h]
    clear h
    go_enter Tryd.func75, Tryd.ntmps75
    go_wp2
    go_ret
    exact ⟨rfl, EX⟩
  · have hd : (x / 2 ^ k != 0) = true := div_great (by omega)
    rw [if_neg h]
    clear h
    go_enter Tryd.func75, Tryd.ntmps75
    go_wp2
    go_ret
    exact ⟨rfl, EX⟩
/-- How many bits the first numbers have together. -/
def psum (cn : Nat → Nat) : Nat → Nat
  | 0 => 0
  | k + 1 => psum cn k + cn k
theorem psum_le (cn : Nat → Nat) {i m : Nat} (h : i ≤ m) : psum cn i ≤ psum cn m := by
  induction m with
  | zero => obtain rfl : i = 0 := by omega
            exact Nat.le_refl _
  | succ m ih =>
    by_cases e : i = m + 1
    · rw [e]; exact Nat.le_refl _
    · have := ih (by omega)
      show _ ≤ psum cn m + cn m
      omega
theorem Bs.chg {S : Nat → Prop} {w w' : World} {a : Option Addr} {n : Nat} {f : Nat → Int} (B : Bs w a n f) (h : Chg S w w') (hS : ∀ ad, a = Option.some ad → ¬ S ad.block) : Bs w' a n f :=
  ⟨B.len, fun i hi => by obtain ⟨b, o, h1, h2⟩ := B.at_ i hi; exact ⟨b, o, h1, h.cell (hS _ h1) h2⟩, B.byte⟩
theorem Vm.of_row {w : World} {g n : Nat} {t : TypeId} {f : Nat → Value} (h : w.rowIs g t n f) : Vm w g n f := ⟨h.lt, fun o => h.frozen o, fun i hi => h.cell hi⟩
theorem S2m.blk {v v' : World} {b : Nat} {x0 x1 : Value} (B : S2m v b x0 x1) (h : v'.heap[b]? = v.heap[b]?) (hl : v.heap.size ≤ v'.heap.size) : S2m v' b x0 x1 :=
  ⟨Nat.lt_of_lt_of_le B.lt hl, frz_blk h B.fz, (World.cell?_of_block (a := ⟨b, 0, none⟩) h).trans B.c0, (World.cell?_of_block (a := ⟨b, 1, none⟩) h).trans B.c1⟩
theorem info_u32 : (Tryd.prog.info? 56).map (fun i => (i.zero, i.size, i.bytes)) = some (some (.int .u32 0), 1, 4) := by kernel_rfl

set_option maxRecDepth 20000 in
set_option maxHeartbeats 4000000 in
theorem read_is (bs bc oc m q L cc cp : Nat) (a : Option Addr) (f : Nat → Int) (cn : Nat → Nat) (w0 : World) (B : Bs w0 a L f) (SB : S2m w0 bs (.slice a L cp) (.int .i64 q))
    (hc : ∀ i, i < m → w0.cell? ⟨bc, oc + i, none⟩ = some (.int .i64 (cn i : Nat))) (hcn : ∀ i, i < m → cn i ≤ 32) (hm : m ≤ 1000) (hL : L ≤ 70000) (hq : q + psum cn m ≤ 8 * L) (hbc : bc ≠ bs) (hba : ∀ ad, a = some ad → ad.block ≠ bs) :
    Calls Tryd.prog 94 #[.pointer (some ⟨bs, 0, none⟩), .slice (some ⟨bc, oc, none⟩) m cc] w0 fun e w' => ∃ g, e = .returned (.slice (some ⟨g, 0, none⟩) m m) ∧ Vm w' g m (fun i => .int .u32 (nb (bt f) (q + psum cn i) (cn i))) ∧
      S2m w' bs (.slice a L cp) (.int .i64 ((q + psum cn m : Nat) : Int)) ∧ Chg (fun b => b = bs) w0 w' ∧ w0.heap.size ≤ g := by
  obtain ⟨i0, hi0, hz0, hz1, hz2⟩ := info_parts info_u32
  have HB : Hid (Bs w0 a L f) := B
  have HC : Hid (∀ i, i < m → w0.cell? ⟨bc, oc + i, none⟩ = some (.int .i64 (cn i : Nat))) := hc
  have HN : Hid (∀ i, i < m → cn i ≤ 32) := hcn
  have HQ : Hid (q + psum cn m ≤ 8 * L) := hq
  have HA : Hid (∀ ad, a = some ad → ad.block ≠ bs) := hba
  have hmk := run_make_row (P := Tryd.prog) 207 56 i0 (.int .u32 0) Tryd.underlying207 hi0 hz0 hz1 rfl .i64 .i64 m (by rw [hz2]; omega) (by omega)
  have sl := SB.lt
  clear B hc hcn hq hba
  go_enter Tryd.func94, Tryd.ntmps94
  go_upto_region 3 with fail
  refine rebase (G := fun w' => Code.wp _ _ _ _ w') _ (fun v => Chg (fun b => b = bs) w0 v ∧ S2m v bs (.slice a L cp) (.int .i64 ((q + psum cn 0 : Nat) : Int)) ∧ Vm v w0.heap.size m (fun i => if i < 0 then .int .u32 (nb (bt f) (q + psum cn i) (cn i)) else .int .u32 0)) ⟨(Chg.refl _ _).alloc _, SB.alloc _, (Vm.of_row (World.rowIs_made _ _ _ _)).eq (fun i _ => by rw [if_neg (by omega)])⟩ ?_
  obtain ⟨g, hgg⟩ : ∃ g, w0.heap.size = g := ⟨_, rfl⟩
  rw [hgg] at sl ⊢
  have hg : w0.heap.size ≤ g := by omega
  clear SB hmk hgg
  rintro v ⟨CH, SB, OB⟩
  go_loopg [13] m (fun gk iv wr => ∃ k : Nat, k + gk = m ∧ iv = .int .i64 k ∧ Chg (fun b => b = bs) w0 wr ∧ S2m wr bs (.slice a L cp) (.int .i64 ((q + psum cn k : Nat) : Int)) ∧ Vm wr g m (fun i => if i < k then .int .u32 (nb (bt f) (q + psum cn i) (cn i)) else .int .u32 0))
  case atStart => exact ⟨0, by omega, rfl, CH, SB, OB⟩
  case round =>
    clear CH SB OB v
    obtain ⟨k, hk, rfl, CH, SB, OB⟩ := hrel
    obtain ⟨w, hw⟩ : ∃ w, w = wr := ⟨_, rfl⟩
    subst hw
    by_cases hlt : k < m
    · have hki : (k : Int) < (m : Int) := by omega
      have BW := HB.out.chg CH (fun ad h => HA.out ad h)
      have cK := CH.cell (fun h => hbc h) (HC.out k hlt)
      have hn := HN.out k hlt
      have hs := psum_le cn (show k + 1 ≤ m by omega)
      have hQ := HQ.out
      obtain ⟨Q, hQe⟩ : ∃ Q, q + psum cn k = Q := ⟨_, rfl⟩
      obtain ⟨c, hce⟩ : ∃ c, cn k = c := ⟨_, rfl⟩
      have hps : q + psum cn (k + 1) = Q + c := by show q + (psum cn k + cn k) = _; omega
      have HPS : Hid (q + psum cn (k + 1) = Q + c) := hps
      have GT := fun v (h : Ext w v) => get_ok a L cp Q c f v (BW.later h) (by omega) (by omega)
      have HV : Hid (nb (bt f) (q + psum cn k) (cn k) = nb (bt f) Q c) := by show _ = _; rw [hQe, hce]
      have hvb := nb_in (bt_bits f) Q c
      have hp32 := pow32 (k := c) (by omega)
      rw [hQe] at SB
      rw [hce] at cK
      have hQL : Q + c ≤ 560000 := by omega
      generalize nb (bt f) Q c = z at *
      have HH : Hid (Chg (fun b => b = bs) w0 w) := CH
      have HOB : Hid (Vm w g m (fun i => if i < k then .int .u32 (nb (bt f) (q + psum cn i) (cn i)) else .int .u32 0)) := OB
      clear BW hs hQ hps hQe hce CH
      refine rebase (G := fun w' => Code.wp _ _ _ _ w') _ (fun v => Ext w v ∧ S2m v bs (.slice a L cp) (.int .i64 (Q : Int)) ∧ v.cell? ⟨bc, oc + k, none⟩ = some (.int .i64 (c : Int))) ⟨Ext.refl w, SB, cK⟩ ?_
      clear SB cK OB
      rintro v ⟨EX, SB, cK⟩
      go_upto_region 5 with fail
      clear cK
      have SBc0 := SB.c0; have SBc1 := SB.c1; have SBfz := SB.fz; have SBlt := SB.lt
      refine wp_region_many 16 [] (fun i => i == 14) (by kernel_rfl) (by kernel_rfl) (by kernel_rfl) (fun c a x v w h => by cases x <;> exact h) ?_ ?_ ?_; (focus (intro i o hi ho; have h5 : i = 14 := (by simpa using hi); rcases h5 with rfl <;> (cases ho; exact fun a w n w1 h => extract_late rfl a w n w1 h))); (focus (intro m hm; simp at hm)); intro B hB l' hl'; simp [dumbsM, dumbM, isNew] at hl'; subst hl'; have gSBc0 := fun x' : Grow B => (SB.later (Ext.trans hB x'.ext)).c0; have gSBc1 := fun x' : Grow B => (SB.later (Ext.trans hB x'.ext)).c1; have gSBfz := fun x' : Grow B => (SB.later (Ext.trans hB x'.ext)).fz; have gSBlt := fun x' : Grow B => (SB.later (Ext.trans hB x'.ext)).lt; (repeat (first | go_big_quiet_step ((go_at_call 103; with_reducible exact calls_grow (GT _ (Ext.trans EX (Ext.trans hB (Grow.ext _)))))) | go_big_quiet_step (fail))); refine wpQuiet_nil ?_; clear gSBc0 gSBc1 gSBfz gSBlt; clear hB B; intro bs v1 hv hms hne t ht; simp at ht; subst ht; simp only [puts, if_true]; clear hms hne; replace EX := Ext.trans EX hv; replace SB := SB.later hv; clear SBc0 SBc1 SBfz SBlt; clear hv v; clear bs; rename World => v; have SBc0 := SB.c0; have SBc1 := SB.c1; have SBfz := SB.fz; have SBlt := SB.lt
      have OB := HOB.out.later EX
      have oc1 := OB.dg k hlt
      have ofz := OB.fz
      have hne : ¬ g = bs := by omega
      clear HOB
      go_upto_region 6 with fail
      have OB2 : Vm (v.setCell ⟨g, k, none⟩ (.int .u32 z)) g m (fun i => if i < k + 1 then .int .u32 (nb (bt f) (q + psum cn i) (cn i)) else .int .u32 0) := (OB.set k (.int .u32 z)).eq fun i hi => by
        unfold updv
        dsimp only
        by_cases e : i = k
        · rw [if_pos e, if_pos (by omega), e, HV.out]
        · rw [if_neg e]
          by_cases e2 : i < k
          · rw [if_pos e2, if_pos (by omega)]
          · rw [if_neg e2, if_neg (by omega)]
      have SB2 := SB.skip (o' := k) (x := Value.int .u32 z) (fun h => hne h)
      refine rebase (G := fun w' => Code.wp _ _ _ _ w') _ (fun v1 => Chg (fun b => b = bs) w0 v1 ∧ S2m v1 bs (.slice a L cp) (.int .i64 (Q : Int)) ∧ Vm v1 g m (fun i => if i < k + 1 then .int .u32 (nb (bt f) (q + psum cn i) (cn i)) else .int .u32 0)) ⟨(HH.out.trans (Chg.of (S := fun _ => False) EX) (fun _ h => h.elim)).setCell (.inr hg) _, SB2, OB2⟩ ?_
      clear SBc0 SBc1 SBfz SBlt
      clear SB2 OB2 OB oc1 ofz SB EX HV HH GT v
      rintro v ⟨CH, SB, OB⟩
      have SBc0 := SB.c0; have SBc1 := SB.c1; have SBfz := SB.fz; have SBlt := SB.lt
      go_wp2
      go_roundg (gk - 1)
      case measure => omega
      case rel =>
        refine ⟨k + 1, by omega, by go_num, CH.setCell (.inl rfl) _, ?_, OB.skip (fun h => hne h.symm)⟩
        rw [HPS.out, Int.natCast_add]
        exact SB.set1 _
    · have hki : ¬ (k : Int) < (m : Int) := by omega
      obtain rfl : k = m := by omega
      have SBc0 := SB.c0; have SBc1 := trivial; have SBfz := SB.fz; have SBlt := SB.lt
      go_wp2
      go_ret
      exact ⟨g, rfl, OB.eq (fun i hi => by rw [if_pos hi]), SB, CH, hg⟩
end Go.Proofs.YtemcppakmcffgaaDoor
