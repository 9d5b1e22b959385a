/- What the closures of package records' fields that get do. -/
import Derived.Test.YtemcppakmcffgaaDoorPkA
import Derived.Test.YtemcppakmcffgaaDoorRecP
import Derived.Test.YtemcppakmcffgaaDoorReadsAB
namespace Go.Proofs.YtemcppakmcffgaaDoor
open Go.RowKit Go.BigFrame
set_option linter.unusedSimpArgs false
set_option linter.unusedVariables false

/-- One record of a list, while its numbers are got. -/
structure Lg (w : World) (g N cq i : Nat) (X : Nat → Nat → Value) (Q : Rcd) : Prop where
  lst : Lst w 63 7 (.slice (some ⟨g, 0, none⟩) N cq) N X
  at_ : ∀ j, j < 7 → X i j = rv Q j
theorem Lg.later {w w' : World} {g N cq i : Nat} {X : Nat → Nat → Value} {Q : Rcd} (B : Lg w g N cq i X Q) (e : Ext w w') : Lg w' g N cq i X Q := ⟨B.lst.later e, B.at_⟩
theorem Lg.chg {S : Nat → Prop} {w w' : World} {g N cq i : Nat} {X : Nat → Nat → Value} {Q : Rcd} (B : Lg w g N cq i X Q) (e : Chg S w w') (h : ¬ S g) : Lg w' g N cq i X Q := ⟨B.lst.chg e (fun b hb => by simp only [Value.ownBlock, Option.some.injEq] at hb; subst hb; exact h), B.at_⟩
theorem Lg.cell {w : World} {g N cq i : Nat} {X : Nat → Nat → Value} {Q : Rcd} (B : Lg w g N cq i X Q) (hi : i < N) {j : Nat} (hj : j < 7) : w.cell? ⟨g, i * 7 + j, none⟩ = some (rv Q j) := by
  rw [B.lst.cell hi hj, B.at_ j hj]
theorem Lg.frz {w : World} {g N cq i : Nat} {X : Nat → Nat → Value} {Q : Rcd} (B : Lg w g N cq i X Q) : ∀ o, w.frozen? ⟨g, o, none⟩ = false := fun o => World.ownsRow.frozenAt B.lst o
theorem Lg.lt {w : World} {g N cq i : Nat} {X : Nat → Nat → Value} {Q : Rcd} (B : Lg w g N cq i X Q) : g < w.heap.size := B.lst.lt
/-- .. and a number is told. -/
theorem Lg.set {w : World} {g N cq i : Nat} {X : Nat → Nat → Value} {Q Q' : Rcd} (B : Lg w g N cq i X Q) (hi : i < N) {j : Nat} (hj : j < 7) (y : Value) (hy : y = rv Q' j) (hQ : ∀ k, k < 7 → k ≠ j → rv Q k = rv Q' k) : Lg (w.setCell ⟨g, i * 7 + j, none⟩ y) g N cq i (upe X i (rv Q')) Q' :=
  ⟨(B.lst.set hi hj y).congr fun i' j' hi' hj' => by
    unfold upx upe
    by_cases e : i' = i
    · subst e
      rw [if_pos rfl]
      by_cases e2 : j' = j
      · subst e2; rw [if_pos ⟨rfl, rfl⟩, hy]
      · rw [if_neg (fun h => e2 h.2), B.at_ j' hj', hQ j' hj' e2]
    · rw [if_neg (fun h => e h.1), if_neg e], fun j hj => by unfold upe; rw [if_pos rfl]⟩
theorem psum1 (cn : Nat → Nat) : psum cn 1 = cn 0 := Nat.zero_add _
theorem upe_upe (X : Nat → Nat → Value) (i : Nat) (f g : Nat → Value) : upe (upe X i f) i g = upe X i g := by
  funext i' j
  unfold upe
  by_cases e : i' = i
  · rw [if_pos e, if_pos e]
  · rw [if_neg e, if_neg e, if_neg e]
set_option maxRecDepth 20000 in
set_option maxHeartbeats 4000000 in
theorem flagGet (bs bF q fl L cp g N cq i : Nat) (a : Option Addr) (f : Nat → Int) (X : Nat → Nat → Value) (F x y : Int) (C : Nat → Int) (w : World) (B : Bs w a L f) (SB : S2m w bs (.slice a L cp) (.int .i64 q)) (hF : w.cell? ⟨bF, 0, none⟩ = some (.int .i64 (fl : Nat)))
    (G : Lg w g N cq i X ⟨F, x, y, C⟩) (hi : i < N) (h8 : fl ≤ 8) (hL : L ≤ 70000) (hq : q + fl ≤ 8 * L) (hbF : bF ≠ bs) (hg : g ≠ bs) (hba : ∀ ad, a = some ad → ad.block ≠ bs) :
    Calls Tryd.prog 93 #[.pointer (some ⟨bs, 0, none⟩), .pointer (some ⟨g, i * 7, none⟩), .pointer (some ⟨bF, 0, none⟩)] w fun e w' => e = .returned (.tuple #[]) ∧
      Lg w' g N cq i (upe X i (rv ⟨nb (bt f) q fl, x, y, C⟩)) ⟨nb (bt f) q fl, x, y, C⟩ ∧ S2m w' bs (.slice a L cp) (.int .i64 ((q + fl : Nat) : Int)) ∧ Chg (fun b => b = bs ∨ b = g) w w' := by
  have sl := SB.lt
  have gl := G.lt
  have RD := read_is bs w.heap.size 0 1 q L 1 cp a f (fun _ => fl) (w.alloc (.cells #[.int .i64 fl] 3)) (B.later (Ext.alloc (Ext.refl w) _)) (SB.alloc _) (fun i hi => by
      have e : i = 0 := by omega
      subst e
      exact new1 rfl) (fun _ _ => by omega) (by omega) hL (by rw [psum1]; omega) (by omega) hba
  rw [psum1] at RD
  have hb8 := u8_in (bt_bits f) q fl h8
  have HG : Hid (Lg w g N cq i X ⟨F, x, y, C⟩) := G
  clear B SB G
  go_enter Tryd.func93, Tryd.ntmps93
  have hz : nb (bt f) q fl % 256 = nb (bt f) q fl := by omega
  generalize hzz : nb (bt f) q fl = z at *
  go_wp2_with (first | (go_at_call 94; refine RD.mono ?_; rintro e v ⟨r, rfl, OB, SB, CH, hr⟩; have G1 := (HG.out.later (Ext.alloc (Ext.refl w) _)).chg CH hg; have gc : v.cell? ⟨g, i * 7, none⟩ = some (.int .u8 F) := G1.cell hi (show 0 < 7 by decide); have gf := G1.frz; have oc : v.cell? ⟨r, 0, none⟩ = some (.int .u32 z) := (OB.dg 0 (by decide)).trans (by rw [← hzz]; rfl); clear OB RD))
  go_end0
  exact ⟨rfl, G1.set (j := 0) hi (by decide) _ rfl (fun k hk hne => by match k, hne with | 1, _ => rfl | 2, _ => rfl | k + 3, _ => rfl), SB.skip hg, ((Chg.of (Ext.alloc (Ext.refl w) _)).trans CH (fun b h => .inl (.inl h))).setCell (.inl (.inr rfl)) _⟩
theorem psum2 (cn : Nat → Nat) : psum cn 2 = cn 0 + cn 1 := by show psum cn 1 + cn 1 = _; rw [psum1]
theorem Lg.self {w : World} {g N cq i : Nat} {X : Nat → Nat → Value} {Q : Rcd} (B : Lg w g N cq i X Q) : Lg w g N cq i (upe X i (rv Q)) Q :=
  ⟨B.lst.congr fun i' j hi' hj => by
    unfold upe
    by_cases e : i' = i
    · subst e; rw [if_pos rfl, B.at_ j hj]
    · rw [if_neg e], fun j hj => by unfold upe; rw [if_pos rfl]⟩
set_option maxRecDepth 20000 in
set_option maxHeartbeats 4000000 in
theorem pointGet (bs bP q c L cp g N cq i : Nat) (a : Option Addr) (f : Nat → Int) (X : Nat → Nat → Value) (F x y : Int) (C : Nat → Int) (w : World) (B : Bs w a L f) (SB : S2m w bs (.slice a L cp) (.int .i64 q)) (hP : w.cell? ⟨bP, 0, none⟩ = some (.int .i64 (c : Nat)))
    (G : Lg w g N cq i X ⟨F, x, y, C⟩) (hi : i < N) (h8 : c ≤ 32) (hL : L ≤ 70000) (hq : q + c + c ≤ 8 * L) (hbP : bP ≠ bs) (hg : g ≠ bs) (hba : ∀ ad, a = some ad → ad.block ≠ bs) :
    Calls Tryd.prog 96 #[.pointer (some ⟨bs, 0, none⟩), .pointer (some ⟨g, i * 7, none⟩), .pointer (some ⟨bP, 0, none⟩)] w fun e w' => e = .returned (.tuple #[]) ∧
      Lg w' g N cq i (upe X i (rv ⟨F, nb (bt f) q c, nb (bt f) (q + c) c, C⟩)) ⟨F, nb (bt f) q c, nb (bt f) (q + c) c, C⟩ ∧ S2m w' bs (.slice a L cp) (.int .i64 ((q + c + c : Nat) : Int)) ∧ Chg (fun b => b = bs ∨ b = g) w w' := by
  have sl := SB.lt
  have gl := G.lt
  have hs2 : q + psum (fun _ => c) 2 = q + c + c := by rw [psum2]; omega
  have hs1 : q + psum (fun _ => c) 1 = q + c := by rw [psum1]
  have RD := read_is bs w.heap.size 0 2 q L 2 cp a f (fun _ => c) (w.alloc (.cells #[.int .i64 c, .int .i64 c] 3)) (B.later (Ext.alloc (Ext.refl w) _)) (SB.alloc _) (fun i hi => by
      match i, hi with
      | 0, _ => exact new1 rfl
      | 1, _ => exact new1 rfl) (fun _ _ => h8) (by omega) hL (by rw [hs2]; exact hq) (by omega) hba
  rw [hs2] at RD
  have HG : Hid (Lg w g N cq i X ⟨F, x, y, C⟩) := G
  clear B SB G
  obtain ⟨z, hz⟩ : ∃ z, nb (bt f) q c = z := ⟨_, rfl⟩
  obtain ⟨t, ht⟩ : ∃ t, nb (bt f) (q + c) c = t := ⟨_, rfl⟩
  rw [hz, ht]
  go_enter Tryd.func96, Tryd.ntmps96
  go_upto_region 1 with (first | (go_at_call 94; refine RD.mono ?_; rintro e v ⟨r, rfl, OB, SB, CH, hr⟩))
  have G1 := (HG.out.later (Ext.alloc (Ext.refl w) _)).chg CH hg
  have O2 : S2m v r (.int .u32 z) (.int .u32 t) := ⟨OB.lt, OB.fz, (OB.dg 0 (by decide)).trans (by rw [← hz]; rfl), (OB.dg 1 (by decide)).trans (by rw [← ht, hs1])⟩
  clear OB RD HG hz ht hr
  have g0 := fun x' : Grow v => (O2.later x'.ext).c0
  have g1 := fun x' : Grow v => (O2.later x'.ext).c1
  refine wp_region_reads (fun i => decide (i < 7)) 1 8 (fun w' => ∃ x : Grow v, w' = x.out) (by kernel_rfl) (by kernel_rfl) (fun c a x v w h => by cases x <;> exact h) ⟨⟨v.drew, (Ext.refl v).drew⟩, rfl⟩ ?_
  intro l1 l2 h1 h2
  simp [pickB] at h1 h2
  subst h1 h2
  (repeat (first | go_big_quiet_step (fail))); refine wpQuiet_nil ?_; clear g0 g1
  have EX : Ext v v.drew := (Ext.refl v).drew
  replace G1 := G1.later EX
  have c1 : v.drew.cell? ⟨g, i * 7 + 1, none⟩ = some (.int .u32 x) := G1.cell hi (show 1 < 7 by decide)
  have c2 : v.drew.cell? ⟨g, i * 7 + 2, none⟩ = some (.int .u32 y) := G1.cell hi (show 2 < 7 by decide)
  have gf := G1.frz
  refine hold_step (n := 0) fun K hK => ?_
  go_wp2
  refine hK _ _ ⟨⟨v.drew, (Ext.refl v).drew⟩, rfl⟩ ?_
  clear hK K O2
  refine hold_done ?_
  generalize v.drew = v1 at *
  go_wp2
  go_end0
  have G2 := (G1.set (j := 1) (Q' := ⟨F, z, y, C⟩) hi (by decide) (.int .u32 z) rfl (fun k hk hne => by match k, hne with | 0, _ => rfl | 2, _ => rfl | k + 3, _ => rfl)).set (j := 2) (Q' := ⟨F, z, t, C⟩) hi (by decide) (.int .u32 t) rfl (fun k hk hne => by match k, hne with | 0, _ => rfl | 1, _ => rfl | k + 3, _ => rfl)
  rw [upe_upe] at G2
  exact ⟨rfl, G2, ((SB.later EX).skip hg).skip hg, ((((Chg.of (Ext.alloc (Ext.refl w) _)).trans CH (fun b h => .inl (.inl h))).trans (Chg.of (S := fun _ => False) EX) (fun _ h => h.elim)).setCell (.inl (.inr rfl)) _).setCell (.inl (.inr rfl)) _⟩
/-- The bits of the colours: none beyond n. -/
def cbits (n p i : Nat) : Nat := if i < n then p else 0
theorem cbits_sum (n p : Nat) : ∀ k, psum (cbits n p) k = (if k < n then k else n) * p
  | 0 => by
    show 0 = _
    by_cases h : 0 < n
    · rw [if_pos h, Nat.zero_mul]
    · rw [if_neg h, show n = 0 by omega, Nat.zero_mul]
  | k + 1 => by
    show psum (cbits n p) k + cbits n p k = _
    rw [cbits_sum n p k]
    unfold cbits
    by_cases h : k < n
    · rw [if_pos h, if_pos h]
      by_cases h2 : k + 1 < n
      · rw [if_pos h2, Nat.add_mul, Nat.one_mul]
      · rw [if_neg h2, show n = k + 1 by omega, Nat.add_mul, Nat.one_mul]
    · rw [if_neg h, if_neg h, if_neg (by omega)]; rfl
theorem cbits_val (β : Nat → Int) (q n p k : Nat) : nb β (q + psum (cbits n p) k) (cbits n p k) = if k < n then nb β (q + k * p) p else 0 := by
  rw [cbits_sum]
  unfold cbits
  by_cases h : k < n
  · rw [if_pos h, if_pos h, if_pos h]
  · rw [if_neg h, if_neg h, if_neg h]; rfl
set_option maxRecDepth 20000 in
set_option maxHeartbeats 4000000 in
theorem coloursGet (bs bC bA q n p L cp g N cq i : Nat) (a : Option Addr) (f : Nat → Int) (X : Nat → Nat → Value) (F x y : Int) (w : World) (B : Bs w a L f) (SB : S2m w bs (.slice a L cp) (.int .i64 q)) (hC : w.cell? ⟨bC, 0, none⟩ = some (.slice (some ⟨bA, 0, none⟩) 4 4))
    (hA : ∀ i, i < 4 → w.cell? ⟨bA, 0 + i, none⟩ = some (.int .i64 (cbits n p i : Nat))) (G : Lg w g N cq i X ⟨F, x, y, fun _ => 0⟩) (hi : i < N) (h8 : p ≤ 16) (hn : n ≤ 4) (hL : L ≤ 70000) (hq : q + n * p ≤ 8 * L) (hbC : bC ≠ bs) (hbA : bA ≠ bs) (hg : g ≠ bs) (hba : ∀ ad, a = some ad → ad.block ≠ bs) :
    Calls Tryd.prog 99 #[.pointer (some ⟨bs, 0, none⟩), .pointer (some ⟨g, i * 7, none⟩), .pointer (some ⟨bC, 0, none⟩)] w fun e w' => e = .returned (.tuple #[]) ∧
      Lg w' g N cq i (upe X i (rv ⟨F, x, y, fun k => if k < n then nb (bt f) (q + k * p) p else 0⟩)) ⟨F, x, y, fun k => if k < n then nb (bt f) (q + k * p) p else 0⟩ ∧ S2m w' bs (.slice a L cp) (.int .i64 ((q + n * p : Nat) : Int)) ∧ Chg (fun b => b = bs ∨ b = g) w w' := by
  have sl := SB.lt
  have gl := G.lt
  have hs4 : q + psum (cbits n p) 4 = q + n * p := by rw [cbits_sum]; by_cases h : 4 < n; omega; rw [if_neg h]
  have RD := read_is bs bA 0 4 q L 4 cp a f (cbits n p) w B SB hA (fun i _ => by unfold cbits; split <;> omega) (by omega) hL (by rw [hs4]; exact hq) hbA hba
  rw [hs4] at RD
  have HG : Hid (Lg w g N cq i X ⟨F, x, y, fun _ => 0⟩) := G
  have hu := fun k => u16_in (bt_bits f) (q + k * p) p h8
  clear B SB G hA
  obtain ⟨c, hc⟩ : ∃ c : Nat → Int, (fun k => if k < n then nb (bt f) (q + k * p) p else 0) = c := ⟨_, rfl⟩
  have hcn : ∀ k, (if k < n then nb (bt f) (q + k * p) p else 0) = c k := fun k => congrFun hc k
  have hcb : ∀ k, 0 ≤ c k ∧ c k < 65536 := fun k => by
    rw [← hcn k]
    split
    · exact hu k
    · omega
  have hc4 : ∀ k, 4 ≤ k → c k = 0 := fun k hk => by rw [← hcn k, if_neg (by omega)]
  rw [hc]
  clear hc hu
  go_enter Tryd.func99, Tryd.ntmps99
  go_upto_region 1 with (first | (go_at_call 94; refine RD.mono ?_; rintro e v ⟨r, rfl, OB, SB, CH, hr⟩))
  have G1 := (HG.out.chg CH hg).self
  have hgr : g ≠ r := by omega
  have hsr : bs ≠ r := by omega
  replace OB : Vm v r 4 (fun k => .int .u32 (if k < n then nb (bt f) (q + k * p) p else 0)) := OB.eq fun k hk => by rw [cbits_val]
  clear RD HG hr
  simp only [hcn] at OB
  clear hcn
  go_loopg [11] 4 (fun gk iv wr => ∃ (k : Nat) (D : Nat → Int), k + gk = 4 ∧ iv = .int .i64 k ∧ Lg wr g N cq i (upe X i (rv ⟨F, x, y, D⟩)) ⟨F, x, y, D⟩ ∧ S2m wr bs (.slice a L cp) (.int .i64 ((q + n * p : Nat) : Int)) ∧ Vm wr r 4 (fun k => .int .u32 (c k)) ∧ Chg (fun b => b = bs ∨ b = g) w wr ∧ Hid (∀ j, D j = if j < k then c j else 0))
  case atStart => exact ⟨0, _, rfl, rfl, G1, SB, OB, CH.mono (fun b h => .inl h), fun j => by rw [if_neg (by omega)]⟩
  case round =>
    clear G1 SB CH OB v
    obtain ⟨k, D, hk, rfl, G1, SB, OB, CH, HD⟩ := hrel
    obtain ⟨v, hv⟩ : ∃ v, v = wr := ⟨_, rfl⟩
    subst hv
    by_cases hlt : k < 4
    · have hki : (k : Int) < 4 := by omega
      have gc : v.cell? ⟨g, i * 7 + 3 + k, none⟩ = some (.int .u16 (D k)) := by
        have := G1.cell hi (show 3 + k < 7 by omega)
        rw [← Nat.add_assoc, Nat.add_comm 3 k] at this
        exact this
      have gf := G1.frz
      have oc := OB.dg k hlt
      have hz : c k % 65536 = c k := by have := hcb k; omega
      have HE : Hid (∃ z, z = c k) := ⟨_, rfl⟩
      generalize hcz : c k = z at oc hz
      have HZ : Hid (c k = z) := hcz
      clear hcz HE
      have HG1 : Hid (Lg v g N cq i (upe X i (rv ⟨F, x, y, D⟩)) ⟨F, x, y, D⟩ ∧ S2m v bs (.slice a L cp) (.int .i64 ((q + n * p : Nat) : Int)) ∧ Vm v r 4 (fun k => .int .u32 (c k)) ∧ Chg (fun b => b = bs ∨ b = g) w v) := ⟨G1, SB, OB, CH⟩
      clear G1 SB OB CH
      go_wp2
      go_roundg (gk - 1)
      case measure => omega
      case rel =>
        obtain ⟨G1, SB, OB, CH⟩ := HG1.out
        have G2 := G1.set (j := 3 + k) (Q' := ⟨F, x, y, fun i => if i = k then z else D i⟩) hi (by omega) (.int .u16 z) (by rw [Nat.add_comm 3 k]; show _ = Value.int .u16 (if k = k then z else D k); rw [if_pos rfl]) (fun j hj hne => by
          match j, hne with
          | 0, _ => rfl
          | 1, _ => rfl
          | 2, _ => rfl
          | j + 3, h => show Value.int .u16 (D j) = .int .u16 (if j = k then z else D j); rw [if_neg (by omega)])
        rw [upe_upe, ← Nat.add_assoc] at G2
        refine ⟨k + 1, _, by omega, by go_num, G2, SB.skip hg, OB.skip hgr, CH.setCell (.inl (.inr rfl)) _, fun j => ?_⟩
        show (if j = k then z else D j) = _
        by_cases e : j = k
        · rw [if_pos e, if_pos (by omega), e, HZ.out]
        · rw [if_neg e, HD.out j]
          by_cases e2 : j < k
          · rw [if_pos e2, if_pos (by omega)]
          · rw [if_neg e2, if_neg (by omega)]
    · have hki : ¬ (k : Int) < 4 := by omega
      obtain rfl : k = 4 := by omega
      have hDc : D = c := funext fun j => by
        rw [HD.out j]
        by_cases h : j < 4
        · rw [if_pos h]
        · rw [if_neg h, hc4 j (by omega)]
      subst hDc
      go_wp2
      go_end0
      exact ⟨rfl, G1, SB, CH⟩
end Go.Proofs.YtemcppakmcffgaaDoor
