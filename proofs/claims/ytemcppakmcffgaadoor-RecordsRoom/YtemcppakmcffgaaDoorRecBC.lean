/- Records as values; what the given reference's Get of records does. What Get of records answers, in one sentence; the reference's Get, whatever it is handed. -/
import Derived.Test.YtemcppakmcffgaaDoorRecA
import Derived.Test.YtemcppakmcffgaaDoorListAB
import Derived.Test.YtemcppakmcffgaaDoorBookA
import Derived.Deep.LoopGhost
import Derived.Deep.Light
namespace Go.Proofs.YtemcppakmcffgaaDoor
open Go.RowKit Go.BigFrame
set_option linter.unusedSimpArgs false
set_option linter.unusedVariables false
/-- A vertex as it stands in a stream: its flag, its point, its colours. -/
structure Rcd where
  f : Int
  x : Int
  y : Int
  c : Nat → Int
/-- Its cells. -/
def rv (R : Rcd) : Nat → Value
  | 0 => .int .u8 R.f
  | 1 => .int .u32 R.x
  | 2 => .int .u32 R.y
  | i + 3 => .int .u16 (R.c i)
/-- The record whose bits begin at q. -/
def recAt (fl c p n : Nat) (β : Nat → Int) (q : Nat) : Rcd :=
  ⟨nb β q fl, nb β (q + fl) c, nb β (q + fl + c) c, fun i => if i < n then nb β (q + fl + c + c + i * p) p else 0⟩
/-- A layout of vertices, in whole numbers: bits of a flag, of a coordinate, of a colour, how many colours, bytes of a record. -/
structure Vl (L : Lay) (fl c p n sz : Nat) : Prop where
  may : vlay L = true
  ef : flg L = fl
  ec : L.c = c
  ep : L.p = p
  en : L.n = n
  es : lsize L 0 = sz
  f8 : fl ≤ 8
  c1 : 1 ≤ c ∧ c ≤ 32
  p1 : 1 ≤ p ∧ p ≤ 16
  n1 : 1 ≤ n ∧ n ≤ 4
  s1 : 1 ≤ sz ∧ sz ≤ 161
  b : fl + c + c + n * p ≤ 8 * sz ∧ 8 * sz < fl + c + c + n * p + 8
theorem vl_of {L : Lay} (h : vlay L = true) : ∃ fl c p n sz, Vl L fl c p n sz := by
  have h0 := h
  unfold vlay at h
  simp only [Bool.and_eq_true, Bool.or_eq_true, decide_eq_true_eq] at h
  obtain ⟨hm, ht⟩ := h
  obtain ⟨m1, m2, m3, m4, m5, _, _⟩ := mayl_is hm
  obtain ⟨p1, p2, p3, p4, p5, p6, p7, p8, p9, p10⟩ := parts_bd hm 0
  obtain ⟨l1, l2⟩ := lbits_bd hm 0
  have e : lbits L 0 = flg L + 2 * L.c + L.n * L.p := by
    unfold lbits pts cols
    rw [if_pos (by omega), if_pos (by omega)]
    omega
  have es : lsize L 0 = (lbits L 0 + 7) / 8 := by unfold lsize; rw [if_pos hm]
  obtain ⟨fl, hf⟩ := Int.eq_ofNat_of_zero_le p5
  obtain ⟨c, hc⟩ := Int.eq_ofNat_of_zero_le (show 0 ≤ L.c by omega)
  obtain ⟨p, hp⟩ := Int.eq_ofNat_of_zero_le (show 0 ≤ L.p by omega)
  obtain ⟨n, hn⟩ := Int.eq_ofNat_of_zero_le (show 0 ≤ L.n by omega)
  obtain ⟨sz, hs⟩ := Int.eq_ofNat_of_zero_le (show 0 ≤ lsize L 0 by omega)
  have hnp : L.n * L.p = ((n * p : Nat) : Int) := by rw [hn, hp]; push_cast; rfl
  rw [hnp, hf, hc] at e
  have hb : fl + c + c + n * p ≤ 8 * sz ∧ 8 * sz < fl + c + c + n * p + 8 := by
    generalize n * p = np at *
    omega
  exact ⟨fl, c, p, n, sz, ⟨h0, hf, hc, hp, hn, hs, by omega, by omega, by omega, by omega, by omega, hb⟩⟩

theorem info_recG : (Tryd.prog.info? 63).map (fun i => (i.zero, i.size, i.bytes)) = some (some (.agg #[.int .u8 0, .int .u32 0, .int .u32 0, .int .u16 0, .int .u16 0, .int .u16 0, .int .u16 0]), 7, 20) := by kernel_rfl
theorem u16_in {β : Nat → Int} (h : Bits β) (q p : Nat) (hp : p ≤ 16) : 0 ≤ nb β q p ∧ nb β q p < 65536 := by
  have := nb_in h q p
  have : (2 : Int) ^ p ≤ 65536 := pow_le2 (n := 16) hp
  omega
theorem u8_in {β : Nat → Int} (h : Bits β) (q p : Nat) (hp : p ≤ 8) : 0 ≤ nb β q p ∧ nb β q p < 256 := by
  have := nb_in h q p
  have : (2 : Int) ^ p ≤ 256 := pow_le2 (n := 8) hp
  omega
theorem Vm.col {v : World} {b k : Nat} {F X Y z : Int} {C : Nat → Int} (B : Vm v b 7 (rv ⟨F, X, Y, C⟩)) : Vm (v.setCell ⟨b, 3 + k, none⟩ (.int .u16 z)) b 7 (rv ⟨F, X, Y, fun i => if i = k then z else C i⟩) := (B.set (3 + k) _).eq fun i _ => by
  unfold updv
  by_cases e : i = 3 + k
  · subst e
    rw [if_pos rfl, Nat.add_comm 3 k]
    show _ = Value.int .u16 (if k = k then z else C k)
    rw [if_pos rfl]
  · rw [if_neg e]
    match i with
    | 0 => rfl
    | 1 => rfl
    | 2 => rfl
    | i + 3 =>
      show Value.int .u16 (C i) = .int .u16 (if i = k then z else C i)
      rw [if_neg (by omega)]
theorem S7m.vm9 {v : World} {b : Nat} {F X Y : Int} (B : S7m v b (.int .u8 F) (.int .u32 X) (.int .u32 Y) (.int .u16 0) (.int .u16 0) (.int .u16 0) (.int .u16 0)) : Vm v b 7 (rv ⟨F, X, Y, fun _ => 0⟩) :=
  ⟨B.lt, B.fz, fun i hi => match i, hi with | 0, _ => B.c0 | 1, _ => B.c1 | 2, _ => B.c2 | 3, _ => B.c3 | 4, _ => B.c4 | 5, _ => B.c5 | 6, _ => B.c6⟩
theorem rv_one (R : Rcd) : ∀ u ∈ [rv R 0, rv R 1, rv R 2, rv R 3, rv R 4, rv R 5, rv R 6], u.oneCell' = true := by
  intro u hu
  simp only [List.mem_cons, List.not_mem_nil, or_false] at hu
  rcases hu with rfl | rfl | rfl | rfl | rfl | rfl | rfl <;> rfl
set_option maxRecDepth 20000 in
set_option maxHeartbeats 8000000 in
theorem rget9_good (L : Lay) (fl c p n sz m : Nat) (V : Vl L fl c p n sz) (a : Option Addr) (len cap : Nat) (f : Nat → Int) (w : World) (B : Bs w a len f) (hlen : len = sz * m) (h65 : len ≤ 65536) :
    Calls Tryd.prog 11 #[(.agg (lv (L))), .slice a len cap] w fun e w' => ∃ s, e = .returned (.tuple #[s, .int .i64 0]) ∧ Ext w w' ∧ Lst w' 63 7 s m (fun j => rv (recAt fl c p n (bt f) (8 * (sz * j)))) ∧ ∀ b, s.ownBlock = some b → w.heap.size ≤ b := by
  have EX := Ext.refl w
  obtain ⟨i0, hi0, hz0, hz1, hz2⟩ := info_parts info_recG
  have CK := fun v => rcheck9_any L v
  rw [V.may] at CK
  have FG := fun v => rflag_any L v
  rw [V.ef] at FG
  have SZ := fun v => rsize_any L 0 (by decide) v
  rw [V.es] at SZ
  have hc1 := V.ec
  have hp1 := V.ep
  have hn1 := V.en
  have HV : Hid (Vl L fl c p n sz) := V
  have HB : Hid (Bs w a len f) := B
  have HL : Hid (len = sz * m) := hlen
  have sz1 := V.s1
  have hmod : ((len : Int) % (sz : Int) != 0) = false := by
    rw [hlen]; simp
  have hbig : ¬ (65536 : Int) < (len : Int) := by omega
  have hsz0 : ¬ (sz : Int) = 0 := by omega
  have szp : (0 : Int) < sz := by omega
  clear V B hlen
  go_enter Tryd.func11, Tryd.ntmps11
  go_upto_region 1 with fail
  refine rebase (G := fun w' => Code.wp _ _ _ _ w') _ (fun v1 => Ext w v1 ∧ Lm v1 (w.heap.size) (L)) ⟨by repeat (first | with_reducible exact EX |  with_reducible refine Ext.alloc ?_ _ | with_reducible refine Ext.drew ?_ | with_reducible refine Ext.drewN ?_ _ | with_reducible refine Ext.setCell ?_ (by first | (simp; done) | omega | (dsimp only; omega)) _), by repeat (first | with_reducible assumption | with_reducible refine Lm.drew ?_ | with_reducible refine Lm.drewN ?_ _ | (with_reducible refine Lm.skip ?_ ?_; focus (first | omega | (simp; done))) | with_reducible refine Lm.set0 ?_ _ | with_reducible refine Lm.set4 ?_ _ | with_reducible refine Lm.set5 ?_ _ | with_reducible refine Lm.setk ?_ _ (by decide) | (with_reducible refine Lm.cells1 ?_; exact ⟨_, by with_reducible assumption⟩) | (with_reducible refine Lm.skips ?_ _ _ ?_; focus (first | omega | (simp; done))) | (with_reducible refine Lm.new ?_ <;> first | rfl | (simp; done)) | (with_reducible refine Lm.fresh ?_ ?_ <;> first | rfl | (simp; done)) | with_reducible refine Lm.alloc ?_ _)⟩ ?_; clear EX ; rintro v1 ⟨EX, LB⟩; rename World => v; have LBc0 := LB.c0; have LBc1 := LB.c1; have LBc2 := LB.c2; have LBc3 := LB.c3; have LBc4 := LB.c4; have LBc5 := LB.c5; have LBdg := LB.dg; have LBfz := LB.fz; have LBlt := LB.lt
  obtain ⟨b0, hb0⟩ : ∃ b0, w.heap.size = b0 := ⟨_, rfl⟩
  rw [hb0] at LB LBc0 LBc1 LBc2 LBc3 LBc4 LBc5 LBdg LBfz LBlt ⊢
  go_upto_region 6 with (first | (refine wpList_load_lay (b0) _ rfl rfl rfl LB ?_) | (go_at_call 26; with_reducible refine (CK _).mono ?_; rintro e v1 ⟨rfl, hb⟩; replace EX := Ext.trans EX hb; replace LB := LB.later hb; replace LBc0 := LB.c0; replace LBc1 := LB.c1; replace LBc2 := LB.c2; replace LBc3 := LB.c3; replace LBc4 := LB.c4; replace LBc5 := LB.c5; replace LBdg := LB.dg; replace LBfz := LB.fz; replace LBlt := LB.lt; clear hb v; rename World => v) | (go_at_call 27; with_reducible refine (SZ _).mono ?_; rintro e v1 ⟨rfl, hb⟩; replace EX := Ext.trans EX hb; replace LB := LB.later hb; replace LBc0 := LB.c0; replace LBc1 := LB.c1; replace LBc2 := LB.c2; replace LBc3 := LB.c3; replace LBc4 := LB.c4; replace LBc5 := LB.c5; replace LBdg := LB.dg; replace LBfz := LB.fz; replace LBlt := LB.lt; clear hb v; rename World => v))
  go_upto_region 10 with fail
  have hbits := bt_bits f
  go_loopg [7, 8] m (fun gk ov iv wr => ∃ (j z : Nat) (sv : Value), sv = ov ∧ j + gk = m ∧ z = sz * j ∧ iv = .int .i64 z ∧ Ext w wr ∧ Lm wr (b0) (L) ∧ Lst wr 63 7 sv j (fun j => rv (recAt fl c p n (bt f) (8 * (sz * j)))) ∧ ∀ b, sv.ownBlock = some b → b0 + 1 ≤ b)
  case atStart => exact ⟨0, 0, _, rfl, by omega, by simp, rfl, EX, LB, Lst.nil _ _ _ _, by simp [Value.ownBlock]⟩
  case round =>
    clear LBc0 LBc1 LBc2 LBc3 LBc4 LBc5 LBdg LBfz LBlt
    clear EX LB v
    obtain ⟨j, z, sv, rfl, hj, hz, rfl, EX, LB, SL, hnew⟩ := hrel
    obtain ⟨v, hv⟩ : ∃ v, v = wr := ⟨_, rfl⟩
    subst hv
    have LBc0 := LB.c0; have LBc1 := LB.c1; have LBc2 := LB.c2; have LBc3 := LB.c3; have LBc4 := LB.c4; have LBc5 := LB.c5; have LBdg := LB.dg; have LBfz := LB.fz; have LBlt := LB.lt
    obtain ⟨gko, hgko⟩ : ∃ x, x = gk := ⟨_, rfl⟩
    subst hgko
    by_cases hlt : j < m
    · have hzl : z + sz ≤ len := by
        have h1 : sz * (j + 1) ≤ sz * m := Nat.mul_le_mul_left sz (by omega)
        have := HL.out
        rw [Nat.mul_add] at h1
        omega
      have hzi : (z : Int) < (len : Int) := by omega
      have HZ : Hid (z = sz * j) := hz
      clear hz
      have hb8 := HV.out.b
      have f8 := HV.out.f8
      have c32 := HV.out.c1
      have p16 := HV.out.p1
      have n4 := HV.out.n1
      have hFb := u8_in hbits (8 * z) fl (by omega)
      have T0 : ∀ v, Ext w v → Calls Tryd.prog 28 #[.slice a len cap, .int .i64 (8 * (z : Int)), .int .i64 fl] v fun e w' => e = .returned (.tuple #[.int .u32 (nb (bt f) (8 * z) fl), .int .i64 (((8 * z + fl : Nat) : Nat) : Int)]) ∧ Ext v w' := fun v h => by
        have := take9_any a len cap (8 * z) fl f v (HB.out.later h) (by omega) (by omega) (by omega)
        push_cast at this ⊢
        exact this
      have T1 : ∀ v, Ext w v → Calls Tryd.prog 28 #[.slice a len cap, .int .i64 ((8 * z + fl : Nat) : Int), .int .i64 c] v fun e w' => e = .returned (.tuple #[.int .u32 (nb (bt f) (8 * z + fl) c), .int .i64 ((8 * z + fl + c : Nat) : Int)]) ∧ Ext v w' := fun v h => by
        have := take9_any a len cap (8 * z + fl) c f v (HB.out.later h) (by omega) (by omega) (by omega)
        rw [Int.natCast_add (8 * z + fl) c]
        exact this
      have T2 : ∀ v, Ext w v → Calls Tryd.prog 28 #[.slice a len cap, .int .i64 ((8 * z + fl + c : Nat) : Int), .int .i64 c] v fun e w' => e = .returned (.tuple #[.int .u32 (nb (bt f) (8 * z + fl + c) c), .int .i64 ((8 * z + fl + c + c : Nat) : Int)]) ∧ Ext v w' := fun v h => by
        have := take9_any a len cap (8 * z + fl + c) c f v (HB.out.later h) (by omega) (by omega) (by omega)
        rw [Int.natCast_add (8 * z + fl + c) c]
        exact this
      have T3 : Hid (∀ (k : Nat) v, k < n → Ext w v → Calls Tryd.prog 28 #[.slice a len cap, .int .i64 ((8 * z + fl + c + c + k * p : Nat) : Int), .int .i64 p] v fun e w' => e = .returned (.tuple #[.int .u32 (nb (bt f) (8 * z + fl + c + c + k * p) p), .int .i64 ((8 * z + fl + c + c + (k + 1) * p : Nat) : Int)]) ∧ Ext v w') := fun k v hk h => by
        have h1 : (k + 1) * p ≤ n * p := Nat.mul_le_mul_right p (by omega)
        rw [Nat.add_mul, Nat.one_mul] at h1 ⊢
        have := take9_any a len cap (8 * z + fl + c + c + k * p) p f v (HB.out.later h) (by omega) (by omega) (by omega)
        rw [← Nat.add_assoc, Int.natCast_add (8 * z + fl + c + c + k * p) p]
        exact this
      have HR : Hid (∀ F X Y (C : Nat → Int), F = nb (bt f) (8 * z) fl → X = nb (bt f) (8 * z + fl) c → Y = nb (bt f) (8 * z + fl + c) c → (∀ i, C i = if i < n then nb (bt f) (8 * z + fl + c + c + i * p) p else 0) → rv ⟨F, X, Y, C⟩ = rv (recAt fl c p n (bt f) (8 * (sz * j)))) := fun F X Y C h1 h2 h3 h4 => by
        unfold recAt
        rw [← HZ.out, h1, h2, h3, show C = _ from funext h4]
      have HC : Hid (∀ k, 0 ≤ nb (bt f) (8 * z + fl + c + c + k * p) p ∧ nb (bt f) (8 * z + fl + c + c + k * p) p < 65536) := fun k => u16_in hbits _ _ (by omega)
      obtain ⟨q1, hq1⟩ : ∃ q, 8 * z + fl = q := ⟨_, rfl⟩
      obtain ⟨q2, hq2⟩ : ∃ q, q1 + c = q := ⟨_, rfl⟩
      obtain ⟨q3, hq3⟩ : ∃ q, q2 + c = q := ⟨_, rfl⟩
      rw [hq1] at T0 T1 T2 T3 HR HC
      rw [hq2] at T1 T2 T3 HR HC
      rw [hq3] at T2 T3 HR HC
      obtain ⟨F, hF⟩ : ∃ F, nb (bt f) (8 * z) fl = F := ⟨_, rfl⟩
      obtain ⟨X, hX⟩ : ∃ X, nb (bt f) q1 c = X := ⟨_, rfl⟩
      obtain ⟨Y, hY⟩ : ∃ Y, nb (bt f) q2 c = Y := ⟨_, rfl⟩
      rw [hF] at T0 HR hFb
      rw [hX] at T1 HR
      rw [hY] at T2 HR
      have hF8 : F % 256 = F := by omega
      clear hq1 hq2 hq3 hF hX hY hFb hzl hb8 f8
      go_upto_region 13 with fail
      have NS := fun b (h : sv.ownBlock = some b) => SL.heap h
      go_upto_region 14 with fail
      refine rebase (G := fun w' => Code.wp _ _ _ _ w') _ (fun v1 => Ext w v1 ∧ Lm v1 (b0) (L) ∧ S7m v1 (v.heap.size) (.int .u8 (0)) (.int .u32 (0)) (.int .u32 (0)) (.int .u16 0) (.int .u16 0) (.int .u16 0) (.int .u16 0) ∧ Lst v1 63 7 sv j (fun j => rv (recAt fl c p n (bt f) (8 * (sz * j))))) ⟨by repeat (first | with_reducible exact EX |  with_reducible refine Ext.alloc ?_ _ | with_reducible refine Ext.drew ?_ | with_reducible refine Ext.drewN ?_ _ | with_reducible refine Ext.setCell ?_ (by first | (simp; done) | omega | (dsimp only; omega)) _), by repeat (first | with_reducible assumption | with_reducible refine Lm.drew ?_ | with_reducible refine Lm.drewN ?_ _ | (with_reducible refine Lm.skip ?_ ?_; focus (first | omega | (simp; done))) | with_reducible refine Lm.set0 ?_ _ | with_reducible refine Lm.set4 ?_ _ | with_reducible refine Lm.set5 ?_ _ | with_reducible refine Lm.setk ?_ _ (by decide) | (with_reducible refine Lm.cells1 ?_; exact ⟨_, by with_reducible assumption⟩) | (with_reducible refine Lm.skips ?_ _ _ ?_; focus (first | omega | (simp; done))) | (with_reducible refine Lm.new ?_ <;> first | rfl | (simp; done)) | (with_reducible refine Lm.fresh ?_ ?_ <;> first | rfl | (simp; done)) | with_reducible refine Lm.alloc ?_ _), by repeat (first | with_reducible assumption | with_reducible refine S7m.drew ?_ | with_reducible refine S7m.drewN ?_ _ | (with_reducible refine S7m.skip ?_ ?_; focus (first | omega | (simp; done))) | with_reducible refine S7m.store ?_ | with_reducible apply S7m.set0 | with_reducible apply S7m.set1 | with_reducible apply S7m.set2 | with_reducible apply S7m.set3 | with_reducible apply S7m.set4 | with_reducible apply S7m.set5 | with_reducible apply S7m.set6 | with_reducible refine S7m.new (by first | rfl | (simp; done) | with_unfolding_all rfl) (by with_unfolding_all rfl) (by with_unfolding_all rfl) (by with_unfolding_all rfl) (by with_unfolding_all rfl) (by with_unfolding_all rfl) (by with_unfolding_all rfl) (by with_unfolding_all rfl) | with_reducible refine S7m.alloc ?_ _ | exact S7m.any (by with_reducible assumption) | with_reducible refine S7mAny.drew ?_ | with_reducible refine S7mAny.drewN ?_ _ | (with_reducible refine S7mAny.skip ?_ ?_; focus (first | omega | (simp; done))) | with_reducible refine S7mAny.alloc ?_ _), by (repeat (first | with_reducible assumption | with_reducible refine Lst.skip ?_ (fun h => absurd (NS _ h) (by simp)) _ | with_reducible refine Lst.later ?_ (Ext.alloc (Ext.refl _) _)))⟩ ?_; have qLB := LB.lt; have qw := EX.more; clear LBc0 LBc1 LBc2 LBc3 LBc4 LBc5 LBdg LBfz LBlt; clear EX LB SL; rintro v1 ⟨EX, LB, XB, SL⟩; obtain ⟨b1, hb1⟩ : ∃ b, v.heap.size = b := ⟨_, rfl⟩; rw [hb1] at qLB qw NS XB ⊢; clear hb1; clear v; rename World => v; have LBc0 := LB.c0; have LBc1 := LB.c1; have LBc2 := LB.c2; have LBc3 := LB.c3; have LBc4 := LB.c4; have LBc5 := LB.c5; have LBdg := LB.dg; have LBfz := LB.fz; have LBlt := LB.lt; have XBc0 := XB.c0; have XBc1 := XB.c1; have XBc2 := XB.c2; have XBc3 := XB.c3; have XBc4 := XB.c4; have XBc5 := XB.c5; have XBc6 := XB.c6; have XBfz := XB.fz; have XBlt := XB.lt
      have NX : sv.ownBlock ≠ some b1 := fun h => by have := NS b1 h; omega
      have hb1 : b0 + 1 ≤ b1 := by omega
      clear NS
      go_upto_region 17 with (first | (refine wpList_load_lay (b0) _ rfl rfl rfl LB ?_) | (go_at_call 29; with_reducible refine (FG _).mono ?_; rintro e v1 ⟨rfl, hb⟩; replace EX := Ext.trans EX hb; replace LB := LB.later hb; replace XB := XB.later hb; replace LBc0 := LB.c0; replace LBc1 := LB.c1; replace LBc2 := LB.c2; replace LBc3 := LB.c3; replace LBc4 := LB.c4; replace LBc5 := LB.c5; replace LBdg := LB.dg; replace LBfz := LB.fz; replace LBlt := LB.lt; replace XBc0 := XB.c0; replace XBc1 := XB.c1; replace XBc2 := XB.c2; replace XBc3 := XB.c3; replace XBc4 := XB.c4; replace XBc5 := XB.c5; replace XBc6 := XB.c6; replace XBfz := XB.fz; replace XBlt := XB.lt; replace SL := SL.later hb; clear hb v; rename World => v) | (go_at_call 28; with_reducible refine (T0 _ EX).mono ?_; rintro e v1 ⟨rfl, hb⟩; replace EX := Ext.trans EX hb; replace LB := LB.later hb; replace XB := XB.later hb; replace LBc0 := LB.c0; replace LBc1 := LB.c1; replace LBc2 := LB.c2; replace LBc3 := LB.c3; replace LBc4 := LB.c4; replace LBc5 := LB.c5; replace LBdg := LB.dg; replace LBfz := LB.fz; replace LBlt := LB.lt; replace XBc0 := XB.c0; replace XBc1 := XB.c1; replace XBc2 := XB.c2; replace XBc3 := XB.c3; replace XBc4 := XB.c4; replace XBc5 := XB.c5; replace XBc6 := XB.c6; replace XBfz := XB.fz; replace XBlt := XB.lt; replace SL := SL.later hb; clear hb v; rename World => v))
      refine rebase (G := fun w' => Code.wp _ _ _ _ w') _ (fun v1 => Ext w v1 ∧ Lm v1 (b0) (L) ∧ S7m v1 (b1) (.int .u8 (F)) (.int .u32 (0)) (.int .u32 (0)) (.int .u16 0) (.int .u16 0) (.int .u16 0) (.int .u16 0) ∧ Lst v1 63 7 sv j (fun j => rv (recAt fl c p n (bt f) (8 * (sz * j))))) ⟨by repeat (first | with_reducible exact EX |  with_reducible refine Ext.alloc ?_ _ | with_reducible refine Ext.drew ?_ | with_reducible refine Ext.drewN ?_ _ | with_reducible refine Ext.setCell ?_ (by first | (simp; done) | omega | (dsimp only; omega)) _), by repeat (first | with_reducible assumption | with_reducible refine Lm.drew ?_ | with_reducible refine Lm.drewN ?_ _ | (with_reducible refine Lm.skip ?_ ?_; focus (first | omega | (simp; done))) | with_reducible refine Lm.set0 ?_ _ | with_reducible refine Lm.set4 ?_ _ | with_reducible refine Lm.set5 ?_ _ | with_reducible refine Lm.setk ?_ _ (by decide) | (with_reducible refine Lm.cells1 ?_; exact ⟨_, by with_reducible assumption⟩) | (with_reducible refine Lm.skips ?_ _ _ ?_; focus (first | omega | (simp; done))) | (with_reducible refine Lm.new ?_ <;> first | rfl | (simp; done)) | (with_reducible refine Lm.fresh ?_ ?_ <;> first | rfl | (simp; done)) | with_reducible refine Lm.alloc ?_ _), by repeat (first | with_reducible assumption | with_reducible refine S7m.drew ?_ | with_reducible refine S7m.drewN ?_ _ | (with_reducible refine S7m.skip ?_ ?_; focus (first | omega | (simp; done))) | with_reducible refine S7m.store ?_ | with_reducible apply S7m.set0 | with_reducible apply S7m.set1 | with_reducible apply S7m.set2 | with_reducible apply S7m.set3 | with_reducible apply S7m.set4 | with_reducible apply S7m.set5 | with_reducible apply S7m.set6 | with_reducible refine S7m.new (by first | rfl | (simp; done) | with_unfolding_all rfl) (by with_unfolding_all rfl) (by with_unfolding_all rfl) (by with_unfolding_all rfl) (by with_unfolding_all rfl) (by with_unfolding_all rfl) (by with_unfolding_all rfl) (by with_unfolding_all rfl) | with_reducible refine S7m.alloc ?_ _ | exact S7m.any (by with_reducible assumption) | with_reducible refine S7mAny.drew ?_ | with_reducible refine S7mAny.drewN ?_ _ | (with_reducible refine S7mAny.skip ?_ ?_; focus (first | omega | (simp; done))) | with_reducible refine S7mAny.alloc ?_ _), by (repeat (first | with_reducible assumption | with_reducible refine Lst.skip ?_ NX _))⟩ ?_; clear LBc0 LBc1 LBc2 LBc3 LBc4 LBc5 LBdg LBfz LBlt XBc0 XBc1 XBc2 XBc3 XBc4 XBc5 XBc6 XBfz XBlt; clear EX LB XB SL; rintro v1 ⟨EX, LB, XB, SL⟩; clear v; rename World => v; have LBc0 := LB.c0; have LBc1 := LB.c1; have LBc2 := LB.c2; have LBc3 := LB.c3; have LBc4 := LB.c4; have LBc5 := LB.c5; have LBdg := LB.dg; have LBfz := LB.fz; have LBlt := LB.lt; have XBc0 := XB.c0; have XBc1 := XB.c1; have XBc2 := XB.c2; have XBc3 := XB.c3; have XBc4 := XB.c4; have XBc5 := XB.c5; have XBc6 := XB.c6; have XBfz := XB.fz; have XBlt := XB.lt
      
      go_upto_region 18 with (first | (go_at_call 28; with_reducible refine (T1 _ EX).mono ?_; rintro e v1 ⟨rfl, hb⟩; replace EX := Ext.trans EX hb; replace LB := LB.later hb; replace XB := XB.later hb; replace LBc0 := LB.c0; replace LBc1 := LB.c1; replace LBc2 := LB.c2; replace LBc3 := LB.c3; replace LBc4 := LB.c4; replace LBc5 := LB.c5; replace LBdg := LB.dg; replace LBfz := LB.fz; replace LBlt := LB.lt; replace XBc0 := XB.c0; replace XBc1 := XB.c1; replace XBc2 := XB.c2; replace XBc3 := XB.c3; replace XBc4 := XB.c4; replace XBc5 := XB.c5; replace XBc6 := XB.c6; replace XBfz := XB.fz; replace XBlt := XB.lt; replace SL := SL.later hb; clear hb v; rename World => v))
      refine rebase (G := fun w' => Code.wp _ _ _ _ w') _ (fun v1 => Ext w v1 ∧ Lm v1 (b0) (L) ∧ S7m v1 (b1) (.int .u8 (F)) (.int .u32 (X)) (.int .u32 (0)) (.int .u16 0) (.int .u16 0) (.int .u16 0) (.int .u16 0) ∧ Lst v1 63 7 sv j (fun j => rv (recAt fl c p n (bt f) (8 * (sz * j))))) ⟨by repeat (first | with_reducible exact EX |  with_reducible refine Ext.alloc ?_ _ | with_reducible refine Ext.drew ?_ | with_reducible refine Ext.drewN ?_ _ | with_reducible refine Ext.setCell ?_ (by first | (simp; done) | omega | (dsimp only; omega)) _), by repeat (first | with_reducible assumption | with_reducible refine Lm.drew ?_ | with_reducible refine Lm.drewN ?_ _ | (with_reducible refine Lm.skip ?_ ?_; focus (first | omega | (simp; done))) | with_reducible refine Lm.set0 ?_ _ | with_reducible refine Lm.set4 ?_ _ | with_reducible refine Lm.set5 ?_ _ | with_reducible refine Lm.setk ?_ _ (by decide) | (with_reducible refine Lm.cells1 ?_; exact ⟨_, by with_reducible assumption⟩) | (with_reducible refine Lm.skips ?_ _ _ ?_; focus (first | omega | (simp; done))) | (with_reducible refine Lm.new ?_ <;> first | rfl | (simp; done)) | (with_reducible refine Lm.fresh ?_ ?_ <;> first | rfl | (simp; done)) | with_reducible refine Lm.alloc ?_ _), by repeat (first | with_reducible assumption | with_reducible refine S7m.drew ?_ | with_reducible refine S7m.drewN ?_ _ | (with_reducible refine S7m.skip ?_ ?_; focus (first | omega | (simp; done))) | with_reducible refine S7m.store ?_ | with_reducible apply S7m.set0 | with_reducible apply S7m.set1 | with_reducible apply S7m.set2 | with_reducible apply S7m.set3 | with_reducible apply S7m.set4 | with_reducible apply S7m.set5 | with_reducible apply S7m.set6 | with_reducible refine S7m.new (by first | rfl | (simp; done) | with_unfolding_all rfl) (by with_unfolding_all rfl) (by with_unfolding_all rfl) (by with_unfolding_all rfl) (by with_unfolding_all rfl) (by with_unfolding_all rfl) (by with_unfolding_all rfl) (by with_unfolding_all rfl) | with_reducible refine S7m.alloc ?_ _ | exact S7m.any (by with_reducible assumption) | with_reducible refine S7mAny.drew ?_ | with_reducible refine S7mAny.drewN ?_ _ | (with_reducible refine S7mAny.skip ?_ ?_; focus (first | omega | (simp; done))) | with_reducible refine S7mAny.alloc ?_ _), by (repeat (first | with_reducible assumption | with_reducible refine Lst.skip ?_ NX _))⟩ ?_; clear LBc0 LBc1 LBc2 LBc3 LBc4 LBc5 LBdg LBfz LBlt XBc0 XBc1 XBc2 XBc3 XBc4 XBc5 XBc6 XBfz XBlt; clear EX LB XB SL; rintro v1 ⟨EX, LB, XB, SL⟩; clear v; rename World => v; have LBc0 := LB.c0; have LBc1 := LB.c1; have LBc2 := LB.c2; have LBc3 := LB.c3; have LBc4 := LB.c4; have LBc5 := LB.c5; have LBdg := LB.dg; have LBfz := LB.fz; have LBlt := LB.lt; have XBc0 := XB.c0; have XBc1 := XB.c1; have XBc2 := XB.c2; have XBc3 := XB.c3; have XBc4 := XB.c4; have XBc5 := XB.c5; have XBc6 := XB.c6; have XBfz := XB.fz; have XBlt := XB.lt
      go_upto_region 19 with (first | (go_at_call 28; with_reducible refine (T2 _ EX).mono ?_; rintro e v1 ⟨rfl, hb⟩; replace EX := Ext.trans EX hb; replace LB := LB.later hb; replace XB := XB.later hb; replace LBc0 := LB.c0; replace LBc1 := LB.c1; replace LBc2 := LB.c2; replace LBc3 := LB.c3; replace LBc4 := LB.c4; replace LBc5 := LB.c5; replace LBdg := LB.dg; replace LBfz := LB.fz; replace LBlt := LB.lt; replace XBc0 := XB.c0; replace XBc1 := XB.c1; replace XBc2 := XB.c2; replace XBc3 := XB.c3; replace XBc4 := XB.c4; replace XBc5 := XB.c5; replace XBc6 := XB.c6; replace XBfz := XB.fz; replace XBlt := XB.lt; replace SL := SL.later hb; clear hb v; rename World => v))
      refine rebase (G := fun w' => Code.wp _ _ _ _ w') _ (fun v1 => Ext w v1 ∧ Lm v1 (b0) (L) ∧ S7m v1 (b1) (.int .u8 (F)) (.int .u32 (X)) (.int .u32 (Y)) (.int .u16 0) (.int .u16 0) (.int .u16 0) (.int .u16 0) ∧ Lst v1 63 7 sv j (fun j => rv (recAt fl c p n (bt f) (8 * (sz * j))))) ⟨by repeat (first | with_reducible exact EX |  with_reducible refine Ext.alloc ?_ _ | with_reducible refine Ext.drew ?_ | with_reducible refine Ext.drewN ?_ _ | with_reducible refine Ext.setCell ?_ (by first | (simp; done) | omega | (dsimp only; omega)) _), by repeat (first | with_reducible assumption | with_reducible refine Lm.drew ?_ | with_reducible refine Lm.drewN ?_ _ | (with_reducible refine Lm.skip ?_ ?_; focus (first | omega | (simp; done))) | with_reducible refine Lm.set0 ?_ _ | with_reducible refine Lm.set4 ?_ _ | with_reducible refine Lm.set5 ?_ _ | with_reducible refine Lm.setk ?_ _ (by decide) | (with_reducible refine Lm.cells1 ?_; exact ⟨_, by with_reducible assumption⟩) | (with_reducible refine Lm.skips ?_ _ _ ?_; focus (first | omega | (simp; done))) | (with_reducible refine Lm.new ?_ <;> first | rfl | (simp; done)) | (with_reducible refine Lm.fresh ?_ ?_ <;> first | rfl | (simp; done)) | with_reducible refine Lm.alloc ?_ _), by repeat (first | with_reducible assumption | with_reducible refine S7m.drew ?_ | with_reducible refine S7m.drewN ?_ _ | (with_reducible refine S7m.skip ?_ ?_; focus (first | omega | (simp; done))) | with_reducible refine S7m.store ?_ | with_reducible apply S7m.set0 | with_reducible apply S7m.set1 | with_reducible apply S7m.set2 | with_reducible apply S7m.set3 | with_reducible apply S7m.set4 | with_reducible apply S7m.set5 | with_reducible apply S7m.set6 | with_reducible refine S7m.new (by first | rfl | (simp; done) | with_unfolding_all rfl) (by with_unfolding_all rfl) (by with_unfolding_all rfl) (by with_unfolding_all rfl) (by with_unfolding_all rfl) (by with_unfolding_all rfl) (by with_unfolding_all rfl) (by with_unfolding_all rfl) | with_reducible refine S7m.alloc ?_ _ | exact S7m.any (by with_reducible assumption) | with_reducible refine S7mAny.drew ?_ | with_reducible refine S7mAny.drewN ?_ _ | (with_reducible refine S7mAny.skip ?_ ?_; focus (first | omega | (simp; done))) | with_reducible refine S7mAny.alloc ?_ _), by (repeat (first | with_reducible assumption | with_reducible refine Lst.skip ?_ NX _))⟩ ?_; clear LBc0 LBc1 LBc2 LBc3 LBc4 LBc5 LBdg LBfz LBlt XBc0 XBc1 XBc2 XBc3 XBc4 XBc5 XBc6 XBfz XBlt; clear EX LB XB SL; rintro v1 ⟨EX, LB, XB, SL⟩; clear v; rename World => v; have LBc0 := LB.c0; have LBc1 := LB.c1; have LBc2 := LB.c2; have LBc3 := LB.c3; have LBc4 := LB.c4; have LBc5 := LB.c5; have LBdg := LB.dg; have LBfz := LB.fz; have LBlt := LB.lt; have XBc0 := XB.c0; have XBc1 := XB.c1; have XBc2 := XB.c2; have XBc3 := XB.c3; have XBc4 := XB.c4; have XBc5 := XB.c5; have XBc6 := XB.c6; have XBfz := XB.fz; have XBlt := XB.lt
      have VX := XB.vm9
      clear T0 T1 T2 hF8
      clear XBc0 XBc1 XBc2 XBc3 XBc4 XBc5 XBc6 XBfz XBlt
      clear XB
      go_upto_region 20 with fail
      go_loopg [9, 12] n (fun gk av iv wr => ∃ (k : Nat) (C : Nat → Int), k + gk = n ∧ av = .int .i64 ((q3 + k * p : Nat) : Int) ∧ iv = .int .i64 k ∧ Ext w wr ∧ Lm wr (b0) (L) ∧ Vm wr b1 7 (rv ⟨F, X, Y, C⟩) ∧ Hid (∀ i, C i = if i < k then nb (bt f) (q3 + i * p) p else 0) ∧ Lst wr 63 7 sv j (fun j => rv (recAt fl c p n (bt f) (8 * (sz * j)))))
      case atStart => exact ⟨0, fun _ => 0, by omega, by simp, rfl, EX, LB, VX, fun i => by rw [if_neg (by omega)], SL⟩
      case round =>
        clear LBc0 LBc1 LBc2 LBc3 LBc4 LBc5 LBdg LBfz LBlt
        clear EX LB VX SL v
        obtain ⟨k, C, hk, rfl, rfl, EX, LB, VX, HK, SL⟩ := hrel
        obtain ⟨v, hv⟩ : ∃ v, v = wr := ⟨_, rfl⟩
        subst hv
        have LBc0 := LB.c0; have LBc1 := LB.c1; have LBc2 := LB.c2; have LBc3 := LB.c3; have LBc4 := LB.c4; have LBc5 := LB.c5; have LBdg := LB.dg; have LBfz := LB.fz; have LBlt := LB.lt
        by_cases hkn : k < n
        · have hki : (k : Int) < (n : Int) := by omega
          have hk4 : (k : Int) < 4 := by omega
          have hk4' : k < 4 := by omega
          have T4 := fun v (h : Ext w v) => T3.out k v hkn h
          have z16 := HC.out k
          obtain ⟨y, hy⟩ : ∃ y, nb (bt f) (q3 + k * p) p = y := ⟨_, rfl⟩
          rw [hy] at T4 z16
          have hy16 : y % 65536 = y := by omega
          have HY : Hid (nb (bt f) (q3 + k * p) p = y) := hy
          clear hy
          obtain ⟨A, hA⟩ : ∃ A, q3 + k * p = A := ⟨_, rfl⟩
          obtain ⟨A', hA'⟩ : ∃ A, q3 + (k + 1) * p = A := ⟨_, rfl⟩
          rw [hA, hA'] at T4
          rw [hA]
          have HA' : Hid (q3 + (k + 1) * p = A') := hA'
          clear hA hA'
          go_upto_region 23 with (first | (go_at_call 28; with_reducible refine (T4 _ EX).mono ?_; rintro e v1 ⟨rfl, hb⟩; replace EX := Ext.trans EX hb; replace LB := LB.later hb; replace LBc0 := LB.c0; replace LBc1 := LB.c1; replace LBc2 := LB.c2; replace LBc3 := LB.c3; replace LBc4 := LB.c4; replace LBc5 := LB.c5; replace LBdg := LB.dg; replace LBfz := LB.fz; replace LBlt := LB.lt; replace SL := SL.later hb; replace VX := VX.later hb; clear hb v; rename World => v))
          have fX := VX.fz (3 + k)
          have cX := VX.dg (3 + k) (by omega)
          have lX := VX.lt
          have NX2 : Hid (sv.ownBlock ≠ some b1) := NX
          go_wp2
          go_roundg (gk - 1)
          case measure => omega
          case rel =>
            refine ⟨k + 1, fun i => if i = k then y else C i, by omega, by rw [HA'.out], by go_num, by repeat (first | with_reducible exact EX |  with_reducible refine Ext.alloc ?_ _ | with_reducible refine Ext.drew ?_ | with_reducible refine Ext.drewN ?_ _ | with_reducible refine Ext.setCell ?_ (by first | (simp; done) | omega | (dsimp only; omega)) _), ?_, VX.col, fun i => ?_, SL.skip NX _⟩
            · exact LB.skip (by omega)
            · show (if i = k then y else C i) = _
              by_cases e : i = k
              · rw [if_pos e, if_pos (by omega), e, HY.out]
              · rw [if_neg e, HK.out i]
                by_cases e2 : i < k
                · rw [if_pos e2, if_pos (by omega)]
                · rw [if_neg e2, if_neg (by omega)]
        · have hki : ¬ (k : Int) < (n : Int) := by omega
          obtain rfl : k = n := by omega
          have hRV := HR.out F X Y C rfl rfl rfl HK.out
          obtain ⟨R, hR⟩ : ∃ R : Rcd, ⟨F, X, Y, C⟩ = R := ⟨_, rfl⟩
          rw [hR] at VX hRV
          have hone := rv_one R
          have HRV : Hid (rv R = rv (recAt fl c p k (bt f) (8 * (sz * j)))) := hRV
          have RX : v.rangeAt b1 0 [rv R 0, rv R 1, rv R 2, rv R 3, rv R 4, rv R 5, rv R 6] := VX.range
          clear hR hRV HK HR
          generalize hg : rv R = g at *
          have hj32 : j ≤ 65536 := by
            have h1 := HL.out
            have h2 : 1 * m ≤ sz * m := Nat.mul_le_mul_right m (by omega)
            omega
          have ZS : Hid (z + sz = sz * (j + 1)) := by
            have := HZ.out
            show _ = _
            rw [Nat.mul_add, Nat.mul_one, this]
          have hne : sv.ownBlock ≠ some b0 := fun h => by have := hnew b0 h; omega
          have EA : Ext v (v.alloc (.cells #[g 0, g 1, g 2, g 3, g 4, g 5, g 6] 63)) := (Ext.refl v).alloc _
          have NB : ∀ j u, ([g 0, g 1, g 2, g 3, g 4, g 5, g 6] : List Value)[j]? = some u → (v.alloc (.cells #[g 0, g 1, g 2, g 3, g 4, g 5, g 6] 63)).cell? ((⟨v.heap.size, 0, none⟩ : Addr).add j) = some u := World.news_of_block (cs := #[g 0, g 1, g 2, g 3, g 4, g 5, g 6]) (t := 63) (fr := (0, 0)) (heap_alloc_new v _)
          have SL2 : (v.alloc (.cells #[g 0, g 1, g 2, g 3, g 4, g 5, g 6] 63)).ownsRow 0 63 7 sv j (ew 7 j (fun j => rv (recAt fl c p k (bt f) (8 * (sz * j))))) := SL.later EA
          go_wp2_with (first
            | (refine wpList_load_mid rfl 63 (.tmp 10) rfl b1 0 rfl [g 0, g 1, g 2, g 3, g 4, g 5, g 6] _ RX Tryd.underlying63 rfl (by kernel_rfl) ?_)
            | (at_builtin; refine wpList_append_lst _ (by rfl) _ _ _ (by rfl) 63 i0 _ 7 20 Tryd.underlying31 hi0 hz0 hz1 hz2 rfl (by omega) sv j _ (by rfl) SL2 ⟨v.heap.size, 0, none⟩ 1 1 [g 0, g 1, g 2, g 3, g 4, g 5, g 6] (by rfl) (by rfl) NB hone (by omega) (by unfold maxLen; omega) (by omega) ?_))
          intro gg cap' v1 own hat
          have HAT : Hid ((sv = .slice (some ⟨gg, 0, none⟩) j cap' ∧ (v.alloc (.cells #[g 0, g 1, g 2, g 3, g 4, g 5, g 6] 63)).grownBy v1 (some gg)) ∨ (v.heap.size + 1 ≤ gg ∧ (v.alloc (.cells #[g 0, g 1, g 2, g 3, g 4, g 5, g 6] 63)).grownBy v1 none)) := hat
          clear hat
          go_wp2
          have CH : Chg (fun b => sv.ownBlock = some b) v v1 := by
            refine (Chg.of EA).trans (T := fun b => sv.ownBlock = some b) ?_ (fun b hb => .inl hb)
            rcases HAT.out with ⟨h, h'⟩ | ⟨_, h'⟩
            · exact Chg.grown h' (fun b hb => by rw [h]; exact hb)
            · exact Chg.grown h' (fun b hb => by cases hb)
          have hx := CH.size
          go_roundg (gko - 1)
          case measure => omega
          case rel =>
            have own2 : Lst v1 63 7 (.slice (some ⟨gg, 0, none⟩) (j + 1) cap') (j + 1) (upe (fun j => rv (recAt fl c p k (bt f) (8 * (sz * j)))) j g) := Lst.snoc own
            refine ⟨j + 1, z + sz, _, rfl, by omega, ZS.out, by go_num, CH.over EX (fun b hb => by have := hnew b hb; have := EX.more; omega), (LB.vm.blk2 (CH.block b0 LBlt hne) hx).lm, own2.congr fun i t hi ht => ?_, fun b hb => ?_⟩
            · unfold upe
              by_cases e : i = j
              · rw [if_pos e, e, HRV.out]
              · rw [if_neg e]
            · simp only [Value.ownBlock, Option.some.injEq] at hb
              subst hb
              rcases HAT.out with ⟨h, _⟩ | ⟨h, _⟩
              · exact hnew gg (by rw [h]; rfl)
              · omega
    · have hzi : ¬ (z : Int) < (len : Int) := by
        have h1 := HL.out
        have : j = m := by omega
        subst this
        omega
      obtain rfl : j = m := by omega
      go_wp2
      go_ret2
      exact ⟨sv, rfl, EX, SL, fun b hb => by have := hnew b hb; omega⟩
end Go.Proofs.YtemcppakmcffgaaDoor

namespace Go.Proofs.YtemcppakmcffgaaDoor
open Go.RowKit Go.BigFrame
set_option linter.unusedSimpArgs false
set_option linter.unusedVariables false
/-- The error of Get; how many vertices it tells; which. -/
def gerr (L : Lay) (len : Nat) : Int := if vlay L = true then (if 65536 < len then 3 else if len % (lsize L 0).toNat = 0 then 0 else 5) else 4
def gcnt (L : Lay) (len : Nat) : Nat := if gerr L len = 0 then len / (lsize L 0).toNat else 0
def recL (L : Lay) (f : Nat → Int) (j : Nat) : Nat → Value := rv (recAt (flg L).toNat L.c.toNat L.p.toNat L.n.toNat (bt f) (8 * ((lsize L 0).toNat * j)))
/-- What Get answers. -/
def GotAll (L : Lay) (f : Nat → Int) (len : Nat) (w : World) (e : Ending) (w' : World) : Prop :=
  ∃ s, e = .returned (.tuple #[s, .int .i64 (gerr L len)]) ∧ Ext w w' ∧ Lst w' 63 7 s (gcnt L len) (recL L f) ∧ ∀ b, s.ownBlock = some b → w.heap.size ≤ b

theorem rget9_form (L : Lay) (hv : vlay L = false) (a : Option Addr) (len cap : Nat) (w : World) :
    Calls Tryd.prog 11 #[(.agg (lv (L))), .slice a len cap] w fun e w' => e = .returned (.tuple #[.slice none 0 0, .int .i64 4]) ∧ Ext w w' := by
  have EX := Ext.refl w
  have CK := fun v => rcheck9_any L v
  rw [hv] at CK
  go_enter Tryd.func11, Tryd.ntmps11
  go_upto_region 1 with fail
  refine rebase (G := fun w' => Code.wp _ _ _ _ w') _ (fun v1 => Ext w v1 ∧ Lm v1 (w.heap.size) (L)) ⟨by repeat (first | with_reducible exact EX |  with_reducible refine Ext.alloc ?_ _ | with_reducible refine Ext.drew ?_ | with_reducible refine Ext.drewN ?_ _ | with_reducible refine Ext.setCell ?_ (by first | (simp; done) | omega | (dsimp only; omega)) _), by repeat (first | with_reducible assumption | with_reducible refine Lm.drew ?_ | with_reducible refine Lm.drewN ?_ _ | (with_reducible refine Lm.skip ?_ ?_; focus (first | omega | (simp; done))) | with_reducible refine Lm.set0 ?_ _ | with_reducible refine Lm.set4 ?_ _ | with_reducible refine Lm.set5 ?_ _ | with_reducible refine Lm.setk ?_ _ (by decide) | (with_reducible refine Lm.cells1 ?_; exact ⟨_, by with_reducible assumption⟩) | (with_reducible refine Lm.skips ?_ _ _ ?_; focus (first | omega | (simp; done))) | (with_reducible refine Lm.new ?_ <;> first | rfl | (simp; done)) | (with_reducible refine Lm.fresh ?_ ?_ <;> first | rfl | (simp; done)) | with_reducible refine Lm.alloc ?_ _)⟩ ?_; clear EX ; rintro v1 ⟨EX, LB⟩; rename World => v; have LBc0 := LB.c0; have LBc1 := LB.c1; have LBc2 := LB.c2; have LBc3 := LB.c3; have LBc4 := LB.c4; have LBc5 := LB.c5; have LBdg := LB.dg; have LBfz := LB.fz; have LBlt := LB.lt
  go_wp2_with (first | (refine wpList_load_lay (w.heap.size) _ rfl rfl rfl LB ?_) | (go_at_call 26; with_reducible refine (CK _).mono ?_; rintro e v1 ⟨rfl, hb⟩; replace EX := Ext.trans EX hb; replace LB := LB.later hb; replace LBc0 := LB.c0; replace LBc1 := LB.c1; replace LBc2 := LB.c2; replace LBc3 := LB.c3; replace LBc4 := LB.c4; replace LBc5 := LB.c5; replace LBdg := LB.dg; replace LBfz := LB.fz; replace LBlt := LB.lt; clear hb v; rename World => v))
  go_ret2
  exact ⟨rfl, EX⟩
theorem rget9_limit (L : Lay) (hv : vlay L = true) (a : Option Addr) (len cap : Nat) (h : 65536 < len) (w : World) :
    Calls Tryd.prog 11 #[(.agg (lv (L))), .slice a len cap] w fun e w' => e = .returned (.tuple #[.slice none 0 0, .int .i64 3]) ∧ Ext w w' := by
  have EX := Ext.refl w
  have CK := fun v => rcheck9_any L v
  rw [hv] at CK
  have hbig : (65536 : Int) < (len : Int) := by omega
  go_enter Tryd.func11, Tryd.ntmps11
  go_upto_region 1 with fail
  refine rebase (G := fun w' => Code.wp _ _ _ _ w') _ (fun v1 => Ext w v1 ∧ Lm v1 (w.heap.size) (L)) ⟨by repeat (first | with_reducible exact EX |  with_reducible refine Ext.alloc ?_ _ | with_reducible refine Ext.drew ?_ | with_reducible refine Ext.drewN ?_ _ | with_reducible refine Ext.setCell ?_ (by first | (simp; done) | omega | (dsimp only; omega)) _), by repeat (first | with_reducible assumption | with_reducible refine Lm.drew ?_ | with_reducible refine Lm.drewN ?_ _ | (with_reducible refine Lm.skip ?_ ?_; focus (first | omega | (simp; done))) | with_reducible refine Lm.set0 ?_ _ | with_reducible refine Lm.set4 ?_ _ | with_reducible refine Lm.set5 ?_ _ | with_reducible refine Lm.setk ?_ _ (by decide) | (with_reducible refine Lm.cells1 ?_; exact ⟨_, by with_reducible assumption⟩) | (with_reducible refine Lm.skips ?_ _ _ ?_; focus (first | omega | (simp; done))) | (with_reducible refine Lm.new ?_ <;> first | rfl | (simp; done)) | (with_reducible refine Lm.fresh ?_ ?_ <;> first | rfl | (simp; done)) | with_reducible refine Lm.alloc ?_ _)⟩ ?_; clear EX ; rintro v1 ⟨EX, LB⟩; rename World => v; have LBc0 := LB.c0; have LBc1 := LB.c1; have LBc2 := LB.c2; have LBc3 := LB.c3; have LBc4 := LB.c4; have LBc5 := LB.c5; have LBdg := LB.dg; have LBfz := LB.fz; have LBlt := LB.lt
  go_wp2_with (first | (refine wpList_load_lay (w.heap.size) _ rfl rfl rfl LB ?_) | (go_at_call 26; with_reducible refine (CK _).mono ?_; rintro e v1 ⟨rfl, hb⟩; replace EX := Ext.trans EX hb; replace LB := LB.later hb; replace LBc0 := LB.c0; replace LBc1 := LB.c1; replace LBc2 := LB.c2; replace LBc3 := LB.c3; replace LBc4 := LB.c4; replace LBc5 := LB.c5; replace LBdg := LB.dg; replace LBfz := LB.fz; replace LBlt := LB.lt; clear hb v; rename World => v))
  go_ret2
  exact ⟨rfl, EX⟩
theorem rget9_short (L : Lay) (fl c p n sz : Nat) (V : Vl L fl c p n sz) (a : Option Addr) (len cap : Nat) (h : ¬ 65536 < len) (hm : len % sz ≠ 0) (w : World) :
    Calls Tryd.prog 11 #[(.agg (lv (L))), .slice a len cap] w fun e w' => e = .returned (.tuple #[.slice none 0 0, .int .i64 5]) ∧ Ext w w' := by
  have EX := Ext.refl w
  have CK := fun v => rcheck9_any L v
  rw [V.may] at CK
  have SZ := fun v => rsize_any L 0 (by decide) v
  rw [V.es] at SZ
  have sz1 := V.s1
  have hbig : ¬ (65536 : Int) < (len : Int) := by omega
  have hmod : ((len : Int) % (sz : Int) != 0) = true := by
    have : ((len : Int) % (sz : Int)) = ((len % sz : Nat) : Int) := by push_cast; rfl
    rw [this]; simp; omega
  have hsz0 : ¬ (sz : Int) = 0 := by omega
  have szp : (0 : Int) < sz := by omega
  clear V hm
  go_enter Tryd.func11, Tryd.ntmps11
  go_upto_region 1 with fail
  refine rebase (G := fun w' => Code.wp _ _ _ _ w') _ (fun v1 => Ext w v1 ∧ Lm v1 (w.heap.size) (L)) ⟨by repeat (first | with_reducible exact EX |  with_reducible refine Ext.alloc ?_ _ | with_reducible refine Ext.drew ?_ | with_reducible refine Ext.drewN ?_ _ | with_reducible refine Ext.setCell ?_ (by first | (simp; done) | omega | (dsimp only; omega)) _), by repeat (first | with_reducible assumption | with_reducible refine Lm.drew ?_ | with_reducible refine Lm.drewN ?_ _ | (with_reducible refine Lm.skip ?_ ?_; focus (first | omega | (simp; done))) | with_reducible refine Lm.set0 ?_ _ | with_reducible refine Lm.set4 ?_ _ | with_reducible refine Lm.set5 ?_ _ | with_reducible refine Lm.setk ?_ _ (by decide) | (with_reducible refine Lm.cells1 ?_; exact ⟨_, by with_reducible assumption⟩) | (with_reducible refine Lm.skips ?_ _ _ ?_; focus (first | omega | (simp; done))) | (with_reducible refine Lm.new ?_ <;> first | rfl | (simp; done)) | (with_reducible refine Lm.fresh ?_ ?_ <;> first | rfl | (simp; done)) | with_reducible refine Lm.alloc ?_ _)⟩ ?_; clear EX ; rintro v1 ⟨EX, LB⟩; rename World => v; have LBc0 := LB.c0; have LBc1 := LB.c1; have LBc2 := LB.c2; have LBc3 := LB.c3; have LBc4 := LB.c4; have LBc5 := LB.c5; have LBdg := LB.dg; have LBfz := LB.fz; have LBlt := LB.lt
  go_wp2_with (first | (refine wpList_load_lay (w.heap.size) _ rfl rfl rfl LB ?_) | (go_at_call 26; with_reducible refine (CK _).mono ?_; rintro e v1 ⟨rfl, hb⟩; replace EX := Ext.trans EX hb; replace LB := LB.later hb; replace LBc0 := LB.c0; replace LBc1 := LB.c1; replace LBc2 := LB.c2; replace LBc3 := LB.c3; replace LBc4 := LB.c4; replace LBc5 := LB.c5; replace LBdg := LB.dg; replace LBfz := LB.fz; replace LBlt := LB.lt; clear hb v; rename World => v) | (go_at_call 27; with_reducible refine (SZ _).mono ?_; rintro e v1 ⟨rfl, hb⟩; replace EX := Ext.trans EX hb; replace LB := LB.later hb; replace LBc0 := LB.c0; replace LBc1 := LB.c1; replace LBc2 := LB.c2; replace LBc3 := LB.c3; replace LBc4 := LB.c4; replace LBc5 := LB.c5; replace LBdg := LB.dg; replace LBfz := LB.fz; replace LBlt := LB.lt; clear hb v; rename World => v))
  go_ret2
  exact ⟨rfl, EX⟩
theorem gotall_none {L : Lay} {f : Nat → Int} {len : Nat} {x : Int} {w : World} (h : gerr L len = x) (hx : x ≠ 0) {e : Ending} {w' : World} (he : e = .returned (.tuple #[.slice none 0 0, .int .i64 x]) ∧ Ext w w') : GotAll L f len w e w' := by
  obtain ⟨rfl, E⟩ := he
  refine ⟨_, by rw [h], E, ?_, by simp [Value.ownBlock]⟩
  unfold gcnt
  rw [if_neg (by rw [h]; exact hx)]
  exact Lst.nil _ _ _ _
theorem rget9_any (L : Lay) (a : Option Addr) (len cap : Nat) (f : Nat → Int) (w : World) (B : Bs w a len f) : Calls Tryd.prog 11 #[(.agg (lv (L))), .slice a len cap] w (GotAll L f len w) := by
  cases hv : vlay L
  · exact (rget9_form L hv a len cap w).mono fun e w' h => gotall_none (by unfold gerr; rw [if_neg (by rw [hv]; decide)]) (by decide) h
  · by_cases hb : 65536 < len
    · exact (rget9_limit L hv a len cap hb w).mono fun e w' h => gotall_none (by unfold gerr; rw [if_pos hv, if_pos hb]) (by decide) h
    · obtain ⟨fl, c, p, n, sz, V⟩ := vl_of hv
      have hsz : (lsize L 0).toNat = sz := by rw [V.es]; rfl
      by_cases hm : len % sz = 0
      · have hlen : len = sz * (len / sz) := by have := Nat.div_add_mod len sz; omega
        have hg : gerr L len = 0 := by unfold gerr; rw [if_pos hv, if_neg hb, hsz, if_pos hm]
        refine (rget9_good L fl c p n sz (len / sz) V a len cap f w B hlen (by omega)).mono fun e w' h => ?_
        obtain ⟨s, he, E, SL, hn⟩ := h
        refine ⟨s, by rw [hg]; exact he, E, ?_, hn⟩
        have e1 : (flg L).toNat = fl := by rw [V.ef]; rfl
        have e2 : L.c.toNat = c := by rw [V.ec]; rfl
        have e3 : L.p.toNat = p := by rw [V.ep]; rfl
        have e4 : L.n.toNat = n := by rw [V.en]; rfl
        unfold gcnt recL
        rw [if_pos hg, hsz, e1, e2, e3, e4]
        exact SL
      · exact (rget9_short L fl c p n sz V a len cap hb hm w).mono fun e w' h => gotall_none (by unfold gerr; rw [if_pos hv, if_neg hb, hsz, if_neg hm]) (by decide) h
/-- Their cells are of a vertex's kinds. -/
theorem recL_kinds (L : Lay) (f : Nat → Int) {len j : Nat} (hj : j < gcnt L len) : Kinds [some .u8, some .u32, some .u32, some .u16, some .u16, some .u16, some .u16] (vl 7 (recL L f j)) := by
  have hg : gerr L len = 0 := by
    by_cases h : gerr L len = 0
    · exact h
    · unfold gcnt at hj; rw [if_neg h] at hj; omega
  have hv : vlay L = true := by
    cases h : vlay L
    · unfold gerr at hg; rw [if_neg (by rw [h]; decide)] at hg; omega
    · rfl
  obtain ⟨fl, c, p, n, sz, V⟩ := vl_of hv
  have f8 := V.f8
  have c32 := V.c1
  have p16 := V.p1
  have e1 : (flg L).toNat = fl := by rw [V.ef]; rfl
  have e2 : L.c.toNat = c := by rw [V.ec]; rfl
  have e3 : L.p.toNat = p := by rw [V.ep]; rfl
  unfold recL
  rw [e1, e2, e3]
  generalize 8 * ((lsize L 0).toNat * j) = q
  have hb := bt_bits f
  have b1 := u8_in hb q fl f8
  have u32in : ∀ q, 0 ≤ nb (bt f) q c ∧ nb (bt f) q c < 4294967296 := fun q => by
    have := nb_in hb q c
    have := pow32 (k := c) (by omega)
    omega
  have b2 := u32in (q + fl)
  have b3 := u32in (q + fl + c)
  have bc : ∀ i, 0 ≤ (recAt fl c p L.n.toNat (bt f) q).c i ∧ (recAt fl c p L.n.toNat (bt f) q).c i < 65536 := fun i => by
    show 0 ≤ (if i < L.n.toNat then _ else _) ∧ (if i < L.n.toNat then _ else _) < _
    split
    · exact u16_in hb _ _ (by omega)
    · omega
  show Kinds _ [.int .u8 (nb (bt f) q fl), .int .u32 (nb (bt f) (q + fl) c), .int .u32 (nb (bt f) (q + fl + c) c), .int .u16 ((recAt fl c p L.n.toNat (bt f) q).c 0), .int .u16 ((recAt fl c p L.n.toNat (bt f) q).c 1), .int .u16 ((recAt fl c p L.n.toNat (bt f) q).c 2), .int .u16 ((recAt fl c p L.n.toNat (bt f) q).c 3)]
  have c0 := bc 0
  have c1 := bc 1
  have c2 := bc 2
  have c3 := bc 3
  generalize (recAt fl c p L.n.toNat (bt f) q).c 0 = z0 at *
  generalize (recAt fl c p L.n.toNat (bt f) q).c 1 = z1 at *
  generalize (recAt fl c p L.n.toNat (bt f) q).c 2 = z2 at *
  generalize (recAt fl c p L.n.toNat (bt f) q).c 3 = z3 at *
  generalize nb (bt f) q fl = y0 at *
  generalize nb (bt f) (q + fl) c = y1 at *
  generalize nb (bt f) (q + fl + c) c = y2 at *
  simp only [Kinds, OfKind]
  refine ⟨_, _, rfl, ⟨_, rfl, ?_⟩, _, _, rfl, ⟨_, rfl, ?_⟩, _, _, rfl, ⟨_, rfl, ?_⟩, _, _, rfl, ⟨_, rfl, ?_⟩, _, _, rfl, ⟨_, rfl, ?_⟩, _, _, rfl, ⟨_, rfl, ?_⟩, _, _, rfl, ⟨_, rfl, ?_⟩, rfl⟩ <;> simp [Lit.wf, IntKind.min, IntKind.max, IntKind.signed, IntKind.bits] <;> omega
theorem gcnt_le (L : Lay) (len : Nat) : gcnt L len ≤ len := by
  unfold gcnt
  split
  · exact Nat.div_le_self _ _
  · omega
theorem got_of {L : Lay} {len j : Nat} (hj : j < gcnt L len) : gerr L len = 0 ∧ ∃ fl c p n sz, Vl L fl c p n sz ∧ len = sz * gcnt L len ∧ ¬ 65536 < len := by
  have hg : gerr L len = 0 := by
    by_cases h : gerr L len = 0
    · exact h
    · unfold gcnt at hj; rw [if_neg h] at hj; omega
  have hv : vlay L = true := by
    cases h : vlay L
    · unfold gerr at hg; rw [if_neg (by rw [h]; decide)] at hg; omega
    · rfl
  obtain ⟨fl, c, p, n, sz, V⟩ := vl_of hv
  have hsz : (lsize L 0).toNat = sz := by rw [V.es]; rfl
  have h0 := hg
  unfold gerr at hg
  rw [if_pos hv, hsz] at hg
  by_cases hb : 65536 < len
  · rw [if_pos hb] at hg; omega
  · rw [if_neg hb] at hg
    by_cases hm : len % sz = 0
    · refine ⟨h0, fl, c, p, n, sz, V, ?_, hb⟩
      unfold gcnt
      rw [if_pos h0, hsz]
      have := Nat.div_add_mod len sz
      omega
    · rw [if_neg hm] at hg; omega
/-- Bytes that are alike tell the same vertices. -/
theorem recL_congr {L : Lay} {f g : Nat → Int} {len j : Nat} (hj : j < gcnt L len) (h : ∀ i, i < len → f i = g i) : vl 7 (recL L f j) = vl 7 (recL L g j) := by
  obtain ⟨_, fl, c, p, n, sz, V, hlen, _⟩ := got_of hj
  have hsz : (lsize L 0).toNat = sz := by rw [V.es]; rfl
  have e1 : (flg L).toNat = fl := by rw [V.ef]; rfl
  have e2 : L.c.toNat = c := by rw [V.ec]; rfl
  have e3 : L.p.toNat = p := by rw [V.ep]; rfl
  have e4 : L.n.toNat = n := by rw [V.en]; rfl
  have hb := V.b
  have h1 : sz * (j + 1) ≤ sz * gcnt L len := Nat.mul_le_mul_left sz (by omega)
  rw [← hlen, Nat.mul_add, Nat.mul_one] at h1
  unfold recL
  rw [hsz, e1, e2, e3, e4]
  have hq : 8 * (sz * j) + (fl + c + c + n * p) ≤ 8 * len := by omega
  generalize 8 * (sz * j) = q at *
  have e : recAt fl c p n (bt f) q = recAt fl c p n (bt g) q := by
    unfold recAt
    rw [nb_bt_congr h (show q + fl ≤ 8 * len by omega), nb_bt_congr h (show q + fl + c ≤ 8 * len by omega), nb_bt_congr h (show q + fl + c + c ≤ 8 * len by omega)]
    congr 1
    funext i
    split
    · rename_i hi
      have : (i + 1) * p ≤ n * p := Nat.mul_le_mul_right p (by omega)
      rw [Nat.add_mul, Nat.one_mul] at this
      exact nb_bt_congr h (by omega)
    · rfl
  rw [e]
end Go.Proofs.YtemcppakmcffgaaDoor
