/- Records as values; what the given reference's Get of records does. What Get of records answers, in one sentence; the reference's Get, whatever it is handed. -/
import Derived.Test.YtemcppakmcffgaaGreatDoorRecA
import Derived.Test.YtemcppakmcffgaaGreatDoorListAB
import Derived.Test.YtemcppakmcffgaaGreatDoorBookA
import Derived.Deep.LoopGhost
import Derived.Deep.Light
namespace Go.Proofs.YtemcppakmcffgaaGreatDoor
open Go.RowKit Go.BigFrame
set_option linter.unusedSimpArgs false
set_option linter.unusedVariables false
/-- A vertex as it stands in a stream: its flag, its point, its colours. -/
structure Rcd where
  f : Int
  x : Int
  y : Int
  c : Nat → Int
/-- Its cells. -/
def rv (R : Rcd) : Nat → Value
  | 0 => .int .u8 R.f
  | 1 => .int .u32 R.x
  | 2 => .int .u32 R.y
  | i + 3 => .int .u16 (R.c i)
/-- The record whose bits begin at q. -/
def recAt (fl c p n : Nat) (β : Nat → Int) (q : Nat) : Rcd :=
  ⟨nb β q fl, nb β (q + fl) c, nb β (q + fl + c) c, fun i => if i < n then nb β (q + fl + c + c + i * p) p else 0⟩
/-- A layout of vertices, in whole numbers: bits of a flag, of a coordinate, of a colour, how many colours, bytes of a record. -/
structure Vl (L : Lay) (fl c p n sz : Nat) : Prop where
  may : vlay L = true
  ef : flg L = fl
  ec : L.c = c
  ep : L.p = p
  en : L.n = n
  es : lsize L 0 = sz
  f8 : fl ≤ 8
  c1 : 1 ≤ c ∧ c ≤ 32
  p1 : 1 ≤ p ∧ p ≤ 16
  n1 : 1 ≤ n ∧ n ≤ 4
  s1 : 1 ≤ sz ∧ sz ≤ 161
  b : fl + c + c + n * p ≤ 8 * sz ∧ 8 * sz < fl + c + c + n * p + 8
theorem vl_of {L : Lay} (h : vlay L = true) : ∃ fl c p n sz, Vl L fl c p n sz := by
  have h0 := h
  unfold vlay at h
  simp only [Bool.and_eq_true, Bool.or_eq_true, decide_eq_true_eq] at h
  obtain ⟨hm, ht⟩ := h
  obtain ⟨m1, m2, m3, m4, m5, _, _⟩ := mayl_is hm
  obtain ⟨p1, p2, p3, p4, p5, p6, p7, p8, p9, p10⟩ := parts_bd hm 0
  obtain ⟨l1, l2⟩ := lbits_bd hm 0
  have e : lbits L 0 = flg L + 2 * L.c + L.n * L.p := by
    unfold lbits pts cols
    rw [if_pos (by omega), if_pos (by omega)]
    omega
  have es : lsize L 0 = (lbits L 0 + 7) / 8 := by unfold lsize; rw [if_pos hm]
  obtain ⟨fl, hf⟩ := Int.eq_ofNat_of_zero_le p5
  obtain ⟨c, hc⟩ := Int.eq_ofNat_of_zero_le (show 0 ≤ L.c by omega)
  obtain ⟨p, hp⟩ := Int.eq_ofNat_of_zero_le (show 0 ≤ L.p by omega)
  obtain ⟨n, hn⟩ := Int.eq_ofNat_of_zero_le (show 0 ≤ L.n by omega)
  obtain ⟨sz, hs⟩ := Int.eq_ofNat_of_zero_le (show 0 ≤ lsize L 0 by omega)
  have hnp : L.n * L.p = ((n * p : Nat) : Int) := by rw [hn, hp]; push_cast; rfl
  rw [hnp, hf, hc] at e
  have hb : fl + c + c + n * p ≤ 8 * sz ∧ 8 * sz < fl + c + c + n * p + 8 := by
    generalize n * p = np at *
    omega
  exact ⟨fl, c, p, n, sz, ⟨h0, hf, hc, hp, hn, hs, by omega, by omega, by omega, by omega, by omega, hb⟩⟩

theorem info_recG : (Tryz.prog.info? 62).map (fun i => (i.zero, i.size, i.bytes)) = some (some (.agg #[.int .u8 0, .int .u32 0, .int .u32 0, .int .u16 0, .int .u16 0, .int .u16 0, .int .u16 0]), 7, 20) := by kernel_rfl
theorem u16_in {β : Nat → Int} (h : Bits β) (q p : Nat) (hp : p ≤ 16) : 0 ≤ nb β q p ∧ nb β q p < 65536 := by
  have := nb_in h q p
  have : (2 : Int) ^ p ≤ 65536 := pow_le2 (n := 16) hp
  omega
theorem u8_in {β : Nat → Int} (h : Bits β) (q p : Nat) (hp : p ≤ 8) : 0 ≤ nb β q p ∧ nb β q p < 256 := by
  have := nb_in h q p
  have : (2 : Int) ^ p ≤ 256 := pow_le2 (n := 8) hp
  omega
theorem Vm.col {v : World} {b k : Nat} {F X Y z : Int} {C : Nat → Int} (B : Vm v b 7 (rv ⟨F, X, Y, C⟩)) : Vm (v.setCell ⟨b, 3 + k, none⟩ (.int .u16 z)) b 7 (rv ⟨F, X, Y, fun i => if i = k then z else C i⟩) := (B.set (3 + k) _).eq fun i _ => by
  unfold updv
  by_cases e : i = 3 + k
  · subst e
    rw [if_pos rfl, Nat.add_comm 3 k]
    show _ = Value.int .u16 (if k = k then z else C k)
    rw [if_pos rfl]
  · rw [if_neg e]
    match i with
    | 0 => rfl
    | 1 => rfl
    | 2 => rfl
    | i + 3 =>
      show Value.int .u16 (C i) = .int .u16 (if i = k then z else C i)
      rw [if_neg (by omega)]
theorem S7m.vm9 {v : World} {b : Nat} {F X Y : Int} (B : S7m v b (.int .u8 F) (.int .u32 X) (.int .u32 Y) (.int .u16 0) (.int .u16 0) (.int .u16 0) (.int .u16 0)) : Vm v b 7 (rv ⟨F, X, Y, fun _ => 0⟩) :=
  ⟨B.lt, B.fz, fun i hi => match i, hi with | 0, _ => B.c0 | 1, _ => B.c1 | 2, _ => B.c2 | 3, _ => B.c3 | 4, _ => B.c4 | 5, _ => B.c5 | 6, _ => B.c6⟩
theorem rv_one (R : Rcd) : ∀ u ∈ [rv R 0, rv R 1, rv R 2, rv R 3, rv R 4, rv R 5, rv R 6], u.oneCell' = true := by
  intro u hu
  simp only [List.mem_cons, List.not_mem_nil, or_false] at hu
  rcases hu with rfl | rfl | rfl | rfl | rfl | rfl | rfl <;> rfl
end Go.Proofs.YtemcppakmcffgaaGreatDoor

namespace Go.Proofs.YtemcppakmcffgaaGreatDoor
open Go.RowKit Go.BigFrame
set_option linter.unusedSimpArgs false
set_option linter.unusedVariables false
/-- The error of Get; how many vertices it tells; which. -/
def gerr (L : Lay) (len : Nat) : Int := if vlay L = true then (if 65536 < len then 3 else if len % (lsize L 0).toNat = 0 then 0 else 5) else 4
def gcnt (L : Lay) (len : Nat) : Nat := if gerr L len = 0 then len / (lsize L 0).toNat else 0
def recL (L : Lay) (f : Nat → Int) (j : Nat) : Nat → Value := rv (recAt (flg L).toNat L.c.toNat L.p.toNat L.n.toNat (bt f) (8 * ((lsize L 0).toNat * j)))
/-- What Get answers. -/
def GotAll (L : Lay) (f : Nat → Int) (len : Nat) (w : World) (e : Ending) (w' : World) : Prop :=
  ∃ s, e = .returned (.tuple #[s, .int .i64 (gerr L len)]) ∧ Ext w w' ∧ Lst w' 62 7 s (gcnt L len) (recL L f) ∧ ∀ b, s.ownBlock = some b → w.heap.size ≤ b

theorem gotall_none {L : Lay} {f : Nat → Int} {len : Nat} {x : Int} {w : World} (h : gerr L len = x) (hx : x ≠ 0) {e : Ending} {w' : World} (he : e = .returned (.tuple #[.slice none 0 0, .int .i64 x]) ∧ Ext w w') : GotAll L f len w e w' := by
  obtain ⟨rfl, E⟩ := he
  refine ⟨_, by rw [h], E, ?_, by simp [Value.ownBlock]⟩
  unfold gcnt
  rw [if_neg (by rw [h]; exact hx)]
  exact Lst.nil _ _ _ _
/-- Their cells are of a vertex's kinds. -/
theorem recL_kinds (L : Lay) (f : Nat → Int) {len j : Nat} (hj : j < gcnt L len) : Kinds [some .u8, some .u32, some .u32, some .u16, some .u16, some .u16, some .u16] (vl 7 (recL L f j)) := by
  have hg : gerr L len = 0 := by
    by_cases h : gerr L len = 0
    · exact h
    · unfold gcnt at hj; rw [if_neg h] at hj; omega
  have hv : vlay L = true := by
    cases h : vlay L
    · unfold gerr at hg; rw [if_neg (by rw [h]; decide)] at hg; omega
    · rfl
  obtain ⟨fl, c, p, n, sz, V⟩ := vl_of hv
  have f8 := V.f8
  have c32 := V.c1
  have p16 := V.p1
  have e1 : (flg L).toNat = fl := by rw [V.ef]; rfl
  have e2 : L.c.toNat = c := by rw [V.ec]; rfl
  have e3 : L.p.toNat = p := by rw [V.ep]; rfl
  unfold recL
  rw [e1, e2, e3]
  generalize 8 * ((lsize L 0).toNat * j) = q
  have hb := bt_bits f
  have b1 := u8_in hb q fl f8
  have u32in : ∀ q, 0 ≤ nb (bt f) q c ∧ nb (bt f) q c < 4294967296 := fun q => by
    have := nb_in hb q c
    have := pow32 (k := c) (by omega)
    omega
  have b2 := u32in (q + fl)
  have b3 := u32in (q + fl + c)
  have bc : ∀ i, 0 ≤ (recAt fl c p L.n.toNat (bt f) q).c i ∧ (recAt fl c p L.n.toNat (bt f) q).c i < 65536 := fun i => by
    show 0 ≤ (if i < L.n.toNat then _ else _) ∧ (if i < L.n.toNat then _ else _) < _
    split
    · exact u16_in hb _ _ (by omega)
    · omega
  show Kinds _ [.int .u8 (nb (bt f) q fl), .int .u32 (nb (bt f) (q + fl) c), .int .u32 (nb (bt f) (q + fl + c) c), .int .u16 ((recAt fl c p L.n.toNat (bt f) q).c 0), .int .u16 ((recAt fl c p L.n.toNat (bt f) q).c 1), .int .u16 ((recAt fl c p L.n.toNat (bt f) q).c 2), .int .u16 ((recAt fl c p L.n.toNat (bt f) q).c 3)]
  have c0 := bc 0
  have c1 := bc 1
  have c2 := bc 2
  have c3 := bc 3
  generalize (recAt fl c p L.n.toNat (bt f) q).c 0 = z0 at *
  generalize (recAt fl c p L.n.toNat (bt f) q).c 1 = z1 at *
  generalize (recAt fl c p L.n.toNat (bt f) q).c 2 = z2 at *
  generalize (recAt fl c p L.n.toNat (bt f) q).c 3 = z3 at *
  generalize nb (bt f) q fl = y0 at *
  generalize nb (bt f) (q + fl) c = y1 at *
  generalize nb (bt f) (q + fl + c) c = y2 at *
  simp only [Kinds, OfKind]
  refine ⟨_, _, rfl, ⟨_, rfl, ?_⟩, _, _, rfl, ⟨_, rfl, ?_⟩, _, _, rfl, ⟨_, rfl, ?_⟩, _, _, rfl, ⟨_, rfl, ?_⟩, _, _, rfl, ⟨_, rfl, ?_⟩, _, _, rfl, ⟨_, rfl, ?_⟩, _, _, rfl, ⟨_, rfl, ?_⟩, rfl⟩ <;> simp [Lit.wf, IntKind.min, IntKind.max, IntKind.signed, IntKind.bits] <;> omega
theorem gcnt_le (L : Lay) (len : Nat) : gcnt L len ≤ len := by
  unfold gcnt
  split
  · exact Nat.div_le_self _ _
  · omega
theorem got_of {L : Lay} {len j : Nat} (hj : j < gcnt L len) : gerr L len = 0 ∧ ∃ fl c p n sz, Vl L fl c p n sz ∧ len = sz * gcnt L len ∧ ¬ 65536 < len := by
  have hg : gerr L len = 0 := by
    by_cases h : gerr L len = 0
    · exact h
    · unfold gcnt at hj; rw [if_neg h] at hj; omega
  have hv : vlay L = true := by
    cases h : vlay L
    · unfold gerr at hg; rw [if_neg (by rw [h]; decide)] at hg; omega
    · rfl
  obtain ⟨fl, c, p, n, sz, V⟩ := vl_of hv
  have hsz : (lsize L 0).toNat = sz := by rw [V.es]; rfl
  have h0 := hg
  unfold gerr at hg
  rw [if_pos hv, hsz] at hg
  by_cases hb : 65536 < len
  · rw [if_pos hb] at hg; omega
  · rw [if_neg hb] at hg
    by_cases hm : len % sz = 0
    · refine ⟨h0, fl, c, p, n, sz, V, ?_, hb⟩
      unfold gcnt
      rw [if_pos h0, hsz]
      have := Nat.div_add_mod len sz
      omega
    · rw [if_neg hm] at hg; omega
/-- Bytes that are alike tell the same vertices. -/
theorem recL_congr {L : Lay} {f g : Nat → Int} {len j : Nat} (hj : j < gcnt L len) (h : ∀ i, i < len → f i = g i) : vl 7 (recL L f j) = vl 7 (recL L g j) := by
  obtain ⟨_, fl, c, p, n, sz, V, hlen, _⟩ := got_of hj
  have hsz : (lsize L 0).toNat = sz := by rw [V.es]; rfl
  have e1 : (flg L).toNat = fl := by rw [V.ef]; rfl
  have e2 : L.c.toNat = c := by rw [V.ec]; rfl
  have e3 : L.p.toNat = p := by rw [V.ep]; rfl
  have e4 : L.n.toNat = n := by rw [V.en]; rfl
  have hb := V.b
  have h1 : sz * (j + 1) ≤ sz * gcnt L len := Nat.mul_le_mul_left sz (by omega)
  rw [← hlen, Nat.mul_add, Nat.mul_one] at h1
  unfold recL
  rw [hsz, e1, e2, e3, e4]
  have hq : 8 * (sz * j) + (fl + c + c + n * p) ≤ 8 * len := by omega
  generalize 8 * (sz * j) = q at *
  have e : recAt fl c p n (bt f) q = recAt fl c p n (bt g) q := by
    unfold recAt
    rw [nb_bt_congr h (show q + fl ≤ 8 * len by omega), nb_bt_congr h (show q + fl + c ≤ 8 * len by omega), nb_bt_congr h (show q + fl + c + c ≤ 8 * len by omega)]
    congr 1
    funext i
    split
    · rename_i hi
      have : (i + 1) * p ≤ n * p := Nat.mul_le_mul_right p (by omega)
      rw [Nat.add_mul, Nat.one_mul] at this
      exact nb_bt_congr h (by omega)
    · rfl
  rw [e]
end Go.Proofs.YtemcppakmcffgaaGreatDoor
