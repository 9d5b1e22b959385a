/- What Get of records answers, in one sentence; the reference's Get, whatever it is handed. -/
import Derived.Test.YtemcppakmcffgaaDoorRecB
namespace Go.Proofs.YtemcppakmcffgaaDoor
open Go.RowKit Go.BigFrame
set_option linter.unusedSimpArgs false
set_option linter.unusedVariables false
/-- The error of Get; how many vertices it tells; which. -/
def gerr (L : Lay) (len : Nat) : Int := if vlay L = true then (if 65536 < len then 3 else if len % (lsize L 0).toNat = 0 then 0 else 5) else 4
def gcnt (L : Lay) (len : Nat) : Nat := if gerr L len = 0 then len / (lsize L 0).toNat else 0
def recL (L : Lay) (f : Nat → Int) (j : Nat) : Nat → Value := rv (recAt (flg L).toNat L.c.toNat L.p.toNat L.n.toNat (bt f) (8 * ((lsize L 0).toNat * j)))
/-- What Get answers. -/
def GotAll (L : Lay) (f : Nat → Int) (len : Nat) (w : World) (e : Ending) (w' : World) : Prop :=
  ∃ s, e = .returned (.tuple #[s, .int .i64 (gerr L len)]) ∧ Ext w w' ∧ Lst w' 63 7 s (gcnt L len) (recL L f) ∧ ∀ b, s.ownBlock = some b → w.heap.size ≤ b

theorem rget9_form (L : Lay) (hv : vlay L = false) (a : Option Addr) (len cap : Nat) (w : World) :
    Calls Tryd.prog 11 #[(.agg (lv (L))), .slice a len cap] w fun e w' => e = .returned (.tuple #[.slice none 0 0, .int .i64 4]) ∧ Ext w w' := by
  have EX := Ext.refl w
  have CK := fun v => rcheck9_any L v
  rw [hv] at CK
  go_enter Tryd.func11, Tryd.ntmps11
  go_upto_region 1 with fail
  refine rebase (G := fun w' => Code.wp _ _ _ _ w') _ (fun v1 => Ext w v1 ∧ Lm v1 (w.heap.size) (L)) ⟨by repeat (first | with_reducible exact EX |  with_reducible refine Ext.alloc ?_ _ | with_reducible refine Ext.drew ?_ | with_reducible refine Ext.drewN ?_ _ | with_reducible refine Ext.setCell ?_ (by first | (simp; done) | omega | (dsimp only; omega)) _), by repeat (first | with_reducible assumption | with_reducible refine Lm.drew ?_ | with_reducible refine Lm.drewN ?_ _ | (with_reducible refine Lm.skip ?_ ?_; focus (first | omega | (simp; done))) | with_reducible refine Lm.set0 ?_ _ | with_reducible refine Lm.set4 ?_ _ | with_reducible refine Lm.set5 ?_ _ | with_reducible refine Lm.setk ?_ _ (by decide) | (with_reducible refine Lm.cells1 ?_; exact ⟨_, by with_reducible assumption⟩) | (with_reducible refine Lm.skips ?_ _ _ ?_; focus (first | omega | (simp; done))) | (with_reducible refine Lm.new ?_ <;> first | rfl | (simp; done)) | (with_reducible refine Lm.fresh ?_ ?_ <;> first | rfl | (simp; done)) | with_reducible refine Lm.alloc ?_ _)⟩ ?_; clear EX ; rintro v1 ⟨EX, LB⟩; rename World => v; have LBc0 := LB.c0; have LBc1 := LB.c1; have LBc2 := LB.c2; have LBc3 := LB.c3; have LBc4 := LB.c4; have LBc5 := LB.c5; have LBdg := LB.dg; have LBfz := LB.fz; have LBlt := LB.lt
  go_wp2_with (first | (refine wpList_load_lay (w.heap.size) _ rfl rfl rfl LB ?_) | (go_at_call 26; with_reducible refine (CK _).mono ?_; rintro e v1 ⟨rfl, hb⟩; replace EX := Ext.trans EX hb; replace LB := LB.later hb; replace LBc0 := LB.c0; replace LBc1 := LB.c1; replace LBc2 := LB.c2; replace LBc3 := LB.c3; replace LBc4 := LB.c4; replace LBc5 := LB.c5; replace LBdg := LB.dg; replace LBfz := LB.fz; replace LBlt := LB.lt; clear hb v; rename World => v))
  go_ret2
  exact ⟨rfl, EX⟩
theorem rget9_limit (L : Lay) (hv : vlay L = true) (a : Option Addr) (len cap : Nat) (h : 65536 < len) (w : World) :
    Calls Tryd.prog 11 #[(.agg (lv (L))), .slice a len cap] w fun e w' => e = .returned (.tuple #[.slice none 0 0, .int .i64 3]) ∧ Ext w w' := by
  have EX := Ext.refl w
  have CK := fun v => rcheck9_any L v
  rw [hv] at CK
  have hbig : (65536 : Int) < (len : Int) := by omega
  go_enter Tryd.func11, Tryd.ntmps11
  go_upto_region 1 with fail
  refine rebase (G := fun w' => Code.wp _ _ _ _ w') _ (fun v1 => Ext w v1 ∧ Lm v1 (w.heap.size) (L)) ⟨by repeat (first | with_reducible exact EX |  with_reducible refine Ext.alloc ?_ _ | with_reducible refine Ext.drew ?_ | with_reducible refine Ext.drewN ?_ _ | with_reducible refine Ext.setCell ?_ (by first | (simp; done) | omega | (dsimp only; omega)) _), by repeat (first | with_reducible assumption | with_reducible refine Lm.drew ?_ | with_reducible refine Lm.drewN ?_ _ | (with_reducible refine Lm.skip ?_ ?_; focus (first | omega | (simp; done))) | with_reducible refine Lm.set0 ?_ _ | with_reducible refine Lm.set4 ?_ _ | with_reducible refine Lm.set5 ?_ _ | with_reducible refine Lm.setk ?_ _ (by decide) | (with_reducible refine Lm.cells1 ?_; exact ⟨_, by with_reducible assumption⟩) | (with_reducible refine Lm.skips ?_ _ _ ?_; focus (first | omega | (simp; done))) | (with_reducible refine Lm.new ?_ <;> first | rfl | (simp; done)) | (with_reducible refine Lm.fresh ?_ ?_ <;> first | rfl | (simp; done)) | with_reducible refine Lm.alloc ?_ _)⟩ ?_; clear EX ; rintro v1 ⟨EX, LB⟩; rename World => v; have LBc0 := LB.c0; have LBc1 := LB.c1; have LBc2 := LB.c2; have LBc3 := LB.c3; have LBc4 := LB.c4; have LBc5 := LB.c5; have LBdg := LB.dg; have LBfz := LB.fz; have LBlt := LB.lt
  go_wp2_with (first | (refine wpList_load_lay (w.heap.size) _ rfl rfl rfl LB ?_) | (go_at_call 26; with_reducible refine (CK _).mono ?_; rintro e v1 ⟨rfl, hb⟩; replace EX := Ext.trans EX hb; replace LB := LB.later hb; replace LBc0 := LB.c0; replace LBc1 := LB.c1; replace LBc2 := LB.c2; replace LBc3 := LB.c3; replace LBc4 := LB.c4; replace LBc5 := LB.c5; replace LBdg := LB.dg; replace LBfz := LB.fz; replace LBlt := LB.lt; clear hb v; rename World => v))
  go_ret2
  exact ⟨rfl, EX⟩
theorem rget9_short (L : Lay) (fl c p n sz : Nat) (V : Vl L fl c p n sz) (a : Option Addr) (len cap : Nat) (h : ¬ 65536 < len) (hm : len % sz ≠ 0) (w : World) :
    Calls Tryd.prog 11 #[(.agg (lv (L))), .slice a len cap] w fun e w' => e = .returned (.tuple #[.slice none 0 0, .int .i64 5]) ∧ Ext w w' := by
  have EX := Ext.refl w
  have CK := fun v => rcheck9_any L v
  rw [V.may] at CK
  have SZ := fun v => rsize_any L 0 (by decide) v
  rw [V.es] at SZ
  have sz1 := V.s1
  have hbig : ¬ (65536 : Int) < (len : Int) := by omega
  have hmod : ((len : Int) % (sz : Int) != 0) = true := by
    have : ((len : Int) % (sz : Int)) = ((len % sz : Nat) : Int) := by push_cast; rfl
    rw [this]; simp; omega
  have hsz0 : ¬ (sz : Int) = 0 := by omega
  have szp : (0 : Int) < sz := by omega
  clear V hm
  go_enter Tryd.func11, Tryd.ntmps11
  go_upto_region 1 with fail
  refine rebase (G := fun w' => Code.wp _ _ _ _ w') _ (fun v1 => Ext w v1 ∧ Lm v1 (w.heap.size) (L)) ⟨by repeat (first | with_reducible exact EX |  with_reducible refine Ext.alloc ?_ _ | with_reducible refine Ext.drew ?_ | with_reducible refine Ext.drewN ?_ _ | with_reducible refine Ext.setCell ?_ (by first | (simp; done) | omega | (dsimp only; omega)) _), by repeat (first | with_reducible assumption | with_reducible refine Lm.drew ?_ | with_reducible refine Lm.drewN ?_ _ | (with_reducible refine Lm.skip ?_ ?_; focus (first | omega | (simp; done))) | with_reducible refine Lm.set0 ?_ _ | with_reducible refine Lm.set4 ?_ _ | with_reducible refine Lm.set5 ?_ _ | with_reducible refine Lm.setk ?_ _ (by decide) | (with_reducible refine Lm.cells1 ?_; exact ⟨_, by with_reducible assumption⟩) | (with_reducible refine Lm.skips ?_ _ _ ?_; focus (first | omega | (simp; done))) | (with_reducible refine Lm.new ?_ <;> first | rfl | (simp; done)) | (with_reducible refine Lm.fresh ?_ ?_ <;> first | rfl | (simp; done)) | with_reducible refine Lm.alloc ?_ _)⟩ ?_; clear EX ; rintro v1 ⟨EX, LB⟩; rename World => v; have LBc0 := LB.c0; have LBc1 := LB.c1; have LBc2 := LB.c2; have LBc3 := LB.c3; have LBc4 := LB.c4; have LBc5 := LB.c5; have LBdg := LB.dg; have LBfz := LB.fz; have LBlt := LB.lt
  go_wp2_with (first | (refine wpList_load_lay (w.heap.size) _ rfl rfl rfl LB ?_) | (go_at_call 26; with_reducible refine (CK _).mono ?_; rintro e v1 ⟨rfl, hb⟩; replace EX := Ext.trans EX hb; replace LB := LB.later hb; replace LBc0 := LB.c0; replace LBc1 := LB.c1; replace LBc2 := LB.c2; replace LBc3 := LB.c3; replace LBc4 := LB.c4; replace LBc5 := LB.c5; replace LBdg := LB.dg; replace LBfz := LB.fz; replace LBlt := LB.lt; clear hb v; rename World => v) | (go_at_call 27; with_reducible refine (SZ _).mono ?_; rintro e v1 ⟨rfl, hb⟩; replace EX := Ext.trans EX hb; replace LB := LB.later hb; replace LBc0 := LB.c0; replace LBc1 := LB.c1; replace LBc2 := LB.c2; replace LBc3 := LB.c3; replace LBc4 := LB.c4; replace LBc5 := LB.c5; replace LBdg := LB.dg; replace LBfz := LB.fz; replace LBlt := LB.lt; clear hb v; rename World => v))
  go_ret2
  exact ⟨rfl, EX⟩
theorem gotall_none {L : Lay} {f : Nat → Int} {len : Nat} {x : Int} {w : World} (h : gerr L len = x) (hx : x ≠ 0) {e : Ending} {w' : World} (he : e = .returned (.tuple #[.slice none 0 0, .int .i64 x]) ∧ Ext w w') : GotAll L f len w e w' := by
  obtain ⟨rfl, E⟩ := he
  refine ⟨_, by rw [h], E, ?_, by simp [Value.ownBlock]⟩
  unfold gcnt
  rw [if_neg (by rw [h]; exact hx)]
  exact Lst.nil _ _ _ _
theorem rget9_any (L : Lay) (a : Option Addr) (len cap : Nat) (f : Nat → Int) (w : World) (B : Bs w a len f) : Calls Tryd.prog 11 #[(.agg (lv (L))), .slice a len cap] w (GotAll L f len w) := by
  cases hv : vlay L
  · exact (rget9_form L hv a len cap w).mono fun e w' h => gotall_none (by unfold gerr; rw [if_neg (by rw [hv]; decide)]) (by decide) h
  · by_cases hb : 65536 < len
    · exact (rget9_limit L hv a len cap hb w).mono fun e w' h => gotall_none (by unfold gerr; rw [if_pos hv, if_pos hb]) (by decide) h
    · obtain ⟨fl, c, p, n, sz, V⟩ := vl_of hv
      have hsz : (lsize L 0).toNat = sz := by rw [V.es]; rfl
      by_cases hm : len % sz = 0
      · have hlen : len = sz * (len / sz) := by have := Nat.div_add_mod len sz; omega
        have hg : gerr L len = 0 := by unfold gerr; rw [if_pos hv, if_neg hb, hsz, if_pos hm]
        refine (rget9_good L fl c p n sz (len / sz) V a len cap f w B hlen (by omega)).mono fun e w' h => ?_
        obtain ⟨s, he, E, SL, hn⟩ := h
        refine ⟨s, by rw [hg]; exact he, E, ?_, hn⟩
        have e1 : (flg L).toNat = fl := by rw [V.ef]; rfl
        have e2 : L.c.toNat = c := by rw [V.ec]; rfl
        have e3 : L.p.toNat = p := by rw [V.ep]; rfl
        have e4 : L.n.toNat = n := by rw [V.en]; rfl
        unfold gcnt recL
        rw [if_pos hg, hsz, e1, e2, e3, e4]
        exact SL
      · exact (rget9_short L fl c p n sz V a len cap hb hm w).mono fun e w' h => gotall_none (by unfold gerr; rw [if_pos hv, if_neg hb, hsz, if_neg hm]) (by decide) h
/-- Their cells are of a vertex's kinds. -/
theorem recL_kinds (L : Lay) (f : Nat → Int) {len j : Nat} (hj : j < gcnt L len) : Kinds [some .u8, some .u32, some .u32, some .u16, some .u16, some .u16, some .u16] (vl 7 (recL L f j)) := by
  have hg : gerr L len = 0 := by
    by_cases h : gerr L len = 0
    · exact h
    · unfold gcnt at hj; rw [if_neg h] at hj; omega
  have hv : vlay L = true := by
    cases h : vlay L
    · unfold gerr at hg; rw [if_neg (by rw [h]; decide)] at hg; omega
    · rfl
  obtain ⟨fl, c, p, n, sz, V⟩ := vl_of hv
  have f8 := V.f8
  have c32 := V.c1
  have p16 := V.p1
  have e1 : (flg L).toNat = fl := by rw [V.ef]; rfl
  have e2 : L.c.toNat = c := by rw [V.ec]; rfl
  have e3 : L.p.toNat = p := by rw [V.ep]; rfl
  unfold recL
  rw [e1, e2, e3]
  generalize 8 * ((lsize L 0).toNat * j) = q
  have hb := bt_bits f
  have b1 := u8_in hb q fl f8
  have u32in : ∀ q, 0 ≤ nb (bt f) q c ∧ nb (bt f) q c < 4294967296 := fun q => by
    have := nb_in hb q c
    have := pow32 (k := c) (by omega)
    omega
  have b2 := u32in (q + fl)
  have b3 := u32in (q + fl + c)
  have bc : ∀ i, 0 ≤ (recAt fl c p L.n.toNat (bt f) q).c i ∧ (recAt fl c p L.n.toNat (bt f) q).c i < 65536 := fun i => by
    show 0 ≤ (if i < L.n.toNat then _ else _) ∧ (if i < L.n.toNat then _ else _) < _
    split
    · exact u16_in hb _ _ (by omega)
    · omega
  show Kinds _ [.int .u8 (nb (bt f) q fl), .int .u32 (nb (bt f) (q + fl) c), .int .u32 (nb (bt f) (q + fl + c) c), .int .u16 ((recAt fl c p L.n.toNat (bt f) q).c 0), .int .u16 ((recAt fl c p L.n.toNat (bt f) q).c 1), .int .u16 ((recAt fl c p L.n.toNat (bt f) q).c 2), .int .u16 ((recAt fl c p L.n.toNat (bt f) q).c 3)]
  have c0 := bc 0
  have c1 := bc 1
  have c2 := bc 2
  have c3 := bc 3
  generalize (recAt fl c p L.n.toNat (bt f) q).c 0 = z0 at *
  generalize (recAt fl c p L.n.toNat (bt f) q).c 1 = z1 at *
  generalize (recAt fl c p L.n.toNat (bt f) q).c 2 = z2 at *
  generalize (recAt fl c p L.n.toNat (bt f) q).c 3 = z3 at *
  generalize nb (bt f) q fl = y0 at *
  generalize nb (bt f) (q + fl) c = y1 at *
  generalize nb (bt f) (q + fl + c) c = y2 at *
  simp only [Kinds, OfKind]
  refine ⟨_, _, rfl, ⟨_, rfl, ?_⟩, _, _, rfl, ⟨_, rfl, ?_⟩, _, _, rfl, ⟨_, rfl, ?_⟩, _, _, rfl, ⟨_, rfl, ?_⟩, _, _, rfl, ⟨_, rfl, ?_⟩, _, _, rfl, ⟨_, rfl, ?_⟩, _, _, rfl, ⟨_, rfl, ?_⟩, rfl⟩ <;> simp [Lit.wf, IntKind.min, IntKind.max, IntKind.signed, IntKind.bits] <;> omega
theorem gcnt_le (L : Lay) (len : Nat) : gcnt L len ≤ len := by
  unfold gcnt
  split
  · exact Nat.div_le_self _ _
  · omega
theorem got_of {L : Lay} {len j : Nat} (hj : j < gcnt L len) : gerr L len = 0 ∧ ∃ fl c p n sz, Vl L fl c p n sz ∧ len = sz * gcnt L len ∧ ¬ 65536 < len := by
  have hg : gerr L len = 0 := by
    by_cases h : gerr L len = 0
    · exact h
    · unfold gcnt at hj; rw [if_neg h] at hj; omega
  have hv : vlay L = true := by
    cases h : vlay L
    · unfold gerr at hg; rw [if_neg (by rw [h]; decide)] at hg; omega
    · rfl
  obtain ⟨fl, c, p, n, sz, V⟩ := vl_of hv
  have hsz : (lsize L 0).toNat = sz := by rw [V.es]; rfl
  have h0 := hg
  unfold gerr at hg
  rw [if_pos hv, hsz] at hg
  by_cases hb : 65536 < len
  · rw [if_pos hb] at hg; omega
  · rw [if_neg hb] at hg
    by_cases hm : len % sz = 0
    · refine ⟨h0, fl, c, p, n, sz, V, ?_, hb⟩
      unfold gcnt
      rw [if_pos h0, hsz]
      have := Nat.div_add_mod len sz
      omega
    · rw [if_neg hm] at hg; omega
/-- Bytes that are alike tell the same vertices. -/
theorem recL_congr {L : Lay} {f g : Nat → Int} {len j : Nat} (hj : j < gcnt L len) (h : ∀ i, i < len → f i = g i) : vl 7 (recL L f j) = vl 7 (recL L g j) := by
  obtain ⟨_, fl, c, p, n, sz, V, hlen, _⟩ := got_of hj
  have hsz : (lsize L 0).toNat = sz := by rw [V.es]; rfl
  have e1 : (flg L).toNat = fl := by rw [V.ef]; rfl
  have e2 : L.c.toNat = c := by rw [V.ec]; rfl
  have e3 : L.p.toNat = p := by rw [V.ep]; rfl
  have e4 : L.n.toNat = n := by rw [V.en]; rfl
  have hb := V.b
  have h1 : sz * (j + 1) ≤ sz * gcnt L len := Nat.mul_le_mul_left sz (by omega)
  rw [← hlen, Nat.mul_add, Nat.mul_one] at h1
  unfold recL
  rw [hsz, e1, e2, e3, e4]
  have hq : 8 * (sz * j) + (fl + c + c + n * p) ≤ 8 * len := by omega
  generalize 8 * (sz * j) = q at *
  have e : recAt fl c p n (bt f) q = recAt fl c p n (bt g) q := by
    unfold recAt
    rw [nb_bt_congr h (show q + fl ≤ 8 * len by omega), nb_bt_congr h (show q + fl + c ≤ 8 * len by omega), nb_bt_congr h (show q + fl + c + c ≤ 8 * len by omega)]
    congr 1
    funext i
    split
    · rename_i hi
      have : (i + 1) * p ≤ n * p := Nat.mul_le_mul_right p (by omega)
      rw [Nat.add_mul, Nat.one_mul] at this
      exact nb_bt_congr h (by omega)
    · rfl
  rw [e]
end Go.Proofs.YtemcppakmcffgaaDoor
