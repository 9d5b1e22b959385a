/- What the given reference's Put of records does, where all vertices have room. -/
import Derived.Test.YtemcppakmcffgaaGreatDoorRecP
import Derived.Test.YtemcppakmcffgaaGreatDoorBitL
import Derived.Test.YtemcppakmcffgaaGreatDoorReadsAB
namespace Go.Proofs.YtemcppakmcffgaaGreatDoor
open Go.RowKit Go.BigFrame
set_option linter.unusedSimpArgs false
set_option linter.unusedVariables false
/-- Vertices in memory, wherever they begin. -/
structure Vs (w : World) (a : Option Addr) (n : Nat) (R : Nat → Rcd) : Prop where
  es : Es w 7 a n (fun i => rv (R i))
  f : ∀ i, i < n → 0 ≤ (R i).f ∧ (R i).f < 256
  x : ∀ i, i < n → 0 ≤ (R i).x ∧ (R i).x < 4294967296
  y : ∀ i, i < n → 0 ≤ (R i).y ∧ (R i).y < 4294967296
  c : ∀ i k, i < n → k < 4 → 0 ≤ (R i).c k ∧ (R i).c k < 65536
theorem Vs.later {w w' : World} {a : Option Addr} {n : Nat} {R : Nat → Rcd} (B : Vs w a n R) (e : Ext w w') : Vs w' a n R := ⟨B.es.later e, B.f, B.x, B.y, B.c⟩
theorem Vm.fresh {v : World} {b n : Nat} {f : Nat → Value} {cs : Array Value} {t : TypeId} (hn : 0 < n) (hb : v.heap.size = b) (h : cs.size = n) : Vm ((v.alloc (.cells cs t)).setCells b 0 (vl n f)) b n f := by
  subst hb
  have key : ∀ i, i < n → ((v.alloc (.cells cs t)).setCells v.heap.size 0 (vl n f)).cell? ⟨v.heap.size, i, none⟩ = some (f i) := fun i hi => by
    have := World.rangeAt_setCells_same (v.alloc (.cells cs t)) v.heap.size 0 (vl n f) (by rw [vl_len]; exact there_new n h) i _ (vl_at n f hi)
    rw [Nat.zero_add] at this
    exact this
  exact ⟨cell_lt (key 0 hn), fun o => by rw [World.frozen?_setCells]; exact frz_new _ _ _ o, key⟩
theorem Vm.s7 {v : World} {b : Nat} {R : Rcd} (B : Vm v b 7 (rv R)) : S7m v b (.int .u8 R.f) (.int .u32 R.x) (.int .u32 R.y) (.int .u16 (R.c 0)) (.int .u16 (R.c 1)) (.int .u16 (R.c 2)) (.int .u16 (R.c 3)) :=
  ⟨B.lt, B.fz, B.dg 0 (by decide), B.dg 1 (by decide), B.dg 2 (by decide), B.dg 3 (by decide), B.dg 4 (by decide), B.dg 5 (by decide), B.dg 6 (by decide)⟩
theorem S7m.at3 {v : World} {b : Nat} {x0 x1 x2 : Value} {C : Nat → Int} (B : S7m v b x0 x1 x2 (.int .u16 (C 0)) (.int .u16 (C 1)) (.int .u16 (C 2)) (.int .u16 (C 3))) {k : Nat} (hk : k < 4) : v.cell? ⟨b, 3 + k, none⟩ = some (.int .u16 (C k)) :=
  match k, hk with | 0, _ => B.c3 | 1, _ => B.c4 | 2, _ => B.c5 | 3, _ => B.c6
theorem size_recQ : (Tryz.prog.info? 62).map (·.size) = some 7 := by kernel_rfl

/-- The reference's Put under way: the layout, the bytes so far, a row of bits. -/
structure PSt (w : World) (b0 : Nat) (L : Lay) (sv : Value) (q : Nat) (X : Nat → Nat → Value) (m : Nat) (β : Nat → Int) (v : World) (u : Value) (cnt : Nat) : Prop where
  ext : Ext w v
  lay : Lm v b0 L
  lst : Lst v 5 1 sv q X
  rr : RR v m u β cnt
  nm : ∀ b, In2 m u b → b0 + 1 ≤ b ∧ sv.ownBlock ≠ some b
  bw : w.heap.size = b0
section
variable {w v v' : World} {b0 q m cnt cnt' : Nat} {L : Lay} {sv u u' : Value} {X : Nat → Nat → Value} {β : Nat → Int}
theorem PSt.later (S : PSt w b0 L sv q X m β v u cnt) (e : Ext v v') : PSt w b0 L sv q X m β v' u cnt := ⟨S.ext.trans e, S.lay.later e, S.lst.later e, S.rr.later e, S.nm, S.bw⟩
theorem PSt.put (S : PSt w b0 L sv q X m β v u cnt) (R : RR v' m u' β cnt') (T : Stp2 v v' m u u') : PSt w b0 L sv q X m β v' u' cnt' := by
  have hb := S.bw
  have hlt := S.lay.lt
  refine ⟨T.1.over S.ext (fun i hi => by have := (S.nm i hi).1; omega), (S.lay.vm.blk2 (T.1.block b0 S.lay.lt (fun h => by have := (S.nm b0 h).1; omega)) T.1.size).lm, S.lst.chg T.1 (fun b hb h => (S.nm b h).2 hb), R, fun b hb => ?_, S.bw⟩
  rcases hb with rfl | hb
  · exact S.nm _ (.inl rfl)
  · rcases T.2 b hb with h | h
    · exact S.nm b (.inr h)
    · exact ⟨by omega, fun e => by have := S.lst.heap e; omega⟩
end
theorem ew_flat1 (n : Nat) (F : Nat → Value) : ew 1 n (fun i _ => F i) = vl n F := by
  unfold ew
  rw [Nat.mul_one]
  exact vl_ext fun j _ => by rw [Nat.div_one]
set_option maxRecDepth 20000 in
set_option maxHeartbeats 8000000 in
theorem rput9_good (L : Lay) (fl c p n sz N : Nat) (V : Vl L fl c p n sz) (a : Option Addr) (cap : Nat) (R : Nat → Rcd) (w : World) (B : Vs w a N R) (hroom : ∀ i, i < N → Room fl c p n (R i)) (hN : N ≤ 100000) :
    Calls Tryz.prog 7 #[(.agg (lv (L))), .slice a N cap] w fun e w' => ∃ s, e = .returned (.tuple #[s, .int .i64 (if 65536 < N * sz then 3 else 0)]) ∧ Ext w w' ∧ Lst w' 5 1 s (if 65536 < N * sz then 0 else N * sz) (fun j _ => .int .u8 (pby fl c p n sz R j)) ∧ ∀ b, s.ownBlock = some b → w.heap.size ≤ b := by
  have EX := Ext.refl w
  obtain ⟨i0, hi0, hz0, hz1, hz2⟩ := info_parts info_byte
  have CK := fun v => rcheck9_any L v
  rw [V.may] at CK
  have FG := fun v => rflag_any L v
  rw [V.ef] at FG
  have SZ := fun v => rsize_any L 0 (by decide) v
  rw [V.es] at SZ
  have hc1 := V.ec
  have hp1 := V.ep
  have hn1 := V.en
  have HV : Hid (Vl L fl c p n sz) := V
  have HB : Hid (Vs w a N R) := B
  have HR : Hid (∀ i, i < N → Room fl c p n (R i)) := hroom
  have sz1 := V.s1
  have f8 := V.f8
  have c32 := V.c1
  have p16 := V.p1
  have n4 := V.n1
  clear V B hroom
  obtain ⟨x, hx⟩ : ∃ x : Int, (if 65536 < N * sz then 3 else 0) = x := ⟨_, rfl⟩
  obtain ⟨M, hM⟩ : ∃ M : Nat, (if 65536 < N * sz then 0 else N * sz) = M := ⟨_, rfl⟩
  rw [hx, hM]
  have HXX : Hid ((if 65536 < N * sz then 3 else 0) = x ∧ (if 65536 < N * sz then 0 else N * sz) = M) := ⟨hx, hM⟩
  clear hx hM
  go_enter Tryz.func7, Tryz.ntmps7
  go_upto_region 1 with fail
  refine rebase (G := fun w' => Code.wp _ _ _ _ w') _ (fun v1 => Ext w v1 ∧ Lm v1 (w.heap.size) (L)) ⟨by repeat (first | with_reducible exact EX |  with_reducible refine Ext.alloc ?_ _ | with_reducible refine Ext.drew ?_ | with_reducible refine Ext.drewN ?_ _ | with_reducible refine Ext.setCell ?_ (by first | (simp; done) | omega | (dsimp only; omega)) _), by repeat (first | with_reducible assumption | with_reducible refine Lm.drew ?_ | with_reducible refine Lm.drewN ?_ _ | (with_reducible refine Lm.skip ?_ ?_; focus (first | omega | (simp; done))) | with_reducible refine Lm.set0 ?_ _ | with_reducible refine Lm.set4 ?_ _ | with_reducible refine Lm.set5 ?_ _ | with_reducible refine Lm.setk ?_ _ (by decide) | (with_reducible refine Lm.cells1 ?_; exact ⟨_, by with_reducible assumption⟩) | (with_reducible refine Lm.skips ?_ _ _ ?_; focus (first | omega | (simp; done))) | (with_reducible refine Lm.new ?_ <;> first | rfl | (simp; done)) | (with_reducible refine Lm.fresh ?_ ?_ <;> first | rfl | (simp; done)) | with_reducible refine Lm.alloc ?_ _)⟩ ?_; clear EX ; rintro v1 ⟨EX, LB⟩; rename World => v; have LBc0 := LB.c0; have LBc1 := LB.c1; have LBc2 := LB.c2; have LBc3 := LB.c3; have LBc4 := LB.c4; have LBc5 := LB.c5; have LBdg := LB.dg; have LBfz := LB.fz; have LBlt := LB.lt
  obtain ⟨b0, hb0⟩ : ∃ b0, w.heap.size = b0 := ⟨_, rfl⟩
  rw [hb0] at LB LBc0 LBc1 LBc2 LBc3 LBc4 LBc5 LBdg LBfz LBlt ⊢
  go_upto_region 4 with (first | (refine wpList_load_lay (b0) _ rfl rfl rfl LB ?_) | (go_at_call 25; with_reducible refine (CK _).mono ?_; rintro e v1 ⟨rfl, hb⟩; replace EX := Ext.trans EX hb; replace LB := LB.later hb; replace LBc0 := LB.c0; replace LBc1 := LB.c1; replace LBc2 := LB.c2; replace LBc3 := LB.c3; replace LBc4 := LB.c4; replace LBc5 := LB.c5; replace LBdg := LB.dg; replace LBfz := LB.fz; replace LBlt := LB.lt; clear hb v; rename World => v))
  go_loopg [6] N (fun gk iv wr => ∃ i : Nat, i + gk = N ∧ iv = .int .i64 i ∧ Ext w wr ∧ Lm wr (b0) (L))
  case atStart => exact ⟨0, by omega, rfl, EX, LB⟩
  case round =>
    clear LBc0 LBc1 LBc2 LBc3 LBc4 LBc5 LBdg LBfz LBlt
    clear EX LB v
    obtain ⟨i, hi, rfl, EX, LB⟩ := hrel
    obtain ⟨v, hv⟩ : ∃ v, v = wr := ⟨_, rfl⟩
    subst hv
    have LBc0 := LB.c0; have LBc1 := LB.c1; have LBc2 := LB.c2; have LBc3 := LB.c3; have LBc4 := LB.c4; have LBc5 := LB.c5; have LBdg := LB.dg; have LBfz := LB.fz; have LBlt := LB.lt
    obtain ⟨gko, hgko⟩ : ∃ x, x = gk := ⟨_, rfl⟩
    subst hgko
    by_cases hlt : i < N
    · have hii : (i : Int) < (N : Int) := by omega
      obtain ⟨b, o, rfl, hr⟩ := HB.out.es.form (by omega)
      have RX := range_later (hr i hlt) EX
      have RM := HR.out i hlt
      have bf := HB.out.f i hlt
      have bx := HB.out.x i hlt
      have by' := HB.out.y i hlt
      have bc := fun k (hk : k < 4) => HB.out.c i k hlt hk
      clear hr
      have TH : (v.alloc (.cells #[.int .u8 0, .int .u32 0, .int .u32 0, .int .u16 0, .int .u16 0, .int .u16 0, .int .u16 0] 62)).there v.heap.size 0 7 := there_new 7 rfl
      generalize hRi : R i = Q at *
      have one7 : ∀ u ∈ vl 7 (rv Q), u.oneCell' = true := rv_one Q
      obtain ⟨g, hg⟩ : ∃ g, rv Q = g := ⟨_, rfl⟩
      rw [hg] at RX one7
      go_upto_region 7 with (first | (refine wpList_load_mid rfl 62 (.tmp 24) rfl b (o + i * 7) rfl (vl 7 g) _ RX Tryz.underlying62 rfl (by rw [vl_len]; kernel_rfl) ?_) | (refine wpList_store_vl rfl 62 (.tmp 7) (.tmp 25) rfl v.heap.size 0 7 g rfl rfl ?th size_recQ one7 ?_))
      case th => exact TH
      simp only [Act.put]
      have qb : b0 < v.heap.size := LBlt
      refine rebase (G := fun w' => Code.wp _ _ _ _ w') _ (fun v1 => Ext w v1 ∧ Lm v1 (b0) (L) ∧ Vm v1 v.heap.size 7 g) ⟨Ext.setCells' (EX.alloc _) _ EX.more _ _, (LB.alloc _).skips (by omega) _ _, Vm.fresh (by decide) rfl rfl⟩ ?_
      obtain ⟨b1, hb1⟩ : ∃ b, v.heap.size = b := ⟨_, rfl⟩
      rw [hb1] at qb ⊢
      clear LBc0 LBc1 LBc2 LBc3 LBc4 LBc5 LBdg LBfz LBlt
      clear EX LB RX TH hb1 one7 v
      rintro v ⟨EX, LB, XV⟩
      subst hg
      have XB := XV.s7
      clear XV hRi
      obtain ⟨F, X, Y, C⟩ := Q
      dsimp only at XB bf bx by' bc
      have LBc0 := LB.c0; have LBc1 := LB.c1; have LBc2 := LB.c2; have LBc3 := LB.c3; have LBc4 := LB.c4; have LBc5 := LB.c5; have LBdg := LB.dg; have LBfz := LB.fz; have LBlt := LB.lt; have XBc0 := XB.c0; have XBc1 := XB.c1; have XBc2 := XB.c2; have XBc3 := XB.c3; have XBc4 := XB.c4; have XBc5 := XB.c5; have XBc6 := XB.c6; have XBfz := XB.fz; have XBlt := XB.lt
      have FT1 := fun v => fits9_any F fl (by omega) (by omega) v
      have FT2 := fun v => fits9_any X c bx (by omega) v
      have FT3 := fun v => fits9_any Y c by' (by omega) v
      rw [decide_eq_true RM.f.2] at FT1
      rw [decide_eq_true RM.x.2] at FT2
      rw [decide_eq_true RM.y.2] at FT3
      have gLBc0 := fun x' : Grow v => (LB.later x'.ext).c0; have gLBc1 := fun x' : Grow v => (LB.later x'.ext).c1; have gLBc2 := fun x' : Grow v => (LB.later x'.ext).c2; have gLBc3 := fun x' : Grow v => (LB.later x'.ext).c3; have gLBc4 := fun x' : Grow v => (LB.later x'.ext).c4; have gLBc5 := fun x' : Grow v => (LB.later x'.ext).c5; have gLBdg := fun x' : Grow v => (LB.later x'.ext).dg; have gLBfz := fun x' : Grow v => (LB.later x'.ext).fz; have gLBlt := fun x' : Grow v => (LB.later x'.ext).lt; have gXBc0 := fun x' : Grow v => (XB.later x'.ext).c0; have gXBc1 := fun x' : Grow v => (XB.later x'.ext).c1; have gXBc2 := fun x' : Grow v => (XB.later x'.ext).c2; have gXBc3 := fun x' : Grow v => (XB.later x'.ext).c3; have gXBc4 := fun x' : Grow v => (XB.later x'.ext).c4; have gXBc5 := fun x' : Grow v => (XB.later x'.ext).c5; have gXBc6 := fun x' : Grow v => (XB.later x'.ext).c6; have gXBfz := fun x' : Grow v => (XB.later x'.ext).fz; have gXBlt := fun x' : Grow v => (XB.later x'.ext).lt; refine wp_region_grow (by kernel_rfl) (by kernel_rfl) ?_; (repeat (first | (go_big_quiet_want; refine quiet_load_lay _ (b0) rfl rfl (by rintro _ ⟨x', rfl⟩; exact LB.later x'.ext) ?_; simp only [Act.put, List.setIfInBounds_toArray, List.set_cons_succ, List.set_cons_zero]; go_big_quiet_on) | go_big_quiet_step ((go_at_call 27; with_reducible exact calls_grow (FG _))) | go_big_quiet_step ((go_at_call 26; with_reducible exact calls_grow (FT1 _))) | go_big_quiet_step ((go_at_call 26; with_reducible exact calls_grow (FT2 _))) | go_big_quiet_step ((go_at_call 26; with_reducible exact calls_grow (FT3 _))) | go_big_quiet_step (fail))); refine wpQuiet_nil ?_; clear gLBc0 gLBc1 gLBc2 gLBc3 gLBc4 gLBc5 gLBdg gLBfz gLBlt gXBc0 gXBc1 gXBc2 gXBc3 gXBc4 gXBc5 gXBc6 gXBfz gXBlt; rintro _ ⟨xq, rfl⟩; replace EX := Ext.trans EX xq.ext; replace LB := LB.later xq.ext; replace XB := XB.later xq.ext; replace LBc0 := LB.c0; replace LBc1 := LB.c1; replace LBc2 := LB.c2; replace LBc3 := LB.c3; replace LBc4 := LB.c4; replace LBc5 := LB.c5; replace LBdg := LB.dg; replace LBfz := LB.fz; replace LBlt := LB.lt; replace XBc0 := XB.c0; replace XBc1 := XB.c1; replace XBc2 := XB.c2; replace XBc3 := XB.c3; replace XBc4 := XB.c4; replace XBc5 := XB.c5; replace XBc6 := XB.c6; replace XBfz := XB.fz; replace XBlt := XB.lt; generalize xq.out = v1 at *; clear xq v; rename World => v
      clear FT1 FT2 FT3
      go_upto_region 10 with fail
      go_loopg [8] 4 (fun gk kv wr => ∃ k : Nat, k + gk = 4 ∧ kv = .int .i64 k ∧ Ext w wr ∧ Lm wr (b0) (L) ∧ S7m wr (b1) (.int .u8 F) (.int .u32 X) (.int .u32 Y) (.int .u16 (C 0)) (.int .u16 (C 1)) (.int .u16 (C 2)) (.int .u16 (C 3)))
      case atStart => exact ⟨0, rfl, rfl, EX, LB, XB⟩
      case round =>
        clear LBc0 LBc1 LBc2 LBc3 LBc4 LBc5 LBdg LBfz LBlt XBc0 XBc1 XBc2 XBc3 XBc4 XBc5 XBc6 XBfz XBlt
        clear EX LB XB v
        obtain ⟨k, hk, rfl, EX, LB, XB⟩ := hrel
        obtain ⟨v, hv⟩ : ∃ v, v = wr := ⟨_, rfl⟩
        subst hv
        have LBc0 := LB.c0; have LBc1 := LB.c1; have LBc2 := LB.c2; have LBc3 := LB.c3; have LBc4 := LB.c4; have LBc5 := LB.c5; have LBdg := LB.dg; have LBfz := LB.fz; have LBlt := LB.lt; have XBc0 := XB.c0; have XBc1 := XB.c1; have XBc2 := XB.c2; have XBc3 := XB.c3; have XBc4 := XB.c4; have XBc5 := XB.c5; have XBc6 := XB.c6; have XBfz := XB.fz; have XBlt := XB.lt
        by_cases hk4 : k < 4
        · have hk4i : (k : Int) < 4 := by omega
          have bk := bc k hk4
          go_upto_region 12 with fail
          have gX3 := fun x' : Grow v => (XB.later x'.ext).at3 hk4
          by_cases hkn : k < n
          · have d1 : decide ((k : Int) < (n : Int)) = true := decide_eq_true (by omega)
            have d2 : decide ((k : Int) ≥ (n : Int)) = false := decide_eq_false (by omega)
            have d3 : decide (n ≤ k) = false := decide_eq_false (by omega)
            have d4 : decide (k < n) = true := decide_eq_true hkn
            have FT := fun v => fits9_any (C k) p (by omega) (by omega) v
            rw [decide_eq_true (show C k < 2 ^ p from (RM.c k hkn).2)] at FT
            generalize C k = ck at *
            have gLBc0 := fun x' : Grow v => (LB.later x'.ext).c0; have gLBc1 := fun x' : Grow v => (LB.later x'.ext).c1; have gLBc2 := fun x' : Grow v => (LB.later x'.ext).c2; have gLBc3 := fun x' : Grow v => (LB.later x'.ext).c3; have gLBc4 := fun x' : Grow v => (LB.later x'.ext).c4; have gLBc5 := fun x' : Grow v => (LB.later x'.ext).c5; have gLBdg := fun x' : Grow v => (LB.later x'.ext).dg; have gLBfz := fun x' : Grow v => (LB.later x'.ext).fz; have gLBlt := fun x' : Grow v => (LB.later x'.ext).lt; have gXBc0 := fun x' : Grow v => (XB.later x'.ext).c0; have gXBc1 := fun x' : Grow v => (XB.later x'.ext).c1; have gXBc2 := fun x' : Grow v => (XB.later x'.ext).c2; have gXBc3 := fun x' : Grow v => (XB.later x'.ext).c3; have gXBc4 := fun x' : Grow v => (XB.later x'.ext).c4; have gXBc5 := fun x' : Grow v => (XB.later x'.ext).c5; have gXBc6 := fun x' : Grow v => (XB.later x'.ext).c6; have gXBfz := fun x' : Grow v => (XB.later x'.ext).fz; have gXBlt := fun x' : Grow v => (XB.later x'.ext).lt; refine wp_region_grow (by kernel_rfl) (by kernel_rfl) ?_; (repeat (first | go_big_quiet_step ((go_at_call 26; with_reducible exact calls_grow (FT _))) | go_big_quiet_step (fail))); refine wpQuiet_nil ?_; clear gX3; clear gLBc0 gLBc1 gLBc2 gLBc3 gLBc4 gLBc5 gLBdg gLBfz gLBlt gXBc0 gXBc1 gXBc2 gXBc3 gXBc4 gXBc5 gXBc6 gXBfz gXBlt; rintro _ ⟨xq, rfl⟩; replace EX := Ext.trans EX xq.ext; replace LB := LB.later xq.ext; replace XB := XB.later xq.ext; replace LBc0 := LB.c0; replace LBc1 := LB.c1; replace LBc2 := LB.c2; replace LBc3 := LB.c3; replace LBc4 := LB.c4; replace LBc5 := LB.c5; replace LBdg := LB.dg; replace LBfz := LB.fz; replace LBlt := LB.lt; replace XBc0 := XB.c0; replace XBc1 := XB.c1; replace XBc2 := XB.c2; replace XBc3 := XB.c3; replace XBc4 := XB.c4; replace XBc5 := XB.c5; replace XBc6 := XB.c6; replace XBfz := XB.fz; replace XBlt := XB.lt; generalize xq.out = v1 at *; clear xq v; rename World => v
            go_wp2
            go_roundg (gk - 1)
            case measure => omega
            case rel => exact ⟨k + 1, by omega, by go_num, EX, LB, XB⟩
          · have d1 : decide ((k : Int) < (n : Int)) = false := decide_eq_false (by omega)
            have d2 : decide ((k : Int) ≥ (n : Int)) = true := decide_eq_true (by omega)
            have d3 : decide (n ≤ k) = true := decide_eq_true (by omega)
            have d4 : decide (k < n) = false := decide_eq_false hkn
            have hz : C k = 0 := RM.z k (by omega) hk4
            rw [hz] at gX3
            have gLBc0 := fun x' : Grow v => (LB.later x'.ext).c0; have gLBc1 := fun x' : Grow v => (LB.later x'.ext).c1; have gLBc2 := fun x' : Grow v => (LB.later x'.ext).c2; have gLBc3 := fun x' : Grow v => (LB.later x'.ext).c3; have gLBc4 := fun x' : Grow v => (LB.later x'.ext).c4; have gLBc5 := fun x' : Grow v => (LB.later x'.ext).c5; have gLBdg := fun x' : Grow v => (LB.later x'.ext).dg; have gLBfz := fun x' : Grow v => (LB.later x'.ext).fz; have gLBlt := fun x' : Grow v => (LB.later x'.ext).lt; have gXBc0 := fun x' : Grow v => (XB.later x'.ext).c0; have gXBc1 := fun x' : Grow v => (XB.later x'.ext).c1; have gXBc2 := fun x' : Grow v => (XB.later x'.ext).c2; have gXBc3 := fun x' : Grow v => (XB.later x'.ext).c3; have gXBc4 := fun x' : Grow v => (XB.later x'.ext).c4; have gXBc5 := fun x' : Grow v => (XB.later x'.ext).c5; have gXBc6 := fun x' : Grow v => (XB.later x'.ext).c6; have gXBfz := fun x' : Grow v => (XB.later x'.ext).fz; have gXBlt := fun x' : Grow v => (XB.later x'.ext).lt; refine wp_region_grow (by kernel_rfl) (by kernel_rfl) ?_; (repeat (first | go_big_quiet_step (fail))); refine wpQuiet_nil ?_; clear gX3; clear gLBc0 gLBc1 gLBc2 gLBc3 gLBc4 gLBc5 gLBdg gLBfz gLBlt gXBc0 gXBc1 gXBc2 gXBc3 gXBc4 gXBc5 gXBc6 gXBfz gXBlt; rintro _ ⟨xq, rfl⟩; replace EX := Ext.trans EX xq.ext; replace LB := LB.later xq.ext; replace XB := XB.later xq.ext; replace LBc0 := LB.c0; replace LBc1 := LB.c1; replace LBc2 := LB.c2; replace LBc3 := LB.c3; replace LBc4 := LB.c4; replace LBc5 := LB.c5; replace LBdg := LB.dg; replace LBfz := LB.fz; replace LBlt := LB.lt; replace XBc0 := XB.c0; replace XBc1 := XB.c1; replace XBc2 := XB.c2; replace XBc3 := XB.c3; replace XBc4 := XB.c4; replace XBc5 := XB.c5; replace XBc6 := XB.c6; replace XBfz := XB.fz; replace XBlt := XB.lt; generalize xq.out = v1 at *; clear xq v; rename World => v
            go_wp2
            go_roundg (gk - 1)
            case measure => omega
            case rel => exact ⟨k + 1, by omega, by go_num, EX, LB, XB⟩
        · have hk4i : ¬ (k : Int) < 4 := by omega
          clear XB
          go_wp2
          go_roundg (gko - 1)
          case measure => omega
          case rel => exact ⟨i + 1, by omega, by go_num, EX, LB⟩
    · have hii : ¬ (i : Int) < (N : Int) := by omega
      clear hlt
      obtain ⟨P, hP⟩ : ∃ P, (N : Int) * (sz : Int) = P := ⟨_, rfl⟩
      have hPN : P = ((N * sz : Nat) : Int) := by rw [← hP]; push_cast; rfl
      have hPb : N * sz ≤ 100000 * 161 := Nat.mul_le_mul hN sz1.2
      have hP0 : 0 ≤ P ∧ P ≤ 16100000 := by omega
      have eb : Hid (w.heap.size = b0) := hb0
      have HPN : Hid (P = ((N * sz : Nat) : Int)) := hPN
      clear hPN hPb
      by_cases hbig : 65536 < N * sz
      · obtain ⟨hx, hM⟩ := HXX.out
        rw [if_pos hbig] at hx hM
        clear HXX
        subst hx hM
        have hbi : (65536 : Int) < P := by have := HPN.out; omega
        go_wp2_with (first | (refine wpList_load_lay (b0) _ rfl rfl rfl LB ?_) | (go_at_call 28; with_reducible refine (SZ _).mono ?_; rintro e v1 ⟨rfl, hb⟩; replace EX := Ext.trans EX hb; replace LB := LB.later hb; replace LBc0 := LB.c0; replace LBc1 := LB.c1; replace LBc2 := LB.c2; replace LBc3 := LB.c3; replace LBc4 := LB.c4; replace LBc5 := LB.c5; replace LBdg := LB.dg; replace LBfz := LB.fz; replace LBlt := LB.lt; clear hb v; rename World => v))
        go_ret2
        exact ⟨_, rfl, EX, Lst.nil _ _ _ _, by simp [Value.ownBlock]⟩
      · obtain ⟨hx, hM⟩ := HXX.out
        rw [if_neg hbig] at hx hM
        clear HXX
        subst hx hM
        have hbi : ¬ (65536 : Int) < P := by have := HPN.out; omega
        clear HPN
        go_upto_region 18 with (first | (refine wpList_load_lay (b0) _ rfl rfl rfl LB ?_) | (go_at_call 28; with_reducible refine (SZ _).mono ?_; rintro e v1 ⟨rfl, hb⟩; replace EX := Ext.trans EX hb; replace LB := LB.later hb; replace LBc0 := LB.c0; replace LBc1 := LB.c1; replace LBc2 := LB.c2; replace LBc3 := LB.c3; replace LBc4 := LB.c4; replace LBc5 := LB.c5; replace LBdg := LB.dg; replace LBfz := LB.fz; replace LBlt := LB.lt; clear hb v; rename World => v))
        have HP : Hid ((N : Int) * (sz : Int) = P) := hP
        clear hP
        go_loopg [9, 10] N (fun gk ov iv wr => ∃ (i : Nat) (sv : Value), sv = ov ∧ i + gk = N ∧ iv = .int .i64 i ∧ Ext w wr ∧ Lm wr (b0) (L) ∧ Lst wr 5 1 sv (i * sz) (fun j _ => .int .u8 (pby fl c p n sz R j)) ∧ ∀ b, sv.ownBlock = some b → b0 + 1 ≤ b)
        case atStart => exact ⟨0, _, rfl, by omega, rfl, EX, LB, by rw [Nat.zero_mul]; exact Lst.nil _ _ _ _, by simp [Value.ownBlock]⟩
        case round =>
          clear LBc0 LBc1 LBc2 LBc3 LBc4 LBc5 LBdg LBfz LBlt
          clear EX LB v
          obtain ⟨i, sv, rfl, hi, rfl, EX, LB, SL, hnew⟩ := hrel
          obtain ⟨v, hv⟩ : ∃ v, v = wr := ⟨_, rfl⟩
          subst hv
          have LBc0 := LB.c0; have LBc1 := LB.c1; have LBc2 := LB.c2; have LBc3 := LB.c3; have LBc4 := LB.c4; have LBc5 := LB.c5; have LBdg := LB.dg; have LBfz := LB.fz; have LBlt := LB.lt
          obtain ⟨gko, hgko⟩ : ∃ x, x = gk := ⟨_, rfl⟩
          subst hgko
          by_cases hlt : i < N
          · have hii : (i : Int) < (N : Int) := by omega
            obtain ⟨b, o, rfl, hr⟩ := HB.out.es.form (by omega)
            have RX := hr i hlt
            have RM := HR.out i hlt
            have bf := HB.out.f i hlt
            have bx := HB.out.x i hlt
            have by' := HB.out.y i hlt
            have bc := fun k (hk : k < 4) => HB.out.c i k hlt hk
            clear hr
            have HQ : Hid (∀ q, q < sz → pby fl c p n sz R (i * sz + q) = nb (zb (rbk fl c p (R i) n) (fl + c + c + n * p)) (8 * q) 8) := fun q hq => by
              unfold pby
              rw [Nat.mul_comm i sz, Nat.mul_add_div (by omega), Nat.div_eq_of_lt hq, Nat.mul_add_mod, Nat.mod_eq_of_lt hq, Nat.add_zero]
            generalize R i = Q at *
            obtain ⟨F, X, Y, C⟩ := Q
            dsimp only at bf bx by' bc
            have hbits := rbk_bits fl c p ⟨F, X, Y, C⟩ n
            have e0 : nb (rbk fl c p ⟨F, X, Y, C⟩ n) 0 fl = F := rbk_f RM n
            have e1 : nb (rbk fl c p ⟨F, X, Y, C⟩ n) fl c = X := rbk_x RM n
            have e2 : nb (rbk fl c p ⟨F, X, Y, C⟩ n) (fl + c) c = Y := rbk_y RM n
            have e3 : ∀ k, k < n → nb (rbk fl c p ⟨F, X, Y, C⟩ n) (fl + c + c + k * p) p = C k := fun k hk => rbk_c RM hk (Nat.le_refl n)
            have x0 : w.cell? ⟨b, o + i * 7, none⟩ = some (.int .u8 F) := RX 0 _ rfl
            have x1 : w.cell? ⟨b, o + i * 7 + 1, none⟩ = some (.int .u32 X) := RX 1 _ rfl
            have x2 : w.cell? ⟨b, o + i * 7 + 2, none⟩ = some (.int .u32 Y) := RX 2 _ rfl
            have x3 : ∀ k, k < 4 → w.cell? ⟨b, o + i * 7 + 3 + k, none⟩ = some (.int .u16 (C k)) := fun k hk => by
              have := RX (3 + k) (.int .u16 (C k)) (by rw [vl_at _ _ (show 3 + k < 7 by omega), Nat.add_comm 3 k]; rfl)
              rw [← Nat.add_assoc] at this
              exact this
            have HX : Hid (∀ k, k < 4 → w.cell? ⟨b, o + i * 7 + 3 + k, none⟩ = some (.int .u16 (C k))) := x3
            have HE : Hid (∀ k, k < n → nb (rbk fl c p ⟨F, X, Y, C⟩ n) (fl + c + c + k * p) p = C k) := e3
            clear RX x3 e3 RM
            generalize rbk fl c p ⟨F, X, Y, C⟩ n = β at *
            have ls := fun b (h : sv.ownBlock = some b) => SL.heap h
            go_upto_region 21 with (first | (go_at_call 29; refine (rnew_any _).mono ?_; rintro e v1 ⟨rfl, hb, HRR⟩))
            have P0 : PSt w b0 L sv (i * sz) (fun j _ => .int .u8 (pby fl c p n sz R j)) v.heap.size β v1 (.slice none 0 0) 0 := by
              refine ⟨EX.trans hb, LB.later hb, SL.later hb, HRR β hbits, fun b h => ?_, eb.out⟩
              rcases h with rfl | h
              · exact ⟨LBlt, fun e => by have := ls _ e; omega⟩
              · cases h
            clear LBc0 LBc1 LBc2 LBc3 LBc4 LBc5 LBdg LBfz LBlt
            clear EX LB SL HRR hb ls
            generalize v.heap.size = m at *
            clear v
            rename World => v
            
            have LB := P0.lay; have LBc0 := LB.c0; have LBc1 := LB.c1; have LBc2 := LB.c2; have LBc3 := LB.c3; have LBc4 := LB.c4; have LBc5 := LB.c5; have LBdg := LB.dg; have LBfz := LB.fz; have LBlt := LB.lt; have gLB := fun x' : Alt (In2 m (.slice none 0 0)) v => (LB.vm.blk2 (x'.chg.block b0 LB.lt (fun h => by have := (P0.nm b0 h).1; omega)) x'.chg.size).lm; have gLBc0 := fun x' : Alt (In2 m (.slice none 0 0)) v => (gLB x').c0; have gLBc1 := fun x' : Alt (In2 m (.slice none 0 0)) v => (gLB x').c1; have gLBc2 := fun x' : Alt (In2 m (.slice none 0 0)) v => (gLB x').c2; have gLBc3 := fun x' : Alt (In2 m (.slice none 0 0)) v => (gLB x').c3; have gLBc4 := fun x' : Alt (In2 m (.slice none 0 0)) v => (gLB x').c4; have gLBc5 := fun x' : Alt (In2 m (.slice none 0 0)) v => (gLB x').c5; have gLBdg := fun x' : Alt (In2 m (.slice none 0 0)) v => (gLB x').dg; have gLBfz := fun x' : Alt (In2 m (.slice none 0 0)) v => (gLB x').fz; have gLBlt := fun x' : Alt (In2 m (.slice none 0 0)) v => (gLB x').lt; have gx0 := fun x' : Alt (In2 m (.slice none 0 0)) v => x'.cell (fun h => by have := (P0.nm b h).1; have := P0.bw; have := cell_lt x0; omega) (P0.ext.later x0); refine wp_region_reads (fun i => decide (i < 8)) 2 10 (fun w' => ∃ x : Alt (In2 m (.slice none 0 0)) v, w' = x.out) (by kernel_rfl) (by kernel_rfl) (fun c a x v w h => by cases x <;> exact h) ⟨⟨v.drew, (Chg.refl _ v).drew⟩, rfl⟩ ?_; intro l1 l2 h1 h2; simp [pickB] at h1 h2; subst h1 h2; (repeat (first | (go_big_quiet_want; refine quiet_load_lay _ (b0) rfl rfl (by rintro _ ⟨x', rfl⟩; exact gLB x') ?_; simp only [Act.put, List.setIfInBounds_toArray, List.set_cons_succ, List.set_cons_zero]; go_big_quiet_on) | go_big_quiet_step (fail))); refine wpQuiet_nil ?_; clear gLBc0 gLBc1 gLBc2 gLBc3 gLBc4 gLBc5 gLBdg gLBfz gLBlt gLB gx0; clear LBc0 LBc1 LBc2 LBc3 LBc4 LBc5 LBdg LBfz LBlt; clear LB; have PD := P0.later (Ext.drew (Ext.refl v)); have CD : Chg (In2 m (.slice none 0 0)) v v.drew := (Chg.refl _ v).drew; refine hold_step (n := 1) fun K hK => ?_; go_wp2_with (first | (go_at_call 27; refine (FG _).mono ?_; rintro e v2 ⟨rfl, hb2⟩)); replace PD := PD.later hb2; replace CD := CD.trans (T := fun _ => False) (Chg.of hb2) (fun _ h => h.elim); refine hK _ _ ⟨⟨v2, CD⟩, rfl⟩ ?_; clear hK K hb2; refine hold_step (n := 0) fun K hK => ?_; go_wp2_with (first | (go_at_call 30; refine (rput_any m 0 fl _ β F _ PD.rr (by omega) e0 (by omega)).mono ?_; rintro e v1 ⟨rfl, u1, RR1, ST1⟩)); have P1 := PD.put RR1 ST1; refine hK _ _ ⟨⟨v1, CD.trans ST1.1 (fun i h => .inl h)⟩, rfl⟩ ?_; clear hK K RR1 ST1 PD CD P0; refine hold_done ?_; go_upto_region 22 with fail
            clear v
            rename World => v
            rw [Nat.zero_add] at P1
            have LB := P1.lay; have LBc0 := LB.c0; have LBc1 := LB.c1; have LBc2 := LB.c2; have LBc3 := LB.c3; have LBc4 := LB.c4; have LBc5 := LB.c5; have LBdg := LB.dg; have LBfz := LB.fz; have LBlt := LB.lt; have gLB := fun x' : Alt (In2 m (u1)) v => (LB.vm.blk2 (x'.chg.block b0 LB.lt (fun h => by have := (P1.nm b0 h).1; omega)) x'.chg.size).lm; have gLBc0 := fun x' : Alt (In2 m (u1)) v => (gLB x').c0; have gLBc1 := fun x' : Alt (In2 m (u1)) v => (gLB x').c1; have gLBc2 := fun x' : Alt (In2 m (u1)) v => (gLB x').c2; have gLBc3 := fun x' : Alt (In2 m (u1)) v => (gLB x').c3; have gLBc4 := fun x' : Alt (In2 m (u1)) v => (gLB x').c4; have gLBc5 := fun x' : Alt (In2 m (u1)) v => (gLB x').c5; have gLBdg := fun x' : Alt (In2 m (u1)) v => (gLB x').dg; have gLBfz := fun x' : Alt (In2 m (u1)) v => (gLB x').fz; have gLBlt := fun x' : Alt (In2 m (u1)) v => (gLB x').lt; have gx0 := fun x' : Alt (In2 m (u1)) v => x'.cell (fun h => by have := (P1.nm b h).1; have := P1.bw; have := cell_lt x1; omega) (P1.ext.later x1); refine wp_region_reads (fun i => decide (i < 9)) 1 10 (fun w' => ∃ x : Alt (In2 m (u1)) v, w' = x.out) (by kernel_rfl) (by kernel_rfl) (fun c a x v w h => by cases x <;> exact h) ⟨⟨v.drew, (Chg.refl _ v).drew⟩, rfl⟩ ?_; intro l1 l2 h1 h2; simp [pickB] at h1 h2; subst h1 h2; (repeat (first | (go_big_quiet_want; refine quiet_load_lay _ (b0) rfl rfl (by rintro _ ⟨x', rfl⟩; exact gLB x') ?_; simp only [Act.put, List.setIfInBounds_toArray, List.set_cons_succ, List.set_cons_zero]; go_big_quiet_on) | go_big_quiet_step (fail))); refine wpQuiet_nil ?_; clear gLBc0 gLBc1 gLBc2 gLBc3 gLBc4 gLBc5 gLBdg gLBfz gLBlt gLB gx0; clear LBc0 LBc1 LBc2 LBc3 LBc4 LBc5 LBdg LBfz LBlt; clear LB; have PD := P1.later (Ext.drew (Ext.refl v)); have CD : Chg (In2 m (u1)) v v.drew := (Chg.refl _ v).drew; refine hold_step (n := 0) fun K hK => ?_; go_wp2_with (first | (go_at_call 30; refine (rput_any m fl c _ β X _ PD.rr (by omega) e1 (by omega)).mono ?_; rintro e v1 ⟨rfl, u1, RR1, ST1⟩)); have P2 := PD.put RR1 ST1; refine hK _ _ ⟨⟨v1, CD.trans ST1.1 (fun i h => .inl h)⟩, rfl⟩ ?_; clear hK K RR1 ST1 PD CD P1; refine hold_done ?_; go_upto_region 23 with fail
            clear v
            rename World => v
            have LB := P2.lay; have LBc0 := LB.c0; have LBc1 := LB.c1; have LBc2 := LB.c2; have LBc3 := LB.c3; have LBc4 := LB.c4; have LBc5 := LB.c5; have LBdg := LB.dg; have LBfz := LB.fz; have LBlt := LB.lt; have gLB := fun x' : Alt (In2 m (u1)) v => (LB.vm.blk2 (x'.chg.block b0 LB.lt (fun h => by have := (P2.nm b0 h).1; omega)) x'.chg.size).lm; have gLBc0 := fun x' : Alt (In2 m (u1)) v => (gLB x').c0; have gLBc1 := fun x' : Alt (In2 m (u1)) v => (gLB x').c1; have gLBc2 := fun x' : Alt (In2 m (u1)) v => (gLB x').c2; have gLBc3 := fun x' : Alt (In2 m (u1)) v => (gLB x').c3; have gLBc4 := fun x' : Alt (In2 m (u1)) v => (gLB x').c4; have gLBc5 := fun x' : Alt (In2 m (u1)) v => (gLB x').c5; have gLBdg := fun x' : Alt (In2 m (u1)) v => (gLB x').dg; have gLBfz := fun x' : Alt (In2 m (u1)) v => (gLB x').fz; have gLBlt := fun x' : Alt (In2 m (u1)) v => (gLB x').lt; have gx0 := fun x' : Alt (In2 m (u1)) v => x'.cell (fun h => by have := (P2.nm b h).1; have := P2.bw; have := cell_lt x2; omega) (P2.ext.later x2); refine wp_region_reads (fun i => decide (i < 9)) 1 10 (fun w' => ∃ x : Alt (In2 m (u1)) v, w' = x.out) (by kernel_rfl) (by kernel_rfl) (fun c a x v w h => by cases x <;> exact h) ⟨⟨v.drew, (Chg.refl _ v).drew⟩, rfl⟩ ?_; intro l1 l2 h1 h2; simp [pickB] at h1 h2; subst h1 h2; (repeat (first | (go_big_quiet_want; refine quiet_load_lay _ (b0) rfl rfl (by rintro _ ⟨x', rfl⟩; exact gLB x') ?_; simp only [Act.put, List.setIfInBounds_toArray, List.set_cons_succ, List.set_cons_zero]; go_big_quiet_on) | go_big_quiet_step (fail))); refine wpQuiet_nil ?_; clear gLBc0 gLBc1 gLBc2 gLBc3 gLBc4 gLBc5 gLBdg gLBfz gLBlt gLB gx0; clear LBc0 LBc1 LBc2 LBc3 LBc4 LBc5 LBdg LBfz LBlt; clear LB; have PD := P2.later (Ext.drew (Ext.refl v)); have CD : Chg (In2 m (u1)) v v.drew := (Chg.refl _ v).drew; refine hold_step (n := 0) fun K hK => ?_; go_wp2_with (first | (go_at_call 30; refine (rput_any m (fl + c) c _ β Y _ PD.rr (by omega) e2 (by omega)).mono ?_; rintro e v1 ⟨rfl, u1, RR1, ST1⟩)); have P3 := PD.put RR1 ST1; refine hK _ _ ⟨⟨v1, CD.trans ST1.1 (fun i h => .inl h)⟩, rfl⟩ ?_; clear hK K RR1 ST1 PD CD P2; refine hold_done ?_; go_upto_region 25 with fail
            clear v x0 x1 x2 e0 e1 e2
            rename World => v
            go_loopg [12] n (fun gk kv wr => ∃ (k : Nat) (u : Value), k + gk = n ∧ kv = .int .i64 k ∧ PSt w b0 L sv (i * sz) (fun j _ => .int .u8 (pby fl c p n sz R j)) m β wr u (fl + c + c + k * p))
            case atStart => exact ⟨0, _, by omega, rfl, by rw [Nat.zero_mul]; exact P3⟩
            case round =>
              clear P3 v
              obtain ⟨k, u1, hk, rfl, P4⟩ := hrel
              obtain ⟨v, hv⟩ : ∃ v, v = wr := ⟨_, rfl⟩
              subst hv
              by_cases hkn : k < n
              · have hki : (k : Int) < (n : Int) := by omega
                have hk4 : (k : Int) < 4 := by omega
                have x3 := HX.out k (by omega)
                have e3 := HE.out k hkn
                have bk := bc k (by omega)
                have hkp : (k + 1) * p ≤ 4 * 16 := Nat.mul_le_mul (by omega) (by omega)
                have hkq : (k + 1) * p = k * p + p := by rw [Nat.add_mul, Nat.one_mul]
                have HQ2 : Hid (fl + c + c + k * p + p = fl + c + c + (k + 1) * p) := show _ = _ by omega
                obtain ⟨A, hA⟩ : ∃ A, fl + c + c + k * p = A := ⟨_, rfl⟩
                rw [hA] at P4 e3 HQ2
                have hA2 : A + p ≤ 524288 := by omega
                generalize C k = ck at *
                clear hA hkp hkq
                have LB := P4.lay
                have LBc0 := LB.c0; have LBc1 := LB.c1; have LBc2 := LB.c2; have LBc3 := LB.c3; have LBc4 := LB.c4; have LBc5 := LB.c5; have LBdg := LB.dg; have LBfz := LB.fz; have LBlt := LB.lt
                go_upto_region 27 with fail
                clear LBc0 LBc1 LBc2 LBc3 LBc4 LBc5 LBdg LBfz LBlt
                clear LB
                have LB := P4.lay; have LBc0 := LB.c0; have LBc1 := LB.c1; have LBc2 := LB.c2; have LBc3 := LB.c3; have LBc4 := LB.c4; have LBc5 := LB.c5; have LBdg := LB.dg; have LBfz := LB.fz; have LBlt := LB.lt; have gLB := fun x' : Alt (In2 m (u1)) v => (LB.vm.blk2 (x'.chg.block b0 LB.lt (fun h => by have := (P4.nm b0 h).1; omega)) x'.chg.size).lm; have gLBc0 := fun x' : Alt (In2 m (u1)) v => (gLB x').c0; have gLBc1 := fun x' : Alt (In2 m (u1)) v => (gLB x').c1; have gLBc2 := fun x' : Alt (In2 m (u1)) v => (gLB x').c2; have gLBc3 := fun x' : Alt (In2 m (u1)) v => (gLB x').c3; have gLBc4 := fun x' : Alt (In2 m (u1)) v => (gLB x').c4; have gLBc5 := fun x' : Alt (In2 m (u1)) v => (gLB x').c5; have gLBdg := fun x' : Alt (In2 m (u1)) v => (gLB x').dg; have gLBfz := fun x' : Alt (In2 m (u1)) v => (gLB x').fz; have gLBlt := fun x' : Alt (In2 m (u1)) v => (gLB x').lt; have gx0 := fun x' : Alt (In2 m (u1)) v => x'.cell (fun h => by have := (P4.nm b h).1; have := P4.bw; have := cell_lt x3; omega) (P4.ext.later x3); refine wp_region_reads (fun i => decide (i < 11)) 1 12 (fun w' => ∃ x : Alt (In2 m (u1)) v, w' = x.out) (by kernel_rfl) (by kernel_rfl) (fun c a x v w h => by cases x <;> exact h) ⟨⟨v.drew, (Chg.refl _ v).drew⟩, rfl⟩ ?_; intro l1 l2 h1 h2; simp [pickB] at h1 h2; subst h1 h2; (repeat (first | (go_big_quiet_want; refine quiet_load_lay _ (b0) rfl rfl (by rintro _ ⟨x', rfl⟩; exact gLB x') ?_; simp only [Act.put, List.setIfInBounds_toArray, List.set_cons_succ, List.set_cons_zero]; go_big_quiet_on) | go_big_quiet_step (fail))); refine wpQuiet_nil ?_; clear gLBc0 gLBc1 gLBc2 gLBc3 gLBc4 gLBc5 gLBdg gLBfz gLBlt gLB gx0; clear LBc0 LBc1 LBc2 LBc3 LBc4 LBc5 LBdg LBfz LBlt; clear LB; have PD := P4.later (Ext.drew (Ext.refl v)); have CD : Chg (In2 m (u1)) v v.drew := (Chg.refl _ v).drew; refine hold_step (n := 0) fun K hK => ?_; go_wp2_with (first | (go_at_call 30; refine (rput_any m A p _ β ck _ PD.rr (by omega) e3 hA2).mono ?_; rintro e v1 ⟨rfl, u1, RR1, ST1⟩)); have P5 := PD.put RR1 ST1; refine hK _ _ ⟨⟨v1, CD.trans ST1.1 (fun i h => .inl h)⟩, rfl⟩ ?_; clear hK K RR1 ST1 PD CD P4; refine hold_done ?_; go_upto_region 26 with fail
                rw [HQ2.out] at P5
                go_wp2
                go_roundg (gk - 1)
                case measure => omega
                case rel => exact ⟨k + 1, _, by omega, by go_num, P5⟩
              · have hki : ¬ (k : Int) < (n : Int) := by omega
                obtain rfl : k = n := by omega
                have LB := P4.lay
                have LBc0 := LB.c0; have LBc1 := LB.c1; have LBc2 := LB.c2; have LBc3 := LB.c3; have LBc4 := LB.c4; have LBc5 := LB.c5; have LBdg := LB.dg; have LBfz := LB.fz; have LBlt := LB.lt
                go_upto_region 28 with fail
                clear LBc0 LBc1 LBc2 LBc3 LBc4 LBc5 LBdg LBfz LBlt
                clear LB
                have hb8 := HV.out.b
                have hsz8 : (fl + c + c + k * p + 7) / 8 = sz := by omega
                have hcap : (i + 1) * sz ≤ N * sz := Nat.mul_le_mul_right sz (by omega)
                have hcq : (i + 1) * sz = i * sz + sz := by rw [Nat.add_mul, Nat.one_mul]
                have hN6 : i * sz + sz ≤ 65536 := by omega
                have BY := rbytes_any m (fl + c + c + k * p) u1 β v P4.rr
                have HCQ : Hid ((i + 1) * sz = i * sz + sz) := hcq
                have HAB : Hid (vl sz (ab β (fl + c + c + k * p)) = vl sz (fun q => Value.int .u8 (pby fl c p k sz R (i * sz + q)))) := vl_ext fun q hq => by rw [HQ.out q hq]; rfl
                generalize fl + c + c + k * p = cnt at *
                clear hb8 hcap hcq HQ
                go_wp2_with (first
                  | (go_at_call 31; refine BY.mono ?_; rintro e v1 ⟨ub, rfl, E1, OB, nb1⟩; rw [hsz8] at OB; obtain ⟨g, cp, hub, _, _⟩ := OB.form (by omega); subst hub; have P5 := P4.later E1; have SL2 : v1.ownsRow 0 5 1 sv (i * sz) (ew 1 (i * sz) (fun j _ => Value.int .u8 (pby fl c p k sz R j))) := P5.lst; clear BY P4)
                  | (at_builtin; refine wpList_append_lst _ (by rfl) _ _ _ (by rfl) 5 i0 _ 1 1 Tryz.underlying31 hi0 hz0 hz1 hz2 rfl (by omega) sv (i * sz) _ (by rfl) SL2 ⟨g, 0, none⟩ sz cp (vl sz (ab β cnt)) (by rfl) (by rw [vl_len, Nat.mul_one]) (OB.cells rfl) (fun u hu => by unfold vl at hu; rw [List.mem_map] at hu; obtain ⟨_, _, rfl⟩ := hu; rfl) (by omega) (by unfold maxLen; omega) (by omega) ?_))
                intro gg cap' v2 own hat
                have HAT : Hid ((sv = .slice (some ⟨gg, 0, none⟩) (i * sz) cap' ∧ v1.grownBy v2 (some gg)) ∨ (v1.heap.size ≤ gg ∧ v1.grownBy v2 none)) := hat
                have OW : Hid (v2.ownsRow 0 5 1 (.slice (some ⟨gg, 0, none⟩) (i * sz + sz) cap') (i * sz + sz) (ew 1 (i * sz) (fun j _ => Value.int .u8 (pby fl c p k sz R j)) ++ vl sz (ab β cnt))) := own
                clear hat own
                go_wp2
                have CH : Chg (fun b => sv.ownBlock = some b) v1 v2 := by
                  rcases HAT.out with ⟨h, h'⟩ | ⟨_, h'⟩
                  · exact Chg.grown h' (fun b hb => by rw [h]; exact hb)
                  · exact Chg.grown h' (fun b hb => by cases hb)
                have hwb := P5.bw
                have hl5 := P5.lay.lt
                go_roundg (gko - 1)
                case measure => omega
                case rel =>
                  refine ⟨i + 1, _, rfl, by omega, by go_num, CH.over P5.ext (fun b hb => by have := hnew b hb; omega), (P5.lay.vm.blk2 (CH.block b0 P5.lay.lt (fun h => by have := hnew b0 h; omega)) CH.size).lm, ?_, fun b hb => ?_⟩
                  · have := OW.out
                    rw [HAB.out, ew_flat1, ← vl_add (i * sz) sz (fun j => Value.int .u8 (pby fl c p k sz R j)), ← ew_flat1] at this
                    rw [HCQ.out]
                    exact this
                  · simp only [Value.ownBlock, Option.some.injEq] at hb
                    subst hb
                    rcases HAT.out with ⟨h, _⟩ | ⟨h, _⟩
                    · exact hnew gg (by rw [h]; rfl)
                    · omega
          · have hii : ¬ (i : Int) < (N : Int) := by omega
            obtain rfl : i = N := by omega
            go_wp2
            go_ret2
            exact ⟨sv, rfl, EX, SL, fun b hb => by have := hnew b hb; have := eb.out; omega⟩
end Go.Proofs.YtemcppakmcffgaaGreatDoor
