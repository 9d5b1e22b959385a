/- What package records' Get does where it does not refuse. -/
import Derived.Test.YtemcppakmcffgaaDoorPkD
import Derived.Test.YtemcppakmcffgaaDoorRecTU
namespace Go.Proofs.YtemcppakmcffgaaDoor
open Go.RowKit Go.BigFrame
set_option linter.unusedSimpArgs false
set_option linter.unusedVariables false
set_option maxRecDepth 20000

theorem Bs.tail {w : World} {b o len : Nat} {f : Nat → Int} (B : Bs w (Option.some ⟨b, o, none⟩) len f) (k : Nat) (hk : k ≤ len) : Bs w (Option.some ⟨b, o + k, none⟩) (len - k) (fun i => f (k + i)) :=
  ⟨by have := B.len; omega, fun i hi => by
    obtain ⟨b', o', h1, h2⟩ := B.at_ (k + i) (by omega)
    cases h1
    exact ⟨_, _, rfl, by rw [Nat.add_assoc]; exact h2⟩, fun i hi => B.byte _ (by omega)⟩
/-- A record while it is got: how much of it, and how many bits were read. -/
def part (fl c p n : Nat) (β : Nat → Int) : Nat → Rcd
  | 0 => zrec
  | 1 => ⟨nb β 0 fl, 0, 0, fun _ => 0⟩
  | 2 => ⟨nb β 0 fl, nb β (0 + fl) c, nb β (0 + fl + c) c, fun _ => 0⟩
  | _ => recAt fl c p n β 0
def ppos (fl c p n : Nat) : Nat → Nat
  | 0 => 0
  | 1 => 0 + fl
  | 2 => 0 + fl + c + c
  | _ => 0 + fl + c + c + n * p

set_option maxHeartbeats 8000000 in
theorem get_good (L : Lay) (fl c p n sz m : Nat) (V : Vl L fl c p n sz) (a : Option Addr) (len cap : Nat) (f : Nat → Int) (w : World) (TL : LaidL w) (B : Bs w a len f) (hlen : len = sz * m) (h65 : len ≤ 65536) (hcap : len ≤ cap) :
    Calls Tryd.prog 10 #[(.agg (lv (L))), .slice a len cap] w fun e w' => ∃ s, e = .returned (.tuple #[s, .int .i64 0]) ∧ Ext w w' ∧ Lst w' 63 7 s m (fun j => rv (recAt fl c p n (bt f) (8 * (sz * j)))) ∧ ∀ b, s.ownBlock = some b → w.heap.size ≤ b := by
  have EX := Ext.refl w
  have CK : ∀ v, Ext w v → Calls Tryd.prog 23 #[(.agg (lv (L)))] v fun e w' => e = .returned (.bool true) ∧ Ext v w' := fun v h => by have := maybe_is L v (TL.later h); rwa [V.may] at this
  have SZ : ∀ v, Ext w v → Calls Tryd.prog 24 #[(.agg (lv (L)))] v fun e w' => e = .returned (.int .i64 (sz : Nat)) ∧ Ext v w' := fun v h => by have := sizeof_is L v (TL.later h); rwa [V.es] at this
  have FD := fun v => fields_is L fl c p n sz V v
  have HV : Hid (Vl L fl c p n sz) := V
  have HB : Hid (Bs w a len f) := B
  have HL : Hid (len = sz * m) := hlen
  have sz1 := V.s1
  have hmod : ((len : Int) % (sz : Int) != 0) = false := by rw [hlen]; simp
  have hdiv : (len : Int) / (sz : Int) = (m : Int) := by
    rw [hlen, Int.natCast_mul]; exact Int.mul_ediv_cancel_left _ (by omega)
  have hbig : ¬ (65536 : Int) < (len : Int) := by omega
  have hsz0 : ¬ (sz : Int) = 0 := by omega
  have szp : (0 : Int) < sz := by omega
  have hm6 : m ≤ 65536 := by
    have h2 : 1 * m ≤ sz * m := Nat.mul_le_mul_right m (by omega)
    omega
  clear V B hlen TL
  go_enter Tryd.func10, Tryd.ntmps10
  go_upto_region 1 with fail
  refine rebase (G := fun w' => Code.wp _ _ _ _ w') _ (fun v1 => Ext w v1 ∧ Lm v1 (w.heap.size) (L)) ⟨by repeat (first | with_reducible exact EX |  with_reducible refine Ext.alloc ?_ _ | with_reducible refine Ext.drew ?_ | with_reducible refine Ext.drewN ?_ _ | with_reducible refine Ext.setCell ?_ (by first | (simp; done) | omega | (dsimp only; omega)) _), by repeat (first | with_reducible assumption | with_reducible refine Lm.drew ?_ | with_reducible refine Lm.drewN ?_ _ | (with_reducible refine Lm.skip ?_ ?_; focus (first | omega | (simp; done))) | with_reducible refine Lm.set0 ?_ _ | with_reducible refine Lm.set4 ?_ _ | with_reducible refine Lm.set5 ?_ _ | with_reducible refine Lm.setk ?_ _ (by decide) | (with_reducible refine Lm.cells1 ?_; exact ⟨_, by with_reducible assumption⟩) | (with_reducible refine Lm.skips ?_ _ _ ?_; focus (first | omega | (simp; done))) | (with_reducible refine Lm.new ?_ <;> first | rfl | (simp; done)) | (with_reducible refine Lm.fresh ?_ ?_ <;> first | rfl | (simp; done)) | with_reducible refine Lm.alloc ?_ _)⟩ ?_; clear EX ; rintro v1 ⟨EX, LB⟩; rename World => v; have LBc0 := LB.c0; have LBc1 := LB.c1; have LBc2 := LB.c2; have LBc3 := LB.c3; have LBc4 := LB.c4; have LBc5 := LB.c5; have LBdg := LB.dg; have LBfz := LB.fz; have LBlt := LB.lt
  obtain ⟨b0, hb0⟩ : ∃ b0, w.heap.size = b0 := ⟨_, rfl⟩
  rw [hb0] at LB LBc0 LBc1 LBc2 LBc3 LBc4 LBc5 LBdg LBfz LBlt ⊢
  go_upto_region 8 with (first | (refine wpList_load_lay (b0) _ rfl rfl rfl LB ?_) | (go_at_call 23; with_reducible refine (CK _ EX).mono ?_; rintro e v1 ⟨rfl, hb⟩; replace EX := Ext.trans EX hb; replace LB := LB.later hb; replace LBc0 := LB.c0; replace LBc1 := LB.c1; replace LBc2 := LB.c2; replace LBc3 := LB.c3; replace LBc4 := LB.c4; replace LBc5 := LB.c5; replace LBdg := LB.dg; replace LBfz := LB.fz; replace LBlt := LB.lt; clear hb v; rename World => v) | (go_at_call 24; with_reducible refine (SZ _ EX).mono ?_; rintro e v1 ⟨rfl, hb⟩; replace EX := Ext.trans EX hb; replace LB := LB.later hb; replace LBc0 := LB.c0; replace LBc1 := LB.c1; replace LBc2 := LB.c2; replace LBc3 := LB.c3; replace LBc4 := LB.c4; replace LBc5 := LB.c5; replace LBdg := LB.dg; replace LBfz := LB.fz; replace LBlt := LB.lt; clear hb v; rename World => v))
  clear CK SZ
  go_upto_region 9 with (first | (refine wpList_load_lay (b0) _ rfl rfl rfl LB ?_) | (go_at_call 25; refine (FD _).mono ?_; rintro e v1 ⟨gF, bF, bP, bC, bA, rfl, hb, FDS, n0, n1, n2, n3, n4⟩; replace n0 := Nat.le_trans EX.more n0; replace n1 := Nat.le_trans EX.more n1; replace n2 := Nat.le_trans EX.more n2; replace n3 := Nat.le_trans EX.more n3; replace n4 := Nat.le_trans EX.more n4; replace EX := Ext.trans EX hb; clear LBc0 LBc1 LBc2 LBc3 LBc4 LBc5 LBdg LBfz LBlt; clear LB hb v; rename World => v))
  obtain ⟨cs, hmk, SL⟩ := make_recs m hm6 v
  go_upto_region 11 with fail
  have fl5 := FDS.lt
  refine rebase (G := fun w' => Code.wp _ _ _ _ w') _ (fun v1 => Ext w v1 ∧ Fds v1 gF bF bP bC bA fl c p n ∧ Lst v1 63 7 (.slice (some ⟨v.heap.size, 0, none⟩) m m) m (fun _ => rv zrec)) ⟨EX.alloc _, FDS.later (Ext.alloc (Ext.refl v) _), SL⟩ ?_
  have hgw := EX.more
  obtain ⟨g, hg⟩ : ∃ g, v.heap.size = g := ⟨_, rfl⟩
  rw [hg] at fl5 hgw ⊢
  clear EX FDS SL hmk FD hg v cs
  rintro v ⟨EX, FDS, SL⟩
  go_loopg [35] m (fun gk iv wr => ∃ i : Nat, i + gk = m ∧ iv = .int .i64 i ∧ Ext w wr ∧ Fds wr gF bF bP bC bA fl c p n ∧ Lst wr 63 7 (.slice (some ⟨g, 0, none⟩) m m) m (fun j => if j < i then rv (recAt fl c p n (bt f) (8 * (sz * j))) else rv zrec))
  case atStart => exact ⟨0, by omega, rfl, EX, FDS, SL.congr (fun i j _ _ => by rw [if_neg (by omega)])⟩
  case round =>
    clear EX FDS SL v
    obtain ⟨i, hi, rfl, EX, FDS, SL⟩ := hrel
    obtain ⟨v, hv⟩ : ∃ v, v = wr := ⟨_, rfl⟩
    subst hv
    obtain ⟨gko, hgko⟩ : ∃ x, x = gk := ⟨_, rfl⟩
    subst hgko
    by_cases hlt : i < m
    · have hii : (i : Int) < (m : Int) := by omega
      obtain ⟨q, hq⟩ : ∃ q, sz * i = q := ⟨_, rfl⟩
      have hiq : (i : Int) * (sz : Int) = (q : Int) := by rw [← hq, Int.natCast_mul, Int.mul_comm]
      have hzl : q + sz ≤ len := by
        have h1 : sz * (i + 1) ≤ sz * m := Nat.mul_le_mul_left sz (by omega)
        have := HL.out
        rw [Nat.mul_add] at h1
        omega
      obtain ⟨ba, oa, rfl, hcell⟩ := HB.out.some (by omega)
      have hbaw := cell_lt (hcell 0 (by omega))
      have hcq : ¬ cap = q := by omega
      have hql : (q : Int) ≤ (len : Int) := by omega
      have HQ : Hid (sz * i = q) := hq
      clear hq hcell
      go_upto_region 14 with fail
      have BT := (HB.out.tail q (by omega)).later EX
      have hb8 := HV.out.b
      have f8 := HV.out.f8
      have c32 := HV.out.c1
      have p16 := HV.out.p1
      have n4' := HV.out.n1
      have LG0 : Lg v g m m i (fun j => if j < i then rv (recAt fl c p n (bt f) (8 * (sz * j))) else rv zrec) zrec := ⟨SL, fun j hj => by rw [if_neg (by omega)]⟩
      have HRS : Hid (recAt fl c p n (bt (fun j => f (q + j))) 0 = recAt fl c p n (bt f) (8 * (sz * i))) := by
        have := rec_shift (fl := fl) (c := c) (p := p) (n := n) f i hb8.1
        rw [HQ.out] at this
        show _ = _
        rw [this, HQ.out]
      have kF := FDS.lt
      have kg := LG0.lt
      have kw := EX.more
      refine rebase (G := fun w' => Code.wp _ _ _ _ w') _ (fun v1 => Ext w v1 ∧ Fds v1 gF bF bP bC bA fl c p n ∧ Bs v1 (some ⟨ba, oa + q, none⟩) (len - q) (fun j => f (q + j)) ∧ S2m v1 v.heap.size (.slice (some ⟨ba, oa + q, none⟩) (len - q) (cap - q)) (.int .i64 ((ppos fl c p n 0 : Nat) : Int)) ∧ Lg v1 g m m i (upe (fun j => if j < i then rv (recAt fl c p n (bt f) (8 * (sz * j))) else rv zrec) i (rv (part fl c p n (bt (fun j => f (q + j))) 0))) (part fl c p n (bt (fun j => f (q + j))) 0))
        ⟨EX.alloc _, FDS.later ((Ext.refl v).alloc _), BT.later ((Ext.refl v).alloc _), S2m.new rfl rfl rfl, (LG0.later ((Ext.refl v).alloc _)).self⟩ ?_
      obtain ⟨bs, hbs⟩ : ∃ bs, v.heap.size = bs := ⟨_, rfl⟩
      rw [hbs] at kF kg kw ⊢
      clear EX FDS SL BT LG0 hbs v
      rintro v ⟨EX, FDS, BT, SB, LG⟩
      go_upto_region 15 with fail
      obtain ⟨X0, hX0⟩ : ∃ X0 : Nat → Nat → Value, (fun j => if j < i then rv (recAt fl c p n (bt f) (8 * (sz * j))) else rv zrec) = X0 := ⟨_, rfl⟩
      rw [hX0] at LG
      have HX0 : Hid ((fun j => if j < i then rv (recAt fl c p n (bt f) (8 * (sz * j))) else rv zrec) = X0) := hX0
      clear hX0
      obtain ⟨β, hβ⟩ : ∃ β, (fun j => f (q + j)) = β := ⟨_, rfl⟩
      rw [hβ] at LG BT HRS
      clear hβ
      have hqL : 8 * sz ≤ 8 * (len - q) := by omega
      have hL7 : len - q ≤ 70000 := by omega
      generalize len - q = lq at *
      generalize cap - q = cq at *
      go_loopg [46] 3 (fun gk kv wr => ∃ k : Nat, k + gk = 3 ∧ kv = .int .i64 k ∧ Ext w wr ∧ Fds wr gF bF bP bC bA fl c p n ∧ Bs wr (some ⟨ba, oa + q, none⟩) lq β ∧ S2m wr bs (.slice (some ⟨ba, oa + q, none⟩) lq cq) (.int .i64 ((ppos fl c p n k : Nat) : Int)) ∧ Lg wr g m m i (upe X0 i (rv (part fl c p n (bt β) k))) (part fl c p n (bt β) k))
      case atStart => exact ⟨0, rfl, rfl, EX, FDS, BT, SB, LG⟩
      case round =>
        clear EX FDS BT SB LG v
        obtain ⟨k, hk, rfl, EX, FDS, BT, SB, LG⟩ := hrel
        obtain ⟨v, hv⟩ : ∃ v, v = wr := ⟨_, rfl⟩
        subst hv
        have sbl := SB.lt
        rcases (show k = 0 ∨ k = 1 ∨ k = 2 ∨ k = 3 by omega) with rfl | rfl | rfl | rfl
        · have C0 := FDS.c0
          have C1 := FDS.c1
          go_upto_region 17 with fail
          have CG := fun v1 (h : Ext v v1) => flagGet bs bF 0 fl lq cq g m m i (some ⟨ba, oa + q, none⟩) β (upe X0 i (rv (part fl c p n (bt β) 0))) 0 0 0 (fun _ => 0) v1 (BT.later h) (SB.later h) (h.later FDS.cF) (LG.later h) hlt f8 hL7 (by omega) (by omega) (by omega) (by rintro _ ⟨rfl⟩; dsimp only; omega)
          have HH : Hid (Fds v gF bF bP bC bA fl c p n ∧ Bs v (some ⟨ba, oa + q, none⟩) lq β) := ⟨FDS, BT⟩
          have lgl := LG.lt
          refine rebase (G := fun w' => Code.wp _ _ _ _ w') _ (fun v1 => Ext v v1 ∧ v1.cell? ⟨v.heap.size, 0, none⟩ = some (.func (.func 93) #[] #[.pointer (some ⟨bF, 0, none⟩)])) ⟨(Ext.refl v).alloc _, new1 rfl⟩ ?_
          have hxx := EX.more
          obtain ⟨bx, hbx⟩ : ∃ b, v.heap.size = b := ⟨_, rfl⟩
          rw [hbx] at sbl lgl hxx ⊢
          clear C0 C1 FDS BT SB LG hbx
          rintro v1 ⟨E1, cx⟩
          have gc := fun x' : Alt (fun b => b = bs ∨ b = g) v1 => x'.cell (by rintro (h | h) <;> omega) cx
          refine wp_region_reads (fun i => decide (i < 5)) 1 6 (fun w' => ∃ x : Alt (fun b => b = bs ∨ b = g) v1, w' = x.out) (by kernel_rfl) (by kernel_rfl) (fun c a x v w h => by cases x <;> exact h) ⟨⟨v1.drew, (Chg.refl _ v1).drew⟩, rfl⟩ ?_
          intro l1 l2 h1 h2
          simp [pickB] at h1 h2
          subst h1 h2
          (repeat (first | go_big_quiet_step (fail))); refine wpQuiet_nil ?_; clear gc
          have E2 : Ext v v1.drew := E1.drew
          refine hold_step (n := 0) fun K hK => ?_
          go_wp2_with (first | (go_at_call 93; refine (CG _ E2).mono ?_; rintro e v2 ⟨rfl, LG2, SB2, CH⟩))
          refine hK _ _ ⟨⟨v2, (Chg.refl _ v1).drew.trans CH (fun b h => .inl h)⟩, rfl⟩ ?_
          clear hK K CG
          refine hold_done ?_
          rw [upe_upe] at LG2
          go_wp2
          go_roundg (gk - 1)
          case measure => omega
          case rel => exact ⟨1, by omega, by go_num, CH.over (EX.trans E2) (by rintro b (rfl | rfl) <;> omega), (HH.out.1.later E2).chg CH (by rintro (h | h) <;> omega) (by rintro (h | h) <;> omega) (by rintro (h | h) <;> omega) (by rintro (h | h) <;> omega) (by rintro (h | h) <;> omega), (HH.out.2.later E2).chg CH (by rintro _ ⟨rfl⟩ (h | h) <;> (dsimp only at h; omega)), SB2, LG2⟩
        · have C0 := FDS.c2
          have C1 := FDS.c3
          go_upto_region 17 with fail
          have CG := fun v1 (h : Ext v v1) => pointGet bs bP (0 + fl) c lq cq g m m i (some ⟨ba, oa + q, none⟩) β (upe X0 i (rv (part fl c p n (bt β) 1))) (nb (bt β) 0 fl) 0 0 (fun _ => 0) v1 (BT.later h) (SB.later h) (h.later FDS.cP) (LG.later h) hlt c32.2 hL7 (by omega) (by omega) (by omega) (by rintro _ ⟨rfl⟩; dsimp only; omega)
          have HH : Hid (Fds v gF bF bP bC bA fl c p n ∧ Bs v (some ⟨ba, oa + q, none⟩) lq β) := ⟨FDS, BT⟩
          have lgl := LG.lt
          refine rebase (G := fun w' => Code.wp _ _ _ _ w') _ (fun v1 => Ext v v1 ∧ v1.cell? ⟨v.heap.size, 0, none⟩ = some (.func (.func 96) #[] #[.pointer (some ⟨bP, 0, none⟩)])) ⟨(Ext.refl v).alloc _, new1 rfl⟩ ?_
          have hxx := EX.more
          obtain ⟨bx, hbx⟩ : ∃ b, v.heap.size = b := ⟨_, rfl⟩
          rw [hbx] at sbl lgl hxx ⊢
          clear C0 C1 FDS BT SB LG hbx
          rintro v1 ⟨E1, cx⟩
          have gc := fun x' : Alt (fun b => b = bs ∨ b = g) v1 => x'.cell (by rintro (h | h) <;> omega) cx
          refine wp_region_reads (fun i => decide (i < 5)) 1 6 (fun w' => ∃ x : Alt (fun b => b = bs ∨ b = g) v1, w' = x.out) (by kernel_rfl) (by kernel_rfl) (fun c a x v w h => by cases x <;> exact h) ⟨⟨v1.drew, (Chg.refl _ v1).drew⟩, rfl⟩ ?_
          intro l1 l2 h1 h2
          simp [pickB] at h1 h2
          subst h1 h2
          (repeat (first | go_big_quiet_step (fail))); refine wpQuiet_nil ?_; clear gc
          have E2 : Ext v v1.drew := E1.drew
          refine hold_step (n := 0) fun K hK => ?_
          go_wp2_with (first | (go_at_call 96; refine (CG _ E2).mono ?_; rintro e v2 ⟨rfl, LG2, SB2, CH⟩))
          refine hK _ _ ⟨⟨v2, (Chg.refl _ v1).drew.trans CH (fun b h => .inl h)⟩, rfl⟩ ?_
          clear hK K CG
          refine hold_done ?_
          rw [upe_upe] at LG2
          go_wp2
          go_roundg (gk - 1)
          case measure => omega
          case rel => exact ⟨2, by omega, by go_num, CH.over (EX.trans E2) (by rintro b (rfl | rfl) <;> omega), (HH.out.1.later E2).chg CH (by rintro (h | h) <;> omega) (by rintro (h | h) <;> omega) (by rintro (h | h) <;> omega) (by rintro (h | h) <;> omega) (by rintro (h | h) <;> omega), (HH.out.2.later E2).chg CH (by rintro _ ⟨rfl⟩ (h | h) <;> (dsimp only at h; omega)), SB2, LG2⟩
        · have C0 := FDS.c4
          have C1 := FDS.c5
          go_upto_region 17 with fail
          have CG := fun v1 (h : Ext v v1) => coloursGet bs bC bA (0 + fl + c + c) n p lq cq g m m i (some ⟨ba, oa + q, none⟩) β (upe X0 i (rv (part fl c p n (bt β) 2))) (nb (bt β) 0 fl) (nb (bt β) (0 + fl) c) (nb (bt β) (0 + fl + c) c) v1 (BT.later h) (SB.later h) (h.later FDS.cC) (fun i hi => h.later (FDS.cA i hi)) (LG.later h) hlt p16.2 n4'.2 hL7 (by omega) (by omega) (by omega) (by omega) (by rintro _ ⟨rfl⟩; dsimp only; omega)
          have HH : Hid (Fds v gF bF bP bC bA fl c p n ∧ Bs v (some ⟨ba, oa + q, none⟩) lq β) := ⟨FDS, BT⟩
          have lgl := LG.lt
          refine rebase (G := fun w' => Code.wp _ _ _ _ w') _ (fun v1 => Ext v v1 ∧ v1.cell? ⟨v.heap.size, 0, none⟩ = some (.func (.func 99) #[] #[.pointer (some ⟨bC, 0, none⟩)])) ⟨(Ext.refl v).alloc _, new1 rfl⟩ ?_
          have hxx := EX.more
          obtain ⟨bx, hbx⟩ : ∃ b, v.heap.size = b := ⟨_, rfl⟩
          rw [hbx] at sbl lgl hxx ⊢
          clear C0 C1 FDS BT SB LG hbx
          rintro v1 ⟨E1, cx⟩
          have gc := fun x' : Alt (fun b => b = bs ∨ b = g) v1 => x'.cell (by rintro (h | h) <;> omega) cx
          refine wp_region_reads (fun i => decide (i < 5)) 1 6 (fun w' => ∃ x : Alt (fun b => b = bs ∨ b = g) v1, w' = x.out) (by kernel_rfl) (by kernel_rfl) (fun c a x v w h => by cases x <;> exact h) ⟨⟨v1.drew, (Chg.refl _ v1).drew⟩, rfl⟩ ?_
          intro l1 l2 h1 h2
          simp [pickB] at h1 h2
          subst h1 h2
          (repeat (first | go_big_quiet_step (fail))); refine wpQuiet_nil ?_; clear gc
          have E2 : Ext v v1.drew := E1.drew
          refine hold_step (n := 0) fun K hK => ?_
          go_wp2_with (first | (go_at_call 99; refine (CG _ E2).mono ?_; rintro e v2 ⟨rfl, LG2, SB2, CH⟩))
          refine hK _ _ ⟨⟨v2, (Chg.refl _ v1).drew.trans CH (fun b h => .inl h)⟩, rfl⟩ ?_
          clear hK K CG
          refine hold_done ?_
          rw [upe_upe] at LG2
          go_wp2
          go_roundg (gk - 1)
          case measure => omega
          case rel => exact ⟨3, by omega, by go_num, CH.over (EX.trans E2) (by rintro b (rfl | rfl) <;> omega), (HH.out.1.later E2).chg CH (by rintro (h | h) <;> omega) (by rintro (h | h) <;> omega) (by rintro (h | h) <;> omega) (by rintro (h | h) <;> omega) (by rintro (h | h) <;> omega), (HH.out.2.later E2).chg CH (by rintro _ ⟨rfl⟩ (h | h) <;> (dsimp only at h; omega)), SB2, LG2⟩
        · go_wp2
          go_roundg (gko - 1)
          case measure => omega
          case rel =>
            refine ⟨i + 1, by omega, by go_num, EX, FDS, LG.lst.congr fun i' j hi' hj' => ?_⟩
            unfold upe
            rw [← HX0.out]
            show (if i' = i then _ else (if i' < i then rv (recAt fl c p n (bt f) (8 * (sz * i'))) else rv zrec)) j = _
            by_cases e : i' = i
            · rw [if_pos e, if_pos (by omega), e]
              show rv (recAt fl c p n (bt β) 0) j = _
              rw [HRS.out]
            · rw [if_neg e]
              by_cases e2 : i' < i
              · rw [if_pos e2, if_pos (by omega)]
              · rw [if_neg e2, if_neg (by omega)]
    · have hii : ¬ (i : Int) < (m : Int) := by omega
      obtain rfl : i = m := by omega
      go_wp2
      go_ret2
      exact ⟨.slice (some ⟨g, 0, none⟩) i i, rfl, EX, SL.congr (fun j t hj _ => by rw [if_pos hj]), fun b hb => by simp only [Value.ownBlock, Option.some.injEq] at hb; subst hb; rw [← hb0]; exact hgw⟩
theorem get_any (L : Lay) (a : Option Addr) (len cap : Nat) (f : Nat → Int) (w : World) (TL : LaidL w) (B : Bs w a len f) (hcap : len ≤ cap) : Calls Tryd.prog 10 #[(.agg (lv (L))), .slice a len cap] w (GotAll L f len w) := by
  cases hv : vlay L
  · exact (get_form L hv a len cap w TL).mono fun e w' h => gotall_none (by unfold gerr; rw [if_neg (by rw [hv]; decide)]) (by decide) h
  · by_cases hb : 65536 < len
    · exact (get_limit L hv a len cap hb w TL).mono fun e w' h => gotall_none (by unfold gerr; rw [if_pos hv, if_pos hb]) (by decide) h
    · obtain ⟨fl, c, p, n, sz, V⟩ := vl_of hv
      have hsz : (lsize L 0).toNat = sz := by rw [V.es]; rfl
      by_cases hm : len % sz = 0
      · have hlen : len = sz * (len / sz) := by have := Nat.div_add_mod len sz; omega
        have hg : gerr L len = 0 := by unfold gerr; rw [if_pos hv, if_neg hb, hsz, if_pos hm]
        refine (get_good L fl c p n sz (len / sz) V a len cap f w TL B hlen (by omega) hcap).mono fun e w' h => ?_
        obtain ⟨s, he, E, SL, hn⟩ := h
        refine ⟨s, by rw [hg]; exact he, E, ?_, hn⟩
        have e1 : (flg L).toNat = fl := by rw [V.ef]; rfl
        have e2 : L.c.toNat = c := by rw [V.ec]; rfl
        have e3 : L.p.toNat = p := by rw [V.ep]; rfl
        have e4 : L.n.toNat = n := by rw [V.en]; rfl
        unfold gcnt recL
        rw [if_pos hg, hsz, e1, e2, e3, e4]
        exact SL
      · exact (get_short' L fl c p n sz V a len cap hb hm w TL).mono fun e w' h => gotall_none (by unfold gerr; rw [if_pos hv, if_neg hb, hsz, if_neg hm]) (by decide) h
end Go.Proofs.YtemcppakmcffgaaDoor
