/- What package records' Get does where it does not refuse. What package records' closures that lay, and lay itself, do over fit: is there room? -/
import Derived.Test.YtemcppakmcffgaaDoorPkCD
import Derived.Test.YtemcppakmcffgaaDoorRecTU
namespace Go.Proofs.YtemcppakmcffgaaDoor
open Go.RowKit Go.BigFrame
set_option linter.unusedSimpArgs false
set_option linter.unusedVariables false
set_option maxRecDepth 20000

theorem Bs.tail {w : World} {b o len : Nat} {f : Nat → Int} (B : Bs w (Option.some ⟨b, o, none⟩) len f) (k : Nat) (hk : k ≤ len) : Bs w (Option.some ⟨b, o + k, none⟩) (len - k) (fun i => f (k + i)) :=
  ⟨by have := B.len; omega, fun i hi => by
    obtain ⟨b', o', h1, h2⟩ := B.at_ (k + i) (by omega)
    cases h1
    exact ⟨_, _, rfl, by rw [Nat.add_assoc]; exact h2⟩, fun i hi => B.byte _ (by omega)⟩
/-- A record while it is got: how much of it, and how many bits were read. -/
def part (fl c p n : Nat) (β : Nat → Int) : Nat → Rcd
  | 0 => zrec
  | 1 => ⟨nb β 0 fl, 0, 0, fun _ => 0⟩
  | 2 => ⟨nb β 0 fl, nb β (0 + fl) c, nb β (0 + fl + c) c, fun _ => 0⟩
  | _ => recAt fl c p n β 0
def ppos (fl c p n : Nat) : Nat → Nat
  | 0 => 0
  | 1 => 0 + fl
  | 2 => 0 + fl + c + c
  | _ => 0 + fl + c + c + n * p

set_option maxHeartbeats 8000000 in
theorem get_good (L : Lay) (fl c p n sz m : Nat) (V : Vl L fl c p n sz) (a : Option Addr) (len cap : Nat) (f : Nat → Int) (w : World) (TL : LaidL w) (B : Bs w a len f) (hlen : len = sz * m) (h65 : len ≤ 65536) (hcap : len ≤ cap) :
    Calls Tryd.prog 10 #[(.agg (lv (L))), .slice a len cap] w fun e w' => ∃ s, e = .returned (.tuple #[s, .int .i64 0]) ∧ Ext w w' ∧ Lst w' 63 7 s m (fun j => rv (recAt fl c p n (bt f) (8 * (sz * j)))) ∧ ∀ b, s.ownBlock = some b → w.heap.size ≤ b := by
  have EX := Ext.refl w
  have CK : ∀ v, Ext w v → Calls Tryd.prog 23 #[(.agg (lv (L)))] v fun e w' => e = .returned (.bool true) ∧ Ext v w' := fun v h => by have := maybe_is L v (TL.later h); rwa [V.may] at this
  have SZ : ∀ v, Ext w v → Calls Tryd.prog 24 #[(.agg (lv (L)))] v fun e w' => e = .returned (.int .i64 (sz : Nat)) ∧ Ext v w' := fun v h => by have := sizeof_is L v (TL.later h); rwa [V.es] at this
  have FD := fun v => fields_is L fl c p n sz V v
  have HV : Hid (Vl L fl c p n sz) := V
  have HB : Hid (Bs w a len f) := B
  have HL : Hid (len = sz * m) := hlen
  have sz1 := V.s1
  have hmod : ((len : Int) % (sz : Int) != 0) = false := by rw [hlen]; simp
  have hdiv : (len : Int) / (sz : Int) = (m : Int) := by
    rw [hlen, Int.natCast_mul]; exact Int.mul_ediv_cancel_left _ (by omega)
  have hbig : ¬ (65536 : Int) < (len : Int) := by omega
  have hsz0 : ¬ (sz : Int) = 0 := by omega
  have szp : (0 : Int) < sz := by omega
  have hm6 : m ≤ 65536 := by
    have h2 : 1 * m ≤ sz * m := Nat.mul_le_mul_right m (by omega)
    omega
  clear V B hlen TL
  go_enter Tryd.func10, Tryd.ntmps10
  go_upto_region 1 with fail
  refine rebase (G := fun w' => Code.wp _ _ _ _ w') _ (fun v1 => Ext w v1 ∧ Lm v1 (w.heap.size) (L)) ⟨by repeat (first | with_reducible exact EX |  with_reducible refine Ext.alloc ?_ _ | with_reducible refine Ext.drew ?_ | with_reducible refine Ext.drewN ?_ _ | with_reducible refine Ext.setCell ?_ (by first | (simp; done) | omega | (dsimp only; omega)) _), by repeat (first | with_reducible assumption | with_reducible refine Lm.drew ?_ | with_reducible refine Lm.drewN ?_ _ | (with_reducible refine Lm.skip ?_ ?_; focus (first | omega | (simp; done))) | with_reducible refine Lm.set0 ?_ _ | with_reducible refine Lm.set4 ?_ _ | with_reducible refine Lm.set5 ?_ _ | with_reducible refine Lm.setk ?_ _ (by decide) | (with_reducible refine Lm.cells1 ?_; exact ⟨_, by with_reducible assumption⟩) | (with_reducible refine Lm.skips ?_ _ _ ?_; focus (first | omega | (simp; done))) | (with_reducible refine Lm.new ?_ <;> first | rfl | (simp; done)) | (with_reducible refine Lm.fresh ?_ ?_ <;> first | rfl | (simp; done)) | with_reducible refine Lm.alloc ?_ _)⟩ ?_; clear EX ; rintro v1 ⟨EX, LB⟩; rename World => v; have LBc0 := LB.c0; have LBc1 := LB.c1; have LBc2 := LB.c2; have LBc3 := LB.c3; have LBc4 := LB.c4; have LBc5 := LB.c5; have LBdg := LB.dg; have LBfz := LB.fz; have LBlt := LB.lt
  obtain ⟨b0, hb0⟩ : ∃ b0, w.heap.size = b0 := ⟨_, rfl⟩
  rw [hb0] at LB LBc0 LBc1 LBc2 LBc3 LBc4 LBc5 LBdg LBfz LBlt ⊢
  go_upto_region 8 with (first | (refine wpList_load_lay (b0) _ rfl rfl rfl LB ?_) | (go_at_call 23; with_reducible refine (CK _ EX).mono ?_; rintro e v1 ⟨rfl, hb⟩; replace EX := Ext.trans EX hb; replace LB := LB.later hb; replace LBc0 := LB.c0; replace LBc1 := LB.c1; replace LBc2 := LB.c2; replace LBc3 := LB.c3; replace LBc4 := LB.c4; replace LBc5 := LB.c5; replace LBdg := LB.dg; replace LBfz := LB.fz; replace LBlt := LB.lt; clear hb v; rename World => v) | (go_at_call 24; with_reducible refine (SZ _ EX).mono ?_; rintro e v1 ⟨rfl, hb⟩; replace EX := Ext.trans EX hb; replace LB := LB.later hb; replace LBc0 := LB.c0; replace LBc1 := LB.c1; replace LBc2 := LB.c2; replace LBc3 := LB.c3; replace LBc4 := LB.c4; replace LBc5 := LB.c5; replace LBdg := LB.dg; replace LBfz := LB.fz; replace LBlt := LB.lt; clear hb v; rename World => v))
  clear CK SZ
  go_upto_region 9 with (first | (refine wpList_load_lay (b0) _ rfl rfl rfl LB ?_) | (go_at_call 25; refine (FD _).mono ?_; rintro e v1 ⟨gF, bF, bP, bC, bA, rfl, hb, FDS, n0, n1, n2, n3, n4⟩; replace n0 := Nat.le_trans EX.more n0; replace n1 := Nat.le_trans EX.more n1; replace n2 := Nat.le_trans EX.more n2; replace n3 := Nat.le_trans EX.more n3; replace n4 := Nat.le_trans EX.more n4; replace EX := Ext.trans EX hb; clear LBc0 LBc1 LBc2 LBc3 LBc4 LBc5 LBdg LBfz LBlt; clear LB hb v; rename World => v))
  obtain ⟨cs, hmk, SL⟩ := make_recs m hm6 v
  go_upto_region 11 with fail
  have fl5 := FDS.lt
  refine rebase (G := fun w' => Code.wp _ _ _ _ w') _ (fun v1 => Ext w v1 ∧ Fds v1 gF bF bP bC bA fl c p n ∧ Lst v1 63 7 (.slice (some ⟨v.heap.size, 0, none⟩) m m) m (fun _ => rv zrec)) ⟨EX.alloc _, FDS.later (Ext.alloc (Ext.refl v) _), SL⟩ ?_
  have hgw := EX.more
  obtain ⟨g, hg⟩ : ∃ g, v.heap.size = g := ⟨_, rfl⟩
  rw [hg] at fl5 hgw ⊢
  clear EX FDS SL hmk FD hg v cs
  rintro v ⟨EX, FDS, SL⟩
  go_loopg [35] m (fun gk iv wr => ∃ i : Nat, i + gk = m ∧ iv = .int .i64 i ∧ Ext w wr ∧ Fds wr gF bF bP bC bA fl c p n ∧ Lst wr 63 7 (.slice (some ⟨g, 0, none⟩) m m) m (fun j => if j < i then rv (recAt fl c p n (bt f) (8 * (sz * j))) else rv zrec))
  case atStart => exact ⟨0, by omega, rfl, EX, FDS, SL.congr (fun i j _ _ => by rw [if_neg (by omega)])⟩
  case round =>
    clear EX FDS SL v
    obtain ⟨i, hi, rfl, EX, FDS, SL⟩ := hrel
    obtain ⟨v, hv⟩ : ∃ v, v = wr := ⟨_, rfl⟩
    subst hv
    obtain ⟨gko, hgko⟩ : ∃ x, x = gk := ⟨_, rfl⟩
    subst hgko
    by_cases hlt : i < m
    · have hii : (i : Int) < (m : Int) := by omega
      obtain ⟨q, hq⟩ : ∃ q, sz * i = q := ⟨_, rfl⟩
      have hiq : (i : Int) * (sz : Int) = (q : Int) := by rw [← hq, Int.natCast_mul, Int.mul_comm]
      have hzl : q + sz ≤ len := by
        have h1 : sz * (i + 1) ≤ sz * m := Nat.mul_le_mul_left sz (by omega)
        have := HL.out
        rw [Nat.mul_add] at h1
        omega
      obtain ⟨ba, oa, rfl, hcell⟩ := HB.out.some (by omega)
      have hbaw := cell_lt (hcell 0 (by omega))
      have hcq : ¬ cap = q := by omega
      have hql : (q : Int) ≤ (len : Int) := by omega
      have HQ : Hid (sz * i = q) := hq
      clear hq hcell
      go_upto_region 14 with fail
      have BT := (HB.out.tail q (by omega)).later EX
      have hb8 := HV.out.b
      have f8 := HV.out.f8
      have c32 := HV.out.c1
      have p16 := HV.out.p1
      have n4' := HV.out.n1
      have LG0 : Lg v g m m i (fun j => if j < i then rv (recAt fl c p n (bt f) (8 * (sz * j))) else rv zrec) zrec := ⟨SL, fun j hj => by rw [if_neg (by omega)]⟩
      have HRS : Hid (recAt fl c p n (bt (fun j => f (q + j))) 0 = recAt fl c p n (bt f) (8 * (sz * i))) := by
        have := rec_shift (fl := fl) (c := c) (p := p) (n := n) f i hb8.1
        rw [HQ.out] at this
        show _ = _
        rw [this, HQ.out]
      have kF := FDS.lt
      have kg := LG0.lt
      have kw := EX.more
      refine rebase (G := fun w' => Code.wp _ _ _ _ w') _ (fun v1 => Ext w v1 ∧ Fds v1 gF bF bP bC bA fl c p n ∧ Bs v1 (some ⟨ba, oa + q, none⟩) (len - q) (fun j => f (q + j)) ∧ S2m v1 v.heap.size (.slice (some ⟨ba, oa + q, none⟩) (len - q) (cap - q)) (.int .i64 ((ppos fl c p n 0 : Nat) : Int)) ∧ Lg v1 g m m i (upe (fun j => if j < i then rv (recAt fl c p n (bt f) (8 * (sz * j))) else rv zrec) i (rv (part fl c p n (bt (fun j => f (q + j))) 0))) (part fl c p n (bt (fun j => f (q + j))) 0))
        ⟨EX.alloc _, FDS.later ((Ext.refl v).alloc _), BT.later ((Ext.refl v).alloc _), S2m.new rfl rfl rfl, (LG0.later ((Ext.refl v).alloc _)).self⟩ ?_
      obtain ⟨bs, hbs⟩ : ∃ bs, v.heap.size = bs := ⟨_, rfl⟩
      rw [hbs] at kF kg kw ⊢
      clear EX FDS SL BT LG0 hbs v
      rintro v ⟨EX, FDS, BT, SB, LG⟩
      go_upto_region 15 with fail
      obtain ⟨X0, hX0⟩ : ∃ X0 : Nat → Nat → Value, (fun j => if j < i then rv (recAt fl c p n (bt f) (8 * (sz * j))) else rv zrec) = X0 := ⟨_, rfl⟩
      rw [hX0] at LG
      have HX0 : Hid ((fun j => if j < i then rv (recAt fl c p n (bt f) (8 * (sz * j))) else rv zrec) = X0) := hX0
      clear hX0
      obtain ⟨β, hβ⟩ : ∃ β, (fun j => f (q + j)) = β := ⟨_, rfl⟩
      rw [hβ] at LG BT HRS
      clear hβ
      have hqL : 8 * sz ≤ 8 * (len - q) := by omega
      have hL7 : len - q ≤ 70000 := by omega
      generalize len - q = lq at *
      generalize cap - q = cq at *
      go_loopg [46] 3 (fun gk kv wr => ∃ k : Nat, k + gk = 3 ∧ kv = .int .i64 k ∧ Ext w wr ∧ Fds wr gF bF bP bC bA fl c p n ∧ Bs wr (some ⟨ba, oa + q, none⟩) lq β ∧ S2m wr bs (.slice (some ⟨ba, oa + q, none⟩) lq cq) (.int .i64 ((ppos fl c p n k : Nat) : Int)) ∧ Lg wr g m m i (upe X0 i (rv (part fl c p n (bt β) k))) (part fl c p n (bt β) k))
      case atStart => exact ⟨0, rfl, rfl, EX, FDS, BT, SB, LG⟩
      case round =>
        clear EX FDS BT SB LG v
        obtain ⟨k, hk, rfl, EX, FDS, BT, SB, LG⟩ := hrel
        obtain ⟨v, hv⟩ : ∃ v, v = wr := ⟨_, rfl⟩
        subst hv
        have sbl := SB.lt
        rcases (show k = 0 ∨ k = 1 ∨ k = 2 ∨ k = 3 by omega) with rfl | rfl | rfl | rfl
        · have C0 := FDS.c0
          have C1 := FDS.c1
          go_upto_region 17 with fail
          have CG := fun v1 (h : Ext v v1) => flagGet bs bF 0 fl lq cq g m m i (some ⟨ba, oa + q, none⟩) β (upe X0 i (rv (part fl c p n (bt β) 0))) 0 0 0 (fun _ => 0) v1 (BT.later h) (SB.later h) (h.later FDS.cF) (LG.later h) hlt f8 hL7 (by omega) (by omega) (by omega) (by rintro _ ⟨rfl⟩; dsimp only; omega)
          have HH : Hid (Fds v gF bF bP bC bA fl c p n ∧ Bs v (some ⟨ba, oa + q, none⟩) lq β) := ⟨FDS, BT⟩
          have lgl := LG.lt
          refine rebase (G := fun w' => Code.wp _ _ _ _ w') _ (fun v1 => Ext v v1 ∧ v1.cell? ⟨v.heap.size, 0, none⟩ = some (.func (.func 93) #[] #[.pointer (some ⟨bF, 0, none⟩)])) ⟨(Ext.refl v).alloc _, new1 rfl⟩ ?_
          have hxx := EX.more
          obtain ⟨bx, hbx⟩ : ∃ b, v.heap.size = b := ⟨_, rfl⟩
          rw [hbx] at sbl lgl hxx ⊢
          clear C0 C1 FDS BT SB LG hbx
          rintro v1 ⟨E1, cx⟩
          have gc := fun x' : Alt (fun b => b = bs ∨ b = g) v1 => x'.cell (by rintro (h | h) <;> omega) cx
          refine wp_region_reads (fun i => decide (i < 5)) 1 6 (fun w' => ∃ x : Alt (fun b => b = bs ∨ b = g) v1, w' = x.out) (by kernel_rfl) (by kernel_rfl) (fun c a x v w h => by cases x <;> exact h) ⟨⟨v1.drew, (Chg.refl _ v1).drew⟩, rfl⟩ ?_
          intro l1 l2 h1 h2
          simp [pickB] at h1 h2
          subst h1 h2
          (repeat (first | go_big_quiet_step (fail))); refine wpQuiet_nil ?_; clear gc
          have E2 : Ext v v1.drew := E1.drew
          refine hold_step (n := 0) fun K hK => ?_
          go_wp2_with (first | (go_at_call 93; refine (CG _ E2).mono ?_; rintro e v2 ⟨rfl, LG2, SB2, CH⟩))
          refine hK _ _ ⟨⟨v2, (Chg.refl _ v1).drew.trans CH (fun b h => .inl h)⟩, rfl⟩ ?_
          clear hK K CG
          refine hold_done ?_
          rw [upe_upe] at LG2
          go_wp2
          go_roundg (gk - 1)
          case measure => omega
          case rel => exact ⟨1, by omega, by go_num, CH.over (EX.trans E2) (by rintro b (rfl | rfl) <;> omega), (HH.out.1.later E2).chg CH (by rintro (h | h) <;> omega) (by rintro (h | h) <;> omega) (by rintro (h | h) <;> omega) (by rintro (h | h) <;> omega) (by rintro (h | h) <;> omega), (HH.out.2.later E2).chg CH (by rintro _ ⟨rfl⟩ (h | h) <;> (dsimp only at h; omega)), SB2, LG2⟩
        · have C0 := FDS.c2
          have C1 := FDS.c3
          go_upto_region 17 with fail
          have CG := fun v1 (h : Ext v v1) => pointGet bs bP (0 + fl) c lq cq g m m i (some ⟨ba, oa + q, none⟩) β (upe X0 i (rv (part fl c p n (bt β) 1))) (nb (bt β) 0 fl) 0 0 (fun _ => 0) v1 (BT.later h) (SB.later h) (h.later FDS.cP) (LG.later h) hlt c32.2 hL7 (by omega) (by omega) (by omega) (by rintro _ ⟨rfl⟩; dsimp only; omega)
          have HH : Hid (Fds v gF bF bP bC bA fl c p n ∧ Bs v (some ⟨ba, oa + q, none⟩) lq β) := ⟨FDS, BT⟩
          have lgl := LG.lt
          refine rebase (G := fun w' => Code.wp _ _ _ _ w') _ (fun v1 => Ext v v1 ∧ v1.cell? ⟨v.heap.size, 0, none⟩ = some (.func (.func 96) #[] #[.pointer (some ⟨bP, 0, none⟩)])) ⟨(Ext.refl v).alloc _, new1 rfl⟩ ?_
          have hxx := EX.more
          obtain ⟨bx, hbx⟩ : ∃ b, v.heap.size = b := ⟨_, rfl⟩
          rw [hbx] at sbl lgl hxx ⊢
          clear C0 C1 FDS BT SB LG hbx
          rintro v1 ⟨E1, cx⟩
          have gc := fun x' : Alt (fun b => b = bs ∨ b = g) v1 => x'.cell (by rintro (h | h) <;> omega) cx
          refine wp_region_reads (fun i => decide (i < 5)) 1 6 (fun w' => ∃ x : Alt (fun b => b = bs ∨ b = g) v1, w' = x.out) (by kernel_rfl) (by kernel_rfl) (fun c a x v w h => by cases x <;> exact h) ⟨⟨v1.drew, (Chg.refl _ v1).drew⟩, rfl⟩ ?_
          intro l1 l2 h1 h2
          simp [pickB] at h1 h2
          subst h1 h2
          (repeat (first | go_big_quiet_step (fail))); refine wpQuiet_nil ?_; clear gc
          have E2 : Ext v v1.drew := E1.drew
          refine hold_step (n := 0) fun K hK => ?_
          go_wp2_with (first | (go_at_call 96; refine (CG _ E2).mono ?_; rintro e v2 ⟨rfl, LG2, SB2, CH⟩))
          refine hK _ _ ⟨⟨v2, (Chg.refl _ v1).drew.trans CH (fun b h => .inl h)⟩, rfl⟩ ?_
          clear hK K CG
          refine hold_done ?_
          rw [upe_upe] at LG2
          go_wp2
          go_roundg (gk - 1)
          case measure => omega
          case rel => exact ⟨2, by omega, by go_num, CH.over (EX.trans E2) (by rintro b (rfl | rfl) <;> omega), (HH.out.1.later E2).chg CH (by rintro (h | h) <;> omega) (by rintro (h | h) <;> omega) (by rintro (h | h) <;> omega) (by rintro (h | h) <;> omega) (by rintro (h | h) <;> omega), (HH.out.2.later E2).chg CH (by rintro _ ⟨rfl⟩ (h | h) <;> (dsimp only at h; omega)), SB2, LG2⟩
        · have C0 := FDS.c4
          have C1 := FDS.c5
          go_upto_region 17 with fail
          have CG := fun v1 (h : Ext v v1) => coloursGet bs bC bA (0 + fl + c + c) n p lq cq g m m i (some ⟨ba, oa + q, none⟩) β (upe X0 i (rv (part fl c p n (bt β) 2))) (nb (bt β) 0 fl) (nb (bt β) (0 + fl) c) (nb (bt β) (0 + fl + c) c) v1 (BT.later h) (SB.later h) (h.later FDS.cC) (fun i hi => h.later (FDS.cA i hi)) (LG.later h) hlt p16.2 n4'.2 hL7 (by omega) (by omega) (by omega) (by omega) (by rintro _ ⟨rfl⟩; dsimp only; omega)
          have HH : Hid (Fds v gF bF bP bC bA fl c p n ∧ Bs v (some ⟨ba, oa + q, none⟩) lq β) := ⟨FDS, BT⟩
          have lgl := LG.lt
          refine rebase (G := fun w' => Code.wp _ _ _ _ w') _ (fun v1 => Ext v v1 ∧ v1.cell? ⟨v.heap.size, 0, none⟩ = some (.func (.func 99) #[] #[.pointer (some ⟨bC, 0, none⟩)])) ⟨(Ext.refl v).alloc _, new1 rfl⟩ ?_
          have hxx := EX.more
          obtain ⟨bx, hbx⟩ : ∃ b, v.heap.size = b := ⟨_, rfl⟩
          rw [hbx] at sbl lgl hxx ⊢
          clear C0 C1 FDS BT SB LG hbx
          rintro v1 ⟨E1, cx⟩
          have gc := fun x' : Alt (fun b => b = bs ∨ b = g) v1 => x'.cell (by rintro (h | h) <;> omega) cx
          refine wp_region_reads (fun i => decide (i < 5)) 1 6 (fun w' => ∃ x : Alt (fun b => b = bs ∨ b = g) v1, w' = x.out) (by kernel_rfl) (by kernel_rfl) (fun c a x v w h => by cases x <;> exact h) ⟨⟨v1.drew, (Chg.refl _ v1).drew⟩, rfl⟩ ?_
          intro l1 l2 h1 h2
          simp [pickB] at h1 h2
          subst h1 h2
          (repeat (first | go_big_quiet_step (fail))); refine wpQuiet_nil ?_; clear gc
          have E2 : Ext v v1.drew := E1.drew
          refine hold_step (n := 0) fun K hK => ?_
          go_wp2_with (first | (go_at_call 99; refine (CG _ E2).mono ?_; rintro e v2 ⟨rfl, LG2, SB2, CH⟩))
          refine hK _ _ ⟨⟨v2, (Chg.refl _ v1).drew.trans CH (fun b h => .inl h)⟩, rfl⟩ ?_
          clear hK K CG
          refine hold_done ?_
          rw [upe_upe] at LG2
          go_wp2
          go_roundg (gk - 1)
          case measure => omega
          case rel => exact ⟨3, by omega, by go_num, CH.over (EX.trans E2) (by rintro b (rfl | rfl) <;> omega), (HH.out.1.later E2).chg CH (by rintro (h | h) <;> omega) (by rintro (h | h) <;> omega) (by rintro (h | h) <;> omega) (by rintro (h | h) <;> omega) (by rintro (h | h) <;> omega), (HH.out.2.later E2).chg CH (by rintro _ ⟨rfl⟩ (h | h) <;> (dsimp only at h; omega)), SB2, LG2⟩
        · go_wp2
          go_roundg (gko - 1)
          case measure => omega
          case rel =>
            refine ⟨i + 1, by omega, by go_num, EX, FDS, LG.lst.congr fun i' j hi' hj' => ?_⟩
            unfold upe
            rw [← HX0.out]
            show (if i' = i then _ else (if i' < i then rv (recAt fl c p n (bt f) (8 * (sz * i'))) else rv zrec)) j = _
            by_cases e : i' = i
            · rw [if_pos e, if_pos (by omega), e]
              show rv (recAt fl c p n (bt β) 0) j = _
              rw [HRS.out]
            · rw [if_neg e]
              by_cases e2 : i' < i
              · rw [if_pos e2, if_pos (by omega)]
              · rw [if_neg e2, if_neg (by omega)]
    · have hii : ¬ (i : Int) < (m : Int) := by omega
      obtain rfl : i = m := by omega
      go_wp2
      go_ret2
      exact ⟨.slice (some ⟨g, 0, none⟩) i i, rfl, EX, SL.congr (fun j t hj _ => by rw [if_pos hj]), fun b hb => by simp only [Value.ownBlock, Option.some.injEq] at hb; subst hb; rw [← hb0]; exact hgw⟩
theorem get_any (L : Lay) (a : Option Addr) (len cap : Nat) (f : Nat → Int) (w : World) (TL : LaidL w) (B : Bs w a len f) (hcap : len ≤ cap) : Calls Tryd.prog 10 #[(.agg (lv (L))), .slice a len cap] w (GotAll L f len w) := by
  cases hv : vlay L
  · exact (get_form L hv a len cap w TL).mono fun e w' h => gotall_none (by unfold gerr; rw [if_neg (by rw [hv]; decide)]) (by decide) h
  · by_cases hb : 65536 < len
    · exact (get_limit L hv a len cap hb w TL).mono fun e w' h => gotall_none (by unfold gerr; rw [if_pos hv, if_pos hb]) (by decide) h
    · obtain ⟨fl, c, p, n, sz, V⟩ := vl_of hv
      have hsz : (lsize L 0).toNat = sz := by rw [V.es]; rfl
      by_cases hm : len % sz = 0
      · have hlen : len = sz * (len / sz) := by have := Nat.div_add_mod len sz; omega
        have hg : gerr L len = 0 := by unfold gerr; rw [if_pos hv, if_neg hb, hsz, if_pos hm]
        refine (get_good L fl c p n sz (len / sz) V a len cap f w TL B hlen (by omega) hcap).mono fun e w' h => ?_
        obtain ⟨s, he, E, SL, hn⟩ := h
        refine ⟨s, by rw [hg]; exact he, E, ?_, hn⟩
        have e1 : (flg L).toNat = fl := by rw [V.ef]; rfl
        have e2 : L.c.toNat = c := by rw [V.ec]; rfl
        have e3 : L.p.toNat = p := by rw [V.ep]; rfl
        have e4 : L.n.toNat = n := by rw [V.en]; rfl
        unfold gcnt recL
        rw [if_pos hg, hsz, e1, e2, e3, e4]
        exact SL
      · exact (get_short' L fl c p n sz V a len cap hb hm w TL).mono fun e w' h => gotall_none (by unfold gerr; rw [if_pos hv, if_neg hb, hsz, if_neg hm]) (by decide) h
end Go.Proofs.YtemcppakmcffgaaDoor

namespace Go.Proofs.YtemcppakmcffgaaDoor
open Go.RowKit Go.BigFrame
set_option linter.unusedSimpArgs false
set_option linter.unusedVariables false
set_option maxRecDepth 20000

set_option maxHeartbeats 4000000 in
theorem flagFit (bF fl : Nat) (F X Y : Int) (C : Nat → Int) (hF : 0 ≤ F ∧ F < 256) (h8 : fl ≤ 8) (w : World) (c0 : w.cell? ⟨bF, 0, none⟩ = some (.int .i64 (fl : Nat))) :
    Calls Tryd.prog 95 #[.agg (vl 7 (rv ⟨F, X, Y, C⟩)).toArray, .func (.func 75) #[] #[], .pointer (some ⟨bF, 0, none⟩)] w fun e w' => e = .returned (.int .i64 (if F < 2 ^ fl then 0 else 1)) ∧ Ext w w' := by
  have EX := Ext.refl w
  have FT := fun v => fit_is F fl hF.1 (by omega) (by omega) v
  generalize (if F < 2 ^ fl then (0 : Int) else 1) = z at *
  go_enter Tryd.func95, Tryd.ntmps95
  go_upto_region 1 with fail
  have bl := cell_lt c0
  refine rebase (G := fun w' => Code.wp _ _ _ _ w') _ (fun v => Ext w v ∧ v.cell? ⟨bF, 0, none⟩ = some (.int .i64 (fl : Nat)) ∧ v.cell? ⟨w.heap.size, 0, none⟩ = some (.int .u8 F)) ⟨EX.alloc _, old1 c0, new1 rfl⟩ ?_
  clear EX c0
  rintro v ⟨EX, c0, x0⟩
  go_wp2_with (first | (go_at_call 75; with_reducible refine (FT _).mono ?_; rintro e v1 ⟨rfl, hb⟩; replace EX := Ext.trans EX hb; clear hb))
  go_ret
  exact ⟨rfl, EX⟩
/-- The first one of two errors. -/
theorem or_is (b : Nat) (x y : Int) (w : World) (h0 : w.cell? ⟨b, 0, none⟩ = some (.int .i64 x)) (h1 : w.cell? ⟨b, 1, none⟩ = some (.int .i64 y)) :
    Calls Tryd.prog 98 #[.slice (some ⟨b, 0, none⟩) 2 2] w fun e w' => e = .returned (.int .i64 (if x = 0 then y else x)) ∧ Ext w w' := by
  have EX := Ext.refl w
  have HC : Hid (w.cell? ⟨b, 0, none⟩ = some (.int .i64 x) ∧ w.cell? ⟨b, 1, none⟩ = some (.int .i64 y)) := ⟨h0, h1⟩
  obtain ⟨z, hz⟩ : ∃ z, (if x = 0 then y else x) = z := ⟨_, rfl⟩
  have HZ : Hid ((if x = 0 then y else x) = z) := hz
  rw [hz]
  clear h0 h1 hz
  go_enter Tryd.func98, Tryd.ntmps98
  go_upto_region 3 with fail
  go_loopg [8] 2 (fun gk iv wr => ∃ k : Nat, k + gk = 2 ∧ iv = .int .i64 k ∧ Ext w wr ∧ (0 < k → x = 0) ∧ (1 < k → y = 0))
  case atStart => exact ⟨0, rfl, rfl, EX, fun h => by omega, fun h => by omega⟩
  case round =>
    clear EX
    obtain ⟨k, hk, rfl, EX, hx, hy⟩ := hrel
    obtain ⟨v, hv⟩ : ∃ v, v = wr := ⟨_, rfl⟩
    subst hv
    rcases (show k = 0 ∨ k = 1 ∨ k = 2 by omega) with rfl | rfl | rfl
    · have c0 := EX.later HC.out.1
      by_cases h : x = 0
      · have HX : Hid (x = 0) := h
        have h2 : (x != 0) = false := by simp [h]
        clear h hx hy
        go_wp2
        go_roundg (gk - 1)
        case measure => omega
        case rel => exact ⟨1, by omega, by go_num, EX, fun _ => HX.out, fun h => by omega⟩
      · have hz := HZ.out
        rw [if_neg h] at hz
        subst hz
        have h2 : (x != 0) = true := by simpa using h
        clear h hx hy
        go_wp2
        go_ret
        exact ⟨rfl, EX⟩
    · have c0 := EX.later HC.out.2
      have hz := HZ.out
      rw [if_pos (hx (by omega))] at hz
      have HX : Hid (x = 0) := hx (by omega)
      clear hx hy
      by_cases h : y = 0
      · have HY : Hid (y = 0) := h
        have h2 : (y != 0) = false := by simp [h]
        clear h hz
        go_wp2
        go_roundg (gk - 1)
        case measure => omega
        case rel => exact ⟨2, by omega, by go_num, EX, fun _ => HX.out, fun _ => HY.out⟩
      · subst hz
        have h2 : (y != 0) = true := by simpa using h
        clear h
        go_wp2
        go_ret
        exact ⟨rfl, EX⟩
    · have hz := HZ.out
      rw [if_pos (hx (by omega)), hy (by omega)] at hz
      subst hz
      go_wp2
      go_ret
      exact ⟨rfl, EX⟩
set_option maxHeartbeats 4000000 in
theorem pointFit (bP c : Nat) (F X Y : Int) (C : Nat → Int) (hX : 0 ≤ X ∧ X < 4294967296) (hY : 0 ≤ Y ∧ Y < 4294967296) (h8 : c ≤ 32) (w : World) (c0 : w.cell? ⟨bP, 0, none⟩ = some (.int .i64 (c : Nat))) :
    Calls Tryd.prog 97 #[.agg (vl 7 (rv ⟨F, X, Y, C⟩)).toArray, .func (.func 75) #[] #[], .pointer (some ⟨bP, 0, none⟩)] w fun e w' => e = .returned (.int .i64 (if (if X < 2 ^ c then (0 : Int) else 1) = 0 then (if Y < 2 ^ c then 0 else 1) else (if X < 2 ^ c then 0 else 1))) ∧ Ext w w' := by
  have EX := Ext.refl w
  have FT1 := fun v => fit_is X c hX.1 (by omega) (by omega) v
  have FT2 := fun v => fit_is Y c hY.1 (by omega) (by omega) v
  generalize (if X < 2 ^ c then (0 : Int) else 1) = z1 at *
  generalize (if Y < 2 ^ c then (0 : Int) else 1) = z2 at *
  obtain ⟨z, hz⟩ : ∃ z, (if z1 = 0 then z2 else z1) = z := ⟨_, rfl⟩
  have HZ : Hid ((if z1 = 0 then z2 else z1) = z) := hz
  rw [hz]
  clear hz
  go_enter Tryd.func97, Tryd.ntmps97
  go_upto_region 1 with fail
  have bl := cell_lt c0
  refine rebase (G := fun w' => Code.wp _ _ _ _ w') _ (fun v => Ext w v ∧ v.cell? ⟨bP, 0, none⟩ = some (.int .i64 (c : Nat)) ∧ v.cell? ⟨w.heap.size, 1, none⟩ = some (.int .u32 X) ∧ v.cell? ⟨w.heap.size, 2, none⟩ = some (.int .u32 Y)) ⟨EX.alloc _, old1 c0, new1 rfl, new1 rfl⟩ ?_
  clear EX c0
  rintro v ⟨EX, c0, x1, x2⟩
  have g0 := fun x' : Grow v => x'.cell c0
  have g1 := fun x' : Grow v => x'.cell x1
  have g2 := fun x' : Grow v => x'.cell x2
  refine wp_region_reads (fun i => !decide (i = 5 ∨ 11 ≤ i)) 5 15 (fun w' => ∃ x : Grow v, w' = x.out) (by kernel_rfl) (by kernel_rfl) (fun c a x v w h => by cases x <;> exact h) ⟨⟨v.drew, (Ext.refl v).drew⟩, rfl⟩ ?_
  intro l1 l2 h1 h2
  simp [pickB] at h1 h2
  subst h1 h2
  (repeat (first | go_big_quiet_step (fail))); refine wpQuiet_nil ?_; clear g0 g1 g2 c0 x1 x2
  have E0 : Ext v v.drew := (Ext.refl v).drew
  refine hold_step (n := 4) fun K hK => ?_
  go_wp2_with (first | (go_at_call 75; with_reducible refine (FT1 _).mono ?_; rintro e v1 ⟨rfl, h1⟩))
  refine hK _ _ ⟨⟨v1, E0.trans h1⟩, rfl⟩ ?_
  clear hK K FT1
  refine hold_step (n := 3) fun K hK => ?_
  go_wp2_with (first | (go_at_call 75; with_reducible refine (FT2 _).mono ?_; rintro e v2 ⟨rfl, h2⟩))
  refine hK _ _ ⟨⟨v2, (E0.trans h1).trans h2⟩, rfl⟩ ?_
  clear hK K FT2
  refine hold_step (n := 2) fun K hK => ?_
  go_wp2
  have E3 := ((E0.trans h1).trans h2).alloc (.cells #[.int .i64 z1, .int .i64 z2] 32)
  have OR := or_is v2.heap.size z1 z2 (v2.alloc (.cells #[.int .i64 z1, .int .i64 z2] 32)) (new1 rfl) (new1 rfl)
  rw [HZ.out] at OR
  refine hK _ _ ⟨⟨_, E3⟩, rfl⟩ ?_
  clear hK K
  refine hold_step (n := 1) fun K hK => ?_
  go_wp2_with (first | (go_at_call 98; with_reducible refine OR.mono ?_; rintro e v4 ⟨rfl, h4⟩))
  refine hK _ _ ⟨⟨v4, E3.trans h4⟩, rfl⟩ ?_
  clear hK K OR
  refine hold_step (n := 0) fun K hK => ?_
  go_wp2
  refine hK _ _ ⟨⟨v4, E3.trans h4⟩, rfl⟩ ?_
  clear hK K
  refine hold_done ?_
  go_wp2
  go_ret
  exact ⟨rfl, EX.trans (E3.trans h4)⟩
set_option maxHeartbeats 4000000 in
theorem coloursFit (bC bA n p : Nat) (F X Y : Int) (C : Nat → Int) (hC : ∀ k, k < 4 → 0 ≤ C k ∧ C k < 65536) (h8 : p ≤ 16) (w : World) (c0 : w.cell? ⟨bC, 0, none⟩ = some (.slice (some ⟨bA, 0, none⟩) 4 4)) (hA : ∀ i, i < 4 → w.cell? ⟨bA, 0 + i, none⟩ = some (.int .i64 (cbits n p i : Nat))) :
    Calls Tryd.prog 100 #[.agg (vl 7 (rv ⟨F, X, Y, C⟩)).toArray, .func (.func 75) #[] #[], .pointer (some ⟨bC, 0, none⟩)] w fun e w' => ∃ x, e = .returned (.int .i64 x) ∧ Ext w w' ∧ ((x = 0 ∧ ∀ k, k < 4 → C k < 2 ^ cbits n p k) ∨ (x = 1 ∧ ¬ ∀ k, k < 4 → C k < 2 ^ cbits n p k)) := by
  have EX := Ext.refl w
  have HA : Hid (∀ i, i < 4 → w.cell? ⟨bA, i, none⟩ = some (.int .i64 (cbits n p i : Nat))) := fun i hi => by have := hA i hi; rwa [Nat.zero_add] at this
  have HC : Hid (∀ k, k < 4 → 0 ≤ C k ∧ C k < 65536) := hC
  clear hA hC
  go_enter Tryd.func100, Tryd.ntmps100
  go_upto_region 1 with fail
  have bl := cell_lt c0
  refine rebase (G := fun w' => Code.wp _ _ _ _ w') _ (fun v => Ext w v ∧ v.cell? ⟨bC, 0, none⟩ = some (.slice (some ⟨bA, 0, none⟩) 4 4) ∧ Hid (∀ j, j < 4 → v.cell? ⟨w.heap.size, 3 + j, none⟩ = some (.int .u16 (C j)))) ⟨EX.alloc _, old1 c0, fun j hj => new1 (by rw [List.getElem?_toArray, vl_at _ _ (show 3 + j < 7 by omega), Nat.add_comm 3 j]; rfl)⟩ ?_
  clear EX c0
  rintro v ⟨EX, c0, HX⟩
  go_upto_region 2 with fail
  clear c0
  go_loopg [11] 4 (fun gk iv wr => ∃ k : Nat, k + gk = 4 ∧ iv = .int .i64 k ∧ Ext w wr ∧ Hid (∀ j, j < 4 → wr.cell? ⟨w.heap.size, 3 + j, none⟩ = some (.int .u16 (C j))) ∧ Hid (∀ j, j < k → C j < 2 ^ cbits n p j))
  case atStart => exact ⟨0, rfl, rfl, EX, HX, fun j hj => by omega⟩
  case round =>
    clear EX HX v
    obtain ⟨k, hk, rfl, EX, HX, HK⟩ := hrel
    obtain ⟨v, hv⟩ : ∃ v, v = wr := ⟨_, rfl⟩
    subst hv
    by_cases hlt : k < 4
    · have hki : (k : Int) < 4 := by omega
      have cK := EX.later (HA.out k hlt)
      have xK := HX.out k hlt
      have bk := HC.out k hlt
      have hb16 : cbits n p k ≤ 16 := by unfold cbits; split <;> omega
      have FT := fun v => fit_is (C k) (cbits n p k) bk.1 (by omega) (by omega) v
      by_cases hf : C k < 2 ^ cbits n p k
      · rw [if_pos hf] at FT
        have HK2 : Hid (∀ j, j < k + 1 → C j < 2 ^ cbits n p j) := fun j hj => by
          by_cases e : j = k
          · rw [e]; exact hf
          · exact HK.out j (by omega)
        clear hf HK
        generalize C k = z at *
        generalize cbits n p k = u at *
        go_wp2_with (first | (go_at_call 75; with_reducible refine (FT _).mono ?_; rintro e v1 ⟨rfl, hb⟩; replace EX := Ext.trans EX hb))
        go_roundg (gk - 1)
        case measure => omega
        case rel => exact ⟨k + 1, by omega, by go_num, EX, fun j hj => hb.later (HX.out j hj), HK2.out⟩
      · rw [if_neg hf] at FT
        have HN : Hid (¬ ∀ k, k < 4 → C k < 2 ^ cbits n p k) := fun h => hf (h k hlt)
        clear hf HK
        generalize C k = z at *
        generalize cbits n p k = u at *
        go_wp2_with (first | (go_at_call 75; with_reducible refine (FT _).mono ?_; rintro e v1 ⟨rfl, hb⟩; replace EX := Ext.trans EX hb))
        go_ret
        exact ⟨1, rfl, EX, .inr ⟨rfl, HN.out⟩⟩
    · obtain rfl : k = 4 := by omega
      go_wp2
      go_ret
      exact ⟨0, rfl, EX, .inl ⟨rfl, HK.out⟩⟩
/-- Has a vertex room? .. in the words of its fields. -/
theorem room_iff (fl c p n : Nat) (hn : n ≤ 4) {Q : Rcd} (hF : 0 ≤ Q.f) (hX : 0 ≤ Q.x) (hY : 0 ≤ Q.y) (hC : ∀ k, k < 4 → 0 ≤ Q.c k) :
    Room fl c p n Q ↔ Q.f < 2 ^ fl ∧ (Q.x < 2 ^ c ∧ Q.y < 2 ^ c) ∧ ∀ k, k < 4 → Q.c k < 2 ^ cbits n p k := by
  constructor
  · intro h
    refine ⟨h.f.2, ⟨h.x.2, h.y.2⟩, fun k hk => ?_⟩
    unfold cbits
    by_cases e : k < n
    · rw [if_pos e]; exact (h.c k e).2
    · rw [if_neg e, h.z k (by omega) hk]; decide
  · rintro ⟨h1, ⟨h2, h3⟩, h4⟩
    refine ⟨⟨hF, h1⟩, ⟨hX, h2⟩, ⟨hY, h3⟩, fun k hk => ⟨hC k (by omega), ?_⟩, fun k h5 h6 => ?_⟩
    · have := h4 k (by omega)
      unfold cbits at this
      rwa [if_pos hk] at this
    · have := h4 k h6
      unfold cbits at this
      rw [if_neg (by omega)] at this
      have := hC k h6
      have e1 : ((2 : Int) ^ 0) = 1 := rfl
      omega


set_option maxHeartbeats 8000000 in
theorem layFit (g bF bP bC bA fl c p n cq : Nat) (F X Y : Int) (C : Nat → Int) (hF : 0 ≤ F ∧ F < 256) (hX : 0 ≤ X ∧ X < 4294967296) (hY : 0 ≤ Y ∧ Y < 4294967296) (hC : ∀ k, k < 4 → 0 ≤ C k ∧ C k < 65536) (f8 : fl ≤ 8) (c32 : c ≤ 32) (p16 : p ≤ 16) (n4 : n ≤ 4) (w : World) (FDS : Fds w g bF bP bC bA fl c p n) :
    Calls Tryd.prog 74 #[.slice (some ⟨g, 0, none⟩) 3 cq, .agg (vl 7 (rv ⟨F, X, Y, C⟩)).toArray, .func (.func 75) #[] #[]] w fun e w' => ∃ x, e = .returned (.int .i64 x) ∧ Ext w w' ∧ ((x = 0 ∧ Room fl c p n ⟨F, X, Y, C⟩) ∨ (x = 1 ∧ ¬ Room fl c p n ⟨F, X, Y, C⟩)) := by
  have EX := Ext.refl w
  have HR : Hid (Room fl c p n ⟨F, X, Y, C⟩ ↔ F < 2 ^ fl ∧ (X < 2 ^ c ∧ Y < 2 ^ c) ∧ ∀ k, k < 4 → C k < 2 ^ cbits n p k) := room_iff fl c p n n4 hF.1 hX.1 hY.1 (fun k hk => (hC k hk).1)
  have HC : Hid (∀ k, k < 4 → 0 ≤ C k ∧ C k < 65536) := hC
  clear hC
  go_enter Tryd.func74, Tryd.ntmps74
  go_upto_region 2 with fail
  have fl5 := FDS.lt
  refine rebase (G := fun w' => Code.wp _ _ _ _ w') _ (fun v => Ext w v ∧ Fds v g bF bP bC bA fl c p n ∧ Vm v w.heap.size 7 (rv ⟨F, X, Y, C⟩)) ⟨EX.alloc _, FDS.later (EX.alloc _), Vm.new rfl (fun i hi => by rw [List.getElem?_toArray, vl_at _ _ hi])⟩ ?_
  obtain ⟨bR, hbR⟩ : ∃ b, w.heap.size = b := ⟨_, rfl⟩
  rw [hbR] at fl5 ⊢
  clear EX FDS
  rintro v ⟨EX, FDS, XB⟩
  go_loopg [12] 3 (fun gk iv wr => ∃ k : Nat, k + gk = 3 ∧ iv = .int .i64 k ∧ Ext w wr ∧ Fds wr g bF bP bC bA fl c p n ∧ Vm wr bR 7 (rv ⟨F, X, Y, C⟩) ∧ Hid (0 < k → F < 2 ^ fl) ∧ Hid (1 < k → X < 2 ^ c ∧ Y < 2 ^ c) ∧ Hid (2 < k → ∀ j, j < 4 → C j < 2 ^ cbits n p j))
  case atStart => exact ⟨0, rfl, rfl, EX, FDS, XB, fun h => by omega, fun h => by omega, fun h => by omega⟩
  case round =>
    clear EX FDS XB v
    obtain ⟨k, hk, rfl, EX, FDS, XB, H0, H1, H2⟩ := hrel
    obtain ⟨v, hv⟩ : ∃ v, v = wr := ⟨_, rfl⟩
    subst hv
    rcases (show k = 0 ∨ k = 1 ∨ k = 2 ∨ k = 3 by omega) with rfl | rfl | rfl | rfl
    · have C0 := FDS.c0
      have C1 := FDS.c1
      have CG := fun v1 (h : Ext v v1) => flagFit bF fl F X Y C hF f8 v1 (h.later FDS.cF)
      have HH : Hid (Fds v g bF bP bC bA fl c p n) := FDS
      have RX := XB.range
      have one7 : ∀ u ∈ vl 7 (rv ⟨F, X, Y, C⟩), u.oneCell' = true := rv_one _
      have xl := XB.lt
      have HB : Hid (Vm v bR 7 (rv ⟨F, X, Y, C⟩)) := XB
      obtain ⟨gv, hgv⟩ : ∃ gv, rv ⟨F, X, Y, C⟩ = gv := ⟨_, rfl⟩
      rw [hgv] at RX one7 CG
      clear XB FDS hgv
      go_upto_region 4 with fail
      refine rebase (G := fun w' => Code.wp _ _ _ _ w') _ (fun v1 => Ext v v1 ∧ v1.cell? ⟨v.heap.size, 1, none⟩ = some (.func (.func 95) #[] #[.pointer (some ⟨bF, 0, none⟩)]) ∧ v1.rangeAt bR 0 (vl 7 gv)) ⟨(Ext.refl v).alloc _, new1 rfl, range_later RX ((Ext.refl v).alloc _)⟩ ?_
      clear RX C0 C1
      rintro v1 ⟨E1, cx, RX⟩
      
      by_cases hf : F < 2 ^ fl
      · rw [if_pos hf] at CG
        have HF1 : Hid (F < 2 ^ fl) := hf
        clear hf
        go_wp2_with (first | (refine wpList_load_mid rfl 63 (.tmp 4) rfl bR 0 rfl (vl 7 gv) _ RX Tryd.underlying63 rfl (by rw [vl_len]; kernel_rfl) ?_) | (go_at_call 95; with_reducible refine (CG _ E1).mono ?_; rintro e v2 ⟨rfl, hb⟩))
        go_roundg (gk - 1)
        case measure => omega
        case rel => exact ⟨1, by omega, by go_num, EX.trans (E1.trans hb), HH.out.later (E1.trans hb), HB.out.later (E1.trans hb), fun _ => HF1.out, fun h => by omega, fun h => by omega⟩
      · rw [if_neg hf] at CG
        have HN : Hid (¬ Room fl c p n ⟨F, X, Y, C⟩) := fun h => hf (HR.out.1 h).1
        clear hf
        go_wp2_with (first | (refine wpList_load_mid rfl 63 (.tmp 4) rfl bR 0 rfl (vl 7 gv) _ RX Tryd.underlying63 rfl (by rw [vl_len]; kernel_rfl) ?_) | (go_at_call 95; with_reducible refine (CG _ E1).mono ?_; rintro e v2 ⟨rfl, hb⟩))
        go_ret
        exact ⟨1, rfl, EX.trans (E1.trans hb), .inr ⟨rfl, HN.out⟩⟩
    · have C0 := FDS.c2
      have C1 := FDS.c3
      have CG := fun v1 (h : Ext v v1) => pointFit bP c F X Y C hX hY c32 v1 (h.later FDS.cP)
      have HH : Hid (Fds v g bF bP bC bA fl c p n) := FDS
      have RX := XB.range
      have one7 : ∀ u ∈ vl 7 (rv ⟨F, X, Y, C⟩), u.oneCell' = true := rv_one _
      have xl := XB.lt
      have HB : Hid (Vm v bR 7 (rv ⟨F, X, Y, C⟩)) := XB
      obtain ⟨gv, hgv⟩ : ∃ gv, rv ⟨F, X, Y, C⟩ = gv := ⟨_, rfl⟩
      rw [hgv] at RX one7 CG
      clear XB FDS hgv
      go_upto_region 4 with fail
      refine rebase (G := fun w' => Code.wp _ _ _ _ w') _ (fun v1 => Ext v v1 ∧ v1.cell? ⟨v.heap.size, 1, none⟩ = some (.func (.func 97) #[] #[.pointer (some ⟨bP, 0, none⟩)]) ∧ v1.rangeAt bR 0 (vl 7 gv)) ⟨(Ext.refl v).alloc _, new1 rfl, range_later RX ((Ext.refl v).alloc _)⟩ ?_
      clear RX C0 C1
      rintro v1 ⟨E1, cx, RX⟩
      
      have ez : (if (if X < 2 ^ c then (0 : Int) else 1) = 0 then (if Y < 2 ^ c then 0 else 1) else (if X < 2 ^ c then (0 : Int) else 1)) = if X < 2 ^ c ∧ Y < 2 ^ c then 0 else 1 := by
        by_cases h1 : X < 2 ^ c <;> by_cases h2 : Y < 2 ^ c <;> simp [h1, h2]
      rw [ez] at CG
      clear ez
      by_cases hf : X < 2 ^ c ∧ Y < 2 ^ c
      · rw [if_pos hf] at CG
        have HF1 : Hid (X < 2 ^ c ∧ Y < 2 ^ c) := hf
        clear hf
        go_wp2_with (first | (refine wpList_load_mid rfl 63 (.tmp 4) rfl bR 0 rfl (vl 7 gv) _ RX Tryd.underlying63 rfl (by rw [vl_len]; kernel_rfl) ?_) | (go_at_call 97; with_reducible refine (CG _ E1).mono ?_; rintro e v2 ⟨rfl, hb⟩))
        go_roundg (gk - 1)
        case measure => omega
        case rel => exact ⟨2, by omega, by go_num, EX.trans (E1.trans hb), HH.out.later (E1.trans hb), HB.out.later (E1.trans hb), fun _ => H0.out (by omega), fun _ => HF1.out, fun h => by omega⟩
      · rw [if_neg hf] at CG
        have HN : Hid (¬ Room fl c p n ⟨F, X, Y, C⟩) := fun h => hf (HR.out.1 h).2.1
        clear hf
        go_wp2_with (first | (refine wpList_load_mid rfl 63 (.tmp 4) rfl bR 0 rfl (vl 7 gv) _ RX Tryd.underlying63 rfl (by rw [vl_len]; kernel_rfl) ?_) | (go_at_call 97; with_reducible refine (CG _ E1).mono ?_; rintro e v2 ⟨rfl, hb⟩))
        go_ret
        exact ⟨1, rfl, EX.trans (E1.trans hb), .inr ⟨rfl, HN.out⟩⟩
    · have C0 := FDS.c4
      have C1 := FDS.c5
      have CG := fun v1 (h : Ext v v1) => coloursFit bC bA n p F X Y C HC.out p16 v1 (h.later FDS.cC) (fun i hi => h.later (FDS.cA i hi))
      have HH : Hid (Fds v g bF bP bC bA fl c p n) := FDS
      have RX := XB.range
      have one7 : ∀ u ∈ vl 7 (rv ⟨F, X, Y, C⟩), u.oneCell' = true := rv_one _
      have xl := XB.lt
      have HB : Hid (Vm v bR 7 (rv ⟨F, X, Y, C⟩)) := XB
      obtain ⟨gv, hgv⟩ : ∃ gv, rv ⟨F, X, Y, C⟩ = gv := ⟨_, rfl⟩
      rw [hgv] at RX one7 CG
      clear XB FDS hgv
      go_upto_region 4 with fail
      refine rebase (G := fun w' => Code.wp _ _ _ _ w') _ (fun v1 => Ext v v1 ∧ v1.cell? ⟨v.heap.size, 1, none⟩ = some (.func (.func 100) #[] #[.pointer (some ⟨bC, 0, none⟩)]) ∧ v1.rangeAt bR 0 (vl 7 gv)) ⟨(Ext.refl v).alloc _, new1 rfl, range_later RX ((Ext.refl v).alloc _)⟩ ?_
      clear RX C0 C1
      rintro v1 ⟨E1, cx, RX⟩
      
      by_cases hf : ∀ k, k < 4 → C k < 2 ^ cbits n p k
      · have CG2 : ∀ v1, Ext v v1 → Calls Tryd.prog 100 #[.agg (vl 7 gv).toArray, .func (.func 75) #[] #[], .pointer (some ⟨bC, 0, none⟩)] v1 fun e w' => e = .returned (.int .i64 0) ∧ Ext v1 w' := fun v1 h => (CG v1 h).mono fun e w' h' => by
          obtain ⟨x, rfl, hb, ⟨rfl, _⟩ | ⟨_, hn⟩⟩ := h'
          · exact ⟨rfl, hb⟩
          · exact absurd hf hn
        have HF1 : Hid (∀ k, k < 4 → C k < 2 ^ cbits n p k) := hf
        clear hf CG
        go_wp2_with (first | (refine wpList_load_mid rfl 63 (.tmp 4) rfl bR 0 rfl (vl 7 gv) _ RX Tryd.underlying63 rfl (by rw [vl_len]; kernel_rfl) ?_) | (go_at_call 100; with_reducible refine (CG2 _ E1).mono ?_; rintro e v2 ⟨rfl, hb⟩))
        go_roundg (gk - 1)
        case measure => omega
        case rel => exact ⟨3, by omega, by go_num, EX.trans (E1.trans hb), HH.out.later (E1.trans hb), HB.out.later (E1.trans hb), fun _ => H0.out (by omega), fun _ => H1.out (by omega), fun _ => HF1.out⟩
      · have CG2 : ∀ v1, Ext v v1 → Calls Tryd.prog 100 #[.agg (vl 7 gv).toArray, .func (.func 75) #[] #[], .pointer (some ⟨bC, 0, none⟩)] v1 fun e w' => e = .returned (.int .i64 1) ∧ Ext v1 w' := fun v1 h => (CG v1 h).mono fun e w' h' => by
          obtain ⟨x, rfl, hb, ⟨_, hn⟩ | ⟨rfl, _⟩⟩ := h'
          · exact absurd hn hf
          · exact ⟨rfl, hb⟩
        have HN : Hid (¬ Room fl c p n ⟨F, X, Y, C⟩) := fun h => hf (HR.out.1 h).2.2
        clear hf CG
        go_wp2_with (first | (refine wpList_load_mid rfl 63 (.tmp 4) rfl bR 0 rfl (vl 7 gv) _ RX Tryd.underlying63 rfl (by rw [vl_len]; kernel_rfl) ?_) | (go_at_call 100; with_reducible refine (CG2 _ E1).mono ?_; rintro e v2 ⟨rfl, hb⟩))
        go_ret
        exact ⟨1, rfl, EX.trans (E1.trans hb), .inr ⟨rfl, HN.out⟩⟩
    · have HN : Hid (Room fl c p n ⟨F, X, Y, C⟩) := HR.out.2 ⟨H0.out (by omega), H1.out (by omega), H2.out (by omega)⟩
      go_wp2
      go_ret
      exact ⟨0, rfl, EX, .inl ⟨rfl, HN.out⟩⟩
end Go.Proofs.YtemcppakmcffgaaDoor
