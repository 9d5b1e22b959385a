/- What package trios' appendCells does: the triangles of the cells between a row and what begins below it, behind others. -/
import Derived.Test.YthlhmfjopjikpaaDoorTrioA
import Derived.Test.YthlhmfjopjikpaaDoorTriN
import Derived.Test.YthlhmfjopjikpaaDoorNews
import Derived.WalkMore
import Derived.Deep.LoopGhost
import Derived.Deep.Light
namespace Go.Proofs.YthlhmfjopjikpaaDoor
open Go.RowKit Go.BigFrame
set_option linter.unusedSimpArgs false
set_option linter.unusedVariables false
set_option maxRecDepth 20000
/-- Vertices in memory from here on. -/
def Vt (w : World) (b o : Nat) (r : Nat) (R : Nat → Rcd) : Prop := ∀ i, i < r → w.rangeAt b (o + i * 7) (vl 7 (rv (R i)))
/-- The triangles of the cells between a row and the one below it. -/
def rowT (P R : Nat → Rcd) (k : Nat) : T3 := if k % 2 = 0 then ⟨P (k / 2), P (k / 2 + 1), R (k / 2)⟩ else ⟨P (k / 2 + 1), R (k / 2 + 1), R (k / 2)⟩
/-- Triangles behind others. -/
def behindT (n : Nat) (X : Nat → Nat → Value) (U : Nat → T3) (k : Nat) : Nat → Value := if k < n then X k else tv (U (k - n))
theorem Lst.snoc2 {w : World} {e : TypeId} {m n : Nat} {s : Value} {X : Nat → Nat → Value} {Y Z : Nat → Value} (h : World.ownsC w 0 e m s (n + 2) (ew m n X ++ (vl m Y ++ vl m Z))) : Lst w e m s (n + 2) (upe (upe X n Y) (n + 1) Z) := by
  rw [← List.append_assoc, ew_snoc, ew_snoc] at h
  exact h
theorem tri42_list (f g h f' g' h' : Nat → Value) : vl 21 (tri21 f g h) ++ vl 21 (tri21 f' g' h') = [f 0, f 1, f 2, f 3, f 4, f 5, f 6, g 0, g 1, g 2, g 3, g 4, g 5, g 6, h 0, h 1, h 2, h 3, h 4, h 5, h 6, f' 0, f' 1, f' 2, f' 3, f' 4, f' 5, f' 6, g' 0, g' 1, g' 2, g' 3, g' 4, g' 5, g' 6, h' 0, h' 1, h' 2, h' 3, h' 4, h' 5, h' 6] := rfl

set_option maxHeartbeats 8000000 in
theorem appendcells_any (sv : Value) (n r : Nat) (X : Nat → Nat → Value) (bv o1 o2 c1 c2 l2 : Nat) (P R : Nat → Rcd) (w : World) (SL : Lst w 65 21 sv n X) (hr : 2 ≤ r) (hl : r ≤ l2) (VP : Vt w bv o1 r P) (VR : Vt w bv o2 r R) (hne : ¬ sv.ownBlock = some bv) (hN : n + 2 * r ≤ 17179869184) (hl2 : l2 ≤ 4294967296) :
    Calls Tryd.prog 73 #[sv, .slice (some ⟨bv, o1, none⟩) r c1, .slice (some ⟨bv, o2, none⟩) l2 c2] w fun e w' => ∃ s, e = .returned s ∧ Chg (fun b => sv.ownBlock = some b) w w' ∧ Lst w' 65 21 s (n + 2 * (r - 1)) (behindT n X (rowT P R)) ∧ ∀ b, s.ownBlock = some b → sv.ownBlock = some b ∨ w.heap.size ≤ b := by
  obtain ⟨i0, hi0, hz0, hz1, hz2⟩ := info_parts info_tri21
  have HP : Hid (Vt w bv o1 r P) := VP
  have HR : Hid (Vt w bv o2 r R) := VR
  have SL0 : Lst w 65 21 sv (n + 2 * 0) (behindT n X (rowT P R)) := by
    rw [Nat.mul_zero, Nat.add_zero]
    exact SL.congr fun i j hi _ => by unfold behindT; rw [if_pos hi]
  clear VP VR SL
  go_enter Tryd.func73, Tryd.ntmps73
  go_upto_region 1 with fail
  go_upto_region 2 with (first | go_skip)
  go_loopg [0, 15] (r - 1) (fun gk ov iv wr => ∃ (i : Nat) (s : Value), s = ov ∧ i + 1 + gk = r ∧ iv = .int .i64 i ∧ Chg (fun b => sv.ownBlock = some b) w wr ∧ Lst wr 65 21 s (n + 2 * i) (behindT n X (rowT P R)) ∧ ∀ b, s.ownBlock = some b → sv.ownBlock = some b ∨ w.heap.size ≤ b)
  case atStart => exact ⟨0, sv, rfl, by omega, rfl, Chg.refl _ w, SL0, fun b h => .inl h⟩
  case round =>
    clear SL0
    obtain ⟨i, s, rfl, hi, rfl, CW, SL, hnew⟩ := hrel
    obtain ⟨v, hv⟩ : ∃ v, v = wr := ⟨_, rfl⟩
    subst hv
    by_cases hlt : i + 1 < r
    · have hii : (i : Int) < (r : Int) - 1 := by omega
      have r0 := range_chg (HP.out i (by omega)) CW hne
      have r1 := range_chg (HP.out (i + 1) (by omega)) CW hne
      have r2 := range_chg (HR.out i (by omega)) CW hne
      have r3 := range_chg (HR.out (i + 1) (by omega)) CW hne
      obtain ⟨P0, e0⟩ : ∃ p, P i = p := ⟨_, rfl⟩
      obtain ⟨P1, e1⟩ : ∃ p, P (i + 1) = p := ⟨_, rfl⟩
      obtain ⟨P2, e2⟩ : ∃ p, R i = p := ⟨_, rfl⟩
      obtain ⟨P3, e3⟩ : ∃ p, R (i + 1) = p := ⟨_, rfl⟩
      have HE : Hid (rowT P R (2 * i) = ⟨P0, P1, P2⟩ ∧ rowT P R (2 * i + 1) = ⟨P1, P3, P2⟩) := by
        unfold rowT
        rw [if_pos (show 2 * i % 2 = 0 by omega), if_neg (show ¬ (2 * i + 1) % 2 = 0 by omega), show 2 * i / 2 = i by omega, show (2 * i + 1) / 2 = i by omega, e0, e1, e2, e3]
        exact ⟨rfl, rfl⟩
      rw [e0] at r0
      rw [e1] at r1
      rw [e2] at r2
      rw [e3] at r3
      clear e0 e1 e2 e3
      obtain ⟨m, hm⟩ : ∃ m, n + 2 * i = m := ⟨_, rfl⟩
      have HM : Hid (n + 2 * i = m) := hm
      have hmN : m + 2 ≤ 17179869184 := by omega
      rw [hm] at SL
      clear hm
      have hsb0 : ∀ b, s.ownBlock = some b → b < v.heap.size := fun b h => SL.heap h
      go_upto_region 4 with (first | go_skip)
      refine wp_region_news (fun i => decide (i < 18)) [⟨18, 8, 22, 21⟩, ⟨19, 9, 23, 26⟩, ⟨20, 10, 24, 30⟩, ⟨21, 11, 25, 35⟩] 63 (.cells #[.int .u8 0, .int .u32 0, .int .u32 0, .int .u16 0, .int .u16 0, .int .u16 0, .int .u16 0] 63) 7 (rv zrec) (fun k => rv (if k = 18 then P0 else if k = 19 then P1 else if k = 20 then P2 else P3)) (by kernel_rfl) (by kernel_rfl) (fun c a x v w h => by cases x <;> exact h) ?al (fun w => Vm.ofList rfl rfl) ?st size_recQ (by decide) (by decide) ?_
      case al =>
        intro p hp o ho
        simp only [List.mem_cons, List.not_mem_nil, or_false] at hp
        rcases hp with rfl | rfl | rfl | rfl <;> (cases ho; exact ⟨rfl, rfl, fun a w => by go_simp⟩)
      case st =>
        intro p hp o ho
        simp only [List.mem_cons, List.not_mem_nil, or_false] at hp
        rcases hp with rfl | rfl | rfl | rfl <;> (cases ho; exact ⟨rfl, rfl, rfl⟩)
      intro l1 h1
      simp [pickB] at h1
      subst h1
      have ED : Ext v v.drew := (Ext.refl v).drew
      (repeat (first | (go_big_quiet_want; refine quiet_load_cells 63 (.tmp 20) bv (o1 + i * 7) (vl 7 (rv P0)) _ rfl rfl (by rintro _ ⟨x', rfl⟩; exact range_later (range_later r0 ED) x'.ext) Tryd.underlying63 rfl (by rw [vl_len]; kernel_rfl) ?_; simp only [Act.put, List.setIfInBounds_toArray, List.set_cons_succ, List.set_cons_zero]; go_big_quiet_on) | (go_big_quiet_want; refine quiet_load_cells 63 (.tmp 25) bv (o1 + (i + 1) * 7) (vl 7 (rv P1)) _ rfl rfl (by rintro _ ⟨x', rfl⟩; exact range_later (range_later r1 ED) x'.ext) Tryd.underlying63 rfl (by rw [vl_len]; kernel_rfl) ?_; simp only [Act.put, List.setIfInBounds_toArray, List.set_cons_succ, List.set_cons_zero]; go_big_quiet_on) | (go_big_quiet_want; refine quiet_load_cells 63 (.tmp 29) bv (o2 + i * 7) (vl 7 (rv P2)) _ rfl rfl (by rintro _ ⟨x', rfl⟩; exact range_later (range_later r2 ED) x'.ext) Tryd.underlying63 rfl (by rw [vl_len]; kernel_rfl) ?_; simp only [Act.put, List.setIfInBounds_toArray, List.set_cons_succ, List.set_cons_zero]; go_big_quiet_on) | (go_big_quiet_want; refine quiet_load_cells 63 (.tmp 34) bv (o2 + (i + 1) * 7) (vl 7 (rv P3)) _ rfl rfl (by rintro _ ⟨x', rfl⟩; exact range_later (range_later r3 ED) x'.ext) Tryd.underlying63 rfl (by rw [vl_len]; kernel_rfl) ?_; simp only [Act.put, List.setIfInBounds_toArray, List.set_cons_succ, List.set_cons_zero]; go_big_quiet_on) | go_big_quiet_step (fail)))
      refine wpQuiet_nil ⟨?_, ?_⟩
      · intro p hp
        simp only [List.mem_cons, List.not_mem_nil, or_false] at hp
        rcases hp with rfl | rfl | rfl | rfl
        · exact ⟨by simp, rfl, rv_one _⟩
        · exact ⟨by simp, rfl, rv_one _⟩
        · exact ⟨by simp, rfl, rv_one _⟩
        · exact ⟨by simp, rfl, rv_one _⟩
      intro bs v1 E1 hbs hne'
      have B0 := hbs ⟨18, 8, 22, 21⟩ (by simp)
      have B1 := hbs ⟨19, 9, 23, 26⟩ (by simp)
      have B2 := hbs ⟨20, 10, 24, 30⟩ (by simp)
      have B3 := hbs ⟨21, 11, 25, 35⟩ (by simp)
      clear hbs hne'
      dsimp only at B0 B1 B2 B3
      simp only [puts, madeOf, List.map_cons, List.map_nil, if_true, Act.put, List.setIfInBounds_toArray, List.set_cons_succ, List.set_cons_zero]
      obtain ⟨b0, hb0⟩ : ∃ b, bs 18 = b := ⟨_, rfl⟩
      obtain ⟨b1, hb1⟩ : ∃ b, bs 19 = b := ⟨_, rfl⟩
      obtain ⟨b2, hb2⟩ : ∃ b, bs 20 = b := ⟨_, rfl⟩
      obtain ⟨b3, hb3⟩ : ∃ b, bs 21 = b := ⟨_, rfl⟩
      rw [hb0] at B0 ⊢
      rw [hb1] at B1 ⊢
      rw [hb2] at B2 ⊢
      rw [hb3] at B3 ⊢
      clear hb0 hb1 hb2 hb3 bs
      obtain ⟨q0, B0⟩ := B0
      obtain ⟨q1, B1⟩ := B1
      obtain ⟨q2, B2⟩ := B2
      obtain ⟨q3, B3⟩ := B3
      replace B0 : Vm v1 b0 7 (rv P0) := B0
      replace B1 : Vm v1 b1 7 (rv P1) := B1
      replace B2 : Vm v1 b2 7 (rv P2) := B2
      replace B3 : Vm v1 b3 7 (rv P3) := B3
      have hbw := CW.size
      clear r0 r1 r2 r3 ED
      have R0 := B0.range
      have R1 := B1.range
      have R2 := B2.range
      have R3 := B3.range
      have SL1 := SL.later E1
      have CW1 : Chg (fun b => sv.ownBlock = some b) w v1 := CW.trans (T := fun _ => False) (Chg.of E1) (fun i h => h.elim)
      clear SL CW E1 B0 B1 B2 B3
      go_upto_region 5 with (first | go_skip)
      have T0 := fun v => triof_any P0 P1 P2 v
      have T1 := fun v => triof_any P1 P3 P2 v
      rw [tv_tri] at T0 T1
      dsimp only at T0 T1
      have HTV : Hid (∃ f0 f1 f2 f3, rv (bare P0) = f0 ∧ rv (bare P1) = f1 ∧ rv (bare P2) = f2 ∧ rv (bare P3) = f3) := ⟨_, _, _, _, rfl, rfl, rfl, rfl⟩
      have HT0 : Hid (tv ⟨P0, P1, P2⟩ = tri21 (rv (bare P0)) (rv (bare P1)) (rv (bare P2)) ∧ tv ⟨P1, P3, P2⟩ = tri21 (rv (bare P1)) (rv (bare P3)) (rv (bare P2))) := ⟨rfl, rfl⟩
      obtain ⟨f0, hf0⟩ : ∃ f, rv (bare P0) = f := ⟨_, rfl⟩
      obtain ⟨f1, hf1⟩ : ∃ f, rv (bare P1) = f := ⟨_, rfl⟩
      obtain ⟨f2, hf2⟩ : ∃ f, rv (bare P2) = f := ⟨_, rfl⟩
      obtain ⟨f3, hf3⟩ : ∃ f, rv (bare P3) = f := ⟨_, rfl⟩
      have one : ∀ x ∈ ([f0 0, f0 1, f0 2, f0 3, f0 4, f0 5, f0 6, f1 0, f1 1, f1 2, f1 3, f1 4, f1 5, f1 6, f2 0, f2 1, f2 2, f2 3, f2 4, f2 5, f2 6, f1 0, f1 1, f1 2, f1 3, f1 4, f1 5, f1 6, f3 0, f3 1, f3 2, f3 3, f3 4, f3 5, f3 6, f2 0, f2 1, f2 2, f2 3, f2 4, f2 5, f2 6] : List Value), x.oneCell' = true := by
        rw [← tri42_list, ← hf0, ← hf1, ← hf2, ← hf3]
        intro x hx
        rcases List.mem_append.1 hx with h | h
        · exact tri21_one (rv_one _) (rv_one _) (rv_one _) x h
        · exact tri21_one (rv_one _) (rv_one _) (rv_one _) x h
      rw [hf0, hf1, hf2] at T0
      rw [hf1, hf3, hf2] at T1
      rw [hf0, hf1, hf2, hf3] at HT0
      clear hf0 hf1 hf2 hf3 HTV
      rw [tri21_list] at T0 T1
      have hsb : ∀ b, s.ownBlock = some b → b < v.heap.size := hsb0
      refine wp_region_phases [(true, [0,1,2,3,5,6,7]), (false, [4,8,9,10,11])] (fun w' => ∃ x : Alt (fun b => s.ownBlock = some b) v1, w' = x.out) (by kernel_rfl) (by kernel_rfl) (fun c a x v w h => by cases x <;> exact h) ⟨⟨v1.drew, (Chg.refl _ v1).drew⟩, rfl⟩ ?_
      intro pl hpl
      simp [pickO] at hpl
      subst hpl
      unfold wpPh
      (repeat (first | (go_big_quiet_want; refine quiet_load_cells 63 (.tmp 8) b0 0 (vl 7 (rv P0)) _ rfl rfl (by rintro _ ⟨x', rfl⟩; exact range_chg R0 x'.chg (fun h => by have := hsb _ h; omega)) Tryd.underlying63 rfl (by rw [vl_len]; kernel_rfl) ?_; simp only [Act.put, List.setIfInBounds_toArray, List.set_cons_succ, List.set_cons_zero]; go_big_quiet_on) | (go_big_quiet_want; refine quiet_load_cells 63 (.tmp 9) b1 0 (vl 7 (rv P1)) _ rfl rfl (by rintro _ ⟨x', rfl⟩; exact range_chg R1 x'.chg (fun h => by have := hsb _ h; omega)) Tryd.underlying63 rfl (by rw [vl_len]; kernel_rfl) ?_; simp only [Act.put, List.setIfInBounds_toArray, List.set_cons_succ, List.set_cons_zero]; go_big_quiet_on) | (go_big_quiet_want; refine quiet_load_cells 63 (.tmp 10) b2 0 (vl 7 (rv P2)) _ rfl rfl (by rintro _ ⟨x', rfl⟩; exact range_chg R2 x'.chg (fun h => by have := hsb _ h; omega)) Tryd.underlying63 rfl (by rw [vl_len]; kernel_rfl) ?_; simp only [Act.put, List.setIfInBounds_toArray, List.set_cons_succ, List.set_cons_zero]; go_big_quiet_on) | (go_big_quiet_want; refine quiet_load_cells 63 (.tmp 11) b3 0 (vl 7 (rv P3)) _ rfl rfl (by rintro _ ⟨x', rfl⟩; exact range_chg R3 x'.chg (fun h => by have := hsb _ h; omega)) Tryd.underlying63 rfl (by rw [vl_len]; kernel_rfl) ?_; simp only [Act.put, List.setIfInBounds_toArray, List.set_cons_succ, List.set_cons_zero]; go_big_quiet_on) | go_big_quiet_step (fail)))
      refine wpQuiet_nil ?_
      have hE0 : Ext v1 v1.drew := (Ext.refl v1).drew
      unfold wpPh
      refine holdk_step fun K hK => ?_
      go_wp2_with (first | (go_at_call 71; with_reducible refine (T0 _).mono ?_; rintro e v2 ⟨rfl, hb⟩))
      have hE1 := hE0.trans hb
      clear hb
      refine hK _ _ ⟨⟨v2, Chg.of hE1⟩, rfl⟩ ?_
      clear hK K
      refine holdk_step fun K hK => ?_
      go_wp2_with (first | (go_at_call 71; with_reducible refine (T1 _).mono ?_; rintro e v3 ⟨rfl, hb⟩))
      have hE2 := hE1.trans hb
      clear hb
      refine hK _ _ ⟨⟨v3, Chg.of hE2⟩, rfl⟩ ?_
      clear hK K T0 T1 R0 R1 R2 R3
      have E4 : Ext v1 (v3.alloc (.cells #[f0 0, f0 1, f0 2, f0 3, f0 4, f0 5, f0 6, f1 0, f1 1, f1 2, f1 3, f1 4, f1 5, f1 6, f2 0, f2 1, f2 2, f2 3, f2 4, f2 5, f2 6, f1 0, f1 1, f1 2, f1 3, f1 4, f1 5, f1 6, f3 0, f3 1, f3 2, f3 3, f3 4, f3 5, f3 6, f2 0, f2 1, f2 2, f2 3, f2 4, f2 5, f2 6] 65)) := hE2.alloc _
      have NB : ∀ k x, ([f0 0, f0 1, f0 2, f0 3, f0 4, f0 5, f0 6, f1 0, f1 1, f1 2, f1 3, f1 4, f1 5, f1 6, f2 0, f2 1, f2 2, f2 3, f2 4, f2 5, f2 6, f1 0, f1 1, f1 2, f1 3, f1 4, f1 5, f1 6, f3 0, f3 1, f3 2, f3 3, f3 4, f3 5, f3 6, f2 0, f2 1, f2 2, f2 3, f2 4, f2 5, f2 6] : List Value)[k]? = some x → (v3.alloc (.cells #[f0 0, f0 1, f0 2, f0 3, f0 4, f0 5, f0 6, f1 0, f1 1, f1 2, f1 3, f1 4, f1 5, f1 6, f2 0, f2 1, f2 2, f2 3, f2 4, f2 5, f2 6, f1 0, f1 1, f1 2, f1 3, f1 4, f1 5, f1 6, f3 0, f3 1, f3 2, f3 3, f3 4, f3 5, f3 6, f2 0, f2 1, f2 2, f2 3, f2 4, f2 5, f2 6] 65)).cell? ((⟨v3.heap.size, 0, none⟩ : Addr).add k) = some x := World.news_of_block (cs := #[f0 0, f0 1, f0 2, f0 3, f0 4, f0 5, f0 6, f1 0, f1 1, f1 2, f1 3, f1 4, f1 5, f1 6, f2 0, f2 1, f2 2, f2 3, f2 4, f2 5, f2 6, f1 0, f1 1, f1 2, f1 3, f1 4, f1 5, f1 6, f3 0, f3 1, f3 2, f3 3, f3 4, f3 5, f3 6, f2 0, f2 1, f2 2, f2 3, f2 4, f2 5, f2 6]) (t := 65) (fr := (0, 0)) (heap_alloc_new v3 _)
      have SL2 : World.ownsC (v3.alloc (.cells #[f0 0, f0 1, f0 2, f0 3, f0 4, f0 5, f0 6, f1 0, f1 1, f1 2, f1 3, f1 4, f1 5, f1 6, f2 0, f2 1, f2 2, f2 3, f2 4, f2 5, f2 6, f1 0, f1 1, f1 2, f1 3, f1 4, f1 5, f1 6, f3 0, f3 1, f3 2, f3 3, f3 4, f3 5, f3 6, f2 0, f2 1, f2 2, f2 3, f2 4, f2 5, f2 6] 65)) 0 65 21 s m (ew 21 m (behindT n X (rowT P R))) := SL1.later E4
      have hsz : (v3.alloc (.cells #[f0 0, f0 1, f0 2, f0 3, f0 4, f0 5, f0 6, f1 0, f1 1, f1 2, f1 3, f1 4, f1 5, f1 6, f2 0, f2 1, f2 2, f2 3, f2 4, f2 5, f2 6, f1 0, f1 1, f1 2, f1 3, f1 4, f1 5, f1 6, f3 0, f3 1, f3 2, f3 3, f3 4, f3 5, f3 6, f2 0, f2 1, f2 2, f2 3, f2 4, f2 5, f2 6] 65)).heap.size = v3.heap.size + 1 := by simp
      have hv3 := hE2.more
      refine holdk_step fun K hK => ?_
      go_wp2
      refine hK _ _ ⟨⟨_, Chg.of E4⟩, rfl⟩ ?_
      clear hK K
      obtain ⟨v8, hv8⟩ : ∃ v8, v3.alloc (.cells #[f0 0, f0 1, f0 2, f0 3, f0 4, f0 5, f0 6, f1 0, f1 1, f1 2, f1 3, f1 4, f1 5, f1 6, f2 0, f2 1, f2 2, f2 3, f2 4, f2 5, f2 6, f1 0, f1 1, f1 2, f1 3, f1 4, f1 5, f1 6, f3 0, f3 1, f3 2, f3 3, f3 4, f3 5, f3 6, f2 0, f2 1, f2 2, f2 3, f2 4, f2 5, f2 6] 65) = v8 := ⟨_, rfl⟩
      rw [hv8] at E4 NB SL2 hsz ⊢
      have HSZ : Hid (v8.heap.size = v3.heap.size + 1) := hsz
      clear hsz
      refine holdk_step fun K hK => ?_
      go_wp2_with (first | (at_builtin; refine wpList_append_lst _ (by rfl) _ _ _ (by rfl) 65 i0 _ 21 60 Tryd.underlying31 hi0 hz0 hz1 hz2 rfl (by omega) s m _ (by rfl) SL2 ⟨v3.heap.size, 0, none⟩ 2 2 [f0 0, f0 1, f0 2, f0 3, f0 4, f0 5, f0 6, f1 0, f1 1, f1 2, f1 3, f1 4, f1 5, f1 6, f2 0, f2 1, f2 2, f2 3, f2 4, f2 5, f2 6, f1 0, f1 1, f1 2, f1 3, f1 4, f1 5, f1 6, f3 0, f3 1, f3 2, f3 3, f3 4, f3 5, f3 6, f2 0, f2 1, f2 2, f2 3, f2 4, f2 5, f2 6] (by rfl) (by rfl) NB one (by omega) (by unfold maxLen; omega) (by omega) ?_))
      intro gg cap' v9 own hat
      have HAT : Hid ((s = .slice (some ⟨gg, 0, none⟩) m cap' ∧ v8.grownBy v9 (some gg)) ∨ (v8.heap.size ≤ gg ∧ v8.grownBy v9 none)) := hat
      clear hat
      have CH2 : Chg (fun b => s.ownBlock = some b) v8 v9 := by
        rcases HAT.out with ⟨h, h'⟩ | ⟨_, h'⟩
        · exact Chg.grown h' (fun b hb => by rw [h]; exact hb)
        · exact Chg.grown h' (fun b hb => by cases hb)
      have CH : Chg (fun b => s.ownBlock = some b) v1 v9 := (Chg.of E4).trans CH2 (fun b h => .inl h)
      rw [← tri42_list] at own
      have OWN : Hid (Lst v9 65 21 (.slice (some ⟨gg, 0, none⟩) (m + 2) cap') (m + 2) (upe (upe (behindT n X (rowT P R)) m (tri21 f0 f1 f2)) (m + 1) (tri21 f1 f3 f2))) := Lst.snoc2 own
      clear own
      go_wp2
      refine hK _ _ ⟨⟨v9, CH⟩, rfl⟩ ?_
      clear hK K
      refine holdk_step fun K hK => ?_
      go_wp2
      refine hK _ _ ⟨⟨v9, CH⟩, rfl⟩ ?_
      clear hK K
      unfold wpHoldK wpPh
      have hcw := CW1.size
      go_wp2
      go_roundg (gk - 1)
      case measure => omega
      case rel =>
        refine ⟨i + 1, _, rfl, by omega, by go_num, CW1.trans CH (fun b hb => hnew b hb), ?_, fun b hb => ?_⟩
        · rw [show n + 2 * (i + 1) = m + 2 by rw [← HM.out]; omega]
          refine OWN.out.congr fun k t hk ht => ?_
          have hm := HM.out
          unfold upe behindT
          by_cases e1 : k = m + 1
          · rw [if_pos e1, if_neg (by omega), show k - n = 2 * i + 1 by omega, HE.out.2, HT0.out.2]
          · rw [if_neg e1]
            by_cases e0 : k = m
            · rw [if_pos e0, if_neg (by omega), show k - n = 2 * i by omega, HE.out.1, HT0.out.1]
            · rw [if_neg e0]
        · simp only [Value.ownBlock, Option.some.injEq] at hb
          subst hb
          rcases HAT.out with ⟨h, _⟩ | ⟨h, _⟩
          · exact hnew gg (by rw [h]; rfl)
          · exact .inr (by have := HSZ.out; omega)
    · have hii : ¬ (i : Int) < (r : Int) - 1 := by omega
      go_wp2_with (first | go_skip)
      go_ret
      exact ⟨s, rfl, CW, by rw [show r - 1 = i by omega]; exact SL, hnew⟩
end Go.Proofs.YthlhmfjopjikpaaDoor
