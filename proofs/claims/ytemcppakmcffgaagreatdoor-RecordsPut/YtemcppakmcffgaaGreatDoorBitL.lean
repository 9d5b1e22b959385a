/- The reference's row of bits: Pad, Bytes. -/
import Derived.Test.YtemcppakmcffgaaGreatDoorBitK
namespace Go.Proofs.YtemcppakmcffgaaGreatDoor
open Go.RowKit Go.BigFrame
set_option linter.unusedSimpArgs false
set_option linter.unusedVariables false
/-- A byte with one bit more. -/
theorem or_bit {β : Nat → Int} (hb : Bits β) (q t : Nat) (ht : t < 8) : bits .or .u8 (nb (zb β (8 * q + t)) (8 * q) 8) (β (8 * q + t) * 2 ^ (7 - t) % 256) = nb (zb β (8 * q + t + 1)) (8 * q) 8 := by
  rw [nb_last (8 * q + t) (8 * q) t (by omega) rfl, nb_last (8 * q + t + 1) (8 * q) (t + 1) (by omega) (by omega), nb_succ]
  have h1 := nb_in hb (8 * q) t
  have h2 := hb (8 * q + t)
  have := or8 (nb β (8 * q) t) (β (8 * q + t)) (7 - t) 1 (by omega) h1.1 (by rw [show 8 - (7 - t + 1) = t by omega]; exact h1.2) (by omega) (by show _ < (2 : Int); omega)
  rw [show 7 - t + 1 = 8 - t by omega] at this
  rw [this, show 8 - (t + 1) = 7 - t by omega, show ((2 : Int) ^ 1) = 2 from rfl, Int.mul_comm (nb β (8 * q) t) 2]
/-- The bytes of the first i bits. -/
def ab (β : Nat → Int) (i q : Nat) : Value := .int .u8 (nb (zb β i) (8 * q) 8)
theorem ab_next {β : Nat → Int} {i q : Nat} (h : q ≠ i / 8) : ab β i q = ab β (i + 1) q := by
  unfold ab
  rw [nb_congr (β := zb β i) (γ := zb β (i + 1)) _ _ fun k h1 h2 => ?_]
  unfold zb
  by_cases e : k < i
  · rw [if_pos e, if_pos (by omega)]
  · rw [if_neg e, if_neg (by omega)]
theorem ab_new {β : Nat → Int} {i : Nat} (h : i % 8 = 0) : ab β i (i / 8) = .int .u8 0 := by
  unfold ab
  rw [nb_noughts _ _ fun k h1 h2 => ?_]
  unfold zb
  exact if_neg (by omega)
theorem own_stored {w : World} {g n cap : Nat} {f : Nat → Value} (h : w.ownsRow 0 5 1 (.slice (some ⟨g, 0, none⟩) n cap) n (vl n f)) (j : Nat) (u : Value) (hj : j < n) : (w.setCell ⟨g, j, none⟩ u).ownsRow 0 5 1 (.slice (some ⟨g, 0, none⟩) n cap) n (vl n (fun i => if i = j then u else f i)) := by
  have := (h.stored j u).1
  rw [show vl n (fun i => if i = j then u else f i) = (vl n f).set j u from ?_]
  · exact this
  · apply List.ext_getElem?
    intro i
    rw [List.getElem?_set]
    by_cases hi : i < n
    · rw [vl_at n _ hi, vl_at n f hi]
      by_cases e : i = j
      · subst e; rw [if_pos rfl, if_pos rfl, if_pos (by rw [vl_len]; exact hi)]
      · rw [if_neg e, if_neg (fun h => e h.symm)]
    · rw [List.getElem?_eq_none (by rw [vl_len]; omega), List.getElem?_eq_none (by rw [vl_len]; omega), if_neg (by omega)]
/-- How the bytes stand when i bits are laid. -/
def Lays (w wr : World) (β : Nat → Int) (i : Nat) (ub : Value) : Prop := Ext w wr ∧ wr.ownsRow 0 5 1 ub ((i + 7) / 8) (vl ((i + 7) / 8) (ab β i)) ∧ ∀ g, ub.ownBlock = some g → w.heap.size ≤ g
set_option maxRecDepth 20000 in
set_option maxHeartbeats 8000000 in
theorem rbytes_any (m n : Nat) (u : Value) (β : Nat → Int) (w : World) (R : RR w m u β n) :
    Calls Tryz.prog 31 #[.pointer (some ⟨m, 0, none⟩)] w fun e w' => ∃ ub, e = .returned ub ∧ Lays w w' β n ub := by
  obtain ⟨i0, hi0, hz0, hz1, hz2⟩ := info_parts info_byte
  have hn := R.le
  obtain ⟨ad, cp, rfl⟩ := own_slice R.own
  have b0 := R.box.c0
  have HO : Hid (w.ownsRow 0 5 1 (.slice ad n cp) n (vl n (fun i => .int .u8 (β i)))) := R.own
  have hb := R.bits
  have hlt := R.lt
  go_enter Tryz.func31, Tryz.ntmps31
  go_upto_region 3 with fail
  go_loopg [3, 4] n (fun gk bv iv wr => ∃ (i : Nat), i + gk = n ∧ iv = .int .i64 i ∧ Lays w wr β i bv)
  case atStart => exact ⟨0, by omega, rfl, Ext.refl w, World.ownsRow_nil _ _ _ _, by simp [Value.ownBlock]⟩
  case round =>
    rename_i bv iv
    obtain ⟨i, hi, rfl, EX, O, hnew⟩ := hrel
    obtain ⟨ab', cb, rfl⟩ := own_slice O
    have c0 := EX.later b0
    by_cases hlt' : i < n
    · have hii : (i : Int) < (n : Int) := by omega
      obtain ⟨v0, hv0⟩ : ∃ v0, v0 = wr := ⟨_, rfl⟩
      subst hv0
      obtain ⟨b, cp', hbs, _, _⟩ := HO.out.form (by omega)
      cases hbs
      have cC := EX.later (HO.out.cells (g := b) rfl i _ (vl_at n _ hlt'))
      rw [Addr.add_mid, Nat.zero_add] at cC
      obtain ⟨q, hq⟩ : ∃ q : Nat, i / 8 = q := ⟨_, rfl⟩
      obtain ⟨d, hd⟩ : ∃ d : Nat, 7 - i % 8 = d := ⟨_, rfl⟩
      have hqi : (i : Int) / 8 = (q : Int) := by omega
      have hdi : 7 - (i : Int) % 8 = (d : Int) := by omega
      have d7 : d ≤ 7 := by omega
      have q7 : q < 65536 := by omega
      have hb01 := hb i
      have y0 : 0 ≤ β i := by omega
      have y1 : β i < 256 := by omega
      have HO2 : bits .or .u8 (nb (zb β i) (8 * q) 8) (β i * 2 ^ d % 256) = nb (zb β (i + 1)) (8 * q) 8 := by
        have := or_bit hb q (i % 8) (by omega)
        rw [show 8 * q + i % 8 = i by omega, hd] at this
        exact this
      have HAB : Hid (∀ j, j ≠ q → ab β i j = ab β (i + 1) j) := fun j hj => ab_next (by rw [hq]; exact hj)
      have HZ' : Hid (ab β (i + 1) q = .int .u8 (nb (zb β (i + 1)) (8 * q) 8)) := rfl
      have HX : Hid (ab β i q = .int .u8 (nb (zb β i) (8 * q) 8)) := rfl
      have HNW : Hid (i % 8 = 0 → ab β i q = .int .u8 0) := fun h => by rw [← hq]; exact ab_new h
      have xin := nb_in (zb_bits hb i) (8 * q) 8
      obtain ⟨x0, x1⟩ := xin
      replace x1 : nb (zb β i) (8 * q) 8 < 256 := x1
      generalize nb (zb β (i + 1)) (8 * q) 8 = z at *
      generalize nb (zb β i) (8 * q) 8 = x at *
      generalize hyy : β i = y at *
      have HYY : Hid (β i = y) := hyy
      clear hyy
      have HQ : Hid (8 * q ≤ i ∧ i < 8 * q + 8 ∧ i < n) := ⟨by omega, by omega, hlt'⟩
      by_cases h8 : i % 8 = 0
      case' pos =>
        have h8i : (i : Int) % 8 = 0 := by omega
        have hN : (i + 7) / 8 = q := by omega
        rw [hN] at O hnew ⊢
        have hx0 : Hid (vl q (ab β i) ++ [.int .u8 0] = vl (q + 1) (ab β i)) := by rw [← vl_snoc, HNW.out h8]; exact rfl
        have hd7 : d = 7 := by omega
        subst hd7
        have HO3 : bits .or .u8 x (y * 128 % 256) = z := HO2
        have HO4 : bits .or .u8 x (y * 128) = z := by rw [← HO3]; congr 1; omega
        clear h8 hN hq hd HNW hlt' hdi
        go_upto_region 7 with (first | (at_builtin; refine wpList_append_lies _ (by rfl) _ _ _ (by rfl) 0 5 i0 _ 1 1 Tryz.underlying31 hi0 hz0 hz1 hz2 rfl (by omega) (.slice ab' q cb) q _ (by rfl) (O.alloc _) ⟨v0.heap.size, 0, none⟩ 1 1 [.int .u8 0] (by rfl) (by rfl) (World.news_of_block (cs := #[.int .u8 0]) (t := 5) (fr := (0, 0)) (heap_alloc_new v0 _)) (by simp [Value.oneCell']) (by omega) (by unfold maxLen; omega) (by omega) (by simp) (v0.heap.size + 1) (by simp) ?_))
        intro g cg v1 O1 hgrow hat hltg
        rw [hx0.out] at O1
        have E1 : Ext w v1 := Chg.over (EX.alloc _) (Chg.grown (S := fun k => (Value.slice ab' q cb).ownBlock = some k) hgrow (fun k e => e)) hnew
        have hg : w.heap.size ≤ g := by rcases hat with h | h; exact hnew g h; have := EX.more; omega
        go_upto_region 7 with fail
      case' neg =>
        have h8i : ¬ (i : Int) % 8 = 0 := by omega
        have h8j : ((i : Int) % 8 == 0) = false := by simp; omega
        have hN : (i + 7) / 8 = q + 1 := by omega
        rw [hN] at O hnew ⊢
        obtain ⟨g, cg, hbs, _, _⟩ := O.form (by omega)
        cases hbs
        have O1 := O
        have E1 := EX
        have hg : w.heap.size ≤ g := hnew g rfl
        obtain ⟨v1, hv1⟩ : ∃ v1, v1 = v0 := ⟨_, rfl⟩
        subst hv1
        clear h8 hN hq hd HNW hlt'
        go_upto_region 7 with fail
      all_goals
        clear c0 cC
        have cA := O1.cells (g := g) rfl q _ (vl_at (q + 1) _ (by omega))
        rw [Addr.add_mid, Nat.zero_add, HX.out] at cA
        have cB := E1.later b0
        have cC := E1.later (HO.out.cells (g := b) rfl i _ (vl_at n _ HQ.out.2.2))
        rw [Addr.add_mid, Nat.zero_add, HYY.out] at cC
        have fz := O1.frozenAt q
        have lq : q < q + 1 := by omega
        have gA := fun x' : Grow v1 => x'.ext.later cA
        have gB := fun x' : Grow v1 => x'.ext.later cB
        have gC := fun x' : Grow v1 => x'.ext.later cC
        refine wp_region_reads (fun i => decide (i < 20)) 0 20 (fun w' => ∃ x : Grow v1, w' = x.out) (by kernel_rfl) (by kernel_rfl) (fun c a x v w h => by cases x <;> exact h) ⟨⟨v1.drew, (Ext.refl v1).drew⟩, rfl⟩ ?_
        intro l1 l2 h1 h2
        simp [pickB] at h1 h2
        subst h1 h2
        (repeat (first | go_big_quiet_step (fail))); refine wpQuiet_nil ?_; clear gA gB gC
        refine hold_done ?_
        go_wp2
        go_roundg (gk - 1)
        case measure => omega
        case rel =>
          refine ⟨i + 1, by omega, by go_num, (E1.setCell hg _).drew, ?_, ?_⟩
          · have := own_stored O1 q (.int .u8 z) (by omega)
            rw [show (i + 1 + 7) / 8 = q + 1 by have := HQ.out; omega, vl_eq (g := fun j => if j = q then Value.int .u8 z else ab β i j) (fun j hj => ?_)]
            · exact this
            · by_cases e : j = q
              · rw [if_pos e, e, HZ'.out]
              · rw [if_neg e, HAB.out j e]
          · intro k hk
            simp only [Value.ownBlock, Option.some.injEq] at hk
            omega
    · have hii : ¬ (i : Int) < (n : Int) := by omega
      obtain rfl : i = n := by omega
      go_wp2
      go_ret
      exact ⟨_, rfl, EX, O, hnew⟩
end Go.Proofs.YtemcppakmcffgaaGreatDoor
