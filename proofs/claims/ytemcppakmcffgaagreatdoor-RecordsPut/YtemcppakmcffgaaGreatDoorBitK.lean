/- The reference's row of bits: New, Len, Put, Pad. -/
import Derived.Test.YtemcppakmcffgaaGreatDoorBitG
namespace Go.Proofs.YtemcppakmcffgaaGreatDoor
open Go.RowKit Go.BigFrame
set_option linter.unusedSimpArgs false
set_option linter.unusedVariables false
/-- The reference's row: its struct m, the slice u of its bits. -/
structure RR (v : World) (m : Nat) (u : Value) (β : Nat → Int) (n : Nat) : Prop where
  box : S1m v m u
  own : v.ownsRow 0 5 1 u n (vl n (fun i => .int .u8 (β i)))
  nu : ∀ g, u.ownBlock = some g → g ≠ m
  bits : Bits β
  le : n ≤ 524288
def In2 (m : Nat) (u : Value) (k : Nat) : Prop := k = m ∨ u.ownBlock = some k
theorem RR.chg {v v' : World} {m : Nat} {u : Value} {β : Nat → Int} {n : Nat} {S : Nat → Prop} (R : RR v m u β n) (h : Chg S v v') (hS : ∀ k, In2 m u k → ¬ S k) : RR v' m u β n :=
  ⟨R.box.blk (h.block m R.box.lt (hS m (.inl rfl))), own_chg R.own h (fun k hk => hS k (.inr hk)), R.nu, R.bits, R.le⟩
theorem RR.later {v v' : World} {m : Nat} {u : Value} {β : Nat → Int} {n : Nat} (R : RR v m u β n) (h : Ext v v') : RR v' m u β n := R.chg (S := fun _ => False) (Chg.of h) (fun _ _ h => h)
theorem RR.lt {v : World} {m : Nat} {u : Value} {β : Nat → Int} {n : Nat} (R : RR v m u β n) : ∀ k, In2 m u k → k < v.heap.size := by
  rintro k (rfl | h)
  · exact R.box.lt
  · exact (R.own.lt k h).2
theorem RR.congr {v : World} {m : Nat} {u : Value} {β γ : Nat → Int} {n : Nat} (R : RR v m u β n) (hγ : Bits γ) (h : ∀ i, i < n → β i = γ i) : RR v m u γ n := by
  have o := R.own
  rw [vl_eq (g := fun i => .int .u8 (γ i)) (fun i hi => by rw [h i hi])] at o
  exact ⟨R.box, o, R.nu, hγ, R.le⟩
def Stp2 (w w' : World) (m : Nat) (u u' : Value) : Prop := Chg (In2 m u) w w' ∧ ∀ g, u'.ownBlock = some g → u.ownBlock = some g ∨ w.heap.size ≤ g
theorem Stp2.refl (w : World) (m : Nat) (u : Value) : Stp2 w w m u u := ⟨Chg.refl _ _, fun _ h => .inl h⟩
theorem Stp2.of {w w' : World} (m : Nat) (u : Value) (h : Ext w w') : Stp2 w w' m u u := ⟨Chg.of h, fun _ h => .inl h⟩
theorem Stp2.chg {w w' : World} {m : Nat} {u u' : Value} (h : Stp2 w w' m u u') : Chg (In2 m u) w w' := h.1
theorem Stp2.trans {a b c : World} {m : Nat} {u u' u'' : Value} (h : Stp2 a b m u u') (k : Stp2 b c m u' u'') : Stp2 a c m u u'' := by
  refine ⟨h.1.trans k.1 ?_, fun g hg => ?_⟩
  · rintro i (rfl | hi)
    · exact .inl (.inl rfl)
    · exact (h.2 i hi).imp (fun e => .inr e) id
  · rcases k.2 g hg with h1 | h1
    · exact h.2 g h1
    · exact .inr (Nat.le_trans h.1.size h1)
theorem rnew_any (w : World) : Calls Tryz.prog 29 #[] w fun e w' => e = .returned (.pointer (some ⟨w.heap.size, 0, none⟩)) ∧ Ext w w' ∧ ∀ β, Bits β → RR w' w.heap.size (.slice none 0 0) β 0 := by
  go_enter Tryz.func29, Tryz.ntmps29
  go_wp2
  go_ret
  exact ⟨rfl, (Ext.refl w).alloc _, fun β hb => ⟨S1m.new rfl rfl, World.ownsRow_nil _ _ _ _, by simp [Value.ownBlock], hb, by omega⟩⟩
set_option maxHeartbeats 1600000 in
theorem rput_arg (a : Value) (v k : Int) (w : World) (h0 : 0 ≤ v) (h1 : v < 4294967296) (hk : In64 k) (h : k < 0 ∨ 32 < k ∨ (0 ≤ k ∧ k ≤ 32 ∧ 2 ^ k.toNat ≤ v)) :
    Calls Tryz.prog 30 #[a, .int .u32 v, .int .i64 k] w fun e w' => e = .returned (.int .i64 1) ∧ Ext w w' := by
  have EX := Ext.refl w
  rcases (show k < 0 ∨ (¬ k < 0 ∧ 32 < k) ∨ (0 ≤ k ∧ k ≤ 32 ∧ 2 ^ k.toNat ≤ v) by omega) with h | ⟨h, h'⟩ | ⟨h, h', h''⟩
  · go_enter Tryz.func30, Tryz.ntmps30
    go_wp2
    go_ret
    exact ⟨rfl, EX⟩
  · go_enter Tryz.func30, Tryz.ntmps30
    go_wp2
    go_ret
    exact ⟨rfl, EX⟩
  · obtain ⟨j, rfl⟩ := Int.eq_ofNat_of_zero_le h
    have hj : (v / 2 ^ j != 0) = true := div_great h''
    have hj2 : j < 32 := by
      by_cases e : j = 32
      · subst e
        exact absurd h'' (by show ¬ (4294967296 : Int) ≤ v; omega)
      · omega
    have hj3 : (j : Int) < 32 := by omega
    clear h h' h''
    go_enter Tryz.func30, Tryz.ntmps30
    go_wp2
    go_ret
    exact ⟨rfl, EX⟩
theorem nb_bit {β : Nat → Int} (hb : Bits β) (n j r : Nat) : nb β n (j + 1 + r) / 2 ^ r % 2 = β (n + j) := by
  have := nb_piece hb n j 1 r
  rw [show ((2 : Int) ^ 1) = 2 from rfl] at this
  rw [this, nb_succ, nb_zero]
  simp
set_option maxRecDepth 20000 in
set_option maxHeartbeats 4000000 in
theorem rput_any (m n k : Nat) (u : Value) (β : Nat → Int) (v : Int) (w : World) (R : RR w m u β n) (hk : k ≤ 32) (hv : nb β n k = v) (h : n + k ≤ 524288) :
    Calls Tryz.prog 30 #[.pointer (some ⟨m, 0, none⟩), .int .u32 v, .int .i64 k] w fun e w' => e = .returned (.int .i64 0) ∧ ∃ u', RR w' m u' β (n + k) ∧ Stp2 w w' m u u' := by
  obtain ⟨i0, hi0, hz0, hz1, hz2⟩ := info_parts info_byte
  have hvk := nb_in R.bits n k
  rw [hv] at hvk
  obtain ⟨h0, h1⟩ := hvk
  have v1 : v < 4294967296 := by have := pow32 hk; omega
  have hj : v / 2 ^ k = 0 := div_small h0 h1
  have HV : Hid (nb β n k = v) := hv
  have HR : Hid (RR w m u β n) := R
  have hn := R.le
  obtain ⟨a, cap, rfl⟩ := own_slice R.own
  have c0 := R.box.c0
  clear R hv h1
  have hlim : ¬ (524288 : Int) < (n : Int) + (k : Int) := by omega
  go_enter Tryz.func30, Tryz.ntmps30
  by_cases hk32 : k = 32
  case' pos => have hk3 : ¬ (k : Int) < 32 := by omega
  case' neg => have hk3 : (k : Int) < 32 := by omega
  all_goals
    clear hk32
    go_upto_region 6 with fail
    go_loopg [7] k (fun gk iv wr => ∃ (j : Nat) (d : Int) (u' : Value), j + gk = k ∧ d = (gk : Int) - 1 ∧ iv = .int .i64 d ∧ RR wr m u' β (n + j) ∧ Stp2 w wr m (.slice a n cap) u')
    case atStart => exact ⟨0, (k : Int) - 1, _, by omega, rfl, by go_num, HR.out, Stp2.refl _ _ _⟩
    case round =>
      clear c0
      obtain ⟨j, d, u', hjk, hd, rfl, R, ST⟩ := hrel
      by_cases hgk : gk = 0
      · have hd0 : ¬ 0 ≤ d := by omega
        obtain rfl : j = k := by omega
        clear HV HR
        go_wp2
        go_ret
        exact ⟨rfl, u', R, ST⟩
      · obtain ⟨r, rfl⟩ : ∃ r, gk = r + 1 := ⟨gk - 1, by omega⟩
        obtain rfl : d = (r : Int) := by omega
        clear hd
        have hr32 : r < 32 := by omega
        have hr0 : (0 : Int) ≤ (r : Int) := by omega
        have hbit : v / 2 ^ r % 2 = β (n + j) := by rw [← HV.out, show k = j + 1 + r by omega]; exact nb_bit R.bits n j r
        have hin := div_in r h0 v1
        have HA : bits .and .u32 (v / 2 ^ r) 1 = v / 2 ^ r % 2 := bits_mask .u32 32 (by decide) wraps_u32 1 (by decide) _ hin.1 hin.2
        rw [hbit] at HA
        have hb01 := R.bits (n + j)
        have b0 : 0 ≤ β (n + j) := by omega
        have b1 : β (n + j) < 2 := by omega
        have HY : Hid (β (n + j) = β (n + j)) := rfl
        generalize hy : β (n + j) = y at HA b0 b1
        clear HY hbit hin hb01
        have hy256 : y % 256 = y := by omega
        obtain ⟨ad, cp, rfl⟩ := own_slice R.own
        have b0' := R.box.c0
        have lr := R.box.lt
        have fr := R.box.fz 0
        have O := R.own
        obtain ⟨v0, hv0⟩ : ∃ v0, v0 = wr := ⟨_, rfl⟩
        subst hv0
        have tr : ¬ (Value.slice ad (n + j) cp).ownBlock = some m := fun e => R.nu m e rfl
        go_upto_region 8 with fail
        have g0 := fun x' : Alt (fun k => (Value.slice ad (n + j) cp).ownBlock = some k) v0 => x'.cell tr b0'
        refine wp_region_reads (fun i => decide (i < 10)) 2 12 (fun w' => ∃ x : Alt (fun k => (Value.slice ad (n + j) cp).ownBlock = some k) v0, w' = x.out) (by kernel_rfl) (by kernel_rfl) (fun c a x v w h => by cases x <;> exact h) ⟨⟨v0.drew, (Chg.refl _ v0).drew⟩, rfl⟩ ?_
        intro l1 l2 h1 h2
        simp [pickB] at h1 h2
        subst h1 h2
        (repeat (first | go_big_quiet_step (fail))); refine wpQuiet_nil ?_; clear g0
        refine hold_step (n := 1) fun K hK => ?_
        go_wp2
        refine hK _ _ ⟨⟨_, ((Chg.refl _ v0).alloc _).drew⟩, rfl⟩ ?_
        clear hK K
        refine hold_step (n := 0) fun K hK => ?_
        go_wp2_with (first | (at_builtin; refine wpList_append_lies _ (by rfl) _ _ _ (by rfl) 0 5 i0 _ 1 1 Tryz.underlying31 hi0 hz0 hz1 hz2 rfl (by omega) (.slice ad (n + j) cp) (n + j) _ (by rfl) ((O.alloc _).drew) ⟨v0.heap.size, 0, none⟩ 1 1 [.int .u8 y] (by rfl) (by rfl) (World.news_of_block (cs := #[.int .u8 y]) (t := 5) (fr := (0, 0)) (heap_alloc_new v0 _)) (by simp [Value.oneCell']) (by omega) (by unfold maxLen; omega) (by omega) (by simp) (v0.heap.size + 1) (by simp) ?_))
        intro gg cap' w1 hown1 hgrow hat hlt
        go_wp2
        have CH : Chg (fun k => (Value.slice ad (n + j) cp).ownBlock = some k) v0 w1 := (((Chg.refl _ v0).alloc _).drew).trans (Chg.grown hgrow (fun k e => e)) (fun i hi => .inl hi)
        refine hK _ _ ⟨⟨w1, CH⟩, rfl⟩ ?_
        clear hK K
        refine hold_done ?_
        have B1 := R.box.blk (CH.block m lr tr)
        have k0 := B1.c0
        have f1 := B1.fz 0
        have gr : gg ≠ m := by rcases hat with h | h; exact R.nu gg h; omega
        go_wp2
        go_roundg r
        case measure => omega
        case rel =>
          refine ⟨j + 1, (r : Int) - 1, .slice (some ⟨gg, 0, none⟩) (n + j + 1) cap', by omega, rfl, by go_num, ⟨B1.set0 _, ?_, fun g hg => ?_, R.bits, by omega⟩, ST.trans ⟨(CH.mono (fun i hi => .inr hi)).setCell (.inl (.inl rfl)) _, fun g hg => ?_⟩⟩
          · rw [show n + (j + 1) = n + j + 1 by omega, ← vl_snoc, hy]
            exact own_set hown1 (by simp [Value.ownBlock, gr]) _
          · simp only [Value.ownBlock, Option.some.injEq] at hg
            subst hg
            exact gr
          · simp only [Value.ownBlock, Option.some.injEq] at hg
            subst hg
            exact hat.imp id (fun h => by omega)
end Go.Proofs.YtemcppakmcffgaaGreatDoor
