/- What the given function Roots of gouacheref04 does, called at 32: T(1) to T(32), in new memory. What the given function Two of gouacheref04 does, called at any number: 2 to the power of it, as a number of 65536ths. -/
import Derived.Test.YtbkifcfienhkaaaDoorPowG
import Derived.OwnWalk
import Derived.Laws.AppendOwn
import Derived.Test.YtbkifcfienhkaaaDoorPowR
namespace Go.Proofs.YtbkifcfienhkaaaDoor
open Go.RowKit Go.BigFrame
set_option linter.unusedSimpArgs false
set_option linter.unusedVariables false

theorem ext_grown {w w' : World} (h : Ext w w') : w.grownBy w' none := ⟨h.os, h.tape, h.output, h.size, fun k hk _ => h.block k hk⟩
theorem own_later {w w' : World} {base : Nat} {e : TypeId} {size n : Nat} {v : Value} {xs : List Value} (h : w.ownsRow base e size v n xs) (g : Ext w w') : w'.ownsRow base e size v n xs :=
  h.kept (ext_grown g) (by by_cases k : v.ownBlock = none; exact .inl k; exact .inr k)
theorem own_ext {a w w' : World} {e : TypeId} {size n : Nat} {v : Value} {xs : List Value} (EX : Ext a w) (h : w.ownsRow a.heap.size e size v n xs) (g : w.grownBy w' v.ownBlock) : Ext a w' :=
  Below.grown EX g EX.size (fun k hk => (h.lt k hk).1)
theorem info_u64 : (Tryd.prog.info? 39).map (fun i => (i.zero, i.size, i.bytes)) = some (some (.int .u64 0), 1, 8) := by kernel_rfl
/-- The roots so far. -/
def rl (g : Nat → Int) (k : Nat) : List Value := (List.range k).map fun i => .int .u64 (g (i + 1))
theorem rl_succ (g : Nat → Int) (k : Nat) : rl g k ++ [.int .u64 (g (k + 1))] = rl g (k + 1) := by unfold rl; rw [List.range_succ, List.map_append]; rfl
theorem rl_len (g : Nat → Int) (k : Nat) : (rl g k).length = k := by unfold rl; simp
set_option maxHeartbeats 8000000 in
theorem roots4_walk (g : Nat → Int) (g0 : g 0 = 9223372036854775808) (X : Nat → Int) (NA : ∀ k, k < 32 → ∀ w, Calls Tryd.prog 56 #[.int .u64 (g k)] w fun e w' => e = .returned (.agg #[.bool (false), .int .i64 (dg (g k) 0), .int .i64 (dg (g k) 1), .int .i64 (dg (g k) 2), .int .i64 (dg (g k) 3), .int .i64 (dg (g k) 4), .int .i64 (dg (g k) 5), .int .i64 (dg (g k) 6), .int .i64 (dg (g k) 7), .int .i64 (dg (g k) 8), .int .i64 (dg (g k) 9), .int .i64 (dg (g k) 10), .int .i64 (dg (g k) 11)]) ∧ Ext w w') (NS : ∀ w, Calls Tryd.prog 56 #[.int .u64 4611686018427387904] w fun e w' => e = .returned (.agg #[.bool (false), .int .i64 (dg (4611686018427387904) 0), .int .i64 (dg (4611686018427387904) 1), .int .i64 (dg (4611686018427387904) 2), .int .i64 (dg (4611686018427387904) 3), .int .i64 (dg (4611686018427387904) 4), .int .i64 (dg (4611686018427387904) 5), .int .i64 (dg (4611686018427387904) 6), .int .i64 (dg (4611686018427387904) 7), .int .i64 (dg (4611686018427387904) 8), .int .i64 (dg (4611686018427387904) 9), .int .i64 (dg (4611686018427387904) 10), .int .i64 (dg (4611686018427387904) 11)]) ∧ Ext w w')
    (PM : ∀ k, k < 32 → ∀ w, Calls Tryd.prog 55 #[(.agg #[.bool (false), .int .i64 (dg (g k) 0), .int .i64 (dg (g k) 1), .int .i64 (dg (g k) 2), .int .i64 (dg (g k) 3), .int .i64 (dg (g k) 4), .int .i64 (dg (g k) 5), .int .i64 (dg (g k) 6), .int .i64 (dg (g k) 7), .int .i64 (dg (g k) 8), .int .i64 (dg (g k) 9), .int .i64 (dg (g k) 10), .int .i64 (dg (g k) 11)]), (.agg #[.bool (false), .int .i64 (dg (4611686018427387904) 0), .int .i64 (dg (4611686018427387904) 1), .int .i64 (dg (4611686018427387904) 2), .int .i64 (dg (4611686018427387904) 3), .int .i64 (dg (4611686018427387904) 4), .int .i64 (dg (4611686018427387904) 5), .int .i64 (dg (4611686018427387904) 6), .int .i64 (dg (4611686018427387904) 7), .int .i64 (dg (4611686018427387904) 8), .int .i64 (dg (4611686018427387904) 9), .int .i64 (dg (4611686018427387904) 10), .int .i64 (dg (4611686018427387904) 11)])] w fun e w' => e = .returned (.agg #[.bool (false), .int .i64 (dg (X k) 0), .int .i64 (dg (X k) 1), .int .i64 (dg (X k) 2), .int .i64 (dg (X k) 3), .int .i64 (dg (X k) 4), .int .i64 (dg (X k) 5), .int .i64 (dg (X k) 6), .int .i64 (dg (X k) 7), .int .i64 (dg (X k) 8), .int .i64 (dg (X k) 9), .int .i64 (dg (X k) 10), .int .i64 (dg (X k) 11)]) ∧ Ext w w')
    (TL : ∀ k, k < 32 → ∀ w, Calls Tryd.prog 45 #[(.agg #[.bool (false), .int .i64 (dg (X k) 0), .int .i64 (dg (X k) 1), .int .i64 (dg (X k) 2), .int .i64 (dg (X k) 3), .int .i64 (dg (X k) 4), .int .i64 (dg (X k) 5), .int .i64 (dg (X k) 6), .int .i64 (dg (X k) 7), .int .i64 (dg (X k) 8), .int .i64 (dg (X k) 9), .int .i64 (dg (X k) 10), .int .i64 (dg (X k) 11)])] w fun e w' => e = .returned (.tuple #[(.agg #[.int .i64 (hi (X k)), .int .u64 (lo (X k))]), .int .i64 0]) ∧ Ext w w')
    (RW : ∀ k, k < 32 → ∀ w, Calls Tryd.prog 71 #[(.agg #[.int .i64 (hi (X k)), .int .u64 (lo (X k))])] w fun e w' => e = .returned (.tuple #[.int .u64 (g (k + 1)), .int .i64 0]) ∧ Ext w w') (w : World) :
    Calls Tryd.prog 54 #[.int .i64 32] w fun e w' => (∃ v, e = .returned v ∧ w'.ownsRow w.heap.size 39 1 v 32 (rl g 32)) ∧ Ext w w' := by
  have EX := Ext.refl w
  obtain ⟨i0, hi, hz0, hz1, hz2⟩ := info_parts info_u64
  go_enter Tryd.func54, Tryd.ntmps54
  go_wp2
  go_loopg [3, 4, 5] 32 (fun gk lv tv iv wr => ∃ k : Nat, k + gk = 32 ∧ iv = .int .i64 k ∧ tv = .int .u64 (g k) ∧ wr.ownsRow w.heap.size 39 1 lv k (rl g k) ∧ Ext w wr)
  case atStart => exact ⟨0, rfl, rfl, by rw [g0], World.ownsRow_nil _ _ _ _, EX⟩
  case round =>
    obtain ⟨k, hk, rfl, rfl, hown, EX⟩ := hrel
    by_cases hlt : k < 32
    · have hki : (k : Int) < 32 := by omega
      have na := NA k hlt
      have pm := PM k hlt
      have tl := TL k hlt
      have rw' := RW k hlt
      clear NA PM TL RW
      go_wp2_with (first
        | (go_at_call 56; with_reducible refine (na _).mono ?_; rintro e v1 ⟨rfl, hb⟩; replace EX := Ext.trans EX hb; replace hown := own_later hown hb; clear hb)
        | (go_at_call 56; with_reducible refine (NS _).mono ?_; rintro e v1 ⟨rfl, hb⟩; replace EX := Ext.trans EX hb; replace hown := own_later hown hb; clear hb)
        | (go_at_call 55; with_reducible refine (pm _).mono ?_; rintro e v1 ⟨rfl, hb⟩; replace EX := Ext.trans EX hb; replace hown := own_later hown hb; clear hb)
        | (go_at_call 45; with_reducible refine (tl _).mono ?_; rintro e v1 ⟨rfl, hb⟩; replace EX := Ext.trans EX hb; replace hown := own_later hown hb; clear hb)
        | (go_at_call 71; with_reducible refine (rw' _).mono ?_; rintro e v1 ⟨rfl, hb⟩; replace hb := Ext.trans (Ext.alloc (Ext.refl _) _) hb; replace EX := Ext.trans EX hb; replace hown := own_later hown hb; clear hb)
        | (at_builtin; refine wpList_append_own _ rfl _ _ 76 rfl w.heap.size 39 i0 (.int .u64 0) 1 8 Tryd.underlying76 hi hz0 hz1 hz2 rfl (by decide) _ _ _ rfl (hown.alloc _) ⟨_, 0, none⟩ 1 1 [.int .u64 (g (k + 1))] rfl rfl ?c1 ?c2 ?c3 ?c4 ?c5 ?_))
      case c1 =>
        intro j u hj
        match j, hj with
        | 0, hj => simp at hj; subst hj; simp [Addr.add]
      case c2 => intro u hu; simp at hu; subst hu; rfl
      case c3 => unfold maxLen; omega
      case c4 => omega
      case c5 => have := EX.more; simp; omega
      · intro v' w1 hown' hgrow _
        rw [rl_succ] at hown'
        replace EX := own_ext (EX.alloc _) (hown.alloc _) hgrow
        clear hgrow hown
        go_wp2
        go_roundg (gk - 1)
        case measure => omega
        case rel => exact ⟨k + 1, by omega, by go_num, rfl, hown', EX⟩
    · have hki : ¬ ((k : Int) < 32) := by omega
      have hk32 : k = 32 := by omega
      subst hk32
      clear NA NS PM TL RW
      go_wp2
      go_ret
      exact ⟨⟨_, rfl, hown⟩, EX⟩
theorem roots4_any (w : World) : Calls Tryd.prog 54 #[.int .i64 32] w fun e w' => (∃ b c : Nat, e = .returned (.slice (some ⟨b, 0, none⟩) 32 c) ∧ b < w'.heap.size ∧ (∀ i, i < 32 → w'.cell? ⟨b, i, none⟩ = some (.int .u64 ((TT (i + 1) : Nat) : Int)))) ∧ Ext w w' := by
  have T := fun k (hk : k < 32) => TT_in k (by omega)
  have h := roots4_walk (fun i => ((TT i : Nat) : Int)) rfl (fun k => ((TT k : Nat) : Int) * 4611686018427387904) (fun k hk w => num4_any _ ⟨by omega, by have := T k hk; omega⟩ w) (fun w => num4_any _ ⟨by decide, by decide⟩ w)
    (fun k hk w => by
      have := prod_any false false ((TT k : Nat) : Int) 4611686018427387904 (by have := T k hk; unfold InD; omega) w
      rw [show (false != false) = false from rfl] at this
      exact this)
    (fun k hk w => tell_W false _ (((TT k : Nat) : Int) * 4611686018427387904) (by have := T k hk; unfold InD; omega) rfl (by have := T k hk; unfold InW; omega) w)
    (fun k hk w => by
      have := rRootWide_any (((TT k : Nat) : Int) * 4611686018427387904) (by have := T k hk; unfold InW; omega) (by omega) w
      rw [TT_rt hk] at this
      exact this) w
  refine h.mono ?_
  rintro e w' ⟨⟨v, rfl, hown⟩, EX⟩
  refine ⟨?_, EX⟩
  have hc := hown
  obtain ⟨_, hv⟩ := hown
  rcases hv with ⟨_, h0⟩ | ⟨b, c, cur, rfl, h1, h2, _⟩
  · omega
  · refine ⟨b, c, rfl, ?_, fun i hi => ?_⟩
    · exact (Array.getElem?_eq_some_iff.1 h2).1
    · have := hc.cells (g := b) rfl i (.int .u64 ((TT (i + 1) : Nat) : Int)) (by unfold rl; rw [List.getElem?_map, List.getElem?_range hi]; rfl)
      rw [Addr.add_mid, Nat.zero_add] at this
      exact this
end Go.Proofs.YtbkifcfienhkaaaDoor

namespace Go.Proofs.YtbkifcfienhkaaaDoor
open Go.RowKit Go.BigFrame
set_option linter.unusedSimpArgs false
set_option linter.unusedVariables false
/-- A list of 32 words in memory. -/
structure Lm (v : World) (b : Nat) (f : Nat → Int) : Prop where
  lt : b < v.heap.size
  dg : ∀ i, i < 32 → v.cell? ⟨b, i, none⟩ = some (.int .u64 (f i))
theorem Lm.later {v v' : World} {b : Nat} {f : Nat → Int} (e : Ext v v') (B : Lm v b f) : Lm v' b f :=
  ⟨Nat.lt_of_lt_of_le B.lt e.more, fun i hi => Ext.later e (B.dg i hi)⟩
/-- Doubled as often as it is said, if at all. -/
def Upw (X0 u c X : Int) : Prop := 0 ≤ X ∧ X < 1267650600228229401496703205376 ∧ ((c = u ∧ X = X0 ∧ u ≤ 0) ∨ (0 ≤ c ∧ c ≤ u ∧ u ≤ 20 ∧ X = X0 * ((2 ^ (u - c).toNat : Nat) : Int)))
def Dnw (Y0 u c Y : Int) : Prop := 0 < Y ∧ Y < 10141204801825835211973625643008 ∧ ((c = 0 ∧ Y = Y0 ∧ 0 ≤ u) ∨ (c ≤ 0 ∧ u ≤ c ∧ -40 ≤ u ∧ Y = Y0 * ((2 ^ (c - u).toNat : Nat) : Int)))
theorem Upw.start {X0 u : Int} (h0 : 0 ≤ X0) (h1 : X0 < 604462909807314587353088) (hu : u ≤ 20) : Upw X0 u u X0 := by
  refine ⟨h0, by omega, ?_⟩
  by_cases h : u ≤ 0
  · exact .inl ⟨rfl, rfl, h⟩
  · exact .inr ⟨by omega, by omega, hu, by rw [Int.sub_self, show (0 : Int).toNat = 0 from rfl, Nat.pow_zero]; omega⟩
theorem two_nat (j : Nat) : ((2 ^ (j + 1) : Nat) : Int) = 2 * ((2 ^ j : Nat) : Int) := by rw [Nat.pow_succ, Int.natCast_mul, Int.mul_comm]; rfl
theorem Upw.next {X0 u c X : Int} (h : Upw X0 u c X) (h1 : X0 < 604462909807314587353088) (h0 : 0 ≤ X0) (hc : 0 < c) : Upw X0 u (c - 1) (X + X) := by
  obtain ⟨x0, x1, h | ⟨c0, c1, u1, e⟩⟩ := h
  · omega
  · have e2 : X + X = X0 * ((2 ^ (u - (c - 1)).toNat : Nat) : Int) := by
      rw [show (u - (c - 1)).toNat = (u - c).toNat + 1 by omega, two_nat, e, ← Int.mul_assoc, Int.mul_comm X0 2, Int.mul_assoc]
      omega
    have hb : (2 : Nat) ^ (u - (c - 1)).toNat ≤ 2 ^ 20 := Nat.pow_le_pow_right (by decide) (by omega)
    have hb' : ((2 ^ (u - (c - 1)).toNat : Nat) : Int) ≤ 1048576 := by rw [show (2 : Nat) ^ 20 = 1048576 from rfl] at hb; omega
    refine ⟨by omega, ?_, .inr ⟨by omega, by omega, u1, e2⟩⟩
    rw [e2]
    have := Int.mul_le_mul (show X0 ≤ 604462909807314587353087 by omega) hb' (Int.natCast_nonneg _) (by decide)
    omega
theorem Upw.end {X0 u c X : Int} (h : Upw X0 u c X) (hc : ¬ 0 < c) : (u ≤ 0 ∧ c = u ∧ X = X0) ∨ (0 ≤ u ∧ c = 0 ∧ X = X0 * ((2 ^ u.toNat : Nat) : Int)) := by
  obtain ⟨x0, x1, ⟨h1, h2, h3⟩ | ⟨c0, c1, u1, e⟩⟩ := h
  · exact .inl ⟨h3, h1, h2⟩
  · have : c = 0 := by omega
    subst this
    rw [Int.sub_zero] at e
    exact .inr ⟨by omega, rfl, e⟩
theorem Dnw.start {Y0 u c : Int} (h0 : 0 < Y0) (h1 : Y0 ≤ 4611686018427387904) (hu : -40 ≤ u) (h : (u ≤ 0 ∧ c = u) ∨ (0 ≤ u ∧ c = 0)) : Dnw Y0 u c Y0 := by
  refine ⟨h0, by omega, ?_⟩
  rcases h with ⟨h, rfl⟩ | ⟨h, rfl⟩
  · exact .inr ⟨h, by omega, hu, by rw [Int.sub_self, show (0 : Int).toNat = 0 from rfl, Nat.pow_zero]; omega⟩
  · exact .inl ⟨rfl, rfl, h⟩
theorem Dnw.next {Y0 u c Y : Int} (h : Dnw Y0 u c Y) (h0 : 0 < Y0) (h1 : Y0 ≤ 4611686018427387904) (hc : c < 0) : Dnw Y0 u (c + 1) (Y + Y) := by
  obtain ⟨y0, y1, h | ⟨c0, c1, u1, e⟩⟩ := h
  · omega
  · have e2 : Y + Y = Y0 * ((2 ^ (c + 1 - u).toNat : Nat) : Int) := by
      rw [show (c + 1 - u).toNat = (c - u).toNat + 1 by omega, two_nat, e, ← Int.mul_assoc, Int.mul_comm Y0 2, Int.mul_assoc]
      omega
    have hb : (2 : Nat) ^ (c + 1 - u).toNat ≤ 2 ^ 40 := Nat.pow_le_pow_right (by decide) (by omega)
    have hb' : ((2 ^ (c + 1 - u).toNat : Nat) : Int) ≤ 1099511627776 := by rw [show (2 : Nat) ^ 40 = 1099511627776 from rfl] at hb; omega
    refine ⟨by omega, ?_, .inr ⟨by omega, by omega, u1, e2⟩⟩
    rw [e2]
    have := Int.mul_le_mul h1 hb' (Int.natCast_nonneg _) (by decide)
    omega
theorem Dnw.end {Y0 u c Y : Int} (h : Dnw Y0 u c Y) (hc : ¬ c < 0) : (0 ≤ u ∧ Y = Y0) ∨ (u ≤ 0 ∧ Y = Y0 * ((2 ^ (-u).toNat : Nat) : Int)) := by
  obtain ⟨y0, y1, ⟨h1, h2, h3⟩ | ⟨c0, c1, u1, e⟩⟩ := h
  · exact .inl ⟨h3, h2⟩
  · have : c = 0 := by omega
    subst this
    rw [Int.zero_sub] at e
    exact .inr ⟨by omega, e⟩
/-- What is told of such a number. -/
def Told (e V : Int) : Prop := 0 ≤ V ∧ V < 680564733841876926926749214863536422912 ∧ held V = held (two e) ∧ held (-V) = held (-two e)
theorem told_big {e : Int} (h : 20 < e / 4294967296) : Told e 1099511627776 := by
  have : two e = 2147483648 := by unfold two nst; rw [if_pos (by omega)]
  unfold Told
  rw [this]
  decide
theorem told_low {e : Int} (h : e / 4294967296 < -40) : Told e 0 := by
  have : two e = 0 := by unfold two nst; rw [if_neg (by omega), if_pos (by omega)]
  unfold Told
  rw [this]
  decide
theorem told_mid {e u c d X Y : Int} {q : Nat} (hu : e / 4294967296 = u) (hq : PP (e % 4294967296).toNat = q) (h1 : -40 ≤ u) (h2 : u ≤ 20) (hx : Upw ((q : Int) * 65536) u c X) (hc : ¬ 0 < c) (hy : Dnw 4611686018427387904 u d Y) (hd : ¬ d < 0) : Told e ((X + X + Y) / (Y + Y)) := by
  have q0 : 4611686018427387904 ≤ q := by rw [← hq]; exact PP_ge _
  have q1 : q < 9223372036854775808 := by rw [← hq]; exact PP_lt _
  have et : two e = nst q u := by unfold two; rw [hq, hu]
  have y0 := hy.1
  have x0 := hx.1
  have x1 := hx.2.1
  have v0 : 0 ≤ (X + X + Y) / (Y + Y) := Int.ediv_nonneg (by omega) (by omega)
  have v1 : (X + X + Y) / (Y + Y) ≤ X + X + Y := Int.ediv_le_self _ (by omega)
  have y1 := hy.2.1
  rcases hx.end hc with ⟨u0, _, ex⟩ | ⟨u0, _, ex⟩
  · have ey : Y = 4611686018427387904 * ((2 ^ (-u).toNat : Nat) : Int) := by
      rcases hy.end hd with ⟨g, ey⟩ | ⟨g, ey⟩
      · rw [ey, show (-u).toNat = 0 by omega, Nat.pow_zero]; rfl
      · exact ey
    obtain ⟨j, hj⟩ : ∃ j : Nat, (-u).toNat = j := ⟨_, rfl⟩
    rw [hj] at ey
    have eV : (X + X + Y) / (Y + Y) = (((q * 131072 + 4611686018427387904 * 2 ^ j) / (9223372036854775808 * 2 ^ j) : Nat) : Int) := by
      have n1 : ((q * 131072 + 4611686018427387904 * 2 ^ j : Nat) : Int) = X + X + Y := by
        rw [Int.natCast_add, Int.natCast_mul, Int.natCast_mul, ex, ey]
        generalize ((2 ^ j : Nat) : Int) = t
        omega
      have n2 : ((9223372036854775808 * 2 ^ j : Nat) : Int) = Y + Y := by
        rw [Int.natCast_mul, ey]
        generalize ((2 ^ j : Nat) : Int) = t
        omega
      rw [Int.natCast_ediv, n1, n2]
    have eT : two e = (X + X + Y) / (Y + Y) := by
      rw [et, eV]
      by_cases g : -17 ≤ u
      · rw [nst_mid q g (by omega)]
        have es : q * 2 ^ (u + 17).toNat * 2 ^ j = q * 131072 := by rw [Nat.mul_assoc, ← Nat.pow_add, show (u + 17).toNat + j = 17 by omega]
        rw [← es, ← Nat.add_mul, Nat.mul_div_mul_right _ _ (Nat.two_pow_pos j)]
      · unfold nst
        rw [if_neg (by omega), if_pos (by omega)]
        have hb : 2 ^ 18 ≤ 2 ^ j := Nat.pow_le_pow_right (by decide) (by omega)
        rw [show (2 : Nat) ^ 18 = 262144 from rfl] at hb
        rw [Nat.div_eq_of_lt (by omega)]
        rfl
    exact ⟨v0, by omega, by rw [eT], by rw [eT]⟩
  · have ey : Y = 4611686018427387904 := by
      rcases hy.end hd with ⟨g, ey⟩ | ⟨g, ey⟩
      · exact ey
      · rw [ey, show (-u).toNat = 0 by omega, Nat.pow_zero]; rfl
    obtain ⟨j, hj⟩ : ∃ j : Nat, u.toNat = j := ⟨_, rfl⟩
    rw [hj] at ex
    have eV : (X + X + Y) / (Y + Y) = (((q * 2 ^ (j + 17) + 4611686018427387904) / 9223372036854775808 : Nat) : Int) := by
      have e1 : ((q * 2 ^ (j + 17) : Nat) : Int) = X + X := by
        rw [ex, Nat.pow_add, Int.natCast_mul, Int.natCast_mul, show ((2 ^ 17 : Nat) : Int) = 131072 from rfl]
        generalize ((2 ^ j : Nat) : Int) = t
        rw [← Int.mul_assoc, Int.mul_right_comm (q : Int) 65536 t]
        omega
      rw [Int.natCast_ediv, Int.natCast_add, e1, ey]
      rfl
    by_cases g : u ≤ 14
    · have eT : two e = (X + X + Y) / (Y + Y) := by
        rw [et, eV, nst_mid q (by omega) g, show (u + 17).toNat = j + 17 by omega]
      exact ⟨v0, by omega, by rw [eT], by rw [eT]⟩
    · have eT : two e = 2147483648 := by rw [et]; unfold nst; rw [if_pos (by omega)]
      have hb : 2 ^ 32 ≤ 2 ^ (j + 17) := Nat.pow_le_pow_right (by decide) (by omega)
      have hm : 4611686018427387904 * 4294967296 ≤ q * 2 ^ (j + 17) := Nat.mul_le_mul q0 hb
      generalize q * 2 ^ (j + 17) = m at *
      have hv : 2147483648 ≤ (X + X + Y) / (Y + Y) := by rw [eV]; omega
      generalize (X + X + Y) / (Y + Y) = V at *
      refine ⟨v0, by omega, ?_, ?_⟩
      · rw [eT]
        unfold held
        rw [if_neg (by omega), if_pos (by omega), if_neg (by decide), if_pos (by decide)]
      · rw [eT]
        unfold held
        by_cases k : V = 2147483648
        · rw [k]
        · rw [if_pos (by omega), if_neg (by decide), if_neg (by decide)]
end Go.Proofs.YtbkifcfienhkaaaDoor
