/- What the functions piece and Get of package bits do, and Get of gouacheref06. -/
import Derived.Test.YtemcppakmcffgaaDoorProg
import Derived.Test.YtemcppakmcffgaaDoorBoxes
import Derived.Test.YtemcppakmcffgaaDoorMany3
import Derived.Test.YtemcppakmcffgaaDoorBitM
import Derived.ScopeJumps
import Derived.WalkMore
import Derived.Deep.LoopGhost
import Derived.Deep.Light
import Derived.Laws.BitsLemmas
import Derived.Laws.BitsAllLaws
namespace Go.Proofs.YtemcppakmcffgaaDoor
open Go.RowKit Go.BigFrame
set_option linter.unusedSimpArgs false
set_option linter.unusedVariables false
theorem wraps_u32 (n : Int) (h₀ : 0 ≤ n) (h₁ : n < 2 ^ 32) : IntKind.u32.wrap n = n := by simp [IntKind.wrap, IntKind.signed, IntKind.bits]; omega
theorem pow32 {k : Nat} (hk : k ≤ 32) : (2 : Int) ^ k ≤ 4294967296 := pow_le2 (n := 32) hk
theorem mask32 (y : Int) (k : Nat) (hk : k ≤ 32) (h0 : 0 ≤ y) (h1 : y < 4294967296) : bits .and .u32 y ((2 ^ k - 1) % 4294967296) = y % 2 ^ k := by
  have := pow_pos2 k
  have := pow32 hk
  rw [Int.emod_eq_of_lt (by omega) (by omega)]
  exact bits_mask .u32 32 (by decide) wraps_u32 k hk y h0 h1
theorem div_in {x : Int} (a : Nat) (h0 : 0 ≤ x) {b : Int} (h1 : x < b) : 0 ≤ x / 2 ^ a ∧ x / 2 ^ a < b := by
  have h2 := Int.ediv_nonneg h0 (Int.le_of_lt (pow_pos2 a))
  have h3 := Int.ediv_le_self (2 ^ a) h0
  omega
set_option maxHeartbeats 1600000 in
theorem piece_any (x : Int) (a k : Nat) (h0 : 0 ≤ x) (h1 : x < 4294967296) (ha : a ≤ 32) (hk : k ≤ 32) (w : World) :
    Calls Tryd.prog 92 #[.int .u32 x, .int .i64 a, .int .i64 k] w fun e w' => e = .returned (.int .u32 (x / 2 ^ a % 2 ^ k)) ∧ Ext w w' := by
  have EX := Ext.refl w
  have HM : bits .and .u32 (x / 2 ^ a) ((2 ^ k - 1) % 4294967296) = x / 2 ^ a % 2 ^ k := mask32 _ k hk (div_in a h0 h1).1 (div_in a h0 h1).2
  go_enter Tryd.func92, Tryd.ntmps92
  go_wp2_with fail
  refine wp_region_grow (by kernel_rfl) (by kernel_rfl) ?_; (repeat (first | go_big_quiet_step (fail))); refine wpQuiet_nil ?_; rintro _ ⟨xq, rfl⟩; replace EX := Ext.trans EX xq.ext; generalize xq.out = v1 at *
  go_wp2
  go_ret
  exact ⟨rfl, EX⟩

/-- A slice of bytes: what it reads as. -/
structure Bs (w : World) (a : Option Addr) (n : Nat) (f : Nat → Int) : Prop where
  len : n ≤ 140737488355328
  at_ : ∀ i, i < n → ∃ b o, a = some ⟨b, o, none⟩ ∧ w.cell? ⟨b, o + i, none⟩ = some (.int .u8 (f i))
  byte : ∀ i, i < n → 0 ≤ f i ∧ f i < 256
theorem Bs.later {w w' : World} {a : Option Addr} {n : Nat} {f : Nat → Int} (B : Bs w a n f) (e : Ext w w') : Bs w' a n f :=
  ⟨B.len, fun i hi => by obtain ⟨b, o, h1, h2⟩ := B.at_ i hi; exact ⟨b, o, h1, e.later h2⟩, B.byte⟩
theorem Bs.some {w : World} {a : Option Addr} {n : Nat} {f : Nat → Int} (B : Bs w a n f) (h : 0 < n) : ∃ b o, a = .some ⟨b, o, none⟩ ∧ ∀ i, i < n → w.cell? ⟨b, o + i, none⟩ = .some (.int .u8 (f i)) := by
  obtain ⟨b, o, h1, h2⟩ := B.at_ 0 h
  refine ⟨b, o, h1, fun i hi => ?_⟩
  obtain ⟨b', o', h3, h4⟩ := B.at_ i hi
  rw [h1] at h3
  cases h3
  exact h4
set_option maxHeartbeats 1600000 in
theorem get_arg (a : Option Addr) (L c : Nat) (p n : Int) (hp : In64 p) (hn : In64 n) (h : p < 0 ∨ n < 0 ∨ 32 < n) (w : World) :
    Calls Tryd.prog 103 #[.slice a L c, .int .i64 p, .int .i64 n] w fun e w' => e = .returned (.tuple #[.int .u32 0, .int .i64 1]) ∧ Ext w w' := by
  have EX := Ext.refl w
  rcases (show p < 0 ∨ (¬ p < 0 ∧ n < 0) ∨ (¬ p < 0 ∧ ¬ n < 0 ∧ 32 < n) by omega) with h | ⟨h, k⟩ | ⟨h, k, l⟩
  all_goals
    go_enter Tryd.func103, Tryd.ntmps103
    go_wp2
    go_step3
    go_wp2
    rw [Exit.noGoto_ret]; go_ret2
    exact ⟨rfl, EX⟩
theorem get_short (a : Option Addr) (L c : Nat) (p n : Int) (hL : L ≤ 140737488355328) (hp : 0 ≤ p) (hp' : p < 9223372036854775808) (hn : 0 ≤ n) (hn' : n ≤ 32) (h : 8 * (L : Int) < p + n) (w : World) :
    Calls Tryd.prog 103 #[.slice a L c, .int .i64 p, .int .i64 n] w fun e w' => e = .returned (.tuple #[.int .u32 0, .int .i64 5]) ∧ Ext w w' := by
  have EX := Ext.refl w
  go_enter Tryd.func103, Tryd.ntmps103
  go_wp2
  go_step3
  go_wp2
  rw [Exit.noGoto_ret]; go_ret2
  exact ⟨rfl, EX⟩
/-- A label that the run jumps back to: what holds at it each time, and a measure that each pass lowers. -/
theorem wp_back {P : Program} {Q : Exit → Act → World → Prop} {a : Act} {w : World} {c X : Code} (l : Nat) (J : Act → World → Prop) (μ : Act → World → Nat) (hf : findLabel c l = some (Code.skip.seq X))
    (first : (∀ a w, J a w → X.wp P (Exit.jump l J Q) a w) → c.wp P (Exit.jump l J Q) a w)
    (pass : ∀ a w, J a w → X.wp P (Exit.jump l (fun a' w' => J a' w' ∧ μ a' w' < μ a w) Q) a w) : (Code.scope c).wp P Q a w :=
  wp_scope_jumps l J μ hf (first fun a w hJ => Code.wp_mono (fun e a w q => by cases e <;> first | exact q | exact ⟨q.1, q.2.1⟩) (pass a w hJ)) (fun a w hJ => wp_seq (wp_skip (pass a w hJ)))

set_option maxRecDepth 20000 in
set_option maxHeartbeats 4000000 in
theorem get_some (b o L c p n : Nat) (f : Nat → Int) (w : World) (hL : L ≤ 140737488355328) (hc : ∀ i, i < L → w.cell? ⟨b, o + i, none⟩ = some (.int .u8 (f i))) (hf : ∀ i, i < L → 0 ≤ f i ∧ f i < 256) (hn : n ≤ 32) (h : p + n ≤ 8 * L) :
    Calls Tryd.prog 103 #[.slice (some ⟨b, o, none⟩) L c, .int .i64 p, .int .i64 n] w fun e w' => e = .returned (.tuple #[.int .u32 (nb (bt f) p n), .int .i64 0]) ∧ Ext w w' := by
  have EX := Ext.refl w
  have HC : Hid (∀ i, i < L → w.cell? ⟨b, o + i, none⟩ = some (.int .u8 (f i))) := hc
  have HF : Hid (∀ i, i < L → 0 ≤ f i ∧ f i < 256) := hf
  clear hc hf
  go_enter Tryd.func103, Tryd.ntmps103
  go_wp2
  refine wp_back 0 (fun a' w' => Ext w w' ∧ ∃ (q r : Nat) (z : Int) (u3 u4 u5 u9 u10 u11 u12 u13 u14 u15 u16 u17 u18 u19 u20 u21 u22 u23 u24 u25 u26 u27 u28 u29 u30 u31 u32 u33 u34 u35 u36 u37 u38 u39 u40 u41 u42 u43 u44 u45 u46 u47 u48 u49 u50 u51 u52 u53 u54 u55 u56 u57 u58 u59 u60 : Value), p ≤ q ∧ q + r = p + n ∧ z = nb (bt f) p (q - p) ∧ a' = { tmps := #[.slice (some ⟨b, o, none⟩) L c, .int .i64 q, .int .i64 r, u3, u4, u5, .int .u32 0, .int .i64 0, .int .u32 z, u9, u10, u11, u12, u13, u14, u15, u16, u17, u18, u19, u20, u21, u22, u23, u24, u25, u26, u27, u28, u29, u30, u31, u32, u33, u34, u35, u36, u37, u38, u39, u40, u41, u42, u43, u44, u45, u46, u47, u48, u49, u50, u51, u52, u53, u54, u55, u56, u57, u58, u59, u60], defers := [] }) (fun a' _ => (match a'.tmps.getD 2 undef with | .int _ z => z.toNat | _ => 0)) rfl ?_ ?_
  · intro core
    go_wp2
    go_step3
    rename_i hK
    refine hK _ _ (core _ _ ⟨EX, p, n, 0, _, _, _, _, _, _, _, _, _, _, _, _, _, _, _, _, _, _, _, _, _, _, _, _, _, _, _, _, _, _, _, _, _, _, _, _, _, _, _, _, _, _, _, _, _, _, _, _, _, _, _, _, _, _, _, Nat.le_refl _, rfl, by rw [Nat.sub_self]; rfl, rfl⟩)
  · rintro a' w' ⟨EX, q, r, z, u3, u4, u5, u9, u10, u11, u12, u13, u14, u15, u16, u17, u18, u19, u20, u21, u22, u23, u24, u25, u26, u27, u28, u29, u30, u31, u32, u33, u34, u35, u36, u37, u38, u39, u40, u41, u42, u43, u44, u45, u46, u47, u48, u49, u50, u51, u52, u53, u54, u55, u56, u57, u58, u59, u60, hpq, hqr, hz, rfl⟩
    obtain ⟨v, hv⟩ : ∃ v, v = w' := ⟨_, rfl⟩
    subst hv
    by_cases hr : r = 0
    · subst hr
      have e : q - p = n := by omega
      rw [e] at hz
      have HZ : Hid (z = nb (bt f) p n) := hz
      clear hz e HC HF
      go_wp2
      rw [HZ.out]
      simp only [Exit.jump]
      go_ret2
      exact ⟨rfl, EX⟩
    · have hr0 : ((r : Int) == 0) = false := by simp; omega
      obtain ⟨l, hl⟩ : ∃ l : Nat, 8 - (q : Int) % 8 = (l : Int) := ⟨8 - q % 8, by omega⟩
      obtain ⟨k, hk⟩ : ∃ k : Nat, (if l < r then (l : Int) else (r : Int)) = (k : Int) := ⟨if l < r then l else r, by split <;> rfl⟩
      have hk' : k ≤ r ∧ k ≤ l ∧ (0 < l → 0 < k) := by split at hk <;> omega
      obtain ⟨i, hi⟩ : ∃ i : Nat, (q : Int) / 8 = (i : Int) := ⟨q / 8, by omega⟩
      obtain ⟨d, hd⟩ : ∃ d : Nat, (l : Int) - (k : Int) = (d : Int) := ⟨l - k, by omega⟩
      obtain ⟨q', hq'⟩ : ∃ q' : Nat, (q : Int) + (k : Int) = (q' : Int) := ⟨q + k, by omega⟩
      obtain ⟨r', hr'⟩ : ∃ r' : Nat, (r : Int) - (k : Int) = (r' : Int) := ⟨r - k, by omega⟩
      have hiL : i < L := by omega
      have hi0 : (i : Int) < (L : Int) := by omega
      have cell := EX.later (HC.out i hiL)
      obtain ⟨xb0, xb1⟩ := HF.out i hiL
      generalize hx : f i = x at cell xb0 xb1
      have P1 := fun w => piece_any x d k (by omega) (by omega) (by omega) (by omega) w
      have hzb := nb_in (bt_bits f) p (q - p)
      have hpk : nb (bt f) q k = x / 2 ^ d % 2 ^ k := by
        rw [nb_bt f q k (by omega), show q / 8 = i by omega, hx, show 8 - q % 8 - k = d by omega]
      have hkb := nb_in (bt_bits f) q k
      have hzs : nb (bt f) p (q' - p) = z * 2 ^ k + x / 2 ^ d % 2 ^ k := by
        rw [show q' - p = q - p + k by omega, nb_add, show p + (q - p) = q by omega, hpk, hz]
      have hlt := (nb_in (bt_bits f) p (q' - p)).2
      have hp32 := pow32 (k := q' - p) (by omega)
      rw [← hz] at hzb
      rw [hpk] at hkb
      have hz0 : 0 ≤ z * 2 ^ k := Int.mul_nonneg hzb.1 (Int.le_of_lt (pow_pos2 k))
      have HV : bits .or .u32 (z * 2 ^ k % 4294967296) (x / 2 ^ d % 2 ^ k) = nb (bt f) p (q' - p) := by
        rw [hzs, Int.emod_eq_of_lt hz0 (by omega)]
        exact bits_join .u32 32 (by decide) wraps_u32 k _ _ hz0 (Int.mul_emod_left _ _) (by omega) hkb.1 hkb.2 (by omega)
      generalize hz' : nb (bt f) p (q' - p) = z' at *
      have HZ : Hid (z' = nb (bt f) p (q' - p)) := hz'.symm
      have HN : Hid (p ≤ q' ∧ q' + r' = p + n ∧ r' < r) := ⟨by omega, by omega, by omega⟩
      have rp : 0 < r := by omega
      clear hk' hz' hlt hp32 hz0 hzs hpk hkb hz hx HC HF hr
      go_upto_region 10 with fail
      have gc := fun x' : Grow v => x'.ext.later cell
      refine wp_region_grow (by kernel_rfl) (by kernel_rfl) ?_; (repeat (first | go_big_quiet_step ((go_at_call 92; with_reducible exact calls_grow (P1 _))) | go_big_quiet_step (fail))); refine wpQuiet_nil ?_; clear gc; rintro _ ⟨xq, rfl⟩; replace EX := Ext.trans EX xq.ext; generalize xq.out = v1 at *; clear xq cell v
      go_wp2
      go_step3
      refine ⟨rfl, ⟨EX, q', r', z', _, _, _, _, _, _, _, _, _, _, _, _, _, _, _, _, _, _, _, _, _, _, _, _, _, _, _, _, _, _, _, _, _, _, _, _, _, _, _, _, _, _, _, _, _, _, _, _, _, _, _, _, _, _, _, HN.out.1, HN.out.2.1, HZ.out, rfl⟩, ?hmes⟩
      case hmes => simp; have := HN.out.2.2; omega
end Go.Proofs.YtemcppakmcffgaaDoor
