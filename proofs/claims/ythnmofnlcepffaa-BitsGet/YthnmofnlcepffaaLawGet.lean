/- The law BitsGet, walked. -/
import Derived.Test.YthnmofnlcepffaaBitH
namespace Go.Proofs.Ythnmofnlcepffaa
open Go.RowKit Go.BigFrame
set_option linter.unusedSimpArgs false
set_option linter.unusedVariables false
/-- What Get answers, whatever it is asked. -/
def gv (f : Nat → Int) (L : Nat) (p n : Int) : Int := if 0 ≤ p ∧ 0 ≤ n ∧ n ≤ 32 ∧ p + n ≤ 8 * (L : Int) then nb (bt f) p.toNat n.toNat else 0
def ge (L : Nat) (p n : Int) : Int := if p < 0 ∨ n < 0 ∨ 32 < n then 1 else if 8 * (L : Int) < p + n then 5 else 0
theorem both_any (a a' : Option Addr) (L c c' : Nat) (f g : Nat → Int) (p n : Int) (hp : In64 p) (hn : In64 n) (hfg : ∀ i, i < L → g i = f i) :
    (∀ w, Bs w a' L g → Calls Try.prog 11 #[.slice a' L c', .int .i64 p, .int .i64 n] w fun e w' => e = .returned (.tuple #[.int .u32 (gv f L p n), .int .i64 (ge L p n)]) ∧ Ext w w') ∧
    (∀ w, Bs w a L f → Calls Try.prog 12 #[.slice a L c, .int .i64 p, .int .i64 n] w fun e w' => e = .returned (.tuple #[.int .u32 (gv f L p n), .int .i64 (ge L p n)]) ∧ Ext w w') := by
  unfold gv ge
  unfold In64 at hp hn
  by_cases h1 : p < 0 ∨ n < 0 ∨ 32 < n
  · rw [if_neg (by omega), if_pos h1]
    exact ⟨fun w _ => get_arg a' L c' p n hp hn h1 w, fun w _ => rget_arg a L c p n hp hn h1 w⟩
  · rw [if_neg h1]
    by_cases h2 : 8 * (L : Int) < p + n
    · rw [if_neg (by omega), if_pos h2]
      exact ⟨fun w B => get_short a' L c' p n B.len (by omega) (by omega) (by omega) (by omega) h2 w, fun w B => rget_short a L c p n B.len (by omega) (by omega) (by omega) (by omega) h2 w⟩
    · rw [if_pos (by omega), if_neg h2]
      obtain ⟨p', rfl⟩ := Int.eq_ofNat_of_zero_le (show 0 ≤ p by omega)
      obtain ⟨n', rfl⟩ := Int.eq_ofNat_of_zero_le (show 0 ≤ n by omega)
      refine ⟨fun w B => ?_, fun w B => rget_ok a L c p' n' f w B (by omega) (by omega)⟩
      have := get_ok a' L c' p' n' g w B (by omega) (by omega)
      rw [nb_bt_congr hfg (by omega)] at this
      exact this
set_option maxRecDepth 20000 in
set_option maxHeartbeats 8000000 in
theorem get_law (a : Option Addr) (L c : Nat) (p n : Int) (f : Nat → Int) (w : World) (B : Bs w a L f) (ha : a = none → L = 0 ∧ c = 0) (hp : In64 p) (hn : In64 n) :
    Calls Try.prog 3 #[.slice a L c, .int .i64 p, .int .i64 n] w fun e w' => e = .returned (.bool true) ∧ Ext w w' := by
  have hL := lives_any
  have EX := Ext.refl w
  have hlen := B.len
  by_cases hb : 70000 < L
  · have hbi : (70000 : Int) < (L : Int) := by omega
    go_enter Try.func3, Try.ntmps3
    go_wp2_with (first | (go_at_call 9; with_reducible refine (hL _).mono ?_; rintro e w' ⟨rfl, hb⟩; replace EX := EX.trans hb))
    go_ret
    exact ⟨rfl, EX⟩
  · have hbi : ¬ (70000 : Int) < (L : Int) := by omega
    have T := twinBytes_any a L c f w B (by omega) ha
    have G := fun g => both_any a (some ⟨g, 0, none⟩) L c (L + 3) f (tw L f) p n hp hn (fun i hi => if_pos hi)
    have LB := fun (v : World) g (e : Ext w v) O => leftBytes_any a g L c f v (B.later e) (by omega) O
    have TB := fun (v : World) g (O : v.ownsRow 0 5 1 (.slice (some ⟨g, 0, none⟩) (L + 3) (L + 3)) (L + 3) (vl (L + 3) (fun i => .int .u8 (tw L f i)))) => bs_own (n := L) O (by omega) (by omega) (fun i hi => tw_in B.byte i)
    have HB : Hid (Bs w a L f) := B
    clear B
    generalize gv f L p n = y at *
    generalize ge L p n = z at *
    go_enter Try.func3, Try.ntmps3
    go_wp2_with (first
      | (go_at_call 10; with_reducible refine T.mono ?_; rintro e v1 ⟨g, rfl, hg, hb1, O1⟩)
      | (go_at_call 11; with_reducible refine ((G g).1 _ (TB _ _ O1)).mono ?_; rintro e v2 ⟨rfl, hb2⟩)
      | (go_at_call 12; with_reducible refine ((G g).2 _ (HB.out.later (hb1.trans hb2))).mono ?_; rintro e v3 ⟨rfl, hb3⟩)
      | (go_at_call 13; with_reducible refine (LB _ g ((hb1.trans hb2).trans hb3) (own_ext' O1 (hb2.trans hb3))).mono ?_; rintro e v4 ⟨rfl, hb4⟩)
      | (go_at_call 9; with_reducible refine (hL _).mono ?_; rintro e v5 ⟨rfl, hb5⟩))
    go_ret
    exact ⟨rfl, (((hb1.trans hb2).trans hb3).trans hb4).trans hb5⟩
end Go.Proofs.Ythnmofnlcepffaa
