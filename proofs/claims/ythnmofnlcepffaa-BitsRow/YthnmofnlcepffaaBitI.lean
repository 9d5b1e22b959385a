/- Two rows of bits beside each other; bits moved on. -/
import Derived.Test.YthnmofnlcepffaaBitG
namespace Go.Proofs.Ythnmofnlcepffaa
open Go.RowKit Go.BigFrame
set_option linter.unusedSimpArgs false
set_option linter.unusedVariables false
/-- Bits, so many noughts ahead of them. -/
def mv (k : Nat) (β : Nat → Int) (i : Nat) : Int := if i < k then 0 else β (i - k)
theorem mv_bits {β : Nat → Int} (h : Bits β) (k : Nat) : Bits (mv k β) := fun i => by unfold mv; split; exact .inl rfl; exact h _
theorem nb_mv (β : Nat → Int) (k p : Nat) : ∀ n, nb (mv k β) (k + p) n = nb β p n
  | 0 => rfl
  | n + 1 => by rw [nb_succ, nb_succ, nb_mv β k p n]; unfold mv; rw [if_neg (by omega), show k + p + n - k = p + n by omega]
theorem nb_mv0 (β : Nat → Int) (k : Nat) : nb (mv k β) 0 k = 0 := nb_noughts _ _ fun i _ h => if_pos (by omega)
/-- Two rows, above a base, that share no block. -/
structure Two (w v : World) (r sr : Nat) (ur : Value) (β : Nat → Int) (n : Nat) (o so : Nat) (uo : Value) (γ : Nat → Int) (m : Nat) : Prop where
  one : Row v r sr ur β n
  two : Row v o so uo γ m
  ext : Ext w v
  in1 : ∀ k, In r sr ur k → w.heap.size ≤ k
  in2 : ∀ k, In o so uo k → w.heap.size ≤ k
  ap : ∀ k, In r sr ur k → ¬ In o so uo k
theorem Stp.apart {w w' : World} {r sh : Nat} {u u' : Value} {o so : Nat} {uo : Value} (h : Stp w w' r sh u u') (A : ∀ k, In r sh u k → ¬ In o so uo k) (lt : ∀ k, In o so uo k → k < w.heap.size) : ∀ k, In r sh u' k → ¬ In o so uo k := by
  rintro k (rfl | rfl | hk)
  · exact A _ (.inl rfl)
  · exact A _ (.inr (.inl rfl))
  · rcases h.2 k hk with h1 | h1
    · exact A _ (.inr (.inr h1))
    · intro h2
      have := lt k h2
      omega
theorem Two.later {w v v' : World} {r sr o so : Nat} {ur uo : Value} {β γ : Nat → Int} {n m : Nat} (T : Two w v r sr ur β n o so uo γ m) (h : Ext v v') : Two w v' r sr ur β n o so uo γ m :=
  ⟨T.one.later h, T.two.later h, T.ext.trans h, T.in1, T.in2, T.ap⟩
theorem Two.step1 {w v v' : World} {r sr o so : Nat} {ur ur' uo : Value} {β γ : Nat → Int} {n n' m : Nat} (T : Two w v r sr ur β n o so uo γ m) (h : Stp v v' r sr ur ur') (R : Row v' r sr ur' β n') : Two w v' r sr ur' β n' o so uo γ m := by
  obtain ⟨E, i⟩ := h.over T.ext T.in1
  exact ⟨R, T.two.chg h.1 (fun k hk h2 => T.ap k h2 hk), E, i, T.in2, h.apart T.ap T.two.lt⟩
theorem Two.step2 {w v v' : World} {r sr o so : Nat} {ur uo uo' : Value} {β γ : Nat → Int} {n m m' : Nat} (T : Two w v r sr ur β n o so uo γ m) (h : Stp v v' o so uo uo') (R : Row v' o so uo' γ m') : Two w v' r sr ur β n o so uo' γ m' := by
  obtain ⟨E, i⟩ := h.over T.ext T.in2
  exact ⟨T.one.chg h.1 (fun k hk h2 => T.ap k hk h2), R, E, T.in1, i, fun k h1 h2 => h.apart (fun k h1 h2 => T.ap k h2 h1) T.one.lt k h2 h1⟩
theorem two_put1 {w v : World} {r sr o so : Nat} {ur uo : Value} {β γ : Nat → Int} {n m : Nat} (T : Two w v r sr ur β n o so uo γ m) (k : Nat) (K x : Int) (hK : K = k) (hk : k ≤ 32) (hv : nb β n k = x) (h : n + k ≤ 524288) :
    Calls Try.prog 18 #[.pointer (some ⟨r, 0, none⟩), .int .u32 x, .int .i64 K] v fun e v' => e = .returned (.int .i64 0) ∧ ∃ u', Two w v' r sr u' β (n + k) o so uo γ m := by
  refine (put_int r sr n k K ur β x v T.one hK hk hv h).mono ?_
  rintro e v' ⟨rfl, u', R, ST⟩
  exact ⟨rfl, u', T.step1 ST R⟩
theorem two_put2 {w v : World} {r sr o so : Nat} {ur uo : Value} {β γ : Nat → Int} {n m : Nat} (T : Two w v r sr ur β n o so uo γ m) (k : Nat) (K x : Int) (hK : K = k) (hk : k ≤ 32) (hv : nb γ m k = x) (h : m + k ≤ 524288) :
    Calls Try.prog 18 #[.pointer (some ⟨o, 0, none⟩), .int .u32 x, .int .i64 K] v fun e v' => e = .returned (.int .i64 0) ∧ ∃ u', Two w v' r sr ur β n o so u' γ (m + k) := by
  refine (put_int o so m k K uo γ x v T.two hK hk hv h).mono ?_
  rintro e v' ⟨rfl, u', R, ST⟩
  exact ⟨rfl, u', T.step2 ST R⟩
theorem new_in (w : World) : ∀ k, In (w.heap.size + 1) w.heap.size (.slice none 0 0) k → w.heap.size ≤ k := by rintro k (rfl | rfl | h); omega; omega; cases h
theorem two_new {w v v' : World} (e : Ext w v) (R : ∀ β, Bits β → Row v (w.heap.size + 1) w.heap.size (.slice none 0 0) β 0) (e' : Ext v v') (R' : ∀ β, Bits β → Row v' (v.heap.size + 1) v.heap.size (.slice none 0 0) β 0) {β γ : Nat → Int} (hβ : Bits β) (hγ : Bits γ) :
    ∃ r sr o so u, r = w.heap.size + 1 ∧ o = v.heap.size + 1 ∧ Two w v' r sr u β 0 o so u γ 0 := by
  refine ⟨_, _, _, _, _, rfl, rfl, (R β hβ).later e', R' γ hγ, e.trans e', new_in w, fun k hk => Nat.le_trans e.size (new_in v k hk), fun k h1 h2 => ?_⟩
  have := (R β hβ).lt k h1
  have := new_in v k h2
  omega
/-- The bytes of an answer. -/
theorem bs_ans {w w' : World} {g N n : Nat} {β : Nat → Int} (hb : Bits β) (A : Ans w w' g N (fun i => nb (zb β n) (8 * i) 8)) (hN : N ≤ 65536) : Bs w' (some ⟨g, 0, none⟩) N (fun i => nb (zb β n) (8 * i) 8) :=
  bs_own (own_rowIs A.row (by unfold maxLen; omega)) (by omega) (by omega) (fun i _ => nb_in (zb_bits hb n) (8 * i) 8)
theorem nb_ans {β : Nat → Int} (hb : Bits β) {n p k : Nat} (h : p + k ≤ n) : nb (bt (fun i => nb (zb β n) (8 * i) 8)) p k = nb β p k := (nb_bt_nb (zb_bits hb n) p k).trans (nb_zb n p k h)
end Go.Proofs.Ythnmofnlcepffaa
