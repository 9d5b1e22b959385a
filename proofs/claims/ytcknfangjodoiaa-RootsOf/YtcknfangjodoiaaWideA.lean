/- What the small functions of package wides do, called at any arguments: Of, Cmp, Int, below, wordsOf, wideOf, sum, difference, Add, Sub. -/
import Derived.Test.YtcknfangjodoiaaProg
import Derived.Test.YtcknfangjodoiaaExt
namespace Go.Proofs.Ytcknfangjodoiaa
open Go.RowKit Go.BigFrame
set_option linter.unusedSimpArgs false

theorem of_any (n : Int) (hn : In64 n) (w : World) : Calls Try.prog 27 #[.int .i64 n] w fun e w' => e = .returned (.agg #[.int .i64 (hi (n)), .int .u64 (lo (n))]) ∧ Ext w w' := by
  have e1 : hi n = if n < 0 then -1 else 0 := by unfold In64 at hn; unfold hi; split <;> omega
  have e2 : lo n = IntKind.u64.wrap n := by rw [u64_wrap]; rfl
  rw [e1, e2]
  clear e1 e2
  go_enter Try.func27, Try.ntmps27
  go_wp2
  all_goals
    refine bodyPost_ret (by simp only [results, Try.results27]; simp [go_sem]; try rfl) rfl ⟨by simp [*], Ext.alloc (Ext.refl _) _⟩

/-- Below, the same, or above. -/
def sgn (x y : Int) : Int := if x < y then -1 else if x = y then 0 else 1
theorem cmpi_any (x y : Int) (w : World) : Calls Try.prog 36 #[.int .i64 x, .int .i64 y] w fun e w' => e = .returned (.int .i64 (sgn x y)) ∧ w' = w := by
  unfold sgn
  rcases Int.lt_trichotomy x y with h | h | h
  · go_enter Try.func36, Try.ntmps36
    go_wp2
    go_ret
    exact ⟨by simp, rfl⟩
  · subst h
    go_enter Try.func36, Try.ntmps36
    go_wp2
    go_ret
    exact ⟨by simp, rfl⟩
  · have h1 : ¬ x < y := by omega
    have h2 : ¬ x = y := by omega
    go_enter Try.func36, Try.ntmps36
    go_wp2
    go_ret
    exact ⟨by simp [h1, h2], rfl⟩
theorem cmpu_any (x y : Int) (w : World) : Calls Try.prog 34 #[.int .u64 x, .int .u64 y] w fun e w' => e = .returned (.int .i64 (sgn x y)) ∧ w' = w := by
  unfold sgn
  rcases Int.lt_trichotomy x y with h | h | h
  · go_enter Try.func34, Try.ntmps34
    go_wp2
    go_ret
    exact ⟨by simp, rfl⟩
  · subst h
    go_enter Try.func34, Try.ntmps34
    go_wp2
    go_ret
    exact ⟨by simp, rfl⟩
  · have h1 : ¬ x < y := by omega
    have h2 : ¬ x = y := by omega
    go_enter Try.func34, Try.ntmps34
    go_wp2
    go_ret
    exact ⟨by simp [h1, h2], rfl⟩
theorem sgn_hi (x y : Int) (h : ¬ hi x = hi y) : sgn (hi x) (hi y) = sgn x y := by
  unfold sgn hi at *
  split <;> split <;> (try split) <;> (try split) <;> omega
theorem sgn_lo (x y : Int) (h : hi x = hi y) : sgn (lo x) (lo y) = sgn x y := by
  have := hilo x; have := hilo y; unfold sgn
  split <;> split <;> (try split) <;> (try split) <;> omega
theorem cmp_any (x y : Int) (w : World) : Calls Try.prog 29 #[(.agg #[.int .i64 (hi (x)), .int .u64 (lo (x))]), (.agg #[.int .i64 (hi (y)), .int .u64 (lo (y))])] w fun e w' => e = .returned (.int .i64 (sgn x y)) ∧ Ext w w' := by
  by_cases h : hi x = hi y
  · rw [← sgn_lo x y h]
    go_enter Try.func29, Try.ntmps29
    go_wp2_with (go_at_call 34; refine (cmpu_any _ _ _).mono ?_; rintro e w' ⟨rfl, rfl⟩)
    go_ret
    exact ⟨rfl, Ext.alloc (Ext.alloc (Ext.refl _) _) _⟩
  · rw [← sgn_hi x y h]
    go_enter Try.func29, Try.ntmps29
    go_wp2_with (go_at_call 36; refine (cmpi_any _ _ _).mono ?_; rintro e w' ⟨rfl, rfl⟩)
    go_ret
    exact ⟨rfl, Ext.alloc (Ext.alloc (Ext.refl _) _) _⟩
end Go.Proofs.Ytcknfangjodoiaa
