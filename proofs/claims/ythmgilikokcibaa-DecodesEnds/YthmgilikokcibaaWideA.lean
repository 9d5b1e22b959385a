/- What the small functions of package wides do, called at any arguments: Of, Cmp, Int, below, wordsOf, wideOf, sum, difference, Add, Sub. -/
import Derived.Test.YthmgilikokcibaaProg
import Derived.Test.YthmgilikokcibaaExt
namespace Go.Proofs.Ythmgilikokcibaa
open Go.RowKit Go.BigFrame
set_option linter.unusedSimpArgs false

theorem of_any (n : Int) (hn : In64 n) (w : World) : Calls Try.prog 36 #[.int .i64 n] w fun e w' => e = .returned (.agg #[.int .i64 (hi (n)), .int .u64 (lo (n))]) ∧ Ext w w' := by
  have e1 : hi n = if n < 0 then -1 else 0 := by unfold In64 at hn; unfold hi; split <;> omega
  have e2 : lo n = IntKind.u64.wrap n := by rw [u64_wrap]; rfl
  rw [e1, e2]
  clear e1 e2
  go_enter Try.func36, Try.ntmps36
  go_wp2
  all_goals
    refine bodyPost_ret (by simp only [results, Try.results36]; simp [go_sem]; try rfl) rfl ⟨by simp [*], Ext.alloc (Ext.refl _) _⟩

theorem below_any (x : Int) (w : World) : Calls Try.prog 40 #[(.agg #[.int .i64 (hi (x)), .int .u64 (lo (x))])] w fun e w' => e = .returned (.bool (decide (x < 0))) ∧ Ext w w' := by
  go_enter Try.func40, Try.ntmps40
  go_wp2
  go_ret
  exact ⟨by simp [hi_neg], Ext.alloc (Ext.refl _) _⟩

theorem wordsOf_any (x : Int) (w : World) : Calls Try.prog 39 #[(.agg #[.int .i64 (hi (x)), .int .u64 (lo (x))])] w fun e w' => e = .returned (.agg #[.int .u64 (lo (um x)), .int .u64 (hi (um x))]) ∧ Ext w w' := by
  have e1 : lo (um x) = lo x := by unfold lo um; omega
  have e2 : hi (um x) = IntKind.u64.wrap (hi x) := by rw [u64_wrap]; unfold hi um; omega
  rw [e1, e2]
  clear e1 e2
  go_enter Try.func39, Try.ntmps39
  go_wp2
  refine bodyPost_ret (by simp only [results, Try.results39]; simp [go_sem]; try rfl) rfl ⟨rfl, Ext.alloc (Ext.alloc (Ext.refl _) _) _⟩

theorem wideOf_any (m : Int) (w : World) : Calls Try.prog 37 #[(.agg #[.int .u64 (lo (m)), .int .u64 (hi (m))])] w fun e w' => e = .returned (.agg #[.int .i64 (hi (sm m)), .int .u64 (lo (sm m))]) ∧ Ext w w' := by
  have e1 : lo (sm m) = lo m := by unfold lo sm; omega
  have e2 : hi (sm m) = wrap64 (hi m) := by simp [wrap64]; unfold hi sm; omega
  rw [e1, e2]
  clear e1 e2
  go_enter Try.func37, Try.ntmps37
  go_wp2
  refine bodyPost_ret (by simp only [results, Try.results37]; simp [go_sem]; try rfl) rfl ⟨rfl, Ext.alloc (Ext.alloc (Ext.refl _) _) _⟩


theorem int_any (x : Int) (w : World) : Calls Try.prog 18 #[(.agg #[.int .i64 (hi (x)), .int .u64 (lo (x))])] w fun e w' => e = .returned (.tuple #[.int .i64 (if wrap64 x = x then x else 0), .bool (decide (wrap64 x = x))]) ∧ Ext w w' := by
  have e1 : wrap64 (lo x) = wrap64 x := by simp [wrap64]; unfold lo; omega
  have hn : In64 (wrap64 x) := by simp [wrap64]; unfold In64; omega
  by_cases hc : wrap64 x = x
  all_goals
    go_enter Try.func18, Try.ntmps18
    go_upto_region 2 with fail
    have c0 := fun x' : Grow (w.alloc (Obj.cells #[Value.int IntKind.i64 (hi x), Value.int IntKind.u64 (lo x)] 30)) => x'.cell (p := ⟨w.heap.size, 0, none⟩) (v := .int .i64 (hi x)) (by go_simp)
    have c1 := fun x' : Grow (w.alloc (Obj.cells #[Value.int IntKind.i64 (hi x), Value.int IntKind.u64 (lo x)] 30)) => x'.cell (p := ⟨w.heap.size, 1, none⟩) (v := .int .u64 (lo x)) (by go_simp)
    refine wp_region_grow (by kernel_rfl) (by kernel_rfl) ?_
    repeat (go_big_quiet_step ((go_at_call 36; exact calls_grow (of_any _ (by first | exact hn | (rw [hc] at hn; exact hn)) _))))
    refine wpQuiet_nil ?_
    rintro _ ⟨xq, rfl⟩
    have hq := xq.ext
    go_wp2
    go_ret2
    exact ⟨by simp [hc], Ext.trans (Ext.alloc (Ext.refl _) _) hq⟩
/-- Below, the same, or above. -/
def sgn (x y : Int) : Int := if x < y then -1 else if x = y then 0 else 1
theorem cmpi_any (x y : Int) (w : World) : Calls Try.prog 43 #[.int .i64 x, .int .i64 y] w fun e w' => e = .returned (.int .i64 (sgn x y)) ∧ w' = w := by
  unfold sgn
  rcases Int.lt_trichotomy x y with h | h | h
  · go_enter Try.func43, Try.ntmps43
    go_wp2
    go_ret
    exact ⟨by simp, rfl⟩
  · subst h
    go_enter Try.func43, Try.ntmps43
    go_wp2
    go_ret
    exact ⟨by simp, rfl⟩
  · have h1 : ¬ x < y := by omega
    have h2 : ¬ x = y := by omega
    go_enter Try.func43, Try.ntmps43
    go_wp2
    go_ret
    exact ⟨by simp [h1, h2], rfl⟩
theorem cmpu_any (x y : Int) (w : World) : Calls Try.prog 44 #[.int .u64 x, .int .u64 y] w fun e w' => e = .returned (.int .i64 (sgn x y)) ∧ w' = w := by
  unfold sgn
  rcases Int.lt_trichotomy x y with h | h | h
  · go_enter Try.func44, Try.ntmps44
    go_wp2
    go_ret
    exact ⟨by simp, rfl⟩
  · subst h
    go_enter Try.func44, Try.ntmps44
    go_wp2
    go_ret
    exact ⟨by simp, rfl⟩
  · have h1 : ¬ x < y := by omega
    have h2 : ¬ x = y := by omega
    go_enter Try.func44, Try.ntmps44
    go_wp2
    go_ret
    exact ⟨by simp [h1, h2], rfl⟩
theorem sgn_hi (x y : Int) (h : ¬ hi x = hi y) : sgn (hi x) (hi y) = sgn x y := by
  unfold sgn hi at *
  split <;> split <;> (try split) <;> (try split) <;> omega
theorem sgn_lo (x y : Int) (h : hi x = hi y) : sgn (lo x) (lo y) = sgn x y := by
  have := hilo x; have := hilo y; unfold sgn
  split <;> split <;> (try split) <;> (try split) <;> omega
theorem cmp_any (x y : Int) (w : World) : Calls Try.prog 20 #[(.agg #[.int .i64 (hi (x)), .int .u64 (lo (x))]), (.agg #[.int .i64 (hi (y)), .int .u64 (lo (y))])] w fun e w' => e = .returned (.int .i64 (sgn x y)) ∧ Ext w w' := by
  by_cases h : hi x = hi y
  · rw [← sgn_lo x y h]
    go_enter Try.func20, Try.ntmps20
    go_wp2_with (go_at_call 44; refine (cmpu_any _ _ _).mono ?_; rintro e w' ⟨rfl, rfl⟩)
    go_ret
    exact ⟨rfl, Ext.alloc (Ext.alloc (Ext.refl _) _) _⟩
  · rw [← sgn_hi x y h]
    go_enter Try.func20, Try.ntmps20
    go_wp2_with (go_at_call 43; refine (cmpi_any _ _ _).mono ?_; rintro e w' ⟨rfl, rfl⟩)
    go_ret
    exact ⟨rfl, Ext.alloc (Ext.alloc (Ext.refl _) _) _⟩
end Go.Proofs.Ythmgilikokcibaa
