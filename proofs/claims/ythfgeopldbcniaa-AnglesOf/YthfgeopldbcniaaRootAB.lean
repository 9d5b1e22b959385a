/- What the functions of package roots do, called at any whole numbers: plain, squarePlain, sought at whole numbers, Root. What the functions of package roots do, called at any wide that is not below 0: wide, squareWide, sought at wides, RootWide; and Sqrt at any fix. -/
import Derived.Test.YthfgeopldbcniaaRootM
import Derived.Test.YthfgeopldbcniaaWideAM
import Derived.Test.YthfgeopldbcniaaBoxes
import Derived.Deep.LoopGhost
import Derived.Deep.Light
import Derived.Laws.BitsAllLaws
namespace Go.Proofs.Ythfgeopldbcniaa
open Go.RowKit Go.BigFrame
set_option linter.unusedSimpArgs false
set_option linter.unusedVariables false
@[go_sem] theorem store_fn {P : Program} (w : World) (a : Addr) (m : Mode) (fn : Fn) (x y : Array Value) : (store a (.func fn x y) m).run P w = stored P w a (.func fn x y) m := run_store P w a _ m rfl
end Go.Proofs.Ythfgeopldbcniaa

namespace Go.Proofs.Ythfgeopldbcniaa
open Go.RowKit Go.BigFrame
set_option linter.unusedSimpArgs false
set_option linter.unusedVariables false
theorem wide_any (w : World) : Calls Try.prog 86 #[] w fun e w' => e = .returned (.agg #[.int .i64 64, .func (.func 88) #[] #[], .func (.func 89) #[] #[]]) ∧ Ext w w' := by
  have EX := Ext.refl w
  go_enter Try.func86, Try.ntmps86
  go_wp2
  refine bodyPost_ret (by simp only [results, Try.results86]; simp [go_sem]; try rfl) rfl ⟨rfl, ?_⟩
  repeat (first | with_reducible exact EX | with_reducible refine Ext.alloc ?_ _ | with_reducible refine Ext.drew ?_ | with_reducible refine Ext.drewN ?_ _ | with_reducible refine Ext.setCell ?_ (by first | (simp; done) | omega | (dsimp only; omega)) _)
theorem hi_u {m : Int} (h : InU64 m) : hi m = 0 ∧ lo m = m := by unfold hi lo InU64 at *; omega
theorem square_in {m : Int} (hm : InU64 m) : 0 ≤ m * m ∧ m * m ≤ 18446744073709551615 * 18446744073709551615 := by
  have h := sq_le hm.1 (show m ≤ 18446744073709551615 by have := hm.2; omega)
  exact ⟨Int.mul_nonneg hm.1 hm.1, h⟩
theorem squareWide_any (m : Int) (hm : InU64 m) (w : World) : Calls Try.prog 88 #[.int .u64 m] w fun e w' => e = .returned (.tuple #[(.agg #[.int .i64 (hi (fit (m * m))), .int .u64 (lo (fit (m * m)))]), .int .i64 (err (m * m))]) ∧ Ext w w' := by
  have M := fun w => mul64_any m m hm hm w
  obtain ⟨p0, p1⟩ := square_in hm
  by_cases h : InW (m * m)
  · rw [(fit_of h).1, (fit_of h).2]
    generalize m * m = s at *
    have h0 : 0 ≤ hi s := by unfold hi; omega
    have h1 : hi s < 9223372036854775808 := by unfold hi InW at *; omega
    have h2 : hi s / 9223372036854775808 = 0 := by omega
    clear h p0 p1 hm
    generalize hi s = x at *
    generalize lo s = y at *
    go_enter Try.func88, Try.ntmps88
    go_wp2_with (first | (go_at_call 87; with_reducible refine (M _).mono ?_; rintro e v1 ⟨rfl, rfl⟩))
    refine bodyPost_ret (by simp only [results, Try.results88]; simp [go_sem, *]; try rfl) rfl ⟨rfl, ?_⟩
    have EX := Ext.refl w
    repeat (first | with_reducible exact EX | with_reducible refine Ext.alloc ?_ _ | with_reducible refine Ext.drew ?_ | with_reducible refine Ext.drewN ?_ _ | with_reducible refine Ext.setCell ?_ (by first | (simp; done) | omega | (dsimp only; omega)) _)
  · rw [(fit_no h).1, (fit_no h).2, show hi 0 = 0 from rfl, show lo 0 = 0 from rfl]
    generalize m * m = s at *
    have h0 : 9223372036854775808 ≤ hi s := by unfold hi InW at *; omega
    have h1 : hi s < 18446744073709551616 := by unfold hi; omega
    have h2 : hi s / 9223372036854775808 = 1 := by omega
    clear h p0 p1 hm
    generalize hi s = x at *
    generalize lo s = y at *
    go_enter Try.func88, Try.ntmps88
    go_wp2_with (first | (go_at_call 87; with_reducible refine (M _).mono ?_; rintro e v1 ⟨rfl, rfl⟩))
    refine bodyPost_ret (by simp only [results, Try.results88]; simp [go_sem, *]; try rfl) rfl ⟨rfl, ?_⟩
    have EX := Ext.refl w
    repeat (first | with_reducible exact EX | with_reducible refine Ext.alloc ?_ _ | with_reducible refine Ext.drew ?_ | with_reducible refine Ext.drewN ?_ _ | with_reducible refine Ext.setCell ?_ (by first | (simp; done) | omega | (dsimp only; omega)) _)

set_option maxHeartbeats 4000000 in
theorem soughtWide_any (n : Nat) (hn : n < 170141183460469231731687303715884105728) (w : World) : Calls Try.prog 85 #[(.agg #[.int .i64 (hi ((n : Int))), .int .u64 (lo ((n : Int)))]), .agg #[.int .i64 64, .func (.func 88) #[] #[], .func (.func 89) #[] #[]]] w fun e w' => e = .returned (.int .u64 (rt (n : Int))) ∧ Ext w w' := by
  have EX := Ext.refl w
  go_enter Try.func85, Try.ntmps85
  go_wp2
  go_loopg [5, 12] 64 (fun gk root i wr => ∃ k r : Nat, k + gk = 64 ∧ i = .int .i64 k ∧ root = .int .u64 r ∧ Sought 64 k n r ∧ Ext w wr ∧ Wm wr (w.heap.size) (hi (n : Int)) (lo (n : Int)) ∧ S3m wr (w.heap.size + 1) (.int .i64 64) (.func (.func 88) #[] #[]) (.func (.func 89) #[] #[]))
  case atStart =>
    refine ⟨0, 0, rfl, rfl, rfl, Sought.start (by omega), by repeat (first | with_reducible exact EX | with_reducible refine Ext.alloc ?_ _ | with_reducible refine Ext.drew ?_ | with_reducible refine Ext.drewN ?_ _ | with_reducible refine Ext.setCell ?_ (by first | (simp; done) | omega | (dsimp only; omega)) _), ?_, ?_⟩
    · repeat (first | with_reducible assumption | with_reducible refine Wm.drew ?_ | with_reducible refine Wm.drewN ?_ _ | (with_reducible refine Wm.skip ?_ ?_; focus (first | omega | (simp; done))) | with_reducible refine Wm.store ?_ _ _ | with_reducible refine Wm.new (by first | rfl | (simp; done) | with_unfolding_all rfl) (by with_unfolding_all rfl) (by with_unfolding_all rfl) | with_reducible refine Wm.alloc ?_ _ | exact Wm.any (by with_reducible assumption) | with_reducible refine WmAny.drew ?_ | with_reducible refine WmAny.drewN ?_ _ | (with_reducible refine WmAny.skip ?_ ?_; focus (first | omega | (simp; done))) | with_reducible refine WmAny.alloc ?_ _)
    · repeat (first | with_reducible assumption | with_reducible refine S3m.drew ?_ | with_reducible refine S3m.drewN ?_ _ | (with_reducible refine S3m.skip ?_ ?_; focus (first | omega | (simp; done))) | with_reducible refine S3m.store ?_ | with_reducible refine S3m.set0 ?_ _ | with_reducible refine S3m.set1 ?_ _ | with_reducible refine S3m.set2 ?_ _ | with_reducible refine S3m.new (by first | rfl | (simp; done) | with_unfolding_all rfl) (by with_unfolding_all rfl) (by with_unfolding_all rfl) (by with_unfolding_all rfl) | with_reducible refine S3m.alloc ?_ _ | exact S3m.any (by with_reducible assumption) | with_reducible refine S3mAny.drew ?_ | with_reducible refine S3mAny.drewN ?_ _ | (with_reducible refine S3mAny.skip ?_ ?_; focus (first | omega | (simp; done))) | with_reducible refine S3mAny.alloc ?_ _)
  case round =>
    obtain ⟨k, r, hk, rfl, rfl, HS, EX, NW, KB⟩ := hrel
    obtain ⟨v, hv⟩ : ∃ v, v = wr := ⟨_, rfl⟩
    subst hv
    by_cases hlt : k < 64
    · have NWhi := NW.hi; have NWlo := NW.lo; have NWfz := NW.fz; have NWlt := NW.lt; have KBc0 := KB.c0; have KBc1 := KB.c1; have KBc2 := KB.c2; have KBfz := KB.fz; have KBlt := KB.lt
      have hr := HS.lt hlt
      have hor := HS.bits hlt (by decide) (show 63 - k = 64 - 1 - k by omega)
      have HS' : Hid (Sought 64 k n r) := HS
      clear HS
      have hki : (k : Int) < 64 := by omega
      rw [show 64 - 1 - k = 63 - k by omega] at hr
      obtain ⟨m, hm⟩ : ∃ m, r + 2 ^ (63 - k) = m := ⟨_, rfl⟩
      have hm64 : m < 18446744073709551616 := by have : (2 : Nat) ^ 64 = 18446744073709551616 := rfl; omega
      rw [hm] at hor
      have HM : Hid (r + 2 ^ (63 - k) = m) := hm
      have SQ := fun w => squareWide_any (m : Int) ⟨by omega, by omega⟩ w
      clear hm hr
      have CS : (InW ((m : Int) * (m : Int)) ∧ decide (sgn ((m : Int) * (m : Int)) (n : Int) ≤ 0) = true ∧ Sought 64 (k + 1) n m) ∨ (InW ((m : Int) * (m : Int)) ∧ decide (sgn ((m : Int) * (m : Int)) (n : Int) ≤ 0) = false ∧ Sought 64 (k + 1) n r) ∨ (¬ InW ((m : Int) * (m : Int)) ∧ Sought 64 (k + 1) n r) := by
        have e := HM.out
        have z : 0 ≤ (m : Int) * (m : Int) := Int.mul_nonneg (by omega) (by omega)
        by_cases h : m * m ≤ n
        · have h' : (m : Int) * (m : Int) ≤ (n : Int) := by exact_mod_cast h
          refine .inl ⟨⟨by omega, by omega⟩, ?_, ?_⟩
          · unfold sgn; rw [decide_eq_true]; split <;> (try split) <;> omega
          · rw [← e] at h ⊢
            exact HS'.out.yes hlt h
        · have h' : (n : Int) < (m : Int) * (m : Int) := by exact_mod_cast (Nat.lt_of_not_le h)
          have ns : Sought 64 (k + 1) n r := by
            refine HS'.out.no hlt ?_
            rw [show 64 - 1 - k = 63 - k by omega, e]
            exact Nat.lt_of_not_le h
          by_cases g : InW ((m : Int) * (m : Int))
          · refine .inr (.inl ⟨g, ?_, ns⟩)
            unfold sgn; rw [decide_eq_false]; split <;> (try split) <;> omega
          · exact .inr (.inr ⟨g, ns⟩)
      clear HS' HM
      have CM := fun w => cmp_any ((m : Int) * (m : Int)) (n : Int) w
      rcases CS with ⟨g, cs, HS⟩ | ⟨g, cs, HS⟩ | ⟨g, HS⟩
      · rw [(fit_of g).1, (fit_of g).2] at SQ
        clear g
        generalize sgn ((m : Int) * (m : Int)) (n : Int) = s at *
        generalize (m : Int) * (m : Int) = mm at *
        have HS' : Hid (Sought 64 _ n _) := HS
        clear HS
        go_wp2_with (first | (go_at_call 88; with_reducible refine (SQ _).mono ?_; rintro e v1 ⟨rfl, hb⟩; replace EX := Ext.trans EX hb; replace NW := NW.later hb; replace KB := KB.later hb; replace NWhi := NW.hi; replace NWlo := NW.lo; replace NWfz := NW.fz; replace NWlt := NW.lt; replace KBc0 := KB.c0; replace KBc1 := KB.c1; replace KBc2 := KB.c2; replace KBfz := KB.fz; replace KBlt := KB.lt; clear hb v; rename World => v) | (go_at_call 89; with_reducible refine (CM _).mono ?_; rintro e v1 ⟨rfl, hb⟩; replace hb := Ext.trans (Ext.alloc (Ext.refl v) _) hb; replace EX := Ext.trans EX hb; replace NW := NW.later hb; replace KB := KB.later hb; clear hb))
        go_roundg (gk - 1)
        case measure => omega
        case rel =>
          refine ⟨k + 1, _, by omega, by go_num, rfl, HS'.out, by repeat (first | with_reducible exact EX | with_reducible refine Ext.alloc ?_ _ | with_reducible refine Ext.drew ?_ | with_reducible refine Ext.drewN ?_ _ | with_reducible refine Ext.setCell ?_ (by first | (simp; done) | omega | (dsimp only; omega)) _), ?_, ?_⟩
          · repeat (first | with_reducible assumption | with_reducible refine Wm.drew ?_ | with_reducible refine Wm.drewN ?_ _ | (with_reducible refine Wm.skip ?_ ?_; focus (first | omega | (simp; done))) | with_reducible refine Wm.store ?_ _ _ | with_reducible refine Wm.new (by first | rfl | (simp; done) | with_unfolding_all rfl) (by with_unfolding_all rfl) (by with_unfolding_all rfl) | with_reducible refine Wm.alloc ?_ _ | exact Wm.any (by with_reducible assumption) | with_reducible refine WmAny.drew ?_ | with_reducible refine WmAny.drewN ?_ _ | (with_reducible refine WmAny.skip ?_ ?_; focus (first | omega | (simp; done))) | with_reducible refine WmAny.alloc ?_ _)
          · repeat (first | with_reducible assumption | with_reducible refine S3m.drew ?_ | with_reducible refine S3m.drewN ?_ _ | (with_reducible refine S3m.skip ?_ ?_; focus (first | omega | (simp; done))) | with_reducible refine S3m.store ?_ | with_reducible refine S3m.set0 ?_ _ | with_reducible refine S3m.set1 ?_ _ | with_reducible refine S3m.set2 ?_ _ | with_reducible refine S3m.new (by first | rfl | (simp; done) | with_unfolding_all rfl) (by with_unfolding_all rfl) (by with_unfolding_all rfl) (by with_unfolding_all rfl) | with_reducible refine S3m.alloc ?_ _ | exact S3m.any (by with_reducible assumption) | with_reducible refine S3mAny.drew ?_ | with_reducible refine S3mAny.drewN ?_ _ | (with_reducible refine S3mAny.skip ?_ ?_; focus (first | omega | (simp; done))) | with_reducible refine S3mAny.alloc ?_ _)
      · rw [(fit_of g).1, (fit_of g).2] at SQ
        clear g
        generalize sgn ((m : Int) * (m : Int)) (n : Int) = s at *
        generalize (m : Int) * (m : Int) = mm at *
        have HS' : Hid (Sought 64 _ n _) := HS
        clear HS
        go_wp2_with (first | (go_at_call 88; with_reducible refine (SQ _).mono ?_; rintro e v1 ⟨rfl, hb⟩; replace EX := Ext.trans EX hb; replace NW := NW.later hb; replace KB := KB.later hb; replace NWhi := NW.hi; replace NWlo := NW.lo; replace NWfz := NW.fz; replace NWlt := NW.lt; replace KBc0 := KB.c0; replace KBc1 := KB.c1; replace KBc2 := KB.c2; replace KBfz := KB.fz; replace KBlt := KB.lt; clear hb v; rename World => v) | (go_at_call 89; with_reducible refine (CM _).mono ?_; rintro e v1 ⟨rfl, hb⟩; replace hb := Ext.trans (Ext.alloc (Ext.refl v) _) hb; replace EX := Ext.trans EX hb; replace NW := NW.later hb; replace KB := KB.later hb; clear hb))
        go_roundg (gk - 1)
        case measure => omega
        case rel =>
          refine ⟨k + 1, _, by omega, by go_num, rfl, HS'.out, by repeat (first | with_reducible exact EX | with_reducible refine Ext.alloc ?_ _ | with_reducible refine Ext.drew ?_ | with_reducible refine Ext.drewN ?_ _ | with_reducible refine Ext.setCell ?_ (by first | (simp; done) | omega | (dsimp only; omega)) _), ?_, ?_⟩
          · repeat (first | with_reducible assumption | with_reducible refine Wm.drew ?_ | with_reducible refine Wm.drewN ?_ _ | (with_reducible refine Wm.skip ?_ ?_; focus (first | omega | (simp; done))) | with_reducible refine Wm.store ?_ _ _ | with_reducible refine Wm.new (by first | rfl | (simp; done) | with_unfolding_all rfl) (by with_unfolding_all rfl) (by with_unfolding_all rfl) | with_reducible refine Wm.alloc ?_ _ | exact Wm.any (by with_reducible assumption) | with_reducible refine WmAny.drew ?_ | with_reducible refine WmAny.drewN ?_ _ | (with_reducible refine WmAny.skip ?_ ?_; focus (first | omega | (simp; done))) | with_reducible refine WmAny.alloc ?_ _)
          · repeat (first | with_reducible assumption | with_reducible refine S3m.drew ?_ | with_reducible refine S3m.drewN ?_ _ | (with_reducible refine S3m.skip ?_ ?_; focus (first | omega | (simp; done))) | with_reducible refine S3m.store ?_ | with_reducible refine S3m.set0 ?_ _ | with_reducible refine S3m.set1 ?_ _ | with_reducible refine S3m.set2 ?_ _ | with_reducible refine S3m.new (by first | rfl | (simp; done) | with_unfolding_all rfl) (by with_unfolding_all rfl) (by with_unfolding_all rfl) (by with_unfolding_all rfl) | with_reducible refine S3m.alloc ?_ _ | exact S3m.any (by with_reducible assumption) | with_reducible refine S3mAny.drew ?_ | with_reducible refine S3mAny.drewN ?_ _ | (with_reducible refine S3mAny.skip ?_ ?_; focus (first | omega | (simp; done))) | with_reducible refine S3mAny.alloc ?_ _)
      · rw [(fit_no g).1, (fit_no g).2] at SQ
        clear g CM
        have HS' : Hid (Sought 64 _ n _) := HS
        clear HS
        go_wp2_with (first | (go_at_call 88; with_reducible refine (SQ _).mono ?_; rintro e v1 ⟨rfl, hb⟩; replace EX := Ext.trans EX hb; replace NW := NW.later hb; replace KB := KB.later hb; replace NWhi := NW.hi; replace NWlo := NW.lo; replace NWfz := NW.fz; replace NWlt := NW.lt; replace KBc0 := KB.c0; replace KBc1 := KB.c1; replace KBc2 := KB.c2; replace KBfz := KB.fz; replace KBlt := KB.lt; clear hb v; rename World => v))
        go_roundg (gk - 1)
        case measure => omega
        case rel =>
          refine ⟨k + 1, _, by omega, by go_num, rfl, HS'.out, by repeat (first | with_reducible exact EX | with_reducible refine Ext.alloc ?_ _ | with_reducible refine Ext.drew ?_ | with_reducible refine Ext.drewN ?_ _ | with_reducible refine Ext.setCell ?_ (by first | (simp; done) | omega | (dsimp only; omega)) _), ?_, ?_⟩
          · repeat (first | with_reducible assumption | with_reducible refine Wm.drew ?_ | with_reducible refine Wm.drewN ?_ _ | (with_reducible refine Wm.skip ?_ ?_; focus (first | omega | (simp; done))) | with_reducible refine Wm.store ?_ _ _ | with_reducible refine Wm.new (by first | rfl | (simp; done) | with_unfolding_all rfl) (by with_unfolding_all rfl) (by with_unfolding_all rfl) | with_reducible refine Wm.alloc ?_ _ | exact Wm.any (by with_reducible assumption) | with_reducible refine WmAny.drew ?_ | with_reducible refine WmAny.drewN ?_ _ | (with_reducible refine WmAny.skip ?_ ?_; focus (first | omega | (simp; done))) | with_reducible refine WmAny.alloc ?_ _)
          · repeat (first | with_reducible assumption | with_reducible refine S3m.drew ?_ | with_reducible refine S3m.drewN ?_ _ | (with_reducible refine S3m.skip ?_ ?_; focus (first | omega | (simp; done))) | with_reducible refine S3m.store ?_ | with_reducible refine S3m.set0 ?_ _ | with_reducible refine S3m.set1 ?_ _ | with_reducible refine S3m.set2 ?_ _ | with_reducible refine S3m.new (by first | rfl | (simp; done) | with_unfolding_all rfl) (by with_unfolding_all rfl) (by with_unfolding_all rfl) (by with_unfolding_all rfl) | with_reducible refine S3m.alloc ?_ _ | exact S3m.any (by with_reducible assumption) | with_reducible refine S3mAny.drew ?_ | with_reducible refine S3mAny.drewN ?_ _ | (with_reducible refine S3mAny.skip ?_ ?_; focus (first | omega | (simp; done))) | with_reducible refine S3mAny.alloc ?_ _)
    · have HD : Hid (rt (n : Int) = (r : Int)) := by
        rw [show k = 64 by omega] at HS
        exact HS.done
      clear HS
      have hki : ¬ ((k : Int) < 64) := by omega
      have KBc0 := KB.c0; have KBc1 := KB.c1; have KBc2 := KB.c2; have KBfz := KB.fz; have KBlt := KB.lt
      go_wp2
      go_ret
      exact ⟨by rw [HD.out]; rfl, EX⟩
end Go.Proofs.Ythfgeopldbcniaa
