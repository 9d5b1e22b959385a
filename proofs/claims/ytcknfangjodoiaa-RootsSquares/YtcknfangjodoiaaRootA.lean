/- What the functions of package roots do, called at any whole numbers: plain, squarePlain, sought at whole numbers, Root. -/
import Derived.Test.YtcknfangjodoiaaRootM
import Derived.Test.YtcknfangjodoiaaWideA
import Derived.Test.YtcknfangjodoiaaBoxS
import Derived.Deep.LoopGhost
import Derived.Deep.Light
import Derived.Laws.BitsAllLaws
namespace Go.Proofs.Ytcknfangjodoiaa
open Go.RowKit Go.BigFrame
set_option linter.unusedSimpArgs false
set_option linter.unusedVariables false
@[go_sem] theorem store_fn {P : Program} (w : World) (a : Addr) (m : Mode) (fn : Fn) (x y : Array Value) : (store a (.func fn x y) m).run P w = stored P w a (.func fn x y) m := run_store P w a _ m rfl
theorem plain_any (w : World) : Calls Try.prog 24 #[] w fun e w' => e = .returned (.agg #[.int .i64 32, .func (.func 33) #[] #[], .func (.func 34) #[] #[]]) ∧ Ext w w' := by
  have EX := Ext.refl w
  go_enter Try.func24, Try.ntmps24
  go_wp2
  refine bodyPost_ret (by simp only [results, Try.results24]; simp [go_sem]; try rfl) rfl ⟨rfl, ?_⟩
  repeat (first | with_reducible exact EX | with_reducible refine Ext.alloc ?_ _ | with_reducible refine Ext.drew ?_ | with_reducible refine Ext.drewN ?_ _ | with_reducible refine Ext.setCell ?_ (by first | (simp; done) | omega | (dsimp only; omega)) _)

theorem squarePlain_any (m : Int) (h0 : 0 ≤ m) (h1 : m < 4294967296) (w : World) : Calls Try.prog 33 #[.int .u64 m] w fun e w' => e = .returned (.tuple #[.int .u64 (m * m), .int .i64 0]) ∧ Ext w w' := by
  have hs : IntKind.u64.wrap (m * m) = m * m := by
    have := Int.mul_nonneg h0 h0
    have := sq_le h0 (show m ≤ 4294967295 by omega)
    rw [u64_wrap]; omega
  go_enter Try.func33, Try.ntmps33
  go_wp2
  go_ret2
  exact ⟨by simp [*], Ext.refl _⟩
set_option maxHeartbeats 4000000 in
theorem soughtPlain_any (n : Nat) (hn : n < 18446744073709551616) (w : World) : Calls Try.prog 23 #[.int .u64 (n : Int), .agg #[.int .i64 32, .func (.func 33) #[] #[], .func (.func 34) #[] #[]]] w fun e w' => e = .returned (.int .u64 (rt (n : Int))) ∧ Ext w w' := by
  have EX := Ext.refl w
  go_enter Try.func23, Try.ntmps23
  go_wp2
  go_loopg [5, 12] 32 (fun gk root i wr => ∃ k r : Nat, k + gk = 32 ∧ i = .int .i64 k ∧ root = .int .u64 r ∧ Sought 32 k n r ∧ Ext w wr ∧ S3m wr w.heap.size (.int .i64 32) (.func (.func 33) #[] #[]) (.func (.func 34) #[] #[]))
  case atStart =>
    refine ⟨0, 0, rfl, rfl, rfl, Sought.start (by omega), by repeat (first | with_reducible exact EX | with_reducible refine Ext.alloc ?_ _ | with_reducible refine Ext.drew ?_ | with_reducible refine Ext.drewN ?_ _ | with_reducible refine Ext.setCell ?_ (by first | (simp; done) | omega | (dsimp only; omega)) _), ?_⟩
    repeat (first | with_reducible assumption | with_reducible refine S3m.drew ?_ | with_reducible refine S3m.drewN ?_ _ | (with_reducible refine S3m.skip ?_ ?_; focus (first | omega | (simp; done))) | with_reducible refine S3m.store ?_ | with_reducible refine S3m.set0 ?_ _ | with_reducible refine S3m.set1 ?_ _ | with_reducible refine S3m.set2 ?_ _ | with_reducible refine S3m.new (by first | rfl | (simp; done) | with_unfolding_all rfl) (by with_unfolding_all rfl) (by with_unfolding_all rfl) (by with_unfolding_all rfl) | with_reducible refine S3m.alloc ?_ _ | exact S3m.any (by with_reducible assumption) | with_reducible refine S3mAny.drew ?_ | with_reducible refine S3mAny.drewN ?_ _ | (with_reducible refine S3mAny.skip ?_ ?_; focus (first | omega | (simp; done))) | with_reducible refine S3mAny.alloc ?_ _)
  case round =>
    obtain ⟨k, r, hk, rfl, rfl, HS, EX, KB⟩ := hrel
    by_cases hlt : k < 32
    · have kc0 := KB.c0
      have kc1 := KB.c1
      have kc2 := KB.c2
      have klt := KB.lt
      have hr := HS.lt hlt
      have HS' : Hid (Sought 32 k n r) := HS
      clear HS
      have hki : (k : Int) < 32 := by omega
      have hor := HS'.out.bits hlt (by decide) (show 31 - k = 32 - 1 - k by omega)
      rw [show 32 - 1 - k = 31 - k by omega] at hr
      obtain ⟨m, hm⟩ : ∃ m, r + 2 ^ (31 - k) = m := ⟨_, rfl⟩
      have hm32 : m < 4294967296 := by have : (2 : Nat) ^ 32 = 4294967296 := rfl; omega
      rw [hm] at hor
      have HM : Hid (r + 2 ^ (31 - k) = m) := hm
      have SQ := fun w => squarePlain_any (m : Int) (by omega) (by omega) w
      have CM := fun w => cmpu_any ((m : Int) * (m : Int)) (n : Int) w
      clear hm hr
      have CS : (decide (sgn ((m : Int) * (m : Int)) (n : Int) ≤ 0) = true ∧ Sought 32 (k + 1) n m) ∨ (decide (sgn ((m : Int) * (m : Int)) (n : Int) ≤ 0) = false ∧ Sought 32 (k + 1) n r) := by
        have e := HM.out
        by_cases h : m * m ≤ n
        · refine .inl ⟨?_, ?_⟩
          · have h' : (m : Int) * (m : Int) ≤ (n : Int) := by exact_mod_cast h
            unfold sgn; rw [decide_eq_true]; split <;> (try split) <;> omega
          · rw [← e] at h ⊢
            exact HS'.out.yes hlt h
        · refine .inr ⟨?_, ?_⟩
          · have h' : (n : Int) < (m : Int) * (m : Int) := by exact_mod_cast (Nat.lt_of_not_le h)
            unfold sgn; rw [decide_eq_false]; split <;> (try split) <;> omega
          · refine HS'.out.no hlt ?_
            rw [show 32 - 1 - k = 31 - k by omega, e]
            exact Nat.lt_of_not_le h
      clear HS' HM
      generalize sgn ((m : Int) * (m : Int)) (n : Int) = s at *
      generalize (m : Int) * (m : Int) = mm at *
      rcases CS with ⟨cs, HS⟩ | ⟨cs, HS⟩
      all_goals
        have HS' : Hid (Sought 32 _ n _) := HS
        clear HS
        go_wp2_with (first
          | (go_at_call 33; with_reducible refine (SQ _).mono ?_; rintro e v1 ⟨rfl, hb⟩; replace EX := Ext.trans EX hb; replace KB := KB.later hb; replace kc0 := KB.c0; replace kc1 := KB.c1; replace kc2 := KB.c2; replace klt := KB.lt; clear hb)
          | (go_at_call 34; with_reducible refine (CM _).mono ?_; rintro e v2 ⟨rfl, rfl⟩))
        go_roundg (gk - 1)
        case measure => omega
        case rel =>
          refine ⟨k + 1, _, by omega, by go_num, rfl, HS'.out, EX, KB⟩
    · have HD : Hid (rt (n : Int) = (r : Int)) := by
        rw [show k = 32 by omega] at HS
        exact HS.done
      clear HS
      have hki : ¬ ((k : Int) < 32) := by omega
      have kc0 := KB.c0
      have klt := KB.lt
      go_wp2
      go_ret
      exact ⟨by rw [HD.out]; rfl, EX⟩
theorem root_any (n : Nat) (hn : n < 18446744073709551616) (w : World) : Calls Try.prog 13 #[.int .u64 (n : Int)] w fun e w' => e = .returned (.int .u64 (rt (n : Int))) ∧ Ext w w' := by
  have EX := Ext.refl w
  have S := fun w => soughtPlain_any n hn w
  generalize rt (n : Int) = r at *
  go_enter Try.func13, Try.ntmps13
  go_wp2_with (first | (go_at_call 24; with_reducible refine (plain_any _).mono ?_; rintro e v1 ⟨rfl, hb⟩; replace EX := Ext.trans EX hb; clear hb) | (go_at_call 23; with_reducible refine (S _).mono ?_; rintro e v1 ⟨rfl, hb⟩; replace EX := Ext.trans EX hb; clear hb))
  go_ret
  exact ⟨rfl, EX⟩
theorem root_at (n : Int) (hn : InU64 n) (w : World) : Calls Try.prog 13 #[.int .u64 n] w fun e w' => e = .returned (.int .u64 (rt n)) ∧ Ext w w' := by
  obtain ⟨k, rfl⟩ := Int.eq_ofNat_of_zero_le hn.1
  exact root_any k (by have := hn.2; omega) w
end Go.Proofs.Ytcknfangjodoiaa
