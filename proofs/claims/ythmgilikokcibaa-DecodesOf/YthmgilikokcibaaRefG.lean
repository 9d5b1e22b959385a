/- What the given functions gouacheref01.Of, Read and Small do, called at any wide and any number of 64 bits. -/
import Derived.Test.YthmgilikokcibaaRefE
import Derived.Test.YthmgilikokcibaaBox
namespace Go.Proofs.Ythmgilikokcibaa
open Go.RowKit Go.BigFrame
set_option linter.unusedSimpArgs false
set_option linter.unusedVariables false

theorem rof_any (n : Int) (hn : In64 n) (w : World) : Calls Try.prog 55 #[.int .i64 n] w fun e w' => e = .returned (.agg #[.int .i64 (hi (n)), .int .u64 (lo (n))]) ∧ Ext w w' := by
  have e1 : hi n = if n < 0 then -1 else 0 := by unfold In64 at hn; unfold hi; split <;> omega
  have e2 : lo n = IntKind.u64.wrap n := by rw [u64_wrap]; rfl
  rw [e1, e2]
  clear e1 e2
  go_enter Try.func55, Try.ntmps55
  go_wp2
  all_goals
    refine bodyPost_ret (by simp only [results, Try.results55]; simp [go_sem]; try rfl) rfl ⟨by simp [*], Ext.alloc (Ext.refl _) _⟩
theorem um_dg (x : Int) : dg (um x) 0 = lo x % 65536 ∧ dg (um x) 1 = lo x / 65536 % 65536 ∧ dg (um x) 2 = lo x / 4294967296 % 65536 ∧ dg (um x) 3 = lo x / 281474976710656 % 65536 ∧ dg (um x) 4 = hi (um x) % 65536 ∧ dg (um x) 5 = hi (um x) / 65536 % 65536 ∧ dg (um x) 6 = hi (um x) / 4294967296 % 65536 ∧ dg (um x) 7 = hi (um x) / 281474976710656 % 65536 ∧ dg (um x) 8 = 0 ∧ dg (um x) 9 = 0 ∧ dg (um x) 10 = 0 ∧ dg (um x) 11 = 0 := by
  have h := um_in x
  have e : lo x = um x % 18446744073709551616 := by unfold lo um; omega
  rw [e]
  unfold hi dg InU at *
  clear e
  generalize um x = U at *
  refine ⟨?_, ?_, ?_, ?_, ?_, ?_, ?_, ?_, ?_, ?_, ?_, ?_⟩ <;> simp only [Int.reducePow] <;> omega
theorem dg_128 : dg 340282366920938463463374607431768211456 0 = 0 ∧ dg 340282366920938463463374607431768211456 1 = 0 ∧ dg 340282366920938463463374607431768211456 2 = 0 ∧ dg 340282366920938463463374607431768211456 3 = 0 ∧ dg 340282366920938463463374607431768211456 4 = 0 ∧ dg 340282366920938463463374607431768211456 5 = 0 ∧ dg 340282366920938463463374607431768211456 6 = 0 ∧ dg 340282366920938463463374607431768211456 7 = 0 ∧ dg 340282366920938463463374607431768211456 8 = 1 ∧ dg 340282366920938463463374607431768211456 9 = 0 ∧ dg 340282366920938463463374607431768211456 10 = 0 ∧ dg 340282366920938463463374607431768211456 11 = 0 := by
  refine ⟨?_, ?_, ?_, ?_, ?_, ?_, ?_, ?_, ?_, ?_, ?_, ?_⟩ <;> decide
set_option maxHeartbeats 4000000 in
theorem read_any (x : Int) (hx : InW x) (w : World) : Calls Try.prog 35 #[(.agg #[.int .i64 (hi (x)), .int .u64 (lo (x))])] w fun e w' => e = .returned (.agg #[.bool (decide (x < 0)), .int .i64 (dg (ab x) 0), .int .i64 (dg (ab x) 1), .int .i64 (dg (ab x) 2), .int .i64 (dg (ab x) 3), .int .i64 (dg (ab x) 4), .int .i64 (dg (ab x) 5), .int .i64 (dg (ab x) 6), .int .i64 (dg (ab x) 7), .int .i64 (dg (ab x) 8), .int .i64 (dg (ab x) 9), .int .i64 (dg (ab x) 10), .int .i64 (dg (ab x) 11)]) ∧ Ext w w' := by
  have EX := Ext.refl w
  have l0 := lo_0 x
  have l1 := lo_1 x
  have e2 : IntKind.u64.wrap (hi x) = hi (um x) := by rw [u64_wrap]; unfold hi um; omega
  have h0 : 0 ≤ hi (um x) := (hi_inU (um_in x)).1
  have h1 : hi (um x) < 18446744073709551616 := (hi_inU (um_in x)).2
  obtain ⟨q0, q1, q2, q3, q4, q5, q6, q7, q8, q9, q10, q11⟩ := um_dg x
  by_cases hn : x < 0
  · have hh : hi x < 0 := by rw [hi_neg]; exact hn
    have hab : 340282366920938463463374607431768211456 - um x = ab x := by unfold ab um InW at *; rw [if_pos hn]; omega
    have ls := fun w => less_any 340282366920938463463374607431768211456 (um x) (um_in x).1 (by have := (um_in x).2; omega) ⟨by decide, by decide⟩ w
    obtain ⟨p0, p1, p2, p3, p4, p5, p6, p7, p8, p9, p10, p11⟩ := dg_128
    rw [hab] at ls
    simp only [p0, p1, p2, p3, p4, p5, p6, p7, p8, p9, p10, p11, q0, q1, q2, q3, q4, q5, q6, q7, q8, q9, q10, q11] at ls
    have hd : decide (x < 0) = true := by simp [hn]
    rw [hd]
    clear p0 p1 p2 p3 p4 p5 p6 p7 p8 p9 p10 p11 q0 q1 q2 q3 q4 q5 q6 q7 q8 q9 q10 q11 hab hn hd hx
    go_enter Try.func35, Try.ntmps35
    go_wp2
    refine wp_loop_rounds 5 ?_
    rw [rounds_succ]
    go_wp2
    rw [rounds_succ]
    go_wp2
    rw [rounds_succ]
    go_wp2
    rw [rounds_succ]
    go_wp2
    rw [rounds_succ]
    go_wp2_with (go_at_call 49; with_reducible refine (ls _).mono ?_; rintro e v ⟨rfl, hb⟩; obtain ⟨r1, r2, r3⟩ := hb.rules)
    refine bodyPost_ret (by simp only [results, Try.results35]; simp [go_sem, *]; try rfl) rfl ⟨rfl, ?_⟩
    replace EX : Ext w v := Ext.trans (by repeat (first | with_reducible exact EX | with_reducible refine Ext.alloc ?_ _ | with_reducible refine Ext.drew ?_ | with_reducible refine Ext.drewN ?_ _ | with_reducible refine Ext.setCell ?_ (by first | (simp; done) | omega | (dsimp only; omega)) _)) hb
    repeat (first | with_reducible exact EX | with_reducible refine Ext.alloc ?_ _ | with_reducible refine Ext.drew ?_ | with_reducible refine Ext.drewN ?_ _ | with_reducible refine Ext.setCell ?_ (by first | (simp; done) | omega | (dsimp only; omega)) _)
  · have hh : ¬ hi x < 0 := by rw [hi_neg]; exact hn
    have hab : ab x = um x := by unfold ab um InW at *; rw [if_neg hn]; omega
    have hd : decide (x < 0) = false := by simp [hn]
    rw [hab, hd]
    simp only [q0, q1, q2, q3, q4, q5, q6, q7, q8, q9, q10, q11]
    clear q0 q1 q2 q3 q4 q5 q6 q7 q8 q9 q10 q11 hab hd hn hx
    go_enter Try.func35, Try.ntmps35
    go_wp2
    refine wp_loop_rounds 5 ?_
    rw [rounds_succ]
    go_wp2
    rw [rounds_succ]
    go_wp2
    rw [rounds_succ]
    go_wp2
    rw [rounds_succ]
    go_wp2
    rw [rounds_succ]
    go_wp2
    refine bodyPost_ret (by simp only [results, Try.results35]; simp [go_sem]; try rfl) rfl ⟨rfl, ?_⟩
    repeat (first | with_reducible exact EX | with_reducible refine Ext.alloc ?_ _ | with_reducible refine Ext.drew ?_ | with_reducible refine Ext.drewN ?_ _ | with_reducible refine Ext.setCell ?_ (by first | (simp; done) | omega | (dsimp only; omega)) _)
theorem in64w {n : Int} (h : In64 n) : InW n := by unfold In64 InW at *; omega
theorem small_any (n : Int) (hn : In64 n) (w : World) : Calls Try.prog 31 #[.int .i64 n] w fun e w' => e = .returned (.agg #[.bool (decide (n < 0)), .int .i64 (dg (ab n) 0), .int .i64 (dg (ab n) 1), .int .i64 (dg (ab n) 2), .int .i64 (dg (ab n) 3), .int .i64 (dg (ab n) 4), .int .i64 (dg (ab n) 5), .int .i64 (dg (ab n) 6), .int .i64 (dg (ab n) 7), .int .i64 (dg (ab n) 8), .int .i64 (dg (ab n) 9), .int .i64 (dg (ab n) 10), .int .i64 (dg (ab n) 11)]) ∧ Ext w w' := by
  have EX := Ext.refl w
  go_enter Try.func31, Try.ntmps31
  go_wp2_with (first
    | (go_at_call 55; with_reducible refine (rof_any n hn _).mono ?_; rintro e v1 ⟨rfl, hb⟩)
    | (go_at_call 35; with_reducible refine (read_any n (in64w hn) _).mono ?_; rintro e v2 ⟨rfl, hc⟩; obtain ⟨r1, r2, r3⟩ := (Ext.trans hb hc).rules))
  refine bodyPost_ret (by simp only [results, Try.results31]; simp [go_sem, *]; try rfl) rfl ⟨rfl, ?_⟩
  replace EX : Ext w v2 := Ext.trans (Ext.trans (by repeat (first | with_reducible exact EX | with_reducible refine Ext.alloc ?_ _ | with_reducible refine Ext.drew ?_ | with_reducible refine Ext.drewN ?_ _ | with_reducible refine Ext.setCell ?_ (by first | (simp; done) | omega | (dsimp only; omega)) _)) hb) hc
  repeat (first | with_reducible exact EX | with_reducible refine Ext.alloc ?_ _ | with_reducible refine Ext.drew ?_ | with_reducible refine Ext.drewN ?_ _ | with_reducible refine Ext.setCell ?_ (by first | (simp; done) | omega | (dsimp only; omega)) _)
end Go.Proofs.Ythmgilikokcibaa
