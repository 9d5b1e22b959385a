/- Package decodes: the greatest number of so many bits; whether a number may be; a number made sure of by a deferred call. -/
import Derived.Test.YthmgilikokcibaaFixA
import Derived.Test.YthmgilikokcibaaBoxV
import Derived.Defers
import Derived.WalkMore
import Derived.Laws.BitsLemmas
namespace Go.Proofs.Ythmgilikokcibaa
open Go.RowKit Go.BigFrame
set_option linter.unusedSimpArgs false
set_option linter.unusedVariables false

theorem two_pos (k : Nat) : 0 < (2 : Int) ^ k := Int.pow_pos (by decide)
theorem two_le {k n : Nat} (h : k ≤ n) : (2 : Int) ^ k ≤ 2 ^ n := by
  have := Nat.pow_le_pow_right (show 0 < 2 by decide) h
  exact_mod_cast this
theorem two_ge {k : Nat} (h : 1 ≤ k) : 2 ≤ (2 : Int) ^ k := two_le (k := 1) h
theorem two_32 {k : Nat} (h : k ≤ 32) : (2 : Int) ^ k ≤ 4294967296 := two_le (n := 32) h
theorem dgreat_any (r : Int) (k : Nat) (hk : k ≤ 32) (w : World) : Calls Try.prog 22 #[.agg #[.int .u32 r, .int .i64 k]] w fun e w' => e = .returned (.int .i64 (2 ^ k - 1)) ∧ Ext w w' := by
  have p0 := two_pos k
  have p1 := two_32 hk
  have EX := Ext.refl w
  go_enter Try.func22, Try.ntmps22
  go_wp2
  go_ret
  exact ⟨by simp, by repeat (first | with_reducible exact EX | with_reducible refine Ext.alloc ?_ _ | with_reducible refine Ext.drew ?_ | with_reducible refine Ext.drewN ?_ _ | with_reducible refine Ext.setCell ?_ (by first | (simp; done) | omega | (dsimp only; omega)) _)⟩
/-- Whether a number of so many bits may be. -/
def mayb (r b : Int) : Bool := decide (1 ≤ b) && decide (b ≤ 32) && decide (r ≤ 2 ^ b.toNat - 1)
theorem maybe_any (r b : Int) (hr : 0 ≤ r ∧ r < 4294967296) (w : World) : Calls Try.prog 46 #[.agg #[.int .u32 r, .int .i64 b]] w fun e w' => e = .returned (.bool (mayb r b)) ∧ Ext w w' := by
  have EX := Ext.refl w
  unfold mayb
  have wr : wrap64 r = r := wrap_in64 (by unfold In64; omega)
  clear hr
  by_cases h1 : 1 ≤ b
  · have d1 : decide (1 ≤ b) = true := decide_eq_true h1
    by_cases h2 : b ≤ 32
    · have d2 : decide (b ≤ 32) = true := decide_eq_true h2
      have GR := fun w => dgreat_any r b.toNat (by omega) w
      rw [Int.toNat_of_nonneg (by omega)] at GR
      clear h1 h2
      go_enter Try.func46, Try.ntmps46
      go_upto_region 1 with fail
      refine rebase (G := fun w' => Code.wp _ _ _ _ w') _ (fun v1 => Ext w v1 ∧ S2m v1 (w.heap.size) (.int .u32 r) (.int .i64 b)) ⟨by repeat (first | with_reducible exact EX | with_reducible refine Ext.alloc ?_ _ | with_reducible refine Ext.drew ?_ | with_reducible refine Ext.drewN ?_ _ | with_reducible refine Ext.setCell ?_ (by first | (simp; done) | omega | (dsimp only; omega)) _), by repeat (first | with_reducible assumption | with_reducible refine S2m.drew ?_ | with_reducible refine S2m.drewN ?_ _ | (with_reducible refine S2m.skip ?_ ?_; focus (first | omega | (simp; done))) | with_reducible refine S2m.store ?_ | with_reducible refine S2m.set0 ?_ _ | with_reducible refine S2m.set1 ?_ _ | with_reducible refine S2m.new (by first | rfl | (simp; done) | with_unfolding_all rfl) (by with_unfolding_all rfl) (by with_unfolding_all rfl) | with_reducible refine S2m.alloc ?_ _ | exact S2m.any (by with_reducible assumption) | with_reducible refine S2mAny.drew ?_ | with_reducible refine S2mAny.drewN ?_ _ | (with_reducible refine S2mAny.skip ?_ ?_; focus (first | omega | (simp; done))) | with_reducible refine S2mAny.alloc ?_ _)⟩ ?_; clear EX ; rintro v1 ⟨EX, SA⟩; rename World => v; have SAc0 := SA.c0; have SAc1 := SA.c1; have SAfz := SA.fz; have SAlt := SA.lt
      have gSAc0 := fun x' : Grow v => (SA.later x'.ext).c0; have gSAc1 := fun x' : Grow v => (SA.later x'.ext).c1; have gSAfz := fun x' : Grow v => (SA.later x'.ext).fz; have gSAlt := fun x' : Grow v => (SA.later x'.ext).lt; refine wp_region_grow (by kernel_rfl) (by kernel_rfl) ?_; (repeat (first | go_big_quiet_step ((go_at_call 22; with_reducible exact calls_grow (GR _))) | go_big_quiet_step (fail))); refine wpQuiet_nil ?_; clear gSAc0 gSAc1 gSAfz gSAlt; rintro _ ⟨xq, rfl⟩; replace EX := Ext.trans EX xq.ext; replace SA := SA.later xq.ext; replace SAc0 := SA.c0; replace SAc1 := SA.c1; replace SAfz := SA.fz; replace SAlt := SA.lt; generalize xq.out = v1 at *; clear xq v; rename World => v
      go_wp2
      go_ret
      exact ⟨by rw [d1, d2]; rfl, EX⟩
    · have d2 : decide (b ≤ 32) = false := decide_eq_false h2
      clear h1 h2
      go_enter Try.func46, Try.ntmps46
      go_upto_region 1 with fail
      refine rebase (G := fun w' => Code.wp _ _ _ _ w') _ (fun v1 => Ext w v1 ∧ S2m v1 (w.heap.size) (.int .u32 r) (.int .i64 b)) ⟨by repeat (first | with_reducible exact EX | with_reducible refine Ext.alloc ?_ _ | with_reducible refine Ext.drew ?_ | with_reducible refine Ext.drewN ?_ _ | with_reducible refine Ext.setCell ?_ (by first | (simp; done) | omega | (dsimp only; omega)) _), by repeat (first | with_reducible assumption | with_reducible refine S2m.drew ?_ | with_reducible refine S2m.drewN ?_ _ | (with_reducible refine S2m.skip ?_ ?_; focus (first | omega | (simp; done))) | with_reducible refine S2m.store ?_ | with_reducible refine S2m.set0 ?_ _ | with_reducible refine S2m.set1 ?_ _ | with_reducible refine S2m.new (by first | rfl | (simp; done) | with_unfolding_all rfl) (by with_unfolding_all rfl) (by with_unfolding_all rfl) | with_reducible refine S2m.alloc ?_ _ | exact S2m.any (by with_reducible assumption) | with_reducible refine S2mAny.drew ?_ | with_reducible refine S2mAny.drewN ?_ _ | (with_reducible refine S2mAny.skip ?_ ?_; focus (first | omega | (simp; done))) | with_reducible refine S2mAny.alloc ?_ _)⟩ ?_; clear EX ; rintro v1 ⟨EX, SA⟩; rename World => v; have SAc0 := SA.c0; have SAc1 := SA.c1; have SAfz := SA.fz; have SAlt := SA.lt
      have gSAc0 := fun x' : Grow v => (SA.later x'.ext).c0; have gSAc1 := fun x' : Grow v => (SA.later x'.ext).c1; have gSAfz := fun x' : Grow v => (SA.later x'.ext).fz; have gSAlt := fun x' : Grow v => (SA.later x'.ext).lt; refine wp_region_grow (by kernel_rfl) (by kernel_rfl) ?_; (repeat (first | go_big_quiet_step (fail))); refine wpQuiet_nil ?_; clear gSAc0 gSAc1 gSAfz gSAlt; rintro _ ⟨xq, rfl⟩; replace EX := Ext.trans EX xq.ext; replace SA := SA.later xq.ext; replace SAc0 := SA.c0; replace SAc1 := SA.c1; replace SAfz := SA.fz; replace SAlt := SA.lt; generalize xq.out = v1 at *; clear xq v; rename World => v
      go_wp2
      go_ret
      exact ⟨by simp [d2], EX⟩
  · have d1 : decide (1 ≤ b) = false := decide_eq_false h1
    clear h1
    go_enter Try.func46, Try.ntmps46
    go_upto_region 1 with fail
    refine rebase (G := fun w' => Code.wp _ _ _ _ w') _ (fun v1 => Ext w v1 ∧ S2m v1 (w.heap.size) (.int .u32 r) (.int .i64 b)) ⟨by repeat (first | with_reducible exact EX | with_reducible refine Ext.alloc ?_ _ | with_reducible refine Ext.drew ?_ | with_reducible refine Ext.drewN ?_ _ | with_reducible refine Ext.setCell ?_ (by first | (simp; done) | omega | (dsimp only; omega)) _), by repeat (first | with_reducible assumption | with_reducible refine S2m.drew ?_ | with_reducible refine S2m.drewN ?_ _ | (with_reducible refine S2m.skip ?_ ?_; focus (first | omega | (simp; done))) | with_reducible refine S2m.store ?_ | with_reducible refine S2m.set0 ?_ _ | with_reducible refine S2m.set1 ?_ _ | with_reducible refine S2m.new (by first | rfl | (simp; done) | with_unfolding_all rfl) (by with_unfolding_all rfl) (by with_unfolding_all rfl) | with_reducible refine S2m.alloc ?_ _ | exact S2m.any (by with_reducible assumption) | with_reducible refine S2mAny.drew ?_ | with_reducible refine S2mAny.drewN ?_ _ | (with_reducible refine S2mAny.skip ?_ ?_; focus (first | omega | (simp; done))) | with_reducible refine S2mAny.alloc ?_ _)⟩ ?_; clear EX ; rintro v1 ⟨EX, SA⟩; rename World => v; have SAc0 := SA.c0; have SAc1 := SA.c1; have SAfz := SA.fz; have SAlt := SA.lt
    have gSAc0 := fun x' : Grow v => (SA.later x'.ext).c0; have gSAc1 := fun x' : Grow v => (SA.later x'.ext).c1; have gSAfz := fun x' : Grow v => (SA.later x'.ext).fz; have gSAlt := fun x' : Grow v => (SA.later x'.ext).lt; refine wp_region_grow (by kernel_rfl) (by kernel_rfl) ?_; (repeat (first | go_big_quiet_step (fail))); refine wpQuiet_nil ?_; clear gSAc0 gSAc1 gSAfz gSAlt; rintro _ ⟨xq, rfl⟩; replace EX := Ext.trans EX xq.ext; replace SA := SA.later xq.ext; replace SAc0 := SA.c0; replace SAc1 := SA.c1; replace SAfz := SA.fz; replace SAlt := SA.lt; generalize xq.out = v1 at *; clear xq v; rename World => v
    go_wp2
    go_ret
    exact ⟨by simp [d1], EX⟩
/-- The deferred call, where the number may be: all stays. -/
theorem sure_good (w v : World) (EX : Ext w v) (bn be : Nat) (r b : Int) (hr : 0 ≤ r ∧ r < 4294967296) (hm : mayb r b = true) (SN : S2m v bn (.int .u32 r) (.int .i64 b)) (SE : S1m v be (.int .i64 0)) (u : FrameMode) :
    CallsD Try.prog 45 #[.pointer (some ⟨bn, 0, none⟩), .pointer (some ⟨be, 0, none⟩)] u v fun e u' w' => u' = u ∧ (e = .returned (.tuple #[]) ∧ Ext w w' ∧ S2m w' bn (.int .u32 r) (.int .i64 b) ∧ S1m w' be (.int .i64 0)) := by
  have MB := fun w => maybe_any r b hr w
  rw [hm] at MB
  clear hm hr
  have SNc0 := SN.c0; have SNc1 := SN.c1; have SNfz := SN.fz; have SNlt := SN.lt; have SEc0 := SE.c0; have SEfz := SE.fz; have SElt := SE.lt
  go_enter_d Try.func45, Try.ntmps45
  go_wp2_with (first | (go_at_call 46; with_reducible refine (MB _).mono ?_; rintro e v1 ⟨rfl, hb⟩; replace EX := Ext.trans EX hb; replace SN := SN.later hb; replace SE := SE.later hb; replace SNc0 := SN.c0; replace SNc1 := SN.c1; replace SNfz := SN.fz; replace SNlt := SN.lt; replace SEc0 := SE.c0; replace SEfz := SE.fz; replace SElt := SE.lt; clear hb v; rename World => v))
  go_end0
  exact ⟨rfl, EX, SN, SE⟩
/-- The deferred call, where the number may not be: nothing of it leaves. -/
theorem sure_bad (w v : World) (EX : Ext w v) (bn be : Nat) (r b : Int) (hr : 0 ≤ r ∧ r < 4294967296) (hm : mayb r b = false) (SN : S2m v bn (.int .u32 r) (.int .i64 b)) (SE : S1m v be (.int .i64 0)) (hn : w.heap.size ≤ bn) (he : w.heap.size ≤ be) (hne : bn ≠ be) (u : FrameMode) :
    CallsD Try.prog 45 #[.pointer (some ⟨bn, 0, none⟩), .pointer (some ⟨be, 0, none⟩)] u v fun e u' w' => u' = u ∧ (e = .returned (.tuple #[]) ∧ Ext w w' ∧ S2m w' bn (.int .u32 0) (.int .i64 0) ∧ S1m w' be (.int .i64 1)) := by
  have MB := fun w => maybe_any r b hr w
  rw [hm] at MB
  clear hm hr
  have SNc0 := SN.c0; have SNc1 := SN.c1; have SNfz := SN.fz; have SNlt := SN.lt; have SEc0 := SE.c0; have SEfz := SE.fz; have SElt := SE.lt
  go_enter_d Try.func45, Try.ntmps45
  go_wp2_with (first | (go_at_call 46; with_reducible refine (MB _).mono ?_; rintro e v1 ⟨rfl, hb⟩; replace EX := Ext.trans EX hb; replace SN := SN.later hb; replace SE := SE.later hb; replace SNc0 := SN.c0; replace SNc1 := SN.c1; replace SNfz := SN.fz; replace SNlt := SN.lt; replace SEc0 := SE.c0; replace SEfz := SE.fz; replace SElt := SE.lt; clear hb v; rename World => v))
  go_end0
  exact ⟨rfl, by repeat (first | with_reducible exact EX | with_reducible refine Ext.alloc ?_ _ | with_reducible refine Ext.drew ?_ | with_reducible refine Ext.drewN ?_ _ | with_reducible refine Ext.setCell ?_ (by first | (simp; done) | omega | (dsimp only; omega)) _), by repeat (first | with_reducible assumption | with_reducible refine S2m.drew ?_ | with_reducible refine S2m.drewN ?_ _ | (with_reducible refine S2m.skip ?_ ?_; focus (first | omega | (simp; done))) | with_reducible refine S2m.store ?_ | with_reducible refine S2m.set0 ?_ _ | with_reducible refine S2m.set1 ?_ _ | with_reducible refine S2m.new (by first | rfl | (simp; done) | with_unfolding_all rfl) (by with_unfolding_all rfl) (by with_unfolding_all rfl) | with_reducible refine S2m.alloc ?_ _ | exact S2m.any (by with_reducible assumption) | with_reducible refine S2mAny.drew ?_ | with_reducible refine S2mAny.drewN ?_ _ | (with_reducible refine S2mAny.skip ?_ ?_; focus (first | omega | (simp; done))) | with_reducible refine S2mAny.alloc ?_ _), by repeat (first | with_reducible assumption | with_reducible refine S1m.drew ?_ | with_reducible refine S1m.drewN ?_ _ | (with_reducible refine S1m.skip ?_ ?_; focus (first | omega | (simp; done))) | with_reducible refine S1m.store ?_ | with_reducible refine S1m.set0 ?_ _ | with_reducible refine S1m.new (by first | rfl | (simp; done) | with_unfolding_all rfl) (by with_unfolding_all rfl) | with_reducible refine S1m.alloc ?_ _ | exact S1m.any (by with_reducible assumption) | with_reducible refine S1mAny.drew ?_ | with_reducible refine S1mAny.drewN ?_ _ | (with_reducible refine S1mAny.skip ?_ ?_; focus (first | omega | (simp; done))) | with_reducible refine S1mAny.alloc ?_ _)⟩
/-- A number of so many bits, made sure of. -/
theorem number_good (r b : Int) (hr : 0 ≤ r ∧ r < 4294967296) (hm : mayb r b = true) (w : World) : Calls Try.prog 21 #[.int .u32 r, .int .i64 b] w fun e w' => e = .returned (.tuple #[.agg #[.int .u32 r, .int .i64 b], .int .i64 0]) ∧ Ext w w' := by
  have hmf : ∀ (fn : Fn) (first cap : Array Value) (w : World), (Instr.makeFunc fn first cap).run Try.prog w = .ok (.func fn first cap) w := fun _ _ _ _ => rfl
  have EX := Ext.refl w
  go_enter_defers Try.func21, Try.ntmps21
  go_wp2
  refine leaves_cons (f := 45) (args := #[.pointer (some ⟨w.heap.size, 0, none⟩), .pointer (some ⟨w.heap.size + 1, 0, none⟩)]) (by simp) (by simp [go_sem]) ?_
  refine (sure_good w _ (by repeat (first | with_reducible exact EX | with_reducible refine Ext.alloc ?_ _ | with_reducible refine Ext.drew ?_ | with_reducible refine Ext.drewN ?_ _ | with_reducible refine Ext.setCell ?_ (by first | (simp; done) | omega | (dsimp only; omega)) _)) w.heap.size (w.heap.size + 1) r b hr hm (by repeat (first | with_reducible assumption | with_reducible refine S2m.drew ?_ | with_reducible refine S2m.drewN ?_ _ | (with_reducible refine S2m.skip ?_ ?_; focus (first | omega | (simp; done))) | with_reducible refine S2m.store ?_ | with_reducible refine S2m.set0 ?_ _ | with_reducible refine S2m.set1 ?_ _ | with_reducible refine S2m.new (by first | rfl | (simp; done) | with_unfolding_all rfl) (by with_unfolding_all rfl) (by with_unfolding_all rfl) | with_reducible refine S2m.alloc ?_ _ | exact S2m.any (by with_reducible assumption) | with_reducible refine S2mAny.drew ?_ | with_reducible refine S2mAny.drewN ?_ _ | (with_reducible refine S2mAny.skip ?_ ?_; focus (first | omega | (simp; done))) | with_reducible refine S2mAny.alloc ?_ _)) (by repeat (first | with_reducible assumption | with_reducible refine S1m.drew ?_ | with_reducible refine S1m.drewN ?_ _ | (with_reducible refine S1m.skip ?_ ?_; focus (first | omega | (simp; done))) | with_reducible refine S1m.store ?_ | with_reducible refine S1m.set0 ?_ _ | with_reducible refine S1m.new (by first | rfl | (simp; done) | with_unfolding_all rfl) (by with_unfolding_all rfl) | with_reducible refine S1m.alloc ?_ _ | exact S1m.any (by with_reducible assumption) | with_reducible refine S1mAny.drew ?_ | with_reducible refine S1mAny.drewN ?_ _ | (with_reducible refine S1mAny.skip ?_ ?_; focus (first | omega | (simp; done))) | with_reducible refine S1mAny.alloc ?_ _)) .returning).mono ?_
  rintro e u' v ⟨rfl, rfl, EX, SN, SE⟩
  have SNc0 := SN.c0; have SNc1 := SN.c1; have SEc0 := SE.c0
  simp [Leaves, settle, results, Try.results21, go_sem, *]
theorem number_bad (r b : Int) (hr : 0 ≤ r ∧ r < 4294967296) (hm : mayb r b = false) (w : World) : Calls Try.prog 21 #[.int .u32 r, .int .i64 b] w fun e w' => e = .returned (.tuple #[.agg #[.int .u32 0, .int .i64 0], .int .i64 1]) ∧ Ext w w' := by
  have hmf : ∀ (fn : Fn) (first cap : Array Value) (w : World), (Instr.makeFunc fn first cap).run Try.prog w = .ok (.func fn first cap) w := fun _ _ _ _ => rfl
  have EX := Ext.refl w
  go_enter_defers Try.func21, Try.ntmps21
  go_wp2
  refine leaves_cons (f := 45) (args := #[.pointer (some ⟨w.heap.size, 0, none⟩), .pointer (some ⟨w.heap.size + 1, 0, none⟩)]) (by simp) (by simp [go_sem]) ?_
  refine (sure_bad w _ (by repeat (first | with_reducible exact EX | with_reducible refine Ext.alloc ?_ _ | with_reducible refine Ext.drew ?_ | with_reducible refine Ext.drewN ?_ _ | with_reducible refine Ext.setCell ?_ (by first | (simp; done) | omega | (dsimp only; omega)) _)) w.heap.size (w.heap.size + 1) r b hr hm (by repeat (first | with_reducible assumption | with_reducible refine S2m.drew ?_ | with_reducible refine S2m.drewN ?_ _ | (with_reducible refine S2m.skip ?_ ?_; focus (first | omega | (simp; done))) | with_reducible refine S2m.store ?_ | with_reducible refine S2m.set0 ?_ _ | with_reducible refine S2m.set1 ?_ _ | with_reducible refine S2m.new (by first | rfl | (simp; done) | with_unfolding_all rfl) (by with_unfolding_all rfl) (by with_unfolding_all rfl) | with_reducible refine S2m.alloc ?_ _ | exact S2m.any (by with_reducible assumption) | with_reducible refine S2mAny.drew ?_ | with_reducible refine S2mAny.drewN ?_ _ | (with_reducible refine S2mAny.skip ?_ ?_; focus (first | omega | (simp; done))) | with_reducible refine S2mAny.alloc ?_ _)) (by repeat (first | with_reducible assumption | with_reducible refine S1m.drew ?_ | with_reducible refine S1m.drewN ?_ _ | (with_reducible refine S1m.skip ?_ ?_; focus (first | omega | (simp; done))) | with_reducible refine S1m.store ?_ | with_reducible refine S1m.set0 ?_ _ | with_reducible refine S1m.new (by first | rfl | (simp; done) | with_unfolding_all rfl) (by with_unfolding_all rfl) | with_reducible refine S1m.alloc ?_ _ | exact S1m.any (by with_reducible assumption) | with_reducible refine S1mAny.drew ?_ | with_reducible refine S1mAny.drewN ?_ _ | (with_reducible refine S1mAny.skip ?_ ?_; focus (first | omega | (simp; done))) | with_reducible refine S1mAny.alloc ?_ _)) (by omega) (by omega) (by omega) .returning).mono ?_
  rintro e u' v ⟨rfl, rfl, EX, SN, SE⟩
  have SNc0 := SN.c0; have SNc1 := SN.c1; have SEc0 := SE.c0
  simp [Leaves, settle, results, Try.results21, go_sem, *]
end Go.Proofs.Ythmgilikokcibaa
