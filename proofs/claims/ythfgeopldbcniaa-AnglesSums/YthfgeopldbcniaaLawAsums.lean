/- The walk of the given function AnglesSums: it returns true at every two fixes. -/
import Derived.Test.YthfgeopldbcniaaAngF
import Derived.Test.YthfgeopldbcniaaLawAcircle
namespace Go.Proofs.Ythfgeopldbcniaa
open Go.RowKit Go.BigFrame
set_option linter.unusedSimpArgs false
set_option linter.unusedVariables false

set_option maxRecDepth 20000 in
set_option maxHeartbeats 4000000 in
theorem asums_over (a b : Int) (a0 : -2147483648 ≤ a) (a1 : a ≤ 2147483647) (b0 : -2147483648 ≤ b) (b1 : b ≤ 2147483647) (h : 2147483647 < a + b ∨ ¬ 2147483647 < a + b ∧ a + b < -2147483648) (w : World) :
    Calls Try.prog 6 #[.int .i32 a, .int .i32 b] w fun e w' => e = .returned (.bool true) ∧ Ext w w' := by
  have EX := Ext.refl w
  rcases h with h | ⟨h, h2⟩
  all_goals
    go_enter Try.func6, Try.ntmps6
    go_wp2_with (first | (go_at_call 15; with_reducible refine (lives_any _).mono ?_; rintro e v1 ⟨rfl, hb⟩; replace EX := Ext.trans EX hb; clear hb))
    go_ret
    exact ⟨rfl, EX⟩
set_option maxRecDepth 20000 in
set_option maxHeartbeats 8000000 in
theorem asums_far (a b n s t c x y p r : Int) (a0 : -2147483648 ≤ a) (a1 : a ≤ 2147483647) (b0 : -2147483648 ≤ b) (b1 : b ≤ 2147483647) (hn : a + b = n) (n1 : ¬ 2147483647 < n) (n2 : ¬ n < -2147483648) (n3 : -2147483648 ≤ n) (n4 : n ≤ 2147483647)
    (t0 : -65536 ≤ t) (t1 : t ≤ 65536) (s0 : -65536 ≤ s) (s1 : s ≤ 65536) (x0 : -65536 ≤ x) (x1 : x ≤ 65536) (c0 : -65536 ≤ c) (c1 : c ≤ 65536) (y0 : -65536 ≤ y) (y1 : y ≤ 65536) (hp : s * x = p) (hr : c * y = r) (p0 : -4294967296 ≤ p) (p1 : p ≤ 4294967296) (r0 : -4294967296 ≤ r) (r1 : r ≤ 4294967296) (d0 : ¬ 65536 * t - p - r < -125452) (d1 : ¬ 125452 < 65536 * t - p - r) (h : a < -1073741824 ∨ ¬ a < -1073741824 ∧ 1073741823 < a)
    (S1 : ∀ w, Calls Try.prog 11 #[.int .i32 a] w fun e w' => e = .returned (.int .i32 s) ∧ Ext w w') (S2 : ∀ w, Calls Try.prog 11 #[.int .i32 n] w fun e w' => e = .returned (.int .i32 t) ∧ Ext w w')
    (S3 : ∀ w, Calls Try.prog 11 #[.int .i32 b] w fun e w' => e = .returned (.int .i32 y) ∧ Ext w w') (C1 : ∀ w, Calls Try.prog 13 #[.int .i32 a] w fun e w' => e = .returned (.int .i32 c) ∧ Ext w w') (C2 : ∀ w, Calls Try.prog 13 #[.int .i32 b] w fun e w' => e = .returned (.int .i32 x) ∧ Ext w w') (w : World) :
    Calls Try.prog 6 #[.int .i32 a, .int .i32 b] w fun e w' => e = .returned (.bool true) ∧ Ext w w' := by
  have EX := Ext.refl w
  rcases h with h | ⟨h, h2⟩
  all_goals
    go_enter Try.func6, Try.ntmps6
    go_wp2_with (first | (go_at_call 11; with_reducible refine (S1 _).mono ?_; rintro e v1 ⟨rfl, hb⟩; replace EX := Ext.trans EX hb; clear hb) | (go_at_call 11; with_reducible refine (S2 _).mono ?_; rintro e v1 ⟨rfl, hb⟩; replace EX := Ext.trans EX hb; clear hb) | (go_at_call 11; with_reducible refine (S3 _).mono ?_; rintro e v1 ⟨rfl, hb⟩; replace EX := Ext.trans EX hb; clear hb) | (go_at_call 13; with_reducible refine (C1 _).mono ?_; rintro e v1 ⟨rfl, hb⟩; replace EX := Ext.trans EX hb; clear hb) | (go_at_call 13; with_reducible refine (C2 _).mono ?_; rintro e v1 ⟨rfl, hb⟩; replace EX := Ext.trans EX hb; clear hb) | (go_at_call 15; with_reducible refine (lives_any _).mono ?_; rintro e v1 ⟨rfl, hb⟩; replace EX := Ext.trans EX hb; clear hb))
    go_ret
    exact ⟨rfl, EX⟩
set_option maxRecDepth 20000 in
set_option maxHeartbeats 8000000 in
theorem asums_all (a b n s t c x y p r u v f g : Int) (a0 : -2147483648 ≤ a) (a1 : a ≤ 2147483647) (b0 : -2147483648 ≤ b) (b1 : b ≤ 2147483647) (hn : a + b = n) (n1 : ¬ 2147483647 < n) (n2 : ¬ n < -2147483648) (n3 : -2147483648 ≤ n) (n4 : n ≤ 2147483647)
    (t0 : -65536 ≤ t) (t1 : t ≤ 65536) (s0 : -65536 ≤ s) (s1 : s ≤ 65536) (x0 : -65536 ≤ x) (x1 : x ≤ 65536) (c0 : -65536 ≤ c) (c1 : c ≤ 65536) (y0 : -65536 ≤ y) (y1 : y ≤ 65536) (u0 : -65536 ≤ u) (u1 : u ≤ 65536) (v0 : -65536 ≤ v) (v1 : v ≤ 65536) (hp : s * x = p) (hr : c * y = r) (p0 : -4294967296 ≤ p) (p1 : p ≤ 4294967296) (r0 : -4294967296 ≤ r) (r1 : r ≤ 4294967296) (d0 : ¬ 65536 * t - p - r < -125452) (d1 : ¬ 125452 < 65536 * t - p - r) (h1 : ¬ a < -1073741824) (h2 : ¬ 1073741823 < a) (h3 : -1073741824 ≤ a) (h4 : a ≤ 1073741823)
    (hf : 11796480 - a = f) (hg : -a = g) (e0 : -1 ≤ u - s) (e1 : u - s ≤ 1) (f0 : -1 ≤ v + s) (f1 : v + s ≤ 1)
    (S1 : ∀ w, Calls Try.prog 11 #[.int .i32 a] w fun e w' => e = .returned (.int .i32 s) ∧ Ext w w') (S2 : ∀ w, Calls Try.prog 11 #[.int .i32 n] w fun e w' => e = .returned (.int .i32 t) ∧ Ext w w')
    (S3 : ∀ w, Calls Try.prog 11 #[.int .i32 b] w fun e w' => e = .returned (.int .i32 y) ∧ Ext w w') (C1 : ∀ w, Calls Try.prog 13 #[.int .i32 a] w fun e w' => e = .returned (.int .i32 c) ∧ Ext w w') (C2 : ∀ w, Calls Try.prog 13 #[.int .i32 b] w fun e w' => e = .returned (.int .i32 x) ∧ Ext w w')
    (S4 : ∀ w, Calls Try.prog 11 #[.int .i32 f] w fun e w' => e = .returned (.int .i32 u) ∧ Ext w w') (S5 : ∀ w, Calls Try.prog 11 #[.int .i32 g] w fun e w' => e = .returned (.int .i32 v) ∧ Ext w w') (w : World) :
    Calls Try.prog 6 #[.int .i32 a, .int .i32 b] w fun e w' => e = .returned (.bool true) ∧ Ext w w' := by
  have EX := Ext.refl w
  go_enter Try.func6, Try.ntmps6
  go_wp2_with (first | (go_at_call 11; with_reducible refine (S1 _).mono ?_; rintro e v1 ⟨rfl, hb⟩; replace EX := Ext.trans EX hb; clear hb) | (go_at_call 11; with_reducible refine (S2 _).mono ?_; rintro e v1 ⟨rfl, hb⟩; replace EX := Ext.trans EX hb; clear hb) | (go_at_call 11; with_reducible refine (S3 _).mono ?_; rintro e v1 ⟨rfl, hb⟩; replace EX := Ext.trans EX hb; clear hb) | (go_at_call 11; with_reducible refine (S4 _).mono ?_; rintro e v1 ⟨rfl, hb⟩; replace EX := Ext.trans EX hb; clear hb) | (go_at_call 11; with_reducible refine (S5 _).mono ?_; rintro e v1 ⟨rfl, hb⟩; replace EX := Ext.trans EX hb; clear hb) | (go_at_call 13; with_reducible refine (C1 _).mono ?_; rintro e v1 ⟨rfl, hb⟩; replace EX := Ext.trans EX hb; clear hb) | (go_at_call 13; with_reducible refine (C2 _).mono ?_; rintro e v1 ⟨rfl, hb⟩; replace EX := Ext.trans EX hb; clear hb) | (go_at_call 15; with_reducible refine (lives_any _).mono ?_; rintro e v1 ⟨rfl, hb⟩; replace EX := Ext.trans EX hb; clear hb))
  go_ret
  exact ⟨rfl, EX⟩
theorem prod_bd {x y : Int} (x0 : -65536 ≤ x) (x1 : x ≤ 65536) (y0 : -65536 ≤ y) (y1 : y ≤ 65536) : -4294967296 ≤ x * y ∧ x * y ≤ 4294967296 := by
  have h := sq_bd x0 x1
  have k := sq_bd y0 y1
  have a := sq_0 (x + y)
  have b := sq_0 (x - y)
  have e1 : (x + y) * (x + y) = x * x + y * y + 2 * (x * y) := by grind
  have e2 : (x - y) * (x - y) = x * x + y * y - 2 * (x * y) := by grind
  omega
theorem asums_law (a b : Int) (ha : -2147483648 ≤ a ∧ a ≤ 2147483647) (hb : -2147483648 ≤ b ∧ b ≤ 2147483647) (w : World) : Calls Try.prog 6 #[.int .i32 a, .int .i32 b] w fun e w' => e = .returned (.bool true) ∧ Ext w w' := by
  by_cases h : 2147483647 < a + b ∨ a + b < -2147483648
  · exact asums_over a b ha.1 ha.2 hb.1 hb.2 (by omega) w
  · have s := csa_sums a b
    have ba := csa_bd a
    have bb := csa_bd b
    have bn := csa_bd (a + b)
    have p := prod_bd ba.2.2.1 ba.2.2.2 bb.1 bb.2.1
    have r := prod_bd ba.1 ba.2.1 bb.2.2.1 bb.2.2.2
    have S1 := fun w => sin_any a ha.1 ha.2 w
    have S2 := fun w => sin_any (a + b) (by omega) (by omega) w
    have S3 := fun w => sin_any b hb.1 hb.2 w
    have C1 := fun w => cos_any a ha.1 ha.2 w
    have C2 := fun w => cos_any b hb.1 hb.2 w
    by_cases h2 : a < -1073741824 ∨ 1073741823 < a
    · exact asums_far a b _ _ _ _ _ _ _ _ ha.1 ha.2 hb.1 hb.2 rfl (by omega) (by omega) (by omega) (by omega) bn.2.2.1 bn.2.2.2 ba.2.2.1 ba.2.2.2 bb.1 bb.2.1 ba.1 ba.2.1 bb.2.2.1 bb.2.2.2 rfl rfl p.1 p.2 r.1 r.2 (by omega) (by omega) (by omega) S1 S2 S3 C1 C2 w
    · have k1 := csa_half a
      have k2 := csa_neg a
      have b1 := csa_bd (11796480 - a)
      have b2 := csa_bd (-a)
      exact asums_all a b _ _ _ _ _ _ _ _ _ _ _ _ ha.1 ha.2 hb.1 hb.2 rfl (by omega) (by omega) (by omega) (by omega) bn.2.2.1 bn.2.2.2 ba.2.2.1 ba.2.2.2 bb.1 bb.2.1 ba.1 ba.2.1 bb.2.2.1 bb.2.2.2 b1.2.2.1 b1.2.2.2 b2.2.2.1 b2.2.2.2 rfl rfl p.1 p.2 r.1 r.2 (by omega) (by omega) (by omega) (by omega) (by omega) (by omega) rfl rfl k1.2 k1.1 k2.2.1 k2.1 S1 S2 S3 C1 C2 (fun w => sin_any (11796480 - a) (by omega) (by omega) w) (fun w => sin_any (-a) (by omega) (by omega) w) w
end Go.Proofs.Ythfgeopldbcniaa
