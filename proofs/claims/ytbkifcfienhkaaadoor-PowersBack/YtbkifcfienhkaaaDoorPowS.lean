/- A number's square, and its quotient of 1, as powers, are the nearest ones but for one 65536th. Plain arithmetic. -/
import Derived.Test.YtbkifcfienhkaaaDoorPowZ
namespace Go.Proofs.YtbkifcfienhkaaaDoor
set_option linter.unusedVariables false
theorem square_up {F A X z l m : Nat} (ha : A ^ F ≤ 4611686018427387904 ^ F * 2 ^ z) (hx : 4611686018427387904 ^ F * 2 ^ l ≤ X ^ F) (h : z + 17 * F ≤ 2 * l + m) : (A * (4611686018427387904 * 131072)) ^ F ≤ 2 ^ m * (X * X) ^ F := by
  have h1 : 2 ^ (z + 17 * F) ≤ 2 ^ (2 * l + m) := Nat.pow_le_pow_right (by decide) h
  rw [Nat.pow_add, Nat.pow_add, Nat.two_mul, Nat.pow_add, Nat.pow_mul 2 17 F] at h1
  rw [Nat.mul_pow, Nat.mul_pow, Nat.mul_pow, show (131072 : Nat) = 2 ^ 17 from rfl]
  generalize 4611686018427387904 ^ F = a at *
  generalize (2 ^ 17) ^ F = t at *
  generalize 2 ^ z = u at *
  generalize 2 ^ l = v at *
  generalize 2 ^ m = w at *
  generalize A ^ F = p at *
  generalize X ^ F = x at *
  calc p * (a * t) ≤ a * u * (a * t) := Nat.mul_le_mul_right _ ha
    _ = a * a * (u * t) := by ac_rfl
    _ ≤ a * a * (v * v * w) := Nat.mul_le_mul_left _ h1
    _ = w * (a * v * (a * v)) := by ac_rfl
    _ ≤ w * (x * x) := Nat.mul_le_mul_left _ (Nat.mul_le_mul hx hx)
theorem square_lo {F A X z l m : Nat} (hF : F = 1099511627776) (ha : 4611686018427387904 ^ F * 2 ^ z * (4611686018427387904 ^ F) ^ 96 ≤ A ^ F * (4611686018427387905 ^ F) ^ 96) (hx : X ^ F ≤ 2 ^ (l + 1) * 4611686018427387905 ^ F) (h : 2 * l ≤ z + 17 * F + m) : (X * X) ^ F ≤ 2 ^ (m + 3) * (A * (4611686018427387904 * 131072)) ^ F := by
  have hc := near_c hF (k := 98) (by decide)
  have sp : 0 < (4611686018427387904 ^ F) ^ 98 := Nat.pow_pos (Nat.pow_pos (by decide))
  have h1 : 2 ^ (l + 1 + (l + 1)) ≤ 2 ^ (z + 17 * F + (m + 2)) := Nat.pow_le_pow_right (by decide) (by omega)
  rw [Nat.pow_add 2 (l + 1), Nat.pow_add 2 (z + 17 * F), Nat.pow_add 2 z, Nat.pow_mul 2 17 F] at h1
  rw [Nat.pow_succ _ 97, Nat.pow_succ _ 97, Nat.pow_succ _ 96, Nat.pow_succ _ 96] at hc
  rw [Nat.pow_succ _ 97, Nat.pow_succ _ 96] at sp
  rw [Nat.pow_succ 2 (m + 2), Nat.mul_pow, Nat.mul_pow, Nat.mul_pow, show (131072 : Nat) = 2 ^ 17 from rfl]
  generalize 4611686018427387904 ^ F = a at *
  generalize 4611686018427387905 ^ F = c at *
  generalize (2 ^ 17) ^ F = t at *
  generalize a ^ 96 = an at *
  generalize c ^ 96 = cn at *
  generalize 2 ^ z = u at *
  generalize 2 ^ (l + 1) = v at *
  generalize 2 ^ (m + 2) = w at *
  generalize A ^ F = p at *
  generalize X ^ F = x at *
  refine Nat.le_of_mul_le_mul_right (c := an * a * a) ?_ sp
  calc x * x * (an * a * a) ≤ v * c * (v * c) * (an * a * a) := Nat.mul_le_mul_right _ (Nat.mul_le_mul hx hx)
    _ = v * v * (c * c * (an * a * a)) := by ac_rfl
    _ ≤ u * t * w * (c * c * (an * a * a)) := Nat.mul_le_mul_right _ h1
    _ = a * u * an * (t * w * (c * c) * a) := by ac_rfl
    _ ≤ p * cn * (t * w * (c * c) * a) := Nat.mul_le_mul_right _ ha
    _ = cn * c * c * (t * w * p * a) := by ac_rfl
    _ ≤ 2 * (an * a * a) * (t * w * p * a) := Nat.mul_le_mul_right _ hc
    _ = w * 2 * (p * (a * t)) * (an * a * a) := by ac_rfl
theorem held_near {x y : Int} (h0 : x ≤ y + 1) (h1 : y ≤ x + 1) : held x ≤ held y + 1 ∧ held y ≤ held x + 1 := by
  unfold held
  split <;> split <;> (try split) <;> (try split) <;> omega
theorem nr_floor (a : Int) {d : Int} (hd : 0 < d) : nr a d = (2 * a + d) / (2 * d) := by
  obtain ⟨h1, h2⟩ := nr_is a d hd
  refine ((Int.ediv_eq_iff_of_pos (by omega)).2 ⟨?_, ?_⟩).symm
  · rw [Int.mul_comm (nr a d) (2 * d), Int.mul_assoc]; omega
  · rw [Int.mul_comm (nr a d) (2 * d), Int.mul_assoc]; omega
theorem few_squares : -17 ≤ nr (131072 * LL 314) 16777216 / 4294967296 := by decide +kernel
theorem square_near {x : Int} (h0 : 0 < x) (h1 : x ≤ 2147483648) : held (rsd x 131072) ≤ held (nr (x * x) 65536) + 1 ∧ held (nr (x * x) 65536) ≤ held (rsd x 131072) + 1 := by
  unfold rsd
  obtain ⟨l0, l1⟩ := LL_in (x := x.toNat) (by omega) (by omega)
  obtain ⟨n1, n2⟩ := nr_is (131072 * LL x.toNat) 16777216 (by decide)
  have hs0 : 0 < x * x := Int.mul_pos h0 h0
  by_cases hw : -17 ≤ nr (131072 * LL x.toNat) 16777216 / 4294967296
  · generalize nr (131072 * LL x.toNat) 16777216 = e at *
    obtain ⟨F, hF⟩ : ∃ F : Nat, F = 1099511627776 := ⟨_, rfl⟩
    obtain ⟨z, hz⟩ : ∃ z : Nat, (z : Int) = 256 * e + 17 * (F : Int) := ⟨(256 * e + 17 * (F : Int)).toNat, by omega⟩
    obtain ⟨l, hl⟩ : ∃ l : Nat, (l : Int) = LL x.toNat + 17 * (F : Int) := ⟨(LL x.toNat + 17 * (F : Int)).toNat, by omega⟩
    have a1 := AA_up hw hF hz
    have a2 := AA_lo hw hF hz
    obtain ⟨x1, x2⟩ := XX_of (x := x.toNat) (by omega) (by omega) hF hl
    have hzl : z + 17 * F ≤ 2 * l + 128 := by omega
    have hlz : 2 * l ≤ z + 17 * F + 128 := by omega
    have u := root33 hF (by decide) (square_up a1 x1 hzl)
    have v := root32 hF (by decide) (square_lo hF a2 x2 hlz)
    clear a1 a2 x1 x2 hz hl hzl hlz n1 n2
    have hxx : x.toNat * 9223372036854775808 * (x.toNat * 9223372036854775808) = x.toNat * x.toNat * 85070591730234615865843651857942052864 := by
      rw [Nat.mul_mul_mul_comm]
    rw [hxx] at u v
    have hcast : ((x.toNat * x.toNat : Nat) : Int) = x * x := by rw [Int.natCast_mul, show ((x.toNat : Nat) : Int) = x by omega]
    rw [← hcast] at hs0 ⊢
    generalize x.toNat * x.toNat = s at *
    obtain ⟨k1, k2, k3⟩ := NN_is e
    rw [(two_NN hw).1, nr_floor _ (by decide)]
    generalize NN e = N at *
    generalize AA e = A at *
    clear hxx hcast hw l0 l1
    by_cases hb : s ≤ 140737488355328
    · exact held_near (by omega) (by omega)
    · have q1 : 2147483647 ≤ N := by omega
      have q2 : 2147483647 ≤ (2 * (s : Int) + 65536) / (2 * 65536) := by omega
      generalize (2 * (s : Int) + 65536) / (2 * 65536) = R at *
      unfold held
      split <;> split <;> (try split) <;> (try split) <;> omega
  · have hx : x ≤ 313 := by
      rcases Int.lt_or_le x 314 with g | g
      · omega
      · exfalso
        have m1 : LL 314 ≤ LL x.toNat := LL_le (by decide) (by omega)
        have m2 := nr_le (d := 16777216) (by decide) (show 131072 * LL 314 ≤ 131072 * LL x.toNat by omega)
        have m3 := few_squares
        omega
    have e0 : two (nr (131072 * LL x.toNat) 16777216) = 0 := by
      unfold two nst
      rw [if_neg (by omega), if_pos (by omega)]
    rw [e0, nr_floor _ (by decide)]
    have hs1 : x * x ≤ 313 * 313 := Int.mul_le_mul hx hx (by omega) (by decide)
    generalize x * x = s at *
    exact held_near (by omega) (by omega)
theorem quot_up {F A X z l m : Nat} (hF : F = 1099511627776) (ha : A ^ F ≤ 4611686018427387904 ^ F * 2 ^ z) (hx : X ^ F ≤ 2 ^ (l + 1) * 4611686018427387905 ^ F) (h : z + l ≤ 34 * F + m) : (A * X) ^ F ≤ 2 ^ (m + 2) * (4611686018427387904 * 4611686018427387904 * 17179869184) ^ F := by
  have hc := near_c hF (k := 1) (by decide)
  rw [Nat.pow_one, Nat.pow_one] at hc
  have h1 : 2 ^ (z + (l + 1)) ≤ 2 ^ (34 * F + (m + 1)) := Nat.pow_le_pow_right (by decide) (by omega)
  rw [Nat.pow_add 2 z, Nat.pow_add 2 (34 * F), Nat.pow_mul 2 34 F] at h1
  rw [Nat.pow_succ 2 (m + 1), Nat.mul_pow, Nat.mul_pow, Nat.mul_pow, show (17179869184 : Nat) = 2 ^ 34 from rfl]
  generalize 4611686018427387904 ^ F = a at *
  generalize 4611686018427387905 ^ F = c at *
  generalize (2 ^ 34) ^ F = t at *
  generalize 2 ^ z = u at *
  generalize 2 ^ (l + 1) = v at *
  generalize 2 ^ (m + 1) = w at *
  generalize A ^ F = p at *
  generalize X ^ F = x at *
  calc p * x ≤ a * u * (v * c) := Nat.mul_le_mul ha hx
    _ ≤ a * u * (v * (2 * a)) := Nat.mul_le_mul_left _ (Nat.mul_le_mul_left _ hc)
    _ = u * v * (2 * a * a) := by ac_rfl
    _ ≤ t * w * (2 * a * a) := Nat.mul_le_mul_right _ h1
    _ = w * 2 * (a * a * t) := by ac_rfl
theorem quot_lo {F A X z l m : Nat} (hF : F = 1099511627776) (ha : 4611686018427387904 ^ F * 2 ^ z * (4611686018427387904 ^ F) ^ 96 ≤ A ^ F * (4611686018427387905 ^ F) ^ 96) (hx : 4611686018427387904 ^ F * 2 ^ l ≤ X ^ F) (h : 34 * F ≤ z + l + m) : (4611686018427387904 * 4611686018427387904 * 17179869184) ^ F ≤ 2 ^ (m + 1) * (A * X) ^ F := by
  have hc := near_c hF (k := 96) (by decide)
  have sp : 0 < (4611686018427387904 ^ F) ^ 96 := Nat.pow_pos (Nat.pow_pos (by decide))
  have h1 : 2 ^ (34 * F) ≤ 2 ^ (z + l + m) := Nat.pow_le_pow_right (by decide) h
  rw [Nat.pow_add 2 (z + l), Nat.pow_add 2 z, Nat.pow_mul 2 34 F] at h1
  rw [Nat.pow_succ 2 m, Nat.mul_pow, Nat.mul_pow, Nat.mul_pow, show (17179869184 : Nat) = 2 ^ 34 from rfl]
  generalize 4611686018427387904 ^ F = a at *
  generalize 4611686018427387905 ^ F = c at *
  generalize (2 ^ 34) ^ F = t at *
  generalize a ^ 96 = an at *
  generalize c ^ 96 = cn at *
  generalize 2 ^ z = u at *
  generalize 2 ^ l = v at *
  generalize 2 ^ m = w at *
  generalize A ^ F = p at *
  generalize X ^ F = x at *
  refine Nat.le_of_mul_le_mul_right (c := an) ?_ sp
  calc a * a * t * an ≤ a * a * (u * v * w) * an := Nat.mul_le_mul_right _ (Nat.mul_le_mul_left _ h1)
    _ = a * u * an * (w * (a * v)) := by ac_rfl
    _ ≤ p * cn * (w * x) := Nat.mul_le_mul ha (Nat.mul_le_mul_left _ hx)
    _ = cn * (p * (w * x)) := by ac_rfl
    _ ≤ 2 * an * (p * (w * x)) := Nat.mul_le_mul_right _ hc
    _ = w * 2 * (p * x) * an := by ac_rfl
theorem quot_near {x : Int} (h0 : 0 < x) (h1 : x ≤ 2147483648) : ∃ N : Int, held (rsd x (-65536)) = held N ∧ held (-rsd x (-65536)) = held (-N) ∧ 2 * (N * x) ≤ 8589934592 + 2 + x ∧ 8589934592 < 2 * (N * x) + 2 + x := by
  unfold rsd
  obtain ⟨l0, l1⟩ := LL_in (x := x.toNat) (by omega) (by omega)
  obtain ⟨n1, n2⟩ := nr_is (-65536 * LL x.toNat) 16777216 (by decide)
  generalize nr (-65536 * LL x.toNat) 16777216 = e at *
  have hw : -17 ≤ e / 4294967296 := by omega
  obtain ⟨F, hF⟩ : ∃ F : Nat, F = 1099511627776 := ⟨_, rfl⟩
  obtain ⟨z, hz⟩ : ∃ z : Nat, (z : Int) = 256 * e + 17 * (F : Int) := ⟨(256 * e + 17 * (F : Int)).toNat, by omega⟩
  obtain ⟨l, hl⟩ : ∃ l : Nat, (l : Int) = LL x.toNat + 17 * (F : Int) := ⟨(LL x.toNat + 17 * (F : Int)).toNat, by omega⟩
  have a1 := AA_up hw hF hz
  have a2 := AA_lo hw hF hz
  obtain ⟨x1, x2⟩ := XX_of (x := x.toNat) (by omega) (by omega) hF hl
  have hzl : z + l ≤ 34 * F + 128 := by omega
  have hlz : 34 * F ≤ z + l + 128 := by omega
  have u := root32 hF (by decide) (quot_up hF a1 x2 hzl)
  have v := root32 hF (by decide) (quot_lo hF a2 x1 hlz)
  clear a1 a2 x1 x2 hz hl hzl hlz n1 n2
  obtain ⟨k1, k2, k3⟩ := NN_is e
  obtain ⟨t1, t2, _⟩ := two_NN hw
  refine ⟨NN e, t1, t2, ?_⟩
  clear t1 t2 hw l0 l1
  rw [← Nat.mul_assoc] at u v
  have hcast : ((AA e * x.toNat : Nat) : Int) = (AA e : Int) * x := by rw [Int.natCast_mul, show ((x.toNat : Nat) : Int) = x by omega]
  have j1 := Int.mul_le_mul_of_nonneg_right k1 (Int.le_of_lt h0)
  have j2 := Int.mul_lt_mul_of_pos_right k2 h0
  rw [Int.add_mul, Int.mul_assoc] at j1
  rw [Int.add_mul, Int.add_mul, Int.mul_assoc] at j2
  rw [← hcast] at j1 j2
  generalize AA e * x.toNat = P at *
  generalize NN e * x = Q at *
  clear k1 k2 k3 hcast
  omega
end Go.Proofs.YtbkifcfienhkaaaDoor
