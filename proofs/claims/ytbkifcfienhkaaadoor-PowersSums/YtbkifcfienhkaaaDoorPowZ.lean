/- A number to the power of 1 is itself; its square, and its quotient of 1, as powers, are the nearest ones but for one 65536th. Plain arithmetic. -/
import Derived.Test.YtbkifcfienhkaaaDoorPowY
import Derived.Test.YtbkifcfienhkaaaDoorFixM
namespace Go.Proofs.YtbkifcfienhkaaaDoor
set_option linter.unusedVariables false
/-- So many 65536ths, not held. -/
def NN (e : Int) : Int := (((AA e + 4611686018427387904) / 9223372036854775808 : Nat) : Int)
theorem NN_is (e : Int) : 9223372036854775808 * NN e ≤ (AA e : Int) + 4611686018427387904 ∧ (AA e : Int) + 4611686018427387904 < 9223372036854775808 * NN e + 9223372036854775808 ∧ 0 ≤ NN e := by unfold NN; omega
theorem two_NN {e : Int} (h : -17 ≤ e / 4294967296) : held (two e) = held (NN e) ∧ held (-two e) = held (-NN e) ∧ (NN e ≤ 2147483648 → two e = NN e) := by
  have h1 := two_AA h
  unfold NN
  generalize (AA e + 4611686018427387904) / 9223372036854775808 = n at *
  by_cases g : n ≤ 2147483648
  · rw [if_pos g] at h1
    rw [h1]
    exact ⟨rfl, rfl, fun _ => rfl⟩
  · rw [if_neg g] at h1
    rw [h1]
    refine ⟨?_, ?_, fun k => by omega⟩
    · unfold held
      rw [if_neg (by omega), if_pos (by omega), if_neg (by omega), if_pos (by omega)]
    · unfold held
      rw [if_neg (by omega), if_neg (by omega), if_pos (by omega)]
theorem cmp_up {F A X z l m : Nat} (ha : A ^ F ≤ 4611686018427387904 ^ F * 2 ^ z) (hx : 4611686018427387904 ^ F * 2 ^ l ≤ X ^ F) (h : z ≤ l + m) : A ^ F ≤ 2 ^ m * X ^ F := by
  have h1 : 2 ^ z ≤ 2 ^ (l + m) := Nat.pow_le_pow_right (by decide) h
  rw [Nat.pow_add] at h1
  generalize 4611686018427387904 ^ F = a at *
  generalize 2 ^ z = u at *
  generalize 2 ^ l = v at *
  generalize 2 ^ m = w at *
  generalize A ^ F = p at *
  generalize X ^ F = x at *
  calc p ≤ a * u := ha
    _ ≤ a * (v * w) := Nat.mul_le_mul_left _ h1
    _ = w * (a * v) := by ac_rfl
    _ ≤ w * x := Nat.mul_le_mul_left _ hx
theorem cmp_lo {F A X z l m : Nat} (hF : F = 1099511627776) (ha : 4611686018427387904 ^ F * 2 ^ z * (4611686018427387904 ^ F) ^ 96 ≤ A ^ F * (4611686018427387905 ^ F) ^ 96) (hx : X ^ F ≤ 2 ^ (l + 1) * 4611686018427387905 ^ F) (h : l ≤ z + m) : X ^ F ≤ 2 ^ (m + 2) * A ^ F := by
  have hc := near_c hF (k := 97) (by decide)
  have sp : 0 < (4611686018427387904 ^ F) ^ 97 := Nat.pow_pos (Nat.pow_pos (by decide))
  have h1 : 2 ^ (l + 1) ≤ 2 ^ (z + (m + 1)) := Nat.pow_le_pow_right (by decide) (by omega)
  rw [Nat.pow_add 2 z] at h1
  rw [Nat.pow_succ _ 96, Nat.pow_succ _ 96] at hc
  rw [Nat.pow_succ _ 96] at sp
  rw [Nat.pow_succ 2 (m + 1)]
  generalize 4611686018427387904 ^ F = a at *
  generalize 4611686018427387905 ^ F = c at *
  generalize a ^ 96 = an at *
  generalize c ^ 96 = cn at *
  generalize 2 ^ z = u at *
  generalize 2 ^ (l + 1) = v at *
  generalize 2 ^ (m + 1) = w at *
  generalize A ^ F = p at *
  generalize X ^ F = x at *
  refine Nat.le_of_mul_le_mul_right (c := an * a) ?_ sp
  calc x * (an * a) ≤ v * c * (an * a) := Nat.mul_le_mul_right _ hx
    _ ≤ u * w * c * (an * a) := Nat.mul_le_mul_right _ (Nat.mul_le_mul_right _ h1)
    _ = a * u * an * (w * c) := by ac_rfl
    _ ≤ p * cn * (w * c) := Nat.mul_le_mul_right _ ha
    _ = cn * c * (w * p) := by ac_rfl
    _ ≤ 2 * (an * a) * (w * p) := Nat.mul_le_mul_right _ hc
    _ = w * 2 * p * (an * a) := by ac_rfl
/-- From powers to what was raised: a part in q, where 2 fits so often. -/
theorem root1 {F q j m V W : Nat} (hq : 0 < q) (hF : F = q * j) (hF0 : F ≠ 0) (hm : m ≤ j) (h : V ^ F ≤ 2 ^ m * W ^ F) : V * q ≤ W * (q + 1) :=
  rootG (n := 1) hF hF0 (pow_two_le q hq) (by omega) h
theorem root33 {F m V W : Nat} (hF : F = 1099511627776) (hm : m ≤ 128) (h : V ^ F ≤ 2 ^ m * W ^ F) : V * 8589934592 ≤ W * 8589934593 := by
  obtain ⟨q, hq⟩ : ∃ q : Nat, q = 8589934592 := ⟨_, rfl⟩
  have := root1 (q := q) (j := 128) (by omega) (by omega) (by omega) hm h
  rw [hq] at this
  exact this
theorem root32 {F m V W : Nat} (hF : F = 1099511627776) (hm : m ≤ 256) (h : V ^ F ≤ 2 ^ m * W ^ F) : V * 4294967296 ≤ W * 4294967297 := by
  obtain ⟨q, hq⟩ : ∃ q : Nat, q = 4294967296 := ⟨_, rfl⟩
  have := root1 (q := q) (j := 256) (by omega) (by omega) (by omega) hm h
  rw [hq] at this
  exact this
theorem pow_one {x : Int} (h0 : 0 < x) (h1 : x ≤ 2147483648) : rsd x 65536 = x := by
  unfold rsd
  obtain ⟨l0, l1⟩ := LL_in (x := x.toNat) (by omega) (by omega)
  obtain ⟨n1, n2⟩ := nr_is (65536 * LL x.toNat) 16777216 (by decide)
  generalize nr (65536 * LL x.toNat) 16777216 = e at *
  have hw : -17 ≤ e / 4294967296 := by omega
  obtain ⟨F, hF⟩ : ∃ F : Nat, F = 1099511627776 := ⟨_, rfl⟩
  obtain ⟨z, hz⟩ : ∃ z : Nat, (z : Int) = 256 * e + 17 * (F : Int) := ⟨(256 * e + 17 * (F : Int)).toNat, by omega⟩
  obtain ⟨l, hl⟩ : ∃ l : Nat, (l : Int) = LL x.toNat + 17 * (F : Int) := ⟨(LL x.toNat + 17 * (F : Int)).toNat, by omega⟩
  have a1 := AA_up hw hF hz
  have a2 := AA_lo hw hF hz
  obtain ⟨x1, x2⟩ := XX_of (x := x.toNat) (by omega) (by omega) hF hl
  have hzl : z ≤ l + 128 := by omega
  have hlz : l ≤ z + 128 := by omega
  have u := root33 hF (by decide) (cmp_up a1 x1 hzl)
  have v := root32 hF (by decide) (cmp_lo hF a2 x2 hlz)
  clear a1 a2 x1 x2
  have hN := NN_is e
  have hx : NN e = x := by omega
  have := (two_NN hw).2.2 (by omega)
  omega
end Go.Proofs.YtbkifcfienhkaaaDoor
