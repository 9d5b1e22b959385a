/- How near a power, in 65536ths, is to what it stands for: by roots of whole numbers. Plain arithmetic. -/
import Derived.Test.YtbkifcfienhkaaaDoorPowX
namespace Go.Proofs.YtbkifcfienhkaaaDoor
set_option linter.unusedVariables false
theorem pow_shrink (n : Nat) : ∀ M, M ≤ n + 1 → (n + 1) ^ M * (n + 1 - M) ≤ n ^ M * (n + 1)
  | 0, _ => by rw [Nat.pow_zero, Nat.pow_zero]; omega
  | M + 1, h => by
    have ih := pow_shrink n M (by omega)
    obtain ⟨j, rfl⟩ : ∃ j, n = M + j := ⟨n - M, by omega⟩
    rw [show M + j + 1 - M = j + 1 by omega] at ih
    rw [show M + j + 1 - (M + 1) = j by omega, Nat.pow_succ, Nat.pow_succ]
    have h1 : (M + j + 1) * j ≤ (M + j) * (j + 1) := by
      rw [Nat.add_mul (M + j) 1 j, Nat.mul_add (M + j) j 1]; omega
    generalize (M + j + 1) ^ M = a at *
    generalize (M + j) ^ M = b at *
    calc a * (M + j + 1) * j = a * ((M + j + 1) * j) := Nat.mul_assoc _ _ _
      _ ≤ a * ((M + j) * (j + 1)) := Nat.mul_le_mul_left _ h1
      _ = a * (j + 1) * (M + j) := by ac_rfl
      _ ≤ b * (M + j + 1) * (M + j) := Nat.mul_le_mul_right _ ih
      _ = b * (M + j) * (M + j + 1) := by ac_rfl
theorem pow_close (n M : Nat) (h : 2 * M ≤ n + 1) : (n + 1) ^ M ≤ 2 * n ^ M := by
  have h1 := pow_shrink n M (by omega)
  generalize (n + 1) ^ M = a at *
  generalize n ^ M = b at *
  refine Nat.le_of_mul_le_mul_right (c := n + 1) ?_ (by omega)
  calc a * (n + 1) ≤ a * (2 * (n + 1 - M)) := Nat.mul_le_mul_left _ (by omega)
    _ = 2 * (a * (n + 1 - M)) := by ac_rfl
    _ ≤ 2 * (b * (n + 1)) := Nat.mul_le_mul_left _ h1
    _ = 2 * b * (n + 1) := (Nat.mul_assoc _ _ _).symm
theorem pow_grow (n : Nat) : ∀ M, n ^ M * (n + M) ≤ n * (n + 1) ^ M
  | 0 => by rw [Nat.pow_zero, Nat.pow_zero]; omega
  | M + 1 => by
    have ih := pow_grow n M
    rw [Nat.pow_succ, Nat.pow_succ]
    have h1 : n * (n + (M + 1)) ≤ (n + M) * (n + 1) := by
      rw [Nat.mul_add (n + M) n 1, Nat.add_mul n M n, Nat.mul_add n n, Nat.mul_add n M 1, Nat.mul_comm M n]; omega
    generalize n ^ M = a at *
    generalize (n + 1) ^ M = b at *
    calc a * n * (n + (M + 1)) = a * (n * (n + (M + 1))) := Nat.mul_assoc _ _ _
      _ ≤ a * ((n + M) * (n + 1)) := Nat.mul_le_mul_left _ h1
      _ = a * (n + M) * (n + 1) := (Nat.mul_assoc _ _ _).symm
      _ ≤ n * b * (n + 1) := Nat.mul_le_mul_right _ ih
      _ = n * (b * (n + 1)) := Nat.mul_assoc _ _ _
theorem pow_two_le (n : Nat) (h : 0 < n) : 2 ^ 1 * n ^ n ≤ (n + 1) ^ n := by
  have := pow_grow n n
  refine Nat.le_of_mul_le_mul_left (c := n) ?_ h
  calc n * (2 ^ 1 * n ^ n) = n ^ n * (n + n) := by rw [Nat.pow_one, ← Nat.two_mul]; ac_rfl
    _ ≤ n * (n + 1) ^ n := this
theorem rootG {c d q n j F m V W : Nat} (hF : F = q * j) (hF0 : F ≠ 0) (h : 2 ^ n * d ^ q ≤ c ^ q) (hm : m ≤ n * j) (hv : V ^ F ≤ 2 ^ m * W ^ F) : V * d ≤ W * c := by
  refine (Nat.pow_le_pow_iff_left hF0).1 ?_
  rw [Nat.mul_pow, Nat.mul_pow]
  have h1 : 2 ^ m ≤ 2 ^ (n * j) := Nat.pow_le_pow_right (by decide) hm
  have h2 : 2 ^ (n * j) * d ^ F ≤ c ^ F := by
    rw [hF, Nat.pow_mul, Nat.pow_mul, Nat.pow_mul, ← Nat.mul_pow]
    exact Nat.pow_le_pow_left h j
  generalize V ^ F = v at *
  generalize W ^ F = w at *
  generalize d ^ F = D at *
  generalize c ^ F = C at *
  generalize 2 ^ m = x at *
  generalize 2 ^ (n * j) = y at *
  calc v * D ≤ x * w * D := Nat.mul_le_mul_right _ hv
    _ ≤ y * w * D := Nat.mul_le_mul_right _ (Nat.mul_le_mul_right _ h1)
    _ = w * (y * D) := by ac_rfl
    _ ≤ w * C := Nat.mul_le_mul_left _ h2
/-- So many small parts more or less matter as little. -/
theorem near_c {F k : Nat} (hF : F = 1099511627776) (hk : k ≤ 200) : (4611686018427387905 ^ F) ^ k ≤ 2 * (4611686018427387904 ^ F) ^ k := by
  rw [← Nat.pow_mul, ← Nat.pow_mul]
  refine pow_close 4611686018427387904 (F * k) ?_
  have : F * k ≤ F * 200 := Nat.mul_le_mul_left _ hk
  omega
/-- 2 to the power of e 2^-32s, in 2^-79s. -/
def AA (e : Int) : Nat := PP (e % 4294967296).toNat * 2 ^ (e / 4294967296 + 17).toNat
theorem two_AA {e : Int} (h : -17 ≤ e / 4294967296) : two e = if (AA e + 4611686018427387904) / 9223372036854775808 ≤ 2147483648 then (((AA e + 4611686018427387904) / 9223372036854775808 : Nat) : Int) else 2147483648 := by
  have l1 := PP_lt (e % 4294967296).toNat
  have l2 := PP_ge (e % 4294967296).toNat
  unfold two AA
  by_cases h1 : e / 4294967296 ≤ 14
  · rw [nst_mid _ h h1]
    have hk : (e / 4294967296 + 17).toNat ≤ 31 := by omega
    have hp : 2 ^ (e / 4294967296 + 17).toNat ≤ 2 ^ 31 := Nat.pow_le_pow_right (by decide) hk
    have hm : PP (e % 4294967296).toNat * 2 ^ (e / 4294967296 + 17).toNat ≤ 9223372036854775808 * 2147483648 := Nat.mul_le_mul (by omega) hp
    generalize PP (e % 4294967296).toNat * 2 ^ (e / 4294967296 + 17).toNat = a at *
    rw [if_pos (by omega)]
  · have e1 : nst (PP (e % 4294967296).toNat) (e / 4294967296) = 2147483648 := by unfold nst; rw [if_pos (by omega)]
    have hp : 2 ^ 32 ≤ 2 ^ (e / 4294967296 + 17).toNat := Nat.pow_le_pow_right (by decide) (by omega)
    have hm : 4611686018427387904 * 4294967296 ≤ PP (e % 4294967296).toNat * 2 ^ (e / 4294967296 + 17).toNat := Nat.mul_le_mul l2 hp
    generalize PP (e % 4294967296).toNat * 2 ^ (e / 4294967296 + 17).toNat = a at *
    rw [e1]
    split
    · omega
    · rfl
theorem AA_pow {F : Nat} {e : Int} (h : -17 ≤ e / 4294967296) {z : Nat} (hF : F = 1099511627776) (hz : (z : Int) = 256 * e + 17 * (F : Int)) : z = (e % 4294967296).toNat * 256 + (e / 4294967296 + 17).toNat * F := by
  have : ((e / 4294967296 + 17).toNat : Int) = e / 4294967296 + 17 := by omega
  have : (((e / 4294967296 + 17).toNat * F : Nat) : Int) = (e / 4294967296 + 17) * 1099511627776 := by rw [Int.natCast_mul, this, hF]; rfl
  omega
theorem AA_up {F : Nat} {e : Int} (h : -17 ≤ e / 4294967296) {z : Nat} (hF : F = 1099511627776) (hz : (z : Int) = 256 * e + 17 * (F : Int)) : AA e ^ F ≤ 4611686018427387904 ^ F * 2 ^ z := by
  rw [AA_pow h hF hz]
  obtain ⟨E, hE⟩ : ∃ E : Nat, E = 4294967296 := ⟨_, rfl⟩
  have hEF : F = E * 256 := by omega
  have h1 := PP_up hE (f := (e % 4294967296).toNat) (by omega)
  unfold AA
  have h2 := Nat.pow_le_pow_left h1 256
  rw [Nat.mul_pow, ← Nat.pow_mul, ← Nat.pow_mul, ← Nat.pow_mul, ← hEF] at h2
  rw [Nat.mul_pow, ← Nat.pow_mul, Nat.pow_add, ← Nat.mul_assoc]
  exact Nat.mul_le_mul_right _ h2
theorem pow_swap (a m n : Nat) : (a ^ m) ^ n = (a ^ n) ^ m := by rw [← Nat.pow_mul, ← Nat.pow_mul, Nat.mul_comm]
theorem AA_lo {F : Nat} {e : Int} (h : -17 ≤ e / 4294967296) {z : Nat} (hF : F = 1099511627776) (hz : (z : Int) = 256 * e + 17 * (F : Int)) : 4611686018427387904 ^ F * 2 ^ z * (4611686018427387904 ^ F) ^ 96 ≤ AA e ^ F * (4611686018427387905 ^ F) ^ 96 := by
  rw [AA_pow h hF hz]
  obtain ⟨E, hE⟩ : ∃ E : Nat, E = 4294967296 := ⟨_, rfl⟩
  have hEF : F = E * 256 := by omega
  have h1 := PP_lo hE (f := (e % 4294967296).toNat) (by omega)
  unfold AA
  have h2 := Nat.pow_le_pow_left h1 256
  rw [Nat.mul_pow, Nat.mul_pow, Nat.mul_pow] at h2
  rw [pow_swap (4611686018427387904 ^ E) 96 256, pow_swap (4611686018427387905 ^ E) 96 256] at h2
  rw [← Nat.pow_mul 4611686018427387904 E 256, ← Nat.pow_mul 2, ← Nat.pow_mul (PP _) E 256, ← Nat.pow_mul 4611686018427387905 E 256, ← hEF] at h2
  rw [Nat.mul_pow, ← Nat.pow_mul 2, Nat.pow_add]
  generalize 4611686018427387904 ^ F = a at *
  generalize 4611686018427387905 ^ F = c at *
  generalize PP (e % 4294967296).toNat ^ F = p at *
  generalize 2 ^ ((e % 4294967296).toNat * 256) = u at *
  generalize 2 ^ ((e / 4294967296 + 17).toNat * F) = r at *
  generalize a ^ 96 = an at *
  generalize c ^ 96 = cn at *
  calc a * (u * r) * an = a * u * an * r := by ac_rfl
    _ ≤ p * cn * r := Nat.mul_le_mul_right _ h2
    _ = p * r * cn := by ac_rfl
theorem XX_of {x : Nat} (h0 : 0 < x) (h1 : x ≤ 2147483648) {F : Nat} (hF : F = 1099511627776) {l : Nat} (hl : (l : Int) = LL x + 17 * (F : Int)) : 4611686018427387904 ^ F * 2 ^ l ≤ (x * 9223372036854775808) ^ F ∧ (x * 9223372036854775808) ^ F ≤ 2 ^ (l + 1) * 4611686018427387905 ^ F := by
  obtain ⟨g1, g2⟩ := (Nat.log2_eq_iff (n := x) (k := x.log2) (by omega)).1 rfl
  have hk : x.log2 ≤ 31 := by
    rcases Nat.lt_or_ge x.log2 32 with h | h
    · omega
    · have : 2 ^ 32 ≤ 2 ^ x.log2 := Nat.pow_le_pow_right (by decide) h
      rw [show (2 : Nat) ^ 32 = 4294967296 from rfl] at this
      omega
  have hb := Bits.start g1 g2 hk
  obtain ⟨n, hn⟩ : ∃ n : Nat, n = 40 := ⟨_, rfl⟩
  have hFn : F = 2 ^ n := by rw [hF, hn]
  have lo := llb_lo n _ hb.2.2.1 hb.2.2.2.1
  have hi := llb_hi n _ hb.2.2.1 hb.2.2.2.1
  have eX : x * 9223372036854775808 = x * 2 ^ (62 - x.log2) * 2 ^ (x.log2 + 1) := by
    rw [Nat.mul_assoc, ← Nat.pow_add, show 62 - x.log2 + (x.log2 + 1) = 63 by omega]
  have el : l = llb n (x * 2 ^ (62 - x.log2)) + (x.log2 + 1) * F := by
    have e1 : LL x = ((x.log2 : Int) - 16) * (F : Int) + (llb n (x * 2 ^ (62 - x.log2)) : Int) := by
      unfold LL
      rw [← hn, lls_llb, hFn]
    rw [e1, Int.sub_mul] at hl
    have e2 : (((x.log2 + 1) * F : Nat) : Int) = (x.log2 : Int) * (F : Int) + (F : Int) := by rw [Int.natCast_mul, Int.natCast_add, Int.add_mul]; omega
    generalize (x.log2 : Int) * (F : Int) = t at *
    omega
  rw [← hFn] at lo hi
  rw [eX, Nat.mul_pow, ← Nat.pow_mul 2, el]
  generalize x * 2 ^ (62 - x.log2) = y at *
  rw [Nat.add_right_comm, Nat.pow_add 2 (llb n y + 1), Nat.pow_add 2 (llb n y) ((x.log2 + 1) * F)]
  generalize 4611686018427387904 ^ F = a at *
  generalize 4611686018427387905 ^ F = c at *
  generalize y ^ F = d at *
  generalize 2 ^ ((x.log2 + 1) * F) = r at *
  generalize 2 ^ llb n y = u at *
  generalize 2 ^ (llb n y + 1) = v at *
  refine ⟨?_, ?_⟩
  · calc a * (u * r) = u * a * r := by ac_rfl
      _ ≤ d * r := Nat.mul_le_mul_right _ lo
  · calc d * r ≤ v * c * r := Nat.mul_le_mul_right _ hi
      _ = v * r * c := by ac_rfl
end Go.Proofs.YtbkifcfienhkaaaDoor
