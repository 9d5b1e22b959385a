/- Bits as numbers: plain arithmetic that names no program. -/
import Derived.WalkKit
namespace Go.Proofs.YtemcppakmcffgaaDoor
set_option linter.unusedVariables false

/-- The number whose bits are those of β from 'at' on, n of them, the highest first. -/
def nb (β : Nat → Int) (p : Nat) : Nat → Int
  | 0 => 0
  | n + 1 => 2 * nb β p n + β (p + n)
def Bits (β : Nat → Int) : Prop := ∀ i, β i = 0 ∨ β i = 1
theorem pow_pos2 (n : Nat) : (0 : Int) < 2 ^ n := Int.pow_pos (by decide)
theorem pow_succ2 (n : Nat) : (2 : Int) ^ (n + 1) = 2 * 2 ^ n := by rw [Int.pow_succ, Int.mul_comm]
theorem pow_add2 (m n : Nat) : (2 : Int) ^ (m + n) = 2 ^ m * 2 ^ n := Int.pow_add 2 m n
theorem pow_le2 {m n : Nat} (h : m ≤ n) : (2 : Int) ^ m ≤ 2 ^ n := by
  obtain ⟨k, rfl⟩ := Nat.exists_eq_add_of_le h
  rw [pow_add2]
  have h1 := pow_pos2 m
  have h2 : (1 : Int) ≤ 2 ^ k := pow_pos2 k
  have := Int.mul_le_mul_of_nonneg_left h2 (Int.le_of_lt h1)
  omega
theorem nb_zero (β : Nat → Int) (p : Nat) : nb β p 0 = 0 := rfl
theorem nb_succ (β : Nat → Int) (p n : Nat) : nb β p (n + 1) = 2 * nb β p n + β (p + n) := rfl
theorem nb_in {β : Nat → Int} (h : Bits β) (p n : Nat) : 0 ≤ nb β p n ∧ nb β p n < 2 ^ n := by
  induction n with
  | zero => rw [nb_zero]; exact ⟨by decide, by decide⟩
  | succ n ih => rw [nb_succ, pow_succ2]; rcases h (p + n) with e | e <;> rw [e] <;> omega
theorem nb_add (β : Nat → Int) (p m k : Nat) : nb β p (m + k) = nb β p m * 2 ^ k + nb β (p + m) k := by
  induction k with
  | zero => simp [nb_zero]
  | succ k ih =>
    rw [← Nat.add_assoc, nb_succ, ih, nb_succ, pow_succ2, Nat.add_assoc]
    generalize nb β p m = a
    generalize (2 : Int) ^ k = c
    generalize nb β (p + m) k = d
    rw [Int.mul_add, show a * (2 * c) = 2 * (a * c) by ac_rfl]
    omega
theorem nb_congr {β γ : Nat → Int} (p n : Nat) (h : ∀ i, p ≤ i → i < p + n → β i = γ i) : nb β p n = nb γ p n := by
  induction n with
  | zero => rfl
  | succ n ih => rw [nb_succ, nb_succ, ih (fun i h1 h2 => h i h1 (by omega)), h (p + n) (by omega) (by omega)]
/-- Doubling, and one bit more. -/
theorem mod_two (y m : Int) (hm : 0 < m) : y % (2 * m) = 2 * (y / 2 % m) + y % 2 := by
  have h1 := Int.emod_add_mul_ediv (y / 2) m
  have h2 := Int.emod_add_mul_ediv y 2
  have h3 := Int.emod_nonneg (y / 2) (Int.ne_of_gt hm)
  have h4 := Int.emod_lt_of_pos (y / 2) hm
  have e : y = (2 * (y / 2 % m) + y % 2) + 2 * m * (y / 2 / m) := by
    rw [Int.mul_assoc]; omega
  have h5 : (2 * (y / 2 % m) + y % 2) % (2 * m) = 2 * (y / 2 % m) + y % 2 := Int.emod_eq_of_lt (by omega) (by omega)
  calc y % (2 * m) = ((2 * (y / 2 % m) + y % 2) + 2 * m * (y / 2 / m)) % (2 * m) := by rw [← e]
    _ = (2 * (y / 2 % m) + y % 2) % (2 * m) := Int.add_mul_emod_self_left _ _ _
    _ = _ := h5
theorem div_two (x : Int) (k : Nat) : x / 2 ^ (k + 1) = x / 2 ^ k / 2 := by
  rw [Int.pow_succ, Int.ediv_ediv_of_nonneg (Int.le_of_lt (pow_pos2 k))]
/-- Bits that are those of a number, the highest first. -/
theorem nb_of {β : Nat → Int} (x : Int) (p c : Nat) : ∀ k, k ≤ c → (∀ j, j < k → β (p + j) = x / 2 ^ (c - 1 - j) % 2) → nb β p k = x / 2 ^ (c - k) % 2 ^ k := by
  intro k
  induction k with
  | zero => intro _ _; rw [nb_zero, Int.pow_zero, Int.emod_one]
  | succ k ih =>
    intro hk h
    rw [nb_succ, ih (by omega) (fun j hj => h j (by omega)), h k (by omega), pow_succ2, mod_two _ _ (pow_pos2 k), show c - k = c - (k + 1) + 1 by omega, div_two, show c - 1 - k = c - (k + 1) by omega]
/-- The bits of bytes. -/
def bt (f : Nat → Int) (i : Nat) : Int := f (i / 8) / 2 ^ (7 - i % 8) % 2
theorem bt_bits (f : Nat → Int) : Bits (bt f) := fun i => by unfold bt; omega
theorem nb_bt (f : Nat → Int) (p k : Nat) (h : p % 8 + k ≤ 8) : nb (bt f) p k = f (p / 8) / 2 ^ (8 - p % 8 - k) % 2 ^ k :=
  nb_of (f (p / 8)) p (8 - p % 8) k (by omega) fun j hj => by
    unfold bt
    rw [show (p + j) / 8 = p / 8 by omega, show 7 - (p + j) % 8 = 8 - p % 8 - 1 - j by omega]
theorem nb_byte {f : Nat → Int} (p : Nat) (h : 0 ≤ f p ∧ f p < 256) : nb (bt f) (8 * p) 8 = f p := by
  rw [nb_bt f (8 * p) 8 (by omega), show 8 * p / 8 = p by omega, show 8 - 8 * p % 8 - 8 = 0 by omega]
  simp; omega
/-- A piece out of a number of bits. -/
theorem nb_piece {β : Nat → Int} (hb : Bits β) (p j k r : Nat) : nb β p (j + k + r) / 2 ^ r % 2 ^ k = nb β (p + j) k := by
  rw [nb_add, nb_add β p j k]
  have h1 := nb_in hb (p + (j + k)) r
  have h2 := nb_in hb (p + j) k
  rw [Int.add_comm, Int.add_mul_ediv_right _ _ (Int.ne_of_gt (pow_pos2 r)), Int.ediv_eq_zero_of_lt h1.1 h1.2, Int.zero_add, Int.add_comm, Int.add_mul_emod_self_right]
  exact Int.emod_eq_of_lt h2.1 h2.2
/-- A number's bits, behind others. -/
def ex (β : Nat → Int) (n : Nat) (v : Int) (k : Nat) (i : Nat) : Int := if i < n then β i else v / 2 ^ (n + k - 1 - i) % 2
theorem ex_lt (β : Nat → Int) (n : Nat) (v : Int) (k : Nat) {i : Nat} (h : i < n) : ex β n v k i = β i := if_pos h
theorem ex_bits {β : Nat → Int} (h : Bits β) (n : Nat) (v : Int) (k : Nat) : Bits (ex β n v k) := fun i => by
  unfold ex
  split
  · exact h i
  · omega
theorem nb_ex (β : Nat → Int) (n : Nat) (v : Int) (k : Nat) (h0 : 0 ≤ v) (h1 : v < 2 ^ k) : nb (ex β n v k) n k = v := by
  rw [nb_of v n k k (Nat.le_refl _) (fun j hj => by unfold ex; rw [if_neg (by omega), show n + k - 1 - (n + j) = k - 1 - j by omega]), Nat.sub_self, Int.pow_zero, Int.ediv_one]
  exact Int.emod_eq_of_lt h0 h1
theorem nb_ex_lt (β : Nat → Int) (n : Nat) (v : Int) (k : Nat) {p m : Nat} (h : p + m ≤ n) : nb (ex β n v k) p m = nb β p m := nb_congr _ _ fun i h1 h2 => ex_lt _ _ _ _ (by omega)
/-- Noughts behind the last bit. -/
def zb (β : Nat → Int) (n i : Nat) : Int := if i < n then β i else 0
theorem zb_bits {β : Nat → Int} (h : Bits β) (n : Nat) : Bits (zb β n) := fun i => by unfold zb; split; exact h i; exact .inl rfl
theorem nb_zb {β : Nat → Int} (n p m : Nat) (h : p + m ≤ n) : nb (zb β n) p m = nb β p m := nb_congr _ _ fun i h1 h2 => if_pos (by omega)
theorem nb_noughts {β : Nat → Int} (p m : Nat) (h : ∀ i, p ≤ i → i < p + m → β i = 0) : nb β p m = 0 := by
  induction m with
  | zero => rfl
  | succ m ih => rw [nb_succ, ih (fun i h1 h2 => h i h1 (by omega)), h (p + m) (by omega) (by omega)]; rfl
/-- The last byte of a row: with noughts. -/
theorem nb_last {β : Nat → Int} (n p j : Nat) (hj : j ≤ 8) (hn : p + j = n) : nb (zb β n) p 8 = nb β p j * 2 ^ (8 - j) := by
  have := nb_add (zb β n) p j (8 - j)
  rw [show j + (8 - j) = 8 by omega] at this
  rw [this, nb_zb n p j (by omega), nb_noughts (β := zb β n) (p + j) (8 - j) (fun i h1 h2 => if_neg (by omega))]
  omega
/-- The bits of the bytes of a row are the row's. -/
theorem bt_nb {β : Nat → Int} (hb : Bits β) (i : Nat) : bt (fun q => nb β (8 * q) 8) i = β i := by
  unfold bt
  have h := nb_piece hb (8 * (i / 8)) (i % 8) 1 (7 - i % 8)
  rw [show i % 8 + 1 + (7 - i % 8) = 8 by omega, show 8 * (i / 8) + i % 8 = i by omega] at h
  have e : nb β i 1 = β i := by rw [nb_succ, nb_zero]; simp
  rw [e] at h
  exact h
theorem nb_bt_nb {β : Nat → Int} (hb : Bits β) (p n : Nat) : nb (bt (fun q => nb β (8 * q) 8)) p n = nb β p n := nb_congr _ _ fun i _ _ => bt_nb hb i
theorem bt_congr {f g : Nat → Int} {i : Nat} (h : f (i / 8) = g (i / 8)) : bt f i = bt g i := by unfold bt; rw [h]
theorem nb_bt_congr {f g : Nat → Int} {L p n : Nat} (h : ∀ i, i < L → f i = g i) (hn : p + n ≤ 8 * L) : nb (bt f) p n = nb (bt g) p n :=
  nb_congr _ _ fun i h1 h2 => bt_congr (h _ (by omega))
/-- A bit that is set where there was nought. -/
theorem or_add {a b : Int} {k : Nat} (ha : 0 ≤ a) (hb0 : 0 ≤ b) (hb : b < 2 ^ k) : (((a * 2 ^ k).toNat ||| b.toNat : Nat) : Int) = a * 2 ^ k + b := by
  obtain ⟨m, rfl⟩ := Int.eq_ofNat_of_zero_le ha
  obtain ⟨c, rfl⟩ := Int.eq_ofNat_of_zero_le hb0
  have hc : c < 2 ^ k := by
    have : ((c : Nat) : Int) < ((2 ^ k : Nat) : Int) := by push_cast; exact hb
    omega
  have e : ((m : Int) * 2 ^ k).toNat = 2 ^ k * m := by
    rw [show ((m : Int) * 2 ^ k) = ((2 ^ k * m : Nat) : Int) by push_cast; rw [Int.mul_comm]]; rfl
  rw [e, Int.toNat_natCast, ← Nat.two_pow_add_eq_or_of_lt hc m]
  push_cast
  rw [Int.mul_comm]
end Go.Proofs.YtemcppakmcffgaaDoor
