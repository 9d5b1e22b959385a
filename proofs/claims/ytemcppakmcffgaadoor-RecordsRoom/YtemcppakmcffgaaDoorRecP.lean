/- Vertices as bits: plain arithmetic. What is put is got; what is got is put as the same bits. -/
import Derived.Test.YtemcppakmcffgaaDoorRecBC
namespace Go.Proofs.YtemcppakmcffgaaDoor
open Go.RowKit Go.BigFrame
set_option linter.unusedSimpArgs false
set_option linter.unusedVariables false
/-- Has a vertex room? -/
structure Room (fl c p n : Nat) (R : Rcd) : Prop where
  f : 0 ≤ R.f ∧ R.f < 2 ^ fl
  x : 0 ≤ R.x ∧ R.x < 2 ^ c
  y : 0 ≤ R.y ∧ R.y < 2 ^ c
  c : ∀ k, k < n → 0 ≤ R.c k ∧ R.c k < 2 ^ p
  z : ∀ k, n ≤ k → k < 4 → R.c k = 0
/-- Its bits: flag, point, and the first k colours. -/
def rbk (fl c p : Nat) (R : Rcd) : Nat → Nat → Int
  | 0 => ex (ex (ex (fun _ => 0) 0 R.f fl) fl R.x c) (fl + c) R.y c
  | k + 1 => ex (rbk fl c p R k) (fl + c + c + k * p) (R.c k) p
theorem rbk_bits (fl c p : Nat) (R : Rcd) (k : Nat) : Bits (rbk fl c p R k) := by
  induction k with
  | zero => exact ex_bits (ex_bits (ex_bits (fun _ => .inl rfl) _ _ _) _ _ _) _ _ _
  | succ k ih => exact ex_bits ih _ _ _
theorem rbk_low {fl c p : Nat} {R : Rcd} (k : Nat) {q m : Nat} (h : q + m ≤ fl + c + c) : nb (rbk fl c p R k) q m = nb (rbk fl c p R 0) q m := by
  induction k with
  | zero => rfl
  | succ k ih =>
    show nb (ex (rbk fl c p R k) (fl + c + c + k * p) (R.c k) p) q m = _
    rw [nb_ex_lt _ _ _ _ (by omega)]; exact ih
theorem rbk_f {fl c p n : Nat} {R : Rcd} (h : Room fl c p n R) (k : Nat) : nb (rbk fl c p R k) 0 fl = R.f := by
  rw [rbk_low k (by omega), rbk, nb_ex_lt _ _ _ _ (by omega), nb_ex_lt _ _ _ _ (by omega), nb_ex _ _ _ _ h.f.1 h.f.2]
theorem rbk_x {fl c p n : Nat} {R : Rcd} (h : Room fl c p n R) (k : Nat) : nb (rbk fl c p R k) fl c = R.x := by
  rw [rbk_low k (by omega), rbk, nb_ex_lt _ _ _ _ (by omega), nb_ex _ _ _ _ h.x.1 h.x.2]
theorem rbk_y {fl c p n : Nat} {R : Rcd} (h : Room fl c p n R) (k : Nat) : nb (rbk fl c p R k) (fl + c) c = R.y := by
  rw [rbk_low k (by omega), rbk, nb_ex _ _ _ _ h.y.1 h.y.2]
theorem rbk_c {fl c p n : Nat} {R : Rcd} (h : Room fl c p n R) {i : Nat} : ∀ {k : Nat}, i < k → k ≤ n → nb (rbk fl c p R k) (fl + c + c + i * p) p = R.c i := by
  intro k
  induction k with
  | zero => intro hi; omega
  | succ k ih =>
    intro hi hk
    rw [rbk]
    by_cases e : i = k
    · subst e
      exact nb_ex _ _ _ _ (h.c i (by omega)).1 (h.c i (by omega)).2
    · have : (i + 1) * p ≤ k * p := Nat.mul_le_mul_right p (by omega)
      rw [Nat.add_mul, Nat.one_mul] at this
      rw [nb_ex_lt _ _ _ _ (by omega)]
      exact ih (by omega) (by omega)
/-- The bytes of vertices, one behind the other: B bits each, in sz bytes. -/
def pby (fl c p n sz : Nat) (R : Nat → Rcd) (j : Nat) : Int := nb (zb (rbk fl c p (R (j / sz)) n) (fl + c + c + n * p)) (8 * (j % sz)) 8
theorem pby_in (fl c p n sz : Nat) (R : Nat → Rcd) (j : Nat) : 0 ≤ pby fl c p n sz R j ∧ pby fl c p n sz R j < 256 := by
  have := nb_in (zb_bits (rbk_bits fl c p (R (j / sz)) n) (fl + c + c + n * p)) (8 * (j % sz)) 8
  exact this
theorem nb_shift {β γ : Nat → Int} {s T : Nat} (h : ∀ t, t < T → β (s + t) = γ t) (q m : Nat) (hm : q + m ≤ T) : nb β (s + q) m = nb γ q m := by
  induction m with
  | zero => rfl
  | succ m ih => rw [nb_succ, nb_succ, ih (by omega), Nat.add_assoc, h (q + m) (by omega)]
theorem pby_bits {fl c p n sz : Nat} {R : Nat → Rcd} (i t : Nat) (ht : t < 8 * sz) : bt (pby fl c p n sz R) (8 * (sz * i) + t) = zb (rbk fl c p (R i) n) (fl + c + c + n * p) t := by
  have hb := zb_bits (rbk_bits fl c p (R i) n) (fl + c + c + n * p)
  have h0 : 0 < sz := by omega
  have e1 : (8 * (sz * i) + t) / 8 = sz * i + t / 8 := by omega
  have e2 : (8 * (sz * i) + t) % 8 = t % 8 := by omega
  have e3 : (sz * i + t / 8) / sz = i := by
    rw [Nat.mul_add_div h0, Nat.div_eq_of_lt (by omega)]; omega
  have e4 : (sz * i + t / 8) % sz = t / 8 := by
    rw [Nat.mul_add_mod, Nat.mod_eq_of_lt (by omega)]
  rw [← bt_nb hb t]
  unfold bt pby
  rw [e1, e2, e3, e4]
/-- What is put is got. -/
theorem put_got {fl c p n sz : Nat} {R : Nat → Rcd} {i : Nat} (h : Room fl c p n (R i)) (hb : fl + c + c + n * p ≤ 8 * sz) : vl 7 (rv (recAt fl c p n (bt (pby fl c p n sz R)) (8 * (sz * i)))) = vl 7 (rv (R i)) := by
  have sh := fun q m (hm : q + m ≤ fl + c + c + n * p) => (nb_shift (T := 8 * sz) (fun t ht => pby_bits (fl := fl) (c := c) (p := p) (n := n) (R := R) i t ht) q m (by omega)).trans (nb_zb _ _ _ hm)
  have ef : (recAt fl c p n (bt (pby fl c p n sz R)) (8 * (sz * i))).f = (R i).f := (sh 0 fl (by omega)).trans (rbk_f h n)
  have ex' : (recAt fl c p n (bt (pby fl c p n sz R)) (8 * (sz * i))).x = (R i).x := (sh fl c (by omega)).trans (rbk_x h n)
  have ey : (recAt fl c p n (bt (pby fl c p n sz R)) (8 * (sz * i))).y = (R i).y := by
    have := (sh (fl + c) c (by omega)).trans (rbk_y h n)
    rw [← Nat.add_assoc] at this
    exact this
  have ec : ∀ k, k < 4 → (recAt fl c p n (bt (pby fl c p n sz R)) (8 * (sz * i))).c k = (R i).c k := fun k hk => by
    show (if k < n then _ else _) = _
    by_cases hkn : k < n
    · rw [if_pos hkn]
      have h1 : (k + 1) * p ≤ n * p := Nat.mul_le_mul_right p (by omega)
      rw [Nat.add_mul, Nat.one_mul] at h1
      have := (sh (fl + c + c + k * p) p (by omega)).trans (rbk_c h hkn (Nat.le_refl n))
      rw [← this]
      congr 1
      omega
    · rw [if_neg hkn, h.z k (by omega) hk]
  exact vl_ext fun j hj => match j, hj with
    | 0, _ => congrArg (Value.int .u8) ef
    | 1, _ => congrArg (Value.int .u32) ex'
    | 2, _ => congrArg (Value.int .u32) ey
    | 3, _ => congrArg (Value.int .u16) (ec 0 (by omega))
    | 4, _ => congrArg (Value.int .u16) (ec 1 (by omega))
    | 5, _ => congrArg (Value.int .u16) (ec 2 (by omega))
    | 6, _ => congrArg (Value.int .u16) (ec 3 (by omega))
/-- What is got has room. -/
theorem got_room (fl c p n : Nat) {β : Nat → Int} (hb : Bits β) (q : Nat) : Room fl c p n (recAt fl c p n β q) :=
  ⟨nb_in hb _ _, nb_in hb _ _, nb_in hb _ _, fun k hk => by show 0 ≤ (if k < n then _ else _) ∧ (if k < n then _ else _) < _; rw [if_pos hk]; exact nb_in hb _ _, fun k hk _ => by show (if k < n then _ else _) = _; rw [if_neg (by omega)]⟩
/-- The bits of a number that is made of bits are these. -/
theorem ex_nb {β γ : Nat → Int} (hg : Bits γ) (s n k : Nat) {i : Nat} (h1 : n ≤ i) (h2 : i < n + k) : ex β n (nb γ (s + n) k) k i = γ (s + i) := by
  unfold ex
  rw [if_neg (by omega)]
  have := nb_piece hg (s + n) (i - n) 1 (n + k - 1 - i)
  rw [show i - n + 1 + (n + k - 1 - i) = k by omega, show ((2 : Int) ^ 1) = 2 from rfl, show s + n + (i - n) = s + i by omega] at this
  rw [this, nb_succ, nb_zero]
  simp
/-- What is got is put as the same bits. -/
theorem got_put {fl c p n : Nat} {γ : Nat → Int} (hg : Bits γ) (s : Nat) : ∀ k, k ≤ n → ∀ t, t < fl + c + c + k * p → rbk fl c p (recAt fl c p n γ s) k t = γ (s + t) := by
  intro k
  induction k with
  | zero =>
    intro _ t ht
    rw [rbk]
    by_cases h1 : t < fl + c
    · rw [ex_lt _ _ _ _ h1]
      by_cases h2 : t < fl
      · rw [ex_lt _ _ _ _ h2]
        have := ex_nb (β := fun _ => 0) hg s 0 fl (i := t) (by omega) (by omega)
        exact this
      · exact ex_nb hg s fl c (by omega) (by omega)
    · have := ex_nb (β := ex (ex (fun _ => 0) 0 (recAt fl c p n γ s).f fl) fl (recAt fl c p n γ s).x c) hg s (fl + c) c (i := t) (by omega) (by omega)
      rw [← Nat.add_assoc] at this
      exact this
  | succ k ih =>
    intro hk t ht
    rw [Nat.add_mul, Nat.one_mul] at ht
    rw [rbk]
    by_cases h1 : t < fl + c + c + k * p
    · rw [ex_lt _ _ _ _ h1]; exact ih (by omega) t h1
    · have := ex_nb (β := rbk fl c p (recAt fl c p n γ s) k) hg s (fl + c + c + k * p) p (i := t) (by omega) (by omega)
      have e : (recAt fl c p n γ s).c k = nb γ (s + (fl + c + c + k * p)) p := by
        show (if k < n then _ else _) = _
        rw [if_pos (by omega)]
        congr 1
        omega
      rw [e]
      exact this
/-- Bytes that are got, put again: the byte q of the record j. -/
theorem again_byte {fl c p n sz : Nat} (f : Nat → Int) (R : Nat → Rcd) (j q : Nat) (hq : q < sz) (hR : R j = recAt fl c p n (bt f) (8 * (sz * j))) :
    pby fl c p n sz R (sz * j + q) = nb (zb (fun t => bt f (8 * (sz * j) + t)) (fl + c + c + n * p)) (8 * q) 8 := by
  have h0 : 0 < sz := by omega
  unfold pby
  rw [Nat.mul_add_div h0, Nat.div_eq_of_lt hq, Nat.mul_add_mod, Nat.mod_eq_of_lt hq, Nat.add_zero, hR]
  refine nb_congr _ _ fun t _ _ => ?_
  unfold zb
  by_cases h : t < fl + c + c + n * p
  · rw [if_pos h, if_pos h]; exact got_put (bt_bits f) _ n (Nat.le_refl n) t h
  · rw [if_neg h, if_neg h]
/-- .. which is the byte that was, where all its bits are the record's. -/
theorem again_full {fl c p n sz : Nat} {f : Nat → Int} {R : Nat → Rcd} {j q : Nat} (hq : q < sz) (hR : R j = recAt fl c p n (bt f) (8 * (sz * j))) (hf : 0 ≤ f (sz * j + q) ∧ f (sz * j + q) < 256) (hb : 8 * q + 8 ≤ fl + c + c + n * p) :
    pby fl c p n sz R (sz * j + q) = f (sz * j + q) := by
  rw [again_byte f R j q hq hR, nb_zb _ _ _ (by omega), ← nb_byte (f := f) (sz * j + q) hf]
  have := nb_shift (β := bt f) (γ := fun t => bt f (8 * (sz * j) + t)) (s := 8 * (sz * j)) (T := 8 * q + 8) (fun t _ => rfl) (8 * q) 8 (by omega)
  rw [← this]
  congr 1
  omega
/-- .. and, of the last byte, the bits that are the record's. -/
theorem again_last {fl c p n sz : Nat} {f : Nat → Int} {R : Nat → Rcd} {j q d : Nat} (hq : q < sz) (hR : R j = recAt fl c p n (bt f) (8 * (sz * j))) (hf : 0 ≤ f (sz * j + q) ∧ f (sz * j + q) < 256) (hd : d < 8) (hb : 8 * q + 8 = fl + c + c + n * p + d) :
    pby fl c p n sz R (sz * j + q) = f (sz * j + q) / 2 ^ d * 2 ^ d := by
  rw [again_byte f R j q hq hR, nb_last (fl + c + c + n * p) (8 * q) (8 - d) (by omega) (by omega), show 8 - (8 - d) = d by omega]
  have h1 := nb_shift (β := bt f) (γ := fun t => bt f (8 * (sz * j) + t)) (s := 8 * (sz * j)) (T := 8 * q + 8) (fun t _ => rfl) (8 * q) (8 - d) (by omega)
  rw [← h1, show 8 * (sz * j) + 8 * q = 8 * (sz * j + q) by omega, nb_bt f _ _ (by omega), show 8 * (sz * j + q) / 8 = sz * j + q by omega, show 8 - 8 * (sz * j + q) % 8 - (8 - d) = d by omega]
  congr 1
  have h2 : (2 : Int) ^ d * 2 ^ (8 - d) = 256 := by rw [← pow_add2, show d + (8 - d) = 8 by omega]; rfl
  have hp := pow_pos2 d
  refine Int.emod_eq_of_lt (Int.ediv_nonneg hf.1 (Int.le_of_lt hp)) ?_
  refine Int.ediv_lt_of_lt_mul hp ?_
  rw [Int.mul_comm, h2]
  exact hf.2
end Go.Proofs.YtemcppakmcffgaaDoor
