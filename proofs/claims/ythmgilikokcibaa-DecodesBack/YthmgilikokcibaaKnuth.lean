/- Long division by halves of words, as math/bits.Div64 does it: plain arithmetic, no program. -/
import Derived.Test.YthmgilikokcibaaExt
namespace Go.Proofs.Ythmgilikokcibaa

/-- What one digit of the quotient rests on: a divisor Y of two halves, its upper half at least half of what it can be; a number U below it; a digit u. -/
structure Dig (Y y1 y0 U u : Int) : Prop where
  y : Y = y1 * 4294967296 + y0
  a : 2147483648 ≤ y1
  b : y1 < 4294967296
  c : 0 ≤ y0
  d : y0 < 4294967296
  e : 0 ≤ U
  f : U < Y
  g : 0 ≤ u
  h : u < 4294967296

section
variable {Y y1 y0 U u : Int}
theorem Dig.pos (D : Dig Y y1 y0 U u) : 0 < Y := by have := D.y; have := D.a; have := D.c; omega
theorem Dig.lt64 (D : Dig Y y1 y0 U u) : Y < 18446744073709551616 := by have := D.y; have := D.b; have := D.d; omega
/-- The true digit. -/
def digit (Y U u : Int) : Int := (U * 4294967296 + u) / Y
theorem Dig.le_iff (D : Dig Y y1 y0 U u) (q : Int) : q ≤ digit Y U u ↔ q * Y ≤ U * 4294967296 + u := by
  unfold digit; exact Int.le_ediv_iff_mul_le D.pos
theorem Dig.split (D : Dig Y y1 y0 U u) (q r : Int) (h : q * y1 + r = U) : q * Y = (U - r) * 4294967296 + q * y0 := by
  rw [D.y, Int.mul_add, ← Int.mul_assoc]; rw [show U - r = q * y1 by omega]
/-- Not too great: then it is the digit, or below. -/
theorem Dig.down (D : Dig Y y1 y0 U u) {q r : Int} (h : q * y1 + r = U) (hc : q * y0 ≤ 4294967296 * r + u) : q ≤ digit Y U u := by
  rw [D.le_iff, D.split q r h]; omega
/-- Too great. -/
theorem Dig.up (D : Dig Y y1 y0 U u) {q r : Int} (h : q * y1 + r = U) (hc : 4294967296 * r + u < q * y0) : digit Y U u ≤ q - 1 := by
  have : ¬ q ≤ digit Y U u := by rw [D.le_iff, D.split q r h]; omega
  omega
theorem Dig.small (D : Dig Y y1 y0 U u) : digit Y U u < 4294967296 := by
  have : ¬ 4294967296 ≤ digit Y U u := by rw [D.le_iff]; have := D.f; have := D.h; omega
  omega
theorem Dig.nonneg (D : Dig Y y1 y0 U u) : 0 ≤ digit Y U u := by rw [D.le_iff]; have := D.e; have := D.g; omega
/-- The first guess. -/
theorem Dig.guess (D : Dig Y y1 y0 U u) : digit Y U u ≤ U / y1 ∧ U / y1 ≤ 4294967297 ∧ 0 ≤ U / y1 := by
  have hp : 0 < y1 := by have := D.a; omega
  refine ⟨?_, ?_, Int.ediv_nonneg D.e (by omega)⟩
  · rw [Int.le_ediv_iff_mul_le hp]
    have h1 : digit Y U u * Y ≤ U * 4294967296 + u := (D.le_iff _).1 (Int.le_refl _)
    have h2 : digit Y U u * Y = digit Y U u * y1 * 4294967296 + digit Y U u * y0 := by
      generalize digit Y U u = t
      rw [D.y, Int.mul_add, Int.mul_assoc]
    have h3 : 0 ≤ digit Y U u * y0 := Int.mul_nonneg D.nonneg D.c
    have := D.h
    omega
  · have : ¬ 4294967298 ≤ U / y1 := by
      rw [Int.le_ediv_iff_mul_le hp]
      have := D.f; have := D.y; have := D.a; have := D.d
      omega
    omega
/-- The guess is raised by nothing and lowered as long as it is seen to be too great: how it comes to the digit. -/
theorem Dig.one (D : Dig Y y1 y0 U u) {q r : Int} (h : q * y1 + r = U) (hq : digit Y U u ≤ q) (hc : q * y0 ≤ 4294967296 * r + u) : q = digit Y U u := by
  have := D.down h hc; omega
theorem Dig.less (D : Dig Y y1 y0 U u) {q r : Int} (h : q * y1 + r = U) (hc : 4294967296 ≤ q ∨ 4294967296 * r + u < q * y0) : digit Y U u ≤ q - 1 ∧ (q - 1) * y1 + (r + y1) = U := by
  refine ⟨?_, by rw [Int.sub_mul]; omega⟩
  rcases hc with hc | hc
  · have := D.small; omega
  · exact D.up h hc
theorem Dig.far (D : Dig Y y1 y0 U u) {q r : Int} (h : q * y1 + r = U) (hq : digit Y U u ≤ q) (hq' : q ≤ 4294967296) (hr : 4294967296 ≤ r) : q = digit Y U u := by
  refine D.one h hq ?_
  have h0 := D.nonneg
  have h1 : q * y0 ≤ 4294967296 * 4294967295 := Int.mul_le_mul hq' (by have := D.d; omega) D.c (by omega)
  have := D.g
  omega
/-- The four ways of the loop; q is the guess, r what it leaves. -/
theorem Dig.cases (D : Dig Y y1 y0 U u) : ∃ q r, U / y1 = q ∧ q * y1 + r = U ∧ 0 ≤ r ∧ r < y1 ∧ 0 ≤ q ∧ q ≤ 4294967297 ∧ digit Y U u ≤ q ∧
    ((q < 4294967296 ∧ q * y0 ≤ 4294967296 * r + u ∧ q = digit Y U u) ∨
     ((4294967296 ≤ q ∨ (q < 4294967296 ∧ 4294967296 * r + u < q * y0)) ∧ 4294967296 ≤ r + y1 ∧ q - 1 = digit Y U u) ∨
     ((4294967296 ≤ q ∨ (q < 4294967296 ∧ 4294967296 * r + u < q * y0)) ∧ r + y1 < 4294967296 ∧ q - 1 < 4294967296 ∧ (q - 1) * y0 ≤ 4294967296 * (r + y1) + u ∧ q - 1 = digit Y U u) ∨
     ((4294967296 ≤ q ∨ (q < 4294967296 ∧ 4294967296 * r + u < q * y0)) ∧ r + y1 < 4294967296 ∧ (4294967296 ≤ q - 1 ∨ (q - 1 < 4294967296 ∧ 4294967296 * (r + y1) + u < (q - 1) * y0)) ∧ 4294967296 ≤ r + y1 + y1 ∧ q - 1 - 1 = digit Y U u)) := by
  obtain ⟨g1, g2, g3⟩ := D.guess
  have ha := D.a
  refine ⟨U / y1, U % y1, rfl, Int.ediv_mul_add_emod U y1, Int.emod_nonneg _ (by omega), Int.emod_lt_of_pos _ (by omega), g3, g2, g1, ?_⟩
  have h := Int.ediv_mul_add_emod U y1
  have hr0 := Int.emod_nonneg U (show y1 ≠ 0 by omega)
  generalize U / y1 = q at *
  generalize U % y1 = r at *
  by_cases c1 : 4294967296 ≤ q ∨ (q < 4294967296 ∧ 4294967296 * r + u < q * y0)
  · obtain ⟨d1, d2⟩ := D.less h (c1.imp id And.right)
    by_cases c2 : 4294967296 ≤ r + y1
    · exact .inr (.inl ⟨c1, c2, D.far d2 d1 (by omega) c2⟩)
    · by_cases c3 : 4294967296 ≤ q - 1 ∨ (q - 1 < 4294967296 ∧ 4294967296 * (r + y1) + u < (q - 1) * y0)
      · obtain ⟨d3, d4⟩ := D.less d2 (c3.imp id And.right)
        exact .inr (.inr (.inr ⟨c1, Int.not_le.1 c2, c3, by omega, D.far d4 d3 (by omega) (by omega)⟩))
      · have c4 : q - 1 < 4294967296 := Int.not_le.1 fun x => c3 (.inl x)
        have c5 : (q - 1) * y0 ≤ 4294967296 * (r + y1) + u := Int.not_lt.1 fun x => c3 (.inr ⟨c4, x⟩)
        exact .inr (.inr (.inl ⟨c1, Int.not_le.1 c2, c4, c5, D.one d2 d1 c5⟩))
  · have c4 : q < 4294967296 := Int.not_le.1 fun x => c1 (.inl x)
    have c5 : q * y0 ≤ 4294967296 * r + u := Int.not_lt.1 fun x => c1 (.inr ⟨c4, x⟩)
    exact .inl ⟨c4, c5, D.one h g1 c5⟩
/-- What is left behind the digit. -/
theorem Dig.left (D : Dig Y y1 y0 U u) : ∃ R, R = (U * 4294967296 + u) % Y ∧ 0 ≤ R ∧ R < Y ∧ digit Y U u * Y + R = U * 4294967296 + u := by
  refine ⟨_, rfl, Int.emod_nonneg _ (by have := D.pos; omega), Int.emod_lt_of_pos _ D.pos, ?_⟩
  unfold digit
  have := Int.mul_ediv_add_emod (U * 4294967296 + u) Y
  rw [Int.mul_comm] at this
  exact this
end
/-- Both digits together, the shift taken back. -/
theorem both {n y P Y U V v1 v0 T1 T0 R1 R0 : Int} (hP : 0 < P) (hy : 0 < y) (hY : Y = y * P) (hN : n * P = U * 18446744073709551616 + V) (hV : V = v1 * 4294967296 + v0)
    (h1 : T1 * Y + R1 = U * 4294967296 + v1) (h0 : T0 * Y + R0 = R1 * 4294967296 + v0) (hR : 0 ≤ R0) (hR' : R0 < Y) : n / y = T1 * 4294967296 + T0 ∧ n % y = R0 / P := by
  have e : (n - (T1 * 4294967296 + T0) * y) * P = R0 := by
    rw [Int.sub_mul, Int.mul_assoc, ← hY, Int.add_mul, Int.mul_right_comm, hN, hV]
    omega
  generalize hQ : T1 * 4294967296 + T0 = Q at *
  have hr : R0 / P = n - Q * y := by rw [← e]; exact Int.mul_ediv_cancel _ (by omega)
  have hlo : 0 ≤ n - Q * y := by rw [← hr]; exact Int.ediv_nonneg hR (by omega)
  have hhi : n - Q * y < y := by
    rw [← hr]
    exact Int.ediv_lt_of_lt_mul hP (by rw [← hY]; exact hR')
  rw [hr]
  have key : n = y * Q + (n - Q * y) := by rw [Int.mul_comm]; omega
  constructor
  · conv => lhs; rw [key]
    rw [Int.add_comm, Int.add_mul_ediv_left _ _ (by omega), Int.ediv_eq_zero_of_lt hlo hhi]; omega
  · conv => lhs; rw [key]
    rw [Int.add_comm, Int.add_mul_emod_self_left, Int.emod_eq_of_lt hlo hhi]
end Go.Proofs.Ythmgilikokcibaa
