/- Directions by the document's rule: between which two parts of a quarter a place lies. Plain arithmetic that names no program. Two parts of a quarter between which a place lies are no farther apart than they must be. Plain arithmetic that names no program. -/
import Derived.Test.YthfgeopldbcniaaAngRS
namespace Go.Proofs.Ythfgeopldbcniaa
set_option linter.unusedVariables false
set_option linter.unusedSimpArgs false
def cj (z : Int × Int) : Int × Int := (z.1, -z.2)
theorem cj_cm (a b : Int × Int) : cj (cm a b) = cm (cj a) (cj b) := by unfold cj cm; ext <;> simp <;> grind
theorem cj_ck (k : Int) (a : Int × Int) : cj (ck k a) = ck k (cj a) := by unfold cj ck; ext <;> simp <;> grind
theorem nn_cj (a : Int × Int) : nn (cj a) = nn a := by unfold nn cj; grind
theorem Bd.cj {a : Int × Int} {r : Int} (h : Bd a r) : Bd (cj a) r := ⟨h.1, by rw [nn_cj]; exact h.2⟩
theorem Nr.cj {a b : Int × Int} {r : Int} (h : Nr a b r) : Nr (cj a) (cj b) r := by
  refine ⟨h.1, ?_⟩
  have := h.2
  rw [show nn (cd (Go.Proofs.Ythfgeopldbcniaa.cj a) (Go.Proofs.Ythfgeopldbcniaa.cj b)) = nn (cd a b) by unfold nn cd Go.Proofs.Ythfgeopldbcniaa.cj; grind]
  exact this
theorem ex_bit (S : Int) : ∀ (ts : List (Int × Int)) (f g : Nat), f % 2 ^ ts.length = g % 2 ^ ts.length → ex S ts f = ex S ts g
  | [], f, g, _ => rfl
  | t :: ts, f, g, h => by
    rw [List.length_cons] at h
    have sp : ∀ x : Nat, x % 2 ^ (ts.length + 1) = x / 2 ^ ts.length % 2 * 2 ^ ts.length + x % 2 ^ ts.length := fun x => by
      rw [Nat.pow_succ, Nat.mod_mul, Nat.mul_comm (2 ^ ts.length), Nat.add_comm]
    rw [sp, sp] at h
    have m1 : f % 2 ^ ts.length < 2 ^ ts.length := Nat.mod_lt _ (Nat.two_pow_pos _)
    have m2 : g % 2 ^ ts.length < 2 ^ ts.length := Nat.mod_lt _ (Nat.two_pow_pos _)
    have b1 : f / 2 ^ ts.length % 2 = 0 ∨ f / 2 ^ ts.length % 2 = 1 := by omega
    have b2 : g / 2 ^ ts.length % 2 = 0 ∨ g / 2 ^ ts.length % 2 = 1 := by omega
    have hb : f / 2 ^ ts.length % 2 = g / 2 ^ ts.length % 2 := by
      rcases b1 with b1 | b1 <;> rcases b2 with b2 | b2 <;> rw [b1, b2] at h ⊢ <;> omega
    have hl : f % 2 ^ ts.length = g % 2 ^ ts.length := by rw [hb] at h; omega
    rw [ex_cons, ex_cons, hb, ex_bit S ts f g hl]
/-- The bits of a direction, as a number; and what is left of the place. -/
def abit (S : Int) : List (Int × Int) → Int × Int → Nat
  | [], _ => 0
  | t :: ts, z => if 0 ≤ (on S z (cj t)).2 then 2 ^ ts.length + abit S ts (on S z (cj t)) else abit S ts z
def alast (S : Int) : List (Int × Int) → Int × Int → Int × Int
  | [], z => z
  | t :: ts, z => if 0 ≤ (on S z (cj t)).2 then alast S ts (on S z (cj t)) else alast S ts z
theorem abit_lt (S : Int) : ∀ (ts : List (Int × Int)) (z : Int × Int), abit S ts z < 2 ^ ts.length
  | [], z => by unfold abit; exact Nat.two_pow_pos _
  | t :: ts, z => by
    unfold abit
    rw [List.length_cons, Nat.pow_succ]
    split
    · have := abit_lt S ts (on S z (cj t)); omega
    · have := abit_lt S ts z; omega
theorem left_near {S : Int} (hS : 0 < S) : ∀ (ts : List (Int × Int)) (z : Int × Int), (∀ t ∈ ts, nn t ≤ S * S) → Nr (ck (pw S ts.length) (alast S ts z)) (cm z (cj (ex S ts (abit S ts z)))) (2 * ts.length * pw S ts.length)
  | [], z, _ => by
    unfold alast ex
    rw [show ck (pw S ([] : List (Int × Int)).length) z = z by unfold ck; ext <;> simp [pw], show cm z (cj (1, 0)) = z by unfold cm cj; ext <;> simp]
    have := Nr.refl z
    simpa [pw] using this
  | t :: ts, z, h => by
    have hts : ∀ u ∈ ts, nn u ≤ S * S := fun u hu => h u (List.mem_cons_of_mem _ hu)
    have hp := pw_pos hS ts.length
    have e : ∀ k : Int, (2 * ((ts.length + 1 : Nat) : Int) * (S * pw S ts.length)) = S * (2 * (ts.length : Int) * pw S ts.length) + 2 * S * pw S ts.length := fun _ => by
      rw [Int.natCast_add]; grind
    rw [ex_cons, List.length_cons]
    unfold alast abit pw
    by_cases hb : 0 ≤ (on S z (cj t)).2
    · rw [if_pos hb, if_pos hb]
      have ih := (left_near hS ts (on S z (cj t)) hts).scale (Int.le_of_lt hS)
      have l := abit_lt S ts (on S z (cj t))
      rw [show (2 ^ ts.length + abit S ts (on S z (cj t))) / 2 ^ ts.length % 2 = 1 by rw [Nat.add_div_left _ (Nat.two_pow_pos _), Nat.div_eq_of_lt l], ex_bit S ts (2 ^ ts.length + abit S ts (on S z (cj t))) (abit S ts (on S z (cj t))) (by rw [Nat.add_mod_left]), pick1]
      have eb := (ex_bd hS ts (abit S ts (on S z (cj t))) hts).cj
      have o := (on_near hS z (cj t)).mul eb
      rw [ck_ck, ← cm_ck] at ih
      rw [cm_assoc, ← cj_cm] at o
      refine (ih.trans o).mono ?_
      rw [e 0]
      exact Int.le_refl _
    · rw [if_neg hb, if_neg hb]
      have ih := (left_near hS ts z hts).scale (Int.le_of_lt hS)
      have l := abit_lt S ts z
      rw [show abit S ts z / 2 ^ ts.length % 2 = 0 by rw [Nat.div_eq_of_lt l], pick0]
      rw [ck_ck, ← cm_ck'] at ih
      rw [show cj (cm (S, 0) (ex S ts (abit S ts z))) = ck S (cj (ex S ts (abit S ts z))) by rw [cj_cm]; generalize ex S ts (abit S ts z) = w; unfold cj cm ck; ext <;> simp]
      refine ih.mono ?_
      rw [e 0]
      have : 0 ≤ 2 * S * pw S ts.length := Int.mul_nonneg (by omega) (Int.le_of_lt hp)
      omega
/-- What is left lies not below the line, and not above the last turn. -/
theorem left_low (S : Int) : ∀ (ts : List (Int × Int)) (z : Int × Int), 0 ≤ z.2 → 0 ≤ (alast S ts z).2
  | [], z, h => by unfold alast; exact h
  | t :: ts, z, h => by
    unfold alast
    split
    · rename_i hb; exact left_low S ts _ hb
    · exact left_low S ts z h
theorem see_high {u z w : Int × Int} {r : Int} (hu : nn u ≤ 1) (h : Nr z w r) : see u z ≤ see u w + r := by
  have := (see_le hu h).2
  rw [see_cd] at this
  omega
def lastOf : Int × Int → List (Int × Int) → Int × Int
  | p, [] => p
  | _, t :: ts => lastOf t ts
theorem left_high {S : Int} (hS : 0 < S) : ∀ (ts : List (Int × Int)) (p : Int × Int) (e r : Int) (z : Int × Int), Chain S p ts → 0 ≤ e → Bd z r → r + 2 * (ts.length : Int) ≤ 2 * S → (cm z (cj p)).2 ≤ e * S → (cm (alast S ts z) (cj (lastOf p ts))).2 ≤ (e + 8 * ts.length) * S
  | [], p, e, r, z, _, _, _, _, h => by
    unfold alast lastOf
    simp only [List.length_nil]
    rw [show e + 8 * ((0 : Nat) : Int) = e by omega]
    exact h
  | t :: ts, p, e, r, z, ch, e0, bz, hr, h => by
    rw [List.length_cons, Int.natCast_add] at hr ⊢
    have bt : Bd (cj t) S := Bd.cj ⟨Int.le_of_lt hS, ch.2.1⟩
    unfold alast lastOf
    have fin : ∀ w r', Bd w r' → r' + 2 * (ts.length : Int) ≤ 2 * S → (cm w (cj t)).2 ≤ (e + 8) * S → (cm (alast S ts w) (cj (lastOf t ts))).2 ≤ (e + 8 * ((ts.length : Int) + ((1 : Nat) : Int))) * S := by
      intro w r' bw hr' hw
      have := left_high hS ts t (e + 8) r' w ch.2.2 (by omega) bw hr' hw
      rw [show e + 8 * ((ts.length : Int) + ((1 : Nat) : Int)) = e + 8 + 8 * (ts.length : Int) by omega]
      exact this
    by_cases hb : 0 ≤ (on S z (cj t)).2
    · rw [if_pos hb]
      have on1 := on_near hS z (cj t)
      have b1 : Bd (on S z (cj t)) (r + 2) := by
        have := Bd.of_near on1 (Bd.mul bz bt)
        refine Bd.unscale hS (by have := bz.1; omega) (this.mono ?_)
        have g : S * (r + 2) = 2 * S + r * S := by grind
        omega
      refine fin _ (r + 2) b1 (by omega) ?_
      have s2 := (on1.mul bt).parts
      have s3 := (ch.1.cj.mul bz).parts
      rw [cm_ck, cm_assoc] at s2
      rw [cj_cm, cj_ck, cm_ck, cm_comm (cm (cj t) (cj t)) z, cm_comm (cj p) z] at s3
      have a1 := s2.2.2.1
      have a2 := s3.2.2.1
      unfold ck at a1 a2
      simp only at a1 a2
      rcases Int.lt_or_le ((e + 8) * S) (cm (on S z (cj t)) (cj t)).2 with k | k
      · exfalso
        have a := Int.mul_lt_mul_of_pos_left k hS
        have b := Int.mul_le_mul_of_nonneg_left h (Int.le_of_lt hS)
        have c : 3 * S * r ≤ 3 * S * (2 * S) := Int.mul_le_mul_of_nonneg_left (by omega) (by omega)
        have g1 : S * ((e + 8) * S) = e * (S * S) + 8 * (S * S) := by grind
        have g2 : S * (e * S) = e * (S * S) := by grind
        have g3 : 3 * S * (2 * S) = 6 * (S * S) := by grind
        have g4 : 2 * S * S = 2 * (S * S) := by grind
        rw [g1] at a
        rw [g2] at b
        rw [g3] at c
        rw [g4] at a1
        generalize e * (S * S) = m2 at *
        generalize S * S = m3 at *
        omega
      · exact k
    · rw [if_neg hb]
      refine fin z r bz (by omega) ?_
      have neg : (cm z (cj t)).2 < 0 := by
        rcases Int.lt_or_le (cm z (cj t)).2 0 with k | k
        · exact k
        · exact absurd (Int.ediv_nonneg k (Int.le_of_lt hS)) hb
      have : 0 ≤ (e + 8) * S := Int.mul_nonneg (by omega) (Int.le_of_lt hS)
      omega
theorem dir_low {S P : Int} (hS : 0 < S) (hP : 0 < P) {z zl E Z : Int × Int} (h1 : Nr (ck P zl) (cm z (cj E)) (2 * 40 * P)) (h2 : 0 ≤ zl.2) (h3 : Nr (ck P Z) (ck S E) (2 * 40 * P)) (hz : Bd z S) : -(160 * S) ≤ (cm z (cj Z)).2 := by
  have a := h1.parts.2.2.1
  have b := (h3.cj.mul hz).parts.2.2.2
  rw [cj_ck, cj_ck, cm_ck, cm_ck, cm_comm (cj E) z, cm_comm (cj Z) z] at b
  unfold ck at a b
  simp only at a b
  have c := Int.mul_nonneg (Int.le_of_lt hP) h2
  have d := Int.mul_le_mul_of_nonneg_left (show -(80 * P) ≤ (cm z (cj E)).2 by omega) (Int.le_of_lt hS)
  rcases Int.lt_or_le (cm z (cj Z)).2 (-(160 * S)) with k | k
  · exfalso
    have f := Int.mul_lt_mul_of_pos_left k hP
    have g1 : P * -(160 * S) = -(160 * (P * S)) := by grind
    have g2 : S * -(80 * P) = -(80 * (P * S)) := by grind
    have g3 : 2 * 40 * P * S = 80 * (P * S) := by grind
    rw [g1] at f
    rw [g2] at d
    rw [g3] at b
    generalize P * S = m at *
    omega
  · exact k
theorem dir_high {S P : Int} (hS : 0 < S) (hP : 0 < P) {z zl E Z Z' T : Int × Int} (h1 : Nr (ck P zl) (cm z (cj E)) (2 * 40 * P)) (h2 : (cm zl (cj T)).2 ≤ 320 * S) (h3 : Nr (ck P Z) (ck S E) (2 * 40 * P)) (h4 : Nr (cm Z T) (ck S Z') (361 * S)) (hz : Bd z S) (hT : Bd T S) : (cm z (cj Z')).2 ≤ 841 * S := by
  have a := (h1.mul hT.cj).parts.2.2.2
  have b := ((h3.cj.mul hz).mul hT.cj).parts.2.2.1
  have c := (h4.cj.mul hz).parts.2.2.2
  rw [cm_ck] at a
  rw [cj_ck, cj_ck, cm_ck, cm_ck, cm_ck, cm_ck, cm_comm (cj E) z] at b
  rw [cj_ck, cm_ck, cj_cm, cm_comm (cj Z') z] at c
  have e1 : cm (cm (cj Z) z) (cj T) = cm (cm (cj Z) (cj T)) z := by
    generalize cj Z = p
    generalize cj T = q
    unfold cm; ext <;> simp <;> grind
  rw [e1] at b
  unfold ck at a b c
  simp only at a b c
  generalize (cm (cm z (cj E)) (cj T)).2 = x at *
  generalize (cm (cm (cj Z) (cj T)) z).2 = y at *
  generalize (cm z (cj Z')).2 = w at *
  generalize (cm zl (cj T)).2 = v at *
  have d1 := Int.mul_le_mul_of_nonneg_left h2 (Int.le_of_lt hP)
  have g1 : P * (320 * S) = 320 * (P * S) := by grind
  have g2 : 2 * 40 * P * S = 80 * (P * S) := by grind
  rw [g1] at d1
  rw [g2] at a
  have d2 := Int.mul_le_mul_of_nonneg_left (show x ≤ 400 * (P * S) by omega) (Int.le_of_lt hS)
  have g3 : S * (400 * (P * S)) = P * (400 * (S * S)) := by grind
  have g4 : 2 * 40 * P * S * S = P * (80 * (S * S)) := by grind
  rw [g3] at d2
  rw [g4] at b
  have d3 : P * y ≤ P * (480 * (S * S)) := by
    have g5 : P * (480 * (S * S)) = P * (400 * (S * S)) + P * (80 * (S * S)) := by grind
    omega
  have d4 := Int.le_of_mul_le_mul_left d3 hP
  have d5 : S * w ≤ S * (841 * S) := by
    have g6 : S * (841 * S) = 841 * (S * S) := by grind
    have g7 : 361 * S * S = 361 * (S * S) := by grind
    omega
  exact Int.le_of_mul_le_mul_left d5 hS
/-- Which part of a quarter a place's direction is. -/
def dir (u v : Int) : Nat := abit 4611686018427387904 turns (u, v)
theorem dir_lt (u v : Int) : dir u v < 2 ^ 40 := abit_lt _ turns (u, v)
theorem last_turn : lastOf (0, 4611686018427387904) turns = ZZ 1 := by decide +kernel
theorem ZZ_near_ex (f : Nat) : Nr (ck (pw 4611686018427387904 40) (ZZ f)) (ck 4611686018427387904 (ex 4611686018427387904 turns f)) (2 * 40 * pw 4611686018427387904 40) := by
  have := azz_near (S := 4611686018427387904) (by decide) turns f (4611686018427387904, 0) turns_le
  rw [cm_real] at this
  exact this
theorem dir_bounds {u v : Int} (hu : 0 ≤ u) (hv : 0 ≤ v) (hb : Bd (u, v) 4611686018427387904) : -(160 * 4611686018427387904) ≤ v * (ZZ (dir u v)).1 - u * (ZZ (dir u v)).2 ∧ (dir u v + 1 < 2 ^ 40 → v * (ZZ (dir u v + 1)).1 - u * (ZZ (dir u v + 1)).2 ≤ 841 * 4611686018427387904) := by
  have h1 : Nr (ck (pw 4611686018427387904 40) (alast 4611686018427387904 turns (u, v))) (cm (u, v) (cj (ex 4611686018427387904 turns (dir u v)))) (2 * 40 * pw 4611686018427387904 40) := left_near (S := 4611686018427387904) (by decide) turns (u, v) turns_le
  have hP : 0 < pw 4611686018427387904 40 := pw_pos (by decide) 40
  have h2 := left_low 4611686018427387904 turns (u, v) hv
  have h3 := ZZ_near_ex (dir u v)
  have e : ∀ w : Int × Int, (cm (u, v) (cj w)).2 = v * w.1 - u * w.2 := fun w => by unfold cm cj; grind
  refine ⟨?_, fun hf => ?_⟩
  · have := dir_low (by decide) hP h1 h2 h3 hb
    rw [e] at this
    exact this
  · have h5 := left_high (S := 4611686018427387904) (by decide) turns (0, 4611686018427387904) 0 4611686018427387904 (u, v) turns_chain (by decide) hb (by decide) (by unfold cm cj; simp only; omega)
    rw [last_turn] at h5
    have h4 := ZZ_add (f := dir u v) (g := 1) (h := dir u v + 1) (c := 0) (by decide) (dir_lt u v) (by decide) hf (by omega)
    rw [pick0, cm_real] at h4
    have hT : Bd (ZZ 1) 4611686018427387904 := by rw [ZZ_1]; exact ⟨by decide, by decide⟩
    have := dir_high (by decide) hP h1 h5 h3 h4 hb hT
    rw [e] at this
    exact this
end Go.Proofs.Ythfgeopldbcniaa

namespace Go.Proofs.Ythfgeopldbcniaa
set_option linter.unusedVariables false
set_option linter.unusedSimpArgs false
theorem ZZ_bits : ∀ j : Nat, j < 40 → 6588397 ≤ (ZZ (2 ^ j)).2 := by decide +kernel
theorem sine_some {S xm ym xp yp xb yb : Int} (hS : S = 4611686018427387904) (hm : S / 2 ≤ xm ∨ S / 2 ≤ ym) (b1 : xb ≤ S + 80) (b2 : -2000 ≤ yp) (b3 : yb ≤ S + 80) (b4 : 6588397 ≤ yb) (b6 : -2000 ≤ xb) (b7 : yp ≤ S + 80) (b8 : -2000 ≤ xp)
    (h1 : S * xm - (xb * xp - yb * yp) ≤ 361 * S) (h2 : xb * yp + yb * xp - S * ym ≤ 361 * S) : 3000000 ≤ ym := by
  rcases hm with g | g
  · have k1 : -(2000 * (S + 80)) ≤ yb * yp := by
      rcases Int.le_total 0 yp with t | t
      · have := Int.mul_nonneg (show 0 ≤ yb by omega) t; omega
      · have := Int.mul_le_mul b3 (show -yp ≤ 2000 by omega) (by omega) (by omega)
        rw [Int.mul_neg] at this
        omega
    have k2 : S / 2 - 5000 ≤ xp := by
      rcases Int.lt_or_le xp (S / 2 - 5000) with t | t
      · exfalso
        have : xb * xp ≤ (S + 80) * (S / 2 - 5000) := by
          rcases Int.le_total 0 xp with s | s
          · exact Int.mul_le_mul b1 (Int.le_of_lt t) s (by omega)
          · rcases Int.le_total 0 xb with w | w
            · have a := Int.mul_nonneg w (show 0 ≤ -xp by omega)
              rw [Int.mul_neg] at a
              have b : 0 ≤ (S + 80) * (S / 2 - 5000) := Int.mul_nonneg (by omega) (by omega)
              omega
            · have a := Int.mul_le_mul (show -xb ≤ 2000 by omega) (show -xp ≤ 2000 by omega) (by omega) (by decide)
              rw [Int.neg_mul_neg] at a
              subst hS
              omega
        have h3 := Int.mul_le_mul_of_nonneg_left g (show 0 ≤ S by omega)
        subst hS
        omega
      · exact t
    have k3 : 6588397 * (S / 2 - 5000) ≤ yb * xp := Int.mul_le_mul b4 k2 (by omega) (by omega)
    have k4 : -(2000 * (S + 80)) ≤ xb * yp := by
      rcases Int.le_total 0 yp with t | t
      · rcases Int.le_total 0 xb with w | w
        · have := Int.mul_nonneg w t; omega
        · have := Int.mul_le_mul (show -xb ≤ 2000 by omega) b7 t (by decide)
          rw [Int.neg_mul] at this
          omega
      · rcases Int.le_total 0 xb with w | w
        · have := Int.mul_le_mul b1 (show -yp ≤ 2000 by omega) (by omega) (by omega)
          rw [Int.mul_neg] at this
          omega
        · have := Int.mul_nonneg_of_nonpos_of_nonpos w t; omega
    subst hS
    omega
  · omega
/-- No part but none has next to no sine. -/
theorem ZZ_sine {m : Nat} (h0 : 0 < m) (h : m < 2 ^ 40) : 3000000 ≤ (ZZ m).2 := by
  obtain ⟨g1, g2⟩ := (Nat.log2_eq_iff (n := m) (k := m.log2) (by omega)).1 rfl
  have hj : m.log2 < 40 := by
    rcases Nat.lt_or_ge m.log2 40 with t | t
    · exact t
    · have := Nat.pow_le_pow_right (n := 2) (by decide) t
      omega
  obtain ⟨p, hp⟩ : ∃ p, 2 ^ m.log2 + p = m := ⟨m - 2 ^ m.log2, by omega⟩
  have s := ZZ_sum (f := 2 ^ m.log2) (d := p) (by omega)
  have hb := ZZ_bits _ hj
  rw [hp] at s
  have q1 := ZZ_quad (2 ^ m.log2)
  have q2 := ZZ_quad p
  have r1 := (ZZ_le (2 ^ m.log2)).parts
  have r2 := (ZZ_le p).parts
  exact sine_some rfl (ZZ_half m) (by omega) q2.2 (by omega) hb q1.1 (by omega) q2.1 s.2.1 s.2.2.1
/-- Of two parts the greater one is not far behind a place that the other one is not far ahead of. -/
theorem no_gap {u v A B R Q : Int} {f m : Nat} (hm : 0 < m) (h : f + m < 2 ^ 40) (hb : Bd (u, v) 4611686018427387904) (hA : v * (ZZ f).1 - u * (ZZ f).2 ≤ A) (hA0 : 0 ≤ A) (hQ : -Q ≤ v * (ZZ f).1 - u * (ZZ f).2) (hQ0 : 0 ≤ Q) (hB : -B ≤ v * (ZZ (f + m)).1 - u * (ZZ (f + m)).2) (hR : R ≤ u * (ZZ f).1 + v * (ZZ f).2) (hR0 : 0 ≤ R) :
    R * 3000000 ≤ A * 4611686018427387984 + 2000 * Q + 4611686018427387904 * B + 361 * 4611686018427387904 * 4611686018427387904 := by
  have a := ZZ_add (f := f) (g := m) (h := f + m) (c := 0) (by decide) (by omega) (by omega) h (by omega)
  rw [pick0, cm_real] at a
  have b := (a.cj.mul hb).parts.2.2
  have y := ZZ_sine hm (by omega)
  have x := (ZZ_le m).parts
  have q := ZZ_quad m
  generalize ZZ f = z at *
  generalize ZZ m = w at *
  generalize ZZ (f + m) = t at *
  have e1 : (cm (cj (ck 4611686018427387904 t)) (u, v)).2 = 4611686018427387904 * (v * t.1 - u * t.2) := by unfold cm cj ck; grind
  have e2 : (cm (cj (cm z w)) (u, v)).2 = (v * z.1 - u * z.2) * w.1 - (u * z.1 + v * z.2) * w.2 := by unfold cm cj; grind
  rw [e1, e2] at b
  have k1 : R * 3000000 ≤ (u * z.1 + v * z.2) * w.2 := Int.mul_le_mul hR y (by decide) (by omega)
  have k2 : (v * z.1 - u * z.2) * w.1 ≤ A * 4611686018427387984 + 2000 * Q := by
    generalize v * z.1 - u * z.2 = g at *
    rcases Int.le_total 0 g with s | s
    · rcases Int.le_total 0 w.1 with r | r
      · have := Int.mul_le_mul hA (show w.1 ≤ 4611686018427387984 by omega) r hA0
        omega
      · have := Int.mul_nonneg s (show 0 ≤ -w.1 by omega)
        rw [Int.mul_neg] at this
        omega
    · have := Int.mul_le_mul (show -w.1 ≤ 2000 by omega) (show -g ≤ Q by omega) (by omega) (by decide)
      rw [Int.neg_mul_neg, Int.mul_comm] at this
      omega
  have k3 := Int.mul_le_mul_of_nonneg_left hB (show (0 : Int) ≤ 4611686018427387904 by decide)
  rw [Int.mul_neg] at k3
  omega
end Go.Proofs.Ythfgeopldbcniaa
