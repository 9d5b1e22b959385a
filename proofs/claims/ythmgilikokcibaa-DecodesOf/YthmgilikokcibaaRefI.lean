/- What the given function gouacheref01.Product does, called at any two numbers. -/
import Derived.Test.YthmgilikokcibaaRefE
import Derived.Test.YthmgilikokcibaaBox
namespace Go.Proofs.Ythmgilikokcibaa
open Go.RowKit Go.BigFrame
set_option linter.unusedSimpArgs false
set_option linter.unusedVariables false

/-- What is carried into digit i + k, as a digit a at place i is multiplied with Y onto Z. -/
def pc (Z a Y : Int) (i k : Nat) : Int := (Z % 65536 ^ (i + k) + a * 65536 ^ i * (Y % 65536 ^ k)) / 65536 ^ (i + k)
theorem pc_0 (Z a Y : Int) (i : Nat) : pc Z a Y i 0 = 0 := by
  unfold pc
  have := pow_pos' i
  rw [Int.pow_zero, Int.emod_one, Int.mul_zero, Int.add_zero, Nat.add_zero]
  exact Int.ediv_eq_zero_of_lt (Int.emod_nonneg _ (by omega)) (Int.emod_lt_of_pos _ this)
theorem pc_ge (Z a Y : Int) (i k : Nat) (ha : 0 ≤ a) : 0 ≤ pc Z a Y i k := by
  have p := pow_pos' i; have q := pow_pos' k; have r := pow_pos' (i + k)
  exact Int.ediv_nonneg (Int.add_nonneg (Int.emod_nonneg _ (by omega)) (Int.mul_nonneg (Int.mul_nonneg ha (by omega)) (Int.emod_nonneg _ (by omega)))) (by omega)
theorem pc_le (Z a Y : Int) (i k : Nat) (ha : 0 ≤ a) (hb : a ≤ 65535) : pc Z a Y i k ≤ 65535 := by
  have p := pow_pos' i; have q := pow_pos' k; have r := pow_pos' (i + k)
  have h1 := Int.emod_lt_of_pos Z r
  have h2 := Int.emod_lt_of_pos Y q
  have h3 := Int.emod_nonneg Y (show (65536 : Int) ^ k ≠ 0 by omega)
  have : pc Z a Y i k < 65536 := by
    unfold pc
    apply Int.ediv_lt_of_lt_mul r
    have h4 : a * 65536 ^ i * (Y % 65536 ^ k) ≤ 65535 * 65536 ^ i * 65536 ^ k :=
      Int.mul_le_mul (Int.mul_le_mul_of_nonneg_right hb (by omega)) (by omega) h3 (Int.mul_nonneg (by omega) (by omega))
    rw [Int.mul_assoc 65535, ← Int.pow_add] at h4
    omega
  omega
theorem pc_step (Z a Y : Int) (i k : Nat) : (pc Z a Y i k + dg Z (i + k) + a * dg Y k) % 65536 = dg (Z + a * 65536 ^ i * Y) (i + k) ∧ (pc Z a Y i k + dg Z (i + k) + a * dg Y k) / 65536 = pc Z a Y i (k + 1) := by
  have p := pow_pos' i; have q := pow_pos' k; have r := pow_pos' (i + k)
  have eZ := mod_next Z _ r
  have eY := mod_next Y _ q
  unfold pc dg
  rw [show i + (k + 1) = i + k + 1 from rfl, Int.pow_succ (65536 : Int) (i + k), Int.pow_succ (65536 : Int) k, eZ, eY]
  have ep : (65536 : Int) ^ (i + k) = 65536 ^ i * 65536 ^ k := Int.pow_add ..
  generalize hP : (65536 : Int) ^ (i + k) = P at *
  generalize hI : (65536 : Int) ^ i = I at *
  generalize hK : (65536 : Int) ^ k = K at *
  generalize hN : Z % P + a * I * (Y % K) = N
  have eN : Z % P + P * (Z / P % 65536) + a * I * (Y % K + K * (Y / K % 65536)) = N + P * (Z / P % 65536 + a * (Y / K % 65536)) := by
    rw [← hN, ep, Int.mul_add (a * I), Int.mul_add (I * K)]
    have : a * I * (K * (Y / K % 65536)) = I * K * (a * (Y / K % 65536)) := by
      rw [Int.mul_comm a I, Int.mul_assoc, Int.mul_assoc, ← Int.mul_assoc a K, Int.mul_comm a K, Int.mul_assoc]
    omega
  rw [eN]
  have dN := Int.mul_ediv_add_emod N P
  have n0 := Int.emod_nonneg N (show P ≠ 0 by omega)
  have n1 := Int.emod_lt_of_pos N r
  generalize hc : N / P = c at *
  generalize N % P = m at *
  generalize hz : Z / P % 65536 = dz at *
  generalize hy : Y / K % 65536 = dy at *
  have e2 : (N + P * (dz + a * dy)) = m + P * (c + dz + a * dy) := by
    rw [← dN]; simp only [Int.mul_add]; omega
  have e3 : (N + P * (dz + a * dy)) / (P * 65536) = (c + dz + a * dy) / 65536 := by
    rw [e2, ← Int.ediv_ediv_of_nonneg (by omega), Int.add_mul_ediv_left _ _ (by omega), Int.ediv_eq_zero_of_lt n0 n1, Int.zero_add]
  refine ⟨?_, e3.symm⟩
  have dZ := Int.mul_ediv_add_emod Z (P * 65536)
  have dY := Int.mul_ediv_add_emod Y (K * 65536)
  rw [eZ] at dZ
  rw [eY] at dY
  have e4 : Z + a * I * Y = m + P * (c + dz + a * dy + 65536 * (Z / (P * 65536) + a * (Y / (K * 65536)))) := by
    have f1 : a * I * Y = a * I * (Y % K + K * dy) + P * (65536 * (a * (Y / (K * 65536)))) := by
      conv => lhs; rw [← dY, Int.mul_add]
      have : a * I * (K * 65536 * (Y / (K * 65536))) = P * (65536 * (a * (Y / (K * 65536)))) := by
        rw [ep]
        generalize Y / (K * 65536) = u
        simp only [Int.mul_assoc, Int.mul_left_comm, Int.mul_comm]
      omega
    have f2 : Z = Z % P + P * dz + P * (65536 * (Z / (P * 65536))) := by
      have : P * 65536 * (Z / (P * 65536)) = P * (65536 * (Z / (P * 65536))) := Int.mul_assoc ..
      omega
    have f3 := eN
    rw [e2] at f3
    generalize Z / (P * 65536) = z1 at *
    generalize Y / (K * 65536) = y1 at *
    rw [show c + dz + a * dy + 65536 * (z1 + a * y1) = (c + dz + a * dy) + (65536 * z1 + 65536 * (a * y1)) by rw [Int.mul_add], Int.mul_add P, Int.mul_add P (65536 * z1)]
    omega
  rw [e4, Int.add_mul_ediv_left _ _ (by omega), Int.ediv_eq_zero_of_lt n0 n1, Int.zero_add, Int.add_mul_emod_self_left]
/-- The digits ahead of digit n of a row. -/
def outAt (Z T : Int) (n j : Nat) : Int := if j < n then dg T j else dg Z j
theorem dg_low (Z U : Int) (i j : Nat) (h : j < i) : dg (Z + U * 65536 ^ i) j = dg Z j := by
  unfold dg
  obtain ⟨d, rfl⟩ : ∃ d, i = j + 1 + d := ⟨i - (j + 1), by omega⟩
  have p := pow_pos' j
  have : U * 65536 ^ (j + 1 + d) = 65536 ^ j * (65536 * (U * 65536 ^ d)) := by
    rw [Int.pow_add, Int.pow_succ]
    generalize (65536 : Int) ^ j = J
    generalize (65536 : Int) ^ d = D
    simp only [Int.mul_assoc, Int.mul_left_comm, Int.mul_comm]
  rw [this, Int.add_mul_ediv_left _ _ (by omega), Int.add_mul_emod_self_left]
theorem row_next (X Y : Int) (i : Nat) : X % 65536 ^ i * Y + dg X i * 65536 ^ i * Y = X % 65536 ^ (i + 1) * Y := by
  rw [Int.pow_succ, mod_next X _ (pow_pos' i), Int.add_mul]
  unfold dg
  rw [Int.mul_comm (X / 65536 ^ i % 65536)]
theorem outAt_next (Z T : Int) (n j : Nat) : upd (outAt Z T n) n (dg T n) j = outAt Z T (n + 1) j := by
  unfold upd outAt
  by_cases h : j = n
  · rw [if_pos h, if_pos (by omega), h]
  · rw [if_neg h]
    by_cases h2 : j < n
    · rw [if_pos h2, if_pos (by omega)]
    · rw [if_neg h2, if_neg (by omega)]
set_option maxHeartbeats 8000000 in
theorem prod_any (s t : Bool) (X Y : Int) (hX : InD X) (w : World) : Calls Try.prog 50 #[(.agg #[.bool (s), .int .i64 (dg (X) 0), .int .i64 (dg (X) 1), .int .i64 (dg (X) 2), .int .i64 (dg (X) 3), .int .i64 (dg (X) 4), .int .i64 (dg (X) 5), .int .i64 (dg (X) 6), .int .i64 (dg (X) 7), .int .i64 (dg (X) 8), .int .i64 (dg (X) 9), .int .i64 (dg (X) 10), .int .i64 (dg (X) 11)]), (.agg #[.bool (t), .int .i64 (dg (Y) 0), .int .i64 (dg (Y) 1), .int .i64 (dg (Y) 2), .int .i64 (dg (Y) 3), .int .i64 (dg (Y) 4), .int .i64 (dg (Y) 5), .int .i64 (dg (Y) 6), .int .i64 (dg (Y) 7), .int .i64 (dg (Y) 8), .int .i64 (dg (Y) 9), .int .i64 (dg (Y) 10), .int .i64 (dg (Y) 11)])] w fun e w' => e = .returned (.agg #[.bool (s != t), .int .i64 (dg (X * Y) 0), .int .i64 (dg (X * Y) 1), .int .i64 (dg (X * Y) 2), .int .i64 (dg (X * Y) 3), .int .i64 (dg (X * Y) 4), .int .i64 (dg (X * Y) 5), .int .i64 (dg (X * Y) 6), .int .i64 (dg (X * Y) 7), .int .i64 (dg (X * Y) 8), .int .i64 (dg (X * Y) 9), .int .i64 (dg (X * Y) 10), .int .i64 (dg (X * Y) 11)]) ∧ Ext w w' := by
  have EX := Ext.refl w
  have hT : Hid (X % 65536 ^ 12 = X) := Int.emod_eq_of_lt hX.1 (by have := hX.2; simpa using this)
  clear hX
  go_enter Try.func50, Try.ntmps50
  go_wp2
  go_loopg [6] 12 (fun gk i wr => ∃ k : Nat, k + gk = 12 ∧ i = .int .i64 k ∧ Ext w wr ∧ Nm wr w.heap.size s (dg X) ∧ Nm wr (w.heap.size + 1) t (dg Y) ∧ Nm wr (w.heap.size + 1 + 1) false (fun _ => 0) ∧ Dm wr (w.heap.size + 1 + 1 + 1) (dg (X % 65536 ^ k * Y)))
  case atStart =>
    refine ⟨0, rfl, rfl, by repeat (first | with_reducible exact EX | with_reducible refine Ext.alloc ?_ _ | with_reducible refine Ext.drew ?_ | with_reducible refine Ext.drewN ?_ _ | with_reducible refine Ext.setCell ?_ (by first | (simp; done) | omega | (dsimp only; omega)) _), ?_, ?_, ?_, ?_⟩
    · repeat (first | with_reducible assumption | with_reducible refine Nm.drew ?_ | with_reducible refine Nm.drewN ?_ _ | (with_reducible refine Nm.skip ?_ ?_; focus (first | omega | (simp; done))) | with_reducible refine Nm.store ?_ rfl rfl rfl rfl rfl rfl rfl rfl rfl rfl rfl rfl rfl | with_reducible refine Nm.new (by first | rfl | (simp; done) | with_unfolding_all rfl) (by with_unfolding_all rfl) (all12 (by with_unfolding_all rfl) (by with_unfolding_all rfl) (by with_unfolding_all rfl) (by with_unfolding_all rfl) (by with_unfolding_all rfl) (by with_unfolding_all rfl) (by with_unfolding_all rfl) (by with_unfolding_all rfl) (by with_unfolding_all rfl) (by with_unfolding_all rfl) (by with_unfolding_all rfl) (by with_unfolding_all rfl)) | with_reducible refine Nm.alloc ?_ _ | exact Nm.any (by with_reducible assumption) | with_reducible refine NmAny.drew ?_ | with_reducible refine NmAny.drewN ?_ _ | (with_reducible refine NmAny.skip ?_ ?_; focus (first | omega | (simp; done))) | with_reducible refine NmAny.alloc ?_ _)
    · repeat (first | with_reducible assumption | with_reducible refine Nm.drew ?_ | with_reducible refine Nm.drewN ?_ _ | (with_reducible refine Nm.skip ?_ ?_; focus (first | omega | (simp; done))) | with_reducible refine Nm.store ?_ rfl rfl rfl rfl rfl rfl rfl rfl rfl rfl rfl rfl rfl | with_reducible refine Nm.new (by first | rfl | (simp; done) | with_unfolding_all rfl) (by with_unfolding_all rfl) (all12 (by with_unfolding_all rfl) (by with_unfolding_all rfl) (by with_unfolding_all rfl) (by with_unfolding_all rfl) (by with_unfolding_all rfl) (by with_unfolding_all rfl) (by with_unfolding_all rfl) (by with_unfolding_all rfl) (by with_unfolding_all rfl) (by with_unfolding_all rfl) (by with_unfolding_all rfl) (by with_unfolding_all rfl)) | with_reducible refine Nm.alloc ?_ _ | exact Nm.any (by with_reducible assumption) | with_reducible refine NmAny.drew ?_ | with_reducible refine NmAny.drewN ?_ _ | (with_reducible refine NmAny.skip ?_ ?_; focus (first | omega | (simp; done))) | with_reducible refine NmAny.alloc ?_ _)
    · repeat (first | with_reducible assumption | with_reducible refine Nm.drew ?_ | with_reducible refine Nm.drewN ?_ _ | (with_reducible refine Nm.skip ?_ ?_; focus (first | omega | (simp; done))) | with_reducible refine Nm.store ?_ rfl rfl rfl rfl rfl rfl rfl rfl rfl rfl rfl rfl rfl | with_reducible refine Nm.new (by first | rfl | (simp; done) | with_unfolding_all rfl) (by with_unfolding_all rfl) (all12 (by with_unfolding_all rfl) (by with_unfolding_all rfl) (by with_unfolding_all rfl) (by with_unfolding_all rfl) (by with_unfolding_all rfl) (by with_unfolding_all rfl) (by with_unfolding_all rfl) (by with_unfolding_all rfl) (by with_unfolding_all rfl) (by with_unfolding_all rfl) (by with_unfolding_all rfl) (by with_unfolding_all rfl)) | with_reducible refine Nm.alloc ?_ _ | exact Nm.any (by with_reducible assumption) | with_reducible refine NmAny.drew ?_ | with_reducible refine NmAny.drewN ?_ _ | (with_reducible refine NmAny.skip ?_ ?_; focus (first | omega | (simp; done))) | with_reducible refine NmAny.alloc ?_ _)
    · rw [Int.pow_zero, Int.emod_one, Int.zero_mul]
      refine Dm.new (by simp) (all12 ?_ ?_ ?_ ?_ ?_ ?_ ?_ ?_ ?_ ?_ ?_ ?_) <;> rw [dg_of0] <;> rfl
  case round =>
    obtain ⟨k, hk, rfl, EX, NA, NB, NR, DO⟩ := hrel
    by_cases hlt : k < 12
    · go_wp2
      go_loopg [7, 8] (12 - k) (fun gj keep kk wr => ∃ j : Nat, k + j + gj = 12 ∧ kk = .int .i64 j ∧ keep = .int .i64 (pc (X % 65536 ^ k * Y) (dg X k) Y k j) ∧ Ext w wr ∧ Nm wr w.heap.size s (dg X) ∧ Nm wr (w.heap.size + 1) t (dg Y) ∧ Nm wr (w.heap.size + 1 + 1) false (fun _ => 0) ∧
        Dm wr (w.heap.size + 1 + 1 + 1) (outAt (X % 65536 ^ k * Y) (X % 65536 ^ (k + 1) * Y) (k + j)))
      case atStart =>
        refine ⟨0, by omega, rfl, by rw [pc_0], EX, NA, NB, NR, DO.eq fun i _ => ?_⟩
        unfold outAt
        by_cases h : i < k
        · rw [if_pos (by omega), ← row_next, Int.mul_assoc, Int.mul_comm (65536 ^ k), ← Int.mul_assoc, dg_low _ _ _ _ h]
        · rw [if_neg (by omega)]
      case round =>
        clear EX NA NB NR DO
        obtain ⟨j, hj, rfl, rfl, EX, NA, NB, NR, DO⟩ := hrel
        by_cases hin : k + j < 12
        · have S := pc_step (X % 65536 ^ k * Y) (dg X k) Y k j
          rw [row_next] at S
          have u0 := dg_0 X k; have u1 := dg_1 X k
          have g0 := pc_ge (X % 65536 ^ k * Y) (dg X k) Y k j u0
          have g1 := pc_le (X % 65536 ^ k * Y) (dg X k) Y k j u0 u1
          have c1 := DO.dg (k + j) hin
          rw [show outAt (X % 65536 ^ k * Y) (X % 65536 ^ (k + 1) * Y) (k + j) (k + j) = dg (X % 65536 ^ k * Y) (k + j) by unfold outAt; rw [if_neg (by omega)]] at c1
          have c2 : wr.cell? ⟨w.heap.size, 1 + k, none⟩ = some (.int .i64 (dg X k)) := by rw [Nat.add_comm 1 k]; exact NA.dg k hlt
          have c3 : wr.cell? ⟨w.heap.size + 1, 1 + j, none⟩ = some (.int .i64 (dg Y j)) := by rw [Nat.add_comm 1 j]; exact NB.dg j (by omega)
          have z1 := DO.fz (k + j)
          have v0 := dg_0 Y j; have v1 := dg_1 Y j
          have x0 := dg_0 (X % 65536 ^ k * Y) (k + j); have x1 := dg_1 (X % 65536 ^ k * Y) (k + j)
          have y0 : 0 ≤ dg X k * dg Y j := Int.mul_nonneg u0 v0
          have y1 : dg X k * dg Y j ≤ 4294836225 := Int.le_trans (Int.mul_le_mul u1 v1 v0 (by decide)) (by decide)
          have HS : Hid ((pc (X % 65536 ^ k * Y) (dg X k) Y k j + dg (X % 65536 ^ k * Y) (k + j) + dg X k * dg Y j) % 65536 = dg (X % 65536 ^ (k + 1) * Y) (k + j) ∧ (pc (X % 65536 ^ k * Y) (dg X k) Y k j + dg (X % 65536 ^ k * Y) (k + j) + dg X k * dg Y j) / 65536 = pc (X % 65536 ^ k * Y) (dg X k) Y k (j + 1)) := S
          clear S
          generalize hZ : X % 65536 ^ k * Y = Z at *
          generalize hU : X % 65536 ^ (k + 1) * Y = U at *
          clear hZ hU
          have hii : (k : Int) + (j : Int) < 12 := by omega
          go_wp2
          go_region
          go_wp2
          go_roundg (gk - 1)
          case measure => omega
          case rel =>
            go_light
            refine ⟨j + 1, by omega, by go_num, by rw [HS.out.2], by repeat (first | with_reducible exact EX | with_reducible refine Ext.alloc ?_ _ | with_reducible refine Ext.drew ?_ | with_reducible refine Ext.drewN ?_ _ | with_reducible refine Ext.setCell ?_ (by first | (simp; done) | omega | (dsimp only; omega)) _), ?_, ?_, ?_, ?_⟩
            · repeat (first | with_reducible assumption | with_reducible refine Nm.drew ?_ | with_reducible refine Nm.drewN ?_ _ | (with_reducible refine Nm.skip ?_ ?_; focus (first | omega | (simp; done))) | with_reducible refine Nm.store ?_ rfl rfl rfl rfl rfl rfl rfl rfl rfl rfl rfl rfl rfl | with_reducible refine Nm.new (by first | rfl | (simp; done) | with_unfolding_all rfl) (by with_unfolding_all rfl) (all12 (by with_unfolding_all rfl) (by with_unfolding_all rfl) (by with_unfolding_all rfl) (by with_unfolding_all rfl) (by with_unfolding_all rfl) (by with_unfolding_all rfl) (by with_unfolding_all rfl) (by with_unfolding_all rfl) (by with_unfolding_all rfl) (by with_unfolding_all rfl) (by with_unfolding_all rfl) (by with_unfolding_all rfl)) | with_reducible refine Nm.alloc ?_ _ | exact Nm.any (by with_reducible assumption) | with_reducible refine NmAny.drew ?_ | with_reducible refine NmAny.drewN ?_ _ | (with_reducible refine NmAny.skip ?_ ?_; focus (first | omega | (simp; done))) | with_reducible refine NmAny.alloc ?_ _)
            · repeat (first | with_reducible assumption | with_reducible refine Nm.drew ?_ | with_reducible refine Nm.drewN ?_ _ | (with_reducible refine Nm.skip ?_ ?_; focus (first | omega | (simp; done))) | with_reducible refine Nm.store ?_ rfl rfl rfl rfl rfl rfl rfl rfl rfl rfl rfl rfl rfl | with_reducible refine Nm.new (by first | rfl | (simp; done) | with_unfolding_all rfl) (by with_unfolding_all rfl) (all12 (by with_unfolding_all rfl) (by with_unfolding_all rfl) (by with_unfolding_all rfl) (by with_unfolding_all rfl) (by with_unfolding_all rfl) (by with_unfolding_all rfl) (by with_unfolding_all rfl) (by with_unfolding_all rfl) (by with_unfolding_all rfl) (by with_unfolding_all rfl) (by with_unfolding_all rfl) (by with_unfolding_all rfl)) | with_reducible refine Nm.alloc ?_ _ | exact Nm.any (by with_reducible assumption) | with_reducible refine NmAny.drew ?_ | with_reducible refine NmAny.drewN ?_ _ | (with_reducible refine NmAny.skip ?_ ?_; focus (first | omega | (simp; done))) | with_reducible refine NmAny.alloc ?_ _)
            · repeat (first | with_reducible assumption | with_reducible refine Nm.drew ?_ | with_reducible refine Nm.drewN ?_ _ | (with_reducible refine Nm.skip ?_ ?_; focus (first | omega | (simp; done))) | with_reducible refine Nm.store ?_ rfl rfl rfl rfl rfl rfl rfl rfl rfl rfl rfl rfl rfl | with_reducible refine Nm.new (by first | rfl | (simp; done) | with_unfolding_all rfl) (by with_unfolding_all rfl) (all12 (by with_unfolding_all rfl) (by with_unfolding_all rfl) (by with_unfolding_all rfl) (by with_unfolding_all rfl) (by with_unfolding_all rfl) (by with_unfolding_all rfl) (by with_unfolding_all rfl) (by with_unfolding_all rfl) (by with_unfolding_all rfl) (by with_unfolding_all rfl) (by with_unfolding_all rfl) (by with_unfolding_all rfl)) | with_reducible refine Nm.alloc ?_ _ | exact Nm.any (by with_reducible assumption) | with_reducible refine NmAny.drew ?_ | with_reducible refine NmAny.drewN ?_ _ | (with_reducible refine NmAny.skip ?_ ?_; focus (first | omega | (simp; done))) | with_reducible refine NmAny.alloc ?_ _)
            · rw [HS.out.1]
              exact ((DO.set (k + j) _).eq fun i _ => outAt_next Z U (k + j) i).drew
        · have hj12 : k + j = 12 := by omega
          have hii : ¬ ((k : Int) + (j : Int) < 12) := by omega
          replace DO : Dm wr (w.heap.size + 1 + 1 + 1) (dg (X % 65536 ^ (k + 1) * Y)) := DO.eq fun i hi => by unfold outAt; rw [if_pos (by omega)]
          have HJ : Hid (k + j = 12) := hj12
          clear hj12
          go_wp2
          go_roundg (11 - k)
          case measure => omega
          case rel =>
            go_light
            exact ⟨k + 1, by omega, by go_num, EX, NA, NB, NR, DO⟩
    · obtain rfl : k = 12 := by omega
      rw [hT.out] at DO
      have NAsg := NA.sg; have NAdg := NA.dg; have NAfz := NA.fz; have NAlt := NA.lt; have NBsg := NB.sg; have NBdg := NB.dg; have NBfz := NB.fz; have NBlt := NB.lt; have NRsg := NR.sg; have NRdg := NR.dg; have NRfz := NR.fz; have NRlt := NR.lt; have DOdg := DO.dg; have DOfz := DO.fz; have DOlt := DO.lt
      go_wp2
      refine bodyPost_ret (by simp only [results, Try.results50]; simp [go_sem, *]; first | rfl | (cases s <;> cases t <;> rfl)) rfl ⟨rfl, ?_⟩; repeat (first | with_reducible exact EX | with_reducible refine Ext.alloc ?_ _ | with_reducible refine Ext.drew ?_ | with_reducible refine Ext.drewN ?_ _ | with_reducible refine Ext.setCell ?_ (by first | (simp; done) | omega | (dsimp only; omega)) _)
end Go.Proofs.Ythmgilikokcibaa
