/- What Put of package bits does to a row. -/
import Derived.Test.YtemcppakmcffgaaDoorBitC
namespace Go.Proofs.YtemcppakmcffgaaDoor
open Go.RowKit Go.BigFrame
set_option linter.unusedSimpArgs false
set_option linter.unusedVariables false

theorem div_small {v : Int} {k : Nat} (h0 : 0 ≤ v) (h1 : v < 2 ^ k) : v / 2 ^ k = 0 := Int.ediv_eq_zero_of_lt h0 h1
theorem div_great {v : Int} {k : Nat} (h1 : 2 ^ k ≤ v) : (v / 2 ^ k != 0) = true := by
  have : 1 ≤ v / 2 ^ k := by
    rw [Int.le_ediv_iff_mul_le (pow_pos2 k)]
    omega
  simp; omega
theorem put_nil (v n : Int) (w : World) : Calls Tryd.prog 77 #[.pointer none, .int .u32 v, .int .i64 n] w fun e w' => e = .returned (.int .i64 2) ∧ w' = w := by
  go_enter Tryd.func77, Tryd.ntmps77
  go_wp2
  go_step3
  go_wp2_with (first | (go_at_call 89; with_reducible refine (isThere_nil _).mono ?_; rintro e w' ⟨rfl, rfl⟩))
  rw [Exit.noGoto_ret]; go_ret
  exact ⟨rfl, rfl⟩
theorem put_void (r : Nat) (v n : Int) (w : World) (h : w.cell? ⟨r, 0, none⟩ = some (.pointer none)) : Calls Tryd.prog 77 #[.pointer (some ⟨r, 0, none⟩), .int .u32 v, .int .i64 n] w fun e w' => e = .returned (.int .i64 2) ∧ w' = w := by
  go_enter Tryd.func77, Tryd.ntmps77
  go_wp2
  go_step3
  go_wp2_with (first | (go_at_call 89; with_reducible refine (isThere_void _ _ h).mono ?_; rintro e w' ⟨rfl, rfl⟩))
  rw [Exit.noGoto_ret]; go_ret
  exact ⟨rfl, rfl⟩
set_option maxHeartbeats 1600000 in
theorem put_arg (r sh n : Nat) (u : Value) (β : Nat → Int) (v k : Int) (w : World) (R : Row w r sh u β n) (h0 : 0 ≤ v) (h1 : v < 4294967296) (hk : In64 k) (h : k < 0 ∨ 32 < k ∨ (0 ≤ k ∧ k ≤ 32 ∧ 2 ^ k.toNat ≤ v)) :
    Calls Tryd.prog 77 #[.pointer (some ⟨r, 0, none⟩), .int .u32 v, .int .i64 k] w fun e w' => e = .returned (.int .i64 1) ∧ Ext w w' := by
  have EX := Ext.refl w
  have c0 := R.box.c0
  clear R
  rcases (show k < 0 ∨ (¬ k < 0 ∧ 32 < k) ∨ (0 ≤ k ∧ k ≤ 32 ∧ 2 ^ k.toNat ≤ v) by omega) with h | ⟨h, h'⟩ | ⟨h, h', h''⟩
  · go_enter Tryd.func77, Tryd.ntmps77
    go_wp2
    go_step3
    go_wp2_with (first | (go_at_call 89; with_reducible refine (isThere_any _ _ _ c0).mono ?_; rintro e w' ⟨rfl, rfl⟩))
    rw [Exit.noGoto_ret]; go_ret
    exact ⟨rfl, EX⟩
  · go_enter Tryd.func77, Tryd.ntmps77
    go_wp2
    go_step3
    go_wp2_with (first | (go_at_call 89; with_reducible refine (isThere_any _ _ _ c0).mono ?_; rintro e w' ⟨rfl, rfl⟩))
    rw [Exit.noGoto_ret]; go_ret
    exact ⟨rfl, EX⟩
  · obtain ⟨j, rfl⟩ := Int.eq_ofNat_of_zero_le h
    have hj : (v / 2 ^ j != 0) = true := div_great h''
    have hj2 : j ≤ 32 := by omega
    clear h h' h''
    go_enter Tryd.func77, Tryd.ntmps77
    go_wp2
    go_step3
    go_wp2_with (first | (go_at_call 89; with_reducible refine (isThere_any _ _ _ c0).mono ?_; rintro e w' ⟨rfl, rfl⟩))
    rw [Exit.noGoto_ret]; go_ret
    exact ⟨rfl, EX⟩
set_option maxHeartbeats 1600000 in
theorem put_limit (r sh n k : Nat) (u : Value) (β : Nat → Int) (v : Int) (w : World) (R : Row w r sh u β n) (h0 : 0 ≤ v) (hk : k ≤ 32) (h1 : v < 2 ^ k) (h : 524288 < n + k) :
    Calls Tryd.prog 77 #[.pointer (some ⟨r, 0, none⟩), .int .u32 v, .int .i64 k] w fun e w' => e = .returned (.int .i64 3) ∧ Ext w w' := by
  have EX := Ext.refl w
  have c0 := R.box.c0
  have hj : v / 2 ^ k = 0 := div_small h0 h1
  have hL := len_any r sh n u β w R
  have hle := R.le
  have v1 : v < 4294967296 := by have := pow32 hk; omega
  clear R
  go_enter Tryd.func77, Tryd.ntmps77
  go_wp2
  go_step3
  go_wp2_with (first | (go_at_call 89; with_reducible refine (isThere_any _ _ _ c0).mono ?_; rintro e w' ⟨rfl, rfl⟩) | (go_at_call 90; with_reducible refine hL.mono ?_; rintro e v1 ⟨rfl, hb⟩; replace EX := Ext.trans EX hb))
  rw [Exit.noGoto_ret]; go_ret
  exact ⟨rfl, EX⟩
set_option maxRecDepth 20000 in
set_option maxHeartbeats 4000000 in
theorem put_any (r sh n k : Nat) (u : Value) (β : Nat → Int) (v : Int) (w : World) (R : Row w r sh u β n) (hk : k ≤ 32) (hv : nb β n k = v) (h : n + k ≤ 524288) :
    Calls Tryd.prog 77 #[.pointer (some ⟨r, 0, none⟩), .int .u32 v, .int .i64 k] w fun e w' => e = .returned (.int .i64 0) ∧ ∃ u', Row w' r sh u' β (n + k) ∧ Stp w w' r sh u u' := by
  have c0 := R.box.c0
  have hvk := nb_in R.bits n k
  rw [hv] at hvk
  obtain ⟨h0, h1⟩ := hvk
  have hj : v / 2 ^ k = 0 := div_small h0 h1
  have hL := len_any r sh n u β w R
  have hle := R.le
  have v1 : v < 4294967296 := by have := pow32 hk; omega
  have HV : Hid (nb β n k = v) := hv
  have HR : Hid (Row w r sh u β n) := R
  clear R hv
  go_enter Tryd.func77, Tryd.ntmps77
  go_wp2
  refine wp_back 0 (fun a' w' => ∃ (u' : Value) (j m : Nat) (u3 u4 u5 u7 u8 u9 u10 u11 u12 u13 u14 u15 u16 u17 u18 u19 u20 u21 u22 u23 u24 u25 u26 u27 u28 u29 u30 u31 u32 u33 u34 u35 u36 u37 u38 u39 u40 u41 u42 u43 u44 u45 : Value), Row w' r sh u' β (n + j) ∧ Stp w w' r sh u u' ∧ j + m = k ∧ a' = { tmps := #[.pointer (some ⟨r, 0, none⟩), .int .u32 v, .int .i64 m, u3, u4, u5, .int .i64 0, u7, u8, u9, u10, u11, u12, u13, u14, u15, u16, u17, u18, u19, u20, u21, u22, u23, u24, u25, u26, u27, u28, u29, u30, u31, u32, u33, u34, u35, u36, u37, u38, u39, u40, u41, u42, u43, u44, u45], defers := [] }) (fun a' _ => (match a'.tmps.getD 2 undef with | .int _ z => z.toNat | _ => 0)) rfl ?_ ?_
  · intro core
    go_wp2_with (first | (go_at_call 89; with_reducible refine (isThere_any _ _ _ c0).mono ?_; rintro e w' ⟨rfl, rfl⟩) | (go_at_call 90; with_reducible refine hL.mono ?_; rintro e v1 ⟨rfl, hb⟩))
    go_step3
    rename_i hK
    exact hK _ _ (core _ _ ⟨u, 0, k, _, _, _, _, _, _, _, _, _, _, _, _, _, _, _, _, _, _, _, _, _, _, _, _, _, _, _, _, _, _, _, _, _, _, _, _, _, _, _, _, _, _, HR.out.later hb, Stp.of _ _ _ hb, by omega, rfl⟩)
  · rintro a' w' ⟨u', j, m, u3, u4, u5, u7, u8, u9, u10, u11, u12, u13, u14, u15, u16, u17, u18, u19, u20, u21, u22, u23, u24, u25, u26, u27, u28, u29, u30, u31, u32, u33, u34, u35, u36, u37, u38, u39, u40, u41, u42, u43, u44, u45, R, ST, hjm, rfl⟩
    clear c0 hL
    by_cases hm : m = 0
    · subst hm
      obtain rfl : j = k := by omega
      clear HR HV
      go_wp2
      simp only [Exit.jump]
      go_ret
      exact ⟨rfl, u', R, ST⟩
    · have hm0 : ((m : Int) == 0) = false := by simp; omega
      have c3 := R.box.c3
      obtain ⟨f, hf⟩ : ∃ f : Nat, 8 - (n + j) % 8 = f := ⟨_, rfl⟩
      rw [hf] at c3
      obtain ⟨q, hq⟩ : ∃ q : Nat, (if f < m then (f : Int) else (m : Int)) = (q : Int) := ⟨if f < m then f else m, by split <;> rfl⟩
      have hq' : q ≤ m ∧ q ≤ f ∧ (0 < f → 0 < q) := by split at hq <;> omega
      obtain ⟨m', hm'⟩ : ∃ m' : Nat, (m : Int) - (q : Int) = (m' : Int) := ⟨m - q, by omega⟩
      have hpc : v / 2 ^ m' % 2 ^ q = nb β (n + j) q := by
        rw [← HV.out, show k = j + q + m' by omega, nb_piece R.bits]
      have P1 := fun w => piece_any v m' q h0 v1 (by omega) (by omega) w
      rw [hpc] at P1
      have T1 := fun w1 (hb : Ext w' w1) => take_any r sh (n + j) q u' β w1 (R.later hb) (by omega) (by omega)
      have HN : Hid (j + q + m' = k ∧ m' < m ∧ 0 < m) := ⟨by omega, by omega, by omega⟩
      have f8 : f ≤ 8 := by omega
      generalize nb β (n + j) q = p at *
      clear HR hpc hq' hm hf HV
      go_wp2_with (first | (go_at_call 92; with_reducible refine (P1 _).mono ?_; rintro e v1 ⟨rfl, hb⟩) | (go_at_call 91; with_reducible refine (T1 _ hb).mono ?_; rintro e v2 ⟨rfl, u'', R2, ST2⟩))
      go_step3
      refine ⟨rfl, ⟨u'', j + q, m', _, _, _, _, _, _, _, _, _, _, _, _, _, _, _, _, _, _, _, _, _, _, _, _, _, _, _, _, _, _, _, _, _, _, _, _, _, _, _, _, _, _, by rw [← Nat.add_assoc]; exact R2, ST.trans ((Stp.of _ _ _ hb).trans ST2), HN.out.1, rfl⟩, ?hmes⟩
      case hmes => simp; have := HN.out.2; omega
end Go.Proofs.YtemcppakmcffgaaDoor
