/- The law BitsFull, walked. -/
import Derived.Test.YthnmofnlcepffabBitF
namespace Go.Proofs.Ythnmofnlcepffab
open Go.RowKit Go.BigFrame
set_option linter.unusedSimpArgs false
set_option linter.unusedVariables false
/-- The number's bits again and again, then noughts. -/
def fb (v : Int) (i : Nat) : Int := if i < 524256 then v / 2 ^ (31 - i % 32) % 2 else 0
theorem fb_bits (v : Int) : Bits (fb v) := fun i => by unfold fb; split; exact Int.emod_two_eq _; exact .inl rfl
theorem fb_at (v : Int) (h0 : 0 ≤ v) (h1 : v < 4294967296) (k : Nat) (hk : k < 16383) : nb (fb v) (32 * k) 32 = v := by
  rw [nb_of v (32 * k) 32 32 (by omega) (fun j hj => by unfold fb; rw [if_pos (by omega), show (32 * k + j) % 32 = j by omega])]
  rw [Nat.sub_self, Int.pow_zero, Int.ediv_one]
  exact Int.emod_eq_of_lt h0 h1
theorem fb_noughts (v : Int) (p n : Nat) (h : 524256 ≤ p) : nb (fb v) p n = 0 := nb_noughts _ _ fun i h1 _ => if_neg (by omega)
set_option maxRecDepth 20000 in
set_option maxHeartbeats 8000000 in
theorem full_law (l : Nat) (v : Int) (w : World) (h0 : 0 ≤ v) (h1 : v < 4294967296) (hl : l ≤ 255) :
    Calls Try.prog 3 #[.int .u8 l, .int .u32 v] w fun e w' => e = .returned (.bool true) ∧ Ext w w' := by
  have hL := lives_any
  have hN := new_any w
  obtain ⟨n, hn⟩ : ∃ n : Nat, (l : Int) % 32 = (n : Int) := ⟨l % 32, by omega⟩
  have hn31 : n ≤ 31 := by omega
  have HV : Hid (∀ k, k < 16383 → nb (fb v) (32 * k) 32 = v) := fb_at v h0 h1
  have HB := fb_bits v
  have HZ : Hid (∀ p n, 524256 ≤ p → nb (fb v) p n = 0) := fb_noughts v
  generalize fb v = β at *
  go_enter Try.func3, Try.ntmps3
  go_upto_region 4 with (first | (go_at_call 4; with_reducible refine hN.mono ?_; rintro e v1 ⟨rfl, EX, HR⟩))
  replace HR := HR β HB
  have hi : ∀ k, In (w.heap.size + 1) w.heap.size (.slice none 0 0) k → w.heap.size ≤ k := by rintro k (rfl | rfl | h); omega; omega; cases h
  obtain ⟨r, hr⟩ : ∃ r, w.heap.size + 1 = r := ⟨_, rfl⟩
  obtain ⟨sh, hsh⟩ : ∃ sh, w.heap.size = sh := ⟨_, rfl⟩
  rw [hr, hsh] at HR
  rw [hr, hsh] at hi
  replace hi : ∀ k, In r sh (.slice none 0 0) k → w.heap.size ≤ k := by rw [hsh]; exact hi
  rw [hr, hn]
  generalize (Value.slice none 0 0) = u at HR hi
  clear hr hN HB
  go_loopg [7] 16383 (fun gk iv wr => ∃ k : Nat, k + gk = 16383 ∧ iv = .int .i64 k ∧ ∃ u, Row wr r sh u β (32 * k) ∧ Ext w wr ∧ ∀ k, In r sh u k → w.heap.size ≤ k)
  case atStart => exact ⟨0, rfl, rfl, u, HR, EX, hi⟩
  case round =>
    clear EX HR hi u
    obtain ⟨k, hk, rfl, u, HR, EX, hi⟩ := hrel
    by_cases hlt : k < 16383
    · have hki : (k : Int) < 16383 := by omega
      have P := put_int r sh (32 * k) 32 32 u β v _ HR rfl (by omega) (HV.out k hlt) (by omega)
      go_wp2_with (first | (go_at_call 5; with_reducible refine P.mono ?_; rintro e v2 ⟨rfl, u2, HR2, ST2⟩))
      obtain ⟨E2, i2⟩ := ST2.over EX hi
      go_roundg (gk - 1)
      case measure => omega
      case rel => exact ⟨k + 1, by omega, by go_num, u2, HR2, E2, i2⟩
    · have hki : ¬ (k : Int) < 16383 := by omega
      obtain rfl : k = 16383 := by omega
      replace HR : Row _ r sh u β 524256 := HR
      obtain ⟨d, hd⟩ : ∃ d : Nat, 32 - (n : Int) = (d : Int) := ⟨32 - n, by omega⟩
      have hd32 : d ≤ 32 := by omega
      have hnd : 524256 + d = 524288 - n := by omega
      have P1 := put_any r sh 524256 d u β 0 _ HR hd32 (HZ.out _ _ (by omega)) (by omega)
      have P2 := fun v u (R : Row v r sh u β (524256 + d)) => put_limit r sh (524256 + d) (n + 1) u β 0 v R (by omega) (by omega) (pow_pos2 _) (by omega)
      have P3 := fun v u (R : Row v r sh u β (524256 + d)) => len_lit r sh (524256 + d) (524288 - (n : Int)) u β v R (by omega)
      have P4 := fun v u (R : Row v r sh u β (524256 + d)) => put_any r sh (524256 + d) n u β 0 v R (by omega) (HZ.out _ _ (by omega)) (by omega)
      have P5 := fun v u (R : Row v r sh u β 524288) => put_int r sh 524288 0 0 u β 0 v R rfl (by omega) rfl (by omega)
      have P6 := fun v u (R : Row v r sh u β 524288) => put_limit r sh 524288 1 u β 1 v R (by omega) (by omega) (by omega) (by omega)
      have P7 := fun v u (R : Row v r sh u β 524288) => len_lit r sh 524288 524288 u β v R rfl
      have P8 := fun v u (R : Row v r sh u β 524288) => bytes_lit r sh 524288 u β v R 65536 (by omega)
      have E4 : Hid (524256 + d + n = 524288) := show _ = _ by omega
      have hin : In64 ((n : Int) + 1) := ⟨by omega, by omega⟩
      simp only [Int.natCast_add, Int.natCast_one, Int.cast_ofNat_Int] at P2 P6
      clear hnd
      go_upto_region 10 with (first
        | (go_at_call 5; with_reducible refine P1.mono ?_; rintro e v2 ⟨rfl, u2, HR2, ST2⟩; clear P1 HR)
        | (go_at_call 5; with_reducible refine (P2 _ _ HR2).mono ?_; rintro e v3 ⟨rfl, hb3⟩; have HR3 := HR2.later hb3; clear HR2 P2)
        | (go_at_call 6; with_reducible refine (P3 _ _ HR3).mono ?_; rintro e v4 ⟨rfl, hb4⟩; have HR4 := HR3.later hb4; clear HR3 P3)
        | (go_at_call 5; with_reducible refine (P4 _ _ HR4).mono ?_; rintro e v5 ⟨rfl, u5, HR5, ST5⟩; rw [E4.out] at HR5; clear P4 HR4)
        | (go_at_call 5; with_reducible refine (P5 _ _ HR5).mono ?_; rintro e v6 ⟨rfl, u6, HR6, ST6⟩; replace HR6 : Row v6 r sh u6 β 524288 := HR6; clear P5 HR5)
        | (go_at_call 5; with_reducible refine (P6 _ _ HR6).mono ?_; rintro e v7 ⟨rfl, hb7⟩; have HR7 := HR6.later hb7; clear P6 HR6))
      obtain ⟨E2, i2⟩ := ST2.over EX hi
      obtain ⟨E5, i5⟩ := ST5.over ((E2.trans hb3).trans hb4) i2
      obtain ⟨E6, i6⟩ := ST6.over E5 i5
      replace E6 := E6.trans hb7
      clear EX hi E2 i2 E5 i5 ST2 ST5 ST6 hb3 hb4 hb7
      go_wp2_with (first
        | (go_at_call 6; with_reducible refine (P7 _ _ HR7).mono ?_; rintro e v8 ⟨rfl, hb8⟩; have HR8 := HR7.later hb8; clear HR7 P7)
        | (go_at_call 7; with_reducible refine (P8 _ _ HR8).mono ?_; rintro e v9 ⟨g, rfl, AN⟩; clear HR8 P8)
        | (go_at_call 8; with_reducible refine (hL _).mono ?_; rintro e w' ⟨rfl, hb⟩))
      go_ret
      exact ⟨rfl, ((E6.trans hb8).trans AN.ext).trans hb⟩
end Go.Proofs.Ythnmofnlcepffab
