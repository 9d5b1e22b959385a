/- The given helper marked, on lists of bytes. -/
import Derived.Test.YthnmofnlcepffaaBitQ
namespace Go.Proofs.Ythnmofnlcepffaa
open Go.RowKit Go.BigFrame
set_option linter.unusedSimpArgs false
set_option linter.unusedVariables false
set_option maxRecDepth 20000 in
set_option maxHeartbeats 8000000 in
theorem marked_any (s n cap : Nat) (G L : Nat → Nat) (J : Nat → Value) (w : World) (hn : n ≤ 200) (V : Vm w s (n * 3) (sf G L J)) (rows : ∀ i, i < n → w.rowIs (G i) 5 (L i) (fun _ => mk i))
    (long : ∀ i, i < n → ∃ H, Lng w H (J i) (L i + 24) i) (le : ∀ i, i < n → L i ≤ 65536) :
    Calls Try.prog 63 #[.slice (some ⟨s, 0, none⟩) n cap] w fun e w' => e = .returned (.bool true) ∧ Ext w w' := by
  have HV : Hid (Vm w s (n * 3) (sf G L J)) := V
  have HR : Hid (∀ i, i < n → w.rowIs (G i) 5 (L i) (fun _ => mk i)) := rows
  have HL : Hid (∀ i, i < n → ∃ H, Lng w H (J i) (L i + 24) i) := long
  have HLE : Hid (∀ i, i < n → L i ≤ 65536) := le
  clear V rows long le
  go_enter Try.func63, Try.ntmps63
  go_upto_region 2 with fail
  go_loopg [3] n (fun gk iv wr => ∃ i : Nat, i + gk = n ∧ iv = .int .i64 i ∧ Ext w wr)
  case atStart => exact ⟨0, by omega, rfl, Ext.refl w⟩
  case round =>
    obtain ⟨i, hi, rfl, EX⟩ := hrel
    obtain ⟨gko, hgko⟩ : ∃ x, x = gk := ⟨_, rfl⟩
    subst hgko
    by_cases hlt : i < n
    · have hii : (i : Int) < (n : Int) := by omega
      have c0w := HV.out.dg (i * 3) (by omega)
      have c1w := HV.out.dg (i * 3 + 1) (by omega)
      have c2w := HV.out.dg (i * 3 + 2) (by omega)
      rw [sf0] at c0w
      rw [sf1] at c1w
      rw [sf2] at c2w
      have hLi := HLE.out i hlt
      have hi200 : i < 200 := by omega
      have RW := HR.out i hlt
      obtain ⟨H, LO, _⟩ := HL.out i hlt
      obtain ⟨d, cd, hJ, _, _⟩ := LO.form (by omega)
      rw [hJ] at c1w LO
      clear hJ
      generalize L i = l at *
      generalize G i = g at *
      obtain ⟨m, hm⟩ : ∃ m, l + 24 = m := ⟨_, rfl⟩
      rw [hm] at c1w LO
      have lm : l ≤ m := by omega
      have m9 : m ≤ 70000 := by omega
      go_upto_region 5 with fail
      go_loopg [4] m (fun gk kv wr => ∃ k : Nat, k + gk = m ∧ kv = .int .i64 k ∧ Ext w wr)
      case atStart => exact ⟨0, by omega, rfl, EX⟩
      case round =>
        clear EX
        obtain ⟨k, hk, rfl, EX⟩ := hrel
        obtain ⟨v0, hv0⟩ : ∃ v0, v0 = wr := ⟨_, rfl⟩
        subst hv0
        have c0 := EX.later c0w
        have c1 := EX.later c1w
        have c2 := EX.later c2w
        by_cases hkm : k < m
        · have hkm' : (k : Int) < (m : Int) := by omega
          have cJ := EX.later (LO.cells (g := d) rfl k _ (vl_at m _ hkm))
          rw [Addr.add_mid, Nat.zero_add] at cJ
          unfold mk at cJ
          go_upto_region 7 with fail
          have gA := fun x' : Grow v0 => x'.ext.later c0
          have gB := fun x' : Grow v0 => x'.ext.later c1
          have gC := fun x' : Grow v0 => x'.ext.later c2
          have gD := fun x' : Grow v0 => x'.ext.later cJ
          by_cases hkl : k < l
          · have hkl' : (k : Int) < (l : Int) := by omega
            have cL := EX.later (RW.cell hkl)
            unfold mk at cL
            have gE := fun x' : Grow v0 => x'.ext.later cL
            have d1 : decide ((k : Int) < (l : Int)) = true := decide_eq_true hkl'
            have d2 : decide (k < l) = true := decide_eq_true hkl
            refine wp_region_grow (by kernel_rfl) (by kernel_rfl) ?_; (repeat (first | go_big_quiet_step (fail))); refine wpQuiet_nil ?_; clear gA gB gC gD gE; rintro _ ⟨xq, rfl⟩; replace EX := Ext.trans EX xq.ext; generalize xq.out = v1 at *
            go_wp2
            go_roundg (gk - 1)
            case measure => omega
            case rel => exact ⟨k + 1, by omega, by go_num, EX⟩
          · have hkl' : ¬ (k : Int) < (l : Int) := by omega
            have d1 : decide ((k : Int) < (l : Int)) = false := decide_eq_false hkl'
            have d2 : decide (k < l) = false := decide_eq_false hkl
            refine wp_region_grow (by kernel_rfl) (by kernel_rfl) ?_; (repeat (first | go_big_quiet_step (fail))); refine wpQuiet_nil ?_; clear gA gB gC gD; rintro _ ⟨xq, rfl⟩; replace EX := Ext.trans EX xq.ext; generalize xq.out = v1 at *
            go_wp2
            go_roundg (gk - 1)
            case measure => omega
            case rel => exact ⟨k + 1, by omega, by go_num, EX⟩
        · have hkm' : ¬ (k : Int) < (m : Int) := by omega
          go_wp2
          go_roundg (gko - 1)
          case measure => omega
          case rel => exact ⟨i + 1, by omega, by go_num, EX⟩
    · have hii : ¬ (i : Int) < (n : Int) := by omega
      go_wp2
      go_ret
      exact ⟨rfl, EX⟩
end Go.Proofs.Ythnmofnlcepffaa
