/- The given helper fill, on lists of bytes. -/
import Derived.Test.YthnmofnlcepffaaBitN
namespace Go.Proofs.Ythnmofnlcepffaa
open Go.RowKit Go.BigFrame
set_option linter.unusedSimpArgs false
set_option linter.unusedVariables false
def mk (i : Nat) : Value := .int .u8 ((i + 1 : Nat) : Int)
/-- The lists ahead of i are filled, of the list i the first kk. -/
def Fil (w v : World) (n : Nat) (G L : Nat → Nat) (i kk : Nat) : Prop :=
  Chg (fun b => ∃ j, j < n ∧ b = G j) w v ∧ ∀ j, j < n → ∃ f, v.rowIs (G j) 5 (L j) f ∧ ∀ k, k < L j → (j < i ∨ (j = i ∧ k < kk)) → f k = mk j
theorem Fil.next {w v : World} {n : Nat} {G L : Nat → Nat} {i : Nat} (h : Fil w v n G L i (L i)) : Fil w v n G L (i + 1) 0 :=
  ⟨h.1, fun j hj => by
    obtain ⟨f, h1, h2⟩ := h.2 j hj
    refine ⟨f, h1, fun k hk hc => h2 k hk ?_⟩
    by_cases e : j = i
    · subst e; exact .inr ⟨rfl, hk⟩
    · left; omega⟩
theorem Fil.drew {w v : World} {n : Nat} {G L : Nat → Nat} {i kk : Nat} (h : Fil w v n G L i kk) : Fil w v.drew n G L i kk := ⟨h.1.drew, h.2⟩
theorem Fil.set {w v : World} {n : Nat} {G L : Nat → Nat} {i kk : Nat} (inj : ∀ i j, i < n → j < n → G i = G j → i = j) (hi : i < n) (h : Fil w v n G L i kk) : Fil w (v.setCell ⟨G i, kk, none⟩ (mk i)) n G L i (kk + 1) :=
  ⟨h.1.setCell (.inl ⟨i, hi, rfl⟩) _, fun j hj => by
    obtain ⟨f, h1, h2⟩ := h.2 j hj
    by_cases e : j = i
    · subst e
      refine ⟨_, h1.set kk (mk j), fun k hk hc => ?_⟩
      show (if k = kk then mk j else f k) = mk j
      by_cases ek : k = kk
      · rw [if_pos ek]
      · rw [if_neg ek]
        exact h2 k hk (by omega)
    · refine ⟨f, h1.setOther (fun e2 => e (inj j i hj hi e2)) _, fun k hk hc => h2 k hk (by omega)⟩⟩
set_option maxRecDepth 20000 in
set_option maxHeartbeats 8000000 in
theorem fill_any (s n cap : Nat) (G L : Nat → Nat) (J : Nat → Value) (w : World) (hn : n ≤ 200) (V : Vm w s (n * 3) (sf G L J)) (rows : ∀ i, i < n → ∃ f, w.rowIs (G i) 5 (L i) f) (inj : ∀ i j, i < n → j < n → G i = G j → i = j)
    (ns : ∀ i, i < n → G i ≠ s) (le : ∀ i, i < n → L i ≤ 65536) :
    Calls Try.prog 37 #[.slice (some ⟨s, 0, none⟩) n cap] w fun e w' => e = .returned (.tuple #[]) ∧ Fil w w' n G L n 0 := by
  have HV : Hid (Vm w s (n * 3) (sf G L J)) := V
  have HI : Hid (∀ i j, i < n → j < n → G i = G j → i = j) := inj
  have HNS : Hid (∀ i, i < n → G i ≠ s) := ns
  have HLE : Hid (∀ i, i < n → L i ≤ 65536) := le
  have F0 : Fil w w n G L 0 0 := ⟨Chg.refl _ _, fun j hj => by
    obtain ⟨f, hf⟩ := rows j hj
    exact ⟨f, hf, fun k _ hc => by omega⟩⟩
  clear V inj ns le rows
  go_enter Try.func37, Try.ntmps37
  go_upto_region 1 with fail
  go_loopg [2] n (fun gk iv wr => ∃ i : Nat, i + gk = n ∧ iv = .int .i64 i ∧ Fil w wr n G L i 0)
  case atStart => exact ⟨0, by omega, rfl, F0⟩
  case round =>
    clear F0
    obtain ⟨i, hi, rfl, F⟩ := hrel
    obtain ⟨gko, hgko⟩ : ∃ x, x = gk := ⟨_, rfl⟩
    subst hgko
    by_cases hlt : i < n
    · have hii : (i : Int) < (n : Int) := by omega
      have c0w := HV.out.dg (i * 3) (by omega)
      have c2w := HV.out.dg (i * 3 + 2) (by omega)
      rw [sf0] at c0w
      rw [sf2] at c2w
      have hs : ¬ ∃ j, j < n ∧ s = G j := fun ⟨j, hj, e⟩ => HNS.out j hj e.symm
      have hLi := HLE.out i hlt
      have hi200 : i < 200 := by omega
      go_upto_region 4 with fail
      go_loopg [3] (L i) (fun gk kv wr => ∃ k : Nat, k + gk = L i ∧ kv = .int .i64 k ∧ Fil w wr n G L i k)
      case atStart => exact ⟨0, by omega, rfl, F⟩
      case round =>
        clear F
        obtain ⟨k, hk, rfl, F⟩ := hrel
        obtain ⟨v0, hv0⟩ : ∃ v0, v0 = wr := ⟨_, rfl⟩
        subst hv0
        have c0 := F.1.cell hs c0w
        have c2 := F.1.cell hs c2w
        by_cases hkl : k < L i
        · obtain ⟨f, hf, _⟩ := F.2 i hlt
          have cA := hf.cell hkl
          have fz := hf.frozen k
          have NX := F.set HI.out hlt
          have NXd : Hid (Fil w (v0.setCell ⟨G i, k, none⟩ (mk i)) n G L i (k + 1)) := NX
          unfold mk at NXd
          clear NX
          generalize hl : L i = l at *
          generalize hg : G i = g at *
          have hkl' : (k : Int) < (l : Int) := by omega
          go_upto_region 6 with fail
          have gA := fun x' : Grow v0 => x'.ext.later c0
          have gB := fun x' : Grow v0 => x'.ext.later c2
          refine wp_region_reads (fun i => decide (i < 11)) 0 11 (fun w' => ∃ x : Grow v0, w' = x.out) (by kernel_rfl) (by kernel_rfl) (fun c a x v w h => by cases x <;> exact h) ⟨⟨v0.drew, (Ext.refl v0).drew⟩, rfl⟩ ?_
          intro l1 l2 h1 h2
          simp [pickB] at h1 h2
          subst h1 h2
          (repeat (first | go_big_quiet_step (fail))); refine wpQuiet_nil ?_; clear gA gB
          refine hold_done ?_
          go_wp2
          go_roundg (gk - 1)
          case measure => omega
          case rel => exact ⟨k + 1, by omega, by go_num, NXd.out.drew⟩
        · have hkl' : ¬ (k : Int) < (L i : Int) := by omega
          obtain rfl : k = L i := by omega
          have NX := F.next
          clear F
          generalize hl : L i = l at *
          generalize hg : G i = g at *
          go_wp2
          go_roundg (gko - 1)
          case measure => omega
          case rel => exact ⟨i + 1, by omega, by go_num, NX⟩
    · have hii : ¬ (i : Int) < (n : Int) := by omega
      obtain rfl : i = n := by omega
      go_wp2
      go_end0
      exact ⟨rfl, F⟩
end Go.Proofs.Ythnmofnlcepffaa
