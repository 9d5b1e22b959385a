/- A list of vertices as an argument: what it reads as. -/
import Derived.Test.YthlhmfjopjikpaaDoorRecV
import Derived.Test.YthlhmfjopjikpaaDoorFrameList
namespace Go.Proofs.YthlhmfjopjikpaaDoor
open Go.RowKit Go.BigFrame
set_option linter.unusedVariables false
theorem vs_of {w : World} {a : Option Addr} {n : Nat} {X : Nat → Nat → Value} (E : Es w 7 a n X) (hk : ∀ i, i < n → Kinds [some .u8, some .u32, some .u32, some .u16, some .u16, some .u16, some .u16] (vl 7 (X i))) : ∃ R, Vs w a n R := by
  have each : ∀ i, i < n → ∃ Q : Rcd, vl 7 (X i) = vl 7 (rv Q) ∧ (0 ≤ Q.f ∧ Q.f < 256) ∧ (0 ≤ Q.x ∧ Q.x < 4294967296) ∧ (0 ≤ Q.y ∧ Q.y < 4294967296) ∧ ∀ k, k < 4 → 0 ≤ Q.c k ∧ Q.c k < 65536 := fun i hi => by
    have h := hk i hi
    generalize vl 7 (X i) = l at h
    simp only [Kinds, OfKind] at h
    obtain ⟨_, _, rfl, ⟨x0, rfl, v0⟩, _, _, rfl, ⟨x1, rfl, v1⟩, _, _, rfl, ⟨x2, rfl, v2⟩, _, _, rfl, ⟨x3, rfl, v3⟩, _, _, rfl, ⟨x4, rfl, v4⟩, _, _, rfl, ⟨x5, rfl, v5⟩, _, _, rfl, ⟨x6, rfl, v6⟩, rfl⟩ := h
    have b0 := bounds_u8 v0
    have b1 := bounds_u32 v1
    have b2 := bounds_u32 v2
    have b3 := bounds_u16 v3
    have b4 := bounds_u16 v4
    have b5 := bounds_u16 v5
    have b6 := bounds_u16 v6
    refine ⟨⟨x0, x1, x2, fun k => match k with | 0 => x3 | 1 => x4 | 2 => x5 | _ => x6⟩, rfl, by dsimp only; omega, by dsimp only; omega, by dsimp only; omega, fun k hk => ?_⟩
    match k, hk with
    | 0, _ => show 0 ≤ x3 ∧ x3 < 65536; omega
    | 1, _ => show 0 ≤ x4 ∧ x4 < 65536; omega
    | 2, _ => show 0 ≤ x5 ∧ x5 < 65536; omega
    | 3, _ => show 0 ≤ x6 ∧ x6 < 65536; omega
  letI : Inhabited Rcd := ⟨⟨0, 0, 0, fun _ => 0⟩⟩
  obtain ⟨R, hR⟩ := Go.Deep.choose_lt each
  refine ⟨R, ⟨E.len, fun i hi => ?_⟩, fun i hi => (hR i hi).2.1, fun i hi => (hR i hi).2.2.1, fun i hi => (hR i hi).2.2.2.1, fun i k hi hk => (hR i hi).2.2.2.2 k hk⟩
  obtain ⟨b, o, h1, h2⟩ := E.at_ i hi
  exact ⟨b, o, h1, by rw [← (hR i hi).1]; exact h2⟩
end Go.Proofs.YthlhmfjopjikpaaDoor
