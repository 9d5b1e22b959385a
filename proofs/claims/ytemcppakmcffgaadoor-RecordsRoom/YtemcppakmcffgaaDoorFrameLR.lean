/- A list of values without memory, as an argument, opened. A list of vertices as an argument: what it reads as. -/
import Derived.Test.YtemcppakmcffgaaDoorListAB
import Derived.Deep.SlicePairs
import Derived.Test.YtemcppakmcffgaaDoorRecQ
namespace Go.Proofs.YtemcppakmcffgaaDoor
open Go.ChangeShapes Go.WideShapes Go.RowKit
set_option linter.unusedVariables false
section
variable {H : Type} {enc : TypeId × Value → H} {P : Program} {w : World} {base : Nat} {spare : Nat → Bool} {held : Bool}
theorem open_list {t e : TypeId} {ks : List (Option IntKind)} {k fuel : Nat} {a : Option Addr} {len cap : Nat} {x : DataW H × List MemPlace} (ht : P.underlying t = some (.slice e)) (hf : flat P k e = some ks) (hc : P.cellsOf e = ks.length) (h0 : 0 < ks.length) (hlen : len ≤ 140737488355328)
    (h : DataW.trod enc P w base spare held fuel t [.slice a len cap] = some x) :
    ∃ X, Es w ks.length a len X ∧ (∀ i, i < len → Kinds ks (vl ks.length (X i))) ∧ (a = none → len = 0 ∧ cap = 0) ∧ len ≤ cap ∧ cap ≤ maxLen := by
  rcases Go.Deep.open_slice ht h with ⟨h1, _⟩ | ⟨ad, l, c, m, n, D, Pl, h1, hb, hl, hm, hmm, rfl, hx⟩
  · simp only [List.cons.injEq, Value.slice.injEq, and_true] at h1
    obtain ⟨rfl, rfl, rfl⟩ := h1
    exact ⟨fun _ _ => undef, ⟨by omega, fun i hi => by omega⟩, fun i hi => by omega, fun _ => ⟨rfl, rfl⟩, Nat.le_refl _, by decide⟩
  · simp only [List.cons.injEq, Value.slice.injEq, and_true] at h1
    obtain ⟨rfl, rfl, rfl⟩ := h1
    obtain ⟨b, o, s⟩ := ad
    have hlm : len ≤ m := by rw [hmm]; split <;> omega
    have hs0 : 0 < len → s = none := fun hp => by
      obtain ⟨cs', g1, _⟩ := hx 0 (by omega)
      rw [hc] at g1
      obtain ⟨_, hlen, hcell⟩ := World.cells?_some g1
      have e0 := hcell 0 (by omega)
      rw [List.getElem?_eq_getElem (by omega)] at e0
      have := World.cell?_spot e0
      simpa [Addr.add] using this
    have each : ∀ i, i < len → ∃ q : Nat → Value, s = none ∧ w.rangeAt b (o + i * ks.length) (vl ks.length q) ∧ Kinds ks (vl ks.length q) := fun i hi => by
      obtain ⟨cs', g1, g2⟩ := hx i (by omega)
      rw [hc] at g1
      obtain ⟨_, hlen, hcell⟩ := World.cells?_some g1
      obtain ⟨hk, _⟩ := flat_cells k hf g2
      have e : vl ks.length (fun j => cs'[j]?.getD undef) = cs' := by
        refine List.ext_getElem? fun j => ?_
        by_cases hj : j < ks.length
        · rw [vl_at _ _ hj, List.getElem?_eq_getElem (by omega)]; rfl
        · rw [List.getElem?_eq_none (by rw [vl_len]; omega), List.getElem?_eq_none (by omega)]
      have hs := hs0 (by omega)
      subst hs
      refine ⟨fun j => cs'[j]?.getD undef, rfl, fun j v hv => ?_, by rw [e]; exact hk⟩
      rw [e] at hv
      have hj : j < cs'.length := (List.getElem?_eq_some_iff.1 hv).1
      have e1 := hcell j (by omega)
      rw [Addr.add_mid, Addr.add_mid, hv] at e1
      exact e1
    obtain ⟨X, hX⟩ := Go.Deep.choose_lt each
    refine ⟨X, ⟨hlen, fun i hi => ?_⟩, fun i hi => (hX i hi).2.2, fun h => (by cases h), hl, hm⟩
    obtain ⟨hs, hr, _⟩ := hX i hi
    subst hs
    exact ⟨b, o, rfl, hr⟩
end
end Go.Proofs.YtemcppakmcffgaaDoor

namespace Go.Proofs.YtemcppakmcffgaaDoor
open Go.RowKit Go.BigFrame
set_option linter.unusedVariables false
theorem vs_of {w : World} {a : Option Addr} {n : Nat} {X : Nat → Nat → Value} (E : Es w 7 a n X) (hk : ∀ i, i < n → Kinds [some .u8, some .u32, some .u32, some .u16, some .u16, some .u16, some .u16] (vl 7 (X i))) : ∃ R, Vs w a n R := by
  have each : ∀ i, i < n → ∃ Q : Rcd, vl 7 (X i) = vl 7 (rv Q) ∧ (0 ≤ Q.f ∧ Q.f < 256) ∧ (0 ≤ Q.x ∧ Q.x < 4294967296) ∧ (0 ≤ Q.y ∧ Q.y < 4294967296) ∧ ∀ k, k < 4 → 0 ≤ Q.c k ∧ Q.c k < 65536 := fun i hi => by
    have h := hk i hi
    generalize vl 7 (X i) = l at h
    simp only [Kinds, OfKind] at h
    obtain ⟨_, _, rfl, ⟨x0, rfl, v0⟩, _, _, rfl, ⟨x1, rfl, v1⟩, _, _, rfl, ⟨x2, rfl, v2⟩, _, _, rfl, ⟨x3, rfl, v3⟩, _, _, rfl, ⟨x4, rfl, v4⟩, _, _, rfl, ⟨x5, rfl, v5⟩, _, _, rfl, ⟨x6, rfl, v6⟩, rfl⟩ := h
    have b0 := bounds_u8 v0
    have b1 := bounds_u32 v1
    have b2 := bounds_u32 v2
    have b3 := bounds_u16 v3
    have b4 := bounds_u16 v4
    have b5 := bounds_u16 v5
    have b6 := bounds_u16 v6
    refine ⟨⟨x0, x1, x2, fun k => match k with | 0 => x3 | 1 => x4 | 2 => x5 | _ => x6⟩, rfl, by dsimp only; omega, by dsimp only; omega, by dsimp only; omega, fun k hk => ?_⟩
    match k, hk with
    | 0, _ => show 0 ≤ x3 ∧ x3 < 65536; omega
    | 1, _ => show 0 ≤ x4 ∧ x4 < 65536; omega
    | 2, _ => show 0 ≤ x5 ∧ x5 < 65536; omega
    | 3, _ => show 0 ≤ x6 ∧ x6 < 65536; omega
  letI : Inhabited Rcd := ⟨⟨0, 0, 0, fun _ => 0⟩⟩
  obtain ⟨R, hR⟩ := Go.Deep.choose_lt each
  refine ⟨R, ⟨E.len, fun i hi => ?_⟩, fun i hi => (hR i hi).2.1, fun i hi => (hR i hi).2.2.1, fun i hi => (hR i hi).2.2.2.1, fun i k hi hk => (hR i hi).2.2.2.2 k hk⟩
  obtain ⟨b, o, h1, h2⟩ := E.at_ i hi
  exact ⟨b, o, h1, by rw [← (hR i hi).1]; exact h2⟩
end Go.Proofs.YtemcppakmcffgaaDoor
