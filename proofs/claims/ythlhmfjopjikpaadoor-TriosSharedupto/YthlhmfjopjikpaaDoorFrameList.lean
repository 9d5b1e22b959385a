/- A list of values without memory, as an argument, opened. -/
import Derived.Test.YthlhmfjopjikpaaDoorListB
import Derived.Deep.SlicePairs
namespace Go.Proofs.YthlhmfjopjikpaaDoor
open Go.ChangeShapes Go.WideShapes Go.RowKit
set_option linter.unusedVariables false
section
variable {H : Type} {enc : TypeId × Value → H} {P : Program} {w : World} {base : Nat} {spare : Nat → Bool} {held : Bool}
theorem open_list {t e : TypeId} {ks : List (Option IntKind)} {k fuel : Nat} {a : Option Addr} {len cap : Nat} {x : DataW H × List MemPlace} (ht : P.underlying t = some (.slice e)) (hf : flat P k e = some ks) (hc : P.cellsOf e = ks.length) (h0 : 0 < ks.length) (hlen : len ≤ 140737488355328)
    (h : DataW.trod enc P w base spare held fuel t [.slice a len cap] = some x) :
    ∃ X, Es w ks.length a len X ∧ (∀ i, i < len → Kinds ks (vl ks.length (X i))) ∧ (a = none → len = 0 ∧ cap = 0) ∧ len ≤ cap ∧ cap ≤ maxLen := by
  rcases Go.Deep.open_slice ht h with ⟨h1, _⟩ | ⟨ad, l, c, m, n, D, Pl, h1, hb, hl, hm, hmm, rfl, hx⟩
  · simp only [List.cons.injEq, Value.slice.injEq, and_true] at h1
    obtain ⟨rfl, rfl, rfl⟩ := h1
    exact ⟨fun _ _ => undef, ⟨by omega, fun i hi => by omega⟩, fun i hi => by omega, fun _ => ⟨rfl, rfl⟩, Nat.le_refl _, by decide⟩
  · simp only [List.cons.injEq, Value.slice.injEq, and_true] at h1
    obtain ⟨rfl, rfl, rfl⟩ := h1
    obtain ⟨b, o, s⟩ := ad
    have hlm : len ≤ m := by rw [hmm]; split <;> omega
    have hs0 : 0 < len → s = none := fun hp => by
      obtain ⟨cs', g1, _⟩ := hx 0 (by omega)
      rw [hc] at g1
      obtain ⟨_, hlen, hcell⟩ := World.cells?_some g1
      have e0 := hcell 0 (by omega)
      rw [List.getElem?_eq_getElem (by omega)] at e0
      have := World.cell?_spot e0
      simpa [Addr.add] using this
    have each : ∀ i, i < len → ∃ q : Nat → Value, s = none ∧ w.rangeAt b (o + i * ks.length) (vl ks.length q) ∧ Kinds ks (vl ks.length q) := fun i hi => by
      obtain ⟨cs', g1, g2⟩ := hx i (by omega)
      rw [hc] at g1
      obtain ⟨_, hlen, hcell⟩ := World.cells?_some g1
      obtain ⟨hk, _⟩ := flat_cells k hf g2
      have e : vl ks.length (fun j => cs'[j]?.getD undef) = cs' := by
        refine List.ext_getElem? fun j => ?_
        by_cases hj : j < ks.length
        · rw [vl_at _ _ hj, List.getElem?_eq_getElem (by omega)]; rfl
        · rw [List.getElem?_eq_none (by rw [vl_len]; omega), List.getElem?_eq_none (by omega)]
      have hs := hs0 (by omega)
      subst hs
      refine ⟨fun j => cs'[j]?.getD undef, rfl, fun j v hv => ?_, by rw [e]; exact hk⟩
      rw [e] at hv
      have hj : j < cs'.length := (List.getElem?_eq_some_iff.1 hv).1
      have e1 := hcell j (by omega)
      rw [Addr.add_mid, Addr.add_mid, hv] at e1
      exact e1
    obtain ⟨X, hX⟩ := Go.Deep.choose_lt each
    refine ⟨X, ⟨hlen, fun i hi => ?_⟩, fun i hi => (hX i hi).2.2, fun h => (by cases h), hl, hm⟩
    obtain ⟨hs, hr, _⟩ := hX i hi
    subst hs
    exact ⟨b, o, rfl, hr⟩
end
end Go.Proofs.YthlhmfjopjikpaaDoor
