/- The given book: what is known while the lists of one kind grow. -/
import Derived.Test.YthlhmfjopjikpaaDoorBookA
namespace Go.Proofs.YthlhmfjopjikpaaDoor
open Go.RowKit Go.BigFrame
set_option linter.unusedSimpArgs false
set_option linter.unusedVariables false
/-- The lists ahead of i are grown. -/
def Gro (p : Kp) (D : Kd) (w v : World) (i : Nat) (J : Nat → Value) : Prop :=
  Chg (KB D) w v ∧ Strips p D J v ∧ (∀ j, j < D.c → Lst v p.e p.m (D.S j) (D.L j) (fun _ => p.mark (D.N j))) ∧ ∀ j, j < i → Lst v p.e p.m (J j) (D.L j + 24) (fun _ => p.mark (D.N j)) ∧ ∀ b, (J j).ownBlock = some b → (D.S j).ownBlock = some b ∨ w.heap.size ≤ b
theorem Gro.start {p : Kp} {D : Kd} {w : World} (F : Fld p D w) : Gro p D w w 0 none3 := ⟨Chg.refl _ _, F.1, F.2, fun j hj => by omega⟩
theorem Gro.done {p : Kp} {D : Kd} {w v : World} {J : Nat → Value} (G : Gro p D w v D.c J) : Chg (KB D) w v ∧ Grn p D w.heap.size v :=
  ⟨G.1, J, G.2.1, fun i hi => ⟨G.2.2.1 i hi, (G.2.2.2 i hi).1, (G.2.2.2 i hi).2⟩⟩
/-- What may change while the list i grows. -/
def TW (D : Kd) (s i : Nat) (v0 : World) (b : Nat) : Prop := b = s ∨ (D.S i).ownBlock = some b ∨ v0.heap.size ≤ b
/-- The list i is under way. -/
structure Gri (p : Kp) (D : Kd) (s i : Nat) (J : Nat → Value) (v0 v : World) (k : Nat) (X : Value) : Prop where
  chg : Chg (TW D s i v0) v0 v
  strips : Strips p D (upJ J i X) v
  way : Way p D i v0.heap.size v X k
section
variable {p : Kp} {D : Kd} {s i k cap g cp : Nat} {J : Nat → Value} {w v0 v va v1 : World} {X : Value}
theorem nus (hs : Sound D) (hu : D.u = .slice (some ⟨s, 0, none⟩) D.c cap) {j b : Nat} (hj : j < D.c) (h : (D.S j).ownBlock = some b) : b ≠ s := fun e => hs.nu j b hj (by rw [hu, e]; rfl) h
theorem Gri.start (hs : Sound D) (hu : D.u = .slice (some ⟨s, 0, none⟩) D.c cap) (hi : i < D.c) (G : Gro p D w v0 i J) : Gri p D s i J v0 (v0.setCell ⟨s, i * (p.m + 2) + 1, none⟩ (D.S i)) 0 (D.S i) :=
  ⟨(Chg.refl _ v0).setCell (.inl (.inl rfl)) _, G.2.1.long hu hi _, Way.start ((G.2.2.1 i hi).skip (fun h => nus hs hu hi h rfl) _)⟩
theorem Gri.ne (hs : Sound D) (hu : D.u = .slice (some ⟨s, 0, none⟩) D.c cap) (hi : i < D.c) (hsv : s < v0.heap.size) (G : Gri p D s i J v0 v k X) : ¬ X.ownBlock = some s := fun h => by
  rcases G.way.at_ s h with h | h
  · exact nus hs hu hi h rfl
  · omega
theorem Gri.mid (hs : Sound D) (hu : D.u = .slice (some ⟨s, 0, none⟩) D.c cap) (hi : i < D.c) (hsv : s < v0.heap.size) (G : Gri p D s i J v0 v k X) (C : Chg (fun b => X.ownBlock = some b) v v1) :
    Chg (TW D s i v0) v0 v1 ∧ Strips p D (upJ J i X) v1 :=
  ⟨G.chg.trans C (fun b hb => .inl (by
    rcases G.way.at_ b hb with h | h
    · exact .inr (.inl h)
    · exact .inr (.inr h))), Lst.chg G.strips C (fun b hb h => by
    rw [hu] at hb
    simp only [Value.ownBlock, Option.some.injEq] at hb
    subst hb
    exact G.ne hs hu hi hsv h)⟩
theorem Gri.step (hm : 0 < p.m) (hs : Sound D) (hu : D.u = .slice (some ⟨s, 0, none⟩) D.c cap) (hi : i < D.c) (hsv : s < v0.heap.size) (G : Gri p D s i J v0 v k X) (E : Ext v va)
    (own : World.ownsC v1 0 p.e p.m (.slice (some ⟨g, 0, none⟩) (D.L i + k + 1) cp) (D.L i + k + 1) (ew p.m (D.L i + k) (fun _ => p.mark (D.N i)) ++ vl p.m (p.mark (D.N i))))
    (hat : (X = .slice (some ⟨g, 0, none⟩) (D.L i + k) cp ∧ va.grownBy v1 (some g)) ∨ (va.heap.size ≤ g ∧ va.grownBy v1 none)) :
    Gri p D s i J v0 (v1.setCell ⟨s, i * (p.m + 2) + 1, none⟩ (.slice (some ⟨g, 0, none⟩) (D.L i + k + 1) cp)) (k + 1) (.slice (some ⟨g, 0, none⟩) (D.L i + k + 1) cp) := by
  have C : Chg (fun b => X.ownBlock = some b) v v1 := by
    refine (Chg.of E).trans (T := fun b => X.ownBlock = some b) ?_ (fun b hb => .inl hb)
    rcases hat with ⟨hX, h⟩ | ⟨_, h⟩
    · exact Chg.grown h (fun b hb => by rw [hX]; exact hb)
    · exact Chg.grown h (fun b hb => by cases hb)
  obtain ⟨m1, m2⟩ := G.mid hs hu hi hsv C
  have W0 := G.way.chg (T := fun _ => False) (Chg.of E) (fun _ _ h => h)
  have hv := G.chg.size
  have W1 := W0.add hm (by have := E.more; omega) own hat
  have s1 := m2.long hu hi (.slice (some ⟨g, 0, none⟩) (D.L i + k + 1) cp)
  rw [upJ_twice] at s1
  refine ⟨m1.setCell (.inl (.inl rfl)) _, s1, W1.chg (T := fun b => b = s) (Chg.setCell (S := fun b => b = s) (Chg.refl _ v1) (.inl (Eq.refl s)) _) (fun b hb e => ?_)⟩
  rcases hb with hb | hb
  · exact nus hs hu hi hb e
  · omega
theorem Gri.done (hs : Sound D) (hu : D.u = .slice (some ⟨s, 0, none⟩) D.c cap) (hi : i < D.c) (hw : ∀ b, KB D b → b < w.heap.size) (G0 : Gro p D w v0 i J) (G : Gri p D s i J v0 v 24 X) : Gro p D w v (i + 1) (upJ J i X) := by
  have hwv := G0.1.size
  have away : ∀ j, j < D.c → j ≠ i → ∀ b, (D.S j).ownBlock = some b → ¬ TW D s i v0 b := fun j hj hne b hb h => by
    rcases h with h | h | h
    · exact nus hs hu hj hb h
    · exact hne (hs.inj j i b hj hi hb h)
    · have := hw b (.inr ⟨j, hj, hb⟩); omega
  refine ⟨G0.1.trans G.chg (fun b h => ?_), G.strips, fun j hj => ?_, fun j hj => ?_⟩
  · rcases h with h | h | h
    · subst h; exact .inl (.inl (by rw [hu]; rfl))
    · exact .inl (.inr ⟨i, hi, h⟩)
    · exact .inr (by omega)
  · by_cases e : j = i
    · subst e; exact G.way.short
    · exact (G0.2.2.1 j hj).chg G.chg (away j hj e)
  · unfold upJ
    by_cases e : j = i
    · rw [if_pos e, e]
      exact ⟨G.way.long, fun b hb => (G.way.at_ b hb).imp id (fun h => by omega)⟩
    · rw [if_neg e]
      obtain ⟨a1, a2⟩ := G0.2.2.2 j (by omega)
      refine ⟨a1.chg G.chg (fun b hb h => ?_), a2⟩
      rcases a2 b hb with h2 | h2
      · exact away j (by omega) e b h2 h
      · rcases h with h | h | h
        · have := hw s (.inl (by rw [hu]; rfl)); omega
        · have := hw b (.inr ⟨i, hi, h⟩); omega
        · have := a1.heap hb; omega
end
end Go.Proofs.YthlhmfjopjikpaaDoor
