/- Triangles' cells and their kinds; what is told of type 4. -/
import Derived.Test.YthlhmfjopjikpaaDoorTriN
import Derived.Test.YthlhmfjopjikpaaDoorListTri
namespace Go.Proofs.YthlhmfjopjikpaaDoor
open Go.RowKit Go.BigFrame
set_option linter.unusedSimpArgs false
set_option linter.unusedVariables false
theorem Kinds.join {l m : List (Option IntKind)} : ∀ {cs ds : List Value}, Kinds l cs → Kinds m ds → Kinds (l ++ m) (cs ++ ds) := by
  induction l with
  | nil => intro cs ds h1 h2; simp only [Kinds] at h1; subst h1; exact h2
  | cons k ks ih => intro cs ds h1 h2; obtain ⟨c, cs', rfl, hc, h1⟩ := h1; exact ⟨c, _, rfl, hc, ih h1 h2⟩
/-- A vertex whose numbers are of their kinds. -/
def Bnd (R : Rcd) : Prop := (0 ≤ R.f ∧ R.f < 256) ∧ (0 ≤ R.x ∧ R.x < 4294967296) ∧ (0 ≤ R.y ∧ R.y < 4294967296) ∧ ∀ k, k < 4 → 0 ≤ R.c k ∧ R.c k < 65536
theorem Vs.bnd {w : World} {a : Option Addr} {n : Nat} {R : Nat → Rcd} (B : Vs w a n R) (i : Nat) (hi : i < n) : Bnd (R i) := ⟨B.f i hi, B.x i hi, B.y i hi, fun k hk => B.c i k hi hk⟩
theorem bnd_kinds {R : Rcd} (B : Bnd R) : Kinds [some .u8, some .u32, some .u32, some .u16, some .u16, some .u16, some .u16] (vl 7 (rv R)) := by
  obtain ⟨bf, bx, by', hc⟩ := B
  have c0 := hc 0 (by omega)
  have c1 := hc 1 (by omega)
  have c2 := hc 2 (by omega)
  have c3 := hc 3 (by omega)
  show Kinds _ [.int .u8 R.f, .int .u32 R.x, .int .u32 R.y, .int .u16 (R.c 0), .int .u16 (R.c 1), .int .u16 (R.c 2), .int .u16 (R.c 3)]
  clear hc
  generalize R.f = y0 at *
  generalize R.x = y1 at *
  generalize R.y = y2 at *
  generalize R.c 0 = z0 at *
  generalize R.c 1 = z1 at *
  generalize R.c 2 = z2 at *
  generalize R.c 3 = z3 at *
  simp only [Kinds, OfKind]
  refine ⟨_, _, rfl, ⟨_, rfl, ?_⟩, _, _, rfl, ⟨_, rfl, ?_⟩, _, _, rfl, ⟨_, rfl, ?_⟩, _, _, rfl, ⟨_, rfl, ?_⟩, _, _, rfl, ⟨_, rfl, ?_⟩, _, _, rfl, ⟨_, rfl, ?_⟩, _, _, rfl, ⟨_, rfl, ?_⟩, rfl⟩ <;> simp [Lit.wf, IntKind.min, IntKind.max, IntKind.signed, IntKind.bits] <;> omega
theorem bare_bnd {R : Rcd} (B : Bnd R) : Bnd (bare R) := ⟨⟨Int.le_refl 0, (show (0 : Int) < 256 by decide)⟩, B.2.1, B.2.2.1, B.2.2.2⟩
theorem tri_kinds {t : T3} (h : AllOf Bnd t) : Kinds kTri (vl 21 (tv t)) := by
  rw [tv_vl]
  exact Kinds.join (Kinds.join (bnd_kinds (bare_bnd h.1)) (bnd_kinds (bare_bnd h.2.1))) (bnd_kinds (bare_bnd h.2.2))
/-- The first ones of a list. -/
theorem Vs.first {w : World} {a : Option Addr} {n i : Nat} {R : Nat → Rcd} (B : Vs w a n R) (h : i ≤ n) : Vs w a i R :=
  ⟨⟨by have := B.es.len; omega, fun j hj => B.es.at_ j (by omega)⟩, fun j hj => B.f j (by omega), fun j hj => B.x j (by omega), fun j hj => B.y j (by omega), fun j k hj hk => B.c j k (by omega) hk⟩
/-- The vertices of a triangle, out of its cells. -/
theorem range_parts {v : World} {b o : Nat} {t : T3} (h : v.rangeAt b o (vl 21 (tv t))) : v.rangeAt b o (vl 7 (rv (bare t.a))) ∧ v.rangeAt b (o + 7) (vl 7 (rv (bare t.b))) ∧ v.rangeAt b (o + 14) (vl 7 (rv (bare t.c))) := by
  have key : ∀ (k : Nat) (f : Nat → Value), k + 7 ≤ 21 → (∀ j, j < 7 → tv t (k + j) = f j) → v.rangeAt b (o + k) (vl 7 f) := fun k f hk hf j u hu => by
    have hj : j < 7 := by rw [← vl_len 7 f]; exact (List.getElem?_eq_some_iff.1 hu).1
    rw [vl_at _ _ hj] at hu
    rw [← hu, ← hf j hj, Nat.add_assoc]
    exact h (k + j) _ (vl_at 21 (tv t) (by omega))
  refine ⟨key 0 _ (by omega) fun j hj => ?_, key 7 _ (by omega) fun j hj => ?_, key 14 _ (by omega) fun j hj => ?_⟩
  · unfold tv; rw [if_pos (by omega), Nat.zero_add]
  · unfold tv; rw [if_neg (by omega), if_pos (by omega), Nat.add_sub_cancel_left]
  · unfold tv; rw [if_neg (by omega), if_neg (by omega), Nat.add_sub_cancel_left]
theorem TrIs.four {L : Lay} {Q : Nat → Rcd} {N m : Nat} {x : Int} {T : Nat → T3} (h : TrIs L Q N x m T) (hv : tlay L = true) (h4 : L.t = 4) : (chL none (ql Q 0 N)).1 = x ∧ (chL none (ql Q 0 N)).2.length = m := by
  rcases h with ⟨h1, _⟩ | ⟨_, h2, _⟩ | ⟨_, h2, _⟩ | ⟨_, _, h3, h4, _⟩
  · rw [hv] at h1; cases h1
  · omega
  · omega
  · exact ⟨h3, h4⟩
theorem TrIs.four_at {L : Lay} {Q : Nat → Rcd} {N m : Nat} {x : Int} {T : Nat → T3} (h : TrIs L Q N x m T) (hv : tlay L = true) (h4 : L.t = 4) : ∀ k, k < m → T k = (chL none (ql Q 0 N)).2.getD k z3 := by
  rcases h with ⟨h1, _⟩ | ⟨_, h2, _⟩ | ⟨_, h2, _⟩ | ⟨_, _, h3, h4, h5⟩
  · rw [hv] at h1; cases h1
  · omega
  · omega
  · exact h5
end Go.Proofs.YthlhmfjopjikpaaDoor
