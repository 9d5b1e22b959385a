/- The given function DecodesRise returns true at every two numbers of any bits, every range and every two fixes. -/
import Derived.Test.YthmgilikokcibaaLawDrise
namespace Go.Proofs.Ythmgilikokcibaa
open Go.RowKit Go.BigFrame
set_option linter.unusedSimpArgs false
set_option linter.unusedVariables false
theorem drise_law (r b l h v0 q v1 : Int) (hr : 0 ≤ r ∧ r < 4294967296) (hl : In32 l) (hh : In32 h) (hv : In32 v0) (hq : 0 ≤ q ∧ q < 4294967296) (hv1 : In32 v1) (w : World) :
    Calls Try.prog 7 #[.agg #[.int .u32 r, .int .i64 b, .int .i32 l, .int .i32 h, .int .i32 v0], .int .u32 q, .int .i32 v1] w fun e w' => e = .returned (.bool true) ∧ Ext w w' := by
  by_cases hb : 1 ≤ b ∧ b ≤ 32
  · by_cases hg : gg b < r ∨ gg b < q ∨ l = h
    · exact drise_none r b l h v0 q v1 (gg b) true (.inr hg) (fun w => greatest_some b hb.1 hb.2 w) w
    · obtain ⟨g1, g2⟩ := gg_in hb.1 hb.2
      have hne : ¬ l = h := fun e => hg (.inr (.inr e))
      have hrg : ¬ gg b < r := fun e => hg (.inl e)
      have hqg : ¬ gg b < q := fun e => hg (.inr (.inl e))
      have VA := fun x (hx : 0 ≤ x ∧ x < 4294967296) (hg : x ≤ gg b) w => value_any x b l h hx (mayb_is hb.1 hb.2 hg) hl hh w
      have RW := fun v (hv : In32 v) w => raw_any v b l h hv hb.1 hb.2 hl hh hne w
      have G := fun w => greatest_some b hb.1 hb.2 w
      generalize gg b = g at *
      have t1 : In32 (min v0 v1) := by unfold In32 at *; omega
      have t2 : In32 (max v0 v1) := by unfold In32 at *; omega
      have hmn : (l < h ∧ draw (min v0 v1) l h g ≤ draw (max v0 v1) l h g) ∨ (h < l ∧ draw (max v0 v1) l h g ≤ draw (min v0 v1) l h g) := by
        by_cases k : l < h
        · exact .inl ⟨k, draw_le (by omega) k (by omega)⟩
        · exact .inr ⟨by omega, draw_ge (by omega) (by omega) (by omega)⟩
      by_cases e : r = q
      · subst e
        refine drise_same r b l h v0 v1 g _ 0 _ _ _ _ hrg (by simpa using hne) rfl rfl ?_ G (VA r hr (by omega)) (RW _ t1) (RW _ t2) (fun w => ?_) w
        · omega
        · have := cmp_any (dval l h g r) (dval l h g r) w
          rw [show sgn (dval l h g r) (dval l h g r) = 0 by unfold sgn; rw [if_neg (by omega), if_pos rfl]] at this
          exact this
      · refine drise_diff r b l h v0 q v1 g _ _ (sgn (dval l h g (min r q)) (dval l h g (max r q))) _ _ _ _ _ _ hrg hqg (by simpa using hne) (by simpa using e) rfl rfl rfl rfl ?_ G (VA (min r q) (by omega) (by omega)) (VA (max r q) (by omega) (by omega)) (RW _ t1) (RW _ t2) (fun w => cmp_any _ _ w) w
        rcases hmn with ⟨k, i⟩ | ⟨k, i⟩
        · have := dval_lt (g := g) k (show min r q < max r q by omega)
          exact .inl ⟨k, by unfold sgn; rw [if_pos this], i⟩
        · have := dval_gt (g := g) k (show min r q < max r q by omega)
          exact .inr ⟨k, by unfold sgn; rw [if_neg (by omega), if_neg (by omega)], i⟩
  · exact drise_none r b l h v0 q v1 0 false (.inl rfl) (fun w => greatest_none b (by omega) w) w
end Go.Proofs.Ythmgilikokcibaa
