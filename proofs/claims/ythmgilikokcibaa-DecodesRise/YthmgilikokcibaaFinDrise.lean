/- The statement DecodesRiseSaid: the given function DecodesRise returns true at every two numbers of any bits, every range and every two fixes, and all read afterwards as before; no condition. -/
import Derived.Test.YthmgilikokcibaaFrameDec
import Derived.Test.YthmgilikokcibaaLawDriseB
namespace Go.Proofs.Ythmgilikokcibaa
open Go.ChangeShapes Go.WideShapes Go.ChangeAt Go.RowKit Go.Joins
set_option linter.unusedVariables false

set_option maxRecDepth 100000 in
theorem drise_lifted (os : Os) (started : os.Started) (H : Type) (enc : TypeId × Value → H) :
    ReturnsInHanded {} Try.checked os 7 .any (Rows.decodesRiseSpec.pre6 enc Try.prog Try.f7 Rows.decodesRiseRow.domain false)
      (Rows.decodesRiseSpec.post enc Try.prog Try.f7 false true false false) := by
  refine returnsInHanded_of_change (C := Try.checked) own started (by kernel_rfl) Try.func7
    (ChangeSpec.witness6 (enc := enc) (C := Try.checked) false ⟨#[], #[.agg #[.int .u32 0, .int .i64 0, .int .i32 0, .int .i32 0, .int .i32 0], .int .u32 0, .int .i32 0], []⟩ 8 (by kernel_rfl) (by kernel_rfl) (by kernel_rfl) (by kernel_rfl)) ?_
  intro W base args ds gs before hval0 hW hcnd _
  have hval : ∀ (j : Nat) t v, Try.f7.params[j]? = some t → args[j]? = some v → Value.okWide Try.prog W .any base t v := hval0
  have hW' := hW
  obtain ⟨p, q, hA0, hV, rfl, hfz, hnd⟩ := hW
  have hA : DataW.TrodAll enc Try.prog W 0 (fun _ => true) true Try.f7.params.toList args.toList ds p := hA0
  rw [Try.params7] at hA hval
  obtain ⟨v0, v1, v2, d0, d1, d2, p0, p1, p2, rfl, rfl, rfl, h0, h1, h2⟩ := trodAll_three hA
  obtain ⟨rfl, rfl⟩ := trodVars_none hV
  obtain ⟨r, b, l, h, v0, hr, hb, hl, hh, hv, rfl, rfl⟩ := open_led (hval 0 27 v0 rfl rfl) h0
  obtain ⟨q, hq, rfl, rfl⟩ := open_u32 (hval 1 22 v1 rfl rfl) h1
  obtain ⟨v1, hv1, rfl, rfl⟩ := open_fix (hval 2 23 v2 rfl rfl) h2
  clear hA0 hval0
  refine (drise_law r b l h v0 q v1 hr hl hh hv hq hv1 W).mono fun e W' he => ?_
  obtain ⟨he, hg⟩ := he
  subst he
  exact ⟨_, rfl, _, _, _, [], [], [], hW', trodAll_mk1 (shut_bool Try.underlying4 _), trodAll_mk3 (again (by kernel_rfl) (of_decide_eq_true (by kernel_rfl)) h0 hg) (again (by kernel_rfl) (of_decide_eq_true (by kernel_rfl)) h1 hg) (again (by kernel_rfl) (of_decide_eq_true (by kernel_rfl)) h2 hg), rfl, Below.frame hg _, fun h => by cases h⟩

theorem drise_holds : Rows.DecodesRiseSaid :=
  OpenClaim.holds_of_wide 7 Try.f7 rfl rfl rfl rfl rfl rfl rfl ⟨rfl, rfl, rfl, rfl, rfl⟩ rfl rfl rfl rfl rfl (by kernel_rfl) Try.func7 (by kernel_rfl)
    (of_decide_eq_true (by kernel_rfl)) (by unfold Func.isWrapper; first | (rw [if_pos (by decide +kernel)]; kernel_rfl) | (rw [if_neg (by decide +kernel)]; exact ⟨rfl, rfl⟩))
    (fun os started H enc _ => drise_lifted os started H enc)
#print axioms drise_holds
end Go.Proofs.Ythmgilikokcibaa
