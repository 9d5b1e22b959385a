/- The statement DecodesOfSaid: the given function DecodesOf returns true at every number of any bits, every range, every fix and every ratio, and all read afterwards as before; no condition. -/
import Derived.Test.YthmgilikokcibaaFrameDec
import Derived.Test.YthmgilikokcibaaLawDof
namespace Go.Proofs.Ythmgilikokcibaa
open Go.ChangeShapes Go.WideShapes Go.ChangeAt Go.RowKit Go.Joins
set_option linter.unusedVariables false

set_option maxRecDepth 100000 in
theorem dof_lifted (os : Os) (started : os.Started) (H : Type) (enc : TypeId × Value → H) :
    ReturnsInHanded {} Try.checked os 3 .any (Rows.decodesOfSpec.pre6 enc Try.prog Try.f3 Rows.decodesOfRow.domain false)
      (Rows.decodesOfSpec.post enc Try.prog Try.f3 false true false false) := by
  refine returnsInHanded_of_change (C := Try.checked) own started (by kernel_rfl) Try.func3
    (ChangeSpec.witness6 (enc := enc) (C := Try.checked) false ⟨#[], #[.agg #[.int .u32 0, .int .i64 0, .int .i32 0, .int .i32 0, .int .i32 0], .agg #[.int .i64 0, .int .u64 0, .int .i64 0]], []⟩ 8 (by kernel_rfl) (by kernel_rfl) (by kernel_rfl) (by kernel_rfl)) ?_
  intro W base args ds gs before hval0 hW hcnd _
  have hval : ∀ (j : Nat) t v, Try.f3.params[j]? = some t → args[j]? = some v → Value.okWide Try.prog W .any base t v := hval0
  have hW' := hW
  obtain ⟨p, q, hA0, hV, rfl, hfz, hnd⟩ := hW
  have hA : DataW.TrodAll enc Try.prog W 0 (fun _ => true) true Try.f3.params.toList args.toList ds p := hA0
  rw [Try.params3] at hA hval
  obtain ⟨v0, v1, d0, d1, p0, p1, rfl, rfl, rfl, h0, h1⟩ := trodAll_two hA
  obtain ⟨rfl, rfl⟩ := trodVars_none hV
  obtain ⟨r, b, l, h, v0, hr, hb, hl, hh, hv, rfl, rfl⟩ := open_led (hval 0 27 v0 rfl rfl) h0
  obtain ⟨a, d, ha, hd, rfl, rfl⟩ := open_ratio (hval 1 32 v1 rfl rfl) h1
  clear hA0 hval0
  refine (dof_law r b l h v0 a d hr hb hl hh hv ha hd W).mono fun e W' he => ?_
  obtain ⟨he, hg⟩ := he
  subst he
  exact ⟨_, rfl, _, _, _, [], [], [], hW', trodAll_mk1 (shut_bool Try.underlying4 _), trodAll_mk2 (again (by kernel_rfl) (of_decide_eq_true (by kernel_rfl)) h0 hg) (again (by kernel_rfl) (of_decide_eq_true (by kernel_rfl)) h1 hg), rfl, Below.frame hg _, fun h => by cases h⟩

theorem dof_holds : Rows.DecodesOfSaid :=
  OpenClaim.holds_of_wide 3 Try.f3 rfl rfl rfl rfl rfl rfl rfl ⟨rfl, rfl, rfl, rfl, rfl⟩ rfl rfl rfl rfl rfl (by kernel_rfl) Try.func3 (by kernel_rfl)
    (of_decide_eq_true (by kernel_rfl)) (by unfold Func.isWrapper; first | (rw [if_pos (by decide +kernel)]; kernel_rfl) | (rw [if_neg (by decide +kernel)]; exact ⟨rfl, rfl⟩))
    (fun os started H enc _ => dof_lifted os started H enc)
#print axioms dof_holds
end Go.Proofs.Ythmgilikokcibaa
