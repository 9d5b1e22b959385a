/- The table of package layouts as it was laid, got out of the row's condition; the start at which it lies so; a layout and a flag as arguments. -/
import Derived.Test.YthlhmfjopjikpaaDoorRows
import Derived.Test.YthlhmfjopjikpaaDoorCards
import Derived.Test.YthlhmfjopjikpaaDoorTie
import Derived.Test.YthlhmfjopjikpaaDoorFrameLay
import Derived.Test.YthlhmfjopjikpaaDoorLayF
import Derived.ProofKit
import Derived.LaidMore
import Derived.OpenShut
import Derived.Stop.Joined
import Derived.Lib.SmallJoins
import Derived.SevenTiedAt
namespace Go.Proofs.YthlhmfjopjikpaaDoor
open Go.ChangeShapes Go.WideShapes Go.ChangeAt Go.RowKit Go.Joins
set_option linter.unusedVariables false
set_option maxRecDepth 100000
theorem own : ownKnob Tryd.prog.godebug = none := by kernel_rfl
theorem laidOut : laidOutB Tryd.prog = true := by kernel_rfl
abbrev theLaid : List (String × DataW Unit) := [("gouache/layouts.usesOf", Rows.laid_gouache_layouts_usesOf)]
theorem gUses : Tryd.prog.globalNamed "gouache/layouts.usesOf" = some 0 := by kernel_rfl
theorem tUses : (Tryd.prog.globals[0]?).map (·.type) = some 172 := by kernel_rfl
set_option maxRecDepth 100000 in
theorem door_met (os : Os) (args : Array Value) : laidMetH Tryd.prog theLaid ((World.doorLaid Tryd.prog 400 os).forCall (fun _ _ => 0) ⟨#[], args, []⟩).memory :=
  laidMetH_of_parts3 (fuel := 8) (laidMet_of_run' 8 (by kernel_rfl) (by kernel_rfl)) (by kernel_rfl) (by kernel_rfl)
theorem laid_list : (Rows.laid_gouache_layouts_usesOf : DataW Unit) = .agg ((List.range 33).map fun k => .lit (.int .u8 (us k))) := rfl
theorem one_of {α : Type} {l : List α} {k : Nat} {v : α} (h : (l.drop (k * 1)).take 1 = [v]) : l[k]? = some v := by
  have := congrArg List.head? h
  rw [Nat.mul_one] at this
  rw [List.head?_take, if_neg (by decide), List.head?_drop] at this
  exact this
theorem of_laid {W : World} (h : laidMetH Tryd.prog theLaid W) : LaidL W := by
  rw [MakeChecks.laidMetH_plain _ _ _ (by kernel_rfl)] at h
  obtain ⟨ps, ⟨g0, t0, cs0, f0, p0, q0, hg0, ht0, hv0, hd0, _, _⟩, _, _⟩ := h
  obtain rfl := Option.some.inj (gUses.symm.trans hg0)
  obtain rfl := Option.some.inj (tUses.symm.trans ht0)
  obtain ⟨xs, m1, rfl, hx1, hlen, hn, hel⟩ := DataW.trod_array Tryd.underlying172 hd0
  have c1 : Tryd.prog.cellsOf 130 = 1 := by kernel_rfl
  rw [c1] at hel
  have hc := World.var?_cell hg0 hv0
  rw [laid_list] at hx1
  simp only [Prod.mk.injEq, DataW.agg.injEq] at hx1
  obtain ⟨hx1, _⟩ := hx1
  intro k hk
  have he := hel k hk
  obtain ⟨y, hy⟩ : ∃ y, xs[k]? = some y := ⟨xs[k]'(by omega), List.getElem?_eq_getElem (by omega)⟩
  rw [hy] at he
  obtain ⟨a, e0, rfl, _⟩ := DataW.trod_int Tryd.underlying130 he
  have hm : (xs.map (·.1))[k]? = some (.lit (.int .u8 a)) := by rw [List.getElem?_map, hy]; rfl
  rw [← hx1, List.getElem?_map, List.getElem?_range hk] at hm
  simp only [Option.map_some, Option.some.injEq, DataW.lit.injEq, Lit.int.injEq, true_and] at hm
  subst hm
  have h1 := one_of e0
  have h2 := hc k
  simp only [Array.getElem?_toList] at h1
  rw [h1] at h2
  exact h2
section
variable {H : Type} {enc : TypeId × Value → H}
/-- An argument without memory reads behind the call as before. -/
theorem again {t : TypeId} {W W' : World} {v : Value} {d : DataW H} (hr : Tryd.prog.readableRec t = true) (hrow : t < Tryd.prog.types.size) (h : DataW.Trod enc Tryd.prog W 0 (fun _ => true) true t v d []) (hb : Ext W W') :
    DataW.Trod enc Tryd.prog W' 0 (fun b => decide (b < W.heap.size)) true t v d [] := Below.trod laidOut hr hrow h hb (by simp)
end
end Go.Proofs.YthlhmfjopjikpaaDoor
