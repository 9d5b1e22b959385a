/- Arguments that are numbers of 32, 64 or 16 bits, or made of them, opened; the package's table as it was laid; the start at which it lies so. -/
import Derived.Test.YtbkifcfienhkaaaDoorRows
import Derived.Test.YtbkifcfienhkaaaDoorCards
import Derived.Test.YtbkifcfienhkaaaDoorTie
import Derived.Test.YtbkifcfienhkaaaDoorFixC
import Derived.ProofKit
import Derived.LaidMore
import Derived.OpenShut
import Derived.Stop.Joined
import Derived.Lib.SmallJoins
import Derived.SevenTiedAt
namespace Go.Proofs.YtbkifcfienhkaaaDoor
open Go.ChangeShapes Go.WideShapes Go.ChangeAt Go.RowKit Go.Joins
set_option linter.unusedVariables false
set_option maxRecDepth 100000

theorem own : ownKnob Tryd.prog.godebug = none := by kernel_rfl
theorem laidOut : laidOutB Tryd.prog = true := by kernel_rfl
abbrev theLaid : List (String × DataW Unit) := [("gouache/fixeds.lifts", Rows.laid_gouache_fixeds_lifts)]
theorem gLifts : Tryd.prog.globalNamed "gouache/fixeds.lifts" = some 0 := by kernel_rfl
theorem tLifts : (Tryd.prog.globals[0]?).map (·.type) = some 92 := by kernel_rfl
set_option maxRecDepth 100000 in
theorem door_met (os : Os) (args : Array Value) : laidMetH Tryd.prog theLaid ((World.doorLaid Tryd.prog 400 os).forCall (fun _ _ => 0) ⟨#[], args, []⟩).memory :=
  laidMetH_of_parts3 (fuel := 8) (laidMet_of_run' 8 (by kernel_rfl) (by kernel_rfl)) (by kernel_rfl) (by kernel_rfl)
theorem array8 {α : Type} {l : List α} (h : l.length = 8) : ∃ c0 c1 c2 c3 c4 c5 c6 c7, l = [c0, c1, c2, c3, c4, c5, c6, c7] := by
  match l, h with
  | [c0, c1, c2, c3, c4, c5, c6, c7], _ => exact ⟨c0, c1, c2, c3, c4, c5, c6, c7, rfl⟩
theorem pair_cells {enc : TypeId × Value → Unit} {w : World} {base : Nat} {spare : Nat → Bool} {held : Bool} {m : Nat} {c0 c1 : Value} {y : DataW Unit × List MemPlace} (h : DataW.trod enc Tryd.prog w base spare held m 91 [c0, c1] = some y) :
    ∃ a b, c0 = .int .i64 a ∧ c1 = .int .i64 b ∧ y.1 = .agg [.lit (.int .i64 a), .lit (.int .i64 b)] := by
  obtain ⟨y0, y1, n, rfl, _, h0, h1⟩ := trod_struct2 Tryd.underlying91 h
  have h0' : DataW.trod enc Tryd.prog w base spare held n 2 [c0] = some y0 := h0
  have h1' : DataW.trod enc Tryd.prog w base spare held n 2 [c1] = some y1 := h1
  obtain ⟨a, e0, rfl, _⟩ := DataW.trod_int Tryd.underlying2 h0'
  obtain ⟨b, e1, rfl, _⟩ := DataW.trod_int Tryd.underlying2 h1'
  simp at e0 e1
  exact ⟨a, b, e0, e1, rfl⟩
theorem of_laid {W : World} (h : laidMetH Tryd.prog theLaid W) : Laid W := by
  rw [MakeChecks.laidMetH_plain _ _ _ (by kernel_rfl)] at h
  obtain ⟨ps, ⟨g0, t0, cs0, f0, p0, q0, hg0, ht0, hv0, hd0, _, _⟩, _, _⟩ := h
  obtain rfl := Option.some.inj (gLifts.symm.trans hg0)
  obtain rfl := Option.some.inj (tLifts.symm.trans ht0)
  obtain ⟨xs, m1, rfl, hx1, hlen, hn, hel⟩ := DataW.trod_array Tryd.underlying92 hd0
  have c2 : Tryd.prog.cellsOf 91 = 2 := by kernel_rfl
  have c8 : Tryd.prog.cellsOf 92 = 8 := by kernel_rfl
  rw [c8] at hlen
  rw [c2] at hel
  have hc := World.var?_cell hg0 hv0
  obtain ⟨l⟩ := cs0
  obtain ⟨a0, a1, a2, a3, a4, a5, a6, a7, rfl⟩ := array8 hlen
  match xs, hn with
  | [x0, x1, x2, x3], _ =>
    have h0 := hel 0 (by decide)
    have h1 := hel 1 (by decide)
    have h2 := hel 2 (by decide)
    have h3 := hel 3 (by decide)
    simp at h0 h1 h2 h3
    obtain ⟨u0, v0, rfl, rfl, e0⟩ := pair_cells h0
    obtain ⟨u1, v1, rfl, rfl, e1⟩ := pair_cells h1
    obtain ⟨u2, v2, rfl, rfl, e2⟩ := pair_cells h2
    obtain ⟨u3, v3, rfl, rfl, e3⟩ := pair_cells h3
    simp only [Prod.mk.injEq, List.map_cons, List.map_nil, e0, e1, e2, e3, Rows.laid_gouache_fixeds_lifts, DataW.agg.injEq, List.cons.injEq, DataW.lit.injEq, Lit.int.injEq, true_and, and_true] at hx1
    obtain ⟨⟨⟨rfl, rfl⟩, ⟨rfl, rfl⟩, ⟨rfl, rfl⟩, rfl, rfl⟩, _⟩ := hx1
    have k0 := hc 0
    have k1 := hc 1
    have k2 := hc 2
    have k3 := hc 3
    have k4 := hc 4
    have k5 := hc 5
    have k6 := hc 6
    have k7 := hc 7
    simp at k0 k1 k2 k3 k4 k5 k6 k7
    exact ⟨k0, k1, k2, k3, k4, k5, k6, k7⟩
section
variable {H : Type} {enc : TypeId × Value → H} {w : World} {base : Nat} {spare : Nat → Bool} {held : Bool}
theorem fix_cell {m : Nat} {c : Value} {y : DataW H × List MemPlace} (h : DataW.trod enc Tryd.prog w base spare held m 22 [c] = some y) : ∃ n, In32 n ∧ c = .int .i32 n ∧ y.2 = [] := by
  obtain ⟨a, e0, rfl, wa⟩ := DataW.trod_int Tryd.underlying22 h
  simp at e0
  have ba := bounds_i32 wa
  exact ⟨a, ⟨by omega, by omega⟩, e0, rfl⟩
/-- A number of 32 bits, opened. -/
theorem open_fix {r : Reach} {b0 : Nat} {v : Value} {d : DataW H} {p : List MemPlace} (hv : Value.okWide Tryd.prog w r b0 22 v) (h : DataW.Trod enc Tryd.prog w base spare held 22 v d p) :
    ∃ n, In32 n ∧ v = .int .i32 n ∧ p = [] := by
  obtain ⟨n, rfl, rfl, rfl, wn⟩ := open_int Tryd.underlying22 hv h
  have := bounds_i32 wn
  exact ⟨n, ⟨by omega, by omega⟩, rfl, rfl⟩
/-- A number of 8 bits, opened. -/
theorem open_i8 {r : Reach} {b0 : Nat} {v : Value} {d : DataW H} {p : List MemPlace} (hv : Value.okWide Tryd.prog w r b0 30 v) (h : DataW.Trod enc Tryd.prog w base spare held 30 v d p) :
    ∃ n : Int, (-128 ≤ n ∧ n < 128) ∧ v = .int .i8 n ∧ p = [] := by
  obtain ⟨n, rfl, rfl, rfl, wn⟩ := open_int Tryd.underlying30 hv h
  have := bounds_i8 wn
  exact ⟨n, ⟨by omega, by omega⟩, rfl, rfl⟩
/-- An argument without memory reads behind the call as before. -/
theorem again {t : TypeId} {W W' : World} {v : Value} {d : DataW H} (hr : Tryd.prog.readableRec t = true) (hrow : t < Tryd.prog.types.size) (h : DataW.Trod enc Tryd.prog W 0 (fun _ => true) true t v d []) (hb : Ext W W') :
    DataW.Trod enc Tryd.prog W' 0 (fun b => decide (b < W.heap.size)) true t v d [] := Below.trod laidOut hr hrow h hb (by simp)
end
end Go.Proofs.YtbkifcfienhkaaaDoor
