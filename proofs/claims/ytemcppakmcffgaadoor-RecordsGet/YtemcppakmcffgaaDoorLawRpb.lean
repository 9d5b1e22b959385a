/- The law RecordsPut, walked, by any contract of package records' Put. The laws RecordsGet and RecordsPut, whatever the lengths, by any contracts of package records' Get and Put. -/
import Derived.Test.YtemcppakmcffgaaDoorRecTU
import Derived.Test.YtemcppakmcffgaaDoorLawRget
namespace Go.Proofs.YtemcppakmcffgaaDoor
open Go.RowKit Go.BigFrame
set_option linter.unusedSimpArgs false
set_option linter.unusedVariables false
theorem rv_kinds {w : World} {a : Option Addr} {n : Nat} {R : Nat → Rcd} (B : Vs w a n R) {i : Nat} (hi : i < n) : Kinds [some .u8, some .u32, some .u32, some .u16, some .u16, some .u16, some .u16] (vl 7 (rv (R i))) := by
  have bf := B.f i hi
  have bx := B.x i hi
  have by' := B.y i hi
  have c0 := B.c i 0 hi (by omega)
  have c1 := B.c i 1 hi (by omega)
  have c2 := B.c i 2 hi (by omega)
  have c3 := B.c i 3 hi (by omega)
  show Kinds _ [.int .u8 (R i).f, .int .u32 (R i).x, .int .u32 (R i).y, .int .u16 ((R i).c 0), .int .u16 ((R i).c 1), .int .u16 ((R i).c 2), .int .u16 ((R i).c 3)]
  generalize (R i).f = y0 at *
  generalize (R i).x = y1 at *
  generalize (R i).y = y2 at *
  generalize (R i).c 0 = z0 at *
  generalize (R i).c 1 = z1 at *
  generalize (R i).c 2 = z2 at *
  generalize (R i).c 3 = z3 at *
  simp only [Kinds, OfKind]
  refine ⟨_, _, rfl, ⟨_, rfl, ?_⟩, _, _, rfl, ⟨_, rfl, ?_⟩, _, _, rfl, ⟨_, rfl, ?_⟩, _, _, rfl, ⟨_, rfl, ?_⟩, _, _, rfl, ⟨_, rfl, ?_⟩, _, _, rfl, ⟨_, rfl, ?_⟩, _, _, rfl, ⟨_, rfl, ?_⟩, rfl⟩ <;> simp [Lit.wf, IntKind.min, IntKind.max, IntKind.signed, IntKind.bits] <;> omega
theorem Lst.bs {w : World} {s : Value} {M : Nat} {f : Nat → Int} (h : Lst w 5 1 s M (fun j _ => .int .u8 (f j))) (hM : M ≤ 140737488355328) (hf : ∀ i, i < M → 0 ≤ f i ∧ f i < 256) : ∃ a c, s = .slice a M c ∧ Bs w a M f := by
  obtain ⟨a, c, rfl⟩ := h.slice
  refine ⟨a, c, rfl, hM, fun i hi => ?_, hf⟩
  obtain ⟨g, c', hs⟩ := h.form (by omega)
  cases hs
  have := h.cell hi (show 0 < 1 by decide)
  rw [Nat.mul_one, Nat.add_zero] at this
  exact ⟨g, 0, rfl, by rw [Nat.zero_add]; exact this⟩
theorem PutIs.le {L : Lay} {R : Nat → Rcd} {N M : Nat} {x : Int} (h : PutIs L R N x M) : M ≤ 65536 := by
  rcases h with ⟨_, _, h⟩ | ⟨_, _, _, h⟩ | ⟨_, _, _, _, h⟩ | ⟨_, _, h1, _, h⟩ <;> omega


end Go.Proofs.YtemcppakmcffgaaDoor

namespace Go.Proofs.YtemcppakmcffgaaDoor
open Go.RowKit Go.BigFrame
set_option linter.unusedSimpArgs false
set_option linter.unusedVariables false


set_option maxRecDepth 20000 in
theorem rget_law (L : Lay) (a : Option Addr) (len cap : Nat) (f : Nat → Int) (w : World) (B : Bs w a len f) (ha : a = none → len = 0 ∧ cap = 0)
    (GC : ∀ (f : Nat → Int) a cap v, Ext w v → Bs v a len f → len ≤ cap → Calls Tryd.prog 10 #[(.agg (lv (L))), .slice a len cap] v (GotAll L f len v))
    (LV : ∀ v, Ext w v → Calls Tryd.prog 8 #[] v fun e w' => e = .returned (.bool true) ∧ Ext v w') :
    Calls Tryd.prog 3 #[(.agg (lv (L))), .slice a len cap] w fun e w' => e = .returned (.bool true) ∧ Ext w w' := by
  have hlen := B.len
  by_cases h1 : len ≤ 5000
  · exact rget_walk L a len cap f w B ha (by omega) (.inl (by omega)) GC LV
  by_cases h2 : 65536 < len ∧ len ≤ 70000
  · exact rget_walk L a len cap f w B ha h2.2 (.inr ⟨by omega, by omega⟩) GC LV
  have EX := Ext.refl w
  have d1 : (5000 : Int) < (len : Int) := by omega
  clear B GC
  by_cases h3 : len ≤ 65536
  · have d2 : (len : Int) ≤ 65536 := by omega
    go_enter Tryd.func3, Tryd.ntmps3
    go_upto_region 1 with fail
    refine rebase (G := fun w' => Code.wp _ _ _ _ w') _ (fun v1 => Ext w v1 ∧ Lm v1 (w.heap.size) (L)) ⟨by repeat (first | with_reducible exact EX |  with_reducible refine Ext.alloc ?_ _ | with_reducible refine Ext.drew ?_ | with_reducible refine Ext.drewN ?_ _ | with_reducible refine Ext.setCell ?_ (by first | (simp; done) | omega | (dsimp only; omega)) _), by repeat (first | with_reducible assumption | with_reducible refine Lm.drew ?_ | with_reducible refine Lm.drewN ?_ _ | (with_reducible refine Lm.skip ?_ ?_; focus (first | omega | (simp; done))) | with_reducible refine Lm.set0 ?_ _ | with_reducible refine Lm.set4 ?_ _ | with_reducible refine Lm.set5 ?_ _ | with_reducible refine Lm.setk ?_ _ (by decide) | (with_reducible refine Lm.cells1 ?_; exact ⟨_, by with_reducible assumption⟩) | (with_reducible refine Lm.skips ?_ _ _ ?_; focus (first | omega | (simp; done))) | (with_reducible refine Lm.new ?_ <;> first | rfl | (simp; done)) | (with_reducible refine Lm.fresh ?_ ?_ <;> first | rfl | (simp; done)) | with_reducible refine Lm.alloc ?_ _)⟩ ?_; clear EX ; rintro v1 ⟨EX, LB⟩; rename World => v; have LBc0 := LB.c0; have LBc1 := LB.c1; have LBc2 := LB.c2; have LBc3 := LB.c3; have LBc4 := LB.c4; have LBc5 := LB.c5; have LBdg := LB.dg; have LBfz := LB.fz; have LBlt := LB.lt
    go_wp2_with (first | (go_at_call 8; with_reducible refine (LV _ EX).mono ?_; rintro e v1 ⟨rfl, hb⟩; replace EX := Ext.trans EX hb; clear hb))
    go_ret
    exact ⟨rfl, EX⟩
  · have d2 : ¬ (len : Int) ≤ 65536 := by omega
    have d3 : (70000 : Int) < (len : Int) := by omega
    go_enter Tryd.func3, Tryd.ntmps3
    go_upto_region 1 with fail
    refine rebase (G := fun w' => Code.wp _ _ _ _ w') _ (fun v1 => Ext w v1 ∧ Lm v1 (w.heap.size) (L)) ⟨by repeat (first | with_reducible exact EX |  with_reducible refine Ext.alloc ?_ _ | with_reducible refine Ext.drew ?_ | with_reducible refine Ext.drewN ?_ _ | with_reducible refine Ext.setCell ?_ (by first | (simp; done) | omega | (dsimp only; omega)) _), by repeat (first | with_reducible assumption | with_reducible refine Lm.drew ?_ | with_reducible refine Lm.drewN ?_ _ | (with_reducible refine Lm.skip ?_ ?_; focus (first | omega | (simp; done))) | with_reducible refine Lm.set0 ?_ _ | with_reducible refine Lm.set4 ?_ _ | with_reducible refine Lm.set5 ?_ _ | with_reducible refine Lm.setk ?_ _ (by decide) | (with_reducible refine Lm.cells1 ?_; exact ⟨_, by with_reducible assumption⟩) | (with_reducible refine Lm.skips ?_ _ _ ?_; focus (first | omega | (simp; done))) | (with_reducible refine Lm.new ?_ <;> first | rfl | (simp; done)) | (with_reducible refine Lm.fresh ?_ ?_ <;> first | rfl | (simp; done)) | with_reducible refine Lm.alloc ?_ _)⟩ ?_; clear EX ; rintro v1 ⟨EX, LB⟩; rename World => v; have LBc0 := LB.c0; have LBc1 := LB.c1; have LBc2 := LB.c2; have LBc3 := LB.c3; have LBc4 := LB.c4; have LBc5 := LB.c5; have LBdg := LB.dg; have LBfz := LB.fz; have LBlt := LB.lt
    go_wp2_with (first | (go_at_call 8; with_reducible refine (LV _ EX).mono ?_; rintro e v1 ⟨rfl, hb⟩; replace EX := Ext.trans EX hb; clear hb))
    go_ret
    exact ⟨rfl, EX⟩
end Go.Proofs.YtemcppakmcffgaaDoor
