/- What the given reference's Put of records does, where all vertices have room. -/
import Derived.Test.YtemcppakmcffgaaDoorRecP
import Derived.Test.YtemcppakmcffgaaDoorReadsAB
namespace Go.Proofs.YtemcppakmcffgaaDoor
open Go.RowKit Go.BigFrame
set_option linter.unusedSimpArgs false
set_option linter.unusedVariables false
/-- Vertices in memory, wherever they begin. -/
structure Vs (w : World) (a : Option Addr) (n : Nat) (R : Nat → Rcd) : Prop where
  es : Es w 7 a n (fun i => rv (R i))
  f : ∀ i, i < n → 0 ≤ (R i).f ∧ (R i).f < 256
  x : ∀ i, i < n → 0 ≤ (R i).x ∧ (R i).x < 4294967296
  y : ∀ i, i < n → 0 ≤ (R i).y ∧ (R i).y < 4294967296
  c : ∀ i k, i < n → k < 4 → 0 ≤ (R i).c k ∧ (R i).c k < 65536
theorem Vs.later {w w' : World} {a : Option Addr} {n : Nat} {R : Nat → Rcd} (B : Vs w a n R) (e : Ext w w') : Vs w' a n R := ⟨B.es.later e, B.f, B.x, B.y, B.c⟩
theorem Vm.fresh {v : World} {b n : Nat} {f : Nat → Value} {cs : Array Value} {t : TypeId} (hn : 0 < n) (hb : v.heap.size = b) (h : cs.size = n) : Vm ((v.alloc (.cells cs t)).setCells b 0 (vl n f)) b n f := by
  subst hb
  have key : ∀ i, i < n → ((v.alloc (.cells cs t)).setCells v.heap.size 0 (vl n f)).cell? ⟨v.heap.size, i, none⟩ = some (f i) := fun i hi => by
    have := World.rangeAt_setCells_same (v.alloc (.cells cs t)) v.heap.size 0 (vl n f) (by rw [vl_len]; exact there_new n h) i _ (vl_at n f hi)
    rw [Nat.zero_add] at this
    exact this
  exact ⟨cell_lt (key 0 hn), fun o => by rw [World.frozen?_setCells]; exact frz_new _ _ _ o, key⟩
theorem Vm.s7 {v : World} {b : Nat} {R : Rcd} (B : Vm v b 7 (rv R)) : S7m v b (.int .u8 R.f) (.int .u32 R.x) (.int .u32 R.y) (.int .u16 (R.c 0)) (.int .u16 (R.c 1)) (.int .u16 (R.c 2)) (.int .u16 (R.c 3)) :=
  ⟨B.lt, B.fz, B.dg 0 (by decide), B.dg 1 (by decide), B.dg 2 (by decide), B.dg 3 (by decide), B.dg 4 (by decide), B.dg 5 (by decide), B.dg 6 (by decide)⟩
theorem S7m.at3 {v : World} {b : Nat} {x0 x1 x2 : Value} {C : Nat → Int} (B : S7m v b x0 x1 x2 (.int .u16 (C 0)) (.int .u16 (C 1)) (.int .u16 (C 2)) (.int .u16 (C 3))) {k : Nat} (hk : k < 4) : v.cell? ⟨b, 3 + k, none⟩ = some (.int .u16 (C k)) :=
  match k, hk with | 0, _ => B.c3 | 1, _ => B.c4 | 2, _ => B.c5 | 3, _ => B.c6
theorem size_recQ : (Tryd.prog.info? 63).map (·.size) = some 7 := by kernel_rfl

theorem ew_flat1 (n : Nat) (F : Nat → Value) : ew 1 n (fun i _ => F i) = vl n F := by
  unfold ew
  rw [Nat.mul_one]
  exact vl_ext fun j _ => by rw [Nat.div_one]
end Go.Proofs.YtemcppakmcffgaaDoor
