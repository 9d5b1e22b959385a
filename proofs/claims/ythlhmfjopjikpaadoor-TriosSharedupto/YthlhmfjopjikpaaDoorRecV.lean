/- Vertices as values, as variables, as lists in memory. -/
import Derived.Test.YthlhmfjopjikpaaDoorProg
import Derived.Test.YthlhmfjopjikpaaDoorBoxS
import Derived.Test.YthlhmfjopjikpaaDoorBoxL
import Derived.Test.YthlhmfjopjikpaaDoorListB
namespace Go.Proofs.YthlhmfjopjikpaaDoor
open Go.RowKit Go.BigFrame
set_option linter.unusedSimpArgs false
set_option linter.unusedVariables false
/-- A vertex as it stands in a stream: its flag, its point, its colours. -/
structure Rcd where
  f : Int
  x : Int
  y : Int
  c : Nat → Int
/-- Its cells. -/
def rv (R : Rcd) : Nat → Value
  | 0 => .int .u8 R.f
  | 1 => .int .u32 R.x
  | 2 => .int .u32 R.y
  | i + 3 => .int .u16 (R.c i)
theorem info_recG : (Tryd.prog.info? 63).map (fun i => (i.zero, i.size, i.bytes)) = some (some (.agg #[.int .u8 0, .int .u32 0, .int .u32 0, .int .u16 0, .int .u16 0, .int .u16 0, .int .u16 0]), 7, 20) := by kernel_rfl
theorem Vm.col {v : World} {b k : Nat} {F X Y z : Int} {C : Nat → Int} (B : Vm v b 7 (rv ⟨F, X, Y, C⟩)) : Vm (v.setCell ⟨b, 3 + k, none⟩ (.int .u16 z)) b 7 (rv ⟨F, X, Y, fun i => if i = k then z else C i⟩) := (B.set (3 + k) _).eq fun i _ => by
  unfold updv
  by_cases e : i = 3 + k
  · subst e
    rw [if_pos rfl, Nat.add_comm 3 k]
    show _ = Value.int .u16 (if k = k then z else C k)
    rw [if_pos rfl]
  · rw [if_neg e]
    match i with
    | 0 => rfl
    | 1 => rfl
    | 2 => rfl
    | i + 3 =>
      show Value.int .u16 (C i) = .int .u16 (if i = k then z else C i)
      rw [if_neg (by omega)]
theorem S7m.vm9 {v : World} {b : Nat} {F X Y : Int} (B : S7m v b (.int .u8 F) (.int .u32 X) (.int .u32 Y) (.int .u16 0) (.int .u16 0) (.int .u16 0) (.int .u16 0)) : Vm v b 7 (rv ⟨F, X, Y, fun _ => 0⟩) :=
  ⟨B.lt, B.fz, fun i hi => match i, hi with | 0, _ => B.c0 | 1, _ => B.c1 | 2, _ => B.c2 | 3, _ => B.c3 | 4, _ => B.c4 | 5, _ => B.c5 | 6, _ => B.c6⟩
theorem rv_one (R : Rcd) : ∀ u ∈ [rv R 0, rv R 1, rv R 2, rv R 3, rv R 4, rv R 5, rv R 6], u.oneCell' = true := by
  intro u hu
  simp only [List.mem_cons, List.not_mem_nil, or_false] at hu
  rcases hu with rfl | rfl | rfl | rfl | rfl | rfl | rfl <;> rfl
/-- Vertices in memory, wherever they begin. -/
structure Vs (w : World) (a : Option Addr) (n : Nat) (R : Nat → Rcd) : Prop where
  es : Es w 7 a n (fun i => rv (R i))
  f : ∀ i, i < n → 0 ≤ (R i).f ∧ (R i).f < 256
  x : ∀ i, i < n → 0 ≤ (R i).x ∧ (R i).x < 4294967296
  y : ∀ i, i < n → 0 ≤ (R i).y ∧ (R i).y < 4294967296
  c : ∀ i k, i < n → k < 4 → 0 ≤ (R i).c k ∧ (R i).c k < 65536
theorem Vs.later {w w' : World} {a : Option Addr} {n : Nat} {R : Nat → Rcd} (B : Vs w a n R) (e : Ext w w') : Vs w' a n R := ⟨B.es.later e, B.f, B.x, B.y, B.c⟩
theorem Vm.fresh {v : World} {b n : Nat} {f : Nat → Value} {cs : Array Value} {t : TypeId} (hn : 0 < n) (hb : v.heap.size = b) (h : cs.size = n) : Vm ((v.alloc (.cells cs t)).setCells b 0 (vl n f)) b n f := by
  subst hb
  have key : ∀ i, i < n → ((v.alloc (.cells cs t)).setCells v.heap.size 0 (vl n f)).cell? ⟨v.heap.size, i, none⟩ = some (f i) := fun i hi => by
    have := World.rangeAt_setCells_same (v.alloc (.cells cs t)) v.heap.size 0 (vl n f) (by rw [vl_len]; exact there_new n h) i _ (vl_at n f hi)
    rw [Nat.zero_add] at this
    exact this
  exact ⟨cell_lt (key 0 hn), fun o => by rw [World.frozen?_setCells]; exact frz_new _ _ _ o, key⟩
theorem Vm.s7 {v : World} {b : Nat} {R : Rcd} (B : Vm v b 7 (rv R)) : S7m v b (.int .u8 R.f) (.int .u32 R.x) (.int .u32 R.y) (.int .u16 (R.c 0)) (.int .u16 (R.c 1)) (.int .u16 (R.c 2)) (.int .u16 (R.c 3)) :=
  ⟨B.lt, B.fz, B.dg 0 (by decide), B.dg 1 (by decide), B.dg 2 (by decide), B.dg 3 (by decide), B.dg 4 (by decide), B.dg 5 (by decide), B.dg 6 (by decide)⟩
theorem S7m.at3 {v : World} {b : Nat} {x0 x1 x2 : Value} {C : Nat → Int} (B : S7m v b x0 x1 x2 (.int .u16 (C 0)) (.int .u16 (C 1)) (.int .u16 (C 2)) (.int .u16 (C 3))) {k : Nat} (hk : k < 4) : v.cell? ⟨b, 3 + k, none⟩ = some (.int .u16 (C k)) :=
  match k, hk with | 0, _ => B.c3 | 1, _ => B.c4 | 2, _ => B.c5 | 3, _ => B.c6
theorem size_recQ : (Tryd.prog.info? 63).map (·.size) = some 7 := by kernel_rfl
theorem range_chg {S : Nat → Prop} {w w' : World} {b o : Nat} {cs : List Value} (h : w.rangeAt b o cs) (C : Chg S w w') (hb : ¬ S b) : w'.rangeAt b o cs := fun j v hv => C.cell hb (h j v hv)
/-- The cells of one record, as a list written out. -/
theorem vl7 (g : Nat → Value) : vl 7 g = [g 0, g 1, g 2, g 3, g 4, g 5, g 6] := rfl
theorem Vm.skips {b n : Nat} {f : Nat → Value} {b' : Nat} (hb : b' ≠ b) : ∀ (vs : List Value) (o : Nat) {v : World}, Vm v b n f → Vm (v.setCells b' o vs) b n f
  | [], _, _, B => B
  | _ :: vs, o, _, B => Vm.skips hb vs (o + 1) (B.skip hb)
end Go.Proofs.YthlhmfjopjikpaaDoor
