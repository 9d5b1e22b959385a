/- The laws' list of vertices, cut down to what has room: one round of the loop that makes it; what it is. -/
import Derived.Test.YtemcppakmcffgaaDoorLawRph
import Derived.Test.YtemcppakmcffgaaDoorPkJ
namespace Go.Proofs.YtemcppakmcffgaaDoor
open Go.RowKit Go.BigFrame
set_option linter.unusedSimpArgs false
set_option linter.unusedVariables false
set_option maxRecDepth 20000
theorem fit_vs {w : World} {L : Lay} {fl c p n sz : Nat} (V : Vl L fl c p n sz) {a : Option Addr} {m : Nat} {Q : Nat → Rcd} (E : Es w 7 a m (fun i => rv (fitR fl c p n (Q i)))) : Vs w a m (fun i => fitR fl c p n (Q i)) := by
  have p8 : (2 : Int) ^ fl ≤ 256 := pow_le2 (n := 8) V.f8
  have p32 := pow32 V.c1.2
  have p16 : (2 : Int) ^ p ≤ 65536 := pow_le2 (n := 16) V.p1.2
  have em : ∀ (x : Int) (k : Nat), 0 ≤ x % 2 ^ k ∧ x % 2 ^ k < 2 ^ k := fun x k => ⟨Int.emod_nonneg _ (Int.ne_of_gt (pow_pos2 _)), Int.emod_lt_of_pos _ (pow_pos2 _)⟩
  refine ⟨E, fun i _ => ?_, fun i _ => ?_, fun i _ => ?_, fun i k _ _ => ?_⟩
  · have := em (Q i).f fl
    show 0 ≤ (Q i).f % 2 ^ fl ∧ (Q i).f % 2 ^ fl < 256
    omega
  · have := em (Q i).x c
    show 0 ≤ (Q i).x % 2 ^ c ∧ (Q i).x % 2 ^ c < 4294967296
    omega
  · have := em (Q i).y c
    show 0 ≤ (Q i).y % 2 ^ c ∧ (Q i).y % 2 ^ c < 4294967296
    omega
  · show 0 ≤ (if k < n then _ else _) ∧ (if k < n then _ else _) < _
    split
    · have := em ((Q i).c k) p
      omega
    · omega
theorem Bs.take {w : World} {a : Option Addr} {len : Nat} {f : Nat → Int} (B : Bs w a len f) (k : Nat) (hk : k ≤ len) : Bs w a k f := ⟨by have := B.len; omega, fun i hi => B.at_ i (by omega), fun i hi => B.byte i (by omega)⟩
/-- The cells of one record, as a list written out. -/
theorem vl7 (g : Nat → Value) : vl 7 g = [g 0, g 1, g 2, g 3, g 4, g 5, g 6] := rfl
/-- A layout loaded out of its box: what the operation is is asked first. -/
theorem wpList_load_layh {ops : Array Oper} {rest : List Oper} {op : Oper} {a : Act} {w : World} {Q : Exit → Act → World → Prop} {L : Lay} (b : Nat) (x : Operand) (ho : op.op = .load 27 x)
    (hx : a.eval x = .pointer (some ⟨b, 0, none⟩)) (B : Lm w b L) (hw : Region.wanted op (yielded ops a.tmps) = true) (h : wpList Tryd.prog ops Q rest (a.put op.dst (.agg (lv L))) w) : wpList Tryd.prog ops Q (op :: rest) a w :=
  wpList_load_lay b x hw ho hx B h
end Go.Proofs.YtemcppakmcffgaaDoor
