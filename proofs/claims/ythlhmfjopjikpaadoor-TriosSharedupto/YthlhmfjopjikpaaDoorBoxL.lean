/- A stream's layout (package api) as a value, and as a box in memory. -/
import Derived.Test.YthlhmfjopjikpaaDoorProg
import Derived.Test.YthlhmfjopjikpaaDoorBoxV
namespace Go.Proofs.YthlhmfjopjikpaaDoor
open Go.RowKit Go.BigFrame
set_option linter.unusedSimpArgs false
set_option linter.unusedVariables false
/-- A layout: type, bits of a coordinate, of a colour, of a flag, how many colours, how many in a row; and its ranges. -/
structure Lay where
  t : Int
  c : Int
  p : Int
  f : Int
  n : Int
  r : Int
  x : Nat → Int
def Lay.In (L : Lay) : Prop := In64 L.t ∧ In64 L.c ∧ In64 L.p ∧ In64 L.f ∧ In64 L.n ∧ In64 L.r ∧ ∀ i, -2147483648 ≤ L.x i ∧ L.x i ≤ 2147483647
/-- Its cells. -/
def lf (L : Lay) : Nat → Value
  | 0 => .int .i64 L.t
  | 1 => .int .i64 L.c
  | 2 => .int .i64 L.p
  | 3 => .int .i64 L.f
  | 4 => .int .i64 L.n
  | 5 => .int .i64 L.r
  | i + 6 => .int .i32 (L.x i)
/-- As a value. -/
def lv (L : Lay) : Array Value := (vl 18 (lf L)).toArray
theorem lv_at (L : Lay) {i : Nat} (h : i < 18) : (lv L)[i]? = some (lf L i) := by unfold lv; rw [List.getElem?_toArray, vl_at _ _ h]
theorem lv_size (L : Lay) : (lv L).size = 18 := rfl
theorem lv_one (L : Lay) : (lv L).all (·.oneCell') = true := vl_one 18 _ (fun i => by unfold lf; split <;> rfl)
structure Lm (v : World) (b : Nat) (L : Lay) : Prop where
  lt : b < v.heap.size
  fz : ∀ o, v.frozen? ⟨b, o, none⟩ = false
  c0 : v.cell? ⟨b, 0, none⟩ = some (.int .i64 L.t)
  c1 : v.cell? ⟨b, 1, none⟩ = some (.int .i64 L.c)
  c2 : v.cell? ⟨b, 2, none⟩ = some (.int .i64 L.p)
  c3 : v.cell? ⟨b, 3, none⟩ = some (.int .i64 L.f)
  c4 : v.cell? ⟨b, 4, none⟩ = some (.int .i64 L.n)
  c5 : v.cell? ⟨b, 5, none⟩ = some (.int .i64 L.r)
  dg : ∀ i, i < 12 → v.cell? ⟨b, i + 6, none⟩ = some (.int .i32 (L.x i))
theorem Lm.vm {v : World} {b : Nat} {L : Lay} (B : Lm v b L) : Vm v b 18 (lf L) := ⟨B.lt, B.fz, fun i hi => match i, hi with
  | 0, _ => B.c0 | 1, _ => B.c1 | 2, _ => B.c2 | 3, _ => B.c3 | 4, _ => B.c4 | 5, _ => B.c5 | i + 6, h => B.dg i (by omega)⟩
theorem Vm.lm {v : World} {b : Nat} {L : Lay} (B : Vm v b 18 (lf L)) : Lm v b L := ⟨B.lt, B.fz, B.dg 0 (by decide), B.dg 1 (by decide), B.dg 2 (by decide), B.dg 3 (by decide), B.dg 4 (by decide), B.dg 5 (by decide), fun i hi => B.dg (i + 6) (by omega)⟩
theorem Lm.later {v v' : World} {b : Nat} {L : Lay} (e : Ext v v') (B : Lm v b L) : Lm v' b L := (B.vm.later e).lm
theorem Lm.alloc {v : World} {b : Nat} {L : Lay} (B : Lm v b L) (o : Obj) : Lm (v.alloc o) b L := (B.vm.alloc o).lm
theorem Lm.drew {v : World} {b : Nat} {L : Lay} (B : Lm v b L) : Lm v.drew b L := B.vm.drew.lm
theorem Lm.drewN {v : World} {b : Nat} {L : Lay} (B : Lm v b L) (k : Nat) : Lm (v.drewN k) b L := (B.vm.drewN k).lm
theorem Lm.skip {v : World} {b b' o' : Nat} {y : Value} {L : Lay} (hne : b' ≠ b) (B : Lm v b L) : Lm (v.setCell ⟨b', o', none⟩ y) b L := (B.vm.skip hne).lm
theorem Lm.new {v : World} {b : Nat} {L : Lay} {t : TypeId} (hb : v.heap.size = b) : Lm (v.alloc (.cells (lv L) t)) b L := (Vm.new hb (fun i hi => lv_at L hi)).lm
theorem Lm.range {v : World} {b : Nat} {L : Lay} (B : Lm v b L) : v.rangeAt b 0 (vl 18 (lf L)) := B.vm.range
theorem Lm.set {v : World} {b : Nat} {L L' : Lay} (B : Lm v b L) (k : Nat) (y : Value) (h : ∀ i, i < 18 → updv (lf L) k y i = lf L' i) : Lm (v.setCell ⟨b, k, none⟩ y) b L' := ((B.vm.set k y).eq h).lm
def Lay.wt (L : Lay) (y : Int) : Lay := { L with t := y }
def Lay.wn (L : Lay) (y : Int) : Lay := { L with n := y }
def Lay.wr (L : Lay) (y : Int) : Lay := { L with r := y }
def Lay.setx (L : Lay) (k : Nat) (y : Int) : Lay := { L with x := fun i => if i = k then y else L.x i }
theorem Lm.set0 {v : World} {b : Nat} {L : Lay} (B : Lm v b L) (y : Int) : Lm (v.setCell ⟨b, 0, none⟩ (.int .i64 y)) b (L.wt y) := B.set 0 _ (fun i _ => by unfold updv lf Lay.wt; split <;> first | subst_vars; rfl | (split <;> first | rfl | omega))
theorem Lm.set4 {v : World} {b : Nat} {L : Lay} (B : Lm v b L) (y : Int) : Lm (v.setCell ⟨b, 4, none⟩ (.int .i64 y)) b (L.wn y) := B.set 4 _ (fun i _ => by unfold updv lf Lay.wn; split <;> first | subst_vars; rfl | (split <;> first | rfl | omega))
theorem Lm.set5 {v : World} {b : Nat} {L : Lay} (B : Lm v b L) (y : Int) : Lm (v.setCell ⟨b, 5, none⟩ (.int .i64 y)) b (L.wr y) := B.set 5 _ (fun i _ => by unfold updv lf Lay.wr; split <;> first | subst_vars; rfl | (split <;> first | rfl | omega))
theorem Lm.setx {v : World} {b : Nat} {L : Lay} (B : Lm v b L) (k : Nat) (y : Int) : Lm (v.setCell ⟨b, k + 6, none⟩ (.int .i32 y)) b (L.setx k y) := B.set (k + 6) _ (fun i hi => by
  clear hi
  unfold updv
  split
  · subst_vars; simp [lf, Lay.setx]
  · unfold lf Lay.setx
    split <;> try rfl
    rename_i i' h'
    simp only [show ¬ i' = k by omega, if_false])
theorem Lm.setk {v : World} {b : Nat} {L : Lay} (B : Lm v b L) {k j : Nat} (y : Int) (h : j + 6 = k) : Lm (v.setCell ⟨b, k, none⟩ (.int .i32 y)) b (L.setx j y) := by subst h; exact B.setx j y
/-- A layout loaded out of its box. -/
theorem wpList_load_lay {ops : Array Oper} {rest : List Oper} {op : Oper} {a : Act} {w : World} {Q : Exit → Act → World → Prop} {L : Lay} (b : Nat) (x : Operand) (hw : Region.wanted op (yielded ops a.tmps) = true) (ho : op.op = .load 27 x)
    (hx : a.eval x = .pointer (some ⟨b, 0, none⟩)) (B : Lm w b L) (h : wpList Tryd.prog ops Q rest (a.put op.dst (.agg (lv L))) w) : wpList Tryd.prog ops Q (op :: rest) a w :=
  BigFrame.wpList_want hw fun _ hK => wp_load_mid 27 x ho b 0 hx (vl 18 (lf L)) _ B.range Tryd.underlying27 rfl (by rw [vl_len]; kernel_rfl) (hK _ _ h)
/-- .. in a region that draws its order. -/
theorem quiet_load_lay {C : World → Prop} {o : Oper} {a : Act} {K : Act → Prop} {L : Lay} (x : Operand) (b : Nat) (ho : o.op = .load 27 x) (hx : a.eval x = .pointer (some ⟨b, 0, none⟩)) (B : ∀ w, C w → Lm w b L)
    (hk : K (a.put o.dst (.agg (lv L)))) : o.quiet Tryd.prog a C K :=
  ⟨.agg (lv L), fun w hw => by
    have h := run_loadVar_mid (P := Tryd.prog) w b 0 27 (vl 18 (lf L)) _ (B w hw).range Tryd.underlying27 rfl (by rw [vl_len]; kernel_rfl)
    unfold Oper.quietAt execOp
    simp only [ho, hx, Instr.loadAt, Instr.sureAddr, Sem.run_bind, Sem.run_pure, Result.andThen_ok, h]
    exact ⟨rfl, rfl⟩, hk⟩
/-- Written out, cell by cell. -/
theorem lv_exp (L : Lay) : Value.agg (lv L) = (.agg #[.int .i64 (L).t, .int .i64 (L).c, .int .i64 (L).p, .int .i64 (L).f, .int .i64 (L).n, .int .i64 (L).r, .int .i32 ((L).x 0), .int .i32 ((L).x 1), .int .i32 ((L).x 2), .int .i32 ((L).x 3), .int .i32 ((L).x 4), .int .i32 ((L).x 5), .int .i32 ((L).x 6), .int .i32 ((L).x 7), .int .i32 ((L).x 8), .int .i32 ((L).x 9), .int .i32 ((L).x 10), .int .i32 ((L).x 11)]) := rfl
/-- A layout stored into its box. -/
theorem Lm.cells {v : World} {b : Nat} {L K : Lay} (B : Lm v b K) : Lm (v.setCells b 0 (vl 18 (lf L))) b L := (B.vm.cells (by decide) (lf L)).lm
theorem Lm.cells1 {v : World} {b : Nat} {L : Lay} (h : ∃ K, Lm v b K) : Lm (v.setCells b 0 (vl 18 (lf L))) b L := by obtain ⟨K, B⟩ := h; exact B.cells
theorem there_new {v : World} {cs : Array Value} {t : TypeId} (n : Nat) (h : cs.size = n) : (v.alloc (.cells cs t)).there v.heap.size 0 n := fun j hj => by
  rw [Nat.zero_add]
  exact ⟨by rw [new1 (Array.getElem?_eq_getElem (by omega))]; rfl, frz_new _ _ _ j⟩
theorem Lm.fresh {v : World} {b : Nat} {L : Lay} {cs : Array Value} {t : TypeId} (hb : v.heap.size = b) (h : cs.size = 18) : Lm ((v.alloc (.cells cs t)).setCells b 0 (vl 18 (lf L))) b L := by
  subst hb
  refine Vm.lm ⟨?_, fun o => ?_, fun i hi => ?_⟩
  · have := World.rangeAt_setCells_same (v.alloc (.cells cs t)) v.heap.size 0 (vl 18 (lf L)) (by rw [vl_len]; exact there_new 18 h) 0 _ (vl_at 18 (lf L) (by decide))
    rw [Nat.zero_add] at this
    exact cell_lt this
  · rw [World.frozen?_setCells]; exact frz_new _ _ _ o
  · have := World.rangeAt_setCells_same (v.alloc (.cells cs t)) v.heap.size 0 (vl 18 (lf L)) (by rw [vl_len]; exact there_new 18 h) i _ (vl_at 18 (lf L) hi)
    rw [Nat.zero_add] at this
    exact this
theorem wpList_store_lay {ops : Array Oper} {rest : List Oper} {op : Oper} {a : Act} {w : World} {Q : Exit → Act → World → Prop} {L : Lay} (b : Nat) (x y : Operand) (hgd : op.guard = none) (ho : op.op = .store 27 x y)
    (hx : a.eval x = .pointer (some ⟨b, 0, none⟩)) (hy : a.eval y = .agg (lv L)) (ht : w.there b 0 18)
    (h : wpList Tryd.prog ops Q rest (a.put op.dst undef) (w.setCells b 0 (vl 18 (lf L)))) : wpList Tryd.prog ops Q (op :: rest) a w :=
  wpList_store_mid hgd 27 x y ho b 0 (lv L) hx hy (by rw [lv_size]; exact ht) (by rw [lv_size]; kernel_rfl) (lv_one L) h
theorem Lm.skips {b b' : Nat} {L : Lay} (hne : b' ≠ b) : ∀ (vs : List Value) (o : Nat) {v : World} (B : Lm v b L), Lm (v.setCells b' o vs) b L
  | [], _, _, B => B
  | _ :: vs, o, _, B => Lm.skips hne vs (o + 1) (B.skip hne)
/-- May a layout be? -/
def mayl (L : Lay) : Bool := decide (L.t ∈ ([4, 5, 6, 7] : List Int)) && decide (L.c ∈ ([1, 2, 4, 8, 12, 16, 24, 32] : List Int)) && decide (L.p ∈ ([1, 2, 4, 8, 12, 16] : List Int)) && decide (1 ≤ L.n) && decide (L.n ≤ 4) &&
  (if L.t = 5 then decide (2 ≤ L.r) else decide (L.f ∈ ([2, 4, 8] : List Int)))
/-- How many points a record of a flag has; how many colours; how many bits its flag has. -/
def pts (L : Lay) (u : Int) : Int := if L.t < 6 then 1 else (if u = 0 then 12 else 8) + (if L.t = 7 then 4 else 0)
def cols (L : Lay) (u : Int) : Int := if L.t < 6 then 1 else if u = 0 then 4 else 2
def flg (L : Lay) : Int := if L.t = 5 then 0 else L.f
def lbits (L : Lay) (u : Int) : Int := flg L + pts L u * (2 * L.c) + cols L u * (L.n * L.p)
/-- How many bytes. -/
def lsize (L : Lay) (u : Int) : Int := if mayl L = true then (lbits L u + 7) / 8 else 0
theorem mayl_is {L : Lay} (h : mayl L = true) : (L.t = 4 ∨ L.t = 5 ∨ L.t = 6 ∨ L.t = 7) ∧ (L.c = 1 ∨ L.c = 2 ∨ L.c = 4 ∨ L.c = 8 ∨ L.c = 12 ∨ L.c = 16 ∨ L.c = 24 ∨ L.c = 32) ∧ (L.p = 1 ∨ L.p = 2 ∨ L.p = 4 ∨ L.p = 8 ∨ L.p = 12 ∨ L.p = 16) ∧
    1 ≤ L.n ∧ L.n ≤ 4 ∧ (L.t = 5 → 2 ≤ L.r) ∧ (L.t ≠ 5 → L.f = 2 ∨ L.f = 4 ∨ L.f = 8) := by
  unfold mayl at h
  simp only [Bool.and_eq_true, decide_eq_true_eq, List.mem_cons, List.not_mem_nil, or_false] at h
  obtain ⟨⟨⟨⟨⟨h1, h2⟩, h3⟩, h4⟩, h5⟩, h6⟩ := h
  refine ⟨h1, h2, h3, h4, h5, fun h => ?_, fun h => ?_⟩
  · rw [if_pos h] at h6; simpa using h6
  · rw [if_neg h] at h6; simpa using h6
/-- A layout loaded out of its box: what the operation is is asked first. -/
theorem wpList_load_layh {ops : Array Oper} {rest : List Oper} {op : Oper} {a : Act} {w : World} {Q : Exit → Act → World → Prop} {L : Lay} (b : Nat) (x : Operand) (ho : op.op = .load 27 x)
    (hx : a.eval x = .pointer (some ⟨b, 0, none⟩)) (B : Lm w b L) (hw : Region.wanted op (yielded ops a.tmps) = true) (h : wpList Tryd.prog ops Q rest (a.put op.dst (.agg (lv L))) w) : wpList Tryd.prog ops Q (op :: rest) a w :=
  wpList_load_lay b x hw ho hx B h
end Go.Proofs.YthlhmfjopjikpaaDoor
