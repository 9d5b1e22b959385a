/- The law package's letters (layer 10): triangles as a text. -/
import Derived.Test.YthlhmfjopjikpaaDoorTriM
import Derived.Test.YthlhmfjopjikpaaDoorPhases
import Derived.Test.YthlhmfjopjikpaaDoorBookA
import Derived.Deep.LoopGhost
import Derived.Deep.Light
import Derived.Laws.BytesString
import Derived.Shelf.Small.Bits
namespace Go.Proofs.YthlhmfjopjikpaaDoor
open Go.RowKit Go.BigFrame
set_option linter.unusedSimpArgs false
set_option linter.unusedVariables false
set_option maxRecDepth 20000
def u8c (x : Int) : UInt8 := UInt8.ofNat (x % 256).toNat
def lettersB (T : Nat → T3) : Nat → ByteArray
  | 0 => { data := #[] }
  | k + 1 => (lettersB T k ++ { data := #[u8c (T k).a.x, u8c (T k).b.x, u8c (T k).c.x] }) ++ { data := #[32] }
set_option maxHeartbeats 4000000 in
theorem letters_any (s : Value) (m : Nat) (T : Nat → T3) (w : World) (SL : Lst w 65 21 s m (fun k => tv (T k))) (hm : m ≤ 1000) (hT : ∀ k, k < m → (0 ≤ (T k).a.x ∧ (T k).a.x < 4294967296) ∧ (0 ≤ (T k).b.x ∧ (T k).b.x < 4294967296) ∧ (0 ≤ (T k).c.x ∧ (T k).c.x < 4294967296)) :
    Calls Tryd.prog 70 #[s] w fun e w' => e = .returned (.string (lettersB T m)) ∧ Ext w w' := by
  have EX := Ext.refl w
  obtain ⟨a, c, rfl⟩ := SL.slice
  have HS : Hid (Lst w 65 21 (.slice a m c) m (fun k => tv (T k))) := SL
  have HT : Hid (∀ k, k < m → (0 ≤ (T k).a.x ∧ (T k).a.x < 4294967296) ∧ (0 ≤ (T k).b.x ∧ (T k).b.x < 4294967296) ∧ (0 ≤ (T k).c.x ∧ (T k).c.x < 4294967296)) := hT
  clear SL hT
  go_enter Tryd.func70, Tryd.ntmps70
  go_upto_region 3 with fail
  go_loopg [3, 4] m (fun gk sv iv wr => ∃ (i : Nat) (t : ByteArray), sv = .string t ∧ i + gk = m ∧ iv = .int .i64 i ∧ Ext w wr ∧ t.size = 4 * i ∧ Hid (t = lettersB T i))
  case atStart => exact ⟨0, _, rfl, by omega, rfl, EX, rfl, rfl⟩
  case round =>
    clear EX
    obtain ⟨i, t, rfl, hi, rfl, EX, hts, ht⟩ := hrel
    obtain ⟨v, hv⟩ : ∃ v, v = wr := ⟨_, rfl⟩
    subst hv
    by_cases hlt : i < m
    · have hii : (i : Int) < (m : Int) := by omega
      obtain ⟨g, cg, hs⟩ := HS.out.form (by omega)
      cases hs
      have c0 := EX.later (HS.out.cell hlt (show 1 < 21 by decide))
      have c1 := EX.later (HS.out.cell hlt (show 8 < 21 by decide))
      have c2 := EX.later (HS.out.cell hlt (show 15 < 21 by decide))
      obtain ⟨x0, h0⟩ : ∃ x, (T i).a.x = x := ⟨_, rfl⟩
      obtain ⟨x1, h1⟩ : ∃ x, (T i).b.x = x := ⟨_, rfl⟩
      obtain ⟨x2, h2⟩ : ∃ x, (T i).c.x = x := ⟨_, rfl⟩
      replace c0 : v.cell? ⟨g, i * 21 + 1, none⟩ = some (.int .u32 x0) := by rw [c0, ← h0]; rfl
      replace c1 : v.cell? ⟨g, i * 21 + 8, none⟩ = some (.int .u32 x1) := by rw [c1, ← h1]; rfl
      replace c2 : v.cell? ⟨g, i * 21 + 15, none⟩ = some (.int .u32 x2) := by rw [c2, ← h2]; rfl
      have HX : Hid ((T i).a.x = x0 ∧ (T i).b.x = x1 ∧ (T i).c.x = x2) := ⟨h0, h1, h2⟩
      clear h0 h1 h2
      go_upto_region 5 with fail
      have g0 := fun x' : Grow v => x'.ext.later c0
      have g1 := fun x' : Grow v => x'.ext.later c1
      have g2 := fun x' : Grow v => x'.ext.later c2
      refine wp_region_phases [(true, [0,1,2,3,4,5,6,7,8,9,10,11,12,13,14,15,16,17,18,19,20,21,22,23,24]), (false, [25,26,27,28,29])] (fun w' => ∃ x : Grow v, w' = x.out) (by kernel_rfl) (by kernel_rfl) (fun c a x v w h => by cases x <;> exact h) ⟨⟨v.drew, (Ext.refl v).drew⟩, rfl⟩ ?_
      intro pl hpl
      simp [pickO] at hpl
      subst hpl
      unfold wpPh
      (repeat (first | go_big_quiet_step (fail)))
      refine wpQuiet_nil ?_
      clear g0 g1 g2
      have hE0 : Ext v v.drew := (Ext.refl v).drew
      unfold wpPh
      refine holdk_step fun K hK => ?_
      go_wp2
      have hA : Ext v (v.alloc (.cells #[.int .u8 (x0 % 256), .int .u8 (x1 % 256), .int .u8 (x2 % 256)] 5)).drew := ((Ext.refl v).alloc _).drew
      have hB : Ext (v.alloc (.cells #[.int .u8 (x0 % 256), .int .u8 (x1 % 256), .int .u8 (x2 % 256)] 5)) (v.alloc (.cells #[.int .u8 (x0 % 256), .int .u8 (x1 % 256), .int .u8 (x2 % 256)] 5)).drew := (Ext.refl _).drew
      have n0 := hB.later (p := ⟨v.heap.size, 0, none⟩) (v := .int .u8 (x0 % 256)) (new1 rfl)
      have n1 := hB.later (p := ⟨v.heap.size, 1, none⟩) (v := .int .u8 (x1 % 256)) (new1 rfl)
      have n2 := hB.later (p := ⟨v.heap.size, 2, none⟩) (v := .int .u8 (x2 % 256)) (new1 rfl)
      refine hK _ _ ⟨⟨_, hA⟩, rfl⟩ ?_
      clear hK K hB hE0
      generalize (v.alloc (.cells #[.int .u8 (x0 % 256), .int .u8 (x1 % 256), .int .u8 (x2 % 256)] 5)).drew = v2 at *
      generalize v.heap.size = bb at *
      have CV : (convert 139 9 (.slice (some ⟨bb, 0, none⟩) 3 3)).run Tryd.prog v2 = .ok (.string { data := #[u8c x0, u8c x1, u8c x2] }) v2 := by
        rw [run_convert_bytes_string v2 139 9 5 _ _ _ Tryd.underlying139 Tryd.underlying5 Tryd.underlying9, run_bytesToString v2 ⟨bb, 0, none⟩ 3 3 [x0 % 256, x1 % 256, x2 % 256] (by simp [loadCells, loadCellsFrom, Addr.add, go_sem, n0, n1, n2])]
        rfl
      clear n0 n1 n2
      refine holdk_step fun K hK => ?_
      go_wp2
      refine hK _ _ ⟨⟨_, hA⟩, rfl⟩ ?_
      clear hK K CV
      refine holdk_step fun K hK => ?_
      go_wp2
      refine hK _ _ ⟨⟨_, hA⟩, rfl⟩ ?_
      clear hK K
      refine holdk_step fun K hK => ?_
      go_wp2
      refine hK _ _ ⟨⟨_, hA⟩, rfl⟩ ?_
      clear hK K
      refine holdk_step fun K hK => ?_
      go_wp2
      refine hK _ _ ⟨⟨_, hA⟩, rfl⟩ ?_
      clear hK K
      unfold wpHoldK wpPh
      go_wp2
      go_roundg (gk - 1)
      case measure => omega
      case rel =>
        refine ⟨i + 1, _, rfl, by omega, by go_num, EX.trans hA, ?_, ?_⟩
        · rw [ByteArray.size_append, ByteArray.size_append, hts]
          show 4 * i + 3 + 1 = _
          omega
        · show _ = (lettersB T i ++ _) ++ _
          rw [ht.out, HX.out.1, HX.out.2.1, HX.out.2.2]
    · have hii : ¬ (i : Int) < (m : Int) := by omega
      obtain rfl : i = m := by omega
      go_wp2
      go_ret
      exact ⟨by rw [ht.out]; rfl, EX⟩
/-- A text as vertices: a letter each, and perhaps a flag. -/
def toldS (O : List Rcd) (c : UInt8) : List Rcd :=
  if 97 ≤ c.toNat then O ++ [⟨0, c.toNat, 0, fun _ => 0⟩]
  else match O.getLast? with
    | none => O
    | some v => O.dropLast ++ [⟨((c.toNat : Int) - 48) % 256, v.x, v.y, v.c⟩]
def toldL (s : ByteArray) (i : Nat) : List Rcd := (s.data.toList.take i).foldl toldS []
set_option maxHeartbeats 4000000 in
theorem told_any (s : ByteArray) (w : World) (hs : s.size ≤ 1000) :
    Calls Tryd.prog 69 #[.string s] w fun e w' => ∃ u, e = .returned u ∧ Ext w w' ∧ Lst w' 63 7 u (toldL s s.size).length (fun k => rv ((toldL s s.size).getD k zrec)) := by
  have EX := Ext.refl w
  obtain ⟨i0, hi0, hz0, hz1, hz2⟩ := info_parts info_recG
  go_enter Tryd.func69, Tryd.ntmps69
  go_upto_region 3 with fail
  go_loopg [3, 4] s.size (fun gk sv iv wr => ∃ (i : Nat) (u : Value) (O : List Rcd), u = sv ∧ i + gk = s.size ∧ iv = .int .i64 i ∧ Ext w wr ∧ Lst wr 63 7 u O.length (fun k => rv (O.getD k zrec)) ∧ O.length ≤ i ∧ (∀ b, u.ownBlock = some b → w.heap.size ≤ b) ∧ Hid (O = toldL s i))
  case atStart => exact ⟨0, _, [], rfl, by omega, rfl, EX, Lst.nil _ _ _ _, by simp, by simp [Value.ownBlock], rfl⟩
  case round =>
    clear EX
    obtain ⟨i, u, O, rfl, hi, rfl, EX, SL, hO, hnew, HO⟩ := hrel
    obtain ⟨v, hv⟩ : ∃ v, v = wr := ⟨_, rfl⟩
    subst hv
    by_cases hlt : i < s.size
    · have hii : (i : Int) < (s.size : Int) := by omega
      obtain ⟨c, hc⟩ : ∃ c, s[i]'hlt = c := ⟨_, rfl⟩
      obtain ⟨n, hn⟩ : ∃ n, c.toNat = n := ⟨_, rfl⟩
      have hn256 : n < 256 := by rw [← hn]; exact c.toNat_lt
      have HS1 : Hid (toldL s (i + 1) = toldS O c) := by
        show toldL s (i + 1) = toldS O c
        rw [HO.out]
        unfold toldL
        have hi' : i < s.data.toList.length := hlt
        rw [List.take_succ_eq_append_getElem hi', List.foldl_append]
        show toldS _ (s.data.toList[i]) = _
        congr 1
      have HN : Hid (c.toNat = n) := hn
      by_cases h97 : 97 ≤ n
      · have d1 : decide ((97 : Int) ≤ (n : Int)) = true := decide_eq_true (by omega)
        have hmod : (n : Int) % 4294967296 = (n : Int) := by omega
        have E9 : Ext v (v.alloc (.cells #[.int .u8 0, .int .u32 (n : Int), .int .u32 0, .int .u16 0, .int .u16 0, .int .u16 0, .int .u16 0] 63)) := (Ext.refl v).alloc _
        have NB : ∀ k u, ([.int .u8 0, .int .u32 (n : Int), .int .u32 0, .int .u16 0, .int .u16 0, .int .u16 0, .int .u16 0] : List Value)[k]? = some u → (v.alloc (.cells #[.int .u8 0, .int .u32 (n : Int), .int .u32 0, .int .u16 0, .int .u16 0, .int .u16 0, .int .u16 0] 63)).cell? ((⟨v.heap.size, 0, none⟩ : Addr).add k) = some u := World.news_of_block (cs := #[.int .u8 0, .int .u32 (n : Int), .int .u32 0, .int .u16 0, .int .u16 0, .int .u16 0, .int .u16 0]) (t := 63) (fr := (0, 0)) (heap_alloc_new v _)
        have SL2 : World.ownsC (v.alloc (.cells #[.int .u8 0, .int .u32 (n : Int), .int .u32 0, .int .u16 0, .int .u16 0, .int .u16 0, .int .u16 0] 63)) 0 63 7 u O.length (ew 7 O.length (fun k => rv (O.getD k zrec))) := SL.later E9
        have hsz : (v.alloc (.cells #[.int .u8 0, .int .u32 (n : Int), .int .u32 0, .int .u16 0, .int .u16 0, .int .u16 0, .int .u16 0] 63)).heap.size = v.heap.size + 1 := by simp
        have one : ∀ u ∈ ([.int .u8 0, .int .u32 (n : Int), .int .u32 0, .int .u16 0, .int .u16 0, .int .u16 0, .int .u16 0] : List Value), u.oneCell' = true := rv_one ⟨0, n, 0, fun _ => 0⟩
        go_upto_region 4 with (first | go_skip | (at_builtin; refine wpList_append_lst _ (by rfl) _ _ _ (by rfl) 63 i0 _ 7 20 Tryd.underlying28 hi0 hz0 hz1 hz2 rfl (by omega) u O.length _ (by rfl) SL2 ⟨v.heap.size, 0, none⟩ 1 1 [.int .u8 0, .int .u32 (n : Int), .int .u32 0, .int .u16 0, .int .u16 0, .int .u16 0, .int .u16 0] (by rfl) (by rfl) NB one (by omega) (by unfold maxLen; omega) (by omega) ?_; intro gg cap' v9 own hat))
        have CH : Chg (fun b => u.ownBlock = some b) v v9 := by
          refine (Chg.of (S := fun b => u.ownBlock = some b) E9).trans ?_ (fun b h => .inl h)
          rcases hat with ⟨h, h'⟩ | ⟨_, h'⟩
          · exact Chg.grown h' (fun b hb => by rw [h]; exact hb)
          · exact Chg.grown h' (fun b hb => by cases hb)
        have hg2 : w.heap.size ≤ gg := by
          rcases hat with ⟨h, _⟩ | ⟨h, _⟩
          · exact hnew gg (by rw [h]; rfl)
          · rw [hsz] at h; have := EX.more; omega
        have OWN := Lst.snoc (Y := rv ⟨0, n, 0, fun _ => 0⟩) own
        go_wp2
        go_roundg (gk - 1)
        case measure => omega
        case rel =>
          have hO2 : Hid (O ++ [(⟨0, n, 0, fun _ => 0⟩ : Rcd)] = toldL s (i + 1)) := by
            show O ++ [(⟨0, n, 0, fun _ => 0⟩ : Rcd)] = toldL s (i + 1)
            rw [HS1.out]
            unfold toldS
            rw [HN.out, if_pos h97]
          refine ⟨i + 1, _, O ++ [(⟨0, n, 0, fun _ => 0⟩ : Rcd)], rfl, by omega, by go_num, CH.over EX (fun b hb => hnew b hb), ?_, by rw [List.length_append, List.length_singleton]; omega, fun b hb => ?_, hO2⟩
          · rw [List.length_append, List.length_singleton]
            refine OWN.congr fun k t hk ht => ?_
            unfold upe
            by_cases e : k = O.length
            · rw [if_pos e, e]
              show _ = rv ((O ++ [(⟨0, n, 0, fun _ => 0⟩ : Rcd)]).getD O.length zrec) t
              rw [List.getD_eq_getElem?_getD, List.getElem?_append_right (Nat.le_refl _), Nat.sub_self]; rfl
            · rw [if_neg e]
              show rv (O.getD k zrec) t = rv ((O ++ [(⟨0, n, 0, fun _ => 0⟩ : Rcd)]).getD k zrec) t
              rw [List.getD_eq_getElem?_getD, List.getD_eq_getElem?_getD, List.getElem?_append_left (by omega)]
          · simp only [Value.ownBlock, Option.some.injEq] at hb
            omega
      · have d1 : decide ((97 : Int) ≤ (n : Int)) = false := decide_eq_false (by omega)
        by_cases h0 : O = []
        · have hl : O.length = 0 := by rw [h0]; rfl
          obtain ⟨a, cp, rfl⟩ := SL.slice
          have HSL : Hid (Lst v 63 7 (.slice a O.length cp) O.length (fun k => rv (O.getD k zrec))) := SL
          rw [hl]
          clear SL
          go_wp2_with (first | go_skip)
          go_roundg (gk - 1)
          case measure => omega
          case rel =>
            have hO2 : Hid (O = toldL s (i + 1)) := by
              show O = toldL s (i + 1)
              rw [HS1.out]
              unfold toldS
              rw [HN.out, if_neg h97, h0]
              rfl
            exact ⟨i + 1, _, O, rfl, by omega, by go_num, EX, by have := HSL.out; rw [hl] at this ⊢; exact this, by omega, by rw [hl] at hnew; exact hnew, hO2⟩
        · obtain ⟨x, hx⟩ : ∃ x, O.getLast? = some x := ⟨O.getLast h0, List.getLast?_eq_some_getLast h0⟩
          have hdl : O = O.dropLast ++ [x] := by
            have := List.dropLast_concat_getLast h0
            rw [List.getLast?_eq_some_getLast h0, Option.some.injEq] at hx
            rw [hx] at this
            exact this.symm
          obtain ⟨D, hD⟩ : ∃ D, O.dropLast = D := ⟨_, rfl⟩
          rw [hD] at hdl
          have hl : O.length = D.length + 1 := by rw [hdl, List.length_append]; rfl
          obtain ⟨g, cp, rfl⟩ := SL.form (by omega)
          have hgl := SL.lt
          have HSL : Hid (Lst v 63 7 (.slice (some ⟨g, 0, none⟩) O.length cp) O.length (fun k => rv (O.getD k zrec))) := SL
          have cx : v.cell? ⟨g, D.length * 7, none⟩ = some (rv (O.getD D.length zrec) 0) := SL.cell (show D.length < O.length by omega) (show 0 < 7 by decide)
          have fx := World.ownsC.frozenAt SL (D.length * 7)
          obtain ⟨y, hy⟩ : ∃ y : Int, rv (O.getD D.length zrec) 0 = .int .u8 y := ⟨_, rfl⟩
          rw [hy] at cx
          have HX : Hid (O = D ++ [x] ∧ O.getLast? = some x ∧ O.dropLast = D) := ⟨hdl, hx, hD⟩
          have hDl : D.length ≤ 1000 := by omega
          rw [hl]
          clear SL hdl hx hD hy
          go_wp2_with (first | go_skip)
          go_roundg (gk - 1)
          case measure => omega
          case rel =>
            obtain ⟨e1, e2, e3⟩ := HX.out
            have hO2 : Hid (D ++ [(⟨((n : Int) - 48) % 256, x.x, x.y, x.c⟩ : Rcd)] = toldL s (i + 1)) := by
              show D ++ [(⟨((n : Int) - 48) % 256, x.x, x.y, x.c⟩ : Rcd)] = toldL s (i + 1)
              rw [HS1.out]
              unfold toldS
              rw [HN.out, if_neg h97, e2]
              dsimp only
              rw [e3]
            refine ⟨i + 1, _, D ++ [(⟨((n : Int) - 48) % 256, x.x, x.y, x.c⟩ : Rcd)], rfl, by omega, by go_num, EX.setCell (hnew g rfl) _, ?_, by rw [List.length_append, List.length_singleton]; omega, fun b hb => by simp only [Value.ownBlock, Option.some.injEq] at hb; subst hb; exact hnew _ rfl, hO2⟩
            have S1 := HSL.out.set (i := D.length) (j := 0) (by omega) (by decide) (.int .u8 (((n : Int) - 48) % 256))
            rw [hl] at S1
            rw [List.length_append, List.length_singleton]
            refine S1.congr fun k t hk ht => ?_
            show upx _ D.length 0 _ k t = rv ((D ++ [(⟨((n : Int) - 48) % 256, x.x, x.y, x.c⟩ : Rcd)]).getD k zrec) t
            unfold upx
            dsimp only
            by_cases e : k = D.length
            · subst e
              have g1 : (D ++ [(⟨((n : Int) - 48) % 256, x.x, x.y, x.c⟩ : Rcd)]).getD D.length zrec = ⟨((n : Int) - 48) % 256, x.x, x.y, x.c⟩ := by
                rw [List.getD_eq_getElem?_getD, List.getElem?_append_right (Nat.le_refl _), Nat.sub_self]; rfl
              have g2 : O.getD D.length zrec = x := by
                rw [e1, List.getD_eq_getElem?_getD, List.getElem?_append_right (Nat.le_refl _), Nat.sub_self]; rfl
              rw [g1, g2]
              by_cases et : t = 0
              · subst et; rw [if_pos ⟨rfl, rfl⟩]; rfl
              · rw [if_neg (fun h => et h.2)]
                match t, et with
                | 0, h => exact absurd rfl h
                | 1, _ => rfl
                | 2, _ => rfl
                | t + 3, _ => rfl
            · rw [if_neg (fun h => e h.1), e1, List.getD_eq_getElem?_getD, List.getD_eq_getElem?_getD, List.getElem?_append_left (by omega), List.getElem?_append_left (by omega)]
    · have hii : ¬ (i : Int) < (s.size : Int) := by omega
      obtain rfl : i = s.size := by omega
      go_wp2
      go_ret
      exact ⟨_, rfl, EX, by rw [← HO.out]; exact SL⟩
end Go.Proofs.YthlhmfjopjikpaaDoor
