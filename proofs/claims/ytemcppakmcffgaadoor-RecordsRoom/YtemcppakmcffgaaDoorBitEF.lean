/- What Pad and Bytes of package bits do; Len, Pad and Bytes of a row that is not there. Get over any bytes; the helpers got and no; the chapter's examples: lives. -/
import Derived.Test.YtemcppakmcffgaaDoorBitCD
import Derived.Laws.CopyRow
import Derived.Deep.OwnRows
import Derived.Laws.BytesString
namespace Go.Proofs.YtemcppakmcffgaaDoor
open Go.RowKit Go.BigFrame
set_option linter.unusedSimpArgs false
set_option linter.unusedVariables false
theorem len_nil (w : World) : Calls Tryd.prog 90 #[.pointer none] w fun e w' => e = .returned (.int .i64 0) ∧ w' = w := by
  go_enter Tryd.func90, Tryd.ntmps90
  go_wp2_with (first | (go_at_call 89; with_reducible refine (isThere_nil _).mono ?_; rintro e w' ⟨rfl, rfl⟩))
  go_ret
  exact ⟨rfl, rfl⟩
theorem len_void (r : Nat) (w : World) (h : w.cell? ⟨r, 0, none⟩ = some (.pointer none)) : Calls Tryd.prog 90 #[.pointer (some ⟨r, 0, none⟩)] w fun e w' => e = .returned (.int .i64 0) ∧ w' = w := by
  go_enter Tryd.func90, Tryd.ntmps90
  go_wp2_with (first | (go_at_call 89; with_reducible refine (isThere_void _ _ h).mono ?_; rintro e w' ⟨rfl, rfl⟩))
  go_ret
  exact ⟨rfl, rfl⟩
theorem pad_nil (w : World) : Calls Tryd.prog 78 #[.pointer none] w fun e w' => e = .returned (.int .i64 2) ∧ w' = w := by
  go_enter Tryd.func78, Tryd.ntmps78
  go_wp2_with (first | (go_at_call 90; with_reducible refine (len_nil _).mono ?_; rintro e w' ⟨rfl, rfl⟩) | (go_at_call 77; with_reducible refine (put_nil _ _ _).mono ?_; rintro e w' ⟨rfl, rfl⟩))
  go_ret
  exact ⟨rfl, rfl⟩
theorem pad_void (r : Nat) (w : World) (h : w.cell? ⟨r, 0, none⟩ = some (.pointer none)) : Calls Tryd.prog 78 #[.pointer (some ⟨r, 0, none⟩)] w fun e w' => e = .returned (.int .i64 2) ∧ w' = w := by
  go_enter Tryd.func78, Tryd.ntmps78
  go_wp2_with (first | (go_at_call 90; with_reducible refine (len_void _ _ h).mono ?_; rintro e w' ⟨rfl, rfl⟩) | (go_at_call 77; with_reducible refine (put_void _ _ _ _ h).mono ?_; rintro e w' ⟨rfl, rfl⟩))
  go_ret
  exact ⟨rfl, rfl⟩
theorem bytes_nil (w : World) : Calls Tryd.prog 79 #[.pointer none] w fun e w' => e = .returned (.slice none 0 0) ∧ w' = w := by
  go_enter Tryd.func79, Tryd.ntmps79
  go_wp2_with (first | (go_at_call 89; with_reducible refine (isThere_nil _).mono ?_; rintro e w' ⟨rfl, rfl⟩))
  go_ret
  exact ⟨rfl, rfl⟩
theorem bytes_void (r : Nat) (w : World) (h : w.cell? ⟨r, 0, none⟩ = some (.pointer none)) : Calls Tryd.prog 79 #[.pointer (some ⟨r, 0, none⟩)] w fun e w' => e = .returned (.slice none 0 0) ∧ w' = w := by
  go_enter Tryd.func79, Tryd.ntmps79
  go_wp2_with (first | (go_at_call 89; with_reducible refine (isThere_void _ _ h).mono ?_; rintro e w' ⟨rfl, rfl⟩))
  go_ret
  exact ⟨rfl, rfl⟩
theorem i64_and7 (x : Int) : bits .and .i64 x 7 = x % 8 := by
  have h7 : (BitVec.ofInt 64 7).toNat = 2 ^ 3 - 1 := by decide
  have key : (BitVec.ofInt 64 x &&& BitVec.ofInt 64 7).toNat = (x % ((2 ^ 64 : Nat) : Int)).toNat % 2 ^ 3 := by
    rw [BitVec.toNat_and, BitVec.toNat_ofInt, h7, Nat.and_two_pow_sub_one_eq_mod]
  show IntKind.i64.wrap ((BitVec.ofInt 64 x &&& BitVec.ofInt 64 7).toNat : Nat) = x % 8
  rw [key, IntKind.wrap_i64]
  omega
theorem and7 (n : Nat) (h : n ≤ 524288) : bits .and .i64 (-(n : Int)) 7 = ((7 * n % 8 : Nat) : Int) := by
  rw [i64_and7]
  omega
set_option maxHeartbeats 1600000 in
theorem pad_any (r sh n : Nat) (u : Value) (β : Nat → Int) (w : World) (R : Row w r sh u β n) (hz : ∀ i, n ≤ i → i < n + 7 * n % 8 → β i = 0) :
    Calls Tryd.prog 78 #[.pointer (some ⟨r, 0, none⟩)] w fun e w' => e = .returned (.int .i64 0) ∧ ∃ u', Row w' r sh u' β (n + 7 * n % 8) ∧ Stp w w' r sh u u' := by
  have hle := R.le
  have hL := len_any r sh n u β w R
  have hP := fun w1 (hb : Ext w w1) => put_any r sh n (7 * n % 8) u β 0 w1 (R.later hb) (by omega) (nb_noughts _ _ hz) (by omega)
  have ha := and7 n hle
  clear R hz
  generalize 7 * n % 8 = k at *
  go_enter Tryd.func78, Tryd.ntmps78
  go_wp2_with (first | (go_at_call 90; with_reducible refine hL.mono ?_; rintro e v1 ⟨rfl, hb⟩) | (go_at_call 77; with_reducible refine (hP _ hb).mono ?_; rintro e v2 ⟨rfl, u', R2, ST⟩))
  go_ret
  exact ⟨rfl, u', R2, (Stp.of _ _ _ hb).trans ST⟩
/-- copy, by its run. -/
theorem wpList_copy {P : Program} {ops : Array Oper} {rest : List Oper} {o : Oper} {a : Act} {Q : Exit → Act → World → Prop} {w w' : World} (hgd : o.guard = none) (d s : Operand) (t : TypeId)
    (ho : o.op = .call { callee := .builtin .copy, args := #[d, s], argTypes := #[t, t] }) (V U x : Value) (hd : a.eval d = V) (hs : a.eval s = U) (hr : ∀ ty, (Builtin.copy_ #[t, t] ty #[V, U]).run P w = .ok x w')
    (hK : wpList P ops Q rest (a.put o.dst x) w') : wpList P ops Q (o :: rest) a w :=
  wpList_plain hgd fun K hK' => by
    unfold Oper.wp execOp
    simp only [ho, resolve, invoke, builtin, Sem.run_bind, Sem.run_pure, Result.andThen_ok, List.map_toArray, List.map_cons, List.map_nil, hd, hs, hr]
    exact hK' _ _ hK
theorem Chg.setRow {S : Nat → Prop} {a w : World} (h : Chg S a w) {g : Nat} (hg : S g ∨ a.heap.size ≤ g) (cs : Array Value) : Chg S a (w.setRow g cs) :=
  h.trans (T := fun i => i = g) ⟨rfl, rfl, rfl, by simp [World.setRow], fun k hk hn => setRow_other w g k cs hn⟩ (by rintro i rfl; exact hg)
theorem rowIs_copied {w : World} {g : Nat} {t : TypeId} {N m : Nat} {z : Value} {F : Nat → Value} (h : w.rowIs g t N (fun _ => z)) (hm : m ≤ N) :
    ∃ cur, w.heap[g]? = some (.cells cur t (0, 0)) ∧ cur.size = N ∧ (w.setRow g (cur.toList.take 0 ++ vl m F ++ cur.toList.drop (0 + (vl m F).length)).toArray).rowIs g t N (fun i => if i < m then F i else z) := by
  obtain ⟨cur, h1, h2, h3⟩ := h
  refine ⟨cur, h1, h2, _, setRow_heap _ _ _ _ _ _ h1, ?_, fun i hi => ?_⟩
  · simp [vl_len, h2]; omega
  · simp only [List.take_zero, List.nil_append, Nat.zero_add, vl_len, List.getElem?_toArray]
    by_cases hlt : i < m
    · rw [List.getElem?_append_left (by rw [vl_len]; exact hlt), vl_at m F hlt, if_pos hlt]
    · rw [List.getElem?_append_right (by rw [vl_len]; omega), vl_len, List.getElem?_drop, show m + (i - m) = i by omega, if_neg hlt, Array.getElem?_toList, h3 i hi]
theorem own_rowIs {w : World} {g n : Nat} {t : TypeId} {f : Nat → Value} (h : w.rowIs g t n f) (hn : n ≤ maxLen) : w.ownsRow 0 t 1 (.slice (some ⟨g, 0, none⟩) n n) n (vl n f) := by
  obtain ⟨c, h1, h2, h3⟩ := h
  refine ⟨by rw [vl_len, Nat.mul_one], .inr ⟨g, n, c, rfl, Nat.zero_le _, h1, Nat.le_refl _, hn, by omega, ?_⟩⟩
  rw [Nat.mul_one, List.take_of_length_le (by simp; omega)]
  apply List.ext_getElem?
  intro i
  rw [Array.getElem?_toList]
  by_cases hi : i < n
  · rw [h3 i hi, vl_at n f hi]
  · rw [Array.getElem?_eq_none (by omega), List.getElem?_eq_none (by rw [vl_len]; omega)]
/-- What Bytes answers: new memory. -/
structure Ans (w w' : World) (g N : Nat) (f : Nat → Int) : Prop where
  row : w'.rowIs g 5 N (fun i => .int .u8 (f i))
  new : w.heap.size ≤ g
  ext : Ext w w'
set_option maxRecDepth 20000 in
set_option maxHeartbeats 4000000 in
theorem bytes_any (r sh n : Nat) (u : Value) (β : Nat → Int) (w : World) (R : Row w r sh u β n) :
    Calls Tryd.prog 79 #[.pointer (some ⟨r, 0, none⟩)] w fun e w' => ∃ g, e = .returned (.slice (some ⟨g, 0, none⟩) ((n + 7) / 8) ((n + 7) / 8)) ∧ Ans w w' g ((n + 7) / 8) (fun i => nb (zb β n) (8 * i) 8) := by
  obtain ⟨i0, hi0, hz0, hz1, hz2⟩ := info_parts info_byte
  have hL := len_any r sh n u β w R
  have hle := R.le
  have c0 := R.box.c0
  obtain ⟨N, hN⟩ : ∃ N, (n + 7) / 8 = N := ⟨_, rfl⟩
  have hNi : ((n : Int) + 8 - 1) / 8 = (N : Int) := by omega
  have HR : Hid (Row w r sh u β n) := R
  rw [hN]
  clear R
  have hmk := run_make_row (P := Tryd.prog) 28 5 i0 (.int .u8 0) Tryd.underlying28 hi0 hz0 hz1 rfl .i64 .i64 N (by rw [hz2]; omega) (by omega)
  go_enter Tryd.func79, Tryd.ntmps79
  go_upto_region 4 with (first | (go_at_call 89; with_reducible refine (isThere_any _ _ _ c0).mono ?_; rintro e w' ⟨rfl, rfl⟩) | (go_at_call 90; with_reducible refine hL.mono ?_; rintro e v1 ⟨rfl, hb⟩))
  have R := HR.out.later hb
  have A0 : Ext w' v1 := hb
  refine rebase (G := fun w' => Code.wp _ _ _ _ w') _ (fun v => Row v r sh u β n ∧ v.rowIs v1.heap.size 5 N (fun _ => .int .u8 0) ∧ Ext w' v) ⟨R.later (Ext.alloc (Ext.refl _) _), World.rowIs_made _ _ _ _, A0.alloc _⟩ ?_
  have hnG : ∀ k, In r sh u k → k ≠ v1.heap.size := fun k hk => by have := R.lt k hk; omega
  have hG : w'.heap.size ≤ v1.heap.size := hb.more
  generalize v1.heap.size = G at *
  clear R HR hL hb A0 hmk c0 v1
  rename World => w
  rintro v ⟨R, A, EX⟩
  have b0 := R.box.c0
  have b1 := R.box.c1
  have b2 := R.box.c2
  have d0 := R.shelf.c0
  have nr : ¬ r = G := hnG r (.inl rfl)
  have ns : ¬ sh = G := hnG sh (.inr (.inl rfl))
  obtain ⟨m, hm⟩ : ∃ m, n / 8 = m := ⟨_, rfl⟩
  have O := R.own
  rw [hm] at b1 O
  have hmN : m ≤ N := by omega
  rcases O.2 with ⟨rfl, hm0⟩ | ⟨gu, cap, cur, rfl, _, hcur, hcap, hcm, _, _⟩
  · subst hm0
    obtain ⟨W2, hcp, A2, CH2⟩ : ∃ W2, (Builtin.copy_ #[28, 28] 3 #[.slice (some ⟨G, 0, none⟩) N N, .slice none 0 0]).run Tryd.prog v.drew = .ok (.int .i64 0) W2 ∧ W2.rowIs G 5 N (fun i => if i < 0 then .int .u8 (nb β (8 * i) 8) else .int .u8 0) ∧ Chg (fun k => k = G) v W2 :=
      ⟨v.drew, run_copy_nil (P := Tryd.prog) _ _ _ _ _ _ _ _ Tryd.underlying28 (by rw [hi0]; rfl), (A.drew).congr (fun i _ => (if_neg (by omega)).symm), (Chg.refl _ v).drew⟩
    have g0 := fun x' : Alt (fun k => k = G) v => x'.cell nr b0
    have g1 := fun x' : Alt (fun k => k = G) v => x'.cell nr b1
    have g2 := fun x' : Alt (fun k => k = G) v => x'.cell ns d0
    refine wp_region_reads (fun i => decide (i ≠ 13) && decide (i ≠ 16)) 2 17 (fun w' => ∃ x : Alt (fun k => k = G) v, w' = x.out) (by kernel_rfl) (by kernel_rfl) (fun c a x v w h => by cases x <;> exact h) ⟨⟨v.drew, (Chg.refl _ v).drew⟩, rfl⟩ ?_
    intro l1 l2 h1 h2
    simp [pickB] at h1 h2
    subst h1 h2
    (repeat (first | go_big_quiet_step (fail))); refine wpQuiet_nil ?_; clear g0 g1 g2
    refine hold_step (n := 1) fun K hK => ?_
    go_wp2
    refine hK _ _ ⟨⟨W2, CH2⟩, rfl⟩ ?_
    clear hK K
    refine hold_step (n := 0) fun K hK => ?_
    go_wp2
    refine hK _ _ ⟨⟨W2, CH2⟩, rfl⟩ ?_
    clear hK K hcp
    refine hold_done ?_
    have R2 := R.chg CH2 hnG
    have EX2 : Ext w W2 := CH2.over EX (fun i hi => by rw [hi]; exact hG)
    clear b0 b1 b2 d0
    have b0 := R2.box.c0
    have b1 := R2.box.c1
    have b2 := R2.box.c2
    rw [hm] at b1 b2
    by_cases hlt : 0 < N
    · have hlt' : (0 : Int) < (N : Int) := by omega
      generalize hx : nb β (8 * 0) (n % 8) * 2 ^ (8 - n % 8) = x at b2
      have a2 := A2.cell (i := 0) hlt
      have fz := A2.frozen
      go_upto_region 5 with fail
      have g1 := fun x' : Grow W2 => x'.ext.later b1
      have g2 := fun x' : Grow W2 => x'.ext.later b2
      refine wp_region_reads (fun i => decide (i < 9)) 0 9 (fun w' => ∃ x : Grow W2, w' = x.out) (by kernel_rfl) (by kernel_rfl) (fun c a x v w h => by cases x <;> exact h) ⟨⟨W2.drew, (Ext.refl W2).drew⟩, rfl⟩ ?_
      intro l1 l2 h1 h2
      simp [pickB] at h1 h2
      subst h1 h2
      (repeat (first | go_big_quiet_step (fail))); refine wpQuiet_nil ?_; clear g1 g2
      refine hold_done ?_
      go_wp2
      go_ret
      refine ⟨G, rfl, ⟨?_, hG, ?_⟩⟩
      · refine (World.rowIs.drew (A2.set 0 (.int .u8 x))).congr fun i hi => ?_
        by_cases he : i = 0
        · rw [if_pos he, he, ← hx, nb_last n (8 * 0) (n % 8) (by omega) (by omega)]
        · rw [if_neg he, if_pos (by omega), nb_zb n (8 * i) 8 (by omega)]
      · exact (Ext.setCell EX2 hG _).drew
    · have hlt' : ¬ ((0 : Int) < (N : Int)) := by omega
      go_wp2
      go_ret
      refine ⟨G, rfl, ⟨A2.congr fun i hi => ?_, hG, EX2⟩⟩
      rw [if_pos (by omega), nb_zb n (8 * i) 8 (by omega)]
  · obtain ⟨W2, hcp, A2, CH2⟩ : ∃ W2, (Builtin.copy_ #[28, 28] 3 #[.slice (some ⟨G, 0, none⟩) N N, .slice (some ⟨gu, 0, none⟩) m cap]).run Tryd.prog v.drew = .ok (.int .i64 m) W2 ∧ W2.rowIs G 5 N (fun i => if i < m then .int .u8 (nb β (8 * i) 8) else .int .u8 0) ∧ Chg (fun k => k = G) v W2 := by
      obtain ⟨cur', k1, k2, k3⟩ := rowIs_copied (F := fun i => .int .u8 (nb β (8 * i) 8)) (A.drew) hmN
      have hr := run_copy_row (P := Tryd.prog) v.drew 28 28 3 5 G 0 N N ⟨gu, 0, none⟩ m cap cur' 5 (vl m (fun i => .int .u8 (nb β (8 * i) 8))) Tryd.underlying28 (by rw [hi0]; simp [hz1]) k1 (by rw [vl_len]; exact (Nat.min_eq_left hmN).symm)
        (O.cells rfl) (by rw [vl_len]; omega) (fun v hv => by unfold vl at hv; rw [List.mem_map] at hv; obtain ⟨i, _, rfl⟩ := hv; rfl)
      refine ⟨_, ?_, k3, Chg.setRow (S := fun k => k = G) ((Chg.refl _ v).drew) (.inl rfl) _⟩
      rw [hr, vl_len]
      rfl
    have g0 := fun x' : Alt (fun k => k = G) v => x'.cell nr b0
    have g1 := fun x' : Alt (fun k => k = G) v => x'.cell nr b1
    have g2 := fun x' : Alt (fun k => k = G) v => x'.cell ns d0
    refine wp_region_reads (fun i => decide (i ≠ 13) && decide (i ≠ 16)) 2 17 (fun w' => ∃ x : Alt (fun k => k = G) v, w' = x.out) (by kernel_rfl) (by kernel_rfl) (fun c a x v w h => by cases x <;> exact h) ⟨⟨v.drew, (Chg.refl _ v).drew⟩, rfl⟩ ?_
    intro l1 l2 h1 h2
    simp [pickB] at h1 h2
    subst h1 h2
    (repeat (first | go_big_quiet_step (fail))); refine wpQuiet_nil ?_; clear g0 g1 g2
    refine hold_step (n := 1) fun K hK => ?_
    go_wp2
    refine hK _ _ ⟨⟨W2, CH2⟩, rfl⟩ ?_
    clear hK K
    refine hold_step (n := 0) fun K hK => ?_
    go_wp2
    refine hK _ _ ⟨⟨W2, CH2⟩, rfl⟩ ?_
    clear hK K hcp
    refine hold_done ?_
    have R2 := R.chg CH2 hnG
    have EX2 : Ext w W2 := CH2.over EX (fun i hi => by rw [hi]; exact hG)
    clear b0 b1 b2 d0
    have b0 := R2.box.c0
    have b1 := R2.box.c1
    have b2 := R2.box.c2
    rw [hm] at b1 b2
    by_cases hlt : m < N
    · have hlt' : (m : Int) < (N : Int) := by omega
      generalize hx : nb β (8 * m) (n % 8) * 2 ^ (8 - n % 8) = x at b2
      have a2 := A2.cell (i := m) hlt
      have fz := A2.frozen
      go_upto_region 5 with fail
      have g1 := fun x' : Grow W2 => x'.ext.later b1
      have g2 := fun x' : Grow W2 => x'.ext.later b2
      refine wp_region_reads (fun i => decide (i < 9)) 0 9 (fun w' => ∃ x : Grow W2, w' = x.out) (by kernel_rfl) (by kernel_rfl) (fun c a x v w h => by cases x <;> exact h) ⟨⟨W2.drew, (Ext.refl W2).drew⟩, rfl⟩ ?_
      intro l1 l2 h1 h2
      simp [pickB] at h1 h2
      subst h1 h2
      (repeat (first | go_big_quiet_step (fail))); refine wpQuiet_nil ?_; clear g1 g2
      refine hold_done ?_
      go_wp2
      go_ret
      refine ⟨G, rfl, ⟨?_, hG, ?_⟩⟩
      · refine (World.rowIs.drew (A2.set m (.int .u8 x))).congr fun i hi => ?_
        by_cases he : i = m
        · rw [if_pos he, he, ← hx, nb_last n (8 * m) (n % 8) (by omega) (by omega)]
        · rw [if_neg he, if_pos (by omega), nb_zb n (8 * i) 8 (by omega)]
      · exact (Ext.setCell EX2 hG _).drew
    · have hlt' : ¬ ((m : Int) < (N : Int)) := by omega
      go_wp2
      go_ret
      refine ⟨G, rfl, ⟨A2.congr fun i hi => ?_, hG, EX2⟩⟩
      rw [if_pos (by omega), nb_zb n (8 * i) 8 (by omega)]
end Go.Proofs.YtemcppakmcffgaaDoor

namespace Go.Proofs.YtemcppakmcffgaaDoor
open Go.RowKit Go.BigFrame
set_option linter.unusedSimpArgs false
set_option linter.unusedVariables false
set_option maxHeartbeats 1600000 in
theorem get_zero (a : Option Addr) (L c p : Nat) (hL : L ≤ 140737488355328) (h : p ≤ 8 * L) (w : World) :
    Calls Tryd.prog 103 #[.slice a L c, .int .i64 p, .int .i64 0] w fun e w' => e = .returned (.tuple #[.int .u32 0, .int .i64 0]) ∧ Ext w w' := by
  have EX := Ext.refl w
  go_enter Tryd.func103, Tryd.ntmps103
  go_wp2
  go_step3
  go_wp2
  go_step3
  go_wp2
  rw [Exit.noGoto_ret]; go_ret2
  exact ⟨rfl, EX⟩
theorem get_ok (a : Option Addr) (L c p n : Nat) (f : Nat → Int) (w : World) (B : Bs w a L f) (hn : n ≤ 32) (h : p + n ≤ 8 * L) :
    Calls Tryd.prog 103 #[.slice a L c, .int .i64 p, .int .i64 n] w fun e w' => e = .returned (.tuple #[.int .u32 (nb (bt f) p n), .int .i64 0]) ∧ Ext w w' := by
  by_cases h0 : n = 0
  · subst h0
    exact get_zero a L c p B.len (by omega) w
  · obtain ⟨b, o, rfl, hc⟩ := B.some (by omega)
    exact get_some b o L c p n f w B.len hc B.byte hn h
theorem bs_lit {w : World} {cs : Array Value} {t : TypeId} (f : Nat → Int) (n : Nat) (hn : n ≤ 140737488355328) (h : ∀ i, i < n → cs[i]? = some (.int .u8 (f i))) (hf : ∀ i, i < n → 0 ≤ f i ∧ f i < 256) : Bs (w.alloc (.cells cs t)) (some ⟨w.heap.size, 0, none⟩) n f :=
  ⟨hn, fun i hi => ⟨_, _, rfl, by rw [Nat.zero_add]; exact new1 (h i hi)⟩, hf⟩
end Go.Proofs.YtemcppakmcffgaaDoor
