/- The given book: next, Bytes. -/
import Derived.Test.YthnmofnlcepffaaBitL
namespace Go.Proofs.Ythnmofnlcepffaa
open Go.RowKit Go.BigFrame
set_option linter.unusedSimpArgs false
set_option linter.unusedVariables false
/-- Worlds in which one cell stands as it stood. -/
def Stay (b o : Nat) (w : World) : Type := { w' : World // ∀ u, w.cell? ⟨b, o, none⟩ = some u → w'.cell? ⟨b, o, none⟩ = some u }
@[go_sem] theorem Stay.all {b o : Nat} {w : World} {p : Prop} : (∀ _ : Stay b o w, p) ↔ p := ⟨fun h => h ⟨w, fun _ h => h⟩, fun h _ => h⟩
def Stay.out {b o : Nat} {w : World} (x : Stay b o w) : World := x.1
theorem Stay.cell {b o : Nat} {w : World} (x : Stay b o w) {u : Value} (hc : w.cell? ⟨b, o, none⟩ = some u) : x.out.cell? ⟨b, o, none⟩ = some u := x.2 u hc
theorem Vm.blk {v v' : World} {b n : Nat} {f : Nat → Value} (B : Vm v b n f) (h : v'.heap[b]? = v.heap[b]?) (hl : v.heap.size ≤ v'.heap.size) : Vm v' b n f :=
  ⟨Nat.lt_of_lt_of_le B.lt hl, frz_blk h B.fz, fun i hi => (World.cell?_of_block (a := ⟨b, i, none⟩) h).trans (B.dg i hi)⟩
/-- A book's cells. -/
def bkf (n : Nat) (u : Value) (i : Nat) : Value := if i = 0 then .int .i64 n else if i = 1 then u else .slice none 0 0
/-- A strip's cells. -/
def sf (G L : Nat → Nat) (J : Nat → Value) (j : Nat) : Value := if j % 3 = 0 then .slice (some ⟨G (j / 3), 0, none⟩) (L (j / 3)) (L (j / 3)) else if j % 3 = 1 then J (j / 3) else .int .u8 ((j / 3 + 1 : Nat) : Int)
theorem sf0 (G L : Nat → Nat) (J : Nat → Value) (i : Nat) : sf G L J (i * 3) = .slice (some ⟨G i, 0, none⟩) (L i) (L i) := by
  unfold sf; rw [if_pos (by omega), show i * 3 / 3 = i by omega]
theorem sf1 (G L : Nat → Nat) (J : Nat → Value) (i : Nat) : sf G L J (i * 3 + 1) = J i := by
  unfold sf; rw [if_neg (by omega), if_pos (by omega), show (i * 3 + 1) / 3 = i by omega]
theorem sf2 (G L : Nat → Nat) (J : Nat → Value) (i : Nat) : sf G L J (i * 3 + 2) = .int .u8 ((i + 1 : Nat) : Int) := by
  unfold sf; rw [if_neg (by omega), if_neg (by omega), show (i * 3 + 2) / 3 = i by omega]
def up (G : Nat → Nat) (n g i : Nat) : Nat := if i = n then g else G i
theorem sf_app (G L : Nat → Nat) (n g l : Nat) : vl (n * 3) (sf G L (fun _ => .slice none 0 0)) ++ [.slice (some ⟨g, 0, none⟩) l l, .slice none 0 0, .int .u8 ((n + 1 : Nat) : Int)] = vl ((n + 1) * 3) (sf (up G n g) (up L n l) (fun _ => .slice none 0 0)) := by
  rw [vl_eq (g := sf (up G n g) (up L n l) (fun _ => .slice none 0 0)) (fun j hj => ?_)]
  · rw [show (n + 1) * 3 = n * 3 + 1 + 1 + 1 by omega, ← vl_snoc, ← vl_snoc, ← vl_snoc, sf0, sf1, sf2, List.append_assoc, List.append_assoc]
    unfold up
    rw [if_pos rfl, if_pos rfl]
    rfl
  · unfold sf up
    rw [if_neg (show ¬ j / 3 = n by omega), if_neg (show ¬ j / 3 = n by omega)]
/-- A book in which n lists of bytes are. -/
structure Bk (v : World) (k : Nat) (u : Value) (n : Nat) (G L : Nat → Nat) : Prop where
  box : Vm v k 14 (bkf n u)
  own : v.ownsRow 0 82 3 u n (vl (n * 3) (sf G L (fun _ => .slice none 0 0)))
  rows : ∀ i, i < n → ∃ f, v.rowIs (G i) 5 (L i) f
  inj : ∀ i j, i < n → j < n → G i = G j → i = j
  nu : u.ownBlock ≠ some k
  ng : ∀ i, i < n → G i ≠ k ∧ u.ownBlock ≠ some (G i)
  le : ∀ i, i < n → L i ≤ 65536
  few : n ≤ 200
def In3 (k : Nat) (u : Value) (n : Nat) (G : Nat → Nat) (b : Nat) : Prop := b = k ∨ u.ownBlock = some b ∨ ∃ i, i < n ∧ b = G i
theorem Bk.lt {v : World} {k : Nat} {u : Value} {n : Nat} {G L : Nat → Nat} (B : Bk v k u n G L) : ∀ b, In3 k u n G b → b < v.heap.size := by
  rintro b (rfl | h | ⟨i, hi, rfl⟩)
  · exact B.box.lt
  · exact (B.own.lt b h).2
  · obtain ⟨f, hf⟩ := B.rows i hi
    exact hf.lt
theorem Bk.chg {S : Nat → Prop} {v v' : World} {k : Nat} {u : Value} {n : Nat} {G L : Nat → Nat} (B : Bk v k u n G L) (h : Chg S v v') (hS : ∀ b, In3 k u n G b → ¬ S b) : Bk v' k u n G L :=
  ⟨B.box.blk (h.block k B.box.lt (hS k (.inl rfl))) h.size, own_chg B.own h (fun b hb => hS b (.inr (.inl hb))), fun i hi => by
    obtain ⟨f, hf⟩ := B.rows i hi
    exact ⟨f, hf.of_block (h.block (G i) hf.lt (hS _ (.inr (.inr ⟨i, hi, rfl⟩))))⟩, B.inj, B.nu, B.ng, B.le, B.few⟩
theorem Bk.later {v v' : World} {k : Nat} {u : Value} {n : Nat} {G L : Nat → Nat} (B : Bk v k u n G L) (h : Ext v v') : Bk v' k u n G L := B.chg (S := fun _ => False) (Chg.of h) (fun _ _ h => h)
theorem next_any (k n : Nat) (w : World) (hn : n ≤ 200) (c : w.cell? ⟨k, 0, none⟩ = some (.int .i64 n)) (fz : w.frozen? ⟨k, 0, none⟩ = false) (lt : k < w.heap.size) :
    Calls Try.prog 36 #[.pointer (some ⟨k, 0, none⟩)] w fun e w' => e = .returned (.int .i64 ((n : Int) + 1)) ∧ w' = w.setCell ⟨k, 0, none⟩ (.int .i64 ((n : Int) + 1)) := by
  go_enter Try.func36, Try.ntmps36
  go_wp2
  go_ret
  exact ⟨rfl, rfl⟩
theorem info_strip : (Try.prog.info? 82).map (fun i => (i.zero, i.size, i.bytes)) = some (some (.agg #[.slice none 0 0, .slice none 0 0, .int .u8 0]), 3, 56) := by kernel_rfl
set_option maxRecDepth 20000 in
set_option maxHeartbeats 4000000 in
theorem book_bytes (k n g l : Nat) (u : Value) (G L : Nat → Nat) (f : Nat → Value) (w : World) (B : Bk w k u n G L) (hn : n < 200) (hr : w.rowIs g 5 l f) (hg : ¬ In3 k u n G g) (hl : l ≤ 65536) :
    Calls Try.prog 25 #[.pointer (some ⟨k, 0, none⟩), .slice (some ⟨g, 0, none⟩) l l] w fun e w' => e = .returned (.tuple #[]) ∧ ∃ u', Bk w' k u' (n + 1) (up G n g) (up L n l) ∧
      Chg (fun b => b = k ∨ u.ownBlock = some b) w w' ∧ ∀ b, u'.ownBlock = some b → u.ownBlock = some b ∨ w.heap.size ≤ b := by
  obtain ⟨i0, hi0, hz0, hz1, hz2⟩ := info_parts info_strip
  obtain ⟨ad, cp, rfl⟩ := own_slice B.own
  have c0 : w.cell? ⟨k, 0, none⟩ = some (.int .i64 n) := B.box.dg 0 (by omega)
  have c1 : w.cell? ⟨k, 1, none⟩ = some (.slice ad n cp) := B.box.dg 1 (by omega)
  have lk := B.box.lt
  have fz := B.box.fz 0
  have O := B.own
  have NX : Calls Try.prog 36 #[.pointer (some ⟨k, 0, none⟩)] w.drew fun e w' => e = .returned (.int .i64 ((n : Int) + 1)) ∧ Hid (w' = w.drew.setCell ⟨k, 0, none⟩ (.int .i64 ((n : Int) + 1))) := (next_any k n w.drew (by omega) c0 fz lk).mono fun e w' h => ⟨h.1, h.2⟩
  have hn1 : ((n : Int) + 1) % 256 = (n : Int) + 1 := by omega
  have tk : ¬ (Value.slice ad n cp).ownBlock = some k := B.nu
  go_enter Try.func25, Try.ntmps25
  go_upto_region 0 with fail
  have g1 := fun x' : Stay k 1 w => x'.cell c1
  refine wp_region_reads (fun i => decide (i < 7)) 5 12 (fun w' => ∃ x : Stay k 1 w, w' = x.out) (by kernel_rfl) (by kernel_rfl) (fun c a x v w h => by cases x <;> exact h) ⟨⟨w.drew, fun _ h => h⟩, rfl⟩ ?_
  intro l1 l2 h1 h2
  simp [pickB] at h1 h2
  subst h1 h2
  (repeat (first | go_big_quiet_step (fail))); refine wpQuiet_nil ?_; clear g1
  refine hold_step (n := 4) fun K hK => ?_
  go_wp2_with (first | (go_at_call 36; with_reducible refine NX.mono ?_; rintro e v1 ⟨rfl, hv1⟩))
  have S1 : ∀ y, w.cell? ⟨k, 1, none⟩ = some y → v1.cell? ⟨k, 1, none⟩ = some y := fun y hy => by rw [hv1.out]; exact cell_skip (.inr (by omega)) hy
  have O1 : v1.ownsRow 0 82 3 (.slice ad n cp) n (vl (n * 3) (sf G L (fun _ => .slice none 0 0))) := by rw [hv1.out]; exact own_set O.drew tk _
  have V1 : Vm v1 k 14 (bkf (n + 1) (.slice ad n cp)) := by
    rw [hv1.out]
    refine (Vm.set B.box.drew 0 _).eq fun i hi => ?_
    unfold updv bkf
    by_cases e : i = 0
    · rw [if_pos e, if_pos e]; rfl
    · rw [if_neg e, if_neg e, if_neg e]
  have C1 : Chg (fun b => b = k ∨ (Value.slice ad n cp).ownBlock = some b) w v1 := by rw [hv1.out]; exact ((Chg.refl _ w).drew).setCell (.inl (.inl rfl)) _
  have q1 := C1.size
  clear hv1
  refine hK _ _ ⟨⟨v1, S1⟩, rfl⟩ ?_
  clear hK K
  refine hold_step (n := 3) fun K hK => ?_
  go_wp2
  refine hK _ _ ⟨⟨v1, S1⟩, rfl⟩ ?_
  clear hK K
  refine hold_step (n := 2) fun K hK => ?_
  go_wp2
  refine hK _ _ ⟨⟨v1, S1⟩, rfl⟩ ?_
  clear hK K
  refine hold_step (n := 1) fun K hK => ?_
  go_wp2
  refine hK _ _ ⟨⟨_, fun y hy => old1 (S1 y hy)⟩, rfl⟩ ?_
  clear hK K
  refine hold_step (n := 0) fun K hK => ?_
  go_wp2_with (first | (at_builtin; refine wpList_append_lies _ (by rfl) _ _ _ (by rfl) 0 82 i0 _ 3 56 Try.underlying36 hi0 hz0 hz1 hz2 rfl (by omega) (.slice ad n cp) n _ (by rfl) (O1.alloc _) ⟨v1.heap.size, 0, none⟩ 1 1 [.slice (some ⟨g, 0, none⟩) l l, .slice none 0 0, .int .u8 ((n : Int) + 1)] (by rfl) (by rfl) (World.news_of_block (cs := #[.slice (some ⟨g, 0, none⟩) l l, .slice none 0 0, .int .u8 ((n : Int) + 1)]) (t := 82) (fr := (0, 0)) (heap_alloc_new v1 _)) (by simp [Value.oneCell']) (by omega) (by unfold maxLen; omega) (by omega) (by simp) (v1.heap.size + 1) (by simp) ?_))
  intro gg cap' w1 hown1 hgrow hat hlt
  go_wp2
  have CH : Chg (fun b => (Value.slice ad n cp).ownBlock = some b) v1 w1 := ((Chg.refl _ v1).alloc _).trans (Chg.grown hgrow (fun k e => e)) (fun i hi => .inl hi)
  have V2 := V1.blk (CH.block k V1.lt tk) CH.size
  refine hK _ _ ⟨⟨w1, fun y hy => (CH.cell tk (S1 y hy))⟩, rfl⟩ ?_
  clear hK K
  refine hold_done ?_
  have k1 : w1.cell? ⟨k, 1, none⟩ = some (.slice ad n cp) := V2.dg 1 (by omega)
  have f1 := V2.fz 1
  have lk2 := V2.lt
  go_wp2
  go_end0
  have C2 : Chg (fun b => b = k ∨ (Value.slice ad n cp).ownBlock = some b) w w1 := C1.trans CH (fun i hi => .inl (.inr hi))
  have gk : gg ≠ k := by rcases hat with h | h; exact fun e => tk (by rw [h, e]); omega
  have hgl := hr.lt
  have gG : ∀ b, In3 k (.slice ad n cp) n G b → b ≠ k → (Value.slice ad n cp).ownBlock ≠ some b → b ≠ gg := fun b hb h1 h2 e => by
    rcases hat with h | h
    · exact h2 (by rw [h, e])
    · have := B.lt b hb; omega
  have rw2 : ∀ b f l, w.rowIs b 5 l f → b ≠ k → (Value.slice ad n cp).ownBlock ≠ some b → (w1.setCell ⟨k, 1, none⟩ (.slice (some ⟨gg, 0, none⟩) (n + 1) cap')).rowIs b 5 l f := fun b f l h h1 h2 =>
    (h.of_block (C2.block b h.lt (fun e => by rcases e with e | e; exact h1 e; exact h2 e))).setOther h1 _
  refine ⟨rfl, .slice (some ⟨gg, 0, none⟩) (n + 1) cap', ⟨?_, ?_, ?_, ?_, ?_, ?_, ?_, by omega⟩, C2.setCell (.inl (.inl rfl)) _, fun b hb => ?_⟩
  · refine (Vm.set V2 1 _).eq fun i hi => ?_
    unfold updv bkf
    by_cases e : i = 1
    · rw [if_pos e, if_neg (by omega), if_pos e]
    · rw [if_neg e, if_neg e, if_neg e]
  · rw [← sf_app]
    exact own_set hown1 (by simp [Value.ownBlock, gk]) _
  · intro i hi
    unfold up
    by_cases e : i = n
    · rw [if_pos e, if_pos e]
      exact ⟨f, rw2 g f l hr (fun e => hg (.inl e)) (fun e => hg (.inr (.inl e)))⟩
    · rw [if_neg e, if_neg e]
      obtain ⟨f', hf⟩ := B.rows i (by omega)
      exact ⟨f', rw2 _ _ _ hf (B.ng i (by omega)).1 (B.ng i (by omega)).2⟩
  · intro i j hi hj
    unfold up
    by_cases e : i = n
    · by_cases e2 : j = n
      · intro _; omega
      · rw [if_pos e, if_neg e2]
        exact fun h => absurd (.inr (.inr ⟨j, by omega, h⟩)) hg
    · by_cases e2 : j = n
      · rw [if_neg e, if_pos e2]
        exact fun h => absurd (.inr (.inr ⟨i, by omega, h.symm⟩)) hg
      · rw [if_neg e, if_neg e2]
        exact B.inj i j (by omega) (by omega)
  · simp [Value.ownBlock, gk]
  · intro i hi
    unfold up
    by_cases e : i = n
    · rw [if_pos e]
      refine ⟨fun e => hg (.inl e), fun e => ?_⟩
      simp only [Value.ownBlock, Option.some.injEq] at e
      rcases hat with h | h
      · exact hg (.inr (.inl (by rw [h, e])))
      · omega
    · rw [if_neg e]
      have := B.ng i (by omega)
      refine ⟨this.1, fun e => ?_⟩
      simp only [Value.ownBlock, Option.some.injEq] at e
      exact gG (G i) (.inr (.inr ⟨i, by omega, rfl⟩)) this.1 this.2 e.symm
  · intro i hi
    unfold up
    by_cases e : i = n
    · rw [if_pos e]; exact hl
    · rw [if_neg e]; exact B.le i (by omega)
  · simp only [Value.ownBlock, Option.some.injEq] at hb
    subst hb
    exact hat.imp id (fun h => by omega)
end Go.Proofs.Ythnmofnlcepffaa
