/- The given book of lists of many kinds: a book in memory, a list more, and what is known of it while Apart looks at it. -/
import Derived.Test.YthlhmfjopjikpaaDoorBookA
namespace Go.Proofs.YthlhmfjopjikpaaDoor
open Go.RowKit Go.BigFrame
set_option linter.unusedSimpArgs false
set_option linter.unusedVariables false
/-- A kind in which no list is. -/
def Kd.none : Kd := ⟨.slice .none 0 0, 0, fun _ => undef, fun _ => 0, fun _ => 0⟩
theorem Sound.none : Sound Kd.none := ⟨fun _ _ _ h => absurd h (Nat.not_lt_zero _), fun _ _ h => absurd h (Nat.not_lt_zero _), fun _ h => absurd h (Nat.not_lt_zero _), fun _ h => absurd h (Nat.not_lt_zero _), by decide⟩
theorem Raw.none (p : Kp) (v : World) : Raw p Kd.none v := ⟨Lst.nil v p.te (p.m + 2) _, fun _ h => absurd h (Nat.not_lt_zero _)⟩
theorem KB.none {b : Nat} : ¬ KB Kd.none b := by
  rintro (h | ⟨i, hi, _⟩)
  · cases h
  · exact absurd hi (Nat.not_lt_zero _)
/-- A book's cells. -/
def bkc (n : Nat) (D : Nat → Kd) (i : Nat) : Value := if i = 0 then .int .i64 n else (D i).u
/-- A book: how many lists are in it, and which. -/
structure Book (kp : Nat → Kp) (v : World) (k n : Nat) (D : Nat → Kd) : Prop where
  box : Vm v k 14 (bkc n D)
  raw : ∀ q, Raw (kp q) (D q) v
  sound : ∀ q, Sound (D q)
  apart : ∀ q q' b, q ≠ q' → KB (D q) b → ¬ KB (D q') b
  nk : ∀ q, ¬ KB (D q) k
  few : n ≤ 200
  cnt : ∀ q, (D q).c ≤ n
/-- The blocks of a book. -/
def InB (D : Nat → Kd) (k b : Nat) : Prop := b = k ∨ ∃ q, KB (D q) b
section
variable {kp : Nat → Kp} {v v' w w' : World} {k n : Nat} {D : Nat → Kd}
theorem Book.lt (B : Book kp v k n D) : ∀ b, InB D k b → b < v.heap.size := by
  rintro b (rfl | ⟨q, h⟩)
  · exact B.box.lt
  · exact (B.raw q).lt b h
theorem Book.chg {T : Nat → Prop} (B : Book kp v k n D) (h : Chg T v v') (hT : ∀ b, InB D k b → ¬ T b) : Book kp v' k n D :=
  ⟨B.box.blk2 (h.block k B.box.lt (hT k (.inl rfl))) h.size, fun q => (B.raw q).chg h (fun b hb => hT b (.inr ⟨q, hb⟩)), B.sound, B.apart, B.nk, B.few, B.cnt⟩
theorem Book.later (B : Book kp v k n D) (h : Ext v v') : Book kp v' k n D := B.chg (T := fun _ => False) (Chg.of h) (fun _ _ h => h)
/-- A new book. -/
theorem Book.new (V : Vm v k 14 (bkc 0 (fun _ => Kd.none))) : Book kp v k 0 (fun _ => Kd.none) :=
  ⟨V, fun q => Raw.none _ v, fun q => Sound.none, fun _ _ _ _ h => absurd h KB.none, fun q => KB.none, by omega, fun _ => Nat.le_refl 0⟩
/-- A list more of the kind q. -/
def addD (D : Nat → Kd) (q : Nat) (u s : Value) (l N : Nat) : Nat → Kd := fun q' => if q' = q then ⟨u, (D q).c + 1, fun i => if i = (D q).c then s else (D q).S i, fun i => if i = (D q).c then l else (D q).L i, fun i => if i = (D q).c then N else (D q).N i⟩ else D q'
theorem addD_in {q : Nat} {u s : Value} {l N b : Nat} (h : InB (addD D q u s l N) k b) : InB D k b ∨ s.ownBlock = some b ∨ u.ownBlock = some b := by
  rcases h with h | ⟨q', h⟩
  · exact .inl (.inl h)
  · unfold addD at h
    by_cases e : q' = q
    · rw [if_pos e] at h
      rcases h with h | ⟨i, hi, h⟩
      · exact .inr (.inr h)
      · dsimp only at hi h
        by_cases ei : i = (D q).c
        · rw [if_pos ei] at h; exact .inr (.inl h)
        · rw [if_neg ei] at h; exact .inl (.inr ⟨q, .inr ⟨i, by omega, h⟩⟩)
    · rw [if_neg e] at h; exact .inl (.inr ⟨q', h⟩)
/-- The strips with one more. -/
theorem Strips.add {p : Kp} {E : Kd} {s u : Value} {l N : Nat} (h : World.ownsC v 0 p.te (p.m + 2) u (E.c + 1) (ew (p.m + 2) E.c (sc E.S none3 (fun i => p.mark (E.N i))) ++ vl (p.m + 2) (fun j => if j = 0 then s else if j = 1 then .slice none 0 0 else p.mark N (j - 2)))) :
    Strips p ⟨u, E.c + 1, fun i => if i = E.c then s else E.S i, fun i => if i = E.c then l else E.L i, fun i => if i = E.c then N else E.N i⟩ none3 v := by
  refine (Lst.snoc h).congr fun i j hi hj => ?_
  unfold upe sc
  dsimp only
  by_cases e : i = E.c
  · rw [if_pos e]
    by_cases e0 : j = 0
    · rw [if_pos e0, if_pos e0, if_pos e]
    · rw [if_neg e0, if_neg e0]
      by_cases e1 : j = 1
      · rw [if_pos e1, if_pos e1]; rfl
      · rw [if_neg e1, if_neg e1, if_pos e]
  · rw [if_neg e]
    by_cases e0 : j = 0
    · rw [if_pos e0, if_pos e0, if_neg e]
    · rw [if_neg e0, if_neg e0]
      by_cases e1 : j = 1
      · rw [if_pos e1, if_pos e1]
      · rw [if_neg e1, if_neg e1, if_neg e]
theorem Book.add {q l : Nat} {s u : Value} {X : Nat → Nat → Value} (B : Book kp v k n D) (hq : 1 ≤ q ∧ q ≤ 13) (hn : n < 200) (hs : Lst v (kp q).e (kp q).m s l X) (hl : l ≤ 100000) (hb : ∀ b, s.ownBlock = some b → ¬ InB D k b)
    (C : Chg (fun b => b = k ∨ (D q).u.ownBlock = some b) v v') (V : Vm v' k 14 (fun i => if i = 0 then .int .i64 ((n : Int) + 1) else if i = q then u else (D i).u))
    (O : World.ownsC v' 0 (kp q).te ((kp q).m + 2) u ((D q).c + 1) (ew ((kp q).m + 2) (D q).c (sc (D q).S none3 (fun i => (kp q).mark ((D q).N i))) ++ vl ((kp q).m + 2) (fun j => if j = 0 then s else if j = 1 then .slice none 0 0 else (kp q).mark (n + 1) (j - 2))))
    (hu : ∀ b, u.ownBlock = some b → (D q).u.ownBlock = some b ∨ v.heap.size ≤ b) : Book kp v' k (n + 1) (addD D q u s l (n + 1)) := by
  have old : ∀ b, s.ownBlock = some b → b < v.heap.size := fun b h => hs.heap h
  have hc := B.cnt q
  have lt := B.lt
  have hsound : Sound ⟨u, (D q).c + 1, fun i => if i = (D q).c then s else (D q).S i, fun i => if i = (D q).c then l else (D q).L i, fun i => if i = (D q).c then n + 1 else (D q).N i⟩ := by
    have S := B.sound q
    refine ⟨fun i j b hi hj h1 h2 => ?_, fun i b hi h1 h2 => ?_, fun i hi => ?_, fun i hi => ?_, by show (D q).c + 1 ≤ 200; omega⟩
    · dsimp only at hi hj h1 h2
      by_cases ei : i = (D q).c
      · by_cases ej : j = (D q).c
        · omega
        · rw [if_pos ei] at h1
          rw [if_neg ej] at h2
          exact absurd (.inr ⟨q, .inr ⟨j, by omega, h2⟩⟩) (hb b h1)
      · by_cases ej : j = (D q).c
        · rw [if_neg ei] at h1
          rw [if_pos ej] at h2
          exact absurd (.inr ⟨q, .inr ⟨i, by omega, h1⟩⟩) (hb b h2)
        · rw [if_neg ei] at h1
          rw [if_neg ej] at h2
          exact S.inj i j b (by omega) (by omega) h1 h2
    · dsimp only at hi h1 h2
      by_cases ei : i = (D q).c
      · rw [if_pos ei] at h2
        rcases hu b h1 with h | h
        · exact hb b h2 (.inr ⟨q, .inl h⟩)
        · have := old b h2; omega
      · rw [if_neg ei] at h2
        rcases hu b h1 with h | h
        · exact S.nu i b (by omega) h h2
        · have := lt b (.inr ⟨q, .inr ⟨i, by omega, h2⟩⟩); omega
    · dsimp only at hi ⊢
      split
      · exact hl
      · exact S.len i (by omega)
    · dsimp only at hi ⊢
      split
      · omega
      · exact S.num i (by omega)
  have keep : ∀ q', q' ≠ q → ∀ b, KB (D q') b → ¬ (b = k ∨ (D q).u.ownBlock = some b) := fun q' hne b hb' h => by
    rcases h with h | h
    · exact B.nk q' (by rw [← h]; exact hb')
    · exact B.apart q' q b hne hb' (.inl h)
  have kbNew : ∀ b, KB ⟨u, (D q).c + 1, fun i => if i = (D q).c then s else (D q).S i, fun i => if i = (D q).c then l else (D q).L i, fun i => if i = (D q).c then n + 1 else (D q).N i⟩ b → KB (D q) b ∨ s.ownBlock = some b ∨ v.heap.size ≤ b := by
    rintro b (h | ⟨i, hi, h⟩)
    · rcases hu b h with h | h
      · exact .inl (.inl h)
      · exact .inr (.inr h)
    · dsimp only at hi h
      by_cases ei : i = (D q).c
      · rw [if_pos ei] at h; exact .inr (.inl h)
      · rw [if_neg ei] at h; exact .inl (.inr ⟨i, by omega, h⟩)
  have sep : ∀ q' b, q' ≠ q → KB (D q') b → ¬ (KB (D q) b ∨ s.ownBlock = some b ∨ v.heap.size ≤ b) := fun q' b hne h1 h2 => by
    rcases h2 with h2 | h2 | h2
    · exact B.apart q' q b hne h1 h2
    · exact hb b h2 (.inr ⟨q', h1⟩)
    · have := lt b (.inr ⟨q', h1⟩); omega
  refine ⟨V.eq fun i hi => ?_, fun q' => ?_, fun q' => ?_, fun q1 q2 b hne h1 h2 => ?_, fun q' h => ?_, by omega, fun q' => ?_⟩
  · unfold bkc addD
    by_cases e0 : i = 0
    · rw [if_pos e0, if_pos e0]; push_cast; rfl
    · rw [if_neg e0, if_neg e0]
      by_cases eq : i = q
      · rw [if_pos eq, if_pos eq]
      · rw [if_neg eq, if_neg eq]
  · unfold addD
    by_cases e : q' = q
    · subst e
      rw [if_pos rfl]
      refine ⟨Strips.add O, fun i hi => ?_⟩
      dsimp only at hi ⊢
      by_cases ei : i = (D q').c
      · rw [if_pos ei, if_pos ei]
        exact ⟨X, hs.chg C (fun b h1 h2 => by
          rcases h2 with h2 | h2
          · exact hb b h1 (.inl h2)
          · exact hb b h1 (.inr ⟨q', .inl h2⟩))⟩
      · rw [if_neg ei, if_neg ei]
        obtain ⟨Y, hY⟩ := (B.raw q').2 i (by omega)
        refine ⟨Y, hY.chg C (fun b h1 h2 => ?_)⟩
        rcases h2 with h2 | h2
        · exact B.nk q' (.inr ⟨i, by omega, by rw [h1, h2]⟩)
        · exact (B.sound q').nu i b (by omega) h2 h1
    · rw [if_neg e]
      exact (B.raw q').chg C (keep q' e)
  · unfold addD
    by_cases e : q' = q
    · rw [if_pos e]; exact hsound
    · rw [if_neg e]; exact B.sound q'
  · unfold addD at h1 h2
    by_cases e1 : q1 = q
    · rw [if_pos e1] at h1
      rw [if_neg (fun e => hne (e1.trans e.symm))] at h2
      exact sep q2 b (fun e => hne (e1.trans e.symm)) h2 (kbNew b h1)
    · rw [if_neg e1] at h1
      by_cases e2 : q2 = q
      · rw [if_pos e2] at h2
        exact sep q1 b e1 h1 (kbNew b h2)
      · rw [if_neg e2] at h2
        exact B.apart q1 q2 b hne h1 h2
  · unfold addD at h
    by_cases e : q' = q
    · rw [if_pos e] at h
      rcases kbNew k h with h | h | h
      · exact B.nk q h
      · exact hb k h (.inl rfl)
      · have := B.box.lt; omega
    · rw [if_neg e] at h
      exact B.nk q' h
  · unfold addD
    by_cases e : q' = q
    · rw [if_pos e]; show (D q).c + 1 ≤ n + 1; omega
    · rw [if_neg e]; have := B.cnt q'; omega
theorem Grn.mono {p : Kp} {E : Kd} {H H' : Nat} (h : Grn p E H v) (hH : H' ≤ H) : Grn p E H' v := by
  obtain ⟨J, h1, h2⟩ := h
  exact ⟨J, h1, fun i hi => ⟨(h2 i hi).1, (h2 i hi).2.1, fun b hb => ((h2 i hi).2.2 b hb).imp id (fun h => by omega)⟩⟩
/-- What is known of a book when Apart has gone i steps. -/
structure Step (kp : Nat → Kp) (w : World) (k n : Nat) (D : Nat → Kd) (i : Nat) (v : World) : Prop where
  box : Vm v k 14 (bkc n D)
  chg : Chg (InB D k) w v
  kind : ∀ q, 1 ≤ q → q ≤ 13 → if i < q then Raw (kp q) (D q) v else if i < 13 + q then Fld (kp q) (D q) v else Grn (kp q) (D q) w.heap.size v
theorem Step.start (B : Book kp w k n D) : Step kp w k n D 0 w := ⟨B.box, Chg.refl _ _, fun q h1 _ => by rw [if_pos (by omega)]; exact B.raw q⟩
theorem Step.fill {q : Nat} (B : Book kp w k n D) (hq : q < 13) (S : Step kp w k n D q v) (C : Chg (LB (D (q + 1))) v v') (F : Fld (kp (q + 1)) (D (q + 1)) v') : Step kp w k n D (q + 1) v' := by
  refine ⟨S.box.blk2 (C.block k S.box.lt (fun h => B.nk _ (.inr h))) C.size, S.chg.trans C (fun b h => .inl (.inr ⟨_, .inr h⟩)), fun q' h1 h2 => ?_⟩
  have hK := S.kind q' h1 h2
  by_cases e : q' = q + 1
  · subst e
    rw [if_neg (by omega), if_pos (by omega)]
    exact F
  · have hT : ∀ b, KB (D q') b → ¬ LB (D (q + 1)) b := fun b hb h => B.apart q' (q + 1) b e hb (.inr h)
    by_cases hlt : q < q'
    · rw [if_pos hlt] at hK
      rw [if_pos (by omega)]
      exact hK.chg C hT
    · rw [if_neg hlt, if_pos (by omega)] at hK
      rw [if_neg (by omega), if_pos (by omega)]
      exact hK.chg C hT
theorem Step.grow {q : Nat} (B : Book kp w k n D) (hq : q < 13) (S : Step kp w k n D (13 + q) v) (C : Chg (KB (D (q + 1))) v v') (F : Grn (kp (q + 1)) (D (q + 1)) v.heap.size v') : Step kp w k n D (13 + (q + 1)) v' := by
  refine ⟨S.box.blk2 (C.block k S.box.lt (fun h => B.nk _ h)) C.size, S.chg.trans C (fun b h => .inl (.inr ⟨_, h⟩)), fun q' h1 h2 => ?_⟩
  have hK := S.kind q' h1 h2
  rw [if_neg (by omega)] at hK
  rw [if_neg (by omega)]
  by_cases e : q' = q + 1
  · subst e
    rw [if_neg (by omega)]
    exact F.mono S.chg.size
  · by_cases hlt : 13 + q < 13 + q'
    · rw [if_pos hlt] at hK
      rw [if_pos (by omega)]
      exact hK.chg C (fun b hb h => B.apart q' (q + 1) b e hb h)
    · rw [if_neg hlt] at hK
      rw [if_neg (by omega)]
      refine hK.chg C (fun b hb h => ?_)
      rcases hb with hb | hb
      · exact B.apart q' (q + 1) b e hb h
      · have := (B.raw (q + 1)).lt b h; omega
theorem Step.look {i : Nat} (hi : 26 ≤ i) (S : Step kp w k n D i v) (C : Ext v v') : Step kp w k n D (i + 1) v' := by
  refine ⟨S.box.blk2 (C.block k S.box.lt) C.size, S.chg.trans (T := fun _ => False) (Chg.of C) (fun _ h => h.elim), fun q' h1 h2 => ?_⟩
  have hK := S.kind q' h1 h2
  rw [if_neg (by omega), if_neg (by omega)] at hK
  rw [if_neg (by omega), if_neg (by omega)]
  exact hK.chg (T := fun _ => False) (Chg.of C) (fun _ _ h => h)
theorem Step.raw {q : Nat} (hq : q < 13) (S : Step kp w k n D q v) : Raw (kp (q + 1)) (D (q + 1)) v := by
  have := S.kind (q + 1) (by omega) (by omega); rwa [if_pos (by omega)] at this
theorem Step.fld {q : Nat} (hq : q < 13) (S : Step kp w k n D (13 + q) v) : Fld (kp (q + 1)) (D (q + 1)) v := by
  have := S.kind (q + 1) (by omega) (by omega); rwa [if_neg (by omega), if_pos (by omega)] at this
theorem Step.grn {q : Nat} (hq : q < 13) {i : Nat} (hi : 26 ≤ i) (S : Step kp w k n D i v) : Grn (kp (q + 1)) (D (q + 1)) w.heap.size v := by
  have := S.kind (q + 1) (by omega) (by omega); rwa [if_neg (by omega), if_neg (by omega)] at this
theorem Step.cell {i j : Nat} (S : Step kp w k n D i v) (hj : j < 14) : v.cell? ⟨k, j, none⟩ = some (bkc n D j) := S.box.dg j hj
end
end Go.Proofs.YthlhmfjopjikpaaDoor
