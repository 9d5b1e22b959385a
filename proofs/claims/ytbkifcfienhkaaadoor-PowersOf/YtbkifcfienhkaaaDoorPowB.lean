/- What rootsOfTwo of package powers does: it returns T(0) to T(32). -/
import Derived.Test.YtbkifcfienhkaaaDoorPowA
import Derived.Test.YtbkifcfienhkaaaDoorBoxes
import Derived.Deep.MidRow
namespace Go.Proofs.YtbkifcfienhkaaaDoor
open Go.RowKit Go.BigFrame
set_option linter.unusedSimpArgs false
set_option linter.unusedVariables false

set_option maxHeartbeats 4000000 in
theorem next_walk (b : Nat) (t s r : Int) (TI : ∀ w, Calls Tryd.prog 60 #[.agg #[.int .i64 0, .int .u64 t], .int .i64 4611686018427387904] w fun e w' => e = .returned (.tuple #[(.agg #[.int .i64 (hi (s)), .int .u64 (lo (s))]), .int .i64 0]) ∧ Ext w w')
    (RW : ∀ w, Calls Tryd.prog 73 #[(.agg #[.int .i64 (hi (s)), .int .u64 (lo (s))])] w fun e w' => e = .returned (.tuple #[.int .u64 r, .int .i64 0]) ∧ Ext w w') (w : World) (UB : Um w b t) :
    Calls Tryd.prog 72 #[.pointer (some ⟨b, 0, none⟩)] w fun e w' => e = .returned (.int .u64 r) ∧ ∃ v, Ext w v ∧ w' = v.setCell ⟨b, 0, none⟩ (.int .u64 r) := by
  have EX := Ext.refl w
  go_enter Tryd.func72, Tryd.ntmps72
  go_upto_region 1 with fail
  refine rebase (G := fun w' => Code.wp _ _ _ _ w') _ (fun v1 => Ext w v1 ∧ Um v1 (b) (t)) ⟨by repeat (first | with_reducible exact EX | with_reducible refine Ext.alloc ?_ _ | with_reducible refine Ext.drew ?_ | with_reducible refine Ext.drewN ?_ _ | with_reducible refine Ext.setCell ?_ (by first | (simp; done) | omega | (dsimp only; omega)) _), by repeat (first | with_reducible assumption | with_reducible refine Um.drew ?_ | with_reducible refine Um.drewN ?_ _ | (with_reducible refine Um.skip ?_ ?_; focus (first | omega | (simp; done))) | with_reducible refine Um.store ?_ | with_reducible refine Um.new (by first | rfl | (simp; done) | with_unfolding_all rfl) (by with_unfolding_all rfl) | with_reducible refine Um.alloc ?_ _ | exact Um.any (by with_reducible assumption) | with_reducible refine UmAny.drew ?_ | with_reducible refine UmAny.drewN ?_ _ | (with_reducible refine UmAny.skip ?_ ?_; focus (first | omega | (simp; done))) | with_reducible refine UmAny.alloc ?_ _)⟩ ?_; clear EX ; rintro v1 ⟨EX, UB⟩; rename World => v; have UBc0 := UB.c0; have UBfz := UB.fz; have UBlt := UB.lt
  go_upto_region 2 with (first | (go_at_call 60; with_reducible refine (TI _).mono ?_; rintro e v1 ⟨rfl, hb⟩; replace EX := Ext.trans EX hb; replace UB := UB.later hb; replace UBc0 := UB.c0; replace UBfz := UB.fz; replace UBlt := UB.lt; clear hb v; rename World => v))
  refine rebase (G := fun w' => Code.wp _ _ _ _ w') _ (fun v1 => Ext w v1 ∧ Um v1 (b) (t) ∧ Wm v1 (v.heap.size) (hi s) (lo s)) ⟨by repeat (first | with_reducible exact EX | with_reducible refine Ext.alloc ?_ _ | with_reducible refine Ext.drew ?_ | with_reducible refine Ext.drewN ?_ _ | with_reducible refine Ext.setCell ?_ (by first | (simp; done) | omega | (dsimp only; omega)) _), by repeat (first | with_reducible assumption | with_reducible refine Um.drew ?_ | with_reducible refine Um.drewN ?_ _ | (with_reducible refine Um.skip ?_ ?_; focus (first | omega | (simp; done))) | with_reducible refine Um.store ?_ | with_reducible refine Um.new (by first | rfl | (simp; done) | with_unfolding_all rfl) (by with_unfolding_all rfl) | with_reducible refine Um.alloc ?_ _ | exact Um.any (by with_reducible assumption) | with_reducible refine UmAny.drew ?_ | with_reducible refine UmAny.drewN ?_ _ | (with_reducible refine UmAny.skip ?_ ?_; focus (first | omega | (simp; done))) | with_reducible refine UmAny.alloc ?_ _), by repeat (first | with_reducible assumption | with_reducible refine Wm.drew ?_ | with_reducible refine Wm.drewN ?_ _ | (with_reducible refine Wm.skip ?_ ?_; focus (first | omega | (simp; done))) | with_reducible refine Wm.store ?_ _ _ | with_reducible refine Wm.new (by first | rfl | (simp; done) | with_unfolding_all rfl) (by with_unfolding_all rfl) (by with_unfolding_all rfl) | with_reducible refine Wm.alloc ?_ _ | exact Wm.any (by with_reducible assumption) | with_reducible refine WmAny.drew ?_ | with_reducible refine WmAny.drewN ?_ _ | (with_reducible refine WmAny.skip ?_ ?_; focus (first | omega | (simp; done))) | with_reducible refine WmAny.alloc ?_ _)⟩ ?_; have qUB := UB.lt; have qw := EX.more; clear UBc0 UBfz UBlt; clear EX UB; rintro v1 ⟨EX, UB, WS⟩; obtain ⟨b2, hb2⟩ : ∃ b, v.heap.size = b := ⟨_, rfl⟩; rw [hb2] at qUB qw WS ⊢; clear hb2; clear v; rename World => v; have UBc0 := UB.c0; have UBfz := UB.fz; have UBlt := UB.lt; have WShi := WS.hi; have WSlo := WS.lo; have WSfz := WS.fz; have WSlt := WS.lt
  go_wp2_with (first | (go_at_call 73; with_reducible refine (RW _).mono ?_; rintro e v1 ⟨rfl, hb⟩; replace EX := Ext.trans EX hb; replace UB := UB.later hb; replace WS := WS.later hb; replace UBc0 := UB.c0; replace UBfz := UB.fz; replace UBlt := UB.lt; replace WShi := WS.hi; replace WSlo := WS.lo; replace WSfz := WS.fz; replace WSlt := WS.lt; clear hb v; rename World => v))
  go_ret
  exact ⟨rfl, v, EX, rfl⟩
theorem next_any (b k : Nat) (hk : k < 32) (w : World) (UB : Um w b (TT k : Int)) :
    Calls Tryd.prog 72 #[.pointer (some ⟨b, 0, none⟩)] w fun e w' => e = .returned (.int .u64 (TT (k + 1) : Int)) ∧ ∃ v, Ext w v ∧ w' = v.setCell ⟨b, 0, none⟩ (.int .u64 (TT (k + 1) : Int)) := by
  obtain ⟨t1, t2, _⟩ := TT_in k (by omega)
  have hr := TT_rt hk
  have hu : InU64 (TT k : Int) := ⟨by omega, by omega⟩
  have hm : InW ((TT k : Int) * 4611686018427387904) := by unfold InW; omega
  refine next_walk b (TT k : Int) ((TT k : Int) * 4611686018427387904) _ (fun w => ?_) (fun w => ?_) w UB
  · have := times_any (TT k : Int) 4611686018427387904 (by unfold InW; omega) ⟨by decide, by decide⟩ w
    rw [(hi_u hu).1, (hi_u hu).2, (fit_of hm).1, (fit_of hm).2] at this
    exact this
  · have := rootWide_any _ hm (by omega) w
    rw [hr] at this
    exact this
/-- The table as far as it is made. -/
def tf (g : Nat → Int) (k i : Nat) : Int := if i ≤ k then g i else 0
theorem tf_start (g : Nat → Int) (g0 : g 0 = 9223372036854775808) : ∀ i, i < 33 → (#[.int .u64 9223372036854775808, .int .u64 0, .int .u64 0, .int .u64 0, .int .u64 0, .int .u64 0, .int .u64 0, .int .u64 0, .int .u64 0, .int .u64 0, .int .u64 0, .int .u64 0, .int .u64 0, .int .u64 0, .int .u64 0, .int .u64 0, .int .u64 0, .int .u64 0, .int .u64 0, .int .u64 0, .int .u64 0, .int .u64 0, .int .u64 0, .int .u64 0, .int .u64 0, .int .u64 0, .int .u64 0, .int .u64 0, .int .u64 0, .int .u64 0, .int .u64 0, .int .u64 0, .int .u64 0] : Array Value)[i]? = some (.int .u64 (tf g 0 i)) := by
  have e : tf g 0 0 = 9223372036854775808 := g0
  have z : ∀ i, tf g 0 (i + 1) = 0 := fun i => by unfold tf; rw [if_neg (by omega)]
  refine all33 (by rw [e]; rfl) (by rw [z 0]; rfl) (by rw [z 1]; rfl) (by rw [z 2]; rfl) (by rw [z 3]; rfl) (by rw [z 4]; rfl) (by rw [z 5]; rfl) (by rw [z 6]; rfl) (by rw [z 7]; rfl) (by rw [z 8]; rfl) (by rw [z 9]; rfl) (by rw [z 10]; rfl) (by rw [z 11]; rfl) (by rw [z 12]; rfl) (by rw [z 13]; rfl) (by rw [z 14]; rfl) (by rw [z 15]; rfl) (by rw [z 16]; rfl) (by rw [z 17]; rfl) (by rw [z 18]; rfl) (by rw [z 19]; rfl) (by rw [z 20]; rfl) (by rw [z 21]; rfl) (by rw [z 22]; rfl) (by rw [z 23]; rfl) (by rw [z 24]; rfl) (by rw [z 25]; rfl) (by rw [z 26]; rfl) (by rw [z 27]; rfl) (by rw [z 28]; rfl) (by rw [z 29]; rfl) (by rw [z 30]; rfl) (by rw [z 31]; rfl)
/-- The table's cells. -/
def gl (g : Nat → Int) : List Value := (List.range 33).map fun i => .int .u64 (g i)
theorem gl_len (g : Nat → Int) : (gl g).length = 33 := by unfold gl; simp
theorem gl_at (g : Nat → Int) {i : Nat} (h : i < 33) : (gl g)[i]? = some (.int .u64 (g i)) := by unfold gl; rw [List.getElem?_map, List.getElem?_range h]; rfl
theorem Tm.range {v : World} {b : Nat} {g : Nat → Int} (B : Tm v b g) : v.rangeAt b 0 (gl g) := fun j x hx => by
  have hj : j < 33 := by rw [← gl_len g]; exact (List.getElem?_eq_some_iff.1 hx).1
  rw [gl_at g hj] at hx
  rw [Nat.zero_add, B.dg j hj, hx]
theorem Tm.there {v : World} {b : Nat} {g : Nat → Int} (B : Tm v b g) {n : Nat} (hn : n = 33) : v.there b 0 n := fun j hj => by
  rw [Nat.zero_add, B.dg j (by omega)]
  exact ⟨rfl, B.fz j⟩
theorem gl_one (g : Nat → Int) : (gl g).toArray.all (·.oneCell') = true := all_oneCell_toArray (fun v hv => by unfold gl at hv; rw [List.mem_map] at hv; obtain ⟨i, _, rfl⟩ := hv; rfl)
theorem Tm.cells {v : World} {b : Nat} {f : Nat → Int} (B : Tm v b f) (g : Nat → Int) : Tm (v.setCells b 0 (gl g)) b g := by
  have ht : v.there b 0 (gl g).length := B.there (gl_len g)
  refine ⟨?_, fun o => ?_, fun i hi => ?_⟩
  · have := World.rangeAt_setCells_same v b 0 (gl g) ht 0 _ (gl_at g (by decide))
    rw [Nat.zero_add] at this
    exact cell_lt this
  · rw [World.frozen?_setCells]; exact B.fz o
  · have := World.rangeAt_setCells_same v b 0 (gl g) ht i _ (gl_at g hi)
    rw [Nat.zero_add] at this
    exact this
theorem Ext.setCells {a w : World} (h : Ext a w) (b : Nat) (hb : a.heap.size ≤ b) : ∀ (vs : List Value) (o : Nat), Ext a (w.setCells b o vs) := by
  intro vs
  induction vs generalizing w with
  | nil => intro o; exact h
  | cons v vs ih => intro o; exact ih (Ext.setCell h (p := ⟨b, o, none⟩) hb v) (o + 1)

set_option maxHeartbeats 8000000 in
theorem rootsOfTwo_walk (g : Nat → Int) (g0 : g 0 = 9223372036854775808) (NX : ∀ (b k : Nat) (hk : k < 32) (w : World) (UB : Um w b (g k)), Calls Tryd.prog 72 #[.pointer (some ⟨b, 0, none⟩)] w fun e w' => e = .returned (.int .u64 (g (k + 1))) ∧ ∃ v, Ext w v ∧ w' = v.setCell ⟨b, 0, none⟩ (.int .u64 (g (k + 1)))) (w : World) :
    Calls Tryd.prog 58 #[] w fun e w' => e = .returned (.agg (gl g).toArray) ∧ Ext w w' := by
  have EX := Ext.refl w
  have hmf : ∀ (fn : Fn) (first cap : Array Value) (w : World), (Instr.makeFunc fn first cap).run Tryd.prog w = .ok (.func fn first cap) w := fun _ _ _ _ => rfl
  go_enter Tryd.func58, Tryd.ntmps58
  go_wp2
  go_loopg [7] 32 (fun gk i wr => ∃ k : Nat, k + gk = 32 ∧ i = .int .i64 k ∧ Ext w wr ∧ Tm wr (w.heap.size) (tf g k) ∧ Um wr (w.heap.size + 1) (g k))
  case atStart =>
    refine ⟨0, rfl, rfl, by repeat (first | with_reducible exact EX | with_reducible refine Ext.alloc ?_ _ | with_reducible refine Ext.drew ?_ | with_reducible refine Ext.drewN ?_ _ | with_reducible refine Ext.setCell ?_ (by first | (simp; done) | omega | (dsimp only; omega)) _), ?_, ?_⟩
    · exact Tm.alloc (Tm.new rfl (tf_start g g0)) _
    · exact Um.new (by simp) (by rw [g0]; rfl)
  case round =>
    obtain ⟨k, hk, rfl, EX, TB, UB⟩ := hrel
    obtain ⟨v, hv⟩ : ∃ v, v = wr := ⟨_, rfl⟩
    subst hv
    by_cases hlt : k < 32
    · have hki : (k : Int) < 32 := by omega
      have TBdg := TB.dg; have TBfz := TB.fz; have TBlt := TB.lt; have UBc0 := UB.c0; have UBfz := UB.fz; have UBlt := UB.lt
      go_wp2_with (first | (go_at_call 72; with_reducible refine (NX (w.heap.size + 1) k hlt _ UB).mono ?_; rintro e v1 ⟨rfl, v2, hb, rfl⟩; replace EX := Ext.setCell (Ext.trans EX hb) (p := ⟨w.heap.size + 1, 0, none⟩) (by simp) (.int .u64 (g (k + 1))); replace TB := (TB.later hb).skip (b' := w.heap.size + 1) (o' := 0) (y := .int .u64 (g (k + 1))) (by omega); replace UB := Um.set (UB.later hb) (g (k + 1)); clear hb; generalize World.setCell v2 ⟨w.heap.size + 1, 0, none⟩ (.int .u64 (g (k + 1))) = v3 at *; replace TBdg := TB.dg (k + 1) (by omega); replace TBfz := TB.fz; replace TBlt := TB.lt; replace UBc0 := UB.c0; replace UBfz := UB.fz; replace UBlt := UB.lt))
      go_roundg (gk - 1)
      case measure => omega
      case rel =>
        refine ⟨k + 1, by omega, by go_num, by repeat (first | with_reducible exact EX | with_reducible refine Ext.alloc ?_ _ | with_reducible refine Ext.drew ?_ | with_reducible refine Ext.drewN ?_ _ | with_reducible refine Ext.setCell ?_ (by first | (simp; done) | omega | (dsimp only; omega)) _), ?_, ?_⟩
        · refine Tm.eq (Tm.set TB (k + 1) (g (k + 1))) ?_
          intro i hi
          unfold upd tf
          by_cases h : i = k + 1
          · subst h; rw [if_pos rfl, if_pos (by omega)]
          · rw [if_neg h]
            by_cases h' : i ≤ k
            · rw [if_pos h', if_pos (by omega)]
            · rw [if_neg h', if_neg (by omega)]
        · repeat (first | with_reducible assumption | with_reducible refine Um.drew ?_ | with_reducible refine Um.drewN ?_ _ | (with_reducible refine Um.skip ?_ ?_; focus (first | omega | (simp; done))) | with_reducible refine Um.store ?_ | with_reducible refine Um.new (by first | rfl | (simp; done) | with_unfolding_all rfl) (by with_unfolding_all rfl) | with_reducible refine Um.alloc ?_ _ | exact Um.any (by with_reducible assumption) | with_reducible refine UmAny.drew ?_ | with_reducible refine UmAny.drewN ?_ _ | (with_reducible refine UmAny.skip ?_ ?_; focus (first | omega | (simp; done))) | with_reducible refine UmAny.alloc ?_ _)
    · have hki : ¬ ((k : Int) < 32) := by omega
      replace TB : Tm v w.heap.size g := TB.eq (fun i hi => by unfold tf; rw [if_pos (by omega)])
      clear UB NX
      go_wp2_with (first
        | (refine wpList_load_mid rfl 79 _ rfl w.heap.size 0 rfl (gl g) _ TB.range Tryd.underlying79 rfl (by rw [gl_len]; kernel_rfl) ?_)
        | (refine wpList_store_mid rfl 79 _ _ rfl w.heap.size 0 (gl g).toArray rfl rfl (TB.there (by simp [gl_len])) (by rw [List.size_toArray, gl_len]; kernel_rfl) (gl_one g) ?_))
      have TC := TB.cells g
      replace EX := EX.setCells w.heap.size (Nat.le_refl _) (gl g) 0
      have hld := fun t d h1 h2 h3 => run_loadVar_mid (P := Tryd.prog) _ w.heap.size 0 t (gl g) d TC.range h1 h2 h3
      replace hld := hld 79 _ Tryd.underlying79 rfl (by rw [gl_len]; kernel_rfl)
      refine bodyPost_ret (v := .agg (gl g).toArray) ?_ rfl ⟨rfl, EX⟩
      simp only [results, Tryd.results58]
      simp [asAddr, Result.andThen, hld]
theorem rootsOfTwo_any (w : World) : Calls Tryd.prog 58 #[] w fun e w' => e = .returned (.agg (gl fun i => ((TT i : Nat) : Int)).toArray) ∧ Ext w w' :=
  rootsOfTwo_walk (fun i => ((TT i : Nat) : Int)) rfl (fun b k hk w UB => next_any b k hk w UB) w
end Go.Proofs.YtbkifcfienhkaaaDoor
