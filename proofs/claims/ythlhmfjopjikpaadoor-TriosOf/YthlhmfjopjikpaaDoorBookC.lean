/- The given book: Apart, over what is known of the calls on each kind. -/
import Derived.Test.YthlhmfjopjikpaaDoorBookB
namespace Go.Proofs.YthlhmfjopjikpaaDoor
open Go.RowKit Go.BigFrame
set_option linter.unusedSimpArgs false
set_option linter.unusedVariables false
set_option maxRecDepth 20000 in
set_option maxHeartbeats 16000000 in
theorem apart_walk (kp : Nat → Kp) (D : Nat → Kd) (k n : Nat) (w : World) (a : Nat → Option Addr) (c p : Nat → Nat) (hu : ∀ q, (D q).u = .slice (a q) (c q) (p q)) (hn : n ≤ 200)
    (f1 : ∀ v, Step kp w k n D 0 v → Calls Tryd.prog 28 #[.slice (a 1) (c 1) (p 1)] v fun e w' => e = .returned (.tuple #[]) ∧ Step kp w k n D 1 w')
    (f2 : ∀ v, Step kp w k n D 1 v → Calls Tryd.prog 29 #[.slice (a 2) (c 2) (p 2)] v fun e w' => e = .returned (.tuple #[]) ∧ Step kp w k n D 2 w')
    (f3 : ∀ v, Step kp w k n D 2 v → Calls Tryd.prog 30 #[.slice (a 3) (c 3) (p 3)] v fun e w' => e = .returned (.tuple #[]) ∧ Step kp w k n D 3 w')
    (f4 : ∀ v, Step kp w k n D 3 v → Calls Tryd.prog 31 #[.slice (a 4) (c 4) (p 4)] v fun e w' => e = .returned (.tuple #[]) ∧ Step kp w k n D 4 w')
    (f5 : ∀ v, Step kp w k n D 4 v → Calls Tryd.prog 32 #[.slice (a 5) (c 5) (p 5)] v fun e w' => e = .returned (.tuple #[]) ∧ Step kp w k n D 5 w')
    (f6 : ∀ v, Step kp w k n D 5 v → Calls Tryd.prog 33 #[.slice (a 6) (c 6) (p 6)] v fun e w' => e = .returned (.tuple #[]) ∧ Step kp w k n D 6 w')
    (f7 : ∀ v, Step kp w k n D 6 v → Calls Tryd.prog 34 #[.slice (a 7) (c 7) (p 7)] v fun e w' => e = .returned (.tuple #[]) ∧ Step kp w k n D 7 w')
    (f8 : ∀ v, Step kp w k n D 7 v → Calls Tryd.prog 35 #[.slice (a 8) (c 8) (p 8)] v fun e w' => e = .returned (.tuple #[]) ∧ Step kp w k n D 8 w')
    (f9 : ∀ v, Step kp w k n D 8 v → Calls Tryd.prog 36 #[.slice (a 9) (c 9) (p 9)] v fun e w' => e = .returned (.tuple #[]) ∧ Step kp w k n D 9 w')
    (f10 : ∀ v, Step kp w k n D 9 v → Calls Tryd.prog 37 #[.slice (a 10) (c 10) (p 10)] v fun e w' => e = .returned (.tuple #[]) ∧ Step kp w k n D 10 w')
    (f11 : ∀ v, Step kp w k n D 10 v → Calls Tryd.prog 38 #[.slice (a 11) (c 11) (p 11)] v fun e w' => e = .returned (.tuple #[]) ∧ Step kp w k n D 11 w')
    (f12 : ∀ v, Step kp w k n D 11 v → Calls Tryd.prog 39 #[.slice (a 12) (c 12) (p 12)] v fun e w' => e = .returned (.tuple #[]) ∧ Step kp w k n D 12 w')
    (f13 : ∀ v, Step kp w k n D 12 v → Calls Tryd.prog 40 #[.slice (a 13) (c 13) (p 13)] v fun e w' => e = .returned (.tuple #[]) ∧ Step kp w k n D 13 w')
    (g1 : ∀ v, Step kp w k n D 13 v → Calls Tryd.prog 41 #[.slice (a 1) (c 1) (p 1)] v fun e w' => e = .returned (.tuple #[]) ∧ Step kp w k n D 14 w')
    (g2 : ∀ v, Step kp w k n D 14 v → Calls Tryd.prog 42 #[.slice (a 2) (c 2) (p 2)] v fun e w' => e = .returned (.tuple #[]) ∧ Step kp w k n D 15 w')
    (g3 : ∀ v, Step kp w k n D 15 v → Calls Tryd.prog 43 #[.slice (a 3) (c 3) (p 3)] v fun e w' => e = .returned (.tuple #[]) ∧ Step kp w k n D 16 w')
    (g4 : ∀ v, Step kp w k n D 16 v → Calls Tryd.prog 44 #[.slice (a 4) (c 4) (p 4)] v fun e w' => e = .returned (.tuple #[]) ∧ Step kp w k n D 17 w')
    (g5 : ∀ v, Step kp w k n D 17 v → Calls Tryd.prog 45 #[.slice (a 5) (c 5) (p 5)] v fun e w' => e = .returned (.tuple #[]) ∧ Step kp w k n D 18 w')
    (g6 : ∀ v, Step kp w k n D 18 v → Calls Tryd.prog 46 #[.slice (a 6) (c 6) (p 6)] v fun e w' => e = .returned (.tuple #[]) ∧ Step kp w k n D 19 w')
    (g7 : ∀ v, Step kp w k n D 19 v → Calls Tryd.prog 47 #[.slice (a 7) (c 7) (p 7)] v fun e w' => e = .returned (.tuple #[]) ∧ Step kp w k n D 20 w')
    (g8 : ∀ v, Step kp w k n D 20 v → Calls Tryd.prog 48 #[.slice (a 8) (c 8) (p 8)] v fun e w' => e = .returned (.tuple #[]) ∧ Step kp w k n D 21 w')
    (g9 : ∀ v, Step kp w k n D 21 v → Calls Tryd.prog 49 #[.slice (a 9) (c 9) (p 9)] v fun e w' => e = .returned (.tuple #[]) ∧ Step kp w k n D 22 w')
    (g10 : ∀ v, Step kp w k n D 22 v → Calls Tryd.prog 50 #[.slice (a 10) (c 10) (p 10)] v fun e w' => e = .returned (.tuple #[]) ∧ Step kp w k n D 23 w')
    (g11 : ∀ v, Step kp w k n D 23 v → Calls Tryd.prog 51 #[.slice (a 11) (c 11) (p 11)] v fun e w' => e = .returned (.tuple #[]) ∧ Step kp w k n D 24 w')
    (g12 : ∀ v, Step kp w k n D 24 v → Calls Tryd.prog 52 #[.slice (a 12) (c 12) (p 12)] v fun e w' => e = .returned (.tuple #[]) ∧ Step kp w k n D 25 w')
    (g13 : ∀ v, Step kp w k n D 25 v → Calls Tryd.prog 53 #[.slice (a 13) (c 13) (p 13)] v fun e w' => e = .returned (.tuple #[]) ∧ Step kp w k n D 26 w')
    (m1 : ∀ v, Step kp w k n D 26 v → Calls Tryd.prog 54 #[.slice (a 1) (c 1) (p 1)] v fun e w' => e = .returned (.bool true) ∧ Step kp w k n D 27 w')
    (m2 : ∀ v, Step kp w k n D 27 v → Calls Tryd.prog 55 #[.slice (a 2) (c 2) (p 2)] v fun e w' => e = .returned (.bool true) ∧ Step kp w k n D 28 w')
    (m3 : ∀ v, Step kp w k n D 28 v → Calls Tryd.prog 56 #[.slice (a 3) (c 3) (p 3)] v fun e w' => e = .returned (.bool true) ∧ Step kp w k n D 29 w')
    (m4 : ∀ v, Step kp w k n D 29 v → Calls Tryd.prog 57 #[.slice (a 4) (c 4) (p 4)] v fun e w' => e = .returned (.bool true) ∧ Step kp w k n D 30 w')
    (m5 : ∀ v, Step kp w k n D 30 v → Calls Tryd.prog 58 #[.slice (a 5) (c 5) (p 5)] v fun e w' => e = .returned (.bool true) ∧ Step kp w k n D 31 w')
    (m6 : ∀ v, Step kp w k n D 31 v → Calls Tryd.prog 59 #[.slice (a 6) (c 6) (p 6)] v fun e w' => e = .returned (.bool true) ∧ Step kp w k n D 32 w')
    (m7 : ∀ v, Step kp w k n D 32 v → Calls Tryd.prog 60 #[.slice (a 7) (c 7) (p 7)] v fun e w' => e = .returned (.bool true) ∧ Step kp w k n D 33 w')
    (m8 : ∀ v, Step kp w k n D 33 v → Calls Tryd.prog 61 #[.slice (a 8) (c 8) (p 8)] v fun e w' => e = .returned (.bool true) ∧ Step kp w k n D 34 w')
    (m9 : ∀ v, Step kp w k n D 34 v → Calls Tryd.prog 62 #[.slice (a 9) (c 9) (p 9)] v fun e w' => e = .returned (.bool true) ∧ Step kp w k n D 35 w')
    (m10 : ∀ v, Step kp w k n D 35 v → Calls Tryd.prog 63 #[.slice (a 10) (c 10) (p 10)] v fun e w' => e = .returned (.bool true) ∧ Step kp w k n D 36 w')
    (m11 : ∀ v, Step kp w k n D 36 v → Calls Tryd.prog 64 #[.slice (a 11) (c 11) (p 11)] v fun e w' => e = .returned (.bool true) ∧ Step kp w k n D 37 w')
    (m12 : ∀ v, Step kp w k n D 37 v → Calls Tryd.prog 65 #[.slice (a 12) (c 12) (p 12)] v fun e w' => e = .returned (.bool true) ∧ Step kp w k n D 38 w')
    (m13 : ∀ v, Step kp w k n D 38 v → Calls Tryd.prog 66 #[.slice (a 13) (c 13) (p 13)] v fun e w' => e = .returned (.bool true) ∧ Step kp w k n D 39 w') :
    ∀ v, Step kp w k n D 0 v → Calls Tryd.prog 16 #[.pointer (some ⟨k, 0, none⟩)] v fun e w' => e = .returned (.bool true) ∧ Chg (InB D k) w w' := by
  have hcell : ∀ i v, Step kp w k n D i v → v.cell? ⟨k, 0, none⟩ = some (.int .i64 n) ∧ v.cell? ⟨k, 1, none⟩ = some (.slice (a 1) (c 1) (p 1)) ∧ v.cell? ⟨k, 2, none⟩ = some (.slice (a 2) (c 2) (p 2)) ∧ v.cell? ⟨k, 3, none⟩ = some (.slice (a 3) (c 3) (p 3)) ∧ v.cell? ⟨k, 4, none⟩ = some (.slice (a 4) (c 4) (p 4)) ∧ v.cell? ⟨k, 5, none⟩ = some (.slice (a 5) (c 5) (p 5)) ∧ v.cell? ⟨k, 6, none⟩ = some (.slice (a 6) (c 6) (p 6)) ∧ v.cell? ⟨k, 7, none⟩ = some (.slice (a 7) (c 7) (p 7)) ∧ v.cell? ⟨k, 8, none⟩ = some (.slice (a 8) (c 8) (p 8)) ∧ v.cell? ⟨k, 9, none⟩ = some (.slice (a 9) (c 9) (p 9)) ∧ v.cell? ⟨k, 10, none⟩ = some (.slice (a 10) (c 10) (p 10)) ∧ v.cell? ⟨k, 11, none⟩ = some (.slice (a 11) (c 11) (p 11)) ∧ v.cell? ⟨k, 12, none⟩ = some (.slice (a 12) (c 12) (p 12)) ∧ v.cell? ⟨k, 13, none⟩ = some (.slice (a 13) (c 13) (p 13)) := fun i v S =>
    ⟨S.cell (by omega), by rw [← hu 1]; exact S.cell (j := 1) (by omega), by rw [← hu 2]; exact S.cell (j := 2) (by omega), by rw [← hu 3]; exact S.cell (j := 3) (by omega), by rw [← hu 4]; exact S.cell (j := 4) (by omega), by rw [← hu 5]; exact S.cell (j := 5) (by omega), by rw [← hu 6]; exact S.cell (j := 6) (by omega), by rw [← hu 7]; exact S.cell (j := 7) (by omega), by rw [← hu 8]; exact S.cell (j := 8) (by omega), by rw [← hu 9]; exact S.cell (j := 9) (by omega), by rw [← hu 10]; exact S.cell (j := 10) (by omega), by rw [← hu 11]; exact S.cell (j := 11) (by omega), by rw [← hu 12]; exact S.cell (j := 12) (by omega), by rw [← hu 13]; exact S.cell (j := 13) (by omega)⟩
  have hbig : ¬ (250 : Int) < (n : Int) := by omega
  clear hu hn
  intro v S
  obtain ⟨c0, c1, c2, c3, c4, c5, c6, c7, c8, c9, c10, c11, c12, c13⟩ := hcell _ _ S
  go_enter Tryd.func16, Tryd.ntmps16
  go_wp2_with (first
    | (go_at_call 28; with_reducible refine (f1 _ S).mono ?_; rintro e v1 ⟨rfl, S1⟩; clear c0 c1 c2 c3 c4 c5 c6 c7 c8 c9 c10 c11 c12 c13 f1; replace S := S1; clear S1; obtain ⟨c0, c1, c2, c3, c4, c5, c6, c7, c8, c9, c10, c11, c12, c13⟩ := hcell _ _ S; clear v; rename World => v)
    | (go_at_call 29; with_reducible refine (f2 _ S).mono ?_; rintro e v1 ⟨rfl, S1⟩; clear c0 c1 c2 c3 c4 c5 c6 c7 c8 c9 c10 c11 c12 c13 f2; replace S := S1; clear S1; obtain ⟨c0, c1, c2, c3, c4, c5, c6, c7, c8, c9, c10, c11, c12, c13⟩ := hcell _ _ S; clear v; rename World => v)
    | (go_at_call 30; with_reducible refine (f3 _ S).mono ?_; rintro e v1 ⟨rfl, S1⟩; clear c0 c1 c2 c3 c4 c5 c6 c7 c8 c9 c10 c11 c12 c13 f3; replace S := S1; clear S1; obtain ⟨c0, c1, c2, c3, c4, c5, c6, c7, c8, c9, c10, c11, c12, c13⟩ := hcell _ _ S; clear v; rename World => v)
    | (go_at_call 31; with_reducible refine (f4 _ S).mono ?_; rintro e v1 ⟨rfl, S1⟩; clear c0 c1 c2 c3 c4 c5 c6 c7 c8 c9 c10 c11 c12 c13 f4; replace S := S1; clear S1; obtain ⟨c0, c1, c2, c3, c4, c5, c6, c7, c8, c9, c10, c11, c12, c13⟩ := hcell _ _ S; clear v; rename World => v)
    | (go_at_call 32; with_reducible refine (f5 _ S).mono ?_; rintro e v1 ⟨rfl, S1⟩; clear c0 c1 c2 c3 c4 c5 c6 c7 c8 c9 c10 c11 c12 c13 f5; replace S := S1; clear S1; obtain ⟨c0, c1, c2, c3, c4, c5, c6, c7, c8, c9, c10, c11, c12, c13⟩ := hcell _ _ S; clear v; rename World => v)
    | (go_at_call 33; with_reducible refine (f6 _ S).mono ?_; rintro e v1 ⟨rfl, S1⟩; clear c0 c1 c2 c3 c4 c5 c6 c7 c8 c9 c10 c11 c12 c13 f6; replace S := S1; clear S1; obtain ⟨c0, c1, c2, c3, c4, c5, c6, c7, c8, c9, c10, c11, c12, c13⟩ := hcell _ _ S; clear v; rename World => v)
    | (go_at_call 34; with_reducible refine (f7 _ S).mono ?_; rintro e v1 ⟨rfl, S1⟩; clear c0 c1 c2 c3 c4 c5 c6 c7 c8 c9 c10 c11 c12 c13 f7; replace S := S1; clear S1; obtain ⟨c0, c1, c2, c3, c4, c5, c6, c7, c8, c9, c10, c11, c12, c13⟩ := hcell _ _ S; clear v; rename World => v)
    | (go_at_call 35; with_reducible refine (f8 _ S).mono ?_; rintro e v1 ⟨rfl, S1⟩; clear c0 c1 c2 c3 c4 c5 c6 c7 c8 c9 c10 c11 c12 c13 f8; replace S := S1; clear S1; obtain ⟨c0, c1, c2, c3, c4, c5, c6, c7, c8, c9, c10, c11, c12, c13⟩ := hcell _ _ S; clear v; rename World => v)
    | (go_at_call 36; with_reducible refine (f9 _ S).mono ?_; rintro e v1 ⟨rfl, S1⟩; clear c0 c1 c2 c3 c4 c5 c6 c7 c8 c9 c10 c11 c12 c13 f9; replace S := S1; clear S1; obtain ⟨c0, c1, c2, c3, c4, c5, c6, c7, c8, c9, c10, c11, c12, c13⟩ := hcell _ _ S; clear v; rename World => v)
    | (go_at_call 37; with_reducible refine (f10 _ S).mono ?_; rintro e v1 ⟨rfl, S1⟩; clear c0 c1 c2 c3 c4 c5 c6 c7 c8 c9 c10 c11 c12 c13 f10; replace S := S1; clear S1; obtain ⟨c0, c1, c2, c3, c4, c5, c6, c7, c8, c9, c10, c11, c12, c13⟩ := hcell _ _ S; clear v; rename World => v)
    | (go_at_call 38; with_reducible refine (f11 _ S).mono ?_; rintro e v1 ⟨rfl, S1⟩; clear c0 c1 c2 c3 c4 c5 c6 c7 c8 c9 c10 c11 c12 c13 f11; replace S := S1; clear S1; obtain ⟨c0, c1, c2, c3, c4, c5, c6, c7, c8, c9, c10, c11, c12, c13⟩ := hcell _ _ S; clear v; rename World => v)
    | (go_at_call 39; with_reducible refine (f12 _ S).mono ?_; rintro e v1 ⟨rfl, S1⟩; clear c0 c1 c2 c3 c4 c5 c6 c7 c8 c9 c10 c11 c12 c13 f12; replace S := S1; clear S1; obtain ⟨c0, c1, c2, c3, c4, c5, c6, c7, c8, c9, c10, c11, c12, c13⟩ := hcell _ _ S; clear v; rename World => v)
    | (go_at_call 40; with_reducible refine (f13 _ S).mono ?_; rintro e v1 ⟨rfl, S1⟩; clear c0 c1 c2 c3 c4 c5 c6 c7 c8 c9 c10 c11 c12 c13 f13; replace S := S1; clear S1; obtain ⟨c0, c1, c2, c3, c4, c5, c6, c7, c8, c9, c10, c11, c12, c13⟩ := hcell _ _ S; clear v; rename World => v)
    | (go_at_call 41; with_reducible refine (g1 _ S).mono ?_; rintro e v1 ⟨rfl, S1⟩; clear c0 c1 c2 c3 c4 c5 c6 c7 c8 c9 c10 c11 c12 c13 g1; replace S := S1; clear S1; obtain ⟨c0, c1, c2, c3, c4, c5, c6, c7, c8, c9, c10, c11, c12, c13⟩ := hcell _ _ S; clear v; rename World => v)
    | (go_at_call 42; with_reducible refine (g2 _ S).mono ?_; rintro e v1 ⟨rfl, S1⟩; clear c0 c1 c2 c3 c4 c5 c6 c7 c8 c9 c10 c11 c12 c13 g2; replace S := S1; clear S1; obtain ⟨c0, c1, c2, c3, c4, c5, c6, c7, c8, c9, c10, c11, c12, c13⟩ := hcell _ _ S; clear v; rename World => v)
    | (go_at_call 43; with_reducible refine (g3 _ S).mono ?_; rintro e v1 ⟨rfl, S1⟩; clear c0 c1 c2 c3 c4 c5 c6 c7 c8 c9 c10 c11 c12 c13 g3; replace S := S1; clear S1; obtain ⟨c0, c1, c2, c3, c4, c5, c6, c7, c8, c9, c10, c11, c12, c13⟩ := hcell _ _ S; clear v; rename World => v)
    | (go_at_call 44; with_reducible refine (g4 _ S).mono ?_; rintro e v1 ⟨rfl, S1⟩; clear c0 c1 c2 c3 c4 c5 c6 c7 c8 c9 c10 c11 c12 c13 g4; replace S := S1; clear S1; obtain ⟨c0, c1, c2, c3, c4, c5, c6, c7, c8, c9, c10, c11, c12, c13⟩ := hcell _ _ S; clear v; rename World => v)
    | (go_at_call 45; with_reducible refine (g5 _ S).mono ?_; rintro e v1 ⟨rfl, S1⟩; clear c0 c1 c2 c3 c4 c5 c6 c7 c8 c9 c10 c11 c12 c13 g5; replace S := S1; clear S1; obtain ⟨c0, c1, c2, c3, c4, c5, c6, c7, c8, c9, c10, c11, c12, c13⟩ := hcell _ _ S; clear v; rename World => v)
    | (go_at_call 46; with_reducible refine (g6 _ S).mono ?_; rintro e v1 ⟨rfl, S1⟩; clear c0 c1 c2 c3 c4 c5 c6 c7 c8 c9 c10 c11 c12 c13 g6; replace S := S1; clear S1; obtain ⟨c0, c1, c2, c3, c4, c5, c6, c7, c8, c9, c10, c11, c12, c13⟩ := hcell _ _ S; clear v; rename World => v)
    | (go_at_call 47; with_reducible refine (g7 _ S).mono ?_; rintro e v1 ⟨rfl, S1⟩; clear c0 c1 c2 c3 c4 c5 c6 c7 c8 c9 c10 c11 c12 c13 g7; replace S := S1; clear S1; obtain ⟨c0, c1, c2, c3, c4, c5, c6, c7, c8, c9, c10, c11, c12, c13⟩ := hcell _ _ S; clear v; rename World => v)
    | (go_at_call 48; with_reducible refine (g8 _ S).mono ?_; rintro e v1 ⟨rfl, S1⟩; clear c0 c1 c2 c3 c4 c5 c6 c7 c8 c9 c10 c11 c12 c13 g8; replace S := S1; clear S1; obtain ⟨c0, c1, c2, c3, c4, c5, c6, c7, c8, c9, c10, c11, c12, c13⟩ := hcell _ _ S; clear v; rename World => v)
    | (go_at_call 49; with_reducible refine (g9 _ S).mono ?_; rintro e v1 ⟨rfl, S1⟩; clear c0 c1 c2 c3 c4 c5 c6 c7 c8 c9 c10 c11 c12 c13 g9; replace S := S1; clear S1; obtain ⟨c0, c1, c2, c3, c4, c5, c6, c7, c8, c9, c10, c11, c12, c13⟩ := hcell _ _ S; clear v; rename World => v)
    | (go_at_call 50; with_reducible refine (g10 _ S).mono ?_; rintro e v1 ⟨rfl, S1⟩; clear c0 c1 c2 c3 c4 c5 c6 c7 c8 c9 c10 c11 c12 c13 g10; replace S := S1; clear S1; obtain ⟨c0, c1, c2, c3, c4, c5, c6, c7, c8, c9, c10, c11, c12, c13⟩ := hcell _ _ S; clear v; rename World => v)
    | (go_at_call 51; with_reducible refine (g11 _ S).mono ?_; rintro e v1 ⟨rfl, S1⟩; clear c0 c1 c2 c3 c4 c5 c6 c7 c8 c9 c10 c11 c12 c13 g11; replace S := S1; clear S1; obtain ⟨c0, c1, c2, c3, c4, c5, c6, c7, c8, c9, c10, c11, c12, c13⟩ := hcell _ _ S; clear v; rename World => v)
    | (go_at_call 52; with_reducible refine (g12 _ S).mono ?_; rintro e v1 ⟨rfl, S1⟩; clear c0 c1 c2 c3 c4 c5 c6 c7 c8 c9 c10 c11 c12 c13 g12; replace S := S1; clear S1; obtain ⟨c0, c1, c2, c3, c4, c5, c6, c7, c8, c9, c10, c11, c12, c13⟩ := hcell _ _ S; clear v; rename World => v)
    | (go_at_call 53; with_reducible refine (g13 _ S).mono ?_; rintro e v1 ⟨rfl, S1⟩; clear c0 c1 c2 c3 c4 c5 c6 c7 c8 c9 c10 c11 c12 c13 g13; replace S := S1; clear S1; obtain ⟨c0, c1, c2, c3, c4, c5, c6, c7, c8, c9, c10, c11, c12, c13⟩ := hcell _ _ S; clear v; rename World => v)
    | (go_at_call 54; with_reducible refine (m1 _ S).mono ?_; rintro e v1 ⟨rfl, S1⟩; clear c0 c1 c2 c3 c4 c5 c6 c7 c8 c9 c10 c11 c12 c13 m1; replace S := S1; clear S1; obtain ⟨c0, c1, c2, c3, c4, c5, c6, c7, c8, c9, c10, c11, c12, c13⟩ := hcell _ _ S; clear v; rename World => v)
    | (go_at_call 55; with_reducible refine (m2 _ S).mono ?_; rintro e v1 ⟨rfl, S1⟩; clear c0 c1 c2 c3 c4 c5 c6 c7 c8 c9 c10 c11 c12 c13 m2; replace S := S1; clear S1; obtain ⟨c0, c1, c2, c3, c4, c5, c6, c7, c8, c9, c10, c11, c12, c13⟩ := hcell _ _ S; clear v; rename World => v)
    | (go_at_call 56; with_reducible refine (m3 _ S).mono ?_; rintro e v1 ⟨rfl, S1⟩; clear c0 c1 c2 c3 c4 c5 c6 c7 c8 c9 c10 c11 c12 c13 m3; replace S := S1; clear S1; obtain ⟨c0, c1, c2, c3, c4, c5, c6, c7, c8, c9, c10, c11, c12, c13⟩ := hcell _ _ S; clear v; rename World => v)
    | (go_at_call 57; with_reducible refine (m4 _ S).mono ?_; rintro e v1 ⟨rfl, S1⟩; clear c0 c1 c2 c3 c4 c5 c6 c7 c8 c9 c10 c11 c12 c13 m4; replace S := S1; clear S1; obtain ⟨c0, c1, c2, c3, c4, c5, c6, c7, c8, c9, c10, c11, c12, c13⟩ := hcell _ _ S; clear v; rename World => v)
    | (go_at_call 58; with_reducible refine (m5 _ S).mono ?_; rintro e v1 ⟨rfl, S1⟩; clear c0 c1 c2 c3 c4 c5 c6 c7 c8 c9 c10 c11 c12 c13 m5; replace S := S1; clear S1; obtain ⟨c0, c1, c2, c3, c4, c5, c6, c7, c8, c9, c10, c11, c12, c13⟩ := hcell _ _ S; clear v; rename World => v)
    | (go_at_call 59; with_reducible refine (m6 _ S).mono ?_; rintro e v1 ⟨rfl, S1⟩; clear c0 c1 c2 c3 c4 c5 c6 c7 c8 c9 c10 c11 c12 c13 m6; replace S := S1; clear S1; obtain ⟨c0, c1, c2, c3, c4, c5, c6, c7, c8, c9, c10, c11, c12, c13⟩ := hcell _ _ S; clear v; rename World => v)
    | (go_at_call 60; with_reducible refine (m7 _ S).mono ?_; rintro e v1 ⟨rfl, S1⟩; clear c0 c1 c2 c3 c4 c5 c6 c7 c8 c9 c10 c11 c12 c13 m7; replace S := S1; clear S1; obtain ⟨c0, c1, c2, c3, c4, c5, c6, c7, c8, c9, c10, c11, c12, c13⟩ := hcell _ _ S; clear v; rename World => v)
    | (go_at_call 61; with_reducible refine (m8 _ S).mono ?_; rintro e v1 ⟨rfl, S1⟩; clear c0 c1 c2 c3 c4 c5 c6 c7 c8 c9 c10 c11 c12 c13 m8; replace S := S1; clear S1; obtain ⟨c0, c1, c2, c3, c4, c5, c6, c7, c8, c9, c10, c11, c12, c13⟩ := hcell _ _ S; clear v; rename World => v)
    | (go_at_call 62; with_reducible refine (m9 _ S).mono ?_; rintro e v1 ⟨rfl, S1⟩; clear c0 c1 c2 c3 c4 c5 c6 c7 c8 c9 c10 c11 c12 c13 m9; replace S := S1; clear S1; obtain ⟨c0, c1, c2, c3, c4, c5, c6, c7, c8, c9, c10, c11, c12, c13⟩ := hcell _ _ S; clear v; rename World => v)
    | (go_at_call 63; with_reducible refine (m10 _ S).mono ?_; rintro e v1 ⟨rfl, S1⟩; clear c0 c1 c2 c3 c4 c5 c6 c7 c8 c9 c10 c11 c12 c13 m10; replace S := S1; clear S1; obtain ⟨c0, c1, c2, c3, c4, c5, c6, c7, c8, c9, c10, c11, c12, c13⟩ := hcell _ _ S; clear v; rename World => v)
    | (go_at_call 64; with_reducible refine (m11 _ S).mono ?_; rintro e v1 ⟨rfl, S1⟩; clear c0 c1 c2 c3 c4 c5 c6 c7 c8 c9 c10 c11 c12 c13 m11; replace S := S1; clear S1; obtain ⟨c0, c1, c2, c3, c4, c5, c6, c7, c8, c9, c10, c11, c12, c13⟩ := hcell _ _ S; clear v; rename World => v)
    | (go_at_call 65; with_reducible refine (m12 _ S).mono ?_; rintro e v1 ⟨rfl, S1⟩; clear c0 c1 c2 c3 c4 c5 c6 c7 c8 c9 c10 c11 c12 c13 m12; replace S := S1; clear S1; obtain ⟨c0, c1, c2, c3, c4, c5, c6, c7, c8, c9, c10, c11, c12, c13⟩ := hcell _ _ S; clear v; rename World => v)
    | (go_at_call 66; with_reducible refine (m13 _ S).mono ?_; rintro e v1 ⟨rfl, S1⟩; clear c0 c1 c2 c3 c4 c5 c6 c7 c8 c9 c10 c11 c12 c13 m13; replace S := S1; clear S1; obtain ⟨c0, c1, c2, c3, c4, c5, c6, c7, c8, c9, c10, c11, c12, c13⟩ := hcell _ _ S; clear v; rename World => v))
  go_ret
  exact ⟨rfl, S.chg⟩
theorem Fld.none (p : Kp) (v : World) : Fld p Kd.none v := ⟨Lst.nil v p.te (p.m + 2) _, fun _ h => absurd h (Nat.not_lt_zero _)⟩
theorem Grn.none (p : Kp) (H : Nat) (v : World) : Grn p Kd.none H v := ⟨none3, Lst.nil v p.te (p.m + 2) _, fun _ h => absurd h (Nat.not_lt_zero _)⟩
end Go.Proofs.YthlhmfjopjikpaaDoor
