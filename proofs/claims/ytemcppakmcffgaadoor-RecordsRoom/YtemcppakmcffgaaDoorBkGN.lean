/- The given book: what is known while the lists of one kind grow. The given helpers fill, grow and marked, of books in which no list of that kind is. -/
import Derived.Test.YtemcppakmcffgaaDoorBookA
import Derived.Test.YtemcppakmcffgaaDoorBookB
import Derived.Deep.LoopGhost
import Derived.Deep.Light
namespace Go.Proofs.YtemcppakmcffgaaDoor
open Go.RowKit Go.BigFrame
set_option linter.unusedSimpArgs false
set_option linter.unusedVariables false
/-- The lists ahead of i are grown. -/
def Gro (p : Kp) (D : Kd) (w v : World) (i : Nat) (J : Nat → Value) : Prop :=
  Chg (KB D) w v ∧ Strips p D J v ∧ (∀ j, j < D.c → Lst v p.e p.m (D.S j) (D.L j) (fun _ => p.mark (D.N j))) ∧ ∀ j, j < i → Lst v p.e p.m (J j) (D.L j + 24) (fun _ => p.mark (D.N j)) ∧ ∀ b, (J j).ownBlock = some b → (D.S j).ownBlock = some b ∨ w.heap.size ≤ b
theorem Gro.start {p : Kp} {D : Kd} {w : World} (F : Fld p D w) : Gro p D w w 0 none3 := ⟨Chg.refl _ _, F.1, F.2, fun j hj => by omega⟩
theorem Gro.done {p : Kp} {D : Kd} {w v : World} {J : Nat → Value} (G : Gro p D w v D.c J) : Chg (KB D) w v ∧ Grn p D w.heap.size v :=
  ⟨G.1, J, G.2.1, fun i hi => ⟨G.2.2.1 i hi, (G.2.2.2 i hi).1, (G.2.2.2 i hi).2⟩⟩
/-- What may change while the list i grows. -/
def TW (D : Kd) (s i : Nat) (v0 : World) (b : Nat) : Prop := b = s ∨ (D.S i).ownBlock = some b ∨ v0.heap.size ≤ b
/-- The list i is under way. -/
structure Gri (p : Kp) (D : Kd) (s i : Nat) (J : Nat → Value) (v0 v : World) (k : Nat) (X : Value) : Prop where
  chg : Chg (TW D s i v0) v0 v
  strips : Strips p D (upJ J i X) v
  way : Way p D i v0.heap.size v X k
section
variable {p : Kp} {D : Kd} {s i k cap g cp : Nat} {J : Nat → Value} {w v0 v va v1 : World} {X : Value}
theorem nus (hs : Sound D) (hu : D.u = .slice (some ⟨s, 0, none⟩) D.c cap) {j b : Nat} (hj : j < D.c) (h : (D.S j).ownBlock = some b) : b ≠ s := fun e => hs.nu j b hj (by rw [hu, e]; rfl) h
theorem Gri.start (hs : Sound D) (hu : D.u = .slice (some ⟨s, 0, none⟩) D.c cap) (hi : i < D.c) (G : Gro p D w v0 i J) : Gri p D s i J v0 (v0.setCell ⟨s, i * (p.m + 2) + 1, none⟩ (D.S i)) 0 (D.S i) :=
  ⟨(Chg.refl _ v0).setCell (.inl (.inl rfl)) _, G.2.1.long hu hi _, Way.start ((G.2.2.1 i hi).skip (fun h => nus hs hu hi h rfl) _)⟩
theorem Gri.ne (hs : Sound D) (hu : D.u = .slice (some ⟨s, 0, none⟩) D.c cap) (hi : i < D.c) (hsv : s < v0.heap.size) (G : Gri p D s i J v0 v k X) : ¬ X.ownBlock = some s := fun h => by
  rcases G.way.at_ s h with h | h
  · exact nus hs hu hi h rfl
  · omega
theorem Gri.mid (hs : Sound D) (hu : D.u = .slice (some ⟨s, 0, none⟩) D.c cap) (hi : i < D.c) (hsv : s < v0.heap.size) (G : Gri p D s i J v0 v k X) (C : Chg (fun b => X.ownBlock = some b) v v1) :
    Chg (TW D s i v0) v0 v1 ∧ Strips p D (upJ J i X) v1 :=
  ⟨G.chg.trans C (fun b hb => .inl (by
    rcases G.way.at_ b hb with h | h
    · exact .inr (.inl h)
    · exact .inr (.inr h))), Lst.chg G.strips C (fun b hb h => by
    rw [hu] at hb
    simp only [Value.ownBlock, Option.some.injEq] at hb
    subst hb
    exact G.ne hs hu hi hsv h)⟩
theorem Gri.step (hm : 0 < p.m) (hs : Sound D) (hu : D.u = .slice (some ⟨s, 0, none⟩) D.c cap) (hi : i < D.c) (hsv : s < v0.heap.size) (G : Gri p D s i J v0 v k X) (E : Ext v va)
    (own : v1.ownsRow 0 p.e p.m (.slice (some ⟨g, 0, none⟩) (D.L i + k + 1) cp) (D.L i + k + 1) (ew p.m (D.L i + k) (fun _ => p.mark (D.N i)) ++ vl p.m (p.mark (D.N i))))
    (hat : (X = .slice (some ⟨g, 0, none⟩) (D.L i + k) cp ∧ va.grownBy v1 (some g)) ∨ (va.heap.size ≤ g ∧ va.grownBy v1 none)) :
    Gri p D s i J v0 (v1.setCell ⟨s, i * (p.m + 2) + 1, none⟩ (.slice (some ⟨g, 0, none⟩) (D.L i + k + 1) cp)) (k + 1) (.slice (some ⟨g, 0, none⟩) (D.L i + k + 1) cp) := by
  have C : Chg (fun b => X.ownBlock = some b) v v1 := by
    refine (Chg.of E).trans (T := fun b => X.ownBlock = some b) ?_ (fun b hb => .inl hb)
    rcases hat with ⟨hX, h⟩ | ⟨_, h⟩
    · exact Chg.grown h (fun b hb => by rw [hX]; exact hb)
    · exact Chg.grown h (fun b hb => by cases hb)
  obtain ⟨m1, m2⟩ := G.mid hs hu hi hsv C
  have W0 := G.way.chg (T := fun _ => False) (Chg.of E) (fun _ _ h => h)
  have hv := G.chg.size
  have W1 := W0.add hm (by have := E.more; omega) own hat
  have s1 := m2.long hu hi (.slice (some ⟨g, 0, none⟩) (D.L i + k + 1) cp)
  rw [upJ_twice] at s1
  refine ⟨m1.setCell (.inl (.inl rfl)) _, s1, W1.chg (T := fun b => b = s) (Chg.setCell (S := fun b => b = s) (Chg.refl _ v1) (.inl (Eq.refl s)) _) (fun b hb e => ?_)⟩
  rcases hb with hb | hb
  · exact nus hs hu hi hb e
  · omega
theorem Gri.done (hs : Sound D) (hu : D.u = .slice (some ⟨s, 0, none⟩) D.c cap) (hi : i < D.c) (hw : ∀ b, KB D b → b < w.heap.size) (G0 : Gro p D w v0 i J) (G : Gri p D s i J v0 v 24 X) : Gro p D w v (i + 1) (upJ J i X) := by
  have hwv := G0.1.size
  have away : ∀ j, j < D.c → j ≠ i → ∀ b, (D.S j).ownBlock = some b → ¬ TW D s i v0 b := fun j hj hne b hb h => by
    rcases h with h | h | h
    · exact nus hs hu hj hb h
    · exact hne (hs.inj j i b hj hi hb h)
    · have := hw b (.inr ⟨j, hj, hb⟩); omega
  refine ⟨G0.1.trans G.chg (fun b h => ?_), G.strips, fun j hj => ?_, fun j hj => ?_⟩
  · rcases h with h | h | h
    · subst h; exact .inl (.inl (by rw [hu]; rfl))
    · exact .inl (.inr ⟨i, hi, h⟩)
    · exact .inr (by omega)
  · by_cases e : j = i
    · subst e; exact G.way.short
    · exact (G0.2.2.1 j hj).chg G.chg (away j hj e)
  · unfold upJ
    by_cases e : j = i
    · rw [if_pos e, e]
      exact ⟨G.way.long, fun b hb => (G.way.at_ b hb).imp id (fun h => by omega)⟩
    · rw [if_neg e]
      obtain ⟨a1, a2⟩ := G0.2.2.2 j (by omega)
      refine ⟨a1.chg G.chg (fun b hb h => ?_), a2⟩
      rcases a2 b hb with h2 | h2
      · exact away j (by omega) e b h2 h
      · rcases h with h | h | h
        · have := hw s (.inl (by rw [hu]; rfl)); omega
        · have := hw b (.inr ⟨i, hi, h⟩); omega
        · have := a1.heap hb; omega
end
end Go.Proofs.YtemcppakmcffgaaDoor

namespace Go.Proofs.YtemcppakmcffgaaDoor
open Go.RowKit Go.BigFrame
set_option linter.unusedSimpArgs false
set_option linter.unusedVariables false
set_option maxHeartbeats 1600000 in
theorem fill_nil1 (a : Option Addr) (cap : Nat) (w : World) : Calls Tryd.prog 33 #[.slice a 0 cap] w fun e w' => e = .returned (.tuple #[]) ∧ w' = w := by
  go_enter Tryd.func33, Tryd.ntmps33
  go_upto_region 1 with fail
  go_loopg [2] 1 (fun gk iv wr => gk = 1 ∧ iv = .int .i64 0 ∧ wr = w)
  case atStart => exact ⟨rfl, rfl, rfl⟩
  case round =>
    obtain ⟨_, rfl, rfl⟩ := hrel
    go_wp2
    go_end0
    exact ⟨rfl, rfl⟩
set_option maxHeartbeats 1600000 in
theorem grow_nil1 (a : Option Addr) (cap : Nat) (w : World) : Calls Tryd.prog 46 #[.slice a 0 cap] w fun e w' => e = .returned (.tuple #[]) ∧ w' = w := by
  go_enter Tryd.func46, Tryd.ntmps46
  go_upto_region 1 with fail
  go_loopg [2] 1 (fun gk iv wr => gk = 1 ∧ iv = .int .i64 0 ∧ wr = w)
  case atStart => exact ⟨rfl, rfl, rfl⟩
  case round =>
    obtain ⟨_, rfl, rfl⟩ := hrel
    go_wp2
    go_end0
    exact ⟨rfl, rfl⟩
set_option maxHeartbeats 1600000 in
theorem marked_nil1 (a : Option Addr) (cap : Nat) (w : World) : Calls Tryd.prog 59 #[.slice a 0 cap] w fun e w' => e = .returned (.bool true) ∧ w' = w := by
  go_enter Tryd.func59, Tryd.ntmps59
  go_upto_region 2 with fail
  go_loopg [3] 1 (fun gk iv wr => gk = 1 ∧ iv = .int .i64 0 ∧ wr = w)
  case atStart => exact ⟨rfl, rfl, rfl⟩
  case round =>
    obtain ⟨_, rfl, rfl⟩ := hrel
    go_wp2
    go_ret
    exact ⟨rfl, rfl⟩
set_option maxHeartbeats 1600000 in
theorem fill_nil2 (a : Option Addr) (cap : Nat) (w : World) : Calls Tryd.prog 34 #[.slice a 0 cap] w fun e w' => e = .returned (.tuple #[]) ∧ w' = w := by
  go_enter Tryd.func34, Tryd.ntmps34
  go_upto_region 1 with fail
  go_loopg [2] 1 (fun gk iv wr => gk = 1 ∧ iv = .int .i64 0 ∧ wr = w)
  case atStart => exact ⟨rfl, rfl, rfl⟩
  case round =>
    obtain ⟨_, rfl, rfl⟩ := hrel
    go_wp2
    go_end0
    exact ⟨rfl, rfl⟩
set_option maxHeartbeats 1600000 in
theorem grow_nil2 (a : Option Addr) (cap : Nat) (w : World) : Calls Tryd.prog 47 #[.slice a 0 cap] w fun e w' => e = .returned (.tuple #[]) ∧ w' = w := by
  go_enter Tryd.func47, Tryd.ntmps47
  go_upto_region 1 with fail
  go_loopg [2] 1 (fun gk iv wr => gk = 1 ∧ iv = .int .i64 0 ∧ wr = w)
  case atStart => exact ⟨rfl, rfl, rfl⟩
  case round =>
    obtain ⟨_, rfl, rfl⟩ := hrel
    go_wp2
    go_end0
    exact ⟨rfl, rfl⟩
set_option maxHeartbeats 1600000 in
theorem marked_nil2 (a : Option Addr) (cap : Nat) (w : World) : Calls Tryd.prog 60 #[.slice a 0 cap] w fun e w' => e = .returned (.bool true) ∧ w' = w := by
  go_enter Tryd.func60, Tryd.ntmps60
  go_upto_region 2 with fail
  go_loopg [3] 1 (fun gk iv wr => gk = 1 ∧ iv = .int .i64 0 ∧ wr = w)
  case atStart => exact ⟨rfl, rfl, rfl⟩
  case round =>
    obtain ⟨_, rfl, rfl⟩ := hrel
    go_wp2
    go_ret
    exact ⟨rfl, rfl⟩
set_option maxHeartbeats 1600000 in
theorem fill_nil3 (a : Option Addr) (cap : Nat) (w : World) : Calls Tryd.prog 35 #[.slice a 0 cap] w fun e w' => e = .returned (.tuple #[]) ∧ w' = w := by
  go_enter Tryd.func35, Tryd.ntmps35
  go_upto_region 1 with fail
  go_loopg [2] 1 (fun gk iv wr => gk = 1 ∧ iv = .int .i64 0 ∧ wr = w)
  case atStart => exact ⟨rfl, rfl, rfl⟩
  case round =>
    obtain ⟨_, rfl, rfl⟩ := hrel
    go_wp2
    go_end0
    exact ⟨rfl, rfl⟩
set_option maxHeartbeats 1600000 in
theorem grow_nil3 (a : Option Addr) (cap : Nat) (w : World) : Calls Tryd.prog 48 #[.slice a 0 cap] w fun e w' => e = .returned (.tuple #[]) ∧ w' = w := by
  go_enter Tryd.func48, Tryd.ntmps48
  go_upto_region 1 with fail
  go_loopg [2] 1 (fun gk iv wr => gk = 1 ∧ iv = .int .i64 0 ∧ wr = w)
  case atStart => exact ⟨rfl, rfl, rfl⟩
  case round =>
    obtain ⟨_, rfl, rfl⟩ := hrel
    go_wp2
    go_end0
    exact ⟨rfl, rfl⟩
set_option maxHeartbeats 1600000 in
theorem marked_nil3 (a : Option Addr) (cap : Nat) (w : World) : Calls Tryd.prog 61 #[.slice a 0 cap] w fun e w' => e = .returned (.bool true) ∧ w' = w := by
  go_enter Tryd.func61, Tryd.ntmps61
  go_upto_region 2 with fail
  go_loopg [3] 1 (fun gk iv wr => gk = 1 ∧ iv = .int .i64 0 ∧ wr = w)
  case atStart => exact ⟨rfl, rfl, rfl⟩
  case round =>
    obtain ⟨_, rfl, rfl⟩ := hrel
    go_wp2
    go_ret
    exact ⟨rfl, rfl⟩
set_option maxHeartbeats 1600000 in
theorem fill_nil4 (a : Option Addr) (cap : Nat) (w : World) : Calls Tryd.prog 36 #[.slice a 0 cap] w fun e w' => e = .returned (.tuple #[]) ∧ w' = w := by
  go_enter Tryd.func36, Tryd.ntmps36
  go_upto_region 1 with fail
  go_loopg [2] 1 (fun gk iv wr => gk = 1 ∧ iv = .int .i64 0 ∧ wr = w)
  case atStart => exact ⟨rfl, rfl, rfl⟩
  case round =>
    obtain ⟨_, rfl, rfl⟩ := hrel
    go_wp2
    go_end0
    exact ⟨rfl, rfl⟩
set_option maxHeartbeats 1600000 in
theorem grow_nil4 (a : Option Addr) (cap : Nat) (w : World) : Calls Tryd.prog 49 #[.slice a 0 cap] w fun e w' => e = .returned (.tuple #[]) ∧ w' = w := by
  go_enter Tryd.func49, Tryd.ntmps49
  go_upto_region 1 with fail
  go_loopg [2] 1 (fun gk iv wr => gk = 1 ∧ iv = .int .i64 0 ∧ wr = w)
  case atStart => exact ⟨rfl, rfl, rfl⟩
  case round =>
    obtain ⟨_, rfl, rfl⟩ := hrel
    go_wp2
    go_end0
    exact ⟨rfl, rfl⟩
set_option maxHeartbeats 1600000 in
theorem marked_nil4 (a : Option Addr) (cap : Nat) (w : World) : Calls Tryd.prog 62 #[.slice a 0 cap] w fun e w' => e = .returned (.bool true) ∧ w' = w := by
  go_enter Tryd.func62, Tryd.ntmps62
  go_upto_region 2 with fail
  go_loopg [3] 1 (fun gk iv wr => gk = 1 ∧ iv = .int .i64 0 ∧ wr = w)
  case atStart => exact ⟨rfl, rfl, rfl⟩
  case round =>
    obtain ⟨_, rfl, rfl⟩ := hrel
    go_wp2
    go_ret
    exact ⟨rfl, rfl⟩
set_option maxHeartbeats 1600000 in
theorem fill_nil5 (a : Option Addr) (cap : Nat) (w : World) : Calls Tryd.prog 37 #[.slice a 0 cap] w fun e w' => e = .returned (.tuple #[]) ∧ w' = w := by
  go_enter Tryd.func37, Tryd.ntmps37
  go_upto_region 1 with fail
  go_loopg [2] 1 (fun gk iv wr => gk = 1 ∧ iv = .int .i64 0 ∧ wr = w)
  case atStart => exact ⟨rfl, rfl, rfl⟩
  case round =>
    obtain ⟨_, rfl, rfl⟩ := hrel
    go_wp2
    go_end0
    exact ⟨rfl, rfl⟩
set_option maxHeartbeats 1600000 in
theorem grow_nil5 (a : Option Addr) (cap : Nat) (w : World) : Calls Tryd.prog 50 #[.slice a 0 cap] w fun e w' => e = .returned (.tuple #[]) ∧ w' = w := by
  go_enter Tryd.func50, Tryd.ntmps50
  go_upto_region 1 with fail
  go_loopg [2] 1 (fun gk iv wr => gk = 1 ∧ iv = .int .i64 0 ∧ wr = w)
  case atStart => exact ⟨rfl, rfl, rfl⟩
  case round =>
    obtain ⟨_, rfl, rfl⟩ := hrel
    go_wp2
    go_end0
    exact ⟨rfl, rfl⟩
set_option maxHeartbeats 1600000 in
theorem marked_nil5 (a : Option Addr) (cap : Nat) (w : World) : Calls Tryd.prog 63 #[.slice a 0 cap] w fun e w' => e = .returned (.bool true) ∧ w' = w := by
  go_enter Tryd.func63, Tryd.ntmps63
  go_upto_region 2 with fail
  go_loopg [3] 1 (fun gk iv wr => gk = 1 ∧ iv = .int .i64 0 ∧ wr = w)
  case atStart => exact ⟨rfl, rfl, rfl⟩
  case round =>
    obtain ⟨_, rfl, rfl⟩ := hrel
    go_wp2
    go_ret
    exact ⟨rfl, rfl⟩
set_option maxHeartbeats 1600000 in
theorem fill_nil6 (a : Option Addr) (cap : Nat) (w : World) : Calls Tryd.prog 38 #[.slice a 0 cap] w fun e w' => e = .returned (.tuple #[]) ∧ w' = w := by
  go_enter Tryd.func38, Tryd.ntmps38
  go_upto_region 1 with fail
  go_loopg [2] 1 (fun gk iv wr => gk = 1 ∧ iv = .int .i64 0 ∧ wr = w)
  case atStart => exact ⟨rfl, rfl, rfl⟩
  case round =>
    obtain ⟨_, rfl, rfl⟩ := hrel
    go_wp2
    go_end0
    exact ⟨rfl, rfl⟩
set_option maxHeartbeats 1600000 in
theorem grow_nil6 (a : Option Addr) (cap : Nat) (w : World) : Calls Tryd.prog 51 #[.slice a 0 cap] w fun e w' => e = .returned (.tuple #[]) ∧ w' = w := by
  go_enter Tryd.func51, Tryd.ntmps51
  go_upto_region 1 with fail
  go_loopg [2] 1 (fun gk iv wr => gk = 1 ∧ iv = .int .i64 0 ∧ wr = w)
  case atStart => exact ⟨rfl, rfl, rfl⟩
  case round =>
    obtain ⟨_, rfl, rfl⟩ := hrel
    go_wp2
    go_end0
    exact ⟨rfl, rfl⟩
set_option maxHeartbeats 1600000 in
theorem marked_nil6 (a : Option Addr) (cap : Nat) (w : World) : Calls Tryd.prog 64 #[.slice a 0 cap] w fun e w' => e = .returned (.bool true) ∧ w' = w := by
  go_enter Tryd.func64, Tryd.ntmps64
  go_upto_region 2 with fail
  go_loopg [3] 1 (fun gk iv wr => gk = 1 ∧ iv = .int .i64 0 ∧ wr = w)
  case atStart => exact ⟨rfl, rfl, rfl⟩
  case round =>
    obtain ⟨_, rfl, rfl⟩ := hrel
    go_wp2
    go_ret
    exact ⟨rfl, rfl⟩
set_option maxHeartbeats 1600000 in
theorem fill_nil7 (a : Option Addr) (cap : Nat) (w : World) : Calls Tryd.prog 39 #[.slice a 0 cap] w fun e w' => e = .returned (.tuple #[]) ∧ w' = w := by
  go_enter Tryd.func39, Tryd.ntmps39
  go_upto_region 1 with fail
  go_loopg [2] 1 (fun gk iv wr => gk = 1 ∧ iv = .int .i64 0 ∧ wr = w)
  case atStart => exact ⟨rfl, rfl, rfl⟩
  case round =>
    obtain ⟨_, rfl, rfl⟩ := hrel
    go_wp2
    go_end0
    exact ⟨rfl, rfl⟩
set_option maxHeartbeats 1600000 in
theorem grow_nil7 (a : Option Addr) (cap : Nat) (w : World) : Calls Tryd.prog 52 #[.slice a 0 cap] w fun e w' => e = .returned (.tuple #[]) ∧ w' = w := by
  go_enter Tryd.func52, Tryd.ntmps52
  go_upto_region 1 with fail
  go_loopg [2] 1 (fun gk iv wr => gk = 1 ∧ iv = .int .i64 0 ∧ wr = w)
  case atStart => exact ⟨rfl, rfl, rfl⟩
  case round =>
    obtain ⟨_, rfl, rfl⟩ := hrel
    go_wp2
    go_end0
    exact ⟨rfl, rfl⟩
set_option maxHeartbeats 1600000 in
theorem marked_nil7 (a : Option Addr) (cap : Nat) (w : World) : Calls Tryd.prog 65 #[.slice a 0 cap] w fun e w' => e = .returned (.bool true) ∧ w' = w := by
  go_enter Tryd.func65, Tryd.ntmps65
  go_upto_region 2 with fail
  go_loopg [3] 1 (fun gk iv wr => gk = 1 ∧ iv = .int .i64 0 ∧ wr = w)
  case atStart => exact ⟨rfl, rfl, rfl⟩
  case round =>
    obtain ⟨_, rfl, rfl⟩ := hrel
    go_wp2
    go_ret
    exact ⟨rfl, rfl⟩
set_option maxHeartbeats 1600000 in
theorem fill_nil8 (a : Option Addr) (cap : Nat) (w : World) : Calls Tryd.prog 40 #[.slice a 0 cap] w fun e w' => e = .returned (.tuple #[]) ∧ w' = w := by
  go_enter Tryd.func40, Tryd.ntmps40
  go_upto_region 1 with fail
  go_loopg [2] 1 (fun gk iv wr => gk = 1 ∧ iv = .int .i64 0 ∧ wr = w)
  case atStart => exact ⟨rfl, rfl, rfl⟩
  case round =>
    obtain ⟨_, rfl, rfl⟩ := hrel
    go_wp2
    go_end0
    exact ⟨rfl, rfl⟩
set_option maxHeartbeats 1600000 in
theorem grow_nil8 (a : Option Addr) (cap : Nat) (w : World) : Calls Tryd.prog 53 #[.slice a 0 cap] w fun e w' => e = .returned (.tuple #[]) ∧ w' = w := by
  go_enter Tryd.func53, Tryd.ntmps53
  go_upto_region 1 with fail
  go_loopg [2] 1 (fun gk iv wr => gk = 1 ∧ iv = .int .i64 0 ∧ wr = w)
  case atStart => exact ⟨rfl, rfl, rfl⟩
  case round =>
    obtain ⟨_, rfl, rfl⟩ := hrel
    go_wp2
    go_end0
    exact ⟨rfl, rfl⟩
set_option maxHeartbeats 1600000 in
theorem marked_nil8 (a : Option Addr) (cap : Nat) (w : World) : Calls Tryd.prog 66 #[.slice a 0 cap] w fun e w' => e = .returned (.bool true) ∧ w' = w := by
  go_enter Tryd.func66, Tryd.ntmps66
  go_upto_region 2 with fail
  go_loopg [3] 1 (fun gk iv wr => gk = 1 ∧ iv = .int .i64 0 ∧ wr = w)
  case atStart => exact ⟨rfl, rfl, rfl⟩
  case round =>
    obtain ⟨_, rfl, rfl⟩ := hrel
    go_wp2
    go_ret
    exact ⟨rfl, rfl⟩
set_option maxHeartbeats 1600000 in
theorem fill_nil9 (a : Option Addr) (cap : Nat) (w : World) : Calls Tryd.prog 41 #[.slice a 0 cap] w fun e w' => e = .returned (.tuple #[]) ∧ w' = w := by
  go_enter Tryd.func41, Tryd.ntmps41
  go_upto_region 1 with fail
  go_loopg [2] 1 (fun gk iv wr => gk = 1 ∧ iv = .int .i64 0 ∧ wr = w)
  case atStart => exact ⟨rfl, rfl, rfl⟩
  case round =>
    obtain ⟨_, rfl, rfl⟩ := hrel
    go_wp2
    go_end0
    exact ⟨rfl, rfl⟩
set_option maxHeartbeats 1600000 in
theorem grow_nil9 (a : Option Addr) (cap : Nat) (w : World) : Calls Tryd.prog 54 #[.slice a 0 cap] w fun e w' => e = .returned (.tuple #[]) ∧ w' = w := by
  go_enter Tryd.func54, Tryd.ntmps54
  go_upto_region 1 with fail
  go_loopg [2] 1 (fun gk iv wr => gk = 1 ∧ iv = .int .i64 0 ∧ wr = w)
  case atStart => exact ⟨rfl, rfl, rfl⟩
  case round =>
    obtain ⟨_, rfl, rfl⟩ := hrel
    go_wp2
    go_end0
    exact ⟨rfl, rfl⟩
set_option maxHeartbeats 1600000 in
theorem marked_nil9 (a : Option Addr) (cap : Nat) (w : World) : Calls Tryd.prog 67 #[.slice a 0 cap] w fun e w' => e = .returned (.bool true) ∧ w' = w := by
  go_enter Tryd.func67, Tryd.ntmps67
  go_upto_region 2 with fail
  go_loopg [3] 1 (fun gk iv wr => gk = 1 ∧ iv = .int .i64 0 ∧ wr = w)
  case atStart => exact ⟨rfl, rfl, rfl⟩
  case round =>
    obtain ⟨_, rfl, rfl⟩ := hrel
    go_wp2
    go_ret
    exact ⟨rfl, rfl⟩
set_option maxHeartbeats 1600000 in
theorem fill_nil10 (a : Option Addr) (cap : Nat) (w : World) : Calls Tryd.prog 42 #[.slice a 0 cap] w fun e w' => e = .returned (.tuple #[]) ∧ w' = w := by
  go_enter Tryd.func42, Tryd.ntmps42
  go_upto_region 1 with fail
  go_loopg [2] 1 (fun gk iv wr => gk = 1 ∧ iv = .int .i64 0 ∧ wr = w)
  case atStart => exact ⟨rfl, rfl, rfl⟩
  case round =>
    obtain ⟨_, rfl, rfl⟩ := hrel
    go_wp2
    go_end0
    exact ⟨rfl, rfl⟩
set_option maxHeartbeats 1600000 in
theorem grow_nil10 (a : Option Addr) (cap : Nat) (w : World) : Calls Tryd.prog 55 #[.slice a 0 cap] w fun e w' => e = .returned (.tuple #[]) ∧ w' = w := by
  go_enter Tryd.func55, Tryd.ntmps55
  go_upto_region 1 with fail
  go_loopg [2] 1 (fun gk iv wr => gk = 1 ∧ iv = .int .i64 0 ∧ wr = w)
  case atStart => exact ⟨rfl, rfl, rfl⟩
  case round =>
    obtain ⟨_, rfl, rfl⟩ := hrel
    go_wp2
    go_end0
    exact ⟨rfl, rfl⟩
set_option maxHeartbeats 1600000 in
theorem marked_nil10 (a : Option Addr) (cap : Nat) (w : World) : Calls Tryd.prog 68 #[.slice a 0 cap] w fun e w' => e = .returned (.bool true) ∧ w' = w := by
  go_enter Tryd.func68, Tryd.ntmps68
  go_upto_region 2 with fail
  go_loopg [3] 1 (fun gk iv wr => gk = 1 ∧ iv = .int .i64 0 ∧ wr = w)
  case atStart => exact ⟨rfl, rfl, rfl⟩
  case round =>
    obtain ⟨_, rfl, rfl⟩ := hrel
    go_wp2
    go_ret
    exact ⟨rfl, rfl⟩
set_option maxHeartbeats 1600000 in
theorem fill_nil11 (a : Option Addr) (cap : Nat) (w : World) : Calls Tryd.prog 43 #[.slice a 0 cap] w fun e w' => e = .returned (.tuple #[]) ∧ w' = w := by
  go_enter Tryd.func43, Tryd.ntmps43
  go_upto_region 1 with fail
  go_loopg [2] 1 (fun gk iv wr => gk = 1 ∧ iv = .int .i64 0 ∧ wr = w)
  case atStart => exact ⟨rfl, rfl, rfl⟩
  case round =>
    obtain ⟨_, rfl, rfl⟩ := hrel
    go_wp2
    go_end0
    exact ⟨rfl, rfl⟩
set_option maxHeartbeats 1600000 in
theorem grow_nil11 (a : Option Addr) (cap : Nat) (w : World) : Calls Tryd.prog 56 #[.slice a 0 cap] w fun e w' => e = .returned (.tuple #[]) ∧ w' = w := by
  go_enter Tryd.func56, Tryd.ntmps56
  go_upto_region 1 with fail
  go_loopg [2] 1 (fun gk iv wr => gk = 1 ∧ iv = .int .i64 0 ∧ wr = w)
  case atStart => exact ⟨rfl, rfl, rfl⟩
  case round =>
    obtain ⟨_, rfl, rfl⟩ := hrel
    go_wp2
    go_end0
    exact ⟨rfl, rfl⟩
set_option maxHeartbeats 1600000 in
theorem marked_nil11 (a : Option Addr) (cap : Nat) (w : World) : Calls Tryd.prog 69 #[.slice a 0 cap] w fun e w' => e = .returned (.bool true) ∧ w' = w := by
  go_enter Tryd.func69, Tryd.ntmps69
  go_upto_region 2 with fail
  go_loopg [3] 1 (fun gk iv wr => gk = 1 ∧ iv = .int .i64 0 ∧ wr = w)
  case atStart => exact ⟨rfl, rfl, rfl⟩
  case round =>
    obtain ⟨_, rfl, rfl⟩ := hrel
    go_wp2
    go_ret
    exact ⟨rfl, rfl⟩
set_option maxHeartbeats 1600000 in
theorem fill_nil12 (a : Option Addr) (cap : Nat) (w : World) : Calls Tryd.prog 44 #[.slice a 0 cap] w fun e w' => e = .returned (.tuple #[]) ∧ w' = w := by
  go_enter Tryd.func44, Tryd.ntmps44
  go_upto_region 1 with fail
  go_loopg [2] 1 (fun gk iv wr => gk = 1 ∧ iv = .int .i64 0 ∧ wr = w)
  case atStart => exact ⟨rfl, rfl, rfl⟩
  case round =>
    obtain ⟨_, rfl, rfl⟩ := hrel
    go_wp2
    go_end0
    exact ⟨rfl, rfl⟩
set_option maxHeartbeats 1600000 in
theorem grow_nil12 (a : Option Addr) (cap : Nat) (w : World) : Calls Tryd.prog 57 #[.slice a 0 cap] w fun e w' => e = .returned (.tuple #[]) ∧ w' = w := by
  go_enter Tryd.func57, Tryd.ntmps57
  go_upto_region 1 with fail
  go_loopg [2] 1 (fun gk iv wr => gk = 1 ∧ iv = .int .i64 0 ∧ wr = w)
  case atStart => exact ⟨rfl, rfl, rfl⟩
  case round =>
    obtain ⟨_, rfl, rfl⟩ := hrel
    go_wp2
    go_end0
    exact ⟨rfl, rfl⟩
set_option maxHeartbeats 1600000 in
theorem marked_nil12 (a : Option Addr) (cap : Nat) (w : World) : Calls Tryd.prog 70 #[.slice a 0 cap] w fun e w' => e = .returned (.bool true) ∧ w' = w := by
  go_enter Tryd.func70, Tryd.ntmps70
  go_upto_region 2 with fail
  go_loopg [3] 1 (fun gk iv wr => gk = 1 ∧ iv = .int .i64 0 ∧ wr = w)
  case atStart => exact ⟨rfl, rfl, rfl⟩
  case round =>
    obtain ⟨_, rfl, rfl⟩ := hrel
    go_wp2
    go_ret
    exact ⟨rfl, rfl⟩
set_option maxHeartbeats 1600000 in
theorem fill_nil13 (a : Option Addr) (cap : Nat) (w : World) : Calls Tryd.prog 45 #[.slice a 0 cap] w fun e w' => e = .returned (.tuple #[]) ∧ w' = w := by
  go_enter Tryd.func45, Tryd.ntmps45
  go_upto_region 1 with fail
  go_loopg [2] 1 (fun gk iv wr => gk = 1 ∧ iv = .int .i64 0 ∧ wr = w)
  case atStart => exact ⟨rfl, rfl, rfl⟩
  case round =>
    obtain ⟨_, rfl, rfl⟩ := hrel
    go_wp2
    go_end0
    exact ⟨rfl, rfl⟩
set_option maxHeartbeats 1600000 in
theorem grow_nil13 (a : Option Addr) (cap : Nat) (w : World) : Calls Tryd.prog 58 #[.slice a 0 cap] w fun e w' => e = .returned (.tuple #[]) ∧ w' = w := by
  go_enter Tryd.func58, Tryd.ntmps58
  go_upto_region 1 with fail
  go_loopg [2] 1 (fun gk iv wr => gk = 1 ∧ iv = .int .i64 0 ∧ wr = w)
  case atStart => exact ⟨rfl, rfl, rfl⟩
  case round =>
    obtain ⟨_, rfl, rfl⟩ := hrel
    go_wp2
    go_end0
    exact ⟨rfl, rfl⟩
set_option maxHeartbeats 1600000 in
theorem marked_nil13 (a : Option Addr) (cap : Nat) (w : World) : Calls Tryd.prog 71 #[.slice a 0 cap] w fun e w' => e = .returned (.bool true) ∧ w' = w := by
  go_enter Tryd.func71, Tryd.ntmps71
  go_upto_region 2 with fail
  go_loopg [3] 1 (fun gk iv wr => gk = 1 ∧ iv = .int .i64 0 ∧ wr = w)
  case atStart => exact ⟨rfl, rfl, rfl⟩
  case round =>
    obtain ⟨_, rfl, rfl⟩ := hrel
    go_wp2
    go_ret
    exact ⟨rfl, rfl⟩
/-- Worlds in which one cell stands as it stood. -/
def StayC (b o : Nat) (w : World) : Type := { w' : World // ∀ u, w.cell? ⟨b, o, none⟩ = some u → w'.cell? ⟨b, o, none⟩ = some u }
@[go_sem] theorem StayC.all {b o : Nat} {w : World} {p : Prop} : (∀ _ : StayC b o w, p) ↔ p := ⟨fun h => h ⟨w, fun _ h => h⟩, fun h _ => h⟩
def StayC.out {b o : Nat} {w : World} (x : StayC b o w) : World := x.1
theorem StayC.cell {b o : Nat} {w : World} (x : StayC b o w) {u : Value} (hc : w.cell? ⟨b, o, none⟩ = some u) : x.out.cell? ⟨b, o, none⟩ = some u := x.2 u hc
theorem nextB_any (k n : Nat) (w : World) (hn : n ≤ 200) (c : w.cell? ⟨k, 0, none⟩ = some (.int .i64 n)) (fz : w.frozen? ⟨k, 0, none⟩ = false) (lt : k < w.heap.size) :
    Calls Tryd.prog 30 #[.pointer (some ⟨k, 0, none⟩)] w fun e w' => e = .returned (.int .i64 ((n : Int) + 1)) ∧ w' = w.setCell ⟨k, 0, none⟩ (.int .i64 ((n : Int) + 1)) := by
  go_enter Tryd.func30, Tryd.ntmps30
  go_wp2
  go_ret
  exact ⟨rfl, rfl⟩
end Go.Proofs.YtemcppakmcffgaaDoor
