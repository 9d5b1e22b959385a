/- A row of package bits in memory; what New, isThere and Len do. -/
import Derived.Test.YtemcppakmcffgaaDoorBitA
import Derived.Test.YtemcppakmcffgaaDoorReadsAB
import Derived.Test.YtemcppakmcffgaaDoorChg
import Derived.OwnWalk
import Derived.Laws.AppendOwn
import Derived.OneCell
import Derived.Deep.AppendLies
namespace Go.Proofs.YtemcppakmcffgaaDoor
open Go.RowKit Go.BigFrame
set_option linter.unusedSimpArgs false
set_option linter.unusedVariables false
theorem info_byte : (Tryd.prog.info? 5).map (fun i => (i.zero, i.size, i.bytes)) = some (some (.int .u8 0), 1, 1) := by kernel_rfl

/-- A row of bits in memory: its struct r, its shelf sh, the slice u of its whole bytes. -/
structure Row (v : World) (r sh : Nat) (u : Value) (β : Nat → Int) (n : Nat) : Prop where
  box : S4m v r (.pointer (some ⟨sh, 0, none⟩)) (.int .i64 ((n / 8 : Nat) : Int)) (.int .u8 (nb β (8 * (n / 8)) (n % 8) * 2 ^ (8 - n % 8))) (.int .i64 ((8 - n % 8 : Nat) : Int))
  shelf : S1m v sh u
  own : v.ownsRow 0 5 1 u (n / 8) (vl (n / 8) (fun i => .int .u8 (nb β (8 * i) 8)))
  ne : r ≠ sh
  nu : ∀ g, u.ownBlock = some g → g ≠ r ∧ g ≠ sh
  bits : Bits β
  le : n ≤ 524288
/-- The blocks of a row. -/
def In (r sh : Nat) (u : Value) (k : Nat) : Prop := k = r ∨ k = sh ∨ u.ownBlock = some k
theorem Row.chg {v v' : World} {r sh : Nat} {u : Value} {β : Nat → Int} {n : Nat} {S : Nat → Prop} (R : Row v r sh u β n) (h : Chg S v v') (hS : ∀ k, In r sh u k → ¬ S k) : Row v' r sh u β n :=
  ⟨R.box.blk (h.block r R.box.lt (hS r (.inl rfl))), R.shelf.blk (h.block sh R.shelf.lt (hS sh (.inr (.inl rfl)))), own_chg R.own h (fun k hk => hS k (.inr (.inr hk))), R.ne, R.nu, R.bits, R.le⟩
theorem Row.later {v v' : World} {r sh : Nat} {u : Value} {β : Nat → Int} {n : Nat} (R : Row v r sh u β n) (h : Ext v v') : Row v' r sh u β n := R.chg (S := fun _ => False) (Chg.of h) (fun _ _ h => h)
theorem Row.lt {v : World} {r sh : Nat} {u : Value} {β : Nat → Int} {n : Nat} (R : Row v r sh u β n) : ∀ k, In r sh u k → k < v.heap.size := by
  rintro k (rfl | rfl | h)
  · exact R.box.lt
  · exact R.shelf.lt
  · exact (R.own.lt k h).2
/-- Other bits behind the last one. -/
theorem Row.congr {v : World} {r sh : Nat} {u : Value} {β γ : Nat → Int} {n : Nat} (R : Row v r sh u β n) (hγ : Bits γ) (h : ∀ i, i < n → β i = γ i) : Row v r sh u γ n := by
  have e : nb β (8 * (n / 8)) (n % 8) = nb γ (8 * (n / 8)) (n % 8) := nb_congr _ _ fun i h1 h2 => h i (by omega)
  have e2 : vl (n / 8) (fun i => Value.int .u8 (nb β (8 * i) 8)) = vl (n / 8) (fun i => .int .u8 (nb γ (8 * i) 8)) := vl_eq fun i hi => by rw [nb_congr _ _ fun j h1 h2 => h j (by omega)]
  have b := R.box
  have o := R.own
  rw [e] at b
  rw [e2] at o
  exact ⟨b, R.shelf, o, R.ne, R.nu, hγ, R.le⟩
/-- What a call that writes a row does to the world. -/
def Stp (w w' : World) (r sh : Nat) (u u' : Value) : Prop := Chg (In r sh u) w w' ∧ ∀ g, u'.ownBlock = some g → u.ownBlock = some g ∨ w.heap.size ≤ g
theorem Stp.refl (w : World) (r sh : Nat) (u : Value) : Stp w w r sh u u := ⟨Chg.refl _ _, fun _ h => .inl h⟩
theorem Stp.of {w w' : World} (r sh : Nat) (u : Value) (h : Ext w w') : Stp w w' r sh u u := ⟨Chg.of h, fun _ h => .inl h⟩
theorem Stp.trans {a b c : World} {r sh : Nat} {u u' u'' : Value} (h : Stp a b r sh u u') (k : Stp b c r sh u' u'') : Stp a c r sh u u'' := by
  refine ⟨h.1.trans k.1 ?_, fun g hg => ?_⟩
  · rintro i (rfl | rfl | hi)
    · exact .inl (.inl rfl)
    · exact .inl (.inr (.inl rfl))
    · exact (h.2 i hi).imp (fun e => .inr (.inr e)) id
  · rcases k.2 g hg with h1 | h1
    · exact h.2 g h1
    · exact .inr (Nat.le_trans h.1.size h1)
theorem Stp.over {W w w' : World} {r sh : Nat} {u u' : Value} (h : Stp w w' r sh u u') (e : Ext W w) (hr : ∀ k, In r sh u k → W.heap.size ≤ k) : Ext W w' ∧ ∀ k, In r sh u' k → W.heap.size ≤ k := by
  refine ⟨h.1.over e hr, ?_⟩
  rintro k (rfl | rfl | hk)
  · exact hr _ (.inl rfl)
  · exact hr _ (.inr (.inl rfl))
  · rcases h.2 k hk with h1 | h1
    · exact hr _ (.inr (.inr h1))
    · have := e.more; omega
set_option maxHeartbeats 1600000 in
theorem isThere_any (r : Nat) (p : Addr) (w : World) (h : w.cell? ⟨r, 0, none⟩ = some (.pointer (some p))) :
    Calls Tryd.prog 89 #[.pointer (some ⟨r, 0, none⟩)] w fun e w' => e = .returned (.bool true) ∧ w' = w := by
  go_enter Tryd.func89, Tryd.ntmps89
  go_wp2
  go_ret
  exact ⟨rfl, rfl⟩
theorem isThere_nil (w : World) : Calls Tryd.prog 89 #[.pointer none] w fun e w' => e = .returned (.bool false) ∧ w' = w := by
  go_enter Tryd.func89, Tryd.ntmps89
  go_wp2
  go_ret
  exact ⟨rfl, rfl⟩
theorem isThere_void (r : Nat) (w : World) (h : w.cell? ⟨r, 0, none⟩ = some (.pointer none)) :
    Calls Tryd.prog 89 #[.pointer (some ⟨r, 0, none⟩)] w fun e w' => e = .returned (.bool false) ∧ w' = w := by
  go_enter Tryd.func89, Tryd.ntmps89
  go_wp2
  go_ret
  exact ⟨rfl, rfl⟩
set_option maxHeartbeats 1600000 in
theorem len_any (r sh n : Nat) (u : Value) (β : Nat → Int) (w : World) (R : Row w r sh u β n) :
    Calls Tryd.prog 90 #[.pointer (some ⟨r, 0, none⟩)] w fun e w' => e = .returned (.int .i64 n) ∧ Ext w w' := by
  have EX := Ext.refl w
  have hle := R.le
  have B := R.box
  clear R
  obtain ⟨m, hm⟩ : ∃ m : Nat, n / 8 = m := ⟨_, rfl⟩
  obtain ⟨k, hk⟩ : ∃ k : Nat, 8 - n % 8 = k := ⟨_, rfl⟩
  rw [hm, hk] at B
  have HN : Hid (8 * ((m : Int) + 1) - (k : Int) = n) := show _ = _ by omega
  have hm1 : m ≤ 65536 := by omega
  have hk1 : k ≤ 8 := by omega
  clear hm hk hle
  have c0 := B.c0
  have c1 := B.c1
  have c3 := B.c3
  go_enter Tryd.func90, Tryd.ntmps90
  go_wp2_with (first | (go_at_call 89; with_reducible refine (isThere_any _ _ _ c0).mono ?_; rintro e w' ⟨rfl, rfl⟩))
  have g1 := fun x' : Grow w' => x'.ext.later c1
  have g3 := fun x' : Grow w' => x'.ext.later c3
  refine wp_region_grow (by kernel_rfl) (by kernel_rfl) ?_; (repeat (first | go_big_quiet_step (fail))); refine wpQuiet_nil ?_; rintro _ ⟨xq, rfl⟩; replace EX := Ext.trans EX xq.ext; generalize xq.out = v1 at *
  go_wp2
  go_ret
  exact ⟨by rw [← HN.out]; rfl, EX⟩
theorem new_any (w : World) : Calls Tryd.prog 76 #[] w fun e w' => e = .returned (.pointer (some ⟨w.heap.size + 1, 0, none⟩)) ∧ Ext w w' ∧ ∀ β, Bits β → Row w' (w.heap.size + 1) w.heap.size (.slice none 0 0) β 0 := by
  go_enter Tryd.func76, Tryd.ntmps76
  go_wp2
  go_ret
  refine ⟨rfl, ((Ext.refl w).alloc _).alloc _, fun β hb => ⟨S4m.new (by simp) rfl rfl ?_ rfl, (S1m.new rfl rfl).alloc _, World.ownsRow_nil _ _ _ _, by omega, by simp [Value.ownBlock], hb, by omega⟩⟩
  show some (Value.int .u8 0) = some (Value.int .u8 (nb β 0 0 * 2 ^ 8))
  rw [nb_zero, Int.zero_mul]
end Go.Proofs.YtemcppakmcffgaaDoor
