/- What the functions of package fixeds that tell whole ones do, called at any arguments where the package's table is as it was laid: whole, Floor, Ceil, Round, Trunc. -/
import Derived.Test.YtbkifcfienhkaaaDoorFixA
import Derived.Test.YtbkifcfienhkaaaDoorWideG
namespace Go.Proofs.YtbkifcfienhkaaaDoor
open Go.RowKit Go.BigFrame
set_option linter.unusedSimpArgs false
set_option linter.unusedVariables false
/-- The package's table, as it was laid. -/
def Laid (w : World) : Prop := w.cell? ⟨0, 0, none⟩ = some (.int .i64 0) ∧ w.cell? ⟨0, 1, none⟩ = some (.int .i64 0) ∧ w.cell? ⟨0, 2, none⟩ = some (.int .i64 65535) ∧ w.cell? ⟨0, 3, none⟩ = some (.int .i64 65535) ∧
  w.cell? ⟨0, 4, none⟩ = some (.int .i64 32768) ∧ w.cell? ⟨0, 5, none⟩ = some (.int .i64 32768) ∧ w.cell? ⟨0, 6, none⟩ = some (.int .i64 65535) ∧ w.cell? ⟨0, 7, none⟩ = some (.int .i64 0)
theorem Laid.later {w w' : World} (L : Laid w) (E : Ext w w') : Laid w' := by
  obtain ⟨L0, L1, L2, L3, L4, L5, L6, L7⟩ := L
  exact ⟨E.later L0, E.later L1, E.later L2, E.later L3, E.later L4, E.later L5, E.later L6, E.later L7⟩
/-- The whole one not above. -/
def dn (n : Int) : Int := n - n % 65536
theorem fits_up {a u : Int} (ha : In32 a) (h0 : 0 ≤ u) (h1 : u ≤ 65535) : In64 (a + u) ∧ In64 (a + u - (a + u) % 65536) := by unfold In32 In64 at *; omega
set_option maxHeartbeats 4000000 in
theorem whole_floor_neg (a q r s : Int) (ha : a < 0) (h0 : wrap64 a = a) (hs : wrap64 (a - r) = s) (w : World) (L : Laid w) (OF : ∀ w, Calls Tryd.prog 21 #[.int .i64 a] w fun e w' => e = .returned (.agg #[.int .i64 (hi (a)), .int .u64 (lo (a))]) ∧ Ext w w')
    (FL : ∀ w, Calls Tryd.prog 61 #[(.agg #[.int .i64 (hi (a)), .int .u64 (lo (a))]), .int .i64 65536] w fun e w' => e = .returned (.tuple #[(.agg #[.int .i64 (hi (q)), .int .u64 (lo (q))]), .int .i64 r, .int .i64 0]) ∧ Ext w w')
    (ST : ∀ w, Calls Tryd.prog 26 #[.int .i64 s] w fun e w' => e = .returned (.int .i32 (held s)) ∧ Ext w w') :
    Calls Tryd.prog 51 #[.int .i32 a, .int .i64 0] w fun e w' => e = .returned (.int .i32 (held s)) ∧ Ext w w' := by
  have EX := Ext.refl w
  obtain ⟨L0, L1, L2, L3, L4, L5, L6, L7⟩ := L
  go_enter Tryd.func51, Tryd.ntmps51
  go_upto_region 6 with (first | (go_at_call 21; with_reducible refine (OF _).mono ?_; rintro e v1 ⟨rfl, hb⟩; replace EX := Ext.trans EX hb; clear hb) | (go_at_call 61; with_reducible refine (FL _).mono ?_; rintro e v1 ⟨rfl, hb⟩; replace EX := Ext.trans EX hb; clear hb))
  refine rebase (G := fun w' => Code.wp _ _ _ _ w') _ (fun v1 => Ext w v1) (by repeat (first | with_reducible exact EX | with_reducible refine Ext.alloc ?_ _ | with_reducible refine Ext.drew ?_ | with_reducible refine Ext.drewN ?_ _ | with_reducible refine Ext.setCell ?_ (by first | (simp; done) | omega | (dsimp only; omega)) _)) ?_; clear EX; intro v1 EX
  go_wp2_with (first | (go_at_call 26; with_reducible refine (ST _).mono ?_; rintro e v1 ⟨rfl, hb⟩; replace EX := Ext.trans EX hb; clear hb))
  go_ret
  exact ⟨rfl, EX⟩
set_option maxHeartbeats 4000000 in
theorem whole_floor_pos (a q r s : Int) (ha : ¬ a < 0) (h0 : wrap64 a = a) (hs : wrap64 (a - r) = s) (w : World) (L : Laid w) (OF : ∀ w, Calls Tryd.prog 21 #[.int .i64 a] w fun e w' => e = .returned (.agg #[.int .i64 (hi (a)), .int .u64 (lo (a))]) ∧ Ext w w')
    (FL : ∀ w, Calls Tryd.prog 61 #[(.agg #[.int .i64 (hi (a)), .int .u64 (lo (a))]), .int .i64 65536] w fun e w' => e = .returned (.tuple #[(.agg #[.int .i64 (hi (q)), .int .u64 (lo (q))]), .int .i64 r, .int .i64 0]) ∧ Ext w w')
    (ST : ∀ w, Calls Tryd.prog 26 #[.int .i64 s] w fun e w' => e = .returned (.int .i32 (held s)) ∧ Ext w w') :
    Calls Tryd.prog 51 #[.int .i32 a, .int .i64 0] w fun e w' => e = .returned (.int .i32 (held s)) ∧ Ext w w' := by
  have EX := Ext.refl w
  obtain ⟨L0, L1, L2, L3, L4, L5, L6, L7⟩ := L
  go_enter Tryd.func51, Tryd.ntmps51
  go_upto_region 6 with (first | (go_at_call 21; with_reducible refine (OF _).mono ?_; rintro e v1 ⟨rfl, hb⟩; replace EX := Ext.trans EX hb; clear hb) | (go_at_call 61; with_reducible refine (FL _).mono ?_; rintro e v1 ⟨rfl, hb⟩; replace EX := Ext.trans EX hb; clear hb))
  refine rebase (G := fun w' => Code.wp _ _ _ _ w') _ (fun v1 => Ext w v1) (by repeat (first | with_reducible exact EX | with_reducible refine Ext.alloc ?_ _ | with_reducible refine Ext.drew ?_ | with_reducible refine Ext.drewN ?_ _ | with_reducible refine Ext.setCell ?_ (by first | (simp; done) | omega | (dsimp only; omega)) _)) ?_; clear EX; intro v1 EX
  go_wp2_with (first | (go_at_call 26; with_reducible refine (ST _).mono ?_; rintro e v1 ⟨rfl, hb⟩; replace EX := Ext.trans EX hb; clear hb))
  go_ret
  exact ⟨rfl, EX⟩
set_option maxHeartbeats 4000000 in
theorem whole_ceil_neg (a n q r s : Int) (ha : a < 0) (h0 : wrap64 a = a) (hn : wrap64 (a + 65535) = n) (hs : wrap64 (n - r) = s) (w : World) (L : Laid w) (OF : ∀ w, Calls Tryd.prog 21 #[.int .i64 n] w fun e w' => e = .returned (.agg #[.int .i64 (hi (n)), .int .u64 (lo (n))]) ∧ Ext w w')
    (FL : ∀ w, Calls Tryd.prog 61 #[(.agg #[.int .i64 (hi (n)), .int .u64 (lo (n))]), .int .i64 65536] w fun e w' => e = .returned (.tuple #[(.agg #[.int .i64 (hi (q)), .int .u64 (lo (q))]), .int .i64 r, .int .i64 0]) ∧ Ext w w')
    (ST : ∀ w, Calls Tryd.prog 26 #[.int .i64 s] w fun e w' => e = .returned (.int .i32 (held s)) ∧ Ext w w') :
    Calls Tryd.prog 51 #[.int .i32 a, .int .i64 1] w fun e w' => e = .returned (.int .i32 (held s)) ∧ Ext w w' := by
  have EX := Ext.refl w
  obtain ⟨L0, L1, L2, L3, L4, L5, L6, L7⟩ := L
  go_enter Tryd.func51, Tryd.ntmps51
  go_upto_region 6 with (first | (go_at_call 21; with_reducible refine (OF _).mono ?_; rintro e v1 ⟨rfl, hb⟩; replace EX := Ext.trans EX hb; clear hb) | (go_at_call 61; with_reducible refine (FL _).mono ?_; rintro e v1 ⟨rfl, hb⟩; replace EX := Ext.trans EX hb; clear hb))
  refine rebase (G := fun w' => Code.wp _ _ _ _ w') _ (fun v1 => Ext w v1) (by repeat (first | with_reducible exact EX | with_reducible refine Ext.alloc ?_ _ | with_reducible refine Ext.drew ?_ | with_reducible refine Ext.drewN ?_ _ | with_reducible refine Ext.setCell ?_ (by first | (simp; done) | omega | (dsimp only; omega)) _)) ?_; clear EX; intro v1 EX
  go_wp2_with (first | (go_at_call 26; with_reducible refine (ST _).mono ?_; rintro e v1 ⟨rfl, hb⟩; replace EX := Ext.trans EX hb; clear hb))
  go_ret
  exact ⟨rfl, EX⟩
set_option maxHeartbeats 4000000 in
theorem whole_ceil_pos (a n q r s : Int) (ha : ¬ a < 0) (h0 : wrap64 a = a) (hn : wrap64 (a + 65535) = n) (hs : wrap64 (n - r) = s) (w : World) (L : Laid w) (OF : ∀ w, Calls Tryd.prog 21 #[.int .i64 n] w fun e w' => e = .returned (.agg #[.int .i64 (hi (n)), .int .u64 (lo (n))]) ∧ Ext w w')
    (FL : ∀ w, Calls Tryd.prog 61 #[(.agg #[.int .i64 (hi (n)), .int .u64 (lo (n))]), .int .i64 65536] w fun e w' => e = .returned (.tuple #[(.agg #[.int .i64 (hi (q)), .int .u64 (lo (q))]), .int .i64 r, .int .i64 0]) ∧ Ext w w')
    (ST : ∀ w, Calls Tryd.prog 26 #[.int .i64 s] w fun e w' => e = .returned (.int .i32 (held s)) ∧ Ext w w') :
    Calls Tryd.prog 51 #[.int .i32 a, .int .i64 1] w fun e w' => e = .returned (.int .i32 (held s)) ∧ Ext w w' := by
  have EX := Ext.refl w
  obtain ⟨L0, L1, L2, L3, L4, L5, L6, L7⟩ := L
  go_enter Tryd.func51, Tryd.ntmps51
  go_upto_region 6 with (first | (go_at_call 21; with_reducible refine (OF _).mono ?_; rintro e v1 ⟨rfl, hb⟩; replace EX := Ext.trans EX hb; clear hb) | (go_at_call 61; with_reducible refine (FL _).mono ?_; rintro e v1 ⟨rfl, hb⟩; replace EX := Ext.trans EX hb; clear hb))
  refine rebase (G := fun w' => Code.wp _ _ _ _ w') _ (fun v1 => Ext w v1) (by repeat (first | with_reducible exact EX | with_reducible refine Ext.alloc ?_ _ | with_reducible refine Ext.drew ?_ | with_reducible refine Ext.drewN ?_ _ | with_reducible refine Ext.setCell ?_ (by first | (simp; done) | omega | (dsimp only; omega)) _)) ?_; clear EX; intro v1 EX
  go_wp2_with (first | (go_at_call 26; with_reducible refine (ST _).mono ?_; rintro e v1 ⟨rfl, hb⟩; replace EX := Ext.trans EX hb; clear hb))
  go_ret
  exact ⟨rfl, EX⟩
set_option maxHeartbeats 4000000 in
theorem whole_round_neg (a n q r s : Int) (ha : a < 0) (h0 : wrap64 a = a) (hn : wrap64 (a + 32768) = n) (hs : wrap64 (n - r) = s) (w : World) (L : Laid w) (OF : ∀ w, Calls Tryd.prog 21 #[.int .i64 n] w fun e w' => e = .returned (.agg #[.int .i64 (hi (n)), .int .u64 (lo (n))]) ∧ Ext w w')
    (FL : ∀ w, Calls Tryd.prog 61 #[(.agg #[.int .i64 (hi (n)), .int .u64 (lo (n))]), .int .i64 65536] w fun e w' => e = .returned (.tuple #[(.agg #[.int .i64 (hi (q)), .int .u64 (lo (q))]), .int .i64 r, .int .i64 0]) ∧ Ext w w')
    (ST : ∀ w, Calls Tryd.prog 26 #[.int .i64 s] w fun e w' => e = .returned (.int .i32 (held s)) ∧ Ext w w') :
    Calls Tryd.prog 51 #[.int .i32 a, .int .i64 2] w fun e w' => e = .returned (.int .i32 (held s)) ∧ Ext w w' := by
  have EX := Ext.refl w
  obtain ⟨L0, L1, L2, L3, L4, L5, L6, L7⟩ := L
  go_enter Tryd.func51, Tryd.ntmps51
  go_upto_region 6 with (first | (go_at_call 21; with_reducible refine (OF _).mono ?_; rintro e v1 ⟨rfl, hb⟩; replace EX := Ext.trans EX hb; clear hb) | (go_at_call 61; with_reducible refine (FL _).mono ?_; rintro e v1 ⟨rfl, hb⟩; replace EX := Ext.trans EX hb; clear hb))
  refine rebase (G := fun w' => Code.wp _ _ _ _ w') _ (fun v1 => Ext w v1) (by repeat (first | with_reducible exact EX | with_reducible refine Ext.alloc ?_ _ | with_reducible refine Ext.drew ?_ | with_reducible refine Ext.drewN ?_ _ | with_reducible refine Ext.setCell ?_ (by first | (simp; done) | omega | (dsimp only; omega)) _)) ?_; clear EX; intro v1 EX
  go_wp2_with (first | (go_at_call 26; with_reducible refine (ST _).mono ?_; rintro e v1 ⟨rfl, hb⟩; replace EX := Ext.trans EX hb; clear hb))
  go_ret
  exact ⟨rfl, EX⟩
set_option maxHeartbeats 4000000 in
theorem whole_round_pos (a n q r s : Int) (ha : ¬ a < 0) (h0 : wrap64 a = a) (hn : wrap64 (a + 32768) = n) (hs : wrap64 (n - r) = s) (w : World) (L : Laid w) (OF : ∀ w, Calls Tryd.prog 21 #[.int .i64 n] w fun e w' => e = .returned (.agg #[.int .i64 (hi (n)), .int .u64 (lo (n))]) ∧ Ext w w')
    (FL : ∀ w, Calls Tryd.prog 61 #[(.agg #[.int .i64 (hi (n)), .int .u64 (lo (n))]), .int .i64 65536] w fun e w' => e = .returned (.tuple #[(.agg #[.int .i64 (hi (q)), .int .u64 (lo (q))]), .int .i64 r, .int .i64 0]) ∧ Ext w w')
    (ST : ∀ w, Calls Tryd.prog 26 #[.int .i64 s] w fun e w' => e = .returned (.int .i32 (held s)) ∧ Ext w w') :
    Calls Tryd.prog 51 #[.int .i32 a, .int .i64 2] w fun e w' => e = .returned (.int .i32 (held s)) ∧ Ext w w' := by
  have EX := Ext.refl w
  obtain ⟨L0, L1, L2, L3, L4, L5, L6, L7⟩ := L
  go_enter Tryd.func51, Tryd.ntmps51
  go_upto_region 6 with (first | (go_at_call 21; with_reducible refine (OF _).mono ?_; rintro e v1 ⟨rfl, hb⟩; replace EX := Ext.trans EX hb; clear hb) | (go_at_call 61; with_reducible refine (FL _).mono ?_; rintro e v1 ⟨rfl, hb⟩; replace EX := Ext.trans EX hb; clear hb))
  refine rebase (G := fun w' => Code.wp _ _ _ _ w') _ (fun v1 => Ext w v1) (by repeat (first | with_reducible exact EX | with_reducible refine Ext.alloc ?_ _ | with_reducible refine Ext.drew ?_ | with_reducible refine Ext.drewN ?_ _ | with_reducible refine Ext.setCell ?_ (by first | (simp; done) | omega | (dsimp only; omega)) _)) ?_; clear EX; intro v1 EX
  go_wp2_with (first | (go_at_call 26; with_reducible refine (ST _).mono ?_; rintro e v1 ⟨rfl, hb⟩; replace EX := Ext.trans EX hb; clear hb))
  go_ret
  exact ⟨rfl, EX⟩
set_option maxHeartbeats 4000000 in
theorem whole_trunc_neg (a n q r s : Int) (ha : a < 0) (h0 : wrap64 a = a) (hn : wrap64 (a + 65535) = n) (hs : wrap64 (n - r) = s) (w : World) (L : Laid w) (OF : ∀ w, Calls Tryd.prog 21 #[.int .i64 n] w fun e w' => e = .returned (.agg #[.int .i64 (hi (n)), .int .u64 (lo (n))]) ∧ Ext w w')
    (FL : ∀ w, Calls Tryd.prog 61 #[(.agg #[.int .i64 (hi (n)), .int .u64 (lo (n))]), .int .i64 65536] w fun e w' => e = .returned (.tuple #[(.agg #[.int .i64 (hi (q)), .int .u64 (lo (q))]), .int .i64 r, .int .i64 0]) ∧ Ext w w')
    (ST : ∀ w, Calls Tryd.prog 26 #[.int .i64 s] w fun e w' => e = .returned (.int .i32 (held s)) ∧ Ext w w') :
    Calls Tryd.prog 51 #[.int .i32 a, .int .i64 3] w fun e w' => e = .returned (.int .i32 (held s)) ∧ Ext w w' := by
  have EX := Ext.refl w
  obtain ⟨L0, L1, L2, L3, L4, L5, L6, L7⟩ := L
  go_enter Tryd.func51, Tryd.ntmps51
  go_upto_region 6 with (first | (go_at_call 21; with_reducible refine (OF _).mono ?_; rintro e v1 ⟨rfl, hb⟩; replace EX := Ext.trans EX hb; clear hb) | (go_at_call 61; with_reducible refine (FL _).mono ?_; rintro e v1 ⟨rfl, hb⟩; replace EX := Ext.trans EX hb; clear hb))
  refine rebase (G := fun w' => Code.wp _ _ _ _ w') _ (fun v1 => Ext w v1) (by repeat (first | with_reducible exact EX | with_reducible refine Ext.alloc ?_ _ | with_reducible refine Ext.drew ?_ | with_reducible refine Ext.drewN ?_ _ | with_reducible refine Ext.setCell ?_ (by first | (simp; done) | omega | (dsimp only; omega)) _)) ?_; clear EX; intro v1 EX
  go_wp2_with (first | (go_at_call 26; with_reducible refine (ST _).mono ?_; rintro e v1 ⟨rfl, hb⟩; replace EX := Ext.trans EX hb; clear hb))
  go_ret
  exact ⟨rfl, EX⟩
set_option maxHeartbeats 4000000 in
theorem whole_trunc_pos (a q r s : Int) (ha : ¬ a < 0) (h0 : wrap64 a = a) (hs : wrap64 (a - r) = s) (w : World) (L : Laid w) (OF : ∀ w, Calls Tryd.prog 21 #[.int .i64 a] w fun e w' => e = .returned (.agg #[.int .i64 (hi (a)), .int .u64 (lo (a))]) ∧ Ext w w')
    (FL : ∀ w, Calls Tryd.prog 61 #[(.agg #[.int .i64 (hi (a)), .int .u64 (lo (a))]), .int .i64 65536] w fun e w' => e = .returned (.tuple #[(.agg #[.int .i64 (hi (q)), .int .u64 (lo (q))]), .int .i64 r, .int .i64 0]) ∧ Ext w w')
    (ST : ∀ w, Calls Tryd.prog 26 #[.int .i64 s] w fun e w' => e = .returned (.int .i32 (held s)) ∧ Ext w w') :
    Calls Tryd.prog 51 #[.int .i32 a, .int .i64 3] w fun e w' => e = .returned (.int .i32 (held s)) ∧ Ext w w' := by
  have EX := Ext.refl w
  obtain ⟨L0, L1, L2, L3, L4, L5, L6, L7⟩ := L
  go_enter Tryd.func51, Tryd.ntmps51
  go_upto_region 6 with (first | (go_at_call 21; with_reducible refine (OF _).mono ?_; rintro e v1 ⟨rfl, hb⟩; replace EX := Ext.trans EX hb; clear hb) | (go_at_call 61; with_reducible refine (FL _).mono ?_; rintro e v1 ⟨rfl, hb⟩; replace EX := Ext.trans EX hb; clear hb))
  refine rebase (G := fun w' => Code.wp _ _ _ _ w') _ (fun v1 => Ext w v1) (by repeat (first | with_reducible exact EX | with_reducible refine Ext.alloc ?_ _ | with_reducible refine Ext.drew ?_ | with_reducible refine Ext.drewN ?_ _ | with_reducible refine Ext.setCell ?_ (by first | (simp; done) | omega | (dsimp only; omega)) _)) ?_; clear EX; intro v1 EX
  go_wp2_with (first | (go_at_call 26; with_reducible refine (ST _).mono ?_; rintro e v1 ⟨rfl, hb⟩; replace EX := Ext.trans EX hb; clear hb))
  go_ret
  exact ⟨rfl, EX⟩
theorem whole_floor (a : Int) (ha : In32 a) (w : World) (L : Laid w) : Calls Tryd.prog 51 #[.int .i32 a, .int .i64 0] w fun e w' => e = .returned (.int .i32 (held (dn a))) ∧ Ext w w' := by
  by_cases h : a < 0
  · have b := fits_up ha (u := 0) (by decide) (by decide)
    rw [Int.add_zero] at b
    exact whole_floor_neg a _ _ _ h (wrap_in64 (in32_64 ha)) (wrap_in64 b.2) w L (fun w => of_any _ b.1 w) (fun w => floor_any _ 65536 (in64_W b.1) (by decide) ⟨by decide, by decide⟩ w) (fun w => sat_any _ b.2 w)
  · have b := fits_up ha (u := 0) (by decide) (by decide)
    rw [Int.add_zero] at b
    exact whole_floor_pos a _ _ _ h (wrap_in64 (in32_64 ha)) (wrap_in64 b.2) w L (fun w => of_any _ b.1 w) (fun w => floor_any _ 65536 (in64_W b.1) (by decide) ⟨by decide, by decide⟩ w) (fun w => sat_any _ b.2 w)
theorem ffloor_any (a : Int) (ha : In32 a) (w0 : World) (L : Laid w0) (w : World) (E : Ext w0 w) : Calls Tryd.prog 28 #[.int .i32 a] w fun e w' => e = .returned (.int .i32 (held (dn a))) ∧ Ext w w' := by
  have EX := Ext.refl w
  have WH := whole_floor a ha w (L.later E)
  generalize held (dn a) = r at *
  go_enter Tryd.func28, Tryd.ntmps28
  go_wp2_with (go_at_call 51; with_reducible refine WH.mono ?_; rintro e v1 ⟨rfl, hb⟩; replace EX := Ext.trans EX hb; clear hb)
  go_ret
  exact ⟨rfl, EX⟩
theorem whole_ceil (a : Int) (ha : In32 a) (w : World) (L : Laid w) : Calls Tryd.prog 51 #[.int .i32 a, .int .i64 1] w fun e w' => e = .returned (.int .i32 (held (dn (a + 65535)))) ∧ Ext w w' := by
  by_cases h : a < 0
  · have b := fits_up ha (u := 65535) (by decide) (by decide)
    exact whole_ceil_neg a _ _ _ _ h (wrap_in64 (in32_64 ha)) (wrap_in64 b.1) (wrap_in64 b.2) w L (fun w => of_any _ b.1 w) (fun w => floor_any _ 65536 (in64_W b.1) (by decide) ⟨by decide, by decide⟩ w) (fun w => sat_any _ b.2 w)
  · have b := fits_up ha (u := 65535) (by decide) (by decide)
    exact whole_ceil_pos a _ _ _ _ h (wrap_in64 (in32_64 ha)) (wrap_in64 b.1) (wrap_in64 b.2) w L (fun w => of_any _ b.1 w) (fun w => floor_any _ 65536 (in64_W b.1) (by decide) ⟨by decide, by decide⟩ w) (fun w => sat_any _ b.2 w)
theorem whole_round (a : Int) (ha : In32 a) (w : World) (L : Laid w) : Calls Tryd.prog 51 #[.int .i32 a, .int .i64 2] w fun e w' => e = .returned (.int .i32 (held (dn (a + 32768)))) ∧ Ext w w' := by
  by_cases h : a < 0
  · have b := fits_up ha (u := 32768) (by decide) (by decide)
    exact whole_round_neg a _ _ _ _ h (wrap_in64 (in32_64 ha)) (wrap_in64 b.1) (wrap_in64 b.2) w L (fun w => of_any _ b.1 w) (fun w => floor_any _ 65536 (in64_W b.1) (by decide) ⟨by decide, by decide⟩ w) (fun w => sat_any _ b.2 w)
  · have b := fits_up ha (u := 32768) (by decide) (by decide)
    exact whole_round_pos a _ _ _ _ h (wrap_in64 (in32_64 ha)) (wrap_in64 b.1) (wrap_in64 b.2) w L (fun w => of_any _ b.1 w) (fun w => floor_any _ 65536 (in64_W b.1) (by decide) ⟨by decide, by decide⟩ w) (fun w => sat_any _ b.2 w)
theorem whole_trunc (a : Int) (ha : In32 a) (w : World) (L : Laid w) : Calls Tryd.prog 51 #[.int .i32 a, .int .i64 3] w fun e w' => e = .returned (.int .i32 (held (if a < 0 then dn (a + 65535) else dn a))) ∧ Ext w w' := by
  by_cases h : a < 0
  · rw [if_pos h]; have b := fits_up ha (u := 65535) (by decide) (by decide)
    exact whole_trunc_neg a _ _ _ _ h (wrap_in64 (in32_64 ha)) (wrap_in64 b.1) (wrap_in64 b.2) w L (fun w => of_any _ b.1 w) (fun w => floor_any _ 65536 (in64_W b.1) (by decide) ⟨by decide, by decide⟩ w) (fun w => sat_any _ b.2 w)
  · rw [if_neg h]; have b := fits_up ha (u := 0) (by decide) (by decide)
    rw [Int.add_zero] at b
    exact whole_trunc_pos a _ _ _ h (wrap_in64 (in32_64 ha)) (wrap_in64 b.2) w L (fun w => of_any _ b.1 w) (fun w => floor_any _ 65536 (in64_W b.1) (by decide) ⟨by decide, by decide⟩ w) (fun w => sat_any _ b.2 w)
end Go.Proofs.YtbkifcfienhkaaaDoor
