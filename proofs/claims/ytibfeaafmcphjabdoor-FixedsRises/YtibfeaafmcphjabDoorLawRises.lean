/- The walk of the given function FixedsRises: it returns true at every three numbers of 32 bits, where the package's table is as it was laid. -/
import Derived.Test.YtibfeaafmcphjabDoorFixE
import Derived.Test.YtibfeaafmcphjabDoorFixM
namespace Go.Proofs.YtibfeaafmcphjabDoor
open Go.RowKit Go.BigFrame
set_option linter.unusedSimpArgs false
set_option linter.unusedVariables false

theorem not_lt_of {x y : Int} (h : x ≤ y) : decide (y < x) = false := by simp; omega
set_option maxRecDepth 20000 in
set_option maxHeartbeats 8000000 in
theorem rises_walk (l0 l1 a b c : Int) (hmin : min l0 l1 = a) (hmax : max l0 l1 = b) (ha : In32 a) (hb : In32 b) (hc : In32 c) (hab : a ≤ b) (w : World) (L : Laid w) :
    Calls Tryd.prog 4 #[.agg #[.int .i32 l0, .int .i32 l1, .int .i32 c]] w fun e w' => e = .returned (.bool true) ∧ Ext w w' := by
  have LV := fun v E => lives_any w L v E
  have A1 := fun w => fadd_any a c ha hc w
  have A2 := fun w => fadd_any b c hb hc w
  have g1 := not_lt_of (held_mono (show a + c ≤ b + c by omega))
  have S1 := fun w => fsub_any a c ha hc w
  have S2 := fun w => fsub_any b c hb hc w
  have g2 := not_lt_of (held_mono (show a - c ≤ b - c by omega))
  have F1 := fun v E => ffloor_any a ha w L v E
  have F2 := fun v E => ffloor_any b hb w L v E
  have g3 := not_lt_of (held_mono (dn_mono hab))
  have C1 := fun v E => fceil_any a ha w L v E
  have C2 := fun v E => fceil_any b hb w L v E
  have g4 := not_lt_of (held_mono (dn_mono (show a + 65535 ≤ b + 65535 by omega)))
  have O1 := fun v E => fround_any a ha w L v E
  have O2 := fun v E => fround_any b hb w L v E
  have g5 := not_lt_of (held_mono (dn_mono (show a + 32768 ≤ b + 32768 by omega)))
  have T1 := fun v E => ftrunc_any a ha w L v E
  have T2 := fun v E => ftrunc_any b hb w L v E
  have g6 := not_lt_of (held_mono (show (if a < 0 then dn (a + 65535) else dn a) ≤ (if b < 0 then dn (b + 65535) else dn b) by unfold dn; split <;> split <;> omega))
  have D1 := fun w => fdiv_any a c ha hc w
  have D2 := fun w => fdiv_any b c hb hc w
  have M1 := fun w => fmul_any a c ha hc w
  have M2 := fun w => fmul_any b c hb hc w
  have EX := Ext.refl w
  clear L
  by_cases h : c < 0
  · clear D1 D2 M1 M2 ha hb hc hab
    generalize held (a + c) = x1 at *
    generalize held (b + c) = x2 at *
    generalize held (a - c) = x3 at *
    generalize held (b - c) = x4 at *
    generalize held (dn a) = x5 at *
    generalize held (dn b) = x6 at *
    generalize held (dn (a + 65535)) = x7 at *
    generalize held (dn (b + 65535)) = x8 at *
    generalize held (dn (a + 32768)) = x9 at *
    generalize held (dn (b + 32768)) = x10 at *
    generalize held (if a < 0 then dn (a + 65535) else dn a) = x11 at *
    generalize held (if b < 0 then dn (b + 65535) else dn b) = x12 at *
    go_enter Tryd.func4, Tryd.ntmps4
    go_upto_region 4 with fail
    refine rebase (G := fun w' => Code.wp _ _ _ _ w') _ (fun v1 => Ext w v1) (by repeat (first | with_reducible exact EX | with_reducible refine Ext.alloc ?_ _ | with_reducible refine Ext.drew ?_ | with_reducible refine Ext.drewN ?_ _ | with_reducible refine Ext.setCell ?_ (by first | (simp; done) | omega | (dsimp only; omega)) _)) ?_; clear EX; intro v1 EX
    go_wp2_with (first | (go_at_call 8; with_reducible refine (A1 _).mono ?_; rintro e v1 ⟨rfl, hb⟩; replace EX := Ext.trans EX hb; clear hb) | (go_at_call 8; with_reducible refine (A2 _).mono ?_; rintro e v1 ⟨rfl, hb⟩; replace EX := Ext.trans EX hb; clear hb) | (go_at_call 9; with_reducible refine (S1 _).mono ?_; rintro e v1 ⟨rfl, hb⟩; replace EX := Ext.trans EX hb; clear hb) | (go_at_call 9; with_reducible refine (S2 _).mono ?_; rintro e v1 ⟨rfl, hb⟩; replace EX := Ext.trans EX hb; clear hb) | (go_at_call 10; with_reducible refine (F1 _ EX).mono ?_; rintro e v1 ⟨rfl, hb⟩; replace EX := Ext.trans EX hb; clear hb) | (go_at_call 10; with_reducible refine (F2 _ EX).mono ?_; rintro e v1 ⟨rfl, hb⟩; replace EX := Ext.trans EX hb; clear hb) | (go_at_call 11; with_reducible refine (C1 _ EX).mono ?_; rintro e v1 ⟨rfl, hb⟩; replace EX := Ext.trans EX hb; clear hb) | (go_at_call 11; with_reducible refine (C2 _ EX).mono ?_; rintro e v1 ⟨rfl, hb⟩; replace EX := Ext.trans EX hb; clear hb) | (go_at_call 12; with_reducible refine (O1 _ EX).mono ?_; rintro e v1 ⟨rfl, hb⟩; replace EX := Ext.trans EX hb; clear hb) | (go_at_call 12; with_reducible refine (O2 _ EX).mono ?_; rintro e v1 ⟨rfl, hb⟩; replace EX := Ext.trans EX hb; clear hb) | (go_at_call 13; with_reducible refine (T1 _ EX).mono ?_; rintro e v1 ⟨rfl, hb⟩; replace EX := Ext.trans EX hb; clear hb) | (go_at_call 13; with_reducible refine (T2 _ EX).mono ?_; rintro e v1 ⟨rfl, hb⟩; replace EX := Ext.trans EX hb; clear hb) | (go_at_call 7; with_reducible refine (LV _ EX).mono ?_; rintro e v1 ⟨rfl, hb⟩; replace EX := Ext.trans EX hb; clear hb))
    go_ret
    exact ⟨rfl, EX⟩
  · have g7 : held (nr (a * c) 65536) ≤ held (nr (b * c) 65536) := held_mono (nr_mono (by decide) (Int.mul_le_mul_of_nonneg_right hab (by omega)))
    have g8 : rat a c ≤ rat b c := rat_mono (by omega) hab
    clear ha hb hc hab
    generalize held (a + c) = x1 at *
    generalize held (b + c) = x2 at *
    generalize held (a - c) = x3 at *
    generalize held (b - c) = x4 at *
    generalize held (dn a) = x5 at *
    generalize held (dn b) = x6 at *
    generalize held (dn (a + 65535)) = x7 at *
    generalize held (dn (b + 65535)) = x8 at *
    generalize held (dn (a + 32768)) = x9 at *
    generalize held (dn (b + 32768)) = x10 at *
    generalize held (if a < 0 then dn (a + 65535) else dn a) = x11 at *
    generalize held (if b < 0 then dn (b + 65535) else dn b) = x12 at *
    generalize held (nr (a * c) 65536) = x13 at *
    generalize held (nr (b * c) 65536) = x14 at *
    generalize rat a c = x15 at *
    generalize rat b c = x16 at *
    generalize rate c = x17 at *
    go_enter Tryd.func4, Tryd.ntmps4
    go_upto_region 4 with fail
    refine rebase (G := fun w' => Code.wp _ _ _ _ w') _ (fun v1 => Ext w v1) (by repeat (first | with_reducible exact EX | with_reducible refine Ext.alloc ?_ _ | with_reducible refine Ext.drew ?_ | with_reducible refine Ext.drewN ?_ _ | with_reducible refine Ext.setCell ?_ (by first | (simp; done) | omega | (dsimp only; omega)) _)) ?_; clear EX; intro v1 EX
    go_wp2_with (first | (go_at_call 8; with_reducible refine (A1 _).mono ?_; rintro e v1 ⟨rfl, hb⟩; replace EX := Ext.trans EX hb; clear hb) | (go_at_call 8; with_reducible refine (A2 _).mono ?_; rintro e v1 ⟨rfl, hb⟩; replace EX := Ext.trans EX hb; clear hb) | (go_at_call 9; with_reducible refine (S1 _).mono ?_; rintro e v1 ⟨rfl, hb⟩; replace EX := Ext.trans EX hb; clear hb) | (go_at_call 9; with_reducible refine (S2 _).mono ?_; rintro e v1 ⟨rfl, hb⟩; replace EX := Ext.trans EX hb; clear hb) | (go_at_call 10; with_reducible refine (F1 _ EX).mono ?_; rintro e v1 ⟨rfl, hb⟩; replace EX := Ext.trans EX hb; clear hb) | (go_at_call 10; with_reducible refine (F2 _ EX).mono ?_; rintro e v1 ⟨rfl, hb⟩; replace EX := Ext.trans EX hb; clear hb) | (go_at_call 11; with_reducible refine (C1 _ EX).mono ?_; rintro e v1 ⟨rfl, hb⟩; replace EX := Ext.trans EX hb; clear hb) | (go_at_call 11; with_reducible refine (C2 _ EX).mono ?_; rintro e v1 ⟨rfl, hb⟩; replace EX := Ext.trans EX hb; clear hb) | (go_at_call 12; with_reducible refine (O1 _ EX).mono ?_; rintro e v1 ⟨rfl, hb⟩; replace EX := Ext.trans EX hb; clear hb) | (go_at_call 12; with_reducible refine (O2 _ EX).mono ?_; rintro e v1 ⟨rfl, hb⟩; replace EX := Ext.trans EX hb; clear hb) | (go_at_call 13; with_reducible refine (T1 _ EX).mono ?_; rintro e v1 ⟨rfl, hb⟩; replace EX := Ext.trans EX hb; clear hb) | (go_at_call 13; with_reducible refine (T2 _ EX).mono ?_; rintro e v1 ⟨rfl, hb⟩; replace EX := Ext.trans EX hb; clear hb) | (go_at_call 14; with_reducible refine (D1 _).mono ?_; rintro e v1 ⟨rfl, hb⟩; replace EX := Ext.trans EX hb; clear hb) | (go_at_call 14; with_reducible refine (D2 _).mono ?_; rintro e v1 ⟨rfl, hb⟩; replace EX := Ext.trans EX hb; clear hb) | (go_at_call 5; with_reducible refine (M1 _).mono ?_; rintro e v1 ⟨rfl, hb⟩; replace EX := Ext.trans EX hb; clear hb) | (go_at_call 5; with_reducible refine (M2 _).mono ?_; rintro e v1 ⟨rfl, hb⟩; replace EX := Ext.trans EX hb; clear hb) | (go_at_call 7; with_reducible refine (LV _ EX).mono ?_; rintro e v1 ⟨rfl, hb⟩; replace EX := Ext.trans EX hb; clear hb))
    go_ret
    exact ⟨rfl, EX⟩
end Go.Proofs.YtibfeaafmcphjabDoor
