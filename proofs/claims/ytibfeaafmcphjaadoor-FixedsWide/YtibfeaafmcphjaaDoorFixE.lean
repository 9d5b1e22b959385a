/- The chapter's answers: the given function gouachelaw02.lives returns true where the package's table is as it was laid. -/
import Derived.Test.YtibfeaafmcphjaaDoorFixC
import Derived.Test.YtibfeaafmcphjaaDoorFixD
namespace Go.Proofs.YtibfeaafmcphjaaDoor
open Go.RowKit Go.BigFrame
set_option linter.unusedSimpArgs false
set_option linter.unusedVariables false
set_option maxRecDepth 20000 in
set_option maxHeartbeats 8000000 in
theorem lives_any (w0 : World) (L : Laid w0) (w : World) (E : Ext w0 w) : Calls Tryd.prog 25 #[] w fun e w' => e = .returned (.bool true) ∧ Ext w w' := by
  replace L := L.later E
  clear E
  have D1 := fun w => fdiv_any 1 196608 ⟨by decide, by decide⟩ ⟨by decide, by decide⟩ w
  rw [show rat 1 196608 = 0 by decide, show rate 196608 = 0 by decide] at D1
  have D2 := fun w => fdiv_any (-65536) 131072 ⟨by decide, by decide⟩ ⟨by decide, by decide⟩ w
  rw [show rat (-65536) 131072 = -32768 by decide, show rate 131072 = 0 by decide] at D2
  have D3 := fun w => fdiv_any 5 0 ⟨by decide, by decide⟩ ⟨by decide, by decide⟩ w
  rw [show rat 5 0 = 0 by decide, show rate 0 = 12 by decide] at D3
  have R1 := fun w => ratio_any (-1) 3 ⟨by decide, by decide⟩ ⟨by decide, by decide⟩ w
  rw [show rat (-1) 3 = -21845 by decide, show rate 3 = 0 by decide] at R1
  have R2 := fun w => ratio_any 1 (-3) ⟨by decide, by decide⟩ ⟨by decide, by decide⟩ w
  rw [show rat 1 (-3) = -21845 by decide, show rate (-3) = 0 by decide] at R2
  have L1 := fun w => line_any 1 0 2 0 3 ⟨by decide, by decide⟩ ⟨by decide, by decide⟩ ⟨by decide, by decide⟩ ⟨by decide, by decide⟩ ⟨by decide, by decide⟩ w
  rw [show led 1 0 2 0 3 = 2 by decide, show lede 0 2 = 0 by decide] at L1
  have L2 := fun w => line_any 5 0 0 0 1 ⟨by decide, by decide⟩ ⟨by decide, by decide⟩ ⟨by decide, by decide⟩ ⟨by decide, by decide⟩ ⟨by decide, by decide⟩ w
  rw [show led 5 0 0 0 1 = 0 by decide, show lede 0 0 = 12 by decide] at L2
  have M1 := fun w => fmul_any 3 32768 ⟨by decide, by decide⟩ ⟨by decide, by decide⟩ w
  rw [show held (nr (3 * 32768) 65536) = 2 by decide] at M1
  have M2 := fun w => fmul_any (-3) 32768 ⟨by decide, by decide⟩ ⟨by decide, by decide⟩ w
  rw [show held (nr (-3 * 32768) 65536) = -1 by decide] at M2
  have A1 := fun w => fadd_any 2147483647 1 ⟨by decide, by decide⟩ ⟨by decide, by decide⟩ w
  rw [show held (2147483647 + 1) = 2147483647 by decide] at A1
  have F1 := fun v E => ffloor_any (-1) ⟨by decide, by decide⟩ w L v E
  rw [show held (dn (-1)) = -65536 by decide] at F1
  have C1 := fun v E => fceil_any (-1) ⟨by decide, by decide⟩ w L v E
  rw [show held (dn (-1 + 65535)) = 0 by decide] at C1
  have O1 := fun v E => fround_any 32768 ⟨by decide, by decide⟩ w L v E
  rw [show held (dn (32768 + 32768)) = 65536 by decide] at O1
  have O2 := fun v E => fround_any (-32768) ⟨by decide, by decide⟩ w L v E
  rw [show held (dn (-32768 + 32768)) = 0 by decide] at O2
  have T1 := fun v E => ftrunc_any (-65537) ⟨by decide, by decide⟩ w L v E
  rw [show held (if (-65537 : Int) < 0 then dn (-65537 + 65535) else dn (-65537)) = -65536 by decide] at T1
  have C2 := fun v E => fceil_any 2147483647 ⟨by decide, by decide⟩ w L v E
  rw [show held (dn (2147483647 + 65535)) = 2147483647 by decide] at C2
  have EX := Ext.refl w
  clear L
  go_enter Tryd.func25, Tryd.ntmps25
  go_wp2_with (first | (go_at_call 9; with_reducible refine (D1 _).mono ?_; rintro e v1 ⟨rfl, hb⟩; replace EX := Ext.trans EX hb; clear hb) | (go_at_call 9; with_reducible refine (D2 _).mono ?_; rintro e v1 ⟨rfl, hb⟩; replace EX := Ext.trans EX hb; clear hb) | (go_at_call 9; with_reducible refine (D3 _).mono ?_; rintro e v1 ⟨rfl, hb⟩; replace EX := Ext.trans EX hb; clear hb) | (go_at_call 26; with_reducible refine (R1 _).mono ?_; rintro e v1 ⟨rfl, hb⟩; replace EX := Ext.trans EX hb; clear hb) | (go_at_call 26; with_reducible refine (R2 _).mono ?_; rintro e v1 ⟨rfl, hb⟩; replace EX := Ext.trans EX hb; clear hb) | (go_at_call 32; with_reducible refine (L1 _).mono ?_; rintro e v1 ⟨rfl, hb⟩; replace EX := Ext.trans EX hb; clear hb) | (go_at_call 32; with_reducible refine (L2 _).mono ?_; rintro e v1 ⟨rfl, hb⟩; replace EX := Ext.trans EX hb; clear hb) | (go_at_call 15; with_reducible refine (M1 _).mono ?_; rintro e v1 ⟨rfl, hb⟩; replace EX := Ext.trans EX hb; clear hb) | (go_at_call 15; with_reducible refine (M2 _).mono ?_; rintro e v1 ⟨rfl, hb⟩; replace EX := Ext.trans EX hb; clear hb) | (go_at_call 11; with_reducible refine (A1 _).mono ?_; rintro e v1 ⟨rfl, hb⟩; replace EX := Ext.trans EX hb; clear hb) | (go_at_call 17; with_reducible refine (F1 _ EX).mono ?_; rintro e v1 ⟨rfl, hb⟩; replace EX := Ext.trans EX hb; clear hb) | (go_at_call 19; with_reducible refine (C1 _ EX).mono ?_; rintro e v1 ⟨rfl, hb⟩; replace EX := Ext.trans EX hb; clear hb) | (go_at_call 19; with_reducible refine (C2 _ EX).mono ?_; rintro e v1 ⟨rfl, hb⟩; replace EX := Ext.trans EX hb; clear hb) | (go_at_call 21; with_reducible refine (O1 _ EX).mono ?_; rintro e v1 ⟨rfl, hb⟩; replace EX := Ext.trans EX hb; clear hb) | (go_at_call 21; with_reducible refine (O2 _ EX).mono ?_; rintro e v1 ⟨rfl, hb⟩; replace EX := Ext.trans EX hb; clear hb) | (go_at_call 23; with_reducible refine (T1 _ EX).mono ?_; rintro e v1 ⟨rfl, hb⟩; replace EX := Ext.trans EX hb; clear hb))
  go_ret
  exact ⟨rfl, EX⟩
end Go.Proofs.YtibfeaafmcphjaaDoor
