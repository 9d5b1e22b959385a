/- The law package's does (layer 10): what a text's vertices come to, by any contract of Of. -/
import Derived.Test.YthlhmfjopjikpaaDoorTriS
namespace Go.Proofs.YthlhmfjopjikpaaDoor
open Go.RowKit Go.BigFrame
set_option linter.unusedSimpArgs false
set_option linter.unusedVariables false
set_option maxRecDepth 20000
theorem lettersB_congr {T U : Nat → T3} : ∀ m, (∀ k, k < m → T k = U k) → lettersB T m = lettersB U m
  | 0, _ => rfl
  | m + 1, h => by rw [lettersB, lettersB, lettersB_congr m (fun k hk => h k (by omega)), h m (by omega)]
/-- What a text's vertices come to: vertices that may be, an error, letters. -/
structure Tells (L : Lay) (s : ByteArray) (x : Int) (t : ByteArray) : Prop where
  size : s.size ≤ 1000
  len : (toldL s s.size).length ≤ 1000
  hf : ∀ k, k < (toldL s s.size).length → 0 ≤ ((toldL s s.size).getD k zrec).f ∧ ((toldL s s.size).getD k zrec).f < 256
  hx : ∀ k, k < (toldL s s.size).length → 0 ≤ ((toldL s s.size).getD k zrec).x ∧ ((toldL s s.size).getD k zrec).x < 4294967296
  hy : ∀ k, k < (toldL s s.size).length → 0 ≤ ((toldL s s.size).getD k zrec).y ∧ ((toldL s s.size).getD k zrec).y < 4294967296
  hc : ∀ k, k < (toldL s s.size).length → ∀ j, j < 4 → 0 ≤ ((toldL s s.size).getD k zrec).c j ∧ ((toldL s s.size).getD k zrec).c j < 65536
  told : ∃ m T, TrIs L (fun k => (toldL s s.size).getD k zrec) (toldL s s.size).length x m T ∧ m ≤ 1000 ∧ lettersB T m = t ∧ ∀ k, k < m → (0 ≤ (T k).a.x ∧ (T k).a.x < 4294967296) ∧ (0 ≤ (T k).b.x ∧ (T k).b.x < 4294967296) ∧ (0 ≤ (T k).c.x ∧ (T k).c.x < 4294967296)
theorem lst_es {w : World} {e : TypeId} {m n : Nat} {s : Value} {X : Nat → Nat → Value} (h : Lst w e m s n X) (hn : n ≤ 140737488355328) : ∃ a c, s = .slice a n c ∧ Es w m a n X := by
  rcases h.slice with ⟨a, c, rfl⟩
  refine ⟨a, c, rfl, hn, fun i hi => ?_⟩
  obtain ⟨g, cap, hg⟩ := h.form (by omega)
  cases hg
  exact ⟨g, 0, rfl, by rw [Nat.zero_add]; exact h.range hi⟩
theorem lst_cap {w : World} {e : TypeId} {m n c : Nat} {a : Option Addr} {X : Nat → Nat → Value} (h : Lst w e m (.slice a n c) n X) : n ≤ c := by
  rcases own_form h with ⟨h, hn⟩ | ⟨g, c1, c', h, h1, _⟩
  · omega
  · cases h; exact h1

set_option maxHeartbeats 4000000 in
theorem does_any (L : Lay) (s want : ByteArray) (x e : Int) (w : World) (OC : ∀ a cap N Q v, Ext w v → Vs v a N Q → N ≤ cap → N ≤ 1000 → Calls Tryd.prog 10 #[(.agg (lv (L))), .slice a N cap] v fun e w' => TrAll L Q N v e w') (t : ByteArray) (H : Tells L s x t) (hw : t = want) (he : x = e) :
    Calls Tryd.prog 18 #[(.agg (lv (L))), .string s, .string want, .int .i64 e] w fun e w' => e = .returned (.bool true) ∧ Ext w w' := by
  have EX := Ext.refl w
  have HH : Hid (Tells L s x t) := H
  have HO : Hid (∀ a cap N Q v, Ext w v → Vs v a N Q → N ≤ cap → N ≤ 1000 → Calls Tryd.prog 10 #[(.agg (lv (L))), .slice a N cap] v fun e w' => TrAll L Q N v e w') := OC
  subst hw he
  clear H OC
  go_enter Tryd.func18, Tryd.ntmps18
  go_upto_region 1 with fail
  refine rebase (G := fun w' => Code.wp _ _ _ _ w') _ (fun v1 => Ext w v1 ∧ Lm v1 (w.heap.size) (L)) ⟨by repeat (first | with_reducible exact EX |  with_reducible refine Ext.alloc ?_ _ | with_reducible refine Ext.drew ?_ | with_reducible refine Ext.drewN ?_ _ | with_reducible refine Ext.setCell ?_ (by first | (simp; done) | omega | (dsimp only; omega)) _), by repeat (first | with_reducible assumption | with_reducible refine Lm.drew ?_ | with_reducible refine Lm.drewN ?_ _ | (with_reducible refine Lm.skip ?_ ?_; focus (first | omega | (simp; done))) | with_reducible refine Lm.set0 ?_ _ | with_reducible refine Lm.set4 ?_ _ | with_reducible refine Lm.set5 ?_ _ | with_reducible refine Lm.setk ?_ _ (by decide) | (with_reducible refine Lm.cells1 ?_; exact ⟨_, by with_reducible assumption⟩) | (with_reducible refine Lm.skips ?_ _ _ ?_; focus (first | omega | (simp; done))) | (with_reducible refine Lm.new ?_ <;> first | rfl | (simp; done)) | (with_reducible refine Lm.fresh ?_ ?_ <;> first | rfl | (simp; done)) | with_reducible refine Lm.alloc ?_ _)⟩ ?_; clear EX ; rintro v1 ⟨EX, LB⟩; rename World => v; have LBc0 := LB.c0; have LBc1 := LB.c1; have LBc2 := LB.c2; have LBc3 := LB.c3; have LBc4 := LB.c4; have LBc5 := LB.c5; have LBdg := LB.dg; have LBfz := LB.fz; have LBlt := LB.lt
  obtain ⟨b0, hb0⟩ : ∃ b0, w.heap.size = b0 := ⟨_, rfl⟩
  rw [hb0] at LB LBc0 LBc1 LBc2 LBc3 LBc4 LBc5 LBdg LBfz LBlt ⊢
  have gLB := fun x' : Grow v => LB.later x'.ext
  refine wp_region_phases [(true, [0,1]), (false, [2,3,4]), (true, [5,6]), (false, [7,8])] (fun w' => ∃ x : Grow v, w' = x.out) (by kernel_rfl) (by kernel_rfl) (fun c a x v w h => by cases x <;> exact h) ⟨⟨v.drew, (Ext.refl v).drew⟩, rfl⟩ ?_
  intro pl hpl
  simp [pickO] at hpl
  subst hpl
  unfold wpPh
  (repeat (first | (go_big_quiet_want; refine quiet_load_lay _ (b0) rfl rfl (by rintro _ ⟨x', rfl⟩; exact gLB x') ?_; simp only [Act.put, List.setIfInBounds_toArray, List.set_cons_succ, List.set_cons_zero]; go_big_quiet_on) | go_big_quiet_step (fail)))
  refine wpQuiet_nil ?_
  clear gLB
  have hE0 : Ext v v.drew := (Ext.refl v).drew
  unfold wpPh
  refine holdk_step fun K hK => ?_
  go_wp2_with (first | (go_at_call 69; refine (told_any s _ HH.out.size).mono ?_; rintro e v1 ⟨u, rfl, hb, SL⟩))
  have hE1 := hE0.trans hb
  clear hb
  refine hK _ _ ⟨⟨v1, hE1⟩, rfl⟩ ?_
  clear hK K
  have hlen := HH.out.len
  obtain ⟨a, cp, rfl, ES⟩ := lst_es SL (by omega)
  have hcp := lst_cap SL
  have V1 : Vs v1 a (toldL s s.size).length (fun k => (toldL s s.size).getD k zrec) := ⟨ES, HH.out.hf, HH.out.hx, HH.out.hy, fun k j hk hj => HH.out.hc k hk j hj⟩
  refine holdk_step fun K hK => ?_
  go_wp2_with (first | (go_at_call 10; refine (HO.out _ _ _ _ _ (EX.trans hE1) V1 hcp hlen).mono ?_; rintro e v2 ⟨s2, x2, m2, T2, rfl, hb, S2, ho2, hp⟩))
  have hE2 := hE1.trans hb
  clear hb
  refine hK _ _ ⟨⟨v2, hE2⟩, rfl⟩ ?_
  clear hK K
  refine holdk_step fun K hK => ?_
  go_wp2
  refine hK _ _ ⟨⟨v2, hE2⟩, rfl⟩ ?_
  clear hK K
  unfold wpHoldK wpPh
  (repeat (first | go_big_quiet_step (fail))); refine wpQuiet_nil ?_
  unfold wpPh
  refine holdk_step fun K hK => ?_
  go_wp2
  refine hK _ _ ⟨⟨v2, hE2⟩, rfl⟩ ?_
  clear hK K
  refine holdk_step fun K hK => ?_
  go_wp2
  refine hK _ _ ⟨⟨v2, hE2⟩, rfl⟩ ?_
  clear hK K
  unfold wpHoldK wpPh
  obtain ⟨m, T, hI, hm, hl, hT⟩ := HH.out.told
  obtain ⟨rfl, rfl, hTT⟩ := hp.one hI
  replace EX := EX.trans hE2
  have SC : ∀ v', Ext v2 v' → Calls Tryd.prog 70 #[s2] v' fun e w' => e = .returned (.string t) ∧ Ext v' w' := fun v' h => by
    have := letters_any s2 m2 T2 v' (S2.later h) hm (fun k hk => by rw [hTT k hk]; exact hT k hk)
    rwa [lettersB_congr m2 hTT, hl] at this
  have HSC : Hid (∀ v', Ext v2 v' → Calls Tryd.prog 70 #[s2] v' fun e w' => e = .returned (.string t) ∧ Ext v' w') := SC
  clear SC hI hT hl hTT hp ho2 S2 V1 ES SL hE0 hE1 hE2 LB v1
  go_wp2_with (first | go_skip | (go_at_call 70; refine (HSC.out _ (Ext.refl _)).mono ?_; rintro e v3 ⟨rfl, hb⟩))
  go_ret
  exact ⟨rfl, EX.trans hb⟩
end Go.Proofs.YthlhmfjopjikpaaDoor
