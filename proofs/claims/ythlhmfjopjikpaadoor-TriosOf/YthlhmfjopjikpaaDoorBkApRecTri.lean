/- The given book: Apart, of lists of these kinds: RecTri. -/
import Derived.Test.YthlhmfjopjikpaaDoorBookC
import Derived.Test.YthlhmfjopjikpaaDoorBookN
import Derived.Test.YthlhmfjopjikpaaDoorBkRec
import Derived.Test.YthlhmfjopjikpaaDoorBkTri
namespace Go.Proofs.YthlhmfjopjikpaaDoor
open Go.RowKit Go.BigFrame
set_option linter.unusedVariables false
def kpRecTri : Nat → Kp
  | 4 => kpRec
  | 5 => kpTri
  | _ => ⟨0, 0, 0, fun _ _ => undef⟩
theorem apart_rectri (D : Nat → Kd) (k n : Nat) (w : World) (B : Book kpRecTri w k n D) (hD : ∀ q, q ∉ ([4, 5] : List Nat) → D q = Kd.none) :
    Calls Tryd.prog 16 #[.pointer (some ⟨k, 0, none⟩)] w fun e w' => e = .returned (.bool true) ∧ Chg (InB D k) w w' := by
  have hx : ∀ q, ∃ a c p, (D q).u = .slice a c p := fun q => by obtain ⟨a, p, h⟩ := (B.raw q).1.slice; exact ⟨a, _, p, h⟩
  have hu : ∀ q, (D q).u = .slice ((hx q).choose) ((hx q).choose_spec.choose) ((hx q).choose_spec.choose_spec.choose) := fun q => (hx q).choose_spec.choose_spec.choose_spec
  exact apart_walk kpRecTri D k n w _ _ _ hu B.few
    (fun v S => by rw [← hu 1, show (D 1).u = .slice none 0 0 by rw [hD 1 (by decide)]; rfl]; exact (fill_nil1 none 0 v).mono fun e w' h => ⟨h.1, by rw [h.2]; exact S.fill (q := 0) B (by omega) (Chg.refl _ v) (by rw [hD 1 (by decide)]; exact Fld.none _ v)⟩)
    (fun v S => by rw [← hu 2, show (D 2).u = .slice none 0 0 by rw [hD 2 (by decide)]; rfl]; exact (fill_nil2 none 0 v).mono fun e w' h => ⟨h.1, by rw [h.2]; exact S.fill (q := 1) B (by omega) (Chg.refl _ v) (by rw [hD 2 (by decide)]; exact Fld.none _ v)⟩)
    (fun v S => by rw [← hu 3, show (D 3).u = .slice none 0 0 by rw [hD 3 (by decide)]; rfl]; exact (fill_nil3 none 0 v).mono fun e w' h => ⟨h.1, by rw [h.2]; exact S.fill (q := 2) B (by omega) (Chg.refl _ v) (by rw [hD 3 (by decide)]; exact Fld.none _ v)⟩)
    (fun v S => by rw [← hu 4]; exact (fill_rec (D 4) v (B.sound 4) (S.raw (q := 3) (by omega))).mono fun e w' h => ⟨h.1, S.fill (q := 3) B (by omega) h.2.1 h.2.2⟩)
    (fun v S => by rw [← hu 5]; exact (fill_tri (D 5) v (B.sound 5) (S.raw (q := 4) (by omega))).mono fun e w' h => ⟨h.1, S.fill (q := 4) B (by omega) h.2.1 h.2.2⟩)
    (fun v S => by rw [← hu 6, show (D 6).u = .slice none 0 0 by rw [hD 6 (by decide)]; rfl]; exact (fill_nil6 none 0 v).mono fun e w' h => ⟨h.1, by rw [h.2]; exact S.fill (q := 5) B (by omega) (Chg.refl _ v) (by rw [hD 6 (by decide)]; exact Fld.none _ v)⟩)
    (fun v S => by rw [← hu 7, show (D 7).u = .slice none 0 0 by rw [hD 7 (by decide)]; rfl]; exact (fill_nil7 none 0 v).mono fun e w' h => ⟨h.1, by rw [h.2]; exact S.fill (q := 6) B (by omega) (Chg.refl _ v) (by rw [hD 7 (by decide)]; exact Fld.none _ v)⟩)
    (fun v S => by rw [← hu 8, show (D 8).u = .slice none 0 0 by rw [hD 8 (by decide)]; rfl]; exact (fill_nil8 none 0 v).mono fun e w' h => ⟨h.1, by rw [h.2]; exact S.fill (q := 7) B (by omega) (Chg.refl _ v) (by rw [hD 8 (by decide)]; exact Fld.none _ v)⟩)
    (fun v S => by rw [← hu 9, show (D 9).u = .slice none 0 0 by rw [hD 9 (by decide)]; rfl]; exact (fill_nil9 none 0 v).mono fun e w' h => ⟨h.1, by rw [h.2]; exact S.fill (q := 8) B (by omega) (Chg.refl _ v) (by rw [hD 9 (by decide)]; exact Fld.none _ v)⟩)
    (fun v S => by rw [← hu 10, show (D 10).u = .slice none 0 0 by rw [hD 10 (by decide)]; rfl]; exact (fill_nil10 none 0 v).mono fun e w' h => ⟨h.1, by rw [h.2]; exact S.fill (q := 9) B (by omega) (Chg.refl _ v) (by rw [hD 10 (by decide)]; exact Fld.none _ v)⟩)
    (fun v S => by rw [← hu 11, show (D 11).u = .slice none 0 0 by rw [hD 11 (by decide)]; rfl]; exact (fill_nil11 none 0 v).mono fun e w' h => ⟨h.1, by rw [h.2]; exact S.fill (q := 10) B (by omega) (Chg.refl _ v) (by rw [hD 11 (by decide)]; exact Fld.none _ v)⟩)
    (fun v S => by rw [← hu 12, show (D 12).u = .slice none 0 0 by rw [hD 12 (by decide)]; rfl]; exact (fill_nil12 none 0 v).mono fun e w' h => ⟨h.1, by rw [h.2]; exact S.fill (q := 11) B (by omega) (Chg.refl _ v) (by rw [hD 12 (by decide)]; exact Fld.none _ v)⟩)
    (fun v S => by rw [← hu 13, show (D 13).u = .slice none 0 0 by rw [hD 13 (by decide)]; rfl]; exact (fill_nil13 none 0 v).mono fun e w' h => ⟨h.1, by rw [h.2]; exact S.fill (q := 12) B (by omega) (Chg.refl _ v) (by rw [hD 13 (by decide)]; exact Fld.none _ v)⟩)
    (fun v S => by rw [← hu 1, show (D 1).u = .slice none 0 0 by rw [hD 1 (by decide)]; rfl]; exact (grow_nil1 none 0 v).mono fun e w' h => ⟨h.1, by rw [h.2]; exact S.grow (q := 0) B (by omega) (Chg.refl _ v) (by rw [hD 1 (by decide)]; exact Grn.none _ _ v)⟩)
    (fun v S => by rw [← hu 2, show (D 2).u = .slice none 0 0 by rw [hD 2 (by decide)]; rfl]; exact (grow_nil2 none 0 v).mono fun e w' h => ⟨h.1, by rw [h.2]; exact S.grow (q := 1) B (by omega) (Chg.refl _ v) (by rw [hD 2 (by decide)]; exact Grn.none _ _ v)⟩)
    (fun v S => by rw [← hu 3, show (D 3).u = .slice none 0 0 by rw [hD 3 (by decide)]; rfl]; exact (grow_nil3 none 0 v).mono fun e w' h => ⟨h.1, by rw [h.2]; exact S.grow (q := 2) B (by omega) (Chg.refl _ v) (by rw [hD 3 (by decide)]; exact Grn.none _ _ v)⟩)
    (fun v S => by rw [← hu 4]; exact (grow_rec (D 4) v (B.sound 4) (S.fld (q := 3) (by omega))).mono fun e w' h => ⟨h.1, S.grow (q := 3) B (by omega) h.2.1 h.2.2⟩)
    (fun v S => by rw [← hu 5]; exact (grow_tri (D 5) v (B.sound 5) (S.fld (q := 4) (by omega))).mono fun e w' h => ⟨h.1, S.grow (q := 4) B (by omega) h.2.1 h.2.2⟩)
    (fun v S => by rw [← hu 6, show (D 6).u = .slice none 0 0 by rw [hD 6 (by decide)]; rfl]; exact (grow_nil6 none 0 v).mono fun e w' h => ⟨h.1, by rw [h.2]; exact S.grow (q := 5) B (by omega) (Chg.refl _ v) (by rw [hD 6 (by decide)]; exact Grn.none _ _ v)⟩)
    (fun v S => by rw [← hu 7, show (D 7).u = .slice none 0 0 by rw [hD 7 (by decide)]; rfl]; exact (grow_nil7 none 0 v).mono fun e w' h => ⟨h.1, by rw [h.2]; exact S.grow (q := 6) B (by omega) (Chg.refl _ v) (by rw [hD 7 (by decide)]; exact Grn.none _ _ v)⟩)
    (fun v S => by rw [← hu 8, show (D 8).u = .slice none 0 0 by rw [hD 8 (by decide)]; rfl]; exact (grow_nil8 none 0 v).mono fun e w' h => ⟨h.1, by rw [h.2]; exact S.grow (q := 7) B (by omega) (Chg.refl _ v) (by rw [hD 8 (by decide)]; exact Grn.none _ _ v)⟩)
    (fun v S => by rw [← hu 9, show (D 9).u = .slice none 0 0 by rw [hD 9 (by decide)]; rfl]; exact (grow_nil9 none 0 v).mono fun e w' h => ⟨h.1, by rw [h.2]; exact S.grow (q := 8) B (by omega) (Chg.refl _ v) (by rw [hD 9 (by decide)]; exact Grn.none _ _ v)⟩)
    (fun v S => by rw [← hu 10, show (D 10).u = .slice none 0 0 by rw [hD 10 (by decide)]; rfl]; exact (grow_nil10 none 0 v).mono fun e w' h => ⟨h.1, by rw [h.2]; exact S.grow (q := 9) B (by omega) (Chg.refl _ v) (by rw [hD 10 (by decide)]; exact Grn.none _ _ v)⟩)
    (fun v S => by rw [← hu 11, show (D 11).u = .slice none 0 0 by rw [hD 11 (by decide)]; rfl]; exact (grow_nil11 none 0 v).mono fun e w' h => ⟨h.1, by rw [h.2]; exact S.grow (q := 10) B (by omega) (Chg.refl _ v) (by rw [hD 11 (by decide)]; exact Grn.none _ _ v)⟩)
    (fun v S => by rw [← hu 12, show (D 12).u = .slice none 0 0 by rw [hD 12 (by decide)]; rfl]; exact (grow_nil12 none 0 v).mono fun e w' h => ⟨h.1, by rw [h.2]; exact S.grow (q := 11) B (by omega) (Chg.refl _ v) (by rw [hD 12 (by decide)]; exact Grn.none _ _ v)⟩)
    (fun v S => by rw [← hu 13, show (D 13).u = .slice none 0 0 by rw [hD 13 (by decide)]; rfl]; exact (grow_nil13 none 0 v).mono fun e w' h => ⟨h.1, by rw [h.2]; exact S.grow (q := 12) B (by omega) (Chg.refl _ v) (by rw [hD 13 (by decide)]; exact Grn.none _ _ v)⟩)
    (fun v S => by rw [← hu 1, show (D 1).u = .slice none 0 0 by rw [hD 1 (by decide)]; rfl]; exact (marked_nil1 none 0 v).mono fun e w' h => ⟨h.1, by rw [h.2]; exact S.look (by omega) (Ext.refl v)⟩)
    (fun v S => by rw [← hu 2, show (D 2).u = .slice none 0 0 by rw [hD 2 (by decide)]; rfl]; exact (marked_nil2 none 0 v).mono fun e w' h => ⟨h.1, by rw [h.2]; exact S.look (by omega) (Ext.refl v)⟩)
    (fun v S => by rw [← hu 3, show (D 3).u = .slice none 0 0 by rw [hD 3 (by decide)]; rfl]; exact (marked_nil3 none 0 v).mono fun e w' h => ⟨h.1, by rw [h.2]; exact S.look (by omega) (Ext.refl v)⟩)
    (fun v S => by rw [← hu 4]; exact (marked_rec (D 4) v (B.sound 4) (S.grn (q := 3) (by omega) (i := 29) (by omega))).mono fun e w' h => ⟨h.1, S.look (by omega) h.2⟩)
    (fun v S => by rw [← hu 5]; exact (marked_tri (D 5) v (B.sound 5) (S.grn (q := 4) (by omega) (i := 30) (by omega))).mono fun e w' h => ⟨h.1, S.look (by omega) h.2⟩)
    (fun v S => by rw [← hu 6, show (D 6).u = .slice none 0 0 by rw [hD 6 (by decide)]; rfl]; exact (marked_nil6 none 0 v).mono fun e w' h => ⟨h.1, by rw [h.2]; exact S.look (by omega) (Ext.refl v)⟩)
    (fun v S => by rw [← hu 7, show (D 7).u = .slice none 0 0 by rw [hD 7 (by decide)]; rfl]; exact (marked_nil7 none 0 v).mono fun e w' h => ⟨h.1, by rw [h.2]; exact S.look (by omega) (Ext.refl v)⟩)
    (fun v S => by rw [← hu 8, show (D 8).u = .slice none 0 0 by rw [hD 8 (by decide)]; rfl]; exact (marked_nil8 none 0 v).mono fun e w' h => ⟨h.1, by rw [h.2]; exact S.look (by omega) (Ext.refl v)⟩)
    (fun v S => by rw [← hu 9, show (D 9).u = .slice none 0 0 by rw [hD 9 (by decide)]; rfl]; exact (marked_nil9 none 0 v).mono fun e w' h => ⟨h.1, by rw [h.2]; exact S.look (by omega) (Ext.refl v)⟩)
    (fun v S => by rw [← hu 10, show (D 10).u = .slice none 0 0 by rw [hD 10 (by decide)]; rfl]; exact (marked_nil10 none 0 v).mono fun e w' h => ⟨h.1, by rw [h.2]; exact S.look (by omega) (Ext.refl v)⟩)
    (fun v S => by rw [← hu 11, show (D 11).u = .slice none 0 0 by rw [hD 11 (by decide)]; rfl]; exact (marked_nil11 none 0 v).mono fun e w' h => ⟨h.1, by rw [h.2]; exact S.look (by omega) (Ext.refl v)⟩)
    (fun v S => by rw [← hu 12, show (D 12).u = .slice none 0 0 by rw [hD 12 (by decide)]; rfl]; exact (marked_nil12 none 0 v).mono fun e w' h => ⟨h.1, by rw [h.2]; exact S.look (by omega) (Ext.refl v)⟩)
    (fun v S => by rw [← hu 13, show (D 13).u = .slice none 0 0 by rw [hD 13 (by decide)]; rfl]; exact (marked_nil13 none 0 v).mono fun e w' h => ⟨h.1, by rw [h.2]; exact S.look (by omega) (Ext.refl v)⟩) w (Step.start B)
end Go.Proofs.YthlhmfjopjikpaaDoor
