/- The given helper grow, on lists of bytes. -/
import Derived.Test.YthnmofnlcepffaaBitP
import Derived.ArgAppend
namespace Go.Proofs.Ythnmofnlcepffaa
open Go.RowKit Go.BigFrame
set_option linter.unusedSimpArgs false
set_option linter.unusedVariables false
def upJ (J : Nat → Value) (i : Nat) (X : Value) (j : Nat) : Value := if j = i then X else J j
theorem Vm.long {v : World} {s n : Nat} {G L : Nat → Nat} {J : Nat → Value} (V : Vm v s (n * 3) (sf G L J)) (i : Nat) (X : Value) : Vm (v.setCell ⟨s, i * 3 + 1, none⟩ X) s (n * 3) (sf G L (upJ J i X)) := by
  refine (Vm.set V (i * 3 + 1) X).eq fun j hj => ?_
  unfold updv
  by_cases e : j = i * 3 + 1
  · rw [if_pos e, e, sf1]
    unfold upJ
    rw [if_pos rfl]
  · rw [if_neg e]
    unfold sf upJ
    by_cases h0 : j % 3 = 0
    · rw [if_pos h0, if_pos h0]
    · rw [if_neg h0, if_neg h0]
      by_cases h1 : j % 3 = 1
      · rw [if_pos h1, if_pos h1, if_neg (by omega)]
      · rw [if_neg h1, if_neg h1]
theorem upJ_twice (J : Nat → Value) (i : Nat) (X Y : Value) : upJ (upJ J i X) i Y = upJ J i Y := by
  funext j; unfold upJ; split <;> rfl
/-- The list i with so many marks more. -/
def Lng (v : World) (H : Nat) (X : Value) (m : Nat) (i : Nat) : Prop := v.ownsRow 0 5 1 X m (vl m (fun _ => mk i)) ∧ ∀ g, X.ownBlock = some g → H ≤ g
/-- The lists ahead of i are grown. -/
def Grn (w v : World) (s n : Nat) (G L : Nat → Nat) (i : Nat) : Prop :=
  Chg (fun b => b = s) w v ∧ ∃ J, Vm v s (n * 3) (sf G L J) ∧ ∀ j, j < i → Lng v w.heap.size (J j) (L j + 24) j
/-- The list i is under way: k marks. -/
def Gri (w v0 v : World) (s n : Nat) (G L : Nat → Nat) (J : Nat → Value) (i k : Nat) : Prop :=
  Chg (fun b => b = s) v0 v ∧ ∃ X, Vm v s (n * 3) (sf G L (upJ J i X)) ∧ ((k = 0 ∧ X = .slice (some ⟨G i, 0, none⟩) (L i) (L i)) ∨ (0 < k ∧ Lng v v0.heap.size X (L i + k) i))
theorem Lng.chg {S : Nat → Prop} {v v' : World} {H : Nat} {X : Value} {m i : Nat} (h : Lng v H X m i) (c : Chg S v v') (hS : ∀ b, H ≤ b → b < v.heap.size → ¬ S b) : Lng v' H X m i :=
  ⟨own_chg h.1 c (fun k hk => hS k (h.2 k hk) (h.1.lt k hk).2), h.2⟩
theorem own_base {w : World} {base : Nat} {e : TypeId} {size n : Nat} {v : Value} {xs : List Value} (h : w.ownsRow base e size v n xs) : w.ownsRow 0 e size v n xs :=
  ⟨h.1, h.2.imp id fun ⟨g, c, cur, h1, _, h3⟩ => ⟨g, c, cur, h1, Nat.zero_le _, h3⟩⟩
theorem vl_mk (m i : Nat) : vl m (fun _ => mk i) ++ [mk i] = vl (m + 1) (fun _ => mk i) := vl_snoc m (fun _ => mk i)
set_option maxRecDepth 20000 in
set_option maxHeartbeats 8000000 in
theorem grow_any (s n cap : Nat) (G L : Nat → Nat) (J0 : Nat → Value) (w : World) (hn : n ≤ 200) (V : Vm w s (n * 3) (sf G L J0)) (rows : ∀ i, i < n → w.rowIs (G i) 5 (L i) (fun _ => mk i))
    (ns : ∀ i, i < n → G i ≠ s) (le : ∀ i, i < n → L i ≤ 65536) :
    Calls Try.prog 50 #[.slice (some ⟨s, 0, none⟩) n cap] w fun e w' => e = .returned (.tuple #[]) ∧ Grn w w' s n G L n := by
  obtain ⟨i0, hi0, hz0, hz1, hz2⟩ := info_parts info_byte
  have hsw := V.lt
  have HR : Hid (∀ i, i < n → w.rowIs (G i) 5 (L i) (fun _ => mk i)) := rows
  have HNS : Hid (∀ i, i < n → G i ≠ s) := ns
  have HLE : Hid (∀ i, i < n → L i ≤ 65536) := le
  have F0 : Grn w w s n G L 0 := ⟨Chg.refl _ _, J0, V, fun j hj => by omega⟩
  clear V ns le rows
  go_enter Try.func50, Try.ntmps50
  go_upto_region 1 with fail
  go_loopg [2] n (fun gk iv wr => ∃ i : Nat, i + gk = n ∧ iv = .int .i64 i ∧ Grn w wr s n G L i)
  case atStart => exact ⟨0, by omega, rfl, F0⟩
  case round =>
    clear F0
    obtain ⟨i, hi, rfl, F⟩ := hrel
    obtain ⟨gko, hgko⟩ : ∃ x, x = gk := ⟨_, rfl⟩
    subst hgko
    by_cases hlt : i < n
    · have hii : (i : Int) < (n : Int) := by omega
      obtain ⟨CW, J, V, HJ0⟩ := F
      obtain ⟨v0, hv0⟩ : ∃ v0, v0 = wr := ⟨_, rfl⟩
      subst hv0
      have HJ : Hid (∀ j, j < i → Lng v0 w.heap.size (J j) (L j + 24) j) := HJ0
      clear HJ0
      have c0 := V.dg (i * 3) (by omega)
      have c1 := V.dg (i * 3 + 1) (by omega)
      rw [sf0] at c0
      rw [sf1] at c1
      have fz1 := V.fz (i * 3 + 1)
      have hLi := HLE.out i hlt
      have hi200 : i < 200 := by omega
      have hs0 := V.lt
      have RW := (HR.out i hlt).of_block (CW.block (G i) (HR.out i hlt).lt (HNS.out i hlt))
      have hgs := HNS.out i hlt
      have FI : Gri w v0 (v0.setCell ⟨s, i * 3 + 1, none⟩ (.slice (some ⟨G i, 0, none⟩) (L i) (L i))) s n G L J i 0 := ⟨Chg.setCell (S := fun b => b = s) (Chg.refl _ v0) (.inl (Eq.refl s)) _, _, V.long i _, .inl ⟨rfl, rfl⟩⟩
      have HS0 : Hid (Vm v0 s (n * 3) (sf G L J)) := V
      clear V
      have hgi : G i < v0.heap.size := RW.lt
      go_upto_region 5 with fail
      go_loopg [3] 24 (fun gk kv wr => ∃ k : Nat, k + gk = 24 ∧ kv = .int .i64 k ∧ Gri w v0 wr s n G L J i k)
      case atStart => exact ⟨0, rfl, rfl, FI⟩
      case round =>
        clear FI c0 c1 fz1
        obtain ⟨k, hk, rfl, C, X, V, hX⟩ := hrel
        obtain ⟨v, hv⟩ : ∃ v, v = wr := ⟨_, rfl⟩
        subst hv
        by_cases hkl : k < 24
        · have hkl' : (k : Int) < 24 := by omega
          have c1 := V.dg (i * 3 + 1) (by omega)
          have c2 := V.dg (i * 3 + 2) (by omega)
          rw [sf1] at c1
          rw [show upJ J i X i = X from if_pos rfl] at c1
          rw [sf2] at c2
          have fz1 := V.fz (i * 3 + 1)
          have lsv := V.lt
          have hts : ¬ v0.heap.size ≤ s := by omega
          have qv := C.size
          have RV := RW.of_block (C.block (G i) RW.lt hgs)
          have ER : Hid (Value.int .u8 ((i + 1 : Nat) : Int) = mk i) := rfl
          go_upto_region 7 with fail
          have gA := fun x' : Alt (fun b => v0.heap.size ≤ b) v => x'.cell hts c1
          have gB := fun x' : Alt (fun b => v0.heap.size ≤ b) v => x'.cell hts c2
          refine wp_region_reads (fun i => decide (i < 12)) 2 14 (fun w' => ∃ x : Alt (fun b => v0.heap.size ≤ b) v, w' = x.out) (by kernel_rfl) (by kernel_rfl) (fun c a x v w h => by cases x <;> exact h) ⟨⟨v.drew, (Chg.refl _ v).drew⟩, rfl⟩ ?_
          intro l1 l2 h1 h2
          simp [pickB] at h1 h2
          subst h1 h2
          (repeat (first | go_big_quiet_step (fail))); refine wpQuiet_nil ?_; clear gA gB
          refine hold_step (n := 1) fun K hK => ?_
          go_wp2
          refine hK _ _ ⟨⟨_, ((Chg.refl _ v).alloc _).drew⟩, rfl⟩ ?_
          clear hK K
          refine hold_step (n := 0) fun K hK => ?_
          have NB : ∀ j u, [mk i][j]? = some u → ((v.alloc (.cells #[.int .u8 ((i : Int) + 1)] 5)).drew).cell? ((⟨v.heap.size, 0, none⟩ : Addr).add j) = some u := by
            rw [show mk i = .int .u8 ((i : Int) + 1) from rfl]
            exact World.news_of_block (cs := #[.int .u8 ((i : Int) + 1)]) (t := 5) (fr := (0, 0)) (heap_alloc_new v _)
          obtain ⟨M, hM⟩ : ∃ M, L i + k + 1 = M := ⟨_, rfl⟩
          rcases hX with ⟨hk0, rfl⟩ | ⟨hk0, hO, hnew⟩
          case' inl =>
            have OL : ∀ b, (some (⟨G i, 0, none⟩ : Addr)) = some b → ∀ j u, (vl (L i) (fun _ => mk i))[j]? = some u → ((v.alloc (.cells #[.int .u8 ((i : Int) + 1)] 5)).drew).cell? (b.add j) = some u := by
              intro b hb j u hu
              cases hb
              have hj : j < L i := by rw [← vl_len (L i) (fun _ => mk i)]; exact (List.getElem?_eq_some_iff.1 hu).1
              rw [vl_at _ _ hj] at hu
              rw [Addr.add_mid, Nat.zero_add, ← hu]
              exact old1 (RV.cell hj)
            go_wp2_with (first | (at_builtin; refine wpList_append_grows _ (by rfl) _ _ _ (by rfl) 5 i0 _ 1 1 Try.underlying22 hi0 hz0 hz1 hz2 rfl (by omega) (some ⟨G i, 0, none⟩) (L i) (L i) (vl (L i) (fun _ => mk i)) (by rfl) (fun e => by cases e) (by rw [vl_len, Nat.mul_one]) OL ⟨v.heap.size, 0, none⟩ 1 1 [mk i] (by rfl) (by rfl) NB (by simp [Value.oneCell', mk]) (by omega) (by unfold maxLen; omega) (by omega) ?_))
            intro X1 w1 hown hgrow
            obtain ⟨gg, cap', rfl, hgb, hgl⟩ := hown.form (by omega)
            have O1 := own_base hown
            have hgg : v0.heap.size ≤ gg := by have : v.heap.size + 1 ≤ gg := hgb; omega
            have CH : Chg (fun b => v0.heap.size ≤ b) v w1 := (((Chg.refl _ v).alloc _).drew).trans (Chg.grown hgrow (fun k e => by cases e)) (fun i hi => .inl hi)
            rw [vl_mk] at O1
            rw [show L i + 1 = M by omega] at O1 ⊢
          case' inr =>
            obtain ⟨ad, cp, rfl⟩ := own_slice hO
            go_wp2_with (first | (at_builtin; refine wpList_append_lies _ (by rfl) _ _ _ (by rfl) 0 5 i0 _ 1 1 Try.underlying22 hi0 hz0 hz1 hz2 rfl (by omega) (.slice ad (L i + k) cp) (L i + k) _ (by rfl) ((hO.alloc _).drew) ⟨v.heap.size, 0, none⟩ 1 1 [mk i] (by rfl) (by rfl) NB (by simp [Value.oneCell', mk]) (by omega) (by unfold maxLen; omega) (by omega) (by simp) (v.heap.size + 1) (by simp) ?_))
            intro gg cap' w1 O1 hgrow hat hlt
            have hgg : v0.heap.size ≤ gg := by rcases hat with h | h; exact hnew gg h; omega
            have CH : Chg (fun b => v0.heap.size ≤ b) v w1 := (((Chg.refl _ v).alloc _).drew).trans (Chg.grown hgrow (fun k e => hnew k e)) (fun i hi => .inl hi)
            rw [vl_mk] at O1
            try rw [hM] at O1
            try rw [hM]
          all_goals
            go_wp2
            refine hK _ _ ⟨⟨w1, CH⟩, rfl⟩ ?_
            clear hK K
            refine hold_done ?_
            have V1 := V.blk (CH.block s V.lt hts) CH.size
            have d1 := V1.dg (i * 3 + 1) (by omega)
            rw [sf1] at d1
            have f1 := V1.fz (i * 3 + 1)
            have ls1 := V1.lt
            go_wp2
            go_roundg (gk - 1)
            case measure => omega
            case rel =>
              refine ⟨k + 1, by omega, by go_num, Chg.setCell (S := fun b => b = s) (C.trans CH (fun b hb => .inr hb)) (.inl (Eq.refl s)) _, _, by rw [← upJ_twice]; exact V1.long i _, .inr ⟨by omega, by rw [← Nat.add_assoc, hM]; exact own_set O1 (by simp [Value.ownBlock]; omega) _, fun g hg => ?_⟩⟩
              simp only [Value.ownBlock, Option.some.injEq] at hg
              omega
        · have hkl' : ¬ (k : Int) < 24 := by omega
          obtain rfl : k = 24 := by omega
          rcases hX with ⟨h, _⟩ | ⟨_, hX⟩
          · omega
          have FN : Grn w v s n G L (i + 1) := ⟨CW.trans C (fun b hb => .inl hb), _, V, fun j hj => by
            unfold upJ
            by_cases e : j = i
            · rw [if_pos e, e]
              exact ⟨hX.1, fun g hg => by have := hX.2 g hg; have := CW.size; omega⟩
            · rw [if_neg e]
              exact (HJ.out j (by omega)).chg C (fun b hb _ e => by omega)⟩
          clear V hX C
          go_wp2
          go_roundg (gko - 1)
          case measure => omega
          case rel => exact ⟨i + 1, by omega, by go_num, FN⟩
    · have hii : ¬ (i : Int) < (n : Int) := by omega
      obtain rfl : i = n := by omega
      go_wp2
      go_end0
      exact ⟨rfl, F⟩
end Go.Proofs.Ythnmofnlcepffaa
