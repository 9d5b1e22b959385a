/- What lay and take of package bits do to a row. What Put of package bits does to a row. -/
import Derived.Test.YtemcppakmcffgaaDoorBitB
namespace Go.Proofs.YtemcppakmcffgaaDoor
open Go.RowKit Go.BigFrame
set_option linter.unusedSimpArgs false
set_option linter.unusedVariables false
set_option maxRecDepth 20000 in
set_option maxHeartbeats 4000000 in
theorem lay_any (r sh m : Nat) (u y : Value) (x : Int) (xs : List Value) (w : World) (B : S4m w r (.pointer (some ⟨sh, 0, none⟩)) (.int .i64 m) (.int .u8 x) y) (C : S1m w sh u) (O : w.ownsRow 0 5 1 u m xs)
    (ne : r ≠ sh) (nu : ∀ g, u.ownBlock = some g → g ≠ r ∧ g ≠ sh) (hm : m < 65536) :
    Calls Tryd.prog 102 #[.pointer (some ⟨r, 0, none⟩)] w fun e w' => e = .returned (.tuple #[]) ∧ ∃ u', S4m w' r (.pointer (some ⟨sh, 0, none⟩)) (.int .i64 ((m + 1 : Nat) : Int)) (.int .u8 0) (.int .i64 8) ∧ S1m w' sh u' ∧
      w'.ownsRow 0 5 1 u' (m + 1) (xs ++ [.int .u8 x]) ∧ (∀ g, u'.ownBlock = some g → g ≠ r ∧ g ≠ sh) ∧ Stp w w' r sh u u' := by
  obtain ⟨i0, hi0, hz0, hz1, hz2⟩ := info_parts info_byte
  obtain ⟨ad, cap, rfl⟩ := own_slice O
  have EX := Ext.refl w
  have b0 := B.c0
  have b1 := B.c1
  have b2 := B.c2
  have d0 := C.c0
  go_enter Tryd.func102, Tryd.ntmps102
  go_upto_region 0 with fail
  have g0 := fun x' : Grow w => x'.ext.later b0
  have g1 := fun x' : Grow w => x'.ext.later b1
  have g4 := fun x' : Grow w => x'.ext.later d0
  refine wp_region_grow (by kernel_rfl) (by kernel_rfl) ?_; (repeat (first | go_big_quiet_step (fail))); refine wpQuiet_nil ?_; clear g0 g1 g4; rintro _ ⟨xq, rfl⟩; replace EX := Ext.trans EX xq.ext
  replace B := B.later xq.ext
  replace C := C.later xq.ext
  replace O := own_ext' O xq.ext
  generalize xq.out = v at *
  have b0 := B.c0
  have b1 := B.c1
  have b2 := B.c2
  have d0 := C.c0
  have lr := B.lt
  have ls := C.lt
  have fs := C.fz 0
  go_upto_region 2 with fail
  have nr : some r ≠ (Value.slice ad m cap).ownBlock := fun e => (nu r e.symm).1 rfl
  have ns : some sh ≠ (Value.slice ad m cap).ownBlock := fun e => (nu sh e.symm).2 rfl
  have tr : ¬ (Value.slice ad m cap).ownBlock = some r := fun e => nr e.symm
  have ts : ¬ (Value.slice ad m cap).ownBlock = some sh := fun e => ns e.symm
  have g0 := fun x' : Alt (fun k => (Value.slice ad m cap).ownBlock = some k) v => x'.cell tr b0
  have g2 := fun x' : Alt (fun k => (Value.slice ad m cap).ownBlock = some k) v => x'.cell tr b2
  have g4 := fun x' : Alt (fun k => (Value.slice ad m cap).ownBlock = some k) v => x'.cell ts d0
  refine wp_region_reads (fun i => decide (i < 15)) 2 17 (fun w' => ∃ x : Alt (fun k => (Value.slice ad m cap).ownBlock = some k) v, w' = x.out) (by kernel_rfl) (by kernel_rfl) (fun c a x v w h => by cases x <;> exact h) ⟨⟨v.drew, (Chg.refl _ v).drew⟩, rfl⟩ ?_
  intro l1 l2 h1 h2
  simp [pickB] at h1 h2
  subst h1 h2
  (repeat (first | go_big_quiet_step (fail))); refine wpQuiet_nil ?_; clear g0 g2 g4
  refine hold_step (n := 1) fun K hK => ?_
  go_wp2
  refine hK _ _ ⟨⟨_, ((Chg.refl _ v).alloc _).drew⟩, rfl⟩ ?_
  clear hK K
  refine hold_step (n := 0) fun K hK => ?_
  go_wp2_with (first | (at_builtin; refine wpList_append_lies _ (by rfl) _ _ _ (by rfl) 0 5 i0 _ 1 1 Tryd.underlying28 hi0 hz0 hz1 hz2 rfl (by omega) (.slice ad m cap) m xs (by rfl) ((O.alloc _).drew) ⟨v.heap.size, 0, none⟩ 1 1 [.int .u8 x] (by rfl) (by rfl) (World.news_of_block (cs := #[.int .u8 x]) (t := 5) (fr := (0, 0)) (heap_alloc_new v _)) (by simp [Value.oneCell']) (by omega) (by unfold maxLen; omega) (by omega) (by simp) (v.heap.size + 1) (by simp) ?_))
  intro gg cap' w1 hown1 hgrow hat hlt
  go_wp2
  have CH : Chg (fun k => (Value.slice ad m cap).ownBlock = some k) v w1 := (((Chg.refl _ v).alloc _).drew).trans (Chg.grown hgrow (fun k e => e)) (fun i hi => .inl hi)
  refine hK _ _ ⟨⟨w1, CH⟩, rfl⟩ ?_
  clear hK K
  refine hold_done ?_
  have B1 := B.blk (CH.block r B.lt tr)
  have C1 := C.blk (CH.block sh C.lt ts)
  have k0 := B1.c0
  have k1 := B1.c1
  have k2 := B1.c2
  have k3 := B1.c3
  have l0 := C1.c0
  have f1 := B1.fz
  have f2 := C1.fz 0
  have nrs : sh ≠ r := fun e => ne e.symm
  go_wp2
  have gr : gg ≠ r := by rcases hat with h | h; exact (nu gg h).1; omega
  have gs : gg ≠ sh := by rcases hat with h | h; exact (nu gg h).2; omega
  go_end0
  refine ⟨rfl, .slice (some ⟨gg, 0, none⟩) (m + 1) cap', ?_, ?_, ?_, ?_, ?_, ?_⟩
  · exact (((B1.skip nrs).set1 _).set2 _).set3 _
  · exact (((C1.set0 _).skip ne).skip ne).skip ne
  · exact own_set (own_set (own_set (own_set hown1 (by simp [Value.ownBlock, gs]) _) (by simp [Value.ownBlock, gr]) _) (by simp [Value.ownBlock, gr]) _) (by simp [Value.ownBlock, gr]) _
  · intro g hg
    simp only [Value.ownBlock, Option.some.injEq] at hg
    subst hg
    exact ⟨gr, gs⟩
  · exact (((((Chg.of EX).trans CH (fun i hi => .inl (.inr (.inr hi)))).setCell (.inl (.inr (.inl rfl))) _).setCell (.inl (.inl rfl)) _).setCell (.inl (.inl rfl)) _).setCell (.inl (.inl rfl)) _
  · intro g hg
    simp only [Value.ownBlock, Option.some.injEq] at hg
    subst hg
    exact hat.imp id (fun h => by have := EX.more; omega)
theorem or8 (a b : Int) (f : Nat) (k : Nat) (hf : f + k ≤ 8) (h0 : 0 ≤ a) (ha : a < 2 ^ (8 - (f + k))) (b0 : 0 ≤ b) (hb : b < 2 ^ k) : bits .or .u8 (a * 2 ^ (f + k)) (b * 2 ^ f % 256) = (a * 2 ^ k + b) * 2 ^ f := by
  have p1 := pow_pos2 f
  have p2 := pow_pos2 (f + k)
  have h1 : b * 2 ^ f < 2 ^ (f + k) := by
    rw [Nat.add_comm, pow_add2]
    exact Int.mul_lt_mul_of_pos_right hb p1
  have h2 : (2 : Int) ^ (f + k) ≤ 256 := pow_le2 (n := 8) hf
  have h3 : 0 ≤ b * 2 ^ f := Int.mul_nonneg b0 (Int.le_of_lt p1)
  have h4 : a * 2 ^ (f + k) < 256 := by
    have : a * 2 ^ (f + k) < 2 ^ (8 - (f + k)) * 2 ^ (f + k) := Int.mul_lt_mul_of_pos_right ha p2
    rw [← pow_add2, show 8 - (f + k) + (f + k) = 8 by omega] at this
    exact this
  have h5 : 0 ≤ a * 2 ^ (f + k) := Int.mul_nonneg h0 (Int.le_of_lt p2)
  rw [Int.emod_eq_of_lt h3 (by omega), bits_join .u8 8 (by decide) wraps_u8 (f + k) _ _ h5 (Int.mul_emod_left _ _) h4 h3 h1 (by show _ < (256 : Int); omega), Int.add_mul, Int.mul_assoc, ← pow_add2, Nat.add_comm k f]
set_option maxRecDepth 20000 in
set_option maxHeartbeats 4000000 in
theorem take_any (r sh n k : Nat) (u : Value) (β : Nat → Int) (w : World) (R : Row w r sh u β n) (hk : n % 8 + k ≤ 8) (hn : n + k ≤ 524288) :
    Calls Tryd.prog 91 #[.pointer (some ⟨r, 0, none⟩), .int .u32 (nb β n k), .int .i64 k] w fun e w' => e = .returned (.tuple #[]) ∧ ∃ u', Row w' r sh u' β (n + k) ∧ Stp w w' r sh u u' := by
  have B := R.box
  obtain ⟨d, hd⟩ : ∃ d, n % 8 + k + d = 8 := ⟨8 - (n % 8 + k), by omega⟩
  have hpk := nb_in R.bits n k
  have hxk := nb_in R.bits (8 * (n / 8)) (n % 8)
  have hfr : ((8 - n % 8 : Nat) : Int) - (k : Int) = (d : Int) := by omega
  have hsum : nb β (8 * (n / 8)) (n % 8 + k) = nb β (8 * (n / 8)) (n % 8) * 2 ^ k + nb β n k := by rw [nb_add, show 8 * (n / 8) + n % 8 = n by omega]
  have HV : bits .or .u8 (nb β (8 * (n / 8)) (n % 8) * 2 ^ (8 - n % 8)) (nb β n k * 2 ^ d % 256) = nb β (8 * (n / 8)) (n % 8 + k) * 2 ^ d := by
    rw [hsum, show 8 - n % 8 = d + k by omega]
    exact or8 _ _ d k (by omega) hxk.1 (by rw [show 8 - (d + k) = n % 8 by omega]; exact hxk.2) hpk.1 hpk.2
  have p0 := hpk.1
  have p1 : nb β n k < 4294967296 := by have := hpk.2; have := pow32 (k := k) (by omega); omega
  have k8 : k ≤ 8 := by omega
  have d8 : d ≤ 8 := by omega
  have hlay := fun (w1 : World) (B1 : S4m w1 r (.pointer (some ⟨sh, 0, none⟩)) (.int .i64 ((n / 8 : Nat) : Int)) (.int .u8 (nb β (8 * (n / 8)) (n % 8 + k) * 2 ^ d)) (.int .i64 (d : Int))) (C1 : S1m w1 sh u) (O1) (hm) => lay_any r sh (n / 8) u _ _ (vl (n / 8) (fun i => .int .u8 (nb β (8 * i) 8))) w1 B1 C1 O1 R.ne R.nu hm
  have HX : Hid (nb β (8 * (n / 8)) (n % 8 + k) * 2 ^ d = nb β (8 * (n / 8)) (n % 8 + k) * 2 ^ d) := rfl
  generalize hp : nb β n k = p at *
  generalize hx' : nb β (8 * (n / 8)) (n % 8 + k) * 2 ^ d = x' at *
  generalize hx : nb β (8 * (n / 8)) (n % 8) * 2 ^ (8 - n % 8) = x at *
  generalize hm : n / 8 = m at *
  generalize hf : 8 - n % 8 = f at *
  have c2 := B.c2
  have c3 := B.c3
  have f3 := B.fz
  clear hsum hpk hxk HX
  go_enter Tryd.func91, Tryd.ntmps91
  go_upto_region 1 with fail
  refine rebase (G := fun w' => Code.wp _ _ _ _ w') _ (fun v => S4m v r (.pointer (some ⟨sh, 0, none⟩)) (.int .i64 (m : Int)) (.int .u8 x) (.int .i64 (d : Int)) ∧ S1m v sh u ∧ v.ownsRow 0 5 1 u m (vl m (fun i => .int .u8 (nb β (8 * i) 8))) ∧ Chg (In r sh u) w v) ⟨B.set3 _, R.shelf.skip R.ne, own_set (by have := R.own; rw [hm] at this; exact this) (fun e => (R.nu r e).1 rfl) _, (Chg.refl _ w).setCell (.inl (.inl rfl)) _⟩ ?_
  clear c2 c3 f3 B
  rintro v ⟨B, C, O, CH⟩
  have c2 := B.c2
  have c3 := B.c3
  have f2 := B.fz
  have g2 := fun x' : Grow v => x'.ext.later c2
  have g3 := fun x' : Grow v => x'.ext.later c3
  refine wp_region_reads (fun i => decide (i < 12)) 0 12 (fun w' => ∃ x : Grow v, w' = x.out) (by kernel_rfl) (by kernel_rfl) (fun c a x v w h => by cases x <;> exact h) ⟨⟨v.drew, (Ext.refl v).drew⟩, rfl⟩ ?_
  intro l1 l2 h1 h2
  simp [pickB] at h1 h2
  subst h1 h2
  (repeat (first | go_big_quiet_step (fail))); refine wpQuiet_nil ?_; clear g2 g3
  refine hold_done ?_
  go_upto_region 2 with fail
  refine rebase (G := fun w' => Code.wp _ _ _ _ w') _ (fun v1 => S4m v1 r (.pointer (some ⟨sh, 0, none⟩)) (.int .i64 (m : Int)) (.int .u8 x') (.int .i64 (d : Int)) ∧ S1m v1 sh u ∧ v1.ownsRow 0 5 1 u m (vl m (fun i => .int .u8 (nb β (8 * i) 8))) ∧ Chg (In r sh u) w v1) ⟨(B.set2 _).drew, (C.skip R.ne).drew, (own_set O (fun e => (R.nu r e).1 rfl) _).drew, (CH.setCell (.inl (.inl rfl)) _).drew⟩ ?_
  clear c2 c3 f2 B C O CH v
  rintro v ⟨B, C, O, CH⟩
  have c3 := B.c3
  by_cases h0 : d = 0
  · subst h0
    have hl := hlay v B C O (by omega)
    go_wp2_with (first | (go_at_call 102; with_reducible refine hl.mono ?_; rintro e v1 ⟨rfl, u', B', C', O', N', ST⟩))
    go_end0
    have e1 : (n + k) / 8 = m + 1 := by omega
    have e2 : (n + k) % 8 = 0 := by omega
    refine ⟨rfl, u', ⟨?_, C', ?_, R.ne, N', R.bits, hn⟩, Stp.trans ⟨CH, fun g h => .inl h⟩ ST⟩
    · rw [e1, e2, nb_zero, Int.zero_mul]
      exact B'
    · rw [e1, ← vl_snoc]
      have : Value.int .u8 (nb β (8 * m) 8) = .int .u8 x' := by rw [← hx', show n % 8 + k = 8 by omega, Int.pow_zero, Int.mul_one]
      rw [this]
      exact O'
  · have h0' : ((d : Int) == 0) = false := by simp; omega
    go_wp2
    go_end0
    have e1 : (n + k) / 8 = m := by omega
    have e2 : (n + k) % 8 = n % 8 + k := by omega
    refine ⟨rfl, u, ⟨?_, C, ?_, R.ne, R.nu, R.bits, hn⟩, CH, fun g h => .inl h⟩
    · rw [e1, e2, show 8 - (n % 8 + k) = d by omega, hx']
      exact B
    · rw [e1]
      exact O
end Go.Proofs.YtemcppakmcffgaaDoor

namespace Go.Proofs.YtemcppakmcffgaaDoor
open Go.RowKit Go.BigFrame
set_option linter.unusedSimpArgs false
set_option linter.unusedVariables false

theorem div_small {v : Int} {k : Nat} (h0 : 0 ≤ v) (h1 : v < 2 ^ k) : v / 2 ^ k = 0 := Int.ediv_eq_zero_of_lt h0 h1
theorem div_great {v : Int} {k : Nat} (h1 : 2 ^ k ≤ v) : (v / 2 ^ k != 0) = true := by
  have : 1 ≤ v / 2 ^ k := by
    rw [Int.le_ediv_iff_mul_le (pow_pos2 k)]
    omega
  simp; omega
theorem put_nil (v n : Int) (w : World) : Calls Tryd.prog 77 #[.pointer none, .int .u32 v, .int .i64 n] w fun e w' => e = .returned (.int .i64 2) ∧ w' = w := by
  go_enter Tryd.func77, Tryd.ntmps77
  go_wp2
  go_step3
  go_wp2_with (first | (go_at_call 89; with_reducible refine (isThere_nil _).mono ?_; rintro e w' ⟨rfl, rfl⟩))
  rw [Exit.noGoto_ret]; go_ret
  exact ⟨rfl, rfl⟩
theorem put_void (r : Nat) (v n : Int) (w : World) (h : w.cell? ⟨r, 0, none⟩ = some (.pointer none)) : Calls Tryd.prog 77 #[.pointer (some ⟨r, 0, none⟩), .int .u32 v, .int .i64 n] w fun e w' => e = .returned (.int .i64 2) ∧ w' = w := by
  go_enter Tryd.func77, Tryd.ntmps77
  go_wp2
  go_step3
  go_wp2_with (first | (go_at_call 89; with_reducible refine (isThere_void _ _ h).mono ?_; rintro e w' ⟨rfl, rfl⟩))
  rw [Exit.noGoto_ret]; go_ret
  exact ⟨rfl, rfl⟩
set_option maxHeartbeats 1600000 in
theorem put_arg (r sh n : Nat) (u : Value) (β : Nat → Int) (v k : Int) (w : World) (R : Row w r sh u β n) (h0 : 0 ≤ v) (h1 : v < 4294967296) (hk : In64 k) (h : k < 0 ∨ 32 < k ∨ (0 ≤ k ∧ k ≤ 32 ∧ 2 ^ k.toNat ≤ v)) :
    Calls Tryd.prog 77 #[.pointer (some ⟨r, 0, none⟩), .int .u32 v, .int .i64 k] w fun e w' => e = .returned (.int .i64 1) ∧ Ext w w' := by
  have EX := Ext.refl w
  have c0 := R.box.c0
  clear R
  rcases (show k < 0 ∨ (¬ k < 0 ∧ 32 < k) ∨ (0 ≤ k ∧ k ≤ 32 ∧ 2 ^ k.toNat ≤ v) by omega) with h | ⟨h, h'⟩ | ⟨h, h', h''⟩
  · go_enter Tryd.func77, Tryd.ntmps77
    go_wp2
    go_step3
    go_wp2_with (first | (go_at_call 89; with_reducible refine (isThere_any _ _ _ c0).mono ?_; rintro e w' ⟨rfl, rfl⟩))
    rw [Exit.noGoto_ret]; go_ret
    exact ⟨rfl, EX⟩
  · go_enter Tryd.func77, Tryd.ntmps77
    go_wp2
    go_step3
    go_wp2_with (first | (go_at_call 89; with_reducible refine (isThere_any _ _ _ c0).mono ?_; rintro e w' ⟨rfl, rfl⟩))
    rw [Exit.noGoto_ret]; go_ret
    exact ⟨rfl, EX⟩
  · obtain ⟨j, rfl⟩ := Int.eq_ofNat_of_zero_le h
    have hj : (v / 2 ^ j != 0) = true := div_great h''
    have hj2 : j ≤ 32 := by omega
    clear h h' h''
    go_enter Tryd.func77, Tryd.ntmps77
    go_wp2
    go_step3
    go_wp2_with (first | (go_at_call 89; with_reducible refine (isThere_any _ _ _ c0).mono ?_; rintro e w' ⟨rfl, rfl⟩))
    rw [Exit.noGoto_ret]; go_ret
    exact ⟨rfl, EX⟩
set_option maxHeartbeats 1600000 in
theorem put_limit (r sh n k : Nat) (u : Value) (β : Nat → Int) (v : Int) (w : World) (R : Row w r sh u β n) (h0 : 0 ≤ v) (hk : k ≤ 32) (h1 : v < 2 ^ k) (h : 524288 < n + k) :
    Calls Tryd.prog 77 #[.pointer (some ⟨r, 0, none⟩), .int .u32 v, .int .i64 k] w fun e w' => e = .returned (.int .i64 3) ∧ Ext w w' := by
  have EX := Ext.refl w
  have c0 := R.box.c0
  have hj : v / 2 ^ k = 0 := div_small h0 h1
  have hL := len_any r sh n u β w R
  have hle := R.le
  have v1 : v < 4294967296 := by have := pow32 hk; omega
  clear R
  go_enter Tryd.func77, Tryd.ntmps77
  go_wp2
  go_step3
  go_wp2_with (first | (go_at_call 89; with_reducible refine (isThere_any _ _ _ c0).mono ?_; rintro e w' ⟨rfl, rfl⟩) | (go_at_call 90; with_reducible refine hL.mono ?_; rintro e v1 ⟨rfl, hb⟩; replace EX := Ext.trans EX hb))
  rw [Exit.noGoto_ret]; go_ret
  exact ⟨rfl, EX⟩
set_option maxRecDepth 20000 in
set_option maxHeartbeats 4000000 in
theorem put_any (r sh n k : Nat) (u : Value) (β : Nat → Int) (v : Int) (w : World) (R : Row w r sh u β n) (hk : k ≤ 32) (hv : nb β n k = v) (h : n + k ≤ 524288) :
    Calls Tryd.prog 77 #[.pointer (some ⟨r, 0, none⟩), .int .u32 v, .int .i64 k] w fun e w' => e = .returned (.int .i64 0) ∧ ∃ u', Row w' r sh u' β (n + k) ∧ Stp w w' r sh u u' := by
  have c0 := R.box.c0
  have hvk := nb_in R.bits n k
  rw [hv] at hvk
  obtain ⟨h0, h1⟩ := hvk
  have hj : v / 2 ^ k = 0 := div_small h0 h1
  have hL := len_any r sh n u β w R
  have hle := R.le
  have v1 : v < 4294967296 := by have := pow32 hk; omega
  have HV : Hid (nb β n k = v) := hv
  have HR : Hid (Row w r sh u β n) := R
  clear R hv
  go_enter Tryd.func77, Tryd.ntmps77
  go_wp2
  refine wp_back 0 (fun a' w' => ∃ (u' : Value) (j m : Nat) (u3 u4 u5 u7 u8 u9 u10 u11 u12 u13 u14 u15 u16 u17 u18 u19 u20 u21 u22 u23 u24 u25 u26 u27 u28 u29 u30 u31 u32 u33 u34 u35 u36 u37 u38 u39 u40 u41 u42 u43 u44 u45 : Value), Row w' r sh u' β (n + j) ∧ Stp w w' r sh u u' ∧ j + m = k ∧ a' = { tmps := #[.pointer (some ⟨r, 0, none⟩), .int .u32 v, .int .i64 m, u3, u4, u5, .int .i64 0, u7, u8, u9, u10, u11, u12, u13, u14, u15, u16, u17, u18, u19, u20, u21, u22, u23, u24, u25, u26, u27, u28, u29, u30, u31, u32, u33, u34, u35, u36, u37, u38, u39, u40, u41, u42, u43, u44, u45], defers := [] }) (fun a' _ => (match a'.tmps.getD 2 undef with | .int _ z => z.toNat | _ => 0)) rfl ?_ ?_
  · intro core
    go_wp2_with (first | (go_at_call 89; with_reducible refine (isThere_any _ _ _ c0).mono ?_; rintro e w' ⟨rfl, rfl⟩) | (go_at_call 90; with_reducible refine hL.mono ?_; rintro e v1 ⟨rfl, hb⟩))
    go_step3
    rename_i hK
    exact hK _ _ (core _ _ ⟨u, 0, k, _, _, _, _, _, _, _, _, _, _, _, _, _, _, _, _, _, _, _, _, _, _, _, _, _, _, _, _, _, _, _, _, _, _, _, _, _, _, _, _, _, _, HR.out.later hb, Stp.of _ _ _ hb, by omega, rfl⟩)
  · rintro a' w' ⟨u', j, m, u3, u4, u5, u7, u8, u9, u10, u11, u12, u13, u14, u15, u16, u17, u18, u19, u20, u21, u22, u23, u24, u25, u26, u27, u28, u29, u30, u31, u32, u33, u34, u35, u36, u37, u38, u39, u40, u41, u42, u43, u44, u45, R, ST, hjm, rfl⟩
    clear c0 hL
    by_cases hm : m = 0
    · subst hm
      obtain rfl : j = k := by omega
      clear HR HV
      go_wp2
      simp only [Exit.jump]
      go_ret
      exact ⟨rfl, u', R, ST⟩
    · have hm0 : ((m : Int) == 0) = false := by simp; omega
      have c3 := R.box.c3
      obtain ⟨f, hf⟩ : ∃ f : Nat, 8 - (n + j) % 8 = f := ⟨_, rfl⟩
      rw [hf] at c3
      obtain ⟨q, hq⟩ : ∃ q : Nat, (if f < m then (f : Int) else (m : Int)) = (q : Int) := ⟨if f < m then f else m, by split <;> rfl⟩
      have hq' : q ≤ m ∧ q ≤ f ∧ (0 < f → 0 < q) := by split at hq <;> omega
      obtain ⟨m', hm'⟩ : ∃ m' : Nat, (m : Int) - (q : Int) = (m' : Int) := ⟨m - q, by omega⟩
      have hpc : v / 2 ^ m' % 2 ^ q = nb β (n + j) q := by
        rw [← HV.out, show k = j + q + m' by omega, nb_piece R.bits]
      have P1 := fun w => piece_any v m' q h0 v1 (by omega) (by omega) w
      rw [hpc] at P1
      have T1 := fun w1 (hb : Ext w' w1) => take_any r sh (n + j) q u' β w1 (R.later hb) (by omega) (by omega)
      have HN : Hid (j + q + m' = k ∧ m' < m ∧ 0 < m) := ⟨by omega, by omega, by omega⟩
      have f8 : f ≤ 8 := by omega
      generalize nb β (n + j) q = p at *
      clear HR hpc hq' hm hf HV
      go_wp2_with (first | (go_at_call 92; with_reducible refine (P1 _).mono ?_; rintro e v1 ⟨rfl, hb⟩) | (go_at_call 91; with_reducible refine (T1 _ hb).mono ?_; rintro e v2 ⟨rfl, u'', R2, ST2⟩))
      go_step3
      refine ⟨rfl, ⟨u'', j + q, m', _, _, _, _, _, _, _, _, _, _, _, _, _, _, _, _, _, _, _, _, _, _, _, _, _, _, _, _, _, _, _, _, _, _, _, _, _, _, _, _, _, _, by rw [← Nat.add_assoc]; exact R2, ST.trans ((Stp.of _ _ _ hb).trans ST2), HN.out.1, rfl⟩, ?hmes⟩
      case hmes => simp; have := HN.out.2; omega
end Go.Proofs.YtemcppakmcffgaaDoor
