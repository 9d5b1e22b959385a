/- What the law RecordsRoom leans on: a number with one bit more, a vertex changed in one of its cells, room that is there no more. -/
import Derived.Test.YtemcppakmcffgaaDoorLawRfit
import Derived.Laws.BitsAllLaws
namespace Go.Proofs.YtemcppakmcffgaaDoor
open Go.RowKit Go.BigFrame
set_option linter.unusedSimpArgs false
set_option linter.unusedVariables false
theorem or_bd {n a b : Nat} (h1 : a < 2 ^ n) (h2 : b < 2 ^ n) : b ≤ a ||| b ∧ a ||| b < 2 ^ n := ⟨Nat.right_le_or, Nat.or_lt_two_pow h1 h2⟩
theorem or16_bd (a b : Int) (h1 : 0 ≤ a) (h2 : a < 65536) (h3 : 0 ≤ b) (h4 : b < 65536) : b ≤ bits .or .u16 a b ∧ bits .or .u16 a b < 65536 := by
  obtain ⟨a, rfl⟩ := Int.eq_ofNat_of_zero_le h1
  obtain ⟨b, rfl⟩ := Int.eq_ofNat_of_zero_le h3
  rw [u16_or_nat a b (by omega) (by omega)]
  have := or_bd (n := 16) (show a < 2 ^ 16 by omega) (show b < 2 ^ 16 by omega)
  have e : (2 : Nat) ^ 16 = 65536 := rfl
  omega
theorem or32_bd (a b : Int) (h1 : 0 ≤ a) (h2 : a < 4294967296) (h3 : 0 ≤ b) (h4 : b < 4294967296) : b ≤ bits .or .u32 a b ∧ bits .or .u32 a b < 4294967296 := by
  obtain ⟨a, rfl⟩ := Int.eq_ofNat_of_zero_le h1
  obtain ⟨b, rfl⟩ := Int.eq_ofNat_of_zero_le h3
  rw [u32_or_nat a b (by omega) (by omega)]
  have := or_bd (n := 32) (show a < 2 ^ 32 by omega) (show b < 2 ^ 32 by omega)
  have e : (2 : Nat) ^ 32 = 4294967296 := rfl
  omega
theorem or8_bd (a b : Int) (h1 : 0 ≤ a) (h2 : a < 256) (h3 : 0 ≤ b) (h4 : b < 256) : b ≤ bits .or .u8 a b ∧ bits .or .u8 a b < 256 := by
  obtain ⟨a, rfl⟩ := Int.eq_ofNat_of_zero_le h1
  obtain ⟨b, rfl⟩ := Int.eq_ofNat_of_zero_le h3
  rw [u8_or_nat a b (by omega) (by omega)]
  have := or_bd (n := 8) (show a < 2 ^ 8 by omega) (show b < 2 ^ 8 by omega)
  have e : (2 : Nat) ^ 8 = 256 := rfl
  omega
theorem or16_0 (a : Int) (h1 : 0 ≤ a) (h2 : a < 65536) : bits .or .u16 a 0 = a := by
  obtain ⟨a, rfl⟩ := Int.eq_ofNat_of_zero_le h1
  have := u16_or_nat a 0 (by omega) (by omega)
  simpa using this
theorem or32_0 (a : Int) (h1 : 0 ≤ a) (h2 : a < 4294967296) : bits .or .u32 a 0 = a := by
  obtain ⟨a, rfl⟩ := Int.eq_ofNat_of_zero_le h1
  have := u32_or_nat a 0 (by omega) (by omega)
  simpa using this
theorem or8_0 (a : Int) (h1 : 0 ≤ a) (h2 : a < 256) : bits .or .u8 a 0 = a := by
  obtain ⟨a, rfl⟩ := Int.eq_ofNat_of_zero_le h1
  have := u8_or_nat a 0 (by omega) (by omega)
  simpa using this
/-- A list of vertices, one cell of one of them written over. -/
theorem room_set {v : World} {g cap j x t : Nat} {y : Value} {F : Nat → Rcd} {K : Rcd} (SL : Lst v 63 7 (.slice (some ⟨g, 0, none⟩) j cap) j (fun i => rv (F i))) (VF : Vs v (some ⟨g, 0, none⟩) j F) (hx : x < j) (ht : t < 7)
    (hK : ∀ s, s < 7 → rv K s = if s = t then y else rv (F x) s) (b1 : 0 ≤ K.f ∧ K.f < 256) (b2 : 0 ≤ K.x ∧ K.x < 4294967296) (b3 : 0 ≤ K.y ∧ K.y < 4294967296) (b4 : ∀ k, k < 4 → 0 ≤ K.c k ∧ K.c k < 65536) :
    Vs (v.setCell ⟨g, x * 7 + t, none⟩ y) (some ⟨g, 0, none⟩) j (fun i => if i = x then K else F i) := by
  have S2 := (SL.set hx ht y).congr (Y := fun i => rv (if i = x then K else F i)) (fun i s _ hs => by
    unfold upx
    by_cases e : i = x
    · subst e
      rw [if_pos rfl, hK s hs]
      by_cases e2 : s = t
      · rw [if_pos ⟨rfl, e2⟩, if_pos e2]
      · rw [if_neg (fun h => e2 h.2), if_neg e2]
    · rw [if_neg (fun h => e h.1), if_neg e])
  refine ⟨S2.es_rec VF.es.len, fun i hi => ?_, fun i hi => ?_, fun i hi => ?_, fun i k hi hk => ?_⟩
  all_goals
    skip
    by_cases e : i = x
    · rw [if_pos e]; first | exact b1 | exact b2 | exact b3 | exact b4 k hk
    · rw [if_neg e]; first | exact VF.f i hi | exact VF.x i hi | exact VF.y i hi | exact VF.c i k hi hk
/-- What is known of the list when one cell has been written over: it is a list of vertices, and there is no room, or all have room as ahead. -/
def Wrote (fl c p n : Nat) (w : World) (a : Option Addr) (j x : Nat) (mr : Bool) : Prop := ∃ R, Vs w a j R ∧ ((mr = true ∧ ¬ Room fl c p n (R x)) ∨ (mr = false ∧ ∀ i, i < j → Room fl c p n (R i)))
section
variable {v : World} {g cap j x fl c p n : Nat} {F : Nat → Rcd}
theorem wrote_f {z : Int} {mr : Bool} (SL : Lst v 63 7 (.slice (some ⟨g, 0, none⟩) j cap) j (fun i => rv (F i))) (VF : Vs v (some ⟨g, 0, none⟩) j F) (hr : ∀ i, i < j → Room fl c p n (F i)) (hx : x < j) (hz : 0 ≤ z ∧ z < 256)
    (h : (mr = true ∧ (2 : Int) ^ fl ≤ z) ∨ (mr = false ∧ z = (F x).f)) : Wrote fl c p n (v.setCell ⟨g, x * 7 + 0, none⟩ (.int .u8 z)) (some ⟨g, 0, none⟩) j x mr := by
  refine ⟨_, room_set (K := ⟨z, (F x).x, (F x).y, (F x).c⟩) SL VF hx (by decide) (fun s hs => match s, hs with | 0, _ => rfl | 1, _ => rfl | 2, _ => rfl | 3, _ => rfl | 4, _ => rfl | 5, _ => rfl | 6, _ => rfl) hz (VF.x x hx) (VF.y x hx) (fun k hk => VF.c x k hx hk), ?_⟩
  rcases h with ⟨h1, h2⟩ | ⟨h1, h2⟩
  · refine .inl ⟨h1, fun hR => ?_⟩
    rw [if_pos rfl] at hR
    have := hR.f.2
    dsimp only at this
    omega
  · refine .inr ⟨h1, fun i hi => ?_⟩
    by_cases e : i = x
    · subst e
      rw [if_pos rfl, h2]
      exact hr i hi
    · rw [if_neg e]; exact hr i hi
theorem wrote_x {z : Int} {mr : Bool} (SL : Lst v 63 7 (.slice (some ⟨g, 0, none⟩) j cap) j (fun i => rv (F i))) (VF : Vs v (some ⟨g, 0, none⟩) j F) (hr : ∀ i, i < j → Room fl c p n (F i)) (hx : x < j) (hz : 0 ≤ z ∧ z < 4294967296)
    (h : (mr = true ∧ (2 : Int) ^ c ≤ z) ∨ (mr = false ∧ z = (F x).x)) : Wrote fl c p n (v.setCell ⟨g, x * 7 + 1, none⟩ (.int .u32 z)) (some ⟨g, 0, none⟩) j x mr := by
  refine ⟨_, room_set (K := ⟨(F x).f, z, (F x).y, (F x).c⟩) SL VF hx (by decide) (fun s hs => match s, hs with | 0, _ => rfl | 1, _ => rfl | 2, _ => rfl | 3, _ => rfl | 4, _ => rfl | 5, _ => rfl | 6, _ => rfl) (VF.f x hx) hz (VF.y x hx) (fun k hk => VF.c x k hx hk), ?_⟩
  rcases h with ⟨h1, h2⟩ | ⟨h1, h2⟩
  · refine .inl ⟨h1, fun hR => ?_⟩
    rw [if_pos rfl] at hR
    have := hR.x.2
    dsimp only at this
    omega
  · refine .inr ⟨h1, fun i hi => ?_⟩
    by_cases e : i = x
    · subst e
      rw [if_pos rfl, h2]
      exact hr i hi
    · rw [if_neg e]; exact hr i hi
theorem wrote_y {z : Int} {mr : Bool} (SL : Lst v 63 7 (.slice (some ⟨g, 0, none⟩) j cap) j (fun i => rv (F i))) (VF : Vs v (some ⟨g, 0, none⟩) j F) (hr : ∀ i, i < j → Room fl c p n (F i)) (hx : x < j) (hz : 0 ≤ z ∧ z < 4294967296)
    (h : (mr = true ∧ (2 : Int) ^ c ≤ z) ∨ (mr = false ∧ z = (F x).y)) : Wrote fl c p n (v.setCell ⟨g, x * 7 + 2, none⟩ (.int .u32 z)) (some ⟨g, 0, none⟩) j x mr := by
  refine ⟨_, room_set (K := ⟨(F x).f, (F x).x, z, (F x).c⟩) SL VF hx (by decide) (fun s hs => match s, hs with | 0, _ => rfl | 1, _ => rfl | 2, _ => rfl | 3, _ => rfl | 4, _ => rfl | 5, _ => rfl | 6, _ => rfl) (VF.f x hx) (VF.x x hx) hz (fun k hk => VF.c x k hx hk), ?_⟩
  rcases h with ⟨h1, h2⟩ | ⟨h1, h2⟩
  · refine .inl ⟨h1, fun hR => ?_⟩
    rw [if_pos rfl] at hR
    have := hR.y.2
    dsimp only at this
    omega
  · refine .inr ⟨h1, fun i hi => ?_⟩
    by_cases e : i = x
    · subst e
      rw [if_pos rfl, h2]
      exact hr i hi
    · rw [if_neg e]; exact hr i hi
theorem wrote_c {k : Nat} {z : Int} {mr : Bool} (SL : Lst v 63 7 (.slice (some ⟨g, 0, none⟩) j cap) j (fun i => rv (F i))) (VF : Vs v (some ⟨g, 0, none⟩) j F) (hr : ∀ i, i < j → Room fl c p n (F i)) (hx : x < j) (hk : k < 4) (hz : 0 ≤ z ∧ z < 65536)
    (h : (mr = true ∧ (k < n ∧ (2 : Int) ^ p ≤ z ∨ n ≤ k ∧ 1 ≤ z)) ∨ (mr = false ∧ z = (F x).c k)) : Wrote fl c p n (v.setCell ⟨g, x * 7 + (3 + k), none⟩ (.int .u16 z)) (some ⟨g, 0, none⟩) j x mr := by
  have E : ∀ s, s < 7 → rv ⟨(F x).f, (F x).x, (F x).y, fun i => if i = k then z else (F x).c i⟩ s = if s = 3 + k then .int .u16 z else rv (F x) s := fun s hs => by
    match s, hs with
    | 0, _ => rw [if_neg (by omega)]; rfl
    | 1, _ => rw [if_neg (by omega)]; rfl
    | 2, _ => rw [if_neg (by omega)]; rfl
    | s + 3, _ =>
      by_cases e : s = k
      · rw [if_pos (by omega)]; show Value.int .u16 (if s = k then z else _) = _; rw [if_pos e]
      · rw [if_neg (by omega)]; show Value.int .u16 (if s = k then z else _) = _; rw [if_neg e]; rfl
  refine ⟨_, room_set (K := ⟨(F x).f, (F x).x, (F x).y, fun i => if i = k then z else (F x).c i⟩) SL VF hx (by omega) E (VF.f x hx) (VF.x x hx) (VF.y x hx) (fun i hi => ?_), ?_⟩
  · dsimp only
    split
    · exact hz
    · exact VF.c x i hx hi
  rcases h with ⟨h1, h2⟩ | ⟨h1, h2⟩
  · refine .inl ⟨h1, fun hR => ?_⟩
    rw [if_pos rfl] at hR
    rcases h2 with ⟨h2, h3⟩ | ⟨h2, h3⟩
    · have := (hR.c k h2).2
      dsimp only at this
      rw [if_pos rfl] at this
      omega
    · have := hR.z k h2 hk
      dsimp only at this
      rw [if_pos rfl] at this
      omega
  · refine .inr ⟨h1, fun i hi => ?_⟩
    by_cases e : i = x
    · subst e
      rw [if_pos rfl]
      have e3 : (fun i' => if i' = k then z else (F i).c i') = (F i).c := funext fun i' => by
        by_cases e4 : i' = k
        · rw [if_pos e4, h2, e4]
        · rw [if_neg e4]
      rw [e3]
      exact hr i hi
    · rw [if_neg e]; exact hr i hi
end
/-- Put's answer, of a list that was written so. -/
theorem room_err {L : Lay} {fl c p n sz N x M : Nat} {y : Int} {R : Nat → Rcd} (V : Vl L fl c p n sz) (hx : x < N) (h : ¬ Room fl c p n (R x)) (hp : PutIs L R N y M) : y = 1 ∧ M = 0 := by
  obtain ⟨e1, e2, e3, e4⟩ : (flg L).toNat = fl ∧ L.c.toNat = c ∧ L.p.toNat = p ∧ L.n.toNat = n := by
    rw [V.ef, V.ec, V.ep, V.en]; exact ⟨rfl, rfl, rfl, rfl⟩
  exact hp.one (.inr (.inl ⟨V.may, fun hr => h (by have := hr x hx; unfold RoomL at this; rw [e1, e2, e3, e4] at this; exact this), rfl, rfl⟩))
theorem shl16' {p : Nat} (hp : p ≤ 16) : IntKind.u16.wrap (2 ^ p % 4294967296) = if p = 16 then 0 else 2 ^ p := by
  have : ∀ f : Fin 17, IntKind.u16.wrap (2 ^ f.val % 4294967296) = if f.val = 16 then 0 else 2 ^ f.val := by decide
  exact this ⟨p, by omega⟩
theorem shl8 {f : Nat} (hf : f ≤ 8) : IntKind.u8.wrap (IntKind.u32.wrap (2 ^ f)) = if f = 8 then 0 else 2 ^ f := by
  have : ∀ f : Fin 9, IntKind.u8.wrap (IntKind.u32.wrap (2 ^ f.val)) = if f.val = 8 then 0 else 2 ^ f.val := by decide
  exact this ⟨f, by omega⟩
theorem shl16 {p : Nat} (hp : p ≤ 16) : IntKind.u16.wrap (IntKind.u32.wrap (2 ^ p)) = if p = 16 then 0 else 2 ^ p := by
  have : ∀ f : Fin 17, IntKind.u16.wrap (IntKind.u32.wrap (2 ^ f.val)) = if f.val = 16 then 0 else 2 ^ f.val := by decide
  exact this ⟨p, by omega⟩
theorem shl32 {c : Nat} (hc : c ≤ 32) : IntKind.u32.wrap (IntKind.u64.wrap (2 ^ c)) = if c = 32 then 0 else 2 ^ c := by
  have : ∀ f : Fin 33, IntKind.u32.wrap (IntKind.u64.wrap (2 ^ f.val)) = if f.val = 32 then 0 else 2 ^ f.val := by decide
  exact this ⟨c, by omega⟩
theorem shl8' {p : Nat} (hp : p ≤ 8) : IntKind.u8.wrap (2 ^ p % 4294967296) = if p = 8 then 0 else 2 ^ p := by
  have : ∀ f : Fin 9, IntKind.u8.wrap (2 ^ f.val % 4294967296) = if f.val = 8 then 0 else 2 ^ f.val := by decide
  exact this ⟨p, by omega⟩
theorem shl8'' {p : Nat} (hp : p ≤ 8) : (2 : Int) ^ p % 256 = if p = 8 then 0 else 2 ^ p := by
  have : ∀ f : Fin 9, (2 : Int) ^ f.val % 256 = if f.val = 8 then 0 else 2 ^ f.val := by decide
  exact this ⟨p, by omega⟩
theorem mod_mod8 (x : Int) : x % 4294967296 % 256 = x % 256 := by omega
theorem shl32' {c : Nat} (hc : c ≤ 32) : IntKind.u64.wrap (2 ^ c) % 4294967296 = if c = 32 then 0 else 2 ^ c := by
  have : ∀ f : Fin 33, IntKind.u64.wrap (2 ^ f.val) % 4294967296 = if f.val = 32 then 0 else 2 ^ f.val := by decide
  exact this ⟨c, by omega⟩
theorem Wrote.drew {fl c p n : Nat} {w : World} {a : Option Addr} {j x : Nat} {mr : Bool} (h : Wrote fl c p n w a j x mr) : Wrote fl c p n w.drew a j x mr := by
  obtain ⟨R, V, h⟩ := h
  exact ⟨R, V.later (Ext.refl w).drew, h⟩
/-- What is laid on a number of p bits, of k bits in all: one more bit, or none. -/
theorem bit_or {p k : Nat} (hp : p ≤ k) {bit : Int} {mr : Bool} (hb : (if p = k then 0 else (2 : Int) ^ p) = bit) (hm : (bit != 0) = mr) : (0 ≤ bit ∧ bit < 2 ^ k) ∧ ((mr = true ∧ bit = 2 ^ p) ∨ (mr = false ∧ bit = 0)) := by
  have h1 := pow_pos2 p
  have h2 := pow_pos2 k
  by_cases e : p = k
  · rw [if_pos e] at hb
    subst hb
    exact ⟨⟨by omega, by omega⟩, .inr ⟨by rw [← hm]; rfl, rfl⟩⟩
  · rw [if_neg e] at hb
    subst hb
    have h3 : (2 : Int) ^ (p + 1) ≤ 2 ^ k := pow_le2 (by omega)
    rw [Int.pow_succ] at h3
    exact ⟨⟨by omega, by omega⟩, .inl ⟨by rw [← hm]; simp; omega, rfl⟩⟩
end Go.Proofs.YtemcppakmcffgaaDoor
