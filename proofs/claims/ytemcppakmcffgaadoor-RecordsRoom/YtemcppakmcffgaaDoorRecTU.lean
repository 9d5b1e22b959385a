/- What Put of records answers, in one sentence; the reference's Put, whatever it is handed. Vertices as bits, more plain arithmetic: cut down to what has room; bytes of alike vertices; one record by itself; the mask of a record's last byte. -/
import Derived.Test.YtemcppakmcffgaaDoorRecQ
namespace Go.Proofs.YtemcppakmcffgaaDoor
open Go.RowKit Go.BigFrame
set_option linter.unusedSimpArgs false
set_option linter.unusedVariables false
def pbyL (L : Lay) (R : Nat → Rcd) (j : Nat) : Int := pby (flg L).toNat L.c.toNat L.p.toNat L.n.toNat (lsize L 0).toNat R j
def RoomL (L : Lay) (R : Rcd) : Prop := Room (flg L).toNat L.c.toNat L.p.toNat L.n.toNat R
/-- The error of Put, and how many bytes it tells. -/
def PutIs (L : Lay) (R : Nat → Rcd) (N : Nat) (x : Int) (M : Nat) : Prop :=
  (vlay L = false ∧ x = 4 ∧ M = 0) ∨ (vlay L = true ∧ (¬ ∀ i, i < N → RoomL L (R i)) ∧ x = 1 ∧ M = 0) ∨
  (vlay L = true ∧ (∀ i, i < N → RoomL L (R i)) ∧ 65536 < N * (lsize L 0).toNat ∧ x = 3 ∧ M = 0) ∨ (vlay L = true ∧ (∀ i, i < N → RoomL L (R i)) ∧ ¬ 65536 < N * (lsize L 0).toNat ∧ x = 0 ∧ M = N * (lsize L 0).toNat)
theorem PutIs.one {L : Lay} {R : Nat → Rcd} {N M M' : Nat} {x x' : Int} (h : PutIs L R N x M) (h' : PutIs L R N x' M') : x = x' ∧ M = M' := by
  rcases h with ⟨a, rfl, rfl⟩ | ⟨a, b, rfl, rfl⟩ | ⟨a, b, c, rfl, rfl⟩ | ⟨a, b, c, rfl, rfl⟩ <;> rcases h' with ⟨a', rfl, rfl⟩ | ⟨a', b', rfl, rfl⟩ | ⟨a', b', c', rfl, rfl⟩ | ⟨a', b', c', rfl, rfl⟩
  all_goals first
    | exact ⟨rfl, rfl⟩
    | exact absurd (a.symm.trans a') (by decide)
    | exact absurd b' b
    | exact absurd b b'
    | exact absurd c' c
    | exact absurd c c'
/-- What Put answers. -/
def PutAll (L : Lay) (R : Nat → Rcd) (N : Nat) (w : World) (e : Ending) (w' : World) : Prop :=
  ∃ s x M, e = .returned (.tuple #[s, .int .i64 x]) ∧ Ext w w' ∧ Lst w' 5 1 s M (fun j _ => .int .u8 (pbyL L R j)) ∧ (∀ b, s.ownBlock = some b → w.heap.size ≤ b) ∧ PutIs L R N x M
end Go.Proofs.YtemcppakmcffgaaDoor

namespace Go.Proofs.YtemcppakmcffgaaDoor
open Go.RowKit Go.BigFrame
set_option linter.unusedSimpArgs false
set_option linter.unusedVariables false
/-- A vertex, cut down to what has room. -/
def fitR (fl c p n : Nat) (Q : Rcd) : Rcd := ⟨Q.f % 2 ^ fl, Q.x % 2 ^ c, Q.y % 2 ^ c, fun i => if i < n then Q.c i % 2 ^ p else 0⟩
theorem fit_room (fl c p n : Nat) (Q : Rcd) : Room fl c p n (fitR fl c p n Q) :=
  ⟨⟨Int.emod_nonneg _ (Int.ne_of_gt (pow_pos2 _)), Int.emod_lt_of_pos _ (pow_pos2 _)⟩, ⟨Int.emod_nonneg _ (Int.ne_of_gt (pow_pos2 _)), Int.emod_lt_of_pos _ (pow_pos2 _)⟩, ⟨Int.emod_nonneg _ (Int.ne_of_gt (pow_pos2 _)), Int.emod_lt_of_pos _ (pow_pos2 _)⟩,
    fun k hk => by show 0 ≤ (if k < n then _ else _) ∧ (if k < n then _ else _) < _; rw [if_pos hk]; exact ⟨Int.emod_nonneg _ (Int.ne_of_gt (pow_pos2 _)), Int.emod_lt_of_pos _ (pow_pos2 _)⟩,
    fun k hk _ => by show (if k < n then _ else _) = _; rw [if_neg (by omega)]⟩
/-- Vertices whose numbers are alike have the same bits. -/
def Alike (n : Nat) (Q R : Rcd) : Prop := Q.f = R.f ∧ Q.x = R.x ∧ Q.y = R.y ∧ ∀ k, k < n → Q.c k = R.c k
theorem rbk_congr {fl c p n : Nat} {Q R : Rcd} (h : Alike n Q R) : ∀ k, k ≤ n → rbk fl c p Q k = rbk fl c p R k
  | 0, _ => by unfold rbk; rw [h.1, h.2.1, h.2.2.1]
  | k + 1, hk => by unfold rbk; rw [rbk_congr h k (by omega), h.2.2.2 k (by omega)]
theorem pby_congr {fl c p n sz : Nat} {Q R : Nat → Rcd} {j : Nat} (h : Alike n (Q (j / sz)) (R (j / sz))) : pby fl c p n sz Q j = pby fl c p n sz R j := by
  unfold pby
  rw [rbk_congr h n (Nat.le_refl n)]
theorem alike_vl {n : Nat} {Q R : Rcd} (hn : n ≤ 4) (h : vl 7 (rv Q) = vl 7 (rv R)) : Alike n Q R := by
  have g : ∀ i, i < 7 → rv Q i = rv R i := fun i hi => by
    have := congrArg (fun l => l[i]?) h
    simp only [vl_at _ _ hi, Option.some.injEq] at this
    exact this
  have h0 := g 0 (by omega)
  have h1 := g 1 (by omega)
  have h2 := g 2 (by omega)
  simp only [rv, Value.int.injEq, true_and] at h0 h1 h2
  refine ⟨h0, h1, h2, fun k hk => ?_⟩
  have h3 := g (k + 3) (by omega)
  simp only [rv, Value.int.injEq, true_and] at h3
  exact h3
theorem vl_alike {Q R : Rcd} (h : Alike 4 Q R) : vl 7 (rv Q) = vl 7 (rv R) :=
  vl_ext fun i hi => match i, hi with
    | 0, _ => congrArg (Value.int .u8) h.1
    | 1, _ => congrArg (Value.int .u32) h.2.1
    | 2, _ => congrArg (Value.int .u32) h.2.2.1
    | 3, _ => congrArg (Value.int .u16) (h.2.2.2 0 (by omega))
    | 4, _ => congrArg (Value.int .u16) (h.2.2.2 1 (by omega))
    | 5, _ => congrArg (Value.int .u16) (h.2.2.2 2 (by omega))
    | 6, _ => congrArg (Value.int .u16) (h.2.2.2 3 (by omega))
/-- The record i of bytes is the first one of the bytes from its own first one on. -/
theorem rec_shift {fl c p n sz : Nat} (f : Nat → Int) (i : Nat) (hb : fl + c + c + n * p ≤ 8 * sz) : recAt fl c p n (bt (fun j => f (sz * i + j))) 0 = recAt fl c p n (bt f) (8 * (sz * i)) := by
  have e : ∀ t, bt f (8 * (sz * i) + t) = bt (fun j => f (sz * i + j)) t := fun t => by
    unfold bt
    dsimp only
    rw [show (8 * (sz * i) + t) / 8 = sz * i + t / 8 by omega, show (8 * (sz * i) + t) % 8 = t % 8 by omega]
  have sh := fun q m => nb_shift (s := 8 * (sz * i)) (T := q + m) (fun t _ => e t) q m (Nat.le_refl _)
  unfold recAt
  simp only [Nat.zero_add]
  rw [← sh 0 fl, ← sh fl c, ← sh (fl + c) c, Nat.add_zero, ← Nat.add_assoc]
  congr 1
  funext k
  split
  · rw [← sh (fl + c + c + k * p) p]
    congr 1
    omega
  · rfl
/-- The bytes of the vertices from i on. -/
theorem pby_shift {fl c p n sz : Nat} (R : Nat → Rcd) (i q : Nat) (h0 : 0 < sz) : pby fl c p n sz (fun j => R (i + j)) q = pby fl c p n sz R (sz * i + q) := by
  unfold pby
  dsimp only
  rw [Nat.mul_add_div h0, Nat.mul_add_mod]
/-- What is put, got, and put again is the same bytes. -/
theorem put_again {fl c p n sz : Nat} {R : Nat → Rcd} {j : Nat} (hn : n ≤ 4) (hr : Room fl c p n (R (j / sz))) (hb : fl + c + c + n * p ≤ 8 * sz) : pby fl c p n sz (fun i => recAt fl c p n (bt (pby fl c p n sz R)) (8 * (sz * i))) j = pby fl c p n sz R j :=
  pby_congr (alike_vl hn (put_got hr hb))
/-- 255, some bits to the left, as a byte; a byte, but for its last bits. -/
theorem mask8 (x : Int) (d : Nat) (hd : d < 8) (h0 : 0 ≤ x) (h1 : x < 256) : bits .and .u8 x (255 * 2 ^ d % 256) = x / 2 ^ d * 2 ^ d := by
  obtain ⟨n, rfl⟩ := Int.eq_ofNat_of_zero_le h0
  have hn : n < 256 := by omega
  have key : ∀ d : Fin 8, ∀ n : Fin 256, bits .and .u8 (n.val : Int) (255 * 2 ^ d.val % 256) = (n.val : Int) / 2 ^ d.val * 2 ^ d.val := by decide +kernel
  exact key ⟨d, hd⟩ ⟨n, hn⟩
end Go.Proofs.YtemcppakmcffgaaDoor
