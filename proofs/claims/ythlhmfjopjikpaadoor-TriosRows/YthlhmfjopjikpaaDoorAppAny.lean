/- append of whatever list, there or not, to a list that owns its row: laws that name no program. -/
import Derived.Test.YthlhmfjopjikpaaDoorBookA
import Derived.Test.YthlhmfjopjikpaaDoorListB
namespace Go.Proofs.YthlhmfjopjikpaaDoor
open Go.RowKit Go.BigFrame
set_option linter.unusedSimpArgs false
set_option linter.unusedVariables false
theorem wpList_append_own_any {P : Program} (w : World) {ops : Array Oper} {rest : List Oper} {o : Oper} {a : Act} {Q : Exit → Act → World → Prop}
    (hg : o.guard = none) (s x : Operand) (t : TypeId) (hop : o.op = Op.call { callee := Callee.builtin Builtin.append, args := #[s, x], argTypes := #[t, t] })
    (base : Nat) (e : TypeId) (i : TypeInfo) (z : Value) (size bytes : Nat) (h1 : P.underlying t = some (.slice e)) (h2 : P.info? e = some i) (h3 : i.zero = some z) (h4 : i.size = size) (h5 : i.bytes = bytes) (h6 : z.cells.size = size) (h7 : 0 < size)
    (v : Value) (n : Nat) (xs : List Value) (hs : a.eval s = v) (hown : w.ownsRow base e size v n xs)
    (ao : Option Addr) (m c : Nat) (news : List Value) (hx : a.eval x = .slice ao m c) (hnone : ao = none → m = 0 ∧ c = 0) (hn : news.length = m * size) (hc : ∀ ad, ao = some ad → ∀ j u, news[j]? = some u → w.cell? (ad.add j) = some u) (h1c : ∀ u ∈ news, u.oneCell' = true) (b1 : n + m ≤ maxLen) (b2 : (n + m) * bytes ≤ 140737488355328) (b3 : base ≤ w.heap.size)
    (hK : ∀ v' w', w'.ownsRow base e size v' (n + m) (xs ++ news) → w.grownBy w' v.ownBlock → wpList P ops Q rest (a.put o.dst v') w') :
    wpList P ops Q (o :: rest) a w := by
  cases ao with
  | some ad => exact wpList_append_own w hg s x t hop base e i z size bytes h1 h2 h3 h4 h5 h6 h7 v n xs hs hown ad m c news hx hn (hc ad rfl) h1c b1 b2 b3 (fun v' w' h h' _ => hK v' w' h h')
  | none =>
    obtain ⟨rfl, rfl⟩ := hnone rfl
    have hnews : news = [] := List.eq_nil_of_length_eq_zero (by simpa using hn)
    subst hnews
    refine wpList_plain hg fun K hK' => ?_
    have hrun := run_append_owned_none (P := P) w base t o.type e i size h1 h2 v n xs hown
    unfold Oper.wp
    simp [execOp, hop, resolve, invoke, builtin, hs, hx, hrun, Result.andThen]
    exact hK' _ _ (hK v w (by simpa using hown) (World.grownBy.refl _ _))
theorem own_base {w : World} {base : Nat} {e : TypeId} {m n : Nat} {s : Value} {xs : List Value} (h : w.ownsRow base e m s n xs) : w.ownsRow 0 e m s n xs :=
  ⟨h.1, h.2.imp id fun ⟨g, c, cur, e1, _, r⟩ => ⟨g, c, cur, e1, Nat.zero_le _, r⟩⟩
theorem grown_over {W w w' : World} {base : Nat} {e : TypeId} {m n : Nat} {s : Value} {xs : List Value} (h : w.ownsRow base e m s n xs) (E : Ext W w) (hb : W.heap.size ≤ base) (g : w.grownBy w' s.ownBlock) : Ext W w' :=
  Chg.over E (Chg.grown (S := fun b => s.ownBlock = some b) g (fun k e => e)) (fun b hb' => Nat.le_trans hb (World.ownsRow.lt h b hb').1)
/-- One list behind the other. -/
def appF {α : Type} (n : Nat) (X Y : Nat → α) (i : Nat) : α := if i < n then X i else Y (i - n)
theorem ew_app (m n k : Nat) (X Y : Nat → Nat → Value) : ew m n X ++ ew m k Y = ew m (n + k) (appF n X Y) := by
  have e1 : ew m n X = ew m n (appF n X Y) := ew_eq fun i j hi _ => by unfold appF; rw [if_pos hi]
  rw [e1]
  unfold ew
  rw [Nat.add_mul, vl_add]
  congr 1
  refine vl_ext fun j hj => ?_
  by_cases hm : m = 0
  · subst hm; simp at hj
  · have h1 : (n * m + j) / m = n + j / m := by rw [Nat.mul_comm, Nat.mul_add_div (by omega)]
    have h2 : (n * m + j) % m = j % m := by rw [Nat.mul_comm, Nat.mul_add_mod]
    rw [h1, h2]
    unfold appF
    rw [if_neg (Nat.not_lt.2 (Nat.le_add_right _ _)), Nat.add_sub_cancel_left]
theorem Es.first {w : World} {m n i : Nat} {a : Option Addr} {X : Nat → Nat → Value} (B : Es w m a n X) (h : i ≤ n) : Es w m a i X := ⟨by have := B.len; omega, fun j hj => B.at_ j (by omega)⟩
theorem Es.nought (w : World) (m : Nat) (a : Option Addr) (X : Nat → Nat → Value) : Es w m a 0 X := ⟨by omega, fun j hj => by omega⟩
theorem Es.behind {w : World} {m n b o k : Nat} {X : Nat → Nat → Value} (B : Es w m (some ⟨b, o, none⟩) n X) (h : k ≤ n) : Es w m (some ⟨b, o + k * m, none⟩) (n - k) (fun i => X (k + i)) :=
  ⟨by have := B.len; omega, fun j hj => by
    obtain ⟨b', o', h1, h2⟩ := B.at_ (k + j) (by omega)
    cases h1
    exact ⟨b, o + k * m, rfl, by rw [Nat.add_assoc, ← Nat.add_mul]; exact h2⟩⟩
end Go.Proofs.YthlhmfjopjikpaaDoor
