/- Places as complex whole numbers: sizes, products, how near two of them are; turns one after the other, exact and floored. Plain arithmetic that names no program. The turns of the document: the halves of a quarter, 40 of them; what comes of them for each number of 2^-40s of a quarter: sizes, and sums. Plain arithmetic that names no program. -/
import Derived.Test.YthfgeopldbcniaaRootM
namespace Go.Proofs.Ythfgeopldbcniaa
set_option linter.unusedVariables false
set_option linter.unusedSimpArgs false
def cm (z w : Int × Int) : Int × Int := (z.1 * w.1 - z.2 * w.2, z.1 * w.2 + z.2 * w.1)
def cd (z w : Int × Int) : Int × Int := (z.1 - w.1, z.2 - w.2)
def ck (k : Int) (z : Int × Int) : Int × Int := (k * z.1, k * z.2)
def nn (z : Int × Int) : Int := z.1 * z.1 + z.2 * z.2
/-- A place is no farther off than r. -/
def Bd (z : Int × Int) (r : Int) : Prop := 0 ≤ r ∧ nn z ≤ r * r
/-- Two places are no farther apart than r. -/
def Nr (z w : Int × Int) (r : Int) : Prop := Bd (cd z w) r
theorem sq_0 (a : Int) : 0 ≤ a * a := by
  rcases Int.le_total 0 a with h | h
  · exact Int.mul_nonneg h h
  · exact Int.mul_nonneg_of_nonpos_of_nonpos h h
theorem nn_0 (z : Int × Int) : 0 ≤ nn z := by
  have := sq_0 z.1
  have := sq_0 z.2
  unfold nn
  omega
theorem nn_mul (z w : Int × Int) : nn (cm z w) = nn z * nn w := by unfold nn cm; grind
theorem dot_le {a b c d r s : Int} (h1 : a * a + b * b ≤ r * r) (h2 : c * c + d * d ≤ s * s) (hr : 0 ≤ r) (hs : 0 ≤ s) : a * c + b * d ≤ r * s := by
  have e : (a * a + b * b) * (c * c + d * d) - (a * c + b * d) * (a * c + b * d) = (a * d - b * c) * (a * d - b * c) := by grind
  have k := sq_0 (a * d - b * c)
  have n1 : 0 ≤ a * a + b * b := by have := sq_0 a; have := sq_0 b; omega
  have m : (a * a + b * b) * (c * c + d * d) ≤ r * r * (s * s) := Int.mul_le_mul h1 h2 (by have := sq_0 c; have := sq_0 d; omega) (sq_0 r)
  have f : r * r * (s * s) = r * s * (r * s) := by grind
  refine le_of_sq (Int.mul_nonneg hr hs) ?_
  omega
theorem Bd.add {z w : Int × Int} {r s : Int} (h : Bd z r) (k : Bd w s) : Bd (z.1 + w.1, z.2 + w.2) (r + s) := by
  refine ⟨Int.add_nonneg h.1 k.1, ?_⟩
  have d := dot_le h.2 k.2 h.1 k.1
  have h2 := h.2
  have k2 := k.2
  unfold nn at *
  have e : (z.1 + w.1) * (z.1 + w.1) + (z.2 + w.2) * (z.2 + w.2) = z.1 * z.1 + z.2 * z.2 + (w.1 * w.1 + w.2 * w.2) + 2 * (z.1 * w.1 + z.2 * w.2) := by grind
  have f : (r + s) * (r + s) = r * r + s * s + 2 * (r * s) := by grind
  show (z.1 + w.1) * (z.1 + w.1) + (z.2 + w.2) * (z.2 + w.2) ≤ (r + s) * (r + s)
  omega
theorem Bd.mul {z w : Int × Int} {r s : Int} (h : Bd z r) (k : Bd w s) : Bd (cm z w) (r * s) := by
  refine ⟨Int.mul_nonneg h.1 k.1, ?_⟩
  rw [nn_mul]
  have := Int.mul_le_mul h.2 k.2 (nn_0 w) (sq_0 r)
  have f : r * r * (s * s) = r * s * (r * s) := by grind
  omega
theorem Bd.mono {z : Int × Int} {r s : Int} (h : Bd z r) (k : r ≤ s) : Bd z s := ⟨Int.le_trans h.1 k, Int.le_trans h.2 (Int.mul_le_mul k k h.1 (Int.le_trans h.1 k))⟩
theorem Bd.scale {z : Int × Int} {r k : Int} (h : Bd z r) (hk : 0 ≤ k) : Bd (ck k z) (k * r) := by
  refine ⟨Int.mul_nonneg hk h.1, ?_⟩
  have e : nn (ck k z) = k * k * nn z := by unfold nn ck; grind
  have f : k * r * (k * r) = k * k * (r * r) := by grind
  rw [e, f]
  exact Int.mul_le_mul_of_nonneg_left h.2 (sq_0 k)
theorem Nr.trans {a b c : Int × Int} {r s : Int} (h : Nr a b r) (k : Nr b c s) : Nr a c (r + s) := by
  have := Bd.add h k
  unfold Nr
  rw [show cd a c = ((cd a b).1 + (cd b c).1, (cd a b).2 + (cd b c).2) by unfold cd; ext <;> simp <;> omega]
  exact this
theorem Nr.symm {a b : Int × Int} {r : Int} (h : Nr a b r) : Nr b a r := by
  refine ⟨h.1, ?_⟩
  have := h.2
  have e : nn (cd b a) = nn (cd a b) := by unfold nn cd; grind
  rw [e]; exact this
theorem Nr.refl (a : Int × Int) : Nr a a 0 := by unfold Nr Bd nn cd; simp
theorem Nr.mono {a b : Int × Int} {r s : Int} (h : Nr a b r) (k : r ≤ s) : Nr a b s := Bd.mono h k
theorem Nr.mul {a b u : Int × Int} {r s : Int} (h : Nr a b r) (k : Bd u s) : Nr (cm a u) (cm b u) (r * s) := by
  have := Bd.mul h k
  unfold Nr
  rw [show cd (cm a u) (cm b u) = cm (cd a b) u by unfold cd cm; ext <;> simp <;> grind]
  exact this
theorem Nr.scale {a b : Int × Int} {r k : Int} (h : Nr a b r) (hk : 0 ≤ k) : Nr (ck k a) (ck k b) (k * r) := by
  have := Bd.scale h hk
  unfold Nr
  rw [show cd (ck k a) (ck k b) = ck k (cd a b) by unfold cd ck; ext <;> simp <;> grind]
  exact this
theorem cm_comm (a b : Int × Int) : cm a b = cm b a := by unfold cm; ext <;> simp <;> grind
theorem cm_assoc (a b c : Int × Int) : cm (cm a b) c = cm a (cm b c) := by unfold cm; ext <;> simp <;> grind
theorem cm_ck (k : Int) (a b : Int × Int) : cm (ck k a) b = ck k (cm a b) := by unfold cm ck; ext <;> simp <;> grind
theorem cm_ck' (k : Int) (a b : Int × Int) : cm a (ck k b) = ck k (cm a b) := by unfold cm ck; ext <;> simp <;> grind
theorem ck_ck (k l : Int) (a : Int × Int) : ck k (ck l a) = ck (k * l) a := by unfold ck; ext <;> simp <;> grind
theorem cm_real (k : Int) (a : Int × Int) : cm (k, 0) a = ck k a := by unfold cm ck; ext <;> simp
/-- Turned, floored. -/
def on (S : Int) (z t : Int × Int) : Int × Int := ((cm z t).1 / S, (cm z t).2 / S)
theorem on_near {S : Int} (hS : 0 < S) (z t : Int × Int) : Nr (ck S (on S z t)) (cm z t) (2 * S) := by
  refine ⟨by omega, ?_⟩
  have h1 := Int.emod_add_mul_ediv (cm z t).1 S
  have h2 := Int.emod_nonneg (cm z t).1 (show S ≠ 0 by omega)
  have h3 := Int.emod_lt_of_pos (cm z t).1 hS
  have k1 := Int.emod_add_mul_ediv (cm z t).2 S
  have k2 := Int.emod_nonneg (cm z t).2 (show S ≠ 0 by omega)
  have k3 := Int.emod_lt_of_pos (cm z t).2 hS
  have e : cd (ck S (on S z t)) (cm z t) = (-((cm z t).1 % S), -((cm z t).2 % S)) := by
    unfold cd ck on
    ext <;> simp <;> omega
  rw [e]
  unfold nn
  simp only [Int.neg_mul_neg]
  have p1 := Int.mul_le_mul (Int.le_of_lt h3) (Int.le_of_lt h3) h2 (Int.le_of_lt hS)
  have p2 := Int.mul_le_mul (Int.le_of_lt k3) (Int.le_of_lt k3) k2 (Int.le_of_lt hS)
  have q := sq_0 S
  have f : 2 * S * (2 * S) = 4 * (S * S) := by grind
  omega
/-- The turns whose bits are set, one after the other, floored each time. -/
def azz (S : Int) : List (Int × Int) → Nat → Int × Int → Int × Int
  | [], _, z => z
  | t :: ts, f, z => azz S ts f (if f / 2 ^ ts.length % 2 = 1 then on S z t else z)
/-- Their product, exact; a turn that is left out counts as S. -/
def ex (S : Int) : List (Int × Int) → Nat → Int × Int
  | [], _ => (1, 0)
  | t :: ts, f => cm (if f / 2 ^ ts.length % 2 = 1 then t else (S, 0)) (ex S ts f)
def pw (S : Int) : Nat → Int
  | 0 => 1
  | n + 1 => S * pw S n
theorem pw_pos {S : Int} (hS : 0 < S) : ∀ n, 0 < pw S n
  | 0 => by unfold pw; decide
  | n + 1 => by unfold pw; exact Int.mul_pos hS (pw_pos hS n)
theorem real_bd {S : Int} (hS : 0 < S) : Bd (S, 0) S := ⟨Int.le_of_lt hS, by unfold nn; simp⟩
theorem bit_bd {S : Int} (hS : 0 < S) {t : Int × Int} (ht : nn t ≤ S * S) (b : Prop) [Decidable b] : Bd (if b then t else (S, 0)) S := by
  split
  · exact ⟨Int.le_of_lt hS, ht⟩
  · exact real_bd hS
theorem ex_bd {S : Int} (hS : 0 < S) : ∀ (ts : List (Int × Int)) (f : Nat), (∀ t ∈ ts, nn t ≤ S * S) → Bd (ex S ts f) (pw S ts.length)
  | [], f, _ => by
    show Bd (1, 0) 1
    exact ⟨by decide, by decide⟩
  | t :: ts, f, h => by
    unfold ex
    rw [List.length_cons]
    unfold pw
    exact Bd.mul (bit_bd hS (h t List.mem_cons_self) _) (ex_bd hS ts f (fun u hu => h u (List.mem_cons_of_mem _ hu)))
theorem azz_near {S : Int} (hS : 0 < S) : ∀ (ts : List (Int × Int)) (f : Nat) (z : Int × Int), (∀ t ∈ ts, nn t ≤ S * S) → Nr (ck (pw S ts.length) (azz S ts f z)) (cm z (ex S ts f)) (2 * ts.length * pw S ts.length)
  | [], f, z, _ => by
    unfold azz ex
    rw [show ck (pw S ([] : List (Int × Int)).length) z = z by unfold ck; ext <;> simp [pw], show cm z (1, 0) = z by unfold cm; ext <;> simp]
    have := Nr.refl z
    simpa [pw] using this
  | t :: ts, f, z, h => by
    have hts : ∀ u ∈ ts, nn u ≤ S * S := fun u hu => h u (List.mem_cons_of_mem _ hu)
    have ih := fun z => azz_near hS ts f z hts
    have hb := ex_bd hS ts f hts
    have hp := pw_pos hS ts.length
    unfold azz ex
    rw [List.length_cons]
    unfold pw
    obtain ⟨z', hz'⟩ : ∃ z', (if f / 2 ^ ts.length % 2 = 1 then on S z t else z) = z' := ⟨_, rfl⟩
    obtain ⟨b, hb'⟩ : ∃ b, (if f / 2 ^ ts.length % 2 = 1 then t else (S, 0)) = b := ⟨_, rfl⟩
    have hn : Nr (ck S z') (cm z b) (2 * S) := by
      rw [← hz', ← hb']
      split
      · exact on_near hS z t
      · rw [cm_comm, cm_real]; exact (Nr.refl _).mono (by omega)
    rw [hz', hb']
    have h1 := (ih z').scale (Int.le_of_lt hS)
    rw [ck_ck, ← cm_ck] at h1
    have h2 := hn.mul hb
    rw [cm_assoc] at h2
    have h3 := h1.trans h2
    refine h3.mono ?_
    have e : (2 * ((ts.length + 1 : Nat) : Int) * (S * pw S ts.length)) = S * (2 * (ts.length : Int) * pw S ts.length) + 2 * S * pw S ts.length := by
      rw [Int.natCast_add]; grind
    rw [e]
    exact Int.le_refl _
/-- Each turn, twice, is the one ahead, but for three small parts. -/
def Chain (S : Int) : Int × Int → List (Int × Int) → Prop
  | _, [] => True
  | p, t :: ts => Nr (cm t t) (ck S p) (3 * S) ∧ nn t ≤ S * S ∧ Chain S t ts
theorem Chain.all {S : Int} : ∀ (ts : List (Int × Int)) (p : Int × Int), Chain S p ts → ∀ t ∈ ts, nn t ≤ S * S
  | [], _, _, t, h => by cases h
  | s :: ts, p, c, t, h => by
    rcases List.mem_cons.1 h with rfl | h
    · exact c.2.1
    · exact Chain.all ts s c.2.2 t h
def pick (b : Nat) (t : Int × Int) (S : Int) : Int × Int := if b = 1 then t else (S, 0)
theorem pick_bd {S : Int} (hS : 0 < S) {t : Int × Int} (ht : nn t ≤ S * S) (b : Nat) : Bd (pick b t S) S := bit_bd hS ht _
theorem pick0 (t : Int × Int) (S : Int) : pick 0 t S = (S, 0) := rfl
theorem pick1 (t : Int × Int) (S : Int) : pick 1 t S = t := rfl
theorem Nr.of_eq {a b : Int × Int} (h : a = b) {r : Int} (hr : 0 ≤ r) : Nr a b r := by subst h; exact (Nr.refl a).mono hr
/-- Three turns of one kind are one of the kind ahead, and what is left. -/
theorem pick3 {S : Int} (hS : 0 < S) {p t : Int × Int} (ht : nn t ≤ S * S) (hd : Nr (cm t t) (ck S p) (3 * S)) : ∀ x y z o c : Nat, x ≤ 1 → y ≤ 1 → z ≤ 1 → o ≤ 1 → x + y + z = 2 * c + o →
    Nr (cm (cm (pick x t S) (pick y t S)) (pick z t S)) (ck S (cm (pick o t S) (pick c p S))) (3 * S * S) := by
  have q : 0 ≤ 3 * S * S := Int.mul_nonneg (by omega) (by omega)
  have h2 := hd.mul (real_bd hS)
  have h3 := hd.mul (show Bd t S from ⟨Int.le_of_lt hS, ht⟩)
  intro x y z o c hx hy hz ho e
  have cases : (x = 0 ∨ x = 1) ∧ (y = 0 ∨ y = 1) ∧ (z = 0 ∨ z = 1) := by omega
  obtain ⟨rfl | rfl, rfl | rfl, rfl | rfl⟩ := cases
  · obtain rfl : o = 0 := by omega
    obtain rfl : c = 0 := by omega
    exact Nr.of_eq (by simp only [pick0, pick1]; unfold cm ck; ext <;> simp <;> grind) q
  · obtain rfl : o = 1 := by omega
    obtain rfl : c = 0 := by omega
    exact Nr.of_eq (by simp only [pick0, pick1]; unfold cm ck; ext <;> simp <;> grind) q
  · obtain rfl : o = 1 := by omega
    obtain rfl : c = 0 := by omega
    exact Nr.of_eq (by simp only [pick0, pick1]; unfold cm ck; ext <;> simp <;> grind) q
  · obtain rfl : o = 0 := by omega
    obtain rfl : c = 1 := by omega
    rw [show cm (cm (pick 0 t S) (pick 1 t S)) (pick 1 t S) = cm (cm t t) (S, 0) by simp only [pick0, pick1]; unfold cm; ext <;> simp <;> grind, show ck S (cm (pick 0 t S) (pick 1 p S)) = cm (ck S p) (S, 0) by simp only [pick0, pick1]; unfold cm ck; ext <;> simp <;> grind]
    exact h2
  · obtain rfl : o = 1 := by omega
    obtain rfl : c = 0 := by omega
    exact Nr.of_eq (by simp only [pick0, pick1]; unfold cm ck; ext <;> simp <;> grind) q
  · obtain rfl : o = 0 := by omega
    obtain rfl : c = 1 := by omega
    rw [show cm (cm (pick 1 t S) (pick 0 t S)) (pick 1 t S) = cm (cm t t) (S, 0) by simp only [pick0, pick1]; unfold cm; ext <;> simp <;> grind, show ck S (cm (pick 0 t S) (pick 1 p S)) = cm (ck S p) (S, 0) by simp only [pick0, pick1]; unfold cm ck; ext <;> simp <;> grind]
    exact h2
  · obtain rfl : o = 0 := by omega
    obtain rfl : c = 1 := by omega
    rw [show cm (cm (pick 1 t S) (pick 1 t S)) (pick 0 t S) = cm (cm t t) (S, 0) by simp only [pick0, pick1], show ck S (cm (pick 0 t S) (pick 1 p S)) = cm (ck S p) (S, 0) by simp only [pick0, pick1]; unfold cm ck; ext <;> simp <;> grind]
    exact h2
  · obtain rfl : o = 1 := by omega
    obtain rfl : c = 1 := by omega
    rw [show cm (cm (pick 1 t S) (pick 1 t S)) (pick 1 t S) = cm (cm t t) t by simp only [pick1], show ck S (cm (pick 1 t S) (pick 1 p S)) = cm (ck S p) t by simp only [pick1]; unfold cm ck; ext <;> simp <;> grind]
    exact h3
theorem ex_cons (S : Int) (t : Int × Int) (ts : List (Int × Int)) (f : Nat) : ex S (t :: ts) f = cm (pick (f / 2 ^ ts.length % 2) t S) (ex S ts f) := rfl
theorem ex_add {S : Int} (hS : 0 < S) : ∀ (ts : List (Int × Int)) (p : Int × Int), Chain S p ts → ∀ f g h c : Nat, f % 2 ^ ts.length + g % 2 ^ ts.length = h % 2 ^ ts.length + c * 2 ^ ts.length → c ≤ 1 →
    Nr (ck S (cm (ex S ts f) (ex S ts g))) (ck (pw S ts.length) (cm (pick c p S) (ex S ts h))) (3 * ts.length * (pw S ts.length * pw S ts.length))
  | [], p, _, f, g, h, c, e, _ => by
    simp [Nat.mod_one] at e
    subst e
    unfold ex pick
    have := Nr.refl (ck S (cm (1, 0) (1, 0)))
    simpa [pw, ck, cm] using this
  | t :: ts, p, ch, f, g, h, c, e, hc => by
    have ht := ch.2.1
    have hch := ch.2.2
    have hall := Chain.all ts t hch
    rw [List.length_cons] at e
    have sp : ∀ x : Nat, x % 2 ^ (ts.length + 1) = x / 2 ^ ts.length % 2 * 2 ^ ts.length + x % 2 ^ ts.length := fun x => by
      rw [Nat.pow_succ, Nat.mod_mul, Nat.mul_comm (2 ^ ts.length), Nat.add_comm]
    rw [sp, sp, sp, Nat.pow_succ] at e
    have m : ∀ x : Nat, x % 2 ^ ts.length < 2 ^ ts.length := fun x => Nat.mod_lt _ (Nat.two_pow_pos _)
    have mf := m f
    have mg := m g
    have mh := m h
    have bf : f / 2 ^ ts.length % 2 = 0 ∨ f / 2 ^ ts.length % 2 = 1 := by omega
    have bg : g / 2 ^ ts.length % 2 = 0 ∨ g / 2 ^ ts.length % 2 = 1 := by omega
    have bh : h / 2 ^ ts.length % 2 = 0 ∨ h / 2 ^ ts.length % 2 = 1 := by omega
    have bc : c = 0 ∨ c = 1 := by omega
    obtain ⟨d, hd, hde, hsum⟩ : ∃ d : Nat, d ≤ 1 ∧ f % 2 ^ ts.length + g % 2 ^ ts.length = h % 2 ^ ts.length + d * 2 ^ ts.length ∧ f / 2 ^ ts.length % 2 + g / 2 ^ ts.length % 2 + d = 2 * c + h / 2 ^ ts.length % 2 := by
      generalize f / 2 ^ ts.length % 2 = x at *
      generalize g / 2 ^ ts.length % 2 = y at *
      generalize h / 2 ^ ts.length % 2 = o at *
      generalize f % 2 ^ ts.length = f1 at *
      generalize g % 2 ^ ts.length = g1 at *
      generalize h % 2 ^ ts.length = h1 at *
      generalize 2 ^ ts.length = M at *
      rcases bf with rfl | rfl <;> rcases bg with rfl | rfl <;> rcases bh with rfl | rfl <;> rcases bc with rfl | rfl <;> first
        | (exfalso; omega)
        | exact ⟨0, by omega, by omega, by omega⟩
        | exact ⟨1, by omega, by omega, by omega⟩
    have ih := ex_add hS ts t hch f g h d hde hd
    have eb := ex_bd hS ts h hall
    have hp := pw_pos hS ts.length
    rw [ex_cons, ex_cons, ex_cons, List.length_cons]
    generalize f / 2 ^ ts.length % 2 = x at *
    generalize g / 2 ^ ts.length % 2 = y at *
    generalize h / 2 ^ ts.length % 2 = o at *
    generalize ex S ts f = ef at *
    generalize ex S ts g = eg at *
    generalize ex S ts h = eh at *
    unfold pw
    generalize pw S ts.length = P at *
    have k3 := pick3 hS ht ch.1 x y d o c (by omega) (by omega) hd (by omega) hsum
    have h1 := ih.mul (Bd.mul (pick_bd hS ht x) (pick_bd hS ht y))
    have h2 := (k3.mul eb).scale (Int.le_of_lt hp)
    have e1 : cm (ck S (cm ef eg)) (cm (pick x t S) (pick y t S)) = ck S (cm (cm (pick x t S) ef) (cm (pick y t S) eg)) := by
      generalize pick x t S = X
      generalize pick y t S = Y
      unfold cm ck; ext <;> simp <;> grind
    have e2 : cm (ck P (cm (pick d t S) eh)) (cm (pick x t S) (pick y t S)) = ck P (cm (cm (cm (pick x t S) (pick y t S)) (pick d t S)) eh) := by
      generalize pick x t S = X
      generalize pick y t S = Y
      generalize pick d t S = D
      unfold cm ck; ext <;> simp <;> grind
    have e3 : ck P (cm (ck S (cm (pick o t S) (pick c p S))) eh) = ck (S * P) (cm (pick c p S) (cm (pick o t S) eh)) := by
      generalize pick o t S = X
      generalize pick c p S = Y
      unfold cm ck; ext <;> simp <;> grind
    rw [e1, e2] at h1
    rw [e3] at h2
    refine (h1.trans h2).mono ?_
    rw [Int.natCast_add]
    have e4 : 3 * (ts.length : Int) * (P * P) * (S * S) + P * (3 * S * S * P) = 3 * ((ts.length : Int) + ((1 : Nat) : Int)) * (S * P * (S * P)) := by
      generalize (ts.length : Int) = n
      grind
    rw [e4]
    exact Int.le_refl _
end Go.Proofs.Ythfgeopldbcniaa

namespace Go.Proofs.Ythfgeopldbcniaa
set_option linter.unusedVariables false
set_option linter.unusedSimpArgs false
/-- C(1), S(1) to C(40), S(40). -/
def turns : List (Int × Int) := [(3260954456333195553, 3260954456333195553), (4260642322793532497, 1764815834521887441), (4523073764714963029, 899695310372275546), (4589479489746651963, 452024275624069879), (4606131040650197959, 226284707652502140), (4610297064819661174, 113176440454146015), (4611338766951757486, 56592481536850978), (4611599204741358746, 28296773447188931), (4611664314954810277, 14148453308909939), (4611680592556051597, 7074234977634092), (4611684661959354333, 3537118529214895), (4611685679310367042, 1768559394657193), (4611685933648131909, 884279713584815), (4611685997232573856, 442139858824434), (4611686013128684388, 221069929666220), (4611686017102712024, 110534964864860), (4611686018096218933, 55267482436398), (4611686018344595661, 27633741218695), (4611686018406689843, 13816870609409), (4611686018422213388, 6908435304712), (4611686018426094274, 3454217652356), (4611686018427064496, 1727108826178), (4611686018427307051, 863554413089), (4611686018427367690, 431777206544), (4611686018427382850, 215888603272), (4611686018427386640, 107944301636), (4611686018427387587, 53972150818), (4611686018427387824, 26986075409), (4611686018427387883, 13493037704), (4611686018427387898, 6746518852), (4611686018427387902, 3373259426), (4611686018427387903, 1686629713), (4611686018427387903, 843314856), (4611686018427387903, 421657428), (4611686018427387903, 210828714), (4611686018427387903, 105414357), (4611686018427387903, 52707178), (4611686018427387903, 26353589), (4611686018427387903, 13176794), (4611686018427387903, 6588397)]
/-- Cosine and sine of f 2^-40s of a quarter, in small parts. -/
def ZZ (f : Nat) : Int × Int := azz 4611686018427387904 turns f (4611686018427387904, 0)
def chainB (S : Int) : Int × Int → List (Int × Int) → Bool
  | _, [] => true
  | p, t :: ts => decide (nn (cd (cm t t) (ck S p)) ≤ 3 * S * (3 * S)) && decide (nn t ≤ S * S) && decide (S * S - 3 * S ≤ nn t) && chainB S t ts
theorem chain_of {S : Int} (hS : 0 < S) : ∀ (ts : List (Int × Int)) (p : Int × Int), chainB S p ts = true → Chain S p ts ∧ ∀ t ∈ ts, S * S - 3 * S ≤ nn t
  | [], _, _ => ⟨trivial, fun t h => by cases h⟩
  | t :: ts, p, h => by
    unfold chainB at h
    simp only [Bool.and_eq_true, decide_eq_true_eq] at h
    obtain ⟨⟨⟨h1, h2⟩, h3⟩, h4⟩ := h
    obtain ⟨k1, k2⟩ := chain_of hS ts t h4
    refine ⟨⟨⟨by omega, h1⟩, h2, k1⟩, fun u hu => ?_⟩
    rcases List.mem_cons.1 hu with rfl | hu
    · exact h3
    · exact k2 u hu
theorem turns_B : chainB 4611686018427387904 (0, 4611686018427387904) turns = true := by decide +kernel
theorem turns_chain : Chain 4611686018427387904 (0, 4611686018427387904) turns := (chain_of (by decide) turns _ turns_B).1
theorem turns_le : ∀ t ∈ turns, nn t ≤ 4611686018427387904 * 4611686018427387904 := Chain.all turns _ turns_chain
theorem turns_ge : ∀ t ∈ turns, 4611686018427387904 * 4611686018427387904 - 3 * 4611686018427387904 ≤ nn t := (chain_of (by decide) turns _ turns_B).2
theorem Bd.unscale {z : Int × Int} {r k : Int} (hk : 0 < k) (hr : 0 ≤ r) (h : Bd (ck k z) (k * r)) : Bd z r := by
  refine ⟨hr, ?_⟩
  have e : nn (ck k z) = k * k * nn z := by unfold nn ck; grind
  have f : k * r * (k * r) = k * k * (r * r) := by grind
  have := h.2
  rw [e, f] at this
  exact Int.le_of_mul_le_mul_left this (Int.mul_pos hk hk)
theorem Nr.unscale {a b : Int × Int} {r k : Int} (hk : 0 < k) (hr : 0 ≤ r) (h : Nr (ck k a) (ck k b) (k * r)) : Nr a b r := by
  refine Bd.unscale hk hr ?_
  rw [show ck k (cd a b) = cd (ck k a) (ck k b) by unfold cd ck; ext <;> simp <;> grind]
  exact h
theorem Bd.of_near {a b : Int × Int} {r s : Int} (h : Nr a b r) (k : Bd b s) : Bd a (r + s) := by
  have := Bd.add h k
  rw [show ((cd a b).1 + b.1, (cd a b).2 + b.2) = a by unfold cd; ext <;> simp] at this
  exact this
/-- The general sum: floors and turns cost so many small parts. -/
theorem azz_add {S : Int} (hS : 6400 ≤ S) {ts : List (Int × Int)} {p : Int × Int} (hl : ts.length = 40) (hp : nn p ≤ S * S) (ch : Chain S p ts) {f g h c : Nat} (hc : c ≤ 1) (hf : f < 2 ^ 40) (hg : g < 2 ^ 40) (hh : h < 2 ^ 40) (e : f + g = h + c * 2 ^ 40) :
    Nr (cm (azz S ts f (S, 0)) (azz S ts g (S, 0))) (cm (pick c p S) (azz S ts h (S, 0))) (361 * S) := by
  have hS0 : 0 < S := by omega
  have hall := Chain.all ts p ch
  have af := azz_near hS0 ts f (S, 0) hall
  have ag := azz_near hS0 ts g (S, 0) hall
  have ah := azz_near hS0 ts h (S, 0) hall
  have ef := ex_bd hS0 ts f hall
  have eg := ex_bd hS0 ts g hall
  have ea := ex_add hS0 ts p ch f g h c (by rw [hl, Nat.mod_eq_of_lt hf, Nat.mod_eq_of_lt hg, Nat.mod_eq_of_lt hh]; exact e) hc
  have hP := pw_pos hS0 ts.length
  have hw := pick_bd hS0 hp c
  rw [cm_real] at af ag ah
  rw [show (ts.length : Int) = 40 by rw [hl]; rfl] at af ag ah ea
  generalize pw S ts.length = P at *
  generalize azz S ts f (S, 0) = zf at *
  generalize azz S ts g (S, 0) = zg at *
  generalize azz S ts h (S, 0) = zh at *
  generalize ex S ts f = xf at *
  generalize ex S ts g = xg at *
  generalize ex S ts h = xh at *
  generalize pick c p S = w at *
  have bg : Bd (ck P zg) (2 * 40 * P + S * P) := Bd.of_near ag (eg.scale (Int.le_of_lt hS0))
  have s1 := af.mul bg
  have s2 := ag.mul (ef.scale (Int.le_of_lt hS0))
  have s3 := ea.scale (Int.le_of_lt hS0)
  have s4 := ((ah.symm.mul hw).scale (Int.le_of_lt hP))
  rw [cm_comm (ck P zg), cm_comm (ck S xg) (ck S xf)] at s2
  have e3 : ck S (ck S (cm xf xg)) = cm (ck S xf) (ck S xg) := by unfold cm ck; ext <;> simp <;> grind
  have e4 : ck S (ck P (cm w xh)) = ck P (cm (ck S xh) w) := by unfold cm ck; ext <;> simp <;> grind
  rw [e3, e4] at s3
  have t := ((s1.trans s2).trans s3).trans s4
  have e5 : cm (ck P zf) (ck P zg) = ck (P * P) (cm zf zg) := by unfold cm ck; ext <;> simp <;> grind
  have e6 : ck P (cm (ck P zh) w) = ck (P * P) (cm w zh) := by unfold cm ck; ext <;> simp <;> grind
  rw [e5, e6] at t
  refine Nr.unscale (Int.mul_pos hP hP) (by omega) (t.mono ?_)
  have e7 : 2 * 40 * P * (2 * 40 * P + S * P) + 2 * 40 * P * (S * P) + S * (3 * 40 * (P * P)) + P * (2 * 40 * P * S) = P * P * (360 * S + 6400) := by grind
  rw [e7]
  exact Int.mul_le_mul_of_nonneg_left (by omega) (Int.le_of_lt (Int.mul_pos hP hP))
theorem ZZ_add {f g h c : Nat} (hc : c ≤ 1) (hf : f < 2 ^ 40) (hg : g < 2 ^ 40) (hh : h < 2 ^ 40) (e : f + g = h + c * 2 ^ 40) :
    Nr (cm (ZZ f) (ZZ g)) (cm (pick c (0, 4611686018427387904) 4611686018427387904) (ZZ h)) (361 * 4611686018427387904) :=
  azz_add (by decide) rfl (by decide) turns_chain hc hf hg hh e
theorem azz_bd {S : Int} (hS : 0 < S) {ts : List (Int × Int)} (hall : ∀ t ∈ ts, nn t ≤ S * S) (f : Nat) : Bd (azz S ts f (S, 0)) (2 * ts.length + S) := by
  have af := azz_near hS ts f (S, 0) hall
  have ef := ex_bd hS ts f hall
  have hP := pw_pos hS ts.length
  rw [cm_real] at af
  have b := Bd.of_near af (ef.scale (Int.le_of_lt hS))
  refine Bd.unscale hP (by omega) (b.mono ?_)
  have : 2 * (ts.length : Int) * pw S ts.length + S * pw S ts.length = pw S ts.length * (2 * (ts.length : Int) + S) := by grind
  omega
theorem ZZ_le (f : Nat) : Bd (ZZ f) 4611686018427387984 := azz_bd (by decide) turns_le f
theorem ex_ge {S : Int} (hS : 0 < S) : ∀ (ts : List (Int × Int)) (f : Nat), (∀ t ∈ ts, S * S - 3 * S ≤ nn t) → 3 * (ts.length : Int) ≤ S → pw S ts.length * pw S ts.length * (S - 3 * ts.length) ≤ S * nn (ex S ts f)
  | [], f, _, _ => by
    show 1 * 1 * (S - 3 * ((0 : Nat) : Int)) ≤ S * nn (1, 0)
    rw [show nn (1, 0) = 1 from rfl]; omega
  | t :: ts, f, h, hl => by
    rw [List.length_cons, Int.natCast_add] at hl
    have ih := ex_ge hS ts f (fun u hu => h u (List.mem_cons_of_mem _ hu)) (by omega)
    rw [ex_cons, nn_mul, List.length_cons]
    unfold pw
    have hp := pw_pos hS ts.length
    have hb : S * (S - 3) ≤ nn (pick (f / 2 ^ ts.length % 2) t S) := by
      have e : S * (S - 3) = S * S - 3 * S := by grind
      rw [e]
      unfold pick
      split
      · exact h t List.mem_cons_self
      · have : nn (S, 0) = S * S := by unfold nn; simp
        omega
    generalize nn (pick (f / 2 ^ ts.length % 2) t S) = u at *
    have hx := nn_0 (ex S ts f)
    generalize nn (ex S ts f) = x at *
    generalize pw S ts.length = P at *
    rw [Int.natCast_add]
    have n0 : 0 ≤ (ts.length : Int) := Int.natCast_nonneg _
    generalize (ts.length : Int) = n at *
    have h1 : S * (S - 3) * (P * P * (S - 3 * n)) ≤ u * (S * x) := by
      refine Int.mul_le_mul hb ih ?_ ?_
      · exact Int.mul_nonneg (Int.le_of_lt (Int.mul_pos hp hp)) (by omega)
      · exact Int.le_trans (Int.mul_nonneg (Int.le_of_lt hS) (by omega)) hb
    have h2 : S * P * (S * P) * (S - 3 * (n + ((1 : Nat) : Int))) ≤ S * (S - 3) * (P * P * (S - 3 * n)) := by
      have e : S * (S - 3) * (P * P * (S - 3 * n)) - S * P * (S * P) * (S - 3 * (n + ((1 : Nat) : Int))) = S * (P * P) * (9 * n) := by grind
      have : 0 ≤ S * (P * P) * (9 * n) := Int.mul_nonneg (Int.le_of_lt (Int.mul_pos hS (Int.mul_pos hp hp))) (by omega)
      omega
    have e3 : u * (S * x) = S * (u * x) := by grind
    omega
theorem azz_ge {S : Int} (hS : 1000 ≤ S) {ts : List (Int × Int)} (hl : ts.length = 40) (hall : ∀ t ∈ ts, nn t ≤ S * S) (hge : ∀ t ∈ ts, S * S - 3 * S ≤ nn t) (f : Nat) : (S - 204) * (S - 204) ≤ nn (azz S ts f (S, 0)) := by
  have hS0 : 0 < S := by omega
  have af := azz_near hS0 ts f (S, 0) hall
  have eg := ex_ge hS0 ts f hge (by rw [hl]; omega)
  have hP := pw_pos hS0 ts.length
  rw [cm_real] at af
  rw [show (ts.length : Int) = 40 by rw [hl]; rfl] at af eg
  generalize pw S ts.length = P at *
  generalize azz S ts f (S, 0) = z at *
  generalize ex S ts f = x at *
  rcases Int.lt_or_le (nn z) ((S - 204) * (S - 204)) with h | h
  · exfalso
    have b1 : Bd z (S - 204) := ⟨by omega, Int.le_of_lt h⟩
    have b2 := Bd.of_near af.symm (b1.scale (Int.le_of_lt hP))
    have e1 : nn (ck S x) = S * S * nn x := by unfold nn ck; grind
    have h2 := b2.2
    rw [e1] at h2
    have e2 : (2 * 40 * P + P * (S - 204)) * (2 * 40 * P + P * (S - 204)) = P * P * ((S - 124) * (S - 124)) := by grind
    rw [e2] at h2
    have h3 := Int.mul_le_mul_of_nonneg_left eg (Int.le_of_lt hS0)
    have e3 : S * (S * nn x) = S * S * nn x := by grind
    rw [e3] at h3
    have h4 := Int.le_trans h3 h2
    have e4 : S * (P * P * (S - 3 * 40)) = P * P * (S * (S - 120)) := by grind
    rw [e4] at h4
    have h5 := Int.le_of_mul_le_mul_left h4 (Int.mul_pos hP hP)
    have e5 : (S - 124) * (S - 124) = S * S - 248 * S + 15376 := by grind
    have e6 : S * (S - 120) = S * S - 120 * S := by grind
    rw [e5, e6] at h5
    generalize S * S = q at *
    omega
  · exact h
theorem ZZ_ge (f : Nat) : (4611686018427387904 - 204) * (4611686018427387904 - 204) ≤ nn (ZZ f) := azz_ge (by decide) rfl turns_le turns_ge f
/-- The nearest 65536th of so many small parts. -/
def c46 (x : Int) : Int := (x + 35184372088832) / 70368744177664
theorem c46_is (x : Int) : ∃ a, 70368744177664 * c46 x = x + a ∧ -35184372088832 < a ∧ a ≤ 35184372088832 := ⟨70368744177664 * c46 x - x, by omega, by unfold c46; omega, by unfold c46; omega⟩
/-- Both squares together. -/
theorem circle (f : Nat) : c46 (ZZ f).1 * c46 (ZZ f).1 + c46 (ZZ f).2 * c46 (ZZ f).2 ≤ 4294967296 + 92683 ∧ 4294967296 - 92683 ≤ c46 (ZZ f).1 * c46 (ZZ f).1 + c46 (ZZ f).2 * c46 (ZZ f).2 := by
  obtain ⟨a, ha, a0, a1⟩ := c46_is (ZZ f).1
  obtain ⟨b, hb, b0, b1⟩ := c46_is (ZZ f).2
  have u := (ZZ_le f).2
  have l := ZZ_ge f
  have hab : a * a + b * b ≤ 49758216191608 * 49758216191608 := by
    have k1 : a * a ≤ 35184372088832 * 35184372088832 := by
      rcases Int.le_total 0 a with h | h
      · exact Int.mul_le_mul a1 a1 h (by decide)
      · have := Int.mul_le_mul (show -a ≤ 35184372088832 by omega) (show -a ≤ 35184372088832 by omega) (show 0 ≤ -a by omega) (by decide)
        rw [Int.neg_mul_neg] at this
        exact this
    have k2 : b * b ≤ 35184372088832 * 35184372088832 := by
      rcases Int.le_total 0 b with h | h
      · exact Int.mul_le_mul b1 b1 h (by decide)
      · have := Int.mul_le_mul (show -b ≤ 35184372088832 by omega) (show -b ≤ 35184372088832 by omega) (show 0 ≤ -b by omega) (by decide)
        rw [Int.neg_mul_neg] at this
        exact this
    omega
  have d1 := dot_le (a := a) (b := b) (c := (ZZ f).1) (d := (ZZ f).2) hab u (by decide) (by decide)
  have d2 := dot_le (r := 49758216191608) (a := -a) (b := -b) (c := (ZZ f).1) (d := (ZZ f).2) (by rw [Int.neg_mul_neg, Int.neg_mul_neg]; exact hab) u (by decide) (by decide)
  have s0 := sq_0 a
  have s1 := sq_0 b
  have k0 : 0 ≤ a * a + b * b := by omega
  generalize c46 (ZZ f).1 = c at *
  generalize c46 (ZZ f).2 = s at *
  unfold nn at u l
  generalize (ZZ f).1 = x at *
  generalize (ZZ f).2 = y at *
  have e : 70368744177664 * 70368744177664 * (c * c + s * s) = x * x + y * y + 2 * (a * x + b * y) + (a * a + b * b) := by
    have e1 : 70368744177664 * 70368744177664 * (c * c + s * s) = 70368744177664 * c * (70368744177664 * c) + 70368744177664 * s * (70368744177664 * s) := by grind
    rw [e1, ha, hb]
    grind
  have e2 : -a * x + -b * y = -(a * x + b * y) := by grind
  rw [e2] at d2
  generalize c * c + s * s = q at *
  generalize x * x + y * y = n at *
  generalize a * x + b * y = d at *
  generalize a * a + b * b = k at *
  clear ha hb a0 a1 b0 b1
  omega
end Go.Proofs.Ythfgeopldbcniaa
