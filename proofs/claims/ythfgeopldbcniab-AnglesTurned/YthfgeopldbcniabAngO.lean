/- The turns of the document: the halves of a quarter, 40 of them; what comes of them for each number of 2^-40s of a quarter: sizes, and sums. Plain arithmetic that names no program. -/
import Derived.Test.YthfgeopldbcniabAngN
namespace Go.Proofs.Ythfgeopldbcniab
set_option linter.unusedVariables false
set_option linter.unusedSimpArgs false
/-- C(1), S(1) to C(40), S(40). -/
def turns : List (Int × Int) := [(3260954456333195553, 3260954456333195553), (4260642322793532497, 1764815834521887441), (4523073764714963029, 899695310372275546), (4589479489746651963, 452024275624069879), (4606131040650197959, 226284707652502140), (4610297064819661174, 113176440454146015), (4611338766951757486, 56592481536850978), (4611599204741358746, 28296773447188931), (4611664314954810277, 14148453308909939), (4611680592556051597, 7074234977634092), (4611684661959354333, 3537118529214895), (4611685679310367042, 1768559394657193), (4611685933648131909, 884279713584815), (4611685997232573856, 442139858824434), (4611686013128684388, 221069929666220), (4611686017102712024, 110534964864860), (4611686018096218933, 55267482436398), (4611686018344595661, 27633741218695), (4611686018406689843, 13816870609409), (4611686018422213388, 6908435304712), (4611686018426094274, 3454217652356), (4611686018427064496, 1727108826178), (4611686018427307051, 863554413089), (4611686018427367690, 431777206544), (4611686018427382850, 215888603272), (4611686018427386640, 107944301636), (4611686018427387587, 53972150818), (4611686018427387824, 26986075409), (4611686018427387883, 13493037704), (4611686018427387898, 6746518852), (4611686018427387902, 3373259426), (4611686018427387903, 1686629713), (4611686018427387903, 843314856), (4611686018427387903, 421657428), (4611686018427387903, 210828714), (4611686018427387903, 105414357), (4611686018427387903, 52707178), (4611686018427387903, 26353589), (4611686018427387903, 13176794), (4611686018427387903, 6588397)]
/-- Cosine and sine of f 2^-40s of a quarter, in small parts. -/
def ZZ (f : Nat) : Int × Int := azz 4611686018427387904 turns f (4611686018427387904, 0)
def chainB (S : Int) : Int × Int → List (Int × Int) → Bool
  | _, [] => true
  | p, t :: ts => decide (nn (cd (cm t t) (ck S p)) ≤ 3 * S * (3 * S)) && decide (nn t ≤ S * S) && decide (S * S - 3 * S ≤ nn t) && chainB S t ts
theorem chain_of {S : Int} (hS : 0 < S) : ∀ (ts : List (Int × Int)) (p : Int × Int), chainB S p ts = true → Chain S p ts ∧ ∀ t ∈ ts, S * S - 3 * S ≤ nn t
  | [], _, _ => ⟨trivial, fun t h => by cases h⟩
  | t :: ts, p, h => by
    unfold chainB at h
    simp only [Bool.and_eq_true, decide_eq_true_eq] at h
    obtain ⟨⟨⟨h1, h2⟩, h3⟩, h4⟩ := h
    obtain ⟨k1, k2⟩ := chain_of hS ts t h4
    refine ⟨⟨⟨by omega, h1⟩, h2, k1⟩, fun u hu => ?_⟩
    rcases List.mem_cons.1 hu with rfl | hu
    · exact h3
    · exact k2 u hu
theorem turns_B : chainB 4611686018427387904 (0, 4611686018427387904) turns = true := by decide +kernel
theorem turns_chain : Chain 4611686018427387904 (0, 4611686018427387904) turns := (chain_of (by decide) turns _ turns_B).1
theorem turns_le : ∀ t ∈ turns, nn t ≤ 4611686018427387904 * 4611686018427387904 := Chain.all turns _ turns_chain
theorem turns_ge : ∀ t ∈ turns, 4611686018427387904 * 4611686018427387904 - 3 * 4611686018427387904 ≤ nn t := (chain_of (by decide) turns _ turns_B).2
theorem Bd.unscale {z : Int × Int} {r k : Int} (hk : 0 < k) (hr : 0 ≤ r) (h : Bd (ck k z) (k * r)) : Bd z r := by
  refine ⟨hr, ?_⟩
  have e : nn (ck k z) = k * k * nn z := by unfold nn ck; grind
  have f : k * r * (k * r) = k * k * (r * r) := by grind
  have := h.2
  rw [e, f] at this
  exact Int.le_of_mul_le_mul_left this (Int.mul_pos hk hk)
theorem Nr.unscale {a b : Int × Int} {r k : Int} (hk : 0 < k) (hr : 0 ≤ r) (h : Nr (ck k a) (ck k b) (k * r)) : Nr a b r := by
  refine Bd.unscale hk hr ?_
  rw [show ck k (cd a b) = cd (ck k a) (ck k b) by unfold cd ck; ext <;> simp <;> grind]
  exact h
theorem Bd.of_near {a b : Int × Int} {r s : Int} (h : Nr a b r) (k : Bd b s) : Bd a (r + s) := by
  have := Bd.add h k
  rw [show ((cd a b).1 + b.1, (cd a b).2 + b.2) = a by unfold cd; ext <;> simp] at this
  exact this
/-- The general sum: floors and turns cost so many small parts. -/
theorem azz_add {S : Int} (hS : 6400 ≤ S) {ts : List (Int × Int)} {p : Int × Int} (hl : ts.length = 40) (hp : nn p ≤ S * S) (ch : Chain S p ts) {f g h c : Nat} (hc : c ≤ 1) (hf : f < 2 ^ 40) (hg : g < 2 ^ 40) (hh : h < 2 ^ 40) (e : f + g = h + c * 2 ^ 40) :
    Nr (cm (azz S ts f (S, 0)) (azz S ts g (S, 0))) (cm (pick c p S) (azz S ts h (S, 0))) (361 * S) := by
  have hS0 : 0 < S := by omega
  have hall := Chain.all ts p ch
  have af := azz_near hS0 ts f (S, 0) hall
  have ag := azz_near hS0 ts g (S, 0) hall
  have ah := azz_near hS0 ts h (S, 0) hall
  have ef := ex_bd hS0 ts f hall
  have eg := ex_bd hS0 ts g hall
  have ea := ex_add hS0 ts p ch f g h c (by rw [hl, Nat.mod_eq_of_lt hf, Nat.mod_eq_of_lt hg, Nat.mod_eq_of_lt hh]; exact e) hc
  have hP := pw_pos hS0 ts.length
  have hw := pick_bd hS0 hp c
  rw [cm_real] at af ag ah
  rw [show (ts.length : Int) = 40 by rw [hl]; rfl] at af ag ah ea
  generalize pw S ts.length = P at *
  generalize azz S ts f (S, 0) = zf at *
  generalize azz S ts g (S, 0) = zg at *
  generalize azz S ts h (S, 0) = zh at *
  generalize ex S ts f = xf at *
  generalize ex S ts g = xg at *
  generalize ex S ts h = xh at *
  generalize pick c p S = w at *
  have bg : Bd (ck P zg) (2 * 40 * P + S * P) := Bd.of_near ag (eg.scale (Int.le_of_lt hS0))
  have s1 := af.mul bg
  have s2 := ag.mul (ef.scale (Int.le_of_lt hS0))
  have s3 := ea.scale (Int.le_of_lt hS0)
  have s4 := ((ah.symm.mul hw).scale (Int.le_of_lt hP))
  rw [cm_comm (ck P zg), cm_comm (ck S xg) (ck S xf)] at s2
  have e3 : ck S (ck S (cm xf xg)) = cm (ck S xf) (ck S xg) := by unfold cm ck; ext <;> simp <;> grind
  have e4 : ck S (ck P (cm w xh)) = ck P (cm (ck S xh) w) := by unfold cm ck; ext <;> simp <;> grind
  rw [e3, e4] at s3
  have t := ((s1.trans s2).trans s3).trans s4
  have e5 : cm (ck P zf) (ck P zg) = ck (P * P) (cm zf zg) := by unfold cm ck; ext <;> simp <;> grind
  have e6 : ck P (cm (ck P zh) w) = ck (P * P) (cm w zh) := by unfold cm ck; ext <;> simp <;> grind
  rw [e5, e6] at t
  refine Nr.unscale (Int.mul_pos hP hP) (by omega) (t.mono ?_)
  have e7 : 2 * 40 * P * (2 * 40 * P + S * P) + 2 * 40 * P * (S * P) + S * (3 * 40 * (P * P)) + P * (2 * 40 * P * S) = P * P * (360 * S + 6400) := by grind
  rw [e7]
  exact Int.mul_le_mul_of_nonneg_left (by omega) (Int.le_of_lt (Int.mul_pos hP hP))
theorem ZZ_add {f g h c : Nat} (hc : c ≤ 1) (hf : f < 2 ^ 40) (hg : g < 2 ^ 40) (hh : h < 2 ^ 40) (e : f + g = h + c * 2 ^ 40) :
    Nr (cm (ZZ f) (ZZ g)) (cm (pick c (0, 4611686018427387904) 4611686018427387904) (ZZ h)) (361 * 4611686018427387904) :=
  azz_add (by decide) rfl (by decide) turns_chain hc hf hg hh e
theorem azz_bd {S : Int} (hS : 0 < S) {ts : List (Int × Int)} (hall : ∀ t ∈ ts, nn t ≤ S * S) (f : Nat) : Bd (azz S ts f (S, 0)) (2 * ts.length + S) := by
  have af := azz_near hS ts f (S, 0) hall
  have ef := ex_bd hS ts f hall
  have hP := pw_pos hS ts.length
  rw [cm_real] at af
  have b := Bd.of_near af (ef.scale (Int.le_of_lt hS))
  refine Bd.unscale hP (by omega) (b.mono ?_)
  have : 2 * (ts.length : Int) * pw S ts.length + S * pw S ts.length = pw S ts.length * (2 * (ts.length : Int) + S) := by grind
  omega
theorem ZZ_le (f : Nat) : Bd (ZZ f) 4611686018427387984 := azz_bd (by decide) turns_le f
theorem ex_ge {S : Int} (hS : 0 < S) : ∀ (ts : List (Int × Int)) (f : Nat), (∀ t ∈ ts, S * S - 3 * S ≤ nn t) → 3 * (ts.length : Int) ≤ S → pw S ts.length * pw S ts.length * (S - 3 * ts.length) ≤ S * nn (ex S ts f)
  | [], f, _, _ => by
    show 1 * 1 * (S - 3 * ((0 : Nat) : Int)) ≤ S * nn (1, 0)
    rw [show nn (1, 0) = 1 from rfl]; omega
  | t :: ts, f, h, hl => by
    rw [List.length_cons, Int.natCast_add] at hl
    have ih := ex_ge hS ts f (fun u hu => h u (List.mem_cons_of_mem _ hu)) (by omega)
    rw [ex_cons, nn_mul, List.length_cons]
    unfold pw
    have hp := pw_pos hS ts.length
    have hb : S * (S - 3) ≤ nn (pick (f / 2 ^ ts.length % 2) t S) := by
      have e : S * (S - 3) = S * S - 3 * S := by grind
      rw [e]
      unfold pick
      split
      · exact h t List.mem_cons_self
      · have : nn (S, 0) = S * S := by unfold nn; simp
        omega
    generalize nn (pick (f / 2 ^ ts.length % 2) t S) = u at *
    have hx := nn_0 (ex S ts f)
    generalize nn (ex S ts f) = x at *
    generalize pw S ts.length = P at *
    rw [Int.natCast_add]
    have n0 : 0 ≤ (ts.length : Int) := Int.natCast_nonneg _
    generalize (ts.length : Int) = n at *
    have h1 : S * (S - 3) * (P * P * (S - 3 * n)) ≤ u * (S * x) := by
      refine Int.mul_le_mul hb ih ?_ ?_
      · exact Int.mul_nonneg (Int.le_of_lt (Int.mul_pos hp hp)) (by omega)
      · exact Int.le_trans (Int.mul_nonneg (Int.le_of_lt hS) (by omega)) hb
    have h2 : S * P * (S * P) * (S - 3 * (n + ((1 : Nat) : Int))) ≤ S * (S - 3) * (P * P * (S - 3 * n)) := by
      have e : S * (S - 3) * (P * P * (S - 3 * n)) - S * P * (S * P) * (S - 3 * (n + ((1 : Nat) : Int))) = S * (P * P) * (9 * n) := by grind
      have : 0 ≤ S * (P * P) * (9 * n) := Int.mul_nonneg (Int.le_of_lt (Int.mul_pos hS (Int.mul_pos hp hp))) (by omega)
      omega
    have e3 : u * (S * x) = S * (u * x) := by grind
    omega
theorem azz_ge {S : Int} (hS : 1000 ≤ S) {ts : List (Int × Int)} (hl : ts.length = 40) (hall : ∀ t ∈ ts, nn t ≤ S * S) (hge : ∀ t ∈ ts, S * S - 3 * S ≤ nn t) (f : Nat) : (S - 204) * (S - 204) ≤ nn (azz S ts f (S, 0)) := by
  have hS0 : 0 < S := by omega
  have af := azz_near hS0 ts f (S, 0) hall
  have eg := ex_ge hS0 ts f hge (by rw [hl]; omega)
  have hP := pw_pos hS0 ts.length
  rw [cm_real] at af
  rw [show (ts.length : Int) = 40 by rw [hl]; rfl] at af eg
  generalize pw S ts.length = P at *
  generalize azz S ts f (S, 0) = z at *
  generalize ex S ts f = x at *
  rcases Int.lt_or_le (nn z) ((S - 204) * (S - 204)) with h | h
  · exfalso
    have b1 : Bd z (S - 204) := ⟨by omega, Int.le_of_lt h⟩
    have b2 := Bd.of_near af.symm (b1.scale (Int.le_of_lt hP))
    have e1 : nn (ck S x) = S * S * nn x := by unfold nn ck; grind
    have h2 := b2.2
    rw [e1] at h2
    have e2 : (2 * 40 * P + P * (S - 204)) * (2 * 40 * P + P * (S - 204)) = P * P * ((S - 124) * (S - 124)) := by grind
    rw [e2] at h2
    have h3 := Int.mul_le_mul_of_nonneg_left eg (Int.le_of_lt hS0)
    have e3 : S * (S * nn x) = S * S * nn x := by grind
    rw [e3] at h3
    have h4 := Int.le_trans h3 h2
    have e4 : S * (P * P * (S - 3 * 40)) = P * P * (S * (S - 120)) := by grind
    rw [e4] at h4
    have h5 := Int.le_of_mul_le_mul_left h4 (Int.mul_pos hP hP)
    have e5 : (S - 124) * (S - 124) = S * S - 248 * S + 15376 := by grind
    have e6 : S * (S - 120) = S * S - 120 * S := by grind
    rw [e5, e6] at h5
    generalize S * S = q at *
    omega
  · exact h
theorem ZZ_ge (f : Nat) : (4611686018427387904 - 204) * (4611686018427387904 - 204) ≤ nn (ZZ f) := azz_ge (by decide) rfl turns_le turns_ge f
/-- The nearest 65536th of so many small parts. -/
def c46 (x : Int) : Int := (x + 35184372088832) / 70368744177664
theorem c46_is (x : Int) : ∃ a, 70368744177664 * c46 x = x + a ∧ -35184372088832 < a ∧ a ≤ 35184372088832 := ⟨70368744177664 * c46 x - x, by omega, by unfold c46; omega, by unfold c46; omega⟩
/-- Both squares together. -/
theorem circle (f : Nat) : c46 (ZZ f).1 * c46 (ZZ f).1 + c46 (ZZ f).2 * c46 (ZZ f).2 ≤ 4294967296 + 92683 ∧ 4294967296 - 92683 ≤ c46 (ZZ f).1 * c46 (ZZ f).1 + c46 (ZZ f).2 * c46 (ZZ f).2 := by
  obtain ⟨a, ha, a0, a1⟩ := c46_is (ZZ f).1
  obtain ⟨b, hb, b0, b1⟩ := c46_is (ZZ f).2
  have u := (ZZ_le f).2
  have l := ZZ_ge f
  have hab : a * a + b * b ≤ 49758216191608 * 49758216191608 := by
    have k1 : a * a ≤ 35184372088832 * 35184372088832 := by
      rcases Int.le_total 0 a with h | h
      · exact Int.mul_le_mul a1 a1 h (by decide)
      · have := Int.mul_le_mul (show -a ≤ 35184372088832 by omega) (show -a ≤ 35184372088832 by omega) (show 0 ≤ -a by omega) (by decide)
        rw [Int.neg_mul_neg] at this
        exact this
    have k2 : b * b ≤ 35184372088832 * 35184372088832 := by
      rcases Int.le_total 0 b with h | h
      · exact Int.mul_le_mul b1 b1 h (by decide)
      · have := Int.mul_le_mul (show -b ≤ 35184372088832 by omega) (show -b ≤ 35184372088832 by omega) (show 0 ≤ -b by omega) (by decide)
        rw [Int.neg_mul_neg] at this
        exact this
    omega
  have d1 := dot_le (a := a) (b := b) (c := (ZZ f).1) (d := (ZZ f).2) hab u (by decide) (by decide)
  have d2 := dot_le (r := 49758216191608) (a := -a) (b := -b) (c := (ZZ f).1) (d := (ZZ f).2) (by rw [Int.neg_mul_neg, Int.neg_mul_neg]; exact hab) u (by decide) (by decide)
  have s0 := sq_0 a
  have s1 := sq_0 b
  have k0 : 0 ≤ a * a + b * b := by omega
  generalize c46 (ZZ f).1 = c at *
  generalize c46 (ZZ f).2 = s at *
  unfold nn at u l
  generalize (ZZ f).1 = x at *
  generalize (ZZ f).2 = y at *
  have e : 70368744177664 * 70368744177664 * (c * c + s * s) = x * x + y * y + 2 * (a * x + b * y) + (a * a + b * b) := by
    have e1 : 70368744177664 * 70368744177664 * (c * c + s * s) = 70368744177664 * c * (70368744177664 * c) + 70368744177664 * s * (70368744177664 * s) := by grind
    rw [e1, ha, hb]
    grind
  have e2 : -a * x + -b * y = -(a * x + b * y) := by grind
  rw [e2] at d2
  generalize c * c + s * s = q at *
  generalize x * x + y * y = n at *
  generalize a * x + b * y = d at *
  generalize a * a + b * b = k at *
  clear ha hb a0 a1 b0 b1
  omega
end Go.Proofs.Ythfgeopldbcniab
