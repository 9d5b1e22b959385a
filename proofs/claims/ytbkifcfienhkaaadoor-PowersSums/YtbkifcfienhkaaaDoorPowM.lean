/- Powers of 2 and long logs by the document's rule, as plain functions that name no program. -/
import Derived.Test.YtbkifcfienhkaaaDoorRootM
import Derived.Test.YtbkifcfienhkaaaDoorWideH
import Derived.Test.YtbkifcfienhkaaaDoorFixA
namespace Go.Proofs.YtbkifcfienhkaaaDoor
set_option linter.unusedVariables false
/-- A product of small parts, floored. -/
def tm (a b : Nat) : Nat := a * b / 4611686018427387904
/-- T(1) to T(32). -/
def tab : List Nat := [6521908912666391106, 5484249825272419511, 5029079263719320435, 4815862801830788490, 4712668792719003883, 4661903986662671289, 4636727017470743989, 4624189567668517719, 4617933561212708775, 4614808732577250067, 4613247111281068007, 4612466498810092973, 4612076242109103706, 4611881126141011235, 4611783571252412753, 4611734794581956352, 4611710406440186475, 4611698212417665818, 4611692115418496523, 4611689066921934629, 4611687542674409370, 4611686780550835663, 4611686399489096040, 4611686208958238036, 4611686113692811986, 4611686066060099699, 4611686042243743740, 4611686030335565806, 4611686024381476851, 4611686021404432376, 4611686019915910139, 4611686019171649021]
/-- T(0) to T(32). -/
def TT (i : Nat) : Nat := (9223372036854775808 :: tab).getD i 0
/-- The factors of which the bits are set, one after the other. -/
def pwr : List Nat → Nat → Nat → Nat
  | [], _, p => p
  | t :: ts, f, p => pwr ts f (if f / 2 ^ ts.length % 2 = 1 then tm p t else p)
/-- 2 to the power of f 2^-32s, in small parts. -/
def PP (f : Nat) : Nat := pwr tab f 4611686018427387904
/-- The bits of a long log, one after the other. -/
def lls : Nat → Nat → Int → Int
  | 0, _, l => l
  | n + 1, y, l => if tm y y < 9223372036854775808 then lls n (tm y y) (2 * l) else lls n (tm y y / 2) (2 * l + 1)
/-- The long log, in 2^-40s. -/
def LL (x : Nat) : Int := lls 40 (x * 2 ^ (62 - x.log2)) ((x.log2 : Int) - 16)
/-- The nearest 65536th of so many small parts times 2^w. -/
def nst (p : Nat) (w : Int) : Int := if 15 ≤ w then 2147483648 else if w ≤ -18 then 0 else ((p + 2 ^ (45 - w).toNat) / 2 ^ (46 - w).toNat : Nat)
/-- 2 to the power of e 2^-32s, in 65536ths. -/
def two (e : Int) : Int := nst (PP (e % 4294967296).toNat) (e / 4294967296)
def exq (x : Int) : Int := held (two (x * 65536))
def lgq (x : Int) : Int := if x ≤ 0 then 0 else nr (LL x.toNat) 16777216
def lge (x : Int) : Int := if x ≤ 0 then 1 else 0
def rsd (a n : Int) : Int := two (nr (n * LL a.toNat) 16777216)
def pwq (a n : Int) : Int := if n = 0 then 65536 else if a = 0 then 0 else if 0 < a then held (rsd a n) else if n % 65536 = 0 then (if n / 65536 % 2 = 0 then held (rsd (-a) n) else held (-rsd (-a) n)) else 0
def pwe (a n : Int) : Int := if n = 0 then 0 else if a = 0 then (if n < 0 then 12 else 0) else if 0 < a then 0 else if n % 65536 = 0 then 0 else 1
theorem TT_root : ∀ i, i < 32 → TT (i + 1) * TT (i + 1) ≤ TT i * 4611686018427387904 ∧ TT i * 4611686018427387904 < (TT (i + 1) + 1) * (TT (i + 1) + 1) := by decide +kernel
theorem TT_in : ∀ i, i ≤ 32 → 4611686018427387904 ≤ TT i ∧ TT i ≤ 9223372036854775808 ∧ (i = 0 ∨ TT i < 9223372036854775808) := by decide +kernel
theorem TT_rt {i : Nat} (h : i < 32) : rt ((TT i : Int) * 4611686018427387904) = (TT (i + 1) : Int) := by
  obtain ⟨h1, h2⟩ := TT_root i h
  have k1 := Int.ofNat_le.2 h1
  have k2 := Int.ofNat_lt.2 h2
  rw [Int.natCast_mul, Int.natCast_mul] at k1
  rw [Int.natCast_mul, Int.natCast_mul, Int.natCast_add] at k2
  exact rt_of (by omega) k1 k2
theorem tm_lt {a b : Nat} (ha : a < 9223372036854775808) (hb : b < 9223372036854775808) : tm a b < 18446744073709551616 := by
  unfold tm
  have : a * b < 9223372036854775808 * 9223372036854775808 := Nat.mul_lt_mul'' ha hb
  omega
end Go.Proofs.YtbkifcfienhkaaaDoor
