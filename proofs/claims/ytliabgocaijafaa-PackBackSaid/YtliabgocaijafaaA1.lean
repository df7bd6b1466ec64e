/- Layer 1: zigzag. -/
import Derived.Test.YtliabgocaijafaaAu
namespace Go.Proofs.Ytliabgocaijafaa
open Ax
set_option linter.unusedSimpArgs false
set_option linter.unusedVariables false

def zz (n : Int) : Int := if 0 ≤ n then 2 * n else -2 * n - 1
def zzS : FSpec
  | [.w (.int k n)], [] => ⟨k = .i64 ∧ -9223372036854775808 ≤ n ∧ n ≤ 9223372036854775807, .w (.int .u64 (zz n)), []⟩
  | _, _ => noRes
def zg (n : Int) : Int := if n % 2 = 0 then n / 2 else -(n / 2) - 1
def zgS : FSpec
  | [.w (.int k n)], [] => ⟨k = .u64 ∧ 0 ≤ n ∧ n < 18446744073709551616, .w (.int .i64 (zg n)), []⟩
  | _, _ => noRes

theorem xor_u64_zero (x : Int) (h : 0 ≤ x) (h' : x < 18446744073709551616) : bits .xor .u64 x 0 = x := by
  show IntKind.u64.wrap ((BitVec.ofInt 64 x ^^^ BitVec.ofInt 64 0).toNat : Int) = _
  rw [show BitVec.ofInt 64 0 = 0#64 from rfl, BitVec.xor_zero, BitVec.toNat_ofInt, IntKind.wrap_u64]
  omega
theorem xor_u64_ones (x : Int) (h : 0 ≤ x) (h' : x < 18446744073709551616) : bits .xor .u64 x 18446744073709551615 = 18446744073709551615 - x := by
  show IntKind.u64.wrap ((BitVec.ofInt 64 x ^^^ BitVec.ofInt 64 18446744073709551615).toNat : Int) = _
  rw [show BitVec.ofInt 64 18446744073709551615 = BitVec.allOnes 64 from by decide, BitVec.xor_allOnes, BitVec.toNat_not, BitVec.toNat_ofInt, IntKind.wrap_u64]
  omega
theorem xor_i64_zero (x : Int) (h : -9223372036854775808 ≤ x) (h' : x ≤ 9223372036854775807) : bits .xor .i64 x 0 = x := by
  show IntKind.i64.wrap ((BitVec.ofInt 64 x ^^^ BitVec.ofInt 64 0).toNat : Int) = _
  rw [show BitVec.ofInt 64 0 = 0#64 from rfl, BitVec.xor_zero, BitVec.toNat_ofInt, IntKind.wrap_i64]
  omega
theorem xor_i64_ones (x : Int) (h : -9223372036854775808 ≤ x) (h' : x ≤ 9223372036854775807) : bits .xor .i64 x (-1) = -x - 1 := by
  show IntKind.i64.wrap ((BitVec.ofInt 64 x ^^^ BitVec.ofInt 64 (-1)).toNat : Int) = _
  rw [show BitVec.ofInt 64 (-1) = BitVec.allOnes 64 from by decide, BitVec.xor_allOnes, BitVec.toNat_not, BitVec.toNat_ofInt, IntKind.wrap_i64]
  omega
theorem and_u64_one (x : Int) (h : 0 ≤ x) (h' : x < 18446744073709551616) : bits .and .u64 x 1 = x % 2 := by
  rw [u64_and x 1 h h' (by omega) (by omega), show (1 : Int).toNat = 2 ^ 1 - 1 from rfl, Nat.and_two_pow_sub_one_eq_mod]
  omega

section
set_option maxRecDepth 100000
end
end Go.Proofs.Ytliabgocaijafaa
