/- Layer 1: numbers of a set width. -/
import Derived.Test.YthodcljimjglcaaA2
import Derived.Test.YthodcljimjglcaaAxZb
namespace Go.Proofs.Ythodcljimjglcaa
open Ax
set_option linter.unusedSimpArgs false
set_option linter.unusedVariables false

/-- The last w bytes of a number. -/
def fixL (u : Nat) : Nat → List UInt8
  | 0 => []
  | w + 1 => UInt8.ofNat (u / 256 ^ w % 256) :: fixL u w
theorem fixL_length (u w : Nat) : (fixL u w).length = w := by
  induction w with
  | zero => rfl
  | succ w ih => simp [fixL, ih]

theorem clampI_range (n : Int) : 0 ≤ clampI n ∧ clampI n ≤ 8 := by unfold clampI; repeat' split
                                                                   all_goals omega

def fixS : FSpec
  | [.w (.int k u), .w (.int k' n)], [] => ⟨k = .u64 ∧ k' = .i64 ∧ 0 ≤ u ∧ u < 18446744073709551616, .ms 0 1 0 (clampI n).toNat, [.b (fixL u.toNat (clampI n).toNat)]⟩
  | _, _ => noRes

def S20 (f : FuncId) : Option FSpec :=
  match f with
  | _ => none
theorem S20_ok : Fns Try.prog S20 := by
  intro f s h
  unfold S20 at h
  cases h

theorem shr8 (U i : Nat) : (U : Int) / 2 ^ (8 * i) = ((U / 256 ^ i : Nat) : Int) := by
  have : (2 : Int) ^ (8 * i) = ((256 ^ i : Nat) : Int) := by
    rw [show 256 = 2 ^ 8 from rfl, ← Nat.pow_mul]
    simp
  rw [this]; simp

theorem set_at (k : Nat) (b : UInt8) (l : List UInt8) : (List.replicate (k + 1) 0 ++ l).set k b = List.replicate k 0 ++ b :: l := by
  induction k with
  | zero => rfl
  | succ k ih =>
    rw [List.replicate_succ, List.cons_append, List.set_cons_succ, ih]
    rw [List.replicate_succ (n := k), List.cons_append]

section
set_option maxRecDepth 100000

def unfL (bs : List UInt8) (n : Nat) : Nat := bs.foldl (fun n b => n * 256 + b.toNat) n
def last8 (bs : List UInt8) : List UInt8 := bs.drop (bs.length - 8)
theorem last8_length (bs : List UInt8) : (last8 bs).length ≤ 8 := by unfold last8; simp; omega
def unfS : FSpec
  | [.sb bs _], [] => ⟨bs.length ≤ 1000000, .w (.int .u64 (unfL (last8 bs) 0 : Nat)), []⟩
  | _, _ => noRes
end
end Go.Proofs.Ythodcljimjglcaa
