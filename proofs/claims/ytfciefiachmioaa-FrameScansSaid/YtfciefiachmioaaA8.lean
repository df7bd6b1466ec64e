/- Layer 1: the document's own reading of a number of few bytes. -/
import Derived.Test.YtfciefiachmioaaG1
namespace Go.Proofs.Ytfciefiachmioaa
open Ax
set_option linter.unusedSimpArgs false
set_option linter.unusedVariables false

def S23 (f : FuncId) : Option FSpec :=
  match f with
  | _ => none
theorem S23_ok : Fns Try.prog S23 := by
  intro f s h
  unfold S23 at h
  cases h

theorem getL_ten (bs : List UInt8) (hall : ∀ d ∈ bs.take 10, 128 ≤ d.toNat) (hl : 10 ≤ bs.length) : getL bs = (0, 0, 4) := by
  have e : bs = bs.take 10 ++ bs.drop 10 := (List.take_append_drop 10 bs).symm
  rw [getL_M, e]
  exact getM_ten _ 0 0 _ hall (by simp; omega)
theorem getL_open (bs : List UInt8) (hall : ∀ d ∈ bs, 128 ≤ d.toNat) (hl : bs.length < 10) : getL bs = (0, 0, 3) := by
  rw [getL_M, getM_open bs 0 0 hall (by omega), if_pos (by omega)]
theorem getL_end (bs : List UInt8) (i : Nat) (hi : i < bs.length) (h9 : i ≤ 9) (hall : ∀ d ∈ bs.take i, 128 ≤ d.toNat) (hc : bs[i].toNat < 128) :
    getL bs = if putU (valU (bs.take (i + 1)) % 18446744073709551616) = bs.take (i + 1) then (zg ((valU (bs.take (i + 1)) % 18446744073709551616 : Nat) : Int), i + 1, 0) else (0, 0, 4) := by
  have e : bs = bs.take i ++ bs[i] :: bs.drop (i + 1) := by
    rw [← List.drop_eq_getElem_cons hi, List.take_append_drop]
  have e2 : bs.take (i + 1) = bs.take i ++ [bs[i]] := by rw [List.take_succ_eq_append_getElem hi]
  have hlen : (bs.take i).length = i := by simp; omega
  have h1 := getM_end (bs.take i) 0 0 bs[i] (bs.drop (i + 1)) hall hc (by omega)
  have hcan := canon (bs.take i) bs[i] hall hc (by omega)
  rw [← e] at h1
  rw [getL_M, h1, e2]
  simp only [Nat.zero_add, hlen, Nat.pow_zero, Nat.mul_one] at hcan ⊢
  by_cases hbad : (0 < i ∧ bs[i].toNat = 0) ∨ (i = 9 ∧ 1 < bs[i].toNat)
  · rw [if_pos hbad, if_neg (fun h => (hcan.1 h) hbad)]
  · have hput := hcan.2 hbad
    rw [if_neg hbad, if_pos hput]
    have hv := val_put (valU (bs.take i ++ [bs[i]]) % 18446744073709551616)
    rw [hput] at hv
    rw [← hv]

theorem valU_step (bs : List UInt8) (n k : Nat) (hk : k < n) (hn : n ≤ bs.length) : valU ((bs.take n).drop k) = (bs.getD k 0).toNat % 128 + 128 * valU ((bs.take n).drop (k + 1)) := by
  have hkl : k < (bs.take n).length := by simp; omega
  rw [List.drop_eq_getElem_cons hkl]
  have : (bs.take n)[k] = bs.getD k 0 := by
    simp [show k < bs.length by omega]
  rw [this]; rfl

theorem tmod_cast (a b : Nat) : (a : Int).tmod b = ((a % b : Nat) : Int) := by
  rw [Int.tmod_eq_emod_of_nonneg (by omega)]; simp

section
set_option maxRecDepth 100000
end
end Go.Proofs.Ytfciefiachmioaa
