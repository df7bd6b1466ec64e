/- What the proofs of this seat stand on; it asks nothing. -/
import Derived.Test.YtffdpbbbdmmdlaaYa11
set_option linter.unusedSimpArgs false
set_option linter.unusedVariables false
namespace Go.Proofs.Ytffdpbbbdmmdlaa
open Ax
def cJ (a s p : Nat) : Nat := (p - a + s - 1) / s
theorem zhw {a s p j : Nat} (hs : 0 < s) : j < cJ a s p ↔ a + s * j < p := by
 unfold cJ
 rw [Nat.lt_iff_add_one_le,Nat.le_div_iff_mul_le hs,Nat.add_mul,Nat.one_mul,Nat.mul_comm s j]
 generalize j * s = x
 omega
def apI (a s j : Nat) : List Int := (List.range j).map fun i => ((a + s * i : Nat) : Int)
theorem zmb (a s j : Nat) : (apI a s j).length = j := by unfold apI; simp
theorem ybu (a s j : Nat) : apI a s j ++ [((a + s * j : Nat) : Int)] = apI a s (j + 1) := by unfold apI; rw [List.range_succ,List.map_append]; rfl
theorem zza (a m : Nat) : apI a 1 m = iotI a m := by
 unfold apI iotI
 refine List.map_congr_left fun i _ => ?_
 rw [Nat.one_mul]
theorem zzg (n : Nat) (hn : 0 < n) : ∀ (P k : Nat),k < n → tnK n P k = apI k n (cJ k n P)
 | 0,k,hk => by
  have : cJ k n 0 = 0 := by
   rcases Nat.eq_zero_or_pos (cJ k n 0) with h | h
   ·exact h
   ·have := (zhw hn).1 h; omega
  rw [this]; rfl
 | i + 1,k,hk => by
  have ih := zzg n hn i k hk
  show tnF n (tnK n i) i k = _
  unfold tnF
  have hdm := Nat.div_add_mod i n
  by_cases e : k = i % n
  ·rw [if_pos e,ih]
   have h1 : cJ k n i = i / n := by
    refine Nat.le_antisymm (Nat.not_lt.1 fun h => ?_) (Nat.not_lt.1 fun h => ?_)
    ·have := (zhw hn).1 h
     omega
    ·have h2 : ¬ (k + n * cJ k n i < i) := fun h3 => Nat.lt_irrefl _ ((zhw hn).2 h3)
     have h3 : n * (cJ k n i + 1) ≤ n * (i / n) := Nat.mul_le_mul_left n h
     rw [Nat.mul_add,Nat.mul_one] at h3
     omega
   have h2 : cJ k n (i + 1) = i / n + 1 := by
    refine Nat.le_antisymm (Nat.not_lt.1 fun h => ?_) ((zhw hn).2 (by omega))
    have := (zhw hn).1 h
    rw [Nat.mul_add,Nat.mul_one] at this
    omega
   rw [h1,h2,← ybu]
   congr 2
   have : k + n * (i / n) = i := by omega
   rw [this]
  ·rw [if_neg e,ih]
   have : cJ k n (i + 1) = cJ k n i := by
    refine Nat.le_antisymm (Nat.not_lt.1 fun h => ?_) (Nat.not_lt.1 fun h => ?_)
    ·have h1 := (zhw hn).1 h
     have h2 : ¬ (k + n * cJ k n i < i) := fun h3 => Nat.lt_irrefl _ ((zhw hn).2 h3)
     have h3 : k + n * cJ k n i = i := by omega
     refine e ?_
     rw [← h3,Nat.add_mul_mod_self_left,Nat.mod_eq_of_lt hk]
    ·have h1 := (zhw hn).1 h
     exact absurd ((zhw hn).2 (show k + n * cJ k n (i + 1) < i + 1 by omega)) (Nat.lt_irrefl _)
   rw [this]
end Go.Proofs.Ytffdpbbbdmmdlaa
namespace Go.Proofs.Ytffdpbbbdmmdlaa
open Ax
theorem zzo (P n : Nat) : ∀ k,(rgK P n k).2 = k * (P / n) + min k (P % n)
 | 0 => by simp [rgK]
 | k + 1 => by
  have := zzo P n k
  simp only [rgK,zcu]
  rw [this,Nat.add_mul,Nat.one_mul]
  generalize k * (P / n) = A
  generalize P / n = Q
  generalize P % n = R
  split <;> omega
theorem zzr (P n : Nat) (h : 0 < n) : (rgK P n n).2 = P := by
 rw [zzo]
 have h1 := Nat.div_add_mod P n
 have h2 := Nat.mod_lt P h
 rw [Nat.min_eq_right (Nat.le_of_lt h2)]
 exact h1
theorem ztt (P n : Nat) : ∀ (d k : Nat),(rgK P n k).2 ≤ (rgK P n (k + d)).2
 | 0,k => Nat.le_refl _
 | d + 1,k => Nat.le_trans (ztt P n d k) (Nat.le_add_right (rgK P n (k + d)).2 (zcu P n (k + d)))
theorem zzq (P n : Nat) (h : 0 < n) : ∀ k ≤ n,(rgK P n k).2 ≤ P := by
 intro k hk
 have h1 := ztt P n (n - k) k
 rw [show k + (n - k) = n by omega,zzr P n h] at h1
 exact h1
end Go.Proofs.Ytffdpbbbdmmdlaa
namespace Go.Proofs.Ytffdpbbbdmmdlaa
open Ax
theorem zsf (n : Nat) (p : Int) : (rgF n p).length = n := zhl _ _ _
theorem zmx (L : List (List Int)) (h : Bool) : coe ty 27 (.sg 1 (L.map siA) h) = .sg 1 (L.map siA) h := by cases L <;> rfl
end Go.Proofs.Ytffdpbbbdmmdlaa
