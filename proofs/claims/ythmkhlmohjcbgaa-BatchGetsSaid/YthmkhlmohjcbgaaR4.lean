/- Layer 3: what every right program lays of one record. -/
import Derived.Test.YthmkhlmohjcbgaaR3
namespace Go.Proofs.Ythmkhlmohjcbgaa
open Ax
set_option linter.unusedSimpArgs false
set_option linter.unusedVariables false

def Saw3 (f : FuncId) : Option FSpec :=
  match f with
  | 48 => some rputS
  | 36 => some rgetS
  | 33 => some rsameS
  | 34 => some newS
  | _ => none
theorem Saw3_ok : Fns Try.prog Saw3 := by
  intro f s h
  unfold Saw3 at h
  split at h
  · injection h with h; subst h; exact ⟨⟨_, Try.func48, by kernel_rfl, by kernel_rfl⟩, recput_sound⟩
  · injection h with h; subst h; exact ⟨⟨_, Try.func36, by kernel_rfl, by kernel_rfl⟩, recget_sound⟩
  · injection h with h; subst h; exact ⟨⟨_, Try.func33, by kernel_rfl, by kernel_rfl⟩, rsame_sound⟩
  · injection h with h; subst h; exact ⟨⟨_, Try.func34, by kernel_rfl, by kernel_rfl⟩, new_sound⟩
  · cases h
theorem w1 : rchk 1 5 true [107] false [118] = 0 := by decide
theorem w2 : rchk 1 5 true [107] true [] = 0 := by decide
theorem w3 : recB 1 5 true [107] false [118] = [1, 2, 10, 2, 107, 2, 118] := by
  simp [recB, w1, recL, flagI, textL, putU, zz]
theorem w4 : recB 1 5 true [107] true [] = [3, 2, 10, 2, 107] := by
  simp [recB, w2, recL, flagI, textL, putU, zz]
theorem w5 : gerr [1, 2, 10, 2, 107, 2, 118] 0 = 0 := by decide +kernel
theorem w6 : gd [1, 2, 10, 2, 107, 2, 118] 0 = 1 := by decide +kernel
theorem w7 : gt [1, 2, 10, 2, 107, 2, 118] 0 = 5 := by decide +kernel
theorem w8 : gk [1, 2, 10, 2, 107, 2, 118] 0 = true := by decide +kernel
theorem w9 : gdd [1, 2, 10, 2, 107, 2, 118] 0 = false := by decide +kernel
theorem w10 : gkey [1, 2, 10, 2, 107, 2, 118] 0 = [107] := by decide +kernel
theorem w11 : gval [1, 2, 10, 2, 107, 2, 118] 0 = [118] := by decide +kernel
theorem w12 : grec [1, 2, 10, 2, 107, 2, 118] 0 = recV 1 5 true [107] false [118] := by
  unfold grec; rw [if_pos w5, w6, w7, w8, w9, w10, w11]
theorem w13 : sameB 1 5 true [107] false [118] 1 5 true [107] false [118] = true := by decide
theorem w14 : sameB 1 5 true [107] false [118] 1 5 true [107] true [] = false := by decide

section
set_option maxRecDepth 100000
set_option maxHeartbeats 1000000 in
end
end Go.Proofs.Ythmkhlmohjcbgaa
