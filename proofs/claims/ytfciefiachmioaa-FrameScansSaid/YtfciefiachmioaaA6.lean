/- Layer 1: what every right program lays of some numbers. -/
import Derived.Test.YtfciefiachmioaaA5
namespace Go.Proofs.Ytfciefiachmioaa
open Ax
set_option linter.unusedSimpArgs false
set_option linter.unusedVariables false

def S17 (f : FuncId) : Option FSpec :=
  match f with
  | 78 => some zzS
  | 81 => some zgS
  | 63 => some putS
  | 49 => some fixS
  | 57 => some unfS
  | 37 => some newS
  | 38 => some numS
  | 66 => some rfixS
  | 67 => some rtextS'
  | 40 => some doneS
  | 80 => some textS
  | _ => none
theorem S17_ok : Fns Try.prog S17 := by
  intro f s h
  unfold S17 at h
  split at h
  · injection h with h; subst h; exact ⟨⟨_, Try.func78, by kernel_rfl, by kernel_rfl⟩, zig_sound⟩
  · injection h with h; subst h; exact ⟨⟨_, Try.func81, by kernel_rfl, by kernel_rfl⟩, zag_sound⟩
  · injection h with h; subst h; exact ⟨⟨_, Try.func63, by kernel_rfl, by kernel_rfl⟩, put_sound⟩
  · injection h with h; subst h; exact ⟨⟨_, Try.func49, by kernel_rfl, by kernel_rfl⟩, fixed_sound⟩
  · injection h with h; subst h; exact ⟨⟨_, Try.func57, by kernel_rfl, by kernel_rfl⟩, unfixed_sound⟩
  · injection h with h; subst h; exact ⟨⟨_, Try.func37, by kernel_rfl, by kernel_rfl⟩, new_sound⟩
  · injection h with h; subst h; exact ⟨⟨_, Try.func38, by kernel_rfl, by kernel_rfl⟩, num_sound⟩
  · injection h with h; subst h; exact ⟨⟨_, Try.func66, by kernel_rfl, by kernel_rfl⟩, mfixed_sound⟩
  · injection h with h; subst h; exact ⟨⟨_, Try.func67, by kernel_rfl, by kernel_rfl⟩, mtext_sound⟩
  · injection h with h; subst h; exact ⟨⟨_, Try.func40, by kernel_rfl, by kernel_rfl⟩, done_sound⟩
  · injection h with h; subst h; exact ⟨⟨_, Try.func80, by kernel_rfl, by kernel_rfl⟩, text_sound⟩
  · cases h


theorem aw1 : putU (zz (-1)).toNat = [1] := by simp [putU, zz]
theorem aw2 : putU (zz 64).toNat = [128, 1] := by simp [putU, zz]
theorem aw3 : textL [97, 98] = [4, 97, 98] := by simp [textL, putU]
theorem aw4 : fixL 258 (clampI 3).toNat = [0, 1, 2] := by kernel_rfl
def awB : List UInt8 := [UInt8.ofNat 4, UInt8.ofNat 97, UInt8.ofNat 98, UInt8.ofNat 128, UInt8.ofNat 1, UInt8.ofNat 0, UInt8.ofNat 9]
theorem aw5 : rtS' 9 [UInt8.ofNat 4, UInt8.ofNat 97, UInt8.ofNat 98, UInt8.ofNat 128, UInt8.ofNat 1, UInt8.ofNat 0, UInt8.ofNat 9] 0 = [97, 98] := by decide +kernel
theorem aw6 : rtL 9 [UInt8.ofNat 4, UInt8.ofNat 97, UInt8.ofNat 98, UInt8.ofNat 128, UInt8.ofNat 1, UInt8.ofNat 0, UInt8.ofNat 9] 0 = [128, 1, 0, 9] := by decide +kernel
theorem aw7 : rtE 9 [UInt8.ofNat 4, UInt8.ofNat 97, UInt8.ofNat 98, UInt8.ofNat 128, UInt8.ofNat 1, UInt8.ofNat 0, UInt8.ofNat 9] 0 = 0 := by decide +kernel
theorem aw8 : numN [128, 1, 0, 9] 0 = 64 := by decide +kernel
theorem aw9 : numL [128, 1, 0, 9] 0 = [0, 9] := by decide +kernel
theorem aw10 : numE [128, 1, 0, 9] 0 = 0 := by decide +kernel
theorem aw11 : rfixN 2 [0, 9] 0 = 9 := by decide +kernel
theorem aw12 : rfixL 2 [0, 9] 0 = [] := by decide +kernel
theorem aw13 : rfixE 2 [0, 9] 0 = 0 := by decide +kernel
theorem aw14 : zz (-3) = 5 := by decide
theorem aw15 : zg 5 = -3 := by decide
theorem aw16 : unfL (last8 [UInt8.ofNat 1, UInt8.ofNat 0]) 0 = 256 := by decide +kernel
theorem aw17 : ([1] : List UInt8).length = 1 ∧ ([128, 1] : List UInt8).length = 2 := by decide

section
set_option maxRecDepth 100000
end
end Go.Proofs.Ytfciefiachmioaa
