/- Layer 2: the laws. -/
import Derived.Test.YtfciefiachmioaaC2
namespace Go.Proofs.Ytfciefiachmioaa
open Ax
set_option linter.unusedSimpArgs false
set_option linter.unusedVariables false

def S39 (f : FuncId) : Option FSpec :=
  match f with
  | 73 => some ofS
  | 83 => some moreS
  | 50 => some sealS
  | 58 => some openS
  | _ => none
theorem S39_ok : Fns Try.prog S39 := by
  intro f s h
  unfold S39 at h
  split at h
  · injection h with h; subst h; exact ⟨⟨_, Try.func73, by kernel_rfl, by kernel_rfl⟩, of_sound⟩
  · injection h with h; subst h; exact ⟨⟨_, Try.func83, by kernel_rfl, by kernel_rfl⟩, more_sound⟩
  · injection h with h; subst h; exact ⟨⟨_, Try.func50, by kernel_rfl, by kernel_rfl⟩, seal_sound⟩
  · injection h with h; subst h; exact ⟨⟨_, Try.func58, by kernel_rfl, by kernel_rfl⟩, open_sound⟩
  · cases h
theorem open_seal (bs : List UInt8) : openL (sealL bs) = (bs, 0) := by
  have h1 : (sealL bs).take 8 = fixL (crcL bs).toNat 8 := by
    rw [sealL, List.take_append_of_le_length (by rw [fixL_length]; exact Nat.le_refl _), List.take_of_length_le (by rw [fixL_length]; exact Nat.le_refl _)]
  have h2 : (sealL bs).drop 8 = bs := by
    rw [sealL, List.drop_append_of_le_length (by rw [fixL_length]; exact Nat.le_refl _), List.drop_of_length_le (by rw [fixL_length]; exact Nat.le_refl _), List.nil_append]
  have h3 := (fixL_eq (crcL bs).toNat (fixL (crcL bs).toNat 8) (fixL_length _ _) (crcL bs).isLt).1 rfl
  unfold openL
  rw [if_neg (by rw [sealL_length]; omega), h1, h2, if_pos h3.symm]
theorem crc9 : ri (crcL [UInt8.ofNat 49, UInt8.ofNat 50, UInt8.ofNat 51, UInt8.ofNat 52, UInt8.ofNat 53, UInt8.ofNat 54, UInt8.ofNat 55, UInt8.ofNat 56, UInt8.ofNat 57]) = 11051210869376104954 := by decide +kernel
theorem crc45 : ri (ones ^^^ regL (ones ^^^ crcL [UInt8.ofNat 49, UInt8.ofNat 50, UInt8.ofNat 51, UInt8.ofNat 52]) [UInt8.ofNat 53, UInt8.ofNat 54, UInt8.ofNat 55, UInt8.ofNat 56, UInt8.ofNat 57]) = 11051210869376104954 := by decide +kernel

section
set_option maxRecDepth 100000
def ofsS : FSpec
  | [.sb bs f, .w (.int k n)], [] => ⟨k = .u16 ∧ 0 ≤ n ∧ n < 65536, .w (.bool true), []⟩
  | _, _ => noRes
def S9 (f : FuncId) : Option FSpec :=
  match f with
  | 75 => some ofS
  | 73 => some ofS
  | 83 => some moreS
  | _ => none
theorem S9_ok : Fns Try.prog S9 := by
  intro f s h
  unfold S9 at h
  split at h
  · injection h with h; subst h; exact ⟨⟨_, Try.func75, by kernel_rfl, by kernel_rfl⟩, rof_sound⟩
  · injection h with h; subst h; exact ⟨⟨_, Try.func73, by kernel_rfl, by kernel_rfl⟩, of_sound⟩
  · injection h with h; subst h; exact ⟨⟨_, Try.func83, by kernel_rfl, by kernel_rfl⟩, more_sound⟩
  · cases h
def opensS : FSpec
  | [.sb bs f], [] => ⟨True, .w (.bool true), []⟩
  | _, _ => noRes
def S10 (f : FuncId) : Option FSpec :=
  match f with
  | 61 => some openS
  | 58 => some openS
  | 53 => some sealS
  | 50 => some sealS
  | _ => none
theorem S10_ok : Fns Try.prog S10 := by
  intro f s h
  unfold S10 at h
  split at h
  · injection h with h; subst h; exact ⟨⟨_, Try.func61, by kernel_rfl, by kernel_rfl⟩, ropen_sound⟩
  · injection h with h; subst h; exact ⟨⟨_, Try.func58, by kernel_rfl, by kernel_rfl⟩, open_sound⟩
  · injection h with h; subst h; exact ⟨⟨_, Try.func53, by kernel_rfl, by kernel_rfl⟩, rseal_sound⟩
  · injection h with h; subst h; exact ⟨⟨_, Try.func50, by kernel_rfl, by kernel_rfl⟩, seal_sound⟩
  · cases h
theorem openL_len (bs : List UInt8) : (openL bs).1.length ≤ bs.length := by
  unfold openL; repeat' split
  all_goals simp
end
end Go.Proofs.Ytfciefiachmioaa
