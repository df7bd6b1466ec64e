/- Layer 1: the laws of what is got. -/
import Derived.Test.YtfciefiachmioaaB2
import Derived.Test.YtfciefiachmioaaG1
namespace Go.Proofs.Ytfciefiachmioaa
open Ax
set_option linter.unusedSimpArgs false
set_option linter.unusedVariables false

def backS : FSpec
  | [.w (.int k n), .sb bs f], [] => ⟨k = .i64 ∧ (-9223372036854775808 ≤ n ∧ n ≤ 9223372036854775807), .w (.bool true), []⟩
  | _, _ => noRes
def S7 (f : FuncId) : Option FSpec :=
  match f with
  | 63 => some putS
  | 65 => some getS
  | 78 => some zzS
  | 81 => some zgS
  | _ => none
theorem S7_ok : Fns Try.prog S7 := by
  intro f s h
  unfold S7 at h
  split at h
  · injection h with h; subst h; exact ⟨⟨_, Try.func63, by kernel_rfl, by kernel_rfl⟩, put_sound⟩
  · injection h with h; subst h; exact ⟨⟨_, Try.func65, by kernel_rfl, by kernel_rfl⟩, get_sound⟩
  · injection h with h; subst h; exact ⟨⟨_, Try.func78, by kernel_rfl, by kernel_rfl⟩, zig_sound⟩
  · injection h with h; subst h; exact ⟨⟨_, Try.func81, by kernel_rfl, by kernel_rfl⟩, zag_sound⟩
  · cases h

section
set_option maxRecDepth 100000
end
end Go.Proofs.Ytfciefiachmioaa
