/- Layer 1: the laws. -/
import Derived.Test.YtfciefiachmioaaA6
import Derived.Test.YtfciefiachmioaaA7
import Derived.Test.YtfciefiachmioaaAy
namespace Go.Proofs.Ytfciefiachmioaa
open Ax
set_option linter.unusedSimpArgs false
set_option linter.unusedVariables false

def zigsS : FSpec
  | [.w (.int k n), .w (.int k' u)], [] => ⟨k = .i64 ∧ k' = .u64 ∧ (-9223372036854775808 ≤ n ∧ n ≤ 9223372036854775807) ∧ 0 ≤ u ∧ u < 18446744073709551616, .w (.bool true), []⟩
  | _, _ => noRes
def S3 (f : FuncId) : Option FSpec :=
  match f with
  | 78 => some zzS
  | 81 => some zgS
  | _ => none
theorem S3_ok : Fns Try.prog S3 := by
  intro f s h
  unfold S3 at h
  split at h
  · injection h with h; subst h; exact ⟨⟨_, Try.func78, by kernel_rfl, by kernel_rfl⟩, zig_sound⟩
  · injection h with h; subst h; exact ⟨⟨_, Try.func81, by kernel_rfl, by kernel_rfl⟩, zag_sound⟩
  · cases h

section
set_option maxRecDepth 100000
end
end Go.Proofs.Ytfciefiachmioaa
