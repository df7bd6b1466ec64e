/- Layer 1: the law of what is got. -/
import Derived.Test.YtfciefiachmioaaB3
import Derived.Test.YtfciefiachmioaaA8
namespace Go.Proofs.Ytfciefiachmioaa
open Ax
set_option linter.unusedSimpArgs false
set_option linter.unusedVariables false
def getsS : FSpec
  | [.sb bs f], [] => ⟨True, .w (.bool true), []⟩
  | _, _ => noRes
def S5 (f : FuncId) : Option FSpec :=
  match f with
  | 65 => some getS
  | 57 => some unfS
  | 60 => some unfS
  | _ => none
theorem S5_ok : Fns Try.prog S5 := by
  intro f s h
  unfold S5 at h
  split at h
  · injection h with h; subst h; exact ⟨⟨_, Try.func65, by kernel_rfl, by kernel_rfl⟩, get_sound⟩
  · injection h with h; subst h; exact ⟨⟨_, Try.func57, by kernel_rfl, by kernel_rfl⟩, unfixed_sound⟩
  · injection h with h; subst h; exact ⟨⟨_, Try.func60, by kernel_rfl, by kernel_rfl⟩, runfixed_sound⟩
  · cases h
section
set_option maxRecDepth 100000
end
end Go.Proofs.Ytfciefiachmioaa
