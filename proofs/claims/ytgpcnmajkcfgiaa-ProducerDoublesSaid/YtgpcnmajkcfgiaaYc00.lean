/- What the proofs of this seat stand on; it asks nothing. -/
import Derived.Test.YtgpcnmajkcfgiaaYa13
set_option linter.unusedSimpArgs false
set_option linter.unusedVariables false
namespace Go.Proofs.Ytgpcnmajkcfgiaa
open Ax
theorem askF_lk (l : List En) (c p e s : Int) : askF l c p e s = if p = 0 then ⟨0,false,0⟩ else match l.find? (isI p) with
   | some r => askE r c s e
   | none => ⟨0,false,begF s⟩ := by
 unfold askF
 rw [lk_eq]
 by_cases h : l.findIdx (isI p) < l.length
 · rw [if_pos h,if_pos h]
 · rw [if_neg h,if_neg h]
end Go.Proofs.Ytgpcnmajkcfgiaa
