/- What the proofs of this seat stand on; it asks nothing. -/
import Derived.Test.YtjiognhpcijndaaZa10
set_option linter.unusedSimpArgs false
set_option linter.unusedVariables false
namespace Go.Proofs.Ytjiognhpcijndaa
open Ax
theorem bfld_facts {b c p e s n : Int} (h : bfld b c p e s n = 0) : 1 ≤ c ∧ c ≤ 32 ∧ 0 ≤ b ∧ b ≤ 4611686018427387903 - c := by
 unfold bfld at h
 split at h
 · exact absurd h (by decide)
 · rename_i h1; clear h; omega
theorem bE_nx {x : Bat} (h : bE x = 0) : nxB x = x.b + x.c ∧ 1 ≤ x.c ∧ x.c ≤ 32 ∧ 0 ≤ x.b ∧ x.b + x.c ≤ 4611686018427387903 := by
 have h1 : bfld x.b x.c x.p x.e x.s x.rs.length = 0 := by
   unfold bE batE at h
   split at h
   · assumption
   · rename_i h2; exact h
 have := bfld_facts h1
 unfold nxB
 omega
end Go.Proofs.Ytjiognhpcijndaa
