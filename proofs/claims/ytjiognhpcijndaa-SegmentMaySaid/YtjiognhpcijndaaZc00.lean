/- What the proofs of this seat stand on; it asks nothing. -/
import Derived.Test.YtjiognhpcijndaaZa10
set_option linter.unusedSimpArgs false
set_option linter.unusedVariables false
namespace Go.Proofs.Ytjiognhpcijndaa
open Ax
set_option maxRecDepth 10000
theorem b4_all {xs : List AV} (h : isB4 xs) : ∀ x ∈ xs.map ubat,x.rs.length ≤ 40 := by
 obtain ⟨es,rfl,he⟩ := h
 rw [zaz]
 intro x hx
 obtain ⟨p,hp,rfl⟩ := List.mem_map.1 hx
 exact he p hp
end Go.Proofs.Ytjiognhpcijndaa
