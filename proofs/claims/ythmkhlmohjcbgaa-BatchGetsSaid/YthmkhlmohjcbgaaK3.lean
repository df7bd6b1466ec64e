/- Layer 5: how many blocks are needed; what blocks hold. -/
import Derived.Test.YthmkhlmohjcbgaaK2
namespace Go.Proofs.Ythmkhlmohjcbgaa
open Ax
set_option linter.unusedSimpArgs false
set_option linter.unusedVariables false

def needI (n : Int) : Int := (max n 1 - 1) / 61 + 1
def needS : FSpec
  | [.w (.int .i64 n)], [] => ⟨-1000000 ≤ n ∧ n ≤ 1000000, .w (.int .i64 (needI n)), []⟩
  | _, _ => noRes
def avB : AV → List UInt8
  | .sb bs _ => bs
  | _ => []
def sbp (p : List UInt8 × Bool) : AV := .sb p.1 p.2
theorem kslot_map {α : Type} (g : α → AV) : ∀ (ps : List α) (i : Nat) (h : i < ps.length), slot (ps.map g) i = g ps[i]
  | p :: ps, 0, h => rfl
  | p :: ps, i + 1, h => by
    simp only [List.map_cons, slot, List.getElem_cons_succ]
    exact kslot_map g ps i (by simpa using h)
theorem map_avB (ps : List (List UInt8 × Bool)) : (ps.map sbp).map avB = ps.map Prod.fst := by
  rw [List.map_map]; rfl
def blightS : FSpec
  | [.sg 1 xs f, .w (.int .i64 m)], [] => ⟨xs.length ≤ 9223372036854775807 ∧ ∃ ps : List (List UInt8 × Bool), xs = ps.map sbp, .w (.bool (decide ((xs.length : Int) ≤ m ∧ ∀ x ∈ xs.map avB, x.length ≤ 200))), []⟩
  | _, _ => noRes

section
set_option maxRecDepth 100000
end
end Go.Proofs.Ythmkhlmohjcbgaa
