/-
  No cell of these rows narrows 'for every input' (looked for: loops, veiled, ifaces, maps, wideKeys, modest, calm, conditions, laid).
  DERIVED. THE GIVEN ROWS OF THIS SEAT. 2 by the template 'for every input the law returns true; each argument reads behind the call as it read before'; 0 by the template 'total and deterministic' (their statements: YthjceeimbohajaaTotals.lean).
  GIVEN WITH THE SEED: the statements are not yours to turn. If you find one false, say at which input.
  Laid BY PROGRAM, IN A SANDBOX (cutbox-rows.mjs): the forced cells as the released guide's own fill.sh prints them over the translation 0bcc27068b647a0d… (all of the seat's roots in one cut). By AI agents, Wed Nov 11 2026. No macro, syntax, notation, axiom, sorry.
-/
import Derived.Test.YthjceeimbohajaaChecked
import GoSem.Claim
import GoSem.ClaimJoined
import GoSem.ClaimMapViews
import Derived.JoinedTies
import Derived.KernelRfl
namespace Go.Proofs.Ythjceeimbohajaa
/- THE CELL 'sum', in the pinned program and in every row, IS THE sha256 OF THE DUMP (.gsa) THAT YthjceeimbohajaaProg.lean LOADS. Nothing in Lean hashes anything: it is a label: what it is worth is what the hold of that sum in a sandbox is worth. -/
noncomputable def Try.pinned : Pinned := { name := "ythjceeimbohajaa", sum := "0bcc27068b647a0d3c30e3b6492336a91af5664c1c1bd48c119659bb9027e5d0", checked := Try.checked }
namespace Rows
def none {H : Type} : Left H := { results := [], args := [] }

/-- 'bilanderlaw35.WindowPuts': WHATEVER THE INPUT: true; the input reads as it did. -/
def windowPutsSpec : ChangeSpec := { name := "windowPuts", fn := fun _ => fun
  | [d1, d2, d3] => { results := [.lit (.bool true)], args := [d1, d2, d3] }
  | _ => none }
def windowPutsRow : OpenClaim := { program := "ythjceeimbohajaa", sum := "0bcc27068b647a0d3c30e3b6492336a91af5664c1c1bd48c119659bb9027e5d0", func := "bilander/bilanderlaw35.WindowPuts", spec := "windowPuts", inPlace := ["slices.overlaps[bilander/window.Sum]"], unfollowed := true, recurses := true, plainKeys := false, apart := false }
def WindowPutsSaid : Prop := windowPutsRow.holds Try.pinned (OpenSpec.ofChange windowPutsSpec)

/-- ITS FALSE NEIGHBOUR: 'it returns false'. Refute it at one input. -/
def windowPutsWrong : ChangeSpec := { name := "windowPuts", fn := fun _ => fun
  | [d1, d2, d3] => { results := [.lit (.bool false)], args := [d1, d2, d3] }
  | _ => none }
def WindowPutsWrongFalsely : Prop := windowPutsRow.holds Try.pinned (OpenSpec.ofChange windowPutsWrong)

/-- 'bilanderlaw36.ViewPuts': WHATEVER THE INPUT: true; the input reads as it did. -/
def viewPutsSpec : ChangeSpec := { name := "viewPuts", fn := fun _ => fun
  | [d1, d2] => { results := [.lit (.bool true)], args := [d1, d2] }
  | _ => none }
def viewPutsRow : OpenClaim := { program := "ythjceeimbohajaa", sum := "0bcc27068b647a0d3c30e3b6492336a91af5664c1c1bd48c119659bb9027e5d0", func := "bilander/bilanderlaw36.ViewPuts", spec := "viewPuts", unfollowed := true, recurses := true, plainKeys := false, apart := false }
def ViewPutsSaid : Prop := viewPutsRow.holds Try.pinned (OpenSpec.ofChange viewPutsSpec)

/-- ITS FALSE NEIGHBOUR: 'it returns false'. Refute it at one input. -/
def viewPutsWrong : ChangeSpec := { name := "viewPuts", fn := fun _ => fun
  | [d1, d2] => { results := [.lit (.bool false)], args := [d1, d2] }
  | _ => none }
def ViewPutsWrongFalsely : Prop := viewPutsRow.holds Try.pinned (OpenSpec.ofChange viewPutsWrong)

/- THE SECOND FORM. 'bulk': how many values and letters a reading holds, each counted each time it is reached (what is shared counts as often as it is met; a slice's spare places count too). A statement '..UptoSaid' is the law's where the arguments, and the package variables that the reading takes, are together of bulk at most 1048576: NARROWER than '..Said'. Prove '..Said' where nothing that the law and all that it calls make is longer than what came in: it says more and counts as full. Else prove '..UptoSaid'. A law counts once. -/
mutual
def uptoBulk {H : Type} : DataW H → Nat
  | .lit (.string bytes) => bytes.length + 1
  | .lit _ => 1
  | .nil => 1
  | .ptr d => uptoBulk d + 1
  | .slice elems spare => uptoBulkAll elems + uptoBulkAll spare + 1
  | .agg parts => uptoBulkAll parts + 1
  | .iface _ d => uptoBulk d + 1
  | .map entries => uptoBulkEntries entries + 1
  | .held _ => 1
def uptoBulkAll {H : Type} : List (DataW H) → Nat
  | [] => 0
  | d :: r => uptoBulk d + uptoBulkAll r
def uptoBulkEntries {H : Type} : List (Lit × DataW H) → Nat
  | [] => 0
  | x :: r => uptoBulkEntry x + uptoBulkEntries r
def uptoBulkEntry {H : Type} : Lit × DataW H → Nat
  | (.string bytes, d) => bytes.length + uptoBulk d + 1
  | (_, d) => uptoBulk d + 1
 end
def uptoSmall : (H : Type) → List (DataW H) → Bool := fun _ ds => decide (uptoBulkAll ds ≤ 1048576)
def OpenSpec.upto (s : _root_.Go.ChangeSpec) : _root_.Go.OpenSpec := { _root_.Go.OpenSpec.ofChange s with cond := some uptoSmall }

/-- 'bilanderlaw35.WindowPuts', WHERE WHAT IT READS IS OF BULK AT MOST 1048576: true; the input reads as it did. -/
def windowPutsUptoRow : OpenClaim := { program := "ythjceeimbohajaa", sum := "0bcc27068b647a0d3c30e3b6492336a91af5664c1c1bd48c119659bb9027e5d0", func := "bilander/bilanderlaw35.WindowPuts", spec := "windowPuts", inPlace := ["slices.overlaps[bilander/window.Sum]"], unfollowed := true, recurses := true, plainKeys := false, apart := false, narrowed := true }
def WindowPutsUptoSaid : Prop := windowPutsUptoRow.holds Try.pinned (OpenSpec.upto windowPutsSpec)

/-- 'bilanderlaw36.ViewPuts', WHERE WHAT IT READS IS OF BULK AT MOST 1048576: true; the input reads as it did. -/
def viewPutsUptoRow : OpenClaim := { program := "ythjceeimbohajaa", sum := "0bcc27068b647a0d3c30e3b6492336a91af5664c1c1bd48c119659bb9027e5d0", func := "bilander/bilanderlaw36.ViewPuts", spec := "viewPuts", unfollowed := true, recurses := true, plainKeys := false, apart := false, narrowed := true }
def ViewPutsUptoSaid : Prop := viewPutsUptoRow.holds Try.pinned (OpenSpec.upto viewPutsSpec)

end Rows
end Go.Proofs.Ythjceeimbohajaa
