/-
  No cell of these rows narrows 'for every input' (looked for: loops, veiled, ifaces, maps, wideKeys, modest, calm, conditions, laid).
  DERIVED. THE GIVEN ROWS OF THIS SEAT. 10 by the template 'for every input the law returns true; each argument reads behind the call as it read before'; 0 by the template 'total and deterministic' (their statements: YtfkedhcmkogkgaaTotals.lean).
  GIVEN WITH THE SEED: the statements are not yours to turn. If you find one false, say at which input.
  Laid BY PROGRAM, IN A SANDBOX (cutbox-rows.mjs): the forced cells as the released guide's own fill.sh prints them over the translation 1390274636979dd3… (all of the seat's roots in one cut). By AI agents, Wed Nov 11 2026. No macro, syntax, notation, axiom, sorry.
-/
import Derived.Test.YtfkedhcmkogkgaaChecked
import GoSem.Claim
import GoSem.ClaimJoined
import GoSem.ClaimMapViews
import Derived.JoinedTies
import Derived.KernelRfl
namespace Go.Proofs.Ytfkedhcmkogkgaa
/- THE CELL 'sum', in the pinned program and in every row, IS THE sha256 OF THE DUMP (.gsa) THAT YtfkedhcmkogkgaaProg.lean LOADS. Nothing in Lean hashes anything: it is a label: what it is worth is what the hold of that sum in a sandbox is worth. -/
noncomputable def Try.pinned : Pinned := { name := "ytfkedhcmkogkgaa", sum := "1390274636979dd3848b97e4e1aab168e15a8c4fdc0f631f0802e52a07cd766e", checked := Try.checked }
namespace Rows
def none {H : Type} : Left H := { results := [], args := [] }

/-- 'bilanderlaw01.VarnumZigs': WHATEVER THE INPUT: true; the input reads as it did. -/
def varnumZigsSpec : ChangeSpec := { name := "varnumZigs", fn := fun _ => fun
  | [d1, d2] => { results := [.lit (.bool true)], args := [d1, d2] }
  | _ => none }
def varnumZigsRow : OpenClaim := { program := "ytfkedhcmkogkgaa", sum := "1390274636979dd3848b97e4e1aab168e15a8c4fdc0f631f0802e52a07cd766e", func := "bilander/bilanderlaw01.VarnumZigs", spec := "varnumZigs", apart := false }
def VarnumZigsSaid : Prop := varnumZigsRow.holds Try.pinned (OpenSpec.ofChange varnumZigsSpec)

/-- ITS FALSE NEIGHBOUR: 'it returns false'. Refute it at one input. -/
def varnumZigsWrong : ChangeSpec := { name := "varnumZigs", fn := fun _ => fun
  | [d1, d2] => { results := [.lit (.bool false)], args := [d1, d2] }
  | _ => none }
def VarnumZigsWrongFalsely : Prop := varnumZigsRow.holds Try.pinned (OpenSpec.ofChange varnumZigsWrong)

/-- 'bilanderlaw01.VarnumPuts': WHATEVER THE INPUT: true; the input reads as it did. -/
def varnumPutsSpec : ChangeSpec := { name := "varnumPuts", fn := fun _ => fun
  | [d1, d2, d3] => { results := [.lit (.bool true)], args := [d1, d2, d3] }
  | _ => none }
def varnumPutsRow : OpenClaim := { program := "ytfkedhcmkogkgaa", sum := "1390274636979dd3848b97e4e1aab168e15a8c4fdc0f631f0802e52a07cd766e", func := "bilander/bilanderlaw01.VarnumPuts", spec := "varnumPuts", apart := false }
def VarnumPutsSaid : Prop := varnumPutsRow.holds Try.pinned (OpenSpec.ofChange varnumPutsSpec)

/-- ITS FALSE NEIGHBOUR: 'it returns false'. Refute it at one input. -/
def varnumPutsWrong : ChangeSpec := { name := "varnumPuts", fn := fun _ => fun
  | [d1, d2, d3] => { results := [.lit (.bool false)], args := [d1, d2, d3] }
  | _ => none }
def VarnumPutsWrongFalsely : Prop := varnumPutsRow.holds Try.pinned (OpenSpec.ofChange varnumPutsWrong)

/-- 'bilanderlaw01.VarnumGets': WHATEVER THE INPUT: true; the input reads as it did. -/
def varnumGetsSpec : ChangeSpec := { name := "varnumGets", fn := fun _ => fun
  | [d] => { results := [.lit (.bool true)], args := [d] }
  | _ => none }
def varnumGetsRow : OpenClaim := { program := "ytfkedhcmkogkgaa", sum := "1390274636979dd3848b97e4e1aab168e15a8c4fdc0f631f0802e52a07cd766e", func := "bilander/bilanderlaw01.VarnumGets", spec := "varnumGets", apart := false }
def VarnumGetsSaid : Prop := varnumGetsRow.holds Try.pinned (OpenSpec.ofChange varnumGetsSpec)

/-- ITS FALSE NEIGHBOUR: 'it returns false'. Refute it at one input. -/
def varnumGetsWrong : ChangeSpec := { name := "varnumGets", fn := fun _ => fun
  | [d] => { results := [.lit (.bool false)], args := [d] }
  | _ => none }
def VarnumGetsWrongFalsely : Prop := varnumGetsRow.holds Try.pinned (OpenSpec.ofChange varnumGetsWrong)

/-- 'bilanderlaw01.VarnumTakes': WHATEVER THE INPUT: true; the input reads as it did. -/
def varnumTakesSpec : ChangeSpec := { name := "varnumTakes", fn := fun _ => fun
  | [d1, d2, d3] => { results := [.lit (.bool true)], args := [d1, d2, d3] }
  | _ => none }
def varnumTakesRow : OpenClaim := { program := "ytfkedhcmkogkgaa", sum := "1390274636979dd3848b97e4e1aab168e15a8c4fdc0f631f0802e52a07cd766e", func := "bilander/bilanderlaw01.VarnumTakes", spec := "varnumTakes", apart := false }
def VarnumTakesSaid : Prop := varnumTakesRow.holds Try.pinned (OpenSpec.ofChange varnumTakesSpec)

/-- ITS FALSE NEIGHBOUR: 'it returns false'. Refute it at one input. -/
def varnumTakesWrong : ChangeSpec := { name := "varnumTakes", fn := fun _ => fun
  | [d1, d2, d3] => { results := [.lit (.bool false)], args := [d1, d2, d3] }
  | _ => none }
def VarnumTakesWrongFalsely : Prop := varnumTakesRow.holds Try.pinned (OpenSpec.ofChange varnumTakesWrong)

/-- 'bilanderlaw01.VarnumBack': WHATEVER THE INPUT: true; the input reads as it did. -/
def varnumBackSpec : ChangeSpec := { name := "varnumBack", fn := fun _ => fun
  | [d1, d2] => { results := [.lit (.bool true)], args := [d1, d2] }
  | _ => none }
def varnumBackRow : OpenClaim := { program := "ytfkedhcmkogkgaa", sum := "1390274636979dd3848b97e4e1aab168e15a8c4fdc0f631f0802e52a07cd766e", func := "bilander/bilanderlaw01.VarnumBack", spec := "varnumBack", apart := false }
def VarnumBackSaid : Prop := varnumBackRow.holds Try.pinned (OpenSpec.ofChange varnumBackSpec)

/-- ITS FALSE NEIGHBOUR: 'it returns false'. Refute it at one input. -/
def varnumBackWrong : ChangeSpec := { name := "varnumBack", fn := fun _ => fun
  | [d1, d2] => { results := [.lit (.bool false)], args := [d1, d2] }
  | _ => none }
def VarnumBackWrongFalsely : Prop := varnumBackRow.holds Try.pinned (OpenSpec.ofChange varnumBackWrong)

/-- 'bilanderlaw01.VarnumWidth': WHATEVER THE INPUT: true; the input reads as it did. -/
def varnumWidthSpec : ChangeSpec := { name := "varnumWidth", fn := fun _ => fun
  | [d1, d2] => { results := [.lit (.bool true)], args := [d1, d2] }
  | _ => none }
def varnumWidthRow : OpenClaim := { program := "ytfkedhcmkogkgaa", sum := "1390274636979dd3848b97e4e1aab168e15a8c4fdc0f631f0802e52a07cd766e", func := "bilander/bilanderlaw01.VarnumWidth", spec := "varnumWidth", apart := false }
def VarnumWidthSaid : Prop := varnumWidthRow.holds Try.pinned (OpenSpec.ofChange varnumWidthSpec)

/-- ITS FALSE NEIGHBOUR: 'it returns false'. Refute it at one input. -/
def varnumWidthWrong : ChangeSpec := { name := "varnumWidth", fn := fun _ => fun
  | [d1, d2] => { results := [.lit (.bool false)], args := [d1, d2] }
  | _ => none }
def VarnumWidthWrongFalsely : Prop := varnumWidthRow.holds Try.pinned (OpenSpec.ofChange varnumWidthWrong)

/-- 'bilanderlaw02.CheckOfs': WHATEVER THE INPUT: true; the input reads as it did. -/
def checkOfsSpec : ChangeSpec := { name := "checkOfs", fn := fun _ => fun
  | [d1, d2] => { results := [.lit (.bool true)], args := [d1, d2] }
  | _ => none }
def checkOfsRow : OpenClaim := { program := "ytfkedhcmkogkgaa", sum := "1390274636979dd3848b97e4e1aab168e15a8c4fdc0f631f0802e52a07cd766e", func := "bilander/bilanderlaw02.CheckOfs", spec := "checkOfs", apart := false }
def CheckOfsSaid : Prop := checkOfsRow.holds Try.pinned (OpenSpec.ofChange checkOfsSpec)

/-- ITS FALSE NEIGHBOUR: 'it returns false'. Refute it at one input. -/
def checkOfsWrong : ChangeSpec := { name := "checkOfs", fn := fun _ => fun
  | [d1, d2] => { results := [.lit (.bool false)], args := [d1, d2] }
  | _ => none }
def CheckOfsWrongFalsely : Prop := checkOfsRow.holds Try.pinned (OpenSpec.ofChange checkOfsWrong)

/-- 'bilanderlaw02.CheckOpens': WHATEVER THE INPUT: true; the input reads as it did. -/
def checkOpensSpec : ChangeSpec := { name := "checkOpens", fn := fun _ => fun
  | [d] => { results := [.lit (.bool true)], args := [d] }
  | _ => none }
def checkOpensRow : OpenClaim := { program := "ytfkedhcmkogkgaa", sum := "1390274636979dd3848b97e4e1aab168e15a8c4fdc0f631f0802e52a07cd766e", func := "bilander/bilanderlaw02.CheckOpens", spec := "checkOpens", apart := false }
def CheckOpensSaid : Prop := checkOpensRow.holds Try.pinned (OpenSpec.ofChange checkOpensSpec)

/-- ITS FALSE NEIGHBOUR: 'it returns false'. Refute it at one input. -/
def checkOpensWrong : ChangeSpec := { name := "checkOpens", fn := fun _ => fun
  | [d] => { results := [.lit (.bool false)], args := [d] }
  | _ => none }
def CheckOpensWrongFalsely : Prop := checkOpensRow.holds Try.pinned (OpenSpec.ofChange checkOpensWrong)

/-- 'bilanderlaw02.CheckTurned': WHATEVER THE INPUT: true; the input reads as it did. -/
def checkTurnedSpec : ChangeSpec := { name := "checkTurned", fn := fun _ => fun
  | [d1, d2, d3] => { results := [.lit (.bool true)], args := [d1, d2, d3] }
  | _ => none }
def checkTurnedRow : OpenClaim := { program := "ytfkedhcmkogkgaa", sum := "1390274636979dd3848b97e4e1aab168e15a8c4fdc0f631f0802e52a07cd766e", func := "bilander/bilanderlaw02.CheckTurned", spec := "checkTurned", apart := false }
def CheckTurnedSaid : Prop := checkTurnedRow.holds Try.pinned (OpenSpec.ofChange checkTurnedSpec)

/-- ITS FALSE NEIGHBOUR: 'it returns false'. Refute it at one input. -/
def checkTurnedWrong : ChangeSpec := { name := "checkTurned", fn := fun _ => fun
  | [d1, d2, d3] => { results := [.lit (.bool false)], args := [d1, d2, d3] }
  | _ => none }
def CheckTurnedWrongFalsely : Prop := checkTurnedRow.holds Try.pinned (OpenSpec.ofChange checkTurnedWrong)

/-- 'bilanderlaw02.CheckLinear': WHATEVER THE INPUT: true; the input reads as it did. -/
def checkLinearSpec : ChangeSpec := { name := "checkLinear", fn := fun _ => fun
  | [d1, d2] => { results := [.lit (.bool true)], args := [d1, d2] }
  | _ => none }
def checkLinearRow : OpenClaim := { program := "ytfkedhcmkogkgaa", sum := "1390274636979dd3848b97e4e1aab168e15a8c4fdc0f631f0802e52a07cd766e", func := "bilander/bilanderlaw02.CheckLinear", spec := "checkLinear", apart := false }
def CheckLinearSaid : Prop := checkLinearRow.holds Try.pinned (OpenSpec.ofChange checkLinearSpec)

/-- ITS FALSE NEIGHBOUR: 'it returns false'. Refute it at one input. -/
def checkLinearWrong : ChangeSpec := { name := "checkLinear", fn := fun _ => fun
  | [d1, d2] => { results := [.lit (.bool false)], args := [d1, d2] }
  | _ => none }
def CheckLinearWrongFalsely : Prop := checkLinearRow.holds Try.pinned (OpenSpec.ofChange checkLinearWrong)

/- THE SECOND FORM. 'bulk': how many values and letters a reading holds, each counted each time it is reached (what is shared counts as often as it is met; a slice's spare places count too). A statement '..UptoSaid' is the law's where the arguments, and the package variables that the reading takes, are together of bulk at most 1048576: NARROWER than '..Said'. Prove '..Said' where nothing that the law and all that it calls make is longer than what came in: it says more and counts as full. Else prove '..UptoSaid'. A law counts once. -/
mutual
def uptoBulk {H : Type} : DataW H → Nat
  | .lit (.string bytes) => bytes.length + 1
  | .lit _ => 1
  | .nil => 1
  | .ptr d => uptoBulk d + 1
  | .slice elems spare => uptoBulkAll elems + uptoBulkAll spare + 1
  | .agg parts => uptoBulkAll parts + 1
  | .iface _ d => uptoBulk d + 1
  | .map entries => uptoBulkEntries entries + 1
  | .held _ => 1
def uptoBulkAll {H : Type} : List (DataW H) → Nat
  | [] => 0
  | d :: r => uptoBulk d + uptoBulkAll r
def uptoBulkEntries {H : Type} : List (Lit × DataW H) → Nat
  | [] => 0
  | x :: r => uptoBulkEntry x + uptoBulkEntries r
def uptoBulkEntry {H : Type} : Lit × DataW H → Nat
  | (.string bytes, d) => bytes.length + uptoBulk d + 1
  | (_, d) => uptoBulk d + 1
 end
def uptoSmall : (H : Type) → List (DataW H) → Bool := fun _ ds => decide (uptoBulkAll ds ≤ 1048576)
def OpenSpec.upto (s : _root_.Go.ChangeSpec) : _root_.Go.OpenSpec := { _root_.Go.OpenSpec.ofChange s with cond := some uptoSmall }

/-- 'bilanderlaw01.VarnumZigs', WHERE WHAT IT READS IS OF BULK AT MOST 1048576: true; the input reads as it did. -/
def varnumZigsUptoRow : OpenClaim := { program := "ytfkedhcmkogkgaa", sum := "1390274636979dd3848b97e4e1aab168e15a8c4fdc0f631f0802e52a07cd766e", func := "bilander/bilanderlaw01.VarnumZigs", spec := "varnumZigs", apart := false, narrowed := true }
def VarnumZigsUptoSaid : Prop := varnumZigsUptoRow.holds Try.pinned (OpenSpec.upto varnumZigsSpec)

/-- 'bilanderlaw01.VarnumPuts', WHERE WHAT IT READS IS OF BULK AT MOST 1048576: true; the input reads as it did. -/
def varnumPutsUptoRow : OpenClaim := { program := "ytfkedhcmkogkgaa", sum := "1390274636979dd3848b97e4e1aab168e15a8c4fdc0f631f0802e52a07cd766e", func := "bilander/bilanderlaw01.VarnumPuts", spec := "varnumPuts", apart := false, narrowed := true }
def VarnumPutsUptoSaid : Prop := varnumPutsUptoRow.holds Try.pinned (OpenSpec.upto varnumPutsSpec)

/-- 'bilanderlaw01.VarnumGets', WHERE WHAT IT READS IS OF BULK AT MOST 1048576: true; the input reads as it did. -/
def varnumGetsUptoRow : OpenClaim := { program := "ytfkedhcmkogkgaa", sum := "1390274636979dd3848b97e4e1aab168e15a8c4fdc0f631f0802e52a07cd766e", func := "bilander/bilanderlaw01.VarnumGets", spec := "varnumGets", apart := false, narrowed := true }
def VarnumGetsUptoSaid : Prop := varnumGetsUptoRow.holds Try.pinned (OpenSpec.upto varnumGetsSpec)

/-- 'bilanderlaw01.VarnumTakes', WHERE WHAT IT READS IS OF BULK AT MOST 1048576: true; the input reads as it did. -/
def varnumTakesUptoRow : OpenClaim := { program := "ytfkedhcmkogkgaa", sum := "1390274636979dd3848b97e4e1aab168e15a8c4fdc0f631f0802e52a07cd766e", func := "bilander/bilanderlaw01.VarnumTakes", spec := "varnumTakes", apart := false, narrowed := true }
def VarnumTakesUptoSaid : Prop := varnumTakesUptoRow.holds Try.pinned (OpenSpec.upto varnumTakesSpec)

/-- 'bilanderlaw01.VarnumBack', WHERE WHAT IT READS IS OF BULK AT MOST 1048576: true; the input reads as it did. -/
def varnumBackUptoRow : OpenClaim := { program := "ytfkedhcmkogkgaa", sum := "1390274636979dd3848b97e4e1aab168e15a8c4fdc0f631f0802e52a07cd766e", func := "bilander/bilanderlaw01.VarnumBack", spec := "varnumBack", apart := false, narrowed := true }
def VarnumBackUptoSaid : Prop := varnumBackUptoRow.holds Try.pinned (OpenSpec.upto varnumBackSpec)

/-- 'bilanderlaw01.VarnumWidth', WHERE WHAT IT READS IS OF BULK AT MOST 1048576: true; the input reads as it did. -/
def varnumWidthUptoRow : OpenClaim := { program := "ytfkedhcmkogkgaa", sum := "1390274636979dd3848b97e4e1aab168e15a8c4fdc0f631f0802e52a07cd766e", func := "bilander/bilanderlaw01.VarnumWidth", spec := "varnumWidth", apart := false, narrowed := true }
def VarnumWidthUptoSaid : Prop := varnumWidthUptoRow.holds Try.pinned (OpenSpec.upto varnumWidthSpec)

/-- 'bilanderlaw02.CheckOfs', WHERE WHAT IT READS IS OF BULK AT MOST 1048576: true; the input reads as it did. -/
def checkOfsUptoRow : OpenClaim := { program := "ytfkedhcmkogkgaa", sum := "1390274636979dd3848b97e4e1aab168e15a8c4fdc0f631f0802e52a07cd766e", func := "bilander/bilanderlaw02.CheckOfs", spec := "checkOfs", apart := false, narrowed := true }
def CheckOfsUptoSaid : Prop := checkOfsUptoRow.holds Try.pinned (OpenSpec.upto checkOfsSpec)

/-- 'bilanderlaw02.CheckOpens', WHERE WHAT IT READS IS OF BULK AT MOST 1048576: true; the input reads as it did. -/
def checkOpensUptoRow : OpenClaim := { program := "ytfkedhcmkogkgaa", sum := "1390274636979dd3848b97e4e1aab168e15a8c4fdc0f631f0802e52a07cd766e", func := "bilander/bilanderlaw02.CheckOpens", spec := "checkOpens", apart := false, narrowed := true }
def CheckOpensUptoSaid : Prop := checkOpensUptoRow.holds Try.pinned (OpenSpec.upto checkOpensSpec)

/-- 'bilanderlaw02.CheckTurned', WHERE WHAT IT READS IS OF BULK AT MOST 1048576: true; the input reads as it did. -/
def checkTurnedUptoRow : OpenClaim := { program := "ytfkedhcmkogkgaa", sum := "1390274636979dd3848b97e4e1aab168e15a8c4fdc0f631f0802e52a07cd766e", func := "bilander/bilanderlaw02.CheckTurned", spec := "checkTurned", apart := false, narrowed := true }
def CheckTurnedUptoSaid : Prop := checkTurnedUptoRow.holds Try.pinned (OpenSpec.upto checkTurnedSpec)

/-- 'bilanderlaw02.CheckLinear', WHERE WHAT IT READS IS OF BULK AT MOST 1048576: true; the input reads as it did. -/
def checkLinearUptoRow : OpenClaim := { program := "ytfkedhcmkogkgaa", sum := "1390274636979dd3848b97e4e1aab168e15a8c4fdc0f631f0802e52a07cd766e", func := "bilander/bilanderlaw02.CheckLinear", spec := "checkLinear", apart := false, narrowed := true }
def CheckLinearUptoSaid : Prop := checkLinearUptoRow.holds Try.pinned (OpenSpec.upto checkLinearSpec)

end Rows
end Go.Proofs.Ytfkedhcmkogkgaa
