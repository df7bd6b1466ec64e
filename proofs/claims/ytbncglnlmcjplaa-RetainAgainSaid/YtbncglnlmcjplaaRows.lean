/-
  No cell of these rows narrows 'for every input' (looked for: loops, veiled, ifaces, maps, wideKeys, modest, calm, conditions, laid).
  DERIVED. THE GIVEN ROWS OF THIS SEAT. 3 by the template 'for every input the law returns true; each argument reads behind the call as it read before'; 0 by the template 'total and deterministic' (their statements: YtbncglnlmcjplaaTotals.lean).
  GIVEN WITH THE SEED: the statements are not yours to turn. If you find one false, say at which input.
  Laid BY PROGRAM, IN A SANDBOX (cutbox-rows.mjs): the forced cells as the released guide's own fill.sh prints them over the translation 044960d7f3e656e7… (all of the seat's roots in one cut). By AI agents, Wed Nov 11 2026. No macro, syntax, notation, axiom, sorry.
-/
import Derived.Test.YtbncglnlmcjplaaChecked
import GoSem.Claim
import GoSem.ClaimJoined
import GoSem.ClaimMapViews
import Derived.JoinedTies
import Derived.KernelRfl
namespace Go.Proofs.Ytbncglnlmcjplaa
/- THE CELL 'sum', in the pinned program and in every row, IS THE sha256 OF THE DUMP (.gsa) THAT YtbncglnlmcjplaaProg.lean LOADS. Nothing in Lean hashes anything: it is a label: what it is worth is what the hold of that sum in a sandbox is worth. -/
noncomputable def Try.pinned : Pinned := { name := "ytbncglnlmcjplaa", sum := "044960d7f3e656e7729568be387e74f6bb7344973444e392e42e052d739f7a27", checked := Try.checked }
namespace Rows
def none {H : Type} : Left H := { results := [], args := [] }

/-- 'bilanderlaw16.RetainDrops': WHATEVER THE INPUT: true; the input reads as it did. -/
def retainDropsSpec : ChangeSpec := { name := "retainDrops", fn := fun _ => fun
  | [d1, d2, d3] => { results := [.lit (.bool true)], args := [d1, d2, d3] }
  | _ => none }
def retainDropsRow : OpenClaim := { program := "ytbncglnlmcjplaa", sum := "044960d7f3e656e7729568be387e74f6bb7344973444e392e42e052d739f7a27", func := "bilander/bilanderlaw16.RetainDrops", spec := "retainDrops", unfollowed := true, recurses := true, apart := false }
def RetainDropsSaid : Prop := retainDropsRow.holds Try.pinned (OpenSpec.ofChange retainDropsSpec)

/-- ITS FALSE NEIGHBOUR: 'it returns false'. Refute it at one input. -/
def retainDropsWrong : ChangeSpec := { name := "retainDrops", fn := fun _ => fun
  | [d1, d2, d3] => { results := [.lit (.bool false)], args := [d1, d2, d3] }
  | _ => none }
def RetainDropsWrongFalsely : Prop := retainDropsRow.holds Try.pinned (OpenSpec.ofChange retainDropsWrong)

/-- 'bilanderlaw16.RetainStays': WHATEVER THE INPUT: true; the input reads as it did. -/
def retainStaysSpec : ChangeSpec := { name := "retainStays", fn := fun _ => fun
  | [d1, d2, d3] => { results := [.lit (.bool true)], args := [d1, d2, d3] }
  | _ => none }
def retainStaysRow : OpenClaim := { program := "ytbncglnlmcjplaa", sum := "044960d7f3e656e7729568be387e74f6bb7344973444e392e42e052d739f7a27", func := "bilander/bilanderlaw16.RetainStays", spec := "retainStays", unfollowed := true, recurses := true, apart := false }
def RetainStaysSaid : Prop := retainStaysRow.holds Try.pinned (OpenSpec.ofChange retainStaysSpec)

/-- ITS FALSE NEIGHBOUR: 'it returns false'. Refute it at one input. -/
def retainStaysWrong : ChangeSpec := { name := "retainStays", fn := fun _ => fun
  | [d1, d2, d3] => { results := [.lit (.bool false)], args := [d1, d2, d3] }
  | _ => none }
def RetainStaysWrongFalsely : Prop := retainStaysRow.holds Try.pinned (OpenSpec.ofChange retainStaysWrong)

/-- 'bilanderlaw16.RetainAgain': WHATEVER THE INPUT: true; the input reads as it did. -/
def retainAgainSpec : ChangeSpec := { name := "retainAgain", fn := fun _ => fun
  | [d1, d2, d3] => { results := [.lit (.bool true)], args := [d1, d2, d3] }
  | _ => none }
def retainAgainRow : OpenClaim := { program := "ytbncglnlmcjplaa", sum := "044960d7f3e656e7729568be387e74f6bb7344973444e392e42e052d739f7a27", func := "bilander/bilanderlaw16.RetainAgain", spec := "retainAgain", unfollowed := true, recurses := true, apart := false }
def RetainAgainSaid : Prop := retainAgainRow.holds Try.pinned (OpenSpec.ofChange retainAgainSpec)

/-- ITS FALSE NEIGHBOUR: 'it returns false'. Refute it at one input. -/
def retainAgainWrong : ChangeSpec := { name := "retainAgain", fn := fun _ => fun
  | [d1, d2, d3] => { results := [.lit (.bool false)], args := [d1, d2, d3] }
  | _ => none }
def RetainAgainWrongFalsely : Prop := retainAgainRow.holds Try.pinned (OpenSpec.ofChange retainAgainWrong)

/- THE SECOND FORM. 'bulk': how many values and letters a reading holds, each counted each time it is reached (what is shared counts as often as it is met; a slice's spare places count too). A statement '..UptoSaid' is the law's where the arguments, and the package variables that the reading takes, are together of bulk at most 1048576: NARROWER than '..Said'. Prove '..Said' where nothing that the law and all that it calls make is longer than what came in: it says more and counts as full. Else prove '..UptoSaid'. A law counts once. -/
mutual
def uptoBulk {H : Type} : DataW H → Nat
  | .lit (.string bytes) => bytes.length + 1
  | .lit _ => 1
  | .nil => 1
  | .ptr d => uptoBulk d + 1
  | .slice elems spare => uptoBulkAll elems + uptoBulkAll spare + 1
  | .agg parts => uptoBulkAll parts + 1
  | .iface _ d => uptoBulk d + 1
  | .map entries => uptoBulkEntries entries + 1
  | .held _ => 1
def uptoBulkAll {H : Type} : List (DataW H) → Nat
  | [] => 0
  | d :: r => uptoBulk d + uptoBulkAll r
def uptoBulkEntries {H : Type} : List (Lit × DataW H) → Nat
  | [] => 0
  | x :: r => uptoBulkEntry x + uptoBulkEntries r
def uptoBulkEntry {H : Type} : Lit × DataW H → Nat
  | (.string bytes, d) => bytes.length + uptoBulk d + 1
  | (_, d) => uptoBulk d + 1
 end
def uptoSmall : (H : Type) → List (DataW H) → Bool := fun _ ds => decide (uptoBulkAll ds ≤ 1048576)
def OpenSpec.upto (s : _root_.Go.ChangeSpec) : _root_.Go.OpenSpec := { _root_.Go.OpenSpec.ofChange s with cond := some uptoSmall }

/-- 'bilanderlaw16.RetainDrops', WHERE WHAT IT READS IS OF BULK AT MOST 1048576: true; the input reads as it did. -/
def retainDropsUptoRow : OpenClaim := { program := "ytbncglnlmcjplaa", sum := "044960d7f3e656e7729568be387e74f6bb7344973444e392e42e052d739f7a27", func := "bilander/bilanderlaw16.RetainDrops", spec := "retainDrops", unfollowed := true, recurses := true, apart := false, narrowed := true }
def RetainDropsUptoSaid : Prop := retainDropsUptoRow.holds Try.pinned (OpenSpec.upto retainDropsSpec)

/-- 'bilanderlaw16.RetainStays', WHERE WHAT IT READS IS OF BULK AT MOST 1048576: true; the input reads as it did. -/
def retainStaysUptoRow : OpenClaim := { program := "ytbncglnlmcjplaa", sum := "044960d7f3e656e7729568be387e74f6bb7344973444e392e42e052d739f7a27", func := "bilander/bilanderlaw16.RetainStays", spec := "retainStays", unfollowed := true, recurses := true, apart := false, narrowed := true }
def RetainStaysUptoSaid : Prop := retainStaysUptoRow.holds Try.pinned (OpenSpec.upto retainStaysSpec)

/-- 'bilanderlaw16.RetainAgain', WHERE WHAT IT READS IS OF BULK AT MOST 1048576: true; the input reads as it did. -/
def retainAgainUptoRow : OpenClaim := { program := "ytbncglnlmcjplaa", sum := "044960d7f3e656e7729568be387e74f6bb7344973444e392e42e052d739f7a27", func := "bilander/bilanderlaw16.RetainAgain", spec := "retainAgain", unfollowed := true, recurses := true, apart := false, narrowed := true }
def RetainAgainUptoSaid : Prop := retainAgainUptoRow.holds Try.pinned (OpenSpec.upto retainAgainSpec)

end Rows
end Go.Proofs.Ytbncglnlmcjplaa
