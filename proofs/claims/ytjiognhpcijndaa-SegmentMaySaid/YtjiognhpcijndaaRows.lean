/-
  No cell of these rows narrows 'for every input' (looked for: loops, veiled, ifaces, maps, wideKeys, modest, calm, conditions, laid).
  DERIVED. THE GIVEN ROWS OF THIS SEAT. 6 by the template 'for every input the law returns true; each argument reads behind the call as it read before'; 0 by the template 'total and deterministic' (their statements: YtjiognhpcijndaaTotals.lean).
  GIVEN WITH THE SEED: the statements are not yours to turn. If you find one false, say at which input.
  Laid BY PROGRAM, IN A SANDBOX (cutbox-rows.mjs): the forced cells as the released guide's own fill.sh prints them over the translation cfb1bbad87ccb9be… (all of the seat's roots in one cut). By AI agents, Wed Nov 11 2026. No macro, syntax, notation, axiom, sorry.
-/
import Derived.Test.YtjiognhpcijndaaChecked
import GoSem.Claim
import GoSem.ClaimJoined
import GoSem.ClaimMapViews
import Derived.JoinedTies
import Derived.KernelRfl
namespace Go.Proofs.Ytjiognhpcijndaa
/- THE CELL 'sum', in the pinned program and in every row, IS THE sha256 OF THE DUMP (.gsa) THAT YtjiognhpcijndaaProg.lean LOADS. Nothing in Lean hashes anything: it is a label: what it is worth is what the hold of that sum in a sandbox is worth. -/
noncomputable def Try.pinned : Pinned := { name := "ytjiognhpcijndaa", sum := "cfb1bbad87ccb9be31423addb8351fe89033bd515f8d1c1feb76fb78be298255", checked := Try.checked }
namespace Rows
def none {H : Type} : Left H := { results := [], args := [] }

/-- 'bilanderlaw14.SegmentFetches': WHATEVER THE INPUT: true; the input reads as it did. -/
def segmentFetchesSpec : ChangeSpec := { name := "segmentFetches", fn := fun _ => fun
  | [d1, d2, d3] => { results := [.lit (.bool true)], args := [d1, d2, d3] }
  | _ => none }
def segmentFetchesRow : OpenClaim := { program := "ytjiognhpcijndaa", sum := "cfb1bbad87ccb9be31423addb8351fe89033bd515f8d1c1feb76fb78be298255", func := "bilander/bilanderlaw14.SegmentFetches", spec := "segmentFetches", unfollowed := true, recurses := true, apart := false }
def SegmentFetchesSaid : Prop := segmentFetchesRow.holds Try.pinned (OpenSpec.ofChange segmentFetchesSpec)

/-- ITS FALSE NEIGHBOUR: 'it returns false'. Refute it at one input. -/
def segmentFetchesWrong : ChangeSpec := { name := "segmentFetches", fn := fun _ => fun
  | [d1, d2, d3] => { results := [.lit (.bool false)], args := [d1, d2, d3] }
  | _ => none }
def SegmentFetchesWrongFalsely : Prop := segmentFetchesRow.holds Try.pinned (OpenSpec.ofChange segmentFetchesWrong)

/-- 'bilanderlaw14.SegmentLooks': WHATEVER THE INPUT: true; the input reads as it did. -/
def segmentLooksSpec : ChangeSpec := { name := "segmentLooks", fn := fun _ => fun
  | [d1, d2, d3] => { results := [.lit (.bool true)], args := [d1, d2, d3] }
  | _ => none }
def segmentLooksRow : OpenClaim := { program := "ytjiognhpcijndaa", sum := "cfb1bbad87ccb9be31423addb8351fe89033bd515f8d1c1feb76fb78be298255", func := "bilander/bilanderlaw14.SegmentLooks", spec := "segmentLooks", unfollowed := true, recurses := true, apart := false }
def SegmentLooksSaid : Prop := segmentLooksRow.holds Try.pinned (OpenSpec.ofChange segmentLooksSpec)

/-- ITS FALSE NEIGHBOUR: 'it returns false'. Refute it at one input. -/
def segmentLooksWrong : ChangeSpec := { name := "segmentLooks", fn := fun _ => fun
  | [d1, d2, d3] => { results := [.lit (.bool false)], args := [d1, d2, d3] }
  | _ => none }
def SegmentLooksWrongFalsely : Prop := segmentLooksRow.holds Try.pinned (OpenSpec.ofChange segmentLooksWrong)

/-- 'bilanderlaw14.SegmentMay': WHATEVER THE INPUT: true; the input reads as it did. -/
def segmentMaySpec : ChangeSpec := { name := "segmentMay", fn := fun _ => fun
  | [d1, d2] => { results := [.lit (.bool true)], args := [d1, d2] }
  | _ => none }
def segmentMayRow : OpenClaim := { program := "ytjiognhpcijndaa", sum := "cfb1bbad87ccb9be31423addb8351fe89033bd515f8d1c1feb76fb78be298255", func := "bilander/bilanderlaw14.SegmentMay", spec := "segmentMay", unfollowed := true, recurses := true, apart := false }
def SegmentMaySaid : Prop := segmentMayRow.holds Try.pinned (OpenSpec.ofChange segmentMaySpec)

/-- ITS FALSE NEIGHBOUR: 'it returns false'. Refute it at one input. -/
def segmentMayWrong : ChangeSpec := { name := "segmentMay", fn := fun _ => fun
  | [d1, d2] => { results := [.lit (.bool false)], args := [d1, d2] }
  | _ => none }
def SegmentMayWrongFalsely : Prop := segmentMayRow.holds Try.pinned (OpenSpec.ofChange segmentMayWrong)

/-- 'bilanderlaw14.SegmentAll': WHATEVER THE INPUT: true; the input reads as it did. -/
def segmentAllSpec : ChangeSpec := { name := "segmentAll", fn := fun _ => fun
  | [d] => { results := [.lit (.bool true)], args := [d] }
  | _ => none }
def segmentAllRow : OpenClaim := { program := "ytjiognhpcijndaa", sum := "cfb1bbad87ccb9be31423addb8351fe89033bd515f8d1c1feb76fb78be298255", func := "bilander/bilanderlaw14.SegmentAll", spec := "segmentAll", unfollowed := true, recurses := true, apart := false }
def SegmentAllSaid : Prop := segmentAllRow.holds Try.pinned (OpenSpec.ofChange segmentAllSpec)

/-- ITS FALSE NEIGHBOUR: 'it returns false'. Refute it at one input. -/
def segmentAllWrong : ChangeSpec := { name := "segmentAll", fn := fun _ => fun
  | [d] => { results := [.lit (.bool false)], args := [d] }
  | _ => none }
def SegmentAllWrongFalsely : Prop := segmentAllRow.holds Try.pinned (OpenSpec.ofChange segmentAllWrong)

/-- 'bilanderlaw14.SegmentTimes': WHATEVER THE INPUT: true; the input reads as it did. -/
def segmentTimesSpec : ChangeSpec := { name := "segmentTimes", fn := fun _ => fun
  | [d1, d2] => { results := [.lit (.bool true)], args := [d1, d2] }
  | _ => none }
def segmentTimesRow : OpenClaim := { program := "ytjiognhpcijndaa", sum := "cfb1bbad87ccb9be31423addb8351fe89033bd515f8d1c1feb76fb78be298255", func := "bilander/bilanderlaw14.SegmentTimes", spec := "segmentTimes", unfollowed := true, recurses := true, apart := false }
def SegmentTimesSaid : Prop := segmentTimesRow.holds Try.pinned (OpenSpec.ofChange segmentTimesSpec)

/-- ITS FALSE NEIGHBOUR: 'it returns false'. Refute it at one input. -/
def segmentTimesWrong : ChangeSpec := { name := "segmentTimes", fn := fun _ => fun
  | [d1, d2] => { results := [.lit (.bool false)], args := [d1, d2] }
  | _ => none }
def SegmentTimesWrongFalsely : Prop := segmentTimesRow.holds Try.pinned (OpenSpec.ofChange segmentTimesWrong)

/-- 'bilanderlaw14.SegmentFew': WHATEVER THE INPUT: true; the input reads as it did. -/
def segmentFewSpec : ChangeSpec := { name := "segmentFew", fn := fun _ => fun
  | [d1, d2, d3] => { results := [.lit (.bool true)], args := [d1, d2, d3] }
  | _ => none }
def segmentFewRow : OpenClaim := { program := "ytjiognhpcijndaa", sum := "cfb1bbad87ccb9be31423addb8351fe89033bd515f8d1c1feb76fb78be298255", func := "bilander/bilanderlaw14.SegmentFew", spec := "segmentFew", unfollowed := true, recurses := true, apart := false }
def SegmentFewSaid : Prop := segmentFewRow.holds Try.pinned (OpenSpec.ofChange segmentFewSpec)

/-- ITS FALSE NEIGHBOUR: 'it returns false'. Refute it at one input. -/
def segmentFewWrong : ChangeSpec := { name := "segmentFew", fn := fun _ => fun
  | [d1, d2, d3] => { results := [.lit (.bool false)], args := [d1, d2, d3] }
  | _ => none }
def SegmentFewWrongFalsely : Prop := segmentFewRow.holds Try.pinned (OpenSpec.ofChange segmentFewWrong)

/- THE SECOND FORM. 'bulk': how many values and letters a reading holds, each counted each time it is reached (what is shared counts as often as it is met; a slice's spare places count too). A statement '..UptoSaid' is the law's where the arguments, and the package variables that the reading takes, are together of bulk at most 1048576: NARROWER than '..Said'. Prove '..Said' where nothing that the law and all that it calls make is longer than what came in: it says more and counts as full. Else prove '..UptoSaid'. A law counts once. -/
mutual
def uptoBulk {H : Type} : DataW H → Nat
  | .lit (.string bytes) => bytes.length + 1
  | .lit _ => 1
  | .nil => 1
  | .ptr d => uptoBulk d + 1
  | .slice elems spare => uptoBulkAll elems + uptoBulkAll spare + 1
  | .agg parts => uptoBulkAll parts + 1
  | .iface _ d => uptoBulk d + 1
  | .map entries => uptoBulkEntries entries + 1
  | .held _ => 1
def uptoBulkAll {H : Type} : List (DataW H) → Nat
  | [] => 0
  | d :: r => uptoBulk d + uptoBulkAll r
def uptoBulkEntries {H : Type} : List (Lit × DataW H) → Nat
  | [] => 0
  | x :: r => uptoBulkEntry x + uptoBulkEntries r
def uptoBulkEntry {H : Type} : Lit × DataW H → Nat
  | (.string bytes, d) => bytes.length + uptoBulk d + 1
  | (_, d) => uptoBulk d + 1
 end
def uptoSmall : (H : Type) → List (DataW H) → Bool := fun _ ds => decide (uptoBulkAll ds ≤ 1048576)
def OpenSpec.upto (s : _root_.Go.ChangeSpec) : _root_.Go.OpenSpec := { _root_.Go.OpenSpec.ofChange s with cond := some uptoSmall }

/-- 'bilanderlaw14.SegmentFetches', WHERE WHAT IT READS IS OF BULK AT MOST 1048576: true; the input reads as it did. -/
def segmentFetchesUptoRow : OpenClaim := { program := "ytjiognhpcijndaa", sum := "cfb1bbad87ccb9be31423addb8351fe89033bd515f8d1c1feb76fb78be298255", func := "bilander/bilanderlaw14.SegmentFetches", spec := "segmentFetches", unfollowed := true, recurses := true, apart := false, narrowed := true }
def SegmentFetchesUptoSaid : Prop := segmentFetchesUptoRow.holds Try.pinned (OpenSpec.upto segmentFetchesSpec)

/-- 'bilanderlaw14.SegmentLooks', WHERE WHAT IT READS IS OF BULK AT MOST 1048576: true; the input reads as it did. -/
def segmentLooksUptoRow : OpenClaim := { program := "ytjiognhpcijndaa", sum := "cfb1bbad87ccb9be31423addb8351fe89033bd515f8d1c1feb76fb78be298255", func := "bilander/bilanderlaw14.SegmentLooks", spec := "segmentLooks", unfollowed := true, recurses := true, apart := false, narrowed := true }
def SegmentLooksUptoSaid : Prop := segmentLooksUptoRow.holds Try.pinned (OpenSpec.upto segmentLooksSpec)

/-- 'bilanderlaw14.SegmentMay', WHERE WHAT IT READS IS OF BULK AT MOST 1048576: true; the input reads as it did. -/
def segmentMayUptoRow : OpenClaim := { program := "ytjiognhpcijndaa", sum := "cfb1bbad87ccb9be31423addb8351fe89033bd515f8d1c1feb76fb78be298255", func := "bilander/bilanderlaw14.SegmentMay", spec := "segmentMay", unfollowed := true, recurses := true, apart := false, narrowed := true }
def SegmentMayUptoSaid : Prop := segmentMayUptoRow.holds Try.pinned (OpenSpec.upto segmentMaySpec)

/-- 'bilanderlaw14.SegmentAll', WHERE WHAT IT READS IS OF BULK AT MOST 1048576: true; the input reads as it did. -/
def segmentAllUptoRow : OpenClaim := { program := "ytjiognhpcijndaa", sum := "cfb1bbad87ccb9be31423addb8351fe89033bd515f8d1c1feb76fb78be298255", func := "bilander/bilanderlaw14.SegmentAll", spec := "segmentAll", unfollowed := true, recurses := true, apart := false, narrowed := true }
def SegmentAllUptoSaid : Prop := segmentAllUptoRow.holds Try.pinned (OpenSpec.upto segmentAllSpec)

/-- 'bilanderlaw14.SegmentTimes', WHERE WHAT IT READS IS OF BULK AT MOST 1048576: true; the input reads as it did. -/
def segmentTimesUptoRow : OpenClaim := { program := "ytjiognhpcijndaa", sum := "cfb1bbad87ccb9be31423addb8351fe89033bd515f8d1c1feb76fb78be298255", func := "bilander/bilanderlaw14.SegmentTimes", spec := "segmentTimes", unfollowed := true, recurses := true, apart := false, narrowed := true }
def SegmentTimesUptoSaid : Prop := segmentTimesUptoRow.holds Try.pinned (OpenSpec.upto segmentTimesSpec)

/-- 'bilanderlaw14.SegmentFew', WHERE WHAT IT READS IS OF BULK AT MOST 1048576: true; the input reads as it did. -/
def segmentFewUptoRow : OpenClaim := { program := "ytjiognhpcijndaa", sum := "cfb1bbad87ccb9be31423addb8351fe89033bd515f8d1c1feb76fb78be298255", func := "bilander/bilanderlaw14.SegmentFew", spec := "segmentFew", unfollowed := true, recurses := true, apart := false, narrowed := true }
def SegmentFewUptoSaid : Prop := segmentFewUptoRow.holds Try.pinned (OpenSpec.upto segmentFewSpec)

end Rows
end Go.Proofs.Ytjiognhpcijndaa
