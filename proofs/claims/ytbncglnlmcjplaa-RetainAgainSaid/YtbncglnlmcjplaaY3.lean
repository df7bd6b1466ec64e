/- Layer 16: Old, walked. -/
import Derived.Test.YtbncglnlmcjplaaY1
namespace Go.Proofs.Ytbncglnlmcjplaa
open Go.RowKit Go.Shelf
attribute [local go_sem] Oper.semAt_some
set_option linter.unusedSimpArgs false
set_option linter.unusedVariables false

def oldB (wn T now : Int) : Bool := !(decide (T < 0) || (decide (min wn 1099511627776 < 0) || decide (now < min wn 1099511627776))) && decide (T < now - min wn 1099511627776)
theorem oldB_eq (wn T now : Int) : oldB wn T now = decide (0 ≤ T ∧ 0 ≤ min wn 1099511627776 ∧ min wn 1099511627776 ≤ now ∧ T < now - min wn 1099511627776) := by
  unfold oldB
  rw [Bool.eq_iff_iff]
  simp only [Bool.and_eq_true, Bool.not_eq_true', Bool.or_eq_false_iff, decide_eq_true_eq, decide_eq_false_iff_not]
  omega
set_option maxHeartbeats 2000000 in
theorem old_in (F : Fence) (n : Nat) (h1 : F.fn 11) (hro : F.round = none) (s : Sg) (rT rB now : Int) (hnow : -9223372036854775808 ≤ now ∧ now ≤ 9223372036854775807) (w : World) :
    CallsIn F n Try.prog 11 #[s.val, .agg #[.int .i64 rT, .int .i64 rB], .int .i64 now] w fun e w' => e = .returned (.bool (oldB s.w rT now)) ∧ w' = (w.alloc (.cells #[.int .i64 s.b, .int .i64 s.n, .int .i64 s.w, .int .i64 s.k] 35)).alloc (.cells #[.int .i64 rT, .int .i64 rB] 29) := by
  refine callsIn_of_wp Try.func11 rfl h1 ?_ hro
  simp only [Sg.val, Try.ntmps11, List.size_toArray, List.length_cons, List.length_nil, Nat.reduceAdd, Nat.reduceSub, Array.replicate_succ, Array.replicate_zero, List.push_toArray, List.append_toArray, List.nil_append, List.cons_append]
  have key : ∀ X : Bool, X = oldB s.w rT now → Ending.returned (Value.bool X) = .returned (.bool (oldB s.w rT now)) := fun X h => by rw [h]
  gi_wp2
  all_goals
    go_ret
    refine ⟨?_, rfl⟩
    refine key _ ?_
    rw [oldB_eq]
    first
      | exact (decide_eq_false (by omega)).symm
      | exact (decide_eq_true (by omega)).symm
      | exact decide_eq_decide.2 (by omega)
end Go.Proofs.Ytbncglnlmcjplaa
