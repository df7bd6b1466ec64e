/- Layer 33: a set's limits, a key's places. -/
import Derived.Test.YthodcljimjglcaaC1
import Derived.Test.YthodcljimjglcaaAxOm
namespace Go.Proofs.Ythodcljimjglcaa
open Ax
set_option linter.unusedSimpArgs false
set_option linter.unusedVariables false

def setV (bs : List UInt8) (f : Bool) (e n : Int) : AV := .agg [.sb bs f, .w (.int .i64 e), .w (.int .i64 n)]
def okSet (l : Nat) (e n : Int) : Prop := 1 ≤ l ∧ l ≤ 4096 ∧ 1 ≤ e ∧ e ≤ 16 ∧ 0 ≤ n ∧ n ≤ 1099511627776
instance (l : Nat) (e n : Int) : Decidable (okSet l e n) := by unfold okSet; infer_instance
def chkB (l : Nat) (e n : Int) : Int := if okSet l e n then 0 else 11
theorem chkB_cases (l : Nat) (e n : Int) :
    (chkB l e n = 11 ∧ ¬ okSet l e n ∧ decide ((l : Int) < 1) = true) ∨
    (chkB l e n = 11 ∧ ¬ okSet l e n ∧ decide ((l : Int) < 1) = false ∧ decide ((4096 : Int) < l) = true) ∨
    (chkB l e n = 11 ∧ ¬ okSet l e n ∧ decide ((l : Int) < 1) = false ∧ decide ((4096 : Int) < l) = false ∧ decide (e < 1) = true) ∨
    (chkB l e n = 11 ∧ ¬ okSet l e n ∧ decide ((l : Int) < 1) = false ∧ decide ((4096 : Int) < l) = false ∧ decide (e < 1) = false ∧ decide (16 < e) = true) ∨
    (chkB l e n = 11 ∧ ¬ okSet l e n ∧ decide ((l : Int) < 1) = false ∧ decide ((4096 : Int) < l) = false ∧ decide (e < 1) = false ∧ decide (16 < e) = false ∧ decide (n < 0) = true) ∨
    (chkB l e n = 11 ∧ ¬ okSet l e n ∧ decide ((l : Int) < 1) = false ∧ decide ((4096 : Int) < l) = false ∧ decide (e < 1) = false ∧ decide (16 < e) = false ∧ decide (n < 0) = false ∧ decide (1099511627776 < n) = true) ∨
    (chkB l e n = 0 ∧ okSet l e n ∧ decide ((l : Int) < 1) = false ∧ decide ((4096 : Int) < l) = false ∧ decide (e < 1) = false ∧ decide (16 < e) = false ∧ decide (n < 0) = false ∧ decide (1099511627776 < n) = false) := by
  have hk : ∀ {p : Prop} [Decidable p], ¬ p → decide p = false := fun h => decide_eq_false h
  have ht : ∀ {p : Prop} [Decidable p], p → decide p = true := fun h => decide_eq_true h
  have hn : ¬ okSet l e n → chkB l e n = 11 := fun h => if_neg h
  by_cases h1 : (l : Int) < 1
  · have : ¬ okSet l e n := by unfold okSet; omega
    exact .inl ⟨hn this, this, ht h1⟩
  by_cases h2 : (4096 : Int) < l
  · have : ¬ okSet l e n := by unfold okSet; omega
    exact .inr (.inl ⟨hn this, this, hk h1, ht h2⟩)
  by_cases h3 : e < 1
  · have : ¬ okSet l e n := by unfold okSet; omega
    exact .inr (.inr (.inl ⟨hn this, this, hk h1, hk h2, ht h3⟩))
  by_cases h4 : 16 < e
  · have : ¬ okSet l e n := by unfold okSet; omega
    exact .inr (.inr (.inr (.inl ⟨hn this, this, hk h1, hk h2, hk h3, ht h4⟩)))
  by_cases h5 : n < 0
  · have : ¬ okSet l e n := by unfold okSet; omega
    exact .inr (.inr (.inr (.inr (.inl ⟨hn this, this, hk h1, hk h2, hk h3, hk h4, ht h5⟩))))
  by_cases h6 : 1099511627776 < n
  · have : ¬ okSet l e n := by unfold okSet; omega
    exact .inr (.inr (.inr (.inr (.inr (.inl ⟨hn this, this, hk h1, hk h2, hk h3, hk h4, hk h5, ht h6⟩)))))
  · have : okSet l e n := by unfold okSet; omega
    exact .inr (.inr (.inr (.inr (.inr (.inr ⟨if_pos this, this, hk h1, hk h2, hk h3, hk h4, hk h5, hk h6⟩)))))
def chkSetS : FSpec
  | [.agg [.sb bs f, .w (.int .i64 e), .w (.int .i64 n)]], [] => ⟨True, .w (.int .i64 (chkB bs.length e n)), []⟩
  | _, _ => noRes
section
set_option maxRecDepth 100000
set_option maxHeartbeats 1000000 in
theorem chkSet_sound : Sound Try.prog 17 chkSetS := by
  refine fn_sound (S := noS) (T := ty) mixed ty_ok noS_ok Try.func17 (c := Try.f17.body.getD .skip) (by kernel_rfl) (by kernel_rfl) (fun xs pins hp _ => ?_)
  unfold chkSetS at hp ⊢
  split at hp
  · rename_i bs f e n _
    refine ⟨by simp, ?_⟩
    unfold Try.f17
    rcases chkB_cases bs.length e n with D | D | D | D | D | D | D
    all_goals simp -implicitDefEqProofs only [evT, implies_true, forall_const, Option.getD, later_normal, aop, aLen, ev, slot, setSlot, putSlot, cv, cvl, aConv, aBin, aInt, aUn, aFn, aEq, Out.and, isBool, isPtr, List.length, IntKind.bits, evs, evo, evps, aCall, aUser, coes, coe, List.append, List.replicate, callOut, rootsL, AV.roots, lendsL, AV.lends, pinsOf, nodup, lendL, lend, closedB, noimmB, AV.noimm, AV.ren, renL, back, Nat.reduceAdd, Nat.reduceSub, Nat.reduceMul, Int.reduceToNat, reduceCtorEq, aLoad, subv, aIndexAddr, aIndex, TD.aggr, guardSlot, aPick, byte, word, aMin, aMax, Ax.Ends, EndsX, Ax.rvals, rone, AV.ids, idsL, newIds, upTo, pinHeap, gOf, ↓reduceIte, List.isEmpty, Int.reducePow, Nat.reducePow, Int.reduceMod, Nat.reduceLeDiff, Int.reduceLE, Int.reduceNe, Int.reduceEq, aBuildSlice, fillB, aAppend, appendB, viewB, Ax.look, Ax.put, Ax.drop, List.drop, List.take, asv, aMake, aCopy, srcB, fillG, viewG, appendG, appendI, fillI, aSlice, bnd, bnds, full3, cut, aFieldAddr, aField, aStore, setB, aBox, aBuild, fillS, allTy, AV.leaves, AV.okv, AV.leaf, one, splice, elemLeaves, Blk.size, Blk.len, Option.isSome, Option.isNone, isBytes, aStr, aNil, aAlloc, aExtract, viewI, Nat.reduceEqDiff, Nat.reduceLT, Nat.reduceBEq, List.contains, List.elem, Blk.closed, closedL, AV.closed, Blk.noimm, ↓gsplit_tt, ↓gsplit_ff, ↓gsplit_tf, ↓gsplit_ft, ↓csplit_t, ↓csplit_f, Ax.idx, AV.lentIds, lentIdsL, dropAll, givenUp, AV.clean, cleanL, Blk.clean, cleanB, quietC, flatTy, coldStr, notMs, eqV, eqF, isStruct, ty, noS, D]
  · exact hp.elim
set_option maxHeartbeats 1000000 in
theorem rchkSet_sound : Sound Try.prog 18 chkSetS := by
  refine fn_sound (S := noS) (T := ty) mixed ty_ok noS_ok Try.func18 (c := Try.f18.body.getD .skip) (by kernel_rfl) (by kernel_rfl) (fun xs pins hp _ => ?_)
  unfold chkSetS at hp ⊢
  split at hp
  · rename_i bs f e n _
    refine ⟨by simp, ?_⟩
    unfold Try.f18
    rcases chkB_cases bs.length e n with D | D | D | D | D | D | D
    all_goals simp -implicitDefEqProofs only [evT, implies_true, forall_const, Option.getD, later_normal, aop, aLen, ev, slot, setSlot, putSlot, cv, cvl, aConv, aBin, aInt, aUn, aFn, aEq, Out.and, isBool, isPtr, List.length, IntKind.bits, evs, evo, evps, aCall, aUser, coes, coe, List.append, List.replicate, callOut, rootsL, AV.roots, lendsL, AV.lends, pinsOf, nodup, lendL, lend, closedB, noimmB, AV.noimm, AV.ren, renL, back, Nat.reduceAdd, Nat.reduceSub, Nat.reduceMul, Int.reduceToNat, reduceCtorEq, aLoad, subv, aIndexAddr, aIndex, TD.aggr, guardSlot, aPick, byte, word, aMin, aMax, Ax.Ends, EndsX, Ax.rvals, rone, AV.ids, idsL, newIds, upTo, pinHeap, gOf, ↓reduceIte, List.isEmpty, Int.reducePow, Nat.reducePow, Int.reduceMod, Nat.reduceLeDiff, Int.reduceLE, Int.reduceNe, Int.reduceEq, aBuildSlice, fillB, aAppend, appendB, viewB, Ax.look, Ax.put, Ax.drop, List.drop, List.take, asv, aMake, aCopy, srcB, fillG, viewG, appendG, appendI, fillI, aSlice, bnd, bnds, full3, cut, aFieldAddr, aField, aStore, setB, aBox, aBuild, fillS, allTy, AV.leaves, AV.okv, AV.leaf, one, splice, elemLeaves, Blk.size, Blk.len, Option.isSome, Option.isNone, isBytes, aStr, aNil, aAlloc, aExtract, viewI, Nat.reduceEqDiff, Nat.reduceLT, Nat.reduceBEq, List.contains, List.elem, Blk.closed, closedL, AV.closed, Blk.noimm, ↓gsplit_tt, ↓gsplit_ff, ↓gsplit_tf, ↓gsplit_ft, ↓csplit_t, ↓csplit_f, Ax.idx, AV.lentIds, lentIdsL, dropAll, givenUp, AV.clean, cleanL, Blk.clean, cleanB, quietC, flatTy, coldStr, notMs, eqV, eqF, isStruct, ty, noS, D]
  · exact hp.elim
end
end Go.Proofs.Ythodcljimjglcaa
