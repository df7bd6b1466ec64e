/- Layer 1: the document's reader. -/
import Derived.Test.YthodcljimjglcaaA8
import Derived.Test.YthodcljimjglcaaA7
namespace Go.Proofs.Ythodcljimjglcaa
open Ax
set_option linter.unusedSimpArgs false
set_option linter.unusedVariables false

def rrd (bs : List UInt8) (f : Bool) (e : Int) : AV := .agg [.sb bs f, .w (.int .i64 e)]
def rrnumS : FSpec
  | [.agg [.sb bs f, .w (.int k e)]], [] => ⟨k = .i64 ∧ bs.length ≤ 1000000, .tup [rrd (numL bs e) f (numE bs e), .w (.int .i64 (numN bs e))], []⟩
  | _, _ => noRes
def S27 (f : FuncId) : Option FSpec :=
  match f with
  | 56 => some getS
  | _ => none
theorem S27_ok : Fns Try.prog S27 := by
  intro f s h
  unfold S27 at h
  split at h
  · injection h with h; subst h; exact ⟨⟨_, Try.func56, by kernel_rfl, by kernel_rfl⟩, rget_sound⟩
  · cases h
section
set_option maxRecDepth 100000
theorem rrnum_sound : Sound Try.prog 45 rrnumS := by
  refine fn_sound (S := S27) (T := ty) mixed ty_ok S27_ok Try.func45 (c := Try.f45.body.getD .skip) (by kernel_rfl) (by kernel_rfl) (fun xs pins hp _ => ?_)
  unfold rrnumS at hp ⊢
  split at hp
  · rename_i bs f k e _
    obtain ⟨rfl, hlen⟩ := hp
    refine ⟨by simp, ?_⟩
    obtain ⟨hg1, hg2⟩ := getL_ok bs
    have e1 : List.take (bs.length - (getL bs).2.1) (List.drop (getL bs).2.1 bs) = bs.drop (getL bs).2.1 := List.take_of_length_le (by simp)
    unfold Try.f45
    by_cases he : e = 0
    · subst he
      have d0 : decide ((0 : Int) = 0) = true := rfl
      by_cases hr : (getL bs).2.2 = 0
      · simp -implicitDefEqProofs only [evT, implies_true, forall_const, Option.getD, later_normal, aop, aLen, ev, slot, setSlot, putSlot, cv, cvl, aConv, aBin, aInt, aUn, aFn, aEq, Out.and, isBool, isPtr, List.length, IntKind.bits, evs, evo, evps, aCall, aUser, coes, coe, List.append, List.replicate, callOut, rootsL, AV.roots, lendsL, AV.lends, pinsOf, nodup, lendL, lend, closedB, noimmB, AV.noimm, AV.ren, renL, back, Nat.reduceAdd, Nat.reduceSub, Nat.reduceMul, Int.reduceToNat, reduceCtorEq, aLoad, subv, aIndexAddr, aIndex, TD.aggr, guardSlot, aPick, byte, word, aMin, aMax, Ax.Ends, EndsX, Ax.rvals, rone, AV.ids, idsL, newIds, upTo, pinHeap, gOf, ↓reduceIte, List.isEmpty, Int.reducePow, Nat.reducePow, Int.reduceMod, Nat.reduceLeDiff, Int.reduceLE, Int.reduceNe, Int.reduceEq, aBuildSlice, fillB, aAppend, appendB, viewB, Ax.look, Ax.put, Ax.drop, List.drop, List.take, asv, aMake, aCopy, srcB, fillG, viewG, appendG, appendI, fillI, aSlice, bnd, bnds, full3, cut, aFieldAddr, aField, aStore, setB, aBox, aBuild, fillS, allTy, AV.leaves, AV.okv, AV.leaf, one, splice, elemLeaves, Blk.size, Blk.len, Option.isSome, Option.isNone, isBytes, aStr, aNil, aAlloc, aExtract, viewI, Nat.reduceEqDiff, Nat.reduceLT, Nat.reduceBEq, List.contains, List.elem, Blk.closed, closedL, AV.closed, Blk.noimm, ↓gsplit_tt, ↓gsplit_ff, ↓gsplit_tf, ↓gsplit_ft, ↓csplit_t, ↓csplit_f, Ax.idx, AV.lentIds, lentIdsL, dropAll, givenUp, AV.clean, cleanL, Blk.clean, cleanB, quietC, flatTy, coldStr, notMs, eqV, eqF, isStruct, ty, S27, getS, hlen, e1, hr, Int.toNat_natCast, rrd, numL, numE, numN, if_true, fillS]
        omega
      · obtain ⟨h3, h4⟩ := hg2 hr
        have d1 : decide ((getL bs).2.2 = 0) = false := decide_eq_false hr
        simp -implicitDefEqProofs only [evT, implies_true, forall_const, Option.getD, later_normal, aop, aLen, ev, slot, setSlot, putSlot, cv, cvl, aConv, aBin, aInt, aUn, aFn, aEq, Out.and, isBool, isPtr, List.length, IntKind.bits, evs, evo, evps, aCall, aUser, coes, coe, List.append, List.replicate, callOut, rootsL, AV.roots, lendsL, AV.lends, pinsOf, nodup, lendL, lend, closedB, noimmB, AV.noimm, AV.ren, renL, back, Nat.reduceAdd, Nat.reduceSub, Nat.reduceMul, Int.reduceToNat, reduceCtorEq, aLoad, subv, aIndexAddr, aIndex, TD.aggr, guardSlot, aPick, byte, word, aMin, aMax, Ax.Ends, EndsX, Ax.rvals, rone, AV.ids, idsL, newIds, upTo, pinHeap, gOf, ↓reduceIte, List.isEmpty, Int.reducePow, Nat.reducePow, Int.reduceMod, Nat.reduceLeDiff, Int.reduceLE, Int.reduceNe, Int.reduceEq, aBuildSlice, fillB, aAppend, appendB, viewB, Ax.look, Ax.put, Ax.drop, List.drop, List.take, asv, aMake, aCopy, srcB, fillG, viewG, appendG, appendI, fillI, aSlice, bnd, bnds, full3, cut, aFieldAddr, aField, aStore, setB, aBox, aBuild, fillS, allTy, AV.leaves, AV.okv, AV.leaf, one, splice, elemLeaves, Blk.size, Blk.len, Option.isSome, Option.isNone, isBytes, aStr, aNil, aAlloc, aExtract, viewI, Nat.reduceEqDiff, Nat.reduceLT, Nat.reduceBEq, List.contains, List.elem, Blk.closed, closedL, AV.closed, Blk.noimm, ↓gsplit_tt, ↓gsplit_ff, ↓gsplit_tf, ↓gsplit_ft, ↓csplit_t, ↓csplit_f, Ax.idx, AV.lentIds, lentIdsL, dropAll, givenUp, AV.clean, cleanL, Blk.clean, cleanB, quietC, flatTy, coldStr, notMs, eqV, eqF, isStruct, ty, S27, getS, hlen, e1, d1, Int.toNat_natCast, rrd, numL, numE, numN, if_true, h3, h4, List.drop_zero]
    · have d0 : decide (e = 0) = false := decide_eq_false he
      simp -implicitDefEqProofs only [evT, implies_true, forall_const, Option.getD, later_normal, aop, aLen, ev, slot, setSlot, putSlot, cv, cvl, aConv, aBin, aInt, aUn, aFn, aEq, Out.and, isBool, isPtr, List.length, IntKind.bits, evs, evo, evps, aCall, aUser, coes, coe, List.append, List.replicate, callOut, rootsL, AV.roots, lendsL, AV.lends, pinsOf, nodup, lendL, lend, closedB, noimmB, AV.noimm, AV.ren, renL, back, Nat.reduceAdd, Nat.reduceSub, Nat.reduceMul, Int.reduceToNat, reduceCtorEq, aLoad, subv, aIndexAddr, aIndex, TD.aggr, guardSlot, aPick, byte, word, aMin, aMax, Ax.Ends, EndsX, Ax.rvals, rone, AV.ids, idsL, newIds, upTo, pinHeap, gOf, ↓reduceIte, List.isEmpty, Int.reducePow, Nat.reducePow, Int.reduceMod, Nat.reduceLeDiff, Int.reduceLE, Int.reduceNe, Int.reduceEq, aBuildSlice, fillB, aAppend, appendB, viewB, Ax.look, Ax.put, Ax.drop, List.drop, List.take, asv, aMake, aCopy, srcB, fillG, viewG, appendG, appendI, fillI, aSlice, bnd, bnds, full3, cut, aFieldAddr, aField, aStore, setB, aBox, aBuild, fillS, allTy, AV.leaves, AV.okv, AV.leaf, one, splice, elemLeaves, Blk.size, Blk.len, Option.isSome, Option.isNone, isBytes, aStr, aNil, aAlloc, aExtract, viewI, Nat.reduceEqDiff, Nat.reduceLT, Nat.reduceBEq, List.contains, List.elem, Blk.closed, closedL, AV.closed, Blk.noimm, ↓gsplit_tt, ↓gsplit_ff, ↓gsplit_tf, ↓gsplit_ft, ↓csplit_t, ↓csplit_f, Ax.idx, AV.lentIds, lentIdsL, dropAll, givenUp, AV.clean, cleanL, Blk.clean, cleanB, quietC, flatTy, coldStr, notMs, eqV, eqF, isStruct, ty, S27, getS, d0, rrd, numL, numE, numN, if_neg he]
  · exact hp.elim

def rrfixS : FSpec
  | [.agg [.sb bs f, .w (.int k e)], .w (.int k' n)], [] => ⟨k = .i64 ∧ k' = .i64 ∧ bs.length ≤ 1000000, .tup [rrd (rfixL n bs e) f (rfixE n bs e), .w (.int .u64 (rfixN n bs e))], []⟩
  | _, _ => noRes
def S29 (f : FuncId) : Option FSpec :=
  match f with
  | _ => none
theorem S29_ok : Fns Try.prog S29 := by
  intro f s h
  unfold S29 at h
  cases h
def rrtextS : FSpec
  | [.agg [.sb bs f, .w (.int k e)], .w (.int k' m)], [] => ⟨k = .i64 ∧ k' = .i64 ∧ bs.length ≤ 1000000, .tup [rrd (rtL m bs e) f (rtE m bs e), .str (rtS' m bs e)], []⟩
  | _, _ => noRes
def S31 (f : FuncId) : Option FSpec :=
  match f with
  | 45 => some rrnumS
  | _ => none
theorem S31_ok : Fns Try.prog S31 := by
  intro f s h
  unfold S31 at h
  split at h
  · injection h with h; subst h; exact ⟨⟨_, Try.func45, by kernel_rfl, by kernel_rfl⟩, rrnum_sound⟩
  · cases h
theorem numL_length (bs : List UInt8) (e : Int) : (numL bs e).length ≤ bs.length := by
  unfold numL; split <;> simp
def rrdoneS : FSpec
  | [.agg [.sb bs f, .w (.int k e)]], [] => ⟨k = .i64, .w (.int .i64 (if e = 0 ∧ 0 < bs.length then 4 else e)), []⟩
  | _, _ => noRes
end
end Go.Proofs.Ythodcljimjglcaa
