/- Layer 1: a reader of bytes that stay the caller's. -/
import Derived.Test.YtoagncogikogpaaA9t
import Derived.Test.YtoagncogikogpaaA6
import Derived.Test.YtoagncogikogpaaAxOm
namespace Go.Proofs.Ytoagncogikogpaa
open Ax
set_option linter.unusedSimpArgs false
set_option linter.unusedVariables false

def newO : FSpec
  | [.ms 0 1 0 n], [.b bs] => ⟨n = bs.length ∧ bs.length ≤ 1000000, .rf 1 2 0 0, [.b bs, rd bs false 0]⟩
  | _, _ => noRes
section
set_option maxRecDepth 100000
set_option maxHeartbeats 1000000 in
theorem newO_sound : SoundO Try.prog 10 newO := by
  refine fn_soundO (S := noS) (SO := noO) (T := ty) mixed ty_ok noS_ok noO_ok Try.func10 (c := Try.f10.body.getD .skip) (by kernel_rfl) (fun xs pins hp => ?_)
  unfold newO at hp ⊢
  split at hp
  · rename_i n bs
    obtain ⟨rfl, hp⟩ := hp
    refine ⟨by simp, fun _ => .std, by kernel_rfl, ?_⟩
    have ht : top = 4294967296 := rfl
    unfold Try.f10
    simp -implicitDefEqProofs only [evT, implies_true, forall_const, Option.getD, later_normal, aop, aLen, ev, slot, setSlot, putSlot, cv, cvl, aConv, aBin, aInt, aUn, aFn, aEq, Out.and, isBool, isPtr, List.length, IntKind.bits, evs, evo, evps, aCall, aUser, coes, coe, List.append, List.replicate, callOut, rootsL, AV.roots, lendsL, AV.lends, pinsOf, nodup, lendL, lend, closedB, noimmB, AV.noimm, AV.ren, renL, back, Nat.reduceAdd, Nat.reduceSub, Nat.reduceMul, Int.reduceToNat, reduceCtorEq, aLoad, subv, aIndexAddr, aIndex, TD.aggr, guardSlot, aPick, byte, word, aMin, aMax, Ax.Ends, EndsX, Ax.rvals, rone, AV.ids, idsL, newIds, upTo, pinHeap, gOf, ↓reduceIte, List.isEmpty, Int.reducePow, Nat.reducePow, Int.reduceMod, Nat.reduceLeDiff, Int.reduceLE, Int.reduceNe, Int.reduceEq, aBuildSlice, fillB, aAppend, appendB, viewB, Ax.look, Ax.put, Ax.drop, List.drop, List.take, asv, aMake, aCopy, srcB, fillG, viewG, appendG, appendI, fillI, aSlice, bnd, bnds, full3, cut, aFieldAddr, aField, aStore, setB, aBox, aBuild, fillS, allTy, AV.leaves, AV.okv, AV.leaf, one, splice, elemLeaves, Blk.size, Blk.len, Option.isSome, Option.isNone, isBytes, aStr, aNil, aAlloc, aExtract, viewI, Nat.reduceEqDiff, Nat.reduceLT, Nat.reduceBEq, List.contains, List.elem, Blk.closed, closedL, AV.closed, Blk.noimm, ↓gsplit_tt, ↓gsplit_ff, ↓gsplit_tf, ↓gsplit_ft, ↓csplit_t, ↓csplit_f, Ax.idx, AV.lentIds, lentIdsL, dropAll, givenUp, AV.clean, cleanL, Blk.clean, cleanB, quietC, flatTy, coldStr, notMs, eqV, eqF, isStruct, evTO, evTP, laterO_normal, frzS, frzL, ↓frzK_def, fzL, fzH, AV.fz, Blk.fz, fgL, fgH, AV.fg, Blk.fg, ↓openKO_def, openOp, aOpen, openOut, reach, walk, allIn, pinsIn, pinsR, backO, gone, Blk.isGone, AV.sids, sidsL, Blk.idsB, Blk.sidsB, Blk.renB, Blk.ren, idxOf, EndsO, EndsXO, endIds, reachE, idsAt, idsAtL, walkI, matchE, aopF, foot, footA, keepIn, dropIn, bids, Blk.ids, heldB, memOk, clearOf, Op.operands, Call.operands, List.map_cons, List.map_nil, List.toList_toArray, Array.toList_append, Option.toArray_some, Option.toArray_none, Bool.and_self, ty, noS, rd, List.take_length]
    refine ⟨by omega, _, weak_fz 20 4 bs rfl (by simp [slot, AV.ids]), ?_⟩
    simp -implicitDefEqProofs only [evT, implies_true, forall_const, Option.getD, later_normal, aop, aLen, ev, slot, setSlot, putSlot, cv, cvl, aConv, aBin, aInt, aUn, aFn, aEq, Out.and, isBool, isPtr, List.length, IntKind.bits, evs, evo, evps, aCall, aUser, coes, coe, List.append, List.replicate, callOut, rootsL, AV.roots, lendsL, AV.lends, pinsOf, nodup, lendL, lend, closedB, noimmB, AV.noimm, AV.ren, renL, back, Nat.reduceAdd, Nat.reduceSub, Nat.reduceMul, Int.reduceToNat, reduceCtorEq, aLoad, subv, aIndexAddr, aIndex, TD.aggr, guardSlot, aPick, byte, word, aMin, aMax, Ax.Ends, EndsX, Ax.rvals, rone, AV.ids, idsL, newIds, upTo, pinHeap, gOf, ↓reduceIte, List.isEmpty, Int.reducePow, Nat.reducePow, Int.reduceMod, Nat.reduceLeDiff, Int.reduceLE, Int.reduceNe, Int.reduceEq, aBuildSlice, fillB, aAppend, appendB, viewB, Ax.look, Ax.put, Ax.drop, List.drop, List.take, asv, aMake, aCopy, srcB, fillG, viewG, appendG, appendI, fillI, aSlice, bnd, bnds, full3, cut, aFieldAddr, aField, aStore, setB, aBox, aBuild, fillS, allTy, AV.leaves, AV.okv, AV.leaf, one, splice, elemLeaves, Blk.size, Blk.len, Option.isSome, Option.isNone, isBytes, aStr, aNil, aAlloc, aExtract, viewI, Nat.reduceEqDiff, Nat.reduceLT, Nat.reduceBEq, List.contains, List.elem, Blk.closed, closedL, AV.closed, Blk.noimm, ↓gsplit_tt, ↓gsplit_ff, ↓gsplit_tf, ↓gsplit_ft, ↓csplit_t, ↓csplit_f, Ax.idx, AV.lentIds, lentIdsL, dropAll, givenUp, AV.clean, cleanL, Blk.clean, cleanB, quietC, flatTy, coldStr, notMs, eqV, eqF, isStruct, evTO, evTP, laterO_normal, frzS, frzL, ↓frzK_def, fzL, fzH, AV.fz, Blk.fz, fgL, fgH, AV.fg, Blk.fg, ↓openKO_def, openOp, aOpen, openOut, reach, walk, allIn, pinsIn, pinsR, backO, gone, Blk.isGone, AV.sids, sidsL, Blk.idsB, Blk.sidsB, Blk.renB, Blk.ren, idxOf, EndsO, EndsXO, endIds, reachE, idsAt, idsAtL, walkI, matchE, aopF, foot, footA, keepIn, dropIn, bids, Blk.ids, heldB, memOk, clearOf, Op.operands, Call.operands, List.map_cons, List.map_nil, List.toList_toArray, Array.toList_append, Option.toArray_some, Option.toArray_none, Bool.and_self, ty, decide_true, List.take_length]
  · exact hp.elim
end
end Go.Proofs.Ytoagncogikogpaa
