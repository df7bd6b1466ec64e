/- Layer 4: the records from an offset on, of a batch. -/
import Derived.Test.YthmkhlmohjcbgaaL7
namespace Go.Proofs.Ythmkhlmohjcbgaa
open Ax
set_option linter.unusedSimpArgs false
set_option linter.unusedVariables false

def bfromS : FSpec
  | [.agg [.w (.int .i64 b), .w (.int .i64 c), .w (.int .i64 p), .w (.int .i64 e), .w (.int .i64 s), .sg 6 xs f], .w (.int .i64 off)], [] =>
      ⟨xs.length ≤ 1000000 ∧ ∃ rs : List Rec, xs = rs.map rv, .ms 0 6 0 (fromR b off (xs.map rrec)).length, [.g 6 ((fromR b off (xs.map rrec)).map rv)]⟩
  | _, _ => noRes
def Sbfrom (f : FuncId) : Option FSpec :=
  match f with
  | 44 => some chooseS
  | _ => none
theorem Sbfrom_ok : Fns Try.prog Sbfrom := by
  intro f s h
  unfold Sbfrom at h
  split at h
  · injection h with h; subst h; exact ⟨⟨_, Try.func44, by kernel_rfl, by kernel_rfl⟩, choose_sound⟩
  · cases h
section
set_option maxRecDepth 100000
set_option maxHeartbeats 1000000 in
theorem bfrom_sound : Sound Try.prog 27 bfromS := by
  refine fn_sound (S := Sbfrom) (T := ty) mixed ty_ok Sbfrom_ok Try.func27 (c := Try.f27.body.getD .skip) (by kernel_rfl) (by kernel_rfl) (fun xs pins hp _ => ?_)
  unfold bfromS at hp ⊢
  split at hp
  · rename_i b c p e s xs f off _
    obtain ⟨hL, rs, rfl⟩ := hp
    rw [List.length_map] at hL
    refine ⟨by simp, ?_⟩
    have hl4 : (rs.map rv).length = rs.length := by simp
    have hex : ∃ qs : List Rec, rs.map rv = qs.map rv := ⟨rs, rfl⟩
    have hc1 : coe ty 22 (.sg 6 (rs.map rv) f) = .sg 6 (rs.map rv) f := by cases rs <;> rfl
    unfold Try.f27
    simp -implicitDefEqProofs only [evT, implies_true, forall_const, Option.getD, later_normal, aop, aLen, ev, slot, setSlot, putSlot, cv, cvl, aConv, aBin, aInt, aUn, aFn, aEq, Out.and, isBool, isPtr, List.length, IntKind.bits, evs, evo, evps, aCall, aUser, coes, coe, List.append, List.replicate, callOut, rootsL, AV.roots, lendsL, AV.lends, pinsOf, nodup, lendL, lend, closedB, noimmB, AV.noimm, AV.ren, renL, back, Nat.reduceAdd, Nat.reduceSub, Nat.reduceMul, Int.reduceToNat, reduceCtorEq, aLoad, subv, aIndexAddr, aIndex, TD.aggr, guardSlot, aPick, byte, word, aMin, aMax, Ax.Ends, EndsX, Ax.rvals, rone, AV.ids, idsL, newIds, upTo, pinHeap, gOf, ↓reduceIte, List.isEmpty, Int.reducePow, Nat.reducePow, Int.reduceMod, Nat.reduceLeDiff, Int.reduceLE, Int.reduceNe, Int.reduceEq, aBuildSlice, fillB, aAppend, appendB, viewB, Ax.look, Ax.put, Ax.drop, List.drop, List.take, asv, aMake, aCopy, srcB, fillG, viewG, appendG, appendI, fillI, aSlice, bnd, bnds, full3, cut, aFieldAddr, aField, aStore, setB, aBox, aBuild, fillS, allTy, AV.leaves, AV.okv, AV.leaf, one, splice, elemLeaves, Blk.size, Blk.len, Option.isSome, Option.isNone, isBytes, aStr, aNil, aAlloc, aExtract, viewI, Nat.reduceEqDiff, Nat.reduceLT, Nat.reduceBEq, List.contains, List.elem, Blk.closed, closedL, AV.closed, Blk.noimm, ↓gsplit_tt, ↓gsplit_ff, ↓gsplit_tf, ↓gsplit_ft, ↓csplit_t, ↓csplit_f, Ax.idx, AV.lentIds, lentIdsL, dropAll, givenUp, AV.clean, cleanL, Blk.clean, cleanB, quietC, flatTy, coldStr, notMs, eqV, eqF, isStruct, -coe, coe_w, coe_str, coe_agg, coe_tup, coe_sb, coe_si, coe_cp, coe_ms, coe_rf, coe_fn, coe_cons, hc1, ty, Sbfrom, chooseS, hl4, hL, hex, map_rrec, closed_rv]
  · exact hp.elim
end
end Go.Proofs.Ythmkhlmohjcbgaa
