/- Layer 29: what every right program finds. -/
import Derived.Test.YtpdbmagonbdjfaaN3
namespace Go.Proofs.Ytpdbmagonbdjfaa
open Ax
set_option linter.unusedSimpArgs false
set_option linter.unusedVariables false

def Saw29 (f : FuncId) : Option FSpec :=
  match f with
  | 7 => some mostS
  | 9 => some totS
  | 11 => some ofS
  | _ => none
theorem Saw29_ok : Fns Try.prog Saw29 := by
  intro f s h
  unfold Saw29 at h
  split at h
  · injection h with h; subst h; exact ⟨⟨_, Try.func7, by kernel_rfl, by kernel_rfl⟩, most_sound⟩
  · injection h with h; subst h; exact ⟨⟨_, Try.func9, by kernel_rfl, by kernel_rfl⟩, tot_sound⟩
  · injection h with h; subst h; exact ⟨⟨_, Try.func11, by kernel_rfl, by kernel_rfl⟩, of_sound⟩
  · cases h
def yes29S : FSpec
  | [], [] => ⟨True, .w (.bool true), []⟩
  | _, _ => noRes
def threeL : List Lg := [⟨[], 0, 0, 0, 2⟩, ⟨[116], 0, 0, 0, 5⟩, ⟨[], 0, 0, 0, -1⟩]
section
set_option maxRecDepth 100000
set_option maxHeartbeats 1000000 in
theorem awake29_sound : Sound Try.prog 6 yes29S := by
  refine fn_sound (S := Saw29) (T := ty) mixed ty_ok Saw29_ok Try.func6 (c := Try.f6.body.getD .skip) (by kernel_rfl) (by kernel_rfl) (fun xs pins hp _ => ?_)
  unfold yes29S at hp ⊢
  split at hp
  · refine ⟨by simp, ?_⟩
    obtain ⟨X, hX⟩ : ∃ X, [AV.agg [.str [], .w (.int .i64 0), .w (.int .i64 0), .w (.int .i64 0), .w (.int .i64 2)], .agg [.str [116], .w (.int .i64 0), .w (.int .i64 0), .w (.int .i64 0), .w (.int .i64 5)], .agg [.str [], .w (.int .i64 0), .w (.int .i64 0), .w (.int .i64 0), .w (.int .i64 (-1))]] = X := ⟨_, rfl⟩
    have hXx : X = threeL.map lgv := by rw [← hX]; rfl
    have hXl : X.length = 3 := by rw [← hX]; rfl
    have hXu : X.map ulgv = threeL := by rw [hXx, map_ulgv]
    have hXe : ∃ es : List Lg, X = es.map lgv := ⟨_, hXx⟩
    have hX3 : X.take 3 = X := List.take_of_length_le (by omega)
    have hcl : ∀ y ∈ X, y.closed = true := by
      rw [hXx]; intro y hy
      obtain ⟨e, _, rfl⟩ := List.mem_map.1 hy
      rfl
    have s3 : ([116] : List UInt8) = [116] := rfl
    have hm : mostN threeL = ⟨[116], 0, 0, 0, 5⟩ := by rfl
    have ht : totN threeL = 7 := by rfl
    have k3 : decide (3 = 0) = false := rfl
    have f1 : max 0 ((5 : Int) - fromN 0 2 true) = 3 := by rfl
    have f2 : max 0 ((5 : Int) - fromN 1 0 true) = 4 := by rfl
    have f3 : max 0 ((5 : Int) - fromN 1 9 false) = 4 := by rfl
    unfold Try.f6
    simp -implicitDefEqProofs only [evT, implies_true, forall_const, Option.getD, later_normal, aop, aLen, ev, slot, setSlot, putSlot, cv, cvl, aConv, aBin, aInt, aUn, aFn, aEq, Out.and, isBool, isPtr, List.length, IntKind.bits, evs, evo, evps, aCall, aUser, coes, coe, List.append, List.replicate, callOut, rootsL, AV.roots, lendsL, AV.lends, pinsOf, nodup, lendL, lend, closedB, noimmB, AV.noimm, AV.ren, renL, back, Nat.reduceAdd, Nat.reduceSub, Nat.reduceMul, Int.reduceToNat, reduceCtorEq, aLoad, subv, aIndexAddr, aIndex, TD.aggr, guardSlot, aPick, byte, word, aMin, aMax, Ax.Ends, EndsX, Ax.rvals, rone, AV.ids, idsL, newIds, upTo, pinHeap, gOf, ↓reduceIte, List.isEmpty, Int.reducePow, Nat.reducePow, Int.reduceMod, Nat.reduceLeDiff, Int.reduceLE, Int.reduceNe, Int.reduceEq, aBuildSlice, fillB, aAppend, appendB, viewB, Ax.look, Ax.put, Ax.drop, List.drop, List.take, asv, aMake, aCopy, srcB, fillG, viewG, appendG, appendI, fillI, aSlice, bnd, bnds, full3, cut, aFieldAddr, aField, aStore, setB, aBox, aBuild, fillS, allTy, AV.leaves, AV.okv, AV.leaf, one, splice, elemLeaves, Blk.size, Blk.len, Option.isSome, Option.isNone, isBytes, aStr, aNil, aAlloc, aExtract, viewI, Nat.reduceEqDiff, Nat.reduceLT, Nat.reduceBEq, List.contains, List.elem, Blk.closed, closedL, AV.closed, Blk.noimm, ↓gsplit_tt, ↓gsplit_ff, ↓gsplit_tf, ↓gsplit_ft, ↓csplit_t, ↓csplit_f, Ax.idx, AV.lentIds, lentIdsL, dropAll, givenUp, AV.clean, cleanL, Blk.clean, cleanB, quietC, flatTy, coldStr, notMs, eqV, eqF, isStruct, -coe, coe_w, coe_str, coe_agg, coe_tup, coe_sb, coe_si, coe_cp, coe_ms, coe_rf, coe_fn, coe_cons, ty, Saw29, mostS, totS, ofS, hX, hX3, hXl, hXu, hXe, hm, ht, k3, f1, f2, f3, lgv, fillS]
    exact hcl
  · exact hp.elim
end
end Go.Proofs.Ytpdbmagonbdjfaa
