/- Layer 1: what every right program lays of some numbers. -/
import Derived.Test.YtoagncogikogpaaA5
namespace Go.Proofs.Ytoagncogikogpaa
open Ax
set_option linter.unusedSimpArgs false
set_option linter.unusedVariables false

def S17 (f : FuncId) : Option FSpec :=
  match f with
  | 41 => some zzS
  | 42 => some zgS
  | 39 => some putS
  | 40 => some fixS
  | 43 => some unfS
  | 10 => some newS
  | 12 => some numS
  | 14 => some rfixS
  | 16 => some rtextS'
  | 19 => some doneS
  | 21 => some textS
  | _ => none
theorem S17_ok : Fns Try.prog S17 := by
  intro f s h
  unfold S17 at h
  split at h
  · injection h with h; subst h; exact ⟨⟨_, Try.func41, by kernel_rfl, by kernel_rfl⟩, zig_sound⟩
  · injection h with h; subst h; exact ⟨⟨_, Try.func42, by kernel_rfl, by kernel_rfl⟩, zag_sound⟩
  · injection h with h; subst h; exact ⟨⟨_, Try.func39, by kernel_rfl, by kernel_rfl⟩, put_sound⟩
  · injection h with h; subst h; exact ⟨⟨_, Try.func40, by kernel_rfl, by kernel_rfl⟩, fixed_sound⟩
  · injection h with h; subst h; exact ⟨⟨_, Try.func43, by kernel_rfl, by kernel_rfl⟩, unfixed_sound⟩
  · injection h with h; subst h; exact ⟨⟨_, Try.func10, by kernel_rfl, by kernel_rfl⟩, new_sound⟩
  · injection h with h; subst h; exact ⟨⟨_, Try.func12, by kernel_rfl, by kernel_rfl⟩, num_sound⟩
  · injection h with h; subst h; exact ⟨⟨_, Try.func14, by kernel_rfl, by kernel_rfl⟩, mfixed_sound⟩
  · injection h with h; subst h; exact ⟨⟨_, Try.func16, by kernel_rfl, by kernel_rfl⟩, mtext_sound⟩
  · injection h with h; subst h; exact ⟨⟨_, Try.func19, by kernel_rfl, by kernel_rfl⟩, done_sound⟩
  · injection h with h; subst h; exact ⟨⟨_, Try.func21, by kernel_rfl, by kernel_rfl⟩, text_sound⟩
  · cases h


theorem aw1 : putU (zz (-1)).toNat = [1] := by simp [putU, zz]
theorem aw2 : putU (zz 64).toNat = [128, 1] := by simp [putU, zz]
theorem aw3 : textL [97, 98] = [4, 97, 98] := by simp [textL, putU]
theorem aw4 : fixL 258 (clampI 3).toNat = [0, 1, 2] := by kernel_rfl
def awB : List UInt8 := [UInt8.ofNat 4, UInt8.ofNat 97, UInt8.ofNat 98, UInt8.ofNat 128, UInt8.ofNat 1, UInt8.ofNat 0, UInt8.ofNat 9]
theorem aw5 : rtS' 9 [UInt8.ofNat 4, UInt8.ofNat 97, UInt8.ofNat 98, UInt8.ofNat 128, UInt8.ofNat 1, UInt8.ofNat 0, UInt8.ofNat 9] 0 = [97, 98] := by decide +kernel
theorem aw6 : rtL 9 [UInt8.ofNat 4, UInt8.ofNat 97, UInt8.ofNat 98, UInt8.ofNat 128, UInt8.ofNat 1, UInt8.ofNat 0, UInt8.ofNat 9] 0 = [128, 1, 0, 9] := by decide +kernel
theorem aw7 : rtE 9 [UInt8.ofNat 4, UInt8.ofNat 97, UInt8.ofNat 98, UInt8.ofNat 128, UInt8.ofNat 1, UInt8.ofNat 0, UInt8.ofNat 9] 0 = 0 := by decide +kernel
theorem aw8 : numN [128, 1, 0, 9] 0 = 64 := by decide +kernel
theorem aw9 : numL [128, 1, 0, 9] 0 = [0, 9] := by decide +kernel
theorem aw10 : numE [128, 1, 0, 9] 0 = 0 := by decide +kernel
theorem aw11 : rfixN 2 [0, 9] 0 = 9 := by decide +kernel
theorem aw12 : rfixL 2 [0, 9] 0 = [] := by decide +kernel
theorem aw13 : rfixE 2 [0, 9] 0 = 0 := by decide +kernel
theorem aw14 : zz (-3) = 5 := by decide
theorem aw15 : zg 5 = -3 := by decide
theorem aw16 : unfL (last8 [UInt8.ofNat 1, UInt8.ofNat 0]) 0 = 256 := by decide +kernel
theorem aw17 : ([1] : List UInt8).length = 1 ∧ ([128, 1] : List UInt8).length = 2 := by decide

section
set_option maxRecDepth 100000
theorem awake_sound : Sound Try.prog 9 yesS := by
  refine fn_sound (S := S17) (T := ty) mixed ty_ok S17_ok Try.func9 (c := Try.f9.body.getD .skip) (by kernel_rfl) (by kernel_rfl) (fun xs pins hp _ => ?_)
  unfold yesS at hp ⊢
  split at hp
  · refine ⟨by simp, ?_⟩
    unfold Try.f9
    simp -implicitDefEqProofs only [evT, implies_true, forall_const, Option.getD, later_normal, aop, aLen, ev, slot, setSlot, putSlot, cv, cvl, aConv, aBin, aInt, aUn, aFn, aEq, Out.and, isBool, isPtr, List.length, IntKind.bits, evs, evo, evps, aCall, aUser, coes, coe, List.append, List.replicate, callOut, rootsL, AV.roots, lendsL, AV.lends, pinsOf, nodup, lendL, lend, closedB, noimmB, AV.noimm, AV.ren, renL, back, Nat.reduceAdd, Nat.reduceSub, Nat.reduceMul, Int.reduceToNat, reduceCtorEq, aLoad, subv, aIndexAddr, aIndex, TD.aggr, guardSlot, aPick, byte, word, aMin, aMax, Ax.Ends, EndsX, Ax.rvals, rone, AV.ids, idsL, newIds, upTo, pinHeap, gOf, ↓reduceIte, List.isEmpty, Int.reducePow, Nat.reducePow, Int.reduceMod, Nat.reduceLeDiff, Int.reduceLE, Int.reduceNe, Int.reduceEq, aBuildSlice, fillB, aAppend, appendB, viewB, Ax.look, Ax.put, Ax.drop, List.drop, List.take, asv, aMake, aCopy, srcB, fillG, viewG, appendG, appendI, fillI, aSlice, bnd, bnds, full3, cut, aFieldAddr, aField, aStore, setB, aBox, aBuild, fillS, allTy, AV.leaves, AV.okv, AV.leaf, one, splice, elemLeaves, Blk.size, Blk.len, Option.isSome, Option.isNone, isBytes, aStr, aNil, aAlloc, aExtract, viewI, Nat.reduceEqDiff, Nat.reduceLT, Nat.reduceBEq, List.contains, List.elem, Blk.closed, closedL, AV.closed, Blk.noimm, ↓gsplit_tt, ↓gsplit_ff, ↓gsplit_tf, ↓gsplit_ft, ↓csplit_t, ↓csplit_f, Ax.idx, AV.lentIds, lentIdsL, dropAll, givenUp, AV.clean, cleanL, Blk.clean, cleanB, quietC, flatTy, coldStr, notMs, eqV, eqF, isStruct, ty, S17, zzS, zgS, putS, fixS, unfS, newS, numS, rfixS, rtextS', doneS, textS, rd, aw1, aw2, aw3, aw4, aw5, aw6, aw7, aw8, aw9, aw10, aw11, aw12, aw13, aw14, aw15, aw16, List.take_length, decide_true, decide_false]
    have h3 : (clampI 3).toNat = 3 := by decide
    rw [h3]
    decide
  · exact hp.elim
end
end Go.Proofs.Ytoagncogikogpaa
