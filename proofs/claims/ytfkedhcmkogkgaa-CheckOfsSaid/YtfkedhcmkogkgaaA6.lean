/- Layer 1: what every right program lays of some numbers. -/
import Derived.Test.YtfkedhcmkogkgaaA5
namespace Go.Proofs.Ytfkedhcmkogkgaa
open Ax
set_option linter.unusedSimpArgs false
set_option linter.unusedVariables false

def S17 (f : FuncId) : Option FSpec :=
  match f with
  | 13 => some zzS
  | 15 => some zgS
  | 18 => some putS
  | 20 => some fixS
  | 24 => some unfS
  | 26 => some newS
  | 28 => some numS
  | 30 => some rfixS
  | 32 => some rtextS'
  | 35 => some doneS
  | 37 => some textS
  | _ => none
theorem S17_ok : Fns Try.prog S17 := by
  intro f s h
  unfold S17 at h
  split at h
  · injection h with h; subst h; exact ⟨⟨_, Try.func13, by kernel_rfl, by kernel_rfl⟩, zig_sound⟩
  · injection h with h; subst h; exact ⟨⟨_, Try.func15, by kernel_rfl, by kernel_rfl⟩, zag_sound⟩
  · injection h with h; subst h; exact ⟨⟨_, Try.func18, by kernel_rfl, by kernel_rfl⟩, put_sound⟩
  · injection h with h; subst h; exact ⟨⟨_, Try.func20, by kernel_rfl, by kernel_rfl⟩, fixed_sound⟩
  · injection h with h; subst h; exact ⟨⟨_, Try.func24, by kernel_rfl, by kernel_rfl⟩, unfixed_sound⟩
  · injection h with h; subst h; exact ⟨⟨_, Try.func26, by kernel_rfl, by kernel_rfl⟩, new_sound⟩
  · injection h with h; subst h; exact ⟨⟨_, Try.func28, by kernel_rfl, by kernel_rfl⟩, num_sound⟩
  · injection h with h; subst h; exact ⟨⟨_, Try.func30, by kernel_rfl, by kernel_rfl⟩, mfixed_sound⟩
  · injection h with h; subst h; exact ⟨⟨_, Try.func32, by kernel_rfl, by kernel_rfl⟩, mtext_sound⟩
  · injection h with h; subst h; exact ⟨⟨_, Try.func35, by kernel_rfl, by kernel_rfl⟩, done_sound⟩
  · injection h with h; subst h; exact ⟨⟨_, Try.func37, by kernel_rfl, by kernel_rfl⟩, text_sound⟩
  · cases h

def yesS : FSpec
  | [], [] => ⟨True, .w (.bool true), []⟩
  | _, _ => noRes

theorem aw1 : putU (zz (-1)).toNat = [1] := by simp [putU, zz]
theorem aw2 : putU (zz 64).toNat = [128, 1] := by simp [putU, zz]
theorem aw3 : textL [97, 98] = [4, 97, 98] := by simp [textL, putU]
theorem aw4 : fixL 258 (clampI 3).toNat = [0, 1, 2] := by kernel_rfl
def awB : List UInt8 := [UInt8.ofNat 4, UInt8.ofNat 97, UInt8.ofNat 98, UInt8.ofNat 128, UInt8.ofNat 1, UInt8.ofNat 0, UInt8.ofNat 9]
theorem aw5 : rtS' 9 [UInt8.ofNat 4, UInt8.ofNat 97, UInt8.ofNat 98, UInt8.ofNat 128, UInt8.ofNat 1, UInt8.ofNat 0, UInt8.ofNat 9] 0 = [97, 98] := by decide +kernel
theorem aw6 : rtL 9 [UInt8.ofNat 4, UInt8.ofNat 97, UInt8.ofNat 98, UInt8.ofNat 128, UInt8.ofNat 1, UInt8.ofNat 0, UInt8.ofNat 9] 0 = [128, 1, 0, 9] := by decide +kernel
theorem aw7 : rtE 9 [UInt8.ofNat 4, UInt8.ofNat 97, UInt8.ofNat 98, UInt8.ofNat 128, UInt8.ofNat 1, UInt8.ofNat 0, UInt8.ofNat 9] 0 = 0 := by decide +kernel
theorem aw8 : numN [128, 1, 0, 9] 0 = 64 := by decide +kernel
theorem aw9 : numL [128, 1, 0, 9] 0 = [0, 9] := by decide +kernel
theorem aw10 : numE [128, 1, 0, 9] 0 = 0 := by decide +kernel
theorem aw11 : rfixN 2 [0, 9] 0 = 9 := by decide +kernel
theorem aw12 : rfixL 2 [0, 9] 0 = [] := by decide +kernel
theorem aw13 : rfixE 2 [0, 9] 0 = 0 := by decide +kernel
theorem aw14 : zz (-3) = 5 := by decide
theorem aw15 : zg 5 = -3 := by decide
theorem aw16 : unfL (last8 [UInt8.ofNat 1, UInt8.ofNat 0]) 0 = 256 := by decide +kernel
theorem aw17 : ([1] : List UInt8).length = 1 ∧ ([128, 1] : List UInt8).length = 2 := by decide

section
set_option maxRecDepth 100000
theorem awake_sound : Sound Try.prog 17 yesS := by
  refine fn_sound (S := S17) (T := ty) mixed ty_ok S17_ok Try.func17 (c := Try.f17.body.getD .skip) (by kernel_rfl) (by kernel_rfl) (fun xs pins hp _ => ?_)
  unfold yesS at hp ⊢
  split at hp
  · refine ⟨by simp, ?_⟩
    unfold Try.f17
    simp -implicitDefEqProofs only [Option.getD, awp_skip, awp_label, awp_ret, awp_exit, awp_region, awp_seq, awp_block, awp_cond, aops_nil, aops_plain, aops_guard, later_normal, later_exit, later_ret, blockK_normal, blockK_exit, blockK_ret, regK_apply, aop, aLen, ev, slot, setSlot, putSlot, cv, cvl, aConv, aBin, aInt, aUn, aEq, Out.and, isBool, isPtr, true_and, and_true, List.length, IntKind.bits, evs, evo, evps, aCall, aUser, coes, coe, List.append, List.replicate, callOut, rootsL, AV.roots, lendsL, AV.lends, pinsOf, nodup, lendL, lend, closedB, noimmB, AV.noimm, AV.ren, renL, back, Nat.reduceAdd, Nat.reduceSub, Nat.reduceMul, Int.reduceToNat, Nat.le_refl, reduceCtorEq, false_implies, implies_true, List.nil_append, List.append_nil, List.cons_append, Nat.zero_le, Bool.false_eq_true, aLoad, subv, aIndexAddr, aIndex, TD.aggr, cond_false, cond_true, guardSlot, List.getElem?_cons_succ, List.getElem?_cons_zero, aPick, byte, word, aMin, aMax, Ax.Ends, EndsX, Ax.rvals, rone, AV.ids, idsL, newIds, upTo, pinHeap, gOf, ↓reduceIte, forall_const, List.isEmpty, ne_eq, not_false_eq_true, and_self, true_implies, AV.w.injEq, Value.int.injEq, Value.bool.injEq, IntKind.wrap_u8, IntKind.wrap_u64, IntKind.wrap_i64, Int.reducePow, Nat.reducePow, Nat.min_def, Int.reduceMod, Nat.reduceLeDiff, Int.reduceLE, Int.reduceNe, Int.reduceEq, aBuildSlice, fillB, aAppend, appendB, viewB, Ax.look, Ax.put, Ax.drop, List.drop, List.take, List.set_cons_zero, List.set_cons_succ, asv, aMake, aSlice, bnd, bnds, full3, cut, aFieldAddr, aField, aLoad, aStore, setB, aBox, aBuild, fillS, allTy, AV.leaves, AV.okv, AV.leaf, one, splice, elemLeaves, Blk.size, Blk.len, List.replicate_succ, List.replicate_zero, Option.isSome, Option.isNone, isBytes, aStr, aNil, aAlloc, aExtract, aConv, viewI, Nat.reduceEqDiff, Nat.reduceLT, List.length_append, List.length_cons, List.length_nil, Nat.zero_add, Nat.add_zero, Nat.reduceBEq, List.contains, List.elem, Bool.not_true, Bool.not_false, Bool.true_and, Bool.and_true, Bool.and_false, Bool.false_and, Blk.closed, closedL, AV.closed, Blk.noimm, not_true_eq_false, not_false_iff, or_false, or_true, false_or, true_or, Int.toNat_natCast, List.length_replicate, setB, ↓gsplit_tt, ↓gsplit_ff, ↓gsplit_tf, ↓gsplit_ft, gsplit_bt, gsplit_bf, ↓csplit_t, ↓csplit_f, csplit_b, Ax.idx, beq_self_eq_true, BEq.rfl, pinsOf, List.mem_cons, List.not_mem_nil, AV.lentIds, lentIdsL, dropAll, givenUp, AV.clean, cleanL, Blk.clean, cleanB, quietC, flatTy, List.all_cons, List.all_nil, Bool.or_false, Bool.or_true, Bool.true_or, Bool.false_or, decide_true, decide_false, ty, S17, zzS, zgS, putS, fixS, unfS, newS, numS, rfixS, rtextS', doneS, textS, rd, aw1, aw2, aw3, aw4, aw5, aw6, aw7, aw8, aw9, aw10, aw11, aw12, aw13, aw14, aw15, aw16, List.take_length, decide_true, decide_false]
    have h3 : (clampI 3).toNat = 3 := by decide
    rw [h3]
    decide
  · exact hp.elim
end
end Go.Proofs.Ytfkedhcmkogkgaa
