/- Layer 3: what every right program lays of one record. -/
import Derived.Test.YtbmkmjlmboppeaaR3
namespace Go.Proofs.Ytbmkmjlmboppeaa
open Ax
set_option linter.unusedSimpArgs false
set_option linter.unusedVariables false

def Saw3 (f : FuncId) : Option FSpec :=
  match f with
  | 12 => some rputS
  | 19 => some rgetS
  | 15 => some rsizeS
  | 16 => some rsameS
  | 18 => some newS
  | _ => none
theorem Saw3_ok : Fns Try.prog Saw3 := by
  intro f s h
  unfold Saw3 at h
  split at h
  · injection h with h; subst h; exact ⟨⟨_, Try.func12, by kernel_rfl, by kernel_rfl⟩, recput_sound⟩
  · injection h with h; subst h; exact ⟨⟨_, Try.func19, by kernel_rfl, by kernel_rfl⟩, recget_sound⟩
  · injection h with h; subst h; exact ⟨⟨_, Try.func15, by kernel_rfl, by kernel_rfl⟩, rsize_sound⟩
  · injection h with h; subst h; exact ⟨⟨_, Try.func16, by kernel_rfl, by kernel_rfl⟩, rsame_sound⟩
  · injection h with h; subst h; exact ⟨⟨_, Try.func18, by kernel_rfl, by kernel_rfl⟩, new_sound⟩
  · cases h
theorem w1 : rchk 1 5 true [107] false [118] = 0 := by decide
theorem w2 : rchk 1 5 true [107] true [] = 0 := by decide
theorem w3 : recB 1 5 true [107] false [118] = [1, 2, 10, 2, 107, 2, 118] := by
  simp [recB, w1, recL, flagI, textL, putU, zz]
theorem w4 : recB 1 5 true [107] true [] = [3, 2, 10, 2, 107] := by
  simp [recB, w2, recL, flagI, textL, putU, zz]
theorem w5 : gerr [1, 2, 10, 2, 107, 2, 118] 0 = 0 := by decide +kernel
theorem w6 : gd [1, 2, 10, 2, 107, 2, 118] 0 = 1 := by decide +kernel
theorem w7 : gt [1, 2, 10, 2, 107, 2, 118] 0 = 5 := by decide +kernel
theorem w8 : gk [1, 2, 10, 2, 107, 2, 118] 0 = true := by decide +kernel
theorem w9 : gdd [1, 2, 10, 2, 107, 2, 118] 0 = false := by decide +kernel
theorem w10 : gkey [1, 2, 10, 2, 107, 2, 118] 0 = [107] := by decide +kernel
theorem w11 : gval [1, 2, 10, 2, 107, 2, 118] 0 = [118] := by decide +kernel
theorem w12 : grec [1, 2, 10, 2, 107, 2, 118] 0 = recV 1 5 true [107] false [118] := by
  unfold grec; rw [if_pos w5, w6, w7, w8, w9, w10, w11]
theorem w13 : sameB 1 5 true [107] false [118] 1 5 true [107] false [118] = true := by decide
theorem w14 : sameB 1 5 true [107] false [118] 1 5 true [107] true [] = false := by decide

section
set_option maxRecDepth 100000
set_option maxHeartbeats 1000000 in
theorem awake3_sound : Sound Try.prog 11 yesS := by
  refine fn_sound (S := Saw3) (T := ty) mixed ty_ok Saw3_ok Try.func11 (c := Try.f11.body.getD .skip) (by kernel_rfl) (by kernel_rfl) (fun xs pins hp _ => ?_)
  unfold yesS at hp ⊢
  split at hp
  · refine ⟨by simp, ?_⟩
    unfold Try.f11
    simp -implicitDefEqProofs only [Option.getD, awp_skip, awp_label, awp_ret, awp_exit, awp_region, awp_seq, awp_block, awp_cond, aops_nil, aops_plain, aops_guard, later_normal, later_exit, later_ret, blockK_normal, blockK_exit, blockK_ret, regK_apply, aop, aLen, ev, slot, setSlot, putSlot, cv, cvl, aConv, aBin, aInt, aUn, aEq, Out.and, isBool, isPtr, true_and, and_true, List.length, IntKind.bits, evs, evo, evps, aCall, aUser, coes, coe, List.append, List.replicate, callOut, rootsL, AV.roots, lendsL, AV.lends, pinsOf, nodup, lendL, lend, closedB, noimmB, AV.noimm, AV.ren, renL, back, Nat.reduceAdd, Nat.reduceSub, Nat.reduceMul, Int.reduceToNat, Nat.le_refl, reduceCtorEq, false_implies, implies_true, List.nil_append, List.append_nil, List.cons_append, Nat.zero_le, Bool.false_eq_true, aLoad, subv, aIndexAddr, aIndex, TD.aggr, cond_false, cond_true, guardSlot, List.getElem?_cons_succ, List.getElem?_cons_zero, aPick, byte, word, aMin, aMax, Ax.Ends, EndsX, Ax.rvals, rone, AV.ids, idsL, newIds, upTo, pinHeap, gOf, ↓reduceIte, forall_const, List.isEmpty, ne_eq, not_false_eq_true, and_self, true_implies, AV.w.injEq, Value.int.injEq, Value.bool.injEq, IntKind.wrap_u8, IntKind.wrap_u64, IntKind.wrap_i64, Int.reducePow, Nat.reducePow, Nat.min_def, Int.reduceMod, Nat.reduceLeDiff, Int.reduceLE, Int.reduceNe, Int.reduceEq, aBuildSlice, fillB, aAppend, appendB, viewB, Ax.look, Ax.put, Ax.drop, List.drop, List.take, List.set_cons_zero, List.set_cons_succ, asv, aMake, aSlice, bnd, bnds, full3, cut, aFieldAddr, aField, aLoad, aStore, setB, aBox, aBuild, fillS, allTy, AV.leaves, AV.okv, AV.leaf, one, splice, elemLeaves, Blk.size, Blk.len, List.replicate_succ, List.replicate_zero, Option.isSome, Option.isNone, isBytes, aStr, aNil, aAlloc, aExtract, aConv, viewI, Nat.reduceEqDiff, Nat.reduceLT, List.length_append, List.length_cons, List.length_nil, Nat.zero_add, Nat.add_zero, Nat.reduceBEq, List.contains, List.elem, Bool.not_true, Bool.not_false, Bool.true_and, Bool.and_true, Bool.and_false, Bool.false_and, Blk.closed, closedL, AV.closed, Blk.noimm, not_true_eq_false, not_false_iff, or_false, or_true, false_or, true_or, Int.toNat_natCast, List.length_replicate, setB, ↓gsplit_tt, ↓gsplit_ff, ↓gsplit_tf, ↓gsplit_ft, gsplit_bt, gsplit_bf, ↓csplit_t, ↓csplit_f, csplit_b, Ax.idx, beq_self_eq_true, BEq.rfl, pinsOf, List.mem_cons, List.not_mem_nil, AV.lentIds, lentIdsL, dropAll, givenUp, AV.clean, cleanL, Blk.clean, cleanB, quietC, flatTy, List.all_cons, List.all_nil, Bool.or_false, Bool.or_true, Bool.true_or, Bool.false_or, decide_true, decide_false, coldStr, notMs, eqV, eqF, isStruct, ty, Saw3, rputS, rgetS, rsizeS, rsameS, newS, w1, w2, w3, w4, w5, w12, w13, w14, recV, rd, fillS]
    decide
  · exact hp.elim
end
end Go.Proofs.Ytbmkmjlmboppeaa
