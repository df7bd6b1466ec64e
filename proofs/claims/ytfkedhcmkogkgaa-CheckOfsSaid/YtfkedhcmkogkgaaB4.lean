/- Layer 1: the law of what is got. -/
import Derived.Test.YtfkedhcmkogkgaaB3
import Derived.Test.YtfkedhcmkogkgaaA8
namespace Go.Proofs.Ytfkedhcmkogkgaa
open Ax
set_option linter.unusedSimpArgs false
set_option linter.unusedVariables false
def getsS : FSpec
  | [.sb bs f], [] => ⟨True, .w (.bool true), []⟩
  | _, _ => noRes
def S5 (f : FuncId) : Option FSpec :=
  match f with
  | 22 => some getS
  | 23 => some getS
  | 24 => some unfS
  | 25 => some unfS
  | 17 => some yesS
  | _ => none
theorem S5_ok : Fns Try.prog S5 := by
  intro f s h
  unfold S5 at h
  split at h
  · injection h with h; subst h; exact ⟨⟨_, Try.func22, by kernel_rfl, by kernel_rfl⟩, get_sound⟩
  · injection h with h; subst h; exact ⟨⟨_, Try.func23, by kernel_rfl, by kernel_rfl⟩, rget_sound⟩
  · injection h with h; subst h; exact ⟨⟨_, Try.func24, by kernel_rfl, by kernel_rfl⟩, unfixed_sound⟩
  · injection h with h; subst h; exact ⟨⟨_, Try.func25, by kernel_rfl, by kernel_rfl⟩, runfixed_sound⟩
  · injection h with h; subst h; exact ⟨⟨_, Try.func17, by kernel_rfl, by kernel_rfl⟩, awake_sound⟩
  · cases h
section
set_option maxRecDepth 100000
theorem gets_law : Sound Try.prog 5 getsS := by
  refine fn_sound (S := S5) (T := ty) mixed ty_ok S5_ok Try.func5 (c := Try.f5.body.getD .skip) (by kernel_rfl) (by kernel_rfl) (fun xs pins hp _ => ?_)
  unfold getsS at hp ⊢
  split at hp
  · rename_i bs f _
    refine ⟨by simp, ?_⟩
    unfold Try.f5
    by_cases hb : bs.length ≤ 100
    · have d1 : decide ((100 : Int) < bs.length) = false := decide_eq_false (by omega)
      have hb2 : bs.length ≤ 1000000 := by omega
      simp -implicitDefEqProofs only [Option.getD, awp_skip, awp_label, awp_ret, awp_exit, awp_region, awp_seq, awp_block, awp_cond, aops_nil, aops_plain, aops_guard, later_normal, later_exit, later_ret, blockK_normal, blockK_exit, blockK_ret, regK_apply, aop, aLen, ev, slot, setSlot, putSlot, cv, cvl, aConv, aBin, aInt, aUn, aEq, Out.and, isBool, isPtr, true_and, and_true, List.length, IntKind.bits, evs, evo, evps, aCall, aUser, coes, coe, List.append, List.replicate, callOut, rootsL, AV.roots, lendsL, AV.lends, pinsOf, nodup, lendL, lend, closedB, noimmB, AV.noimm, AV.ren, renL, back, Nat.reduceAdd, Nat.reduceSub, Nat.reduceMul, Int.reduceToNat, Nat.le_refl, reduceCtorEq, false_implies, implies_true, List.nil_append, List.append_nil, List.cons_append, Nat.zero_le, Bool.false_eq_true, aLoad, subv, aIndexAddr, aIndex, TD.aggr, cond_false, cond_true, guardSlot, List.getElem?_cons_succ, List.getElem?_cons_zero, aPick, byte, word, aMin, aMax, Ax.Ends, EndsX, Ax.rvals, rone, AV.ids, idsL, newIds, upTo, pinHeap, gOf, ↓reduceIte, forall_const, List.isEmpty, ne_eq, not_false_eq_true, and_self, true_implies, AV.w.injEq, Value.int.injEq, Value.bool.injEq, IntKind.wrap_u8, IntKind.wrap_u64, IntKind.wrap_i64, Int.reducePow, Nat.reducePow, Nat.min_def, Int.reduceMod, Nat.reduceLeDiff, Int.reduceLE, Int.reduceNe, Int.reduceEq, aBuildSlice, fillB, aAppend, appendB, viewB, Ax.look, Ax.put, Ax.drop, List.drop, List.take, List.set_cons_zero, List.set_cons_succ, asv, aMake, aSlice, bnd, bnds, full3, cut, aFieldAddr, aField, aLoad, aStore, setB, aBox, aBuild, fillS, allTy, AV.leaves, AV.okv, AV.leaf, one, splice, elemLeaves, Blk.size, Blk.len, List.replicate_succ, List.replicate_zero, Option.isSome, Option.isNone, isBytes, aStr, aNil, aAlloc, aExtract, aConv, viewI, Nat.reduceEqDiff, Nat.reduceLT, List.length_append, List.length_cons, List.length_nil, Nat.zero_add, Nat.add_zero, Nat.reduceBEq, List.contains, List.elem, Bool.not_true, Bool.not_false, Bool.true_and, Bool.and_true, Bool.and_false, Bool.false_and, Blk.closed, closedL, AV.closed, Blk.noimm, not_true_eq_false, not_false_iff, or_false, or_true, false_or, true_or, Int.toNat_natCast, List.length_replicate, setB, ↓gsplit_tt, ↓gsplit_ff, ↓gsplit_tf, ↓gsplit_ft, gsplit_bt, gsplit_bf, ↓csplit_t, ↓csplit_f, csplit_b, Ax.idx, beq_self_eq_true, BEq.rfl, pinsOf, List.mem_cons, List.not_mem_nil, AV.lentIds, lentIdsL, dropAll, givenUp, AV.clean, cleanL, Blk.clean, cleanB, quietC, flatTy, List.all_cons, List.all_nil, Bool.or_false, Bool.or_true, Bool.true_or, Bool.false_or, decide_true, decide_false, ty, S5, getS, unfS, yesS, d1, hb2, decide_true]
    · have d1 : decide ((100 : Int) < bs.length) = true := decide_eq_true (by omega)
      simp -implicitDefEqProofs only [Option.getD, awp_skip, awp_label, awp_ret, awp_exit, awp_region, awp_seq, awp_block, awp_cond, aops_nil, aops_plain, aops_guard, later_normal, later_exit, later_ret, blockK_normal, blockK_exit, blockK_ret, regK_apply, aop, aLen, ev, slot, setSlot, putSlot, cv, cvl, aConv, aBin, aInt, aUn, aEq, Out.and, isBool, isPtr, true_and, and_true, List.length, IntKind.bits, evs, evo, evps, aCall, aUser, coes, coe, List.append, List.replicate, callOut, rootsL, AV.roots, lendsL, AV.lends, pinsOf, nodup, lendL, lend, closedB, noimmB, AV.noimm, AV.ren, renL, back, Nat.reduceAdd, Nat.reduceSub, Nat.reduceMul, Int.reduceToNat, Nat.le_refl, reduceCtorEq, false_implies, implies_true, List.nil_append, List.append_nil, List.cons_append, Nat.zero_le, Bool.false_eq_true, aLoad, subv, aIndexAddr, aIndex, TD.aggr, cond_false, cond_true, guardSlot, List.getElem?_cons_succ, List.getElem?_cons_zero, aPick, byte, word, aMin, aMax, Ax.Ends, EndsX, Ax.rvals, rone, AV.ids, idsL, newIds, upTo, pinHeap, gOf, ↓reduceIte, forall_const, List.isEmpty, ne_eq, not_false_eq_true, and_self, true_implies, AV.w.injEq, Value.int.injEq, Value.bool.injEq, IntKind.wrap_u8, IntKind.wrap_u64, IntKind.wrap_i64, Int.reducePow, Nat.reducePow, Nat.min_def, Int.reduceMod, Nat.reduceLeDiff, Int.reduceLE, Int.reduceNe, Int.reduceEq, aBuildSlice, fillB, aAppend, appendB, viewB, Ax.look, Ax.put, Ax.drop, List.drop, List.take, List.set_cons_zero, List.set_cons_succ, asv, aMake, aSlice, bnd, bnds, full3, cut, aFieldAddr, aField, aLoad, aStore, setB, aBox, aBuild, fillS, allTy, AV.leaves, AV.okv, AV.leaf, one, splice, elemLeaves, Blk.size, Blk.len, List.replicate_succ, List.replicate_zero, Option.isSome, Option.isNone, isBytes, aStr, aNil, aAlloc, aExtract, aConv, viewI, Nat.reduceEqDiff, Nat.reduceLT, List.length_append, List.length_cons, List.length_nil, Nat.zero_add, Nat.add_zero, Nat.reduceBEq, List.contains, List.elem, Bool.not_true, Bool.not_false, Bool.true_and, Bool.and_true, Bool.and_false, Bool.false_and, Blk.closed, closedL, AV.closed, Blk.noimm, not_true_eq_false, not_false_iff, or_false, or_true, false_or, true_or, Int.toNat_natCast, List.length_replicate, setB, ↓gsplit_tt, ↓gsplit_ff, ↓gsplit_tf, ↓gsplit_ft, gsplit_bt, gsplit_bf, ↓csplit_t, ↓csplit_f, csplit_b, Ax.idx, beq_self_eq_true, BEq.rfl, pinsOf, List.mem_cons, List.not_mem_nil, AV.lentIds, lentIdsL, dropAll, givenUp, AV.clean, cleanL, Blk.clean, cleanB, quietC, flatTy, List.all_cons, List.all_nil, Bool.or_false, Bool.or_true, Bool.true_or, Bool.false_or, decide_true, decide_false, ty, S5, yesS, d1]
  · exact hp.elim
end
end Go.Proofs.Ytfkedhcmkogkgaa
