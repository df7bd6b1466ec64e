/- Layer 1: the laws. -/
import Derived.Test.YtfkedhcmkogkgaaA6
import Derived.Test.YtfkedhcmkogkgaaA7
import Derived.Test.YtfkedhcmkogkgaaAy
namespace Go.Proofs.Ytfkedhcmkogkgaa
open Ax
set_option linter.unusedSimpArgs false
set_option linter.unusedVariables false

def zigsS : FSpec
  | [.w (.int k n), .w (.int k' u)], [] => ⟨k = .i64 ∧ k' = .u64 ∧ (-9223372036854775808 ≤ n ∧ n ≤ 9223372036854775807) ∧ 0 ≤ u ∧ u < 18446744073709551616, .w (.bool true), []⟩
  | _, _ => noRes
def S3 (f : FuncId) : Option FSpec :=
  match f with
  | 13 => some zzS
  | 14 => some zzS
  | 15 => some zgS
  | 16 => some zgS
  | 17 => some yesS
  | _ => none
theorem S3_ok : Fns Try.prog S3 := by
  intro f s h
  unfold S3 at h
  split at h
  · injection h with h; subst h; exact ⟨⟨_, Try.func13, by kernel_rfl, by kernel_rfl⟩, zig_sound⟩
  · injection h with h; subst h; exact ⟨⟨_, Try.func14, by kernel_rfl, by kernel_rfl⟩, rzig_sound⟩
  · injection h with h; subst h; exact ⟨⟨_, Try.func15, by kernel_rfl, by kernel_rfl⟩, zag_sound⟩
  · injection h with h; subst h; exact ⟨⟨_, Try.func16, by kernel_rfl, by kernel_rfl⟩, rzag_sound⟩
  · injection h with h; subst h; exact ⟨⟨_, Try.func17, by kernel_rfl, by kernel_rfl⟩, awake_sound⟩
  · cases h

section
set_option maxRecDepth 100000
theorem zigs_law : Sound Try.prog 3 zigsS := by
  refine fn_sound (S := S3) (T := ty) mixed ty_ok S3_ok Try.func3 (c := Try.f3.body.getD .skip) (by kernel_rfl) (by kernel_rfl) (fun xs pins hp _ => ?_)
  unfold zigsS at hp ⊢
  split at hp
  · rename_i k n k' u _
    obtain ⟨rfl, rfl, ⟨h1, h2⟩, h3, h4⟩ := hp
    refine ⟨by simp, ?_⟩
    unfold Try.f3
    simp -implicitDefEqProofs only [Option.getD, awp_skip, awp_label, awp_ret, awp_exit, awp_region, awp_seq, awp_block, awp_cond, aops_nil, aops_plain, aops_guard, later_normal, later_exit, later_ret, blockK_normal, blockK_exit, blockK_ret, regK_apply, aop, aLen, ev, slot, setSlot, putSlot, cv, cvl, aConv, aBin, aInt, aUn, aEq, Out.and, isBool, isPtr, true_and, and_true, List.length, IntKind.bits, evs, evo, evps, aCall, aUser, coes, coe, List.append, List.replicate, callOut, rootsL, AV.roots, lendsL, AV.lends, pinsOf, nodup, lendL, lend, closedB, noimmB, AV.noimm, AV.ren, renL, back, Nat.reduceAdd, Nat.reduceSub, Nat.reduceMul, Int.reduceToNat, Nat.le_refl, reduceCtorEq, false_implies, implies_true, List.nil_append, List.append_nil, List.cons_append, Nat.zero_le, Bool.false_eq_true, aLoad, subv, aIndexAddr, aIndex, TD.aggr, cond_false, cond_true, guardSlot, List.getElem?_cons_succ, List.getElem?_cons_zero, aPick, byte, word, aMin, aMax, Ax.Ends, EndsX, Ax.rvals, rone, AV.ids, idsL, newIds, upTo, pinHeap, gOf, ↓reduceIte, forall_const, List.isEmpty, ne_eq, not_false_eq_true, and_self, true_implies, AV.w.injEq, Value.int.injEq, Value.bool.injEq, IntKind.wrap_u8, IntKind.wrap_u64, IntKind.wrap_i64, Int.reducePow, Nat.reducePow, Nat.min_def, Int.reduceMod, Nat.reduceLeDiff, Int.reduceLE, Int.reduceNe, Int.reduceEq, aBuildSlice, fillB, aAppend, appendB, viewB, Ax.look, Ax.put, Ax.drop, List.drop, List.take, List.set_cons_zero, List.set_cons_succ, asv, aMake, aSlice, bnd, bnds, full3, cut, aFieldAddr, aField, aLoad, aStore, setB, aBox, aBuild, fillS, allTy, AV.leaves, AV.okv, AV.leaf, one, splice, elemLeaves, Blk.size, Blk.len, List.replicate_succ, List.replicate_zero, Option.isSome, Option.isNone, isBytes, aStr, aNil, aAlloc, aExtract, aConv, viewI, Nat.reduceEqDiff, Nat.reduceLT, List.length_append, List.length_cons, List.length_nil, Nat.zero_add, Nat.add_zero, Nat.reduceBEq, List.contains, List.elem, Bool.not_true, Bool.not_false, Bool.true_and, Bool.and_true, Bool.and_false, Bool.false_and, Blk.closed, closedL, AV.closed, Blk.noimm, not_true_eq_false, not_false_iff, or_false, or_true, false_or, true_or, Int.toNat_natCast, List.length_replicate, setB, ↓gsplit_tt, ↓gsplit_ff, ↓gsplit_tf, ↓gsplit_ft, gsplit_bt, gsplit_bf, ↓csplit_t, ↓csplit_f, csplit_b, Ax.idx, beq_self_eq_true, BEq.rfl, pinsOf, List.mem_cons, List.not_mem_nil, AV.lentIds, lentIdsL, dropAll, givenUp, AV.clean, cleanL, Blk.clean, cleanB, quietC, flatTy, List.all_cons, List.all_nil, Bool.or_false, Bool.or_true, Bool.true_or, Bool.false_or, decide_true, decide_false, ty, S3, zzS, zgS, yesS, h1, h2, h3, h4, decide_true]
  · exact hp.elim
end
end Go.Proofs.Ytfkedhcmkogkgaa
