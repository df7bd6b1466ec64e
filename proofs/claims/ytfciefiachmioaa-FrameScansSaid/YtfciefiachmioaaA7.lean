/- Layer 1: the document's own reading of a number of a set width. -/
import Derived.Test.YtfciefiachmioaaA5
namespace Go.Proofs.Ytfciefiachmioaa
open Ax
set_option linter.unusedSimpArgs false
set_option linter.unusedVariables false
section
set_option maxRecDepth 100000
theorem runfixed_sound : Sound Try.prog 60 unfS := by
  refine fn_sound (S := noS) (T := ty) mixed ty_ok noS_ok Try.func60 (c := Try.f60.body.getD .skip) (by kernel_rfl) (by kernel_rfl) (fun xs pins hp _ => ?_)
  unfold unfS at hp ⊢
  split at hp
  · rename_i bs f _
    have hp : bs.length ≤ 1000000 := hp
    refine ⟨by simp, ?_⟩
    have hl8 := last8_length bs
    have hll : (last8 bs).length = bs.length - (bs.length - 8) := by unfold last8; simp
    have em : (if (bs.length - 8 + 9223372036854775808 : Int) % 18446744073709551616 - 9223372036854775808 > 0 then (bs.length - 8 + 9223372036854775808 : Int) % 18446744073709551616 - 9223372036854775808 else 0) = ((bs.length - 8 : Nat) : Int) := by
      split <;> omega
    unfold Try.f60
    simp -implicitDefEqProofs only [Option.getD, awp_skip, awp_label, awp_ret, awp_exit, awp_region, awp_seq, awp_block, awp_cond, aops_nil, aops_plain, aops_guard, later_normal, later_exit, later_ret, blockK_normal, blockK_exit, blockK_ret, regK_apply, aop, aLen, ev, slot, setSlot, putSlot, cv, cvl, aConv, aBin, aInt, aUn, aEq, Out.and, isBool, isPtr, true_and, and_true, List.length, IntKind.bits, evs, evo, evps, aCall, aUser, coes, coe, List.append, List.replicate, callOut, rootsL, AV.roots, lendsL, AV.lends, pinsOf, nodup, lendL, lend, closedB, noimmB, AV.noimm, AV.ren, renL, back, Nat.reduceAdd, Nat.reduceSub, Nat.reduceMul, Int.reduceToNat, Nat.le_refl, reduceCtorEq, false_implies, implies_true, List.nil_append, List.append_nil, List.cons_append, Nat.zero_le, Bool.false_eq_true, aLoad, subv, aIndexAddr, aIndex, TD.aggr, cond_false, cond_true, guardSlot, List.getElem?_cons_succ, List.getElem?_cons_zero, aPick, byte, word, aMin, aMax, Ax.Ends, EndsX, Ax.rvals, rone, AV.ids, idsL, newIds, upTo, pinHeap, gOf, ↓reduceIte, forall_const, List.isEmpty, ne_eq, not_false_eq_true, and_self, true_implies, AV.w.injEq, Value.int.injEq, Value.bool.injEq, IntKind.wrap_u8, IntKind.wrap_u64, IntKind.wrap_i64, Int.reducePow, Nat.reducePow, Nat.min_def, Int.reduceMod, Nat.reduceLeDiff, Int.reduceLE, Int.reduceNe, Int.reduceEq, aBuildSlice, fillB, aAppend, appendB, viewB, Ax.look, Ax.put, Ax.drop, List.drop, List.take, List.set_cons_zero, List.set_cons_succ, asv, aMake, aCopy, srcB, fillG, viewG, appendG, appendI, fillI, aSlice, bnd, bnds, full3, cut, aFieldAddr, aField, aLoad, aStore, setB, aBox, aBuild, fillS, allTy, AV.leaves, AV.okv, AV.leaf, one, splice, elemLeaves, Blk.size, Blk.len, List.replicate_succ, List.replicate_zero, Option.isSome, Option.isNone, isBytes, aStr, aNil, aAlloc, aExtract, aConv, viewI, Nat.reduceEqDiff, Nat.reduceLT, List.length_append, List.length_cons, List.length_nil, Nat.zero_add, Nat.add_zero, Nat.reduceBEq, List.contains, List.elem, Bool.not_true, Bool.not_false, Bool.true_and, Bool.and_true, Bool.and_false, Bool.false_and, Blk.closed, closedL, AV.closed, Blk.noimm, not_true_eq_false, not_false_iff, or_false, or_true, false_or, true_or, Int.toNat_natCast, List.length_replicate, setB, ↓gsplit_tt, ↓gsplit_ff, ↓gsplit_tf, ↓gsplit_ft, gsplit_bt, gsplit_bf, ↓csplit_t, ↓csplit_f, csplit_b, Ax.idx, beq_self_eq_true, BEq.rfl, pinsOf, List.mem_cons, List.not_mem_nil, AV.lentIds, lentIdsL, dropAll, givenUp, AV.clean, cleanL, Blk.clean, cleanB, quietC, flatTy, List.all_cons, List.all_nil, Bool.or_false, Bool.or_true, Bool.true_or, Bool.false_or, decide_true, decide_false, coldStr, notMs, eqV, eqF, isStruct, ty, noS, em]
    refine awp_loop ⟨fun m σ => ∃ (i X : Nat), m = (last8 bs).length - i ∧ i ≤ (last8 bs).length ∧ X < 256 ^ i ∧ unfL ((last8 bs).drop i) X = unfL (last8 bs) 0 ∧
      σ = ⟨[.sb bs f, .junk, .junk, .w (.int .u64 X), .w (.int .i64 ((bs.length - 8 + i : Nat) : Int)), .junk, .junk, .junk, .junk, .junk, .junk, .junk, .junk, .junk, .junk, .junk, .junk, .junk, .junk, .junk, .junk, .junk, .junk, .junk], [], 4⟩, ?_, ?_⟩
    · refine ⟨_, _, weak_ren [0, 1, 2, 3] rfl rfl rfl ?_ ?_, 0, 0, rfl, by omega, by simp, rfl, rfl⟩
      · simp only [SameS, SameH, setSlot, gOf, AV.ren, renL, Blk.ren, Ax.look, Ax.put, reduceCtorEq, true_or, false_or, or_true, or_false, and_true, true_and, AV.w.injEq, Value.int.injEq, Value.bool.injEq, AV.ms.injEq, AV.sb.injEq, AV.str.injEq, ↓reduceIte, Nat.reduceEqDiff, Nat.reduceLT, List.length_append, List.length_cons, List.length_nil, Nat.zero_add, Nat.add_zero, Option.some.injEq, Blk.b.injEq, Blk.i.injEq, Nat.succ_ne_zero, Nat.reduceAdd, and_self]; simp
      · simp only [SameS, SameH, setSlot, gOf, AV.ren, renL, Blk.ren, Ax.look, Ax.put, reduceCtorEq, true_or, false_or, or_true, or_false, and_true, true_and, AV.w.injEq, Value.int.injEq, Value.bool.injEq, AV.ms.injEq, AV.sb.injEq, AV.str.injEq, ↓reduceIte, Nat.reduceEqDiff, Nat.reduceLT, List.length_append, List.length_cons, List.length_nil, Nat.zero_add, Nat.add_zero, Option.some.injEq, Blk.b.injEq, Blk.i.injEq, Nat.succ_ne_zero, Nat.reduceAdd, and_self]
    · rintro m σ ⟨i, X, rfl, hi, hX, hu, rfl⟩
      obtain ⟨k, hk⟩ : ∃ k, bs.length - 8 + i = k := ⟨_, rfl⟩
      rw [hk]
      simp -implicitDefEqProofs only [Option.getD, awp_skip, awp_label, awp_ret, awp_exit, awp_region, awp_seq, awp_block, awp_cond, aops_nil, aops_plain, aops_guard, later_normal, later_exit, later_ret, blockK_normal, blockK_exit, blockK_ret, regK_apply, aop, aLen, ev, slot, setSlot, putSlot, cv, cvl, aConv, aBin, aInt, aUn, aEq, Out.and, isBool, isPtr, true_and, and_true, List.length, IntKind.bits, evs, evo, evps, aCall, aUser, coes, coe, List.append, List.replicate, callOut, rootsL, AV.roots, lendsL, AV.lends, pinsOf, nodup, lendL, lend, closedB, noimmB, AV.noimm, AV.ren, renL, back, Nat.reduceAdd, Nat.reduceSub, Nat.reduceMul, Int.reduceToNat, Nat.le_refl, reduceCtorEq, false_implies, implies_true, List.nil_append, List.append_nil, List.cons_append, Nat.zero_le, Bool.false_eq_true, aLoad, subv, aIndexAddr, aIndex, TD.aggr, cond_false, cond_true, guardSlot, List.getElem?_cons_succ, List.getElem?_cons_zero, aPick, byte, word, aMin, aMax, Ax.Ends, EndsX, Ax.rvals, rone, AV.ids, idsL, newIds, upTo, pinHeap, gOf, ↓reduceIte, forall_const, List.isEmpty, ne_eq, not_false_eq_true, and_self, true_implies, AV.w.injEq, Value.int.injEq, Value.bool.injEq, IntKind.wrap_u8, IntKind.wrap_u64, IntKind.wrap_i64, Int.reducePow, Nat.reducePow, Nat.min_def, Int.reduceMod, Nat.reduceLeDiff, Int.reduceLE, Int.reduceNe, Int.reduceEq, aBuildSlice, fillB, aAppend, appendB, viewB, Ax.look, Ax.put, Ax.drop, List.drop, List.take, List.set_cons_zero, List.set_cons_succ, asv, aMake, aCopy, srcB, fillG, viewG, appendG, appendI, fillI, aSlice, bnd, bnds, full3, cut, aFieldAddr, aField, aLoad, aStore, setB, aBox, aBuild, fillS, allTy, AV.leaves, AV.okv, AV.leaf, one, splice, elemLeaves, Blk.size, Blk.len, List.replicate_succ, List.replicate_zero, Option.isSome, Option.isNone, isBytes, aStr, aNil, aAlloc, aExtract, aConv, viewI, Nat.reduceEqDiff, Nat.reduceLT, List.length_append, List.length_cons, List.length_nil, Nat.zero_add, Nat.add_zero, Nat.reduceBEq, List.contains, List.elem, Bool.not_true, Bool.not_false, Bool.true_and, Bool.and_true, Bool.and_false, Bool.false_and, Blk.closed, closedL, AV.closed, Blk.noimm, not_true_eq_false, not_false_iff, or_false, or_true, false_or, true_or, Int.toNat_natCast, List.length_replicate, setB, ↓gsplit_tt, ↓gsplit_ff, ↓gsplit_tf, ↓gsplit_ft, gsplit_bt, gsplit_bf, ↓csplit_t, ↓csplit_f, csplit_b, Ax.idx, beq_self_eq_true, BEq.rfl, pinsOf, List.mem_cons, List.not_mem_nil, AV.lentIds, lentIdsL, dropAll, givenUp, AV.clean, cleanL, Blk.clean, cleanB, quietC, flatTy, List.all_cons, List.all_nil, Bool.or_false, Bool.or_true, Bool.true_or, Bool.false_or, decide_true, decide_false, coldStr, notMs, eqV, eqF, isStruct, ty, noS, decide_eq_true_eq, decide_eq_false_iff_not]
      refine ⟨fun hc => ?_, fun hc => ?_⟩
      · have hil : i < (last8 bs).length := by omega
        have h7 : (256 : Nat) ^ i ≤ 256 ^ 7 := Nat.pow_le_pow_right (by decide) (by omega)
        have h7' : (256 : Nat) ^ 7 = 72057594037927936 := by simp
        have hb := (last8 bs)[i].toNat_lt
        rw [List.drop_eq_getElem_cons hil] at hu
        have eg : bs.getD k 0 = (last8 bs)[i] := by
          have : (last8 bs)[i] = bs[k]'(by omega) := by simp [last8, hk]
          rw [this]; simp [show k < bs.length by omega]
        simp only [eg]
        refine ⟨⟨by omega, by omega⟩, (last8 bs).length - (i + 1), _, by omega, weak_ren [0, 1, 2, 3] rfl rfl rfl ?_ ?_, i + 1, X * 256 + (last8 bs)[i].toNat, rfl, by omega, ?_, hu, rfl⟩
        · simp only [SameS, SameH, setSlot, gOf, AV.ren, renL, Blk.ren, Ax.look, Ax.put, reduceCtorEq, true_or, false_or, or_true, or_false, and_true, true_and, AV.w.injEq, Value.int.injEq, Value.bool.injEq, AV.ms.injEq, AV.sb.injEq, AV.str.injEq, ↓reduceIte, Nat.reduceEqDiff, Nat.reduceLT, List.length_append, List.length_cons, List.length_nil, Nat.zero_add, Nat.add_zero, Option.some.injEq, Blk.b.injEq, Blk.i.injEq, Nat.succ_ne_zero, Nat.reduceAdd, and_self]; omega
        · simp only [SameS, SameH, setSlot, gOf, AV.ren, renL, Blk.ren, Ax.look, Ax.put, reduceCtorEq, true_or, false_or, or_true, or_false, and_true, true_and, AV.w.injEq, Value.int.injEq, Value.bool.injEq, AV.ms.injEq, AV.sb.injEq, AV.str.injEq, ↓reduceIte, Nat.reduceEqDiff, Nat.reduceLT, List.length_append, List.length_cons, List.length_nil, Nat.zero_add, Nat.add_zero, Option.some.injEq, Blk.b.injEq, Blk.i.injEq, Nat.succ_ne_zero, Nat.reduceAdd, and_self]
        · rw [Nat.pow_succ]; omega
      · have hil : i = (last8 bs).length := by omega
        subst hil
        rw [List.drop_length] at hu
        simp only [unfL, List.foldl_nil] at hu ⊢
        rw [← hu]
  · exact hp.elim
end
end Go.Proofs.Ytfciefiachmioaa
