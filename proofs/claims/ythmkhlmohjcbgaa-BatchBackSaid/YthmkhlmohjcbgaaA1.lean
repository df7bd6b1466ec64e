/- Layer 1: zigzag. -/
import Derived.Test.YthmkhlmohjcbgaaAu
namespace Go.Proofs.Ythmkhlmohjcbgaa
open Ax
set_option linter.unusedSimpArgs false
set_option linter.unusedVariables false

def zz (n : Int) : Int := if 0 ≤ n then 2 * n else -2 * n - 1
def zzS : FSpec
  | [.w (.int k n)], [] => ⟨k = .i64 ∧ -9223372036854775808 ≤ n ∧ n ≤ 9223372036854775807, .w (.int .u64 (zz n)), []⟩
  | _, _ => noRes
def zg (n : Int) : Int := if n % 2 = 0 then n / 2 else -(n / 2) - 1
def zgS : FSpec
  | [.w (.int k n)], [] => ⟨k = .u64 ∧ 0 ≤ n ∧ n < 18446744073709551616, .w (.int .i64 (zg n)), []⟩
  | _, _ => noRes

theorem xor_u64_zero (x : Int) (h : 0 ≤ x) (h' : x < 18446744073709551616) : bits .xor .u64 x 0 = x := by
  show IntKind.u64.wrap ((BitVec.ofInt 64 x ^^^ BitVec.ofInt 64 0).toNat : Int) = _
  rw [show BitVec.ofInt 64 0 = 0#64 from rfl, BitVec.xor_zero, BitVec.toNat_ofInt, IntKind.wrap_u64]
  omega
theorem xor_u64_ones (x : Int) (h : 0 ≤ x) (h' : x < 18446744073709551616) : bits .xor .u64 x 18446744073709551615 = 18446744073709551615 - x := by
  show IntKind.u64.wrap ((BitVec.ofInt 64 x ^^^ BitVec.ofInt 64 18446744073709551615).toNat : Int) = _
  rw [show BitVec.ofInt 64 18446744073709551615 = BitVec.allOnes 64 from by decide, BitVec.xor_allOnes, BitVec.toNat_not, BitVec.toNat_ofInt, IntKind.wrap_u64]
  omega
theorem xor_i64_zero (x : Int) (h : -9223372036854775808 ≤ x) (h' : x ≤ 9223372036854775807) : bits .xor .i64 x 0 = x := by
  show IntKind.i64.wrap ((BitVec.ofInt 64 x ^^^ BitVec.ofInt 64 0).toNat : Int) = _
  rw [show BitVec.ofInt 64 0 = 0#64 from rfl, BitVec.xor_zero, BitVec.toNat_ofInt, IntKind.wrap_i64]
  omega
theorem xor_i64_ones (x : Int) (h : -9223372036854775808 ≤ x) (h' : x ≤ 9223372036854775807) : bits .xor .i64 x (-1) = -x - 1 := by
  show IntKind.i64.wrap ((BitVec.ofInt 64 x ^^^ BitVec.ofInt 64 (-1)).toNat : Int) = _
  rw [show BitVec.ofInt 64 (-1) = BitVec.allOnes 64 from by decide, BitVec.xor_allOnes, BitVec.toNat_not, BitVec.toNat_ofInt, IntKind.wrap_i64]
  omega
theorem and_u64_one (x : Int) (h : 0 ≤ x) (h' : x < 18446744073709551616) : bits .and .u64 x 1 = x % 2 := by
  rw [u64_and x 1 h h' (by omega) (by omega), show (1 : Int).toNat = 2 ^ 1 - 1 from rfl, Nat.and_two_pow_sub_one_eq_mod]
  omega

section
set_option maxRecDepth 100000
theorem zig_sound : Sound Try.prog 60 zzS := by
  refine fn_sound (S := noS) (T := ty) mixed ty_ok noS_ok Try.func60 (c := Try.f60.body.getD .skip) (by kernel_rfl) (by kernel_rfl) (fun xs pins hp _ => ?_)
  unfold zzS at hp ⊢
  split at hp
  · rename_i n _
    obtain ⟨rfl, h1, h2⟩ := hp
    refine ⟨by decide, ?_⟩
    unfold Try.f60
    simp only [Option.getD, awp_skip, awp_label, awp_ret, awp_exit, awp_region, awp_seq, awp_block, awp_cond, aops_nil, aops_plain, aops_guard, later_normal, later_exit, later_ret, blockK_normal, blockK_exit, blockK_ret, regK_apply, aop, aLen, ev, slot, setSlot, putSlot, cv, cvl, aConv, aBin, aInt, aUn, aFn, aEq, Out.and, isBool, isPtr, true_and, and_true, List.length, IntKind.bits, evs, evo, evps, aCall, aUser, coes, coe, List.append, List.replicate, callOut, rootsL, AV.roots, lendsL, AV.lends, pinsOf, nodup, lendL, lend, closedB, noimmB, AV.noimm, AV.ren, renL, back, Nat.reduceAdd, Nat.reduceSub, Nat.reduceMul, Int.reduceToNat, Nat.le_refl, reduceCtorEq, false_implies, implies_true, List.nil_append, List.append_nil, List.cons_append, Nat.zero_le, Bool.false_eq_true, aLoad, subv, aIndexAddr, aIndex, TD.aggr, cond_false, cond_true, guardSlot, List.getElem?_cons_succ, List.getElem?_cons_zero, aPick, byte, word, aMin, aMax, Ax.Ends, EndsX, Ax.rvals, rone, AV.ids, idsL, newIds, upTo, pinHeap, gOf, ↓reduceIte, forall_const, List.isEmpty, ne_eq, not_false_eq_true, and_self, true_implies, AV.w.injEq, Value.int.injEq, Value.bool.injEq, IntKind.wrap_u8, IntKind.wrap_u64, IntKind.wrap_i64, Int.reducePow, Nat.reducePow, Nat.min_def, Int.reduceMod, Nat.reduceLeDiff, Int.reduceLE, Int.reduceNe, Int.reduceEq, aBuildSlice, fillB, aAppend, appendB, viewB, Ax.look, Ax.put, Ax.drop, List.drop, List.take, List.set_cons_zero, List.set_cons_succ, asv, aMake, aCopy, srcB, fillG, viewG, appendG, appendI, fillI, aSlice, bnd, bnds, full3, cut, aFieldAddr, aField, aLoad, aStore, setB, aBox, aBuild, fillS, allTy, AV.leaves, AV.okv, AV.leaf, one, splice, elemLeaves, Blk.size, Blk.len, List.replicate_succ, List.replicate_zero, Option.isSome, Option.isNone, isBytes, aStr, aNil, aAlloc, aExtract, aConv, viewI, Nat.reduceEqDiff, Nat.reduceLT, List.length_append, List.length_cons, List.length_nil, Nat.zero_add, Nat.add_zero, Nat.reduceBEq, List.contains, List.elem, Bool.not_true, Bool.not_false, Bool.true_and, Bool.and_true, Bool.and_false, Bool.false_and, Blk.closed, closedL, AV.closed, Blk.noimm, not_true_eq_false, not_false_iff, or_false, or_true, false_or, true_or, Int.toNat_natCast, List.length_replicate, setB, ↓gsplit_tt, ↓gsplit_ff, ↓gsplit_tf, ↓gsplit_ft, gsplit_bt, gsplit_bf, ↓csplit_t, ↓csplit_f, csplit_b, Ax.idx, beq_self_eq_true, BEq.rfl, pinsOf, List.mem_cons, List.not_mem_nil, AV.lentIds, lentIdsL, dropAll, givenUp, AV.clean, cleanL, Blk.clean, cleanB, quietC, flatTy, List.all_cons, List.all_nil, Bool.or_false, Bool.or_true, Bool.true_or, Bool.false_or, decide_true, decide_false, coldStr, notMs, eqV, eqF, isStruct, ty, noS]
    unfold zz
    rcases Int.lt_or_le n 0 with h | h
    · rw [if_neg (by omega), show n / 9223372036854775808 % 18446744073709551616 = 18446744073709551615 by omega, xor_u64_ones _ (by omega) (by omega)]
      omega
    · rw [if_pos h, show n / 9223372036854775808 % 18446744073709551616 = 0 by omega, xor_u64_zero _ (by omega) (by omega)]
      omega
  · exact hp.elim
theorem rzig_sound : Sound Try.prog 64 zzS := by
  refine fn_sound (S := noS) (T := ty) mixed ty_ok noS_ok Try.func64 (c := Try.f64.body.getD .skip) (by kernel_rfl) (by kernel_rfl) (fun xs pins hp _ => ?_)
  unfold zzS at hp ⊢
  split at hp
  · rename_i n _
    obtain ⟨rfl, h1, h2⟩ := hp
    refine ⟨by decide, ?_⟩
    unfold Try.f64
    simp only [Option.getD, awp_skip, awp_label, awp_ret, awp_exit, awp_region, awp_seq, awp_block, awp_cond, aops_nil, aops_plain, aops_guard, later_normal, later_exit, later_ret, blockK_normal, blockK_exit, blockK_ret, regK_apply, aop, aLen, ev, slot, setSlot, putSlot, cv, cvl, aConv, aBin, aInt, aUn, aFn, aEq, Out.and, isBool, isPtr, true_and, and_true, List.length, IntKind.bits, evs, evo, evps, aCall, aUser, coes, coe, List.append, List.replicate, callOut, rootsL, AV.roots, lendsL, AV.lends, pinsOf, nodup, lendL, lend, closedB, noimmB, AV.noimm, AV.ren, renL, back, Nat.reduceAdd, Nat.reduceSub, Nat.reduceMul, Int.reduceToNat, Nat.le_refl, reduceCtorEq, false_implies, implies_true, List.nil_append, List.append_nil, List.cons_append, Nat.zero_le, Bool.false_eq_true, aLoad, subv, aIndexAddr, aIndex, TD.aggr, cond_false, cond_true, guardSlot, List.getElem?_cons_succ, List.getElem?_cons_zero, aPick, byte, word, aMin, aMax, Ax.Ends, EndsX, Ax.rvals, rone, AV.ids, idsL, newIds, upTo, pinHeap, gOf, ↓reduceIte, forall_const, List.isEmpty, ne_eq, not_false_eq_true, and_self, true_implies, AV.w.injEq, Value.int.injEq, Value.bool.injEq, IntKind.wrap_u8, IntKind.wrap_u64, IntKind.wrap_i64, Int.reducePow, Nat.reducePow, Nat.min_def, Int.reduceMod, Nat.reduceLeDiff, Int.reduceLE, Int.reduceNe, Int.reduceEq, aBuildSlice, fillB, aAppend, appendB, viewB, Ax.look, Ax.put, Ax.drop, List.drop, List.take, List.set_cons_zero, List.set_cons_succ, asv, aMake, aCopy, srcB, fillG, viewG, appendG, appendI, fillI, aSlice, bnd, bnds, full3, cut, aFieldAddr, aField, aLoad, aStore, setB, aBox, aBuild, fillS, allTy, AV.leaves, AV.okv, AV.leaf, one, splice, elemLeaves, Blk.size, Blk.len, List.replicate_succ, List.replicate_zero, Option.isSome, Option.isNone, isBytes, aStr, aNil, aAlloc, aExtract, aConv, viewI, Nat.reduceEqDiff, Nat.reduceLT, List.length_append, List.length_cons, List.length_nil, Nat.zero_add, Nat.add_zero, Nat.reduceBEq, List.contains, List.elem, Bool.not_true, Bool.not_false, Bool.true_and, Bool.and_true, Bool.and_false, Bool.false_and, Blk.closed, closedL, AV.closed, Blk.noimm, not_true_eq_false, not_false_iff, or_false, or_true, false_or, true_or, Int.toNat_natCast, List.length_replicate, setB, ↓gsplit_tt, ↓gsplit_ff, ↓gsplit_tf, ↓gsplit_ft, gsplit_bt, gsplit_bf, ↓csplit_t, ↓csplit_f, csplit_b, Ax.idx, beq_self_eq_true, BEq.rfl, pinsOf, List.mem_cons, List.not_mem_nil, AV.lentIds, lentIdsL, dropAll, givenUp, AV.clean, cleanL, Blk.clean, cleanB, quietC, flatTy, List.all_cons, List.all_nil, Bool.or_false, Bool.or_true, Bool.true_or, Bool.false_or, decide_true, decide_false, coldStr, notMs, eqV, eqF, isStruct, ty, noS, decide_eq_true_eq, decide_eq_false_iff_not]
    unfold zz
    constructor
    · intro h; rw [if_pos h]; omega
    · intro h; rw [if_neg h]; omega
  · exact hp.elim
theorem zag_sound : Sound Try.prog 66 zgS := by
  refine fn_sound (S := noS) (T := ty) mixed ty_ok noS_ok Try.func66 (c := Try.f66.body.getD .skip) (by kernel_rfl) (by kernel_rfl) (fun xs pins hp _ => ?_)
  unfold zgS at hp ⊢
  split at hp
  · rename_i n _
    obtain ⟨rfl, h1, h2⟩ := hp
    refine ⟨by decide, ?_⟩
    unfold Try.f66
    simp only [Option.getD, awp_skip, awp_label, awp_ret, awp_exit, awp_region, awp_seq, awp_block, awp_cond, aops_nil, aops_plain, aops_guard, later_normal, later_exit, later_ret, blockK_normal, blockK_exit, blockK_ret, regK_apply, aop, aLen, ev, slot, setSlot, putSlot, cv, cvl, aConv, aBin, aInt, aUn, aFn, aEq, Out.and, isBool, isPtr, true_and, and_true, List.length, IntKind.bits, evs, evo, evps, aCall, aUser, coes, coe, List.append, List.replicate, callOut, rootsL, AV.roots, lendsL, AV.lends, pinsOf, nodup, lendL, lend, closedB, noimmB, AV.noimm, AV.ren, renL, back, Nat.reduceAdd, Nat.reduceSub, Nat.reduceMul, Int.reduceToNat, Nat.le_refl, reduceCtorEq, false_implies, implies_true, List.nil_append, List.append_nil, List.cons_append, Nat.zero_le, Bool.false_eq_true, aLoad, subv, aIndexAddr, aIndex, TD.aggr, cond_false, cond_true, guardSlot, List.getElem?_cons_succ, List.getElem?_cons_zero, aPick, byte, word, aMin, aMax, Ax.Ends, EndsX, Ax.rvals, rone, AV.ids, idsL, newIds, upTo, pinHeap, gOf, ↓reduceIte, forall_const, List.isEmpty, ne_eq, not_false_eq_true, and_self, true_implies, AV.w.injEq, Value.int.injEq, Value.bool.injEq, IntKind.wrap_u8, IntKind.wrap_u64, IntKind.wrap_i64, Int.reducePow, Nat.reducePow, Nat.min_def, Int.reduceMod, Nat.reduceLeDiff, Int.reduceLE, Int.reduceNe, Int.reduceEq, aBuildSlice, fillB, aAppend, appendB, viewB, Ax.look, Ax.put, Ax.drop, List.drop, List.take, List.set_cons_zero, List.set_cons_succ, asv, aMake, aCopy, srcB, fillG, viewG, appendG, appendI, fillI, aSlice, bnd, bnds, full3, cut, aFieldAddr, aField, aLoad, aStore, setB, aBox, aBuild, fillS, allTy, AV.leaves, AV.okv, AV.leaf, one, splice, elemLeaves, Blk.size, Blk.len, List.replicate_succ, List.replicate_zero, Option.isSome, Option.isNone, isBytes, aStr, aNil, aAlloc, aExtract, aConv, viewI, Nat.reduceEqDiff, Nat.reduceLT, List.length_append, List.length_cons, List.length_nil, Nat.zero_add, Nat.add_zero, Nat.reduceBEq, List.contains, List.elem, Bool.not_true, Bool.not_false, Bool.true_and, Bool.and_true, Bool.and_false, Bool.false_and, Blk.closed, closedL, AV.closed, Blk.noimm, not_true_eq_false, not_false_iff, or_false, or_true, false_or, true_or, Int.toNat_natCast, List.length_replicate, setB, ↓gsplit_tt, ↓gsplit_ff, ↓gsplit_tf, ↓gsplit_ft, gsplit_bt, gsplit_bf, ↓csplit_t, ↓csplit_f, csplit_b, Ax.idx, beq_self_eq_true, BEq.rfl, pinsOf, List.mem_cons, List.not_mem_nil, AV.lentIds, lentIdsL, dropAll, givenUp, AV.clean, cleanL, Blk.clean, cleanB, quietC, flatTy, List.all_cons, List.all_nil, Bool.or_false, Bool.or_true, Bool.true_or, Bool.false_or, decide_true, decide_false, coldStr, notMs, eqV, eqF, isStruct, ty, noS]
    rw [and_u64_one n h1 h2]
    unfold zg
    split
    · rename_i h
      rw [show (0 - ((n % 2 + 9223372036854775808) % 18446744073709551616 - 9223372036854775808) + 9223372036854775808) % 18446744073709551616 - 9223372036854775808 = 0 by omega, xor_i64_zero _ (by omega) (by omega)]
      omega
    · rename_i h
      rw [show (0 - ((n % 2 + 9223372036854775808) % 18446744073709551616 - 9223372036854775808) + 9223372036854775808) % 18446744073709551616 - 9223372036854775808 = -1 by omega, xor_i64_ones _ (by omega) (by omega)]
      omega
  · exact hp.elim
theorem rzag_sound : Sound Try.prog 70 zgS := by
  refine fn_sound (S := noS) (T := ty) mixed ty_ok noS_ok Try.func70 (c := Try.f70.body.getD .skip) (by kernel_rfl) (by kernel_rfl) (fun xs pins hp _ => ?_)
  unfold zgS at hp ⊢
  split at hp
  · rename_i n _
    obtain ⟨rfl, h1, h2⟩ := hp
    refine ⟨by decide, ?_⟩
    unfold Try.f70
    simp only [Option.getD, awp_skip, awp_label, awp_ret, awp_exit, awp_region, awp_seq, awp_block, awp_cond, aops_nil, aops_plain, aops_guard, later_normal, later_exit, later_ret, blockK_normal, blockK_exit, blockK_ret, regK_apply, aop, aLen, ev, slot, setSlot, putSlot, cv, cvl, aConv, aBin, aInt, aUn, aFn, aEq, Out.and, isBool, isPtr, true_and, and_true, List.length, IntKind.bits, evs, evo, evps, aCall, aUser, coes, coe, List.append, List.replicate, callOut, rootsL, AV.roots, lendsL, AV.lends, pinsOf, nodup, lendL, lend, closedB, noimmB, AV.noimm, AV.ren, renL, back, Nat.reduceAdd, Nat.reduceSub, Nat.reduceMul, Int.reduceToNat, Nat.le_refl, reduceCtorEq, false_implies, implies_true, List.nil_append, List.append_nil, List.cons_append, Nat.zero_le, Bool.false_eq_true, aLoad, subv, aIndexAddr, aIndex, TD.aggr, cond_false, cond_true, guardSlot, List.getElem?_cons_succ, List.getElem?_cons_zero, aPick, byte, word, aMin, aMax, Ax.Ends, EndsX, Ax.rvals, rone, AV.ids, idsL, newIds, upTo, pinHeap, gOf, ↓reduceIte, forall_const, List.isEmpty, ne_eq, not_false_eq_true, and_self, true_implies, AV.w.injEq, Value.int.injEq, Value.bool.injEq, IntKind.wrap_u8, IntKind.wrap_u64, IntKind.wrap_i64, Int.reducePow, Nat.reducePow, Nat.min_def, Int.reduceMod, Nat.reduceLeDiff, Int.reduceLE, Int.reduceNe, Int.reduceEq, aBuildSlice, fillB, aAppend, appendB, viewB, Ax.look, Ax.put, Ax.drop, List.drop, List.take, List.set_cons_zero, List.set_cons_succ, asv, aMake, aCopy, srcB, fillG, viewG, appendG, appendI, fillI, aSlice, bnd, bnds, full3, cut, aFieldAddr, aField, aLoad, aStore, setB, aBox, aBuild, fillS, allTy, AV.leaves, AV.okv, AV.leaf, one, splice, elemLeaves, Blk.size, Blk.len, List.replicate_succ, List.replicate_zero, Option.isSome, Option.isNone, isBytes, aStr, aNil, aAlloc, aExtract, aConv, viewI, Nat.reduceEqDiff, Nat.reduceLT, List.length_append, List.length_cons, List.length_nil, Nat.zero_add, Nat.add_zero, Nat.reduceBEq, List.contains, List.elem, Bool.not_true, Bool.not_false, Bool.true_and, Bool.and_true, Bool.and_false, Bool.false_and, Blk.closed, closedL, AV.closed, Blk.noimm, not_true_eq_false, not_false_iff, or_false, or_true, false_or, true_or, Int.toNat_natCast, List.length_replicate, setB, ↓gsplit_tt, ↓gsplit_ff, ↓gsplit_tf, ↓gsplit_ft, gsplit_bt, gsplit_bf, ↓csplit_t, ↓csplit_f, csplit_b, Ax.idx, beq_self_eq_true, BEq.rfl, pinsOf, List.mem_cons, List.not_mem_nil, AV.lentIds, lentIdsL, dropAll, givenUp, AV.clean, cleanL, Blk.clean, cleanB, quietC, flatTy, List.all_cons, List.all_nil, Bool.or_false, Bool.or_true, Bool.true_or, Bool.false_or, decide_true, decide_false, coldStr, notMs, eqV, eqF, isStruct, ty, noS, decide_eq_true_eq, decide_eq_false_iff_not]
    have e1 : n.tmod 2 = n % 2 := Int.tmod_eq_emod_of_nonneg h1
    have e2 : n.tdiv 2 = n / 2 := Int.tdiv_eq_ediv_of_nonneg h1
    rw [e1, e2]
    unfold zg
    constructor
    · intro h; rw [if_pos h]; omega
    · intro h; rw [if_neg h]; omega
  · exact hp.elim
end
end Go.Proofs.Ythmkhlmohjcbgaa
