/- Layer 2: the laws. -/
import Derived.Test.YtfkedhcmkogkgaaC2
namespace Go.Proofs.Ytfkedhcmkogkgaa
open Ax
set_option linter.unusedSimpArgs false
set_option linter.unusedVariables false

def S39 (f : FuncId) : Option FSpec :=
  match f with
  | 41 => some ofS
  | 42 => some moreS
  | 45 => some sealS
  | 43 => some openS
  | _ => none
theorem S39_ok : Fns Try.prog S39 := by
  intro f s h
  unfold S39 at h
  split at h
  · injection h with h; subst h; exact ⟨⟨_, Try.func41, by kernel_rfl, by kernel_rfl⟩, of_sound⟩
  · injection h with h; subst h; exact ⟨⟨_, Try.func42, by kernel_rfl, by kernel_rfl⟩, more_sound⟩
  · injection h with h; subst h; exact ⟨⟨_, Try.func45, by kernel_rfl, by kernel_rfl⟩, seal_sound⟩
  · injection h with h; subst h; exact ⟨⟨_, Try.func43, by kernel_rfl, by kernel_rfl⟩, open_sound⟩
  · cases h
theorem open_seal (bs : List UInt8) : openL (sealL bs) = (bs, 0) := by
  have h1 : (sealL bs).take 8 = fixL (crcL bs).toNat 8 := by
    rw [sealL, List.take_append_of_le_length (by rw [fixL_length]; exact Nat.le_refl _), List.take_of_length_le (by rw [fixL_length]; exact Nat.le_refl _)]
  have h2 : (sealL bs).drop 8 = bs := by
    rw [sealL, List.drop_append_of_le_length (by rw [fixL_length]; exact Nat.le_refl _), List.drop_of_length_le (by rw [fixL_length]; exact Nat.le_refl _), List.nil_append]
  have h3 := (fixL_eq (crcL bs).toNat (fixL (crcL bs).toNat 8) (fixL_length _ _) (crcL bs).isLt).1 rfl
  unfold openL
  rw [if_neg (by rw [sealL_length]; omega), h1, h2, if_pos h3.symm]
theorem crc9 : ri (crcL [UInt8.ofNat 49, UInt8.ofNat 50, UInt8.ofNat 51, UInt8.ofNat 52, UInt8.ofNat 53, UInt8.ofNat 54, UInt8.ofNat 55, UInt8.ofNat 56, UInt8.ofNat 57]) = 11051210869376104954 := by decide +kernel
theorem crc45 : ri (ones ^^^ regL (ones ^^^ crcL [UInt8.ofNat 49, UInt8.ofNat 50, UInt8.ofNat 51, UInt8.ofNat 52]) [UInt8.ofNat 53, UInt8.ofNat 54, UInt8.ofNat 55, UInt8.ofNat 56, UInt8.ofNat 57]) = 11051210869376104954 := by decide +kernel

section
set_option maxRecDepth 100000
theorem awake2_sound : Sound Try.prog 39 yesS := by
  refine fn_sound (S := S39) (T := ty) mixed ty_ok S39_ok Try.func39 (c := Try.f39.body.getD .skip) (by kernel_rfl) (by kernel_rfl) (fun xs pins hp _ => ?_)
  unfold yesS at hp ⊢
  split at hp
  · refine ⟨by simp, ?_⟩
    have hr := ri_range (crcL [UInt8.ofNat 49, UInt8.ofNat 50, UInt8.ofNat 51, UInt8.ofNat 52])
    have e1 : List.take (8 + 1) (sealL [UInt8.ofNat 120]) = sealL [UInt8.ofNat 120] := List.take_of_length_le (by rw [sealL_length]; simp)
    unfold Try.f39
    simp -implicitDefEqProofs only [Option.getD, awp_skip, awp_label, awp_ret, awp_exit, awp_region, awp_seq, awp_block, awp_cond, aops_nil, aops_plain, aops_guard, later_normal, later_exit, later_ret, blockK_normal, blockK_exit, blockK_ret, regK_apply, aop, aLen, ev, slot, setSlot, putSlot, cv, cvl, aConv, aBin, aInt, aUn, aEq, Out.and, isBool, isPtr, true_and, and_true, List.length, IntKind.bits, evs, evo, evps, aCall, aUser, coes, coe, List.append, List.replicate, callOut, rootsL, AV.roots, lendsL, AV.lends, pinsOf, nodup, lendL, lend, closedB, noimmB, AV.noimm, AV.ren, renL, back, Nat.reduceAdd, Nat.reduceSub, Nat.reduceMul, Int.reduceToNat, Nat.le_refl, reduceCtorEq, false_implies, implies_true, List.nil_append, List.append_nil, List.cons_append, Nat.zero_le, Bool.false_eq_true, aLoad, subv, aIndexAddr, aIndex, TD.aggr, cond_false, cond_true, guardSlot, List.getElem?_cons_succ, List.getElem?_cons_zero, aPick, byte, word, aMin, aMax, Ax.Ends, EndsX, Ax.rvals, rone, AV.ids, idsL, newIds, upTo, pinHeap, gOf, ↓reduceIte, forall_const, List.isEmpty, ne_eq, not_false_eq_true, and_self, true_implies, AV.w.injEq, Value.int.injEq, Value.bool.injEq, IntKind.wrap_u8, IntKind.wrap_u64, IntKind.wrap_i64, Int.reducePow, Nat.reducePow, Nat.min_def, Int.reduceMod, Nat.reduceLeDiff, Int.reduceLE, Int.reduceNe, Int.reduceEq, aBuildSlice, fillB, aAppend, appendB, viewB, Ax.look, Ax.put, Ax.drop, List.drop, List.take, List.set_cons_zero, List.set_cons_succ, asv, aMake, aSlice, bnd, bnds, full3, cut, aFieldAddr, aField, aLoad, aStore, setB, aBox, aBuild, fillS, allTy, AV.leaves, AV.okv, AV.leaf, one, splice, elemLeaves, Blk.size, Blk.len, List.replicate_succ, List.replicate_zero, Option.isSome, Option.isNone, isBytes, aStr, aNil, aAlloc, aExtract, aConv, viewI, Nat.reduceEqDiff, Nat.reduceLT, List.length_append, List.length_cons, List.length_nil, Nat.zero_add, Nat.add_zero, Nat.reduceBEq, List.contains, List.elem, Bool.not_true, Bool.not_false, Bool.true_and, Bool.and_true, Bool.and_false, Bool.false_and, Blk.closed, closedL, AV.closed, Blk.noimm, not_true_eq_false, not_false_iff, or_false, or_true, false_or, true_or, Int.toNat_natCast, List.length_replicate, setB, ↓gsplit_tt, ↓gsplit_ff, ↓gsplit_tf, ↓gsplit_ft, gsplit_bt, gsplit_bf, ↓csplit_t, ↓csplit_f, csplit_b, Ax.idx, beq_self_eq_true, BEq.rfl, pinsOf, List.mem_cons, List.not_mem_nil, AV.lentIds, lentIdsL, dropAll, givenUp, AV.clean, cleanL, Blk.clean, cleanB, quietC, flatTy, List.all_cons, List.all_nil, Bool.or_false, Bool.or_true, Bool.true_or, Bool.false_or, decide_true, decide_false, ty, S39, ofS, moreS, sealS, openS, ofInt_ri, crc9, crc45, hr.1, hr.2, e1, open_seal]
    rw [sealL_length]
    decide
  · exact hp.elim

def ofsS : FSpec
  | [.sb bs f, .w (.int k n)], [] => ⟨k = .u16 ∧ 0 ≤ n ∧ n < 65536, .w (.bool true), []⟩
  | _, _ => noRes
def S9 (f : FuncId) : Option FSpec :=
  match f with
  | 39 => some yesS
  | 40 => some ofS
  | 41 => some ofS
  | 42 => some moreS
  | _ => none
theorem S9_ok : Fns Try.prog S9 := by
  intro f s h
  unfold S9 at h
  split at h
  · injection h with h; subst h; exact ⟨⟨_, Try.func39, by kernel_rfl, by kernel_rfl⟩, awake2_sound⟩
  · injection h with h; subst h; exact ⟨⟨_, Try.func40, by kernel_rfl, by kernel_rfl⟩, rof_sound⟩
  · injection h with h; subst h; exact ⟨⟨_, Try.func41, by kernel_rfl, by kernel_rfl⟩, of_sound⟩
  · injection h with h; subst h; exact ⟨⟨_, Try.func42, by kernel_rfl, by kernel_rfl⟩, more_sound⟩
  · cases h
theorem ofs_law : Sound Try.prog 9 ofsS := by
  refine fn_sound (S := S9) (T := tyF) mixed tyF_ok S9_ok Try.func9 (c := Try.f9.body.getD .skip) (by kernel_rfl) (by kernel_rfl) (fun xs pins hp _ => ?_)
  unfold ofsS at hp ⊢
  split at hp
  · rename_i bs f k n _
    obtain ⟨rfl, h1, h2⟩ := hp
    refine ⟨by simp, ?_⟩
    unfold Try.f9
    by_cases hb : bs.length ≤ 1500
    · have d1 : decide ((1500 : Int) < bs.length) = false := decide_eq_false (by omega)
      obtain ⟨K, hK⟩ : ∃ K : Nat, n.tmod (((bs.length : Int) + 1)) = K := ⟨(n % ((bs.length : Int) + 1)).toNat, by
        rw [Int.tmod_eq_emod_of_nonneg h1]
        have := Int.emod_nonneg n (show (bs.length : Int) + 1 ≠ 0 by omega)
        omega⟩
      have hKl : K ≤ bs.length := by
        rw [Int.tmod_eq_emod_of_nonneg h1] at hK
        have := Int.emod_lt_of_pos n (show 0 < (bs.length : Int) + 1 by omega)
        omega
      have e1 : (n + 9223372036854775808) % 18446744073709551616 - 9223372036854775808 = n := by omega
      have e2 : ((bs.length : Int) + 1 + 9223372036854775808) % 18446744073709551616 - 9223372036854775808 = (bs.length : Int) + 1 := by omega
      have hlen : bs.length ≤ 1000000 := by omega
      have e3 : List.take (bs.length - K) (List.drop K bs) = bs.drop K := List.take_of_length_le (by simp)
      have hm := crcL_more (bs.take K) (bs.drop K)
      rw [List.take_append_drop] at hm
      have hr := ri_range (crcL (bs.take K))
      simp -implicitDefEqProofs only [Option.getD, awp_skip, awp_label, awp_ret, awp_exit, awp_region, awp_seq, awp_block, awp_cond, aops_nil, aops_plain, aops_guard, later_normal, later_exit, later_ret, blockK_normal, blockK_exit, blockK_ret, regK_apply, aop, aLen, ev, slot, setSlot, putSlot, cv, cvl, aConv, aBin, aInt, aUn, aEq, Out.and, isBool, isPtr, true_and, and_true, List.length, IntKind.bits, evs, evo, evps, aCall, aUser, coes, coe, List.append, List.replicate, callOut, rootsL, AV.roots, lendsL, AV.lends, pinsOf, nodup, lendL, lend, closedB, noimmB, AV.noimm, AV.ren, renL, back, Nat.reduceAdd, Nat.reduceSub, Nat.reduceMul, Int.reduceToNat, Nat.le_refl, reduceCtorEq, false_implies, implies_true, List.nil_append, List.append_nil, List.cons_append, Nat.zero_le, Bool.false_eq_true, aLoad, subv, aIndexAddr, aIndex, TD.aggr, cond_false, cond_true, guardSlot, List.getElem?_cons_succ, List.getElem?_cons_zero, aPick, byte, word, aMin, aMax, Ax.Ends, EndsX, Ax.rvals, rone, AV.ids, idsL, newIds, upTo, pinHeap, gOf, ↓reduceIte, forall_const, List.isEmpty, ne_eq, not_false_eq_true, and_self, true_implies, AV.w.injEq, Value.int.injEq, Value.bool.injEq, IntKind.wrap_u8, IntKind.wrap_u64, IntKind.wrap_i64, Int.reducePow, Nat.reducePow, Nat.min_def, Int.reduceMod, Nat.reduceLeDiff, Int.reduceLE, Int.reduceNe, Int.reduceEq, aBuildSlice, fillB, aAppend, appendB, viewB, Ax.look, Ax.put, Ax.drop, List.drop, List.take, List.set_cons_zero, List.set_cons_succ, asv, aMake, aSlice, bnd, bnds, full3, cut, aFieldAddr, aField, aLoad, aStore, setB, aBox, aBuild, fillS, allTy, AV.leaves, AV.okv, AV.leaf, one, splice, elemLeaves, Blk.size, Blk.len, List.replicate_succ, List.replicate_zero, Option.isSome, Option.isNone, isBytes, aStr, aNil, aAlloc, aExtract, aConv, viewI, Nat.reduceEqDiff, Nat.reduceLT, List.length_append, List.length_cons, List.length_nil, Nat.zero_add, Nat.add_zero, Nat.reduceBEq, List.contains, List.elem, Bool.not_true, Bool.not_false, Bool.true_and, Bool.and_true, Bool.and_false, Bool.false_and, Blk.closed, closedL, AV.closed, Blk.noimm, not_true_eq_false, not_false_iff, or_false, or_true, false_or, true_or, Int.toNat_natCast, List.length_replicate, setB, ↓gsplit_tt, ↓gsplit_ff, ↓gsplit_tf, ↓gsplit_ft, gsplit_bt, gsplit_bf, ↓csplit_t, ↓csplit_f, csplit_b, Ax.idx, beq_self_eq_true, BEq.rfl, pinsOf, List.mem_cons, List.not_mem_nil, AV.lentIds, lentIdsL, dropAll, givenUp, AV.clean, cleanL, Blk.clean, cleanB, quietC, flatTy, List.all_cons, List.all_nil, Bool.or_false, Bool.or_true, Bool.true_or, Bool.false_or, decide_true, decide_false, tyF, setFlat, ty, S9, ofS, moreS, yesS, d1, e1, e2, hK, e3, hlen, Nat.sub_zero, Int.toNat_natCast, ofInt_ri, hr.1, hr.2, ← hm, List.length_take, List.length_drop, hKl, if_true]
      omega
    · have d1 : decide ((1500 : Int) < bs.length) = true := decide_eq_true (by omega)
      simp -implicitDefEqProofs only [Option.getD, awp_skip, awp_label, awp_ret, awp_exit, awp_region, awp_seq, awp_block, awp_cond, aops_nil, aops_plain, aops_guard, later_normal, later_exit, later_ret, blockK_normal, blockK_exit, blockK_ret, regK_apply, aop, aLen, ev, slot, setSlot, putSlot, cv, cvl, aConv, aBin, aInt, aUn, aEq, Out.and, isBool, isPtr, true_and, and_true, List.length, IntKind.bits, evs, evo, evps, aCall, aUser, coes, coe, List.append, List.replicate, callOut, rootsL, AV.roots, lendsL, AV.lends, pinsOf, nodup, lendL, lend, closedB, noimmB, AV.noimm, AV.ren, renL, back, Nat.reduceAdd, Nat.reduceSub, Nat.reduceMul, Int.reduceToNat, Nat.le_refl, reduceCtorEq, false_implies, implies_true, List.nil_append, List.append_nil, List.cons_append, Nat.zero_le, Bool.false_eq_true, aLoad, subv, aIndexAddr, aIndex, TD.aggr, cond_false, cond_true, guardSlot, List.getElem?_cons_succ, List.getElem?_cons_zero, aPick, byte, word, aMin, aMax, Ax.Ends, EndsX, Ax.rvals, rone, AV.ids, idsL, newIds, upTo, pinHeap, gOf, ↓reduceIte, forall_const, List.isEmpty, ne_eq, not_false_eq_true, and_self, true_implies, AV.w.injEq, Value.int.injEq, Value.bool.injEq, IntKind.wrap_u8, IntKind.wrap_u64, IntKind.wrap_i64, Int.reducePow, Nat.reducePow, Nat.min_def, Int.reduceMod, Nat.reduceLeDiff, Int.reduceLE, Int.reduceNe, Int.reduceEq, aBuildSlice, fillB, aAppend, appendB, viewB, Ax.look, Ax.put, Ax.drop, List.drop, List.take, List.set_cons_zero, List.set_cons_succ, asv, aMake, aSlice, bnd, bnds, full3, cut, aFieldAddr, aField, aLoad, aStore, setB, aBox, aBuild, fillS, allTy, AV.leaves, AV.okv, AV.leaf, one, splice, elemLeaves, Blk.size, Blk.len, List.replicate_succ, List.replicate_zero, Option.isSome, Option.isNone, isBytes, aStr, aNil, aAlloc, aExtract, aConv, viewI, Nat.reduceEqDiff, Nat.reduceLT, List.length_append, List.length_cons, List.length_nil, Nat.zero_add, Nat.add_zero, Nat.reduceBEq, List.contains, List.elem, Bool.not_true, Bool.not_false, Bool.true_and, Bool.and_true, Bool.and_false, Bool.false_and, Blk.closed, closedL, AV.closed, Blk.noimm, not_true_eq_false, not_false_iff, or_false, or_true, false_or, true_or, Int.toNat_natCast, List.length_replicate, setB, ↓gsplit_tt, ↓gsplit_ff, ↓gsplit_tf, ↓gsplit_ft, gsplit_bt, gsplit_bf, ↓csplit_t, ↓csplit_f, csplit_b, Ax.idx, beq_self_eq_true, BEq.rfl, pinsOf, List.mem_cons, List.not_mem_nil, AV.lentIds, lentIdsL, dropAll, givenUp, AV.clean, cleanL, Blk.clean, cleanB, quietC, flatTy, List.all_cons, List.all_nil, Bool.or_false, Bool.or_true, Bool.true_or, Bool.false_or, decide_true, decide_false, tyF, setFlat, ty, S9, yesS, d1]
  · exact hp.elim

def opensS : FSpec
  | [.sb bs f], [] => ⟨True, .w (.bool true), []⟩
  | _, _ => noRes
def S10 (f : FuncId) : Option FSpec :=
  match f with
  | 39 => some yesS
  | 44 => some openS
  | 43 => some openS
  | 46 => some sealS
  | 45 => some sealS
  | _ => none
theorem S10_ok : Fns Try.prog S10 := by
  intro f s h
  unfold S10 at h
  split at h
  · injection h with h; subst h; exact ⟨⟨_, Try.func39, by kernel_rfl, by kernel_rfl⟩, awake2_sound⟩
  · injection h with h; subst h; exact ⟨⟨_, Try.func44, by kernel_rfl, by kernel_rfl⟩, ropen_sound⟩
  · injection h with h; subst h; exact ⟨⟨_, Try.func43, by kernel_rfl, by kernel_rfl⟩, open_sound⟩
  · injection h with h; subst h; exact ⟨⟨_, Try.func46, by kernel_rfl, by kernel_rfl⟩, rseal_sound⟩
  · injection h with h; subst h; exact ⟨⟨_, Try.func45, by kernel_rfl, by kernel_rfl⟩, seal_sound⟩
  · cases h
theorem openL_len (bs : List UInt8) : (openL bs).1.length ≤ bs.length := by
  unfold openL; repeat' split
  all_goals simp
theorem opens_law : Sound Try.prog 10 opensS := by
  refine fn_sound (S := S10) (T := tyF) mixed tyF_ok S10_ok Try.func10 (c := Try.f10.body.getD .skip) (by kernel_rfl) (by kernel_rfl) (fun xs pins hp _ => ?_)
  unfold opensS at hp ⊢
  split at hp
  · rename_i bs f _
    refine ⟨by simp, ?_⟩
    unfold Try.f10
    by_cases hb : bs.length ≤ 1500
    · have d1 : decide ((1500 : Int) < bs.length) = false := decide_eq_false (by omega)
      have hlen : bs.length ≤ 1000000 := by omega
      simp -implicitDefEqProofs only [Option.getD, awp_skip, awp_label, awp_ret, awp_exit, awp_region, awp_seq, awp_block, awp_cond, aops_nil, aops_plain, aops_guard, later_normal, later_exit, later_ret, blockK_normal, blockK_exit, blockK_ret, regK_apply, aop, aLen, ev, slot, setSlot, putSlot, cv, cvl, aConv, aBin, aInt, aUn, aEq, Out.and, isBool, isPtr, true_and, and_true, List.length, IntKind.bits, evs, evo, evps, aCall, aUser, coes, coe, List.append, List.replicate, callOut, rootsL, AV.roots, lendsL, AV.lends, pinsOf, nodup, lendL, lend, closedB, noimmB, AV.noimm, AV.ren, renL, back, Nat.reduceAdd, Nat.reduceSub, Nat.reduceMul, Int.reduceToNat, Nat.le_refl, reduceCtorEq, false_implies, implies_true, List.nil_append, List.append_nil, List.cons_append, Nat.zero_le, Bool.false_eq_true, aLoad, subv, aIndexAddr, aIndex, TD.aggr, cond_false, cond_true, guardSlot, List.getElem?_cons_succ, List.getElem?_cons_zero, aPick, byte, word, aMin, aMax, Ax.Ends, EndsX, Ax.rvals, rone, AV.ids, idsL, newIds, upTo, pinHeap, gOf, ↓reduceIte, forall_const, List.isEmpty, ne_eq, not_false_eq_true, and_self, true_implies, AV.w.injEq, Value.int.injEq, Value.bool.injEq, IntKind.wrap_u8, IntKind.wrap_u64, IntKind.wrap_i64, Int.reducePow, Nat.reducePow, Nat.min_def, Int.reduceMod, Nat.reduceLeDiff, Int.reduceLE, Int.reduceNe, Int.reduceEq, aBuildSlice, fillB, aAppend, appendB, viewB, Ax.look, Ax.put, Ax.drop, List.drop, List.take, List.set_cons_zero, List.set_cons_succ, asv, aMake, aSlice, bnd, bnds, full3, cut, aFieldAddr, aField, aLoad, aStore, setB, aBox, aBuild, fillS, allTy, AV.leaves, AV.okv, AV.leaf, one, splice, elemLeaves, Blk.size, Blk.len, List.replicate_succ, List.replicate_zero, Option.isSome, Option.isNone, isBytes, aStr, aNil, aAlloc, aExtract, aConv, viewI, Nat.reduceEqDiff, Nat.reduceLT, List.length_append, List.length_cons, List.length_nil, Nat.zero_add, Nat.add_zero, Nat.reduceBEq, List.contains, List.elem, Bool.not_true, Bool.not_false, Bool.true_and, Bool.and_true, Bool.and_false, Bool.false_and, Blk.closed, closedL, AV.closed, Blk.noimm, not_true_eq_false, not_false_iff, or_false, or_true, false_or, true_or, Int.toNat_natCast, List.length_replicate, setB, ↓gsplit_tt, ↓gsplit_ff, ↓gsplit_tf, ↓gsplit_ft, gsplit_bt, gsplit_bf, ↓csplit_t, ↓csplit_f, csplit_b, Ax.idx, beq_self_eq_true, BEq.rfl, pinsOf, List.mem_cons, List.not_mem_nil, AV.lentIds, lentIdsL, dropAll, givenUp, AV.clean, cleanL, Blk.clean, cleanB, quietC, flatTy, List.all_cons, List.all_nil, Bool.or_false, Bool.or_true, Bool.true_or, Bool.false_or, decide_true, decide_false, tyF, setFlat, ty, S10, openS, sealS, yesS, d1, hlen, List.take_length]
      rw [sealL_length]; exact Nat.le_refl _
    · have d1 : decide ((1500 : Int) < bs.length) = true := decide_eq_true (by omega)
      simp -implicitDefEqProofs only [Option.getD, awp_skip, awp_label, awp_ret, awp_exit, awp_region, awp_seq, awp_block, awp_cond, aops_nil, aops_plain, aops_guard, later_normal, later_exit, later_ret, blockK_normal, blockK_exit, blockK_ret, regK_apply, aop, aLen, ev, slot, setSlot, putSlot, cv, cvl, aConv, aBin, aInt, aUn, aEq, Out.and, isBool, isPtr, true_and, and_true, List.length, IntKind.bits, evs, evo, evps, aCall, aUser, coes, coe, List.append, List.replicate, callOut, rootsL, AV.roots, lendsL, AV.lends, pinsOf, nodup, lendL, lend, closedB, noimmB, AV.noimm, AV.ren, renL, back, Nat.reduceAdd, Nat.reduceSub, Nat.reduceMul, Int.reduceToNat, Nat.le_refl, reduceCtorEq, false_implies, implies_true, List.nil_append, List.append_nil, List.cons_append, Nat.zero_le, Bool.false_eq_true, aLoad, subv, aIndexAddr, aIndex, TD.aggr, cond_false, cond_true, guardSlot, List.getElem?_cons_succ, List.getElem?_cons_zero, aPick, byte, word, aMin, aMax, Ax.Ends, EndsX, Ax.rvals, rone, AV.ids, idsL, newIds, upTo, pinHeap, gOf, ↓reduceIte, forall_const, List.isEmpty, ne_eq, not_false_eq_true, and_self, true_implies, AV.w.injEq, Value.int.injEq, Value.bool.injEq, IntKind.wrap_u8, IntKind.wrap_u64, IntKind.wrap_i64, Int.reducePow, Nat.reducePow, Nat.min_def, Int.reduceMod, Nat.reduceLeDiff, Int.reduceLE, Int.reduceNe, Int.reduceEq, aBuildSlice, fillB, aAppend, appendB, viewB, Ax.look, Ax.put, Ax.drop, List.drop, List.take, List.set_cons_zero, List.set_cons_succ, asv, aMake, aSlice, bnd, bnds, full3, cut, aFieldAddr, aField, aLoad, aStore, setB, aBox, aBuild, fillS, allTy, AV.leaves, AV.okv, AV.leaf, one, splice, elemLeaves, Blk.size, Blk.len, List.replicate_succ, List.replicate_zero, Option.isSome, Option.isNone, isBytes, aStr, aNil, aAlloc, aExtract, aConv, viewI, Nat.reduceEqDiff, Nat.reduceLT, List.length_append, List.length_cons, List.length_nil, Nat.zero_add, Nat.add_zero, Nat.reduceBEq, List.contains, List.elem, Bool.not_true, Bool.not_false, Bool.true_and, Bool.and_true, Bool.and_false, Bool.false_and, Blk.closed, closedL, AV.closed, Blk.noimm, not_true_eq_false, not_false_iff, or_false, or_true, false_or, true_or, Int.toNat_natCast, List.length_replicate, setB, ↓gsplit_tt, ↓gsplit_ff, ↓gsplit_tf, ↓gsplit_ft, gsplit_bt, gsplit_bf, ↓csplit_t, ↓csplit_f, csplit_b, Ax.idx, beq_self_eq_true, BEq.rfl, pinsOf, List.mem_cons, List.not_mem_nil, AV.lentIds, lentIdsL, dropAll, givenUp, AV.clean, cleanL, Blk.clean, cleanB, quietC, flatTy, List.all_cons, List.all_nil, Bool.or_false, Bool.or_true, Bool.true_or, Bool.false_or, decide_true, decide_false, tyF, setFlat, ty, S10, yesS, d1]
  · exact hp.elim
end
end Go.Proofs.Ytfkedhcmkogkgaa
