/- Layer 3: the law of what is put and got. -/
import Derived.Test.YtbmkmjlmboppeaaR5
namespace Go.Proofs.Ytbmkmjlmboppeaa
open Ax
set_option linter.unusedSimpArgs false
set_option linter.unusedVariables false

def rbackS : FSpec
  | [.agg [.w (.int .i64 d), .w (.int .i64 t), .w (.bool k), .str key, .w (.bool dd), .str val], .sb behind f], [] => ⟨True, .w (.bool true), []⟩
  | _, _ => noRes
def Srback (f : FuncId) : Option FSpec :=
  match f with
  | 11 => some yesS
  | 10 => some lightS
  | 12 => some rputS
  | 19 => some rgetS
  | 15 => some rsizeS
  | 16 => some rsameS
  | 18 => some newS
  | 21 => some leftS
  | _ => none
theorem Srback_ok : Fns Try.prog Srback := by
  intro f s h
  unfold Srback at h
  split at h
  · injection h with h; subst h; exact ⟨⟨_, Try.func11, by kernel_rfl, by kernel_rfl⟩, awake3_sound⟩
  · injection h with h; subst h; exact ⟨⟨_, Try.func10, by kernel_rfl, by kernel_rfl⟩, light_sound⟩
  · injection h with h; subst h; exact ⟨⟨_, Try.func12, by kernel_rfl, by kernel_rfl⟩, recput_sound⟩
  · injection h with h; subst h; exact ⟨⟨_, Try.func19, by kernel_rfl, by kernel_rfl⟩, recget_sound⟩
  · injection h with h; subst h; exact ⟨⟨_, Try.func15, by kernel_rfl, by kernel_rfl⟩, rsize_sound⟩
  · injection h with h; subst h; exact ⟨⟨_, Try.func16, by kernel_rfl, by kernel_rfl⟩, rsame_sound⟩
  · injection h with h; subst h; exact ⟨⟨_, Try.func18, by kernel_rfl, by kernel_rfl⟩, new_sound⟩
  · injection h with h; subst h; exact ⟨⟨_, Try.func21, by kernel_rfl, by kernel_rfl⟩, left_sound⟩
  · cases h
theorem recL_length (d t : Int) (k : Bool) (key : List UInt8) (dd : Bool) (val : List UInt8) (h : rchk d t k key dd val = 0) : (recL d t k key dd val).length ≤ 1000 := by
  obtain ⟨h1, h2, h3, h4, _, _⟩ := rchk_zero h
  have z1 := zz_range d (by omega) (by omega)
  have z2 := zz_range t (by omega) (by omega)
  have l1 := putU_length (zz d).toNat (by omega)
  have l2 := putU_length (zz t).toNat (by omega)
  have l3 := textL_length key (by omega)
  have l4 := textL_length val (by omega)
  unfold recL
  cases k <;> cases dd <;> simp <;> omega
theorem sameB_self (d t : Int) (k : Bool) (key : List UInt8) (dd : Bool) (val : List UInt8) : sameB d t k key dd val d t k key dd val = true := by
  unfold sameB; simp
section
set_option maxRecDepth 100000
set_option maxHeartbeats 1000000 in
theorem rback_law : Sound Try.prog 5 rbackS := by
  refine fn_sound (S := Srback) (T := ty) mixed ty_ok Srback_ok Try.func5 (c := Try.f5.body.getD .skip) (by kernel_rfl) (by kernel_rfl) (fun xs pins hp _ => ?_)
  unfold rbackS at hp ⊢
  split at hp
  · rename_i d t k key dd val behind f _
    refine ⟨by simp, ?_⟩
    unfold Try.f5
    by_cases g1 : key.length ≤ 200 ∧ val.length ≤ 700
    · have d1 : decide (key.length ≤ 200 ∧ val.length ≤ 700) = true := decide_eq_true g1
      by_cases g2 : behind.length ≤ 100
      · have d2 : decide ((100 : Int) < behind.length) = false := decide_eq_false (by omega)
        by_cases c1 : rchk d t k key dd val = 0
        · have e1 : recB d t k key dd val = recL d t k key dd val := if_pos c1
          obtain ⟨p1, p2, p3, p4⟩ := get_put d t k key dd val behind c1
          have hcut := get_cut d t k key dd val c1
          have hpos := rec_pos d t k key dd val
          have hlen := recL_length d t k key dd val c1
          generalize recL d t k key dd val = X at *
          have d3 : decide ((X.length : Int) = 0) = false := decide_eq_false (by omega)
          have q1 : (X ++ behind).length ≤ 1000000 := by rw [List.length_append]; omega
          have q2 : List.take (X.length + behind.length) (X ++ behind) = X ++ behind := List.take_of_length_le (by simp)
          have q3 : ((X.length : Int) - 1 + 9223372036854775808) % 18446744073709551616 - 9223372036854775808 = ((X.length - 1 : Nat) : Int) := by omega
          have q4 : (List.take (X.length - 1) X).length ≤ 1000000 := by simp; omega
          have q5 : grec (List.take (X.length - 1) X) 0 = recV 0 0 false [] false [] := by unfold grec; rw [if_neg hcut]
          have d4 : decide (gerr (List.take (X.length - 1) X) 0 = 0) = false := decide_eq_false hcut
          have s1 := sameB_self d t k key dd val
          have q6 : 0 + X.length ≤ top := by have : top = 4294967296 := rfl; omega
          have q7 : X.length + behind.length ≤ top := by have : top = 4294967296 := rfl; omega
          simp -implicitDefEqProofs only [Option.getD, awp_skip, awp_label, awp_ret, awp_exit, awp_region, awp_seq, awp_block, awp_cond, aops_nil, aops_plain, aops_guard, later_normal, later_exit, later_ret, blockK_normal, blockK_exit, blockK_ret, regK_apply, aop, aLen, ev, slot, setSlot, putSlot, cv, cvl, aConv, aBin, aInt, aUn, aEq, Out.and, isBool, isPtr, true_and, and_true, List.length, IntKind.bits, evs, evo, evps, aCall, aUser, coes, coe, List.append, List.replicate, callOut, rootsL, AV.roots, lendsL, AV.lends, pinsOf, nodup, lendL, lend, closedB, noimmB, AV.noimm, AV.ren, renL, back, Nat.reduceAdd, Nat.reduceSub, Nat.reduceMul, Int.reduceToNat, Nat.le_refl, reduceCtorEq, false_implies, implies_true, List.nil_append, List.append_nil, List.cons_append, Nat.zero_le, Bool.false_eq_true, aLoad, subv, aIndexAddr, aIndex, TD.aggr, cond_false, cond_true, guardSlot, List.getElem?_cons_succ, List.getElem?_cons_zero, aPick, byte, word, aMin, aMax, Ax.Ends, EndsX, Ax.rvals, rone, AV.ids, idsL, newIds, upTo, pinHeap, gOf, ↓reduceIte, forall_const, List.isEmpty, ne_eq, not_false_eq_true, and_self, true_implies, AV.w.injEq, Value.int.injEq, Value.bool.injEq, IntKind.wrap_u8, IntKind.wrap_u64, IntKind.wrap_i64, Int.reducePow, Nat.reducePow, Nat.min_def, Int.reduceMod, Nat.reduceLeDiff, Int.reduceLE, Int.reduceNe, Int.reduceEq, aBuildSlice, fillB, aAppend, appendB, viewB, Ax.look, Ax.put, Ax.drop, List.drop, List.take, List.set_cons_zero, List.set_cons_succ, asv, aMake, aSlice, bnd, bnds, full3, cut, aFieldAddr, aField, aLoad, aStore, setB, aBox, aBuild, fillS, allTy, AV.leaves, AV.okv, AV.leaf, one, splice, elemLeaves, Blk.size, Blk.len, List.replicate_succ, List.replicate_zero, Option.isSome, Option.isNone, isBytes, aStr, aNil, aAlloc, aExtract, aConv, viewI, Nat.reduceEqDiff, Nat.reduceLT, List.length_append, List.length_cons, List.length_nil, Nat.zero_add, Nat.add_zero, Nat.reduceBEq, List.contains, List.elem, Bool.not_true, Bool.not_false, Bool.true_and, Bool.and_true, Bool.and_false, Bool.false_and, Blk.closed, closedL, AV.closed, Blk.noimm, not_true_eq_false, not_false_iff, or_false, or_true, false_or, true_or, Int.toNat_natCast, List.length_replicate, setB, ↓gsplit_tt, ↓gsplit_ff, ↓gsplit_tf, ↓gsplit_ft, gsplit_bt, gsplit_bf, ↓csplit_t, ↓csplit_f, csplit_b, Ax.idx, beq_self_eq_true, BEq.rfl, pinsOf, List.mem_cons, List.not_mem_nil, AV.lentIds, lentIdsL, dropAll, givenUp, AV.clean, cleanL, Blk.clean, cleanB, quietC, flatTy, List.all_cons, List.all_nil, Bool.or_false, Bool.or_true, Bool.true_or, Bool.false_or, decide_true, decide_false, coldStr, notMs, eqV, eqF, isStruct, ty, Srback, yesS, lightS, rputS, rgetS, newS, leftS, rsameS, rd, d1, d2, c1, e1, d3, q1, q2, q3, q4, q5, d4, p1, p2, p3, p4, s1, recV, Int.toNat_natCast, Nat.sub_zero, fillS]
          omega
        · have d3 : decide (rchk d t k key dd val = 0) = false := decide_eq_false c1
          have e1 : recB d t k key dd val = [] := if_neg c1
          simp -implicitDefEqProofs only [Option.getD, awp_skip, awp_label, awp_ret, awp_exit, awp_region, awp_seq, awp_block, awp_cond, aops_nil, aops_plain, aops_guard, later_normal, later_exit, later_ret, blockK_normal, blockK_exit, blockK_ret, regK_apply, aop, aLen, ev, slot, setSlot, putSlot, cv, cvl, aConv, aBin, aInt, aUn, aEq, Out.and, isBool, isPtr, true_and, and_true, List.length, IntKind.bits, evs, evo, evps, aCall, aUser, coes, coe, List.append, List.replicate, callOut, rootsL, AV.roots, lendsL, AV.lends, pinsOf, nodup, lendL, lend, closedB, noimmB, AV.noimm, AV.ren, renL, back, Nat.reduceAdd, Nat.reduceSub, Nat.reduceMul, Int.reduceToNat, Nat.le_refl, reduceCtorEq, false_implies, implies_true, List.nil_append, List.append_nil, List.cons_append, Nat.zero_le, Bool.false_eq_true, aLoad, subv, aIndexAddr, aIndex, TD.aggr, cond_false, cond_true, guardSlot, List.getElem?_cons_succ, List.getElem?_cons_zero, aPick, byte, word, aMin, aMax, Ax.Ends, EndsX, Ax.rvals, rone, AV.ids, idsL, newIds, upTo, pinHeap, gOf, ↓reduceIte, forall_const, List.isEmpty, ne_eq, not_false_eq_true, and_self, true_implies, AV.w.injEq, Value.int.injEq, Value.bool.injEq, IntKind.wrap_u8, IntKind.wrap_u64, IntKind.wrap_i64, Int.reducePow, Nat.reducePow, Nat.min_def, Int.reduceMod, Nat.reduceLeDiff, Int.reduceLE, Int.reduceNe, Int.reduceEq, aBuildSlice, fillB, aAppend, appendB, viewB, Ax.look, Ax.put, Ax.drop, List.drop, List.take, List.set_cons_zero, List.set_cons_succ, asv, aMake, aSlice, bnd, bnds, full3, cut, aFieldAddr, aField, aLoad, aStore, setB, aBox, aBuild, fillS, allTy, AV.leaves, AV.okv, AV.leaf, one, splice, elemLeaves, Blk.size, Blk.len, List.replicate_succ, List.replicate_zero, Option.isSome, Option.isNone, isBytes, aStr, aNil, aAlloc, aExtract, aConv, viewI, Nat.reduceEqDiff, Nat.reduceLT, List.length_append, List.length_cons, List.length_nil, Nat.zero_add, Nat.add_zero, Nat.reduceBEq, List.contains, List.elem, Bool.not_true, Bool.not_false, Bool.true_and, Bool.and_true, Bool.and_false, Bool.false_and, Blk.closed, closedL, AV.closed, Blk.noimm, not_true_eq_false, not_false_iff, or_false, or_true, false_or, true_or, Int.toNat_natCast, List.length_replicate, setB, ↓gsplit_tt, ↓gsplit_ff, ↓gsplit_tf, ↓gsplit_ft, gsplit_bt, gsplit_bf, ↓csplit_t, ↓csplit_f, csplit_b, Ax.idx, beq_self_eq_true, BEq.rfl, pinsOf, List.mem_cons, List.not_mem_nil, AV.lentIds, lentIdsL, dropAll, givenUp, AV.clean, cleanL, Blk.clean, cleanB, quietC, flatTy, List.all_cons, List.all_nil, Bool.or_false, Bool.or_true, Bool.true_or, Bool.false_or, decide_true, decide_false, coldStr, notMs, eqV, eqF, isStruct, ty, Srback, yesS, lightS, rputS, rsizeS, d1, d2, d3, e1]
          decide
      · have d2 : decide ((100 : Int) < behind.length) = true := decide_eq_true (by omega)
        simp -implicitDefEqProofs only [Option.getD, awp_skip, awp_label, awp_ret, awp_exit, awp_region, awp_seq, awp_block, awp_cond, aops_nil, aops_plain, aops_guard, later_normal, later_exit, later_ret, blockK_normal, blockK_exit, blockK_ret, regK_apply, aop, aLen, ev, slot, setSlot, putSlot, cv, cvl, aConv, aBin, aInt, aUn, aEq, Out.and, isBool, isPtr, true_and, and_true, List.length, IntKind.bits, evs, evo, evps, aCall, aUser, coes, coe, List.append, List.replicate, callOut, rootsL, AV.roots, lendsL, AV.lends, pinsOf, nodup, lendL, lend, closedB, noimmB, AV.noimm, AV.ren, renL, back, Nat.reduceAdd, Nat.reduceSub, Nat.reduceMul, Int.reduceToNat, Nat.le_refl, reduceCtorEq, false_implies, implies_true, List.nil_append, List.append_nil, List.cons_append, Nat.zero_le, Bool.false_eq_true, aLoad, subv, aIndexAddr, aIndex, TD.aggr, cond_false, cond_true, guardSlot, List.getElem?_cons_succ, List.getElem?_cons_zero, aPick, byte, word, aMin, aMax, Ax.Ends, EndsX, Ax.rvals, rone, AV.ids, idsL, newIds, upTo, pinHeap, gOf, ↓reduceIte, forall_const, List.isEmpty, ne_eq, not_false_eq_true, and_self, true_implies, AV.w.injEq, Value.int.injEq, Value.bool.injEq, IntKind.wrap_u8, IntKind.wrap_u64, IntKind.wrap_i64, Int.reducePow, Nat.reducePow, Nat.min_def, Int.reduceMod, Nat.reduceLeDiff, Int.reduceLE, Int.reduceNe, Int.reduceEq, aBuildSlice, fillB, aAppend, appendB, viewB, Ax.look, Ax.put, Ax.drop, List.drop, List.take, List.set_cons_zero, List.set_cons_succ, asv, aMake, aSlice, bnd, bnds, full3, cut, aFieldAddr, aField, aLoad, aStore, setB, aBox, aBuild, fillS, allTy, AV.leaves, AV.okv, AV.leaf, one, splice, elemLeaves, Blk.size, Blk.len, List.replicate_succ, List.replicate_zero, Option.isSome, Option.isNone, isBytes, aStr, aNil, aAlloc, aExtract, aConv, viewI, Nat.reduceEqDiff, Nat.reduceLT, List.length_append, List.length_cons, List.length_nil, Nat.zero_add, Nat.add_zero, Nat.reduceBEq, List.contains, List.elem, Bool.not_true, Bool.not_false, Bool.true_and, Bool.and_true, Bool.and_false, Bool.false_and, Blk.closed, closedL, AV.closed, Blk.noimm, not_true_eq_false, not_false_iff, or_false, or_true, false_or, true_or, Int.toNat_natCast, List.length_replicate, setB, ↓gsplit_tt, ↓gsplit_ff, ↓gsplit_tf, ↓gsplit_ft, gsplit_bt, gsplit_bf, ↓csplit_t, ↓csplit_f, csplit_b, Ax.idx, beq_self_eq_true, BEq.rfl, pinsOf, List.mem_cons, List.not_mem_nil, AV.lentIds, lentIdsL, dropAll, givenUp, AV.clean, cleanL, Blk.clean, cleanB, quietC, flatTy, List.all_cons, List.all_nil, Bool.or_false, Bool.or_true, Bool.true_or, Bool.false_or, decide_true, decide_false, coldStr, notMs, eqV, eqF, isStruct, ty, Srback, yesS, lightS, d1, d2]
    · have d1 : decide (key.length ≤ 200 ∧ val.length ≤ 700) = false := decide_eq_false g1
      simp -implicitDefEqProofs only [Option.getD, awp_skip, awp_label, awp_ret, awp_exit, awp_region, awp_seq, awp_block, awp_cond, aops_nil, aops_plain, aops_guard, later_normal, later_exit, later_ret, blockK_normal, blockK_exit, blockK_ret, regK_apply, aop, aLen, ev, slot, setSlot, putSlot, cv, cvl, aConv, aBin, aInt, aUn, aEq, Out.and, isBool, isPtr, true_and, and_true, List.length, IntKind.bits, evs, evo, evps, aCall, aUser, coes, coe, List.append, List.replicate, callOut, rootsL, AV.roots, lendsL, AV.lends, pinsOf, nodup, lendL, lend, closedB, noimmB, AV.noimm, AV.ren, renL, back, Nat.reduceAdd, Nat.reduceSub, Nat.reduceMul, Int.reduceToNat, Nat.le_refl, reduceCtorEq, false_implies, implies_true, List.nil_append, List.append_nil, List.cons_append, Nat.zero_le, Bool.false_eq_true, aLoad, subv, aIndexAddr, aIndex, TD.aggr, cond_false, cond_true, guardSlot, List.getElem?_cons_succ, List.getElem?_cons_zero, aPick, byte, word, aMin, aMax, Ax.Ends, EndsX, Ax.rvals, rone, AV.ids, idsL, newIds, upTo, pinHeap, gOf, ↓reduceIte, forall_const, List.isEmpty, ne_eq, not_false_eq_true, and_self, true_implies, AV.w.injEq, Value.int.injEq, Value.bool.injEq, IntKind.wrap_u8, IntKind.wrap_u64, IntKind.wrap_i64, Int.reducePow, Nat.reducePow, Nat.min_def, Int.reduceMod, Nat.reduceLeDiff, Int.reduceLE, Int.reduceNe, Int.reduceEq, aBuildSlice, fillB, aAppend, appendB, viewB, Ax.look, Ax.put, Ax.drop, List.drop, List.take, List.set_cons_zero, List.set_cons_succ, asv, aMake, aSlice, bnd, bnds, full3, cut, aFieldAddr, aField, aLoad, aStore, setB, aBox, aBuild, fillS, allTy, AV.leaves, AV.okv, AV.leaf, one, splice, elemLeaves, Blk.size, Blk.len, List.replicate_succ, List.replicate_zero, Option.isSome, Option.isNone, isBytes, aStr, aNil, aAlloc, aExtract, aConv, viewI, Nat.reduceEqDiff, Nat.reduceLT, List.length_append, List.length_cons, List.length_nil, Nat.zero_add, Nat.add_zero, Nat.reduceBEq, List.contains, List.elem, Bool.not_true, Bool.not_false, Bool.true_and, Bool.and_true, Bool.and_false, Bool.false_and, Blk.closed, closedL, AV.closed, Blk.noimm, not_true_eq_false, not_false_iff, or_false, or_true, false_or, true_or, Int.toNat_natCast, List.length_replicate, setB, ↓gsplit_tt, ↓gsplit_ff, ↓gsplit_tf, ↓gsplit_ft, gsplit_bt, gsplit_bf, ↓csplit_t, ↓csplit_f, csplit_b, Ax.idx, beq_self_eq_true, BEq.rfl, pinsOf, List.mem_cons, List.not_mem_nil, AV.lentIds, lentIdsL, dropAll, givenUp, AV.clean, cleanL, Blk.clean, cleanB, quietC, flatTy, List.all_cons, List.all_nil, Bool.or_false, Bool.or_true, Bool.true_or, Bool.false_or, decide_true, decide_false, coldStr, notMs, eqV, eqF, isStruct, ty, Srback, yesS, lightS, d1]
  · exact hp.elim
end
theorem arg_bytes {x : AV} (h : Arg ty 6 26 x) : ∃ bs f, x = .sb bs f ∧ bs.length ≤ maxLen := by
  obtain ⟨i, ls, hi, hs, rfl⟩ := h
  simp only [ty] at hi
  injection hi with hi
  subst hi
  simp only [Shape, ty, isFlatI] at hs
  obtain ⟨bs, f, rfl, hl⟩ := hs
  exact ⟨bs, f, rfl, hl⟩
theorem rback_dom {x y : AV} (hx : Arg ty 6 23 x) (hy : Arg ty 6 26 y) : (rbackS [x, y] []).p ∧ (rbackS [x, y] []).x = .w (.bool true) := by
  obtain ⟨d, t, k, key, dd, val, rfl⟩ := arg_rec hx
  obtain ⟨bs, f, rfl, _⟩ := arg_bytes hy
  exact ⟨trivial, rfl⟩
end Go.Proofs.Ytbmkmjlmboppeaa
