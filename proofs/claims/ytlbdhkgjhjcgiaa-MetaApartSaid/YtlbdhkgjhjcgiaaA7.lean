/- Layer 1: the document's own reading of a number of a set width. -/
import Derived.Test.YtlbdhkgjhjcgiaaA5
namespace Go.Proofs.Ytlbdhkgjhjcgiaa
open Ax
set_option linter.unusedSimpArgs false
set_option linter.unusedVariables false
section
set_option maxRecDepth 100000
theorem runfixed_sound : Sound Try.prog 54 unfS := by
  refine fn_sound (S := noS) (T := ty) mixed ty_ok noS_ok Try.func54 (c := Try.f54.body.getD .skip) (by kernel_rfl) (by kernel_rfl) (fun xs pins hp _ => ?_)
  unfold unfS at hp ⊢
  split at hp
  · rename_i bs f _
    have hp : bs.length ≤ 1000000 := hp
    refine ⟨by simp, ?_⟩
    have hl8 := last8_length bs
    have hll : (last8 bs).length = bs.length - (bs.length - 8) := by unfold last8; simp
    have em : (if (bs.length - 8 + 9223372036854775808 : Int) % 18446744073709551616 - 9223372036854775808 > 0 then (bs.length - 8 + 9223372036854775808 : Int) % 18446744073709551616 - 9223372036854775808 else 0) = ((bs.length - 8 : Nat) : Int) := by
      split <;> omega
    unfold Try.f54
    simp -implicitDefEqProofs only [evT, evD0, evD1, evD2, implies_true, forall_const, Option.getD, later_normal, aop, aLen, ev, putSlot, cv, cvl, aConv, aBin, aInt, aUn, aFn, aEq, List.length, IntKind.bits, evo, coe, List.append, List.replicate, Nat.reduceAdd, Nat.reduceSub, Nat.reduceMul, Int.reduceToNat, reduceCtorEq, aIndexAddr, aIndex, TD.aggr, aPick, aMin, aMax, Ax.Ends, rone, ↓reduceIte, List.isEmpty, Int.reducePow, Nat.reducePow, Int.reduceMod, Nat.reduceLeDiff, Int.reduceLE, Int.reduceNe, Int.reduceEq, aAppend, appendB, viewB, List.drop, List.take, aRange, aNext, aCopy, srcB, viewG, appendG, appendI, aSlice, bnd, full3, aStore, setB, AV.leaves, AV.okv, AV.leaf, one, elemLeaves, Blk.size, Blk.len, Option.isSome, Option.isNone, aStr, aNil, aExtract, viewI, Nat.reduceEqDiff, Nat.reduceLT, Nat.reduceBEq, List.contains, List.elem, Blk.closed, Blk.noimm, ↓gsplit_tt, ↓gsplit_ff, ↓gsplit_tf, ↓gsplit_ft, ↓csplit_t, ↓csplit_f, givenUp, Blk.clean, notMs, ty, noS, em]
    refine awp_loop ⟨fun m σ => ∃ (i X : Nat), m = (last8 bs).length - i ∧ i ≤ (last8 bs).length ∧ X < 256 ^ i ∧ unfL ((last8 bs).drop i) X = unfL (last8 bs) 0 ∧
      σ = ⟨[.sb bs f, .junk, .junk, .w (.int .u64 X), .w (.int .i64 ((bs.length - 8 + i : Nat) : Int)), .junk, .junk, .junk, .junk, .junk, .junk, .junk, .junk, .junk, .junk, .junk, .junk, .junk, .junk, .junk, .junk, .junk, .junk, .junk], [], 4⟩, ?_, ?_⟩
    · refine ⟨_, _, weak_ren [0, 1, 2, 3] rfl rfl rfl ?_ ?_, 0, 0, rfl, by omega, by simp, rfl, rfl⟩
      · simp only [SameS, SameH, setSlot, gOf, AV.ren, renL, Blk.ren, Ax.look, Ax.put, reduceCtorEq, true_or, false_or, or_true, or_false, and_true, true_and, AV.w.injEq, Value.int.injEq, Value.bool.injEq, AV.ms.injEq, AV.sb.injEq, AV.str.injEq, ↓reduceIte, Nat.reduceEqDiff, Nat.reduceLT, List.length_append, List.length_cons, List.length_nil, Nat.zero_add, Nat.add_zero, Option.some.injEq, Blk.b.injEq, Blk.i.injEq, Nat.succ_ne_zero, Nat.reduceAdd, and_self]; simp
      · simp only [SameS, SameH, setSlot, gOf, AV.ren, renL, Blk.ren, Ax.look, Ax.put, reduceCtorEq, true_or, false_or, or_true, or_false, and_true, true_and, AV.w.injEq, Value.int.injEq, Value.bool.injEq, AV.ms.injEq, AV.sb.injEq, AV.str.injEq, ↓reduceIte, Nat.reduceEqDiff, Nat.reduceLT, List.length_append, List.length_cons, List.length_nil, Nat.zero_add, Nat.add_zero, Option.some.injEq, Blk.b.injEq, Blk.i.injEq, Nat.succ_ne_zero, Nat.reduceAdd, and_self]
    · rintro m σ ⟨i, X, rfl, hi, hX, hu, rfl⟩
      obtain ⟨k, hk⟩ : ∃ k, bs.length - 8 + i = k := ⟨_, rfl⟩
      rw [hk]
      simp -implicitDefEqProofs only [evT, evD0, evD1, evD2, implies_true, forall_const, Option.getD, later_normal, aop, aLen, ev, putSlot, cv, cvl, aConv, aBin, aInt, aUn, aFn, aEq, List.length, IntKind.bits, evo, coe, List.append, List.replicate, Nat.reduceAdd, Nat.reduceSub, Nat.reduceMul, Int.reduceToNat, reduceCtorEq, aIndexAddr, aIndex, TD.aggr, aPick, aMin, aMax, Ax.Ends, rone, ↓reduceIte, List.isEmpty, Int.reducePow, Nat.reducePow, Int.reduceMod, Nat.reduceLeDiff, Int.reduceLE, Int.reduceNe, Int.reduceEq, aAppend, appendB, viewB, List.drop, List.take, aRange, aNext, aCopy, srcB, viewG, appendG, appendI, aSlice, bnd, full3, aStore, setB, AV.leaves, AV.okv, AV.leaf, one, elemLeaves, Blk.size, Blk.len, Option.isSome, Option.isNone, aStr, aNil, aExtract, viewI, Nat.reduceEqDiff, Nat.reduceLT, Nat.reduceBEq, List.contains, List.elem, Blk.closed, Blk.noimm, ↓gsplit_tt, ↓gsplit_ff, ↓gsplit_tf, ↓gsplit_ft, ↓csplit_t, ↓csplit_f, givenUp, Blk.clean, notMs, ty, noS, decide_eq_true_eq, decide_eq_false_iff_not]
      refine ⟨fun hc => ?_, fun hc => ?_⟩
      · have hil : i < (last8 bs).length := by omega
        have h7 : (256 : Nat) ^ i ≤ 256 ^ 7 := Nat.pow_le_pow_right (by decide) (by omega)
        have h7' : (256 : Nat) ^ 7 = 72057594037927936 := by simp
        have hb := (last8 bs)[i].toNat_lt
        rw [List.drop_eq_getElem_cons hil] at hu
        have eg : bs.getD k 0 = (last8 bs)[i] := by
          have : (last8 bs)[i] = bs[k]'(by omega) := by simp [last8, hk]
          rw [this]; simp [show k < bs.length by omega]
        simp only [eg]
        refine ⟨⟨by omega, by omega⟩, (last8 bs).length - (i + 1), _, by omega, weak_ren [0, 1, 2, 3] rfl rfl rfl ?_ ?_, i + 1, X * 256 + (last8 bs)[i].toNat, rfl, by omega, ?_, hu, rfl⟩
        · simp only [SameS, SameH, setSlot, gOf, AV.ren, renL, Blk.ren, Ax.look, Ax.put, reduceCtorEq, true_or, false_or, or_true, or_false, and_true, true_and, AV.w.injEq, Value.int.injEq, Value.bool.injEq, AV.ms.injEq, AV.sb.injEq, AV.str.injEq, ↓reduceIte, Nat.reduceEqDiff, Nat.reduceLT, List.length_append, List.length_cons, List.length_nil, Nat.zero_add, Nat.add_zero, Option.some.injEq, Blk.b.injEq, Blk.i.injEq, Nat.succ_ne_zero, Nat.reduceAdd, and_self]; omega
        · simp only [SameS, SameH, setSlot, gOf, AV.ren, renL, Blk.ren, Ax.look, Ax.put, reduceCtorEq, true_or, false_or, or_true, or_false, and_true, true_and, AV.w.injEq, Value.int.injEq, Value.bool.injEq, AV.ms.injEq, AV.sb.injEq, AV.str.injEq, ↓reduceIte, Nat.reduceEqDiff, Nat.reduceLT, List.length_append, List.length_cons, List.length_nil, Nat.zero_add, Nat.add_zero, Option.some.injEq, Blk.b.injEq, Blk.i.injEq, Nat.succ_ne_zero, Nat.reduceAdd, and_self]
        · rw [Nat.pow_succ]; omega
      · have hil : i = (last8 bs).length := by omega
        subst hil
        rw [List.drop_length] at hu
        simp only [unfL, List.foldl_nil] at hu ⊢
        rw [← hu]
  · exact hp.elim
end
end Go.Proofs.Ytlbdhkgjhjcgiaa
