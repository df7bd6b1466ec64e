/- Layer 1: numbers of a set width. -/
import Derived.Test.YtliabgocaijafaaA2
import Derived.Test.YtliabgocaijafaaAxZb
namespace Go.Proofs.Ytliabgocaijafaa
open Ax
set_option linter.unusedSimpArgs false
set_option linter.unusedVariables false

/-- The last w bytes of a number. -/
def fixL (u : Nat) : Nat → List UInt8
  | 0 => []
  | w + 1 => UInt8.ofNat (u / 256 ^ w % 256) :: fixL u w
theorem fixL_length (u w : Nat) : (fixL u w).length = w := by
  induction w with
  | zero => rfl
  | succ w ih => simp [fixL, ih]

theorem clampI_range (n : Int) : 0 ≤ clampI n ∧ clampI n ≤ 8 := by unfold clampI; repeat' split
                                                                   all_goals omega

def fixS : FSpec
  | [.w (.int k u), .w (.int k' n)], [] => ⟨k = .u64 ∧ k' = .i64 ∧ 0 ≤ u ∧ u < 18446744073709551616, .ms 0 1 0 (clampI n).toNat, [.b (fixL u.toNat (clampI n).toNat)]⟩
  | _, _ => noRes

def S20 (f : FuncId) : Option FSpec :=
  match f with
  | 25 => some clampS
  | _ => none
theorem S20_ok : Fns Try.prog S20 := by
  intro f s h
  unfold S20 at h
  split at h
  · injection h with h; subst h; exact ⟨⟨_, Try.func25, by kernel_rfl, by kernel_rfl⟩, clamp_sound⟩
  · cases h

theorem shr8 (U i : Nat) : (U : Int) / 2 ^ (8 * i) = ((U / 256 ^ i : Nat) : Int) := by
  have : (2 : Int) ^ (8 * i) = ((256 ^ i : Nat) : Int) := by
    rw [show 256 = 2 ^ 8 from rfl, ← Nat.pow_mul]
    simp
  rw [this]; simp

theorem set_at (k : Nat) (b : UInt8) (l : List UInt8) : (List.replicate (k + 1) 0 ++ l).set k b = List.replicate k 0 ++ b :: l := by
  induction k with
  | zero => rfl
  | succ k ih =>
    rw [List.replicate_succ, List.cons_append, List.set_cons_succ, ih]
    rw [List.replicate_succ (n := k), List.cons_append]

section
set_option maxRecDepth 100000

theorem fixed_sound : Sound Try.prog 21 fixS := by
  refine fn_sound (S := S20) (T := ty) mixed ty_ok S20_ok Try.func21 (c := Try.f21.body.getD .skip) (by kernel_rfl) (by kernel_rfl) (fun xs pins hp _ => ?_)
  unfold fixS at hp ⊢
  split at hp
  · rename_i u k' n _
    obtain ⟨rfl, rfl, h1, h2⟩ := hp
    refine ⟨by decide, ?_⟩
    have hr := clampI_range n
    have hcl : ∃ W : Nat, clampI n = W := Int.eq_ofNat_of_zero_le hr.1
    obtain ⟨W, hW⟩ := hcl
    rw [hW] at hr
    obtain ⟨U, rfl⟩ := Int.eq_ofNat_of_zero_le h1
    unfold Try.f21
    simp only [evT, implies_true, forall_const, Option.getD, later_normal, aop, aLen, ev, slot, setSlot, putSlot, cv, cvl, aConv, aBin, aInt, aUn, aFn, aEq, Out.and, isBool, isPtr, List.length, IntKind.bits, evs, evo, evps, aCall, aUser, coes, coe, List.append, List.replicate, callOut, rootsL, AV.roots, lendsL, AV.lends, pinsOf, nodup, lendL, lend, closedB, noimmB, AV.noimm, AV.ren, renL, back, Nat.reduceAdd, Nat.reduceSub, Nat.reduceMul, Int.reduceToNat, reduceCtorEq, aLoad, subv, aIndexAddr, aIndex, TD.aggr, guardSlot, aPick, byte, word, aMin, aMax, Ax.Ends, EndsX, Ax.rvals, rone, AV.ids, idsL, newIds, upTo, pinHeap, gOf, ↓reduceIte, List.isEmpty, Int.reducePow, Nat.reducePow, Int.reduceMod, Nat.reduceLeDiff, Int.reduceLE, Int.reduceNe, Int.reduceEq, aBuildSlice, fillB, aAppend, appendB, viewB, Ax.look, Ax.put, Ax.drop, List.drop, List.take, asv, aMake, aCopy, srcB, fillG, viewG, appendG, appendI, fillI, aSlice, bnd, bnds, full3, cut, aFieldAddr, aField, aStore, setB, aBox, aBuild, fillS, allTy, AV.leaves, AV.okv, AV.leaf, one, splice, elemLeaves, Blk.size, Blk.len, Option.isSome, Option.isNone, isBytes, aStr, aNil, aAlloc, aExtract, viewI, Nat.reduceEqDiff, Nat.reduceLT, Nat.reduceBEq, List.contains, List.elem, Blk.closed, closedL, AV.closed, Blk.noimm, ↓gsplit_tt, ↓gsplit_ff, ↓gsplit_tf, ↓gsplit_ft, ↓csplit_t, ↓csplit_f, Ax.idx, AV.lentIds, lentIdsL, dropAll, givenUp, AV.clean, cleanL, Blk.clean, cleanB, quietC, flatTy, coldStr, notMs, eqV, eqF, isStruct, ty, S20, clampS, hW]
    refine ⟨by omega, awp_loop ⟨fun m σ => ∃ (i : Nat), m = W - i ∧ i ≤ W ∧
      σ = ⟨[.w (.int .u64 U), .w (.int .i64 W), .junk, .junk, .junk, .ms 4 1 0 W, .junk, .junk, .junk, .junk, .junk, .w (.int .i64 W), .w (.int .i64 i), .junk, .junk, .junk, .junk, .junk, .junk, .junk, .junk, .junk, .junk, .junk, .junk, .junk, .junk, .junk], [(4, .b (List.replicate (W - i) 0 ++ fixL U i))], 5⟩, ?_, ?_⟩⟩
    · refine ⟨_, _, (weak_ren [0, 1, 2, 3, 44] rfl rfl rfl ?_ ?_), 0, rfl, by omega, rfl⟩
      · simp only [SameS, SameH, setSlot, gOf, AV.ren, renL, Blk.ren, Ax.look, Ax.put, reduceCtorEq, true_or, false_or, or_true, or_false, and_true, true_and, AV.w.injEq, Value.int.injEq, Value.bool.injEq, AV.ms.injEq, AV.sb.injEq, AV.str.injEq, ↓reduceIte, Nat.reduceEqDiff, Nat.reduceLT, List.length_append, List.length_cons, List.length_nil, Nat.zero_add, Nat.add_zero, Option.some.injEq, Blk.b.injEq, Blk.i.injEq, Nat.succ_ne_zero, Nat.reduceAdd, and_self]; rfl
      · simp only [SameS, SameH, setSlot, gOf, AV.ren, renL, Blk.ren, Ax.look, Ax.put, reduceCtorEq, true_or, false_or, or_true, or_false, and_true, true_and, AV.w.injEq, Value.int.injEq, Value.bool.injEq, AV.ms.injEq, AV.sb.injEq, AV.str.injEq, ↓reduceIte, Nat.reduceEqDiff, Nat.reduceLT, List.length_append, List.length_cons, List.length_nil, Nat.zero_add, Nat.add_zero, Option.some.injEq, Blk.b.injEq, Blk.i.injEq, Nat.succ_ne_zero, Nat.reduceAdd, and_self, fixL, List.append_nil, Nat.sub_zero]
    · rintro m σ ⟨i, rfl, hi, rfl⟩
      simp only [evT, implies_true, forall_const, Option.getD, later_normal, aop, aLen, ev, slot, setSlot, putSlot, cv, cvl, aConv, aBin, aInt, aUn, aFn, aEq, Out.and, isBool, isPtr, List.length, IntKind.bits, evs, evo, evps, aCall, aUser, coes, coe, List.append, List.replicate, callOut, rootsL, AV.roots, lendsL, AV.lends, pinsOf, nodup, lendL, lend, closedB, noimmB, AV.noimm, AV.ren, renL, back, Nat.reduceAdd, Nat.reduceSub, Nat.reduceMul, Int.reduceToNat, reduceCtorEq, aLoad, subv, aIndexAddr, aIndex, TD.aggr, guardSlot, aPick, byte, word, aMin, aMax, Ax.Ends, EndsX, Ax.rvals, rone, AV.ids, idsL, newIds, upTo, pinHeap, gOf, ↓reduceIte, List.isEmpty, Int.reducePow, Nat.reducePow, Int.reduceMod, Nat.reduceLeDiff, Int.reduceLE, Int.reduceNe, Int.reduceEq, aBuildSlice, fillB, aAppend, appendB, viewB, Ax.look, Ax.put, Ax.drop, List.drop, List.take, asv, aMake, aCopy, srcB, fillG, viewG, appendG, appendI, fillI, aSlice, bnd, bnds, full3, cut, aFieldAddr, aField, aStore, setB, aBox, aBuild, fillS, allTy, AV.leaves, AV.okv, AV.leaf, one, splice, elemLeaves, Blk.size, Blk.len, Option.isSome, Option.isNone, isBytes, aStr, aNil, aAlloc, aExtract, viewI, Nat.reduceEqDiff, Nat.reduceLT, Nat.reduceBEq, List.contains, List.elem, Blk.closed, closedL, AV.closed, Blk.noimm, ↓gsplit_tt, ↓gsplit_ff, ↓gsplit_tf, ↓gsplit_ft, ↓csplit_t, ↓csplit_f, Ax.idx, AV.lentIds, lentIdsL, dropAll, givenUp, AV.clean, cleanL, Blk.clean, cleanB, quietC, flatTy, coldStr, notMs, eqV, eqF, isStruct, ty, noS, decide_eq_true_eq, decide_eq_false_iff_not]
      refine ⟨fun hc => ?_, fun hc => ?_⟩
      · have e1 : ((W : Int) - 1 + 9223372036854775808) % 18446744073709551616 - 9223372036854775808 = ((W - 1 : Nat) : Int) := by omega
        have e1' : (((W - 1 : Nat) : Int) - i + 9223372036854775808) % 18446744073709551616 - 9223372036854775808 = ((W - 1 - i : Nat) : Int) := by omega
        have e2 : (8 * (i : Int) + 9223372036854775808) % 18446744073709551616 - 9223372036854775808 = ((8 * i : Nat) : Int) := by omega
        have e3 : ((i : Int) + 1 + 9223372036854775808) % 18446744073709551616 - 9223372036854775808 = ((i + 1 : Nat) : Int) := by omega
        simp only [e1, e1', e2, e3, Int.toNat_natCast, if_pos (show 8 * i ≤ 64 by omega), shr8, fixL_length]
        have e4 : (((U / 256 ^ i : Nat) : Int) % 256) = ((U / 256 ^ i % 256 : Nat) : Int) := by omega
        have hlt : U / 256 ^ i % 256 < 256 := Nat.mod_lt _ (by decide)
        simp only [e4, Int.toNat_natCast]
        refine ⟨by omega, ⟨by omega, by omega⟩, ⟨by omega, by omega, by omega⟩, W - (i + 1), _, by omega, weak_ren [0, 1, 2, 3, 4] rfl rfl rfl ?_ ?_, i + 1, rfl, by omega, rfl⟩
        · simp only [SameS, SameH, setSlot, gOf, AV.ren, renL, Blk.ren, Ax.look, Ax.put, reduceCtorEq, true_or, false_or, or_true, or_false, and_true, true_and, AV.w.injEq, Value.int.injEq, Value.bool.injEq, AV.ms.injEq, AV.sb.injEq, AV.str.injEq, ↓reduceIte, Nat.reduceEqDiff, Nat.reduceLT, List.length_append, List.length_cons, List.length_nil, Nat.zero_add, Nat.add_zero, Option.some.injEq, Blk.b.injEq, Blk.i.injEq, Nat.succ_ne_zero, Nat.reduceAdd, and_self]
        · simp only [SameS, SameH, setSlot, gOf, AV.ren, renL, Blk.ren, Ax.look, Ax.put, reduceCtorEq, true_or, false_or, or_true, or_false, and_true, true_and, AV.w.injEq, Value.int.injEq, Value.bool.injEq, AV.ms.injEq, AV.sb.injEq, AV.str.injEq, ↓reduceIte, Nat.reduceEqDiff, Nat.reduceLT, List.length_append, List.length_cons, List.length_nil, Nat.zero_add, Nat.add_zero, Option.some.injEq, Blk.b.injEq, Blk.i.injEq, Nat.succ_ne_zero, Nat.reduceAdd, and_self]
          rw [show W - i = (W - 1 - i) + 1 by omega, set_at, show W - (i + 1) = W - 1 - i by omega]
          rfl
      · have hiW : i = W := by omega
        subst hiW
        simp
  · exact hp.elim

def unfL (bs : List UInt8) (n : Nat) : Nat := bs.foldl (fun n b => n * 256 + b.toNat) n
def last8 (bs : List UInt8) : List UInt8 := bs.drop (bs.length - 8)
theorem last8_length (bs : List UInt8) : (last8 bs).length ≤ 8 := by unfold last8; simp; omega
def unfS : FSpec
  | [.sb bs _], [] => ⟨bs.length ≤ 1000000, .w (.int .u64 (unfL (last8 bs) 0 : Nat)), []⟩
  | _, _ => noRes
theorem unfixed_sound : Sound Try.prog 26 unfS := by
  refine fn_sound (S := noS) (T := ty) mixed ty_ok noS_ok Try.func26 (c := Try.f26.body.getD .skip) (by kernel_rfl) (by kernel_rfl) (fun xs pins hp _ => ?_)
  unfold unfS at hp ⊢
  split at hp
  · rename_i bs f _
    have hp : bs.length ≤ 1000000 := hp
    refine ⟨by decide, ?_⟩
    have hl8 := last8_length bs
    have em : (if (0 : Int) > (bs.length - 8 + 9223372036854775808) % 18446744073709551616 - 9223372036854775808 then (0 : Int) else (bs.length - 8 + 9223372036854775808) % 18446744073709551616 - 9223372036854775808) = ((bs.length - 8 : Nat) : Int) := by
      split <;> omega
    have e8 : List.take (bs.length - (bs.length - 8)) (List.drop (bs.length - 8) bs) = last8 bs := by
      unfold last8
      exact List.take_of_length_le (by simp)
    unfold Try.f26
    simp only [evT, implies_true, forall_const, Option.getD, later_normal, aop, aLen, ev, slot, setSlot, putSlot, cv, cvl, aConv, aBin, aInt, aUn, aFn, aEq, Out.and, isBool, isPtr, List.length, IntKind.bits, evs, evo, evps, aCall, aUser, coes, coe, List.append, List.replicate, callOut, rootsL, AV.roots, lendsL, AV.lends, pinsOf, nodup, lendL, lend, closedB, noimmB, AV.noimm, AV.ren, renL, back, Nat.reduceAdd, Nat.reduceSub, Nat.reduceMul, Int.reduceToNat, reduceCtorEq, aLoad, subv, aIndexAddr, aIndex, TD.aggr, guardSlot, aPick, byte, word, aMin, aMax, Ax.Ends, EndsX, Ax.rvals, rone, AV.ids, idsL, newIds, upTo, pinHeap, gOf, ↓reduceIte, List.isEmpty, Int.reducePow, Nat.reducePow, Int.reduceMod, Nat.reduceLeDiff, Int.reduceLE, Int.reduceNe, Int.reduceEq, aBuildSlice, fillB, aAppend, appendB, viewB, Ax.look, Ax.put, Ax.drop, List.drop, List.take, asv, aMake, aCopy, srcB, fillG, viewG, appendG, appendI, fillI, aSlice, bnd, bnds, full3, cut, aFieldAddr, aField, aStore, setB, aBox, aBuild, fillS, allTy, AV.leaves, AV.okv, AV.leaf, one, splice, elemLeaves, Blk.size, Blk.len, Option.isSome, Option.isNone, isBytes, aStr, aNil, aAlloc, aExtract, viewI, Nat.reduceEqDiff, Nat.reduceLT, Nat.reduceBEq, List.contains, List.elem, Blk.closed, closedL, AV.closed, Blk.noimm, ↓gsplit_tt, ↓gsplit_ff, ↓gsplit_tf, ↓gsplit_ft, ↓csplit_t, ↓csplit_f, Ax.idx, AV.lentIds, lentIdsL, dropAll, givenUp, AV.clean, cleanL, Blk.clean, cleanB, quietC, flatTy, coldStr, notMs, eqV, eqF, isStruct, ty, noS, em, e8]
    refine ⟨⟨by omega, by omega⟩, awp_loop ⟨fun m σ => ∃ (i X : Nat), m = (last8 bs).length - i ∧ i ≤ (last8 bs).length ∧ X < 256 ^ i ∧ unfL ((last8 bs).drop i) X = unfL (last8 bs) 0 ∧
      σ = ⟨[.sb bs f, .junk, .junk, .w (.int .u64 X), .junk, .junk, .junk, .junk, .junk, .junk, .junk, .sb (last8 bs) f, .w (.int .i64 (last8 bs).length), .w (.int .i64 i), .junk, .junk, .junk, .junk, .junk, .junk, .junk, .junk, .junk, .junk], [], 4⟩, ?_, ?_⟩⟩
    · refine ⟨_, _, weak_ren [0, 1, 2, 3] rfl rfl rfl ?_ ?_, 0, 0, rfl, by omega, by simp, rfl, rfl⟩
      · simp only [SameS, SameH, setSlot, gOf, AV.ren, renL, Blk.ren, Ax.look, Ax.put, reduceCtorEq, true_or, false_or, or_true, or_false, and_true, true_and, AV.w.injEq, Value.int.injEq, Value.bool.injEq, AV.ms.injEq, AV.sb.injEq, AV.str.injEq, ↓reduceIte, Nat.reduceEqDiff, Nat.reduceLT, List.length_append, List.length_cons, List.length_nil, Nat.zero_add, Nat.add_zero, Option.some.injEq, Blk.b.injEq, Blk.i.injEq, Nat.succ_ne_zero, Nat.reduceAdd, and_self]; simp
      · simp only [SameS, SameH, setSlot, gOf, AV.ren, renL, Blk.ren, Ax.look, Ax.put, reduceCtorEq, true_or, false_or, or_true, or_false, and_true, true_and, AV.w.injEq, Value.int.injEq, Value.bool.injEq, AV.ms.injEq, AV.sb.injEq, AV.str.injEq, ↓reduceIte, Nat.reduceEqDiff, Nat.reduceLT, List.length_append, List.length_cons, List.length_nil, Nat.zero_add, Nat.add_zero, Option.some.injEq, Blk.b.injEq, Blk.i.injEq, Nat.succ_ne_zero, Nat.reduceAdd, and_self]
    · rintro m σ ⟨i, X, rfl, hi, hX, hu, rfl⟩
      simp only [evT, implies_true, forall_const, Option.getD, later_normal, aop, aLen, ev, slot, setSlot, putSlot, cv, cvl, aConv, aBin, aInt, aUn, aFn, aEq, Out.and, isBool, isPtr, List.length, IntKind.bits, evs, evo, evps, aCall, aUser, coes, coe, List.append, List.replicate, callOut, rootsL, AV.roots, lendsL, AV.lends, pinsOf, nodup, lendL, lend, closedB, noimmB, AV.noimm, AV.ren, renL, back, Nat.reduceAdd, Nat.reduceSub, Nat.reduceMul, Int.reduceToNat, reduceCtorEq, aLoad, subv, aIndexAddr, aIndex, TD.aggr, guardSlot, aPick, byte, word, aMin, aMax, Ax.Ends, EndsX, Ax.rvals, rone, AV.ids, idsL, newIds, upTo, pinHeap, gOf, ↓reduceIte, List.isEmpty, Int.reducePow, Nat.reducePow, Int.reduceMod, Nat.reduceLeDiff, Int.reduceLE, Int.reduceNe, Int.reduceEq, aBuildSlice, fillB, aAppend, appendB, viewB, Ax.look, Ax.put, Ax.drop, List.drop, List.take, asv, aMake, aCopy, srcB, fillG, viewG, appendG, appendI, fillI, aSlice, bnd, bnds, full3, cut, aFieldAddr, aField, aStore, setB, aBox, aBuild, fillS, allTy, AV.leaves, AV.okv, AV.leaf, one, splice, elemLeaves, Blk.size, Blk.len, Option.isSome, Option.isNone, isBytes, aStr, aNil, aAlloc, aExtract, viewI, Nat.reduceEqDiff, Nat.reduceLT, Nat.reduceBEq, List.contains, List.elem, Blk.closed, closedL, AV.closed, Blk.noimm, ↓gsplit_tt, ↓gsplit_ff, ↓gsplit_tf, ↓gsplit_ft, ↓csplit_t, ↓csplit_f, Ax.idx, AV.lentIds, lentIdsL, dropAll, givenUp, AV.clean, cleanL, Blk.clean, cleanB, quietC, flatTy, coldStr, notMs, eqV, eqF, isStruct, ty, noS, decide_eq_true_eq, decide_eq_false_iff_not]
      refine ⟨fun hc => ?_, fun hc => ?_⟩
      · have hil : i < (last8 bs).length := by omega
        have h7 : (256 : Nat) ^ i ≤ 256 ^ 7 := Nat.pow_le_pow_right (by decide) (by omega)
        have h7' : (256 : Nat) ^ 7 = 72057594037927936 := by simp
        have hb := (last8 bs)[i].toNat_lt
        rw [List.drop_eq_getElem_cons hil] at hu
        have eg : (last8 bs).getD i 0 = (last8 bs)[i] := by simp [hil]
        have eor : bits .or .u64 ((X : Int) * 256 % 18446744073709551616) (((last8 bs)[i].toNat : Int) % 18446744073709551616) = ((X * 256 + (last8 bs)[i].toNat : Nat) : Int) := by
          rw [u64_or _ _ (by omega) (by omega) (by omega) (by omega)]
          rw [show ((X : Int) * 256 % 18446744073709551616).toNat = X * 256 by omega, show (((last8 bs)[i].toNat : Int) % 18446744073709551616).toNat = (last8 bs)[i].toNat by omega, nat_join 8 _ _ (by omega) (by simpa using hb)]
        simp only [eg, eor]
        refine ⟨⟨by omega, hil⟩, (last8 bs).length - (i + 1), _, by omega, weak_ren [0, 1, 2, 3] rfl rfl rfl ?_ ?_, i + 1, X * 256 + (last8 bs)[i].toNat, rfl, by omega, ?_, hu, rfl⟩
        · simp only [SameS, SameH, setSlot, gOf, AV.ren, renL, Blk.ren, Ax.look, Ax.put, reduceCtorEq, true_or, false_or, or_true, or_false, and_true, true_and, AV.w.injEq, Value.int.injEq, Value.bool.injEq, AV.ms.injEq, AV.sb.injEq, AV.str.injEq, ↓reduceIte, Nat.reduceEqDiff, Nat.reduceLT, List.length_append, List.length_cons, List.length_nil, Nat.zero_add, Nat.add_zero, Option.some.injEq, Blk.b.injEq, Blk.i.injEq, Nat.succ_ne_zero, Nat.reduceAdd, and_self]; omega
        · simp only [SameS, SameH, setSlot, gOf, AV.ren, renL, Blk.ren, Ax.look, Ax.put, reduceCtorEq, true_or, false_or, or_true, or_false, and_true, true_and, AV.w.injEq, Value.int.injEq, Value.bool.injEq, AV.ms.injEq, AV.sb.injEq, AV.str.injEq, ↓reduceIte, Nat.reduceEqDiff, Nat.reduceLT, List.length_append, List.length_cons, List.length_nil, Nat.zero_add, Nat.add_zero, Option.some.injEq, Blk.b.injEq, Blk.i.injEq, Nat.succ_ne_zero, Nat.reduceAdd, and_self]
        · rw [Nat.pow_succ]; omega
      · have hil : i = (last8 bs).length := by omega
        subst hil
        rw [List.drop_length] at hu
        simp only [unfL, List.foldl_nil] at hu ⊢
        rw [← hu]
  · exact hp.elim
end
end Go.Proofs.Ytliabgocaijafaa
