/- Layer 1: the document's own reading of a number of few bytes. -/
import Derived.Test.YthodcljimjglcaaG1
namespace Go.Proofs.Ythodcljimjglcaa
open Ax
set_option linter.unusedSimpArgs false
set_option linter.unusedVariables false

def S23 (f : FuncId) : Option FSpec :=
  match f with
  | 58 => some zgS
  | 50 => some bytesS
  | _ => none
theorem S23_ok : Fns Try.prog S23 := by
  intro f s h
  unfold S23 at h
  split at h
  · injection h with h; subst h; exact ⟨⟨_, Try.func58, by kernel_rfl, by kernel_rfl⟩, rzag_sound⟩
  · injection h with h; subst h; exact ⟨⟨_, Try.func50, by kernel_rfl, by kernel_rfl⟩, bytes_sound⟩
  · cases h

theorem getL_ten (bs : List UInt8) (hall : ∀ d ∈ bs.take 10, 128 ≤ d.toNat) (hl : 10 ≤ bs.length) : getL bs = (0, 0, 4) := by
  have e : bs = bs.take 10 ++ bs.drop 10 := (List.take_append_drop 10 bs).symm
  rw [getL_M, e]
  exact getM_ten _ 0 0 _ hall (by simp; omega)
theorem getL_open (bs : List UInt8) (hall : ∀ d ∈ bs, 128 ≤ d.toNat) (hl : bs.length < 10) : getL bs = (0, 0, 3) := by
  rw [getL_M, getM_open bs 0 0 hall (by omega), if_pos (by omega)]
theorem getL_end (bs : List UInt8) (i : Nat) (hi : i < bs.length) (h9 : i ≤ 9) (hall : ∀ d ∈ bs.take i, 128 ≤ d.toNat) (hc : bs[i].toNat < 128) :
    getL bs = if putU (valU (bs.take (i + 1)) % 18446744073709551616) = bs.take (i + 1) then (zg ((valU (bs.take (i + 1)) % 18446744073709551616 : Nat) : Int), i + 1, 0) else (0, 0, 4) := by
  have e : bs = bs.take i ++ bs[i] :: bs.drop (i + 1) := by
    rw [← List.drop_eq_getElem_cons hi, List.take_append_drop]
  have e2 : bs.take (i + 1) = bs.take i ++ [bs[i]] := by rw [List.take_succ_eq_append_getElem hi]
  have hlen : (bs.take i).length = i := by simp; omega
  have h1 := getM_end (bs.take i) 0 0 bs[i] (bs.drop (i + 1)) hall hc (by omega)
  have hcan := canon (bs.take i) bs[i] hall hc (by omega)
  rw [← e] at h1
  rw [getL_M, h1, e2]
  simp only [Nat.zero_add, hlen, Nat.pow_zero, Nat.mul_one] at hcan ⊢
  by_cases hbad : (0 < i ∧ bs[i].toNat = 0) ∨ (i = 9 ∧ 1 < bs[i].toNat)
  · rw [if_pos hbad, if_neg (fun h => (hcan.1 h) hbad)]
  · have hput := hcan.2 hbad
    rw [if_neg hbad, if_pos hput]
    have hv := val_put (valU (bs.take i ++ [bs[i]]) % 18446744073709551616)
    rw [hput] at hv
    rw [← hv]

theorem valU_step (bs : List UInt8) (n k : Nat) (hk : k < n) (hn : n ≤ bs.length) : valU ((bs.take n).drop k) = (bs.getD k 0).toNat % 128 + 128 * valU ((bs.take n).drop (k + 1)) := by
  have hkl : k < (bs.take n).length := by simp; omega
  rw [List.drop_eq_getElem_cons hkl]
  have : (bs.take n)[k] = bs.getD k 0 := by
    simp [show k < bs.length by omega]
  rw [this]; rfl

theorem tmod_cast (a b : Nat) : (a : Int).tmod b = ((a % b : Nat) : Int) := by
  rw [Int.tmod_eq_emod_of_nonneg (by omega)]; simp

section
set_option maxRecDepth 100000
theorem rget_sound : Sound Try.prog 56 getS := by
  refine fn_sound (S := S23) (T := ty) mixed ty_ok S23_ok Try.func56 (c := Try.f56.body.getD .skip) (by kernel_rfl) (by kernel_rfl) (fun xs pins hp _ => ?_)
  unfold getS at hp ⊢
  split at hp
  · rename_i bs f _
    have hp : bs.length ≤ 1000000 := hp
    refine ⟨by simp, ?_⟩
    obtain ⟨G, hG⟩ : ∃ G, getL bs = G := ⟨_, rfl⟩
    rw [hG]
    unfold Try.f56
    simp -implicitDefEqProofs only [evT, implies_true, forall_const, Option.getD, later_normal, aop, aLen, ev, slot, setSlot, putSlot, cv, cvl, aConv, aBin, aInt, aUn, aFn, aEq, Out.and, isBool, isPtr, List.length, IntKind.bits, evs, evo, evps, aCall, aUser, coes, coe, List.append, List.replicate, callOut, rootsL, AV.roots, lendsL, AV.lends, pinsOf, nodup, lendL, lend, closedB, noimmB, AV.noimm, AV.ren, renL, back, Nat.reduceAdd, Nat.reduceSub, Nat.reduceMul, Int.reduceToNat, reduceCtorEq, aLoad, subv, aIndexAddr, aIndex, TD.aggr, guardSlot, aPick, byte, word, aMin, aMax, Ax.Ends, EndsX, Ax.rvals, rone, AV.ids, idsL, newIds, upTo, pinHeap, gOf, ↓reduceIte, List.isEmpty, Int.reducePow, Nat.reducePow, Int.reduceMod, Nat.reduceLeDiff, Int.reduceLE, Int.reduceNe, Int.reduceEq, aBuildSlice, fillB, aAppend, appendB, viewB, Ax.look, Ax.put, Ax.drop, List.drop, List.take, asv, aMake, aCopy, srcB, fillG, viewG, appendG, appendI, fillI, aSlice, bnd, bnds, full3, cut, aFieldAddr, aField, aStore, setB, aBox, aBuild, fillS, allTy, AV.leaves, AV.okv, AV.leaf, one, splice, elemLeaves, Blk.size, Blk.len, Option.isSome, Option.isNone, isBytes, aStr, aNil, aAlloc, aExtract, viewI, Nat.reduceEqDiff, Nat.reduceLT, Nat.reduceBEq, List.contains, List.elem, Blk.closed, closedL, AV.closed, Blk.noimm, ↓gsplit_tt, ↓gsplit_ff, ↓gsplit_tf, ↓gsplit_ft, ↓csplit_t, ↓csplit_f, Ax.idx, AV.lentIds, lentIdsL, dropAll, givenUp, AV.clean, cleanL, Blk.clean, cleanB, quietC, flatTy, coldStr, notMs, eqV, eqF, isStruct, ty, S23]
    refine awp_loop ⟨fun m σ => ∃ (i : Nat), m = bs.length - i ∧ i ≤ bs.length ∧ i ≤ 10 ∧ (∀ d ∈ bs.take i, 128 ≤ d.toNat) ∧
      σ = ⟨[.sb bs f, .junk, .w (.int .i64 0), .w (.int .i64 0), .w (.int .i64 0), .w (.int .i64 i), .junk, .junk, .junk, .junk, .junk, .junk, .junk, .junk, .junk, .junk, .junk, .junk, .junk, .junk, .junk, .junk, .junk, .junk, .junk, .junk, .junk, .junk, .junk, .junk, .junk, .junk, .junk, .junk, .junk, .junk, .junk, .junk, .junk, .junk, .junk, .junk, .junk, .junk, .junk, .junk, .junk, .junk, .junk, .junk, .junk, .junk, .junk, .junk, .junk, .junk, .junk, .junk, .junk, .junk], [], 4⟩, ?_, ?_⟩
    · refine ⟨_, _, weak_ren [0, 1, 2, 3] rfl rfl rfl ?_ ?_, 0, rfl, by omega, by omega, by simp, rfl⟩
      · simp only [SameS, SameH, setSlot, gOf, AV.ren, renL, Blk.ren, Ax.look, Ax.put, reduceCtorEq, true_or, false_or, or_true, or_false, and_true, true_and, AV.w.injEq, Value.int.injEq, Value.bool.injEq, AV.ms.injEq, AV.sb.injEq, AV.str.injEq, ↓reduceIte, Nat.reduceEqDiff, Nat.reduceLT, List.length_append, List.length_cons, List.length_nil, Nat.zero_add, Nat.add_zero, Option.some.injEq, Blk.b.injEq, Blk.i.injEq, Nat.succ_ne_zero, Nat.reduceAdd, and_self]; rfl
      · simp only [SameS, SameH, setSlot, gOf, AV.ren, renL, Blk.ren, Ax.look, Ax.put, reduceCtorEq, true_or, false_or, or_true, or_false, and_true, true_and, AV.w.injEq, Value.int.injEq, Value.bool.injEq, AV.ms.injEq, AV.sb.injEq, AV.str.injEq, ↓reduceIte, Nat.reduceEqDiff, Nat.reduceLT, List.length_append, List.length_cons, List.length_nil, Nat.zero_add, Nat.add_zero, Option.some.injEq, Blk.b.injEq, Blk.i.injEq, Nat.succ_ne_zero, Nat.reduceAdd, and_self]
    · rintro m σ ⟨i, rfl, hi, hi10, hall, rfl⟩
      have e1 : ((i : Int) + 1 + 9223372036854775808) % 18446744073709551616 - 9223372036854775808 = ((i + 1 : Nat) : Int) := by omega
      by_cases h1 : i < bs.length ∧ i < 10 ∧ 128 ≤ (bs.getD i 0).toNat
      · obtain ⟨ha, hb, hc⟩ := h1
        have d1 : decide ((i : Int) < bs.length) = true := decide_eq_true (by omega)
        have d2 : decide ((i : Int) < 10) = true := decide_eq_true (by omega)
        have d3 : decide ((128 : Int) ≤ ((bs.getD i 0).toNat : Int)) = true := decide_eq_true (by omega)
        simp -implicitDefEqProofs only [evT, implies_true, forall_const, Option.getD, later_normal, aop, aLen, ev, slot, setSlot, putSlot, cv, cvl, aConv, aBin, aInt, aUn, aFn, aEq, Out.and, isBool, isPtr, List.length, IntKind.bits, evs, evo, evps, aCall, aUser, coes, coe, List.append, List.replicate, callOut, rootsL, AV.roots, lendsL, AV.lends, pinsOf, nodup, lendL, lend, closedB, noimmB, AV.noimm, AV.ren, renL, back, Nat.reduceAdd, Nat.reduceSub, Nat.reduceMul, Int.reduceToNat, reduceCtorEq, aLoad, subv, aIndexAddr, aIndex, TD.aggr, guardSlot, aPick, byte, word, aMin, aMax, Ax.Ends, EndsX, Ax.rvals, rone, AV.ids, idsL, newIds, upTo, pinHeap, gOf, ↓reduceIte, List.isEmpty, Int.reducePow, Nat.reducePow, Int.reduceMod, Nat.reduceLeDiff, Int.reduceLE, Int.reduceNe, Int.reduceEq, aBuildSlice, fillB, aAppend, appendB, viewB, Ax.look, Ax.put, Ax.drop, List.drop, List.take, asv, aMake, aCopy, srcB, fillG, viewG, appendG, appendI, fillI, aSlice, bnd, bnds, full3, cut, aFieldAddr, aField, aStore, setB, aBox, aBuild, fillS, allTy, AV.leaves, AV.okv, AV.leaf, one, splice, elemLeaves, Blk.size, Blk.len, Option.isSome, Option.isNone, isBytes, aStr, aNil, aAlloc, aExtract, viewI, Nat.reduceEqDiff, Nat.reduceLT, Nat.reduceBEq, List.contains, List.elem, Blk.closed, closedL, AV.closed, Blk.noimm, ↓gsplit_tt, ↓gsplit_ff, ↓gsplit_tf, ↓gsplit_ft, ↓csplit_t, ↓csplit_f, Ax.idx, AV.lentIds, lentIdsL, dropAll, givenUp, AV.clean, cleanL, Blk.clean, cleanB, quietC, flatTy, coldStr, notMs, eqV, eqF, isStruct, ty, S23, d1, d2, d3, e1]
        refine ⟨⟨by omega, by omega⟩, bs.length - (i + 1), _, by omega, weak_ren [0, 1, 2, 3] rfl rfl rfl ?_ ?_, i + 1, rfl, by omega, by omega, ?_, rfl⟩
        · simp only [SameS, SameH, setSlot, gOf, AV.ren, renL, Blk.ren, Ax.look, Ax.put, reduceCtorEq, true_or, false_or, or_true, or_false, and_true, true_and, AV.w.injEq, Value.int.injEq, Value.bool.injEq, AV.ms.injEq, AV.sb.injEq, AV.str.injEq, ↓reduceIte, Nat.reduceEqDiff, Nat.reduceLT, List.length_append, List.length_cons, List.length_nil, Nat.zero_add, Nat.add_zero, Option.some.injEq, Blk.b.injEq, Blk.i.injEq, Nat.succ_ne_zero, Nat.reduceAdd, and_self]
        · simp only [SameS, SameH, setSlot, gOf, AV.ren, renL, Blk.ren, Ax.look, Ax.put, reduceCtorEq, true_or, false_or, or_true, or_false, and_true, true_and, AV.w.injEq, Value.int.injEq, Value.bool.injEq, AV.ms.injEq, AV.sb.injEq, AV.str.injEq, ↓reduceIte, Nat.reduceEqDiff, Nat.reduceLT, List.length_append, List.length_cons, List.length_nil, Nat.zero_add, Nat.add_zero, Option.some.injEq, Blk.b.injEq, Blk.i.injEq, Nat.succ_ne_zero, Nat.reduceAdd, and_self]
        · intro d hd
          rw [List.take_succ_eq_append_getElem ha, List.mem_append] at hd
          rcases hd with hd | hd
          · exact hall d hd
          · have : d = bs[i] := by simpa using hd
            have eg : bs.getD i 0 = bs[i] := by simp [ha]
            rw [this, ← eg]; exact hc
      · -- the loop is left
        by_cases h10 : i = 10
        · subst h10
          have hG2 := getL_ten bs hall hi
          rw [hG] at hG2
          subst hG2
          have d2 : decide (((10 : Nat) : Int) < 10) = false := by simp
          have d3 : decide (((10 : Nat) : Int) = 10) = true := by simp
          by_cases hl : 10 < bs.length
          · have d1 : decide (((10 : Nat) : Int) < bs.length) = true := decide_eq_true (by omega)
            simp -implicitDefEqProofs only [evT, implies_true, forall_const, Option.getD, later_normal, aop, aLen, ev, slot, setSlot, putSlot, cv, cvl, aConv, aBin, aInt, aUn, aFn, aEq, Out.and, isBool, isPtr, List.length, IntKind.bits, evs, evo, evps, aCall, aUser, coes, coe, List.append, List.replicate, callOut, rootsL, AV.roots, lendsL, AV.lends, pinsOf, nodup, lendL, lend, closedB, noimmB, AV.noimm, AV.ren, renL, back, Nat.reduceAdd, Nat.reduceSub, Nat.reduceMul, Int.reduceToNat, reduceCtorEq, aLoad, subv, aIndexAddr, aIndex, TD.aggr, guardSlot, aPick, byte, word, aMin, aMax, Ax.Ends, EndsX, Ax.rvals, rone, AV.ids, idsL, newIds, upTo, pinHeap, gOf, ↓reduceIte, List.isEmpty, Int.reducePow, Nat.reducePow, Int.reduceMod, Nat.reduceLeDiff, Int.reduceLE, Int.reduceNe, Int.reduceEq, aBuildSlice, fillB, aAppend, appendB, viewB, Ax.look, Ax.put, Ax.drop, List.drop, List.take, asv, aMake, aCopy, srcB, fillG, viewG, appendG, appendI, fillI, aSlice, bnd, bnds, full3, cut, aFieldAddr, aField, aStore, setB, aBox, aBuild, fillS, allTy, AV.leaves, AV.okv, AV.leaf, one, splice, elemLeaves, Blk.size, Blk.len, Option.isSome, Option.isNone, isBytes, aStr, aNil, aAlloc, aExtract, viewI, Nat.reduceEqDiff, Nat.reduceLT, Nat.reduceBEq, List.contains, List.elem, Blk.closed, closedL, AV.closed, Blk.noimm, ↓gsplit_tt, ↓gsplit_ff, ↓gsplit_tf, ↓gsplit_ft, ↓csplit_t, ↓csplit_f, Ax.idx, AV.lentIds, lentIdsL, dropAll, givenUp, AV.clean, cleanL, Blk.clean, cleanB, quietC, flatTy, coldStr, notMs, eqV, eqF, isStruct, ty, S23, d1, d2, d3]
            rfl
          · have d1 : decide (((10 : Nat) : Int) < bs.length) = false := decide_eq_false (by omega)
            simp -implicitDefEqProofs only [evT, implies_true, forall_const, Option.getD, later_normal, aop, aLen, ev, slot, setSlot, putSlot, cv, cvl, aConv, aBin, aInt, aUn, aFn, aEq, Out.and, isBool, isPtr, List.length, IntKind.bits, evs, evo, evps, aCall, aUser, coes, coe, List.append, List.replicate, callOut, rootsL, AV.roots, lendsL, AV.lends, pinsOf, nodup, lendL, lend, closedB, noimmB, AV.noimm, AV.ren, renL, back, Nat.reduceAdd, Nat.reduceSub, Nat.reduceMul, Int.reduceToNat, reduceCtorEq, aLoad, subv, aIndexAddr, aIndex, TD.aggr, guardSlot, aPick, byte, word, aMin, aMax, Ax.Ends, EndsX, Ax.rvals, rone, AV.ids, idsL, newIds, upTo, pinHeap, gOf, ↓reduceIte, List.isEmpty, Int.reducePow, Nat.reducePow, Int.reduceMod, Nat.reduceLeDiff, Int.reduceLE, Int.reduceNe, Int.reduceEq, aBuildSlice, fillB, aAppend, appendB, viewB, Ax.look, Ax.put, Ax.drop, List.drop, List.take, asv, aMake, aCopy, srcB, fillG, viewG, appendG, appendI, fillI, aSlice, bnd, bnds, full3, cut, aFieldAddr, aField, aStore, setB, aBox, aBuild, fillS, allTy, AV.leaves, AV.okv, AV.leaf, one, splice, elemLeaves, Blk.size, Blk.len, Option.isSome, Option.isNone, isBytes, aStr, aNil, aAlloc, aExtract, viewI, Nat.reduceEqDiff, Nat.reduceLT, Nat.reduceBEq, List.contains, List.elem, Blk.closed, closedL, AV.closed, Blk.noimm, ↓gsplit_tt, ↓gsplit_ff, ↓gsplit_tf, ↓gsplit_ft, ↓csplit_t, ↓csplit_f, Ax.idx, AV.lentIds, lentIdsL, dropAll, givenUp, AV.clean, cleanL, Blk.clean, cleanB, quietC, flatTy, coldStr, notMs, eqV, eqF, isStruct, ty, S23, d1, d2, d3]
            rfl
        · have d3 : decide ((i : Int) = 10) = false := decide_eq_false (by omega)
          have d2 : decide ((i : Int) < 10) = true := decide_eq_true (by omega)
          by_cases hl : i = bs.length
          · have d1 : decide ((i : Int) < bs.length) = false := decide_eq_false (by omega)
            have d4 : decide ((i : Int) = bs.length) = true := decide_eq_true (by omega)
            rw [hl, List.take_length] at hall
            have hG2 := getL_open bs hall (by omega)
            rw [hG] at hG2
            subst hG2
            simp -implicitDefEqProofs only [evT, implies_true, forall_const, Option.getD, later_normal, aop, aLen, ev, slot, setSlot, putSlot, cv, cvl, aConv, aBin, aInt, aUn, aFn, aEq, Out.and, isBool, isPtr, List.length, IntKind.bits, evs, evo, evps, aCall, aUser, coes, coe, List.append, List.replicate, callOut, rootsL, AV.roots, lendsL, AV.lends, pinsOf, nodup, lendL, lend, closedB, noimmB, AV.noimm, AV.ren, renL, back, Nat.reduceAdd, Nat.reduceSub, Nat.reduceMul, Int.reduceToNat, reduceCtorEq, aLoad, subv, aIndexAddr, aIndex, TD.aggr, guardSlot, aPick, byte, word, aMin, aMax, Ax.Ends, EndsX, Ax.rvals, rone, AV.ids, idsL, newIds, upTo, pinHeap, gOf, ↓reduceIte, List.isEmpty, Int.reducePow, Nat.reducePow, Int.reduceMod, Nat.reduceLeDiff, Int.reduceLE, Int.reduceNe, Int.reduceEq, aBuildSlice, fillB, aAppend, appendB, viewB, Ax.look, Ax.put, Ax.drop, List.drop, List.take, asv, aMake, aCopy, srcB, fillG, viewG, appendG, appendI, fillI, aSlice, bnd, bnds, full3, cut, aFieldAddr, aField, aStore, setB, aBox, aBuild, fillS, allTy, AV.leaves, AV.okv, AV.leaf, one, splice, elemLeaves, Blk.size, Blk.len, Option.isSome, Option.isNone, isBytes, aStr, aNil, aAlloc, aExtract, viewI, Nat.reduceEqDiff, Nat.reduceLT, Nat.reduceBEq, List.contains, List.elem, Blk.closed, closedL, AV.closed, Blk.noimm, ↓gsplit_tt, ↓gsplit_ff, ↓gsplit_tf, ↓gsplit_ft, ↓csplit_t, ↓csplit_f, Ax.idx, AV.lentIds, lentIdsL, dropAll, givenUp, AV.clean, cleanL, Blk.clean, cleanB, quietC, flatTy, coldStr, notMs, eqV, eqF, isStruct, ty, S23, d1, d2, d3, d4]
            rfl
          · have hil : i < bs.length := by omega
            have hc : ¬ 128 ≤ (bs.getD i 0).toNat := fun h => h1 ⟨hil, by omega, h⟩
            have eg : bs.getD i 0 = bs[i] := by simp [hil]
            have hG2 := getL_end bs i hil (by omega) hall (by rw [← eg]; omega)
            rw [hG] at hG2
            have d1 : decide ((i : Int) < bs.length) = true := decide_eq_true (by omega)
            have d4 : decide ((i : Int) = bs.length) = false := decide_eq_false (by omega)
            have d5 : decide ((128 : Int) ≤ ((bs.getD i 0).toNat : Int)) = false := decide_eq_false (by omega)
            simp -implicitDefEqProofs only [evT, implies_true, forall_const, Option.getD, later_normal, aop, aLen, ev, slot, setSlot, putSlot, cv, cvl, aConv, aBin, aInt, aUn, aFn, aEq, Out.and, isBool, isPtr, List.length, IntKind.bits, evs, evo, evps, aCall, aUser, coes, coe, List.append, List.replicate, callOut, rootsL, AV.roots, lendsL, AV.lends, pinsOf, nodup, lendL, lend, closedB, noimmB, AV.noimm, AV.ren, renL, back, Nat.reduceAdd, Nat.reduceSub, Nat.reduceMul, Int.reduceToNat, reduceCtorEq, aLoad, subv, aIndexAddr, aIndex, TD.aggr, guardSlot, aPick, byte, word, aMin, aMax, Ax.Ends, EndsX, Ax.rvals, rone, AV.ids, idsL, newIds, upTo, pinHeap, gOf, ↓reduceIte, List.isEmpty, Int.reducePow, Nat.reducePow, Int.reduceMod, Nat.reduceLeDiff, Int.reduceLE, Int.reduceNe, Int.reduceEq, aBuildSlice, fillB, aAppend, appendB, viewB, Ax.look, Ax.put, Ax.drop, List.drop, List.take, asv, aMake, aCopy, srcB, fillG, viewG, appendG, appendI, fillI, aSlice, bnd, bnds, full3, cut, aFieldAddr, aField, aStore, setB, aBox, aBuild, fillS, allTy, AV.leaves, AV.okv, AV.leaf, one, splice, elemLeaves, Blk.size, Blk.len, Option.isSome, Option.isNone, isBytes, aStr, aNil, aAlloc, aExtract, viewI, Nat.reduceEqDiff, Nat.reduceLT, Nat.reduceBEq, List.contains, List.elem, Blk.closed, closedL, AV.closed, Blk.noimm, ↓gsplit_tt, ↓gsplit_ff, ↓gsplit_tf, ↓gsplit_ft, ↓csplit_t, ↓csplit_f, Ax.idx, AV.lentIds, lentIdsL, dropAll, givenUp, AV.clean, cleanL, Blk.clean, cleanB, quietC, flatTy, coldStr, notMs, eqV, eqF, isStruct, ty, S23, d1, d2, d3, d4, d5]
            refine ⟨⟨by omega, by omega⟩, awp_loop ⟨fun m σ => ∃ (k : Nat), m = k ∧ k ≤ i + 1 ∧
              σ = ⟨[.sb bs f, .junk, .w (.int .i64 0), .w (.int .i64 0), .w (.int .i64 0), .w (.int .i64 i), .w (.int .u64 ((valU ((bs.take (i + 1)).drop k) % 18446744073709551616 : Nat) : Int)), .w (.int .i64 ((k : Int) - 1)), .junk, .junk, .junk, .junk, .junk, .junk, .junk, .junk, .junk, .junk, .junk, .junk, .junk, .junk, .junk, .junk, .junk, .junk, .junk, .junk, .junk, .junk, .junk, .junk, .junk, .junk, .junk, .junk, .junk, .junk, .junk, .junk, .junk, .junk, .junk, .junk, .junk, .junk, .junk, .junk, .junk, .junk, .junk, .junk, .junk, .junk, .junk, .junk, .junk, .junk, .junk, .junk], [], 4⟩, ?_, ?_⟩⟩
            · refine ⟨_, _, weak_ren [0, 1, 2, 3] rfl rfl rfl ?_ ?_, i + 1, rfl, by omega, rfl⟩
              · have : (bs.take (i + 1)).drop (i + 1) = [] := List.drop_of_length_le (by simp; omega)
                simp only [SameS, SameH, setSlot, gOf, AV.ren, renL, Blk.ren, Ax.look, Ax.put, reduceCtorEq, true_or, false_or, or_true, or_false, and_true, true_and, AV.w.injEq, Value.int.injEq, Value.bool.injEq, AV.ms.injEq, AV.sb.injEq, AV.str.injEq, ↓reduceIte, Nat.reduceEqDiff, Nat.reduceLT, List.length_append, List.length_cons, List.length_nil, Nat.zero_add, Nat.add_zero, Option.some.injEq, Blk.b.injEq, Blk.i.injEq, Nat.succ_ne_zero, Nat.reduceAdd, and_self, this, valU]
                simp
              · simp only [SameS, SameH, setSlot, gOf, AV.ren, renL, Blk.ren, Ax.look, Ax.put, reduceCtorEq, true_or, false_or, or_true, or_false, and_true, true_and, AV.w.injEq, Value.int.injEq, Value.bool.injEq, AV.ms.injEq, AV.sb.injEq, AV.str.injEq, ↓reduceIte, Nat.reduceEqDiff, Nat.reduceLT, List.length_append, List.length_cons, List.length_nil, Nat.zero_add, Nat.add_zero, Option.some.injEq, Blk.b.injEq, Blk.i.injEq, Nat.succ_ne_zero, Nat.reduceAdd, and_self]
            · rintro m σ ⟨k, rfl, hk, rfl⟩
              by_cases hk0 : 0 < m
              · have d6 : decide ((0 : Int) ≤ (m : Int) - 1) = true := decide_eq_true (by omega)
                have em : ((m : Int) - 1).toNat = m - 1 := by omega
                have hst := valU_step bs (i + 1) (m - 1) (by omega) (by omega)
                rw [show m - 1 + 1 = m by omega] at hst
                have et : ((bs.getD (m - 1) 0).toNat : Int).tmod 128 = (((bs.getD (m - 1) 0).toNat % 128 : Nat) : Int) := tmod_cast _ 128
                obtain ⟨c, hcd⟩ : ∃ c, (bs.getD (m - 1) 0).toNat = c := ⟨_, rfl⟩
                rw [hcd] at hst et
                generalize valU ((bs.take (i + 1)).drop m) = X at *
                have ew : (128 * ((X % 18446744073709551616 : Nat) : Int) % 18446744073709551616 + ((c % 128 : Nat) : Int) % 18446744073709551616) % 18446744073709551616 = (((c % 128 + 128 * X) % 18446744073709551616 : Nat) : Int) := by omega
                have es : ((m : Int) - 1 - 1 + 9223372036854775808) % 18446744073709551616 - 9223372036854775808 = ((m - 1 : Nat) : Int) - 1 := by omega
                simp -implicitDefEqProofs only [evT, implies_true, forall_const, Option.getD, later_normal, aop, aLen, ev, slot, setSlot, putSlot, cv, cvl, aConv, aBin, aInt, aUn, aFn, aEq, Out.and, isBool, isPtr, List.length, IntKind.bits, evs, evo, evps, aCall, aUser, coes, coe, List.append, List.replicate, callOut, rootsL, AV.roots, lendsL, AV.lends, pinsOf, nodup, lendL, lend, closedB, noimmB, AV.noimm, AV.ren, renL, back, Nat.reduceAdd, Nat.reduceSub, Nat.reduceMul, Int.reduceToNat, reduceCtorEq, aLoad, subv, aIndexAddr, aIndex, TD.aggr, guardSlot, aPick, byte, word, aMin, aMax, Ax.Ends, EndsX, Ax.rvals, rone, AV.ids, idsL, newIds, upTo, pinHeap, gOf, ↓reduceIte, List.isEmpty, Int.reducePow, Nat.reducePow, Int.reduceMod, Nat.reduceLeDiff, Int.reduceLE, Int.reduceNe, Int.reduceEq, aBuildSlice, fillB, aAppend, appendB, viewB, Ax.look, Ax.put, Ax.drop, List.drop, List.take, asv, aMake, aCopy, srcB, fillG, viewG, appendG, appendI, fillI, aSlice, bnd, bnds, full3, cut, aFieldAddr, aField, aStore, setB, aBox, aBuild, fillS, allTy, AV.leaves, AV.okv, AV.leaf, one, splice, elemLeaves, Blk.size, Blk.len, Option.isSome, Option.isNone, isBytes, aStr, aNil, aAlloc, aExtract, viewI, Nat.reduceEqDiff, Nat.reduceLT, Nat.reduceBEq, List.contains, List.elem, Blk.closed, closedL, AV.closed, Blk.noimm, ↓gsplit_tt, ↓gsplit_ff, ↓gsplit_tf, ↓gsplit_ft, ↓csplit_t, ↓csplit_f, Ax.idx, AV.lentIds, lentIdsL, dropAll, givenUp, AV.clean, cleanL, Blk.clean, cleanB, quietC, flatTy, coldStr, notMs, eqV, eqF, isStruct, ty, S23, d6, em, hcd, et, ew, es]
                refine ⟨by omega, m - 1, _, by omega, weak_ren [0, 1, 2, 3] rfl rfl rfl ?_ ?_, m - 1, rfl, by omega, rfl⟩
                · simp only [SameS, SameH, setSlot, gOf, AV.ren, renL, Blk.ren, Ax.look, Ax.put, reduceCtorEq, true_or, false_or, or_true, or_false, and_true, true_and, AV.w.injEq, Value.int.injEq, Value.bool.injEq, AV.ms.injEq, AV.sb.injEq, AV.str.injEq, ↓reduceIte, Nat.reduceEqDiff, Nat.reduceLT, List.length_append, List.length_cons, List.length_nil, Nat.zero_add, Nat.add_zero, Option.some.injEq, Blk.b.injEq, Blk.i.injEq, Nat.succ_ne_zero, Nat.reduceAdd, and_self, hst]
                · simp only [SameS, SameH, setSlot, gOf, AV.ren, renL, Blk.ren, Ax.look, Ax.put, reduceCtorEq, true_or, false_or, or_true, or_false, and_true, true_and, AV.w.injEq, Value.int.injEq, Value.bool.injEq, AV.ms.injEq, AV.sb.injEq, AV.str.injEq, ↓reduceIte, Nat.reduceEqDiff, Nat.reduceLT, List.length_append, List.length_cons, List.length_nil, Nat.zero_add, Nat.add_zero, Option.some.injEq, Blk.b.injEq, Blk.i.injEq, Nat.succ_ne_zero, Nat.reduceAdd, and_self]
              · have d6 : decide ((0 : Int) ≤ (m : Int) - 1) = false := decide_eq_false (by omega)
                obtain rfl : m = 0 := by omega
                generalize hV : valU ((bs.take (i + 1)).drop 0) % 18446744073709551616 = V
                rw [List.drop_zero] at hV
                rw [hV] at hG2
                have hVlt : (V : Int) < 18446744073709551616 := by omega
                have hV0 : (0 : Int) ≤ V := by omega
                have etk : List.take (i + 1) bs = bs.take (i + 1) := rfl
                simp -implicitDefEqProofs only [evT, implies_true, forall_const, Option.getD, later_normal, aop, aLen, ev, slot, setSlot, putSlot, cv, cvl, aConv, aBin, aInt, aUn, aFn, aEq, Out.and, isBool, isPtr, List.length, IntKind.bits, evs, evo, evps, aCall, aUser, coes, coe, List.append, List.replicate, callOut, rootsL, AV.roots, lendsL, AV.lends, pinsOf, nodup, lendL, lend, closedB, noimmB, AV.noimm, AV.ren, renL, back, Nat.reduceAdd, Nat.reduceSub, Nat.reduceMul, Int.reduceToNat, reduceCtorEq, aLoad, subv, aIndexAddr, aIndex, TD.aggr, guardSlot, aPick, byte, word, aMin, aMax, Ax.Ends, EndsX, Ax.rvals, rone, AV.ids, idsL, newIds, upTo, pinHeap, gOf, ↓reduceIte, List.isEmpty, Int.reducePow, Nat.reducePow, Int.reduceMod, Nat.reduceLeDiff, Int.reduceLE, Int.reduceNe, Int.reduceEq, aBuildSlice, fillB, aAppend, appendB, viewB, Ax.look, Ax.put, Ax.drop, List.drop, List.take, asv, aMake, aCopy, srcB, fillG, viewG, appendG, appendI, fillI, aSlice, bnd, bnds, full3, cut, aFieldAddr, aField, aStore, setB, aBox, aBuild, fillS, allTy, AV.leaves, AV.okv, AV.leaf, one, splice, elemLeaves, Blk.size, Blk.len, Option.isSome, Option.isNone, isBytes, aStr, aNil, aAlloc, aExtract, viewI, Nat.reduceEqDiff, Nat.reduceLT, Nat.reduceBEq, List.contains, List.elem, Blk.closed, closedL, AV.closed, Blk.noimm, ↓gsplit_tt, ↓gsplit_ff, ↓gsplit_tf, ↓gsplit_ft, ↓csplit_t, ↓csplit_f, Ax.idx, AV.lentIds, lentIdsL, dropAll, givenUp, AV.clean, cleanL, Blk.clean, cleanB, quietC, flatTy, coldStr, notMs, eqV, eqF, isStruct, ty, S23, bytesS, zgS, d6, e1, Int.toNat_natCast, List.take_length, hVlt, hV0]
                simp only [Nat.sub_zero, Bool.not_eq_true', decide_eq_false_iff_not, Bool.not_eq_false', decide_eq_true_eq]
                refine ⟨by omega, fun h => ?_, fun h => ?_⟩
                · rw [hG2, if_neg h]; rfl
                · rw [hG2, if_pos h]
  · exact hp.elim
end
end Go.Proofs.Ythodcljimjglcaa
