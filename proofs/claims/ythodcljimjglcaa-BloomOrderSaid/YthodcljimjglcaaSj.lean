/- Layer 33: the law of keys in any order. -/
import Derived.Test.YthodcljimjglcaaSi
import Derived.Test.YthodcljimjglcaaSk
namespace Go.Proofs.Ythodcljimjglcaa
open Ax
set_option linter.unusedSimpArgs false
set_option linter.unusedVariables false

theorem hasP_foldK_mono {e : Int} {L : Nat} (hL : 1 ≤ L) (ks : List (List UInt8)) (bs : List UInt8) (h : bs.length = L) (p : Nat) (hp : hasP bs p = true) : hasP (foldK e L bs ks) p = true := by
  rw [hasP_foldK _ _ hL _ _ _ h, hp, Bool.or_true]
def capK (n : Int) (i : Nat) : Int := min (n + i) 1099511627776
theorem capK_zero {n : Int} (h : n ≤ 1099511627776) : capK n 0 = n := by unfold capK; omega
theorem capK_succ {l : Nat} {e n : Int} {i : Nat} (ho : okSet l e (capK n i)) : addN l e (capK n i) = capK n (i + 1) := by
  rw [addN_ok ho]; unfold capK; clear ho; omega
def bordersS : FSpec
  | [.sg 1 xs f, .agg [.sb bs g, .w (.int .i64 e), .w (.int .i64 n)]], [] => ⟨xs.length ≤ 9223372036854775807 ∧ ∃ ks : List (List UInt8), xs = ks.map AV.str ∧ ∀ k ∈ ks, k.length ≤ 9223372036854775807, .w (.bool true), []⟩
  | _, _ => noRes
def Sborders (f : FuncId) : Option FSpec :=
  match f with
  | 8 => some lightS
  | 9 => some yesS
  | 17 => some chkSetS
  | 12 => some addBSS
  | 26 => some putSetS
  | 28 => some getSetS
  | 21 => some joinS
  | 25 => some sameSetS
  | _ => none
theorem Sborders_ok : Fns Try.prog Sborders := by
  intro f s h
  unfold Sborders at h
  split at h
  · injection h with h; subst h; exact ⟨⟨_, Try.func8, by kernel_rfl, by kernel_rfl⟩, light33_sound⟩
  · injection h with h; subst h; exact ⟨⟨_, Try.func9, by kernel_rfl, by kernel_rfl⟩, awake33_sound⟩
  · injection h with h; subst h; exact ⟨⟨_, Try.func17, by kernel_rfl, by kernel_rfl⟩, chkSet_sound⟩
  · injection h with h; subst h; exact ⟨⟨_, Try.func12, by kernel_rfl, by kernel_rfl⟩, addSetB_sound⟩
  · injection h with h; subst h; exact ⟨⟨_, Try.func26, by kernel_rfl, by kernel_rfl⟩, putSet_sound⟩
  · injection h with h; subst h; exact ⟨⟨_, Try.func28, by kernel_rfl, by kernel_rfl⟩, getSet_sound⟩
  · injection h with h; subst h; exact ⟨⟨_, Try.func21, by kernel_rfl, by kernel_rfl⟩, join_sound⟩
  · injection h with h; subst h; exact ⟨⟨_, Try.func25, by kernel_rfl, by kernel_rfl⟩, sameSet_sound⟩
  · cases h
def bordersPl : Plan := fun id => match id with
  | 3 => some [(1, 4)]
  | _ => none
section
set_option maxRecDepth 100000
set_option maxHeartbeats 2000000 in
theorem borders_law : Sound Try.prog 7 bordersS := by
  refine fn_soundF (S := Sborders) (T := ty) (pl := bordersPl) mixed ty_ok Sborders_ok Try.func7 (c := Try.f7.body.getD .skip) (by kernel_rfl) (by kernel_rfl) (fun xs pins hp _ => ?_)
  unfold bordersS at hp ⊢
  split at hp
  · rename_i xs f bs g e n _
    obtain ⟨hL, ks, rfl, hks⟩ := hp
    rw [List.length_map] at hL
    refine ⟨by simp, ?_⟩
    unfold Try.f7
    have hl : (ks.map AV.str).length = ks.length := by simp
    by_cases h1 : (30 : Int) < ks.length
    · have d1 : decide ((30 : Int) < ks.length) = true := decide_eq_true h1
      simp -implicitDefEqProofs only [evT, implies_true, forall_const, Option.getD, later_normal, aop, aLen, ev, slot, setSlot, putSlot, cv, cvl, aConv, aBin, aInt, aUn, aFn, aEq, Out.and, isBool, isPtr, List.length, IntKind.bits, evs, evo, evps, aCall, aUser, coes, coe, List.append, List.replicate, callOut, rootsL, AV.roots, lendsL, AV.lends, pinsOf, nodup, lendL, lend, closedB, noimmB, AV.noimm, AV.ren, renL, back, Nat.reduceAdd, Nat.reduceSub, Nat.reduceMul, Int.reduceToNat, reduceCtorEq, aLoad, subv, aIndexAddr, aIndex, TD.aggr, guardSlot, aPick, byte, word, aMin, aMax, Ax.Ends, EndsX, Ax.rvals, rone, AV.ids, idsL, newIds, upTo, pinHeap, gOf, ↓reduceIte, List.isEmpty, Int.reducePow, Nat.reducePow, Int.reduceMod, Nat.reduceLeDiff, Int.reduceLE, Int.reduceNe, Int.reduceEq, aBuildSlice, fillB, aAppend, appendB, viewB, Ax.look, Ax.put, Ax.drop, List.drop, List.take, asv, aMake, aCopy, srcB, fillG, viewG, appendG, appendI, fillI, aSlice, bnd, bnds, full3, cut, aFieldAddr, aField, aStore, setB, aBox, aBuild, fillS, allTy, AV.leaves, AV.okv, AV.leaf, one, splice, elemLeaves, Blk.size, Blk.len, Option.isSome, Option.isNone, isBytes, aStr, aNil, aAlloc, aExtract, viewI, Nat.reduceEqDiff, Nat.reduceLT, Nat.reduceBEq, List.contains, List.elem, Blk.closed, closedL, AV.closed, Blk.noimm, ↓gsplit_tt, ↓gsplit_ff, ↓gsplit_tf, ↓gsplit_ft, ↓csplit_t, ↓csplit_f, Ax.idx, AV.lentIds, lentIdsL, dropAll, givenUp, AV.clean, cleanL, Blk.clean, cleanB, quietC, flatTy, coldStr, notMs, eqV, eqF, isStruct, evTP, laterF_normal, aopF, foot, footA, keepIn, dropIn, bids, Blk.ids, heldB, memOk, clearOf, Op.operands, Call.operands, List.map_cons, List.map_nil, List.toList_toArray, Array.toList_append, Option.toArray_some, Option.toArray_none, Bool.and_self, -coe, coe_w, coe_str, coe_agg, coe_tup, coe_sb, coe_si, coe_cp, coe_ms, coe_rf, coe_fn, coe_cons, ty, Sborders, bordersPl, yesS, hl, d1]
      exact wEs_ends 4 rfl
    · have d1 : decide ((30 : Int) < ks.length) = false := decide_eq_false h1
      by_cases h2 : (bs.length : Int) ≤ 200
      · have d2 : decide ((bs.length : Int) ≤ 200) = true := decide_eq_true h2
        by_cases ho : okSet bs.length e n
        · have hv : chkB bs.length e n = 0 := if_pos ho
          obtain ⟨L, hLd⟩ : ∃ L, bs.length = L := ⟨_, rfl⟩
          rw [hLd] at ho hv d2
          have hL1 : 1 ≤ L := ho.1
          have hn1 : 0 ≤ n ∧ n ≤ 1099511627776 := ⟨ho.2.2.2.2.1, ho.2.2.2.2.2⟩
          have hoK : ∀ i : Nat, okSet L e (capK n i) := fun i => by
            obtain ⟨a1, a2, a3, a4, a5, a6⟩ := ho
            unfold capK
            exact ⟨a1, a2, a3, a4, by omega, by omega⟩
          have z0 : decide ((0 : Int) = 0) = true := rfl
          have c0 := capK_zero hn1.2
          simp -implicitDefEqProofs only [evT, implies_true, forall_const, Option.getD, later_normal, aop, aLen, ev, slot, setSlot, putSlot, cv, cvl, aConv, aBin, aInt, aUn, aFn, aEq, Out.and, isBool, isPtr, List.length, IntKind.bits, evs, evo, evps, aCall, aUser, coes, coe, List.append, List.replicate, callOut, rootsL, AV.roots, lendsL, AV.lends, pinsOf, nodup, lendL, lend, closedB, noimmB, AV.noimm, AV.ren, renL, back, Nat.reduceAdd, Nat.reduceSub, Nat.reduceMul, Int.reduceToNat, reduceCtorEq, aLoad, subv, aIndexAddr, aIndex, TD.aggr, guardSlot, aPick, byte, word, aMin, aMax, Ax.Ends, EndsX, Ax.rvals, rone, AV.ids, idsL, newIds, upTo, pinHeap, gOf, ↓reduceIte, List.isEmpty, Int.reducePow, Nat.reducePow, Int.reduceMod, Nat.reduceLeDiff, Int.reduceLE, Int.reduceNe, Int.reduceEq, aBuildSlice, fillB, aAppend, appendB, viewB, Ax.look, Ax.put, Ax.drop, List.drop, List.take, asv, aMake, aCopy, srcB, fillG, viewG, appendG, appendI, fillI, aSlice, bnd, bnds, full3, cut, aFieldAddr, aField, aStore, setB, aBox, aBuild, fillS, allTy, AV.leaves, AV.okv, AV.leaf, one, splice, elemLeaves, Blk.size, Blk.len, Option.isSome, Option.isNone, isBytes, aStr, aNil, aAlloc, aExtract, viewI, Nat.reduceEqDiff, Nat.reduceLT, Nat.reduceBEq, List.contains, List.elem, Blk.closed, closedL, AV.closed, Blk.noimm, ↓gsplit_tt, ↓gsplit_ff, ↓gsplit_tf, ↓gsplit_ft, ↓csplit_t, ↓csplit_f, Ax.idx, AV.lentIds, lentIdsL, dropAll, givenUp, AV.clean, cleanL, Blk.clean, cleanB, quietC, flatTy, coldStr, notMs, eqV, eqF, isStruct, evTP, laterF_normal, aopF, foot, footA, keepIn, dropIn, bids, Blk.ids, heldB, memOk, clearOf, Op.operands, Call.operands, List.map_cons, List.map_nil, List.toList_toArray, Array.toList_append, Option.toArray_some, Option.toArray_none, Bool.and_self, -coe, coe_w, coe_str, coe_agg, coe_tup, coe_sb, coe_si, coe_cp, coe_ms, coe_rf, coe_fn, coe_cons, ty, Sborders, bordersPl, lightS, chkSetS, hl, d1, d2, hLd, hv, z0]
          refine awpF_loopW ⟨fun m σ => ∃ (i : Nat) (ga gb : Bool), m = ks.length - i ∧ i ≤ ks.length ∧
            σ = ⟨[.sg 1 (ks.map AV.str) f, .agg [.sb bs g, .w (.int .i64 e), .w (.int .i64 n)], .junk, .rf 4 3 0 0, .w (.bool false), .rf 5 3 0 0, .rf 6 3 0 0, .w (.int .i64 i), .junk, .junk, .junk, .junk, .junk, .junk, .junk, .junk, .junk, .junk, .junk, .junk, .junk, .junk, .junk, .junk, .junk, .junk, .junk, .junk, .junk, .junk, .junk, .junk, .junk, .junk, .junk, .junk, .junk, .junk, .junk, .junk, .junk, .junk, .junk, .junk, .junk, .junk, .junk, .junk, .junk, .junk, .junk, .junk, .junk, .junk, .junk, .junk, .junk, .junk, .junk, .junk, .junk, .junk, .junk, .junk, .junk, .junk, .junk, .junk, .junk, .junk, .junk, .junk, .junk, .junk, .junk, .junk, .junk, .junk, .junk, .junk, .junk, .junk, .junk, .junk, .junk, .junk, .junk, .junk, .junk, .junk, .junk, .junk, .junk, .junk, .junk, .junk, .junk, .junk, .junk, .junk, .junk, .junk, .junk, .junk, .junk, .junk, .junk, .junk, .junk, .junk, .junk, .junk, .junk, .junk, .junk, .junk, .junk, .junk, .junk, .junk, .junk, .junk, .junk, .junk],
              [(4, .g 3 [.agg [.sb bs g, .w (.int .i64 e), .w (.int .i64 n)]]), (5, .g 3 [.agg [.sb (foldK e L bs (ks.take i)) ga, .w (.int .i64 e), .w (.int .i64 (capK n i))]]), (6, .g 3 [.agg [.sb (foldK e L bs (ks.reverse.take i)) gb, .w (.int .i64 e), .w (.int .i64 (capK n i))]])], 7⟩, ?_, ?_⟩
          · refine ⟨_, _, weak_ren [0, 1, 2, 3, 4, 140, 148] rfl rfl rfl ?_ ?_, 0, g, g, rfl, Nat.zero_le _, rfl⟩
            · simp only [SameS, SameH, setSlot, gOf, AV.ren, renL, Blk.ren, Ax.look, Ax.put, reduceCtorEq, true_or, false_or, or_true, or_false, and_true, true_and, AV.w.injEq, Value.int.injEq, Value.bool.injEq, AV.ms.injEq, AV.sb.injEq, AV.str.injEq, ↓reduceIte, Nat.reduceEqDiff, Nat.reduceLT, List.length_append, List.length_cons, List.length_nil, Nat.zero_add, Nat.add_zero, Option.some.injEq, Blk.b.injEq, Blk.i.injEq, Nat.succ_ne_zero, Nat.reduceAdd, and_self]; try simp; try rfl
            · simp only [SameS, SameH, setSlot, gOf, AV.ren, renL, Blk.ren, Ax.look, Ax.put, reduceCtorEq, true_or, false_or, or_true, or_false, and_true, true_and, AV.w.injEq, Value.int.injEq, Value.bool.injEq, AV.ms.injEq, AV.sb.injEq, AV.str.injEq, ↓reduceIte, Nat.reduceEqDiff, Nat.reduceLT, List.length_append, List.length_cons, List.length_nil, Nat.zero_add, Nat.add_zero, Option.some.injEq, Blk.b.injEq, Blk.i.injEq, Nat.succ_ne_zero, Nat.reduceAdd, and_self, foldK, List.take_zero, List.foldl_nil, c0]; try simp; try rfl
          · rintro m σ ⟨i, ga, gb, rfl, hi, rfl⟩
            have lA : (foldK e L bs (ks.take i)).length = L := by rw [foldK_len, hLd]
            have lB : (foldK e L bs (ks.reverse.take i)).length = L := by rw [foldK_len, hLd]
            by_cases hil : i < ks.length
            · have d3 : decide ((i : Int) < ks.length) = true := decide_eq_true (by omega)
              have e1 : ((i : Int) + 1 + 9223372036854775808) % 18446744073709551616 - 9223372036854775808 = ((i + 1 : Nat) : Int) := by omega
              have e2 : ((((ks.length : Int) - 1 + 9223372036854775808) % 18446744073709551616 - 9223372036854775808) - i + 9223372036854775808) % 18446744073709551616 - 9223372036854775808 = ((ks.length - 1 - i : Nat) : Int) := by omega
              have hs := slot_str ks i hil
              have hs2 := slot_str ks (ks.length - 1 - i) (by omega)
              have hir : i < ks.reverse.length := by rw [List.length_reverse]; exact hil
              have hrv : ks.reverse[i] = ks[ks.length - 1 - i] := List.getElem_reverse _
              have hsA : addB (foldK e L bs (ks.take i)) e (capK n i) ks[i] = foldK e L bs (ks.take (i + 1)) := by
                rw [addB_ok _ (by rw [lA]; exact hoK i), lA, foldK_snoc _ _ _ _ _ hil]
              have hsB : addB (foldK e L bs (ks.reverse.take i)) e (capK n i) ks[ks.length - 1 - i] = foldK e L bs (ks.reverse.take (i + 1)) := by
                rw [addB_ok _ (by rw [lB]; exact hoK i), lB, foldK_snoc _ _ _ _ _ hir, hrv]
              have hN := capK_succ (hoK i)
              obtain ⟨K, hK⟩ : ∃ K, ks[i] = K := ⟨_, rfl⟩
              obtain ⟨K2, hK2⟩ : ∃ K2, ks[ks.length - 1 - i] = K2 := ⟨_, rfl⟩
              rw [hK] at hs hsA
              rw [hK2] at hs2 hsB
              have q3 : K2.length ≤ 9223372036854775807 := by rw [← hK2]; exact hks _ (List.getElem_mem _)
              by_cases h60 : (60 : Int) < K.length
              · have d4 : decide ((60 : Int) < K.length) = true := decide_eq_true h60
                simp -implicitDefEqProofs only [evT, implies_true, forall_const, Option.getD, later_normal, aop, aLen, ev, slot, setSlot, putSlot, cv, cvl, aConv, aBin, aInt, aUn, aFn, aEq, Out.and, isBool, isPtr, List.length, IntKind.bits, evs, evo, evps, aCall, aUser, coes, coe, List.append, List.replicate, callOut, rootsL, AV.roots, lendsL, AV.lends, pinsOf, nodup, lendL, lend, closedB, noimmB, AV.noimm, AV.ren, renL, back, Nat.reduceAdd, Nat.reduceSub, Nat.reduceMul, Int.reduceToNat, reduceCtorEq, aLoad, subv, aIndexAddr, aIndex, TD.aggr, guardSlot, aPick, byte, word, aMin, aMax, Ax.Ends, EndsX, Ax.rvals, rone, AV.ids, idsL, newIds, upTo, pinHeap, gOf, ↓reduceIte, List.isEmpty, Int.reducePow, Nat.reducePow, Int.reduceMod, Nat.reduceLeDiff, Int.reduceLE, Int.reduceNe, Int.reduceEq, aBuildSlice, fillB, aAppend, appendB, viewB, Ax.look, Ax.put, Ax.drop, List.drop, List.take, asv, aMake, aCopy, srcB, fillG, viewG, appendG, appendI, fillI, aSlice, bnd, bnds, full3, cut, aFieldAddr, aField, aStore, setB, aBox, aBuild, fillS, allTy, AV.leaves, AV.okv, AV.leaf, one, splice, elemLeaves, Blk.size, Blk.len, Option.isSome, Option.isNone, isBytes, aStr, aNil, aAlloc, aExtract, viewI, Nat.reduceEqDiff, Nat.reduceLT, Nat.reduceBEq, List.contains, List.elem, Blk.closed, closedL, AV.closed, Blk.noimm, ↓gsplit_tt, ↓gsplit_ff, ↓gsplit_tf, ↓gsplit_ft, ↓csplit_t, ↓csplit_f, Ax.idx, AV.lentIds, lentIdsL, dropAll, givenUp, AV.clean, cleanL, Blk.clean, cleanB, quietC, flatTy, coldStr, notMs, eqV, eqF, isStruct, evTP, laterF_normal, aopF, foot, footA, keepIn, dropIn, bids, Blk.ids, heldB, memOk, clearOf, Op.operands, Call.operands, List.map_cons, List.map_nil, List.toList_toArray, Array.toList_append, Option.toArray_some, Option.toArray_none, Bool.and_self, -coe, coe_w, coe_str, coe_agg, coe_tup, coe_sb, coe_si, coe_cp, coe_ms, coe_rf, coe_fn, coe_cons, ty, Sborders, bordersPl, yesS, hl, d3, d4, hs, Int.toNat_natCast]
                refine ⟨by omega, _, Weak.refl _, ?_⟩
                simp -implicitDefEqProofs only [evT, implies_true, forall_const, Option.getD, later_normal, aop, aLen, ev, slot, setSlot, putSlot, cv, cvl, aConv, aBin, aInt, aUn, aFn, aEq, Out.and, isBool, isPtr, List.length, IntKind.bits, evs, evo, evps, aCall, aUser, coes, coe, List.append, List.replicate, callOut, rootsL, AV.roots, lendsL, AV.lends, pinsOf, nodup, lendL, lend, closedB, noimmB, AV.noimm, AV.ren, renL, back, Nat.reduceAdd, Nat.reduceSub, Nat.reduceMul, Int.reduceToNat, reduceCtorEq, aLoad, subv, aIndexAddr, aIndex, TD.aggr, guardSlot, aPick, byte, word, aMin, aMax, Ax.Ends, EndsX, Ax.rvals, rone, AV.ids, idsL, newIds, upTo, pinHeap, gOf, ↓reduceIte, List.isEmpty, Int.reducePow, Nat.reducePow, Int.reduceMod, Nat.reduceLeDiff, Int.reduceLE, Int.reduceNe, Int.reduceEq, aBuildSlice, fillB, aAppend, appendB, viewB, Ax.look, Ax.put, Ax.drop, List.drop, List.take, asv, aMake, aCopy, srcB, fillG, viewG, appendG, appendI, fillI, aSlice, bnd, bnds, full3, cut, aFieldAddr, aField, aStore, setB, aBox, aBuild, fillS, allTy, AV.leaves, AV.okv, AV.leaf, one, splice, elemLeaves, Blk.size, Blk.len, Option.isSome, Option.isNone, isBytes, aStr, aNil, aAlloc, aExtract, viewI, Nat.reduceEqDiff, Nat.reduceLT, Nat.reduceBEq, List.contains, List.elem, Blk.closed, closedL, AV.closed, Blk.noimm, ↓gsplit_tt, ↓gsplit_ff, ↓gsplit_tf, ↓gsplit_ft, ↓csplit_t, ↓csplit_f, Ax.idx, AV.lentIds, lentIdsL, dropAll, givenUp, AV.clean, cleanL, Blk.clean, cleanB, quietC, flatTy, coldStr, notMs, eqV, eqF, isStruct, evTP, laterF_normal, aopF, foot, footA, keepIn, dropIn, bids, Blk.ids, heldB, memOk, clearOf, Op.operands, Call.operands, List.map_cons, List.map_nil, List.toList_toArray, Array.toList_append, Option.toArray_some, Option.toArray_none, Bool.and_self, -coe, coe_w, coe_str, coe_agg, coe_tup, coe_sb, coe_si, coe_cp, coe_ms, coe_rf, coe_fn, coe_cons, ty, Sborders, bordersPl, yesS]
                exact wEs_ends 4 rfl
              · have d4 : decide ((60 : Int) < K.length) = false := decide_eq_false h60
                have q1 : K.length ≤ 9223372036854775807 := by omega
                have q2 : L ≤ 1000000 := by omega
                simp -implicitDefEqProofs only [evT, implies_true, forall_const, Option.getD, later_normal, aop, aLen, ev, slot, setSlot, putSlot, cv, cvl, aConv, aBin, aInt, aUn, aFn, aEq, Out.and, isBool, isPtr, List.length, IntKind.bits, evs, evo, evps, aCall, aUser, coes, coe, List.append, List.replicate, callOut, rootsL, AV.roots, lendsL, AV.lends, pinsOf, nodup, lendL, lend, closedB, noimmB, AV.noimm, AV.ren, renL, back, Nat.reduceAdd, Nat.reduceSub, Nat.reduceMul, Int.reduceToNat, reduceCtorEq, aLoad, subv, aIndexAddr, aIndex, TD.aggr, guardSlot, aPick, byte, word, aMin, aMax, Ax.Ends, EndsX, Ax.rvals, rone, AV.ids, idsL, newIds, upTo, pinHeap, gOf, ↓reduceIte, List.isEmpty, Int.reducePow, Nat.reducePow, Int.reduceMod, Nat.reduceLeDiff, Int.reduceLE, Int.reduceNe, Int.reduceEq, aBuildSlice, fillB, aAppend, appendB, viewB, Ax.look, Ax.put, Ax.drop, List.drop, List.take, asv, aMake, aCopy, srcB, fillG, viewG, appendG, appendI, fillI, aSlice, bnd, bnds, full3, cut, aFieldAddr, aField, aStore, setB, aBox, aBuild, fillS, allTy, AV.leaves, AV.okv, AV.leaf, one, splice, elemLeaves, Blk.size, Blk.len, Option.isSome, Option.isNone, isBytes, aStr, aNil, aAlloc, aExtract, viewI, Nat.reduceEqDiff, Nat.reduceLT, Nat.reduceBEq, List.contains, List.elem, Blk.closed, closedL, AV.closed, Blk.noimm, ↓gsplit_tt, ↓gsplit_ff, ↓gsplit_tf, ↓gsplit_ft, ↓csplit_t, ↓csplit_f, Ax.idx, AV.lentIds, lentIdsL, dropAll, givenUp, AV.clean, cleanL, Blk.clean, cleanB, quietC, flatTy, coldStr, notMs, eqV, eqF, isStruct, evTP, laterF_normal, aopF, foot, footA, keepIn, dropIn, bids, Blk.ids, heldB, memOk, clearOf, Op.operands, Call.operands, List.map_cons, List.map_nil, List.toList_toArray, Array.toList_append, Option.toArray_some, Option.toArray_none, Bool.and_self, -coe, coe_w, coe_str, coe_agg, coe_tup, coe_sb, coe_si, coe_cp, coe_ms, coe_rf, coe_fn, coe_cons, ty, Sborders, bordersPl, addBSS, hl, d3, d4, e1, e2, hs, hs2, hsA, hsB, hN, lA, lB, q1, q2, q3, Int.toNat_natCast]
                repeat (refine And.intro (by omega) ?_)
                refine ⟨ks.length - (i + 1), _, by omega, weak_ren [0, 1, 2, 3, 4, 5, 6] rfl rfl rfl ?_ ?_, i + 1, empB (foldK e L bs (ks.take i)), empB (foldK e L bs (ks.reverse.take i)), rfl, by omega, rfl⟩
                · simp only [SameS, SameH, setSlot, gOf, AV.ren, renL, Blk.ren, Ax.look, Ax.put, reduceCtorEq, true_or, false_or, or_true, or_false, and_true, true_and, AV.w.injEq, Value.int.injEq, Value.bool.injEq, AV.ms.injEq, AV.sb.injEq, AV.str.injEq, ↓reduceIte, Nat.reduceEqDiff, Nat.reduceLT, List.length_append, List.length_cons, List.length_nil, Nat.zero_add, Nat.add_zero, Option.some.injEq, Blk.b.injEq, Blk.i.injEq, Nat.succ_ne_zero, Nat.reduceAdd, and_self]
                · simp only [SameS, SameH, setSlot, gOf, AV.ren, renL, Blk.ren, Ax.look, Ax.put, reduceCtorEq, true_or, false_or, or_true, or_false, and_true, true_and, AV.w.injEq, Value.int.injEq, Value.bool.injEq, AV.ms.injEq, AV.sb.injEq, AV.str.injEq, ↓reduceIte, Nat.reduceEqDiff, Nat.reduceLT, List.length_append, List.length_cons, List.length_nil, Nat.zero_add, Nat.add_zero, Option.some.injEq, Blk.b.injEq, Blk.i.injEq, Nat.succ_ne_zero, Nat.reduceAdd, and_self]
            · have d3 : decide ((i : Int) < ks.length) = false := decide_eq_false (by omega)
              have hie : i = ks.length := by omega
              subst hie
              have htk : ks.take ks.length = ks := List.take_length
              have htk2 : ks.reverse.take ks.length = ks.reverse := List.take_of_length_le (by rw [List.length_reverse]; omega)
              have hrv : foldK e L bs ks.reverse = foldK e L bs ks := foldK_perm e L hL1 bs hLd _ _ (fun k => List.mem_reverse)
              have hmn := fun p => hasP_foldK_mono (e := e) hL1 ks bs hLd p
              rw [htk2, hrv, htk]
              rw [htk] at lA
              obtain ⟨A, hA⟩ : ∃ A, foldK e L bs ks = A := ⟨_, rfl⟩
              rw [hA] at lA hmn ⊢
              obtain ⟨hj1, hj2⟩ := join_sub (a := A) (b := bs) (by rw [lA, hLd]) (fun p _ h => hmn p h)
              have oK := hoK ks.length
              obtain ⟨M, hM⟩ : ∃ M, capK n ks.length = M := ⟨_, rfl⟩
              rw [hM] at oK ⊢
              have jE1 : joinE A e M bs e n = 0 := by unfold joinE; rw [lA, hLd, if_neg (fun h => h oK), if_neg (fun h => h ho), if_neg (by omega)]
              have jE2 : joinE bs e n A e M = 0 := by unfold joinE; rw [lA, hLd, if_neg (fun h => h ho), if_neg (fun h => h oK), if_neg (by omega)]
              have jV1 : joinV A e M bs e n = .agg [.sb A false, .w (.int .i64 e), .w (.int .i64 (min (M + n) 1099511627776))] := by unfold joinV; rw [if_pos jE1, hj1]
              have jV2 : joinV bs e n A e M = .agg [.sb A false, .w (.int .i64 e), .w (.int .i64 (min (M + n) 1099511627776))] := by unfold joinV; rw [if_pos jE2, hj2, Int.add_comm n M]
              have hpl := putSB_len A e M
              obtain ⟨g1, g2, g3, g4⟩ := gok_put (bs := A) (e := e) (n := M) (by rw [lA]; exact oK)
              have cM : chkB L e M = 0 := if_pos oK
              obtain ⟨W, hW⟩ : ∃ W, putSB A e M = W := ⟨_, rfl⟩
              rw [hW] at hpl g1 g2 g3 g4
              have gv : gV W = .agg [.sb A false, .w (.int .i64 e), .w (.int .i64 M)] := by unfold gV; rw [if_pos g1, g2, g3, g4]
              have hWl : W.length ≤ 1000000 := by omega
              have ss : ∀ (l : List UInt8) (p q : Int), sameSet l p q l p q = true := fun l p q => by unfold sameSet; simp
              have ds : ∀ l : List UInt8, decide (l = l) = true := fun l => decide_eq_true rfl
              simp -implicitDefEqProofs only [evT, implies_true, forall_const, Option.getD, later_normal, aop, aLen, ev, slot, setSlot, putSlot, cv, cvl, aConv, aBin, aInt, aUn, aFn, aEq, Out.and, isBool, isPtr, List.length, IntKind.bits, evs, evo, evps, aCall, aUser, coes, coe, List.append, List.replicate, callOut, rootsL, AV.roots, lendsL, AV.lends, pinsOf, nodup, lendL, lend, closedB, noimmB, AV.noimm, AV.ren, renL, back, Nat.reduceAdd, Nat.reduceSub, Nat.reduceMul, Int.reduceToNat, reduceCtorEq, aLoad, subv, aIndexAddr, aIndex, TD.aggr, guardSlot, aPick, byte, word, aMin, aMax, Ax.Ends, EndsX, Ax.rvals, rone, AV.ids, idsL, newIds, upTo, pinHeap, gOf, ↓reduceIte, List.isEmpty, Int.reducePow, Nat.reducePow, Int.reduceMod, Nat.reduceLeDiff, Int.reduceLE, Int.reduceNe, Int.reduceEq, aBuildSlice, fillB, aAppend, appendB, viewB, Ax.look, Ax.put, Ax.drop, List.drop, List.take, asv, aMake, aCopy, srcB, fillG, viewG, appendG, appendI, fillI, aSlice, bnd, bnds, full3, cut, aFieldAddr, aField, aStore, setB, aBox, aBuild, fillS, allTy, AV.leaves, AV.okv, AV.leaf, one, splice, elemLeaves, Blk.size, Blk.len, Option.isSome, Option.isNone, isBytes, aStr, aNil, aAlloc, aExtract, viewI, Nat.reduceEqDiff, Nat.reduceLT, Nat.reduceBEq, List.contains, List.elem, Blk.closed, closedL, AV.closed, Blk.noimm, ↓gsplit_tt, ↓gsplit_ff, ↓gsplit_tf, ↓gsplit_ft, ↓csplit_t, ↓csplit_f, Ax.idx, AV.lentIds, lentIdsL, dropAll, givenUp, AV.clean, cleanL, Blk.clean, cleanB, quietC, flatTy, coldStr, notMs, eqV, eqF, isStruct, evTP, laterF_normal, aopF, foot, footA, keepIn, dropIn, bids, Blk.ids, heldB, memOk, clearOf, Op.operands, Call.operands, List.map_cons, List.map_nil, List.toList_toArray, Array.toList_append, Option.toArray_some, Option.toArray_none, Bool.and_self, -coe, coe_w, coe_str, coe_agg, coe_tup, coe_sb, coe_si, coe_cp, coe_ms, coe_rf, coe_fn, coe_cons, ty, Sborders, bordersPl, hl, d3]
              refine ⟨_, Weak.refl _, ?_⟩
              simp -implicitDefEqProofs only [evT, implies_true, forall_const, Option.getD, later_normal, aop, aLen, ev, slot, setSlot, putSlot, cv, cvl, aConv, aBin, aInt, aUn, aFn, aEq, Out.and, isBool, isPtr, List.length, IntKind.bits, evs, evo, evps, aCall, aUser, coes, coe, List.append, List.replicate, callOut, rootsL, AV.roots, lendsL, AV.lends, pinsOf, nodup, lendL, lend, closedB, noimmB, AV.noimm, AV.ren, renL, back, Nat.reduceAdd, Nat.reduceSub, Nat.reduceMul, Int.reduceToNat, reduceCtorEq, aLoad, subv, aIndexAddr, aIndex, TD.aggr, guardSlot, aPick, byte, word, aMin, aMax, Ax.Ends, EndsX, Ax.rvals, rone, AV.ids, idsL, newIds, upTo, pinHeap, gOf, ↓reduceIte, List.isEmpty, Int.reducePow, Nat.reducePow, Int.reduceMod, Nat.reduceLeDiff, Int.reduceLE, Int.reduceNe, Int.reduceEq, aBuildSlice, fillB, aAppend, appendB, viewB, Ax.look, Ax.put, Ax.drop, List.drop, List.take, asv, aMake, aCopy, srcB, fillG, viewG, appendG, appendI, fillI, aSlice, bnd, bnds, full3, cut, aFieldAddr, aField, aStore, setB, aBox, aBuild, fillS, allTy, AV.leaves, AV.okv, AV.leaf, one, splice, elemLeaves, Blk.size, Blk.len, Option.isSome, Option.isNone, isBytes, aStr, aNil, aAlloc, aExtract, viewI, Nat.reduceEqDiff, Nat.reduceLT, Nat.reduceBEq, List.contains, List.elem, Blk.closed, closedL, AV.closed, Blk.noimm, ↓gsplit_tt, ↓gsplit_ff, ↓gsplit_tf, ↓gsplit_ft, ↓csplit_t, ↓csplit_f, Ax.idx, AV.lentIds, lentIdsL, dropAll, givenUp, AV.clean, cleanL, Blk.clean, cleanB, quietC, flatTy, coldStr, notMs, eqV, eqF, isStruct, evTP, laterF_normal, aopF, foot, footA, keepIn, dropIn, bids, Blk.ids, heldB, memOk, clearOf, Op.operands, Call.operands, List.map_cons, List.map_nil, List.toList_toArray, Array.toList_append, Option.toArray_some, Option.toArray_none, Bool.and_self, -coe, coe_w, coe_str, coe_agg, coe_tup, coe_sb, coe_si, coe_cp, coe_ms, coe_rf, coe_fn, coe_cons, ty, Sborders, bordersPl, yesS, joinS, putSetS, getSetS, sameSetS, jE1, jE2, jV1, jV2, cM, hW, hWl, g1, gv, ss, ds, z0, lA, List.take_length, fillS]
              exact wEs_ends 4 rfl
        · have hv : chkB bs.length e n = 11 := if_neg ho
          have z0 : decide ((11 : Int) = 0) = false := rfl
          simp -implicitDefEqProofs only [evT, implies_true, forall_const, Option.getD, later_normal, aop, aLen, ev, slot, setSlot, putSlot, cv, cvl, aConv, aBin, aInt, aUn, aFn, aEq, Out.and, isBool, isPtr, List.length, IntKind.bits, evs, evo, evps, aCall, aUser, coes, coe, List.append, List.replicate, callOut, rootsL, AV.roots, lendsL, AV.lends, pinsOf, nodup, lendL, lend, closedB, noimmB, AV.noimm, AV.ren, renL, back, Nat.reduceAdd, Nat.reduceSub, Nat.reduceMul, Int.reduceToNat, reduceCtorEq, aLoad, subv, aIndexAddr, aIndex, TD.aggr, guardSlot, aPick, byte, word, aMin, aMax, Ax.Ends, EndsX, Ax.rvals, rone, AV.ids, idsL, newIds, upTo, pinHeap, gOf, ↓reduceIte, List.isEmpty, Int.reducePow, Nat.reducePow, Int.reduceMod, Nat.reduceLeDiff, Int.reduceLE, Int.reduceNe, Int.reduceEq, aBuildSlice, fillB, aAppend, appendB, viewB, Ax.look, Ax.put, Ax.drop, List.drop, List.take, asv, aMake, aCopy, srcB, fillG, viewG, appendG, appendI, fillI, aSlice, bnd, bnds, full3, cut, aFieldAddr, aField, aStore, setB, aBox, aBuild, fillS, allTy, AV.leaves, AV.okv, AV.leaf, one, splice, elemLeaves, Blk.size, Blk.len, Option.isSome, Option.isNone, isBytes, aStr, aNil, aAlloc, aExtract, viewI, Nat.reduceEqDiff, Nat.reduceLT, Nat.reduceBEq, List.contains, List.elem, Blk.closed, closedL, AV.closed, Blk.noimm, ↓gsplit_tt, ↓gsplit_ff, ↓gsplit_tf, ↓gsplit_ft, ↓csplit_t, ↓csplit_f, Ax.idx, AV.lentIds, lentIdsL, dropAll, givenUp, AV.clean, cleanL, Blk.clean, cleanB, quietC, flatTy, coldStr, notMs, eqV, eqF, isStruct, evTP, laterF_normal, aopF, foot, footA, keepIn, dropIn, bids, Blk.ids, heldB, memOk, clearOf, Op.operands, Call.operands, List.map_cons, List.map_nil, List.toList_toArray, Array.toList_append, Option.toArray_some, Option.toArray_none, Bool.and_self, -coe, coe_w, coe_str, coe_agg, coe_tup, coe_sb, coe_si, coe_cp, coe_ms, coe_rf, coe_fn, coe_cons, ty, Sborders, bordersPl, yesS, lightS, chkSetS, hl, d1, d2, hv, z0]
          exact wEs_ends 4 rfl
      · have d2 : decide ((bs.length : Int) ≤ 200) = false := decide_eq_false h2
        simp -implicitDefEqProofs only [evT, implies_true, forall_const, Option.getD, later_normal, aop, aLen, ev, slot, setSlot, putSlot, cv, cvl, aConv, aBin, aInt, aUn, aFn, aEq, Out.and, isBool, isPtr, List.length, IntKind.bits, evs, evo, evps, aCall, aUser, coes, coe, List.append, List.replicate, callOut, rootsL, AV.roots, lendsL, AV.lends, pinsOf, nodup, lendL, lend, closedB, noimmB, AV.noimm, AV.ren, renL, back, Nat.reduceAdd, Nat.reduceSub, Nat.reduceMul, Int.reduceToNat, reduceCtorEq, aLoad, subv, aIndexAddr, aIndex, TD.aggr, guardSlot, aPick, byte, word, aMin, aMax, Ax.Ends, EndsX, Ax.rvals, rone, AV.ids, idsL, newIds, upTo, pinHeap, gOf, ↓reduceIte, List.isEmpty, Int.reducePow, Nat.reducePow, Int.reduceMod, Nat.reduceLeDiff, Int.reduceLE, Int.reduceNe, Int.reduceEq, aBuildSlice, fillB, aAppend, appendB, viewB, Ax.look, Ax.put, Ax.drop, List.drop, List.take, asv, aMake, aCopy, srcB, fillG, viewG, appendG, appendI, fillI, aSlice, bnd, bnds, full3, cut, aFieldAddr, aField, aStore, setB, aBox, aBuild, fillS, allTy, AV.leaves, AV.okv, AV.leaf, one, splice, elemLeaves, Blk.size, Blk.len, Option.isSome, Option.isNone, isBytes, aStr, aNil, aAlloc, aExtract, viewI, Nat.reduceEqDiff, Nat.reduceLT, Nat.reduceBEq, List.contains, List.elem, Blk.closed, closedL, AV.closed, Blk.noimm, ↓gsplit_tt, ↓gsplit_ff, ↓gsplit_tf, ↓gsplit_ft, ↓csplit_t, ↓csplit_f, Ax.idx, AV.lentIds, lentIdsL, dropAll, givenUp, AV.clean, cleanL, Blk.clean, cleanB, quietC, flatTy, coldStr, notMs, eqV, eqF, isStruct, evTP, laterF_normal, aopF, foot, footA, keepIn, dropIn, bids, Blk.ids, heldB, memOk, clearOf, Op.operands, Call.operands, List.map_cons, List.map_nil, List.toList_toArray, Array.toList_append, Option.toArray_some, Option.toArray_none, Bool.and_self, -coe, coe_w, coe_str, coe_agg, coe_tup, coe_sb, coe_si, coe_cp, coe_ms, coe_rf, coe_fn, coe_cons, ty, Sborders, bordersPl, yesS, lightS, hl, d1, d2]
        exact wEs_ends 4 rfl
  · exact hp.elim
end
theorem arg_strs2 {x : AV} (h : Arg ty 6 55 x) : ∃ (ks : List (List UInt8)) (f : Bool), x = .sg 1 (ks.map AV.str) f ∧ ks.length ≤ 9223372036854775807 ∧ ∀ k ∈ ks, k.length ≤ 9223372036854775807 := by
  have h0 := h
  obtain ⟨ks, f, rfl, hl⟩ := arg_strs h
  refine ⟨ks, f, rfl, hl, ?_⟩
  obtain ⟨i, ls, hi, hs, he⟩ := h0
  simp only [ty] at hi
  injection hi with hi
  subst hi
  simp only [Shape, ty, ShapeF, isFlatI] at hs
  obtain ⟨xs, g, rfl, hxl, hx⟩ := hs
  have hm : maxLen = 9223372036854775807 := by decide
  have he2 : AV.sg 1 (ks.map AV.str) f = AV.sg 1 xs g := he
  injection he2 with _ he3 _
  intro k hk
  obtain ⟨l, ⟨bs, rfl, wb⟩, _, hb⟩ := hx (.str k) (by rw [← he3]; exact List.mem_map.2 ⟨k, hk, rfl⟩)
  have hb2 : AV.str k = AV.str bs := hb
  injection hb2 with hb3
  subst hb3
  omega
theorem borders_dom {x y : AV} (hx : Arg ty 6 55 x) (hy : Arg ty 6 24 y) : (bordersS [x, y] []).p ∧ (bordersS [x, y] []).x = .w (.bool true) := by
  obtain ⟨ks, f, rfl, h, hk⟩ := arg_strs2 hx
  obtain ⟨bs, g, e, n, rfl, _⟩ := arg_set33 hy
  exact ⟨⟨by rw [List.length_map]; exact h, ks, rfl, hk⟩, rfl⟩
end Go.Proofs.Ythodcljimjglcaa
