/- Layer 12: the document's Add and Build. -/
import Derived.Test.YtoagncogikogpaaIe
import Derived.Test.YtoagncogikogpaaIa
namespace Go.Proofs.Ytoagncogikogpaa
open Ax
set_option linter.unusedSimpArgs false
set_option linter.unusedVariables false

theorem ids_entF : ∀ (G : List Ent), idsL (G.map ent) = []
  | [] => rfl
  | x :: r => by simp only [List.map_cons, idsL, ent, AV.ids, List.nil_append]; exact ids_entF r
def raddS : FSpec
  | [.agg [.w (.int .i64 v), .w (.int .i64 c), .sg 3 xs f], .agg [.w (.int .i64 o), .w (.int .i64 t), .w (.int .i64 a)]], [] => ⟨xs.length ≤ 900000 ∧ ∃ es : List Ent, xs = es.map ent,
      .agg [.w (.int .i64 (addI ⟨v, c, xs.map uent⟩ ⟨o, t, a⟩).v), .w (.int .i64 (addI ⟨v, c, xs.map uent⟩ ⟨o, t, a⟩).c), .sg 3 ((addI ⟨v, c, xs.map uent⟩ ⟨o, t, a⟩).es.map ent) (!decide (takesI v c) && f)], []⟩
  | _, _ => noRes
def raddPl : Plan := fun id => match id with
  | 9 => some [(3, 4), (3, 5)]
  | _ => none
section
set_option maxRecDepth 100000
set_option maxHeartbeats 2000000 in
theorem raddI_sound : Sound Try.prog 28 raddS := by
  refine fn_soundF (S := noS) (T := ty) (pl := raddPl) mixed ty_ok noS_ok Try.func28 (c := Try.f28.body.getD .skip) (by kernel_rfl) (by kernel_rfl) (fun xs pins hp _ => ?_)
  unfold raddS at hp ⊢
  split at hp
  · rename_i v c xs f o t a _
    obtain ⟨hL, es, rfl⟩ := hp
    rw [List.length_map] at hL
    have hl4 : (es.map ent).length = es.length := by simp
    refine ⟨by simp, ?_⟩
    have hinc : (c + 1 + 9223372036854775808) % 18446744073709551616 - 9223372036854775808 = inc c := rfl
    have htop : es.length ≤ top := by unfold top; omega
    have htop1 : es.length + 1 ≤ top := by unfold top; omega
    unfold Try.f28
    by_cases ht : takesI v c
    · have dt : decide (takesI v c) = true := decide_eq_true ht
      have D : decide (v < 1) = true ∨ (¬ v = 0 ∧ decide (v < 1) = false ∧ decide (c.tmod v = 0) = true) := by
        rcases takes_cases v c with D | D | D
        · exact .inl D.1
        · exact .inr ⟨D.1, D.2.1, D.2.2.1⟩
        · exact absurd ht D.2.2.2
      have ha : addI ⟨v, c, es⟩ ⟨o, t, a⟩ = ⟨v, inc c, es ++ [⟨o, lastT t es, a⟩]⟩ := by unfold addI; simp only; rw [if_pos ht]
      by_cases hz : es.length = 0
      · obtain rfl : es = [] := List.eq_nil_of_length_eq_zero hz
        have z0 : decide ((0 : Int) < ((0 : Nat) : Int)) = false := rfl
        have lt0 : lastT t [] = t := rfl
        have hdle : decide (0 + 1 ≤ [AV.agg [.w (.int .i64 o), .w (.int .i64 t), .w (.int .i64 a)]].length) = true := rfl
        have htk : [AV.agg [.w (.int .i64 o), .w (.int .i64 t), .w (.int .i64 a)]].take 1 = [AV.agg [.w (.int .i64 o), .w (.int .i64 t), .w (.int .i64 a)]] := rfl
        rcases D with D | D
        all_goals simp -implicitDefEqProofs only [evT, implies_true, forall_const, Option.getD, later_normal, aop, aLen, ev, slot, setSlot, putSlot, cv, cvl, aConv, aBin, aInt, aUn, aFn, aEq, Out.and, isBool, isPtr, List.length, IntKind.bits, evs, evo, evps, aCall, aUser, coes, coe, List.append, List.replicate, callOut, rootsL, AV.roots, lendsL, AV.lends, pinsOf, nodup, lendL, lend, closedB, noimmB, AV.noimm, AV.ren, renL, back, Nat.reduceAdd, Nat.reduceSub, Nat.reduceMul, Int.reduceToNat, reduceCtorEq, aLoad, subv, aIndexAddr, aIndex, TD.aggr, guardSlot, aPick, byte, word, aMin, aMax, Ax.Ends, EndsX, Ax.rvals, rone, AV.ids, idsL, newIds, upTo, pinHeap, gOf, ↓reduceIte, List.isEmpty, Int.reducePow, Nat.reducePow, Int.reduceMod, Nat.reduceLeDiff, Int.reduceLE, Int.reduceNe, Int.reduceEq, aBuildSlice, fillB, aAppend, appendB, viewB, Ax.look, Ax.put, Ax.drop, List.drop, List.take, asv, aMake, aCopy, srcB, fillG, viewG, appendG, appendI, fillI, aSlice, bnd, bnds, full3, cut, aFieldAddr, aField, aStore, setB, aBox, aBuild, fillS, allTy, AV.leaves, AV.okv, AV.leaf, one, splice, elemLeaves, Blk.size, Blk.len, Option.isSome, Option.isNone, isBytes, aStr, aNil, aAlloc, aExtract, viewI, Nat.reduceEqDiff, Nat.reduceLT, Nat.reduceBEq, List.contains, List.elem, Blk.closed, closedL, AV.closed, Blk.noimm, ↓gsplit_tt, ↓gsplit_ff, ↓gsplit_tf, ↓gsplit_ft, ↓csplit_t, ↓csplit_f, Ax.idx, AV.lentIds, lentIdsL, dropAll, givenUp, AV.clean, cleanL, Blk.clean, cleanB, quietC, flatTy, coldStr, notMs, eqV, eqF, isStruct, evTP, laterF_normal, aopF, foot, footA, keepIn, dropIn, bids, Blk.ids, heldB, memOk, clearOf, Op.operands, Call.operands, List.map_cons, List.map_nil, List.toList_toArray, Array.toList_append, Option.toArray_some, Option.toArray_none, Bool.and_self, -coe, coe_w, coe_str, coe_agg, coe_tup, coe_sb, coe_si, coe_cp, coe_ms, coe_rf, coe_fn, coe_cons, ty, noS, raddPl, hl4, hinc, z0, D, dt, ha, List.map_nil, List.length_nil, fillS]
        all_goals refine ⟨by unfold top; omega, ?_⟩
        all_goals refine ⟨_, weak_fg 284 3 50 [.agg [.w (.int .i64 o), .w (.int .i64 t), .w (.int .i64 a)]] rfl rfl (by simp [slot, AV.ids, idsL]), ?_⟩
        all_goals simp only [fgL, fgH, AV.fg, Blk.fg, Nat.reduceBEq, cond_true, cond_false, hdle, Bool.and_true, beq_self_eq_true, Bool.true_and, List.drop_zero, htk]
        all_goals simp -implicitDefEqProofs only [evT, implies_true, forall_const, Option.getD, later_normal, aop, aLen, ev, slot, setSlot, putSlot, cv, cvl, aConv, aBin, aInt, aUn, aFn, aEq, Out.and, isBool, isPtr, List.length, IntKind.bits, evs, evo, evps, aCall, aUser, coes, coe, List.append, List.replicate, callOut, rootsL, AV.roots, lendsL, AV.lends, pinsOf, nodup, lendL, lend, closedB, noimmB, AV.noimm, AV.ren, renL, back, Nat.reduceAdd, Nat.reduceSub, Nat.reduceMul, Int.reduceToNat, reduceCtorEq, aLoad, subv, aIndexAddr, aIndex, TD.aggr, guardSlot, aPick, byte, word, aMin, aMax, Ax.Ends, EndsX, Ax.rvals, rone, AV.ids, idsL, newIds, upTo, pinHeap, gOf, ↓reduceIte, List.isEmpty, Int.reducePow, Nat.reducePow, Int.reduceMod, Nat.reduceLeDiff, Int.reduceLE, Int.reduceNe, Int.reduceEq, aBuildSlice, fillB, aAppend, appendB, viewB, Ax.look, Ax.put, Ax.drop, List.drop, List.take, asv, aMake, aCopy, srcB, fillG, viewG, appendG, appendI, fillI, aSlice, bnd, bnds, full3, cut, aFieldAddr, aField, aStore, setB, aBox, aBuild, fillS, allTy, AV.leaves, AV.okv, AV.leaf, one, splice, elemLeaves, Blk.size, Blk.len, Option.isSome, Option.isNone, isBytes, aStr, aNil, aAlloc, aExtract, viewI, Nat.reduceEqDiff, Nat.reduceLT, Nat.reduceBEq, List.contains, List.elem, Blk.closed, closedL, AV.closed, Blk.noimm, ↓gsplit_tt, ↓gsplit_ff, ↓gsplit_tf, ↓gsplit_ft, ↓csplit_t, ↓csplit_f, Ax.idx, AV.lentIds, lentIdsL, dropAll, givenUp, AV.clean, cleanL, Blk.clean, cleanB, quietC, flatTy, coldStr, notMs, eqV, eqF, isStruct, evTP, laterF_normal, aopF, foot, footA, keepIn, dropIn, bids, Blk.ids, heldB, memOk, clearOf, Op.operands, Call.operands, List.map_cons, List.map_nil, List.toList_toArray, Array.toList_append, Option.toArray_some, Option.toArray_none, Bool.and_self, -coe, coe_w, coe_str, coe_agg, coe_tup, coe_sb, coe_si, coe_cp, coe_ms, coe_rf, coe_fn, coe_cons, ty, noS, raddPl, ha, dt, ent, lt0, List.nil_append, List.map_cons, List.map_nil, Bool.not_true, Bool.false_and]
      · obtain ⟨L, hL1⟩ : ∃ L, es.getLast? = some L := by
          cases h : es.getLast? with
          | some L => exact ⟨L, rfl⟩
          | none => rw [List.getLast?_eq_none_iff] at h; subst h; simp at hz
        have hs : slot (es.map ent) (es.length - 1) = .agg [.w (.int .i64 L.o), .w (.int .i64 L.t), .w (.int .i64 L.a)] := by
          rw [slot_ent es _ (by omega)]
          have : es[es.length - 1]'(by omega) = L := by
            rw [List.getLast?_eq_getElem?, List.getElem?_eq_getElem (by omega)] at hL1
            injection hL1
          rw [this]; rfl
        have hlt : lastT t es = max t L.t := by unfold lastT; rw [hL1]
        have em1 : (if t > L.t then t else L.t) = max t L.t := by split <;> omega
        have em2 : (if L.t > t then L.t else t) = max t L.t := by split <;> omega
        have d0 : decide ((0 : Int) < (es.length : Int)) = true := decide_eq_true (by omega)
        have e1 : ((es.length : Int) - 1 + 9223372036854775808) % 18446744073709551616 - 9223372036854775808 = ((es.length - 1 : Nat) : Int) := by omega
        have hids : idsL (es.map ent ++ [AV.agg [.w (.int .i64 o), .w (.int .i64 (max t L.t)), .w (.int .i64 a)]]) = [] := by
          have := ids_entF (es ++ [⟨o, max t L.t, a⟩])
          rw [List.map_append] at this
          exact this
        have hcl : closedL (es.map ent ++ [AV.agg [.w (.int .i64 o), .w (.int .i64 (max t L.t)), .w (.int .i64 a)]]) = true := by
          have := closed_ent (es ++ [⟨o, max t L.t, a⟩])
          rw [List.map_append] at this
          exact this
        have hdle : decide (0 + (es.length + 1) ≤ (es.map ent ++ [AV.agg [.w (.int .i64 o), .w (.int .i64 (max t L.t)), .w (.int .i64 a)]]).length) = true := decide_eq_true (by simp)
        have htk : (es.map ent ++ [AV.agg [.w (.int .i64 o), .w (.int .i64 (max t L.t)), .w (.int .i64 a)]]).take (es.length + 1) = (es.map ent ++ [AV.agg [.w (.int .i64 o), .w (.int .i64 (max t L.t)), .w (.int .i64 a)]]) := List.take_of_length_le (by simp)
        rcases D with D | D
        all_goals simp -implicitDefEqProofs only [evT, implies_true, forall_const, Option.getD, later_normal, aop, aLen, ev, slot, setSlot, putSlot, cv, cvl, aConv, aBin, aInt, aUn, aFn, aEq, Out.and, isBool, isPtr, List.length, IntKind.bits, evs, evo, evps, aCall, aUser, coes, coe, List.append, List.replicate, callOut, rootsL, AV.roots, lendsL, AV.lends, pinsOf, nodup, lendL, lend, closedB, noimmB, AV.noimm, AV.ren, renL, back, Nat.reduceAdd, Nat.reduceSub, Nat.reduceMul, Int.reduceToNat, reduceCtorEq, aLoad, subv, aIndexAddr, aIndex, TD.aggr, guardSlot, aPick, byte, word, aMin, aMax, Ax.Ends, EndsX, Ax.rvals, rone, AV.ids, idsL, newIds, upTo, pinHeap, gOf, ↓reduceIte, List.isEmpty, Int.reducePow, Nat.reducePow, Int.reduceMod, Nat.reduceLeDiff, Int.reduceLE, Int.reduceNe, Int.reduceEq, aBuildSlice, fillB, aAppend, appendB, viewB, Ax.look, Ax.put, Ax.drop, List.drop, List.take, asv, aMake, aCopy, srcB, fillG, viewG, appendG, appendI, fillI, aSlice, bnd, bnds, full3, cut, aFieldAddr, aField, aStore, setB, aBox, aBuild, fillS, allTy, AV.leaves, AV.okv, AV.leaf, one, splice, elemLeaves, Blk.size, Blk.len, Option.isSome, Option.isNone, isBytes, aStr, aNil, aAlloc, aExtract, viewI, Nat.reduceEqDiff, Nat.reduceLT, Nat.reduceBEq, List.contains, List.elem, Blk.closed, closedL, AV.closed, Blk.noimm, ↓gsplit_tt, ↓gsplit_ff, ↓gsplit_tf, ↓gsplit_ft, ↓csplit_t, ↓csplit_f, Ax.idx, AV.lentIds, lentIdsL, dropAll, givenUp, AV.clean, cleanL, Blk.clean, cleanB, quietC, flatTy, coldStr, notMs, eqV, eqF, isStruct, evTP, laterF_normal, aopF, foot, footA, keepIn, dropIn, bids, Blk.ids, heldB, memOk, clearOf, Op.operands, Call.operands, List.map_cons, List.map_nil, List.toList_toArray, Array.toList_append, Option.toArray_some, Option.toArray_none, Bool.and_self, -coe, coe_w, coe_str, coe_agg, coe_tup, coe_sb, coe_si, coe_cp, coe_ms, coe_rf, coe_fn, coe_cons, ty, noS, raddPl, hl4, hids, hinc, d0, e1, hs, em1, em2, D, dt, ids_entF, map_uent, ha, hlt, fillS, Int.toNat_natCast]
        all_goals refine ⟨⟨by omega, by omega⟩, htop, htop1, ?_⟩
        all_goals refine ⟨_, weak_fg 380 3 50 (es.map ent ++ [AV.agg [.w (.int .i64 o), .w (.int .i64 (max t L.t)), .w (.int .i64 a)]]) rfl hcl (by simp [slot, AV.ids, idsL]), ?_⟩
        all_goals simp only [fgL, fgH, AV.fg, Blk.fg, Nat.reduceBEq, cond_true, cond_false, hdle, Bool.and_true, beq_self_eq_true, Bool.true_and, List.drop_zero, htk]
        all_goals simp -implicitDefEqProofs only [evT, implies_true, forall_const, Option.getD, later_normal, aop, aLen, ev, slot, setSlot, putSlot, cv, cvl, aConv, aBin, aInt, aUn, aFn, aEq, Out.and, isBool, isPtr, List.length, IntKind.bits, evs, evo, evps, aCall, aUser, coes, coe, List.append, List.replicate, callOut, rootsL, AV.roots, lendsL, AV.lends, pinsOf, nodup, lendL, lend, closedB, noimmB, AV.noimm, AV.ren, renL, back, Nat.reduceAdd, Nat.reduceSub, Nat.reduceMul, Int.reduceToNat, reduceCtorEq, aLoad, subv, aIndexAddr, aIndex, TD.aggr, guardSlot, aPick, byte, word, aMin, aMax, Ax.Ends, EndsX, Ax.rvals, rone, AV.ids, idsL, newIds, upTo, pinHeap, gOf, ↓reduceIte, List.isEmpty, Int.reducePow, Nat.reducePow, Int.reduceMod, Nat.reduceLeDiff, Int.reduceLE, Int.reduceNe, Int.reduceEq, aBuildSlice, fillB, aAppend, appendB, viewB, Ax.look, Ax.put, Ax.drop, List.drop, List.take, asv, aMake, aCopy, srcB, fillG, viewG, appendG, appendI, fillI, aSlice, bnd, bnds, full3, cut, aFieldAddr, aField, aStore, setB, aBox, aBuild, fillS, allTy, AV.leaves, AV.okv, AV.leaf, one, splice, elemLeaves, Blk.size, Blk.len, Option.isSome, Option.isNone, isBytes, aStr, aNil, aAlloc, aExtract, viewI, Nat.reduceEqDiff, Nat.reduceLT, Nat.reduceBEq, List.contains, List.elem, Blk.closed, closedL, AV.closed, Blk.noimm, ↓gsplit_tt, ↓gsplit_ff, ↓gsplit_tf, ↓gsplit_ft, ↓csplit_t, ↓csplit_f, Ax.idx, AV.lentIds, lentIdsL, dropAll, givenUp, AV.clean, cleanL, Blk.clean, cleanB, quietC, flatTy, coldStr, notMs, eqV, eqF, isStruct, evTP, laterF_normal, aopF, foot, footA, keepIn, dropIn, bids, Blk.ids, heldB, memOk, clearOf, Op.operands, Call.operands, List.map_cons, List.map_nil, List.toList_toArray, Array.toList_append, Option.toArray_some, Option.toArray_none, Bool.and_self, -coe, coe_w, coe_str, coe_agg, coe_tup, coe_sb, coe_si, coe_cp, coe_ms, coe_rf, coe_fn, coe_cons, ty, noS, raddPl, ha, dt, hlt, ent, map_uent, List.map_append, List.map_cons, List.map_nil, Bool.not_true, Bool.false_and]
    · have dt : decide (takesI v c) = false := decide_eq_false ht
      have D : ¬ v = 0 ∧ decide (v < 1) = false ∧ decide (c.tmod v = 0) = false := by
        rcases takes_cases v c with D | D | D
        · exact absurd D.2 ht
        · exact absurd D.2.2.2 ht
        · exact ⟨D.1, D.2.1, D.2.2.1⟩
      have ha : addI ⟨v, c, es⟩ ⟨o, t, a⟩ = ⟨v, inc c, es⟩ := by unfold addI; simp only; rw [if_neg ht]
      simp -implicitDefEqProofs only [evT, implies_true, forall_const, Option.getD, later_normal, aop, aLen, ev, slot, setSlot, putSlot, cv, cvl, aConv, aBin, aInt, aUn, aFn, aEq, Out.and, isBool, isPtr, List.length, IntKind.bits, evs, evo, evps, aCall, aUser, coes, coe, List.append, List.replicate, callOut, rootsL, AV.roots, lendsL, AV.lends, pinsOf, nodup, lendL, lend, closedB, noimmB, AV.noimm, AV.ren, renL, back, Nat.reduceAdd, Nat.reduceSub, Nat.reduceMul, Int.reduceToNat, reduceCtorEq, aLoad, subv, aIndexAddr, aIndex, TD.aggr, guardSlot, aPick, byte, word, aMin, aMax, Ax.Ends, EndsX, Ax.rvals, rone, AV.ids, idsL, newIds, upTo, pinHeap, gOf, ↓reduceIte, List.isEmpty, Int.reducePow, Nat.reducePow, Int.reduceMod, Nat.reduceLeDiff, Int.reduceLE, Int.reduceNe, Int.reduceEq, aBuildSlice, fillB, aAppend, appendB, viewB, Ax.look, Ax.put, Ax.drop, List.drop, List.take, asv, aMake, aCopy, srcB, fillG, viewG, appendG, appendI, fillI, aSlice, bnd, bnds, full3, cut, aFieldAddr, aField, aStore, setB, aBox, aBuild, fillS, allTy, AV.leaves, AV.okv, AV.leaf, one, splice, elemLeaves, Blk.size, Blk.len, Option.isSome, Option.isNone, isBytes, aStr, aNil, aAlloc, aExtract, viewI, Nat.reduceEqDiff, Nat.reduceLT, Nat.reduceBEq, List.contains, List.elem, Blk.closed, closedL, AV.closed, Blk.noimm, ↓gsplit_tt, ↓gsplit_ff, ↓gsplit_tf, ↓gsplit_ft, ↓csplit_t, ↓csplit_f, Ax.idx, AV.lentIds, lentIdsL, dropAll, givenUp, AV.clean, cleanL, Blk.clean, cleanB, quietC, flatTy, coldStr, notMs, eqV, eqF, isStruct, evTP, laterF_normal, aopF, foot, footA, keepIn, dropIn, bids, Blk.ids, heldB, memOk, clearOf, Op.operands, Call.operands, List.map_cons, List.map_nil, List.toList_toArray, Array.toList_append, Option.toArray_some, Option.toArray_none, Bool.and_self, -coe, coe_w, coe_str, coe_agg, coe_tup, coe_sb, coe_si, coe_cp, coe_ms, coe_rf, coe_fn, coe_cons, ty, noS, raddPl, hl4, hinc, D, dt, fillS]
      refine ⟨_, Weak.refl _, ?_⟩
      simp -implicitDefEqProofs only [evT, implies_true, forall_const, Option.getD, later_normal, aop, aLen, ev, slot, setSlot, putSlot, cv, cvl, aConv, aBin, aInt, aUn, aFn, aEq, Out.and, isBool, isPtr, List.length, IntKind.bits, evs, evo, evps, aCall, aUser, coes, coe, List.append, List.replicate, callOut, rootsL, AV.roots, lendsL, AV.lends, pinsOf, nodup, lendL, lend, closedB, noimmB, AV.noimm, AV.ren, renL, back, Nat.reduceAdd, Nat.reduceSub, Nat.reduceMul, Int.reduceToNat, reduceCtorEq, aLoad, subv, aIndexAddr, aIndex, TD.aggr, guardSlot, aPick, byte, word, aMin, aMax, Ax.Ends, EndsX, Ax.rvals, rone, AV.ids, idsL, newIds, upTo, pinHeap, gOf, ↓reduceIte, List.isEmpty, Int.reducePow, Nat.reducePow, Int.reduceMod, Nat.reduceLeDiff, Int.reduceLE, Int.reduceNe, Int.reduceEq, aBuildSlice, fillB, aAppend, appendB, viewB, Ax.look, Ax.put, Ax.drop, List.drop, List.take, asv, aMake, aCopy, srcB, fillG, viewG, appendG, appendI, fillI, aSlice, bnd, bnds, full3, cut, aFieldAddr, aField, aStore, setB, aBox, aBuild, fillS, allTy, AV.leaves, AV.okv, AV.leaf, one, splice, elemLeaves, Blk.size, Blk.len, Option.isSome, Option.isNone, isBytes, aStr, aNil, aAlloc, aExtract, viewI, Nat.reduceEqDiff, Nat.reduceLT, Nat.reduceBEq, List.contains, List.elem, Blk.closed, closedL, AV.closed, Blk.noimm, ↓gsplit_tt, ↓gsplit_ff, ↓gsplit_tf, ↓gsplit_ft, ↓csplit_t, ↓csplit_f, Ax.idx, AV.lentIds, lentIdsL, dropAll, givenUp, AV.clean, cleanL, Blk.clean, cleanB, quietC, flatTy, coldStr, notMs, eqV, eqF, isStruct, evTP, laterF_normal, aopF, foot, footA, keepIn, dropIn, bids, Blk.ids, heldB, memOk, clearOf, Op.operands, Call.operands, List.map_cons, List.map_nil, List.toList_toArray, Array.toList_append, Option.toArray_some, Option.toArray_none, Bool.and_self, -coe, coe_w, coe_str, coe_agg, coe_tup, coe_sb, coe_si, coe_cp, coe_ms, coe_rf, coe_fn, coe_cons, ty, noS, raddPl, ha, dt, map_uent, Bool.not_false, Bool.true_and]
  · exact hp.elim
end
end Go.Proofs.Ytoagncogikogpaa
