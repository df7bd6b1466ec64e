/- Layer 12: what is added is what the document says. -/
import Derived.Test.YtoagncogikogpaaI6
import Derived.Test.YtoagncogikogpaaIg
namespace Go.Proofs.Ytoagncogikogpaa
open Ax
set_option linter.unusedSimpArgs false
set_option linter.unusedVariables false

def iaddsS : FSpec
  | [.agg [.w (.int .i64 v), .w (.int .i64 c), .sg 3 xs f], .agg [.w (.int .i64 v'), .w (.int .i64 c'), .sg 3 ys g], .agg [.w (.int .i64 o), .w (.int .i64 t), .w (.int .i64 a)]], [] =>
      ⟨(xs.length ≤ 9223372036854775807 ∧ ∃ es : List Ent, xs = es.map ent) ∧ ys.length ≤ 9223372036854775807 ∧ ∃ gs : List Ent, ys = gs.map ent, .w (.bool true), []⟩
  | _, _ => noRes
def Siadds (f : FuncId) : Option FSpec :=
  match f with
  | 23 => some yesS
  | 24 => some ownS
  | 27 => some ownS
  | 25 => some addI12S
  | 29 => some sameI12S
  | 30 => some newI12S
  | 32 => some buildI12S
  | 28 => some raddS
  | 26 => some sameI12S
  | 31 => some newI12S
  | 33 => some rbuildS
  | _ => none
theorem Siadds_ok : Fns Try.prog Siadds := by
  intro f s h
  unfold Siadds at h
  split at h
  · injection h with h; subst h; exact ⟨⟨_, Try.func23, by kernel_rfl, by kernel_rfl⟩, awake12_sound⟩
  · injection h with h; subst h; exact ⟨⟨_, Try.func24, by kernel_rfl, by kernel_rfl⟩, own_sound⟩
  · injection h with h; subst h; exact ⟨⟨_, Try.func27, by kernel_rfl, by kernel_rfl⟩, as12_sound⟩
  · injection h with h; subst h; exact ⟨⟨_, Try.func25, by kernel_rfl, by kernel_rfl⟩, addI12_sound⟩
  · injection h with h; subst h; exact ⟨⟨_, Try.func29, by kernel_rfl, by kernel_rfl⟩, sameI12_sound⟩
  · injection h with h; subst h; exact ⟨⟨_, Try.func30, by kernel_rfl, by kernel_rfl⟩, newI12_sound⟩
  · injection h with h; subst h; exact ⟨⟨_, Try.func32, by kernel_rfl, by kernel_rfl⟩, buildI12_sound⟩
  · injection h with h; subst h; exact ⟨⟨_, Try.func28, by kernel_rfl, by kernel_rfl⟩, raddI_sound⟩
  · injection h with h; subst h; exact ⟨⟨_, Try.func26, by kernel_rfl, by kernel_rfl⟩, rsameI12_sound⟩
  · injection h with h; subst h; exact ⟨⟨_, Try.func31, by kernel_rfl, by kernel_rfl⟩, rnewI12_sound⟩
  · injection h with h; subst h; exact ⟨⟨_, Try.func33, by kernel_rfl, by kernel_rfl⟩, rbuildI_sound⟩
  · cases h
def iaddsPl : Plan := fun id => match id with
  | 6 => some [(1, 2), (1, 3), (8, 9), (14, 15), (14, 18), (16, 18), (17, 18), (14, 19), (16, 19), (17, 19)]
  | 7 => some [(5, 7), (6, 7), (5, 8), (6, 8), (5, 9), (6, 9), (5, 10), (6, 10)]
  | _ => none
section
set_option maxRecDepth 100000
set_option maxHeartbeats 800000 in
theorem iadds_law : Sound Try.prog 4 iaddsS := by
  refine fn_soundF (S := Siadds) (T := ty) (pl := iaddsPl) mixed ty_ok Siadds_ok Try.func4 (c := Try.f4.body.getD .skip) (by kernel_rfl) (by kernel_rfl) (fun xs pins hp _ => ?_)
  unfold iaddsS at hp ⊢
  split at hp
  · rename_i v c xs f v' c' ys g o t a _
    obtain ⟨⟨hL1, es, rfl⟩, hL2, gs, rfl⟩ := hp
    rw [List.length_map] at hL1 hL2
    refine ⟨by simp, ?_⟩
    have hl4 : (es.map ent).length = es.length := by simp
    have hl5 : (gs.map ent).length = gs.length := by simp
    have hc1 : ∀ g, coe ty 43 (.sg 3 (es.map ent) g) = .sg 3 (es.map ent) g := fun g => by cases es <;> rfl
    have hc2 : ∀ g, coe ty 43 (.sg 3 (gs.map ent) g) = .sg 3 (gs.map ent) g := fun g => by cases gs <;> rfl
    have hc3 : ∀ g, coe ty 48 (.sg 3 (es.map ent) g) = .sg 3 (es.map ent) g := fun g => by cases es <;> rfl
    have hc4 : ∀ g, coe ty 48 (.sg 3 (gs.map ent) g) = .sg 3 (gs.map ent) g := fun g => by cases gs <;> rfl
    unfold Try.f4
    by_cases g1 : es.length ≤ 60
    · have d1 : decide ((60 : Int) < es.length) = false := decide_eq_false (by omega)
      by_cases g2 : gs.length ≤ 60
      · have d2 : decide ((60 : Int) < gs.length) = false := decide_eq_false (by omega)
        by_cases g3 : c < 0
        · have d3 : decide (c < 0) = true := decide_eq_true g3
          simp -implicitDefEqProofs only [evT, implies_true, forall_const, Option.getD, later_normal, aop, aLen, ev, slot, setSlot, putSlot, cv, cvl, aConv, aBin, aInt, aUn, aFn, aEq, Out.and, isBool, isPtr, List.length, IntKind.bits, evs, evo, evps, aCall, aUser, coes, coe, List.append, List.replicate, callOut, rootsL, AV.roots, lendsL, AV.lends, pinsOf, nodup, lendL, lend, closedB, noimmB, AV.noimm, AV.ren, renL, back, Nat.reduceAdd, Nat.reduceSub, Nat.reduceMul, Int.reduceToNat, reduceCtorEq, aLoad, subv, aIndexAddr, aIndex, TD.aggr, guardSlot, aPick, byte, word, aMin, aMax, Ax.Ends, EndsX, Ax.rvals, rone, AV.ids, idsL, newIds, upTo, pinHeap, gOf, ↓reduceIte, List.isEmpty, Int.reducePow, Nat.reducePow, Int.reduceMod, Nat.reduceLeDiff, Int.reduceLE, Int.reduceNe, Int.reduceEq, aBuildSlice, fillB, aAppend, appendB, viewB, Ax.look, Ax.put, Ax.drop, List.drop, List.take, asv, aMake, aCopy, srcB, fillG, viewG, appendG, appendI, fillI, aSlice, bnd, bnds, full3, cut, aFieldAddr, aField, aStore, setB, aBox, aBuild, fillS, allTy, AV.leaves, AV.okv, AV.leaf, one, splice, elemLeaves, Blk.size, Blk.len, Option.isSome, Option.isNone, isBytes, aStr, aNil, aAlloc, aExtract, viewI, Nat.reduceEqDiff, Nat.reduceLT, Nat.reduceBEq, List.contains, List.elem, Blk.closed, closedL, AV.closed, Blk.noimm, ↓gsplit_tt, ↓gsplit_ff, ↓gsplit_tf, ↓gsplit_ft, ↓csplit_t, ↓csplit_f, Ax.idx, AV.lentIds, lentIdsL, dropAll, givenUp, AV.clean, cleanL, Blk.clean, cleanB, quietC, flatTy, coldStr, notMs, eqV, eqF, isStruct, evTP, laterF_normal, aopF, foot, footA, keepIn, dropIn, bids, Blk.ids, heldB, memOk, clearOf, Op.operands, Call.operands, List.map_cons, List.map_nil, List.toList_toArray, Array.toList_append, Option.toArray_some, Option.toArray_none, Bool.and_self, -coe, coe_w, coe_str, coe_agg, coe_tup, coe_sb, coe_si, coe_cp, coe_ms, coe_rf, coe_fn, coe_cons, ty, Siadds, iaddsPl, yesS, hl4, hl5, d1, d2, d3]
          exact wE12_ends 6 rfl
        · have d3 : decide (c < 0) = false := decide_eq_false g3
          by_cases g4 : 1099511627776 < c
          · have d4 : decide (1099511627776 < c) = true := decide_eq_true g4
            simp -implicitDefEqProofs only [evT, implies_true, forall_const, Option.getD, later_normal, aop, aLen, ev, slot, setSlot, putSlot, cv, cvl, aConv, aBin, aInt, aUn, aFn, aEq, Out.and, isBool, isPtr, List.length, IntKind.bits, evs, evo, evps, aCall, aUser, coes, coe, List.append, List.replicate, callOut, rootsL, AV.roots, lendsL, AV.lends, pinsOf, nodup, lendL, lend, closedB, noimmB, AV.noimm, AV.ren, renL, back, Nat.reduceAdd, Nat.reduceSub, Nat.reduceMul, Int.reduceToNat, reduceCtorEq, aLoad, subv, aIndexAddr, aIndex, TD.aggr, guardSlot, aPick, byte, word, aMin, aMax, Ax.Ends, EndsX, Ax.rvals, rone, AV.ids, idsL, newIds, upTo, pinHeap, gOf, ↓reduceIte, List.isEmpty, Int.reducePow, Nat.reducePow, Int.reduceMod, Nat.reduceLeDiff, Int.reduceLE, Int.reduceNe, Int.reduceEq, aBuildSlice, fillB, aAppend, appendB, viewB, Ax.look, Ax.put, Ax.drop, List.drop, List.take, asv, aMake, aCopy, srcB, fillG, viewG, appendG, appendI, fillI, aSlice, bnd, bnds, full3, cut, aFieldAddr, aField, aStore, setB, aBox, aBuild, fillS, allTy, AV.leaves, AV.okv, AV.leaf, one, splice, elemLeaves, Blk.size, Blk.len, Option.isSome, Option.isNone, isBytes, aStr, aNil, aAlloc, aExtract, viewI, Nat.reduceEqDiff, Nat.reduceLT, Nat.reduceBEq, List.contains, List.elem, Blk.closed, closedL, AV.closed, Blk.noimm, ↓gsplit_tt, ↓gsplit_ff, ↓gsplit_tf, ↓gsplit_ft, ↓csplit_t, ↓csplit_f, Ax.idx, AV.lentIds, lentIdsL, dropAll, givenUp, AV.clean, cleanL, Blk.clean, cleanB, quietC, flatTy, coldStr, notMs, eqV, eqF, isStruct, evTP, laterF_normal, aopF, foot, footA, keepIn, dropIn, bids, Blk.ids, heldB, memOk, clearOf, Op.operands, Call.operands, List.map_cons, List.map_nil, List.toList_toArray, Array.toList_append, Option.toArray_some, Option.toArray_none, Bool.and_self, -coe, coe_w, coe_str, coe_agg, coe_tup, coe_sb, coe_si, coe_cp, coe_ms, coe_rf, coe_fn, coe_cons, ty, Siadds, iaddsPl, yesS, hl4, hl5, d1, d2, d3, d4]
            exact wE12_ends 6 rfl
          · have d4 : decide (1099511627776 < c) = false := decide_eq_false g4
            have hm1 : es.length ≤ 100000 := by omega
            have hm2 : gs.length ≤ 100000 := by omega
            have hm3 : es.length ≤ 900000 := by omega
            have hx1 : ∃ qs : List Ent, es.map ent = qs.map ent := ⟨es, rfl⟩
            have hx2 : ∃ qs : List Ent, gs.map ent = qs.map ent := ⟨gs, rfl⟩
            have hZl0 := addI_len ⟨v, c, es⟩ ⟨o, t, a⟩
            obtain ⟨Z, hZ⟩ : ∃ Z, addI ⟨v, c, es⟩ ⟨o, t, a⟩ = Z := ⟨_, rfl⟩
            rw [hZ] at hZl0
            have hZl : Z.es.length ≤ 100000 := by simp at hZl0; omega
            have hZl1 : Z.es.length ≤ 9223372036854775807 := by omega
            have hZ2 : (Z.es.map ent).length = Z.es.length := by simp
            have hx3 : ∃ qs : List Ent, Z.es.map ent = qs.map ent := ⟨Z.es, rfl⟩
            have hWl0 : (bldI v gs).es.length ≤ 100000 := by
              have := fold_len gs ⟨max v 1, 0, []⟩
              unfold bldI; simp at this; omega
            obtain ⟨W, hW⟩ : ∃ W, bldI v gs = W := ⟨_, rfl⟩
            rw [hW] at hWl0
            have hWl1 : W.es.length ≤ 9223372036854775807 := by omega
            have hW2 : (W.es.map ent).length = W.es.length := by simp
            have hx4 : ∃ qs : List Ent, W.es.map ent = qs.map ent := ⟨W.es, rfl⟩
            obtain ⟨B, hB⟩ : ∃ B, sameI v c es v' c' gs = B := ⟨_, rfl⟩
            have s1 : ∀ (p q : Int) (l : List Ent), sameI p q l p q l = true := fun p q l => by unfold sameI; simp
            have hBB : (B == B) = true := by cases B <;> rfl
            have dm : decide (max v 1 = max v 1) = true := decide_eq_true rfl
            obtain ⟨D, hD⟩ : ∃ D, (!decide (takesI v c) && f) = D := ⟨_, rfl⟩
            have hcZ1 : ∀ g, coe ty 43 (.sg 3 (Z.es.map ent) g) = .sg 3 (Z.es.map ent) g := fun g => by cases Z.es <;> rfl
            have hcZ2 : ∀ g, coe ty 48 (.sg 3 (Z.es.map ent) g) = .sg 3 (Z.es.map ent) g := fun g => by cases Z.es <;> rfl
            have hcW1 : ∀ g, coe ty 43 (.sg 3 (W.es.map ent) g) = .sg 3 (W.es.map ent) g := fun g => by cases W.es <;> rfl
            have hcW2 : ∀ g, coe ty 48 (.sg 3 (W.es.map ent) g) = .sg 3 (W.es.map ent) g := fun g => by cases W.es <;> rfl
            simp -implicitDefEqProofs only [evT, implies_true, forall_const, Option.getD, later_normal, aop, aLen, ev, slot, setSlot, putSlot, cv, cvl, aConv, aBin, aInt, aUn, aFn, aEq, Out.and, isBool, isPtr, List.length, IntKind.bits, evs, evo, evps, aCall, aUser, coes, coe, List.append, List.replicate, callOut, rootsL, AV.roots, lendsL, AV.lends, pinsOf, nodup, lendL, lend, closedB, noimmB, AV.noimm, AV.ren, renL, back, Nat.reduceAdd, Nat.reduceSub, Nat.reduceMul, Int.reduceToNat, reduceCtorEq, aLoad, subv, aIndexAddr, aIndex, TD.aggr, guardSlot, aPick, byte, word, aMin, aMax, Ax.Ends, EndsX, Ax.rvals, rone, AV.ids, idsL, newIds, upTo, pinHeap, gOf, ↓reduceIte, List.isEmpty, Int.reducePow, Nat.reducePow, Int.reduceMod, Nat.reduceLeDiff, Int.reduceLE, Int.reduceNe, Int.reduceEq, aBuildSlice, fillB, aAppend, appendB, viewB, Ax.look, Ax.put, Ax.drop, List.drop, List.take, asv, aMake, aCopy, srcB, fillG, viewG, appendG, appendI, fillI, aSlice, bnd, bnds, full3, cut, aFieldAddr, aField, aStore, setB, aBox, aBuild, fillS, allTy, AV.leaves, AV.okv, AV.leaf, one, splice, elemLeaves, Blk.size, Blk.len, Option.isSome, Option.isNone, isBytes, aStr, aNil, aAlloc, aExtract, viewI, Nat.reduceEqDiff, Nat.reduceLT, Nat.reduceBEq, List.contains, List.elem, Blk.closed, closedL, AV.closed, Blk.noimm, ↓gsplit_tt, ↓gsplit_ff, ↓gsplit_tf, ↓gsplit_ft, ↓csplit_t, ↓csplit_f, Ax.idx, AV.lentIds, lentIdsL, dropAll, givenUp, AV.clean, cleanL, Blk.clean, cleanB, quietC, flatTy, coldStr, notMs, eqV, eqF, isStruct, evTP, laterF_normal, aopF, foot, footA, keepIn, dropIn, bids, Blk.ids, heldB, memOk, clearOf, Op.operands, Call.operands, List.map_cons, List.map_nil, List.toList_toArray, Array.toList_append, Option.toArray_some, Option.toArray_none, Bool.and_self, -coe, coe_w, coe_str, coe_agg, coe_tup, coe_sb, coe_si, coe_cp, coe_ms, coe_rf, coe_fn, coe_cons, ty, Siadds, iaddsPl, hl4, hl5, d1, d2, d3, d4, -laterF_normal]
            repeat (rw [laterF_normal]; simp -implicitDefEqProofs only [evT, implies_true, forall_const, Option.getD, later_normal, aop, aLen, ev, slot, setSlot, putSlot, cv, cvl, aConv, aBin, aInt, aUn, aFn, aEq, Out.and, isBool, isPtr, List.length, IntKind.bits, evs, evo, evps, aCall, aUser, coes, coe, List.append, List.replicate, callOut, rootsL, AV.roots, lendsL, AV.lends, pinsOf, nodup, lendL, lend, closedB, noimmB, AV.noimm, AV.ren, renL, back, Nat.reduceAdd, Nat.reduceSub, Nat.reduceMul, Int.reduceToNat, reduceCtorEq, aLoad, subv, aIndexAddr, aIndex, TD.aggr, guardSlot, aPick, byte, word, aMin, aMax, Ax.Ends, EndsX, Ax.rvals, rone, AV.ids, idsL, newIds, upTo, pinHeap, gOf, ↓reduceIte, List.isEmpty, Int.reducePow, Nat.reducePow, Int.reduceMod, Nat.reduceLeDiff, Int.reduceLE, Int.reduceNe, Int.reduceEq, aBuildSlice, fillB, aAppend, appendB, viewB, Ax.look, Ax.put, Ax.drop, List.drop, List.take, asv, aMake, aCopy, srcB, fillG, viewG, appendG, appendI, fillI, aSlice, bnd, bnds, full3, cut, aFieldAddr, aField, aStore, setB, aBox, aBuild, fillS, allTy, AV.leaves, AV.okv, AV.leaf, one, splice, elemLeaves, Blk.size, Blk.len, Option.isSome, Option.isNone, isBytes, aStr, aNil, aAlloc, aExtract, viewI, Nat.reduceEqDiff, Nat.reduceLT, Nat.reduceBEq, List.contains, List.elem, Blk.closed, closedL, AV.closed, Blk.noimm, ↓gsplit_tt, ↓gsplit_ff, ↓gsplit_tf, ↓gsplit_ft, ↓csplit_t, ↓csplit_f, Ax.idx, AV.lentIds, lentIdsL, dropAll, givenUp, AV.clean, cleanL, Blk.clean, cleanB, quietC, flatTy, coldStr, notMs, eqV, eqF, isStruct, evTP, laterF_normal, aopF, foot, footA, keepIn, dropIn, bids, Blk.ids, heldB, memOk, clearOf, Op.operands, Call.operands, List.map_cons, List.map_nil, List.toList_toArray, Array.toList_append, Option.toArray_some, Option.toArray_none, Bool.and_self, -coe, coe_w, coe_str, coe_agg, coe_tup, coe_sb, coe_si, coe_cp, coe_ms, coe_rf, coe_fn, coe_cons, ty, Siadds, iaddsPl, yesS, ownS, addI12S, sameI12S, newI12S, buildI12S, raddS, rbuildS, hl4, hl5, d1, d2, d3, d4, hc1, hc2, hc3, hc4, hcZ1, hcZ2, hcW1, hcW2, hm1, hm2, hm3, hx1, hx2, hx3, hx4, hZ, hZl, hZl1, hZ2, hW, hWl0, hWl1, hW2, hB, s1, hBB, dm, hD, hL1, hL2, ids_entF, closed_ent, map_uent, iav, fillS, -laterF_normal])
            exact wE12_ends 6 rfl
      · have d2 : decide ((60 : Int) < gs.length) = true := decide_eq_true (by omega)
        simp -implicitDefEqProofs only [evT, implies_true, forall_const, Option.getD, later_normal, aop, aLen, ev, slot, setSlot, putSlot, cv, cvl, aConv, aBin, aInt, aUn, aFn, aEq, Out.and, isBool, isPtr, List.length, IntKind.bits, evs, evo, evps, aCall, aUser, coes, coe, List.append, List.replicate, callOut, rootsL, AV.roots, lendsL, AV.lends, pinsOf, nodup, lendL, lend, closedB, noimmB, AV.noimm, AV.ren, renL, back, Nat.reduceAdd, Nat.reduceSub, Nat.reduceMul, Int.reduceToNat, reduceCtorEq, aLoad, subv, aIndexAddr, aIndex, TD.aggr, guardSlot, aPick, byte, word, aMin, aMax, Ax.Ends, EndsX, Ax.rvals, rone, AV.ids, idsL, newIds, upTo, pinHeap, gOf, ↓reduceIte, List.isEmpty, Int.reducePow, Nat.reducePow, Int.reduceMod, Nat.reduceLeDiff, Int.reduceLE, Int.reduceNe, Int.reduceEq, aBuildSlice, fillB, aAppend, appendB, viewB, Ax.look, Ax.put, Ax.drop, List.drop, List.take, asv, aMake, aCopy, srcB, fillG, viewG, appendG, appendI, fillI, aSlice, bnd, bnds, full3, cut, aFieldAddr, aField, aStore, setB, aBox, aBuild, fillS, allTy, AV.leaves, AV.okv, AV.leaf, one, splice, elemLeaves, Blk.size, Blk.len, Option.isSome, Option.isNone, isBytes, aStr, aNil, aAlloc, aExtract, viewI, Nat.reduceEqDiff, Nat.reduceLT, Nat.reduceBEq, List.contains, List.elem, Blk.closed, closedL, AV.closed, Blk.noimm, ↓gsplit_tt, ↓gsplit_ff, ↓gsplit_tf, ↓gsplit_ft, ↓csplit_t, ↓csplit_f, Ax.idx, AV.lentIds, lentIdsL, dropAll, givenUp, AV.clean, cleanL, Blk.clean, cleanB, quietC, flatTy, coldStr, notMs, eqV, eqF, isStruct, evTP, laterF_normal, aopF, foot, footA, keepIn, dropIn, bids, Blk.ids, heldB, memOk, clearOf, Op.operands, Call.operands, List.map_cons, List.map_nil, List.toList_toArray, Array.toList_append, Option.toArray_some, Option.toArray_none, Bool.and_self, -coe, coe_w, coe_str, coe_agg, coe_tup, coe_sb, coe_si, coe_cp, coe_ms, coe_rf, coe_fn, coe_cons, ty, Siadds, iaddsPl, yesS, hl4, hl5, d1, d2]
        exact wE12_ends 6 rfl
    · have d1 : decide ((60 : Int) < es.length) = true := decide_eq_true (by omega)
      simp -implicitDefEqProofs only [evT, implies_true, forall_const, Option.getD, later_normal, aop, aLen, ev, slot, setSlot, putSlot, cv, cvl, aConv, aBin, aInt, aUn, aFn, aEq, Out.and, isBool, isPtr, List.length, IntKind.bits, evs, evo, evps, aCall, aUser, coes, coe, List.append, List.replicate, callOut, rootsL, AV.roots, lendsL, AV.lends, pinsOf, nodup, lendL, lend, closedB, noimmB, AV.noimm, AV.ren, renL, back, Nat.reduceAdd, Nat.reduceSub, Nat.reduceMul, Int.reduceToNat, reduceCtorEq, aLoad, subv, aIndexAddr, aIndex, TD.aggr, guardSlot, aPick, byte, word, aMin, aMax, Ax.Ends, EndsX, Ax.rvals, rone, AV.ids, idsL, newIds, upTo, pinHeap, gOf, ↓reduceIte, List.isEmpty, Int.reducePow, Nat.reducePow, Int.reduceMod, Nat.reduceLeDiff, Int.reduceLE, Int.reduceNe, Int.reduceEq, aBuildSlice, fillB, aAppend, appendB, viewB, Ax.look, Ax.put, Ax.drop, List.drop, List.take, asv, aMake, aCopy, srcB, fillG, viewG, appendG, appendI, fillI, aSlice, bnd, bnds, full3, cut, aFieldAddr, aField, aStore, setB, aBox, aBuild, fillS, allTy, AV.leaves, AV.okv, AV.leaf, one, splice, elemLeaves, Blk.size, Blk.len, Option.isSome, Option.isNone, isBytes, aStr, aNil, aAlloc, aExtract, viewI, Nat.reduceEqDiff, Nat.reduceLT, Nat.reduceBEq, List.contains, List.elem, Blk.closed, closedL, AV.closed, Blk.noimm, ↓gsplit_tt, ↓gsplit_ff, ↓gsplit_tf, ↓gsplit_ft, ↓csplit_t, ↓csplit_f, Ax.idx, AV.lentIds, lentIdsL, dropAll, givenUp, AV.clean, cleanL, Blk.clean, cleanB, quietC, flatTy, coldStr, notMs, eqV, eqF, isStruct, evTP, laterF_normal, aopF, foot, footA, keepIn, dropIn, bids, Blk.ids, heldB, memOk, clearOf, Op.operands, Call.operands, List.map_cons, List.map_nil, List.toList_toArray, Array.toList_append, Option.toArray_some, Option.toArray_none, Bool.and_self, -coe, coe_w, coe_str, coe_agg, coe_tup, coe_sb, coe_si, coe_cp, coe_ms, coe_rf, coe_fn, coe_cons, ty, Siadds, iaddsPl, yesS, hl4, hl5, d1]
      exact wE12_ends 6 rfl
  · exact hp.elim
end
theorem iadds_dom {x y z : AV} (hx : Arg ty 6 45 x) (hy : Arg ty 6 45 y) (hz : Arg ty 6 47 z) : (iaddsS [x, y, z] []).p ∧ (iaddsS [x, y, z] []).x = .w (.bool true) := by
  obtain ⟨p, f, rfl, ha⟩ := arg_idx hx
  obtain ⟨q, g, rfl, hb⟩ := arg_idx hy
  obtain ⟨e, rfl⟩ := arg_ent hz
  exact ⟨⟨⟨by rw [List.length_map]; omega, _, rfl⟩, by rw [List.length_map]; omega, _, rfl⟩, rfl⟩
end Go.Proofs.Ytoagncogikogpaa
