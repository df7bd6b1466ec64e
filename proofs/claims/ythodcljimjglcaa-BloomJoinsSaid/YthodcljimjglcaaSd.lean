/- Layer 33: the law of sets joined. -/
import Derived.Test.YthodcljimjglcaaSc
namespace Go.Proofs.Ythodcljimjglcaa
open Ax
set_option linter.unusedSimpArgs false
set_option linter.unusedVariables false

def bjoinsS : FSpec
  | [.agg [.sb a f, .w (.int .i64 e), .w (.int .i64 n)], .agg [.sb b g, .w (.int .i64 d), .w (.int .i64 m)]], [] => ⟨True, .w (.bool true), []⟩
  | _, _ => noRes
def Sbjoins (f : FuncId) : Option FSpec :=
  match f with
  | 8 => some lightS
  | 9 => some yesS
  | 21 => some joinS
  | 22 => some joinS
  | 23 => some fullS
  | 24 => some fullS
  | 25 => some sameSetS
  | 13 => some sameSetS
  | _ => none
theorem Sbjoins_ok : Fns Try.prog Sbjoins := by
  intro f s h
  unfold Sbjoins at h
  split at h
  · injection h with h; subst h; exact ⟨⟨_, Try.func8, by kernel_rfl, by kernel_rfl⟩, light33_sound⟩
  · injection h with h; subst h; exact ⟨⟨_, Try.func9, by kernel_rfl, by kernel_rfl⟩, awake33_sound⟩
  · injection h with h; subst h; exact ⟨⟨_, Try.func21, by kernel_rfl, by kernel_rfl⟩, join_sound⟩
  · injection h with h; subst h; exact ⟨⟨_, Try.func22, by kernel_rfl, by kernel_rfl⟩, rjoin_sound⟩
  · injection h with h; subst h; exact ⟨⟨_, Try.func23, by kernel_rfl, by kernel_rfl⟩, full_sound⟩
  · injection h with h; subst h; exact ⟨⟨_, Try.func24, by kernel_rfl, by kernel_rfl⟩, rfull_sound⟩
  · injection h with h; subst h; exact ⟨⟨_, Try.func25, by kernel_rfl, by kernel_rfl⟩, sameSet_sound⟩
  · injection h with h; subst h; exact ⟨⟨_, Try.func13, by kernel_rfl, by kernel_rfl⟩, rsameSet_sound⟩
  · cases h
def bjoinsPl : Plan := fun id => match id with
  | 5 => some [(10, 11), (18, 19), (18, 20)]
  | _ => none
section
set_option maxRecDepth 100000
set_option maxHeartbeats 2000000 in
theorem bjoins_law : Sound Try.prog 4 bjoinsS := by
  refine fn_soundF (S := Sbjoins) (T := ty) (pl := bjoinsPl) mixed ty_ok Sbjoins_ok Try.func4 (c := Try.f4.body.getD .skip) (by kernel_rfl) (by kernel_rfl) (fun xs pins hp _ => ?_)
  unfold bjoinsS at hp ⊢
  split at hp
  · rename_i a f e n b g d m _
    refine ⟨by simp, ?_⟩
    unfold Try.f4
    by_cases h1 : (a.length : Int) ≤ 200
    · have d1 : decide ((a.length : Int) ≤ 200) = true := decide_eq_true h1
      by_cases h2 : (b.length : Int) ≤ 200
      · have d2 : decide ((b.length : Int) ≤ 200) = true := decide_eq_true h2
        have q1 : a.length ≤ 1000000 := by omega
        have di : ∀ l : Int, decide (l = l) = true := fun l => decide_eq_true rfl
        have bb : ∀ x : Bool, (x == x) = true := fun x => by cases x <;> rfl
        have ss : ∀ (l : List UInt8) (p q : Int), sameSet l p q l p q = true := fun l p q => by unfold sameSet; simp
        obtain ⟨B, hB⟩ : ∃ B, sameSet a e n b d m = B := ⟨_, rfl⟩
        obtain ⟨J, hJ⟩ : ∃ J, joinE a e n b d m = J := ⟨_, rfl⟩
        have hV : ∃ l p q f', joinV a e n b d m = .agg [.sb l f', .w (.int .i64 p), .w (.int .i64 q)] := by
          unfold joinV; split
          · exact ⟨_, _, _, _, rfl⟩
          · exact ⟨_, _, _, _, rfl⟩
        obtain ⟨l, p, q, f', hV⟩ := hV
        simp -implicitDefEqProofs only [evT, implies_true, forall_const, Option.getD, later_normal, aop, aLen, ev, slot, setSlot, putSlot, cv, cvl, aConv, aBin, aInt, aUn, aFn, aEq, Out.and, isBool, isPtr, List.length, IntKind.bits, evs, evo, evps, aCall, aUser, coes, coe, List.append, List.replicate, callOut, rootsL, AV.roots, lendsL, AV.lends, pinsOf, nodup, lendL, lend, closedB, noimmB, AV.noimm, AV.ren, renL, back, Nat.reduceAdd, Nat.reduceSub, Nat.reduceMul, Int.reduceToNat, reduceCtorEq, aLoad, subv, aIndexAddr, aIndex, TD.aggr, guardSlot, aPick, byte, word, aMin, aMax, Ax.Ends, EndsX, Ax.rvals, rone, AV.ids, idsL, newIds, upTo, pinHeap, gOf, ↓reduceIte, List.isEmpty, Int.reducePow, Nat.reducePow, Int.reduceMod, Nat.reduceLeDiff, Int.reduceLE, Int.reduceNe, Int.reduceEq, aBuildSlice, fillB, aAppend, appendB, viewB, Ax.look, Ax.put, Ax.drop, List.drop, List.take, asv, aMake, aCopy, srcB, fillG, viewG, appendG, appendI, fillI, aSlice, bnd, bnds, full3, cut, aFieldAddr, aField, aStore, setB, aBox, aBuild, fillS, allTy, AV.leaves, AV.okv, AV.leaf, one, splice, elemLeaves, Blk.size, Blk.len, Option.isSome, Option.isNone, isBytes, aStr, aNil, aAlloc, aExtract, viewI, Nat.reduceEqDiff, Nat.reduceLT, Nat.reduceBEq, List.contains, List.elem, Blk.closed, closedL, AV.closed, Blk.noimm, ↓gsplit_tt, ↓gsplit_ff, ↓gsplit_tf, ↓gsplit_ft, ↓csplit_t, ↓csplit_f, Ax.idx, AV.lentIds, lentIdsL, dropAll, givenUp, AV.clean, cleanL, Blk.clean, cleanB, quietC, flatTy, coldStr, notMs, eqV, eqF, isStruct, evTP, laterF_normal, aopF, foot, footA, keepIn, dropIn, bids, Blk.ids, heldB, memOk, clearOf, Op.operands, Call.operands, List.map_cons, List.map_nil, List.toList_toArray, Array.toList_append, Option.toArray_some, Option.toArray_none, Bool.and_self, -coe, coe_w, coe_str, coe_agg, coe_tup, coe_sb, coe_si, coe_cp, coe_ms, coe_rf, coe_fn, coe_cons, ty, Sbjoins, bjoinsPl, d1, d2, -laterF_normal]
        repeat (rw [laterF_normal]; simp -implicitDefEqProofs only [evT, implies_true, forall_const, Option.getD, later_normal, aop, aLen, ev, slot, setSlot, putSlot, cv, cvl, aConv, aBin, aInt, aUn, aFn, aEq, Out.and, isBool, isPtr, List.length, IntKind.bits, evs, evo, evps, aCall, aUser, coes, coe, List.append, List.replicate, callOut, rootsL, AV.roots, lendsL, AV.lends, pinsOf, nodup, lendL, lend, closedB, noimmB, AV.noimm, AV.ren, renL, back, Nat.reduceAdd, Nat.reduceSub, Nat.reduceMul, Int.reduceToNat, reduceCtorEq, aLoad, subv, aIndexAddr, aIndex, TD.aggr, guardSlot, aPick, byte, word, aMin, aMax, Ax.Ends, EndsX, Ax.rvals, rone, AV.ids, idsL, newIds, upTo, pinHeap, gOf, ↓reduceIte, List.isEmpty, Int.reducePow, Nat.reducePow, Int.reduceMod, Nat.reduceLeDiff, Int.reduceLE, Int.reduceNe, Int.reduceEq, aBuildSlice, fillB, aAppend, appendB, viewB, Ax.look, Ax.put, Ax.drop, List.drop, List.take, asv, aMake, aCopy, srcB, fillG, viewG, appendG, appendI, fillI, aSlice, bnd, bnds, full3, cut, aFieldAddr, aField, aStore, setB, aBox, aBuild, fillS, allTy, AV.leaves, AV.okv, AV.leaf, one, splice, elemLeaves, Blk.size, Blk.len, Option.isSome, Option.isNone, isBytes, aStr, aNil, aAlloc, aExtract, viewI, Nat.reduceEqDiff, Nat.reduceLT, Nat.reduceBEq, List.contains, List.elem, Blk.closed, closedL, AV.closed, Blk.noimm, ↓gsplit_tt, ↓gsplit_ff, ↓gsplit_tf, ↓gsplit_ft, ↓csplit_t, ↓csplit_f, Ax.idx, AV.lentIds, lentIdsL, dropAll, givenUp, AV.clean, cleanL, Blk.clean, cleanB, quietC, flatTy, coldStr, notMs, eqV, eqF, isStruct, evTP, laterF_normal, aopF, foot, footA, keepIn, dropIn, bids, Blk.ids, heldB, memOk, clearOf, Op.operands, Call.operands, List.map_cons, List.map_nil, List.toList_toArray, Array.toList_append, Option.toArray_some, Option.toArray_none, Bool.and_self, -coe, coe_w, coe_str, coe_agg, coe_tup, coe_sb, coe_si, coe_cp, coe_ms, coe_rf, coe_fn, coe_cons, ty, Sbjoins, bjoinsPl, yesS, lightS, joinS, fullS, sameSetS, d1, d2, q1, di, bb, ss, hB, hJ, hV, fillS, -laterF_normal])
        exact wEs_ends 4 rfl
      · have d2 : decide ((b.length : Int) ≤ 200) = false := decide_eq_false h2
        simp -implicitDefEqProofs only [evT, implies_true, forall_const, Option.getD, later_normal, aop, aLen, ev, slot, setSlot, putSlot, cv, cvl, aConv, aBin, aInt, aUn, aFn, aEq, Out.and, isBool, isPtr, List.length, IntKind.bits, evs, evo, evps, aCall, aUser, coes, coe, List.append, List.replicate, callOut, rootsL, AV.roots, lendsL, AV.lends, pinsOf, nodup, lendL, lend, closedB, noimmB, AV.noimm, AV.ren, renL, back, Nat.reduceAdd, Nat.reduceSub, Nat.reduceMul, Int.reduceToNat, reduceCtorEq, aLoad, subv, aIndexAddr, aIndex, TD.aggr, guardSlot, aPick, byte, word, aMin, aMax, Ax.Ends, EndsX, Ax.rvals, rone, AV.ids, idsL, newIds, upTo, pinHeap, gOf, ↓reduceIte, List.isEmpty, Int.reducePow, Nat.reducePow, Int.reduceMod, Nat.reduceLeDiff, Int.reduceLE, Int.reduceNe, Int.reduceEq, aBuildSlice, fillB, aAppend, appendB, viewB, Ax.look, Ax.put, Ax.drop, List.drop, List.take, asv, aMake, aCopy, srcB, fillG, viewG, appendG, appendI, fillI, aSlice, bnd, bnds, full3, cut, aFieldAddr, aField, aStore, setB, aBox, aBuild, fillS, allTy, AV.leaves, AV.okv, AV.leaf, one, splice, elemLeaves, Blk.size, Blk.len, Option.isSome, Option.isNone, isBytes, aStr, aNil, aAlloc, aExtract, viewI, Nat.reduceEqDiff, Nat.reduceLT, Nat.reduceBEq, List.contains, List.elem, Blk.closed, closedL, AV.closed, Blk.noimm, ↓gsplit_tt, ↓gsplit_ff, ↓gsplit_tf, ↓gsplit_ft, ↓csplit_t, ↓csplit_f, Ax.idx, AV.lentIds, lentIdsL, dropAll, givenUp, AV.clean, cleanL, Blk.clean, cleanB, quietC, flatTy, coldStr, notMs, eqV, eqF, isStruct, evTP, laterF_normal, aopF, foot, footA, keepIn, dropIn, bids, Blk.ids, heldB, memOk, clearOf, Op.operands, Call.operands, List.map_cons, List.map_nil, List.toList_toArray, Array.toList_append, Option.toArray_some, Option.toArray_none, Bool.and_self, -coe, coe_w, coe_str, coe_agg, coe_tup, coe_sb, coe_si, coe_cp, coe_ms, coe_rf, coe_fn, coe_cons, ty, Sbjoins, bjoinsPl, yesS, lightS, d1, d2]
        exact wEs_ends 4 rfl
    · have d1 : decide ((a.length : Int) ≤ 200) = false := decide_eq_false h1
      simp -implicitDefEqProofs only [evT, implies_true, forall_const, Option.getD, later_normal, aop, aLen, ev, slot, setSlot, putSlot, cv, cvl, aConv, aBin, aInt, aUn, aFn, aEq, Out.and, isBool, isPtr, List.length, IntKind.bits, evs, evo, evps, aCall, aUser, coes, coe, List.append, List.replicate, callOut, rootsL, AV.roots, lendsL, AV.lends, pinsOf, nodup, lendL, lend, closedB, noimmB, AV.noimm, AV.ren, renL, back, Nat.reduceAdd, Nat.reduceSub, Nat.reduceMul, Int.reduceToNat, reduceCtorEq, aLoad, subv, aIndexAddr, aIndex, TD.aggr, guardSlot, aPick, byte, word, aMin, aMax, Ax.Ends, EndsX, Ax.rvals, rone, AV.ids, idsL, newIds, upTo, pinHeap, gOf, ↓reduceIte, List.isEmpty, Int.reducePow, Nat.reducePow, Int.reduceMod, Nat.reduceLeDiff, Int.reduceLE, Int.reduceNe, Int.reduceEq, aBuildSlice, fillB, aAppend, appendB, viewB, Ax.look, Ax.put, Ax.drop, List.drop, List.take, asv, aMake, aCopy, srcB, fillG, viewG, appendG, appendI, fillI, aSlice, bnd, bnds, full3, cut, aFieldAddr, aField, aStore, setB, aBox, aBuild, fillS, allTy, AV.leaves, AV.okv, AV.leaf, one, splice, elemLeaves, Blk.size, Blk.len, Option.isSome, Option.isNone, isBytes, aStr, aNil, aAlloc, aExtract, viewI, Nat.reduceEqDiff, Nat.reduceLT, Nat.reduceBEq, List.contains, List.elem, Blk.closed, closedL, AV.closed, Blk.noimm, ↓gsplit_tt, ↓gsplit_ff, ↓gsplit_tf, ↓gsplit_ft, ↓csplit_t, ↓csplit_f, Ax.idx, AV.lentIds, lentIdsL, dropAll, givenUp, AV.clean, cleanL, Blk.clean, cleanB, quietC, flatTy, coldStr, notMs, eqV, eqF, isStruct, evTP, laterF_normal, aopF, foot, footA, keepIn, dropIn, bids, Blk.ids, heldB, memOk, clearOf, Op.operands, Call.operands, List.map_cons, List.map_nil, List.toList_toArray, Array.toList_append, Option.toArray_some, Option.toArray_none, Bool.and_self, -coe, coe_w, coe_str, coe_agg, coe_tup, coe_sb, coe_si, coe_cp, coe_ms, coe_rf, coe_fn, coe_cons, ty, Sbjoins, bjoinsPl, yesS, lightS, d1]
      exact wEs_ends 4 rfl
  · exact hp.elim
end
theorem bjoins_dom {x y : AV} (hx : Arg ty 6 24 x) (hy : Arg ty 6 24 y) : (bjoinsS [x, y] []).p ∧ (bjoinsS [x, y] []).x = .w (.bool true) := by
  obtain ⟨bs, f, e, n, rfl, _⟩ := arg_set33 hx
  obtain ⟨bs', f', e', n', rfl, _⟩ := arg_set33 hy
  exact ⟨trivial, rfl⟩
end Go.Proofs.Ythodcljimjglcaa
