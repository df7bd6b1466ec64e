/- Layer 4: the law of what bytes are a batch. -/
import Derived.Test.YthmkhlmohjcbgaaLg
import Derived.Test.YthmkhlmohjcbgaaM5
namespace Go.Proofs.Ythmkhlmohjcbgaa
open Ax
set_option linter.unusedSimpArgs false
set_option linter.unusedVariables false

def bgetsS : FSpec
  | [.sb b f], [] => ⟨True, .w (.bool true), []⟩
  | _, _ => noRes
theorem bget0_len (bs : List UInt8) : (bget0 bs).rs.length ≤ 9223372036854775807 := by
  unfold bget0
  cases hg : bget bs with
  | none => exact Nat.zero_le _
  | some x =>
    have := bfld_zero (bE_zero (bget_some hg).1).1
    show x.rs.length ≤ _
    omega
def Sbgets (f : FuncId) : Option FSpec :=
  match f with
  | 10 => some yesS
  | 16 => some bgetS
  | 17 => some bgetS
  | 15 => some bsameS4
  | _ => none
theorem Sbgets_ok : Fns Try.prog Sbgets := by
  intro f s h
  unfold Sbgets at h
  split at h
  · injection h with h; subst h; exact ⟨⟨_, Try.func10, by kernel_rfl, by kernel_rfl⟩, awake4_sound⟩
  · injection h with h; subst h; exact ⟨⟨_, Try.func16, by kernel_rfl, by kernel_rfl⟩, bget_sound⟩
  · injection h with h; subst h; exact ⟨⟨_, Try.func17, by kernel_rfl, by kernel_rfl⟩, dget_sound⟩
  · injection h with h; subst h; exact ⟨⟨_, Try.func15, by kernel_rfl, by kernel_rfl⟩, rsame4_sound⟩
  · cases h
section
set_option maxRecDepth 100000
set_option maxHeartbeats 2000000 in
theorem bgets_law : Sound Try.prog 4 bgetsS := by
  refine fn_sound (S := Sbgets) (T := ty) mixed ty_ok Sbgets_ok Try.func4 (c := Try.f4.body.getD .skip) (by kernel_rfl) (by kernel_rfl) (fun xs pins hp _ => ?_)
  unfold bgetsS at hp ⊢
  split at hp
  · rename_i b f _
    refine ⟨by simp, ?_⟩
    unfold Try.f4
    by_cases g1 : b.length ≤ 2000
    · have d1 : decide ((2000 : Int) < b.length) = false := decide_eq_false (by omega)
      have q1 : b.length ≤ 1000000 := by omega
      have hl := bget0_len b
      obtain ⟨X, hX⟩ : ∃ X, bget0 b = X := ⟨_, rfl⟩
      rw [hX] at hl
      have hlp : (X.rs.map rv).length = X.rs.length := by simp
      have hx : ∃ rs : List Rec, X.rs.map rv = rs.map rv := ⟨X.rs, rfl⟩
      have hsm : bsame4 X.b X.c X.p X.e X.s X.rs X.b X.c X.p X.e X.s X.rs = true := by unfold bsame4; simp
      have di : ∀ l : Int, decide (l = l) = true := fun l => decide_eq_true rfl
      simp -implicitDefEqProofs only [evT, implies_true, forall_const, Option.getD, later_normal, aop, aLen, ev, slot, setSlot, putSlot, cv, cvl, aConv, aBin, aInt, aUn, aFn, aEq, Out.and, isBool, isPtr, List.length, IntKind.bits, evs, evo, evps, aCall, aUser, coes, coe, List.append, List.replicate, callOut, rootsL, AV.roots, lendsL, AV.lends, pinsOf, nodup, lendL, lend, closedB, noimmB, AV.noimm, AV.ren, renL, back, Nat.reduceAdd, Nat.reduceSub, Nat.reduceMul, Int.reduceToNat, reduceCtorEq, aLoad, subv, aIndexAddr, aIndex, TD.aggr, guardSlot, aPick, byte, word, aMin, aMax, Ax.Ends, EndsX, Ax.rvals, rone, AV.ids, idsL, newIds, upTo, pinHeap, gOf, ↓reduceIte, List.isEmpty, Int.reducePow, Nat.reducePow, Int.reduceMod, Nat.reduceLeDiff, Int.reduceLE, Int.reduceNe, Int.reduceEq, aBuildSlice, fillB, aAppend, appendB, viewB, Ax.look, Ax.put, Ax.drop, List.drop, List.take, asv, aMake, aCopy, srcB, fillG, viewG, appendG, appendI, fillI, aSlice, bnd, bnds, full3, cut, aFieldAddr, aField, aStore, setB, aBox, aBuild, fillS, allTy, AV.leaves, AV.okv, AV.leaf, one, splice, elemLeaves, Blk.size, Blk.len, Option.isSome, Option.isNone, isBytes, aStr, aNil, aAlloc, aExtract, viewI, Nat.reduceEqDiff, Nat.reduceLT, Nat.reduceBEq, List.contains, List.elem, Blk.closed, closedL, AV.closed, Blk.noimm, ↓gsplit_tt, ↓gsplit_ff, ↓gsplit_tf, ↓gsplit_ft, ↓csplit_t, ↓csplit_f, Ax.idx, AV.lentIds, lentIdsL, dropAll, givenUp, AV.clean, cleanL, Blk.clean, cleanB, quietC, flatTy, coldStr, notMs, eqV, eqF, isStruct, -coe, coe_w, coe_str, coe_agg, coe_tup, coe_sb, coe_si, coe_cp, coe_ms, coe_rf, coe_fn, coe_cons, ty, Sbgets, yesS, bgetS, bsameS4, bav, d1, q1, hX, hlp, hl, hx, map_rrec, hsm, di, fillS]
    · have d1 : decide ((2000 : Int) < b.length) = true := decide_eq_true (by omega)
      simp -implicitDefEqProofs only [evT, implies_true, forall_const, Option.getD, later_normal, aop, aLen, ev, slot, setSlot, putSlot, cv, cvl, aConv, aBin, aInt, aUn, aFn, aEq, Out.and, isBool, isPtr, List.length, IntKind.bits, evs, evo, evps, aCall, aUser, coes, coe, List.append, List.replicate, callOut, rootsL, AV.roots, lendsL, AV.lends, pinsOf, nodup, lendL, lend, closedB, noimmB, AV.noimm, AV.ren, renL, back, Nat.reduceAdd, Nat.reduceSub, Nat.reduceMul, Int.reduceToNat, reduceCtorEq, aLoad, subv, aIndexAddr, aIndex, TD.aggr, guardSlot, aPick, byte, word, aMin, aMax, Ax.Ends, EndsX, Ax.rvals, rone, AV.ids, idsL, newIds, upTo, pinHeap, gOf, ↓reduceIte, List.isEmpty, Int.reducePow, Nat.reducePow, Int.reduceMod, Nat.reduceLeDiff, Int.reduceLE, Int.reduceNe, Int.reduceEq, aBuildSlice, fillB, aAppend, appendB, viewB, Ax.look, Ax.put, Ax.drop, List.drop, List.take, asv, aMake, aCopy, srcB, fillG, viewG, appendG, appendI, fillI, aSlice, bnd, bnds, full3, cut, aFieldAddr, aField, aStore, setB, aBox, aBuild, fillS, allTy, AV.leaves, AV.okv, AV.leaf, one, splice, elemLeaves, Blk.size, Blk.len, Option.isSome, Option.isNone, isBytes, aStr, aNil, aAlloc, aExtract, viewI, Nat.reduceEqDiff, Nat.reduceLT, Nat.reduceBEq, List.contains, List.elem, Blk.closed, closedL, AV.closed, Blk.noimm, ↓gsplit_tt, ↓gsplit_ff, ↓gsplit_tf, ↓gsplit_ft, ↓csplit_t, ↓csplit_f, Ax.idx, AV.lentIds, lentIdsL, dropAll, givenUp, AV.clean, cleanL, Blk.clean, cleanB, quietC, flatTy, coldStr, notMs, eqV, eqF, isStruct, -coe, coe_w, coe_str, coe_agg, coe_tup, coe_sb, coe_si, coe_cp, coe_ms, coe_rf, coe_fn, coe_cons, ty, Sbgets, yesS, d1]
  · exact hp.elim
end
theorem arg_bytes4 {x : AV} (h : Arg ty 6 27 x) : ∃ bs f, x = .sb bs f ∧ bs.length ≤ maxLen := by
  obtain ⟨i, ls, hi, hs, rfl⟩ := h
  simp only [ty] at hi
  injection hi with hi
  subst hi
  simp only [Shape, ty, isFlatI] at hs
  obtain ⟨bs, f, rfl, hl⟩ := hs
  exact ⟨bs, f, rfl, hl⟩
theorem bgets_dom {x : AV} (hx : Arg ty 6 27 x) : (bgetsS [x] []).p ∧ (bgetsS [x] []).x = .w (.bool true) := by
  obtain ⟨bs, f, rfl, _⟩ := arg_bytes4 hx
  exact ⟨trivial, rfl⟩
end Go.Proofs.Ythmkhlmohjcbgaa
