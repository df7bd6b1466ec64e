/- Layer 32: what every right program packs; three laws. -/
import Derived.Test.YtliabgocaijafaaW8
namespace Go.Proofs.Ytliabgocaijafaa
open Ax
set_option linter.unusedSimpArgs false
set_option linter.unusedVariables false

def Saw32 (f : FuncId) : Option FSpec :=
  match f with
  | 10 => some pack32S
  | 14 => some unp32S
  | 8 => some match32S
  | 12 => some seal32S
  | _ => none
theorem Saw32_ok : Fns Try.prog Saw32 := by
  intro f s h
  unfold Saw32 at h
  split at h
  · injection h with h; subst h; exact ⟨⟨_, Try.func10, by kernel_rfl, by kernel_rfl⟩, pack32_sound⟩
  · injection h with h; subst h; exact ⟨⟨_, Try.func14, by kernel_rfl, by kernel_rfl⟩, unp32_sound⟩
  · injection h with h; subst h; exact ⟨⟨_, Try.func8, by kernel_rfl, by kernel_rfl⟩, match32_sound⟩
  · injection h with h; subst h; exact ⟨⟨_, Try.func12, by kernel_rfl, by kernel_rfl⟩, packseal32_sound⟩
  · cases h
section
set_option maxRecDepth 100000
theorem aw32_a : decide (List.take (packL [UInt8.ofNat 97, UInt8.ofNat 97, UInt8.ofNat 97, UInt8.ofNat 97, UInt8.ofNat 97, UInt8.ofNat 97]).length (packL [UInt8.ofNat 97, UInt8.ofNat 97, UInt8.ofNat 97, UInt8.ofNat 97, UInt8.ofNat 97, UInt8.ofNat 97]) = [0, 97, 129, 0, 1]) = true := by decide +kernel
theorem aw32_b : decide (List.take (packL [UInt8.ofNat 97, UInt8.ofNat 98]).length (packL [UInt8.ofNat 97, UInt8.ofNat 98]) = [1, 97, 98]) = true := by decide +kernel
theorem aw32_c : decide (List.take (unpV [UInt8.ofNat 0, UInt8.ofNat 97, UInt8.ofNat 129, UInt8.ofNat 0, UInt8.ofNat 1] 9).1.length (unpV [UInt8.ofNat 0, UInt8.ofNat 97, UInt8.ofNat 129, UInt8.ofNat 0, UInt8.ofNat 1] 9).1 = [97, 97, 97, 97, 97, 97]) = true := by decide +kernel
theorem aw32_d : decide (((unpV [UInt8.ofNat 0, UInt8.ofNat 97, UInt8.ofNat 129, UInt8.ofNat 0, UInt8.ofNat 1] 9).2 : Int) = 0) = true := by decide +kernel
theorem aw32_e : decide (((mt32 [UInt8.ofNat 97, UInt8.ofNat 98, UInt8.ofNat 99, UInt8.ofNat 100, UInt8.ofNat 97, UInt8.ofNat 98, UInt8.ofNat 99, UInt8.ofNat 100] 4).1 : Int) = 4) = true := by decide +kernel
theorem aw32_f : decide (((mt32 [UInt8.ofNat 97, UInt8.ofNat 98, UInt8.ofNat 99, UInt8.ofNat 100, UInt8.ofNat 97, UInt8.ofNat 98, UInt8.ofNat 99, UInt8.ofNat 100] 4).2 : Int) = 4) = true := by decide +kernel
theorem aw32_g : decide (List.take (sealL [UInt8.ofNat 97, UInt8.ofNat 98]).length (sealL [UInt8.ofNat 97, UInt8.ofNat 98]) = [0, 97, 98]) = true := by decide +kernel
set_option maxHeartbeats 2000000 in
theorem awake32_sound : Sound Try.prog 7 yesS := by
  refine fn_sound (S := Saw32) (T := ty) mixed ty_ok Saw32_ok Try.func7 (c := Try.f7.body.getD .skip) (by kernel_rfl) (by kernel_rfl) (fun xs pins hp _ => ?_)
  unfold yesS at hp ⊢
  split at hp
  · refine ⟨by simp, ?_⟩
    have a1 := aw32_a
    have a2 := aw32_b
    have a3 := aw32_c
    have a4 := aw32_d
    have a5 := aw32_e
    have a6 := aw32_f
    have a7 := aw32_g
    unfold Try.f7
    simp -implicitDefEqProofs only [evT, implies_true, forall_const, Option.getD, later_normal, aop, aLen, ev, slot, setSlot, putSlot, cv, cvl, aConv, aBin, aInt, aUn, aFn, aEq, Out.and, isBool, isPtr, List.length, IntKind.bits, evs, evo, evps, aCall, aUser, coes, coe, List.append, List.replicate, callOut, rootsL, AV.roots, lendsL, AV.lends, pinsOf, nodup, lendL, lend, closedB, noimmB, AV.noimm, AV.ren, renL, back, Nat.reduceAdd, Nat.reduceSub, Nat.reduceMul, Int.reduceToNat, reduceCtorEq, aLoad, subv, aIndexAddr, aIndex, TD.aggr, guardSlot, aPick, byte, word, aMin, aMax, Ax.Ends, EndsX, Ax.rvals, rone, AV.ids, idsL, newIds, upTo, pinHeap, gOf, ↓reduceIte, List.isEmpty, Int.reducePow, Nat.reducePow, Int.reduceMod, Nat.reduceLeDiff, Int.reduceLE, Int.reduceNe, Int.reduceEq, aBuildSlice, fillB, aAppend, appendB, viewB, Ax.look, Ax.put, Ax.drop, List.drop, List.take, asv, aMake, aCopy, srcB, fillG, viewG, appendG, appendI, fillI, aSlice, bnd, bnds, full3, cut, aFieldAddr, aField, aStore, setB, aBox, aBuild, fillS, allTy, AV.leaves, AV.okv, AV.leaf, one, splice, elemLeaves, Blk.size, Blk.len, Option.isSome, Option.isNone, isBytes, aStr, aNil, aAlloc, aExtract, viewI, Nat.reduceEqDiff, Nat.reduceLT, Nat.reduceBEq, List.contains, List.elem, Blk.closed, closedL, AV.closed, Blk.noimm, ↓gsplit_tt, ↓gsplit_ff, ↓gsplit_tf, ↓gsplit_ft, ↓csplit_t, ↓csplit_f, Ax.idx, AV.lentIds, lentIdsL, dropAll, givenUp, AV.clean, cleanL, Blk.clean, cleanB, quietC, flatTy, coldStr, notMs, eqV, eqF, isStruct, -coe, coe_w, coe_str, coe_agg, coe_tup, coe_sb, coe_si, coe_cp, coe_ms, coe_rf, coe_fn, coe_cons, ty, Saw32, pack32S, unp32S, match32S, seal32S, a1, a2, a3, a4, a5, a6, a7]
    decide
  · exact hp.elim
def packpacksS : FSpec
  | [.sb b f, .w (.int .i64 a)], [] => ⟨True, .w (.bool true), []⟩
  | _, _ => noRes
def Spackpacks (f : FuncId) : Option FSpec :=
  match f with
  | 7 => some yesS
  | 8 => some match32S
  | 9 => some match32S
  | 10 => some pack32S
  | 11 => some pack32S
  | 12 => some seal32S
  | 13 => some seal32S
  | _ => none
theorem Spackpacks_ok : Fns Try.prog Spackpacks := by
  intro f s h
  unfold Spackpacks at h
  split at h
  · injection h with h; subst h; exact ⟨⟨_, Try.func7, by kernel_rfl, by kernel_rfl⟩, awake32_sound⟩
  · injection h with h; subst h; exact ⟨⟨_, Try.func8, by kernel_rfl, by kernel_rfl⟩, match32_sound⟩
  · injection h with h; subst h; exact ⟨⟨_, Try.func9, by kernel_rfl, by kernel_rfl⟩, rmatch32_sound⟩
  · injection h with h; subst h; exact ⟨⟨_, Try.func10, by kernel_rfl, by kernel_rfl⟩, pack32_sound⟩
  · injection h with h; subst h; exact ⟨⟨_, Try.func11, by kernel_rfl, by kernel_rfl⟩, rpack32_sound⟩
  · injection h with h; subst h; exact ⟨⟨_, Try.func12, by kernel_rfl, by kernel_rfl⟩, packseal32_sound⟩
  · injection h with h; subst h; exact ⟨⟨_, Try.func13, by kernel_rfl, by kernel_rfl⟩, rseal32_sound⟩
  · cases h
set_option maxHeartbeats 2000000 in
theorem packpacks_law : Sound Try.prog 3 packpacksS := by
  refine fn_sound (S := Spackpacks) (T := tyF) mixed tyF_ok Spackpacks_ok Try.func3 (c := Try.f3.body.getD .skip) (by kernel_rfl) (by kernel_rfl) (fun xs pins hp _ => ?_)
  unfold packpacksS at hp ⊢
  split at hp
  · rename_i b f a _
    refine ⟨by simp, ?_⟩
    unfold Try.f3
    by_cases h1 : (400 : Int) < b.length
    · have d1 : decide ((400 : Int) < b.length) = true := decide_eq_true h1
      simp -implicitDefEqProofs only [evT, implies_true, forall_const, Option.getD, later_normal, aop, aLen, ev, slot, setSlot, putSlot, cv, cvl, aConv, aBin, aInt, aUn, aFn, aEq, Out.and, isBool, isPtr, List.length, IntKind.bits, evs, evo, evps, aCall, aUser, coes, coe, List.append, List.replicate, callOut, rootsL, AV.roots, lendsL, AV.lends, pinsOf, nodup, lendL, lend, closedB, noimmB, AV.noimm, AV.ren, renL, back, Nat.reduceAdd, Nat.reduceSub, Nat.reduceMul, Int.reduceToNat, reduceCtorEq, aLoad, subv, aIndexAddr, aIndex, TD.aggr, guardSlot, aPick, byte, word, aMin, aMax, Ax.Ends, EndsX, Ax.rvals, rone, AV.ids, idsL, newIds, upTo, pinHeap, gOf, ↓reduceIte, List.isEmpty, Int.reducePow, Nat.reducePow, Int.reduceMod, Nat.reduceLeDiff, Int.reduceLE, Int.reduceNe, Int.reduceEq, aBuildSlice, fillB, aAppend, appendB, viewB, Ax.look, Ax.put, Ax.drop, List.drop, List.take, asv, aMake, aCopy, srcB, fillG, viewG, appendG, appendI, fillI, aSlice, bnd, bnds, full3, cut, aFieldAddr, aField, aStore, setB, aBox, aBuild, fillS, allTy, AV.leaves, AV.okv, AV.leaf, one, splice, elemLeaves, Blk.size, Blk.len, Option.isSome, Option.isNone, isBytes, aStr, aNil, aAlloc, aExtract, viewI, Nat.reduceEqDiff, Nat.reduceLT, Nat.reduceBEq, List.contains, List.elem, Blk.closed, closedL, AV.closed, Blk.noimm, ↓gsplit_tt, ↓gsplit_ff, ↓gsplit_tf, ↓gsplit_ft, ↓csplit_t, ↓csplit_f, Ax.idx, AV.lentIds, lentIdsL, dropAll, givenUp, AV.clean, cleanL, Blk.clean, cleanB, quietC, flatTy, coldStr, notMs, eqV, eqF, isStruct, -coe, coe_w, coe_str, coe_agg, coe_tup, coe_sb, coe_si, coe_cp, coe_ms, coe_rf, coe_fn, coe_cons, tyF, setFlat, ty, Spackpacks, yesS, d1]
    · have d1 : decide ((400 : Int) < b.length) = false := decide_eq_false h1
      have q1 : b.length ≤ 1000000 := by omega
      have di : ∀ l : Int, decide (l = l) = true := fun l => decide_eq_true rfl
      have ds : ∀ l : List UInt8, decide (l = l) = true := fun l => decide_eq_true rfl
      obtain ⟨P, hP⟩ : ∃ P, packL b = P := ⟨_, rfl⟩
      obtain ⟨S, hS⟩ : ∃ S, sealL b = S := ⟨_, rfl⟩
      simp -implicitDefEqProofs only [evT, implies_true, forall_const, Option.getD, later_normal, aop, aLen, ev, slot, setSlot, putSlot, cv, cvl, aConv, aBin, aInt, aUn, aFn, aEq, Out.and, isBool, isPtr, List.length, IntKind.bits, evs, evo, evps, aCall, aUser, coes, coe, List.append, List.replicate, callOut, rootsL, AV.roots, lendsL, AV.lends, pinsOf, nodup, lendL, lend, closedB, noimmB, AV.noimm, AV.ren, renL, back, Nat.reduceAdd, Nat.reduceSub, Nat.reduceMul, Int.reduceToNat, reduceCtorEq, aLoad, subv, aIndexAddr, aIndex, TD.aggr, guardSlot, aPick, byte, word, aMin, aMax, Ax.Ends, EndsX, Ax.rvals, rone, AV.ids, idsL, newIds, upTo, pinHeap, gOf, ↓reduceIte, List.isEmpty, Int.reducePow, Nat.reducePow, Int.reduceMod, Nat.reduceLeDiff, Int.reduceLE, Int.reduceNe, Int.reduceEq, aBuildSlice, fillB, aAppend, appendB, viewB, Ax.look, Ax.put, Ax.drop, List.drop, List.take, asv, aMake, aCopy, srcB, fillG, viewG, appendG, appendI, fillI, aSlice, bnd, bnds, full3, cut, aFieldAddr, aField, aStore, setB, aBox, aBuild, fillS, allTy, AV.leaves, AV.okv, AV.leaf, one, splice, elemLeaves, Blk.size, Blk.len, Option.isSome, Option.isNone, isBytes, aStr, aNil, aAlloc, aExtract, viewI, Nat.reduceEqDiff, Nat.reduceLT, Nat.reduceBEq, List.contains, List.elem, Blk.closed, closedL, AV.closed, Blk.noimm, ↓gsplit_tt, ↓gsplit_ff, ↓gsplit_tf, ↓gsplit_ft, ↓csplit_t, ↓csplit_f, Ax.idx, AV.lentIds, lentIdsL, dropAll, givenUp, AV.clean, cleanL, Blk.clean, cleanB, quietC, flatTy, coldStr, notMs, eqV, eqF, isStruct, -coe, coe_w, coe_str, coe_agg, coe_tup, coe_sb, coe_si, coe_cp, coe_ms, coe_rf, coe_fn, coe_cons, tyF, setFlat, ty, Spackpacks, yesS, match32S, pack32S, seal32S, hP, hS, d1, q1, di, ds]
  · exact hp.elim
def packopensS : FSpec
  | [.sb b f, .w (.int .i64 a)], [] => ⟨a ≤ 9223372036854775807, .w (.bool true), []⟩
  | _, _ => noRes
def Spackopens (f : FuncId) : Option FSpec :=
  match f with
  | 7 => some yesS
  | 14 => some unp32S
  | 15 => some unp32S
  | 16 => some open32S
  | 17 => some open32S
  | _ => none
theorem Spackopens_ok : Fns Try.prog Spackopens := by
  intro f s h
  unfold Spackopens at h
  split at h
  · injection h with h; subst h; exact ⟨⟨_, Try.func7, by kernel_rfl, by kernel_rfl⟩, awake32_sound⟩
  · injection h with h; subst h; exact ⟨⟨_, Try.func14, by kernel_rfl, by kernel_rfl⟩, unp32_sound⟩
  · injection h with h; subst h; exact ⟨⟨_, Try.func15, by kernel_rfl, by kernel_rfl⟩, runp32_sound⟩
  · injection h with h; subst h; exact ⟨⟨_, Try.func16, by kernel_rfl, by kernel_rfl⟩, packopen32_sound⟩
  · injection h with h; subst h; exact ⟨⟨_, Try.func17, by kernel_rfl, by kernel_rfl⟩, ropen32_sound⟩
  · cases h
set_option maxHeartbeats 2000000 in
theorem packopens_law : Sound Try.prog 4 packopensS := by
  refine fn_sound (S := Spackopens) (T := ty) mixed ty_ok Spackopens_ok Try.func4 (c := Try.f4.body.getD .skip) (by kernel_rfl) (by kernel_rfl) (fun xs pins hp _ => ?_)
  unfold packopensS at hp ⊢
  split at hp
  · rename_i b f a _
    have ha : a ≤ 9223372036854775807 := hp
    refine ⟨by simp, ?_⟩
    unfold Try.f4
    by_cases h1 : (400 : Int) < b.length
    · have d1 : decide ((400 : Int) < b.length) = true := decide_eq_true h1
      simp -implicitDefEqProofs only [evT, implies_true, forall_const, Option.getD, later_normal, aop, aLen, ev, slot, setSlot, putSlot, cv, cvl, aConv, aBin, aInt, aUn, aFn, aEq, Out.and, isBool, isPtr, List.length, IntKind.bits, evs, evo, evps, aCall, aUser, coes, coe, List.append, List.replicate, callOut, rootsL, AV.roots, lendsL, AV.lends, pinsOf, nodup, lendL, lend, closedB, noimmB, AV.noimm, AV.ren, renL, back, Nat.reduceAdd, Nat.reduceSub, Nat.reduceMul, Int.reduceToNat, reduceCtorEq, aLoad, subv, aIndexAddr, aIndex, TD.aggr, guardSlot, aPick, byte, word, aMin, aMax, Ax.Ends, EndsX, Ax.rvals, rone, AV.ids, idsL, newIds, upTo, pinHeap, gOf, ↓reduceIte, List.isEmpty, Int.reducePow, Nat.reducePow, Int.reduceMod, Nat.reduceLeDiff, Int.reduceLE, Int.reduceNe, Int.reduceEq, aBuildSlice, fillB, aAppend, appendB, viewB, Ax.look, Ax.put, Ax.drop, List.drop, List.take, asv, aMake, aCopy, srcB, fillG, viewG, appendG, appendI, fillI, aSlice, bnd, bnds, full3, cut, aFieldAddr, aField, aStore, setB, aBox, aBuild, fillS, allTy, AV.leaves, AV.okv, AV.leaf, one, splice, elemLeaves, Blk.size, Blk.len, Option.isSome, Option.isNone, isBytes, aStr, aNil, aAlloc, aExtract, viewI, Nat.reduceEqDiff, Nat.reduceLT, Nat.reduceBEq, List.contains, List.elem, Blk.closed, closedL, AV.closed, Blk.noimm, ↓gsplit_tt, ↓gsplit_ff, ↓gsplit_tf, ↓gsplit_ft, ↓csplit_t, ↓csplit_f, Ax.idx, AV.lentIds, lentIdsL, dropAll, givenUp, AV.clean, cleanL, Blk.clean, cleanB, quietC, flatTy, coldStr, notMs, eqV, eqF, isStruct, -coe, coe_w, coe_str, coe_agg, coe_tup, coe_sb, coe_si, coe_cp, coe_ms, coe_rf, coe_fn, coe_cons, ty, Spackopens, yesS, d1]
    · have d1 : decide ((400 : Int) < b.length) = false := decide_eq_false h1
      have q1 : b.length ≤ 1000000 := by omega
      have di : ∀ l : Int, decide (l = l) = true := fun l => decide_eq_true rfl
      have ds : ∀ l : List UInt8, decide (l = l) = true := fun l => decide_eq_true rfl
      simp -implicitDefEqProofs only [evT, implies_true, forall_const, Option.getD, later_normal, aop, aLen, ev, slot, setSlot, putSlot, cv, cvl, aConv, aBin, aInt, aUn, aFn, aEq, Out.and, isBool, isPtr, List.length, IntKind.bits, evs, evo, evps, aCall, aUser, coes, coe, List.append, List.replicate, callOut, rootsL, AV.roots, lendsL, AV.lends, pinsOf, nodup, lendL, lend, closedB, noimmB, AV.noimm, AV.ren, renL, back, Nat.reduceAdd, Nat.reduceSub, Nat.reduceMul, Int.reduceToNat, reduceCtorEq, aLoad, subv, aIndexAddr, aIndex, TD.aggr, guardSlot, aPick, byte, word, aMin, aMax, Ax.Ends, EndsX, Ax.rvals, rone, AV.ids, idsL, newIds, upTo, pinHeap, gOf, ↓reduceIte, List.isEmpty, Int.reducePow, Nat.reducePow, Int.reduceMod, Nat.reduceLeDiff, Int.reduceLE, Int.reduceNe, Int.reduceEq, aBuildSlice, fillB, aAppend, appendB, viewB, Ax.look, Ax.put, Ax.drop, List.drop, List.take, asv, aMake, aCopy, srcB, fillG, viewG, appendG, appendI, fillI, aSlice, bnd, bnds, full3, cut, aFieldAddr, aField, aStore, setB, aBox, aBuild, fillS, allTy, AV.leaves, AV.okv, AV.leaf, one, splice, elemLeaves, Blk.size, Blk.len, Option.isSome, Option.isNone, isBytes, aStr, aNil, aAlloc, aExtract, viewI, Nat.reduceEqDiff, Nat.reduceLT, Nat.reduceBEq, List.contains, List.elem, Blk.closed, closedL, AV.closed, Blk.noimm, ↓gsplit_tt, ↓gsplit_ff, ↓gsplit_tf, ↓gsplit_ft, ↓csplit_t, ↓csplit_f, Ax.idx, AV.lentIds, lentIdsL, dropAll, givenUp, AV.clean, cleanL, Blk.clean, cleanB, quietC, flatTy, coldStr, notMs, eqV, eqF, isStruct, -coe, coe_w, coe_str, coe_agg, coe_tup, coe_sb, coe_si, coe_cp, coe_ms, coe_rf, coe_fn, coe_cons, ty, Spackopens, yesS, unp32S, open32S, d1, q1, ha, di, ds]
  · exact hp.elim
end
theorem arg_int32 {x : AV} (h : Arg ty 6 3 x) : ∃ n : Int, x = .w (.int .i64 n) ∧ -9223372036854775808 ≤ n ∧ n ≤ 9223372036854775807 := by
  obtain ⟨i, ls, hi, hs, rfl⟩ := h
  simp only [ty] at hi
  injection hi with hi
  subst hi
  simp only [Shape, ty, ShapeF] at hs
  obtain ⟨m, rfl, w⟩ := hs
  exact ⟨m, rfl, wf_i64 w⟩
theorem arg_b32 {x : AV} (h : Arg ty 6 22 x) : ∃ bs f, x = .sb bs f := by
  obtain ⟨i, ls, hi, hs, rfl⟩ := h
  simp only [ty] at hi
  injection hi with hi
  subst hi
  simp only [Shape, ty, isFlatI] at hs
  obtain ⟨bs, f, rfl, hl⟩ := hs
  exact ⟨bs, f, rfl⟩
theorem packpacks_dom {x y : AV} (hx : Arg ty 6 22 x) (hy : Arg ty 6 3 y) : (packpacksS [x, y] []).p ∧ (packpacksS [x, y] []).x = .w (.bool true) := by
  obtain ⟨bs, f, rfl⟩ := arg_b32 hx
  obtain ⟨n, rfl, h1⟩ := arg_int32 hy
  exact ⟨trivial, rfl⟩
theorem packopens_dom {x y : AV} (hx : Arg ty 6 22 x) (hy : Arg ty 6 3 y) : (packopensS [x, y] []).p ∧ (packopensS [x, y] []).x = .w (.bool true) := by
  obtain ⟨bs, f, rfl⟩ := arg_b32 hx
  obtain ⟨n, rfl, h1⟩ := arg_int32 hy
  exact ⟨h1.2, rfl⟩
end Go.Proofs.Ytliabgocaijafaa
