/- Layer 4: the law of the bytes of batches. -/
import Derived.Test.YthmkhlmohjcbgaaLg
import Derived.Test.YthmkhlmohjcbgaaM3
namespace Go.Proofs.Ythmkhlmohjcbgaa
open Ax
set_option linter.unusedSimpArgs false
set_option linter.unusedVariables false

def bputsS : FSpec
  | [.agg [.w (.int .i64 b), .w (.int .i64 c), .w (.int .i64 p), .w (.int .i64 e), .w (.int .i64 s), .sg 6 xs f], .agg [.w (.int .i64 b'), .w (.int .i64 c'), .w (.int .i64 p'), .w (.int .i64 e'), .w (.int .i64 s'), .sg 6 ys g]], [] =>
      ⟨(xs.length ≤ 9223372036854775807 ∧ ∃ rs : List Rec, xs = rs.map rv) ∧ ys.length ≤ 9223372036854775807 ∧ ∃ qs : List Rec, ys = qs.map rv, .w (.bool true), []⟩
  | _, _ => noRes
def Sbputs (f : FuncId) : Option FSpec :=
  match f with
  | 10 => some yesS
  | 9 => some blightS4
  | 13 => some bchkS4
  | 11 => some blayS4
  | 14 => some bsameS4
  | 12 => some rputS4
  | 15 => some bsameS4
  | _ => none
theorem Sbputs_ok : Fns Try.prog Sbputs := by
  intro f s h
  unfold Sbputs at h
  split at h
  · injection h with h; subst h; exact ⟨⟨_, Try.func10, by kernel_rfl, by kernel_rfl⟩, awake4_sound⟩
  · injection h with h; subst h; exact ⟨⟨_, Try.func9, by kernel_rfl, by kernel_rfl⟩, blight4_sound⟩
  · injection h with h; subst h; exact ⟨⟨_, Try.func13, by kernel_rfl, by kernel_rfl⟩, bchk4_sound⟩
  · injection h with h; subst h; exact ⟨⟨_, Try.func11, by kernel_rfl, by kernel_rfl⟩, bput4_sound⟩
  · injection h with h; subst h; exact ⟨⟨_, Try.func14, by kernel_rfl, by kernel_rfl⟩, bsame4_sound⟩
  · injection h with h; subst h; exact ⟨⟨_, Try.func12, by kernel_rfl, by kernel_rfl⟩, rput4_sound⟩
  · injection h with h; subst h; exact ⟨⟨_, Try.func15, by kernel_rfl, by kernel_rfl⟩, rsame4_sound⟩
  · cases h
section
set_option maxRecDepth 100000
set_option maxHeartbeats 2000000 in
theorem bputs_law : Sound Try.prog 3 bputsS := by
  refine fn_sound (S := Sbputs) (T := tyF) mixed tyF_ok Sbputs_ok Try.func3 (c := Try.f3.body.getD .skip) (by kernel_rfl) (by kernel_rfl) (fun xs pins hp _ => ?_)
  unfold bputsS at hp ⊢
  split at hp
  · rename_i b c p e s xs f b' c' p' e' s' ys g _
    obtain ⟨⟨hL1, rs, rfl⟩, hL2, qs, rfl⟩ := hp
    rw [List.length_map] at hL1 hL2
    refine ⟨by simp, ?_⟩
    have hlp : (rs.map rv).length = rs.length := by simp
    have hlq : (qs.map rv).length = qs.length := by simp
    have hx1 : ∃ qs_1 : List Rec, rs.map rv = qs_1.map rv := ⟨rs, rfl⟩
    have hx2 : ∃ qs_1 : List Rec, qs.map rv = qs_1.map rv := ⟨qs, rfl⟩
    unfold Try.f3
    by_cases g1 : rs.length ≤ 40 ∧ ∀ r ∈ rs, lightR r
    · have d1 : decide (rs.length ≤ 40 ∧ ∀ r ∈ rs, lightR r) = true := decide_eq_true g1
      have h40 : rs.length ≤ 40 := g1.1
      by_cases g2 : qs.length ≤ 40 ∧ ∀ r ∈ qs, lightR r
      · have d2 : decide (qs.length ≤ 40 ∧ ∀ r ∈ qs, lightR r) = true := decide_eq_true g2
        have bb : ∀ a : Bool, (a == a) = true := fun a => by cases a <;> rfl
        have dd : ∀ l : List UInt8, decide (l = l) = true := fun l => decide_eq_true rfl
        have di : ∀ l : Int, decide (l = l) = true := fun l => decide_eq_true rfl
        simp -implicitDefEqProofs only [evT, implies_true, forall_const, Option.getD, later_normal, aop, aLen, ev, slot, setSlot, putSlot, cv, cvl, aConv, aBin, aInt, aUn, aFn, aEq, Out.and, isBool, isPtr, List.length, IntKind.bits, evs, evo, evps, aCall, aUser, coes, coe, List.append, List.replicate, callOut, rootsL, AV.roots, lendsL, AV.lends, pinsOf, nodup, lendL, lend, closedB, noimmB, AV.noimm, AV.ren, renL, back, Nat.reduceAdd, Nat.reduceSub, Nat.reduceMul, Int.reduceToNat, reduceCtorEq, aLoad, subv, aIndexAddr, aIndex, TD.aggr, guardSlot, aPick, byte, word, aMin, aMax, Ax.Ends, EndsX, Ax.rvals, rone, AV.ids, idsL, newIds, upTo, pinHeap, gOf, ↓reduceIte, List.isEmpty, Int.reducePow, Nat.reducePow, Int.reduceMod, Nat.reduceLeDiff, Int.reduceLE, Int.reduceNe, Int.reduceEq, aBuildSlice, fillB, aAppend, appendB, viewB, Ax.look, Ax.put, Ax.drop, List.drop, List.take, asv, aMake, aCopy, srcB, fillG, viewG, appendG, appendI, fillI, aSlice, bnd, bnds, full3, cut, aFieldAddr, aField, aStore, setB, aBox, aBuild, fillS, allTy, AV.leaves, AV.okv, AV.leaf, one, splice, elemLeaves, Blk.size, Blk.len, Option.isSome, Option.isNone, isBytes, aStr, aNil, aAlloc, aExtract, viewI, Nat.reduceEqDiff, Nat.reduceLT, Nat.reduceBEq, List.contains, List.elem, Blk.closed, closedL, AV.closed, Blk.noimm, ↓gsplit_tt, ↓gsplit_ff, ↓gsplit_tf, ↓gsplit_ft, ↓csplit_t, ↓csplit_f, Ax.idx, AV.lentIds, lentIdsL, dropAll, givenUp, AV.clean, cleanL, Blk.clean, cleanB, quietC, flatTy, coldStr, notMs, eqV, eqF, isStruct, -coe, coe_w, coe_str, coe_agg, coe_tup, coe_sb, coe_si, coe_cp, coe_ms, coe_rf, coe_fn, coe_cons, tyF, setFlat, ty, Sbputs, yesS, blightS4, bchkS4, blayS4, bsameS4, rputS4, hlp, hlq, hL1, hL2, h40, hx1, hx2, map_rrec, d1, d2, bb, dd, di]
      · have d2 : decide (qs.length ≤ 40 ∧ ∀ r ∈ qs, lightR r) = false := decide_eq_false g2
        simp -implicitDefEqProofs only [evT, implies_true, forall_const, Option.getD, later_normal, aop, aLen, ev, slot, setSlot, putSlot, cv, cvl, aConv, aBin, aInt, aUn, aFn, aEq, Out.and, isBool, isPtr, List.length, IntKind.bits, evs, evo, evps, aCall, aUser, coes, coe, List.append, List.replicate, callOut, rootsL, AV.roots, lendsL, AV.lends, pinsOf, nodup, lendL, lend, closedB, noimmB, AV.noimm, AV.ren, renL, back, Nat.reduceAdd, Nat.reduceSub, Nat.reduceMul, Int.reduceToNat, reduceCtorEq, aLoad, subv, aIndexAddr, aIndex, TD.aggr, guardSlot, aPick, byte, word, aMin, aMax, Ax.Ends, EndsX, Ax.rvals, rone, AV.ids, idsL, newIds, upTo, pinHeap, gOf, ↓reduceIte, List.isEmpty, Int.reducePow, Nat.reducePow, Int.reduceMod, Nat.reduceLeDiff, Int.reduceLE, Int.reduceNe, Int.reduceEq, aBuildSlice, fillB, aAppend, appendB, viewB, Ax.look, Ax.put, Ax.drop, List.drop, List.take, asv, aMake, aCopy, srcB, fillG, viewG, appendG, appendI, fillI, aSlice, bnd, bnds, full3, cut, aFieldAddr, aField, aStore, setB, aBox, aBuild, fillS, allTy, AV.leaves, AV.okv, AV.leaf, one, splice, elemLeaves, Blk.size, Blk.len, Option.isSome, Option.isNone, isBytes, aStr, aNil, aAlloc, aExtract, viewI, Nat.reduceEqDiff, Nat.reduceLT, Nat.reduceBEq, List.contains, List.elem, Blk.closed, closedL, AV.closed, Blk.noimm, ↓gsplit_tt, ↓gsplit_ff, ↓gsplit_tf, ↓gsplit_ft, ↓csplit_t, ↓csplit_f, Ax.idx, AV.lentIds, lentIdsL, dropAll, givenUp, AV.clean, cleanL, Blk.clean, cleanB, quietC, flatTy, coldStr, notMs, eqV, eqF, isStruct, -coe, coe_w, coe_str, coe_agg, coe_tup, coe_sb, coe_si, coe_cp, coe_ms, coe_rf, coe_fn, coe_cons, tyF, setFlat, ty, Sbputs, yesS, blightS4, hlp, hlq, hL1, hL2, hx1, hx2, map_rrec, d1, d2]
    · have d1 : decide (rs.length ≤ 40 ∧ ∀ r ∈ rs, lightR r) = false := decide_eq_false g1
      simp -implicitDefEqProofs only [evT, implies_true, forall_const, Option.getD, later_normal, aop, aLen, ev, slot, setSlot, putSlot, cv, cvl, aConv, aBin, aInt, aUn, aFn, aEq, Out.and, isBool, isPtr, List.length, IntKind.bits, evs, evo, evps, aCall, aUser, coes, coe, List.append, List.replicate, callOut, rootsL, AV.roots, lendsL, AV.lends, pinsOf, nodup, lendL, lend, closedB, noimmB, AV.noimm, AV.ren, renL, back, Nat.reduceAdd, Nat.reduceSub, Nat.reduceMul, Int.reduceToNat, reduceCtorEq, aLoad, subv, aIndexAddr, aIndex, TD.aggr, guardSlot, aPick, byte, word, aMin, aMax, Ax.Ends, EndsX, Ax.rvals, rone, AV.ids, idsL, newIds, upTo, pinHeap, gOf, ↓reduceIte, List.isEmpty, Int.reducePow, Nat.reducePow, Int.reduceMod, Nat.reduceLeDiff, Int.reduceLE, Int.reduceNe, Int.reduceEq, aBuildSlice, fillB, aAppend, appendB, viewB, Ax.look, Ax.put, Ax.drop, List.drop, List.take, asv, aMake, aCopy, srcB, fillG, viewG, appendG, appendI, fillI, aSlice, bnd, bnds, full3, cut, aFieldAddr, aField, aStore, setB, aBox, aBuild, fillS, allTy, AV.leaves, AV.okv, AV.leaf, one, splice, elemLeaves, Blk.size, Blk.len, Option.isSome, Option.isNone, isBytes, aStr, aNil, aAlloc, aExtract, viewI, Nat.reduceEqDiff, Nat.reduceLT, Nat.reduceBEq, List.contains, List.elem, Blk.closed, closedL, AV.closed, Blk.noimm, ↓gsplit_tt, ↓gsplit_ff, ↓gsplit_tf, ↓gsplit_ft, ↓csplit_t, ↓csplit_f, Ax.idx, AV.lentIds, lentIdsL, dropAll, givenUp, AV.clean, cleanL, Blk.clean, cleanB, quietC, flatTy, coldStr, notMs, eqV, eqF, isStruct, -coe, coe_w, coe_str, coe_agg, coe_tup, coe_sb, coe_si, coe_cp, coe_ms, coe_rf, coe_fn, coe_cons, tyF, setFlat, ty, Sbputs, yesS, blightS4, hlp, hL1, hx1, map_rrec, d1]
  · exact hp.elim
end
theorem bputs_dom {x y : AV} (hx : Arg ty 6 24 x) (hy : Arg ty 6 24 y) : (bputsS [x, y] []).p ∧ (bputsS [x, y] []).x = .w (.bool true) := by
  obtain ⟨a, f, rfl, ha⟩ := arg_bat hx
  obtain ⟨b, g, rfl, hb⟩ := arg_bat hy
  exact ⟨⟨⟨by rw [List.length_map]; exact ha, _, rfl⟩, by rw [List.length_map]; exact hb, _, rfl⟩, rfl⟩
end Go.Proofs.Ythmkhlmohjcbgaa
