/- Layer 12: the document's Build. -/
import Derived.Test.YtoagncogikogpaaIf
namespace Go.Proofs.Ytoagncogikogpaa
open Ax
set_option linter.unusedSimpArgs false
set_option linter.unusedVariables false

def rbuildS : FSpec
  | [.w (.int .i64 v), .sg 3 xs f], [] => ⟨xs.length ≤ 100000 ∧ ∃ es : List Ent, xs = es.map ent, .agg [.w (.int .i64 (bldI v (xs.map uent)).v), .w (.int .i64 (bldI v (xs.map uent)).c), .sg 3 ((bldI v (xs.map uent)).es.map ent) (decide (xs.length = 0))], []⟩
  | _, _ => noRes
def Srbuild12 (f : FuncId) : Option FSpec :=
  match f with
  | 31 => some newI12S
  | 28 => some raddS
  | _ => none
theorem Srbuild12_ok : Fns Try.prog Srbuild12 := by
  intro f s h
  unfold Srbuild12 at h
  split at h
  · injection h with h; subst h; exact ⟨⟨_, Try.func31, by kernel_rfl, by kernel_rfl⟩, rnewI12_sound⟩
  · injection h with h; subst h; exact ⟨⟨_, Try.func28, by kernel_rfl, by kernel_rfl⟩, raddI_sound⟩
  · cases h
section
set_option maxRecDepth 100000
set_option maxHeartbeats 2000000 in
theorem rbuildI_sound : Sound Try.prog 33 rbuildS := by
  refine fn_sound (S := Srbuild12) (T := ty) mixed ty_ok Srbuild12_ok Try.func33 (c := Try.f33.body.getD .skip) (by kernel_rfl) (by kernel_rfl) (fun xs pins hp _ => ?_)
  unfold rbuildS at hp ⊢
  split at hp
  · rename_i v xs f _
    obtain ⟨hL, es, rfl⟩ := hp
    rw [List.length_map] at hL
    refine ⟨by simp, ?_⟩
    have hl4 : (es.map ent).length = es.length := by simp
    obtain ⟨V, hV⟩ : ∃ V, max v 1 = V := ⟨_, rfl⟩
    have hbld : bldI v es = es.foldl addI ⟨V, 0, []⟩ := by rw [← hV]; rfl
    unfold Try.f33
    simp -implicitDefEqProofs only [evT, implies_true, forall_const, Option.getD, later_normal, aop, aLen, ev, slot, setSlot, putSlot, cv, cvl, aConv, aBin, aInt, aUn, aFn, aEq, Out.and, isBool, isPtr, List.length, IntKind.bits, evs, evo, evps, aCall, aUser, coes, coe, List.append, List.replicate, callOut, rootsL, AV.roots, lendsL, AV.lends, pinsOf, nodup, lendL, lend, closedB, noimmB, AV.noimm, AV.ren, renL, back, Nat.reduceAdd, Nat.reduceSub, Nat.reduceMul, Int.reduceToNat, reduceCtorEq, aLoad, subv, aIndexAddr, aIndex, TD.aggr, guardSlot, aPick, byte, word, aMin, aMax, Ax.Ends, EndsX, Ax.rvals, rone, AV.ids, idsL, newIds, upTo, pinHeap, gOf, ↓reduceIte, List.isEmpty, Int.reducePow, Nat.reducePow, Int.reduceMod, Nat.reduceLeDiff, Int.reduceLE, Int.reduceNe, Int.reduceEq, aBuildSlice, fillB, aAppend, appendB, viewB, Ax.look, Ax.put, Ax.drop, List.drop, List.take, asv, aMake, aCopy, srcB, fillG, viewG, appendG, appendI, fillI, aSlice, bnd, bnds, full3, cut, aFieldAddr, aField, aStore, setB, aBox, aBuild, fillS, allTy, AV.leaves, AV.okv, AV.leaf, one, splice, elemLeaves, Blk.size, Blk.len, Option.isSome, Option.isNone, isBytes, aStr, aNil, aAlloc, aExtract, viewI, Nat.reduceEqDiff, Nat.reduceLT, Nat.reduceBEq, List.contains, List.elem, Blk.closed, closedL, AV.closed, Blk.noimm, ↓gsplit_tt, ↓gsplit_ff, ↓gsplit_tf, ↓gsplit_ft, ↓csplit_t, ↓csplit_f, Ax.idx, AV.lentIds, lentIdsL, dropAll, givenUp, AV.clean, cleanL, Blk.clean, cleanB, quietC, flatTy, coldStr, notMs, eqV, eqF, isStruct, -coe, coe_w, coe_str, coe_agg, coe_tup, coe_sb, coe_si, coe_cp, coe_ms, coe_rf, coe_fn, coe_cons, ty, Srbuild12, newI12S, raddS, hl4, hV, map_uent]
    refine awp_loop ⟨fun m σ => ∃ (i : Nat) (X : Idx), m = es.length - i ∧ i ≤ es.length ∧ X = (es.take i).foldl addI ⟨V, 0, []⟩ ∧
        σ = ⟨[.w (.int .i64 v), .sg 3 (es.map ent) f, .junk, .junk, .rf 4 3 0 0, .rf 5 3 0 0, .w (.int .i64 i), .junk, .junk, .junk, .junk, .junk, .junk, .junk, .junk, .junk, .junk, .junk, .junk, .junk, .junk, .junk], [(4, .g 3 [.agg [.w (.int .i64 0), .w (.int .i64 0), .sg 3 [] true]]), (5, .g 3 [.agg [.w (.int .i64 X.v), .w (.int .i64 X.c), .sg 3 (X.es.map ent) (decide (i = 0))]])], 6⟩, ?_, ?_⟩
    · refine ⟨_, _, weak_ren [0, 1, 2, 3, 4, 28] rfl rfl rfl ?_ ?_, 0, _, rfl, by omega, rfl, rfl⟩
      · simp only [SameS, SameH, setSlot, gOf, AV.ren, renL, Blk.ren, Ax.look, Ax.put, reduceCtorEq, true_or, false_or, or_true, or_false, and_true, true_and, AV.w.injEq, Value.int.injEq, Value.bool.injEq, AV.ms.injEq, AV.sb.injEq, AV.str.injEq, ↓reduceIte, Nat.reduceEqDiff, Nat.reduceLT, List.length_append, List.length_cons, List.length_nil, Nat.zero_add, Nat.add_zero, Option.some.injEq, Blk.b.injEq, Blk.i.injEq, Nat.succ_ne_zero, Nat.reduceAdd, and_self]; try simp
      · simp only [SameS, SameH, setSlot, gOf, AV.ren, renL, Blk.ren, Ax.look, Ax.put, reduceCtorEq, true_or, false_or, or_true, or_false, and_true, true_and, AV.w.injEq, Value.int.injEq, Value.bool.injEq, AV.ms.injEq, AV.sb.injEq, AV.str.injEq, ↓reduceIte, Nat.reduceEqDiff, Nat.reduceLT, List.length_append, List.length_cons, List.length_nil, Nat.zero_add, Nat.add_zero, Option.some.injEq, Blk.b.injEq, Blk.i.injEq, Nat.succ_ne_zero, Nat.reduceAdd, and_self]; try simp
    · rintro m σ ⟨i, X, rfl, hi, hX, rfl⟩
      have hXl : X.es.length ≤ 900000 := by
        have := fold_len (es.take i) ⟨V, 0, []⟩
        rw [← hX, List.length_take] at this
        simp at this; omega
      have hXl2 : (X.es.map ent).length = X.es.length := by simp
      have hx1 : ∃ qs : List Ent, X.es.map ent = qs.map ent := ⟨X.es, rfl⟩
      have hc1 : ∀ g, coe ty 43 (.sg 3 (X.es.map ent) g) = .sg 3 (X.es.map ent) g := fun g => by cases X.es <;> rfl
      by_cases hil : i < es.length
      · have d1 : decide ((i : Int) < es.length) = true := decide_eq_true (by omega)
        have e1 : ((i : Int) + 1 + 9223372036854775808) % 18446744073709551616 - 9223372036854775808 = ((i + 1 : Nat) : Int) := by omega
        have hs1 := slot_ent es i hil
        have hf := fold_snoc ⟨V, 0, []⟩ es i hil
        obtain ⟨P, hP⟩ : ∃ P, es[i] = P := ⟨_, rfl⟩
        rw [hP] at hs1 hf
        rw [← hX] at hf
        simp only [ent] at hs1
        have hfl : (!decide (takesI X.v X.c) && decide (i = 0)) = decide (i + 1 = 0) := by
          have h2 : decide (i + 1 = 0) = false := decide_eq_false (by omega)
          rw [h2]
          by_cases h0 : i = 0
          · subst h0
            have : takesI X.v X.c := by rw [hX]; exact .inr (by simp)
            rw [decide_eq_true this]; rfl
          · rw [decide_eq_false h0, Bool.and_false]
        simp -implicitDefEqProofs only [evT, implies_true, forall_const, Option.getD, later_normal, aop, aLen, ev, slot, setSlot, putSlot, cv, cvl, aConv, aBin, aInt, aUn, aFn, aEq, Out.and, isBool, isPtr, List.length, IntKind.bits, evs, evo, evps, aCall, aUser, coes, coe, List.append, List.replicate, callOut, rootsL, AV.roots, lendsL, AV.lends, pinsOf, nodup, lendL, lend, closedB, noimmB, AV.noimm, AV.ren, renL, back, Nat.reduceAdd, Nat.reduceSub, Nat.reduceMul, Int.reduceToNat, reduceCtorEq, aLoad, subv, aIndexAddr, aIndex, TD.aggr, guardSlot, aPick, byte, word, aMin, aMax, Ax.Ends, EndsX, Ax.rvals, rone, AV.ids, idsL, newIds, upTo, pinHeap, gOf, ↓reduceIte, List.isEmpty, Int.reducePow, Nat.reducePow, Int.reduceMod, Nat.reduceLeDiff, Int.reduceLE, Int.reduceNe, Int.reduceEq, aBuildSlice, fillB, aAppend, appendB, viewB, Ax.look, Ax.put, Ax.drop, List.drop, List.take, asv, aMake, aCopy, srcB, fillG, viewG, appendG, appendI, fillI, aSlice, bnd, bnds, full3, cut, aFieldAddr, aField, aStore, setB, aBox, aBuild, fillS, allTy, AV.leaves, AV.okv, AV.leaf, one, splice, elemLeaves, Blk.size, Blk.len, Option.isSome, Option.isNone, isBytes, aStr, aNil, aAlloc, aExtract, viewI, Nat.reduceEqDiff, Nat.reduceLT, Nat.reduceBEq, List.contains, List.elem, Blk.closed, closedL, AV.closed, Blk.noimm, ↓gsplit_tt, ↓gsplit_ff, ↓gsplit_tf, ↓gsplit_ft, ↓csplit_t, ↓csplit_f, Ax.idx, AV.lentIds, lentIdsL, dropAll, givenUp, AV.clean, cleanL, Blk.clean, cleanB, quietC, flatTy, coldStr, notMs, eqV, eqF, isStruct, -coe, coe_w, coe_str, coe_agg, coe_tup, coe_sb, coe_si, coe_cp, coe_ms, coe_rf, coe_fn, coe_cons, ty, Srbuild12, newI12S, raddS, hl4, d1, hs1, e1, hXl, hXl2, hx1, hc1, map_uent, hfl, Int.toNat_natCast]
        repeat (refine And.intro (by omega) ?_)
        refine ⟨es.length - (i + 1), _, by omega, weak_ren [0, 1, 2, 3, 4, 5] rfl rfl rfl ?_ ?_, i + 1, addI X P, rfl, by omega, hf.symm, rfl⟩
        · simp only [SameS, SameH, setSlot, gOf, AV.ren, renL, Blk.ren, Ax.look, Ax.put, reduceCtorEq, true_or, false_or, or_true, or_false, and_true, true_and, AV.w.injEq, Value.int.injEq, Value.bool.injEq, AV.ms.injEq, AV.sb.injEq, AV.str.injEq, ↓reduceIte, Nat.reduceEqDiff, Nat.reduceLT, List.length_append, List.length_cons, List.length_nil, Nat.zero_add, Nat.add_zero, Option.some.injEq, Blk.b.injEq, Blk.i.injEq, Nat.succ_ne_zero, Nat.reduceAdd, and_self]; try simp
        · simp only [SameS, SameH, setSlot, gOf, AV.ren, renL, Blk.ren, Ax.look, Ax.put, reduceCtorEq, true_or, false_or, or_true, or_false, and_true, true_and, AV.w.injEq, Value.int.injEq, Value.bool.injEq, AV.ms.injEq, AV.sb.injEq, AV.str.injEq, ↓reduceIte, Nat.reduceEqDiff, Nat.reduceLT, List.length_append, List.length_cons, List.length_nil, Nat.zero_add, Nat.add_zero, Option.some.injEq, Blk.b.injEq, Blk.i.injEq, Nat.succ_ne_zero, Nat.reduceAdd, and_self, ren_ent]; try simp
      · have d1 : decide ((i : Int) < es.length) = false := decide_eq_false (by omega)
        have hb : bldI v es = X := by
          rw [hbld, hX]
          have : es.take i = es := List.take_of_length_le (by omega)
          rw [this]
        obtain rfl : i = es.length := by omega
        simp -implicitDefEqProofs only [evT, implies_true, forall_const, Option.getD, later_normal, aop, aLen, ev, slot, setSlot, putSlot, cv, cvl, aConv, aBin, aInt, aUn, aFn, aEq, Out.and, isBool, isPtr, List.length, IntKind.bits, evs, evo, evps, aCall, aUser, coes, coe, List.append, List.replicate, callOut, rootsL, AV.roots, lendsL, AV.lends, pinsOf, nodup, lendL, lend, closedB, noimmB, AV.noimm, AV.ren, renL, back, Nat.reduceAdd, Nat.reduceSub, Nat.reduceMul, Int.reduceToNat, reduceCtorEq, aLoad, subv, aIndexAddr, aIndex, TD.aggr, guardSlot, aPick, byte, word, aMin, aMax, Ax.Ends, EndsX, Ax.rvals, rone, AV.ids, idsL, newIds, upTo, pinHeap, gOf, ↓reduceIte, List.isEmpty, Int.reducePow, Nat.reducePow, Int.reduceMod, Nat.reduceLeDiff, Int.reduceLE, Int.reduceNe, Int.reduceEq, aBuildSlice, fillB, aAppend, appendB, viewB, Ax.look, Ax.put, Ax.drop, List.drop, List.take, asv, aMake, aCopy, srcB, fillG, viewG, appendG, appendI, fillI, aSlice, bnd, bnds, full3, cut, aFieldAddr, aField, aStore, setB, aBox, aBuild, fillS, allTy, AV.leaves, AV.okv, AV.leaf, one, splice, elemLeaves, Blk.size, Blk.len, Option.isSome, Option.isNone, isBytes, aStr, aNil, aAlloc, aExtract, viewI, Nat.reduceEqDiff, Nat.reduceLT, Nat.reduceBEq, List.contains, List.elem, Blk.closed, closedL, AV.closed, Blk.noimm, ↓gsplit_tt, ↓gsplit_ff, ↓gsplit_tf, ↓gsplit_ft, ↓csplit_t, ↓csplit_f, Ax.idx, AV.lentIds, lentIdsL, dropAll, givenUp, AV.clean, cleanL, Blk.clean, cleanB, quietC, flatTy, coldStr, notMs, eqV, eqF, isStruct, -coe, coe_w, coe_str, coe_agg, coe_tup, coe_sb, coe_si, coe_cp, coe_ms, coe_rf, coe_fn, coe_cons, ty, Srbuild12, newI12S, raddS, hl4, d1, hb, map_uent]
  · exact hp.elim
end
end Go.Proofs.Ytoagncogikogpaa
