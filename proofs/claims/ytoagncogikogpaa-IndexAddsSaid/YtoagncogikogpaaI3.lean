/- Layer 12: what is found of an offset. -/
import Derived.Test.YtoagncogikogpaaI2
namespace Go.Proofs.Ytoagncogikogpaa
open Ax
set_option linter.unusedSimpArgs false
set_option linter.unusedVariables false

def offAt (es : List Ent) (k : Nat) : Int := (es.getD k ⟨0, 0, 0⟩).o
theorem offAt_eq (es : List Ent) (k : Nat) (h : k < es.length) : offAt es k = es[k].o := by unfold offAt; simp [h]
/-- The place that halving finds. -/
def hlv (A : Nat → Bool) : Nat → Nat → Nat → Nat
  | 0, lo, _ => lo
  | f + 1, lo, hi => if lo < hi then (if A (lo + (hi - lo) / 2) then hlv A f lo (lo + (hi - lo) / 2) else hlv A f (lo + (hi - lo) / 2 + 1) hi) else lo
theorem hlv_succ (A : Nat → Bool) (f lo hi : Nat) : hlv A (f + 1) lo hi = if lo < hi then (if A (lo + (hi - lo) / 2) then hlv A f lo (lo + (hi - lo) / 2) else hlv A f (lo + (hi - lo) / 2 + 1) hi) else lo := rfl
theorem hlv_stop (A : Nat → Bool) (f lo hi : Nat) (h : ¬ lo < hi) : hlv A f lo hi = lo := by
  cases f with
  | zero => rfl
  | succ f => rw [hlv_succ, if_neg h]
theorem hlv_le (A : Nat → Bool) : ∀ (f lo hi : Nat), lo ≤ hi → lo ≤ hlv A f lo hi ∧ hlv A f lo hi ≤ hi
  | 0, lo, hi, h => ⟨Nat.le_refl _, h⟩
  | f + 1, lo, hi, h => by
    rw [hlv_succ]
    split
    · split
      · have := hlv_le A f lo (lo + (hi - lo) / 2) (by omega); omega
      · have := hlv_le A f (lo + (hi - lo) / 2 + 1) hi (by omega); omega
    · omega
def isAbove (es : List Ent) (off : Int) (k : Nat) : Bool := decide (off < offAt es k)
def hlvI (es : List Ent) (off : Int) : Nat := hlv (isAbove es off) es.length 0 es.length
def find1I : FSpec
  | [.w (.int .i64 i), .rf 0 3 0 0, .rf 1 1 0 0], [.g 3 [.agg [.w (.int .i64 v), .w (.int .i64 c), .sg 3 xs f]], .g 1 [.w (.int .i64 off)]] =>
      ⟨0 ≤ i ∧ i.toNat < xs.length ∧ ∃ es : List Ent, xs = es.map ent, .w (.bool (isAbove (xs.map uent) off i.toNat)), [.g 3 [.agg [.w (.int .i64 v), .w (.int .i64 c), .sg 3 xs f]], .g 1 [.w (.int .i64 off)]]⟩
  | _, _ => noRes
def halveS : FSpec
  | [.w (.int .i64 n), .fn id [.rf 0 3 0 0, .rf 1 1 0 0]], [.g 3 [.agg [.w (.int .i64 v), .w (.int .i64 c), .sg 3 xs f]], .g 1 [.w (.int .i64 off)]] =>
      ⟨id = 54 ∧ n = xs.length ∧ xs.length ≤ 1000000 ∧ ∃ es : List Ent, xs = es.map ent, .w (.int .i64 (hlvI (xs.map uent) off)), [.g 3 [.agg [.w (.int .i64 v), .w (.int .i64 c), .sg 3 xs f]], .g 1 [.w (.int .i64 off)]]⟩
  | _, _ => noRes
def findE (es : List Ent) (off : Int) : Ent := if hlvI es off = 0 then ⟨0, 0, 0⟩ else es.getD (hlvI es off - 1) ⟨0, 0, 0⟩
def findIS : FSpec
  | [.agg [.w (.int .i64 v), .w (.int .i64 c), .sg 3 xs f], .w (.int .i64 off)], [] =>
      ⟨xs.length ≤ 1000000 ∧ ∃ es : List Ent, xs = es.map ent, .tup [ent (findE (xs.map uent) off), .w (.bool (!decide (hlvI (xs.map uent) off = 0)))], []⟩
  | _, _ => noRes
section
set_option maxRecDepth 100000
set_option maxHeartbeats 1000000 in
theorem find1I_sound : Sound Try.prog 54 find1I := by
  refine fn_sound (S := noS) (T := ty) mixed ty_ok noS_ok Try.func54 (c := Try.f54.body.getD .skip) (by kernel_rfl) (by kernel_rfl) (fun xs pins hp _ => ?_)
  unfold find1I at hp ⊢
  split at hp
  · rename_i i v c xs f off _
    obtain ⟨h0, h1, es, rfl⟩ := hp
    rw [List.length_map] at h1
    refine ⟨by simp, ?_⟩
    have hl : (es.map ent).length = es.length := by simp
    have hs1 := slot_ent es i.toNat h1
    have ho := offAt_eq es i.toNat h1
    obtain ⟨P, hP⟩ : ∃ P, es[i.toNat] = P := ⟨_, rfl⟩
    rw [hP] at hs1 ho
    simp only [ent] at hs1
    have hA : isAbove es off i.toNat = decide (off < P.o) := by unfold isAbove; rw [ho]
    unfold Try.f54
    simp -implicitDefEqProofs only [evT, implies_true, forall_const, Option.getD, later_normal, aop, aLen, ev, slot, setSlot, putSlot, cv, cvl, aConv, aBin, aInt, aUn, aFn, aEq, Out.and, isBool, isPtr, List.length, IntKind.bits, evs, evo, evps, aCall, aUser, coes, coe, List.append, List.replicate, callOut, rootsL, AV.roots, lendsL, AV.lends, pinsOf, nodup, lendL, lend, closedB, noimmB, AV.noimm, AV.ren, renL, back, Nat.reduceAdd, Nat.reduceSub, Nat.reduceMul, Int.reduceToNat, reduceCtorEq, aLoad, subv, aIndexAddr, aIndex, TD.aggr, guardSlot, aPick, byte, word, aMin, aMax, Ax.Ends, EndsX, Ax.rvals, rone, AV.ids, idsL, newIds, upTo, pinHeap, gOf, ↓reduceIte, List.isEmpty, Int.reducePow, Nat.reducePow, Int.reduceMod, Nat.reduceLeDiff, Int.reduceLE, Int.reduceNe, Int.reduceEq, aBuildSlice, fillB, aAppend, appendB, viewB, Ax.look, Ax.put, Ax.drop, List.drop, List.take, asv, aMake, aCopy, srcB, fillG, viewG, appendG, appendI, fillI, aSlice, bnd, bnds, full3, cut, aFieldAddr, aField, aStore, setB, aBox, aBuild, fillS, allTy, AV.leaves, AV.okv, AV.leaf, one, splice, elemLeaves, Blk.size, Blk.len, Option.isSome, Option.isNone, isBytes, aStr, aNil, aAlloc, aExtract, viewI, Nat.reduceEqDiff, Nat.reduceLT, Nat.reduceBEq, List.contains, List.elem, Blk.closed, closedL, AV.closed, Blk.noimm, ↓gsplit_tt, ↓gsplit_ff, ↓gsplit_tf, ↓gsplit_ft, ↓csplit_t, ↓csplit_f, Ax.idx, AV.lentIds, lentIdsL, dropAll, givenUp, AV.clean, cleanL, Blk.clean, cleanB, quietC, flatTy, coldStr, notMs, eqV, eqF, isStruct, -coe, coe_w, coe_str, coe_agg, coe_tup, coe_sb, coe_si, coe_cp, coe_ms, coe_rf, coe_fn, coe_cons, ty, noS, hl, hs1, map_uent, hA]
    try omega
  · exact hp.elim
def Shalve (f : FuncId) : Option FSpec :=
  match f with
  | 54 => some find1I
  | _ => none
theorem Shalve_ok : Fns Try.prog Shalve := by
  intro f s h
  unfold Shalve at h
  split at h
  · injection h with h; subst h; exact ⟨⟨_, Try.func54, by kernel_rfl, by kernel_rfl⟩, find1I_sound⟩
  · cases h
set_option maxHeartbeats 2000000 in
theorem halve_sound : Sound Try.prog 53 halveS := by
  refine fn_sound (S := Shalve) (T := ty) mixed ty_ok Shalve_ok Try.func53 (c := Try.f53.body.getD .skip) (by kernel_rfl) (by kernel_rfl) (fun xs pins hp _ => ?_)
  unfold halveS at hp ⊢
  split at hp
  · rename_i n id v c xs f off _
    obtain ⟨rfl, rfl, hL, es, rfl⟩ := hp
    rw [List.length_map] at hL
    refine ⟨by simp, ?_⟩
    have hl : (es.map ent).length = es.length := by simp
    have hx : ∃ qs : List Ent, es.map ent = qs.map ent := ⟨es, rfl⟩
    obtain ⟨A, hA⟩ : ∃ A, isAbove es off = A := ⟨_, rfl⟩
    have hv : hlvI es off = hlv A es.length 0 es.length := by rw [← hA]; rfl
    unfold Try.f53
    simp -implicitDefEqProofs only [evT, implies_true, forall_const, Option.getD, later_normal, aop, aLen, ev, slot, setSlot, putSlot, cv, cvl, aConv, aBin, aInt, aUn, aFn, aEq, Out.and, isBool, isPtr, List.length, IntKind.bits, evs, evo, evps, aCall, aUser, coes, coe, List.append, List.replicate, callOut, rootsL, AV.roots, lendsL, AV.lends, pinsOf, nodup, lendL, lend, closedB, noimmB, AV.noimm, AV.ren, renL, back, Nat.reduceAdd, Nat.reduceSub, Nat.reduceMul, Int.reduceToNat, reduceCtorEq, aLoad, subv, aIndexAddr, aIndex, TD.aggr, guardSlot, aPick, byte, word, aMin, aMax, Ax.Ends, EndsX, Ax.rvals, rone, AV.ids, idsL, newIds, upTo, pinHeap, gOf, ↓reduceIte, List.isEmpty, Int.reducePow, Nat.reducePow, Int.reduceMod, Nat.reduceLeDiff, Int.reduceLE, Int.reduceNe, Int.reduceEq, aBuildSlice, fillB, aAppend, appendB, viewB, Ax.look, Ax.put, Ax.drop, List.drop, List.take, asv, aMake, aCopy, srcB, fillG, viewG, appendG, appendI, fillI, aSlice, bnd, bnds, full3, cut, aFieldAddr, aField, aStore, setB, aBox, aBuild, fillS, allTy, AV.leaves, AV.okv, AV.leaf, one, splice, elemLeaves, Blk.size, Blk.len, Option.isSome, Option.isNone, isBytes, aStr, aNil, aAlloc, aExtract, viewI, Nat.reduceEqDiff, Nat.reduceLT, Nat.reduceBEq, List.contains, List.elem, Blk.closed, closedL, AV.closed, Blk.noimm, ↓gsplit_tt, ↓gsplit_ff, ↓gsplit_tf, ↓gsplit_ft, ↓csplit_t, ↓csplit_f, Ax.idx, AV.lentIds, lentIdsL, dropAll, givenUp, AV.clean, cleanL, Blk.clean, cleanB, quietC, flatTy, coldStr, notMs, eqV, eqF, isStruct, -coe, coe_w, coe_str, coe_agg, coe_tup, coe_sb, coe_si, coe_cp, coe_ms, coe_rf, coe_fn, coe_cons, ty, Shalve, hl, map_uent]
    refine awp_loop ⟨fun m σ => ∃ lo hi k : Nat, m = hi - lo ∧ lo ≤ hi ∧ hi ≤ es.length ∧ hi - lo ≤ k ∧ hlvI es off = hlv A k lo hi ∧
        σ = ⟨[.w (.int .i64 es.length), .fn 54 [.rf 0 3 0 0, .rf 1 1 0 0], .junk, .junk, .junk, .w (.int .i64 lo), .w (.int .i64 hi), .junk, .junk, .junk, .junk, .junk, .junk, .junk, .junk, .junk, .junk, .junk, .junk, .junk, .junk, .junk, .junk, .junk, .junk], [(0, .g 3 [.agg [.w (.int .i64 v), .w (.int .i64 c), .sg 3 (es.map ent) f]]), (1, .g 1 [.w (.int .i64 off)])], 4⟩, ?_, ?_⟩
    · refine ⟨_, _, weak_ren [0, 1, 2, 3] rfl rfl rfl ?_ ?_, 0, es.length, es.length, rfl, by omega, by omega, by omega, hv, rfl⟩
      · simp only [SameS, SameH, setSlot, gOf, AV.ren, renL, Blk.ren, Ax.look, Ax.put, reduceCtorEq, true_or, false_or, or_true, or_false, and_true, true_and, AV.w.injEq, Value.int.injEq, Value.bool.injEq, AV.ms.injEq, AV.sb.injEq, AV.str.injEq, ↓reduceIte, Nat.reduceEqDiff, Nat.reduceLT, List.length_append, List.length_cons, List.length_nil, Nat.zero_add, Nat.add_zero, Option.some.injEq, Blk.b.injEq, Blk.i.injEq, Nat.succ_ne_zero, Nat.reduceAdd, and_self]; try simp
      · simp only [SameS, SameH, setSlot, gOf, AV.ren, renL, Blk.ren, Ax.look, Ax.put, reduceCtorEq, true_or, false_or, or_true, or_false, and_true, true_and, AV.w.injEq, Value.int.injEq, Value.bool.injEq, AV.ms.injEq, AV.sb.injEq, AV.str.injEq, ↓reduceIte, Nat.reduceEqDiff, Nat.reduceLT, List.length_append, List.length_cons, List.length_nil, Nat.zero_add, Nat.add_zero, Option.some.injEq, Blk.b.injEq, Blk.i.injEq, Nat.succ_ne_zero, Nat.reduceAdd, and_self]; try simp
    · rintro m σ ⟨lo, hi, k, rfl, h1, h2, h3, hinv, rfl⟩
      by_cases hlh : lo < hi
      · have d1 : decide ((lo : Int) < hi) = true := decide_eq_true (by omega)
        obtain ⟨k, rfl⟩ : ∃ j, k = j + 1 := ⟨k - 1, by omega⟩
        rw [hlv_succ, if_pos hlh] at hinv
        obtain ⟨M, hM⟩ : ∃ M, lo + (hi - lo) / 2 = M := ⟨_, rfl⟩
        rw [hM] at hinv
        have e1 : ((hi : Int) - lo + 9223372036854775808) % 18446744073709551616 - 9223372036854775808 = ((hi - lo : Nat) : Int) := by omega
        have e2 : ((hi - lo : Nat) : Int).tdiv 2 = (((hi - lo) / 2 : Nat) : Int) := by rw [Int.tdiv_eq_ediv_of_nonneg (by omega)]; omega
        have e2' : ((((hi - lo) / 2 : Nat) : Int) + 9223372036854775808) % 18446744073709551616 - 9223372036854775808 = (((hi - lo) / 2 : Nat) : Int) := by omega
        have e3 : ((lo : Int) + (((hi - lo) / 2 : Nat) : Int) + 9223372036854775808) % 18446744073709551616 - 9223372036854775808 = (M : Int) := by omega
        have e4 : ((M : Int) + 1 + 9223372036854775808) % 18446744073709551616 - 9223372036854775808 = ((M + 1 : Nat) : Int) := by omega
        have hMl : M < es.length := by omega
        cases hap : A M with
        | true =>
          rw [hap, if_pos rfl] at hinv
          simp -implicitDefEqProofs only [evT, implies_true, forall_const, Option.getD, later_normal, aop, aLen, ev, slot, setSlot, putSlot, cv, cvl, aConv, aBin, aInt, aUn, aFn, aEq, Out.and, isBool, isPtr, List.length, IntKind.bits, evs, evo, evps, aCall, aUser, coes, coe, List.append, List.replicate, callOut, rootsL, AV.roots, lendsL, AV.lends, pinsOf, nodup, lendL, lend, closedB, noimmB, AV.noimm, AV.ren, renL, back, Nat.reduceAdd, Nat.reduceSub, Nat.reduceMul, Int.reduceToNat, reduceCtorEq, aLoad, subv, aIndexAddr, aIndex, TD.aggr, guardSlot, aPick, byte, word, aMin, aMax, Ax.Ends, EndsX, Ax.rvals, rone, AV.ids, idsL, newIds, upTo, pinHeap, gOf, ↓reduceIte, List.isEmpty, Int.reducePow, Nat.reducePow, Int.reduceMod, Nat.reduceLeDiff, Int.reduceLE, Int.reduceNe, Int.reduceEq, aBuildSlice, fillB, aAppend, appendB, viewB, Ax.look, Ax.put, Ax.drop, List.drop, List.take, asv, aMake, aCopy, srcB, fillG, viewG, appendG, appendI, fillI, aSlice, bnd, bnds, full3, cut, aFieldAddr, aField, aStore, setB, aBox, aBuild, fillS, allTy, AV.leaves, AV.okv, AV.leaf, one, splice, elemLeaves, Blk.size, Blk.len, Option.isSome, Option.isNone, isBytes, aStr, aNil, aAlloc, aExtract, viewI, Nat.reduceEqDiff, Nat.reduceLT, Nat.reduceBEq, List.contains, List.elem, Blk.closed, closedL, AV.closed, Blk.noimm, ↓gsplit_tt, ↓gsplit_ff, ↓gsplit_tf, ↓gsplit_ft, ↓csplit_t, ↓csplit_f, Ax.idx, AV.lentIds, lentIdsL, dropAll, givenUp, AV.clean, cleanL, Blk.clean, cleanB, quietC, flatTy, coldStr, notMs, eqV, eqF, isStruct, -coe, coe_w, coe_str, coe_agg, coe_tup, coe_sb, coe_si, coe_cp, coe_ms, coe_rf, coe_fn, coe_cons, ty, Shalve, find1I, hl, d1, e1, e2, e2', e3, hMl, hx, map_uent, hA, hap, Int.toNat_natCast]
          repeat (refine And.intro (by omega) ?_)
          refine ⟨M - lo, _, by omega, weak_ren [0, 1, 2, 3] rfl rfl rfl ?_ ?_, lo, M, k, rfl, by omega, by omega, by omega, hinv, rfl⟩
          · simp only [SameS, SameH, setSlot, gOf, AV.ren, renL, Blk.ren, Ax.look, Ax.put, reduceCtorEq, true_or, false_or, or_true, or_false, and_true, true_and, AV.w.injEq, Value.int.injEq, Value.bool.injEq, AV.ms.injEq, AV.sb.injEq, AV.str.injEq, ↓reduceIte, Nat.reduceEqDiff, Nat.reduceLT, List.length_append, List.length_cons, List.length_nil, Nat.zero_add, Nat.add_zero, Option.some.injEq, Blk.b.injEq, Blk.i.injEq, Nat.succ_ne_zero, Nat.reduceAdd, and_self]
          · simp only [SameS, SameH, setSlot, gOf, AV.ren, renL, Blk.ren, Ax.look, Ax.put, reduceCtorEq, true_or, false_or, or_true, or_false, and_true, true_and, AV.w.injEq, Value.int.injEq, Value.bool.injEq, AV.ms.injEq, AV.sb.injEq, AV.str.injEq, ↓reduceIte, Nat.reduceEqDiff, Nat.reduceLT, List.length_append, List.length_cons, List.length_nil, Nat.zero_add, Nat.add_zero, Option.some.injEq, Blk.b.injEq, Blk.i.injEq, Nat.succ_ne_zero, Nat.reduceAdd, and_self]
        | false =>
          rw [hap] at hinv
          simp only [Bool.false_eq_true, if_false] at hinv
          simp -implicitDefEqProofs only [evT, implies_true, forall_const, Option.getD, later_normal, aop, aLen, ev, slot, setSlot, putSlot, cv, cvl, aConv, aBin, aInt, aUn, aFn, aEq, Out.and, isBool, isPtr, List.length, IntKind.bits, evs, evo, evps, aCall, aUser, coes, coe, List.append, List.replicate, callOut, rootsL, AV.roots, lendsL, AV.lends, pinsOf, nodup, lendL, lend, closedB, noimmB, AV.noimm, AV.ren, renL, back, Nat.reduceAdd, Nat.reduceSub, Nat.reduceMul, Int.reduceToNat, reduceCtorEq, aLoad, subv, aIndexAddr, aIndex, TD.aggr, guardSlot, aPick, byte, word, aMin, aMax, Ax.Ends, EndsX, Ax.rvals, rone, AV.ids, idsL, newIds, upTo, pinHeap, gOf, ↓reduceIte, List.isEmpty, Int.reducePow, Nat.reducePow, Int.reduceMod, Nat.reduceLeDiff, Int.reduceLE, Int.reduceNe, Int.reduceEq, aBuildSlice, fillB, aAppend, appendB, viewB, Ax.look, Ax.put, Ax.drop, List.drop, List.take, asv, aMake, aCopy, srcB, fillG, viewG, appendG, appendI, fillI, aSlice, bnd, bnds, full3, cut, aFieldAddr, aField, aStore, setB, aBox, aBuild, fillS, allTy, AV.leaves, AV.okv, AV.leaf, one, splice, elemLeaves, Blk.size, Blk.len, Option.isSome, Option.isNone, isBytes, aStr, aNil, aAlloc, aExtract, viewI, Nat.reduceEqDiff, Nat.reduceLT, Nat.reduceBEq, List.contains, List.elem, Blk.closed, closedL, AV.closed, Blk.noimm, ↓gsplit_tt, ↓gsplit_ff, ↓gsplit_tf, ↓gsplit_ft, ↓csplit_t, ↓csplit_f, Ax.idx, AV.lentIds, lentIdsL, dropAll, givenUp, AV.clean, cleanL, Blk.clean, cleanB, quietC, flatTy, coldStr, notMs, eqV, eqF, isStruct, -coe, coe_w, coe_str, coe_agg, coe_tup, coe_sb, coe_si, coe_cp, coe_ms, coe_rf, coe_fn, coe_cons, ty, Shalve, find1I, hl, d1, e1, e2, e2', e3, e4, hMl, hx, map_uent, hA, hap, Int.toNat_natCast]
          repeat (refine And.intro (by omega) ?_)
          refine ⟨hi - (M + 1), _, by omega, weak_ren [0, 1, 2, 3] rfl rfl rfl ?_ ?_, M + 1, hi, k, rfl, by omega, by omega, by omega, hinv, rfl⟩
          · simp only [SameS, SameH, setSlot, gOf, AV.ren, renL, Blk.ren, Ax.look, Ax.put, reduceCtorEq, true_or, false_or, or_true, or_false, and_true, true_and, AV.w.injEq, Value.int.injEq, Value.bool.injEq, AV.ms.injEq, AV.sb.injEq, AV.str.injEq, ↓reduceIte, Nat.reduceEqDiff, Nat.reduceLT, List.length_append, List.length_cons, List.length_nil, Nat.zero_add, Nat.add_zero, Option.some.injEq, Blk.b.injEq, Blk.i.injEq, Nat.succ_ne_zero, Nat.reduceAdd, and_self]
          · simp only [SameS, SameH, setSlot, gOf, AV.ren, renL, Blk.ren, Ax.look, Ax.put, reduceCtorEq, true_or, false_or, or_true, or_false, and_true, true_and, AV.w.injEq, Value.int.injEq, Value.bool.injEq, AV.ms.injEq, AV.sb.injEq, AV.str.injEq, ↓reduceIte, Nat.reduceEqDiff, Nat.reduceLT, List.length_append, List.length_cons, List.length_nil, Nat.zero_add, Nat.add_zero, Option.some.injEq, Blk.b.injEq, Blk.i.injEq, Nat.succ_ne_zero, Nat.reduceAdd, and_self]
      · have d1 : decide ((lo : Int) < hi) = false := decide_eq_false (by omega)
        rw [hlv_stop A k lo hi hlh] at hinv
        simp -implicitDefEqProofs only [evT, implies_true, forall_const, Option.getD, later_normal, aop, aLen, ev, slot, setSlot, putSlot, cv, cvl, aConv, aBin, aInt, aUn, aFn, aEq, Out.and, isBool, isPtr, List.length, IntKind.bits, evs, evo, evps, aCall, aUser, coes, coe, List.append, List.replicate, callOut, rootsL, AV.roots, lendsL, AV.lends, pinsOf, nodup, lendL, lend, closedB, noimmB, AV.noimm, AV.ren, renL, back, Nat.reduceAdd, Nat.reduceSub, Nat.reduceMul, Int.reduceToNat, reduceCtorEq, aLoad, subv, aIndexAddr, aIndex, TD.aggr, guardSlot, aPick, byte, word, aMin, aMax, Ax.Ends, EndsX, Ax.rvals, rone, AV.ids, idsL, newIds, upTo, pinHeap, gOf, ↓reduceIte, List.isEmpty, Int.reducePow, Nat.reducePow, Int.reduceMod, Nat.reduceLeDiff, Int.reduceLE, Int.reduceNe, Int.reduceEq, aBuildSlice, fillB, aAppend, appendB, viewB, Ax.look, Ax.put, Ax.drop, List.drop, List.take, asv, aMake, aCopy, srcB, fillG, viewG, appendG, appendI, fillI, aSlice, bnd, bnds, full3, cut, aFieldAddr, aField, aStore, setB, aBox, aBuild, fillS, allTy, AV.leaves, AV.okv, AV.leaf, one, splice, elemLeaves, Blk.size, Blk.len, Option.isSome, Option.isNone, isBytes, aStr, aNil, aAlloc, aExtract, viewI, Nat.reduceEqDiff, Nat.reduceLT, Nat.reduceBEq, List.contains, List.elem, Blk.closed, closedL, AV.closed, Blk.noimm, ↓gsplit_tt, ↓gsplit_ff, ↓gsplit_tf, ↓gsplit_ft, ↓csplit_t, ↓csplit_f, Ax.idx, AV.lentIds, lentIdsL, dropAll, givenUp, AV.clean, cleanL, Blk.clean, cleanB, quietC, flatTy, coldStr, notMs, eqV, eqF, isStruct, -coe, coe_w, coe_str, coe_agg, coe_tup, coe_sb, coe_si, coe_cp, coe_ms, coe_rf, coe_fn, coe_cons, ty, Shalve, d1, hinv, map_uent]
  · exact hp.elim
def Sfind12 (f : FuncId) : Option FSpec :=
  match f with
  | 53 => some halveS
  | _ => none
theorem Sfind12_ok : Fns Try.prog Sfind12 := by
  intro f s h
  unfold Sfind12 at h
  split at h
  · injection h with h; subst h; exact ⟨⟨_, Try.func53, by kernel_rfl, by kernel_rfl⟩, halve_sound⟩
  · cases h
set_option maxHeartbeats 1000000 in
theorem findI_sound : Sound Try.prog 36 findIS := by
  refine fn_sound (S := Sfind12) (T := ty) mixed ty_ok Sfind12_ok Try.func36 (c := Try.f36.body.getD .skip) (by kernel_rfl) (by kernel_rfl) (fun xs pins hp _ => ?_)
  unfold findIS at hp ⊢
  split at hp
  · rename_i v c xs f off _
    obtain ⟨hL, es, rfl⟩ := hp
    rw [List.length_map] at hL
    refine ⟨by simp, ?_⟩
    have hl : (es.map ent).length = es.length := by simp
    have hx : ∃ qs : List Ent, es.map ent = qs.map ent := ⟨es, rfl⟩
    have hle := hlv_le (isAbove es off) es.length 0 es.length (Nat.zero_le _)
    have hle : hlvI es off ≤ es.length := hle.2
    unfold Try.f36
    by_cases h0 : hlvI es off = 0
    · have hE : findE es off = ⟨0, 0, 0⟩ := if_pos h0
      have z0 : decide (((0 : Nat) : Int) = 0) = true := rfl
      simp -implicitDefEqProofs only [evT, implies_true, forall_const, Option.getD, later_normal, aop, aLen, ev, slot, setSlot, putSlot, cv, cvl, aConv, aBin, aInt, aUn, aFn, aEq, Out.and, isBool, isPtr, List.length, IntKind.bits, evs, evo, evps, aCall, aUser, coes, coe, List.append, List.replicate, callOut, rootsL, AV.roots, lendsL, AV.lends, pinsOf, nodup, lendL, lend, closedB, noimmB, AV.noimm, AV.ren, renL, back, Nat.reduceAdd, Nat.reduceSub, Nat.reduceMul, Int.reduceToNat, reduceCtorEq, aLoad, subv, aIndexAddr, aIndex, TD.aggr, guardSlot, aPick, byte, word, aMin, aMax, Ax.Ends, EndsX, Ax.rvals, rone, AV.ids, idsL, newIds, upTo, pinHeap, gOf, ↓reduceIte, List.isEmpty, Int.reducePow, Nat.reducePow, Int.reduceMod, Nat.reduceLeDiff, Int.reduceLE, Int.reduceNe, Int.reduceEq, aBuildSlice, fillB, aAppend, appendB, viewB, Ax.look, Ax.put, Ax.drop, List.drop, List.take, asv, aMake, aCopy, srcB, fillG, viewG, appendG, appendI, fillI, aSlice, bnd, bnds, full3, cut, aFieldAddr, aField, aStore, setB, aBox, aBuild, fillS, allTy, AV.leaves, AV.okv, AV.leaf, one, splice, elemLeaves, Blk.size, Blk.len, Option.isSome, Option.isNone, isBytes, aStr, aNil, aAlloc, aExtract, viewI, Nat.reduceEqDiff, Nat.reduceLT, Nat.reduceBEq, List.contains, List.elem, Blk.closed, closedL, AV.closed, Blk.noimm, ↓gsplit_tt, ↓gsplit_ff, ↓gsplit_tf, ↓gsplit_ft, ↓csplit_t, ↓csplit_f, Ax.idx, AV.lentIds, lentIdsL, dropAll, givenUp, AV.clean, cleanL, Blk.clean, cleanB, quietC, flatTy, coldStr, notMs, eqV, eqF, isStruct, -coe, coe_w, coe_str, coe_agg, coe_tup, coe_sb, coe_si, coe_cp, coe_ms, coe_rf, coe_fn, coe_cons, ty, Sfind12, halveS, hl, hL, hx, map_uent, h0, hE, z0, ent, fillS]
    · have d0 : decide ((hlvI es off : Int) = 0) = false := decide_eq_false (by omega)
      have d1 : decide (hlvI es off = 0) = false := decide_eq_false h0
      have e1 : ((hlvI es off : Int) - 1 + 9223372036854775808) % 18446744073709551616 - 9223372036854775808 = ((hlvI es off - 1 : Nat) : Int) := by omega
      have hs1 := slot_ent es (hlvI es off - 1) (by omega)
      have hE : findE es off = es[hlvI es off - 1]'(by omega) := by unfold findE; rw [if_neg h0]; simp [show hlvI es off - 1 < es.length by omega]
      obtain ⟨P, hP⟩ : ∃ P, es[hlvI es off - 1]'(by omega) = P := ⟨_, rfl⟩
      rw [hP] at hs1 hE
      simp only [ent] at hs1
      simp -implicitDefEqProofs only [evT, implies_true, forall_const, Option.getD, later_normal, aop, aLen, ev, slot, setSlot, putSlot, cv, cvl, aConv, aBin, aInt, aUn, aFn, aEq, Out.and, isBool, isPtr, List.length, IntKind.bits, evs, evo, evps, aCall, aUser, coes, coe, List.append, List.replicate, callOut, rootsL, AV.roots, lendsL, AV.lends, pinsOf, nodup, lendL, lend, closedB, noimmB, AV.noimm, AV.ren, renL, back, Nat.reduceAdd, Nat.reduceSub, Nat.reduceMul, Int.reduceToNat, reduceCtorEq, aLoad, subv, aIndexAddr, aIndex, TD.aggr, guardSlot, aPick, byte, word, aMin, aMax, Ax.Ends, EndsX, Ax.rvals, rone, AV.ids, idsL, newIds, upTo, pinHeap, gOf, ↓reduceIte, List.isEmpty, Int.reducePow, Nat.reducePow, Int.reduceMod, Nat.reduceLeDiff, Int.reduceLE, Int.reduceNe, Int.reduceEq, aBuildSlice, fillB, aAppend, appendB, viewB, Ax.look, Ax.put, Ax.drop, List.drop, List.take, asv, aMake, aCopy, srcB, fillG, viewG, appendG, appendI, fillI, aSlice, bnd, bnds, full3, cut, aFieldAddr, aField, aStore, setB, aBox, aBuild, fillS, allTy, AV.leaves, AV.okv, AV.leaf, one, splice, elemLeaves, Blk.size, Blk.len, Option.isSome, Option.isNone, isBytes, aStr, aNil, aAlloc, aExtract, viewI, Nat.reduceEqDiff, Nat.reduceLT, Nat.reduceBEq, List.contains, List.elem, Blk.closed, closedL, AV.closed, Blk.noimm, ↓gsplit_tt, ↓gsplit_ff, ↓gsplit_tf, ↓gsplit_ft, ↓csplit_t, ↓csplit_f, Ax.idx, AV.lentIds, lentIdsL, dropAll, givenUp, AV.clean, cleanL, Blk.clean, cleanB, quietC, flatTy, coldStr, notMs, eqV, eqF, isStruct, -coe, coe_w, coe_str, coe_agg, coe_tup, coe_sb, coe_si, coe_cp, coe_ms, coe_rf, coe_fn, coe_cons, ty, Sfind12, halveS, hl, hL, hx, map_uent, d0, d1, e1, hs1, hE, ent, fillS, Int.toNat_natCast]
      try omega
  · exact hp.elim
end
end Go.Proofs.Ytoagncogikogpaa
