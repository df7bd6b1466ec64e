/- Layer 33: the law of keys that stay. -/
import Derived.Test.YthodcljimjglcaaSh
namespace Go.Proofs.Ythodcljimjglcaa
open Ax
set_option linter.unusedSimpArgs false
set_option linter.unusedVariables false

def bkeepsS : FSpec
  | [.sg 1 xs f, .w (.int .u8 s), .w (.int .u8 e)], [] => ⟨(xs.length ≤ 9223372036854775807 ∧ ∃ ks : List (List UInt8), xs = ks.map AV.str) ∧ (0 ≤ s ∧ s < 256) ∧ 0 ≤ e ∧ e < 256, .w (.bool true), []⟩
  | _, _ => noRes
def Sbkeeps (f : FuncId) : Option FSpec :=
  match f with
  | 9 => some yesS
  | 19 => some newSetS
  | 12 => some addSetS
  | 23 => some fullS
  | 15 => some hasS
  | 21 => some joinS
  | _ => none
theorem Sbkeeps_ok : Fns Try.prog Sbkeeps := by
  intro f s h
  unfold Sbkeeps at h
  split at h
  · injection h with h; subst h; exact ⟨⟨_, Try.func9, by kernel_rfl, by kernel_rfl⟩, awake33_sound⟩
  · injection h with h; subst h; exact ⟨⟨_, Try.func19, by kernel_rfl, by kernel_rfl⟩, newSet_sound⟩
  · injection h with h; subst h; exact ⟨⟨_, Try.func12, by kernel_rfl, by kernel_rfl⟩, addSet_sound⟩
  · injection h with h; subst h; exact ⟨⟨_, Try.func23, by kernel_rfl, by kernel_rfl⟩, full_sound⟩
  · injection h with h; subst h; exact ⟨⟨_, Try.func15, by kernel_rfl, by kernel_rfl⟩, has_sound⟩
  · injection h with h; subst h; exact ⟨⟨_, Try.func21, by kernel_rfl, by kernel_rfl⟩, join_sound⟩
  · cases h
section
set_option maxRecDepth 100000
set_option maxHeartbeats 2000000 in
theorem bkeeps_law : Sound Try.prog 6 bkeepsS := by
  refine fn_sound (S := Sbkeeps) (T := ty) mixed ty_ok Sbkeeps_ok Try.func6 (c := Try.f6.body.getD .skip) (by kernel_rfl) (by kernel_rfl) (fun xs pins hp _ => ?_)
  unfold bkeepsS at hp ⊢
  split at hp
  · rename_i xs f s e _
    obtain ⟨⟨hL, ks, rfl⟩, ⟨hs1, hs2⟩, he1, he2⟩ := hp
    rw [List.length_map] at hL
    refine ⟨by simp, ?_⟩
    unfold Try.f6
    have hl : (ks.map AV.str).length = ks.length := by simp
    by_cases h1 : (30 : Int) < ks.length
    · have d1 : decide ((30 : Int) < ks.length) = true := decide_eq_true h1
      simp -implicitDefEqProofs only [evT, implies_true, forall_const, Option.getD, later_normal, aop, aLen, ev, slot, setSlot, putSlot, cv, cvl, aConv, aBin, aInt, aUn, aFn, aEq, Out.and, isBool, isPtr, List.length, IntKind.bits, evs, evo, evps, aCall, aUser, coes, coe, List.append, List.replicate, callOut, rootsL, AV.roots, lendsL, AV.lends, pinsOf, nodup, lendL, lend, closedB, noimmB, AV.noimm, AV.ren, renL, back, Nat.reduceAdd, Nat.reduceSub, Nat.reduceMul, Int.reduceToNat, reduceCtorEq, aLoad, subv, aIndexAddr, aIndex, TD.aggr, guardSlot, aPick, byte, word, aMin, aMax, Ax.Ends, EndsX, Ax.rvals, rone, AV.ids, idsL, newIds, upTo, pinHeap, gOf, ↓reduceIte, List.isEmpty, Int.reducePow, Nat.reducePow, Int.reduceMod, Nat.reduceLeDiff, Int.reduceLE, Int.reduceNe, Int.reduceEq, aBuildSlice, fillB, aAppend, appendB, viewB, Ax.look, Ax.put, Ax.drop, List.drop, List.take, asv, aMake, aCopy, srcB, fillG, viewG, appendG, appendI, fillI, aSlice, bnd, bnds, full3, cut, aFieldAddr, aField, aStore, setB, aBox, aBuild, fillS, allTy, AV.leaves, AV.okv, AV.leaf, one, splice, elemLeaves, Blk.size, Blk.len, Option.isSome, Option.isNone, isBytes, aStr, aNil, aAlloc, aExtract, viewI, Nat.reduceEqDiff, Nat.reduceLT, Nat.reduceBEq, List.contains, List.elem, Blk.closed, closedL, AV.closed, Blk.noimm, ↓gsplit_tt, ↓gsplit_ff, ↓gsplit_tf, ↓gsplit_ft, ↓csplit_t, ↓csplit_f, Ax.idx, AV.lentIds, lentIdsL, dropAll, givenUp, AV.clean, cleanL, Blk.clean, cleanB, quietC, flatTy, coldStr, notMs, eqV, eqF, isStruct, -coe, coe_w, coe_str, coe_agg, coe_tup, coe_sb, coe_si, coe_cp, coe_ms, coe_rf, coe_fn, coe_cons, ty, Sbkeeps, yesS, hl, d1]
    · have d1 : decide ((30 : Int) < ks.length) = false := decide_eq_false h1
      obtain ⟨L, hLd⟩ : ∃ L : Nat, L = (1 + s % 64).toNat := ⟨_, rfl⟩
      obtain ⟨E, hEd⟩ : ∃ E : Int, E = 1 + e % 16 := ⟨_, rfl⟩
      have eL : (1 + ((s.tmod 64 + 9223372036854775808) % 18446744073709551616 - 9223372036854775808) + 9223372036854775808) % 18446744073709551616 - 9223372036854775808 = (L : Int) := by
        rw [Int.tmod_eq_emod_of_nonneg hs1]; omega
      have eE : (1 + ((e.tmod 16 + 9223372036854775808) % 18446744073709551616 - 9223372036854775808) + 9223372036854775808) % 18446744073709551616 - 9223372036854775808 = E := by
        rw [Int.tmod_eq_emod_of_nonneg he1]; omega
      have hL1 : 1 ≤ L := by omega
      have hL2 : L ≤ 64 := by omega
      have ho : ∀ n : Int, 0 ≤ n → n ≤ 1099511627776 → okSet L E n := fun n a b => ⟨by omega, by omega, by omega, by omega, a, b⟩
      have n1 : newSE (L : Int) E = 0 := by unfold newSE; rw [if_pos (by omega), Int.toNat_natCast]; exact if_pos (ho 0 (by omega) (by omega))
      have n2 : newSB (L : Int) E = zerosL L := by unfold newSB; rw [if_pos n1, Int.toNat_natCast]; rfl
      have n3 : newSK (L : Int) E = E := by unfold newSK; rw [if_pos n1]
      simp -implicitDefEqProofs only [evT, implies_true, forall_const, Option.getD, later_normal, aop, aLen, ev, slot, setSlot, putSlot, cv, cvl, aConv, aBin, aInt, aUn, aFn, aEq, Out.and, isBool, isPtr, List.length, IntKind.bits, evs, evo, evps, aCall, aUser, coes, coe, List.append, List.replicate, callOut, rootsL, AV.roots, lendsL, AV.lends, pinsOf, nodup, lendL, lend, closedB, noimmB, AV.noimm, AV.ren, renL, back, Nat.reduceAdd, Nat.reduceSub, Nat.reduceMul, Int.reduceToNat, reduceCtorEq, aLoad, subv, aIndexAddr, aIndex, TD.aggr, guardSlot, aPick, byte, word, aMin, aMax, Ax.Ends, EndsX, Ax.rvals, rone, AV.ids, idsL, newIds, upTo, pinHeap, gOf, ↓reduceIte, List.isEmpty, Int.reducePow, Nat.reducePow, Int.reduceMod, Nat.reduceLeDiff, Int.reduceLE, Int.reduceNe, Int.reduceEq, aBuildSlice, fillB, aAppend, appendB, viewB, Ax.look, Ax.put, Ax.drop, List.drop, List.take, asv, aMake, aCopy, srcB, fillG, viewG, appendG, appendI, fillI, aSlice, bnd, bnds, full3, cut, aFieldAddr, aField, aStore, setB, aBox, aBuild, fillS, allTy, AV.leaves, AV.okv, AV.leaf, one, splice, elemLeaves, Blk.size, Blk.len, Option.isSome, Option.isNone, isBytes, aStr, aNil, aAlloc, aExtract, viewI, Nat.reduceEqDiff, Nat.reduceLT, Nat.reduceBEq, List.contains, List.elem, Blk.closed, closedL, AV.closed, Blk.noimm, ↓gsplit_tt, ↓gsplit_ff, ↓gsplit_tf, ↓gsplit_ft, ↓csplit_t, ↓csplit_f, Ax.idx, AV.lentIds, lentIdsL, dropAll, givenUp, AV.clean, cleanL, Blk.clean, cleanB, quietC, flatTy, coldStr, notMs, eqV, eqF, isStruct, -coe, coe_w, coe_str, coe_agg, coe_tup, coe_sb, coe_si, coe_cp, coe_ms, coe_rf, coe_fn, coe_cons, ty, Sbkeeps, newSetS, hl, d1, eL, eE, n1, n2, n3]
      have kz := kinv_zero ks (ho 0 (by omega) (by omega))
      have z0 : (!decide ((0 : Int) = 0)) = false := by decide
      refine awp_loop ⟨fun m σ => ∃ (i : Nat) (ob : List UInt8) (on : Int) (fl fo : Bool), m = ks.length - i ∧ i ≤ ks.length ∧ (∀ (j : Nat) (h : j < ks.length), j < i → ks[j].length ≤ 60) ∧ KInv E L ks i ob on ∧
          σ = ⟨[.sg 1 (ks.map AV.str) f, .w (.int .u8 s), .w (.int .u8 e), .junk, .junk, .junk, .w (.bool false), .rf 4 3 0 0, .w (.int .i64 0), .rf 5 3 0 0, .w (.int .i64 (sumP (foldK E L (zerosL L) (ks.take i)) L : Nat)), .w (.int .i64 i), .junk, .junk, .junk, .junk, .junk, .junk, .junk, .junk, .junk, .junk, .junk, .junk, .junk, .junk, .junk, .junk, .junk, .junk, .junk, .junk, .junk, .junk, .junk, .junk, .junk, .junk, .junk, .junk, .junk, .junk, .junk, .junk, .junk, .junk, .junk, .junk, .junk, .junk, .junk, .junk, .junk, .junk, .junk, .junk, .junk, .junk, .junk, .junk, .junk, .junk, .junk, .junk, .junk, .junk, .junk, .junk, .junk, .junk, .junk, .junk, .junk, .junk, .junk, .junk, .junk, .junk, .junk, .junk, .junk, .junk, .junk, .junk, .junk, .junk, .junk, .junk, .junk, .junk, .junk, .junk, .junk, .junk, .junk, .junk, .junk, .junk, .junk, .junk, .junk, .junk, .junk, .junk, .junk, .junk, .junk, .junk, .junk, .junk, .junk, .junk, .junk, .junk, .junk, .junk, .junk, .junk, .junk, .junk, .junk, .junk, .junk, .junk, .junk, .junk, .junk],
            [(4, .g 3 [.agg [.sb (foldK E L (zerosL L) (ks.take i)) fl, .w (.int .i64 E), .w (.int .i64 i)]]), (5, .g 3 [.agg [.sb ob fo, .w (.int .i64 E), .w (.int .i64 on)]])], 6⟩, ?_, ?_⟩
      · refine ⟨_, _, weak_ren [0, 1, 2, 3, 132, 164] rfl rfl rfl ?_ ?_, 0, zerosL L, 0, false, false, rfl, Nat.zero_le _, fun j _ h => by omega, kz, rfl⟩
        · simp only [SameS, SameH, setSlot, gOf, AV.ren, renL, Blk.ren, Ax.look, Ax.put, reduceCtorEq, true_or, false_or, or_true, or_false, and_true, true_and, AV.w.injEq, Value.int.injEq, Value.bool.injEq, AV.ms.injEq, AV.sb.injEq, AV.str.injEq, ↓reduceIte, Nat.reduceEqDiff, Nat.reduceLT, List.length_append, List.length_cons, List.length_nil, Nat.zero_add, Nat.add_zero, Option.some.injEq, Blk.b.injEq, Blk.i.injEq, Nat.succ_ne_zero, Nat.reduceAdd, and_self, sumP_zeros, foldK, List.take_zero, List.foldl_nil]; try simp; try rfl
        · simp only [SameS, SameH, setSlot, gOf, AV.ren, renL, Blk.ren, Ax.look, Ax.put, reduceCtorEq, true_or, false_or, or_true, or_false, and_true, true_and, AV.w.injEq, Value.int.injEq, Value.bool.injEq, AV.ms.injEq, AV.sb.injEq, AV.str.injEq, ↓reduceIte, Nat.reduceEqDiff, Nat.reduceLT, List.length_append, List.length_cons, List.length_nil, Nat.zero_add, Nat.add_zero, Option.some.injEq, Blk.b.injEq, Blk.i.injEq, Nat.succ_ne_zero, Nat.reduceAdd, and_self, foldK, List.take_zero, List.foldl_nil, n1, z0]; try simp; try rfl
      · rintro m σ ⟨i, ob, on, fl, fo, rfl, hi, h60s, hk, rfl⟩
        have lS : (foldK E L (zerosL L) (ks.take i)).length = L := by rw [foldK_len, zeros_len]
        by_cases hil : i < ks.length
        · have d2 : decide ((i : Int) < ks.length) = true := decide_eq_true (by omega)
          have e1 : ((i : Int) + 1 + 9223372036854775808) % 18446744073709551616 - 9223372036854775808 = ((i + 1 : Nat) : Int) := by omega
          have e2 : ((i : Int) + 1) = ((i + 1 : Nat) : Int) := by omega
          have hs := slot_str ks i hil
          have hst := sumP_step (e := E) hL1 ks i hil
          have lS' : (foldK E L (zerosL L) (ks.take (i + 1))).length = L := by rw [foldK_len, zeros_len]
          have hsn : addB (foldK E L (zerosL L) (ks.take i)) E i ks[i] = foldK E L (zerosL L) (ks.take (i + 1)) := by
            rw [addB_ok _ (by rw [lS]; exact ho i (by omega) (by omega)), lS, foldK_snoc _ _ _ _ _ hil]
          have hN := addN_small (ho i (by omega) (by omega)) (by omega)
          have ke := kinv_even hL1 hil hk
          have lo := hk.len
          obtain ⟨K, hK⟩ : ∃ K, ks[i] = K := ⟨_, rfl⟩
          rw [hK] at hs hsn ke
          by_cases h60 : (60 : Int) < K.length
          · have d3 : decide ((60 : Int) < K.length) = true := decide_eq_true h60
            simp -implicitDefEqProofs only [evT, implies_true, forall_const, Option.getD, later_normal, aop, aLen, ev, slot, setSlot, putSlot, cv, cvl, aConv, aBin, aInt, aUn, aFn, aEq, Out.and, isBool, isPtr, List.length, IntKind.bits, evs, evo, evps, aCall, aUser, coes, coe, List.append, List.replicate, callOut, rootsL, AV.roots, lendsL, AV.lends, pinsOf, nodup, lendL, lend, closedB, noimmB, AV.noimm, AV.ren, renL, back, Nat.reduceAdd, Nat.reduceSub, Nat.reduceMul, Int.reduceToNat, reduceCtorEq, aLoad, subv, aIndexAddr, aIndex, TD.aggr, guardSlot, aPick, byte, word, aMin, aMax, Ax.Ends, EndsX, Ax.rvals, rone, AV.ids, idsL, newIds, upTo, pinHeap, gOf, ↓reduceIte, List.isEmpty, Int.reducePow, Nat.reducePow, Int.reduceMod, Nat.reduceLeDiff, Int.reduceLE, Int.reduceNe, Int.reduceEq, aBuildSlice, fillB, aAppend, appendB, viewB, Ax.look, Ax.put, Ax.drop, List.drop, List.take, asv, aMake, aCopy, srcB, fillG, viewG, appendG, appendI, fillI, aSlice, bnd, bnds, full3, cut, aFieldAddr, aField, aStore, setB, aBox, aBuild, fillS, allTy, AV.leaves, AV.okv, AV.leaf, one, splice, elemLeaves, Blk.size, Blk.len, Option.isSome, Option.isNone, isBytes, aStr, aNil, aAlloc, aExtract, viewI, Nat.reduceEqDiff, Nat.reduceLT, Nat.reduceBEq, List.contains, List.elem, Blk.closed, closedL, AV.closed, Blk.noimm, ↓gsplit_tt, ↓gsplit_ff, ↓gsplit_tf, ↓gsplit_ft, ↓csplit_t, ↓csplit_f, Ax.idx, AV.lentIds, lentIdsL, dropAll, givenUp, AV.clean, cleanL, Blk.clean, cleanB, quietC, flatTy, coldStr, notMs, eqV, eqF, isStruct, -coe, coe_w, coe_str, coe_agg, coe_tup, coe_sb, coe_si, coe_cp, coe_ms, coe_rf, coe_fn, coe_cons, ty, Sbkeeps, yesS, hl, d2, d3, hs, Int.toNat_natCast]
            omega
          · have d3 : decide ((60 : Int) < K.length) = false := decide_eq_false h60
            have d4 : decide ((sumP (foldK E L (zerosL L) (ks.take (i + 1))) L : Int) < (sumP (foldK E L (zerosL L) (ks.take i)) L : Int)) = false := decide_eq_false (by omega)
            have dI : ∀ x : Int, decide (x = x) = true := fun x => decide_eq_true rfl
            have q1 : K.length ≤ 1000000 := by omega
            have h60n : ∀ (j : Nat) (h : j < ks.length), j < i + 1 → ks[j].length ≤ 60 := fun j h hj => by
              by_cases hji : j = i
              · subst hji; rw [hK]; omega
              · exact h60s j h (by omega)
            have q2 : L ≤ 1000000 := by omega
            by_cases hpar : i % 2 = 0
            · have d5 : decide (((i : Int)).tmod 2 = 0) = true := decide_eq_true (by rw [Int.tmod_eq_emod_of_nonneg (by omega)]; omega)
              simp -implicitDefEqProofs only [evT, implies_true, forall_const, Option.getD, later_normal, aop, aLen, ev, slot, setSlot, putSlot, cv, cvl, aConv, aBin, aInt, aUn, aFn, aEq, Out.and, isBool, isPtr, List.length, IntKind.bits, evs, evo, evps, aCall, aUser, coes, coe, List.append, List.replicate, callOut, rootsL, AV.roots, lendsL, AV.lends, pinsOf, nodup, lendL, lend, closedB, noimmB, AV.noimm, AV.ren, renL, back, Nat.reduceAdd, Nat.reduceSub, Nat.reduceMul, Int.reduceToNat, reduceCtorEq, aLoad, subv, aIndexAddr, aIndex, TD.aggr, guardSlot, aPick, byte, word, aMin, aMax, Ax.Ends, EndsX, Ax.rvals, rone, AV.ids, idsL, newIds, upTo, pinHeap, gOf, ↓reduceIte, List.isEmpty, Int.reducePow, Nat.reducePow, Int.reduceMod, Nat.reduceLeDiff, Int.reduceLE, Int.reduceNe, Int.reduceEq, aBuildSlice, fillB, aAppend, appendB, viewB, Ax.look, Ax.put, Ax.drop, List.drop, List.take, asv, aMake, aCopy, srcB, fillG, viewG, appendG, appendI, fillI, aSlice, bnd, bnds, full3, cut, aFieldAddr, aField, aStore, setB, aBox, aBuild, fillS, allTy, AV.leaves, AV.okv, AV.leaf, one, splice, elemLeaves, Blk.size, Blk.len, Option.isSome, Option.isNone, isBytes, aStr, aNil, aAlloc, aExtract, viewI, Nat.reduceEqDiff, Nat.reduceLT, Nat.reduceBEq, List.contains, List.elem, Blk.closed, closedL, AV.closed, Blk.noimm, ↓gsplit_tt, ↓gsplit_ff, ↓gsplit_tf, ↓gsplit_ft, ↓csplit_t, ↓csplit_f, Ax.idx, AV.lentIds, lentIdsL, dropAll, givenUp, AV.clean, cleanL, Blk.clean, cleanB, quietC, flatTy, coldStr, notMs, eqV, eqF, isStruct, -coe, coe_w, coe_str, coe_agg, coe_tup, coe_sb, coe_si, coe_cp, coe_ms, coe_rf, coe_fn, coe_cons, ty, Sbkeeps, addSetS, fullS, hl, d2, d3, d4, d5, e1, hs, hsn, hN, lS, lS', lo, dI, q1, q2, Int.toNat_natCast]
              repeat (refine And.intro (by omega) ?_)
              refine ⟨ks.length - (i + 1), _, by omega, weak_ren [0, 1, 2, 3, 4, 5] rfl rfl rfl ?_ ?_, i + 1, addB ob E on K, addN L E on, empB (foldK E L (zerosL L) (ks.take i)), empB ob, rfl, by omega, h60n, ke, rfl⟩
              · simp only [SameS, SameH, setSlot, gOf, AV.ren, renL, Blk.ren, Ax.look, Ax.put, reduceCtorEq, true_or, false_or, or_true, or_false, and_true, true_and, AV.w.injEq, Value.int.injEq, Value.bool.injEq, AV.ms.injEq, AV.sb.injEq, AV.str.injEq, ↓reduceIte, Nat.reduceEqDiff, Nat.reduceLT, List.length_append, List.length_cons, List.length_nil, Nat.zero_add, Nat.add_zero, Option.some.injEq, Blk.b.injEq, Blk.i.injEq, Nat.succ_ne_zero, Nat.reduceAdd, and_self]
              · simp only [SameS, SameH, setSlot, gOf, AV.ren, renL, Blk.ren, Ax.look, Ax.put, reduceCtorEq, true_or, false_or, or_true, or_false, and_true, true_and, AV.w.injEq, Value.int.injEq, Value.bool.injEq, AV.ms.injEq, AV.sb.injEq, AV.str.injEq, ↓reduceIte, Nat.reduceEqDiff, Nat.reduceLT, List.length_append, List.length_cons, List.length_nil, Nat.zero_add, Nat.add_zero, Option.some.injEq, Blk.b.injEq, Blk.i.injEq, Nat.succ_ne_zero, Nat.reduceAdd, and_self]
            · have d5 : decide (((i : Int)).tmod 2 = 0) = false := decide_eq_false (by rw [Int.tmod_eq_emod_of_nonneg (by omega)]; omega)
              simp -implicitDefEqProofs only [evT, implies_true, forall_const, Option.getD, later_normal, aop, aLen, ev, slot, setSlot, putSlot, cv, cvl, aConv, aBin, aInt, aUn, aFn, aEq, Out.and, isBool, isPtr, List.length, IntKind.bits, evs, evo, evps, aCall, aUser, coes, coe, List.append, List.replicate, callOut, rootsL, AV.roots, lendsL, AV.lends, pinsOf, nodup, lendL, lend, closedB, noimmB, AV.noimm, AV.ren, renL, back, Nat.reduceAdd, Nat.reduceSub, Nat.reduceMul, Int.reduceToNat, reduceCtorEq, aLoad, subv, aIndexAddr, aIndex, TD.aggr, guardSlot, aPick, byte, word, aMin, aMax, Ax.Ends, EndsX, Ax.rvals, rone, AV.ids, idsL, newIds, upTo, pinHeap, gOf, ↓reduceIte, List.isEmpty, Int.reducePow, Nat.reducePow, Int.reduceMod, Nat.reduceLeDiff, Int.reduceLE, Int.reduceNe, Int.reduceEq, aBuildSlice, fillB, aAppend, appendB, viewB, Ax.look, Ax.put, Ax.drop, List.drop, List.take, asv, aMake, aCopy, srcB, fillG, viewG, appendG, appendI, fillI, aSlice, bnd, bnds, full3, cut, aFieldAddr, aField, aStore, setB, aBox, aBuild, fillS, allTy, AV.leaves, AV.okv, AV.leaf, one, splice, elemLeaves, Blk.size, Blk.len, Option.isSome, Option.isNone, isBytes, aStr, aNil, aAlloc, aExtract, viewI, Nat.reduceEqDiff, Nat.reduceLT, Nat.reduceBEq, List.contains, List.elem, Blk.closed, closedL, AV.closed, Blk.noimm, ↓gsplit_tt, ↓gsplit_ff, ↓gsplit_tf, ↓gsplit_ft, ↓csplit_t, ↓csplit_f, Ax.idx, AV.lentIds, lentIdsL, dropAll, givenUp, AV.clean, cleanL, Blk.clean, cleanB, quietC, flatTy, coldStr, notMs, eqV, eqF, isStruct, -coe, coe_w, coe_str, coe_agg, coe_tup, coe_sb, coe_si, coe_cp, coe_ms, coe_rf, coe_fn, coe_cons, ty, Sbkeeps, addSetS, fullS, hl, d2, d3, d4, d5, e1, hs, hsn, hN, lS, lS', lo, dI, q1, q2, Int.toNat_natCast]
              repeat (refine And.intro (by omega) ?_)
              refine ⟨ks.length - (i + 1), _, by omega, weak_ren [0, 1, 2, 3, 4, 5] rfl rfl rfl ?_ ?_, i + 1, ob, on, empB (foldK E L (zerosL L) (ks.take i)), fo, rfl, by omega, h60n, kinv_odd hL1 hil hpar hk, rfl⟩
              · simp only [SameS, SameH, setSlot, gOf, AV.ren, renL, Blk.ren, Ax.look, Ax.put, reduceCtorEq, true_or, false_or, or_true, or_false, and_true, true_and, AV.w.injEq, Value.int.injEq, Value.bool.injEq, AV.ms.injEq, AV.sb.injEq, AV.str.injEq, ↓reduceIte, Nat.reduceEqDiff, Nat.reduceLT, List.length_append, List.length_cons, List.length_nil, Nat.zero_add, Nat.add_zero, Option.some.injEq, Blk.b.injEq, Blk.i.injEq, Nat.succ_ne_zero, Nat.reduceAdd, and_self]
              · simp only [SameS, SameH, setSlot, gOf, AV.ren, renL, Blk.ren, Ax.look, Ax.put, reduceCtorEq, true_or, false_or, or_true, or_false, and_true, true_and, AV.w.injEq, Value.int.injEq, Value.bool.injEq, AV.ms.injEq, AV.sb.injEq, AV.str.injEq, ↓reduceIte, Nat.reduceEqDiff, Nat.reduceLT, List.length_append, List.length_cons, List.length_nil, Nat.zero_add, Nat.add_zero, Option.some.injEq, Blk.b.injEq, Blk.i.injEq, Nat.succ_ne_zero, Nat.reduceAdd, and_self]
        · have d2 : decide ((i : Int) < ks.length) = false := decide_eq_false (by omega)
          have hie : i = ks.length := by omega
          subst hie
          have htk : ks.take ks.length = ks := List.take_length
          rw [htk] at lS ⊢
          obtain ⟨lo, oo, hsub, hhas⟩ := hk
          rw [htk] at hsub
          have oS := ho ks.length (by omega) (by omega)
          obtain ⟨B, hB⟩ : ∃ B, foldK E L (zerosL L) ks = B := ⟨_, rfl⟩
          have hkB : ∀ k ∈ ks, hasPs B (kp E L k) = true := fun k hk => by rw [← hB]; exact has_keys hL1 (zeros_len L) ks k hk
          rw [hB] at hsub lS ⊢
          have jj := (join_sub (a := B) (b := ob) (by rw [lS, lo]) (by rw [lS]; exact hsub)).2
          have jE : joinE ob E on B E ks.length = 0 := by unfold joinE; rw [lo, lS, if_neg (fun h => h oo), if_neg (fun h => h oS), if_neg (by omega)]
          have jV : joinV ob E on B E ks.length = .agg [.sb B false, .w (.int .i64 E), .w (.int .i64 (min (on + ks.length) 1099511627776))] := by
            unfold joinV; rw [if_pos jE, jj]
          have oJ : okSet L E (min (on + ks.length) 1099511627776) := by
            obtain ⟨_, _, _, _, _, _⟩ := oo
            exact ho _ (by omega) (by omega)
          obtain ⟨J, hJ⟩ : ∃ J, min (on + ks.length) 1099511627776 = J := ⟨_, rfl⟩
          rw [hJ] at jV oJ
          have q2 : L ≤ 1000000 := by omega
          have dI : ∀ x : Int, decide (x = x) = true := fun x => decide_eq_true rfl
          have z3 : decide ((0 : Int) = 0) = true := rfl
          simp -implicitDefEqProofs only [evT, implies_true, forall_const, Option.getD, later_normal, aop, aLen, ev, slot, setSlot, putSlot, cv, cvl, aConv, aBin, aInt, aUn, aFn, aEq, Out.and, isBool, isPtr, List.length, IntKind.bits, evs, evo, evps, aCall, aUser, coes, coe, List.append, List.replicate, callOut, rootsL, AV.roots, lendsL, AV.lends, pinsOf, nodup, lendL, lend, closedB, noimmB, AV.noimm, AV.ren, renL, back, Nat.reduceAdd, Nat.reduceSub, Nat.reduceMul, Int.reduceToNat, reduceCtorEq, aLoad, subv, aIndexAddr, aIndex, TD.aggr, guardSlot, aPick, byte, word, aMin, aMax, Ax.Ends, EndsX, Ax.rvals, rone, AV.ids, idsL, newIds, upTo, pinHeap, gOf, ↓reduceIte, List.isEmpty, Int.reducePow, Nat.reducePow, Int.reduceMod, Nat.reduceLeDiff, Int.reduceLE, Int.reduceNe, Int.reduceEq, aBuildSlice, fillB, aAppend, appendB, viewB, Ax.look, Ax.put, Ax.drop, List.drop, List.take, asv, aMake, aCopy, srcB, fillG, viewG, appendG, appendI, fillI, aSlice, bnd, bnds, full3, cut, aFieldAddr, aField, aStore, setB, aBox, aBuild, fillS, allTy, AV.leaves, AV.okv, AV.leaf, one, splice, elemLeaves, Blk.size, Blk.len, Option.isSome, Option.isNone, isBytes, aStr, aNil, aAlloc, aExtract, viewI, Nat.reduceEqDiff, Nat.reduceLT, Nat.reduceBEq, List.contains, List.elem, Blk.closed, closedL, AV.closed, Blk.noimm, ↓gsplit_tt, ↓gsplit_ff, ↓gsplit_tf, ↓gsplit_ft, ↓csplit_t, ↓csplit_f, Ax.idx, AV.lentIds, lentIdsL, dropAll, givenUp, AV.clean, cleanL, Blk.clean, cleanB, quietC, flatTy, coldStr, notMs, eqV, eqF, isStruct, -coe, coe_w, coe_str, coe_agg, coe_tup, coe_sb, coe_si, coe_cp, coe_ms, coe_rf, coe_fn, coe_cons, ty, Sbkeeps, joinS, fullS, jE, jV, hl, d2, lS, lo, dI, q2, Int.toNat_natCast]
          refine awp_loop ⟨fun m σ => ∃ (i : Nat), m = ks.length - i ∧ i ≤ ks.length ∧
            σ = ⟨[.sg 1 (ks.map AV.str) f, .w (.int .u8 s), .w (.int .u8 e), .junk, .junk, .junk, .w (.bool false), .rf 4 3 0 0, .w (.int .i64 0), .rf 5 3 0 0, .w (.int .i64 (sumP B L : Nat)), .junk, .junk, .rf 6 3 0 0, .junk, .w (.int .i64 i), .junk, .junk, .junk, .junk, .junk, .junk, .junk, .junk, .junk, .junk, .junk, .junk, .junk, .junk, .junk, .junk, .junk, .junk, .junk, .junk, .junk, .junk, .junk, .junk, .junk, .junk, .junk, .junk, .junk, .junk, .junk, .junk, .junk, .junk, .junk, .junk, .junk, .junk, .junk, .junk, .junk, .junk, .junk, .junk, .junk, .junk, .junk, .junk, .junk, .junk, .junk, .junk, .junk, .junk, .junk, .junk, .junk, .junk, .junk, .junk, .junk, .junk, .junk, .junk, .junk, .junk, .junk, .junk, .junk, .junk, .junk, .junk, .junk, .junk, .junk, .junk, .junk, .junk, .junk, .junk, .junk, .junk, .junk, .junk, .junk, .junk, .junk, .junk, .junk, .junk, .junk, .junk, .junk, .junk, .junk, .junk, .junk, .junk, .junk, .junk, .junk, .junk, .junk, .junk, .junk, .junk, .junk, .junk, .junk, .junk, .junk],
              [(4, .g 3 [.agg [.sb B fl, .w (.int .i64 E), .w (.int .i64 ks.length)]]), (5, .g 3 [.agg [.sb ob fo, .w (.int .i64 E), .w (.int .i64 on)]]), (6, .g 3 [.agg [.sb B false, .w (.int .i64 E), .w (.int .i64 J)]])], 7⟩, ?_, ?_⟩
          · refine ⟨_, _, weak_ren [0, 1, 2, 3, 4, 5, 86] rfl rfl rfl ?_ ?_, 0, rfl, by omega, rfl⟩
            · simp only [SameS, SameH, setSlot, gOf, AV.ren, renL, Blk.ren, Ax.look, Ax.put, reduceCtorEq, true_or, false_or, or_true, or_false, and_true, true_and, AV.w.injEq, Value.int.injEq, Value.bool.injEq, AV.ms.injEq, AV.sb.injEq, AV.str.injEq, ↓reduceIte, Nat.reduceEqDiff, Nat.reduceLT, List.length_append, List.length_cons, List.length_nil, Nat.zero_add, Nat.add_zero, Option.some.injEq, Blk.b.injEq, Blk.i.injEq, Nat.succ_ne_zero, Nat.reduceAdd, and_self]; try simp; try rfl
            · simp only [SameS, SameH, setSlot, gOf, AV.ren, renL, Blk.ren, Ax.look, Ax.put, reduceCtorEq, true_or, false_or, or_true, or_false, and_true, true_and, AV.w.injEq, Value.int.injEq, Value.bool.injEq, AV.ms.injEq, AV.sb.injEq, AV.str.injEq, ↓reduceIte, Nat.reduceEqDiff, Nat.reduceLT, List.length_append, List.length_cons, List.length_nil, Nat.zero_add, Nat.add_zero, Option.some.injEq, Blk.b.injEq, Blk.i.injEq, Nat.succ_ne_zero, Nat.reduceAdd, and_self]
          · rintro m σ ⟨i, rfl, hi, rfl⟩
            by_cases hil : i < ks.length
            · have d2 : decide ((i : Int) < ks.length) = true := decide_eq_true (by omega)
              have e1 : ((i : Int) + 1 + 9223372036854775808) % 18446744073709551616 - 9223372036854775808 = ((i + 1 : Nat) : Int) := by omega
              have hs := slot_str ks i hil
              have hk1 := hkB ks[i] (List.getElem_mem _)
              have p1 : places B E ks.length ks[i] = kp E L ks[i] := by rw [places_ok _ (by rw [lS]; exact oS), lS]
              have p2 : places B E J ks[i] = kp E L ks[i] := by rw [places_ok _ (by rw [lS]; exact oJ), lS]
              have p3 : places ob E on ks[i] = kp E L ks[i] := by rw [places_ok _ (by rw [lo]; exact oo), lo]
              have hk3 := hhas i hil hil
              have hKl := h60s i hil hil
              obtain ⟨K, hK⟩ : ∃ K, ks[i] = K := ⟨_, rfl⟩
              rw [hK] at hs hk1 p1 p2 p3 hk3 hKl
              replace hKl : K.length ≤ 1000000 := by omega
              have w1 : decide (okSet L E ks.length) = true := decide_eq_true oS
              have w2 : decide (okSet L E J) = true := decide_eq_true oJ
              have w3 : decide (okSet L E on) = true := decide_eq_true oo
              by_cases hpar : i % 2 = 0
              · have d5 : decide (((i : Int)).tmod 2 = 0) = true := decide_eq_true (by rw [Int.tmod_eq_emod_of_nonneg (by omega)]; omega)
                have hk4 := hk3 hpar
                simp -implicitDefEqProofs only [evT, implies_true, forall_const, Option.getD, later_normal, aop, aLen, ev, slot, setSlot, putSlot, cv, cvl, aConv, aBin, aInt, aUn, aFn, aEq, Out.and, isBool, isPtr, List.length, IntKind.bits, evs, evo, evps, aCall, aUser, coes, coe, List.append, List.replicate, callOut, rootsL, AV.roots, lendsL, AV.lends, pinsOf, nodup, lendL, lend, closedB, noimmB, AV.noimm, AV.ren, renL, back, Nat.reduceAdd, Nat.reduceSub, Nat.reduceMul, Int.reduceToNat, reduceCtorEq, aLoad, subv, aIndexAddr, aIndex, TD.aggr, guardSlot, aPick, byte, word, aMin, aMax, Ax.Ends, EndsX, Ax.rvals, rone, AV.ids, idsL, newIds, upTo, pinHeap, gOf, ↓reduceIte, List.isEmpty, Int.reducePow, Nat.reducePow, Int.reduceMod, Nat.reduceLeDiff, Int.reduceLE, Int.reduceNe, Int.reduceEq, aBuildSlice, fillB, aAppend, appendB, viewB, Ax.look, Ax.put, Ax.drop, List.drop, List.take, asv, aMake, aCopy, srcB, fillG, viewG, appendG, appendI, fillI, aSlice, bnd, bnds, full3, cut, aFieldAddr, aField, aStore, setB, aBox, aBuild, fillS, allTy, AV.leaves, AV.okv, AV.leaf, one, splice, elemLeaves, Blk.size, Blk.len, Option.isSome, Option.isNone, isBytes, aStr, aNil, aAlloc, aExtract, viewI, Nat.reduceEqDiff, Nat.reduceLT, Nat.reduceBEq, List.contains, List.elem, Blk.closed, closedL, AV.closed, Blk.noimm, ↓gsplit_tt, ↓gsplit_ff, ↓gsplit_tf, ↓gsplit_ft, ↓csplit_t, ↓csplit_f, Ax.idx, AV.lentIds, lentIdsL, dropAll, givenUp, AV.clean, cleanL, Blk.clean, cleanB, quietC, flatTy, coldStr, notMs, eqV, eqF, isStruct, -coe, coe_w, coe_str, coe_agg, coe_tup, coe_sb, coe_si, coe_cp, coe_ms, coe_rf, coe_fn, coe_cons, ty, Sbkeeps, hasS, hl, d2, d5, e1, hs, hk1, hk4, p1, p2, p3, w1, w2, w3, hKl, lS, lo, q2, Int.toNat_natCast]
                repeat (refine And.intro (by omega) ?_)
                refine ⟨ks.length - (i + 1), _, by omega, weak_ren [0, 1, 2, 3, 4, 5, 6] rfl rfl rfl ?_ ?_, i + 1, rfl, by omega, rfl⟩
                · simp only [SameS, SameH, setSlot, gOf, AV.ren, renL, Blk.ren, Ax.look, Ax.put, reduceCtorEq, true_or, false_or, or_true, or_false, and_true, true_and, AV.w.injEq, Value.int.injEq, Value.bool.injEq, AV.ms.injEq, AV.sb.injEq, AV.str.injEq, ↓reduceIte, Nat.reduceEqDiff, Nat.reduceLT, List.length_append, List.length_cons, List.length_nil, Nat.zero_add, Nat.add_zero, Option.some.injEq, Blk.b.injEq, Blk.i.injEq, Nat.succ_ne_zero, Nat.reduceAdd, and_self]
                · simp only [SameS, SameH, setSlot, gOf, AV.ren, renL, Blk.ren, Ax.look, Ax.put, reduceCtorEq, true_or, false_or, or_true, or_false, and_true, true_and, AV.w.injEq, Value.int.injEq, Value.bool.injEq, AV.ms.injEq, AV.sb.injEq, AV.str.injEq, ↓reduceIte, Nat.reduceEqDiff, Nat.reduceLT, List.length_append, List.length_cons, List.length_nil, Nat.zero_add, Nat.add_zero, Option.some.injEq, Blk.b.injEq, Blk.i.injEq, Nat.succ_ne_zero, Nat.reduceAdd, and_self]
              · have d5 : decide (((i : Int)).tmod 2 = 0) = false := decide_eq_false (by rw [Int.tmod_eq_emod_of_nonneg (by omega)]; omega)
                simp -implicitDefEqProofs only [evT, implies_true, forall_const, Option.getD, later_normal, aop, aLen, ev, slot, setSlot, putSlot, cv, cvl, aConv, aBin, aInt, aUn, aFn, aEq, Out.and, isBool, isPtr, List.length, IntKind.bits, evs, evo, evps, aCall, aUser, coes, coe, List.append, List.replicate, callOut, rootsL, AV.roots, lendsL, AV.lends, pinsOf, nodup, lendL, lend, closedB, noimmB, AV.noimm, AV.ren, renL, back, Nat.reduceAdd, Nat.reduceSub, Nat.reduceMul, Int.reduceToNat, reduceCtorEq, aLoad, subv, aIndexAddr, aIndex, TD.aggr, guardSlot, aPick, byte, word, aMin, aMax, Ax.Ends, EndsX, Ax.rvals, rone, AV.ids, idsL, newIds, upTo, pinHeap, gOf, ↓reduceIte, List.isEmpty, Int.reducePow, Nat.reducePow, Int.reduceMod, Nat.reduceLeDiff, Int.reduceLE, Int.reduceNe, Int.reduceEq, aBuildSlice, fillB, aAppend, appendB, viewB, Ax.look, Ax.put, Ax.drop, List.drop, List.take, asv, aMake, aCopy, srcB, fillG, viewG, appendG, appendI, fillI, aSlice, bnd, bnds, full3, cut, aFieldAddr, aField, aStore, setB, aBox, aBuild, fillS, allTy, AV.leaves, AV.okv, AV.leaf, one, splice, elemLeaves, Blk.size, Blk.len, Option.isSome, Option.isNone, isBytes, aStr, aNil, aAlloc, aExtract, viewI, Nat.reduceEqDiff, Nat.reduceLT, Nat.reduceBEq, List.contains, List.elem, Blk.closed, closedL, AV.closed, Blk.noimm, ↓gsplit_tt, ↓gsplit_ff, ↓gsplit_tf, ↓gsplit_ft, ↓csplit_t, ↓csplit_f, Ax.idx, AV.lentIds, lentIdsL, dropAll, givenUp, AV.clean, cleanL, Blk.clean, cleanB, quietC, flatTy, coldStr, notMs, eqV, eqF, isStruct, -coe, coe_w, coe_str, coe_agg, coe_tup, coe_sb, coe_si, coe_cp, coe_ms, coe_rf, coe_fn, coe_cons, ty, Sbkeeps, hasS, hl, d2, d5, e1, hs, hk1, p1, p2, p3, w1, w2, w3, hKl, lS, lo, q2, Int.toNat_natCast]
                repeat (refine And.intro (by omega) ?_)
                refine ⟨ks.length - (i + 1), _, by omega, weak_ren [0, 1, 2, 3, 4, 5, 6] rfl rfl rfl ?_ ?_, i + 1, rfl, by omega, rfl⟩
                · simp only [SameS, SameH, setSlot, gOf, AV.ren, renL, Blk.ren, Ax.look, Ax.put, reduceCtorEq, true_or, false_or, or_true, or_false, and_true, true_and, AV.w.injEq, Value.int.injEq, Value.bool.injEq, AV.ms.injEq, AV.sb.injEq, AV.str.injEq, ↓reduceIte, Nat.reduceEqDiff, Nat.reduceLT, List.length_append, List.length_cons, List.length_nil, Nat.zero_add, Nat.add_zero, Option.some.injEq, Blk.b.injEq, Blk.i.injEq, Nat.succ_ne_zero, Nat.reduceAdd, and_self]
                · simp only [SameS, SameH, setSlot, gOf, AV.ren, renL, Blk.ren, Ax.look, Ax.put, reduceCtorEq, true_or, false_or, or_true, or_false, and_true, true_and, AV.w.injEq, Value.int.injEq, Value.bool.injEq, AV.ms.injEq, AV.sb.injEq, AV.str.injEq, ↓reduceIte, Nat.reduceEqDiff, Nat.reduceLT, List.length_append, List.length_cons, List.length_nil, Nat.zero_add, Nat.add_zero, Option.some.injEq, Blk.b.injEq, Blk.i.injEq, Nat.succ_ne_zero, Nat.reduceAdd, and_self]
            · have d2 : decide ((i : Int) < ks.length) = false := decide_eq_false (by omega)
              simp -implicitDefEqProofs only [evT, implies_true, forall_const, Option.getD, later_normal, aop, aLen, ev, slot, setSlot, putSlot, cv, cvl, aConv, aBin, aInt, aUn, aFn, aEq, Out.and, isBool, isPtr, List.length, IntKind.bits, evs, evo, evps, aCall, aUser, coes, coe, List.append, List.replicate, callOut, rootsL, AV.roots, lendsL, AV.lends, pinsOf, nodup, lendL, lend, closedB, noimmB, AV.noimm, AV.ren, renL, back, Nat.reduceAdd, Nat.reduceSub, Nat.reduceMul, Int.reduceToNat, reduceCtorEq, aLoad, subv, aIndexAddr, aIndex, TD.aggr, guardSlot, aPick, byte, word, aMin, aMax, Ax.Ends, EndsX, Ax.rvals, rone, AV.ids, idsL, newIds, upTo, pinHeap, gOf, ↓reduceIte, List.isEmpty, Int.reducePow, Nat.reducePow, Int.reduceMod, Nat.reduceLeDiff, Int.reduceLE, Int.reduceNe, Int.reduceEq, aBuildSlice, fillB, aAppend, appendB, viewB, Ax.look, Ax.put, Ax.drop, List.drop, List.take, asv, aMake, aCopy, srcB, fillG, viewG, appendG, appendI, fillI, aSlice, bnd, bnds, full3, cut, aFieldAddr, aField, aStore, setB, aBox, aBuild, fillS, allTy, AV.leaves, AV.okv, AV.leaf, one, splice, elemLeaves, Blk.size, Blk.len, Option.isSome, Option.isNone, isBytes, aStr, aNil, aAlloc, aExtract, viewI, Nat.reduceEqDiff, Nat.reduceLT, Nat.reduceBEq, List.contains, List.elem, Blk.closed, closedL, AV.closed, Blk.noimm, ↓gsplit_tt, ↓gsplit_ff, ↓gsplit_tf, ↓gsplit_ft, ↓csplit_t, ↓csplit_f, Ax.idx, AV.lentIds, lentIdsL, dropAll, givenUp, AV.clean, cleanL, Blk.clean, cleanB, quietC, flatTy, coldStr, notMs, eqV, eqF, isStruct, -coe, coe_w, coe_str, coe_agg, coe_tup, coe_sb, coe_si, coe_cp, coe_ms, coe_rf, coe_fn, coe_cons, ty, Sbkeeps, yesS, hl, d2]
  · exact hp.elim
end
theorem arg_u8 {x : AV} (h : Arg ty 6 5 x) : ∃ n, x = .w (.int .u8 n) ∧ 0 ≤ n ∧ n < 256 := by
  obtain ⟨i, ls, hi, hs, rfl⟩ := h
  simp only [ty] at hi
  injection hi with hi
  subst hi
  simp only [Shape, ty, ShapeF] at hs
  obtain ⟨m, rfl, w⟩ := hs
  exact ⟨m, rfl, wf_u8 w⟩
theorem bkeeps_dom {x y z : AV} (hx : Arg ty 6 55 x) (hy : Arg ty 6 5 y) (hz : Arg ty 6 5 z) : (bkeepsS [x, y, z] []).p ∧ (bkeepsS [x, y, z] []).x = .w (.bool true) := by
  obtain ⟨ks, f, rfl, h⟩ := arg_strs hx
  obtain ⟨n, rfl, h1⟩ := arg_u8 hy
  obtain ⟨m, rfl, h2⟩ := arg_u8 hz
  exact ⟨⟨⟨by rw [List.length_map]; exact h, ks, rfl⟩, h1, h2⟩, rfl⟩
end Go.Proofs.Ythodcljimjglcaa
