/- Layer 32: the document's way to make bytes shorter. -/
import Derived.Test.YtliabgocaijafaaW3
namespace Go.Proofs.Ytliabgocaijafaa
open Ax
set_option linter.unusedSimpArgs false
set_option linter.unusedVariables false

theorem pk_end {b : List UInt8} {g s a : Nat} (h : ¬ a < b.length) : pk b g s a = if s < b.length then runB (b.drop s) else [] := by
  cases g with
  | zero => rfl
  | succ g => exact if_neg h
theorem pk_go {b : List UInt8} {g s a : Nat} (h : a < b.length) : pk b (g + 1) s a = (if (mtA b a).1 = 0 then (if a - s = 128 then runB ((b.drop s).take (a - s)) ++ pk b g a (a + 1) else pk b g s (a + 1)) else (if s < a then runB ((b.drop s).take (a - s)) else []) ++ (mtB (mtA b a) ++ pk b g (a + (mtA b a).1) (a + (mtA b a).1))) := if_pos h
theorem pk_flush {b : List UInt8} {g s a : Nat} (h1 : s < a) (h2 : a ≤ b.length) (h3 : a - s = 128 ∨ a = b.length) (h4 : b.length - a ≤ g) : pk b g s a = runB ((b.drop s).take (a - s)) ++ pk b g a a := by
  by_cases hal : a < b.length
  · have h128 : a - s = 128 := by omega
    obtain ⟨g, rfl⟩ : ∃ k, g = k + 1 := ⟨g - 1, by omega⟩
    rw [pk_go hal, pk_go hal]
    by_cases hn : (mtA b a).1 = 0
    · rw [if_pos hn, if_pos hn, if_pos h128, if_neg (by omega)]
    · rw [if_neg hn, if_neg hn, if_pos h1, if_neg (by omega), List.nil_append]
  · rw [pk_end hal, pk_end hal, if_pos (by omega), if_neg (by omega), List.append_nil, List.take_of_length_le (by rw [List.length_drop]; omega)]
theorem run_snoc (b : List UInt8) (s a : Nat) (h1 : s ≤ a) (h2 : a < b.length) : (b.drop s).take (a - s) ++ [b.getD a 0] = (b.drop s).take (a + 1 - s) := by
  have e : a + 1 - s = (a - s) + 1 := by omega
  have hl : a - s < (b.drop s).length := by rw [List.length_drop]; omega
  rw [e, List.take_succ_eq_append_getElem hl]
  congr 2
  rw [List.getElem_drop]
  have : s + (a - s) = a := by omega
  simp only [this]
  simp [h2]
theorem pk_int3 (d : Nat) (h : d ≤ 1024) : (((d : Int).tdiv 256 + 9223372036854775808) % 18446744073709551616 - 9223372036854775808) % 256 = ((d / 256 : Nat) : Int) := by
  rw [Int.tdiv_eq_ediv_of_nonneg (by omega)]
  have e : ((d : Int) / 256 + 9223372036854775808) % 18446744073709551616 - 9223372036854775808 = ((d / 256 : Nat) : Int) := by omega
  rw [e]; omega
theorem pk_int4 (d : Nat) : (d : Int).tmod 256 % 256 = ((d % 256 : Nat) : Int) := by
  rw [Int.tmod_eq_emod_of_nonneg (by omega)]; omega
def Srpack32 (f : FuncId) : Option FSpec :=
  match f with
  | 9 => some match32S
  | _ => none
theorem Srpack32_ok : Fns Try.prog Srpack32 := by
  intro f s h
  unfold Srpack32 at h
  split at h
  · injection h with h; subst h; exact ⟨⟨_, Try.func9, by kernel_rfl, by kernel_rfl⟩, rmatch32_sound⟩
  · cases h
section
set_option maxRecDepth 100000
set_option maxHeartbeats 4000000 in
theorem rpack32_sound : Sound Try.prog 11 pack32S := by
  refine fn_sound (S := Srpack32) (T := ty) mixed ty_ok Srpack32_ok Try.func11 (c := Try.f11.body.getD .skip) (by kernel_rfl) (by kernel_rfl) (fun xs pins hp _ => ?_)
  unfold pack32S at hp ⊢
  split at hp
  · rename_i bs f _
    have hL : bs.length ≤ 1000000 := hp
    refine ⟨by simp, ?_⟩
    unfold Try.f11
    simp -implicitDefEqProofs only [evT, implies_true, forall_const, Option.getD, later_normal, aop, aLen, ev, slot, setSlot, putSlot, cv, cvl, aConv, aBin, aInt, aUn, aFn, aEq, Out.and, isBool, isPtr, List.length, IntKind.bits, evs, evo, evps, aCall, aUser, coes, coe, List.append, List.replicate, callOut, rootsL, AV.roots, lendsL, AV.lends, pinsOf, nodup, lendL, lend, closedB, noimmB, AV.noimm, AV.ren, renL, back, Nat.reduceAdd, Nat.reduceSub, Nat.reduceMul, Int.reduceToNat, reduceCtorEq, aLoad, subv, aIndexAddr, aIndex, TD.aggr, guardSlot, aPick, byte, word, aMin, aMax, Ax.Ends, EndsX, Ax.rvals, rone, AV.ids, idsL, newIds, upTo, pinHeap, gOf, ↓reduceIte, List.isEmpty, Int.reducePow, Nat.reducePow, Int.reduceMod, Nat.reduceLeDiff, Int.reduceLE, Int.reduceNe, Int.reduceEq, aBuildSlice, fillB, aAppend, appendB, viewB, Ax.look, Ax.put, Ax.drop, List.drop, List.take, asv, aMake, aCopy, srcB, fillG, viewG, appendG, appendI, fillI, aSlice, bnd, bnds, full3, cut, aFieldAddr, aField, aStore, setB, aBox, aBuild, fillS, allTy, AV.leaves, AV.okv, AV.leaf, one, splice, elemLeaves, Blk.size, Blk.len, Option.isSome, Option.isNone, isBytes, aStr, aNil, aAlloc, aExtract, viewI, Nat.reduceEqDiff, Nat.reduceLT, Nat.reduceBEq, List.contains, List.elem, Blk.closed, closedL, AV.closed, Blk.noimm, ↓gsplit_tt, ↓gsplit_ff, ↓gsplit_tf, ↓gsplit_ft, ↓csplit_t, ↓csplit_f, Ax.idx, AV.lentIds, lentIdsL, dropAll, givenUp, AV.clean, cleanL, Blk.clean, cleanB, quietC, flatTy, coldStr, notMs, eqV, eqF, isStruct, -coe, coe_w, coe_str, coe_agg, coe_tup, coe_sb, coe_si, coe_cp, coe_ms, coe_rf, coe_fn, coe_cons, ty, Srpack32]
    refine awp_loop ⟨fun m σ => ∃ (s a g : Nat) (o : List UInt8), m = bs.length - a ∧ s ≤ a ∧ a ≤ bs.length ∧ a - s < 128 ∧ (a = bs.length → s = a) ∧ bs.length - a ≤ g ∧ o ++ pk bs g s a = packL bs ∧ o.length ≤ 2 * s ∧
        σ = ⟨[.sb bs f, .junk, .junk, .ms 4 1 0 o.length, .ms 5 1 0 (a - s), .w (.int .i64 a), .junk, .junk, .junk, .junk, .junk, .junk, .junk, .junk, .junk, .junk, .junk, .junk, .junk, .junk, .junk, .junk, .junk, .junk, .junk, .junk, .junk, .junk, .junk, .junk, .junk, .junk, .junk, .junk, .junk, .junk, .junk, .junk, .junk, .junk, .junk, .junk, .junk, .junk, .junk, .junk, .junk, .junk, .junk, .junk, .junk, .junk, .junk, .junk, .junk, .junk, .junk, .junk, .junk, .junk, .junk, .junk, .junk, .junk, .junk, .junk, .junk, .junk, .junk, .junk, .junk, .junk, .junk, .junk, .junk], [(4, .b o), (5, .b ((bs.drop s).take (a - s)))], 6⟩, ?_, ?_⟩
    · refine ⟨_, _, ((weak_nil 3 1 (.b []) rfl (by exact trivial)).trans (weak_nil 4 1 (.b []) rfl (by exact trivial))).trans (weak_ren [0, 1, 2, 3, 36, 37] rfl rfl rfl ?_ ?_), 0, 0, bs.length, [], rfl, by omega, by omega, by omega, by omega, by omega, rfl, by simp, rfl⟩
      · simp only [SameS, SameH, setSlot, gOf, AV.ren, renL, Blk.ren, Ax.look, Ax.put, reduceCtorEq, true_or, false_or, or_true, or_false, and_true, true_and, AV.w.injEq, Value.int.injEq, Value.bool.injEq, AV.ms.injEq, AV.sb.injEq, AV.str.injEq, ↓reduceIte, Nat.reduceEqDiff, Nat.reduceLT, List.length_append, List.length_cons, List.length_nil, Nat.zero_add, Nat.add_zero, Option.some.injEq, Blk.b.injEq, Blk.i.injEq, Nat.succ_ne_zero, Nat.reduceAdd, and_self]; try simp; try rfl
      · simp only [SameS, SameH, setSlot, gOf, AV.ren, renL, Blk.ren, Ax.look, Ax.put, reduceCtorEq, true_or, false_or, or_true, or_false, and_true, true_and, AV.w.injEq, Value.int.injEq, Value.bool.injEq, AV.ms.injEq, AV.sb.injEq, AV.str.injEq, ↓reduceIte, Nat.reduceEqDiff, Nat.reduceLT, List.length_append, List.length_cons, List.length_nil, Nat.zero_add, Nat.add_zero, Option.some.injEq, Blk.b.injEq, Blk.i.injEq, Nat.succ_ne_zero, Nat.reduceAdd, and_self]; try simp
    · rintro m σ ⟨s, a, g, o, rfl, h1, h2, h3, h4, h5, hpk, hol, rfl⟩
      by_cases hal : a < bs.length
      · have d1 : decide ((a : Int) < bs.length) = true := decide_eq_true (by omega)
        have e1 : ((a : Int) + 1 + 9223372036854775808) % 18446744073709551616 - 9223372036854775808 = ((a + 1 : Nat) : Int) := by omega
        have c8 := (bs.getD a 0).toNat_lt
        have hmt := mt32_at hal
        obtain ⟨g, rfl⟩ : ∃ k, g = k + 1 := ⟨g - 1, by omega⟩
        rw [pk_go hal] at hpk
        have hml := mtA_is bs a hal
        have hrl : ((bs.drop s).take (a - s)).length = a - s := by simp; omega
        have hrb : (runB ((bs.drop s).take (a - s))).length = a - s + 1 := by unfold runB; rw [List.length_cons, hrl]
        have hsn := run_snoc bs s a h1 hal
        have hrl2 : ((bs.drop s).take (a + 1 - s)).length = a - s + 1 := by simp; omega
        have hrb2 : (runB ((bs.drop s).take (a + 1 - s))).length = a - s + 2 := by unfold runB; rw [List.length_cons, hrl2]
        have hrB : runB ((bs.drop s).take (a - s)) = UInt8.ofNat (a - s - 1) :: (bs.drop s).take (a - s) := by unfold runB; rw [hrl]
        have hrB2 : runB ((bs.drop s).take (a + 1 - s)) = UInt8.ofNat (a - s) :: (bs.drop s).take (a + 1 - s) := by unfold runB; rw [hrl2]; rfl
        have htk : List.take (a - s) ((bs.drop s).take (a - s)) = (bs.drop s).take (a - s) := List.take_of_length_le (by omega)
        have htk2 : List.take (a - s + 1) ((bs.drop s).take (a + 1 - s)) = (bs.drop s).take (a + 1 - s) := List.take_of_length_le (by omega)
        obtain ⟨⟨n, d⟩, hM⟩ : ∃ M, mtA bs a = M := ⟨_, rfl⟩
        rw [hM] at hmt hml hpk
        simp only at hpk hml
        by_cases hn : n = 0
        · have d3 : decide ((0 : Int) < (n : Int)) = false := decide_eq_false (by omega)
          have d5 : decide ((n : Int) = 0) = true := decide_eq_true (by omega)
          have d6 : decide ((0 : Int) < ((a - s + 1 : Nat) : Int)) = true := decide_eq_true (by omega)
          rw [if_pos hn, if_neg (by omega)] at hpk
          have hfl := pk_flush (b := bs) (g := g) (s := s) (a := a + 1) (by omega) (by omega)
          obtain ⟨R, hR⟩ : ∃ R, (bs.drop s).take (a - s) = R := ⟨_, rfl⟩
          obtain ⟨R2, hR2⟩ : ∃ R2, (bs.drop s).take (a + 1 - s) = R2 := ⟨_, rfl⟩
          rw [hR, hR2] at hsn
          rw [hR2] at hrl2 hrB2 htk2 hfl hrb2
          rw [hR] at hrl
          have e8 : (((((a - s + 1 : Nat) : Int) - 1 + 9223372036854775808) % 18446744073709551616 - 9223372036854775808)) % 256 = ((a - s : Nat) : Int) := by clear e1; omega
          rw [hR]
          by_cases h128 : a - s + 1 = 128
          · have d4 : decide (((a - s + 1 : Nat) : Int) = 128) = true := decide_eq_true (by omega)
            simp -implicitDefEqProofs only [evT, implies_true, forall_const, Option.getD, later_normal, aop, aLen, ev, slot, setSlot, putSlot, cv, cvl, aConv, aBin, aInt, aUn, aFn, aEq, Out.and, isBool, isPtr, List.length, IntKind.bits, evs, evo, evps, aCall, aUser, coes, coe, List.append, List.replicate, callOut, rootsL, AV.roots, lendsL, AV.lends, pinsOf, nodup, lendL, lend, closedB, noimmB, AV.noimm, AV.ren, renL, back, Nat.reduceAdd, Nat.reduceSub, Nat.reduceMul, Int.reduceToNat, reduceCtorEq, aLoad, subv, aIndexAddr, aIndex, TD.aggr, guardSlot, aPick, byte, word, aMin, aMax, Ax.Ends, EndsX, Ax.rvals, rone, AV.ids, idsL, newIds, upTo, pinHeap, gOf, ↓reduceIte, List.isEmpty, Int.reducePow, Nat.reducePow, Int.reduceMod, Nat.reduceLeDiff, Int.reduceLE, Int.reduceNe, Int.reduceEq, aBuildSlice, fillB, aAppend, appendB, viewB, Ax.look, Ax.put, Ax.drop, List.drop, List.take, asv, aMake, aCopy, srcB, fillG, viewG, appendG, appendI, fillI, aSlice, bnd, bnds, full3, cut, aFieldAddr, aField, aStore, setB, aBox, aBuild, fillS, allTy, AV.leaves, AV.okv, AV.leaf, one, splice, elemLeaves, Blk.size, Blk.len, Option.isSome, Option.isNone, isBytes, aStr, aNil, aAlloc, aExtract, viewI, Nat.reduceEqDiff, Nat.reduceLT, Nat.reduceBEq, List.contains, List.elem, Blk.closed, closedL, AV.closed, Blk.noimm, ↓gsplit_tt, ↓gsplit_ff, ↓gsplit_tf, ↓gsplit_ft, ↓csplit_t, ↓csplit_f, Ax.idx, AV.lentIds, lentIdsL, dropAll, givenUp, AV.clean, cleanL, Blk.clean, cleanB, quietC, flatTy, coldStr, notMs, eqV, eqF, isStruct, -coe, coe_w, coe_str, coe_agg, coe_tup, coe_sb, coe_si, coe_cp, coe_ms, coe_rf, coe_fn, coe_cons, ty, Srpack32, match32S, d1, d3, d4, d5, d6, e1, e8, hmt, hsn, UInt8.ofNat_toNat, hrl, hrl2, htk2, hL, Int.toNat_natCast]
            clear e1 e8
            have hfe : o ++ (UInt8.ofNat (a - s) :: R2) ++ pk bs g (a + 1) (a + 1) = packL bs := by
              rw [← hpk, hfl (by omega) (by omega), hrB2, List.append_assoc]
            refine ⟨by omega, by omega, by unfold top; omega, by omega, by unfold top; omega, by unfold top; omega, bs.length - (a + 1), _, by omega, (weak_nil 4 1 (.b []) rfl (by exact trivial)).trans (weak_ren [0, 1, 2, 3, 414, 454] rfl rfl rfl ?_ ?_), a + 1, a + 1, g, o ++ (UInt8.ofNat (a - s) :: R2), rfl, by omega, by omega, by omega, by omega, by omega, hfe, by rw [List.length_append, List.length_cons, hrl2]; omega, rfl⟩
            · simp only [SameS, SameH, setSlot, gOf, AV.ren, renL, Blk.ren, Ax.look, Ax.put, reduceCtorEq, true_or, false_or, or_true, or_false, and_true, true_and, AV.w.injEq, Value.int.injEq, Value.bool.injEq, AV.ms.injEq, AV.sb.injEq, AV.str.injEq, ↓reduceIte, Nat.reduceEqDiff, Nat.reduceLT, List.length_append, List.length_cons, List.length_nil, Nat.zero_add, Nat.add_zero, Option.some.injEq, Blk.b.injEq, Blk.i.injEq, Nat.succ_ne_zero, Nat.reduceAdd, and_self, hrl2]; try simp; try omega
            · simp only [SameS, SameH, setSlot, gOf, AV.ren, renL, Blk.ren, Ax.look, Ax.put, reduceCtorEq, true_or, false_or, or_true, or_false, and_true, true_and, AV.w.injEq, Value.int.injEq, Value.bool.injEq, AV.ms.injEq, AV.sb.injEq, AV.str.injEq, ↓reduceIte, Nat.reduceEqDiff, Nat.reduceLT, List.length_append, List.length_cons, List.length_nil, Nat.zero_add, Nat.add_zero, Option.some.injEq, Blk.b.injEq, Blk.i.injEq, Nat.succ_ne_zero, Nat.reduceAdd, and_self]; try simp
          · have d4 : decide (((a - s + 1 : Nat) : Int) = 128) = false := decide_eq_false (by omega)
            by_cases hend : a + 1 = bs.length
            · have d7 : decide (((a + 1 : Nat) : Int) = bs.length) = true := decide_eq_true (by omega)
              simp -implicitDefEqProofs only [evT, implies_true, forall_const, Option.getD, later_normal, aop, aLen, ev, slot, setSlot, putSlot, cv, cvl, aConv, aBin, aInt, aUn, aFn, aEq, Out.and, isBool, isPtr, List.length, IntKind.bits, evs, evo, evps, aCall, aUser, coes, coe, List.append, List.replicate, callOut, rootsL, AV.roots, lendsL, AV.lends, pinsOf, nodup, lendL, lend, closedB, noimmB, AV.noimm, AV.ren, renL, back, Nat.reduceAdd, Nat.reduceSub, Nat.reduceMul, Int.reduceToNat, reduceCtorEq, aLoad, subv, aIndexAddr, aIndex, TD.aggr, guardSlot, aPick, byte, word, aMin, aMax, Ax.Ends, EndsX, Ax.rvals, rone, AV.ids, idsL, newIds, upTo, pinHeap, gOf, ↓reduceIte, List.isEmpty, Int.reducePow, Nat.reducePow, Int.reduceMod, Nat.reduceLeDiff, Int.reduceLE, Int.reduceNe, Int.reduceEq, aBuildSlice, fillB, aAppend, appendB, viewB, Ax.look, Ax.put, Ax.drop, List.drop, List.take, asv, aMake, aCopy, srcB, fillG, viewG, appendG, appendI, fillI, aSlice, bnd, bnds, full3, cut, aFieldAddr, aField, aStore, setB, aBox, aBuild, fillS, allTy, AV.leaves, AV.okv, AV.leaf, one, splice, elemLeaves, Blk.size, Blk.len, Option.isSome, Option.isNone, isBytes, aStr, aNil, aAlloc, aExtract, viewI, Nat.reduceEqDiff, Nat.reduceLT, Nat.reduceBEq, List.contains, List.elem, Blk.closed, closedL, AV.closed, Blk.noimm, ↓gsplit_tt, ↓gsplit_ff, ↓gsplit_tf, ↓gsplit_ft, ↓csplit_t, ↓csplit_f, Ax.idx, AV.lentIds, lentIdsL, dropAll, givenUp, AV.clean, cleanL, Blk.clean, cleanB, quietC, flatTy, coldStr, notMs, eqV, eqF, isStruct, -coe, coe_w, coe_str, coe_agg, coe_tup, coe_sb, coe_si, coe_cp, coe_ms, coe_rf, coe_fn, coe_cons, ty, Srpack32, match32S, d1, d3, d4, d5, d6, d7, e1, e8, hmt, hsn, UInt8.ofNat_toNat, hrl, hrl2, htk2, hL, Int.toNat_natCast]
              clear e1 e8
              have hfe : o ++ (UInt8.ofNat (a - s) :: R2) ++ pk bs g (a + 1) (a + 1) = packL bs := by
                rw [← hpk, hfl (by omega) (by omega), hrB2, List.append_assoc]
              refine ⟨by omega, by omega, by unfold top; omega, by omega, by unfold top; omega, by unfold top; omega, bs.length - (a + 1), _, by omega, (weak_nil 4 1 (.b []) rfl (by exact trivial)).trans (weak_ren [0, 1, 2, 3, 414, 454] rfl rfl rfl ?_ ?_), a + 1, a + 1, g, o ++ (UInt8.ofNat (a - s) :: R2), rfl, by omega, by omega, by omega, by omega, by omega, hfe, by rw [List.length_append, List.length_cons, hrl2]; omega, rfl⟩
              · simp only [SameS, SameH, setSlot, gOf, AV.ren, renL, Blk.ren, Ax.look, Ax.put, reduceCtorEq, true_or, false_or, or_true, or_false, and_true, true_and, AV.w.injEq, Value.int.injEq, Value.bool.injEq, AV.ms.injEq, AV.sb.injEq, AV.str.injEq, ↓reduceIte, Nat.reduceEqDiff, Nat.reduceLT, List.length_append, List.length_cons, List.length_nil, Nat.zero_add, Nat.add_zero, Option.some.injEq, Blk.b.injEq, Blk.i.injEq, Nat.succ_ne_zero, Nat.reduceAdd, and_self, hrl2]; try simp; try omega
              · simp only [SameS, SameH, setSlot, gOf, AV.ren, renL, Blk.ren, Ax.look, Ax.put, reduceCtorEq, true_or, false_or, or_true, or_false, and_true, true_and, AV.w.injEq, Value.int.injEq, Value.bool.injEq, AV.ms.injEq, AV.sb.injEq, AV.str.injEq, ↓reduceIte, Nat.reduceEqDiff, Nat.reduceLT, List.length_append, List.length_cons, List.length_nil, Nat.zero_add, Nat.add_zero, Option.some.injEq, Blk.b.injEq, Blk.i.injEq, Nat.succ_ne_zero, Nat.reduceAdd, and_self]; try simp
            · have d7 : decide (((a + 1 : Nat) : Int) = bs.length) = false := decide_eq_false (by omega)
              simp -implicitDefEqProofs only [evT, implies_true, forall_const, Option.getD, later_normal, aop, aLen, ev, slot, setSlot, putSlot, cv, cvl, aConv, aBin, aInt, aUn, aFn, aEq, Out.and, isBool, isPtr, List.length, IntKind.bits, evs, evo, evps, aCall, aUser, coes, coe, List.append, List.replicate, callOut, rootsL, AV.roots, lendsL, AV.lends, pinsOf, nodup, lendL, lend, closedB, noimmB, AV.noimm, AV.ren, renL, back, Nat.reduceAdd, Nat.reduceSub, Nat.reduceMul, Int.reduceToNat, reduceCtorEq, aLoad, subv, aIndexAddr, aIndex, TD.aggr, guardSlot, aPick, byte, word, aMin, aMax, Ax.Ends, EndsX, Ax.rvals, rone, AV.ids, idsL, newIds, upTo, pinHeap, gOf, ↓reduceIte, List.isEmpty, Int.reducePow, Nat.reducePow, Int.reduceMod, Nat.reduceLeDiff, Int.reduceLE, Int.reduceNe, Int.reduceEq, aBuildSlice, fillB, aAppend, appendB, viewB, Ax.look, Ax.put, Ax.drop, List.drop, List.take, asv, aMake, aCopy, srcB, fillG, viewG, appendG, appendI, fillI, aSlice, bnd, bnds, full3, cut, aFieldAddr, aField, aStore, setB, aBox, aBuild, fillS, allTy, AV.leaves, AV.okv, AV.leaf, one, splice, elemLeaves, Blk.size, Blk.len, Option.isSome, Option.isNone, isBytes, aStr, aNil, aAlloc, aExtract, viewI, Nat.reduceEqDiff, Nat.reduceLT, Nat.reduceBEq, List.contains, List.elem, Blk.closed, closedL, AV.closed, Blk.noimm, ↓gsplit_tt, ↓gsplit_ff, ↓gsplit_tf, ↓gsplit_ft, ↓csplit_t, ↓csplit_f, Ax.idx, AV.lentIds, lentIdsL, dropAll, givenUp, AV.clean, cleanL, Blk.clean, cleanB, quietC, flatTy, coldStr, notMs, eqV, eqF, isStruct, -coe, coe_w, coe_str, coe_agg, coe_tup, coe_sb, coe_si, coe_cp, coe_ms, coe_rf, coe_fn, coe_cons, ty, Srpack32, match32S, d1, d3, d4, d5, d6, d7, e1, hmt, hsn, UInt8.ofNat_toNat, hrl, hrl2, htk2, hL, Int.toNat_natCast]
              clear e1 e8
              refine ⟨by omega, by omega, by unfold top; omega, bs.length - (a + 1), _, by omega, weak_ren [0, 1, 2, 3, 4, 166] rfl rfl rfl ?_ ?_, s, a + 1, g, o, rfl, by omega, by omega, by omega, by omega, by omega, hpk, hol, rfl⟩
              · have hx : a + 1 - s = a - s + 1 := by omega
                simp only [SameS, SameH, setSlot, gOf, AV.ren, renL, Blk.ren, Ax.look, Ax.put, reduceCtorEq, true_or, false_or, or_true, or_false, and_true, true_and, AV.w.injEq, Value.int.injEq, Value.bool.injEq, AV.ms.injEq, AV.sb.injEq, AV.str.injEq, ↓reduceIte, Nat.reduceEqDiff, Nat.reduceLT, List.length_append, List.length_cons, List.length_nil, Nat.zero_add, Nat.add_zero, Option.some.injEq, Blk.b.injEq, Blk.i.injEq, Nat.succ_ne_zero, Nat.reduceAdd, and_self, hx]
              · simp only [SameS, SameH, setSlot, gOf, AV.ren, renL, Blk.ren, Ax.look, Ax.put, reduceCtorEq, true_or, false_or, or_true, or_false, and_true, true_and, AV.w.injEq, Value.int.injEq, Value.bool.injEq, AV.ms.injEq, AV.sb.injEq, AV.str.injEq, ↓reduceIte, Nat.reduceEqDiff, Nat.reduceLT, List.length_append, List.length_cons, List.length_nil, Nat.zero_add, Nat.add_zero, Option.some.injEq, Blk.b.injEq, Blk.i.injEq, Nat.succ_ne_zero, Nat.reduceAdd, and_self, hR2]
        · have d3 : decide ((0 : Int) < (n : Int)) = true := decide_eq_true (by omega)
          have d5 : decide ((n : Int) = 0) = false := decide_eq_false (by omega)
          rw [if_neg hn] at hpk
          have hml : 4 ≤ n ∧ n ≤ 131 ∧ 1 ≤ d ∧ d ≤ a ∧ d ≤ 1024 ∧ a + n ≤ bs.length ∧ n = lenM bs a d := by
            rcases hml with h | h
            · injection h with h1 h2; exact (hn h1).elim
            · exact h
          obtain ⟨m1, m2, m3, m4, m5, m6, _⟩ := hml
          have e7 := pk_int2 a n (by omega)
          have e9 := pk_int3 d (by omega)
          have e10 := pk_int4 d
          obtain ⟨R, hR⟩ : ∃ R, (bs.drop s).take (a - s) = R := ⟨_, rfl⟩
          rw [hR] at hrl hrB htk hpk
          rw [hR]
          by_cases hsa : s < a
          · rw [if_pos hsa] at hpk
            have d2 : decide ((0 : Int) < ((a - s : Nat) : Int)) = true := decide_eq_true (by omega)
            have e8 : (((((a - s : Nat) : Int) - 1 + 9223372036854775808) % 18446744073709551616 - 9223372036854775808)) % 256 = ((a - s - 1 : Nat) : Int) := by clear e1 e7 e9 e10; omega
            have e5 := pk_int1 n m1 m2
            simp -implicitDefEqProofs only [evT, implies_true, forall_const, Option.getD, later_normal, aop, aLen, ev, slot, setSlot, putSlot, cv, cvl, aConv, aBin, aInt, aUn, aFn, aEq, Out.and, isBool, isPtr, List.length, IntKind.bits, evs, evo, evps, aCall, aUser, coes, coe, List.append, List.replicate, callOut, rootsL, AV.roots, lendsL, AV.lends, pinsOf, nodup, lendL, lend, closedB, noimmB, AV.noimm, AV.ren, renL, back, Nat.reduceAdd, Nat.reduceSub, Nat.reduceMul, Int.reduceToNat, reduceCtorEq, aLoad, subv, aIndexAddr, aIndex, TD.aggr, guardSlot, aPick, byte, word, aMin, aMax, Ax.Ends, EndsX, Ax.rvals, rone, AV.ids, idsL, newIds, upTo, pinHeap, gOf, ↓reduceIte, List.isEmpty, Int.reducePow, Nat.reducePow, Int.reduceMod, Nat.reduceLeDiff, Int.reduceLE, Int.reduceNe, Int.reduceEq, aBuildSlice, fillB, aAppend, appendB, viewB, Ax.look, Ax.put, Ax.drop, List.drop, List.take, asv, aMake, aCopy, srcB, fillG, viewG, appendG, appendI, fillI, aSlice, bnd, bnds, full3, cut, aFieldAddr, aField, aStore, setB, aBox, aBuild, fillS, allTy, AV.leaves, AV.okv, AV.leaf, one, splice, elemLeaves, Blk.size, Blk.len, Option.isSome, Option.isNone, isBytes, aStr, aNil, aAlloc, aExtract, viewI, Nat.reduceEqDiff, Nat.reduceLT, Nat.reduceBEq, List.contains, List.elem, Blk.closed, closedL, AV.closed, Blk.noimm, ↓gsplit_tt, ↓gsplit_ff, ↓gsplit_tf, ↓gsplit_ft, ↓csplit_t, ↓csplit_f, Ax.idx, AV.lentIds, lentIdsL, dropAll, givenUp, AV.clean, cleanL, Blk.clean, cleanB, quietC, flatTy, coldStr, notMs, eqV, eqF, isStruct, -coe, coe_w, coe_str, coe_agg, coe_tup, coe_sb, coe_si, coe_cp, coe_ms, coe_rf, coe_fn, coe_cons, ty, Srpack32, match32S, d1, d2, d3, d5, e5, e7, e8, e9, e10, hmt, hrl, htk, hL, Int.toNat_natCast]
            clear e1 e5 e7 e8 e9 e10
            have hfe : o ++ (UInt8.ofNat (a - s - 1) :: R) ++ mtB (n, d) ++ pk bs g (a + n) (a + n) = packL bs := by
              rw [← hpk, hrB]; simp
            have e11 : d / 256 < 256 := by clear hpk hfe; omega
            refine ⟨by omega, by unfold top; omega, by unfold top; omega, by omega, by unfold top; omega, bs.length - (a + n), _, by omega, (weak_nil 4 1 (.b []) rfl (by exact trivial)).trans (weak_ren [0, 1, 2, 3, 462, 510] rfl rfl rfl ?_ ?_), a + n, a + n, g, o ++ (UInt8.ofNat (a - s - 1) :: R) ++ mtB (n, d), rfl, by omega, by omega, by omega, by omega, by omega, hfe, by simp only [List.length_append, List.length_cons, hrl, mtB, List.length_nil]; omega, rfl⟩
            · simp only [SameS, SameH, setSlot, gOf, AV.ren, renL, Blk.ren, Ax.look, Ax.put, reduceCtorEq, true_or, false_or, or_true, or_false, and_true, true_and, AV.w.injEq, Value.int.injEq, Value.bool.injEq, AV.ms.injEq, AV.sb.injEq, AV.str.injEq, ↓reduceIte, Nat.reduceEqDiff, Nat.reduceLT, List.length_append, List.length_cons, List.length_nil, Nat.zero_add, Nat.add_zero, Option.some.injEq, Blk.b.injEq, Blk.i.injEq, Nat.succ_ne_zero, Nat.reduceAdd, and_self, hrl, mtB]; try simp; try omega
            · simp only [SameS, SameH, setSlot, gOf, AV.ren, renL, Blk.ren, Ax.look, Ax.put, reduceCtorEq, true_or, false_or, or_true, or_false, and_true, true_and, AV.w.injEq, Value.int.injEq, Value.bool.injEq, AV.ms.injEq, AV.sb.injEq, AV.str.injEq, ↓reduceIte, Nat.reduceEqDiff, Nat.reduceLT, List.length_append, List.length_cons, List.length_nil, Nat.zero_add, Nat.add_zero, Option.some.injEq, Blk.b.injEq, Blk.i.injEq, Nat.succ_ne_zero, Nat.reduceAdd, and_self, mtB]; try simp
          · rw [if_neg hsa] at hpk
            have d2 : decide ((0 : Int) < ((a - s : Nat) : Int)) = false := decide_eq_false (by omega)
            have e5 := pk_int1 n m1 m2
            simp -implicitDefEqProofs only [evT, implies_true, forall_const, Option.getD, later_normal, aop, aLen, ev, slot, setSlot, putSlot, cv, cvl, aConv, aBin, aInt, aUn, aFn, aEq, Out.and, isBool, isPtr, List.length, IntKind.bits, evs, evo, evps, aCall, aUser, coes, coe, List.append, List.replicate, callOut, rootsL, AV.roots, lendsL, AV.lends, pinsOf, nodup, lendL, lend, closedB, noimmB, AV.noimm, AV.ren, renL, back, Nat.reduceAdd, Nat.reduceSub, Nat.reduceMul, Int.reduceToNat, reduceCtorEq, aLoad, subv, aIndexAddr, aIndex, TD.aggr, guardSlot, aPick, byte, word, aMin, aMax, Ax.Ends, EndsX, Ax.rvals, rone, AV.ids, idsL, newIds, upTo, pinHeap, gOf, ↓reduceIte, List.isEmpty, Int.reducePow, Nat.reducePow, Int.reduceMod, Nat.reduceLeDiff, Int.reduceLE, Int.reduceNe, Int.reduceEq, aBuildSlice, fillB, aAppend, appendB, viewB, Ax.look, Ax.put, Ax.drop, List.drop, List.take, asv, aMake, aCopy, srcB, fillG, viewG, appendG, appendI, fillI, aSlice, bnd, bnds, full3, cut, aFieldAddr, aField, aStore, setB, aBox, aBuild, fillS, allTy, AV.leaves, AV.okv, AV.leaf, one, splice, elemLeaves, Blk.size, Blk.len, Option.isSome, Option.isNone, isBytes, aStr, aNil, aAlloc, aExtract, viewI, Nat.reduceEqDiff, Nat.reduceLT, Nat.reduceBEq, List.contains, List.elem, Blk.closed, closedL, AV.closed, Blk.noimm, ↓gsplit_tt, ↓gsplit_ff, ↓gsplit_tf, ↓gsplit_ft, ↓csplit_t, ↓csplit_f, Ax.idx, AV.lentIds, lentIdsL, dropAll, givenUp, AV.clean, cleanL, Blk.clean, cleanB, quietC, flatTy, coldStr, notMs, eqV, eqF, isStruct, -coe, coe_w, coe_str, coe_agg, coe_tup, coe_sb, coe_si, coe_cp, coe_ms, coe_rf, coe_fn, coe_cons, ty, Srpack32, match32S, d1, d2, d3, d5, e5, e7, e9, e10, hmt, hrl, htk, hL, Int.toNat_natCast]
            clear e1 e5 e7 e9 e10
            have hfe : o ++ mtB (n, d) ++ pk bs g (a + n) (a + n) = packL bs := by
              rw [← hpk]; simp
            have hR0 : R = [] := List.eq_nil_of_length_eq_zero (by omega)
            subst hR0
            refine ⟨by omega, by unfold top; omega, bs.length - (a + n), _, by omega, weak_ren [0, 1, 2, 3, 374, 5] rfl rfl rfl ?_ ?_, a + n, a + n, g, o ++ mtB (n, d), rfl, by omega, by omega, by omega, by omega, by omega, hfe, by simp only [List.length_append, List.length_cons, mtB, List.length_nil]; omega, rfl⟩
            · simp only [SameS, SameH, setSlot, gOf, AV.ren, renL, Blk.ren, Ax.look, Ax.put, reduceCtorEq, true_or, false_or, or_true, or_false, and_true, true_and, AV.w.injEq, Value.int.injEq, Value.bool.injEq, AV.ms.injEq, AV.sb.injEq, AV.str.injEq, ↓reduceIte, Nat.reduceEqDiff, Nat.reduceLT, List.length_append, List.length_cons, List.length_nil, Nat.zero_add, Nat.add_zero, Option.some.injEq, Blk.b.injEq, Blk.i.injEq, Nat.succ_ne_zero, Nat.reduceAdd, and_self, mtB]; try simp; try omega
            · simp only [SameS, SameH, setSlot, gOf, AV.ren, renL, Blk.ren, Ax.look, Ax.put, reduceCtorEq, true_or, false_or, or_true, or_false, and_true, true_and, AV.w.injEq, Value.int.injEq, Value.bool.injEq, AV.ms.injEq, AV.sb.injEq, AV.str.injEq, ↓reduceIte, Nat.reduceEqDiff, Nat.reduceLT, List.length_append, List.length_cons, List.length_nil, Nat.zero_add, Nat.add_zero, Option.some.injEq, Blk.b.injEq, Blk.i.injEq, Nat.succ_ne_zero, Nat.reduceAdd, and_self, mtB]; try simp
      · have d1 : decide ((a : Int) < bs.length) = false := decide_eq_false (by omega)
        have hsl := h4 (by omega)
        rw [pk_end hal, if_neg (by omega), List.append_nil] at hpk
        rw [← hpk]
        simp -implicitDefEqProofs only [evT, implies_true, forall_const, Option.getD, later_normal, aop, aLen, ev, slot, setSlot, putSlot, cv, cvl, aConv, aBin, aInt, aUn, aFn, aEq, Out.and, isBool, isPtr, List.length, IntKind.bits, evs, evo, evps, aCall, aUser, coes, coe, List.append, List.replicate, callOut, rootsL, AV.roots, lendsL, AV.lends, pinsOf, nodup, lendL, lend, closedB, noimmB, AV.noimm, AV.ren, renL, back, Nat.reduceAdd, Nat.reduceSub, Nat.reduceMul, Int.reduceToNat, reduceCtorEq, aLoad, subv, aIndexAddr, aIndex, TD.aggr, guardSlot, aPick, byte, word, aMin, aMax, Ax.Ends, EndsX, Ax.rvals, rone, AV.ids, idsL, newIds, upTo, pinHeap, gOf, ↓reduceIte, List.isEmpty, Int.reducePow, Nat.reducePow, Int.reduceMod, Nat.reduceLeDiff, Int.reduceLE, Int.reduceNe, Int.reduceEq, aBuildSlice, fillB, aAppend, appendB, viewB, Ax.look, Ax.put, Ax.drop, List.drop, List.take, asv, aMake, aCopy, srcB, fillG, viewG, appendG, appendI, fillI, aSlice, bnd, bnds, full3, cut, aFieldAddr, aField, aStore, setB, aBox, aBuild, fillS, allTy, AV.leaves, AV.okv, AV.leaf, one, splice, elemLeaves, Blk.size, Blk.len, Option.isSome, Option.isNone, isBytes, aStr, aNil, aAlloc, aExtract, viewI, Nat.reduceEqDiff, Nat.reduceLT, Nat.reduceBEq, List.contains, List.elem, Blk.closed, closedL, AV.closed, Blk.noimm, ↓gsplit_tt, ↓gsplit_ff, ↓gsplit_tf, ↓gsplit_ft, ↓csplit_t, ↓csplit_f, Ax.idx, AV.lentIds, lentIdsL, dropAll, givenUp, AV.clean, cleanL, Blk.clean, cleanB, quietC, flatTy, coldStr, notMs, eqV, eqF, isStruct, -coe, coe_w, coe_str, coe_agg, coe_tup, coe_sb, coe_si, coe_cp, coe_ms, coe_rf, coe_fn, coe_cons, ty, Srpack32, d1]
  · exact hp.elim
end
end Go.Proofs.Ytliabgocaijafaa
