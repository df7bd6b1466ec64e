/- Layer 33: the document's way to add a key. -/
import Derived.Test.YthodcljimjglcaaS6
namespace Go.Proofs.Ythodcljimjglcaa
open Ax
set_option linter.unusedSimpArgs false
set_option linter.unusedVariables false

theorem or_has_nat : ∀ c : Fin 256, ∀ k : Fin 8, c.val / 2 ^ k.val % 2 = 1 → c.val ||| 2 ^ k.val = c.val := by decide +kernel
theorem or_add_nat : ∀ c : Fin 256, ∀ k : Fin 8, ¬ c.val / 2 ^ k.val % 2 = 1 → c.val ||| 2 ^ k.val = c.val + 2 ^ k.val := by decide +kernel
theorem or_has (c : UInt8) (p : Nat) (h : c.toNat / 2 ^ (p % 8) % 2 = 1) : c ||| mask p = c := by
  apply UInt8.toNat_inj.1
  rw [UInt8.toNat_or, mask_nat]
  exact or_has_nat ⟨c.toNat, c.toNat_lt⟩ ⟨p % 8, Nat.mod_lt _ (by omega)⟩ h
theorem or_add (c : UInt8) (p : Nat) (h : ¬ c.toNat / 2 ^ (p % 8) % 2 = 1) : ((c.toNat : Int) + ((mask p).toNat : Int)) % 256 = ((c ||| mask p).toNat : Int) := by
  have e : (c ||| mask p).toNat = c.toNat + (mask p).toNat := by
    rw [UInt8.toNat_or, mask_nat]
    exact or_add_nat ⟨c.toNat, c.toNat_lt⟩ ⟨p % 8, Nat.mod_lt _ (by omega)⟩ h
  have := (c ||| mask p).toNat_lt
  omega
theorem setP_has {bs : List UInt8} {p : Nat} (h : hasP bs p = true) : setP bs p = bs := by
  unfold setP
  rw [or_has _ _ (of_decide_eq_true h)]
  apply List.ext_getElem
  · simp
  · intro i h1 h2
    rw [List.getElem_set]
    split
    · rename_i he; subst he
      simp [h2]
    · rfl
def raddSetS : FSpec
  | [.agg [.sb bs f, .w (.int .i64 e), .w (.int .i64 n)], .str key], [] => ⟨key.length ≤ 1000000 ∧ bs.length ≤ 1000000, .agg [.sb (addB bs e n key) (bif decide (okSet bs.length e n) then false else f), .w (.int .i64 e), .w (.int .i64 (addN bs.length e n))], []⟩
  | _, _ => noRes
def Sradd33 (f : FuncId) : Option FSpec :=
  match f with
  | 18 => some chkSetS
  | 11 => some placesS
  | 34 => some bitSetS
  | _ => none
theorem Sradd33_ok : Fns Try.prog Sradd33 := by
  intro f s h
  unfold Sradd33 at h
  split at h
  · injection h with h; subst h; exact ⟨⟨_, Try.func18, by kernel_rfl, by kernel_rfl⟩, rchkSet_sound⟩
  · injection h with h; subst h; exact ⟨⟨_, Try.func11, by kernel_rfl, by kernel_rfl⟩, rplaces_sound⟩
  · injection h with h; subst h; exact ⟨⟨_, Try.func34, by kernel_rfl, by kernel_rfl⟩, bitSet_sound⟩
  · cases h
def raddSPl : Plan := fun id => match id with
  | 3 => some [(3, 4), (3, 5), (3, 6), (3, 7), (3, 11)]
  | 8 => some []
  | 9 => some []
  | _ => none
section
set_option maxRecDepth 100000
set_option maxHeartbeats 2000000 in
theorem raddSet_sound : Sound Try.prog 14 raddSetS := by
  refine fn_soundF (S := Sradd33) (T := ty) (pl := raddSPl) mixed ty_ok Sradd33_ok Try.func14 (c := Try.f14.body.getD .skip) (by kernel_rfl) (by kernel_rfl) (fun xs pins hp _ => ?_)
  unfold raddSetS at hp ⊢
  split at hp
  · rename_i bs f e n key _
    obtain ⟨hk, hb⟩ := hp
    refine ⟨by simp, ?_⟩
    have tk : ∀ l : List UInt8, List.take l.length l = l := fun l => List.take_length
    have hb2 : bs.length ≤ 9223372036854775807 := by omega
    unfold Try.f14
    by_cases ho : okSet bs.length e n
    · have hv : chkB bs.length e n = 0 := if_pos ho
      have hN : addN bs.length e n = min (n + 1) 1099511627776 := if_pos ho
      have hdo : decide (okSet bs.length e n) = true := decide_eq_true ho
      obtain ⟨h1, h2, h3, h4, h5, h6⟩ := ho
      have hpm := fun (p : Int) (hp : p ∈ places bs e n key) => places_mem hp
      have hpL := places_len bs e n key
      have hA : addB bs e n key = setPs bs (places bs e n key) := rfl
      obtain ⟨ps, hps⟩ : ∃ ps, places bs e n key = ps := ⟨_, rfl⟩
      rw [hps] at hpm hpL hA
      have e1 : (n + 1 + 9223372036854775808) % 18446744073709551616 - 9223372036854775808 = n + 1 := by omega
      have em1 : (if (1099511627776 : Int) < n + 1 then (1099511627776 : Int) else n + 1) = min (n + 1) 1099511627776 := by split <;> omega
      obtain ⟨N1, hN1⟩ : ∃ N1, min (n + 1) 1099511627776 = N1 := ⟨_, rfl⟩
      rw [hN1] at hN em1
      simp -implicitDefEqProofs only [evT, implies_true, forall_const, Option.getD, later_normal, aop, aLen, ev, slot, setSlot, putSlot, cv, cvl, aConv, aBin, aInt, aUn, aFn, aEq, Out.and, isBool, isPtr, List.length, IntKind.bits, evs, evo, evps, aCall, aUser, coes, coe, List.append, List.replicate, callOut, rootsL, AV.roots, lendsL, AV.lends, pinsOf, nodup, lendL, lend, closedB, noimmB, AV.noimm, AV.ren, renL, back, Nat.reduceAdd, Nat.reduceSub, Nat.reduceMul, Int.reduceToNat, reduceCtorEq, aLoad, subv, aIndexAddr, aIndex, TD.aggr, guardSlot, aPick, byte, word, aMin, aMax, Ax.Ends, EndsX, Ax.rvals, rone, AV.ids, idsL, newIds, upTo, pinHeap, gOf, ↓reduceIte, List.isEmpty, Int.reducePow, Nat.reducePow, Int.reduceMod, Nat.reduceLeDiff, Int.reduceLE, Int.reduceNe, Int.reduceEq, aBuildSlice, fillB, aAppend, appendB, viewB, Ax.look, Ax.put, Ax.drop, List.drop, List.take, asv, aMake, aCopy, srcB, fillG, viewG, appendG, appendI, fillI, aSlice, bnd, bnds, full3, cut, aFieldAddr, aField, aStore, setB, aBox, aBuild, fillS, allTy, AV.leaves, AV.okv, AV.leaf, one, splice, elemLeaves, Blk.size, Blk.len, Option.isSome, Option.isNone, isBytes, aStr, aNil, aAlloc, aExtract, viewI, Nat.reduceEqDiff, Nat.reduceLT, Nat.reduceBEq, List.contains, List.elem, Blk.closed, closedL, AV.closed, Blk.noimm, ↓gsplit_tt, ↓gsplit_ff, ↓gsplit_tf, ↓gsplit_ft, ↓csplit_t, ↓csplit_f, Ax.idx, AV.lentIds, lentIdsL, dropAll, givenUp, AV.clean, cleanL, Blk.clean, cleanB, quietC, flatTy, coldStr, notMs, eqV, eqF, isStruct, evTP, laterF_normal, aopF, foot, footA, keepIn, dropIn, bids, Blk.ids, heldB, memOk, clearOf, Op.operands, Call.operands, List.map_cons, List.map_nil, List.toList_toArray, Array.toList_append, Option.toArray_some, Option.toArray_none, Bool.and_self, -coe, coe_w, coe_str, coe_agg, coe_tup, coe_sb, coe_si, coe_cp, coe_ms, coe_rf, coe_fn, coe_cons, ty, Sradd33, raddSPl, chkSetS, placesS, hb, hb2, hk, hv, hps, tk, e1, em1, cond_false, cond_true, fillS]
      refine And.intro (by unfold top; omega) ?_
      refine awpF_loopW ⟨fun m σ => ∃ i : Nat, m = ps.length - i ∧ i ≤ ps.length ∧
          σ = ⟨[.agg [.sb bs f, .w (.int .i64 e), .w (.int .i64 n)], .str key, .rf 4 3 0 0, .junk, .rf 5 3 0 0, .rf 8 3 0 0, .ms 7 1 0 ps.length, .w (.int .i64 i), .junk, .junk, .junk, .junk, .junk, .junk, .junk, .junk, .junk, .junk, .junk, .junk, .junk, .junk, .junk, .junk, .junk, .junk, .junk, .junk, .junk, .junk, .junk, .junk, .junk, .junk, .junk, .junk, .junk, .junk, .junk, .junk, .junk, .junk, .junk, .junk, .junk, .junk, .junk, .junk, .junk, .junk, .junk, .junk, .junk, .junk, .junk, .junk, .junk], [(4, .g 3 [.agg [.sb bs f, .w (.int .i64 e), .w (.int .i64 n)]]), (5, .g 3 [.agg [.sb [] true, .w (.int .i64 0), .w (.int .i64 0)]]), (6, .b (setPs bs (ps.take i))), (7, .i ps), (8, .g 3 [.agg [.ms 6 1 0 bs.length, .w (.int .i64 e), .w (.int .i64 N1)]])], 9⟩, ?_, ?_⟩
      · refine ⟨_, _, weak_ren [0, 1, 2, 3, 4, 12, 68, 164, 132] rfl rfl rfl ?_ ?_, 0, rfl, by omega, rfl⟩
        · simp only [SameS, SameH, setSlot, gOf, AV.ren, renL, Blk.ren, Ax.look, Ax.put, reduceCtorEq, true_or, false_or, or_true, or_false, and_true, true_and, AV.w.injEq, Value.int.injEq, Value.bool.injEq, AV.ms.injEq, AV.sb.injEq, AV.str.injEq, ↓reduceIte, Nat.reduceEqDiff, Nat.reduceLT, List.length_append, List.length_cons, List.length_nil, Nat.zero_add, Nat.add_zero, Option.some.injEq, Blk.b.injEq, Blk.i.injEq, Nat.succ_ne_zero, Nat.reduceAdd, and_self]; try rfl
        · simp only [SameS, SameH, setSlot, gOf, AV.ren, renL, Blk.ren, Ax.look, Ax.put, reduceCtorEq, true_or, false_or, or_true, or_false, and_true, true_and, AV.w.injEq, Value.int.injEq, Value.bool.injEq, AV.ms.injEq, AV.sb.injEq, AV.str.injEq, ↓reduceIte, Nat.reduceEqDiff, Nat.reduceLT, List.length_append, List.length_cons, List.length_nil, Nat.zero_add, Nat.add_zero, Option.some.injEq, Blk.b.injEq, Blk.i.injEq, Nat.succ_ne_zero, Nat.reduceAdd, and_self]; try simp [setPs]
      · rintro m σ ⟨i, rfl, hi, rfl⟩
        by_cases hil : i < ps.length
        · have d2 : decide ((i : Int) < ps.length) = true := decide_eq_true (by omega)
          have e1 : ((i : Int) + 1 + 9223372036854775808) % 18446744073709551616 - 9223372036854775808 = ((i + 1 : Nat) : Int) := by omega
          have hsn := setPs_snoc bs ps i hil
          have hm := hpm ps[i] (List.getElem_mem hil)
          have hg : ps.getD i 0 = ps[i] := by simp [hil]
          obtain ⟨q, hq⟩ : ∃ q : Nat, ps[i] = (q : Int) := ⟨ps[i].toNat, by omega⟩
          rw [hq] at hsn hm hg
          have hsl := setPs_len (ps.take i) bs
          obtain ⟨B, hB⟩ : ∃ B, setPs bs (ps.take i) = B := ⟨_, rfl⟩
          rw [hB] at hsn hsl
          rw [Int.toNat_natCast] at hsn
          have htB : B.take bs.length = B := List.take_of_length_le (by omega)
          obtain ⟨X, hX⟩ : ∃ X, hasP B q = X := ⟨_, rfl⟩
          cases X
          · have hc : ¬ (B.getD (q / 8) 0).toNat / 2 ^ (q % 8) % 2 = 1 := of_decide_eq_false hX
            have e3 : ((q : Int).tdiv 8 + 9223372036854775808) % 18446744073709551616 - 9223372036854775808 = ((q / 8 : Nat) : Int) := by
              rw [Int.tdiv_eq_ediv_of_nonneg (by omega)]; omega
            have e4 : (q : Int).tmod 8 = ((q % 8 : Nat) : Int) := tmod_cast q 8
            have e5 := shl_one q
            rw [Nat.min_def] at e5
            simp only [Int.toNat_natCast] at e5
            have e6 := or_add (B.getD (q / 8) 0) q hc
            simp -implicitDefEqProofs only [evT, implies_true, forall_const, Option.getD, later_normal, aop, aLen, ev, slot, setSlot, putSlot, cv, cvl, aConv, aBin, aInt, aUn, aFn, aEq, Out.and, isBool, isPtr, List.length, IntKind.bits, evs, evo, evps, aCall, aUser, coes, coe, List.append, List.replicate, callOut, rootsL, AV.roots, lendsL, AV.lends, pinsOf, nodup, lendL, lend, closedB, noimmB, AV.noimm, AV.ren, renL, back, Nat.reduceAdd, Nat.reduceSub, Nat.reduceMul, Int.reduceToNat, reduceCtorEq, aLoad, subv, aIndexAddr, aIndex, TD.aggr, guardSlot, aPick, byte, word, aMin, aMax, Ax.Ends, EndsX, Ax.rvals, rone, AV.ids, idsL, newIds, upTo, pinHeap, gOf, ↓reduceIte, List.isEmpty, Int.reducePow, Nat.reducePow, Int.reduceMod, Nat.reduceLeDiff, Int.reduceLE, Int.reduceNe, Int.reduceEq, aBuildSlice, fillB, aAppend, appendB, viewB, Ax.look, Ax.put, Ax.drop, List.drop, List.take, asv, aMake, aCopy, srcB, fillG, viewG, appendG, appendI, fillI, aSlice, bnd, bnds, full3, cut, aFieldAddr, aField, aStore, setB, aBox, aBuild, fillS, allTy, AV.leaves, AV.okv, AV.leaf, one, splice, elemLeaves, Blk.size, Blk.len, Option.isSome, Option.isNone, isBytes, aStr, aNil, aAlloc, aExtract, viewI, Nat.reduceEqDiff, Nat.reduceLT, Nat.reduceBEq, List.contains, List.elem, Blk.closed, closedL, AV.closed, Blk.noimm, ↓gsplit_tt, ↓gsplit_ff, ↓gsplit_tf, ↓gsplit_ft, ↓csplit_t, ↓csplit_f, Ax.idx, AV.lentIds, lentIdsL, dropAll, givenUp, AV.clean, cleanL, Blk.clean, cleanB, quietC, flatTy, coldStr, notMs, eqV, eqF, isStruct, evTP, laterF_normal, aopF, foot, footA, keepIn, dropIn, bids, Blk.ids, heldB, memOk, clearOf, Op.operands, Call.operands, List.map_cons, List.map_nil, List.toList_toArray, Array.toList_append, Option.toArray_some, Option.toArray_none, Bool.and_self, -coe, coe_w, coe_str, coe_agg, coe_tup, coe_sb, coe_si, coe_cp, coe_ms, coe_rf, coe_fn, coe_cons, ty, Sradd33, raddSPl, bitSetS, d2, e1, hg, hB, hX, htB, hsl, e3, e4, e5, e6, ofNat_u8, Int.toNat_natCast]
            have hlt := (B.getD (q / 8) 0 ||| mask q).toNat_lt
            have hq1 := hm.2.1
            have hq2 := hm.2.2
            refine ⟨⟨by omega, hil⟩, hil, ⟨by omega, by omega, hb⟩, ⟨by omega, hil⟩, hil, ⟨by omega, by omega⟩, by omega, ⟨by omega, hil⟩, hil, by omega, ⟨by omega, by omega⟩, ⟨by omega, by omega, by omega⟩, ps.length - (i + 1), _, by omega, weak_ren [0, 1, 2, 3, 4, 5, 6, 7, 8] rfl rfl rfl ?_ ?_, i + 1, rfl, by omega, rfl⟩
            · simp only [SameS, SameH, setSlot, gOf, AV.ren, renL, Blk.ren, Ax.look, Ax.put, reduceCtorEq, true_or, false_or, or_true, or_false, and_true, true_and, AV.w.injEq, Value.int.injEq, Value.bool.injEq, AV.ms.injEq, AV.sb.injEq, AV.str.injEq, ↓reduceIte, Nat.reduceEqDiff, Nat.reduceLT, List.length_append, List.length_cons, List.length_nil, Nat.zero_add, Nat.add_zero, Option.some.injEq, Blk.b.injEq, Blk.i.injEq, Nat.succ_ne_zero, Nat.reduceAdd, and_self]
            · simp only [SameS, SameH, setSlot, gOf, AV.ren, renL, Blk.ren, Ax.look, Ax.put, reduceCtorEq, true_or, false_or, or_true, or_false, and_true, true_and, AV.w.injEq, Value.int.injEq, Value.bool.injEq, AV.ms.injEq, AV.sb.injEq, AV.str.injEq, ↓reduceIte, Nat.reduceEqDiff, Nat.reduceLT, List.length_append, List.length_cons, List.length_nil, Nat.zero_add, Nat.add_zero, Option.some.injEq, Blk.b.injEq, Blk.i.injEq, Nat.succ_ne_zero, Nat.reduceAdd, and_self, hsn, setP]
          · have hs := setP_has hX
            simp -implicitDefEqProofs only [evT, implies_true, forall_const, Option.getD, later_normal, aop, aLen, ev, slot, setSlot, putSlot, cv, cvl, aConv, aBin, aInt, aUn, aFn, aEq, Out.and, isBool, isPtr, List.length, IntKind.bits, evs, evo, evps, aCall, aUser, coes, coe, List.append, List.replicate, callOut, rootsL, AV.roots, lendsL, AV.lends, pinsOf, nodup, lendL, lend, closedB, noimmB, AV.noimm, AV.ren, renL, back, Nat.reduceAdd, Nat.reduceSub, Nat.reduceMul, Int.reduceToNat, reduceCtorEq, aLoad, subv, aIndexAddr, aIndex, TD.aggr, guardSlot, aPick, byte, word, aMin, aMax, Ax.Ends, EndsX, Ax.rvals, rone, AV.ids, idsL, newIds, upTo, pinHeap, gOf, ↓reduceIte, List.isEmpty, Int.reducePow, Nat.reducePow, Int.reduceMod, Nat.reduceLeDiff, Int.reduceLE, Int.reduceNe, Int.reduceEq, aBuildSlice, fillB, aAppend, appendB, viewB, Ax.look, Ax.put, Ax.drop, List.drop, List.take, asv, aMake, aCopy, srcB, fillG, viewG, appendG, appendI, fillI, aSlice, bnd, bnds, full3, cut, aFieldAddr, aField, aStore, setB, aBox, aBuild, fillS, allTy, AV.leaves, AV.okv, AV.leaf, one, splice, elemLeaves, Blk.size, Blk.len, Option.isSome, Option.isNone, isBytes, aStr, aNil, aAlloc, aExtract, viewI, Nat.reduceEqDiff, Nat.reduceLT, Nat.reduceBEq, List.contains, List.elem, Blk.closed, closedL, AV.closed, Blk.noimm, ↓gsplit_tt, ↓gsplit_ff, ↓gsplit_tf, ↓gsplit_ft, ↓csplit_t, ↓csplit_f, Ax.idx, AV.lentIds, lentIdsL, dropAll, givenUp, AV.clean, cleanL, Blk.clean, cleanB, quietC, flatTy, coldStr, notMs, eqV, eqF, isStruct, evTP, laterF_normal, aopF, foot, footA, keepIn, dropIn, bids, Blk.ids, heldB, memOk, clearOf, Op.operands, Call.operands, List.map_cons, List.map_nil, List.toList_toArray, Array.toList_append, Option.toArray_some, Option.toArray_none, Bool.and_self, -coe, coe_w, coe_str, coe_agg, coe_tup, coe_sb, coe_si, coe_cp, coe_ms, coe_rf, coe_fn, coe_cons, ty, Sradd33, raddSPl, bitSetS, d2, e1, hg, hB, hX, htB, hsl, Int.toNat_natCast]
            have hq1 := hm.2.1
            refine ⟨⟨by omega, hil⟩, hil, ⟨by omega, by omega, hb⟩, ps.length - (i + 1), _, by omega, weak_ren [0, 1, 2, 3, 4, 5, 6, 7, 8] rfl rfl rfl ?_ ?_, i + 1, rfl, by omega, rfl⟩
            · simp only [SameS, SameH, setSlot, gOf, AV.ren, renL, Blk.ren, Ax.look, Ax.put, reduceCtorEq, true_or, false_or, or_true, or_false, and_true, true_and, AV.w.injEq, Value.int.injEq, Value.bool.injEq, AV.ms.injEq, AV.sb.injEq, AV.str.injEq, ↓reduceIte, Nat.reduceEqDiff, Nat.reduceLT, List.length_append, List.length_cons, List.length_nil, Nat.zero_add, Nat.add_zero, Option.some.injEq, Blk.b.injEq, Blk.i.injEq, Nat.succ_ne_zero, Nat.reduceAdd, and_self]
            · simp only [SameS, SameH, setSlot, gOf, AV.ren, renL, Blk.ren, Ax.look, Ax.put, reduceCtorEq, true_or, false_or, or_true, or_false, and_true, true_and, AV.w.injEq, Value.int.injEq, Value.bool.injEq, AV.ms.injEq, AV.sb.injEq, AV.str.injEq, ↓reduceIte, Nat.reduceEqDiff, Nat.reduceLT, List.length_append, List.length_cons, List.length_nil, Nat.zero_add, Nat.add_zero, Option.some.injEq, Blk.b.injEq, Blk.i.injEq, Nat.succ_ne_zero, Nat.reduceAdd, and_self, hsn, hs]
        · have d2 : decide ((i : Int) < ps.length) = false := decide_eq_false (by omega)
          have hii : ps.take i = ps := List.take_of_length_le (by omega)
          have hL2 : (setPs bs ps).length = bs.length := setPs_len _ _
          obtain ⟨B, hB⟩ : ∃ B, setPs bs ps = B := ⟨_, rfl⟩
          rw [hB] at hL2
          simp -implicitDefEqProofs only [evT, implies_true, forall_const, Option.getD, later_normal, aop, aLen, ev, slot, setSlot, putSlot, cv, cvl, aConv, aBin, aInt, aUn, aFn, aEq, Out.and, isBool, isPtr, List.length, IntKind.bits, evs, evo, evps, aCall, aUser, coes, coe, List.append, List.replicate, callOut, rootsL, AV.roots, lendsL, AV.lends, pinsOf, nodup, lendL, lend, closedB, noimmB, AV.noimm, AV.ren, renL, back, Nat.reduceAdd, Nat.reduceSub, Nat.reduceMul, Int.reduceToNat, reduceCtorEq, aLoad, subv, aIndexAddr, aIndex, TD.aggr, guardSlot, aPick, byte, word, aMin, aMax, Ax.Ends, EndsX, Ax.rvals, rone, AV.ids, idsL, newIds, upTo, pinHeap, gOf, ↓reduceIte, List.isEmpty, Int.reducePow, Nat.reducePow, Int.reduceMod, Nat.reduceLeDiff, Int.reduceLE, Int.reduceNe, Int.reduceEq, aBuildSlice, fillB, aAppend, appendB, viewB, Ax.look, Ax.put, Ax.drop, List.drop, List.take, asv, aMake, aCopy, srcB, fillG, viewG, appendG, appendI, fillI, aSlice, bnd, bnds, full3, cut, aFieldAddr, aField, aStore, setB, aBox, aBuild, fillS, allTy, AV.leaves, AV.okv, AV.leaf, one, splice, elemLeaves, Blk.size, Blk.len, Option.isSome, Option.isNone, isBytes, aStr, aNil, aAlloc, aExtract, viewI, Nat.reduceEqDiff, Nat.reduceLT, Nat.reduceBEq, List.contains, List.elem, Blk.closed, closedL, AV.closed, Blk.noimm, ↓gsplit_tt, ↓gsplit_ff, ↓gsplit_tf, ↓gsplit_ft, ↓csplit_t, ↓csplit_f, Ax.idx, AV.lentIds, lentIdsL, dropAll, givenUp, AV.clean, cleanL, Blk.clean, cleanB, quietC, flatTy, coldStr, notMs, eqV, eqF, isStruct, evTP, laterF_normal, aopF, foot, footA, keepIn, dropIn, bids, Blk.ids, heldB, memOk, clearOf, Op.operands, Call.operands, List.map_cons, List.map_nil, List.toList_toArray, Array.toList_append, Option.toArray_some, Option.toArray_none, Bool.and_self, -coe, coe_w, coe_str, coe_agg, coe_tup, coe_sb, coe_si, coe_cp, coe_ms, coe_rf, coe_fn, coe_cons, ty, Sradd33, raddSPl, d2, hii, hB]
          refine ⟨_, Weak.refl _, ?_⟩
          simp -implicitDefEqProofs only [evT, implies_true, forall_const, Option.getD, later_normal, aop, aLen, ev, slot, setSlot, putSlot, cv, cvl, aConv, aBin, aInt, aUn, aFn, aEq, Out.and, isBool, isPtr, List.length, IntKind.bits, evs, evo, evps, aCall, aUser, coes, coe, List.append, List.replicate, callOut, rootsL, AV.roots, lendsL, AV.lends, pinsOf, nodup, lendL, lend, closedB, noimmB, AV.noimm, AV.ren, renL, back, Nat.reduceAdd, Nat.reduceSub, Nat.reduceMul, Int.reduceToNat, reduceCtorEq, aLoad, subv, aIndexAddr, aIndex, TD.aggr, guardSlot, aPick, byte, word, aMin, aMax, Ax.Ends, EndsX, Ax.rvals, rone, AV.ids, idsL, newIds, upTo, pinHeap, gOf, ↓reduceIte, List.isEmpty, Int.reducePow, Nat.reducePow, Int.reduceMod, Nat.reduceLeDiff, Int.reduceLE, Int.reduceNe, Int.reduceEq, aBuildSlice, fillB, aAppend, appendB, viewB, Ax.look, Ax.put, Ax.drop, List.drop, List.take, asv, aMake, aCopy, srcB, fillG, viewG, appendG, appendI, fillI, aSlice, bnd, bnds, full3, cut, aFieldAddr, aField, aStore, setB, aBox, aBuild, fillS, allTy, AV.leaves, AV.okv, AV.leaf, one, splice, elemLeaves, Blk.size, Blk.len, Option.isSome, Option.isNone, isBytes, aStr, aNil, aAlloc, aExtract, viewI, Nat.reduceEqDiff, Nat.reduceLT, Nat.reduceBEq, List.contains, List.elem, Blk.closed, closedL, AV.closed, Blk.noimm, ↓gsplit_tt, ↓gsplit_ff, ↓gsplit_tf, ↓gsplit_ft, ↓csplit_t, ↓csplit_f, Ax.idx, AV.lentIds, lentIdsL, dropAll, givenUp, AV.clean, cleanL, Blk.clean, cleanB, quietC, flatTy, coldStr, notMs, eqV, eqF, isStruct, evTP, laterF_normal, aopF, foot, footA, keepIn, dropIn, bids, Blk.ids, heldB, memOk, clearOf, Op.operands, Call.operands, List.map_cons, List.map_nil, List.toList_toArray, Array.toList_append, Option.toArray_some, Option.toArray_none, Bool.and_self, -coe, coe_w, coe_str, coe_agg, coe_tup, coe_sb, coe_si, coe_cp, coe_ms, coe_rf, coe_fn, coe_cons, ty, Sradd33, raddSPl]
          refine ⟨_, weak_fz 6 56 B rfl (by simp [slot, AV.ids, idsL]), ?_⟩
          have hd1 : decide (0 + bs.length ≤ B.length) = true := decide_eq_true (by omega)
          have htk : B.take bs.length = B := List.take_of_length_le (by omega)
          simp only [fzL, fzH, AV.fz, Blk.fz, Nat.reduceBEq, cond_true, cond_false, beq_self_eq_true, hd1, Bool.and_true, Bool.true_and, List.drop_zero, htk]
          simp -implicitDefEqProofs only [evT, implies_true, forall_const, Option.getD, later_normal, aop, aLen, ev, slot, setSlot, putSlot, cv, cvl, aConv, aBin, aInt, aUn, aFn, aEq, Out.and, isBool, isPtr, List.length, IntKind.bits, evs, evo, evps, aCall, aUser, coes, coe, List.append, List.replicate, callOut, rootsL, AV.roots, lendsL, AV.lends, pinsOf, nodup, lendL, lend, closedB, noimmB, AV.noimm, AV.ren, renL, back, Nat.reduceAdd, Nat.reduceSub, Nat.reduceMul, Int.reduceToNat, reduceCtorEq, aLoad, subv, aIndexAddr, aIndex, TD.aggr, guardSlot, aPick, byte, word, aMin, aMax, Ax.Ends, EndsX, Ax.rvals, rone, AV.ids, idsL, newIds, upTo, pinHeap, gOf, ↓reduceIte, List.isEmpty, Int.reducePow, Nat.reducePow, Int.reduceMod, Nat.reduceLeDiff, Int.reduceLE, Int.reduceNe, Int.reduceEq, aBuildSlice, fillB, aAppend, appendB, viewB, Ax.look, Ax.put, Ax.drop, List.drop, List.take, asv, aMake, aCopy, srcB, fillG, viewG, appendG, appendI, fillI, aSlice, bnd, bnds, full3, cut, aFieldAddr, aField, aStore, setB, aBox, aBuild, fillS, allTy, AV.leaves, AV.okv, AV.leaf, one, splice, elemLeaves, Blk.size, Blk.len, Option.isSome, Option.isNone, isBytes, aStr, aNil, aAlloc, aExtract, viewI, Nat.reduceEqDiff, Nat.reduceLT, Nat.reduceBEq, List.contains, List.elem, Blk.closed, closedL, AV.closed, Blk.noimm, ↓gsplit_tt, ↓gsplit_ff, ↓gsplit_tf, ↓gsplit_ft, ↓csplit_t, ↓csplit_f, Ax.idx, AV.lentIds, lentIdsL, dropAll, givenUp, AV.clean, cleanL, Blk.clean, cleanB, quietC, flatTy, coldStr, notMs, eqV, eqF, isStruct, evTP, laterF_normal, aopF, foot, footA, keepIn, dropIn, bids, Blk.ids, heldB, memOk, clearOf, Op.operands, Call.operands, List.map_cons, List.map_nil, List.toList_toArray, Array.toList_append, Option.toArray_some, Option.toArray_none, Bool.and_self, -coe, coe_w, coe_str, coe_agg, coe_tup, coe_sb, coe_si, coe_cp, coe_ms, coe_rf, coe_fn, coe_cons, ty, hA, hB, hN, hdo, cond_true]
    · have hv : chkB bs.length e n = 11 := if_neg ho
      have hN : addN bs.length e n = n := if_neg ho
      have hdo : decide (okSet bs.length e n) = false := decide_eq_false ho
      have hA : addB bs e n key = bs := by unfold addB places; rw [if_neg ho]; rfl
      simp -implicitDefEqProofs only [evT, implies_true, forall_const, Option.getD, later_normal, aop, aLen, ev, slot, setSlot, putSlot, cv, cvl, aConv, aBin, aInt, aUn, aFn, aEq, Out.and, isBool, isPtr, List.length, IntKind.bits, evs, evo, evps, aCall, aUser, coes, coe, List.append, List.replicate, callOut, rootsL, AV.roots, lendsL, AV.lends, pinsOf, nodup, lendL, lend, closedB, noimmB, AV.noimm, AV.ren, renL, back, Nat.reduceAdd, Nat.reduceSub, Nat.reduceMul, Int.reduceToNat, reduceCtorEq, aLoad, subv, aIndexAddr, aIndex, TD.aggr, guardSlot, aPick, byte, word, aMin, aMax, Ax.Ends, EndsX, Ax.rvals, rone, AV.ids, idsL, newIds, upTo, pinHeap, gOf, ↓reduceIte, List.isEmpty, Int.reducePow, Nat.reducePow, Int.reduceMod, Nat.reduceLeDiff, Int.reduceLE, Int.reduceNe, Int.reduceEq, aBuildSlice, fillB, aAppend, appendB, viewB, Ax.look, Ax.put, Ax.drop, List.drop, List.take, asv, aMake, aCopy, srcB, fillG, viewG, appendG, appendI, fillI, aSlice, bnd, bnds, full3, cut, aFieldAddr, aField, aStore, setB, aBox, aBuild, fillS, allTy, AV.leaves, AV.okv, AV.leaf, one, splice, elemLeaves, Blk.size, Blk.len, Option.isSome, Option.isNone, isBytes, aStr, aNil, aAlloc, aExtract, viewI, Nat.reduceEqDiff, Nat.reduceLT, Nat.reduceBEq, List.contains, List.elem, Blk.closed, closedL, AV.closed, Blk.noimm, ↓gsplit_tt, ↓gsplit_ff, ↓gsplit_tf, ↓gsplit_ft, ↓csplit_t, ↓csplit_f, Ax.idx, AV.lentIds, lentIdsL, dropAll, givenUp, AV.clean, cleanL, Blk.clean, cleanB, quietC, flatTy, coldStr, notMs, eqV, eqF, isStruct, evTP, laterF_normal, aopF, foot, footA, keepIn, dropIn, bids, Blk.ids, heldB, memOk, clearOf, Op.operands, Call.operands, List.map_cons, List.map_nil, List.toList_toArray, Array.toList_append, Option.toArray_some, Option.toArray_none, Bool.and_self, -coe, coe_w, coe_str, coe_agg, coe_tup, coe_sb, coe_si, coe_cp, coe_ms, coe_rf, coe_fn, coe_cons, ty, Sradd33, raddSPl, chkSetS, placesS, hb, hk, hv, hA, hN, hdo, tk, cond_false, cond_true, fillS]
      refine ⟨_, Weak.refl _, ?_⟩
      simp -implicitDefEqProofs only [evT, implies_true, forall_const, Option.getD, later_normal, aop, aLen, ev, slot, setSlot, putSlot, cv, cvl, aConv, aBin, aInt, aUn, aFn, aEq, Out.and, isBool, isPtr, List.length, IntKind.bits, evs, evo, evps, aCall, aUser, coes, coe, List.append, List.replicate, callOut, rootsL, AV.roots, lendsL, AV.lends, pinsOf, nodup, lendL, lend, closedB, noimmB, AV.noimm, AV.ren, renL, back, Nat.reduceAdd, Nat.reduceSub, Nat.reduceMul, Int.reduceToNat, reduceCtorEq, aLoad, subv, aIndexAddr, aIndex, TD.aggr, guardSlot, aPick, byte, word, aMin, aMax, Ax.Ends, EndsX, Ax.rvals, rone, AV.ids, idsL, newIds, upTo, pinHeap, gOf, ↓reduceIte, List.isEmpty, Int.reducePow, Nat.reducePow, Int.reduceMod, Nat.reduceLeDiff, Int.reduceLE, Int.reduceNe, Int.reduceEq, aBuildSlice, fillB, aAppend, appendB, viewB, Ax.look, Ax.put, Ax.drop, List.drop, List.take, asv, aMake, aCopy, srcB, fillG, viewG, appendG, appendI, fillI, aSlice, bnd, bnds, full3, cut, aFieldAddr, aField, aStore, setB, aBox, aBuild, fillS, allTy, AV.leaves, AV.okv, AV.leaf, one, splice, elemLeaves, Blk.size, Blk.len, Option.isSome, Option.isNone, isBytes, aStr, aNil, aAlloc, aExtract, viewI, Nat.reduceEqDiff, Nat.reduceLT, Nat.reduceBEq, List.contains, List.elem, Blk.closed, closedL, AV.closed, Blk.noimm, ↓gsplit_tt, ↓gsplit_ff, ↓gsplit_tf, ↓gsplit_ft, ↓csplit_t, ↓csplit_f, Ax.idx, AV.lentIds, lentIdsL, dropAll, givenUp, AV.clean, cleanL, Blk.clean, cleanB, quietC, flatTy, coldStr, notMs, eqV, eqF, isStruct, evTP, laterF_normal, aopF, foot, footA, keepIn, dropIn, bids, Blk.ids, heldB, memOk, clearOf, Op.operands, Call.operands, List.map_cons, List.map_nil, List.toList_toArray, Array.toList_append, Option.toArray_some, Option.toArray_none, Bool.and_self, -coe, coe_w, coe_str, coe_agg, coe_tup, coe_sb, coe_si, coe_cp, coe_ms, coe_rf, coe_fn, coe_cons, ty]
  · exact hp.elim
end
end Go.Proofs.Ythodcljimjglcaa
