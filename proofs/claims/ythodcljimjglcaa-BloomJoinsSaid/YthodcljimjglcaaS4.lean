/- Layer 33: a bit among bytes; a key is added. -/
import Derived.Test.YthodcljimjglcaaS3
namespace Go.Proofs.Ythodcljimjglcaa
open Ax
set_option linter.unusedSimpArgs false
set_option linter.unusedVariables false

/-- The bit of a place. -/
def mask (p : Nat) : UInt8 := UInt8.ofNat (2 ^ (p % 8))
def setP (bs : List UInt8) (p : Nat) : List UInt8 := bs.set (p / 8) (bs.getD (p / 8) 0 ||| mask p)
def hasP (bs : List UInt8) (p : Nat) : Bool := decide ((bs.getD (p / 8) 0).toNat / 2 ^ (p % 8) % 2 = 1)
def setPs (bs : List UInt8) (ps : List Int) : List UInt8 := ps.foldl (fun b p => setP b p.toNat) bs
def hasPs (bs : List UInt8) (ps : List Int) : Bool := ps.all fun p => hasP bs p.toNat
def atS : FSpec
  | [.w (.int .i64 p)], [] => ⟨0 ≤ p ∧ p ≤ 1000000, .tup [.w (.int .i64 ((p.toNat / 8 : Nat) : Int)), .w (.int .u8 ((mask p.toNat).toNat : Int))], []⟩
  | _, _ => noRes
theorem mask_nat (p : Nat) : (mask p).toNat = 2 ^ (p % 8) := by
  unfold mask
  rw [UInt8.toNat_ofNat']
  have : ∀ k : Fin 8, 2 ^ k.val % 256 = 2 ^ k.val := by decide
  exact this ⟨p % 8, Nat.mod_lt _ (by omega)⟩
theorem shl_one (p : Nat) : (1 * 2 ^ min (((p % 8 : Nat) : Int)).toNat 8 : Int) % 256 = ((mask p).toNat : Int) := by
  rw [mask_nat, Int.toNat_natCast, Nat.min_eq_left (by omega)]
  have : ∀ k : Fin 8, (1 * 2 ^ k.val : Int) % 256 = ((2 ^ k.val : Nat) : Int) := by decide
  exact this ⟨p % 8, Nat.mod_lt _ (by omega)⟩
section
set_option maxRecDepth 100000
set_option maxHeartbeats 1000000 in
theorem at_sound : Sound Try.prog 33 atS := by
  refine fn_sound (S := noS) (T := ty) mixed ty_ok noS_ok Try.func33 (c := Try.f33.body.getD .skip) (by kernel_rfl) (by kernel_rfl) (fun xs pins hp _ => ?_)
  unfold atS at hp ⊢
  split at hp
  · rename_i p _
    obtain ⟨h1, h2⟩ := hp
    refine ⟨by simp, ?_⟩
    obtain ⟨q, rfl⟩ : ∃ q : Nat, p = (q : Int) := ⟨p.toNat, by omega⟩
    have e1 : ((q : Int).tdiv 8 + 9223372036854775808) % 18446744073709551616 - 9223372036854775808 = ((q / 8 : Nat) : Int) := by
      rw [Int.tdiv_eq_ediv_of_nonneg (by omega)]; omega
    have e2 : (q : Int).tmod 8 = ((q % 8 : Nat) : Int) := tmod_cast q 8
    have e3 := shl_one q
    rw [Nat.min_def] at e3
    simp only [Int.toNat_natCast] at e3
    unfold Try.f33
    simp -implicitDefEqProofs only [evT, implies_true, forall_const, Option.getD, later_normal, aop, aLen, ev, slot, setSlot, putSlot, cv, cvl, aConv, aBin, aInt, aUn, aFn, aEq, Out.and, isBool, isPtr, List.length, IntKind.bits, evs, evo, evps, aCall, aUser, coes, coe, List.append, List.replicate, callOut, rootsL, AV.roots, lendsL, AV.lends, pinsOf, nodup, lendL, lend, closedB, noimmB, AV.noimm, AV.ren, renL, back, Nat.reduceAdd, Nat.reduceSub, Nat.reduceMul, Int.reduceToNat, reduceCtorEq, aLoad, subv, aIndexAddr, aIndex, TD.aggr, guardSlot, aPick, byte, word, aMin, aMax, Ax.Ends, EndsX, Ax.rvals, rone, AV.ids, idsL, newIds, upTo, pinHeap, gOf, ↓reduceIte, List.isEmpty, Int.reducePow, Nat.reducePow, Int.reduceMod, Nat.reduceLeDiff, Int.reduceLE, Int.reduceNe, Int.reduceEq, aBuildSlice, fillB, aAppend, appendB, viewB, Ax.look, Ax.put, Ax.drop, List.drop, List.take, asv, aMake, aCopy, srcB, fillG, viewG, appendG, appendI, fillI, aSlice, bnd, bnds, full3, cut, aFieldAddr, aField, aStore, setB, aBox, aBuild, fillS, allTy, AV.leaves, AV.okv, AV.leaf, one, splice, elemLeaves, Blk.size, Blk.len, Option.isSome, Option.isNone, isBytes, aStr, aNil, aAlloc, aExtract, viewI, Nat.reduceEqDiff, Nat.reduceLT, Nat.reduceBEq, List.contains, List.elem, Blk.closed, closedL, AV.closed, Blk.noimm, ↓gsplit_tt, ↓gsplit_ff, ↓gsplit_tf, ↓gsplit_ft, ↓csplit_t, ↓csplit_f, Ax.idx, AV.lentIds, lentIdsL, dropAll, givenUp, AV.clean, cleanL, Blk.clean, cleanB, quietC, flatTy, coldStr, notMs, eqV, eqF, isStruct, -coe, coe_w, coe_str, coe_agg, coe_tup, coe_sb, coe_si, coe_cp, coe_ms, coe_rf, coe_fn, coe_cons, ty, noS, e1, e2, e3]
    exact Int.natCast_nonneg _
  · exact hp.elim
end
end Go.Proofs.Ythodcljimjglcaa
