/- Layer 1: put. -/
import Derived.Test.YtliabgocaijafaaA1
import Derived.Test.YtliabgocaijafaaAxZb
namespace Go.Proofs.Ytliabgocaijafaa
open Ax
set_option linter.unusedSimpArgs false
set_option linter.unusedVariables false

def putU (u : Nat) : List UInt8 := if u < 128 then [UInt8.ofNat u] else UInt8.ofNat (u % 128 + 128) :: putU (u / 128)
termination_by u
decreasing_by omega

def putS : FSpec
  | [.w (.int k n)], [] => ⟨k = .i64 ∧ -9223372036854775808 ≤ n ∧ n ≤ 9223372036854775807, .ms 0 1 0 (putU (zz n).toNat).length, [.b (putU (zz n).toNat)]⟩
  | _, _ => noRes

def S2 (f : FuncId) : Option FSpec :=
  match f with
  | _ => none
theorem S2_ok : Fns Try.prog S2 := by
  intro f s h
  unfold S2 at h
  cases h

theorem putU_big {u : Nat} (h : ¬ u < 128) : putU u = UInt8.ofNat (u % 128 + 128) :: putU (u / 128) := by
  rw [putU, if_neg h]
theorem putU_small {u : Nat} (h : u < 128) : putU u = [UInt8.ofNat u] := by
  rw [putU, if_pos h]
theorem putU_pos (u : Nat) : 0 < (putU u).length := by
  rw [putU]; split <;> simp
theorem putU_len : ∀ (k u : Nat), u < 128 ^ (k + 1) → (putU u).length ≤ k + 1
  | 0, u, h => by rw [putU_small (by simpa using h)]; simp
  | k + 1, u, h => by
    by_cases hu : u < 128
    · rw [putU_small hu]; simp
    · rw [putU_big hu]
      have := putU_len k (u / 128) (by rw [Nat.div_lt_iff_lt_mul (by decide)]; rw [Nat.pow_succ] at h; exact h)
      simp; omega
theorem p128 : (128 : Nat) ^ (9 + 1) = 1180591620717411303424 := by simp
theorem putU_length (u : Nat) (h : u < 18446744073709551616) : (putU u).length ≤ 10 := putU_len 9 u (by rw [p128]; omega)

theorem or128_nat : ∀ x : Fin 256, x.val ||| 128 = x.val % 128 + 128 := by decide +kernel
theorem or128 (m : Nat) : bits .or .u8 ((m : Int) % 256) 128 = ((m % 128 + 128 : Nat) : Int) := by
  rw [u8_or _ _ (by omega) (by omega) (by omega) (by omega)]
  have e : ((m : Int) % 256).toNat = m % 256 := by omega
  have := or128_nat ⟨m % 256, by omega⟩
  simp only at this
  rw [e, show (128 : Int).toNat = 128 from rfl, this]
  omega

theorem zz_range (n : Int) (h1 : -9223372036854775808 ≤ n) (h2 : n ≤ 9223372036854775807) : 0 ≤ zz n ∧ zz n < 18446744073709551616 := by
  unfold zz; split <;> omega

section
set_option maxRecDepth 100000
def bytesS : FSpec
  | [.w (.int k u)], [] => ⟨k = .u64 ∧ 0 ≤ u ∧ u < 18446744073709551616, .ms 0 1 0 (putU u.toNat).length, [.b (putU u.toNat)]⟩
  | _, _ => noRes

def S19 (f : FuncId) : Option FSpec :=
  match f with
  | _ => none
theorem S19_ok : Fns Try.prog S19 := by
  intro f s h
  unfold S19 at h
  cases h
def clampI (n : Int) : Int := if n < 0 then 0 else if 8 < n then 8 else n
def clampS : FSpec
  | [.w (.int k n)], [] => ⟨k = .i64, .w (.int .i64 (clampI n)), []⟩
  | _, _ => noRes
theorem clamp_sound : Sound Try.prog 25 clampS := by
  refine fn_sound (S := noS) (T := ty) mixed ty_ok noS_ok Try.func25 (c := Try.f25.body.getD .skip) (by kernel_rfl) (by kernel_rfl) (fun xs pins hp _ => ?_)
  unfold clampS at hp ⊢
  split at hp
  · rename_i n _
    obtain rfl := hp
    refine ⟨by decide, ?_⟩
    unfold Try.f25
    simp only [evT, implies_true, forall_const, Option.getD, later_normal, aop, aLen, ev, slot, setSlot, putSlot, cv, cvl, aConv, aBin, aInt, aUn, aFn, aEq, Out.and, isBool, isPtr, List.length, IntKind.bits, evs, evo, evps, aCall, aUser, coes, coe, List.append, List.replicate, callOut, rootsL, AV.roots, lendsL, AV.lends, pinsOf, nodup, lendL, lend, closedB, noimmB, AV.noimm, AV.ren, renL, back, Nat.reduceAdd, Nat.reduceSub, Nat.reduceMul, Int.reduceToNat, reduceCtorEq, aLoad, subv, aIndexAddr, aIndex, TD.aggr, guardSlot, aPick, byte, word, aMin, aMax, Ax.Ends, EndsX, Ax.rvals, rone, AV.ids, idsL, newIds, upTo, pinHeap, gOf, ↓reduceIte, List.isEmpty, Int.reducePow, Nat.reducePow, Int.reduceMod, Nat.reduceLeDiff, Int.reduceLE, Int.reduceNe, Int.reduceEq, aBuildSlice, fillB, aAppend, appendB, viewB, Ax.look, Ax.put, Ax.drop, List.drop, List.take, asv, aMake, aCopy, srcB, fillG, viewG, appendG, appendI, fillI, aSlice, bnd, bnds, full3, cut, aFieldAddr, aField, aStore, setB, aBox, aBuild, fillS, allTy, AV.leaves, AV.okv, AV.leaf, one, splice, elemLeaves, Blk.size, Blk.len, Option.isSome, Option.isNone, isBytes, aStr, aNil, aAlloc, aExtract, viewI, Nat.reduceEqDiff, Nat.reduceLT, Nat.reduceBEq, List.contains, List.elem, Blk.closed, closedL, AV.closed, Blk.noimm, ↓gsplit_tt, ↓gsplit_ff, ↓gsplit_tf, ↓gsplit_ft, ↓csplit_t, ↓csplit_f, Ax.idx, AV.lentIds, lentIdsL, dropAll, givenUp, AV.clean, cleanL, Blk.clean, cleanB, quietC, flatTy, coldStr, notMs, eqV, eqF, isStruct, ty, noS]
    unfold clampI
    repeat' split
    all_goals omega
  · exact hp.elim

/-- The document's text: the number of its bytes, and they. -/
def textL (s : List UInt8) : List UInt8 := putU (2 * s.length) ++ s
def textS : FSpec
  | [.str s], [] => ⟨s.length ≤ 1000000, .ms 0 1 0 (textL s).length, [.b (textL s)]⟩
  | _, _ => noRes
def S37 (f : FuncId) : Option FSpec :=
  match f with
  | _ => none
theorem S37_ok : Fns Try.prog S37 := by
  intro f s h
  unfold S37 at h
  cases h
end
end Go.Proofs.Ytliabgocaijafaa
