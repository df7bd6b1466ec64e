/- Layer 3: records are got. -/
import Derived.Test.YthmkhlmohjcbgaaR2
namespace Go.Proofs.Ythmkhlmohjcbgaa
open Ax
set_option linter.unusedSimpArgs false
set_option linter.unusedVariables false

theorem and1 : ∀ x : Fin 256, bits .and .u8 ((x.val : Nat) : Int) 1 = if x.val % 2 = 1 then 1 else 0 := by decide +kernel
theorem and2 : ∀ x : Fin 256, bits .and .u8 ((x.val : Nat) : Int) 2 = if x.val / 2 % 2 = 1 then 2 else 0 := by decide +kernel

/-- The first byte, and what is read behind it, step by step. -/
def g0 (bs : List UInt8) (e : Int) : Nat := (rfixN 1 bs e).toNat
def gb1 (bs : List UInt8) (e : Int) := rfixL 1 bs e
def ge1 (bs : List UInt8) (e : Int) := rfixE 1 bs e
def gd (bs : List UInt8) (e : Int) : Int := numN (gb1 bs e) (ge1 bs e)
def gb2 (bs : List UInt8) (e : Int) := numL (gb1 bs e) (ge1 bs e)
def ge2 (bs : List UInt8) (e : Int) := numE (gb1 bs e) (ge1 bs e)
def gt (bs : List UInt8) (e : Int) : Int := numN (gb2 bs e) (ge2 bs e)
def gb3 (bs : List UInt8) (e : Int) := numL (gb2 bs e) (ge2 bs e)
def ge3 (bs : List UInt8) (e : Int) := numE (gb2 bs e) (ge2 bs e)
def gk (bs : List UInt8) (e : Int) : Bool := decide (g0 bs e % 2 = 1)
def gdd (bs : List UInt8) (e : Int) : Bool := decide (g0 bs e / 2 % 2 = 1)
def gkey (bs : List UInt8) (e : Int) : List UInt8 := if gk bs e then rtS' 64 (gb3 bs e) (ge3 bs e) else []
def gb4 (bs : List UInt8) (e : Int) : List UInt8 := if gk bs e then rtL 64 (gb3 bs e) (ge3 bs e) else gb3 bs e
def ge4 (bs : List UInt8) (e : Int) : Int := if gk bs e then rtE 64 (gb3 bs e) (ge3 bs e) else ge3 bs e
def gval (bs : List UInt8) (e : Int) : List UInt8 := if gdd bs e then [] else rtS' 512 (gb4 bs e) (ge4 bs e)
def gb5 (bs : List UInt8) (e : Int) : List UInt8 := if gdd bs e then gb4 bs e else rtL 512 (gb4 bs e) (ge4 bs e)
def ge5 (bs : List UInt8) (e : Int) : Int := if gdd bs e then ge4 bs e else rtE 512 (gb4 bs e) (ge4 bs e)
def gerr (bs : List UInt8) (e : Int) : Int :=
  if ge5 bs e ≠ 0 then ge5 bs e else if 4 ≤ g0 bs e ∨ rchk (gd bs e) (gt bs e) (gk bs e) (gkey bs e) (gdd bs e) (gval bs e) ≠ 0 then 4 else 0
def grec (bs : List UInt8) (e : Int) : AV := if gerr bs e = 0 then recV (gd bs e) (gt bs e) (gk bs e) (gkey bs e) (gdd bs e) (gval bs e) else recV 0 0 false [] false []

def rgetS : FSpec
  | [.rf 0 2 0 0], [.g 2 [.agg [.sb bs f, .w (.int .i64 e)]]] => ⟨bs.length ≤ 1000000, .tup [grec bs e, .w (.int .i64 (gerr bs e))], [rd (gb5 bs e) f (ge5 bs e)]⟩
  | [.w (.pointer none)], [] => ⟨True, .tup [recV 0 0 false [] false [], .w (.int .i64 1)], []⟩
  | _, _ => noRes
def Srget (f : FuncId) : Option FSpec :=
  match f with
  | 52 => some rfixS
  | 35 => some numS
  | 53 => some rtextS'
  | 54 => some errS
  | 55 => some rchkS
  | _ => none
theorem Srget_ok : Fns Try.prog Srget := by
  intro f s h
  unfold Srget at h
  split at h
  · injection h with h; subst h; exact ⟨⟨_, Try.func52, by kernel_rfl, by kernel_rfl⟩, mfixed_sound⟩
  · injection h with h; subst h; exact ⟨⟨_, Try.func35, by kernel_rfl, by kernel_rfl⟩, num_sound⟩
  · injection h with h; subst h; exact ⟨⟨_, Try.func53, by kernel_rfl, by kernel_rfl⟩, mtext_sound⟩
  · injection h with h; subst h; exact ⟨⟨_, Try.func54, by kernel_rfl, by kernel_rfl⟩, err_sound⟩
  · injection h with h; subst h; exact ⟨⟨_, Try.func55, by kernel_rfl, by kernel_rfl⟩, rcheck_sound⟩
  · cases h
theorem tkL_length (n : Int) (bs : List UInt8) : (tkL n bs).length ≤ bs.length := by unfold tkL; split <;> simp
theorem rtL_length (m : Int) (bs : List UInt8) (e : Int) : (rtL m bs e).length ≤ bs.length := by
  unfold rtL
  have h1 := numL_length bs e
  split
  · have := tkL_length (numN bs e) (numL bs e); omega
  · exact h1
theorem rfixL_length (n : Int) (bs : List UInt8) (e : Int) : (rfixL n bs e).length ≤ bs.length := by
  unfold rfixL; split
  · exact tkL_length _ _
  · exact Nat.le_refl _
theorem unf1 (bs : List UInt8) (h : bs.length ≤ 1) : unfL (last8 bs) 0 < 256 := by
  have hl : last8 bs = bs := by unfold last8; rw [show bs.length - 8 = 0 by omega, List.drop_zero]
  rw [hl]
  match bs, h with
  | [], _ => simp [unfL]
  | [c], _ =>
    have := c.toNat_lt
    simp only [unfL, List.foldl_cons, List.foldl_nil]
    omega
theorem rfix1 (bs : List UInt8) (e : Int) : 0 ≤ rfixN 1 bs e ∧ rfixN 1 bs e < 256 := by
  unfold rfixN
  split
  · have h : (tkB (clampI 1) bs).length ≤ 1 := by
      have : clampI 1 = 1 := by decide
      rw [this]; unfold tkB; split
      · simp
      · simp; omega
    have := unf1 _ h
    omega
  · omega

section
set_option maxRecDepth 100000
set_option maxHeartbeats 2000000 in
theorem recget_sound : Sound Try.prog 36 rgetS := by
  refine fn_sound (S := Srget) (T := ty) mixed ty_ok Srget_ok Try.func36 (c := Try.f36.body.getD .skip) (by kernel_rfl) (by kernel_rfl) (fun xs pins hp _ => ?_)
  unfold rgetS at hp ⊢
  split at hp
  · rename_i bs f e _
    have hlen : bs.length ≤ 1000000 := hp
    refine ⟨by simp, ?_⟩
    have hr := rfix1 bs e
    have hN : rfixN 1 bs e = ((g0 bs e : Nat) : Int) := by unfold g0; omega
    have hN2 : g0 bs e < 256 := by omega
    have a1 := and1 ⟨g0 bs e, hN2⟩
    have a2 := and2 ⟨g0 bs e, hN2⟩
    simp only at a1 a2
    have hm1 : ((g0 bs e : Nat) : Int) % 256 = ((g0 bs e : Nat) : Int) := by omega
    have q1 : (gb1 bs e).length ≤ 1000000 := by have := rfixL_length 1 bs e; unfold gb1; omega
    have q2 : (gb2 bs e).length ≤ 1000000 := by have := numL_length (gb1 bs e) (ge1 bs e); unfold gb2; omega
    have q3 : (gb3 bs e).length ≤ 1000000 := by have := numL_length (gb2 bs e) (ge2 bs e); unfold gb3; omega
    have q4 : (gb4 bs e).length ≤ 1000000 := by have := rtL_length 64 (gb3 bs e) (ge3 bs e); unfold gb4; split <;> omega
    have i1 : rfixL 1 bs e = gb1 bs e := rfl
    have i2 : rfixE 1 bs e = ge1 bs e := rfl
    have i3 : numN (gb1 bs e) (ge1 bs e) = gd bs e := rfl
    have i4 : numL (gb1 bs e) (ge1 bs e) = gb2 bs e := rfl
    have i5 : numE (gb1 bs e) (ge1 bs e) = ge2 bs e := rfl
    have i6 : numN (gb2 bs e) (ge2 bs e) = gt bs e := rfl
    have i7 : numL (gb2 bs e) (ge2 bs e) = gb3 bs e := rfl
    have i8 : numE (gb2 bs e) (ge2 bs e) = ge3 bs e := rfl
    unfold Try.f36
    rcases Bool.eq_false_or_eq_true (gk bs e) with hk | hk <;> rcases Bool.eq_false_or_eq_true (gdd bs e) with hdd | hdd
    · have c1 : bits .and .u8 ((g0 bs e : Nat) : Int) 1 = 1 := by rw [a1]; unfold gk at hk; simpa using hk
      have c2 : bits .and .u8 ((g0 bs e : Nat) : Int) 2 = 2 := by rw [a2]; unfold gdd at hdd; simpa using hdd
      have x1 : rtL 64 (gb3 bs e) (ge3 bs e) = gb4 bs e := by unfold gb4; rw [hk]; rfl
      have x2 : rtE 64 (gb3 bs e) (ge3 bs e) = ge4 bs e := by unfold ge4; rw [hk]; rfl
      have x3 : rtS' 64 (gb3 bs e) (ge3 bs e) = gkey bs e := by unfold gkey; rw [hk]; rfl
      have x4 : gb5 bs e = gb4 bs e := by unfold gb5; rw [hdd]; rfl
      have x5 : ge5 bs e = ge4 bs e := by unfold ge5; rw [hdd]; rfl
      have x6 : gval bs e = [] := by unfold gval; rw [hdd]; rfl
      by_cases h5 : ge4 bs e = 0
      · have e5 : ge5 bs e = 0 := by first | exact h5 | (rw [x5]; exact h5)
        by_cases h4 : 4 ≤ g0 bs e
        · have d4 : decide ((4 : Int) ≤ ((g0 bs e : Nat) : Int)) = true := decide_eq_true (by omega)
          have hG : gerr bs e = 4 := by unfold gerr; rw [if_neg (by simpa using e5), if_pos (.inl h4)]
          have hV : grec bs e = recV 0 0 false [] false [] := by unfold grec; rw [hG]; rfl
          simp -implicitDefEqProofs only [evT, implies_true, forall_const, Option.getD, later_normal, aop, aLen, ev, slot, setSlot, putSlot, cv, cvl, aConv, aBin, aInt, aUn, aFn, aEq, Out.and, isBool, isPtr, List.length, IntKind.bits, evs, evo, evps, aCall, aUser, coes, coe, List.append, List.replicate, callOut, rootsL, AV.roots, lendsL, AV.lends, pinsOf, nodup, lendL, lend, closedB, noimmB, AV.noimm, AV.ren, renL, back, Nat.reduceAdd, Nat.reduceSub, Nat.reduceMul, Int.reduceToNat, reduceCtorEq, aLoad, subv, aIndexAddr, aIndex, TD.aggr, guardSlot, aPick, byte, word, aMin, aMax, Ax.Ends, EndsX, Ax.rvals, rone, AV.ids, idsL, newIds, upTo, pinHeap, gOf, ↓reduceIte, List.isEmpty, Int.reducePow, Nat.reducePow, Int.reduceMod, Nat.reduceLeDiff, Int.reduceLE, Int.reduceNe, Int.reduceEq, aBuildSlice, fillB, aAppend, appendB, viewB, Ax.look, Ax.put, Ax.drop, List.drop, List.take, asv, aMake, aCopy, srcB, fillG, viewG, appendG, appendI, fillI, aSlice, bnd, bnds, full3, cut, aFieldAddr, aField, aStore, setB, aBox, aBuild, fillS, allTy, AV.leaves, AV.okv, AV.leaf, one, splice, elemLeaves, Blk.size, Blk.len, Option.isSome, Option.isNone, isBytes, aStr, aNil, aAlloc, aExtract, viewI, Nat.reduceEqDiff, Nat.reduceLT, Nat.reduceBEq, List.contains, List.elem, Blk.closed, closedL, AV.closed, Blk.noimm, ↓gsplit_tt, ↓gsplit_ff, ↓gsplit_tf, ↓gsplit_ft, ↓csplit_t, ↓csplit_f, Ax.idx, AV.lentIds, lentIdsL, dropAll, givenUp, AV.clean, cleanL, Blk.clean, cleanB, quietC, flatTy, coldStr, notMs, eqV, eqF, isStruct, ty, Srget, rfixS, numS, rtextS', errS, rchkS, rd, fillS, recV, hN, hm1, c1, c2, i1, i2, i3, i4, i5, i6, i7, i8, x1, x2, x3, x4, x5, x6, hlen, q1, q2, q3, q4, h5, d4, hG, hV]
        · have d4 : decide ((4 : Int) ≤ ((g0 bs e : Nat) : Int)) = false := decide_eq_false (by omega)
          by_cases hc : rchk (gd bs e) (gt bs e) true (gkey bs e) true ([]) = 0
          · have hG : gerr bs e = 0 := by unfold gerr; rw [if_neg (by simpa using e5), hk, hdd, x6, if_neg (by rintro (h | h); exact h4 h; exact h hc)]
            have hV : grec bs e = recV (gd bs e) (gt bs e) true (gkey bs e) true ([]) := by unfold grec; rw [hG, if_pos rfl, hk, hdd, x6]
            simp -implicitDefEqProofs only [evT, implies_true, forall_const, Option.getD, later_normal, aop, aLen, ev, slot, setSlot, putSlot, cv, cvl, aConv, aBin, aInt, aUn, aFn, aEq, Out.and, isBool, isPtr, List.length, IntKind.bits, evs, evo, evps, aCall, aUser, coes, coe, List.append, List.replicate, callOut, rootsL, AV.roots, lendsL, AV.lends, pinsOf, nodup, lendL, lend, closedB, noimmB, AV.noimm, AV.ren, renL, back, Nat.reduceAdd, Nat.reduceSub, Nat.reduceMul, Int.reduceToNat, reduceCtorEq, aLoad, subv, aIndexAddr, aIndex, TD.aggr, guardSlot, aPick, byte, word, aMin, aMax, Ax.Ends, EndsX, Ax.rvals, rone, AV.ids, idsL, newIds, upTo, pinHeap, gOf, ↓reduceIte, List.isEmpty, Int.reducePow, Nat.reducePow, Int.reduceMod, Nat.reduceLeDiff, Int.reduceLE, Int.reduceNe, Int.reduceEq, aBuildSlice, fillB, aAppend, appendB, viewB, Ax.look, Ax.put, Ax.drop, List.drop, List.take, asv, aMake, aCopy, srcB, fillG, viewG, appendG, appendI, fillI, aSlice, bnd, bnds, full3, cut, aFieldAddr, aField, aStore, setB, aBox, aBuild, fillS, allTy, AV.leaves, AV.okv, AV.leaf, one, splice, elemLeaves, Blk.size, Blk.len, Option.isSome, Option.isNone, isBytes, aStr, aNil, aAlloc, aExtract, viewI, Nat.reduceEqDiff, Nat.reduceLT, Nat.reduceBEq, List.contains, List.elem, Blk.closed, closedL, AV.closed, Blk.noimm, ↓gsplit_tt, ↓gsplit_ff, ↓gsplit_tf, ↓gsplit_ft, ↓csplit_t, ↓csplit_f, Ax.idx, AV.lentIds, lentIdsL, dropAll, givenUp, AV.clean, cleanL, Blk.clean, cleanB, quietC, flatTy, coldStr, notMs, eqV, eqF, isStruct, ty, Srget, rfixS, numS, rtextS', errS, rchkS, rd, fillS, recV, hN, hm1, c1, c2, i1, i2, i3, i4, i5, i6, i7, i8, x1, x2, x3, x4, x5, x6, hlen, q1, q2, q3, q4, h5, d4, hG, hV, hc]
          · have hG : gerr bs e = 4 := by unfold gerr; rw [if_neg (by simpa using e5), hk, hdd, x6, if_pos (.inr hc)]
            have hV : grec bs e = recV 0 0 false [] false [] := by unfold grec; rw [hG]; rfl
            have d5 : decide (rchk (gd bs e) (gt bs e) true (gkey bs e) true ([]) = 0) = false := decide_eq_false hc
            simp -implicitDefEqProofs only [evT, implies_true, forall_const, Option.getD, later_normal, aop, aLen, ev, slot, setSlot, putSlot, cv, cvl, aConv, aBin, aInt, aUn, aFn, aEq, Out.and, isBool, isPtr, List.length, IntKind.bits, evs, evo, evps, aCall, aUser, coes, coe, List.append, List.replicate, callOut, rootsL, AV.roots, lendsL, AV.lends, pinsOf, nodup, lendL, lend, closedB, noimmB, AV.noimm, AV.ren, renL, back, Nat.reduceAdd, Nat.reduceSub, Nat.reduceMul, Int.reduceToNat, reduceCtorEq, aLoad, subv, aIndexAddr, aIndex, TD.aggr, guardSlot, aPick, byte, word, aMin, aMax, Ax.Ends, EndsX, Ax.rvals, rone, AV.ids, idsL, newIds, upTo, pinHeap, gOf, ↓reduceIte, List.isEmpty, Int.reducePow, Nat.reducePow, Int.reduceMod, Nat.reduceLeDiff, Int.reduceLE, Int.reduceNe, Int.reduceEq, aBuildSlice, fillB, aAppend, appendB, viewB, Ax.look, Ax.put, Ax.drop, List.drop, List.take, asv, aMake, aCopy, srcB, fillG, viewG, appendG, appendI, fillI, aSlice, bnd, bnds, full3, cut, aFieldAddr, aField, aStore, setB, aBox, aBuild, fillS, allTy, AV.leaves, AV.okv, AV.leaf, one, splice, elemLeaves, Blk.size, Blk.len, Option.isSome, Option.isNone, isBytes, aStr, aNil, aAlloc, aExtract, viewI, Nat.reduceEqDiff, Nat.reduceLT, Nat.reduceBEq, List.contains, List.elem, Blk.closed, closedL, AV.closed, Blk.noimm, ↓gsplit_tt, ↓gsplit_ff, ↓gsplit_tf, ↓gsplit_ft, ↓csplit_t, ↓csplit_f, Ax.idx, AV.lentIds, lentIdsL, dropAll, givenUp, AV.clean, cleanL, Blk.clean, cleanB, quietC, flatTy, coldStr, notMs, eqV, eqF, isStruct, ty, Srget, rfixS, numS, rtextS', errS, rchkS, rd, fillS, recV, hN, hm1, c1, c2, i1, i2, i3, i4, i5, i6, i7, i8, x1, x2, x3, x4, x5, x6, hlen, q1, q2, q3, q4, h5, d4, hG, hV, d5]
      · have e5 : ¬ ge5 bs e = 0 := by first | exact h5 | (rw [x5]; exact h5)
        have d5 : decide (ge4 bs e = 0) = false := decide_eq_false h5
        have hG : gerr bs e = ge4 bs e := by unfold gerr; rw [if_pos e5]; exact x5
        have hV : grec bs e = recV 0 0 false [] false [] := by unfold grec; rw [hG, if_neg h5]
        simp -implicitDefEqProofs only [evT, implies_true, forall_const, Option.getD, later_normal, aop, aLen, ev, slot, setSlot, putSlot, cv, cvl, aConv, aBin, aInt, aUn, aFn, aEq, Out.and, isBool, isPtr, List.length, IntKind.bits, evs, evo, evps, aCall, aUser, coes, coe, List.append, List.replicate, callOut, rootsL, AV.roots, lendsL, AV.lends, pinsOf, nodup, lendL, lend, closedB, noimmB, AV.noimm, AV.ren, renL, back, Nat.reduceAdd, Nat.reduceSub, Nat.reduceMul, Int.reduceToNat, reduceCtorEq, aLoad, subv, aIndexAddr, aIndex, TD.aggr, guardSlot, aPick, byte, word, aMin, aMax, Ax.Ends, EndsX, Ax.rvals, rone, AV.ids, idsL, newIds, upTo, pinHeap, gOf, ↓reduceIte, List.isEmpty, Int.reducePow, Nat.reducePow, Int.reduceMod, Nat.reduceLeDiff, Int.reduceLE, Int.reduceNe, Int.reduceEq, aBuildSlice, fillB, aAppend, appendB, viewB, Ax.look, Ax.put, Ax.drop, List.drop, List.take, asv, aMake, aCopy, srcB, fillG, viewG, appendG, appendI, fillI, aSlice, bnd, bnds, full3, cut, aFieldAddr, aField, aStore, setB, aBox, aBuild, fillS, allTy, AV.leaves, AV.okv, AV.leaf, one, splice, elemLeaves, Blk.size, Blk.len, Option.isSome, Option.isNone, isBytes, aStr, aNil, aAlloc, aExtract, viewI, Nat.reduceEqDiff, Nat.reduceLT, Nat.reduceBEq, List.contains, List.elem, Blk.closed, closedL, AV.closed, Blk.noimm, ↓gsplit_tt, ↓gsplit_ff, ↓gsplit_tf, ↓gsplit_ft, ↓csplit_t, ↓csplit_f, Ax.idx, AV.lentIds, lentIdsL, dropAll, givenUp, AV.clean, cleanL, Blk.clean, cleanB, quietC, flatTy, coldStr, notMs, eqV, eqF, isStruct, ty, Srget, rfixS, numS, rtextS', errS, rchkS, rd, fillS, recV, hN, hm1, c1, c2, i1, i2, i3, i4, i5, i6, i7, i8, x1, x2, x3, x4, x5, x6, hlen, q1, q2, q3, q4, d5, hG, hV]
    · have c1 : bits .and .u8 ((g0 bs e : Nat) : Int) 1 = 1 := by rw [a1]; unfold gk at hk; simpa using hk
      have c2 : bits .and .u8 ((g0 bs e : Nat) : Int) 2 = 0 := by rw [a2]; unfold gdd at hdd; simpa using hdd
      have x1 : rtL 64 (gb3 bs e) (ge3 bs e) = gb4 bs e := by unfold gb4; rw [hk]; rfl
      have x2 : rtE 64 (gb3 bs e) (ge3 bs e) = ge4 bs e := by unfold ge4; rw [hk]; rfl
      have x3 : rtS' 64 (gb3 bs e) (ge3 bs e) = gkey bs e := by unfold gkey; rw [hk]; rfl
      have x4 : rtL 512 (gb4 bs e) (ge4 bs e) = gb5 bs e := by unfold gb5; rw [hdd]; rfl
      have x5 : rtE 512 (gb4 bs e) (ge4 bs e) = ge5 bs e := by unfold ge5; rw [hdd]; rfl
      have x6 : rtS' 512 (gb4 bs e) (ge4 bs e) = gval bs e := by unfold gval; rw [hdd]; rfl
      by_cases h5 : ge5 bs e = 0
      · have e5 : ge5 bs e = 0 := by first | exact h5 | (rw [x5]; exact h5)
        by_cases h4 : 4 ≤ g0 bs e
        · have d4 : decide ((4 : Int) ≤ ((g0 bs e : Nat) : Int)) = true := decide_eq_true (by omega)
          have hG : gerr bs e = 4 := by unfold gerr; rw [if_neg (by simpa using e5), if_pos (.inl h4)]
          have hV : grec bs e = recV 0 0 false [] false [] := by unfold grec; rw [hG]; rfl
          simp -implicitDefEqProofs only [evT, implies_true, forall_const, Option.getD, later_normal, aop, aLen, ev, slot, setSlot, putSlot, cv, cvl, aConv, aBin, aInt, aUn, aFn, aEq, Out.and, isBool, isPtr, List.length, IntKind.bits, evs, evo, evps, aCall, aUser, coes, coe, List.append, List.replicate, callOut, rootsL, AV.roots, lendsL, AV.lends, pinsOf, nodup, lendL, lend, closedB, noimmB, AV.noimm, AV.ren, renL, back, Nat.reduceAdd, Nat.reduceSub, Nat.reduceMul, Int.reduceToNat, reduceCtorEq, aLoad, subv, aIndexAddr, aIndex, TD.aggr, guardSlot, aPick, byte, word, aMin, aMax, Ax.Ends, EndsX, Ax.rvals, rone, AV.ids, idsL, newIds, upTo, pinHeap, gOf, ↓reduceIte, List.isEmpty, Int.reducePow, Nat.reducePow, Int.reduceMod, Nat.reduceLeDiff, Int.reduceLE, Int.reduceNe, Int.reduceEq, aBuildSlice, fillB, aAppend, appendB, viewB, Ax.look, Ax.put, Ax.drop, List.drop, List.take, asv, aMake, aCopy, srcB, fillG, viewG, appendG, appendI, fillI, aSlice, bnd, bnds, full3, cut, aFieldAddr, aField, aStore, setB, aBox, aBuild, fillS, allTy, AV.leaves, AV.okv, AV.leaf, one, splice, elemLeaves, Blk.size, Blk.len, Option.isSome, Option.isNone, isBytes, aStr, aNil, aAlloc, aExtract, viewI, Nat.reduceEqDiff, Nat.reduceLT, Nat.reduceBEq, List.contains, List.elem, Blk.closed, closedL, AV.closed, Blk.noimm, ↓gsplit_tt, ↓gsplit_ff, ↓gsplit_tf, ↓gsplit_ft, ↓csplit_t, ↓csplit_f, Ax.idx, AV.lentIds, lentIdsL, dropAll, givenUp, AV.clean, cleanL, Blk.clean, cleanB, quietC, flatTy, coldStr, notMs, eqV, eqF, isStruct, ty, Srget, rfixS, numS, rtextS', errS, rchkS, rd, fillS, recV, hN, hm1, c1, c2, i1, i2, i3, i4, i5, i6, i7, i8, x1, x2, x3, x4, x5, x6, hlen, q1, q2, q3, q4, h5, d4, hG, hV]
        · have d4 : decide ((4 : Int) ≤ ((g0 bs e : Nat) : Int)) = false := decide_eq_false (by omega)
          by_cases hc : rchk (gd bs e) (gt bs e) true (gkey bs e) false (gval bs e) = 0
          · have hG : gerr bs e = 0 := by unfold gerr; rw [if_neg (by simpa using e5), hk, hdd, if_neg (by rintro (h | h); exact h4 h; exact h hc)]
            have hV : grec bs e = recV (gd bs e) (gt bs e) true (gkey bs e) false (gval bs e) := by unfold grec; rw [hG, if_pos rfl, hk, hdd]
            simp -implicitDefEqProofs only [evT, implies_true, forall_const, Option.getD, later_normal, aop, aLen, ev, slot, setSlot, putSlot, cv, cvl, aConv, aBin, aInt, aUn, aFn, aEq, Out.and, isBool, isPtr, List.length, IntKind.bits, evs, evo, evps, aCall, aUser, coes, coe, List.append, List.replicate, callOut, rootsL, AV.roots, lendsL, AV.lends, pinsOf, nodup, lendL, lend, closedB, noimmB, AV.noimm, AV.ren, renL, back, Nat.reduceAdd, Nat.reduceSub, Nat.reduceMul, Int.reduceToNat, reduceCtorEq, aLoad, subv, aIndexAddr, aIndex, TD.aggr, guardSlot, aPick, byte, word, aMin, aMax, Ax.Ends, EndsX, Ax.rvals, rone, AV.ids, idsL, newIds, upTo, pinHeap, gOf, ↓reduceIte, List.isEmpty, Int.reducePow, Nat.reducePow, Int.reduceMod, Nat.reduceLeDiff, Int.reduceLE, Int.reduceNe, Int.reduceEq, aBuildSlice, fillB, aAppend, appendB, viewB, Ax.look, Ax.put, Ax.drop, List.drop, List.take, asv, aMake, aCopy, srcB, fillG, viewG, appendG, appendI, fillI, aSlice, bnd, bnds, full3, cut, aFieldAddr, aField, aStore, setB, aBox, aBuild, fillS, allTy, AV.leaves, AV.okv, AV.leaf, one, splice, elemLeaves, Blk.size, Blk.len, Option.isSome, Option.isNone, isBytes, aStr, aNil, aAlloc, aExtract, viewI, Nat.reduceEqDiff, Nat.reduceLT, Nat.reduceBEq, List.contains, List.elem, Blk.closed, closedL, AV.closed, Blk.noimm, ↓gsplit_tt, ↓gsplit_ff, ↓gsplit_tf, ↓gsplit_ft, ↓csplit_t, ↓csplit_f, Ax.idx, AV.lentIds, lentIdsL, dropAll, givenUp, AV.clean, cleanL, Blk.clean, cleanB, quietC, flatTy, coldStr, notMs, eqV, eqF, isStruct, ty, Srget, rfixS, numS, rtextS', errS, rchkS, rd, fillS, recV, hN, hm1, c1, c2, i1, i2, i3, i4, i5, i6, i7, i8, x1, x2, x3, x4, x5, x6, hlen, q1, q2, q3, q4, h5, d4, hG, hV, hc]
          · have hG : gerr bs e = 4 := by unfold gerr; rw [if_neg (by simpa using e5), hk, hdd, if_pos (.inr hc)]
            have hV : grec bs e = recV 0 0 false [] false [] := by unfold grec; rw [hG]; rfl
            have d5 : decide (rchk (gd bs e) (gt bs e) true (gkey bs e) false (gval bs e) = 0) = false := decide_eq_false hc
            simp -implicitDefEqProofs only [evT, implies_true, forall_const, Option.getD, later_normal, aop, aLen, ev, slot, setSlot, putSlot, cv, cvl, aConv, aBin, aInt, aUn, aFn, aEq, Out.and, isBool, isPtr, List.length, IntKind.bits, evs, evo, evps, aCall, aUser, coes, coe, List.append, List.replicate, callOut, rootsL, AV.roots, lendsL, AV.lends, pinsOf, nodup, lendL, lend, closedB, noimmB, AV.noimm, AV.ren, renL, back, Nat.reduceAdd, Nat.reduceSub, Nat.reduceMul, Int.reduceToNat, reduceCtorEq, aLoad, subv, aIndexAddr, aIndex, TD.aggr, guardSlot, aPick, byte, word, aMin, aMax, Ax.Ends, EndsX, Ax.rvals, rone, AV.ids, idsL, newIds, upTo, pinHeap, gOf, ↓reduceIte, List.isEmpty, Int.reducePow, Nat.reducePow, Int.reduceMod, Nat.reduceLeDiff, Int.reduceLE, Int.reduceNe, Int.reduceEq, aBuildSlice, fillB, aAppend, appendB, viewB, Ax.look, Ax.put, Ax.drop, List.drop, List.take, asv, aMake, aCopy, srcB, fillG, viewG, appendG, appendI, fillI, aSlice, bnd, bnds, full3, cut, aFieldAddr, aField, aStore, setB, aBox, aBuild, fillS, allTy, AV.leaves, AV.okv, AV.leaf, one, splice, elemLeaves, Blk.size, Blk.len, Option.isSome, Option.isNone, isBytes, aStr, aNil, aAlloc, aExtract, viewI, Nat.reduceEqDiff, Nat.reduceLT, Nat.reduceBEq, List.contains, List.elem, Blk.closed, closedL, AV.closed, Blk.noimm, ↓gsplit_tt, ↓gsplit_ff, ↓gsplit_tf, ↓gsplit_ft, ↓csplit_t, ↓csplit_f, Ax.idx, AV.lentIds, lentIdsL, dropAll, givenUp, AV.clean, cleanL, Blk.clean, cleanB, quietC, flatTy, coldStr, notMs, eqV, eqF, isStruct, ty, Srget, rfixS, numS, rtextS', errS, rchkS, rd, fillS, recV, hN, hm1, c1, c2, i1, i2, i3, i4, i5, i6, i7, i8, x1, x2, x3, x4, x5, x6, hlen, q1, q2, q3, q4, h5, d4, hG, hV, d5]
      · have e5 : ¬ ge5 bs e = 0 := by first | exact h5 | (rw [x5]; exact h5)
        have d5 : decide (ge5 bs e = 0) = false := decide_eq_false h5
        have hG : gerr bs e = ge5 bs e := by unfold gerr; rw [if_pos e5]
        have hV : grec bs e = recV 0 0 false [] false [] := by unfold grec; rw [hG, if_neg h5]
        simp -implicitDefEqProofs only [evT, implies_true, forall_const, Option.getD, later_normal, aop, aLen, ev, slot, setSlot, putSlot, cv, cvl, aConv, aBin, aInt, aUn, aFn, aEq, Out.and, isBool, isPtr, List.length, IntKind.bits, evs, evo, evps, aCall, aUser, coes, coe, List.append, List.replicate, callOut, rootsL, AV.roots, lendsL, AV.lends, pinsOf, nodup, lendL, lend, closedB, noimmB, AV.noimm, AV.ren, renL, back, Nat.reduceAdd, Nat.reduceSub, Nat.reduceMul, Int.reduceToNat, reduceCtorEq, aLoad, subv, aIndexAddr, aIndex, TD.aggr, guardSlot, aPick, byte, word, aMin, aMax, Ax.Ends, EndsX, Ax.rvals, rone, AV.ids, idsL, newIds, upTo, pinHeap, gOf, ↓reduceIte, List.isEmpty, Int.reducePow, Nat.reducePow, Int.reduceMod, Nat.reduceLeDiff, Int.reduceLE, Int.reduceNe, Int.reduceEq, aBuildSlice, fillB, aAppend, appendB, viewB, Ax.look, Ax.put, Ax.drop, List.drop, List.take, asv, aMake, aCopy, srcB, fillG, viewG, appendG, appendI, fillI, aSlice, bnd, bnds, full3, cut, aFieldAddr, aField, aStore, setB, aBox, aBuild, fillS, allTy, AV.leaves, AV.okv, AV.leaf, one, splice, elemLeaves, Blk.size, Blk.len, Option.isSome, Option.isNone, isBytes, aStr, aNil, aAlloc, aExtract, viewI, Nat.reduceEqDiff, Nat.reduceLT, Nat.reduceBEq, List.contains, List.elem, Blk.closed, closedL, AV.closed, Blk.noimm, ↓gsplit_tt, ↓gsplit_ff, ↓gsplit_tf, ↓gsplit_ft, ↓csplit_t, ↓csplit_f, Ax.idx, AV.lentIds, lentIdsL, dropAll, givenUp, AV.clean, cleanL, Blk.clean, cleanB, quietC, flatTy, coldStr, notMs, eqV, eqF, isStruct, ty, Srget, rfixS, numS, rtextS', errS, rchkS, rd, fillS, recV, hN, hm1, c1, c2, i1, i2, i3, i4, i5, i6, i7, i8, x1, x2, x3, x4, x5, x6, hlen, q1, q2, q3, q4, d5, hG, hV]
    · have c1 : bits .and .u8 ((g0 bs e : Nat) : Int) 1 = 0 := by rw [a1]; unfold gk at hk; simpa using hk
      have c2 : bits .and .u8 ((g0 bs e : Nat) : Int) 2 = 2 := by rw [a2]; unfold gdd at hdd; simpa using hdd
      have x1 : gb3 bs e = gb4 bs e := by unfold gb4; rw [hk]; rfl
      have x2 : ge3 bs e = ge4 bs e := by unfold ge4; rw [hk]; rfl
      have x3 : gkey bs e = [] := by unfold gkey; rw [hk]; rfl
      have x4 : gb5 bs e = gb4 bs e := by unfold gb5; rw [hdd]; rfl
      have x5 : ge5 bs e = ge4 bs e := by unfold ge5; rw [hdd]; rfl
      have x6 : gval bs e = [] := by unfold gval; rw [hdd]; rfl
      by_cases h5 : ge4 bs e = 0
      · have e5 : ge5 bs e = 0 := by first | exact h5 | (rw [x5]; exact h5)
        by_cases h4 : 4 ≤ g0 bs e
        · have d4 : decide ((4 : Int) ≤ ((g0 bs e : Nat) : Int)) = true := decide_eq_true (by omega)
          have hG : gerr bs e = 4 := by unfold gerr; rw [if_neg (by simpa using e5), if_pos (.inl h4)]
          have hV : grec bs e = recV 0 0 false [] false [] := by unfold grec; rw [hG]; rfl
          simp -implicitDefEqProofs only [evT, implies_true, forall_const, Option.getD, later_normal, aop, aLen, ev, slot, setSlot, putSlot, cv, cvl, aConv, aBin, aInt, aUn, aFn, aEq, Out.and, isBool, isPtr, List.length, IntKind.bits, evs, evo, evps, aCall, aUser, coes, coe, List.append, List.replicate, callOut, rootsL, AV.roots, lendsL, AV.lends, pinsOf, nodup, lendL, lend, closedB, noimmB, AV.noimm, AV.ren, renL, back, Nat.reduceAdd, Nat.reduceSub, Nat.reduceMul, Int.reduceToNat, reduceCtorEq, aLoad, subv, aIndexAddr, aIndex, TD.aggr, guardSlot, aPick, byte, word, aMin, aMax, Ax.Ends, EndsX, Ax.rvals, rone, AV.ids, idsL, newIds, upTo, pinHeap, gOf, ↓reduceIte, List.isEmpty, Int.reducePow, Nat.reducePow, Int.reduceMod, Nat.reduceLeDiff, Int.reduceLE, Int.reduceNe, Int.reduceEq, aBuildSlice, fillB, aAppend, appendB, viewB, Ax.look, Ax.put, Ax.drop, List.drop, List.take, asv, aMake, aCopy, srcB, fillG, viewG, appendG, appendI, fillI, aSlice, bnd, bnds, full3, cut, aFieldAddr, aField, aStore, setB, aBox, aBuild, fillS, allTy, AV.leaves, AV.okv, AV.leaf, one, splice, elemLeaves, Blk.size, Blk.len, Option.isSome, Option.isNone, isBytes, aStr, aNil, aAlloc, aExtract, viewI, Nat.reduceEqDiff, Nat.reduceLT, Nat.reduceBEq, List.contains, List.elem, Blk.closed, closedL, AV.closed, Blk.noimm, ↓gsplit_tt, ↓gsplit_ff, ↓gsplit_tf, ↓gsplit_ft, ↓csplit_t, ↓csplit_f, Ax.idx, AV.lentIds, lentIdsL, dropAll, givenUp, AV.clean, cleanL, Blk.clean, cleanB, quietC, flatTy, coldStr, notMs, eqV, eqF, isStruct, ty, Srget, rfixS, numS, rtextS', errS, rchkS, rd, fillS, recV, hN, hm1, c1, c2, i1, i2, i3, i4, i5, i6, i7, i8, x1, x2, x3, x4, x5, x6, hlen, q1, q2, q3, q4, h5, d4, hG, hV]
        · have d4 : decide ((4 : Int) ≤ ((g0 bs e : Nat) : Int)) = false := decide_eq_false (by omega)
          by_cases hc : rchk (gd bs e) (gt bs e) false ([]) true ([]) = 0
          · have hG : gerr bs e = 0 := by unfold gerr; rw [if_neg (by simpa using e5), hk, hdd, x3, x6, if_neg (by rintro (h | h); exact h4 h; exact h hc)]
            have hV : grec bs e = recV (gd bs e) (gt bs e) false ([]) true ([]) := by unfold grec; rw [hG, if_pos rfl, hk, hdd, x3, x6]
            simp -implicitDefEqProofs only [evT, implies_true, forall_const, Option.getD, later_normal, aop, aLen, ev, slot, setSlot, putSlot, cv, cvl, aConv, aBin, aInt, aUn, aFn, aEq, Out.and, isBool, isPtr, List.length, IntKind.bits, evs, evo, evps, aCall, aUser, coes, coe, List.append, List.replicate, callOut, rootsL, AV.roots, lendsL, AV.lends, pinsOf, nodup, lendL, lend, closedB, noimmB, AV.noimm, AV.ren, renL, back, Nat.reduceAdd, Nat.reduceSub, Nat.reduceMul, Int.reduceToNat, reduceCtorEq, aLoad, subv, aIndexAddr, aIndex, TD.aggr, guardSlot, aPick, byte, word, aMin, aMax, Ax.Ends, EndsX, Ax.rvals, rone, AV.ids, idsL, newIds, upTo, pinHeap, gOf, ↓reduceIte, List.isEmpty, Int.reducePow, Nat.reducePow, Int.reduceMod, Nat.reduceLeDiff, Int.reduceLE, Int.reduceNe, Int.reduceEq, aBuildSlice, fillB, aAppend, appendB, viewB, Ax.look, Ax.put, Ax.drop, List.drop, List.take, asv, aMake, aCopy, srcB, fillG, viewG, appendG, appendI, fillI, aSlice, bnd, bnds, full3, cut, aFieldAddr, aField, aStore, setB, aBox, aBuild, fillS, allTy, AV.leaves, AV.okv, AV.leaf, one, splice, elemLeaves, Blk.size, Blk.len, Option.isSome, Option.isNone, isBytes, aStr, aNil, aAlloc, aExtract, viewI, Nat.reduceEqDiff, Nat.reduceLT, Nat.reduceBEq, List.contains, List.elem, Blk.closed, closedL, AV.closed, Blk.noimm, ↓gsplit_tt, ↓gsplit_ff, ↓gsplit_tf, ↓gsplit_ft, ↓csplit_t, ↓csplit_f, Ax.idx, AV.lentIds, lentIdsL, dropAll, givenUp, AV.clean, cleanL, Blk.clean, cleanB, quietC, flatTy, coldStr, notMs, eqV, eqF, isStruct, ty, Srget, rfixS, numS, rtextS', errS, rchkS, rd, fillS, recV, hN, hm1, c1, c2, i1, i2, i3, i4, i5, i6, i7, i8, x1, x2, x3, x4, x5, x6, hlen, q1, q2, q3, q4, h5, d4, hG, hV, hc]
          · have hG : gerr bs e = 4 := by unfold gerr; rw [if_neg (by simpa using e5), hk, hdd, x3, x6, if_pos (.inr hc)]
            have hV : grec bs e = recV 0 0 false [] false [] := by unfold grec; rw [hG]; rfl
            have d5 : decide (rchk (gd bs e) (gt bs e) false ([]) true ([]) = 0) = false := decide_eq_false hc
            simp -implicitDefEqProofs only [evT, implies_true, forall_const, Option.getD, later_normal, aop, aLen, ev, slot, setSlot, putSlot, cv, cvl, aConv, aBin, aInt, aUn, aFn, aEq, Out.and, isBool, isPtr, List.length, IntKind.bits, evs, evo, evps, aCall, aUser, coes, coe, List.append, List.replicate, callOut, rootsL, AV.roots, lendsL, AV.lends, pinsOf, nodup, lendL, lend, closedB, noimmB, AV.noimm, AV.ren, renL, back, Nat.reduceAdd, Nat.reduceSub, Nat.reduceMul, Int.reduceToNat, reduceCtorEq, aLoad, subv, aIndexAddr, aIndex, TD.aggr, guardSlot, aPick, byte, word, aMin, aMax, Ax.Ends, EndsX, Ax.rvals, rone, AV.ids, idsL, newIds, upTo, pinHeap, gOf, ↓reduceIte, List.isEmpty, Int.reducePow, Nat.reducePow, Int.reduceMod, Nat.reduceLeDiff, Int.reduceLE, Int.reduceNe, Int.reduceEq, aBuildSlice, fillB, aAppend, appendB, viewB, Ax.look, Ax.put, Ax.drop, List.drop, List.take, asv, aMake, aCopy, srcB, fillG, viewG, appendG, appendI, fillI, aSlice, bnd, bnds, full3, cut, aFieldAddr, aField, aStore, setB, aBox, aBuild, fillS, allTy, AV.leaves, AV.okv, AV.leaf, one, splice, elemLeaves, Blk.size, Blk.len, Option.isSome, Option.isNone, isBytes, aStr, aNil, aAlloc, aExtract, viewI, Nat.reduceEqDiff, Nat.reduceLT, Nat.reduceBEq, List.contains, List.elem, Blk.closed, closedL, AV.closed, Blk.noimm, ↓gsplit_tt, ↓gsplit_ff, ↓gsplit_tf, ↓gsplit_ft, ↓csplit_t, ↓csplit_f, Ax.idx, AV.lentIds, lentIdsL, dropAll, givenUp, AV.clean, cleanL, Blk.clean, cleanB, quietC, flatTy, coldStr, notMs, eqV, eqF, isStruct, ty, Srget, rfixS, numS, rtextS', errS, rchkS, rd, fillS, recV, hN, hm1, c1, c2, i1, i2, i3, i4, i5, i6, i7, i8, x1, x2, x3, x4, x5, x6, hlen, q1, q2, q3, q4, h5, d4, hG, hV, d5]
      · have e5 : ¬ ge5 bs e = 0 := by first | exact h5 | (rw [x5]; exact h5)
        have d5 : decide (ge4 bs e = 0) = false := decide_eq_false h5
        have hG : gerr bs e = ge4 bs e := by unfold gerr; rw [if_pos e5]; exact x5
        have hV : grec bs e = recV 0 0 false [] false [] := by unfold grec; rw [hG, if_neg h5]
        simp -implicitDefEqProofs only [evT, implies_true, forall_const, Option.getD, later_normal, aop, aLen, ev, slot, setSlot, putSlot, cv, cvl, aConv, aBin, aInt, aUn, aFn, aEq, Out.and, isBool, isPtr, List.length, IntKind.bits, evs, evo, evps, aCall, aUser, coes, coe, List.append, List.replicate, callOut, rootsL, AV.roots, lendsL, AV.lends, pinsOf, nodup, lendL, lend, closedB, noimmB, AV.noimm, AV.ren, renL, back, Nat.reduceAdd, Nat.reduceSub, Nat.reduceMul, Int.reduceToNat, reduceCtorEq, aLoad, subv, aIndexAddr, aIndex, TD.aggr, guardSlot, aPick, byte, word, aMin, aMax, Ax.Ends, EndsX, Ax.rvals, rone, AV.ids, idsL, newIds, upTo, pinHeap, gOf, ↓reduceIte, List.isEmpty, Int.reducePow, Nat.reducePow, Int.reduceMod, Nat.reduceLeDiff, Int.reduceLE, Int.reduceNe, Int.reduceEq, aBuildSlice, fillB, aAppend, appendB, viewB, Ax.look, Ax.put, Ax.drop, List.drop, List.take, asv, aMake, aCopy, srcB, fillG, viewG, appendG, appendI, fillI, aSlice, bnd, bnds, full3, cut, aFieldAddr, aField, aStore, setB, aBox, aBuild, fillS, allTy, AV.leaves, AV.okv, AV.leaf, one, splice, elemLeaves, Blk.size, Blk.len, Option.isSome, Option.isNone, isBytes, aStr, aNil, aAlloc, aExtract, viewI, Nat.reduceEqDiff, Nat.reduceLT, Nat.reduceBEq, List.contains, List.elem, Blk.closed, closedL, AV.closed, Blk.noimm, ↓gsplit_tt, ↓gsplit_ff, ↓gsplit_tf, ↓gsplit_ft, ↓csplit_t, ↓csplit_f, Ax.idx, AV.lentIds, lentIdsL, dropAll, givenUp, AV.clean, cleanL, Blk.clean, cleanB, quietC, flatTy, coldStr, notMs, eqV, eqF, isStruct, ty, Srget, rfixS, numS, rtextS', errS, rchkS, rd, fillS, recV, hN, hm1, c1, c2, i1, i2, i3, i4, i5, i6, i7, i8, x1, x2, x3, x4, x5, x6, hlen, q1, q2, q3, q4, d5, hG, hV]
    · have c1 : bits .and .u8 ((g0 bs e : Nat) : Int) 1 = 0 := by rw [a1]; unfold gk at hk; simpa using hk
      have c2 : bits .and .u8 ((g0 bs e : Nat) : Int) 2 = 0 := by rw [a2]; unfold gdd at hdd; simpa using hdd
      have x1 : gb3 bs e = gb4 bs e := by unfold gb4; rw [hk]; rfl
      have x2 : ge3 bs e = ge4 bs e := by unfold ge4; rw [hk]; rfl
      have x3 : gkey bs e = [] := by unfold gkey; rw [hk]; rfl
      have x4 : rtL 512 (gb4 bs e) (ge4 bs e) = gb5 bs e := by unfold gb5; rw [hdd]; rfl
      have x5 : rtE 512 (gb4 bs e) (ge4 bs e) = ge5 bs e := by unfold ge5; rw [hdd]; rfl
      have x6 : rtS' 512 (gb4 bs e) (ge4 bs e) = gval bs e := by unfold gval; rw [hdd]; rfl
      by_cases h5 : ge5 bs e = 0
      · have e5 : ge5 bs e = 0 := by first | exact h5 | (rw [x5]; exact h5)
        by_cases h4 : 4 ≤ g0 bs e
        · have d4 : decide ((4 : Int) ≤ ((g0 bs e : Nat) : Int)) = true := decide_eq_true (by omega)
          have hG : gerr bs e = 4 := by unfold gerr; rw [if_neg (by simpa using e5), if_pos (.inl h4)]
          have hV : grec bs e = recV 0 0 false [] false [] := by unfold grec; rw [hG]; rfl
          simp -implicitDefEqProofs only [evT, implies_true, forall_const, Option.getD, later_normal, aop, aLen, ev, slot, setSlot, putSlot, cv, cvl, aConv, aBin, aInt, aUn, aFn, aEq, Out.and, isBool, isPtr, List.length, IntKind.bits, evs, evo, evps, aCall, aUser, coes, coe, List.append, List.replicate, callOut, rootsL, AV.roots, lendsL, AV.lends, pinsOf, nodup, lendL, lend, closedB, noimmB, AV.noimm, AV.ren, renL, back, Nat.reduceAdd, Nat.reduceSub, Nat.reduceMul, Int.reduceToNat, reduceCtorEq, aLoad, subv, aIndexAddr, aIndex, TD.aggr, guardSlot, aPick, byte, word, aMin, aMax, Ax.Ends, EndsX, Ax.rvals, rone, AV.ids, idsL, newIds, upTo, pinHeap, gOf, ↓reduceIte, List.isEmpty, Int.reducePow, Nat.reducePow, Int.reduceMod, Nat.reduceLeDiff, Int.reduceLE, Int.reduceNe, Int.reduceEq, aBuildSlice, fillB, aAppend, appendB, viewB, Ax.look, Ax.put, Ax.drop, List.drop, List.take, asv, aMake, aCopy, srcB, fillG, viewG, appendG, appendI, fillI, aSlice, bnd, bnds, full3, cut, aFieldAddr, aField, aStore, setB, aBox, aBuild, fillS, allTy, AV.leaves, AV.okv, AV.leaf, one, splice, elemLeaves, Blk.size, Blk.len, Option.isSome, Option.isNone, isBytes, aStr, aNil, aAlloc, aExtract, viewI, Nat.reduceEqDiff, Nat.reduceLT, Nat.reduceBEq, List.contains, List.elem, Blk.closed, closedL, AV.closed, Blk.noimm, ↓gsplit_tt, ↓gsplit_ff, ↓gsplit_tf, ↓gsplit_ft, ↓csplit_t, ↓csplit_f, Ax.idx, AV.lentIds, lentIdsL, dropAll, givenUp, AV.clean, cleanL, Blk.clean, cleanB, quietC, flatTy, coldStr, notMs, eqV, eqF, isStruct, ty, Srget, rfixS, numS, rtextS', errS, rchkS, rd, fillS, recV, hN, hm1, c1, c2, i1, i2, i3, i4, i5, i6, i7, i8, x1, x2, x3, x4, x5, x6, hlen, q1, q2, q3, q4, h5, d4, hG, hV]
        · have d4 : decide ((4 : Int) ≤ ((g0 bs e : Nat) : Int)) = false := decide_eq_false (by omega)
          by_cases hc : rchk (gd bs e) (gt bs e) false ([]) false (gval bs e) = 0
          · have hG : gerr bs e = 0 := by unfold gerr; rw [if_neg (by simpa using e5), hk, hdd, x3, if_neg (by rintro (h | h); exact h4 h; exact h hc)]
            have hV : grec bs e = recV (gd bs e) (gt bs e) false ([]) false (gval bs e) := by unfold grec; rw [hG, if_pos rfl, hk, hdd, x3]
            simp -implicitDefEqProofs only [evT, implies_true, forall_const, Option.getD, later_normal, aop, aLen, ev, slot, setSlot, putSlot, cv, cvl, aConv, aBin, aInt, aUn, aFn, aEq, Out.and, isBool, isPtr, List.length, IntKind.bits, evs, evo, evps, aCall, aUser, coes, coe, List.append, List.replicate, callOut, rootsL, AV.roots, lendsL, AV.lends, pinsOf, nodup, lendL, lend, closedB, noimmB, AV.noimm, AV.ren, renL, back, Nat.reduceAdd, Nat.reduceSub, Nat.reduceMul, Int.reduceToNat, reduceCtorEq, aLoad, subv, aIndexAddr, aIndex, TD.aggr, guardSlot, aPick, byte, word, aMin, aMax, Ax.Ends, EndsX, Ax.rvals, rone, AV.ids, idsL, newIds, upTo, pinHeap, gOf, ↓reduceIte, List.isEmpty, Int.reducePow, Nat.reducePow, Int.reduceMod, Nat.reduceLeDiff, Int.reduceLE, Int.reduceNe, Int.reduceEq, aBuildSlice, fillB, aAppend, appendB, viewB, Ax.look, Ax.put, Ax.drop, List.drop, List.take, asv, aMake, aCopy, srcB, fillG, viewG, appendG, appendI, fillI, aSlice, bnd, bnds, full3, cut, aFieldAddr, aField, aStore, setB, aBox, aBuild, fillS, allTy, AV.leaves, AV.okv, AV.leaf, one, splice, elemLeaves, Blk.size, Blk.len, Option.isSome, Option.isNone, isBytes, aStr, aNil, aAlloc, aExtract, viewI, Nat.reduceEqDiff, Nat.reduceLT, Nat.reduceBEq, List.contains, List.elem, Blk.closed, closedL, AV.closed, Blk.noimm, ↓gsplit_tt, ↓gsplit_ff, ↓gsplit_tf, ↓gsplit_ft, ↓csplit_t, ↓csplit_f, Ax.idx, AV.lentIds, lentIdsL, dropAll, givenUp, AV.clean, cleanL, Blk.clean, cleanB, quietC, flatTy, coldStr, notMs, eqV, eqF, isStruct, ty, Srget, rfixS, numS, rtextS', errS, rchkS, rd, fillS, recV, hN, hm1, c1, c2, i1, i2, i3, i4, i5, i6, i7, i8, x1, x2, x3, x4, x5, x6, hlen, q1, q2, q3, q4, h5, d4, hG, hV, hc]
          · have hG : gerr bs e = 4 := by unfold gerr; rw [if_neg (by simpa using e5), hk, hdd, x3, if_pos (.inr hc)]
            have hV : grec bs e = recV 0 0 false [] false [] := by unfold grec; rw [hG]; rfl
            have d5 : decide (rchk (gd bs e) (gt bs e) false ([]) false (gval bs e) = 0) = false := decide_eq_false hc
            simp -implicitDefEqProofs only [evT, implies_true, forall_const, Option.getD, later_normal, aop, aLen, ev, slot, setSlot, putSlot, cv, cvl, aConv, aBin, aInt, aUn, aFn, aEq, Out.and, isBool, isPtr, List.length, IntKind.bits, evs, evo, evps, aCall, aUser, coes, coe, List.append, List.replicate, callOut, rootsL, AV.roots, lendsL, AV.lends, pinsOf, nodup, lendL, lend, closedB, noimmB, AV.noimm, AV.ren, renL, back, Nat.reduceAdd, Nat.reduceSub, Nat.reduceMul, Int.reduceToNat, reduceCtorEq, aLoad, subv, aIndexAddr, aIndex, TD.aggr, guardSlot, aPick, byte, word, aMin, aMax, Ax.Ends, EndsX, Ax.rvals, rone, AV.ids, idsL, newIds, upTo, pinHeap, gOf, ↓reduceIte, List.isEmpty, Int.reducePow, Nat.reducePow, Int.reduceMod, Nat.reduceLeDiff, Int.reduceLE, Int.reduceNe, Int.reduceEq, aBuildSlice, fillB, aAppend, appendB, viewB, Ax.look, Ax.put, Ax.drop, List.drop, List.take, asv, aMake, aCopy, srcB, fillG, viewG, appendG, appendI, fillI, aSlice, bnd, bnds, full3, cut, aFieldAddr, aField, aStore, setB, aBox, aBuild, fillS, allTy, AV.leaves, AV.okv, AV.leaf, one, splice, elemLeaves, Blk.size, Blk.len, Option.isSome, Option.isNone, isBytes, aStr, aNil, aAlloc, aExtract, viewI, Nat.reduceEqDiff, Nat.reduceLT, Nat.reduceBEq, List.contains, List.elem, Blk.closed, closedL, AV.closed, Blk.noimm, ↓gsplit_tt, ↓gsplit_ff, ↓gsplit_tf, ↓gsplit_ft, ↓csplit_t, ↓csplit_f, Ax.idx, AV.lentIds, lentIdsL, dropAll, givenUp, AV.clean, cleanL, Blk.clean, cleanB, quietC, flatTy, coldStr, notMs, eqV, eqF, isStruct, ty, Srget, rfixS, numS, rtextS', errS, rchkS, rd, fillS, recV, hN, hm1, c1, c2, i1, i2, i3, i4, i5, i6, i7, i8, x1, x2, x3, x4, x5, x6, hlen, q1, q2, q3, q4, h5, d4, hG, hV, d5]
      · have e5 : ¬ ge5 bs e = 0 := by first | exact h5 | (rw [x5]; exact h5)
        have d5 : decide (ge5 bs e = 0) = false := decide_eq_false h5
        have hG : gerr bs e = ge5 bs e := by unfold gerr; rw [if_pos e5]
        have hV : grec bs e = recV 0 0 false [] false [] := by unfold grec; rw [hG, if_neg h5]
        simp -implicitDefEqProofs only [evT, implies_true, forall_const, Option.getD, later_normal, aop, aLen, ev, slot, setSlot, putSlot, cv, cvl, aConv, aBin, aInt, aUn, aFn, aEq, Out.and, isBool, isPtr, List.length, IntKind.bits, evs, evo, evps, aCall, aUser, coes, coe, List.append, List.replicate, callOut, rootsL, AV.roots, lendsL, AV.lends, pinsOf, nodup, lendL, lend, closedB, noimmB, AV.noimm, AV.ren, renL, back, Nat.reduceAdd, Nat.reduceSub, Nat.reduceMul, Int.reduceToNat, reduceCtorEq, aLoad, subv, aIndexAddr, aIndex, TD.aggr, guardSlot, aPick, byte, word, aMin, aMax, Ax.Ends, EndsX, Ax.rvals, rone, AV.ids, idsL, newIds, upTo, pinHeap, gOf, ↓reduceIte, List.isEmpty, Int.reducePow, Nat.reducePow, Int.reduceMod, Nat.reduceLeDiff, Int.reduceLE, Int.reduceNe, Int.reduceEq, aBuildSlice, fillB, aAppend, appendB, viewB, Ax.look, Ax.put, Ax.drop, List.drop, List.take, asv, aMake, aCopy, srcB, fillG, viewG, appendG, appendI, fillI, aSlice, bnd, bnds, full3, cut, aFieldAddr, aField, aStore, setB, aBox, aBuild, fillS, allTy, AV.leaves, AV.okv, AV.leaf, one, splice, elemLeaves, Blk.size, Blk.len, Option.isSome, Option.isNone, isBytes, aStr, aNil, aAlloc, aExtract, viewI, Nat.reduceEqDiff, Nat.reduceLT, Nat.reduceBEq, List.contains, List.elem, Blk.closed, closedL, AV.closed, Blk.noimm, ↓gsplit_tt, ↓gsplit_ff, ↓gsplit_tf, ↓gsplit_ft, ↓csplit_t, ↓csplit_f, Ax.idx, AV.lentIds, lentIdsL, dropAll, givenUp, AV.clean, cleanL, Blk.clean, cleanB, quietC, flatTy, coldStr, notMs, eqV, eqF, isStruct, ty, Srget, rfixS, numS, rtextS', errS, rchkS, rd, fillS, recV, hN, hm1, c1, c2, i1, i2, i3, i4, i5, i6, i7, i8, x1, x2, x3, x4, x5, x6, hlen, q1, q2, q3, q4, d5, hG, hV]
  · refine ⟨by simp, ?_⟩
    unfold Try.f36
    have b1 : bits .and .u8 0 1 = 0 := by decide
    have b2 : bits .and .u8 0 2 = 0 := by decide
    simp -implicitDefEqProofs only [evT, implies_true, forall_const, Option.getD, later_normal, aop, aLen, ev, slot, setSlot, putSlot, cv, cvl, aConv, aBin, aInt, aUn, aFn, aEq, Out.and, isBool, isPtr, List.length, IntKind.bits, evs, evo, evps, aCall, aUser, coes, coe, List.append, List.replicate, callOut, rootsL, AV.roots, lendsL, AV.lends, pinsOf, nodup, lendL, lend, closedB, noimmB, AV.noimm, AV.ren, renL, back, Nat.reduceAdd, Nat.reduceSub, Nat.reduceMul, Int.reduceToNat, reduceCtorEq, aLoad, subv, aIndexAddr, aIndex, TD.aggr, guardSlot, aPick, byte, word, aMin, aMax, Ax.Ends, EndsX, Ax.rvals, rone, AV.ids, idsL, newIds, upTo, pinHeap, gOf, ↓reduceIte, List.isEmpty, Int.reducePow, Nat.reducePow, Int.reduceMod, Nat.reduceLeDiff, Int.reduceLE, Int.reduceNe, Int.reduceEq, aBuildSlice, fillB, aAppend, appendB, viewB, Ax.look, Ax.put, Ax.drop, List.drop, List.take, asv, aMake, aCopy, srcB, fillG, viewG, appendG, appendI, fillI, aSlice, bnd, bnds, full3, cut, aFieldAddr, aField, aStore, setB, aBox, aBuild, fillS, allTy, AV.leaves, AV.okv, AV.leaf, one, splice, elemLeaves, Blk.size, Blk.len, Option.isSome, Option.isNone, isBytes, aStr, aNil, aAlloc, aExtract, viewI, Nat.reduceEqDiff, Nat.reduceLT, Nat.reduceBEq, List.contains, List.elem, Blk.closed, closedL, AV.closed, Blk.noimm, ↓gsplit_tt, ↓gsplit_ff, ↓gsplit_tf, ↓gsplit_ft, ↓csplit_t, ↓csplit_f, Ax.idx, AV.lentIds, lentIdsL, dropAll, givenUp, AV.clean, cleanL, Blk.clean, cleanB, quietC, flatTy, coldStr, notMs, eqV, eqF, isStruct, ty, Srget, rfixS, numS, rtextS', errS, b1, b2, recV, fillS]
  · exact hp.elim
end
end Go.Proofs.Ythmkhlmohjcbgaa
