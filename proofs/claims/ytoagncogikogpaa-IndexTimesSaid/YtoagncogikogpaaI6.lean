/- Layer 12: what every right program finds among four; what the arguments of a law are. -/
import Derived.Test.YtoagncogikogpaaI5
namespace Go.Proofs.Ytoagncogikogpaa
open Ax
set_option linter.unusedSimpArgs false
set_option linter.unusedVariables false

def Saw12 (f : FuncId) : Option FSpec :=
  match f with
  | 32 => some buildI12S
  | 36 => some findIS
  | 34 => some (lastS fun tm e => decide (e.t < tm))
  | 29 => some sameI12S
  | 30 => some newI12S
  | _ => none
theorem Saw12_ok : Fns Try.prog Saw12 := by
  intro f s h
  unfold Saw12 at h
  split at h
  · injection h with h; subst h; exact ⟨⟨_, Try.func32, by kernel_rfl, by kernel_rfl⟩, buildI12_sound⟩
  · injection h with h; subst h; exact ⟨⟨_, Try.func36, by kernel_rfl, by kernel_rfl⟩, findI_sound⟩
  · injection h with h; subst h; exact ⟨⟨_, Try.func34, by kernel_rfl, by kernel_rfl⟩, byTime_sound⟩
  · injection h with h; subst h; exact ⟨⟨_, Try.func29, by kernel_rfl, by kernel_rfl⟩, sameI12_sound⟩
  · injection h with h; subst h; exact ⟨⟨_, Try.func30, by kernel_rfl, by kernel_rfl⟩, newI12_sound⟩
  · cases h
def aw12Pl : Plan := fun id => match id with
  | 6 => some []
  | _ => none
theorem wE12_ends {T : Types} {sl : List AV} {H : Heap} {nx : Nat} {v : Value} {q : Prop} (i : Nat) (h : slot sl i = .w v) : EndsW T [.tmp i] [] ⟨q, .w v, []⟩ .ret ⟨sl, H, nx⟩ := by
  refine ⟨_, Weak.refl _, ?_⟩
  simp only [Ax.Ends, Ax.rvals, EndsX, rone, h, AV.ids, idsL, newIds, upTo, nodup, pinsOf, List.nil_append, AV.ren, and_self]
theorem a12b : bldI 2 [⟨0, 0, 0⟩, ⟨5, 9, 0⟩, ⟨9, 4, 0⟩, ⟨12, 0, 0⟩] = ⟨2, 4, [⟨0, 0, 0⟩, ⟨9, 4, 0⟩]⟩ := by rfl
section
set_option maxRecDepth 100000
set_option maxHeartbeats 1000000 in
theorem awake12_sound : Sound Try.prog 23 yesS := by
  refine fn_soundF (S := Saw12) (T := ty) (pl := aw12Pl) mixed ty_ok Saw12_ok Try.func23 (c := Try.f23.body.getD .skip) (by kernel_rfl) (by kernel_rfl) (fun xs pins hp _ => ?_)
  unfold yesS at hp ⊢
  split at hp
  · refine ⟨by simp, ?_⟩
    unfold Try.f23
    have y1 : ∃ es : List Ent, [AV.agg [.w (.int .i64 0), .w (.int .i64 0), .w (.int .i64 0)], .agg [.w (.int .i64 5), .w (.int .i64 9), .w (.int .i64 0)], .agg [.w (.int .i64 9), .w (.int .i64 4), .w (.int .i64 0)], .agg [.w (.int .i64 12), .w (.int .i64 0), .w (.int .i64 0)]] = es.map ent := ⟨[⟨0, 0, 0⟩, ⟨5, 9, 0⟩, ⟨9, 4, 0⟩, ⟨12, 0, 0⟩], rfl⟩
    have y2 : ∃ es : List Ent, [AV.agg [.w (.int .i64 0), .w (.int .i64 0), .w (.int .i64 0)], .agg [.w (.int .i64 9), .w (.int .i64 4), .w (.int .i64 0)]] = es.map ent := ⟨[⟨0, 0, 0⟩, ⟨9, 4, 0⟩], rfl⟩
    have y3 : ∃ es : List Ent, ([] : List AV) = es.map ent := ⟨[], rfl⟩
    have b1 := a12b
    have b2 : empE [⟨0, 0, 0⟩, ⟨9, 4, 0⟩] = false := rfl
    have f1 : hlvI [⟨0, 0, 0⟩, ⟨9, 4, 0⟩] 8 = 1 := by rfl
    have f2 : hlvI [⟨0, 0, 0⟩, ⟨9, 4, 0⟩] 9 = 2 := by rfl
    have f3 : hlvI [⟨0, 0, 0⟩, ⟨9, 4, 0⟩] (-1) = 0 := by rfl
    have g1 : findE [⟨0, 0, 0⟩, ⟨9, 4, 0⟩] 8 = ⟨0, 0, 0⟩ := by rfl
    have g2 : findE [⟨0, 0, 0⟩, ⟨9, 4, 0⟩] 9 = ⟨9, 4, 0⟩ := by rfl
    have g3 : findE [⟨0, 0, 0⟩, ⟨9, 4, 0⟩] (-1) = ⟨0, 0, 0⟩ := by rfl
    have l1 : lastI (fun e => decide (e.t < 4)) [⟨0, 0, 0⟩, ⟨9, 4, 0⟩] = some ⟨0, 0, 0⟩ := by rfl
    have s1 : sameI 2 4 [⟨0, 0, 0⟩, ⟨9, 4, 0⟩] 2 4 [⟨0, 0, 0⟩, ⟨9, 4, 0⟩] = true := by decide
    have s2 : sameI 2 4 [⟨0, 0, 0⟩, ⟨9, 4, 0⟩] 2 0 [] = false := by decide
    have m1 : max (2 : Int) 1 = 2 := rfl
    have m2 : max (0 : Int) 1 = 1 := rfl
    have z2 : decide (((2 : Nat) : Int) = 2) = true := rfl
    have k1 : (1 = 0) = False := by decide
    have k2 : (2 = 0) = False := by decide
    simp -implicitDefEqProofs only [evT, implies_true, forall_const, Option.getD, later_normal, aop, aLen, ev, slot, setSlot, putSlot, cv, cvl, aConv, aBin, aInt, aUn, aFn, aEq, Out.and, isBool, isPtr, List.length, IntKind.bits, evs, evo, evps, aCall, aUser, coes, coe, List.append, List.replicate, callOut, rootsL, AV.roots, lendsL, AV.lends, pinsOf, nodup, lendL, lend, closedB, noimmB, AV.noimm, AV.ren, renL, back, Nat.reduceAdd, Nat.reduceSub, Nat.reduceMul, Int.reduceToNat, reduceCtorEq, aLoad, subv, aIndexAddr, aIndex, TD.aggr, guardSlot, aPick, byte, word, aMin, aMax, Ax.Ends, EndsX, Ax.rvals, rone, AV.ids, idsL, newIds, upTo, pinHeap, gOf, ↓reduceIte, List.isEmpty, Int.reducePow, Nat.reducePow, Int.reduceMod, Nat.reduceLeDiff, Int.reduceLE, Int.reduceNe, Int.reduceEq, aBuildSlice, fillB, aAppend, appendB, viewB, Ax.look, Ax.put, Ax.drop, List.drop, List.take, asv, aMake, aCopy, srcB, fillG, viewG, appendG, appendI, fillI, aSlice, bnd, bnds, full3, cut, aFieldAddr, aField, aStore, setB, aBox, aBuild, fillS, allTy, AV.leaves, AV.okv, AV.leaf, one, splice, elemLeaves, Blk.size, Blk.len, Option.isSome, Option.isNone, isBytes, aStr, aNil, aAlloc, aExtract, viewI, Nat.reduceEqDiff, Nat.reduceLT, Nat.reduceBEq, List.contains, List.elem, Blk.closed, closedL, AV.closed, Blk.noimm, ↓gsplit_tt, ↓gsplit_ff, ↓gsplit_tf, ↓gsplit_ft, ↓csplit_t, ↓csplit_f, Ax.idx, AV.lentIds, lentIdsL, dropAll, givenUp, AV.clean, cleanL, Blk.clean, cleanB, quietC, flatTy, coldStr, notMs, eqV, eqF, isStruct, evTP, laterF_normal, aopF, foot, footA, keepIn, dropIn, bids, Blk.ids, heldB, memOk, clearOf, Op.operands, Call.operands, List.map_cons, List.map_nil, List.toList_toArray, Array.toList_append, Option.toArray_some, Option.toArray_none, Bool.and_self, -coe, coe_w, coe_str, coe_agg, coe_tup, coe_sb, coe_si, coe_cp, coe_ms, coe_rf, coe_fn, coe_cons, ty, Saw12, aw12Pl, buildI12S, findIS, lastS, sameI12S, newI12S, iav, ent, uent, y1, y2, y3, b1, b2, f1, f2, f3, g1, g2, g3, l1, s1, s2, m1, m2, k1, k2, z2, Option.getD, Option.isSome, fillS]
    refine ⟨?_, wE12_ends 0 rfl⟩
    rintro y (rfl | rfl | rfl | rfl) <;> rfl
  · exact hp.elim
end
theorem arg_ent {x : AV} (h : Arg ty 6 47 x) : ∃ e : Ent, x = ent e := by
  obtain ⟨i, ls, hi, hs, rfl⟩ := h
  simp only [ty] at hi
  injection hi with hi
  subst hi
  simp only [Shape, ty, ShapeF] at hs
  obtain ⟨l1, r1, rfl, ⟨m1, rfl, w1⟩, l2, r2, rfl, ⟨m2, rfl, w2⟩, l3, r3, rfl, ⟨m3, rfl, w3⟩, rfl⟩ := hs
  exact ⟨⟨m1, m2, m3⟩, rfl⟩
theorem all_ent : ∀ (xs : List AV), (∀ x ∈ xs, ∃ r : Ent, x = ent r) → ∃ rs : List Ent, xs = rs.map ent
  | [], _ => ⟨[], rfl⟩
  | x :: xs, h => by
    obtain ⟨r, rfl⟩ := h x (by simp)
    obtain ⟨rs, rfl⟩ := all_ent xs (fun y hy => h y (by simp [hy]))
    exact ⟨r :: rs, rfl⟩
theorem arg_idx {x : AV} (h : Arg ty 6 45 x) : ∃ (b : Idx) (f : Bool), x = iav b f ∧ b.es.length ≤ 9223372036854775807 := by
  obtain ⟨i, ls, hi, hs, rfl⟩ := h
  simp only [ty] at hi
  injection hi with hi
  subst hi
  simp only [Shape, ty, ShapeF, isFlatI] at hs
  obtain ⟨l1, r1, rfl, ⟨m1, rfl, w1⟩, l2, r2, rfl, ⟨m2, rfl, w2⟩, l6, r6, rfl, ⟨xs, f, rfl, hl, hx⟩, rfl⟩ := hs
  obtain ⟨rs, rfl⟩ := all_ent xs (fun x hxm => by
    obtain ⟨l, ⟨l1, r1, rfl, ⟨m1, rfl, w1⟩, l2, r2, rfl, ⟨m2, rfl, w2⟩, l3, r3, rfl, ⟨m3, rfl, w3⟩, rfl⟩, _, rfl⟩ := hx x hxm
    exact ⟨⟨m1, m2, m3⟩, rfl⟩)
  refine ⟨⟨m1, m2, rs⟩, f, rfl, ?_⟩
  rw [List.length_map] at hl
  have : maxLen = 9223372036854775807 := by decide
  show rs.length ≤ _
  omega
theorem arg_int12 {x : AV} (h : Arg ty 6 3 x) : ∃ n : Int, x = .w (.int .i64 n) := by
  obtain ⟨i, ls, hi, hs, rfl⟩ := h
  simp only [ty] at hi
  injection hi with hi
  subst hi
  simp only [Shape, ty, ShapeF] at hs
  obtain ⟨m, rfl, _⟩ := hs
  exact ⟨m, rfl⟩
end Go.Proofs.Ytoagncogikogpaa
