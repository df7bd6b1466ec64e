/- Layer 4: the law of what is in a batch. -/
import Derived.Test.YthmkhlmohjcbgaaLg
import Derived.Test.YthmkhlmohjcbgaaM3
import Derived.Test.YthmkhlmohjcbgaaM4
namespace Go.Proofs.Ythmkhlmohjcbgaa
open Ax
set_option linter.unusedSimpArgs false
set_option linter.unusedVariables false

theorem newL_eq (rs : List Rec) (h : ∀ r ∈ rs, -1 ≤ r.t) : newL rs = newI rs (-1) := by
  cases rs with
  | nil => rfl
  | cons r rs =>
    have := h r (by simp)
    show List.foldl (fun a (r : Rec) => max a r.t) r.t (r :: rs) = List.foldl (fun a (r : Rec) => max a r.t) (-1) (r :: rs)
    rw [List.foldl_cons, List.foldl_cons, show max r.t r.t = r.t by omega, show max (-1) r.t = r.t by omega]
theorem times {x : Bat} (h : bE x = 0) : ∀ r ∈ x.rs, -1 ≤ r.t := by
  obtain ⟨h1, h2, h3⟩ := bE_zero h
  obtain ⟨i1, i2, i3⟩ := layE_zero h2
  intro r hr
  have := rchk_zero (i1 r hr)
  omega
def blooksS : FSpec
  | [.agg [.w (.int .i64 b), .w (.int .i64 c), .w (.int .i64 p), .w (.int .i64 e), .w (.int .i64 s), .sg 6 xs f], .w (.int .i64 off)], [] =>
      ⟨xs.length ≤ 9223372036854775807 ∧ ∃ rs : List Rec, xs = rs.map rv, .w (.bool true), []⟩
  | _, _ => noRes
def Sblooks (f : FuncId) : Option FSpec :=
  match f with
  | 10 => some yesS
  | 9 => some blightS4
  | 18 => some rchkS4
  | 19 => some batS4
  | 20 => some batS4
  | 21 => some bnextS
  | 22 => some bnextS
  | 23 => some bnewS
  | 24 => some rnewS
  | 25 => some rsameS
  | 27 => some bfromD
  | 28 => some bfromD
  | 26 => some sallS
  | _ => none
theorem Sblooks_ok : Fns Try.prog Sblooks := by
  intro f s h
  unfold Sblooks at h
  split at h
  · injection h with h; subst h; exact ⟨⟨_, Try.func10, by kernel_rfl, by kernel_rfl⟩, awake4_sound⟩
  · injection h with h; subst h; exact ⟨⟨_, Try.func9, by kernel_rfl, by kernel_rfl⟩, blight4_sound⟩
  · injection h with h; subst h; exact ⟨⟨_, Try.func18, by kernel_rfl, by kernel_rfl⟩, rchk4_sound⟩
  · injection h with h; subst h; exact ⟨⟨_, Try.func19, by kernel_rfl, by kernel_rfl⟩, bat4_sound⟩
  · injection h with h; subst h; exact ⟨⟨_, Try.func20, by kernel_rfl, by kernel_rfl⟩, rat4_sound⟩
  · injection h with h; subst h; exact ⟨⟨_, Try.func21, by kernel_rfl, by kernel_rfl⟩, bnext_sound⟩
  · injection h with h; subst h; exact ⟨⟨_, Try.func22, by kernel_rfl, by kernel_rfl⟩, rnext_sound⟩
  · injection h with h; subst h; exact ⟨⟨_, Try.func23, by kernel_rfl, by kernel_rfl⟩, bnew_sound⟩
  · injection h with h; subst h; exact ⟨⟨_, Try.func24, by kernel_rfl, by kernel_rfl⟩, rnew_sound⟩
  · injection h with h; subst h; exact ⟨⟨_, Try.func25, by kernel_rfl, by kernel_rfl⟩, rrsame_sound⟩
  · injection h with h; subst h; exact ⟨⟨_, Try.func27, by kernel_rfl, by kernel_rfl⟩, bfromD_sound⟩
  · injection h with h; subst h; exact ⟨⟨_, Try.func28, by kernel_rfl, by kernel_rfl⟩, rfromD_sound⟩
  · injection h with h; subst h; exact ⟨⟨_, Try.func26, by kernel_rfl, by kernel_rfl⟩, sall_sound⟩
  · cases h
section
set_option maxRecDepth 100000
set_option maxHeartbeats 2000000 in
theorem blooks_law : Sound Try.prog 5 blooksS := by
  refine fn_sound (S := Sblooks) (T := tyF) mixed tyF_ok Sblooks_ok Try.func5 (c := Try.f5.body.getD .skip) (by kernel_rfl) (by kernel_rfl) (fun xs pins hp _ => ?_)
  unfold blooksS at hp ⊢
  split at hp
  · rename_i b c p e s xs f off _
    obtain ⟨hL1, rs, rfl⟩ := hp
    rw [List.length_map] at hL1
    refine ⟨by simp, ?_⟩
    have hlp : (rs.map rv).length = rs.length := by simp
    have hx1 : ∃ qs_1 : List Rec, rs.map rv = qs_1.map rv := ⟨rs, rfl⟩
    have hE1 : batE b c p e s rs = bE ⟨b, c, p, e, s, rs⟩ := rfl
    unfold Try.f5
    by_cases g1 : rs.length ≤ 40 ∧ ∀ r ∈ rs, lightR r
    · have d1 : decide (rs.length ≤ 40 ∧ ∀ r ∈ rs, lightR r) = true := decide_eq_true g1
      have h40 : rs.length ≤ 40 := g1.1
      have h1m : rs.length ≤ 1000000 := by omega
      by_cases c1 : bE ⟨b, c, p, e, s, rs⟩ = 0
      · have hN := newL_eq rs (times c1)
        have hFl : (fromR b off rs).length ≤ 9223372036854775807 := Nat.le_trans (List.length_filter_le _ _) hL1
        obtain ⟨F, hF⟩ : ∃ F, fromR b off rs = F := ⟨_, rfl⟩
        rw [hF] at hFl
        have hlF : (F.map rv).length = F.length := by simp
        have hxF : ∃ qs_1 : List Rec, F.map rv = qs_1.map rv := ⟨F, rfl⟩
        have hc1 : coe (setFlat ty) 22 (.sg 6 (F.map rv) false) = .sg 6 (F.map rv) false := by cases F <;> rfl
        have bb : ∀ a : Bool, (a == a) = true := fun a => by cases a <;> rfl
        have dd : decide (F = F) = true := decide_eq_true rfl
        have di : ∀ l : Int, decide (l = l) = true := fun l => decide_eq_true rfl
        have hs : ∀ a : Rec, sameB a.d a.t a.k a.key a.dd a.val a.d a.t a.k a.key a.dd a.val = true := fun a => by unfold sameB; simp
        have hs0 : sameB 0 0 false [] false [] 0 0 false [] false [] = true := by decide
        cases hat : atR b off rs
        all_goals simp -implicitDefEqProofs only [evT, implies_true, forall_const, Option.getD, later_normal, aop, aLen, ev, slot, setSlot, putSlot, cv, cvl, aConv, aBin, aInt, aUn, aFn, aEq, Out.and, isBool, isPtr, List.length, IntKind.bits, evs, evo, evps, aCall, aUser, coes, coe, List.append, List.replicate, callOut, rootsL, AV.roots, lendsL, AV.lends, pinsOf, nodup, lendL, lend, closedB, noimmB, AV.noimm, AV.ren, renL, back, Nat.reduceAdd, Nat.reduceSub, Nat.reduceMul, Int.reduceToNat, reduceCtorEq, aLoad, subv, aIndexAddr, aIndex, TD.aggr, guardSlot, aPick, byte, word, aMin, aMax, Ax.Ends, EndsX, Ax.rvals, rone, AV.ids, idsL, newIds, upTo, pinHeap, gOf, ↓reduceIte, List.isEmpty, Int.reducePow, Nat.reducePow, Int.reduceMod, Nat.reduceLeDiff, Int.reduceLE, Int.reduceNe, Int.reduceEq, aBuildSlice, fillB, aAppend, appendB, viewB, Ax.look, Ax.put, Ax.drop, List.drop, List.take, asv, aMake, aCopy, srcB, fillG, viewG, appendG, appendI, fillI, aSlice, bnd, bnds, full3, cut, aFieldAddr, aField, aStore, setB, aBox, aBuild, fillS, allTy, AV.leaves, AV.okv, AV.leaf, one, splice, elemLeaves, Blk.size, Blk.len, Option.isSome, Option.isNone, isBytes, aStr, aNil, aAlloc, aExtract, viewI, Nat.reduceEqDiff, Nat.reduceLT, Nat.reduceBEq, List.contains, List.elem, Blk.closed, closedL, AV.closed, Blk.noimm, ↓gsplit_tt, ↓gsplit_ff, ↓gsplit_tf, ↓gsplit_ft, ↓csplit_t, ↓csplit_f, Ax.idx, AV.lentIds, lentIdsL, dropAll, givenUp, AV.clean, cleanL, Blk.clean, cleanB, quietC, flatTy, coldStr, notMs, eqV, eqF, isStruct, -coe, coe_w, coe_str, coe_agg, coe_tup, coe_sb, coe_si, coe_cp, coe_ms, coe_rf, coe_fn, coe_cons, hc1, tyF, setFlat, ty, Sblooks, yesS, blightS4, rchkS4, batS4, bnextS, bnewS, rnewS, rsameS, bfromD, sallS, hlp, hlF, hL1, h40, h1m, hx1, hxF, hFl, map_rrec, d1, hE1, c1, hN, hat, Option.getD, Option.isSome, rv, zeroR, hs, hs0, hF, bb, dd, di, fillS]
      · have d3 : decide (bE ⟨b, c, p, e, s, rs⟩ = 0) = false := decide_eq_false c1
        simp -implicitDefEqProofs only [evT, implies_true, forall_const, Option.getD, later_normal, aop, aLen, ev, slot, setSlot, putSlot, cv, cvl, aConv, aBin, aInt, aUn, aFn, aEq, Out.and, isBool, isPtr, List.length, IntKind.bits, evs, evo, evps, aCall, aUser, coes, coe, List.append, List.replicate, callOut, rootsL, AV.roots, lendsL, AV.lends, pinsOf, nodup, lendL, lend, closedB, noimmB, AV.noimm, AV.ren, renL, back, Nat.reduceAdd, Nat.reduceSub, Nat.reduceMul, Int.reduceToNat, reduceCtorEq, aLoad, subv, aIndexAddr, aIndex, TD.aggr, guardSlot, aPick, byte, word, aMin, aMax, Ax.Ends, EndsX, Ax.rvals, rone, AV.ids, idsL, newIds, upTo, pinHeap, gOf, ↓reduceIte, List.isEmpty, Int.reducePow, Nat.reducePow, Int.reduceMod, Nat.reduceLeDiff, Int.reduceLE, Int.reduceNe, Int.reduceEq, aBuildSlice, fillB, aAppend, appendB, viewB, Ax.look, Ax.put, Ax.drop, List.drop, List.take, asv, aMake, aCopy, srcB, fillG, viewG, appendG, appendI, fillI, aSlice, bnd, bnds, full3, cut, aFieldAddr, aField, aStore, setB, aBox, aBuild, fillS, allTy, AV.leaves, AV.okv, AV.leaf, one, splice, elemLeaves, Blk.size, Blk.len, Option.isSome, Option.isNone, isBytes, aStr, aNil, aAlloc, aExtract, viewI, Nat.reduceEqDiff, Nat.reduceLT, Nat.reduceBEq, List.contains, List.elem, Blk.closed, closedL, AV.closed, Blk.noimm, ↓gsplit_tt, ↓gsplit_ff, ↓gsplit_tf, ↓gsplit_ft, ↓csplit_t, ↓csplit_f, Ax.idx, AV.lentIds, lentIdsL, dropAll, givenUp, AV.clean, cleanL, Blk.clean, cleanB, quietC, flatTy, coldStr, notMs, eqV, eqF, isStruct, -coe, coe_w, coe_str, coe_agg, coe_tup, coe_sb, coe_si, coe_cp, coe_ms, coe_rf, coe_fn, coe_cons, tyF, setFlat, ty, Sblooks, yesS, blightS4, rchkS4, hlp, hL1, h40, hx1, map_rrec, d1, hE1, d3]
    · have d1 : decide (rs.length ≤ 40 ∧ ∀ r ∈ rs, lightR r) = false := decide_eq_false g1
      simp -implicitDefEqProofs only [evT, implies_true, forall_const, Option.getD, later_normal, aop, aLen, ev, slot, setSlot, putSlot, cv, cvl, aConv, aBin, aInt, aUn, aFn, aEq, Out.and, isBool, isPtr, List.length, IntKind.bits, evs, evo, evps, aCall, aUser, coes, coe, List.append, List.replicate, callOut, rootsL, AV.roots, lendsL, AV.lends, pinsOf, nodup, lendL, lend, closedB, noimmB, AV.noimm, AV.ren, renL, back, Nat.reduceAdd, Nat.reduceSub, Nat.reduceMul, Int.reduceToNat, reduceCtorEq, aLoad, subv, aIndexAddr, aIndex, TD.aggr, guardSlot, aPick, byte, word, aMin, aMax, Ax.Ends, EndsX, Ax.rvals, rone, AV.ids, idsL, newIds, upTo, pinHeap, gOf, ↓reduceIte, List.isEmpty, Int.reducePow, Nat.reducePow, Int.reduceMod, Nat.reduceLeDiff, Int.reduceLE, Int.reduceNe, Int.reduceEq, aBuildSlice, fillB, aAppend, appendB, viewB, Ax.look, Ax.put, Ax.drop, List.drop, List.take, asv, aMake, aCopy, srcB, fillG, viewG, appendG, appendI, fillI, aSlice, bnd, bnds, full3, cut, aFieldAddr, aField, aStore, setB, aBox, aBuild, fillS, allTy, AV.leaves, AV.okv, AV.leaf, one, splice, elemLeaves, Blk.size, Blk.len, Option.isSome, Option.isNone, isBytes, aStr, aNil, aAlloc, aExtract, viewI, Nat.reduceEqDiff, Nat.reduceLT, Nat.reduceBEq, List.contains, List.elem, Blk.closed, closedL, AV.closed, Blk.noimm, ↓gsplit_tt, ↓gsplit_ff, ↓gsplit_tf, ↓gsplit_ft, ↓csplit_t, ↓csplit_f, Ax.idx, AV.lentIds, lentIdsL, dropAll, givenUp, AV.clean, cleanL, Blk.clean, cleanB, quietC, flatTy, coldStr, notMs, eqV, eqF, isStruct, -coe, coe_w, coe_str, coe_agg, coe_tup, coe_sb, coe_si, coe_cp, coe_ms, coe_rf, coe_fn, coe_cons, tyF, setFlat, ty, Sblooks, yesS, blightS4, hlp, hL1, hx1, map_rrec, d1]
  · exact hp.elim
end
theorem blooks_dom {x y : AV} (hx : Arg ty 6 24 x) (hy : Arg ty 6 3 y) : (blooksS [x, y] []).p ∧ (blooksS [x, y] []).x = .w (.bool true) := by
  obtain ⟨a, f, rfl, ha⟩ := arg_bat hx
  obtain ⟨n, rfl⟩ := arg_int4 hy
  exact ⟨⟨by rw [List.length_map]; exact ha, _, rfl⟩, rfl⟩
end Go.Proofs.Ythmkhlmohjcbgaa
