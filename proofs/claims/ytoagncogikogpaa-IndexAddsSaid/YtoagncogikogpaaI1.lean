/- Layer 12: an entry is put in an index that is the caller's own. -/
import Derived.Test.YtoagncogikogpaaAu
import Derived.Test.YtoagncogikogpaaAxOm
namespace Go.Proofs.Ytoagncogikogpaa
open Ax
set_option linter.unusedSimpArgs false
set_option linter.unusedVariables false

structure Ent where
  o : Int
  t : Int
  a : Int
def ent (e : Ent) : AV := .agg [.w (.int .i64 e.o), .w (.int .i64 e.t), .w (.int .i64 e.a)]
def uent : AV → Ent
  | .agg [.w (.int _ o), .w (.int _ t), .w (.int _ a)] => ⟨o, t, a⟩
  | _ => ⟨0, 0, 0⟩
theorem map_uent (es : List Ent) : (es.map ent).map uent = es := by
  rw [List.map_map]; exact List.map_id _
theorem closed_ent : ∀ (G : List Ent), closedL (G.map ent) = true
  | [] => rfl
  | x :: r => by simp only [List.map_cons, closedL, ent, AV.closed, Bool.true_and]; exact closed_ent r
theorem ren_ent (g : Nat → Nat) : ∀ (G : List Ent), renL g (G.map ent) = G.map ent
  | [] => rfl
  | x :: r => by simp only [List.map_cons, renL, ren_ent g r]; rfl
theorem slot_ent : ∀ (es : List Ent) (i : Nat) (h : i < es.length), slot (es.map ent) i = ent es[i]
  | p :: ps, 0, h => rfl
  | p :: ps, i + 1, h => by
    simp only [List.map_cons, slot, List.getElem_cons_succ]
    exact slot_ent ps i (by simpa using h)
/-- Is an entry taken? -/
def takesI (v c : Int) : Prop := v < 1 ∨ c.tmod v = 0
instance (v c : Int) : Decidable (takesI v c) := by unfold takesI; infer_instance
def inc (c : Int) : Int := (c + 1 + 9223372036854775808) % 18446744073709551616 - 9223372036854775808
def lastT (t : Int) (es : List Ent) : Int := match es.getLast? with
  | none => t
  | some l => max t l.t
def putO : FSpec
  | [.rf 0 3 0 0, .agg [.w (.int .i64 o), .w (.int .i64 t), .w (.int .i64 a)]], [.g 3 [.agg [.w (.int .i64 v), .w (.int .i64 c), .sg 3 [] true]]] =>
      ⟨True, .tup [], if takesI v c then [.g 3 [.agg [.w (.int .i64 v), .w (.int .i64 (inc c)), .ms 1 3 0 1]], .g 3 [.agg [.w (.int .i64 o), .w (.int .i64 t), .w (.int .i64 a)]]]
        else [.g 3 [.agg [.w (.int .i64 v), .w (.int .i64 (inc c)), .sg 3 [] true]]]⟩
  | [.rf 0 3 0 0, .agg [.w (.int .i64 o), .w (.int .i64 t), .w (.int .i64 a)]], [.g 3 [.agg [.w (.int .i64 v), .w (.int .i64 c), .ms 1 3 0 n]], .g 3 xs] =>
      ⟨n = xs.length ∧ 0 < n ∧ n ≤ 1000000 ∧ ∃ es : List Ent, xs = es.map ent, .tup [], if takesI v c then [.g 3 [.agg [.w (.int .i64 v), .w (.int .i64 (inc c)), .ms 2 3 0 (n + 1)]], gone, .g 3 (xs ++ [.agg [.w (.int .i64 o), .w (.int .i64 (lastT t (xs.map uent))), .w (.int .i64 a)]])]
        else [.g 3 [.agg [.w (.int .i64 v), .w (.int .i64 (inc c)), .ms 1 3 0 n]], .g 3 xs]⟩
  | _, _ => noRes
section
set_option maxRecDepth 100000
theorem takes_cases (v c : Int) : (decide (v < 1) = true ∧ takesI v c) ∨ (¬ v = 0 ∧ decide (v < 1) = false ∧ decide (c.tmod v = 0) = true ∧ takesI v c) ∨ (¬ v = 0 ∧ decide (v < 1) = false ∧ decide (c.tmod v = 0) = false ∧ ¬ takesI v c) := by
  by_cases h1 : v < 1
  · exact .inl ⟨decide_eq_true h1, .inl h1⟩
  · by_cases h2 : c.tmod v = 0
    · exact .inr (.inl ⟨by omega, decide_eq_false h1, decide_eq_true h2, .inr h2⟩)
    · exact .inr (.inr ⟨by omega, decide_eq_false h1, decide_eq_false h2, fun h => h.elim h1 h2⟩)
set_option maxHeartbeats 2000000 in
theorem putO_sound : SoundO Try.prog 51 putO := by
  refine fn_soundO (S := noS) (SO := noO) (T := ty) mixed ty_ok noS_ok noO_ok Try.func51 (c := Try.f51.body.getD .skip) (by kernel_rfl) (fun xs pins hp => ?_)
  unfold putO at hp ⊢
  split at hp
  · rename_i o t a v c
    refine ⟨by simp, fun _ => .std, by kernel_rfl, ?_⟩
    have hinc : (c + 1 + 9223372036854775808) % 18446744073709551616 - 9223372036854775808 = inc c := rfl
    have z0 : decide ((0 : Int) < ((0 : Nat) : Int)) = false := rfl
    unfold Try.f51
    rcases takes_cases v c with D | D | D
    all_goals simp -implicitDefEqProofs only [evT, implies_true, forall_const, Option.getD, later_normal, aop, aLen, ev, slot, setSlot, putSlot, cv, cvl, aConv, aBin, aInt, aUn, aFn, aEq, Out.and, isBool, isPtr, List.length, IntKind.bits, evs, evo, evps, aCall, aUser, coes, coe, List.append, List.replicate, callOut, rootsL, AV.roots, lendsL, AV.lends, pinsOf, nodup, lendL, lend, closedB, noimmB, AV.noimm, AV.ren, renL, back, Nat.reduceAdd, Nat.reduceSub, Nat.reduceMul, Int.reduceToNat, reduceCtorEq, aLoad, subv, aIndexAddr, aIndex, TD.aggr, guardSlot, aPick, byte, word, aMin, aMax, Ax.Ends, EndsX, Ax.rvals, rone, AV.ids, idsL, newIds, upTo, pinHeap, gOf, ↓reduceIte, List.isEmpty, Int.reducePow, Nat.reducePow, Int.reduceMod, Nat.reduceLeDiff, Int.reduceLE, Int.reduceNe, Int.reduceEq, aBuildSlice, fillB, aAppend, appendB, viewB, Ax.look, Ax.put, Ax.drop, List.drop, List.take, asv, aMake, aCopy, srcB, fillG, viewG, appendG, appendI, fillI, aSlice, bnd, bnds, full3, cut, aFieldAddr, aField, aStore, setB, aBox, aBuild, fillS, allTy, AV.leaves, AV.okv, AV.leaf, one, splice, elemLeaves, Blk.size, Blk.len, Option.isSome, Option.isNone, isBytes, aStr, aNil, aAlloc, aExtract, viewI, Nat.reduceEqDiff, Nat.reduceLT, Nat.reduceBEq, List.contains, List.elem, Blk.closed, closedL, AV.closed, Blk.noimm, ↓gsplit_tt, ↓gsplit_ff, ↓gsplit_tf, ↓gsplit_ft, ↓csplit_t, ↓csplit_f, Ax.idx, AV.lentIds, lentIdsL, dropAll, givenUp, AV.clean, cleanL, Blk.clean, cleanB, quietC, flatTy, coldStr, notMs, eqV, eqF, isStruct, evTO, evTP, laterO_normal, frzS, frzL, ↓frzK_def, fzL, fzH, AV.fz, Blk.fz, fgL, fgH, AV.fg, Blk.fg, ↓openKO_def, openOp, aOpen, openOut, reach, walk, allIn, pinsIn, pinsR, backO, gone, Blk.isGone, AV.sids, sidsL, Blk.idsB, Blk.sidsB, Blk.renB, Blk.ren, idxOf, EndsO, EndsXO, endIds, reachE, idsAt, idsAtL, walkI, matchE, aopF, foot, footA, keepIn, dropIn, bids, Blk.ids, heldB, memOk, clearOf, Op.operands, Call.operands, List.map_cons, List.map_nil, List.toList_toArray, Array.toList_append, Option.toArray_some, Option.toArray_none, Bool.and_self, ty, noS, D, hinc, z0]
    all_goals repeat (refine And.intro (by first | omega | decide) ?_)
    all_goals refine ⟨_, Weak.refl _, ?_⟩
    all_goals simp -implicitDefEqProofs only [evT, implies_true, forall_const, Option.getD, later_normal, aop, aLen, ev, slot, setSlot, putSlot, cv, cvl, aConv, aBin, aInt, aUn, aFn, aEq, Out.and, isBool, isPtr, List.length, IntKind.bits, evs, evo, evps, aCall, aUser, coes, coe, List.append, List.replicate, callOut, rootsL, AV.roots, lendsL, AV.lends, pinsOf, nodup, lendL, lend, closedB, noimmB, AV.noimm, AV.ren, renL, back, Nat.reduceAdd, Nat.reduceSub, Nat.reduceMul, Int.reduceToNat, reduceCtorEq, aLoad, subv, aIndexAddr, aIndex, TD.aggr, guardSlot, aPick, byte, word, aMin, aMax, Ax.Ends, EndsX, Ax.rvals, rone, AV.ids, idsL, newIds, upTo, pinHeap, gOf, ↓reduceIte, List.isEmpty, Int.reducePow, Nat.reducePow, Int.reduceMod, Nat.reduceLeDiff, Int.reduceLE, Int.reduceNe, Int.reduceEq, aBuildSlice, fillB, aAppend, appendB, viewB, Ax.look, Ax.put, Ax.drop, List.drop, List.take, asv, aMake, aCopy, srcB, fillG, viewG, appendG, appendI, fillI, aSlice, bnd, bnds, full3, cut, aFieldAddr, aField, aStore, setB, aBox, aBuild, fillS, allTy, AV.leaves, AV.okv, AV.leaf, one, splice, elemLeaves, Blk.size, Blk.len, Option.isSome, Option.isNone, isBytes, aStr, aNil, aAlloc, aExtract, viewI, Nat.reduceEqDiff, Nat.reduceLT, Nat.reduceBEq, List.contains, List.elem, Blk.closed, closedL, AV.closed, Blk.noimm, ↓gsplit_tt, ↓gsplit_ff, ↓gsplit_tf, ↓gsplit_ft, ↓csplit_t, ↓csplit_f, Ax.idx, AV.lentIds, lentIdsL, dropAll, givenUp, AV.clean, cleanL, Blk.clean, cleanB, quietC, flatTy, coldStr, notMs, eqV, eqF, isStruct, evTO, evTP, laterO_normal, frzS, frzL, ↓frzK_def, fzL, fzH, AV.fz, Blk.fz, fgL, fgH, AV.fg, Blk.fg, ↓openKO_def, openOp, aOpen, openOut, reach, walk, allIn, pinsIn, pinsR, backO, gone, Blk.isGone, AV.sids, sidsL, Blk.idsB, Blk.sidsB, Blk.renB, Blk.ren, idxOf, EndsO, EndsXO, endIds, reachE, idsAt, idsAtL, walkI, matchE, aopF, foot, footA, keepIn, dropIn, bids, Blk.ids, heldB, memOk, clearOf, Op.operands, Call.operands, List.map_cons, List.map_nil, List.toList_toArray, Array.toList_append, Option.toArray_some, Option.toArray_none, Bool.and_self, ty]
  · rename_i o t a v c n xs
    obtain ⟨rfl, hpos, hle, es, rfl⟩ := hp
    rw [List.length_map] at hpos hle
    refine ⟨by simp, fun _ => .std, by kernel_rfl, ?_⟩
    have hinc : (c + 1 + 9223372036854775808) % 18446744073709551616 - 9223372036854775808 = inc c := rfl
    have htop : top = 4294967296 := rfl
    have hlen : (es.map ent).length = es.length := by simp
    have d0 : decide ((0 : Int) < (es.length : Int)) = true := decide_eq_true (by omega)
    have d1 : decide (0 < es.length) = true := decide_eq_true hpos
    have e1 : ((es.length : Int) - 1 + 9223372036854775808) % 18446744073709551616 - 9223372036854775808 = ((es.length - 1 : Nat) : Int) := by omega
    obtain ⟨L, hL⟩ : ∃ L, es.getLast? = some L := by
      cases h : es.getLast? with
      | some L => exact ⟨L, rfl⟩
      | none => rw [List.getLast?_eq_none_iff] at h; subst h; simp at hpos
    have hs : slot (es.map ent) (es.length - 1) = .agg [.w (.int .i64 L.o), .w (.int .i64 L.t), .w (.int .i64 L.a)] := by
      rw [slot_ent es _ (by omega)]
      have : es[es.length - 1]'(by omega) = L := by
        rw [List.getLast?_eq_getElem?, List.getElem?_eq_getElem (by omega)] at hL
        injection hL
      rw [this]; rfl
    have hlt : lastT t es = max t L.t := by unfold lastT; rw [hL]
    have em1 : (if t > L.t then t else L.t) = max t L.t := by split <;> omega
    have em2 : (if L.t > t then L.t else t) = max t L.t := by split <;> omega
    have hcl : closedL (es.map ent ++ [.agg [.w (.int .i64 o), .w (.int .i64 (max t L.t)), .w (.int .i64 a)]]) = true := by
      have := closed_ent (es ++ [⟨o, max t L.t, a⟩])
      simpa [ent] using this
    unfold Try.f51
    rcases takes_cases v c with D | D | D
    all_goals simp -implicitDefEqProofs only [evT, implies_true, forall_const, Option.getD, later_normal, aop, aLen, ev, slot, setSlot, putSlot, cv, cvl, aConv, aBin, aInt, aUn, aFn, aEq, Out.and, isBool, isPtr, List.length, IntKind.bits, evs, evo, evps, aCall, aUser, coes, coe, List.append, List.replicate, callOut, rootsL, AV.roots, lendsL, AV.lends, pinsOf, nodup, lendL, lend, closedB, noimmB, AV.noimm, AV.ren, renL, back, Nat.reduceAdd, Nat.reduceSub, Nat.reduceMul, Int.reduceToNat, reduceCtorEq, aLoad, subv, aIndexAddr, aIndex, TD.aggr, guardSlot, aPick, byte, word, aMin, aMax, Ax.Ends, EndsX, Ax.rvals, rone, AV.ids, idsL, newIds, upTo, pinHeap, gOf, ↓reduceIte, List.isEmpty, Int.reducePow, Nat.reducePow, Int.reduceMod, Nat.reduceLeDiff, Int.reduceLE, Int.reduceNe, Int.reduceEq, aBuildSlice, fillB, aAppend, appendB, viewB, Ax.look, Ax.put, Ax.drop, List.drop, List.take, asv, aMake, aCopy, srcB, fillG, viewG, appendG, appendI, fillI, aSlice, bnd, bnds, full3, cut, aFieldAddr, aField, aStore, setB, aBox, aBuild, fillS, allTy, AV.leaves, AV.okv, AV.leaf, one, splice, elemLeaves, Blk.size, Blk.len, Option.isSome, Option.isNone, isBytes, aStr, aNil, aAlloc, aExtract, viewI, Nat.reduceEqDiff, Nat.reduceLT, Nat.reduceBEq, List.contains, List.elem, Blk.closed, closedL, AV.closed, Blk.noimm, ↓gsplit_tt, ↓gsplit_ff, ↓gsplit_tf, ↓gsplit_ft, ↓csplit_t, ↓csplit_f, Ax.idx, AV.lentIds, lentIdsL, dropAll, givenUp, AV.clean, cleanL, Blk.clean, cleanB, quietC, flatTy, coldStr, notMs, eqV, eqF, isStruct, evTO, evTP, laterO_normal, frzS, frzL, ↓frzK_def, fzL, fzH, AV.fz, Blk.fz, fgL, fgH, AV.fg, Blk.fg, ↓openKO_def, openOp, aOpen, openOut, reach, walk, allIn, pinsIn, pinsR, backO, gone, Blk.isGone, AV.sids, sidsL, Blk.idsB, Blk.sidsB, Blk.renB, Blk.ren, idxOf, EndsO, EndsXO, endIds, reachE, idsAt, idsAtL, walkI, matchE, aopF, foot, footA, keepIn, dropIn, bids, Blk.ids, heldB, memOk, clearOf, Op.operands, Call.operands, List.map_cons, List.map_nil, List.toList_toArray, Array.toList_append, Option.toArray_some, Option.toArray_none, Bool.and_self, ty, noS, D, hinc, hlen, d0, e1, hs, em1, em2, hlt, map_uent, Int.toNat_natCast]
    all_goals repeat (refine And.intro (by first | omega | decide) ?_)
    all_goals refine ⟨_, Weak.refl _, ?_⟩
    all_goals simp -implicitDefEqProofs only [evT, implies_true, forall_const, Option.getD, later_normal, aop, aLen, ev, slot, setSlot, putSlot, cv, cvl, aConv, aBin, aInt, aUn, aFn, aEq, Out.and, isBool, isPtr, List.length, IntKind.bits, evs, evo, evps, aCall, aUser, coes, coe, List.append, List.replicate, callOut, rootsL, AV.roots, lendsL, AV.lends, pinsOf, nodup, lendL, lend, closedB, noimmB, AV.noimm, AV.ren, renL, back, Nat.reduceAdd, Nat.reduceSub, Nat.reduceMul, Int.reduceToNat, reduceCtorEq, aLoad, subv, aIndexAddr, aIndex, TD.aggr, guardSlot, aPick, byte, word, aMin, aMax, Ax.Ends, EndsX, Ax.rvals, rone, AV.ids, idsL, newIds, upTo, pinHeap, gOf, ↓reduceIte, List.isEmpty, Int.reducePow, Nat.reducePow, Int.reduceMod, Nat.reduceLeDiff, Int.reduceLE, Int.reduceNe, Int.reduceEq, aBuildSlice, fillB, aAppend, appendB, viewB, Ax.look, Ax.put, Ax.drop, List.drop, List.take, asv, aMake, aCopy, srcB, fillG, viewG, appendG, appendI, fillI, aSlice, bnd, bnds, full3, cut, aFieldAddr, aField, aStore, setB, aBox, aBuild, fillS, allTy, AV.leaves, AV.okv, AV.leaf, one, splice, elemLeaves, Blk.size, Blk.len, Option.isSome, Option.isNone, isBytes, aStr, aNil, aAlloc, aExtract, viewI, Nat.reduceEqDiff, Nat.reduceLT, Nat.reduceBEq, List.contains, List.elem, Blk.closed, closedL, AV.closed, Blk.noimm, ↓gsplit_tt, ↓gsplit_ff, ↓gsplit_tf, ↓gsplit_ft, ↓csplit_t, ↓csplit_f, Ax.idx, AV.lentIds, lentIdsL, dropAll, givenUp, AV.clean, cleanL, Blk.clean, cleanB, quietC, flatTy, coldStr, notMs, eqV, eqF, isStruct, evTO, evTP, laterO_normal, frzS, frzL, ↓frzK_def, fzL, fzH, AV.fz, Blk.fz, fgL, fgH, AV.fg, Blk.fg, ↓openKO_def, openOp, aOpen, openOut, reach, walk, allIn, pinsIn, pinsR, backO, gone, Blk.isGone, AV.sids, sidsL, Blk.idsB, Blk.sidsB, Blk.renB, Blk.ren, idxOf, EndsO, EndsXO, endIds, reachE, idsAt, idsAtL, walkI, matchE, aopF, foot, footA, keepIn, dropIn, bids, Blk.ids, heldB, memOk, clearOf, Op.operands, Call.operands, List.map_cons, List.map_nil, List.toList_toArray, Array.toList_append, Option.toArray_some, Option.toArray_none, Bool.and_self, ty, closed_ent, hcl, hlen]
  · exact hp.elim
end
end Go.Proofs.Ytoagncogikogpaa
