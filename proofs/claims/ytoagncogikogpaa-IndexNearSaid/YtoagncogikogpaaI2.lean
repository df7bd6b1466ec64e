/- Layer 12: an index is built. -/
import Derived.Test.YtoagncogikogpaaI1
namespace Go.Proofs.Ytoagncogikogpaa
open Ax
set_option linter.unusedSimpArgs false
set_option linter.unusedVariables false

structure Idx where
  v : Int
  c : Int
  es : List Ent
def addI (x : Idx) (e : Ent) : Idx := ⟨x.v, inc x.c, if takesI x.v x.c then x.es ++ [⟨e.o, lastT e.t x.es, e.a⟩] else x.es⟩
def bldI (v : Int) (es : List Ent) : Idx := es.foldl addI ⟨max v 1, 0, []⟩
def iav (x : Idx) (f : Bool) : AV := .agg [.w (.int .i64 x.v), .w (.int .i64 x.c), .sg 3 (x.es.map ent) f]
def empE (es : List Ent) : Bool := es.isEmpty
theorem empE_nil : empE [] = true := rfl
def newI12S : FSpec
  | [.w (.int .i64 v)], [] => ⟨True, .agg [.w (.int .i64 (max v 1)), .w (.int .i64 0), .sg 3 [] true], []⟩
  | _, _ => noRes
def buildI12S : FSpec
  | [.w (.int .i64 v), .sg 3 xs f], [] => ⟨xs.length ≤ 100000 ∧ ∃ es : List Ent, xs = es.map ent, iav (bldI v (xs.map uent)) (empE (bldI v (xs.map uent)).es), []⟩
  | _, _ => noRes
section
set_option maxRecDepth 100000
theorem newI12_sound : Sound Try.prog 30 newI12S := by
  refine fn_sound (S := noS) (T := ty) mixed ty_ok noS_ok Try.func30 (c := Try.f30.body.getD .skip) (by kernel_rfl) (by kernel_rfl) (fun xs pins hp _ => ?_)
  unfold newI12S at hp ⊢
  split at hp
  · rename_i v _
    refine ⟨by simp, ?_⟩
    have em1 : (if v > 1 then v else 1) = max v 1 := by split <;> omega
    have em2 : (if (1 : Int) > v then 1 else v) = max v 1 := by split <;> omega
    unfold Try.f30
    simp -implicitDefEqProofs only [evT, implies_true, forall_const, Option.getD, later_normal, aop, aLen, ev, slot, setSlot, putSlot, cv, cvl, aConv, aBin, aInt, aUn, aFn, aEq, Out.and, isBool, isPtr, List.length, IntKind.bits, evs, evo, evps, aCall, aUser, coes, coe, List.append, List.replicate, callOut, rootsL, AV.roots, lendsL, AV.lends, pinsOf, nodup, lendL, lend, closedB, noimmB, AV.noimm, AV.ren, renL, back, Nat.reduceAdd, Nat.reduceSub, Nat.reduceMul, Int.reduceToNat, reduceCtorEq, aLoad, subv, aIndexAddr, aIndex, TD.aggr, guardSlot, aPick, byte, word, aMin, aMax, Ax.Ends, EndsX, Ax.rvals, rone, AV.ids, idsL, newIds, upTo, pinHeap, gOf, ↓reduceIte, List.isEmpty, Int.reducePow, Nat.reducePow, Int.reduceMod, Nat.reduceLeDiff, Int.reduceLE, Int.reduceNe, Int.reduceEq, aBuildSlice, fillB, aAppend, appendB, viewB, Ax.look, Ax.put, Ax.drop, List.drop, List.take, asv, aMake, aCopy, srcB, fillG, viewG, appendG, appendI, fillI, aSlice, bnd, bnds, full3, cut, aFieldAddr, aField, aStore, setB, aBox, aBuild, fillS, allTy, AV.leaves, AV.okv, AV.leaf, one, splice, elemLeaves, Blk.size, Blk.len, Option.isSome, Option.isNone, isBytes, aStr, aNil, aAlloc, aExtract, viewI, Nat.reduceEqDiff, Nat.reduceLT, Nat.reduceBEq, List.contains, List.elem, Blk.closed, closedL, AV.closed, Blk.noimm, ↓gsplit_tt, ↓gsplit_ff, ↓gsplit_tf, ↓gsplit_ft, ↓csplit_t, ↓csplit_f, Ax.idx, AV.lentIds, lentIdsL, dropAll, givenUp, AV.clean, cleanL, Blk.clean, cleanB, quietC, flatTy, coldStr, notMs, eqV, eqF, isStruct, ty, noS, em1, em2, fillS]
  · exact hp.elim
end
def Sbuild12 (f : FuncId) : Option FSpec :=
  match f with
  | 30 => some newI12S
  | _ => none
theorem Sbuild12_ok : Fns Try.prog Sbuild12 := by
  intro f s h
  unfold Sbuild12 at h
  split at h
  · injection h with h; subst h; exact ⟨⟨_, Try.func30, by kernel_rfl, by kernel_rfl⟩, newI12_sound⟩
  · cases h
def Obuild12 (f : FuncId) : Option FSpec :=
  match f with
  | 51 => some putO
  | _ => none
theorem Obuild12_ok : FnsO Try.prog Obuild12 := by
  intro f s h
  unfold Obuild12 at h
  split at h
  · injection h with h; subst h; exact ⟨⟨_, Try.func51, by kernel_rfl, by kernel_rfl⟩, putO_sound⟩
  · cases h
def build12Pl : XPlan := fun id => match id with
  | 5 => .opn [] 1
  | _ => .std
theorem weak_fgB {sl : List AV} {H : Heap} {nx : Nat} (id s i id0 : Nat) (zs : List AV) (b0 : Blk) (hl : Ax.look H id = some (.g s zs)) (hcl : closedL zs = true) (h0 : Ax.look H id0 = some b0) (hi0 : id0 ∈ (slot sl i).ids) (hin : id ∈ b0.idsB) : Weak ⟨sl, H, nx⟩ ⟨fgL id s zs sl, fgH id s zs H, nx⟩ := by
  rintro w0 E B a w ⟨loc, hB, hr⟩
  have h1 := ids_live _ _ (hr.slots i) hi0
  have h2 : loc.m id ≠ .free := by
    obtain ⟨hok, ⟨_, e⟩ | ⟨c, hc, hlies⟩⟩ := hr.heap.get h0 h1
    · rw [idsB_nil e] at hin; simp at hin
    · exact lies_live hlies id hin
  obtain ⟨h3, h4⟩ := rel_fg hB hr h2 (hr.heap id _ hl) hcl
  exact ⟨_, h3, h4⟩
theorem fold_snoc (x : Idx) (es : List Ent) (i : Nat) (h : i < es.length) : (es.take (i + 1)).foldl addI x = addI ((es.take i).foldl addI x) es[i] := by
  rw [List.take_succ_eq_append_getElem h, List.foldl_append]; rfl
theorem fold_v : ∀ (es : List Ent) (x : Idx), (es.foldl addI x).v = x.v
  | [], _ => rfl
  | e :: es, x => by rw [List.foldl_cons, fold_v es]; rfl
theorem addI_len (x : Idx) (e : Ent) : (addI x e).es.length ≤ x.es.length + 1 := by
  unfold addI; simp only; split <;> simp
theorem fold_len : ∀ (es : List Ent) (x : Idx), (es.foldl addI x).es.length ≤ x.es.length + es.length
  | [], _ => Nat.le_refl _
  | e :: es, x => by
    have h1 := fold_len es (addI x e)
    have h2 := addI_len x e
    rw [List.foldl_cons, List.length_cons]; omega
theorem addI_pos (x : Idx) (e : Ent) (h : x.es ≠ [] ∨ takesI x.v x.c) : (addI x e).es ≠ [] := by
  unfold addI; simp only
  split
  · simp
  · rename_i hn; rcases h with h | h
    · exact h
    · exact (hn h).elim
section
set_option maxRecDepth 100000
set_option maxHeartbeats 2000000 in
theorem buildI12_sound : Sound Try.prog 32 buildI12S := by
  refine fn_soundOK (S := Sbuild12) (SO := Obuild12) (T := ty) mixed ty_ok Sbuild12_ok Obuild12_ok Try.func32 (c := Try.f32.body.getD .skip) (by kernel_rfl) (fun xs pins hp _ => ?_)
  unfold buildI12S at hp ⊢
  split at hp
  · rename_i v xs f _
    obtain ⟨hL, es, rfl⟩ := hp
    rw [List.length_map] at hL
    refine ⟨by simp, build12Pl, by kernel_rfl, ?_⟩
    have hle : (es.map ent).length = es.length := by simp
    obtain ⟨V, hV⟩ : ∃ V, max v 1 = V := ⟨_, rfl⟩
    have hV1 : 1 ≤ V := by omega
    have hbld : bldI v es = es.foldl addI ⟨V, 0, []⟩ := by rw [← hV]; rfl
    unfold Try.f32
    simp -implicitDefEqProofs only [evT, implies_true, forall_const, Option.getD, later_normal, aop, aLen, ev, slot, setSlot, putSlot, cv, cvl, aConv, aBin, aInt, aUn, aFn, aEq, Out.and, isBool, isPtr, List.length, IntKind.bits, evs, evo, evps, aCall, aUser, coes, coe, List.append, List.replicate, callOut, rootsL, AV.roots, lendsL, AV.lends, pinsOf, nodup, lendL, lend, closedB, noimmB, AV.noimm, AV.ren, renL, back, Nat.reduceAdd, Nat.reduceSub, Nat.reduceMul, Int.reduceToNat, reduceCtorEq, aLoad, subv, aIndexAddr, aIndex, TD.aggr, guardSlot, aPick, byte, word, aMin, aMax, Ax.Ends, EndsX, Ax.rvals, rone, AV.ids, idsL, newIds, upTo, pinHeap, gOf, ↓reduceIte, List.isEmpty, Int.reducePow, Nat.reducePow, Int.reduceMod, Nat.reduceLeDiff, Int.reduceLE, Int.reduceNe, Int.reduceEq, aBuildSlice, fillB, aAppend, appendB, viewB, Ax.look, Ax.put, Ax.drop, List.drop, List.take, asv, aMake, aCopy, srcB, fillG, viewG, appendG, appendI, fillI, aSlice, bnd, bnds, full3, cut, aFieldAddr, aField, aStore, setB, aBox, aBuild, fillS, allTy, AV.leaves, AV.okv, AV.leaf, one, splice, elemLeaves, Blk.size, Blk.len, Option.isSome, Option.isNone, isBytes, aStr, aNil, aAlloc, aExtract, viewI, Nat.reduceEqDiff, Nat.reduceLT, Nat.reduceBEq, List.contains, List.elem, Blk.closed, closedL, AV.closed, Blk.noimm, ↓gsplit_tt, ↓gsplit_ff, ↓gsplit_tf, ↓gsplit_ft, ↓csplit_t, ↓csplit_f, Ax.idx, AV.lentIds, lentIdsL, dropAll, givenUp, AV.clean, cleanL, Blk.clean, cleanB, quietC, flatTy, coldStr, notMs, eqV, eqF, isStruct, evTO, evTP, laterO_normal, frzS, frzL, ↓frzK_def, fzL, fzH, AV.fz, Blk.fz, fgL, fgH, AV.fg, Blk.fg, ↓openKO_def, openOp, aOpen, openOut, reach, walk, allIn, pinsIn, pinsR, backO, gone, Blk.isGone, AV.sids, sidsL, Blk.idsB, Blk.sidsB, Blk.renB, Blk.ren, idxOf, EndsO, EndsXO, endIds, reachE, idsAt, idsAtL, walkI, matchE, aopF, foot, footA, keepIn, dropIn, bids, Blk.ids, heldB, memOk, clearOf, Op.operands, Call.operands, List.map_cons, List.map_nil, List.toList_toArray, Array.toList_append, Option.toArray_some, Option.toArray_none, Bool.and_self, -coe, coe_w, coe_str, coe_agg, coe_tup, coe_sb, coe_si, coe_cp, coe_ms, coe_rf, coe_fn, coe_cons, ty, noS, Sbuild12, Obuild12, build12Pl, newI12S, putO, hle, hV, map_uent, fillS]
    refine awpO_loopW ⟨fun m σ => ∃ i : Nat, m = es.length - i ∧ i ≤ es.length ∧
        ((i = 0 ∧ σ = ⟨[.w (.int .i64 v), .sg 3 (es.map ent) f, .junk, .junk, .rf 4 3 0 0, .rf 5 3 0 0, .junk, .junk, .junk, .junk, .sg 3 (es.map ent) f, .w (.int .i64 es.length), .w (.int .i64 0), .junk, .junk, .junk, .junk, .junk, .junk, .junk], [(5, .g 3 [.agg [.w (.int .i64 V), .w (.int .i64 0), .sg 3 [] true]]), (4, .g 3 [.agg [.w (.int .i64 0), .w (.int .i64 0), .sg 3 [] true]])], 6⟩) ∨
         (0 < i ∧ ∃ X : Idx, X = (es.take i).foldl addI ⟨V, 0, []⟩ ∧ X.es ≠ [] ∧ σ = ⟨[.w (.int .i64 v), .sg 3 (es.map ent) f, .junk, .junk, .rf 4 3 0 0, .rf 5 3 0 0, .junk, .junk, .junk, .junk, .sg 3 (es.map ent) f, .w (.int .i64 es.length), .w (.int .i64 i), .junk, .junk, .junk, .junk, .junk, .junk, .junk], [(5, .g 3 [.agg [.w (.int .i64 V), .w (.int .i64 X.c), .ms 6 3 0 X.es.length]]), (4, .g 3 [.agg [.w (.int .i64 0), .w (.int .i64 0), .sg 3 [] true]]), (6, .g 3 (X.es.map ent))], 7⟩)), ?_, ?_⟩
    · refine ⟨_, _, weak_ren [0, 1, 2, 3, 4, 28] rfl rfl rfl ?_ ?_, 0, rfl, by omega, .inl ⟨rfl, rfl⟩⟩
      · simp only [SameS, SameH, setSlot, gOf, AV.ren, renL, Blk.ren, Ax.look, Ax.put, reduceCtorEq, true_or, false_or, or_true, or_false, and_true, true_and, AV.w.injEq, Value.int.injEq, Value.bool.injEq, AV.ms.injEq, AV.sb.injEq, AV.str.injEq, ↓reduceIte, Nat.reduceEqDiff, Nat.reduceLT, List.length_append, List.length_cons, List.length_nil, Nat.zero_add, Nat.add_zero, Option.some.injEq, Blk.b.injEq, Blk.i.injEq, Nat.succ_ne_zero, Nat.reduceAdd, and_self]; try simp
      · simp only [SameS, SameH, setSlot, gOf, AV.ren, renL, Blk.ren, Ax.look, Ax.put, reduceCtorEq, true_or, false_or, or_true, or_false, and_true, true_and, AV.w.injEq, Value.int.injEq, Value.bool.injEq, AV.ms.injEq, AV.sb.injEq, AV.str.injEq, ↓reduceIte, Nat.reduceEqDiff, Nat.reduceLT, List.length_append, List.length_cons, List.length_nil, Nat.zero_add, Nat.add_zero, Option.some.injEq, Blk.b.injEq, Blk.i.injEq, Nat.succ_ne_zero, Nat.reduceAdd, and_self]
    · rintro m σ ⟨i, rfl, hi, hσ⟩
      rcases hσ with ⟨rfl, rfl⟩ | ⟨hi0, X, hX, hne, rfl⟩
      · by_cases hil : 0 < es.length
        · have d1 : decide ((0 : Int) < es.length) = true := decide_eq_true (by omega)
          have hs1 := slot_ent es 0 hil
          have ht : takesI V 0 := .inr (by simp)
          have hf := fold_snoc ⟨V, 0, []⟩ es 0 hil
          obtain ⟨P, hP⟩ : ∃ P, es[0] = P := ⟨_, rfl⟩
          rw [hP] at hs1 hf
          simp only [ent] at hs1
          have hf2 : (es.take 1).foldl addI ⟨V, 0, []⟩ = ⟨V, inc 0, [P]⟩ := by
            rw [hf]; show addI ⟨V, 0, []⟩ P = _
            unfold addI; simp only; rw [if_pos ht]; rfl
          simp -implicitDefEqProofs only [evT, implies_true, forall_const, Option.getD, later_normal, aop, aLen, ev, slot, setSlot, putSlot, cv, cvl, aConv, aBin, aInt, aUn, aFn, aEq, Out.and, isBool, isPtr, List.length, IntKind.bits, evs, evo, evps, aCall, aUser, coes, coe, List.append, List.replicate, callOut, rootsL, AV.roots, lendsL, AV.lends, pinsOf, nodup, lendL, lend, closedB, noimmB, AV.noimm, AV.ren, renL, back, Nat.reduceAdd, Nat.reduceSub, Nat.reduceMul, Int.reduceToNat, reduceCtorEq, aLoad, subv, aIndexAddr, aIndex, TD.aggr, guardSlot, aPick, byte, word, aMin, aMax, Ax.Ends, EndsX, Ax.rvals, rone, AV.ids, idsL, newIds, upTo, pinHeap, gOf, ↓reduceIte, List.isEmpty, Int.reducePow, Nat.reducePow, Int.reduceMod, Nat.reduceLeDiff, Int.reduceLE, Int.reduceNe, Int.reduceEq, aBuildSlice, fillB, aAppend, appendB, viewB, Ax.look, Ax.put, Ax.drop, List.drop, List.take, asv, aMake, aCopy, srcB, fillG, viewG, appendG, appendI, fillI, aSlice, bnd, bnds, full3, cut, aFieldAddr, aField, aStore, setB, aBox, aBuild, fillS, allTy, AV.leaves, AV.okv, AV.leaf, one, splice, elemLeaves, Blk.size, Blk.len, Option.isSome, Option.isNone, isBytes, aStr, aNil, aAlloc, aExtract, viewI, Nat.reduceEqDiff, Nat.reduceLT, Nat.reduceBEq, List.contains, List.elem, Blk.closed, closedL, AV.closed, Blk.noimm, ↓gsplit_tt, ↓gsplit_ff, ↓gsplit_tf, ↓gsplit_ft, ↓csplit_t, ↓csplit_f, Ax.idx, AV.lentIds, lentIdsL, dropAll, givenUp, AV.clean, cleanL, Blk.clean, cleanB, quietC, flatTy, coldStr, notMs, eqV, eqF, isStruct, evTO, evTP, laterO_normal, frzS, frzL, ↓frzK_def, fzL, fzH, AV.fz, Blk.fz, fgL, fgH, AV.fg, Blk.fg, ↓openKO_def, openOp, aOpen, openOut, reach, walk, allIn, pinsIn, pinsR, backO, gone, Blk.isGone, AV.sids, sidsL, Blk.idsB, Blk.sidsB, Blk.renB, Blk.ren, idxOf, EndsO, EndsXO, endIds, reachE, idsAt, idsAtL, walkI, matchE, aopF, foot, footA, keepIn, dropIn, bids, Blk.ids, heldB, memOk, clearOf, Op.operands, Call.operands, List.map_cons, List.map_nil, List.toList_toArray, Array.toList_append, Option.toArray_some, Option.toArray_none, Bool.and_self, -coe, coe_w, coe_str, coe_agg, coe_tup, coe_sb, coe_si, coe_cp, coe_ms, coe_rf, coe_fn, coe_cons, ty, noS, Sbuild12, Obuild12, build12Pl, newI12S, putO, hle, d1, hs1, ht, fillS, Int.toNat_zero]
          refine ⟨hil, es.length - 1, _, by omega, weak_ren [0, 1, 2, 3, 4, 5, 54] rfl rfl rfl ?_ ?_, 1, rfl, by omega, .inr ⟨by omega, ⟨V, inc 0, [P]⟩, hf2.symm, by simp, rfl⟩⟩
          · simp only [SameS, SameH, setSlot, gOf, AV.ren, renL, Blk.ren, Ax.look, Ax.put, reduceCtorEq, true_or, false_or, or_true, or_false, and_true, true_and, AV.w.injEq, Value.int.injEq, Value.bool.injEq, AV.ms.injEq, AV.sb.injEq, AV.str.injEq, ↓reduceIte, Nat.reduceEqDiff, Nat.reduceLT, List.length_append, List.length_cons, List.length_nil, Nat.zero_add, Nat.add_zero, Option.some.injEq, Blk.b.injEq, Blk.i.injEq, Nat.succ_ne_zero, Nat.reduceAdd, and_self]; try simp
          · simp only [SameS, SameH, setSlot, gOf, AV.ren, renL, Blk.ren, Ax.look, Ax.put, reduceCtorEq, true_or, false_or, or_true, or_false, and_true, true_and, AV.w.injEq, Value.int.injEq, Value.bool.injEq, AV.ms.injEq, AV.sb.injEq, AV.str.injEq, ↓reduceIte, Nat.reduceEqDiff, Nat.reduceLT, List.length_append, List.length_cons, List.length_nil, Nat.zero_add, Nat.add_zero, Option.some.injEq, Blk.b.injEq, Blk.i.injEq, Nat.succ_ne_zero, Nat.reduceAdd, and_self, ren_ent]; try simp [ent]
        · have d1 : decide ((0 : Int) < es.length) = false := decide_eq_false (by omega)
          obtain rfl : es = [] := List.eq_nil_of_length_eq_zero (by omega)
          have hb : bldI v [] = ⟨V, 0, []⟩ := by rw [hbld]; rfl
          have z0 : decide ((0 : Int) < ((0 : Nat) : Int)) = false := rfl
          simp -implicitDefEqProofs only [evT, implies_true, forall_const, Option.getD, later_normal, aop, aLen, ev, slot, setSlot, putSlot, cv, cvl, aConv, aBin, aInt, aUn, aFn, aEq, Out.and, isBool, isPtr, List.length, IntKind.bits, evs, evo, evps, aCall, aUser, coes, coe, List.append, List.replicate, callOut, rootsL, AV.roots, lendsL, AV.lends, pinsOf, nodup, lendL, lend, closedB, noimmB, AV.noimm, AV.ren, renL, back, Nat.reduceAdd, Nat.reduceSub, Nat.reduceMul, Int.reduceToNat, reduceCtorEq, aLoad, subv, aIndexAddr, aIndex, TD.aggr, guardSlot, aPick, byte, word, aMin, aMax, Ax.Ends, EndsX, Ax.rvals, rone, AV.ids, idsL, newIds, upTo, pinHeap, gOf, ↓reduceIte, List.isEmpty, Int.reducePow, Nat.reducePow, Int.reduceMod, Nat.reduceLeDiff, Int.reduceLE, Int.reduceNe, Int.reduceEq, aBuildSlice, fillB, aAppend, appendB, viewB, Ax.look, Ax.put, Ax.drop, List.drop, List.take, asv, aMake, aCopy, srcB, fillG, viewG, appendG, appendI, fillI, aSlice, bnd, bnds, full3, cut, aFieldAddr, aField, aStore, setB, aBox, aBuild, fillS, allTy, AV.leaves, AV.okv, AV.leaf, one, splice, elemLeaves, Blk.size, Blk.len, Option.isSome, Option.isNone, isBytes, aStr, aNil, aAlloc, aExtract, viewI, Nat.reduceEqDiff, Nat.reduceLT, Nat.reduceBEq, List.contains, List.elem, Blk.closed, closedL, AV.closed, Blk.noimm, ↓gsplit_tt, ↓gsplit_ff, ↓gsplit_tf, ↓gsplit_ft, ↓csplit_t, ↓csplit_f, Ax.idx, AV.lentIds, lentIdsL, dropAll, givenUp, AV.clean, cleanL, Blk.clean, cleanB, quietC, flatTy, coldStr, notMs, eqV, eqF, isStruct, evTO, evTP, laterO_normal, frzS, frzL, ↓frzK_def, fzL, fzH, AV.fz, Blk.fz, fgL, fgH, AV.fg, Blk.fg, ↓openKO_def, openOp, aOpen, openOut, reach, walk, allIn, pinsIn, pinsR, backO, gone, Blk.isGone, AV.sids, sidsL, Blk.idsB, Blk.sidsB, Blk.renB, Blk.ren, idxOf, EndsO, EndsXO, endIds, reachE, idsAt, idsAtL, walkI, matchE, aopF, foot, footA, keepIn, dropIn, bids, Blk.ids, heldB, memOk, clearOf, Op.operands, Call.operands, List.map_cons, List.map_nil, List.toList_toArray, Array.toList_append, Option.toArray_some, Option.toArray_none, Bool.and_self, -coe, coe_w, coe_str, coe_agg, coe_tup, coe_sb, coe_si, coe_cp, coe_ms, coe_rf, coe_fn, coe_cons, ty, noS, Sbuild12, Obuild12, build12Pl, newI12S, putO, z0, hb, iav, empE_nil, List.map_nil, fillS]
          refine ⟨_, Weak.refl _, ?_⟩
          simp -implicitDefEqProofs only [evT, implies_true, forall_const, Option.getD, later_normal, aop, aLen, ev, slot, setSlot, putSlot, cv, cvl, aConv, aBin, aInt, aUn, aFn, aEq, Out.and, isBool, isPtr, List.length, IntKind.bits, evs, evo, evps, aCall, aUser, coes, coe, List.append, List.replicate, callOut, rootsL, AV.roots, lendsL, AV.lends, pinsOf, nodup, lendL, lend, closedB, noimmB, AV.noimm, AV.ren, renL, back, Nat.reduceAdd, Nat.reduceSub, Nat.reduceMul, Int.reduceToNat, reduceCtorEq, aLoad, subv, aIndexAddr, aIndex, TD.aggr, guardSlot, aPick, byte, word, aMin, aMax, Ax.Ends, EndsX, Ax.rvals, rone, AV.ids, idsL, newIds, upTo, pinHeap, gOf, ↓reduceIte, List.isEmpty, Int.reducePow, Nat.reducePow, Int.reduceMod, Nat.reduceLeDiff, Int.reduceLE, Int.reduceNe, Int.reduceEq, aBuildSlice, fillB, aAppend, appendB, viewB, Ax.look, Ax.put, Ax.drop, List.drop, List.take, asv, aMake, aCopy, srcB, fillG, viewG, appendG, appendI, fillI, aSlice, bnd, bnds, full3, cut, aFieldAddr, aField, aStore, setB, aBox, aBuild, fillS, allTy, AV.leaves, AV.okv, AV.leaf, one, splice, elemLeaves, Blk.size, Blk.len, Option.isSome, Option.isNone, isBytes, aStr, aNil, aAlloc, aExtract, viewI, Nat.reduceEqDiff, Nat.reduceLT, Nat.reduceBEq, List.contains, List.elem, Blk.closed, closedL, AV.closed, Blk.noimm, ↓gsplit_tt, ↓gsplit_ff, ↓gsplit_tf, ↓gsplit_ft, ↓csplit_t, ↓csplit_f, Ax.idx, AV.lentIds, lentIdsL, dropAll, givenUp, AV.clean, cleanL, Blk.clean, cleanB, quietC, flatTy, coldStr, notMs, eqV, eqF, isStruct, evTO, evTP, laterO_normal, frzS, frzL, ↓frzK_def, fzL, fzH, AV.fz, Blk.fz, fgL, fgH, AV.fg, Blk.fg, ↓openKO_def, openOp, aOpen, openOut, reach, walk, allIn, pinsIn, pinsR, backO, gone, Blk.isGone, AV.sids, sidsL, Blk.idsB, Blk.sidsB, Blk.renB, Blk.ren, idxOf, EndsO, EndsXO, endIds, reachE, idsAt, idsAtL, walkI, matchE, aopF, foot, footA, keepIn, dropIn, bids, Blk.ids, heldB, memOk, clearOf, Op.operands, Call.operands, List.map_cons, List.map_nil, List.toList_toArray, Array.toList_append, Option.toArray_some, Option.toArray_none, Bool.and_self, -coe, coe_w, coe_str, coe_agg, coe_tup, coe_sb, coe_si, coe_cp, coe_ms, coe_rf, coe_fn, coe_cons, ty, noS, Sbuild12, Obuild12, build12Pl, newI12S, putO, hb, iav, empE_nil, List.map_nil, fillS]
          refine ⟨_, Weak.refl _, ?_⟩
          simp -implicitDefEqProofs only [evT, implies_true, forall_const, Option.getD, later_normal, aop, aLen, ev, slot, setSlot, putSlot, cv, cvl, aConv, aBin, aInt, aUn, aFn, aEq, Out.and, isBool, isPtr, List.length, IntKind.bits, evs, evo, evps, aCall, aUser, coes, coe, List.append, List.replicate, callOut, rootsL, AV.roots, lendsL, AV.lends, pinsOf, nodup, lendL, lend, closedB, noimmB, AV.noimm, AV.ren, renL, back, Nat.reduceAdd, Nat.reduceSub, Nat.reduceMul, Int.reduceToNat, reduceCtorEq, aLoad, subv, aIndexAddr, aIndex, TD.aggr, guardSlot, aPick, byte, word, aMin, aMax, Ax.Ends, EndsX, Ax.rvals, rone, AV.ids, idsL, newIds, upTo, pinHeap, gOf, ↓reduceIte, List.isEmpty, Int.reducePow, Nat.reducePow, Int.reduceMod, Nat.reduceLeDiff, Int.reduceLE, Int.reduceNe, Int.reduceEq, aBuildSlice, fillB, aAppend, appendB, viewB, Ax.look, Ax.put, Ax.drop, List.drop, List.take, asv, aMake, aCopy, srcB, fillG, viewG, appendG, appendI, fillI, aSlice, bnd, bnds, full3, cut, aFieldAddr, aField, aStore, setB, aBox, aBuild, fillS, allTy, AV.leaves, AV.okv, AV.leaf, one, splice, elemLeaves, Blk.size, Blk.len, Option.isSome, Option.isNone, isBytes, aStr, aNil, aAlloc, aExtract, viewI, Nat.reduceEqDiff, Nat.reduceLT, Nat.reduceBEq, List.contains, List.elem, Blk.closed, closedL, AV.closed, Blk.noimm, ↓gsplit_tt, ↓gsplit_ff, ↓gsplit_tf, ↓gsplit_ft, ↓csplit_t, ↓csplit_f, Ax.idx, AV.lentIds, lentIdsL, dropAll, givenUp, AV.clean, cleanL, Blk.clean, cleanB, quietC, flatTy, coldStr, notMs, eqV, eqF, isStruct, evTO, evTP, laterO_normal, frzS, frzL, ↓frzK_def, fzL, fzH, AV.fz, Blk.fz, fgL, fgH, AV.fg, Blk.fg, ↓openKO_def, openOp, aOpen, openOut, reach, walk, allIn, pinsIn, pinsR, backO, gone, Blk.isGone, AV.sids, sidsL, Blk.idsB, Blk.sidsB, Blk.renB, Blk.ren, idxOf, EndsO, EndsXO, endIds, reachE, idsAt, idsAtL, walkI, matchE, aopF, foot, footA, keepIn, dropIn, bids, Blk.ids, heldB, memOk, clearOf, Op.operands, Call.operands, List.map_cons, List.map_nil, List.toList_toArray, Array.toList_append, Option.toArray_some, Option.toArray_none, Bool.and_self, -coe, coe_w, coe_str, coe_agg, coe_tup, coe_sb, coe_si, coe_cp, coe_ms, coe_rf, coe_fn, coe_cons, ty, noS, Sbuild12, Obuild12, build12Pl, newI12S, putO, hb, iav, empE_nil, List.map_nil, fillS]
      · have hXv : X.v = V := by rw [hX, fold_v]
        have hXl : X.es.length ≤ i := by
          have := fold_len (es.take i) ⟨V, 0, []⟩
          rw [← hX, List.length_take] at this
          simp at this; omega
        have hpos : 0 < X.es.length := by cases hq : X.es with | nil => exact absurd hq hne | cons _ _ => simp
        have dpos : decide (0 < X.es.length) = true := decide_eq_true hpos
        have hxl : (X.es.map ent).length = X.es.length := by simp
        have hx1 : ∃ qs : List Ent, X.es.map ent = qs.map ent := ⟨X.es, rfl⟩
        by_cases hil : i < es.length
        · have d1 : decide ((i : Int) < es.length) = true := decide_eq_true (by omega)
          have e1 : ((i : Int) + 1 + 9223372036854775808) % 18446744073709551616 - 9223372036854775808 = ((i + 1 : Nat) : Int) := by omega
          have hm : X.es.length ≤ 1000000 := by omega
          have hs1 := slot_ent es i hil
          have hf := fold_snoc ⟨V, 0, []⟩ es i hil
          obtain ⟨P, hP⟩ : ∃ P, es[i] = P := ⟨_, rfl⟩
          rw [hP] at hs1 hf
          rw [← hX] at hf
          simp only [ent] at hs1
          have hne2 := addI_pos X P (.inl hne)
          by_cases ht : takesI X.v X.c
          · have hcl : closedL (X.es.map ent ++ [.agg [.w (.int .i64 P.o), .w (.int .i64 (lastT P.t X.es)), .w (.int .i64 P.a)]]) = true := by
              have := closed_ent (X.es ++ [⟨P.o, lastT P.t X.es, P.a⟩])
              simpa [ent] using this
            have ha : addI X P = ⟨V, inc X.c, X.es ++ [⟨P.o, lastT P.t X.es, P.a⟩]⟩ := by unfold addI; rw [if_pos ht, hXv]
            rw [hXv] at ht
            simp -implicitDefEqProofs only [evT, implies_true, forall_const, Option.getD, later_normal, aop, aLen, ev, slot, setSlot, putSlot, cv, cvl, aConv, aBin, aInt, aUn, aFn, aEq, Out.and, isBool, isPtr, List.length, IntKind.bits, evs, evo, evps, aCall, aUser, coes, coe, List.append, List.replicate, callOut, rootsL, AV.roots, lendsL, AV.lends, pinsOf, nodup, lendL, lend, closedB, noimmB, AV.noimm, AV.ren, renL, back, Nat.reduceAdd, Nat.reduceSub, Nat.reduceMul, Int.reduceToNat, reduceCtorEq, aLoad, subv, aIndexAddr, aIndex, TD.aggr, guardSlot, aPick, byte, word, aMin, aMax, Ax.Ends, EndsX, Ax.rvals, rone, AV.ids, idsL, newIds, upTo, pinHeap, gOf, ↓reduceIte, List.isEmpty, Int.reducePow, Nat.reducePow, Int.reduceMod, Nat.reduceLeDiff, Int.reduceLE, Int.reduceNe, Int.reduceEq, aBuildSlice, fillB, aAppend, appendB, viewB, Ax.look, Ax.put, Ax.drop, List.drop, List.take, asv, aMake, aCopy, srcB, fillG, viewG, appendG, appendI, fillI, aSlice, bnd, bnds, full3, cut, aFieldAddr, aField, aStore, setB, aBox, aBuild, fillS, allTy, AV.leaves, AV.okv, AV.leaf, one, splice, elemLeaves, Blk.size, Blk.len, Option.isSome, Option.isNone, isBytes, aStr, aNil, aAlloc, aExtract, viewI, Nat.reduceEqDiff, Nat.reduceLT, Nat.reduceBEq, List.contains, List.elem, Blk.closed, closedL, AV.closed, Blk.noimm, ↓gsplit_tt, ↓gsplit_ff, ↓gsplit_tf, ↓gsplit_ft, ↓csplit_t, ↓csplit_f, Ax.idx, AV.lentIds, lentIdsL, dropAll, givenUp, AV.clean, cleanL, Blk.clean, cleanB, quietC, flatTy, coldStr, notMs, eqV, eqF, isStruct, evTO, evTP, laterO_normal, frzS, frzL, ↓frzK_def, fzL, fzH, AV.fz, Blk.fz, fgL, fgH, AV.fg, Blk.fg, ↓openKO_def, openOp, aOpen, openOut, reach, walk, allIn, pinsIn, pinsR, backO, gone, Blk.isGone, AV.sids, sidsL, Blk.idsB, Blk.sidsB, Blk.renB, Blk.ren, idxOf, EndsO, EndsXO, endIds, reachE, idsAt, idsAtL, walkI, matchE, aopF, foot, footA, keepIn, dropIn, bids, Blk.ids, heldB, memOk, clearOf, Op.operands, Call.operands, List.map_cons, List.map_nil, List.toList_toArray, Array.toList_append, Option.toArray_some, Option.toArray_none, Bool.and_self, -coe, coe_w, coe_str, coe_agg, coe_tup, coe_sb, coe_si, coe_cp, coe_ms, coe_rf, coe_fn, coe_cons, ty, noS, Sbuild12, Obuild12, build12Pl, newI12S, putO, hle, d1, hs1, e1, ht, dpos, hpos, hm, hxl, hx1, map_uent, closed_ent, hcl, fillS, Int.toNat_natCast]
            repeat (refine And.intro (by omega) ?_)
            refine ⟨es.length - (i + 1), _, by omega, weak_ren [0, 1, 2, 3, 4, 5, 55] rfl rfl rfl ?_ ?_, i + 1, rfl, by omega, .inr ⟨by omega, addI X P, hf.symm, hne2, rfl⟩⟩
            · simp only [SameS, SameH, setSlot, gOf, AV.ren, renL, Blk.ren, Ax.look, Ax.put, reduceCtorEq, true_or, false_or, or_true, or_false, and_true, true_and, AV.w.injEq, Value.int.injEq, Value.bool.injEq, AV.ms.injEq, AV.sb.injEq, AV.str.injEq, ↓reduceIte, Nat.reduceEqDiff, Nat.reduceLT, List.length_append, List.length_cons, List.length_nil, Nat.zero_add, Nat.add_zero, Option.some.injEq, Blk.b.injEq, Blk.i.injEq, Nat.succ_ne_zero, Nat.reduceAdd, and_self]; try simp
            · simp only [SameS, SameH, setSlot, gOf, AV.ren, renL, Blk.ren, Ax.look, Ax.put, reduceCtorEq, true_or, false_or, or_true, or_false, and_true, true_and, AV.w.injEq, Value.int.injEq, Value.bool.injEq, AV.ms.injEq, AV.sb.injEq, AV.str.injEq, ↓reduceIte, Nat.reduceEqDiff, Nat.reduceLT, List.length_append, List.length_cons, List.length_nil, Nat.zero_add, Nat.add_zero, Option.some.injEq, Blk.b.injEq, Blk.i.injEq, Nat.succ_ne_zero, Nat.reduceAdd, and_self, ha, ren_ent]; try simp [ent]
          · have ha : addI X P = ⟨V, inc X.c, X.es⟩ := by unfold addI; rw [if_neg ht, hXv]
            rw [hXv] at ht
            simp -implicitDefEqProofs only [evT, implies_true, forall_const, Option.getD, later_normal, aop, aLen, ev, slot, setSlot, putSlot, cv, cvl, aConv, aBin, aInt, aUn, aFn, aEq, Out.and, isBool, isPtr, List.length, IntKind.bits, evs, evo, evps, aCall, aUser, coes, coe, List.append, List.replicate, callOut, rootsL, AV.roots, lendsL, AV.lends, pinsOf, nodup, lendL, lend, closedB, noimmB, AV.noimm, AV.ren, renL, back, Nat.reduceAdd, Nat.reduceSub, Nat.reduceMul, Int.reduceToNat, reduceCtorEq, aLoad, subv, aIndexAddr, aIndex, TD.aggr, guardSlot, aPick, byte, word, aMin, aMax, Ax.Ends, EndsX, Ax.rvals, rone, AV.ids, idsL, newIds, upTo, pinHeap, gOf, ↓reduceIte, List.isEmpty, Int.reducePow, Nat.reducePow, Int.reduceMod, Nat.reduceLeDiff, Int.reduceLE, Int.reduceNe, Int.reduceEq, aBuildSlice, fillB, aAppend, appendB, viewB, Ax.look, Ax.put, Ax.drop, List.drop, List.take, asv, aMake, aCopy, srcB, fillG, viewG, appendG, appendI, fillI, aSlice, bnd, bnds, full3, cut, aFieldAddr, aField, aStore, setB, aBox, aBuild, fillS, allTy, AV.leaves, AV.okv, AV.leaf, one, splice, elemLeaves, Blk.size, Blk.len, Option.isSome, Option.isNone, isBytes, aStr, aNil, aAlloc, aExtract, viewI, Nat.reduceEqDiff, Nat.reduceLT, Nat.reduceBEq, List.contains, List.elem, Blk.closed, closedL, AV.closed, Blk.noimm, ↓gsplit_tt, ↓gsplit_ff, ↓gsplit_tf, ↓gsplit_ft, ↓csplit_t, ↓csplit_f, Ax.idx, AV.lentIds, lentIdsL, dropAll, givenUp, AV.clean, cleanL, Blk.clean, cleanB, quietC, flatTy, coldStr, notMs, eqV, eqF, isStruct, evTO, evTP, laterO_normal, frzS, frzL, ↓frzK_def, fzL, fzH, AV.fz, Blk.fz, fgL, fgH, AV.fg, Blk.fg, ↓openKO_def, openOp, aOpen, openOut, reach, walk, allIn, pinsIn, pinsR, backO, gone, Blk.isGone, AV.sids, sidsL, Blk.idsB, Blk.sidsB, Blk.renB, Blk.ren, idxOf, EndsO, EndsXO, endIds, reachE, idsAt, idsAtL, walkI, matchE, aopF, foot, footA, keepIn, dropIn, bids, Blk.ids, heldB, memOk, clearOf, Op.operands, Call.operands, List.map_cons, List.map_nil, List.toList_toArray, Array.toList_append, Option.toArray_some, Option.toArray_none, Bool.and_self, -coe, coe_w, coe_str, coe_agg, coe_tup, coe_sb, coe_si, coe_cp, coe_ms, coe_rf, coe_fn, coe_cons, ty, noS, Sbuild12, Obuild12, build12Pl, newI12S, putO, hle, d1, hs1, e1, ht, dpos, hpos, hm, hxl, hx1, map_uent, closed_ent, fillS, Int.toNat_natCast]
            repeat (refine And.intro (by omega) ?_)
            refine ⟨es.length - (i + 1), _, by omega, weak_ren [0, 1, 2, 3, 4, 5, 6] rfl rfl rfl ?_ ?_, i + 1, rfl, by omega, .inr ⟨by omega, addI X P, hf.symm, hne2, rfl⟩⟩
            · simp only [SameS, SameH, setSlot, gOf, AV.ren, renL, Blk.ren, Ax.look, Ax.put, reduceCtorEq, true_or, false_or, or_true, or_false, and_true, true_and, AV.w.injEq, Value.int.injEq, Value.bool.injEq, AV.ms.injEq, AV.sb.injEq, AV.str.injEq, ↓reduceIte, Nat.reduceEqDiff, Nat.reduceLT, List.length_append, List.length_cons, List.length_nil, Nat.zero_add, Nat.add_zero, Option.some.injEq, Blk.b.injEq, Blk.i.injEq, Nat.succ_ne_zero, Nat.reduceAdd, and_self]; try simp
            · simp only [SameS, SameH, setSlot, gOf, AV.ren, renL, Blk.ren, Ax.look, Ax.put, reduceCtorEq, true_or, false_or, or_true, or_false, and_true, true_and, AV.w.injEq, Value.int.injEq, Value.bool.injEq, AV.ms.injEq, AV.sb.injEq, AV.str.injEq, ↓reduceIte, Nat.reduceEqDiff, Nat.reduceLT, List.length_append, List.length_cons, List.length_nil, Nat.zero_add, Nat.add_zero, Option.some.injEq, Blk.b.injEq, Blk.i.injEq, Nat.succ_ne_zero, Nat.reduceAdd, and_self, ha, ren_ent]; try simp
        · have d1 : decide ((i : Int) < es.length) = false := decide_eq_false (by omega)
          have hb : bldI v es = ⟨V, X.c, X.es⟩ := by
            rw [hbld]
            have : es.take i = es := List.take_of_length_le (by omega)
            rw [this] at hX
            rw [← hX]
            rw [← hXv]
          have hem : empE X.es = false := by unfold empE; cases hq : X.es with | nil => exact absurd hq hne | cons _ _ => rfl
          have hdle : decide (0 + X.es.length ≤ (X.es.map ent).length) = true := decide_eq_true (by rw [hxl]; omega)
          have htk : (X.es.map ent).take X.es.length = X.es.map ent := List.take_of_length_le (by rw [hxl]; omega)
          simp -implicitDefEqProofs only [evT, implies_true, forall_const, Option.getD, later_normal, aop, aLen, ev, slot, setSlot, putSlot, cv, cvl, aConv, aBin, aInt, aUn, aFn, aEq, Out.and, isBool, isPtr, List.length, IntKind.bits, evs, evo, evps, aCall, aUser, coes, coe, List.append, List.replicate, callOut, rootsL, AV.roots, lendsL, AV.lends, pinsOf, nodup, lendL, lend, closedB, noimmB, AV.noimm, AV.ren, renL, back, Nat.reduceAdd, Nat.reduceSub, Nat.reduceMul, Int.reduceToNat, reduceCtorEq, aLoad, subv, aIndexAddr, aIndex, TD.aggr, guardSlot, aPick, byte, word, aMin, aMax, Ax.Ends, EndsX, Ax.rvals, rone, AV.ids, idsL, newIds, upTo, pinHeap, gOf, ↓reduceIte, List.isEmpty, Int.reducePow, Nat.reducePow, Int.reduceMod, Nat.reduceLeDiff, Int.reduceLE, Int.reduceNe, Int.reduceEq, aBuildSlice, fillB, aAppend, appendB, viewB, Ax.look, Ax.put, Ax.drop, List.drop, List.take, asv, aMake, aCopy, srcB, fillG, viewG, appendG, appendI, fillI, aSlice, bnd, bnds, full3, cut, aFieldAddr, aField, aStore, setB, aBox, aBuild, fillS, allTy, AV.leaves, AV.okv, AV.leaf, one, splice, elemLeaves, Blk.size, Blk.len, Option.isSome, Option.isNone, isBytes, aStr, aNil, aAlloc, aExtract, viewI, Nat.reduceEqDiff, Nat.reduceLT, Nat.reduceBEq, List.contains, List.elem, Blk.closed, closedL, AV.closed, Blk.noimm, ↓gsplit_tt, ↓gsplit_ff, ↓gsplit_tf, ↓gsplit_ft, ↓csplit_t, ↓csplit_f, Ax.idx, AV.lentIds, lentIdsL, dropAll, givenUp, AV.clean, cleanL, Blk.clean, cleanB, quietC, flatTy, coldStr, notMs, eqV, eqF, isStruct, evTO, evTP, laterO_normal, frzS, frzL, ↓frzK_def, fzL, fzH, AV.fz, Blk.fz, fgL, fgH, AV.fg, Blk.fg, ↓openKO_def, openOp, aOpen, openOut, reach, walk, allIn, pinsIn, pinsR, backO, gone, Blk.isGone, AV.sids, sidsL, Blk.idsB, Blk.sidsB, Blk.renB, Blk.ren, idxOf, EndsO, EndsXO, endIds, reachE, idsAt, idsAtL, walkI, matchE, aopF, foot, footA, keepIn, dropIn, bids, Blk.ids, heldB, memOk, clearOf, Op.operands, Call.operands, List.map_cons, List.map_nil, List.toList_toArray, Array.toList_append, Option.toArray_some, Option.toArray_none, Bool.and_self, -coe, coe_w, coe_str, coe_agg, coe_tup, coe_sb, coe_si, coe_cp, coe_ms, coe_rf, coe_fn, coe_cons, ty, noS, Sbuild12, Obuild12, build12Pl, newI12S, putO, d1]
          refine ⟨_, weak_fgB 6 3 5 5 (X.es.map ent) _ rfl (closed_ent _) rfl (by simp [slot, AV.ids]) (by simp [Blk.idsB, Blk.closed, closedL, AV.closed, idsL, AV.ids]), ?_⟩
          simp only [fgL, fgH, AV.fg, Blk.fg, Nat.reduceBEq, cond_true, cond_false, hdle, Bool.and_true, beq_self_eq_true, Bool.true_and, List.drop_zero, htk]
          simp -implicitDefEqProofs only [evT, implies_true, forall_const, Option.getD, later_normal, aop, aLen, ev, slot, setSlot, putSlot, cv, cvl, aConv, aBin, aInt, aUn, aFn, aEq, Out.and, isBool, isPtr, List.length, IntKind.bits, evs, evo, evps, aCall, aUser, coes, coe, List.append, List.replicate, callOut, rootsL, AV.roots, lendsL, AV.lends, pinsOf, nodup, lendL, lend, closedB, noimmB, AV.noimm, AV.ren, renL, back, Nat.reduceAdd, Nat.reduceSub, Nat.reduceMul, Int.reduceToNat, reduceCtorEq, aLoad, subv, aIndexAddr, aIndex, TD.aggr, guardSlot, aPick, byte, word, aMin, aMax, Ax.Ends, EndsX, Ax.rvals, rone, AV.ids, idsL, newIds, upTo, pinHeap, gOf, ↓reduceIte, List.isEmpty, Int.reducePow, Nat.reducePow, Int.reduceMod, Nat.reduceLeDiff, Int.reduceLE, Int.reduceNe, Int.reduceEq, aBuildSlice, fillB, aAppend, appendB, viewB, Ax.look, Ax.put, Ax.drop, List.drop, List.take, asv, aMake, aCopy, srcB, fillG, viewG, appendG, appendI, fillI, aSlice, bnd, bnds, full3, cut, aFieldAddr, aField, aStore, setB, aBox, aBuild, fillS, allTy, AV.leaves, AV.okv, AV.leaf, one, splice, elemLeaves, Blk.size, Blk.len, Option.isSome, Option.isNone, isBytes, aStr, aNil, aAlloc, aExtract, viewI, Nat.reduceEqDiff, Nat.reduceLT, Nat.reduceBEq, List.contains, List.elem, Blk.closed, closedL, AV.closed, Blk.noimm, ↓gsplit_tt, ↓gsplit_ff, ↓gsplit_tf, ↓gsplit_ft, ↓csplit_t, ↓csplit_f, Ax.idx, AV.lentIds, lentIdsL, dropAll, givenUp, AV.clean, cleanL, Blk.clean, cleanB, quietC, flatTy, coldStr, notMs, eqV, eqF, isStruct, evTO, evTP, laterO_normal, frzS, frzL, ↓frzK_def, fzL, fzH, AV.fz, Blk.fz, fgL, fgH, AV.fg, Blk.fg, ↓openKO_def, openOp, aOpen, openOut, reach, walk, allIn, pinsIn, pinsR, backO, gone, Blk.isGone, AV.sids, sidsL, Blk.idsB, Blk.sidsB, Blk.renB, Blk.ren, idxOf, EndsO, EndsXO, endIds, reachE, idsAt, idsAtL, walkI, matchE, aopF, foot, footA, keepIn, dropIn, bids, Blk.ids, heldB, memOk, clearOf, Op.operands, Call.operands, List.map_cons, List.map_nil, List.toList_toArray, Array.toList_append, Option.toArray_some, Option.toArray_none, Bool.and_self, -coe, coe_w, coe_str, coe_agg, coe_tup, coe_sb, coe_si, coe_cp, coe_ms, coe_rf, coe_fn, coe_cons, ty, noS, Sbuild12, Obuild12, build12Pl, newI12S, putO, hb, iav, hem, fillS]
          refine ⟨_, Weak.refl _, ?_⟩
          simp -implicitDefEqProofs only [evT, implies_true, forall_const, Option.getD, later_normal, aop, aLen, ev, slot, setSlot, putSlot, cv, cvl, aConv, aBin, aInt, aUn, aFn, aEq, Out.and, isBool, isPtr, List.length, IntKind.bits, evs, evo, evps, aCall, aUser, coes, coe, List.append, List.replicate, callOut, rootsL, AV.roots, lendsL, AV.lends, pinsOf, nodup, lendL, lend, closedB, noimmB, AV.noimm, AV.ren, renL, back, Nat.reduceAdd, Nat.reduceSub, Nat.reduceMul, Int.reduceToNat, reduceCtorEq, aLoad, subv, aIndexAddr, aIndex, TD.aggr, guardSlot, aPick, byte, word, aMin, aMax, Ax.Ends, EndsX, Ax.rvals, rone, AV.ids, idsL, newIds, upTo, pinHeap, gOf, ↓reduceIte, List.isEmpty, Int.reducePow, Nat.reducePow, Int.reduceMod, Nat.reduceLeDiff, Int.reduceLE, Int.reduceNe, Int.reduceEq, aBuildSlice, fillB, aAppend, appendB, viewB, Ax.look, Ax.put, Ax.drop, List.drop, List.take, asv, aMake, aCopy, srcB, fillG, viewG, appendG, appendI, fillI, aSlice, bnd, bnds, full3, cut, aFieldAddr, aField, aStore, setB, aBox, aBuild, fillS, allTy, AV.leaves, AV.okv, AV.leaf, one, splice, elemLeaves, Blk.size, Blk.len, Option.isSome, Option.isNone, isBytes, aStr, aNil, aAlloc, aExtract, viewI, Nat.reduceEqDiff, Nat.reduceLT, Nat.reduceBEq, List.contains, List.elem, Blk.closed, closedL, AV.closed, Blk.noimm, ↓gsplit_tt, ↓gsplit_ff, ↓gsplit_tf, ↓gsplit_ft, ↓csplit_t, ↓csplit_f, Ax.idx, AV.lentIds, lentIdsL, dropAll, givenUp, AV.clean, cleanL, Blk.clean, cleanB, quietC, flatTy, coldStr, notMs, eqV, eqF, isStruct, evTO, evTP, laterO_normal, frzS, frzL, ↓frzK_def, fzL, fzH, AV.fz, Blk.fz, fgL, fgH, AV.fg, Blk.fg, ↓openKO_def, openOp, aOpen, openOut, reach, walk, allIn, pinsIn, pinsR, backO, gone, Blk.isGone, AV.sids, sidsL, Blk.idsB, Blk.sidsB, Blk.renB, Blk.ren, idxOf, EndsO, EndsXO, endIds, reachE, idsAt, idsAtL, walkI, matchE, aopF, foot, footA, keepIn, dropIn, bids, Blk.ids, heldB, memOk, clearOf, Op.operands, Call.operands, List.map_cons, List.map_nil, List.toList_toArray, Array.toList_append, Option.toArray_some, Option.toArray_none, Bool.and_self, -coe, coe_w, coe_str, coe_agg, coe_tup, coe_sb, coe_si, coe_cp, coe_ms, coe_rf, coe_fn, coe_cons, ty, noS, Sbuild12, Obuild12, build12Pl, newI12S, putO, hb, iav, hem, fillS]
  · exact hp.elim
end
end Go.Proofs.Ytoagncogikogpaa
