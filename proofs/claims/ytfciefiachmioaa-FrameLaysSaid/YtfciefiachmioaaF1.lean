/- Layer 7: a body is laid, and read. -/
import Derived.Test.YtfciefiachmioaaK6
import Derived.Test.YtfciefiachmioaaC2
import Derived.Test.YtfciefiachmioaaAxTg
namespace Go.Proofs.Ytfciefiachmioaa
open Ax
set_option linter.unusedSimpArgs false
set_option linter.unusedVariables false

/-- The bytes of a body's frame. -/
def bodyF (b : List UInt8) : List UInt8 := fixL b.length 4 ++ sealL b
theorem bodyF_length (b : List UInt8) : (bodyF b).length = 12 + b.length := by
  unfold bodyF; rw [List.length_append, fixL_length, sealL_length]; omega
def flayE (b : List UInt8) : Int := if b.length ≤ 8192 then 0 else 5
def flayL (b : List UInt8) : List (List UInt8) := if b.length ≤ 8192 then layL (bodyF b) else []
def flayS : FSpec
  | [.sb b _], [] => ⟨b.length ≤ 900000, .tup [.ms 0 1 0 (flayL b).length, .w (.int .i64 (flayE b))], [.g 1 ((flayL b).map sbF)]⟩
  | _, _ => noRes
def fneedI (n : Int) : Int := needI (max n 0 + 12)
def fneedS : FSpec
  | [.w (.int .i64 n)], [] => ⟨n ≤ 900000, .w (.int .i64 (fneedI n)), []⟩
  | _, _ => noRes

/-- Structures that were made, and an error, are told. -/
theorem msg_ends {T : Types} {sl : List AV} {H : Heap} {nx id s n m : Nat} {xs ys : List AV} {e e' : Value} {q : Prop} (i j : Nat) (h2 : slot sl i = .ms id s 0 n) (h3 : slot sl j = .w e) (hl : Ax.look H id = some (.g s xs)) (hc : closedL xs = true) (hn : m = n) (hx : ys = xs) (he : e' = e) :
    EndsW T [.tmp i, .tmp j] [] ⟨q, .tup [.ms 0 s 0 m, .w e'], [.g s ys]⟩ .ret ⟨sl, H, nx⟩ := by
  subst hn he hx
  refine ⟨_, Weak.refl _, ?_⟩
  simp only [Ax.Ends, Ax.rvals, EndsX, rone, h2, h3, AV.ids, idsL, newIds, upTo, nodup, pinsOf, hl, List.nil_append, List.append_nil, AV.ren, renL, gOf, and_self]
  simp [pinsOf, newIds, nodup, hl, gOf, Blk.closed, hc]
theorem msgnil_ends {T : Types} {sl : List AV} {H : Heap} {nx : Nat} {e e' : Value} {q : Prop} (i j s m : Nat) (ys : List AV) (hs : 0 < s) (hij : i ≠ j) (h2 : nilV (slot sl i)) (hi : i < sl.length) (h3 : slot sl j = .w e) (hm : m = 0) (hy : ys = []) (he : e' = e) :
    EndsW T [.tmp i, .tmp j] [] ⟨q, .tup [.ms 0 s 0 m, .w e'], [.g s ys]⟩ .ret ⟨sl, H, nx⟩ := by
  subst hm hy he
  obtain ⟨σ', h5, h6⟩ := msg_ends (T := T) (sl := setSlot sl i (.ms nx s 0 0)) (H := Ax.put H nx (.g s [])) (nx := nx + 1) (q := q) i j (id := nx) (s := s) (n := 0) (m := 0) (xs := []) (ys := []) (e := e') (e' := e') (slot_set_same hi) (by rw [slot_set_other hij]; exact h3) (by simp [Ax.put, Ax.look]) rfl rfl rfl rfl
  exact ⟨σ', (weak_nil i s (.g s []) ⟨hs, rfl⟩ h2).trans h5, h6⟩

section
set_option maxRecDepth 100000
def Sflay (f : FuncId) : Option FSpec :=
  match f with
  | 49 => some fixS
  | 50 => some sealS
  | 48 => some blayS
  | _ => none
theorem Sflay_ok : Fns Try.prog Sflay := by
  intro f s h
  unfold Sflay at h
  split at h
  · injection h with h; subst h; exact ⟨⟨_, Try.func49, by kernel_rfl, by kernel_rfl⟩, fixed_sound⟩
  · injection h with h; subst h; exact ⟨⟨_, Try.func50, by kernel_rfl, by kernel_rfl⟩, seal_sound⟩
  · injection h with h; subst h; exact ⟨⟨_, Try.func48, by kernel_rfl, by kernel_rfl⟩, blay_sound⟩
  · cases h
def Srflay (f : FuncId) : Option FSpec :=
  match f with
  | 52 => some fixS
  | 53 => some sealS
  | 51 => some blayS
  | _ => none
theorem Srflay_ok : Fns Try.prog Srflay := by
  intro f s h
  unfold Srflay at h
  split at h
  · injection h with h; subst h; exact ⟨⟨_, Try.func52, by kernel_rfl, by kernel_rfl⟩, rfixed_sound⟩
  · injection h with h; subst h; exact ⟨⟨_, Try.func53, by kernel_rfl, by kernel_rfl⟩, rseal_sound⟩
  · injection h with h; subst h; exact ⟨⟨_, Try.func51, by kernel_rfl, by kernel_rfl⟩, rblay_sound⟩
  · cases h
def Sfneed (f : FuncId) : Option FSpec :=
  match f with
  | 54 => some needS
  | _ => none
theorem Sfneed_ok : Fns Try.prog Sfneed := by
  intro f s h
  unfold Sfneed at h
  split at h
  · injection h with h; subst h; exact ⟨⟨_, Try.func54, by kernel_rfl, by kernel_rfl⟩, need_sound⟩
  · cases h
def Srfneed (f : FuncId) : Option FSpec :=
  match f with
  | 55 => some needS
  | _ => none
theorem Srfneed_ok : Fns Try.prog Srfneed := by
  intro f s h
  unfold Srfneed at h
  split at h
  · injection h with h; subst h; exact ⟨⟨_, Try.func55, by kernel_rfl, by kernel_rfl⟩, rneed_sound⟩
  · cases h
theorem clampI4 : clampI 4 = 4 := by decide
set_option maxHeartbeats 1000000 in
theorem flay_sound : Sound Try.prog 20 flayS := by
  refine fn_soundW (S := Sflay) (T := ty) mixed ty_ok Sflay_ok Try.func20 (c := Try.f20.body.getD .skip) (by kernel_rfl) (by kernel_rfl) (fun xs pins hp _ => ?_)
  unfold flayS at hp ⊢
  split at hp
  · rename_i b f _
    have hL : b.length ≤ 900000 := hp
    refine ⟨by simp, ?_⟩
    unfold Try.f20
    by_cases hb : b.length ≤ 8192
    · have d1 : decide ((8192 : Int) < b.length) = false := decide_eq_false (by omega)
      have hE : flayE b = 0 := if_pos hb
      have hF : flayL b = layL (bodyF b) := if_pos hb
      have e1 : (b.length : Int) % 18446744073709551616 = b.length := by omega
      have e2 : fixL b.length 4 ++ sealL b = bodyF b := rfl
      have hl := bodyF_length b
      have hf4 : (fixL b.length 4).length = 4 := fixL_length _ _
      have hs8 := sealL_length b
      have ets : List.take (8 + b.length) (sealL b) = sealL b := List.take_of_length_le (by omega)
      have q1 : b.length ≤ 1000000 := by omega
      have ett : List.take (4 + (8 + b.length)) (bodyF b) = bodyF b := List.take_of_length_le (by omega)
      have q2 : (bodyF b).length ≤ 1000000 := by omega
      have ht : top = 4294967296 := rfl
      have t4 : (4 : Int).toNat = 4 := rfl
      simp -implicitDefEqProofs only [Option.getD, awp_skip, awp_label, awp_ret, awp_exit, awp_region, awp_seq, awp_block, awp_cond, aops_nil, aops_plain, aops_guard, later_normal, later_exit, later_ret, blockK_normal, blockK_exit, blockK_ret, regK_apply, aop, aLen, ev, slot, setSlot, putSlot, cv, cvl, aConv, aBin, aInt, aUn, aEq, Out.and, isBool, isPtr, true_and, and_true, List.length, IntKind.bits, evs, evo, evps, aCall, aUser, coes, coe, List.append, List.replicate, callOut, rootsL, AV.roots, lendsL, AV.lends, pinsOf, nodup, lendL, lend, closedB, noimmB, AV.noimm, AV.ren, renL, back, Nat.reduceAdd, Nat.reduceSub, Nat.reduceMul, Int.reduceToNat, Nat.le_refl, reduceCtorEq, false_implies, implies_true, List.nil_append, List.append_nil, List.cons_append, Nat.zero_le, Bool.false_eq_true, aLoad, subv, aIndexAddr, aIndex, TD.aggr, cond_false, cond_true, guardSlot, List.getElem?_cons_succ, List.getElem?_cons_zero, aPick, byte, word, aMin, aMax, Ax.Ends, EndsX, Ax.rvals, rone, AV.ids, idsL, newIds, upTo, pinHeap, gOf, ↓reduceIte, forall_const, List.isEmpty, ne_eq, not_false_eq_true, and_self, true_implies, AV.w.injEq, Value.int.injEq, Value.bool.injEq, IntKind.wrap_u8, IntKind.wrap_u64, IntKind.wrap_i64, Int.reducePow, Nat.reducePow, Nat.min_def, Int.reduceMod, Nat.reduceLeDiff, Int.reduceLE, Int.reduceNe, Int.reduceEq, aBuildSlice, fillB, aAppend, appendB, viewB, Ax.look, Ax.put, Ax.drop, List.drop, List.take, List.set_cons_zero, List.set_cons_succ, asv, aMake, aCopy, srcB, fillG, viewG, appendG, appendI, fillI, aSlice, bnd, bnds, full3, cut, aFieldAddr, aField, aLoad, aStore, setB, aBox, aBuild, fillS, allTy, AV.leaves, AV.okv, AV.leaf, one, splice, elemLeaves, Blk.size, Blk.len, List.replicate_succ, List.replicate_zero, Option.isSome, Option.isNone, isBytes, aStr, aNil, aAlloc, aExtract, aConv, viewI, Nat.reduceEqDiff, Nat.reduceLT, List.length_append, List.length_cons, List.length_nil, Nat.zero_add, Nat.add_zero, Nat.reduceBEq, List.contains, List.elem, Bool.not_true, Bool.not_false, Bool.true_and, Bool.and_true, Bool.and_false, Bool.false_and, Blk.closed, closedL, AV.closed, Blk.noimm, not_true_eq_false, not_false_iff, or_false, or_true, false_or, true_or, Int.toNat_natCast, List.length_replicate, setB, ↓gsplit_tt, ↓gsplit_ff, ↓gsplit_tf, ↓gsplit_ft, gsplit_bt, gsplit_bf, ↓csplit_t, ↓csplit_f, csplit_b, Ax.idx, beq_self_eq_true, BEq.rfl, pinsOf, List.mem_cons, List.not_mem_nil, AV.lentIds, lentIdsL, dropAll, givenUp, AV.clean, cleanL, Blk.clean, cleanB, quietC, flatTy, List.all_cons, List.all_nil, Bool.or_false, Bool.or_true, Bool.true_or, Bool.false_or, decide_true, decide_false, coldStr, notMs, eqV, eqF, isStruct, -coe, coe_w, coe_str, coe_agg, coe_tup, coe_sb, coe_si, coe_cp, coe_ms, coe_rf, coe_fn, coe_cons, ty, Sflay, fixS, sealS, blayS, d1, e1, clampI4, t4, q1, ets, hs8, hf4, e2, ett, q2, Int.toNat_natCast, hE, hF, closed_sbF]
      repeat (refine And.intro (by omega) ?_)
      exact msg_ends 2 3 rfl rfl rfl (closed_sbF _) rfl rfl rfl
    · have d1 : decide ((8192 : Int) < b.length) = true := decide_eq_true (by omega)
      have hE : flayE b = 5 := if_neg hb
      have hF : flayL b = [] := if_neg hb
      simp -implicitDefEqProofs only [Option.getD, awp_skip, awp_label, awp_ret, awp_exit, awp_region, awp_seq, awp_block, awp_cond, aops_nil, aops_plain, aops_guard, later_normal, later_exit, later_ret, blockK_normal, blockK_exit, blockK_ret, regK_apply, aop, aLen, ev, slot, setSlot, putSlot, cv, cvl, aConv, aBin, aInt, aUn, aEq, Out.and, isBool, isPtr, true_and, and_true, List.length, IntKind.bits, evs, evo, evps, aCall, aUser, coes, coe, List.append, List.replicate, callOut, rootsL, AV.roots, lendsL, AV.lends, pinsOf, nodup, lendL, lend, closedB, noimmB, AV.noimm, AV.ren, renL, back, Nat.reduceAdd, Nat.reduceSub, Nat.reduceMul, Int.reduceToNat, Nat.le_refl, reduceCtorEq, false_implies, implies_true, List.nil_append, List.append_nil, List.cons_append, Nat.zero_le, Bool.false_eq_true, aLoad, subv, aIndexAddr, aIndex, TD.aggr, cond_false, cond_true, guardSlot, List.getElem?_cons_succ, List.getElem?_cons_zero, aPick, byte, word, aMin, aMax, Ax.Ends, EndsX, Ax.rvals, rone, AV.ids, idsL, newIds, upTo, pinHeap, gOf, ↓reduceIte, forall_const, List.isEmpty, ne_eq, not_false_eq_true, and_self, true_implies, AV.w.injEq, Value.int.injEq, Value.bool.injEq, IntKind.wrap_u8, IntKind.wrap_u64, IntKind.wrap_i64, Int.reducePow, Nat.reducePow, Nat.min_def, Int.reduceMod, Nat.reduceLeDiff, Int.reduceLE, Int.reduceNe, Int.reduceEq, aBuildSlice, fillB, aAppend, appendB, viewB, Ax.look, Ax.put, Ax.drop, List.drop, List.take, List.set_cons_zero, List.set_cons_succ, asv, aMake, aCopy, srcB, fillG, viewG, appendG, appendI, fillI, aSlice, bnd, bnds, full3, cut, aFieldAddr, aField, aLoad, aStore, setB, aBox, aBuild, fillS, allTy, AV.leaves, AV.okv, AV.leaf, one, splice, elemLeaves, Blk.size, Blk.len, List.replicate_succ, List.replicate_zero, Option.isSome, Option.isNone, isBytes, aStr, aNil, aAlloc, aExtract, aConv, viewI, Nat.reduceEqDiff, Nat.reduceLT, List.length_append, List.length_cons, List.length_nil, Nat.zero_add, Nat.add_zero, Nat.reduceBEq, List.contains, List.elem, Bool.not_true, Bool.not_false, Bool.true_and, Bool.and_true, Bool.and_false, Bool.false_and, Blk.closed, closedL, AV.closed, Blk.noimm, not_true_eq_false, not_false_iff, or_false, or_true, false_or, true_or, Int.toNat_natCast, List.length_replicate, setB, ↓gsplit_tt, ↓gsplit_ff, ↓gsplit_tf, ↓gsplit_ft, gsplit_bt, gsplit_bf, ↓csplit_t, ↓csplit_f, csplit_b, Ax.idx, beq_self_eq_true, BEq.rfl, pinsOf, List.mem_cons, List.not_mem_nil, AV.lentIds, lentIdsL, dropAll, givenUp, AV.clean, cleanL, Blk.clean, cleanB, quietC, flatTy, List.all_cons, List.all_nil, Bool.or_false, Bool.or_true, Bool.true_or, Bool.false_or, decide_true, decide_false, coldStr, notMs, eqV, eqF, isStruct, -coe, coe_w, coe_str, coe_agg, coe_tup, coe_sb, coe_si, coe_cp, coe_ms, coe_rf, coe_fn, coe_cons, ty, Sflay, fixS, sealS, blayS, d1, hE, hF]
      exact msgnil_ends 2 3 1 _ _ (by decide) (by decide) (by exact trivial) (by simp) rfl rfl rfl rfl
  · exact hp.elim
set_option maxHeartbeats 1000000 in
theorem rflay_sound : Sound Try.prog 21 flayS := by
  refine fn_soundW (S := Srflay) (T := ty) mixed ty_ok Srflay_ok Try.func21 (c := Try.f21.body.getD .skip) (by kernel_rfl) (by kernel_rfl) (fun xs pins hp _ => ?_)
  unfold flayS at hp ⊢
  split at hp
  · rename_i b f _
    have hL : b.length ≤ 900000 := hp
    refine ⟨by simp, ?_⟩
    unfold Try.f21
    by_cases hb : b.length ≤ 8192
    · have d1 : decide ((8192 : Int) < b.length) = false := decide_eq_false (by omega)
      have hE : flayE b = 0 := if_pos hb
      have hF : flayL b = layL (bodyF b) := if_pos hb
      have e1 : (b.length : Int) % 18446744073709551616 = b.length := by omega
      have e2 : fixL b.length 4 ++ sealL b = bodyF b := rfl
      have hl := bodyF_length b
      have hf4 : (fixL b.length 4).length = 4 := fixL_length _ _
      have hs8 := sealL_length b
      have ets : List.take (8 + b.length) (sealL b) = sealL b := List.take_of_length_le (by omega)
      have q1 : b.length ≤ 1000000 := by omega
      have ett : List.take (4 + (8 + b.length)) (bodyF b) = bodyF b := List.take_of_length_le (by omega)
      have q2 : (bodyF b).length ≤ 1000000 := by omega
      have ht : top = 4294967296 := rfl
      have t4 : (4 : Int).toNat = 4 := rfl
      simp -implicitDefEqProofs only [Option.getD, awp_skip, awp_label, awp_ret, awp_exit, awp_region, awp_seq, awp_block, awp_cond, aops_nil, aops_plain, aops_guard, later_normal, later_exit, later_ret, blockK_normal, blockK_exit, blockK_ret, regK_apply, aop, aLen, ev, slot, setSlot, putSlot, cv, cvl, aConv, aBin, aInt, aUn, aEq, Out.and, isBool, isPtr, true_and, and_true, List.length, IntKind.bits, evs, evo, evps, aCall, aUser, coes, coe, List.append, List.replicate, callOut, rootsL, AV.roots, lendsL, AV.lends, pinsOf, nodup, lendL, lend, closedB, noimmB, AV.noimm, AV.ren, renL, back, Nat.reduceAdd, Nat.reduceSub, Nat.reduceMul, Int.reduceToNat, Nat.le_refl, reduceCtorEq, false_implies, implies_true, List.nil_append, List.append_nil, List.cons_append, Nat.zero_le, Bool.false_eq_true, aLoad, subv, aIndexAddr, aIndex, TD.aggr, cond_false, cond_true, guardSlot, List.getElem?_cons_succ, List.getElem?_cons_zero, aPick, byte, word, aMin, aMax, Ax.Ends, EndsX, Ax.rvals, rone, AV.ids, idsL, newIds, upTo, pinHeap, gOf, ↓reduceIte, forall_const, List.isEmpty, ne_eq, not_false_eq_true, and_self, true_implies, AV.w.injEq, Value.int.injEq, Value.bool.injEq, IntKind.wrap_u8, IntKind.wrap_u64, IntKind.wrap_i64, Int.reducePow, Nat.reducePow, Nat.min_def, Int.reduceMod, Nat.reduceLeDiff, Int.reduceLE, Int.reduceNe, Int.reduceEq, aBuildSlice, fillB, aAppend, appendB, viewB, Ax.look, Ax.put, Ax.drop, List.drop, List.take, List.set_cons_zero, List.set_cons_succ, asv, aMake, aCopy, srcB, fillG, viewG, appendG, appendI, fillI, aSlice, bnd, bnds, full3, cut, aFieldAddr, aField, aLoad, aStore, setB, aBox, aBuild, fillS, allTy, AV.leaves, AV.okv, AV.leaf, one, splice, elemLeaves, Blk.size, Blk.len, List.replicate_succ, List.replicate_zero, Option.isSome, Option.isNone, isBytes, aStr, aNil, aAlloc, aExtract, aConv, viewI, Nat.reduceEqDiff, Nat.reduceLT, List.length_append, List.length_cons, List.length_nil, Nat.zero_add, Nat.add_zero, Nat.reduceBEq, List.contains, List.elem, Bool.not_true, Bool.not_false, Bool.true_and, Bool.and_true, Bool.and_false, Bool.false_and, Blk.closed, closedL, AV.closed, Blk.noimm, not_true_eq_false, not_false_iff, or_false, or_true, false_or, true_or, Int.toNat_natCast, List.length_replicate, setB, ↓gsplit_tt, ↓gsplit_ff, ↓gsplit_tf, ↓gsplit_ft, gsplit_bt, gsplit_bf, ↓csplit_t, ↓csplit_f, csplit_b, Ax.idx, beq_self_eq_true, BEq.rfl, pinsOf, List.mem_cons, List.not_mem_nil, AV.lentIds, lentIdsL, dropAll, givenUp, AV.clean, cleanL, Blk.clean, cleanB, quietC, flatTy, List.all_cons, List.all_nil, Bool.or_false, Bool.or_true, Bool.true_or, Bool.false_or, decide_true, decide_false, coldStr, notMs, eqV, eqF, isStruct, -coe, coe_w, coe_str, coe_agg, coe_tup, coe_sb, coe_si, coe_cp, coe_ms, coe_rf, coe_fn, coe_cons, ty, Srflay, fixS, sealS, blayS, d1, e1, clampI4, t4, q1, ets, hs8, hf4, e2, ett, q2, Int.toNat_natCast, hE, hF, closed_sbF]
      repeat (refine And.intro (by omega) ?_)
      exact msg_ends 2 3 rfl rfl rfl (closed_sbF _) rfl rfl rfl
    · have d1 : decide ((8192 : Int) < b.length) = true := decide_eq_true (by omega)
      have hE : flayE b = 5 := if_neg hb
      have hF : flayL b = [] := if_neg hb
      simp -implicitDefEqProofs only [Option.getD, awp_skip, awp_label, awp_ret, awp_exit, awp_region, awp_seq, awp_block, awp_cond, aops_nil, aops_plain, aops_guard, later_normal, later_exit, later_ret, blockK_normal, blockK_exit, blockK_ret, regK_apply, aop, aLen, ev, slot, setSlot, putSlot, cv, cvl, aConv, aBin, aInt, aUn, aEq, Out.and, isBool, isPtr, true_and, and_true, List.length, IntKind.bits, evs, evo, evps, aCall, aUser, coes, coe, List.append, List.replicate, callOut, rootsL, AV.roots, lendsL, AV.lends, pinsOf, nodup, lendL, lend, closedB, noimmB, AV.noimm, AV.ren, renL, back, Nat.reduceAdd, Nat.reduceSub, Nat.reduceMul, Int.reduceToNat, Nat.le_refl, reduceCtorEq, false_implies, implies_true, List.nil_append, List.append_nil, List.cons_append, Nat.zero_le, Bool.false_eq_true, aLoad, subv, aIndexAddr, aIndex, TD.aggr, cond_false, cond_true, guardSlot, List.getElem?_cons_succ, List.getElem?_cons_zero, aPick, byte, word, aMin, aMax, Ax.Ends, EndsX, Ax.rvals, rone, AV.ids, idsL, newIds, upTo, pinHeap, gOf, ↓reduceIte, forall_const, List.isEmpty, ne_eq, not_false_eq_true, and_self, true_implies, AV.w.injEq, Value.int.injEq, Value.bool.injEq, IntKind.wrap_u8, IntKind.wrap_u64, IntKind.wrap_i64, Int.reducePow, Nat.reducePow, Nat.min_def, Int.reduceMod, Nat.reduceLeDiff, Int.reduceLE, Int.reduceNe, Int.reduceEq, aBuildSlice, fillB, aAppend, appendB, viewB, Ax.look, Ax.put, Ax.drop, List.drop, List.take, List.set_cons_zero, List.set_cons_succ, asv, aMake, aCopy, srcB, fillG, viewG, appendG, appendI, fillI, aSlice, bnd, bnds, full3, cut, aFieldAddr, aField, aLoad, aStore, setB, aBox, aBuild, fillS, allTy, AV.leaves, AV.okv, AV.leaf, one, splice, elemLeaves, Blk.size, Blk.len, List.replicate_succ, List.replicate_zero, Option.isSome, Option.isNone, isBytes, aStr, aNil, aAlloc, aExtract, aConv, viewI, Nat.reduceEqDiff, Nat.reduceLT, List.length_append, List.length_cons, List.length_nil, Nat.zero_add, Nat.add_zero, Nat.reduceBEq, List.contains, List.elem, Bool.not_true, Bool.not_false, Bool.true_and, Bool.and_true, Bool.and_false, Bool.false_and, Blk.closed, closedL, AV.closed, Blk.noimm, not_true_eq_false, not_false_iff, or_false, or_true, false_or, true_or, Int.toNat_natCast, List.length_replicate, setB, ↓gsplit_tt, ↓gsplit_ff, ↓gsplit_tf, ↓gsplit_ft, gsplit_bt, gsplit_bf, ↓csplit_t, ↓csplit_f, csplit_b, Ax.idx, beq_self_eq_true, BEq.rfl, pinsOf, List.mem_cons, List.not_mem_nil, AV.lentIds, lentIdsL, dropAll, givenUp, AV.clean, cleanL, Blk.clean, cleanB, quietC, flatTy, List.all_cons, List.all_nil, Bool.or_false, Bool.or_true, Bool.true_or, Bool.false_or, decide_true, decide_false, coldStr, notMs, eqV, eqF, isStruct, -coe, coe_w, coe_str, coe_agg, coe_tup, coe_sb, coe_si, coe_cp, coe_ms, coe_rf, coe_fn, coe_cons, ty, Srflay, fixS, sealS, blayS, d1, hE, hF]
      exact msgnil_ends 2 3 1 _ _ (by decide) (by decide) (by exact trivial) (by simp) rfl rfl rfl rfl
  · exact hp.elim
theorem fneed_sound : Sound Try.prog 23 fneedS := by
  refine fn_sound (S := Sfneed) (T := ty) mixed ty_ok Sfneed_ok Try.func23 (c := Try.f23.body.getD .skip) (by kernel_rfl) (by kernel_rfl) (fun xs pins hp _ => ?_)
  unfold fneedS at hp ⊢
  split at hp
  · rename_i n _
    have hn : n ≤ 900000 := hp
    refine ⟨by simp, ?_⟩
    unfold Try.f23
    obtain ⟨M, hM⟩ : ∃ M, max n 0 = M := ⟨_, rfl⟩
    have em : (if (0 : Int) > n then (0 : Int) else n) = M := by split <;> omega
    have em2 : (if (1099511627776 : Int) < M then (1099511627776 : Int) else M) = M := by split <;> omega
    have e1 : (M + 12 + 9223372036854775808) % 18446744073709551616 - 9223372036854775808 = M + 12 := by omega
    simp -implicitDefEqProofs only [Option.getD, awp_skip, awp_label, awp_ret, awp_exit, awp_region, awp_seq, awp_block, awp_cond, aops_nil, aops_plain, aops_guard, later_normal, later_exit, later_ret, blockK_normal, blockK_exit, blockK_ret, regK_apply, aop, aLen, ev, slot, setSlot, putSlot, cv, cvl, aConv, aBin, aInt, aUn, aEq, Out.and, isBool, isPtr, true_and, and_true, List.length, IntKind.bits, evs, evo, evps, aCall, aUser, coes, coe, List.append, List.replicate, callOut, rootsL, AV.roots, lendsL, AV.lends, pinsOf, nodup, lendL, lend, closedB, noimmB, AV.noimm, AV.ren, renL, back, Nat.reduceAdd, Nat.reduceSub, Nat.reduceMul, Int.reduceToNat, Nat.le_refl, reduceCtorEq, false_implies, implies_true, List.nil_append, List.append_nil, List.cons_append, Nat.zero_le, Bool.false_eq_true, aLoad, subv, aIndexAddr, aIndex, TD.aggr, cond_false, cond_true, guardSlot, List.getElem?_cons_succ, List.getElem?_cons_zero, aPick, byte, word, aMin, aMax, Ax.Ends, EndsX, Ax.rvals, rone, AV.ids, idsL, newIds, upTo, pinHeap, gOf, ↓reduceIte, forall_const, List.isEmpty, ne_eq, not_false_eq_true, and_self, true_implies, AV.w.injEq, Value.int.injEq, Value.bool.injEq, IntKind.wrap_u8, IntKind.wrap_u64, IntKind.wrap_i64, Int.reducePow, Nat.reducePow, Nat.min_def, Int.reduceMod, Nat.reduceLeDiff, Int.reduceLE, Int.reduceNe, Int.reduceEq, aBuildSlice, fillB, aAppend, appendB, viewB, Ax.look, Ax.put, Ax.drop, List.drop, List.take, List.set_cons_zero, List.set_cons_succ, asv, aMake, aCopy, srcB, fillG, viewG, appendG, appendI, fillI, aSlice, bnd, bnds, full3, cut, aFieldAddr, aField, aLoad, aStore, setB, aBox, aBuild, fillS, allTy, AV.leaves, AV.okv, AV.leaf, one, splice, elemLeaves, Blk.size, Blk.len, List.replicate_succ, List.replicate_zero, Option.isSome, Option.isNone, isBytes, aStr, aNil, aAlloc, aExtract, aConv, viewI, Nat.reduceEqDiff, Nat.reduceLT, List.length_append, List.length_cons, List.length_nil, Nat.zero_add, Nat.add_zero, Nat.reduceBEq, List.contains, List.elem, Bool.not_true, Bool.not_false, Bool.true_and, Bool.and_true, Bool.and_false, Bool.false_and, Blk.closed, closedL, AV.closed, Blk.noimm, not_true_eq_false, not_false_iff, or_false, or_true, false_or, true_or, Int.toNat_natCast, List.length_replicate, setB, ↓gsplit_tt, ↓gsplit_ff, ↓gsplit_tf, ↓gsplit_ft, gsplit_bt, gsplit_bf, ↓csplit_t, ↓csplit_f, csplit_b, Ax.idx, beq_self_eq_true, BEq.rfl, pinsOf, List.mem_cons, List.not_mem_nil, AV.lentIds, lentIdsL, dropAll, givenUp, AV.clean, cleanL, Blk.clean, cleanB, quietC, flatTy, List.all_cons, List.all_nil, Bool.or_false, Bool.or_true, Bool.true_or, Bool.false_or, decide_true, decide_false, coldStr, notMs, eqV, eqF, isStruct, -coe, coe_w, coe_str, coe_agg, coe_tup, coe_sb, coe_si, coe_cp, coe_ms, coe_rf, coe_fn, coe_cons, ty, Sfneed, needS, em, em2, e1, fneedI, hM]
    omega
  · exact hp.elim
theorem rfneed_sound : Sound Try.prog 24 fneedS := by
  refine fn_sound (S := Srfneed) (T := ty) mixed ty_ok Srfneed_ok Try.func24 (c := Try.f24.body.getD .skip) (by kernel_rfl) (by kernel_rfl) (fun xs pins hp _ => ?_)
  unfold fneedS at hp ⊢
  split at hp
  · rename_i n _
    have hn : n ≤ 900000 := hp
    refine ⟨by simp, ?_⟩
    unfold Try.f24
    obtain ⟨M, hM⟩ : ∃ M, max n 0 = M := ⟨_, rfl⟩
    have em : (if (1099511627776 : Int) < n then (1099511627776 : Int) else n) = n := by split <;> omega
    have em2 : (if n > (0 : Int) then n else (0 : Int)) = M := by split <;> omega
    have e1 : (M + 12 + 9223372036854775808) % 18446744073709551616 - 9223372036854775808 = M + 12 := by omega
    simp -implicitDefEqProofs only [Option.getD, awp_skip, awp_label, awp_ret, awp_exit, awp_region, awp_seq, awp_block, awp_cond, aops_nil, aops_plain, aops_guard, later_normal, later_exit, later_ret, blockK_normal, blockK_exit, blockK_ret, regK_apply, aop, aLen, ev, slot, setSlot, putSlot, cv, cvl, aConv, aBin, aInt, aUn, aEq, Out.and, isBool, isPtr, true_and, and_true, List.length, IntKind.bits, evs, evo, evps, aCall, aUser, coes, coe, List.append, List.replicate, callOut, rootsL, AV.roots, lendsL, AV.lends, pinsOf, nodup, lendL, lend, closedB, noimmB, AV.noimm, AV.ren, renL, back, Nat.reduceAdd, Nat.reduceSub, Nat.reduceMul, Int.reduceToNat, Nat.le_refl, reduceCtorEq, false_implies, implies_true, List.nil_append, List.append_nil, List.cons_append, Nat.zero_le, Bool.false_eq_true, aLoad, subv, aIndexAddr, aIndex, TD.aggr, cond_false, cond_true, guardSlot, List.getElem?_cons_succ, List.getElem?_cons_zero, aPick, byte, word, aMin, aMax, Ax.Ends, EndsX, Ax.rvals, rone, AV.ids, idsL, newIds, upTo, pinHeap, gOf, ↓reduceIte, forall_const, List.isEmpty, ne_eq, not_false_eq_true, and_self, true_implies, AV.w.injEq, Value.int.injEq, Value.bool.injEq, IntKind.wrap_u8, IntKind.wrap_u64, IntKind.wrap_i64, Int.reducePow, Nat.reducePow, Nat.min_def, Int.reduceMod, Nat.reduceLeDiff, Int.reduceLE, Int.reduceNe, Int.reduceEq, aBuildSlice, fillB, aAppend, appendB, viewB, Ax.look, Ax.put, Ax.drop, List.drop, List.take, List.set_cons_zero, List.set_cons_succ, asv, aMake, aCopy, srcB, fillG, viewG, appendG, appendI, fillI, aSlice, bnd, bnds, full3, cut, aFieldAddr, aField, aLoad, aStore, setB, aBox, aBuild, fillS, allTy, AV.leaves, AV.okv, AV.leaf, one, splice, elemLeaves, Blk.size, Blk.len, List.replicate_succ, List.replicate_zero, Option.isSome, Option.isNone, isBytes, aStr, aNil, aAlloc, aExtract, aConv, viewI, Nat.reduceEqDiff, Nat.reduceLT, List.length_append, List.length_cons, List.length_nil, Nat.zero_add, Nat.add_zero, Nat.reduceBEq, List.contains, List.elem, Bool.not_true, Bool.not_false, Bool.true_and, Bool.and_true, Bool.and_false, Bool.false_and, Blk.closed, closedL, AV.closed, Blk.noimm, not_true_eq_false, not_false_iff, or_false, or_true, false_or, true_or, Int.toNat_natCast, List.length_replicate, setB, ↓gsplit_tt, ↓gsplit_ff, ↓gsplit_tf, ↓gsplit_ft, gsplit_bt, gsplit_bf, ↓csplit_t, ↓csplit_f, csplit_b, Ax.idx, beq_self_eq_true, BEq.rfl, pinsOf, List.mem_cons, List.not_mem_nil, AV.lentIds, lentIdsL, dropAll, givenUp, AV.clean, cleanL, Blk.clean, cleanB, quietC, flatTy, List.all_cons, List.all_nil, Bool.or_false, Bool.or_true, Bool.true_or, Bool.false_or, decide_true, decide_false, coldStr, notMs, eqV, eqF, isStruct, -coe, coe_w, coe_str, coe_agg, coe_tup, coe_sb, coe_si, coe_cp, coe_ms, coe_rf, coe_fn, coe_cons, ty, Srfneed, needS, em, em2, e1, fneedI, hM]
    omega
  · exact hp.elim
end
end Go.Proofs.Ytfciefiachmioaa
