/- Layer 4: what every right program lays of one batch. -/
import Derived.Test.YthmkhlmohjcbgaaLb
namespace Go.Proofs.Ythmkhlmohjcbgaa
open Ax
set_option linter.unusedSimpArgs false
set_option linter.unusedVariables false

def Saw4 (f : FuncId) : Option FSpec :=
  match f with
  | 11 => some blayS4
  | 16 => some bgetS
  | 19 => some batS4
  | 14 => some bsameS4
  | 21 => some bnextS
  | 23 => some bnewS
  | 27 => some bfromS
  | _ => none
theorem Saw4_ok : Fns Try.prog Saw4 := by
  intro f s h
  unfold Saw4 at h
  split at h
  · injection h with h; subst h; exact ⟨⟨_, Try.func11, by kernel_rfl, by kernel_rfl⟩, bput4_sound⟩
  · injection h with h; subst h; exact ⟨⟨_, Try.func16, by kernel_rfl, by kernel_rfl⟩, bget_sound⟩
  · injection h with h; subst h; exact ⟨⟨_, Try.func19, by kernel_rfl, by kernel_rfl⟩, bat4_sound⟩
  · injection h with h; subst h; exact ⟨⟨_, Try.func14, by kernel_rfl, by kernel_rfl⟩, bsame4_sound⟩
  · injection h with h; subst h; exact ⟨⟨_, Try.func21, by kernel_rfl, by kernel_rfl⟩, bnext_sound⟩
  · injection h with h; subst h; exact ⟨⟨_, Try.func23, by kernel_rfl, by kernel_rfl⟩, bnew_sound⟩
  · injection h with h; subst h; exact ⟨⟨_, Try.func27, by kernel_rfl, by kernel_rfl⟩, bfrom_sound⟩
  · cases h
def R0 : Rec := ⟨0, 0, false, [], false, [118]⟩
def X0 : Bat := ⟨5, 1, 0, 0, 0, [R0]⟩
theorem pu (n : Nat) (h : n < 128) : putU n = [UInt8.ofNat n] := by rw [putU]; rw [if_pos h]
theorem x1 : rk R0 = 0 := by decide
theorem x2 : rb R0 = [0, 0, 0, 2, 118] := by
  rw [rb_eq x1]
  show UInt8.ofNat (flagI false false).toNat :: (putU (zz 0).toNat ++ (putU (zz 0).toNat ++ ([] ++ textL [118]))) = _
  unfold textL
  rw [pu (zz 0).toNat (by decide), pu (2 * [118].length) (by decide)]
  rfl
theorem x3 : batL 5 1 0 0 0 [R0] = [10, 2, 0, 0, 0, 2, 0, 0, 0, 2, 118] := by
  unfold batL headL nums
  simp only [List.flatMap_cons, List.flatMap_nil, x2, List.append_nil]
  rw [pu (zz 5).toNat (by decide), pu (zz 1).toNat (by decide), pu (zz 0).toNat (by decide), pu (zz (([R0].length : Nat) : Int)).toNat (by decide)]
  rfl
theorem x4 : bE X0 = 0 := by
  unfold bE batE X0
  simp only
  rw [x3, layE_cons, x1]
  decide
theorem x5 : bB X0 = [10, 2, 0, 0, 0, 2, 0, 0, 0, 2, 118] := by
  rw [show bB X0 = batL 5 1 0 0 0 [R0] from if_pos x4, x3]
theorem x6 : bget [10, 2, 0, 0, 0, 2, 0, 0, 0, 2, 118] = some X0 := by
  rw [← x5]; exact bget_put x4
theorem wE4_ends {T : Types} {sl : List AV} {H : Heap} {nx : Nat} {v : Value} {q : Prop} (i : Nat) (h : slot sl i = .w v) : EndsW T [.tmp i] [] ⟨q, .w v, []⟩ .ret ⟨sl, H, nx⟩ := by
  refine ⟨_, Weak.refl _, ?_⟩
  simp only [Ax.Ends, Ax.rvals, EndsX, rone, h, AV.ids, idsL, newIds, upTo, nodup, pinsOf, List.nil_append, AV.ren, and_self]
def aw4Pl : KPlan := fun id => match id with
  | 2 => some ([9], none)
  | _ => none
section
set_option maxRecDepth 100000
set_option maxHeartbeats 1000000 in
theorem awake4_sound : Sound Try.prog 10 yesS := by
  refine fn_soundK (S := Saw4) (T := ty) (pl := aw4Pl) mixed ty_ok Saw4_ok Try.func10 (c := Try.f10.body.getD .skip) (by kernel_rfl) (by kernel_rfl) (fun xs pins hp _ => ?_)
  unfold yesS at hp ⊢
  split at hp
  · refine ⟨by simp, ?_⟩
    unfold Try.f10
    have y1 : batE 5 1 0 0 0 [⟨0, 0, false, [], false, [118]⟩] = 0 := x4
    have y2 : batB 5 1 0 0 0 [⟨0, 0, false, [], false, [118]⟩] = [10, 2, 0, 0, 0, 2, 0, 0, 0, 2, 118] := x5
    have y3 : bget0 [10, 2, 0, 0, 0, 2, 0, 0, 0, 2, 118] = X0 := by unfold bget0; rw [x6]; rfl
    have y4 : bgetE [10, 2, 0, 0, 0, 2, 0, 0, 0, 2, 118] = 0 := by unfold bgetE; rw [x6]; rfl
    have y5 : ∃ rs : List Rec, [AV.agg [.w (.int .i64 0), .w (.int .i64 0), .w (.bool false), .str [], .w (.bool false), .str [118]]] = rs.map rv := ⟨[R0], rfl⟩
    have y6 : ∃ rs : List Rec, ([] : List AV) = rs.map rv := ⟨[], rfl⟩
    have y7 : atR 5 5 [⟨0, 0, false, [], false, [118]⟩] = some ⟨0, 0, false, [], false, [118]⟩ := by decide
    have y8 : fromR 5 6 [⟨0, 0, false, [], false, [118]⟩] = [] := by decide
    have y9 : bsame4 5 1 0 0 0 [⟨0, 0, false, [], false, [118]⟩] 5 1 0 0 0 [⟨0, 0, false, [], false, [118]⟩] = true := by decide
    have y10 : newL [⟨0, 0, false, [], false, [118]⟩] = 0 := by decide
    have y11 : newL [] = -1 := rfl
    have y12 : emp [⟨0, 0, false, [], false, [118]⟩] = false := rfl
    have y13 : decide (((0 : Nat) : Int) = 0) = true := rfl
    have y14 : decide (((5 : Int) + 1 + 9223372036854775808) % 18446744073709551616 - 9223372036854775808 = 6) = true := by decide
    simp -implicitDefEqProofs only [Option.getD, awp_skip, awp_label, awp_ret, awp_exit, awp_region, awp_seq, awp_block, awp_cond, aops_nil, aops_plain, aops_guard, later_normal, later_exit, later_ret, blockK_normal, blockK_exit, blockK_ret, regK_apply, aop, aLen, ev, slot, setSlot, putSlot, cv, cvl, aConv, aBin, aInt, aUn, aFn, aEq, Out.and, isBool, isPtr, true_and, and_true, List.length, IntKind.bits, evs, evo, evps, aCall, aUser, coes, coe, List.append, List.replicate, callOut, rootsL, AV.roots, lendsL, AV.lends, pinsOf, nodup, lendL, lend, closedB, noimmB, AV.noimm, AV.ren, renL, back, Nat.reduceAdd, Nat.reduceSub, Nat.reduceMul, Int.reduceToNat, Nat.le_refl, reduceCtorEq, false_implies, implies_true, List.nil_append, List.append_nil, List.cons_append, Nat.zero_le, Bool.false_eq_true, aLoad, subv, aIndexAddr, aIndex, TD.aggr, cond_false, cond_true, guardSlot, List.getElem?_cons_succ, List.getElem?_cons_zero, aPick, byte, word, aMin, aMax, Ax.Ends, EndsX, Ax.rvals, rone, AV.ids, idsL, newIds, upTo, pinHeap, gOf, ↓reduceIte, forall_const, List.isEmpty, ne_eq, not_false_eq_true, and_self, true_implies, AV.w.injEq, Value.int.injEq, Value.bool.injEq, IntKind.wrap_u8, IntKind.wrap_u64, IntKind.wrap_i64, Int.reducePow, Nat.reducePow, Nat.min_def, Int.reduceMod, Nat.reduceLeDiff, Int.reduceLE, Int.reduceNe, Int.reduceEq, aBuildSlice, fillB, aAppend, appendB, viewB, Ax.look, Ax.put, Ax.drop, List.drop, List.take, List.set_cons_zero, List.set_cons_succ, asv, aMake, aCopy, srcB, fillG, viewG, appendG, appendI, fillI, aSlice, bnd, bnds, full3, cut, aFieldAddr, aField, aLoad, aStore, setB, aBox, aBuild, fillS, allTy, AV.leaves, AV.okv, AV.leaf, one, splice, elemLeaves, Blk.size, Blk.len, List.replicate_succ, List.replicate_zero, Option.isSome, Option.isNone, isBytes, aStr, aNil, aAlloc, aExtract, aConv, viewI, Nat.reduceEqDiff, Nat.reduceLT, List.length_append, List.length_cons, List.length_nil, Nat.zero_add, Nat.add_zero, Nat.reduceBEq, List.contains, List.elem, Bool.not_true, Bool.not_false, Bool.true_and, Bool.and_true, Bool.and_false, Bool.false_and, Blk.closed, closedL, AV.closed, Blk.noimm, not_true_eq_false, not_false_iff, or_false, or_true, false_or, true_or, Int.toNat_natCast, List.length_replicate, setB, ↓gsplit_tt, ↓gsplit_ff, ↓gsplit_tf, ↓gsplit_ft, gsplit_bt, gsplit_bf, ↓csplit_t, ↓csplit_f, csplit_b, Ax.idx, beq_self_eq_true, BEq.rfl, pinsOf, List.mem_cons, List.not_mem_nil, AV.lentIds, lentIdsL, dropAll, givenUp, AV.clean, cleanL, Blk.clean, cleanB, quietC, flatTy, List.all_cons, List.all_nil, Bool.or_false, Bool.or_true, Bool.true_or, Bool.false_or, decide_true, decide_false, coldStr, notMs, eqV, eqF, isStruct, awpK_skip, awpK_label, awpK_ret, awpK_exit, awpK_region, awpK_seq, awpK_block, awpK_cond, laterK_normal, laterK_exit, laterK_ret, frzS, frzL, ↓frzK_def, aopsK_zero, aopsK_succ, ↓keepK_def, keepA, fzL, fzH, AV.fz, Blk.fz, fgL, fgH, AV.fg, Blk.fg, -coe, coe_w, coe_str, coe_agg, coe_tup, coe_sb, coe_si, coe_cp, coe_ms, coe_rf, coe_fn, coe_cons, ty, Saw4, aw4Pl, y13, y14, blayS4, bgetS, batS4, bsameS4, bnextS, bnewS, bfromS, y1, y2, y3, y4, y5, y6, y7, y8, y9, y10, y11, y12, X0, R0, bav, rv, rrec, List.map_cons, List.map_nil, Option.getD, Option.isSome, fillS]
    exact wE4_ends 0 rfl
  · exact hp.elim
end
end Go.Proofs.Ythmkhlmohjcbgaa
