/- Layer 1: the laws of what is put. -/
import Derived.Test.YtfkedhcmkogkgaaB1
namespace Go.Proofs.Ytfkedhcmkogkgaa
open Ax
set_option linter.unusedSimpArgs false
set_option linter.unusedVariables false

def putsS : FSpec
  | [.w (.int k n), .w (.int k' u), .w (.int k'' wd)], [] => ⟨k = .i64 ∧ k' = .u64 ∧ k'' = .i64 ∧ (-9223372036854775808 ≤ n ∧ n ≤ 9223372036854775807) ∧ 0 ≤ u ∧ u < 18446744073709551616, .w (.bool true), []⟩
  | _, _ => noRes
def S4 (f : FuncId) : Option FSpec :=
  match f with
  | 18 => some putS
  | 19 => some putS
  | 20 => some fixS
  | 21 => some fixS
  | 17 => some yesS
  | _ => none
theorem S4_ok : Fns Try.prog S4 := by
  intro f s h
  unfold S4 at h
  split at h
  · injection h with h; subst h; exact ⟨⟨_, Try.func18, by kernel_rfl, by kernel_rfl⟩, put_sound⟩
  · injection h with h; subst h; exact ⟨⟨_, Try.func19, by kernel_rfl, by kernel_rfl⟩, rput_sound⟩
  · injection h with h; subst h; exact ⟨⟨_, Try.func20, by kernel_rfl, by kernel_rfl⟩, fixed_sound⟩
  · injection h with h; subst h; exact ⟨⟨_, Try.func21, by kernel_rfl, by kernel_rfl⟩, rfixed_sound⟩
  · injection h with h; subst h; exact ⟨⟨_, Try.func17, by kernel_rfl, by kernel_rfl⟩, awake_sound⟩
  · cases h

section
set_option maxRecDepth 100000
theorem puts_law : Sound Try.prog 4 putsS := by
  refine fn_sound (S := S4) (T := ty) mixed ty_ok S4_ok Try.func4 (c := Try.f4.body.getD .skip) (by kernel_rfl) (by kernel_rfl) (fun xs pins hp _ => ?_)
  unfold putsS at hp ⊢
  split at hp
  · rename_i k n k' u k'' wd _
    obtain ⟨rfl, rfl, rfl, ⟨h1, h2⟩, h3, h4⟩ := hp
    refine ⟨by simp, ?_⟩
    unfold Try.f4
    simp -implicitDefEqProofs only [Option.getD, awp_skip, awp_label, awp_ret, awp_exit, awp_region, awp_seq, awp_block, awp_cond, aops_nil, aops_plain, aops_guard, later_normal, later_exit, later_ret, blockK_normal, blockK_exit, blockK_ret, regK_apply, aop, aLen, ev, slot, setSlot, putSlot, cv, cvl, aConv, aBin, aInt, aUn, aEq, Out.and, isBool, isPtr, true_and, and_true, List.length, IntKind.bits, evs, evo, evps, aCall, aUser, coes, coe, List.append, List.replicate, callOut, rootsL, AV.roots, lendsL, AV.lends, pinsOf, nodup, lendL, lend, closedB, noimmB, AV.noimm, AV.ren, renL, back, Nat.reduceAdd, Nat.reduceSub, Nat.reduceMul, Int.reduceToNat, Nat.le_refl, reduceCtorEq, false_implies, implies_true, List.nil_append, List.append_nil, List.cons_append, Nat.zero_le, Bool.false_eq_true, aLoad, subv, aIndexAddr, aIndex, TD.aggr, cond_false, cond_true, guardSlot, List.getElem?_cons_succ, List.getElem?_cons_zero, aPick, byte, word, aMin, aMax, Ax.Ends, EndsX, Ax.rvals, rone, AV.ids, idsL, newIds, upTo, pinHeap, gOf, ↓reduceIte, forall_const, List.isEmpty, ne_eq, not_false_eq_true, and_self, true_implies, AV.w.injEq, Value.int.injEq, Value.bool.injEq, IntKind.wrap_u8, IntKind.wrap_u64, IntKind.wrap_i64, Int.reducePow, Nat.reducePow, Nat.min_def, Int.reduceMod, Nat.reduceLeDiff, Int.reduceLE, Int.reduceNe, Int.reduceEq, aBuildSlice, fillB, aAppend, appendB, viewB, Ax.look, Ax.put, Ax.drop, List.drop, List.take, List.set_cons_zero, List.set_cons_succ, asv, aMake, aSlice, bnd, bnds, full3, cut, aFieldAddr, aField, aLoad, aStore, setB, aBox, aBuild, fillS, allTy, AV.leaves, AV.okv, AV.leaf, one, splice, elemLeaves, Blk.size, Blk.len, List.replicate_succ, List.replicate_zero, Option.isSome, Option.isNone, isBytes, aStr, aNil, aAlloc, aExtract, aConv, viewI, Nat.reduceEqDiff, Nat.reduceLT, List.length_append, List.length_cons, List.length_nil, Nat.zero_add, Nat.add_zero, Nat.reduceBEq, List.contains, List.elem, Bool.not_true, Bool.not_false, Bool.true_and, Bool.and_true, Bool.and_false, Bool.false_and, Blk.closed, closedL, AV.closed, Blk.noimm, not_true_eq_false, not_false_iff, or_false, or_true, false_or, true_or, Int.toNat_natCast, List.length_replicate, setB, ↓gsplit_tt, ↓gsplit_ff, ↓gsplit_tf, ↓gsplit_ft, gsplit_bt, gsplit_bf, ↓csplit_t, ↓csplit_f, csplit_b, Ax.idx, beq_self_eq_true, BEq.rfl, pinsOf, List.mem_cons, List.not_mem_nil, AV.lentIds, lentIdsL, dropAll, givenUp, AV.clean, cleanL, Blk.clean, cleanB, quietC, flatTy, List.all_cons, List.all_nil, Bool.or_false, Bool.or_true, Bool.true_or, Bool.false_or, decide_true, decide_false, ty, S4, putS, fixS, yesS, h1, h2, h3, h4, decide_true, List.take_length]
    rw [fixL_length]; exact Nat.le_refl _
  · exact hp.elim
end

theorem unf_fix (U : Nat) : ∀ (w : Nat) (x : Nat), unfL (fixL U w) x = x * 256 ^ w + U % 256 ^ w
  | 0, x => by simp [unfL, fixL, Nat.mod_one]
  | w + 1, x => by
    have ih := unf_fix U w (x * 256 + U / 256 ^ w % 256)
    have hb : (UInt8.ofNat (U / 256 ^ w % 256)).toNat = U / 256 ^ w % 256 := by rw [UInt8.toNat_ofNat']; omega
    have e : unfL (fixL U (w + 1)) x = unfL (fixL U w) (x * 256 + U / 256 ^ w % 256) := by
      simp only [unfL, fixL, List.foldl_cons, hb]
    rw [e, ih, Nat.pow_succ, Nat.mod_mul, Nat.add_mul, Nat.mul_assoc, Nat.mul_comm 256 (256 ^ w)]
    have : U / 256 ^ w % 256 * 256 ^ w = 256 ^ w * (U / 256 ^ w % 256) := Nat.mul_comm _ _
    omega
theorem last8_fix (U w : Nat) (h : w ≤ 8) : last8 (fixL U w) = fixL U w := by
  unfold last8; rw [fixL_length, show w - 8 = 0 by omega, List.drop_zero]
theorem fix_mod (U : Nat) : ∀ (k w : Nat), fixL (U % 256 ^ (w + k)) w = fixL U w
  | k, 0 => rfl
  | k, w + 1 => by
    simp only [fixL]
    have h1 := fix_mod U (k + 1) w
    rw [show w + (k + 1) = w + 1 + k by omega] at h1
    rw [h1]
    have h2 : U % 256 ^ (w + 1 + k) / 256 ^ w % 256 = U / 256 ^ w % 256 := by
      rw [show w + 1 + k = w + (1 + k) by omega, Nat.pow_add, Nat.mod_mul_right_div_self, Nat.pow_add, Nat.pow_one, Nat.mod_mul_right_mod]
    rw [h2]
theorem clamp_nat (w : Nat) (h : w ≤ 8) : clampI w = w := by
  unfold clampI
  repeat' split
  all_goals omega
theorem pow256 (w : Nat) (h : w < 8) : (1 : Int) * 2 ^ (8 * w) % 18446744073709551616 = ((256 ^ w : Nat) : Int) := by
  have : (2 : Int) ^ (8 * w) = ((256 ^ w : Nat) : Int) := by
    rw [show 256 = 2 ^ 8 from rfl, ← Nat.pow_mul]; simp
  rw [this]
  have h7 : (256 : Nat) ^ w ≤ 256 ^ 7 := Nat.pow_le_pow_right (by decide) (by omega)
  have h7' : (256 : Nat) ^ 7 = 72057594037927936 := by simp
  generalize 256 ^ w = p at *
  omega

def widthS : FSpec
  | [.w (.int k u), .w (.int k' wd)], [] => ⟨k = .u64 ∧ k' = .u8 ∧ (0 ≤ u ∧ u < 18446744073709551616) ∧ 0 ≤ wd ∧ wd < 256, .w (.bool true), []⟩
  | _, _ => noRes
def S8 (f : FuncId) : Option FSpec :=
  match f with
  | 20 => some fixS
  | 24 => some unfS
  | 17 => some yesS
  | _ => none
theorem S8_ok : Fns Try.prog S8 := by
  intro f s h
  unfold S8 at h
  split at h
  · injection h with h; subst h; exact ⟨⟨_, Try.func20, by kernel_rfl, by kernel_rfl⟩, fixed_sound⟩
  · injection h with h; subst h; exact ⟨⟨_, Try.func24, by kernel_rfl, by kernel_rfl⟩, unfixed_sound⟩
  · injection h with h; subst h; exact ⟨⟨_, Try.func17, by kernel_rfl, by kernel_rfl⟩, awake_sound⟩
  · cases h
section
set_option maxRecDepth 100000
theorem width_law : Sound Try.prog 8 widthS := by
  refine fn_sound (S := S8) (T := ty) mixed ty_ok S8_ok Try.func8 (c := Try.f8.body.getD .skip) (by kernel_rfl) (by kernel_rfl) (fun xs pins hp _ => ?_)
  unfold widthS at hp ⊢
  split at hp
  · rename_i k u k' wd _
    obtain ⟨rfl, rfl, ⟨h1, h2⟩, h3, h4⟩ := hp
    refine ⟨by simp, ?_⟩
    obtain ⟨U, rfl⟩ := Int.eq_ofNat_of_zero_le h1
    obtain ⟨W, hW⟩ : ∃ W : Nat, wd.tmod 9 = W := ⟨(wd % 9).toNat, by rw [Int.tmod_eq_emod_of_nonneg h3]; omega⟩
    have hW8 : W ≤ 8 := by rw [Int.tmod_eq_emod_of_nonneg h3] at hW; omega
    have e1 : ((W : Int) + 9223372036854775808) % 18446744073709551616 - 9223372036854775808 = W := by omega
    have e2 : (8 * (W : Int) + 9223372036854775808) % 18446744073709551616 - 9223372036854775808 = ((8 * W : Nat) : Int) := by omega
    have e3 := clamp_nat W hW8
    have e4 : List.take W (fixL U W) = fixL U W := List.take_of_length_le (by rw [fixL_length]; exact Nat.le_refl _)
    have h64 : 8 * W ≤ 64 := by omega
    unfold Try.f8
    by_cases h8 : W < 8
    · have d1 : decide ((W : Int) < 8) = true := decide_eq_true (by omega)
      have e5 := pow256 W h8
      have hpos : 0 < 256 ^ W := Nat.pow_pos (by decide)
      have e6 : (U : Int).tmod ((256 ^ W : Nat) : Int) = ((U % 256 ^ W : Nat) : Int) := by
        rw [Int.tmod_eq_emod_of_nonneg (by omega)]; simp
      have hlt : U % 256 ^ W ≤ U := Nat.mod_le _ _
      have e7 := fix_mod U 0 W
      simp -implicitDefEqProofs only [Option.getD, awp_skip, awp_label, awp_ret, awp_exit, awp_region, awp_seq, awp_block, awp_cond, aops_nil, aops_plain, aops_guard, later_normal, later_exit, later_ret, blockK_normal, blockK_exit, blockK_ret, regK_apply, aop, aLen, ev, slot, setSlot, putSlot, cv, cvl, aConv, aBin, aInt, aUn, aEq, Out.and, isBool, isPtr, true_and, and_true, List.length, IntKind.bits, evs, evo, evps, aCall, aUser, coes, coe, List.append, List.replicate, callOut, rootsL, AV.roots, lendsL, AV.lends, pinsOf, nodup, lendL, lend, closedB, noimmB, AV.noimm, AV.ren, renL, back, Nat.reduceAdd, Nat.reduceSub, Nat.reduceMul, Int.reduceToNat, Nat.le_refl, reduceCtorEq, false_implies, implies_true, List.nil_append, List.append_nil, List.cons_append, Nat.zero_le, Bool.false_eq_true, aLoad, subv, aIndexAddr, aIndex, TD.aggr, cond_false, cond_true, guardSlot, List.getElem?_cons_succ, List.getElem?_cons_zero, aPick, byte, word, aMin, aMax, Ax.Ends, EndsX, Ax.rvals, rone, AV.ids, idsL, newIds, upTo, pinHeap, gOf, ↓reduceIte, forall_const, List.isEmpty, ne_eq, not_false_eq_true, and_self, true_implies, AV.w.injEq, Value.int.injEq, Value.bool.injEq, IntKind.wrap_u8, IntKind.wrap_u64, IntKind.wrap_i64, Int.reducePow, Nat.reducePow, Nat.min_def, Int.reduceMod, Nat.reduceLeDiff, Int.reduceLE, Int.reduceNe, Int.reduceEq, aBuildSlice, fillB, aAppend, appendB, viewB, Ax.look, Ax.put, Ax.drop, List.drop, List.take, List.set_cons_zero, List.set_cons_succ, asv, aMake, aSlice, bnd, bnds, full3, cut, aFieldAddr, aField, aLoad, aStore, setB, aBox, aBuild, fillS, allTy, AV.leaves, AV.okv, AV.leaf, one, splice, elemLeaves, Blk.size, Blk.len, List.replicate_succ, List.replicate_zero, Option.isSome, Option.isNone, isBytes, aStr, aNil, aAlloc, aExtract, aConv, viewI, Nat.reduceEqDiff, Nat.reduceLT, List.length_append, List.length_cons, List.length_nil, Nat.zero_add, Nat.add_zero, Nat.reduceBEq, List.contains, List.elem, Bool.not_true, Bool.not_false, Bool.true_and, Bool.and_true, Bool.and_false, Bool.false_and, Blk.closed, closedL, AV.closed, Blk.noimm, not_true_eq_false, not_false_iff, or_false, or_true, false_or, true_or, Int.toNat_natCast, List.length_replicate, setB, ↓gsplit_tt, ↓gsplit_ff, ↓gsplit_tf, ↓gsplit_ft, gsplit_bt, gsplit_bf, ↓csplit_t, ↓csplit_f, csplit_b, Ax.idx, beq_self_eq_true, BEq.rfl, pinsOf, List.mem_cons, List.not_mem_nil, AV.lentIds, lentIdsL, dropAll, givenUp, AV.clean, cleanL, Blk.clean, cleanB, quietC, flatTy, List.all_cons, List.all_nil, Bool.or_false, Bool.or_true, Bool.true_or, Bool.false_or, decide_true, decide_false, ty, S8, unfS, fixS, yesS, h1, h2, h3, h4, decide_true, List.take_length, hW, e1, e2, e3, e4, d1, h64, e5, e6, if_true, fixL_length, last8_fix U W hW8, unf_fix, Nat.zero_mul, Int.toNat_natCast, e7]
      rw [Nat.add_zero] at e7
      rw [e7, e4]
      refine ⟨by omega, by omega, by omega, ⟨by omega, by omega⟩, by simp⟩
    · obtain rfl : W = 8 := by omega
      have d1 : decide (((8 : Nat) : Int) < 8) = false := by simp
      have e8 : U % 256 ^ 8 = U := Nat.mod_eq_of_lt (by rw [show (256 : Nat) ^ 8 = 18446744073709551616 by simp]; omega)
      simp -implicitDefEqProofs only [Option.getD, awp_skip, awp_label, awp_ret, awp_exit, awp_region, awp_seq, awp_block, awp_cond, aops_nil, aops_plain, aops_guard, later_normal, later_exit, later_ret, blockK_normal, blockK_exit, blockK_ret, regK_apply, aop, aLen, ev, slot, setSlot, putSlot, cv, cvl, aConv, aBin, aInt, aUn, aEq, Out.and, isBool, isPtr, true_and, and_true, List.length, IntKind.bits, evs, evo, evps, aCall, aUser, coes, coe, List.append, List.replicate, callOut, rootsL, AV.roots, lendsL, AV.lends, pinsOf, nodup, lendL, lend, closedB, noimmB, AV.noimm, AV.ren, renL, back, Nat.reduceAdd, Nat.reduceSub, Nat.reduceMul, Int.reduceToNat, Nat.le_refl, reduceCtorEq, false_implies, implies_true, List.nil_append, List.append_nil, List.cons_append, Nat.zero_le, Bool.false_eq_true, aLoad, subv, aIndexAddr, aIndex, TD.aggr, cond_false, cond_true, guardSlot, List.getElem?_cons_succ, List.getElem?_cons_zero, aPick, byte, word, aMin, aMax, Ax.Ends, EndsX, Ax.rvals, rone, AV.ids, idsL, newIds, upTo, pinHeap, gOf, ↓reduceIte, forall_const, List.isEmpty, ne_eq, not_false_eq_true, and_self, true_implies, AV.w.injEq, Value.int.injEq, Value.bool.injEq, IntKind.wrap_u8, IntKind.wrap_u64, IntKind.wrap_i64, Int.reducePow, Nat.reducePow, Nat.min_def, Int.reduceMod, Nat.reduceLeDiff, Int.reduceLE, Int.reduceNe, Int.reduceEq, aBuildSlice, fillB, aAppend, appendB, viewB, Ax.look, Ax.put, Ax.drop, List.drop, List.take, List.set_cons_zero, List.set_cons_succ, asv, aMake, aSlice, bnd, bnds, full3, cut, aFieldAddr, aField, aLoad, aStore, setB, aBox, aBuild, fillS, allTy, AV.leaves, AV.okv, AV.leaf, one, splice, elemLeaves, Blk.size, Blk.len, List.replicate_succ, List.replicate_zero, Option.isSome, Option.isNone, isBytes, aStr, aNil, aAlloc, aExtract, aConv, viewI, Nat.reduceEqDiff, Nat.reduceLT, List.length_append, List.length_cons, List.length_nil, Nat.zero_add, Nat.add_zero, Nat.reduceBEq, List.contains, List.elem, Bool.not_true, Bool.not_false, Bool.true_and, Bool.and_true, Bool.and_false, Bool.false_and, Blk.closed, closedL, AV.closed, Blk.noimm, not_true_eq_false, not_false_iff, or_false, or_true, false_or, true_or, Int.toNat_natCast, List.length_replicate, setB, ↓gsplit_tt, ↓gsplit_ff, ↓gsplit_tf, ↓gsplit_ft, gsplit_bt, gsplit_bf, ↓csplit_t, ↓csplit_f, csplit_b, Ax.idx, beq_self_eq_true, BEq.rfl, pinsOf, List.mem_cons, List.not_mem_nil, AV.lentIds, lentIdsL, dropAll, givenUp, AV.clean, cleanL, Blk.clean, cleanB, quietC, flatTy, List.all_cons, List.all_nil, Bool.or_false, Bool.or_true, Bool.true_or, Bool.false_or, decide_true, decide_false, ty, S8, unfS, fixS, yesS, h1, h2, h3, h4, decide_true, List.take_length, hW, e1, e2, e3, e4, d1, h64, if_true, fixL_length, last8_fix U 8 hW8, unf_fix, Nat.zero_mul, Int.toNat_natCast, e8]
  · exact hp.elim
end
end Go.Proofs.Ytfkedhcmkogkgaa
