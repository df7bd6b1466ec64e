/- Layer 8: a meta's bytes, as the document lays them. -/
import Derived.Test.YtlbdhkgjhjcgiaaE4
namespace Go.Proofs.Ytlbdhkgjhjcgiaa
open Ax
set_option linter.unusedSimpArgs false
set_option linter.unusedVariables false

theorem gdI : (∀ (a d : Int) (l : List Int), (a :: l).getD 0 d = a) ∧ (∀ (a b d : Int) (l : List Int), (a :: b :: l).getD 1 d = b) ∧ (∀ (a b c d : Int) (l : List Int), (a :: b :: c :: l).getD 2 d = c) ∧ (∀ (a b c e d : Int) (l : List Int), (a :: b :: c :: e :: l).getD 3 d = e) ∧ (∀ (a b c e f d : Int) (l : List Int), (a :: b :: c :: e :: f :: l).getD 4 d = f) :=
  ⟨fun _ _ _ => rfl, fun _ _ _ _ => rfl, fun _ _ _ _ _ => rfl, fun _ _ _ _ _ _ => rfl, fun _ _ _ _ _ _ _ => rfl⟩
def rnumsM (m : Mt) : List Int := if m.k = 0 then [m.t, m.p, cpN m] else numsM m
def rnumS : FSpec
  | [.agg [.w (.int .u8 k), .w (.int .i64 t), .w (.int .i64 i), .str nm, .w (.int .i64 p), .w (.bool cp), .w (.int .i64 z), .w (.int .i64 b), .w (.int .i64 c)]], [] =>
      ⟨0 ≤ k ∧ k ≤ 6, .ms 0 1 0 (rnumsM ⟨k, t, i, nm, p, cp, z, b, c⟩).length, [.i (rnumsM ⟨k, t, i, nm, p, cp, z, b, c⟩)]⟩
  | _, _ => noRes
section
set_option maxRecDepth 100000
set_option maxHeartbeats 4000000 in
theorem rnum8_sound : Sound Try.prog 27 rnumS := by
  refine fn_soundW (S := noS) (T := ty) mixed ty_ok noS_ok Try.func27 (c := Try.f27.body.getD .skip) (by kernel_rfl) (by kernel_rfl) (fun xs pins hp _ => ?_)
  unfold rnumS at hp ⊢
  split at hp
  · rename_i k t i nm p cp z b c _
    have hk : 0 ≤ k ∧ k ≤ 6 := hp
    refine ⟨by simp, ?_⟩
    unfold Try.f27
    rcases kind_le k hk with rfl | rfl | rfl | rfl | rfl | rfl | rfl
    all_goals cases cp
    all_goals
      simp -implicitDefEqProofs only [evT, evD0, evD1, evD2, implies_true, forall_const, Option.getD, later_normal, aop, aLen, ev, putSlot, cv, cvl, aConv, aBin, aInt, aUn, aFn, aEq, List.length, IntKind.bits, evo, coe, List.append, List.replicate, Nat.reduceAdd, Nat.reduceSub, Nat.reduceMul, Int.reduceToNat, reduceCtorEq, aIndexAddr, aIndex, TD.aggr, aPick, aMin, aMax, Ax.Ends, rone, ↓reduceIte, List.isEmpty, Int.reducePow, Nat.reducePow, Int.reduceMod, Nat.reduceLeDiff, Int.reduceLE, Int.reduceNe, Int.reduceEq, aAppend, appendB, viewB, List.drop, List.take, aRange, aNext, aCopy, srcB, viewG, appendG, appendI, aSlice, bnd, full3, aStore, setB, AV.leaves, AV.okv, AV.leaf, one, elemLeaves, Blk.size, Blk.len, Option.isSome, Option.isNone, aStr, aNil, aExtract, viewI, Nat.reduceEqDiff, Nat.reduceLT, Nat.reduceBEq, List.contains, List.elem, Blk.closed, Blk.noimm, ↓gsplit_tt, ↓gsplit_ff, ↓gsplit_tf, ↓gsplit_ft, ↓csplit_t, ↓csplit_f, givenUp, Blk.clean, notMs, ty, noS, Int.reduceEq, decide_true, decide_false]
      refine ⟨_, Weak.refl _, ?_⟩
      simp -implicitDefEqProofs only [evT, evD0, evD1, evD2, implies_true, forall_const, Option.getD, later_normal, aop, aLen, ev, putSlot, cv, cvl, aConv, aBin, aInt, aUn, aFn, aEq, List.length, IntKind.bits, evo, coe, List.append, List.replicate, Nat.reduceAdd, Nat.reduceSub, Nat.reduceMul, Int.reduceToNat, reduceCtorEq, aIndexAddr, aIndex, TD.aggr, aPick, aMin, aMax, Ax.Ends, rone, ↓reduceIte, List.isEmpty, Int.reducePow, Nat.reducePow, Int.reduceMod, Nat.reduceLeDiff, Int.reduceLE, Int.reduceNe, Int.reduceEq, aAppend, appendB, viewB, List.drop, List.take, aRange, aNext, aCopy, srcB, viewG, appendG, appendI, aSlice, bnd, full3, aStore, setB, AV.leaves, AV.okv, AV.leaf, one, elemLeaves, Blk.size, Blk.len, Option.isSome, Option.isNone, aStr, aNil, aExtract, viewI, Nat.reduceEqDiff, Nat.reduceLT, Nat.reduceBEq, List.contains, List.elem, Blk.closed, Blk.noimm, ↓gsplit_tt, ↓gsplit_ff, ↓gsplit_tf, ↓gsplit_ft, ↓csplit_t, ↓csplit_f, givenUp, Blk.clean, notMs, ty, noS, rnumsM, numsM, cpN, Int.reduceEq, if_true, if_false, Bool.false_eq_true]
  · exact hp.elim
end
def Srput8 (f : FuncId) : Option FSpec :=
  match f with
  | 26 => some checkS
  | 27 => some rnumS
  | 28 => some putS
  | 29 => some textS
  | _ => none
theorem Srput8_ok : Fns Try.prog Srput8 := by
  intro f s h
  unfold Srput8 at h
  split at h
  · injection h with h; subst h; exact ⟨⟨_, Try.func26, by kernel_rfl, by kernel_rfl⟩, rcheck_sound⟩
  · injection h with h; subst h; exact ⟨⟨_, Try.func27, by kernel_rfl, by kernel_rfl⟩, rnum8_sound⟩
  · injection h with h; subst h; exact ⟨⟨_, Try.func28, by kernel_rfl, by kernel_rfl⟩, rput_sound⟩
  · injection h with h; subst h; exact ⟨⟨_, Try.func29, by kernel_rfl, by kernel_rfl⟩, rtext_sound⟩
  · cases h
section
set_option maxRecDepth 100000
set_option maxHeartbeats 4000000 in
theorem rput8_sound : Sound Try.prog 11 put8S := by
  refine fn_soundW (S := Srput8) (T := ty) mixed ty_ok Srput8_ok Try.func11 (c := Try.f11.body.getD .skip) (by kernel_rfl) (by kernel_rfl) (fun xs pins hp _ => ?_)
  unfold put8S at hp ⊢
  split at hp
  · rename_i k t i nm p cp z b c _
    obtain ⟨hk0, hk1, hnl⟩ := hp
    refine ⟨by simp, ?_⟩
    unfold Try.f11
    by_cases hc : chkM ⟨k, t, i, nm, p, cp, z, b, c⟩ = 0
    · have hB : putB8 ⟨k, t, i, nm, p, cp, z, b, c⟩ = layM ⟨k, t, i, nm, p, cp, z, b, c⟩ := if_pos hc
      obtain ⟨hk6, ht, hi, hz, hb, hcc, hk⟩ := chk_rng hc
      have r1 : -9223372036854775808 ≤ t ∧ t ≤ 9223372036854775807 := by omega
      have r2 : -9223372036854775808 ≤ i ∧ i ≤ 9223372036854775807 := by omega
      have r3 : -9223372036854775808 ≤ z ∧ z ≤ 9223372036854775807 := by omega
      have r4 : -9223372036854775808 ≤ b ∧ b ≤ 9223372036854775807 := by omega
      have r5 : -9223372036854775808 ≤ c ∧ c ≤ 9223372036854775807 := by omega
      have l1 := pz_len t r1.1 r1.2
      have l2 := pz_len i r2.1 r2.2
      have l3 := pz_len z r3.1 r3.2
      have l4 := pz_len b r4.1 r4.2
      have l5 := pz_len c r5.1 r5.2
      have tk : ∀ l : List UInt8, List.take l.length l = l := fun l => List.take_length
      rw [hB]
      rcases kind_le k ⟨hk0, hk6⟩ with rfl | rfl | rfl | rfl | rfl | rfl | rfl
      · obtain ⟨hp1, hp2, hnm⟩ := hk rfl
        have r6 : -9223372036854775808 ≤ p ∧ p ≤ 9223372036854775807 := by omega
        have r7 : -9223372036854775808 ≤ cpN ⟨0, t, i, nm, p, cp, z, b, c⟩ ∧ cpN ⟨0, t, i, nm, p, cp, z, b, c⟩ ≤ 9223372036854775807 := by cases cp <;> simp [cpN]
        have l6 := pz_len p r6.1 r6.2
        have l7 := pz_len _ r7.1 r7.2
        have l8 := textL_len8 nm hnl
        have hN : rnumsM ⟨0, t, i, nm, p, cp, z, b, c⟩ = [t, p, cpN ⟨0, t, i, nm, p, cp, z, b, c⟩] := rfl
        have hL : layM ⟨0, t, i, nm, p, cp, z, b, c⟩ = UInt8.ofNat 0 :: (pz t ++ (pz p ++ (pz (cpN ⟨0, t, i, nm, p, cp, z, b, c⟩) ++ textL nm))) := by
          simp [layM, numsM]
        obtain ⟨Q, hQ⟩ : ∃ Q, cpN ⟨0, t, i, nm, p, cp, z, b, c⟩ = Q := ⟨_, rfl⟩
        rw [hQ] at r7 l7 hL hN
        simp -implicitDefEqProofs only [evT, evD0, evD1, evD2, implies_true, forall_const, Option.getD, later_normal, aop, aLen, ev, putSlot, cv, cvl, aConv, aBin, aInt, aUn, aFn, aEq, List.length, IntKind.bits, evo, coe, List.append, List.replicate, Nat.reduceAdd, Nat.reduceSub, Nat.reduceMul, Int.reduceToNat, reduceCtorEq, aIndexAddr, aIndex, TD.aggr, aPick, aMin, aMax, Ax.Ends, rone, ↓reduceIte, List.isEmpty, Int.reducePow, Nat.reducePow, Int.reduceMod, Nat.reduceLeDiff, Int.reduceLE, Int.reduceNe, Int.reduceEq, aAppend, appendB, viewB, List.drop, List.take, aRange, aNext, aCopy, srcB, viewG, appendG, appendI, aSlice, bnd, full3, aStore, setB, AV.leaves, AV.okv, AV.leaf, one, elemLeaves, Blk.size, Blk.len, Option.isSome, Option.isNone, aStr, aNil, aExtract, viewI, Nat.reduceEqDiff, Nat.reduceLT, Nat.reduceBEq, List.contains, List.elem, Blk.closed, Blk.noimm, ↓gsplit_tt, ↓gsplit_ff, ↓gsplit_tf, ↓gsplit_ft, ↓csplit_t, ↓csplit_f, givenUp, Blk.clean, notMs, -coe, coe_w, coe_str, coe_agg, coe_tup, coe_sb, coe_si, coe_cp, coe_ms, coe_rf, coe_fn, coe_cons, ty, Srput8, checkS, rnumS, putS, textS, hc, hnl, hN, Int.reduceLT, Int.reduceLE]
        refine awp_unr 6 ?_
        simp -implicitDefEqProofs only [evT, evD0, evD1, evD2, implies_true, forall_const, Option.getD, later_normal, aop, aLen, ev, putSlot, cv, cvl, aConv, aBin, aInt, aUn, aFn, aEq, List.length, IntKind.bits, evo, coe, List.append, List.replicate, Nat.reduceAdd, Nat.reduceSub, Nat.reduceMul, Int.reduceToNat, reduceCtorEq, aIndexAddr, aIndex, TD.aggr, aPick, aMin, aMax, Ax.Ends, rone, ↓reduceIte, List.isEmpty, Int.reducePow, Nat.reducePow, Int.reduceMod, Nat.reduceLeDiff, Int.reduceLE, Int.reduceNe, Int.reduceEq, aAppend, appendB, viewB, List.drop, List.take, aRange, aNext, aCopy, srcB, viewG, appendG, appendI, aSlice, bnd, full3, aStore, setB, AV.leaves, AV.okv, AV.leaf, one, elemLeaves, Blk.size, Blk.len, Option.isSome, Option.isNone, aStr, aNil, aExtract, viewI, Nat.reduceEqDiff, Nat.reduceLT, Nat.reduceBEq, List.contains, List.elem, Blk.closed, Blk.noimm, ↓gsplit_tt, ↓gsplit_ff, ↓gsplit_tf, ↓gsplit_ft, ↓csplit_t, ↓csplit_f, givenUp, Blk.clean, notMs, -coe, coe_w, coe_str, coe_agg, coe_tup, coe_sb, coe_si, coe_cp, coe_ms, coe_rf, coe_fn, coe_cons, ty, Srput8, checkS, rnumS, putS, textS, hc, hnl, hN, unr_go, unK_normal, unK_exit, unK_ret, Int.reduceAdd, Int.reduceSub, Int.reduceLT, cst, r1, r2, r3, r4, r5, r6, r7, pz_def, tk, gdI]
        repeat (refine And.intro (by unfold top; omega) ?_)
        exact ms8_ends 2 3 (by decide) rfl rfl rfl (by simp; omega) (by rw [hL]; simp) rfl
      all_goals
        simp -implicitDefEqProofs only [evT, evD0, evD1, evD2, implies_true, forall_const, Option.getD, later_normal, aop, aLen, ev, putSlot, cv, cvl, aConv, aBin, aInt, aUn, aFn, aEq, List.length, IntKind.bits, evo, coe, List.append, List.replicate, Nat.reduceAdd, Nat.reduceSub, Nat.reduceMul, Int.reduceToNat, reduceCtorEq, aIndexAddr, aIndex, TD.aggr, aPick, aMin, aMax, Ax.Ends, rone, ↓reduceIte, List.isEmpty, Int.reducePow, Nat.reducePow, Int.reduceMod, Nat.reduceLeDiff, Int.reduceLE, Int.reduceNe, Int.reduceEq, aAppend, appendB, viewB, List.drop, List.take, aRange, aNext, aCopy, srcB, viewG, appendG, appendI, aSlice, bnd, full3, aStore, setB, AV.leaves, AV.okv, AV.leaf, one, elemLeaves, Blk.size, Blk.len, Option.isSome, Option.isNone, aStr, aNil, aExtract, viewI, Nat.reduceEqDiff, Nat.reduceLT, Nat.reduceBEq, List.contains, List.elem, Blk.closed, Blk.noimm, ↓gsplit_tt, ↓gsplit_ff, ↓gsplit_tf, ↓gsplit_ft, ↓csplit_t, ↓csplit_f, givenUp, Blk.clean, notMs, -coe, coe_w, coe_str, coe_agg, coe_tup, coe_sb, coe_si, coe_cp, coe_ms, coe_rf, coe_fn, coe_cons, ty, Srput8, checkS, rnumS, rnumsM, numsM, putS, textS, hc, hnl, Int.reduceLT, Int.reduceLE, Int.reduceEq, if_true, if_false]
        refine awp_unr 6 ?_
        simp -implicitDefEqProofs only [evT, evD0, evD1, evD2, implies_true, forall_const, Option.getD, later_normal, aop, aLen, ev, putSlot, cv, cvl, aConv, aBin, aInt, aUn, aFn, aEq, List.length, IntKind.bits, evo, coe, List.append, List.replicate, Nat.reduceAdd, Nat.reduceSub, Nat.reduceMul, Int.reduceToNat, reduceCtorEq, aIndexAddr, aIndex, TD.aggr, aPick, aMin, aMax, Ax.Ends, rone, ↓reduceIte, List.isEmpty, Int.reducePow, Nat.reducePow, Int.reduceMod, Nat.reduceLeDiff, Int.reduceLE, Int.reduceNe, Int.reduceEq, aAppend, appendB, viewB, List.drop, List.take, aRange, aNext, aCopy, srcB, viewG, appendG, appendI, aSlice, bnd, full3, aStore, setB, AV.leaves, AV.okv, AV.leaf, one, elemLeaves, Blk.size, Blk.len, Option.isSome, Option.isNone, aStr, aNil, aExtract, viewI, Nat.reduceEqDiff, Nat.reduceLT, Nat.reduceBEq, List.contains, List.elem, Blk.closed, Blk.noimm, ↓gsplit_tt, ↓gsplit_ff, ↓gsplit_tf, ↓gsplit_ft, ↓csplit_t, ↓csplit_f, givenUp, Blk.clean, notMs, -coe, coe_w, coe_str, coe_agg, coe_tup, coe_sb, coe_si, coe_cp, coe_ms, coe_rf, coe_fn, coe_cons, ty, Srput8, checkS, rnumS, putS, textS, hc, hnl, unr_go, unK_normal, unK_exit, unK_ret, Int.reduceAdd, Int.reduceSub, Int.reduceLT, cst, r1, r2, r3, r4, r5, pz_def, tk, gdI]
        repeat (refine And.intro (by unfold top; omega) ?_)
        exact ms8_ends 2 3 (by decide) rfl rfl rfl (by simp; omega) (by simp [layM, numsM]) rfl
    · have hB : putB8 ⟨k, t, i, nm, p, cp, z, b, c⟩ = [] := if_neg hc
      have d1 : decide (chkM ⟨k, t, i, nm, p, cp, z, b, c⟩ = 0) = false := decide_eq_false hc
      simp -implicitDefEqProofs only [evT, evD0, evD1, evD2, implies_true, forall_const, Option.getD, later_normal, aop, aLen, ev, putSlot, cv, cvl, aConv, aBin, aInt, aUn, aFn, aEq, List.length, IntKind.bits, evo, coe, List.append, List.replicate, Nat.reduceAdd, Nat.reduceSub, Nat.reduceMul, Int.reduceToNat, reduceCtorEq, aIndexAddr, aIndex, TD.aggr, aPick, aMin, aMax, Ax.Ends, rone, ↓reduceIte, List.isEmpty, Int.reducePow, Nat.reducePow, Int.reduceMod, Nat.reduceLeDiff, Int.reduceLE, Int.reduceNe, Int.reduceEq, aAppend, appendB, viewB, List.drop, List.take, aRange, aNext, aCopy, srcB, viewG, appendG, appendI, aSlice, bnd, full3, aStore, setB, AV.leaves, AV.okv, AV.leaf, one, elemLeaves, Blk.size, Blk.len, Option.isSome, Option.isNone, aStr, aNil, aExtract, viewI, Nat.reduceEqDiff, Nat.reduceLT, Nat.reduceBEq, List.contains, List.elem, Blk.closed, Blk.noimm, ↓gsplit_tt, ↓gsplit_ff, ↓gsplit_tf, ↓gsplit_ft, ↓csplit_t, ↓csplit_f, givenUp, Blk.clean, notMs, -coe, coe_w, coe_str, coe_agg, coe_tup, coe_sb, coe_si, coe_cp, coe_ms, coe_rf, coe_fn, coe_cons, ty, Srput8, checkS, hk0, hk1, hnl, d1]
      exact msnil8_ends 2 3 (by decide) rfl rfl hB rfl
  · exact hp.elim
end
end Go.Proofs.Ytlbdhkgjhjcgiaa
