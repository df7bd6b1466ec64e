/- Layer 8: a meta is read of its bytes. -/
import Derived.Test.YtlbdhkgjhjcgiaaE6
namespace Go.Proofs.Ytlbdhkgjhjcgiaa
open Ax
set_option linter.unusedSimpArgs false
set_option linter.unusedVariables false

def getOk (b : List UInt8) : Prop := chkM (rdM b) = 0 ∧ layM (rdM b) = b
instance (b : List UInt8) : Decidable (getOk b) := by unfold getOk; infer_instance
def zM : Mt := ⟨0, 0, 0, [], 0, false, 0, 0, 0⟩
def getMt (b : List UInt8) : Mt := if getOk b then rdM b else zM
def getA (b : List UInt8) : AV := mtA (getMt b)
def get8S : FSpec
  | [.sb b f], [] => ⟨b.length ≤ 1000000, .tup [getA b, .w (.int .i64 (if getOk b then 0 else 4))], []⟩
  | _, _ => noRes
def eqB8 : FSpec
  | [.sb a f, .sb b g], [] => ⟨True, .w (.bool (decide (a = b))), []⟩
  | _, _ => noRes
theorem rK_rng (b : List UInt8) : 0 ≤ rK b ∧ rK b < 256 := by unfold rK; omega
theorem rdM_k (b : List UInt8) : (rdM b).k = rK b := by
  unfold rdM
  repeat' split
  all_goals simp_all
theorem get_done {b : List UInt8} (h : getOk b) : rdQ b = ([], 0) := by
  have h1 := (rd_lay (rdM b) h.1 (by rw [rdM_k]; exact (rK_rng b).1) []).2
  rw [List.append_nil, h.2] at h1; exact h1
theorem get_cases (b : List UInt8) {M : Mt} (hM : rdM b = M) {L : List UInt8} {E D C : Int} {W : List UInt8} (hQ : rdQ b = (L, E)) (hD : (if E = 0 ∧ 0 < L.length then (4 : Int) else E) = D) (hC : chkM M = C) (hW : putB8 M = W) :
    (getOk b ∧ decide (D = 0) = true ∧ decide (C = 0) = true ∧ decide (W = b) = true) ∨ (¬ getOk b ∧ decide (D = 0) = false) ∨ (¬ getOk b ∧ decide (D = 0) = true ∧ decide (C = 0) = false) ∨ (¬ getOk b ∧ decide (D = 0) = true ∧ decide (C = 0) = true ∧ decide (W = b) = false) := by
  subst hM hC hW hD
  by_cases hg : getOk b
  · have h1 := get_done hg
    rw [hQ] at h1
    injection h1 with h1 h2
    subst h1 h2
    have h3 : putB8 (rdM b) = b := by unfold putB8; rw [if_pos hg.1]; exact hg.2
    exact .inl ⟨hg, by simp, decide_eq_true hg.1, decide_eq_true h3⟩
  · by_cases h1 : (if E = 0 ∧ 0 < L.length then (4 : Int) else E) = 0
    · by_cases h2 : chkM (rdM b) = 0
      · by_cases h3 : putB8 (rdM b) = b
        · unfold putB8 at h3; rw [if_pos h2] at h3; exact (hg ⟨h2, h3⟩).elim
        · exact .inr (.inr (.inr ⟨hg, decide_eq_true h1, decide_eq_true h2, decide_eq_false h3⟩))
      · exact .inr (.inr (.inl ⟨hg, decide_eq_true h1, decide_eq_false h2⟩))
    · exact .inr (.inl ⟨hg, decide_eq_false h1⟩)
theorem rget_cases (b : List UInt8) {M : Mt} (hM : rK b ≤ 6 → rdM b = M) (hM2 : 6 < rK b → 6 < M.k) {C : Int} {W : List UInt8} (hC : chkM M = C) (hW : putB8 M = W) :
    (getOk b ∧ decide (C = 0) = true ∧ decide (W = b) = true) ∨ (¬ getOk b ∧ decide (C = 0) = false) ∨ (¬ getOk b ∧ decide (C = 0) = true ∧ decide (W = b) = false) := by
  subst hC hW
  by_cases hk : rK b ≤ 6
  · have hM := hM hk
    subst hM
    by_cases h2 : chkM (rdM b) = 0
    · by_cases h3 : putB8 (rdM b) = b
      · have h4 := h3
        unfold putB8 at h4; rw [if_pos h2] at h4
        exact .inl ⟨⟨h2, h4⟩, decide_eq_true h2, decide_eq_true h3⟩
      · refine .inr (.inr ⟨fun hg => h3 ?_, decide_eq_true h2, decide_eq_false h3⟩)
        unfold putB8; rw [if_pos hg.1]; exact hg.2
    · exact .inr (.inl ⟨fun hg => h2 hg.1, decide_eq_false h2⟩)
  · have h6 := hM2 (by omega)
    have hc : chkM M = 22 := by unfold chkM; rw [if_pos h6]
    refine .inr (.inl ⟨fun hg => ?_, decide_eq_false (by omega)⟩)
    have := (chk_ok hg.1).1
    rw [rdM_k] at this; omega
theorem tkL_len8 (n : Int) (bs : List UInt8) : (tkL n bs).length ≤ bs.length := by unfold tkL; split <;> simp
theorem rfixL_len8 (n : Int) (bs : List UInt8) (e : Int) : (rfixL n bs e).length ≤ bs.length := by
  unfold rfixL; split
  · exact tkL_len8 _ _
  · exact Nat.le_refl _
theorem tkB_len8 (n : Int) (bs : List UInt8) : (tkB n bs).length ≤ bs.length := by
  unfold tkB; split
  · simp
  · rw [List.length_take]; omega
theorem rtS_len8 (m : Int) (bs : List UInt8) (e : Int) : (rtS' m bs e).length ≤ bs.length := by
  unfold rtS'; split
  · exact Nat.le_trans (tkB_len8 _ _) (numL_length _ _)
  · simp
section
set_option maxRecDepth 100000
theorem eqB8_sound : Sound Try.prog 37 eqB8 := by
  refine fn_sound (S := noS) (T := ty) mixed ty_ok noS_ok Try.func37 (c := Try.f37.body.getD .skip) (by kernel_rfl) (by kernel_rfl) (fun xs pins hp _ => ?_)
  unfold eqB8 at hp ⊢
  split at hp
  · rename_i a f b g _
    refine ⟨by simp, ?_⟩
    unfold Try.f37
    simp -implicitDefEqProofs only [evT, evD0, evD1, evD2, implies_true, forall_const, Option.getD, later_normal, aop, aLen, ev, putSlot, cv, cvl, aConv, aBin, aInt, aUn, aFn, aEq, List.length, IntKind.bits, evo, coe, List.append, List.replicate, Nat.reduceAdd, Nat.reduceSub, Nat.reduceMul, Int.reduceToNat, reduceCtorEq, aIndexAddr, aIndex, TD.aggr, aPick, aMin, aMax, Ax.Ends, rone, ↓reduceIte, List.isEmpty, Int.reducePow, Nat.reducePow, Int.reduceMod, Nat.reduceLeDiff, Int.reduceLE, Int.reduceNe, Int.reduceEq, aAppend, appendB, viewB, List.drop, List.take, aRange, aNext, aCopy, srcB, viewG, appendG, appendI, aSlice, bnd, full3, aStore, setB, AV.leaves, AV.okv, AV.leaf, one, elemLeaves, Blk.size, Blk.len, Option.isSome, Option.isNone, aStr, aNil, aExtract, viewI, Nat.reduceEqDiff, Nat.reduceLT, Nat.reduceBEq, List.contains, List.elem, Blk.closed, Blk.noimm, ↓gsplit_tt, ↓gsplit_ff, ↓gsplit_tf, ↓gsplit_ft, ↓csplit_t, ↓csplit_f, givenUp, Blk.clean, notMs, -coe, coe_w, coe_str, coe_agg, coe_tup, coe_sb, coe_si, coe_cp, coe_ms, coe_rf, coe_fn, coe_cons, ty, noS]
  · exact hp.elim
end
def Sget8 (f : FuncId) : Option FSpec :=
  match f with
  | 32 => some newS
  | 33 => some rfixS
  | 34 => some numS
  | 35 => some rtextS'
  | 36 => some doneS
  | 10 => some put8S
  | 37 => some eqB8
  | _ => none
theorem Sget8_ok : Fns Try.prog Sget8 := by
  intro f s h
  unfold Sget8 at h
  split at h
  · injection h with h; subst h; exact ⟨⟨_, Try.func32, by kernel_rfl, by kernel_rfl⟩, new_sound⟩
  · injection h with h; subst h; exact ⟨⟨_, Try.func33, by kernel_rfl, by kernel_rfl⟩, mfixed_sound⟩
  · injection h with h; subst h; exact ⟨⟨_, Try.func34, by kernel_rfl, by kernel_rfl⟩, num_sound⟩
  · injection h with h; subst h; exact ⟨⟨_, Try.func35, by kernel_rfl, by kernel_rfl⟩, mtext_sound⟩
  · injection h with h; subst h; exact ⟨⟨_, Try.func36, by kernel_rfl, by kernel_rfl⟩, done_sound⟩
  · injection h with h; subst h; exact ⟨⟨_, Try.func10, by kernel_rfl, by kernel_rfl⟩, put8_sound⟩
  · injection h with h; subst h; exact ⟨⟨_, Try.func37, by kernel_rfl, by kernel_rfl⟩, eqB8_sound⟩
  · cases h
def get8Pl : XPlan := fun id => match id with
  | 3 => .opn [] 0
  | _ => .std
section
set_option maxRecDepth 100000
set_option maxHeartbeats 4000000 in
theorem get8_k0 (b : List UInt8) (f : Bool) (hb : b.length ≤ 1000000) (hK : rK b = 0) :
    awpO Sget8 Ojust ty get8Pl (Try.f16.body.getD .skip) (EndsW ty Try.f16.results.toList [] (get8S [.sb b f] [])) ⟨[AV.sb b f] ++ List.replicate (Try.f16.ntmps - [AV.sb b f].length) .junk, pinHeap 0 [], 4⟩ := by
  have hK' : rfixN 1 b 0 % 256 = 0 := hK
  obtain ⟨b0, hb0⟩ : ∃ x, rfixL 1 b 0 = x := ⟨_, rfl⟩
  obtain ⟨e0, he0⟩ : ∃ x, rfixE 1 b 0 = x := ⟨_, rfl⟩
  have hl0 : b0.length ≤ 1000000 := by have := rfixL_len8 1 b 0; rw [hb0] at this; omega
  have q0 : rq0 b = (b0, e0) := by unfold rq0; rw [hb0, he0]
  obtain ⟨n0, hn0⟩ : ∃ x, numN b0 e0 = x := ⟨_, rfl⟩
  obtain ⟨b1, hb1⟩ : ∃ x, numL b0 e0 = x := ⟨_, rfl⟩
  obtain ⟨e1, he1⟩ : ∃ x, numE b0 e0 = x := ⟨_, rfl⟩
  have hl1 : b1.length ≤ 1000000 := by have := numL_length b0 e0; rw [hb1] at this; omega
  have q1 : rq1 b = (b1, e1) := by unfold rq1; rw [q0]; unfold rst; simp only [hb1, he1]
  have w0 : rnu (rq0 b) = n0 := by rw [q0]; exact hn0
  obtain ⟨n1, hn1⟩ : ∃ x, numN b1 e1 = x := ⟨_, rfl⟩
  obtain ⟨b2, hb2⟩ : ∃ x, numL b1 e1 = x := ⟨_, rfl⟩
  obtain ⟨e2, he2⟩ : ∃ x, numE b1 e1 = x := ⟨_, rfl⟩
  have hl2 : b2.length ≤ 1000000 := by have := numL_length b1 e1; rw [hb2] at this; omega
  have q2 : rq2 b = (b2, e2) := by unfold rq2; rw [q1]; unfold rst; simp only [hb2, he2]
  have w1 : rnu (rq1 b) = n1 := by rw [q1]; exact hn1
  obtain ⟨n2, hn2⟩ : ∃ x, numN b2 e2 = x := ⟨_, rfl⟩
  obtain ⟨b3, hb3⟩ : ∃ x, numL b2 e2 = x := ⟨_, rfl⟩
  obtain ⟨e3, he3⟩ : ∃ x, numE b2 e2 = x := ⟨_, rfl⟩
  have hl3 : b3.length ≤ 1000000 := by have := numL_length b2 e2; rw [hb3] at this; omega
  have q3 : rq3 b = (b3, e3) := by unfold rq3; rw [q2]; unfold rst; simp only [hb3, he3]
  have w2 : rnu (rq2 b) = n2 := by rw [q2]; exact hn2
  obtain ⟨s, hS⟩ : ∃ x, rtS' 32 b3 e3 = x := ⟨_, rfl⟩
  obtain ⟨b4, hb4⟩ : ∃ x, rtL 32 b3 e3 = x := ⟨_, rfl⟩
  obtain ⟨e4, he4⟩ : ∃ x, rtE 32 b3 e3 = x := ⟨_, rfl⟩
  have hsl : s.length ≤ 1000000 := by have := rtS_len8 32 b3 e3; rw [hS] at this; omega
  have hM : rdM b = ⟨0, n0, 0, s, n1, decide (n2 = 1), 0, 0, 0⟩ := by unfold rdM; rw [hK]; simp only [Int.reduceEq, if_true, if_false, w0, w1, w2, q3, hS]
  have hQ : rdQ b = (b4, e4) := by unfold rdQ; rw [hK]; simp only [Int.reduceEq, if_true, if_false]; rw [q3]; simp only [hb4, he4]
  obtain ⟨D, hD⟩ : ∃ x, (if e4 = 0 ∧ 0 < b4.length then (4 : Int) else e4) = x := ⟨_, rfl⟩
  obtain ⟨C, hC⟩ : ∃ x, chkM ⟨0, n0, 0, s, n1, decide (n2 = 1), 0, 0, 0⟩ = x := ⟨_, rfl⟩
  obtain ⟨W, hW⟩ : ∃ x, putB8 ⟨0, n0, 0, s, n1, decide (n2 = 1), 0, 0, 0⟩ = x := ⟨_, rfl⟩
  have hcase := get_cases b hM hQ hD hC hW
  have tk : ∀ l : List UInt8, List.take l.length l = l := fun l => List.take_length
  have hVok : getOk b → getA b = mtA ⟨0, n0, 0, s, n1, decide (n2 = 1), 0, 0, 0⟩ ∧ (if getOk b then (0 : Int) else 4) = 0 := by
    intro h; unfold getA getMt; rw [if_pos h, if_pos h, hM]; exact ⟨rfl, rfl⟩
  have hVno : ¬ getOk b → getA b = mtA zM ∧ (if getOk b then (0 : Int) else 4) = 4 := by
    intro h; unfold getA getMt; rw [if_neg h, if_neg h]; exact ⟨rfl, rfl⟩
  unfold Try.f16
  rcases hcase with X | X | X | X
  · obtain ⟨v1, v2⟩ := hVok X.1
    simp -implicitDefEqProofs only [evT, evD0, evD1, evD2, implies_true, forall_const, Option.getD, later_normal, aop, aLen, ev, putSlot, cv, cvl, aConv, aBin, aInt, aUn, aFn, aEq, List.length, IntKind.bits, evo, coe, List.append, List.replicate, Nat.reduceAdd, Nat.reduceSub, Nat.reduceMul, Int.reduceToNat, reduceCtorEq, aIndexAddr, aIndex, TD.aggr, aPick, aMin, aMax, Ax.Ends, rone, ↓reduceIte, List.isEmpty, Int.reducePow, Nat.reducePow, Int.reduceMod, Nat.reduceLeDiff, Int.reduceLE, Int.reduceNe, Int.reduceEq, aAppend, appendB, viewB, List.drop, List.take, aRange, aNext, aCopy, srcB, viewG, appendG, appendI, aSlice, bnd, full3, aStore, setB, AV.leaves, AV.okv, AV.leaf, one, elemLeaves, Blk.size, Blk.len, Option.isSome, Option.isNone, aStr, aNil, aExtract, viewI, Nat.reduceEqDiff, Nat.reduceLT, Nat.reduceBEq, List.contains, List.elem, Blk.closed, Blk.noimm, ↓gsplit_tt, ↓gsplit_ff, ↓gsplit_tf, ↓gsplit_ft, ↓csplit_t, ↓csplit_f, givenUp, Blk.clean, notMs, evDO, evTO, evTP, laterO_normal, ↓frzK_def, Blk.fz, Blk.fg, ↓openKO_def, openOp, Blk.isGone, Blk.idsB, Blk.sidsB, Blk.ren, EndsO, Blk.ids, Op.operands, Call.operands, List.map_cons, List.map_nil, List.toList_toArray, Array.toList_append, Option.toArray_some, Option.toArray_none, Bool.and_self, -coe, coe_w, coe_str, coe_agg, coe_tup, coe_sb, coe_si, coe_cp, coe_ms, coe_rf, coe_fn, coe_cons, ty, Sget8, Ojust, get8Pl, get8S, newS, rfixS, numS, rtextS', doneS, put8S, eqB8, numbersO, rd, hb, hK', numF, hb0, he0, hl0, hn0, hb1, he1, hl1, hn1, hb2, he2, hl2, hn2, hb3, he3, hl3, hS, hb4, he4, hsl, hC, hW, hD, tk, List.length_nil, Nat.zero_le, Int.reduceLT, Int.reduceLE, fillS]
    refine awpO_unr 6 ?_
    simp -implicitDefEqProofs only [evT, evD0, evD1, evD2, implies_true, forall_const, Option.getD, later_normal, aop, aLen, ev, putSlot, cv, cvl, aConv, aBin, aInt, aUn, aFn, aEq, List.length, IntKind.bits, evo, coe, List.append, List.replicate, Nat.reduceAdd, Nat.reduceSub, Nat.reduceMul, Int.reduceToNat, reduceCtorEq, aIndexAddr, aIndex, TD.aggr, aPick, aMin, aMax, Ax.Ends, rone, ↓reduceIte, List.isEmpty, Int.reducePow, Nat.reducePow, Int.reduceMod, Nat.reduceLeDiff, Int.reduceLE, Int.reduceNe, Int.reduceEq, aAppend, appendB, viewB, List.drop, List.take, aRange, aNext, aCopy, srcB, viewG, appendG, appendI, aSlice, bnd, full3, aStore, setB, AV.leaves, AV.okv, AV.leaf, one, elemLeaves, Blk.size, Blk.len, Option.isSome, Option.isNone, aStr, aNil, aExtract, viewI, Nat.reduceEqDiff, Nat.reduceLT, Nat.reduceBEq, List.contains, List.elem, Blk.closed, Blk.noimm, ↓gsplit_tt, ↓gsplit_ff, ↓gsplit_tf, ↓gsplit_ft, ↓csplit_t, ↓csplit_f, givenUp, Blk.clean, notMs, evDO, evTO, evTP, laterO_normal, ↓frzK_def, Blk.fz, Blk.fg, ↓openKO_def, openOp, Blk.isGone, Blk.idsB, Blk.sidsB, Blk.ren, EndsO, Blk.ids, Op.operands, Call.operands, List.map_cons, List.map_nil, List.toList_toArray, Array.toList_append, Option.toArray_some, Option.toArray_none, Bool.and_self, -coe, coe_w, coe_str, coe_agg, coe_tup, coe_sb, coe_si, coe_cp, coe_ms, coe_rf, coe_fn, coe_cons, ty, Sget8, Ojust, get8Pl, get8S, newS, rfixS, numS, rtextS', doneS, put8S, eqB8, numbersO, rd, hb, hK', numF, hb0, he0, hl0, hn0, hb1, he1, hl1, hn1, hb2, he2, hl2, hn2, hb3, he3, hl3, hS, hb4, he4, hsl, hC, hW, hD, tk, List.length_nil, Nat.zero_le, Int.reduceLT, Int.reduceLE, fillS, unrO_go, unK_normal, unK_exit, unK_ret, Int.reduceAdd, Int.reduceSub, cst, X.2, v1, v2, mtA]
    repeat (refine And.intro (by first | omega | (clear hb0 he0; omega)) ?_)
    refine ⟨_, Weak.refl _, ?_⟩
    simp -implicitDefEqProofs only [evT, evD0, evD1, evD2, implies_true, forall_const, Option.getD, later_normal, aop, aLen, ev, putSlot, cv, cvl, aConv, aBin, aInt, aUn, aFn, aEq, List.length, IntKind.bits, evo, coe, List.append, List.replicate, Nat.reduceAdd, Nat.reduceSub, Nat.reduceMul, Int.reduceToNat, reduceCtorEq, aIndexAddr, aIndex, TD.aggr, aPick, aMin, aMax, Ax.Ends, rone, ↓reduceIte, List.isEmpty, Int.reducePow, Nat.reducePow, Int.reduceMod, Nat.reduceLeDiff, Int.reduceLE, Int.reduceNe, Int.reduceEq, aAppend, appendB, viewB, List.drop, List.take, aRange, aNext, aCopy, srcB, viewG, appendG, appendI, aSlice, bnd, full3, aStore, setB, AV.leaves, AV.okv, AV.leaf, one, elemLeaves, Blk.size, Blk.len, Option.isSome, Option.isNone, aStr, aNil, aExtract, viewI, Nat.reduceEqDiff, Nat.reduceLT, Nat.reduceBEq, List.contains, List.elem, Blk.closed, Blk.noimm, ↓gsplit_tt, ↓gsplit_ff, ↓gsplit_tf, ↓gsplit_ft, ↓csplit_t, ↓csplit_f, givenUp, Blk.clean, notMs, evDO, evTO, evTP, laterO_normal, ↓frzK_def, Blk.fz, Blk.fg, ↓openKO_def, openOp, Blk.isGone, Blk.idsB, Blk.sidsB, Blk.ren, EndsO, Blk.ids, Op.operands, Call.operands, List.map_cons, List.map_nil, List.toList_toArray, Array.toList_append, Option.toArray_some, Option.toArray_none, Bool.and_self, -coe, coe_w, coe_str, coe_agg, coe_tup, coe_sb, coe_si, coe_cp, coe_ms, coe_rf, coe_fn, coe_cons, ty, mtA, v1, v2]
  all_goals
    obtain ⟨v1, v2⟩ := hVno X.1
    simp -implicitDefEqProofs only [evT, evD0, evD1, evD2, implies_true, forall_const, Option.getD, later_normal, aop, aLen, ev, putSlot, cv, cvl, aConv, aBin, aInt, aUn, aFn, aEq, List.length, IntKind.bits, evo, coe, List.append, List.replicate, Nat.reduceAdd, Nat.reduceSub, Nat.reduceMul, Int.reduceToNat, reduceCtorEq, aIndexAddr, aIndex, TD.aggr, aPick, aMin, aMax, Ax.Ends, rone, ↓reduceIte, List.isEmpty, Int.reducePow, Nat.reducePow, Int.reduceMod, Nat.reduceLeDiff, Int.reduceLE, Int.reduceNe, Int.reduceEq, aAppend, appendB, viewB, List.drop, List.take, aRange, aNext, aCopy, srcB, viewG, appendG, appendI, aSlice, bnd, full3, aStore, setB, AV.leaves, AV.okv, AV.leaf, one, elemLeaves, Blk.size, Blk.len, Option.isSome, Option.isNone, aStr, aNil, aExtract, viewI, Nat.reduceEqDiff, Nat.reduceLT, Nat.reduceBEq, List.contains, List.elem, Blk.closed, Blk.noimm, ↓gsplit_tt, ↓gsplit_ff, ↓gsplit_tf, ↓gsplit_ft, ↓csplit_t, ↓csplit_f, givenUp, Blk.clean, notMs, evDO, evTO, evTP, laterO_normal, ↓frzK_def, Blk.fz, Blk.fg, ↓openKO_def, openOp, Blk.isGone, Blk.idsB, Blk.sidsB, Blk.ren, EndsO, Blk.ids, Op.operands, Call.operands, List.map_cons, List.map_nil, List.toList_toArray, Array.toList_append, Option.toArray_some, Option.toArray_none, Bool.and_self, -coe, coe_w, coe_str, coe_agg, coe_tup, coe_sb, coe_si, coe_cp, coe_ms, coe_rf, coe_fn, coe_cons, ty, Sget8, Ojust, get8Pl, get8S, newS, rfixS, numS, rtextS', doneS, put8S, eqB8, numbersO, rd, hb, hK', numF, hb0, he0, hl0, hn0, hb1, he1, hl1, hn1, hb2, he2, hl2, hn2, hb3, he3, hl3, hS, hb4, he4, hsl, hC, hW, hD, tk, List.length_nil, Nat.zero_le, Int.reduceLT, Int.reduceLE, fillS]
    refine awpO_unr 6 ?_
    simp -implicitDefEqProofs only [evT, evD0, evD1, evD2, implies_true, forall_const, Option.getD, later_normal, aop, aLen, ev, putSlot, cv, cvl, aConv, aBin, aInt, aUn, aFn, aEq, List.length, IntKind.bits, evo, coe, List.append, List.replicate, Nat.reduceAdd, Nat.reduceSub, Nat.reduceMul, Int.reduceToNat, reduceCtorEq, aIndexAddr, aIndex, TD.aggr, aPick, aMin, aMax, Ax.Ends, rone, ↓reduceIte, List.isEmpty, Int.reducePow, Nat.reducePow, Int.reduceMod, Nat.reduceLeDiff, Int.reduceLE, Int.reduceNe, Int.reduceEq, aAppend, appendB, viewB, List.drop, List.take, aRange, aNext, aCopy, srcB, viewG, appendG, appendI, aSlice, bnd, full3, aStore, setB, AV.leaves, AV.okv, AV.leaf, one, elemLeaves, Blk.size, Blk.len, Option.isSome, Option.isNone, aStr, aNil, aExtract, viewI, Nat.reduceEqDiff, Nat.reduceLT, Nat.reduceBEq, List.contains, List.elem, Blk.closed, Blk.noimm, ↓gsplit_tt, ↓gsplit_ff, ↓gsplit_tf, ↓gsplit_ft, ↓csplit_t, ↓csplit_f, givenUp, Blk.clean, notMs, evDO, evTO, evTP, laterO_normal, ↓frzK_def, Blk.fz, Blk.fg, ↓openKO_def, openOp, Blk.isGone, Blk.idsB, Blk.sidsB, Blk.ren, EndsO, Blk.ids, Op.operands, Call.operands, List.map_cons, List.map_nil, List.toList_toArray, Array.toList_append, Option.toArray_some, Option.toArray_none, Bool.and_self, -coe, coe_w, coe_str, coe_agg, coe_tup, coe_sb, coe_si, coe_cp, coe_ms, coe_rf, coe_fn, coe_cons, ty, Sget8, Ojust, get8Pl, get8S, newS, rfixS, numS, rtextS', doneS, put8S, eqB8, numbersO, rd, hb, hK', numF, hb0, he0, hl0, hn0, hb1, he1, hl1, hn1, hb2, he2, hl2, hn2, hb3, he3, hl3, hS, hb4, he4, hsl, hC, hW, hD, tk, List.length_nil, Nat.zero_le, Int.reduceLT, Int.reduceLE, fillS, unrO_go, unK_normal, unK_exit, unK_ret, Int.reduceAdd, Int.reduceSub, cst, X.2, v1, v2, mtA, zM]
    repeat (refine And.intro (by first | omega | (clear hb0 he0; omega)) ?_)
    refine ⟨_, Weak.refl _, ?_⟩
    simp -implicitDefEqProofs only [evT, evD0, evD1, evD2, implies_true, forall_const, Option.getD, later_normal, aop, aLen, ev, putSlot, cv, cvl, aConv, aBin, aInt, aUn, aFn, aEq, List.length, IntKind.bits, evo, coe, List.append, List.replicate, Nat.reduceAdd, Nat.reduceSub, Nat.reduceMul, Int.reduceToNat, reduceCtorEq, aIndexAddr, aIndex, TD.aggr, aPick, aMin, aMax, Ax.Ends, rone, ↓reduceIte, List.isEmpty, Int.reducePow, Nat.reducePow, Int.reduceMod, Nat.reduceLeDiff, Int.reduceLE, Int.reduceNe, Int.reduceEq, aAppend, appendB, viewB, List.drop, List.take, aRange, aNext, aCopy, srcB, viewG, appendG, appendI, aSlice, bnd, full3, aStore, setB, AV.leaves, AV.okv, AV.leaf, one, elemLeaves, Blk.size, Blk.len, Option.isSome, Option.isNone, aStr, aNil, aExtract, viewI, Nat.reduceEqDiff, Nat.reduceLT, Nat.reduceBEq, List.contains, List.elem, Blk.closed, Blk.noimm, ↓gsplit_tt, ↓gsplit_ff, ↓gsplit_tf, ↓gsplit_ft, ↓csplit_t, ↓csplit_f, givenUp, Blk.clean, notMs, evDO, evTO, evTP, laterO_normal, ↓frzK_def, Blk.fz, Blk.fg, ↓openKO_def, openOp, Blk.isGone, Blk.idsB, Blk.sidsB, Blk.ren, EndsO, Blk.ids, Op.operands, Call.operands, List.map_cons, List.map_nil, List.toList_toArray, Array.toList_append, Option.toArray_some, Option.toArray_none, Bool.and_self, -coe, coe_w, coe_str, coe_agg, coe_tup, coe_sb, coe_si, coe_cp, coe_ms, coe_rf, coe_fn, coe_cons, ty, mtA, zM, v1, v2]
set_option maxHeartbeats 4000000 in
theorem get8_k1 (b : List UInt8) (f : Bool) (hb : b.length ≤ 1000000) (hK : rK b = 1) :
    awpO Sget8 Ojust ty get8Pl (Try.f16.body.getD .skip) (EndsW ty Try.f16.results.toList [] (get8S [.sb b f] [])) ⟨[AV.sb b f] ++ List.replicate (Try.f16.ntmps - [AV.sb b f].length) .junk, pinHeap 0 [], 4⟩ := by
  have hK' : rfixN 1 b 0 % 256 = 1 := hK
  obtain ⟨b0, hb0⟩ : ∃ x, rfixL 1 b 0 = x := ⟨_, rfl⟩
  obtain ⟨e0, he0⟩ : ∃ x, rfixE 1 b 0 = x := ⟨_, rfl⟩
  have hl0 : b0.length ≤ 1000000 := by have := rfixL_len8 1 b 0; rw [hb0] at this; omega
  have q0 : rq0 b = (b0, e0) := by unfold rq0; rw [hb0, he0]
  obtain ⟨n0, hn0⟩ : ∃ x, numN b0 e0 = x := ⟨_, rfl⟩
  obtain ⟨b1, hb1⟩ : ∃ x, numL b0 e0 = x := ⟨_, rfl⟩
  obtain ⟨e1, he1⟩ : ∃ x, numE b0 e0 = x := ⟨_, rfl⟩
  have hl1 : b1.length ≤ 1000000 := by have := numL_length b0 e0; rw [hb1] at this; omega
  have q1 : rq1 b = (b1, e1) := by unfold rq1; rw [q0]; unfold rst; simp only [hb1, he1]
  have w0 : rnu (rq0 b) = n0 := by rw [q0]; exact hn0
  have hM : rdM b = ⟨1, n0, 0, [], 0, false, 0, 0, 0⟩ := by unfold rdM; rw [hK]; simp only [Int.reduceEq, if_true, if_false, w0]
  have hQ : rdQ b = (b1, e1) := by unfold rdQ; rw [hK]; simp only [Int.reduceEq, if_true, if_false]; exact q1
  obtain ⟨D, hD⟩ : ∃ x, (if e1 = 0 ∧ 0 < b1.length then (4 : Int) else e1) = x := ⟨_, rfl⟩
  obtain ⟨C, hC⟩ : ∃ x, chkM ⟨1, n0, 0, [], 0, false, 0, 0, 0⟩ = x := ⟨_, rfl⟩
  obtain ⟨W, hW⟩ : ∃ x, putB8 ⟨1, n0, 0, [], 0, false, 0, 0, 0⟩ = x := ⟨_, rfl⟩
  have hcase := get_cases b hM hQ hD hC hW
  have tk : ∀ l : List UInt8, List.take l.length l = l := fun l => List.take_length
  have hVok : getOk b → getA b = mtA ⟨1, n0, 0, [], 0, false, 0, 0, 0⟩ ∧ (if getOk b then (0 : Int) else 4) = 0 := by
    intro h; unfold getA getMt; rw [if_pos h, if_pos h, hM]; exact ⟨rfl, rfl⟩
  have hVno : ¬ getOk b → getA b = mtA zM ∧ (if getOk b then (0 : Int) else 4) = 4 := by
    intro h; unfold getA getMt; rw [if_neg h, if_neg h]; exact ⟨rfl, rfl⟩
  unfold Try.f16
  rcases hcase with X | X | X | X
  · obtain ⟨v1, v2⟩ := hVok X.1
    simp -implicitDefEqProofs only [evT, evD0, evD1, evD2, implies_true, forall_const, Option.getD, later_normal, aop, aLen, ev, putSlot, cv, cvl, aConv, aBin, aInt, aUn, aFn, aEq, List.length, IntKind.bits, evo, coe, List.append, List.replicate, Nat.reduceAdd, Nat.reduceSub, Nat.reduceMul, Int.reduceToNat, reduceCtorEq, aIndexAddr, aIndex, TD.aggr, aPick, aMin, aMax, Ax.Ends, rone, ↓reduceIte, List.isEmpty, Int.reducePow, Nat.reducePow, Int.reduceMod, Nat.reduceLeDiff, Int.reduceLE, Int.reduceNe, Int.reduceEq, aAppend, appendB, viewB, List.drop, List.take, aRange, aNext, aCopy, srcB, viewG, appendG, appendI, aSlice, bnd, full3, aStore, setB, AV.leaves, AV.okv, AV.leaf, one, elemLeaves, Blk.size, Blk.len, Option.isSome, Option.isNone, aStr, aNil, aExtract, viewI, Nat.reduceEqDiff, Nat.reduceLT, Nat.reduceBEq, List.contains, List.elem, Blk.closed, Blk.noimm, ↓gsplit_tt, ↓gsplit_ff, ↓gsplit_tf, ↓gsplit_ft, ↓csplit_t, ↓csplit_f, givenUp, Blk.clean, notMs, evDO, evTO, evTP, laterO_normal, ↓frzK_def, Blk.fz, Blk.fg, ↓openKO_def, openOp, Blk.isGone, Blk.idsB, Blk.sidsB, Blk.ren, EndsO, Blk.ids, Op.operands, Call.operands, List.map_cons, List.map_nil, List.toList_toArray, Array.toList_append, Option.toArray_some, Option.toArray_none, Bool.and_self, -coe, coe_w, coe_str, coe_agg, coe_tup, coe_sb, coe_si, coe_cp, coe_ms, coe_rf, coe_fn, coe_cons, ty, Sget8, Ojust, get8Pl, get8S, newS, rfixS, numS, rtextS', doneS, put8S, eqB8, numbersO, rd, hb, hK', numF, hb0, he0, hl0, hn0, hb1, he1, hl1, hC, hW, hD, tk, List.length_nil, Nat.zero_le, Int.reduceLT, Int.reduceLE, fillS]
    refine awpO_unr 6 ?_
    simp -implicitDefEqProofs only [evT, evD0, evD1, evD2, implies_true, forall_const, Option.getD, later_normal, aop, aLen, ev, putSlot, cv, cvl, aConv, aBin, aInt, aUn, aFn, aEq, List.length, IntKind.bits, evo, coe, List.append, List.replicate, Nat.reduceAdd, Nat.reduceSub, Nat.reduceMul, Int.reduceToNat, reduceCtorEq, aIndexAddr, aIndex, TD.aggr, aPick, aMin, aMax, Ax.Ends, rone, ↓reduceIte, List.isEmpty, Int.reducePow, Nat.reducePow, Int.reduceMod, Nat.reduceLeDiff, Int.reduceLE, Int.reduceNe, Int.reduceEq, aAppend, appendB, viewB, List.drop, List.take, aRange, aNext, aCopy, srcB, viewG, appendG, appendI, aSlice, bnd, full3, aStore, setB, AV.leaves, AV.okv, AV.leaf, one, elemLeaves, Blk.size, Blk.len, Option.isSome, Option.isNone, aStr, aNil, aExtract, viewI, Nat.reduceEqDiff, Nat.reduceLT, Nat.reduceBEq, List.contains, List.elem, Blk.closed, Blk.noimm, ↓gsplit_tt, ↓gsplit_ff, ↓gsplit_tf, ↓gsplit_ft, ↓csplit_t, ↓csplit_f, givenUp, Blk.clean, notMs, evDO, evTO, evTP, laterO_normal, ↓frzK_def, Blk.fz, Blk.fg, ↓openKO_def, openOp, Blk.isGone, Blk.idsB, Blk.sidsB, Blk.ren, EndsO, Blk.ids, Op.operands, Call.operands, List.map_cons, List.map_nil, List.toList_toArray, Array.toList_append, Option.toArray_some, Option.toArray_none, Bool.and_self, -coe, coe_w, coe_str, coe_agg, coe_tup, coe_sb, coe_si, coe_cp, coe_ms, coe_rf, coe_fn, coe_cons, ty, Sget8, Ojust, get8Pl, get8S, newS, rfixS, numS, rtextS', doneS, put8S, eqB8, numbersO, rd, hb, hK', numF, hb0, he0, hl0, hn0, hb1, he1, hl1, hC, hW, hD, tk, List.length_nil, Nat.zero_le, Int.reduceLT, Int.reduceLE, fillS, unrO_go, unK_normal, unK_exit, unK_ret, Int.reduceAdd, Int.reduceSub, cst, X.2, v1, v2, mtA]
    repeat (refine And.intro (by first | omega | (clear hb0 he0; omega)) ?_)
    refine ⟨_, Weak.refl _, ?_⟩
    simp -implicitDefEqProofs only [evT, evD0, evD1, evD2, implies_true, forall_const, Option.getD, later_normal, aop, aLen, ev, putSlot, cv, cvl, aConv, aBin, aInt, aUn, aFn, aEq, List.length, IntKind.bits, evo, coe, List.append, List.replicate, Nat.reduceAdd, Nat.reduceSub, Nat.reduceMul, Int.reduceToNat, reduceCtorEq, aIndexAddr, aIndex, TD.aggr, aPick, aMin, aMax, Ax.Ends, rone, ↓reduceIte, List.isEmpty, Int.reducePow, Nat.reducePow, Int.reduceMod, Nat.reduceLeDiff, Int.reduceLE, Int.reduceNe, Int.reduceEq, aAppend, appendB, viewB, List.drop, List.take, aRange, aNext, aCopy, srcB, viewG, appendG, appendI, aSlice, bnd, full3, aStore, setB, AV.leaves, AV.okv, AV.leaf, one, elemLeaves, Blk.size, Blk.len, Option.isSome, Option.isNone, aStr, aNil, aExtract, viewI, Nat.reduceEqDiff, Nat.reduceLT, Nat.reduceBEq, List.contains, List.elem, Blk.closed, Blk.noimm, ↓gsplit_tt, ↓gsplit_ff, ↓gsplit_tf, ↓gsplit_ft, ↓csplit_t, ↓csplit_f, givenUp, Blk.clean, notMs, evDO, evTO, evTP, laterO_normal, ↓frzK_def, Blk.fz, Blk.fg, ↓openKO_def, openOp, Blk.isGone, Blk.idsB, Blk.sidsB, Blk.ren, EndsO, Blk.ids, Op.operands, Call.operands, List.map_cons, List.map_nil, List.toList_toArray, Array.toList_append, Option.toArray_some, Option.toArray_none, Bool.and_self, -coe, coe_w, coe_str, coe_agg, coe_tup, coe_sb, coe_si, coe_cp, coe_ms, coe_rf, coe_fn, coe_cons, ty, mtA, v1, v2]
  all_goals
    obtain ⟨v1, v2⟩ := hVno X.1
    simp -implicitDefEqProofs only [evT, evD0, evD1, evD2, implies_true, forall_const, Option.getD, later_normal, aop, aLen, ev, putSlot, cv, cvl, aConv, aBin, aInt, aUn, aFn, aEq, List.length, IntKind.bits, evo, coe, List.append, List.replicate, Nat.reduceAdd, Nat.reduceSub, Nat.reduceMul, Int.reduceToNat, reduceCtorEq, aIndexAddr, aIndex, TD.aggr, aPick, aMin, aMax, Ax.Ends, rone, ↓reduceIte, List.isEmpty, Int.reducePow, Nat.reducePow, Int.reduceMod, Nat.reduceLeDiff, Int.reduceLE, Int.reduceNe, Int.reduceEq, aAppend, appendB, viewB, List.drop, List.take, aRange, aNext, aCopy, srcB, viewG, appendG, appendI, aSlice, bnd, full3, aStore, setB, AV.leaves, AV.okv, AV.leaf, one, elemLeaves, Blk.size, Blk.len, Option.isSome, Option.isNone, aStr, aNil, aExtract, viewI, Nat.reduceEqDiff, Nat.reduceLT, Nat.reduceBEq, List.contains, List.elem, Blk.closed, Blk.noimm, ↓gsplit_tt, ↓gsplit_ff, ↓gsplit_tf, ↓gsplit_ft, ↓csplit_t, ↓csplit_f, givenUp, Blk.clean, notMs, evDO, evTO, evTP, laterO_normal, ↓frzK_def, Blk.fz, Blk.fg, ↓openKO_def, openOp, Blk.isGone, Blk.idsB, Blk.sidsB, Blk.ren, EndsO, Blk.ids, Op.operands, Call.operands, List.map_cons, List.map_nil, List.toList_toArray, Array.toList_append, Option.toArray_some, Option.toArray_none, Bool.and_self, -coe, coe_w, coe_str, coe_agg, coe_tup, coe_sb, coe_si, coe_cp, coe_ms, coe_rf, coe_fn, coe_cons, ty, Sget8, Ojust, get8Pl, get8S, newS, rfixS, numS, rtextS', doneS, put8S, eqB8, numbersO, rd, hb, hK', numF, hb0, he0, hl0, hn0, hb1, he1, hl1, hC, hW, hD, tk, List.length_nil, Nat.zero_le, Int.reduceLT, Int.reduceLE, fillS]
    refine awpO_unr 6 ?_
    simp -implicitDefEqProofs only [evT, evD0, evD1, evD2, implies_true, forall_const, Option.getD, later_normal, aop, aLen, ev, putSlot, cv, cvl, aConv, aBin, aInt, aUn, aFn, aEq, List.length, IntKind.bits, evo, coe, List.append, List.replicate, Nat.reduceAdd, Nat.reduceSub, Nat.reduceMul, Int.reduceToNat, reduceCtorEq, aIndexAddr, aIndex, TD.aggr, aPick, aMin, aMax, Ax.Ends, rone, ↓reduceIte, List.isEmpty, Int.reducePow, Nat.reducePow, Int.reduceMod, Nat.reduceLeDiff, Int.reduceLE, Int.reduceNe, Int.reduceEq, aAppend, appendB, viewB, List.drop, List.take, aRange, aNext, aCopy, srcB, viewG, appendG, appendI, aSlice, bnd, full3, aStore, setB, AV.leaves, AV.okv, AV.leaf, one, elemLeaves, Blk.size, Blk.len, Option.isSome, Option.isNone, aStr, aNil, aExtract, viewI, Nat.reduceEqDiff, Nat.reduceLT, Nat.reduceBEq, List.contains, List.elem, Blk.closed, Blk.noimm, ↓gsplit_tt, ↓gsplit_ff, ↓gsplit_tf, ↓gsplit_ft, ↓csplit_t, ↓csplit_f, givenUp, Blk.clean, notMs, evDO, evTO, evTP, laterO_normal, ↓frzK_def, Blk.fz, Blk.fg, ↓openKO_def, openOp, Blk.isGone, Blk.idsB, Blk.sidsB, Blk.ren, EndsO, Blk.ids, Op.operands, Call.operands, List.map_cons, List.map_nil, List.toList_toArray, Array.toList_append, Option.toArray_some, Option.toArray_none, Bool.and_self, -coe, coe_w, coe_str, coe_agg, coe_tup, coe_sb, coe_si, coe_cp, coe_ms, coe_rf, coe_fn, coe_cons, ty, Sget8, Ojust, get8Pl, get8S, newS, rfixS, numS, rtextS', doneS, put8S, eqB8, numbersO, rd, hb, hK', numF, hb0, he0, hl0, hn0, hb1, he1, hl1, hC, hW, hD, tk, List.length_nil, Nat.zero_le, Int.reduceLT, Int.reduceLE, fillS, unrO_go, unK_normal, unK_exit, unK_ret, Int.reduceAdd, Int.reduceSub, cst, X.2, v1, v2, mtA, zM]
    repeat (refine And.intro (by first | omega | (clear hb0 he0; omega)) ?_)
    refine ⟨_, Weak.refl _, ?_⟩
    simp -implicitDefEqProofs only [evT, evD0, evD1, evD2, implies_true, forall_const, Option.getD, later_normal, aop, aLen, ev, putSlot, cv, cvl, aConv, aBin, aInt, aUn, aFn, aEq, List.length, IntKind.bits, evo, coe, List.append, List.replicate, Nat.reduceAdd, Nat.reduceSub, Nat.reduceMul, Int.reduceToNat, reduceCtorEq, aIndexAddr, aIndex, TD.aggr, aPick, aMin, aMax, Ax.Ends, rone, ↓reduceIte, List.isEmpty, Int.reducePow, Nat.reducePow, Int.reduceMod, Nat.reduceLeDiff, Int.reduceLE, Int.reduceNe, Int.reduceEq, aAppend, appendB, viewB, List.drop, List.take, aRange, aNext, aCopy, srcB, viewG, appendG, appendI, aSlice, bnd, full3, aStore, setB, AV.leaves, AV.okv, AV.leaf, one, elemLeaves, Blk.size, Blk.len, Option.isSome, Option.isNone, aStr, aNil, aExtract, viewI, Nat.reduceEqDiff, Nat.reduceLT, Nat.reduceBEq, List.contains, List.elem, Blk.closed, Blk.noimm, ↓gsplit_tt, ↓gsplit_ff, ↓gsplit_tf, ↓gsplit_ft, ↓csplit_t, ↓csplit_f, givenUp, Blk.clean, notMs, evDO, evTO, evTP, laterO_normal, ↓frzK_def, Blk.fz, Blk.fg, ↓openKO_def, openOp, Blk.isGone, Blk.idsB, Blk.sidsB, Blk.ren, EndsO, Blk.ids, Op.operands, Call.operands, List.map_cons, List.map_nil, List.toList_toArray, Array.toList_append, Option.toArray_some, Option.toArray_none, Bool.and_self, -coe, coe_w, coe_str, coe_agg, coe_tup, coe_sb, coe_si, coe_cp, coe_ms, coe_rf, coe_fn, coe_cons, ty, mtA, zM, v1, v2]
set_option maxHeartbeats 4000000 in
theorem get8_k6 (b : List UInt8) (f : Bool) (hb : b.length ≤ 1000000) (hK : rK b = 6) :
    awpO Sget8 Ojust ty get8Pl (Try.f16.body.getD .skip) (EndsW ty Try.f16.results.toList [] (get8S [.sb b f] [])) ⟨[AV.sb b f] ++ List.replicate (Try.f16.ntmps - [AV.sb b f].length) .junk, pinHeap 0 [], 4⟩ := by
  have hK' : rfixN 1 b 0 % 256 = 6 := hK
  obtain ⟨b0, hb0⟩ : ∃ x, rfixL 1 b 0 = x := ⟨_, rfl⟩
  obtain ⟨e0, he0⟩ : ∃ x, rfixE 1 b 0 = x := ⟨_, rfl⟩
  have hl0 : b0.length ≤ 1000000 := by have := rfixL_len8 1 b 0; rw [hb0] at this; omega
  have q0 : rq0 b = (b0, e0) := by unfold rq0; rw [hb0, he0]
  obtain ⟨n0, hn0⟩ : ∃ x, numN b0 e0 = x := ⟨_, rfl⟩
  obtain ⟨b1, hb1⟩ : ∃ x, numL b0 e0 = x := ⟨_, rfl⟩
  obtain ⟨e1, he1⟩ : ∃ x, numE b0 e0 = x := ⟨_, rfl⟩
  have hl1 : b1.length ≤ 1000000 := by have := numL_length b0 e0; rw [hb1] at this; omega
  have q1 : rq1 b = (b1, e1) := by unfold rq1; rw [q0]; unfold rst; simp only [hb1, he1]
  have w0 : rnu (rq0 b) = n0 := by rw [q0]; exact hn0
  have hM : rdM b = ⟨6, n0, 0, [], 0, false, 0, 0, 0⟩ := by unfold rdM; rw [hK]; simp only [Int.reduceEq, if_true, if_false, w0]
  have hQ : rdQ b = (b1, e1) := by unfold rdQ; rw [hK]; simp only [Int.reduceEq, if_true, if_false]; exact q1
  obtain ⟨D, hD⟩ : ∃ x, (if e1 = 0 ∧ 0 < b1.length then (4 : Int) else e1) = x := ⟨_, rfl⟩
  obtain ⟨C, hC⟩ : ∃ x, chkM ⟨6, n0, 0, [], 0, false, 0, 0, 0⟩ = x := ⟨_, rfl⟩
  obtain ⟨W, hW⟩ : ∃ x, putB8 ⟨6, n0, 0, [], 0, false, 0, 0, 0⟩ = x := ⟨_, rfl⟩
  have hcase := get_cases b hM hQ hD hC hW
  have tk : ∀ l : List UInt8, List.take l.length l = l := fun l => List.take_length
  have hVok : getOk b → getA b = mtA ⟨6, n0, 0, [], 0, false, 0, 0, 0⟩ ∧ (if getOk b then (0 : Int) else 4) = 0 := by
    intro h; unfold getA getMt; rw [if_pos h, if_pos h, hM]; exact ⟨rfl, rfl⟩
  have hVno : ¬ getOk b → getA b = mtA zM ∧ (if getOk b then (0 : Int) else 4) = 4 := by
    intro h; unfold getA getMt; rw [if_neg h, if_neg h]; exact ⟨rfl, rfl⟩
  unfold Try.f16
  rcases hcase with X | X | X | X
  · obtain ⟨v1, v2⟩ := hVok X.1
    simp -implicitDefEqProofs only [evT, evD0, evD1, evD2, implies_true, forall_const, Option.getD, later_normal, aop, aLen, ev, putSlot, cv, cvl, aConv, aBin, aInt, aUn, aFn, aEq, List.length, IntKind.bits, evo, coe, List.append, List.replicate, Nat.reduceAdd, Nat.reduceSub, Nat.reduceMul, Int.reduceToNat, reduceCtorEq, aIndexAddr, aIndex, TD.aggr, aPick, aMin, aMax, Ax.Ends, rone, ↓reduceIte, List.isEmpty, Int.reducePow, Nat.reducePow, Int.reduceMod, Nat.reduceLeDiff, Int.reduceLE, Int.reduceNe, Int.reduceEq, aAppend, appendB, viewB, List.drop, List.take, aRange, aNext, aCopy, srcB, viewG, appendG, appendI, aSlice, bnd, full3, aStore, setB, AV.leaves, AV.okv, AV.leaf, one, elemLeaves, Blk.size, Blk.len, Option.isSome, Option.isNone, aStr, aNil, aExtract, viewI, Nat.reduceEqDiff, Nat.reduceLT, Nat.reduceBEq, List.contains, List.elem, Blk.closed, Blk.noimm, ↓gsplit_tt, ↓gsplit_ff, ↓gsplit_tf, ↓gsplit_ft, ↓csplit_t, ↓csplit_f, givenUp, Blk.clean, notMs, evDO, evTO, evTP, laterO_normal, ↓frzK_def, Blk.fz, Blk.fg, ↓openKO_def, openOp, Blk.isGone, Blk.idsB, Blk.sidsB, Blk.ren, EndsO, Blk.ids, Op.operands, Call.operands, List.map_cons, List.map_nil, List.toList_toArray, Array.toList_append, Option.toArray_some, Option.toArray_none, Bool.and_self, -coe, coe_w, coe_str, coe_agg, coe_tup, coe_sb, coe_si, coe_cp, coe_ms, coe_rf, coe_fn, coe_cons, ty, Sget8, Ojust, get8Pl, get8S, newS, rfixS, numS, rtextS', doneS, put8S, eqB8, numbersO, rd, hb, hK', numF, hb0, he0, hl0, hn0, hb1, he1, hl1, hC, hW, hD, tk, List.length_nil, Nat.zero_le, Int.reduceLT, Int.reduceLE, fillS]
    refine awpO_unr 6 ?_
    simp -implicitDefEqProofs only [evT, evD0, evD1, evD2, implies_true, forall_const, Option.getD, later_normal, aop, aLen, ev, putSlot, cv, cvl, aConv, aBin, aInt, aUn, aFn, aEq, List.length, IntKind.bits, evo, coe, List.append, List.replicate, Nat.reduceAdd, Nat.reduceSub, Nat.reduceMul, Int.reduceToNat, reduceCtorEq, aIndexAddr, aIndex, TD.aggr, aPick, aMin, aMax, Ax.Ends, rone, ↓reduceIte, List.isEmpty, Int.reducePow, Nat.reducePow, Int.reduceMod, Nat.reduceLeDiff, Int.reduceLE, Int.reduceNe, Int.reduceEq, aAppend, appendB, viewB, List.drop, List.take, aRange, aNext, aCopy, srcB, viewG, appendG, appendI, aSlice, bnd, full3, aStore, setB, AV.leaves, AV.okv, AV.leaf, one, elemLeaves, Blk.size, Blk.len, Option.isSome, Option.isNone, aStr, aNil, aExtract, viewI, Nat.reduceEqDiff, Nat.reduceLT, Nat.reduceBEq, List.contains, List.elem, Blk.closed, Blk.noimm, ↓gsplit_tt, ↓gsplit_ff, ↓gsplit_tf, ↓gsplit_ft, ↓csplit_t, ↓csplit_f, givenUp, Blk.clean, notMs, evDO, evTO, evTP, laterO_normal, ↓frzK_def, Blk.fz, Blk.fg, ↓openKO_def, openOp, Blk.isGone, Blk.idsB, Blk.sidsB, Blk.ren, EndsO, Blk.ids, Op.operands, Call.operands, List.map_cons, List.map_nil, List.toList_toArray, Array.toList_append, Option.toArray_some, Option.toArray_none, Bool.and_self, -coe, coe_w, coe_str, coe_agg, coe_tup, coe_sb, coe_si, coe_cp, coe_ms, coe_rf, coe_fn, coe_cons, ty, Sget8, Ojust, get8Pl, get8S, newS, rfixS, numS, rtextS', doneS, put8S, eqB8, numbersO, rd, hb, hK', numF, hb0, he0, hl0, hn0, hb1, he1, hl1, hC, hW, hD, tk, List.length_nil, Nat.zero_le, Int.reduceLT, Int.reduceLE, fillS, unrO_go, unK_normal, unK_exit, unK_ret, Int.reduceAdd, Int.reduceSub, cst, X.2, v1, v2, mtA]
    repeat (refine And.intro (by first | omega | (clear hb0 he0; omega)) ?_)
    refine ⟨_, Weak.refl _, ?_⟩
    simp -implicitDefEqProofs only [evT, evD0, evD1, evD2, implies_true, forall_const, Option.getD, later_normal, aop, aLen, ev, putSlot, cv, cvl, aConv, aBin, aInt, aUn, aFn, aEq, List.length, IntKind.bits, evo, coe, List.append, List.replicate, Nat.reduceAdd, Nat.reduceSub, Nat.reduceMul, Int.reduceToNat, reduceCtorEq, aIndexAddr, aIndex, TD.aggr, aPick, aMin, aMax, Ax.Ends, rone, ↓reduceIte, List.isEmpty, Int.reducePow, Nat.reducePow, Int.reduceMod, Nat.reduceLeDiff, Int.reduceLE, Int.reduceNe, Int.reduceEq, aAppend, appendB, viewB, List.drop, List.take, aRange, aNext, aCopy, srcB, viewG, appendG, appendI, aSlice, bnd, full3, aStore, setB, AV.leaves, AV.okv, AV.leaf, one, elemLeaves, Blk.size, Blk.len, Option.isSome, Option.isNone, aStr, aNil, aExtract, viewI, Nat.reduceEqDiff, Nat.reduceLT, Nat.reduceBEq, List.contains, List.elem, Blk.closed, Blk.noimm, ↓gsplit_tt, ↓gsplit_ff, ↓gsplit_tf, ↓gsplit_ft, ↓csplit_t, ↓csplit_f, givenUp, Blk.clean, notMs, evDO, evTO, evTP, laterO_normal, ↓frzK_def, Blk.fz, Blk.fg, ↓openKO_def, openOp, Blk.isGone, Blk.idsB, Blk.sidsB, Blk.ren, EndsO, Blk.ids, Op.operands, Call.operands, List.map_cons, List.map_nil, List.toList_toArray, Array.toList_append, Option.toArray_some, Option.toArray_none, Bool.and_self, -coe, coe_w, coe_str, coe_agg, coe_tup, coe_sb, coe_si, coe_cp, coe_ms, coe_rf, coe_fn, coe_cons, ty, mtA, v1, v2]
  all_goals
    obtain ⟨v1, v2⟩ := hVno X.1
    simp -implicitDefEqProofs only [evT, evD0, evD1, evD2, implies_true, forall_const, Option.getD, later_normal, aop, aLen, ev, putSlot, cv, cvl, aConv, aBin, aInt, aUn, aFn, aEq, List.length, IntKind.bits, evo, coe, List.append, List.replicate, Nat.reduceAdd, Nat.reduceSub, Nat.reduceMul, Int.reduceToNat, reduceCtorEq, aIndexAddr, aIndex, TD.aggr, aPick, aMin, aMax, Ax.Ends, rone, ↓reduceIte, List.isEmpty, Int.reducePow, Nat.reducePow, Int.reduceMod, Nat.reduceLeDiff, Int.reduceLE, Int.reduceNe, Int.reduceEq, aAppend, appendB, viewB, List.drop, List.take, aRange, aNext, aCopy, srcB, viewG, appendG, appendI, aSlice, bnd, full3, aStore, setB, AV.leaves, AV.okv, AV.leaf, one, elemLeaves, Blk.size, Blk.len, Option.isSome, Option.isNone, aStr, aNil, aExtract, viewI, Nat.reduceEqDiff, Nat.reduceLT, Nat.reduceBEq, List.contains, List.elem, Blk.closed, Blk.noimm, ↓gsplit_tt, ↓gsplit_ff, ↓gsplit_tf, ↓gsplit_ft, ↓csplit_t, ↓csplit_f, givenUp, Blk.clean, notMs, evDO, evTO, evTP, laterO_normal, ↓frzK_def, Blk.fz, Blk.fg, ↓openKO_def, openOp, Blk.isGone, Blk.idsB, Blk.sidsB, Blk.ren, EndsO, Blk.ids, Op.operands, Call.operands, List.map_cons, List.map_nil, List.toList_toArray, Array.toList_append, Option.toArray_some, Option.toArray_none, Bool.and_self, -coe, coe_w, coe_str, coe_agg, coe_tup, coe_sb, coe_si, coe_cp, coe_ms, coe_rf, coe_fn, coe_cons, ty, Sget8, Ojust, get8Pl, get8S, newS, rfixS, numS, rtextS', doneS, put8S, eqB8, numbersO, rd, hb, hK', numF, hb0, he0, hl0, hn0, hb1, he1, hl1, hC, hW, hD, tk, List.length_nil, Nat.zero_le, Int.reduceLT, Int.reduceLE, fillS]
    refine awpO_unr 6 ?_
    simp -implicitDefEqProofs only [evT, evD0, evD1, evD2, implies_true, forall_const, Option.getD, later_normal, aop, aLen, ev, putSlot, cv, cvl, aConv, aBin, aInt, aUn, aFn, aEq, List.length, IntKind.bits, evo, coe, List.append, List.replicate, Nat.reduceAdd, Nat.reduceSub, Nat.reduceMul, Int.reduceToNat, reduceCtorEq, aIndexAddr, aIndex, TD.aggr, aPick, aMin, aMax, Ax.Ends, rone, ↓reduceIte, List.isEmpty, Int.reducePow, Nat.reducePow, Int.reduceMod, Nat.reduceLeDiff, Int.reduceLE, Int.reduceNe, Int.reduceEq, aAppend, appendB, viewB, List.drop, List.take, aRange, aNext, aCopy, srcB, viewG, appendG, appendI, aSlice, bnd, full3, aStore, setB, AV.leaves, AV.okv, AV.leaf, one, elemLeaves, Blk.size, Blk.len, Option.isSome, Option.isNone, aStr, aNil, aExtract, viewI, Nat.reduceEqDiff, Nat.reduceLT, Nat.reduceBEq, List.contains, List.elem, Blk.closed, Blk.noimm, ↓gsplit_tt, ↓gsplit_ff, ↓gsplit_tf, ↓gsplit_ft, ↓csplit_t, ↓csplit_f, givenUp, Blk.clean, notMs, evDO, evTO, evTP, laterO_normal, ↓frzK_def, Blk.fz, Blk.fg, ↓openKO_def, openOp, Blk.isGone, Blk.idsB, Blk.sidsB, Blk.ren, EndsO, Blk.ids, Op.operands, Call.operands, List.map_cons, List.map_nil, List.toList_toArray, Array.toList_append, Option.toArray_some, Option.toArray_none, Bool.and_self, -coe, coe_w, coe_str, coe_agg, coe_tup, coe_sb, coe_si, coe_cp, coe_ms, coe_rf, coe_fn, coe_cons, ty, Sget8, Ojust, get8Pl, get8S, newS, rfixS, numS, rtextS', doneS, put8S, eqB8, numbersO, rd, hb, hK', numF, hb0, he0, hl0, hn0, hb1, he1, hl1, hC, hW, hD, tk, List.length_nil, Nat.zero_le, Int.reduceLT, Int.reduceLE, fillS, unrO_go, unK_normal, unK_exit, unK_ret, Int.reduceAdd, Int.reduceSub, cst, X.2, v1, v2, mtA, zM]
    repeat (refine And.intro (by first | omega | (clear hb0 he0; omega)) ?_)
    refine ⟨_, Weak.refl _, ?_⟩
    simp -implicitDefEqProofs only [evT, evD0, evD1, evD2, implies_true, forall_const, Option.getD, later_normal, aop, aLen, ev, putSlot, cv, cvl, aConv, aBin, aInt, aUn, aFn, aEq, List.length, IntKind.bits, evo, coe, List.append, List.replicate, Nat.reduceAdd, Nat.reduceSub, Nat.reduceMul, Int.reduceToNat, reduceCtorEq, aIndexAddr, aIndex, TD.aggr, aPick, aMin, aMax, Ax.Ends, rone, ↓reduceIte, List.isEmpty, Int.reducePow, Nat.reducePow, Int.reduceMod, Nat.reduceLeDiff, Int.reduceLE, Int.reduceNe, Int.reduceEq, aAppend, appendB, viewB, List.drop, List.take, aRange, aNext, aCopy, srcB, viewG, appendG, appendI, aSlice, bnd, full3, aStore, setB, AV.leaves, AV.okv, AV.leaf, one, elemLeaves, Blk.size, Blk.len, Option.isSome, Option.isNone, aStr, aNil, aExtract, viewI, Nat.reduceEqDiff, Nat.reduceLT, Nat.reduceBEq, List.contains, List.elem, Blk.closed, Blk.noimm, ↓gsplit_tt, ↓gsplit_ff, ↓gsplit_tf, ↓gsplit_ft, ↓csplit_t, ↓csplit_f, givenUp, Blk.clean, notMs, evDO, evTO, evTP, laterO_normal, ↓frzK_def, Blk.fz, Blk.fg, ↓openKO_def, openOp, Blk.isGone, Blk.idsB, Blk.sidsB, Blk.ren, EndsO, Blk.ids, Op.operands, Call.operands, List.map_cons, List.map_nil, List.toList_toArray, Array.toList_append, Option.toArray_some, Option.toArray_none, Bool.and_self, -coe, coe_w, coe_str, coe_agg, coe_tup, coe_sb, coe_si, coe_cp, coe_ms, coe_rf, coe_fn, coe_cons, ty, mtA, zM, v1, v2]
set_option maxHeartbeats 4000000 in
theorem get8_k2 (b : List UInt8) (f : Bool) (hb : b.length ≤ 1000000) (hK : rK b = 2) :
    awpO Sget8 Ojust ty get8Pl (Try.f16.body.getD .skip) (EndsW ty Try.f16.results.toList [] (get8S [.sb b f] [])) ⟨[AV.sb b f] ++ List.replicate (Try.f16.ntmps - [AV.sb b f].length) .junk, pinHeap 0 [], 4⟩ := by
  have hK' : rfixN 1 b 0 % 256 = 2 := hK
  obtain ⟨b0, hb0⟩ : ∃ x, rfixL 1 b 0 = x := ⟨_, rfl⟩
  obtain ⟨e0, he0⟩ : ∃ x, rfixE 1 b 0 = x := ⟨_, rfl⟩
  have hl0 : b0.length ≤ 1000000 := by have := rfixL_len8 1 b 0; rw [hb0] at this; omega
  have q0 : rq0 b = (b0, e0) := by unfold rq0; rw [hb0, he0]
  obtain ⟨n0, hn0⟩ : ∃ x, numN b0 e0 = x := ⟨_, rfl⟩
  obtain ⟨b1, hb1⟩ : ∃ x, numL b0 e0 = x := ⟨_, rfl⟩
  obtain ⟨e1, he1⟩ : ∃ x, numE b0 e0 = x := ⟨_, rfl⟩
  have hl1 : b1.length ≤ 1000000 := by have := numL_length b0 e0; rw [hb1] at this; omega
  have q1 : rq1 b = (b1, e1) := by unfold rq1; rw [q0]; unfold rst; simp only [hb1, he1]
  have w0 : rnu (rq0 b) = n0 := by rw [q0]; exact hn0
  obtain ⟨n1, hn1⟩ : ∃ x, numN b1 e1 = x := ⟨_, rfl⟩
  obtain ⟨b2, hb2⟩ : ∃ x, numL b1 e1 = x := ⟨_, rfl⟩
  obtain ⟨e2, he2⟩ : ∃ x, numE b1 e1 = x := ⟨_, rfl⟩
  have hl2 : b2.length ≤ 1000000 := by have := numL_length b1 e1; rw [hb2] at this; omega
  have q2 : rq2 b = (b2, e2) := by unfold rq2; rw [q1]; unfold rst; simp only [hb2, he2]
  have w1 : rnu (rq1 b) = n1 := by rw [q1]; exact hn1
  obtain ⟨n2, hn2⟩ : ∃ x, numN b2 e2 = x := ⟨_, rfl⟩
  obtain ⟨b3, hb3⟩ : ∃ x, numL b2 e2 = x := ⟨_, rfl⟩
  obtain ⟨e3, he3⟩ : ∃ x, numE b2 e2 = x := ⟨_, rfl⟩
  have hl3 : b3.length ≤ 1000000 := by have := numL_length b2 e2; rw [hb3] at this; omega
  have q3 : rq3 b = (b3, e3) := by unfold rq3; rw [q2]; unfold rst; simp only [hb3, he3]
  have w2 : rnu (rq2 b) = n2 := by rw [q2]; exact hn2
  obtain ⟨n3, hn3⟩ : ∃ x, numN b3 e3 = x := ⟨_, rfl⟩
  obtain ⟨b4, hb4⟩ : ∃ x, numL b3 e3 = x := ⟨_, rfl⟩
  obtain ⟨e4, he4⟩ : ∃ x, numE b3 e3 = x := ⟨_, rfl⟩
  have hl4 : b4.length ≤ 1000000 := by have := numL_length b3 e3; rw [hb4] at this; omega
  have q4 : rq4 b = (b4, e4) := by unfold rq4; rw [q3]; unfold rst; simp only [hb4, he4]
  have w3 : rnu (rq3 b) = n3 := by rw [q3]; exact hn3
  have hM : rdM b = ⟨2, n0, n1, [], 0, false, n2, n3, 0⟩ := by unfold rdM; rw [hK]; simp only [Int.reduceEq, if_true, if_false, w0, w1, w2, w3]
  have hQ : rdQ b = (b4, e4) := by unfold rdQ; rw [hK]; simp only [Int.reduceEq, if_true, if_false]; exact q4
  obtain ⟨D, hD⟩ : ∃ x, (if e4 = 0 ∧ 0 < b4.length then (4 : Int) else e4) = x := ⟨_, rfl⟩
  obtain ⟨C, hC⟩ : ∃ x, chkM ⟨2, n0, n1, [], 0, false, n2, n3, 0⟩ = x := ⟨_, rfl⟩
  obtain ⟨W, hW⟩ : ∃ x, putB8 ⟨2, n0, n1, [], 0, false, n2, n3, 0⟩ = x := ⟨_, rfl⟩
  have hcase := get_cases b hM hQ hD hC hW
  have tk : ∀ l : List UInt8, List.take l.length l = l := fun l => List.take_length
  have hVok : getOk b → getA b = mtA ⟨2, n0, n1, [], 0, false, n2, n3, 0⟩ ∧ (if getOk b then (0 : Int) else 4) = 0 := by
    intro h; unfold getA getMt; rw [if_pos h, if_pos h, hM]; exact ⟨rfl, rfl⟩
  have hVno : ¬ getOk b → getA b = mtA zM ∧ (if getOk b then (0 : Int) else 4) = 4 := by
    intro h; unfold getA getMt; rw [if_neg h, if_neg h]; exact ⟨rfl, rfl⟩
  unfold Try.f16
  rcases hcase with X | X | X | X
  · obtain ⟨v1, v2⟩ := hVok X.1
    simp -implicitDefEqProofs only [evT, evD0, evD1, evD2, implies_true, forall_const, Option.getD, later_normal, aop, aLen, ev, putSlot, cv, cvl, aConv, aBin, aInt, aUn, aFn, aEq, List.length, IntKind.bits, evo, coe, List.append, List.replicate, Nat.reduceAdd, Nat.reduceSub, Nat.reduceMul, Int.reduceToNat, reduceCtorEq, aIndexAddr, aIndex, TD.aggr, aPick, aMin, aMax, Ax.Ends, rone, ↓reduceIte, List.isEmpty, Int.reducePow, Nat.reducePow, Int.reduceMod, Nat.reduceLeDiff, Int.reduceLE, Int.reduceNe, Int.reduceEq, aAppend, appendB, viewB, List.drop, List.take, aRange, aNext, aCopy, srcB, viewG, appendG, appendI, aSlice, bnd, full3, aStore, setB, AV.leaves, AV.okv, AV.leaf, one, elemLeaves, Blk.size, Blk.len, Option.isSome, Option.isNone, aStr, aNil, aExtract, viewI, Nat.reduceEqDiff, Nat.reduceLT, Nat.reduceBEq, List.contains, List.elem, Blk.closed, Blk.noimm, ↓gsplit_tt, ↓gsplit_ff, ↓gsplit_tf, ↓gsplit_ft, ↓csplit_t, ↓csplit_f, givenUp, Blk.clean, notMs, evDO, evTO, evTP, laterO_normal, ↓frzK_def, Blk.fz, Blk.fg, ↓openKO_def, openOp, Blk.isGone, Blk.idsB, Blk.sidsB, Blk.ren, EndsO, Blk.ids, Op.operands, Call.operands, List.map_cons, List.map_nil, List.toList_toArray, Array.toList_append, Option.toArray_some, Option.toArray_none, Bool.and_self, -coe, coe_w, coe_str, coe_agg, coe_tup, coe_sb, coe_si, coe_cp, coe_ms, coe_rf, coe_fn, coe_cons, ty, Sget8, Ojust, get8Pl, get8S, newS, rfixS, numS, rtextS', doneS, put8S, eqB8, numbersO, rd, hb, hK', numF, hb0, he0, hl0, hn0, hb1, he1, hl1, hn1, hb2, he2, hl2, hn2, hb3, he3, hl3, hn3, hb4, he4, hl4, hC, hW, hD, tk, List.length_nil, Nat.zero_le, Int.reduceLT, Int.reduceLE, fillS]
    refine awpO_unr 6 ?_
    simp -implicitDefEqProofs only [evT, evD0, evD1, evD2, implies_true, forall_const, Option.getD, later_normal, aop, aLen, ev, putSlot, cv, cvl, aConv, aBin, aInt, aUn, aFn, aEq, List.length, IntKind.bits, evo, coe, List.append, List.replicate, Nat.reduceAdd, Nat.reduceSub, Nat.reduceMul, Int.reduceToNat, reduceCtorEq, aIndexAddr, aIndex, TD.aggr, aPick, aMin, aMax, Ax.Ends, rone, ↓reduceIte, List.isEmpty, Int.reducePow, Nat.reducePow, Int.reduceMod, Nat.reduceLeDiff, Int.reduceLE, Int.reduceNe, Int.reduceEq, aAppend, appendB, viewB, List.drop, List.take, aRange, aNext, aCopy, srcB, viewG, appendG, appendI, aSlice, bnd, full3, aStore, setB, AV.leaves, AV.okv, AV.leaf, one, elemLeaves, Blk.size, Blk.len, Option.isSome, Option.isNone, aStr, aNil, aExtract, viewI, Nat.reduceEqDiff, Nat.reduceLT, Nat.reduceBEq, List.contains, List.elem, Blk.closed, Blk.noimm, ↓gsplit_tt, ↓gsplit_ff, ↓gsplit_tf, ↓gsplit_ft, ↓csplit_t, ↓csplit_f, givenUp, Blk.clean, notMs, evDO, evTO, evTP, laterO_normal, ↓frzK_def, Blk.fz, Blk.fg, ↓openKO_def, openOp, Blk.isGone, Blk.idsB, Blk.sidsB, Blk.ren, EndsO, Blk.ids, Op.operands, Call.operands, List.map_cons, List.map_nil, List.toList_toArray, Array.toList_append, Option.toArray_some, Option.toArray_none, Bool.and_self, -coe, coe_w, coe_str, coe_agg, coe_tup, coe_sb, coe_si, coe_cp, coe_ms, coe_rf, coe_fn, coe_cons, ty, Sget8, Ojust, get8Pl, get8S, newS, rfixS, numS, rtextS', doneS, put8S, eqB8, numbersO, rd, hb, hK', numF, hb0, he0, hl0, hn0, hb1, he1, hl1, hn1, hb2, he2, hl2, hn2, hb3, he3, hl3, hn3, hb4, he4, hl4, hC, hW, hD, tk, List.length_nil, Nat.zero_le, Int.reduceLT, Int.reduceLE, fillS, unrO_go, unK_normal, unK_exit, unK_ret, Int.reduceAdd, Int.reduceSub, cst, X.2, v1, v2, mtA]
    repeat (refine And.intro (by first | omega | (clear hb0 he0; omega)) ?_)
    refine ⟨_, Weak.refl _, ?_⟩
    simp -implicitDefEqProofs only [evT, evD0, evD1, evD2, implies_true, forall_const, Option.getD, later_normal, aop, aLen, ev, putSlot, cv, cvl, aConv, aBin, aInt, aUn, aFn, aEq, List.length, IntKind.bits, evo, coe, List.append, List.replicate, Nat.reduceAdd, Nat.reduceSub, Nat.reduceMul, Int.reduceToNat, reduceCtorEq, aIndexAddr, aIndex, TD.aggr, aPick, aMin, aMax, Ax.Ends, rone, ↓reduceIte, List.isEmpty, Int.reducePow, Nat.reducePow, Int.reduceMod, Nat.reduceLeDiff, Int.reduceLE, Int.reduceNe, Int.reduceEq, aAppend, appendB, viewB, List.drop, List.take, aRange, aNext, aCopy, srcB, viewG, appendG, appendI, aSlice, bnd, full3, aStore, setB, AV.leaves, AV.okv, AV.leaf, one, elemLeaves, Blk.size, Blk.len, Option.isSome, Option.isNone, aStr, aNil, aExtract, viewI, Nat.reduceEqDiff, Nat.reduceLT, Nat.reduceBEq, List.contains, List.elem, Blk.closed, Blk.noimm, ↓gsplit_tt, ↓gsplit_ff, ↓gsplit_tf, ↓gsplit_ft, ↓csplit_t, ↓csplit_f, givenUp, Blk.clean, notMs, evDO, evTO, evTP, laterO_normal, ↓frzK_def, Blk.fz, Blk.fg, ↓openKO_def, openOp, Blk.isGone, Blk.idsB, Blk.sidsB, Blk.ren, EndsO, Blk.ids, Op.operands, Call.operands, List.map_cons, List.map_nil, List.toList_toArray, Array.toList_append, Option.toArray_some, Option.toArray_none, Bool.and_self, -coe, coe_w, coe_str, coe_agg, coe_tup, coe_sb, coe_si, coe_cp, coe_ms, coe_rf, coe_fn, coe_cons, ty, mtA, v1, v2]
  all_goals
    obtain ⟨v1, v2⟩ := hVno X.1
    simp -implicitDefEqProofs only [evT, evD0, evD1, evD2, implies_true, forall_const, Option.getD, later_normal, aop, aLen, ev, putSlot, cv, cvl, aConv, aBin, aInt, aUn, aFn, aEq, List.length, IntKind.bits, evo, coe, List.append, List.replicate, Nat.reduceAdd, Nat.reduceSub, Nat.reduceMul, Int.reduceToNat, reduceCtorEq, aIndexAddr, aIndex, TD.aggr, aPick, aMin, aMax, Ax.Ends, rone, ↓reduceIte, List.isEmpty, Int.reducePow, Nat.reducePow, Int.reduceMod, Nat.reduceLeDiff, Int.reduceLE, Int.reduceNe, Int.reduceEq, aAppend, appendB, viewB, List.drop, List.take, aRange, aNext, aCopy, srcB, viewG, appendG, appendI, aSlice, bnd, full3, aStore, setB, AV.leaves, AV.okv, AV.leaf, one, elemLeaves, Blk.size, Blk.len, Option.isSome, Option.isNone, aStr, aNil, aExtract, viewI, Nat.reduceEqDiff, Nat.reduceLT, Nat.reduceBEq, List.contains, List.elem, Blk.closed, Blk.noimm, ↓gsplit_tt, ↓gsplit_ff, ↓gsplit_tf, ↓gsplit_ft, ↓csplit_t, ↓csplit_f, givenUp, Blk.clean, notMs, evDO, evTO, evTP, laterO_normal, ↓frzK_def, Blk.fz, Blk.fg, ↓openKO_def, openOp, Blk.isGone, Blk.idsB, Blk.sidsB, Blk.ren, EndsO, Blk.ids, Op.operands, Call.operands, List.map_cons, List.map_nil, List.toList_toArray, Array.toList_append, Option.toArray_some, Option.toArray_none, Bool.and_self, -coe, coe_w, coe_str, coe_agg, coe_tup, coe_sb, coe_si, coe_cp, coe_ms, coe_rf, coe_fn, coe_cons, ty, Sget8, Ojust, get8Pl, get8S, newS, rfixS, numS, rtextS', doneS, put8S, eqB8, numbersO, rd, hb, hK', numF, hb0, he0, hl0, hn0, hb1, he1, hl1, hn1, hb2, he2, hl2, hn2, hb3, he3, hl3, hn3, hb4, he4, hl4, hC, hW, hD, tk, List.length_nil, Nat.zero_le, Int.reduceLT, Int.reduceLE, fillS]
    refine awpO_unr 6 ?_
    simp -implicitDefEqProofs only [evT, evD0, evD1, evD2, implies_true, forall_const, Option.getD, later_normal, aop, aLen, ev, putSlot, cv, cvl, aConv, aBin, aInt, aUn, aFn, aEq, List.length, IntKind.bits, evo, coe, List.append, List.replicate, Nat.reduceAdd, Nat.reduceSub, Nat.reduceMul, Int.reduceToNat, reduceCtorEq, aIndexAddr, aIndex, TD.aggr, aPick, aMin, aMax, Ax.Ends, rone, ↓reduceIte, List.isEmpty, Int.reducePow, Nat.reducePow, Int.reduceMod, Nat.reduceLeDiff, Int.reduceLE, Int.reduceNe, Int.reduceEq, aAppend, appendB, viewB, List.drop, List.take, aRange, aNext, aCopy, srcB, viewG, appendG, appendI, aSlice, bnd, full3, aStore, setB, AV.leaves, AV.okv, AV.leaf, one, elemLeaves, Blk.size, Blk.len, Option.isSome, Option.isNone, aStr, aNil, aExtract, viewI, Nat.reduceEqDiff, Nat.reduceLT, Nat.reduceBEq, List.contains, List.elem, Blk.closed, Blk.noimm, ↓gsplit_tt, ↓gsplit_ff, ↓gsplit_tf, ↓gsplit_ft, ↓csplit_t, ↓csplit_f, givenUp, Blk.clean, notMs, evDO, evTO, evTP, laterO_normal, ↓frzK_def, Blk.fz, Blk.fg, ↓openKO_def, openOp, Blk.isGone, Blk.idsB, Blk.sidsB, Blk.ren, EndsO, Blk.ids, Op.operands, Call.operands, List.map_cons, List.map_nil, List.toList_toArray, Array.toList_append, Option.toArray_some, Option.toArray_none, Bool.and_self, -coe, coe_w, coe_str, coe_agg, coe_tup, coe_sb, coe_si, coe_cp, coe_ms, coe_rf, coe_fn, coe_cons, ty, Sget8, Ojust, get8Pl, get8S, newS, rfixS, numS, rtextS', doneS, put8S, eqB8, numbersO, rd, hb, hK', numF, hb0, he0, hl0, hn0, hb1, he1, hl1, hn1, hb2, he2, hl2, hn2, hb3, he3, hl3, hn3, hb4, he4, hl4, hC, hW, hD, tk, List.length_nil, Nat.zero_le, Int.reduceLT, Int.reduceLE, fillS, unrO_go, unK_normal, unK_exit, unK_ret, Int.reduceAdd, Int.reduceSub, cst, X.2, v1, v2, mtA, zM]
    repeat (refine And.intro (by first | omega | (clear hb0 he0; omega)) ?_)
    refine ⟨_, Weak.refl _, ?_⟩
    simp -implicitDefEqProofs only [evT, evD0, evD1, evD2, implies_true, forall_const, Option.getD, later_normal, aop, aLen, ev, putSlot, cv, cvl, aConv, aBin, aInt, aUn, aFn, aEq, List.length, IntKind.bits, evo, coe, List.append, List.replicate, Nat.reduceAdd, Nat.reduceSub, Nat.reduceMul, Int.reduceToNat, reduceCtorEq, aIndexAddr, aIndex, TD.aggr, aPick, aMin, aMax, Ax.Ends, rone, ↓reduceIte, List.isEmpty, Int.reducePow, Nat.reducePow, Int.reduceMod, Nat.reduceLeDiff, Int.reduceLE, Int.reduceNe, Int.reduceEq, aAppend, appendB, viewB, List.drop, List.take, aRange, aNext, aCopy, srcB, viewG, appendG, appendI, aSlice, bnd, full3, aStore, setB, AV.leaves, AV.okv, AV.leaf, one, elemLeaves, Blk.size, Blk.len, Option.isSome, Option.isNone, aStr, aNil, aExtract, viewI, Nat.reduceEqDiff, Nat.reduceLT, Nat.reduceBEq, List.contains, List.elem, Blk.closed, Blk.noimm, ↓gsplit_tt, ↓gsplit_ff, ↓gsplit_tf, ↓gsplit_ft, ↓csplit_t, ↓csplit_f, givenUp, Blk.clean, notMs, evDO, evTO, evTP, laterO_normal, ↓frzK_def, Blk.fz, Blk.fg, ↓openKO_def, openOp, Blk.isGone, Blk.idsB, Blk.sidsB, Blk.ren, EndsO, Blk.ids, Op.operands, Call.operands, List.map_cons, List.map_nil, List.toList_toArray, Array.toList_append, Option.toArray_some, Option.toArray_none, Bool.and_self, -coe, coe_w, coe_str, coe_agg, coe_tup, coe_sb, coe_si, coe_cp, coe_ms, coe_rf, coe_fn, coe_cons, ty, mtA, zM, v1, v2]
set_option maxHeartbeats 4000000 in
theorem get8_k3 (b : List UInt8) (f : Bool) (hb : b.length ≤ 1000000) (hK : rK b = 3) :
    awpO Sget8 Ojust ty get8Pl (Try.f16.body.getD .skip) (EndsW ty Try.f16.results.toList [] (get8S [.sb b f] [])) ⟨[AV.sb b f] ++ List.replicate (Try.f16.ntmps - [AV.sb b f].length) .junk, pinHeap 0 [], 4⟩ := by
  have hK' : rfixN 1 b 0 % 256 = 3 := hK
  obtain ⟨b0, hb0⟩ : ∃ x, rfixL 1 b 0 = x := ⟨_, rfl⟩
  obtain ⟨e0, he0⟩ : ∃ x, rfixE 1 b 0 = x := ⟨_, rfl⟩
  have hl0 : b0.length ≤ 1000000 := by have := rfixL_len8 1 b 0; rw [hb0] at this; omega
  have q0 : rq0 b = (b0, e0) := by unfold rq0; rw [hb0, he0]
  obtain ⟨n0, hn0⟩ : ∃ x, numN b0 e0 = x := ⟨_, rfl⟩
  obtain ⟨b1, hb1⟩ : ∃ x, numL b0 e0 = x := ⟨_, rfl⟩
  obtain ⟨e1, he1⟩ : ∃ x, numE b0 e0 = x := ⟨_, rfl⟩
  have hl1 : b1.length ≤ 1000000 := by have := numL_length b0 e0; rw [hb1] at this; omega
  have q1 : rq1 b = (b1, e1) := by unfold rq1; rw [q0]; unfold rst; simp only [hb1, he1]
  have w0 : rnu (rq0 b) = n0 := by rw [q0]; exact hn0
  obtain ⟨n1, hn1⟩ : ∃ x, numN b1 e1 = x := ⟨_, rfl⟩
  obtain ⟨b2, hb2⟩ : ∃ x, numL b1 e1 = x := ⟨_, rfl⟩
  obtain ⟨e2, he2⟩ : ∃ x, numE b1 e1 = x := ⟨_, rfl⟩
  have hl2 : b2.length ≤ 1000000 := by have := numL_length b1 e1; rw [hb2] at this; omega
  have q2 : rq2 b = (b2, e2) := by unfold rq2; rw [q1]; unfold rst; simp only [hb2, he2]
  have w1 : rnu (rq1 b) = n1 := by rw [q1]; exact hn1
  obtain ⟨n2, hn2⟩ : ∃ x, numN b2 e2 = x := ⟨_, rfl⟩
  obtain ⟨b3, hb3⟩ : ∃ x, numL b2 e2 = x := ⟨_, rfl⟩
  obtain ⟨e3, he3⟩ : ∃ x, numE b2 e2 = x := ⟨_, rfl⟩
  have hl3 : b3.length ≤ 1000000 := by have := numL_length b2 e2; rw [hb3] at this; omega
  have q3 : rq3 b = (b3, e3) := by unfold rq3; rw [q2]; unfold rst; simp only [hb3, he3]
  have w2 : rnu (rq2 b) = n2 := by rw [q2]; exact hn2
  have hM : rdM b = ⟨3, n0, n1, [], 0, false, n2, 0, 0⟩ := by unfold rdM; rw [hK]; simp only [Int.reduceEq, if_true, if_false, w0, w1, w2]
  have hQ : rdQ b = (b3, e3) := by unfold rdQ; rw [hK]; simp only [Int.reduceEq, if_true, if_false]; exact q3
  obtain ⟨D, hD⟩ : ∃ x, (if e3 = 0 ∧ 0 < b3.length then (4 : Int) else e3) = x := ⟨_, rfl⟩
  obtain ⟨C, hC⟩ : ∃ x, chkM ⟨3, n0, n1, [], 0, false, n2, 0, 0⟩ = x := ⟨_, rfl⟩
  obtain ⟨W, hW⟩ : ∃ x, putB8 ⟨3, n0, n1, [], 0, false, n2, 0, 0⟩ = x := ⟨_, rfl⟩
  have hcase := get_cases b hM hQ hD hC hW
  have tk : ∀ l : List UInt8, List.take l.length l = l := fun l => List.take_length
  have hVok : getOk b → getA b = mtA ⟨3, n0, n1, [], 0, false, n2, 0, 0⟩ ∧ (if getOk b then (0 : Int) else 4) = 0 := by
    intro h; unfold getA getMt; rw [if_pos h, if_pos h, hM]; exact ⟨rfl, rfl⟩
  have hVno : ¬ getOk b → getA b = mtA zM ∧ (if getOk b then (0 : Int) else 4) = 4 := by
    intro h; unfold getA getMt; rw [if_neg h, if_neg h]; exact ⟨rfl, rfl⟩
  unfold Try.f16
  rcases hcase with X | X | X | X
  · obtain ⟨v1, v2⟩ := hVok X.1
    simp -implicitDefEqProofs only [evT, evD0, evD1, evD2, implies_true, forall_const, Option.getD, later_normal, aop, aLen, ev, putSlot, cv, cvl, aConv, aBin, aInt, aUn, aFn, aEq, List.length, IntKind.bits, evo, coe, List.append, List.replicate, Nat.reduceAdd, Nat.reduceSub, Nat.reduceMul, Int.reduceToNat, reduceCtorEq, aIndexAddr, aIndex, TD.aggr, aPick, aMin, aMax, Ax.Ends, rone, ↓reduceIte, List.isEmpty, Int.reducePow, Nat.reducePow, Int.reduceMod, Nat.reduceLeDiff, Int.reduceLE, Int.reduceNe, Int.reduceEq, aAppend, appendB, viewB, List.drop, List.take, aRange, aNext, aCopy, srcB, viewG, appendG, appendI, aSlice, bnd, full3, aStore, setB, AV.leaves, AV.okv, AV.leaf, one, elemLeaves, Blk.size, Blk.len, Option.isSome, Option.isNone, aStr, aNil, aExtract, viewI, Nat.reduceEqDiff, Nat.reduceLT, Nat.reduceBEq, List.contains, List.elem, Blk.closed, Blk.noimm, ↓gsplit_tt, ↓gsplit_ff, ↓gsplit_tf, ↓gsplit_ft, ↓csplit_t, ↓csplit_f, givenUp, Blk.clean, notMs, evDO, evTO, evTP, laterO_normal, ↓frzK_def, Blk.fz, Blk.fg, ↓openKO_def, openOp, Blk.isGone, Blk.idsB, Blk.sidsB, Blk.ren, EndsO, Blk.ids, Op.operands, Call.operands, List.map_cons, List.map_nil, List.toList_toArray, Array.toList_append, Option.toArray_some, Option.toArray_none, Bool.and_self, -coe, coe_w, coe_str, coe_agg, coe_tup, coe_sb, coe_si, coe_cp, coe_ms, coe_rf, coe_fn, coe_cons, ty, Sget8, Ojust, get8Pl, get8S, newS, rfixS, numS, rtextS', doneS, put8S, eqB8, numbersO, rd, hb, hK', numF, hb0, he0, hl0, hn0, hb1, he1, hl1, hn1, hb2, he2, hl2, hn2, hb3, he3, hl3, hC, hW, hD, tk, List.length_nil, Nat.zero_le, Int.reduceLT, Int.reduceLE, fillS]
    refine awpO_unr 6 ?_
    simp -implicitDefEqProofs only [evT, evD0, evD1, evD2, implies_true, forall_const, Option.getD, later_normal, aop, aLen, ev, putSlot, cv, cvl, aConv, aBin, aInt, aUn, aFn, aEq, List.length, IntKind.bits, evo, coe, List.append, List.replicate, Nat.reduceAdd, Nat.reduceSub, Nat.reduceMul, Int.reduceToNat, reduceCtorEq, aIndexAddr, aIndex, TD.aggr, aPick, aMin, aMax, Ax.Ends, rone, ↓reduceIte, List.isEmpty, Int.reducePow, Nat.reducePow, Int.reduceMod, Nat.reduceLeDiff, Int.reduceLE, Int.reduceNe, Int.reduceEq, aAppend, appendB, viewB, List.drop, List.take, aRange, aNext, aCopy, srcB, viewG, appendG, appendI, aSlice, bnd, full3, aStore, setB, AV.leaves, AV.okv, AV.leaf, one, elemLeaves, Blk.size, Blk.len, Option.isSome, Option.isNone, aStr, aNil, aExtract, viewI, Nat.reduceEqDiff, Nat.reduceLT, Nat.reduceBEq, List.contains, List.elem, Blk.closed, Blk.noimm, ↓gsplit_tt, ↓gsplit_ff, ↓gsplit_tf, ↓gsplit_ft, ↓csplit_t, ↓csplit_f, givenUp, Blk.clean, notMs, evDO, evTO, evTP, laterO_normal, ↓frzK_def, Blk.fz, Blk.fg, ↓openKO_def, openOp, Blk.isGone, Blk.idsB, Blk.sidsB, Blk.ren, EndsO, Blk.ids, Op.operands, Call.operands, List.map_cons, List.map_nil, List.toList_toArray, Array.toList_append, Option.toArray_some, Option.toArray_none, Bool.and_self, -coe, coe_w, coe_str, coe_agg, coe_tup, coe_sb, coe_si, coe_cp, coe_ms, coe_rf, coe_fn, coe_cons, ty, Sget8, Ojust, get8Pl, get8S, newS, rfixS, numS, rtextS', doneS, put8S, eqB8, numbersO, rd, hb, hK', numF, hb0, he0, hl0, hn0, hb1, he1, hl1, hn1, hb2, he2, hl2, hn2, hb3, he3, hl3, hC, hW, hD, tk, List.length_nil, Nat.zero_le, Int.reduceLT, Int.reduceLE, fillS, unrO_go, unK_normal, unK_exit, unK_ret, Int.reduceAdd, Int.reduceSub, cst, X.2, v1, v2, mtA]
    repeat (refine And.intro (by first | omega | (clear hb0 he0; omega)) ?_)
    refine ⟨_, Weak.refl _, ?_⟩
    simp -implicitDefEqProofs only [evT, evD0, evD1, evD2, implies_true, forall_const, Option.getD, later_normal, aop, aLen, ev, putSlot, cv, cvl, aConv, aBin, aInt, aUn, aFn, aEq, List.length, IntKind.bits, evo, coe, List.append, List.replicate, Nat.reduceAdd, Nat.reduceSub, Nat.reduceMul, Int.reduceToNat, reduceCtorEq, aIndexAddr, aIndex, TD.aggr, aPick, aMin, aMax, Ax.Ends, rone, ↓reduceIte, List.isEmpty, Int.reducePow, Nat.reducePow, Int.reduceMod, Nat.reduceLeDiff, Int.reduceLE, Int.reduceNe, Int.reduceEq, aAppend, appendB, viewB, List.drop, List.take, aRange, aNext, aCopy, srcB, viewG, appendG, appendI, aSlice, bnd, full3, aStore, setB, AV.leaves, AV.okv, AV.leaf, one, elemLeaves, Blk.size, Blk.len, Option.isSome, Option.isNone, aStr, aNil, aExtract, viewI, Nat.reduceEqDiff, Nat.reduceLT, Nat.reduceBEq, List.contains, List.elem, Blk.closed, Blk.noimm, ↓gsplit_tt, ↓gsplit_ff, ↓gsplit_tf, ↓gsplit_ft, ↓csplit_t, ↓csplit_f, givenUp, Blk.clean, notMs, evDO, evTO, evTP, laterO_normal, ↓frzK_def, Blk.fz, Blk.fg, ↓openKO_def, openOp, Blk.isGone, Blk.idsB, Blk.sidsB, Blk.ren, EndsO, Blk.ids, Op.operands, Call.operands, List.map_cons, List.map_nil, List.toList_toArray, Array.toList_append, Option.toArray_some, Option.toArray_none, Bool.and_self, -coe, coe_w, coe_str, coe_agg, coe_tup, coe_sb, coe_si, coe_cp, coe_ms, coe_rf, coe_fn, coe_cons, ty, mtA, v1, v2]
  all_goals
    obtain ⟨v1, v2⟩ := hVno X.1
    simp -implicitDefEqProofs only [evT, evD0, evD1, evD2, implies_true, forall_const, Option.getD, later_normal, aop, aLen, ev, putSlot, cv, cvl, aConv, aBin, aInt, aUn, aFn, aEq, List.length, IntKind.bits, evo, coe, List.append, List.replicate, Nat.reduceAdd, Nat.reduceSub, Nat.reduceMul, Int.reduceToNat, reduceCtorEq, aIndexAddr, aIndex, TD.aggr, aPick, aMin, aMax, Ax.Ends, rone, ↓reduceIte, List.isEmpty, Int.reducePow, Nat.reducePow, Int.reduceMod, Nat.reduceLeDiff, Int.reduceLE, Int.reduceNe, Int.reduceEq, aAppend, appendB, viewB, List.drop, List.take, aRange, aNext, aCopy, srcB, viewG, appendG, appendI, aSlice, bnd, full3, aStore, setB, AV.leaves, AV.okv, AV.leaf, one, elemLeaves, Blk.size, Blk.len, Option.isSome, Option.isNone, aStr, aNil, aExtract, viewI, Nat.reduceEqDiff, Nat.reduceLT, Nat.reduceBEq, List.contains, List.elem, Blk.closed, Blk.noimm, ↓gsplit_tt, ↓gsplit_ff, ↓gsplit_tf, ↓gsplit_ft, ↓csplit_t, ↓csplit_f, givenUp, Blk.clean, notMs, evDO, evTO, evTP, laterO_normal, ↓frzK_def, Blk.fz, Blk.fg, ↓openKO_def, openOp, Blk.isGone, Blk.idsB, Blk.sidsB, Blk.ren, EndsO, Blk.ids, Op.operands, Call.operands, List.map_cons, List.map_nil, List.toList_toArray, Array.toList_append, Option.toArray_some, Option.toArray_none, Bool.and_self, -coe, coe_w, coe_str, coe_agg, coe_tup, coe_sb, coe_si, coe_cp, coe_ms, coe_rf, coe_fn, coe_cons, ty, Sget8, Ojust, get8Pl, get8S, newS, rfixS, numS, rtextS', doneS, put8S, eqB8, numbersO, rd, hb, hK', numF, hb0, he0, hl0, hn0, hb1, he1, hl1, hn1, hb2, he2, hl2, hn2, hb3, he3, hl3, hC, hW, hD, tk, List.length_nil, Nat.zero_le, Int.reduceLT, Int.reduceLE, fillS]
    refine awpO_unr 6 ?_
    simp -implicitDefEqProofs only [evT, evD0, evD1, evD2, implies_true, forall_const, Option.getD, later_normal, aop, aLen, ev, putSlot, cv, cvl, aConv, aBin, aInt, aUn, aFn, aEq, List.length, IntKind.bits, evo, coe, List.append, List.replicate, Nat.reduceAdd, Nat.reduceSub, Nat.reduceMul, Int.reduceToNat, reduceCtorEq, aIndexAddr, aIndex, TD.aggr, aPick, aMin, aMax, Ax.Ends, rone, ↓reduceIte, List.isEmpty, Int.reducePow, Nat.reducePow, Int.reduceMod, Nat.reduceLeDiff, Int.reduceLE, Int.reduceNe, Int.reduceEq, aAppend, appendB, viewB, List.drop, List.take, aRange, aNext, aCopy, srcB, viewG, appendG, appendI, aSlice, bnd, full3, aStore, setB, AV.leaves, AV.okv, AV.leaf, one, elemLeaves, Blk.size, Blk.len, Option.isSome, Option.isNone, aStr, aNil, aExtract, viewI, Nat.reduceEqDiff, Nat.reduceLT, Nat.reduceBEq, List.contains, List.elem, Blk.closed, Blk.noimm, ↓gsplit_tt, ↓gsplit_ff, ↓gsplit_tf, ↓gsplit_ft, ↓csplit_t, ↓csplit_f, givenUp, Blk.clean, notMs, evDO, evTO, evTP, laterO_normal, ↓frzK_def, Blk.fz, Blk.fg, ↓openKO_def, openOp, Blk.isGone, Blk.idsB, Blk.sidsB, Blk.ren, EndsO, Blk.ids, Op.operands, Call.operands, List.map_cons, List.map_nil, List.toList_toArray, Array.toList_append, Option.toArray_some, Option.toArray_none, Bool.and_self, -coe, coe_w, coe_str, coe_agg, coe_tup, coe_sb, coe_si, coe_cp, coe_ms, coe_rf, coe_fn, coe_cons, ty, Sget8, Ojust, get8Pl, get8S, newS, rfixS, numS, rtextS', doneS, put8S, eqB8, numbersO, rd, hb, hK', numF, hb0, he0, hl0, hn0, hb1, he1, hl1, hn1, hb2, he2, hl2, hn2, hb3, he3, hl3, hC, hW, hD, tk, List.length_nil, Nat.zero_le, Int.reduceLT, Int.reduceLE, fillS, unrO_go, unK_normal, unK_exit, unK_ret, Int.reduceAdd, Int.reduceSub, cst, X.2, v1, v2, mtA, zM]
    repeat (refine And.intro (by first | omega | (clear hb0 he0; omega)) ?_)
    refine ⟨_, Weak.refl _, ?_⟩
    simp -implicitDefEqProofs only [evT, evD0, evD1, evD2, implies_true, forall_const, Option.getD, later_normal, aop, aLen, ev, putSlot, cv, cvl, aConv, aBin, aInt, aUn, aFn, aEq, List.length, IntKind.bits, evo, coe, List.append, List.replicate, Nat.reduceAdd, Nat.reduceSub, Nat.reduceMul, Int.reduceToNat, reduceCtorEq, aIndexAddr, aIndex, TD.aggr, aPick, aMin, aMax, Ax.Ends, rone, ↓reduceIte, List.isEmpty, Int.reducePow, Nat.reducePow, Int.reduceMod, Nat.reduceLeDiff, Int.reduceLE, Int.reduceNe, Int.reduceEq, aAppend, appendB, viewB, List.drop, List.take, aRange, aNext, aCopy, srcB, viewG, appendG, appendI, aSlice, bnd, full3, aStore, setB, AV.leaves, AV.okv, AV.leaf, one, elemLeaves, Blk.size, Blk.len, Option.isSome, Option.isNone, aStr, aNil, aExtract, viewI, Nat.reduceEqDiff, Nat.reduceLT, Nat.reduceBEq, List.contains, List.elem, Blk.closed, Blk.noimm, ↓gsplit_tt, ↓gsplit_ff, ↓gsplit_tf, ↓gsplit_ft, ↓csplit_t, ↓csplit_f, givenUp, Blk.clean, notMs, evDO, evTO, evTP, laterO_normal, ↓frzK_def, Blk.fz, Blk.fg, ↓openKO_def, openOp, Blk.isGone, Blk.idsB, Blk.sidsB, Blk.ren, EndsO, Blk.ids, Op.operands, Call.operands, List.map_cons, List.map_nil, List.toList_toArray, Array.toList_append, Option.toArray_some, Option.toArray_none, Bool.and_self, -coe, coe_w, coe_str, coe_agg, coe_tup, coe_sb, coe_si, coe_cp, coe_ms, coe_rf, coe_fn, coe_cons, ty, mtA, zM, v1, v2]
set_option maxHeartbeats 4000000 in
theorem get8_k4 (b : List UInt8) (f : Bool) (hb : b.length ≤ 1000000) (hK : rK b = 4) :
    awpO Sget8 Ojust ty get8Pl (Try.f16.body.getD .skip) (EndsW ty Try.f16.results.toList [] (get8S [.sb b f] [])) ⟨[AV.sb b f] ++ List.replicate (Try.f16.ntmps - [AV.sb b f].length) .junk, pinHeap 0 [], 4⟩ := by
  have hK' : rfixN 1 b 0 % 256 = 4 := hK
  obtain ⟨b0, hb0⟩ : ∃ x, rfixL 1 b 0 = x := ⟨_, rfl⟩
  obtain ⟨e0, he0⟩ : ∃ x, rfixE 1 b 0 = x := ⟨_, rfl⟩
  have hl0 : b0.length ≤ 1000000 := by have := rfixL_len8 1 b 0; rw [hb0] at this; omega
  have q0 : rq0 b = (b0, e0) := by unfold rq0; rw [hb0, he0]
  obtain ⟨n0, hn0⟩ : ∃ x, numN b0 e0 = x := ⟨_, rfl⟩
  obtain ⟨b1, hb1⟩ : ∃ x, numL b0 e0 = x := ⟨_, rfl⟩
  obtain ⟨e1, he1⟩ : ∃ x, numE b0 e0 = x := ⟨_, rfl⟩
  have hl1 : b1.length ≤ 1000000 := by have := numL_length b0 e0; rw [hb1] at this; omega
  have q1 : rq1 b = (b1, e1) := by unfold rq1; rw [q0]; unfold rst; simp only [hb1, he1]
  have w0 : rnu (rq0 b) = n0 := by rw [q0]; exact hn0
  obtain ⟨n1, hn1⟩ : ∃ x, numN b1 e1 = x := ⟨_, rfl⟩
  obtain ⟨b2, hb2⟩ : ∃ x, numL b1 e1 = x := ⟨_, rfl⟩
  obtain ⟨e2, he2⟩ : ∃ x, numE b1 e1 = x := ⟨_, rfl⟩
  have hl2 : b2.length ≤ 1000000 := by have := numL_length b1 e1; rw [hb2] at this; omega
  have q2 : rq2 b = (b2, e2) := by unfold rq2; rw [q1]; unfold rst; simp only [hb2, he2]
  have w1 : rnu (rq1 b) = n1 := by rw [q1]; exact hn1
  obtain ⟨n2, hn2⟩ : ∃ x, numN b2 e2 = x := ⟨_, rfl⟩
  obtain ⟨b3, hb3⟩ : ∃ x, numL b2 e2 = x := ⟨_, rfl⟩
  obtain ⟨e3, he3⟩ : ∃ x, numE b2 e2 = x := ⟨_, rfl⟩
  have hl3 : b3.length ≤ 1000000 := by have := numL_length b2 e2; rw [hb3] at this; omega
  have q3 : rq3 b = (b3, e3) := by unfold rq3; rw [q2]; unfold rst; simp only [hb3, he3]
  have w2 : rnu (rq2 b) = n2 := by rw [q2]; exact hn2
  obtain ⟨n3, hn3⟩ : ∃ x, numN b3 e3 = x := ⟨_, rfl⟩
  obtain ⟨b4, hb4⟩ : ∃ x, numL b3 e3 = x := ⟨_, rfl⟩
  obtain ⟨e4, he4⟩ : ∃ x, numE b3 e3 = x := ⟨_, rfl⟩
  have hl4 : b4.length ≤ 1000000 := by have := numL_length b3 e3; rw [hb4] at this; omega
  have q4 : rq4 b = (b4, e4) := by unfold rq4; rw [q3]; unfold rst; simp only [hb4, he4]
  have w3 : rnu (rq3 b) = n3 := by rw [q3]; exact hn3
  obtain ⟨n4, hn4⟩ : ∃ x, numN b4 e4 = x := ⟨_, rfl⟩
  obtain ⟨b5, hb5⟩ : ∃ x, numL b4 e4 = x := ⟨_, rfl⟩
  obtain ⟨e5, he5⟩ : ∃ x, numE b4 e4 = x := ⟨_, rfl⟩
  have hl5 : b5.length ≤ 1000000 := by have := numL_length b4 e4; rw [hb5] at this; omega
  have q5 : rq5 b = (b5, e5) := by unfold rq5; rw [q4]; unfold rst; simp only [hb5, he5]
  have w4 : rnu (rq4 b) = n4 := by rw [q4]; exact hn4
  have hM : rdM b = ⟨4, n0, n1, [], 0, false, n3, n4, n2⟩ := by unfold rdM; rw [hK]; simp only [Int.reduceEq, if_true, if_false, w0, w1, w2, w3, w4]
  have hQ : rdQ b = (b5, e5) := by unfold rdQ; rw [hK]; simp only [Int.reduceEq, if_true, if_false]; exact q5
  obtain ⟨D, hD⟩ : ∃ x, (if e5 = 0 ∧ 0 < b5.length then (4 : Int) else e5) = x := ⟨_, rfl⟩
  obtain ⟨C, hC⟩ : ∃ x, chkM ⟨4, n0, n1, [], 0, false, n3, n4, n2⟩ = x := ⟨_, rfl⟩
  obtain ⟨W, hW⟩ : ∃ x, putB8 ⟨4, n0, n1, [], 0, false, n3, n4, n2⟩ = x := ⟨_, rfl⟩
  have hcase := get_cases b hM hQ hD hC hW
  have tk : ∀ l : List UInt8, List.take l.length l = l := fun l => List.take_length
  have hVok : getOk b → getA b = mtA ⟨4, n0, n1, [], 0, false, n3, n4, n2⟩ ∧ (if getOk b then (0 : Int) else 4) = 0 := by
    intro h; unfold getA getMt; rw [if_pos h, if_pos h, hM]; exact ⟨rfl, rfl⟩
  have hVno : ¬ getOk b → getA b = mtA zM ∧ (if getOk b then (0 : Int) else 4) = 4 := by
    intro h; unfold getA getMt; rw [if_neg h, if_neg h]; exact ⟨rfl, rfl⟩
  unfold Try.f16
  rcases hcase with X | X | X | X
  · obtain ⟨v1, v2⟩ := hVok X.1
    simp -implicitDefEqProofs only [evT, evD0, evD1, evD2, implies_true, forall_const, Option.getD, later_normal, aop, aLen, ev, putSlot, cv, cvl, aConv, aBin, aInt, aUn, aFn, aEq, List.length, IntKind.bits, evo, coe, List.append, List.replicate, Nat.reduceAdd, Nat.reduceSub, Nat.reduceMul, Int.reduceToNat, reduceCtorEq, aIndexAddr, aIndex, TD.aggr, aPick, aMin, aMax, Ax.Ends, rone, ↓reduceIte, List.isEmpty, Int.reducePow, Nat.reducePow, Int.reduceMod, Nat.reduceLeDiff, Int.reduceLE, Int.reduceNe, Int.reduceEq, aAppend, appendB, viewB, List.drop, List.take, aRange, aNext, aCopy, srcB, viewG, appendG, appendI, aSlice, bnd, full3, aStore, setB, AV.leaves, AV.okv, AV.leaf, one, elemLeaves, Blk.size, Blk.len, Option.isSome, Option.isNone, aStr, aNil, aExtract, viewI, Nat.reduceEqDiff, Nat.reduceLT, Nat.reduceBEq, List.contains, List.elem, Blk.closed, Blk.noimm, ↓gsplit_tt, ↓gsplit_ff, ↓gsplit_tf, ↓gsplit_ft, ↓csplit_t, ↓csplit_f, givenUp, Blk.clean, notMs, evDO, evTO, evTP, laterO_normal, ↓frzK_def, Blk.fz, Blk.fg, ↓openKO_def, openOp, Blk.isGone, Blk.idsB, Blk.sidsB, Blk.ren, EndsO, Blk.ids, Op.operands, Call.operands, List.map_cons, List.map_nil, List.toList_toArray, Array.toList_append, Option.toArray_some, Option.toArray_none, Bool.and_self, -coe, coe_w, coe_str, coe_agg, coe_tup, coe_sb, coe_si, coe_cp, coe_ms, coe_rf, coe_fn, coe_cons, ty, Sget8, Ojust, get8Pl, get8S, newS, rfixS, numS, rtextS', doneS, put8S, eqB8, numbersO, rd, hb, hK', numF, hb0, he0, hl0, hn0, hb1, he1, hl1, hn1, hb2, he2, hl2, hn2, hb3, he3, hl3, hn3, hb4, he4, hl4, hn4, hb5, he5, hl5, hC, hW, hD, tk, List.length_nil, Nat.zero_le, Int.reduceLT, Int.reduceLE, fillS]
    refine awpO_unr 6 ?_
    simp -implicitDefEqProofs only [evT, evD0, evD1, evD2, implies_true, forall_const, Option.getD, later_normal, aop, aLen, ev, putSlot, cv, cvl, aConv, aBin, aInt, aUn, aFn, aEq, List.length, IntKind.bits, evo, coe, List.append, List.replicate, Nat.reduceAdd, Nat.reduceSub, Nat.reduceMul, Int.reduceToNat, reduceCtorEq, aIndexAddr, aIndex, TD.aggr, aPick, aMin, aMax, Ax.Ends, rone, ↓reduceIte, List.isEmpty, Int.reducePow, Nat.reducePow, Int.reduceMod, Nat.reduceLeDiff, Int.reduceLE, Int.reduceNe, Int.reduceEq, aAppend, appendB, viewB, List.drop, List.take, aRange, aNext, aCopy, srcB, viewG, appendG, appendI, aSlice, bnd, full3, aStore, setB, AV.leaves, AV.okv, AV.leaf, one, elemLeaves, Blk.size, Blk.len, Option.isSome, Option.isNone, aStr, aNil, aExtract, viewI, Nat.reduceEqDiff, Nat.reduceLT, Nat.reduceBEq, List.contains, List.elem, Blk.closed, Blk.noimm, ↓gsplit_tt, ↓gsplit_ff, ↓gsplit_tf, ↓gsplit_ft, ↓csplit_t, ↓csplit_f, givenUp, Blk.clean, notMs, evDO, evTO, evTP, laterO_normal, ↓frzK_def, Blk.fz, Blk.fg, ↓openKO_def, openOp, Blk.isGone, Blk.idsB, Blk.sidsB, Blk.ren, EndsO, Blk.ids, Op.operands, Call.operands, List.map_cons, List.map_nil, List.toList_toArray, Array.toList_append, Option.toArray_some, Option.toArray_none, Bool.and_self, -coe, coe_w, coe_str, coe_agg, coe_tup, coe_sb, coe_si, coe_cp, coe_ms, coe_rf, coe_fn, coe_cons, ty, Sget8, Ojust, get8Pl, get8S, newS, rfixS, numS, rtextS', doneS, put8S, eqB8, numbersO, rd, hb, hK', numF, hb0, he0, hl0, hn0, hb1, he1, hl1, hn1, hb2, he2, hl2, hn2, hb3, he3, hl3, hn3, hb4, he4, hl4, hn4, hb5, he5, hl5, hC, hW, hD, tk, List.length_nil, Nat.zero_le, Int.reduceLT, Int.reduceLE, fillS, unrO_go, unK_normal, unK_exit, unK_ret, Int.reduceAdd, Int.reduceSub, cst, X.2, v1, v2, mtA]
    repeat (refine And.intro (by first | omega | (clear hb0 he0; omega)) ?_)
    refine ⟨_, Weak.refl _, ?_⟩
    simp -implicitDefEqProofs only [evT, evD0, evD1, evD2, implies_true, forall_const, Option.getD, later_normal, aop, aLen, ev, putSlot, cv, cvl, aConv, aBin, aInt, aUn, aFn, aEq, List.length, IntKind.bits, evo, coe, List.append, List.replicate, Nat.reduceAdd, Nat.reduceSub, Nat.reduceMul, Int.reduceToNat, reduceCtorEq, aIndexAddr, aIndex, TD.aggr, aPick, aMin, aMax, Ax.Ends, rone, ↓reduceIte, List.isEmpty, Int.reducePow, Nat.reducePow, Int.reduceMod, Nat.reduceLeDiff, Int.reduceLE, Int.reduceNe, Int.reduceEq, aAppend, appendB, viewB, List.drop, List.take, aRange, aNext, aCopy, srcB, viewG, appendG, appendI, aSlice, bnd, full3, aStore, setB, AV.leaves, AV.okv, AV.leaf, one, elemLeaves, Blk.size, Blk.len, Option.isSome, Option.isNone, aStr, aNil, aExtract, viewI, Nat.reduceEqDiff, Nat.reduceLT, Nat.reduceBEq, List.contains, List.elem, Blk.closed, Blk.noimm, ↓gsplit_tt, ↓gsplit_ff, ↓gsplit_tf, ↓gsplit_ft, ↓csplit_t, ↓csplit_f, givenUp, Blk.clean, notMs, evDO, evTO, evTP, laterO_normal, ↓frzK_def, Blk.fz, Blk.fg, ↓openKO_def, openOp, Blk.isGone, Blk.idsB, Blk.sidsB, Blk.ren, EndsO, Blk.ids, Op.operands, Call.operands, List.map_cons, List.map_nil, List.toList_toArray, Array.toList_append, Option.toArray_some, Option.toArray_none, Bool.and_self, -coe, coe_w, coe_str, coe_agg, coe_tup, coe_sb, coe_si, coe_cp, coe_ms, coe_rf, coe_fn, coe_cons, ty, mtA, v1, v2]
  all_goals
    obtain ⟨v1, v2⟩ := hVno X.1
    simp -implicitDefEqProofs only [evT, evD0, evD1, evD2, implies_true, forall_const, Option.getD, later_normal, aop, aLen, ev, putSlot, cv, cvl, aConv, aBin, aInt, aUn, aFn, aEq, List.length, IntKind.bits, evo, coe, List.append, List.replicate, Nat.reduceAdd, Nat.reduceSub, Nat.reduceMul, Int.reduceToNat, reduceCtorEq, aIndexAddr, aIndex, TD.aggr, aPick, aMin, aMax, Ax.Ends, rone, ↓reduceIte, List.isEmpty, Int.reducePow, Nat.reducePow, Int.reduceMod, Nat.reduceLeDiff, Int.reduceLE, Int.reduceNe, Int.reduceEq, aAppend, appendB, viewB, List.drop, List.take, aRange, aNext, aCopy, srcB, viewG, appendG, appendI, aSlice, bnd, full3, aStore, setB, AV.leaves, AV.okv, AV.leaf, one, elemLeaves, Blk.size, Blk.len, Option.isSome, Option.isNone, aStr, aNil, aExtract, viewI, Nat.reduceEqDiff, Nat.reduceLT, Nat.reduceBEq, List.contains, List.elem, Blk.closed, Blk.noimm, ↓gsplit_tt, ↓gsplit_ff, ↓gsplit_tf, ↓gsplit_ft, ↓csplit_t, ↓csplit_f, givenUp, Blk.clean, notMs, evDO, evTO, evTP, laterO_normal, ↓frzK_def, Blk.fz, Blk.fg, ↓openKO_def, openOp, Blk.isGone, Blk.idsB, Blk.sidsB, Blk.ren, EndsO, Blk.ids, Op.operands, Call.operands, List.map_cons, List.map_nil, List.toList_toArray, Array.toList_append, Option.toArray_some, Option.toArray_none, Bool.and_self, -coe, coe_w, coe_str, coe_agg, coe_tup, coe_sb, coe_si, coe_cp, coe_ms, coe_rf, coe_fn, coe_cons, ty, Sget8, Ojust, get8Pl, get8S, newS, rfixS, numS, rtextS', doneS, put8S, eqB8, numbersO, rd, hb, hK', numF, hb0, he0, hl0, hn0, hb1, he1, hl1, hn1, hb2, he2, hl2, hn2, hb3, he3, hl3, hn3, hb4, he4, hl4, hn4, hb5, he5, hl5, hC, hW, hD, tk, List.length_nil, Nat.zero_le, Int.reduceLT, Int.reduceLE, fillS]
    refine awpO_unr 6 ?_
    simp -implicitDefEqProofs only [evT, evD0, evD1, evD2, implies_true, forall_const, Option.getD, later_normal, aop, aLen, ev, putSlot, cv, cvl, aConv, aBin, aInt, aUn, aFn, aEq, List.length, IntKind.bits, evo, coe, List.append, List.replicate, Nat.reduceAdd, Nat.reduceSub, Nat.reduceMul, Int.reduceToNat, reduceCtorEq, aIndexAddr, aIndex, TD.aggr, aPick, aMin, aMax, Ax.Ends, rone, ↓reduceIte, List.isEmpty, Int.reducePow, Nat.reducePow, Int.reduceMod, Nat.reduceLeDiff, Int.reduceLE, Int.reduceNe, Int.reduceEq, aAppend, appendB, viewB, List.drop, List.take, aRange, aNext, aCopy, srcB, viewG, appendG, appendI, aSlice, bnd, full3, aStore, setB, AV.leaves, AV.okv, AV.leaf, one, elemLeaves, Blk.size, Blk.len, Option.isSome, Option.isNone, aStr, aNil, aExtract, viewI, Nat.reduceEqDiff, Nat.reduceLT, Nat.reduceBEq, List.contains, List.elem, Blk.closed, Blk.noimm, ↓gsplit_tt, ↓gsplit_ff, ↓gsplit_tf, ↓gsplit_ft, ↓csplit_t, ↓csplit_f, givenUp, Blk.clean, notMs, evDO, evTO, evTP, laterO_normal, ↓frzK_def, Blk.fz, Blk.fg, ↓openKO_def, openOp, Blk.isGone, Blk.idsB, Blk.sidsB, Blk.ren, EndsO, Blk.ids, Op.operands, Call.operands, List.map_cons, List.map_nil, List.toList_toArray, Array.toList_append, Option.toArray_some, Option.toArray_none, Bool.and_self, -coe, coe_w, coe_str, coe_agg, coe_tup, coe_sb, coe_si, coe_cp, coe_ms, coe_rf, coe_fn, coe_cons, ty, Sget8, Ojust, get8Pl, get8S, newS, rfixS, numS, rtextS', doneS, put8S, eqB8, numbersO, rd, hb, hK', numF, hb0, he0, hl0, hn0, hb1, he1, hl1, hn1, hb2, he2, hl2, hn2, hb3, he3, hl3, hn3, hb4, he4, hl4, hn4, hb5, he5, hl5, hC, hW, hD, tk, List.length_nil, Nat.zero_le, Int.reduceLT, Int.reduceLE, fillS, unrO_go, unK_normal, unK_exit, unK_ret, Int.reduceAdd, Int.reduceSub, cst, X.2, v1, v2, mtA, zM]
    repeat (refine And.intro (by first | omega | (clear hb0 he0; omega)) ?_)
    refine ⟨_, Weak.refl _, ?_⟩
    simp -implicitDefEqProofs only [evT, evD0, evD1, evD2, implies_true, forall_const, Option.getD, later_normal, aop, aLen, ev, putSlot, cv, cvl, aConv, aBin, aInt, aUn, aFn, aEq, List.length, IntKind.bits, evo, coe, List.append, List.replicate, Nat.reduceAdd, Nat.reduceSub, Nat.reduceMul, Int.reduceToNat, reduceCtorEq, aIndexAddr, aIndex, TD.aggr, aPick, aMin, aMax, Ax.Ends, rone, ↓reduceIte, List.isEmpty, Int.reducePow, Nat.reducePow, Int.reduceMod, Nat.reduceLeDiff, Int.reduceLE, Int.reduceNe, Int.reduceEq, aAppend, appendB, viewB, List.drop, List.take, aRange, aNext, aCopy, srcB, viewG, appendG, appendI, aSlice, bnd, full3, aStore, setB, AV.leaves, AV.okv, AV.leaf, one, elemLeaves, Blk.size, Blk.len, Option.isSome, Option.isNone, aStr, aNil, aExtract, viewI, Nat.reduceEqDiff, Nat.reduceLT, Nat.reduceBEq, List.contains, List.elem, Blk.closed, Blk.noimm, ↓gsplit_tt, ↓gsplit_ff, ↓gsplit_tf, ↓gsplit_ft, ↓csplit_t, ↓csplit_f, givenUp, Blk.clean, notMs, evDO, evTO, evTP, laterO_normal, ↓frzK_def, Blk.fz, Blk.fg, ↓openKO_def, openOp, Blk.isGone, Blk.idsB, Blk.sidsB, Blk.ren, EndsO, Blk.ids, Op.operands, Call.operands, List.map_cons, List.map_nil, List.toList_toArray, Array.toList_append, Option.toArray_some, Option.toArray_none, Bool.and_self, -coe, coe_w, coe_str, coe_agg, coe_tup, coe_sb, coe_si, coe_cp, coe_ms, coe_rf, coe_fn, coe_cons, ty, mtA, zM, v1, v2]
set_option maxHeartbeats 4000000 in
theorem get8_k5 (b : List UInt8) (f : Bool) (hb : b.length ≤ 1000000) (hK : rK b = 5) :
    awpO Sget8 Ojust ty get8Pl (Try.f16.body.getD .skip) (EndsW ty Try.f16.results.toList [] (get8S [.sb b f] [])) ⟨[AV.sb b f] ++ List.replicate (Try.f16.ntmps - [AV.sb b f].length) .junk, pinHeap 0 [], 4⟩ := by
  have hK' : rfixN 1 b 0 % 256 = 5 := hK
  obtain ⟨b0, hb0⟩ : ∃ x, rfixL 1 b 0 = x := ⟨_, rfl⟩
  obtain ⟨e0, he0⟩ : ∃ x, rfixE 1 b 0 = x := ⟨_, rfl⟩
  have hl0 : b0.length ≤ 1000000 := by have := rfixL_len8 1 b 0; rw [hb0] at this; omega
  have q0 : rq0 b = (b0, e0) := by unfold rq0; rw [hb0, he0]
  obtain ⟨n0, hn0⟩ : ∃ x, numN b0 e0 = x := ⟨_, rfl⟩
  obtain ⟨b1, hb1⟩ : ∃ x, numL b0 e0 = x := ⟨_, rfl⟩
  obtain ⟨e1, he1⟩ : ∃ x, numE b0 e0 = x := ⟨_, rfl⟩
  have hl1 : b1.length ≤ 1000000 := by have := numL_length b0 e0; rw [hb1] at this; omega
  have q1 : rq1 b = (b1, e1) := by unfold rq1; rw [q0]; unfold rst; simp only [hb1, he1]
  have w0 : rnu (rq0 b) = n0 := by rw [q0]; exact hn0
  obtain ⟨n1, hn1⟩ : ∃ x, numN b1 e1 = x := ⟨_, rfl⟩
  obtain ⟨b2, hb2⟩ : ∃ x, numL b1 e1 = x := ⟨_, rfl⟩
  obtain ⟨e2, he2⟩ : ∃ x, numE b1 e1 = x := ⟨_, rfl⟩
  have hl2 : b2.length ≤ 1000000 := by have := numL_length b1 e1; rw [hb2] at this; omega
  have q2 : rq2 b = (b2, e2) := by unfold rq2; rw [q1]; unfold rst; simp only [hb2, he2]
  have w1 : rnu (rq1 b) = n1 := by rw [q1]; exact hn1
  obtain ⟨n2, hn2⟩ : ∃ x, numN b2 e2 = x := ⟨_, rfl⟩
  obtain ⟨b3, hb3⟩ : ∃ x, numL b2 e2 = x := ⟨_, rfl⟩
  obtain ⟨e3, he3⟩ : ∃ x, numE b2 e2 = x := ⟨_, rfl⟩
  have hl3 : b3.length ≤ 1000000 := by have := numL_length b2 e2; rw [hb3] at this; omega
  have q3 : rq3 b = (b3, e3) := by unfold rq3; rw [q2]; unfold rst; simp only [hb3, he3]
  have w2 : rnu (rq2 b) = n2 := by rw [q2]; exact hn2
  have hM : rdM b = ⟨5, n0, n1, [], 0, false, 0, n2, 0⟩ := by unfold rdM; rw [hK]; simp only [Int.reduceEq, if_true, if_false, w0, w1, w2]
  have hQ : rdQ b = (b3, e3) := by unfold rdQ; rw [hK]; simp only [Int.reduceEq, if_true, if_false]; exact q3
  obtain ⟨D, hD⟩ : ∃ x, (if e3 = 0 ∧ 0 < b3.length then (4 : Int) else e3) = x := ⟨_, rfl⟩
  obtain ⟨C, hC⟩ : ∃ x, chkM ⟨5, n0, n1, [], 0, false, 0, n2, 0⟩ = x := ⟨_, rfl⟩
  obtain ⟨W, hW⟩ : ∃ x, putB8 ⟨5, n0, n1, [], 0, false, 0, n2, 0⟩ = x := ⟨_, rfl⟩
  have hcase := get_cases b hM hQ hD hC hW
  have tk : ∀ l : List UInt8, List.take l.length l = l := fun l => List.take_length
  have hVok : getOk b → getA b = mtA ⟨5, n0, n1, [], 0, false, 0, n2, 0⟩ ∧ (if getOk b then (0 : Int) else 4) = 0 := by
    intro h; unfold getA getMt; rw [if_pos h, if_pos h, hM]; exact ⟨rfl, rfl⟩
  have hVno : ¬ getOk b → getA b = mtA zM ∧ (if getOk b then (0 : Int) else 4) = 4 := by
    intro h; unfold getA getMt; rw [if_neg h, if_neg h]; exact ⟨rfl, rfl⟩
  unfold Try.f16
  rcases hcase with X | X | X | X
  · obtain ⟨v1, v2⟩ := hVok X.1
    simp -implicitDefEqProofs only [evT, evD0, evD1, evD2, implies_true, forall_const, Option.getD, later_normal, aop, aLen, ev, putSlot, cv, cvl, aConv, aBin, aInt, aUn, aFn, aEq, List.length, IntKind.bits, evo, coe, List.append, List.replicate, Nat.reduceAdd, Nat.reduceSub, Nat.reduceMul, Int.reduceToNat, reduceCtorEq, aIndexAddr, aIndex, TD.aggr, aPick, aMin, aMax, Ax.Ends, rone, ↓reduceIte, List.isEmpty, Int.reducePow, Nat.reducePow, Int.reduceMod, Nat.reduceLeDiff, Int.reduceLE, Int.reduceNe, Int.reduceEq, aAppend, appendB, viewB, List.drop, List.take, aRange, aNext, aCopy, srcB, viewG, appendG, appendI, aSlice, bnd, full3, aStore, setB, AV.leaves, AV.okv, AV.leaf, one, elemLeaves, Blk.size, Blk.len, Option.isSome, Option.isNone, aStr, aNil, aExtract, viewI, Nat.reduceEqDiff, Nat.reduceLT, Nat.reduceBEq, List.contains, List.elem, Blk.closed, Blk.noimm, ↓gsplit_tt, ↓gsplit_ff, ↓gsplit_tf, ↓gsplit_ft, ↓csplit_t, ↓csplit_f, givenUp, Blk.clean, notMs, evDO, evTO, evTP, laterO_normal, ↓frzK_def, Blk.fz, Blk.fg, ↓openKO_def, openOp, Blk.isGone, Blk.idsB, Blk.sidsB, Blk.ren, EndsO, Blk.ids, Op.operands, Call.operands, List.map_cons, List.map_nil, List.toList_toArray, Array.toList_append, Option.toArray_some, Option.toArray_none, Bool.and_self, -coe, coe_w, coe_str, coe_agg, coe_tup, coe_sb, coe_si, coe_cp, coe_ms, coe_rf, coe_fn, coe_cons, ty, Sget8, Ojust, get8Pl, get8S, newS, rfixS, numS, rtextS', doneS, put8S, eqB8, numbersO, rd, hb, hK', numF, hb0, he0, hl0, hn0, hb1, he1, hl1, hn1, hb2, he2, hl2, hn2, hb3, he3, hl3, hC, hW, hD, tk, List.length_nil, Nat.zero_le, Int.reduceLT, Int.reduceLE, fillS]
    refine awpO_unr 6 ?_
    simp -implicitDefEqProofs only [evT, evD0, evD1, evD2, implies_true, forall_const, Option.getD, later_normal, aop, aLen, ev, putSlot, cv, cvl, aConv, aBin, aInt, aUn, aFn, aEq, List.length, IntKind.bits, evo, coe, List.append, List.replicate, Nat.reduceAdd, Nat.reduceSub, Nat.reduceMul, Int.reduceToNat, reduceCtorEq, aIndexAddr, aIndex, TD.aggr, aPick, aMin, aMax, Ax.Ends, rone, ↓reduceIte, List.isEmpty, Int.reducePow, Nat.reducePow, Int.reduceMod, Nat.reduceLeDiff, Int.reduceLE, Int.reduceNe, Int.reduceEq, aAppend, appendB, viewB, List.drop, List.take, aRange, aNext, aCopy, srcB, viewG, appendG, appendI, aSlice, bnd, full3, aStore, setB, AV.leaves, AV.okv, AV.leaf, one, elemLeaves, Blk.size, Blk.len, Option.isSome, Option.isNone, aStr, aNil, aExtract, viewI, Nat.reduceEqDiff, Nat.reduceLT, Nat.reduceBEq, List.contains, List.elem, Blk.closed, Blk.noimm, ↓gsplit_tt, ↓gsplit_ff, ↓gsplit_tf, ↓gsplit_ft, ↓csplit_t, ↓csplit_f, givenUp, Blk.clean, notMs, evDO, evTO, evTP, laterO_normal, ↓frzK_def, Blk.fz, Blk.fg, ↓openKO_def, openOp, Blk.isGone, Blk.idsB, Blk.sidsB, Blk.ren, EndsO, Blk.ids, Op.operands, Call.operands, List.map_cons, List.map_nil, List.toList_toArray, Array.toList_append, Option.toArray_some, Option.toArray_none, Bool.and_self, -coe, coe_w, coe_str, coe_agg, coe_tup, coe_sb, coe_si, coe_cp, coe_ms, coe_rf, coe_fn, coe_cons, ty, Sget8, Ojust, get8Pl, get8S, newS, rfixS, numS, rtextS', doneS, put8S, eqB8, numbersO, rd, hb, hK', numF, hb0, he0, hl0, hn0, hb1, he1, hl1, hn1, hb2, he2, hl2, hn2, hb3, he3, hl3, hC, hW, hD, tk, List.length_nil, Nat.zero_le, Int.reduceLT, Int.reduceLE, fillS, unrO_go, unK_normal, unK_exit, unK_ret, Int.reduceAdd, Int.reduceSub, cst, X.2, v1, v2, mtA]
    repeat (refine And.intro (by first | omega | (clear hb0 he0; omega)) ?_)
    refine ⟨_, Weak.refl _, ?_⟩
    simp -implicitDefEqProofs only [evT, evD0, evD1, evD2, implies_true, forall_const, Option.getD, later_normal, aop, aLen, ev, putSlot, cv, cvl, aConv, aBin, aInt, aUn, aFn, aEq, List.length, IntKind.bits, evo, coe, List.append, List.replicate, Nat.reduceAdd, Nat.reduceSub, Nat.reduceMul, Int.reduceToNat, reduceCtorEq, aIndexAddr, aIndex, TD.aggr, aPick, aMin, aMax, Ax.Ends, rone, ↓reduceIte, List.isEmpty, Int.reducePow, Nat.reducePow, Int.reduceMod, Nat.reduceLeDiff, Int.reduceLE, Int.reduceNe, Int.reduceEq, aAppend, appendB, viewB, List.drop, List.take, aRange, aNext, aCopy, srcB, viewG, appendG, appendI, aSlice, bnd, full3, aStore, setB, AV.leaves, AV.okv, AV.leaf, one, elemLeaves, Blk.size, Blk.len, Option.isSome, Option.isNone, aStr, aNil, aExtract, viewI, Nat.reduceEqDiff, Nat.reduceLT, Nat.reduceBEq, List.contains, List.elem, Blk.closed, Blk.noimm, ↓gsplit_tt, ↓gsplit_ff, ↓gsplit_tf, ↓gsplit_ft, ↓csplit_t, ↓csplit_f, givenUp, Blk.clean, notMs, evDO, evTO, evTP, laterO_normal, ↓frzK_def, Blk.fz, Blk.fg, ↓openKO_def, openOp, Blk.isGone, Blk.idsB, Blk.sidsB, Blk.ren, EndsO, Blk.ids, Op.operands, Call.operands, List.map_cons, List.map_nil, List.toList_toArray, Array.toList_append, Option.toArray_some, Option.toArray_none, Bool.and_self, -coe, coe_w, coe_str, coe_agg, coe_tup, coe_sb, coe_si, coe_cp, coe_ms, coe_rf, coe_fn, coe_cons, ty, mtA, v1, v2]
  all_goals
    obtain ⟨v1, v2⟩ := hVno X.1
    simp -implicitDefEqProofs only [evT, evD0, evD1, evD2, implies_true, forall_const, Option.getD, later_normal, aop, aLen, ev, putSlot, cv, cvl, aConv, aBin, aInt, aUn, aFn, aEq, List.length, IntKind.bits, evo, coe, List.append, List.replicate, Nat.reduceAdd, Nat.reduceSub, Nat.reduceMul, Int.reduceToNat, reduceCtorEq, aIndexAddr, aIndex, TD.aggr, aPick, aMin, aMax, Ax.Ends, rone, ↓reduceIte, List.isEmpty, Int.reducePow, Nat.reducePow, Int.reduceMod, Nat.reduceLeDiff, Int.reduceLE, Int.reduceNe, Int.reduceEq, aAppend, appendB, viewB, List.drop, List.take, aRange, aNext, aCopy, srcB, viewG, appendG, appendI, aSlice, bnd, full3, aStore, setB, AV.leaves, AV.okv, AV.leaf, one, elemLeaves, Blk.size, Blk.len, Option.isSome, Option.isNone, aStr, aNil, aExtract, viewI, Nat.reduceEqDiff, Nat.reduceLT, Nat.reduceBEq, List.contains, List.elem, Blk.closed, Blk.noimm, ↓gsplit_tt, ↓gsplit_ff, ↓gsplit_tf, ↓gsplit_ft, ↓csplit_t, ↓csplit_f, givenUp, Blk.clean, notMs, evDO, evTO, evTP, laterO_normal, ↓frzK_def, Blk.fz, Blk.fg, ↓openKO_def, openOp, Blk.isGone, Blk.idsB, Blk.sidsB, Blk.ren, EndsO, Blk.ids, Op.operands, Call.operands, List.map_cons, List.map_nil, List.toList_toArray, Array.toList_append, Option.toArray_some, Option.toArray_none, Bool.and_self, -coe, coe_w, coe_str, coe_agg, coe_tup, coe_sb, coe_si, coe_cp, coe_ms, coe_rf, coe_fn, coe_cons, ty, Sget8, Ojust, get8Pl, get8S, newS, rfixS, numS, rtextS', doneS, put8S, eqB8, numbersO, rd, hb, hK', numF, hb0, he0, hl0, hn0, hb1, he1, hl1, hn1, hb2, he2, hl2, hn2, hb3, he3, hl3, hC, hW, hD, tk, List.length_nil, Nat.zero_le, Int.reduceLT, Int.reduceLE, fillS]
    refine awpO_unr 6 ?_
    simp -implicitDefEqProofs only [evT, evD0, evD1, evD2, implies_true, forall_const, Option.getD, later_normal, aop, aLen, ev, putSlot, cv, cvl, aConv, aBin, aInt, aUn, aFn, aEq, List.length, IntKind.bits, evo, coe, List.append, List.replicate, Nat.reduceAdd, Nat.reduceSub, Nat.reduceMul, Int.reduceToNat, reduceCtorEq, aIndexAddr, aIndex, TD.aggr, aPick, aMin, aMax, Ax.Ends, rone, ↓reduceIte, List.isEmpty, Int.reducePow, Nat.reducePow, Int.reduceMod, Nat.reduceLeDiff, Int.reduceLE, Int.reduceNe, Int.reduceEq, aAppend, appendB, viewB, List.drop, List.take, aRange, aNext, aCopy, srcB, viewG, appendG, appendI, aSlice, bnd, full3, aStore, setB, AV.leaves, AV.okv, AV.leaf, one, elemLeaves, Blk.size, Blk.len, Option.isSome, Option.isNone, aStr, aNil, aExtract, viewI, Nat.reduceEqDiff, Nat.reduceLT, Nat.reduceBEq, List.contains, List.elem, Blk.closed, Blk.noimm, ↓gsplit_tt, ↓gsplit_ff, ↓gsplit_tf, ↓gsplit_ft, ↓csplit_t, ↓csplit_f, givenUp, Blk.clean, notMs, evDO, evTO, evTP, laterO_normal, ↓frzK_def, Blk.fz, Blk.fg, ↓openKO_def, openOp, Blk.isGone, Blk.idsB, Blk.sidsB, Blk.ren, EndsO, Blk.ids, Op.operands, Call.operands, List.map_cons, List.map_nil, List.toList_toArray, Array.toList_append, Option.toArray_some, Option.toArray_none, Bool.and_self, -coe, coe_w, coe_str, coe_agg, coe_tup, coe_sb, coe_si, coe_cp, coe_ms, coe_rf, coe_fn, coe_cons, ty, Sget8, Ojust, get8Pl, get8S, newS, rfixS, numS, rtextS', doneS, put8S, eqB8, numbersO, rd, hb, hK', numF, hb0, he0, hl0, hn0, hb1, he1, hl1, hn1, hb2, he2, hl2, hn2, hb3, he3, hl3, hC, hW, hD, tk, List.length_nil, Nat.zero_le, Int.reduceLT, Int.reduceLE, fillS, unrO_go, unK_normal, unK_exit, unK_ret, Int.reduceAdd, Int.reduceSub, cst, X.2, v1, v2, mtA, zM]
    repeat (refine And.intro (by first | omega | (clear hb0 he0; omega)) ?_)
    refine ⟨_, Weak.refl _, ?_⟩
    simp -implicitDefEqProofs only [evT, evD0, evD1, evD2, implies_true, forall_const, Option.getD, later_normal, aop, aLen, ev, putSlot, cv, cvl, aConv, aBin, aInt, aUn, aFn, aEq, List.length, IntKind.bits, evo, coe, List.append, List.replicate, Nat.reduceAdd, Nat.reduceSub, Nat.reduceMul, Int.reduceToNat, reduceCtorEq, aIndexAddr, aIndex, TD.aggr, aPick, aMin, aMax, Ax.Ends, rone, ↓reduceIte, List.isEmpty, Int.reducePow, Nat.reducePow, Int.reduceMod, Nat.reduceLeDiff, Int.reduceLE, Int.reduceNe, Int.reduceEq, aAppend, appendB, viewB, List.drop, List.take, aRange, aNext, aCopy, srcB, viewG, appendG, appendI, aSlice, bnd, full3, aStore, setB, AV.leaves, AV.okv, AV.leaf, one, elemLeaves, Blk.size, Blk.len, Option.isSome, Option.isNone, aStr, aNil, aExtract, viewI, Nat.reduceEqDiff, Nat.reduceLT, Nat.reduceBEq, List.contains, List.elem, Blk.closed, Blk.noimm, ↓gsplit_tt, ↓gsplit_ff, ↓gsplit_tf, ↓gsplit_ft, ↓csplit_t, ↓csplit_f, givenUp, Blk.clean, notMs, evDO, evTO, evTP, laterO_normal, ↓frzK_def, Blk.fz, Blk.fg, ↓openKO_def, openOp, Blk.isGone, Blk.idsB, Blk.sidsB, Blk.ren, EndsO, Blk.ids, Op.operands, Call.operands, List.map_cons, List.map_nil, List.toList_toArray, Array.toList_append, Option.toArray_some, Option.toArray_none, Bool.and_self, -coe, coe_w, coe_str, coe_agg, coe_tup, coe_sb, coe_si, coe_cp, coe_ms, coe_rf, coe_fn, coe_cons, ty, mtA, zM, v1, v2]
set_option maxHeartbeats 4000000 in
theorem get8_k7 (b : List UInt8) (f : Bool) (hb : b.length ≤ 1000000) (hK : rK b ≠ 0 ∧ rK b ≠ 1 ∧ rK b ≠ 2 ∧ rK b ≠ 3 ∧ rK b ≠ 4 ∧ rK b ≠ 5 ∧ rK b ≠ 6) :
    awpO Sget8 Ojust ty get8Pl (Try.f16.body.getD .skip) (EndsW ty Try.f16.results.toList [] (get8S [.sb b f] [])) ⟨[AV.sb b f] ++ List.replicate (Try.f16.ntmps - [AV.sb b f].length) .junk, pinHeap 0 [], 4⟩ := by
  obtain ⟨K, hKK⟩ : ∃ x, rK b = x := ⟨_, rfl⟩
  have hKr := rK_rng b
  rw [hKK] at hK hKr
  obtain ⟨h0, h1, h2, h3, h4, h5, h6⟩ := hK
  have hKr2 : (0 : Int) ≤ K ∧ K < 256 := hKr
  have hK' : rfixN 1 b 0 % 256 = K := hKK
  obtain ⟨b0, hb0⟩ : ∃ x, rfixL 1 b 0 = x := ⟨_, rfl⟩
  obtain ⟨e0, he0⟩ : ∃ x, rfixE 1 b 0 = x := ⟨_, rfl⟩
  have hl0 : b0.length ≤ 1000000 := by have := rfixL_len8 1 b 0; rw [hb0] at this; omega
  have q0 : rq0 b = (b0, e0) := by unfold rq0; rw [hb0, he0]
  have hM : rdM b = ⟨K, 0, 0, [], 0, false, 0, 0, 0⟩ := by unfold rdM; rw [hKK]; simp only [h0, h1, h2, h3, h4, h5, h6, if_false]
  have hQ : rdQ b = (b0, e0) := by unfold rdQ; rw [hKK]; simp only [h0, h1, h2, h3, h4, h5, h6, if_false]; exact q0
  have hnF : numF K = [] := by unfold numF; simp [h0, h1, h2, h3, h4, h5, h6]
  have dk0 : decide (K = 0) = false := decide_eq_false h0
  obtain ⟨D, hD⟩ : ∃ x, (if e0 = 0 ∧ 0 < b0.length then (4 : Int) else e0) = x := ⟨_, rfl⟩
  obtain ⟨C, hC⟩ : ∃ x, chkM ⟨K, 0, 0, [], 0, false, 0, 0, 0⟩ = x := ⟨_, rfl⟩
  obtain ⟨W, hW⟩ : ∃ x, putB8 ⟨K, 0, 0, [], 0, false, 0, 0, 0⟩ = x := ⟨_, rfl⟩
  have hcase := get_cases b hM hQ hD hC hW
  have tk : ∀ l : List UInt8, List.take l.length l = l := fun l => List.take_length
  have hVok : getOk b → getA b = mtA ⟨K, 0, 0, [], 0, false, 0, 0, 0⟩ ∧ (if getOk b then (0 : Int) else 4) = 0 := by
    intro h; unfold getA getMt; rw [if_pos h, if_pos h, hM]; exact ⟨rfl, rfl⟩
  have hVno : ¬ getOk b → getA b = mtA zM ∧ (if getOk b then (0 : Int) else 4) = 4 := by
    intro h; unfold getA getMt; rw [if_neg h, if_neg h]; exact ⟨rfl, rfl⟩
  unfold Try.f16
  rcases hcase with X | X | X | X
  · obtain ⟨v1, v2⟩ := hVok X.1
    simp -implicitDefEqProofs only [evT, evD0, evD1, evD2, implies_true, forall_const, Option.getD, later_normal, aop, aLen, ev, putSlot, cv, cvl, aConv, aBin, aInt, aUn, aFn, aEq, List.length, IntKind.bits, evo, coe, List.append, List.replicate, Nat.reduceAdd, Nat.reduceSub, Nat.reduceMul, Int.reduceToNat, reduceCtorEq, aIndexAddr, aIndex, TD.aggr, aPick, aMin, aMax, Ax.Ends, rone, ↓reduceIte, List.isEmpty, Int.reducePow, Nat.reducePow, Int.reduceMod, Nat.reduceLeDiff, Int.reduceLE, Int.reduceNe, Int.reduceEq, aAppend, appendB, viewB, List.drop, List.take, aRange, aNext, aCopy, srcB, viewG, appendG, appendI, aSlice, bnd, full3, aStore, setB, AV.leaves, AV.okv, AV.leaf, one, elemLeaves, Blk.size, Blk.len, Option.isSome, Option.isNone, aStr, aNil, aExtract, viewI, Nat.reduceEqDiff, Nat.reduceLT, Nat.reduceBEq, List.contains, List.elem, Blk.closed, Blk.noimm, ↓gsplit_tt, ↓gsplit_ff, ↓gsplit_tf, ↓gsplit_ft, ↓csplit_t, ↓csplit_f, givenUp, Blk.clean, notMs, evDO, evTO, evTP, laterO_normal, ↓frzK_def, Blk.fz, Blk.fg, ↓openKO_def, openOp, Blk.isGone, Blk.idsB, Blk.sidsB, Blk.ren, EndsO, Blk.ids, Op.operands, Call.operands, List.map_cons, List.map_nil, List.toList_toArray, Array.toList_append, Option.toArray_some, Option.toArray_none, Bool.and_self, -coe, coe_w, coe_str, coe_agg, coe_tup, coe_sb, coe_si, coe_cp, coe_ms, coe_rf, coe_fn, coe_cons, ty, Sget8, Ojust, get8Pl, get8S, newS, rfixS, numS, rtextS', doneS, put8S, eqB8, numbersO, rd, hb, hK', hnF, dk0, hKr2, hb0, he0, hl0, hC, hW, hD, tk, List.length_nil, Nat.zero_le, Int.reduceLT, Int.reduceLE, fillS]
    refine awpO_unr 6 ?_
    simp -implicitDefEqProofs only [evT, evD0, evD1, evD2, implies_true, forall_const, Option.getD, later_normal, aop, aLen, ev, putSlot, cv, cvl, aConv, aBin, aInt, aUn, aFn, aEq, List.length, IntKind.bits, evo, coe, List.append, List.replicate, Nat.reduceAdd, Nat.reduceSub, Nat.reduceMul, Int.reduceToNat, reduceCtorEq, aIndexAddr, aIndex, TD.aggr, aPick, aMin, aMax, Ax.Ends, rone, ↓reduceIte, List.isEmpty, Int.reducePow, Nat.reducePow, Int.reduceMod, Nat.reduceLeDiff, Int.reduceLE, Int.reduceNe, Int.reduceEq, aAppend, appendB, viewB, List.drop, List.take, aRange, aNext, aCopy, srcB, viewG, appendG, appendI, aSlice, bnd, full3, aStore, setB, AV.leaves, AV.okv, AV.leaf, one, elemLeaves, Blk.size, Blk.len, Option.isSome, Option.isNone, aStr, aNil, aExtract, viewI, Nat.reduceEqDiff, Nat.reduceLT, Nat.reduceBEq, List.contains, List.elem, Blk.closed, Blk.noimm, ↓gsplit_tt, ↓gsplit_ff, ↓gsplit_tf, ↓gsplit_ft, ↓csplit_t, ↓csplit_f, givenUp, Blk.clean, notMs, evDO, evTO, evTP, laterO_normal, ↓frzK_def, Blk.fz, Blk.fg, ↓openKO_def, openOp, Blk.isGone, Blk.idsB, Blk.sidsB, Blk.ren, EndsO, Blk.ids, Op.operands, Call.operands, List.map_cons, List.map_nil, List.toList_toArray, Array.toList_append, Option.toArray_some, Option.toArray_none, Bool.and_self, -coe, coe_w, coe_str, coe_agg, coe_tup, coe_sb, coe_si, coe_cp, coe_ms, coe_rf, coe_fn, coe_cons, ty, Sget8, Ojust, get8Pl, get8S, newS, rfixS, numS, rtextS', doneS, put8S, eqB8, numbersO, rd, hb, hK', hnF, dk0, hKr2, hb0, he0, hl0, hC, hW, hD, tk, List.length_nil, Nat.zero_le, Int.reduceLT, Int.reduceLE, fillS, unrO_go, unK_normal, unK_exit, unK_ret, Int.reduceAdd, Int.reduceSub, cst, X.2, v1, v2, mtA]
    repeat (refine And.intro (by first | omega | (clear hb0 he0; omega)) ?_)
    refine ⟨_, Weak.refl _, ?_⟩
    simp -implicitDefEqProofs only [evT, evD0, evD1, evD2, implies_true, forall_const, Option.getD, later_normal, aop, aLen, ev, putSlot, cv, cvl, aConv, aBin, aInt, aUn, aFn, aEq, List.length, IntKind.bits, evo, coe, List.append, List.replicate, Nat.reduceAdd, Nat.reduceSub, Nat.reduceMul, Int.reduceToNat, reduceCtorEq, aIndexAddr, aIndex, TD.aggr, aPick, aMin, aMax, Ax.Ends, rone, ↓reduceIte, List.isEmpty, Int.reducePow, Nat.reducePow, Int.reduceMod, Nat.reduceLeDiff, Int.reduceLE, Int.reduceNe, Int.reduceEq, aAppend, appendB, viewB, List.drop, List.take, aRange, aNext, aCopy, srcB, viewG, appendG, appendI, aSlice, bnd, full3, aStore, setB, AV.leaves, AV.okv, AV.leaf, one, elemLeaves, Blk.size, Blk.len, Option.isSome, Option.isNone, aStr, aNil, aExtract, viewI, Nat.reduceEqDiff, Nat.reduceLT, Nat.reduceBEq, List.contains, List.elem, Blk.closed, Blk.noimm, ↓gsplit_tt, ↓gsplit_ff, ↓gsplit_tf, ↓gsplit_ft, ↓csplit_t, ↓csplit_f, givenUp, Blk.clean, notMs, evDO, evTO, evTP, laterO_normal, ↓frzK_def, Blk.fz, Blk.fg, ↓openKO_def, openOp, Blk.isGone, Blk.idsB, Blk.sidsB, Blk.ren, EndsO, Blk.ids, Op.operands, Call.operands, List.map_cons, List.map_nil, List.toList_toArray, Array.toList_append, Option.toArray_some, Option.toArray_none, Bool.and_self, -coe, coe_w, coe_str, coe_agg, coe_tup, coe_sb, coe_si, coe_cp, coe_ms, coe_rf, coe_fn, coe_cons, ty, mtA, v1, v2]
  all_goals
    obtain ⟨v1, v2⟩ := hVno X.1
    simp -implicitDefEqProofs only [evT, evD0, evD1, evD2, implies_true, forall_const, Option.getD, later_normal, aop, aLen, ev, putSlot, cv, cvl, aConv, aBin, aInt, aUn, aFn, aEq, List.length, IntKind.bits, evo, coe, List.append, List.replicate, Nat.reduceAdd, Nat.reduceSub, Nat.reduceMul, Int.reduceToNat, reduceCtorEq, aIndexAddr, aIndex, TD.aggr, aPick, aMin, aMax, Ax.Ends, rone, ↓reduceIte, List.isEmpty, Int.reducePow, Nat.reducePow, Int.reduceMod, Nat.reduceLeDiff, Int.reduceLE, Int.reduceNe, Int.reduceEq, aAppend, appendB, viewB, List.drop, List.take, aRange, aNext, aCopy, srcB, viewG, appendG, appendI, aSlice, bnd, full3, aStore, setB, AV.leaves, AV.okv, AV.leaf, one, elemLeaves, Blk.size, Blk.len, Option.isSome, Option.isNone, aStr, aNil, aExtract, viewI, Nat.reduceEqDiff, Nat.reduceLT, Nat.reduceBEq, List.contains, List.elem, Blk.closed, Blk.noimm, ↓gsplit_tt, ↓gsplit_ff, ↓gsplit_tf, ↓gsplit_ft, ↓csplit_t, ↓csplit_f, givenUp, Blk.clean, notMs, evDO, evTO, evTP, laterO_normal, ↓frzK_def, Blk.fz, Blk.fg, ↓openKO_def, openOp, Blk.isGone, Blk.idsB, Blk.sidsB, Blk.ren, EndsO, Blk.ids, Op.operands, Call.operands, List.map_cons, List.map_nil, List.toList_toArray, Array.toList_append, Option.toArray_some, Option.toArray_none, Bool.and_self, -coe, coe_w, coe_str, coe_agg, coe_tup, coe_sb, coe_si, coe_cp, coe_ms, coe_rf, coe_fn, coe_cons, ty, Sget8, Ojust, get8Pl, get8S, newS, rfixS, numS, rtextS', doneS, put8S, eqB8, numbersO, rd, hb, hK', hnF, dk0, hKr2, hb0, he0, hl0, hC, hW, hD, tk, List.length_nil, Nat.zero_le, Int.reduceLT, Int.reduceLE, fillS]
    refine awpO_unr 6 ?_
    simp -implicitDefEqProofs only [evT, evD0, evD1, evD2, implies_true, forall_const, Option.getD, later_normal, aop, aLen, ev, putSlot, cv, cvl, aConv, aBin, aInt, aUn, aFn, aEq, List.length, IntKind.bits, evo, coe, List.append, List.replicate, Nat.reduceAdd, Nat.reduceSub, Nat.reduceMul, Int.reduceToNat, reduceCtorEq, aIndexAddr, aIndex, TD.aggr, aPick, aMin, aMax, Ax.Ends, rone, ↓reduceIte, List.isEmpty, Int.reducePow, Nat.reducePow, Int.reduceMod, Nat.reduceLeDiff, Int.reduceLE, Int.reduceNe, Int.reduceEq, aAppend, appendB, viewB, List.drop, List.take, aRange, aNext, aCopy, srcB, viewG, appendG, appendI, aSlice, bnd, full3, aStore, setB, AV.leaves, AV.okv, AV.leaf, one, elemLeaves, Blk.size, Blk.len, Option.isSome, Option.isNone, aStr, aNil, aExtract, viewI, Nat.reduceEqDiff, Nat.reduceLT, Nat.reduceBEq, List.contains, List.elem, Blk.closed, Blk.noimm, ↓gsplit_tt, ↓gsplit_ff, ↓gsplit_tf, ↓gsplit_ft, ↓csplit_t, ↓csplit_f, givenUp, Blk.clean, notMs, evDO, evTO, evTP, laterO_normal, ↓frzK_def, Blk.fz, Blk.fg, ↓openKO_def, openOp, Blk.isGone, Blk.idsB, Blk.sidsB, Blk.ren, EndsO, Blk.ids, Op.operands, Call.operands, List.map_cons, List.map_nil, List.toList_toArray, Array.toList_append, Option.toArray_some, Option.toArray_none, Bool.and_self, -coe, coe_w, coe_str, coe_agg, coe_tup, coe_sb, coe_si, coe_cp, coe_ms, coe_rf, coe_fn, coe_cons, ty, Sget8, Ojust, get8Pl, get8S, newS, rfixS, numS, rtextS', doneS, put8S, eqB8, numbersO, rd, hb, hK', hnF, dk0, hKr2, hb0, he0, hl0, hC, hW, hD, tk, List.length_nil, Nat.zero_le, Int.reduceLT, Int.reduceLE, fillS, unrO_go, unK_normal, unK_exit, unK_ret, Int.reduceAdd, Int.reduceSub, cst, X.2, v1, v2, mtA, zM]
    repeat (refine And.intro (by first | omega | (clear hb0 he0; omega)) ?_)
    refine ⟨_, Weak.refl _, ?_⟩
    simp -implicitDefEqProofs only [evT, evD0, evD1, evD2, implies_true, forall_const, Option.getD, later_normal, aop, aLen, ev, putSlot, cv, cvl, aConv, aBin, aInt, aUn, aFn, aEq, List.length, IntKind.bits, evo, coe, List.append, List.replicate, Nat.reduceAdd, Nat.reduceSub, Nat.reduceMul, Int.reduceToNat, reduceCtorEq, aIndexAddr, aIndex, TD.aggr, aPick, aMin, aMax, Ax.Ends, rone, ↓reduceIte, List.isEmpty, Int.reducePow, Nat.reducePow, Int.reduceMod, Nat.reduceLeDiff, Int.reduceLE, Int.reduceNe, Int.reduceEq, aAppend, appendB, viewB, List.drop, List.take, aRange, aNext, aCopy, srcB, viewG, appendG, appendI, aSlice, bnd, full3, aStore, setB, AV.leaves, AV.okv, AV.leaf, one, elemLeaves, Blk.size, Blk.len, Option.isSome, Option.isNone, aStr, aNil, aExtract, viewI, Nat.reduceEqDiff, Nat.reduceLT, Nat.reduceBEq, List.contains, List.elem, Blk.closed, Blk.noimm, ↓gsplit_tt, ↓gsplit_ff, ↓gsplit_tf, ↓gsplit_ft, ↓csplit_t, ↓csplit_f, givenUp, Blk.clean, notMs, evDO, evTO, evTP, laterO_normal, ↓frzK_def, Blk.fz, Blk.fg, ↓openKO_def, openOp, Blk.isGone, Blk.idsB, Blk.sidsB, Blk.ren, EndsO, Blk.ids, Op.operands, Call.operands, List.map_cons, List.map_nil, List.toList_toArray, Array.toList_append, Option.toArray_some, Option.toArray_none, Bool.and_self, -coe, coe_w, coe_str, coe_agg, coe_tup, coe_sb, coe_si, coe_cp, coe_ms, coe_rf, coe_fn, coe_cons, ty, mtA, zM, v1, v2]
theorem get8_sound : Sound Try.prog 16 get8S := by
  refine fn_soundOK (S := Sget8) (SO := Ojust) (T := ty) mixed ty_ok Sget8_ok Ojust_ok Try.func16 (c := Try.f16.body.getD .skip) (by kernel_rfl) (fun xs pins hp _ => ?_)
  have hx : ∃ b f, xs = [.sb b f] ∧ pins = [] ∧ b.length ≤ 1000000 := by
    unfold get8S at hp
    split at hp
    · rename_i b f _
      exact ⟨b, f, rfl, rfl, hp⟩
    · exact hp.elim
  obtain ⟨b, f, rfl, rfl, hb⟩ := hx
  refine ⟨by simp, get8Pl, by kernel_rfl, ?_⟩
  rcases kind_cases (rK b) with h | h | h | h | h | h | h | h
  · exact get8_k0 b f hb h
  · exact get8_k1 b f hb h
  · exact get8_k2 b f hb h
  · exact get8_k3 b f hb h
  · exact get8_k4 b f hb h
  · exact get8_k5 b f hb h
  · exact get8_k6 b f hb h
  · exact get8_k7 b f hb h
end
end Go.Proofs.Ytlbdhkgjhjcgiaa
