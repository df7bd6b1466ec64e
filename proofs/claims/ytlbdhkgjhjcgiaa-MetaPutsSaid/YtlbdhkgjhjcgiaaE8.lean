/- Layer 8: a meta is read of its bytes, as the document says. -/
import Derived.Test.YtlbdhkgjhjcgiaaE7
namespace Go.Proofs.Ytlbdhkgjhjcgiaa
open Ax
set_option linter.unusedSimpArgs false
set_option linter.unusedVariables false

def rrdM (b : List UInt8) : Mt := if rK b ≤ 6 then rdM b else ⟨rK b, rnu (rq0 b), rnu (rq1 b), [], 0, false, rnu (rq2 b), rnu (rq3 b), 0⟩
def rrdA (b : List UInt8) : AV := mtA (rrdM b)
def readS : FSpec
  | [.sb b f], [] => ⟨b.length ≤ 1000000, rrdA b, []⟩
  | _, _ => noRes
def Sread8 (f : FuncId) : Option FSpec :=
  match f with
  | 51 => some rrfixS
  | 39 => some rrnumS
  | 40 => some rrtextS
  | _ => none
theorem Sread8_ok : Fns Try.prog Sread8 := by
  intro f s h
  unfold Sread8 at h
  split at h
  · injection h with h; subst h; exact ⟨⟨_, Try.func51, by kernel_rfl, by kernel_rfl⟩, rrfix_sound⟩
  · injection h with h; subst h; exact ⟨⟨_, Try.func39, by kernel_rfl, by kernel_rfl⟩, rrnum_sound⟩
  · injection h with h; subst h; exact ⟨⟨_, Try.func40, by kernel_rfl, by kernel_rfl⟩, rrtext_sound⟩
  · cases h
section
set_option maxRecDepth 100000
set_option maxHeartbeats 4000000 in
theorem read8_sound : Sound Try.prog 38 readS := by
  refine fn_soundW (S := Sread8) (T := ty) mixed ty_ok Sread8_ok Try.func38 (c := Try.f38.body.getD .skip) (by kernel_rfl) (by kernel_rfl) (fun xs pins hp _ => ?_)
  have hx : ∃ b f, xs = [.sb b f] ∧ pins = [] ∧ b.length ≤ 1000000 := by
    unfold readS at hp
    split at hp
    · rename_i b f _
      exact ⟨b, f, rfl, rfl, hp⟩
    · exact hp.elim
  obtain ⟨b, f, rfl, rfl, hb⟩ := hx
  refine ⟨by simp, ?_⟩
  obtain ⟨b0, hb0⟩ : ∃ x, rfixL 1 b 0 = x := ⟨_, rfl⟩
  obtain ⟨e0, he0⟩ : ∃ x, rfixE 1 b 0 = x := ⟨_, rfl⟩
  have hl0 : b0.length ≤ 1000000 := by have := rfixL_len8 1 b 0; rw [hb0] at this; omega
  have q0 : rq0 b = (b0, e0) := by unfold rq0; rw [hb0, he0]
  obtain ⟨n0, hn0⟩ : ∃ x, numN b0 e0 = x := ⟨_, rfl⟩
  obtain ⟨b1, hb1⟩ : ∃ x, numL b0 e0 = x := ⟨_, rfl⟩
  obtain ⟨e1, he1⟩ : ∃ x, numE b0 e0 = x := ⟨_, rfl⟩
  have hl1 : b1.length ≤ 1000000 := by have := numL_length b0 e0; rw [hb1] at this; omega
  have q1 : rq1 b = (b1, e1) := by unfold rq1; rw [q0]; unfold rst; simp only [hb1, he1]
  have w0 : rnu (rq0 b) = n0 := by rw [q0]; exact hn0
  obtain ⟨n1, hn1⟩ : ∃ x, numN b1 e1 = x := ⟨_, rfl⟩
  obtain ⟨b2, hb2⟩ : ∃ x, numL b1 e1 = x := ⟨_, rfl⟩
  obtain ⟨e2, he2⟩ : ∃ x, numE b1 e1 = x := ⟨_, rfl⟩
  have hl2 : b2.length ≤ 1000000 := by have := numL_length b1 e1; rw [hb2] at this; omega
  have q2 : rq2 b = (b2, e2) := by unfold rq2; rw [q1]; unfold rst; simp only [hb2, he2]
  have w1 : rnu (rq1 b) = n1 := by rw [q1]; exact hn1
  obtain ⟨n2, hn2⟩ : ∃ x, numN b2 e2 = x := ⟨_, rfl⟩
  obtain ⟨b3, hb3⟩ : ∃ x, numL b2 e2 = x := ⟨_, rfl⟩
  obtain ⟨e3, he3⟩ : ∃ x, numE b2 e2 = x := ⟨_, rfl⟩
  have hl3 : b3.length ≤ 1000000 := by have := numL_length b2 e2; rw [hb3] at this; omega
  have q3 : rq3 b = (b3, e3) := by unfold rq3; rw [q2]; unfold rst; simp only [hb3, he3]
  have w2 : rnu (rq2 b) = n2 := by rw [q2]; exact hn2
  obtain ⟨n3, hn3⟩ : ∃ x, numN b3 e3 = x := ⟨_, rfl⟩
  obtain ⟨b4, hb4⟩ : ∃ x, numL b3 e3 = x := ⟨_, rfl⟩
  obtain ⟨e4, he4⟩ : ∃ x, numE b3 e3 = x := ⟨_, rfl⟩
  have hl4 : b4.length ≤ 1000000 := by have := numL_length b3 e3; rw [hb4] at this; omega
  have q4 : rq4 b = (b4, e4) := by unfold rq4; rw [q3]; unfold rst; simp only [hb4, he4]
  have w3 : rnu (rq3 b) = n3 := by rw [q3]; exact hn3
  obtain ⟨n4, hn4⟩ : ∃ x, numN b4 e4 = x := ⟨_, rfl⟩
  obtain ⟨b5, hb5⟩ : ∃ x, numL b4 e4 = x := ⟨_, rfl⟩
  obtain ⟨e5, he5⟩ : ∃ x, numE b4 e4 = x := ⟨_, rfl⟩
  have hl5 : b5.length ≤ 1000000 := by have := numL_length b4 e4; rw [hb5] at this; omega
  have q5 : rq5 b = (b5, e5) := by unfold rq5; rw [q4]; unfold rst; simp only [hb5, he5]
  have w4 : rnu (rq4 b) = n4 := by rw [q4]; exact hn4
  obtain ⟨s, hS⟩ : ∃ x, rtS' 32 b3 e3 = x := ⟨_, rfl⟩
  obtain ⟨u4, hu4⟩ : ∃ x, rtL 32 b3 e3 = x := ⟨_, rfl⟩
  obtain ⟨g4, hg4⟩ : ∃ x, rtE 32 b3 e3 = x := ⟨_, rfl⟩
  have hK' : rfixN 1 b 0 % 256 = rK b := rfl
  unfold Try.f38
  rcases kind_cases (rK b) with hK | hK | hK | hK | hK | hK | hK | hK
  · rw [hK] at hK'
    have hA : rrdA b = mtA ⟨0, n0, 0, s, n1, decide (n2 = 1), 0, 0, 0⟩ := by
      unfold rrdA rrdM; rw [hK, if_pos (by decide)]; unfold rdM; rw [hK]; simp only [Int.reduceEq, if_true, if_false, w0, w1, w2, w3, w4, q3, hS]
    simp -implicitDefEqProofs only [evT, evD0, evD1, evD2, implies_true, forall_const, Option.getD, later_normal, aop, aLen, ev, putSlot, cv, cvl, aConv, aBin, aInt, aUn, aFn, aEq, List.length, IntKind.bits, evo, coe, List.append, List.replicate, Nat.reduceAdd, Nat.reduceSub, Nat.reduceMul, Int.reduceToNat, reduceCtorEq, aIndexAddr, aIndex, TD.aggr, aPick, aMin, aMax, Ax.Ends, rone, ↓reduceIte, List.isEmpty, Int.reducePow, Nat.reducePow, Int.reduceMod, Nat.reduceLeDiff, Int.reduceLE, Int.reduceNe, Int.reduceEq, aAppend, appendB, viewB, List.drop, List.take, aRange, aNext, aCopy, srcB, viewG, appendG, appendI, aSlice, bnd, full3, aStore, setB, AV.leaves, AV.okv, AV.leaf, one, elemLeaves, Blk.size, Blk.len, Option.isSome, Option.isNone, aStr, aNil, aExtract, viewI, Nat.reduceEqDiff, Nat.reduceLT, Nat.reduceBEq, List.contains, List.elem, Blk.closed, Blk.noimm, ↓gsplit_tt, ↓gsplit_ff, ↓gsplit_tf, ↓gsplit_ft, ↓csplit_t, ↓csplit_f, givenUp, Blk.clean, notMs, -coe, coe_w, coe_str, coe_agg, coe_tup, coe_sb, coe_si, coe_cp, coe_ms, coe_rf, coe_fn, coe_cons, ty, Sread8, readS, rrfixS, rrnumS, rrtextS, rrd, hb, hK', hA, mtA, Int.reduceEq, decide_true, decide_false, hb0, he0, hl0, hn0, hb1, he1, hl1, hn1, hb2, he2, hl2, hn2, hb3, he3, hl3, hn3, hb4, he4, hl4, hn4, hb5, he5, hl5, hS, hu4, hg4, fillS]
    repeat (refine And.intro (by first | omega | (clear hb0 he0; omega)) ?_)
    refine ⟨_, Weak.refl _, ?_⟩
    simp -implicitDefEqProofs only [evT, evD0, evD1, evD2, implies_true, forall_const, Option.getD, later_normal, aop, aLen, ev, putSlot, cv, cvl, aConv, aBin, aInt, aUn, aFn, aEq, List.length, IntKind.bits, evo, coe, List.append, List.replicate, Nat.reduceAdd, Nat.reduceSub, Nat.reduceMul, Int.reduceToNat, reduceCtorEq, aIndexAddr, aIndex, TD.aggr, aPick, aMin, aMax, Ax.Ends, rone, ↓reduceIte, List.isEmpty, Int.reducePow, Nat.reducePow, Int.reduceMod, Nat.reduceLeDiff, Int.reduceLE, Int.reduceNe, Int.reduceEq, aAppend, appendB, viewB, List.drop, List.take, aRange, aNext, aCopy, srcB, viewG, appendG, appendI, aSlice, bnd, full3, aStore, setB, AV.leaves, AV.okv, AV.leaf, one, elemLeaves, Blk.size, Blk.len, Option.isSome, Option.isNone, aStr, aNil, aExtract, viewI, Nat.reduceEqDiff, Nat.reduceLT, Nat.reduceBEq, List.contains, List.elem, Blk.closed, Blk.noimm, ↓gsplit_tt, ↓gsplit_ff, ↓gsplit_tf, ↓gsplit_ft, ↓csplit_t, ↓csplit_f, givenUp, Blk.clean, notMs, -coe, coe_w, coe_str, coe_agg, coe_tup, coe_sb, coe_si, coe_cp, coe_ms, coe_rf, coe_fn, coe_cons, ty, mtA, hA]
  · rw [hK] at hK'
    have hA : rrdA b = mtA ⟨1, n0, 0, [], 0, false, 0, 0, 0⟩ := by
      unfold rrdA rrdM; rw [hK, if_pos (by decide)]; unfold rdM; rw [hK]; simp only [Int.reduceEq, if_true, if_false, w0, w1, w2, w3, w4]
    simp -implicitDefEqProofs only [evT, evD0, evD1, evD2, implies_true, forall_const, Option.getD, later_normal, aop, aLen, ev, putSlot, cv, cvl, aConv, aBin, aInt, aUn, aFn, aEq, List.length, IntKind.bits, evo, coe, List.append, List.replicate, Nat.reduceAdd, Nat.reduceSub, Nat.reduceMul, Int.reduceToNat, reduceCtorEq, aIndexAddr, aIndex, TD.aggr, aPick, aMin, aMax, Ax.Ends, rone, ↓reduceIte, List.isEmpty, Int.reducePow, Nat.reducePow, Int.reduceMod, Nat.reduceLeDiff, Int.reduceLE, Int.reduceNe, Int.reduceEq, aAppend, appendB, viewB, List.drop, List.take, aRange, aNext, aCopy, srcB, viewG, appendG, appendI, aSlice, bnd, full3, aStore, setB, AV.leaves, AV.okv, AV.leaf, one, elemLeaves, Blk.size, Blk.len, Option.isSome, Option.isNone, aStr, aNil, aExtract, viewI, Nat.reduceEqDiff, Nat.reduceLT, Nat.reduceBEq, List.contains, List.elem, Blk.closed, Blk.noimm, ↓gsplit_tt, ↓gsplit_ff, ↓gsplit_tf, ↓gsplit_ft, ↓csplit_t, ↓csplit_f, givenUp, Blk.clean, notMs, -coe, coe_w, coe_str, coe_agg, coe_tup, coe_sb, coe_si, coe_cp, coe_ms, coe_rf, coe_fn, coe_cons, ty, Sread8, readS, rrfixS, rrnumS, rrtextS, rrd, hb, hK', hA, mtA, Int.reduceEq, decide_true, decide_false, hb0, he0, hl0, hn0, hb1, he1, hl1, hn1, hb2, he2, hl2, hn2, hb3, he3, hl3, hn3, hb4, he4, hl4, hn4, hb5, he5, hl5, hS, hu4, hg4, fillS]
    repeat (refine And.intro (by first | omega | (clear hb0 he0; omega)) ?_)
    refine ⟨_, Weak.refl _, ?_⟩
    simp -implicitDefEqProofs only [evT, evD0, evD1, evD2, implies_true, forall_const, Option.getD, later_normal, aop, aLen, ev, putSlot, cv, cvl, aConv, aBin, aInt, aUn, aFn, aEq, List.length, IntKind.bits, evo, coe, List.append, List.replicate, Nat.reduceAdd, Nat.reduceSub, Nat.reduceMul, Int.reduceToNat, reduceCtorEq, aIndexAddr, aIndex, TD.aggr, aPick, aMin, aMax, Ax.Ends, rone, ↓reduceIte, List.isEmpty, Int.reducePow, Nat.reducePow, Int.reduceMod, Nat.reduceLeDiff, Int.reduceLE, Int.reduceNe, Int.reduceEq, aAppend, appendB, viewB, List.drop, List.take, aRange, aNext, aCopy, srcB, viewG, appendG, appendI, aSlice, bnd, full3, aStore, setB, AV.leaves, AV.okv, AV.leaf, one, elemLeaves, Blk.size, Blk.len, Option.isSome, Option.isNone, aStr, aNil, aExtract, viewI, Nat.reduceEqDiff, Nat.reduceLT, Nat.reduceBEq, List.contains, List.elem, Blk.closed, Blk.noimm, ↓gsplit_tt, ↓gsplit_ff, ↓gsplit_tf, ↓gsplit_ft, ↓csplit_t, ↓csplit_f, givenUp, Blk.clean, notMs, -coe, coe_w, coe_str, coe_agg, coe_tup, coe_sb, coe_si, coe_cp, coe_ms, coe_rf, coe_fn, coe_cons, ty, mtA, hA]
  · rw [hK] at hK'
    have hA : rrdA b = mtA ⟨2, n0, n1, [], 0, false, n2, n3, 0⟩ := by
      unfold rrdA rrdM; rw [hK, if_pos (by decide)]; unfold rdM; rw [hK]; simp only [Int.reduceEq, if_true, if_false, w0, w1, w2, w3, w4]
    simp -implicitDefEqProofs only [evT, evD0, evD1, evD2, implies_true, forall_const, Option.getD, later_normal, aop, aLen, ev, putSlot, cv, cvl, aConv, aBin, aInt, aUn, aFn, aEq, List.length, IntKind.bits, evo, coe, List.append, List.replicate, Nat.reduceAdd, Nat.reduceSub, Nat.reduceMul, Int.reduceToNat, reduceCtorEq, aIndexAddr, aIndex, TD.aggr, aPick, aMin, aMax, Ax.Ends, rone, ↓reduceIte, List.isEmpty, Int.reducePow, Nat.reducePow, Int.reduceMod, Nat.reduceLeDiff, Int.reduceLE, Int.reduceNe, Int.reduceEq, aAppend, appendB, viewB, List.drop, List.take, aRange, aNext, aCopy, srcB, viewG, appendG, appendI, aSlice, bnd, full3, aStore, setB, AV.leaves, AV.okv, AV.leaf, one, elemLeaves, Blk.size, Blk.len, Option.isSome, Option.isNone, aStr, aNil, aExtract, viewI, Nat.reduceEqDiff, Nat.reduceLT, Nat.reduceBEq, List.contains, List.elem, Blk.closed, Blk.noimm, ↓gsplit_tt, ↓gsplit_ff, ↓gsplit_tf, ↓gsplit_ft, ↓csplit_t, ↓csplit_f, givenUp, Blk.clean, notMs, -coe, coe_w, coe_str, coe_agg, coe_tup, coe_sb, coe_si, coe_cp, coe_ms, coe_rf, coe_fn, coe_cons, ty, Sread8, readS, rrfixS, rrnumS, rrtextS, rrd, hb, hK', hA, mtA, Int.reduceEq, decide_true, decide_false, hb0, he0, hl0, hn0, hb1, he1, hl1, hn1, hb2, he2, hl2, hn2, hb3, he3, hl3, hn3, hb4, he4, hl4, hn4, hb5, he5, hl5, hS, hu4, hg4, fillS]
    repeat (refine And.intro (by first | omega | (clear hb0 he0; omega)) ?_)
    refine ⟨_, Weak.refl _, ?_⟩
    simp -implicitDefEqProofs only [evT, evD0, evD1, evD2, implies_true, forall_const, Option.getD, later_normal, aop, aLen, ev, putSlot, cv, cvl, aConv, aBin, aInt, aUn, aFn, aEq, List.length, IntKind.bits, evo, coe, List.append, List.replicate, Nat.reduceAdd, Nat.reduceSub, Nat.reduceMul, Int.reduceToNat, reduceCtorEq, aIndexAddr, aIndex, TD.aggr, aPick, aMin, aMax, Ax.Ends, rone, ↓reduceIte, List.isEmpty, Int.reducePow, Nat.reducePow, Int.reduceMod, Nat.reduceLeDiff, Int.reduceLE, Int.reduceNe, Int.reduceEq, aAppend, appendB, viewB, List.drop, List.take, aRange, aNext, aCopy, srcB, viewG, appendG, appendI, aSlice, bnd, full3, aStore, setB, AV.leaves, AV.okv, AV.leaf, one, elemLeaves, Blk.size, Blk.len, Option.isSome, Option.isNone, aStr, aNil, aExtract, viewI, Nat.reduceEqDiff, Nat.reduceLT, Nat.reduceBEq, List.contains, List.elem, Blk.closed, Blk.noimm, ↓gsplit_tt, ↓gsplit_ff, ↓gsplit_tf, ↓gsplit_ft, ↓csplit_t, ↓csplit_f, givenUp, Blk.clean, notMs, -coe, coe_w, coe_str, coe_agg, coe_tup, coe_sb, coe_si, coe_cp, coe_ms, coe_rf, coe_fn, coe_cons, ty, mtA, hA]
  · rw [hK] at hK'
    have hA : rrdA b = mtA ⟨3, n0, n1, [], 0, false, n2, 0, 0⟩ := by
      unfold rrdA rrdM; rw [hK, if_pos (by decide)]; unfold rdM; rw [hK]; simp only [Int.reduceEq, if_true, if_false, w0, w1, w2, w3, w4]
    simp -implicitDefEqProofs only [evT, evD0, evD1, evD2, implies_true, forall_const, Option.getD, later_normal, aop, aLen, ev, putSlot, cv, cvl, aConv, aBin, aInt, aUn, aFn, aEq, List.length, IntKind.bits, evo, coe, List.append, List.replicate, Nat.reduceAdd, Nat.reduceSub, Nat.reduceMul, Int.reduceToNat, reduceCtorEq, aIndexAddr, aIndex, TD.aggr, aPick, aMin, aMax, Ax.Ends, rone, ↓reduceIte, List.isEmpty, Int.reducePow, Nat.reducePow, Int.reduceMod, Nat.reduceLeDiff, Int.reduceLE, Int.reduceNe, Int.reduceEq, aAppend, appendB, viewB, List.drop, List.take, aRange, aNext, aCopy, srcB, viewG, appendG, appendI, aSlice, bnd, full3, aStore, setB, AV.leaves, AV.okv, AV.leaf, one, elemLeaves, Blk.size, Blk.len, Option.isSome, Option.isNone, aStr, aNil, aExtract, viewI, Nat.reduceEqDiff, Nat.reduceLT, Nat.reduceBEq, List.contains, List.elem, Blk.closed, Blk.noimm, ↓gsplit_tt, ↓gsplit_ff, ↓gsplit_tf, ↓gsplit_ft, ↓csplit_t, ↓csplit_f, givenUp, Blk.clean, notMs, -coe, coe_w, coe_str, coe_agg, coe_tup, coe_sb, coe_si, coe_cp, coe_ms, coe_rf, coe_fn, coe_cons, ty, Sread8, readS, rrfixS, rrnumS, rrtextS, rrd, hb, hK', hA, mtA, Int.reduceEq, decide_true, decide_false, hb0, he0, hl0, hn0, hb1, he1, hl1, hn1, hb2, he2, hl2, hn2, hb3, he3, hl3, hn3, hb4, he4, hl4, hn4, hb5, he5, hl5, hS, hu4, hg4, fillS]
    repeat (refine And.intro (by first | omega | (clear hb0 he0; omega)) ?_)
    refine ⟨_, Weak.refl _, ?_⟩
    simp -implicitDefEqProofs only [evT, evD0, evD1, evD2, implies_true, forall_const, Option.getD, later_normal, aop, aLen, ev, putSlot, cv, cvl, aConv, aBin, aInt, aUn, aFn, aEq, List.length, IntKind.bits, evo, coe, List.append, List.replicate, Nat.reduceAdd, Nat.reduceSub, Nat.reduceMul, Int.reduceToNat, reduceCtorEq, aIndexAddr, aIndex, TD.aggr, aPick, aMin, aMax, Ax.Ends, rone, ↓reduceIte, List.isEmpty, Int.reducePow, Nat.reducePow, Int.reduceMod, Nat.reduceLeDiff, Int.reduceLE, Int.reduceNe, Int.reduceEq, aAppend, appendB, viewB, List.drop, List.take, aRange, aNext, aCopy, srcB, viewG, appendG, appendI, aSlice, bnd, full3, aStore, setB, AV.leaves, AV.okv, AV.leaf, one, elemLeaves, Blk.size, Blk.len, Option.isSome, Option.isNone, aStr, aNil, aExtract, viewI, Nat.reduceEqDiff, Nat.reduceLT, Nat.reduceBEq, List.contains, List.elem, Blk.closed, Blk.noimm, ↓gsplit_tt, ↓gsplit_ff, ↓gsplit_tf, ↓gsplit_ft, ↓csplit_t, ↓csplit_f, givenUp, Blk.clean, notMs, -coe, coe_w, coe_str, coe_agg, coe_tup, coe_sb, coe_si, coe_cp, coe_ms, coe_rf, coe_fn, coe_cons, ty, mtA, hA]
  · rw [hK] at hK'
    have hA : rrdA b = mtA ⟨4, n0, n1, [], 0, false, n3, n4, n2⟩ := by
      unfold rrdA rrdM; rw [hK, if_pos (by decide)]; unfold rdM; rw [hK]; simp only [Int.reduceEq, if_true, if_false, w0, w1, w2, w3, w4]
    simp -implicitDefEqProofs only [evT, evD0, evD1, evD2, implies_true, forall_const, Option.getD, later_normal, aop, aLen, ev, putSlot, cv, cvl, aConv, aBin, aInt, aUn, aFn, aEq, List.length, IntKind.bits, evo, coe, List.append, List.replicate, Nat.reduceAdd, Nat.reduceSub, Nat.reduceMul, Int.reduceToNat, reduceCtorEq, aIndexAddr, aIndex, TD.aggr, aPick, aMin, aMax, Ax.Ends, rone, ↓reduceIte, List.isEmpty, Int.reducePow, Nat.reducePow, Int.reduceMod, Nat.reduceLeDiff, Int.reduceLE, Int.reduceNe, Int.reduceEq, aAppend, appendB, viewB, List.drop, List.take, aRange, aNext, aCopy, srcB, viewG, appendG, appendI, aSlice, bnd, full3, aStore, setB, AV.leaves, AV.okv, AV.leaf, one, elemLeaves, Blk.size, Blk.len, Option.isSome, Option.isNone, aStr, aNil, aExtract, viewI, Nat.reduceEqDiff, Nat.reduceLT, Nat.reduceBEq, List.contains, List.elem, Blk.closed, Blk.noimm, ↓gsplit_tt, ↓gsplit_ff, ↓gsplit_tf, ↓gsplit_ft, ↓csplit_t, ↓csplit_f, givenUp, Blk.clean, notMs, -coe, coe_w, coe_str, coe_agg, coe_tup, coe_sb, coe_si, coe_cp, coe_ms, coe_rf, coe_fn, coe_cons, ty, Sread8, readS, rrfixS, rrnumS, rrtextS, rrd, hb, hK', hA, mtA, Int.reduceEq, decide_true, decide_false, hb0, he0, hl0, hn0, hb1, he1, hl1, hn1, hb2, he2, hl2, hn2, hb3, he3, hl3, hn3, hb4, he4, hl4, hn4, hb5, he5, hl5, hS, hu4, hg4, fillS]
    repeat (refine And.intro (by first | omega | (clear hb0 he0; omega)) ?_)
    refine ⟨_, Weak.refl _, ?_⟩
    simp -implicitDefEqProofs only [evT, evD0, evD1, evD2, implies_true, forall_const, Option.getD, later_normal, aop, aLen, ev, putSlot, cv, cvl, aConv, aBin, aInt, aUn, aFn, aEq, List.length, IntKind.bits, evo, coe, List.append, List.replicate, Nat.reduceAdd, Nat.reduceSub, Nat.reduceMul, Int.reduceToNat, reduceCtorEq, aIndexAddr, aIndex, TD.aggr, aPick, aMin, aMax, Ax.Ends, rone, ↓reduceIte, List.isEmpty, Int.reducePow, Nat.reducePow, Int.reduceMod, Nat.reduceLeDiff, Int.reduceLE, Int.reduceNe, Int.reduceEq, aAppend, appendB, viewB, List.drop, List.take, aRange, aNext, aCopy, srcB, viewG, appendG, appendI, aSlice, bnd, full3, aStore, setB, AV.leaves, AV.okv, AV.leaf, one, elemLeaves, Blk.size, Blk.len, Option.isSome, Option.isNone, aStr, aNil, aExtract, viewI, Nat.reduceEqDiff, Nat.reduceLT, Nat.reduceBEq, List.contains, List.elem, Blk.closed, Blk.noimm, ↓gsplit_tt, ↓gsplit_ff, ↓gsplit_tf, ↓gsplit_ft, ↓csplit_t, ↓csplit_f, givenUp, Blk.clean, notMs, -coe, coe_w, coe_str, coe_agg, coe_tup, coe_sb, coe_si, coe_cp, coe_ms, coe_rf, coe_fn, coe_cons, ty, mtA, hA]
  · rw [hK] at hK'
    have hA : rrdA b = mtA ⟨5, n0, n1, [], 0, false, 0, n2, 0⟩ := by
      unfold rrdA rrdM; rw [hK, if_pos (by decide)]; unfold rdM; rw [hK]; simp only [Int.reduceEq, if_true, if_false, w0, w1, w2, w3, w4]
    simp -implicitDefEqProofs only [evT, evD0, evD1, evD2, implies_true, forall_const, Option.getD, later_normal, aop, aLen, ev, putSlot, cv, cvl, aConv, aBin, aInt, aUn, aFn, aEq, List.length, IntKind.bits, evo, coe, List.append, List.replicate, Nat.reduceAdd, Nat.reduceSub, Nat.reduceMul, Int.reduceToNat, reduceCtorEq, aIndexAddr, aIndex, TD.aggr, aPick, aMin, aMax, Ax.Ends, rone, ↓reduceIte, List.isEmpty, Int.reducePow, Nat.reducePow, Int.reduceMod, Nat.reduceLeDiff, Int.reduceLE, Int.reduceNe, Int.reduceEq, aAppend, appendB, viewB, List.drop, List.take, aRange, aNext, aCopy, srcB, viewG, appendG, appendI, aSlice, bnd, full3, aStore, setB, AV.leaves, AV.okv, AV.leaf, one, elemLeaves, Blk.size, Blk.len, Option.isSome, Option.isNone, aStr, aNil, aExtract, viewI, Nat.reduceEqDiff, Nat.reduceLT, Nat.reduceBEq, List.contains, List.elem, Blk.closed, Blk.noimm, ↓gsplit_tt, ↓gsplit_ff, ↓gsplit_tf, ↓gsplit_ft, ↓csplit_t, ↓csplit_f, givenUp, Blk.clean, notMs, -coe, coe_w, coe_str, coe_agg, coe_tup, coe_sb, coe_si, coe_cp, coe_ms, coe_rf, coe_fn, coe_cons, ty, Sread8, readS, rrfixS, rrnumS, rrtextS, rrd, hb, hK', hA, mtA, Int.reduceEq, decide_true, decide_false, hb0, he0, hl0, hn0, hb1, he1, hl1, hn1, hb2, he2, hl2, hn2, hb3, he3, hl3, hn3, hb4, he4, hl4, hn4, hb5, he5, hl5, hS, hu4, hg4, fillS]
    repeat (refine And.intro (by first | omega | (clear hb0 he0; omega)) ?_)
    refine ⟨_, Weak.refl _, ?_⟩
    simp -implicitDefEqProofs only [evT, evD0, evD1, evD2, implies_true, forall_const, Option.getD, later_normal, aop, aLen, ev, putSlot, cv, cvl, aConv, aBin, aInt, aUn, aFn, aEq, List.length, IntKind.bits, evo, coe, List.append, List.replicate, Nat.reduceAdd, Nat.reduceSub, Nat.reduceMul, Int.reduceToNat, reduceCtorEq, aIndexAddr, aIndex, TD.aggr, aPick, aMin, aMax, Ax.Ends, rone, ↓reduceIte, List.isEmpty, Int.reducePow, Nat.reducePow, Int.reduceMod, Nat.reduceLeDiff, Int.reduceLE, Int.reduceNe, Int.reduceEq, aAppend, appendB, viewB, List.drop, List.take, aRange, aNext, aCopy, srcB, viewG, appendG, appendI, aSlice, bnd, full3, aStore, setB, AV.leaves, AV.okv, AV.leaf, one, elemLeaves, Blk.size, Blk.len, Option.isSome, Option.isNone, aStr, aNil, aExtract, viewI, Nat.reduceEqDiff, Nat.reduceLT, Nat.reduceBEq, List.contains, List.elem, Blk.closed, Blk.noimm, ↓gsplit_tt, ↓gsplit_ff, ↓gsplit_tf, ↓gsplit_ft, ↓csplit_t, ↓csplit_f, givenUp, Blk.clean, notMs, -coe, coe_w, coe_str, coe_agg, coe_tup, coe_sb, coe_si, coe_cp, coe_ms, coe_rf, coe_fn, coe_cons, ty, mtA, hA]
  · rw [hK] at hK'
    have hA : rrdA b = mtA ⟨6, n0, 0, [], 0, false, 0, 0, 0⟩ := by
      unfold rrdA rrdM; rw [hK, if_pos (by decide)]; unfold rdM; rw [hK]; simp only [Int.reduceEq, if_true, if_false, w0, w1, w2, w3, w4]
    simp -implicitDefEqProofs only [evT, evD0, evD1, evD2, implies_true, forall_const, Option.getD, later_normal, aop, aLen, ev, putSlot, cv, cvl, aConv, aBin, aInt, aUn, aFn, aEq, List.length, IntKind.bits, evo, coe, List.append, List.replicate, Nat.reduceAdd, Nat.reduceSub, Nat.reduceMul, Int.reduceToNat, reduceCtorEq, aIndexAddr, aIndex, TD.aggr, aPick, aMin, aMax, Ax.Ends, rone, ↓reduceIte, List.isEmpty, Int.reducePow, Nat.reducePow, Int.reduceMod, Nat.reduceLeDiff, Int.reduceLE, Int.reduceNe, Int.reduceEq, aAppend, appendB, viewB, List.drop, List.take, aRange, aNext, aCopy, srcB, viewG, appendG, appendI, aSlice, bnd, full3, aStore, setB, AV.leaves, AV.okv, AV.leaf, one, elemLeaves, Blk.size, Blk.len, Option.isSome, Option.isNone, aStr, aNil, aExtract, viewI, Nat.reduceEqDiff, Nat.reduceLT, Nat.reduceBEq, List.contains, List.elem, Blk.closed, Blk.noimm, ↓gsplit_tt, ↓gsplit_ff, ↓gsplit_tf, ↓gsplit_ft, ↓csplit_t, ↓csplit_f, givenUp, Blk.clean, notMs, -coe, coe_w, coe_str, coe_agg, coe_tup, coe_sb, coe_si, coe_cp, coe_ms, coe_rf, coe_fn, coe_cons, ty, Sread8, readS, rrfixS, rrnumS, rrtextS, rrd, hb, hK', hA, mtA, Int.reduceEq, decide_true, decide_false, hb0, he0, hl0, hn0, hb1, he1, hl1, hn1, hb2, he2, hl2, hn2, hb3, he3, hl3, hn3, hb4, he4, hl4, hn4, hb5, he5, hl5, hS, hu4, hg4, fillS]
    repeat (refine And.intro (by first | omega | (clear hb0 he0; omega)) ?_)
    refine ⟨_, Weak.refl _, ?_⟩
    simp -implicitDefEqProofs only [evT, evD0, evD1, evD2, implies_true, forall_const, Option.getD, later_normal, aop, aLen, ev, putSlot, cv, cvl, aConv, aBin, aInt, aUn, aFn, aEq, List.length, IntKind.bits, evo, coe, List.append, List.replicate, Nat.reduceAdd, Nat.reduceSub, Nat.reduceMul, Int.reduceToNat, reduceCtorEq, aIndexAddr, aIndex, TD.aggr, aPick, aMin, aMax, Ax.Ends, rone, ↓reduceIte, List.isEmpty, Int.reducePow, Nat.reducePow, Int.reduceMod, Nat.reduceLeDiff, Int.reduceLE, Int.reduceNe, Int.reduceEq, aAppend, appendB, viewB, List.drop, List.take, aRange, aNext, aCopy, srcB, viewG, appendG, appendI, aSlice, bnd, full3, aStore, setB, AV.leaves, AV.okv, AV.leaf, one, elemLeaves, Blk.size, Blk.len, Option.isSome, Option.isNone, aStr, aNil, aExtract, viewI, Nat.reduceEqDiff, Nat.reduceLT, Nat.reduceBEq, List.contains, List.elem, Blk.closed, Blk.noimm, ↓gsplit_tt, ↓gsplit_ff, ↓gsplit_tf, ↓gsplit_ft, ↓csplit_t, ↓csplit_f, givenUp, Blk.clean, notMs, -coe, coe_w, coe_str, coe_agg, coe_tup, coe_sb, coe_si, coe_cp, coe_ms, coe_rf, coe_fn, coe_cons, ty, mtA, hA]
  · obtain ⟨h0, h1, h2, h3, h4, h5, h6⟩ := hK
    have hKr := rK_rng b
    have hA : rrdA b = mtA ⟨rK b, n0, n1, [], 0, false, n2, n3, 0⟩ := by
      unfold rrdA rrdM; rw [if_neg (by omega), w0, w1, w2, w3]
    generalize rK b = K at *
    have d0 : decide (K = 0) = false := decide_eq_false h0
    have d1 : decide (K = 1) = false := decide_eq_false h1
    have d3 : decide (K = 3) = false := decide_eq_false h3
    have d4 : decide (K = 4) = false := decide_eq_false h4
    have d5 : decide (K = 5) = false := decide_eq_false h5
    have d6 : decide (K = 6) = false := decide_eq_false h6
    simp -implicitDefEqProofs only [evT, evD0, evD1, evD2, implies_true, forall_const, Option.getD, later_normal, aop, aLen, ev, putSlot, cv, cvl, aConv, aBin, aInt, aUn, aFn, aEq, List.length, IntKind.bits, evo, coe, List.append, List.replicate, Nat.reduceAdd, Nat.reduceSub, Nat.reduceMul, Int.reduceToNat, reduceCtorEq, aIndexAddr, aIndex, TD.aggr, aPick, aMin, aMax, Ax.Ends, rone, ↓reduceIte, List.isEmpty, Int.reducePow, Nat.reducePow, Int.reduceMod, Nat.reduceLeDiff, Int.reduceLE, Int.reduceNe, Int.reduceEq, aAppend, appendB, viewB, List.drop, List.take, aRange, aNext, aCopy, srcB, viewG, appendG, appendI, aSlice, bnd, full3, aStore, setB, AV.leaves, AV.okv, AV.leaf, one, elemLeaves, Blk.size, Blk.len, Option.isSome, Option.isNone, aStr, aNil, aExtract, viewI, Nat.reduceEqDiff, Nat.reduceLT, Nat.reduceBEq, List.contains, List.elem, Blk.closed, Blk.noimm, ↓gsplit_tt, ↓gsplit_ff, ↓gsplit_tf, ↓gsplit_ft, ↓csplit_t, ↓csplit_f, givenUp, Blk.clean, notMs, -coe, coe_w, coe_str, coe_agg, coe_tup, coe_sb, coe_si, coe_cp, coe_ms, coe_rf, coe_fn, coe_cons, ty, Sread8, readS, rrfixS, rrnumS, rrtextS, rrd, hb, hK', hA, mtA, d0, d1, d3, d4, d5, d6, Int.reduceEq, decide_true, decide_false, hb0, he0, hl0, hn0, hb1, he1, hl1, hn1, hb2, he2, hl2, hn2, hb3, he3, hl3, hn3, hb4, he4, hl4, hn4, hb5, he5, hl5, hS, hu4, hg4, fillS]
    repeat (refine And.intro (by first | omega | (clear hb0 he0; omega)) ?_)
    refine ⟨_, Weak.refl _, ?_⟩
    simp -implicitDefEqProofs only [evT, evD0, evD1, evD2, implies_true, forall_const, Option.getD, later_normal, aop, aLen, ev, putSlot, cv, cvl, aConv, aBin, aInt, aUn, aFn, aEq, List.length, IntKind.bits, evo, coe, List.append, List.replicate, Nat.reduceAdd, Nat.reduceSub, Nat.reduceMul, Int.reduceToNat, reduceCtorEq, aIndexAddr, aIndex, TD.aggr, aPick, aMin, aMax, Ax.Ends, rone, ↓reduceIte, List.isEmpty, Int.reducePow, Nat.reducePow, Int.reduceMod, Nat.reduceLeDiff, Int.reduceLE, Int.reduceNe, Int.reduceEq, aAppend, appendB, viewB, List.drop, List.take, aRange, aNext, aCopy, srcB, viewG, appendG, appendI, aSlice, bnd, full3, aStore, setB, AV.leaves, AV.okv, AV.leaf, one, elemLeaves, Blk.size, Blk.len, Option.isSome, Option.isNone, aStr, aNil, aExtract, viewI, Nat.reduceEqDiff, Nat.reduceLT, Nat.reduceBEq, List.contains, List.elem, Blk.closed, Blk.noimm, ↓gsplit_tt, ↓gsplit_ff, ↓gsplit_tf, ↓gsplit_ft, ↓csplit_t, ↓csplit_f, givenUp, Blk.clean, notMs, -coe, coe_w, coe_str, coe_agg, coe_tup, coe_sb, coe_si, coe_cp, coe_ms, coe_rf, coe_fn, coe_cons, ty, mtA, hA]
end
def Srget8 (f : FuncId) : Option FSpec :=
  match f with
  | 38 => some readS
  | 11 => some put8S
  | _ => none
theorem Srget8_ok : Fns Try.prog Srget8 := by
  intro f s h
  unfold Srget8 at h
  split at h
  · injection h with h; subst h; exact ⟨⟨_, Try.func38, by kernel_rfl, by kernel_rfl⟩, read8_sound⟩
  · injection h with h; subst h; exact ⟨⟨_, Try.func11, by kernel_rfl, by kernel_rfl⟩, rput8_sound⟩
  · cases h
section
set_option maxRecDepth 100000
set_option maxHeartbeats 4000000 in
theorem rget8_sound : Sound Try.prog 17 get8S := by
  refine fn_soundW (S := Srget8) (T := ty) mixed ty_ok Srget8_ok Try.func17 (c := Try.f17.body.getD .skip) (by kernel_rfl) (by kernel_rfl) (fun xs pins hp _ => ?_)
  unfold get8S at hp ⊢
  split at hp
  · rename_i b f _
    have hb : b.length ≤ 1000000 := hp
    refine ⟨by simp, ?_⟩
    obtain ⟨R, hR⟩ : ∃ x, rrdM b = x := ⟨_, rfl⟩
    have hA : rrdA b = mtA R := by unfold rrdA; rw [hR]
    have hM : rK b ≤ 6 → rdM b = R := fun h => by rw [← hR]; unfold rrdM; rw [if_pos h]
    have hM2 : 6 < rK b → 6 < R.k := fun h => by rw [← hR]; unfold rrdM; rw [if_neg (by omega)]; exact h
    have hk : 0 ≤ R.k ∧ R.k < 256 := by
      have := rK_rng b
      rw [← hR]; unfold rrdM; split
      · rw [rdM_k]; exact this
      · exact this
    have hl : R.nm.length ≤ 1000000 := by
      rw [← hR]; unfold rrdM; split
      · unfold rdM
        repeat' split
        all_goals first
          | (have h1 := rtS_len8 32 (rq3 b).1 (rq3 b).2
             have h2 := numL_length (rq2 b).1 (rq2 b).2
             have h3 := numL_length (rq1 b).1 (rq1 b).2
             have h4 := numL_length (rq0 b).1 (rq0 b).2
             have h5 := rfixL_len8 1 b 0
             have e3 : (rq3 b).1 = numL (rq2 b).1 (rq2 b).2 := rfl
             have e2 : (rq2 b).1 = numL (rq1 b).1 (rq1 b).2 := rfl
             have e1 : (rq1 b).1 = numL (rq0 b).1 (rq0 b).2 := rfl
             have e0 : (rq0 b).1 = rfixL 1 b 0 := rfl
             rw [e3] at h1; rw [e2] at h1 h2; rw [e1] at h1 h2 h3; rw [e0] at h1 h2 h3 h4
             show (rtS' 32 (rq3 b).1 (rq3 b).2).length ≤ 1000000
             rw [e3, e2, e1, e0]
             omega)
          | simp
      · simp
    have hgA : getOk b → getA b = mtA R ∧ (if getOk b then (0 : Int) else 4) = 0 := by
      intro h
      have h6 := (chk_ok h.1).1
      rw [rdM_k] at h6
      unfold getA getMt; rw [if_pos h, if_pos h, hM h6]; exact ⟨rfl, rfl⟩
    have hgN : ¬ getOk b → getA b = mtA zM ∧ (if getOk b then (0 : Int) else 4) = 4 := by
      intro h; unfold getA getMt; rw [if_neg h, if_neg h]; exact ⟨rfl, rfl⟩
    obtain ⟨k, t, i, nm, p, cp, z, bb, c⟩ := R
    obtain ⟨C, hC⟩ : ∃ x, chkM ⟨k, t, i, nm, p, cp, z, bb, c⟩ = x := ⟨_, rfl⟩
    obtain ⟨W, hW⟩ : ∃ x, putB8 ⟨k, t, i, nm, p, cp, z, bb, c⟩ = x := ⟨_, rfl⟩
    have hcase := rget_cases b hM hM2 hC hW
    have tk : ∀ l : List UInt8, List.take l.length l = l := fun l => List.take_length
    simp only at hk hl
    unfold Try.f17
    rcases hcase with X | X | X
    · obtain ⟨v1, v2⟩ := hgA X.1
      simp -implicitDefEqProofs only [evT, evD0, evD1, evD2, implies_true, forall_const, Option.getD, later_normal, aop, aLen, ev, putSlot, cv, cvl, aConv, aBin, aInt, aUn, aFn, aEq, List.length, IntKind.bits, evo, coe, List.append, List.replicate, Nat.reduceAdd, Nat.reduceSub, Nat.reduceMul, Int.reduceToNat, reduceCtorEq, aIndexAddr, aIndex, TD.aggr, aPick, aMin, aMax, Ax.Ends, rone, ↓reduceIte, List.isEmpty, Int.reducePow, Nat.reducePow, Int.reduceMod, Nat.reduceLeDiff, Int.reduceLE, Int.reduceNe, Int.reduceEq, aAppend, appendB, viewB, List.drop, List.take, aRange, aNext, aCopy, srcB, viewG, appendG, appendI, aSlice, bnd, full3, aStore, setB, AV.leaves, AV.okv, AV.leaf, one, elemLeaves, Blk.size, Blk.len, Option.isSome, Option.isNone, aStr, aNil, aExtract, viewI, Nat.reduceEqDiff, Nat.reduceLT, Nat.reduceBEq, List.contains, List.elem, Blk.closed, Blk.noimm, ↓gsplit_tt, ↓gsplit_ff, ↓gsplit_tf, ↓gsplit_ft, ↓csplit_t, ↓csplit_f, givenUp, Blk.clean, notMs, -coe, coe_w, coe_str, coe_agg, coe_tup, coe_sb, coe_si, coe_cp, coe_ms, coe_rf, coe_fn, coe_cons, ty, Srget8, readS, put8S, hb, hA, mtA, hk, hl, hC, hW, tk, X.2, v1, v2, fillS]
      repeat (refine And.intro (by omega) ?_)
      refine ⟨_, Weak.refl _, ?_⟩
      simp -implicitDefEqProofs only [evT, evD0, evD1, evD2, implies_true, forall_const, Option.getD, later_normal, aop, aLen, ev, putSlot, cv, cvl, aConv, aBin, aInt, aUn, aFn, aEq, List.length, IntKind.bits, evo, coe, List.append, List.replicate, Nat.reduceAdd, Nat.reduceSub, Nat.reduceMul, Int.reduceToNat, reduceCtorEq, aIndexAddr, aIndex, TD.aggr, aPick, aMin, aMax, Ax.Ends, rone, ↓reduceIte, List.isEmpty, Int.reducePow, Nat.reducePow, Int.reduceMod, Nat.reduceLeDiff, Int.reduceLE, Int.reduceNe, Int.reduceEq, aAppend, appendB, viewB, List.drop, List.take, aRange, aNext, aCopy, srcB, viewG, appendG, appendI, aSlice, bnd, full3, aStore, setB, AV.leaves, AV.okv, AV.leaf, one, elemLeaves, Blk.size, Blk.len, Option.isSome, Option.isNone, aStr, aNil, aExtract, viewI, Nat.reduceEqDiff, Nat.reduceLT, Nat.reduceBEq, List.contains, List.elem, Blk.closed, Blk.noimm, ↓gsplit_tt, ↓gsplit_ff, ↓gsplit_tf, ↓gsplit_ft, ↓csplit_t, ↓csplit_f, givenUp, Blk.clean, notMs, -coe, coe_w, coe_str, coe_agg, coe_tup, coe_sb, coe_si, coe_cp, coe_ms, coe_rf, coe_fn, coe_cons, ty, mtA, v1, v2]
    all_goals
      obtain ⟨v1, v2⟩ := hgN X.1
      simp -implicitDefEqProofs only [evT, evD0, evD1, evD2, implies_true, forall_const, Option.getD, later_normal, aop, aLen, ev, putSlot, cv, cvl, aConv, aBin, aInt, aUn, aFn, aEq, List.length, IntKind.bits, evo, coe, List.append, List.replicate, Nat.reduceAdd, Nat.reduceSub, Nat.reduceMul, Int.reduceToNat, reduceCtorEq, aIndexAddr, aIndex, TD.aggr, aPick, aMin, aMax, Ax.Ends, rone, ↓reduceIte, List.isEmpty, Int.reducePow, Nat.reducePow, Int.reduceMod, Nat.reduceLeDiff, Int.reduceLE, Int.reduceNe, Int.reduceEq, aAppend, appendB, viewB, List.drop, List.take, aRange, aNext, aCopy, srcB, viewG, appendG, appendI, aSlice, bnd, full3, aStore, setB, AV.leaves, AV.okv, AV.leaf, one, elemLeaves, Blk.size, Blk.len, Option.isSome, Option.isNone, aStr, aNil, aExtract, viewI, Nat.reduceEqDiff, Nat.reduceLT, Nat.reduceBEq, List.contains, List.elem, Blk.closed, Blk.noimm, ↓gsplit_tt, ↓gsplit_ff, ↓gsplit_tf, ↓gsplit_ft, ↓csplit_t, ↓csplit_f, givenUp, Blk.clean, notMs, -coe, coe_w, coe_str, coe_agg, coe_tup, coe_sb, coe_si, coe_cp, coe_ms, coe_rf, coe_fn, coe_cons, ty, Srget8, readS, put8S, hb, hA, mtA, zM, hk, hl, hC, hW, tk, X.2, v1, v2, fillS]
      repeat (refine And.intro (by omega) ?_)
      refine ⟨_, Weak.refl _, ?_⟩
      simp -implicitDefEqProofs only [evT, evD0, evD1, evD2, implies_true, forall_const, Option.getD, later_normal, aop, aLen, ev, putSlot, cv, cvl, aConv, aBin, aInt, aUn, aFn, aEq, List.length, IntKind.bits, evo, coe, List.append, List.replicate, Nat.reduceAdd, Nat.reduceSub, Nat.reduceMul, Int.reduceToNat, reduceCtorEq, aIndexAddr, aIndex, TD.aggr, aPick, aMin, aMax, Ax.Ends, rone, ↓reduceIte, List.isEmpty, Int.reducePow, Nat.reducePow, Int.reduceMod, Nat.reduceLeDiff, Int.reduceLE, Int.reduceNe, Int.reduceEq, aAppend, appendB, viewB, List.drop, List.take, aRange, aNext, aCopy, srcB, viewG, appendG, appendI, aSlice, bnd, full3, aStore, setB, AV.leaves, AV.okv, AV.leaf, one, elemLeaves, Blk.size, Blk.len, Option.isSome, Option.isNone, aStr, aNil, aExtract, viewI, Nat.reduceEqDiff, Nat.reduceLT, Nat.reduceBEq, List.contains, List.elem, Blk.closed, Blk.noimm, ↓gsplit_tt, ↓gsplit_ff, ↓gsplit_tf, ↓gsplit_ft, ↓csplit_t, ↓csplit_f, givenUp, Blk.clean, notMs, -coe, coe_w, coe_str, coe_agg, coe_tup, coe_sb, coe_si, coe_cp, coe_ms, coe_rf, coe_fn, coe_cons, ty, mtA, zM, v1, v2]
  · exact hp.elim
end
end Go.Proofs.Ytlbdhkgjhjcgiaa
