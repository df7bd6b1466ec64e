/- Layer 8: what is read of metas' bytes. -/
import Derived.Test.YtlbdhkgjhjcgiaaE9
namespace Go.Proofs.Ytlbdhkgjhjcgiaa
open Ax
set_option linter.unusedSimpArgs false
set_option linter.unusedVariables false

def sameL : List Mt → List Mt → Bool
  | [], [] => true
  | a :: r, b :: s => decide (eqM a b) && sameL r s
  | _, _ => false
theorem sameL_iff : ∀ (l k : List Mt), sameL l k = true ↔ l = k
  | [], [] => by simp [sameL]
  | [], _ :: _ => by simp [sameL]
  | _ :: _, [] => by simp [sameL]
  | a :: r, b :: s => by
    unfold sameL
    rw [Bool.and_eq_true, decide_eq_true_iff, eqM_iff, sameL_iff r s]; simp
theorem closed_mt : ∀ (l : List Mt), closedL (l.map mtA) = true
  | [] => rfl
  | x :: r => by simp only [List.map_cons, closedL, mtA, AV.closed, Bool.true_and]; exact closed_mt r
theorem ren_mt (g : Nat → Nat) : ∀ (l : List Mt), renL g (l.map mtA) = l.map mtA
  | [] => rfl
  | x :: r => by simp only [List.map_cons, renL, ren_mt g r]; rfl
def sameAllS : FSpec
  | [.sg 9 xs f, .sg 9 ys g], [] => ⟨xs.length ≤ 9223372036854775807 ∧ ys.length ≤ 9223372036854775807 ∧ (∃ l : List Mt, xs = l.map mtA) ∧ ∃ k : List Mt, ys = k.map mtA, .w (.bool (sameL (xs.map umt) (ys.map umt))), []⟩
  | _, _ => noRes
def lightL (l : List Mt) (n : Int) : Prop := ¬ n < l.length ∧ ∀ m ∈ l, m.nm.length ≤ 100
instance (l : List Mt) (n : Int) : Decidable (lightL l n) := by unfold lightL; infer_instance
def lightS : FSpec
  | [.sg 9 xs f, .w (.int .i64 n)], [] => ⟨xs.length ≤ 9223372036854775807 ∧ ∃ l : List Mt, xs = l.map mtA, .w (.bool (decide (lightL (xs.map umt) n))), []⟩
  | _, _ => noRes
def sameAllPl : Plan := fun id => match id with
  | 6 => some []
  | _ => none
theorem sameL_drop : ∀ (l k : List Mt) (i : Nat) (h1 : i < l.length) (h2 : i < k.length), sameL (l.drop i) (k.drop i) = (decide (eqM l[i] k[i]) && sameL (l.drop (i + 1)) (k.drop (i + 1))) := by
  intro l k i h1 h2
  rw [List.drop_eq_getElem_cons h1, List.drop_eq_getElem_cons h2]; rfl
theorem sameL_len : ∀ (l k : List Mt), l.length ≠ k.length → sameL l k = false := by
  intro l k h
  rw [← Bool.not_eq_true, sameL_iff]; intro e; exact h (by rw [e])
section
set_option maxRecDepth 100000
set_option maxHeartbeats 4000000 in
theorem sameAll_sound : Sound Try.prog 20 sameAllS := by
  refine fn_soundF (S := noS) (T := ty) (pl := sameAllPl) mixed ty_ok noS_ok Try.func20 (c := Try.f20.body.getD .skip) (by kernel_rfl) (by kernel_rfl) (fun xs pins hp _ => ?_)
  unfold sameAllS at hp ⊢
  split at hp
  · rename_i xs f ys g _
    obtain ⟨hL, hK, ⟨l, rfl⟩, k, rfl⟩ := hp
    rw [List.length_map] at hL hK
    have hle : (l.map mtA).length = l.length := by simp
    have hke : (k.map mtA).length = k.length := by simp
    rw [map_umt, map_umt]
    refine ⟨by simp, ?_⟩
    unfold Try.f20
    by_cases hn : l.length = k.length
    · have d1 : decide ((l.length : Int) = k.length) = true := decide_eq_true (by omega)
      simp -implicitDefEqProofs only [evT, evD0, evD1, evD2, implies_true, forall_const, Option.getD, later_normal, aop, aLen, ev, putSlot, cv, cvl, aConv, aBin, aInt, aUn, aFn, aEq, List.length, IntKind.bits, evo, coe, List.append, List.replicate, Nat.reduceAdd, Nat.reduceSub, Nat.reduceMul, Int.reduceToNat, reduceCtorEq, aIndexAddr, aIndex, TD.aggr, aPick, aMin, aMax, Ax.Ends, rone, ↓reduceIte, List.isEmpty, Int.reducePow, Nat.reducePow, Int.reduceMod, Nat.reduceLeDiff, Int.reduceLE, Int.reduceNe, Int.reduceEq, aAppend, appendB, viewB, List.drop, List.take, aRange, aNext, aCopy, srcB, viewG, appendG, appendI, aSlice, bnd, full3, aStore, setB, AV.leaves, AV.okv, AV.leaf, one, elemLeaves, Blk.size, Blk.len, Option.isSome, Option.isNone, aStr, aNil, aExtract, viewI, Nat.reduceEqDiff, Nat.reduceLT, Nat.reduceBEq, List.contains, List.elem, Blk.closed, Blk.noimm, ↓gsplit_tt, ↓gsplit_ff, ↓gsplit_tf, ↓gsplit_ft, ↓csplit_t, ↓csplit_f, givenUp, Blk.clean, notMs, evDP, evTP, laterF_normal, Blk.ids, Op.operands, Call.operands, List.map_cons, List.map_nil, List.toList_toArray, Array.toList_append, Option.toArray_some, Option.toArray_none, Bool.and_self, ty, noS, sameAllPl, hle, hke, d1]
      refine awpF_loopW ⟨fun m σ => ∃ i : Nat, m = l.length - i ∧ i ≤ l.length ∧ sameL (l.drop i) (k.drop i) = sameL l k ∧
        σ = ⟨[.sg 9 (l.map mtA) f, .sg 9 (k.map mtA) g, .junk, .junk, .junk, .w (.int .i64 i), .junk, .junk, .junk, .junk, .junk, .junk, .junk, .junk, .junk, .junk, .junk, .junk, .junk, .junk, .junk, .junk, .junk, .junk, .junk, .junk], [], 4⟩, ?_, ?_⟩
      · refine ⟨_, _, weak_ren [0, 1, 2, 3] rfl rfl rfl ?_ ?_, 0, rfl, by omega, rfl, rfl⟩
        · simp only [SameS, SameH, setSlot, gOf, AV.ren, renL, Blk.ren, Ax.look, Ax.put, reduceCtorEq, true_or, false_or, or_true, or_false, and_true, true_and, AV.w.injEq, Value.int.injEq, Value.bool.injEq, AV.ms.injEq, AV.sb.injEq, AV.str.injEq, ↓reduceIte, Nat.reduceEqDiff, Nat.reduceLT, List.length_append, List.length_cons, List.length_nil, Nat.zero_add, Nat.add_zero, Option.some.injEq, Blk.b.injEq, Blk.i.injEq, Nat.succ_ne_zero, Nat.reduceAdd, and_self]; try simp
        · simp only [SameS, SameH, setSlot, gOf, AV.ren, renL, Blk.ren, Ax.look, Ax.put, reduceCtorEq, true_or, false_or, or_true, or_false, and_true, true_and, AV.w.injEq, Value.int.injEq, Value.bool.injEq, AV.ms.injEq, AV.sb.injEq, AV.str.injEq, ↓reduceIte, Nat.reduceEqDiff, Nat.reduceLT, List.length_append, List.length_cons, List.length_nil, Nat.zero_add, Nat.add_zero, Option.some.injEq, Blk.b.injEq, Blk.i.injEq, Nat.succ_ne_zero, Nat.reduceAdd, and_self]
      · rintro m σ ⟨i, rfl, hi, hs, rfl⟩
        by_cases hil : i < l.length
        · have d2 : decide ((i : Int) < l.length) = true := decide_eq_true (by omega)
          have e1 : ((i : Int) + 1 + 9223372036854775808) % 18446744073709551616 - 9223372036854775808 = ((i + 1 : Nat) : Int) := by omega
          have hs1 := slot_mt l i hil
          have hs2 := slot_mt k i (by omega)
          have hd := sameL_drop l k i hil (by omega)
          rw [hs] at hd
          obtain ⟨a, ha⟩ : ∃ x, l[i] = x := ⟨_, rfl⟩
          obtain ⟨b, hb⟩ : ∃ x, k[i]'(by omega) = x := ⟨_, rfl⟩
          rw [ha] at hs1 hd
          rw [hb] at hs2 hd
          obtain ⟨k1, t1, i1, nm1, p1, cp1, z1, b1, c1⟩ := a
          obtain ⟨k2, t2, i2, nm2, p2, cp2, z2, b2, c2⟩ := b
          have hs1 : slot (l.map mtA) i = .agg [.w (.int .u8 k1), .w (.int .i64 t1), .w (.int .i64 i1), .str nm1, .w (.int .i64 p1), .w (.bool cp1), .w (.int .i64 z1), .w (.int .i64 b1), .w (.int .i64 c1)] := hs1
          have hs2 : slot (k.map mtA) i = .agg [.w (.int .u8 k2), .w (.int .i64 t2), .w (.int .i64 i2), .str nm2, .w (.int .i64 p2), .w (.bool cp2), .w (.int .i64 z2), .w (.int .i64 b2), .w (.int .i64 c2)] := hs2
          by_cases he : eqM ⟨k1, t1, i1, nm1, p1, cp1, z1, b1, c1⟩ ⟨k2, t2, i2, nm2, p2, cp2, z2, b2, c2⟩
          · have d3 := decide_eq_true he
            rw [d3, Bool.true_and] at hd
            simp -implicitDefEqProofs only [evT, evD0, evD1, evD2, implies_true, forall_const, Option.getD, later_normal, aop, aLen, ev, putSlot, cv, cvl, aConv, aBin, aInt, aUn, aFn, aEq, List.length, IntKind.bits, evo, coe, List.append, List.replicate, Nat.reduceAdd, Nat.reduceSub, Nat.reduceMul, Int.reduceToNat, reduceCtorEq, aIndexAddr, aIndex, TD.aggr, aPick, aMin, aMax, Ax.Ends, rone, ↓reduceIte, List.isEmpty, Int.reducePow, Nat.reducePow, Int.reduceMod, Nat.reduceLeDiff, Int.reduceLE, Int.reduceNe, Int.reduceEq, aAppend, appendB, viewB, List.drop, List.take, aRange, aNext, aCopy, srcB, viewG, appendG, appendI, aSlice, bnd, full3, aStore, setB, AV.leaves, AV.okv, AV.leaf, one, elemLeaves, Blk.size, Blk.len, Option.isSome, Option.isNone, aStr, aNil, aExtract, viewI, Nat.reduceEqDiff, Nat.reduceLT, Nat.reduceBEq, List.contains, List.elem, Blk.closed, Blk.noimm, ↓gsplit_tt, ↓gsplit_ff, ↓gsplit_tf, ↓gsplit_ft, ↓csplit_t, ↓csplit_f, givenUp, Blk.clean, notMs, evDP, evTP, laterF_normal, Blk.ids, Op.operands, Call.operands, List.map_cons, List.map_nil, List.toList_toArray, Array.toList_append, Option.toArray_some, Option.toArray_none, Bool.and_self, ty, noS, sameAllPl, hle, hke, d2, e1, hs1, hs2, eqM_dec, d3, Int.toNat_natCast]
            repeat (refine And.intro (by omega) ?_)
            refine ⟨l.length - (i + 1), _, by omega, weak_ren [0, 1, 2, 3] rfl rfl rfl ?_ ?_, i + 1, rfl, by omega, hd.symm, rfl⟩
            · simp only [SameS, SameH, setSlot, gOf, AV.ren, renL, Blk.ren, Ax.look, Ax.put, reduceCtorEq, true_or, false_or, or_true, or_false, and_true, true_and, AV.w.injEq, Value.int.injEq, Value.bool.injEq, AV.ms.injEq, AV.sb.injEq, AV.str.injEq, ↓reduceIte, Nat.reduceEqDiff, Nat.reduceLT, List.length_append, List.length_cons, List.length_nil, Nat.zero_add, Nat.add_zero, Option.some.injEq, Blk.b.injEq, Blk.i.injEq, Nat.succ_ne_zero, Nat.reduceAdd, and_self]
            · simp only [SameS, SameH, setSlot, gOf, AV.ren, renL, Blk.ren, Ax.look, Ax.put, reduceCtorEq, true_or, false_or, or_true, or_false, and_true, true_and, AV.w.injEq, Value.int.injEq, Value.bool.injEq, AV.ms.injEq, AV.sb.injEq, AV.str.injEq, ↓reduceIte, Nat.reduceEqDiff, Nat.reduceLT, List.length_append, List.length_cons, List.length_nil, Nat.zero_add, Nat.add_zero, Option.some.injEq, Blk.b.injEq, Blk.i.injEq, Nat.succ_ne_zero, Nat.reduceAdd, and_self]
          · have d3 := decide_eq_false he
            rw [d3, Bool.false_and] at hd
            rw [hd]
            simp -implicitDefEqProofs only [evT, evD0, evD1, evD2, implies_true, forall_const, Option.getD, later_normal, aop, aLen, ev, putSlot, cv, cvl, aConv, aBin, aInt, aUn, aFn, aEq, List.length, IntKind.bits, evo, coe, List.append, List.replicate, Nat.reduceAdd, Nat.reduceSub, Nat.reduceMul, Int.reduceToNat, reduceCtorEq, aIndexAddr, aIndex, TD.aggr, aPick, aMin, aMax, Ax.Ends, rone, ↓reduceIte, List.isEmpty, Int.reducePow, Nat.reducePow, Int.reduceMod, Nat.reduceLeDiff, Int.reduceLE, Int.reduceNe, Int.reduceEq, aAppend, appendB, viewB, List.drop, List.take, aRange, aNext, aCopy, srcB, viewG, appendG, appendI, aSlice, bnd, full3, aStore, setB, AV.leaves, AV.okv, AV.leaf, one, elemLeaves, Blk.size, Blk.len, Option.isSome, Option.isNone, aStr, aNil, aExtract, viewI, Nat.reduceEqDiff, Nat.reduceLT, Nat.reduceBEq, List.contains, List.elem, Blk.closed, Blk.noimm, ↓gsplit_tt, ↓gsplit_ff, ↓gsplit_tf, ↓gsplit_ft, ↓csplit_t, ↓csplit_f, givenUp, Blk.clean, notMs, evDP, evTP, laterF_normal, Blk.ids, Op.operands, Call.operands, List.map_cons, List.map_nil, List.toList_toArray, Array.toList_append, Option.toArray_some, Option.toArray_none, Bool.and_self, ty, noS, sameAllPl, hle, hke, d2, e1, hs1, hs2, eqM_dec, d3, Int.toNat_natCast]
            repeat (refine And.intro (by omega) ?_)
            refine ⟨_, Weak.refl _, ?_⟩
            simp -implicitDefEqProofs only [evT, evD0, evD1, evD2, implies_true, forall_const, Option.getD, later_normal, aop, aLen, ev, putSlot, cv, cvl, aConv, aBin, aInt, aUn, aFn, aEq, List.length, IntKind.bits, evo, coe, List.append, List.replicate, Nat.reduceAdd, Nat.reduceSub, Nat.reduceMul, Int.reduceToNat, reduceCtorEq, aIndexAddr, aIndex, TD.aggr, aPick, aMin, aMax, Ax.Ends, rone, ↓reduceIte, List.isEmpty, Int.reducePow, Nat.reducePow, Int.reduceMod, Nat.reduceLeDiff, Int.reduceLE, Int.reduceNe, Int.reduceEq, aAppend, appendB, viewB, List.drop, List.take, aRange, aNext, aCopy, srcB, viewG, appendG, appendI, aSlice, bnd, full3, aStore, setB, AV.leaves, AV.okv, AV.leaf, one, elemLeaves, Blk.size, Blk.len, Option.isSome, Option.isNone, aStr, aNil, aExtract, viewI, Nat.reduceEqDiff, Nat.reduceLT, Nat.reduceBEq, List.contains, List.elem, Blk.closed, Blk.noimm, ↓gsplit_tt, ↓gsplit_ff, ↓gsplit_tf, ↓gsplit_ft, ↓csplit_t, ↓csplit_f, givenUp, Blk.clean, notMs, evDP, evTP, laterF_normal, Blk.ids, Op.operands, Call.operands, List.map_cons, List.map_nil, List.toList_toArray, Array.toList_append, Option.toArray_some, Option.toArray_none, Bool.and_self, ty, noS, sameAllPl]
            exact wE8_ends 4 rfl
        · have d2 : decide ((i : Int) < l.length) = false := decide_eq_false (by omega)
          have : sameL l k = true := by
            rw [← hs, List.drop_of_length_le (by omega), List.drop_of_length_le (by omega)]; rfl
          rw [this]
          simp -implicitDefEqProofs only [evT, evD0, evD1, evD2, implies_true, forall_const, Option.getD, later_normal, aop, aLen, ev, putSlot, cv, cvl, aConv, aBin, aInt, aUn, aFn, aEq, List.length, IntKind.bits, evo, coe, List.append, List.replicate, Nat.reduceAdd, Nat.reduceSub, Nat.reduceMul, Int.reduceToNat, reduceCtorEq, aIndexAddr, aIndex, TD.aggr, aPick, aMin, aMax, Ax.Ends, rone, ↓reduceIte, List.isEmpty, Int.reducePow, Nat.reducePow, Int.reduceMod, Nat.reduceLeDiff, Int.reduceLE, Int.reduceNe, Int.reduceEq, aAppend, appendB, viewB, List.drop, List.take, aRange, aNext, aCopy, srcB, viewG, appendG, appendI, aSlice, bnd, full3, aStore, setB, AV.leaves, AV.okv, AV.leaf, one, elemLeaves, Blk.size, Blk.len, Option.isSome, Option.isNone, aStr, aNil, aExtract, viewI, Nat.reduceEqDiff, Nat.reduceLT, Nat.reduceBEq, List.contains, List.elem, Blk.closed, Blk.noimm, ↓gsplit_tt, ↓gsplit_ff, ↓gsplit_tf, ↓gsplit_ft, ↓csplit_t, ↓csplit_f, givenUp, Blk.clean, notMs, evDP, evTP, laterF_normal, Blk.ids, Op.operands, Call.operands, List.map_cons, List.map_nil, List.toList_toArray, Array.toList_append, Option.toArray_some, Option.toArray_none, Bool.and_self, ty, noS, sameAllPl, hle, hke, d2]
          refine ⟨_, Weak.refl _, ?_⟩
          simp -implicitDefEqProofs only [evT, evD0, evD1, evD2, implies_true, forall_const, Option.getD, later_normal, aop, aLen, ev, putSlot, cv, cvl, aConv, aBin, aInt, aUn, aFn, aEq, List.length, IntKind.bits, evo, coe, List.append, List.replicate, Nat.reduceAdd, Nat.reduceSub, Nat.reduceMul, Int.reduceToNat, reduceCtorEq, aIndexAddr, aIndex, TD.aggr, aPick, aMin, aMax, Ax.Ends, rone, ↓reduceIte, List.isEmpty, Int.reducePow, Nat.reducePow, Int.reduceMod, Nat.reduceLeDiff, Int.reduceLE, Int.reduceNe, Int.reduceEq, aAppend, appendB, viewB, List.drop, List.take, aRange, aNext, aCopy, srcB, viewG, appendG, appendI, aSlice, bnd, full3, aStore, setB, AV.leaves, AV.okv, AV.leaf, one, elemLeaves, Blk.size, Blk.len, Option.isSome, Option.isNone, aStr, aNil, aExtract, viewI, Nat.reduceEqDiff, Nat.reduceLT, Nat.reduceBEq, List.contains, List.elem, Blk.closed, Blk.noimm, ↓gsplit_tt, ↓gsplit_ff, ↓gsplit_tf, ↓gsplit_ft, ↓csplit_t, ↓csplit_f, givenUp, Blk.clean, notMs, evDP, evTP, laterF_normal, Blk.ids, Op.operands, Call.operands, List.map_cons, List.map_nil, List.toList_toArray, Array.toList_append, Option.toArray_some, Option.toArray_none, Bool.and_self, ty, noS, sameAllPl]
          exact wE8_ends 4 rfl
    · have d1 : decide ((l.length : Int) = k.length) = false := decide_eq_false (by omega)
      rw [sameL_len l k hn]
      simp -implicitDefEqProofs only [evT, evD0, evD1, evD2, implies_true, forall_const, Option.getD, later_normal, aop, aLen, ev, putSlot, cv, cvl, aConv, aBin, aInt, aUn, aFn, aEq, List.length, IntKind.bits, evo, coe, List.append, List.replicate, Nat.reduceAdd, Nat.reduceSub, Nat.reduceMul, Int.reduceToNat, reduceCtorEq, aIndexAddr, aIndex, TD.aggr, aPick, aMin, aMax, Ax.Ends, rone, ↓reduceIte, List.isEmpty, Int.reducePow, Nat.reducePow, Int.reduceMod, Nat.reduceLeDiff, Int.reduceLE, Int.reduceNe, Int.reduceEq, aAppend, appendB, viewB, List.drop, List.take, aRange, aNext, aCopy, srcB, viewG, appendG, appendI, aSlice, bnd, full3, aStore, setB, AV.leaves, AV.okv, AV.leaf, one, elemLeaves, Blk.size, Blk.len, Option.isSome, Option.isNone, aStr, aNil, aExtract, viewI, Nat.reduceEqDiff, Nat.reduceLT, Nat.reduceBEq, List.contains, List.elem, Blk.closed, Blk.noimm, ↓gsplit_tt, ↓gsplit_ff, ↓gsplit_tf, ↓gsplit_ft, ↓csplit_t, ↓csplit_f, givenUp, Blk.clean, notMs, evDP, evTP, laterF_normal, Blk.ids, Op.operands, Call.operands, List.map_cons, List.map_nil, List.toList_toArray, Array.toList_append, Option.toArray_some, Option.toArray_none, Bool.and_self, ty, noS, sameAllPl, hle, hke, d1]
      exact wE8_ends 4 rfl
  · exact hp.elim
set_option maxHeartbeats 4000000 in
theorem light_sound : Sound Try.prog 8 lightS := by
  refine fn_soundW (S := noS) (T := ty) mixed ty_ok noS_ok Try.func8 (c := Try.f8.body.getD .skip) (by kernel_rfl) (by kernel_rfl) (fun xs pins hp _ => ?_)
  unfold lightS at hp ⊢
  split at hp
  · rename_i xs f n _
    obtain ⟨hL, l, rfl⟩ := hp
    rw [List.length_map] at hL
    have hle : (l.map mtA).length = l.length := by simp
    rw [map_umt]
    refine ⟨by simp, ?_⟩
    unfold Try.f8
    by_cases hn : n < l.length
    · have d1 : decide (n < (l.length : Int)) = true := decide_eq_true hn
      have hno : decide (lightL l n) = false := decide_eq_false (fun h => h.1 hn)
      rw [hno]
      simp -implicitDefEqProofs only [evT, evD0, evD1, evD2, implies_true, forall_const, Option.getD, later_normal, aop, aLen, ev, putSlot, cv, cvl, aConv, aBin, aInt, aUn, aFn, aEq, List.length, IntKind.bits, evo, coe, List.append, List.replicate, Nat.reduceAdd, Nat.reduceSub, Nat.reduceMul, Int.reduceToNat, reduceCtorEq, aIndexAddr, aIndex, TD.aggr, aPick, aMin, aMax, Ax.Ends, rone, ↓reduceIte, List.isEmpty, Int.reducePow, Nat.reducePow, Int.reduceMod, Nat.reduceLeDiff, Int.reduceLE, Int.reduceNe, Int.reduceEq, aAppend, appendB, viewB, List.drop, List.take, aRange, aNext, aCopy, srcB, viewG, appendG, appendI, aSlice, bnd, full3, aStore, setB, AV.leaves, AV.okv, AV.leaf, one, elemLeaves, Blk.size, Blk.len, Option.isSome, Option.isNone, aStr, aNil, aExtract, viewI, Nat.reduceEqDiff, Nat.reduceLT, Nat.reduceBEq, List.contains, List.elem, Blk.closed, Blk.noimm, ↓gsplit_tt, ↓gsplit_ff, ↓gsplit_tf, ↓gsplit_ft, ↓csplit_t, ↓csplit_f, givenUp, Blk.clean, notMs, ty, noS, hle, d1]
      exact wE8_ends 4 rfl
    · have d1 : decide (n < (l.length : Int)) = false := decide_eq_false hn
      simp -implicitDefEqProofs only [evT, evD0, evD1, evD2, implies_true, forall_const, Option.getD, later_normal, aop, aLen, ev, putSlot, cv, cvl, aConv, aBin, aInt, aUn, aFn, aEq, List.length, IntKind.bits, evo, coe, List.append, List.replicate, Nat.reduceAdd, Nat.reduceSub, Nat.reduceMul, Int.reduceToNat, reduceCtorEq, aIndexAddr, aIndex, TD.aggr, aPick, aMin, aMax, Ax.Ends, rone, ↓reduceIte, List.isEmpty, Int.reducePow, Nat.reducePow, Int.reduceMod, Nat.reduceLeDiff, Int.reduceLE, Int.reduceNe, Int.reduceEq, aAppend, appendB, viewB, List.drop, List.take, aRange, aNext, aCopy, srcB, viewG, appendG, appendI, aSlice, bnd, full3, aStore, setB, AV.leaves, AV.okv, AV.leaf, one, elemLeaves, Blk.size, Blk.len, Option.isSome, Option.isNone, aStr, aNil, aExtract, viewI, Nat.reduceEqDiff, Nat.reduceLT, Nat.reduceBEq, List.contains, List.elem, Blk.closed, Blk.noimm, ↓gsplit_tt, ↓gsplit_ff, ↓gsplit_tf, ↓gsplit_ft, ↓csplit_t, ↓csplit_f, givenUp, Blk.clean, notMs, ty, noS, hle, d1]
      refine awp_loopW ⟨fun m σ => ∃ i : Nat, m = l.length - i ∧ i ≤ l.length ∧ (∀ m ∈ l.take i, m.nm.length ≤ 100) ∧
        σ = ⟨[.sg 9 (l.map mtA) f, .w (.int .i64 n), .junk, .junk, .junk, .w (.int .i64 i), .junk, .junk, .junk, .junk, .junk, .junk, .junk, .junk, .junk, .junk, .junk, .junk, .junk, .junk, .junk, .junk, .junk], [], 4⟩, ?_, ?_⟩
      · refine ⟨_, _, weak_ren [0, 1, 2, 3] rfl rfl rfl ?_ ?_, 0, rfl, by omega, by simp, rfl⟩
        · simp only [SameS, SameH, setSlot, gOf, AV.ren, renL, Blk.ren, Ax.look, Ax.put, reduceCtorEq, true_or, false_or, or_true, or_false, and_true, true_and, AV.w.injEq, Value.int.injEq, Value.bool.injEq, AV.ms.injEq, AV.sb.injEq, AV.str.injEq, ↓reduceIte, Nat.reduceEqDiff, Nat.reduceLT, List.length_append, List.length_cons, List.length_nil, Nat.zero_add, Nat.add_zero, Option.some.injEq, Blk.b.injEq, Blk.i.injEq, Nat.succ_ne_zero, Nat.reduceAdd, and_self]; try simp
        · simp only [SameS, SameH, setSlot, gOf, AV.ren, renL, Blk.ren, Ax.look, Ax.put, reduceCtorEq, true_or, false_or, or_true, or_false, and_true, true_and, AV.w.injEq, Value.int.injEq, Value.bool.injEq, AV.ms.injEq, AV.sb.injEq, AV.str.injEq, ↓reduceIte, Nat.reduceEqDiff, Nat.reduceLT, List.length_append, List.length_cons, List.length_nil, Nat.zero_add, Nat.add_zero, Option.some.injEq, Blk.b.injEq, Blk.i.injEq, Nat.succ_ne_zero, Nat.reduceAdd, and_self]
      · rintro m σ ⟨i, rfl, hi, hall, rfl⟩
        by_cases hil : i < l.length
        · have d2 : decide ((i : Int) < l.length) = true := decide_eq_true (by omega)
          have e1 : ((i : Int) + 1 + 9223372036854775808) % 18446744073709551616 - 9223372036854775808 = ((i + 1 : Nat) : Int) := by omega
          have hs1 := slot_mt l i hil
          have hmem : l[i] ∈ l := List.getElem_mem hil
          have htake : l.take (i + 1) = l.take i ++ [l[i]] := List.take_succ_eq_append_getElem hil
          obtain ⟨a, ha⟩ : ∃ x, l[i] = x := ⟨_, rfl⟩
          rw [ha] at hs1 hmem htake
          obtain ⟨k1, t1, i1, nm1, p1, cp1, z1, b1, c1⟩ := a
          have hs1 : slot (l.map mtA) i = .agg [.w (.int .u8 k1), .w (.int .i64 t1), .w (.int .i64 i1), .str nm1, .w (.int .i64 p1), .w (.bool cp1), .w (.int .i64 z1), .w (.int .i64 b1), .w (.int .i64 c1)] := hs1
          by_cases he : nm1.length ≤ 100
          · have d3 : decide ((100 : Int) < nm1.length) = false := decide_eq_false (by omega)
            simp -implicitDefEqProofs only [evT, evD0, evD1, evD2, implies_true, forall_const, Option.getD, later_normal, aop, aLen, ev, putSlot, cv, cvl, aConv, aBin, aInt, aUn, aFn, aEq, List.length, IntKind.bits, evo, coe, List.append, List.replicate, Nat.reduceAdd, Nat.reduceSub, Nat.reduceMul, Int.reduceToNat, reduceCtorEq, aIndexAddr, aIndex, TD.aggr, aPick, aMin, aMax, Ax.Ends, rone, ↓reduceIte, List.isEmpty, Int.reducePow, Nat.reducePow, Int.reduceMod, Nat.reduceLeDiff, Int.reduceLE, Int.reduceNe, Int.reduceEq, aAppend, appendB, viewB, List.drop, List.take, aRange, aNext, aCopy, srcB, viewG, appendG, appendI, aSlice, bnd, full3, aStore, setB, AV.leaves, AV.okv, AV.leaf, one, elemLeaves, Blk.size, Blk.len, Option.isSome, Option.isNone, aStr, aNil, aExtract, viewI, Nat.reduceEqDiff, Nat.reduceLT, Nat.reduceBEq, List.contains, List.elem, Blk.closed, Blk.noimm, ↓gsplit_tt, ↓gsplit_ff, ↓gsplit_tf, ↓gsplit_ft, ↓csplit_t, ↓csplit_f, givenUp, Blk.clean, notMs, ty, noS, hle, d2, e1, hs1, d3, Int.toNat_natCast]
            repeat (refine And.intro (by omega) ?_)
            refine ⟨l.length - (i + 1), _, by omega, weak_ren [0, 1, 2, 3] rfl rfl rfl ?_ ?_, i + 1, rfl, by omega, ?_, rfl⟩
            · simp only [SameS, SameH, setSlot, gOf, AV.ren, renL, Blk.ren, Ax.look, Ax.put, reduceCtorEq, true_or, false_or, or_true, or_false, and_true, true_and, AV.w.injEq, Value.int.injEq, Value.bool.injEq, AV.ms.injEq, AV.sb.injEq, AV.str.injEq, ↓reduceIte, Nat.reduceEqDiff, Nat.reduceLT, List.length_append, List.length_cons, List.length_nil, Nat.zero_add, Nat.add_zero, Option.some.injEq, Blk.b.injEq, Blk.i.injEq, Nat.succ_ne_zero, Nat.reduceAdd, and_self]
            · simp only [SameS, SameH, setSlot, gOf, AV.ren, renL, Blk.ren, Ax.look, Ax.put, reduceCtorEq, true_or, false_or, or_true, or_false, and_true, true_and, AV.w.injEq, Value.int.injEq, Value.bool.injEq, AV.ms.injEq, AV.sb.injEq, AV.str.injEq, ↓reduceIte, Nat.reduceEqDiff, Nat.reduceLT, List.length_append, List.length_cons, List.length_nil, Nat.zero_add, Nat.add_zero, Option.some.injEq, Blk.b.injEq, Blk.i.injEq, Nat.succ_ne_zero, Nat.reduceAdd, and_self]
            · intro q hq
              rw [htake, List.mem_append] at hq
              rcases hq with hq | hq
              · exact hall q hq
              · have : q = ⟨k1, t1, i1, nm1, p1, cp1, z1, b1, c1⟩ := by simpa using hq
                rw [this]; exact he
          · have d3 : decide ((100 : Int) < nm1.length) = true := decide_eq_true (by omega)
            have hno : decide (lightL l n) = false := decide_eq_false (fun h => he (h.2 _ hmem))
            rw [hno]
            simp -implicitDefEqProofs only [evT, evD0, evD1, evD2, implies_true, forall_const, Option.getD, later_normal, aop, aLen, ev, putSlot, cv, cvl, aConv, aBin, aInt, aUn, aFn, aEq, List.length, IntKind.bits, evo, coe, List.append, List.replicate, Nat.reduceAdd, Nat.reduceSub, Nat.reduceMul, Int.reduceToNat, reduceCtorEq, aIndexAddr, aIndex, TD.aggr, aPick, aMin, aMax, Ax.Ends, rone, ↓reduceIte, List.isEmpty, Int.reducePow, Nat.reducePow, Int.reduceMod, Nat.reduceLeDiff, Int.reduceLE, Int.reduceNe, Int.reduceEq, aAppend, appendB, viewB, List.drop, List.take, aRange, aNext, aCopy, srcB, viewG, appendG, appendI, aSlice, bnd, full3, aStore, setB, AV.leaves, AV.okv, AV.leaf, one, elemLeaves, Blk.size, Blk.len, Option.isSome, Option.isNone, aStr, aNil, aExtract, viewI, Nat.reduceEqDiff, Nat.reduceLT, Nat.reduceBEq, List.contains, List.elem, Blk.closed, Blk.noimm, ↓gsplit_tt, ↓gsplit_ff, ↓gsplit_tf, ↓gsplit_ft, ↓csplit_t, ↓csplit_f, givenUp, Blk.clean, notMs, ty, noS, hle, d2, e1, hs1, d3, Int.toNat_natCast]
            repeat (refine And.intro (by omega) ?_)
            refine ⟨_, Weak.refl _, ?_⟩
            simp -implicitDefEqProofs only [evT, evD0, evD1, evD2, implies_true, forall_const, Option.getD, later_normal, aop, aLen, ev, putSlot, cv, cvl, aConv, aBin, aInt, aUn, aFn, aEq, List.length, IntKind.bits, evo, coe, List.append, List.replicate, Nat.reduceAdd, Nat.reduceSub, Nat.reduceMul, Int.reduceToNat, reduceCtorEq, aIndexAddr, aIndex, TD.aggr, aPick, aMin, aMax, Ax.Ends, rone, ↓reduceIte, List.isEmpty, Int.reducePow, Nat.reducePow, Int.reduceMod, Nat.reduceLeDiff, Int.reduceLE, Int.reduceNe, Int.reduceEq, aAppend, appendB, viewB, List.drop, List.take, aRange, aNext, aCopy, srcB, viewG, appendG, appendI, aSlice, bnd, full3, aStore, setB, AV.leaves, AV.okv, AV.leaf, one, elemLeaves, Blk.size, Blk.len, Option.isSome, Option.isNone, aStr, aNil, aExtract, viewI, Nat.reduceEqDiff, Nat.reduceLT, Nat.reduceBEq, List.contains, List.elem, Blk.closed, Blk.noimm, ↓gsplit_tt, ↓gsplit_ff, ↓gsplit_tf, ↓gsplit_ft, ↓csplit_t, ↓csplit_f, givenUp, Blk.clean, notMs, ty, noS]
            exact wE8_ends 4 rfl
        · have d2 : decide ((i : Int) < l.length) = false := decide_eq_false (by omega)
          rw [List.take_of_length_le (by omega)] at hall
          have hyes : decide (lightL l n) = true := decide_eq_true ⟨hn, hall⟩
          rw [hyes]
          simp -implicitDefEqProofs only [evT, evD0, evD1, evD2, implies_true, forall_const, Option.getD, later_normal, aop, aLen, ev, putSlot, cv, cvl, aConv, aBin, aInt, aUn, aFn, aEq, List.length, IntKind.bits, evo, coe, List.append, List.replicate, Nat.reduceAdd, Nat.reduceSub, Nat.reduceMul, Int.reduceToNat, reduceCtorEq, aIndexAddr, aIndex, TD.aggr, aPick, aMin, aMax, Ax.Ends, rone, ↓reduceIte, List.isEmpty, Int.reducePow, Nat.reducePow, Int.reduceMod, Nat.reduceLeDiff, Int.reduceLE, Int.reduceNe, Int.reduceEq, aAppend, appendB, viewB, List.drop, List.take, aRange, aNext, aCopy, srcB, viewG, appendG, appendI, aSlice, bnd, full3, aStore, setB, AV.leaves, AV.okv, AV.leaf, one, elemLeaves, Blk.size, Blk.len, Option.isSome, Option.isNone, aStr, aNil, aExtract, viewI, Nat.reduceEqDiff, Nat.reduceLT, Nat.reduceBEq, List.contains, List.elem, Blk.closed, Blk.noimm, ↓gsplit_tt, ↓gsplit_ff, ↓gsplit_tf, ↓gsplit_ft, ↓csplit_t, ↓csplit_f, givenUp, Blk.clean, notMs, ty, noS, hle, d2]
          refine ⟨_, Weak.refl _, ?_⟩
          simp -implicitDefEqProofs only [evT, evD0, evD1, evD2, implies_true, forall_const, Option.getD, later_normal, aop, aLen, ev, putSlot, cv, cvl, aConv, aBin, aInt, aUn, aFn, aEq, List.length, IntKind.bits, evo, coe, List.append, List.replicate, Nat.reduceAdd, Nat.reduceSub, Nat.reduceMul, Int.reduceToNat, reduceCtorEq, aIndexAddr, aIndex, TD.aggr, aPick, aMin, aMax, Ax.Ends, rone, ↓reduceIte, List.isEmpty, Int.reducePow, Nat.reducePow, Int.reduceMod, Nat.reduceLeDiff, Int.reduceLE, Int.reduceNe, Int.reduceEq, aAppend, appendB, viewB, List.drop, List.take, aRange, aNext, aCopy, srcB, viewG, appendG, appendI, aSlice, bnd, full3, aStore, setB, AV.leaves, AV.okv, AV.leaf, one, elemLeaves, Blk.size, Blk.len, Option.isSome, Option.isNone, aStr, aNil, aExtract, viewI, Nat.reduceEqDiff, Nat.reduceLT, Nat.reduceBEq, List.contains, List.elem, Blk.closed, Blk.noimm, ↓gsplit_tt, ↓gsplit_ff, ↓gsplit_tf, ↓gsplit_ft, ↓csplit_t, ↓csplit_f, givenUp, Blk.clean, notMs, ty, noS]
          exact wE8_ends 4 rfl
  · exact hp.elim
end
/-! What is read of the bytes of metas and a generation. -/
def tx8 (q : List UInt8 × Int) : List UInt8 := rtS' 8192 q.1 q.2
def tst8 (q : List UInt8 × Int) : List UInt8 × Int := (rtL 8192 q.1 q.2, rtE 8192 q.1 q.2)
def tit8 (q : List UInt8 × Int) : Nat → List UInt8 × Int
  | 0 => q
  | n + 1 => tst8 (tit8 q n)
def gq1 (b : List UInt8) : List UInt8 × Int := rst (b, 0)
def gq2 (b : List UInt8) : List UInt8 × Int := rst (gq1 b)
def gGen (b : List UInt8) : Int := rnu (b, 0)
def gCnt (b : List UInt8) : Int := rnu (gq1 b)
def gLst (b : List UInt8) : Nat → List Mt
  | 0 => []
  | n + 1 => gLst b n ++ [getMt (tx8 (tit8 (gq2 b) n))]
def okG (b : List UInt8) : Prop := 0 ≤ gCnt b ∧ gCnt b ≤ b.length ∧ allE (gGen b) (gLst b (gCnt b).toNat) = 0 ∧ allB (gGen b) (gLst b (gCnt b).toNat) = b
instance (b : List UInt8) : Decidable (okG b) := by unfold okG; infer_instance
theorem gLst_len (b : List UInt8) : ∀ n, (gLst b n).length = n
  | 0 => rfl
  | n + 1 => by unfold gLst; rw [List.length_append, gLst_len b n]; rfl
theorem allE_ok {gen : Int} {l : List Mt} (h : allE gen l = 0) : (0 ≤ gen ∧ gen ≤ 1099511627776) ∧ (∀ m ∈ l, chkM m = 0) ∧ (allB gen l).length ≤ 8192 := by
  unfold allE at h
  by_cases h1 : gen < 0 ∨ 1099511627776 < gen
  · rw [if_pos h1] at h; omega
  · rw [if_neg h1] at h
    by_cases h2 : fbad l = 0
    · rw [if_pos h2] at h
      refine ⟨by omega, ?_, ?_⟩
      · clear h
        induction l with
        | nil => simp
        | cons m r ih =>
          unfold fbad at h2
          by_cases h3 : chkM m = 0
          · rw [if_pos h3] at h2
            intro x hx
            rcases List.mem_cons.1 hx with rfl | hx
            · exact h3
            · exact ih h2 x hx
          · rw [if_neg h3] at h2; exact (h3 h2).elim
      · by_cases h3 : 8192 < (allB gen l).length
        · rw [if_pos h3] at h; omega
        · omega
    · rw [if_neg h2] at h; exact (h2 h).elim
theorem getMt_lay (m : Mt) (h : chkM m = 0) (hk : 0 ≤ m.k) : getOk (layM m) ∧ getMt (layM m) = m := by
  have h1 := (rd_lay m h hk []).1
  rw [List.append_nil] at h1
  have h2 : getOk (layM m) := by unfold getOk; rw [h1]; exact ⟨h, rfl⟩
  exact ⟨h2, by unfold getMt; rw [if_pos h2, h1]⟩
theorem tit8_lay (l : List Mt) (h : ∀ m ∈ l, chkM m = 0) : ∀ (j : Nat), j ≤ l.length → tit8 (cat8 l, 0) j = (cat8 (l.drop j), 0)
  | 0, _ => rfl
  | j + 1, hj => by
    unfold tit8
    rw [tit8_lay l h j (by omega), List.drop_eq_getElem_cons (by omega)]
    have hm := h l[j] (List.getElem_mem (by omega))
    have hl := layM_len l[j] hm
    have e : cat8 (l[j] :: l.drop (j + 1)) = textL (layM l[j]) ++ cat8 (l.drop (j + 1)) := by unfold cat8; rw [List.flatMap_cons]
    obtain ⟨_, t2, t3⟩ := text_put8 8192 (layM l[j]) (cat8 (l.drop (j + 1))) (by omega) (by omega)
    unfold tst8
    simp only
    rw [e, t2, t3]
theorem tx8_lay (l : List Mt) (h : ∀ m ∈ l, chkM m = 0) (j : Nat) (hj : j < l.length) : tx8 (tit8 (cat8 l, 0) j) = layM l[j] := by
  rw [tit8_lay l h j (by omega), List.drop_eq_getElem_cons hj]
  have hm := h l[j] (List.getElem_mem hj)
  have hl := layM_len l[j] hm
  have e : cat8 (l[j] :: l.drop (j + 1)) = textL (layM l[j]) ++ cat8 (l.drop (j + 1)) := by unfold cat8; rw [List.flatMap_cons]
  obtain ⟨t1, _, _⟩ := text_put8 8192 (layM l[j]) (cat8 (l.drop (j + 1))) (by omega) (by omega)
  unfold tx8
  simp only
  rw [e, t1]
theorem gq_lay (gen : Int) (l : List Mt) (h : allE gen l = 0) (hL : l.length ≤ 1000000000) (r : List UInt8) :
    gGen (allB gen l ++ r) = gen ∧ gCnt (allB gen l ++ r) = l.length ∧ gq2 (allB gen l ++ r) = (cat8 l ++ r, 0) := by
  obtain ⟨h1, h2, h3⟩ := allE_ok h
  have e : allB gen l ++ r = pz gen ++ (pz (l.length : Int) ++ (cat8 l ++ r)) := by unfold allB; simp
  obtain ⟨a1, a2⟩ := rst_put gen (by omega) (pz (l.length : Int) ++ (cat8 l ++ r))
  obtain ⟨b1, b2⟩ := rst_put (l.length : Int) (by omega) (cat8 l ++ r)
  unfold gGen gCnt gq2 gq1
  rw [e, a1, a2, b1, b2]
  exact ⟨rfl, rfl, rfl⟩
theorem textL_pos8 (s : List UInt8) : 1 ≤ (textL s).length := by
  unfold textL
  have := putU_pos (2 * s.length)
  rw [List.length_append]; omega
theorem cat8_pos (l : List Mt) : l.length ≤ (cat8 l).length := by
  unfold cat8
  induction l with
  | nil => simp
  | cons m r ih =>
    have := textL_pos8 (layM m)
    rw [List.flatMap_cons, List.length_append, List.length_cons]; omega
/-- What was laid is read. -/
theorem okG_lay (gen : Int) (l : List Mt) (h : allE gen l = 0) (hL : l.length ≤ 1000000000) (hk : ∀ m ∈ l, 0 ≤ m.k) :
    gGen (allB gen l) = gen ∧ gCnt (allB gen l) = l.length ∧ gLst (allB gen l) l.length = l ∧ okG (allB gen l) ∧
    tit8 (gq2 (allB gen l)) l.length = ([], 0) ∧ (∀ j, j ≤ l.length → (tit8 (gq2 (allB gen l)) j).2 = 0) ∧ (∀ j, j < l.length → getOk (tx8 (tit8 (gq2 (allB gen l)) j))) := by
  obtain ⟨h1, h2, h3⟩ := allE_ok h
  obtain ⟨q1, q2, q3⟩ := gq_lay gen l h hL []
  rw [List.append_nil] at q1 q2 q3
  rw [List.append_nil] at q3
  have hlist : ∀ n, n ≤ l.length → gLst (allB gen l) n = l.take n := by
    intro n
    induction n with
    | zero => intro _; simp [gLst]
    | succ n ih =>
      intro hn
      unfold gLst
      rw [ih (by omega), q3, tx8_lay l h2 n (by omega), List.take_succ_eq_append_getElem (by omega)]
      rw [(getMt_lay l[n] (h2 _ (List.getElem_mem (by omega))) (hk _ (List.getElem_mem (by omega)))).2]
  have hl := hlist l.length (Nat.le_refl _)
  rw [List.take_length] at hl
  refine ⟨q1, q2, hl, ?_, ?_, ?_, ?_⟩
  · unfold okG
    rw [q1, q2, Int.toNat_natCast, hl]
    refine ⟨by omega, ?_, h, rfl⟩
    have := cat8_pos l
    unfold allB
    simp only [List.length_append]; omega
  · rw [q3, tit8_lay l h2 _ (Nat.le_refl _), List.drop_length]; rfl
  · intro j hj
    rw [q3, tit8_lay l h2 _ hj]
  · intro j hj
    rw [q3, tx8_lay l h2 j hj]
    exact (getMt_lay l[j] (h2 _ (List.getElem_mem hj)) (hk _ (List.getElem_mem hj))).1
theorem rdM_fit (b : List UInt8) (hb : b.length ≤ 1000000) : fitM (rdM b) := by
  have hk := rK_rng b
  refine ⟨by rw [rdM_k]; exact hk.1, by rw [rdM_k]; exact hk.2, ?_⟩
  unfold rdM
  repeat' split
  all_goals first
    | (have h1 := rtS_len8 32 (rq3 b).1 (rq3 b).2
       have h2 := numL_length (rq2 b).1 (rq2 b).2
       have h3 := numL_length (rq1 b).1 (rq1 b).2
       have h4 := numL_length (rq0 b).1 (rq0 b).2
       have h5 := rfixL_len8 1 b 0
       have e3 : (rq3 b).1 = numL (rq2 b).1 (rq2 b).2 := rfl
       have e2 : (rq2 b).1 = numL (rq1 b).1 (rq1 b).2 := rfl
       have e1 : (rq1 b).1 = numL (rq0 b).1 (rq0 b).2 := rfl
       have e0 : (rq0 b).1 = rfixL 1 b 0 := rfl
       rw [e3] at h1; rw [e2] at h1 h2; rw [e1] at h1 h2 h3; rw [e0] at h1 h2 h3 h4
       show (rtS' 32 (rq3 b).1 (rq3 b).2).length ≤ 1000000
       rw [e3, e2, e1, e0]
       omega)
    | simp
theorem getMt_fit (b : List UInt8) (hb : b.length ≤ 1000000) : fitM (getMt b) := by
  unfold getMt; split
  · exact rdM_fit b hb
  · exact ⟨by decide, by decide, by simp [zM]⟩
theorem rtL_len8 (m : Int) (bs : List UInt8) (e : Int) : (rtL m bs e).length ≤ bs.length := by
  unfold rtL; split
  · exact Nat.le_trans (tkL_len8 _ _) (numL_length _ _)
  · exact numL_length _ _
theorem tit8_len (q : List UInt8 × Int) : ∀ n, (tit8 q n).1.length ≤ q.1.length
  | 0 => Nat.le_refl _
  | n + 1 => Nat.le_trans (rtL_len8 _ _ _) (tit8_len q n)
theorem gq2_len (b : List UInt8) : (gq2 b).1.length ≤ b.length :=
  Nat.le_trans (numL_length _ _) (numL_length b 0)
theorem gLst_fit (b : List UInt8) (hb : b.length ≤ 1000000) : ∀ n, fitL (gLst b n)
  | 0 => by intro m hm; simp [gLst] at hm
  | n + 1 => by
    intro m hm
    unfold gLst at hm
    rcases List.mem_append.1 hm with hm | hm
    · exact gLst_fit b hb n m hm
    · have : m = getMt (tx8 (tit8 (gq2 b) n)) := by simpa using hm
      rw [this]
      refine getMt_fit _ ?_
      have h1 := rtS_len8 8192 (tit8 (gq2 b) n).1 (tit8 (gq2 b) n).2
      have h2 := tit8_len (gq2 b) n
      have h3 := gq2_len b
      unfold tx8; omega
end Go.Proofs.Ytlbdhkgjhjcgiaa
