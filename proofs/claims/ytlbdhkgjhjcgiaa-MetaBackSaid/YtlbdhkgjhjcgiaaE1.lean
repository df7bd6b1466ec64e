/- Layer 8: metas as data; the numbers of a kind, what lies outside of bounds, the fields alone that a kind has. -/
import Derived.Test.YtlbdhkgjhjcgiaaAu
import Derived.Test.YtlbdhkgjhjcgiaaAxU
namespace Go.Proofs.Ytlbdhkgjhjcgiaa
open Ax
set_option linter.unusedSimpArgs false
set_option linter.unusedVariables false

structure Mt where
  k : Int
  t : Int
  i : Int
  nm : List UInt8
  p : Int
  cp : Bool
  z : Int
  b : Int
  c : Int
def mtA (m : Mt) : AV := .agg [.w (.int .u8 m.k), .w (.int .i64 m.t), .w (.int .i64 m.i), .str m.nm, .w (.int .i64 m.p), .w (.bool m.cp), .w (.int .i64 m.z), .w (.int .i64 m.b), .w (.int .i64 m.c)]
def eqM (a b : Mt) : Prop := a.k = b.k ∧ a.t = b.t ∧ a.i = b.i ∧ a.nm = b.nm ∧ a.p = b.p ∧ a.cp = b.cp ∧ a.z = b.z ∧ a.b = b.b ∧ a.c = b.c
instance (a b : Mt) : Decidable (eqM a b) := by unfold eqM; infer_instance
theorem eqM_iff (a b : Mt) : eqM a b ↔ a = b := by
  constructor
  · rintro ⟨h1, h2, h3, h4, h5, h6, h7, h8, h9⟩
    cases a; cases b; simp_all
  · rintro rfl; exact ⟨rfl, rfl, rfl, rfl, rfl, rfl, rfl, rfl, rfl⟩
/-- Which fields a kind has: their places. -/
def numF (k : Int) : List Nat :=
  if k = 0 then [1, 4] else if k = 1 then [1] else if k = 6 then [1] else if k = 2 then [1, 2, 6, 7] else if k = 3 then [1, 2, 6] else if k = 4 then [1, 2, 8, 6, 7] else if k = 5 then [1, 2, 7] else []
def outS : FSpec
  | [.w (.int .i64 n), .w (.int .i64 l), .w (.int .i64 m)], [] => ⟨True, .w (.bool (decide (n < l ∨ m < n))), []⟩
  | _, _ => noRes
def numbersO : FSpec
  | [.rf 0 9 0 0], [.g 9 [.agg [.w (.int .u8 k), .w (.int .i64 t), .w (.int .i64 i), .str nm, .w (.int .i64 p), .w (.bool cp), .w (.int .i64 z), .w (.int .i64 b), .w (.int .i64 c)]]] =>
      ⟨True, if numF k = [] then .sg 1 [] true else .ms 1 1 0 (numF k).length,
        [.g 9 [.agg [.w (.int .u8 k), .w (.int .i64 t), .w (.int .i64 i), .str nm, .w (.int .i64 p), .w (.bool cp), .w (.int .i64 z), .w (.int .i64 b), .w (.int .i64 c)]]] ++ (if numF k = [] then [] else [.g 1 ((numF k).map fun j => .rf 0 9 0 j)])⟩
  | _, _ => noRes
theorem cst : ((0 : Nat) : Int) = 0 ∧ ((1 : Nat) : Int) = 1 ∧ ((2 : Nat) : Int) = 2 ∧ ((3 : Nat) : Int) = 3 ∧ ((4 : Nat) : Int) = 4 ∧ ((5 : Nat) : Int) = 5 := ⟨rfl, rfl, rfl, rfl, rfl, rfl⟩
theorem kind_cases (k : Int) : k = 0 ∨ k = 1 ∨ k = 2 ∨ k = 3 ∨ k = 4 ∨ k = 5 ∨ k = 6 ∨ (k ≠ 0 ∧ k ≠ 1 ∧ k ≠ 2 ∧ k ≠ 3 ∧ k ≠ 4 ∧ k ≠ 5 ∧ k ≠ 6) := by omega
section
set_option maxRecDepth 100000
theorem out_sound : Sound Try.prog 31 outS := by
  refine fn_sound (S := noS) (T := ty) mixed ty_ok noS_ok Try.func31 (c := Try.f31.body.getD .skip) (by kernel_rfl) (by kernel_rfl) (fun xs pins hp _ => ?_)
  unfold outS at hp ⊢
  split at hp
  · rename_i n l m _
    refine ⟨by simp, ?_⟩
    unfold Try.f31
    by_cases h1 : n < l
    · have d1 : decide (n < l) = true := decide_eq_true h1
      simp -implicitDefEqProofs only [evT, evD0, evD1, evD2, implies_true, forall_const, Option.getD, later_normal, aop, aLen, ev, putSlot, cv, cvl, aConv, aBin, aInt, aUn, aFn, aEq, List.length, IntKind.bits, evo, coe, List.append, List.replicate, Nat.reduceAdd, Nat.reduceSub, Nat.reduceMul, Int.reduceToNat, reduceCtorEq, aIndexAddr, aIndex, TD.aggr, aPick, aMin, aMax, Ax.Ends, rone, ↓reduceIte, List.isEmpty, Int.reducePow, Nat.reducePow, Int.reduceMod, Nat.reduceLeDiff, Int.reduceLE, Int.reduceNe, Int.reduceEq, aAppend, appendB, viewB, List.drop, List.take, aRange, aNext, aCopy, srcB, viewG, appendG, appendI, aSlice, bnd, full3, aStore, setB, AV.leaves, AV.okv, AV.leaf, one, elemLeaves, Blk.size, Blk.len, Option.isSome, Option.isNone, aStr, aNil, aExtract, viewI, Nat.reduceEqDiff, Nat.reduceLT, Nat.reduceBEq, List.contains, List.elem, Blk.closed, Blk.noimm, ↓gsplit_tt, ↓gsplit_ff, ↓gsplit_tf, ↓gsplit_ft, ↓csplit_t, ↓csplit_f, givenUp, Blk.clean, notMs, ty, noS, d1, h1, true_or, decide_true]
    · have d1 : decide (n < l) = false := decide_eq_false h1
      simp -implicitDefEqProofs only [evT, evD0, evD1, evD2, implies_true, forall_const, Option.getD, later_normal, aop, aLen, ev, putSlot, cv, cvl, aConv, aBin, aInt, aUn, aFn, aEq, List.length, IntKind.bits, evo, coe, List.append, List.replicate, Nat.reduceAdd, Nat.reduceSub, Nat.reduceMul, Int.reduceToNat, reduceCtorEq, aIndexAddr, aIndex, TD.aggr, aPick, aMin, aMax, Ax.Ends, rone, ↓reduceIte, List.isEmpty, Int.reducePow, Nat.reducePow, Int.reduceMod, Nat.reduceLeDiff, Int.reduceLE, Int.reduceNe, Int.reduceEq, aAppend, appendB, viewB, List.drop, List.take, aRange, aNext, aCopy, srcB, viewG, appendG, appendI, aSlice, bnd, full3, aStore, setB, AV.leaves, AV.okv, AV.leaf, one, elemLeaves, Blk.size, Blk.len, Option.isSome, Option.isNone, aStr, aNil, aExtract, viewI, Nat.reduceEqDiff, Nat.reduceLT, Nat.reduceBEq, List.contains, List.elem, Blk.closed, Blk.noimm, ↓gsplit_tt, ↓gsplit_ff, ↓gsplit_tf, ↓gsplit_ft, ↓csplit_t, ↓csplit_f, givenUp, Blk.clean, notMs, ty, noS, d1, h1, false_or]
  · exact hp.elim
set_option maxHeartbeats 2000000 in
theorem numbers_sound : SoundO Try.prog 23 numbersO := by
  refine fn_soundO (S := noS) (SO := noO) (T := ty) mixed ty_ok noS_ok noO_ok Try.func23 (c := Try.f23.body.getD .skip) (by kernel_rfl) (fun xs pins hp => ?_)
  unfold numbersO at hp ⊢
  split at hp
  · rename_i k t i nm p cp z b c
    refine ⟨by simp, fun _ => .std, by kernel_rfl, ?_⟩
    unfold Try.f23
    rcases kind_cases k with rfl | rfl | rfl | rfl | rfl | rfl | rfl | ⟨h0, h1, h2, h3, h4, h5, h6⟩
    all_goals first
      | (simp -implicitDefEqProofs only [evT, evD0, evD1, evD2, implies_true, forall_const, Option.getD, later_normal, aop, aLen, ev, putSlot, cv, cvl, aConv, aBin, aInt, aUn, aFn, aEq, List.length, IntKind.bits, evo, coe, List.append, List.replicate, Nat.reduceAdd, Nat.reduceSub, Nat.reduceMul, Int.reduceToNat, reduceCtorEq, aIndexAddr, aIndex, TD.aggr, aPick, aMin, aMax, Ax.Ends, rone, ↓reduceIte, List.isEmpty, Int.reducePow, Nat.reducePow, Int.reduceMod, Nat.reduceLeDiff, Int.reduceLE, Int.reduceNe, Int.reduceEq, aAppend, appendB, viewB, List.drop, List.take, aRange, aNext, aCopy, srcB, viewG, appendG, appendI, aSlice, bnd, full3, aStore, setB, AV.leaves, AV.okv, AV.leaf, one, elemLeaves, Blk.size, Blk.len, Option.isSome, Option.isNone, aStr, aNil, aExtract, viewI, Nat.reduceEqDiff, Nat.reduceLT, Nat.reduceBEq, List.contains, List.elem, Blk.closed, Blk.noimm, ↓gsplit_tt, ↓gsplit_ff, ↓gsplit_tf, ↓gsplit_ft, ↓csplit_t, ↓csplit_f, givenUp, Blk.clean, notMs, evDO, evTO, evTP, laterO_normal, ↓frzK_def, Blk.fz, Blk.fg, ↓openKO_def, openOp, Blk.isGone, Blk.idsB, Blk.sidsB, Blk.ren, EndsO, Blk.ids, Op.operands, Call.operands, List.map_cons, List.map_nil, List.toList_toArray, Array.toList_append, Option.toArray_some, Option.toArray_none, Bool.and_self, ty, noS, decide_true, decide_false, numF]
         refine ⟨_, Weak.refl _, ?_⟩
         simp -implicitDefEqProofs only [evT, evD0, evD1, evD2, implies_true, forall_const, Option.getD, later_normal, aop, aLen, ev, putSlot, cv, cvl, aConv, aBin, aInt, aUn, aFn, aEq, List.length, IntKind.bits, evo, coe, List.append, List.replicate, Nat.reduceAdd, Nat.reduceSub, Nat.reduceMul, Int.reduceToNat, reduceCtorEq, aIndexAddr, aIndex, TD.aggr, aPick, aMin, aMax, Ax.Ends, rone, ↓reduceIte, List.isEmpty, Int.reducePow, Nat.reducePow, Int.reduceMod, Nat.reduceLeDiff, Int.reduceLE, Int.reduceNe, Int.reduceEq, aAppend, appendB, viewB, List.drop, List.take, aRange, aNext, aCopy, srcB, viewG, appendG, appendI, aSlice, bnd, full3, aStore, setB, AV.leaves, AV.okv, AV.leaf, one, elemLeaves, Blk.size, Blk.len, Option.isSome, Option.isNone, aStr, aNil, aExtract, viewI, Nat.reduceEqDiff, Nat.reduceLT, Nat.reduceBEq, List.contains, List.elem, Blk.closed, Blk.noimm, ↓gsplit_tt, ↓gsplit_ff, ↓gsplit_tf, ↓gsplit_ft, ↓csplit_t, ↓csplit_f, givenUp, Blk.clean, notMs, evDO, evTO, evTP, laterO_normal, ↓frzK_def, Blk.fz, Blk.fg, ↓openKO_def, openOp, Blk.isGone, Blk.idsB, Blk.sidsB, Blk.ren, EndsO, Blk.ids, Op.operands, Call.operands, List.map_cons, List.map_nil, List.toList_toArray, Array.toList_append, Option.toArray_some, Option.toArray_none, Bool.and_self, ty, noS, decide_true, decide_false, numF]
         done)
      | skip
    have d0 : decide (k = 0) = false := decide_eq_false h0
    have d1 : decide (k = 1) = false := decide_eq_false h1
    have d2 : decide (k = 2) = false := decide_eq_false h2
    have d3 : decide (k = 3) = false := decide_eq_false h3
    have d4 : decide (k = 4) = false := decide_eq_false h4
    have d5 : decide (k = 5) = false := decide_eq_false h5
    have d6 : decide (k = 6) = false := decide_eq_false h6
    have hn : numF k = [] := by unfold numF; simp [h0, h1, h2, h3, h4, h5, h6]
    simp -implicitDefEqProofs only [evT, evD0, evD1, evD2, implies_true, forall_const, Option.getD, later_normal, aop, aLen, ev, putSlot, cv, cvl, aConv, aBin, aInt, aUn, aFn, aEq, List.length, IntKind.bits, evo, coe, List.append, List.replicate, Nat.reduceAdd, Nat.reduceSub, Nat.reduceMul, Int.reduceToNat, reduceCtorEq, aIndexAddr, aIndex, TD.aggr, aPick, aMin, aMax, Ax.Ends, rone, ↓reduceIte, List.isEmpty, Int.reducePow, Nat.reducePow, Int.reduceMod, Nat.reduceLeDiff, Int.reduceLE, Int.reduceNe, Int.reduceEq, aAppend, appendB, viewB, List.drop, List.take, aRange, aNext, aCopy, srcB, viewG, appendG, appendI, aSlice, bnd, full3, aStore, setB, AV.leaves, AV.okv, AV.leaf, one, elemLeaves, Blk.size, Blk.len, Option.isSome, Option.isNone, aStr, aNil, aExtract, viewI, Nat.reduceEqDiff, Nat.reduceLT, Nat.reduceBEq, List.contains, List.elem, Blk.closed, Blk.noimm, ↓gsplit_tt, ↓gsplit_ff, ↓gsplit_tf, ↓gsplit_ft, ↓csplit_t, ↓csplit_f, givenUp, Blk.clean, notMs, evDO, evTO, evTP, laterO_normal, ↓frzK_def, Blk.fz, Blk.fg, ↓openKO_def, openOp, Blk.isGone, Blk.idsB, Blk.sidsB, Blk.ren, EndsO, Blk.ids, Op.operands, Call.operands, List.map_cons, List.map_nil, List.toList_toArray, Array.toList_append, Option.toArray_some, Option.toArray_none, Bool.and_self, ty, noS, hn, d0, d1, d2, d3, d4, d5, d6]
    refine ⟨_, Weak.refl _, ?_⟩
    simp -implicitDefEqProofs only [evT, evD0, evD1, evD2, implies_true, forall_const, Option.getD, later_normal, aop, aLen, ev, putSlot, cv, cvl, aConv, aBin, aInt, aUn, aFn, aEq, List.length, IntKind.bits, evo, coe, List.append, List.replicate, Nat.reduceAdd, Nat.reduceSub, Nat.reduceMul, Int.reduceToNat, reduceCtorEq, aIndexAddr, aIndex, TD.aggr, aPick, aMin, aMax, Ax.Ends, rone, ↓reduceIte, List.isEmpty, Int.reducePow, Nat.reducePow, Int.reduceMod, Nat.reduceLeDiff, Int.reduceLE, Int.reduceNe, Int.reduceEq, aAppend, appendB, viewB, List.drop, List.take, aRange, aNext, aCopy, srcB, viewG, appendG, appendI, aSlice, bnd, full3, aStore, setB, AV.leaves, AV.okv, AV.leaf, one, elemLeaves, Blk.size, Blk.len, Option.isSome, Option.isNone, aStr, aNil, aExtract, viewI, Nat.reduceEqDiff, Nat.reduceLT, Nat.reduceBEq, List.contains, List.elem, Blk.closed, Blk.noimm, ↓gsplit_tt, ↓gsplit_ff, ↓gsplit_tf, ↓gsplit_ft, ↓csplit_t, ↓csplit_f, givenUp, Blk.clean, notMs, evDO, evTO, evTP, laterO_normal, ↓frzK_def, Blk.fz, Blk.fg, ↓openKO_def, openOp, Blk.isGone, Blk.idsB, Blk.sidsB, Blk.ren, EndsO, Blk.ids, Op.operands, Call.operands, List.map_cons, List.map_nil, List.toList_toArray, Array.toList_append, Option.toArray_some, Option.toArray_none, Bool.and_self, ty, noS, hn]
  · exact hp.elim
/-- The fields alone that a kind has. -/
def onlyM (m : Mt) : Mt := ⟨m.k, m.t, if 2 ≤ m.k ∧ m.k ≤ 5 then m.i else 0, if m.k = 0 then m.nm else [], if m.k = 0 then m.p else 0, if m.k = 0 then m.cp else false, if 2 ≤ m.k ∧ m.k ≤ 4 then m.z else 0, if m.k = 2 ∨ m.k = 4 ∨ m.k = 5 then m.b else 0, if m.k = 4 then m.c else 0⟩
def justS : FSpec
  | [.agg [.w (.int .u8 k), .w (.int .i64 t), .w (.int .i64 i), .str nm, .w (.int .i64 p), .w (.bool cp), .w (.int .i64 z), .w (.int .i64 b), .w (.int .i64 c)]], [] =>
      ⟨0 ≤ k ∧ k ≤ 6, mtA (onlyM ⟨k, t, i, nm, p, cp, z, b, c⟩), []⟩
  | _, _ => noRes
def onlyPl : Plan := fun id => match id with
  | 3 => some [(2, 7), (3, 7), (4, 7), (5, 7), (4, 9), (5, 9)]
  | _ => none
def Ojust (f : FuncId) : Option FSpec :=
  match f with
  | 23 => some numbersO
  | _ => none
theorem Ojust_ok : FnsO Try.prog Ojust := by
  intro f s h
  unfold Ojust at h
  split at h
  · injection h with h; subst h; exact ⟨⟨_, Try.func23, by kernel_rfl, by kernel_rfl⟩, numbers_sound⟩
  · cases h
def justPl : XPlan := fun id => match id with
  | 2 => .opn [] 0
  | 3 => .opn [] 0
  | _ => .std
theorem kind_le (k : Int) (h : 0 ≤ k ∧ k ≤ 6) : k = 0 ∨ k = 1 ∨ k = 2 ∨ k = 3 ∨ k = 4 ∨ k = 5 ∨ k = 6 := by omega
set_option maxHeartbeats 4000000 in
theorem just_sound : Sound Try.prog 30 justS := by
  refine fn_soundOK (S := noS) (SO := Ojust) (T := ty) mixed ty_ok noS_ok Ojust_ok Try.func30 (c := Try.f30.body.getD .skip) (by kernel_rfl) (fun xs pins hp _ => ?_)
  unfold justS at hp ⊢
  split at hp
  · rename_i k t i nm p cp z b c _
    have hk : 0 ≤ k ∧ k ≤ 6 := hp
    refine ⟨by simp, justPl, by kernel_rfl, ?_⟩
    unfold Try.f30
    rcases kind_le k hk with rfl | rfl | rfl | rfl | rfl | rfl | rfl
    all_goals
      simp -implicitDefEqProofs only [evT, evD0, evD1, evD2, implies_true, forall_const, Option.getD, later_normal, aop, aLen, ev, putSlot, cv, cvl, aConv, aBin, aInt, aUn, aFn, aEq, List.length, IntKind.bits, evo, coe, List.append, List.replicate, Nat.reduceAdd, Nat.reduceSub, Nat.reduceMul, Int.reduceToNat, reduceCtorEq, aIndexAddr, aIndex, TD.aggr, aPick, aMin, aMax, Ax.Ends, rone, ↓reduceIte, List.isEmpty, Int.reducePow, Nat.reducePow, Int.reduceMod, Nat.reduceLeDiff, Int.reduceLE, Int.reduceNe, Int.reduceEq, aAppend, appendB, viewB, List.drop, List.take, aRange, aNext, aCopy, srcB, viewG, appendG, appendI, aSlice, bnd, full3, aStore, setB, AV.leaves, AV.okv, AV.leaf, one, elemLeaves, Blk.size, Blk.len, Option.isSome, Option.isNone, aStr, aNil, aExtract, viewI, Nat.reduceEqDiff, Nat.reduceLT, Nat.reduceBEq, List.contains, List.elem, Blk.closed, Blk.noimm, ↓gsplit_tt, ↓gsplit_ff, ↓gsplit_tf, ↓gsplit_ft, ↓csplit_t, ↓csplit_f, givenUp, Blk.clean, notMs, evDO, evTO, evTP, laterO_normal, ↓frzK_def, Blk.fz, Blk.fg, ↓openKO_def, openOp, Blk.isGone, Blk.idsB, Blk.sidsB, Blk.ren, EndsO, Blk.ids, Op.operands, Call.operands, List.map_cons, List.map_nil, List.toList_toArray, Array.toList_append, Option.toArray_some, Option.toArray_none, Bool.and_self, ty, noS, Ojust, justPl, numbersO, fillS, decide_true, decide_false, numF]
      refine awpO_unr 6 ?_
      simp -implicitDefEqProofs only [evT, evD0, evD1, evD2, implies_true, forall_const, Option.getD, later_normal, aop, aLen, ev, putSlot, cv, cvl, aConv, aBin, aInt, aUn, aFn, aEq, List.length, IntKind.bits, evo, coe, List.append, List.replicate, Nat.reduceAdd, Nat.reduceSub, Nat.reduceMul, Int.reduceToNat, reduceCtorEq, aIndexAddr, aIndex, TD.aggr, aPick, aMin, aMax, Ax.Ends, rone, ↓reduceIte, List.isEmpty, Int.reducePow, Nat.reducePow, Int.reduceMod, Nat.reduceLeDiff, Int.reduceLE, Int.reduceNe, Int.reduceEq, aAppend, appendB, viewB, List.drop, List.take, aRange, aNext, aCopy, srcB, viewG, appendG, appendI, aSlice, bnd, full3, aStore, setB, AV.leaves, AV.okv, AV.leaf, one, elemLeaves, Blk.size, Blk.len, Option.isSome, Option.isNone, aStr, aNil, aExtract, viewI, Nat.reduceEqDiff, Nat.reduceLT, Nat.reduceBEq, List.contains, List.elem, Blk.closed, Blk.noimm, ↓gsplit_tt, ↓gsplit_ff, ↓gsplit_tf, ↓gsplit_ft, ↓csplit_t, ↓csplit_f, givenUp, Blk.clean, notMs, evDO, evTO, evTP, laterO_normal, ↓frzK_def, Blk.fz, Blk.fg, ↓openKO_def, openOp, Blk.isGone, Blk.idsB, Blk.sidsB, Blk.ren, EndsO, Blk.ids, Op.operands, Call.operands, List.map_cons, List.map_nil, List.toList_toArray, Array.toList_append, Option.toArray_some, Option.toArray_none, Bool.and_self, ty, noS, Ojust, justPl, numbersO, fillS, decide_true, decide_false, numF, unrO_go, unK_normal, unK_exit, unK_ret, Int.reduceAdd, Int.reduceSub, Int.reduceLT, cst]
      refine ⟨_, Weak.refl _, ?_⟩
      simp -implicitDefEqProofs only [evT, evD0, evD1, evD2, implies_true, forall_const, Option.getD, later_normal, aop, aLen, ev, putSlot, cv, cvl, aConv, aBin, aInt, aUn, aFn, aEq, List.length, IntKind.bits, evo, coe, List.append, List.replicate, Nat.reduceAdd, Nat.reduceSub, Nat.reduceMul, Int.reduceToNat, reduceCtorEq, aIndexAddr, aIndex, TD.aggr, aPick, aMin, aMax, Ax.Ends, rone, ↓reduceIte, List.isEmpty, Int.reducePow, Nat.reducePow, Int.reduceMod, Nat.reduceLeDiff, Int.reduceLE, Int.reduceNe, Int.reduceEq, aAppend, appendB, viewB, List.drop, List.take, aRange, aNext, aCopy, srcB, viewG, appendG, appendI, aSlice, bnd, full3, aStore, setB, AV.leaves, AV.okv, AV.leaf, one, elemLeaves, Blk.size, Blk.len, Option.isSome, Option.isNone, aStr, aNil, aExtract, viewI, Nat.reduceEqDiff, Nat.reduceLT, Nat.reduceBEq, List.contains, List.elem, Blk.closed, Blk.noimm, ↓gsplit_tt, ↓gsplit_ff, ↓gsplit_tf, ↓gsplit_ft, ↓csplit_t, ↓csplit_f, givenUp, Blk.clean, notMs, ty, mtA, onlyM, Int.reduceLE, Int.reduceEq, and_self, and_true, true_and, and_false, false_and, true_or, or_true, false_or, or_false, or_self, if_true, if_false]
  · exact hp.elim
set_option maxHeartbeats 4000000 in
theorem only_sound : Sound Try.prog 42 justS := by
  refine fn_soundF (S := noS) (T := ty) (pl := onlyPl) mixed ty_ok noS_ok Try.func42 (c := Try.f42.body.getD .skip) (by kernel_rfl) (by kernel_rfl) (fun xs pins hp _ => ?_)
  unfold justS at hp ⊢
  split at hp
  · rename_i k t i nm p cp z b c _
    have hk : 0 ≤ k ∧ k ≤ 6 := hp
    refine ⟨by simp, ?_⟩
    unfold Try.f42
    rcases kind_le k hk with rfl | rfl | rfl | rfl | rfl | rfl | rfl
    all_goals
      simp -implicitDefEqProofs only [evT, evD0, evD1, evD2, implies_true, forall_const, Option.getD, later_normal, aop, aLen, ev, putSlot, cv, cvl, aConv, aBin, aInt, aUn, aFn, aEq, List.length, IntKind.bits, evo, coe, List.append, List.replicate, Nat.reduceAdd, Nat.reduceSub, Nat.reduceMul, Int.reduceToNat, reduceCtorEq, aIndexAddr, aIndex, TD.aggr, aPick, aMin, aMax, Ax.Ends, rone, ↓reduceIte, List.isEmpty, Int.reducePow, Nat.reducePow, Int.reduceMod, Nat.reduceLeDiff, Int.reduceLE, Int.reduceNe, Int.reduceEq, aAppend, appendB, viewB, List.drop, List.take, aRange, aNext, aCopy, srcB, viewG, appendG, appendI, aSlice, bnd, full3, aStore, setB, AV.leaves, AV.okv, AV.leaf, one, elemLeaves, Blk.size, Blk.len, Option.isSome, Option.isNone, aStr, aNil, aExtract, viewI, Nat.reduceEqDiff, Nat.reduceLT, Nat.reduceBEq, List.contains, List.elem, Blk.closed, Blk.noimm, ↓gsplit_tt, ↓gsplit_ff, ↓gsplit_tf, ↓gsplit_ft, ↓csplit_t, ↓csplit_f, givenUp, Blk.clean, notMs, evDP, evTP, laterF_normal, Blk.ids, Op.operands, Call.operands, List.map_cons, List.map_nil, List.toList_toArray, Array.toList_append, Option.toArray_some, Option.toArray_none, Bool.and_self, ty, noS, onlyPl, fillS, decide_true, decide_false, Int.reduceLE]
      refine ⟨_, Weak.refl _, ?_⟩
      simp -implicitDefEqProofs only [evT, evD0, evD1, evD2, implies_true, forall_const, Option.getD, later_normal, aop, aLen, ev, putSlot, cv, cvl, aConv, aBin, aInt, aUn, aFn, aEq, List.length, IntKind.bits, evo, coe, List.append, List.replicate, Nat.reduceAdd, Nat.reduceSub, Nat.reduceMul, Int.reduceToNat, reduceCtorEq, aIndexAddr, aIndex, TD.aggr, aPick, aMin, aMax, Ax.Ends, rone, ↓reduceIte, List.isEmpty, Int.reducePow, Nat.reducePow, Int.reduceMod, Nat.reduceLeDiff, Int.reduceLE, Int.reduceNe, Int.reduceEq, aAppend, appendB, viewB, List.drop, List.take, aRange, aNext, aCopy, srcB, viewG, appendG, appendI, aSlice, bnd, full3, aStore, setB, AV.leaves, AV.okv, AV.leaf, one, elemLeaves, Blk.size, Blk.len, Option.isSome, Option.isNone, aStr, aNil, aExtract, viewI, Nat.reduceEqDiff, Nat.reduceLT, Nat.reduceBEq, List.contains, List.elem, Blk.closed, Blk.noimm, ↓gsplit_tt, ↓gsplit_ff, ↓gsplit_tf, ↓gsplit_ft, ↓csplit_t, ↓csplit_f, givenUp, Blk.clean, notMs, evDP, evTP, laterF_normal, Blk.ids, Op.operands, Call.operands, List.map_cons, List.map_nil, List.toList_toArray, Array.toList_append, Option.toArray_some, Option.toArray_none, Bool.and_self, ty, mtA, onlyM, Int.reduceLE, Int.reduceEq, and_self, and_true, true_and, and_false, false_and, true_or, or_true, false_or, or_false, or_self, if_true, if_false]
  · exact hp.elim
end
end Go.Proofs.Ytlbdhkgjhjcgiaa
