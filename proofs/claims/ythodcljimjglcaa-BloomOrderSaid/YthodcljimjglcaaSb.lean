/- Layer 33: a set's bytes, both ways. -/
import Derived.Test.YthodcljimjglcaaSa
import Derived.Test.YthodcljimjglcaaA9t
namespace Go.Proofs.Ythodcljimjglcaa
open Ax
set_option linter.unusedSimpArgs false
set_option linter.unusedVariables false

theorem ms33_ends {T : Types} {sl : List AV} {H : Heap} {nx id n : Nat} {bs rs : List UInt8} {e e' : Value} {q : Prop} (i j : Nat) (hij : i ≠ j) (h2 : slot sl i = .ms id 1 0 n) (h3 : slot sl j = .w e) (hl : Ax.look H id = some (.b bs)) (hn : n = bs.length) (hr : rs = bs) (he : e' = e) :
    EndsW T [.tmp i, .tmp j] [] ⟨q, .tup [.ms 0 1 0 rs.length, .w e'], [.b rs]⟩ .ret ⟨sl, H, nx⟩ := by
  subst hn hr he
  refine ⟨_, Weak.refl _, ?_⟩
  simp only [Ax.Ends, Ax.rvals, EndsX, rone, h2, h3, AV.ids, idsL, newIds, upTo, nodup, pinsOf, hl, List.nil_append, List.append_nil, AV.ren, renL, gOf, and_self]
  simp [pinsOf, newIds, nodup, hl, gOf, Blk.closed]
theorem msnil33_ends {T : Types} {sl : List AV} {H : Heap} {nx : Nat} {e e' : Value} {q : Prop} {rs : List UInt8} (i j : Nat) (hij : i ≠ j) (h2 : slot sl i = .sg 1 [] true) (h3 : slot sl j = .w e) (hr : rs = []) (he : e' = e) :
    EndsW T [.tmp i, .tmp j] [] ⟨q, .tup [.ms 0 1 0 rs.length, .w e'], [.b rs]⟩ .ret ⟨sl, H, nx⟩ := by
  subst hr he
  have hi : i < sl.length := by
    rcases Nat.lt_or_ge i sl.length with h | h
    · exact h
    · rw [slot_ge h] at h2; cases h2
  obtain ⟨σ', h5, h6⟩ := ms33_ends (T := T) (sl := setSlot sl i (.ms nx 1 0 0)) (H := Ax.put H nx (.b [])) (nx := nx + 1) (q := q) i j hij (id := nx) (n := 0) (bs := []) (rs := []) (e := e') (e' := e') (slot_set_same hi) (by rw [slot_set_other hij]; exact h3) (by simp [Ax.put, Ax.look]) rfl rfl rfl
  exact ⟨σ', (weak_nil i 1 (.b []) rfl (by rw [h2]; exact trivial)).trans h5, h6⟩
theorem num_put33 (n : Int) (h1 : -9223372036854775808 ≤ n) (h2 : n ≤ 9223372036854775807) (r : List UInt8) :
    numN (putU (zz n).toNat ++ r) 0 = n ∧ numL (putU (zz n).toNat ++ r) 0 = r ∧ numE (putU (zz n).toNat ++ r) 0 = 0 := by
  have hz := zz_range n h1 h2
  have hg := getL_put (zz n).toNat (by omega) r
  have hc : (((zz n).toNat : Nat) : Int) = zz n := by omega
  rw [hc, zg_zz] at hg
  unfold numN numL numE
  rw [if_pos rfl, if_pos rfl, if_pos rfl, hg]
  exact ⟨rfl, by simp, rfl⟩
theorem zz_len33 (n : Nat) : (zz (n : Int)).toNat = 2 * n := by unfold zz; rw [if_pos (by omega)]; omega
theorem text_put33 (m : Int) (s r : List UInt8) (hm : (s.length : Int) ≤ m) (hs : s.length ≤ 1000000) :
    rtS' m (textL s ++ r) 0 = s ∧ rtL m (textL s ++ r) 0 = r ∧ rtE m (textL s ++ r) 0 = 0 := by
  obtain ⟨h1, h2, h3⟩ := num_put33 (s.length : Int) (by omega) (by omega) (s ++ r)
  rw [zz_len33] at h1 h2 h3
  have e : textL s ++ r = putU (2 * s.length) ++ (s ++ r) := by unfold textL; rw [List.append_assoc]
  have hok : rtOk m (textL s ++ r) 0 := by unfold rtOk; rw [e, h1, h3]; omega
  have hl : ¬ (((s ++ r).length : Int) < (s.length : Int)) := by simp; omega
  unfold rtS' rtL rtE
  rw [if_pos hok, if_pos hok, if_pos hok, e, h1, h2, h3]
  unfold tkB tkL tkE
  rw [if_neg hl, if_neg hl, if_neg hl]
  simp
theorem textL_len33 (s : List UInt8) (h : s.length ≤ 1000000) : (textL s).length ≤ s.length + 10 := by
  unfold textL
  have := putU_length (2 * s.length) (by omega)
  rw [List.length_append]; omega
/-- A set's bytes. -/
def putSB (bs : List UInt8) (e n : Int) : List UInt8 := if okSet bs.length e n then putU (zz e).toNat ++ putU (zz n).toNat ++ textL bs else []
def putSetS : FSpec
  | [.agg [.sb bs f, .w (.int .i64 e), .w (.int .i64 n)]], [] => ⟨True, .tup [.ms 0 1 0 (putSB bs e n).length, .w (.int .i64 (chkB bs.length e n))], [.b (putSB bs e n)]⟩
  | _, _ => noRes
def Sput33 (f : FuncId) : Option FSpec :=
  match f with
  | 17 => some chkSetS
  | 37 => some putS
  | 38 => some textS
  | _ => none
theorem Sput33_ok : Fns Try.prog Sput33 := by
  intro f s h
  unfold Sput33 at h
  split at h
  · injection h with h; subst h; exact ⟨⟨_, Try.func17, by kernel_rfl, by kernel_rfl⟩, chkSet_sound⟩
  · injection h with h; subst h; exact ⟨⟨_, Try.func37, by kernel_rfl, by kernel_rfl⟩, put_sound⟩
  · injection h with h; subst h; exact ⟨⟨_, Try.func38, by kernel_rfl, by kernel_rfl⟩, text_sound⟩
  · cases h
def Srput33 (f : FuncId) : Option FSpec :=
  match f with
  | 18 => some chkSetS
  | 39 => some putS
  | 40 => some textS
  | _ => none
theorem Srput33_ok : Fns Try.prog Srput33 := by
  intro f s h
  unfold Srput33 at h
  split at h
  · injection h with h; subst h; exact ⟨⟨_, Try.func18, by kernel_rfl, by kernel_rfl⟩, rchkSet_sound⟩
  · injection h with h; subst h; exact ⟨⟨_, Try.func39, by kernel_rfl, by kernel_rfl⟩, rput_sound⟩
  · injection h with h; subst h; exact ⟨⟨_, Try.func40, by kernel_rfl, by kernel_rfl⟩, rtext_sound⟩
  · cases h
def put33Pl : Plan := fun id => match id with
  | 4 => some []
  | _ => none
def rput33Pl : Plan := fun id => match id with
  | 4 => some [(6, 7), (6, 8), (6, 9)]
  | _ => none
section
set_option maxRecDepth 100000
set_option maxHeartbeats 1000000 in
theorem putSet_sound : Sound Try.prog 26 putSetS := by
  refine fn_soundF (S := Sput33) (T := ty) (pl := put33Pl) mixed ty_ok Sput33_ok Try.func26 (c := Try.f26.body.getD .skip) (by kernel_rfl) (by kernel_rfl) (fun xs pins hp _ => ?_)
  unfold putSetS at hp ⊢
  split at hp
  · rename_i bs f e n _
    refine ⟨by simp, ?_⟩
    unfold Try.f26
    by_cases ho : okSet bs.length e n
    · have hv : chkB bs.length e n = 0 := if_pos ho
      have hB : putSB bs e n = putU (zz e).toNat ++ putU (zz n).toNat ++ textL bs := if_pos ho
      obtain ⟨h1, h2, h3, h4, h5, h6⟩ := ho
      have q1 : -9223372036854775808 ≤ e ∧ e ≤ 9223372036854775807 := by omega
      have q2 : -9223372036854775808 ≤ n ∧ n ≤ 9223372036854775807 := by omega
      have q3 : bs.length ≤ 1000000 := by omega
      have z1 := zz_range e q1.1 q1.2
      have z2 := zz_range n q2.1 q2.2
      have l1 := putU_length (zz e).toNat (by omega)
      have l2 := putU_length (zz n).toNat (by omega)
      have l3 := textL_len33 bs q3
      generalize hP1 : putU (zz e).toNat = P1 at *
      generalize hP2 : putU (zz n).toNat = P2 at *
      generalize hP3 : textL bs = P3 at *
      have tk : ∀ l : List UInt8, List.take l.length l = l := fun l => List.take_length
      simp -implicitDefEqProofs only [evT, implies_true, forall_const, Option.getD, later_normal, aop, aLen, ev, slot, setSlot, putSlot, cv, cvl, aConv, aBin, aInt, aUn, aFn, aEq, Out.and, isBool, isPtr, List.length, IntKind.bits, evs, evo, evps, aCall, aUser, coes, coe, List.append, List.replicate, callOut, rootsL, AV.roots, lendsL, AV.lends, pinsOf, nodup, lendL, lend, closedB, noimmB, AV.noimm, AV.ren, renL, back, Nat.reduceAdd, Nat.reduceSub, Nat.reduceMul, Int.reduceToNat, reduceCtorEq, aLoad, subv, aIndexAddr, aIndex, TD.aggr, guardSlot, aPick, byte, word, aMin, aMax, Ax.Ends, EndsX, Ax.rvals, rone, AV.ids, idsL, newIds, upTo, pinHeap, gOf, ↓reduceIte, List.isEmpty, Int.reducePow, Nat.reducePow, Int.reduceMod, Nat.reduceLeDiff, Int.reduceLE, Int.reduceNe, Int.reduceEq, aBuildSlice, fillB, aAppend, appendB, viewB, Ax.look, Ax.put, Ax.drop, List.drop, List.take, asv, aMake, aCopy, srcB, fillG, viewG, appendG, appendI, fillI, aSlice, bnd, bnds, full3, cut, aFieldAddr, aField, aStore, setB, aBox, aBuild, fillS, allTy, AV.leaves, AV.okv, AV.leaf, one, splice, elemLeaves, Blk.size, Blk.len, Option.isSome, Option.isNone, isBytes, aStr, aNil, aAlloc, aExtract, viewI, Nat.reduceEqDiff, Nat.reduceLT, Nat.reduceBEq, List.contains, List.elem, Blk.closed, closedL, AV.closed, Blk.noimm, ↓gsplit_tt, ↓gsplit_ff, ↓gsplit_tf, ↓gsplit_ft, ↓csplit_t, ↓csplit_f, Ax.idx, AV.lentIds, lentIdsL, dropAll, givenUp, AV.clean, cleanL, Blk.clean, cleanB, quietC, flatTy, coldStr, notMs, eqV, eqF, isStruct, evTP, laterF_normal, aopF, foot, footA, keepIn, dropIn, bids, Blk.ids, heldB, memOk, clearOf, Op.operands, Call.operands, List.map_cons, List.map_nil, List.toList_toArray, Array.toList_append, Option.toArray_some, Option.toArray_none, Bool.and_self, -coe, coe_w, coe_str, coe_agg, coe_tup, coe_sb, coe_si, coe_cp, coe_ms, coe_rf, coe_fn, coe_cons, ty, Sput33, put33Pl, chkSetS, putS, textS, hv, q1, q2, q3, tk, hP1, hP2, hP3]
      exact ⟨by unfold top; omega, by unfold top; omega, ms33_ends 2 3 (by decide) rfl rfl rfl (by simp [Nat.add_assoc]) hB rfl⟩
    · have hv : chkB bs.length e n = 11 := if_neg ho
      have hB : putSB bs e n = [] := if_neg ho
      simp -implicitDefEqProofs only [evT, implies_true, forall_const, Option.getD, later_normal, aop, aLen, ev, slot, setSlot, putSlot, cv, cvl, aConv, aBin, aInt, aUn, aFn, aEq, Out.and, isBool, isPtr, List.length, IntKind.bits, evs, evo, evps, aCall, aUser, coes, coe, List.append, List.replicate, callOut, rootsL, AV.roots, lendsL, AV.lends, pinsOf, nodup, lendL, lend, closedB, noimmB, AV.noimm, AV.ren, renL, back, Nat.reduceAdd, Nat.reduceSub, Nat.reduceMul, Int.reduceToNat, reduceCtorEq, aLoad, subv, aIndexAddr, aIndex, TD.aggr, guardSlot, aPick, byte, word, aMin, aMax, Ax.Ends, EndsX, Ax.rvals, rone, AV.ids, idsL, newIds, upTo, pinHeap, gOf, ↓reduceIte, List.isEmpty, Int.reducePow, Nat.reducePow, Int.reduceMod, Nat.reduceLeDiff, Int.reduceLE, Int.reduceNe, Int.reduceEq, aBuildSlice, fillB, aAppend, appendB, viewB, Ax.look, Ax.put, Ax.drop, List.drop, List.take, asv, aMake, aCopy, srcB, fillG, viewG, appendG, appendI, fillI, aSlice, bnd, bnds, full3, cut, aFieldAddr, aField, aStore, setB, aBox, aBuild, fillS, allTy, AV.leaves, AV.okv, AV.leaf, one, splice, elemLeaves, Blk.size, Blk.len, Option.isSome, Option.isNone, isBytes, aStr, aNil, aAlloc, aExtract, viewI, Nat.reduceEqDiff, Nat.reduceLT, Nat.reduceBEq, List.contains, List.elem, Blk.closed, closedL, AV.closed, Blk.noimm, ↓gsplit_tt, ↓gsplit_ff, ↓gsplit_tf, ↓gsplit_ft, ↓csplit_t, ↓csplit_f, Ax.idx, AV.lentIds, lentIdsL, dropAll, givenUp, AV.clean, cleanL, Blk.clean, cleanB, quietC, flatTy, coldStr, notMs, eqV, eqF, isStruct, evTP, laterF_normal, aopF, foot, footA, keepIn, dropIn, bids, Blk.ids, heldB, memOk, clearOf, Op.operands, Call.operands, List.map_cons, List.map_nil, List.toList_toArray, Array.toList_append, Option.toArray_some, Option.toArray_none, Bool.and_self, -coe, coe_w, coe_str, coe_agg, coe_tup, coe_sb, coe_si, coe_cp, coe_ms, coe_rf, coe_fn, coe_cons, ty, Sput33, put33Pl, chkSetS, hv]
      exact msnil33_ends 2 3 (by decide) rfl rfl hB rfl
  · exact hp.elim
set_option maxHeartbeats 1000000 in
theorem rputSet_sound : Sound Try.prog 27 putSetS := by
  refine fn_soundF (S := Srput33) (T := ty) (pl := rput33Pl) mixed ty_ok Srput33_ok Try.func27 (c := Try.f27.body.getD .skip) (by kernel_rfl) (by kernel_rfl) (fun xs pins hp _ => ?_)
  unfold putSetS at hp ⊢
  split at hp
  · rename_i bs f e n _
    refine ⟨by simp, ?_⟩
    unfold Try.f27
    by_cases ho : okSet bs.length e n
    · have hv : chkB bs.length e n = 0 := if_pos ho
      have hB : putSB bs e n = putU (zz e).toNat ++ putU (zz n).toNat ++ textL bs := if_pos ho
      obtain ⟨h1, h2, h3, h4, h5, h6⟩ := ho
      have q1 : -9223372036854775808 ≤ e ∧ e ≤ 9223372036854775807 := by omega
      have q2 : -9223372036854775808 ≤ n ∧ n ≤ 9223372036854775807 := by omega
      have q3 : bs.length ≤ 1000000 := by omega
      have z1 := zz_range e q1.1 q1.2
      have z2 := zz_range n q2.1 q2.2
      have l1 := putU_length (zz e).toNat (by omega)
      have l2 := putU_length (zz n).toNat (by omega)
      have l3 := textL_len33 bs q3
      generalize hP1 : putU (zz e).toNat = P1 at *
      generalize hP2 : putU (zz n).toNat = P2 at *
      generalize hP3 : textL bs = P3 at *
      have tk : ∀ l : List UInt8, List.take l.length l = l := fun l => List.take_length
      simp -implicitDefEqProofs only [evT, implies_true, forall_const, Option.getD, later_normal, aop, aLen, ev, slot, setSlot, putSlot, cv, cvl, aConv, aBin, aInt, aUn, aFn, aEq, Out.and, isBool, isPtr, List.length, IntKind.bits, evs, evo, evps, aCall, aUser, coes, coe, List.append, List.replicate, callOut, rootsL, AV.roots, lendsL, AV.lends, pinsOf, nodup, lendL, lend, closedB, noimmB, AV.noimm, AV.ren, renL, back, Nat.reduceAdd, Nat.reduceSub, Nat.reduceMul, Int.reduceToNat, reduceCtorEq, aLoad, subv, aIndexAddr, aIndex, TD.aggr, guardSlot, aPick, byte, word, aMin, aMax, Ax.Ends, EndsX, Ax.rvals, rone, AV.ids, idsL, newIds, upTo, pinHeap, gOf, ↓reduceIte, List.isEmpty, Int.reducePow, Nat.reducePow, Int.reduceMod, Nat.reduceLeDiff, Int.reduceLE, Int.reduceNe, Int.reduceEq, aBuildSlice, fillB, aAppend, appendB, viewB, Ax.look, Ax.put, Ax.drop, List.drop, List.take, asv, aMake, aCopy, srcB, fillG, viewG, appendG, appendI, fillI, aSlice, bnd, bnds, full3, cut, aFieldAddr, aField, aStore, setB, aBox, aBuild, fillS, allTy, AV.leaves, AV.okv, AV.leaf, one, splice, elemLeaves, Blk.size, Blk.len, Option.isSome, Option.isNone, isBytes, aStr, aNil, aAlloc, aExtract, viewI, Nat.reduceEqDiff, Nat.reduceLT, Nat.reduceBEq, List.contains, List.elem, Blk.closed, closedL, AV.closed, Blk.noimm, ↓gsplit_tt, ↓gsplit_ff, ↓gsplit_tf, ↓gsplit_ft, ↓csplit_t, ↓csplit_f, Ax.idx, AV.lentIds, lentIdsL, dropAll, givenUp, AV.clean, cleanL, Blk.clean, cleanB, quietC, flatTy, coldStr, notMs, eqV, eqF, isStruct, evTP, laterF_normal, aopF, foot, footA, keepIn, dropIn, bids, Blk.ids, heldB, memOk, clearOf, Op.operands, Call.operands, List.map_cons, List.map_nil, List.toList_toArray, Array.toList_append, Option.toArray_some, Option.toArray_none, Bool.and_self, -coe, coe_w, coe_str, coe_agg, coe_tup, coe_sb, coe_si, coe_cp, coe_ms, coe_rf, coe_fn, coe_cons, ty, Srput33, rput33Pl, chkSetS, putS, textS, hv, q1, q2, q3, tk, hP1, hP2, hP3]
      exact ⟨by unfold top; omega, by unfold top; omega, ms33_ends 2 3 (by decide) rfl rfl rfl (by simp [Nat.add_assoc]) hB rfl⟩
    · have hv : chkB bs.length e n = 11 := if_neg ho
      have hB : putSB bs e n = [] := if_neg ho
      simp -implicitDefEqProofs only [evT, implies_true, forall_const, Option.getD, later_normal, aop, aLen, ev, slot, setSlot, putSlot, cv, cvl, aConv, aBin, aInt, aUn, aFn, aEq, Out.and, isBool, isPtr, List.length, IntKind.bits, evs, evo, evps, aCall, aUser, coes, coe, List.append, List.replicate, callOut, rootsL, AV.roots, lendsL, AV.lends, pinsOf, nodup, lendL, lend, closedB, noimmB, AV.noimm, AV.ren, renL, back, Nat.reduceAdd, Nat.reduceSub, Nat.reduceMul, Int.reduceToNat, reduceCtorEq, aLoad, subv, aIndexAddr, aIndex, TD.aggr, guardSlot, aPick, byte, word, aMin, aMax, Ax.Ends, EndsX, Ax.rvals, rone, AV.ids, idsL, newIds, upTo, pinHeap, gOf, ↓reduceIte, List.isEmpty, Int.reducePow, Nat.reducePow, Int.reduceMod, Nat.reduceLeDiff, Int.reduceLE, Int.reduceNe, Int.reduceEq, aBuildSlice, fillB, aAppend, appendB, viewB, Ax.look, Ax.put, Ax.drop, List.drop, List.take, asv, aMake, aCopy, srcB, fillG, viewG, appendG, appendI, fillI, aSlice, bnd, bnds, full3, cut, aFieldAddr, aField, aStore, setB, aBox, aBuild, fillS, allTy, AV.leaves, AV.okv, AV.leaf, one, splice, elemLeaves, Blk.size, Blk.len, Option.isSome, Option.isNone, isBytes, aStr, aNil, aAlloc, aExtract, viewI, Nat.reduceEqDiff, Nat.reduceLT, Nat.reduceBEq, List.contains, List.elem, Blk.closed, closedL, AV.closed, Blk.noimm, ↓gsplit_tt, ↓gsplit_ff, ↓gsplit_tf, ↓gsplit_ft, ↓csplit_t, ↓csplit_f, Ax.idx, AV.lentIds, lentIdsL, dropAll, givenUp, AV.clean, cleanL, Blk.clean, cleanB, quietC, flatTy, coldStr, notMs, eqV, eqF, isStruct, evTP, laterF_normal, aopF, foot, footA, keepIn, dropIn, bids, Blk.ids, heldB, memOk, clearOf, Op.operands, Call.operands, List.map_cons, List.map_nil, List.toList_toArray, Array.toList_append, Option.toArray_some, Option.toArray_none, Bool.and_self, -coe, coe_w, coe_str, coe_agg, coe_tup, coe_sb, coe_si, coe_cp, coe_ms, coe_rf, coe_fn, coe_cons, ty, Srput33, rput33Pl, chkSetS, hv]
      exact msnil33_ends 2 3 (by decide) rfl rfl hB rfl
  · exact hp.elim
end
/-! Get -/
def gE (b : List UInt8) : Int := numN b 0
def gN (b : List UInt8) : Int := numN (numL b 0) (numE b 0)
def gB (b : List UInt8) : List UInt8 := rtS' 4096 (numL (numL b 0) (numE b 0)) (numE (numL b 0) (numE b 0))
def gOk (b : List UInt8) : Prop := okSet (gB b).length (gE b) (gN b) ∧ putSB (gB b) (gE b) (gN b) = b
instance (b : List UInt8) : Decidable (gOk b) := by unfold gOk; infer_instance
def gV (b : List UInt8) : AV := if gOk b then .agg [.sb (gB b) false, .w (.int .i64 (gE b)), .w (.int .i64 (gN b))] else .agg [.sb [] true, .w (.int .i64 0), .w (.int .i64 0)]
def getSetS : FSpec
  | [.sb b f], [] => ⟨b.length ≤ 1000000, .tup [gV b, .w (.int .i64 (if gOk b then 0 else 4))], []⟩
  | _, _ => noRes
theorem gok_done {b : List UInt8} (h : gOk b) : rtE 4096 (numL (numL b 0) (numE b 0)) (numE (numL b 0) (numE b 0)) = 0 ∧ rtL 4096 (numL (numL b 0) (numE b 0)) (numE (numL b 0) (numE b 0)) = [] := by
  obtain ⟨ho, hb⟩ := h
  unfold putSB at hb
  rw [if_pos ho] at hb
  obtain ⟨h1, h2, h3, h4, h5, h6⟩ := ho
  generalize gE b = E at *
  generalize gN b = N at *
  generalize gB b = B at *
  subst hb
  rw [List.append_assoc]
  obtain ⟨_, p2, p3⟩ := num_put33 E (by omega) (by omega) (putU (zz N).toNat ++ textL B)
  rw [p2, p3]
  obtain ⟨_, p5, p6⟩ := num_put33 N (by omega) (by omega) (textL B)
  rw [p5, p6]
  obtain ⟨_, p8, p9⟩ := text_put33 4096 B [] (by omega) (by omega)
  rw [List.append_nil] at p8 p9
  exact ⟨p9, p8⟩
theorem tkB_len (n : Int) (bs : List UInt8) : (tkB n bs).length ≤ bs.length := by
  unfold tkB; split
  · simp
  · rw [List.length_take]; omega
theorem rtS_len (m : Int) (bs : List UInt8) (e : Int) : (rtS' m bs e).length ≤ bs.length := by
  unfold rtS'; split
  · exact Nat.le_trans (tkB_len _ _) (numL_length _ _)
  · simp
def Sget33 (f : FuncId) : Option FSpec :=
  match f with
  | 41 => some newS
  | 42 => some numS
  | 43 => some rtextS'
  | 44 => some doneS
  | 26 => some putSetS
  | 36 => some eqBS
  | _ => none
theorem Sget33_ok : Fns Try.prog Sget33 := by
  intro f s h
  unfold Sget33 at h
  split at h
  · injection h with h; subst h; exact ⟨⟨_, Try.func41, by kernel_rfl, by kernel_rfl⟩, new_sound⟩
  · injection h with h; subst h; exact ⟨⟨_, Try.func42, by kernel_rfl, by kernel_rfl⟩, num_sound⟩
  · injection h with h; subst h; exact ⟨⟨_, Try.func43, by kernel_rfl, by kernel_rfl⟩, mtext_sound⟩
  · injection h with h; subst h; exact ⟨⟨_, Try.func44, by kernel_rfl, by kernel_rfl⟩, done_sound⟩
  · injection h with h; subst h; exact ⟨⟨_, Try.func26, by kernel_rfl, by kernel_rfl⟩, putSet_sound⟩
  · injection h with h; subst h; exact ⟨⟨_, Try.func36, by kernel_rfl, by kernel_rfl⟩, eqB_sound⟩
  · cases h
def Srget33 (f : FuncId) : Option FSpec :=
  match f with
  | 45 => some rrnumS
  | 46 => some rrtextS
  | 27 => some putSetS
  | _ => none
theorem Srget33_ok : Fns Try.prog Srget33 := by
  intro f s h
  unfold Srget33 at h
  split at h
  · injection h with h; subst h; exact ⟨⟨_, Try.func45, by kernel_rfl, by kernel_rfl⟩, rrnum_sound⟩
  · injection h with h; subst h; exact ⟨⟨_, Try.func46, by kernel_rfl, by kernel_rfl⟩, rrtext_sound⟩
  · injection h with h; subst h; exact ⟨⟨_, Try.func27, by kernel_rfl, by kernel_rfl⟩, rputSet_sound⟩
  · cases h
section
set_option maxRecDepth 100000
set_option maxHeartbeats 2000000 in
theorem getSet_sound : Sound Try.prog 28 getSetS := by
  refine fn_soundW (S := Sget33) (T := ty) mixed ty_ok Sget33_ok Try.func28 (c := Try.f28.body.getD .skip) (by kernel_rfl) (by kernel_rfl) (fun xs pins hp _ => ?_)
  unfold getSetS at hp ⊢
  split at hp
  · rename_i b f _
    have hb : b.length ≤ 1000000 := hp
    refine ⟨by simp, ?_⟩
    have hE : numN b 0 = gE b := rfl
    have hN : numN (numL b 0) (numE b 0) = gN b := rfl
    have hB : rtS' 4096 (numL (numL b 0) (numE b 0)) (numE (numL b 0) (numE b 0)) = gB b := rfl
    have hb1 : (numL b 0).length ≤ 1000000 := by have := numL_length b 0; omega
    have hb2 : (numL (numL b 0) (numE b 0)).length ≤ 1000000 := by have := numL_length (numL b 0) (numE b 0); omega
    have hB1 : (gB b).length ≤ 1000000 := by have := rtS_len 4096 (numL (numL b 0) (numE b 0)) (numE (numL b 0) (numE b 0)); rw [hB] at this; omega
    have hdn := gok_done (b := b)
    have hgo : gOk b ↔ okSet (gB b).length (gE b) (gN b) ∧ putSB (gB b) (gE b) (gN b) = b := Iff.rfl
    obtain ⟨L3, hL3⟩ : ∃ L3, rtL 4096 (numL (numL b 0) (numE b 0)) (numE (numL b 0) (numE b 0)) = L3 := ⟨_, rfl⟩
    obtain ⟨E3, hE3⟩ : ∃ E3, rtE 4096 (numL (numL b 0) (numE b 0)) (numE (numL b 0) (numE b 0)) = E3 := ⟨_, rfl⟩
    rw [hL3, hE3] at hdn
    obtain ⟨e2, he2⟩ : ∃ e2, numE (numL b 0) (numE b 0) = e2 := ⟨_, rfl⟩
    obtain ⟨b2, hb2e⟩ : ∃ b2, numL (numL b 0) (numE b 0) = b2 := ⟨_, rfl⟩
    rw [hb2e, he2] at hB hL3 hE3
    rw [hb2e] at hb2
    obtain ⟨e1, he1⟩ : ∃ e1, numE b 0 = e1 := ⟨_, rfl⟩
    obtain ⟨b1, hb1e⟩ : ∃ b1, numL b 0 = b1 := ⟨_, rfl⟩
    rw [hb1e, he1] at hN he2 hb2e
    rw [hb1e] at hb1
    obtain ⟨E, hEe⟩ : ∃ E, gE b = E := ⟨_, rfl⟩
    obtain ⟨N, hNe⟩ : ∃ N, gN b = N := ⟨_, rfl⟩
    obtain ⟨B, hBe⟩ : ∃ B, gB b = B := ⟨_, rfl⟩
    obtain ⟨W, hW⟩ : ∃ W, putSB B E N = W := ⟨_, rfl⟩
    obtain ⟨C, hC⟩ : ∃ C, chkB B.length E N = C := ⟨_, rfl⟩
    obtain ⟨D, hD⟩ : ∃ D : Int, (if E3 = 0 ∧ 0 < L3.length then (4 : Int) else E3) = D := ⟨_, rfl⟩
    rw [hEe] at hE hgo
    rw [hNe] at hN hgo
    rw [hBe] at hB hgo hB1
    rw [hW] at hgo
    have hcase : (gOk b ∧ decide (D = 0) = true ∧ decide (C = 0) = true ∧ decide (W = b) = true) ∨ (¬ gOk b ∧ decide (D = 0) = false) ∨ (¬ gOk b ∧ decide (D = 0) = true ∧ decide (C = 0) = false) ∨ (¬ gOk b ∧ decide (D = 0) = true ∧ decide (C = 0) = true ∧ decide (W = b) = false) := by
      have hCo : C = 0 ↔ okSet B.length E N := by rw [← hC]; exact ⟨chkB_ok, fun h => if_pos h⟩
      by_cases hg : gOk b
      · obtain ⟨k1, k2⟩ := hgo.1 hg
        obtain ⟨k3, k4⟩ := hdn hg
        have hD0 : D = 0 := by rw [← hD, k3, k4]; rfl
        exact .inl ⟨hg, decide_eq_true hD0, decide_eq_true (hCo.2 k1), decide_eq_true k2⟩
      · by_cases k1 : D = 0
        · by_cases k2 : C = 0
          · by_cases k3 : W = b
            · exact (hg (hgo.2 ⟨hCo.1 k2, k3⟩)).elim
            · exact .inr (.inr (.inr ⟨hg, decide_eq_true k1, decide_eq_true k2, decide_eq_false k3⟩))
          · exact .inr (.inr (.inl ⟨hg, decide_eq_true k1, decide_eq_false k2⟩))
        · exact .inr (.inl ⟨hg, decide_eq_false k1⟩)
    have tk : ∀ l : List UInt8, List.take l.length l = l := fun l => List.take_length
    have hVok : gOk b → gV b = .agg [.sb B false, .w (.int .i64 E), .w (.int .i64 N)] ∧ (if gOk b then (0 : Int) else 4) = 0 := by
      intro h; unfold gV; rw [if_pos h, if_pos h, hEe, hNe, hBe]; exact ⟨rfl, rfl⟩
    have hVno : ¬ gOk b → gV b = .agg [.sb [] true, .w (.int .i64 0), .w (.int .i64 0)] ∧ (if gOk b then (0 : Int) else 4) = 4 := by
      intro h; unfold gV; rw [if_neg h, if_neg h]; exact ⟨rfl, rfl⟩
    unfold Try.f28
    rcases hcase with X | X | X | X
    · obtain ⟨v1, v2⟩ := hVok X.1
      simp -implicitDefEqProofs only [evT, implies_true, forall_const, Option.getD, later_normal, aop, aLen, ev, slot, setSlot, putSlot, cv, cvl, aConv, aBin, aInt, aUn, aFn, aEq, Out.and, isBool, isPtr, List.length, IntKind.bits, evs, evo, evps, aCall, aUser, coes, coe, List.append, List.replicate, callOut, rootsL, AV.roots, lendsL, AV.lends, pinsOf, nodup, lendL, lend, closedB, noimmB, AV.noimm, AV.ren, renL, back, Nat.reduceAdd, Nat.reduceSub, Nat.reduceMul, Int.reduceToNat, reduceCtorEq, aLoad, subv, aIndexAddr, aIndex, TD.aggr, guardSlot, aPick, byte, word, aMin, aMax, Ax.Ends, EndsX, Ax.rvals, rone, AV.ids, idsL, newIds, upTo, pinHeap, gOf, ↓reduceIte, List.isEmpty, Int.reducePow, Nat.reducePow, Int.reduceMod, Nat.reduceLeDiff, Int.reduceLE, Int.reduceNe, Int.reduceEq, aBuildSlice, fillB, aAppend, appendB, viewB, Ax.look, Ax.put, Ax.drop, List.drop, List.take, asv, aMake, aCopy, srcB, fillG, viewG, appendG, appendI, fillI, aSlice, bnd, bnds, full3, cut, aFieldAddr, aField, aStore, setB, aBox, aBuild, fillS, allTy, AV.leaves, AV.okv, AV.leaf, one, splice, elemLeaves, Blk.size, Blk.len, Option.isSome, Option.isNone, isBytes, aStr, aNil, aAlloc, aExtract, viewI, Nat.reduceEqDiff, Nat.reduceLT, Nat.reduceBEq, List.contains, List.elem, Blk.closed, closedL, AV.closed, Blk.noimm, ↓gsplit_tt, ↓gsplit_ff, ↓gsplit_tf, ↓gsplit_ft, ↓csplit_t, ↓csplit_f, Ax.idx, AV.lentIds, lentIdsL, dropAll, givenUp, AV.clean, cleanL, Blk.clean, cleanB, quietC, flatTy, coldStr, notMs, eqV, eqF, isStruct, -coe, coe_w, coe_str, coe_agg, coe_tup, coe_sb, coe_si, coe_cp, coe_ms, coe_rf, coe_fn, coe_cons, ty, Sget33, newS, numS, rtextS', doneS, putSetS, eqBS, rd, hb, hb1, hb2, hb1e, hb2e, he1, he2, hE, hEe, hN, hNe, hB, hBe, hL3, hE3, hW, hC, hD, tk, X.2, v1, v2, fillS]
      refine ⟨by omega, _, weak_fz 148 40 B rfl (by simp [slot, AV.ids, idsL]), ?_⟩
      have hd1 : decide (0 + B.length ≤ B.length) = true := decide_eq_true (by omega)
      simp only [fzL, fzH, AV.fz, Blk.fz, Nat.reduceBEq, cond_true, cond_false, beq_self_eq_true, hd1, Bool.and_true, Bool.true_and, List.drop_zero, tk]
      simp -implicitDefEqProofs only [evT, implies_true, forall_const, Option.getD, later_normal, aop, aLen, ev, slot, setSlot, putSlot, cv, cvl, aConv, aBin, aInt, aUn, aFn, aEq, Out.and, isBool, isPtr, List.length, IntKind.bits, evs, evo, evps, aCall, aUser, coes, coe, List.append, List.replicate, callOut, rootsL, AV.roots, lendsL, AV.lends, pinsOf, nodup, lendL, lend, closedB, noimmB, AV.noimm, AV.ren, renL, back, Nat.reduceAdd, Nat.reduceSub, Nat.reduceMul, Int.reduceToNat, reduceCtorEq, aLoad, subv, aIndexAddr, aIndex, TD.aggr, guardSlot, aPick, byte, word, aMin, aMax, Ax.Ends, EndsX, Ax.rvals, rone, AV.ids, idsL, newIds, upTo, pinHeap, gOf, ↓reduceIte, List.isEmpty, Int.reducePow, Nat.reducePow, Int.reduceMod, Nat.reduceLeDiff, Int.reduceLE, Int.reduceNe, Int.reduceEq, aBuildSlice, fillB, aAppend, appendB, viewB, Ax.look, Ax.put, Ax.drop, List.drop, List.take, asv, aMake, aCopy, srcB, fillG, viewG, appendG, appendI, fillI, aSlice, bnd, bnds, full3, cut, aFieldAddr, aField, aStore, setB, aBox, aBuild, fillS, allTy, AV.leaves, AV.okv, AV.leaf, one, splice, elemLeaves, Blk.size, Blk.len, Option.isSome, Option.isNone, isBytes, aStr, aNil, aAlloc, aExtract, viewI, Nat.reduceEqDiff, Nat.reduceLT, Nat.reduceBEq, List.contains, List.elem, Blk.closed, closedL, AV.closed, Blk.noimm, ↓gsplit_tt, ↓gsplit_ff, ↓gsplit_tf, ↓gsplit_ft, ↓csplit_t, ↓csplit_f, Ax.idx, AV.lentIds, lentIdsL, dropAll, givenUp, AV.clean, cleanL, Blk.clean, cleanB, quietC, flatTy, coldStr, notMs, eqV, eqF, isStruct, -coe, coe_w, coe_str, coe_agg, coe_tup, coe_sb, coe_si, coe_cp, coe_ms, coe_rf, coe_fn, coe_cons, ty]
    all_goals obtain ⟨v1, v2⟩ := hVno X.1
    all_goals simp -implicitDefEqProofs only [evT, implies_true, forall_const, Option.getD, later_normal, aop, aLen, ev, slot, setSlot, putSlot, cv, cvl, aConv, aBin, aInt, aUn, aFn, aEq, Out.and, isBool, isPtr, List.length, IntKind.bits, evs, evo, evps, aCall, aUser, coes, coe, List.append, List.replicate, callOut, rootsL, AV.roots, lendsL, AV.lends, pinsOf, nodup, lendL, lend, closedB, noimmB, AV.noimm, AV.ren, renL, back, Nat.reduceAdd, Nat.reduceSub, Nat.reduceMul, Int.reduceToNat, reduceCtorEq, aLoad, subv, aIndexAddr, aIndex, TD.aggr, guardSlot, aPick, byte, word, aMin, aMax, Ax.Ends, EndsX, Ax.rvals, rone, AV.ids, idsL, newIds, upTo, pinHeap, gOf, ↓reduceIte, List.isEmpty, Int.reducePow, Nat.reducePow, Int.reduceMod, Nat.reduceLeDiff, Int.reduceLE, Int.reduceNe, Int.reduceEq, aBuildSlice, fillB, aAppend, appendB, viewB, Ax.look, Ax.put, Ax.drop, List.drop, List.take, asv, aMake, aCopy, srcB, fillG, viewG, appendG, appendI, fillI, aSlice, bnd, bnds, full3, cut, aFieldAddr, aField, aStore, setB, aBox, aBuild, fillS, allTy, AV.leaves, AV.okv, AV.leaf, one, splice, elemLeaves, Blk.size, Blk.len, Option.isSome, Option.isNone, isBytes, aStr, aNil, aAlloc, aExtract, viewI, Nat.reduceEqDiff, Nat.reduceLT, Nat.reduceBEq, List.contains, List.elem, Blk.closed, closedL, AV.closed, Blk.noimm, ↓gsplit_tt, ↓gsplit_ff, ↓gsplit_tf, ↓gsplit_ft, ↓csplit_t, ↓csplit_f, Ax.idx, AV.lentIds, lentIdsL, dropAll, givenUp, AV.clean, cleanL, Blk.clean, cleanB, quietC, flatTy, coldStr, notMs, eqV, eqF, isStruct, -coe, coe_w, coe_str, coe_agg, coe_tup, coe_sb, coe_si, coe_cp, coe_ms, coe_rf, coe_fn, coe_cons, ty, Sget33, newS, numS, rtextS', doneS, putSetS, eqBS, rd, hb, hb1, hb2, hb1e, hb2e, he1, he2, hE, hEe, hN, hNe, hB, hBe, hL3, hE3, hW, hC, hD, tk, X.2, v1, v2, fillS]
    all_goals exact ⟨by omega, _, Weak.refl _, by simp -implicitDefEqProofs only [evT, implies_true, forall_const, Option.getD, later_normal, aop, aLen, ev, slot, setSlot, putSlot, cv, cvl, aConv, aBin, aInt, aUn, aFn, aEq, Out.and, isBool, isPtr, List.length, IntKind.bits, evs, evo, evps, aCall, aUser, coes, coe, List.append, List.replicate, callOut, rootsL, AV.roots, lendsL, AV.lends, pinsOf, nodup, lendL, lend, closedB, noimmB, AV.noimm, AV.ren, renL, back, Nat.reduceAdd, Nat.reduceSub, Nat.reduceMul, Int.reduceToNat, reduceCtorEq, aLoad, subv, aIndexAddr, aIndex, TD.aggr, guardSlot, aPick, byte, word, aMin, aMax, Ax.Ends, EndsX, Ax.rvals, rone, AV.ids, idsL, newIds, upTo, pinHeap, gOf, ↓reduceIte, List.isEmpty, Int.reducePow, Nat.reducePow, Int.reduceMod, Nat.reduceLeDiff, Int.reduceLE, Int.reduceNe, Int.reduceEq, aBuildSlice, fillB, aAppend, appendB, viewB, Ax.look, Ax.put, Ax.drop, List.drop, List.take, asv, aMake, aCopy, srcB, fillG, viewG, appendG, appendI, fillI, aSlice, bnd, bnds, full3, cut, aFieldAddr, aField, aStore, setB, aBox, aBuild, fillS, allTy, AV.leaves, AV.okv, AV.leaf, one, splice, elemLeaves, Blk.size, Blk.len, Option.isSome, Option.isNone, isBytes, aStr, aNil, aAlloc, aExtract, viewI, Nat.reduceEqDiff, Nat.reduceLT, Nat.reduceBEq, List.contains, List.elem, Blk.closed, closedL, AV.closed, Blk.noimm, ↓gsplit_tt, ↓gsplit_ff, ↓gsplit_tf, ↓gsplit_ft, ↓csplit_t, ↓csplit_f, Ax.idx, AV.lentIds, lentIdsL, dropAll, givenUp, AV.clean, cleanL, Blk.clean, cleanB, quietC, flatTy, coldStr, notMs, eqV, eqF, isStruct, -coe, coe_w, coe_str, coe_agg, coe_tup, coe_sb, coe_si, coe_cp, coe_ms, coe_rf, coe_fn, coe_cons, ty]⟩
  · exact hp.elim
set_option maxHeartbeats 2000000 in
theorem rgetSet_sound : Sound Try.prog 29 getSetS := by
  refine fn_soundW (S := Srget33) (T := ty) mixed ty_ok Srget33_ok Try.func29 (c := Try.f29.body.getD .skip) (by kernel_rfl) (by kernel_rfl) (fun xs pins hp _ => ?_)
  unfold getSetS at hp ⊢
  split at hp
  · rename_i b f _
    have hb : b.length ≤ 1000000 := hp
    refine ⟨by simp, ?_⟩
    have hE : numN b 0 = gE b := rfl
    have hN : numN (numL b 0) (numE b 0) = gN b := rfl
    have hB : rtS' 4096 (numL (numL b 0) (numE b 0)) (numE (numL b 0) (numE b 0)) = gB b := rfl
    have hb1 : (numL b 0).length ≤ 1000000 := by have := numL_length b 0; omega
    have hb2 : (numL (numL b 0) (numE b 0)).length ≤ 1000000 := by have := numL_length (numL b 0) (numE b 0); omega
    have hB1 : (gB b).length ≤ 1000000 := by have := rtS_len 4096 (numL (numL b 0) (numE b 0)) (numE (numL b 0) (numE b 0)); rw [hB] at this; omega
    have hdn := gok_done (b := b)
    have hgo : gOk b ↔ okSet (gB b).length (gE b) (gN b) ∧ putSB (gB b) (gE b) (gN b) = b := Iff.rfl
    obtain ⟨L3, hL3⟩ : ∃ L3, rtL 4096 (numL (numL b 0) (numE b 0)) (numE (numL b 0) (numE b 0)) = L3 := ⟨_, rfl⟩
    obtain ⟨E3, hE3⟩ : ∃ E3, rtE 4096 (numL (numL b 0) (numE b 0)) (numE (numL b 0) (numE b 0)) = E3 := ⟨_, rfl⟩
    rw [hL3, hE3] at hdn
    obtain ⟨e2, he2⟩ : ∃ e2, numE (numL b 0) (numE b 0) = e2 := ⟨_, rfl⟩
    obtain ⟨b2, hb2e⟩ : ∃ b2, numL (numL b 0) (numE b 0) = b2 := ⟨_, rfl⟩
    rw [hb2e, he2] at hB hL3 hE3
    rw [hb2e] at hb2
    obtain ⟨e1, he1⟩ : ∃ e1, numE b 0 = e1 := ⟨_, rfl⟩
    obtain ⟨b1, hb1e⟩ : ∃ b1, numL b 0 = b1 := ⟨_, rfl⟩
    rw [hb1e, he1] at hN he2 hb2e
    rw [hb1e] at hb1
    obtain ⟨E, hEe⟩ : ∃ E, gE b = E := ⟨_, rfl⟩
    obtain ⟨N, hNe⟩ : ∃ N, gN b = N := ⟨_, rfl⟩
    obtain ⟨B, hBe⟩ : ∃ B, gB b = B := ⟨_, rfl⟩
    obtain ⟨W, hW⟩ : ∃ W, putSB B E N = W := ⟨_, rfl⟩
    obtain ⟨C, hC⟩ : ∃ C, chkB B.length E N = C := ⟨_, rfl⟩
    rw [hEe] at hE hgo
    rw [hNe] at hN hgo
    rw [hBe] at hB hgo hB1
    rw [hW] at hgo
    have hcase : (gOk b ∧ decide (C = 0) = true ∧ decide (W = b) = true) ∨ (¬ gOk b ∧ decide (C = 0) = false) ∨ (¬ gOk b ∧ decide (C = 0) = true ∧ decide (W = b) = false) := by
      have hCo : C = 0 ↔ okSet B.length E N := by rw [← hC]; exact ⟨chkB_ok, fun h => if_pos h⟩
      by_cases hg : gOk b
      · obtain ⟨k1, k2⟩ := hgo.1 hg
        exact .inl ⟨hg, decide_eq_true (hCo.2 k1), decide_eq_true k2⟩
      · by_cases k2 : C = 0
        · by_cases k3 : W = b
          · exact (hg (hgo.2 ⟨hCo.1 k2, k3⟩)).elim
          · exact .inr (.inr ⟨hg, decide_eq_true k2, decide_eq_false k3⟩)
        · exact .inr (.inl ⟨hg, decide_eq_false k2⟩)
    have tk : ∀ l : List UInt8, List.take l.length l = l := fun l => List.take_length
    have hVok : gOk b → gV b = .agg [.sb B false, .w (.int .i64 E), .w (.int .i64 N)] ∧ (if gOk b then (0 : Int) else 4) = 0 := by
      intro h; unfold gV; rw [if_pos h, if_pos h, hEe, hNe, hBe]; exact ⟨rfl, rfl⟩
    have hVno : ¬ gOk b → gV b = .agg [.sb [] true, .w (.int .i64 0), .w (.int .i64 0)] ∧ (if gOk b then (0 : Int) else 4) = 4 := by
      intro h; unfold gV; rw [if_neg h, if_neg h]; exact ⟨rfl, rfl⟩
    unfold Try.f29
    rcases hcase with X | X | X
    · obtain ⟨v1, v2⟩ := hVok X.1
      simp -implicitDefEqProofs only [evT, implies_true, forall_const, Option.getD, later_normal, aop, aLen, ev, slot, setSlot, putSlot, cv, cvl, aConv, aBin, aInt, aUn, aFn, aEq, Out.and, isBool, isPtr, List.length, IntKind.bits, evs, evo, evps, aCall, aUser, coes, coe, List.append, List.replicate, callOut, rootsL, AV.roots, lendsL, AV.lends, pinsOf, nodup, lendL, lend, closedB, noimmB, AV.noimm, AV.ren, renL, back, Nat.reduceAdd, Nat.reduceSub, Nat.reduceMul, Int.reduceToNat, reduceCtorEq, aLoad, subv, aIndexAddr, aIndex, TD.aggr, guardSlot, aPick, byte, word, aMin, aMax, Ax.Ends, EndsX, Ax.rvals, rone, AV.ids, idsL, newIds, upTo, pinHeap, gOf, ↓reduceIte, List.isEmpty, Int.reducePow, Nat.reducePow, Int.reduceMod, Nat.reduceLeDiff, Int.reduceLE, Int.reduceNe, Int.reduceEq, aBuildSlice, fillB, aAppend, appendB, viewB, Ax.look, Ax.put, Ax.drop, List.drop, List.take, asv, aMake, aCopy, srcB, fillG, viewG, appendG, appendI, fillI, aSlice, bnd, bnds, full3, cut, aFieldAddr, aField, aStore, setB, aBox, aBuild, fillS, allTy, AV.leaves, AV.okv, AV.leaf, one, splice, elemLeaves, Blk.size, Blk.len, Option.isSome, Option.isNone, isBytes, aStr, aNil, aAlloc, aExtract, viewI, Nat.reduceEqDiff, Nat.reduceLT, Nat.reduceBEq, List.contains, List.elem, Blk.closed, closedL, AV.closed, Blk.noimm, ↓gsplit_tt, ↓gsplit_ff, ↓gsplit_tf, ↓gsplit_ft, ↓csplit_t, ↓csplit_f, Ax.idx, AV.lentIds, lentIdsL, dropAll, givenUp, AV.clean, cleanL, Blk.clean, cleanB, quietC, flatTy, coldStr, notMs, eqV, eqF, isStruct, -coe, coe_w, coe_str, coe_agg, coe_tup, coe_sb, coe_si, coe_cp, coe_ms, coe_rf, coe_fn, coe_cons, ty, Srget33, rrnumS, rrtextS, putSetS, rrd, hb, hb1, hb2, hb1e, hb2e, he1, he2, hE, hEe, hN, hNe, hB, hBe, hL3, hE3, hW, hC, tk, X.2, v1, v2, fillS]
      refine ⟨by unfold top; omega, _, weak_fz 276 50 B rfl (by simp [slot, AV.ids, idsL]), ?_⟩
      have hd1 : decide (0 + B.length ≤ B.length) = true := decide_eq_true (by omega)
      simp only [fzL, fzH, AV.fz, Blk.fz, Nat.reduceBEq, cond_true, cond_false, beq_self_eq_true, hd1, Bool.and_true, Bool.true_and, List.drop_zero, tk]
      simp -implicitDefEqProofs only [evT, implies_true, forall_const, Option.getD, later_normal, aop, aLen, ev, slot, setSlot, putSlot, cv, cvl, aConv, aBin, aInt, aUn, aFn, aEq, Out.and, isBool, isPtr, List.length, IntKind.bits, evs, evo, evps, aCall, aUser, coes, coe, List.append, List.replicate, callOut, rootsL, AV.roots, lendsL, AV.lends, pinsOf, nodup, lendL, lend, closedB, noimmB, AV.noimm, AV.ren, renL, back, Nat.reduceAdd, Nat.reduceSub, Nat.reduceMul, Int.reduceToNat, reduceCtorEq, aLoad, subv, aIndexAddr, aIndex, TD.aggr, guardSlot, aPick, byte, word, aMin, aMax, Ax.Ends, EndsX, Ax.rvals, rone, AV.ids, idsL, newIds, upTo, pinHeap, gOf, ↓reduceIte, List.isEmpty, Int.reducePow, Nat.reducePow, Int.reduceMod, Nat.reduceLeDiff, Int.reduceLE, Int.reduceNe, Int.reduceEq, aBuildSlice, fillB, aAppend, appendB, viewB, Ax.look, Ax.put, Ax.drop, List.drop, List.take, asv, aMake, aCopy, srcB, fillG, viewG, appendG, appendI, fillI, aSlice, bnd, bnds, full3, cut, aFieldAddr, aField, aStore, setB, aBox, aBuild, fillS, allTy, AV.leaves, AV.okv, AV.leaf, one, splice, elemLeaves, Blk.size, Blk.len, Option.isSome, Option.isNone, isBytes, aStr, aNil, aAlloc, aExtract, viewI, Nat.reduceEqDiff, Nat.reduceLT, Nat.reduceBEq, List.contains, List.elem, Blk.closed, closedL, AV.closed, Blk.noimm, ↓gsplit_tt, ↓gsplit_ff, ↓gsplit_tf, ↓gsplit_ft, ↓csplit_t, ↓csplit_f, Ax.idx, AV.lentIds, lentIdsL, dropAll, givenUp, AV.clean, cleanL, Blk.clean, cleanB, quietC, flatTy, coldStr, notMs, eqV, eqF, isStruct, -coe, coe_w, coe_str, coe_agg, coe_tup, coe_sb, coe_si, coe_cp, coe_ms, coe_rf, coe_fn, coe_cons, ty]
    all_goals obtain ⟨v1, v2⟩ := hVno X.1
    all_goals simp -implicitDefEqProofs only [evT, implies_true, forall_const, Option.getD, later_normal, aop, aLen, ev, slot, setSlot, putSlot, cv, cvl, aConv, aBin, aInt, aUn, aFn, aEq, Out.and, isBool, isPtr, List.length, IntKind.bits, evs, evo, evps, aCall, aUser, coes, coe, List.append, List.replicate, callOut, rootsL, AV.roots, lendsL, AV.lends, pinsOf, nodup, lendL, lend, closedB, noimmB, AV.noimm, AV.ren, renL, back, Nat.reduceAdd, Nat.reduceSub, Nat.reduceMul, Int.reduceToNat, reduceCtorEq, aLoad, subv, aIndexAddr, aIndex, TD.aggr, guardSlot, aPick, byte, word, aMin, aMax, Ax.Ends, EndsX, Ax.rvals, rone, AV.ids, idsL, newIds, upTo, pinHeap, gOf, ↓reduceIte, List.isEmpty, Int.reducePow, Nat.reducePow, Int.reduceMod, Nat.reduceLeDiff, Int.reduceLE, Int.reduceNe, Int.reduceEq, aBuildSlice, fillB, aAppend, appendB, viewB, Ax.look, Ax.put, Ax.drop, List.drop, List.take, asv, aMake, aCopy, srcB, fillG, viewG, appendG, appendI, fillI, aSlice, bnd, bnds, full3, cut, aFieldAddr, aField, aStore, setB, aBox, aBuild, fillS, allTy, AV.leaves, AV.okv, AV.leaf, one, splice, elemLeaves, Blk.size, Blk.len, Option.isSome, Option.isNone, isBytes, aStr, aNil, aAlloc, aExtract, viewI, Nat.reduceEqDiff, Nat.reduceLT, Nat.reduceBEq, List.contains, List.elem, Blk.closed, closedL, AV.closed, Blk.noimm, ↓gsplit_tt, ↓gsplit_ff, ↓gsplit_tf, ↓gsplit_ft, ↓csplit_t, ↓csplit_f, Ax.idx, AV.lentIds, lentIdsL, dropAll, givenUp, AV.clean, cleanL, Blk.clean, cleanB, quietC, flatTy, coldStr, notMs, eqV, eqF, isStruct, -coe, coe_w, coe_str, coe_agg, coe_tup, coe_sb, coe_si, coe_cp, coe_ms, coe_rf, coe_fn, coe_cons, ty, Srget33, rrnumS, rrtextS, putSetS, rrd, hb, hb1, hb2, hb1e, hb2e, he1, he2, hE, hEe, hN, hNe, hB, hBe, hL3, hE3, hW, hC, tk, X.2, v1, v2, fillS]
    all_goals exact ⟨by unfold top; omega, _, Weak.refl _, by simp -implicitDefEqProofs only [evT, implies_true, forall_const, Option.getD, later_normal, aop, aLen, ev, slot, setSlot, putSlot, cv, cvl, aConv, aBin, aInt, aUn, aFn, aEq, Out.and, isBool, isPtr, List.length, IntKind.bits, evs, evo, evps, aCall, aUser, coes, coe, List.append, List.replicate, callOut, rootsL, AV.roots, lendsL, AV.lends, pinsOf, nodup, lendL, lend, closedB, noimmB, AV.noimm, AV.ren, renL, back, Nat.reduceAdd, Nat.reduceSub, Nat.reduceMul, Int.reduceToNat, reduceCtorEq, aLoad, subv, aIndexAddr, aIndex, TD.aggr, guardSlot, aPick, byte, word, aMin, aMax, Ax.Ends, EndsX, Ax.rvals, rone, AV.ids, idsL, newIds, upTo, pinHeap, gOf, ↓reduceIte, List.isEmpty, Int.reducePow, Nat.reducePow, Int.reduceMod, Nat.reduceLeDiff, Int.reduceLE, Int.reduceNe, Int.reduceEq, aBuildSlice, fillB, aAppend, appendB, viewB, Ax.look, Ax.put, Ax.drop, List.drop, List.take, asv, aMake, aCopy, srcB, fillG, viewG, appendG, appendI, fillI, aSlice, bnd, bnds, full3, cut, aFieldAddr, aField, aStore, setB, aBox, aBuild, fillS, allTy, AV.leaves, AV.okv, AV.leaf, one, splice, elemLeaves, Blk.size, Blk.len, Option.isSome, Option.isNone, isBytes, aStr, aNil, aAlloc, aExtract, viewI, Nat.reduceEqDiff, Nat.reduceLT, Nat.reduceBEq, List.contains, List.elem, Blk.closed, closedL, AV.closed, Blk.noimm, ↓gsplit_tt, ↓gsplit_ff, ↓gsplit_tf, ↓gsplit_ft, ↓csplit_t, ↓csplit_f, Ax.idx, AV.lentIds, lentIdsL, dropAll, givenUp, AV.clean, cleanL, Blk.clean, cleanB, quietC, flatTy, coldStr, notMs, eqV, eqF, isStruct, -coe, coe_w, coe_str, coe_agg, coe_tup, coe_sb, coe_si, coe_cp, coe_ms, coe_rf, coe_fn, coe_cons, ty]⟩
  · exact hp.elim

end
end Go.Proofs.Ythodcljimjglcaa
