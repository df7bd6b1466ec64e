/- Layer 5: a block is opened. -/
import Derived.Test.YtgkkgbomhfdbkaaK1
namespace Go.Proofs.Ytgkkgbomhfdbkaa
open Ax
set_option linter.unusedSimpArgs false
set_option linter.unusedVariables false

def bodyL (b : List UInt8) : List UInt8 := (b.drop 2).take (b.getD 1 0).toNat
def openOk (b : List UInt8) : Prop := (b.getD 1 0).toNat ≤ 61 ∧ sealB (b.getD 0 0).toNat (bodyL b) = b
instance (b : List UInt8) : Decidable (openOk b) := by unfold openOk; infer_instance
def openE (b : List UInt8) : Int := if b.length = 64 ∧ (b.getD 63 0).toNat = 90 then (if openOk b then 0 else 4) else 3
def openK (b : List UInt8) : Int := if openE b = 0 then (b.getD 0 0).toNat else 0
def openB (b : List UInt8) : List UInt8 := if openE b = 0 then bodyL b else []
def bopenS : FSpec
  | [.sb b _], [] => ⟨b.length ≤ 1000000, .tup [.w (.int .u8 (openK b)), .sb (openB b) false, .w (.int .i64 (openE b))], []⟩
  | _, _ => noRes
def bopenM : FSpec
  | [.sb b _], [] => ⟨b.length ≤ 1000000, .tup [.w (.int .u8 (openK b)), .ms 0 1 0 (openB b).length, .w (.int .i64 (openE b))], [.b (openB b)]⟩
  | _, _ => noRes
def beqS : FSpec
  | [.sb a _, .sb b _], [] => ⟨True, .w (.bool (decide (a = b))), []⟩
  | _, _ => noRes

theorem bodyL_length (b : List UInt8) (h : b.length = 64) (h1 : (b.getD 1 0).toNat ≤ 61) : (bodyL b).length = (b.getD 1 0).toNat := by
  unfold bodyL; rw [List.length_take, List.length_drop]; omega
/-- What is read of a block that was laid. -/
theorem body_blk (k : UInt8) (x : List UInt8) (h : x.length ≤ 61) : bodyL (blkL k x) = x := by
  have e : ((blkL k x).getD 1 0).toNat = x.length := by
    show (UInt8.ofNat x.length).toNat = _
    rw [UInt8.toNat_ofNat']; omega
  unfold bodyL
  rw [e]
  simp [blkL]
theorem openE_cases (b : List UInt8) :
    (¬ (b.length = 64 ∧ (b.getD 63 0).toNat = 90) ∧ openE b = 3) ∨ (b.length = 64 ∧ (b.getD 63 0).toNat = 90 ∧ ¬ openOk b ∧ openE b = 4) ∨ (b.length = 64 ∧ (b.getD 63 0).toNat = 90 ∧ openOk b ∧ openE b = 0) := by
  unfold openE
  by_cases h : b.length = 64 ∧ (b.getD 63 0).toNat = 90
  · by_cases ho : openOk b
    · exact .inr (.inr ⟨h.1, h.2, ho, by rw [if_pos h, if_pos ho]⟩)
    · exact .inr (.inl ⟨h.1, h.2, ho, by rw [if_pos h, if_neg ho]⟩)
  · exact .inl ⟨h, by rw [if_neg h]⟩

/-- Bytes that were made are told as data, between a number and an error. -/
theorem fz_ends3 {T : Types} {sl : List AV} {H : Heap} {nx id n : Nat} {bs rs : List UInt8} {e e' d d' : Value} {q : Prop} (h1 : slot sl 2 = .w d) (h2 : slot sl 3 = .ms id 1 0 n) (h3 : slot sl 4 = .w e) (hl : Ax.look H id = some (.b bs)) (hn : n = bs.length) (hr : rs = bs) (he : e' = e) (hd : d' = d) :
    EndsW T [.tmp 2, .tmp 3, .tmp 4] [] ⟨q, .tup [.w d', .sb rs false, .w e'], []⟩ .ret ⟨sl, H, nx⟩ := by
  subst hn hr he hd
  have hs : slot (fzL id rs sl) 3 = .sb rs false := by
    rw [Ax.slot_fzL, h2]
    simp [AV.fz]
  refine ⟨_, weak_fz id 3 rs hl (by rw [h2]; simp [AV.ids]), ?_⟩
  have e3 : slot (fzL id rs sl) 4 = .w e' := by rw [Ax.slot_fzL, h3]; rfl
  have e1 : slot (fzL id rs sl) 2 = .w d' := by rw [Ax.slot_fzL, h1]; rfl
  simp only [Ax.Ends, Ax.rvals, EndsX, rone, hs, e3, e1, AV.ids, idsL, newIds, upTo, nodup, pinsOf, List.nil_append, AV.ren, renL, and_self]
theorem nil_ends3 {T : Types} {sl : List AV} {H : Heap} {nx s : Nat} {f : Bool} {e e' d d' : Value} {q : Prop} {rs : List UInt8} (h1 : slot sl 2 = .w d) (h2 : slot sl 3 = .sg s [] f) (h3 : slot sl 4 = .w e) (hr : rs = []) (he : e' = e) (hd : d' = d) :
    EndsW T [.tmp 2, .tmp 3, .tmp 4] [] ⟨q, .tup [.w d', .sb rs false, .w e'], []⟩ .ret ⟨sl, H, nx⟩ := by
  subst hr he hd
  have hi : 3 < sl.length := by
    rcases Nat.lt_or_ge 3 sl.length with h | h
    · exact h
    · rw [slot_ge h] at h2; cases h2
  refine ⟨_, weak_slot 3 (.sb [] false) (fun _ _ _ h => by rw [h2] at h; exact h.nilb), ?_⟩
  have hs : slot (setSlot sl 3 (.sb [] false)) 3 = .sb [] false := slot_set_same hi
  have e3 : slot (setSlot sl 3 (.sb [] false)) 4 = .w e' := by rw [slot_set_other (by decide)]; exact h3
  have e1 : slot (setSlot sl 3 (.sb [] false)) 2 = .w d' := by rw [slot_set_other (by decide)]; exact h1
  simp only [Ax.Ends, Ax.rvals, EndsX, rone, hs, e3, e1, AV.ids, idsL, newIds, upTo, nodup, pinsOf, List.nil_append, AV.ren, renL, and_self]
theorem ms_ends3 {T : Types} {sl : List AV} {H : Heap} {nx id n m : Nat} {bs rs : List UInt8} {e e' d d' : Value} {q : Prop} (h1 : slot sl 2 = .w d) (h2 : slot sl 3 = .ms id 1 0 n) (h3 : slot sl 4 = .w e) (hl : Ax.look H id = some (.b bs)) (hn : n = bs.length) (hr : rs = bs) (he : e' = e) (hd : d' = d) (hm : m = rs.length) :
    EndsW T [.tmp 2, .tmp 3, .tmp 4] [] ⟨q, .tup [.w d', .ms 0 1 0 m, .w e'], [.b rs]⟩ .ret ⟨sl, H, nx⟩ := by
  subst hn hr he hd hm
  refine ⟨_, Weak.refl _, ?_⟩
  simp only [Ax.Ends, Ax.rvals, EndsX, rone, h1, h2, h3, AV.ids, idsL, newIds, upTo, nodup, pinsOf, hl, List.nil_append, List.append_nil, AV.ren, renL, gOf, and_self]
  simp [pinsOf, newIds, nodup, hl, gOf, Blk.closed]
theorem msnil_ends3 {T : Types} {sl : List AV} {H : Heap} {nx : Nat} {e e' d d' : Value} {q : Prop} {rs : List UInt8} (h1 : slot sl 2 = .w d) (h2 : slot sl 3 = .sg 1 [] true) (h3 : slot sl 4 = .w e) (hr : rs = []) (he : e' = e) (hd : d' = d) :
    EndsW T [.tmp 2, .tmp 3, .tmp 4] [] ⟨q, .tup [.w d', .ms 0 1 0 rs.length, .w e'], [.b rs]⟩ .ret ⟨sl, H, nx⟩ := by
  subst hr he hd
  have hi : 3 < sl.length := by
    rcases Nat.lt_or_ge 3 sl.length with h | h
    · exact h
    · rw [slot_ge h] at h2; cases h2
  obtain ⟨σ', h5, h6⟩ := ms_ends3 (T := T) (sl := setSlot sl 3 (.ms nx 1 0 0)) (H := Ax.put H nx (.b [])) (nx := nx + 1) (q := q) (id := nx) (n := 0) (bs := []) (rs := []) (e := e') (e' := e') (d := d') (d' := d') (by rw [slot_set_other (by decide)]; exact h1) (slot_set_same hi) (by rw [slot_set_other (by decide)]; exact h3) (by simp [Ax.put, Ax.look]) rfl rfl rfl rfl rfl
  exact ⟨σ', (weak_nil 3 1 (.b []) rfl (by rw [h2]; exact trivial)).trans h5, h6⟩
theorem sb_ends3 {T : Types} {sl : List AV} {H : Heap} {nx : Nat} {bs rs : List UInt8} {f : Bool} {e e' d d' : Value} {q : Prop} (h1 : slot sl 2 = .w d) (h2 : slot sl 3 = .sb bs f) (h3 : slot sl 4 = .w e) (hr : rs = bs) (he : e' = e) (hd : d' = d) :
    EndsW T [.tmp 2, .tmp 3, .tmp 4] [] ⟨q, .tup [.w d', .sb rs false, .w e'], []⟩ .ret ⟨sl, H, nx⟩ := by
  subst hr he hd
  have hi : 3 < sl.length := by
    rcases Nat.lt_or_ge 3 sl.length with h | h
    · exact h
    · rw [slot_ge h] at h2; cases h2
  refine ⟨_, weak_slot 3 (.sb rs false) (fun _ _ _ h => by rw [h2] at h; exact h.lax), ?_⟩
  have hs : slot (setSlot sl 3 (.sb rs false)) 3 = .sb rs false := slot_set_same hi
  have e3 : slot (setSlot sl 3 (.sb rs false)) 4 = .w e' := by rw [slot_set_other (by decide)]; exact h3
  have e1 : slot (setSlot sl 3 (.sb rs false)) 2 = .w d' := by rw [slot_set_other (by decide)]; exact h1
  simp only [Ax.Ends, Ax.rvals, EndsX, rone, hs, e3, e1, AV.ids, idsL, newIds, upTo, nodup, pinsOf, List.nil_append, AV.ren, renL, and_self]

section
set_option maxRecDepth 100000
theorem beq_sound : Sound Try.prog 53 beqS := by
  refine fn_sound (S := noS) (T := ty) mixed ty_ok noS_ok Try.func53 (c := Try.f53.body.getD .skip) (by kernel_rfl) (by kernel_rfl) (fun xs pins hp _ => ?_)
  unfold beqS at hp ⊢
  split at hp
  · rename_i a f b g _
    refine ⟨by simp, ?_⟩
    unfold Try.f53
    simp -implicitDefEqProofs only [Option.getD, awp_skip, awp_label, awp_ret, awp_exit, awp_region, awp_seq, awp_block, awp_cond, aops_nil, aops_plain, aops_guard, later_normal, later_exit, later_ret, blockK_normal, blockK_exit, blockK_ret, regK_apply, aop, aLen, ev, slot, setSlot, putSlot, cv, cvl, aConv, aBin, aInt, aUn, aEq, Out.and, isBool, isPtr, true_and, and_true, List.length, IntKind.bits, evs, evo, evps, aCall, aUser, coes, coe, List.append, List.replicate, callOut, rootsL, AV.roots, lendsL, AV.lends, pinsOf, nodup, lendL, lend, closedB, noimmB, AV.noimm, AV.ren, renL, back, Nat.reduceAdd, Nat.reduceSub, Nat.reduceMul, Int.reduceToNat, Nat.le_refl, reduceCtorEq, false_implies, implies_true, List.nil_append, List.append_nil, List.cons_append, Nat.zero_le, Bool.false_eq_true, aLoad, subv, aIndexAddr, aIndex, TD.aggr, cond_false, cond_true, guardSlot, List.getElem?_cons_succ, List.getElem?_cons_zero, aPick, byte, word, aMin, aMax, Ax.Ends, EndsX, Ax.rvals, rone, AV.ids, idsL, newIds, upTo, pinHeap, gOf, ↓reduceIte, forall_const, List.isEmpty, ne_eq, not_false_eq_true, and_self, true_implies, AV.w.injEq, Value.int.injEq, Value.bool.injEq, IntKind.wrap_u8, IntKind.wrap_u64, IntKind.wrap_i64, Int.reducePow, Nat.reducePow, Nat.min_def, Int.reduceMod, Nat.reduceLeDiff, Int.reduceLE, Int.reduceNe, Int.reduceEq, aBuildSlice, fillB, aAppend, appendB, viewB, Ax.look, Ax.put, Ax.drop, List.drop, List.take, List.set_cons_zero, List.set_cons_succ, asv, aMake, aCopy, srcB, fillG, viewG, appendG, appendI, fillI, aSlice, bnd, bnds, full3, cut, aFieldAddr, aField, aLoad, aStore, setB, aBox, aBuild, fillS, allTy, AV.leaves, AV.okv, AV.leaf, one, splice, elemLeaves, Blk.size, Blk.len, List.replicate_succ, List.replicate_zero, Option.isSome, Option.isNone, isBytes, aStr, aNil, aAlloc, aExtract, aConv, viewI, Nat.reduceEqDiff, Nat.reduceLT, List.length_append, List.length_cons, List.length_nil, Nat.zero_add, Nat.add_zero, Nat.reduceBEq, List.contains, List.elem, Bool.not_true, Bool.not_false, Bool.true_and, Bool.and_true, Bool.and_false, Bool.false_and, Blk.closed, closedL, AV.closed, Blk.noimm, not_true_eq_false, not_false_iff, or_false, or_true, false_or, true_or, Int.toNat_natCast, List.length_replicate, setB, ↓gsplit_tt, ↓gsplit_ff, ↓gsplit_tf, ↓gsplit_ft, gsplit_bt, gsplit_bf, ↓csplit_t, ↓csplit_f, csplit_b, Ax.idx, beq_self_eq_true, BEq.rfl, pinsOf, List.mem_cons, List.not_mem_nil, AV.lentIds, lentIdsL, dropAll, givenUp, AV.clean, cleanL, Blk.clean, cleanB, quietC, flatTy, List.all_cons, List.all_nil, Bool.or_false, Bool.or_true, Bool.true_or, Bool.false_or, decide_true, decide_false, coldStr, notMs, eqV, eqF, isStruct, ty, noS]
  · exact hp.elim
def Sbopen (f : FuncId) : Option FSpec :=
  match f with
  | 53 => some beqS
  | 16 => some bsealS
  | _ => none
theorem Sbopen_ok : Fns Try.prog Sbopen := by
  intro f s h
  unfold Sbopen at h
  split at h
  · injection h with h; subst h; exact ⟨⟨_, Try.func53, by kernel_rfl, by kernel_rfl⟩, beq_sound⟩
  · injection h with h; subst h; exact ⟨⟨_, Try.func16, by kernel_rfl, by kernel_rfl⟩, bseal_sound⟩
  · cases h
def Srbopen (f : FuncId) : Option FSpec :=
  match f with
  | 17 => some bsealM
  | _ => none
theorem Srbopen_ok : Fns Try.prog Srbopen := by
  intro f s h
  unfold Srbopen at h
  split at h
  · injection h with h; subst h; exact ⟨⟨_, Try.func17, by kernel_rfl, by kernel_rfl⟩, rbsealM_sound⟩
  · cases h
set_option maxHeartbeats 1000000 in
theorem bopen_sound : Sound Try.prog 18 bopenS := by
  refine fn_soundW (S := Sbopen) (T := tyF) mixed tyF_ok Sbopen_ok Try.func18 (c := Try.f18.body.getD .skip) (by kernel_rfl) (by kernel_rfl) (fun xs pins hp _ => ?_)
  unfold bopenS at hp ⊢
  split at hp
  · rename_i b f _
    have hlen : b.length ≤ 1000000 := hp
    refine ⟨by simp, ?_⟩
    unfold Try.f18
    obtain ⟨M, hM⟩ : ∃ M, b.getD 63 0 = M := ⟨_, rfl⟩
    obtain ⟨L, hL⟩ : ∃ L, b.getD 1 0 = L := ⟨_, rfl⟩
    obtain ⟨K, hK⟩ : ∃ K, b.getD 0 0 = K := ⟨_, rfl⟩
    have hMl := M.toNat_lt
    have hLl := L.toNat_lt
    have hKl := K.toNat_lt
    have hc := openE_cases b
    rw [hM] at hc
    rcases hc with ⟨hn, hE⟩ | ⟨h64, hm, hno, hE⟩ | ⟨h64, hm, ho, hE⟩
    · have hK' : openK b = 0 := if_neg (by omega)
      have hB : openB b = [] := if_neg (by omega)
      by_cases h64 : b.length = 64
      · have d1 : decide ((b.length : Int) = 64) = true := decide_eq_true (by omega)
        have d2 : decide ((M.toNat : Int) = 90) = false := decide_eq_false (by omega)
        simp -implicitDefEqProofs only [Option.getD, awp_skip, awp_label, awp_ret, awp_exit, awp_region, awp_seq, awp_block, awp_cond, aops_nil, aops_plain, aops_guard, later_normal, later_exit, later_ret, blockK_normal, blockK_exit, blockK_ret, regK_apply, aop, aLen, ev, slot, setSlot, putSlot, cv, cvl, aConv, aBin, aInt, aUn, aEq, Out.and, isBool, isPtr, true_and, and_true, List.length, IntKind.bits, evs, evo, evps, aCall, aUser, coes, coe, List.append, List.replicate, callOut, rootsL, AV.roots, lendsL, AV.lends, pinsOf, nodup, lendL, lend, closedB, noimmB, AV.noimm, AV.ren, renL, back, Nat.reduceAdd, Nat.reduceSub, Nat.reduceMul, Int.reduceToNat, Nat.le_refl, reduceCtorEq, false_implies, implies_true, List.nil_append, List.append_nil, List.cons_append, Nat.zero_le, Bool.false_eq_true, aLoad, subv, aIndexAddr, aIndex, TD.aggr, cond_false, cond_true, guardSlot, List.getElem?_cons_succ, List.getElem?_cons_zero, aPick, byte, word, aMin, aMax, Ax.Ends, EndsX, Ax.rvals, rone, AV.ids, idsL, newIds, upTo, pinHeap, gOf, ↓reduceIte, forall_const, List.isEmpty, ne_eq, not_false_eq_true, and_self, true_implies, AV.w.injEq, Value.int.injEq, Value.bool.injEq, IntKind.wrap_u8, IntKind.wrap_u64, IntKind.wrap_i64, Int.reducePow, Nat.reducePow, Nat.min_def, Int.reduceMod, Nat.reduceLeDiff, Int.reduceLE, Int.reduceNe, Int.reduceEq, aBuildSlice, fillB, aAppend, appendB, viewB, Ax.look, Ax.put, Ax.drop, List.drop, List.take, List.set_cons_zero, List.set_cons_succ, asv, aMake, aCopy, srcB, fillG, viewG, appendG, appendI, fillI, aSlice, bnd, bnds, full3, cut, aFieldAddr, aField, aLoad, aStore, setB, aBox, aBuild, fillS, allTy, AV.leaves, AV.okv, AV.leaf, one, splice, elemLeaves, Blk.size, Blk.len, List.replicate_succ, List.replicate_zero, Option.isSome, Option.isNone, isBytes, aStr, aNil, aAlloc, aExtract, aConv, viewI, Nat.reduceEqDiff, Nat.reduceLT, List.length_append, List.length_cons, List.length_nil, Nat.zero_add, Nat.add_zero, Nat.reduceBEq, List.contains, List.elem, Bool.not_true, Bool.not_false, Bool.true_and, Bool.and_true, Bool.and_false, Bool.false_and, Blk.closed, closedL, AV.closed, Blk.noimm, not_true_eq_false, not_false_iff, or_false, or_true, false_or, true_or, Int.toNat_natCast, List.length_replicate, setB, ↓gsplit_tt, ↓gsplit_ff, ↓gsplit_tf, ↓gsplit_ft, gsplit_bt, gsplit_bf, ↓csplit_t, ↓csplit_f, csplit_b, Ax.idx, beq_self_eq_true, BEq.rfl, pinsOf, List.mem_cons, List.not_mem_nil, AV.lentIds, lentIdsL, dropAll, givenUp, AV.clean, cleanL, Blk.clean, cleanB, quietC, flatTy, List.all_cons, List.all_nil, Bool.or_false, Bool.or_true, Bool.true_or, Bool.false_or, decide_true, decide_false, coldStr, notMs, eqV, eqF, isStruct, tyF, setFlat, ty, Sbopen, bsealS, beqS, d1, d2, hM, hE, hK', hB]
        exact ⟨by omega, nil_ends3 rfl rfl rfl rfl rfl rfl⟩
      · have d1 : decide ((b.length : Int) = 64) = false := decide_eq_false (by omega)
        simp -implicitDefEqProofs only [Option.getD, awp_skip, awp_label, awp_ret, awp_exit, awp_region, awp_seq, awp_block, awp_cond, aops_nil, aops_plain, aops_guard, later_normal, later_exit, later_ret, blockK_normal, blockK_exit, blockK_ret, regK_apply, aop, aLen, ev, slot, setSlot, putSlot, cv, cvl, aConv, aBin, aInt, aUn, aEq, Out.and, isBool, isPtr, true_and, and_true, List.length, IntKind.bits, evs, evo, evps, aCall, aUser, coes, coe, List.append, List.replicate, callOut, rootsL, AV.roots, lendsL, AV.lends, pinsOf, nodup, lendL, lend, closedB, noimmB, AV.noimm, AV.ren, renL, back, Nat.reduceAdd, Nat.reduceSub, Nat.reduceMul, Int.reduceToNat, Nat.le_refl, reduceCtorEq, false_implies, implies_true, List.nil_append, List.append_nil, List.cons_append, Nat.zero_le, Bool.false_eq_true, aLoad, subv, aIndexAddr, aIndex, TD.aggr, cond_false, cond_true, guardSlot, List.getElem?_cons_succ, List.getElem?_cons_zero, aPick, byte, word, aMin, aMax, Ax.Ends, EndsX, Ax.rvals, rone, AV.ids, idsL, newIds, upTo, pinHeap, gOf, ↓reduceIte, forall_const, List.isEmpty, ne_eq, not_false_eq_true, and_self, true_implies, AV.w.injEq, Value.int.injEq, Value.bool.injEq, IntKind.wrap_u8, IntKind.wrap_u64, IntKind.wrap_i64, Int.reducePow, Nat.reducePow, Nat.min_def, Int.reduceMod, Nat.reduceLeDiff, Int.reduceLE, Int.reduceNe, Int.reduceEq, aBuildSlice, fillB, aAppend, appendB, viewB, Ax.look, Ax.put, Ax.drop, List.drop, List.take, List.set_cons_zero, List.set_cons_succ, asv, aMake, aCopy, srcB, fillG, viewG, appendG, appendI, fillI, aSlice, bnd, bnds, full3, cut, aFieldAddr, aField, aLoad, aStore, setB, aBox, aBuild, fillS, allTy, AV.leaves, AV.okv, AV.leaf, one, splice, elemLeaves, Blk.size, Blk.len, List.replicate_succ, List.replicate_zero, Option.isSome, Option.isNone, isBytes, aStr, aNil, aAlloc, aExtract, aConv, viewI, Nat.reduceEqDiff, Nat.reduceLT, List.length_append, List.length_cons, List.length_nil, Nat.zero_add, Nat.add_zero, Nat.reduceBEq, List.contains, List.elem, Bool.not_true, Bool.not_false, Bool.true_and, Bool.and_true, Bool.and_false, Bool.false_and, Blk.closed, closedL, AV.closed, Blk.noimm, not_true_eq_false, not_false_iff, or_false, or_true, false_or, true_or, Int.toNat_natCast, List.length_replicate, setB, ↓gsplit_tt, ↓gsplit_ff, ↓gsplit_tf, ↓gsplit_ft, gsplit_bt, gsplit_bf, ↓csplit_t, ↓csplit_f, csplit_b, Ax.idx, beq_self_eq_true, BEq.rfl, pinsOf, List.mem_cons, List.not_mem_nil, AV.lentIds, lentIdsL, dropAll, givenUp, AV.clean, cleanL, Blk.clean, cleanB, quietC, flatTy, List.all_cons, List.all_nil, Bool.or_false, Bool.or_true, Bool.true_or, Bool.false_or, decide_true, decide_false, coldStr, notMs, eqV, eqF, isStruct, tyF, setFlat, ty, Sbopen, bsealS, beqS, d1, hM, hE, hK', hB]
        exact nil_ends3 rfl rfl rfl rfl rfl rfl
    · have d1 : decide ((b.length : Int) = 64) = true := decide_eq_true (by omega)
      have d2 : decide ((M.toNat : Int) = 90) = true := decide_eq_true (by omega)
      have hK' : openK b = 0 := if_neg (by omega)
      have hB : openB b = [] := if_neg (by omega)
      have e0 : ((L.toNat : Int) + 9223372036854775808) % 18446744073709551616 - 9223372036854775808 = (L.toNat : Int) := by omega
      have e1 : (2 + (L.toNat : Int) + 9223372036854775808) % 18446744073709551616 - 9223372036854775808 = ((2 + L.toNat : Nat) : Int) := by omega
      by_cases h61 : L.toNat ≤ 61
      · have d3 : decide ((63 : Int) < ((2 + L.toNat : Nat) : Int)) = false := decide_eq_false (by omega)
        have e2 : List.take (2 + L.toNat - 2) (List.drop 2 b) = bodyL b := by rw [show 2 + L.toNat - 2 = L.toNat by omega]; unfold bodyL; rw [hL]
        have hbl := bodyL_length b h64 (by rw [hL]; exact h61)
        rw [hL] at hbl
        have hne : sealB K.toNat (bodyL b) ≠ b := fun h => hno ⟨by rw [hL]; exact h61, by rw [hK]; exact h⟩
        generalize bodyL b = B at *
        by_cases hs : sealE K.toNat B = 0
        · have d4 : decide (sealE K.toNat B = 0) = true := decide_eq_true hs
          have d5 : decide (sealB K.toNat B = b) = false := decide_eq_false hne
          simp -implicitDefEqProofs only [Option.getD, awp_skip, awp_label, awp_ret, awp_exit, awp_region, awp_seq, awp_block, awp_cond, aops_nil, aops_plain, aops_guard, later_normal, later_exit, later_ret, blockK_normal, blockK_exit, blockK_ret, regK_apply, aop, aLen, ev, slot, setSlot, putSlot, cv, cvl, aConv, aBin, aInt, aUn, aEq, Out.and, isBool, isPtr, true_and, and_true, List.length, IntKind.bits, evs, evo, evps, aCall, aUser, coes, coe, List.append, List.replicate, callOut, rootsL, AV.roots, lendsL, AV.lends, pinsOf, nodup, lendL, lend, closedB, noimmB, AV.noimm, AV.ren, renL, back, Nat.reduceAdd, Nat.reduceSub, Nat.reduceMul, Int.reduceToNat, Nat.le_refl, reduceCtorEq, false_implies, implies_true, List.nil_append, List.append_nil, List.cons_append, Nat.zero_le, Bool.false_eq_true, aLoad, subv, aIndexAddr, aIndex, TD.aggr, cond_false, cond_true, guardSlot, List.getElem?_cons_succ, List.getElem?_cons_zero, aPick, byte, word, aMin, aMax, Ax.Ends, EndsX, Ax.rvals, rone, AV.ids, idsL, newIds, upTo, pinHeap, gOf, ↓reduceIte, forall_const, List.isEmpty, ne_eq, not_false_eq_true, and_self, true_implies, AV.w.injEq, Value.int.injEq, Value.bool.injEq, IntKind.wrap_u8, IntKind.wrap_u64, IntKind.wrap_i64, Int.reducePow, Nat.reducePow, Nat.min_def, Int.reduceMod, Nat.reduceLeDiff, Int.reduceLE, Int.reduceNe, Int.reduceEq, aBuildSlice, fillB, aAppend, appendB, viewB, Ax.look, Ax.put, Ax.drop, List.drop, List.take, List.set_cons_zero, List.set_cons_succ, asv, aMake, aCopy, srcB, fillG, viewG, appendG, appendI, fillI, aSlice, bnd, bnds, full3, cut, aFieldAddr, aField, aLoad, aStore, setB, aBox, aBuild, fillS, allTy, AV.leaves, AV.okv, AV.leaf, one, splice, elemLeaves, Blk.size, Blk.len, List.replicate_succ, List.replicate_zero, Option.isSome, Option.isNone, isBytes, aStr, aNil, aAlloc, aExtract, aConv, viewI, Nat.reduceEqDiff, Nat.reduceLT, List.length_append, List.length_cons, List.length_nil, Nat.zero_add, Nat.add_zero, Nat.reduceBEq, List.contains, List.elem, Bool.not_true, Bool.not_false, Bool.true_and, Bool.and_true, Bool.and_false, Bool.false_and, Blk.closed, closedL, AV.closed, Blk.noimm, not_true_eq_false, not_false_iff, or_false, or_true, false_or, true_or, Int.toNat_natCast, List.length_replicate, setB, ↓gsplit_tt, ↓gsplit_ff, ↓gsplit_tf, ↓gsplit_ft, gsplit_bt, gsplit_bf, ↓csplit_t, ↓csplit_f, csplit_b, Ax.idx, beq_self_eq_true, BEq.rfl, pinsOf, List.mem_cons, List.not_mem_nil, AV.lentIds, lentIdsL, dropAll, givenUp, AV.clean, cleanL, Blk.clean, cleanB, quietC, flatTy, List.all_cons, List.all_nil, Bool.or_false, Bool.or_true, Bool.true_or, Bool.false_or, decide_true, decide_false, coldStr, notMs, eqV, eqF, isStruct, tyF, setFlat, ty, Sbopen, bsealS, beqS, d1, d2, d3, d4, d5, hM, hL, hK, e0, e1, e2, hE, hK', hB, Int.toNat_natCast]
          repeat (refine And.intro (by omega) ?_)
          exact nil_ends3 rfl rfl rfl rfl rfl rfl
        · have d4 : decide (sealE K.toNat B = 0) = false := decide_eq_false hs
          simp -implicitDefEqProofs only [Option.getD, awp_skip, awp_label, awp_ret, awp_exit, awp_region, awp_seq, awp_block, awp_cond, aops_nil, aops_plain, aops_guard, later_normal, later_exit, later_ret, blockK_normal, blockK_exit, blockK_ret, regK_apply, aop, aLen, ev, slot, setSlot, putSlot, cv, cvl, aConv, aBin, aInt, aUn, aEq, Out.and, isBool, isPtr, true_and, and_true, List.length, IntKind.bits, evs, evo, evps, aCall, aUser, coes, coe, List.append, List.replicate, callOut, rootsL, AV.roots, lendsL, AV.lends, pinsOf, nodup, lendL, lend, closedB, noimmB, AV.noimm, AV.ren, renL, back, Nat.reduceAdd, Nat.reduceSub, Nat.reduceMul, Int.reduceToNat, Nat.le_refl, reduceCtorEq, false_implies, implies_true, List.nil_append, List.append_nil, List.cons_append, Nat.zero_le, Bool.false_eq_true, aLoad, subv, aIndexAddr, aIndex, TD.aggr, cond_false, cond_true, guardSlot, List.getElem?_cons_succ, List.getElem?_cons_zero, aPick, byte, word, aMin, aMax, Ax.Ends, EndsX, Ax.rvals, rone, AV.ids, idsL, newIds, upTo, pinHeap, gOf, ↓reduceIte, forall_const, List.isEmpty, ne_eq, not_false_eq_true, and_self, true_implies, AV.w.injEq, Value.int.injEq, Value.bool.injEq, IntKind.wrap_u8, IntKind.wrap_u64, IntKind.wrap_i64, Int.reducePow, Nat.reducePow, Nat.min_def, Int.reduceMod, Nat.reduceLeDiff, Int.reduceLE, Int.reduceNe, Int.reduceEq, aBuildSlice, fillB, aAppend, appendB, viewB, Ax.look, Ax.put, Ax.drop, List.drop, List.take, List.set_cons_zero, List.set_cons_succ, asv, aMake, aCopy, srcB, fillG, viewG, appendG, appendI, fillI, aSlice, bnd, bnds, full3, cut, aFieldAddr, aField, aLoad, aStore, setB, aBox, aBuild, fillS, allTy, AV.leaves, AV.okv, AV.leaf, one, splice, elemLeaves, Blk.size, Blk.len, List.replicate_succ, List.replicate_zero, Option.isSome, Option.isNone, isBytes, aStr, aNil, aAlloc, aExtract, aConv, viewI, Nat.reduceEqDiff, Nat.reduceLT, List.length_append, List.length_cons, List.length_nil, Nat.zero_add, Nat.add_zero, Nat.reduceBEq, List.contains, List.elem, Bool.not_true, Bool.not_false, Bool.true_and, Bool.and_true, Bool.and_false, Bool.false_and, Blk.closed, closedL, AV.closed, Blk.noimm, not_true_eq_false, not_false_iff, or_false, or_true, false_or, true_or, Int.toNat_natCast, List.length_replicate, setB, ↓gsplit_tt, ↓gsplit_ff, ↓gsplit_tf, ↓gsplit_ft, gsplit_bt, gsplit_bf, ↓csplit_t, ↓csplit_f, csplit_b, Ax.idx, beq_self_eq_true, BEq.rfl, pinsOf, List.mem_cons, List.not_mem_nil, AV.lentIds, lentIdsL, dropAll, givenUp, AV.clean, cleanL, Blk.clean, cleanB, quietC, flatTy, List.all_cons, List.all_nil, Bool.or_false, Bool.or_true, Bool.true_or, Bool.false_or, decide_true, decide_false, coldStr, notMs, eqV, eqF, isStruct, tyF, setFlat, ty, Sbopen, bsealS, beqS, d1, d2, d3, d4, hM, hL, hK, e0, e1, e2, hE, hK', hB, Int.toNat_natCast]
          repeat (refine And.intro (by omega) ?_)
          exact nil_ends3 rfl rfl rfl rfl rfl rfl
      · have d3 : decide ((63 : Int) < ((2 + L.toNat : Nat) : Int)) = true := decide_eq_true (by omega)
        simp -implicitDefEqProofs only [Option.getD, awp_skip, awp_label, awp_ret, awp_exit, awp_region, awp_seq, awp_block, awp_cond, aops_nil, aops_plain, aops_guard, later_normal, later_exit, later_ret, blockK_normal, blockK_exit, blockK_ret, regK_apply, aop, aLen, ev, slot, setSlot, putSlot, cv, cvl, aConv, aBin, aInt, aUn, aEq, Out.and, isBool, isPtr, true_and, and_true, List.length, IntKind.bits, evs, evo, evps, aCall, aUser, coes, coe, List.append, List.replicate, callOut, rootsL, AV.roots, lendsL, AV.lends, pinsOf, nodup, lendL, lend, closedB, noimmB, AV.noimm, AV.ren, renL, back, Nat.reduceAdd, Nat.reduceSub, Nat.reduceMul, Int.reduceToNat, Nat.le_refl, reduceCtorEq, false_implies, implies_true, List.nil_append, List.append_nil, List.cons_append, Nat.zero_le, Bool.false_eq_true, aLoad, subv, aIndexAddr, aIndex, TD.aggr, cond_false, cond_true, guardSlot, List.getElem?_cons_succ, List.getElem?_cons_zero, aPick, byte, word, aMin, aMax, Ax.Ends, EndsX, Ax.rvals, rone, AV.ids, idsL, newIds, upTo, pinHeap, gOf, ↓reduceIte, forall_const, List.isEmpty, ne_eq, not_false_eq_true, and_self, true_implies, AV.w.injEq, Value.int.injEq, Value.bool.injEq, IntKind.wrap_u8, IntKind.wrap_u64, IntKind.wrap_i64, Int.reducePow, Nat.reducePow, Nat.min_def, Int.reduceMod, Nat.reduceLeDiff, Int.reduceLE, Int.reduceNe, Int.reduceEq, aBuildSlice, fillB, aAppend, appendB, viewB, Ax.look, Ax.put, Ax.drop, List.drop, List.take, List.set_cons_zero, List.set_cons_succ, asv, aMake, aCopy, srcB, fillG, viewG, appendG, appendI, fillI, aSlice, bnd, bnds, full3, cut, aFieldAddr, aField, aLoad, aStore, setB, aBox, aBuild, fillS, allTy, AV.leaves, AV.okv, AV.leaf, one, splice, elemLeaves, Blk.size, Blk.len, List.replicate_succ, List.replicate_zero, Option.isSome, Option.isNone, isBytes, aStr, aNil, aAlloc, aExtract, aConv, viewI, Nat.reduceEqDiff, Nat.reduceLT, List.length_append, List.length_cons, List.length_nil, Nat.zero_add, Nat.add_zero, Nat.reduceBEq, List.contains, List.elem, Bool.not_true, Bool.not_false, Bool.true_and, Bool.and_true, Bool.and_false, Bool.false_and, Blk.closed, closedL, AV.closed, Blk.noimm, not_true_eq_false, not_false_iff, or_false, or_true, false_or, true_or, Int.toNat_natCast, List.length_replicate, setB, ↓gsplit_tt, ↓gsplit_ff, ↓gsplit_tf, ↓gsplit_ft, gsplit_bt, gsplit_bf, ↓csplit_t, ↓csplit_f, csplit_b, Ax.idx, beq_self_eq_true, BEq.rfl, pinsOf, List.mem_cons, List.not_mem_nil, AV.lentIds, lentIdsL, dropAll, givenUp, AV.clean, cleanL, Blk.clean, cleanB, quietC, flatTy, List.all_cons, List.all_nil, Bool.or_false, Bool.or_true, Bool.true_or, Bool.false_or, decide_true, decide_false, coldStr, notMs, eqV, eqF, isStruct, tyF, setFlat, ty, Sbopen, bsealS, beqS, d1, d2, d3, hM, hL, hK, e0, e1, hE, hK', hB, Int.toNat_natCast]
        repeat (refine And.intro (by omega) ?_)
        exact nil_ends3 rfl rfl rfl rfl rfl rfl
    · have d1 : decide ((b.length : Int) = 64) = true := decide_eq_true (by omega)
      have d2 : decide ((M.toNat : Int) = 90) = true := decide_eq_true (by omega)
      have hK' : openK b = K.toNat := by unfold openK; rw [if_pos hE, hK]
      have hB : openB b = bodyL b := if_pos hE
      have e0 : ((L.toNat : Int) + 9223372036854775808) % 18446744073709551616 - 9223372036854775808 = (L.toNat : Int) := by omega
      have e1 : (2 + (L.toNat : Int) + 9223372036854775808) % 18446744073709551616 - 9223372036854775808 = ((2 + L.toNat : Nat) : Int) := by omega
      obtain ⟨h61, hs⟩ := ho
      rw [hL] at h61
      rw [hK] at hs
      have d3 : decide ((63 : Int) < ((2 + L.toNat : Nat) : Int)) = false := decide_eq_false (by omega)
      have e2 : List.take (2 + L.toNat - 2) (List.drop 2 b) = bodyL b := by rw [show 2 + L.toNat - 2 = L.toNat by omega]; unfold bodyL; rw [hL]
      have hbl := bodyL_length b h64 (by rw [hL]; exact h61)
      rw [hL] at hbl
      generalize bodyL b = B at *
      have h0 : sealE K.toNat B = 0 := by
        unfold sealB at hs
        split at hs
        · assumption
        · rw [← hs] at h64; simp at h64
      have d4 : decide (sealE K.toNat B = 0) = true := decide_eq_true h0
      simp -implicitDefEqProofs only [Option.getD, awp_skip, awp_label, awp_ret, awp_exit, awp_region, awp_seq, awp_block, awp_cond, aops_nil, aops_plain, aops_guard, later_normal, later_exit, later_ret, blockK_normal, blockK_exit, blockK_ret, regK_apply, aop, aLen, ev, slot, setSlot, putSlot, cv, cvl, aConv, aBin, aInt, aUn, aEq, Out.and, isBool, isPtr, true_and, and_true, List.length, IntKind.bits, evs, evo, evps, aCall, aUser, coes, coe, List.append, List.replicate, callOut, rootsL, AV.roots, lendsL, AV.lends, pinsOf, nodup, lendL, lend, closedB, noimmB, AV.noimm, AV.ren, renL, back, Nat.reduceAdd, Nat.reduceSub, Nat.reduceMul, Int.reduceToNat, Nat.le_refl, reduceCtorEq, false_implies, implies_true, List.nil_append, List.append_nil, List.cons_append, Nat.zero_le, Bool.false_eq_true, aLoad, subv, aIndexAddr, aIndex, TD.aggr, cond_false, cond_true, guardSlot, List.getElem?_cons_succ, List.getElem?_cons_zero, aPick, byte, word, aMin, aMax, Ax.Ends, EndsX, Ax.rvals, rone, AV.ids, idsL, newIds, upTo, pinHeap, gOf, ↓reduceIte, forall_const, List.isEmpty, ne_eq, not_false_eq_true, and_self, true_implies, AV.w.injEq, Value.int.injEq, Value.bool.injEq, IntKind.wrap_u8, IntKind.wrap_u64, IntKind.wrap_i64, Int.reducePow, Nat.reducePow, Nat.min_def, Int.reduceMod, Nat.reduceLeDiff, Int.reduceLE, Int.reduceNe, Int.reduceEq, aBuildSlice, fillB, aAppend, appendB, viewB, Ax.look, Ax.put, Ax.drop, List.drop, List.take, List.set_cons_zero, List.set_cons_succ, asv, aMake, aCopy, srcB, fillG, viewG, appendG, appendI, fillI, aSlice, bnd, bnds, full3, cut, aFieldAddr, aField, aLoad, aStore, setB, aBox, aBuild, fillS, allTy, AV.leaves, AV.okv, AV.leaf, one, splice, elemLeaves, Blk.size, Blk.len, List.replicate_succ, List.replicate_zero, Option.isSome, Option.isNone, isBytes, aStr, aNil, aAlloc, aExtract, aConv, viewI, Nat.reduceEqDiff, Nat.reduceLT, List.length_append, List.length_cons, List.length_nil, Nat.zero_add, Nat.add_zero, Nat.reduceBEq, List.contains, List.elem, Bool.not_true, Bool.not_false, Bool.true_and, Bool.and_true, Bool.and_false, Bool.false_and, Blk.closed, closedL, AV.closed, Blk.noimm, not_true_eq_false, not_false_iff, or_false, or_true, false_or, true_or, Int.toNat_natCast, List.length_replicate, setB, ↓gsplit_tt, ↓gsplit_ff, ↓gsplit_tf, ↓gsplit_ft, gsplit_bt, gsplit_bf, ↓csplit_t, ↓csplit_f, csplit_b, Ax.idx, beq_self_eq_true, BEq.rfl, pinsOf, List.mem_cons, List.not_mem_nil, AV.lentIds, lentIdsL, dropAll, givenUp, AV.clean, cleanL, Blk.clean, cleanB, quietC, flatTy, List.all_cons, List.all_nil, Bool.or_false, Bool.or_true, Bool.true_or, Bool.false_or, decide_true, decide_false, coldStr, notMs, eqV, eqF, isStruct, tyF, setFlat, ty, Sbopen, bsealS, beqS, d1, d2, d3, d4, hs, hM, hL, hK, e0, e1, e2, hE, hK', hB, Int.toNat_natCast]
      repeat (refine And.intro (by omega) ?_)
      exact sb_ends3 rfl rfl rfl rfl rfl rfl
  · exact hp.elim
set_option maxHeartbeats 1000000 in
theorem rbopen_sound : Sound Try.prog 19 bopenS := by
  refine fn_soundW (S := Srbopen) (T := ty) mixed ty_ok Srbopen_ok Try.func19 (c := Try.f19.body.getD .skip) (by kernel_rfl) (by kernel_rfl) (fun xs pins hp _ => ?_)
  unfold bopenS at hp ⊢
  split at hp
  · rename_i b f _
    have hlen : b.length ≤ 1000000 := hp
    refine ⟨by simp, ?_⟩
    unfold Try.f19
    obtain ⟨M, hM⟩ : ∃ M, b.getD 63 0 = M := ⟨_, rfl⟩
    obtain ⟨L, hL⟩ : ∃ L, b.getD 1 0 = L := ⟨_, rfl⟩
    obtain ⟨K, hK⟩ : ∃ K, b.getD 0 0 = K := ⟨_, rfl⟩
    have hMl := M.toNat_lt
    have hLl := L.toNat_lt
    have hKl := K.toNat_lt
    have hc := openE_cases b
    rw [hM] at hc
    rcases hc with ⟨hn, hE⟩ | ⟨h64, hm, hno, hE⟩ | ⟨h64, hm, ho, hE⟩
    · have hK' : openK b = 0 := if_neg (by omega)
      have hB : openB b = [] := if_neg (by omega)
      by_cases h64 : b.length = 64
      · have d1 : decide ((b.length : Int) = 64) = true := decide_eq_true (by omega)
        have d2 : decide ((M.toNat : Int) = 90) = false := decide_eq_false (by omega)
        simp -implicitDefEqProofs only [Option.getD, awp_skip, awp_label, awp_ret, awp_exit, awp_region, awp_seq, awp_block, awp_cond, aops_nil, aops_plain, aops_guard, later_normal, later_exit, later_ret, blockK_normal, blockK_exit, blockK_ret, regK_apply, aop, aLen, ev, slot, setSlot, putSlot, cv, cvl, aConv, aBin, aInt, aUn, aEq, Out.and, isBool, isPtr, true_and, and_true, List.length, IntKind.bits, evs, evo, evps, aCall, aUser, coes, coe, List.append, List.replicate, callOut, rootsL, AV.roots, lendsL, AV.lends, pinsOf, nodup, lendL, lend, closedB, noimmB, AV.noimm, AV.ren, renL, back, Nat.reduceAdd, Nat.reduceSub, Nat.reduceMul, Int.reduceToNat, Nat.le_refl, reduceCtorEq, false_implies, implies_true, List.nil_append, List.append_nil, List.cons_append, Nat.zero_le, Bool.false_eq_true, aLoad, subv, aIndexAddr, aIndex, TD.aggr, cond_false, cond_true, guardSlot, List.getElem?_cons_succ, List.getElem?_cons_zero, aPick, byte, word, aMin, aMax, Ax.Ends, EndsX, Ax.rvals, rone, AV.ids, idsL, newIds, upTo, pinHeap, gOf, ↓reduceIte, forall_const, List.isEmpty, ne_eq, not_false_eq_true, and_self, true_implies, AV.w.injEq, Value.int.injEq, Value.bool.injEq, IntKind.wrap_u8, IntKind.wrap_u64, IntKind.wrap_i64, Int.reducePow, Nat.reducePow, Nat.min_def, Int.reduceMod, Nat.reduceLeDiff, Int.reduceLE, Int.reduceNe, Int.reduceEq, aBuildSlice, fillB, aAppend, appendB, viewB, Ax.look, Ax.put, Ax.drop, List.drop, List.take, List.set_cons_zero, List.set_cons_succ, asv, aMake, aCopy, srcB, fillG, viewG, appendG, appendI, fillI, aSlice, bnd, bnds, full3, cut, aFieldAddr, aField, aLoad, aStore, setB, aBox, aBuild, fillS, allTy, AV.leaves, AV.okv, AV.leaf, one, splice, elemLeaves, Blk.size, Blk.len, List.replicate_succ, List.replicate_zero, Option.isSome, Option.isNone, isBytes, aStr, aNil, aAlloc, aExtract, aConv, viewI, Nat.reduceEqDiff, Nat.reduceLT, List.length_append, List.length_cons, List.length_nil, Nat.zero_add, Nat.add_zero, Nat.reduceBEq, List.contains, List.elem, Bool.not_true, Bool.not_false, Bool.true_and, Bool.and_true, Bool.and_false, Bool.false_and, Blk.closed, closedL, AV.closed, Blk.noimm, not_true_eq_false, not_false_iff, or_false, or_true, false_or, true_or, Int.toNat_natCast, List.length_replicate, setB, ↓gsplit_tt, ↓gsplit_ff, ↓gsplit_tf, ↓gsplit_ft, gsplit_bt, gsplit_bf, ↓csplit_t, ↓csplit_f, csplit_b, Ax.idx, beq_self_eq_true, BEq.rfl, pinsOf, List.mem_cons, List.not_mem_nil, AV.lentIds, lentIdsL, dropAll, givenUp, AV.clean, cleanL, Blk.clean, cleanB, quietC, flatTy, List.all_cons, List.all_nil, Bool.or_false, Bool.or_true, Bool.true_or, Bool.false_or, decide_true, decide_false, coldStr, notMs, eqV, eqF, isStruct, ty, Srbopen, bsealM, d1, d2, hM, hE, hK', hB]
        exact ⟨by omega, nil_ends3 rfl rfl rfl rfl rfl rfl⟩
      · have d1 : decide ((b.length : Int) = 64) = false := decide_eq_false (by omega)
        simp -implicitDefEqProofs only [Option.getD, awp_skip, awp_label, awp_ret, awp_exit, awp_region, awp_seq, awp_block, awp_cond, aops_nil, aops_plain, aops_guard, later_normal, later_exit, later_ret, blockK_normal, blockK_exit, blockK_ret, regK_apply, aop, aLen, ev, slot, setSlot, putSlot, cv, cvl, aConv, aBin, aInt, aUn, aEq, Out.and, isBool, isPtr, true_and, and_true, List.length, IntKind.bits, evs, evo, evps, aCall, aUser, coes, coe, List.append, List.replicate, callOut, rootsL, AV.roots, lendsL, AV.lends, pinsOf, nodup, lendL, lend, closedB, noimmB, AV.noimm, AV.ren, renL, back, Nat.reduceAdd, Nat.reduceSub, Nat.reduceMul, Int.reduceToNat, Nat.le_refl, reduceCtorEq, false_implies, implies_true, List.nil_append, List.append_nil, List.cons_append, Nat.zero_le, Bool.false_eq_true, aLoad, subv, aIndexAddr, aIndex, TD.aggr, cond_false, cond_true, guardSlot, List.getElem?_cons_succ, List.getElem?_cons_zero, aPick, byte, word, aMin, aMax, Ax.Ends, EndsX, Ax.rvals, rone, AV.ids, idsL, newIds, upTo, pinHeap, gOf, ↓reduceIte, forall_const, List.isEmpty, ne_eq, not_false_eq_true, and_self, true_implies, AV.w.injEq, Value.int.injEq, Value.bool.injEq, IntKind.wrap_u8, IntKind.wrap_u64, IntKind.wrap_i64, Int.reducePow, Nat.reducePow, Nat.min_def, Int.reduceMod, Nat.reduceLeDiff, Int.reduceLE, Int.reduceNe, Int.reduceEq, aBuildSlice, fillB, aAppend, appendB, viewB, Ax.look, Ax.put, Ax.drop, List.drop, List.take, List.set_cons_zero, List.set_cons_succ, asv, aMake, aCopy, srcB, fillG, viewG, appendG, appendI, fillI, aSlice, bnd, bnds, full3, cut, aFieldAddr, aField, aLoad, aStore, setB, aBox, aBuild, fillS, allTy, AV.leaves, AV.okv, AV.leaf, one, splice, elemLeaves, Blk.size, Blk.len, List.replicate_succ, List.replicate_zero, Option.isSome, Option.isNone, isBytes, aStr, aNil, aAlloc, aExtract, aConv, viewI, Nat.reduceEqDiff, Nat.reduceLT, List.length_append, List.length_cons, List.length_nil, Nat.zero_add, Nat.add_zero, Nat.reduceBEq, List.contains, List.elem, Bool.not_true, Bool.not_false, Bool.true_and, Bool.and_true, Bool.and_false, Bool.false_and, Blk.closed, closedL, AV.closed, Blk.noimm, not_true_eq_false, not_false_iff, or_false, or_true, false_or, true_or, Int.toNat_natCast, List.length_replicate, setB, ↓gsplit_tt, ↓gsplit_ff, ↓gsplit_tf, ↓gsplit_ft, gsplit_bt, gsplit_bf, ↓csplit_t, ↓csplit_f, csplit_b, Ax.idx, beq_self_eq_true, BEq.rfl, pinsOf, List.mem_cons, List.not_mem_nil, AV.lentIds, lentIdsL, dropAll, givenUp, AV.clean, cleanL, Blk.clean, cleanB, quietC, flatTy, List.all_cons, List.all_nil, Bool.or_false, Bool.or_true, Bool.true_or, Bool.false_or, decide_true, decide_false, coldStr, notMs, eqV, eqF, isStruct, ty, Srbopen, bsealM, d1, hM, hE, hK', hB]
        exact nil_ends3 rfl rfl rfl rfl rfl rfl
    · have d1 : decide ((b.length : Int) = 64) = true := decide_eq_true (by omega)
      have d2 : decide ((M.toNat : Int) = 90) = true := decide_eq_true (by omega)
      have hK' : openK b = 0 := if_neg (by omega)
      have hB : openB b = [] := if_neg (by omega)
      have e0 : ((L.toNat : Int) + 9223372036854775808) % 18446744073709551616 - 9223372036854775808 = (L.toNat : Int) := by omega
      obtain ⟨N, hN⟩ : ∃ N, min L.toNat 61 = N := ⟨_, rfl⟩
      have em : (if (61 : Int) < (L.toNat : Int) then (61 : Int) else (L.toNat : Int)) = (N : Int) := by split <;> omega
      have e1 : (2 + (N : Int) + 9223372036854775808) % 18446744073709551616 - 9223372036854775808 = ((2 + N : Nat) : Int) := by omega
      obtain ⟨B, e2⟩ : ∃ B, List.take (2 + N - 2) (List.drop 2 b) = B := ⟨_, rfl⟩
      have hBl : B.length = N := by rw [← e2]; simp; omega
      have hne : sealB K.toNat B ≠ b := by
        intro h
        by_cases h61 : L.toNat ≤ 61
        · refine hno ⟨by rw [hL]; exact h61, ?_⟩
          rw [hK]
          have : bodyL b = B := by unfold bodyL; rw [hL, ← e2, show 2 + N - 2 = L.toNat by omega]
          rw [this]; exact h
        · have h0 : sealB K.toNat B = blkL (UInt8.ofNat (K.toNat : Int).toNat) B := by
            unfold sealB at h ⊢
            split at h
            · rename_i h0; rw [if_pos h0]
            · rw [← h] at h64; simp at h64
          rw [h0] at h
          have h1 : b.getD 1 0 = UInt8.ofNat B.length := by rw [← h]; rfl
          rw [hL] at h1
          have h2 := congrArg UInt8.toNat h1
          rw [UInt8.toNat_ofNat', hBl] at h2
          omega
      have et : List.take N B = B := List.take_of_length_le (by omega)
      by_cases hs : sealE K.toNat B = 0
      · have d4 : decide (sealE K.toNat B = 0) = true := decide_eq_true hs
        have d5 : decide (sealB K.toNat B = b) = false := decide_eq_false hne
        simp -implicitDefEqProofs only [Option.getD, awp_skip, awp_label, awp_ret, awp_exit, awp_region, awp_seq, awp_block, awp_cond, aops_nil, aops_plain, aops_guard, later_normal, later_exit, later_ret, blockK_normal, blockK_exit, blockK_ret, regK_apply, aop, aLen, ev, slot, setSlot, putSlot, cv, cvl, aConv, aBin, aInt, aUn, aEq, Out.and, isBool, isPtr, true_and, and_true, List.length, IntKind.bits, evs, evo, evps, aCall, aUser, coes, coe, List.append, List.replicate, callOut, rootsL, AV.roots, lendsL, AV.lends, pinsOf, nodup, lendL, lend, closedB, noimmB, AV.noimm, AV.ren, renL, back, Nat.reduceAdd, Nat.reduceSub, Nat.reduceMul, Int.reduceToNat, Nat.le_refl, reduceCtorEq, false_implies, implies_true, List.nil_append, List.append_nil, List.cons_append, Nat.zero_le, Bool.false_eq_true, aLoad, subv, aIndexAddr, aIndex, TD.aggr, cond_false, cond_true, guardSlot, List.getElem?_cons_succ, List.getElem?_cons_zero, aPick, byte, word, aMin, aMax, Ax.Ends, EndsX, Ax.rvals, rone, AV.ids, idsL, newIds, upTo, pinHeap, gOf, ↓reduceIte, forall_const, List.isEmpty, ne_eq, not_false_eq_true, and_self, true_implies, AV.w.injEq, Value.int.injEq, Value.bool.injEq, IntKind.wrap_u8, IntKind.wrap_u64, IntKind.wrap_i64, Int.reducePow, Nat.reducePow, Nat.min_def, Int.reduceMod, Nat.reduceLeDiff, Int.reduceLE, Int.reduceNe, Int.reduceEq, aBuildSlice, fillB, aAppend, appendB, viewB, Ax.look, Ax.put, Ax.drop, List.drop, List.take, List.set_cons_zero, List.set_cons_succ, asv, aMake, aCopy, srcB, fillG, viewG, appendG, appendI, fillI, aSlice, bnd, bnds, full3, cut, aFieldAddr, aField, aLoad, aStore, setB, aBox, aBuild, fillS, allTy, AV.leaves, AV.okv, AV.leaf, one, splice, elemLeaves, Blk.size, Blk.len, List.replicate_succ, List.replicate_zero, Option.isSome, Option.isNone, isBytes, aStr, aNil, aAlloc, aExtract, aConv, viewI, Nat.reduceEqDiff, Nat.reduceLT, List.length_append, List.length_cons, List.length_nil, Nat.zero_add, Nat.add_zero, Nat.reduceBEq, List.contains, List.elem, Bool.not_true, Bool.not_false, Bool.true_and, Bool.and_true, Bool.and_false, Bool.false_and, Blk.closed, closedL, AV.closed, Blk.noimm, not_true_eq_false, not_false_iff, or_false, or_true, false_or, true_or, Int.toNat_natCast, List.length_replicate, setB, ↓gsplit_tt, ↓gsplit_ff, ↓gsplit_tf, ↓gsplit_ft, gsplit_bt, gsplit_bf, ↓csplit_t, ↓csplit_f, csplit_b, Ax.idx, beq_self_eq_true, BEq.rfl, pinsOf, List.mem_cons, List.not_mem_nil, AV.lentIds, lentIdsL, dropAll, givenUp, AV.clean, cleanL, Blk.clean, cleanB, quietC, flatTy, List.all_cons, List.all_nil, Bool.or_false, Bool.or_true, Bool.true_or, Bool.false_or, decide_true, decide_false, coldStr, notMs, eqV, eqF, isStruct, ty, Srbopen, bsealM, d1, d2, d4, d5, hM, hL, hK, e0, em, e1, e2, hE, hK', hB, Int.toNat_natCast, hBl, et, List.take_length]
        have ht : top = 4294967296 := rfl
        repeat (refine And.intro (by omega) ?_)
        exact nil_ends3 rfl rfl rfl rfl rfl rfl
      · have d4 : decide (sealE K.toNat B = 0) = false := decide_eq_false hs
        simp -implicitDefEqProofs only [Option.getD, awp_skip, awp_label, awp_ret, awp_exit, awp_region, awp_seq, awp_block, awp_cond, aops_nil, aops_plain, aops_guard, later_normal, later_exit, later_ret, blockK_normal, blockK_exit, blockK_ret, regK_apply, aop, aLen, ev, slot, setSlot, putSlot, cv, cvl, aConv, aBin, aInt, aUn, aEq, Out.and, isBool, isPtr, true_and, and_true, List.length, IntKind.bits, evs, evo, evps, aCall, aUser, coes, coe, List.append, List.replicate, callOut, rootsL, AV.roots, lendsL, AV.lends, pinsOf, nodup, lendL, lend, closedB, noimmB, AV.noimm, AV.ren, renL, back, Nat.reduceAdd, Nat.reduceSub, Nat.reduceMul, Int.reduceToNat, Nat.le_refl, reduceCtorEq, false_implies, implies_true, List.nil_append, List.append_nil, List.cons_append, Nat.zero_le, Bool.false_eq_true, aLoad, subv, aIndexAddr, aIndex, TD.aggr, cond_false, cond_true, guardSlot, List.getElem?_cons_succ, List.getElem?_cons_zero, aPick, byte, word, aMin, aMax, Ax.Ends, EndsX, Ax.rvals, rone, AV.ids, idsL, newIds, upTo, pinHeap, gOf, ↓reduceIte, forall_const, List.isEmpty, ne_eq, not_false_eq_true, and_self, true_implies, AV.w.injEq, Value.int.injEq, Value.bool.injEq, IntKind.wrap_u8, IntKind.wrap_u64, IntKind.wrap_i64, Int.reducePow, Nat.reducePow, Nat.min_def, Int.reduceMod, Nat.reduceLeDiff, Int.reduceLE, Int.reduceNe, Int.reduceEq, aBuildSlice, fillB, aAppend, appendB, viewB, Ax.look, Ax.put, Ax.drop, List.drop, List.take, List.set_cons_zero, List.set_cons_succ, asv, aMake, aCopy, srcB, fillG, viewG, appendG, appendI, fillI, aSlice, bnd, bnds, full3, cut, aFieldAddr, aField, aLoad, aStore, setB, aBox, aBuild, fillS, allTy, AV.leaves, AV.okv, AV.leaf, one, splice, elemLeaves, Blk.size, Blk.len, List.replicate_succ, List.replicate_zero, Option.isSome, Option.isNone, isBytes, aStr, aNil, aAlloc, aExtract, aConv, viewI, Nat.reduceEqDiff, Nat.reduceLT, List.length_append, List.length_cons, List.length_nil, Nat.zero_add, Nat.add_zero, Nat.reduceBEq, List.contains, List.elem, Bool.not_true, Bool.not_false, Bool.true_and, Bool.and_true, Bool.and_false, Bool.false_and, Blk.closed, closedL, AV.closed, Blk.noimm, not_true_eq_false, not_false_iff, or_false, or_true, false_or, true_or, Int.toNat_natCast, List.length_replicate, setB, ↓gsplit_tt, ↓gsplit_ff, ↓gsplit_tf, ↓gsplit_ft, gsplit_bt, gsplit_bf, ↓csplit_t, ↓csplit_f, csplit_b, Ax.idx, beq_self_eq_true, BEq.rfl, pinsOf, List.mem_cons, List.not_mem_nil, AV.lentIds, lentIdsL, dropAll, givenUp, AV.clean, cleanL, Blk.clean, cleanB, quietC, flatTy, List.all_cons, List.all_nil, Bool.or_false, Bool.or_true, Bool.true_or, Bool.false_or, decide_true, decide_false, coldStr, notMs, eqV, eqF, isStruct, ty, Srbopen, bsealM, d1, d2, d4, hM, hL, hK, e0, em, e1, e2, hE, hK', hB, Int.toNat_natCast, hBl, et, List.take_length]
        have ht : top = 4294967296 := rfl
        repeat (refine And.intro (by omega) ?_)
        exact nil_ends3 rfl rfl rfl rfl rfl rfl
    · have d1 : decide ((b.length : Int) = 64) = true := decide_eq_true (by omega)
      have d2 : decide ((M.toNat : Int) = 90) = true := decide_eq_true (by omega)
      have hK' : openK b = K.toNat := by unfold openK; rw [if_pos hE, hK]
      have hB : openB b = bodyL b := if_pos hE
      have e0 : ((L.toNat : Int) + 9223372036854775808) % 18446744073709551616 - 9223372036854775808 = (L.toNat : Int) := by omega
      have e1 : (2 + (L.toNat : Int) + 9223372036854775808) % 18446744073709551616 - 9223372036854775808 = ((2 + L.toNat : Nat) : Int) := by omega
      obtain ⟨h61, hs⟩ := ho
      rw [hL] at h61
      rw [hK] at hs
      have em : (if (61 : Int) < (L.toNat : Int) then (61 : Int) else (L.toNat : Int)) = (L.toNat : Int) := by split <;> omega
      have e2 : List.take (2 + L.toNat - 2) (List.drop 2 b) = bodyL b := by rw [show 2 + L.toNat - 2 = L.toNat by omega]; unfold bodyL; rw [hL]
      have hbl := bodyL_length b h64 (by rw [hL]; exact h61)
      rw [hL] at hbl
      generalize bodyL b = B at *
      have h0 : sealE K.toNat B = 0 := by
        unfold sealB at hs
        split at hs
        · assumption
        · rw [← hs] at h64; simp at h64
      have d4 : decide (sealE K.toNat B = 0) = true := decide_eq_true h0
      have et : List.take L.toNat B = B := List.take_of_length_le (by omega)
      simp -implicitDefEqProofs only [Option.getD, awp_skip, awp_label, awp_ret, awp_exit, awp_region, awp_seq, awp_block, awp_cond, aops_nil, aops_plain, aops_guard, later_normal, later_exit, later_ret, blockK_normal, blockK_exit, blockK_ret, regK_apply, aop, aLen, ev, slot, setSlot, putSlot, cv, cvl, aConv, aBin, aInt, aUn, aEq, Out.and, isBool, isPtr, true_and, and_true, List.length, IntKind.bits, evs, evo, evps, aCall, aUser, coes, coe, List.append, List.replicate, callOut, rootsL, AV.roots, lendsL, AV.lends, pinsOf, nodup, lendL, lend, closedB, noimmB, AV.noimm, AV.ren, renL, back, Nat.reduceAdd, Nat.reduceSub, Nat.reduceMul, Int.reduceToNat, Nat.le_refl, reduceCtorEq, false_implies, implies_true, List.nil_append, List.append_nil, List.cons_append, Nat.zero_le, Bool.false_eq_true, aLoad, subv, aIndexAddr, aIndex, TD.aggr, cond_false, cond_true, guardSlot, List.getElem?_cons_succ, List.getElem?_cons_zero, aPick, byte, word, aMin, aMax, Ax.Ends, EndsX, Ax.rvals, rone, AV.ids, idsL, newIds, upTo, pinHeap, gOf, ↓reduceIte, forall_const, List.isEmpty, ne_eq, not_false_eq_true, and_self, true_implies, AV.w.injEq, Value.int.injEq, Value.bool.injEq, IntKind.wrap_u8, IntKind.wrap_u64, IntKind.wrap_i64, Int.reducePow, Nat.reducePow, Nat.min_def, Int.reduceMod, Nat.reduceLeDiff, Int.reduceLE, Int.reduceNe, Int.reduceEq, aBuildSlice, fillB, aAppend, appendB, viewB, Ax.look, Ax.put, Ax.drop, List.drop, List.take, List.set_cons_zero, List.set_cons_succ, asv, aMake, aCopy, srcB, fillG, viewG, appendG, appendI, fillI, aSlice, bnd, bnds, full3, cut, aFieldAddr, aField, aLoad, aStore, setB, aBox, aBuild, fillS, allTy, AV.leaves, AV.okv, AV.leaf, one, splice, elemLeaves, Blk.size, Blk.len, List.replicate_succ, List.replicate_zero, Option.isSome, Option.isNone, isBytes, aStr, aNil, aAlloc, aExtract, aConv, viewI, Nat.reduceEqDiff, Nat.reduceLT, List.length_append, List.length_cons, List.length_nil, Nat.zero_add, Nat.add_zero, Nat.reduceBEq, List.contains, List.elem, Bool.not_true, Bool.not_false, Bool.true_and, Bool.and_true, Bool.and_false, Bool.false_and, Blk.closed, closedL, AV.closed, Blk.noimm, not_true_eq_false, not_false_iff, or_false, or_true, false_or, true_or, Int.toNat_natCast, List.length_replicate, setB, ↓gsplit_tt, ↓gsplit_ff, ↓gsplit_tf, ↓gsplit_ft, gsplit_bt, gsplit_bf, ↓csplit_t, ↓csplit_f, csplit_b, Ax.idx, beq_self_eq_true, BEq.rfl, pinsOf, List.mem_cons, List.not_mem_nil, AV.lentIds, lentIdsL, dropAll, givenUp, AV.clean, cleanL, Blk.clean, cleanB, quietC, flatTy, List.all_cons, List.all_nil, Bool.or_false, Bool.or_true, Bool.true_or, Bool.false_or, decide_true, decide_false, coldStr, notMs, eqV, eqF, isStruct, ty, Srbopen, bsealM, d1, d2, d4, hs, hM, hL, hK, e0, em, e1, e2, hE, hK', hB, Int.toNat_natCast, hbl, et, List.take_length]
      have ht : top = 4294967296 := rfl
      repeat (refine And.intro (by omega) ?_)
      refine fz_ends3 rfl rfl rfl rfl ?_ rfl rfl rfl
      omega
  · exact hp.elim
set_option maxHeartbeats 1000000 in
theorem rbopenM_sound : Sound Try.prog 19 bopenM := by
  refine fn_soundW (S := Srbopen) (T := ty) mixed ty_ok Srbopen_ok Try.func19 (c := Try.f19.body.getD .skip) (by kernel_rfl) (by kernel_rfl) (fun xs pins hp _ => ?_)
  unfold bopenM at hp ⊢
  split at hp
  · rename_i b f _
    have hlen : b.length ≤ 1000000 := hp
    refine ⟨by simp, ?_⟩
    unfold Try.f19
    obtain ⟨M, hM⟩ : ∃ M, b.getD 63 0 = M := ⟨_, rfl⟩
    obtain ⟨L, hL⟩ : ∃ L, b.getD 1 0 = L := ⟨_, rfl⟩
    obtain ⟨K, hK⟩ : ∃ K, b.getD 0 0 = K := ⟨_, rfl⟩
    have hMl := M.toNat_lt
    have hLl := L.toNat_lt
    have hKl := K.toNat_lt
    have hc := openE_cases b
    rw [hM] at hc
    rcases hc with ⟨hn, hE⟩ | ⟨h64, hm, hno, hE⟩ | ⟨h64, hm, ho, hE⟩
    · have hK' : openK b = 0 := if_neg (by omega)
      have hB : openB b = [] := if_neg (by omega)
      by_cases h64 : b.length = 64
      · have d1 : decide ((b.length : Int) = 64) = true := decide_eq_true (by omega)
        have d2 : decide ((M.toNat : Int) = 90) = false := decide_eq_false (by omega)
        simp -implicitDefEqProofs only [Option.getD, awp_skip, awp_label, awp_ret, awp_exit, awp_region, awp_seq, awp_block, awp_cond, aops_nil, aops_plain, aops_guard, later_normal, later_exit, later_ret, blockK_normal, blockK_exit, blockK_ret, regK_apply, aop, aLen, ev, slot, setSlot, putSlot, cv, cvl, aConv, aBin, aInt, aUn, aEq, Out.and, isBool, isPtr, true_and, and_true, List.length, IntKind.bits, evs, evo, evps, aCall, aUser, coes, coe, List.append, List.replicate, callOut, rootsL, AV.roots, lendsL, AV.lends, pinsOf, nodup, lendL, lend, closedB, noimmB, AV.noimm, AV.ren, renL, back, Nat.reduceAdd, Nat.reduceSub, Nat.reduceMul, Int.reduceToNat, Nat.le_refl, reduceCtorEq, false_implies, implies_true, List.nil_append, List.append_nil, List.cons_append, Nat.zero_le, Bool.false_eq_true, aLoad, subv, aIndexAddr, aIndex, TD.aggr, cond_false, cond_true, guardSlot, List.getElem?_cons_succ, List.getElem?_cons_zero, aPick, byte, word, aMin, aMax, Ax.Ends, EndsX, Ax.rvals, rone, AV.ids, idsL, newIds, upTo, pinHeap, gOf, ↓reduceIte, forall_const, List.isEmpty, ne_eq, not_false_eq_true, and_self, true_implies, AV.w.injEq, Value.int.injEq, Value.bool.injEq, IntKind.wrap_u8, IntKind.wrap_u64, IntKind.wrap_i64, Int.reducePow, Nat.reducePow, Nat.min_def, Int.reduceMod, Nat.reduceLeDiff, Int.reduceLE, Int.reduceNe, Int.reduceEq, aBuildSlice, fillB, aAppend, appendB, viewB, Ax.look, Ax.put, Ax.drop, List.drop, List.take, List.set_cons_zero, List.set_cons_succ, asv, aMake, aCopy, srcB, fillG, viewG, appendG, appendI, fillI, aSlice, bnd, bnds, full3, cut, aFieldAddr, aField, aLoad, aStore, setB, aBox, aBuild, fillS, allTy, AV.leaves, AV.okv, AV.leaf, one, splice, elemLeaves, Blk.size, Blk.len, List.replicate_succ, List.replicate_zero, Option.isSome, Option.isNone, isBytes, aStr, aNil, aAlloc, aExtract, aConv, viewI, Nat.reduceEqDiff, Nat.reduceLT, List.length_append, List.length_cons, List.length_nil, Nat.zero_add, Nat.add_zero, Nat.reduceBEq, List.contains, List.elem, Bool.not_true, Bool.not_false, Bool.true_and, Bool.and_true, Bool.and_false, Bool.false_and, Blk.closed, closedL, AV.closed, Blk.noimm, not_true_eq_false, not_false_iff, or_false, or_true, false_or, true_or, Int.toNat_natCast, List.length_replicate, setB, ↓gsplit_tt, ↓gsplit_ff, ↓gsplit_tf, ↓gsplit_ft, gsplit_bt, gsplit_bf, ↓csplit_t, ↓csplit_f, csplit_b, Ax.idx, beq_self_eq_true, BEq.rfl, pinsOf, List.mem_cons, List.not_mem_nil, AV.lentIds, lentIdsL, dropAll, givenUp, AV.clean, cleanL, Blk.clean, cleanB, quietC, flatTy, List.all_cons, List.all_nil, Bool.or_false, Bool.or_true, Bool.true_or, Bool.false_or, decide_true, decide_false, coldStr, notMs, eqV, eqF, isStruct, ty, Srbopen, bsealM, d1, d2, hM, hE, hK', hB]
        exact ⟨by omega, msnil_ends3 rfl rfl rfl rfl rfl rfl⟩
      · have d1 : decide ((b.length : Int) = 64) = false := decide_eq_false (by omega)
        simp -implicitDefEqProofs only [Option.getD, awp_skip, awp_label, awp_ret, awp_exit, awp_region, awp_seq, awp_block, awp_cond, aops_nil, aops_plain, aops_guard, later_normal, later_exit, later_ret, blockK_normal, blockK_exit, blockK_ret, regK_apply, aop, aLen, ev, slot, setSlot, putSlot, cv, cvl, aConv, aBin, aInt, aUn, aEq, Out.and, isBool, isPtr, true_and, and_true, List.length, IntKind.bits, evs, evo, evps, aCall, aUser, coes, coe, List.append, List.replicate, callOut, rootsL, AV.roots, lendsL, AV.lends, pinsOf, nodup, lendL, lend, closedB, noimmB, AV.noimm, AV.ren, renL, back, Nat.reduceAdd, Nat.reduceSub, Nat.reduceMul, Int.reduceToNat, Nat.le_refl, reduceCtorEq, false_implies, implies_true, List.nil_append, List.append_nil, List.cons_append, Nat.zero_le, Bool.false_eq_true, aLoad, subv, aIndexAddr, aIndex, TD.aggr, cond_false, cond_true, guardSlot, List.getElem?_cons_succ, List.getElem?_cons_zero, aPick, byte, word, aMin, aMax, Ax.Ends, EndsX, Ax.rvals, rone, AV.ids, idsL, newIds, upTo, pinHeap, gOf, ↓reduceIte, forall_const, List.isEmpty, ne_eq, not_false_eq_true, and_self, true_implies, AV.w.injEq, Value.int.injEq, Value.bool.injEq, IntKind.wrap_u8, IntKind.wrap_u64, IntKind.wrap_i64, Int.reducePow, Nat.reducePow, Nat.min_def, Int.reduceMod, Nat.reduceLeDiff, Int.reduceLE, Int.reduceNe, Int.reduceEq, aBuildSlice, fillB, aAppend, appendB, viewB, Ax.look, Ax.put, Ax.drop, List.drop, List.take, List.set_cons_zero, List.set_cons_succ, asv, aMake, aCopy, srcB, fillG, viewG, appendG, appendI, fillI, aSlice, bnd, bnds, full3, cut, aFieldAddr, aField, aLoad, aStore, setB, aBox, aBuild, fillS, allTy, AV.leaves, AV.okv, AV.leaf, one, splice, elemLeaves, Blk.size, Blk.len, List.replicate_succ, List.replicate_zero, Option.isSome, Option.isNone, isBytes, aStr, aNil, aAlloc, aExtract, aConv, viewI, Nat.reduceEqDiff, Nat.reduceLT, List.length_append, List.length_cons, List.length_nil, Nat.zero_add, Nat.add_zero, Nat.reduceBEq, List.contains, List.elem, Bool.not_true, Bool.not_false, Bool.true_and, Bool.and_true, Bool.and_false, Bool.false_and, Blk.closed, closedL, AV.closed, Blk.noimm, not_true_eq_false, not_false_iff, or_false, or_true, false_or, true_or, Int.toNat_natCast, List.length_replicate, setB, ↓gsplit_tt, ↓gsplit_ff, ↓gsplit_tf, ↓gsplit_ft, gsplit_bt, gsplit_bf, ↓csplit_t, ↓csplit_f, csplit_b, Ax.idx, beq_self_eq_true, BEq.rfl, pinsOf, List.mem_cons, List.not_mem_nil, AV.lentIds, lentIdsL, dropAll, givenUp, AV.clean, cleanL, Blk.clean, cleanB, quietC, flatTy, List.all_cons, List.all_nil, Bool.or_false, Bool.or_true, Bool.true_or, Bool.false_or, decide_true, decide_false, coldStr, notMs, eqV, eqF, isStruct, ty, Srbopen, bsealM, d1, hM, hE, hK', hB]
        exact msnil_ends3 rfl rfl rfl rfl rfl rfl
    · have d1 : decide ((b.length : Int) = 64) = true := decide_eq_true (by omega)
      have d2 : decide ((M.toNat : Int) = 90) = true := decide_eq_true (by omega)
      have hK' : openK b = 0 := if_neg (by omega)
      have hB : openB b = [] := if_neg (by omega)
      have e0 : ((L.toNat : Int) + 9223372036854775808) % 18446744073709551616 - 9223372036854775808 = (L.toNat : Int) := by omega
      obtain ⟨N, hN⟩ : ∃ N, min L.toNat 61 = N := ⟨_, rfl⟩
      have em : (if (61 : Int) < (L.toNat : Int) then (61 : Int) else (L.toNat : Int)) = (N : Int) := by split <;> omega
      have e1 : (2 + (N : Int) + 9223372036854775808) % 18446744073709551616 - 9223372036854775808 = ((2 + N : Nat) : Int) := by omega
      obtain ⟨B, e2⟩ : ∃ B, List.take (2 + N - 2) (List.drop 2 b) = B := ⟨_, rfl⟩
      have hBl : B.length = N := by rw [← e2]; simp; omega
      have hne : sealB K.toNat B ≠ b := by
        intro h
        by_cases h61 : L.toNat ≤ 61
        · refine hno ⟨by rw [hL]; exact h61, ?_⟩
          rw [hK]
          have : bodyL b = B := by unfold bodyL; rw [hL, ← e2, show 2 + N - 2 = L.toNat by omega]
          rw [this]; exact h
        · have h0 : sealB K.toNat B = blkL (UInt8.ofNat (K.toNat : Int).toNat) B := by
            unfold sealB at h ⊢
            split at h
            · rename_i h0; rw [if_pos h0]
            · rw [← h] at h64; simp at h64
          rw [h0] at h
          have h1 : b.getD 1 0 = UInt8.ofNat B.length := by rw [← h]; rfl
          rw [hL] at h1
          have h2 := congrArg UInt8.toNat h1
          rw [UInt8.toNat_ofNat', hBl] at h2
          omega
      have et : List.take N B = B := List.take_of_length_le (by omega)
      by_cases hs : sealE K.toNat B = 0
      · have d4 : decide (sealE K.toNat B = 0) = true := decide_eq_true hs
        have d5 : decide (sealB K.toNat B = b) = false := decide_eq_false hne
        simp -implicitDefEqProofs only [Option.getD, awp_skip, awp_label, awp_ret, awp_exit, awp_region, awp_seq, awp_block, awp_cond, aops_nil, aops_plain, aops_guard, later_normal, later_exit, later_ret, blockK_normal, blockK_exit, blockK_ret, regK_apply, aop, aLen, ev, slot, setSlot, putSlot, cv, cvl, aConv, aBin, aInt, aUn, aEq, Out.and, isBool, isPtr, true_and, and_true, List.length, IntKind.bits, evs, evo, evps, aCall, aUser, coes, coe, List.append, List.replicate, callOut, rootsL, AV.roots, lendsL, AV.lends, pinsOf, nodup, lendL, lend, closedB, noimmB, AV.noimm, AV.ren, renL, back, Nat.reduceAdd, Nat.reduceSub, Nat.reduceMul, Int.reduceToNat, Nat.le_refl, reduceCtorEq, false_implies, implies_true, List.nil_append, List.append_nil, List.cons_append, Nat.zero_le, Bool.false_eq_true, aLoad, subv, aIndexAddr, aIndex, TD.aggr, cond_false, cond_true, guardSlot, List.getElem?_cons_succ, List.getElem?_cons_zero, aPick, byte, word, aMin, aMax, Ax.Ends, EndsX, Ax.rvals, rone, AV.ids, idsL, newIds, upTo, pinHeap, gOf, ↓reduceIte, forall_const, List.isEmpty, ne_eq, not_false_eq_true, and_self, true_implies, AV.w.injEq, Value.int.injEq, Value.bool.injEq, IntKind.wrap_u8, IntKind.wrap_u64, IntKind.wrap_i64, Int.reducePow, Nat.reducePow, Nat.min_def, Int.reduceMod, Nat.reduceLeDiff, Int.reduceLE, Int.reduceNe, Int.reduceEq, aBuildSlice, fillB, aAppend, appendB, viewB, Ax.look, Ax.put, Ax.drop, List.drop, List.take, List.set_cons_zero, List.set_cons_succ, asv, aMake, aCopy, srcB, fillG, viewG, appendG, appendI, fillI, aSlice, bnd, bnds, full3, cut, aFieldAddr, aField, aLoad, aStore, setB, aBox, aBuild, fillS, allTy, AV.leaves, AV.okv, AV.leaf, one, splice, elemLeaves, Blk.size, Blk.len, List.replicate_succ, List.replicate_zero, Option.isSome, Option.isNone, isBytes, aStr, aNil, aAlloc, aExtract, aConv, viewI, Nat.reduceEqDiff, Nat.reduceLT, List.length_append, List.length_cons, List.length_nil, Nat.zero_add, Nat.add_zero, Nat.reduceBEq, List.contains, List.elem, Bool.not_true, Bool.not_false, Bool.true_and, Bool.and_true, Bool.and_false, Bool.false_and, Blk.closed, closedL, AV.closed, Blk.noimm, not_true_eq_false, not_false_iff, or_false, or_true, false_or, true_or, Int.toNat_natCast, List.length_replicate, setB, ↓gsplit_tt, ↓gsplit_ff, ↓gsplit_tf, ↓gsplit_ft, gsplit_bt, gsplit_bf, ↓csplit_t, ↓csplit_f, csplit_b, Ax.idx, beq_self_eq_true, BEq.rfl, pinsOf, List.mem_cons, List.not_mem_nil, AV.lentIds, lentIdsL, dropAll, givenUp, AV.clean, cleanL, Blk.clean, cleanB, quietC, flatTy, List.all_cons, List.all_nil, Bool.or_false, Bool.or_true, Bool.true_or, Bool.false_or, decide_true, decide_false, coldStr, notMs, eqV, eqF, isStruct, ty, Srbopen, bsealM, d1, d2, d4, d5, hM, hL, hK, e0, em, e1, e2, hE, hK', hB, Int.toNat_natCast, hBl, et, List.take_length]
        have ht : top = 4294967296 := rfl
        repeat (refine And.intro (by omega) ?_)
        exact msnil_ends3 rfl rfl rfl rfl rfl rfl
      · have d4 : decide (sealE K.toNat B = 0) = false := decide_eq_false hs
        simp -implicitDefEqProofs only [Option.getD, awp_skip, awp_label, awp_ret, awp_exit, awp_region, awp_seq, awp_block, awp_cond, aops_nil, aops_plain, aops_guard, later_normal, later_exit, later_ret, blockK_normal, blockK_exit, blockK_ret, regK_apply, aop, aLen, ev, slot, setSlot, putSlot, cv, cvl, aConv, aBin, aInt, aUn, aEq, Out.and, isBool, isPtr, true_and, and_true, List.length, IntKind.bits, evs, evo, evps, aCall, aUser, coes, coe, List.append, List.replicate, callOut, rootsL, AV.roots, lendsL, AV.lends, pinsOf, nodup, lendL, lend, closedB, noimmB, AV.noimm, AV.ren, renL, back, Nat.reduceAdd, Nat.reduceSub, Nat.reduceMul, Int.reduceToNat, Nat.le_refl, reduceCtorEq, false_implies, implies_true, List.nil_append, List.append_nil, List.cons_append, Nat.zero_le, Bool.false_eq_true, aLoad, subv, aIndexAddr, aIndex, TD.aggr, cond_false, cond_true, guardSlot, List.getElem?_cons_succ, List.getElem?_cons_zero, aPick, byte, word, aMin, aMax, Ax.Ends, EndsX, Ax.rvals, rone, AV.ids, idsL, newIds, upTo, pinHeap, gOf, ↓reduceIte, forall_const, List.isEmpty, ne_eq, not_false_eq_true, and_self, true_implies, AV.w.injEq, Value.int.injEq, Value.bool.injEq, IntKind.wrap_u8, IntKind.wrap_u64, IntKind.wrap_i64, Int.reducePow, Nat.reducePow, Nat.min_def, Int.reduceMod, Nat.reduceLeDiff, Int.reduceLE, Int.reduceNe, Int.reduceEq, aBuildSlice, fillB, aAppend, appendB, viewB, Ax.look, Ax.put, Ax.drop, List.drop, List.take, List.set_cons_zero, List.set_cons_succ, asv, aMake, aCopy, srcB, fillG, viewG, appendG, appendI, fillI, aSlice, bnd, bnds, full3, cut, aFieldAddr, aField, aLoad, aStore, setB, aBox, aBuild, fillS, allTy, AV.leaves, AV.okv, AV.leaf, one, splice, elemLeaves, Blk.size, Blk.len, List.replicate_succ, List.replicate_zero, Option.isSome, Option.isNone, isBytes, aStr, aNil, aAlloc, aExtract, aConv, viewI, Nat.reduceEqDiff, Nat.reduceLT, List.length_append, List.length_cons, List.length_nil, Nat.zero_add, Nat.add_zero, Nat.reduceBEq, List.contains, List.elem, Bool.not_true, Bool.not_false, Bool.true_and, Bool.and_true, Bool.and_false, Bool.false_and, Blk.closed, closedL, AV.closed, Blk.noimm, not_true_eq_false, not_false_iff, or_false, or_true, false_or, true_or, Int.toNat_natCast, List.length_replicate, setB, ↓gsplit_tt, ↓gsplit_ff, ↓gsplit_tf, ↓gsplit_ft, gsplit_bt, gsplit_bf, ↓csplit_t, ↓csplit_f, csplit_b, Ax.idx, beq_self_eq_true, BEq.rfl, pinsOf, List.mem_cons, List.not_mem_nil, AV.lentIds, lentIdsL, dropAll, givenUp, AV.clean, cleanL, Blk.clean, cleanB, quietC, flatTy, List.all_cons, List.all_nil, Bool.or_false, Bool.or_true, Bool.true_or, Bool.false_or, decide_true, decide_false, coldStr, notMs, eqV, eqF, isStruct, ty, Srbopen, bsealM, d1, d2, d4, hM, hL, hK, e0, em, e1, e2, hE, hK', hB, Int.toNat_natCast, hBl, et, List.take_length]
        have ht : top = 4294967296 := rfl
        repeat (refine And.intro (by omega) ?_)
        exact msnil_ends3 rfl rfl rfl rfl rfl rfl
    · have d1 : decide ((b.length : Int) = 64) = true := decide_eq_true (by omega)
      have d2 : decide ((M.toNat : Int) = 90) = true := decide_eq_true (by omega)
      have hK' : openK b = K.toNat := by unfold openK; rw [if_pos hE, hK]
      have hB : openB b = bodyL b := if_pos hE
      have e0 : ((L.toNat : Int) + 9223372036854775808) % 18446744073709551616 - 9223372036854775808 = (L.toNat : Int) := by omega
      have e1 : (2 + (L.toNat : Int) + 9223372036854775808) % 18446744073709551616 - 9223372036854775808 = ((2 + L.toNat : Nat) : Int) := by omega
      obtain ⟨h61, hs⟩ := ho
      rw [hL] at h61
      rw [hK] at hs
      have em : (if (61 : Int) < (L.toNat : Int) then (61 : Int) else (L.toNat : Int)) = (L.toNat : Int) := by split <;> omega
      have e2 : List.take (2 + L.toNat - 2) (List.drop 2 b) = bodyL b := by rw [show 2 + L.toNat - 2 = L.toNat by omega]; unfold bodyL; rw [hL]
      have hbl := bodyL_length b h64 (by rw [hL]; exact h61)
      rw [hL] at hbl
      generalize bodyL b = B at *
      have h0 : sealE K.toNat B = 0 := by
        unfold sealB at hs
        split at hs
        · assumption
        · rw [← hs] at h64; simp at h64
      have d4 : decide (sealE K.toNat B = 0) = true := decide_eq_true h0
      have et : List.take L.toNat B = B := List.take_of_length_le (by omega)
      simp -implicitDefEqProofs only [Option.getD, awp_skip, awp_label, awp_ret, awp_exit, awp_region, awp_seq, awp_block, awp_cond, aops_nil, aops_plain, aops_guard, later_normal, later_exit, later_ret, blockK_normal, blockK_exit, blockK_ret, regK_apply, aop, aLen, ev, slot, setSlot, putSlot, cv, cvl, aConv, aBin, aInt, aUn, aEq, Out.and, isBool, isPtr, true_and, and_true, List.length, IntKind.bits, evs, evo, evps, aCall, aUser, coes, coe, List.append, List.replicate, callOut, rootsL, AV.roots, lendsL, AV.lends, pinsOf, nodup, lendL, lend, closedB, noimmB, AV.noimm, AV.ren, renL, back, Nat.reduceAdd, Nat.reduceSub, Nat.reduceMul, Int.reduceToNat, Nat.le_refl, reduceCtorEq, false_implies, implies_true, List.nil_append, List.append_nil, List.cons_append, Nat.zero_le, Bool.false_eq_true, aLoad, subv, aIndexAddr, aIndex, TD.aggr, cond_false, cond_true, guardSlot, List.getElem?_cons_succ, List.getElem?_cons_zero, aPick, byte, word, aMin, aMax, Ax.Ends, EndsX, Ax.rvals, rone, AV.ids, idsL, newIds, upTo, pinHeap, gOf, ↓reduceIte, forall_const, List.isEmpty, ne_eq, not_false_eq_true, and_self, true_implies, AV.w.injEq, Value.int.injEq, Value.bool.injEq, IntKind.wrap_u8, IntKind.wrap_u64, IntKind.wrap_i64, Int.reducePow, Nat.reducePow, Nat.min_def, Int.reduceMod, Nat.reduceLeDiff, Int.reduceLE, Int.reduceNe, Int.reduceEq, aBuildSlice, fillB, aAppend, appendB, viewB, Ax.look, Ax.put, Ax.drop, List.drop, List.take, List.set_cons_zero, List.set_cons_succ, asv, aMake, aCopy, srcB, fillG, viewG, appendG, appendI, fillI, aSlice, bnd, bnds, full3, cut, aFieldAddr, aField, aLoad, aStore, setB, aBox, aBuild, fillS, allTy, AV.leaves, AV.okv, AV.leaf, one, splice, elemLeaves, Blk.size, Blk.len, List.replicate_succ, List.replicate_zero, Option.isSome, Option.isNone, isBytes, aStr, aNil, aAlloc, aExtract, aConv, viewI, Nat.reduceEqDiff, Nat.reduceLT, List.length_append, List.length_cons, List.length_nil, Nat.zero_add, Nat.add_zero, Nat.reduceBEq, List.contains, List.elem, Bool.not_true, Bool.not_false, Bool.true_and, Bool.and_true, Bool.and_false, Bool.false_and, Blk.closed, closedL, AV.closed, Blk.noimm, not_true_eq_false, not_false_iff, or_false, or_true, false_or, true_or, Int.toNat_natCast, List.length_replicate, setB, ↓gsplit_tt, ↓gsplit_ff, ↓gsplit_tf, ↓gsplit_ft, gsplit_bt, gsplit_bf, ↓csplit_t, ↓csplit_f, csplit_b, Ax.idx, beq_self_eq_true, BEq.rfl, pinsOf, List.mem_cons, List.not_mem_nil, AV.lentIds, lentIdsL, dropAll, givenUp, AV.clean, cleanL, Blk.clean, cleanB, quietC, flatTy, List.all_cons, List.all_nil, Bool.or_false, Bool.or_true, Bool.true_or, Bool.false_or, decide_true, decide_false, coldStr, notMs, eqV, eqF, isStruct, ty, Srbopen, bsealM, d1, d2, d4, hs, hM, hL, hK, e0, em, e1, e2, hE, hK', hB, Int.toNat_natCast, hbl, et, List.take_length]
      have ht : top = 4294967296 := rfl
      repeat (refine And.intro (by omega) ?_)
      refine ms_ends3 rfl rfl rfl rfl ?_ rfl rfl rfl ?_ <;> omega
  · exact hp.elim
end
end Go.Proofs.Ytgkkgbomhfdbkaa
