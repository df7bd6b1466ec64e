/- Layer 5: bytes are laid in blocks. -/
import Derived.Test.YtgkkgbomhfdbkaaK4
namespace Go.Proofs.Ytgkkgbomhfdbkaa
open Ax
set_option linter.unusedSimpArgs false
set_option linter.unusedVariables false

def moreL : Nat → List UInt8 → List (List UInt8)
  | 0, _ => []
  | n + 1, b => if b = [] then [] else blkL 2 (b.take 61) :: moreL n (b.drop 61)
def moreF (b : List UInt8) : List (List UInt8) := moreL b.length b
/-- The blocks of bytes. -/
def layL (b : List UInt8) : List (List UInt8) := blkL 1 (b.take 61) :: moreF (b.drop 61)
theorem moreL_fuel : ∀ (n m : Nat) (b : List UInt8), b.length ≤ n → b.length ≤ m → moreL n b = moreL m b
  | 0, 0, b, _, _ => rfl
  | 0, m + 1, b, h, _ => by
    have : b = [] := List.length_eq_zero_iff.1 (by omega)
    subst this; rfl
  | n + 1, 0, b, _, h => by
    have : b = [] := List.length_eq_zero_iff.1 (by omega)
    subst this; rfl
  | n + 1, m + 1, b, h1, h2 => by
    unfold moreL
    by_cases hb : b = []
    · rw [if_pos hb, if_pos hb]
    · rw [if_neg hb, if_neg hb]
      have hpos := List.length_pos_iff.2 hb
      rw [moreL_fuel n m (b.drop 61) (by rw [List.length_drop]; omega) (by rw [List.length_drop]; omega)]
theorem moreF_nil : moreF [] = [] := rfl
theorem moreF_cons {b : List UInt8} (h : b ≠ []) : moreF b = blkL 2 (b.take 61) :: moreF (b.drop 61) := by
  unfold moreF
  have hpos := List.length_pos_iff.2 h
  obtain ⟨n, hn⟩ : ∃ n, b.length = n + 1 := ⟨b.length - 1, by omega⟩
  rw [hn]
  conv => lhs; unfold moreL
  rw [if_neg h, moreL_fuel n (b.drop 61).length (b.drop 61) (by rw [List.length_drop]; omega) (Nat.le_refl _)]
def tailK (k : Int) (r : List UInt8) : List (List UInt8) := if k = 1 then layL r else moreF r
def sbF (x : List UInt8) : AV := .sb x false
def blayS : FSpec
  | [.sb b _], [] => ⟨b.length ≤ 1000000, .ms 0 1 0 (layL b).length, [.g 1 ((layL b).map sbF)]⟩
  | _, _ => noRes
theorem closed_sbF : ∀ (G : List (List UInt8)), closedL (G.map sbF) = true
  | [] => rfl
  | x :: r => by simp only [List.map_cons, closedL, sbF, AV.closed, Bool.true_and]; exact closed_sbF r
theorem ren_sbF (g : Nat → Nat) : ∀ (G : List (List UInt8)), renL g (G.map sbF) = G.map sbF
  | [] => rfl
  | x :: r => by simp only [List.map_cons, renL, ren_sbF g r]; rfl
theorem tail_next (k : Int) (r : List UInt8) (hk : k = 1 ∨ k = 2) (h : k = 1 ∨ r ≠ []) : tailK k r = blkL (UInt8.ofNat k.toNat) (r.take 61) :: tailK 2 (r.drop 61) := by
  unfold tailK
  rcases hk with rfl | rfl
  · rfl
  · rw [if_neg (by decide), if_neg (by decide), moreF_cons (h.resolve_left (by decide))]; rfl
theorem sealB_take (k : Int) (r : List UInt8) (hk : k = 1 ∨ k = 2) : sealB k (r.take 61) = blkL (UInt8.ofNat k.toNat) (r.take 61) := by
  unfold sealB
  rcases sealE_cases k (r.take 61) with ⟨h, _⟩ | ⟨_, h, _⟩ | ⟨_, _, h⟩
  · exact (h hk).elim
  · exact (h (by rw [List.length_take]; omega)).elim
  · rw [if_pos h]

section
set_option maxRecDepth 100000
def Sblay (f : FuncId) : Option FSpec :=
  match f with
  | 16 => some bsealS
  | _ => none
theorem Sblay_ok : Fns Try.prog Sblay := by
  intro f s h
  unfold Sblay at h
  split at h
  · injection h with h; subst h; exact ⟨⟨_, Try.func16, by kernel_rfl, by kernel_rfl⟩, bseal_sound⟩
  · cases h
def Srblay (f : FuncId) : Option FSpec :=
  match f with
  | 17 => some bsealS
  | _ => none
theorem Srblay_ok : Fns Try.prog Srblay := by
  intro f s h
  unfold Srblay at h
  split at h
  · injection h with h; subst h; exact ⟨⟨_, Try.func17, by kernel_rfl, by kernel_rfl⟩, rbseal_sound⟩
  · cases h
set_option maxHeartbeats 1000000 in
theorem blay_sound : Sound Try.prog 20 blayS := by
  refine fn_sound (S := Sblay) (T := ty) mixed ty_ok Sblay_ok Try.func20 (c := Try.f20.body.getD .skip) (by kernel_rfl) (by kernel_rfl) (fun xs pins hp _ => ?_)
  unfold blayS at hp ⊢
  split at hp
  · rename_i b f _
    have hL : b.length ≤ 1000000 := hp
    refine ⟨by simp, ?_⟩
    have ht : top = 4294967296 := rfl
    unfold Try.f20
    simp -implicitDefEqProofs only [Option.getD, awp_skip, awp_label, awp_ret, awp_exit, awp_region, awp_seq, awp_block, awp_cond, aops_nil, aops_plain, aops_guard, later_normal, later_exit, later_ret, blockK_normal, blockK_exit, blockK_ret, regK_apply, aop, aLen, ev, slot, setSlot, putSlot, cv, cvl, aConv, aBin, aInt, aUn, aEq, Out.and, isBool, isPtr, true_and, and_true, List.length, IntKind.bits, evs, evo, evps, aCall, aUser, coes, coe, List.append, List.replicate, callOut, rootsL, AV.roots, lendsL, AV.lends, pinsOf, nodup, lendL, lend, closedB, noimmB, AV.noimm, AV.ren, renL, back, Nat.reduceAdd, Nat.reduceSub, Nat.reduceMul, Int.reduceToNat, Nat.le_refl, reduceCtorEq, false_implies, implies_true, List.nil_append, List.append_nil, List.cons_append, Nat.zero_le, Bool.false_eq_true, aLoad, subv, aIndexAddr, aIndex, TD.aggr, cond_false, cond_true, guardSlot, List.getElem?_cons_succ, List.getElem?_cons_zero, aPick, byte, word, aMin, aMax, Ax.Ends, EndsX, Ax.rvals, rone, AV.ids, idsL, newIds, upTo, pinHeap, gOf, ↓reduceIte, forall_const, List.isEmpty, ne_eq, not_false_eq_true, and_self, true_implies, AV.w.injEq, Value.int.injEq, Value.bool.injEq, IntKind.wrap_u8, IntKind.wrap_u64, IntKind.wrap_i64, Int.reducePow, Nat.reducePow, Nat.min_def, Int.reduceMod, Nat.reduceLeDiff, Int.reduceLE, Int.reduceNe, Int.reduceEq, aBuildSlice, fillB, aAppend, appendB, viewB, Ax.look, Ax.put, Ax.drop, List.drop, List.take, List.set_cons_zero, List.set_cons_succ, asv, aMake, aCopy, srcB, fillG, viewG, appendG, appendI, fillI, aSlice, bnd, bnds, full3, cut, aFieldAddr, aField, aLoad, aStore, setB, aBox, aBuild, fillS, allTy, AV.leaves, AV.okv, AV.leaf, one, splice, elemLeaves, Blk.size, Blk.len, List.replicate_succ, List.replicate_zero, Option.isSome, Option.isNone, isBytes, aStr, aNil, aAlloc, aExtract, aConv, viewI, Nat.reduceEqDiff, Nat.reduceLT, List.length_append, List.length_cons, List.length_nil, Nat.zero_add, Nat.add_zero, Nat.reduceBEq, List.contains, List.elem, Bool.not_true, Bool.not_false, Bool.true_and, Bool.and_true, Bool.and_false, Bool.false_and, Blk.closed, closedL, AV.closed, Blk.noimm, not_true_eq_false, not_false_iff, or_false, or_true, false_or, true_or, Int.toNat_natCast, List.length_replicate, setB, ↓gsplit_tt, ↓gsplit_ff, ↓gsplit_tf, ↓gsplit_ft, gsplit_bt, gsplit_bf, ↓csplit_t, ↓csplit_f, csplit_b, Ax.idx, beq_self_eq_true, BEq.rfl, pinsOf, List.mem_cons, List.not_mem_nil, AV.lentIds, lentIdsL, dropAll, givenUp, AV.clean, cleanL, Blk.clean, cleanB, quietC, flatTy, List.all_cons, List.all_nil, Bool.or_false, Bool.or_true, Bool.true_or, Bool.false_or, decide_true, decide_false, coldStr, notMs, eqV, eqF, isStruct, ty, Sblay]
    refine awp_loop ⟨fun m σ => ∃ (k : Int) (r : List UInt8) (g : Bool) (G : List (List UInt8)), m = r.length + (if k = 1 then 1 else 0) ∧ (k = 1 ∨ k = 2) ∧ r.length + G.length + (if k = 1 then 1 else 0) ≤ 1000001 ∧ layL b = G ++ tailK k r ∧
        σ = ⟨[.sb r g, .junk, .junk, .ms 4 1 0 G.length, .w (.int .u8 k), .junk, .junk, .junk, .junk, .junk, .junk, .junk, .junk, .junk, .junk, .junk, .junk, .junk, .junk, .junk, .junk, .junk, .junk, .junk, .junk, .junk, .junk, .junk, .junk, .junk, .junk, .junk, .junk, .junk, .junk], [(4, .g 1 (G.map sbF))], 5⟩, ?_, ?_⟩
    · refine ⟨_, _, (weak_nil 3 1 (.g 1 []) ⟨by decide, rfl⟩ (by exact trivial)).trans (weak_ren [0, 1, 2, 3, 28] rfl rfl rfl ?_ ?_), 1, b, f, [], rfl, .inl rfl, by simp; omega, rfl, rfl⟩
      · simp only [SameS, SameH, setSlot, gOf, AV.ren, renL, Blk.ren, Ax.look, Ax.put, reduceCtorEq, true_or, false_or, or_true, or_false, and_true, true_and, AV.w.injEq, Value.int.injEq, Value.bool.injEq, AV.ms.injEq, AV.sb.injEq, AV.str.injEq, ↓reduceIte, Nat.reduceEqDiff, Nat.reduceLT, List.length_append, List.length_cons, List.length_nil, Nat.zero_add, Nat.add_zero, Option.some.injEq, Blk.b.injEq, Blk.i.injEq, Nat.succ_ne_zero, Nat.reduceAdd, and_self]
      · simp only [SameS, SameH, setSlot, gOf, AV.ren, renL, Blk.ren, Ax.look, Ax.put, reduceCtorEq, true_or, false_or, or_true, or_false, and_true, true_and, AV.w.injEq, Value.int.injEq, Value.bool.injEq, AV.ms.injEq, AV.sb.injEq, AV.str.injEq, ↓reduceIte, Nat.reduceEqDiff, Nat.reduceLT, List.length_append, List.length_cons, List.length_nil, Nat.zero_add, Nat.add_zero, Option.some.injEq, Blk.b.injEq, Blk.i.injEq, Nat.succ_ne_zero, Nat.reduceAdd, and_self]; rfl
    · rintro m σ ⟨k, r, g, G, rfl, hk, hr, hG, rfl⟩
      obtain ⟨N, hN⟩ : ∃ N, min r.length 61 = N := ⟨_, rfl⟩
      have em : (if (61 : Int) < (r.length : Int) then (61 : Int) else (r.length : Int)) = (N : Int) := by split <;> omega
      have et : List.take (N - 0) r = r.take 61 := by
        rw [Nat.sub_zero, ← hN]
        rcases Nat.le_total r.length 61 with h | h
        · rw [Nat.min_eq_left h, List.take_of_length_le (Nat.le_refl _), List.take_of_length_le h]
        · rw [Nat.min_eq_right h]
      have hs := sealB_take k r hk
      have hle : (r.take 61).length ≤ 1000000 := by rw [List.length_take]; omega
      by_cases hgo : k = 1 ∨ r ≠ []
      · have hnx := tail_next k r hk hgo
        have key : (decide (k = 1) = true) ∨ (decide (k = 1) = false ∧ decide ((0 : Int) < r.length) = true) := by
          rcases hgo with h | h
          · exact .inl (decide_eq_true h)
          · by_cases h1 : k = 1
            · exact .inl (decide_eq_true h1)
            · have := List.length_pos_iff.2 h
              exact .inr ⟨decide_eq_false h1, decide_eq_true (by omega)⟩
        have et2 : List.take (r.length - N) (List.drop N r) = r.drop 61 := by
          rw [List.take_of_length_le (by rw [List.length_drop]; exact Nat.le_refl _)]
          rcases Nat.le_total r.length 61 with h | h
          · rw [show N = r.length by omega, List.drop_of_length_le (Nat.le_refl _), List.drop_of_length_le h]
          · rw [show N = 61 by omega]
        have hm : (if k = 1 then 1 else 0) ≤ 1 ∧ ((if k = 1 then 1 else 0) = 1 ∨ 0 < r.length) := by
          by_cases h1 : k = 1
          · rw [if_pos h1]; omega
          · rw [if_neg h1]; exact ⟨by omega, .inr (List.length_pos_iff.2 (hgo.resolve_left h1))⟩
        generalize hM : (if k = 1 then 1 else 0) = M at *
        have hb : ((G ++ [blkL (UInt8.ofNat k.toNat) (r.take 61)]).map sbF).length = G.length + 1 := by simp
        have d2 : True := trivial
        rcases key with d1 | ⟨d1, d2⟩
        all_goals
          simp -implicitDefEqProofs only [Option.getD, awp_skip, awp_label, awp_ret, awp_exit, awp_region, awp_seq, awp_block, awp_cond, aops_nil, aops_plain, aops_guard, later_normal, later_exit, later_ret, blockK_normal, blockK_exit, blockK_ret, regK_apply, aop, aLen, ev, slot, setSlot, putSlot, cv, cvl, aConv, aBin, aInt, aUn, aEq, Out.and, isBool, isPtr, true_and, and_true, List.length, IntKind.bits, evs, evo, evps, aCall, aUser, coes, coe, List.append, List.replicate, callOut, rootsL, AV.roots, lendsL, AV.lends, pinsOf, nodup, lendL, lend, closedB, noimmB, AV.noimm, AV.ren, renL, back, Nat.reduceAdd, Nat.reduceSub, Nat.reduceMul, Int.reduceToNat, Nat.le_refl, reduceCtorEq, false_implies, implies_true, List.nil_append, List.append_nil, List.cons_append, Nat.zero_le, Bool.false_eq_true, aLoad, subv, aIndexAddr, aIndex, TD.aggr, cond_false, cond_true, guardSlot, List.getElem?_cons_succ, List.getElem?_cons_zero, aPick, byte, word, aMin, aMax, Ax.Ends, EndsX, Ax.rvals, rone, AV.ids, idsL, newIds, upTo, pinHeap, gOf, ↓reduceIte, forall_const, List.isEmpty, ne_eq, not_false_eq_true, and_self, true_implies, AV.w.injEq, Value.int.injEq, Value.bool.injEq, IntKind.wrap_u8, IntKind.wrap_u64, IntKind.wrap_i64, Int.reducePow, Nat.reducePow, Nat.min_def, Int.reduceMod, Nat.reduceLeDiff, Int.reduceLE, Int.reduceNe, Int.reduceEq, aBuildSlice, fillB, aAppend, appendB, viewB, Ax.look, Ax.put, Ax.drop, List.drop, List.take, List.set_cons_zero, List.set_cons_succ, asv, aMake, aCopy, srcB, fillG, viewG, appendG, appendI, fillI, aSlice, bnd, bnds, full3, cut, aFieldAddr, aField, aLoad, aStore, setB, aBox, aBuild, fillS, allTy, AV.leaves, AV.okv, AV.leaf, one, splice, elemLeaves, Blk.size, Blk.len, List.replicate_succ, List.replicate_zero, Option.isSome, Option.isNone, isBytes, aStr, aNil, aAlloc, aExtract, aConv, viewI, Nat.reduceEqDiff, Nat.reduceLT, List.length_append, List.length_cons, List.length_nil, Nat.zero_add, Nat.add_zero, Nat.reduceBEq, List.contains, List.elem, Bool.not_true, Bool.not_false, Bool.true_and, Bool.and_true, Bool.and_false, Bool.false_and, Blk.closed, closedL, AV.closed, Blk.noimm, not_true_eq_false, not_false_iff, or_false, or_true, false_or, true_or, Int.toNat_natCast, List.length_replicate, setB, ↓gsplit_tt, ↓gsplit_ff, ↓gsplit_tf, ↓gsplit_ft, gsplit_bt, gsplit_bf, ↓csplit_t, ↓csplit_f, csplit_b, Ax.idx, beq_self_eq_true, BEq.rfl, pinsOf, List.mem_cons, List.not_mem_nil, AV.lentIds, lentIdsL, dropAll, givenUp, AV.clean, cleanL, Blk.clean, cleanB, quietC, flatTy, List.all_cons, List.all_nil, Bool.or_false, Bool.or_true, Bool.true_or, Bool.false_or, decide_true, decide_false, coldStr, notMs, eqV, eqF, isStruct, ty, Sblay, bsealS, d1, d2, em, et, et2, hs, hle, Int.toNat_natCast, List.length_map]
          refine ⟨by omega, by omega, by omega, by omega, (r.drop 61).length, _, by rw [List.length_drop]; omega, weak_ren [0, 1, 2, 3, 205] rfl rfl rfl ?_ ?_, 2, r.drop 61, g, G ++ [blkL (UInt8.ofNat k.toNat) (r.take 61)], rfl, .inr rfl, by simp; omega, by rw [hG, hnx, List.append_assoc]; rfl, rfl⟩
          · simp only [SameS, SameH, setSlot, gOf, AV.ren, renL, Blk.ren, Ax.look, Ax.put, reduceCtorEq, true_or, false_or, or_true, or_false, and_true, true_and, AV.w.injEq, Value.int.injEq, Value.bool.injEq, AV.ms.injEq, AV.sb.injEq, AV.str.injEq, ↓reduceIte, Nat.reduceEqDiff, Nat.reduceLT, List.length_append, List.length_cons, List.length_nil, Nat.zero_add, Nat.add_zero, Option.some.injEq, Blk.b.injEq, Blk.i.injEq, Nat.succ_ne_zero, Nat.reduceAdd, and_self, List.length_append]
          · simp only [SameS, SameH, setSlot, gOf, AV.ren, renL, Blk.ren, Ax.look, Ax.put, reduceCtorEq, true_or, false_or, or_true, or_false, and_true, true_and, AV.w.injEq, Value.int.injEq, Value.bool.injEq, AV.ms.injEq, AV.sb.injEq, AV.str.injEq, ↓reduceIte, Nat.reduceEqDiff, Nat.reduceLT, List.length_append, List.length_cons, List.length_nil, Nat.zero_add, Nat.add_zero, Option.some.injEq, Blk.b.injEq, Blk.i.injEq, Nat.succ_ne_zero, Nat.reduceAdd, and_self, ren_sbF]
            simp [sbF]
      · have h1 : k = 2 := by omega
        have hr0 : r = [] := by
          rcases Decidable.em (r = []) with h | h
          · exact h
          · exact (hgo (.inr h)).elim
        subst h1 hr0
        have hG0 : layL b = G := by rw [hG]; simp [tailK, moreF_nil]
        have d1 : decide ((2 : Int) = 1) = false := rfl
        have d2 : decide ((0 : Int) < ((0 : Nat) : Int)) = false := rfl
        simp -implicitDefEqProofs only [Option.getD, awp_skip, awp_label, awp_ret, awp_exit, awp_region, awp_seq, awp_block, awp_cond, aops_nil, aops_plain, aops_guard, later_normal, later_exit, later_ret, blockK_normal, blockK_exit, blockK_ret, regK_apply, aop, aLen, ev, slot, setSlot, putSlot, cv, cvl, aConv, aBin, aInt, aUn, aEq, Out.and, isBool, isPtr, true_and, and_true, List.length, IntKind.bits, evs, evo, evps, aCall, aUser, coes, coe, List.append, List.replicate, callOut, rootsL, AV.roots, lendsL, AV.lends, pinsOf, nodup, lendL, lend, closedB, noimmB, AV.noimm, AV.ren, renL, back, Nat.reduceAdd, Nat.reduceSub, Nat.reduceMul, Int.reduceToNat, Nat.le_refl, reduceCtorEq, false_implies, implies_true, List.nil_append, List.append_nil, List.cons_append, Nat.zero_le, Bool.false_eq_true, aLoad, subv, aIndexAddr, aIndex, TD.aggr, cond_false, cond_true, guardSlot, List.getElem?_cons_succ, List.getElem?_cons_zero, aPick, byte, word, aMin, aMax, Ax.Ends, EndsX, Ax.rvals, rone, AV.ids, idsL, newIds, upTo, pinHeap, gOf, ↓reduceIte, forall_const, List.isEmpty, ne_eq, not_false_eq_true, and_self, true_implies, AV.w.injEq, Value.int.injEq, Value.bool.injEq, IntKind.wrap_u8, IntKind.wrap_u64, IntKind.wrap_i64, Int.reducePow, Nat.reducePow, Nat.min_def, Int.reduceMod, Nat.reduceLeDiff, Int.reduceLE, Int.reduceNe, Int.reduceEq, aBuildSlice, fillB, aAppend, appendB, viewB, Ax.look, Ax.put, Ax.drop, List.drop, List.take, List.set_cons_zero, List.set_cons_succ, asv, aMake, aCopy, srcB, fillG, viewG, appendG, appendI, fillI, aSlice, bnd, bnds, full3, cut, aFieldAddr, aField, aLoad, aStore, setB, aBox, aBuild, fillS, allTy, AV.leaves, AV.okv, AV.leaf, one, splice, elemLeaves, Blk.size, Blk.len, List.replicate_succ, List.replicate_zero, Option.isSome, Option.isNone, isBytes, aStr, aNil, aAlloc, aExtract, aConv, viewI, Nat.reduceEqDiff, Nat.reduceLT, List.length_append, List.length_cons, List.length_nil, Nat.zero_add, Nat.add_zero, Nat.reduceBEq, List.contains, List.elem, Bool.not_true, Bool.not_false, Bool.true_and, Bool.and_true, Bool.and_false, Bool.false_and, Blk.closed, closedL, AV.closed, Blk.noimm, not_true_eq_false, not_false_iff, or_false, or_true, false_or, true_or, Int.toNat_natCast, List.length_replicate, setB, ↓gsplit_tt, ↓gsplit_ff, ↓gsplit_tf, ↓gsplit_ft, gsplit_bt, gsplit_bf, ↓csplit_t, ↓csplit_f, csplit_b, Ax.idx, beq_self_eq_true, BEq.rfl, pinsOf, List.mem_cons, List.not_mem_nil, AV.lentIds, lentIdsL, dropAll, givenUp, AV.clean, cleanL, Blk.clean, cleanB, quietC, flatTy, List.all_cons, List.all_nil, Bool.or_false, Bool.or_true, Bool.true_or, Bool.false_or, decide_true, decide_false, coldStr, notMs, eqV, eqF, isStruct, ty, Sblay, bsealS, d1, d2, hG0, closed_sbF, List.length_map]
  · exact hp.elim
set_option maxHeartbeats 1000000 in
theorem rblay_sound : Sound Try.prog 21 blayS := by
  refine fn_sound (S := Srblay) (T := ty) mixed ty_ok Srblay_ok Try.func21 (c := Try.f21.body.getD .skip) (by kernel_rfl) (by kernel_rfl) (fun xs pins hp _ => ?_)
  unfold blayS at hp ⊢
  split at hp
  · rename_i b f _
    have hL : b.length ≤ 1000000 := hp
    refine ⟨by simp, ?_⟩
    have ht : top = 4294967296 := rfl
    unfold Try.f21
    simp -implicitDefEqProofs only [Option.getD, awp_skip, awp_label, awp_ret, awp_exit, awp_region, awp_seq, awp_block, awp_cond, aops_nil, aops_plain, aops_guard, later_normal, later_exit, later_ret, blockK_normal, blockK_exit, blockK_ret, regK_apply, aop, aLen, ev, slot, setSlot, putSlot, cv, cvl, aConv, aBin, aInt, aUn, aEq, Out.and, isBool, isPtr, true_and, and_true, List.length, IntKind.bits, evs, evo, evps, aCall, aUser, coes, coe, List.append, List.replicate, callOut, rootsL, AV.roots, lendsL, AV.lends, pinsOf, nodup, lendL, lend, closedB, noimmB, AV.noimm, AV.ren, renL, back, Nat.reduceAdd, Nat.reduceSub, Nat.reduceMul, Int.reduceToNat, Nat.le_refl, reduceCtorEq, false_implies, implies_true, List.nil_append, List.append_nil, List.cons_append, Nat.zero_le, Bool.false_eq_true, aLoad, subv, aIndexAddr, aIndex, TD.aggr, cond_false, cond_true, guardSlot, List.getElem?_cons_succ, List.getElem?_cons_zero, aPick, byte, word, aMin, aMax, Ax.Ends, EndsX, Ax.rvals, rone, AV.ids, idsL, newIds, upTo, pinHeap, gOf, ↓reduceIte, forall_const, List.isEmpty, ne_eq, not_false_eq_true, and_self, true_implies, AV.w.injEq, Value.int.injEq, Value.bool.injEq, IntKind.wrap_u8, IntKind.wrap_u64, IntKind.wrap_i64, Int.reducePow, Nat.reducePow, Nat.min_def, Int.reduceMod, Nat.reduceLeDiff, Int.reduceLE, Int.reduceNe, Int.reduceEq, aBuildSlice, fillB, aAppend, appendB, viewB, Ax.look, Ax.put, Ax.drop, List.drop, List.take, List.set_cons_zero, List.set_cons_succ, asv, aMake, aCopy, srcB, fillG, viewG, appendG, appendI, fillI, aSlice, bnd, bnds, full3, cut, aFieldAddr, aField, aLoad, aStore, setB, aBox, aBuild, fillS, allTy, AV.leaves, AV.okv, AV.leaf, one, splice, elemLeaves, Blk.size, Blk.len, List.replicate_succ, List.replicate_zero, Option.isSome, Option.isNone, isBytes, aStr, aNil, aAlloc, aExtract, aConv, viewI, Nat.reduceEqDiff, Nat.reduceLT, List.length_append, List.length_cons, List.length_nil, Nat.zero_add, Nat.add_zero, Nat.reduceBEq, List.contains, List.elem, Bool.not_true, Bool.not_false, Bool.true_and, Bool.and_true, Bool.and_false, Bool.false_and, Blk.closed, closedL, AV.closed, Blk.noimm, not_true_eq_false, not_false_iff, or_false, or_true, false_or, true_or, Int.toNat_natCast, List.length_replicate, setB, ↓gsplit_tt, ↓gsplit_ff, ↓gsplit_tf, ↓gsplit_ft, gsplit_bt, gsplit_bf, ↓csplit_t, ↓csplit_f, csplit_b, Ax.idx, beq_self_eq_true, BEq.rfl, pinsOf, List.mem_cons, List.not_mem_nil, AV.lentIds, lentIdsL, dropAll, givenUp, AV.clean, cleanL, Blk.clean, cleanB, quietC, flatTy, List.all_cons, List.all_nil, Bool.or_false, Bool.or_true, Bool.true_or, Bool.false_or, decide_true, decide_false, coldStr, notMs, eqV, eqF, isStruct, ty, Srblay]
    refine awp_loop ⟨fun m σ => ∃ (k : Int) (r : List UInt8) (g : Bool) (G : List (List UInt8)), m = r.length + (if k = 1 then 1 else 0) ∧ (k = 1 ∨ k = 2) ∧ r.length + G.length + (if k = 1 then 1 else 0) ≤ 1000001 ∧ (k = 1 ↔ G = []) ∧ layL b = G ++ tailK k r ∧
        σ = ⟨[.sb r g, .junk, .junk, .ms 4 1 0 G.length, .w (.int .u8 k), .junk, .junk, .junk, .junk, .junk, .junk, .junk, .junk, .junk, .junk, .junk, .junk, .junk, .junk, .junk, .junk, .junk, .junk, .junk, .junk, .junk, .junk, .junk, .junk, .junk, .junk, .junk, .junk, .junk, .junk], [(4, .g 1 (G.map sbF))], 5⟩, ?_, ?_⟩
    · refine ⟨_, _, (weak_nil 3 1 (.g 1 []) ⟨by decide, rfl⟩ (by exact trivial)).trans (weak_ren [0, 1, 2, 3, 28] rfl rfl rfl ?_ ?_), 1, b, f, [], rfl, .inl rfl, by simp; omega, ⟨fun _ => rfl, fun _ => rfl⟩, rfl, rfl⟩
      · simp only [SameS, SameH, setSlot, gOf, AV.ren, renL, Blk.ren, Ax.look, Ax.put, reduceCtorEq, true_or, false_or, or_true, or_false, and_true, true_and, AV.w.injEq, Value.int.injEq, Value.bool.injEq, AV.ms.injEq, AV.sb.injEq, AV.str.injEq, ↓reduceIte, Nat.reduceEqDiff, Nat.reduceLT, List.length_append, List.length_cons, List.length_nil, Nat.zero_add, Nat.add_zero, Option.some.injEq, Blk.b.injEq, Blk.i.injEq, Nat.succ_ne_zero, Nat.reduceAdd, and_self]
      · simp only [SameS, SameH, setSlot, gOf, AV.ren, renL, Blk.ren, Ax.look, Ax.put, reduceCtorEq, true_or, false_or, or_true, or_false, and_true, true_and, AV.w.injEq, Value.int.injEq, Value.bool.injEq, AV.ms.injEq, AV.sb.injEq, AV.str.injEq, ↓reduceIte, Nat.reduceEqDiff, Nat.reduceLT, List.length_append, List.length_cons, List.length_nil, Nat.zero_add, Nat.add_zero, Option.some.injEq, Blk.b.injEq, Blk.i.injEq, Nat.succ_ne_zero, Nat.reduceAdd, and_self]; rfl
    · rintro m σ ⟨k, r, g, G, rfl, hk, hr, hkG, hG, rfl⟩
      obtain ⟨N, hN⟩ : ∃ N, min r.length 61 = N := ⟨_, rfl⟩
      have em : (if (61 : Int) < (r.length : Int) then (61 : Int) else (r.length : Int)) = (N : Int) := by split <;> omega
      have et : List.take (N - 0) r = r.take 61 := by
        rw [Nat.sub_zero, ← hN]
        rcases Nat.le_total r.length 61 with h | h
        · rw [Nat.min_eq_left h, List.take_of_length_le (Nat.le_refl _), List.take_of_length_le h]
        · rw [Nat.min_eq_right h]
      have hs := sealB_take k r hk
      have hle : (r.take 61).length ≤ 1000000 := by rw [List.length_take]; omega
      by_cases hgo : k = 1 ∨ r ≠ []
      · have hnx := tail_next k r hk hgo
        have key : (decide ((0 : Int) < r.length) = true) ∨ (decide ((0 : Int) < r.length) = false ∧ decide ((G.length : Int) = 0) = true) := by
          rcases Nat.eq_zero_or_pos r.length with h | h
          · refine .inr ⟨decide_eq_false (by omega), decide_eq_true ?_⟩
            have h1 : k = 1 := hgo.resolve_right (fun h2 => h2 (List.length_eq_zero_iff.1 h))
            rw [hkG.1 h1]; rfl
          · exact .inl (decide_eq_true (by omega))
        have et2 : List.take (r.length - N) (List.drop N r) = r.drop 61 := by
          rw [List.take_of_length_le (by rw [List.length_drop]; exact Nat.le_refl _)]
          rcases Nat.le_total r.length 61 with h | h
          · rw [show N = r.length by omega, List.drop_of_length_le (Nat.le_refl _), List.drop_of_length_le h]
          · rw [show N = 61 by omega]
        have hm : (if k = 1 then 1 else 0) ≤ 1 ∧ ((if k = 1 then 1 else 0) = 1 ∨ 0 < r.length) := by
          by_cases h1 : k = 1
          · rw [if_pos h1]; omega
          · rw [if_neg h1]; exact ⟨by omega, .inr (List.length_pos_iff.2 (hgo.resolve_left h1))⟩
        generalize hM : (if k = 1 then 1 else 0) = M at *
        have hb : ((G ++ [blkL (UInt8.ofNat k.toNat) (r.take 61)]).map sbF).length = G.length + 1 := by simp
        have d2 : True := trivial
        rcases key with d1 | ⟨d1, d2⟩
        all_goals
          simp -implicitDefEqProofs only [Option.getD, awp_skip, awp_label, awp_ret, awp_exit, awp_region, awp_seq, awp_block, awp_cond, aops_nil, aops_plain, aops_guard, later_normal, later_exit, later_ret, blockK_normal, blockK_exit, blockK_ret, regK_apply, aop, aLen, ev, slot, setSlot, putSlot, cv, cvl, aConv, aBin, aInt, aUn, aEq, Out.and, isBool, isPtr, true_and, and_true, List.length, IntKind.bits, evs, evo, evps, aCall, aUser, coes, coe, List.append, List.replicate, callOut, rootsL, AV.roots, lendsL, AV.lends, pinsOf, nodup, lendL, lend, closedB, noimmB, AV.noimm, AV.ren, renL, back, Nat.reduceAdd, Nat.reduceSub, Nat.reduceMul, Int.reduceToNat, Nat.le_refl, reduceCtorEq, false_implies, implies_true, List.nil_append, List.append_nil, List.cons_append, Nat.zero_le, Bool.false_eq_true, aLoad, subv, aIndexAddr, aIndex, TD.aggr, cond_false, cond_true, guardSlot, List.getElem?_cons_succ, List.getElem?_cons_zero, aPick, byte, word, aMin, aMax, Ax.Ends, EndsX, Ax.rvals, rone, AV.ids, idsL, newIds, upTo, pinHeap, gOf, ↓reduceIte, forall_const, List.isEmpty, ne_eq, not_false_eq_true, and_self, true_implies, AV.w.injEq, Value.int.injEq, Value.bool.injEq, IntKind.wrap_u8, IntKind.wrap_u64, IntKind.wrap_i64, Int.reducePow, Nat.reducePow, Nat.min_def, Int.reduceMod, Nat.reduceLeDiff, Int.reduceLE, Int.reduceNe, Int.reduceEq, aBuildSlice, fillB, aAppend, appendB, viewB, Ax.look, Ax.put, Ax.drop, List.drop, List.take, List.set_cons_zero, List.set_cons_succ, asv, aMake, aCopy, srcB, fillG, viewG, appendG, appendI, fillI, aSlice, bnd, bnds, full3, cut, aFieldAddr, aField, aLoad, aStore, setB, aBox, aBuild, fillS, allTy, AV.leaves, AV.okv, AV.leaf, one, splice, elemLeaves, Blk.size, Blk.len, List.replicate_succ, List.replicate_zero, Option.isSome, Option.isNone, isBytes, aStr, aNil, aAlloc, aExtract, aConv, viewI, Nat.reduceEqDiff, Nat.reduceLT, List.length_append, List.length_cons, List.length_nil, Nat.zero_add, Nat.add_zero, Nat.reduceBEq, List.contains, List.elem, Bool.not_true, Bool.not_false, Bool.true_and, Bool.and_true, Bool.and_false, Bool.false_and, Blk.closed, closedL, AV.closed, Blk.noimm, not_true_eq_false, not_false_iff, or_false, or_true, false_or, true_or, Int.toNat_natCast, List.length_replicate, setB, ↓gsplit_tt, ↓gsplit_ff, ↓gsplit_tf, ↓gsplit_ft, gsplit_bt, gsplit_bf, ↓csplit_t, ↓csplit_f, csplit_b, Ax.idx, beq_self_eq_true, BEq.rfl, pinsOf, List.mem_cons, List.not_mem_nil, AV.lentIds, lentIdsL, dropAll, givenUp, AV.clean, cleanL, Blk.clean, cleanB, quietC, flatTy, List.all_cons, List.all_nil, Bool.or_false, Bool.or_true, Bool.true_or, Bool.false_or, decide_true, decide_false, coldStr, notMs, eqV, eqF, isStruct, ty, Srblay, bsealS, d1, d2, em, et, et2, hs, hle, Int.toNat_natCast, List.length_map]
          refine ⟨by omega, by omega, by omega, by omega, (r.drop 61).length, _, by rw [List.length_drop]; omega, weak_ren [0, 1, 2, 3, 205] rfl rfl rfl ?_ ?_, 2, r.drop 61, g, G ++ [blkL (UInt8.ofNat k.toNat) (r.take 61)], rfl, .inr rfl, by simp; omega, ⟨fun h => by omega, fun h => by simp at h⟩, by rw [hG, hnx, List.append_assoc]; rfl, rfl⟩
          · simp only [SameS, SameH, setSlot, gOf, AV.ren, renL, Blk.ren, Ax.look, Ax.put, reduceCtorEq, true_or, false_or, or_true, or_false, and_true, true_and, AV.w.injEq, Value.int.injEq, Value.bool.injEq, AV.ms.injEq, AV.sb.injEq, AV.str.injEq, ↓reduceIte, Nat.reduceEqDiff, Nat.reduceLT, List.length_append, List.length_cons, List.length_nil, Nat.zero_add, Nat.add_zero, Option.some.injEq, Blk.b.injEq, Blk.i.injEq, Nat.succ_ne_zero, Nat.reduceAdd, and_self, List.length_append]
          · simp only [SameS, SameH, setSlot, gOf, AV.ren, renL, Blk.ren, Ax.look, Ax.put, reduceCtorEq, true_or, false_or, or_true, or_false, and_true, true_and, AV.w.injEq, Value.int.injEq, Value.bool.injEq, AV.ms.injEq, AV.sb.injEq, AV.str.injEq, ↓reduceIte, Nat.reduceEqDiff, Nat.reduceLT, List.length_append, List.length_cons, List.length_nil, Nat.zero_add, Nat.add_zero, Option.some.injEq, Blk.b.injEq, Blk.i.injEq, Nat.succ_ne_zero, Nat.reduceAdd, and_self, ren_sbF]
            simp [sbF]
      · have h1 : k = 2 := by omega
        have hr0 : r = [] := by
          rcases Decidable.em (r = []) with h | h
          · exact h
          · exact (hgo (.inr h)).elim
        subst h1 hr0
        have hG0 : layL b = G := by rw [hG]; simp [tailK, moreF_nil]
        have hGn : G ≠ [] := fun h => by have := hkG.2 h; omega
        have d1 : decide ((G.length : Int) = 0) = false := decide_eq_false (by have := List.length_pos_iff.2 hGn; omega)
        have d2 : decide ((0 : Int) < ((0 : Nat) : Int)) = false := rfl
        simp -implicitDefEqProofs only [Option.getD, awp_skip, awp_label, awp_ret, awp_exit, awp_region, awp_seq, awp_block, awp_cond, aops_nil, aops_plain, aops_guard, later_normal, later_exit, later_ret, blockK_normal, blockK_exit, blockK_ret, regK_apply, aop, aLen, ev, slot, setSlot, putSlot, cv, cvl, aConv, aBin, aInt, aUn, aEq, Out.and, isBool, isPtr, true_and, and_true, List.length, IntKind.bits, evs, evo, evps, aCall, aUser, coes, coe, List.append, List.replicate, callOut, rootsL, AV.roots, lendsL, AV.lends, pinsOf, nodup, lendL, lend, closedB, noimmB, AV.noimm, AV.ren, renL, back, Nat.reduceAdd, Nat.reduceSub, Nat.reduceMul, Int.reduceToNat, Nat.le_refl, reduceCtorEq, false_implies, implies_true, List.nil_append, List.append_nil, List.cons_append, Nat.zero_le, Bool.false_eq_true, aLoad, subv, aIndexAddr, aIndex, TD.aggr, cond_false, cond_true, guardSlot, List.getElem?_cons_succ, List.getElem?_cons_zero, aPick, byte, word, aMin, aMax, Ax.Ends, EndsX, Ax.rvals, rone, AV.ids, idsL, newIds, upTo, pinHeap, gOf, ↓reduceIte, forall_const, List.isEmpty, ne_eq, not_false_eq_true, and_self, true_implies, AV.w.injEq, Value.int.injEq, Value.bool.injEq, IntKind.wrap_u8, IntKind.wrap_u64, IntKind.wrap_i64, Int.reducePow, Nat.reducePow, Nat.min_def, Int.reduceMod, Nat.reduceLeDiff, Int.reduceLE, Int.reduceNe, Int.reduceEq, aBuildSlice, fillB, aAppend, appendB, viewB, Ax.look, Ax.put, Ax.drop, List.drop, List.take, List.set_cons_zero, List.set_cons_succ, asv, aMake, aCopy, srcB, fillG, viewG, appendG, appendI, fillI, aSlice, bnd, bnds, full3, cut, aFieldAddr, aField, aLoad, aStore, setB, aBox, aBuild, fillS, allTy, AV.leaves, AV.okv, AV.leaf, one, splice, elemLeaves, Blk.size, Blk.len, List.replicate_succ, List.replicate_zero, Option.isSome, Option.isNone, isBytes, aStr, aNil, aAlloc, aExtract, aConv, viewI, Nat.reduceEqDiff, Nat.reduceLT, List.length_append, List.length_cons, List.length_nil, Nat.zero_add, Nat.add_zero, Nat.reduceBEq, List.contains, List.elem, Bool.not_true, Bool.not_false, Bool.true_and, Bool.and_true, Bool.and_false, Bool.false_and, Blk.closed, closedL, AV.closed, Blk.noimm, not_true_eq_false, not_false_iff, or_false, or_true, false_or, true_or, Int.toNat_natCast, List.length_replicate, setB, ↓gsplit_tt, ↓gsplit_ff, ↓gsplit_tf, ↓gsplit_ft, gsplit_bt, gsplit_bf, ↓csplit_t, ↓csplit_f, csplit_b, Ax.idx, beq_self_eq_true, BEq.rfl, pinsOf, List.mem_cons, List.not_mem_nil, AV.lentIds, lentIdsL, dropAll, givenUp, AV.clean, cleanL, Blk.clean, cleanB, quietC, flatTy, List.all_cons, List.all_nil, Bool.or_false, Bool.or_true, Bool.true_or, Bool.false_or, decide_true, decide_false, coldStr, notMs, eqV, eqF, isStruct, ty, Srblay, bsealS, d1, d2, hG0, closed_sbF, List.length_map]
  · exact hp.elim
end
end Go.Proofs.Ytgkkgbomhfdbkaa
