/- Layer 5: the law of blocks that are cut. -/
import Derived.Test.YtgkkgbomhfdbkaaK7
import Derived.Test.YtgkkgbomhfdbkaaAxTg
namespace Go.Proofs.Ytgkkgbomhfdbkaa
open Ax
set_option linter.unusedSimpArgs false
set_option linter.unusedVariables false

theorem join_more_cut : ∀ (n : Nat) (r : List UInt8) (k : Nat) (x : List UInt8) (S : List (List UInt8)), ¬ blkOk false x → k ≤ (moreL n r).length → joinGo false ((moreL n r).take k ++ x :: S) = (chunkL n r).take k
  | 0, r, k, x, S, hx, hk => by
    simp only [moreL, List.take_nil, List.nil_append, chunkL]
    exact if_neg hx
  | n + 1, r, k, x, S, hx, hk => by
    unfold moreL chunkL at *
    by_cases h : r = []
    · rw [if_pos h, if_pos h]; simp only [List.take_nil, List.nil_append]; exact if_neg hx
    · rw [if_neg h] at hk ⊢
      rw [if_neg h]
      cases k with
      | zero => simp only [List.take_zero, List.nil_append]; exact if_neg hx
      | succ k =>
        have hl : (r.take 61).length ≤ 61 := by rw [List.length_take]; omega
        rw [List.take_succ_cons, List.take_succ_cons, List.cons_append]
        show (if blkOk false (blkL 2 (r.take 61)) then openB (blkL 2 (r.take 61)) :: joinGo false ((moreL n (r.drop 61)).take k ++ x :: S) else []) = _
        rw [if_pos (ok2_blk _ hl), (open_blk 2 _ (.inr rfl) hl).2.2, join_more_cut n (r.drop 61) k x S hx (by simpa using hk)]
theorem chunk_take : ∀ (n : Nat) (r : List UInt8) (k : Nat), r.length ≤ n → ((chunkL n r).take k).flatten = r.take (61 * k)
  | 0, r, k, h => by
    have : r = [] := List.length_eq_zero_iff.1 (by omega)
    subst this; simp [chunkL]
  | n + 1, r, k, h => by
    unfold chunkL
    by_cases hr : r = []
    · rw [if_pos hr, hr]; simp
    · rw [if_neg hr]
      have := List.length_pos_iff.2 hr
      cases k with
      | zero => simp
      | succ k =>
        rw [List.take_succ_cons, List.flatten_cons, chunk_take n (r.drop 61) k (by rw [List.length_drop]; omega)]
        rw [show 61 * (k + 1) = 61 + 61 * k by omega, List.take_add]
/-- What is joined of blocks with one that is none. -/
theorem join_cut (b x : List UInt8) (S : List (List UInt8)) (k : Nat) (hx : openE x ≠ 0) (hk : k ≤ (layL b).length) :
    joinB ((layL b).take k ++ x :: S) = b.take (61 * k) ∧ joinN ((layL b).take k ++ x :: S) = k ∧ joinE ((layL b).take k ++ x :: S) = (if k = 0 then 8 else 0) := by
  have hno : ∀ f, ¬ blkOk f x := fun f h => hx h.1
  cases k with
  | zero =>
    have h : joinGo true ((layL b).take 0 ++ x :: S) = [] := if_neg (hno true)
    unfold joinB joinN joinE
    rw [h]; exact ⟨rfl, rfl, rfl⟩
  | succ k =>
    have hl : (b.take 61).length ≤ 61 := by rw [List.length_take]; omega
    have h : joinGo true ((layL b).take (k + 1) ++ x :: S) = b.take 61 :: (chunkL (b.drop 61).length (b.drop 61)).take k := by
      show (if blkOk true (blkL 1 (b.take 61)) then openB (blkL 1 (b.take 61)) :: joinGo false ((moreF (b.drop 61)).take k ++ x :: S) else []) = _
      rw [if_pos (ok1_blk _ hl), (open_blk 1 _ (.inl rfl) hl).2.2]
      unfold moreF
      rw [join_more_cut _ _ k x S (hno false) (by simpa [layL, moreF] using hk)]
    have hlen : ((chunkL (b.drop 61).length (b.drop 61)).take k).length = k := by
      have h1 := (chunk_len _ (b.drop 61) (Nat.le_refl _))
      rw [List.length_take, h1.1]
      have h2 : k + 1 ≤ 1 + (moreL (b.drop 61).length (b.drop 61)).length := by simpa [layL, moreF, Nat.add_comm] using hk
      rw [h1.2] at h2
      omega
    unfold joinB joinN joinE
    rw [h]
    refine ⟨?_, by rw [List.length_cons, hlen], by rw [List.length_cons, hlen]⟩
    rw [List.flatten_cons, chunk_take _ _ _ (Nat.le_refl _), show 61 * (k + 1) = 61 + 61 * k by omega, List.take_add]

theorem w_ends {T : Types} {sl : List AV} {H : Heap} {nx : Nat} {v : Value} {q : Prop} (i : Nat) (h : slot sl i = .w v) : EndsW T [.tmp i] [] ⟨q, .w v, []⟩ .ret ⟨sl, H, nx⟩ := by
  refine ⟨_, Weak.refl _, ?_⟩
  simp only [Ax.Ends, Ax.rvals, EndsX, rone, h, AV.ids, idsL, newIds, upTo, nodup, pinsOf, List.nil_append, AV.ren, and_self]
theorem bcuts_dom {x y z : AV} (hx : Arg ty 6 22 x) (hy : Arg ty 6 5 y) (hz : Arg ty 6 5 z) : ∃ b f c t, x = .sb b f ∧ y = .w (.int .u8 c) ∧ z = .w (.int .u8 t) ∧ (0 ≤ c ∧ c < 256) ∧ 0 ≤ t ∧ t < 256 := by
  obtain ⟨b, f, rfl, _⟩ := karg_bytes hx
  obtain ⟨c, rfl, h⟩ := karg_u8 hy
  obtain ⟨t, rfl, h2⟩ := karg_u8 hz
  exact ⟨b, f, c, t, rfl, rfl, rfl, h, h2⟩
def bcutsS : FSpec
  | [.sb b _, .w (.int .u8 c), .w (.int .u8 t)], [] => ⟨(0 ≤ c ∧ c < 256) ∧ 0 ≤ t ∧ t < 256, .w (.bool true), []⟩
  | _, _ => noRes
def Scuts (f : FuncId) : Option FSpec :=
  match f with
  | 15 => some yes5S
  | 20 => some blayS
  | 25 => some bjoinS
  | _ => none
theorem Scuts_ok : Fns Try.prog Scuts := by
  intro f s h
  unfold Scuts at h
  split at h
  · injection h with h; subst h; exact ⟨⟨_, Try.func15, by kernel_rfl, by kernel_rfl⟩, awake5_sound⟩
  · injection h with h; subst h; exact ⟨⟨_, Try.func20, by kernel_rfl, by kernel_rfl⟩, blay_sound⟩
  · injection h with h; subst h; exact ⟨⟨_, Try.func25, by kernel_rfl, by kernel_rfl⟩, bjoin_sound⟩
  · cases h
def cutsPl : KPlan := fun id => match id with
  | 4 => some ([], some 4)
  | 8 => some ([9], none)
  | _ => none
section
set_option maxRecDepth 100000
set_option maxHeartbeats 1000000 in
theorem bcuts_law : Sound Try.prog 8 bcutsS := by
  refine fn_soundK (S := Scuts) (T := ty) (pl := cutsPl) mixed ty_ok Scuts_ok Try.func8 (c := Try.f8.body.getD .skip) (by kernel_rfl) (by kernel_rfl) (fun xs pins hp _ => ?_)
  unfold bcutsS at hp ⊢
  split at hp
  · rename_i b f c t _
    obtain ⟨⟨h1, h2⟩, h3, h4⟩ := hp
    refine ⟨by simp, ?_⟩
    unfold Try.f8
    by_cases hb : b.length ≤ 1000
    · have d1 : decide ((1000 : Int) < b.length) = false := decide_eq_false (by omega)
      have q1 : b.length ≤ 1000000 := by omega
      have hll := layL_len b
      have hnb : needI b.length ≤ 1000 := by unfold needI; omega
      have hmem := mem_lay b
      have hne : 0 < (layL b).length := by unfold layL; simp
      have hcut := join_cut b
      generalize hLB : layL b = LB at *
      obtain ⟨k, hk⟩ : ∃ k : Nat, c.tmod ((LB.length : Int) + 1) = k := ⟨(c % ((LB.length : Int) + 1)).toNat, by
        rw [Int.tmod_eq_emod_of_nonneg h1]
        have := Int.emod_nonneg c (show (LB.length : Int) + 1 ≠ 0 by omega)
        omega⟩
      have hkl : k ≤ LB.length := by
        rw [Int.tmod_eq_emod_of_nonneg h1] at hk
        have := Int.emod_lt_of_pos c (show 0 < (LB.length : Int) + 1 by omega)
        omega
      have e0 : (c + 9223372036854775808) % 18446744073709551616 - 9223372036854775808 = c := by omega
      have eN : ((LB.length + 1 : Nat) : Int) = (LB.length : Int) + 1 := by omega
      have ek : ((k : Int) + 9223372036854775808) % 18446744073709551616 - 9223372036854775808 = (k : Int) := by omega
      have et : List.take LB.length (LB.map sbF) = LB.map sbF := List.take_of_length_le (by simp)
      have hl4 : (LB.map sbF).length = LB.length := by simp
      obtain ⟨M, hM⟩ : ∃ M : Nat, t.tmod 64 = M := ⟨(t % 64).toNat, by rw [Int.tmod_eq_emod_of_nonneg h3]; omega⟩
      have hM64 : M < 64 := by rw [Int.tmod_eq_emod_of_nonneg h3] at hM; omega
      have e2 : ((M : Int) + 9223372036854775808) % 18446744073709551616 - 9223372036854775808 = (M : Int) := by omega
      have e00 : ((M : Int) % 256) = (M : Int) := by omega
      have e1 : (64 - (M : Int) + 9223372036854775808) % 18446744073709551616 - 9223372036854775808 = ((64 - M : Nat) : Int) := by omega
      by_cases hkn : k < LB.length
      · have d2 : decide ((LB.length : Int) ≤ k) = false := decide_eq_false (by omega)
        have hsl := kslot_map sbF LB k hkn
        have hXl := hmem LB[k] (List.getElem_mem hkn)
        obtain ⟨X, hX⟩ : ∃ X, LB[k] = X := ⟨_, rfl⟩
        rw [hX] at hsl hXl
        simp only [sbF] at hsl
        obtain ⟨Z, hZ⟩ : ∃ Z : List UInt8, List.replicate (64 - M) 0 = Z := ⟨_, rfl⟩
        have hZl : Z.length = 64 - M := by rw [← hZ, List.length_replicate]
        have htl : (X.take M).length = M := by rw [List.length_take]; omega
        have hol : openE (X.take M ++ Z) = 3 := by
          unfold openE
          rw [if_neg]
          rintro ⟨_, h⟩
          have : (X.take M ++ Z).getD 63 0 = 0 := by
            rw [← hZ, List.getD_eq_getElem?_getD, List.getElem?_append_right (by rw [List.length_take]; omega)]
            rw [List.length_take, List.getElem?_replicate, if_pos (by omega)]; rfl
          rw [this] at h; exact absurd h (by decide)
        have e3 : ((k : Int) + 1 + 9223372036854775808) % 18446744073709551616 - 9223372036854775808 = ((k + 1 : Nat) : Int) := by omega
        have et1 : List.take k (LB.map sbF) = (LB.take k).map sbF := List.map_take.symm
        have et2 : List.take (LB.length - (k + 1)) (List.drop (k + 1) (LB.map sbF)) = (LB.drop (k + 1)).map sbF := by
          rw [List.take_of_length_le (by simp), List.map_drop]
        have ett : List.take (M + Z.length) (X.take M ++ Z) = X.take M ++ Z := List.take_of_length_le (by rw [List.length_append]; omega)
        have hYl : (X.take M ++ Z).length = 64 := by rw [List.length_append]; omega
        generalize hY : X.take M ++ Z = Y at *
        have hlk : (LB.take k).length = k := by rw [List.length_take]; omega
        have hld : (LB.drop (k + 1)).length = LB.length - (k + 1) := List.length_drop
        have ew : List.take (k + 1 + (LB.length - (k + 1))) ((LB.take k).map sbF ++ [AV.sb Y false] ++ (LB.drop (k + 1)).map sbF) = (LB.take k ++ Y :: LB.drop (k + 1)).map sbF := by
          rw [List.take_of_length_le (by simp; omega)]
          simp [sbF]
        obtain ⟨j1, j2, j3⟩ := hcut Y (LB.drop (k + 1)) k (by omega) hkl
        have hml : ∀ x ∈ LB.take k ++ Y :: LB.drop (k + 1), x.length ≤ 1000000 := by
          intro x hx
          rcases List.mem_append.1 hx with h | h
          · rw [hmem x (List.mem_of_mem_take h)]; decide
          · rcases List.mem_cons.1 h with rfl | h
            · omega
            · rw [hmem x (List.mem_of_mem_drop h)]; decide
        have hpre := join_pre _ hml
        have hcl2 : ∀ y ∈ (LB.take k ++ Y :: LB.drop (k + 1)).map sbF, y.closed = true := fun y hy => by obtain ⟨x, _, rfl⟩ := List.mem_map.1 hy; rfl
        have hlw : (LB.take k ++ Y :: LB.drop (k + 1)).length ≤ 1000000 := by rw [List.length_append, List.length_cons, hlk, hld]; omega
        generalize LB.take k ++ Y :: LB.drop (k + 1) = W at *
        have dY : decide (M + Z.length ≤ Y.length) = true := decide_eq_true (by omega)
        have ht : top = 4294967296 := rfl
        have e5 : ((k : Int) * 61 + 9223372036854775808) % 18446744073709551616 - 9223372036854775808 = ((61 * k : Nat) : Int) := by omega
        obtain ⟨N, hN⟩ : ∃ N, min b.length (61 * k) = N := ⟨_, rfl⟩
        have em : (if ((61 * k : Nat) : Int) < (b.length : Int) then ((61 * k : Nat) : Int) else (b.length : Int)) = (N : Int) := by split <;> omega
        have eb : List.take N b = List.take (61 * k) b := by
          rw [← hN]
          rcases Nat.le_total b.length (61 * k) with h | h
          · rw [Nat.min_eq_left h, List.take_of_length_le (Nat.le_refl _), List.take_of_length_le h]
          · rw [Nat.min_eq_right h]
        by_cases hk0 : k = 0
        · have d0 : decide ((k : Int) = 0) = true := decide_eq_true (by omega)
          have hj3 : joinE W = 8 := by rw [j3, if_pos hk0]
          have d3 : decide (joinN W = 0) = true := decide_eq_true (by omega)
          simp (config := { maxSteps := 1000000 }) -implicitDefEqProofs only [Option.getD, awp_skip, awp_label, awp_ret, awp_exit, awp_region, awp_seq, awp_block, awp_cond, aops_nil, aops_plain, aops_guard, later_normal, later_exit, later_ret, blockK_normal, blockK_exit, blockK_ret, regK_apply, aop, aLen, ev, slot, setSlot, putSlot, cv, cvl, aConv, aBin, aInt, aUn, aEq, Out.and, isBool, isPtr, true_and, and_true, List.length, IntKind.bits, evs, evo, evps, aCall, aUser, coes, coe, List.append, List.replicate, callOut, rootsL, AV.roots, lendsL, AV.lends, pinsOf, nodup, lendL, lend, closedB, noimmB, AV.noimm, AV.ren, renL, back, Nat.reduceAdd, Nat.reduceSub, Nat.reduceMul, Int.reduceToNat, Nat.le_refl, reduceCtorEq, false_implies, implies_true, List.nil_append, List.append_nil, List.cons_append, Nat.zero_le, Bool.false_eq_true, aLoad, subv, aIndexAddr, aIndex, TD.aggr, cond_false, cond_true, guardSlot, List.getElem?_cons_succ, List.getElem?_cons_zero, aPick, byte, word, aMin, aMax, Ax.Ends, EndsX, Ax.rvals, rone, AV.ids, idsL, newIds, upTo, pinHeap, gOf, ↓reduceIte, forall_const, List.isEmpty, ne_eq, not_false_eq_true, and_self, true_implies, AV.w.injEq, Value.int.injEq, Value.bool.injEq, IntKind.wrap_u8, IntKind.wrap_u64, IntKind.wrap_i64, Int.reducePow, Nat.reducePow, Nat.min_def, Int.reduceMod, Nat.reduceLeDiff, Int.reduceLE, Int.reduceNe, Int.reduceEq, aBuildSlice, fillB, aAppend, appendB, viewB, Ax.look, Ax.put, Ax.drop, List.drop, List.take, List.set_cons_zero, List.set_cons_succ, asv, aMake, aCopy, srcB, fillG, viewG, appendG, appendI, fillI, aSlice, bnd, bnds, full3, cut, aFieldAddr, aField, aLoad, aStore, setB, aBox, aBuild, fillS, allTy, AV.leaves, AV.okv, AV.leaf, one, splice, elemLeaves, Blk.size, Blk.len, List.replicate_succ, List.replicate_zero, Option.isSome, Option.isNone, isBytes, aStr, aNil, aAlloc, aExtract, aConv, viewI, Nat.reduceEqDiff, Nat.reduceLT, List.length_append, List.length_cons, List.length_nil, Nat.zero_add, Nat.add_zero, Nat.reduceBEq, List.contains, List.elem, Bool.not_true, Bool.not_false, Bool.true_and, Bool.and_true, Bool.and_false, Bool.false_and, Blk.closed, closedL, AV.closed, Blk.noimm, not_true_eq_false, not_false_iff, or_false, or_true, false_or, true_or, Int.toNat_natCast, List.length_replicate, setB, ↓gsplit_tt, ↓gsplit_ff, ↓gsplit_tf, ↓gsplit_ft, gsplit_bt, gsplit_bf, ↓csplit_t, ↓csplit_f, csplit_b, Ax.idx, beq_self_eq_true, BEq.rfl, pinsOf, List.mem_cons, List.not_mem_nil, AV.lentIds, lentIdsL, dropAll, givenUp, AV.clean, cleanL, Blk.clean, cleanB, quietC, flatTy, List.all_cons, List.all_nil, Bool.or_false, Bool.or_true, Bool.true_or, Bool.false_or, decide_true, decide_false, coldStr, notMs, eqV, eqF, isStruct, awpK_skip, awpK_label, awpK_ret, awpK_exit, awpK_region, awpK_seq, awpK_block, awpK_cond, laterK_normal, laterK_exit, laterK_ret, frzS, frzL, ↓frzK_def, aopsK_zero, aopsK_succ, ↓keepK_def, keepA, fzL, fzH, AV.fz, Blk.fz, fgL, fgH, AV.fg, Blk.fg, -coe, coe_w, coe_str, coe_agg, coe_tup, coe_sb, coe_si, coe_cp, coe_ms, coe_rf, coe_fn, coe_cons, -List.replicate, -List.replicate_succ, ty, Scuts, cutsPl, yes5S, blayS, bjoinS, d1, q1, hLB, closed_sbF, List.length_map, e0, eN, hk, ek, et, hl4, d2, hsl, hM, e2, e00, e1, e3, hZ, d0, hXl, htl, hY, dY, et1, et2, ett, hlk, hld, ew, sbF_avB, hj3, d3, hpre, Int.toNat_natCast, Nat.sub_zero, List.drop_zero]
          repeat (refine And.intro (by omega) ?_)
          refine ⟨⟨hcl2, hlw⟩, ?_⟩
          first
            | exact w_ends 6 rfl
            | exact ⟨by omega, w_ends 6 rfl⟩
        · have d0 : decide ((k : Int) = 0) = false := decide_eq_false (by omega)
          have hj3 : joinE W = 0 := by rw [j3, if_neg hk0]
          have d3 : decide (joinN W = (k : Int)) = true := decide_eq_true (by omega)
          simp (config := { maxSteps := 1000000 }) -implicitDefEqProofs only [Option.getD, awp_skip, awp_label, awp_ret, awp_exit, awp_region, awp_seq, awp_block, awp_cond, aops_nil, aops_plain, aops_guard, later_normal, later_exit, later_ret, blockK_normal, blockK_exit, blockK_ret, regK_apply, aop, aLen, ev, slot, setSlot, putSlot, cv, cvl, aConv, aBin, aInt, aUn, aEq, Out.and, isBool, isPtr, true_and, and_true, List.length, IntKind.bits, evs, evo, evps, aCall, aUser, coes, coe, List.append, List.replicate, callOut, rootsL, AV.roots, lendsL, AV.lends, pinsOf, nodup, lendL, lend, closedB, noimmB, AV.noimm, AV.ren, renL, back, Nat.reduceAdd, Nat.reduceSub, Nat.reduceMul, Int.reduceToNat, Nat.le_refl, reduceCtorEq, false_implies, implies_true, List.nil_append, List.append_nil, List.cons_append, Nat.zero_le, Bool.false_eq_true, aLoad, subv, aIndexAddr, aIndex, TD.aggr, cond_false, cond_true, guardSlot, List.getElem?_cons_succ, List.getElem?_cons_zero, aPick, byte, word, aMin, aMax, Ax.Ends, EndsX, Ax.rvals, rone, AV.ids, idsL, newIds, upTo, pinHeap, gOf, ↓reduceIte, forall_const, List.isEmpty, ne_eq, not_false_eq_true, and_self, true_implies, AV.w.injEq, Value.int.injEq, Value.bool.injEq, IntKind.wrap_u8, IntKind.wrap_u64, IntKind.wrap_i64, Int.reducePow, Nat.reducePow, Nat.min_def, Int.reduceMod, Nat.reduceLeDiff, Int.reduceLE, Int.reduceNe, Int.reduceEq, aBuildSlice, fillB, aAppend, appendB, viewB, Ax.look, Ax.put, Ax.drop, List.drop, List.take, List.set_cons_zero, List.set_cons_succ, asv, aMake, aCopy, srcB, fillG, viewG, appendG, appendI, fillI, aSlice, bnd, bnds, full3, cut, aFieldAddr, aField, aLoad, aStore, setB, aBox, aBuild, fillS, allTy, AV.leaves, AV.okv, AV.leaf, one, splice, elemLeaves, Blk.size, Blk.len, List.replicate_succ, List.replicate_zero, Option.isSome, Option.isNone, isBytes, aStr, aNil, aAlloc, aExtract, aConv, viewI, Nat.reduceEqDiff, Nat.reduceLT, List.length_append, List.length_cons, List.length_nil, Nat.zero_add, Nat.add_zero, Nat.reduceBEq, List.contains, List.elem, Bool.not_true, Bool.not_false, Bool.true_and, Bool.and_true, Bool.and_false, Bool.false_and, Blk.closed, closedL, AV.closed, Blk.noimm, not_true_eq_false, not_false_iff, or_false, or_true, false_or, true_or, Int.toNat_natCast, List.length_replicate, setB, ↓gsplit_tt, ↓gsplit_ff, ↓gsplit_tf, ↓gsplit_ft, gsplit_bt, gsplit_bf, ↓csplit_t, ↓csplit_f, csplit_b, Ax.idx, beq_self_eq_true, BEq.rfl, pinsOf, List.mem_cons, List.not_mem_nil, AV.lentIds, lentIdsL, dropAll, givenUp, AV.clean, cleanL, Blk.clean, cleanB, quietC, flatTy, List.all_cons, List.all_nil, Bool.or_false, Bool.or_true, Bool.true_or, Bool.false_or, decide_true, decide_false, coldStr, notMs, eqV, eqF, isStruct, awpK_skip, awpK_label, awpK_ret, awpK_exit, awpK_region, awpK_seq, awpK_block, awpK_cond, laterK_normal, laterK_exit, laterK_ret, frzS, frzL, ↓frzK_def, aopsK_zero, aopsK_succ, ↓keepK_def, keepA, fzL, fzH, AV.fz, Blk.fz, fgL, fgH, AV.fg, Blk.fg, -coe, coe_w, coe_str, coe_agg, coe_tup, coe_sb, coe_si, coe_cp, coe_ms, coe_rf, coe_fn, coe_cons, -List.replicate, -List.replicate_succ, ty, Scuts, cutsPl, yes5S, blayS, bjoinS, d1, q1, hLB, closed_sbF, List.length_map, e0, eN, hk, ek, et, hl4, d2, hsl, hM, e2, e00, e1, e3, hZ, d0, hXl, htl, hY, dY, et1, et2, ett, hlk, hld, ew, sbF_avB, hj3, d3, hpre, e5, em, eb, j1, Int.toNat_natCast, Nat.sub_zero, List.drop_zero]
          repeat (refine And.intro (by omega) ?_)
          refine ⟨⟨hcl2, hlw⟩, ?_⟩
          first
            | exact w_ends 6 rfl
            | exact ⟨by omega, w_ends 6 rfl⟩
      · have d2 : decide ((LB.length : Int) ≤ k) = true := decide_eq_true (by omega)
        simp -implicitDefEqProofs only [Option.getD, awp_skip, awp_label, awp_ret, awp_exit, awp_region, awp_seq, awp_block, awp_cond, aops_nil, aops_plain, aops_guard, later_normal, later_exit, later_ret, blockK_normal, blockK_exit, blockK_ret, regK_apply, aop, aLen, ev, slot, setSlot, putSlot, cv, cvl, aConv, aBin, aInt, aUn, aEq, Out.and, isBool, isPtr, true_and, and_true, List.length, IntKind.bits, evs, evo, evps, aCall, aUser, coes, coe, List.append, List.replicate, callOut, rootsL, AV.roots, lendsL, AV.lends, pinsOf, nodup, lendL, lend, closedB, noimmB, AV.noimm, AV.ren, renL, back, Nat.reduceAdd, Nat.reduceSub, Nat.reduceMul, Int.reduceToNat, Nat.le_refl, reduceCtorEq, false_implies, implies_true, List.nil_append, List.append_nil, List.cons_append, Nat.zero_le, Bool.false_eq_true, aLoad, subv, aIndexAddr, aIndex, TD.aggr, cond_false, cond_true, guardSlot, List.getElem?_cons_succ, List.getElem?_cons_zero, aPick, byte, word, aMin, aMax, Ax.Ends, EndsX, Ax.rvals, rone, AV.ids, idsL, newIds, upTo, pinHeap, gOf, ↓reduceIte, forall_const, List.isEmpty, ne_eq, not_false_eq_true, and_self, true_implies, AV.w.injEq, Value.int.injEq, Value.bool.injEq, IntKind.wrap_u8, IntKind.wrap_u64, IntKind.wrap_i64, Int.reducePow, Nat.reducePow, Nat.min_def, Int.reduceMod, Nat.reduceLeDiff, Int.reduceLE, Int.reduceNe, Int.reduceEq, aBuildSlice, fillB, aAppend, appendB, viewB, Ax.look, Ax.put, Ax.drop, List.drop, List.take, List.set_cons_zero, List.set_cons_succ, asv, aMake, aCopy, srcB, fillG, viewG, appendG, appendI, fillI, aSlice, bnd, bnds, full3, cut, aFieldAddr, aField, aLoad, aStore, setB, aBox, aBuild, fillS, allTy, AV.leaves, AV.okv, AV.leaf, one, splice, elemLeaves, Blk.size, Blk.len, List.replicate_succ, List.replicate_zero, Option.isSome, Option.isNone, isBytes, aStr, aNil, aAlloc, aExtract, aConv, viewI, Nat.reduceEqDiff, Nat.reduceLT, List.length_append, List.length_cons, List.length_nil, Nat.zero_add, Nat.add_zero, Nat.reduceBEq, List.contains, List.elem, Bool.not_true, Bool.not_false, Bool.true_and, Bool.and_true, Bool.and_false, Bool.false_and, Blk.closed, closedL, AV.closed, Blk.noimm, not_true_eq_false, not_false_iff, or_false, or_true, false_or, true_or, Int.toNat_natCast, List.length_replicate, setB, ↓gsplit_tt, ↓gsplit_ff, ↓gsplit_tf, ↓gsplit_ft, gsplit_bt, gsplit_bf, ↓csplit_t, ↓csplit_f, csplit_b, Ax.idx, beq_self_eq_true, BEq.rfl, pinsOf, List.mem_cons, List.not_mem_nil, AV.lentIds, lentIdsL, dropAll, givenUp, AV.clean, cleanL, Blk.clean, cleanB, quietC, flatTy, List.all_cons, List.all_nil, Bool.or_false, Bool.or_true, Bool.true_or, Bool.false_or, decide_true, decide_false, coldStr, notMs, eqV, eqF, isStruct, awpK_skip, awpK_label, awpK_ret, awpK_exit, awpK_region, awpK_seq, awpK_block, awpK_cond, laterK_normal, laterK_exit, laterK_ret, frzS, frzL, ↓frzK_def, aopsK_zero, aopsK_succ, ↓keepK_def, keepA, fzL, fzH, AV.fz, Blk.fz, fgL, fgH, AV.fg, Blk.fg, -coe, coe_w, coe_str, coe_agg, coe_tup, coe_sb, coe_si, coe_cp, coe_ms, coe_rf, coe_fn, coe_cons, -List.replicate, -List.replicate_succ, ty, Scuts, cutsPl, yes5S, blayS, d1, q1, hLB, closed_sbF, List.length_map, e0, eN, hk, ek, et, hl4, d2]
        exact ⟨by have : top = 4294967296 := rfl; omega, by omega, w_ends 6 rfl⟩
    · have d1 : decide ((1000 : Int) < b.length) = true := decide_eq_true (by omega)
      simp -implicitDefEqProofs only [Option.getD, awp_skip, awp_label, awp_ret, awp_exit, awp_region, awp_seq, awp_block, awp_cond, aops_nil, aops_plain, aops_guard, later_normal, later_exit, later_ret, blockK_normal, blockK_exit, blockK_ret, regK_apply, aop, aLen, ev, slot, setSlot, putSlot, cv, cvl, aConv, aBin, aInt, aUn, aEq, Out.and, isBool, isPtr, true_and, and_true, List.length, IntKind.bits, evs, evo, evps, aCall, aUser, coes, coe, List.append, List.replicate, callOut, rootsL, AV.roots, lendsL, AV.lends, pinsOf, nodup, lendL, lend, closedB, noimmB, AV.noimm, AV.ren, renL, back, Nat.reduceAdd, Nat.reduceSub, Nat.reduceMul, Int.reduceToNat, Nat.le_refl, reduceCtorEq, false_implies, implies_true, List.nil_append, List.append_nil, List.cons_append, Nat.zero_le, Bool.false_eq_true, aLoad, subv, aIndexAddr, aIndex, TD.aggr, cond_false, cond_true, guardSlot, List.getElem?_cons_succ, List.getElem?_cons_zero, aPick, byte, word, aMin, aMax, Ax.Ends, EndsX, Ax.rvals, rone, AV.ids, idsL, newIds, upTo, pinHeap, gOf, ↓reduceIte, forall_const, List.isEmpty, ne_eq, not_false_eq_true, and_self, true_implies, AV.w.injEq, Value.int.injEq, Value.bool.injEq, IntKind.wrap_u8, IntKind.wrap_u64, IntKind.wrap_i64, Int.reducePow, Nat.reducePow, Nat.min_def, Int.reduceMod, Nat.reduceLeDiff, Int.reduceLE, Int.reduceNe, Int.reduceEq, aBuildSlice, fillB, aAppend, appendB, viewB, Ax.look, Ax.put, Ax.drop, List.drop, List.take, List.set_cons_zero, List.set_cons_succ, asv, aMake, aCopy, srcB, fillG, viewG, appendG, appendI, fillI, aSlice, bnd, bnds, full3, cut, aFieldAddr, aField, aLoad, aStore, setB, aBox, aBuild, fillS, allTy, AV.leaves, AV.okv, AV.leaf, one, splice, elemLeaves, Blk.size, Blk.len, List.replicate_succ, List.replicate_zero, Option.isSome, Option.isNone, isBytes, aStr, aNil, aAlloc, aExtract, aConv, viewI, Nat.reduceEqDiff, Nat.reduceLT, List.length_append, List.length_cons, List.length_nil, Nat.zero_add, Nat.add_zero, Nat.reduceBEq, List.contains, List.elem, Bool.not_true, Bool.not_false, Bool.true_and, Bool.and_true, Bool.and_false, Bool.false_and, Blk.closed, closedL, AV.closed, Blk.noimm, not_true_eq_false, not_false_iff, or_false, or_true, false_or, true_or, Int.toNat_natCast, List.length_replicate, setB, ↓gsplit_tt, ↓gsplit_ff, ↓gsplit_tf, ↓gsplit_ft, gsplit_bt, gsplit_bf, ↓csplit_t, ↓csplit_f, csplit_b, Ax.idx, beq_self_eq_true, BEq.rfl, pinsOf, List.mem_cons, List.not_mem_nil, AV.lentIds, lentIdsL, dropAll, givenUp, AV.clean, cleanL, Blk.clean, cleanB, quietC, flatTy, List.all_cons, List.all_nil, Bool.or_false, Bool.or_true, Bool.true_or, Bool.false_or, decide_true, decide_false, coldStr, notMs, eqV, eqF, isStruct, awpK_skip, awpK_label, awpK_ret, awpK_exit, awpK_region, awpK_seq, awpK_block, awpK_cond, laterK_normal, laterK_exit, laterK_ret, frzS, frzL, ↓frzK_def, aopsK_zero, aopsK_succ, ↓keepK_def, keepA, fzL, fzH, AV.fz, Blk.fz, fgL, fgH, AV.fg, Blk.fg, -coe, coe_w, coe_str, coe_agg, coe_tup, coe_sb, coe_si, coe_cp, coe_ms, coe_rf, coe_fn, coe_cons, ty, Scuts, cutsPl, yes5S, d1]
      exact w_ends 6 rfl
  · exact hp.elim
end
theorem bcuts_dom' {x y z : AV} (hx : Arg ty 6 22 x) (hy : Arg ty 6 5 y) (hz : Arg ty 6 5 z) : (bcutsS [x, y, z] []).p ∧ (bcutsS [x, y, z] []).x = .w (.bool true) := by
  obtain ⟨b, f, c, t, rfl, rfl, rfl, h, h2⟩ := bcuts_dom hx hy hz
  exact ⟨⟨h, h2⟩, rfl⟩
end Go.Proofs.Ytgkkgbomhfdbkaa
