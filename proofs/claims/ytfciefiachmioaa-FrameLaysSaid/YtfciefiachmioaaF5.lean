/- Layer 7: what every right program frames. -/
import Derived.Test.YtfciefiachmioaaF4
namespace Go.Proofs.Ytfciefiachmioaa
open Ax
set_option linter.unusedSimpArgs false
set_option linter.unusedVariables false
def yes7S : FSpec
  | [], [] => ⟨True, .w (.bool true), []⟩
  | _, _ => noRes
def aw7Pl : KPlan := fun id => match id with
  | 3 => some ([], some 2)
  | _ => none
section
set_option maxRecDepth 100000
def Saw7 (f : FuncId) : Option FSpec :=
  match f with
  | 20 => some flayS
  | 26 => some oneM
  | 28 => some scanA
  | 32 => some fsameS
  | 23 => some fneedS
  | _ => none
theorem Saw7_ok : Fns Try.prog Saw7 := by
  intro f s h
  unfold Saw7 at h
  split at h
  · injection h with h; subst h; exact ⟨⟨_, Try.func20, by kernel_rfl, by kernel_rfl⟩, flay_sound⟩
  · injection h with h; subst h; exact ⟨⟨_, Try.func26, by kernel_rfl, by kernel_rfl⟩, oneM_sound⟩
  · injection h with h; subst h; exact ⟨⟨_, Try.func28, by kernel_rfl, by kernel_rfl⟩, scanA_sound⟩
  · injection h with h; subst h; exact ⟨⟨_, Try.func32, by kernel_rfl, by kernel_rfl⟩, fsame_sound⟩
  · injection h with h; subst h; exact ⟨⟨_, Try.func23, by kernel_rfl, by kernel_rfl⟩, fneed_sound⟩
  · cases h
theorem wE_ends {T : Types} {sl : List AV} {H : Heap} {nx : Nat} {v : Value} {q : Prop} (i : Nat) (h : slot sl i = .w v) : EndsW T [.tmp i] [] ⟨q, .w v, []⟩ .ret ⟨sl, H, nx⟩ := by
  refine ⟨_, Weak.refl _, ?_⟩
  simp only [Ax.Ends, Ax.rvals, EndsX, rone, h, AV.ids, idsL, newIds, upTo, nodup, pinsOf, List.nil_append, AV.ren, and_self]
set_option maxHeartbeats 1000000 in
theorem awake7_sound : Sound Try.prog 19 yes7S := by
  refine fn_soundK (S := Saw7) (T := ty) (pl := aw7Pl) mixed ty_ok Saw7_ok Try.func19 (c := Try.f19.body.getD .skip) (by kernel_rfl) (by kernel_rfl) (fun xs pins hp _ => ?_)
  unfold yes7S at hp ⊢
  split at hp
  · refine ⟨by simp, ?_⟩
    have h8 : ([97, 98] : List UInt8).length ≤ 8192 := by decide
    have hE : flayE [97, 98] = 0 := if_pos h8
    obtain ⟨LB, hLB⟩ : ∃ LB, flayL [97, 98] = LB := ⟨_, rfl⟩
    have hlen : LB.length = 1 := by
      rw [← hLB]; unfold flayL; rw [if_pos h8]
      have := layL_len (bodyF [97, 98])
      rw [bodyF_length] at this
      have e : needI ((12 + ([97, 98] : List UInt8).length : Nat) : Int) = 1 := by decide
      omega
    obtain ⟨B, rfl⟩ : ∃ B, LB = [B] := List.length_eq_one_iff.1 hlen
    have hB14 : B.getD 1 0 = 14 := by
      have : flayL [97, 98] = layL (bodyF [97, 98]) := if_pos h8
      rw [hLB] at this
      unfold layL at this
      injection this with this _
      rw [this]
      have hl : (List.take 61 (bodyF [97, 98])).length = 14 := by rw [List.length_take, bodyF_length]; rfl
      show UInt8.ofNat (List.take 61 (bodyF [97, 98])).length = 14
      rw [hl]; rfl
    have hBl : B.length = 64 := by
      have : flayL [97, 98] = layL (bodyF [97, 98]) := if_pos h8
      refine mem_lay (bodyF [97, 98]) B ?_
      rw [← this, hLB]; simp
    obtain ⟨o1, o2, o3⟩ := one_lay [97, 98] [] h8 rfl
    rw [hLB, List.append_nil] at o1 o2 o3
    have hno : joinGo false ([[]] : List (List UInt8)) = [] := by decide
    have hsc : scanF [B, []] = ([(0, [97, 98])], 1) := by
      have := scan_all [[97, 98]] [[]] 3 0 (by intro b hb; simp at hb; subst hb; exact h8) hno (by decide) (by decide)
      have e : allL [[97, 98]] = [B] := by unfold allL; simp [hLB]
      rw [e] at this
      have e2 : scanF [B, []] = scanGo 3 0 [B, []] := rfl
      rw [e2]
      simpa [places] using this
    have hE49 : fneedI 49 = 1 := by decide
    have hE50 : fneedI 50 = 2 := by decide
    have e97 : UInt8.ofNat 97 = 97 := rfl
    have e98 : UInt8.ofNat 98 = 98 := rfl
    have hmap : [B].map sbF = [AV.sb B false] := rfl
    have hmap2 : [((0 : Nat), [UInt8.ofNat 97, UInt8.ofNat 98])].map fnd = [AV.agg [.w (.int .i64 0), .sb [UInt8.ofNat 97, UInt8.ofNat 98] false]] := rfl
    have hav1 : [AV.sb B false].map avB = [B] := rfl
    have hav2 : [AV.sb B false, AV.sg 1 [] true].map avB = [B, []] := rfl
    have hpre : (∃ ps : List (List UInt8 × Bool), [AV.sb B false] = ps.map sbp ∧ ∀ p ∈ ps, p.1.length ≤ 1000000) := ⟨[(B, false)], rfl, fun p hp => by simp at hp; subst hp; simp only; omega⟩
    have hpre2 : (∃ G : List (List UInt8), [AV.sb B false, AV.sg 1 [] true] = G.map sbF ++ [AV.sg 1 [] true] ∧ ∀ x ∈ G, x.length ≤ 1000000) := ⟨[B], rfl, fun p hp => by simp at hp; subst hp; omega⟩
    have hc1 : ((1 : Nat) : Int) = 1 := rfl
    have hc0 : ((0 : Nat) : Int) = 0 := rfl
    have d11 : decide ((1 : Int) = 1) = true := rfl
    have d00 : decide ((0 : Int) = 0) = true := rfl
    have d22 : decide ((2 : Int) = 2) = true := rfl
    have d14 : decide (((14 : UInt8).toNat : Int) = 14) = true := rfl
    have dab : decide ([UInt8.ofNat 97, UInt8.ofNat 98] = [97, 98]) = true := rfl
    have dabs : decide ((0 : Int) = 0 ∧ [UInt8.ofNat 97, UInt8.ofNat 98] = [UInt8.ofNat 97, UInt8.ofNat 98]) = true := rfl
    have hcl : ∀ y ∈ [AV.sb B false], y.closed = true := fun y hy => by simp at hy; subst hy; rfl
    have hcl2 : ∀ y ∈ [AV.sb B false, AV.sg 1 [] true], y.closed = true := fun y hy => by simp at hy; rcases hy with rfl | rfl <;> rfl
    unfold Try.f19
    rw [← e97, ← e98] at hE hLB o2 hsc
    simp (config := { maxSteps := 1000000 }) -implicitDefEqProofs only [Option.getD, awp_skip, awp_label, awp_ret, awp_exit, awp_region, awp_seq, awp_block, awp_cond, aops_nil, aops_plain, aops_guard, later_normal, later_exit, later_ret, blockK_normal, blockK_exit, blockK_ret, regK_apply, aop, aLen, ev, slot, setSlot, putSlot, cv, cvl, aConv, aBin, aInt, aUn, aEq, Out.and, isBool, isPtr, true_and, and_true, List.length, IntKind.bits, evs, evo, evps, aCall, aUser, coes, coe, List.append, List.replicate, callOut, rootsL, AV.roots, lendsL, AV.lends, pinsOf, nodup, lendL, lend, closedB, noimmB, AV.noimm, AV.ren, renL, back, Nat.reduceAdd, Nat.reduceSub, Nat.reduceMul, Int.reduceToNat, Nat.le_refl, reduceCtorEq, false_implies, implies_true, List.nil_append, List.append_nil, List.cons_append, Nat.zero_le, Bool.false_eq_true, aLoad, subv, aIndexAddr, aIndex, TD.aggr, cond_false, cond_true, guardSlot, List.getElem?_cons_succ, List.getElem?_cons_zero, aPick, byte, word, aMin, aMax, Ax.Ends, EndsX, Ax.rvals, rone, AV.ids, idsL, newIds, upTo, pinHeap, gOf, ↓reduceIte, forall_const, List.isEmpty, ne_eq, not_false_eq_true, and_self, true_implies, AV.w.injEq, Value.int.injEq, Value.bool.injEq, IntKind.wrap_u8, IntKind.wrap_u64, IntKind.wrap_i64, Int.reducePow, Nat.reducePow, Nat.min_def, Int.reduceMod, Nat.reduceLeDiff, Int.reduceLE, Int.reduceNe, Int.reduceEq, aBuildSlice, fillB, aAppend, appendB, viewB, Ax.look, Ax.put, Ax.drop, List.drop, List.take, List.set_cons_zero, List.set_cons_succ, asv, aMake, aCopy, srcB, fillG, viewG, appendG, appendI, fillI, aSlice, bnd, bnds, full3, cut, aFieldAddr, aField, aLoad, aStore, setB, aBox, aBuild, fillS, allTy, AV.leaves, AV.okv, AV.leaf, one, splice, elemLeaves, Blk.size, Blk.len, List.replicate_succ, List.replicate_zero, Option.isSome, Option.isNone, isBytes, aStr, aNil, aAlloc, aExtract, aConv, viewI, Nat.reduceEqDiff, Nat.reduceLT, List.length_append, List.length_cons, List.length_nil, Nat.zero_add, Nat.add_zero, Nat.reduceBEq, List.contains, List.elem, Bool.not_true, Bool.not_false, Bool.true_and, Bool.and_true, Bool.and_false, Bool.false_and, Blk.closed, closedL, AV.closed, Blk.noimm, not_true_eq_false, not_false_iff, or_false, or_true, false_or, true_or, Int.toNat_natCast, List.length_replicate, setB, ↓gsplit_tt, ↓gsplit_ff, ↓gsplit_tf, ↓gsplit_ft, gsplit_bt, gsplit_bf, ↓csplit_t, ↓csplit_f, csplit_b, Ax.idx, beq_self_eq_true, BEq.rfl, pinsOf, List.mem_cons, List.not_mem_nil, AV.lentIds, lentIdsL, dropAll, givenUp, AV.clean, cleanL, Blk.clean, cleanB, quietC, flatTy, List.all_cons, List.all_nil, Bool.or_false, Bool.or_true, Bool.true_or, Bool.false_or, decide_true, decide_false, coldStr, notMs, eqV, eqF, isStruct, awpK_skip, awpK_label, awpK_ret, awpK_exit, awpK_region, awpK_seq, awpK_block, awpK_cond, laterK_normal, laterK_exit, laterK_ret, frzS, frzL, ↓frzK_def, aopsK_zero, aopsK_succ, ↓keepK_def, keepA, fzL, fzH, AV.fz, Blk.fz, fgL, fgH, AV.fg, Blk.fg, -coe, coe_w, coe_str, coe_agg, coe_tup, coe_sb, coe_si, coe_cp, coe_ms, coe_rf, coe_fn, coe_cons, ty, Saw7, aw7Pl, flayS, oneM, scanA, fsameS, fneedS, hE, hLB, o1, o2, o3, hsc, hB14, hBl, hE49, hE50, hmap, hmap2, hav1, hav2, hpre, hpre2, hc1, hc0, d11, d00, d22, d14, dab, dabs]
    exact ⟨by decide, fun y h => by subst h; rfl, by decide, by decide, wE_ends 0 rfl⟩
  · exact hp.elim
end
end Go.Proofs.Ytfciefiachmioaa
