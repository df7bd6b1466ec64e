/- Layer 32: bytes made shorter. -/
import Derived.Test.YtliabgocaijafaaW2
import Derived.Test.YtliabgocaijafaaA3
namespace Go.Proofs.Ytliabgocaijafaa
open Ax
set_option linter.unusedSimpArgs false
set_option linter.unusedVariables false

def runB (l : List UInt8) : List UInt8 := UInt8.ofNat (l.length - 1) :: l
def mtB (p : Nat × Nat) : List UInt8 := [UInt8.ofNat (128 + p.1 - 4), UInt8.ofNat (p.2 / 256), UInt8.ofNat (p.2 % 256)]
/-- What is packed of bytes from a place on, where a run began that is under way. -/
def pk (b : List UInt8) : Nat → Nat → Nat → List UInt8
  | 0, s, _ => if s < b.length then runB (b.drop s) else []
  | f + 1, s, a =>
    if a < b.length then
      (if (mtA b a).1 = 0 then (if a - s = 128 then runB ((b.drop s).take (a - s)) ++ pk b f a (a + 1) else pk b f s (a + 1))
       else (if s < a then runB ((b.drop s).take (a - s)) else []) ++ (mtB (mtA b a) ++ pk b f (a + (mtA b a).1) (a + (mtA b a).1)))
    else if s < b.length then runB (b.drop s) else []
def packL (b : List UInt8) : List UInt8 := pk b b.length 0 0
theorem cutM_cases (p : Nat × Nat) : cutM p = (0, 0) ∨ (4 ≤ p.1 ∧ cutM p = p) := by
  unfold cutM
  by_cases h : p.1 < 4
  · exact .inl (if_pos h)
  · exact .inr ⟨by omega, if_neg h⟩
theorem bestM_is (b : List UInt8) (a : Nat) : ∀ d, 0 < (bestM b a d).1 → (bestM b a d).1 = lenM b a (bestM b a d).2 ∧ 1 ≤ (bestM b a d).2
  | 0, h => by simp [bestM] at h
  | d + 1, h => by
    have e : bestM b a (d + 1) = if (bestM b a d).1 < lenM b a (d + 1) then (lenM b a (d + 1), d + 1) else bestM b a d := rfl
    rw [e] at h ⊢
    split
    · exact ⟨rfl, by simp⟩
    · rename_i hn
      rw [if_neg hn] at h
      exact bestM_is b a d h
theorem lenM_all {b : List UInt8} {a d k : Nat} (h : k < lenM b a d) : eqA b a d k = true := tw_all _ _ k h
/-- What a match is. -/
theorem mtA_is (b : List UInt8) (a : Nat) (ha : a < b.length) : mtA b a = (0, 0) ∨ (4 ≤ (mtA b a).1 ∧ (mtA b a).1 ≤ 131 ∧ 1 ≤ (mtA b a).2 ∧ (mtA b a).2 ≤ a ∧ (mtA b a).2 ≤ 1024 ∧ a + (mtA b a).1 ≤ b.length ∧ (mtA b a).1 = lenM b a (mtA b a).2) := by
  unfold mtA
  rcases cutM_cases (bestM b a (min a 1024)) with h | ⟨h1, h2⟩
  · exact .inl h
  · rw [h2]
    obtain ⟨h3, h4⟩ := bestM_is b a (min a 1024) (by omega)
    obtain ⟨h5, h6⟩ := bestM_le b a (min a 1024)
    refine .inr ⟨h1, h5, h4, by omega, by omega, ?_, h3⟩
    have h7 := lenM_all (b := b) (a := a) (d := (bestM b a (min a 1024)).2) (k := (bestM b a (min a 1024)).1 - 1) (by omega)
    unfold eqA at h7
    rw [Bool.and_eq_true] at h7
    have h8 := of_decide_eq_true h7.1
    clear h7
    omega
theorem mt32_at {b : List UInt8} {a : Nat} (h : a < b.length) : mt32 b (a : Int) = mtA b a := by
  unfold mt32
  rw [if_pos (by omega), Int.toNat_natCast]
theorem pk_int1 (n : Nat) (h1 : 4 ≤ n) (h2 : n ≤ 131) : ((((128 + (n : Int) + 9223372036854775808) % 18446744073709551616 - 9223372036854775808) - 4 + 9223372036854775808) % 18446744073709551616 - 9223372036854775808) % 256 = ((128 + n - 4 : Nat) : Int) := by
  have e : (128 + (n : Int) + 9223372036854775808) % 18446744073709551616 - 9223372036854775808 = 128 + n := by omega
  rw [e]
  have e2 : (128 + (n : Int) - 4 + 9223372036854775808) % 18446744073709551616 - 9223372036854775808 = 128 + n - 4 := by omega
  rw [e2]; omega
theorem pk_int2 (a n : Nat) (h : a + n ≤ 100000000) : ((a : Int) + n + 9223372036854775808) % 18446744073709551616 - 9223372036854775808 = ((a + n : Nat) : Int) := by omega
def run32S : FSpec
  | [.sb l f], [] => ⟨1 ≤ l.length ∧ l.length ≤ 128, .ms 0 1 0 (runB l).length, [.b (runB l)]⟩
  | _, _ => noRes
section
set_option maxRecDepth 100000
set_option maxHeartbeats 1000000 in
theorem run32_sound : Sound Try.prog 20 run32S := by
  refine fn_sound (S := noS) (T := ty) mixed ty_ok noS_ok Try.func20 (c := Try.f20.body.getD .skip) (by kernel_rfl) (by kernel_rfl) (fun xs pins hp _ => ?_)
  unfold run32S at hp ⊢
  split at hp
  · rename_i l f _
    obtain ⟨h1, h2⟩ := hp
    refine ⟨by simp, ?_⟩
    have e1 : (1 + (l.length : Int) + 9223372036854775808) % 18446744073709551616 - 9223372036854775808 = ((l.length + 1 : Nat) : Int) := by omega
    have e2 : (((l.length : Int) - 1 + 9223372036854775808) % 18446744073709551616 - 9223372036854775808) % 256 = ((l.length - 1 : Nat) : Int) := by omega
    have e3 : List.take (l.length + 1 - 1) l = l := List.take_of_length_le (by omega)
    unfold Try.f20
    simp -implicitDefEqProofs only [evT, implies_true, forall_const, Option.getD, later_normal, aop, aLen, ev, slot, setSlot, putSlot, cv, cvl, aConv, aBin, aInt, aUn, aFn, aEq, Out.and, isBool, isPtr, List.length, IntKind.bits, evs, evo, evps, aCall, aUser, coes, coe, List.append, List.replicate, callOut, rootsL, AV.roots, lendsL, AV.lends, pinsOf, nodup, lendL, lend, closedB, noimmB, AV.noimm, AV.ren, renL, back, Nat.reduceAdd, Nat.reduceSub, Nat.reduceMul, Int.reduceToNat, reduceCtorEq, aLoad, subv, aIndexAddr, aIndex, TD.aggr, guardSlot, aPick, byte, word, aMin, aMax, Ax.Ends, EndsX, Ax.rvals, rone, AV.ids, idsL, newIds, upTo, pinHeap, gOf, ↓reduceIte, List.isEmpty, Int.reducePow, Nat.reducePow, Int.reduceMod, Nat.reduceLeDiff, Int.reduceLE, Int.reduceNe, Int.reduceEq, aBuildSlice, fillB, aAppend, appendB, viewB, Ax.look, Ax.put, Ax.drop, List.drop, List.take, asv, aMake, aCopy, srcB, fillG, viewG, appendG, appendI, fillI, aSlice, bnd, bnds, full3, cut, aFieldAddr, aField, aStore, setB, aBox, aBuild, fillS, allTy, AV.leaves, AV.okv, AV.leaf, one, splice, elemLeaves, Blk.size, Blk.len, Option.isSome, Option.isNone, isBytes, aStr, aNil, aAlloc, aExtract, viewI, Nat.reduceEqDiff, Nat.reduceLT, Nat.reduceBEq, List.contains, List.elem, Blk.closed, closedL, AV.closed, Blk.noimm, ↓gsplit_tt, ↓gsplit_ff, ↓gsplit_tf, ↓gsplit_ft, ↓csplit_t, ↓csplit_f, Ax.idx, AV.lentIds, lentIdsL, dropAll, givenUp, AV.clean, cleanL, Blk.clean, cleanB, quietC, flatTy, coldStr, notMs, eqV, eqF, isStruct, -coe, coe_w, coe_str, coe_agg, coe_tup, coe_sb, coe_si, coe_cp, coe_ms, coe_rf, coe_fn, coe_cons, ty, noS, e1, e2, Int.toNat_natCast, runB]
    have e5 : (1 + if l.length ≤ l.length + 1 - 1 then l.length else l.length + 1 - 1) = l.length + 1 := by split <;> omega
    refine ⟨by omega, by omega, by omega, ⟨by omega, by unfold top; omega⟩, ?_⟩
    rw [e3, e5, List.drop_eq_nil_of_le (by simp), List.append_nil]
  · exact hp.elim
def pack32S : FSpec
  | [.sb bs f], [] => ⟨bs.length ≤ 1000000, .ms 0 1 0 (packL bs).length, [.b (packL bs)]⟩
  | _, _ => noRes
def Spack32 (f : FuncId) : Option FSpec :=
  match f with
  | 20 => some run32S
  | 8 => some match32S
  | 21 => some fixS
  | _ => none
theorem Spack32_ok : Fns Try.prog Spack32 := by
  intro f s h
  unfold Spack32 at h
  split at h
  · injection h with h; subst h; exact ⟨⟨_, Try.func20, by kernel_rfl, by kernel_rfl⟩, run32_sound⟩
  · injection h with h; subst h; exact ⟨⟨_, Try.func8, by kernel_rfl, by kernel_rfl⟩, match32_sound⟩
  · injection h with h; subst h; exact ⟨⟨_, Try.func21, by kernel_rfl, by kernel_rfl⟩, fixed_sound⟩
  · cases h
theorem pack_len {b : List UInt8} : ∀ f s a, s ≤ a → a ≤ b.length → b.length - a ≤ f → a - s ≤ 128 → (pk b f s a).length ≤ 2 * (b.length - s) := by
  intro f
  induction f with
  | zero =>
    intro s a h1 h2 h3 h4
    unfold pk
    split
    · unfold runB; simp; omega
    · simp
  | succ f ih =>
    intro s a h1 h2 h3 h4
    unfold pk
    by_cases ha : a < b.length
    · rw [if_pos ha]
      by_cases hn : (mtA b a).1 = 0
      · rw [if_pos hn]
        by_cases hs : a - s = 128
        · rw [if_pos hs, List.length_append]
          have := ih a (a + 1) (by omega) (by omega) (by omega) (by omega)
          unfold runB; simp; omega
        · rw [if_neg hs]
          exact ih s (a + 1) (by omega) (by omega) (by omega) (by omega)
      · rw [if_neg hn, List.length_append, List.length_append]
        rcases mtA_is b a ha with h | ⟨h5, h6, h7, h8, h9, h10, h11⟩
        · rw [h] at hn; exact (hn rfl).elim
        · have := ih (a + (mtA b a).1) (a + (mtA b a).1) (by omega) (by omega) (by omega) (by omega)
          have hb : (mtB (mtA b a)).length = 3 := rfl
          rw [hb]
          split
          · unfold runB; simp; omega
          · simp; omega
    · rw [if_neg ha]
      split
      · unfold runB; simp; omega
      · simp
set_option maxHeartbeats 4000000 in
theorem pack32_sound : Sound Try.prog 10 pack32S := by
  refine fn_sound (S := Spack32) (T := ty) mixed ty_ok Spack32_ok Try.func10 (c := Try.f10.body.getD .skip) (by kernel_rfl) (by kernel_rfl) (fun xs pins hp _ => ?_)
  unfold pack32S at hp ⊢
  split at hp
  · rename_i bs f _
    have hL : bs.length ≤ 1000000 := hp
    refine ⟨by simp, ?_⟩
    unfold Try.f10
    simp -implicitDefEqProofs only [evT, implies_true, forall_const, Option.getD, later_normal, aop, aLen, ev, slot, setSlot, putSlot, cv, cvl, aConv, aBin, aInt, aUn, aFn, aEq, Out.and, isBool, isPtr, List.length, IntKind.bits, evs, evo, evps, aCall, aUser, coes, coe, List.append, List.replicate, callOut, rootsL, AV.roots, lendsL, AV.lends, pinsOf, nodup, lendL, lend, closedB, noimmB, AV.noimm, AV.ren, renL, back, Nat.reduceAdd, Nat.reduceSub, Nat.reduceMul, Int.reduceToNat, reduceCtorEq, aLoad, subv, aIndexAddr, aIndex, TD.aggr, guardSlot, aPick, byte, word, aMin, aMax, Ax.Ends, EndsX, Ax.rvals, rone, AV.ids, idsL, newIds, upTo, pinHeap, gOf, ↓reduceIte, List.isEmpty, Int.reducePow, Nat.reducePow, Int.reduceMod, Nat.reduceLeDiff, Int.reduceLE, Int.reduceNe, Int.reduceEq, aBuildSlice, fillB, aAppend, appendB, viewB, Ax.look, Ax.put, Ax.drop, List.drop, List.take, asv, aMake, aCopy, srcB, fillG, viewG, appendG, appendI, fillI, aSlice, bnd, bnds, full3, cut, aFieldAddr, aField, aStore, setB, aBox, aBuild, fillS, allTy, AV.leaves, AV.okv, AV.leaf, one, splice, elemLeaves, Blk.size, Blk.len, Option.isSome, Option.isNone, isBytes, aStr, aNil, aAlloc, aExtract, viewI, Nat.reduceEqDiff, Nat.reduceLT, Nat.reduceBEq, List.contains, List.elem, Blk.closed, closedL, AV.closed, Blk.noimm, ↓gsplit_tt, ↓gsplit_ff, ↓gsplit_tf, ↓gsplit_ft, ↓csplit_t, ↓csplit_f, Ax.idx, AV.lentIds, lentIdsL, dropAll, givenUp, AV.clean, cleanL, Blk.clean, cleanB, quietC, flatTy, coldStr, notMs, eqV, eqF, isStruct, -coe, coe_w, coe_str, coe_agg, coe_tup, coe_sb, coe_si, coe_cp, coe_ms, coe_rf, coe_fn, coe_cons, ty, Spack32]
    refine awp_loop ⟨fun m σ => ∃ (s a g : Nat) (o : List UInt8), m = bs.length - a ∧ s ≤ a ∧ a ≤ bs.length ∧ a - s ≤ 128 ∧ bs.length - a ≤ g ∧ o ++ pk bs g s a = packL bs ∧ o.length ≤ 2 * s ∧
        σ = ⟨[.sb bs f, .junk, .junk, .ms 4 1 0 o.length, .w (.int .i64 s), .w (.int .i64 a), .junk, .junk, .junk, .junk, .junk, .junk, .junk, .junk, .junk, .junk, .junk, .junk, .junk, .junk, .junk, .junk, .junk, .junk, .junk, .junk, .junk, .junk, .junk, .junk, .junk, .junk, .junk, .junk, .junk, .junk, .junk, .junk, .junk, .junk, .junk, .junk, .junk, .junk, .junk, .junk, .junk, .junk, .junk, .junk, .junk, .junk, .junk, .junk, .junk, .junk, .junk, .junk, .junk, .junk, .junk, .junk, .junk, .junk, .junk, .junk, .junk, .junk, .junk, .junk], [(4, .b o)], 5⟩, ?_, ?_⟩
    · refine ⟨_, _, (weak_nil 3 1 (.b []) rfl (by exact trivial)).trans (weak_ren [0, 1, 2, 3, 36] rfl rfl rfl ?_ ?_), 0, 0, bs.length, [], rfl, by omega, by omega, by omega, by omega, rfl, by simp, rfl⟩
      · simp only [SameS, SameH, setSlot, gOf, AV.ren, renL, Blk.ren, Ax.look, Ax.put, reduceCtorEq, true_or, false_or, or_true, or_false, and_true, true_and, AV.w.injEq, Value.int.injEq, Value.bool.injEq, AV.ms.injEq, AV.sb.injEq, AV.str.injEq, ↓reduceIte, Nat.reduceEqDiff, Nat.reduceLT, List.length_append, List.length_cons, List.length_nil, Nat.zero_add, Nat.add_zero, Option.some.injEq, Blk.b.injEq, Blk.i.injEq, Nat.succ_ne_zero, Nat.reduceAdd, and_self]; try simp; try rfl
      · simp only [SameS, SameH, setSlot, gOf, AV.ren, renL, Blk.ren, Ax.look, Ax.put, reduceCtorEq, true_or, false_or, or_true, or_false, and_true, true_and, AV.w.injEq, Value.int.injEq, Value.bool.injEq, AV.ms.injEq, AV.sb.injEq, AV.str.injEq, ↓reduceIte, Nat.reduceEqDiff, Nat.reduceLT, List.length_append, List.length_cons, List.length_nil, Nat.zero_add, Nat.add_zero, Option.some.injEq, Blk.b.injEq, Blk.i.injEq, Nat.succ_ne_zero, Nat.reduceAdd, and_self]
    · rintro m σ ⟨s, a, g, o, rfl, h1, h2, h3, h4, hpk, hol, rfl⟩
      by_cases hal : a < bs.length
      · have d1 : decide ((a : Int) < bs.length) = true := decide_eq_true (by omega)
        have e1 : ((a : Int) + 1 + 9223372036854775808) % 18446744073709551616 - 9223372036854775808 = ((a + 1 : Nat) : Int) := by omega
        have e2 : ((a : Int) - s + 9223372036854775808) % 18446744073709551616 - 9223372036854775808 = ((a - s : Nat) : Int) := by omega
        have hmt := mt32_at hal
        obtain ⟨g, rfl⟩ : ∃ k, g = k + 1 := ⟨g - 1, by omega⟩
        have hpk0 : pk bs (g + 1) s a = (if (mtA bs a).1 = 0 then (if a - s = 128 then runB ((bs.drop s).take (a - s)) ++ pk bs g a (a + 1) else pk bs g s (a + 1)) else (if s < a then runB ((bs.drop s).take (a - s)) else []) ++ (mtB (mtA bs a) ++ pk bs g (a + (mtA bs a).1) (a + (mtA bs a).1))) := if_pos hal
        rw [hpk0] at hpk
        have hml := mtA_is bs a hal
        have hrl : ((bs.drop s).take (a - s)).length = a - s := by simp; omega
        have hrb : (runB ((bs.drop s).take (a - s))).length = a - s + 1 := by unfold runB; rw [List.length_cons, hrl]
        have htk : List.take (a - s + 1) (runB ((bs.drop s).take (a - s))) = runB ((bs.drop s).take (a - s)) := List.take_of_length_le (by omega)
        obtain ⟨R, hR⟩ : ∃ R, runB ((bs.drop s).take (a - s)) = R := ⟨_, rfl⟩
        rw [hR] at hpk hrb htk
        obtain ⟨⟨n, d⟩, hM⟩ : ∃ M, mtA bs a = M := ⟨_, rfl⟩
        rw [hM] at hmt hml hpk
        simp only at hpk hml
        by_cases hn : n = 0
        · have d3 : decide ((0 : Int) < (n : Int)) = false := decide_eq_false (by omega)
          have d5 : decide ((n : Int) = 0) = true := decide_eq_true (by omega)
          rw [if_pos hn] at hpk
          by_cases h128 : a - s = 128
          · rw [if_pos h128, ← List.append_assoc] at hpk
            have d2 : decide ((s : Int) < (a : Int)) = true := decide_eq_true (by omega)
            have d4 : decide (((a - s : Nat) : Int) = 128) = true := decide_eq_true (by omega)
            simp -implicitDefEqProofs only [evT, implies_true, forall_const, Option.getD, later_normal, aop, aLen, ev, slot, setSlot, putSlot, cv, cvl, aConv, aBin, aInt, aUn, aFn, aEq, Out.and, isBool, isPtr, List.length, IntKind.bits, evs, evo, evps, aCall, aUser, coes, coe, List.append, List.replicate, callOut, rootsL, AV.roots, lendsL, AV.lends, pinsOf, nodup, lendL, lend, closedB, noimmB, AV.noimm, AV.ren, renL, back, Nat.reduceAdd, Nat.reduceSub, Nat.reduceMul, Int.reduceToNat, reduceCtorEq, aLoad, subv, aIndexAddr, aIndex, TD.aggr, guardSlot, aPick, byte, word, aMin, aMax, Ax.Ends, EndsX, Ax.rvals, rone, AV.ids, idsL, newIds, upTo, pinHeap, gOf, ↓reduceIte, List.isEmpty, Int.reducePow, Nat.reducePow, Int.reduceMod, Nat.reduceLeDiff, Int.reduceLE, Int.reduceNe, Int.reduceEq, aBuildSlice, fillB, aAppend, appendB, viewB, Ax.look, Ax.put, Ax.drop, List.drop, List.take, asv, aMake, aCopy, srcB, fillG, viewG, appendG, appendI, fillI, aSlice, bnd, bnds, full3, cut, aFieldAddr, aField, aStore, setB, aBox, aBuild, fillS, allTy, AV.leaves, AV.okv, AV.leaf, one, splice, elemLeaves, Blk.size, Blk.len, Option.isSome, Option.isNone, isBytes, aStr, aNil, aAlloc, aExtract, viewI, Nat.reduceEqDiff, Nat.reduceLT, Nat.reduceBEq, List.contains, List.elem, Blk.closed, closedL, AV.closed, Blk.noimm, ↓gsplit_tt, ↓gsplit_ff, ↓gsplit_tf, ↓gsplit_ft, ↓csplit_t, ↓csplit_f, Ax.idx, AV.lentIds, lentIdsL, dropAll, givenUp, AV.clean, cleanL, Blk.clean, cleanB, quietC, flatTy, coldStr, notMs, eqV, eqF, isStruct, -coe, coe_w, coe_str, coe_agg, coe_tup, coe_sb, coe_si, coe_cp, coe_ms, coe_rf, coe_fn, coe_cons, ty, Spack32, match32S, run32S, d1, d2, d3, d4, d5, e1, e2, hmt, hrl, hrb, hR, htk, hL, Int.toNat_natCast]
            refine ⟨by omega, by omega, by unfold top; omega, bs.length - (a + 1), _, by omega, weak_ren [0, 1, 2, 3, 253] rfl rfl rfl ?_ ?_, a, a + 1, g, o ++ R, rfl, by omega, by omega, by omega, by omega, hpk, by rw [List.length_append, hrb]; omega, rfl⟩
            · simp only [SameS, SameH, setSlot, gOf, AV.ren, renL, Blk.ren, Ax.look, Ax.put, reduceCtorEq, true_or, false_or, or_true, or_false, and_true, true_and, AV.w.injEq, Value.int.injEq, Value.bool.injEq, AV.ms.injEq, AV.sb.injEq, AV.str.injEq, ↓reduceIte, Nat.reduceEqDiff, Nat.reduceLT, List.length_append, List.length_cons, List.length_nil, Nat.zero_add, Nat.add_zero, Option.some.injEq, Blk.b.injEq, Blk.i.injEq, Nat.succ_ne_zero, Nat.reduceAdd, and_self, hrb]
            · simp only [SameS, SameH, setSlot, gOf, AV.ren, renL, Blk.ren, Ax.look, Ax.put, reduceCtorEq, true_or, false_or, or_true, or_false, and_true, true_and, AV.w.injEq, Value.int.injEq, Value.bool.injEq, AV.ms.injEq, AV.sb.injEq, AV.str.injEq, ↓reduceIte, Nat.reduceEqDiff, Nat.reduceLT, List.length_append, List.length_cons, List.length_nil, Nat.zero_add, Nat.add_zero, Option.some.injEq, Blk.b.injEq, Blk.i.injEq, Nat.succ_ne_zero, Nat.reduceAdd, and_self]
          · rw [if_neg h128] at hpk
            have d4 : decide (((a - s : Nat) : Int) = 128) = false := decide_eq_false (by omega)
            have d2 : decide ((s : Int) < (a : Int)) = true ∨ decide ((s : Int) < (a : Int)) = false := by
              by_cases h : (s : Int) < (a : Int)
              · exact .inl (decide_eq_true h)
              · exact .inr (decide_eq_false h)
            rcases d2 with d2 | d2
            all_goals simp -implicitDefEqProofs only [evT, implies_true, forall_const, Option.getD, later_normal, aop, aLen, ev, slot, setSlot, putSlot, cv, cvl, aConv, aBin, aInt, aUn, aFn, aEq, Out.and, isBool, isPtr, List.length, IntKind.bits, evs, evo, evps, aCall, aUser, coes, coe, List.append, List.replicate, callOut, rootsL, AV.roots, lendsL, AV.lends, pinsOf, nodup, lendL, lend, closedB, noimmB, AV.noimm, AV.ren, renL, back, Nat.reduceAdd, Nat.reduceSub, Nat.reduceMul, Int.reduceToNat, reduceCtorEq, aLoad, subv, aIndexAddr, aIndex, TD.aggr, guardSlot, aPick, byte, word, aMin, aMax, Ax.Ends, EndsX, Ax.rvals, rone, AV.ids, idsL, newIds, upTo, pinHeap, gOf, ↓reduceIte, List.isEmpty, Int.reducePow, Nat.reducePow, Int.reduceMod, Nat.reduceLeDiff, Int.reduceLE, Int.reduceNe, Int.reduceEq, aBuildSlice, fillB, aAppend, appendB, viewB, Ax.look, Ax.put, Ax.drop, List.drop, List.take, asv, aMake, aCopy, srcB, fillG, viewG, appendG, appendI, fillI, aSlice, bnd, bnds, full3, cut, aFieldAddr, aField, aStore, setB, aBox, aBuild, fillS, allTy, AV.leaves, AV.okv, AV.leaf, one, splice, elemLeaves, Blk.size, Blk.len, Option.isSome, Option.isNone, isBytes, aStr, aNil, aAlloc, aExtract, viewI, Nat.reduceEqDiff, Nat.reduceLT, Nat.reduceBEq, List.contains, List.elem, Blk.closed, closedL, AV.closed, Blk.noimm, ↓gsplit_tt, ↓gsplit_ff, ↓gsplit_tf, ↓gsplit_ft, ↓csplit_t, ↓csplit_f, Ax.idx, AV.lentIds, lentIdsL, dropAll, givenUp, AV.clean, cleanL, Blk.clean, cleanB, quietC, flatTy, coldStr, notMs, eqV, eqF, isStruct, -coe, coe_w, coe_str, coe_agg, coe_tup, coe_sb, coe_si, coe_cp, coe_ms, coe_rf, coe_fn, coe_cons, ty, Spack32, match32S, run32S, d1, d2, d3, d4, d5, e1, e2, hmt, hL, Int.toNat_natCast]
            all_goals refine ⟨bs.length - (a + 1), _, by omega, weak_ren [0, 1, 2, 3, 4] rfl rfl rfl ?_ ?_, s, a + 1, g, o, rfl, by omega, by omega, by omega, by omega, hpk, hol, rfl⟩
            all_goals simp only [SameS, SameH, setSlot, gOf, AV.ren, renL, Blk.ren, Ax.look, Ax.put, reduceCtorEq, true_or, false_or, or_true, or_false, and_true, true_and, AV.w.injEq, Value.int.injEq, Value.bool.injEq, AV.ms.injEq, AV.sb.injEq, AV.str.injEq, ↓reduceIte, Nat.reduceEqDiff, Nat.reduceLT, List.length_append, List.length_cons, List.length_nil, Nat.zero_add, Nat.add_zero, Option.some.injEq, Blk.b.injEq, Blk.i.injEq, Nat.succ_ne_zero, Nat.reduceAdd, and_self]
        · have d3 : decide ((0 : Int) < (n : Int)) = true := decide_eq_true (by omega)
          have d5 : decide ((n : Int) = 0) = false := decide_eq_false (by omega)
          rw [if_neg hn] at hpk
          have hml : 4 ≤ n ∧ n ≤ 131 ∧ 1 ≤ d ∧ d ≤ a ∧ d ≤ 1024 ∧ a + n ≤ bs.length ∧ n = lenM bs a d := by
            rcases hml with h | h
            · injection h with h1 h2; exact (hn h1).elim
            · exact h
          obtain ⟨m1, m2, m3, m4, m5, m6, _⟩ := hml
          have c2 : clampI 2 = 2 := by decide
          have e6 : (d : Int) % 18446744073709551616 = (d : Int) := by omega
          have e7 : ((a : Int) + n + 9223372036854775808) % 18446744073709551616 - 9223372036854775808 = ((a + n : Nat) : Int) := pk_int2 a n (by omega)
          have q6 : (0 : Int) ≤ (d : Int) ∧ (d : Int) < 18446744073709551616 := by omega
          have hfx : mtB (n, d) = UInt8.ofNat (128 + n - 4) :: fixL d 2 := by
            have x1 : d / 256 ^ 1 % 256 = d / 256 := by omega
            have x2 : d / 256 ^ 0 % 256 = d % 256 := by omega
            unfold mtB fixL fixL fixL
            rw [x1, x2]
          have hfl : (fixL d 2).length = 2 := rfl
          obtain ⟨F, hF⟩ : ∃ F, fixL d 2 = F := ⟨_, rfl⟩
          rw [hF] at hfx hfl
          rw [hfx] at hpk
          have tkF : List.take 2 F = F := List.take_of_length_le (by omega)
          by_cases hsa : s < a
          · rw [if_pos hsa] at hpk
            have d2 : decide ((s : Int) < (a : Int)) = true := decide_eq_true (by omega)
            have e5 : ((((128 + (n : Int) + 9223372036854775808) % 18446744073709551616 - 9223372036854775808) - 4 + 9223372036854775808) % 18446744073709551616 - 9223372036854775808) % 256 = ((128 + n - 4 : Nat) : Int) := pk_int1 n m1 m2
            simp -implicitDefEqProofs only [evT, implies_true, forall_const, Option.getD, later_normal, aop, aLen, ev, slot, setSlot, putSlot, cv, cvl, aConv, aBin, aInt, aUn, aFn, aEq, Out.and, isBool, isPtr, List.length, IntKind.bits, evs, evo, evps, aCall, aUser, coes, coe, List.append, List.replicate, callOut, rootsL, AV.roots, lendsL, AV.lends, pinsOf, nodup, lendL, lend, closedB, noimmB, AV.noimm, AV.ren, renL, back, Nat.reduceAdd, Nat.reduceSub, Nat.reduceMul, Int.reduceToNat, reduceCtorEq, aLoad, subv, aIndexAddr, aIndex, TD.aggr, guardSlot, aPick, byte, word, aMin, aMax, Ax.Ends, EndsX, Ax.rvals, rone, AV.ids, idsL, newIds, upTo, pinHeap, gOf, ↓reduceIte, List.isEmpty, Int.reducePow, Nat.reducePow, Int.reduceMod, Nat.reduceLeDiff, Int.reduceLE, Int.reduceNe, Int.reduceEq, aBuildSlice, fillB, aAppend, appendB, viewB, Ax.look, Ax.put, Ax.drop, List.drop, List.take, asv, aMake, aCopy, srcB, fillG, viewG, appendG, appendI, fillI, aSlice, bnd, bnds, full3, cut, aFieldAddr, aField, aStore, setB, aBox, aBuild, fillS, allTy, AV.leaves, AV.okv, AV.leaf, one, splice, elemLeaves, Blk.size, Blk.len, Option.isSome, Option.isNone, isBytes, aStr, aNil, aAlloc, aExtract, viewI, Nat.reduceEqDiff, Nat.reduceLT, Nat.reduceBEq, List.contains, List.elem, Blk.closed, closedL, AV.closed, Blk.noimm, ↓gsplit_tt, ↓gsplit_ff, ↓gsplit_tf, ↓gsplit_ft, ↓csplit_t, ↓csplit_f, Ax.idx, AV.lentIds, lentIdsL, dropAll, givenUp, AV.clean, cleanL, Blk.clean, cleanB, quietC, flatTy, coldStr, notMs, eqV, eqF, isStruct, -coe, coe_w, coe_str, coe_agg, coe_tup, coe_sb, coe_si, coe_cp, coe_ms, coe_rf, coe_fn, coe_cons, ty, Spack32, match32S, run32S, fixS, c2, hF, hfl, tkF, d1, d2, d3, d5, e2, e5, e6, e7, q6, hmt, hrl, hrb, hR, htk, hL, Int.toNat_natCast]
            clear e1 e2 e5 e6 e7
            refine ⟨by omega, by omega, by unfold top; omega, by omega, by unfold top; omega, by unfold top; omega, bs.length - (a + n), _, by omega, weak_ren [0, 1, 2, 3, 397] rfl rfl rfl ?_ ?_, a + n, a + n, g, o ++ R ++ [UInt8.ofNat (128 + n - 4)] ++ F, rfl, by omega, by omega, by omega, by omega, ?_, ?_, rfl⟩
            · simp only [SameS, SameH, setSlot, gOf, AV.ren, renL, Blk.ren, Ax.look, Ax.put, reduceCtorEq, true_or, false_or, or_true, or_false, and_true, true_and, AV.w.injEq, Value.int.injEq, Value.bool.injEq, AV.ms.injEq, AV.sb.injEq, AV.str.injEq, ↓reduceIte, Nat.reduceEqDiff, Nat.reduceLT, List.length_append, List.length_cons, List.length_nil, Nat.zero_add, Nat.add_zero, Option.some.injEq, Blk.b.injEq, Blk.i.injEq, Nat.succ_ne_zero, Nat.reduceAdd, and_self, hrb, hfl]
            · simp only [SameS, SameH, setSlot, gOf, AV.ren, renL, Blk.ren, Ax.look, Ax.put, reduceCtorEq, true_or, false_or, or_true, or_false, and_true, true_and, AV.w.injEq, Value.int.injEq, Value.bool.injEq, AV.ms.injEq, AV.sb.injEq, AV.str.injEq, ↓reduceIte, Nat.reduceEqDiff, Nat.reduceLT, List.length_append, List.length_cons, List.length_nil, Nat.zero_add, Nat.add_zero, Option.some.injEq, Blk.b.injEq, Blk.i.injEq, Nat.succ_ne_zero, Nat.reduceAdd, and_self]
            · rw [← hpk]; simp
            · simp only [List.length_append, hrb, hfl, List.length_cons, List.length_nil]; omega
          · rw [if_neg hsa] at hpk
            have d2 : decide ((s : Int) < (a : Int)) = false := decide_eq_false (by omega)
            have e5 : ((((128 + (n : Int) + 9223372036854775808) % 18446744073709551616 - 9223372036854775808) - 4 + 9223372036854775808) % 18446744073709551616 - 9223372036854775808) % 256 = ((128 + n - 4 : Nat) : Int) := pk_int1 n m1 m2
            simp -implicitDefEqProofs only [evT, implies_true, forall_const, Option.getD, later_normal, aop, aLen, ev, slot, setSlot, putSlot, cv, cvl, aConv, aBin, aInt, aUn, aFn, aEq, Out.and, isBool, isPtr, List.length, IntKind.bits, evs, evo, evps, aCall, aUser, coes, coe, List.append, List.replicate, callOut, rootsL, AV.roots, lendsL, AV.lends, pinsOf, nodup, lendL, lend, closedB, noimmB, AV.noimm, AV.ren, renL, back, Nat.reduceAdd, Nat.reduceSub, Nat.reduceMul, Int.reduceToNat, reduceCtorEq, aLoad, subv, aIndexAddr, aIndex, TD.aggr, guardSlot, aPick, byte, word, aMin, aMax, Ax.Ends, EndsX, Ax.rvals, rone, AV.ids, idsL, newIds, upTo, pinHeap, gOf, ↓reduceIte, List.isEmpty, Int.reducePow, Nat.reducePow, Int.reduceMod, Nat.reduceLeDiff, Int.reduceLE, Int.reduceNe, Int.reduceEq, aBuildSlice, fillB, aAppend, appendB, viewB, Ax.look, Ax.put, Ax.drop, List.drop, List.take, asv, aMake, aCopy, srcB, fillG, viewG, appendG, appendI, fillI, aSlice, bnd, bnds, full3, cut, aFieldAddr, aField, aStore, setB, aBox, aBuild, fillS, allTy, AV.leaves, AV.okv, AV.leaf, one, splice, elemLeaves, Blk.size, Blk.len, Option.isSome, Option.isNone, isBytes, aStr, aNil, aAlloc, aExtract, viewI, Nat.reduceEqDiff, Nat.reduceLT, Nat.reduceBEq, List.contains, List.elem, Blk.closed, closedL, AV.closed, Blk.noimm, ↓gsplit_tt, ↓gsplit_ff, ↓gsplit_tf, ↓gsplit_ft, ↓csplit_t, ↓csplit_f, Ax.idx, AV.lentIds, lentIdsL, dropAll, givenUp, AV.clean, cleanL, Blk.clean, cleanB, quietC, flatTy, coldStr, notMs, eqV, eqF, isStruct, -coe, coe_w, coe_str, coe_agg, coe_tup, coe_sb, coe_si, coe_cp, coe_ms, coe_rf, coe_fn, coe_cons, ty, Spack32, match32S, run32S, fixS, c2, hF, hfl, tkF, d1, d2, d3, d5, e2, e5, e6, e7, q6, hmt, hL, Int.toNat_natCast]
            clear e1 e2 e5 e6 e7
            refine ⟨by omega, by unfold top; omega, by unfold top; omega, bs.length - (a + n), _, by omega, weak_ren [0, 1, 2, 3, 317] rfl rfl rfl ?_ ?_, a + n, a + n, g, o ++ [UInt8.ofNat (128 + n - 4)] ++ F, rfl, by omega, by omega, by omega, by omega, ?_, ?_, rfl⟩
            · simp only [SameS, SameH, setSlot, gOf, AV.ren, renL, Blk.ren, Ax.look, Ax.put, reduceCtorEq, true_or, false_or, or_true, or_false, and_true, true_and, AV.w.injEq, Value.int.injEq, Value.bool.injEq, AV.ms.injEq, AV.sb.injEq, AV.str.injEq, ↓reduceIte, Nat.reduceEqDiff, Nat.reduceLT, List.length_append, List.length_cons, List.length_nil, Nat.zero_add, Nat.add_zero, Option.some.injEq, Blk.b.injEq, Blk.i.injEq, Nat.succ_ne_zero, Nat.reduceAdd, and_self, hfl]
            · simp only [SameS, SameH, setSlot, gOf, AV.ren, renL, Blk.ren, Ax.look, Ax.put, reduceCtorEq, true_or, false_or, or_true, or_false, and_true, true_and, AV.w.injEq, Value.int.injEq, Value.bool.injEq, AV.ms.injEq, AV.sb.injEq, AV.str.injEq, ↓reduceIte, Nat.reduceEqDiff, Nat.reduceLT, List.length_append, List.length_cons, List.length_nil, Nat.zero_add, Nat.add_zero, Option.some.injEq, Blk.b.injEq, Blk.i.injEq, Nat.succ_ne_zero, Nat.reduceAdd, and_self]
            · rw [← hpk]; simp
            · simp only [List.length_append, hfl, List.length_cons, List.length_nil]; omega
      · have d1 : decide ((a : Int) < bs.length) = false := decide_eq_false (by omega)
        have hpk0 : pk bs g s a = if s < bs.length then runB (bs.drop s) else [] := by
          cases g with
          | zero => rfl
          | succ g => exact if_neg hal
        rw [hpk0] at hpk
        by_cases hsl : s < bs.length
        · have d2 : decide ((s : Int) < bs.length) = true := decide_eq_true (by omega)
          rw [if_pos hsl] at hpk
          have hrl : (bs.drop s).length = bs.length - s := List.length_drop
          have hrb : (runB (bs.drop s)).length = bs.length - s + 1 := by unfold runB; rw [List.length_cons, hrl]
          have htk : List.take (bs.length - s + 1) (runB (bs.drop s)) = runB (bs.drop s) := List.take_of_length_le (by omega)
          have htd : List.take (bs.length - s) (bs.drop s) = bs.drop s := List.take_of_length_le (by omega)
          obtain ⟨R, hR⟩ : ∃ R, runB (bs.drop s) = R := ⟨_, rfl⟩
          rw [hR] at hpk hrb htk
          rw [← hpk]
          simp -implicitDefEqProofs only [evT, implies_true, forall_const, Option.getD, later_normal, aop, aLen, ev, slot, setSlot, putSlot, cv, cvl, aConv, aBin, aInt, aUn, aFn, aEq, Out.and, isBool, isPtr, List.length, IntKind.bits, evs, evo, evps, aCall, aUser, coes, coe, List.append, List.replicate, callOut, rootsL, AV.roots, lendsL, AV.lends, pinsOf, nodup, lendL, lend, closedB, noimmB, AV.noimm, AV.ren, renL, back, Nat.reduceAdd, Nat.reduceSub, Nat.reduceMul, Int.reduceToNat, reduceCtorEq, aLoad, subv, aIndexAddr, aIndex, TD.aggr, guardSlot, aPick, byte, word, aMin, aMax, Ax.Ends, EndsX, Ax.rvals, rone, AV.ids, idsL, newIds, upTo, pinHeap, gOf, ↓reduceIte, List.isEmpty, Int.reducePow, Nat.reducePow, Int.reduceMod, Nat.reduceLeDiff, Int.reduceLE, Int.reduceNe, Int.reduceEq, aBuildSlice, fillB, aAppend, appendB, viewB, Ax.look, Ax.put, Ax.drop, List.drop, List.take, asv, aMake, aCopy, srcB, fillG, viewG, appendG, appendI, fillI, aSlice, bnd, bnds, full3, cut, aFieldAddr, aField, aStore, setB, aBox, aBuild, fillS, allTy, AV.leaves, AV.okv, AV.leaf, one, splice, elemLeaves, Blk.size, Blk.len, Option.isSome, Option.isNone, isBytes, aStr, aNil, aAlloc, aExtract, viewI, Nat.reduceEqDiff, Nat.reduceLT, Nat.reduceBEq, List.contains, List.elem, Blk.closed, closedL, AV.closed, Blk.noimm, ↓gsplit_tt, ↓gsplit_ff, ↓gsplit_tf, ↓gsplit_ft, ↓csplit_t, ↓csplit_f, Ax.idx, AV.lentIds, lentIdsL, dropAll, givenUp, AV.clean, cleanL, Blk.clean, cleanB, quietC, flatTy, coldStr, notMs, eqV, eqF, isStruct, -coe, coe_w, coe_str, coe_agg, coe_tup, coe_sb, coe_si, coe_cp, coe_ms, coe_rf, coe_fn, coe_cons, ty, Spack32, run32S, d1, d2, hrl, hrb, hR, htk, htd, Int.toNat_natCast]
          refine ⟨by omega, by omega, by unfold top; omega⟩
        · have d2 : decide ((s : Int) < bs.length) = false := decide_eq_false (by omega)
          rw [if_neg hsl, List.append_nil] at hpk
          rw [← hpk]
          simp -implicitDefEqProofs only [evT, implies_true, forall_const, Option.getD, later_normal, aop, aLen, ev, slot, setSlot, putSlot, cv, cvl, aConv, aBin, aInt, aUn, aFn, aEq, Out.and, isBool, isPtr, List.length, IntKind.bits, evs, evo, evps, aCall, aUser, coes, coe, List.append, List.replicate, callOut, rootsL, AV.roots, lendsL, AV.lends, pinsOf, nodup, lendL, lend, closedB, noimmB, AV.noimm, AV.ren, renL, back, Nat.reduceAdd, Nat.reduceSub, Nat.reduceMul, Int.reduceToNat, reduceCtorEq, aLoad, subv, aIndexAddr, aIndex, TD.aggr, guardSlot, aPick, byte, word, aMin, aMax, Ax.Ends, EndsX, Ax.rvals, rone, AV.ids, idsL, newIds, upTo, pinHeap, gOf, ↓reduceIte, List.isEmpty, Int.reducePow, Nat.reducePow, Int.reduceMod, Nat.reduceLeDiff, Int.reduceLE, Int.reduceNe, Int.reduceEq, aBuildSlice, fillB, aAppend, appendB, viewB, Ax.look, Ax.put, Ax.drop, List.drop, List.take, asv, aMake, aCopy, srcB, fillG, viewG, appendG, appendI, fillI, aSlice, bnd, bnds, full3, cut, aFieldAddr, aField, aStore, setB, aBox, aBuild, fillS, allTy, AV.leaves, AV.okv, AV.leaf, one, splice, elemLeaves, Blk.size, Blk.len, Option.isSome, Option.isNone, isBytes, aStr, aNil, aAlloc, aExtract, viewI, Nat.reduceEqDiff, Nat.reduceLT, Nat.reduceBEq, List.contains, List.elem, Blk.closed, closedL, AV.closed, Blk.noimm, ↓gsplit_tt, ↓gsplit_ff, ↓gsplit_tf, ↓gsplit_ft, ↓csplit_t, ↓csplit_f, Ax.idx, AV.lentIds, lentIdsL, dropAll, givenUp, AV.clean, cleanL, Blk.clean, cleanB, quietC, flatTy, coldStr, notMs, eqV, eqF, isStruct, -coe, coe_w, coe_str, coe_agg, coe_tup, coe_sb, coe_si, coe_cp, coe_ms, coe_rf, coe_fn, coe_cons, ty, Spack32, d1, d2]
  · exact hp.elim
end
end Go.Proofs.Ytliabgocaijafaa
