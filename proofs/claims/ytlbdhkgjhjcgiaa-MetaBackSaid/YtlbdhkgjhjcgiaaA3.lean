/- Layer 1: numbers of a set width. -/
import Derived.Test.YtlbdhkgjhjcgiaaA2
import Derived.Test.YtlbdhkgjhjcgiaaAxZb
namespace Go.Proofs.Ytlbdhkgjhjcgiaa
open Ax
set_option linter.unusedSimpArgs false
set_option linter.unusedVariables false

/-- The last w bytes of a number. -/
def fixL (u : Nat) : Nat → List UInt8
  | 0 => []
  | w + 1 => UInt8.ofNat (u / 256 ^ w % 256) :: fixL u w
theorem fixL_length (u w : Nat) : (fixL u w).length = w := by
  induction w with
  | zero => rfl
  | succ w ih => simp [fixL, ih]

theorem clampI_range (n : Int) : 0 ≤ clampI n ∧ clampI n ≤ 8 := by unfold clampI; repeat' split
                                                                   all_goals omega

def fixS : FSpec
  | [.w (.int k u), .w (.int k' n)], [] => ⟨k = .u64 ∧ k' = .i64 ∧ 0 ≤ u ∧ u < 18446744073709551616, .ms 0 1 0 (clampI n).toNat, [.b (fixL u.toNat (clampI n).toNat)]⟩
  | _, _ => noRes

def S20 (f : FuncId) : Option FSpec :=
  match f with
  | 47 => some clampS
  | _ => none
theorem S20_ok : Fns Try.prog S20 := by
  intro f s h
  unfold S20 at h
  split at h
  · injection h with h; subst h; exact ⟨⟨_, Try.func47, by kernel_rfl, by kernel_rfl⟩, clamp_sound⟩
  · cases h

theorem shr8 (U i : Nat) : (U : Int) / 2 ^ (8 * i) = ((U / 256 ^ i : Nat) : Int) := by
  have : (2 : Int) ^ (8 * i) = ((256 ^ i : Nat) : Int) := by
    rw [show 256 = 2 ^ 8 from rfl, ← Nat.pow_mul]
    simp
  rw [this]; simp

theorem set_at (k : Nat) (b : UInt8) (l : List UInt8) : (List.replicate (k + 1) 0 ++ l).set k b = List.replicate k 0 ++ b :: l := by
  induction k with
  | zero => rfl
  | succ k ih =>
    rw [List.replicate_succ, List.cons_append, List.set_cons_succ, ih]
    rw [List.replicate_succ (n := k), List.cons_append]

section
set_option maxRecDepth 100000

def unfL (bs : List UInt8) (n : Nat) : Nat := bs.foldl (fun n b => n * 256 + b.toNat) n
def last8 (bs : List UInt8) : List UInt8 := bs.drop (bs.length - 8)
theorem last8_length (bs : List UInt8) : (last8 bs).length ≤ 8 := by unfold last8; simp; omega
def unfS : FSpec
  | [.sb bs _], [] => ⟨bs.length ≤ 1000000, .w (.int .u64 (unfL (last8 bs) 0 : Nat)), []⟩
  | _, _ => noRes
theorem unfixed_sound : Sound Try.prog 45 unfS := by
  refine fn_sound (S := noS) (T := ty) mixed ty_ok noS_ok Try.func45 (c := Try.f45.body.getD .skip) (by kernel_rfl) (by kernel_rfl) (fun xs pins hp _ => ?_)
  unfold unfS at hp ⊢
  split at hp
  · rename_i bs f _
    have hp : bs.length ≤ 1000000 := hp
    refine ⟨by decide, ?_⟩
    have hl8 := last8_length bs
    have em : (if (0 : Int) > (bs.length - 8 + 9223372036854775808) % 18446744073709551616 - 9223372036854775808 then (0 : Int) else (bs.length - 8 + 9223372036854775808) % 18446744073709551616 - 9223372036854775808) = ((bs.length - 8 : Nat) : Int) := by
      split <;> omega
    have e8 : List.take (bs.length - (bs.length - 8)) (List.drop (bs.length - 8) bs) = last8 bs := by
      unfold last8
      exact List.take_of_length_le (by simp)
    unfold Try.f45
    simp only [evT, evD0, evD1, evD2, implies_true, forall_const, Option.getD, later_normal, aop, aLen, ev, putSlot, cv, cvl, aConv, aBin, aInt, aUn, aFn, aEq, List.length, IntKind.bits, evo, coe, List.append, List.replicate, Nat.reduceAdd, Nat.reduceSub, Nat.reduceMul, Int.reduceToNat, reduceCtorEq, aIndexAddr, aIndex, TD.aggr, aPick, aMin, aMax, Ax.Ends, rone, ↓reduceIte, List.isEmpty, Int.reducePow, Nat.reducePow, Int.reduceMod, Nat.reduceLeDiff, Int.reduceLE, Int.reduceNe, Int.reduceEq, aAppend, appendB, viewB, List.drop, List.take, aRange, aNext, aCopy, srcB, viewG, appendG, appendI, aSlice, bnd, full3, aStore, setB, AV.leaves, AV.okv, AV.leaf, one, elemLeaves, Blk.size, Blk.len, Option.isSome, Option.isNone, aStr, aNil, aExtract, viewI, Nat.reduceEqDiff, Nat.reduceLT, Nat.reduceBEq, List.contains, List.elem, Blk.closed, Blk.noimm, ↓gsplit_tt, ↓gsplit_ff, ↓gsplit_tf, ↓gsplit_ft, ↓csplit_t, ↓csplit_f, givenUp, Blk.clean, notMs, ty, noS, em, e8]
    refine ⟨⟨by omega, by omega⟩, awp_loop ⟨fun m σ => ∃ (i X : Nat), m = (last8 bs).length - i ∧ i ≤ (last8 bs).length ∧ X < 256 ^ i ∧ unfL ((last8 bs).drop i) X = unfL (last8 bs) 0 ∧
      σ = ⟨[.sb bs f, .junk, .junk, .w (.int .u64 X), .junk, .junk, .junk, .junk, .junk, .junk, .junk, .sb (last8 bs) f, .w (.int .i64 (last8 bs).length), .w (.int .i64 i), .junk, .junk, .junk, .junk, .junk, .junk, .junk, .junk, .junk, .junk], [], 4⟩, ?_, ?_⟩⟩
    · refine ⟨_, _, weak_ren [0, 1, 2, 3] rfl rfl rfl ?_ ?_, 0, 0, rfl, by omega, by simp, rfl, rfl⟩
      · simp only [SameS, SameH, setSlot, gOf, AV.ren, renL, Blk.ren, Ax.look, Ax.put, reduceCtorEq, true_or, false_or, or_true, or_false, and_true, true_and, AV.w.injEq, Value.int.injEq, Value.bool.injEq, AV.ms.injEq, AV.sb.injEq, AV.str.injEq, ↓reduceIte, Nat.reduceEqDiff, Nat.reduceLT, List.length_append, List.length_cons, List.length_nil, Nat.zero_add, Nat.add_zero, Option.some.injEq, Blk.b.injEq, Blk.i.injEq, Nat.succ_ne_zero, Nat.reduceAdd, and_self]; simp
      · simp only [SameS, SameH, setSlot, gOf, AV.ren, renL, Blk.ren, Ax.look, Ax.put, reduceCtorEq, true_or, false_or, or_true, or_false, and_true, true_and, AV.w.injEq, Value.int.injEq, Value.bool.injEq, AV.ms.injEq, AV.sb.injEq, AV.str.injEq, ↓reduceIte, Nat.reduceEqDiff, Nat.reduceLT, List.length_append, List.length_cons, List.length_nil, Nat.zero_add, Nat.add_zero, Option.some.injEq, Blk.b.injEq, Blk.i.injEq, Nat.succ_ne_zero, Nat.reduceAdd, and_self]
    · rintro m σ ⟨i, X, rfl, hi, hX, hu, rfl⟩
      simp only [evT, evD0, evD1, evD2, implies_true, forall_const, Option.getD, later_normal, aop, aLen, ev, putSlot, cv, cvl, aConv, aBin, aInt, aUn, aFn, aEq, List.length, IntKind.bits, evo, coe, List.append, List.replicate, Nat.reduceAdd, Nat.reduceSub, Nat.reduceMul, Int.reduceToNat, reduceCtorEq, aIndexAddr, aIndex, TD.aggr, aPick, aMin, aMax, Ax.Ends, rone, ↓reduceIte, List.isEmpty, Int.reducePow, Nat.reducePow, Int.reduceMod, Nat.reduceLeDiff, Int.reduceLE, Int.reduceNe, Int.reduceEq, aAppend, appendB, viewB, List.drop, List.take, aRange, aNext, aCopy, srcB, viewG, appendG, appendI, aSlice, bnd, full3, aStore, setB, AV.leaves, AV.okv, AV.leaf, one, elemLeaves, Blk.size, Blk.len, Option.isSome, Option.isNone, aStr, aNil, aExtract, viewI, Nat.reduceEqDiff, Nat.reduceLT, Nat.reduceBEq, List.contains, List.elem, Blk.closed, Blk.noimm, ↓gsplit_tt, ↓gsplit_ff, ↓gsplit_tf, ↓gsplit_ft, ↓csplit_t, ↓csplit_f, givenUp, Blk.clean, notMs, ty, noS, decide_eq_true_eq, decide_eq_false_iff_not]
      refine ⟨fun hc => ?_, fun hc => ?_⟩
      · have hil : i < (last8 bs).length := by omega
        have h7 : (256 : Nat) ^ i ≤ 256 ^ 7 := Nat.pow_le_pow_right (by decide) (by omega)
        have h7' : (256 : Nat) ^ 7 = 72057594037927936 := by simp
        have hb := (last8 bs)[i].toNat_lt
        rw [List.drop_eq_getElem_cons hil] at hu
        have eg : (last8 bs).getD i 0 = (last8 bs)[i] := by simp [hil]
        have eor : bits .or .u64 ((X : Int) * 256 % 18446744073709551616) (((last8 bs)[i].toNat : Int) % 18446744073709551616) = ((X * 256 + (last8 bs)[i].toNat : Nat) : Int) := by
          rw [u64_or _ _ (by omega) (by omega) (by omega) (by omega)]
          rw [show ((X : Int) * 256 % 18446744073709551616).toNat = X * 256 by omega, show (((last8 bs)[i].toNat : Int) % 18446744073709551616).toNat = (last8 bs)[i].toNat by omega, nat_join 8 _ _ (by omega) (by simpa using hb)]
        simp only [eg, eor]
        refine ⟨⟨by omega, hil⟩, (last8 bs).length - (i + 1), _, by omega, weak_ren [0, 1, 2, 3] rfl rfl rfl ?_ ?_, i + 1, X * 256 + (last8 bs)[i].toNat, rfl, by omega, ?_, hu, rfl⟩
        · simp only [SameS, SameH, setSlot, gOf, AV.ren, renL, Blk.ren, Ax.look, Ax.put, reduceCtorEq, true_or, false_or, or_true, or_false, and_true, true_and, AV.w.injEq, Value.int.injEq, Value.bool.injEq, AV.ms.injEq, AV.sb.injEq, AV.str.injEq, ↓reduceIte, Nat.reduceEqDiff, Nat.reduceLT, List.length_append, List.length_cons, List.length_nil, Nat.zero_add, Nat.add_zero, Option.some.injEq, Blk.b.injEq, Blk.i.injEq, Nat.succ_ne_zero, Nat.reduceAdd, and_self]; omega
        · simp only [SameS, SameH, setSlot, gOf, AV.ren, renL, Blk.ren, Ax.look, Ax.put, reduceCtorEq, true_or, false_or, or_true, or_false, and_true, true_and, AV.w.injEq, Value.int.injEq, Value.bool.injEq, AV.ms.injEq, AV.sb.injEq, AV.str.injEq, ↓reduceIte, Nat.reduceEqDiff, Nat.reduceLT, List.length_append, List.length_cons, List.length_nil, Nat.zero_add, Nat.add_zero, Option.some.injEq, Blk.b.injEq, Blk.i.injEq, Nat.succ_ne_zero, Nat.reduceAdd, and_self]
        · rw [Nat.pow_succ]; omega
      · have hil : i = (last8 bs).length := by omega
        subst hil
        rw [List.drop_length] at hu
        simp only [unfL, List.foldl_nil] at hu ⊢
        rw [← hu]
  · exact hp.elim
end
end Go.Proofs.Ytlbdhkgjhjcgiaa
