/- Layer 1: put. -/
import Derived.Test.YtlbdhkgjhjcgiaaA1
import Derived.Test.YtlbdhkgjhjcgiaaAxZb
namespace Go.Proofs.Ytlbdhkgjhjcgiaa
open Ax
set_option linter.unusedSimpArgs false
set_option linter.unusedVariables false

def putU (u : Nat) : List UInt8 := if u < 128 then [UInt8.ofNat u] else UInt8.ofNat (u % 128 + 128) :: putU (u / 128)
termination_by u
decreasing_by omega

def putS : FSpec
  | [.w (.int k n)], [] => ⟨k = .i64 ∧ -9223372036854775808 ≤ n ∧ n ≤ 9223372036854775807, .ms 0 1 0 (putU (zz n).toNat).length, [.b (putU (zz n).toNat)]⟩
  | _, _ => noRes

def S2 (f : FuncId) : Option FSpec :=
  match f with
  | 41 => some zzS
  | _ => none
theorem S2_ok : Fns Try.prog S2 := by
  intro f s h
  unfold S2 at h
  split at h
  · injection h with h; subst h; exact ⟨⟨_, Try.func41, by kernel_rfl, by kernel_rfl⟩, zig_sound⟩
  · cases h

theorem putU_big {u : Nat} (h : ¬ u < 128) : putU u = UInt8.ofNat (u % 128 + 128) :: putU (u / 128) := by
  rw [putU, if_neg h]
theorem putU_small {u : Nat} (h : u < 128) : putU u = [UInt8.ofNat u] := by
  rw [putU, if_pos h]
theorem putU_pos (u : Nat) : 0 < (putU u).length := by
  rw [putU]; split <;> simp
theorem putU_len : ∀ (k u : Nat), u < 128 ^ (k + 1) → (putU u).length ≤ k + 1
  | 0, u, h => by rw [putU_small (by simpa using h)]; simp
  | k + 1, u, h => by
    by_cases hu : u < 128
    · rw [putU_small hu]; simp
    · rw [putU_big hu]
      have := putU_len k (u / 128) (by rw [Nat.div_lt_iff_lt_mul (by decide)]; rw [Nat.pow_succ] at h; exact h)
      simp; omega
theorem p128 : (128 : Nat) ^ (9 + 1) = 1180591620717411303424 := by simp
theorem putU_length (u : Nat) (h : u < 18446744073709551616) : (putU u).length ≤ 10 := putU_len 9 u (by rw [p128]; omega)

theorem or128_nat : ∀ x : Fin 256, x.val ||| 128 = x.val % 128 + 128 := by decide +kernel
theorem or128 (m : Nat) : bits .or .u8 ((m : Int) % 256) 128 = ((m % 128 + 128 : Nat) : Int) := by
  rw [u8_or _ _ (by omega) (by omega) (by omega) (by omega)]
  have e : ((m : Int) % 256).toNat = m % 256 := by omega
  have := or128_nat ⟨m % 256, by omega⟩
  simp only at this
  rw [e, show (128 : Int).toNat = 128 from rfl, this]
  omega

theorem zz_range (n : Int) (h1 : -9223372036854775808 ≤ n) (h2 : n ≤ 9223372036854775807) : 0 ≤ zz n ∧ zz n < 18446744073709551616 := by
  unfold zz; split <;> omega

section
set_option maxRecDepth 100000
theorem put_sound : Sound Try.prog 24 putS := by
  refine fn_sound (S := S2) (T := ty) mixed ty_ok S2_ok Try.func24 (c := Try.f24.body.getD .skip) (by kernel_rfl) (by kernel_rfl) (fun xs pins hp _ => ?_)
  unfold putS at hp ⊢
  split at hp
  · rename_i n _
    obtain ⟨rfl, h1, h2⟩ := hp
    refine ⟨by decide, ?_⟩
    unfold Try.f24
    simp only [evT, evD0, evD1, evD2, implies_true, forall_const, Option.getD, later_normal, aop, aLen, ev, putSlot, cv, cvl, aConv, aBin, aInt, aUn, aFn, aEq, List.length, IntKind.bits, evo, coe, List.append, List.replicate, Nat.reduceAdd, Nat.reduceSub, Nat.reduceMul, Int.reduceToNat, reduceCtorEq, aIndexAddr, aIndex, TD.aggr, aPick, aMin, aMax, Ax.Ends, rone, ↓reduceIte, List.isEmpty, Int.reducePow, Nat.reducePow, Int.reduceMod, Nat.reduceLeDiff, Int.reduceLE, Int.reduceNe, Int.reduceEq, aAppend, appendB, viewB, List.drop, List.take, aRange, aNext, aCopy, srcB, viewG, appendG, appendI, aSlice, bnd, full3, aStore, setB, AV.leaves, AV.okv, AV.leaf, one, elemLeaves, Blk.size, Blk.len, Option.isSome, Option.isNone, aStr, aNil, aExtract, viewI, Nat.reduceEqDiff, Nat.reduceLT, Nat.reduceBEq, List.contains, List.elem, Blk.closed, Blk.noimm, ↓gsplit_tt, ↓gsplit_ff, ↓gsplit_tf, ↓gsplit_ft, ↓csplit_t, ↓csplit_f, givenUp, Blk.clean, notMs, ty, S2, zzS]
    have hz := zz_range n h1 h2
    refine ⟨⟨h1, h2⟩, awp_loop ⟨fun m σ => ∃ (u : Nat) (bs : List UInt8), m = u ∧ u < 18446744073709551616 ∧ bs ++ putU u = putU (zz n).toNat ∧
      σ = ⟨[.w (.int .i64 n), .junk, .junk, .w (.int .u64 u), .ms 4 1 0 bs.length, .junk, .junk, .junk, .junk, .junk, .junk, .junk, .junk, .junk, .junk, .junk, .junk, .junk, .junk, .junk, .junk, .junk], [(4, .b bs)], 5⟩, ?_, ?_⟩⟩
    · refine ⟨_, _, (weak_nil 4 1 (.b []) rfl (by exact trivial)).trans (weak_ren [0, 1, 2, 3, 44] rfl rfl rfl ?_ ?_), (zz n).toNat, [], rfl, by omega, rfl, rfl⟩
      · simp only [SameS, SameH, setSlot, gOf, AV.ren, renL, Blk.ren, Ax.look, Ax.put, reduceCtorEq, true_or, false_or, or_true, or_false, and_true, true_and, AV.w.injEq, Value.int.injEq, Value.bool.injEq, AV.ms.injEq, AV.sb.injEq, AV.str.injEq, ↓reduceIte, Nat.reduceEqDiff, Nat.reduceLT, List.length_append, List.length_cons, List.length_nil, Nat.zero_add, Nat.add_zero, Option.some.injEq, Blk.b.injEq, Blk.i.injEq, Nat.succ_ne_zero, Nat.reduceAdd, and_self]; omega
      · simp only [SameS, SameH, setSlot, gOf, AV.ren, renL, Blk.ren, Ax.look, Ax.put, reduceCtorEq, true_or, false_or, or_true, or_false, and_true, true_and, AV.w.injEq, Value.int.injEq, Value.bool.injEq, AV.ms.injEq, AV.sb.injEq, AV.str.injEq, ↓reduceIte, Nat.reduceEqDiff, Nat.reduceLT, List.length_append, List.length_cons, List.length_nil, Nat.zero_add, Nat.add_zero, Option.some.injEq, Blk.b.injEq, Blk.i.injEq, Nat.succ_ne_zero, Nat.reduceAdd, and_self]
    · rintro m σ ⟨u, bs, rfl, hu, hbs, rfl⟩
      have hlen := congrArg List.length hbs
      have h10 := putU_length (zz n).toNat (by omega)
      have h1' := putU_pos m
      rw [List.length_append] at hlen
      simp only [evT, evD0, evD1, evD2, implies_true, forall_const, Option.getD, later_normal, aop, aLen, ev, putSlot, cv, cvl, aConv, aBin, aInt, aUn, aFn, aEq, List.length, IntKind.bits, evo, coe, List.append, List.replicate, Nat.reduceAdd, Nat.reduceSub, Nat.reduceMul, Int.reduceToNat, reduceCtorEq, aIndexAddr, aIndex, TD.aggr, aPick, aMin, aMax, Ax.Ends, rone, ↓reduceIte, List.isEmpty, Int.reducePow, Nat.reducePow, Int.reduceMod, Nat.reduceLeDiff, Int.reduceLE, Int.reduceNe, Int.reduceEq, aAppend, appendB, viewB, List.drop, List.take, aRange, aNext, aCopy, srcB, viewG, appendG, appendI, aSlice, bnd, full3, aStore, setB, AV.leaves, AV.okv, AV.leaf, one, elemLeaves, Blk.size, Blk.len, Option.isSome, Option.isNone, aStr, aNil, aExtract, viewI, Nat.reduceEqDiff, Nat.reduceLT, Nat.reduceBEq, List.contains, List.elem, Blk.closed, Blk.noimm, ↓gsplit_tt, ↓gsplit_ff, ↓gsplit_tf, ↓gsplit_ft, ↓csplit_t, ↓csplit_f, givenUp, Blk.clean, notMs, ty, S2, zzS, decide_eq_true_eq, decide_eq_false_iff_not]
      refine ⟨fun hc => ?_, fun hc => ?_⟩
      · have hm : ¬ m < 128 := by omega
        rw [putU_big hm] at hbs
        rw [or128 m]
        refine ⟨by omega, by unfold top; omega, m / 128, _, by omega, weak_ren [0, 1, 2, 3, 61] rfl rfl rfl ?_ ?_, m / 128, bs ++ [UInt8.ofNat (m % 128 + 128)], rfl, by omega, ?_, rfl⟩
        · simp only [SameS, SameH, setSlot, gOf, AV.ren, renL, Blk.ren, Ax.look, Ax.put, reduceCtorEq, true_or, false_or, or_true, or_false, and_true, true_and, AV.w.injEq, Value.int.injEq, Value.bool.injEq, AV.ms.injEq, AV.sb.injEq, AV.str.injEq, ↓reduceIte, Nat.reduceEqDiff, Nat.reduceLT, List.length_append, List.length_cons, List.length_nil, Nat.zero_add, Nat.add_zero, Option.some.injEq, Blk.b.injEq, Blk.i.injEq, Nat.succ_ne_zero, Nat.reduceAdd, and_self]; omega
        · simp only [SameS, SameH, setSlot, gOf, AV.ren, renL, Blk.ren, Ax.look, Ax.put, reduceCtorEq, true_or, false_or, or_true, or_false, and_true, true_and, AV.w.injEq, Value.int.injEq, Value.bool.injEq, AV.ms.injEq, AV.sb.injEq, AV.str.injEq, ↓reduceIte, Nat.reduceEqDiff, Nat.reduceLT, List.length_append, List.length_cons, List.length_nil, Nat.zero_add, Nat.add_zero, Option.some.injEq, Blk.b.injEq, Blk.i.injEq, Nat.succ_ne_zero, Nat.reduceAdd, and_self, Int.toNat_natCast]
        · simpa using hbs
      · have hm : m < 128 := by omega
        rw [putU_small hm] at hbs
        have e : ((m : Int) % 256).toNat = m := by omega
        rw [e, ← hbs]
        refine ⟨by omega, by unfold top; omega, rfl, by simp⟩
  · exact hp.elim

def bytesS : FSpec
  | [.w (.int k u)], [] => ⟨k = .u64 ∧ 0 ≤ u ∧ u < 18446744073709551616, .ms 0 1 0 (putU u.toNat).length, [.b (putU u.toNat)]⟩
  | _, _ => noRes

theorem bytes_sound : Sound Try.prog 43 bytesS := by
  refine fn_sound (S := noS) (T := ty) mixed ty_ok noS_ok Try.func43 (c := Try.f43.body.getD .skip) (by kernel_rfl) (by kernel_rfl) (fun xs pins hp _ => ?_)
  unfold bytesS at hp ⊢
  split at hp
  · rename_i n _
    obtain ⟨rfl, h1, h2⟩ := hp
    refine ⟨by decide, ?_⟩
    unfold Try.f43
    simp only [evT, evD0, evD1, evD2, implies_true, forall_const, Option.getD, later_normal, aop, aLen, ev, putSlot, cv, cvl, aConv, aBin, aInt, aUn, aFn, aEq, List.length, IntKind.bits, evo, coe, List.append, List.replicate, Nat.reduceAdd, Nat.reduceSub, Nat.reduceMul, Int.reduceToNat, reduceCtorEq, aIndexAddr, aIndex, TD.aggr, aPick, aMin, aMax, Ax.Ends, rone, ↓reduceIte, List.isEmpty, Int.reducePow, Nat.reducePow, Int.reduceMod, Nat.reduceLeDiff, Int.reduceLE, Int.reduceNe, Int.reduceEq, aAppend, appendB, viewB, List.drop, List.take, aRange, aNext, aCopy, srcB, viewG, appendG, appendI, aSlice, bnd, full3, aStore, setB, AV.leaves, AV.okv, AV.leaf, one, elemLeaves, Blk.size, Blk.len, Option.isSome, Option.isNone, aStr, aNil, aExtract, viewI, Nat.reduceEqDiff, Nat.reduceLT, Nat.reduceBEq, List.contains, List.elem, Blk.closed, Blk.noimm, ↓gsplit_tt, ↓gsplit_ff, ↓gsplit_tf, ↓gsplit_ft, ↓csplit_t, ↓csplit_f, givenUp, Blk.clean, notMs, ty, noS]
    refine awp_loop ⟨fun m σ => ∃ (u : Nat) (bs : List UInt8), m = u ∧ u < 18446744073709551616 ∧ bs ++ putU u = putU n.toNat ∧
      σ = ⟨[.w (.int .u64 u), .junk, .junk, .ms 4 1 0 bs.length, .junk, .junk, .junk, .junk, .junk, .junk, .junk, .junk, .junk, .junk, .junk, .junk, .junk, .junk, .junk, .junk], [(4, .b bs)], 5⟩, ?_, ?_⟩
    · refine ⟨_, _, (weak_nil 3 1 (.b []) rfl (by exact trivial)).trans (weak_ren [0, 1, 2, 3, 20] rfl rfl rfl ?_ ?_), n.toNat, [], rfl, by omega, rfl, rfl⟩
      · simp only [SameS, SameH, setSlot, gOf, AV.ren, renL, Blk.ren, Ax.look, Ax.put, reduceCtorEq, true_or, false_or, or_true, or_false, and_true, true_and, AV.w.injEq, Value.int.injEq, Value.bool.injEq, AV.ms.injEq, AV.sb.injEq, AV.str.injEq, ↓reduceIte, Nat.reduceEqDiff, Nat.reduceLT, List.length_append, List.length_cons, List.length_nil, Nat.zero_add, Nat.add_zero, Option.some.injEq, Blk.b.injEq, Blk.i.injEq, Nat.succ_ne_zero, Nat.reduceAdd, and_self]; omega
      · simp only [SameS, SameH, setSlot, gOf, AV.ren, renL, Blk.ren, Ax.look, Ax.put, reduceCtorEq, true_or, false_or, or_true, or_false, and_true, true_and, AV.w.injEq, Value.int.injEq, Value.bool.injEq, AV.ms.injEq, AV.sb.injEq, AV.str.injEq, ↓reduceIte, Nat.reduceEqDiff, Nat.reduceLT, List.length_append, List.length_cons, List.length_nil, Nat.zero_add, Nat.add_zero, Option.some.injEq, Blk.b.injEq, Blk.i.injEq, Nat.succ_ne_zero, Nat.reduceAdd, and_self]
    · rintro m σ ⟨u, bs, rfl, hu, hbs, rfl⟩
      have hlen := congrArg List.length hbs
      have h10 := putU_length n.toNat (by omega)
      have h1' := putU_pos m
      rw [List.length_append] at hlen
      simp only [evT, evD0, evD1, evD2, implies_true, forall_const, Option.getD, later_normal, aop, aLen, ev, putSlot, cv, cvl, aConv, aBin, aInt, aUn, aFn, aEq, List.length, IntKind.bits, evo, coe, List.append, List.replicate, Nat.reduceAdd, Nat.reduceSub, Nat.reduceMul, Int.reduceToNat, reduceCtorEq, aIndexAddr, aIndex, TD.aggr, aPick, aMin, aMax, Ax.Ends, rone, ↓reduceIte, List.isEmpty, Int.reducePow, Nat.reducePow, Int.reduceMod, Nat.reduceLeDiff, Int.reduceLE, Int.reduceNe, Int.reduceEq, aAppend, appendB, viewB, List.drop, List.take, aRange, aNext, aCopy, srcB, viewG, appendG, appendI, aSlice, bnd, full3, aStore, setB, AV.leaves, AV.okv, AV.leaf, one, elemLeaves, Blk.size, Blk.len, Option.isSome, Option.isNone, aStr, aNil, aExtract, viewI, Nat.reduceEqDiff, Nat.reduceLT, Nat.reduceBEq, List.contains, List.elem, Blk.closed, Blk.noimm, ↓gsplit_tt, ↓gsplit_ff, ↓gsplit_tf, ↓gsplit_ft, ↓csplit_t, ↓csplit_f, givenUp, Blk.clean, notMs, ty, noS, decide_eq_true_eq, decide_eq_false_iff_not]
      have et : (m : Int).tmod 128 = m % 128 := Int.tmod_eq_emod_of_nonneg (by omega)
      have ed : (m : Int).tdiv 128 = m / 128 := Int.tdiv_eq_ediv_of_nonneg (by omega)
      rw [et, ed]
      refine ⟨fun hc => ?_, fun hc => ?_⟩
      · have hm : ¬ m < 128 := by omega
        rw [putU_big hm] at hbs
        have e : (((m : Int) % 128 % 256 + 128) % 256) = ((m % 128 + 128 : Nat) : Int) := by omega
        rw [e]
        refine ⟨by omega, by unfold top; omega, m / 128, _, by omega, weak_ren [0, 1, 2, 3, 69] rfl rfl rfl ?_ ?_, m / 128, bs ++ [UInt8.ofNat (m % 128 + 128)], rfl, by omega, ?_, rfl⟩
        · simp only [SameS, SameH, setSlot, gOf, AV.ren, renL, Blk.ren, Ax.look, Ax.put, reduceCtorEq, true_or, false_or, or_true, or_false, and_true, true_and, AV.w.injEq, Value.int.injEq, Value.bool.injEq, AV.ms.injEq, AV.sb.injEq, AV.str.injEq, ↓reduceIte, Nat.reduceEqDiff, Nat.reduceLT, List.length_append, List.length_cons, List.length_nil, Nat.zero_add, Nat.add_zero, Option.some.injEq, Blk.b.injEq, Blk.i.injEq, Nat.succ_ne_zero, Nat.reduceAdd, and_self]; omega
        · simp only [SameS, SameH, setSlot, gOf, AV.ren, renL, Blk.ren, Ax.look, Ax.put, reduceCtorEq, true_or, false_or, or_true, or_false, and_true, true_and, AV.w.injEq, Value.int.injEq, Value.bool.injEq, AV.ms.injEq, AV.sb.injEq, AV.str.injEq, ↓reduceIte, Nat.reduceEqDiff, Nat.reduceLT, List.length_append, List.length_cons, List.length_nil, Nat.zero_add, Nat.add_zero, Option.some.injEq, Blk.b.injEq, Blk.i.injEq, Nat.succ_ne_zero, Nat.reduceAdd, and_self, Int.toNat_natCast]
        · simpa using hbs
      · have hm : m < 128 := by omega
        rw [putU_small hm] at hbs
        have e : ((m : Int) % 256).toNat = m := by omega
        rw [e, ← hbs]
        refine ⟨by omega, by unfold top; omega, rfl, by simp⟩
  · exact hp.elim

def S19 (f : FuncId) : Option FSpec :=
  match f with
  | 44 => some zzS
  | 43 => some bytesS
  | _ => none
theorem S19_ok : Fns Try.prog S19 := by
  intro f s h
  unfold S19 at h
  split at h
  · injection h with h; subst h; exact ⟨⟨_, Try.func44, by kernel_rfl, by kernel_rfl⟩, rzig_sound⟩
  · injection h with h; subst h; exact ⟨⟨_, Try.func43, by kernel_rfl, by kernel_rfl⟩, bytes_sound⟩
  · cases h
theorem rput_sound : Sound Try.prog 28 putS := by
  refine fn_sound (S := S19) (T := ty) mixed ty_ok S19_ok Try.func28 (c := Try.f28.body.getD .skip) (by kernel_rfl) (by kernel_rfl) (fun xs pins hp _ => ?_)
  unfold putS at hp ⊢
  split at hp
  · rename_i n _
    obtain ⟨rfl, h1, h2⟩ := hp
    have hz := zz_range n h1 h2
    refine ⟨by decide, ?_⟩
    unfold Try.f28
    simp only [evT, evD0, evD1, evD2, implies_true, forall_const, Option.getD, later_normal, aop, aLen, ev, putSlot, cv, cvl, aConv, aBin, aInt, aUn, aFn, aEq, List.length, IntKind.bits, evo, coe, List.append, List.replicate, Nat.reduceAdd, Nat.reduceSub, Nat.reduceMul, Int.reduceToNat, reduceCtorEq, aIndexAddr, aIndex, TD.aggr, aPick, aMin, aMax, Ax.Ends, rone, ↓reduceIte, List.isEmpty, Int.reducePow, Nat.reducePow, Int.reduceMod, Nat.reduceLeDiff, Int.reduceLE, Int.reduceNe, Int.reduceEq, aAppend, appendB, viewB, List.drop, List.take, aRange, aNext, aCopy, srcB, viewG, appendG, appendI, aSlice, bnd, full3, aStore, setB, AV.leaves, AV.okv, AV.leaf, one, elemLeaves, Blk.size, Blk.len, Option.isSome, Option.isNone, aStr, aNil, aExtract, viewI, Nat.reduceEqDiff, Nat.reduceLT, Nat.reduceBEq, List.contains, List.elem, Blk.closed, Blk.noimm, ↓gsplit_tt, ↓gsplit_ff, ↓gsplit_tf, ↓gsplit_ft, ↓csplit_t, ↓csplit_f, givenUp, Blk.clean, notMs, ty, S19, zzS, bytesS, h1, h2, hz.1, hz.2]
  · exact hp.elim

def clampI (n : Int) : Int := if n < 0 then 0 else if 8 < n then 8 else n
def clampS : FSpec
  | [.w (.int k n)], [] => ⟨k = .i64, .w (.int .i64 (clampI n)), []⟩
  | _, _ => noRes
theorem clamp_sound : Sound Try.prog 47 clampS := by
  refine fn_sound (S := noS) (T := ty) mixed ty_ok noS_ok Try.func47 (c := Try.f47.body.getD .skip) (by kernel_rfl) (by kernel_rfl) (fun xs pins hp _ => ?_)
  unfold clampS at hp ⊢
  split at hp
  · rename_i n _
    obtain rfl := hp
    refine ⟨by decide, ?_⟩
    unfold Try.f47
    simp only [evT, evD0, evD1, evD2, implies_true, forall_const, Option.getD, later_normal, aop, aLen, ev, putSlot, cv, cvl, aConv, aBin, aInt, aUn, aFn, aEq, List.length, IntKind.bits, evo, coe, List.append, List.replicate, Nat.reduceAdd, Nat.reduceSub, Nat.reduceMul, Int.reduceToNat, reduceCtorEq, aIndexAddr, aIndex, TD.aggr, aPick, aMin, aMax, Ax.Ends, rone, ↓reduceIte, List.isEmpty, Int.reducePow, Nat.reducePow, Int.reduceMod, Nat.reduceLeDiff, Int.reduceLE, Int.reduceNe, Int.reduceEq, aAppend, appendB, viewB, List.drop, List.take, aRange, aNext, aCopy, srcB, viewG, appendG, appendI, aSlice, bnd, full3, aStore, setB, AV.leaves, AV.okv, AV.leaf, one, elemLeaves, Blk.size, Blk.len, Option.isSome, Option.isNone, aStr, aNil, aExtract, viewI, Nat.reduceEqDiff, Nat.reduceLT, Nat.reduceBEq, List.contains, List.elem, Blk.closed, Blk.noimm, ↓gsplit_tt, ↓gsplit_ff, ↓gsplit_tf, ↓gsplit_ft, ↓csplit_t, ↓csplit_f, givenUp, Blk.clean, notMs, ty, noS]
    unfold clampI
    repeat' split
    all_goals omega
  · exact hp.elim

/-- The document's text: the number of its bytes, and they. -/
def textL (s : List UInt8) : List UInt8 := putU (2 * s.length) ++ s
def textS : FSpec
  | [.str s], [] => ⟨s.length ≤ 1000000, .ms 0 1 0 (textL s).length, [.b (textL s)]⟩
  | _, _ => noRes
def S37 (f : FuncId) : Option FSpec :=
  match f with
  | 24 => some putS
  | 28 => some putS
  | _ => none
theorem S37_ok : Fns Try.prog S37 := by
  intro f s h
  unfold S37 at h
  split at h
  · injection h with h; subst h; exact ⟨⟨_, Try.func24, by kernel_rfl, by kernel_rfl⟩, put_sound⟩
  · injection h with h; subst h; exact ⟨⟨_, Try.func28, by kernel_rfl, by kernel_rfl⟩, rput_sound⟩
  · cases h
theorem text_sound : Sound Try.prog 25 textS := by
  refine fn_sound (S := S37) (T := ty) mixed ty_ok S37_ok Try.func25 (c := Try.f25.body.getD .skip) (by kernel_rfl) (by kernel_rfl) (fun xs pins hp _ => ?_)
  unfold textS at hp ⊢
  split at hp
  · rename_i s _
    refine ⟨by decide, ?_⟩
    have hp : s.length ≤ 1000000 := hp
    have hz : (zz (s.length : Int)).toNat = 2 * s.length := by unfold zz; rw [if_pos (by omega)]; omega
    have h10 := putU_length (2 * s.length) (by omega)
    unfold Try.f25
    simp only [evT, evD0, evD1, evD2, implies_true, forall_const, Option.getD, later_normal, aop, aLen, ev, putSlot, cv, cvl, aConv, aBin, aInt, aUn, aFn, aEq, List.length, IntKind.bits, evo, coe, List.append, List.replicate, Nat.reduceAdd, Nat.reduceSub, Nat.reduceMul, Int.reduceToNat, reduceCtorEq, aIndexAddr, aIndex, TD.aggr, aPick, aMin, aMax, Ax.Ends, rone, ↓reduceIte, List.isEmpty, Int.reducePow, Nat.reducePow, Int.reduceMod, Nat.reduceLeDiff, Int.reduceLE, Int.reduceNe, Int.reduceEq, aAppend, appendB, viewB, List.drop, List.take, aRange, aNext, aCopy, srcB, viewG, appendG, appendI, aSlice, bnd, full3, aStore, setB, AV.leaves, AV.okv, AV.leaf, one, elemLeaves, Blk.size, Blk.len, Option.isSome, Option.isNone, aStr, aNil, aExtract, viewI, Nat.reduceEqDiff, Nat.reduceLT, Nat.reduceBEq, List.contains, List.elem, Blk.closed, Blk.noimm, ↓gsplit_tt, ↓gsplit_ff, ↓gsplit_tf, ↓gsplit_ft, ↓csplit_t, ↓csplit_f, givenUp, Blk.clean, notMs, ty, S37, putS, hz]
    unfold textL top
    simp only [List.length_append]
    exact ⟨by omega, by omega, trivial, trivial⟩
  · exact hp.elim
theorem rtext_sound : Sound Try.prog 29 textS := by
  refine fn_sound (S := S37) (T := ty) mixed ty_ok S37_ok Try.func29 (c := Try.f29.body.getD .skip) (by kernel_rfl) (by kernel_rfl) (fun xs pins hp _ => ?_)
  unfold textS at hp ⊢
  split at hp
  · rename_i s _
    refine ⟨by decide, ?_⟩
    have hp : s.length ≤ 1000000 := hp
    have hz : (zz (s.length : Int)).toNat = 2 * s.length := by unfold zz; rw [if_pos (by omega)]; omega
    have h10 := putU_length (2 * s.length) (by omega)
    unfold Try.f29
    simp only [evT, evD0, evD1, evD2, implies_true, forall_const, Option.getD, later_normal, aop, aLen, ev, putSlot, cv, cvl, aConv, aBin, aInt, aUn, aFn, aEq, List.length, IntKind.bits, evo, coe, List.append, List.replicate, Nat.reduceAdd, Nat.reduceSub, Nat.reduceMul, Int.reduceToNat, reduceCtorEq, aIndexAddr, aIndex, TD.aggr, aPick, aMin, aMax, Ax.Ends, rone, ↓reduceIte, List.isEmpty, Int.reducePow, Nat.reducePow, Int.reduceMod, Nat.reduceLeDiff, Int.reduceLE, Int.reduceNe, Int.reduceEq, aAppend, appendB, viewB, List.drop, List.take, aRange, aNext, aCopy, srcB, viewG, appendG, appendI, aSlice, bnd, full3, aStore, setB, AV.leaves, AV.okv, AV.leaf, one, elemLeaves, Blk.size, Blk.len, Option.isSome, Option.isNone, aStr, aNil, aExtract, viewI, Nat.reduceEqDiff, Nat.reduceLT, Nat.reduceBEq, List.contains, List.elem, Blk.closed, Blk.noimm, ↓gsplit_tt, ↓gsplit_ff, ↓gsplit_tf, ↓gsplit_ft, ↓csplit_t, ↓csplit_f, givenUp, Blk.clean, notMs, ty, S37, putS, hz]
    unfold textL top
    simp only [List.length_append]
    exact ⟨by omega, by omega, trivial, trivial⟩
  · exact hp.elim
end
end Go.Proofs.Ytlbdhkgjhjcgiaa
