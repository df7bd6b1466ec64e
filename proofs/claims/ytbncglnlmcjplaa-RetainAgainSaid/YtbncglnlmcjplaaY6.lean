/- Layer 16: Total, Start. -/
import Derived.Test.YtbncglnlmcjplaaY5
namespace Go.Proofs.Ytbncglnlmcjplaa
open Ax
set_option linter.unusedSimpArgs false
set_option linter.unusedVariables false
section
set_option maxRecDepth 100000
set_option maxHeartbeats 1000000
def Stot16 (f : FuncId) : Option FSpec :=
  match f with
  | 17 => some blkS16
  | _ => none
theorem Stot16_ok : Fns Try.prog Stot16 := by
  intro f s h
  unfold Stot16 at h
  split at h
  · injection h with h; subst h; exact ⟨⟨_, Try.func17, by kernel_rfl, by kernel_rfl⟩, blk16_sound⟩
  · cases h
theorem tot16_sound : Sound Try.prog 14 totS16 := by
  refine fn_sound (S := Stot16) (T := ty) mixed ty_ok Stot16_ok Try.func14 (c := Try.f14.body.getD .skip) (by kernel_rfl) (by kernel_rfl) (fun xs pins hp _ => ?_)
  unfold totS16 at hp ⊢
  split at hp
  · rename_i xs f _
    obtain ⟨hL, es, rfl⟩ := hp
    rw [List.length_map] at hL
    refine ⟨by simp, ?_⟩
    have hl4 : (es.map sgA).length = es.length := by simp
    unfold Try.f14
    simp only [go_sem, coe, later_normal, Nat.reduceAdd, Nat.reduceSub, Nat.reduceMul, Int.reduceToNat, reduceCtorEq, ↓reduceIte, Int.reducePow, Nat.reducePow, Int.reduceMod, Nat.reduceLeDiff, Int.reduceLE, Int.reduceNe, Int.reduceEq, Nat.reduceEqDiff, Nat.reduceLT, Nat.reduceBEq, ty, Stot16, blkS16, hl4, map_sgOf]
    refine awp_loop ⟨fun m σ => ∃ i : Nat, m = es.length - i ∧ i ≤ es.length ∧
        σ = ⟨[.sg 4 (es.map sgA) f, .junk, .w (.int .i64 0), .w (.int .i64 (totL (es.take i))), .junk, .junk, .sg 4 (es.map sgA) f, .w (.int .i64 es.length), .w (.int .i64 i), .junk, .junk, .junk, .junk, .junk, .junk, .junk, .junk, .junk], [], 4⟩, ?_, ?_⟩
    · refine ⟨_, _, weak_ren [0, 1, 2, 3] rfl rfl rfl ?_ ?_, 0, rfl, by omega, rfl⟩
      · simp only [ssT, SameS, SameH, setSlot, gOf, AV.ren, renL, Blk.ren, Ax.look, Ax.put, reduceCtorEq, ↓reduceIte, Nat.reduceEqDiff, Nat.reduceLT, Nat.reduceAdd, List.length_append, List.length_cons, List.length_nil, Option.some.injEq]; try simp; try rfl
      · simp only [ssT, SameS, SameH, setSlot, gOf, AV.ren, renL, Blk.ren, Ax.look, Ax.put, reduceCtorEq, ↓reduceIte, Nat.reduceEqDiff, Nat.reduceLT, Nat.reduceAdd, List.length_append, List.length_cons, List.length_nil, Option.some.injEq]
    · rintro m σ ⟨i, rfl, hi, rfl⟩
      by_cases hil : i < es.length
      · have d1 : decide ((i : Int) < es.length) = true := decide_eq_true (by omega)
        have e1 : ((i : Int) + 1 + 9223372036854775808) % 18446744073709551616 - 9223372036854775808 = ((i + 1 : Nat) : Int) := by omega
        have hs1 := slot_sgA es i hil
        have hf := totL_snoc es i hil
        have hr := totL_range es i hi
        obtain ⟨P, hP⟩ : ∃ P, es[i] = P := ⟨_, rfl⟩
        rw [hP] at hs1 hf
        have hbr := blk16_range P.k
        obtain ⟨T, hT⟩ : ∃ T, totL (es.take i) = T := ⟨_, rfl⟩
        rw [hT] at hf hr ⊢
        have e2 : (T + blk16 P.k + 9223372036854775808) % 18446744073709551616 - 9223372036854775808 = totL (es.take (i + 1)) := by rw [hf]; omega
        simp only [sgA] at hs1
        simp only [go_sem, coe, later_normal, Nat.reduceAdd, Nat.reduceSub, Nat.reduceMul, Int.reduceToNat, reduceCtorEq, ↓reduceIte, Int.reducePow, Nat.reducePow, Int.reduceMod, Nat.reduceLeDiff, Int.reduceLE, Int.reduceNe, Int.reduceEq, Nat.reduceEqDiff, Nat.reduceLT, Nat.reduceBEq, ty, Stot16, blkS16, hl4, d1, e1, e2, hs1, Int.toNat_natCast]
        repeat (refine And.intro (by omega) ?_)
        refine ⟨es.length - (i + 1), _, by omega, weak_ren [0, 1, 2, 3] rfl rfl rfl ?_ ?_, i + 1, rfl, by omega, rfl⟩
        · simp only [ssT, SameS, SameH, setSlot, gOf, AV.ren, renL, Blk.ren, Ax.look, Ax.put, reduceCtorEq, ↓reduceIte, Nat.reduceEqDiff, Nat.reduceLT, Nat.reduceAdd, List.length_append, List.length_cons, List.length_nil, Option.some.injEq]
        · simp only [ssT, SameS, SameH, setSlot, gOf, AV.ren, renL, Blk.ren, Ax.look, Ax.put, reduceCtorEq, ↓reduceIte, Nat.reduceEqDiff, Nat.reduceLT, Nat.reduceAdd, List.length_append, List.length_cons, List.length_nil, Option.some.injEq]
      · have d1 : decide ((i : Int) < es.length) = false := decide_eq_false (by omega)
        have hii : es.take i = es := List.take_of_length_le (by omega)
        rw [hii]
        simp only [go_sem, coe, later_normal, Nat.reduceAdd, Nat.reduceSub, Nat.reduceMul, Int.reduceToNat, reduceCtorEq, ↓reduceIte, Int.reducePow, Nat.reducePow, Int.reduceMod, Nat.reduceLeDiff, Int.reduceLE, Int.reduceNe, Int.reduceEq, Nat.reduceEqDiff, Nat.reduceLT, Nat.reduceBEq, ty, Stot16, blkS16, hl4, d1, map_sgOf]
        try exact ⟨hL, es, rfl⟩
  · exact hp.elim
theorem start16_sound : Sound Try.prog 9 startS16 := by
  refine fn_sound (S := noS) (T := ty) mixed ty_ok noS_ok Try.func9 (c := Try.f9.body.getD .skip) (by kernel_rfl) (by kernel_rfl) (fun xs pins hp _ => ?_)
  unfold startS16 at hp ⊢
  split at hp
  · rename_i xs f n _
    obtain ⟨hL, es, rfl⟩ := hp
    rw [List.length_map] at hL
    refine ⟨by simp, ?_⟩
    have hl4 : (es.map sgA).length = es.length := by simp
    unfold stA stB
    unfold Try.f9
    by_cases h0 : n < 0
    · have d0 : decide (n < 0) = true := decide_eq_true h0
      have d1 : (0 ≤ n ∧ n < (es.length : Int)) = False := eq_false (by omega)
      simp only [go_sem, coe, later_normal, Nat.reduceAdd, Nat.reduceSub, Nat.reduceMul, Int.reduceToNat, reduceCtorEq, ↓reduceIte, Int.reducePow, Nat.reducePow, Int.reduceMod, Nat.reduceLeDiff, Int.reduceLE, Int.reduceNe, Int.reduceEq, Nat.reduceEqDiff, Nat.reduceLT, Nat.reduceBEq, ty, noS, hl4, d0, d1, if_false, decide_false]
      all_goals try exact ⟨hL, es, rfl⟩
    · have d0 : decide (n < 0) = false := decide_eq_false h0
      obtain ⟨i, rfl⟩ : ∃ i : Nat, n = i := ⟨n.toNat, by omega⟩
      by_cases hi : i < es.length
      · have d1 : (0 ≤ (i : Int) ∧ (i : Int) < (es.length : Int)) = True := eq_true (by omega)
        have d2 : decide ((es.length : Int) ≤ i) = false := decide_eq_false (by omega)
        have d3 : decide ((i : Int) < es.length) = true := decide_eq_true (by omega)
        have d4 : decide (i < es.length) = true := decide_eq_true (by omega)
        have hs1 := slot_sgA es i hi
        simp only [sgA] at hs1
        have hs2 : sgOf (slot (es.map sgA) i) = es[i] := by rw [slot_sgA es i hi]; rfl
        simp only [go_sem, coe, later_normal, Nat.reduceAdd, Nat.reduceSub, Nat.reduceMul, Int.reduceToNat, reduceCtorEq, ↓reduceIte, Int.reducePow, Nat.reducePow, Int.reduceMod, Nat.reduceLeDiff, Int.reduceLE, Int.reduceNe, Int.reduceEq, Nat.reduceEqDiff, Nat.reduceLT, Nat.reduceBEq, ty, noS, hl4, d0, d1, d2, d3, d4, hs1, hs2, Int.toNat_natCast, if_true, decide_true, sgOf]
        all_goals first | exact ⟨hL, es, rfl⟩ | exact ⟨by omega, hi⟩ | skip
      · have d1 : (0 ≤ (i : Int) ∧ (i : Int) < (es.length : Int)) = False := eq_false (by omega)
        have d2 : decide ((es.length : Int) ≤ i) = true := decide_eq_true (by omega)
        simp only [go_sem, coe, later_normal, Nat.reduceAdd, Nat.reduceSub, Nat.reduceMul, Int.reduceToNat, reduceCtorEq, ↓reduceIte, Int.reducePow, Nat.reducePow, Int.reduceMod, Nat.reduceLeDiff, Int.reduceLE, Int.reduceNe, Int.reduceEq, Nat.reduceEqDiff, Nat.reduceLT, Nat.reduceBEq, ty, noS, hl4, d0, d1, d2, if_false, decide_false]
        all_goals first | exact ⟨hL, es, rfl⟩ | exact ⟨by omega, hi⟩ | skip
  · exact hp.elim
theorem rstart16_sound : Sound Try.prog 10 startS16 := by
  refine fn_sound (S := noS) (T := ty) mixed ty_ok noS_ok Try.func10 (c := Try.f10.body.getD .skip) (by kernel_rfl) (by kernel_rfl) (fun xs pins hp _ => ?_)
  unfold startS16 at hp ⊢
  split at hp
  · rename_i xs f n _
    obtain ⟨hL, es, rfl⟩ := hp
    rw [List.length_map] at hL
    refine ⟨by simp, ?_⟩
    have hl4 : (es.map sgA).length = es.length := by simp
    unfold stA stB
    unfold Try.f10
    by_cases h0 : n < 0
    · have d0 : decide (n < 0) = true := decide_eq_true h0
      have d1 : (0 ≤ n ∧ n < (es.length : Int)) = False := eq_false (by omega)
      simp only [go_sem, coe, later_normal, Nat.reduceAdd, Nat.reduceSub, Nat.reduceMul, Int.reduceToNat, reduceCtorEq, ↓reduceIte, Int.reducePow, Nat.reducePow, Int.reduceMod, Nat.reduceLeDiff, Int.reduceLE, Int.reduceNe, Int.reduceEq, Nat.reduceEqDiff, Nat.reduceLT, Nat.reduceBEq, ty, noS, hl4, d0, d1, if_false, decide_false]
      all_goals try exact ⟨hL, es, rfl⟩
    · have d0 : decide (n < 0) = false := decide_eq_false h0
      obtain ⟨i, rfl⟩ : ∃ i : Nat, n = i := ⟨n.toNat, by omega⟩
      by_cases hi : i < es.length
      · have d1 : (0 ≤ (i : Int) ∧ (i : Int) < (es.length : Int)) = True := eq_true (by omega)
        have d2 : decide ((es.length : Int) ≤ i) = false := decide_eq_false (by omega)
        have d3 : decide ((i : Int) < es.length) = true := decide_eq_true (by omega)
        have d4 : decide (i < es.length) = true := decide_eq_true (by omega)
        have hs1 := slot_sgA es i hi
        simp only [sgA] at hs1
        have hs2 : sgOf (slot (es.map sgA) i) = es[i] := by rw [slot_sgA es i hi]; rfl
        simp only [go_sem, coe, later_normal, Nat.reduceAdd, Nat.reduceSub, Nat.reduceMul, Int.reduceToNat, reduceCtorEq, ↓reduceIte, Int.reducePow, Nat.reducePow, Int.reduceMod, Nat.reduceLeDiff, Int.reduceLE, Int.reduceNe, Int.reduceEq, Nat.reduceEqDiff, Nat.reduceLT, Nat.reduceBEq, ty, noS, hl4, d0, d1, d2, d3, d4, hs1, hs2, Int.toNat_natCast, if_true, decide_true, sgOf]
        all_goals first | exact ⟨hL, es, rfl⟩ | exact ⟨by omega, hi⟩ | skip
      · have d1 : (0 ≤ (i : Int) ∧ (i : Int) < (es.length : Int)) = False := eq_false (by omega)
        have d2 : decide ((es.length : Int) ≤ i) = true := decide_eq_true (by omega)
        simp only [go_sem, coe, later_normal, Nat.reduceAdd, Nat.reduceSub, Nat.reduceMul, Int.reduceToNat, reduceCtorEq, ↓reduceIte, Int.reducePow, Nat.reducePow, Int.reduceMod, Nat.reduceLeDiff, Int.reduceLE, Int.reduceNe, Int.reduceEq, Nat.reduceEqDiff, Nat.reduceLT, Nat.reduceBEq, ty, noS, hl4, d0, d1, d2, if_false, decide_false]
        all_goals first | exact ⟨hL, es, rfl⟩ | exact ⟨by omega, hi⟩ | skip
  · exact hp.elim
end
end Go.Proofs.Ytbncglnlmcjplaa
