/- Layer 16: awake, RetainDrops. -/
import Derived.Test.YtbncglnlmcjplaaY9
import Derived.Test.YtbncglnlmcjplaaAz
namespace Go.Proofs.Ytbncglnlmcjplaa
open Ax
set_option linter.unusedSimpArgs false
set_option linter.unusedVariables false
def Saw16 (f : FuncId) : Option FSpec :=
  match f with
  | 9 => some startS16
  | 8 => some drS
  | 14 => some totS16
  | 11 => some oldS
  | _ => none
theorem Saw16_ok : Fns Try.prog Saw16 := by
  intro f s h
  unfold Saw16 at h
  split at h
  · injection h with h; subst h; exact ⟨⟨_, Try.func9, by kernel_rfl, by kernel_rfl⟩, start16_sound⟩
  · injection h with h; subst h; exact ⟨⟨_, Try.func8, by kernel_rfl, by kernel_rfl⟩, drop_sound⟩
  · injection h with h; subst h; exact ⟨⟨_, Try.func14, by kernel_rfl, by kernel_rfl⟩, tot16_sound⟩
  · injection h with h; subst h; exact ⟨⟨_, Try.func11, by kernel_rfl, by kernel_rfl⟩, old_sound⟩
  · cases h
def aw16 : List Sg := [⟨1, 0, 5, 10⟩, ⟨4, 0, 9, 10⟩, ⟨7, 0, 9, 10⟩]
theorem f16a : ((drL (List.map sgOf [AV.agg [.w (.int .i64 1), .w (.int .i64 0), .w (.int .i64 5), .w (.int .i64 10)], AV.agg [.w (.int .i64 4), .w (.int .i64 0), .w (.int .i64 9), .w (.int .i64 10)], AV.agg [.w (.int .i64 7), .w (.int .i64 0), .w (.int .i64 9), .w (.int .i64 10)]]) (-1) 25 0 : Nat) : Int) = 1 := by decide +kernel
theorem f16b : ((drL (List.map sgOf [AV.agg [.w (.int .i64 1), .w (.int .i64 0), .w (.int .i64 5), .w (.int .i64 10)], AV.agg [.w (.int .i64 4), .w (.int .i64 0), .w (.int .i64 9), .w (.int .i64 10)], AV.agg [.w (.int .i64 7), .w (.int .i64 0), .w (.int .i64 9), .w (.int .i64 10)]]) 4 (-1) 14 : Nat) : Int) = 2 := by decide +kernel
theorem f16c : ((drL (List.map sgOf [AV.agg [.w (.int .i64 1), .w (.int .i64 0), .w (.int .i64 5), .w (.int .i64 10)], AV.agg [.w (.int .i64 4), .w (.int .i64 0), .w (.int .i64 9), .w (.int .i64 10)], AV.agg [.w (.int .i64 7), .w (.int .i64 0), .w (.int .i64 9), .w (.int .i64 10)]]) 3 (-1) 9 : Nat) : Int) = 1 := by decide +kernel
theorem f16d : ((drL (List.map sgOf [AV.agg [.w (.int .i64 1), .w (.int .i64 0), .w (.int .i64 5), .w (.int .i64 10)], AV.agg [.w (.int .i64 4), .w (.int .i64 0), .w (.int .i64 9), .w (.int .i64 10)], AV.agg [.w (.int .i64 7), .w (.int .i64 0), .w (.int .i64 9), .w (.int .i64 10)]]) (-1) (-1) 99 : Nat) : Int) = 0 := by decide +kernel
theorem f16e : stA [AV.agg [.w (.int .i64 1), .w (.int .i64 0), .w (.int .i64 5), .w (.int .i64 10)], AV.agg [.w (.int .i64 4), .w (.int .i64 0), .w (.int .i64 9), .w (.int .i64 10)], AV.agg [.w (.int .i64 7), .w (.int .i64 0), .w (.int .i64 9), .w (.int .i64 10)]] 1 = 4 := by decide +kernel
theorem f16f : stB [AV.agg [.w (.int .i64 1), .w (.int .i64 0), .w (.int .i64 5), .w (.int .i64 10)], AV.agg [.w (.int .i64 4), .w (.int .i64 0), .w (.int .i64 9), .w (.int .i64 10)], AV.agg [.w (.int .i64 7), .w (.int .i64 0), .w (.int .i64 9), .w (.int .i64 10)]] 1 = true := by decide +kernel
theorem f16g : totL (List.map sgOf [AV.agg [.w (.int .i64 1), .w (.int .i64 0), .w (.int .i64 5), .w (.int .i64 10)], AV.agg [.w (.int .i64 4), .w (.int .i64 0), .w (.int .i64 9), .w (.int .i64 10)], AV.agg [.w (.int .i64 7), .w (.int .i64 0), .w (.int .i64 9), .w (.int .i64 10)]]) = 30 := by decide +kernel
theorem f16h : oldB 5 3 9 = true := by decide +kernel
theorem f16i : ∃ es : List Sg, [AV.agg [.w (.int .i64 1), .w (.int .i64 0), .w (.int .i64 5), .w (.int .i64 10)], AV.agg [.w (.int .i64 4), .w (.int .i64 0), .w (.int .i64 9), .w (.int .i64 10)], AV.agg [.w (.int .i64 7), .w (.int .i64 0), .w (.int .i64 9), .w (.int .i64 10)]] = es.map sgA := ⟨aw16, rfl⟩
theorem f16j (n : Int) (h : -9223372036854775808 ≤ n ∧ n ≤ 9223372036854775807) : Ok16 n := h
section
set_option maxRecDepth 100000
set_option maxHeartbeats 2000000
theorem aw16_sound : Sound Try.prog 6 yesS := by
  refine fn_sound (S := Saw16) (T := ty) mixed ty_ok Saw16_ok Try.func6 (c := Try.f6.body.getD .skip) (by kernel_rfl) (by kernel_rfl) (fun xs pins hp _ => ?_)
  unfold yesS at hp ⊢
  split at hp
  · refine ⟨by simp, ?_⟩
    unfold Try.f6
    have k9 := f16j 9 (by omega)
    simp only [go_sem, coe, later_normal, Nat.reduceAdd, Nat.reduceSub, Nat.reduceMul, Int.reduceToNat, reduceCtorEq, ↓reduceIte, Int.reducePow, Nat.reducePow, Int.reduceMod, Nat.reduceLeDiff, Int.reduceLE, Int.reduceNe, Int.reduceEq, Nat.reduceEqDiff, Nat.reduceLT, Nat.reduceBEq, ty, Saw16, startS16, drS, totS16, oldS, f16a, f16b, f16c, f16d, f16e, f16f, f16g, f16h, f16i, k9, forall_eq_or_imp, forall_eq, AV.closed, closedL]
  · exact hp.elim
end
end Go.Proofs.Ytbncglnlmcjplaa
