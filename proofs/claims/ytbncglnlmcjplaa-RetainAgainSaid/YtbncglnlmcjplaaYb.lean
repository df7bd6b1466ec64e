/- Layer 16: RetainDrops. -/
import Derived.Test.YtbncglnlmcjplaaYa
namespace Go.Proofs.Ytbncglnlmcjplaa
open Ax
set_option linter.unusedSimpArgs false
set_option linter.unusedVariables false
def Slw16 (f : FuncId) : Option FSpec :=
  match f with
  | 6 => some yesS
  | 7 => some as16S
  | 9 => some startS16
  | 10 => some startS16
  | 8 => some drS
  | 13 => some drS
  | 14 => some totS16
  | 15 => some totS16
  | 11 => some oldS
  | 12 => some oldS
  | _ => none
theorem Slw16_ok : Fns Try.prog Slw16 := by
  intro f s h
  unfold Slw16 at h
  split at h
  · injection h with h; subst h; exact ⟨⟨_, Try.func6, by kernel_rfl, by kernel_rfl⟩, aw16_sound⟩
  · injection h with h; subst h; exact ⟨⟨_, Try.func7, by kernel_rfl, by kernel_rfl⟩, as16_sound⟩
  · injection h with h; subst h; exact ⟨⟨_, Try.func9, by kernel_rfl, by kernel_rfl⟩, start16_sound⟩
  · injection h with h; subst h; exact ⟨⟨_, Try.func10, by kernel_rfl, by kernel_rfl⟩, rstart16_sound⟩
  · injection h with h; subst h; exact ⟨⟨_, Try.func8, by kernel_rfl, by kernel_rfl⟩, drop_sound⟩
  · injection h with h; subst h; exact ⟨⟨_, Try.func13, by kernel_rfl, by kernel_rfl⟩, rdrop16_sound⟩
  · injection h with h; subst h; exact ⟨⟨_, Try.func14, by kernel_rfl, by kernel_rfl⟩, tot16_sound⟩
  · injection h with h; subst h; exact ⟨⟨_, Try.func15, by kernel_rfl, by kernel_rfl⟩, rtot16_sound⟩
  · injection h with h; subst h; exact ⟨⟨_, Try.func11, by kernel_rfl, by kernel_rfl⟩, old_sound⟩
  · injection h with h; subst h; exact ⟨⟨_, Try.func12, by kernel_rfl, by kernel_rfl⟩, rold_sound⟩
  · cases h
def rdropsS : FSpec
  | [.sg 4 xs f, .agg [.w (.int .i64 rT), .w (.int .i64 rB)], .w (.int .i64 now)], [] => ⟨(xs.length ≤ 9223372036854775807 ∧ ∃ l : List Sg, xs = l.map sgA) ∧ Ok16 now, .w (.bool true), []⟩
  | _, _ => noRes
section
set_option maxRecDepth 100000
set_option maxHeartbeats 4000000
theorem rdrops_law : Sound Try.prog 3 rdropsS := by
  refine fn_sound (S := Slw16) (T := tyF) mixed tyF_ok Slw16_ok Try.func3 (c := Try.f3.body.getD .skip) (by kernel_rfl) (by kernel_rfl) (fun xs pins hp _ => ?_)
  unfold rdropsS at hp ⊢
  split at hp
  · rename_i xs f rT rB now _
    obtain ⟨⟨hL, l, rfl⟩, hok⟩ := hp
    rw [List.length_map] at hL
    refine ⟨by simp, ?_⟩
    have hl4 : (l.map sgA).length = l.length := by simp
    have hcg := closed_sgA l
    have hco : ∀ b, coe (setFlat ty) 22 (.sg 4 (l.map sgA) b) = .sg 4 (l.map sgA) b := fun b => by cases l <;> rfl
    have hco2 : ∀ b, coe (setFlat ty) 26 (.sg 4 (l.map sgA) b) = .sg 4 (l.map sgA) b := fun b => by cases l <;> rfl
    have hex : ∃ es : List Sg, l.map sgA = es.map sgA := ⟨l, rfl⟩
    unfold Try.f3
    by_cases h60 : 60 < l.length
    · have d60 : decide ((60 : Int) < l.length) = true := decide_eq_true (by omega)
      simp only [go_sem, later_normal, Nat.reduceAdd, Nat.reduceSub, Nat.reduceMul, Int.reduceToNat, reduceCtorEq, ↓reduceIte, Int.reducePow, Nat.reducePow, Int.reduceMod, Nat.reduceLeDiff, Int.reduceLE, Int.reduceNe, Int.reduceEq, Nat.reduceEqDiff, Nat.reduceLT, Nat.reduceBEq, tyF, setFlat, ty, Slw16, yesS, hl4, hco, hcg, d60]
    · have d60 : decide ((60 : Int) < l.length) = false := decide_eq_false (by omega)
      have hle : l.length ≤ 1000000 := by omega
      have hn1 : -9223372036854775808 ≤ now := hok.1
      have hn2 : now ≤ 9223372036854775807 := hok.2
      obtain ⟨N, hN⟩ : ∃ N : Nat, drL l rT rB now = N := ⟨_, rfl⟩
      obtain ⟨A, hA⟩ : ∃ A, stA (l.map sgA) (N : Int) = A := ⟨_, rfl⟩
      obtain ⟨B, hB⟩ : ∃ B, stB (l.map sgA) (N : Int) = B := ⟨_, rfl⟩
      obtain ⟨A2, hA2⟩ : ∃ A, stA (l.map sgA) now = A := ⟨_, rfl⟩
      obtain ⟨B2, hB2⟩ : ∃ B, stB (l.map sgA) now = B := ⟨_, rfl⟩
      simp only [go_sem, later_normal, Nat.reduceAdd, Nat.reduceSub, Nat.reduceMul, Int.reduceToNat, reduceCtorEq, ↓reduceIte, Int.reducePow, Nat.reducePow, Int.reduceMod, Nat.reduceLeDiff, Int.reduceLE, Int.reduceNe, Int.reduceEq, Nat.reduceEqDiff, Nat.reduceLT, Nat.reduceBEq, tyF, setFlat, ty, Slw16, as16S, startS16, drS, hl4, hco, hco2, hcg, d60, hle, hex, hn1, hn2, map_sgOf, hN, hA, hB, hA2, hB2]
      have hmm : ∀ m : Int, decide (m = m) = true := fun m => decide_eq_true rfl
      have hbb : ∀ b : Bool, decide (b = b) = true := fun b => decide_eq_true rfl
      refine awp_loop ⟨fun m σ => ∃ i : Nat, m = l.length - i ∧ i ≤ l.length ∧
          σ = ⟨[.sg 4 (l.map sgA) f, .agg [.w (.int .i64 rT), .w (.int .i64 rB)], .w (.int .i64 now), .junk, .rf 4 2 0 0, .junk, .w (.bool false), .sg 4 (l.map sgA) false, .w (.int .i64 N), .w (.int .i64 A), .w (.bool B), .w (.int .i64 A), .w (.bool B), .w (.int .i64 A2), .w (.bool B2), .w (.int .i64 A2), .w (.bool B2), .w (.int .i64 i), .junk, .junk, .junk, .junk, .junk, .junk, .junk, .junk, .junk, .junk, .junk, .junk, .junk, .junk, .junk, .junk, .junk, .junk, .junk, .junk, .junk, .junk, .junk, .junk, .junk, .junk, .junk, .junk, .junk, .junk, .junk, .junk, .junk, .junk, .junk, .junk, .junk, .junk, .junk, .junk, .junk, .junk, .junk, .junk, .junk, .junk, .junk, .junk, .junk, .junk, .junk, .junk, .junk, .junk, .junk, .junk, .junk, .junk, .junk, .junk, .junk, .junk, .junk, .junk, .junk, .junk, .junk, .junk, .junk, .junk, .junk, .junk, .junk, .junk, .junk, .junk, .junk, .junk, .junk, .junk, .junk, .junk, .junk, .junk, .junk, .junk, .junk, .junk, .junk, .junk, .junk], [(4, .g 2 [.agg [.w (.int .i64 rT), .w (.int .i64 rB)]])], 5⟩, ?_, ?_⟩
      · refine ⟨_, _, weak_ren [0, 1, 2, 3, 4] rfl rfl rfl ?_ ?_, 0, rfl, by omega, rfl⟩
        · simp only [ssT, SameS, SameH, setSlot, gOf, AV.ren, renL, Blk.ren, Ax.look, Ax.put, reduceCtorEq, ↓reduceIte, Nat.reduceEqDiff, Nat.reduceLT, Nat.reduceAdd, List.length_append, List.length_cons, List.length_nil, Option.some.injEq, ren_sgA]; try simp
          try rfl
        · simp only [ssT, SameS, SameH, setSlot, gOf, AV.ren, renL, Blk.ren, Ax.look, Ax.put, reduceCtorEq, ↓reduceIte, Nat.reduceEqDiff, Nat.reduceLT, Nat.reduceAdd, List.length_append, List.length_cons, List.length_nil, Option.some.injEq]; try rfl
      · rintro m σ ⟨i, rfl, hi, rfl⟩
        have e1 : ((i : Int) + 1 + 9223372036854775808) % 18446744073709551616 - 9223372036854775808 = ((i + 1 : Nat) : Int) := by omega
        by_cases hil : i < l.length
        · have d1 : decide ((i : Int) < l.length) = true := decide_eq_true (by omega)
          have hs1 := slot_sgA l i hil
          obtain ⟨P, hP⟩ : ∃ P, l[i] = P := ⟨_, rfl⟩
          rw [hP] at hs1
          simp only [sgA] at hs1
          obtain ⟨b, hb⟩ : ∃ b, oldB P.w rT now = b := ⟨_, rfl⟩
          have hnb : (!decide (b = b)) = false := by simp
          have hxb : (b != b) = false := by simp
          simp only [go_sem, later_normal, Nat.reduceAdd, Nat.reduceSub, Nat.reduceMul, Int.reduceToNat, reduceCtorEq, ↓reduceIte, Int.reducePow, Nat.reducePow, Int.reduceMod, Nat.reduceLeDiff, Int.reduceLE, Int.reduceNe, Int.reduceEq, Nat.reduceEqDiff, Nat.reduceLT, Nat.reduceBEq, tyF, setFlat, ty, Slw16, oldS, hok, hl4, d1, hs1, hb, hnb, hxb, hbb, e1, Int.toNat_natCast]
          repeat (refine And.intro (by first | omega | exact hok) ?_)
          refine ⟨l.length - (i + 1), _, by omega, weak_ren [0, 1, 2, 3, 4] rfl rfl rfl ?_ ?_, i + 1, rfl, by omega, rfl⟩
          · simp only [ssT, SameS, SameH, setSlot, gOf, AV.ren, renL, Blk.ren, Ax.look, Ax.put, reduceCtorEq, ↓reduceIte, Nat.reduceEqDiff, Nat.reduceLT, Nat.reduceAdd, List.length_append, List.length_cons, List.length_nil, Option.some.injEq, ren_sgA]
          · simp only [ssT, SameS, SameH, setSlot, gOf, AV.ren, renL, Blk.ren, Ax.look, Ax.put, reduceCtorEq, ↓reduceIte, Nat.reduceEqDiff, Nat.reduceLT, Nat.reduceAdd, List.length_append, List.length_cons, List.length_nil, Option.some.injEq]
        · have d1 : decide ((i : Int) < l.length) = false := decide_eq_false (by omega)
          have hNN : decide ((N : Int) = N) = true := decide_eq_true rfl
          simp only [go_sem, later_normal, Nat.reduceAdd, Nat.reduceSub, Nat.reduceMul, Int.reduceToNat, reduceCtorEq, ↓reduceIte, Int.reducePow, Nat.reducePow, Int.reduceMod, Nat.reduceLeDiff, Int.reduceLE, Int.reduceNe, Int.reduceEq, Nat.reduceEqDiff, Nat.reduceLT, Nat.reduceBEq, tyF, setFlat, ty, Slw16, yesS, drS, totS16, hl4, hco, hco2, hcg, d1, hle, hex, hn1, hn2, map_sgOf, hN, hmm, hbb, hNN]
  · exact hp.elim
end
theorem all_sg : ∀ xs : List AV, (∀ x ∈ xs, ∃ r : Sg, x = sgA r) → ∃ l : List Sg, xs = l.map sgA
  | [], _ => ⟨[], rfl⟩
  | x :: xs, h => by
    obtain ⟨r, rfl⟩ := h x (List.mem_cons_self ..)
    obtain ⟨l, rfl⟩ := all_sg xs (fun y hy => h y (List.mem_cons_of_mem _ hy))
    exact ⟨r :: l, rfl⟩
theorem arg_segs {x : AV} (h : Arg ty 6 22 x) : ∃ (l : List Sg) (f : Bool), x = .sg 4 (l.map sgA) f ∧ l.length ≤ 9223372036854775807 := by
  obtain ⟨i, ls, hi, hs, rfl⟩ := h
  simp only [ty] at hi
  injection hi with hi
  subst hi
  simp only [Shape, ty, ShapeF, isFlatI] at hs
  obtain ⟨xs, f, rfl, hl, hx⟩ := hs
  obtain ⟨rs, rfl⟩ := all_sg xs (fun x hxm => by
    obtain ⟨l, ⟨l1, r1, rfl, ⟨m1, rfl, w1⟩, l2, r2, rfl, ⟨m2, rfl, w2⟩, l3, r3, rfl, ⟨m3, rfl, w3⟩, l4, r4, rfl, ⟨m4, rfl, w4⟩, rfl⟩, _, rfl⟩ := hx x hxm
    exact ⟨⟨m1, m2, m3, m4⟩, rfl⟩)
  refine ⟨rs, f, rfl, ?_⟩
  rw [List.length_map] at hl
  have : maxLen = 9223372036854775807 := by decide
  omega
theorem arg_rule {x : AV} (h : Arg ty 6 24 x) : ∃ (T B : Int), x = .agg [.w (.int .i64 T), .w (.int .i64 B)] := by
  obtain ⟨i, ls, hi, hs, rfl⟩ := h
  simp only [ty] at hi
  injection hi with hi
  subst hi
  simp only [Shape, ty, ShapeF, isFlatI] at hs
  obtain ⟨l1, r1, rfl, ⟨m1, rfl, w1⟩, l2, r2, rfl, ⟨m2, rfl, w2⟩, rfl⟩ := hs
  exact ⟨m1, m2, rfl⟩
theorem arg_int16 {x : AV} (h : Arg ty 6 3 x) : ∃ n : Int, x = .w (.int .i64 n) ∧ Ok16 n := by
  obtain ⟨i, ls, hi, hs, rfl⟩ := h
  simp only [ty] at hi
  injection hi with hi
  subst hi
  simp only [Shape, ty] at hs
  obtain ⟨m, rfl, hw⟩ := hs
  exact ⟨m, rfl, wf_i64 hw⟩
theorem rdrops_dom {x y z : AV} (hx : Arg ty 6 22 x) (hy : Arg ty 6 24 y) (hz : Arg ty 6 3 z) : (rdropsS [x, y, z] []).p ∧ (rdropsS [x, y, z] []).x = .w (.bool true) := by
  obtain ⟨l, f, rfl, hl⟩ := arg_segs hx
  obtain ⟨T, B, rfl⟩ := arg_rule hy
  obtain ⟨n, rfl, hn⟩ := arg_int16 hz
  exact ⟨⟨⟨by rw [List.length_map]; exact hl, l, rfl⟩, hn⟩, rfl⟩
end Go.Proofs.Ytbncglnlmcjplaa
