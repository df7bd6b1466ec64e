/- Layer 16: RetainAgain. -/
import Derived.Test.YtbncglnlmcjplaaYc
namespace Go.Proofs.Ytbncglnlmcjplaa
open Ax
set_option linter.unusedSimpArgs false
set_option linter.unusedVariables false
theorem drG_ge (g : Nat → Bool) (len : Nat) : ∀ f k, k ≤ drG g len f k
  | 0, k => Nat.le_refl _
  | f + 1, k => by
    simp only [drG]
    split
    · have := drG_ge g len f (k + 1); omega
    · exact Nat.le_refl _
theorem drG_mono (g g' : Nat → Bool) (len : Nat) (h : ∀ k, g k = true → g' k = true) : ∀ f k, drG g len f k ≤ drG g' len f k
  | 0, k => Nat.le_refl _
  | f + 1, k => by
    simp only [drG]
    by_cases hk : k + 1 < len ∧ g k = true
    · rw [if_pos hk, if_pos ⟨hk.1, h k hk.2⟩]
      exact drG_mono g g' len h f (k + 1)
    · rw [if_neg hk]
      split
      · have := drG_ge g' len f (k + 1); omega
      · exact Nat.le_refl _
theorem go_mono (l : List Sg) (T B now T' B' now' : Int) (hT : ∀ m : Int, 0 ≤ T ∧ 0 ≤ m ∧ m ≤ now ∧ T < now - m → 0 ≤ T' ∧ 0 ≤ m ∧ m ≤ now' ∧ T' < now' - m) (hB : ∀ t : Int, 0 ≤ B ∧ B < t → 0 ≤ B' ∧ B' < t) (k : Nat) (h : go16 l T B now k = true) : go16 l T' B' now' k = true := by
  unfold go16 at *
  rw [oldB_eq, Bool.or_eq_true, Bool.and_eq_true, decide_eq_true_eq, decide_eq_true_eq, decide_eq_true_eq] at *
  rcases h with h | h
  · exact .inl (hT _ h)
  · exact .inr (hB _ h)
theorem drL_mono (l : List Sg) (T B now T' B' now' : Int) (hT : ∀ m : Int, 0 ≤ T ∧ 0 ≤ m ∧ m ≤ now ∧ T < now - m → 0 ≤ T' ∧ 0 ≤ m ∧ m ≤ now' ∧ T' < now' - m) (hB : ∀ t : Int, 0 ≤ B ∧ B < t → 0 ≤ B' ∧ B' < t) : drL l T B now ≤ drL l T' B' now' := by
  rw [drL_eq, drL_eq]
  exact drG_mono _ _ _ (go_mono l T B now T' B' now' hT hB) _ _
theorem drL_le (l : List Sg) (T B now : Int) : drL l T B now ≤ l.length := by
  by_cases h : l.length = 0
  · rw [List.eq_nil_of_length_eq_zero h]; exact Nat.le_refl _
  · have := (drL_spec l T B now (by omega)).1; omega
theorem drL_again (l : List Sg) (T B now : Int) : drL (l.drop (drL l T B now)) T B now = 0 := by
  by_cases h : l.length = 0
  · rw [List.eq_nil_of_length_eq_zero h]; rfl
  · obtain ⟨a, _, c⟩ := drL_spec l T B now (by omega)
    obtain ⟨n, hn⟩ : ∃ n, drL l T B now = n := ⟨_, rfl⟩
    rw [hn] at a c ⊢
    rw [drL_eq]
    have hlen : (l.drop n).length = l.length - n := by simp
    have key : ¬ (0 + 1 < (l.drop n).length ∧ go16 (l.drop n) T B now 0 = true) := by
      rintro ⟨h1, h2⟩
      rcases c with c | c
      · omega
      · have e : go16 (l.drop n) T B now 0 = go16 l T B now n := by
          unfold go16
          rw [zsF_at _ 0 (by omega), zsF_at l n a]
          simp
        rw [e, c] at h2; cases h2
    have := drG_stops (go16 (l.drop n) T B now) (l.drop n).length 0 key
    exact this
def ragainS : FSpec
  | [.sg 4 xs f, .agg [.w (.int .i64 rT), .w (.int .i64 rB)], .agg [.w (.int .i64 a), .w (.int .i64 b)]], [] => ⟨(xs.length ≤ 9223372036854775807 ∧ ∃ l : List Sg, xs = l.map sgA) ∧ Ok16 rT ∧ Ok16 rB ∧ Ok16 a ∧ Ok16 b, .w (.bool true), []⟩
  | _, _ => noRes
section
set_option maxRecDepth 100000
set_option maxHeartbeats 4000000
theorem ragain_law : Sound Try.prog 5 ragainS := by
  refine fn_sound (S := Slw16) (T := tyF) mixed tyF_ok Slw16_ok Try.func5 (c := Try.f5.body.getD .skip) (by kernel_rfl) (by kernel_rfl) (fun xs pins hp _ => ?_)
  unfold ragainS at hp ⊢
  split at hp
  · rename_i xs f rT rB a b _
    obtain ⟨⟨hL, l, rfl⟩, hokT, hokB, hoka, hokb⟩ := hp
    rw [List.length_map] at hL
    refine ⟨by simp, ?_⟩
    have hl4 : (l.map sgA).length = l.length := by simp
    have hcg := closed_sgA l
    have hco : ∀ b, coe (setFlat ty) 22 (.sg 4 (l.map sgA) b) = .sg 4 (l.map sgA) b := fun b => by cases l <;> rfl
    have hco3 : ∀ (G : List Sg) (b : Bool), coe (setFlat ty) 26 (.sg 4 (G.map sgA) b) = .sg 4 (G.map sgA) b := fun G b => by cases G <;> rfl
    have hex : ∃ es : List Sg, l.map sgA = es.map sgA := ⟨l, rfl⟩
    unfold Try.f5
    by_cases h60 : 60 < l.length
    · have d60 : decide ((60 : Int) < l.length) = true := decide_eq_true (by omega)
      simp only [go_sem, later_normal, Nat.reduceAdd, Nat.reduceSub, Nat.reduceMul, Int.reduceToNat, reduceCtorEq, ↓reduceIte, Int.reducePow, Nat.reducePow, Int.reduceMod, Nat.reduceLeDiff, Int.reduceLE, Int.reduceNe, Int.reduceEq, Nat.reduceEqDiff, Nat.reduceLT, Nat.reduceBEq, tyF, setFlat, ty, Slw16, yesS, hl4, hco, hcg, d60]
    · have d60 : decide ((60 : Int) < l.length) = false := decide_eq_false (by omega)
      have hle : l.length ≤ 1000000 := by omega
      unfold Ok16 at hokT hokB hoka hokb
      have hag := drL_again l rT rB a
      have hle2 := drL_le l rT rB a
      have hm3 : ∀ T' B', (T' = rT ∨ (0 < rT ∧ T' = rT - 1)) → (B' = rB ∨ (0 < rB ∧ B' = rB - 1)) → drL l rT rB a ≤ drL l T' B' a := fun T' B' h1 h2 => drL_mono l _ _ _ _ _ _ (fun m h => by omega) (fun t h => by omega)
      obtain ⟨E, hE⟩ : ∃ E, min a b = E := ⟨_, rfl⟩
      obtain ⟨M, hM⟩ : ∃ M, max a b = M := ⟨_, rfl⟩
      have em1 : (if b < a then b else a) = E := by rw [← hE]; split <;> omega
      have em2 : (if a < b then a else b) = E := by rw [← hE]; split <;> omega
      have em3 : (if b > a then b else a) = M := by rw [← hM]; split <;> omega
      have em4 : (if a > b then a else b) = M := by rw [← hM]; split <;> omega
      have hEM : drL l rT rB E ≤ drL l rT rB M := drL_mono l _ _ _ _ _ _ (fun m h => by omega) (fun t h => h)
      have a1 : -9223372036854775808 ≤ a := hoka.1
      have a2 : a ≤ 9223372036854775807 := hoka.2
      have E1 : -9223372036854775808 ≤ E := by omega
      have E2 : E ≤ 9223372036854775807 := by omega
      have M1 : -9223372036854775808 ≤ M := by omega
      have M2 : M ≤ 9223372036854775807 := by omega
      obtain ⟨N, hN⟩ : ∃ N : Nat, drL l rT rB a = N := ⟨_, rfl⟩
      obtain ⟨N1, hN1⟩ : ∃ N : Nat, drL l rT rB E = N := ⟨_, rfl⟩
      obtain ⟨N2, hN2⟩ : ∃ N : Nat, drL l rT rB M = N := ⟨_, rfl⟩
      rw [hN] at hag hle2
      rw [hN1, hN2] at hEM
      have d2 : decide ((N : Int) < 0) = false := decide_eq_false (by omega)
      have d3 : decide ((l.length : Int) < N) = false := decide_eq_false (by omega)
      have d4 : decide ((N1 : Int) ≤ N2) = true := decide_eq_true (by omega)
      have d5 : decide ((N : Int) ≤ l.length) = true := decide_eq_true (by omega)
      have q0 : decide (((0 : Nat) : Int) = 0) = true := by decide
      have hdr : (l.map sgA).drop N = (l.drop N).map sgA := by rw [List.map_drop]
      have hdl : ((l.drop N).map sgA).length = l.length - N := by simp
      have hex2 : ∃ es : List Sg, (l.drop N).map sgA = es.map sgA := ⟨_, rfl⟩
      have hln : l.length - N ≤ 1000000 := by omega
      have hms := map_sgOf (l.drop N)
      have htk : List.take (l.length - N) ((l.drop N).map sgA) = (l.drop N).map sgA := List.take_of_length_le (by simp)
      have hcg2 := closed_sgA (l.drop N)
      have hN0 : (0 : Int) ≤ (N : Int) := by omega
      have eB : 0 < rB → (rB - 1 + 9223372036854775808) % 18446744073709551616 - 9223372036854775808 = rB - 1 := fun h => by omega
      have eT : 0 < rT → (rT - 1 + 9223372036854775808) % 18446744073709551616 - 9223372036854775808 = rT - 1 := fun h => by omega
      have two : ∀ T' B', (T' = rT ∨ (0 < rT ∧ T' = rT - 1)) → (B' = rB ∨ (0 < rB ∧ B' = rB - 1)) → decide ((N : Int) ≤ ((drL l T' B' a : Nat) : Int)) = true := fun T' B' h1 h2 => decide_eq_true (by have := hm3 T' B' h1 h2; omega)
      by_cases hB : 0 < rB
      · have c1 : decide (0 < rB) = true := decide_eq_true hB
        have eB := eB hB
        by_cases hT : 0 < rT
        · have c2 : decide (0 < rT) = true := decide_eq_true hT
          have eT := eT hT
          have d6 := two (rT - 1) (rB - 1) (.inr ⟨hT, rfl⟩) (.inr ⟨hB, rfl⟩)
          simp only [go_sem, later_normal, Nat.reduceAdd, Nat.reduceSub, Nat.reduceMul, Int.reduceToNat, reduceCtorEq, ↓reduceIte, Int.reducePow, Nat.reducePow, Int.reduceMod, Nat.reduceLeDiff, Int.reduceLE, Int.reduceNe, Int.reduceEq, Nat.reduceEqDiff, Nat.reduceLT, Nat.reduceBEq, tyF, setFlat, ty, Slw16, as16S, drS, yesS, hl4, hco, hco3, hcg, hcg2, d60, hle, hex, hex2, hln, hms, htk, hdr, hdl, map_sgOf, hN, hN1, hN2, hag, em1, em2, em3, em4, a1, a2, E1, E2, M1, M2, d2, d3, d4, d5, d6, q0, c1, c2, eB, eT, hN0, hle2, Int.toNat_natCast]
          all_goals first | exact ⟨hN0, hle2⟩ | omega | skip
        · have c2 : decide (0 < rT) = false := decide_eq_false hT
          have d6 := two rT (rB - 1) (.inl rfl) (.inr ⟨hB, rfl⟩)
          simp only [go_sem, later_normal, Nat.reduceAdd, Nat.reduceSub, Nat.reduceMul, Int.reduceToNat, reduceCtorEq, ↓reduceIte, Int.reducePow, Nat.reducePow, Int.reduceMod, Nat.reduceLeDiff, Int.reduceLE, Int.reduceNe, Int.reduceEq, Nat.reduceEqDiff, Nat.reduceLT, Nat.reduceBEq, tyF, setFlat, ty, Slw16, as16S, drS, yesS, hl4, hco, hco3, hcg, hcg2, d60, hle, hex, hex2, hln, hms, htk, hdr, hdl, map_sgOf, hN, hN1, hN2, hag, em1, em2, em3, em4, a1, a2, E1, E2, M1, M2, d2, d3, d4, d5, d6, q0, c1, c2, eB, eT, hN0, hle2, Int.toNat_natCast]
          all_goals first | exact ⟨hN0, hle2⟩ | omega | skip
      · have c1 : decide (0 < rB) = false := decide_eq_false hB
        by_cases hT : 0 < rT
        · have c2 : decide (0 < rT) = true := decide_eq_true hT
          have eT := eT hT
          have d6 := two (rT - 1) rB (.inr ⟨hT, rfl⟩) (.inl rfl)
          simp only [go_sem, later_normal, Nat.reduceAdd, Nat.reduceSub, Nat.reduceMul, Int.reduceToNat, reduceCtorEq, ↓reduceIte, Int.reducePow, Nat.reducePow, Int.reduceMod, Nat.reduceLeDiff, Int.reduceLE, Int.reduceNe, Int.reduceEq, Nat.reduceEqDiff, Nat.reduceLT, Nat.reduceBEq, tyF, setFlat, ty, Slw16, as16S, drS, yesS, hl4, hco, hco3, hcg, hcg2, d60, hle, hex, hex2, hln, hms, htk, hdr, hdl, map_sgOf, hN, hN1, hN2, hag, em1, em2, em3, em4, a1, a2, E1, E2, M1, M2, d2, d3, d4, d5, d6, q0, c1, c2, eB, eT, hN0, hle2, Int.toNat_natCast]
          all_goals first | exact ⟨hN0, hle2⟩ | omega | skip
        · have c2 : decide (0 < rT) = false := decide_eq_false hT
          have d6 := two rT rB (.inl rfl) (.inl rfl)
          rw [hN] at d6
          simp only [go_sem, later_normal, Nat.reduceAdd, Nat.reduceSub, Nat.reduceMul, Int.reduceToNat, reduceCtorEq, ↓reduceIte, Int.reducePow, Nat.reducePow, Int.reduceMod, Nat.reduceLeDiff, Int.reduceLE, Int.reduceNe, Int.reduceEq, Nat.reduceEqDiff, Nat.reduceLT, Nat.reduceBEq, tyF, setFlat, ty, Slw16, as16S, drS, yesS, hl4, hco, hco3, hcg, hcg2, d60, hle, hex, hex2, hln, hms, htk, hdr, hdl, map_sgOf, hN, hN1, hN2, hag, em1, em2, em3, em4, a1, a2, E1, E2, M1, M2, d2, d3, d4, d5, d6, q0, c1, c2, eB, eT, hN0, hle2, Int.toNat_natCast]
          all_goals first | exact ⟨hN0, hle2⟩ | omega | skip
  · exact hp.elim
end
theorem arg_rule2 {x : AV} (h : Arg ty 6 24 x) : ∃ (T B : Int), x = .agg [.w (.int .i64 T), .w (.int .i64 B)] ∧ Ok16 T ∧ Ok16 B := by
  obtain ⟨i, ls, hi, hs, rfl⟩ := h
  simp only [ty] at hi
  injection hi with hi
  subst hi
  simp only [Shape, ty, ShapeF, isFlatI] at hs
  obtain ⟨l1, r1, rfl, ⟨m1, rfl, w1⟩, l2, r2, rfl, ⟨m2, rfl, w2⟩, rfl⟩ := hs
  exact ⟨m1, m2, rfl, wf_i64 w1, wf_i64 w2⟩
theorem arg_two {x : AV} (h : Arg ty 6 42 x) : ∃ (T B : Int), x = .agg [.w (.int .i64 T), .w (.int .i64 B)] ∧ Ok16 T ∧ Ok16 B := by
  obtain ⟨i, ls, hi, hs, rfl⟩ := h
  simp only [ty] at hi
  injection hi with hi
  subst hi
  simp only [Shape, ty, ShapeF, isFlatI, List.replicate_succ, List.replicate_zero] at hs
  obtain ⟨l1, r1, rfl, ⟨m1, rfl, w1⟩, l2, r2, rfl, ⟨m2, rfl, w2⟩, rfl⟩ := hs
  exact ⟨m1, m2, rfl, wf_i64 w1, wf_i64 w2⟩
theorem ragain_dom {x y z : AV} (hx : Arg ty 6 22 x) (hy : Arg ty 6 24 y) (hz : Arg ty 6 42 z) : (ragainS [x, y, z] []).p ∧ (ragainS [x, y, z] []).x = .w (.bool true) := by
  obtain ⟨l, f, rfl, hl⟩ := arg_segs hx
  obtain ⟨T, B, rfl, hT, hB⟩ := arg_rule2 hy
  obtain ⟨c, d, rfl, hc, hd⟩ := arg_two hz
  exact ⟨⟨⟨by rw [List.length_map]; exact hl, l, rfl⟩, hT, hB, hc, hd⟩, rfl⟩
end Go.Proofs.Ytbncglnlmcjplaa
