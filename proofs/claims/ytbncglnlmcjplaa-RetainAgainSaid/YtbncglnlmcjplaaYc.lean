/- Layer 16: RetainStays. -/
import Derived.Test.YtbncglnlmcjplaaYb
namespace Go.Proofs.Ytbncglnlmcjplaa
open Ax
set_option linter.unusedSimpArgs false
set_option linter.unusedVariables false
/-- Where the count stops: each place ahead of it goes; there it does not, or it is the last. -/
theorem drG_spec (g : Nat → Bool) (len : Nat) : ∀ f k, f = len - k → k < len → k ≤ drG g len f k ∧ drG g len f k < len ∧ (∀ i, k ≤ i → i < drG g len f k → g i = true) ∧ (drG g len f k + 1 = len ∨ g (drG g len f k) = false)
  | 0, k, hf, hk => by omega
  | f + 1, k, hf, hk => by
    simp only [drG]
    by_cases h : k + 1 < len ∧ g k = true
    · rw [if_pos h]
      obtain ⟨a, b, c, d⟩ := drG_spec g len f (k + 1) (by omega) h.1
      refine ⟨by omega, b, fun i h1 h2 => ?_, d⟩
      by_cases hi : i = k
      · subst hi; exact h.2
      · exact c i (by omega) h2
    · rw [if_neg h]
      refine ⟨Nat.le_refl _, hk, fun i h1 h2 => by omega, ?_⟩
      by_cases h1 : k + 1 < len
      · right
        cases hg : g k with
        | true => exact (h ⟨h1, hg⟩).elim
        | false => rfl
      · left; omega
theorem drL_spec (l : List Sg) (rT rB now : Int) (h : 0 < l.length) : drL l rT rB now < l.length ∧ (∀ i, i < drL l rT rB now → go16 l rT rB now i = true) ∧ (drL l rT rB now + 1 = l.length ∨ go16 l rT rB now (drL l rT rB now) = false) := by
  rw [drL_eq]
  obtain ⟨_, b, c, d⟩ := drG_spec (go16 l rT rB now) l.length l.length 0 (by omega) h
  exact ⟨b, fun i hi => c i (Nat.zero_le _) hi, d⟩
theorem drL_nil (rT rB now : Int) : drL [] rT rB now = 0 := rfl
section
set_option maxRecDepth 100000
set_option maxHeartbeats 4000000
theorem rstays_law : Sound Try.prog 4 rdropsS := by
  refine fn_sound (S := Slw16) (T := tyF) mixed tyF_ok Slw16_ok Try.func4 (c := Try.f4.body.getD .skip) (by kernel_rfl) (by kernel_rfl) (fun xs pins hp _ => ?_)
  unfold rdropsS at hp ⊢
  split at hp
  · rename_i xs f rT rB now _
    obtain ⟨⟨hL, l, rfl⟩, hok⟩ := hp
    rw [List.length_map] at hL
    refine ⟨by simp, ?_⟩
    have hl4 : (l.map sgA).length = l.length := by simp
    have hcg := closed_sgA l
    have hco : ∀ b, coe (setFlat ty) 22 (.sg 4 (l.map sgA) b) = .sg 4 (l.map sgA) b := fun b => by cases l <;> rfl
    have hco2 : ∀ b, coe (setFlat ty) 26 (.sg 4 (l.map sgA) b) = .sg 4 (l.map sgA) b := fun b => by cases l <;> rfl
    have hex : ∃ es : List Sg, l.map sgA = es.map sgA := ⟨l, rfl⟩
    unfold Try.f4
    by_cases h60 : 60 < l.length
    · have d60 : decide ((60 : Int) < l.length) = true := decide_eq_true (by omega)
      simp only [go_sem, later_normal, Nat.reduceAdd, Nat.reduceSub, Nat.reduceMul, Int.reduceToNat, reduceCtorEq, ↓reduceIte, Int.reducePow, Nat.reducePow, Int.reduceMod, Nat.reduceLeDiff, Int.reduceLE, Int.reduceNe, Int.reduceEq, Nat.reduceEqDiff, Nat.reduceLT, Nat.reduceBEq, tyF, setFlat, ty, Slw16, yesS, hl4, hco, hcg, d60]
    · have d60 : decide ((60 : Int) < l.length) = false := decide_eq_false (by omega)
      have hle : l.length ≤ 1000000 := by omega
      have hn1 : -9223372036854775808 ≤ now := hok.1
      have hn2 : now ≤ 9223372036854775807 := hok.2
      by_cases h0 : l.length = 0
      · have hN : drL l rT rB now = 0 := by rw [List.eq_nil_of_length_eq_zero h0]; rfl
        have q0 : decide (((0 : Nat) : Int) = 0) = true := by decide
        have d0 : decide ((l.length : Int) = 0) = true := decide_eq_true (by omega)
        simp only [go_sem, later_normal, Nat.reduceAdd, Nat.reduceSub, Nat.reduceMul, Int.reduceToNat, reduceCtorEq, ↓reduceIte, Int.reducePow, Nat.reducePow, Int.reduceMod, Nat.reduceLeDiff, Int.reduceLE, Int.reduceNe, Int.reduceEq, Nat.reduceEqDiff, Nat.reduceLT, Nat.reduceBEq, tyF, setFlat, ty, Slw16, as16S, drS, yesS, hl4, hco, hco2, hcg, d60, hle, hex, hn1, hn2, map_sgOf, hN, d0, q0]
      · obtain ⟨hN1, hN2, hN3⟩ := drL_spec l rT rB now (by omega)
        obtain ⟨N, hN⟩ : ∃ N : Nat, drL l rT rB now = N := ⟨_, rfl⟩
        rw [hN] at hN1 hN2 hN3
        have d0 : decide ((l.length : Int) = 0) = false := decide_eq_false (by omega)
        have d2 : decide ((N : Int) < 0) = false := decide_eq_false (by omega)
        have d3 : decide ((l.length : Int) ≤ N) = false := decide_eq_false (by omega)
        simp only [go_sem, later_normal, Nat.reduceAdd, Nat.reduceSub, Nat.reduceMul, Int.reduceToNat, reduceCtorEq, ↓reduceIte, Int.reducePow, Nat.reducePow, Int.reduceMod, Nat.reduceLeDiff, Int.reduceLE, Int.reduceNe, Int.reduceEq, Nat.reduceEqDiff, Nat.reduceLT, Nat.reduceBEq, tyF, setFlat, ty, Slw16, as16S, startS16, drS, hl4, hco, hco2, hcg, d60, hle, hex, hn1, hn2, map_sgOf, hN, d0, d2, d3]
        have e2 : ((l.length : Int) - 1 + 9223372036854775808) % 18446744073709551616 - 9223372036854775808 = (l.length : Int) - 1 := by omega
        refine awp_loop ⟨fun m σ => ∃ i : Nat, m = N + 1 - i ∧ i ≤ N + 1 ∧
            σ = ⟨[.sg 4 (l.map sgA) f, .agg [.w (.int .i64 rT), .w (.int .i64 rB)], .w (.int .i64 now), .junk, .rf 4 2 0 0, .junk, .w (.bool false), .sg 4 (l.map sgA) false, .rf 5 2 0 0, .w (.int .i64 N), .w (.int .i64 i), .junk, .junk, .junk, .junk, .junk, .junk, .junk, .junk, .junk, .junk, .junk, .junk, .junk, .junk, .junk, .junk, .junk, .junk, .junk, .junk, .junk, .junk, .junk, .junk, .junk, .junk, .junk, .junk, .junk, .junk, .junk, .junk, .junk, .junk, .junk, .junk, .junk, .junk, .junk, .junk, .junk, .junk, .junk, .junk, .junk, .junk, .junk, .junk, .junk, .junk, .junk, .junk, .junk, .junk, .junk, .junk, .junk, .junk, .junk, .junk, .junk, .junk, .junk, .junk, .junk, .junk, .junk, .junk, .junk, .junk, .junk, .junk, .junk, .junk, .junk, .junk, .junk], [(4, .g 2 [.agg [.w (.int .i64 rT), .w (.int .i64 rB)]]), (5, .g 2 [.agg [.w (.int .i64 rT), .w (.int .i64 rB)]])], 6⟩, ?_, ?_⟩
        · refine ⟨_, _, weak_ren [0, 1, 2, 3, 4, 68] rfl rfl rfl ?_ ?_, 0, rfl, by omega, rfl⟩
          · simp only [ssT, SameS, SameH, setSlot, gOf, AV.ren, renL, Blk.ren, Ax.look, Ax.put, reduceCtorEq, ↓reduceIte, Nat.reduceEqDiff, Nat.reduceLT, Nat.reduceAdd, List.length_append, List.length_cons, List.length_nil, Option.some.injEq, ren_sgA]; try simp
            try rfl
          · simp only [ssT, SameS, SameH, setSlot, gOf, AV.ren, renL, Blk.ren, Ax.look, Ax.put, reduceCtorEq, ↓reduceIte, Nat.reduceEqDiff, Nat.reduceLT, Nat.reduceAdd, List.length_append, List.length_cons, List.length_nil, Option.some.injEq]; try rfl
        · rintro m σ ⟨i, rfl, hi, rfl⟩
          have e1 : ((i : Int) + 1 + 9223372036854775808) % 18446744073709551616 - 9223372036854775808 = ((i + 1 : Nat) : Int) := by omega
          by_cases hil : i ≤ N
          · have d1 : decide ((i : Int) ≤ N) = true := decide_eq_true (by omega)
            have hlt : i < l.length := by omega
            have hs1 := slot_sgA l i hlt
            have hz := zsF_at l i hlt
            obtain ⟨P, hP⟩ : ∃ P, l[i] = P := ⟨_, rfl⟩
            rw [hP] at hs1 hz
            simp only [sgA] at hs1
            have hdr : (l.map sgA).drop i = (l.drop i).map sgA := by rw [List.map_drop]
            have hdl : ((l.drop i).map sgA).length = l.length - i := by simp
            have hli : decide ((i : Int) ≤ l.length) = true := decide_eq_true (by omega)
            have hex2 : ∃ es : List Sg, (l.drop i).map sgA = es.map sgA := ⟨_, rfl⟩
            have hln : l.length - i ≤ 1000000 := by omega
            have hms := map_sgOf (l.drop i)
            have htk : List.take (l.length - i) ((l.drop i).map sgA) = (l.drop i).map sgA := List.take_of_length_le (by simp)
            have hco3 : ∀ (G : List Sg) (b : Bool), coe (setFlat ty) 26 (.sg 4 (G.map sgA) b) = .sg 4 (G.map sgA) b := fun G b => by cases G <;> rfl
            have hcg2 := closed_sgA (l.drop i)
            have hgo : go16 l rT rB now i = (oldB P.w rT now || (decide (0 ≤ rB) && decide (rB < totL (l.drop i)))) := by unfold go16; rw [hz]
            by_cases hiN : i < N
            · have t1 : decide ((i : Int) < N) = true := decide_eq_true (by omega)
              have t2 : decide ((i : Int) = N) = false := decide_eq_false (by omega)
              have hg := hN2 i hiN
              rw [hgo] at hg
              cases hov : oldB P.w rT now with
              | true =>
                simp only [go_sem, later_normal, Nat.reduceAdd, Nat.reduceSub, Nat.reduceMul, Int.reduceToNat, reduceCtorEq, ↓reduceIte, Int.reducePow, Nat.reducePow, Int.reduceMod, Nat.reduceLeDiff, Int.reduceLE, Int.reduceNe, Int.reduceEq, Nat.reduceEqDiff, Nat.reduceLT, Nat.reduceBEq, tyF, setFlat, ty, Slw16, oldS, totS16, hok, hl4, hs1, e1, e2, d1, hov, hdr, hdl, hli, hex2, hln, hms, htk, hco3, hcg2, t1, t2, Int.toNat_natCast, Bool.not_true, Bool.not_false]
                repeat (refine And.intro (by first | omega | exact hok) ?_)
                refine ⟨N + 1 - (i + 1), _, by omega, weak_ren [0, 1, 2, 3, 4, 5] rfl rfl rfl ?_ ?_, i + 1, rfl, by omega, rfl⟩
                · simp only [ssT, SameS, SameH, setSlot, gOf, AV.ren, renL, Blk.ren, Ax.look, Ax.put, reduceCtorEq, ↓reduceIte, Nat.reduceEqDiff, Nat.reduceLT, Nat.reduceAdd, List.length_append, List.length_cons, List.length_nil, Option.some.injEq, ren_sgA]
                · simp only [ssT, SameS, SameH, setSlot, gOf, AV.ren, renL, Blk.ren, Ax.look, Ax.put, reduceCtorEq, ↓reduceIte, Nat.reduceEqDiff, Nat.reduceLT, Nat.reduceAdd, List.length_append, List.length_cons, List.length_nil, Option.some.injEq]
              | false =>
                rw [hov, Bool.false_or, Bool.and_eq_true] at hg
                obtain ⟨g1, g2⟩ := hg
                simp only [go_sem, later_normal, Nat.reduceAdd, Nat.reduceSub, Nat.reduceMul, Int.reduceToNat, reduceCtorEq, ↓reduceIte, Int.reducePow, Nat.reducePow, Int.reduceMod, Nat.reduceLeDiff, Int.reduceLE, Int.reduceNe, Int.reduceEq, Nat.reduceEqDiff, Nat.reduceLT, Nat.reduceBEq, tyF, setFlat, ty, Slw16, oldS, totS16, hok, hl4, hs1, e1, e2, d1, hov, hdr, hdl, hli, hex2, hln, hms, htk, hco3, hcg2, t1, t2, g1, g2, Int.toNat_natCast, Bool.not_true, Bool.not_false]
                repeat (refine And.intro (by first | omega | exact hok) ?_)
                refine ⟨N + 1 - (i + 1), _, by omega, weak_ren [0, 1, 2, 3, 4, 5] rfl rfl rfl ?_ ?_, i + 1, rfl, by omega, rfl⟩
                · simp only [ssT, SameS, SameH, setSlot, gOf, AV.ren, renL, Blk.ren, Ax.look, Ax.put, reduceCtorEq, ↓reduceIte, Nat.reduceEqDiff, Nat.reduceLT, Nat.reduceAdd, List.length_append, List.length_cons, List.length_nil, Option.some.injEq, ren_sgA]
                · simp only [ssT, SameS, SameH, setSlot, gOf, AV.ren, renL, Blk.ren, Ax.look, Ax.put, reduceCtorEq, ↓reduceIte, Nat.reduceEqDiff, Nat.reduceLT, Nat.reduceAdd, List.length_append, List.length_cons, List.length_nil, Option.some.injEq]
            · have hiN2 : i = N := by omega
              have t1 : decide ((i : Int) < N) = false := decide_eq_false (by omega)
              have t2 : decide ((i : Int) = N) = true := decide_eq_true (by omega)
              cases hov : oldB P.w rT now with
              | true =>
                have t3 : decide ((N : Int) = (l.length : Int) - 1) = true := by
                  rcases hN3 with h | h
                  · exact decide_eq_true (by omega)
                  · rw [← hiN2, hgo, hov] at h; cases h
                simp only [go_sem, later_normal, Nat.reduceAdd, Nat.reduceSub, Nat.reduceMul, Int.reduceToNat, reduceCtorEq, ↓reduceIte, Int.reducePow, Nat.reducePow, Int.reduceMod, Nat.reduceLeDiff, Int.reduceLE, Int.reduceNe, Int.reduceEq, Nat.reduceEqDiff, Nat.reduceLT, Nat.reduceBEq, tyF, setFlat, ty, Slw16, oldS, totS16, hok, hl4, hs1, e1, e2, d1, hov, hdr, hdl, hli, hex2, hln, hms, htk, hco3, hcg2, t1, t2, t3, Int.toNat_natCast, Bool.not_true, Bool.not_false]
                repeat (refine And.intro (by first | omega | exact hok) ?_)
                refine ⟨N + 1 - (i + 1), _, by omega, weak_ren [0, 1, 2, 3, 4, 5] rfl rfl rfl ?_ ?_, i + 1, rfl, by omega, rfl⟩
                · simp only [ssT, SameS, SameH, setSlot, gOf, AV.ren, renL, Blk.ren, Ax.look, Ax.put, reduceCtorEq, ↓reduceIte, Nat.reduceEqDiff, Nat.reduceLT, Nat.reduceAdd, List.length_append, List.length_cons, List.length_nil, Option.some.injEq, ren_sgA]
                · simp only [ssT, SameS, SameH, setSlot, gOf, AV.ren, renL, Blk.ren, Ax.look, Ax.put, reduceCtorEq, ↓reduceIte, Nat.reduceEqDiff, Nat.reduceLT, Nat.reduceAdd, List.length_append, List.length_cons, List.length_nil, Option.some.injEq]
              | false =>
                by_cases hB0 : 0 ≤ rB
                · have g1 : decide (0 ≤ rB) = true := decide_eq_true hB0
                  by_cases hBR : rB < totL (l.drop i)
                  · have g2 : decide (rB < totL (l.drop i)) = true := decide_eq_true hBR
                    have t3 : decide ((N : Int) = (l.length : Int) - 1) = true := by
                      rcases hN3 with h | h
                      · exact decide_eq_true (by omega)
                      · rw [← hiN2, hgo, hov, g1, g2] at h; cases h
                    simp only [go_sem, later_normal, Nat.reduceAdd, Nat.reduceSub, Nat.reduceMul, Int.reduceToNat, reduceCtorEq, ↓reduceIte, Int.reducePow, Nat.reducePow, Int.reduceMod, Nat.reduceLeDiff, Int.reduceLE, Int.reduceNe, Int.reduceEq, Nat.reduceEqDiff, Nat.reduceLT, Nat.reduceBEq, tyF, setFlat, ty, Slw16, oldS, totS16, hok, hl4, hs1, e1, e2, d1, hov, hdr, hdl, hli, hex2, hln, hms, htk, hco3, hcg2, t1, t2, t3, g1, g2, Int.toNat_natCast, Bool.not_true, Bool.not_false]
                    repeat (refine And.intro (by first | omega | exact hok) ?_)
                    refine ⟨N + 1 - (i + 1), _, by omega, weak_ren [0, 1, 2, 3, 4, 5] rfl rfl rfl ?_ ?_, i + 1, rfl, by omega, rfl⟩
                    · simp only [ssT, SameS, SameH, setSlot, gOf, AV.ren, renL, Blk.ren, Ax.look, Ax.put, reduceCtorEq, ↓reduceIte, Nat.reduceEqDiff, Nat.reduceLT, Nat.reduceAdd, List.length_append, List.length_cons, List.length_nil, Option.some.injEq, ren_sgA]
                    · simp only [ssT, SameS, SameH, setSlot, gOf, AV.ren, renL, Blk.ren, Ax.look, Ax.put, reduceCtorEq, ↓reduceIte, Nat.reduceEqDiff, Nat.reduceLT, Nat.reduceAdd, List.length_append, List.length_cons, List.length_nil, Option.some.injEq]
                  · have g2 : decide (rB < totL (l.drop i)) = false := decide_eq_false hBR
                    simp only [go_sem, later_normal, Nat.reduceAdd, Nat.reduceSub, Nat.reduceMul, Int.reduceToNat, reduceCtorEq, ↓reduceIte, Int.reducePow, Nat.reducePow, Int.reduceMod, Nat.reduceLeDiff, Int.reduceLE, Int.reduceNe, Int.reduceEq, Nat.reduceEqDiff, Nat.reduceLT, Nat.reduceBEq, tyF, setFlat, ty, Slw16, oldS, totS16, hok, hl4, hs1, e1, e2, d1, hov, hdr, hdl, hli, hex2, hln, hms, htk, hco3, hcg2, t1, t2, g1, g2, Int.toNat_natCast, Bool.not_true, Bool.not_false]
                    repeat (refine And.intro (by first | omega | exact hok) ?_)
                    refine ⟨N + 1 - (i + 1), _, by omega, weak_ren [0, 1, 2, 3, 4, 5] rfl rfl rfl ?_ ?_, i + 1, rfl, by omega, rfl⟩
                    · simp only [ssT, SameS, SameH, setSlot, gOf, AV.ren, renL, Blk.ren, Ax.look, Ax.put, reduceCtorEq, ↓reduceIte, Nat.reduceEqDiff, Nat.reduceLT, Nat.reduceAdd, List.length_append, List.length_cons, List.length_nil, Option.some.injEq, ren_sgA]
                    · simp only [ssT, SameS, SameH, setSlot, gOf, AV.ren, renL, Blk.ren, Ax.look, Ax.put, reduceCtorEq, ↓reduceIte, Nat.reduceEqDiff, Nat.reduceLT, Nat.reduceAdd, List.length_append, List.length_cons, List.length_nil, Option.some.injEq]
                · have g1 : decide (0 ≤ rB) = false := decide_eq_false hB0
                  simp only [go_sem, later_normal, Nat.reduceAdd, Nat.reduceSub, Nat.reduceMul, Int.reduceToNat, reduceCtorEq, ↓reduceIte, Int.reducePow, Nat.reducePow, Int.reduceMod, Nat.reduceLeDiff, Int.reduceLE, Int.reduceNe, Int.reduceEq, Nat.reduceEqDiff, Nat.reduceLT, Nat.reduceBEq, tyF, setFlat, ty, Slw16, oldS, totS16, hok, hl4, hs1, e1, e2, d1, hov, hdr, hdl, hli, hex2, hln, hms, htk, hco3, hcg2, t1, t2, g1, Int.toNat_natCast, Bool.not_true, Bool.not_false]
                  repeat (refine And.intro (by first | omega | exact hok) ?_)
                  refine ⟨N + 1 - (i + 1), _, by omega, weak_ren [0, 1, 2, 3, 4, 5] rfl rfl rfl ?_ ?_, i + 1, rfl, by omega, rfl⟩
                  · simp only [ssT, SameS, SameH, setSlot, gOf, AV.ren, renL, Blk.ren, Ax.look, Ax.put, reduceCtorEq, ↓reduceIte, Nat.reduceEqDiff, Nat.reduceLT, Nat.reduceAdd, List.length_append, List.length_cons, List.length_nil, Option.some.injEq, ren_sgA]
                  · simp only [ssT, SameS, SameH, setSlot, gOf, AV.ren, renL, Blk.ren, Ax.look, Ax.put, reduceCtorEq, ↓reduceIte, Nat.reduceEqDiff, Nat.reduceLT, Nat.reduceAdd, List.length_append, List.length_cons, List.length_nil, Option.some.injEq]
          · have d1 : decide ((i : Int) ≤ N) = false := decide_eq_false (by omega)
            simp only [go_sem, later_normal, Nat.reduceAdd, Nat.reduceSub, Nat.reduceMul, Int.reduceToNat, reduceCtorEq, ↓reduceIte, Int.reducePow, Nat.reducePow, Int.reduceMod, Nat.reduceLeDiff, Int.reduceLE, Int.reduceNe, Int.reduceEq, Nat.reduceEqDiff, Nat.reduceLT, Nat.reduceBEq, tyF, setFlat, ty, Slw16, yesS, hl4, hco, hcg, d1]
  · exact hp.elim
end
end Go.Proofs.Ytbncglnlmcjplaa
