/- Layer 16: the document's Drop. -/
import Derived.Test.YtbncglnlmcjplaaY8
namespace Go.Proofs.Ytbncglnlmcjplaa
open Ax
set_option linter.unusedSimpArgs false
set_option linter.unusedVariables false
def Srd16 (f : FuncId) : Option FSpec :=
  match f with
  | 12 => some oldS
  | 15 => some totS16
  | _ => none
theorem Srd16_ok : Fns Try.prog Srd16 := by
  intro f s h
  unfold Srd16 at h
  split at h
  · injection h with h; subst h; exact ⟨⟨_, Try.func12, by kernel_rfl, by kernel_rfl⟩, rold_sound⟩
  · injection h with h; subst h; exact ⟨⟨_, Try.func15, by kernel_rfl, by kernel_rfl⟩, rtot16_sound⟩
  · cases h
section
set_option maxRecDepth 100000
set_option maxHeartbeats 2000000
theorem rdrop16_sound : Sound Try.prog 13 drS := by
  refine fn_sound (S := Srd16) (T := tyF) mixed tyF_ok Srd16_ok Try.func13 (c := Try.f13.body.getD .skip) (by kernel_rfl) (by kernel_rfl) (fun xs pins hp _ => ?_)
  unfold drS at hp ⊢
  split at hp
  · rename_i xs f rT rB now _
    obtain ⟨⟨l, rfl⟩, hL, hnow⟩ := hp
    rw [List.length_map] at hL
    refine ⟨by simp, ?_⟩
    have hl4 : (l.map sgA).length = l.length := by simp
    rw [map_sgOf, drL_eq]
    unfold Try.f13
    simp only [go_sem, coe, later_normal, Nat.reduceAdd, Nat.reduceSub, Nat.reduceMul, Int.reduceToNat, reduceCtorEq, ↓reduceIte, Int.reducePow, Nat.reducePow, Int.reduceMod, Nat.reduceLeDiff, Int.reduceLE, Int.reduceNe, Int.reduceEq, Nat.reduceEqDiff, Nat.reduceLT, Nat.reduceBEq, tyF, setFlat, ty, Srd16, hl4]
    have hok : Ok16 now := hnow
    obtain ⟨g, hg⟩ : ∃ g, go16 l rT rB now = g := ⟨_, rfl⟩
    have hgk : ∀ k, g k = (oldB (zsF l k).w rT now || (decide (0 ≤ rB) && decide (rB < totL (l.drop k)))) := fun k => by rw [← hg]; rfl
    rw [hg]
    clear hg
    refine awp_loop ⟨fun m σ => ∃ k : Nat, m = l.length - k ∧ (k + 1 ≤ l.length ∨ k = 0) ∧ drG g l.length l.length 0 = drG g l.length (l.length - k) k ∧
        σ = ⟨[.sg 4 (l.map sgA) f, .agg [.w (.int .i64 rT), .w (.int .i64 rB)], .w (.int .i64 now), .junk, .rf 4 2 0 0, .junk, .w (.int .i64 0), .w (.int .i64 k), .junk, .junk, .junk, .junk, .junk, .junk, .junk, .junk, .junk, .junk, .junk, .junk, .junk, .junk, .junk, .junk, .junk, .junk, .junk, .junk, .junk, .junk, .junk, .junk, .junk, .junk, .junk, .junk, .junk, .junk, .junk], [(4, .g 2 [.agg [.w (.int .i64 rT), .w (.int .i64 rB)]])], 5⟩, ?_, ?_⟩
    · refine ⟨_, _, weak_ren [0, 1, 2, 3, 4] rfl rfl rfl ?_ ?_, 0, rfl, by omega, rfl, rfl⟩
      · simp only [ssT, SameS, SameH, setSlot, gOf, AV.ren, renL, Blk.ren, Ax.look, Ax.put, reduceCtorEq, ↓reduceIte, Nat.reduceEqDiff, Nat.reduceLT, Nat.reduceAdd, List.length_append, List.length_cons, List.length_nil, Option.some.injEq]; try simp; try rfl
      · simp only [ssT, SameS, SameH, setSlot, gOf, AV.ren, renL, Blk.ren, Ax.look, Ax.put, reduceCtorEq, ↓reduceIte, Nat.reduceEqDiff, Nat.reduceLT, Nat.reduceAdd, List.length_append, List.length_cons, List.length_nil, Option.some.injEq]; try rfl
    · rintro m σ ⟨k, rfl, hk, hdk, rfl⟩
      have e1 : ((k : Int) + 1 + 9223372036854775808) % 18446744073709551616 - 9223372036854775808 = ((k + 1 : Nat) : Int) := by omega
      by_cases hlt : k + 1 < l.length
      · have d1 : decide (((k + 1 : Nat) : Int) < l.length) = true := decide_eq_true (by omega)
        have hkl : k < l.length := by omega
        have hs1 := slot_sgA l k hkl
        have hz := zsF_at l k hkl
        have hgg := hgk k
        rw [hz] at hgg
        obtain ⟨P, hP⟩ : ∃ P, l[k] = P := ⟨_, rfl⟩
        rw [hP] at hs1 hgg
        simp only [sgA] at hs1
        have hdr : (l.map sgA).drop k = (l.drop k).map sgA := by rw [List.map_drop]
        have hdl : ((l.drop k).map sgA).length = l.length - k := by simp
        have hle : decide ((k : Int) ≤ l.length) = true := decide_eq_true (by omega)
        have hex : ∃ es : List Sg, (l.drop k).map sgA = es.map sgA := ⟨_, rfl⟩
        have hln : l.length - k ≤ 1000000 := by omega
        have hms := map_sgOf (l.drop k)
        have htk : List.take (l.length - k) ((l.drop k).map sgA) = (l.drop k).map sgA := List.take_of_length_le (by simp)
        have hco : ∀ (G : List Sg) (b : Bool), coe (setFlat ty) 22 (.sg 4 (G.map sgA) b) = .sg 4 (G.map sgA) b := fun G b => by cases G <;> rfl
        have hcg := closed_sgA (l.drop k)
        cases hov : oldB P.w rT now with
        | true =>
          have hGk : g k = true := by rw [hgg, hov]; rfl
          simp only [go_sem, later_normal, Nat.reduceAdd, Nat.reduceSub, Nat.reduceMul, Int.reduceToNat, reduceCtorEq, ↓reduceIte, Int.reducePow, Nat.reducePow, Int.reduceMod, Nat.reduceLeDiff, Int.reduceLE, Int.reduceNe, Int.reduceEq, Nat.reduceEqDiff, Nat.reduceLT, Nat.reduceBEq, tyF, setFlat, ty, Srd16, oldS, totS16, hok, hl4, hs1, e1, d1, hov, hdr, hdl, hle, hex, hln, hms, htk, hco, hcg, Int.toNat_natCast]
          repeat (refine And.intro (by first | omega | exact hok) ?_)
          refine ⟨l.length - (k + 1), _, by omega, weak_ren [0, 1, 2, 3, 4] rfl rfl rfl ?_ ?_, k + 1, rfl, by omega, hdk.trans (drG_goes _ _ k hlt hGk), rfl⟩
          · simp only [ssT, SameS, SameH, setSlot, gOf, AV.ren, renL, Blk.ren, Ax.look, Ax.put, reduceCtorEq, ↓reduceIte, Nat.reduceEqDiff, Nat.reduceLT, Nat.reduceAdd, List.length_append, List.length_cons, List.length_nil, Option.some.injEq]
          · simp only [ssT, SameS, SameH, setSlot, gOf, AV.ren, renL, Blk.ren, Ax.look, Ax.put, reduceCtorEq, ↓reduceIte, Nat.reduceEqDiff, Nat.reduceLT, Nat.reduceAdd, List.length_append, List.length_cons, List.length_nil, Option.some.injEq]
        | false =>
          by_cases h0 : 0 ≤ rB
          · have hd0 : decide (0 ≤ rB) = true := decide_eq_true h0
            by_cases hBR : rB < totL (l.drop k)
            · have hd1 : decide (rB < totL (l.drop k)) = true := decide_eq_true hBR
              have hGk : g k = true := by rw [hgg, hov, hd0, hd1]; rfl
              simp only [go_sem, later_normal, Nat.reduceAdd, Nat.reduceSub, Nat.reduceMul, Int.reduceToNat, reduceCtorEq, ↓reduceIte, Int.reducePow, Nat.reducePow, Int.reduceMod, Nat.reduceLeDiff, Int.reduceLE, Int.reduceNe, Int.reduceEq, Nat.reduceEqDiff, Nat.reduceLT, Nat.reduceBEq, tyF, setFlat, ty, Srd16, oldS, totS16, hok, hl4, hs1, e1, d1, hov, hdr, hdl, hle, hex, hln, hms, htk, hco, hcg, hd0, hd1, Int.toNat_natCast]
              repeat (refine And.intro (by first | omega | exact hok) ?_)
              refine ⟨l.length - (k + 1), _, by omega, weak_ren [0, 1, 2, 3, 4] rfl rfl rfl ?_ ?_, k + 1, rfl, by omega, hdk.trans (drG_goes _ _ k hlt hGk), rfl⟩
              · simp only [ssT, SameS, SameH, setSlot, gOf, AV.ren, renL, Blk.ren, Ax.look, Ax.put, reduceCtorEq, ↓reduceIte, Nat.reduceEqDiff, Nat.reduceLT, Nat.reduceAdd, List.length_append, List.length_cons, List.length_nil, Option.some.injEq]
              · simp only [ssT, SameS, SameH, setSlot, gOf, AV.ren, renL, Blk.ren, Ax.look, Ax.put, reduceCtorEq, ↓reduceIte, Nat.reduceEqDiff, Nat.reduceLT, Nat.reduceAdd, List.length_append, List.length_cons, List.length_nil, Option.some.injEq]
            · have hd1 : decide (rB < totL (l.drop k)) = false := decide_eq_false hBR
              have hGk : g k = false := by rw [hgg, hov, hd0, hd1]; rfl
              have hst := hdk.trans (drG_stops g l.length k (fun h => by have := h.2.symm.trans hGk; cases this))
              simp only [go_sem, later_normal, Nat.reduceAdd, Nat.reduceSub, Nat.reduceMul, Int.reduceToNat, reduceCtorEq, ↓reduceIte, Int.reducePow, Nat.reducePow, Int.reduceMod, Nat.reduceLeDiff, Int.reduceLE, Int.reduceNe, Int.reduceEq, Nat.reduceEqDiff, Nat.reduceLT, Nat.reduceBEq, tyF, setFlat, ty, Srd16, oldS, totS16, hok, hl4, hs1, e1, d1, hov, hdr, hdl, hle, hex, hln, hms, htk, hco, hcg, hd0, hd1, hst, Int.toNat_natCast]
              all_goals first | exact ⟨⟨l, rfl⟩, hL, hnow⟩ | omega | skip
          · have hd0 : decide (0 ≤ rB) = false := decide_eq_false h0
            have hGk : g k = false := by rw [hgg, hov, hd0]; rfl
            have hst := hdk.trans (drG_stops g l.length k (fun h => by have := h.2.symm.trans hGk; cases this))
            simp only [go_sem, later_normal, Nat.reduceAdd, Nat.reduceSub, Nat.reduceMul, Int.reduceToNat, reduceCtorEq, ↓reduceIte, Int.reducePow, Nat.reducePow, Int.reduceMod, Nat.reduceLeDiff, Int.reduceLE, Int.reduceNe, Int.reduceEq, Nat.reduceEqDiff, Nat.reduceLT, Nat.reduceBEq, tyF, setFlat, ty, Srd16, oldS, totS16, hok, hl4, hs1, e1, d1, hov, hdr, hdl, hle, hex, hln, hms, htk, hco, hcg, hd0, hst, Int.toNat_natCast]
            all_goals first | exact ⟨⟨l, rfl⟩, hL, hnow⟩ | omega | skip
      · have d1 : decide (((k + 1 : Nat) : Int) < l.length) = false := decide_eq_false (by omega)
        have hs1 : True := trivial
        have hst := hdk.trans (drG_stops g l.length k (fun h => hlt h.1))
        simp only [go_sem, later_normal, Nat.reduceAdd, Nat.reduceSub, Nat.reduceMul, Int.reduceToNat, reduceCtorEq, ↓reduceIte, Int.reducePow, Nat.reducePow, Int.reduceMod, Nat.reduceLeDiff, Int.reduceLE, Int.reduceNe, Int.reduceEq, Nat.reduceEqDiff, Nat.reduceLT, Nat.reduceBEq, tyF, setFlat, ty, Srd16, oldS, totS16, hok, hl4, hs1, e1, d1, hst, Int.toNat_natCast]
        all_goals first | exact ⟨⟨l, rfl⟩, hL, hnow⟩ | omega | skip
  · exact hp.elim
end
end Go.Proofs.Ytbncglnlmcjplaa
