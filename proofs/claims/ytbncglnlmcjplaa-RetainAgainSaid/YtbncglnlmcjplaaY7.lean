/- Layer 16: as. -/
import Derived.Test.YtbncglnlmcjplaaY6
import Derived.Test.YtbncglnlmcjplaaAxTg
namespace Go.Proofs.Ytbncglnlmcjplaa
open Ax
set_option linter.unusedSimpArgs false
set_option linter.unusedVariables false

def as16S : FSpec
  | [.sg 4 xs f], [] => ⟨xs.length ≤ 1000000 ∧ ∃ l : List Sg, xs = l.map sgA, .sg 4 xs false, []⟩
  | _, _ => noRes
theorem slot_fgLP (id s : Nat) (zs : List AV) : ∀ (sl : List AV) (i : Nat), slot (fgL id s zs sl) i = (slot sl i).fg id s zs
  | [], i => rfl
  | x :: sl, 0 => rfl
  | x :: sl, i + 1 => slot_fgLP id s zs sl i
theorem gP_ends {T : Types} {sl : List AV} {H : Heap} {nx id n s : Nat} {ws rs : List AV} {q : Prop} (i : Nat) (h2 : slot sl i = .ms id s 0 n) (hl : Ax.look H id = some (.g s ws)) (hc : closedL ws = true) (hn : n = ws.length) (hr : rs = ws) :
    EndsW T [.tmp i] [] ⟨q, .sg s rs false, []⟩ .ret ⟨sl, H, nx⟩ := by
  subst hn hr
  have hs : slot (fgL id s rs sl) i = .sg s rs false := by
    rw [slot_fgLP, h2]
    simp [AV.fg]
  refine ⟨_, weak_fg id s i rs hl hc (by rw [h2]; simp [AV.ids]), ?_⟩
  simp only [Ax.Ends, Ax.rvals, EndsX, rone, hs, AV.ids, idsL, newIds, upTo, nodup, pinsOf, List.nil_append, AV.ren, renL, and_self]
section
set_option maxRecDepth 100000
set_option maxHeartbeats 4000000 in
theorem as16_sound : Sound Try.prog 7 as16S := by
  refine fn_soundW (S := noS) (T := ty) mixed ty_ok noS_ok Try.func7 (c := Try.f7.body.getD .skip) (by kernel_rfl) (by kernel_rfl) (fun xs pins hp _ => ?_)
  unfold as16S at hp ⊢
  split at hp
  · rename_i xs f _
    obtain ⟨hL, l, rfl⟩ := hp
    rw [List.length_map] at hL
    have hle : (l.map sgA).length = l.length := by simp
    have ht : top = 4294967296 := rfl
    refine ⟨by simp, ?_⟩
    unfold Try.f7
    simp only [go_sem, later_normal, Nat.reduceAdd, Nat.reduceSub, Nat.reduceMul, Int.reduceToNat, reduceCtorEq, ↓reduceIte, Int.reducePow, Nat.reducePow, Int.reduceMod, Nat.reduceLeDiff, Int.reduceLE, Int.reduceNe, Int.reduceEq, Nat.reduceEqDiff, Nat.reduceLT, Nat.reduceBEq, ty, noS, hle]
    refine awp_loopW ⟨fun m σ => ∃ i : Nat, m = l.length - i ∧ i ≤ l.length ∧
        σ = ⟨[.sg 4 (l.map sgA) f, .junk, .sg 1 [] true, .ms 4 4 0 i, .w (.int .i64 i), .junk, .junk, .junk, .junk, .junk, .junk, .junk, .junk, .junk, .junk, .junk, .junk, .junk, .junk], [(4, .g 4 ((l.take i).map sgA))], 5⟩, ?_, ?_⟩
    · refine ⟨_, _, (weak_nil 3 4 (.g 4 []) ⟨by decide, rfl⟩ (by exact trivial)).trans (weak_ren [0, 1, 2, 3, 28] rfl rfl rfl ?_ ?_), 0, rfl, by omega, rfl⟩
      · simp only [ssT, SameS, SameH, setSlot, gOf, AV.ren, renL, Blk.ren, Ax.look, Ax.put, reduceCtorEq, ↓reduceIte, Nat.reduceEqDiff, Nat.reduceLT, Nat.reduceAdd, List.length_append, List.length_cons, List.length_nil, Option.some.injEq]; try simp
        try rfl
      · simp only [ssT, SameS, SameH, setSlot, gOf, AV.ren, renL, Blk.ren, Ax.look, Ax.put, reduceCtorEq, ↓reduceIte, Nat.reduceEqDiff, Nat.reduceLT, Nat.reduceAdd, List.length_append, List.length_cons, List.length_nil, Option.some.injEq]; try simp [renL]
    · rintro m σ ⟨i, rfl, hi, rfl⟩
      have e1 : ((i : Int) + 1 + 9223372036854775808) % 18446744073709551616 - 9223372036854775808 = ((i + 1 : Nat) : Int) := by omega
      have hml : ((l.take i).map sgA).length = i := by simp; omega
      by_cases hil : i < l.length
      · have d1 : decide ((i : Int) < l.length) = true := decide_eq_true (by omega)
        have hs1 := slot_sgA l i hil
        have htk : l.take (i + 1) = l.take i ++ [l[i]] := List.take_succ_eq_append_getElem hil
        obtain ⟨r, hr⟩ : ∃ r, l[i] = r := ⟨_, rfl⟩
        rw [hr] at hs1 htk
        obtain ⟨b, n, w, k⟩ := r
        have hs1 : slot (l.map sgA) i = .agg [.w (.int .i64 b), .w (.int .i64 n), .w (.int .i64 w), .w (.int .i64 k)] := hs1
        have hat : (l.take i).map sgA ++ [.agg [.w (.int .i64 b), .w (.int .i64 n), .w (.int .i64 w), .w (.int .i64 k)]] = (l.take (i + 1)).map sgA := by rw [htk, List.map_append]; rfl
        simp only [go_sem, later_normal, Nat.reduceAdd, Nat.reduceSub, Nat.reduceMul, Int.reduceToNat, reduceCtorEq, ↓reduceIte, Int.reducePow, Nat.reducePow, Int.reduceMod, Nat.reduceLeDiff, Int.reduceLE, Int.reduceNe, Int.reduceEq, Nat.reduceEqDiff, Nat.reduceLT, Nat.reduceBEq, ty, noS, hle, hml, d1, hs1, e1, Int.toNat_natCast, hat]
        repeat (refine And.intro (by first | omega | decide) ?_)
        refine ⟨l.length - (i + 1), _, by omega, weak_ren [0, 1, 2, 3, 85] rfl rfl rfl ?_ ?_, i + 1, rfl, by omega, rfl⟩
        · simp only [ssT, SameS, SameH, setSlot, gOf, AV.ren, renL, Blk.ren, Ax.look, Ax.put, reduceCtorEq, ↓reduceIte, Nat.reduceEqDiff, Nat.reduceLT, Nat.reduceAdd, List.length_append, List.length_cons, List.length_nil, Option.some.injEq]; try simp
        · simp only [ssT, SameS, SameH, setSlot, gOf, AV.ren, renL, Blk.ren, Ax.look, Ax.put, reduceCtorEq, ↓reduceIte, Nat.reduceEqDiff, Nat.reduceLT, Nat.reduceAdd, List.length_append, List.length_cons, List.length_nil, Option.some.injEq, ren_sgA]; try simp
      · have d1 : decide ((i : Int) < l.length) = false := decide_eq_false (by omega)
        have hii : l.take i = l := List.take_of_length_le (by omega)
        rw [hii] at hml ⊢
        simp only [go_sem, later_normal, Nat.reduceAdd, Nat.reduceSub, Nat.reduceMul, Int.reduceToNat, reduceCtorEq, ↓reduceIte, Int.reducePow, Nat.reducePow, Int.reduceMod, Nat.reduceLeDiff, Int.reduceLE, Int.reduceNe, Int.reduceEq, Nat.reduceEqDiff, Nat.reduceLT, Nat.reduceBEq, ty, noS, hle, d1]
        refine ⟨_, Weak.refl _, ?_⟩
        simp only [go_sem, later_normal, Nat.reduceAdd, Nat.reduceSub, Nat.reduceMul, Int.reduceToNat, reduceCtorEq, ↓reduceIte, Int.reducePow, Nat.reducePow, Int.reduceMod, Nat.reduceLeDiff, Int.reduceLE, Int.reduceNe, Int.reduceEq, Nat.reduceEqDiff, Nat.reduceLT, Nat.reduceBEq, ty, noS]
        exact gP_ends 2 rfl rfl (closed_sgA l) hml.symm rfl
  · exact hp.elim
end
end Go.Proofs.Ytbncglnlmcjplaa
