/- Layer 16: Old, Start, Total, of the program and of the document. -/
import Derived.Test.YtbncglnlmcjplaaY4
namespace Go.Proofs.Ytbncglnlmcjplaa
open Ax
set_option linter.unusedSimpArgs false
set_option linter.unusedVariables false

theorem closed_sgA : ∀ (G : List Sg), closedL (G.map sgA) = true
  | [] => rfl
  | x :: r => by simp only [List.map_cons, closedL, sgA, AV.closed, Bool.true_and]; exact closed_sgA r
theorem ren_sgA (g : Nat → Nat) : ∀ (G : List Sg), renL g (G.map sgA) = G.map sgA
  | [] => rfl
  | x :: r => by simp only [List.map_cons, renL, ren_sgA g r]; rfl
theorem slot_sgA : ∀ (es : List Sg) (i : Nat) (h : i < es.length), slot (es.map sgA) i = sgA es[i]
  | p :: ps, 0, h => rfl
  | p :: ps, i + 1, h => by
    simp only [List.map_cons, slot, List.getElem_cons_succ]
    exact slot_sgA ps i (by simpa using h)
def Ok16 (now : Int) : Prop := -9223372036854775808 ≤ now ∧ now ≤ 9223372036854775807
def oldS : FSpec
  | [.agg [.w (.int .i64 b), .w (.int .i64 n), .w (.int .i64 w), .w (.int .i64 k)], .agg [.w (.int .i64 rT), .w (.int .i64 rB)], .w (.int .i64 now)], [] => ⟨Ok16 now, .w (.bool (oldB w rT now)), []⟩
  | _, _ => noRes
def totL (l : List Sg) : Int := l.foldl (fun n s => n + blk16 s.k) 0
theorem totL_snoc (es : List Sg) (i : Nat) (h : i < es.length) : totL (es.take (i + 1)) = totL (es.take i) + blk16 es[i].k := by
  unfold totL; rw [List.take_succ_eq_append_getElem h, List.foldl_append]; rfl
theorem totL_range (es : List Sg) : ∀ i, i ≤ es.length → 0 ≤ totL (es.take i) ∧ totL (es.take i) ≤ 1099511627776 * i
  | 0, _ => by simp [totL]
  | i + 1, h => by
    have ih := totL_range es i (by omega)
    have hb := blk16_range es[i].k
    rw [totL_snoc es i (by omega)]
    omega
def totS16 : FSpec
  | [.sg 4 xs f], [] => ⟨xs.length ≤ 1000000 ∧ ∃ es : List Sg, xs = es.map sgA, .w (.int .i64 (totL (xs.map sgOf))), []⟩
  | _, _ => noRes
def stA (xs : List AV) (n : Int) : Int := if 0 ≤ n ∧ n < xs.length then (sgOf (slot xs n.toNat)).b else 0
def stB (xs : List AV) (n : Int) : Bool := decide (0 ≤ n ∧ n < xs.length)
def startS16 : FSpec
  | [.sg 4 xs f, .w (.int .i64 n)], [] => ⟨xs.length ≤ 1000000 ∧ ∃ es : List Sg, xs = es.map sgA, .tup [.w (.int .i64 (stA xs n)), .w (.bool (stB xs n))], []⟩
  | _, _ => noRes
def blkS16 : FSpec
  | [.agg [.w (.int .i64 b), .w (.int .i64 n), .w (.int .i64 w), .w (.int .i64 k)]], [] => ⟨True, .w (.int .i64 (blk16 k)), []⟩
  | _, _ => noRes
section
set_option maxRecDepth 100000
set_option maxHeartbeats 1000000
theorem blk16_sound : Sound Try.prog 17 blkS16 := by
  refine fn_sound (S := noS) (T := ty) mixed ty_ok noS_ok Try.func17 (c := Try.f17.body.getD .skip) (by kernel_rfl) (by kernel_rfl) (fun xs pins hp _ => ?_)
  unfold blkS16 at hp ⊢
  split at hp
  · rename_i b n w l _
    refine ⟨by simp, ?_⟩
    have em1 : (if (0 : Int) > l then 0 else l) = max l 0 := by split <;> omega
    have em2 : (if l > 0 then l else 0) = max l 0 := by split <;> omega
    have em5 : (if l < 0 then 0 else l) = max l 0 := by split <;> omega
    have em6 : (if (0 : Int) < l then l else 0) = max l 0 := by split <;> omega
    have em3 : (if (1099511627776 : Int) < max l 0 then 1099511627776 else max l 0) = blk16 l := by unfold blk16; split <;> omega
    have em4 : (if max l 0 < 1099511627776 then max l 0 else 1099511627776) = blk16 l := by unfold blk16; split <;> omega
    unfold Try.f17
    simp only [go_sem, coe, later_normal, Nat.reduceAdd, Nat.reduceSub, Nat.reduceMul, Int.reduceToNat, reduceCtorEq, ↓reduceIte, Int.reducePow, Nat.reducePow, Int.reduceMod, Nat.reduceLeDiff, Int.reduceLE, Int.reduceNe, Int.reduceEq, Nat.reduceEqDiff, Nat.reduceLT, Nat.reduceBEq, ty, noS, em1, em2, em3, em4, em5, em6]
  · exact hp.elim
theorem rold_sound : Sound Try.prog 12 oldS := by
  refine fn_sound (S := noS) (T := ty) mixed ty_ok noS_ok Try.func12 (c := Try.f12.body.getD .skip) (by kernel_rfl) (by kernel_rfl) (fun xs pins hp _ => ?_)
  unfold oldS at hp ⊢
  split at hp
  · rename_i b n w k rT rB now _
    refine ⟨by simp, ?_⟩
    unfold Ok16 at hp
    obtain ⟨m, hm⟩ : ∃ m, min w 1099511627776 = m := ⟨_, rfl⟩
    have em1 : (if (1099511627776 : Int) < w then 1099511627776 else w) = m := by rw [← hm]; split <;> omega
    have em2 : (if w < 1099511627776 then w else 1099511627776) = m := by rw [← hm]; split <;> omega
    have em3 : (if w ≤ 1099511627776 then w else 1099511627776) = m := by rw [← hm]; split <;> omega
    unfold Try.f12
    rw [oldB_eq, hm]
    by_cases h1 : rT < 0
    · have d1 : decide (rT < 0) = true := decide_eq_true h1
      have hd : decide (0 ≤ rT ∧ 0 ≤ m ∧ m ≤ now ∧ rT < now - m) = false := decide_eq_false (by omega)
      simp only [go_sem, coe, later_normal, Nat.reduceAdd, Nat.reduceSub, Nat.reduceMul, Int.reduceToNat, reduceCtorEq, ↓reduceIte, Int.reducePow, Nat.reducePow, Int.reduceMod, Nat.reduceLeDiff, Int.reduceLE, Int.reduceNe, Int.reduceEq, Nat.reduceEqDiff, Nat.reduceLT, Nat.reduceBEq, ty, noS, d1, hd]
      all_goals try exact hp
    · have d1 : decide (rT < 0) = false := decide_eq_false h1
      by_cases h2 : w < 0
      · have d2 : decide (w < 0) = true := decide_eq_true h2
        have hd : decide (0 ≤ rT ∧ 0 ≤ m ∧ m ≤ now ∧ rT < now - m) = false := decide_eq_false (by omega)
        simp only [go_sem, coe, later_normal, Nat.reduceAdd, Nat.reduceSub, Nat.reduceMul, Int.reduceToNat, reduceCtorEq, ↓reduceIte, Int.reducePow, Nat.reducePow, Int.reduceMod, Nat.reduceLeDiff, Int.reduceLE, Int.reduceNe, Int.reduceEq, Nat.reduceEqDiff, Nat.reduceLT, Nat.reduceBEq, ty, noS, d1, d2, hd]
        all_goals try exact hp
      · have d2 : decide (w < 0) = false := decide_eq_false h2
        by_cases h3 : now < 0
        · have d3 : decide (now < 0) = true := decide_eq_true h3
          have hd : decide (0 ≤ rT ∧ 0 ≤ m ∧ m ≤ now ∧ rT < now - m) = false := decide_eq_false (by omega)
          simp only [go_sem, coe, later_normal, Nat.reduceAdd, Nat.reduceSub, Nat.reduceMul, Int.reduceToNat, reduceCtorEq, ↓reduceIte, Int.reducePow, Nat.reducePow, Int.reduceMod, Nat.reduceLeDiff, Int.reduceLE, Int.reduceNe, Int.reduceEq, Nat.reduceEqDiff, Nat.reduceLT, Nat.reduceBEq, ty, noS, d1, d2, d3, hd]
          all_goals try exact hp
        · have d3 : decide (now < 0) = false := decide_eq_false h3
          have e1 : (now - m + 9223372036854775808) % 18446744073709551616 - 9223372036854775808 = now - m := by omega
          have hd : decide (0 ≤ rT ∧ 0 ≤ m ∧ m ≤ now ∧ rT < now - m) = decide (rT < now - m) := decide_eq_decide.2 (by omega)
          simp only [go_sem, coe, later_normal, Nat.reduceAdd, Nat.reduceSub, Nat.reduceMul, Int.reduceToNat, reduceCtorEq, ↓reduceIte, Int.reducePow, Nat.reducePow, Int.reduceMod, Nat.reduceLeDiff, Int.reduceLE, Int.reduceNe, Int.reduceEq, Nat.reduceEqDiff, Nat.reduceLT, Nat.reduceBEq, ty, noS, d1, d2, d3, em1, em2, em3, hm, e1, hd]
          all_goals try exact hp
  · exact hp.elim
theorem old_sound : Sound Try.prog 11 oldS := by
  refine fn_sound (S := noS) (T := ty) mixed ty_ok noS_ok Try.func11 (c := Try.f11.body.getD .skip) (by kernel_rfl) (by kernel_rfl) (fun xs pins hp _ => ?_)
  unfold oldS at hp ⊢
  split at hp
  · rename_i b n w k rT rB now _
    refine ⟨by simp, ?_⟩
    unfold Ok16 at hp
    obtain ⟨m, hm⟩ : ∃ m, min w 1099511627776 = m := ⟨_, rfl⟩
    have em1 : (if (1099511627776 : Int) < w then 1099511627776 else w) = m := by rw [← hm]; split <;> omega
    have em2 : (if w < 1099511627776 then w else 1099511627776) = m := by rw [← hm]; split <;> omega
    have em3 : (if w ≤ 1099511627776 then w else 1099511627776) = m := by rw [← hm]; split <;> omega
    unfold Try.f11
    rw [oldB_eq, hm]
    by_cases h1 : rT < 0
    · have d1 : decide (rT < 0) = true := decide_eq_true h1
      have hd : decide (0 ≤ rT ∧ 0 ≤ m ∧ m ≤ now ∧ rT < now - m) = false := decide_eq_false (by omega)
      simp only [go_sem, coe, later_normal, Nat.reduceAdd, Nat.reduceSub, Nat.reduceMul, Int.reduceToNat, reduceCtorEq, ↓reduceIte, Int.reducePow, Nat.reducePow, Int.reduceMod, Nat.reduceLeDiff, Int.reduceLE, Int.reduceNe, Int.reduceEq, Nat.reduceEqDiff, Nat.reduceLT, Nat.reduceBEq, ty, noS, d1, hd, em1, em2, em3, hm]
      all_goals try exact hp
    · have d1 : decide (rT < 0) = false := decide_eq_false h1
      by_cases h2 : m < 0
      · have d2 : decide (m < 0) = true := decide_eq_true h2
        have hd : decide (0 ≤ rT ∧ 0 ≤ m ∧ m ≤ now ∧ rT < now - m) = false := decide_eq_false (by omega)
        simp only [go_sem, coe, later_normal, Nat.reduceAdd, Nat.reduceSub, Nat.reduceMul, Int.reduceToNat, reduceCtorEq, ↓reduceIte, Int.reducePow, Nat.reducePow, Int.reduceMod, Nat.reduceLeDiff, Int.reduceLE, Int.reduceNe, Int.reduceEq, Nat.reduceEqDiff, Nat.reduceLT, Nat.reduceBEq, ty, noS, d1, d2, hd, em1, em2, em3, hm]
        all_goals try exact hp
      · have d2 : decide (m < 0) = false := decide_eq_false h2
        by_cases h3 : now < m
        · have d3 : decide (now < m) = true := decide_eq_true h3
          have hd : decide (0 ≤ rT ∧ 0 ≤ m ∧ m ≤ now ∧ rT < now - m) = false := decide_eq_false (by omega)
          simp only [go_sem, coe, later_normal, Nat.reduceAdd, Nat.reduceSub, Nat.reduceMul, Int.reduceToNat, reduceCtorEq, ↓reduceIte, Int.reducePow, Nat.reducePow, Int.reduceMod, Nat.reduceLeDiff, Int.reduceLE, Int.reduceNe, Int.reduceEq, Nat.reduceEqDiff, Nat.reduceLT, Nat.reduceBEq, ty, noS, d1, d2, d3, hd, em1, em2, em3, hm]
          all_goals try exact hp
        · have d3 : decide (now < m) = false := decide_eq_false h3
          have e1 : (now - m + 9223372036854775808) % 18446744073709551616 - 9223372036854775808 = now - m := by omega
          have hd : decide (0 ≤ rT ∧ 0 ≤ m ∧ m ≤ now ∧ rT < now - m) = decide (rT < now - m) := decide_eq_decide.2 (by omega)
          simp only [go_sem, coe, later_normal, Nat.reduceAdd, Nat.reduceSub, Nat.reduceMul, Int.reduceToNat, reduceCtorEq, ↓reduceIte, Int.reducePow, Nat.reducePow, Int.reduceMod, Nat.reduceLeDiff, Int.reduceLE, Int.reduceNe, Int.reduceEq, Nat.reduceEqDiff, Nat.reduceLT, Nat.reduceBEq, ty, noS, d1, d2, d3, em1, em2, em3, hm, e1, hd]
          all_goals try exact hp
  · exact hp.elim
theorem rtot16_sound : Sound Try.prog 15 totS16 := by
  refine fn_sound (S := noS) (T := ty) mixed ty_ok noS_ok Try.func15 (c := Try.f15.body.getD .skip) (by kernel_rfl) (by kernel_rfl) (fun xs pins hp _ => ?_)
  unfold totS16 at hp ⊢
  split at hp
  · rename_i xs f _
    obtain ⟨hL, es, rfl⟩ := hp
    rw [List.length_map] at hL
    refine ⟨by simp, ?_⟩
    have hl4 : (es.map sgA).length = es.length := by simp
    unfold Try.f15
    simp only [go_sem, coe, later_normal, Nat.reduceAdd, Nat.reduceSub, Nat.reduceMul, Int.reduceToNat, reduceCtorEq, ↓reduceIte, Int.reducePow, Nat.reducePow, Int.reduceMod, Nat.reduceLeDiff, Int.reduceLE, Int.reduceNe, Int.reduceEq, Nat.reduceEqDiff, Nat.reduceLT, Nat.reduceBEq, ty, noS, hl4, map_sgOf]
    refine awp_loop ⟨fun m σ => ∃ i : Nat, m = es.length - i ∧ i ≤ es.length ∧
        σ = ⟨[.sg 4 (es.map sgA) f, .junk, .w (.int .i64 0), .w (.int .i64 (totL (es.take i))), .w (.int .i64 i), .junk, .junk, .junk, .junk, .junk, .junk, .junk, .junk, .junk, .junk, .junk, .junk, .junk, .junk, .junk, .junk], [], 4⟩, ?_, ?_⟩
    · refine ⟨_, _, weak_ren [0, 1, 2, 3] rfl rfl rfl ?_ ?_, 0, rfl, by omega, rfl⟩
      · simp only [ssT, SameS, SameH, setSlot, gOf, AV.ren, renL, Blk.ren, Ax.look, Ax.put, reduceCtorEq, ↓reduceIte, Nat.reduceEqDiff, Nat.reduceLT, Nat.reduceAdd, List.length_append, List.length_cons, List.length_nil, Option.some.injEq]; try simp; try rfl
      · simp only [ssT, SameS, SameH, setSlot, gOf, AV.ren, renL, Blk.ren, Ax.look, Ax.put, reduceCtorEq, ↓reduceIte, Nat.reduceEqDiff, Nat.reduceLT, Nat.reduceAdd, List.length_append, List.length_cons, List.length_nil, Option.some.injEq]
    · rintro m σ ⟨i, rfl, hi, rfl⟩
      by_cases hil : i < es.length
      · have d1 : decide ((i : Int) < es.length) = true := decide_eq_true (by omega)
        have e1 : ((i : Int) + 1 + 9223372036854775808) % 18446744073709551616 - 9223372036854775808 = ((i + 1 : Nat) : Int) := by omega
        have hs1 := slot_sgA es i hil
        have hf := totL_snoc es i hil
        have hr := totL_range es i hi
        obtain ⟨P, hP⟩ : ∃ P, es[i] = P := ⟨_, rfl⟩
        rw [hP] at hs1 hf
        have hbr := blk16_range P.k
        obtain ⟨T, hT⟩ : ∃ T, totL (es.take i) = T := ⟨_, rfl⟩
        rw [hT] at hf hr ⊢
        have e2 : (T + blk16 P.k + 9223372036854775808) % 18446744073709551616 - 9223372036854775808 = totL (es.take (i + 1)) := by rw [hf]; omega
        simp only [sgA] at hs1
        have em1 : (if (1099511627776 : Int) < P.k then 1099511627776 else P.k) = min P.k 1099511627776 := by split <;> omega
        have em2 : (if P.k < 1099511627776 then P.k else 1099511627776) = min P.k 1099511627776 := by split <;> omega
        have em3 : (if (0 : Int) > min P.k 1099511627776 then 0 else min P.k 1099511627776) = blk16 P.k := by unfold blk16; split <;> omega
        have em4 : (if min P.k 1099511627776 > 0 then min P.k 1099511627776 else 0) = blk16 P.k := by unfold blk16; split <;> omega
        have em5 : (if (0 : Int) < min P.k 1099511627776 then min P.k 1099511627776 else 0) = blk16 P.k := by unfold blk16; split <;> omega
        simp only [go_sem, coe, later_normal, Nat.reduceAdd, Nat.reduceSub, Nat.reduceMul, Int.reduceToNat, reduceCtorEq, ↓reduceIte, Int.reducePow, Nat.reducePow, Int.reduceMod, Nat.reduceLeDiff, Int.reduceLE, Int.reduceNe, Int.reduceEq, Nat.reduceEqDiff, Nat.reduceLT, Nat.reduceBEq, ty, noS, hl4, d1, e1, e2, hs1, em1, em2, em3, em4, em5, Int.toNat_natCast]
        repeat (refine And.intro (by omega) ?_)
        refine ⟨es.length - (i + 1), _, by omega, weak_ren [0, 1, 2, 3] rfl rfl rfl ?_ ?_, i + 1, rfl, by omega, rfl⟩
        · simp only [ssT, SameS, SameH, setSlot, gOf, AV.ren, renL, Blk.ren, Ax.look, Ax.put, reduceCtorEq, ↓reduceIte, Nat.reduceEqDiff, Nat.reduceLT, Nat.reduceAdd, List.length_append, List.length_cons, List.length_nil, Option.some.injEq]
        · simp only [ssT, SameS, SameH, setSlot, gOf, AV.ren, renL, Blk.ren, Ax.look, Ax.put, reduceCtorEq, ↓reduceIte, Nat.reduceEqDiff, Nat.reduceLT, Nat.reduceAdd, List.length_append, List.length_cons, List.length_nil, Option.some.injEq]
      · have d1 : decide ((i : Int) < es.length) = false := decide_eq_false (by omega)
        have hii : es.take i = es := List.take_of_length_le (by omega)
        rw [hii]
        simp only [go_sem, coe, later_normal, Nat.reduceAdd, Nat.reduceSub, Nat.reduceMul, Int.reduceToNat, reduceCtorEq, ↓reduceIte, Int.reducePow, Nat.reducePow, Int.reduceMod, Nat.reduceLeDiff, Int.reduceLE, Int.reduceNe, Int.reduceEq, Nat.reduceEqDiff, Nat.reduceLT, Nat.reduceBEq, ty, noS, hl4, d1, map_sgOf]
        try exact ⟨hL, es, rfl⟩
  · exact hp.elim
end
end Go.Proofs.Ytbncglnlmcjplaa
