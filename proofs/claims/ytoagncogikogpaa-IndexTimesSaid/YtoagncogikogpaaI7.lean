/- Layer 12: the law of what is found. -/
import Derived.Test.YtoagncogikogpaaI6
namespace Go.Proofs.Ytoagncogikogpaa
open Ax
set_option linter.unusedSimpArgs false
set_option linter.unusedVariables false

def ifindsS : FSpec
  | [.agg [.w (.int .i64 v), .w (.int .i64 c), .sg 3 xs f], .w (.int .i64 off), .w (.int .i64 tm)], [] => ⟨xs.length ≤ 9223372036854775807 ∧ ∃ es : List Ent, xs = es.map ent, .w (.bool true), []⟩
  | _, _ => noRes
def Sifinds (f : FuncId) : Option FSpec :=
  match f with
  | 23 => some yesS
  | 24 => some ownS
  | 34 => some (lastS fun tm e => decide (e.t < tm))
  | 35 => some (lastS fun tm e => decide (e.t < tm))
  | 36 => some findIS
  | 38 => some (lastS fun tm e => decide (e.o ≤ tm))
  | 37 => some risS
  | _ => none
theorem Sifinds_ok : Fns Try.prog Sifinds := by
  intro f s h
  unfold Sifinds at h
  split at h
  · injection h with h; subst h; exact ⟨⟨_, Try.func23, by kernel_rfl, by kernel_rfl⟩, awake12_sound⟩
  · injection h with h; subst h; exact ⟨⟨_, Try.func24, by kernel_rfl, by kernel_rfl⟩, own_sound⟩
  · injection h with h; subst h; exact ⟨⟨_, Try.func34, by kernel_rfl, by kernel_rfl⟩, byTime_sound⟩
  · injection h with h; subst h; exact ⟨⟨_, Try.func35, by kernel_rfl, by kernel_rfl⟩, rbyTime_sound⟩
  · injection h with h; subst h; exact ⟨⟨_, Try.func36, by kernel_rfl, by kernel_rfl⟩, findI_sound⟩
  · injection h with h; subst h; exact ⟨⟨_, Try.func38, by kernel_rfl, by kernel_rfl⟩, rfindI_sound⟩
  · injection h with h; subst h; exact ⟨⟨_, Try.func37, by kernel_rfl, by kernel_rfl⟩, ris_sound⟩
  · cases h
/-- Where a test rises the last one that does not pass it stands ahead of the place that is halved to. -/
theorem hlv_place (A : Nat → Bool) : ∀ (f lo hi : Nat), lo ≤ hi → hi - lo ≤ f → (∀ i j, i ≤ j → A i = true → A j = true) →
    (∀ j, lo ≤ j → j < hlv A f lo hi → A j = false) ∧ (∀ j, hlv A f lo hi ≤ j → j < hi → A j = true)
  | 0, lo, hi, h, hf, hm => ⟨fun j a b => by have : hlv A 0 lo hi = lo := rfl; omega, fun j a b => by have : hlv A 0 lo hi = lo := rfl; omega⟩
  | f + 1, lo, hi, h, hf, hm => by
    rw [hlv_succ]
    by_cases hl : lo < hi
    · rw [if_pos hl]
      obtain ⟨M, hM⟩ : ∃ M, lo + (hi - lo) / 2 = M := ⟨_, rfl⟩
      rw [hM]
      cases hA : A M with
      | true =>
        rw [if_pos rfl]
        obtain ⟨h1, h2⟩ := hlv_place A f lo M (by omega) (by omega) hm
        refine ⟨h1, fun j a b => ?_⟩
        by_cases hj : j < M
        · exact h2 j a hj
        · exact hm M j (by omega) hA
      | false =>
        simp only [Bool.false_eq_true, if_false]
        obtain ⟨h1, h2⟩ := hlv_place A f (M + 1) hi (by omega) (by omega) hm
        refine ⟨fun j a b => ?_, h2⟩
        by_cases hj : M + 1 ≤ j
        · exact h1 j hj b
        · cases hAj : A j with
          | false => rfl
          | true => have := hm j M (by omega) hAj; rw [hA] at this; cases this
    · rw [if_neg hl]
      exact ⟨fun j a b => by omega, fun j a b => by omega⟩
theorem ris_le {es : List Ent} (h : risB es = true) : ∀ (d i : Nat), i + d < es.length → offAt es i ≤ offAt es (i + d)
  | 0, i, _ => Int.le_refl _
  | d + 1, i, hd => by
    have h1 := ris_le h d i (by omega)
    have h2 := risB_true.1 h (i + d) (by omega)
    rw [show i + d + 1 = i + (d + 1) by omega] at h2
    omega
theorem hlvI_place {es : List Ent} (h : risB es = true) (off : Int) : (∀ j, j < hlvI es off → offAt es j ≤ off) ∧ (∀ j, hlvI es off ≤ j → j < es.length → off < offAt es j) := by
  -- behind the list the test is told as true
  let A' : Nat → Bool := fun k => decide (es.length ≤ k) || isAbove es off k
  have hag : ∀ f lo hi, hi ≤ es.length → hlv A' f lo hi = hlv (isAbove es off) f lo hi := by
    intro f
    induction f with
    | zero => intro lo hi _; rfl
    | succ f ih =>
      intro lo hi hh
      rw [hlv_succ, hlv_succ]
      by_cases hl : lo < hi
      · rw [if_pos hl, if_pos hl]
        have e : A' (lo + (hi - lo) / 2) = isAbove es off (lo + (hi - lo) / 2) := by
          show (decide (es.length ≤ lo + (hi - lo) / 2) || _) = _
          rw [decide_eq_false (by omega), Bool.false_or]
        rw [e, ih _ _ (by omega), ih _ _ hh]
      · rw [if_neg hl, if_neg hl]
  have hm : ∀ i j, i ≤ j → A' i = true → A' j = true := by
    intro i j hij hi
    by_cases hj : es.length ≤ j
    · show (decide _ || _) = true
      rw [decide_eq_true hj]; rfl
    · have hi2 : decide (es.length ≤ i) = false := decide_eq_false (by omega)
      have hj2 : decide (es.length ≤ j) = false := decide_eq_false hj
      simp only [A', hi2, hj2, Bool.false_or, isAbove, decide_eq_true_eq] at hi ⊢
      have := ris_le h (j - i) i (by omega)
      rw [show i + (j - i) = j by omega] at this
      omega
  obtain ⟨h1, h2⟩ := hlv_place A' es.length 0 es.length (Nat.zero_le _) (by omega) hm
  have e : hlv A' es.length 0 es.length = hlvI es off := hag _ _ _ (Nat.le_refl _)
  rw [e] at h1 h2
  have hle : hlvI es off ≤ es.length := (hlv_le _ _ _ _ (Nat.zero_le _)).2
  refine ⟨fun j hj => ?_, fun j a b => ?_⟩
  · have := h1 j (Nat.zero_le _) hj
    have hj2 : decide (es.length ≤ j) = false := decide_eq_false (by omega)
    simp only [A', hj2, Bool.false_or, isAbove, decide_eq_false_iff_not] at this
    omega
  · have := h2 j a b
    have hj2 : decide (es.length ≤ j) = false := decide_eq_false (by omega)
    simp only [A', hj2, Bool.false_or, isAbove, decide_eq_true_eq] at this
    exact this
theorem last_stop (A : Ent → Bool) (es : List Ent) : ∀ k, k ≤ es.length → (∀ j (h : j < es.length), k ≤ j → A es[j] = false) → lastI A es = lastI A (es.take k) := by
  intro k hk hall
  have : ∀ d, k + d ≤ es.length → lastI A (es.take (k + d)) = lastI A (es.take k) := by
    intro d
    induction d with
    | zero => intro _; rfl
    | succ d ih =>
      intro hd
      rw [last_take A es (k + (d + 1)) (by omega) hd]
      have e : k + (d + 1) - 1 = k + d := by omega
      have := hall (k + d) (by omega) (by omega)
      simp only [e]
      rw [this]
      simp only [Bool.false_eq_true, if_false]
      exact ih (by omega)
  have h2 := this (es.length - k) (by omega)
  rw [show k + (es.length - k) = es.length by omega, List.take_length] at h2
  exact h2
/-- Where the offsets rise halving finds what looking does. -/
theorem find_last {es : List Ent} (h : risB es = true) (off : Int) : (lastI (fun e => decide (e.o ≤ off)) es).getD ⟨0, 0, 0⟩ = findE es off ∧ (lastI (fun e => decide (e.o ≤ off)) es).isSome = !decide (hlvI es off = 0) := by
  obtain ⟨h1, h2⟩ := hlvI_place h off
  have hle : hlvI es off ≤ es.length := (hlv_le _ _ _ _ (Nat.zero_le _)).2
  have hs := last_stop (fun e => decide (e.o ≤ off)) es (hlvI es off) hle (fun j hj hk => by
    have := h2 j hk hj
    rw [offAt_eq es j hj] at this
    simp; omega)
  rw [hs]
  by_cases h0 : hlvI es off = 0
  · rw [h0]
    unfold findE
    rw [if_pos h0]
    exact ⟨rfl, rfl⟩
  · rw [last_take _ es _ (by omega) hle]
    have h3 := h1 (hlvI es off - 1) (by omega)
    rw [offAt_eq es _ (by omega)] at h3
    rw [if_pos (by simpa using h3)]
    unfold findE
    rw [if_neg h0]
    simp [h0, show hlvI es off - 1 < es.length by omega]
section
set_option maxRecDepth 100000
set_option maxHeartbeats 2000000 in
theorem ifinds_law : Sound Try.prog 5 ifindsS := by
  refine fn_sound (S := Sifinds) (T := ty) mixed ty_ok Sifinds_ok Try.func5 (c := Try.f5.body.getD .skip) (by kernel_rfl) (by kernel_rfl) (fun xs pins hp _ => ?_)
  unfold ifindsS at hp ⊢
  split at hp
  · rename_i v c xs f off tm _
    obtain ⟨hL, es, rfl⟩ := hp
    rw [List.length_map] at hL
    refine ⟨by simp, ?_⟩
    have hl4 : (es.map ent).length = es.length := by simp
    have hx : ∃ qs : List Ent, es.map ent = qs.map ent := ⟨es, rfl⟩
    unfold Try.f5
    by_cases g1 : es.length ≤ 60
    · have d1 : decide ((60 : Int) < es.length) = false := decide_eq_false (by omega)
      have hm1 : es.length ≤ 1000000 := by omega
      have hm3 : es.length ≤ 9223372036854775806 := by omega
      have hm2 : es.length ≤ 100000 := by omega
      have di : ∀ l : Int, decide (l = l) = true := fun l => decide_eq_true rfl
      have bb : ∀ a : Bool, (a == a) = true := fun a => by cases a <;> rfl
      have hc1 : coe ty 43 (.sg 3 (es.map ent) f) = .sg 3 (es.map ent) f := by cases es <;> rfl
      obtain ⟨T, hT⟩ : ∃ T, lastI (fun e => decide (e.t < tm)) es = T := ⟨_, rfl⟩
      obtain ⟨C, hC⟩ : ∃ C, findE es off = C := ⟨_, rfl⟩
      cases hr : risB es with
      | true =>
        obtain ⟨q1, q2⟩ := find_last hr off
        rw [hC] at q1
        obtain ⟨K, hK⟩ : ∃ K, (!decide (hlvI es off = 0)) = K := ⟨_, rfl⟩
        rw [hK] at q2
        cases hq : lastI (fun e => decide (e.o ≤ off)) es <;> cases T
        all_goals
          rw [hq] at q1 q2
          simp only [Option.getD, Option.isSome] at q1 q2
          simp -implicitDefEqProofs only [evT, implies_true, forall_const, Option.getD, later_normal, aop, aLen, ev, slot, setSlot, putSlot, cv, cvl, aConv, aBin, aInt, aUn, aFn, aEq, Out.and, isBool, isPtr, List.length, IntKind.bits, evs, evo, evps, aCall, aUser, coes, coe, List.append, List.replicate, callOut, rootsL, AV.roots, lendsL, AV.lends, pinsOf, nodup, lendL, lend, closedB, noimmB, AV.noimm, AV.ren, renL, back, Nat.reduceAdd, Nat.reduceSub, Nat.reduceMul, Int.reduceToNat, reduceCtorEq, aLoad, subv, aIndexAddr, aIndex, TD.aggr, guardSlot, aPick, byte, word, aMin, aMax, Ax.Ends, EndsX, Ax.rvals, rone, AV.ids, idsL, newIds, upTo, pinHeap, gOf, ↓reduceIte, List.isEmpty, Int.reducePow, Nat.reducePow, Int.reduceMod, Nat.reduceLeDiff, Int.reduceLE, Int.reduceNe, Int.reduceEq, aBuildSlice, fillB, aAppend, appendB, viewB, Ax.look, Ax.put, Ax.drop, List.drop, List.take, asv, aMake, aCopy, srcB, fillG, viewG, appendG, appendI, fillI, aSlice, bnd, bnds, full3, cut, aFieldAddr, aField, aStore, setB, aBox, aBuild, fillS, allTy, AV.leaves, AV.okv, AV.leaf, one, splice, elemLeaves, Blk.size, Blk.len, Option.isSome, Option.isNone, isBytes, aStr, aNil, aAlloc, aExtract, viewI, Nat.reduceEqDiff, Nat.reduceLT, Nat.reduceBEq, List.contains, List.elem, Blk.closed, closedL, AV.closed, Blk.noimm, ↓gsplit_tt, ↓gsplit_ff, ↓gsplit_tf, ↓gsplit_ft, ↓csplit_t, ↓csplit_f, Ax.idx, AV.lentIds, lentIdsL, dropAll, givenUp, AV.clean, cleanL, Blk.clean, cleanB, quietC, flatTy, coldStr, notMs, eqV, eqF, isStruct, -coe, coe_w, coe_str, coe_agg, coe_tup, coe_sb, coe_si, coe_cp, coe_ms, coe_rf, coe_fn, coe_cons, ty, Sifinds, yesS, ownS, lastS, findIS, risS, hc1, hl4, hL, hm1, hm2, hm3, hx, map_uent, d1, hT, hC, hr, hK, hq, ← q1, ← q2, di, bb, ent, fillS, Option.getD, Option.isSome]
      | false =>
        have hle : hlvI es off ≤ es.length := (hlv_le _ _ _ _ (Nat.zero_le _)).2
        have hCC : hlvI es off ≠ 0 → ∀ h : hlvI es off - 1 < es.length, es[hlvI es off - 1] = C := by
          intro h0 h
          rw [← hC]; unfold findE; rw [if_neg h0]; simp [h]
        cases T <;> cases h0 : decide (hlvI es off = 0)
        all_goals
          simp -implicitDefEqProofs only [evT, implies_true, forall_const, Option.getD, later_normal, aop, aLen, ev, slot, setSlot, putSlot, cv, cvl, aConv, aBin, aInt, aUn, aFn, aEq, Out.and, isBool, isPtr, List.length, IntKind.bits, evs, evo, evps, aCall, aUser, coes, coe, List.append, List.replicate, callOut, rootsL, AV.roots, lendsL, AV.lends, pinsOf, nodup, lendL, lend, closedB, noimmB, AV.noimm, AV.ren, renL, back, Nat.reduceAdd, Nat.reduceSub, Nat.reduceMul, Int.reduceToNat, reduceCtorEq, aLoad, subv, aIndexAddr, aIndex, TD.aggr, guardSlot, aPick, byte, word, aMin, aMax, Ax.Ends, EndsX, Ax.rvals, rone, AV.ids, idsL, newIds, upTo, pinHeap, gOf, ↓reduceIte, List.isEmpty, Int.reducePow, Nat.reducePow, Int.reduceMod, Nat.reduceLeDiff, Int.reduceLE, Int.reduceNe, Int.reduceEq, aBuildSlice, fillB, aAppend, appendB, viewB, Ax.look, Ax.put, Ax.drop, List.drop, List.take, asv, aMake, aCopy, srcB, fillG, viewG, appendG, appendI, fillI, aSlice, bnd, bnds, full3, cut, aFieldAddr, aField, aStore, setB, aBox, aBuild, fillS, allTy, AV.leaves, AV.okv, AV.leaf, one, splice, elemLeaves, Blk.size, Blk.len, Option.isSome, Option.isNone, isBytes, aStr, aNil, aAlloc, aExtract, viewI, Nat.reduceEqDiff, Nat.reduceLT, Nat.reduceBEq, List.contains, List.elem, Blk.closed, closedL, AV.closed, Blk.noimm, ↓gsplit_tt, ↓gsplit_ff, ↓gsplit_tf, ↓gsplit_ft, ↓csplit_t, ↓csplit_f, Ax.idx, AV.lentIds, lentIdsL, dropAll, givenUp, AV.clean, cleanL, Blk.clean, cleanB, quietC, flatTy, coldStr, notMs, eqV, eqF, isStruct, -coe, coe_w, coe_str, coe_agg, coe_tup, coe_sb, coe_si, coe_cp, coe_ms, coe_rf, coe_fn, coe_cons, ty, Sifinds, yesS, ownS, lastS, findIS, risS, hc1, hl4, hL, hm1, hm2, hm3, hx, map_uent, d1, hT, hC, hr, h0, di, bb, ent, fillS, Option.getD, Option.isSome]
          refine awp_loop ⟨fun m σ => ∃ (i : Nat) (I : Bool), m = es.length - i ∧ i ≤ es.length ∧ (I = true ∨ (I = false ∧ hlvI es off ≠ 0 ∧ i ≤ hlvI es off - 1)) ∧
              σ = ⟨[.junk, .junk, .junk, .rf 4 3 0 0, .junk, .junk, .w (.bool false), .junk, .junk, .junk, .junk, .rf 5 3 0 0, .junk, .w (.bool I), .w (.int .i64 i), .junk, .junk, .junk, .junk, .junk, .junk, .junk, .junk, .junk, .junk, .junk, .junk, .junk, .junk, .junk, .junk, .junk, .junk, .junk, .junk, .junk, .junk, .junk, .junk, .junk, .junk, .junk, .junk, .junk, .junk, .junk, .junk, .junk, .junk, .junk, .junk, .junk, .junk, .junk, .junk, .junk, .junk, .junk, .junk, .junk, .junk, .junk, .junk, .junk, .junk, .junk, .junk, .junk, .junk, .junk, .junk, .junk, .junk, .junk, .junk, .junk, .junk, .junk, .junk, .junk, .junk, .junk, .junk, .junk, .junk, .junk, .junk, .junk, .junk, .junk, .junk, .junk, .junk, .junk], [(4, .g 3 [.agg [.w (.int .i64 v), .w (.int .i64 c), .sg 3 (es.map ent) f]]), (5, .g 3 [.agg [.w (.int .i64 C.o), .w (.int .i64 C.t), .w (.int .i64 C.a)]])], 6⟩, ?_, ?_⟩
          · refine ⟨_, _, weak_ren [0, 1, 2, 3, 4, 260] rfl rfl rfl ?_ ?_, 0, decide (hlvI es off = 0), rfl, by omega, ?_, rfl⟩
            rotate_left 2
            · first
                | exact .inl h0
                | exact .inr ⟨h0, of_decide_eq_false h0, Nat.zero_le _⟩
            · simp only [SameS, SameH, setSlot, gOf, AV.ren, renL, Blk.ren, Ax.look, Ax.put, reduceCtorEq, true_or, false_or, or_true, or_false, and_true, true_and, AV.w.injEq, Value.int.injEq, Value.bool.injEq, AV.ms.injEq, AV.sb.injEq, AV.str.injEq, ↓reduceIte, Nat.reduceEqDiff, Nat.reduceLT, List.length_append, List.length_cons, List.length_nil, Nat.zero_add, Nat.add_zero, Option.some.injEq, Blk.b.injEq, Blk.i.injEq, Nat.succ_ne_zero, Nat.reduceAdd, and_self, h0]; try simp
            · simp only [SameS, SameH, setSlot, gOf, AV.ren, renL, Blk.ren, Ax.look, Ax.put, reduceCtorEq, true_or, false_or, or_true, or_false, and_true, true_and, AV.w.injEq, Value.int.injEq, Value.bool.injEq, AV.ms.injEq, AV.sb.injEq, AV.str.injEq, ↓reduceIte, Nat.reduceEqDiff, Nat.reduceLT, List.length_append, List.length_cons, List.length_nil, Nat.zero_add, Nat.add_zero, Option.some.injEq, Blk.b.injEq, Blk.i.injEq, Nat.succ_ne_zero, Nat.reduceAdd, and_self]
          · rintro m σ ⟨i, I, rfl, hi, hI, rfl⟩
            by_cases hil : i < es.length
            · have d2 : decide ((i : Int) < es.length) = true := decide_eq_true (by omega)
              have e1 : ((i : Int) + 1 + 9223372036854775808) % 18446744073709551616 - 9223372036854775808 = ((i + 1 : Nat) : Int) := by omega
              have hs1 := slot_ent es i hil
              obtain ⟨P, hP⟩ : ∃ P, es[i] = P := ⟨_, rfl⟩
              rw [hP] at hs1
              simp only [ent] at hs1
              rcases hI with rfl | ⟨rfl, hz, hiz⟩
              · simp -implicitDefEqProofs only [evT, implies_true, forall_const, Option.getD, later_normal, aop, aLen, ev, slot, setSlot, putSlot, cv, cvl, aConv, aBin, aInt, aUn, aFn, aEq, Out.and, isBool, isPtr, List.length, IntKind.bits, evs, evo, evps, aCall, aUser, coes, coe, List.append, List.replicate, callOut, rootsL, AV.roots, lendsL, AV.lends, pinsOf, nodup, lendL, lend, closedB, noimmB, AV.noimm, AV.ren, renL, back, Nat.reduceAdd, Nat.reduceSub, Nat.reduceMul, Int.reduceToNat, reduceCtorEq, aLoad, subv, aIndexAddr, aIndex, TD.aggr, guardSlot, aPick, byte, word, aMin, aMax, Ax.Ends, EndsX, Ax.rvals, rone, AV.ids, idsL, newIds, upTo, pinHeap, gOf, ↓reduceIte, List.isEmpty, Int.reducePow, Nat.reducePow, Int.reduceMod, Nat.reduceLeDiff, Int.reduceLE, Int.reduceNe, Int.reduceEq, aBuildSlice, fillB, aAppend, appendB, viewB, Ax.look, Ax.put, Ax.drop, List.drop, List.take, asv, aMake, aCopy, srcB, fillG, viewG, appendG, appendI, fillI, aSlice, bnd, bnds, full3, cut, aFieldAddr, aField, aStore, setB, aBox, aBuild, fillS, allTy, AV.leaves, AV.okv, AV.leaf, one, splice, elemLeaves, Blk.size, Blk.len, Option.isSome, Option.isNone, isBytes, aStr, aNil, aAlloc, aExtract, viewI, Nat.reduceEqDiff, Nat.reduceLT, Nat.reduceBEq, List.contains, List.elem, Blk.closed, closedL, AV.closed, Blk.noimm, ↓gsplit_tt, ↓gsplit_ff, ↓gsplit_tf, ↓gsplit_ft, ↓csplit_t, ↓csplit_f, Ax.idx, AV.lentIds, lentIdsL, dropAll, givenUp, AV.clean, cleanL, Blk.clean, cleanB, quietC, flatTy, coldStr, notMs, eqV, eqF, isStruct, -coe, coe_w, coe_str, coe_agg, coe_tup, coe_sb, coe_si, coe_cp, coe_ms, coe_rf, coe_fn, coe_cons, ty, Sifinds, yesS, ownS, lastS, findIS, risS, hl4, d2, e1, Int.toNat_natCast]
                refine ⟨es.length - (i + 1), _, by omega, weak_ren [0, 1, 2, 3, 4, 5] rfl rfl rfl ?_ ?_, i + 1, true, rfl, by omega, .inl rfl, rfl⟩
                · simp only [SameS, SameH, setSlot, gOf, AV.ren, renL, Blk.ren, Ax.look, Ax.put, reduceCtorEq, true_or, false_or, or_true, or_false, and_true, true_and, AV.w.injEq, Value.int.injEq, Value.bool.injEq, AV.ms.injEq, AV.sb.injEq, AV.str.injEq, ↓reduceIte, Nat.reduceEqDiff, Nat.reduceLT, List.length_append, List.length_cons, List.length_nil, Nat.zero_add, Nat.add_zero, Option.some.injEq, Blk.b.injEq, Blk.i.injEq, Nat.succ_ne_zero, Nat.reduceAdd, and_self]
                · simp only [SameS, SameH, setSlot, gOf, AV.ren, renL, Blk.ren, Ax.look, Ax.put, reduceCtorEq, true_or, false_or, or_true, or_false, and_true, true_and, AV.w.injEq, Value.int.injEq, Value.bool.injEq, AV.ms.injEq, AV.sb.injEq, AV.str.injEq, ↓reduceIte, Nat.reduceEqDiff, Nat.reduceLT, List.length_append, List.length_cons, List.length_nil, Nat.zero_add, Nat.add_zero, Option.some.injEq, Blk.b.injEq, Blk.i.injEq, Nat.succ_ne_zero, Nat.reduceAdd, and_self]
              · by_cases ha : P = C
                · subst ha
                  simp -implicitDefEqProofs only [evT, implies_true, forall_const, Option.getD, later_normal, aop, aLen, ev, slot, setSlot, putSlot, cv, cvl, aConv, aBin, aInt, aUn, aFn, aEq, Out.and, isBool, isPtr, List.length, IntKind.bits, evs, evo, evps, aCall, aUser, coes, coe, List.append, List.replicate, callOut, rootsL, AV.roots, lendsL, AV.lends, pinsOf, nodup, lendL, lend, closedB, noimmB, AV.noimm, AV.ren, renL, back, Nat.reduceAdd, Nat.reduceSub, Nat.reduceMul, Int.reduceToNat, reduceCtorEq, aLoad, subv, aIndexAddr, aIndex, TD.aggr, guardSlot, aPick, byte, word, aMin, aMax, Ax.Ends, EndsX, Ax.rvals, rone, AV.ids, idsL, newIds, upTo, pinHeap, gOf, ↓reduceIte, List.isEmpty, Int.reducePow, Nat.reducePow, Int.reduceMod, Nat.reduceLeDiff, Int.reduceLE, Int.reduceNe, Int.reduceEq, aBuildSlice, fillB, aAppend, appendB, viewB, Ax.look, Ax.put, Ax.drop, List.drop, List.take, asv, aMake, aCopy, srcB, fillG, viewG, appendG, appendI, fillI, aSlice, bnd, bnds, full3, cut, aFieldAddr, aField, aStore, setB, aBox, aBuild, fillS, allTy, AV.leaves, AV.okv, AV.leaf, one, splice, elemLeaves, Blk.size, Blk.len, Option.isSome, Option.isNone, isBytes, aStr, aNil, aAlloc, aExtract, viewI, Nat.reduceEqDiff, Nat.reduceLT, Nat.reduceBEq, List.contains, List.elem, Blk.closed, closedL, AV.closed, Blk.noimm, ↓gsplit_tt, ↓gsplit_ff, ↓gsplit_tf, ↓gsplit_ft, ↓csplit_t, ↓csplit_f, Ax.idx, AV.lentIds, lentIdsL, dropAll, givenUp, AV.clean, cleanL, Blk.clean, cleanB, quietC, flatTy, coldStr, notMs, eqV, eqF, isStruct, -coe, coe_w, coe_str, coe_agg, coe_tup, coe_sb, coe_si, coe_cp, coe_ms, coe_rf, coe_fn, coe_cons, ty, Sifinds, yesS, ownS, lastS, findIS, risS, hl4, d2, e1, hs1, di, Int.toNat_natCast]
                  repeat (refine And.intro (by omega) ?_)
                  refine ⟨es.length - (i + 1), _, by omega, weak_ren [0, 1, 2, 3, 4, 5] rfl rfl rfl ?_ ?_, i + 1, true, rfl, by omega, .inl rfl, rfl⟩
                  · simp only [SameS, SameH, setSlot, gOf, AV.ren, renL, Blk.ren, Ax.look, Ax.put, reduceCtorEq, true_or, false_or, or_true, or_false, and_true, true_and, AV.w.injEq, Value.int.injEq, Value.bool.injEq, AV.ms.injEq, AV.sb.injEq, AV.str.injEq, ↓reduceIte, Nat.reduceEqDiff, Nat.reduceLT, List.length_append, List.length_cons, List.length_nil, Nat.zero_add, Nat.add_zero, Option.some.injEq, Blk.b.injEq, Blk.i.injEq, Nat.succ_ne_zero, Nat.reduceAdd, and_self]
                  · simp only [SameS, SameH, setSlot, gOf, AV.ren, renL, Blk.ren, Ax.look, Ax.put, reduceCtorEq, true_or, false_or, or_true, or_false, and_true, true_and, AV.w.injEq, Value.int.injEq, Value.bool.injEq, AV.ms.injEq, AV.sb.injEq, AV.str.injEq, ↓reduceIte, Nat.reduceEqDiff, Nat.reduceLT, List.length_append, List.length_cons, List.length_nil, Nat.zero_add, Nat.add_zero, Option.some.injEq, Blk.b.injEq, Blk.i.injEq, Nat.succ_ne_zero, Nat.reduceAdd, and_self]
                · have hne : i ≠ hlvI es off - 1 := by
                    intro h
                    have := hCC hz (by omega)
                    simp only [← h] at this
                    exact ha (by rw [← hP, this])
                  have hb : (decide (P.o = C.o) && (decide (P.t = C.t) && decide (P.a = C.a))) = false := by
                    rw [← Bool.decide_and, ← Bool.decide_and]
                    exact decide_eq_false (fun h => ha (by cases P; cases C; simp at h; simp [h]))
                  rcases and3 hb with ⟨h1, h2, h3⟩ | ⟨h1, h2, h3⟩ | ⟨h1, h2, h3⟩ | ⟨h1, h2, h3⟩ | ⟨h1, h2, h3⟩ | ⟨h1, h2, h3⟩ | ⟨h1, h2, h3⟩
                  all_goals
                    simp -implicitDefEqProofs only [evT, implies_true, forall_const, Option.getD, later_normal, aop, aLen, ev, slot, setSlot, putSlot, cv, cvl, aConv, aBin, aInt, aUn, aFn, aEq, Out.and, isBool, isPtr, List.length, IntKind.bits, evs, evo, evps, aCall, aUser, coes, coe, List.append, List.replicate, callOut, rootsL, AV.roots, lendsL, AV.lends, pinsOf, nodup, lendL, lend, closedB, noimmB, AV.noimm, AV.ren, renL, back, Nat.reduceAdd, Nat.reduceSub, Nat.reduceMul, Int.reduceToNat, reduceCtorEq, aLoad, subv, aIndexAddr, aIndex, TD.aggr, guardSlot, aPick, byte, word, aMin, aMax, Ax.Ends, EndsX, Ax.rvals, rone, AV.ids, idsL, newIds, upTo, pinHeap, gOf, ↓reduceIte, List.isEmpty, Int.reducePow, Nat.reducePow, Int.reduceMod, Nat.reduceLeDiff, Int.reduceLE, Int.reduceNe, Int.reduceEq, aBuildSlice, fillB, aAppend, appendB, viewB, Ax.look, Ax.put, Ax.drop, List.drop, List.take, asv, aMake, aCopy, srcB, fillG, viewG, appendG, appendI, fillI, aSlice, bnd, bnds, full3, cut, aFieldAddr, aField, aStore, setB, aBox, aBuild, fillS, allTy, AV.leaves, AV.okv, AV.leaf, one, splice, elemLeaves, Blk.size, Blk.len, Option.isSome, Option.isNone, isBytes, aStr, aNil, aAlloc, aExtract, viewI, Nat.reduceEqDiff, Nat.reduceLT, Nat.reduceBEq, List.contains, List.elem, Blk.closed, closedL, AV.closed, Blk.noimm, ↓gsplit_tt, ↓gsplit_ff, ↓gsplit_tf, ↓gsplit_ft, ↓csplit_t, ↓csplit_f, Ax.idx, AV.lentIds, lentIdsL, dropAll, givenUp, AV.clean, cleanL, Blk.clean, cleanB, quietC, flatTy, coldStr, notMs, eqV, eqF, isStruct, -coe, coe_w, coe_str, coe_agg, coe_tup, coe_sb, coe_si, coe_cp, coe_ms, coe_rf, coe_fn, coe_cons, ty, Sifinds, yesS, ownS, lastS, findIS, risS, hl4, d2, e1, hs1, h1, h2, h3, Int.toNat_natCast]
                    repeat (refine And.intro (by omega) ?_)
                    refine ⟨es.length - (i + 1), _, by omega, weak_ren [0, 1, 2, 3, 4, 5] rfl rfl rfl ?_ ?_, i + 1, false, rfl, by omega, .inr ⟨rfl, hz, by omega⟩, rfl⟩
                    · simp only [SameS, SameH, setSlot, gOf, AV.ren, renL, Blk.ren, Ax.look, Ax.put, reduceCtorEq, true_or, false_or, or_true, or_false, and_true, true_and, AV.w.injEq, Value.int.injEq, Value.bool.injEq, AV.ms.injEq, AV.sb.injEq, AV.str.injEq, ↓reduceIte, Nat.reduceEqDiff, Nat.reduceLT, List.length_append, List.length_cons, List.length_nil, Nat.zero_add, Nat.add_zero, Option.some.injEq, Blk.b.injEq, Blk.i.injEq, Nat.succ_ne_zero, Nat.reduceAdd, and_self]
                    · simp only [SameS, SameH, setSlot, gOf, AV.ren, renL, Blk.ren, Ax.look, Ax.put, reduceCtorEq, true_or, false_or, or_true, or_false, and_true, true_and, AV.w.injEq, Value.int.injEq, Value.bool.injEq, AV.ms.injEq, AV.sb.injEq, AV.str.injEq, ↓reduceIte, Nat.reduceEqDiff, Nat.reduceLT, List.length_append, List.length_cons, List.length_nil, Nat.zero_add, Nat.add_zero, Option.some.injEq, Blk.b.injEq, Blk.i.injEq, Nat.succ_ne_zero, Nat.reduceAdd, and_self]
            · have d2 : decide ((i : Int) < es.length) = false := decide_eq_false (by omega)
              rcases hI with rfl | ⟨rfl, hz, hiz⟩
              · simp -implicitDefEqProofs only [evT, implies_true, forall_const, Option.getD, later_normal, aop, aLen, ev, slot, setSlot, putSlot, cv, cvl, aConv, aBin, aInt, aUn, aFn, aEq, Out.and, isBool, isPtr, List.length, IntKind.bits, evs, evo, evps, aCall, aUser, coes, coe, List.append, List.replicate, callOut, rootsL, AV.roots, lendsL, AV.lends, pinsOf, nodup, lendL, lend, closedB, noimmB, AV.noimm, AV.ren, renL, back, Nat.reduceAdd, Nat.reduceSub, Nat.reduceMul, Int.reduceToNat, reduceCtorEq, aLoad, subv, aIndexAddr, aIndex, TD.aggr, guardSlot, aPick, byte, word, aMin, aMax, Ax.Ends, EndsX, Ax.rvals, rone, AV.ids, idsL, newIds, upTo, pinHeap, gOf, ↓reduceIte, List.isEmpty, Int.reducePow, Nat.reducePow, Int.reduceMod, Nat.reduceLeDiff, Int.reduceLE, Int.reduceNe, Int.reduceEq, aBuildSlice, fillB, aAppend, appendB, viewB, Ax.look, Ax.put, Ax.drop, List.drop, List.take, asv, aMake, aCopy, srcB, fillG, viewG, appendG, appendI, fillI, aSlice, bnd, bnds, full3, cut, aFieldAddr, aField, aStore, setB, aBox, aBuild, fillS, allTy, AV.leaves, AV.okv, AV.leaf, one, splice, elemLeaves, Blk.size, Blk.len, Option.isSome, Option.isNone, isBytes, aStr, aNil, aAlloc, aExtract, viewI, Nat.reduceEqDiff, Nat.reduceLT, Nat.reduceBEq, List.contains, List.elem, Blk.closed, closedL, AV.closed, Blk.noimm, ↓gsplit_tt, ↓gsplit_ff, ↓gsplit_tf, ↓gsplit_ft, ↓csplit_t, ↓csplit_f, Ax.idx, AV.lentIds, lentIdsL, dropAll, givenUp, AV.clean, cleanL, Blk.clean, cleanB, quietC, flatTy, coldStr, notMs, eqV, eqF, isStruct, -coe, coe_w, coe_str, coe_agg, coe_tup, coe_sb, coe_si, coe_cp, coe_ms, coe_rf, coe_fn, coe_cons, ty, Sifinds, yesS, ownS, lastS, findIS, risS, hl4, d2]
              · omega
    · have d1 : decide ((60 : Int) < es.length) = true := decide_eq_true (by omega)
      simp -implicitDefEqProofs only [evT, implies_true, forall_const, Option.getD, later_normal, aop, aLen, ev, slot, setSlot, putSlot, cv, cvl, aConv, aBin, aInt, aUn, aFn, aEq, Out.and, isBool, isPtr, List.length, IntKind.bits, evs, evo, evps, aCall, aUser, coes, coe, List.append, List.replicate, callOut, rootsL, AV.roots, lendsL, AV.lends, pinsOf, nodup, lendL, lend, closedB, noimmB, AV.noimm, AV.ren, renL, back, Nat.reduceAdd, Nat.reduceSub, Nat.reduceMul, Int.reduceToNat, reduceCtorEq, aLoad, subv, aIndexAddr, aIndex, TD.aggr, guardSlot, aPick, byte, word, aMin, aMax, Ax.Ends, EndsX, Ax.rvals, rone, AV.ids, idsL, newIds, upTo, pinHeap, gOf, ↓reduceIte, List.isEmpty, Int.reducePow, Nat.reducePow, Int.reduceMod, Nat.reduceLeDiff, Int.reduceLE, Int.reduceNe, Int.reduceEq, aBuildSlice, fillB, aAppend, appendB, viewB, Ax.look, Ax.put, Ax.drop, List.drop, List.take, asv, aMake, aCopy, srcB, fillG, viewG, appendG, appendI, fillI, aSlice, bnd, bnds, full3, cut, aFieldAddr, aField, aStore, setB, aBox, aBuild, fillS, allTy, AV.leaves, AV.okv, AV.leaf, one, splice, elemLeaves, Blk.size, Blk.len, Option.isSome, Option.isNone, isBytes, aStr, aNil, aAlloc, aExtract, viewI, Nat.reduceEqDiff, Nat.reduceLT, Nat.reduceBEq, List.contains, List.elem, Blk.closed, closedL, AV.closed, Blk.noimm, ↓gsplit_tt, ↓gsplit_ff, ↓gsplit_tf, ↓gsplit_ft, ↓csplit_t, ↓csplit_f, Ax.idx, AV.lentIds, lentIdsL, dropAll, givenUp, AV.clean, cleanL, Blk.clean, cleanB, quietC, flatTy, coldStr, notMs, eqV, eqF, isStruct, -coe, coe_w, coe_str, coe_agg, coe_tup, coe_sb, coe_si, coe_cp, coe_ms, coe_rf, coe_fn, coe_cons, ty, Sifinds, yesS, ownS, lastS, findIS, risS, hl4, d1]
  · exact hp.elim
end
theorem ifinds_dom {x y z : AV} (hx : Arg ty 6 45 x) (hy : Arg ty 6 3 y) (hz : Arg ty 6 3 z) : (ifindsS [x, y, z] []).p ∧ (ifindsS [x, y, z] []).x = .w (.bool true) := by
  obtain ⟨a, f, rfl, ha⟩ := arg_idx hx
  obtain ⟨n, rfl⟩ := arg_int12 hy
  obtain ⟨m, rfl⟩ := arg_int12 hz
  exact ⟨⟨by rw [List.length_map]; omega, _, rfl⟩, rfl⟩
end Go.Proofs.Ytoagncogikogpaa
