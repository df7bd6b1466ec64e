/- Layer 12: what an index holds; the law that what is found is near. -/
import Derived.Test.YtoagncogikogpaaI7
namespace Go.Proofs.Ytoagncogikogpaa
open Ax
set_option linter.unusedSimpArgs false
set_option linter.unusedVariables false

def upI (V : Nat) (es : List Ent) (k : Nat) : Idx := (es.take k).foldl addI ⟨(V : Int), 0, []⟩
/-- Each entry whose place is a multiple is held, with its own offset and place. -/
theorem up_holds (V : Nat) (hV : 1 ≤ V) (es : List Ent) : ∀ k, k ≤ es.length → k ≤ 4000000000 →
    (upI V es k).v = V ∧ (upI V es k).c = k ∧ (upI V es k).es.length = (k + V - 1) / V ∧
    ∀ (j : Nat) (h : j < (upI V es k).es.length) (h' : j * V < es.length), (upI V es k).es[j].o = es[j * V].o ∧ (upI V es k).es[j].a = es[j * V].a
  | 0, _, _ => by
    have e : upI V es 0 = ⟨(V : Int), 0, []⟩ := rfl
    rw [e]
    refine ⟨rfl, rfl, ?_, fun j h => by simp at h⟩
    rw [Nat.zero_add, Nat.div_eq_of_lt (by omega)]; rfl
  | k + 1, hk, hb => by
    obtain ⟨h1, h2, h3, h4⟩ := up_holds V hV es k (by omega) (by omega)
    have hs : upI V es (k + 1) = addI (upI V es k) es[k] := fold_snoc _ es k (by omega)
    obtain ⟨X, hX⟩ : ∃ X, upI V es k = X := ⟨_, rfl⟩
    rw [hX] at h1 h2 h3 h4 hs
    rw [hs]
    have hc : inc (k : Int) = ((k + 1 : Nat) : Int) := by unfold inc; omega
    have htk : takesI (V : Int) (k : Int) ↔ k % V = 0 := by
      unfold takesI
      rw [Int.tmod_eq_emod_of_nonneg (by omega)]
      constructor
      · rintro (h | h)
        · omega
        · exact_mod_cast h
      · intro h; right; exact_mod_cast h
    by_cases ht : k % V = 0
    · obtain ⟨q, rfl⟩ : ∃ q, k = q * V := ⟨k / V, by have := Nat.div_add_mod k V; rw [ht, Nat.mul_comm] at this; omega⟩
      have hq : (q * V + V - 1) / V = q := by
        rw [show q * V + V - 1 = (V - 1) + q * V by omega, Nat.add_mul_div_right _ _ (by omega), Nat.div_eq_of_lt (by omega)]; omega
      have hq1 : (q * V + 1 + V - 1) / V = q + 1 := by
        rw [show q * V + 1 + V - 1 = (q + 1) * V by rw [Nat.succ_mul]; omega, Nat.mul_div_cancel _ (by omega)]
      have ha : addI X es[q * V] = ⟨(V : Int), inc ((q * V : Nat) : Int), X.es ++ [⟨es[q * V].o, lastT es[q * V].t X.es, es[q * V].a⟩]⟩ := by
        unfold addI; rw [h1, h2, if_pos (htk.2 ht)]
      rw [ha]
      rw [hq] at h3
      refine ⟨rfl, hc, by rw [List.length_append, h3, hq1]; rfl, fun j h h' => ?_⟩
      by_cases hj : j < X.es.length
      · simp only [List.getElem_append_left hj]
        exact h4 j hj h'
      · have : j = q := by rw [List.length_append] at h; simp at h; omega
        subst this
        simp only [List.getElem_append_right (Nat.le_of_eq h3), h3, Nat.sub_self, List.getElem_cons_zero]
        exact ⟨trivial, trivial⟩
    · have ha : addI X es[k] = ⟨(V : Int), inc (k : Int), X.es⟩ := by
        unfold addI; rw [h1, h2, if_neg (fun h => ht (htk.1 h))]
      rw [ha]
      refine ⟨rfl, hc, ?_, h4⟩
      show X.es.length = _
      rw [h3]
      have hd := Nat.div_add_mod k V
      have hml := Nat.mod_lt k (show 0 < V by omega)
      obtain ⟨q, hq⟩ : ∃ q, k / V = q := ⟨_, rfl⟩
      obtain ⟨r, hr⟩ : ∃ r, k % V = r := ⟨_, rfl⟩
      rw [hq, hr] at hd
      rw [hr] at hml ht
      have a1 : (k + V - 1) / V = q + 1 := by
        rw [show k + V - 1 = (r - 1) + (q + 1) * V by rw [Nat.succ_mul, Nat.mul_comm q V]; omega, Nat.add_mul_div_right _ _ (by omega), Nat.div_eq_of_lt (by omega)]; omega
      have a2 : (k + 1 + V - 1) / V = q + 1 := by
        rw [show k + 1 + V - 1 = r + (q + 1) * V by rw [Nat.succ_mul, Nat.mul_comm q V]; omega, Nat.add_mul_div_right _ _ (by omega), Nat.div_eq_of_lt (by omega)]; omega
      rw [a1, a2]
theorem bld_up (V : Nat) (hV : 1 ≤ V) (es : List Ent) : bldI (V : Int) es = upI V es es.length := by
  unfold bldI upI
  rw [List.take_length, show max (V : Int) 1 = V by omega]
theorem near (es : List Ent) (V : Nat) (hV : 1 ≤ V) (hlen : es.length ≤ 60) (hr : risB es = true) (off : Int) :
    (hlvI (bldI V es).es off = 0 ∧ ∀ (k : Nat) (h : k < es.length), off < es[k].o) ∨
    (hlvI (bldI V es).es off ≠ 0 ∧ ∃ (J : Nat) (hJ : J < es.length), (findE (bldI V es).es off).o = es[J].o ∧ (findE (bldI V es).es off).a = es[J].a ∧ es[J].o ≤ off ∧ ∀ (k : Nat) (h : k < es.length), J + V ≤ k → off < es[k].o) := by
  obtain ⟨h1, h2, h3, h4⟩ := up_holds V hV es es.length (Nat.le_refl _) (by omega)
  rw [bld_up V hV es]
  obtain ⟨X, hX⟩ : ∃ X, (upI V es es.length).es = X := ⟨_, rfl⟩
  simp only [hX] at h3 h4 ⊢
  -- the places lie in the list
  have hin : ∀ j, j < X.length → j * V < es.length := by
    intro j hj
    rw [h3] at hj
    have a1 := Nat.div_mul_le_self (es.length + V - 1) V
    have a2 : (j + 1) * V ≤ (es.length + V - 1) / V * V := Nat.mul_le_mul_right V hj
    rw [Nat.succ_mul] at a2
    omega
  have hrX : risB X = true := by
    rw [risB_true]
    intro i hi
    rw [offAt_eq X i (by omega), offAt_eq X (i + 1) hi, (h4 i (by omega) (hin i (by omega))).1, (h4 (i + 1) hi (hin _ hi)).1]
    have := ris_le hr V (i * V) (by have := hin (i + 1) hi; rw [Nat.succ_mul] at this; exact this)
    rw [offAt_eq es _ (hin i (by omega)), offAt_eq es _ (by have := hin (i + 1) hi; rw [Nat.succ_mul] at this; exact this)] at this
    simp only [Nat.succ_mul]
    exact this
  have hle : hlvI X off ≤ X.length := (hlv_le _ _ _ _ (Nat.zero_le _)).2
  obtain ⟨p1, p2⟩ := hlvI_place hrX off
  have above : ∀ j, j < X.length → off < offAt X j → ∀ (k : Nat) (h : k < es.length), j * V ≤ k → off < es[k].o := by
    intro j hj ho k hk hjk
    rw [offAt_eq X j hj, (h4 j hj (hin j hj)).1] at ho
    have := ris_le hr (k - j * V) (j * V) (by omega)
    rw [show j * V + (k - j * V) = k by omega, offAt_eq es _ (hin j hj), offAt_eq es _ hk] at this
    omega
  by_cases h0 : hlvI X off = 0
  · refine .inl ⟨h0, fun k hk => ?_⟩
    have hXp : 0 < X.length := by
      rw [h3]; exact Nat.div_pos (by omega) (by omega)
    exact above 0 hXp (p2 0 (by omega) hXp) k hk (by omega)
  · obtain ⟨j, hj⟩ : ∃ j, hlvI X off = j + 1 := ⟨hlvI X off - 1, by omega⟩
    have hjX : j < X.length := by omega
    have hE : findE X off = X[j] := by unfold findE; rw [if_neg h0, hj]; simp [hjX]
    refine .inr ⟨h0, j * V, hin j hjX, by rw [hE]; exact (h4 j hjX (hin j hjX)).1, by rw [hE]; exact (h4 j hjX (hin j hjX)).2, ?_, fun k hk hk2 => ?_⟩
    · have := p1 j (by omega)
      rw [offAt_eq X j hjX, (h4 j hjX (hin j hjX)).1] at this
      exact this
    · by_cases hj1 : j + 1 < X.length
      · exact above (j + 1) hj1 (p2 (j + 1) (by omega) hj1) k hk (by rw [Nat.succ_mul]; exact hk2)
      · exfalso
        have hjl : X.length = j + 1 := by omega
        rw [h3] at hjl
        have a1 := Nat.lt_div_mul_add (a := es.length + V - 1) (b := V) (by omega)
        rw [hjl, Nat.succ_mul] at a1
        omega
def inearS : FSpec
  | [.sg 3 xs f, .w (.int .u8 ev), .w (.int .i64 off)], [] => ⟨(0 ≤ ev ∧ ev < 256) ∧ xs.length ≤ 9223372036854775807 ∧ ∃ es : List Ent, xs = es.map ent, .w (.bool true), []⟩
  | _, _ => noRes
def Sinear (f : FuncId) : Option FSpec :=
  match f with
  | 23 => some yesS
  | 37 => some risS
  | 32 => some buildI12S
  | 36 => some findIS
  | _ => none
theorem Sinear_ok : Fns Try.prog Sinear := by
  intro f s h
  unfold Sinear at h
  split at h
  · injection h with h; subst h; exact ⟨⟨_, Try.func23, by kernel_rfl, by kernel_rfl⟩, awake12_sound⟩
  · injection h with h; subst h; exact ⟨⟨_, Try.func37, by kernel_rfl, by kernel_rfl⟩, ris_sound⟩
  · injection h with h; subst h; exact ⟨⟨_, Try.func32, by kernel_rfl, by kernel_rfl⟩, buildI12_sound⟩
  · injection h with h; subst h; exact ⟨⟨_, Try.func36, by kernel_rfl, by kernel_rfl⟩, findI_sound⟩
  · cases h
section
set_option maxRecDepth 100000
set_option maxHeartbeats 2000000 in
theorem inear_law : Sound Try.prog 6 inearS := by
  refine fn_sound (S := Sinear) (T := ty) mixed ty_ok Sinear_ok Try.func6 (c := Try.f6.body.getD .skip) (by kernel_rfl) (by kernel_rfl) (fun xs pins hp _ => ?_)
  unfold inearS at hp ⊢
  split at hp
  · rename_i xs f ev off _
    obtain ⟨⟨hv0, hv1⟩, hL, es, rfl⟩ := hp
    rw [List.length_map] at hL
    refine ⟨by simp, ?_⟩
    have hl4 : (es.map ent).length = es.length := by simp
    have hx : ∃ qs : List Ent, es.map ent = qs.map ent := ⟨es, rfl⟩
    have hc1 : coe ty 43 (.sg 3 (es.map ent) f) = .sg 3 (es.map ent) f := by cases es <;> rfl
    obtain ⟨w, rfl⟩ := Int.eq_ofNat_of_zero_le hv0
    obtain ⟨V, hV⟩ : ∃ V, max 1 (w % 8) = V := ⟨_, rfl⟩
    have hV1 : 1 ≤ V := by omega
    have r1 : (w : Int).tmod 8 = ((w % 8 : Nat) : Int) := by rw [Int.tmod_eq_emod_of_nonneg (by omega)]; omega
    have r2 : ((w % 8 : Nat) : Int) % 256 = ((w % 8 : Nat) : Int) := by omega
    have r3 : (((w % 8 : Nat) : Int) + 9223372036854775808) % 18446744073709551616 - 9223372036854775808 = ((w % 8 : Nat) : Int) := by omega
    have em1 : (if (1 : Int) > ((w % 8 : Nat) : Int) then 1 else ((w % 8 : Nat) : Int)) = (V : Int) := by split <;> omega
    have em2 : (if ((w % 8 : Nat) : Int) > 1 then ((w % 8 : Nat) : Int) else 1) = (V : Int) := by split <;> omega
    unfold Try.f6
    by_cases g1 : es.length ≤ 60
    · have d1 : decide ((60 : Int) < es.length) = false := decide_eq_false (by omega)
      have hm3 : es.length ≤ 9223372036854775806 := by omega
      cases hr : risB es with
      | true =>
        simp -implicitDefEqProofs only [evT, implies_true, forall_const, Option.getD, later_normal, aop, aLen, ev, slot, setSlot, putSlot, cv, cvl, aConv, aBin, aInt, aUn, aFn, aEq, Out.and, isBool, isPtr, List.length, IntKind.bits, evs, evo, evps, aCall, aUser, coes, coe, List.append, List.replicate, callOut, rootsL, AV.roots, lendsL, AV.lends, pinsOf, nodup, lendL, lend, closedB, noimmB, AV.noimm, AV.ren, renL, back, Nat.reduceAdd, Nat.reduceSub, Nat.reduceMul, Int.reduceToNat, reduceCtorEq, aLoad, subv, aIndexAddr, aIndex, TD.aggr, guardSlot, aPick, byte, word, aMin, aMax, Ax.Ends, EndsX, Ax.rvals, rone, AV.ids, idsL, newIds, upTo, pinHeap, gOf, ↓reduceIte, List.isEmpty, Int.reducePow, Nat.reducePow, Int.reduceMod, Nat.reduceLeDiff, Int.reduceLE, Int.reduceNe, Int.reduceEq, aBuildSlice, fillB, aAppend, appendB, viewB, Ax.look, Ax.put, Ax.drop, List.drop, List.take, asv, aMake, aCopy, srcB, fillG, viewG, appendG, appendI, fillI, aSlice, bnd, bnds, full3, cut, aFieldAddr, aField, aStore, setB, aBox, aBuild, fillS, allTy, AV.leaves, AV.okv, AV.leaf, one, splice, elemLeaves, Blk.size, Blk.len, Option.isSome, Option.isNone, isBytes, aStr, aNil, aAlloc, aExtract, viewI, Nat.reduceEqDiff, Nat.reduceLT, Nat.reduceBEq, List.contains, List.elem, Blk.closed, closedL, AV.closed, Blk.noimm, ↓gsplit_tt, ↓gsplit_ff, ↓gsplit_tf, ↓gsplit_ft, ↓csplit_t, ↓csplit_f, Ax.idx, AV.lentIds, lentIdsL, dropAll, givenUp, AV.clean, cleanL, Blk.clean, cleanB, quietC, flatTy, coldStr, notMs, eqV, eqF, isStruct, -coe, coe_w, coe_str, coe_agg, coe_tup, coe_sb, coe_si, coe_cp, coe_ms, coe_rf, coe_fn, coe_cons, ty, Sinear, yesS, risS, buildI12S, findIS, hc1, hl4, hm3, hx, map_uent, d1, hr, r1, r2, r3, em1, em2]
        refine awp_loop ⟨fun m σ => ∃ (i : Nat) (L : Int), m = es.length - i ∧ i ≤ es.length ∧
            ((L = -1 ∧ ∀ (k : Nat) (h : k < es.length), k < i → off < es[k].o) ∨ (∃ (l : Nat) (hl : l < es.length), l < i ∧ L = l ∧ es[l].o ≤ off ∧ ∀ (k : Nat) (h : k < es.length), l < k → k < i → off < es[k].o)) ∧
            σ = ⟨[.sg 3 (es.map ent) f, .w (.int .u8 w), .w (.int .i64 off), .junk, .junk, .junk, .w (.bool false), .w (.int .i64 V), .ms 4 3 0 i, .w (.int .i64 L), .w (.int .i64 i), .junk, .junk, .junk, .junk, .junk, .junk, .junk, .junk, .junk, .junk, .junk, .junk, .junk, .junk, .junk, .junk, .junk, .junk, .junk, .junk, .junk, .junk, .junk, .junk, .junk, .junk, .junk, .junk, .junk, .junk, .junk, .junk, .junk, .junk, .junk, .junk, .junk, .junk, .junk, .junk, .junk, .junk, .junk, .junk, .junk, .junk, .junk, .junk, .junk, .junk, .junk, .junk, .junk, .junk, .junk, .junk, .junk, .junk, .junk, .junk, .junk, .junk, .junk, .junk, .junk, .junk, .junk, .junk, .junk, .junk, .junk, .junk, .junk, .junk, .junk, .junk, .junk, .junk, .junk, .junk, .junk, .junk, .junk, .junk, .junk, .junk, .junk, .junk, .junk, .junk], [(4, .g 3 ((es.take i).map ent))], 5⟩, ?_, ?_⟩
        · refine ⟨_, _, (weak_nil 8 3 (.g 3 []) ⟨by decide, rfl⟩ (by exact trivial)).trans (weak_ren [0, 1, 2, 3, 140] rfl rfl rfl ?_ ?_), 0, -1, rfl, by omega, .inl ⟨rfl, fun k h h0 => by omega⟩, rfl⟩
          · simp only [SameS, SameH, setSlot, gOf, AV.ren, renL, Blk.ren, Ax.look, Ax.put, reduceCtorEq, true_or, false_or, or_true, or_false, and_true, true_and, AV.w.injEq, Value.int.injEq, Value.bool.injEq, AV.ms.injEq, AV.sb.injEq, AV.str.injEq, ↓reduceIte, Nat.reduceEqDiff, Nat.reduceLT, List.length_append, List.length_cons, List.length_nil, Nat.zero_add, Nat.add_zero, Option.some.injEq, Blk.b.injEq, Blk.i.injEq, Nat.succ_ne_zero, Nat.reduceAdd, and_self]; try simp; try rfl
          · simp only [SameS, SameH, setSlot, gOf, AV.ren, renL, Blk.ren, Ax.look, Ax.put, reduceCtorEq, true_or, false_or, or_true, or_false, and_true, true_and, AV.w.injEq, Value.int.injEq, Value.bool.injEq, AV.ms.injEq, AV.sb.injEq, AV.str.injEq, ↓reduceIte, Nat.reduceEqDiff, Nat.reduceLT, List.length_append, List.length_cons, List.length_nil, Nat.zero_add, Nat.add_zero, Option.some.injEq, Blk.b.injEq, Blk.i.injEq, Nat.succ_ne_zero, Nat.reduceAdd, and_self]; try simp; try rfl
        · rintro m σ ⟨i, L, rfl, hi, hL2, rfl⟩
          by_cases hil : i < es.length
          · have d2 : decide ((i : Int) < es.length) = true := decide_eq_true (by omega)
            have e1 : ((i : Int) + 1 + 9223372036854775808) % 18446744073709551616 - 9223372036854775808 = ((i + 1 : Nat) : Int) := by omega
            have hs1 := slot_ent es i hil
            have htk : (es.take (i + 1)).map ent = (es.take i).map ent ++ [ent es[i]] := by
              rw [List.take_add_one, List.getElem?_eq_getElem hil]; simp only [Option.toList, List.map_append, List.map_cons, List.map_nil]
            have ht1 : i + 1 ≤ top := by unfold top; omega
            have hlT : ((es.take i).map ent).length = i := by simp; omega
            obtain ⟨P, hP⟩ : ∃ P, es[i] = P := ⟨_, rfl⟩
            rw [hP] at hs1 htk
            have rn : ∀ g, renL g ((es.take i).map ent ++ [ent P]) = (es.take i).map ent ++ [ent P] := fun g => by have := ren_ent g (es.take (i + 1)); rw [htk] at this; exact this
            simp only [ent] at hs1 rn htk
            cases dP : decide (P.o ≤ off)
            all_goals
              simp -implicitDefEqProofs only [evT, implies_true, forall_const, Option.getD, later_normal, aop, aLen, ev, slot, setSlot, putSlot, cv, cvl, aConv, aBin, aInt, aUn, aFn, aEq, Out.and, isBool, isPtr, List.length, IntKind.bits, evs, evo, evps, aCall, aUser, coes, coe, List.append, List.replicate, callOut, rootsL, AV.roots, lendsL, AV.lends, pinsOf, nodup, lendL, lend, closedB, noimmB, AV.noimm, AV.ren, renL, back, Nat.reduceAdd, Nat.reduceSub, Nat.reduceMul, Int.reduceToNat, reduceCtorEq, aLoad, subv, aIndexAddr, aIndex, TD.aggr, guardSlot, aPick, byte, word, aMin, aMax, Ax.Ends, EndsX, Ax.rvals, rone, AV.ids, idsL, newIds, upTo, pinHeap, gOf, ↓reduceIte, List.isEmpty, Int.reducePow, Nat.reducePow, Int.reduceMod, Nat.reduceLeDiff, Int.reduceLE, Int.reduceNe, Int.reduceEq, aBuildSlice, fillB, aAppend, appendB, viewB, Ax.look, Ax.put, Ax.drop, List.drop, List.take, asv, aMake, aCopy, srcB, fillG, viewG, appendG, appendI, fillI, aSlice, bnd, bnds, full3, cut, aFieldAddr, aField, aStore, setB, aBox, aBuild, fillS, allTy, AV.leaves, AV.okv, AV.leaf, one, splice, elemLeaves, Blk.size, Blk.len, Option.isSome, Option.isNone, isBytes, aStr, aNil, aAlloc, aExtract, viewI, Nat.reduceEqDiff, Nat.reduceLT, Nat.reduceBEq, List.contains, List.elem, Blk.closed, closedL, AV.closed, Blk.noimm, ↓gsplit_tt, ↓gsplit_ff, ↓gsplit_tf, ↓gsplit_ft, ↓csplit_t, ↓csplit_f, Ax.idx, AV.lentIds, lentIdsL, dropAll, givenUp, AV.clean, cleanL, Blk.clean, cleanB, quietC, flatTy, coldStr, notMs, eqV, eqF, isStruct, -coe, coe_w, coe_str, coe_agg, coe_tup, coe_sb, coe_si, coe_cp, coe_ms, coe_rf, coe_fn, coe_cons, ty, Sinear, yesS, risS, buildI12S, findIS, hl4, hlT, d2, e1, hs1, dP, Int.toNat_natCast]
              repeat (refine And.intro (by omega) ?_)
            · refine ⟨es.length - (i + 1), _, by omega, weak_ren [0, 1, 2, 3, 85] rfl rfl rfl ?_ ?_, i + 1, L, rfl, by omega, ?_, rfl⟩
              rotate_left 2
              · have hPo := of_decide_eq_false dP
                rcases hL2 with ⟨rfl, hk⟩ | ⟨l, hl, hli, rfl, hlo, hk⟩
                · refine .inl ⟨rfl, fun k h h2 => ?_⟩
                  by_cases hki : k = i
                  · subst hki; rw [hP]; omega
                  · exact hk k h (by omega)
                · refine .inr ⟨l, hl, by omega, rfl, hlo, fun k h h1 h2 => ?_⟩
                  by_cases hki : k = i
                  · subst hki; rw [hP]; omega
                  · exact hk k h h1 (by omega)
              · simp only [SameS, SameH, setSlot, gOf, AV.ren, renL, Blk.ren, Ax.look, Ax.put, reduceCtorEq, true_or, false_or, or_true, or_false, and_true, true_and, AV.w.injEq, Value.int.injEq, Value.bool.injEq, AV.ms.injEq, AV.sb.injEq, AV.str.injEq, ↓reduceIte, Nat.reduceEqDiff, Nat.reduceLT, List.length_append, List.length_cons, List.length_nil, Nat.zero_add, Nat.add_zero, Option.some.injEq, Blk.b.injEq, Blk.i.injEq, Nat.succ_ne_zero, Nat.reduceAdd, and_self]; try simp
              · simp only [SameS, SameH, setSlot, gOf, AV.ren, renL, Blk.ren, Ax.look, Ax.put, reduceCtorEq, true_or, false_or, or_true, or_false, and_true, true_and, AV.w.injEq, Value.int.injEq, Value.bool.injEq, AV.ms.injEq, AV.sb.injEq, AV.str.injEq, ↓reduceIte, Nat.reduceEqDiff, Nat.reduceLT, List.length_append, List.length_cons, List.length_nil, Nat.zero_add, Nat.add_zero, Option.some.injEq, Blk.b.injEq, Blk.i.injEq, Nat.succ_ne_zero, Nat.reduceAdd, and_self, htk, rn]
            · refine ⟨es.length - (i + 1), _, by omega, weak_ren [0, 1, 2, 3, 85] rfl rfl rfl ?_ ?_, i + 1, (i : Int), rfl, by omega, ?_, rfl⟩
              rotate_left 2
              · have hPo := of_decide_eq_true dP
                exact .inr ⟨i, hil, by omega, rfl, by rw [hP]; exact hPo, fun k h h1 h2 => by omega⟩
              · simp only [SameS, SameH, setSlot, gOf, AV.ren, renL, Blk.ren, Ax.look, Ax.put, reduceCtorEq, true_or, false_or, or_true, or_false, and_true, true_and, AV.w.injEq, Value.int.injEq, Value.bool.injEq, AV.ms.injEq, AV.sb.injEq, AV.str.injEq, ↓reduceIte, Nat.reduceEqDiff, Nat.reduceLT, List.length_append, List.length_cons, List.length_nil, Nat.zero_add, Nat.add_zero, Option.some.injEq, Blk.b.injEq, Blk.i.injEq, Nat.succ_ne_zero, Nat.reduceAdd, and_self]; try simp
              · simp only [SameS, SameH, setSlot, gOf, AV.ren, renL, Blk.ren, Ax.look, Ax.put, reduceCtorEq, true_or, false_or, or_true, or_false, and_true, true_and, AV.w.injEq, Value.int.injEq, Value.bool.injEq, AV.ms.injEq, AV.sb.injEq, AV.str.injEq, ↓reduceIte, Nat.reduceEqDiff, Nat.reduceLT, List.length_append, List.length_cons, List.length_nil, Nat.zero_add, Nat.add_zero, Option.some.injEq, Blk.b.injEq, Blk.i.injEq, Nat.succ_ne_zero, Nat.reduceAdd, and_self, htk, rn]
          · have d2 : decide ((i : Int) < es.length) = false := decide_eq_false (by omega)
            have hie : i = es.length := by omega
            subst hie
            have htk : es.take es.length = es := List.take_length
            have htk2 : (es.map ent).take es.length = es.map ent := List.take_of_length_le (by omega)
            have hm1 : es.length ≤ 100000 := by omega
            have hcl : ∀ y ∈ es.map ent, y.closed = true := by
              intro y hy
              obtain ⟨e, _, rfl⟩ := List.mem_map.1 hy
              rfl
            have dm1 : decide ((-1 : Int) < 0) = true := rfl
            have hnr := near es V hV1 g1 hr off
            have hXl : (bldI (V : Int) es).es.length ≤ 1000000 := by
              have := fold_len es ⟨max (V : Int) 1, 0, []⟩
              unfold bldI; simp at this; omega
            obtain ⟨X, hX⟩ : ∃ X, bldI (V : Int) es = X := ⟨_, rfl⟩
            rw [hX] at hnr hXl
            have hXl2 : (X.es.map ent).length = X.es.length := by simp
            have hx2 : ∃ qs : List Ent, X.es.map ent = qs.map ent := ⟨X.es, rfl⟩
            obtain ⟨C, hC⟩ : ∃ C, findE X.es off = C := ⟨_, rfl⟩
            rw [hC] at hnr
            rcases hnr with ⟨h0, hk⟩ | ⟨h0, J, hJ, hJo, hJa, hJle, hk⟩
            · have dh : decide (hlvI X.es off = 0) = true := decide_eq_true h0
              have hLm : L = -1 := by
                rcases hL2 with ⟨rfl, _⟩ | ⟨l, hl, hli, rfl, hlo, _⟩
                · rfl
                · have := hk l hl; omega
              subst hLm
              simp -implicitDefEqProofs only [evT, implies_true, forall_const, Option.getD, later_normal, aop, aLen, ev, slot, setSlot, putSlot, cv, cvl, aConv, aBin, aInt, aUn, aFn, aEq, Out.and, isBool, isPtr, List.length, IntKind.bits, evs, evo, evps, aCall, aUser, coes, coe, List.append, List.replicate, callOut, rootsL, AV.roots, lendsL, AV.lends, pinsOf, nodup, lendL, lend, closedB, noimmB, AV.noimm, AV.ren, renL, back, Nat.reduceAdd, Nat.reduceSub, Nat.reduceMul, Int.reduceToNat, reduceCtorEq, aLoad, subv, aIndexAddr, aIndex, TD.aggr, guardSlot, aPick, byte, word, aMin, aMax, Ax.Ends, EndsX, Ax.rvals, rone, AV.ids, idsL, newIds, upTo, pinHeap, gOf, ↓reduceIte, List.isEmpty, Int.reducePow, Nat.reducePow, Int.reduceMod, Nat.reduceLeDiff, Int.reduceLE, Int.reduceNe, Int.reduceEq, aBuildSlice, fillB, aAppend, appendB, viewB, Ax.look, Ax.put, Ax.drop, List.drop, List.take, asv, aMake, aCopy, srcB, fillG, viewG, appendG, appendI, fillI, aSlice, bnd, bnds, full3, cut, aFieldAddr, aField, aStore, setB, aBox, aBuild, fillS, allTy, AV.leaves, AV.okv, AV.leaf, one, splice, elemLeaves, Blk.size, Blk.len, Option.isSome, Option.isNone, isBytes, aStr, aNil, aAlloc, aExtract, viewI, Nat.reduceEqDiff, Nat.reduceLT, Nat.reduceBEq, List.contains, List.elem, Blk.closed, closedL, AV.closed, Blk.noimm, ↓gsplit_tt, ↓gsplit_ff, ↓gsplit_tf, ↓gsplit_ft, ↓csplit_t, ↓csplit_f, Ax.idx, AV.lentIds, lentIdsL, dropAll, givenUp, AV.clean, cleanL, Blk.clean, cleanB, quietC, flatTy, coldStr, notMs, eqV, eqF, isStruct, -coe, coe_w, coe_str, coe_agg, coe_tup, coe_sb, coe_si, coe_cp, coe_ms, coe_rf, coe_fn, coe_cons, ty, Sinear, yesS, risS, buildI12S, findIS, hl4, d2, htk, htk2, hm1, closed_ent, dm1, hx, map_uent, hX, iav, hXl2, hXl, hx2, hC, dh, ent, fillS, Bool.not_true]
              exact hcl
            · have dh : decide (hlvI X.es off = 0) = false := decide_eq_false h0
              obtain ⟨l, hl, rfl, hJl, hlJ⟩ : ∃ l : Nat, l < es.length ∧ L = l ∧ J ≤ l ∧ l < J + V := by
                rcases hL2 with ⟨rfl, hk2⟩ | ⟨l, hl, hli, rfl, hlo, hk2⟩
                · have := hk2 J hJ hJ; omega
                · refine ⟨l, hl, rfl, ?_, ?_⟩
                  · by_cases hq : J ≤ l
                    · exact hq
                    · have := hk2 J hJ (by omega) hJ; omega
                  · by_cases hq : l < J + V
                    · exact hq
                    · have := hk l hl (by omega); omega
              have e3 : ((l : Int) - V + 9223372036854775808) % 18446744073709551616 - 9223372036854775808 = (l : Int) - V := by omega
              have e4 : ((l : Int) - V + 1 + 9223372036854775808) % 18446744073709551616 - 9223372036854775808 = (l : Int) - V + 1 := by omega
              have e5 : (if (l : Int) - V + 1 > 0 then (l : Int) - V + 1 else 0) = (((l + 1 - V : Nat)) : Int) := by split <;> omega
              simp -implicitDefEqProofs only [evT, implies_true, forall_const, Option.getD, later_normal, aop, aLen, ev, slot, setSlot, putSlot, cv, cvl, aConv, aBin, aInt, aUn, aFn, aEq, Out.and, isBool, isPtr, List.length, IntKind.bits, evs, evo, evps, aCall, aUser, coes, coe, List.append, List.replicate, callOut, rootsL, AV.roots, lendsL, AV.lends, pinsOf, nodup, lendL, lend, closedB, noimmB, AV.noimm, AV.ren, renL, back, Nat.reduceAdd, Nat.reduceSub, Nat.reduceMul, Int.reduceToNat, reduceCtorEq, aLoad, subv, aIndexAddr, aIndex, TD.aggr, guardSlot, aPick, byte, word, aMin, aMax, Ax.Ends, EndsX, Ax.rvals, rone, AV.ids, idsL, newIds, upTo, pinHeap, gOf, ↓reduceIte, List.isEmpty, Int.reducePow, Nat.reducePow, Int.reduceMod, Nat.reduceLeDiff, Int.reduceLE, Int.reduceNe, Int.reduceEq, aBuildSlice, fillB, aAppend, appendB, viewB, Ax.look, Ax.put, Ax.drop, List.drop, List.take, asv, aMake, aCopy, srcB, fillG, viewG, appendG, appendI, fillI, aSlice, bnd, bnds, full3, cut, aFieldAddr, aField, aStore, setB, aBox, aBuild, fillS, allTy, AV.leaves, AV.okv, AV.leaf, one, splice, elemLeaves, Blk.size, Blk.len, Option.isSome, Option.isNone, isBytes, aStr, aNil, aAlloc, aExtract, viewI, Nat.reduceEqDiff, Nat.reduceLT, Nat.reduceBEq, List.contains, List.elem, Blk.closed, closedL, AV.closed, Blk.noimm, ↓gsplit_tt, ↓gsplit_ff, ↓gsplit_tf, ↓gsplit_ft, ↓csplit_t, ↓csplit_f, Ax.idx, AV.lentIds, lentIdsL, dropAll, givenUp, AV.clean, cleanL, Blk.clean, cleanB, quietC, flatTy, coldStr, notMs, eqV, eqF, isStruct, -coe, coe_w, coe_str, coe_agg, coe_tup, coe_sb, coe_si, coe_cp, coe_ms, coe_rf, coe_fn, coe_cons, ty, Sinear, yesS, risS, buildI12S, findIS, hl4, d2, htk, htk2, hm1, closed_ent, dm1, hx, map_uent, hX, iav, hXl2, hXl, hx2, hC, dh, ent, fillS, Bool.not_false, e3, e4, e5]
              refine ⟨hcl, awp_loop ⟨fun m σ => ∃ (i : Nat), m = es.length - i ∧ i ≤ J ∧
                  σ = ⟨[.sg 3 (es.map ent) f, .w (.int .u8 w), .w (.int .i64 off), .junk, .junk, .junk, .w (.bool false), .w (.int .i64 V), .junk, .w (.int .i64 l), .junk, .rf 4 3 0 0, .junk, .w (.int .i64 i), .junk, .junk, .junk, .junk, .junk, .junk, .junk, .junk, .junk, .junk, .junk, .junk, .junk, .junk, .junk, .junk, .junk, .junk, .junk, .junk, .junk, .junk, .junk, .junk, .junk, .junk, .junk, .junk, .junk, .junk, .junk, .junk, .junk, .junk, .junk, .junk, .junk, .junk, .junk, .junk, .junk, .junk, .junk, .junk, .junk, .junk, .junk, .junk, .junk, .junk, .junk, .junk, .junk, .junk, .junk, .junk, .junk, .junk, .junk, .junk, .junk, .junk, .junk, .junk, .junk, .junk, .junk, .junk, .junk, .junk, .junk, .junk, .junk, .junk, .junk, .junk, .junk, .junk, .junk, .junk, .junk, .junk, .junk, .junk, .junk, .junk, .junk], [(4, .g 3 [.agg [.w (.int .i64 C.o), .w (.int .i64 C.t), .w (.int .i64 C.a)]])], 5⟩, ?_, ?_⟩⟩
              · refine ⟨_, _, weak_ren [0, 1, 2, 3, 101] rfl rfl rfl ?_ ?_, l + 1 - V, rfl, by omega, rfl⟩
                · simp only [SameS, SameH, setSlot, gOf, AV.ren, renL, Blk.ren, Ax.look, Ax.put, reduceCtorEq, true_or, false_or, or_true, or_false, and_true, true_and, AV.w.injEq, Value.int.injEq, Value.bool.injEq, AV.ms.injEq, AV.sb.injEq, AV.str.injEq, ↓reduceIte, Nat.reduceEqDiff, Nat.reduceLT, List.length_append, List.length_cons, List.length_nil, Nat.zero_add, Nat.add_zero, Option.some.injEq, Blk.b.injEq, Blk.i.injEq, Nat.succ_ne_zero, Nat.reduceAdd, and_self]; try simp
                · simp only [SameS, SameH, setSlot, gOf, AV.ren, renL, Blk.ren, Ax.look, Ax.put, reduceCtorEq, true_or, false_or, or_true, or_false, and_true, true_and, AV.w.injEq, Value.int.injEq, Value.bool.injEq, AV.ms.injEq, AV.sb.injEq, AV.str.injEq, ↓reduceIte, Nat.reduceEqDiff, Nat.reduceLT, List.length_append, List.length_cons, List.length_nil, Nat.zero_add, Nat.add_zero, Option.some.injEq, Blk.b.injEq, Blk.i.injEq, Nat.succ_ne_zero, Nat.reduceAdd, and_self]
              · rintro m σ ⟨i, rfl, hiJ, rfl⟩
                have d3 : decide ((i : Int) ≤ l) = true := decide_eq_true (by omega)
                have hil : i < es.length := by omega
                have e1 : ((i : Int) + 1 + 9223372036854775808) % 18446744073709551616 - 9223372036854775808 = ((i + 1 : Nat) : Int) := by omega
                have hs1 := slot_ent es i hil
                obtain ⟨P, hP⟩ : ∃ P, es[i] = P := ⟨_, rfl⟩
                rw [hP] at hs1
                simp only [ent] at hs1
                cases b1 : decide (P.o = C.o) <;> cases b2 : decide (P.a = C.a) <;> cases b3 : decide (P.o ≤ off)
                all_goals
                  simp -implicitDefEqProofs only [evT, implies_true, forall_const, Option.getD, later_normal, aop, aLen, ev, slot, setSlot, putSlot, cv, cvl, aConv, aBin, aInt, aUn, aFn, aEq, Out.and, isBool, isPtr, List.length, IntKind.bits, evs, evo, evps, aCall, aUser, coes, coe, List.append, List.replicate, callOut, rootsL, AV.roots, lendsL, AV.lends, pinsOf, nodup, lendL, lend, closedB, noimmB, AV.noimm, AV.ren, renL, back, Nat.reduceAdd, Nat.reduceSub, Nat.reduceMul, Int.reduceToNat, reduceCtorEq, aLoad, subv, aIndexAddr, aIndex, TD.aggr, guardSlot, aPick, byte, word, aMin, aMax, Ax.Ends, EndsX, Ax.rvals, rone, AV.ids, idsL, newIds, upTo, pinHeap, gOf, ↓reduceIte, List.isEmpty, Int.reducePow, Nat.reducePow, Int.reduceMod, Nat.reduceLeDiff, Int.reduceLE, Int.reduceNe, Int.reduceEq, aBuildSlice, fillB, aAppend, appendB, viewB, Ax.look, Ax.put, Ax.drop, List.drop, List.take, asv, aMake, aCopy, srcB, fillG, viewG, appendG, appendI, fillI, aSlice, bnd, bnds, full3, cut, aFieldAddr, aField, aStore, setB, aBox, aBuild, fillS, allTy, AV.leaves, AV.okv, AV.leaf, one, splice, elemLeaves, Blk.size, Blk.len, Option.isSome, Option.isNone, isBytes, aStr, aNil, aAlloc, aExtract, viewI, Nat.reduceEqDiff, Nat.reduceLT, Nat.reduceBEq, List.contains, List.elem, Blk.closed, closedL, AV.closed, Blk.noimm, ↓gsplit_tt, ↓gsplit_ff, ↓gsplit_tf, ↓gsplit_ft, ↓csplit_t, ↓csplit_f, Ax.idx, AV.lentIds, lentIdsL, dropAll, givenUp, AV.clean, cleanL, Blk.clean, cleanB, quietC, flatTy, coldStr, notMs, eqV, eqF, isStruct, -coe, coe_w, coe_str, coe_agg, coe_tup, coe_sb, coe_si, coe_cp, coe_ms, coe_rf, coe_fn, coe_cons, ty, Sinear, yesS, risS, buildI12S, findIS, hl4, d3, e1, hs1, b1, b2, b3, Int.toNat_natCast]
                  repeat (refine And.intro (by omega) ?_)
                  try (refine ⟨es.length - (i + 1), _, by omega, weak_ren [0, 1, 2, 3, 4] rfl rfl rfl ?_ ?_, i + 1, rfl, ?_, rfl⟩
                       rotate_left 2
                       · have hne : i ≠ J := by
                           rintro rfl
                           rw [hP] at hJo hJa hJle
                           simp_all
                         omega
                       · simp only [SameS, SameH, setSlot, gOf, AV.ren, renL, Blk.ren, Ax.look, Ax.put, reduceCtorEq, true_or, false_or, or_true, or_false, and_true, true_and, AV.w.injEq, Value.int.injEq, Value.bool.injEq, AV.ms.injEq, AV.sb.injEq, AV.str.injEq, ↓reduceIte, Nat.reduceEqDiff, Nat.reduceLT, List.length_append, List.length_cons, List.length_nil, Nat.zero_add, Nat.add_zero, Option.some.injEq, Blk.b.injEq, Blk.i.injEq, Nat.succ_ne_zero, Nat.reduceAdd, and_self]
                       · simp only [SameS, SameH, setSlot, gOf, AV.ren, renL, Blk.ren, Ax.look, Ax.put, reduceCtorEq, true_or, false_or, or_true, or_false, and_true, true_and, AV.w.injEq, Value.int.injEq, Value.bool.injEq, AV.ms.injEq, AV.sb.injEq, AV.str.injEq, ↓reduceIte, Nat.reduceEqDiff, Nat.reduceLT, List.length_append, List.length_cons, List.length_nil, Nat.zero_add, Nat.add_zero, Option.some.injEq, Blk.b.injEq, Blk.i.injEq, Nat.succ_ne_zero, Nat.reduceAdd, and_self])
                  try omega
      | false => simp -implicitDefEqProofs only [evT, implies_true, forall_const, Option.getD, later_normal, aop, aLen, ev, slot, setSlot, putSlot, cv, cvl, aConv, aBin, aInt, aUn, aFn, aEq, Out.and, isBool, isPtr, List.length, IntKind.bits, evs, evo, evps, aCall, aUser, coes, coe, List.append, List.replicate, callOut, rootsL, AV.roots, lendsL, AV.lends, pinsOf, nodup, lendL, lend, closedB, noimmB, AV.noimm, AV.ren, renL, back, Nat.reduceAdd, Nat.reduceSub, Nat.reduceMul, Int.reduceToNat, reduceCtorEq, aLoad, subv, aIndexAddr, aIndex, TD.aggr, guardSlot, aPick, byte, word, aMin, aMax, Ax.Ends, EndsX, Ax.rvals, rone, AV.ids, idsL, newIds, upTo, pinHeap, gOf, ↓reduceIte, List.isEmpty, Int.reducePow, Nat.reducePow, Int.reduceMod, Nat.reduceLeDiff, Int.reduceLE, Int.reduceNe, Int.reduceEq, aBuildSlice, fillB, aAppend, appendB, viewB, Ax.look, Ax.put, Ax.drop, List.drop, List.take, asv, aMake, aCopy, srcB, fillG, viewG, appendG, appendI, fillI, aSlice, bnd, bnds, full3, cut, aFieldAddr, aField, aStore, setB, aBox, aBuild, fillS, allTy, AV.leaves, AV.okv, AV.leaf, one, splice, elemLeaves, Blk.size, Blk.len, Option.isSome, Option.isNone, isBytes, aStr, aNil, aAlloc, aExtract, viewI, Nat.reduceEqDiff, Nat.reduceLT, Nat.reduceBEq, List.contains, List.elem, Blk.closed, closedL, AV.closed, Blk.noimm, ↓gsplit_tt, ↓gsplit_ff, ↓gsplit_tf, ↓gsplit_ft, ↓csplit_t, ↓csplit_f, Ax.idx, AV.lentIds, lentIdsL, dropAll, givenUp, AV.clean, cleanL, Blk.clean, cleanB, quietC, flatTy, coldStr, notMs, eqV, eqF, isStruct, -coe, coe_w, coe_str, coe_agg, coe_tup, coe_sb, coe_si, coe_cp, coe_ms, coe_rf, coe_fn, coe_cons, ty, Sinear, yesS, risS, buildI12S, findIS, hc1, hl4, hm3, hx, map_uent, d1, hr]
    · have d1 : decide ((60 : Int) < es.length) = true := decide_eq_true (by omega)
      simp -implicitDefEqProofs only [evT, implies_true, forall_const, Option.getD, later_normal, aop, aLen, ev, slot, setSlot, putSlot, cv, cvl, aConv, aBin, aInt, aUn, aFn, aEq, Out.and, isBool, isPtr, List.length, IntKind.bits, evs, evo, evps, aCall, aUser, coes, coe, List.append, List.replicate, callOut, rootsL, AV.roots, lendsL, AV.lends, pinsOf, nodup, lendL, lend, closedB, noimmB, AV.noimm, AV.ren, renL, back, Nat.reduceAdd, Nat.reduceSub, Nat.reduceMul, Int.reduceToNat, reduceCtorEq, aLoad, subv, aIndexAddr, aIndex, TD.aggr, guardSlot, aPick, byte, word, aMin, aMax, Ax.Ends, EndsX, Ax.rvals, rone, AV.ids, idsL, newIds, upTo, pinHeap, gOf, ↓reduceIte, List.isEmpty, Int.reducePow, Nat.reducePow, Int.reduceMod, Nat.reduceLeDiff, Int.reduceLE, Int.reduceNe, Int.reduceEq, aBuildSlice, fillB, aAppend, appendB, viewB, Ax.look, Ax.put, Ax.drop, List.drop, List.take, asv, aMake, aCopy, srcB, fillG, viewG, appendG, appendI, fillI, aSlice, bnd, bnds, full3, cut, aFieldAddr, aField, aStore, setB, aBox, aBuild, fillS, allTy, AV.leaves, AV.okv, AV.leaf, one, splice, elemLeaves, Blk.size, Blk.len, Option.isSome, Option.isNone, isBytes, aStr, aNil, aAlloc, aExtract, viewI, Nat.reduceEqDiff, Nat.reduceLT, Nat.reduceBEq, List.contains, List.elem, Blk.closed, closedL, AV.closed, Blk.noimm, ↓gsplit_tt, ↓gsplit_ff, ↓gsplit_tf, ↓gsplit_ft, ↓csplit_t, ↓csplit_f, Ax.idx, AV.lentIds, lentIdsL, dropAll, givenUp, AV.clean, cleanL, Blk.clean, cleanB, quietC, flatTy, coldStr, notMs, eqV, eqF, isStruct, -coe, coe_w, coe_str, coe_agg, coe_tup, coe_sb, coe_si, coe_cp, coe_ms, coe_rf, coe_fn, coe_cons, ty, Sinear, yesS, risS, buildI12S, findIS, hl4, d1]
  · exact hp.elim
end
theorem arg_ents {x : AV} (h : Arg ty 6 43 x) : ∃ (es : List Ent) (f : Bool), x = .sg 3 (es.map ent) f ∧ es.length ≤ 9223372036854775807 := by
  obtain ⟨i, ls, hi, hs, rfl⟩ := h
  simp only [ty] at hi
  injection hi with hi
  subst hi
  simp only [Shape, ty, ShapeF, isFlatI] at hs
  obtain ⟨xs, f, rfl, hl, hx⟩ := hs
  obtain ⟨rs, rfl⟩ := all_ent xs (fun x hxm => by
    obtain ⟨l, ⟨l1, r1, rfl, ⟨m1, rfl, w1⟩, l2, r2, rfl, ⟨m2, rfl, w2⟩, l3, r3, rfl, ⟨m3, rfl, w3⟩, rfl⟩, _, rfl⟩ := hx x hxm
    exact ⟨⟨m1, m2, m3⟩, rfl⟩)
  refine ⟨rs, f, rfl, ?_⟩
  rw [List.length_map] at hl
  have : maxLen = 9223372036854775807 := by decide
  omega
theorem arg_u8I {x : AV} (h : Arg ty 6 5 x) : ∃ n : Int, x = .w (.int .u8 n) ∧ 0 ≤ n ∧ n < 256 := by
  obtain ⟨i, ls, hi, hs, rfl⟩ := h
  simp only [ty] at hi
  injection hi with hi
  subst hi
  simp only [Shape, ty, ShapeF] at hs
  obtain ⟨m, rfl, w⟩ := hs
  exact ⟨m, rfl, wf_u8 w⟩
theorem inear_dom {x y z : AV} (hx : Arg ty 6 43 x) (hy : Arg ty 6 5 y) (hz : Arg ty 6 3 z) : (inearS [x, y, z] []).p ∧ (inearS [x, y, z] []).x = .w (.bool true) := by
  obtain ⟨es, f, rfl, ha⟩ := arg_ents hx
  obtain ⟨n, rfl, h1, h2⟩ := arg_u8I hy
  obtain ⟨m, rfl⟩ := arg_int12 hz
  exact ⟨⟨⟨h1, h2⟩, by rw [List.length_map]; omega, _, rfl⟩, rfl⟩
end Go.Proofs.Ytoagncogikogpaa
