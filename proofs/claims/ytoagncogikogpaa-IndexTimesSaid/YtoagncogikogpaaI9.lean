/- Layer 12: the law of what is found of a time. -/
import Derived.Test.YtoagncogikogpaaI8
namespace Go.Proofs.Ytoagncogikogpaa
open Ax
set_option linter.unusedSimpArgs false
set_option linter.unusedVariables false

theorem lastT_app (t : Int) (G : List Ent) (e : Ent) : lastT t (G ++ [e]) = max t e.t := by
  unfold lastT; rw [List.getLast?_append]; rfl
/-- Each time that is held: the greater one of the entry's own and the one before. -/
theorem up_times (V : Nat) (hV : 1 ≤ V) (es : List Ent) : ∀ k, k ≤ es.length → k ≤ 4000000000 →
    ∀ (j : Nat) (h : j < (upI V es k).es.length) (h' : j * V < es.length), (j = 0 → (upI V es k).es[j].t = es[0].t) ∧ (∀ q (hq : q + 1 = j), (upI V es k).es[j].t = max es[j * V].t ((upI V es k).es[q]'(by omega)).t)
  | 0, _, _ => by
    intro j h
    exact absurd h (Nat.not_lt_zero _)
  | k + 1, hk, hb => by
    have h4 := up_times V hV es k (by omega) (by omega)
    obtain ⟨h1, h2, h3, _⟩ := up_holds V hV es k (by omega) (by omega)
    have hs : upI V es (k + 1) = addI (upI V es k) es[k] := fold_snoc _ es k (by omega)
    obtain ⟨X, hX⟩ : ∃ X, upI V es k = X := ⟨_, rfl⟩
    rw [hX] at h1 h2 h3 hs
    simp only [hX] at h4
    have htk : takesI (V : Int) (k : Int) ↔ k % V = 0 := by
      unfold takesI
      rw [Int.tmod_eq_emod_of_nonneg (by omega)]
      constructor
      · rintro (h | h)
        · omega
        · exact_mod_cast h
      · intro h; right; exact_mod_cast h
    by_cases ht : k % V = 0
    · obtain ⟨q, rfl⟩ : ∃ q, k = q * V := ⟨k / V, by have := Nat.div_add_mod k V; rw [ht, Nat.mul_comm] at this; omega⟩
      have hq : (q * V + V - 1) / V = q := by
        rw [show q * V + V - 1 = (V - 1) + q * V by omega, Nat.add_mul_div_right _ _ (by omega), Nat.div_eq_of_lt (by omega)]; omega
      rw [hq] at h3
      have ha : addI X es[q * V] = ⟨(V : Int), inc ((q * V : Nat) : Int), X.es ++ [⟨es[q * V].o, lastT es[q * V].t X.es, es[q * V].a⟩]⟩ := by
        unfold addI; rw [h1, h2, if_pos (htk.2 ht)]
      rw [ha] at hs
      intro j h h'
      simp only [hs] at h ⊢
      by_cases hj : j < X.es.length
      · obtain ⟨a1, a2⟩ := h4 j hj h'
        refine ⟨fun h0 => by rw [List.getElem_append_left hj]; exact a1 h0, fun p hp => ?_⟩
        rw [List.getElem_append_left hj, List.getElem_append_left (by omega)]
        exact a2 p hp
      · have hjq : j = q := by rw [List.length_append] at h; simp at h; omega
        subst hjq
        have hlast : ∀ p (hp : p + 1 = j), lastT es[j * V].t X.es = max es[j * V].t (X.es[p]'(by omega)).t := by
          intro p hp
          unfold lastT
          rw [List.getLast?_eq_getElem?, List.getElem?_eq_getElem (by omega)]
          simp only [h3]
          have : j - 1 = p := by omega
          simp only [this]
        refine ⟨fun h0 => ?_, fun p hp => ?_⟩
        · subst h0
          have : X.es = [] := List.eq_nil_of_length_eq_zero h3
          simp only [this, List.nil_append, List.getElem_cons_zero, Nat.zero_mul]
          rfl
        · rw [List.getElem_append_left (show p < X.es.length by omega)]
          simp only [List.getElem_append_right (Nat.le_of_eq h3), h3, Nat.sub_self, List.getElem_cons_zero]
          exact hlast p hp
    · have ha : addI X es[k] = ⟨(V : Int), inc (k : Int), X.es⟩ := by
        unfold addI; rw [h1, h2, if_neg (fun h => ht (htk.1 h))]
      rw [ha] at hs
      intro j h h'
      simp only [hs] at h ⊢
      exact h4 j h h'
def atE (es : List Ent) : List Ent := es.mapIdx fun i e => ⟨e.o, e.t, i⟩
theorem atE_len (es : List Ent) : (atE es).length = es.length := by unfold atE; simp
theorem atE_get (es : List Ent) (i : Nat) (h : i < es.length) : (atE es)[i]'(by rw [atE_len]; exact h) = ⟨es[i].o, es[i].t, i⟩ := by
  unfold atE; simp
/-- What an index of entries that tell their places holds. -/
theorem held (es : List Ent) (V : Nat) (hV : 1 ≤ V) (hlen : es.length ≤ 60) (X : List Ent) (hX : (bldI V (atE es)).es = X) :
    X.length = (es.length + V - 1) / V ∧ (∀ j, j < X.length → j * V < es.length) ∧
    ∀ (j : Nat) (h : j < X.length) (h' : j * V < es.length), X[j].a = (j * V : Nat) ∧ (j = 0 → X[j].t = es[0].t) ∧ (∀ q (hq : q + 1 = j), X[j].t = max es[j * V].t (X[q]'(by omega)).t) := by
  have hla := atE_len es
  obtain ⟨h1, h2, h3, h4⟩ := up_holds V hV (atE es) (atE es).length (Nat.le_refl _) (by omega)
  have h5 := up_times V hV (atE es) (atE es).length (Nat.le_refl _) (by omega)
  rw [bld_up V hV (atE es)] at hX
  simp only [hX] at h3 h4 h5
  rw [hla] at h3
  have hin : ∀ j, j < X.length → j * V < es.length := by
    intro j hj
    rw [h3] at hj
    have a1 := Nat.div_mul_le_self (es.length + V - 1) V
    have a2 : (j + 1) * V ≤ (es.length + V - 1) / V * V := Nat.mul_le_mul_right V hj
    rw [Nat.succ_mul] at a2
    omega
  refine ⟨h3, hin, fun j h h' => ⟨?_, ?_, ?_⟩⟩
  · rw [(h4 j h (by rw [hla]; exact h')).2, atE_get es _ h']
  · intro h0; rw [(h5 j h (by rw [hla]; exact h')).1 h0, atE_get es 0 (by omega)]
  · intro q hq; rw [(h5 j h (by rw [hla]; exact h')).2 q hq, atE_get es _ h']
/-- What the law asks: the times rise; none of the multiples up to the one that is found has the time, and the next one has. -/
theorem times (es : List Ent) (V : Nat) (hV : 1 ≤ V) (hlen : es.length ≤ 60) (tm : Int) :
    (∀ j (h : j + 1 < (bldI V (atE es)).es.length), (bldI V (atE es)).es[j].t ≤ (bldI V (atE es)).es[j + 1].t) ∧
    ((lastI (fun e => decide (e.t < tm)) (bldI V (atE es)).es = none ∧ ∀ h : 0 < es.length, tm ≤ es[0].t) ∨
     (∃ (j : Nat) (e : Ent), lastI (fun e => decide (e.t < tm)) (bldI V (atE es)).es = some e ∧ e.a = (j * V : Nat) ∧ j * V < es.length ∧
        (∀ i (h : i * V < es.length), i ≤ j → es[i * V].t < tm) ∧ ∀ h : (j + 1) * V < es.length, tm ≤ es[(j + 1) * V].t)) := by
  obtain ⟨X, hX⟩ : ∃ X, (bldI V (atE es)).es = X := ⟨_, rfl⟩
  obtain ⟨h1, h2, h3⟩ := held es V hV hlen X hX
  simp only [hX]
  have rise : ∀ j (h : j + 1 < X.length), X[j].t ≤ X[j + 1].t := by
    intro j h
    have := (h3 (j + 1) h (h2 _ h)).2.2 j rfl
    omega
  have risd : ∀ d j (h : j + d < X.length), (X[j]'(by omega)).t ≤ X[j + d].t := by
    intro d
    induction d with
    | zero => intro j h; exact Int.le_refl _
    | succ d ih =>
      intro j h
      have := ih j (by omega)
      have := rise (j + d) (by omega)
      simp only [Nat.add_assoc] at this ⊢
      omega
  have own : ∀ j (h : j < X.length), (es[j * V]'(h2 j h)).t ≤ X[j].t := by
    intro j h
    cases j with
    | zero => have := (h3 0 h (h2 _ h)).2.1 rfl; simp only [Nat.zero_mul]; omega
    | succ j => have := (h3 (j + 1) h (h2 _ h)).2.2 j rfl; omega
  have hXn : ∀ i, i * V < es.length → i < X.length := by
    intro i hi
    rw [h1, Nat.lt_iff_add_one_le, Nat.le_div_iff_mul_le (by omega), Nat.succ_mul]
    omega
  refine ⟨rise, ?_⟩
  have lst : ∀ k, k ≤ X.length → (∀ j (h : j < X.length), k ≤ j → tm ≤ X[j].t) → (lastI (fun e => decide (e.t < tm)) X = none ∧ ∀ h : 0 < es.length, tm ≤ es[0].t) ∨
     (∃ (j : Nat) (e : Ent), lastI (fun e => decide (e.t < tm)) X = some e ∧ e.a = (j * V : Nat) ∧ j * V < es.length ∧
        (∀ i (h : i * V < es.length), i ≤ j → es[i * V].t < tm) ∧ ∀ h : (j + 1) * V < es.length, tm ≤ es[(j + 1) * V].t) := by
    intro k
    induction k with
    | zero =>
      intro _ hall
      have hs := last_stop (fun e => decide (e.t < tm)) X 0 (Nat.zero_le _) (fun j hj hk => by have := hall j hj hk; simp; omega)
      refine .inl ⟨by rw [hs]; rfl, fun h => ?_⟩
      have h0 : 0 < X.length := hXn 0 (by omega)
      have := hall 0 h0 (Nat.le_refl _)
      rw [(h3 0 h0 (by omega)).2.1 rfl] at this
      exact this
    | succ k ih =>
      intro hk hall
      by_cases hb : tm ≤ X[k].t
      · exact ih (by omega) (fun j hj hkj => by
          by_cases hjk : j = k
          · subst hjk; exact hb
          · exact hall j hj (by omega))
      · have hs := last_stop (fun e => decide (e.t < tm)) X (k + 1) hk (fun j hj hkj => by have := hall j hj hkj; simp; omega)
        rw [last_take _ X (k + 1) (by omega) hk] at hs
        simp only [Nat.add_sub_cancel] at hs
        rw [if_pos (by simp; omega)] at hs
        refine .inr ⟨k, X[k], hs, (h3 k hk (h2 k hk)).1, h2 k hk, fun i hi hik => ?_, fun h => ?_⟩
        · have a1 := own i (by omega)
          have a2 := risd (k - i) i (by omega)
          have e : i + (k - i) = k := by omega
          simp only [e] at a2
          omega
        · have hk1 := hXn (k + 1) h
          have a1 := hall (k + 1) hk1 (by omega)
          have a2 := (h3 (k + 1) hk1 h).2.2 k rfl
          omega
  exact lst X.length (Nat.le_refl _) (fun j hj hk => by omega)
theorem take_at (es : List Ent) (i : Nat) (h : i < es.length) : ((atE es).take (i + 1)).map ent = ((atE es).take i).map ent ++ [ent ⟨es[i].o, es[i].t, i⟩] := by
  rw [List.take_add_one, List.getElem?_eq_getElem (by rw [atE_len]; exact h), atE_get es i h]
  simp only [Option.toList, List.map_append, List.map_cons, List.map_nil]
def Sitimes (f : FuncId) : Option FSpec :=
  match f with
  | 23 => some yesS
  | 32 => some buildI12S
  | 34 => some (lastS fun tm e => decide (e.t < tm))
  | _ => none
theorem Sitimes_ok : Fns Try.prog Sitimes := by
  intro f s h
  unfold Sitimes at h
  split at h
  · injection h with h; subst h; exact ⟨⟨_, Try.func23, by kernel_rfl, by kernel_rfl⟩, awake12_sound⟩
  · injection h with h; subst h; exact ⟨⟨_, Try.func32, by kernel_rfl, by kernel_rfl⟩, buildI12_sound⟩
  · injection h with h; subst h; exact ⟨⟨_, Try.func34, by kernel_rfl, by kernel_rfl⟩, byTime_sound⟩
  · cases h
section
set_option maxRecDepth 100000
set_option maxHeartbeats 2000000 in
theorem itimes_law : Sound Try.prog 7 inearS := by
  refine fn_sound (S := Sitimes) (T := ty) mixed ty_ok Sitimes_ok Try.func7 (c := Try.f7.body.getD .skip) (by kernel_rfl) (by kernel_rfl) (fun xs pins hp _ => ?_)
  unfold inearS at hp ⊢
  split at hp
  · rename_i xs f ev tm _
    obtain ⟨⟨hv0, hv1⟩, hL, es, rfl⟩ := hp
    rw [List.length_map] at hL
    refine ⟨by simp, ?_⟩
    have hl4 : (es.map ent).length = es.length := by simp
    have hx : ∃ qs : List Ent, es.map ent = qs.map ent := ⟨es, rfl⟩
    have hc1 : coe ty 43 (.sg 3 (es.map ent) f) = .sg 3 (es.map ent) f := by cases es <;> rfl
    obtain ⟨w, rfl⟩ := Int.eq_ofNat_of_zero_le hv0
    obtain ⟨V, hV⟩ : ∃ V, max 1 (w % 8) = V := ⟨_, rfl⟩
    have hV1 : 1 ≤ V := by omega
    have r1 : (w : Int).tmod 8 = ((w % 8 : Nat) : Int) := by rw [Int.tmod_eq_emod_of_nonneg (by omega)]; omega
    have r2 : ((w % 8 : Nat) : Int) % 256 = ((w % 8 : Nat) : Int) := by omega
    have r3 : (((w % 8 : Nat) : Int) + 9223372036854775808) % 18446744073709551616 - 9223372036854775808 = ((w % 8 : Nat) : Int) := by omega
    have em1 : (if (1 : Int) > ((w % 8 : Nat) : Int) then 1 else ((w % 8 : Nat) : Int)) = (V : Int) := by split <;> omega
    have em2 : (if ((w % 8 : Nat) : Int) > 1 then ((w % 8 : Nat) : Int) else 1) = (V : Int) := by split <;> omega
    unfold Try.f7
    by_cases g1 : es.length ≤ 60
    · have d1 : decide ((60 : Int) < es.length) = false := decide_eq_false (by omega)
      have hla := atE_len es
      simp -implicitDefEqProofs only [evT, implies_true, forall_const, Option.getD, later_normal, aop, aLen, ev, slot, setSlot, putSlot, cv, cvl, aConv, aBin, aInt, aUn, aFn, aEq, Out.and, isBool, isPtr, List.length, IntKind.bits, evs, evo, evps, aCall, aUser, coes, coe, List.append, List.replicate, callOut, rootsL, AV.roots, lendsL, AV.lends, pinsOf, nodup, lendL, lend, closedB, noimmB, AV.noimm, AV.ren, renL, back, Nat.reduceAdd, Nat.reduceSub, Nat.reduceMul, Int.reduceToNat, reduceCtorEq, aLoad, subv, aIndexAddr, aIndex, TD.aggr, guardSlot, aPick, byte, word, aMin, aMax, Ax.Ends, EndsX, Ax.rvals, rone, AV.ids, idsL, newIds, upTo, pinHeap, gOf, ↓reduceIte, List.isEmpty, Int.reducePow, Nat.reducePow, Int.reduceMod, Nat.reduceLeDiff, Int.reduceLE, Int.reduceNe, Int.reduceEq, aBuildSlice, fillB, aAppend, appendB, viewB, Ax.look, Ax.put, Ax.drop, List.drop, List.take, asv, aMake, aCopy, srcB, fillG, viewG, appendG, appendI, fillI, aSlice, bnd, bnds, full3, cut, aFieldAddr, aField, aStore, setB, aBox, aBuild, fillS, allTy, AV.leaves, AV.okv, AV.leaf, one, splice, elemLeaves, Blk.size, Blk.len, Option.isSome, Option.isNone, isBytes, aStr, aNil, aAlloc, aExtract, viewI, Nat.reduceEqDiff, Nat.reduceLT, Nat.reduceBEq, List.contains, List.elem, Blk.closed, closedL, AV.closed, Blk.noimm, ↓gsplit_tt, ↓gsplit_ff, ↓gsplit_tf, ↓gsplit_ft, ↓csplit_t, ↓csplit_f, Ax.idx, AV.lentIds, lentIdsL, dropAll, givenUp, AV.clean, cleanL, Blk.clean, cleanB, quietC, flatTy, coldStr, notMs, eqV, eqF, isStruct, -coe, coe_w, coe_str, coe_agg, coe_tup, coe_sb, coe_si, coe_cp, coe_ms, coe_rf, coe_fn, coe_cons, ty, Sitimes, yesS, lastS, buildI12S, findIS, hc1, hl4, hx, map_uent, d1, r1, r2, r3, em1, em2]
      refine awp_loop ⟨fun m σ => ∃ (i : Nat), m = es.length - i ∧ i ≤ es.length ∧
          σ = ⟨[.sg 3 (es.map ent) f, .w (.int .u8 w), .w (.int .i64 tm), .junk, .junk, .junk, .w (.bool false), .w (.int .i64 V), .ms 4 3 0 i, .w (.int .i64 i), .junk, .junk, .junk, .junk, .junk, .junk, .junk, .junk, .junk, .junk, .junk, .junk, .junk, .junk, .junk, .junk, .junk, .junk, .junk, .junk, .junk, .junk, .junk, .junk, .junk, .junk, .junk, .junk, .junk, .junk, .junk, .junk, .junk, .junk, .junk, .junk, .junk, .junk, .junk, .junk, .junk, .junk, .junk, .junk, .junk, .junk, .junk, .junk, .junk, .junk, .junk, .junk, .junk, .junk, .junk, .junk, .junk, .junk, .junk, .junk, .junk, .junk, .junk, .junk, .junk, .junk, .junk, .junk, .junk, .junk, .junk, .junk, .junk, .junk, .junk, .junk, .junk, .junk, .junk, .junk, .junk, .junk, .junk, .junk, .junk, .junk, .junk, .junk, .junk, .junk, .junk, .junk, .junk, .junk, .junk, .junk, .junk, .junk, .junk, .junk, .junk, .junk, .junk, .junk, .junk, .junk, .junk, .junk, .junk, .junk, .junk], [(4, .g 3 (((atE es).take i).map ent))], 5⟩, ?_, ?_⟩
      · refine ⟨_, _, (weak_nil 8 3 (.g 3 []) ⟨by decide, rfl⟩ (by exact trivial)).trans (weak_ren [0, 1, 2, 3, 92] rfl rfl rfl ?_ ?_), 0, rfl, by omega, rfl⟩
        · simp only [SameS, SameH, setSlot, gOf, AV.ren, renL, Blk.ren, Ax.look, Ax.put, reduceCtorEq, true_or, false_or, or_true, or_false, and_true, true_and, AV.w.injEq, Value.int.injEq, Value.bool.injEq, AV.ms.injEq, AV.sb.injEq, AV.str.injEq, ↓reduceIte, Nat.reduceEqDiff, Nat.reduceLT, List.length_append, List.length_cons, List.length_nil, Nat.zero_add, Nat.add_zero, Option.some.injEq, Blk.b.injEq, Blk.i.injEq, Nat.succ_ne_zero, Nat.reduceAdd, and_self]; try simp; try rfl
        · simp only [SameS, SameH, setSlot, gOf, AV.ren, renL, Blk.ren, Ax.look, Ax.put, reduceCtorEq, true_or, false_or, or_true, or_false, and_true, true_and, AV.w.injEq, Value.int.injEq, Value.bool.injEq, AV.ms.injEq, AV.sb.injEq, AV.str.injEq, ↓reduceIte, Nat.reduceEqDiff, Nat.reduceLT, List.length_append, List.length_cons, List.length_nil, Nat.zero_add, Nat.add_zero, Option.some.injEq, Blk.b.injEq, Blk.i.injEq, Nat.succ_ne_zero, Nat.reduceAdd, and_self]; try simp; try rfl
      · rintro m σ ⟨i, rfl, hi, rfl⟩
        by_cases hil : i < es.length
        · have d2 : decide ((i : Int) < es.length) = true := decide_eq_true (by omega)
          have e1 : ((i : Int) + 1 + 9223372036854775808) % 18446744073709551616 - 9223372036854775808 = ((i + 1 : Nat) : Int) := by omega
          have hs1 := slot_ent es i hil
          have htk := take_at es i hil
          have ht1 : i + 1 ≤ top := by unfold top; omega
          have hlT : (((atE es).take i).map ent).length = i := by simp [hla]; omega
          obtain ⟨P, hP⟩ : ∃ P, es[i] = P := ⟨_, rfl⟩
          rw [hP] at hs1 htk
          have rn : ∀ g, renL g (((atE es).take i).map ent ++ [ent ⟨P.o, P.t, i⟩]) = ((atE es).take i).map ent ++ [ent ⟨P.o, P.t, i⟩] := fun g => by have := ren_ent g ((atE es).take (i + 1)); rw [htk] at this; exact this
          simp only [ent] at hs1 rn htk
          simp -implicitDefEqProofs only [evT, implies_true, forall_const, Option.getD, later_normal, aop, aLen, ev, slot, setSlot, putSlot, cv, cvl, aConv, aBin, aInt, aUn, aFn, aEq, Out.and, isBool, isPtr, List.length, IntKind.bits, evs, evo, evps, aCall, aUser, coes, coe, List.append, List.replicate, callOut, rootsL, AV.roots, lendsL, AV.lends, pinsOf, nodup, lendL, lend, closedB, noimmB, AV.noimm, AV.ren, renL, back, Nat.reduceAdd, Nat.reduceSub, Nat.reduceMul, Int.reduceToNat, reduceCtorEq, aLoad, subv, aIndexAddr, aIndex, TD.aggr, guardSlot, aPick, byte, word, aMin, aMax, Ax.Ends, EndsX, Ax.rvals, rone, AV.ids, idsL, newIds, upTo, pinHeap, gOf, ↓reduceIte, List.isEmpty, Int.reducePow, Nat.reducePow, Int.reduceMod, Nat.reduceLeDiff, Int.reduceLE, Int.reduceNe, Int.reduceEq, aBuildSlice, fillB, aAppend, appendB, viewB, Ax.look, Ax.put, Ax.drop, List.drop, List.take, asv, aMake, aCopy, srcB, fillG, viewG, appendG, appendI, fillI, aSlice, bnd, bnds, full3, cut, aFieldAddr, aField, aStore, setB, aBox, aBuild, fillS, allTy, AV.leaves, AV.okv, AV.leaf, one, splice, elemLeaves, Blk.size, Blk.len, Option.isSome, Option.isNone, isBytes, aStr, aNil, aAlloc, aExtract, viewI, Nat.reduceEqDiff, Nat.reduceLT, Nat.reduceBEq, List.contains, List.elem, Blk.closed, closedL, AV.closed, Blk.noimm, ↓gsplit_tt, ↓gsplit_ff, ↓gsplit_tf, ↓gsplit_ft, ↓csplit_t, ↓csplit_f, Ax.idx, AV.lentIds, lentIdsL, dropAll, givenUp, AV.clean, cleanL, Blk.clean, cleanB, quietC, flatTy, coldStr, notMs, eqV, eqF, isStruct, -coe, coe_w, coe_str, coe_agg, coe_tup, coe_sb, coe_si, coe_cp, coe_ms, coe_rf, coe_fn, coe_cons, ty, Sitimes, yesS, lastS, buildI12S, findIS, hl4, hlT, d2, e1, hs1, Int.toNat_natCast]
          repeat (refine And.intro (by omega) ?_)
          refine ⟨es.length - (i + 1), _, by omega, weak_ren [0, 1, 2, 3, 133] rfl rfl rfl ?_ ?_, i + 1, rfl, by omega, rfl⟩
          · simp only [SameS, SameH, setSlot, gOf, AV.ren, renL, Blk.ren, Ax.look, Ax.put, reduceCtorEq, true_or, false_or, or_true, or_false, and_true, true_and, AV.w.injEq, Value.int.injEq, Value.bool.injEq, AV.ms.injEq, AV.sb.injEq, AV.str.injEq, ↓reduceIte, Nat.reduceEqDiff, Nat.reduceLT, List.length_append, List.length_cons, List.length_nil, Nat.zero_add, Nat.add_zero, Option.some.injEq, Blk.b.injEq, Blk.i.injEq, Nat.succ_ne_zero, Nat.reduceAdd, and_self]; try simp
          · simp only [SameS, SameH, setSlot, gOf, AV.ren, renL, Blk.ren, Ax.look, Ax.put, reduceCtorEq, true_or, false_or, or_true, or_false, and_true, true_and, AV.w.injEq, Value.int.injEq, Value.bool.injEq, AV.ms.injEq, AV.sb.injEq, AV.str.injEq, ↓reduceIte, Nat.reduceEqDiff, Nat.reduceLT, List.length_append, List.length_cons, List.length_nil, Nat.zero_add, Nat.add_zero, Option.some.injEq, Blk.b.injEq, Blk.i.injEq, Nat.succ_ne_zero, Nat.reduceAdd, and_self, htk, rn]
        · have d2 : decide ((i : Int) < es.length) = false := decide_eq_false (by omega)
          have hie : i = es.length := by omega
          subst hie
          have htk : (atE es).take es.length = atE es := by rw [← hla]; exact List.take_length
          have hla2 : ((atE es).map ent).length = es.length := by simp [hla]
          have htk2 : ((atE es).map ent).take es.length = (atE es).map ent := List.take_of_length_le (by omega)
          have hm1 : es.length ≤ 100000 := by omega
          have hxa : ∃ qs : List Ent, (atE es).map ent = qs.map ent := ⟨_, rfl⟩
          obtain ⟨hrise, htimes⟩ := times es V hV1 g1 tm
          have hXl : (bldI (V : Int) (atE es)).es.length ≤ 1000000 := by
            have := fold_len (atE es) ⟨max (V : Int) 1, 0, []⟩
            unfold bldI; simp at this; omega
          obtain ⟨X, hX⟩ : ∃ X, bldI (V : Int) (atE es) = X := ⟨_, rfl⟩
          rw [hX] at htimes hXl
          simp only [hX] at hrise
          have hXl2 : (X.es.map ent).length = X.es.length := by simp
          have hx2 : ∃ qs : List Ent, X.es.map ent = qs.map ent := ⟨X.es, rfl⟩
          have hcl : ∀ y ∈ (atE es).map ent, y.closed = true := by
            intro y hy
            obtain ⟨e, _, rfl⟩ := List.mem_map.1 hy
            rfl
          simp -implicitDefEqProofs only [evT, implies_true, forall_const, Option.getD, later_normal, aop, aLen, ev, slot, setSlot, putSlot, cv, cvl, aConv, aBin, aInt, aUn, aFn, aEq, Out.and, isBool, isPtr, List.length, IntKind.bits, evs, evo, evps, aCall, aUser, coes, coe, List.append, List.replicate, callOut, rootsL, AV.roots, lendsL, AV.lends, pinsOf, nodup, lendL, lend, closedB, noimmB, AV.noimm, AV.ren, renL, back, Nat.reduceAdd, Nat.reduceSub, Nat.reduceMul, Int.reduceToNat, reduceCtorEq, aLoad, subv, aIndexAddr, aIndex, TD.aggr, guardSlot, aPick, byte, word, aMin, aMax, Ax.Ends, EndsX, Ax.rvals, rone, AV.ids, idsL, newIds, upTo, pinHeap, gOf, ↓reduceIte, List.isEmpty, Int.reducePow, Nat.reducePow, Int.reduceMod, Nat.reduceLeDiff, Int.reduceLE, Int.reduceNe, Int.reduceEq, aBuildSlice, fillB, aAppend, appendB, viewB, Ax.look, Ax.put, Ax.drop, List.drop, List.take, asv, aMake, aCopy, srcB, fillG, viewG, appendG, appendI, fillI, aSlice, bnd, bnds, full3, cut, aFieldAddr, aField, aStore, setB, aBox, aBuild, fillS, allTy, AV.leaves, AV.okv, AV.leaf, one, splice, elemLeaves, Blk.size, Blk.len, Option.isSome, Option.isNone, isBytes, aStr, aNil, aAlloc, aExtract, viewI, Nat.reduceEqDiff, Nat.reduceLT, Nat.reduceBEq, List.contains, List.elem, Blk.closed, closedL, AV.closed, Blk.noimm, ↓gsplit_tt, ↓gsplit_ff, ↓gsplit_tf, ↓gsplit_ft, ↓csplit_t, ↓csplit_f, Ax.idx, AV.lentIds, lentIdsL, dropAll, givenUp, AV.clean, cleanL, Blk.clean, cleanB, quietC, flatTy, coldStr, notMs, eqV, eqF, isStruct, -coe, coe_w, coe_str, coe_agg, coe_tup, coe_sb, coe_si, coe_cp, coe_ms, coe_rf, coe_fn, coe_cons, ty, Sitimes, yesS, lastS, buildI12S, findIS, hl4, d2, htk, htk2, hla2, hm1, closed_ent, hxa, map_uent, hX, iav, fillS]
          refine ⟨hcl, awp_loop ⟨fun m σ => ∃ (j : Nat), m = X.es.length - j ∧ 1 ≤ j ∧
              σ = ⟨[.sg 3 (es.map ent) f, .w (.int .u8 w), .w (.int .i64 tm), .junk, .junk, .junk, .w (.bool false), .w (.int .i64 V), .junk, .junk, .junk, .rf 4 3 0 0, .w (.int .i64 j), .junk, .junk, .junk, .junk, .junk, .junk, .junk, .junk, .junk, .junk, .junk, .junk, .junk, .junk, .junk, .junk, .junk, .junk, .junk, .junk, .junk, .junk, .junk, .junk, .junk, .junk, .junk, .junk, .junk, .junk, .junk, .junk, .junk, .junk, .junk, .junk, .junk, .junk, .junk, .junk, .junk, .junk, .junk, .junk, .junk, .junk, .junk, .junk, .junk, .junk, .junk, .junk, .junk, .junk, .junk, .junk, .junk, .junk, .junk, .junk, .junk, .junk, .junk, .junk, .junk, .junk, .junk, .junk, .junk, .junk, .junk, .junk, .junk, .junk, .junk, .junk, .junk, .junk, .junk, .junk, .junk, .junk, .junk, .junk, .junk, .junk, .junk, .junk, .junk, .junk, .junk, .junk, .junk, .junk, .junk, .junk, .junk, .junk, .junk, .junk, .junk, .junk, .junk, .junk, .junk, .junk, .junk, .junk], [(4, .g 3 [.agg [.w (.int .i64 X.v), .w (.int .i64 X.c), .sg 3 (X.es.map ent) (empE X.es)]])], 5⟩, ?_, ?_⟩⟩
          · refine ⟨_, _, weak_ren [0, 1, 2, 3, 61] rfl rfl rfl ?_ ?_, 1, rfl, by omega, rfl⟩
            · simp only [SameS, SameH, setSlot, gOf, AV.ren, renL, Blk.ren, Ax.look, Ax.put, reduceCtorEq, true_or, false_or, or_true, or_false, and_true, true_and, AV.w.injEq, Value.int.injEq, Value.bool.injEq, AV.ms.injEq, AV.sb.injEq, AV.str.injEq, ↓reduceIte, Nat.reduceEqDiff, Nat.reduceLT, List.length_append, List.length_cons, List.length_nil, Nat.zero_add, Nat.add_zero, Option.some.injEq, Blk.b.injEq, Blk.i.injEq, Nat.succ_ne_zero, Nat.reduceAdd, and_self]; try simp
            · simp only [SameS, SameH, setSlot, gOf, AV.ren, renL, Blk.ren, Ax.look, Ax.put, reduceCtorEq, true_or, false_or, or_true, or_false, and_true, true_and, AV.w.injEq, Value.int.injEq, Value.bool.injEq, AV.ms.injEq, AV.sb.injEq, AV.str.injEq, ↓reduceIte, Nat.reduceEqDiff, Nat.reduceLT, List.length_append, List.length_cons, List.length_nil, Nat.zero_add, Nat.add_zero, Option.some.injEq, Blk.b.injEq, Blk.i.injEq, Nat.succ_ne_zero, Nat.reduceAdd, and_self, ren_ent]; try simp
          · rintro m σ ⟨j, rfl, hj, rfl⟩
            by_cases hjl : j < X.es.length
            · have d3 : decide ((j : Int) < X.es.length) = true := decide_eq_true (by omega)
              have e1 : ((j : Int) + 1 + 9223372036854775808) % 18446744073709551616 - 9223372036854775808 = ((j + 1 : Nat) : Int) := by omega
              have e2 : ((j : Int) - 1 + 9223372036854775808) % 18446744073709551616 - 9223372036854775808 = ((j - 1 : Nat) : Int) := by omega
              have hs1 := slot_ent X.es j hjl
              have hs0 := slot_ent X.es (j - 1) (by omega)
              have hr := hrise (j - 1) (by omega)
              have ej : j - 1 + 1 = j := by omega
              simp only [ej] at hr
              obtain ⟨P, hP⟩ : ∃ P, X.es[j] = P := ⟨_, rfl⟩
              obtain ⟨P0, hP0⟩ : ∃ P, X.es[j - 1]'(by omega) = P := ⟨_, rfl⟩
              rw [hP] at hs1 hr
              rw [hP0] at hs0 hr
              simp only [ent] at hs1 hs0
              have dT : decide (P0.t > P.t) = false := decide_eq_false (by omega)
              simp -implicitDefEqProofs only [evT, implies_true, forall_const, Option.getD, later_normal, aop, aLen, ev, slot, setSlot, putSlot, cv, cvl, aConv, aBin, aInt, aUn, aFn, aEq, Out.and, isBool, isPtr, List.length, IntKind.bits, evs, evo, evps, aCall, aUser, coes, coe, List.append, List.replicate, callOut, rootsL, AV.roots, lendsL, AV.lends, pinsOf, nodup, lendL, lend, closedB, noimmB, AV.noimm, AV.ren, renL, back, Nat.reduceAdd, Nat.reduceSub, Nat.reduceMul, Int.reduceToNat, reduceCtorEq, aLoad, subv, aIndexAddr, aIndex, TD.aggr, guardSlot, aPick, byte, word, aMin, aMax, Ax.Ends, EndsX, Ax.rvals, rone, AV.ids, idsL, newIds, upTo, pinHeap, gOf, ↓reduceIte, List.isEmpty, Int.reducePow, Nat.reducePow, Int.reduceMod, Nat.reduceLeDiff, Int.reduceLE, Int.reduceNe, Int.reduceEq, aBuildSlice, fillB, aAppend, appendB, viewB, Ax.look, Ax.put, Ax.drop, List.drop, List.take, asv, aMake, aCopy, srcB, fillG, viewG, appendG, appendI, fillI, aSlice, bnd, bnds, full3, cut, aFieldAddr, aField, aStore, setB, aBox, aBuild, fillS, allTy, AV.leaves, AV.okv, AV.leaf, one, splice, elemLeaves, Blk.size, Blk.len, Option.isSome, Option.isNone, isBytes, aStr, aNil, aAlloc, aExtract, viewI, Nat.reduceEqDiff, Nat.reduceLT, Nat.reduceBEq, List.contains, List.elem, Blk.closed, closedL, AV.closed, Blk.noimm, ↓gsplit_tt, ↓gsplit_ff, ↓gsplit_tf, ↓gsplit_ft, ↓csplit_t, ↓csplit_f, Ax.idx, AV.lentIds, lentIdsL, dropAll, givenUp, AV.clean, cleanL, Blk.clean, cleanB, quietC, flatTy, coldStr, notMs, eqV, eqF, isStruct, -coe, coe_w, coe_str, coe_agg, coe_tup, coe_sb, coe_si, coe_cp, coe_ms, coe_rf, coe_fn, coe_cons, ty, Sitimes, yesS, lastS, buildI12S, findIS, hXl2, d3, e1, e2, hs0, hs1, dT, Int.toNat_natCast]
              repeat (refine And.intro (by omega) ?_)
              refine ⟨X.es.length - (j + 1), _, by omega, weak_ren [0, 1, 2, 3, 4] rfl rfl rfl ?_ ?_, j + 1, rfl, by omega, rfl⟩
              · simp only [SameS, SameH, setSlot, gOf, AV.ren, renL, Blk.ren, Ax.look, Ax.put, reduceCtorEq, true_or, false_or, or_true, or_false, and_true, true_and, AV.w.injEq, Value.int.injEq, Value.bool.injEq, AV.ms.injEq, AV.sb.injEq, AV.str.injEq, ↓reduceIte, Nat.reduceEqDiff, Nat.reduceLT, List.length_append, List.length_cons, List.length_nil, Nat.zero_add, Nat.add_zero, Option.some.injEq, Blk.b.injEq, Blk.i.injEq, Nat.succ_ne_zero, Nat.reduceAdd, and_self]
              · simp only [SameS, SameH, setSlot, gOf, AV.ren, renL, Blk.ren, Ax.look, Ax.put, reduceCtorEq, true_or, false_or, or_true, or_false, and_true, true_and, AV.w.injEq, Value.int.injEq, Value.bool.injEq, AV.ms.injEq, AV.sb.injEq, AV.str.injEq, ↓reduceIte, Nat.reduceEqDiff, Nat.reduceLT, List.length_append, List.length_cons, List.length_nil, Nat.zero_add, Nat.add_zero, Option.some.injEq, Blk.b.injEq, Blk.i.injEq, Nat.succ_ne_zero, Nat.reduceAdd, and_self, ren_ent]; try simp
            · have d3 : decide ((j : Int) < X.es.length) = false := decide_eq_false (by omega)
              rcases htimes with ⟨hn, h0⟩ | ⟨J, e, hq, hea, hJ, hbelow, habove⟩
              · by_cases hz : es.length = 0
                · have dz : decide ((es.length : Int) = 0) = true := decide_eq_true (by omega)
                  simp -implicitDefEqProofs only [evT, implies_true, forall_const, Option.getD, later_normal, aop, aLen, ev, slot, setSlot, putSlot, cv, cvl, aConv, aBin, aInt, aUn, aFn, aEq, Out.and, isBool, isPtr, List.length, IntKind.bits, evs, evo, evps, aCall, aUser, coes, coe, List.append, List.replicate, callOut, rootsL, AV.roots, lendsL, AV.lends, pinsOf, nodup, lendL, lend, closedB, noimmB, AV.noimm, AV.ren, renL, back, Nat.reduceAdd, Nat.reduceSub, Nat.reduceMul, Int.reduceToNat, reduceCtorEq, aLoad, subv, aIndexAddr, aIndex, TD.aggr, guardSlot, aPick, byte, word, aMin, aMax, Ax.Ends, EndsX, Ax.rvals, rone, AV.ids, idsL, newIds, upTo, pinHeap, gOf, ↓reduceIte, List.isEmpty, Int.reducePow, Nat.reducePow, Int.reduceMod, Nat.reduceLeDiff, Int.reduceLE, Int.reduceNe, Int.reduceEq, aBuildSlice, fillB, aAppend, appendB, viewB, Ax.look, Ax.put, Ax.drop, List.drop, List.take, asv, aMake, aCopy, srcB, fillG, viewG, appendG, appendI, fillI, aSlice, bnd, bnds, full3, cut, aFieldAddr, aField, aStore, setB, aBox, aBuild, fillS, allTy, AV.leaves, AV.okv, AV.leaf, one, splice, elemLeaves, Blk.size, Blk.len, Option.isSome, Option.isNone, isBytes, aStr, aNil, aAlloc, aExtract, viewI, Nat.reduceEqDiff, Nat.reduceLT, Nat.reduceBEq, List.contains, List.elem, Blk.closed, closedL, AV.closed, Blk.noimm, ↓gsplit_tt, ↓gsplit_ff, ↓gsplit_tf, ↓gsplit_ft, ↓csplit_t, ↓csplit_f, Ax.idx, AV.lentIds, lentIdsL, dropAll, givenUp, AV.clean, cleanL, Blk.clean, cleanB, quietC, flatTy, coldStr, notMs, eqV, eqF, isStruct, -coe, coe_w, coe_str, coe_agg, coe_tup, coe_sb, coe_si, coe_cp, coe_ms, coe_rf, coe_fn, coe_cons, ty, Sitimes, yesS, lastS, buildI12S, findIS, hXl2, hXl, hx2, hl4, map_uent, d3, hn, dz, ent, fillS, Option.getD, Option.isSome]
                · have dz : decide ((es.length : Int) = 0) = false := decide_eq_false (by omega)
                  have hs0 := slot_ent es 0 (by omega)
                  have h00 := h0 (by omega)
                  obtain ⟨P, hP⟩ : ∃ P, es[0]'(by omega) = P := ⟨_, rfl⟩
                  rw [hP] at hs0 h00
                  simp only [ent] at hs0
                  have dP : decide (P.t ≥ tm) = true := decide_eq_true h00
                  have dl : decide (0 < es.length) = true := decide_eq_true (by omega)
                  simp -implicitDefEqProofs only [evT, implies_true, forall_const, Option.getD, later_normal, aop, aLen, ev, slot, setSlot, putSlot, cv, cvl, aConv, aBin, aInt, aUn, aFn, aEq, Out.and, isBool, isPtr, List.length, IntKind.bits, evs, evo, evps, aCall, aUser, coes, coe, List.append, List.replicate, callOut, rootsL, AV.roots, lendsL, AV.lends, pinsOf, nodup, lendL, lend, closedB, noimmB, AV.noimm, AV.ren, renL, back, Nat.reduceAdd, Nat.reduceSub, Nat.reduceMul, Int.reduceToNat, reduceCtorEq, aLoad, subv, aIndexAddr, aIndex, TD.aggr, guardSlot, aPick, byte, word, aMin, aMax, Ax.Ends, EndsX, Ax.rvals, rone, AV.ids, idsL, newIds, upTo, pinHeap, gOf, ↓reduceIte, List.isEmpty, Int.reducePow, Nat.reducePow, Int.reduceMod, Nat.reduceLeDiff, Int.reduceLE, Int.reduceNe, Int.reduceEq, aBuildSlice, fillB, aAppend, appendB, viewB, Ax.look, Ax.put, Ax.drop, List.drop, List.take, asv, aMake, aCopy, srcB, fillG, viewG, appendG, appendI, fillI, aSlice, bnd, bnds, full3, cut, aFieldAddr, aField, aStore, setB, aBox, aBuild, fillS, allTy, AV.leaves, AV.okv, AV.leaf, one, splice, elemLeaves, Blk.size, Blk.len, Option.isSome, Option.isNone, isBytes, aStr, aNil, aAlloc, aExtract, viewI, Nat.reduceEqDiff, Nat.reduceLT, Nat.reduceBEq, List.contains, List.elem, Blk.closed, closedL, AV.closed, Blk.noimm, ↓gsplit_tt, ↓gsplit_ff, ↓gsplit_tf, ↓gsplit_ft, ↓csplit_t, ↓csplit_f, Ax.idx, AV.lentIds, lentIdsL, dropAll, givenUp, AV.clean, cleanL, Blk.clean, cleanB, quietC, flatTy, coldStr, notMs, eqV, eqF, isStruct, -coe, coe_w, coe_str, coe_agg, coe_tup, coe_sb, coe_si, coe_cp, coe_ms, coe_rf, coe_fn, coe_cons, ty, Sitimes, yesS, lastS, buildI12S, findIS, hXl2, hXl, hx2, hl4, map_uent, d3, hn, dz, hs0, dP, ent, fillS, Option.getD, Option.isSome, Int.toNat_zero]
                  try omega
              · simp -implicitDefEqProofs only [evT, implies_true, forall_const, Option.getD, later_normal, aop, aLen, ev, slot, setSlot, putSlot, cv, cvl, aConv, aBin, aInt, aUn, aFn, aEq, Out.and, isBool, isPtr, List.length, IntKind.bits, evs, evo, evps, aCall, aUser, coes, coe, List.append, List.replicate, callOut, rootsL, AV.roots, lendsL, AV.lends, pinsOf, nodup, lendL, lend, closedB, noimmB, AV.noimm, AV.ren, renL, back, Nat.reduceAdd, Nat.reduceSub, Nat.reduceMul, Int.reduceToNat, reduceCtorEq, aLoad, subv, aIndexAddr, aIndex, TD.aggr, guardSlot, aPick, byte, word, aMin, aMax, Ax.Ends, EndsX, Ax.rvals, rone, AV.ids, idsL, newIds, upTo, pinHeap, gOf, ↓reduceIte, List.isEmpty, Int.reducePow, Nat.reducePow, Int.reduceMod, Nat.reduceLeDiff, Int.reduceLE, Int.reduceNe, Int.reduceEq, aBuildSlice, fillB, aAppend, appendB, viewB, Ax.look, Ax.put, Ax.drop, List.drop, List.take, asv, aMake, aCopy, srcB, fillG, viewG, appendG, appendI, fillI, aSlice, bnd, bnds, full3, cut, aFieldAddr, aField, aStore, setB, aBox, aBuild, fillS, allTy, AV.leaves, AV.okv, AV.leaf, one, splice, elemLeaves, Blk.size, Blk.len, Option.isSome, Option.isNone, isBytes, aStr, aNil, aAlloc, aExtract, viewI, Nat.reduceEqDiff, Nat.reduceLT, Nat.reduceBEq, List.contains, List.elem, Blk.closed, closedL, AV.closed, Blk.noimm, ↓gsplit_tt, ↓gsplit_ff, ↓gsplit_tf, ↓gsplit_ft, ↓csplit_t, ↓csplit_f, Ax.idx, AV.lentIds, lentIdsL, dropAll, givenUp, AV.clean, cleanL, Blk.clean, cleanB, quietC, flatTy, coldStr, notMs, eqV, eqF, isStruct, -coe, coe_w, coe_str, coe_agg, coe_tup, coe_sb, coe_si, coe_cp, coe_ms, coe_rf, coe_fn, coe_cons, ty, Sitimes, yesS, lastS, buildI12S, findIS, hXl2, hXl, hx2, hl4, map_uent, d3, hq, ent, fillS, Option.getD, Option.isSome, hea]
                refine awp_loop ⟨fun m σ => ∃ (q : Nat), m = J + 1 - q ∧ q ≤ J + 1 ∧
                    σ = ⟨[.sg 3 (es.map ent) f, .w (.int .u8 w), .w (.int .i64 tm), .junk, .junk, .junk, .w (.bool false), .w (.int .i64 V), .junk, .junk, .junk, .junk, .junk, .rf 4 3 0 0, .junk, .w (.int .i64 (q * V : Nat)), .junk, .junk, .junk, .junk, .junk, .junk, .junk, .junk, .junk, .junk, .junk, .junk, .junk, .junk, .junk, .junk, .junk, .junk, .junk, .junk, .junk, .junk, .junk, .junk, .junk, .junk, .junk, .junk, .junk, .junk, .junk, .junk, .junk, .junk, .junk, .junk, .junk, .junk, .junk, .junk, .junk, .junk, .junk, .junk, .junk, .junk, .junk, .junk, .junk, .junk, .junk, .junk, .junk, .junk, .junk, .junk, .junk, .junk, .junk, .junk, .junk, .junk, .junk, .junk, .junk, .junk, .junk, .junk, .junk, .junk, .junk, .junk, .junk, .junk, .junk, .junk, .junk, .junk, .junk, .junk, .junk, .junk, .junk, .junk, .junk, .junk, .junk, .junk, .junk, .junk, .junk, .junk, .junk, .junk, .junk, .junk, .junk, .junk, .junk, .junk, .junk, .junk, .junk, .junk, .junk], [(4, .g 3 [.agg [.w (.int .i64 e.o), .w (.int .i64 e.t), .w (.int .i64 (J * V : Nat))]])], 5⟩, ?_, ?_⟩
                · refine ⟨_, _, weak_ren [0, 1, 2, 3, 93] rfl rfl rfl ?_ ?_, 0, rfl, by omega, rfl⟩
                  · simp only [SameS, SameH, setSlot, gOf, AV.ren, renL, Blk.ren, Ax.look, Ax.put, reduceCtorEq, true_or, false_or, or_true, or_false, and_true, true_and, AV.w.injEq, Value.int.injEq, Value.bool.injEq, AV.ms.injEq, AV.sb.injEq, AV.str.injEq, ↓reduceIte, Nat.reduceEqDiff, Nat.reduceLT, List.length_append, List.length_cons, List.length_nil, Nat.zero_add, Nat.add_zero, Option.some.injEq, Blk.b.injEq, Blk.i.injEq, Nat.succ_ne_zero, Nat.reduceAdd, and_self]; try simp
                  · simp only [SameS, SameH, setSlot, gOf, AV.ren, renL, Blk.ren, Ax.look, Ax.put, reduceCtorEq, true_or, false_or, or_true, or_false, and_true, true_and, AV.w.injEq, Value.int.injEq, Value.bool.injEq, AV.ms.injEq, AV.sb.injEq, AV.str.injEq, ↓reduceIte, Nat.reduceEqDiff, Nat.reduceLT, List.length_append, List.length_cons, List.length_nil, Nat.zero_add, Nat.add_zero, Option.some.injEq, Blk.b.injEq, Blk.i.injEq, Nat.succ_ne_zero, Nat.reduceAdd, and_self]
                · rintro m σ ⟨q, rfl, hqJ, rfl⟩
                  by_cases hql : q ≤ J
                  · have hqV : q * V ≤ J * V := Nat.mul_le_mul_right V hql
                    have d4 : decide (((q * V : Nat) : Int) ≤ (J * V : Nat)) = true := decide_eq_true (by omega)
                    have e1 : (((q * V : Nat) : Int) + V + 9223372036854775808) % 18446744073709551616 - 9223372036854775808 = (((q + 1) * V : Nat) : Int) := by rw [Nat.succ_mul]; omega
                    have hs1 := slot_ent es (q * V) (by omega)
                    have hb := hbelow q (by omega) hql
                    have hlt : q * V < es.length := by omega
                    obtain ⟨P, hP⟩ : ∃ P, es[q * V]'(by omega) = P := ⟨_, rfl⟩
                    rw [hP] at hs1 hb
                    simp only [ent] at hs1
                    have dP : decide (P.t ≥ tm) = false := decide_eq_false (by omega)
                    simp -implicitDefEqProofs only [evT, implies_true, forall_const, Option.getD, later_normal, aop, aLen, ev, slot, setSlot, putSlot, cv, cvl, aConv, aBin, aInt, aUn, aFn, aEq, Out.and, isBool, isPtr, List.length, IntKind.bits, evs, evo, evps, aCall, aUser, coes, coe, List.append, List.replicate, callOut, rootsL, AV.roots, lendsL, AV.lends, pinsOf, nodup, lendL, lend, closedB, noimmB, AV.noimm, AV.ren, renL, back, Nat.reduceAdd, Nat.reduceSub, Nat.reduceMul, Int.reduceToNat, reduceCtorEq, aLoad, subv, aIndexAddr, aIndex, TD.aggr, guardSlot, aPick, byte, word, aMin, aMax, Ax.Ends, EndsX, Ax.rvals, rone, AV.ids, idsL, newIds, upTo, pinHeap, gOf, ↓reduceIte, List.isEmpty, Int.reducePow, Nat.reducePow, Int.reduceMod, Nat.reduceLeDiff, Int.reduceLE, Int.reduceNe, Int.reduceEq, aBuildSlice, fillB, aAppend, appendB, viewB, Ax.look, Ax.put, Ax.drop, List.drop, List.take, asv, aMake, aCopy, srcB, fillG, viewG, appendG, appendI, fillI, aSlice, bnd, bnds, full3, cut, aFieldAddr, aField, aStore, setB, aBox, aBuild, fillS, allTy, AV.leaves, AV.okv, AV.leaf, one, splice, elemLeaves, Blk.size, Blk.len, Option.isSome, Option.isNone, isBytes, aStr, aNil, aAlloc, aExtract, viewI, Nat.reduceEqDiff, Nat.reduceLT, Nat.reduceBEq, List.contains, List.elem, Blk.closed, closedL, AV.closed, Blk.noimm, ↓gsplit_tt, ↓gsplit_ff, ↓gsplit_tf, ↓gsplit_ft, ↓csplit_t, ↓csplit_f, Ax.idx, AV.lentIds, lentIdsL, dropAll, givenUp, AV.clean, cleanL, Blk.clean, cleanB, quietC, flatTy, coldStr, notMs, eqV, eqF, isStruct, -coe, coe_w, coe_str, coe_agg, coe_tup, coe_sb, coe_si, coe_cp, coe_ms, coe_rf, coe_fn, coe_cons, ty, Sitimes, yesS, lastS, buildI12S, findIS, hl4, d4, e1, hs1, dP, Int.toNat_natCast]
                    repeat (refine And.intro (by omega) ?_)
                    refine ⟨J + 1 - (q + 1), _, by omega, weak_ren [0, 1, 2, 3, 4] rfl rfl rfl ?_ ?_, q + 1, rfl, by omega, rfl⟩
                    · simp only [SameS, SameH, setSlot, gOf, AV.ren, renL, Blk.ren, Ax.look, Ax.put, reduceCtorEq, true_or, false_or, or_true, or_false, and_true, true_and, AV.w.injEq, Value.int.injEq, Value.bool.injEq, AV.ms.injEq, AV.sb.injEq, AV.str.injEq, ↓reduceIte, Nat.reduceEqDiff, Nat.reduceLT, List.length_append, List.length_cons, List.length_nil, Nat.zero_add, Nat.add_zero, Option.some.injEq, Blk.b.injEq, Blk.i.injEq, Nat.succ_ne_zero, Nat.reduceAdd, and_self]
                    · simp only [SameS, SameH, setSlot, gOf, AV.ren, renL, Blk.ren, Ax.look, Ax.put, reduceCtorEq, true_or, false_or, or_true, or_false, and_true, true_and, AV.w.injEq, Value.int.injEq, Value.bool.injEq, AV.ms.injEq, AV.sb.injEq, AV.str.injEq, ↓reduceIte, Nat.reduceEqDiff, Nat.reduceLT, List.length_append, List.length_cons, List.length_nil, Nat.zero_add, Nat.add_zero, Option.some.injEq, Blk.b.injEq, Blk.i.injEq, Nat.succ_ne_zero, Nat.reduceAdd, and_self]
                  · obtain rfl : q = J + 1 := by omega
                    have hJV : (J + 1) * V = J * V + V := Nat.succ_mul J V
                    have d4 : decide ((((J + 1) * V : Nat) : Int) ≤ (J * V : Nat)) = false := decide_eq_false (by omega)
                    have e1 : (((J * V : Nat) : Int) + V + 9223372036854775808) % 18446744073709551616 - 9223372036854775808 = (((J + 1) * V : Nat) : Int) := by omega
                    by_cases hz : es.length ≤ (J + 1) * V
                    · have dz : decide ((((J + 1) * V : Nat) : Int) ≥ es.length) = true := decide_eq_true (by omega)
                      simp -implicitDefEqProofs only [evT, implies_true, forall_const, Option.getD, later_normal, aop, aLen, ev, slot, setSlot, putSlot, cv, cvl, aConv, aBin, aInt, aUn, aFn, aEq, Out.and, isBool, isPtr, List.length, IntKind.bits, evs, evo, evps, aCall, aUser, coes, coe, List.append, List.replicate, callOut, rootsL, AV.roots, lendsL, AV.lends, pinsOf, nodup, lendL, lend, closedB, noimmB, AV.noimm, AV.ren, renL, back, Nat.reduceAdd, Nat.reduceSub, Nat.reduceMul, Int.reduceToNat, reduceCtorEq, aLoad, subv, aIndexAddr, aIndex, TD.aggr, guardSlot, aPick, byte, word, aMin, aMax, Ax.Ends, EndsX, Ax.rvals, rone, AV.ids, idsL, newIds, upTo, pinHeap, gOf, ↓reduceIte, List.isEmpty, Int.reducePow, Nat.reducePow, Int.reduceMod, Nat.reduceLeDiff, Int.reduceLE, Int.reduceNe, Int.reduceEq, aBuildSlice, fillB, aAppend, appendB, viewB, Ax.look, Ax.put, Ax.drop, List.drop, List.take, asv, aMake, aCopy, srcB, fillG, viewG, appendG, appendI, fillI, aSlice, bnd, bnds, full3, cut, aFieldAddr, aField, aStore, setB, aBox, aBuild, fillS, allTy, AV.leaves, AV.okv, AV.leaf, one, splice, elemLeaves, Blk.size, Blk.len, Option.isSome, Option.isNone, isBytes, aStr, aNil, aAlloc, aExtract, viewI, Nat.reduceEqDiff, Nat.reduceLT, Nat.reduceBEq, List.contains, List.elem, Blk.closed, closedL, AV.closed, Blk.noimm, ↓gsplit_tt, ↓gsplit_ff, ↓gsplit_tf, ↓gsplit_ft, ↓csplit_t, ↓csplit_f, Ax.idx, AV.lentIds, lentIdsL, dropAll, givenUp, AV.clean, cleanL, Blk.clean, cleanB, quietC, flatTy, coldStr, notMs, eqV, eqF, isStruct, -coe, coe_w, coe_str, coe_agg, coe_tup, coe_sb, coe_si, coe_cp, coe_ms, coe_rf, coe_fn, coe_cons, ty, Sitimes, yesS, lastS, buildI12S, findIS, hl4, d4, e1, dz, Int.toNat_natCast]
                    · have dz : decide ((((J + 1) * V : Nat) : Int) ≥ es.length) = false := decide_eq_false (by omega)
                      have hs1 := slot_ent es ((J + 1) * V) (by omega)
                      have hb := habove (by omega)
                      obtain ⟨P, hP⟩ : ∃ P, es[(J + 1) * V]'(by omega) = P := ⟨_, rfl⟩
                      rw [hP] at hs1 hb
                      simp only [ent] at hs1
                      have dP : decide (P.t ≥ tm) = true := decide_eq_true hb
                      simp -implicitDefEqProofs only [evT, implies_true, forall_const, Option.getD, later_normal, aop, aLen, ev, slot, setSlot, putSlot, cv, cvl, aConv, aBin, aInt, aUn, aFn, aEq, Out.and, isBool, isPtr, List.length, IntKind.bits, evs, evo, evps, aCall, aUser, coes, coe, List.append, List.replicate, callOut, rootsL, AV.roots, lendsL, AV.lends, pinsOf, nodup, lendL, lend, closedB, noimmB, AV.noimm, AV.ren, renL, back, Nat.reduceAdd, Nat.reduceSub, Nat.reduceMul, Int.reduceToNat, reduceCtorEq, aLoad, subv, aIndexAddr, aIndex, TD.aggr, guardSlot, aPick, byte, word, aMin, aMax, Ax.Ends, EndsX, Ax.rvals, rone, AV.ids, idsL, newIds, upTo, pinHeap, gOf, ↓reduceIte, List.isEmpty, Int.reducePow, Nat.reducePow, Int.reduceMod, Nat.reduceLeDiff, Int.reduceLE, Int.reduceNe, Int.reduceEq, aBuildSlice, fillB, aAppend, appendB, viewB, Ax.look, Ax.put, Ax.drop, List.drop, List.take, asv, aMake, aCopy, srcB, fillG, viewG, appendG, appendI, fillI, aSlice, bnd, bnds, full3, cut, aFieldAddr, aField, aStore, setB, aBox, aBuild, fillS, allTy, AV.leaves, AV.okv, AV.leaf, one, splice, elemLeaves, Blk.size, Blk.len, Option.isSome, Option.isNone, isBytes, aStr, aNil, aAlloc, aExtract, viewI, Nat.reduceEqDiff, Nat.reduceLT, Nat.reduceBEq, List.contains, List.elem, Blk.closed, closedL, AV.closed, Blk.noimm, ↓gsplit_tt, ↓gsplit_ff, ↓gsplit_tf, ↓gsplit_ft, ↓csplit_t, ↓csplit_f, Ax.idx, AV.lentIds, lentIdsL, dropAll, givenUp, AV.clean, cleanL, Blk.clean, cleanB, quietC, flatTy, coldStr, notMs, eqV, eqF, isStruct, -coe, coe_w, coe_str, coe_agg, coe_tup, coe_sb, coe_si, coe_cp, coe_ms, coe_rf, coe_fn, coe_cons, ty, Sitimes, yesS, lastS, buildI12S, findIS, hl4, d4, e1, dz, hs1, dP, Int.toNat_natCast]
                      try omega
    · have d1 : decide ((60 : Int) < es.length) = true := decide_eq_true (by omega)
      simp -implicitDefEqProofs only [evT, implies_true, forall_const, Option.getD, later_normal, aop, aLen, ev, slot, setSlot, putSlot, cv, cvl, aConv, aBin, aInt, aUn, aFn, aEq, Out.and, isBool, isPtr, List.length, IntKind.bits, evs, evo, evps, aCall, aUser, coes, coe, List.append, List.replicate, callOut, rootsL, AV.roots, lendsL, AV.lends, pinsOf, nodup, lendL, lend, closedB, noimmB, AV.noimm, AV.ren, renL, back, Nat.reduceAdd, Nat.reduceSub, Nat.reduceMul, Int.reduceToNat, reduceCtorEq, aLoad, subv, aIndexAddr, aIndex, TD.aggr, guardSlot, aPick, byte, word, aMin, aMax, Ax.Ends, EndsX, Ax.rvals, rone, AV.ids, idsL, newIds, upTo, pinHeap, gOf, ↓reduceIte, List.isEmpty, Int.reducePow, Nat.reducePow, Int.reduceMod, Nat.reduceLeDiff, Int.reduceLE, Int.reduceNe, Int.reduceEq, aBuildSlice, fillB, aAppend, appendB, viewB, Ax.look, Ax.put, Ax.drop, List.drop, List.take, asv, aMake, aCopy, srcB, fillG, viewG, appendG, appendI, fillI, aSlice, bnd, bnds, full3, cut, aFieldAddr, aField, aStore, setB, aBox, aBuild, fillS, allTy, AV.leaves, AV.okv, AV.leaf, one, splice, elemLeaves, Blk.size, Blk.len, Option.isSome, Option.isNone, isBytes, aStr, aNil, aAlloc, aExtract, viewI, Nat.reduceEqDiff, Nat.reduceLT, Nat.reduceBEq, List.contains, List.elem, Blk.closed, closedL, AV.closed, Blk.noimm, ↓gsplit_tt, ↓gsplit_ff, ↓gsplit_tf, ↓gsplit_ft, ↓csplit_t, ↓csplit_f, Ax.idx, AV.lentIds, lentIdsL, dropAll, givenUp, AV.clean, cleanL, Blk.clean, cleanB, quietC, flatTy, coldStr, notMs, eqV, eqF, isStruct, -coe, coe_w, coe_str, coe_agg, coe_tup, coe_sb, coe_si, coe_cp, coe_ms, coe_rf, coe_fn, coe_cons, ty, Sitimes, yesS, lastS, buildI12S, findIS, hl4, d1]
  · exact hp.elim
end
end Go.Proofs.Ytoagncogikogpaa
