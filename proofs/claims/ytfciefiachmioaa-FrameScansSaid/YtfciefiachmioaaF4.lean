/- Layer 7: what is laid is read; what every right program frames. -/
import Derived.Test.YtfciefiachmioaaF3
import Derived.Test.YtfciefiachmioaaC3
namespace Go.Proofs.Ytfciefiachmioaa
open Ax
set_option linter.unusedSimpArgs false
set_option linter.unusedVariables false

theorem bodyF_num (b : List UInt8) (h : b.length ≤ 8192) (n : Nat) (hn : 4 ≤ n) : unfL (last8 ((bodyF b).take n |>.take 4)) 0 = b.length := by
  have e : ((bodyF b).take n).take 4 = fixL b.length 4 := by
    rw [List.take_take, Nat.min_eq_left hn]
    unfold bodyF
    rw [List.take_append_of_le_length (by rw [fixL_length]; exact Nat.le_refl _), List.take_of_length_le (by rw [fixL_length]; exact Nat.le_refl _)]
  have e8 : last8 (fixL b.length 4) = fixL b.length 4 := by unfold last8; rw [fixL_length]; rfl
  rw [e, e8, unf_fix]
  have : (256 : Nat) ^ 4 = 4294967296 := by decide
  rw [this]; omega
theorem bodyF_drop (b : List UInt8) : (bodyF b).drop 4 = sealL b := by
  unfold bodyF
  rw [List.drop_append_of_le_length (by rw [fixL_length]; exact Nat.le_refl _), List.drop_of_length_le (by rw [fixL_length]; exact Nat.le_refl _), List.nil_append]
/-- A body that is laid is read, where what stands behind goes on with nothing. -/
theorem one_lay (b : List UInt8) (S : List (List UInt8)) (h : b.length ≤ 8192) (hS : joinGo false S = []) : oneE (flayL b ++ S) = 0 ∧ oneB (flayL b ++ S) = b ∧ oneN (flayL b ++ S) = ((flayL b).length : Int) := by
  have hF : flayL b = layL (bodyF b) := if_pos h
  rw [hF]
  obtain ⟨j1, j2, j3⟩ := join_back (bodyF b) S hS
  have hl := bodyF_length b
  have hc : oneC (bodyF b) := by
    refine ⟨by omega, ?_⟩
    have := bodyF_num b h (bodyF b).length (by omega)
    rw [List.take_length] at this
    rw [this]; omega
  have hE : oneE (layL (bodyF b) ++ S) = 0 := by
    unfold oneE
    rw [if_pos j3, j1, if_pos hc, bodyF_drop, open_seal]
  refine ⟨hE, ?_, ?_⟩
  · unfold oneB; rw [if_pos hE, j1, bodyF_drop, open_seal]
  · unfold oneN; rw [if_pos hE, j2, layL_len]
theorem flayL_pos (b : List UInt8) (h : b.length ≤ 8192) : 0 < (flayL b).length := by
  unfold flayL; rw [if_pos h]; unfold layL; simp
theorem flay_next (b : List UInt8) (S : List (List UInt8)) (h : b.length ≤ 8192) : joinGo false (flayL b ++ S) = [] := by
  unfold flayL; rw [if_pos h]
  exact if_neg (no_blk1 _ (by rw [List.length_take]; omega))
/-- Bodies with the places of their first blocks. -/
def places : Nat → List (List UInt8) → List (Nat × List UInt8)
  | _, [] => []
  | a, b :: r => (a, b) :: places (a + (flayL b).length) r
def allL (l : List (List UInt8)) : List (List UInt8) := l.flatMap flayL
theorem next_all : ∀ (l : List (List UInt8)) (S : List (List UInt8)), (∀ b ∈ l, b.length ≤ 8192) → joinGo false S = [] → joinGo false (allL l ++ S) = []
  | [], S, _, h => h
  | b :: r, S, h, _ => by
    unfold allL
    rw [List.flatMap_cons, List.append_assoc]
    exact flay_next b _ (h b (by simp))
theorem scan_all : ∀ (l : List (List UInt8)) (S : List (List UInt8)) (n a : Nat), (∀ b ∈ l, b.length ≤ 8192) → joinGo false S = [] → oneE S ≠ 0 → l.length < n → scanGo n a (allL l ++ S) = (places a l, a + (allL l).length)
  | [], S, n + 1, a, _, _, hE, _ => by
    unfold scanGo
    rw [show allL [] ++ S = S from rfl, if_neg hE]; rfl
  | b :: r, S, n + 1, a, h, hS, hE, hn => by
    have hb := h b (by simp)
    have hr := fun x hx => h x (List.mem_cons_of_mem _ hx)
    have e : allL (b :: r) ++ S = flayL b ++ (allL r ++ S) := by unfold allL; rw [List.flatMap_cons, List.append_assoc]
    obtain ⟨o1, o2, o3⟩ := one_lay b (allL r ++ S) hb (next_all r S hr hS)
    unfold scanGo
    rw [e, if_pos o1, o2, o3, Int.toNat_natCast, List.drop_left]
    rw [scan_all r S n (a + (flayL b).length) hr hS hE (by simpa using hn)]
    simp [places, allL, Nat.add_assoc]
  | l, S, 0, a, _, _, _, hn => by omega
theorem oneE_nil : oneE [] ≠ 0 := by decide
theorem allL_len (l : List (List UInt8)) (h : ∀ b ∈ l, b.length ≤ 8192) : l.length ≤ (allL l).length := by
  induction l with
  | nil => exact Nat.zero_le _
  | cons b r ih =>
    have := ih (fun x hx => h x (List.mem_cons_of_mem _ hx))
    have h2 := flayL_pos b (h b (by simp))
    unfold allL at this ⊢
    rw [List.flatMap_cons, List.length_append, List.length_cons]; omega

/-- What is sound of arguments that are told so is sound of those that are told otherwise. -/
theorem Sound.told {P : Program} {f : FuncId} {spec spec' : FSpec} (h : Sound P f spec)
    (hw : ∀ xs pins, (spec' xs pins).p → ∃ xs', (spec xs' pins).p ∧ (spec' xs pins).x = (spec xs' pins).x ∧ (spec' xs pins).bl = (spec xs' pins).bl ∧ xs'.length = xs.length ∧
      ∀ (w : World) (loc : Ax.Loc) (vs : List Value), (∀ (j : Nat) (h : j < xs.length) (h' : j < vs.length), R w loc xs[j] vs[j]) → ∀ (j : Nat) (h : j < xs'.length) (h' : j < vs.length), R w loc xs'[j] vs[j]) : Sound P f spec' := by
  intro xs pins hp hcl w bad pb vs h1 h2 h3 h4 h5 h6
  obtain ⟨xs', hp', hx, hb, hlen, hR⟩ := hw xs pins hp
  refine (h xs' pins hp' hcl w bad pb vs h1 h2 h3 h4 (hlen.trans h5) (hR w _ vs h6)).mono ?_
  rintro e w' ⟨v, loc', rfl, g⟩
  refine ⟨v, loc', rfl, ?_⟩
  generalize spec' xs pins = q' at hx hb
  generalize spec xs' pins = q at hx hb g
  obtain ⟨p', x', bl'⟩ := q'
  obtain ⟨p, x, bl⟩ := q
  simp only at hx hb
  subst hx hb
  exact ⟨g.r, g.bad, g.bl, g.old, g.new, g.none, g.inj, g.fram⟩
theorem flat1 : ∀ (xs : List AV), (∀ x ∈ xs, x.leaves = [x]) → xs.flatMap AV.leaves = xs
  | [], _ => rfl
  | x :: r, h => by rw [List.flatMap_cons, h x (by simp), flat1 r (fun y hy => h y (List.mem_cons_of_mem _ hy))]; rfl
/-- A nil slice at the end of a list of bytes. -/
theorem R_last {w : World} {loc : Ax.Loc} {A : List AV} {g f : Bool} {v : Value} (hA : ∀ x ∈ A, x.leaves = [x]) (h : R w loc (.sg 1 (A ++ [.sg 1 [] g]) f) v) : R w loc (.sg 1 (A ++ [.sb [] g]) f) v := by
  have e1 : (A ++ [AV.sg 1 [] g]).flatMap AV.leaves = A ++ [AV.sg 1 [] g] := flat1 _ (fun x hx => by
    rcases List.mem_append.1 hx with hx | hx
    · exact hA x hx
    · simp only [List.mem_singleton] at hx; subst hx; rfl)
  have e2 : (A ++ [AV.sb [] g]).flatMap AV.leaves = A ++ [AV.sb [] g] := flat1 _ (fun x hx => by
    rcases List.mem_append.1 hx with hx | hx
    · exact hA x hx
    · simp only [List.mem_singleton] at hx; subst hx; rfl)
  cases h with
  | sg _ _ _ a cap cs hd hs hc hl hx h =>
    simp only [e1] at hl hx h
    have hlen : (A ++ [AV.sg 1 [] g]).length = (A ++ [AV.sb [] g]).length := by simp
    rw [hlen] at hd ⊢
    have hlA : (A ++ [AV.sb [] g]).length = A.length + 1 := by simp
    refine .sg 1 _ f a cap cs hd ?_ hc (by rw [e2, ← hlen]; exact hl) ?_ ?_
    · intro x hm
      rcases List.mem_append.1 hm with hm | hm
      · exact hs x (List.mem_append_left _ hm)
      · simp only [List.mem_singleton] at hm; subst hm; rfl
    · simp only [e2]
      intro j hj
      by_cases hj2 : j < A.length
      · have := hx j (by rw [hlen]; exact hj)
        rw [List.getElem_append_left hj2] at this ⊢
        exact this
      · have : j = A.length := by omega
        subst this
        simp [AV.leaf, AV.closed]
    · simp only [e2]
      intro j hj hj'
      have h0 := h j (by rw [hlen]; exact hj) hj'
      by_cases hj2 : j < A.length
      · rw [List.getElem_append_left hj2] at h0 ⊢
        exact h0
      · have : j = A.length := by omega
        subst this
        simp only [List.getElem_concat_length] at h0 ⊢
        generalize cs[A.length] = c at h0
        cases h0 with
        | sg _ _ _ a cap cs hd _ _ _ _ _ => exact .sb [] g a cap hd ⟨.inl rfl⟩
def scanA : FSpec
  | [.sg 1 xs f], [] => ⟨(∃ G : List (List UInt8), xs = G.map sbF ++ [.sg 1 [] true] ∧ ∀ x ∈ G, x.length ≤ 1000000) ∧ xs.length ≤ 10000,
      .tup [.ms 0 2 0 (scanF (xs.map avB)).1.length, .w (.int .i64 (((scanF (xs.map avB)).2 : Nat) : Int))], [.g 2 ((scanF (xs.map avB)).1.map fnd)]⟩
  | _, _ => noRes
def fsameS : FSpec
  | [.agg [.w (.int .i64 a), .sb b _], .agg [.w (.int .i64 c), .sb d _]], [] => ⟨True, .w (.bool (decide (a = c ∧ b = d))), []⟩
  | _, _ => noRes
section
set_option maxRecDepth 100000
theorem scanA_sound : Sound Try.prog 28 scanA := by
  refine Sound.told scan_sound ?_
  intro xs pins hp
  unfold scanA at hp ⊢
  split at hp
  · rename_i ys f
    obtain ⟨⟨G, rfl, hG⟩, hL⟩ := hp
    refine ⟨[.sg 1 (G.map sbF ++ [.sb [] true]) f], ?_, ?_, ?_, rfl, ?_⟩
    · refine ⟨⟨G.map (fun x => (x, false)) ++ [([], true)], by simp [sbF, sbp], ?_⟩, by simpa using hL⟩
      intro p hp
      rcases List.mem_append.1 hp with hp | hp
      · obtain ⟨x, hx, rfl⟩ := List.mem_map.1 hp; exact hG x hx
      · simp only [List.mem_singleton] at hp; subst hp; exact Nat.zero_le _
    · unfold scanS; simp [avB]
    · unfold scanS; simp [avB]
    · intro w loc vs h j hj hj'
      have : j = 0 := by simpa using hj
      subst this
      exact R_last (fun x hx => by obtain ⟨y, _, rfl⟩ := List.mem_map.1 hx; rfl) (h 0 (by simp) hj')
  · exact hp.elim
def Sfsame (f : FuncId) : Option FSpec :=
  match f with
  | 41 => some beqS
  | _ => none
theorem Sfsame_ok : Fns Try.prog Sfsame := by
  intro f s h
  unfold Sfsame at h
  split at h
  · injection h with h; subst h; exact ⟨⟨_, Try.func41, by kernel_rfl, by kernel_rfl⟩, beq_sound⟩
  · cases h
theorem fsame_sound : Sound Try.prog 32 fsameS := by
  refine fn_sound (S := Sfsame) (T := ty) mixed ty_ok Sfsame_ok Try.func32 (c := Try.f32.body.getD .skip) (by kernel_rfl) (by kernel_rfl) (fun xs pins hp _ => ?_)
  unfold fsameS at hp ⊢
  split at hp
  · rename_i a b f c d g _
    refine ⟨by simp, ?_⟩
    unfold Try.f32
    by_cases h : a = c
    · have d1 : decide (a = c) = true := decide_eq_true h
      have d2 : decide (a = c ∧ b = d) = decide (b = d) := by simp [h]
      simp -implicitDefEqProofs only [Option.getD, awp_skip, awp_label, awp_ret, awp_exit, awp_region, awp_seq, awp_block, awp_cond, aops_nil, aops_plain, aops_guard, later_normal, later_exit, later_ret, blockK_normal, blockK_exit, blockK_ret, regK_apply, aop, aLen, ev, slot, setSlot, putSlot, cv, cvl, aConv, aBin, aInt, aUn, aEq, Out.and, isBool, isPtr, true_and, and_true, List.length, IntKind.bits, evs, evo, evps, aCall, aUser, coes, coe, List.append, List.replicate, callOut, rootsL, AV.roots, lendsL, AV.lends, pinsOf, nodup, lendL, lend, closedB, noimmB, AV.noimm, AV.ren, renL, back, Nat.reduceAdd, Nat.reduceSub, Nat.reduceMul, Int.reduceToNat, Nat.le_refl, reduceCtorEq, false_implies, implies_true, List.nil_append, List.append_nil, List.cons_append, Nat.zero_le, Bool.false_eq_true, aLoad, subv, aIndexAddr, aIndex, TD.aggr, cond_false, cond_true, guardSlot, List.getElem?_cons_succ, List.getElem?_cons_zero, aPick, byte, word, aMin, aMax, Ax.Ends, EndsX, Ax.rvals, rone, AV.ids, idsL, newIds, upTo, pinHeap, gOf, ↓reduceIte, forall_const, List.isEmpty, ne_eq, not_false_eq_true, and_self, true_implies, AV.w.injEq, Value.int.injEq, Value.bool.injEq, IntKind.wrap_u8, IntKind.wrap_u64, IntKind.wrap_i64, Int.reducePow, Nat.reducePow, Nat.min_def, Int.reduceMod, Nat.reduceLeDiff, Int.reduceLE, Int.reduceNe, Int.reduceEq, aBuildSlice, fillB, aAppend, appendB, viewB, Ax.look, Ax.put, Ax.drop, List.drop, List.take, List.set_cons_zero, List.set_cons_succ, asv, aMake, aCopy, srcB, fillG, viewG, appendG, appendI, fillI, aSlice, bnd, bnds, full3, cut, aFieldAddr, aField, aLoad, aStore, setB, aBox, aBuild, fillS, allTy, AV.leaves, AV.okv, AV.leaf, one, splice, elemLeaves, Blk.size, Blk.len, List.replicate_succ, List.replicate_zero, Option.isSome, Option.isNone, isBytes, aStr, aNil, aAlloc, aExtract, aConv, viewI, Nat.reduceEqDiff, Nat.reduceLT, List.length_append, List.length_cons, List.length_nil, Nat.zero_add, Nat.add_zero, Nat.reduceBEq, List.contains, List.elem, Bool.not_true, Bool.not_false, Bool.true_and, Bool.and_true, Bool.and_false, Bool.false_and, Blk.closed, closedL, AV.closed, Blk.noimm, not_true_eq_false, not_false_iff, or_false, or_true, false_or, true_or, Int.toNat_natCast, List.length_replicate, setB, ↓gsplit_tt, ↓gsplit_ff, ↓gsplit_tf, ↓gsplit_ft, gsplit_bt, gsplit_bf, ↓csplit_t, ↓csplit_f, csplit_b, Ax.idx, beq_self_eq_true, BEq.rfl, pinsOf, List.mem_cons, List.not_mem_nil, AV.lentIds, lentIdsL, dropAll, givenUp, AV.clean, cleanL, Blk.clean, cleanB, quietC, flatTy, List.all_cons, List.all_nil, Bool.or_false, Bool.or_true, Bool.true_or, Bool.false_or, decide_true, decide_false, coldStr, notMs, eqV, eqF, isStruct, ty, Sfsame, beqS, d1, d2]
    · have d1 : decide (a = c) = false := decide_eq_false h
      have d2 : decide (a = c ∧ b = d) = false := decide_eq_false (fun q => h q.1)
      simp -implicitDefEqProofs only [Option.getD, awp_skip, awp_label, awp_ret, awp_exit, awp_region, awp_seq, awp_block, awp_cond, aops_nil, aops_plain, aops_guard, later_normal, later_exit, later_ret, blockK_normal, blockK_exit, blockK_ret, regK_apply, aop, aLen, ev, slot, setSlot, putSlot, cv, cvl, aConv, aBin, aInt, aUn, aEq, Out.and, isBool, isPtr, true_and, and_true, List.length, IntKind.bits, evs, evo, evps, aCall, aUser, coes, coe, List.append, List.replicate, callOut, rootsL, AV.roots, lendsL, AV.lends, pinsOf, nodup, lendL, lend, closedB, noimmB, AV.noimm, AV.ren, renL, back, Nat.reduceAdd, Nat.reduceSub, Nat.reduceMul, Int.reduceToNat, Nat.le_refl, reduceCtorEq, false_implies, implies_true, List.nil_append, List.append_nil, List.cons_append, Nat.zero_le, Bool.false_eq_true, aLoad, subv, aIndexAddr, aIndex, TD.aggr, cond_false, cond_true, guardSlot, List.getElem?_cons_succ, List.getElem?_cons_zero, aPick, byte, word, aMin, aMax, Ax.Ends, EndsX, Ax.rvals, rone, AV.ids, idsL, newIds, upTo, pinHeap, gOf, ↓reduceIte, forall_const, List.isEmpty, ne_eq, not_false_eq_true, and_self, true_implies, AV.w.injEq, Value.int.injEq, Value.bool.injEq, IntKind.wrap_u8, IntKind.wrap_u64, IntKind.wrap_i64, Int.reducePow, Nat.reducePow, Nat.min_def, Int.reduceMod, Nat.reduceLeDiff, Int.reduceLE, Int.reduceNe, Int.reduceEq, aBuildSlice, fillB, aAppend, appendB, viewB, Ax.look, Ax.put, Ax.drop, List.drop, List.take, List.set_cons_zero, List.set_cons_succ, asv, aMake, aCopy, srcB, fillG, viewG, appendG, appendI, fillI, aSlice, bnd, bnds, full3, cut, aFieldAddr, aField, aLoad, aStore, setB, aBox, aBuild, fillS, allTy, AV.leaves, AV.okv, AV.leaf, one, splice, elemLeaves, Blk.size, Blk.len, List.replicate_succ, List.replicate_zero, Option.isSome, Option.isNone, isBytes, aStr, aNil, aAlloc, aExtract, aConv, viewI, Nat.reduceEqDiff, Nat.reduceLT, List.length_append, List.length_cons, List.length_nil, Nat.zero_add, Nat.add_zero, Nat.reduceBEq, List.contains, List.elem, Bool.not_true, Bool.not_false, Bool.true_and, Bool.and_true, Bool.and_false, Bool.false_and, Blk.closed, closedL, AV.closed, Blk.noimm, not_true_eq_false, not_false_iff, or_false, or_true, false_or, true_or, Int.toNat_natCast, List.length_replicate, setB, ↓gsplit_tt, ↓gsplit_ff, ↓gsplit_tf, ↓gsplit_ft, gsplit_bt, gsplit_bf, ↓csplit_t, ↓csplit_f, csplit_b, Ax.idx, beq_self_eq_true, BEq.rfl, pinsOf, List.mem_cons, List.not_mem_nil, AV.lentIds, lentIdsL, dropAll, givenUp, AV.clean, cleanL, Blk.clean, cleanB, quietC, flatTy, List.all_cons, List.all_nil, Bool.or_false, Bool.or_true, Bool.true_or, Bool.false_or, decide_true, decide_false, coldStr, notMs, eqV, eqF, isStruct, ty, Sfsame, beqS, d1, d2]
  · exact hp.elim
end
end Go.Proofs.Ytfciefiachmioaa
