/- Layer 7: the law of bodies that are scanned as they were. -/
import Derived.Test.YtfciefiachmioaaF6
import Derived.Test.YtfciefiachmioaaK7
namespace Go.Proofs.Ytfciefiachmioaa
open Ax
set_option linter.unusedSimpArgs false
set_option linter.unusedVariables false

theorem places_get : ∀ (l : List (List UInt8)) (a i : Nat) (h : i < (places a l).length) (h' : i < l.length), (places a l)[i] = (a + (allL (l.take i)).length, l[i])
  | b :: r, a, 0, h, h' => by simp [places, allL]
  | b :: r, a, i + 1, h, h' => by
    simp only [places, List.getElem_cons_succ]
    rw [places_get r _ i (by simpa [places] using h) (by simpa using h')]
    simp [allL, Nat.add_assoc]
theorem places_len : ∀ (l : List (List UInt8)) (a : Nat), (places a l).length = l.length
  | [], _ => rfl
  | b :: r, a => by simp [places, places_len r]
theorem scan_back (bs : List (List UInt8)) (h : okB bs) : scanF (allL bs) = (places 0 bs, (allL bs).length) := by
  have hb : ∀ b ∈ bs, b.length ≤ 8192 := fun b hb => by have := h b hb; omega
  have := scan_all bs [] ((allL bs).length + 1) 0 hb rfl oneE_nil (by have := allL_len bs hb; omega)
  rw [List.append_nil, Nat.zero_add] at this
  exact this
def fbackS : FSpec
  | [.sg 1 xs _], [] => ⟨xs.length ≤ 9223372036854775807 ∧ ∃ ps : List (List UInt8 × Bool), xs = ps.map sbp, .w (.bool true), []⟩
  | _, _ => noRes
def Sfback (f : FuncId) : Option FSpec :=
  match f with
  | 19 => some yes7S
  | 33 => some laidS
  | 28 => some scanS
  | 23 => some fneedS
  | _ => none
theorem Sfback_ok : Fns Try.prog Sfback := by
  intro f s h
  unfold Sfback at h
  split at h
  · injection h with h; subst h; exact ⟨⟨_, Try.func19, by kernel_rfl, by kernel_rfl⟩, awake7_sound⟩
  · injection h with h; subst h; exact ⟨⟨_, Try.func33, by kernel_rfl, by kernel_rfl⟩, laid_sound⟩
  · injection h with h; subst h; exact ⟨⟨_, Try.func28, by kernel_rfl, by kernel_rfl⟩, scan_sound⟩
  · injection h with h; subst h; exact ⟨⟨_, Try.func23, by kernel_rfl, by kernel_rfl⟩, fneed_sound⟩
  · cases h
def fbackPl : KPlan := fun id => match id with
  | 6 => some ([3], none)
  | _ => none
section
set_option maxRecDepth 100000
set_option maxHeartbeats 1000000 in
theorem fback_law : Sound Try.prog 8 fbackS := by
  refine fn_soundK (S := Sfback) (T := ty) (pl := fbackPl) mixed ty_ok Sfback_ok Try.func8 (c := Try.f8.body.getD .skip) (by kernel_rfl) (by kernel_rfl) (fun xs pins hp _ => ?_)
  unfold fbackS at hp ⊢
  split at hp
  · rename_i xs f _
    obtain ⟨hL, ps, rfl⟩ := hp
    refine ⟨by simp, ?_⟩
    have hl4 : (ps.map sbp).length = ps.length := by simp
    have hcoe : coe ty 42 (.sg 1 (ps.map sbp) f) = .sg 1 (ps.map sbp) f := by cases ps <;> rfl
    unfold Try.f8
    by_cases h10 : ps.length ≤ 10
    · have d1 : decide ((10 : Int) < ps.length) = false := decide_eq_false (by omega)
      have hex : ∃ ps_1 : List (List UInt8 × Bool), ps.map sbp = ps_1.map sbp := ⟨ps, rfl⟩
      have hsm : ps.length ≤ 1000 := by omega
      obtain ⟨bs, hbs⟩ : ∃ bs, ps.map Prod.fst = bs := ⟨_, rfl⟩
      have hbl : bs.length = ps.length := by rw [← hbs]; simp
      by_cases hok : okB bs
      · have dok : decide (okB bs) = true := decide_eq_true hok
        have hLL : laidL bs = allL bs := if_pos hok
        have hEE : laidE bs = endsL bs := if_pos hok
        have hsc := scan_back bs hok
        have hal := allL_le bs hok
        have hel : (endsL bs).length = bs.length := by simp [endsL]
        have hpl := places_len bs 0
        have hmem : ∀ x ∈ allL bs, x.length ≤ 1000000 := by
          intro x hx
          obtain ⟨b, hb, hx⟩ := List.mem_flatMap.1 hx
          have : flayL b = layL (bodyF b) := if_pos (by have := hok b hb; omega)
          rw [this] at hx
          rw [mem_lay _ _ hx]; decide
        have hpre := join_pre (allL bs) hmem
        have hA : ∀ i (h : i ≤ bs.length), (allL (bs.take i)).length ≤ 60 := fun i h => by
          have := allL_le (bs.take i) (fun b hb => hok b (List.mem_of_mem_take hb))
          rw [List.length_take] at this; omega
        have hE1 : ∀ i (h : i < bs.length), (endsL bs).getD i 0 = ((allL (bs.take (i + 1))).length : Int) := fun i h => by
          unfold endsL; simp [h]
        have hst : ∀ i (h : i < bs.length), (allL (bs.take (i + 1))).length = (allL (bs.take i)).length + (flayL bs[i]).length := fun i h => by
          rw [List.take_succ_eq_append_getElem h, allL_snoc, List.length_append]
        generalize hAL : allL bs = AL at *
        have etk : List.take AL.length (AL.map sbF) = AL.map sbF := List.take_of_length_le (by simp)
        have hlA : (AL.map sbF).length = AL.length := by simp
        have hplf : ((places 0 bs).map fnd).length = ps.length := by rw [List.length_map, hpl, hbl]
        have hpl2 : (places 0 bs).length = ps.length := by rw [hpl, hbl]
        have dself : decide ((ps.length : Int) = ps.length) = true := decide_eq_true rfl
        have dself2 : decide ((AL.length : Int) = AL.length) = true := decide_eq_true rfl
        have hcoe2 : ∀ (G : List (List UInt8)) (g : Bool), coe ty 42 (.sg 1 (G.map sbF) g) = .sg 1 (G.map sbF) g := fun G g => by cases G <;> rfl
        have hA4 : AL.length ≤ 10000 := by omega
        simp -implicitDefEqProofs only [Option.getD, awp_skip, awp_label, awp_ret, awp_exit, awp_region, awp_seq, awp_block, awp_cond, aops_nil, aops_plain, aops_guard, later_normal, later_exit, later_ret, blockK_normal, blockK_exit, blockK_ret, regK_apply, aop, aLen, ev, slot, setSlot, putSlot, cv, cvl, aConv, aBin, aInt, aUn, aEq, Out.and, isBool, isPtr, true_and, and_true, List.length, IntKind.bits, evs, evo, evps, aCall, aUser, coes, coe, List.append, List.replicate, callOut, rootsL, AV.roots, lendsL, AV.lends, pinsOf, nodup, lendL, lend, closedB, noimmB, AV.noimm, AV.ren, renL, back, Nat.reduceAdd, Nat.reduceSub, Nat.reduceMul, Int.reduceToNat, Nat.le_refl, reduceCtorEq, false_implies, implies_true, List.nil_append, List.append_nil, List.cons_append, Nat.zero_le, Bool.false_eq_true, aLoad, subv, aIndexAddr, aIndex, TD.aggr, cond_false, cond_true, guardSlot, List.getElem?_cons_succ, List.getElem?_cons_zero, aPick, byte, word, aMin, aMax, Ax.Ends, EndsX, Ax.rvals, rone, AV.ids, idsL, newIds, upTo, pinHeap, gOf, ↓reduceIte, forall_const, List.isEmpty, ne_eq, not_false_eq_true, and_self, true_implies, AV.w.injEq, Value.int.injEq, Value.bool.injEq, IntKind.wrap_u8, IntKind.wrap_u64, IntKind.wrap_i64, Int.reducePow, Nat.reducePow, Nat.min_def, Int.reduceMod, Nat.reduceLeDiff, Int.reduceLE, Int.reduceNe, Int.reduceEq, aBuildSlice, fillB, aAppend, appendB, viewB, Ax.look, Ax.put, Ax.drop, List.drop, List.take, List.set_cons_zero, List.set_cons_succ, asv, aMake, aCopy, srcB, fillG, viewG, appendG, appendI, fillI, aSlice, bnd, bnds, full3, cut, aFieldAddr, aField, aLoad, aStore, setB, aBox, aBuild, fillS, allTy, AV.leaves, AV.okv, AV.leaf, one, splice, elemLeaves, Blk.size, Blk.len, List.replicate_succ, List.replicate_zero, Option.isSome, Option.isNone, isBytes, aStr, aNil, aAlloc, aExtract, aConv, viewI, Nat.reduceEqDiff, Nat.reduceLT, List.length_append, List.length_cons, List.length_nil, Nat.zero_add, Nat.add_zero, Nat.reduceBEq, List.contains, List.elem, Bool.not_true, Bool.not_false, Bool.true_and, Bool.and_true, Bool.and_false, Bool.false_and, Blk.closed, closedL, AV.closed, Blk.noimm, not_true_eq_false, not_false_iff, or_false, or_true, false_or, true_or, Int.toNat_natCast, List.length_replicate, setB, ↓gsplit_tt, ↓gsplit_ff, ↓gsplit_tf, ↓gsplit_ft, gsplit_bt, gsplit_bf, ↓csplit_t, ↓csplit_f, csplit_b, Ax.idx, beq_self_eq_true, BEq.rfl, pinsOf, List.mem_cons, List.not_mem_nil, AV.lentIds, lentIdsL, dropAll, givenUp, AV.clean, cleanL, Blk.clean, cleanB, quietC, flatTy, List.all_cons, List.all_nil, Bool.or_false, Bool.or_true, Bool.true_or, Bool.false_or, decide_true, decide_false, coldStr, notMs, eqV, eqF, isStruct, awpK_skip, awpK_label, awpK_ret, awpK_exit, awpK_region, awpK_seq, awpK_block, awpK_cond, laterK_normal, laterK_exit, laterK_ret, frzS, frzL, ↓frzK_def, aopsK_zero, aopsK_succ, ↓keepK_def, keepA, fzL, fzH, AV.fz, Blk.fz, fgL, fgH, AV.fg, Blk.fg, -coe, coe_w, coe_str, coe_agg, coe_tup, coe_sb, coe_si, coe_cp, coe_ms, coe_rf, coe_fn, coe_cons, hcoe, hcoe2, ty, Sfback, fbackPl, yes7S, laidS, scanS, map_avB, sbF_avB, hl4, hbs, d1, hex, hsm, dok, hLL, hEE, hAL, hsc, hpl2, hlA, hplf, hel, hpre, hA4, etk, closed_sbF, dself, dself2]
        refine ⟨closed_fnd _, awpK_loopW ⟨fun m σ => ∃ i : Nat, m = ps.length - i ∧ i ≤ ps.length ∧
            σ = ⟨[.sg 1 (ps.map sbp) f, .junk, .junk, .junk, .ms 5 1 0 bs.length, .junk, .ms 4 2 0 ps.length, .junk, .w (.int .i64 ((allL (bs.take i)).length : Nat)), .w (.int .i64 i), .junk, .junk, .junk, .junk, .junk, .junk, .junk, .junk, .junk, .junk, .junk, .junk, .junk, .junk, .junk, .junk, .junk, .junk, .junk, .junk, .junk, .junk, .junk, .junk, .junk, .junk, .junk, .junk, .junk, .junk, .junk, .junk, .junk, .junk, .junk, .junk, .junk, .junk, .junk, .junk, .junk, .junk, .junk, .junk, .junk, .junk, .junk, .junk, .junk, .junk, .junk, .junk, .junk, .junk, .junk, .junk, .junk, .junk, .junk, .junk, .junk, .junk, .junk, .junk, .junk, .junk, .junk, .junk, .junk, .junk, .junk, .junk, .junk, .junk, .junk, .junk], [(4, .g 2 ((places 0 bs).map fnd)), (5, .i (endsL bs))], 6⟩, ?_, ?_⟩⟩
        · refine ⟨_, _, weak_ren [0, 1, 2, 3, 132, 45] rfl rfl rfl ?_ ?_, 0, rfl, by omega, rfl⟩
          · simp only [SameS, SameH, setSlot, gOf, AV.ren, renL, Blk.ren, Ax.look, Ax.put, reduceCtorEq, true_or, false_or, or_true, or_false, and_true, true_and, AV.w.injEq, Value.int.injEq, Value.bool.injEq, AV.ms.injEq, AV.sb.injEq, AV.str.injEq, ↓reduceIte, Nat.reduceEqDiff, Nat.reduceLT, List.length_append, List.length_cons, List.length_nil, Nat.zero_add, Nat.add_zero, Option.some.injEq, Blk.b.injEq, Blk.i.injEq, Nat.succ_ne_zero, Nat.reduceAdd, and_self]; exact ⟨rfl, rfl⟩
          · simp only [SameS, SameH, setSlot, gOf, AV.ren, renL, Blk.ren, Ax.look, Ax.put, reduceCtorEq, true_or, false_or, or_true, or_false, and_true, true_and, AV.w.injEq, Value.int.injEq, Value.bool.injEq, AV.ms.injEq, AV.sb.injEq, AV.str.injEq, ↓reduceIte, Nat.reduceEqDiff, Nat.reduceLT, List.length_append, List.length_cons, List.length_nil, Nat.zero_add, Nat.add_zero, Option.some.injEq, Blk.b.injEq, Blk.i.injEq, Nat.succ_ne_zero, Nat.reduceAdd, and_self, ren_fnd]
        · rintro m σ ⟨i, rfl, hi, rfl⟩
          have e1 : ((i : Int) + 1 + 9223372036854775808) % 18446744073709551616 - 9223372036854775808 = ((i + 1 : Nat) : Int) := by omega
          by_cases hil : i < ps.length
          · have d2 : decide ((i : Int) < ps.length) = true := decide_eq_true (by omega)
            have hib : i < bs.length := by omega
            have hsl := kslot_map sbp ps i hil
            have hsl2 := kslot_map fnd (places 0 bs) i (by omega)
            have hpg := places_get bs 0 i (by omega) hib
            have hbi : bs[i] = ps[i].1 := by simp [← hbs]
            have hE2 := hE1 i hib
            have hst2 := hst i hib
            have hA1 := hA i (by omega)
            have hA2 := hA (i + 1) (by omega)
            have hle3 := hok bs[i] (List.getElem_mem hib)
            obtain ⟨P, hP⟩ : ∃ P, ps[i] = P := ⟨_, rfl⟩
            rw [hP] at hsl hbi
            rw [hpg, Nat.zero_add, hbi] at hsl2
            rw [hbi] at hst2 hle3
            simp only [sbp] at hsl
            simp only [fnd] at hsl2
            have hfl := (flayL_len P.1 hle3).2
            generalize hA2' : (allL (bs.take (i + 1))).length = A2 at *
            generalize hAA : (allL (bs.take i)).length = A at *
            have e3 : ((A2 : Int) - (A : Int) + 9223372036854775808) % 18446744073709551616 - 9223372036854775808 = fneedI P.1.length := by omega
            have dA : decide ((A : Int) = A) = true := decide_eq_true rfl
            have dN : decide (fneedI P.1.length = fneedI P.1.length) = true := decide_eq_true rfl
            have q9 : (P.1.length : Int) ≤ 900000 := by omega
            have hl5 : ((places 0 bs).map fnd).length = ps.length := hplf
            simp -implicitDefEqProofs only [Option.getD, awp_skip, awp_label, awp_ret, awp_exit, awp_region, awp_seq, awp_block, awp_cond, aops_nil, aops_plain, aops_guard, later_normal, later_exit, later_ret, blockK_normal, blockK_exit, blockK_ret, regK_apply, aop, aLen, ev, slot, setSlot, putSlot, cv, cvl, aConv, aBin, aInt, aUn, aEq, Out.and, isBool, isPtr, true_and, and_true, List.length, IntKind.bits, evs, evo, evps, aCall, aUser, coes, coe, List.append, List.replicate, callOut, rootsL, AV.roots, lendsL, AV.lends, pinsOf, nodup, lendL, lend, closedB, noimmB, AV.noimm, AV.ren, renL, back, Nat.reduceAdd, Nat.reduceSub, Nat.reduceMul, Int.reduceToNat, Nat.le_refl, reduceCtorEq, false_implies, implies_true, List.nil_append, List.append_nil, List.cons_append, Nat.zero_le, Bool.false_eq_true, aLoad, subv, aIndexAddr, aIndex, TD.aggr, cond_false, cond_true, guardSlot, List.getElem?_cons_succ, List.getElem?_cons_zero, aPick, byte, word, aMin, aMax, Ax.Ends, EndsX, Ax.rvals, rone, AV.ids, idsL, newIds, upTo, pinHeap, gOf, ↓reduceIte, forall_const, List.isEmpty, ne_eq, not_false_eq_true, and_self, true_implies, AV.w.injEq, Value.int.injEq, Value.bool.injEq, IntKind.wrap_u8, IntKind.wrap_u64, IntKind.wrap_i64, Int.reducePow, Nat.reducePow, Nat.min_def, Int.reduceMod, Nat.reduceLeDiff, Int.reduceLE, Int.reduceNe, Int.reduceEq, aBuildSlice, fillB, aAppend, appendB, viewB, Ax.look, Ax.put, Ax.drop, List.drop, List.take, List.set_cons_zero, List.set_cons_succ, asv, aMake, aCopy, srcB, fillG, viewG, appendG, appendI, fillI, aSlice, bnd, bnds, full3, cut, aFieldAddr, aField, aLoad, aStore, setB, aBox, aBuild, fillS, allTy, AV.leaves, AV.okv, AV.leaf, one, splice, elemLeaves, Blk.size, Blk.len, List.replicate_succ, List.replicate_zero, Option.isSome, Option.isNone, isBytes, aStr, aNil, aAlloc, aExtract, aConv, viewI, Nat.reduceEqDiff, Nat.reduceLT, List.length_append, List.length_cons, List.length_nil, Nat.zero_add, Nat.add_zero, Nat.reduceBEq, List.contains, List.elem, Bool.not_true, Bool.not_false, Bool.true_and, Bool.and_true, Bool.and_false, Bool.false_and, Blk.closed, closedL, AV.closed, Blk.noimm, not_true_eq_false, not_false_iff, or_false, or_true, false_or, true_or, Int.toNat_natCast, List.length_replicate, setB, ↓gsplit_tt, ↓gsplit_ff, ↓gsplit_tf, ↓gsplit_ft, gsplit_bt, gsplit_bf, ↓csplit_t, ↓csplit_f, csplit_b, Ax.idx, beq_self_eq_true, BEq.rfl, pinsOf, List.mem_cons, List.not_mem_nil, AV.lentIds, lentIdsL, dropAll, givenUp, AV.clean, cleanL, Blk.clean, cleanB, quietC, flatTy, List.all_cons, List.all_nil, Bool.or_false, Bool.or_true, Bool.true_or, Bool.false_or, decide_true, decide_false, coldStr, notMs, eqV, eqF, isStruct, awpK_skip, awpK_label, awpK_ret, awpK_exit, awpK_region, awpK_seq, awpK_block, awpK_cond, laterK_normal, laterK_exit, laterK_ret, frzS, frzL, ↓frzK_def, aopsK_zero, aopsK_succ, ↓keepK_def, keepA, fzL, fzH, AV.fz, Blk.fz, fgL, fgH, AV.fg, Blk.fg, -coe, coe_w, coe_str, coe_agg, coe_tup, coe_sb, coe_si, coe_cp, coe_ms, coe_rf, coe_fn, coe_cons, hcoe, ty, Sfback, fbackPl, yes7S, fneedS, hl4, hl5, hpl2, hel, hbl, d2, hsl, hsl2, hE2, e1, e3, dA, dN, q9, Int.toNat_natCast, Nat.zero_add]
            repeat (refine And.intro (by omega) ?_)
            refine ⟨ps.length - (i + 1), _, by omega, weak_ren [0, 1, 2, 3, 4, 5] rfl rfl rfl ?_ ?_, i + 1, rfl, by omega, rfl⟩
            · simp only [SameS, SameH, setSlot, gOf, AV.ren, renL, Blk.ren, Ax.look, Ax.put, reduceCtorEq, true_or, false_or, or_true, or_false, and_true, true_and, AV.w.injEq, Value.int.injEq, Value.bool.injEq, AV.ms.injEq, AV.sb.injEq, AV.str.injEq, ↓reduceIte, Nat.reduceEqDiff, Nat.reduceLT, List.length_append, List.length_cons, List.length_nil, Nat.zero_add, Nat.add_zero, Option.some.injEq, Blk.b.injEq, Blk.i.injEq, Nat.succ_ne_zero, Nat.reduceAdd, and_self, hA2']
            · simp only [SameS, SameH, setSlot, gOf, AV.ren, renL, Blk.ren, Ax.look, Ax.put, reduceCtorEq, true_or, false_or, or_true, or_false, and_true, true_and, AV.w.injEq, Value.int.injEq, Value.bool.injEq, AV.ms.injEq, AV.sb.injEq, AV.str.injEq, ↓reduceIte, Nat.reduceEqDiff, Nat.reduceLT, List.length_append, List.length_cons, List.length_nil, Nat.zero_add, Nat.add_zero, Option.some.injEq, Blk.b.injEq, Blk.i.injEq, Nat.succ_ne_zero, Nat.reduceAdd, and_self, ren_fnd]
          · have d2 : decide ((i : Int) < ps.length) = false := decide_eq_false (by omega)
            simp -implicitDefEqProofs only [Option.getD, awp_skip, awp_label, awp_ret, awp_exit, awp_region, awp_seq, awp_block, awp_cond, aops_nil, aops_plain, aops_guard, later_normal, later_exit, later_ret, blockK_normal, blockK_exit, blockK_ret, regK_apply, aop, aLen, ev, slot, setSlot, putSlot, cv, cvl, aConv, aBin, aInt, aUn, aEq, Out.and, isBool, isPtr, true_and, and_true, List.length, IntKind.bits, evs, evo, evps, aCall, aUser, coes, coe, List.append, List.replicate, callOut, rootsL, AV.roots, lendsL, AV.lends, pinsOf, nodup, lendL, lend, closedB, noimmB, AV.noimm, AV.ren, renL, back, Nat.reduceAdd, Nat.reduceSub, Nat.reduceMul, Int.reduceToNat, Nat.le_refl, reduceCtorEq, false_implies, implies_true, List.nil_append, List.append_nil, List.cons_append, Nat.zero_le, Bool.false_eq_true, aLoad, subv, aIndexAddr, aIndex, TD.aggr, cond_false, cond_true, guardSlot, List.getElem?_cons_succ, List.getElem?_cons_zero, aPick, byte, word, aMin, aMax, Ax.Ends, EndsX, Ax.rvals, rone, AV.ids, idsL, newIds, upTo, pinHeap, gOf, ↓reduceIte, forall_const, List.isEmpty, ne_eq, not_false_eq_true, and_self, true_implies, AV.w.injEq, Value.int.injEq, Value.bool.injEq, IntKind.wrap_u8, IntKind.wrap_u64, IntKind.wrap_i64, Int.reducePow, Nat.reducePow, Nat.min_def, Int.reduceMod, Nat.reduceLeDiff, Int.reduceLE, Int.reduceNe, Int.reduceEq, aBuildSlice, fillB, aAppend, appendB, viewB, Ax.look, Ax.put, Ax.drop, List.drop, List.take, List.set_cons_zero, List.set_cons_succ, asv, aMake, aCopy, srcB, fillG, viewG, appendG, appendI, fillI, aSlice, bnd, bnds, full3, cut, aFieldAddr, aField, aLoad, aStore, setB, aBox, aBuild, fillS, allTy, AV.leaves, AV.okv, AV.leaf, one, splice, elemLeaves, Blk.size, Blk.len, List.replicate_succ, List.replicate_zero, Option.isSome, Option.isNone, isBytes, aStr, aNil, aAlloc, aExtract, aConv, viewI, Nat.reduceEqDiff, Nat.reduceLT, List.length_append, List.length_cons, List.length_nil, Nat.zero_add, Nat.add_zero, Nat.reduceBEq, List.contains, List.elem, Bool.not_true, Bool.not_false, Bool.true_and, Bool.and_true, Bool.and_false, Bool.false_and, Blk.closed, closedL, AV.closed, Blk.noimm, not_true_eq_false, not_false_iff, or_false, or_true, false_or, true_or, Int.toNat_natCast, List.length_replicate, setB, ↓gsplit_tt, ↓gsplit_ff, ↓gsplit_tf, ↓gsplit_ft, gsplit_bt, gsplit_bf, ↓csplit_t, ↓csplit_f, csplit_b, Ax.idx, beq_self_eq_true, BEq.rfl, pinsOf, List.mem_cons, List.not_mem_nil, AV.lentIds, lentIdsL, dropAll, givenUp, AV.clean, cleanL, Blk.clean, cleanB, quietC, flatTy, List.all_cons, List.all_nil, Bool.or_false, Bool.or_true, Bool.true_or, Bool.false_or, decide_true, decide_false, coldStr, notMs, eqV, eqF, isStruct, awpK_skip, awpK_label, awpK_ret, awpK_exit, awpK_region, awpK_seq, awpK_block, awpK_cond, laterK_normal, laterK_exit, laterK_ret, frzS, frzL, ↓frzK_def, aopsK_zero, aopsK_succ, ↓keepK_def, keepA, fzL, fzH, AV.fz, Blk.fz, fgL, fgH, AV.fg, Blk.fg, -coe, coe_w, coe_str, coe_agg, coe_tup, coe_sb, coe_si, coe_cp, coe_ms, coe_rf, coe_fn, coe_cons, hcoe, ty, Sfback, fbackPl, yes7S, hplf, hpl2, d2]
            refine ⟨_, Weak.refl _, ?_⟩
            simp -implicitDefEqProofs only [Option.getD, awp_skip, awp_label, awp_ret, awp_exit, awp_region, awp_seq, awp_block, awp_cond, aops_nil, aops_plain, aops_guard, later_normal, later_exit, later_ret, blockK_normal, blockK_exit, blockK_ret, regK_apply, aop, aLen, ev, slot, setSlot, putSlot, cv, cvl, aConv, aBin, aInt, aUn, aEq, Out.and, isBool, isPtr, true_and, and_true, List.length, IntKind.bits, evs, evo, evps, aCall, aUser, coes, coe, List.append, List.replicate, callOut, rootsL, AV.roots, lendsL, AV.lends, pinsOf, nodup, lendL, lend, closedB, noimmB, AV.noimm, AV.ren, renL, back, Nat.reduceAdd, Nat.reduceSub, Nat.reduceMul, Int.reduceToNat, Nat.le_refl, reduceCtorEq, false_implies, implies_true, List.nil_append, List.append_nil, List.cons_append, Nat.zero_le, Bool.false_eq_true, aLoad, subv, aIndexAddr, aIndex, TD.aggr, cond_false, cond_true, guardSlot, List.getElem?_cons_succ, List.getElem?_cons_zero, aPick, byte, word, aMin, aMax, Ax.Ends, EndsX, Ax.rvals, rone, AV.ids, idsL, newIds, upTo, pinHeap, gOf, ↓reduceIte, forall_const, List.isEmpty, ne_eq, not_false_eq_true, and_self, true_implies, AV.w.injEq, Value.int.injEq, Value.bool.injEq, IntKind.wrap_u8, IntKind.wrap_u64, IntKind.wrap_i64, Int.reducePow, Nat.reducePow, Nat.min_def, Int.reduceMod, Nat.reduceLeDiff, Int.reduceLE, Int.reduceNe, Int.reduceEq, aBuildSlice, fillB, aAppend, appendB, viewB, Ax.look, Ax.put, Ax.drop, List.drop, List.take, List.set_cons_zero, List.set_cons_succ, asv, aMake, aCopy, srcB, fillG, viewG, appendG, appendI, fillI, aSlice, bnd, bnds, full3, cut, aFieldAddr, aField, aLoad, aStore, setB, aBox, aBuild, fillS, allTy, AV.leaves, AV.okv, AV.leaf, one, splice, elemLeaves, Blk.size, Blk.len, List.replicate_succ, List.replicate_zero, Option.isSome, Option.isNone, isBytes, aStr, aNil, aAlloc, aExtract, aConv, viewI, Nat.reduceEqDiff, Nat.reduceLT, List.length_append, List.length_cons, List.length_nil, Nat.zero_add, Nat.add_zero, Nat.reduceBEq, List.contains, List.elem, Bool.not_true, Bool.not_false, Bool.true_and, Bool.and_true, Bool.and_false, Bool.false_and, Blk.closed, closedL, AV.closed, Blk.noimm, not_true_eq_false, not_false_iff, or_false, or_true, false_or, true_or, Int.toNat_natCast, List.length_replicate, setB, ↓gsplit_tt, ↓gsplit_ff, ↓gsplit_tf, ↓gsplit_ft, gsplit_bt, gsplit_bf, ↓csplit_t, ↓csplit_f, csplit_b, Ax.idx, beq_self_eq_true, BEq.rfl, pinsOf, List.mem_cons, List.not_mem_nil, AV.lentIds, lentIdsL, dropAll, givenUp, AV.clean, cleanL, Blk.clean, cleanB, quietC, flatTy, List.all_cons, List.all_nil, Bool.or_false, Bool.or_true, Bool.true_or, Bool.false_or, decide_true, decide_false, coldStr, notMs, eqV, eqF, isStruct, awpK_skip, awpK_label, awpK_ret, awpK_exit, awpK_region, awpK_seq, awpK_block, awpK_cond, laterK_normal, laterK_exit, laterK_ret, frzS, frzL, ↓frzK_def, aopsK_zero, aopsK_succ, ↓keepK_def, keepA, fzL, fzH, AV.fz, Blk.fz, fgL, fgH, AV.fg, Blk.fg, -coe, coe_w, coe_str, coe_agg, coe_tup, coe_sb, coe_si, coe_cp, coe_ms, coe_rf, coe_fn, coe_cons, hcoe, ty, Sfback, fbackPl, yes7S]
            exact wE_ends 2 rfl
      · have dok : decide (okB bs) = false := decide_eq_false hok
        have hLL : laidL bs = [] := if_neg hok
        have hEE : laidE bs = [] := if_neg hok
        simp -implicitDefEqProofs only [Option.getD, awp_skip, awp_label, awp_ret, awp_exit, awp_region, awp_seq, awp_block, awp_cond, aops_nil, aops_plain, aops_guard, later_normal, later_exit, later_ret, blockK_normal, blockK_exit, blockK_ret, regK_apply, aop, aLen, ev, slot, setSlot, putSlot, cv, cvl, aConv, aBin, aInt, aUn, aEq, Out.and, isBool, isPtr, true_and, and_true, List.length, IntKind.bits, evs, evo, evps, aCall, aUser, coes, coe, List.append, List.replicate, callOut, rootsL, AV.roots, lendsL, AV.lends, pinsOf, nodup, lendL, lend, closedB, noimmB, AV.noimm, AV.ren, renL, back, Nat.reduceAdd, Nat.reduceSub, Nat.reduceMul, Int.reduceToNat, Nat.le_refl, reduceCtorEq, false_implies, implies_true, List.nil_append, List.append_nil, List.cons_append, Nat.zero_le, Bool.false_eq_true, aLoad, subv, aIndexAddr, aIndex, TD.aggr, cond_false, cond_true, guardSlot, List.getElem?_cons_succ, List.getElem?_cons_zero, aPick, byte, word, aMin, aMax, Ax.Ends, EndsX, Ax.rvals, rone, AV.ids, idsL, newIds, upTo, pinHeap, gOf, ↓reduceIte, forall_const, List.isEmpty, ne_eq, not_false_eq_true, and_self, true_implies, AV.w.injEq, Value.int.injEq, Value.bool.injEq, IntKind.wrap_u8, IntKind.wrap_u64, IntKind.wrap_i64, Int.reducePow, Nat.reducePow, Nat.min_def, Int.reduceMod, Nat.reduceLeDiff, Int.reduceLE, Int.reduceNe, Int.reduceEq, aBuildSlice, fillB, aAppend, appendB, viewB, Ax.look, Ax.put, Ax.drop, List.drop, List.take, List.set_cons_zero, List.set_cons_succ, asv, aMake, aCopy, srcB, fillG, viewG, appendG, appendI, fillI, aSlice, bnd, bnds, full3, cut, aFieldAddr, aField, aLoad, aStore, setB, aBox, aBuild, fillS, allTy, AV.leaves, AV.okv, AV.leaf, one, splice, elemLeaves, Blk.size, Blk.len, List.replicate_succ, List.replicate_zero, Option.isSome, Option.isNone, isBytes, aStr, aNil, aAlloc, aExtract, aConv, viewI, Nat.reduceEqDiff, Nat.reduceLT, List.length_append, List.length_cons, List.length_nil, Nat.zero_add, Nat.add_zero, Nat.reduceBEq, List.contains, List.elem, Bool.not_true, Bool.not_false, Bool.true_and, Bool.and_true, Bool.and_false, Bool.false_and, Blk.closed, closedL, AV.closed, Blk.noimm, not_true_eq_false, not_false_iff, or_false, or_true, false_or, true_or, Int.toNat_natCast, List.length_replicate, setB, ↓gsplit_tt, ↓gsplit_ff, ↓gsplit_tf, ↓gsplit_ft, gsplit_bt, gsplit_bf, ↓csplit_t, ↓csplit_f, csplit_b, Ax.idx, beq_self_eq_true, BEq.rfl, pinsOf, List.mem_cons, List.not_mem_nil, AV.lentIds, lentIdsL, dropAll, givenUp, AV.clean, cleanL, Blk.clean, cleanB, quietC, flatTy, List.all_cons, List.all_nil, Bool.or_false, Bool.or_true, Bool.true_or, Bool.false_or, decide_true, decide_false, coldStr, notMs, eqV, eqF, isStruct, awpK_skip, awpK_label, awpK_ret, awpK_exit, awpK_region, awpK_seq, awpK_block, awpK_cond, laterK_normal, laterK_exit, laterK_ret, frzS, frzL, ↓frzK_def, aopsK_zero, aopsK_succ, ↓keepK_def, keepA, fzL, fzH, AV.fz, Blk.fz, fgL, fgH, AV.fg, Blk.fg, -coe, coe_w, coe_str, coe_agg, coe_tup, coe_sb, coe_si, coe_cp, coe_ms, coe_rf, coe_fn, coe_cons, hcoe, ty, Sfback, fbackPl, yes7S, laidS, map_avB, hl4, hbs, d1, hex, hsm, dok, hLL, hEE, List.map_nil]
        exact wE_ends 2 rfl
    · have d1 : decide ((10 : Int) < ps.length) = true := decide_eq_true (by omega)
      simp -implicitDefEqProofs only [Option.getD, awp_skip, awp_label, awp_ret, awp_exit, awp_region, awp_seq, awp_block, awp_cond, aops_nil, aops_plain, aops_guard, later_normal, later_exit, later_ret, blockK_normal, blockK_exit, blockK_ret, regK_apply, aop, aLen, ev, slot, setSlot, putSlot, cv, cvl, aConv, aBin, aInt, aUn, aEq, Out.and, isBool, isPtr, true_and, and_true, List.length, IntKind.bits, evs, evo, evps, aCall, aUser, coes, coe, List.append, List.replicate, callOut, rootsL, AV.roots, lendsL, AV.lends, pinsOf, nodup, lendL, lend, closedB, noimmB, AV.noimm, AV.ren, renL, back, Nat.reduceAdd, Nat.reduceSub, Nat.reduceMul, Int.reduceToNat, Nat.le_refl, reduceCtorEq, false_implies, implies_true, List.nil_append, List.append_nil, List.cons_append, Nat.zero_le, Bool.false_eq_true, aLoad, subv, aIndexAddr, aIndex, TD.aggr, cond_false, cond_true, guardSlot, List.getElem?_cons_succ, List.getElem?_cons_zero, aPick, byte, word, aMin, aMax, Ax.Ends, EndsX, Ax.rvals, rone, AV.ids, idsL, newIds, upTo, pinHeap, gOf, ↓reduceIte, forall_const, List.isEmpty, ne_eq, not_false_eq_true, and_self, true_implies, AV.w.injEq, Value.int.injEq, Value.bool.injEq, IntKind.wrap_u8, IntKind.wrap_u64, IntKind.wrap_i64, Int.reducePow, Nat.reducePow, Nat.min_def, Int.reduceMod, Nat.reduceLeDiff, Int.reduceLE, Int.reduceNe, Int.reduceEq, aBuildSlice, fillB, aAppend, appendB, viewB, Ax.look, Ax.put, Ax.drop, List.drop, List.take, List.set_cons_zero, List.set_cons_succ, asv, aMake, aCopy, srcB, fillG, viewG, appendG, appendI, fillI, aSlice, bnd, bnds, full3, cut, aFieldAddr, aField, aLoad, aStore, setB, aBox, aBuild, fillS, allTy, AV.leaves, AV.okv, AV.leaf, one, splice, elemLeaves, Blk.size, Blk.len, List.replicate_succ, List.replicate_zero, Option.isSome, Option.isNone, isBytes, aStr, aNil, aAlloc, aExtract, aConv, viewI, Nat.reduceEqDiff, Nat.reduceLT, List.length_append, List.length_cons, List.length_nil, Nat.zero_add, Nat.add_zero, Nat.reduceBEq, List.contains, List.elem, Bool.not_true, Bool.not_false, Bool.true_and, Bool.and_true, Bool.and_false, Bool.false_and, Blk.closed, closedL, AV.closed, Blk.noimm, not_true_eq_false, not_false_iff, or_false, or_true, false_or, true_or, Int.toNat_natCast, List.length_replicate, setB, ↓gsplit_tt, ↓gsplit_ff, ↓gsplit_tf, ↓gsplit_ft, gsplit_bt, gsplit_bf, ↓csplit_t, ↓csplit_f, csplit_b, Ax.idx, beq_self_eq_true, BEq.rfl, pinsOf, List.mem_cons, List.not_mem_nil, AV.lentIds, lentIdsL, dropAll, givenUp, AV.clean, cleanL, Blk.clean, cleanB, quietC, flatTy, List.all_cons, List.all_nil, Bool.or_false, Bool.or_true, Bool.true_or, Bool.false_or, decide_true, decide_false, coldStr, notMs, eqV, eqF, isStruct, awpK_skip, awpK_label, awpK_ret, awpK_exit, awpK_region, awpK_seq, awpK_block, awpK_cond, laterK_normal, laterK_exit, laterK_ret, frzS, frzL, ↓frzK_def, aopsK_zero, aopsK_succ, ↓keepK_def, keepA, fzL, fzH, AV.fz, Blk.fz, fgL, fgH, AV.fg, Blk.fg, -coe, coe_w, coe_str, coe_agg, coe_tup, coe_sb, coe_si, coe_cp, coe_ms, coe_rf, coe_fn, coe_cons, hcoe, ty, Sfback, fbackPl, yes7S, hl4, d1]
      exact wE_ends 2 rfl
  · exact hp.elim
end
theorem fback_dom {x : AV} (hx : Arg ty 6 42 x) : (fbackS [x] []).p ∧ (fbackS [x] []).x = .w (.bool true) := by
  obtain ⟨ps, f, rfl, hl⟩ := karg_blocks hx
  exact ⟨⟨hl, ps, rfl⟩, rfl⟩
theorem flays_dom {x y : AV} (hx : Arg ty 6 27 x) (hy : Arg ty 6 3 y) : (flaysS [x, y] []).p ∧ (flaysS [x, y] []).x = .w (.bool true) := by
  obtain ⟨b, f, rfl, _⟩ := karg_bytes hx
  obtain ⟨n, rfl, _⟩ := karg_int hy
  exact ⟨trivial, rfl⟩
end Go.Proofs.Ytfciefiachmioaa
