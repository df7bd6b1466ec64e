/- Layer 8: the law that what is put is got. -/
import Derived.Test.YtlbdhkgjhjcgiaaEd
namespace Go.Proofs.Ytlbdhkgjhjcgiaa
open Ax
set_option linter.unusedSimpArgs false
set_option linter.unusedVariables false

theorem layM_pos (m : Mt) : 1 ≤ (layM m).length := by unfold layM; simp
theorem get_app (m : Mt) (h : chkM m = 0) (hk : 0 ≤ m.k) (r : List UInt8) (hr : r ≠ []) : ¬ getOk (layM m ++ r) := by
  intro hg
  have h1 := (rd_lay m h hk r).1
  have h2 := hg.2
  rw [h1] at h2
  have h3 := congrArg List.length h2
  rw [List.length_append] at h3
  exact hr (List.eq_nil_of_length_eq_zero (by omega))
theorem get_cut (m : Mt) (h : chkM m = 0) (hk : 0 ≤ m.k) : ¬ getOk ((layM m).take ((layM m).length - 1)) := by
  intro hg
  have hp := layM_pos m
  obtain ⟨b', hb'⟩ : ∃ b', (layM m).take ((layM m).length - 1) = b' := ⟨_, rfl⟩
  rw [hb'] at hg
  have hm' := hg.2
  have hlen : b'.length = (layM m).length - 1 := by rw [← hb', List.length_take]; omega
  have h1 := (rd_lay (rdM b') hg.1 (by rw [rdM_k]; exact (rK_rng b').1) ((layM m).drop ((layM m).length - 1))).1
  rw [hm', ← hb', List.take_append_drop, hb'] at h1
  have h2 := (rd_lay m h hk []).1
  rw [List.append_nil] at h2
  rw [h2] at h1
  rw [← h1] at hm'
  have := congrArg List.length hm'
  omega
theorem tit8_app (l : List Mt) (h : ∀ m ∈ l, chkM m = 0) (r : List UInt8) : ∀ (j : Nat), j ≤ l.length → tit8 (cat8 l ++ r, 0) j = (cat8 (l.drop j) ++ r, 0)
  | 0, _ => rfl
  | j + 1, hj => by
    unfold tit8
    rw [tit8_app l h r j (by omega), List.drop_eq_getElem_cons (by omega)]
    have hm := h l[j] (List.getElem_mem (by omega))
    have hl := layM_len l[j] hm
    have e : cat8 (l[j] :: l.drop (j + 1)) ++ r = textL (layM l[j]) ++ (cat8 (l.drop (j + 1)) ++ r) := by unfold cat8; rw [List.flatMap_cons]; simp
    obtain ⟨_, t2, t3⟩ := text_put8 8192 (layM l[j]) (cat8 (l.drop (j + 1)) ++ r) (by omega) (by omega)
    unfold tst8
    simp only
    rw [e, t2, t3]
theorem tx8_app (l : List Mt) (h : ∀ m ∈ l, chkM m = 0) (r : List UInt8) (j : Nat) (hj : j < l.length) : tx8 (tit8 (cat8 l ++ r, 0) j) = layM l[j] := by
  rw [tit8_app l h r j (by omega), List.drop_eq_getElem_cons hj]
  have hm := h l[j] (List.getElem_mem hj)
  have hl := layM_len l[j] hm
  have e : cat8 (l[j] :: l.drop (j + 1)) ++ r = textL (layM l[j]) ++ (cat8 (l.drop (j + 1)) ++ r) := by unfold cat8; rw [List.flatMap_cons]; simp
  obtain ⟨t1, _, _⟩ := text_put8 8192 (layM l[j]) (cat8 (l.drop (j + 1)) ++ r) (by omega) (by omega)
  unfold tx8
  simp only
  rw [e, t1]
theorem gLst_app (gen : Int) (l : List Mt) (h : allE gen l = 0) (hL : l.length ≤ 1000000000) (hk : ∀ m ∈ l, 0 ≤ m.k) (r : List UInt8) : ∀ n, n ≤ l.length → gLst (allB gen l ++ r) n = l.take n := by
  obtain ⟨h1, h2, h3⟩ := allE_ok h
  obtain ⟨q1, q2, q3⟩ := gq_lay gen l h hL r
  intro n
  induction n with
  | zero => intro _; simp [gLst]
  | succ n ih =>
    intro hn
    unfold gLst
    rw [ih (by omega), q3, tx8_app l h2 r n (by omega), List.take_succ_eq_append_getElem (by omega)]
    rw [(getMt_lay l[n] (h2 _ (List.getElem_mem (by omega))) (hk _ (List.getElem_mem (by omega)))).2]
theorem all_app (gen : Int) (l : List Mt) (h : allE gen l = 0) (hL : l.length ≤ 1000000000) (hk : ∀ m ∈ l, 0 ≤ m.k) (r : List UInt8) (hr : r ≠ []) : ¬ okG (allB gen l ++ r) := by
  intro hg
  obtain ⟨g1, g2, g3, g4⟩ := hg
  obtain ⟨q1, q2, q3⟩ := gq_lay gen l h hL r
  have h5 := gLst_app gen l h hL hk r l.length (Nat.le_refl _)
  rw [List.take_length] at h5
  rw [q1, q2, Int.toNat_natCast, h5] at g4
  have h3 := congrArg List.length g4
  rw [List.length_append] at h3
  exact hr (List.eq_nil_of_length_eq_zero (by omega))
theorem allB_pos (gen : Int) (l : List Mt) : 1 ≤ (allB gen l).length := by
  unfold allB pz
  have := putU_pos (zz gen).toNat
  rw [List.length_append]; omega
theorem all_cut (gen : Int) (l : List Mt) (h : allE gen l = 0) (hL : l.length ≤ 1000000000) (hk : ∀ m ∈ l, 0 ≤ m.k) : ¬ okG ((allB gen l).take ((allB gen l).length - 1)) := by
  intro hg
  have hp := allB_pos gen l
  have h8 := (allE_ok h).2.2
  obtain ⟨b', hb'⟩ : ∃ b', (allB gen l).take ((allB gen l).length - 1) = b' := ⟨_, rfl⟩
  rw [hb'] at hg
  obtain ⟨g1, g2, g3, g4⟩ := hg
  have hlen : b'.length = (allB gen l).length - 1 := by rw [← hb', List.length_take]; omega
  have hfit := gLst_fit b' (by omega) (gCnt b').toNat
  have hgl : (gLst b' (gCnt b').toNat).length = (gCnt b').toNat := gLst_len _ _
  generalize gLst b' (gCnt b').toNat = l' at *
  have e : allB (gGen b') l' ++ (allB gen l).drop ((allB gen l).length - 1) = allB gen l := by
    rw [g4, ← hb', List.take_append_drop]
  obtain ⟨q1, q2, q3⟩ := gq_lay (gGen b') l' g3 (by omega) ((allB gen l).drop ((allB gen l).length - 1))
  have h5 := gLst_app (gGen b') l' g3 (by omega) (fun m hm => (hfit m hm).1) ((allB gen l).drop ((allB gen l).length - 1)) l'.length (Nat.le_refl _)
  rw [e] at q1 q2 h5
  obtain ⟨p1, p2, p3, _⟩ := okG_lay gen l h hL hk
  rw [List.take_length] at h5
  have hll : l.length = l'.length := by have := q2.symm.trans p2; omega
  rw [← hll, p3] at h5
  rw [p1] at q1
  rw [← q1, ← h5] at g4
  have := congrArg List.length g4
  omega
theorem lstA_take (l : List Mt) : sameL l l = true := sameL_self l
def mbackS : FSpec
  | [.w (.int .i64 gen), .sg 9 xs f], [] => ⟨(-9223372036854775808 ≤ gen ∧ gen ≤ 9223372036854775807) ∧ xs.length ≤ 9223372036854775807 ∧ ∃ l : List Mt, xs = l.map mtA ∧ ∀ m ∈ l, 0 ≤ m.k ∧ m.k < 256, .w (.bool true), []⟩
  | _, _ => noRes
def Smback (f : FuncId) : Option FSpec :=
  match f with
  | 9 => some yesS
  | 8 => some lightS
  | 10 => some put8S
  | 16 => some get8S
  | 21 => some putAllS
  | 18 => some getAllS
  | 20 => some sameAllS
  | _ => none
theorem Smback_ok : Fns Try.prog Smback := by
  intro f s h
  unfold Smback at h
  split at h
  · injection h with h; subst h; exact ⟨⟨_, Try.func9, by kernel_rfl, by kernel_rfl⟩, awake8_sound⟩
  · injection h with h; subst h; exact ⟨⟨_, Try.func8, by kernel_rfl, by kernel_rfl⟩, light_sound⟩
  · injection h with h; subst h; exact ⟨⟨_, Try.func10, by kernel_rfl, by kernel_rfl⟩, put8_sound⟩
  · injection h with h; subst h; exact ⟨⟨_, Try.func16, by kernel_rfl, by kernel_rfl⟩, get8_sound⟩
  · injection h with h; subst h; exact ⟨⟨_, Try.func21, by kernel_rfl, by kernel_rfl⟩, putAll8_sound⟩
  · injection h with h; subst h; exact ⟨⟨_, Try.func18, by kernel_rfl, by kernel_rfl⟩, getAll8_sound⟩
  · injection h with h; subst h; exact ⟨⟨_, Try.func20, by kernel_rfl, by kernel_rfl⟩, sameAll_sound⟩
  · cases h
def mbackPl : XPlan := fun id => match id with
  | 13 => .prs []
  | 20 => .frz [14]
  | _ => .std
section
set_option maxRecDepth 100000
set_option maxHeartbeats 8000000 in
theorem mback_law : Sound Try.prog 6 mbackS := by
  refine fn_soundOK (S := Smback) (SO := noO) (T := ty) mixed ty_ok Smback_ok noO_ok Try.func6 (c := Try.f6.body.getD .skip) (by kernel_rfl) (fun xs pins hp _ => ?_)
  unfold mbackS at hp ⊢
  split at hp
  · rename_i gen xs f _
    obtain ⟨hg, hL, l, rfl, hk⟩ := hp
    rw [List.length_map] at hL
    have hle : (l.map mtA).length = l.length := by simp
    have hmu := map_umt l
    have hex := ex_mt l
    have hco := coe_mt l f
    have tk : ∀ l : List UInt8, List.take l.length l = l := fun l => List.take_length
    refine ⟨by simp, mbackPl, by kernel_rfl, ?_⟩
    unfold Try.f6
    cases hl : decide (lightL l 60) with
    | false =>
      simp -implicitDefEqProofs only [evT, evD0, evD1, evD2, implies_true, forall_const, Option.getD, later_normal, aop, aLen, ev, putSlot, cv, cvl, aConv, aBin, aInt, aUn, aFn, aEq, List.length, IntKind.bits, evo, coe, List.append, List.replicate, Nat.reduceAdd, Nat.reduceSub, Nat.reduceMul, Int.reduceToNat, reduceCtorEq, aIndexAddr, aIndex, TD.aggr, aPick, aMin, aMax, Ax.Ends, rone, ↓reduceIte, List.isEmpty, Int.reducePow, Nat.reducePow, Int.reduceMod, Nat.reduceLeDiff, Int.reduceLE, Int.reduceNe, Int.reduceEq, aAppend, appendB, viewB, List.drop, List.take, aRange, aNext, aCopy, srcB, viewG, appendG, appendI, aSlice, bnd, full3, aStore, setB, AV.leaves, AV.okv, AV.leaf, one, elemLeaves, Blk.size, Blk.len, Option.isSome, Option.isNone, aStr, aNil, aExtract, viewI, Nat.reduceEqDiff, Nat.reduceLT, Nat.reduceBEq, List.contains, List.elem, Blk.closed, Blk.noimm, ↓gsplit_tt, ↓gsplit_ff, ↓gsplit_tf, ↓gsplit_ft, ↓csplit_t, ↓csplit_f, givenUp, Blk.clean, notMs, evDO, evTO, evTP, laterO_normal, ↓frzK_def, Blk.fz, Blk.fg, ↓openKO_def, openOp, Blk.isGone, Blk.idsB, Blk.sidsB, Blk.ren, EndsO, Blk.ids, Op.operands, Call.operands, List.map_cons, List.map_nil, List.toList_toArray, Array.toList_append, Option.toArray_some, Option.toArray_none, Bool.and_self, -coe, coe_w, coe_str, coe_agg, coe_tup, coe_sb, coe_si, coe_cp, coe_ms, coe_rf, coe_fn, coe_cons, ty, Smback, mbackPl, lightS, yesS, hco, hL, hle, hex, hmu, hl]
      exact wE8_ends 4 rfl
    | true =>
      obtain ⟨h60, hfit⟩ := lightL_fit hl hk
      have hft := lst_fits l hfit
      have h6 : l.length ≤ 1000000 := by omega
      simp -implicitDefEqProofs only [evT, evD0, evD1, evD2, implies_true, forall_const, Option.getD, later_normal, aop, aLen, ev, putSlot, cv, cvl, aConv, aBin, aInt, aUn, aFn, aEq, List.length, IntKind.bits, evo, coe, List.append, List.replicate, Nat.reduceAdd, Nat.reduceSub, Nat.reduceMul, Int.reduceToNat, reduceCtorEq, aIndexAddr, aIndex, TD.aggr, aPick, aMin, aMax, Ax.Ends, rone, ↓reduceIte, List.isEmpty, Int.reducePow, Nat.reducePow, Int.reduceMod, Nat.reduceLeDiff, Int.reduceLE, Int.reduceNe, Int.reduceEq, aAppend, appendB, viewB, List.drop, List.take, aRange, aNext, aCopy, srcB, viewG, appendG, appendI, aSlice, bnd, full3, aStore, setB, AV.leaves, AV.okv, AV.leaf, one, elemLeaves, Blk.size, Blk.len, Option.isSome, Option.isNone, aStr, aNil, aExtract, viewI, Nat.reduceEqDiff, Nat.reduceLT, Nat.reduceBEq, List.contains, List.elem, Blk.closed, Blk.noimm, ↓gsplit_tt, ↓gsplit_ff, ↓gsplit_tf, ↓gsplit_ft, ↓csplit_t, ↓csplit_f, givenUp, Blk.clean, notMs, evDO, evTO, evTP, laterO_normal, ↓frzK_def, Blk.fz, Blk.fg, ↓openKO_def, openOp, Blk.isGone, Blk.idsB, Blk.sidsB, Blk.ren, EndsO, Blk.ids, Op.operands, Call.operands, List.map_cons, List.map_nil, List.toList_toArray, Array.toList_append, Option.toArray_some, Option.toArray_none, Bool.and_self, -coe, coe_w, coe_str, coe_agg, coe_tup, coe_sb, coe_si, coe_cp, coe_ms, coe_rf, coe_fn, coe_cons, ty, Smback, mbackPl, lightS, yesS, hco, hL, hle, hex, hmu, hl]
      refine awpO_loopW ⟨fun m σ => ∃ i : Nat, m = l.length - i ∧ i ≤ l.length ∧
        σ = ⟨[.w (.int .i64 gen), .sg 9 (l.map mtA) f, .junk, .junk, .junk, .w (.int .i64 i), .junk, .junk, .junk, .junk, .junk, .junk, .junk, .junk, .junk, .junk, .junk, .junk, .junk, .junk, .junk, .junk, .junk, .junk, .junk, .junk, .junk, .junk, .junk, .junk, .junk, .junk, .junk, .junk, .junk, .junk, .junk, .junk, .junk, .junk, .junk, .junk, .junk, .junk, .junk, .junk, .junk, .junk, .junk, .junk, .junk, .junk, .junk, .junk, .junk, .junk, .junk, .junk, .junk, .junk, .junk, .junk, .junk, .junk, .junk, .junk, .junk, .junk, .junk, .junk, .junk, .junk, .junk, .junk, .junk, .junk, .junk, .junk, .junk, .junk, .junk, .junk, .junk, .junk, .junk, .junk, .junk, .junk, .junk, .junk, .junk, .junk, .junk, .junk, .junk, .junk, .junk, .junk, .junk, .junk, .junk, .junk, .junk, .junk, .junk, .junk, .junk, .junk, .junk, .junk, .junk, .junk, .junk, .junk, .junk, .junk, .junk, .junk, .junk, .junk, .junk, .junk, .junk, .junk, .junk, .junk, .junk, .junk, .junk, .junk, .junk, .junk, .junk, .junk, .junk, .junk, .junk, .junk, .junk, .junk, .junk, .junk, .junk, .junk, .junk, .junk, .junk, .junk, .junk, .junk, .junk, .junk, .junk, .junk, .junk], [], 4⟩, ?_, ?_⟩
      · refine ⟨_, _, weak_ren [0, 1, 2, 3] rfl rfl rfl ?_ ?_, 0, rfl, by omega, rfl⟩
        · simp only [SameS, SameH, setSlot, gOf, AV.ren, renL, Blk.ren, Ax.look, Ax.put, reduceCtorEq, true_or, false_or, or_true, or_false, and_true, true_and, AV.w.injEq, Value.int.injEq, Value.bool.injEq, AV.ms.injEq, AV.sb.injEq, AV.str.injEq, ↓reduceIte, Nat.reduceEqDiff, Nat.reduceLT, List.length_append, List.length_cons, List.length_nil, Nat.zero_add, Nat.add_zero, Option.some.injEq, Blk.b.injEq, Blk.i.injEq, Nat.succ_ne_zero, Nat.reduceAdd, and_self]; try simp
        · simp only [SameS, SameH, setSlot, gOf, AV.ren, renL, Blk.ren, Ax.look, Ax.put, reduceCtorEq, true_or, false_or, or_true, or_false, and_true, true_and, AV.w.injEq, Value.int.injEq, Value.bool.injEq, AV.ms.injEq, AV.sb.injEq, AV.str.injEq, ↓reduceIte, Nat.reduceEqDiff, Nat.reduceLT, List.length_append, List.length_cons, List.length_nil, Nat.zero_add, Nat.add_zero, Option.some.injEq, Blk.b.injEq, Blk.i.injEq, Nat.succ_ne_zero, Nat.reduceAdd, and_self]
      · rintro m σ ⟨i, rfl, hi, rfl⟩
        by_cases hil : i < l.length
        · have d2 : decide ((i : Int) < l.length) = true := decide_eq_true (by omega)
          have e1 : ((i : Int) + 1 + 9223372036854775808) % 18446744073709551616 - 9223372036854775808 = ((i + 1 : Nat) : Int) := by omega
          have hs1 := slot_mt l i hil
          have hft1 := hfit l[i] (List.getElem_mem hil)
          obtain ⟨mm, hmm⟩ : ∃ x, l[i] = x := ⟨_, rfl⟩
          rw [hmm] at hs1 hft1
          obtain ⟨k, t, ix, nm, p, cp, z, b, c⟩ := mm
          obtain ⟨hk0, hk1, hnl⟩ := hft1
          simp only at hk0 hk1 hnl
          have hs1 : slot (l.map mtA) i = .agg [.w (.int .u8 k), .w (.int .i64 t), .w (.int .i64 ix), .str nm, .w (.int .i64 p), .w (.bool cp), .w (.int .i64 z), .w (.int .i64 b), .w (.int .i64 c)] := hs1
          by_cases hc : chkM ⟨k, t, ix, nm, p, cp, z, b, c⟩ = 0
          · have hpb : putB8 ⟨k, t, ix, nm, p, cp, z, b, c⟩ = layM ⟨k, t, ix, nm, p, cp, z, b, c⟩ := if_pos hc
            have hll := layM_len _ hc
            have hpos := layM_pos ⟨k, t, ix, nm, p, cp, z, b, c⟩
            obtain ⟨g1, g2⟩ := getMt_lay _ hc hk0
            have g3 := get_app _ hc hk0 [0] (by simp)
            have g4 := get_cut _ hc hk0
            have hgA : getA (layM ⟨k, t, ix, nm, p, cp, z, b, c⟩) = .agg [.w (.int .u8 k), .w (.int .i64 t), .w (.int .i64 ix), .str nm, .w (.int .i64 p), .w (.bool cp), .w (.int .i64 z), .w (.int .i64 b), .w (.int .i64 c)] := by unfold getA; rw [g2]; rfl
            obtain ⟨Y, hY⟩ : ∃ x, layM ⟨k, t, ix, nm, p, cp, z, b, c⟩ = x := ⟨_, rfl⟩
            rw [hY] at hpb hll hpos g1 g3 g4 hgA
            have hYl : Y.length ≤ 1000000 := by omega
            have hYl1 : (Y ++ [0]).length ≤ 1000000 := by rw [List.length_append, List.length_singleton]; omega
            have hYl2 : (Y.take (Y.length - 1)).length ≤ 1000000 := by rw [List.length_take]; omega
            have v1 : (if getOk Y then (0 : Int) else 4) = 0 := if_pos g1
            have v3 : (if getOk (Y ++ [0]) then (0 : Int) else 4) = 4 := if_neg g3
            have v4 : (if getOk (Y.take (Y.length - 1)) then (0 : Int) else 4) = 4 := if_neg g4
            have a3 : getA (Y ++ [0]) = mtA zM := by unfold getA getMt; rw [if_neg g3]
            have a4 : getA (Y.take (Y.length - 1)) = mtA zM := by unfold getA getMt; rw [if_neg g4]
            have t3 : List.take (Y.length + 1) (Y ++ [UInt8.ofNat 0]) = Y ++ [0] := List.take_of_length_le (by rw [List.length_append]; exact Nat.le_refl _)
            obtain ⟨Z, hZ⟩ : ∃ x, Y ++ [0] = x := ⟨_, rfl⟩
            obtain ⟨Q, hQ⟩ : ∃ x, Y.take (Y.length - 1) = x := ⟨_, rfl⟩
            rw [hZ] at t3 hYl1 v3 a3
            rw [hQ] at hYl2 v4 a4
            have d5 : decide ((Y.length : Int) = 0) = false := decide_eq_false (by omega)
            have e5 : ((Y.length : Int) - 1 + 9223372036854775808) % 18446744073709551616 - 9223372036854775808 = ((Y.length - 1 : Nat) : Int) := by omega
            have d6 : decide (eqM ⟨k, t, ix, nm, p, cp, z, b, c⟩ ⟨k, t, ix, nm, p, cp, z, b, c⟩) = true := decide_eq_true ((eqM_iff _ _).2 rfl)
            simp -implicitDefEqProofs only [evT, evD0, evD1, evD2, implies_true, forall_const, Option.getD, later_normal, aop, aLen, ev, putSlot, cv, cvl, aConv, aBin, aInt, aUn, aFn, aEq, List.length, IntKind.bits, evo, coe, List.append, List.replicate, Nat.reduceAdd, Nat.reduceSub, Nat.reduceMul, Int.reduceToNat, reduceCtorEq, aIndexAddr, aIndex, TD.aggr, aPick, aMin, aMax, Ax.Ends, rone, ↓reduceIte, List.isEmpty, Int.reducePow, Nat.reducePow, Int.reduceMod, Nat.reduceLeDiff, Int.reduceLE, Int.reduceNe, Int.reduceEq, aAppend, appendB, viewB, List.drop, List.take, aRange, aNext, aCopy, srcB, viewG, appendG, appendI, aSlice, bnd, full3, aStore, setB, AV.leaves, AV.okv, AV.leaf, one, elemLeaves, Blk.size, Blk.len, Option.isSome, Option.isNone, aStr, aNil, aExtract, viewI, Nat.reduceEqDiff, Nat.reduceLT, Nat.reduceBEq, List.contains, List.elem, Blk.closed, Blk.noimm, ↓gsplit_tt, ↓gsplit_ff, ↓gsplit_tf, ↓gsplit_ft, ↓csplit_t, ↓csplit_f, givenUp, Blk.clean, notMs, evDO, evTO, evTP, laterO_normal, ↓frzK_def, Blk.fz, Blk.fg, ↓openKO_def, openOp, Blk.isGone, Blk.idsB, Blk.sidsB, Blk.ren, EndsO, Blk.ids, Op.operands, Call.operands, List.map_cons, List.map_nil, List.toList_toArray, Array.toList_append, Option.toArray_some, Option.toArray_none, Bool.and_self, -coe, coe_w, coe_str, coe_agg, coe_tup, coe_sb, coe_si, coe_cp, coe_ms, coe_rf, coe_fn, coe_cons, ty, Smback, mbackPl, put8S, get8S, hle, d2, e1, hs1, hk0, hk1, hnl, hc, hpb, hYl, hYl1, hYl2, tk, v1, v3, v4, a3, a4, hgA, mtA, zM, d5, e5, d6, t3, hQ, eqM_dec, fillS, Int.toNat_natCast, Nat.sub_zero]
            repeat (refine And.intro (by first | omega | (unfold top; omega)) ?_)
            refine ⟨l.length - (i + 1), _, by omega, weak_ren [0, 1, 2, 3] rfl rfl rfl ?_ ?_, i + 1, rfl, by omega, rfl⟩
            · simp only [SameS, SameH, setSlot, gOf, AV.ren, renL, Blk.ren, Ax.look, Ax.put, reduceCtorEq, true_or, false_or, or_true, or_false, and_true, true_and, AV.w.injEq, Value.int.injEq, Value.bool.injEq, AV.ms.injEq, AV.sb.injEq, AV.str.injEq, ↓reduceIte, Nat.reduceEqDiff, Nat.reduceLT, List.length_append, List.length_cons, List.length_nil, Nat.zero_add, Nat.add_zero, Option.some.injEq, Blk.b.injEq, Blk.i.injEq, Nat.succ_ne_zero, Nat.reduceAdd, and_self]
            · simp only [SameS, SameH, setSlot, gOf, AV.ren, renL, Blk.ren, Ax.look, Ax.put, reduceCtorEq, true_or, false_or, or_true, or_false, and_true, true_and, AV.w.injEq, Value.int.injEq, Value.bool.injEq, AV.ms.injEq, AV.sb.injEq, AV.str.injEq, ↓reduceIte, Nat.reduceEqDiff, Nat.reduceLT, List.length_append, List.length_cons, List.length_nil, Nat.zero_add, Nat.add_zero, Option.some.injEq, Blk.b.injEq, Blk.i.injEq, Nat.succ_ne_zero, Nat.reduceAdd, and_self]
          · have d3 := decide_eq_false hc
            simp -implicitDefEqProofs only [evT, evD0, evD1, evD2, implies_true, forall_const, Option.getD, later_normal, aop, aLen, ev, putSlot, cv, cvl, aConv, aBin, aInt, aUn, aFn, aEq, List.length, IntKind.bits, evo, coe, List.append, List.replicate, Nat.reduceAdd, Nat.reduceSub, Nat.reduceMul, Int.reduceToNat, reduceCtorEq, aIndexAddr, aIndex, TD.aggr, aPick, aMin, aMax, Ax.Ends, rone, ↓reduceIte, List.isEmpty, Int.reducePow, Nat.reducePow, Int.reduceMod, Nat.reduceLeDiff, Int.reduceLE, Int.reduceNe, Int.reduceEq, aAppend, appendB, viewB, List.drop, List.take, aRange, aNext, aCopy, srcB, viewG, appendG, appendI, aSlice, bnd, full3, aStore, setB, AV.leaves, AV.okv, AV.leaf, one, elemLeaves, Blk.size, Blk.len, Option.isSome, Option.isNone, aStr, aNil, aExtract, viewI, Nat.reduceEqDiff, Nat.reduceLT, Nat.reduceBEq, List.contains, List.elem, Blk.closed, Blk.noimm, ↓gsplit_tt, ↓gsplit_ff, ↓gsplit_tf, ↓gsplit_ft, ↓csplit_t, ↓csplit_f, givenUp, Blk.clean, notMs, evDO, evTO, evTP, laterO_normal, ↓frzK_def, Blk.fz, Blk.fg, ↓openKO_def, openOp, Blk.isGone, Blk.idsB, Blk.sidsB, Blk.ren, EndsO, Blk.ids, Op.operands, Call.operands, List.map_cons, List.map_nil, List.toList_toArray, Array.toList_append, Option.toArray_some, Option.toArray_none, Bool.and_self, -coe, coe_w, coe_str, coe_agg, coe_tup, coe_sb, coe_si, coe_cp, coe_ms, coe_rf, coe_fn, coe_cons, ty, Smback, mbackPl, put8S, get8S, hle, d2, d3, e1, hs1, hk0, hk1, hnl, tk, eqM_dec, fillS, Int.toNat_natCast, Nat.sub_zero]
            repeat (refine And.intro (by first | omega | (unfold top; omega)) ?_)
            refine ⟨l.length - (i + 1), _, by omega, weak_ren [0, 1, 2, 3] rfl rfl rfl ?_ ?_, i + 1, rfl, by omega, rfl⟩
            · simp only [SameS, SameH, setSlot, gOf, AV.ren, renL, Blk.ren, Ax.look, Ax.put, reduceCtorEq, true_or, false_or, or_true, or_false, and_true, true_and, AV.w.injEq, Value.int.injEq, Value.bool.injEq, AV.ms.injEq, AV.sb.injEq, AV.str.injEq, ↓reduceIte, Nat.reduceEqDiff, Nat.reduceLT, List.length_append, List.length_cons, List.length_nil, Nat.zero_add, Nat.add_zero, Option.some.injEq, Blk.b.injEq, Blk.i.injEq, Nat.succ_ne_zero, Nat.reduceAdd, and_self]
            · simp only [SameS, SameH, setSlot, gOf, AV.ren, renL, Blk.ren, Ax.look, Ax.put, reduceCtorEq, true_or, false_or, or_true, or_false, and_true, true_and, AV.w.injEq, Value.int.injEq, Value.bool.injEq, AV.ms.injEq, AV.sb.injEq, AV.str.injEq, ↓reduceIte, Nat.reduceEqDiff, Nat.reduceLT, List.length_append, List.length_cons, List.length_nil, Nat.zero_add, Nat.add_zero, Option.some.injEq, Blk.b.injEq, Blk.i.injEq, Nat.succ_ne_zero, Nat.reduceAdd, and_self]
        · have d2 : decide ((i : Int) < l.length) = false := decide_eq_false (by omega)
          by_cases hE : allE gen l = 0
          · have hO : allO gen l = allB gen l := if_pos hE
            have h8 := (allE_ok hE).2.2
            have hp1 := allB_pos gen l
            have hk1 : ∀ m ∈ l, 0 ≤ m.k := fun m hm => (hk m hm).1
            obtain ⟨g1, g2, g3, g4, _⟩ := okG_lay gen l hE (by omega) hk1
            have n3 := all_app gen l hE (by omega) hk1 [0] (by simp)
            have n4 := all_cut gen l hE (by omega) hk1
            have v1 : gaA (allB gen l) = .tup [.w (.int .i64 gen), lstA l, .w (.int .i64 0)] := by
              unfold gaA; rw [if_pos g4, g1, g2, Int.toNat_natCast, g3]
            have v3 : gaA (allB gen l ++ [0]) = .tup [.w (.int .i64 0), .sg 1 [] true, .w (.int .i64 4)] := if_neg n3
            have v4 : gaA ((allB gen l).take ((allB gen l).length - 1)) = .tup [.w (.int .i64 0), .sg 1 [] true, .w (.int .i64 4)] := if_neg n4
            obtain ⟨Y, hY⟩ : ∃ x, allB gen l = x := ⟨_, rfl⟩
            rw [hY] at hO h8 hp1 v1 v3 v4
            have hYl : Y.length ≤ 1000000 := by omega
            have hYl1 : (Y ++ [0]).length ≤ 1000000 := by rw [List.length_append, List.length_singleton]; omega
            have hYl2 : (Y.take (Y.length - 1)).length ≤ 1000000 := by rw [List.length_take]; omega
            have t3 : List.take (Y.length + 1) (Y ++ [UInt8.ofNat 0]) = Y ++ [0] := List.take_of_length_le (by rw [List.length_append]; exact Nat.le_refl _)
            obtain ⟨Z, hZ⟩ : ∃ x, Y ++ [0] = x := ⟨_, rfl⟩
            obtain ⟨Q, hQ⟩ : ∃ x, Y.take (Y.length - 1) = x := ⟨_, rfl⟩
            rw [hZ] at t3 hYl1 v3
            rw [hQ] at hYl2 v4
            have d5 : decide ((Y.length : Int) = 0) = false := decide_eq_false (by omega)
            have e5 : ((Y.length : Int) - 1 + 9223372036854775808) % 18446744073709551616 - 9223372036854775808 = ((Y.length - 1 : Nat) : Int) := by omega
            have d7 : decide (gen = gen) = true := decide_eq_true rfl
            have hsl := sameL_self l
            simp -implicitDefEqProofs only [evT, evD0, evD1, evD2, implies_true, forall_const, Option.getD, later_normal, aop, aLen, ev, putSlot, cv, cvl, aConv, aBin, aInt, aUn, aFn, aEq, List.length, IntKind.bits, evo, coe, List.append, List.replicate, Nat.reduceAdd, Nat.reduceSub, Nat.reduceMul, Int.reduceToNat, reduceCtorEq, aIndexAddr, aIndex, TD.aggr, aPick, aMin, aMax, Ax.Ends, rone, ↓reduceIte, List.isEmpty, Int.reducePow, Nat.reducePow, Int.reduceMod, Nat.reduceLeDiff, Int.reduceLE, Int.reduceNe, Int.reduceEq, aAppend, appendB, viewB, List.drop, List.take, aRange, aNext, aCopy, srcB, viewG, appendG, appendI, aSlice, bnd, full3, aStore, setB, AV.leaves, AV.okv, AV.leaf, one, elemLeaves, Blk.size, Blk.len, Option.isSome, Option.isNone, aStr, aNil, aExtract, viewI, Nat.reduceEqDiff, Nat.reduceLT, Nat.reduceBEq, List.contains, List.elem, Blk.closed, Blk.noimm, ↓gsplit_tt, ↓gsplit_ff, ↓gsplit_tf, ↓gsplit_ft, ↓csplit_t, ↓csplit_f, givenUp, Blk.clean, notMs, evDO, evTO, evTP, laterO_normal, ↓frzK_def, Blk.fz, Blk.fg, ↓openKO_def, openOp, Blk.isGone, Blk.idsB, Blk.sidsB, Blk.ren, EndsO, Blk.ids, Op.operands, Call.operands, List.map_cons, List.map_nil, List.toList_toArray, Array.toList_append, Option.toArray_some, Option.toArray_none, Bool.and_self, -coe, coe_w, coe_str, coe_agg, coe_tup, coe_sb, coe_si, coe_cp, coe_ms, coe_rf, coe_fn, coe_cons, ty, Smback, mbackPl, hle, d2, -laterO_normal]
            rw [laterO_normal]
            simp -implicitDefEqProofs only [evT, evD0, evD1, evD2, implies_true, forall_const, Option.getD, later_normal, aop, aLen, ev, putSlot, cv, cvl, aConv, aBin, aInt, aUn, aFn, aEq, List.length, IntKind.bits, evo, coe, List.append, List.replicate, Nat.reduceAdd, Nat.reduceSub, Nat.reduceMul, Int.reduceToNat, reduceCtorEq, aIndexAddr, aIndex, TD.aggr, aPick, aMin, aMax, Ax.Ends, rone, ↓reduceIte, List.isEmpty, Int.reducePow, Nat.reducePow, Int.reduceMod, Nat.reduceLeDiff, Int.reduceLE, Int.reduceNe, Int.reduceEq, aAppend, appendB, viewB, List.drop, List.take, aRange, aNext, aCopy, srcB, viewG, appendG, appendI, aSlice, bnd, full3, aStore, setB, AV.leaves, AV.okv, AV.leaf, one, elemLeaves, Blk.size, Blk.len, Option.isSome, Option.isNone, aStr, aNil, aExtract, viewI, Nat.reduceEqDiff, Nat.reduceLT, Nat.reduceBEq, List.contains, List.elem, Blk.closed, Blk.noimm, ↓gsplit_tt, ↓gsplit_ff, ↓gsplit_tf, ↓gsplit_ft, ↓csplit_t, ↓csplit_f, givenUp, Blk.clean, notMs, evDO, evTO, evTP, laterO_normal, ↓frzK_def, Blk.fz, Blk.fg, ↓openKO_def, openOp, Blk.isGone, Blk.idsB, Blk.sidsB, Blk.ren, EndsO, Blk.ids, Op.operands, Call.operands, List.map_cons, List.map_nil, List.toList_toArray, Array.toList_append, Option.toArray_some, Option.toArray_none, Bool.and_self, -coe, coe_w, coe_str, coe_agg, coe_tup, coe_sb, coe_si, coe_cp, coe_ms, coe_rf, coe_fn, coe_cons, ty, -laterO_normal]
            refine ⟨_, Weak.refl _, ?_⟩
            cases l with
            | nil =>
              rw [lstA_nil] at v1
              have hun : ([] : List AV).map umt = [] := rfl
              have hex0 : ∃ k : List Mt, ([] : List AV) = k.map mtA := ⟨[], rfl⟩
              have hft0 : ∃ k : List Mt, ([] : List AV) = k.map mtA ∧ fitL k := ⟨[], rfl, fun m hm => by simp at hm⟩
              simp only [List.map_nil]
              simp -implicitDefEqProofs only [evT, evD0, evD1, evD2, implies_true, forall_const, Option.getD, later_normal, aop, aLen, ev, putSlot, cv, cvl, aConv, aBin, aInt, aUn, aFn, aEq, List.length, IntKind.bits, evo, coe, List.append, List.replicate, Nat.reduceAdd, Nat.reduceSub, Nat.reduceMul, Int.reduceToNat, reduceCtorEq, aIndexAddr, aIndex, TD.aggr, aPick, aMin, aMax, Ax.Ends, rone, ↓reduceIte, List.isEmpty, Int.reducePow, Nat.reducePow, Int.reduceMod, Nat.reduceLeDiff, Int.reduceLE, Int.reduceNe, Int.reduceEq, aAppend, appendB, viewB, List.drop, List.take, aRange, aNext, aCopy, srcB, viewG, appendG, appendI, aSlice, bnd, full3, aStore, setB, AV.leaves, AV.okv, AV.leaf, one, elemLeaves, Blk.size, Blk.len, Option.isSome, Option.isNone, aStr, aNil, aExtract, viewI, Nat.reduceEqDiff, Nat.reduceLT, Nat.reduceBEq, List.contains, List.elem, Blk.closed, Blk.noimm, ↓gsplit_tt, ↓gsplit_ff, ↓gsplit_tf, ↓gsplit_ft, ↓csplit_t, ↓csplit_f, givenUp, Blk.clean, notMs, evDO, evTO, evTP, laterO_normal, ↓frzK_def, Blk.fz, Blk.fg, ↓openKO_def, openOp, Blk.isGone, Blk.idsB, Blk.sidsB, Blk.ren, EndsO, Blk.ids, Op.operands, Call.operands, List.map_cons, List.map_nil, List.toList_toArray, Array.toList_append, Option.toArray_some, Option.toArray_none, Bool.and_self, ty, Smback, mbackPl, putAllS, getAllS, sameAllS, yesS, hg, hE, hO, hft0, hun, hex0, hYl, hYl1, hYl2, tk, v1, v3, v4, t3, hQ, d5, e5, d7, hsl, fillS, Int.toNat_natCast, Nat.sub_zero]
              repeat (refine And.intro (by first | omega | (unfold top; omega)) ?_)
              exact wE8_ends 4 rfl
            | cons q r =>
              rw [lstA_ne (by simp)] at v1
              have hco2 := coe_mt (q :: r) false
              have hll : ((q :: r).map mtA).length ≤ 9223372036854775807 := by rw [List.length_map]; omega
              have hll2 : ((q :: r).map mtA).length ≤ 1000000 := by rw [List.length_map]; omega
              generalize (q :: r).map mtA = X at v1 hmu hex hft hll hll2 hco hco2 hle ⊢
              generalize q :: r = l at hmu hex hsl hle hE hO hL h6 ⊢
              simp -implicitDefEqProofs only [evT, evD0, evD1, evD2, implies_true, forall_const, Option.getD, later_normal, aop, aLen, ev, putSlot, cv, cvl, aConv, aBin, aInt, aUn, aFn, aEq, List.length, IntKind.bits, evo, coe, List.append, List.replicate, Nat.reduceAdd, Nat.reduceSub, Nat.reduceMul, Int.reduceToNat, reduceCtorEq, aIndexAddr, aIndex, TD.aggr, aPick, aMin, aMax, Ax.Ends, rone, ↓reduceIte, List.isEmpty, Int.reducePow, Nat.reducePow, Int.reduceMod, Nat.reduceLeDiff, Int.reduceLE, Int.reduceNe, Int.reduceEq, aAppend, appendB, viewB, List.drop, List.take, aRange, aNext, aCopy, srcB, viewG, appendG, appendI, aSlice, bnd, full3, aStore, setB, AV.leaves, AV.okv, AV.leaf, one, elemLeaves, Blk.size, Blk.len, Option.isSome, Option.isNone, aStr, aNil, aExtract, viewI, Nat.reduceEqDiff, Nat.reduceLT, Nat.reduceBEq, List.contains, List.elem, Blk.closed, Blk.noimm, ↓gsplit_tt, ↓gsplit_ff, ↓gsplit_tf, ↓gsplit_ft, ↓csplit_t, ↓csplit_f, givenUp, Blk.clean, notMs, evDO, evTO, evTP, laterO_normal, ↓frzK_def, Blk.fz, Blk.fg, ↓openKO_def, openOp, Blk.isGone, Blk.idsB, Blk.sidsB, Blk.ren, EndsO, Blk.ids, Op.operands, Call.operands, List.map_cons, List.map_nil, List.toList_toArray, Array.toList_append, Option.toArray_some, Option.toArray_none, Bool.and_self, -coe, coe_w, coe_str, coe_agg, coe_tup, coe_sb, coe_si, coe_cp, coe_ms, coe_rf, coe_fn, coe_cons, ty, Smback, mbackPl, putAllS, getAllS, sameAllS, yesS, hg, hE, hO, hft, hmu, hex, hll, hll2, hco, hco2, hYl, hYl1, hYl2, tk, v1, v3, v4, t3, hQ, d5, e5, d7, hsl, fillS, Int.toNat_natCast, Nat.sub_zero]
              repeat (refine And.intro (by first | omega | (unfold top; omega)) ?_)
              exact wE8_ends 4 rfl
          · have hO : allO gen l = [] := if_neg hE
            have d3 := decide_eq_false hE
            simp -implicitDefEqProofs only [evT, evD0, evD1, evD2, implies_true, forall_const, Option.getD, later_normal, aop, aLen, ev, putSlot, cv, cvl, aConv, aBin, aInt, aUn, aFn, aEq, List.length, IntKind.bits, evo, coe, List.append, List.replicate, Nat.reduceAdd, Nat.reduceSub, Nat.reduceMul, Int.reduceToNat, reduceCtorEq, aIndexAddr, aIndex, TD.aggr, aPick, aMin, aMax, Ax.Ends, rone, ↓reduceIte, List.isEmpty, Int.reducePow, Nat.reducePow, Int.reduceMod, Nat.reduceLeDiff, Int.reduceLE, Int.reduceNe, Int.reduceEq, aAppend, appendB, viewB, List.drop, List.take, aRange, aNext, aCopy, srcB, viewG, appendG, appendI, aSlice, bnd, full3, aStore, setB, AV.leaves, AV.okv, AV.leaf, one, elemLeaves, Blk.size, Blk.len, Option.isSome, Option.isNone, aStr, aNil, aExtract, viewI, Nat.reduceEqDiff, Nat.reduceLT, Nat.reduceBEq, List.contains, List.elem, Blk.closed, Blk.noimm, ↓gsplit_tt, ↓gsplit_ff, ↓gsplit_tf, ↓gsplit_ft, ↓csplit_t, ↓csplit_f, givenUp, Blk.clean, notMs, evDO, evTO, evTP, laterO_normal, ↓frzK_def, Blk.fz, Blk.fg, ↓openKO_def, openOp, Blk.isGone, Blk.idsB, Blk.sidsB, Blk.ren, EndsO, Blk.ids, Op.operands, Call.operands, List.map_cons, List.map_nil, List.toList_toArray, Array.toList_append, Option.toArray_some, Option.toArray_none, Bool.and_self, -coe, coe_w, coe_str, coe_agg, coe_tup, coe_sb, coe_si, coe_cp, coe_ms, coe_rf, coe_fn, coe_cons, ty, Smback, mbackPl, hle, d2, -laterO_normal]
            rw [laterO_normal]
            simp -implicitDefEqProofs only [evT, evD0, evD1, evD2, implies_true, forall_const, Option.getD, later_normal, aop, aLen, ev, putSlot, cv, cvl, aConv, aBin, aInt, aUn, aFn, aEq, List.length, IntKind.bits, evo, coe, List.append, List.replicate, Nat.reduceAdd, Nat.reduceSub, Nat.reduceMul, Int.reduceToNat, reduceCtorEq, aIndexAddr, aIndex, TD.aggr, aPick, aMin, aMax, Ax.Ends, rone, ↓reduceIte, List.isEmpty, Int.reducePow, Nat.reducePow, Int.reduceMod, Nat.reduceLeDiff, Int.reduceLE, Int.reduceNe, Int.reduceEq, aAppend, appendB, viewB, List.drop, List.take, aRange, aNext, aCopy, srcB, viewG, appendG, appendI, aSlice, bnd, full3, aStore, setB, AV.leaves, AV.okv, AV.leaf, one, elemLeaves, Blk.size, Blk.len, Option.isSome, Option.isNone, aStr, aNil, aExtract, viewI, Nat.reduceEqDiff, Nat.reduceLT, Nat.reduceBEq, List.contains, List.elem, Blk.closed, Blk.noimm, ↓gsplit_tt, ↓gsplit_ff, ↓gsplit_tf, ↓gsplit_ft, ↓csplit_t, ↓csplit_f, givenUp, Blk.clean, notMs, evDO, evTO, evTP, laterO_normal, ↓frzK_def, Blk.fz, Blk.fg, ↓openKO_def, openOp, Blk.isGone, Blk.idsB, Blk.sidsB, Blk.ren, EndsO, Blk.ids, Op.operands, Call.operands, List.map_cons, List.map_nil, List.toList_toArray, Array.toList_append, Option.toArray_some, Option.toArray_none, Bool.and_self, -coe, coe_w, coe_str, coe_agg, coe_tup, coe_sb, coe_si, coe_cp, coe_ms, coe_rf, coe_fn, coe_cons, ty, -laterO_normal]
            refine ⟨_, Weak.refl _, ?_⟩
            have hll2 : (l.map mtA).length ≤ 1000000 := by rw [List.length_map]; omega
            have z0 : decide (((0 : Nat) : Int) = 0) = true := rfl
            simp -implicitDefEqProofs only [evT, evD0, evD1, evD2, implies_true, forall_const, Option.getD, later_normal, aop, aLen, ev, putSlot, cv, cvl, aConv, aBin, aInt, aUn, aFn, aEq, List.length, IntKind.bits, evo, coe, List.append, List.replicate, Nat.reduceAdd, Nat.reduceSub, Nat.reduceMul, Int.reduceToNat, reduceCtorEq, aIndexAddr, aIndex, TD.aggr, aPick, aMin, aMax, Ax.Ends, rone, ↓reduceIte, List.isEmpty, Int.reducePow, Nat.reducePow, Int.reduceMod, Nat.reduceLeDiff, Int.reduceLE, Int.reduceNe, Int.reduceEq, aAppend, appendB, viewB, List.drop, List.take, aRange, aNext, aCopy, srcB, viewG, appendG, appendI, aSlice, bnd, full3, aStore, setB, AV.leaves, AV.okv, AV.leaf, one, elemLeaves, Blk.size, Blk.len, Option.isSome, Option.isNone, aStr, aNil, aExtract, viewI, Nat.reduceEqDiff, Nat.reduceLT, Nat.reduceBEq, List.contains, List.elem, Blk.closed, Blk.noimm, ↓gsplit_tt, ↓gsplit_ff, ↓gsplit_tf, ↓gsplit_ft, ↓csplit_t, ↓csplit_f, givenUp, Blk.clean, notMs, evDO, evTO, evTP, laterO_normal, ↓frzK_def, Blk.fz, Blk.fg, ↓openKO_def, openOp, Blk.isGone, Blk.idsB, Blk.sidsB, Blk.ren, EndsO, Blk.ids, Op.operands, Call.operands, List.map_cons, List.map_nil, List.toList_toArray, Array.toList_append, Option.toArray_some, Option.toArray_none, Bool.and_self, -coe, coe_w, coe_str, coe_agg, coe_tup, coe_sb, coe_si, coe_cp, coe_ms, coe_rf, coe_fn, coe_cons, ty, Smback, mbackPl, putAllS, yesS, hg, hO, hft, hmu, hll2, hle, h6, hco, d3, z0, tk]
            exact wE8_ends 4 rfl
  · exact hp.elim
end
theorem mback_dom {x y : AV} (hx : Arg ty 6 3 x) (hy : Arg ty 6 25 y) : (mbackS [x, y] []).p ∧ (mbackS [x, y] []).x = .w (.bool true) := by
  obtain ⟨n, rfl, h1⟩ := arg_int8 hx
  obtain ⟨l, f, rfl, h2, h3⟩ := arg_mts hy
  exact ⟨⟨h1, by rw [List.length_map]; exact h2, l, rfl, h3⟩, rfl⟩
end Go.Proofs.Ytlbdhkgjhjcgiaa
