/- Layer 4: the document's Check and Put. -/
import Derived.Test.YthmkhlmohjcbgaaM1
namespace Go.Proofs.Ythmkhlmohjcbgaa
open Ax
set_option linter.unusedSimpArgs false
set_option linter.unusedVariables false

/-- How the fields are looked at, one by one. -/
theorem fld_cases (b c p e s n : Int) :
    (decide (c < 1) = true ∧ bfld b c p e s n = 11) ∨
    (decide (c < 1) = false ∧ decide (32 < c) = true ∧ bfld b c p e s n = 11) ∨
    (decide (c < 1) = false ∧ decide (32 < c) = false ∧ decide (b < 0) = true ∧ bfld b c p e s n = 11) ∨
    (decide (c < 1) = false ∧ decide (32 < c) = false ∧ (4611686018427387903 - c + 9223372036854775808) % 18446744073709551616 - 9223372036854775808 = 4611686018427387903 - c ∧ decide (b < 0) = false ∧ decide (4611686018427387903 - c < b) = true ∧ bfld b c p e s n = 11) ∨
    (decide (c < 1) = false ∧ decide (32 < c) = false ∧ (4611686018427387903 - c + 9223372036854775808) % 18446744073709551616 - 9223372036854775808 = 4611686018427387903 - c ∧ decide (b < 0) = false ∧ decide (4611686018427387903 - c < b) = false ∧
      ((decide (p < 0) = true ∧ bfld b c p e s n = 11) ∨
       (decide (p < 0) = false ∧ decide (1099511627776 < p) = true ∧ bfld b c p e s n = 11) ∨
       (decide (p < 0) = false ∧ decide (1099511627776 < p) = false ∧ decide (e < 0) = true ∧ bfld b c p e s n = 11) ∨
       (decide (p < 0) = false ∧ decide (1099511627776 < p) = false ∧ decide (e < 0) = false ∧ decide (32767 < e) = true ∧ bfld b c p e s n = 11) ∨
       (decide (p < 0) = false ∧ decide (1099511627776 < p) = false ∧ decide (e < 0) = false ∧ decide (32767 < e) = false ∧ decide (s < 0) = true ∧ bfld b c p e s n = 11) ∨
       (decide (p < 0) = false ∧ decide (1099511627776 < p) = false ∧ decide (e < 0) = false ∧ decide (32767 < e) = false ∧ decide (s < 0) = false ∧ decide (2147483647 < s) = true ∧ bfld b c p e s n = 11) ∨
       (decide (p < 0) = false ∧ decide (1099511627776 < p) = false ∧ decide (e < 0) = false ∧ decide (32767 < e) = false ∧ decide (s < 0) = false ∧ decide (2147483647 < s) = false ∧
        ((decide (p = 0) = true ∧ decide (e = 0) = false ∧ bfld b c p e s n = 4) ∨
         (decide (p = 0) = true ∧ decide (e = 0) = true ∧ decide (s = 0) = false ∧ bfld b c p e s n = 4) ∨
         (decide (p = 0) = true ∧ decide (e = 0) = true ∧ decide (s = 0) = true ∧ decide (c < n) = true ∧ bfld b c p e s n = 5) ∨
         (decide (p = 0) = false ∧ decide (c < n) = true ∧ bfld b c p e s n = 5) ∨
         (decide (p = 0) = true ∧ decide (e = 0) = true ∧ decide (s = 0) = true ∧ decide (c < n) = false ∧ bfld b c p e s n = 0) ∨
         (decide (p = 0) = false ∧ decide (c < n) = false ∧ bfld b c p e s n = 0))))) := by
  unfold bfld
  simp only [decide_eq_true_eq, decide_eq_false_iff_not]
  by_cases h0 : c < 1
  · exact .inl ⟨h0, if_pos (by omega)⟩
  by_cases h1 : 32 < c
  · exact .inr (.inl ⟨h0, h1, if_pos (by omega)⟩)
  by_cases h2 : b < 0
  · exact .inr (.inr (.inl ⟨h0, h1, h2, if_pos (by omega)⟩))
  by_cases h3 : 4611686018427387903 - c < b
  · exact .inr (.inr (.inr (.inl ⟨h0, h1, by omega, h2, h3, if_pos (by omega)⟩)))
  refine .inr (.inr (.inr (.inr ⟨h0, h1, by omega, h2, h3, ?_⟩)))
  by_cases h4 : p < 0
  · exact .inl ⟨h4, if_pos (by omega)⟩
  by_cases h5 : 1099511627776 < p
  · exact .inr (.inl ⟨h4, h5, if_pos (by omega)⟩)
  by_cases h6 : e < 0
  · exact .inr (.inr (.inl ⟨h4, h5, h6, if_pos (by omega)⟩))
  by_cases h7 : 32767 < e
  · exact .inr (.inr (.inr (.inl ⟨h4, h5, h6, h7, if_pos (by omega)⟩)))
  by_cases h8 : s < 0
  · exact .inr (.inr (.inr (.inr (.inl ⟨h4, h5, h6, h7, h8, if_pos (by omega)⟩))))
  by_cases h9 : 2147483647 < s
  · exact .inr (.inr (.inr (.inr (.inr (.inl ⟨h4, h5, h6, h7, h8, h9, if_pos (by omega)⟩)))))
  refine .inr (.inr (.inr (.inr (.inr (.inr ⟨h4, h5, h6, h7, h8, h9, ?_⟩)))))
  rw [if_neg (by omega)]
  by_cases hp : p = 0
  · by_cases he : e = 0
    · by_cases hs : s = 0
      · by_cases hc : c < n
        · exact .inr (.inr (.inl ⟨hp, he, hs, hc, by rw [if_neg (by omega), if_pos hc]⟩))
        · exact .inr (.inr (.inr (.inr (.inl ⟨hp, he, hs, hc, by rw [if_neg (by omega), if_neg hc]⟩))))
      · exact .inr (.inl ⟨hp, he, hs, if_pos (by omega)⟩)
    · exact .inl ⟨hp, he, if_pos (by omega)⟩
  · by_cases hc : c < n
    · exact .inr (.inr (.inr (.inl ⟨hp, hc, by rw [if_neg (by omega), if_pos hc]⟩)))
    · exact .inr (.inr (.inr (.inr (.inr ⟨hp, hc, by rw [if_neg (by omega), if_neg hc]⟩))))
def rchkS4 : FSpec
  | [.agg [.w (.int .i64 b), .w (.int .i64 c), .w (.int .i64 p), .w (.int .i64 e), .w (.int .i64 s), .sg 6 xs f]], [] =>
      ⟨xs.length ≤ 40 ∧ ∃ rs : List Rec, xs = rs.map rv, .w (.int .i64 (batE b c p e s (xs.map rrec))), []⟩
  | _, _ => noRes
def rputS4 : FSpec
  | [.agg [.w (.int .i64 b), .w (.int .i64 c), .w (.int .i64 p), .w (.int .i64 e), .w (.int .i64 s), .sg 6 xs f]], [] => ⟨xs.length ≤ 40 ∧ ∃ rs : List Rec, xs = rs.map rv,
      .tup [.sb (batB b c p e s (xs.map rrec)) false, .w (.int .i64 (batE b c p e s (xs.map rrec)))], []⟩
  | _, _ => noRes
theorem batE_eq (b c p e s : Int) (rs : List Rec) (h : bfld b c p e s rs.length ≠ 0) : batE b c p e s rs = bfld b c p e s rs.length := if_neg h
def Srchk4 (f : FuncId) : Option FSpec :=
  match f with
  | 31 => some rlayS4
  | 41 => some rchkS
  | _ => none
theorem Srchk4_ok : Fns Try.prog Srchk4 := by
  intro f s h
  unfold Srchk4 at h
  split at h
  · injection h with h; subst h; exact ⟨⟨_, Try.func31, by kernel_rfl, by kernel_rfl⟩, rlay4_sound⟩
  · injection h with h; subst h; exact ⟨⟨_, Try.func41, by kernel_rfl, by kernel_rfl⟩, rrcheck_sound⟩
  · cases h
section
set_option maxRecDepth 100000
set_option maxHeartbeats 4000000 in
theorem rchk4_sound : Sound Try.prog 18 rchkS4 := by
  refine fn_sound (S := Srchk4) (T := ty) mixed ty_ok Srchk4_ok Try.func18 (c := Try.f18.body.getD .skip) (by kernel_rfl) (by kernel_rfl) (fun xs pins hp _ => ?_)
  unfold rchkS4 at hp ⊢
  split at hp
  · rename_i b c p e s xs f _
    obtain ⟨hL, rs, rfl⟩ := hp
    have hl4 : (rs.map rv).length = rs.length := by simp
    rw [hl4] at hL
    refine ⟨by simp, ?_⟩
    unfold Try.f18
    have hE := batE_eq b c p e s rs
    have n1 : ((11 : Int) ≠ 0) = True := by decide
    have n2 : ((4 : Int) ≠ 0) = True := by decide
    have n3 : ((5 : Int) ≠ 0) = True := by decide
    rcases fld_cases b c p e s rs.length with D | D | D | D | ⟨a0, a1, a2, a3, a4, D | D | D | D | D | D | ⟨a5, a6, a7, a8, a9, a10, D | D | D | D | D | D⟩⟩
    all_goals simp -implicitDefEqProofs only [evT, implies_true, forall_const, Option.getD, later_normal, aop, aLen, ev, slot, setSlot, putSlot, cv, cvl, aConv, aBin, aInt, aUn, aFn, aEq, Out.and, isBool, isPtr, List.length, IntKind.bits, evs, evo, evps, aCall, aUser, coes, coe, List.append, List.replicate, callOut, rootsL, AV.roots, lendsL, AV.lends, pinsOf, nodup, lendL, lend, closedB, noimmB, AV.noimm, AV.ren, renL, back, Nat.reduceAdd, Nat.reduceSub, Nat.reduceMul, Int.reduceToNat, reduceCtorEq, aLoad, subv, aIndexAddr, aIndex, TD.aggr, guardSlot, aPick, byte, word, aMin, aMax, Ax.Ends, EndsX, Ax.rvals, rone, AV.ids, idsL, newIds, upTo, pinHeap, gOf, ↓reduceIte, List.isEmpty, Int.reducePow, Nat.reducePow, Int.reduceMod, Nat.reduceLeDiff, Int.reduceLE, Int.reduceNe, Int.reduceEq, aBuildSlice, fillB, aAppend, appendB, viewB, Ax.look, Ax.put, Ax.drop, List.drop, List.take, asv, aMake, aCopy, srcB, fillG, viewG, appendG, appendI, fillI, aSlice, bnd, bnds, full3, cut, aFieldAddr, aField, aStore, setB, aBox, aBuild, fillS, allTy, AV.leaves, AV.okv, AV.leaf, one, splice, elemLeaves, Blk.size, Blk.len, Option.isSome, Option.isNone, isBytes, aStr, aNil, aAlloc, aExtract, viewI, Nat.reduceEqDiff, Nat.reduceLT, Nat.reduceBEq, List.contains, List.elem, Blk.closed, closedL, AV.closed, Blk.noimm, ↓gsplit_tt, ↓gsplit_ff, ↓gsplit_tf, ↓gsplit_ft, ↓csplit_t, ↓csplit_f, Ax.idx, AV.lentIds, lentIdsL, dropAll, givenUp, AV.clean, cleanL, Blk.clean, cleanB, quietC, flatTy, coldStr, notMs, eqV, eqF, isStruct, -coe, coe_w, coe_str, coe_agg, coe_tup, coe_sb, coe_si, coe_cp, coe_ms, coe_rf, coe_fn, coe_cons, ty, Srchk4, hl4, map_rrec, *]
    all_goals
      have hF : bfld b c p e s rs.length = 0 := by simp only [D]
      have hz := bfld_zero hF
      clear D hE n1 n2 n3
      refine awp_loop ⟨fun m σ => ∃ (i : Nat) (a : Int), m = rs.length - i ∧ i ≤ rs.length ∧ layE c (-1) rs = layE c a (rs.drop i) ∧
          σ = ⟨[.agg [.w (.int .i64 b), .w (.int .i64 c), .w (.int .i64 p), .w (.int .i64 e), .w (.int .i64 s), .sg 6 (rs.map rv) f], .rf 4 6 0 0, .junk, .w (.int .i64 a), .w (.int .i64 i), .junk, .junk, .junk, .junk, .junk, .junk, .junk, .junk, .junk, .junk, .junk, .junk, .junk, .junk, .junk, .junk, .junk, .junk, .junk, .junk, .junk, .junk, .junk, .junk, .junk, .junk, .junk, .junk, .junk, .junk, .junk, .junk, .junk, .junk, .junk, .junk, .junk, .junk, .junk, .junk, .junk, .junk, .junk, .junk, .junk, .junk, .junk, .junk, .junk, .junk, .junk, .junk, .junk, .junk, .junk, .junk, .junk, .junk, .junk, .junk, .junk, .junk, .junk, .junk, .junk, .junk, .junk, .junk, .junk, .junk, .junk, .junk, .junk, .junk, .junk, .junk, .junk, .junk, .junk, .junk, .junk, .junk, .junk, .junk, .junk, .junk, .junk, .junk, .junk, .junk, .junk, .junk, .junk, .junk, .junk, .junk, .junk, .junk, .junk, .junk, .junk, .junk, .junk, .junk, .junk, .junk, .junk, .junk, .junk, .junk, .junk, .junk, .junk, .junk, .junk, .junk, .junk, .junk, .junk, .junk], [(4, .g 6 [.agg [.w (.int .i64 b), .w (.int .i64 c), .w (.int .i64 p), .w (.int .i64 e), .w (.int .i64 s), .sg 6 (rs.map rv) f]])], 5⟩, ?_, ?_⟩
      · refine ⟨_, _, weak_ren [0, 1, 2, 3, 4] rfl rfl rfl ?_ ?_, 0, -1, rfl, by omega, by rw [List.drop_zero], rfl⟩
        · simp only [SameS, SameH, setSlot, gOf, AV.ren, renL, Blk.ren, Ax.look, Ax.put, reduceCtorEq, true_or, false_or, or_true, or_false, and_true, true_and, AV.w.injEq, Value.int.injEq, Value.bool.injEq, AV.ms.injEq, AV.sb.injEq, AV.str.injEq, ↓reduceIte, Nat.reduceEqDiff, Nat.reduceLT, List.length_append, List.length_cons, List.length_nil, Nat.zero_add, Nat.add_zero, Option.some.injEq, Blk.b.injEq, Blk.i.injEq, Nat.succ_ne_zero, Nat.reduceAdd, and_self]; try simp
        · simp only [SameS, SameH, setSlot, gOf, AV.ren, renL, Blk.ren, Ax.look, Ax.put, reduceCtorEq, true_or, false_or, or_true, or_false, and_true, true_and, AV.w.injEq, Value.int.injEq, Value.bool.injEq, AV.ms.injEq, AV.sb.injEq, AV.str.injEq, ↓reduceIte, Nat.reduceEqDiff, Nat.reduceLT, List.length_append, List.length_cons, List.length_nil, Nat.zero_add, Nat.add_zero, Option.some.injEq, Blk.b.injEq, Blk.i.injEq, Nat.succ_ne_zero, Nat.reduceAdd, and_self]
      · rintro m σ ⟨i, a, rfl, hi, hinv, rfl⟩
        have e2 : ((i : Int) + 1 + 9223372036854775808) % 18446744073709551616 - 9223372036854775808 = ((i + 1 : Nat) : Int) := by omega
        by_cases hil : i < rs.length
        · have d3 : decide ((i : Int) < rs.length) = true := decide_eq_true (by omega)
          have hsl := kslot_map rv rs i hil
          have hdr : rs.drop i = rs[i] :: rs.drop (i + 1) := List.drop_eq_getElem_cons hil
          obtain ⟨R, hR⟩ : ∃ R, rs[i] = R := ⟨_, rfl⟩
          rw [hR] at hsl hdr
          simp only [rv] at hsl
          rw [hdr, layE_cons] at hinv
          have hrk : rchk R.d R.t R.k R.key R.dd R.val = rk R := rfl
          have hLE : ∀ v, v ≠ 0 → layE c (-1) rs = v → batE b c p e s rs = v := fun v h1 h2 => by unfold batE; rw [if_pos hF, if_neg (by rw [h2]; exact h1), h2]
          by_cases hk0 : rk R = 0
          · have d4 : decide (rk R = 0) = true := decide_eq_true hk0
            rw [if_pos hk0] at hinv
            have hor : (decide (R.d ≤ a) = true ∧ batE b c p e s rs = 16) ∨ (decide (R.d ≤ a) = false ∧ decide (c ≤ R.d) = true ∧ batE b c p e s rs = 16) ∨ (decide (R.d ≤ a) = false ∧ decide (c ≤ R.d) = false ∧ layE c (-1) rs = layE c R.d (rs.drop (i + 1))) := by
              by_cases hA : R.d ≤ a
              · rw [if_pos (.inl hA)] at hinv
                exact .inl ⟨decide_eq_true hA, hLE 16 (by decide) hinv⟩
              · by_cases hC : c ≤ R.d
                · rw [if_pos (.inr hC)] at hinv
                  exact .inr (.inl ⟨decide_eq_false hA, decide_eq_true hC, hLE 16 (by decide) hinv⟩)
                · rw [if_neg (by omega)] at hinv
                  exact .inr (.inr ⟨decide_eq_false hA, decide_eq_false hC, hinv⟩)
            clear hinv
            rcases hor with D | D | D
            all_goals simp -implicitDefEqProofs only [evT, implies_true, forall_const, Option.getD, later_normal, aop, aLen, ev, slot, setSlot, putSlot, cv, cvl, aConv, aBin, aInt, aUn, aFn, aEq, Out.and, isBool, isPtr, List.length, IntKind.bits, evs, evo, evps, aCall, aUser, coes, coe, List.append, List.replicate, callOut, rootsL, AV.roots, lendsL, AV.lends, pinsOf, nodup, lendL, lend, closedB, noimmB, AV.noimm, AV.ren, renL, back, Nat.reduceAdd, Nat.reduceSub, Nat.reduceMul, Int.reduceToNat, reduceCtorEq, aLoad, subv, aIndexAddr, aIndex, TD.aggr, guardSlot, aPick, byte, word, aMin, aMax, Ax.Ends, EndsX, Ax.rvals, rone, AV.ids, idsL, newIds, upTo, pinHeap, gOf, ↓reduceIte, List.isEmpty, Int.reducePow, Nat.reducePow, Int.reduceMod, Nat.reduceLeDiff, Int.reduceLE, Int.reduceNe, Int.reduceEq, aBuildSlice, fillB, aAppend, appendB, viewB, Ax.look, Ax.put, Ax.drop, List.drop, List.take, asv, aMake, aCopy, srcB, fillG, viewG, appendG, appendI, fillI, aSlice, bnd, bnds, full3, cut, aFieldAddr, aField, aStore, setB, aBox, aBuild, fillS, allTy, AV.leaves, AV.okv, AV.leaf, one, splice, elemLeaves, Blk.size, Blk.len, Option.isSome, Option.isNone, isBytes, aStr, aNil, aAlloc, aExtract, viewI, Nat.reduceEqDiff, Nat.reduceLT, Nat.reduceBEq, List.contains, List.elem, Blk.closed, closedL, AV.closed, Blk.noimm, ↓gsplit_tt, ↓gsplit_ff, ↓gsplit_tf, ↓gsplit_ft, ↓csplit_t, ↓csplit_f, Ax.idx, AV.lentIds, lentIdsL, dropAll, givenUp, AV.clean, cleanL, Blk.clean, cleanB, quietC, flatTy, coldStr, notMs, eqV, eqF, isStruct, -coe, coe_w, coe_str, coe_agg, coe_tup, coe_sb, coe_si, coe_cp, coe_ms, coe_rf, coe_fn, coe_cons, ty, Srchk4, rchkS, hrk, hl4, d3, hsl, d4, e2, map_rrec, Int.toNat_natCast, D]
            all_goals repeat (refine And.intro (by omega) ?_)
            all_goals try omega
            refine ⟨rs.length - (i + 1), _, by omega, weak_ren [0, 1, 2, 3, 4] rfl rfl rfl ?_ ?_, i + 1, R.d, rfl, by omega, rfl, rfl⟩
            · simp only [SameS, SameH, setSlot, gOf, AV.ren, renL, Blk.ren, Ax.look, Ax.put, reduceCtorEq, true_or, false_or, or_true, or_false, and_true, true_and, AV.w.injEq, Value.int.injEq, Value.bool.injEq, AV.ms.injEq, AV.sb.injEq, AV.str.injEq, ↓reduceIte, Nat.reduceEqDiff, Nat.reduceLT, List.length_append, List.length_cons, List.length_nil, Nat.zero_add, Nat.add_zero, Option.some.injEq, Blk.b.injEq, Blk.i.injEq, Nat.succ_ne_zero, Nat.reduceAdd, and_self]
            · simp only [SameS, SameH, setSlot, gOf, AV.ren, renL, Blk.ren, Ax.look, Ax.put, reduceCtorEq, true_or, false_or, or_true, or_false, and_true, true_and, AV.w.injEq, Value.int.injEq, Value.bool.injEq, AV.ms.injEq, AV.sb.injEq, AV.str.injEq, ↓reduceIte, Nat.reduceEqDiff, Nat.reduceLT, List.length_append, List.length_cons, List.length_nil, Nat.zero_add, Nat.add_zero, Option.some.injEq, Blk.b.injEq, Blk.i.injEq, Nat.succ_ne_zero, Nat.reduceAdd, and_self]
          · have d4 : decide (rk R = 0) = false := decide_eq_false hk0
            rw [if_neg hk0] at hinv
            have hB := hLE _ hk0 hinv
            simp -implicitDefEqProofs only [evT, implies_true, forall_const, Option.getD, later_normal, aop, aLen, ev, slot, setSlot, putSlot, cv, cvl, aConv, aBin, aInt, aUn, aFn, aEq, Out.and, isBool, isPtr, List.length, IntKind.bits, evs, evo, evps, aCall, aUser, coes, coe, List.append, List.replicate, callOut, rootsL, AV.roots, lendsL, AV.lends, pinsOf, nodup, lendL, lend, closedB, noimmB, AV.noimm, AV.ren, renL, back, Nat.reduceAdd, Nat.reduceSub, Nat.reduceMul, Int.reduceToNat, reduceCtorEq, aLoad, subv, aIndexAddr, aIndex, TD.aggr, guardSlot, aPick, byte, word, aMin, aMax, Ax.Ends, EndsX, Ax.rvals, rone, AV.ids, idsL, newIds, upTo, pinHeap, gOf, ↓reduceIte, List.isEmpty, Int.reducePow, Nat.reducePow, Int.reduceMod, Nat.reduceLeDiff, Int.reduceLE, Int.reduceNe, Int.reduceEq, aBuildSlice, fillB, aAppend, appendB, viewB, Ax.look, Ax.put, Ax.drop, List.drop, List.take, asv, aMake, aCopy, srcB, fillG, viewG, appendG, appendI, fillI, aSlice, bnd, bnds, full3, cut, aFieldAddr, aField, aStore, setB, aBox, aBuild, fillS, allTy, AV.leaves, AV.okv, AV.leaf, one, splice, elemLeaves, Blk.size, Blk.len, Option.isSome, Option.isNone, isBytes, aStr, aNil, aAlloc, aExtract, viewI, Nat.reduceEqDiff, Nat.reduceLT, Nat.reduceBEq, List.contains, List.elem, Blk.closed, closedL, AV.closed, Blk.noimm, ↓gsplit_tt, ↓gsplit_ff, ↓gsplit_tf, ↓gsplit_ft, ↓csplit_t, ↓csplit_f, Ax.idx, AV.lentIds, lentIdsL, dropAll, givenUp, AV.clean, cleanL, Blk.clean, cleanB, quietC, flatTy, coldStr, notMs, eqV, eqF, isStruct, -coe, coe_w, coe_str, coe_agg, coe_tup, coe_sb, coe_si, coe_cp, coe_ms, coe_rf, coe_fn, coe_cons, ty, Srchk4, rchkS, hrk, hl4, d3, hsl, d4, hB, map_rrec, Int.toNat_natCast]
            omega
        · have d3 : decide ((i : Int) < rs.length) = false := decide_eq_false (by omega)
          have hdr : rs.drop i = [] := List.drop_eq_nil_of_le (by omega)
          rw [hdr] at hinv
          have hl0 : layE c (-1) rs = 0 := hinv
          have o1 : okI b := by unfold okI; omega
          have o2 : okI c := by unfold okI; omega
          have o3 : okI p := by unfold okI; omega
          have o4 : okI e := by unfold okI; omega
          have o5 : okI s := by unfold okI; omega
          have hex : ∃ qs : List Rec, rs.map rv = qs.map rv := ⟨rs, rfl⟩
          have hor : (decide ((8192 : Int) < (batL b c p e s rs).length) = true ∧ batE b c p e s rs = 5) ∨ (decide ((8192 : Int) < (batL b c p e s rs).length) = false ∧ batE b c p e s rs = 0) := by
            by_cases h8 : 8192 < (batL b c p e s rs).length
            · exact .inl ⟨decide_eq_true (by omega), by unfold batE; rw [if_pos hF, if_pos hl0, if_pos h8]⟩
            · exact .inr ⟨decide_eq_false (by omega), by unfold batE; rw [if_pos hF, if_pos hl0, if_neg h8]⟩
          rcases hor with ⟨d4, hB⟩ | ⟨d4, hB⟩
          all_goals simp -implicitDefEqProofs only [evT, implies_true, forall_const, Option.getD, later_normal, aop, aLen, ev, slot, setSlot, putSlot, cv, cvl, aConv, aBin, aInt, aUn, aFn, aEq, Out.and, isBool, isPtr, List.length, IntKind.bits, evs, evo, evps, aCall, aUser, coes, coe, List.append, List.replicate, callOut, rootsL, AV.roots, lendsL, AV.lends, pinsOf, nodup, lendL, lend, closedB, noimmB, AV.noimm, AV.ren, renL, back, Nat.reduceAdd, Nat.reduceSub, Nat.reduceMul, Int.reduceToNat, reduceCtorEq, aLoad, subv, aIndexAddr, aIndex, TD.aggr, guardSlot, aPick, byte, word, aMin, aMax, Ax.Ends, EndsX, Ax.rvals, rone, AV.ids, idsL, newIds, upTo, pinHeap, gOf, ↓reduceIte, List.isEmpty, Int.reducePow, Nat.reducePow, Int.reduceMod, Nat.reduceLeDiff, Int.reduceLE, Int.reduceNe, Int.reduceEq, aBuildSlice, fillB, aAppend, appendB, viewB, Ax.look, Ax.put, Ax.drop, List.drop, List.take, asv, aMake, aCopy, srcB, fillG, viewG, appendG, appendI, fillI, aSlice, bnd, bnds, full3, cut, aFieldAddr, aField, aStore, setB, aBox, aBuild, fillS, allTy, AV.leaves, AV.okv, AV.leaf, one, splice, elemLeaves, Blk.size, Blk.len, Option.isSome, Option.isNone, isBytes, aStr, aNil, aAlloc, aExtract, viewI, Nat.reduceEqDiff, Nat.reduceLT, Nat.reduceBEq, List.contains, List.elem, Blk.closed, closedL, AV.closed, Blk.noimm, ↓gsplit_tt, ↓gsplit_ff, ↓gsplit_tf, ↓gsplit_ft, ↓csplit_t, ↓csplit_f, Ax.idx, AV.lentIds, lentIdsL, dropAll, givenUp, AV.clean, cleanL, Blk.clean, cleanB, quietC, flatTy, coldStr, notMs, eqV, eqF, isStruct, -coe, coe_w, coe_str, coe_agg, coe_tup, coe_sb, coe_si, coe_cp, coe_ms, coe_rf, coe_fn, coe_cons, ty, Srchk4, rlayS4, hl4, hL, d3, d4, hB, hex, o1, o2, o3, o4, o5, map_rrec]
  · exact hp.elim
end
end Go.Proofs.Ythmkhlmohjcbgaa
