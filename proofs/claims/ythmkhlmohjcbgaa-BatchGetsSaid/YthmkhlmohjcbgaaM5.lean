/- Layer 4: the document's Get. -/
import Derived.Test.YthmkhlmohjcbgaaLb
import Derived.Test.YthmkhlmohjcbgaaM3
import Derived.Test.YthmkhlmohjcbgaaR9
namespace Go.Proofs.Ythmkhlmohjcbgaa
open Ax
set_option linter.unusedSimpArgs false
set_option linter.unusedVariables false

/-- The records that the document reads: one that is none is the last. -/
def dR (bs : List UInt8) (e : Int) : Rec := rrec (grec bs e)
def dRead : Nat → List UInt8 → Int → List Rec
  | 0, _, _ => []
  | k + 1, bs, e => if e = 0 then dR bs e :: dRead k (gb5 bs e) (ge5 bs e) else []
theorem dRead_succ (k : Nat) (bs : List UInt8) (e : Int) : dRead (k + 1) bs e = if e = 0 then dR bs e :: dRead k (gb5 bs e) (ge5 bs e) else [] := rfl
theorem dRead_stop (k : Nat) (bs : List UInt8) (e : Int) (h : k = 0 ∨ e ≠ 0) : dRead k bs e = [] := by
  cases k with
  | zero => rfl
  | succ k => rw [dRead_succ, if_neg (by omega)]
theorem dR_rv (bs : List UInt8) (e : Int) : grec bs e = rv (dR bs e) := by
  unfold dR grec
  split <;> rfl
theorem dRead_put : ∀ (rs : List Rec) (z : List UInt8), (∀ r ∈ rs, rk r = 0) → dRead rs.length (rs.flatMap rb ++ z) 0 = rs
  | [], z, _ => rfl
  | r :: rs, z, h => by
    obtain ⟨h1, h2, h3, h4⟩ := gR_put (h r (by simp)) (rs.flatMap rb ++ z)
    have h5 : dR (rb r ++ (rs.flatMap rb ++ z)) 0 = r := by unfold dR; rw [grec_rv h1, h2]; rfl
    rw [List.length_cons, List.flatMap_cons, List.append_assoc, dRead_succ, if_pos rfl, h5, h3, h4, dRead_put rs z (fun q hq => h q (by simp [hq]))]
def dX (bs : List UInt8) : Bat := ⟨hn 0 bs, hn 1 bs, hn 2 bs, hn 3 bs, hn 4 bs, dRead (min (hn 5 bs) 32).toNat (hb 6 bs).1 (hb 6 bs).2⟩
theorem dget_eq (bs : List UInt8) : bget bs = if 8192 < bs.length then none else if bE (dX bs) = 0 ∧ bB (dX bs) = bs then some (dX bs) else none := by
  cases hg : bget bs with
  | some y =>
    obtain ⟨h1, h2⟩ := bget_some hg
    have hl := bB_length h1
    obtain ⟨N0, N1, N2, N3, N4, N5, B6, hl2, i1⟩ := bheads h1 []
    rw [List.append_nil, h2] at N0 N1 N2 N3 N4 N5 B6
    have hX : dX bs = y := by
      unfold dX
      rw [N0, N1, N2, N3, N4, N5, B6, show (min (y.rs.length : Int) 32).toNat = y.rs.length by omega, dRead_put y.rs _ i1]
    rw [hX, if_neg (by rw [← h2]; omega), if_pos ⟨h1, h2⟩]
  | none =>
    by_cases h8 : 8192 < bs.length
    · rw [if_pos h8]
    · rw [if_neg h8, if_neg]
      rintro ⟨h1, h2⟩
      have := bget_put h1
      rw [h2, hg] at this
      cases this
def Sdget (f : FuncId) : Option FSpec :=
  match f with
  | 39 => some rrnumS
  | 40 => some rrgetS
  | 12 => some rputS4
  | _ => none
theorem Sdget_ok : Fns Try.prog Sdget := by
  intro f s h
  unfold Sdget at h
  split at h
  · injection h with h; subst h; exact ⟨⟨_, Try.func39, by kernel_rfl, by kernel_rfl⟩, rrnum_sound⟩
  · injection h with h; subst h; exact ⟨⟨_, Try.func40, by kernel_rfl, by kernel_rfl⟩, rrecget_sound⟩
  · injection h with h; subst h; exact ⟨⟨_, Try.func12, by kernel_rfl, by kernel_rfl⟩, rput4_sound⟩
  · cases h
section
set_option maxRecDepth 100000
set_option maxHeartbeats 2000000 in
theorem dget_sound : Sound Try.prog 17 bgetS := by
  refine fn_sound (S := Sdget) (T := ty) mixed ty_ok Sdget_ok Try.func17 (c := Try.f17.body.getD .skip) (by kernel_rfl) (by kernel_rfl) (fun xs pins hp _ => ?_)
  unfold bgetS at hp ⊢
  split at hp
  · rename_i bs f _
    have hlen : bs.length ≤ 1000000 := hp
    refine ⟨by simp, ?_⟩
    unfold Try.f17
    have hget := dget_eq bs
    by_cases h8 : 8192 < bs.length
    · have d0 : decide ((8192 : Int) < bs.length) = true := decide_eq_true (by omega)
      rw [if_pos h8] at hget
      have v1 : bget0 bs = ⟨0, 0, 0, 0, 0, []⟩ := by unfold bget0; rw [hget]; rfl
      have v2 : bgetE bs = 4 := by unfold bgetE; rw [hget]; rfl
      simp -implicitDefEqProofs only [evT, implies_true, forall_const, Option.getD, later_normal, aop, aLen, ev, slot, setSlot, putSlot, cv, cvl, aConv, aBin, aInt, aUn, aFn, aEq, Out.and, isBool, isPtr, List.length, IntKind.bits, evs, evo, evps, aCall, aUser, coes, coe, List.append, List.replicate, callOut, rootsL, AV.roots, lendsL, AV.lends, pinsOf, nodup, lendL, lend, closedB, noimmB, AV.noimm, AV.ren, renL, back, Nat.reduceAdd, Nat.reduceSub, Nat.reduceMul, Int.reduceToNat, reduceCtorEq, aLoad, subv, aIndexAddr, aIndex, TD.aggr, guardSlot, aPick, byte, word, aMin, aMax, Ax.Ends, EndsX, Ax.rvals, rone, AV.ids, idsL, newIds, upTo, pinHeap, gOf, ↓reduceIte, List.isEmpty, Int.reducePow, Nat.reducePow, Int.reduceMod, Nat.reduceLeDiff, Int.reduceLE, Int.reduceNe, Int.reduceEq, aBuildSlice, fillB, aAppend, appendB, viewB, Ax.look, Ax.put, Ax.drop, List.drop, List.take, asv, aMake, aCopy, srcB, fillG, viewG, appendG, appendI, fillI, aSlice, bnd, bnds, full3, cut, aFieldAddr, aField, aStore, setB, aBox, aBuild, fillS, allTy, AV.leaves, AV.okv, AV.leaf, one, splice, elemLeaves, Blk.size, Blk.len, Option.isSome, Option.isNone, isBytes, aStr, aNil, aAlloc, aExtract, viewI, Nat.reduceEqDiff, Nat.reduceLT, Nat.reduceBEq, List.contains, List.elem, Blk.closed, closedL, AV.closed, Blk.noimm, ↓gsplit_tt, ↓gsplit_ff, ↓gsplit_tf, ↓gsplit_ft, ↓csplit_t, ↓csplit_f, Ax.idx, AV.lentIds, lentIdsL, dropAll, givenUp, AV.clean, cleanL, Blk.clean, cleanB, quietC, flatTy, coldStr, notMs, eqV, eqF, isStruct, -coe, coe_w, coe_str, coe_agg, coe_tup, coe_sb, coe_si, coe_cp, coe_ms, coe_rf, coe_fn, coe_cons, ty, Sdget, d0, v1, v2, bav, emp_nil, List.map_nil, fillS]
    · have d0 : decide ((8192 : Int) < bs.length) = false := decide_eq_false (by omega)
      rw [if_neg h8] at hget
      unfold dX at hget
      have L1 := hb_length bs 1
      have L2 := hb_length bs 2
      have L3 := hb_length bs 3
      have L4 := hb_length bs 4
      have L5 := hb_length bs 5
      have L6 := hb_length bs 6
      have q0 : bs.length ≤ 1000000 := hlen
      have q1 : (hb 1 bs).1.length ≤ 1000000 := by omega
      have q2 : (hb 2 bs).1.length ≤ 1000000 := by omega
      have q3 : (hb 3 bs).1.length ≤ 1000000 := by omega
      have q4 : (hb 4 bs).1.length ≤ 1000000 := by omega
      have q5 : (hb 5 bs).1.length ≤ 1000000 := by omega
      have q6 : (hb 6 bs).1.length ≤ 1000000 := by omega
      have n0 : numN bs 0 = hn 0 bs := rfl
      have l0 : numL bs 0 = (hb 1 bs).1 := rfl
      have e0 : numE bs 0 = (hb 1 bs).2 := rfl
      have n1 : numN (hb 1 bs).1 (hb 1 bs).2 = hn 1 bs := rfl
      have l1 : numL (hb 1 bs).1 (hb 1 bs).2 = (hb 2 bs).1 := rfl
      have e1 : numE (hb 1 bs).1 (hb 1 bs).2 = (hb 2 bs).2 := rfl
      have n2 : numN (hb 2 bs).1 (hb 2 bs).2 = hn 2 bs := rfl
      have l2 : numL (hb 2 bs).1 (hb 2 bs).2 = (hb 3 bs).1 := rfl
      have e2 : numE (hb 2 bs).1 (hb 2 bs).2 = (hb 3 bs).2 := rfl
      have n3 : numN (hb 3 bs).1 (hb 3 bs).2 = hn 3 bs := rfl
      have l3 : numL (hb 3 bs).1 (hb 3 bs).2 = (hb 4 bs).1 := rfl
      have e3 : numE (hb 3 bs).1 (hb 3 bs).2 = (hb 4 bs).2 := rfl
      have n4 : numN (hb 4 bs).1 (hb 4 bs).2 = hn 4 bs := rfl
      have l4 : numL (hb 4 bs).1 (hb 4 bs).2 = (hb 5 bs).1 := rfl
      have e4 : numE (hb 4 bs).1 (hb 4 bs).2 = (hb 5 bs).2 := rfl
      have n5 : numN (hb 5 bs).1 (hb 5 bs).2 = hn 5 bs := rfl
      have l5 : numL (hb 5 bs).1 (hb 5 bs).2 = (hb 6 bs).1 := rfl
      have e5 : numE (hb 5 bs).1 (hb 5 bs).2 = (hb 6 bs).2 := rfl
      obtain ⟨B, hB⟩ : ∃ B, hb 6 bs = B := ⟨_, rfl⟩
      rw [hB] at hget
      simp only [hB] at q6 l5 e5
      generalize hn 0 bs = N0 at *
      generalize hn 1 bs = N1 at *
      generalize hn 2 bs = N2 at *
      generalize hn 3 bs = N3 at *
      generalize hn 4 bs = N4 at *
      generalize hn 5 bs = N5 at *
      simp -implicitDefEqProofs only [evT, implies_true, forall_const, Option.getD, later_normal, aop, aLen, ev, slot, setSlot, putSlot, cv, cvl, aConv, aBin, aInt, aUn, aFn, aEq, Out.and, isBool, isPtr, List.length, IntKind.bits, evs, evo, evps, aCall, aUser, coes, coe, List.append, List.replicate, callOut, rootsL, AV.roots, lendsL, AV.lends, pinsOf, nodup, lendL, lend, closedB, noimmB, AV.noimm, AV.ren, renL, back, Nat.reduceAdd, Nat.reduceSub, Nat.reduceMul, Int.reduceToNat, reduceCtorEq, aLoad, subv, aIndexAddr, aIndex, TD.aggr, guardSlot, aPick, byte, word, aMin, aMax, Ax.Ends, EndsX, Ax.rvals, rone, AV.ids, idsL, newIds, upTo, pinHeap, gOf, ↓reduceIte, List.isEmpty, Int.reducePow, Nat.reducePow, Int.reduceMod, Nat.reduceLeDiff, Int.reduceLE, Int.reduceNe, Int.reduceEq, aBuildSlice, fillB, aAppend, appendB, viewB, Ax.look, Ax.put, Ax.drop, List.drop, List.take, asv, aMake, aCopy, srcB, fillG, viewG, appendG, appendI, fillI, aSlice, bnd, bnds, full3, cut, aFieldAddr, aField, aStore, setB, aBox, aBuild, fillS, allTy, AV.leaves, AV.okv, AV.leaf, one, splice, elemLeaves, Blk.size, Blk.len, Option.isSome, Option.isNone, isBytes, aStr, aNil, aAlloc, aExtract, viewI, Nat.reduceEqDiff, Nat.reduceLT, Nat.reduceBEq, List.contains, List.elem, Blk.closed, closedL, AV.closed, Blk.noimm, ↓gsplit_tt, ↓gsplit_ff, ↓gsplit_tf, ↓gsplit_ft, ↓csplit_t, ↓csplit_f, Ax.idx, AV.lentIds, lentIdsL, dropAll, givenUp, AV.clean, cleanL, Blk.clean, cleanB, quietC, flatTy, coldStr, notMs, eqV, eqF, isStruct, -coe, coe_w, coe_str, coe_agg, coe_tup, coe_sb, coe_si, coe_cp, coe_ms, coe_rf, coe_fn, coe_cons, ty, Sdget, rrnumS, rrd, d0, q0, q1, q2, q3, q4, q5, n0, n1, n2, n3, n4, n5, l0, l1, l2, l3, l4, l5, e0, e1, e2, e3, e4, e5, fillS]
      have htop : top = 4294967296 := rfl
      obtain ⟨N, hN⟩ : ∃ N, (min N5 32).toNat = N := ⟨_, rfl⟩
      rw [hN] at hget
      refine awp_loopW ⟨fun m σ => ∃ (i : Nat) (b : List UInt8) (e : Int) (qs : List Rec), m = N - i ∧ i ≤ N ∧ b.length ≤ 1000000 ∧ dRead N B.1 B.2 = qs ++ dRead (N - i) b e ∧ qs.length = i ∧
          ((i = 0 ∧ σ = ⟨[.sb bs f, .junk, .rf 4 6 0 0, .w (.int .i64 0), .rf 5 6 0 0, .w (.int .i64 N5), .rf 6 2 0 0, .w (.int .i64 0), .junk, .junk, .junk, .junk, .junk, .junk, .junk, .junk, .junk, .junk, .junk, .junk, .junk, .junk, .junk, .junk, .junk, .junk, .junk, .junk, .junk, .junk, .junk, .junk, .junk, .junk, .junk, .junk, .junk, .junk, .junk, .junk, .junk, .junk, .junk, .junk, .junk, .junk, .junk, .junk, .junk, .junk, .junk, .junk, .junk, .junk, .junk, .junk, .junk, .junk, .junk, .junk, .junk, .junk, .junk, .junk, .junk, .junk, .junk, .junk, .junk, .junk, .junk, .junk, .junk, .junk, .junk, .junk, .junk, .junk, .junk, .junk, .junk, .junk, .junk, .junk, .junk, .junk, .junk, .junk, .junk, .junk, .junk, .junk, .junk, .junk, .junk, .junk, .junk], [(6, .g 2 [.agg [.sb b f, .w (.int .i64 e)]]), (5, .g 6 [.agg [.w (.int .i64 N0), .w (.int .i64 N1), .w (.int .i64 N2), .w (.int .i64 N3), .w (.int .i64 N4), .sg 6 [] true]]), (4, .g 6 [.agg [.w (.int .i64 0), .w (.int .i64 0), .w (.int .i64 0), .w (.int .i64 0), .w (.int .i64 0), .sg 6 [] true]])], 7⟩) ∨
           (0 < i ∧ σ = ⟨[.sb bs f, .junk, .rf 4 6 0 0, .w (.int .i64 0), .rf 5 6 0 0, .w (.int .i64 N5), .rf 6 2 0 0, .w (.int .i64 i), .junk, .junk, .junk, .junk, .junk, .junk, .junk, .junk, .junk, .junk, .junk, .junk, .junk, .junk, .junk, .junk, .junk, .junk, .junk, .junk, .junk, .junk, .junk, .junk, .junk, .junk, .junk, .junk, .junk, .junk, .junk, .junk, .junk, .junk, .junk, .junk, .junk, .junk, .junk, .junk, .junk, .junk, .junk, .junk, .junk, .junk, .junk, .junk, .junk, .junk, .junk, .junk, .junk, .junk, .junk, .junk, .junk, .junk, .junk, .junk, .junk, .junk, .junk, .junk, .junk, .junk, .junk, .junk, .junk, .junk, .junk, .ms 7 6 0 i, .junk, .junk, .junk, .junk, .junk, .junk, .junk, .junk, .junk, .junk, .junk, .junk, .junk, .junk, .junk, .junk, .junk], [(6, .g 2 [.agg [.sb b f, .w (.int .i64 e)]]), (5, .g 6 [.agg [.w (.int .i64 N0), .w (.int .i64 N1), .w (.int .i64 N2), .w (.int .i64 N3), .w (.int .i64 N4), .ms 7 6 0 i]]), (4, .g 6 [.agg [.w (.int .i64 0), .w (.int .i64 0), .w (.int .i64 0), .w (.int .i64 0), .w (.int .i64 0), .sg 6 [] true]]), (7, .g 6 (qs.map rv))], 8⟩)), ?_, ?_⟩
      · refine ⟨_, _, weak_ren [0, 1, 2, 3, 4, 44, 76] rfl rfl rfl ?_ ?_, 0, B.1, B.2, [], rfl, by omega, q6, rfl, rfl, .inl ⟨rfl, rfl⟩⟩
        · simp only [SameS, SameH, setSlot, gOf, AV.ren, renL, Blk.ren, Ax.look, Ax.put, reduceCtorEq, true_or, false_or, or_true, or_false, and_true, true_and, AV.w.injEq, Value.int.injEq, Value.bool.injEq, AV.ms.injEq, AV.sb.injEq, AV.str.injEq, ↓reduceIte, Nat.reduceEqDiff, Nat.reduceLT, List.length_append, List.length_cons, List.length_nil, Nat.zero_add, Nat.add_zero, Option.some.injEq, Blk.b.injEq, Blk.i.injEq, Nat.succ_ne_zero, Nat.reduceAdd, and_self]; try simp
        · simp only [SameS, SameH, setSlot, gOf, AV.ren, renL, Blk.ren, Ax.look, Ax.put, reduceCtorEq, true_or, false_or, or_true, or_false, and_true, true_and, AV.w.injEq, Value.int.injEq, Value.bool.injEq, AV.ms.injEq, AV.sb.injEq, AV.str.injEq, ↓reduceIte, Nat.reduceEqDiff, Nat.reduceLT, List.length_append, List.length_cons, List.length_nil, Nat.zero_add, Nat.add_zero, Option.some.injEq, Blk.b.injEq, Blk.i.injEq, Nat.succ_ne_zero, Nat.reduceAdd, and_self]
      · rintro m σ ⟨i, b, e, qs, rfl, hi, hlb, hinv, hql, hσ⟩
        rcases hσ with ⟨hi0, rfl⟩ | ⟨hi0, rfl⟩
        · obtain rfl : i = 0 := hi0
          obtain rfl : qs = [] := List.eq_nil_of_length_eq_zero hql

          have hor : (((0 : Int) < N5 ∧ (0 : Int) < 32) ∧ e = 0) ∨ (decide ((0 : Int) < N5) = false ∧ dRead (N - 0) b e = []) ∨ (decide ((0 : Int) < N5) = true ∧ decide ((0 : Int) < 32) = false ∧ dRead (N - 0) b e = []) ∨ (decide ((0 : Int) < N5) = true ∧ decide ((0 : Int) < 32) = true ∧ decide (e = 0) = false ∧ dRead (N - 0) b e = []) := by
            by_cases h1 : (0 : Int) < N5
            · by_cases h2 : (0 : Int) < 32
              · by_cases h3 : e = 0
                · exact .inl ⟨⟨h1, h2⟩, h3⟩
                · exact .inr (.inr (.inr ⟨decide_eq_true h1, decide_eq_true h2, decide_eq_false h3, dRead_stop _ _ _ (.inr h3)⟩))
              · exact .inr (.inr (.inl ⟨decide_eq_true h1, decide_eq_false h2, dRead_stop _ _ _ (.inl (by omega))⟩))
            · exact .inr (.inl ⟨decide_eq_false h1, dRead_stop _ _ _ (.inl (by omega))⟩)
          rcases hor with ⟨⟨h1, h2⟩, rfl⟩ | hstop
          · have d2 : decide ((0 : Int) < N5) = true := decide_eq_true h1
            have d3 : decide ((0 : Int) < 32) = true := decide_eq_true h2
            have es : ((0 : Int) + 1 + 9223372036854775808) % 18446744073709551616 - 9223372036854775808 = 1 := by omega
            have hsuc : N - 0 = (N - (0 + 1)) + 1 := by omega
            have hl5 := gb5_length b 0
            have hgr := dR_rv b 0
            have hR : dRead N B.1 B.2 = (([] : List Rec) ++ [dR b 0]) ++ dRead (N - (0 + 1)) (gb5 b 0) (ge5 b 0) := by
              rw [hinv, hsuc, dRead_succ, if_pos rfl, List.append_assoc]; rfl
            obtain ⟨G, hG⟩ : ∃ G, dR b 0 = G := ⟨_, rfl⟩
            rw [hG] at hgr hR
            simp only [rv] at hgr
            simp -implicitDefEqProofs only [evT, implies_true, forall_const, Option.getD, later_normal, aop, aLen, ev, slot, setSlot, putSlot, cv, cvl, aConv, aBin, aInt, aUn, aFn, aEq, Out.and, isBool, isPtr, List.length, IntKind.bits, evs, evo, evps, aCall, aUser, coes, coe, List.append, List.replicate, callOut, rootsL, AV.roots, lendsL, AV.lends, pinsOf, nodup, lendL, lend, closedB, noimmB, AV.noimm, AV.ren, renL, back, Nat.reduceAdd, Nat.reduceSub, Nat.reduceMul, Int.reduceToNat, reduceCtorEq, aLoad, subv, aIndexAddr, aIndex, TD.aggr, guardSlot, aPick, byte, word, aMin, aMax, Ax.Ends, EndsX, Ax.rvals, rone, AV.ids, idsL, newIds, upTo, pinHeap, gOf, ↓reduceIte, List.isEmpty, Int.reducePow, Nat.reducePow, Int.reduceMod, Nat.reduceLeDiff, Int.reduceLE, Int.reduceNe, Int.reduceEq, aBuildSlice, fillB, aAppend, appendB, viewB, Ax.look, Ax.put, Ax.drop, List.drop, List.take, asv, aMake, aCopy, srcB, fillG, viewG, appendG, appendI, fillI, aSlice, bnd, bnds, full3, cut, aFieldAddr, aField, aStore, setB, aBox, aBuild, fillS, allTy, AV.leaves, AV.okv, AV.leaf, one, splice, elemLeaves, Blk.size, Blk.len, Option.isSome, Option.isNone, isBytes, aStr, aNil, aAlloc, aExtract, viewI, Nat.reduceEqDiff, Nat.reduceLT, Nat.reduceBEq, List.contains, List.elem, Blk.closed, closedL, AV.closed, Blk.noimm, ↓gsplit_tt, ↓gsplit_ff, ↓gsplit_tf, ↓gsplit_ft, ↓csplit_t, ↓csplit_f, Ax.idx, AV.lentIds, lentIdsL, dropAll, givenUp, AV.clean, cleanL, Blk.clean, cleanB, quietC, flatTy, coldStr, notMs, eqV, eqF, isStruct, -coe, coe_w, coe_str, coe_agg, coe_tup, coe_sb, coe_si, coe_cp, coe_ms, coe_rf, coe_fn, coe_cons, ty, Sdget, rrnumS, rrgetS, rputS4, rrd, d2, d3, hlb, hgr, es, fillS]
            repeat (refine And.intro (by first | omega | (intro h; cases h)) ?_)
            refine ⟨N - (0 + 1), _, by omega, weak_ren [0, 1, 2, 3, 4, 5, 6, 239] rfl rfl rfl ?_ ?_, 0 + 1, gb5 b 0, ge5 b 0, ([] : List Rec) ++ [G], rfl, by omega, by omega, hR, by simp [hql], .inr ⟨by omega, rfl⟩⟩
            · simp only [SameS, SameH, setSlot, gOf, AV.ren, renL, Blk.ren, Ax.look, Ax.put, reduceCtorEq, true_or, false_or, or_true, or_false, and_true, true_and, AV.w.injEq, Value.int.injEq, Value.bool.injEq, AV.ms.injEq, AV.sb.injEq, AV.str.injEq, ↓reduceIte, Nat.reduceEqDiff, Nat.reduceLT, List.length_append, List.length_cons, List.length_nil, Nat.zero_add, Nat.add_zero, Option.some.injEq, Blk.b.injEq, Blk.i.injEq, Nat.succ_ne_zero, Nat.reduceAdd, and_self]; try simp
            · simp only [SameS, SameH, setSlot, gOf, AV.ren, renL, Blk.ren, Ax.look, Ax.put, reduceCtorEq, true_or, false_or, or_true, or_false, and_true, true_and, AV.w.injEq, Value.int.injEq, Value.bool.injEq, AV.ms.injEq, AV.sb.injEq, AV.str.injEq, ↓reduceIte, Nat.reduceEqDiff, Nat.reduceLT, List.length_append, List.length_cons, List.length_nil, Nat.zero_add, Nat.add_zero, Option.some.injEq, Blk.b.injEq, Blk.i.injEq, Nat.succ_ne_zero, Nat.reduceAdd, and_self, ren_rv]; try simp [rv]
          · have hnil : dRead (N - 0) b e = [] := by
              rcases hstop with h | h | h
              · exact h.2
              · exact h.2.2
              · exact h.2.2.2
            have hR : dRead N B.1 B.2 = ([] : List Rec) := by rw [hinv, hnil]; rfl
            rw [hR] at hget
            have hmL : (([] : List AV)).length = 0 := by simp [hql]
            have hmL2 : (([] : List AV)).length ≤ 40 := by omega
            have hi40 : 0 ≤ 40 := by omega
            have hex : ∃ rs : List Rec, ([] : List AV) = rs.map rv := ⟨([] : List Rec), rfl⟩
            have hrr : (([] : List AV)).map rrec = ([] : List Rec) := rfl
            have hbE : batE N0 N1 N2 N3 N4 ([] : List Rec) = bE ⟨N0, N1, N2, N3, N4, ([] : List Rec)⟩ := rfl
            have hbB : batB N0 N1 N2 N3 N4 ([] : List Rec) = bB ⟨N0, N1, N2, N3, N4, ([] : List Rec)⟩ := rfl
            generalize hX : (⟨N0, N1, N2, N3, N4, ([] : List Rec)⟩ : Bat) = X at *
            have hend : (bE X = 0 ∧ decide (bB X = bs) = true ∧ bget0 bs = X ∧ bgetE bs = 0) ∨ (bE X = 0 ∧ decide (bB X = bs) = false ∧ bget0 bs = ⟨0, 0, 0, 0, 0, []⟩ ∧ bgetE bs = 4) ∨ (decide (bE X = 0) = false ∧ bget0 bs = ⟨0, 0, 0, 0, 0, []⟩ ∧ bgetE bs = 4) := by
              by_cases hE : bE X = 0
              · by_cases hBq : bB X = bs
                · have hg : bget bs = some X := by rw [hget, if_pos ⟨hE, hBq⟩]
                  exact .inl ⟨hE, decide_eq_true hBq, by unfold bget0; rw [hg]; rfl, by unfold bgetE; rw [hg]; rfl⟩
                · have hg : bget bs = none := by rw [hget, if_neg (fun h => hBq h.2)]
                  exact .inr (.inl ⟨hE, decide_eq_false hBq, by unfold bget0; rw [hg]; rfl, by unfold bgetE; rw [hg]; rfl⟩)
              · have hg : bget bs = none := by rw [hget, if_neg (fun h => hE h.1)]
                exact .inr (.inr ⟨decide_eq_false hE, by unfold bget0; rw [hg]; rfl, by unfold bgetE; rw [hg]; rfl⟩)
            have hP : X.b = N0 ∧ X.c = N1 ∧ X.p = N2 ∧ X.e = N3 ∧ X.s = N4 ∧ X.rs = ([] : List Rec) := by rw [← hX]; exact ⟨rfl, rfl, rfl, rfl, rfl, rfl⟩
            clear hget hinv hR
            rcases hstop with D | D | D
            all_goals simp -implicitDefEqProofs only [evT, implies_true, forall_const, Option.getD, later_normal, aop, aLen, ev, slot, setSlot, putSlot, cv, cvl, aConv, aBin, aInt, aUn, aFn, aEq, Out.and, isBool, isPtr, List.length, IntKind.bits, evs, evo, evps, aCall, aUser, coes, coe, List.append, List.replicate, callOut, rootsL, AV.roots, lendsL, AV.lends, pinsOf, nodup, lendL, lend, closedB, noimmB, AV.noimm, AV.ren, renL, back, Nat.reduceAdd, Nat.reduceSub, Nat.reduceMul, Int.reduceToNat, reduceCtorEq, aLoad, subv, aIndexAddr, aIndex, TD.aggr, guardSlot, aPick, byte, word, aMin, aMax, Ax.Ends, EndsX, Ax.rvals, rone, AV.ids, idsL, newIds, upTo, pinHeap, gOf, ↓reduceIte, List.isEmpty, Int.reducePow, Nat.reducePow, Int.reduceMod, Nat.reduceLeDiff, Int.reduceLE, Int.reduceNe, Int.reduceEq, aBuildSlice, fillB, aAppend, appendB, viewB, Ax.look, Ax.put, Ax.drop, List.drop, List.take, asv, aMake, aCopy, srcB, fillG, viewG, appendG, appendI, fillI, aSlice, bnd, bnds, full3, cut, aFieldAddr, aField, aStore, setB, aBox, aBuild, fillS, allTy, AV.leaves, AV.okv, AV.leaf, one, splice, elemLeaves, Blk.size, Blk.len, Option.isSome, Option.isNone, isBytes, aStr, aNil, aAlloc, aExtract, viewI, Nat.reduceEqDiff, Nat.reduceLT, Nat.reduceBEq, List.contains, List.elem, Blk.closed, closedL, AV.closed, Blk.noimm, ↓gsplit_tt, ↓gsplit_ff, ↓gsplit_tf, ↓gsplit_ft, ↓csplit_t, ↓csplit_f, Ax.idx, AV.lentIds, lentIdsL, dropAll, givenUp, AV.clean, cleanL, Blk.clean, cleanB, quietC, flatTy, coldStr, notMs, eqV, eqF, isStruct, -coe, coe_w, coe_str, coe_agg, coe_tup, coe_sb, coe_si, coe_cp, coe_ms, coe_rf, coe_fn, coe_cons, ty, Sdget, rrnumS, rrgetS, rputS4, rrd, D]
            all_goals refine ⟨_, Weak.refl _, ?_⟩
  
            all_goals rcases hend with E | E | E
            all_goals simp -implicitDefEqProofs only [evT, implies_true, forall_const, Option.getD, later_normal, aop, aLen, ev, slot, setSlot, putSlot, cv, cvl, aConv, aBin, aInt, aUn, aFn, aEq, Out.and, isBool, isPtr, List.length, IntKind.bits, evs, evo, evps, aCall, aUser, coes, coe, List.append, List.replicate, callOut, rootsL, AV.roots, lendsL, AV.lends, pinsOf, nodup, lendL, lend, closedB, noimmB, AV.noimm, AV.ren, renL, back, Nat.reduceAdd, Nat.reduceSub, Nat.reduceMul, Int.reduceToNat, reduceCtorEq, aLoad, subv, aIndexAddr, aIndex, TD.aggr, guardSlot, aPick, byte, word, aMin, aMax, Ax.Ends, EndsX, Ax.rvals, rone, AV.ids, idsL, newIds, upTo, pinHeap, gOf, ↓reduceIte, List.isEmpty, Int.reducePow, Nat.reducePow, Int.reduceMod, Nat.reduceLeDiff, Int.reduceLE, Int.reduceNe, Int.reduceEq, aBuildSlice, fillB, aAppend, appendB, viewB, Ax.look, Ax.put, Ax.drop, List.drop, List.take, asv, aMake, aCopy, srcB, fillG, viewG, appendG, appendI, fillI, aSlice, bnd, bnds, full3, cut, aFieldAddr, aField, aStore, setB, aBox, aBuild, fillS, allTy, AV.leaves, AV.okv, AV.leaf, one, splice, elemLeaves, Blk.size, Blk.len, Option.isSome, Option.isNone, isBytes, aStr, aNil, aAlloc, aExtract, viewI, Nat.reduceEqDiff, Nat.reduceLT, Nat.reduceBEq, List.contains, List.elem, Blk.closed, closedL, AV.closed, Blk.noimm, ↓gsplit_tt, ↓gsplit_ff, ↓gsplit_tf, ↓gsplit_ft, ↓csplit_t, ↓csplit_f, Ax.idx, AV.lentIds, lentIdsL, dropAll, givenUp, AV.clean, cleanL, Blk.clean, cleanB, quietC, flatTy, coldStr, notMs, eqV, eqF, isStruct, -coe, coe_w, coe_str, coe_agg, coe_tup, coe_sb, coe_si, coe_cp, coe_ms, coe_rf, coe_fn, coe_cons, ty, Sdget, rrnumS, rrgetS, rputS4, rrd, hmL, hi40, hex, hrr, closedL, hbE, hbB, hP, E, bav, List.map_nil, emp_nil, fillS]
        · have hml : (qs.map rv).length = i := by simp [hql]
          have hdle : decide (0 + i ≤ (qs.map rv).length) = true := decide_eq_true (by omega)
          have htk : (qs.map rv).take i = qs.map rv := List.take_of_length_le (by omega)
          have hie : emp qs = false := by cases qs with | nil => simp at hql; omega | cons _ _ => rfl

          have hor : (((i : Int) < N5 ∧ (i : Int) < 32) ∧ e = 0) ∨ (decide ((i : Int) < N5) = false ∧ dRead (N - i) b e = []) ∨ (decide ((i : Int) < N5) = true ∧ decide ((i : Int) < 32) = false ∧ dRead (N - i) b e = []) ∨ (decide ((i : Int) < N5) = true ∧ decide ((i : Int) < 32) = true ∧ decide (e = 0) = false ∧ dRead (N - i) b e = []) := by
            by_cases h1 : (i : Int) < N5
            · by_cases h2 : (i : Int) < 32
              · by_cases h3 : e = 0
                · exact .inl ⟨⟨h1, h2⟩, h3⟩
                · exact .inr (.inr (.inr ⟨decide_eq_true h1, decide_eq_true h2, decide_eq_false h3, dRead_stop _ _ _ (.inr h3)⟩))
              · exact .inr (.inr (.inl ⟨decide_eq_true h1, decide_eq_false h2, dRead_stop _ _ _ (.inl (by omega))⟩))
            · exact .inr (.inl ⟨decide_eq_false h1, dRead_stop _ _ _ (.inl (by omega))⟩)
          rcases hor with ⟨⟨h1, h2⟩, rfl⟩ | hstop
          · have d2 : decide ((i : Int) < N5) = true := decide_eq_true h1
            have d3 : decide ((i : Int) < 32) = true := decide_eq_true h2
            have es : ((i : Int) + 1 + 9223372036854775808) % 18446744073709551616 - 9223372036854775808 = ((i + 1 : Nat) : Int) := by omega
            have hsuc : N - i = (N - (i + 1)) + 1 := by omega
            have hl5 := gb5_length b 0
            have hgr := dR_rv b 0
            have hR : dRead N B.1 B.2 = (qs ++ [dR b 0]) ++ dRead (N - (i + 1)) (gb5 b 0) (ge5 b 0) := by
              rw [hinv, hsuc, dRead_succ, if_pos rfl, List.append_assoc]; rfl
            obtain ⟨G, hG⟩ : ∃ G, dR b 0 = G := ⟨_, rfl⟩
            rw [hG] at hgr hR
            simp only [rv] at hgr
            simp -implicitDefEqProofs only [evT, implies_true, forall_const, Option.getD, later_normal, aop, aLen, ev, slot, setSlot, putSlot, cv, cvl, aConv, aBin, aInt, aUn, aFn, aEq, Out.and, isBool, isPtr, List.length, IntKind.bits, evs, evo, evps, aCall, aUser, coes, coe, List.append, List.replicate, callOut, rootsL, AV.roots, lendsL, AV.lends, pinsOf, nodup, lendL, lend, closedB, noimmB, AV.noimm, AV.ren, renL, back, Nat.reduceAdd, Nat.reduceSub, Nat.reduceMul, Int.reduceToNat, reduceCtorEq, aLoad, subv, aIndexAddr, aIndex, TD.aggr, guardSlot, aPick, byte, word, aMin, aMax, Ax.Ends, EndsX, Ax.rvals, rone, AV.ids, idsL, newIds, upTo, pinHeap, gOf, ↓reduceIte, List.isEmpty, Int.reducePow, Nat.reducePow, Int.reduceMod, Nat.reduceLeDiff, Int.reduceLE, Int.reduceNe, Int.reduceEq, aBuildSlice, fillB, aAppend, appendB, viewB, Ax.look, Ax.put, Ax.drop, List.drop, List.take, asv, aMake, aCopy, srcB, fillG, viewG, appendG, appendI, fillI, aSlice, bnd, bnds, full3, cut, aFieldAddr, aField, aStore, setB, aBox, aBuild, fillS, allTy, AV.leaves, AV.okv, AV.leaf, one, splice, elemLeaves, Blk.size, Blk.len, Option.isSome, Option.isNone, isBytes, aStr, aNil, aAlloc, aExtract, viewI, Nat.reduceEqDiff, Nat.reduceLT, Nat.reduceBEq, List.contains, List.elem, Blk.closed, closedL, AV.closed, Blk.noimm, ↓gsplit_tt, ↓gsplit_ff, ↓gsplit_tf, ↓gsplit_ft, ↓csplit_t, ↓csplit_f, Ax.idx, AV.lentIds, lentIdsL, dropAll, givenUp, AV.clean, cleanL, Blk.clean, cleanB, quietC, flatTy, coldStr, notMs, eqV, eqF, isStruct, -coe, coe_w, coe_str, coe_agg, coe_tup, coe_sb, coe_si, coe_cp, coe_ms, coe_rf, coe_fn, coe_cons, ty, Sdget, rrnumS, rrgetS, rputS4, rrd, d2, d3, hlb, hgr, es, fillS, hql, hml]
            repeat (refine And.intro (by first | omega | (intro h; cases h)) ?_)
            refine ⟨N - (i + 1), _, by omega, weak_ren [0, 1, 2, 3, 4, 5, 6, 240] rfl rfl rfl ?_ ?_, i + 1, gb5 b 0, ge5 b 0, qs ++ [G], rfl, by omega, by omega, hR, by simp [hql], .inr ⟨by omega, rfl⟩⟩
            · simp only [SameS, SameH, setSlot, gOf, AV.ren, renL, Blk.ren, Ax.look, Ax.put, reduceCtorEq, true_or, false_or, or_true, or_false, and_true, true_and, AV.w.injEq, Value.int.injEq, Value.bool.injEq, AV.ms.injEq, AV.sb.injEq, AV.str.injEq, ↓reduceIte, Nat.reduceEqDiff, Nat.reduceLT, List.length_append, List.length_cons, List.length_nil, Nat.zero_add, Nat.add_zero, Option.some.injEq, Blk.b.injEq, Blk.i.injEq, Nat.succ_ne_zero, Nat.reduceAdd, and_self]; try simp
            · simp only [SameS, SameH, setSlot, gOf, AV.ren, renL, Blk.ren, Ax.look, Ax.put, reduceCtorEq, true_or, false_or, or_true, or_false, and_true, true_and, AV.w.injEq, Value.int.injEq, Value.bool.injEq, AV.ms.injEq, AV.sb.injEq, AV.str.injEq, ↓reduceIte, Nat.reduceEqDiff, Nat.reduceLT, List.length_append, List.length_cons, List.length_nil, Nat.zero_add, Nat.add_zero, Option.some.injEq, Blk.b.injEq, Blk.i.injEq, Nat.succ_ne_zero, Nat.reduceAdd, and_self, ren_rv]; try simp [rv]
          · have hnil : dRead (N - i) b e = [] := by
              rcases hstop with h | h | h
              · exact h.2
              · exact h.2.2
              · exact h.2.2.2
            have hR : dRead N B.1 B.2 = qs := by rw [hinv, hnil]; simp
            rw [hR] at hget
            have hmL : (qs.map rv).length = i := by simp [hql]
            have hmL2 : (qs.map rv).length ≤ 40 := by omega
            have hi40 : i ≤ 40 := by omega
            have hex : ∃ rs : List Rec, qs.map rv = rs.map rv := ⟨qs, rfl⟩
            have hrr : (qs.map rv).map rrec = qs := map_rrec qs
            have hbE : batE N0 N1 N2 N3 N4 qs = bE ⟨N0, N1, N2, N3, N4, qs⟩ := rfl
            have hbB : batB N0 N1 N2 N3 N4 qs = bB ⟨N0, N1, N2, N3, N4, qs⟩ := rfl
            generalize hX : (⟨N0, N1, N2, N3, N4, qs⟩ : Bat) = X at *
            have hend : (bE X = 0 ∧ decide (bB X = bs) = true ∧ bget0 bs = X ∧ bgetE bs = 0) ∨ (bE X = 0 ∧ decide (bB X = bs) = false ∧ bget0 bs = ⟨0, 0, 0, 0, 0, []⟩ ∧ bgetE bs = 4) ∨ (decide (bE X = 0) = false ∧ bget0 bs = ⟨0, 0, 0, 0, 0, []⟩ ∧ bgetE bs = 4) := by
              by_cases hE : bE X = 0
              · by_cases hBq : bB X = bs
                · have hg : bget bs = some X := by rw [hget, if_pos ⟨hE, hBq⟩]
                  exact .inl ⟨hE, decide_eq_true hBq, by unfold bget0; rw [hg]; rfl, by unfold bgetE; rw [hg]; rfl⟩
                · have hg : bget bs = none := by rw [hget, if_neg (fun h => hBq h.2)]
                  exact .inr (.inl ⟨hE, decide_eq_false hBq, by unfold bget0; rw [hg]; rfl, by unfold bgetE; rw [hg]; rfl⟩)
              · have hg : bget bs = none := by rw [hget, if_neg (fun h => hE h.1)]
                exact .inr (.inr ⟨decide_eq_false hE, by unfold bget0; rw [hg]; rfl, by unfold bgetE; rw [hg]; rfl⟩)
            have hP : X.b = N0 ∧ X.c = N1 ∧ X.p = N2 ∧ X.e = N3 ∧ X.s = N4 ∧ X.rs = qs := by rw [← hX]; exact ⟨rfl, rfl, rfl, rfl, rfl, rfl⟩
            clear hget hinv hR
            rcases hstop with D | D | D
            all_goals simp -implicitDefEqProofs only [evT, implies_true, forall_const, Option.getD, later_normal, aop, aLen, ev, slot, setSlot, putSlot, cv, cvl, aConv, aBin, aInt, aUn, aFn, aEq, Out.and, isBool, isPtr, List.length, IntKind.bits, evs, evo, evps, aCall, aUser, coes, coe, List.append, List.replicate, callOut, rootsL, AV.roots, lendsL, AV.lends, pinsOf, nodup, lendL, lend, closedB, noimmB, AV.noimm, AV.ren, renL, back, Nat.reduceAdd, Nat.reduceSub, Nat.reduceMul, Int.reduceToNat, reduceCtorEq, aLoad, subv, aIndexAddr, aIndex, TD.aggr, guardSlot, aPick, byte, word, aMin, aMax, Ax.Ends, EndsX, Ax.rvals, rone, AV.ids, idsL, newIds, upTo, pinHeap, gOf, ↓reduceIte, List.isEmpty, Int.reducePow, Nat.reducePow, Int.reduceMod, Nat.reduceLeDiff, Int.reduceLE, Int.reduceNe, Int.reduceEq, aBuildSlice, fillB, aAppend, appendB, viewB, Ax.look, Ax.put, Ax.drop, List.drop, List.take, asv, aMake, aCopy, srcB, fillG, viewG, appendG, appendI, fillI, aSlice, bnd, bnds, full3, cut, aFieldAddr, aField, aStore, setB, aBox, aBuild, fillS, allTy, AV.leaves, AV.okv, AV.leaf, one, splice, elemLeaves, Blk.size, Blk.len, Option.isSome, Option.isNone, isBytes, aStr, aNil, aAlloc, aExtract, viewI, Nat.reduceEqDiff, Nat.reduceLT, Nat.reduceBEq, List.contains, List.elem, Blk.closed, closedL, AV.closed, Blk.noimm, ↓gsplit_tt, ↓gsplit_ff, ↓gsplit_tf, ↓gsplit_ft, ↓csplit_t, ↓csplit_f, Ax.idx, AV.lentIds, lentIdsL, dropAll, givenUp, AV.clean, cleanL, Blk.clean, cleanB, quietC, flatTy, coldStr, notMs, eqV, eqF, isStruct, -coe, coe_w, coe_str, coe_agg, coe_tup, coe_sb, coe_si, coe_cp, coe_ms, coe_rf, coe_fn, coe_cons, ty, Sdget, rrnumS, rrgetS, rputS4, rrd, D, hql]
            all_goals refine ⟨_, weak_fg 7 6 79 (qs.map rv) rfl (closed_rv qs) (by simp [slot, AV.ids]), ?_⟩
            all_goals simp only [fgL, fgH, AV.fg, Blk.fg, Nat.reduceBEq, cond_true, cond_false, hdle, Bool.and_true, beq_self_eq_true, Bool.true_and, List.drop_zero, htk]
            all_goals rcases hend with E | E | E
            all_goals simp -implicitDefEqProofs only [evT, implies_true, forall_const, Option.getD, later_normal, aop, aLen, ev, slot, setSlot, putSlot, cv, cvl, aConv, aBin, aInt, aUn, aFn, aEq, Out.and, isBool, isPtr, List.length, IntKind.bits, evs, evo, evps, aCall, aUser, coes, coe, List.append, List.replicate, callOut, rootsL, AV.roots, lendsL, AV.lends, pinsOf, nodup, lendL, lend, closedB, noimmB, AV.noimm, AV.ren, renL, back, Nat.reduceAdd, Nat.reduceSub, Nat.reduceMul, Int.reduceToNat, reduceCtorEq, aLoad, subv, aIndexAddr, aIndex, TD.aggr, guardSlot, aPick, byte, word, aMin, aMax, Ax.Ends, EndsX, Ax.rvals, rone, AV.ids, idsL, newIds, upTo, pinHeap, gOf, ↓reduceIte, List.isEmpty, Int.reducePow, Nat.reducePow, Int.reduceMod, Nat.reduceLeDiff, Int.reduceLE, Int.reduceNe, Int.reduceEq, aBuildSlice, fillB, aAppend, appendB, viewB, Ax.look, Ax.put, Ax.drop, List.drop, List.take, asv, aMake, aCopy, srcB, fillG, viewG, appendG, appendI, fillI, aSlice, bnd, bnds, full3, cut, aFieldAddr, aField, aStore, setB, aBox, aBuild, fillS, allTy, AV.leaves, AV.okv, AV.leaf, one, splice, elemLeaves, Blk.size, Blk.len, Option.isSome, Option.isNone, isBytes, aStr, aNil, aAlloc, aExtract, viewI, Nat.reduceEqDiff, Nat.reduceLT, Nat.reduceBEq, List.contains, List.elem, Blk.closed, closedL, AV.closed, Blk.noimm, ↓gsplit_tt, ↓gsplit_ff, ↓gsplit_tf, ↓gsplit_ft, ↓csplit_t, ↓csplit_f, Ax.idx, AV.lentIds, lentIdsL, dropAll, givenUp, AV.clean, cleanL, Blk.clean, cleanB, quietC, flatTy, coldStr, notMs, eqV, eqF, isStruct, -coe, coe_w, coe_str, coe_agg, coe_tup, coe_sb, coe_si, coe_cp, coe_ms, coe_rf, coe_fn, coe_cons, ty, Sdget, rrnumS, rrgetS, rputS4, rrd, hmL, hi40, hex, hrr, closed_rv, hbE, hbB, hP, E, bav, List.map_nil, emp_nil, fillS, hie]
  · exact hp.elim
end
end Go.Proofs.Ythmkhlmohjcbgaa
