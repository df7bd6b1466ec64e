/- Layer 4: a batch is got. -/
import Derived.Test.YthmkhlmohjcbgaaL9
import Derived.Test.YthmkhlmohjcbgaaR3
import Derived.Test.YthmkhlmohjcbgaaAxTg
namespace Go.Proofs.Ythmkhlmohjcbgaa
open Ax
set_option linter.unusedSimpArgs false
set_option linter.unusedVariables false

/-- A record that is read. -/
def gR (bs : List UInt8) (e : Int) : Rec := ⟨gd bs e, gt bs e, gk bs e, gkey bs e, gdd bs e, gval bs e⟩
theorem grec_rv {bs : List UInt8} {e : Int} (h : gerr bs e = 0) : grec bs e = rv (gR bs e) := by unfold grec; rw [if_pos h]; rfl
/-- Some records that are read, with what is left. -/
def readN : Nat → List UInt8 → Int → Option (List Rec × List UInt8 × Int)
  | 0, bs, e => some ([], bs, e)
  | n + 1, bs, e => if gerr bs e = 0 then (readN n (gb5 bs e) (ge5 bs e)).map (fun x => (gR bs e :: x.1, x.2)) else none
theorem readN_succ (n : Nat) (bs : List UInt8) (e : Int) : readN (n + 1) bs e = if gerr bs e = 0 then (readN n (gb5 bs e) (ge5 bs e)).map (fun x => (gR bs e :: x.1, x.2)) else none := rfl
theorem readN_zero (bs : List UInt8) (e : Int) : readN 0 bs e = some ([], bs, e) := rfl
/-- The state behind some numbers. -/
def hb : Nat → List UInt8 → List UInt8 × Int
  | 0, bs => (bs, 0)
  | k + 1, bs => (numL (hb k bs).1 (hb k bs).2, numE (hb k bs).1 (hb k bs).2)
def hn (k : Nat) (bs : List UInt8) : Int := numN (hb k bs).1 (hb k bs).2
structure Bat where
  b : Int
  c : Int
  p : Int
  e : Int
  s : Int
  rs : List Rec
def bav (x : Bat) (f : Bool) : AV := .agg [.w (.int .i64 x.b), .w (.int .i64 x.c), .w (.int .i64 x.p), .w (.int .i64 x.e), .w (.int .i64 x.s), .sg 6 (x.rs.map rv) f]
def bE (x : Bat) : Int := batE x.b x.c x.p x.e x.s x.rs
def bB (x : Bat) : List UInt8 := batB x.b x.c x.p x.e x.s x.rs
def bget (bs : List UInt8) : Option Bat :=
  if 0 ≤ hn 5 bs ∧ hn 5 bs ≤ 32 then
    match readN (hn 5 bs).toNat (hb 6 bs).1 (hb 6 bs).2 with
    | some (rs, r, e) => if e = 0 ∧ r = [] ∧ bE ⟨hn 0 bs, hn 1 bs, hn 2 bs, hn 3 bs, hn 4 bs, rs⟩ = 0 ∧ bB ⟨hn 0 bs, hn 1 bs, hn 2 bs, hn 3 bs, hn 4 bs, rs⟩ = bs then some ⟨hn 0 bs, hn 1 bs, hn 2 bs, hn 3 bs, hn 4 bs, rs⟩ else none
    | none => none
  else none
def bget0 (bs : List UInt8) : Bat := (bget bs).getD ⟨0, 0, 0, 0, 0, []⟩
def bgetE (bs : List UInt8) : Int := if (bget bs).isSome then 0 else 4
def emp (rs : List Rec) : Bool := rs.isEmpty
theorem emp_nil : emp [] = true := rfl
def bgetS : FSpec
  | [.sb bs f], [] => ⟨bs.length ≤ 1000000, .tup [bav (bget0 bs) (emp (bget0 bs).rs), .w (.int .i64 (bgetE bs))], []⟩
  | _, _ => noRes
theorem hb_length (bs : List UInt8) : ∀ k, (hb k bs).1.length ≤ bs.length
  | 0 => Nat.le_refl _
  | k + 1 => Nat.le_trans (numL_length _ _) (hb_length bs k)
theorem ren_X (g : Nat → Nat) (L : List AV) (h : ∃ rs : List Rec, L = rs.map rv) : L = renL g L := by
  obtain ⟨rs, rfl⟩ := h; exact (ren_rv g rs).symm
theorem readN_step {n : Nat} {b : List UInt8} {e : Int} (h : gerr b e = 0) (qs : List Rec) : (readN (n + 1) b e).map (fun x => (qs ++ x.1, x.2)) = (readN n (gb5 b e) (ge5 b e)).map (fun x => ((qs ++ [gR b e]) ++ x.1, x.2)) := by
  rw [readN_succ, if_pos h, Option.map_map]; congr 1; funext x; simp
theorem gb5_length (bs : List UInt8) (e : Int) : (gb5 bs e).length ≤ bs.length := by
  have q1 : (gb1 bs e).length ≤ bs.length := rfixL_length 1 bs e
  have q2 : (gb2 bs e).length ≤ bs.length := Nat.le_trans (numL_length _ _) q1
  have q3 : (gb3 bs e).length ≤ bs.length := Nat.le_trans (numL_length _ _) q2
  have q4 : (gb4 bs e).length ≤ bs.length := by have := rtL_length 64 (gb3 bs e) (ge3 bs e); unfold gb4; split <;> omega
  have := rtL_length 512 (gb4 bs e) (ge4 bs e)
  unfold gb5; split <;> omega
def Sbget (f : FuncId) : Option FSpec :=
  match f with
  | 34 => some newS
  | 35 => some numS
  | 37 => some doneS
  | 36 => some rgetS
  | 30 => some blayS4
  | 38 => some beqS
  | _ => none
theorem Sbget_ok : Fns Try.prog Sbget := by
  intro f s h
  unfold Sbget at h
  split at h
  · injection h with h; subst h; exact ⟨⟨_, Try.func34, by kernel_rfl, by kernel_rfl⟩, new_sound⟩
  · injection h with h; subst h; exact ⟨⟨_, Try.func35, by kernel_rfl, by kernel_rfl⟩, num_sound⟩
  · injection h with h; subst h; exact ⟨⟨_, Try.func37, by kernel_rfl, by kernel_rfl⟩, done_sound⟩
  · injection h with h; subst h; exact ⟨⟨_, Try.func36, by kernel_rfl, by kernel_rfl⟩, recget_sound⟩
  · injection h with h; subst h; exact ⟨⟨_, Try.func30, by kernel_rfl, by kernel_rfl⟩, blay4_sound⟩
  · injection h with h; subst h; exact ⟨⟨_, Try.func38, by kernel_rfl, by kernel_rfl⟩, beq_sound⟩
  · cases h
section
set_option maxRecDepth 100000
set_option maxHeartbeats 2000000 in
theorem bget_sound : Sound Try.prog 16 bgetS := by
  refine fn_sound (S := Sbget) (T := ty) mixed ty_ok Sbget_ok Try.func16 (c := Try.f16.body.getD .skip) (by kernel_rfl) (by kernel_rfl) (fun xs pins hp _ => ?_)
  unfold bgetS at hp ⊢
  split at hp
  · rename_i bs f _
    have hlen : bs.length ≤ 1000000 := hp
    refine ⟨by simp, ?_⟩
    unfold Try.f16
    have L0 := hb_length bs 0
    have L1 := hb_length bs 1
    have L2 := hb_length bs 2
    have L3 := hb_length bs 3
    have L4 := hb_length bs 4
    have L5 := hb_length bs 5
    have L6 := hb_length bs 6
    have q0 : bs.length ≤ 1000000 := hlen
    have q1 : (hb 1 bs).1.length ≤ 1000000 := by omega
    have q2 : (hb 2 bs).1.length ≤ 1000000 := by omega
    have q3 : (hb 3 bs).1.length ≤ 1000000 := by omega
    have q4 : (hb 4 bs).1.length ≤ 1000000 := by omega
    have q5 : (hb 5 bs).1.length ≤ 1000000 := by omega
    have q6 : (hb 6 bs).1.length ≤ 1000000 := by omega
    have n0 : numN bs 0 = hn 0 bs := rfl
    have l0 : numL bs 0 = (hb 1 bs).1 := rfl
    have e0 : numE bs 0 = (hb 1 bs).2 := rfl
    have n1 : numN (hb 1 bs).1 (hb 1 bs).2 = hn 1 bs := rfl
    have l1 : numL (hb 1 bs).1 (hb 1 bs).2 = (hb 2 bs).1 := rfl
    have e1 : numE (hb 1 bs).1 (hb 1 bs).2 = (hb 2 bs).2 := rfl
    have n2 : numN (hb 2 bs).1 (hb 2 bs).2 = hn 2 bs := rfl
    have l2 : numL (hb 2 bs).1 (hb 2 bs).2 = (hb 3 bs).1 := rfl
    have e2 : numE (hb 2 bs).1 (hb 2 bs).2 = (hb 3 bs).2 := rfl
    have n3 : numN (hb 3 bs).1 (hb 3 bs).2 = hn 3 bs := rfl
    have l3 : numL (hb 3 bs).1 (hb 3 bs).2 = (hb 4 bs).1 := rfl
    have e3 : numE (hb 3 bs).1 (hb 3 bs).2 = (hb 4 bs).2 := rfl
    have n4 : numN (hb 4 bs).1 (hb 4 bs).2 = hn 4 bs := rfl
    have l4 : numL (hb 4 bs).1 (hb 4 bs).2 = (hb 5 bs).1 := rfl
    have e4 : numE (hb 4 bs).1 (hb 4 bs).2 = (hb 5 bs).2 := rfl
    have n5 : numN (hb 5 bs).1 (hb 5 bs).2 = hn 5 bs := rfl
    have l5 : numL (hb 5 bs).1 (hb 5 bs).2 = (hb 6 bs).1 := rfl
    have e5 : numE (hb 5 bs).1 (hb 5 bs).2 = (hb 6 bs).2 := rfl
    obtain ⟨B, hB⟩ : ∃ B, hb 6 bs = B := ⟨_, rfl⟩
    simp only [hB] at q6 l5 e5
    have hget : bget bs = if 0 ≤ hn 5 bs ∧ hn 5 bs ≤ 32 then
        match readN (hn 5 bs).toNat B.1 B.2 with
        | some (rs, r, e) => if e = 0 ∧ r = [] ∧ bE ⟨hn 0 bs, hn 1 bs, hn 2 bs, hn 3 bs, hn 4 bs, rs⟩ = 0 ∧ bB ⟨hn 0 bs, hn 1 bs, hn 2 bs, hn 3 bs, hn 4 bs, rs⟩ = bs then some ⟨hn 0 bs, hn 1 bs, hn 2 bs, hn 3 bs, hn 4 bs, rs⟩ else none
        | none => none
      else none := by rw [← hB]; rfl
    generalize hn 0 bs = N0 at *
    generalize hn 1 bs = N1 at *
    generalize hn 2 bs = N2 at *
    generalize hn 3 bs = N3 at *
    generalize hn 4 bs = N4 at *
    generalize hn 5 bs = N5 at *
    by_cases h0 : N5 < 0
    · have d0 : decide (N5 < 0) = true := decide_eq_true h0
      have hg : bget bs = none := by rw [hget, if_neg (by omega)]
      have v1 : bget0 bs = ⟨0, 0, 0, 0, 0, []⟩ := by unfold bget0; rw [hg]; rfl
      have v2 : bgetE bs = 4 := by unfold bgetE; rw [hg]; rfl
      simp -implicitDefEqProofs only [evT, implies_true, forall_const, Option.getD, later_normal, aop, aLen, ev, slot, setSlot, putSlot, cv, cvl, aConv, aBin, aInt, aUn, aFn, aEq, Out.and, isBool, isPtr, List.length, IntKind.bits, evs, evo, evps, aCall, aUser, coes, coe, List.append, List.replicate, callOut, rootsL, AV.roots, lendsL, AV.lends, pinsOf, nodup, lendL, lend, closedB, noimmB, AV.noimm, AV.ren, renL, back, Nat.reduceAdd, Nat.reduceSub, Nat.reduceMul, Int.reduceToNat, reduceCtorEq, aLoad, subv, aIndexAddr, aIndex, TD.aggr, guardSlot, aPick, byte, word, aMin, aMax, Ax.Ends, EndsX, Ax.rvals, rone, AV.ids, idsL, newIds, upTo, pinHeap, gOf, ↓reduceIte, List.isEmpty, Int.reducePow, Nat.reducePow, Int.reduceMod, Nat.reduceLeDiff, Int.reduceLE, Int.reduceNe, Int.reduceEq, aBuildSlice, fillB, aAppend, appendB, viewB, Ax.look, Ax.put, Ax.drop, List.drop, List.take, asv, aMake, aCopy, srcB, fillG, viewG, appendG, appendI, fillI, aSlice, bnd, bnds, full3, cut, aFieldAddr, aField, aStore, setB, aBox, aBuild, fillS, allTy, AV.leaves, AV.okv, AV.leaf, one, splice, elemLeaves, Blk.size, Blk.len, Option.isSome, Option.isNone, isBytes, aStr, aNil, aAlloc, aExtract, viewI, Nat.reduceEqDiff, Nat.reduceLT, Nat.reduceBEq, List.contains, List.elem, Blk.closed, closedL, AV.closed, Blk.noimm, ↓gsplit_tt, ↓gsplit_ff, ↓gsplit_tf, ↓gsplit_ft, ↓csplit_t, ↓csplit_f, Ax.idx, AV.lentIds, lentIdsL, dropAll, givenUp, AV.clean, cleanL, Blk.clean, cleanB, quietC, flatTy, coldStr, notMs, eqV, eqF, isStruct, -coe, coe_w, coe_str, coe_agg, coe_tup, coe_sb, coe_si, coe_cp, coe_ms, coe_rf, coe_fn, coe_cons, ty, Sbget, newS, numS, rd, q0, q1, q2, q3, q4, q5, n0, n1, n2, n3, n4, n5, l0, l1, l2, l3, l4, l5, e0, e1, e2, e3, e4, e5, d0, v1, v2, bav, emp_nil, List.map_nil, fillS]
    · have d0 : decide (N5 < 0) = false := decide_eq_false h0
      by_cases h32 : 32 < N5
      · have d1 : decide (32 < N5) = true := decide_eq_true h32
        have hg : bget bs = none := by rw [hget, if_neg (by omega)]
        have v1 : bget0 bs = ⟨0, 0, 0, 0, 0, []⟩ := by unfold bget0; rw [hg]; rfl
        have v2 : bgetE bs = 4 := by unfold bgetE; rw [hg]; rfl
        simp -implicitDefEqProofs only [evT, implies_true, forall_const, Option.getD, later_normal, aop, aLen, ev, slot, setSlot, putSlot, cv, cvl, aConv, aBin, aInt, aUn, aFn, aEq, Out.and, isBool, isPtr, List.length, IntKind.bits, evs, evo, evps, aCall, aUser, coes, coe, List.append, List.replicate, callOut, rootsL, AV.roots, lendsL, AV.lends, pinsOf, nodup, lendL, lend, closedB, noimmB, AV.noimm, AV.ren, renL, back, Nat.reduceAdd, Nat.reduceSub, Nat.reduceMul, Int.reduceToNat, reduceCtorEq, aLoad, subv, aIndexAddr, aIndex, TD.aggr, guardSlot, aPick, byte, word, aMin, aMax, Ax.Ends, EndsX, Ax.rvals, rone, AV.ids, idsL, newIds, upTo, pinHeap, gOf, ↓reduceIte, List.isEmpty, Int.reducePow, Nat.reducePow, Int.reduceMod, Nat.reduceLeDiff, Int.reduceLE, Int.reduceNe, Int.reduceEq, aBuildSlice, fillB, aAppend, appendB, viewB, Ax.look, Ax.put, Ax.drop, List.drop, List.take, asv, aMake, aCopy, srcB, fillG, viewG, appendG, appendI, fillI, aSlice, bnd, bnds, full3, cut, aFieldAddr, aField, aStore, setB, aBox, aBuild, fillS, allTy, AV.leaves, AV.okv, AV.leaf, one, splice, elemLeaves, Blk.size, Blk.len, Option.isSome, Option.isNone, isBytes, aStr, aNil, aAlloc, aExtract, viewI, Nat.reduceEqDiff, Nat.reduceLT, Nat.reduceBEq, List.contains, List.elem, Blk.closed, closedL, AV.closed, Blk.noimm, ↓gsplit_tt, ↓gsplit_ff, ↓gsplit_tf, ↓gsplit_ft, ↓csplit_t, ↓csplit_f, Ax.idx, AV.lentIds, lentIdsL, dropAll, givenUp, AV.clean, cleanL, Blk.clean, cleanB, quietC, flatTy, coldStr, notMs, eqV, eqF, isStruct, -coe, coe_w, coe_str, coe_agg, coe_tup, coe_sb, coe_si, coe_cp, coe_ms, coe_rf, coe_fn, coe_cons, ty, Sbget, newS, numS, rd, q0, q1, q2, q3, q4, q5, n0, n1, n2, n3, n4, n5, l0, l1, l2, l3, l4, l5, e0, e1, e2, e3, e4, e5, d0, d1, v1, v2, bav, emp_nil, List.map_nil, fillS]
      · have d1 : decide (32 < N5) = false := decide_eq_false h32
        rw [if_pos (by omega)] at hget
        simp -implicitDefEqProofs only [evT, implies_true, forall_const, Option.getD, later_normal, aop, aLen, ev, slot, setSlot, putSlot, cv, cvl, aConv, aBin, aInt, aUn, aFn, aEq, Out.and, isBool, isPtr, List.length, IntKind.bits, evs, evo, evps, aCall, aUser, coes, coe, List.append, List.replicate, callOut, rootsL, AV.roots, lendsL, AV.lends, pinsOf, nodup, lendL, lend, closedB, noimmB, AV.noimm, AV.ren, renL, back, Nat.reduceAdd, Nat.reduceSub, Nat.reduceMul, Int.reduceToNat, reduceCtorEq, aLoad, subv, aIndexAddr, aIndex, TD.aggr, guardSlot, aPick, byte, word, aMin, aMax, Ax.Ends, EndsX, Ax.rvals, rone, AV.ids, idsL, newIds, upTo, pinHeap, gOf, ↓reduceIte, List.isEmpty, Int.reducePow, Nat.reducePow, Int.reduceMod, Nat.reduceLeDiff, Int.reduceLE, Int.reduceNe, Int.reduceEq, aBuildSlice, fillB, aAppend, appendB, viewB, Ax.look, Ax.put, Ax.drop, List.drop, List.take, asv, aMake, aCopy, srcB, fillG, viewG, appendG, appendI, fillI, aSlice, bnd, bnds, full3, cut, aFieldAddr, aField, aStore, setB, aBox, aBuild, fillS, allTy, AV.leaves, AV.okv, AV.leaf, one, splice, elemLeaves, Blk.size, Blk.len, Option.isSome, Option.isNone, isBytes, aStr, aNil, aAlloc, aExtract, viewI, Nat.reduceEqDiff, Nat.reduceLT, Nat.reduceBEq, List.contains, List.elem, Blk.closed, closedL, AV.closed, Blk.noimm, ↓gsplit_tt, ↓gsplit_ff, ↓gsplit_tf, ↓gsplit_ft, ↓csplit_t, ↓csplit_f, Ax.idx, AV.lentIds, lentIdsL, dropAll, givenUp, AV.clean, cleanL, Blk.clean, cleanB, quietC, flatTy, coldStr, notMs, eqV, eqF, isStruct, -coe, coe_w, coe_str, coe_agg, coe_tup, coe_sb, coe_si, coe_cp, coe_ms, coe_rf, coe_fn, coe_cons, ty, Sbget, newS, numS, rd, q0, q1, q2, q3, q4, q5, n0, n1, n2, n3, n4, n5, l0, l1, l2, l3, l4, l5, e0, e1, e2, e3, e4, e5, d0, d1]
        have closedZ := closed_rv
        have htop : top = 4294967296 := rfl
        refine awp_loopW ⟨fun m σ => ∃ (i : Nat) (b : List UInt8) (e : Int) (qs : List Rec), m = N5.toNat - i ∧ (i : Int) ≤ N5 ∧ b.length ≤ 1000000 ∧ readN N5.toNat B.1 B.2 = (readN (N5.toNat - i) b e).map (fun x => (qs ++ x.1, x.2)) ∧ qs.length = i ∧
            ((i = 0 ∧ σ = ⟨[.sb bs f, .junk, .rf 4 6 0 0, .w (.int .i64 0), .rf 5 2 0 0, .rf 6 6 0 0, .junk, .junk, .junk, .junk, .junk, .junk, .junk, .junk, .junk, .junk, .junk, .junk, .junk, .junk, .junk, .junk, .junk, .junk, .junk, .junk, .junk, .junk, .junk, .junk, .junk, .junk, .junk, .w (.int .i64 N5), .w (.int .i64 0), .junk, .junk, .junk, .junk, .junk, .junk, .junk, .junk, .junk, .junk, .junk, .junk, .junk, .junk, .junk, .junk, .junk, .junk, .junk, .junk, .junk, .junk, .junk, .junk, .junk, .junk, .junk, .junk, .junk, .junk, .junk, .junk, .junk, .junk, .junk], [(5, .g 2 [.agg [.sb b false, .w (.int .i64 e)]]), (6, .g 6 [.agg [.w (.int .i64 N0), .w (.int .i64 N1), .w (.int .i64 N2), .w (.int .i64 N3), .w (.int .i64 N4), .sg 6 [] true]]), (4, .g 6 [.agg [.w (.int .i64 0), .w (.int .i64 0), .w (.int .i64 0), .w (.int .i64 0), .w (.int .i64 0), .sg 6 [] true]])], 7⟩) ∨
             (0 < i ∧ σ = ⟨[.sb bs f, .junk, .rf 4 6 0 0, .w (.int .i64 0), .rf 5 2 0 0, .rf 6 6 0 0, .junk, .junk, .junk, .junk, .junk, .junk, .junk, .junk, .junk, .junk, .junk, .junk, .junk, .junk, .junk, .junk, .junk, .junk, .junk, .junk, .junk, .junk, .junk, .junk, .junk, .junk, .junk, .w (.int .i64 N5), .w (.int .i64 i), .junk, .junk, .junk, .junk, .junk, .junk, .junk, .junk, .junk, .junk, .junk, .junk, .junk, .ms 7 6 0 i, .junk, .junk, .junk, .junk, .junk, .junk, .junk, .junk, .junk, .junk, .junk, .junk, .junk, .junk, .junk, .junk, .junk, .junk, .junk, .junk, .junk], [(5, .g 2 [.agg [.sb b false, .w (.int .i64 e)]]), (6, .g 6 [.agg [.w (.int .i64 N0), .w (.int .i64 N1), .w (.int .i64 N2), .w (.int .i64 N3), .w (.int .i64 N4), .ms 7 6 0 i]]), (4, .g 6 [.agg [.w (.int .i64 0), .w (.int .i64 0), .w (.int .i64 0), .w (.int .i64 0), .w (.int .i64 0), .sg 6 [] true]]), (7, .g 6 (qs.map rv))], 8⟩)), ?_, ?_⟩
        · refine ⟨_, _, weak_ren [0, 1, 2, 3, 4, 28, 132] rfl rfl rfl ?_ ?_, 0, B.1, B.2, [], rfl, by omega, q6, ?_, rfl, .inl ⟨rfl, rfl⟩⟩
          · simp only [SameS, SameH, setSlot, gOf, AV.ren, renL, Blk.ren, Ax.look, Ax.put, reduceCtorEq, true_or, false_or, or_true, or_false, and_true, true_and, AV.w.injEq, Value.int.injEq, Value.bool.injEq, AV.ms.injEq, AV.sb.injEq, AV.str.injEq, ↓reduceIte, Nat.reduceEqDiff, Nat.reduceLT, List.length_append, List.length_cons, List.length_nil, Nat.zero_add, Nat.add_zero, Option.some.injEq, Blk.b.injEq, Blk.i.injEq, Nat.succ_ne_zero, Nat.reduceAdd, and_self]
          · simp only [SameS, SameH, setSlot, gOf, AV.ren, renL, Blk.ren, Ax.look, Ax.put, reduceCtorEq, true_or, false_or, or_true, or_false, and_true, true_and, AV.w.injEq, Value.int.injEq, Value.bool.injEq, AV.ms.injEq, AV.sb.injEq, AV.str.injEq, ↓reduceIte, Nat.reduceEqDiff, Nat.reduceLT, List.length_append, List.length_cons, List.length_nil, Nat.zero_add, Nat.add_zero, Option.some.injEq, Blk.b.injEq, Blk.i.injEq, Nat.succ_ne_zero, Nat.reduceAdd, and_self]
          · cases readN N5.toNat B.1 B.2 <;> simp
        · rintro m σ ⟨i, b, e, qs, rfl, hi, hlb, hinv, hql, hσ⟩
          rcases hσ with ⟨hi0, rfl⟩ | ⟨hi0, rfl⟩
          · obtain rfl : i = 0 := hi0
            obtain rfl : qs = [] := List.eq_nil_of_length_eq_zero hql
            by_cases hil : (0 : Int) < N5
            · have d2 : decide ((0 : Int) < N5) = true := decide_eq_true (by omega)
              have es : ((0 : Int) + 1 + 9223372036854775808) % 18446744073709551616 - 9223372036854775808 = 1 := by omega
              have hsuc : N5.toNat - 0 = (N5.toNat - (0 + 1)) + 1 := by omega
              have hl5 := gb5_length b e
              by_cases hg0 : gerr b e = 0
              · have d3 : decide (gerr b e = 0) = true := decide_eq_true hg0
                have hgr := grec_rv hg0
                have hR : readN N5.toNat B.1 B.2 = (readN (N5.toNat - (0 + 1)) (gb5 b e) (ge5 b e)).map (fun x => ((([] : List Rec) ++ [gR b e]) ++ x.1, x.2)) := by
                  rw [hinv, hsuc, readN_step hg0]
                obtain ⟨G, hG⟩ : ∃ G, gR b e = G := ⟨_, rfl⟩
                rw [hG] at hgr hR
                simp only [rv] at hgr
                simp -implicitDefEqProofs only [evT, implies_true, forall_const, Option.getD, later_normal, aop, aLen, ev, slot, setSlot, putSlot, cv, cvl, aConv, aBin, aInt, aUn, aFn, aEq, Out.and, isBool, isPtr, List.length, IntKind.bits, evs, evo, evps, aCall, aUser, coes, coe, List.append, List.replicate, callOut, rootsL, AV.roots, lendsL, AV.lends, pinsOf, nodup, lendL, lend, closedB, noimmB, AV.noimm, AV.ren, renL, back, Nat.reduceAdd, Nat.reduceSub, Nat.reduceMul, Int.reduceToNat, reduceCtorEq, aLoad, subv, aIndexAddr, aIndex, TD.aggr, guardSlot, aPick, byte, word, aMin, aMax, Ax.Ends, EndsX, Ax.rvals, rone, AV.ids, idsL, newIds, upTo, pinHeap, gOf, ↓reduceIte, List.isEmpty, Int.reducePow, Nat.reducePow, Int.reduceMod, Nat.reduceLeDiff, Int.reduceLE, Int.reduceNe, Int.reduceEq, aBuildSlice, fillB, aAppend, appendB, viewB, Ax.look, Ax.put, Ax.drop, List.drop, List.take, asv, aMake, aCopy, srcB, fillG, viewG, appendG, appendI, fillI, aSlice, bnd, bnds, full3, cut, aFieldAddr, aField, aStore, setB, aBox, aBuild, fillS, allTy, AV.leaves, AV.okv, AV.leaf, one, splice, elemLeaves, Blk.size, Blk.len, Option.isSome, Option.isNone, isBytes, aStr, aNil, aAlloc, aExtract, viewI, Nat.reduceEqDiff, Nat.reduceLT, Nat.reduceBEq, List.contains, List.elem, Blk.closed, closedL, AV.closed, Blk.noimm, ↓gsplit_tt, ↓gsplit_ff, ↓gsplit_tf, ↓gsplit_ft, ↓csplit_t, ↓csplit_f, Ax.idx, AV.lentIds, lentIdsL, dropAll, givenUp, AV.clean, cleanL, Blk.clean, cleanB, quietC, flatTy, coldStr, notMs, eqV, eqF, isStruct, -coe, coe_w, coe_str, coe_agg, coe_tup, coe_sb, coe_si, coe_cp, coe_ms, coe_rf, coe_fn, coe_cons, ty, Sbget, newS, numS, rgetS, doneS, blayS4, beqS, rd, d2, hlb, hgr, hg0, es]
                repeat (refine And.intro (by first | omega | (intro h; cases h)) ?_)

                refine ⟨N5.toNat - (0 + 1), _, by omega, weak_ren [0, 1, 2, 3, 4, 5, 6, 127] rfl rfl rfl ?_ ?_, 0 + 1, gb5 b e, ge5 b e, ([] : List Rec) ++ [G], rfl, by omega, by omega, hR, by simp [hql], .inr ⟨by omega, rfl⟩⟩
                · simp only [SameS, SameH, setSlot, gOf, AV.ren, renL, Blk.ren, Ax.look, Ax.put, reduceCtorEq, true_or, false_or, or_true, or_false, and_true, true_and, AV.w.injEq, Value.int.injEq, Value.bool.injEq, AV.ms.injEq, AV.sb.injEq, AV.str.injEq, ↓reduceIte, Nat.reduceEqDiff, Nat.reduceLT, List.length_append, List.length_cons, List.length_nil, Nat.zero_add, Nat.add_zero, Option.some.injEq, Blk.b.injEq, Blk.i.injEq, Nat.succ_ne_zero, Nat.reduceAdd, and_self]; try simp
                · simp only [SameS, SameH, setSlot, gOf, AV.ren, renL, Blk.ren, Ax.look, Ax.put, reduceCtorEq, true_or, false_or, or_true, or_false, and_true, true_and, AV.w.injEq, Value.int.injEq, Value.bool.injEq, AV.ms.injEq, AV.sb.injEq, AV.str.injEq, ↓reduceIte, Nat.reduceEqDiff, Nat.reduceLT, List.length_append, List.length_cons, List.length_nil, Nat.zero_add, Nat.add_zero, Option.some.injEq, Blk.b.injEq, Blk.i.injEq, Nat.succ_ne_zero, Nat.reduceAdd, and_self]; rw [ren_rv]; simp [rv]
              · have d3 : decide (gerr b e = 0) = false := decide_eq_false hg0
                have hR : readN N5.toNat B.1 B.2 = none := by rw [hinv, hsuc]; rw [readN_succ, if_neg hg0]; rfl
                have hg : bget bs = none := by rw [hget, hR]
                have v1 : bget0 bs = ⟨0, 0, 0, 0, 0, []⟩ := by unfold bget0; rw [hg]; rfl
                have v2 : bgetE bs = 4 := by unfold bgetE; rw [hg]; rfl
                have hgr : grec b e = recV 0 0 false [] false [] := if_neg hg0
                simp -implicitDefEqProofs only [evT, implies_true, forall_const, Option.getD, later_normal, aop, aLen, ev, slot, setSlot, putSlot, cv, cvl, aConv, aBin, aInt, aUn, aFn, aEq, Out.and, isBool, isPtr, List.length, IntKind.bits, evs, evo, evps, aCall, aUser, coes, coe, List.append, List.replicate, callOut, rootsL, AV.roots, lendsL, AV.lends, pinsOf, nodup, lendL, lend, closedB, noimmB, AV.noimm, AV.ren, renL, back, Nat.reduceAdd, Nat.reduceSub, Nat.reduceMul, Int.reduceToNat, reduceCtorEq, aLoad, subv, aIndexAddr, aIndex, TD.aggr, guardSlot, aPick, byte, word, aMin, aMax, Ax.Ends, EndsX, Ax.rvals, rone, AV.ids, idsL, newIds, upTo, pinHeap, gOf, ↓reduceIte, List.isEmpty, Int.reducePow, Nat.reducePow, Int.reduceMod, Nat.reduceLeDiff, Int.reduceLE, Int.reduceNe, Int.reduceEq, aBuildSlice, fillB, aAppend, appendB, viewB, Ax.look, Ax.put, Ax.drop, List.drop, List.take, asv, aMake, aCopy, srcB, fillG, viewG, appendG, appendI, fillI, aSlice, bnd, bnds, full3, cut, aFieldAddr, aField, aStore, setB, aBox, aBuild, fillS, allTy, AV.leaves, AV.okv, AV.leaf, one, splice, elemLeaves, Blk.size, Blk.len, Option.isSome, Option.isNone, isBytes, aStr, aNil, aAlloc, aExtract, viewI, Nat.reduceEqDiff, Nat.reduceLT, Nat.reduceBEq, List.contains, List.elem, Blk.closed, closedL, AV.closed, Blk.noimm, ↓gsplit_tt, ↓gsplit_ff, ↓gsplit_tf, ↓gsplit_ft, ↓csplit_t, ↓csplit_f, Ax.idx, AV.lentIds, lentIdsL, dropAll, givenUp, AV.clean, cleanL, Blk.clean, cleanB, quietC, flatTy, coldStr, notMs, eqV, eqF, isStruct, -coe, coe_w, coe_str, coe_agg, coe_tup, coe_sb, coe_si, coe_cp, coe_ms, coe_rf, coe_fn, coe_cons, ty, Sbget, newS, numS, rgetS, doneS, blayS4, beqS, rd, d2, hlb, hgr, recV, d3, v1, v2, bav, emp_nil, List.map_nil, fillS]
                refine ⟨_, Weak.refl _, ?_⟩
                simp -implicitDefEqProofs only [evT, implies_true, forall_const, Option.getD, later_normal, aop, aLen, ev, slot, setSlot, putSlot, cv, cvl, aConv, aBin, aInt, aUn, aFn, aEq, Out.and, isBool, isPtr, List.length, IntKind.bits, evs, evo, evps, aCall, aUser, coes, coe, List.append, List.replicate, callOut, rootsL, AV.roots, lendsL, AV.lends, pinsOf, nodup, lendL, lend, closedB, noimmB, AV.noimm, AV.ren, renL, back, Nat.reduceAdd, Nat.reduceSub, Nat.reduceMul, Int.reduceToNat, reduceCtorEq, aLoad, subv, aIndexAddr, aIndex, TD.aggr, guardSlot, aPick, byte, word, aMin, aMax, Ax.Ends, EndsX, Ax.rvals, rone, AV.ids, idsL, newIds, upTo, pinHeap, gOf, ↓reduceIte, List.isEmpty, Int.reducePow, Nat.reducePow, Int.reduceMod, Nat.reduceLeDiff, Int.reduceLE, Int.reduceNe, Int.reduceEq, aBuildSlice, fillB, aAppend, appendB, viewB, Ax.look, Ax.put, Ax.drop, List.drop, List.take, asv, aMake, aCopy, srcB, fillG, viewG, appendG, appendI, fillI, aSlice, bnd, bnds, full3, cut, aFieldAddr, aField, aStore, setB, aBox, aBuild, fillS, allTy, AV.leaves, AV.okv, AV.leaf, one, splice, elemLeaves, Blk.size, Blk.len, Option.isSome, Option.isNone, isBytes, aStr, aNil, aAlloc, aExtract, viewI, Nat.reduceEqDiff, Nat.reduceLT, Nat.reduceBEq, List.contains, List.elem, Blk.closed, closedL, AV.closed, Blk.noimm, ↓gsplit_tt, ↓gsplit_ff, ↓gsplit_tf, ↓gsplit_ft, ↓csplit_t, ↓csplit_f, Ax.idx, AV.lentIds, lentIdsL, dropAll, givenUp, AV.clean, cleanL, Blk.clean, cleanB, quietC, flatTy, coldStr, notMs, eqV, eqF, isStruct, -coe, coe_w, coe_str, coe_agg, coe_tup, coe_sb, coe_si, coe_cp, coe_ms, coe_rf, coe_fn, coe_cons, ty, Sbget, newS, numS, rgetS, doneS, blayS4, beqS, rd, v1, v2, bav, emp_nil, List.map_nil, fillS]
            · have d2 : decide ((0 : Int) < N5) = false := decide_eq_false (by omega)
              have hz : N5.toNat - 0 = 0 := by omega
              have hR : readN N5.toNat B.1 B.2 = some (([] : List Rec), b, e) := by rw [hinv, hz]; simp [readN]
              rw [hR] at hget
              simp only at hget
              have hmL : (([] : List AV)).length = 0 := by simp [hql]
              have hmL2 : (([] : List AV)).length ≤ 9223372036854775807 := by omega
              have hex : ∃ rs : List Rec, ([] : List AV) = rs.map rv := ⟨([] : List Rec), rfl⟩
              have hrr : (([] : List AV)).map rrec = ([] : List Rec) := rfl
              have hcl : closedL (([] : List AV)) = true := rfl
              have hbE : batE N0 N1 N2 N3 N4 ([] : List Rec) = bE ⟨N0, N1, N2, N3, N4, ([] : List Rec)⟩ := rfl
              have hbB : batB N0 N1 N2 N3 N4 ([] : List Rec) = bB ⟨N0, N1, N2, N3, N4, ([] : List Rec)⟩ := rfl
              generalize hX : (⟨N0, N1, N2, N3, N4, ([] : List Rec)⟩ : Bat) = X at *
              simp -implicitDefEqProofs only [evT, implies_true, forall_const, Option.getD, later_normal, aop, aLen, ev, slot, setSlot, putSlot, cv, cvl, aConv, aBin, aInt, aUn, aFn, aEq, Out.and, isBool, isPtr, List.length, IntKind.bits, evs, evo, evps, aCall, aUser, coes, coe, List.append, List.replicate, callOut, rootsL, AV.roots, lendsL, AV.lends, pinsOf, nodup, lendL, lend, closedB, noimmB, AV.noimm, AV.ren, renL, back, Nat.reduceAdd, Nat.reduceSub, Nat.reduceMul, Int.reduceToNat, reduceCtorEq, aLoad, subv, aIndexAddr, aIndex, TD.aggr, guardSlot, aPick, byte, word, aMin, aMax, Ax.Ends, EndsX, Ax.rvals, rone, AV.ids, idsL, newIds, upTo, pinHeap, gOf, ↓reduceIte, List.isEmpty, Int.reducePow, Nat.reducePow, Int.reduceMod, Nat.reduceLeDiff, Int.reduceLE, Int.reduceNe, Int.reduceEq, aBuildSlice, fillB, aAppend, appendB, viewB, Ax.look, Ax.put, Ax.drop, List.drop, List.take, asv, aMake, aCopy, srcB, fillG, viewG, appendG, appendI, fillI, aSlice, bnd, bnds, full3, cut, aFieldAddr, aField, aStore, setB, aBox, aBuild, fillS, allTy, AV.leaves, AV.okv, AV.leaf, one, splice, elemLeaves, Blk.size, Blk.len, Option.isSome, Option.isNone, isBytes, aStr, aNil, aAlloc, aExtract, viewI, Nat.reduceEqDiff, Nat.reduceLT, Nat.reduceBEq, List.contains, List.elem, Blk.closed, closedL, AV.closed, Blk.noimm, ↓gsplit_tt, ↓gsplit_ff, ↓gsplit_tf, ↓gsplit_ft, ↓csplit_t, ↓csplit_f, Ax.idx, AV.lentIds, lentIdsL, dropAll, givenUp, AV.clean, cleanL, Blk.clean, cleanB, quietC, flatTy, coldStr, notMs, eqV, eqF, isStruct, -coe, coe_w, coe_str, coe_agg, coe_tup, coe_sb, coe_si, coe_cp, coe_ms, coe_rf, coe_fn, coe_cons, ty, Sbget, newS, numS, rgetS, doneS, blayS4, beqS, rd, d2, hmL]
              refine ⟨_, Weak.refl _, ?_⟩

              by_cases hd : e = 0 ∧ b = []
              · obtain ⟨rfl, rfl⟩ := hd
                have hdn : (if (0 : Int) = 0 ∧ 0 < ([] : List UInt8).length then (4 : Int) else 0) = 0 := by simp
                by_cases hE : bE X = 0
                · by_cases hBq : bB X = bs
                  · have hg : bget bs = some X := by rw [hget, if_pos ⟨rfl, rfl, hE, hBq⟩]
                    have v1 : bget0 bs = X := by unfold bget0; rw [hg]; rfl
                    have v2 : bgetE bs = 0 := by unfold bgetE; rw [hg]; rfl
                    have dq : decide (bB X = bs) = true := decide_eq_true hBq
                    rw [← hX] at v1
                    simp -implicitDefEqProofs only [evT, implies_true, forall_const, Option.getD, later_normal, aop, aLen, ev, slot, setSlot, putSlot, cv, cvl, aConv, aBin, aInt, aUn, aFn, aEq, Out.and, isBool, isPtr, List.length, IntKind.bits, evs, evo, evps, aCall, aUser, coes, coe, List.append, List.replicate, callOut, rootsL, AV.roots, lendsL, AV.lends, pinsOf, nodup, lendL, lend, closedB, noimmB, AV.noimm, AV.ren, renL, back, Nat.reduceAdd, Nat.reduceSub, Nat.reduceMul, Int.reduceToNat, reduceCtorEq, aLoad, subv, aIndexAddr, aIndex, TD.aggr, guardSlot, aPick, byte, word, aMin, aMax, Ax.Ends, EndsX, Ax.rvals, rone, AV.ids, idsL, newIds, upTo, pinHeap, gOf, ↓reduceIte, List.isEmpty, Int.reducePow, Nat.reducePow, Int.reduceMod, Nat.reduceLeDiff, Int.reduceLE, Int.reduceNe, Int.reduceEq, aBuildSlice, fillB, aAppend, appendB, viewB, Ax.look, Ax.put, Ax.drop, List.drop, List.take, asv, aMake, aCopy, srcB, fillG, viewG, appendG, appendI, fillI, aSlice, bnd, bnds, full3, cut, aFieldAddr, aField, aStore, setB, aBox, aBuild, fillS, allTy, AV.leaves, AV.okv, AV.leaf, one, splice, elemLeaves, Blk.size, Blk.len, Option.isSome, Option.isNone, isBytes, aStr, aNil, aAlloc, aExtract, viewI, Nat.reduceEqDiff, Nat.reduceLT, Nat.reduceBEq, List.contains, List.elem, Blk.closed, closedL, AV.closed, Blk.noimm, ↓gsplit_tt, ↓gsplit_ff, ↓gsplit_tf, ↓gsplit_ft, ↓csplit_t, ↓csplit_f, Ax.idx, AV.lentIds, lentIdsL, dropAll, givenUp, AV.clean, cleanL, Blk.clean, cleanB, quietC, flatTy, coldStr, notMs, eqV, eqF, isStruct, -coe, coe_w, coe_str, coe_agg, coe_tup, coe_sb, coe_si, coe_cp, coe_ms, coe_rf, coe_fn, coe_cons, ty, Sbget, newS, numS, rgetS, doneS, blayS4, beqS, rd, hdn, hmL, hmL2, hex, hrr, hcl, hbE, hbB, hE, dq, v1, v2, bav, List.map_nil, emp_nil]
                  · have hg : bget bs = none := by rw [hget, if_neg (fun h => hBq h.2.2.2)]
                    have v1 : bget0 bs = ⟨0, 0, 0, 0, 0, []⟩ := by unfold bget0; rw [hg]; rfl
                    have v2 : bgetE bs = 4 := by unfold bgetE; rw [hg]; rfl
                    have dq : decide (bB X = bs) = false := decide_eq_false hBq
                    simp -implicitDefEqProofs only [evT, implies_true, forall_const, Option.getD, later_normal, aop, aLen, ev, slot, setSlot, putSlot, cv, cvl, aConv, aBin, aInt, aUn, aFn, aEq, Out.and, isBool, isPtr, List.length, IntKind.bits, evs, evo, evps, aCall, aUser, coes, coe, List.append, List.replicate, callOut, rootsL, AV.roots, lendsL, AV.lends, pinsOf, nodup, lendL, lend, closedB, noimmB, AV.noimm, AV.ren, renL, back, Nat.reduceAdd, Nat.reduceSub, Nat.reduceMul, Int.reduceToNat, reduceCtorEq, aLoad, subv, aIndexAddr, aIndex, TD.aggr, guardSlot, aPick, byte, word, aMin, aMax, Ax.Ends, EndsX, Ax.rvals, rone, AV.ids, idsL, newIds, upTo, pinHeap, gOf, ↓reduceIte, List.isEmpty, Int.reducePow, Nat.reducePow, Int.reduceMod, Nat.reduceLeDiff, Int.reduceLE, Int.reduceNe, Int.reduceEq, aBuildSlice, fillB, aAppend, appendB, viewB, Ax.look, Ax.put, Ax.drop, List.drop, List.take, asv, aMake, aCopy, srcB, fillG, viewG, appendG, appendI, fillI, aSlice, bnd, bnds, full3, cut, aFieldAddr, aField, aStore, setB, aBox, aBuild, fillS, allTy, AV.leaves, AV.okv, AV.leaf, one, splice, elemLeaves, Blk.size, Blk.len, Option.isSome, Option.isNone, isBytes, aStr, aNil, aAlloc, aExtract, viewI, Nat.reduceEqDiff, Nat.reduceLT, Nat.reduceBEq, List.contains, List.elem, Blk.closed, closedL, AV.closed, Blk.noimm, ↓gsplit_tt, ↓gsplit_ff, ↓gsplit_tf, ↓gsplit_ft, ↓csplit_t, ↓csplit_f, Ax.idx, AV.lentIds, lentIdsL, dropAll, givenUp, AV.clean, cleanL, Blk.clean, cleanB, quietC, flatTy, coldStr, notMs, eqV, eqF, isStruct, -coe, coe_w, coe_str, coe_agg, coe_tup, coe_sb, coe_si, coe_cp, coe_ms, coe_rf, coe_fn, coe_cons, ty, Sbget, newS, numS, rgetS, doneS, blayS4, beqS, rd, hdn, hmL, hmL2, hex, hrr, hcl, hbE, hbB, hE, dq, v1, v2, bav, emp_nil, List.map_nil, fillS]
                · have hg : bget bs = none := by rw [hget, if_neg (fun h => hE h.2.2.1)]
                  have v1 : bget0 bs = ⟨0, 0, 0, 0, 0, []⟩ := by unfold bget0; rw [hg]; rfl
                  have v2 : bgetE bs = 4 := by unfold bgetE; rw [hg]; rfl
                  have dE : decide (bE X = 0) = false := decide_eq_false hE
                  simp -implicitDefEqProofs only [evT, implies_true, forall_const, Option.getD, later_normal, aop, aLen, ev, slot, setSlot, putSlot, cv, cvl, aConv, aBin, aInt, aUn, aFn, aEq, Out.and, isBool, isPtr, List.length, IntKind.bits, evs, evo, evps, aCall, aUser, coes, coe, List.append, List.replicate, callOut, rootsL, AV.roots, lendsL, AV.lends, pinsOf, nodup, lendL, lend, closedB, noimmB, AV.noimm, AV.ren, renL, back, Nat.reduceAdd, Nat.reduceSub, Nat.reduceMul, Int.reduceToNat, reduceCtorEq, aLoad, subv, aIndexAddr, aIndex, TD.aggr, guardSlot, aPick, byte, word, aMin, aMax, Ax.Ends, EndsX, Ax.rvals, rone, AV.ids, idsL, newIds, upTo, pinHeap, gOf, ↓reduceIte, List.isEmpty, Int.reducePow, Nat.reducePow, Int.reduceMod, Nat.reduceLeDiff, Int.reduceLE, Int.reduceNe, Int.reduceEq, aBuildSlice, fillB, aAppend, appendB, viewB, Ax.look, Ax.put, Ax.drop, List.drop, List.take, asv, aMake, aCopy, srcB, fillG, viewG, appendG, appendI, fillI, aSlice, bnd, bnds, full3, cut, aFieldAddr, aField, aStore, setB, aBox, aBuild, fillS, allTy, AV.leaves, AV.okv, AV.leaf, one, splice, elemLeaves, Blk.size, Blk.len, Option.isSome, Option.isNone, isBytes, aStr, aNil, aAlloc, aExtract, viewI, Nat.reduceEqDiff, Nat.reduceLT, Nat.reduceBEq, List.contains, List.elem, Blk.closed, closedL, AV.closed, Blk.noimm, ↓gsplit_tt, ↓gsplit_ff, ↓gsplit_tf, ↓gsplit_ft, ↓csplit_t, ↓csplit_f, Ax.idx, AV.lentIds, lentIdsL, dropAll, givenUp, AV.clean, cleanL, Blk.clean, cleanB, quietC, flatTy, coldStr, notMs, eqV, eqF, isStruct, -coe, coe_w, coe_str, coe_agg, coe_tup, coe_sb, coe_si, coe_cp, coe_ms, coe_rf, coe_fn, coe_cons, ty, Sbget, newS, numS, rgetS, doneS, blayS4, beqS, rd, hdn, hmL, hmL2, hex, hrr, hcl, hbE, hbB, dE, v1, v2, bav, emp_nil, List.map_nil, fillS]
              · have hg : bget bs = none := by rw [hget, if_neg (fun h => hd ⟨h.1, h.2.1⟩)]
                have v1 : bget0 bs = ⟨0, 0, 0, 0, 0, []⟩ := by unfold bget0; rw [hg]; rfl
                have v2 : bgetE bs = 4 := by unfold bgetE; rw [hg]; rfl
                have hdn0 : (if e = 0 ∧ 0 < b.length then (4 : Int) else e) ≠ 0 := by
                  split
                  · decide
                  · rename_i h
                    intro he
                    exact hd ⟨he, List.eq_nil_of_length_eq_zero (by by_cases hbl : b.length = 0; exact hbl; exact (h ⟨he, by omega⟩).elim)⟩
                obtain ⟨D, hD⟩ : ∃ D, (if e = 0 ∧ 0 < b.length then (4 : Int) else e) = D := ⟨_, rfl⟩
                rw [hD] at hdn0
                have dD : decide (D = 0) = false := decide_eq_false hdn0
                simp -implicitDefEqProofs only [evT, implies_true, forall_const, Option.getD, later_normal, aop, aLen, ev, slot, setSlot, putSlot, cv, cvl, aConv, aBin, aInt, aUn, aFn, aEq, Out.and, isBool, isPtr, List.length, IntKind.bits, evs, evo, evps, aCall, aUser, coes, coe, List.append, List.replicate, callOut, rootsL, AV.roots, lendsL, AV.lends, pinsOf, nodup, lendL, lend, closedB, noimmB, AV.noimm, AV.ren, renL, back, Nat.reduceAdd, Nat.reduceSub, Nat.reduceMul, Int.reduceToNat, reduceCtorEq, aLoad, subv, aIndexAddr, aIndex, TD.aggr, guardSlot, aPick, byte, word, aMin, aMax, Ax.Ends, EndsX, Ax.rvals, rone, AV.ids, idsL, newIds, upTo, pinHeap, gOf, ↓reduceIte, List.isEmpty, Int.reducePow, Nat.reducePow, Int.reduceMod, Nat.reduceLeDiff, Int.reduceLE, Int.reduceNe, Int.reduceEq, aBuildSlice, fillB, aAppend, appendB, viewB, Ax.look, Ax.put, Ax.drop, List.drop, List.take, asv, aMake, aCopy, srcB, fillG, viewG, appendG, appendI, fillI, aSlice, bnd, bnds, full3, cut, aFieldAddr, aField, aStore, setB, aBox, aBuild, fillS, allTy, AV.leaves, AV.okv, AV.leaf, one, splice, elemLeaves, Blk.size, Blk.len, Option.isSome, Option.isNone, isBytes, aStr, aNil, aAlloc, aExtract, viewI, Nat.reduceEqDiff, Nat.reduceLT, Nat.reduceBEq, List.contains, List.elem, Blk.closed, closedL, AV.closed, Blk.noimm, ↓gsplit_tt, ↓gsplit_ff, ↓gsplit_tf, ↓gsplit_ft, ↓csplit_t, ↓csplit_f, Ax.idx, AV.lentIds, lentIdsL, dropAll, givenUp, AV.clean, cleanL, Blk.clean, cleanB, quietC, flatTy, coldStr, notMs, eqV, eqF, isStruct, -coe, coe_w, coe_str, coe_agg, coe_tup, coe_sb, coe_si, coe_cp, coe_ms, coe_rf, coe_fn, coe_cons, ty, Sbget, newS, numS, rgetS, doneS, blayS4, beqS, rd, hD, dD, v1, v2, bav, emp_nil, List.map_nil, fillS]
          · have hml : (qs.map rv).length = i := by simp [hql]
            have hdle : decide (0 + i ≤ (qs.map rv).length) = true := decide_eq_true (by omega)
            have htk : (qs.map rv).take i = qs.map rv := List.take_of_length_le (by omega)
            have hie : emp qs = false := by cases qs with | nil => simp at hql; omega | cons _ _ => rfl
            have hi2 : i ≤ 32 := by omega
            have hi3 : i ≤ 9223372036854775807 := by omega
            by_cases hil : (i : Int) < N5
            · have d2 : decide ((i : Int) < N5) = true := decide_eq_true (by omega)
              have es : ((i : Int) + 1 + 9223372036854775808) % 18446744073709551616 - 9223372036854775808 = ((i + 1 : Nat) : Int) := by omega
              have hsuc : N5.toNat - i = (N5.toNat - (i + 1)) + 1 := by omega
              have hl5 := gb5_length b e
              by_cases hg0 : gerr b e = 0
              · have d3 : decide (gerr b e = 0) = true := decide_eq_true hg0
                have hgr := grec_rv hg0
                have hR : readN N5.toNat B.1 B.2 = (readN (N5.toNat - (i + 1)) (gb5 b e) (ge5 b e)).map (fun x => ((qs ++ [gR b e]) ++ x.1, x.2)) := by
                  rw [hinv, hsuc, readN_step hg0]
                obtain ⟨G, hG⟩ : ∃ G, gR b e = G := ⟨_, rfl⟩
                rw [hG] at hgr hR
                simp only [rv] at hgr
                simp -implicitDefEqProofs only [evT, implies_true, forall_const, Option.getD, later_normal, aop, aLen, ev, slot, setSlot, putSlot, cv, cvl, aConv, aBin, aInt, aUn, aFn, aEq, Out.and, isBool, isPtr, List.length, IntKind.bits, evs, evo, evps, aCall, aUser, coes, coe, List.append, List.replicate, callOut, rootsL, AV.roots, lendsL, AV.lends, pinsOf, nodup, lendL, lend, closedB, noimmB, AV.noimm, AV.ren, renL, back, Nat.reduceAdd, Nat.reduceSub, Nat.reduceMul, Int.reduceToNat, reduceCtorEq, aLoad, subv, aIndexAddr, aIndex, TD.aggr, guardSlot, aPick, byte, word, aMin, aMax, Ax.Ends, EndsX, Ax.rvals, rone, AV.ids, idsL, newIds, upTo, pinHeap, gOf, ↓reduceIte, List.isEmpty, Int.reducePow, Nat.reducePow, Int.reduceMod, Nat.reduceLeDiff, Int.reduceLE, Int.reduceNe, Int.reduceEq, aBuildSlice, fillB, aAppend, appendB, viewB, Ax.look, Ax.put, Ax.drop, List.drop, List.take, asv, aMake, aCopy, srcB, fillG, viewG, appendG, appendI, fillI, aSlice, bnd, bnds, full3, cut, aFieldAddr, aField, aStore, setB, aBox, aBuild, fillS, allTy, AV.leaves, AV.okv, AV.leaf, one, splice, elemLeaves, Blk.size, Blk.len, Option.isSome, Option.isNone, isBytes, aStr, aNil, aAlloc, aExtract, viewI, Nat.reduceEqDiff, Nat.reduceLT, Nat.reduceBEq, List.contains, List.elem, Blk.closed, closedL, AV.closed, Blk.noimm, ↓gsplit_tt, ↓gsplit_ff, ↓gsplit_tf, ↓gsplit_ft, ↓csplit_t, ↓csplit_f, Ax.idx, AV.lentIds, lentIdsL, dropAll, givenUp, AV.clean, cleanL, Blk.clean, cleanB, quietC, flatTy, coldStr, notMs, eqV, eqF, isStruct, -coe, coe_w, coe_str, coe_agg, coe_tup, coe_sb, coe_si, coe_cp, coe_ms, coe_rf, coe_fn, coe_cons, ty, Sbget, newS, numS, rgetS, doneS, blayS4, beqS, rd, d2, hlb, hgr, hg0, es, hql, hml]
                repeat (refine And.intro (by first | omega | (intro h; cases h)) ?_)

                refine ⟨N5.toNat - (i + 1), _, by omega, weak_ren [0, 1, 2, 3, 4, 5, 6, 128] rfl rfl rfl ?_ ?_, i + 1, gb5 b e, ge5 b e, qs ++ [G], rfl, by omega, by omega, hR, by simp [hql], .inr ⟨by omega, rfl⟩⟩
                · simp only [SameS, SameH, setSlot, gOf, AV.ren, renL, Blk.ren, Ax.look, Ax.put, reduceCtorEq, true_or, false_or, or_true, or_false, and_true, true_and, AV.w.injEq, Value.int.injEq, Value.bool.injEq, AV.ms.injEq, AV.sb.injEq, AV.str.injEq, ↓reduceIte, Nat.reduceEqDiff, Nat.reduceLT, List.length_append, List.length_cons, List.length_nil, Nat.zero_add, Nat.add_zero, Option.some.injEq, Blk.b.injEq, Blk.i.injEq, Nat.succ_ne_zero, Nat.reduceAdd, and_self]; try simp
                · simp only [SameS, SameH, setSlot, gOf, AV.ren, renL, Blk.ren, Ax.look, Ax.put, reduceCtorEq, true_or, false_or, or_true, or_false, and_true, true_and, AV.w.injEq, Value.int.injEq, Value.bool.injEq, AV.ms.injEq, AV.sb.injEq, AV.str.injEq, ↓reduceIte, Nat.reduceEqDiff, Nat.reduceLT, List.length_append, List.length_cons, List.length_nil, Nat.zero_add, Nat.add_zero, Option.some.injEq, Blk.b.injEq, Blk.i.injEq, Nat.succ_ne_zero, Nat.reduceAdd, and_self]; rw [ren_rv]; simp [rv]
              · have d3 : decide (gerr b e = 0) = false := decide_eq_false hg0
                have hR : readN N5.toNat B.1 B.2 = none := by rw [hinv, hsuc]; rw [readN_succ, if_neg hg0]; rfl
                have hg : bget bs = none := by rw [hget, hR]
                have v1 : bget0 bs = ⟨0, 0, 0, 0, 0, []⟩ := by unfold bget0; rw [hg]; rfl
                have v2 : bgetE bs = 4 := by unfold bgetE; rw [hg]; rfl
                have hgr : grec b e = recV 0 0 false [] false [] := if_neg hg0
                simp -implicitDefEqProofs only [evT, implies_true, forall_const, Option.getD, later_normal, aop, aLen, ev, slot, setSlot, putSlot, cv, cvl, aConv, aBin, aInt, aUn, aFn, aEq, Out.and, isBool, isPtr, List.length, IntKind.bits, evs, evo, evps, aCall, aUser, coes, coe, List.append, List.replicate, callOut, rootsL, AV.roots, lendsL, AV.lends, pinsOf, nodup, lendL, lend, closedB, noimmB, AV.noimm, AV.ren, renL, back, Nat.reduceAdd, Nat.reduceSub, Nat.reduceMul, Int.reduceToNat, reduceCtorEq, aLoad, subv, aIndexAddr, aIndex, TD.aggr, guardSlot, aPick, byte, word, aMin, aMax, Ax.Ends, EndsX, Ax.rvals, rone, AV.ids, idsL, newIds, upTo, pinHeap, gOf, ↓reduceIte, List.isEmpty, Int.reducePow, Nat.reducePow, Int.reduceMod, Nat.reduceLeDiff, Int.reduceLE, Int.reduceNe, Int.reduceEq, aBuildSlice, fillB, aAppend, appendB, viewB, Ax.look, Ax.put, Ax.drop, List.drop, List.take, asv, aMake, aCopy, srcB, fillG, viewG, appendG, appendI, fillI, aSlice, bnd, bnds, full3, cut, aFieldAddr, aField, aStore, setB, aBox, aBuild, fillS, allTy, AV.leaves, AV.okv, AV.leaf, one, splice, elemLeaves, Blk.size, Blk.len, Option.isSome, Option.isNone, isBytes, aStr, aNil, aAlloc, aExtract, viewI, Nat.reduceEqDiff, Nat.reduceLT, Nat.reduceBEq, List.contains, List.elem, Blk.closed, closedL, AV.closed, Blk.noimm, ↓gsplit_tt, ↓gsplit_ff, ↓gsplit_tf, ↓gsplit_ft, ↓csplit_t, ↓csplit_f, Ax.idx, AV.lentIds, lentIdsL, dropAll, givenUp, AV.clean, cleanL, Blk.clean, cleanB, quietC, flatTy, coldStr, notMs, eqV, eqF, isStruct, -coe, coe_w, coe_str, coe_agg, coe_tup, coe_sb, coe_si, coe_cp, coe_ms, coe_rf, coe_fn, coe_cons, ty, Sbget, newS, numS, rgetS, doneS, blayS4, beqS, rd, d2, hlb, hgr, recV, d3, v1, v2, bav, emp_nil, List.map_nil, fillS]
                refine ⟨_, Weak.refl _, ?_⟩
                simp -implicitDefEqProofs only [evT, implies_true, forall_const, Option.getD, later_normal, aop, aLen, ev, slot, setSlot, putSlot, cv, cvl, aConv, aBin, aInt, aUn, aFn, aEq, Out.and, isBool, isPtr, List.length, IntKind.bits, evs, evo, evps, aCall, aUser, coes, coe, List.append, List.replicate, callOut, rootsL, AV.roots, lendsL, AV.lends, pinsOf, nodup, lendL, lend, closedB, noimmB, AV.noimm, AV.ren, renL, back, Nat.reduceAdd, Nat.reduceSub, Nat.reduceMul, Int.reduceToNat, reduceCtorEq, aLoad, subv, aIndexAddr, aIndex, TD.aggr, guardSlot, aPick, byte, word, aMin, aMax, Ax.Ends, EndsX, Ax.rvals, rone, AV.ids, idsL, newIds, upTo, pinHeap, gOf, ↓reduceIte, List.isEmpty, Int.reducePow, Nat.reducePow, Int.reduceMod, Nat.reduceLeDiff, Int.reduceLE, Int.reduceNe, Int.reduceEq, aBuildSlice, fillB, aAppend, appendB, viewB, Ax.look, Ax.put, Ax.drop, List.drop, List.take, asv, aMake, aCopy, srcB, fillG, viewG, appendG, appendI, fillI, aSlice, bnd, bnds, full3, cut, aFieldAddr, aField, aStore, setB, aBox, aBuild, fillS, allTy, AV.leaves, AV.okv, AV.leaf, one, splice, elemLeaves, Blk.size, Blk.len, Option.isSome, Option.isNone, isBytes, aStr, aNil, aAlloc, aExtract, viewI, Nat.reduceEqDiff, Nat.reduceLT, Nat.reduceBEq, List.contains, List.elem, Blk.closed, closedL, AV.closed, Blk.noimm, ↓gsplit_tt, ↓gsplit_ff, ↓gsplit_tf, ↓gsplit_ft, ↓csplit_t, ↓csplit_f, Ax.idx, AV.lentIds, lentIdsL, dropAll, givenUp, AV.clean, cleanL, Blk.clean, cleanB, quietC, flatTy, coldStr, notMs, eqV, eqF, isStruct, -coe, coe_w, coe_str, coe_agg, coe_tup, coe_sb, coe_si, coe_cp, coe_ms, coe_rf, coe_fn, coe_cons, ty, Sbget, newS, numS, rgetS, doneS, blayS4, beqS, rd, v1, v2, bav, emp_nil, List.map_nil, fillS]
            · have d2 : decide ((i : Int) < N5) = false := decide_eq_false (by omega)
              have hz : N5.toNat - i = 0 := by omega
              have hR : readN N5.toNat B.1 B.2 = some (qs, b, e) := by rw [hinv, hz]; simp [readN]
              rw [hR] at hget
              simp only at hget
              have hmL : (qs.map rv).length = i := by simp [hql]
              have hmL2 : (qs.map rv).length ≤ 9223372036854775807 := by omega
              have hex : ∃ rs : List Rec, qs.map rv = rs.map rv := ⟨qs, rfl⟩
              have hrr : (qs.map rv).map rrec = qs := map_rrec qs
              have hcl : closedL (qs.map rv) = true := closed_rv qs
              have hbE : batE N0 N1 N2 N3 N4 qs = bE ⟨N0, N1, N2, N3, N4, qs⟩ := rfl
              have hbB : batB N0 N1 N2 N3 N4 qs = bB ⟨N0, N1, N2, N3, N4, qs⟩ := rfl
              generalize hX : (⟨N0, N1, N2, N3, N4, qs⟩ : Bat) = X at *
              simp -implicitDefEqProofs only [evT, implies_true, forall_const, Option.getD, later_normal, aop, aLen, ev, slot, setSlot, putSlot, cv, cvl, aConv, aBin, aInt, aUn, aFn, aEq, Out.and, isBool, isPtr, List.length, IntKind.bits, evs, evo, evps, aCall, aUser, coes, coe, List.append, List.replicate, callOut, rootsL, AV.roots, lendsL, AV.lends, pinsOf, nodup, lendL, lend, closedB, noimmB, AV.noimm, AV.ren, renL, back, Nat.reduceAdd, Nat.reduceSub, Nat.reduceMul, Int.reduceToNat, reduceCtorEq, aLoad, subv, aIndexAddr, aIndex, TD.aggr, guardSlot, aPick, byte, word, aMin, aMax, Ax.Ends, EndsX, Ax.rvals, rone, AV.ids, idsL, newIds, upTo, pinHeap, gOf, ↓reduceIte, List.isEmpty, Int.reducePow, Nat.reducePow, Int.reduceMod, Nat.reduceLeDiff, Int.reduceLE, Int.reduceNe, Int.reduceEq, aBuildSlice, fillB, aAppend, appendB, viewB, Ax.look, Ax.put, Ax.drop, List.drop, List.take, asv, aMake, aCopy, srcB, fillG, viewG, appendG, appendI, fillI, aSlice, bnd, bnds, full3, cut, aFieldAddr, aField, aStore, setB, aBox, aBuild, fillS, allTy, AV.leaves, AV.okv, AV.leaf, one, splice, elemLeaves, Blk.size, Blk.len, Option.isSome, Option.isNone, isBytes, aStr, aNil, aAlloc, aExtract, viewI, Nat.reduceEqDiff, Nat.reduceLT, Nat.reduceBEq, List.contains, List.elem, Blk.closed, closedL, AV.closed, Blk.noimm, ↓gsplit_tt, ↓gsplit_ff, ↓gsplit_tf, ↓gsplit_ft, ↓csplit_t, ↓csplit_f, Ax.idx, AV.lentIds, lentIdsL, dropAll, givenUp, AV.clean, cleanL, Blk.clean, cleanB, quietC, flatTy, coldStr, notMs, eqV, eqF, isStruct, -coe, coe_w, coe_str, coe_agg, coe_tup, coe_sb, coe_si, coe_cp, coe_ms, coe_rf, coe_fn, coe_cons, ty, Sbget, newS, numS, rgetS, doneS, blayS4, beqS, rd, d2, hmL, hql]
              refine ⟨_, weak_fg 7 6 48 (qs.map rv) rfl (closed_rv qs) (by simp [slot, AV.ids]), ?_⟩
              simp only [fgL, fgH, AV.fg, Blk.fg, Nat.reduceBEq, cond_true, cond_false, hdle, Bool.and_true, beq_self_eq_true, Bool.true_and, List.drop_zero, htk]
              by_cases hd : e = 0 ∧ b = []
              · obtain ⟨rfl, rfl⟩ := hd
                have hdn : (if (0 : Int) = 0 ∧ 0 < ([] : List UInt8).length then (4 : Int) else 0) = 0 := by simp
                by_cases hE : bE X = 0
                · by_cases hBq : bB X = bs
                  · have hg : bget bs = some X := by rw [hget, if_pos ⟨rfl, rfl, hE, hBq⟩]
                    have v1 : bget0 bs = X := by unfold bget0; rw [hg]; rfl
                    have v2 : bgetE bs = 0 := by unfold bgetE; rw [hg]; rfl
                    have dq : decide (bB X = bs) = true := decide_eq_true hBq
                    rw [← hX] at v1
                    simp -implicitDefEqProofs only [evT, implies_true, forall_const, Option.getD, later_normal, aop, aLen, ev, slot, setSlot, putSlot, cv, cvl, aConv, aBin, aInt, aUn, aFn, aEq, Out.and, isBool, isPtr, List.length, IntKind.bits, evs, evo, evps, aCall, aUser, coes, coe, List.append, List.replicate, callOut, rootsL, AV.roots, lendsL, AV.lends, pinsOf, nodup, lendL, lend, closedB, noimmB, AV.noimm, AV.ren, renL, back, Nat.reduceAdd, Nat.reduceSub, Nat.reduceMul, Int.reduceToNat, reduceCtorEq, aLoad, subv, aIndexAddr, aIndex, TD.aggr, guardSlot, aPick, byte, word, aMin, aMax, Ax.Ends, EndsX, Ax.rvals, rone, AV.ids, idsL, newIds, upTo, pinHeap, gOf, ↓reduceIte, List.isEmpty, Int.reducePow, Nat.reducePow, Int.reduceMod, Nat.reduceLeDiff, Int.reduceLE, Int.reduceNe, Int.reduceEq, aBuildSlice, fillB, aAppend, appendB, viewB, Ax.look, Ax.put, Ax.drop, List.drop, List.take, asv, aMake, aCopy, srcB, fillG, viewG, appendG, appendI, fillI, aSlice, bnd, bnds, full3, cut, aFieldAddr, aField, aStore, setB, aBox, aBuild, fillS, allTy, AV.leaves, AV.okv, AV.leaf, one, splice, elemLeaves, Blk.size, Blk.len, Option.isSome, Option.isNone, isBytes, aStr, aNil, aAlloc, aExtract, viewI, Nat.reduceEqDiff, Nat.reduceLT, Nat.reduceBEq, List.contains, List.elem, Blk.closed, closedL, AV.closed, Blk.noimm, ↓gsplit_tt, ↓gsplit_ff, ↓gsplit_tf, ↓gsplit_ft, ↓csplit_t, ↓csplit_f, Ax.idx, AV.lentIds, lentIdsL, dropAll, givenUp, AV.clean, cleanL, Blk.clean, cleanB, quietC, flatTy, coldStr, notMs, eqV, eqF, isStruct, -coe, coe_w, coe_str, coe_agg, coe_tup, coe_sb, coe_si, coe_cp, coe_ms, coe_rf, coe_fn, coe_cons, ty, Sbget, newS, numS, rgetS, doneS, blayS4, beqS, rd, hdn, hmL, hmL2, hex, hrr, hcl, hbE, hbB, hE, dq, v1, v2, bav, List.map_nil, hie, hi3]
                  · have hg : bget bs = none := by rw [hget, if_neg (fun h => hBq h.2.2.2)]
                    have v1 : bget0 bs = ⟨0, 0, 0, 0, 0, []⟩ := by unfold bget0; rw [hg]; rfl
                    have v2 : bgetE bs = 4 := by unfold bgetE; rw [hg]; rfl
                    have dq : decide (bB X = bs) = false := decide_eq_false hBq
                    simp -implicitDefEqProofs only [evT, implies_true, forall_const, Option.getD, later_normal, aop, aLen, ev, slot, setSlot, putSlot, cv, cvl, aConv, aBin, aInt, aUn, aFn, aEq, Out.and, isBool, isPtr, List.length, IntKind.bits, evs, evo, evps, aCall, aUser, coes, coe, List.append, List.replicate, callOut, rootsL, AV.roots, lendsL, AV.lends, pinsOf, nodup, lendL, lend, closedB, noimmB, AV.noimm, AV.ren, renL, back, Nat.reduceAdd, Nat.reduceSub, Nat.reduceMul, Int.reduceToNat, reduceCtorEq, aLoad, subv, aIndexAddr, aIndex, TD.aggr, guardSlot, aPick, byte, word, aMin, aMax, Ax.Ends, EndsX, Ax.rvals, rone, AV.ids, idsL, newIds, upTo, pinHeap, gOf, ↓reduceIte, List.isEmpty, Int.reducePow, Nat.reducePow, Int.reduceMod, Nat.reduceLeDiff, Int.reduceLE, Int.reduceNe, Int.reduceEq, aBuildSlice, fillB, aAppend, appendB, viewB, Ax.look, Ax.put, Ax.drop, List.drop, List.take, asv, aMake, aCopy, srcB, fillG, viewG, appendG, appendI, fillI, aSlice, bnd, bnds, full3, cut, aFieldAddr, aField, aStore, setB, aBox, aBuild, fillS, allTy, AV.leaves, AV.okv, AV.leaf, one, splice, elemLeaves, Blk.size, Blk.len, Option.isSome, Option.isNone, isBytes, aStr, aNil, aAlloc, aExtract, viewI, Nat.reduceEqDiff, Nat.reduceLT, Nat.reduceBEq, List.contains, List.elem, Blk.closed, closedL, AV.closed, Blk.noimm, ↓gsplit_tt, ↓gsplit_ff, ↓gsplit_tf, ↓gsplit_ft, ↓csplit_t, ↓csplit_f, Ax.idx, AV.lentIds, lentIdsL, dropAll, givenUp, AV.clean, cleanL, Blk.clean, cleanB, quietC, flatTy, coldStr, notMs, eqV, eqF, isStruct, -coe, coe_w, coe_str, coe_agg, coe_tup, coe_sb, coe_si, coe_cp, coe_ms, coe_rf, coe_fn, coe_cons, ty, Sbget, newS, numS, rgetS, doneS, blayS4, beqS, rd, hdn, hmL, hmL2, hi3, hex, hrr, hcl, hbE, hbB, hE, dq, v1, v2, bav, emp_nil, List.map_nil, fillS]
                · have hg : bget bs = none := by rw [hget, if_neg (fun h => hE h.2.2.1)]
                  have v1 : bget0 bs = ⟨0, 0, 0, 0, 0, []⟩ := by unfold bget0; rw [hg]; rfl
                  have v2 : bgetE bs = 4 := by unfold bgetE; rw [hg]; rfl
                  have dE : decide (bE X = 0) = false := decide_eq_false hE
                  simp -implicitDefEqProofs only [evT, implies_true, forall_const, Option.getD, later_normal, aop, aLen, ev, slot, setSlot, putSlot, cv, cvl, aConv, aBin, aInt, aUn, aFn, aEq, Out.and, isBool, isPtr, List.length, IntKind.bits, evs, evo, evps, aCall, aUser, coes, coe, List.append, List.replicate, callOut, rootsL, AV.roots, lendsL, AV.lends, pinsOf, nodup, lendL, lend, closedB, noimmB, AV.noimm, AV.ren, renL, back, Nat.reduceAdd, Nat.reduceSub, Nat.reduceMul, Int.reduceToNat, reduceCtorEq, aLoad, subv, aIndexAddr, aIndex, TD.aggr, guardSlot, aPick, byte, word, aMin, aMax, Ax.Ends, EndsX, Ax.rvals, rone, AV.ids, idsL, newIds, upTo, pinHeap, gOf, ↓reduceIte, List.isEmpty, Int.reducePow, Nat.reducePow, Int.reduceMod, Nat.reduceLeDiff, Int.reduceLE, Int.reduceNe, Int.reduceEq, aBuildSlice, fillB, aAppend, appendB, viewB, Ax.look, Ax.put, Ax.drop, List.drop, List.take, asv, aMake, aCopy, srcB, fillG, viewG, appendG, appendI, fillI, aSlice, bnd, bnds, full3, cut, aFieldAddr, aField, aStore, setB, aBox, aBuild, fillS, allTy, AV.leaves, AV.okv, AV.leaf, one, splice, elemLeaves, Blk.size, Blk.len, Option.isSome, Option.isNone, isBytes, aStr, aNil, aAlloc, aExtract, viewI, Nat.reduceEqDiff, Nat.reduceLT, Nat.reduceBEq, List.contains, List.elem, Blk.closed, closedL, AV.closed, Blk.noimm, ↓gsplit_tt, ↓gsplit_ff, ↓gsplit_tf, ↓gsplit_ft, ↓csplit_t, ↓csplit_f, Ax.idx, AV.lentIds, lentIdsL, dropAll, givenUp, AV.clean, cleanL, Blk.clean, cleanB, quietC, flatTy, coldStr, notMs, eqV, eqF, isStruct, -coe, coe_w, coe_str, coe_agg, coe_tup, coe_sb, coe_si, coe_cp, coe_ms, coe_rf, coe_fn, coe_cons, ty, Sbget, newS, numS, rgetS, doneS, blayS4, beqS, rd, hdn, hmL, hmL2, hi3, hex, hrr, hcl, hbE, hbB, dE, v1, v2, bav, emp_nil, List.map_nil, fillS]
              · have hg : bget bs = none := by rw [hget, if_neg (fun h => hd ⟨h.1, h.2.1⟩)]
                have v1 : bget0 bs = ⟨0, 0, 0, 0, 0, []⟩ := by unfold bget0; rw [hg]; rfl
                have v2 : bgetE bs = 4 := by unfold bgetE; rw [hg]; rfl
                have hdn0 : (if e = 0 ∧ 0 < b.length then (4 : Int) else e) ≠ 0 := by
                  split
                  · decide
                  · rename_i h
                    intro he
                    exact hd ⟨he, List.eq_nil_of_length_eq_zero (by by_cases hbl : b.length = 0; exact hbl; exact (h ⟨he, by omega⟩).elim)⟩
                obtain ⟨D, hD⟩ : ∃ D, (if e = 0 ∧ 0 < b.length then (4 : Int) else e) = D := ⟨_, rfl⟩
                rw [hD] at hdn0
                have dD : decide (D = 0) = false := decide_eq_false hdn0
                simp -implicitDefEqProofs only [evT, implies_true, forall_const, Option.getD, later_normal, aop, aLen, ev, slot, setSlot, putSlot, cv, cvl, aConv, aBin, aInt, aUn, aFn, aEq, Out.and, isBool, isPtr, List.length, IntKind.bits, evs, evo, evps, aCall, aUser, coes, coe, List.append, List.replicate, callOut, rootsL, AV.roots, lendsL, AV.lends, pinsOf, nodup, lendL, lend, closedB, noimmB, AV.noimm, AV.ren, renL, back, Nat.reduceAdd, Nat.reduceSub, Nat.reduceMul, Int.reduceToNat, reduceCtorEq, aLoad, subv, aIndexAddr, aIndex, TD.aggr, guardSlot, aPick, byte, word, aMin, aMax, Ax.Ends, EndsX, Ax.rvals, rone, AV.ids, idsL, newIds, upTo, pinHeap, gOf, ↓reduceIte, List.isEmpty, Int.reducePow, Nat.reducePow, Int.reduceMod, Nat.reduceLeDiff, Int.reduceLE, Int.reduceNe, Int.reduceEq, aBuildSlice, fillB, aAppend, appendB, viewB, Ax.look, Ax.put, Ax.drop, List.drop, List.take, asv, aMake, aCopy, srcB, fillG, viewG, appendG, appendI, fillI, aSlice, bnd, bnds, full3, cut, aFieldAddr, aField, aStore, setB, aBox, aBuild, fillS, allTy, AV.leaves, AV.okv, AV.leaf, one, splice, elemLeaves, Blk.size, Blk.len, Option.isSome, Option.isNone, isBytes, aStr, aNil, aAlloc, aExtract, viewI, Nat.reduceEqDiff, Nat.reduceLT, Nat.reduceBEq, List.contains, List.elem, Blk.closed, closedL, AV.closed, Blk.noimm, ↓gsplit_tt, ↓gsplit_ff, ↓gsplit_tf, ↓gsplit_ft, ↓csplit_t, ↓csplit_f, Ax.idx, AV.lentIds, lentIdsL, dropAll, givenUp, AV.clean, cleanL, Blk.clean, cleanB, quietC, flatTy, coldStr, notMs, eqV, eqF, isStruct, -coe, coe_w, coe_str, coe_agg, coe_tup, coe_sb, coe_si, coe_cp, coe_ms, coe_rf, coe_fn, coe_cons, ty, Sbget, newS, numS, rgetS, doneS, blayS4, beqS, rd, hD, dD, v1, v2, bav, emp_nil, List.map_nil, fillS]
  · exact hp.elim
end
end Go.Proofs.Ythmkhlmohjcbgaa
