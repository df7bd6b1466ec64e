/- Layer 33: a key's places. -/
import Derived.Test.YthodcljimjglcaaS1
namespace Go.Proofs.Ythodcljimjglcaa
open Ax
set_option linter.unusedSimpArgs false
set_option linter.unusedVariables false

/-! places -/
def hA (h : BitVec 64) : Nat := h.toNat / 4294967296
def hB (h : BitVec 64) : Nat := h.toNat % 4294967296 / 2 * 2 + 1
def plN (h : BitVec 64) (l i : Nat) : Nat := (hA h + i * hB h) % 4294967296 % (8 * l)
def plL (h : BitVec 64) (l k : Nat) : List Int := (List.range k).map fun i => ((plN h l i : Nat) : Int)
def places (bs : List UInt8) (e n : Int) (key : List UInt8) : List Int := if okSet bs.length e n then plL (crcL key) bs.length e.toNat else []
theorem plL_succ (h : BitVec 64) (l k : Nat) : plL h l (k + 1) = plL h l k ++ [((plN h l k : Nat) : Int)] := by
  unfold plL; rw [List.range_succ, List.map_append]; rfl
theorem plL_len (h : BitVec 64) (l k : Nat) : (plL h l k).length = k := by unfold plL; simp
theorem or_one_nat (x : Nat) : x ||| 1 = x / 2 * 2 + 1 := by
  apply Nat.eq_of_testBit_eq
  intro i
  cases i with
  | zero =>
    rw [Nat.testBit_or, Nat.testBit_zero, Nat.testBit_zero, Nat.testBit_zero]
    have : (x / 2 * 2 + 1) % 2 = 1 := by omega
    rw [this]; exact Bool.or_true _
  | succ i =>
    rw [Nat.testBit_or, Nat.testBit_succ, Nat.testBit_succ, Nat.testBit_succ]
    have e1 : (x / 2 * 2 + 1) / 2 = x / 2 := by omega
    rw [e1, show (1 / 2 : Nat) = 0 from rfl, Nat.zero_testBit, Bool.or_false]
theorem hB_or (h : BitVec 64) : bits .or .u32 (ri h % 4294967296) 1 = ((hB h : Nat) : Int) := by
  have e : ri h % 4294967296 = ((h.toNat % 4294967296 : Nat) : Int) := by unfold ri; omega
  rw [e, show (1 : Int) = ((1 : Nat) : Int) from rfl, u32_or_nat _ _ (by omega) (by omega), or_one_nat]; rfl
theorem pl_int (C : BitVec 64) (l i : Nat) (h1 : 1 ≤ l) (h2 : l ≤ 4096) (hi : i < 16) :
    (((((hA C : Nat) : Int) + (i : Int) % 4294967296 * ((hB C : Nat) : Int) % 4294967296) % 4294967296).tmod ((8 * l : Nat) : Int) + 9223372036854775808) % 18446744073709551616 - 9223372036854775808 = ((plN C l i : Nat) : Int) := by
  have e1 : (i : Int) % 4294967296 = (i : Int) := by omega
  have e2 : (((hA C : Nat) : Int) + (i : Int) * ((hB C : Nat) : Int) % 4294967296) % 4294967296 = (((hA C + i * hB C) % 4294967296 : Nat) : Int) := by
    rw [Int.add_emod_emod, Int.natCast_emod, Int.natCast_add, Int.natCast_mul]; rfl
  rw [e1, e2, tmod_cast]
  have h3 : (hA C + i * hB C) % 4294967296 % (8 * l) < 8 * l := Nat.mod_lt _ (by omega)
  have h4 : plN C l i = (hA C + i * hB C) % 4294967296 % (8 * l) := rfl
  rw [h4]
  generalize (hA C + i * hB C) % 4294967296 % (8 * l) = q at h3 ⊢
  omega
theorem pl_int2 (C : BitVec 64) (l i : Nat) (h1 : 1 ≤ l) (h2 : l ≤ 4096) (hi : i < 16) :
    (((((hA C : Nat) : Int) + (i : Int) % 18446744073709551616 * ((hB C : Nat) : Int) % 18446744073709551616) % 18446744073709551616).tmod 4294967296).tmod ((8 * l : Nat) : Int) = ((plN C l i : Nat) : Int) := by
  have hA1 : hA C < 4294967296 := by unfold hA; have := C.isLt; omega
  have hB1 : hB C < 4294967296 := by unfold hB; omega
  have hm : i * hB C ≤ 16 * 4294967296 := Nat.mul_le_mul (by omega) (by omega)
  have e1 : (i : Int) % 18446744073709551616 = (i : Int) := by omega
  have e0 : (i : Int) * ((hB C : Nat) : Int) = ((i * hB C : Nat) : Int) := by push_cast; rfl
  rw [e1, e0]
  have h4 : plN C l i = (hA C + i * hB C) % 4294967296 % (8 * l) := rfl
  rw [h4]
  generalize hM : i * hB C = M at hm ⊢
  generalize hA C = A at hA1 ⊢
  have e2 : ((A : Int) + (M : Int) % 18446744073709551616) % 18446744073709551616 = ((A + M : Nat) : Int) := by omega
  rw [e2, show (4294967296 : Int) = ((4294967296 : Nat) : Int) from rfl, tmod_cast, tmod_cast]
def i1S (l : List Int) : AV := .ms 0 1 0 l.length
/-- Numbers that were made are told. -/
theorem i1_ends {T : Types} {sl : List AV} {H : Heap} {nx id n m : Nat} {ns rs : List Int} {q : Prop} (i : Nat) (h2 : slot sl i = .ms id 1 0 n) (hl : Ax.look H id = some (.i ns)) (hm : m = n) (hr : rs = ns) :
    EndsW T [.tmp i] [] ⟨q, .ms 0 1 0 m, [.i rs]⟩ .ret ⟨sl, H, nx⟩ := by
  subst hm hr
  refine ⟨_, Weak.refl _, ?_⟩
  simp [Ax.Ends, Ax.rvals, EndsX, rone, h2, AV.ids, idsL, newIds, upTo, nodup, pinsOf, hl, List.nil_append, List.append_nil, AV.ren, renL, gOf, Blk.closed]
theorem i1nil_ends {T : Types} {sl : List AV} {H : Heap} {nx m : Nat} {rs : List Int} {q : Prop} (i : Nat) (h2 : nilV (slot sl i)) (hi : i < sl.length) (hm : m = 0) (hr : rs = []) :
    EndsW T [.tmp i] [] ⟨q, .ms 0 1 0 m, [.i rs]⟩ .ret ⟨sl, H, nx⟩ := by
  subst hm hr
  obtain ⟨σ', h5, h6⟩ := i1_ends (T := T) (sl := setSlot sl i (.ms nx 1 0 0)) (H := Ax.put H nx (.i [])) (nx := nx + 1) (q := q) i (id := nx) (n := 0) (m := 0) (ns := []) (rs := []) (slot_set_same hi) (by simp [Ax.put, Ax.look]) rfl rfl
  exact ⟨σ', (weak_nil i 1 (.i []) rfl h2).trans h5, h6⟩
def placesS : FSpec
  | [.agg [.sb bs f, .w (.int .i64 e), .w (.int .i64 n)], .str key], [] => ⟨key.length ≤ 1000000 ∧ bs.length ≤ 9223372036854775807, .ms 0 1 0 (places bs e n key).length, [.i (places bs e n key)]⟩
  | _, _ => noRes
def Splaces (f : FuncId) : Option FSpec :=
  match f with
  | 17 => some chkSetS
  | 30 => some ofS
  | _ => none
theorem Splaces_ok : Fns Try.prog Splaces := by
  intro f s h
  unfold Splaces at h
  split at h
  · injection h with h; subst h; exact ⟨⟨_, Try.func17, by kernel_rfl, by kernel_rfl⟩, chkSet_sound⟩
  · injection h with h; subst h; exact ⟨⟨_, Try.func30, by kernel_rfl, by kernel_rfl⟩, of_sound⟩
  · cases h
def Srplaces (f : FuncId) : Option FSpec :=
  match f with
  | 18 => some chkSetS
  | 31 => some ofS
  | _ => none
theorem Srplaces_ok : Fns Try.prog Srplaces := by
  intro f s h
  unfold Srplaces at h
  split at h
  · injection h with h; subst h; exact ⟨⟨_, Try.func18, by kernel_rfl, by kernel_rfl⟩, rchkSet_sound⟩
  · injection h with h; subst h; exact ⟨⟨_, Try.func31, by kernel_rfl, by kernel_rfl⟩, rof_sound⟩
  · cases h
section
set_option maxRecDepth 100000
set_option maxHeartbeats 1000000 in
theorem places_sound : Sound Try.prog 10 placesS := by
  refine fn_soundW (S := Splaces) (T := ty) mixed ty_ok Splaces_ok Try.func10 (c := Try.f10.body.getD .skip) (by kernel_rfl) (by kernel_rfl) (fun xs pins hp _ => ?_)
  unfold placesS at hp ⊢
  split at hp
  · rename_i bs f e n key _
    obtain ⟨hk, hb⟩ := hp
    refine ⟨by simp, ?_⟩
    unfold Try.f10
    by_cases ho : okSet bs.length e n
    · have hv : chkB bs.length e n = 0 := if_pos ho
      have hpl : places bs e n key = plL (crcL key) bs.length e.toNat := if_pos ho
      rw [hpl]
      obtain ⟨h1, h2, h3, h4, h5, h6⟩ := ho
      have ekt : List.take key.length key = key := List.take_length
      have p32 : (2 : Int) ^ 32 = 4294967296 := by decide
      obtain ⟨C, hC⟩ : ∃ C, crcL key = C := ⟨_, rfl⟩
      have hCr := ri_range C
      have eA : ri C / 4294967296 % 4294967296 = ((hA C : Nat) : Int) := by unfold hA; have : ri C = (C.toNat : Int) := rfl; omega
      have eB := hB_or C
      have eL : ((8 * (bs.length : Int) + 9223372036854775808) % 18446744073709551616 - 9223372036854775808) % 4294967296 = ((8 * bs.length : Nat) : Int) := by clear hCr eA eB hC; generalize bs.length = l at h1 h2 ⊢; omega
      simp -implicitDefEqProofs only [evT, implies_true, forall_const, Option.getD, later_normal, aop, aLen, ev, slot, setSlot, putSlot, cv, cvl, aConv, aBin, aInt, aUn, aFn, aEq, Out.and, isBool, isPtr, List.length, IntKind.bits, evs, evo, evps, aCall, aUser, coes, coe, List.append, List.replicate, callOut, rootsL, AV.roots, lendsL, AV.lends, pinsOf, nodup, lendL, lend, closedB, noimmB, AV.noimm, AV.ren, renL, back, Nat.reduceAdd, Nat.reduceSub, Nat.reduceMul, Int.reduceToNat, reduceCtorEq, aLoad, subv, aIndexAddr, aIndex, TD.aggr, guardSlot, aPick, byte, word, aMin, aMax, Ax.Ends, EndsX, Ax.rvals, rone, AV.ids, idsL, newIds, upTo, pinHeap, gOf, ↓reduceIte, List.isEmpty, Int.reducePow, Nat.reducePow, Int.reduceMod, Nat.reduceLeDiff, Int.reduceLE, Int.reduceNe, Int.reduceEq, aBuildSlice, fillB, aAppend, appendB, viewB, Ax.look, Ax.put, Ax.drop, List.drop, List.take, asv, aMake, aCopy, srcB, fillG, viewG, appendG, appendI, fillI, aSlice, bnd, bnds, full3, cut, aFieldAddr, aField, aStore, setB, aBox, aBuild, fillS, allTy, AV.leaves, AV.okv, AV.leaf, one, splice, elemLeaves, Blk.size, Blk.len, Option.isSome, Option.isNone, isBytes, aStr, aNil, aAlloc, aExtract, viewI, Nat.reduceEqDiff, Nat.reduceLT, Nat.reduceBEq, List.contains, List.elem, Blk.closed, closedL, AV.closed, Blk.noimm, ↓gsplit_tt, ↓gsplit_ff, ↓gsplit_tf, ↓gsplit_ft, ↓csplit_t, ↓csplit_f, Ax.idx, AV.lentIds, lentIdsL, dropAll, givenUp, AV.clean, cleanL, Blk.clean, cleanB, quietC, flatTy, coldStr, notMs, eqV, eqF, isStruct, -coe, coe_w, coe_str, coe_agg, coe_tup, coe_sb, coe_si, coe_cp, coe_ms, coe_rf, coe_fn, coe_cons, ty, Splaces, chkSetS, ofS, hv, hC, hk, ekt, p32, IntKind.wrap_u32, eA, eB, eL]
      refine And.intro (by omega) ?_
      refine awp_loop ⟨fun m σ => ∃ i : Nat, m = e.toNat - i ∧ i ≤ e.toNat ∧
          σ = ⟨[.agg [.sb bs f, .w (.int .i64 e), .w (.int .i64 n)], .str key, .rf 4 3 0 0, .junk, .junk, .junk, .w (.int .u32 (hA C : Nat)), .w (.int .u32 (hB C : Nat)), .w (.int .u32 (8 * bs.length : Nat)), .ms 5 1 0 i, .junk, .junk, .junk, .junk, .junk, .junk, .junk, .junk, .junk, .junk, .junk, .junk, .junk, .junk, .junk, .junk, .junk, .junk, .junk, .w (.int .i64 e), .w (.int .i64 i), .junk, .junk, .junk, .junk, .junk, .junk, .junk, .junk, .junk, .junk, .junk, .junk, .junk, .junk, .junk, .junk], [(4, .g 3 [.agg [.sb bs f, .w (.int .i64 e), .w (.int .i64 n)]]), (5, .i (plL C bs.length i))], 6⟩, ?_, ?_⟩
      · refine ⟨_, _, (weak_nil 9 1 (.i []) rfl (by exact trivial)).trans (weak_ren [0, 1, 2, 3, 4, 220] rfl rfl rfl ?_ ?_), 0, rfl, by omega, rfl⟩
        · simp only [SameS, SameH, setSlot, gOf, AV.ren, renL, Blk.ren, Ax.look, Ax.put, reduceCtorEq, true_or, false_or, or_true, or_false, and_true, true_and, AV.w.injEq, Value.int.injEq, Value.bool.injEq, AV.ms.injEq, AV.sb.injEq, AV.str.injEq, ↓reduceIte, Nat.reduceEqDiff, Nat.reduceLT, List.length_append, List.length_cons, List.length_nil, Nat.zero_add, Nat.add_zero, Option.some.injEq, Blk.b.injEq, Blk.i.injEq, Nat.succ_ne_zero, Nat.reduceAdd, and_self]; try simp; try rfl
        · simp only [SameS, SameH, setSlot, gOf, AV.ren, renL, Blk.ren, Ax.look, Ax.put, reduceCtorEq, true_or, false_or, or_true, or_false, and_true, true_and, AV.w.injEq, Value.int.injEq, Value.bool.injEq, AV.ms.injEq, AV.sb.injEq, AV.str.injEq, ↓reduceIte, Nat.reduceEqDiff, Nat.reduceLT, List.length_append, List.length_cons, List.length_nil, Nat.zero_add, Nat.add_zero, Option.some.injEq, Blk.b.injEq, Blk.i.injEq, Nat.succ_ne_zero, Nat.reduceAdd, and_self]; try simp; try rfl
      · rintro m σ ⟨i, rfl, hi, rfl⟩
        by_cases hil : i < e.toNat
        · have d2 : decide ((i : Int) < e) = true := decide_eq_true (by omega)
          have e1 : ((i : Int) + 1 + 9223372036854775808) % 18446744073709551616 - 9223372036854775808 = ((i + 1 : Nat) : Int) := by omega
          have hsu := plL_succ C bs.length i
          have hll := plL_len C bs.length i
          have hpi := pl_int C bs.length i h1 h2 (by omega)
          simp -implicitDefEqProofs only [evT, implies_true, forall_const, Option.getD, later_normal, aop, aLen, ev, slot, setSlot, putSlot, cv, cvl, aConv, aBin, aInt, aUn, aFn, aEq, Out.and, isBool, isPtr, List.length, IntKind.bits, evs, evo, evps, aCall, aUser, coes, coe, List.append, List.replicate, callOut, rootsL, AV.roots, lendsL, AV.lends, pinsOf, nodup, lendL, lend, closedB, noimmB, AV.noimm, AV.ren, renL, back, Nat.reduceAdd, Nat.reduceSub, Nat.reduceMul, Int.reduceToNat, reduceCtorEq, aLoad, subv, aIndexAddr, aIndex, TD.aggr, guardSlot, aPick, byte, word, aMin, aMax, Ax.Ends, EndsX, Ax.rvals, rone, AV.ids, idsL, newIds, upTo, pinHeap, gOf, ↓reduceIte, List.isEmpty, Int.reducePow, Nat.reducePow, Int.reduceMod, Nat.reduceLeDiff, Int.reduceLE, Int.reduceNe, Int.reduceEq, aBuildSlice, fillB, aAppend, appendB, viewB, Ax.look, Ax.put, Ax.drop, List.drop, List.take, asv, aMake, aCopy, srcB, fillG, viewG, appendG, appendI, fillI, aSlice, bnd, bnds, full3, cut, aFieldAddr, aField, aStore, setB, aBox, aBuild, fillS, allTy, AV.leaves, AV.okv, AV.leaf, one, splice, elemLeaves, Blk.size, Blk.len, Option.isSome, Option.isNone, isBytes, aStr, aNil, aAlloc, aExtract, viewI, Nat.reduceEqDiff, Nat.reduceLT, Nat.reduceBEq, List.contains, List.elem, Blk.closed, closedL, AV.closed, Blk.noimm, ↓gsplit_tt, ↓gsplit_ff, ↓gsplit_tf, ↓gsplit_ft, ↓csplit_t, ↓csplit_f, Ax.idx, AV.lentIds, lentIdsL, dropAll, givenUp, AV.clean, cleanL, Blk.clean, cleanB, quietC, flatTy, coldStr, notMs, eqV, eqF, isStruct, -coe, coe_w, coe_str, coe_agg, coe_tup, coe_sb, coe_si, coe_cp, coe_ms, coe_rf, coe_fn, coe_cons, ty, Splaces, d2, e1, hll, IntKind.wrap_u32, Int.toNat_natCast]
          refine ⟨by omega, by unfold top; omega, e.toNat - (i + 1), _, by omega, weak_ren [0, 1, 2, 3, 4, 118] rfl rfl rfl ?_ ?_, i + 1, rfl, by omega, rfl⟩
          · simp only [SameS, SameH, setSlot, gOf, AV.ren, renL, Blk.ren, Ax.look, Ax.put, reduceCtorEq, true_or, false_or, or_true, or_false, and_true, true_and, AV.w.injEq, Value.int.injEq, Value.bool.injEq, AV.ms.injEq, AV.sb.injEq, AV.str.injEq, ↓reduceIte, Nat.reduceEqDiff, Nat.reduceLT, List.length_append, List.length_cons, List.length_nil, Nat.zero_add, Nat.add_zero, Option.some.injEq, Blk.b.injEq, Blk.i.injEq, Nat.succ_ne_zero, Nat.reduceAdd, and_self]
          · simp only [SameS, SameH, setSlot, gOf, AV.ren, renL, Blk.ren, Ax.look, Ax.put, reduceCtorEq, true_or, false_or, or_true, or_false, and_true, true_and, AV.w.injEq, Value.int.injEq, Value.bool.injEq, AV.ms.injEq, AV.sb.injEq, AV.str.injEq, ↓reduceIte, Nat.reduceEqDiff, Nat.reduceLT, List.length_append, List.length_cons, List.length_nil, Nat.zero_add, Nat.add_zero, Option.some.injEq, Blk.b.injEq, Blk.i.injEq, Nat.succ_ne_zero, Nat.reduceAdd, and_self, hpi, hsu]
        · have d2 : decide ((i : Int) < e) = false := decide_eq_false (by omega)
          have hie : i = e.toNat := by omega
          subst hie
          simp -implicitDefEqProofs only [evT, implies_true, forall_const, Option.getD, later_normal, aop, aLen, ev, slot, setSlot, putSlot, cv, cvl, aConv, aBin, aInt, aUn, aFn, aEq, Out.and, isBool, isPtr, List.length, IntKind.bits, evs, evo, evps, aCall, aUser, coes, coe, List.append, List.replicate, callOut, rootsL, AV.roots, lendsL, AV.lends, pinsOf, nodup, lendL, lend, closedB, noimmB, AV.noimm, AV.ren, renL, back, Nat.reduceAdd, Nat.reduceSub, Nat.reduceMul, Int.reduceToNat, reduceCtorEq, aLoad, subv, aIndexAddr, aIndex, TD.aggr, guardSlot, aPick, byte, word, aMin, aMax, Ax.Ends, EndsX, Ax.rvals, rone, AV.ids, idsL, newIds, upTo, pinHeap, gOf, ↓reduceIte, List.isEmpty, Int.reducePow, Nat.reducePow, Int.reduceMod, Nat.reduceLeDiff, Int.reduceLE, Int.reduceNe, Int.reduceEq, aBuildSlice, fillB, aAppend, appendB, viewB, Ax.look, Ax.put, Ax.drop, List.drop, List.take, asv, aMake, aCopy, srcB, fillG, viewG, appendG, appendI, fillI, aSlice, bnd, bnds, full3, cut, aFieldAddr, aField, aStore, setB, aBox, aBuild, fillS, allTy, AV.leaves, AV.okv, AV.leaf, one, splice, elemLeaves, Blk.size, Blk.len, Option.isSome, Option.isNone, isBytes, aStr, aNil, aAlloc, aExtract, viewI, Nat.reduceEqDiff, Nat.reduceLT, Nat.reduceBEq, List.contains, List.elem, Blk.closed, closedL, AV.closed, Blk.noimm, ↓gsplit_tt, ↓gsplit_ff, ↓gsplit_tf, ↓gsplit_ft, ↓csplit_t, ↓csplit_f, Ax.idx, AV.lentIds, lentIdsL, dropAll, givenUp, AV.clean, cleanL, Blk.clean, cleanB, quietC, flatTy, coldStr, notMs, eqV, eqF, isStruct, -coe, coe_w, coe_str, coe_agg, coe_tup, coe_sb, coe_si, coe_cp, coe_ms, coe_rf, coe_fn, coe_cons, ty, Splaces, d2]
          exact i1_ends 4 rfl rfl (plL_len _ _ _) rfl
    · have hv : chkB bs.length e n = 11 := if_neg ho
      have hpl : places bs e n key = [] := if_neg ho
      simp -implicitDefEqProofs only [evT, implies_true, forall_const, Option.getD, later_normal, aop, aLen, ev, slot, setSlot, putSlot, cv, cvl, aConv, aBin, aInt, aUn, aFn, aEq, Out.and, isBool, isPtr, List.length, IntKind.bits, evs, evo, evps, aCall, aUser, coes, coe, List.append, List.replicate, callOut, rootsL, AV.roots, lendsL, AV.lends, pinsOf, nodup, lendL, lend, closedB, noimmB, AV.noimm, AV.ren, renL, back, Nat.reduceAdd, Nat.reduceSub, Nat.reduceMul, Int.reduceToNat, reduceCtorEq, aLoad, subv, aIndexAddr, aIndex, TD.aggr, guardSlot, aPick, byte, word, aMin, aMax, Ax.Ends, EndsX, Ax.rvals, rone, AV.ids, idsL, newIds, upTo, pinHeap, gOf, ↓reduceIte, List.isEmpty, Int.reducePow, Nat.reducePow, Int.reduceMod, Nat.reduceLeDiff, Int.reduceLE, Int.reduceNe, Int.reduceEq, aBuildSlice, fillB, aAppend, appendB, viewB, Ax.look, Ax.put, Ax.drop, List.drop, List.take, asv, aMake, aCopy, srcB, fillG, viewG, appendG, appendI, fillI, aSlice, bnd, bnds, full3, cut, aFieldAddr, aField, aStore, setB, aBox, aBuild, fillS, allTy, AV.leaves, AV.okv, AV.leaf, one, splice, elemLeaves, Blk.size, Blk.len, Option.isSome, Option.isNone, isBytes, aStr, aNil, aAlloc, aExtract, viewI, Nat.reduceEqDiff, Nat.reduceLT, Nat.reduceBEq, List.contains, List.elem, Blk.closed, closedL, AV.closed, Blk.noimm, ↓gsplit_tt, ↓gsplit_ff, ↓gsplit_tf, ↓gsplit_ft, ↓csplit_t, ↓csplit_f, Ax.idx, AV.lentIds, lentIdsL, dropAll, givenUp, AV.clean, cleanL, Blk.clean, cleanB, quietC, flatTy, coldStr, notMs, eqV, eqF, isStruct, -coe, coe_w, coe_str, coe_agg, coe_tup, coe_sb, coe_si, coe_cp, coe_ms, coe_rf, coe_fn, coe_cons, ty, Splaces, chkSetS, hv]
      exact i1nil_ends 4 (by exact trivial) (by simp) (by rw [hpl]; rfl) hpl
  · exact hp.elim
set_option maxHeartbeats 1000000 in
theorem rplaces_sound : Sound Try.prog 11 placesS := by
  refine fn_soundW (S := Srplaces) (T := ty) mixed ty_ok Srplaces_ok Try.func11 (c := Try.f11.body.getD .skip) (by kernel_rfl) (by kernel_rfl) (fun xs pins hp _ => ?_)
  unfold placesS at hp ⊢
  split at hp
  · rename_i bs f e n key _
    obtain ⟨hk, hb⟩ := hp
    refine ⟨by simp, ?_⟩
    unfold Try.f11
    by_cases ho : okSet bs.length e n
    · have hv : chkB bs.length e n = 0 := if_pos ho
      have hpl : places bs e n key = plL (crcL key) bs.length e.toNat := if_pos ho
      rw [hpl]
      obtain ⟨h1, h2, h3, h4, h5, h6⟩ := ho
      have ekt : List.take key.length key = key := List.take_length
      obtain ⟨C, hC⟩ : ∃ C, crcL key = C := ⟨_, rfl⟩
      have hCr := ri_range C
      have eA : (ri C).tdiv 4294967296 % 18446744073709551616 = ((hA C : Nat) : Int) := by
        rw [Int.tdiv_eq_ediv_of_nonneg (by omega)]; unfold hA; have : ri C = (C.toNat : Int) := rfl; omega
      have eR : (ri C).tmod 4294967296 = ((C.toNat % 4294967296 : Nat) : Int) := by
        rw [Int.tmod_eq_emod_of_nonneg (by omega)]; have : ri C = (C.toNat : Int) := rfl; omega
      have eL : ((8 * (bs.length : Int) + 9223372036854775808) % 18446744073709551616 - 9223372036854775808) % 18446744073709551616 = ((8 * bs.length : Nat) : Int) := by
        clear hCr eA eR hC; generalize bs.length = l at h1 h2 ⊢; omega
      have hD : (decide ((((C.toNat % 4294967296 : Nat) : Int)).tmod 2 = 0) = true ∧ (((C.toNat % 4294967296 : Nat) : Int) + 1) % 18446744073709551616 = ((hB C : Nat) : Int)) ∨ (decide (((hB C : Nat) : Int).tmod 2 = 0) = false ∧ ((C.toNat % 4294967296 : Nat) : Int) = ((hB C : Nat) : Int)) := by
        rw [show (2 : Int) = ((2 : Nat) : Int) from rfl, tmod_cast, tmod_cast]
        unfold hB
        by_cases hpar : C.toNat % 4294967296 % 2 = 0
        · exact .inl ⟨decide_eq_true (by omega), by omega⟩
        · exact .inr ⟨decide_eq_false (by omega), by omega⟩
      rcases hD with D | D
      all_goals simp -implicitDefEqProofs only [evT, implies_true, forall_const, Option.getD, later_normal, aop, aLen, ev, slot, setSlot, putSlot, cv, cvl, aConv, aBin, aInt, aUn, aFn, aEq, Out.and, isBool, isPtr, List.length, IntKind.bits, evs, evo, evps, aCall, aUser, coes, coe, List.append, List.replicate, callOut, rootsL, AV.roots, lendsL, AV.lends, pinsOf, nodup, lendL, lend, closedB, noimmB, AV.noimm, AV.ren, renL, back, Nat.reduceAdd, Nat.reduceSub, Nat.reduceMul, Int.reduceToNat, reduceCtorEq, aLoad, subv, aIndexAddr, aIndex, TD.aggr, guardSlot, aPick, byte, word, aMin, aMax, Ax.Ends, EndsX, Ax.rvals, rone, AV.ids, idsL, newIds, upTo, pinHeap, gOf, ↓reduceIte, List.isEmpty, Int.reducePow, Nat.reducePow, Int.reduceMod, Nat.reduceLeDiff, Int.reduceLE, Int.reduceNe, Int.reduceEq, aBuildSlice, fillB, aAppend, appendB, viewB, Ax.look, Ax.put, Ax.drop, List.drop, List.take, asv, aMake, aCopy, srcB, fillG, viewG, appendG, appendI, fillI, aSlice, bnd, bnds, full3, cut, aFieldAddr, aField, aStore, setB, aBox, aBuild, fillS, allTy, AV.leaves, AV.okv, AV.leaf, one, splice, elemLeaves, Blk.size, Blk.len, Option.isSome, Option.isNone, isBytes, aStr, aNil, aAlloc, aExtract, viewI, Nat.reduceEqDiff, Nat.reduceLT, Nat.reduceBEq, List.contains, List.elem, Blk.closed, closedL, AV.closed, Blk.noimm, ↓gsplit_tt, ↓gsplit_ff, ↓gsplit_tf, ↓gsplit_ft, ↓csplit_t, ↓csplit_f, Ax.idx, AV.lentIds, lentIdsL, dropAll, givenUp, AV.clean, cleanL, Blk.clean, cleanB, quietC, flatTy, coldStr, notMs, eqV, eqF, isStruct, -coe, coe_w, coe_str, coe_agg, coe_tup, coe_sb, coe_si, coe_cp, coe_ms, coe_rf, coe_fn, coe_cons, ty, Srplaces, chkSetS, ofS, hv, hC, hk, ekt, eA, eR, D]
      all_goals refine And.intro (by omega) ?_
      all_goals refine awp_loop ⟨fun m σ => ∃ i : Nat, m = e.toNat - i ∧ i ≤ e.toNat ∧
          σ = ⟨[.agg [.sb bs f, .w (.int .i64 e), .w (.int .i64 n)], .str key, .rf 4 3 0 0, .junk, .junk, .junk, .w (.int .u64 (hA C : Nat)), .w (.int .u64 (hB C : Nat)), .ms 5 1 0 i, .w (.int .i64 i), .junk, .junk, .junk, .junk, .junk, .junk, .junk, .junk, .junk, .junk, .junk, .junk, .junk, .junk, .junk, .junk, .junk, .junk, .junk, .junk, .junk, .junk, .junk, .junk, .junk, .junk, .junk, .junk, .junk, .junk, .junk, .junk, .junk, .junk, .junk, .junk, .junk, .junk, .junk, .junk, .junk], [(4, .g 3 [.agg [.sb bs f, .w (.int .i64 e), .w (.int .i64 n)]]), (5, .i (plL C bs.length i))], 6⟩, ?_, ?_⟩
      all_goals first
        | (refine ⟨_, _, (weak_nil 8 1 (.i []) rfl (by exact trivial)).trans (weak_ren [0, 1, 2, 3, 4, 188] rfl rfl rfl ?_ ?_), 0, rfl, by omega, rfl⟩
           · simp only [SameS, SameH, setSlot, gOf, AV.ren, renL, Blk.ren, Ax.look, Ax.put, reduceCtorEq, true_or, false_or, or_true, or_false, and_true, true_and, AV.w.injEq, Value.int.injEq, Value.bool.injEq, AV.ms.injEq, AV.sb.injEq, AV.str.injEq, ↓reduceIte, Nat.reduceEqDiff, Nat.reduceLT, List.length_append, List.length_cons, List.length_nil, Nat.zero_add, Nat.add_zero, Option.some.injEq, Blk.b.injEq, Blk.i.injEq, Nat.succ_ne_zero, Nat.reduceAdd, and_self]; try simp; try rfl
           · simp only [SameS, SameH, setSlot, gOf, AV.ren, renL, Blk.ren, Ax.look, Ax.put, reduceCtorEq, true_or, false_or, or_true, or_false, and_true, true_and, AV.w.injEq, Value.int.injEq, Value.bool.injEq, AV.ms.injEq, AV.sb.injEq, AV.str.injEq, ↓reduceIte, Nat.reduceEqDiff, Nat.reduceLT, List.length_append, List.length_cons, List.length_nil, Nat.zero_add, Nat.add_zero, Option.some.injEq, Blk.b.injEq, Blk.i.injEq, Nat.succ_ne_zero, Nat.reduceAdd, and_self]; try simp; try rfl)
        | (refine ⟨_, _, (weak_nil 8 1 (.i []) rfl (by exact trivial)).trans (weak_ren [0, 1, 2, 3, 4, 164] rfl rfl rfl ?_ ?_), 0, rfl, by omega, rfl⟩
           · simp only [SameS, SameH, setSlot, gOf, AV.ren, renL, Blk.ren, Ax.look, Ax.put, reduceCtorEq, true_or, false_or, or_true, or_false, and_true, true_and, AV.w.injEq, Value.int.injEq, Value.bool.injEq, AV.ms.injEq, AV.sb.injEq, AV.str.injEq, ↓reduceIte, Nat.reduceEqDiff, Nat.reduceLT, List.length_append, List.length_cons, List.length_nil, Nat.zero_add, Nat.add_zero, Option.some.injEq, Blk.b.injEq, Blk.i.injEq, Nat.succ_ne_zero, Nat.reduceAdd, and_self]; try simp; try rfl
           · simp only [SameS, SameH, setSlot, gOf, AV.ren, renL, Blk.ren, Ax.look, Ax.put, reduceCtorEq, true_or, false_or, or_true, or_false, and_true, true_and, AV.w.injEq, Value.int.injEq, Value.bool.injEq, AV.ms.injEq, AV.sb.injEq, AV.str.injEq, ↓reduceIte, Nat.reduceEqDiff, Nat.reduceLT, List.length_append, List.length_cons, List.length_nil, Nat.zero_add, Nat.add_zero, Option.some.injEq, Blk.b.injEq, Blk.i.injEq, Nat.succ_ne_zero, Nat.reduceAdd, and_self]; try simp; try rfl)
        | (rintro m σ ⟨i, rfl, hi, rfl⟩
           by_cases hil : i < e.toNat
           · have d2 : decide ((i : Int) < e) = true := decide_eq_true (by omega)
             have e1 : ((i : Int) + 1 + 9223372036854775808) % 18446744073709551616 - 9223372036854775808 = ((i + 1 : Nat) : Int) := by omega
             have hsu := plL_succ C bs.length i
             have hll := plL_len C bs.length i
             have hpi := pl_int2 C bs.length i h1 h2 (by omega)
             have hpi2 : (((plN C bs.length i : Nat) : Int) + 9223372036854775808) % 18446744073709551616 - 9223372036854775808 = ((plN C bs.length i : Nat) : Int) := by
               have h3 : plN C bs.length i < 8 * bs.length := Nat.mod_lt _ (by omega)
               clear hpi hsu hll D; generalize plN C bs.length i = q at h3 ⊢; omega
             simp -implicitDefEqProofs only [evT, implies_true, forall_const, Option.getD, later_normal, aop, aLen, ev, slot, setSlot, putSlot, cv, cvl, aConv, aBin, aInt, aUn, aFn, aEq, Out.and, isBool, isPtr, List.length, IntKind.bits, evs, evo, evps, aCall, aUser, coes, coe, List.append, List.replicate, callOut, rootsL, AV.roots, lendsL, AV.lends, pinsOf, nodup, lendL, lend, closedB, noimmB, AV.noimm, AV.ren, renL, back, Nat.reduceAdd, Nat.reduceSub, Nat.reduceMul, Int.reduceToNat, reduceCtorEq, aLoad, subv, aIndexAddr, aIndex, TD.aggr, guardSlot, aPick, byte, word, aMin, aMax, Ax.Ends, EndsX, Ax.rvals, rone, AV.ids, idsL, newIds, upTo, pinHeap, gOf, ↓reduceIte, List.isEmpty, Int.reducePow, Nat.reducePow, Int.reduceMod, Nat.reduceLeDiff, Int.reduceLE, Int.reduceNe, Int.reduceEq, aBuildSlice, fillB, aAppend, appendB, viewB, Ax.look, Ax.put, Ax.drop, List.drop, List.take, asv, aMake, aCopy, srcB, fillG, viewG, appendG, appendI, fillI, aSlice, bnd, bnds, full3, cut, aFieldAddr, aField, aStore, setB, aBox, aBuild, fillS, allTy, AV.leaves, AV.okv, AV.leaf, one, splice, elemLeaves, Blk.size, Blk.len, Option.isSome, Option.isNone, isBytes, aStr, aNil, aAlloc, aExtract, viewI, Nat.reduceEqDiff, Nat.reduceLT, Nat.reduceBEq, List.contains, List.elem, Blk.closed, closedL, AV.closed, Blk.noimm, ↓gsplit_tt, ↓gsplit_ff, ↓gsplit_tf, ↓gsplit_ft, ↓csplit_t, ↓csplit_f, Ax.idx, AV.lentIds, lentIdsL, dropAll, givenUp, AV.clean, cleanL, Blk.clean, cleanB, quietC, flatTy, coldStr, notMs, eqV, eqF, isStruct, -coe, coe_w, coe_str, coe_agg, coe_tup, coe_sb, coe_si, coe_cp, coe_ms, coe_rf, coe_fn, coe_cons, ty, Srplaces, d2, e1, hll, eL, hpi, hpi2, Int.toNat_natCast]
             refine ⟨by omega, by unfold top; omega, e.toNat - (i + 1), _, by omega, weak_ren [0, 1, 2, 3, 4, 182] rfl rfl rfl ?_ ?_, i + 1, rfl, by omega, rfl⟩
             · simp only [SameS, SameH, setSlot, gOf, AV.ren, renL, Blk.ren, Ax.look, Ax.put, reduceCtorEq, true_or, false_or, or_true, or_false, and_true, true_and, AV.w.injEq, Value.int.injEq, Value.bool.injEq, AV.ms.injEq, AV.sb.injEq, AV.str.injEq, ↓reduceIte, Nat.reduceEqDiff, Nat.reduceLT, List.length_append, List.length_cons, List.length_nil, Nat.zero_add, Nat.add_zero, Option.some.injEq, Blk.b.injEq, Blk.i.injEq, Nat.succ_ne_zero, Nat.reduceAdd, and_self]
             · simp only [SameS, SameH, setSlot, gOf, AV.ren, renL, Blk.ren, Ax.look, Ax.put, reduceCtorEq, true_or, false_or, or_true, or_false, and_true, true_and, AV.w.injEq, Value.int.injEq, Value.bool.injEq, AV.ms.injEq, AV.sb.injEq, AV.str.injEq, ↓reduceIte, Nat.reduceEqDiff, Nat.reduceLT, List.length_append, List.length_cons, List.length_nil, Nat.zero_add, Nat.add_zero, Option.some.injEq, Blk.b.injEq, Blk.i.injEq, Nat.succ_ne_zero, Nat.reduceAdd, and_self, hsu]
           · have d2 : decide ((i : Int) < e) = false := decide_eq_false (by omega)
             have hie : i = e.toNat := by omega
             subst hie
             simp -implicitDefEqProofs only [evT, implies_true, forall_const, Option.getD, later_normal, aop, aLen, ev, slot, setSlot, putSlot, cv, cvl, aConv, aBin, aInt, aUn, aFn, aEq, Out.and, isBool, isPtr, List.length, IntKind.bits, evs, evo, evps, aCall, aUser, coes, coe, List.append, List.replicate, callOut, rootsL, AV.roots, lendsL, AV.lends, pinsOf, nodup, lendL, lend, closedB, noimmB, AV.noimm, AV.ren, renL, back, Nat.reduceAdd, Nat.reduceSub, Nat.reduceMul, Int.reduceToNat, reduceCtorEq, aLoad, subv, aIndexAddr, aIndex, TD.aggr, guardSlot, aPick, byte, word, aMin, aMax, Ax.Ends, EndsX, Ax.rvals, rone, AV.ids, idsL, newIds, upTo, pinHeap, gOf, ↓reduceIte, List.isEmpty, Int.reducePow, Nat.reducePow, Int.reduceMod, Nat.reduceLeDiff, Int.reduceLE, Int.reduceNe, Int.reduceEq, aBuildSlice, fillB, aAppend, appendB, viewB, Ax.look, Ax.put, Ax.drop, List.drop, List.take, asv, aMake, aCopy, srcB, fillG, viewG, appendG, appendI, fillI, aSlice, bnd, bnds, full3, cut, aFieldAddr, aField, aStore, setB, aBox, aBuild, fillS, allTy, AV.leaves, AV.okv, AV.leaf, one, splice, elemLeaves, Blk.size, Blk.len, Option.isSome, Option.isNone, isBytes, aStr, aNil, aAlloc, aExtract, viewI, Nat.reduceEqDiff, Nat.reduceLT, Nat.reduceBEq, List.contains, List.elem, Blk.closed, closedL, AV.closed, Blk.noimm, ↓gsplit_tt, ↓gsplit_ff, ↓gsplit_tf, ↓gsplit_ft, ↓csplit_t, ↓csplit_f, Ax.idx, AV.lentIds, lentIdsL, dropAll, givenUp, AV.clean, cleanL, Blk.clean, cleanB, quietC, flatTy, coldStr, notMs, eqV, eqF, isStruct, -coe, coe_w, coe_str, coe_agg, coe_tup, coe_sb, coe_si, coe_cp, coe_ms, coe_rf, coe_fn, coe_cons, ty, Srplaces, d2]
             exact i1_ends 4 rfl rfl (plL_len _ _ _) rfl)
    · have hv : chkB bs.length e n = 11 := if_neg ho
      have hpl : places bs e n key = [] := if_neg ho
      simp -implicitDefEqProofs only [evT, implies_true, forall_const, Option.getD, later_normal, aop, aLen, ev, slot, setSlot, putSlot, cv, cvl, aConv, aBin, aInt, aUn, aFn, aEq, Out.and, isBool, isPtr, List.length, IntKind.bits, evs, evo, evps, aCall, aUser, coes, coe, List.append, List.replicate, callOut, rootsL, AV.roots, lendsL, AV.lends, pinsOf, nodup, lendL, lend, closedB, noimmB, AV.noimm, AV.ren, renL, back, Nat.reduceAdd, Nat.reduceSub, Nat.reduceMul, Int.reduceToNat, reduceCtorEq, aLoad, subv, aIndexAddr, aIndex, TD.aggr, guardSlot, aPick, byte, word, aMin, aMax, Ax.Ends, EndsX, Ax.rvals, rone, AV.ids, idsL, newIds, upTo, pinHeap, gOf, ↓reduceIte, List.isEmpty, Int.reducePow, Nat.reducePow, Int.reduceMod, Nat.reduceLeDiff, Int.reduceLE, Int.reduceNe, Int.reduceEq, aBuildSlice, fillB, aAppend, appendB, viewB, Ax.look, Ax.put, Ax.drop, List.drop, List.take, asv, aMake, aCopy, srcB, fillG, viewG, appendG, appendI, fillI, aSlice, bnd, bnds, full3, cut, aFieldAddr, aField, aStore, setB, aBox, aBuild, fillS, allTy, AV.leaves, AV.okv, AV.leaf, one, splice, elemLeaves, Blk.size, Blk.len, Option.isSome, Option.isNone, isBytes, aStr, aNil, aAlloc, aExtract, viewI, Nat.reduceEqDiff, Nat.reduceLT, Nat.reduceBEq, List.contains, List.elem, Blk.closed, closedL, AV.closed, Blk.noimm, ↓gsplit_tt, ↓gsplit_ff, ↓gsplit_tf, ↓gsplit_ft, ↓csplit_t, ↓csplit_f, Ax.idx, AV.lentIds, lentIdsL, dropAll, givenUp, AV.clean, cleanL, Blk.clean, cleanB, quietC, flatTy, coldStr, notMs, eqV, eqF, isStruct, -coe, coe_w, coe_str, coe_agg, coe_tup, coe_sb, coe_si, coe_cp, coe_ms, coe_rf, coe_fn, coe_cons, ty, Srplaces, chkSetS, hv]
      exact i1nil_ends 4 (by exact trivial) (by simp) (by rw [hpl]; rfl) hpl
  · exact hp.elim
end
end Go.Proofs.Ythodcljimjglcaa
