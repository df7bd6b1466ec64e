/- Layer 33: what every right program finds in one set; what the arguments of a law are. -/
import Derived.Test.YthodcljimjglcaaSb
namespace Go.Proofs.Ythodcljimjglcaa
open Ax
set_option linter.unusedSimpArgs false
set_option linter.unusedVariables false

def Saw33 (f : FuncId) : Option FSpec :=
  match f with
  | 19 => some newSetS
  | 12 => some addSetS
  | 26 => some putSetS
  | 28 => some getSetS
  | 21 => some joinS
  | 15 => some hasS
  | 25 => some sameSetS
  | 10 => some placesS
  | 23 => some fullS
  | 17 => some chkSetS
  | _ => none
theorem Saw33_ok : Fns Try.prog Saw33 := by
  intro f s h
  unfold Saw33 at h
  split at h
  · injection h with h; subst h; exact ⟨⟨_, Try.func19, by kernel_rfl, by kernel_rfl⟩, newSet_sound⟩
  · injection h with h; subst h; exact ⟨⟨_, Try.func12, by kernel_rfl, by kernel_rfl⟩, addSet_sound⟩
  · injection h with h; subst h; exact ⟨⟨_, Try.func26, by kernel_rfl, by kernel_rfl⟩, putSet_sound⟩
  · injection h with h; subst h; exact ⟨⟨_, Try.func28, by kernel_rfl, by kernel_rfl⟩, getSet_sound⟩
  · injection h with h; subst h; exact ⟨⟨_, Try.func21, by kernel_rfl, by kernel_rfl⟩, join_sound⟩
  · injection h with h; subst h; exact ⟨⟨_, Try.func15, by kernel_rfl, by kernel_rfl⟩, has_sound⟩
  · injection h with h; subst h; exact ⟨⟨_, Try.func25, by kernel_rfl, by kernel_rfl⟩, sameSet_sound⟩
  · injection h with h; subst h; exact ⟨⟨_, Try.func10, by kernel_rfl, by kernel_rfl⟩, places_sound⟩
  · injection h with h; subst h; exact ⟨⟨_, Try.func23, by kernel_rfl, by kernel_rfl⟩, full_sound⟩
  · injection h with h; subst h; exact ⟨⟨_, Try.func17, by kernel_rfl, by kernel_rfl⟩, chkSet_sound⟩
  · cases h
theorem gok_put {bs : List UInt8} {e n : Int} (ho : okSet bs.length e n) : gOk (putSB bs e n) ∧ gB (putSB bs e n) = bs ∧ gE (putSB bs e n) = e ∧ gN (putSB bs e n) = n := by
  have hb : putSB bs e n = putU (zz e).toNat ++ (putU (zz n).toNat ++ textL bs) := by unfold putSB; rw [if_pos ho, List.append_assoc]
  obtain ⟨h1, h2, h3, h4, h5, h6⟩ := ho
  obtain ⟨p1, p2, p3⟩ := num_put33 e (by omega) (by omega) (putU (zz n).toNat ++ textL bs)
  obtain ⟨p4, p5, p6⟩ := num_put33 n (by omega) (by omega) (textL bs)
  obtain ⟨p7, _, _⟩ := text_put33 4096 bs [] (by omega) (by omega)
  rw [List.append_nil] at p7
  have k1 : gE (putSB bs e n) = e := by unfold gE; rw [hb, p1]
  have k2 : gN (putSB bs e n) = n := by unfold gN; rw [hb, p2, p3, p4]
  have k3 : gB (putSB bs e n) = bs := by unfold gB; rw [hb, p2, p3, p5, p6, p7]
  refine ⟨?_, k3, k1, k2⟩
  unfold gOk
  rw [k1, k2, k3]
  exact ⟨⟨h1, h2, h3, h4, h5, h6⟩, rfl⟩
theorem putSB_len (bs : List UInt8) (e n : Int) : (putSB bs e n).length ≤ 4126 := by
  unfold putSB
  split
  · rename_i ho
    obtain ⟨h1, h2, h3, h4, h5, h6⟩ := ho
    have z1 := zz_range e (by omega) (by omega)
    have z2 := zz_range n (by omega) (by omega)
    have l1 := putU_length (zz e).toNat (by omega)
    have l2 := putU_length (zz n).toNat (by omega)
    have l3 := textL_len33 bs (by omega)
    rw [List.length_append, List.length_append]; omega
  · simp
theorem addB_len (bs : List UInt8) (e n : Int) (key : List UInt8) : (addB bs e n key).length = bs.length := setPs_len _ _
def zero8 : List UInt8 := List.replicate 8 0
def key33 : List UInt8 := [107]
section
set_option maxRecDepth 100000
theorem aw33_a : hasPs (addB zero8 3 0 key33) (places (addB zero8 3 0 key33) 3 1 key33) = true := by decide +kernel
theorem aw33_b : hasPs zero8 (places zero8 3 0 key33) = false := by decide +kernel
theorem aw33_c : hasPs (joinL zero8 (addB zero8 3 0 key33) 8) (places (joinL zero8 (addB zero8 3 0 key33) 8) 3 1 key33) = true := by decide +kernel
theorem aw33_d : sumP (addB zero8 3 0 key33) 8 = 0 + 1 + 1 + 1 ∨ 0 < sumP (addB zero8 3 0 key33) 8 := by decide +kernel
theorem aw33_e : sumP zero8 8 = 0 := by decide +kernel
theorem aw33_f : (places zero8 3 0 key33).length = 3 := by decide +kernel
set_option maxHeartbeats 2000000 in
theorem awake33_sound : Sound Try.prog 9 yesS := by
  refine fn_sound (S := Saw33) (T := ty) mixed ty_ok Saw33_ok Try.func9 (c := Try.f9.body.getD .skip) (by kernel_rfl) (by kernel_rfl) (fun xs pins hp _ => ?_)
  unfold yesS at hp ⊢
  split at hp
  · refine ⟨by simp, ?_⟩
    have hZl : zero8.length = 8 := by decide
    have n1 : newSE 8 3 = 0 := by decide
    have n2 : newSB 8 3 = zero8 := by decide
    have n3 : newSK 8 3 = 3 := by decide
    have a1 := aw33_a
    have a2 := aw33_b
    have a3 := aw33_c
    have a4 : 0 < sumP (addB zero8 3 0 key33) 8 := by rcases aw33_d with h | h <;> omega
    have a5 := aw33_e
    have a6 := aw33_f
    have o0 : okSet 8 3 0 := by decide
    have o1 : okSet 8 3 1 := by decide
    have aN : addN 8 3 0 = 1 := by decide
    have hTl : (addB zero8 3 0 key33).length = 8 := by rw [addB_len, hZl]
    have hjl := joinL_len zero8 (addB zero8 3 0 key33) 8
    rw [hZl] at hjl
    have hE0 : empB zero8 = false := by decide
    have hkey : ([107] : List UInt8) = key33 := rfl
    obtain ⟨T, hT⟩ : ∃ T, addB zero8 3 0 key33 = T := ⟨_, rfl⟩
    rw [hT] at a1 a3 a4 hTl hjl
    obtain ⟨Z, hZ⟩ : ∃ Z, zero8 = Z := ⟨_, rfl⟩
    rw [hZ] at n2 a2 a3 a5 a6 hZl hT hjl hE0
    obtain ⟨K, hK⟩ : ∃ K, key33 = K := ⟨_, rfl⟩
    have hKl : K.length = 1 := by rw [← hK]; rfl
    rw [hK] at hkey a1 a2 a3 a6 hT
    have hpl := putSB_len T 3 1
    obtain ⟨g1, g2, g3, g4⟩ := gok_put (bs := T) (e := 3) (n := 1) (by rw [hTl]; exact o1)
    obtain ⟨W, hW⟩ : ∃ W, putSB T 3 1 = W := ⟨_, rfl⟩
    rw [hW] at hpl g1 g2 g3 g4
    have gv : gV W = .agg [.sb T false, .w (.int .i64 3), .w (.int .i64 1)] := by unfold gV; rw [if_pos g1, g2, g3, g4]
    have hWl : W.length ≤ 1000000 := by omega
    have c0 : chkB 8 3 0 = 0 := if_pos o0
    have c1 : chkB 8 3 1 = 0 := if_pos o1
    have jE : joinE Z 3 0 T 3 1 = 0 := by unfold joinE; rw [hZl, hTl, if_neg (fun h => h o0), if_neg (fun h => h o1), if_neg (by omega)]
    have jV : joinV Z 3 0 T 3 1 = .agg [.sb (joinL Z T 8) false, .w (.int .i64 3), .w (.int .i64 1)] := by unfold joinV; rw [if_pos jE, hZl]; rfl
    have s1 : sameSet T 3 1 T 3 1 = true := by unfold sameSet; simp
    have s2 : sameSet Z 3 0 T 3 1 = false := by unfold sameSet; simp
    have d1 : decide (okSet 8 3 0) = true := decide_eq_true o0
    have d2 : decide (okSet 8 3 1) = true := decide_eq_true o1
    have d4 : decide ((0 : Int) < ((sumP T 8 : Nat) : Int)) = true := decide_eq_true (by omega)
    have z1 : decide (((3 : Nat) : Int) = 3) = true := rfl
    have z2 : decide (((0 : Nat) : Int) = 0) = true := rfl
    unfold Try.f9
    simp -implicitDefEqProofs only [evT, implies_true, forall_const, Option.getD, later_normal, aop, aLen, ev, slot, setSlot, putSlot, cv, cvl, aConv, aBin, aInt, aUn, aFn, aEq, Out.and, isBool, isPtr, List.length, IntKind.bits, evs, evo, evps, aCall, aUser, coes, coe, List.append, List.replicate, callOut, rootsL, AV.roots, lendsL, AV.lends, pinsOf, nodup, lendL, lend, closedB, noimmB, AV.noimm, AV.ren, renL, back, Nat.reduceAdd, Nat.reduceSub, Nat.reduceMul, Int.reduceToNat, reduceCtorEq, aLoad, subv, aIndexAddr, aIndex, TD.aggr, guardSlot, aPick, byte, word, aMin, aMax, Ax.Ends, EndsX, Ax.rvals, rone, AV.ids, idsL, newIds, upTo, pinHeap, gOf, ↓reduceIte, List.isEmpty, Int.reducePow, Nat.reducePow, Int.reduceMod, Nat.reduceLeDiff, Int.reduceLE, Int.reduceNe, Int.reduceEq, aBuildSlice, fillB, aAppend, appendB, viewB, Ax.look, Ax.put, Ax.drop, List.drop, List.take, asv, aMake, aCopy, srcB, fillG, viewG, appendG, appendI, fillI, aSlice, bnd, bnds, full3, cut, aFieldAddr, aField, aStore, setB, aBox, aBuild, fillS, allTy, AV.leaves, AV.okv, AV.leaf, one, splice, elemLeaves, Blk.size, Blk.len, Option.isSome, Option.isNone, isBytes, aStr, aNil, aAlloc, aExtract, viewI, Nat.reduceEqDiff, Nat.reduceLT, Nat.reduceBEq, List.contains, List.elem, Blk.closed, closedL, AV.closed, Blk.noimm, ↓gsplit_tt, ↓gsplit_ff, ↓gsplit_tf, ↓gsplit_ft, ↓csplit_t, ↓csplit_f, Ax.idx, AV.lentIds, lentIdsL, dropAll, givenUp, AV.clean, cleanL, Blk.clean, cleanB, quietC, flatTy, coldStr, notMs, eqV, eqF, isStruct, -coe, coe_w, coe_str, coe_agg, coe_tup, coe_sb, coe_si, coe_cp, coe_ms, coe_rf, coe_fn, coe_cons, ty, Saw33, newSetS, addSetS, putSetS, getSetS, joinS, hasS, sameSetS, placesS, fullS, chkSetS, hkey, n1, n2, n3, a1, a2, a3, a5, a6, aN, hTl, hZl, hjl, hE0, hT, hKl, hW, hWl, g1, gv, c0, c1, jE, jV, s1, s2, d1, d2, d4, z1, z2, List.take_length, fillS]
  · exact hp.elim
end
def lightS : FSpec
  | [.agg [.sb bs f, .w (.int .i64 e), .w (.int .i64 n)]], [] => ⟨True, .w (.bool (decide ((bs.length : Int) ≤ 200))), []⟩
  | _, _ => noRes
section
set_option maxRecDepth 100000
theorem light33_sound : Sound Try.prog 8 lightS := by
  refine fn_sound (S := noS) (T := ty) mixed ty_ok noS_ok Try.func8 (c := Try.f8.body.getD .skip) (by kernel_rfl) (by kernel_rfl) (fun xs pins hp _ => ?_)
  unfold lightS at hp ⊢
  split at hp
  · rename_i bs f e n _
    refine ⟨by simp, ?_⟩
    unfold Try.f8
    simp -implicitDefEqProofs only [evT, implies_true, forall_const, Option.getD, later_normal, aop, aLen, ev, slot, setSlot, putSlot, cv, cvl, aConv, aBin, aInt, aUn, aFn, aEq, Out.and, isBool, isPtr, List.length, IntKind.bits, evs, evo, evps, aCall, aUser, coes, coe, List.append, List.replicate, callOut, rootsL, AV.roots, lendsL, AV.lends, pinsOf, nodup, lendL, lend, closedB, noimmB, AV.noimm, AV.ren, renL, back, Nat.reduceAdd, Nat.reduceSub, Nat.reduceMul, Int.reduceToNat, reduceCtorEq, aLoad, subv, aIndexAddr, aIndex, TD.aggr, guardSlot, aPick, byte, word, aMin, aMax, Ax.Ends, EndsX, Ax.rvals, rone, AV.ids, idsL, newIds, upTo, pinHeap, gOf, ↓reduceIte, List.isEmpty, Int.reducePow, Nat.reducePow, Int.reduceMod, Nat.reduceLeDiff, Int.reduceLE, Int.reduceNe, Int.reduceEq, aBuildSlice, fillB, aAppend, appendB, viewB, Ax.look, Ax.put, Ax.drop, List.drop, List.take, asv, aMake, aCopy, srcB, fillG, viewG, appendG, appendI, fillI, aSlice, bnd, bnds, full3, cut, aFieldAddr, aField, aStore, setB, aBox, aBuild, fillS, allTy, AV.leaves, AV.okv, AV.leaf, one, splice, elemLeaves, Blk.size, Blk.len, Option.isSome, Option.isNone, isBytes, aStr, aNil, aAlloc, aExtract, viewI, Nat.reduceEqDiff, Nat.reduceLT, Nat.reduceBEq, List.contains, List.elem, Blk.closed, closedL, AV.closed, Blk.noimm, ↓gsplit_tt, ↓gsplit_ff, ↓gsplit_tf, ↓gsplit_ft, ↓csplit_t, ↓csplit_f, Ax.idx, AV.lentIds, lentIdsL, dropAll, givenUp, AV.clean, cleanL, Blk.clean, cleanB, quietC, flatTy, coldStr, notMs, eqV, eqF, isStruct, -coe, coe_w, coe_str, coe_agg, coe_tup, coe_sb, coe_si, coe_cp, coe_ms, coe_rf, coe_fn, coe_cons, ty, noS]
  · exact hp.elim
end
theorem wEs_ends {T : Types} {sl : List AV} {H : Heap} {nx : Nat} {v : Value} {q : Prop} (i : Nat) (h : slot sl i = .w v) : EndsW T [.tmp i] [] ⟨q, .w v, []⟩ .ret ⟨sl, H, nx⟩ := by
  refine ⟨_, Weak.refl _, ?_⟩
  simp only [Ax.Ends, Ax.rvals, EndsX, rone, h, AV.ids, idsL, newIds, upTo, nodup, pinsOf, List.nil_append, AV.ren, and_self]
theorem arg_set33 {x : AV} (h : Arg ty 6 24 x) : ∃ bs f e n, x = setV bs f e n ∧ bs.length ≤ 9223372036854775807 ∧ (-9223372036854775808 ≤ e ∧ e ≤ 9223372036854775807) ∧ -9223372036854775808 ≤ n ∧ n ≤ 9223372036854775807 := by
  obtain ⟨i, ls, hi, hs, rfl⟩ := h
  simp only [ty] at hi
  injection hi with hi
  subst hi
  simp only [Shape, ty, ShapeF, isFlatI] at hs
  obtain ⟨l0, r0, rfl, ⟨bs, f, rfl, hl⟩, l1, r1, rfl, ⟨m1, rfl, w1⟩, l2, r2, rfl, ⟨m2, rfl, w2⟩, rfl⟩ := hs
  have : maxLen = 9223372036854775807 := by decide
  exact ⟨bs, f, m1, m2, rfl, by omega, wf_i64 w1, wf_i64 w2⟩
end Go.Proofs.Ythodcljimjglcaa
