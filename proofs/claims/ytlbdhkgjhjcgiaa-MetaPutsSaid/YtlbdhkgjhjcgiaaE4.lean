/- Layer 8: a meta's bytes. -/
import Derived.Test.YtlbdhkgjhjcgiaaE3
import Derived.Test.YtlbdhkgjhjcgiaaA9t
namespace Go.Proofs.Ytlbdhkgjhjcgiaa
open Ax
set_option linter.unusedSimpArgs false
set_option linter.unusedVariables false

theorem ms8_ends {T : Types} {sl : List AV} {H : Heap} {nx id n : Nat} {bs rs : List UInt8} {e e' : Value} {q : Prop} (i j : Nat) (hij : i ≠ j) (h2 : slot sl i = .ms id 1 0 n) (h3 : slot sl j = .w e) (hl : Ax.look H id = some (.b bs)) (hn : n = bs.length) (hr : rs = bs) (he : e' = e) :
    EndsW T [.tmp i, .tmp j] [] ⟨q, .tup [.ms 0 1 0 rs.length, .w e'], [.b rs]⟩ .ret ⟨sl, H, nx⟩ := by
  subst hn hr he
  refine ⟨_, Weak.refl _, ?_⟩
  simp only [Ax.Ends, Ax.rvals, EndsX, rone, h2, h3, AV.ids, idsL, newIds, upTo, nodup, pinsOf, hl, List.nil_append, List.append_nil, AV.ren, renL, gOf, and_self]
  simp [pinsOf, newIds, nodup, hl, gOf, Blk.closed]
theorem msnil8_ends {T : Types} {sl : List AV} {H : Heap} {nx : Nat} {e e' : Value} {q : Prop} {rs : List UInt8} (i j : Nat) (hij : i ≠ j) (h2 : slot sl i = .sg 1 [] true) (h3 : slot sl j = .w e) (hr : rs = []) (he : e' = e) :
    EndsW T [.tmp i, .tmp j] [] ⟨q, .tup [.ms 0 1 0 rs.length, .w e'], [.b rs]⟩ .ret ⟨sl, H, nx⟩ := by
  subst hr he
  have hi : i < sl.length := by
    rcases Nat.lt_or_ge i sl.length with h | h
    · exact h
    · rw [slot_ge h] at h2; cases h2
  obtain ⟨σ', h5, h6⟩ := ms8_ends (T := T) (sl := setSlot sl i (.ms nx 1 0 0)) (H := Ax.put H nx (.b [])) (nx := nx + 1) (q := q) i j hij (id := nx) (n := 0) (bs := []) (rs := []) (e := e') (e' := e') (slot_set_same hi) (by rw [slot_set_other hij]; exact h3) (by simp [Ax.put, Ax.look]) rfl rfl rfl
  exact ⟨σ', (weak_nil i 1 (.b []) rfl (by rw [h2]; exact trivial)).trans h5, h6⟩
def pz (n : Int) : List UInt8 := putU (zz n).toNat
theorem pz_def (n : Int) : putU (zz n).toNat = pz n := rfl
theorem pz_len (n : Int) (h1 : -9223372036854775808 ≤ n) (h2 : n ≤ 9223372036854775807) : (pz n).length ≤ 10 := by
  have := zz_range n h1 h2
  exact putU_length _ (by omega)
theorem textL_len8 (s : List UInt8) (h : s.length ≤ 1000000) : (textL s).length ≤ s.length + 10 := by
  unfold textL
  have := putU_length (2 * s.length) (by omega)
  rw [List.length_append]; omega
/-- A kind's numbers, one behind the other. -/
def numsM (m : Mt) : List Int :=
  if m.k = 0 then [m.t, m.p] else if m.k = 1 then [m.t] else if m.k = 6 then [m.t] else if m.k = 2 then [m.t, m.i, m.z, m.b] else if m.k = 3 then [m.t, m.i, m.z] else if m.k = 4 then [m.t, m.i, m.c, m.z, m.b] else [m.t, m.i, m.b]
def cpN (m : Mt) : Int := if m.cp then 1 else 0
def layM (m : Mt) : List UInt8 := UInt8.ofNat m.k.toNat :: ((numsM m).flatMap pz ++ (if m.k = 0 then pz (cpN m) ++ textL m.nm else []))
def putB8 (m : Mt) : List UInt8 := if chkM m = 0 then layM m else []
def put8S : FSpec
  | [.agg [.w (.int .u8 k), .w (.int .i64 t), .w (.int .i64 i), .str nm, .w (.int .i64 p), .w (.bool cp), .w (.int .i64 z), .w (.int .i64 b), .w (.int .i64 c)]], [] =>
      ⟨0 ≤ k ∧ k < 256 ∧ nm.length ≤ 1000000, .tup [.ms 0 1 0 (putB8 ⟨k, t, i, nm, p, cp, z, b, c⟩).length, .w (.int .i64 (chkM ⟨k, t, i, nm, p, cp, z, b, c⟩))], [.b (putB8 ⟨k, t, i, nm, p, cp, z, b, c⟩)]⟩
  | _, _ => noRes
theorem chk_ok {m : Mt} (h : chkM m = 0) : m.k ≤ 6 ∧ onlyM m = m ∧ ¬ rngM m ∧ (m.k = 0 → 1 ≤ m.p ∧ m.p ≤ 8 ∧ nmOk m.nm) := by
  unfold chkM at h
  by_cases h1 : 6 < m.k
  · rw [if_pos h1] at h; omega
  · rw [if_neg h1] at h
    by_cases h2 : eqM (onlyM m) m
    · rw [if_neg (fun g => g h2)] at h
      by_cases h3 : rngM m
      · rw [if_pos h3] at h; omega
      · rw [if_neg h3] at h
        refine ⟨by omega, (eqM_iff _ _).1 h2, h3, fun hk => ?_⟩
        by_cases h4 : m.p < 1 ∨ 8 < m.p
        · rw [if_pos ⟨hk, h4⟩] at h; omega
        · rw [if_neg (fun g => h4 g.2)] at h
          by_cases h5 : nmOk m.nm
          · exact ⟨by omega, by omega, h5⟩
          · rw [if_pos ⟨hk, h5⟩] at h; omega
    · rw [if_pos h2] at h; omega
/-- What is known of the numbers of a meta that may be. -/
theorem chk_rng {k t i : Int} {nm : List UInt8} {p : Int} {cp : Bool} {z b c : Int} (h : chkM ⟨k, t, i, nm, p, cp, z, b, c⟩ = 0) :
    k ≤ 6 ∧ (0 ≤ t ∧ t ≤ 2147483647) ∧ (0 ≤ i ∧ i ≤ 7) ∧ (0 ≤ z ∧ z ≤ 63) ∧ (0 ≤ b ∧ b ≤ 4611686018427387903) ∧ (0 ≤ c ∧ c ≤ 64) ∧ (k = 0 → 1 ≤ p ∧ p ≤ 8 ∧ nmOk nm) := by
  obtain ⟨h1, h2, h3, h4⟩ := chk_ok h
  unfold rngM at h3
  simp only at h1 h3 h4
  exact ⟨h1, by omega, by omega, by omega, by omega, by omega, h4⟩
def Sput8 (f : FuncId) : Option FSpec :=
  match f with
  | 12 => some checkS
  | 24 => some putS
  | 25 => some textS
  | _ => none
theorem Sput8_ok : Fns Try.prog Sput8 := by
  intro f s h
  unfold Sput8 at h
  split at h
  · injection h with h; subst h; exact ⟨⟨_, Try.func12, by kernel_rfl, by kernel_rfl⟩, check_sound⟩
  · injection h with h; subst h; exact ⟨⟨_, Try.func24, by kernel_rfl, by kernel_rfl⟩, put_sound⟩
  · injection h with h; subst h; exact ⟨⟨_, Try.func25, by kernel_rfl, by kernel_rfl⟩, text_sound⟩
  · cases h
def put8Pl : XPlan := fun id => match id with
  | 5 => .opn [] 0
  | _ => .std
section
set_option maxRecDepth 100000
set_option maxHeartbeats 4000000 in
theorem put8_sound : Sound Try.prog 10 put8S := by
  refine fn_soundOK (S := Sput8) (SO := Ojust) (T := ty) mixed ty_ok Sput8_ok Ojust_ok Try.func10 (c := Try.f10.body.getD .skip) (by kernel_rfl) (fun xs pins hp _ => ?_)
  unfold put8S at hp ⊢
  split at hp
  · rename_i k t i nm p cp z b c _
    obtain ⟨hk0, hk1, hnl⟩ := hp
    refine ⟨by simp, put8Pl, by kernel_rfl, ?_⟩
    unfold Try.f10
    by_cases hc : chkM ⟨k, t, i, nm, p, cp, z, b, c⟩ = 0
    · have hB : putB8 ⟨k, t, i, nm, p, cp, z, b, c⟩ = layM ⟨k, t, i, nm, p, cp, z, b, c⟩ := if_pos hc
      obtain ⟨hk6, ht, hi, hz, hb, hcc, hk⟩ := chk_rng hc
      have r1 : -9223372036854775808 ≤ t ∧ t ≤ 9223372036854775807 := by omega
      have r2 : -9223372036854775808 ≤ i ∧ i ≤ 9223372036854775807 := by omega
      have r3 : -9223372036854775808 ≤ z ∧ z ≤ 9223372036854775807 := by omega
      have r4 : -9223372036854775808 ≤ b ∧ b ≤ 9223372036854775807 := by omega
      have r5 : -9223372036854775808 ≤ c ∧ c ≤ 9223372036854775807 := by omega
      have l1 := pz_len t r1.1 r1.2
      have l2 := pz_len i r2.1 r2.2
      have l3 := pz_len z r3.1 r3.2
      have l4 := pz_len b r4.1 r4.2
      have l5 := pz_len c r5.1 r5.2
      have tk : ∀ l : List UInt8, List.take l.length l = l := fun l => List.take_length
      rw [hB]
      rcases kind_le k ⟨hk0, hk6⟩ with rfl | rfl | rfl | rfl | rfl | rfl | rfl
      · obtain ⟨hp1, hp2, hnm⟩ := hk rfl
        have r6 : -9223372036854775808 ≤ p ∧ p ≤ 9223372036854775807 := by omega
        have r7 : -9223372036854775808 ≤ cpN ⟨0, t, i, nm, p, cp, z, b, c⟩ ∧ cpN ⟨0, t, i, nm, p, cp, z, b, c⟩ ≤ 9223372036854775807 := by cases cp <;> simp [cpN]
        have l6 := pz_len p r6.1 r6.2
        have l7 := pz_len _ r7.1 r7.2
        have l8 := textL_len8 nm hnl
        have hL : layM ⟨0, t, i, nm, p, cp, z, b, c⟩ = UInt8.ofNat 0 :: (pz t ++ (pz p ++ (pz (cpN ⟨0, t, i, nm, p, cp, z, b, c⟩) ++ textL nm))) := by
          simp [layM, numsM]
        have hcp : cpN ⟨0, t, i, nm, p, cp, z, b, c⟩ = if cp then 1 else 0 := rfl
        cases cp
        all_goals
          simp only [if_true, if_false, Bool.false_eq_true] at hcp
          rw [hcp] at r7 l7 hL
          simp -implicitDefEqProofs only [evT, evD0, evD1, evD2, implies_true, forall_const, Option.getD, later_normal, aop, aLen, ev, putSlot, cv, cvl, aConv, aBin, aInt, aUn, aFn, aEq, List.length, IntKind.bits, evo, coe, List.append, List.replicate, Nat.reduceAdd, Nat.reduceSub, Nat.reduceMul, Int.reduceToNat, reduceCtorEq, aIndexAddr, aIndex, TD.aggr, aPick, aMin, aMax, Ax.Ends, rone, ↓reduceIte, List.isEmpty, Int.reducePow, Nat.reducePow, Int.reduceMod, Nat.reduceLeDiff, Int.reduceLE, Int.reduceNe, Int.reduceEq, aAppend, appendB, viewB, List.drop, List.take, aRange, aNext, aCopy, srcB, viewG, appendG, appendI, aSlice, bnd, full3, aStore, setB, AV.leaves, AV.okv, AV.leaf, one, elemLeaves, Blk.size, Blk.len, Option.isSome, Option.isNone, aStr, aNil, aExtract, viewI, Nat.reduceEqDiff, Nat.reduceLT, Nat.reduceBEq, List.contains, List.elem, Blk.closed, Blk.noimm, ↓gsplit_tt, ↓gsplit_ff, ↓gsplit_tf, ↓gsplit_ft, ↓csplit_t, ↓csplit_f, givenUp, Blk.clean, notMs, evDO, evTO, evTP, laterO_normal, ↓frzK_def, Blk.fz, Blk.fg, ↓openKO_def, openOp, Blk.isGone, Blk.idsB, Blk.sidsB, Blk.ren, EndsO, Blk.ids, Op.operands, Call.operands, List.map_cons, List.map_nil, List.toList_toArray, Array.toList_append, Option.toArray_some, Option.toArray_none, Bool.and_self, -coe, coe_w, coe_str, coe_agg, coe_tup, coe_sb, coe_si, coe_cp, coe_ms, coe_rf, coe_fn, coe_cons, ty, Sput8, Ojust, put8Pl, checkS, numbersO, putS, textS, hc, hnl, numF, Int.reduceLT, Int.reduceLE]
          refine awpO_unr 6 ?_
          simp -implicitDefEqProofs only [evT, evD0, evD1, evD2, implies_true, forall_const, Option.getD, later_normal, aop, aLen, ev, putSlot, cv, cvl, aConv, aBin, aInt, aUn, aFn, aEq, List.length, IntKind.bits, evo, coe, List.append, List.replicate, Nat.reduceAdd, Nat.reduceSub, Nat.reduceMul, Int.reduceToNat, reduceCtorEq, aIndexAddr, aIndex, TD.aggr, aPick, aMin, aMax, Ax.Ends, rone, ↓reduceIte, List.isEmpty, Int.reducePow, Nat.reducePow, Int.reduceMod, Nat.reduceLeDiff, Int.reduceLE, Int.reduceNe, Int.reduceEq, aAppend, appendB, viewB, List.drop, List.take, aRange, aNext, aCopy, srcB, viewG, appendG, appendI, aSlice, bnd, full3, aStore, setB, AV.leaves, AV.okv, AV.leaf, one, elemLeaves, Blk.size, Blk.len, Option.isSome, Option.isNone, aStr, aNil, aExtract, viewI, Nat.reduceEqDiff, Nat.reduceLT, Nat.reduceBEq, List.contains, List.elem, Blk.closed, Blk.noimm, ↓gsplit_tt, ↓gsplit_ff, ↓gsplit_tf, ↓gsplit_ft, ↓csplit_t, ↓csplit_f, givenUp, Blk.clean, notMs, evDO, evTO, evTP, laterO_normal, ↓frzK_def, Blk.fz, Blk.fg, ↓openKO_def, openOp, Blk.isGone, Blk.idsB, Blk.sidsB, Blk.ren, EndsO, Blk.ids, Op.operands, Call.operands, List.map_cons, List.map_nil, List.toList_toArray, Array.toList_append, Option.toArray_some, Option.toArray_none, Bool.and_self, -coe, coe_w, coe_str, coe_agg, coe_tup, coe_sb, coe_si, coe_cp, coe_ms, coe_rf, coe_fn, coe_cons, ty, Sput8, Ojust, put8Pl, checkS, numbersO, putS, textS, hc, hnl, numF, unrO_go, unK_normal, unK_exit, unK_ret, Int.reduceAdd, Int.reduceSub, Int.reduceLT, cst, r1, r2, r3, r4, r5, r6, r7, pz_def, tk]
          repeat (refine And.intro (by unfold top; omega) ?_)
          exact ms8_ends 2 3 (by decide) rfl rfl rfl (by simp; omega) (by rw [hL]; simp) rfl
      all_goals
        simp -implicitDefEqProofs only [evT, evD0, evD1, evD2, implies_true, forall_const, Option.getD, later_normal, aop, aLen, ev, putSlot, cv, cvl, aConv, aBin, aInt, aUn, aFn, aEq, List.length, IntKind.bits, evo, coe, List.append, List.replicate, Nat.reduceAdd, Nat.reduceSub, Nat.reduceMul, Int.reduceToNat, reduceCtorEq, aIndexAddr, aIndex, TD.aggr, aPick, aMin, aMax, Ax.Ends, rone, ↓reduceIte, List.isEmpty, Int.reducePow, Nat.reducePow, Int.reduceMod, Nat.reduceLeDiff, Int.reduceLE, Int.reduceNe, Int.reduceEq, aAppend, appendB, viewB, List.drop, List.take, aRange, aNext, aCopy, srcB, viewG, appendG, appendI, aSlice, bnd, full3, aStore, setB, AV.leaves, AV.okv, AV.leaf, one, elemLeaves, Blk.size, Blk.len, Option.isSome, Option.isNone, aStr, aNil, aExtract, viewI, Nat.reduceEqDiff, Nat.reduceLT, Nat.reduceBEq, List.contains, List.elem, Blk.closed, Blk.noimm, ↓gsplit_tt, ↓gsplit_ff, ↓gsplit_tf, ↓gsplit_ft, ↓csplit_t, ↓csplit_f, givenUp, Blk.clean, notMs, evDO, evTO, evTP, laterO_normal, ↓frzK_def, Blk.fz, Blk.fg, ↓openKO_def, openOp, Blk.isGone, Blk.idsB, Blk.sidsB, Blk.ren, EndsO, Blk.ids, Op.operands, Call.operands, List.map_cons, List.map_nil, List.toList_toArray, Array.toList_append, Option.toArray_some, Option.toArray_none, Bool.and_self, -coe, coe_w, coe_str, coe_agg, coe_tup, coe_sb, coe_si, coe_cp, coe_ms, coe_rf, coe_fn, coe_cons, ty, Sput8, Ojust, put8Pl, checkS, numbersO, putS, textS, hc, hnl, numF, Int.reduceLT, Int.reduceLE]
        refine awpO_unr 6 ?_
        simp -implicitDefEqProofs only [evT, evD0, evD1, evD2, implies_true, forall_const, Option.getD, later_normal, aop, aLen, ev, putSlot, cv, cvl, aConv, aBin, aInt, aUn, aFn, aEq, List.length, IntKind.bits, evo, coe, List.append, List.replicate, Nat.reduceAdd, Nat.reduceSub, Nat.reduceMul, Int.reduceToNat, reduceCtorEq, aIndexAddr, aIndex, TD.aggr, aPick, aMin, aMax, Ax.Ends, rone, ↓reduceIte, List.isEmpty, Int.reducePow, Nat.reducePow, Int.reduceMod, Nat.reduceLeDiff, Int.reduceLE, Int.reduceNe, Int.reduceEq, aAppend, appendB, viewB, List.drop, List.take, aRange, aNext, aCopy, srcB, viewG, appendG, appendI, aSlice, bnd, full3, aStore, setB, AV.leaves, AV.okv, AV.leaf, one, elemLeaves, Blk.size, Blk.len, Option.isSome, Option.isNone, aStr, aNil, aExtract, viewI, Nat.reduceEqDiff, Nat.reduceLT, Nat.reduceBEq, List.contains, List.elem, Blk.closed, Blk.noimm, ↓gsplit_tt, ↓gsplit_ff, ↓gsplit_tf, ↓gsplit_ft, ↓csplit_t, ↓csplit_f, givenUp, Blk.clean, notMs, evDO, evTO, evTP, laterO_normal, ↓frzK_def, Blk.fz, Blk.fg, ↓openKO_def, openOp, Blk.isGone, Blk.idsB, Blk.sidsB, Blk.ren, EndsO, Blk.ids, Op.operands, Call.operands, List.map_cons, List.map_nil, List.toList_toArray, Array.toList_append, Option.toArray_some, Option.toArray_none, Bool.and_self, -coe, coe_w, coe_str, coe_agg, coe_tup, coe_sb, coe_si, coe_cp, coe_ms, coe_rf, coe_fn, coe_cons, ty, Sput8, Ojust, put8Pl, checkS, numbersO, putS, textS, hc, hnl, numF, unrO_go, unK_normal, unK_exit, unK_ret, Int.reduceAdd, Int.reduceSub, Int.reduceLT, cst, r1, r2, r3, r4, r5, pz_def, tk]
        repeat (refine And.intro (by unfold top; omega) ?_)
        exact ms8_ends 2 3 (by decide) rfl rfl rfl (by simp; omega) (by simp [layM, numsM]) rfl
    · have hB : putB8 ⟨k, t, i, nm, p, cp, z, b, c⟩ = [] := if_neg hc
      have d1 : decide (chkM ⟨k, t, i, nm, p, cp, z, b, c⟩ = 0) = false := decide_eq_false hc
      simp -implicitDefEqProofs only [evT, evD0, evD1, evD2, implies_true, forall_const, Option.getD, later_normal, aop, aLen, ev, putSlot, cv, cvl, aConv, aBin, aInt, aUn, aFn, aEq, List.length, IntKind.bits, evo, coe, List.append, List.replicate, Nat.reduceAdd, Nat.reduceSub, Nat.reduceMul, Int.reduceToNat, reduceCtorEq, aIndexAddr, aIndex, TD.aggr, aPick, aMin, aMax, Ax.Ends, rone, ↓reduceIte, List.isEmpty, Int.reducePow, Nat.reducePow, Int.reduceMod, Nat.reduceLeDiff, Int.reduceLE, Int.reduceNe, Int.reduceEq, aAppend, appendB, viewB, List.drop, List.take, aRange, aNext, aCopy, srcB, viewG, appendG, appendI, aSlice, bnd, full3, aStore, setB, AV.leaves, AV.okv, AV.leaf, one, elemLeaves, Blk.size, Blk.len, Option.isSome, Option.isNone, aStr, aNil, aExtract, viewI, Nat.reduceEqDiff, Nat.reduceLT, Nat.reduceBEq, List.contains, List.elem, Blk.closed, Blk.noimm, ↓gsplit_tt, ↓gsplit_ff, ↓gsplit_tf, ↓gsplit_ft, ↓csplit_t, ↓csplit_f, givenUp, Blk.clean, notMs, evDO, evTO, evTP, laterO_normal, ↓frzK_def, Blk.fz, Blk.fg, ↓openKO_def, openOp, Blk.isGone, Blk.idsB, Blk.sidsB, Blk.ren, EndsO, Blk.ids, Op.operands, Call.operands, List.map_cons, List.map_nil, List.toList_toArray, Array.toList_append, Option.toArray_some, Option.toArray_none, Bool.and_self, -coe, coe_w, coe_str, coe_agg, coe_tup, coe_sb, coe_si, coe_cp, coe_ms, coe_rf, coe_fn, coe_cons, ty, Sput8, Ojust, put8Pl, checkS, hk0, hk1, hnl, d1]
      exact msnil8_ends 2 3 (by decide) rfl rfl hB rfl
  · exact hp.elim
end
end Go.Proofs.Ytlbdhkgjhjcgiaa
