/- Layer 32: what is packed is unpacked as it was. -/
import Derived.Test.YtliabgocaijafaaW9
namespace Go.Proofs.Ytliabgocaijafaa
open Ax
set_option linter.unusedSimpArgs false
set_option linter.unusedVariables false

theorem uStep_run (o l r : List UInt8) (m : Nat) (h1 : 1 ≤ l.length) (h2 : l.length ≤ 128) : uStep o (runB l ++ r) m = if m < o.length + l.length then (5, [], []) else (0, o ++ l, r) := by
  have h0 : ((runB l ++ r).getD 0 0).toNat = l.length - 1 := by
    show (UInt8.ofNat (l.length - 1)).toNat = _
    rw [UInt8.toNat_ofNat']; omega
  have hl : (runB l ++ r).length = l.length + 1 + r.length := by unfold runB; simp; omega
  unfold uStep
  rw [h0, if_pos (by omega)]
  unfold uRun
  rw [h0, hl, if_neg (by omega), show l.length - 1 + 1 = l.length by omega, show l.length - 1 + 2 = l.length + 1 by omega]
  have e1 : ((runB l ++ r).drop 1).take l.length = l := by
    show (l ++ r).take l.length = l
    rw [List.take_append_of_le_length (Nat.le_refl _), List.take_length]
  have e2 : (runB l ++ r).drop (l.length + 1) = r := by
    show (l ++ r).drop l.length = r
    rw [List.drop_append_of_le_length (Nat.le_refl _), List.drop_length, List.nil_append]
  rw [e1, e2]
theorem uStep_match (o r : List UInt8) (n d m : Nat) (h1 : 4 ≤ n) (h2 : n ≤ 131) (h3 : 1 ≤ d) (h4 : d ≤ o.length) (h5 : d ≤ 1024) : uStep o (mtB (n, d) ++ r) m = if m < o.length + n then (5, [], []) else (0, cpL o d n, r) := by
  have h0 : ((mtB (n, d) ++ r).getD 0 0).toNat = 128 + n - 4 := by
    show (UInt8.ofNat (128 + n - 4)).toNat = _
    rw [UInt8.toNat_ofNat']; omega
  have hd : uDist (mtB (n, d) ++ r) = d := by
    show 256 * (UInt8.ofNat (d / 256)).toNat + (UInt8.ofNat (d % 256)).toNat = d
    rw [UInt8.toNat_ofNat', UInt8.toNat_ofNat']; omega
  have hl : (mtB (n, d) ++ r).length = 3 + r.length := by unfold mtB; simp; omega
  unfold uStep
  rw [h0, if_neg (by omega)]
  unfold uMatch
  rw [h0, hl, hd, if_neg (by omega), if_neg (by omega), show 128 + n - 4 - 124 = n by omega]
  rfl
theorem cpL_take {b : List UInt8} {a d : Nat} (h1 : 1 ≤ d) (h2 : d ≤ a) : ∀ n, a + n ≤ b.length → (∀ k, k < n → eqA b a d k = true) → cpL (b.take a) d n = b.take (a + n)
  | 0, _, _ => rfl
  | n + 1, h, ha => by
    have ih := cpL_take h1 h2 n (by omega) (fun k hk => ha k (by omega))
    unfold cpL
    rw [ih]
    have hl : (b.take (a + n)).length = a + n := by rw [List.length_take]; omega
    have hq := ha n (by omega)
    unfold eqA at hq
    rw [Bool.and_eq_true] at hq
    have hq2 := of_decide_eq_true hq.2
    have hlt : a + n < b.length := by omega
    rw [hl]
    have e1 : (b.take (a + n)).getD (a + n - d) 0 = b.getD (a + n - d) 0 := by
      rw [List.getD_eq_getElem?_getD, List.getD_eq_getElem?_getD, List.getElem?_take_of_lt (by omega)]
    rw [e1, ← hq2]
    rw [show a + (n + 1) = a + n + 1 by omega, List.take_succ_eq_append_getElem hlt]
    congr 2
    simp [hlt]
theorem unp_nil (k : Nat) (o : List UInt8) (m : Nat) : unp k o [] m = (o, 0) := by
  cases k with
  | zero => rfl
  | succ k => exact if_pos rfl
theorem unp_go {k : Nat} {o p : List UInt8} {m : Nat} (h : 0 < p.length) : unp (k + 1) o p m = if (uStep o p m).1 = 0 then unp k (uStep o p m).2.1 (uStep o p m).2.2 m else ([], (uStep o p m).1) := if_neg (by omega)
theorem unp_run {k : Nat} {o l r : List UInt8} {m : Nat} (h1 : 1 ≤ l.length) (h2 : l.length ≤ 128) (hk : (runB l ++ r).length ≤ k) : ∃ j, r.length ≤ j ∧ unp k o (runB l ++ r) m = if m < o.length + l.length then ([], 5) else unp j (o ++ l) r m := by
  have hl : (runB l ++ r).length = l.length + 1 + r.length := by unfold runB; simp; omega
  obtain ⟨j, rfl⟩ : ∃ j, k = j + 1 := ⟨k - 1, by omega⟩
  refine ⟨j, by omega, ?_⟩
  rw [unp_go (by omega), uStep_run o l r m h1 h2]
  by_cases h : m < o.length + l.length
  · rw [if_pos h, if_pos h, if_neg (by decide)]
  · rw [if_neg h, if_neg h, if_pos rfl]
theorem unp_match {k : Nat} {o r : List UInt8} {n d m : Nat} (h1 : 4 ≤ n) (h2 : n ≤ 131) (h3 : 1 ≤ d) (h4 : d ≤ o.length) (h5 : d ≤ 1024) (hk : (mtB (n, d) ++ r).length ≤ k) : ∃ j, r.length ≤ j ∧ unp k o (mtB (n, d) ++ r) m = if m < o.length + n then ([], 5) else unp j (cpL o d n) r m := by
  have hl : (mtB (n, d) ++ r).length = 3 + r.length := by unfold mtB; simp; omega
  obtain ⟨j, rfl⟩ : ∃ j, k = j + 1 := ⟨k - 1, by omega⟩
  refine ⟨j, by omega, ?_⟩
  rw [unp_go (by omega), uStep_match o r n d m h1 h2 h3 h4 h5]
  by_cases h : m < o.length + n
  · rw [if_pos h, if_pos h, if_neg (by decide)]
  · rw [if_neg h, if_neg h, if_pos rfl]
theorem take_run {b : List UInt8} {s a : Nat} (h1 : s ≤ a) (h2 : a ≤ b.length) : b.take s ++ (b.drop s).take (a - s) = b.take a := by
  rw [show a = s + (a - s) by omega, List.take_add, show s + (a - s) - s = a - s by omega]
theorem unp_pk (b : List UInt8) : ∀ (g s a k m : Nat), s ≤ a → a ≤ b.length → b.length - a ≤ g → a - s ≤ 128 → s ≤ m → (pk b g s a).length ≤ k →
    unp k (b.take s) (pk b g s a) m = if m < b.length then ([], 5) else (b, 0) := by
  intro g
  induction g with
  | zero =>
    intro s a k m h1 h2 h3 h4 h5 h6
    have hal : ¬ a < b.length := by omega
    rw [pk_end hal] at h6 ⊢
    by_cases hs : s < b.length
    · rw [if_pos hs] at h6 ⊢
      have hl : (b.drop s).length = b.length - s := List.length_drop
      have ht : (b.take s).length = s := by rw [List.length_take]; omega
      rw [← List.append_nil (runB (b.drop s))] at h6 ⊢
      obtain ⟨j, hj, e⟩ := unp_run (o := b.take s) (m := m) (by omega) (by omega) h6
      rw [e, ht, hl, show s + (b.length - s) = b.length by omega]
      split
      · rfl
      · rw [List.take_append_drop, unp_nil]
    · rw [if_neg hs, unp_nil, if_neg (by omega), List.take_of_length_le (by omega)]
  | succ g ih =>
    intro s a k m h1 h2 h3 h4 h5 h6
    have ht : ∀ x, x ≤ b.length → (b.take x).length = x := fun x hx => by rw [List.length_take]; omega
    by_cases hal : a < b.length
    · rw [pk_go hal] at h6 ⊢
      have hrl : ((b.drop s).take (a - s)).length = a - s := by rw [List.length_take, List.length_drop]; omega
      by_cases hn : (mtA b a).1 = 0
      · rw [if_pos hn] at h6 ⊢
        by_cases h128 : a - s = 128
        · rw [if_pos h128] at h6 ⊢
          obtain ⟨j, hj, e⟩ := unp_run (o := b.take s) (m := m) (by omega) (by omega) h6
          rw [e, ht s (by omega), hrl, show s + (a - s) = a by omega, take_run h1 h2]
          by_cases hm : m < a
          · rw [if_pos hm, if_pos (by omega)]
          · rw [if_neg hm]
            exact ih a (a + 1) j m (by omega) (by omega) (by omega) (by omega) (by omega) hj
        · rw [if_neg h128] at h6 ⊢
          exact ih s (a + 1) k m (by omega) (by omega) (by omega) (by omega) h5 h6
      · rw [if_neg hn] at h6 ⊢
        have his : 4 ≤ (mtA b a).1 ∧ (mtA b a).1 ≤ 131 ∧ 1 ≤ (mtA b a).2 ∧ (mtA b a).2 ≤ a ∧ (mtA b a).2 ≤ 1024 ∧ a + (mtA b a).1 ≤ b.length ∧ (mtA b a).1 = lenM b a (mtA b a).2 := by
          rcases mtA_is b a hal with h | h
          · rw [h] at hn; exact (hn rfl).elim
          · exact h
        obtain ⟨⟨n, d⟩, hM⟩ : ∃ M, mtA b a = M := ⟨_, rfl⟩
        rw [hM] at his h6 ⊢
        simp only at his h6 ⊢
        obtain ⟨m1, m2, m3, m4, m5, m6, m7⟩ := his
        have key : ∀ k, (mtB (n, d) ++ pk b g (a + n) (a + n)).length ≤ k → a ≤ m → unp k (b.take a) (mtB (n, d) ++ pk b g (a + n) (a + n)) m = if m < b.length then ([], 5) else (b, 0) := by
          intro k hk ham
          obtain ⟨j, hj, e⟩ := unp_match (o := b.take a) (m := m) m1 m2 m3 (by rw [ht a h2]; exact m4) m5 hk
          rw [e, ht a h2, cpL_take m3 m4 n m6 (fun k hk => lenM_all (by rw [← m7]; exact hk))]
          by_cases hm : m < a + n
          · rw [if_pos hm, if_pos (by omega)]
          · rw [if_neg hm]
            exact ih (a + n) (a + n) j m (by omega) (by omega) (by omega) (by omega) (by omega) hj
        by_cases hsa : s < a
        · rw [if_pos hsa] at h6 ⊢
          obtain ⟨j, hj, e⟩ := unp_run (o := b.take s) (m := m) (by omega) (by omega) h6
          rw [e, ht s (by omega), hrl, show s + (a - s) = a by omega, take_run h1 h2]
          by_cases hm : m < a
          · rw [if_pos hm, if_pos (by omega)]
          · rw [if_neg hm]
            exact key j hj (by omega)
        · rw [if_neg hsa, List.nil_append] at h6 ⊢
          obtain rfl : s = a := by omega
          exact key k h6 h5
    · rw [pk_end hal] at h6 ⊢
      by_cases hs : s < b.length
      · rw [if_pos hs] at h6 ⊢
        have hl : (b.drop s).length = b.length - s := List.length_drop
        rw [← List.append_nil (runB (b.drop s))] at h6 ⊢
        obtain ⟨j, hj, e⟩ := unp_run (o := b.take s) (m := m) (by omega) (by omega) h6
        rw [e, ht s (by omega), hl, show s + (b.length - s) = b.length by omega]
        split
        · rfl
        · rw [List.take_append_drop, unp_nil]
      · rw [if_neg hs, unp_nil, if_neg (by omega), List.take_of_length_le (by omega)]
theorem unpV_pack (b : List UInt8) (m : Int) : unpV (packL b) m = if max m 0 < b.length then ([], 5) else (b, 0) := by
  have h := unp_pk b b.length 0 0 (packL b).length (max m 0).toNat (by omega) (by omega) (by omega) (by omega) (by omega) (Nat.le_refl _)
  have e : unpV (packL b) m = unp (packL b).length (b.take 0) (pk b b.length 0 0) (max m 0).toNat := rfl
  rw [e, h]
  by_cases hm : max m 0 < b.length
  · rw [if_pos hm, if_pos (by omega)]
  · rw [if_neg hm, if_neg (by omega)]
theorem open_seal (b : List UInt8) (h : b.length ≤ 65536) : openV (sealL b) = (b, 0) := by
  unfold sealL
  split
  · unfold openV
    rw [if_neg (by simp), if_neg (by simp), if_pos (by simp)]
    show unpV (packL b) 65536 = _
    rw [unpV_pack, if_neg (by omega)]
  · unfold openV
    rw [if_neg (by simp), if_neg (by simp), if_neg (by simp)]
    rfl
theorem seal_len (b : List UInt8) : (sealL b).length ≤ b.length + 1 := by
  unfold sealL; split
  · simp; omega
  · simp
def packbackS : FSpec
  | [.sb b f], [] => ⟨True, .w (.bool true), []⟩
  | _, _ => noRes
def Spackback (f : FuncId) : Option FSpec :=
  match f with
  | 7 => some yesS
  | 10 => some pack32S
  | 14 => some unp32S
  | 12 => some seal32S
  | 16 => some open32S
  | _ => none
theorem Spackback_ok : Fns Try.prog Spackback := by
  intro f s h
  unfold Spackback at h
  split at h
  · injection h with h; subst h; exact ⟨⟨_, Try.func7, by kernel_rfl, by kernel_rfl⟩, awake32_sound⟩
  · injection h with h; subst h; exact ⟨⟨_, Try.func10, by kernel_rfl, by kernel_rfl⟩, pack32_sound⟩
  · injection h with h; subst h; exact ⟨⟨_, Try.func14, by kernel_rfl, by kernel_rfl⟩, unp32_sound⟩
  · injection h with h; subst h; exact ⟨⟨_, Try.func12, by kernel_rfl, by kernel_rfl⟩, packseal32_sound⟩
  · injection h with h; subst h; exact ⟨⟨_, Try.func16, by kernel_rfl, by kernel_rfl⟩, packopen32_sound⟩
  · cases h
section
set_option maxRecDepth 100000
set_option maxHeartbeats 2000000 in
theorem packback_law : Sound Try.prog 5 packbackS := by
  refine fn_sound (S := Spackback) (T := ty) mixed ty_ok Spackback_ok Try.func5 (c := Try.f5.body.getD .skip) (by kernel_rfl) (by kernel_rfl) (fun xs pins hp _ => ?_)
  unfold packbackS at hp ⊢
  split at hp
  · rename_i b f _
    refine ⟨by simp, ?_⟩
    unfold Try.f5
    by_cases h1 : (600 : Int) < b.length
    · have d1 : decide ((600 : Int) < b.length) = true := decide_eq_true h1
      simp -implicitDefEqProofs only [evT, implies_true, forall_const, Option.getD, later_normal, aop, aLen, ev, slot, setSlot, putSlot, cv, cvl, aConv, aBin, aInt, aUn, aFn, aEq, Out.and, isBool, isPtr, List.length, IntKind.bits, evs, evo, evps, aCall, aUser, coes, coe, List.append, List.replicate, callOut, rootsL, AV.roots, lendsL, AV.lends, pinsOf, nodup, lendL, lend, closedB, noimmB, AV.noimm, AV.ren, renL, back, Nat.reduceAdd, Nat.reduceSub, Nat.reduceMul, Int.reduceToNat, reduceCtorEq, aLoad, subv, aIndexAddr, aIndex, TD.aggr, guardSlot, aPick, byte, word, aMin, aMax, Ax.Ends, EndsX, Ax.rvals, rone, AV.ids, idsL, newIds, upTo, pinHeap, gOf, ↓reduceIte, List.isEmpty, Int.reducePow, Nat.reducePow, Int.reduceMod, Nat.reduceLeDiff, Int.reduceLE, Int.reduceNe, Int.reduceEq, aBuildSlice, fillB, aAppend, appendB, viewB, Ax.look, Ax.put, Ax.drop, List.drop, List.take, asv, aMake, aCopy, srcB, fillG, viewG, appendG, appendI, fillI, aSlice, bnd, bnds, full3, cut, aFieldAddr, aField, aStore, setB, aBox, aBuild, fillS, allTy, AV.leaves, AV.okv, AV.leaf, one, splice, elemLeaves, Blk.size, Blk.len, Option.isSome, Option.isNone, isBytes, aStr, aNil, aAlloc, aExtract, viewI, Nat.reduceEqDiff, Nat.reduceLT, Nat.reduceBEq, List.contains, List.elem, Blk.closed, closedL, AV.closed, Blk.noimm, ↓gsplit_tt, ↓gsplit_ff, ↓gsplit_tf, ↓gsplit_ft, ↓csplit_t, ↓csplit_f, Ax.idx, AV.lentIds, lentIdsL, dropAll, givenUp, AV.clean, cleanL, Blk.clean, cleanB, quietC, flatTy, coldStr, notMs, eqV, eqF, isStruct, -coe, coe_w, coe_str, coe_agg, coe_tup, coe_sb, coe_si, coe_cp, coe_ms, coe_rf, coe_fn, coe_cons, ty, Spackback, yesS, d1]
    · have d1 : decide ((600 : Int) < b.length) = false := decide_eq_false h1
      have q1 : b.length ≤ 1000000 := by omega
      have v1 : unpV (packL b) b.length = (b, 0) := by rw [unpV_pack, if_neg (by omega)]
      have v2 : openV (sealL b) = (b, 0) := open_seal b (by omega)
      have v3 := unpV_pack b ((b.length : Int) - 1)
      have hsl := seal_len b
      have hpl := pack_len2 b
      have e1 : ((b.length : Int) - 1 + 9223372036854775808) % 18446744073709551616 - 9223372036854775808 = (b.length : Int) - 1 := by omega
      have e2 : ((b.length : Int) + 1 + 9223372036854775808) % 18446744073709551616 - 9223372036854775808 = (b.length : Int) + 1 := by omega
      have d2 : decide ((b.length : Int) + 1 < ((sealL b).length : Int)) = false := decide_eq_false (by clear e1 e2; omega)
      have q2 : (packL b).length ≤ 1000000 := by clear e1 e2; omega
      have q3 : (sealL b).length ≤ 1000000 := by clear e1 e2; omega
      have q4 : (b.length : Int) ≤ 9223372036854775807 := by clear e1 e2; omega
      have q5 : (b.length : Int) - 1 ≤ 9223372036854775807 := by clear e1 e2; omega
      have z0 : decide (((0 : Nat) : Int) = 0) = true := rfl
      have ds : ∀ l : List UInt8, decide (l = l) = true := fun l => decide_eq_true rfl
      obtain ⟨P, hP⟩ : ∃ P, packL b = P := ⟨_, rfl⟩
      obtain ⟨S, hS⟩ : ∃ S, sealL b = S := ⟨_, rfl⟩
      rw [hP] at v1 v3 q2
      rw [hS] at v2 d2 q3
      have v3b : (decide (((unpV P ((b.length : Int) - 1)).2 : Int) = 5) == decide ((0 : Int) < b.length)) = true := by
        rw [v3]
        by_cases hb : 0 < b.length
        · rw [if_pos (by clear e1 e2; omega), decide_eq_true (show (0 : Int) < b.length by omega)]; rfl
        · rw [if_neg (by clear e1 e2; omega), decide_eq_false (show ¬ (0 : Int) < b.length by omega)]; rfl
      simp -implicitDefEqProofs only [evT, implies_true, forall_const, Option.getD, later_normal, aop, aLen, ev, slot, setSlot, putSlot, cv, cvl, aConv, aBin, aInt, aUn, aFn, aEq, Out.and, isBool, isPtr, List.length, IntKind.bits, evs, evo, evps, aCall, aUser, coes, coe, List.append, List.replicate, callOut, rootsL, AV.roots, lendsL, AV.lends, pinsOf, nodup, lendL, lend, closedB, noimmB, AV.noimm, AV.ren, renL, back, Nat.reduceAdd, Nat.reduceSub, Nat.reduceMul, Int.reduceToNat, reduceCtorEq, aLoad, subv, aIndexAddr, aIndex, TD.aggr, guardSlot, aPick, byte, word, aMin, aMax, Ax.Ends, EndsX, Ax.rvals, rone, AV.ids, idsL, newIds, upTo, pinHeap, gOf, ↓reduceIte, List.isEmpty, Int.reducePow, Nat.reducePow, Int.reduceMod, Nat.reduceLeDiff, Int.reduceLE, Int.reduceNe, Int.reduceEq, aBuildSlice, fillB, aAppend, appendB, viewB, Ax.look, Ax.put, Ax.drop, List.drop, List.take, asv, aMake, aCopy, srcB, fillG, viewG, appendG, appendI, fillI, aSlice, bnd, bnds, full3, cut, aFieldAddr, aField, aStore, setB, aBox, aBuild, fillS, allTy, AV.leaves, AV.okv, AV.leaf, one, splice, elemLeaves, Blk.size, Blk.len, Option.isSome, Option.isNone, isBytes, aStr, aNil, aAlloc, aExtract, viewI, Nat.reduceEqDiff, Nat.reduceLT, Nat.reduceBEq, List.contains, List.elem, Blk.closed, closedL, AV.closed, Blk.noimm, ↓gsplit_tt, ↓gsplit_ff, ↓gsplit_tf, ↓gsplit_ft, ↓csplit_t, ↓csplit_f, Ax.idx, AV.lentIds, lentIdsL, dropAll, givenUp, AV.clean, cleanL, Blk.clean, cleanB, quietC, flatTy, coldStr, notMs, eqV, eqF, isStruct, -coe, coe_w, coe_str, coe_agg, coe_tup, coe_sb, coe_si, coe_cp, coe_ms, coe_rf, coe_fn, coe_cons, ty, Spackback, yesS, pack32S, unp32S, seal32S, open32S, hP, hS, v1, v2, v3b, d1, d2, q1, q2, q3, q4, q5, e1, e2, z0, ds, List.take_length]
  · exact hp.elim
end
theorem packback_dom {x : AV} (hx : Arg ty 6 22 x) : (packbackS [x] []).p ∧ (packbackS [x] []).x = .w (.bool true) := by
  obtain ⟨bs, f, rfl⟩ := arg_b32 hx
  exact ⟨trivial, rfl⟩
end Go.Proofs.Ytliabgocaijafaa
