/- Layer 5: what is laid is joined; what every right program lays. -/
import Derived.Test.YtgkkgbomhfdbkaaK5
namespace Go.Proofs.Ytgkkgbomhfdbkaa
open Ax
set_option linter.unusedSimpArgs false
set_option linter.unusedVariables false

def chunkL : Nat → List UInt8 → List (List UInt8)
  | 0, _ => []
  | n + 1, b => if b = [] then [] else b.take 61 :: chunkL n (b.drop 61)
theorem open_blk (k : UInt8) (x : List UInt8) (hk : k = 1 ∨ k = 2) (h : x.length ≤ 61) : openE (blkL k x) = 0 ∧ openK (blkL k x) = (k.toNat : Int) ∧ openB (blkL k x) = x := by
  have hl := blkL_length k x h
  have h63 : ((blkL k x).getD 63 0).toNat = 90 := by
    have : (blkL k x).getD 63 0 = 90 := by
      have e : blkL k x = (k :: UInt8.ofNat x.length :: (x ++ List.replicate (61 - x.length) 0)) ++ [90] := by simp [blkL]
      have hlen : (k :: UInt8.ofNat x.length :: (x ++ List.replicate (61 - x.length) 0)).length = 63 := by simp; omega
      rw [e, List.getD_eq_getElem?_getD, List.getElem?_append_right (by omega), hlen]
      rfl
    rw [this]; rfl
  have h0 : (blkL k x).getD 0 0 = k := rfl
  have h1 : ((blkL k x).getD 1 0).toNat = x.length := by
    show (UInt8.ofNat x.length).toNat = _
    rw [UInt8.toNat_ofNat']; omega
  have hb := body_blk k x h
  have hkk : (k.toNat : Int) = 1 ∨ (k.toNat : Int) = 2 := by rcases hk with rfl | rfl <;> decide
  have hE0 : sealE (k.toNat : Int) x = 0 := by unfold sealE; rw [if_pos hkk, if_pos h]
  have hs : sealB (k.toNat : Int) x = blkL k x := by
    unfold sealB; rw [if_pos hE0]; congr 1
    rw [Int.toNat_natCast]; simp
  have hE : openE (blkL k x) = 0 := by
    unfold openE
    rw [if_pos ⟨hl, h63⟩, if_pos]
    refine ⟨by omega, ?_⟩
    rw [h0, hb]; exact hs
  refine ⟨hE, ?_, ?_⟩
  · unfold openK; rw [if_pos hE, h0]
  · unfold openB; rw [if_pos hE, hb]
theorem ok1_blk (x : List UInt8) (h : x.length ≤ 61) : blkOk true (blkL 1 x) := by
  obtain ⟨h1, h2, _⟩ := open_blk 1 x (.inl rfl) h
  exact blkOk_true.2 ⟨h1, h2⟩
theorem ok2_blk (x : List UInt8) (h : x.length ≤ 61) : blkOk false (blkL 2 x) := by
  obtain ⟨h1, h2, _⟩ := open_blk 2 x (.inr rfl) h
  exact blkOk_false.2 ⟨h1, h2⟩
theorem no_blk1 (x : List UInt8) (h : x.length ≤ 61) : ¬ blkOk false (blkL 1 x) := by
  obtain ⟨h1, h2, _⟩ := open_blk 1 x (.inl rfl) h
  intro h3
  have := (blkOk_false.1 h3).2
  rw [h2] at this
  exact absurd this (by decide)

theorem join_more : ∀ (n : Nat) (r : List UInt8) (S : List (List UInt8)), joinGo false (moreL n r ++ S) = chunkL n r ++ joinGo false S
  | 0, r, S => rfl
  | n + 1, r, S => by
    unfold moreL chunkL
    by_cases h : r = []
    · rw [if_pos h, if_pos h]; rfl
    · rw [if_neg h, if_neg h]
      have hl : (r.take 61).length ≤ 61 := by rw [List.length_take]; omega
      rw [List.cons_append]
      show (if blkOk false (blkL 2 (r.take 61)) then openB (blkL 2 (r.take 61)) :: joinGo false (moreL n (r.drop 61) ++ S) else []) = _
      rw [if_pos (ok2_blk _ hl), (open_blk 2 _ (.inr rfl) hl).2.2, join_more n (r.drop 61) S]
      rfl
theorem chunk_flat : ∀ (n : Nat) (r : List UInt8), r.length ≤ n → (chunkL n r).flatten = r
  | 0, r, h => by
    have : r = [] := List.length_eq_zero_iff.1 (by omega)
    subst this; rfl
  | n + 1, r, h => by
    unfold chunkL
    by_cases hr : r = []
    · rw [if_pos hr, hr]; rfl
    · rw [if_neg hr]
      have := List.length_pos_iff.2 hr
      rw [List.flatten_cons, chunk_flat n (r.drop 61) (by rw [List.length_drop]; omega), List.take_append_drop]
theorem chunk_len : ∀ (n : Nat) (r : List UInt8), r.length ≤ n → (chunkL n r).length = (r.length + 60) / 61 ∧ (moreL n r).length = (r.length + 60) / 61
  | 0, r, h => by
    have : r.length = 0 := by omega
    rw [this]; exact ⟨rfl, rfl⟩
  | n + 1, r, h => by
    unfold chunkL moreL
    by_cases hr : r = []
    · rw [if_pos hr, if_pos hr, hr]; exact ⟨rfl, rfl⟩
    · rw [if_neg hr, if_neg hr]
      have := List.length_pos_iff.2 hr
      obtain ⟨h1, h2⟩ := chunk_len n (r.drop 61) (by rw [List.length_drop]; omega)
      rw [List.length_cons, List.length_cons, h1, h2, List.length_drop]
      omega
theorem join_lay (b : List UInt8) (S : List (List UInt8)) : joinGo true (layL b ++ S) = b.take 61 :: (chunkL (b.drop 61).length (b.drop 61) ++ joinGo false S) := by
  have hl : (b.take 61).length ≤ 61 := by rw [List.length_take]; omega
  show (if blkOk true (blkL 1 (b.take 61)) then openB (blkL 1 (b.take 61)) :: joinGo false (moreF (b.drop 61) ++ S) else []) = _
  rw [if_pos (ok1_blk _ hl), (open_blk 1 _ (.inl rfl) hl).2.2]
  unfold moreF
  rw [join_more]
theorem layL_len (b : List UInt8) : ((layL b).length : Int) = needI b.length := by
  unfold layL moreF needI
  rw [List.length_cons, (chunk_len _ (b.drop 61) (Nat.le_refl _)).2, List.length_drop]
  omega
/-- What is laid is joined, where what stands behind goes on with nothing. -/
theorem join_back (b : List UInt8) (S : List (List UInt8)) (hS : joinGo false S = []) : joinB (layL b ++ S) = b ∧ joinN (layL b ++ S) = needI b.length ∧ joinE (layL b ++ S) = 0 := by
  have h := join_lay b S
  rw [hS, List.append_nil] at h
  refine ⟨?_, ?_, ?_⟩
  · unfold joinB
    rw [h, List.flatten_cons, chunk_flat _ _ (Nat.le_refl _), List.take_append_drop]
  · unfold joinN
    rw [h, List.length_cons, (chunk_len _ (b.drop 61) (Nat.le_refl _)).1]
    unfold needI
    rw [List.length_drop]; omega
  · unfold joinE
    rw [h, List.length_cons, if_neg (by omega)]
theorem sbF_sbp (G : List (List UInt8)) : G.map sbF = (G.map fun x => (x, false)).map sbp := by rw [List.map_map]; rfl
theorem sbF_avB (G : List (List UInt8)) : (G.map sbF).map avB = G := by rw [List.map_map]; simp [Function.comp_def, avB, sbF]
theorem mem_lay_more : ∀ (n : Nat) (r x : List UInt8), x ∈ moreL n r → x.length = 64
  | 0, r, x, h => by simp [moreL] at h
  | n + 1, r, x, h => by
    unfold moreL at h
    by_cases hr : r = []
    · rw [if_pos hr] at h; simp at h
    · rw [if_neg hr] at h
      rcases List.mem_cons.1 h with rfl | h
      · exact blkL_length _ _ (by rw [List.length_take]; omega)
      · exact mem_lay_more n _ x h
theorem mem_lay (b x : List UInt8) (h : x ∈ layL b) : x.length = 64 := by
  rcases List.mem_cons.1 h with rfl | h
  · exact blkL_length _ _ (by rw [List.length_take]; omega)
  · exact mem_lay_more _ _ x h
/-- What 'Join' asks of blocks, of whole ones. -/
theorem join_pre (G : List (List UInt8)) (hG : ∀ x ∈ G, x.length ≤ 1000000) : ∃ ps : List (List UInt8 × Bool), G.map sbF = ps.map sbp ∧ ∀ p ∈ ps, p.1.length ≤ 1000000 := by
  refine ⟨G.map fun x => (x, false), sbF_sbp G, fun p hp => ?_⟩
  obtain ⟨x, hx, rfl⟩ := List.mem_map.1 hp
  exact hG x hx

section
set_option maxRecDepth 100000
def Saw5 (f : FuncId) : Option FSpec :=
  match f with
  | 16 => some bsealS
  | 18 => some bopenS
  | 20 => some blayS
  | 25 => some bjoinS
  | 22 => some needS
  | _ => none
theorem Saw5_ok : Fns Try.prog Saw5 := by
  intro f s h
  unfold Saw5 at h
  split at h
  · injection h with h; subst h; exact ⟨⟨_, Try.func16, by kernel_rfl, by kernel_rfl⟩, bseal_sound⟩
  · injection h with h; subst h; exact ⟨⟨_, Try.func18, by kernel_rfl, by kernel_rfl⟩, bopen_sound⟩
  · injection h with h; subst h; exact ⟨⟨_, Try.func20, by kernel_rfl, by kernel_rfl⟩, blay_sound⟩
  · injection h with h; subst h; exact ⟨⟨_, Try.func25, by kernel_rfl, by kernel_rfl⟩, bjoin_sound⟩
  · injection h with h; subst h; exact ⟨⟨_, Try.func22, by kernel_rfl, by kernel_rfl⟩, need_sound⟩
  · cases h
def yes5S : FSpec
  | [], [] => ⟨True, .w (.bool true), []⟩
  | _, _ => noRes
set_option maxHeartbeats 1000000 in
theorem awake5_sound : Sound Try.prog 15 yes5S := by
  refine fn_sound (S := Saw5) (T := ty) mixed ty_ok Saw5_ok Try.func15 (c := Try.f15.body.getD .skip) (by kernel_rfl) (by kernel_rfl) (fun xs pins hp _ => ?_)
  unfold yes5S at hp ⊢
  split at hp
  · refine ⟨by simp, ?_⟩
    unfold Try.f15
    have hE : sealE 1 [97, 98] = 0 := by decide
    have hB : sealB 1 [97, 98] = blkL 1 [97, 98] := if_pos hE
    obtain ⟨o1, o2, o3⟩ := open_blk 1 [97, 98] (.inl rfl) (by decide)
    have h5 : (blkL 1 [97, 98]).take 5 = [1, 2, 97, 98, 0] := by decide +kernel
    have h63 : (blkL 1 [97, 98]).getD 63 0 = 90 := by decide +kernel
    have hl := blkL_length 1 [97, 98] (by decide)
    generalize blkL 1 [97, 98] = X at *
    have e97 : UInt8.ofNat 97 = 97 := rfl
    have e98 : UInt8.ofNat 98 = 98 := rfl
    rw [← e97, ← e98] at hE hB
    obtain ⟨Z, hZ⟩ : ∃ Z : List UInt8, List.replicate 62 0 = Z := ⟨_, rfl⟩
    have hZl : Z.length = 62 := by rw [← hZ]; rfl
    obtain ⟨j1, j2, j3⟩ := join_back Z [] rfl
    rw [List.append_nil] at j1 j2 j3
    have hll := layL_len Z
    have hpre := join_pre (layL Z) (fun x hx => by rw [mem_lay _ _ hx]; decide)
    rw [hZl] at hll j2
    have n62 : needI 62 = 2 := by decide
    have n61 : needI 61 = 1 := by decide
    have ekk : ((1 : UInt8).toNat : Int) = 1 := rfl
    rw [ekk] at o2
    have en : (((62 : Nat) : Int)) = 62 := rfl
    rw [en] at hll j2
    rw [n62] at hll j2
    have hll2 : (layL Z).length = 2 := by omega
    have hcl : ∀ y ∈ (layL Z).map sbF, y.closed = true := fun y hy => by obtain ⟨x, _, rfl⟩ := List.mem_map.1 hy; rfl
    generalize hLZ : layL Z = LZ at *
    have etz : List.take 62 Z = Z := List.take_of_length_le (by omega)
    have ett : List.take 2 (List.map sbF LZ) = List.map sbF LZ := List.take_of_length_le (by simp; omega)
    have em0 : Z.length ≤ 1000000 := by omega
    simp (config := { maxSteps := 2000000 }) -implicitDefEqProofs only [Option.getD, awp_skip, awp_label, awp_ret, awp_exit, awp_region, awp_seq, awp_block, awp_cond, aops_nil, aops_plain, aops_guard, later_normal, later_exit, later_ret, blockK_normal, blockK_exit, blockK_ret, regK_apply, aop, aLen, ev, slot, setSlot, putSlot, cv, cvl, aConv, aBin, aInt, aUn, aEq, Out.and, isBool, isPtr, true_and, and_true, List.length, IntKind.bits, evs, evo, evps, aCall, aUser, coes, coe, List.append, List.replicate, callOut, rootsL, AV.roots, lendsL, AV.lends, pinsOf, nodup, lendL, lend, closedB, noimmB, AV.noimm, AV.ren, renL, back, Nat.reduceAdd, Nat.reduceSub, Nat.reduceMul, Int.reduceToNat, Nat.le_refl, reduceCtorEq, false_implies, implies_true, List.nil_append, List.append_nil, List.cons_append, Nat.zero_le, Bool.false_eq_true, aLoad, subv, aIndexAddr, aIndex, TD.aggr, cond_false, cond_true, guardSlot, List.getElem?_cons_succ, List.getElem?_cons_zero, aPick, byte, word, aMin, aMax, Ax.Ends, EndsX, Ax.rvals, rone, AV.ids, idsL, newIds, upTo, pinHeap, gOf, ↓reduceIte, forall_const, List.isEmpty, ne_eq, not_false_eq_true, and_self, true_implies, AV.w.injEq, Value.int.injEq, Value.bool.injEq, IntKind.wrap_u8, IntKind.wrap_u64, IntKind.wrap_i64, Int.reducePow, Nat.reducePow, Nat.min_def, Int.reduceMod, Nat.reduceLeDiff, Int.reduceLE, Int.reduceNe, Int.reduceEq, aBuildSlice, fillB, aAppend, appendB, viewB, Ax.look, Ax.put, Ax.drop, List.drop, List.take, List.set_cons_zero, List.set_cons_succ, asv, aMake, aCopy, srcB, fillG, viewG, appendG, appendI, fillI, aSlice, bnd, bnds, full3, cut, aFieldAddr, aField, aLoad, aStore, setB, aBox, aBuild, fillS, allTy, AV.leaves, AV.okv, AV.leaf, one, splice, elemLeaves, Blk.size, Blk.len, List.replicate_succ, List.replicate_zero, Option.isSome, Option.isNone, isBytes, aStr, aNil, aAlloc, aExtract, aConv, viewI, Nat.reduceEqDiff, Nat.reduceLT, List.length_append, List.length_cons, List.length_nil, Nat.zero_add, Nat.add_zero, Nat.reduceBEq, List.contains, List.elem, Bool.not_true, Bool.not_false, Bool.true_and, Bool.and_true, Bool.and_false, Bool.false_and, Blk.closed, closedL, AV.closed, Blk.noimm, not_true_eq_false, not_false_iff, or_false, or_true, false_or, true_or, Int.toNat_natCast, List.length_replicate, setB, ↓gsplit_tt, ↓gsplit_ff, ↓gsplit_tf, ↓gsplit_ft, gsplit_bt, gsplit_bf, ↓csplit_t, ↓csplit_f, csplit_b, Ax.idx, beq_self_eq_true, BEq.rfl, pinsOf, List.mem_cons, List.not_mem_nil, AV.lentIds, lentIdsL, dropAll, givenUp, AV.clean, cleanL, Blk.clean, cleanB, quietC, flatTy, List.all_cons, List.all_nil, Bool.or_false, Bool.or_true, Bool.true_or, Bool.false_or, decide_true, decide_false, coldStr, notMs, eqV, eqF, isStruct, -List.replicate, -List.replicate_succ, ty, Saw5, bsealS, bopenS, blayS, bjoinS, needS, hE, hB, o1, o2, o3, h5, h63, hl, hZ, hZl, j1, j2, j3, hLZ, hll2, n61, n62, sbF_avB, List.length_map, etz, ett, hcl, hpre, closed_sbF]
    exact ⟨by decide, by decide, by decide, hcl, by decide⟩
  · exact hp.elim
end
end Go.Proofs.Ytgkkgbomhfdbkaa
