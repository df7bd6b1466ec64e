/- Layer 8: metas and a generation are read of their bytes. -/
import Derived.Test.YtlbdhkgjhjcgiaaEa
namespace Go.Proofs.Ytlbdhkgjhjcgiaa
open Ax
set_option linter.unusedSimpArgs false
set_option linter.unusedVariables false

/-- A list of metas: none is nil. -/
def lstA : List Mt → AV
  | [] => .sg 1 [] true
  | m :: r => .sg 9 ((m :: r).map mtA) false
def gaA (b : List UInt8) : AV := if okG b then .tup [.w (.int .i64 (gGen b)), lstA (gLst b (gCnt b).toNat), .w (.int .i64 0)] else .tup [.w (.int .i64 0), .sg 1 [] true, .w (.int .i64 4)]
def getAllS : FSpec
  | [.sb b f], [] => ⟨b.length ≤ 1000000, gaA b, []⟩
  | _, _ => noRes
def SgetAll8 (f : FuncId) : Option FSpec :=
  match f with
  | 32 => some newS
  | 34 => some numS
  | 35 => some rtextS'
  | 36 => some doneS
  | 16 => some get8S
  | 21 => some putAllS
  | 37 => some eqB8
  | _ => none
theorem SgetAll8_ok : Fns Try.prog SgetAll8 := by
  intro f s h
  unfold SgetAll8 at h
  split at h
  · injection h with h; subst h; exact ⟨⟨_, Try.func32, by kernel_rfl, by kernel_rfl⟩, new_sound⟩
  · injection h with h; subst h; exact ⟨⟨_, Try.func34, by kernel_rfl, by kernel_rfl⟩, num_sound⟩
  · injection h with h; subst h; exact ⟨⟨_, Try.func35, by kernel_rfl, by kernel_rfl⟩, mtext_sound⟩
  · injection h with h; subst h; exact ⟨⟨_, Try.func36, by kernel_rfl, by kernel_rfl⟩, done_sound⟩
  · injection h with h; subst h; exact ⟨⟨_, Try.func16, by kernel_rfl, by kernel_rfl⟩, get8_sound⟩
  · injection h with h; subst h; exact ⟨⟨_, Try.func21, by kernel_rfl, by kernel_rfl⟩, putAll8_sound⟩
  · injection h with h; subst h; exact ⟨⟨_, Try.func37, by kernel_rfl, by kernel_rfl⟩, eqB8_sound⟩
  · cases h
theorem zg_rng (v : Nat) (h : v < 18446744073709551616) : -9223372036854775808 ≤ zg (v : Int) ∧ zg (v : Int) ≤ 9223372036854775807 := by
  unfold zg; split <;> omega
theorem getM_rng : ∀ (l : List UInt8) (i u : Nat), u < 128 ^ i → i ≤ 10 → -9223372036854775808 ≤ (getM i u l).1 ∧ (getM i u l).1 ≤ 9223372036854775807
  | [], i, u, _, _ => by unfold getM; split <;> decide
  | c :: r, i, u, hu, hi => by
    unfold getM
    have hp : (128 : Nat) ^ (i + 1) = 128 * 128 ^ i := by rw [Nat.pow_succ, Nat.mul_comm]
    split
    · decide
    · rename_i h10
      split
      · refine getM_rng r (i + 1) _ ?_ (by omega)
        have h1 : c.toNat % 128 * 128 ^ i ≤ 127 * 128 ^ i := Nat.mul_le_mul_right _ (by omega)
        omega
      · rename_i hc
        split
        · decide
        · rename_i hb
          refine zg_rng _ ?_
          by_cases h9 : i = 9
          · subst h9
            have h1 : c.toNat * 128 ^ 9 ≤ 1 * 128 ^ 9 := Nat.mul_le_mul_right _ (by omega)
            have h2 : (128 : Nat) ^ 9 = 9223372036854775808 := by decide
            omega
          · have h1 : c.toNat * 128 ^ i ≤ 127 * 128 ^ i := Nat.mul_le_mul_right _ (by omega)
            have h2 : (128 : Nat) ^ (i + 1) ≤ 128 ^ 9 := Nat.pow_le_pow_right (by decide) (by omega)
            have h3 : (128 : Nat) ^ 9 = 9223372036854775808 := by decide
            omega
theorem numN_rng (b : List UInt8) (e : Int) : -9223372036854775808 ≤ numN b e ∧ numN b e ≤ 9223372036854775807 := by
  unfold numN; split
  · rw [getL_M]; exact getM_rng b 0 0 (by decide) (by decide)
  · decide
/-- How it ends. -/
theorem ga_cases (b : List UInt8) (hb : b.length ≤ 1000000) {n : Nat} (hn : gCnt b = n) {L : List UInt8} {E D C : Int} {W : List UInt8} (hQ : tit8 (gq2 b) n = (L, E)) (hD : (if E = 0 ∧ 0 < L.length then (4 : Int) else E) = D)
    (hC : allE (gGen b) (gLst b n) = C) (hW : allO (gGen b) (gLst b n) = W) (hnb : n ≤ b.length) :
    (okG b ∧ decide (D = 0) = true ∧ decide (C = 0) = true ∧ decide (W = b) = true) ∨ (¬ okG b ∧ decide (D = 0) = false) ∨ (¬ okG b ∧ decide (D = 0) = true ∧ decide (C = 0) = false) ∨ (¬ okG b ∧ decide (D = 0) = true ∧ decide (C = 0) = true ∧ decide (W = b) = false) := by
  subst hC hW hD
  have hon : okG b ↔ allE (gGen b) (gLst b n) = 0 ∧ allB (gGen b) (gLst b n) = b := by
    unfold okG
    rw [hn, Int.toNat_natCast]
    exact ⟨fun h => h.2.2, fun h => ⟨by omega, by omega, h.1, h.2⟩⟩
  by_cases hg : okG b
  · obtain ⟨g1, g2⟩ := hon.1 hg
    have hO : allO (gGen b) (gLst b n) = b := by unfold allO; rw [if_pos g1]; exact g2
    have h5 := (okG_lay (gGen b) (gLst b n) g1 (by rw [gLst_len]; omega) (fun m hm => (gLst_fit b hb n m hm).1)).2.2.2.2.1
    rw [g2, gLst_len, hQ] at h5
    injection h5 with h5 h6
    subst h5 h6
    exact .inl ⟨hg, by simp, decide_eq_true g1, decide_eq_true hO⟩
  · by_cases h1 : (if E = 0 ∧ 0 < L.length then (4 : Int) else E) = 0
    · by_cases h2 : allE (gGen b) (gLst b n) = 0
      · by_cases h3 : allO (gGen b) (gLst b n) = b
        · unfold allO at h3; rw [if_pos h2] at h3; exact (hg (hon.2 ⟨h2, h3⟩)).elim
        · exact .inr (.inr (.inr ⟨hg, decide_eq_true h1, decide_eq_true h2, decide_eq_false h3⟩))
      · exact .inr (.inr (.inl ⟨hg, decide_eq_true h1, decide_eq_false h2⟩))
    · exact .inr (.inl ⟨hg, decide_eq_false h1⟩)
theorem ga_bad (b : List UInt8) (hb : b.length ≤ 1000000) {i : Nat} (hn : (i : Int) < gCnt b) (h : ¬ getOk (tx8 (tit8 (gq2 b) i))) : ¬ okG b := by
  intro hg
  obtain ⟨h1, h2, h3, h4⟩ := hg
  have h5 := (okG_lay (gGen b) (gLst b (gCnt b).toNat) h3 (by rw [gLst_len]; omega) (fun m hm => (gLst_fit b hb _ m hm).1)).2.2.2.2.2.2 i (by rw [gLst_len]; omega)
  rw [h4] at h5
  exact h h5
theorem closed_all (l : List Mt) : ∀ y : AV, y ∈ l.map mtA → y.closed = true := by
  intro y hy
  obtain ⟨m, _, rfl⟩ := List.mem_map.1 hy
  rfl
theorem lstA_nil : lstA [] = .sg 1 [] true := rfl
theorem lstA_ne {l : List Mt} (h : 0 < l.length) : lstA l = .sg 9 (l.map mtA) false := by
  cases l with
  | nil => simp at h
  | cons m r => rfl
theorem lst_fits (l : List Mt) (h : fitL l) : ∃ k : List Mt, l.map mtA = k.map mtA ∧ fitL k := ⟨l, rfl, h⟩
section
set_option maxRecDepth 100000
set_option maxHeartbeats 8000000 in
theorem getAll8_sound : Sound Try.prog 18 getAllS := by
  refine fn_soundW (S := SgetAll8) (T := ty) mixed ty_ok SgetAll8_ok Try.func18 (c := Try.f18.body.getD .skip) (by kernel_rfl) (by kernel_rfl) (fun xs pins hp _ => ?_)
  have hx : ∃ b f, xs = [.sb b f] ∧ pins = [] ∧ b.length ≤ 1000000 := by
    unfold getAllS at hp
    split at hp
    · rename_i b f _
      exact ⟨b, f, rfl, rfl, hp⟩
    · exact hp.elim
  obtain ⟨b, f, rfl, rfl, hb⟩ := hx
  clear hp
  refine ⟨by simp, ?_⟩
  obtain ⟨gen, hgen⟩ : ∃ x, gGen b = x := ⟨_, rfl⟩
  obtain ⟨N, hN⟩ : ∃ x, gCnt b = x := ⟨_, rfl⟩
  obtain ⟨b1, e1, hq1⟩ : ∃ x y, gq1 b = (x, y) := ⟨_, _, rfl⟩
  obtain ⟨b2, e2, hq2⟩ : ∃ x y, gq2 b = (x, y) := ⟨_, _, rfl⟩
  have h1 : numN b 0 = gen := hgen
  have h2 : numL b 0 = b1 := congrArg Prod.fst hq1
  have h3 : numE b 0 = e1 := congrArg Prod.snd hq1
  have h4 : numN b1 e1 = N := by rw [← hN]; unfold gCnt; rw [hq1]; rfl
  have h5 : numL b1 e1 = b2 := by have := congrArg Prod.fst hq2; unfold gq2 at this; rw [hq1] at this; exact this
  have h6 : numE b1 e1 = e2 := by have := congrArg Prod.snd hq2; unfold gq2 at this; rw [hq1] at this; exact this
  have hl1 : b1.length ≤ 1000000 := by have := numL_length b 0; rw [h2] at this; omega
  have hl2 : b2.length ≤ b.length := by have := gq2_len b; rw [hq2] at this; exact this
  have hgr : -9223372036854775808 ≤ gen ∧ gen ≤ 9223372036854775807 := by rw [← h1]; exact numN_rng b 0
  unfold Try.f18
  by_cases hn1 : N < 0
  · have d1 : decide (N < 0) = true := decide_eq_true hn1
    have hv : gaA b = .tup [.w (.int .i64 0), .sg 1 [] true, .w (.int .i64 4)] := if_neg (fun h => by have := h.1; omega)
    simp -implicitDefEqProofs only [evT, evD0, evD1, evD2, implies_true, forall_const, Option.getD, later_normal, aop, aLen, ev, putSlot, cv, cvl, aConv, aBin, aInt, aUn, aFn, aEq, List.length, IntKind.bits, evo, coe, List.append, List.replicate, Nat.reduceAdd, Nat.reduceSub, Nat.reduceMul, Int.reduceToNat, reduceCtorEq, aIndexAddr, aIndex, TD.aggr, aPick, aMin, aMax, Ax.Ends, rone, ↓reduceIte, List.isEmpty, Int.reducePow, Nat.reducePow, Int.reduceMod, Nat.reduceLeDiff, Int.reduceLE, Int.reduceNe, Int.reduceEq, aAppend, appendB, viewB, List.drop, List.take, aRange, aNext, aCopy, srcB, viewG, appendG, appendI, aSlice, bnd, full3, aStore, setB, AV.leaves, AV.okv, AV.leaf, one, elemLeaves, Blk.size, Blk.len, Option.isSome, Option.isNone, aStr, aNil, aExtract, viewI, Nat.reduceEqDiff, Nat.reduceLT, Nat.reduceBEq, List.contains, List.elem, Blk.closed, Blk.noimm, ↓gsplit_tt, ↓gsplit_ff, ↓gsplit_tf, ↓gsplit_ft, ↓csplit_t, ↓csplit_f, givenUp, Blk.clean, notMs, -coe, coe_w, coe_str, coe_agg, coe_tup, coe_sb, coe_si, coe_cp, coe_ms, coe_rf, coe_fn, coe_cons, ty, SgetAll8, getAllS, newS, numS, rd, hb, h1, h2, h3, h4, h5, h6, hl1, d1, hv]
    refine ⟨_, Weak.refl _, ?_⟩
    simp -implicitDefEqProofs only [evT, evD0, evD1, evD2, implies_true, forall_const, Option.getD, later_normal, aop, aLen, ev, putSlot, cv, cvl, aConv, aBin, aInt, aUn, aFn, aEq, List.length, IntKind.bits, evo, coe, List.append, List.replicate, Nat.reduceAdd, Nat.reduceSub, Nat.reduceMul, Int.reduceToNat, reduceCtorEq, aIndexAddr, aIndex, TD.aggr, aPick, aMin, aMax, Ax.Ends, rone, ↓reduceIte, List.isEmpty, Int.reducePow, Nat.reducePow, Int.reduceMod, Nat.reduceLeDiff, Int.reduceLE, Int.reduceNe, Int.reduceEq, aAppend, appendB, viewB, List.drop, List.take, aRange, aNext, aCopy, srcB, viewG, appendG, appendI, aSlice, bnd, full3, aStore, setB, AV.leaves, AV.okv, AV.leaf, one, elemLeaves, Blk.size, Blk.len, Option.isSome, Option.isNone, aStr, aNil, aExtract, viewI, Nat.reduceEqDiff, Nat.reduceLT, Nat.reduceBEq, List.contains, List.elem, Blk.closed, Blk.noimm, ↓gsplit_tt, ↓gsplit_ff, ↓gsplit_tf, ↓gsplit_ft, ↓csplit_t, ↓csplit_f, givenUp, Blk.clean, notMs, -coe, coe_w, coe_str, coe_agg, coe_tup, coe_sb, coe_si, coe_cp, coe_ms, coe_rf, coe_fn, coe_cons, ty, getAllS, hv]
  · have d1 : decide (N < 0) = false := decide_eq_false hn1
    by_cases hn2 : (b.length : Int) < N
    · have d2 : decide ((b.length : Int) < N) = true := decide_eq_true hn2
      have hv : gaA b = .tup [.w (.int .i64 0), .sg 1 [] true, .w (.int .i64 4)] := if_neg (fun h => by have := h.2.1; omega)
      simp -implicitDefEqProofs only [evT, evD0, evD1, evD2, implies_true, forall_const, Option.getD, later_normal, aop, aLen, ev, putSlot, cv, cvl, aConv, aBin, aInt, aUn, aFn, aEq, List.length, IntKind.bits, evo, coe, List.append, List.replicate, Nat.reduceAdd, Nat.reduceSub, Nat.reduceMul, Int.reduceToNat, reduceCtorEq, aIndexAddr, aIndex, TD.aggr, aPick, aMin, aMax, Ax.Ends, rone, ↓reduceIte, List.isEmpty, Int.reducePow, Nat.reducePow, Int.reduceMod, Nat.reduceLeDiff, Int.reduceLE, Int.reduceNe, Int.reduceEq, aAppend, appendB, viewB, List.drop, List.take, aRange, aNext, aCopy, srcB, viewG, appendG, appendI, aSlice, bnd, full3, aStore, setB, AV.leaves, AV.okv, AV.leaf, one, elemLeaves, Blk.size, Blk.len, Option.isSome, Option.isNone, aStr, aNil, aExtract, viewI, Nat.reduceEqDiff, Nat.reduceLT, Nat.reduceBEq, List.contains, List.elem, Blk.closed, Blk.noimm, ↓gsplit_tt, ↓gsplit_ff, ↓gsplit_tf, ↓gsplit_ft, ↓csplit_t, ↓csplit_f, givenUp, Blk.clean, notMs, -coe, coe_w, coe_str, coe_agg, coe_tup, coe_sb, coe_si, coe_cp, coe_ms, coe_rf, coe_fn, coe_cons, ty, SgetAll8, getAllS, newS, numS, rd, hb, h1, h2, h3, h4, h5, h6, hl1, d1, d2, hv]
      refine ⟨_, Weak.refl _, ?_⟩
      simp -implicitDefEqProofs only [evT, evD0, evD1, evD2, implies_true, forall_const, Option.getD, later_normal, aop, aLen, ev, putSlot, cv, cvl, aConv, aBin, aInt, aUn, aFn, aEq, List.length, IntKind.bits, evo, coe, List.append, List.replicate, Nat.reduceAdd, Nat.reduceSub, Nat.reduceMul, Int.reduceToNat, reduceCtorEq, aIndexAddr, aIndex, TD.aggr, aPick, aMin, aMax, Ax.Ends, rone, ↓reduceIte, List.isEmpty, Int.reducePow, Nat.reducePow, Int.reduceMod, Nat.reduceLeDiff, Int.reduceLE, Int.reduceNe, Int.reduceEq, aAppend, appendB, viewB, List.drop, List.take, aRange, aNext, aCopy, srcB, viewG, appendG, appendI, aSlice, bnd, full3, aStore, setB, AV.leaves, AV.okv, AV.leaf, one, elemLeaves, Blk.size, Blk.len, Option.isSome, Option.isNone, aStr, aNil, aExtract, viewI, Nat.reduceEqDiff, Nat.reduceLT, Nat.reduceBEq, List.contains, List.elem, Blk.closed, Blk.noimm, ↓gsplit_tt, ↓gsplit_ff, ↓gsplit_tf, ↓gsplit_ft, ↓csplit_t, ↓csplit_f, givenUp, Blk.clean, notMs, -coe, coe_w, coe_str, coe_agg, coe_tup, coe_sb, coe_si, coe_cp, coe_ms, coe_rf, coe_fn, coe_cons, ty, getAllS, hv]
    · have d2 : decide ((b.length : Int) < N) = false := decide_eq_false hn2
      obtain ⟨n, rfl⟩ : ∃ n : Nat, N = n := ⟨N.toNat, by omega⟩
      simp -implicitDefEqProofs only [evT, evD0, evD1, evD2, implies_true, forall_const, Option.getD, later_normal, aop, aLen, ev, putSlot, cv, cvl, aConv, aBin, aInt, aUn, aFn, aEq, List.length, IntKind.bits, evo, coe, List.append, List.replicate, Nat.reduceAdd, Nat.reduceSub, Nat.reduceMul, Int.reduceToNat, reduceCtorEq, aIndexAddr, aIndex, TD.aggr, aPick, aMin, aMax, Ax.Ends, rone, ↓reduceIte, List.isEmpty, Int.reducePow, Nat.reducePow, Int.reduceMod, Nat.reduceLeDiff, Int.reduceLE, Int.reduceNe, Int.reduceEq, aAppend, appendB, viewB, List.drop, List.take, aRange, aNext, aCopy, srcB, viewG, appendG, appendI, aSlice, bnd, full3, aStore, setB, AV.leaves, AV.okv, AV.leaf, one, elemLeaves, Blk.size, Blk.len, Option.isSome, Option.isNone, aStr, aNil, aExtract, viewI, Nat.reduceEqDiff, Nat.reduceLT, Nat.reduceBEq, List.contains, List.elem, Blk.closed, Blk.noimm, ↓gsplit_tt, ↓gsplit_ff, ↓gsplit_tf, ↓gsplit_ft, ↓csplit_t, ↓csplit_f, givenUp, Blk.clean, notMs, -coe, coe_w, coe_str, coe_agg, coe_tup, coe_sb, coe_si, coe_cp, coe_ms, coe_rf, coe_fn, coe_cons, ty, SgetAll8, getAllS, newS, numS, rd, hb, h1, h2, h3, h4, h5, h6, hl1, d1, d2]
      refine awp_loopW ⟨fun m σ => ∃ (i : Nat) (L : List UInt8) (E : Int), m = n - i ∧ i ≤ n ∧ tit8 (gq2 b) i = (L, E) ∧
        ((i = 0 ∧ σ = ⟨[.sb b f, .junk, .junk, .junk, .junk, .rf 4 2 0 0, .w (.int .i64 gen), .w (.int .i64 n), .sg 1 [] true, .junk, .junk, .junk, .junk, .junk, .junk, .junk, .junk, .junk, .junk, .junk, .junk, .junk, .junk, .junk, .junk, .junk, .junk, .w (.int .i64 n), .w (.int .i64 i), .junk, .junk, .junk, .junk, .junk, .junk, .junk, .junk, .junk, .junk, .junk, .junk, .junk, .junk, .junk, .junk, .junk, .junk, .junk, .junk, .junk, .junk, .junk, .junk, .junk, .junk, .junk, .junk, .junk, .junk, .junk, .junk, .junk, .junk, .junk, .junk], [(4, rd L false E)], 5⟩) ∨
         (0 < i ∧ σ = ⟨[.sb b f, .junk, .junk, .junk, .junk, .rf 4 2 0 0, .w (.int .i64 gen), .w (.int .i64 n), .ms 5 9 0 i, .junk, .junk, .junk, .junk, .junk, .junk, .junk, .junk, .junk, .junk, .junk, .junk, .junk, .junk, .junk, .junk, .junk, .junk, .w (.int .i64 n), .w (.int .i64 i), .junk, .junk, .junk, .junk, .junk, .junk, .junk, .junk, .junk, .junk, .junk, .junk, .junk, .junk, .junk, .junk, .junk, .junk, .junk, .junk, .junk, .junk, .junk, .junk, .junk, .junk, .junk, .junk, .junk, .junk, .junk, .junk, .junk, .junk, .junk, .junk], [(4, rd L false E), (5, .g 9 ((gLst b i).map mtA))], 6⟩)), ?_, ?_⟩
      · refine ⟨_, _, weak_ren [0, 1, 2, 3, 36] rfl rfl rfl ?_ ?_, 0, b2, e2, rfl, by omega, hq2, .inl ⟨rfl, rfl⟩⟩
        · simp only [SameS, SameH, setSlot, gOf, AV.ren, renL, Blk.ren, Ax.look, Ax.put, reduceCtorEq, true_or, false_or, or_true, or_false, and_true, true_and, AV.w.injEq, Value.int.injEq, Value.bool.injEq, AV.ms.injEq, AV.sb.injEq, AV.str.injEq, ↓reduceIte, Nat.reduceEqDiff, Nat.reduceLT, List.length_append, List.length_cons, List.length_nil, Nat.zero_add, Nat.add_zero, Option.some.injEq, Blk.b.injEq, Blk.i.injEq, Nat.succ_ne_zero, Nat.reduceAdd, and_self]; try simp
        · simp only [SameS, SameH, setSlot, gOf, AV.ren, renL, Blk.ren, Ax.look, Ax.put, reduceCtorEq, true_or, false_or, or_true, or_false, and_true, true_and, AV.w.injEq, Value.int.injEq, Value.bool.injEq, AV.ms.injEq, AV.sb.injEq, AV.str.injEq, ↓reduceIte, Nat.reduceEqDiff, Nat.reduceLT, List.length_append, List.length_cons, List.length_nil, Nat.zero_add, Nat.add_zero, Option.some.injEq, Blk.b.injEq, Blk.i.injEq, Nat.succ_ne_zero, Nat.reduceAdd, and_self, rd]; try simp
      · rintro m σ ⟨i, L, E, rfl, hi, hq, hσ⟩
        have tk : ∀ l : List UInt8, List.take l.length l = l := fun l => List.take_length
        have hLl : L.length ≤ 1000000 := by have := tit8_len (gq2 b) i; rw [hq, hq2] at this; simp only at this; omega
        by_cases hin : i < n
        · have d3 : decide ((i : Int) < (n : Int)) = true := decide_eq_true (by omega)
          have ei : ((i : Int) + 1 + 9223372036854775808) % 18446744073709551616 - 9223372036854775808 = ((i + 1 : Nat) : Int) := by omega
          obtain ⟨S, hS⟩ : ∃ x, rtS' 8192 L E = x := ⟨_, rfl⟩
          obtain ⟨L', hL'⟩ : ∃ x, rtL 8192 L E = x := ⟨_, rfl⟩
          obtain ⟨E', hE'⟩ : ∃ x, rtE 8192 L E = x := ⟨_, rfl⟩
          have hSl : S.length ≤ 1000000 := by have := rtS_len8 8192 L E; rw [hS] at this; omega
          have hqn : tit8 (gq2 b) (i + 1) = (L', E') := by unfold tit8 tst8; rw [hq]; simp only [hL', hE']
          have hgl : gLst b (i + 1) = gLst b i ++ [getMt S] := by
            have hx : tx8 (tit8 (gq2 b) i) = S := by rw [hq]; exact hS
            show gLst b i ++ [getMt (tx8 (tit8 (gq2 b) i))] = _
            rw [hx]
          have hbad := ga_bad b hb (i := i) (by rw [hN]; omega)
          have hx : tx8 (tit8 (gq2 b) i) = S := by rw [hq]; exact hS
          rw [hx] at hbad
          have hgA : getA S = mtA (getMt S) := rfl
          obtain ⟨M, hM⟩ : ∃ x, getMt S = x := ⟨_, rfl⟩
          rw [hM] at hgA hgl
          obtain ⟨k, t, ix, nm, p, cp, z, bb, c⟩ := M
          have hgA : getA S = .agg [.w (.int .u8 k), .w (.int .i64 t), .w (.int .i64 ix), .str nm, .w (.int .i64 p), .w (.bool cp), .w (.int .i64 z), .w (.int .i64 bb), .w (.int .i64 c)] := hgA
          by_cases hok : getOk S
          · have hv : (if getOk S then (0 : Int) else 4) = 0 := if_pos hok
            rcases hσ with ⟨rfl, rfl⟩ | ⟨hi0, rfl⟩
            · simp -implicitDefEqProofs only [evT, evD0, evD1, evD2, implies_true, forall_const, Option.getD, later_normal, aop, aLen, ev, putSlot, cv, cvl, aConv, aBin, aInt, aUn, aFn, aEq, List.length, IntKind.bits, evo, coe, List.append, List.replicate, Nat.reduceAdd, Nat.reduceSub, Nat.reduceMul, Int.reduceToNat, reduceCtorEq, aIndexAddr, aIndex, TD.aggr, aPick, aMin, aMax, Ax.Ends, rone, ↓reduceIte, List.isEmpty, Int.reducePow, Nat.reducePow, Int.reduceMod, Nat.reduceLeDiff, Int.reduceLE, Int.reduceNe, Int.reduceEq, aAppend, appendB, viewB, List.drop, List.take, aRange, aNext, aCopy, srcB, viewG, appendG, appendI, aSlice, bnd, full3, aStore, setB, AV.leaves, AV.okv, AV.leaf, one, elemLeaves, Blk.size, Blk.len, Option.isSome, Option.isNone, aStr, aNil, aExtract, viewI, Nat.reduceEqDiff, Nat.reduceLT, Nat.reduceBEq, List.contains, List.elem, Blk.closed, Blk.noimm, ↓gsplit_tt, ↓gsplit_ff, ↓gsplit_tf, ↓gsplit_ft, ↓csplit_t, ↓csplit_f, givenUp, Blk.clean, notMs, -coe, coe_w, coe_str, coe_agg, coe_tup, coe_sb, coe_si, coe_cp, coe_ms, coe_rf, coe_fn, coe_cons, ty, SgetAll8, rtextS', get8S, rd, hLl, hS, hL', hE', hSl, tk, hgA, hv, d3, ei, fillS, Int.reduceAdd, Int.reduceMod, Int.reduceSub]
              repeat (refine And.intro (by first | omega | decide) ?_)
              refine ⟨n - 1, _, by omega, weak_ren [0, 1, 2, 3, 4, 133] rfl rfl rfl ?_ ?_, 1, L', E', rfl, by omega, hqn, .inr ⟨by omega, rfl⟩⟩
              · simp only [SameS, SameH, setSlot, gOf, AV.ren, renL, Blk.ren, Ax.look, Ax.put, reduceCtorEq, true_or, false_or, or_true, or_false, and_true, true_and, AV.w.injEq, Value.int.injEq, Value.bool.injEq, AV.ms.injEq, AV.sb.injEq, AV.str.injEq, ↓reduceIte, Nat.reduceEqDiff, Nat.reduceLT, List.length_append, List.length_cons, List.length_nil, Nat.zero_add, Nat.add_zero, Option.some.injEq, Blk.b.injEq, Blk.i.injEq, Nat.succ_ne_zero, Nat.reduceAdd, and_self]; try simp
              · simp only [SameS, SameH, setSlot, gOf, AV.ren, renL, Blk.ren, Ax.look, Ax.put, reduceCtorEq, true_or, false_or, or_true, or_false, and_true, true_and, AV.w.injEq, Value.int.injEq, Value.bool.injEq, AV.ms.injEq, AV.sb.injEq, AV.str.injEq, ↓reduceIte, Nat.reduceEqDiff, Nat.reduceLT, List.length_append, List.length_cons, List.length_nil, Nat.zero_add, Nat.add_zero, Option.some.injEq, Blk.b.injEq, Blk.i.injEq, Nat.succ_ne_zero, Nat.reduceAdd, and_self, hgl, ren_mt]; try simp [gLst, mtA, rd]
            · have dpos : decide (0 < i) = true := decide_eq_true hi0
              have hll : ((gLst b i).map mtA).length = i := by rw [List.length_map, gLst_len]
              have hcl := closed_mt (gLst b (i + 1))
              rw [hgl, List.map_append] at hcl
              have hcl2 : closedL (List.map mtA (gLst b i) ++ [.agg [.w (.int .u8 k), .w (.int .i64 t), .w (.int .i64 ix), .str nm, .w (.int .i64 p), .w (.bool cp), .w (.int .i64 z), .w (.int .i64 bb), .w (.int .i64 c)]]) = true := hcl
              simp -implicitDefEqProofs only [evT, evD0, evD1, evD2, implies_true, forall_const, Option.getD, later_normal, aop, aLen, ev, putSlot, cv, cvl, aConv, aBin, aInt, aUn, aFn, aEq, List.length, IntKind.bits, evo, coe, List.append, List.replicate, Nat.reduceAdd, Nat.reduceSub, Nat.reduceMul, Int.reduceToNat, reduceCtorEq, aIndexAddr, aIndex, TD.aggr, aPick, aMin, aMax, Ax.Ends, rone, ↓reduceIte, List.isEmpty, Int.reducePow, Nat.reducePow, Int.reduceMod, Nat.reduceLeDiff, Int.reduceLE, Int.reduceNe, Int.reduceEq, aAppend, appendB, viewB, List.drop, List.take, aRange, aNext, aCopy, srcB, viewG, appendG, appendI, aSlice, bnd, full3, aStore, setB, AV.leaves, AV.okv, AV.leaf, one, elemLeaves, Blk.size, Blk.len, Option.isSome, Option.isNone, aStr, aNil, aExtract, viewI, Nat.reduceEqDiff, Nat.reduceLT, Nat.reduceBEq, List.contains, List.elem, Blk.closed, Blk.noimm, ↓gsplit_tt, ↓gsplit_ff, ↓gsplit_tf, ↓gsplit_ft, ↓csplit_t, ↓csplit_f, givenUp, Blk.clean, notMs, -coe, coe_w, coe_str, coe_agg, coe_tup, coe_sb, coe_si, coe_cp, coe_ms, coe_rf, coe_fn, coe_cons, ty, SgetAll8, rtextS', get8S, rd, hLl, hS, hL', hE', hSl, tk, hgA, hv, d3, ei, dpos, hll, closed_mt, hcl2, fillS]
              repeat (refine And.intro (by first | omega | (unfold top; omega)) ?_)
              refine ⟨n - (i + 1), _, by omega, weak_ren [0, 1, 2, 3, 4, 134] rfl rfl rfl ?_ ?_, i + 1, L', E', rfl, by omega, hqn, .inr ⟨by omega, rfl⟩⟩
              · simp only [SameS, SameH, setSlot, gOf, AV.ren, renL, Blk.ren, Ax.look, Ax.put, reduceCtorEq, true_or, false_or, or_true, or_false, and_true, true_and, AV.w.injEq, Value.int.injEq, Value.bool.injEq, AV.ms.injEq, AV.sb.injEq, AV.str.injEq, ↓reduceIte, Nat.reduceEqDiff, Nat.reduceLT, List.length_append, List.length_cons, List.length_nil, Nat.zero_add, Nat.add_zero, Option.some.injEq, Blk.b.injEq, Blk.i.injEq, Nat.succ_ne_zero, Nat.reduceAdd, and_self]; try simp
              · simp only [SameS, SameH, setSlot, gOf, AV.ren, renL, Blk.ren, Ax.look, Ax.put, reduceCtorEq, true_or, false_or, or_true, or_false, and_true, true_and, AV.w.injEq, Value.int.injEq, Value.bool.injEq, AV.ms.injEq, AV.sb.injEq, AV.str.injEq, ↓reduceIte, Nat.reduceEqDiff, Nat.reduceLT, List.length_append, List.length_cons, List.length_nil, Nat.zero_add, Nat.add_zero, Option.some.injEq, Blk.b.injEq, Blk.i.injEq, Nat.succ_ne_zero, Nat.reduceAdd, and_self, hgl, ren_mt]; try simp [mtA, rd]
          · have hv : (if getOk S then (0 : Int) else 4) = 4 := if_neg hok
            have hno := hbad hok
            have hva : gaA b = .tup [.w (.int .i64 0), .sg 1 [] true, .w (.int .i64 4)] := if_neg hno
            rcases hσ with ⟨rfl, rfl⟩ | ⟨hi0, rfl⟩
            all_goals
              simp -implicitDefEqProofs only [evT, evD0, evD1, evD2, implies_true, forall_const, Option.getD, later_normal, aop, aLen, ev, putSlot, cv, cvl, aConv, aBin, aInt, aUn, aFn, aEq, List.length, IntKind.bits, evo, coe, List.append, List.replicate, Nat.reduceAdd, Nat.reduceSub, Nat.reduceMul, Int.reduceToNat, reduceCtorEq, aIndexAddr, aIndex, TD.aggr, aPick, aMin, aMax, Ax.Ends, rone, ↓reduceIte, List.isEmpty, Int.reducePow, Nat.reducePow, Int.reduceMod, Nat.reduceLeDiff, Int.reduceLE, Int.reduceNe, Int.reduceEq, aAppend, appendB, viewB, List.drop, List.take, aRange, aNext, aCopy, srcB, viewG, appendG, appendI, aSlice, bnd, full3, aStore, setB, AV.leaves, AV.okv, AV.leaf, one, elemLeaves, Blk.size, Blk.len, Option.isSome, Option.isNone, aStr, aNil, aExtract, viewI, Nat.reduceEqDiff, Nat.reduceLT, Nat.reduceBEq, List.contains, List.elem, Blk.closed, Blk.noimm, ↓gsplit_tt, ↓gsplit_ff, ↓gsplit_tf, ↓gsplit_ft, ↓csplit_t, ↓csplit_f, givenUp, Blk.clean, notMs, -coe, coe_w, coe_str, coe_agg, coe_tup, coe_sb, coe_si, coe_cp, coe_ms, coe_rf, coe_fn, coe_cons, ty, SgetAll8, rtextS', get8S, rd, hLl, hS, hL', hE', hSl, tk, hgA, hv, d3, ei, fillS]
              refine ⟨by omega, _, Weak.refl _, ?_⟩
              simp -implicitDefEqProofs only [evT, evD0, evD1, evD2, implies_true, forall_const, Option.getD, later_normal, aop, aLen, ev, putSlot, cv, cvl, aConv, aBin, aInt, aUn, aFn, aEq, List.length, IntKind.bits, evo, coe, List.append, List.replicate, Nat.reduceAdd, Nat.reduceSub, Nat.reduceMul, Int.reduceToNat, reduceCtorEq, aIndexAddr, aIndex, TD.aggr, aPick, aMin, aMax, Ax.Ends, rone, ↓reduceIte, List.isEmpty, Int.reducePow, Nat.reducePow, Int.reduceMod, Nat.reduceLeDiff, Int.reduceLE, Int.reduceNe, Int.reduceEq, aAppend, appendB, viewB, List.drop, List.take, aRange, aNext, aCopy, srcB, viewG, appendG, appendI, aSlice, bnd, full3, aStore, setB, AV.leaves, AV.okv, AV.leaf, one, elemLeaves, Blk.size, Blk.len, Option.isSome, Option.isNone, aStr, aNil, aExtract, viewI, Nat.reduceEqDiff, Nat.reduceLT, Nat.reduceBEq, List.contains, List.elem, Blk.closed, Blk.noimm, ↓gsplit_tt, ↓gsplit_ff, ↓gsplit_tf, ↓gsplit_ft, ↓csplit_t, ↓csplit_f, givenUp, Blk.clean, notMs, -coe, coe_w, coe_str, coe_agg, coe_tup, coe_sb, coe_si, coe_cp, coe_ms, coe_rf, coe_fn, coe_cons, ty, hva]
              refine ⟨_, Weak.refl _, ?_⟩
              simp -implicitDefEqProofs only [evT, evD0, evD1, evD2, implies_true, forall_const, Option.getD, later_normal, aop, aLen, ev, putSlot, cv, cvl, aConv, aBin, aInt, aUn, aFn, aEq, List.length, IntKind.bits, evo, coe, List.append, List.replicate, Nat.reduceAdd, Nat.reduceSub, Nat.reduceMul, Int.reduceToNat, reduceCtorEq, aIndexAddr, aIndex, TD.aggr, aPick, aMin, aMax, Ax.Ends, rone, ↓reduceIte, List.isEmpty, Int.reducePow, Nat.reducePow, Int.reduceMod, Nat.reduceLeDiff, Int.reduceLE, Int.reduceNe, Int.reduceEq, aAppend, appendB, viewB, List.drop, List.take, aRange, aNext, aCopy, srcB, viewG, appendG, appendI, aSlice, bnd, full3, aStore, setB, AV.leaves, AV.okv, AV.leaf, one, elemLeaves, Blk.size, Blk.len, Option.isSome, Option.isNone, aStr, aNil, aExtract, viewI, Nat.reduceEqDiff, Nat.reduceLT, Nat.reduceBEq, List.contains, List.elem, Blk.closed, Blk.noimm, ↓gsplit_tt, ↓gsplit_ff, ↓gsplit_tf, ↓gsplit_ft, ↓csplit_t, ↓csplit_f, givenUp, Blk.clean, notMs, -coe, coe_w, coe_str, coe_agg, coe_tup, coe_sb, coe_si, coe_cp, coe_ms, coe_rf, coe_fn, coe_cons, ty, hva]
        · obtain rfl : i = n := by omega
          have d3 : decide ((i : Int) < (i : Int)) = false := decide_eq_false (by omega)
          obtain ⟨D, hD⟩ : ∃ x, (if E = 0 ∧ 0 < L.length then (4 : Int) else E) = x := ⟨_, rfl⟩
          obtain ⟨C, hC⟩ : ∃ x, allE gen (gLst b i) = x := ⟨_, rfl⟩
          obtain ⟨W, hW⟩ : ∃ x, allO gen (gLst b i) = x := ⟨_, rfl⟩
          have hcase := ga_cases b hb hN (D := D) (C := C) (W := W) hq hD (by rw [hgen]; exact hC) (by rw [hgen]; exact hW) (by omega)
          have hvy : okG b → gaA b = .tup [.w (.int .i64 gen), lstA (gLst b i), .w (.int .i64 0)] := by
            intro h; unfold gaA; rw [if_pos h, hN, hgen]; rfl
          have hvn : ¬ okG b → gaA b = .tup [.w (.int .i64 0), .sg 1 [] true, .w (.int .i64 4)] := fun h => if_neg h
          have hll : ((gLst b i).map mtA).length = i := by rw [List.length_map, gLst_len]
          have hft := lst_fits _ (gLst_fit b hb i)
          have hi6 : i ≤ 1000000 := by omega
          rcases hσ with ⟨rfl, rfl⟩ | ⟨hi0, rfl⟩
          · have hnil : gLst b 0 = [] := rfl
            rw [hnil] at hvy hC hW
            have hft0 : ∃ k : List Mt, ([] : List AV) = k.map mtA ∧ fitL k := ⟨[], rfl, fun m hm => by simp at hm⟩
            have hun : ([] : List AV).map umt = [] := rfl
            rcases hcase with X | X | X | X
            · have hv := hvy X.1
              rw [lstA_nil] at hv
              simp -implicitDefEqProofs only [evT, evD0, evD1, evD2, implies_true, forall_const, Option.getD, later_normal, aop, aLen, ev, putSlot, cv, cvl, aConv, aBin, aInt, aUn, aFn, aEq, List.length, IntKind.bits, evo, coe, List.append, List.replicate, Nat.reduceAdd, Nat.reduceSub, Nat.reduceMul, Int.reduceToNat, reduceCtorEq, aIndexAddr, aIndex, TD.aggr, aPick, aMin, aMax, Ax.Ends, rone, ↓reduceIte, List.isEmpty, Int.reducePow, Nat.reducePow, Int.reduceMod, Nat.reduceLeDiff, Int.reduceLE, Int.reduceNe, Int.reduceEq, aAppend, appendB, viewB, List.drop, List.take, aRange, aNext, aCopy, srcB, viewG, appendG, appendI, aSlice, bnd, full3, aStore, setB, AV.leaves, AV.okv, AV.leaf, one, elemLeaves, Blk.size, Blk.len, Option.isSome, Option.isNone, aStr, aNil, aExtract, viewI, Nat.reduceEqDiff, Nat.reduceLT, Nat.reduceBEq, List.contains, List.elem, Blk.closed, Blk.noimm, ↓gsplit_tt, ↓gsplit_ff, ↓gsplit_tf, ↓gsplit_ft, ↓csplit_t, ↓csplit_f, givenUp, Blk.clean, notMs, -coe, coe_w, coe_str, coe_agg, coe_tup, coe_sb, coe_si, coe_cp, coe_ms, coe_rf, coe_fn, coe_cons, ty, SgetAll8, doneS, putAllS, eqB8, rd, d3, tk]
              refine ⟨_, Weak.refl _, ?_⟩
              simp -implicitDefEqProofs only [evT, evD0, evD1, evD2, implies_true, forall_const, Option.getD, later_normal, aop, aLen, ev, putSlot, cv, cvl, aConv, aBin, aInt, aUn, aFn, aEq, List.length, IntKind.bits, evo, coe, List.append, List.replicate, Nat.reduceAdd, Nat.reduceSub, Nat.reduceMul, Int.reduceToNat, reduceCtorEq, aIndexAddr, aIndex, TD.aggr, aPick, aMin, aMax, Ax.Ends, rone, ↓reduceIte, List.isEmpty, Int.reducePow, Nat.reducePow, Int.reduceMod, Nat.reduceLeDiff, Int.reduceLE, Int.reduceNe, Int.reduceEq, aAppend, appendB, viewB, List.drop, List.take, aRange, aNext, aCopy, srcB, viewG, appendG, appendI, aSlice, bnd, full3, aStore, setB, AV.leaves, AV.okv, AV.leaf, one, elemLeaves, Blk.size, Blk.len, Option.isSome, Option.isNone, aStr, aNil, aExtract, viewI, Nat.reduceEqDiff, Nat.reduceLT, Nat.reduceBEq, List.contains, List.elem, Blk.closed, Blk.noimm, ↓gsplit_tt, ↓gsplit_ff, ↓gsplit_tf, ↓gsplit_ft, ↓csplit_t, ↓csplit_f, givenUp, Blk.clean, notMs, ty, SgetAll8, doneS, putAllS, eqB8, rd, hgr, hft0, hun, hC, hW, hD, tk, X.2, hv]
              refine ⟨_, Weak.refl _, ?_⟩
              simp -implicitDefEqProofs only [evT, evD0, evD1, evD2, implies_true, forall_const, Option.getD, later_normal, aop, aLen, ev, putSlot, cv, cvl, aConv, aBin, aInt, aUn, aFn, aEq, List.length, IntKind.bits, evo, coe, List.append, List.replicate, Nat.reduceAdd, Nat.reduceSub, Nat.reduceMul, Int.reduceToNat, reduceCtorEq, aIndexAddr, aIndex, TD.aggr, aPick, aMin, aMax, Ax.Ends, rone, ↓reduceIte, List.isEmpty, Int.reducePow, Nat.reducePow, Int.reduceMod, Nat.reduceLeDiff, Int.reduceLE, Int.reduceNe, Int.reduceEq, aAppend, appendB, viewB, List.drop, List.take, aRange, aNext, aCopy, srcB, viewG, appendG, appendI, aSlice, bnd, full3, aStore, setB, AV.leaves, AV.okv, AV.leaf, one, elemLeaves, Blk.size, Blk.len, Option.isSome, Option.isNone, aStr, aNil, aExtract, viewI, Nat.reduceEqDiff, Nat.reduceLT, Nat.reduceBEq, List.contains, List.elem, Blk.closed, Blk.noimm, ↓gsplit_tt, ↓gsplit_ff, ↓gsplit_tf, ↓gsplit_ft, ↓csplit_t, ↓csplit_f, givenUp, Blk.clean, notMs, ty, getAllS, hv]
            all_goals
              have hv := hvn X.1
              simp -implicitDefEqProofs only [evT, evD0, evD1, evD2, implies_true, forall_const, Option.getD, later_normal, aop, aLen, ev, putSlot, cv, cvl, aConv, aBin, aInt, aUn, aFn, aEq, List.length, IntKind.bits, evo, coe, List.append, List.replicate, Nat.reduceAdd, Nat.reduceSub, Nat.reduceMul, Int.reduceToNat, reduceCtorEq, aIndexAddr, aIndex, TD.aggr, aPick, aMin, aMax, Ax.Ends, rone, ↓reduceIte, List.isEmpty, Int.reducePow, Nat.reducePow, Int.reduceMod, Nat.reduceLeDiff, Int.reduceLE, Int.reduceNe, Int.reduceEq, aAppend, appendB, viewB, List.drop, List.take, aRange, aNext, aCopy, srcB, viewG, appendG, appendI, aSlice, bnd, full3, aStore, setB, AV.leaves, AV.okv, AV.leaf, one, elemLeaves, Blk.size, Blk.len, Option.isSome, Option.isNone, aStr, aNil, aExtract, viewI, Nat.reduceEqDiff, Nat.reduceLT, Nat.reduceBEq, List.contains, List.elem, Blk.closed, Blk.noimm, ↓gsplit_tt, ↓gsplit_ff, ↓gsplit_tf, ↓gsplit_ft, ↓csplit_t, ↓csplit_f, givenUp, Blk.clean, notMs, -coe, coe_w, coe_str, coe_agg, coe_tup, coe_sb, coe_si, coe_cp, coe_ms, coe_rf, coe_fn, coe_cons, ty, SgetAll8, doneS, putAllS, eqB8, rd, d3, tk]
              refine ⟨_, Weak.refl _, ?_⟩
              simp -implicitDefEqProofs only [evT, evD0, evD1, evD2, implies_true, forall_const, Option.getD, later_normal, aop, aLen, ev, putSlot, cv, cvl, aConv, aBin, aInt, aUn, aFn, aEq, List.length, IntKind.bits, evo, coe, List.append, List.replicate, Nat.reduceAdd, Nat.reduceSub, Nat.reduceMul, Int.reduceToNat, reduceCtorEq, aIndexAddr, aIndex, TD.aggr, aPick, aMin, aMax, Ax.Ends, rone, ↓reduceIte, List.isEmpty, Int.reducePow, Nat.reducePow, Int.reduceMod, Nat.reduceLeDiff, Int.reduceLE, Int.reduceNe, Int.reduceEq, aAppend, appendB, viewB, List.drop, List.take, aRange, aNext, aCopy, srcB, viewG, appendG, appendI, aSlice, bnd, full3, aStore, setB, AV.leaves, AV.okv, AV.leaf, one, elemLeaves, Blk.size, Blk.len, Option.isSome, Option.isNone, aStr, aNil, aExtract, viewI, Nat.reduceEqDiff, Nat.reduceLT, Nat.reduceBEq, List.contains, List.elem, Blk.closed, Blk.noimm, ↓gsplit_tt, ↓gsplit_ff, ↓gsplit_tf, ↓gsplit_ft, ↓csplit_t, ↓csplit_f, givenUp, Blk.clean, notMs, ty, SgetAll8, doneS, putAllS, eqB8, rd, hgr, hft0, hun, hC, hW, hD, tk, X.2, hv]
              refine ⟨_, Weak.refl _, ?_⟩
              simp -implicitDefEqProofs only [evT, evD0, evD1, evD2, implies_true, forall_const, Option.getD, later_normal, aop, aLen, ev, putSlot, cv, cvl, aConv, aBin, aInt, aUn, aFn, aEq, List.length, IntKind.bits, evo, coe, List.append, List.replicate, Nat.reduceAdd, Nat.reduceSub, Nat.reduceMul, Int.reduceToNat, reduceCtorEq, aIndexAddr, aIndex, TD.aggr, aPick, aMin, aMax, Ax.Ends, rone, ↓reduceIte, List.isEmpty, Int.reducePow, Nat.reducePow, Int.reduceMod, Nat.reduceLeDiff, Int.reduceLE, Int.reduceNe, Int.reduceEq, aAppend, appendB, viewB, List.drop, List.take, aRange, aNext, aCopy, srcB, viewG, appendG, appendI, aSlice, bnd, full3, aStore, setB, AV.leaves, AV.okv, AV.leaf, one, elemLeaves, Blk.size, Blk.len, Option.isSome, Option.isNone, aStr, aNil, aExtract, viewI, Nat.reduceEqDiff, Nat.reduceLT, Nat.reduceBEq, List.contains, List.elem, Blk.closed, Blk.noimm, ↓gsplit_tt, ↓gsplit_ff, ↓gsplit_tf, ↓gsplit_ft, ↓csplit_t, ↓csplit_f, givenUp, Blk.clean, notMs, ty, getAllS, hv]
          · have dpos : decide (0 < i) = true := decide_eq_true hi0
            have hdle : decide (0 + i ≤ ((gLst b i).map mtA).length) = true := decide_eq_true (by omega)
            have hpl : 0 < (gLst b i).length := by rw [gLst_len]; exact hi0
            have hlA := lstA_ne hpl
            have htk : ((gLst b i).map mtA).take i = (gLst b i).map mtA := List.take_of_length_le (by omega)
            have hmu := map_umt (gLst b i)
            have hcm := closed_mt (gLst b i)
            have hcy := closed_all (gLst b i)
            rcases hcase with X | X | X | X
            · have hv := hvy X.1
              rw [hlA] at hv
              simp -implicitDefEqProofs only [evT, evD0, evD1, evD2, implies_true, forall_const, Option.getD, later_normal, aop, aLen, ev, putSlot, cv, cvl, aConv, aBin, aInt, aUn, aFn, aEq, List.length, IntKind.bits, evo, coe, List.append, List.replicate, Nat.reduceAdd, Nat.reduceSub, Nat.reduceMul, Int.reduceToNat, reduceCtorEq, aIndexAddr, aIndex, TD.aggr, aPick, aMin, aMax, Ax.Ends, rone, ↓reduceIte, List.isEmpty, Int.reducePow, Nat.reducePow, Int.reduceMod, Nat.reduceLeDiff, Int.reduceLE, Int.reduceNe, Int.reduceEq, aAppend, appendB, viewB, List.drop, List.take, aRange, aNext, aCopy, srcB, viewG, appendG, appendI, aSlice, bnd, full3, aStore, setB, AV.leaves, AV.okv, AV.leaf, one, elemLeaves, Blk.size, Blk.len, Option.isSome, Option.isNone, aStr, aNil, aExtract, viewI, Nat.reduceEqDiff, Nat.reduceLT, Nat.reduceBEq, List.contains, List.elem, Blk.closed, Blk.noimm, ↓gsplit_tt, ↓gsplit_ff, ↓gsplit_tf, ↓gsplit_ft, ↓csplit_t, ↓csplit_f, givenUp, Blk.clean, notMs, -coe, coe_w, coe_str, coe_agg, coe_tup, coe_sb, coe_si, coe_cp, coe_ms, coe_rf, coe_fn, coe_cons, ty, SgetAll8, doneS, putAllS, eqB8, rd, d3, tk]
              refine ⟨_, Weak.refl _, ?_⟩
              simp -implicitDefEqProofs only [evT, evD0, evD1, evD2, implies_true, forall_const, Option.getD, later_normal, aop, aLen, ev, putSlot, cv, cvl, aConv, aBin, aInt, aUn, aFn, aEq, List.length, IntKind.bits, evo, coe, List.append, List.replicate, Nat.reduceAdd, Nat.reduceSub, Nat.reduceMul, Int.reduceToNat, reduceCtorEq, aIndexAddr, aIndex, TD.aggr, aPick, aMin, aMax, Ax.Ends, rone, ↓reduceIte, List.isEmpty, Int.reducePow, Nat.reducePow, Int.reduceMod, Nat.reduceLeDiff, Int.reduceLE, Int.reduceNe, Int.reduceEq, aAppend, appendB, viewB, List.drop, List.take, aRange, aNext, aCopy, srcB, viewG, appendG, appendI, aSlice, bnd, full3, aStore, setB, AV.leaves, AV.okv, AV.leaf, one, elemLeaves, Blk.size, Blk.len, Option.isSome, Option.isNone, aStr, aNil, aExtract, viewI, Nat.reduceEqDiff, Nat.reduceLT, Nat.reduceBEq, List.contains, List.elem, Blk.closed, Blk.noimm, ↓gsplit_tt, ↓gsplit_ff, ↓gsplit_tf, ↓gsplit_ft, ↓csplit_t, ↓csplit_f, givenUp, Blk.clean, notMs, -coe, coe_w, coe_str, coe_agg, coe_tup, coe_sb, coe_si, coe_cp, coe_ms, coe_rf, coe_fn, coe_cons, ty, SgetAll8, doneS, putAllS, eqB8, rd, hgr, hft, hll, hi6, htk, hcm, hmu, hC, hW, hD, tk, X.2, hv]
              refine ⟨hcy, _, weak_fg 5 9 8 ((gLst b i).map mtA) rfl hcm (by simp [slot, AV.ids]), ?_⟩
              simp only [fgL, fgH, AV.fg, Blk.fg, Nat.reduceBEq, cond_true, cond_false, hdle, Bool.and_true, beq_self_eq_true, Bool.true_and, List.drop_zero, htk]
              simp -implicitDefEqProofs only [evT, evD0, evD1, evD2, implies_true, forall_const, Option.getD, later_normal, aop, aLen, ev, putSlot, cv, cvl, aConv, aBin, aInt, aUn, aFn, aEq, List.length, IntKind.bits, evo, coe, List.append, List.replicate, Nat.reduceAdd, Nat.reduceSub, Nat.reduceMul, Int.reduceToNat, reduceCtorEq, aIndexAddr, aIndex, TD.aggr, aPick, aMin, aMax, Ax.Ends, rone, ↓reduceIte, List.isEmpty, Int.reducePow, Nat.reducePow, Int.reduceMod, Nat.reduceLeDiff, Int.reduceLE, Int.reduceNe, Int.reduceEq, aAppend, appendB, viewB, List.drop, List.take, aRange, aNext, aCopy, srcB, viewG, appendG, appendI, aSlice, bnd, full3, aStore, setB, AV.leaves, AV.okv, AV.leaf, one, elemLeaves, Blk.size, Blk.len, Option.isSome, Option.isNone, aStr, aNil, aExtract, viewI, Nat.reduceEqDiff, Nat.reduceLT, Nat.reduceBEq, List.contains, List.elem, Blk.closed, Blk.noimm, ↓gsplit_tt, ↓gsplit_ff, ↓gsplit_tf, ↓gsplit_ft, ↓csplit_t, ↓csplit_f, givenUp, Blk.clean, notMs, ty, getAllS, hv]
            all_goals
              have hv := hvn X.1
              simp -implicitDefEqProofs only [evT, evD0, evD1, evD2, implies_true, forall_const, Option.getD, later_normal, aop, aLen, ev, putSlot, cv, cvl, aConv, aBin, aInt, aUn, aFn, aEq, List.length, IntKind.bits, evo, coe, List.append, List.replicate, Nat.reduceAdd, Nat.reduceSub, Nat.reduceMul, Int.reduceToNat, reduceCtorEq, aIndexAddr, aIndex, TD.aggr, aPick, aMin, aMax, Ax.Ends, rone, ↓reduceIte, List.isEmpty, Int.reducePow, Nat.reducePow, Int.reduceMod, Nat.reduceLeDiff, Int.reduceLE, Int.reduceNe, Int.reduceEq, aAppend, appendB, viewB, List.drop, List.take, aRange, aNext, aCopy, srcB, viewG, appendG, appendI, aSlice, bnd, full3, aStore, setB, AV.leaves, AV.okv, AV.leaf, one, elemLeaves, Blk.size, Blk.len, Option.isSome, Option.isNone, aStr, aNil, aExtract, viewI, Nat.reduceEqDiff, Nat.reduceLT, Nat.reduceBEq, List.contains, List.elem, Blk.closed, Blk.noimm, ↓gsplit_tt, ↓gsplit_ff, ↓gsplit_tf, ↓gsplit_ft, ↓csplit_t, ↓csplit_f, givenUp, Blk.clean, notMs, -coe, coe_w, coe_str, coe_agg, coe_tup, coe_sb, coe_si, coe_cp, coe_ms, coe_rf, coe_fn, coe_cons, ty, SgetAll8, doneS, putAllS, eqB8, rd, d3, tk]
              refine ⟨_, Weak.refl _, ?_⟩
              simp -implicitDefEqProofs only [evT, evD0, evD1, evD2, implies_true, forall_const, Option.getD, later_normal, aop, aLen, ev, putSlot, cv, cvl, aConv, aBin, aInt, aUn, aFn, aEq, List.length, IntKind.bits, evo, coe, List.append, List.replicate, Nat.reduceAdd, Nat.reduceSub, Nat.reduceMul, Int.reduceToNat, reduceCtorEq, aIndexAddr, aIndex, TD.aggr, aPick, aMin, aMax, Ax.Ends, rone, ↓reduceIte, List.isEmpty, Int.reducePow, Nat.reducePow, Int.reduceMod, Nat.reduceLeDiff, Int.reduceLE, Int.reduceNe, Int.reduceEq, aAppend, appendB, viewB, List.drop, List.take, aRange, aNext, aCopy, srcB, viewG, appendG, appendI, aSlice, bnd, full3, aStore, setB, AV.leaves, AV.okv, AV.leaf, one, elemLeaves, Blk.size, Blk.len, Option.isSome, Option.isNone, aStr, aNil, aExtract, viewI, Nat.reduceEqDiff, Nat.reduceLT, Nat.reduceBEq, List.contains, List.elem, Blk.closed, Blk.noimm, ↓gsplit_tt, ↓gsplit_ff, ↓gsplit_tf, ↓gsplit_ft, ↓csplit_t, ↓csplit_f, givenUp, Blk.clean, notMs, -coe, coe_w, coe_str, coe_agg, coe_tup, coe_sb, coe_si, coe_cp, coe_ms, coe_rf, coe_fn, coe_cons, ty, SgetAll8, doneS, putAllS, eqB8, rd, hgr, hft, hll, hi6, htk, hcm, hmu, hC, hW, hD, tk, X.2, hv]
              refine ⟨hcy, _, Weak.refl _, ?_⟩
              simp -implicitDefEqProofs only [evT, evD0, evD1, evD2, implies_true, forall_const, Option.getD, later_normal, aop, aLen, ev, putSlot, cv, cvl, aConv, aBin, aInt, aUn, aFn, aEq, List.length, IntKind.bits, evo, coe, List.append, List.replicate, Nat.reduceAdd, Nat.reduceSub, Nat.reduceMul, Int.reduceToNat, reduceCtorEq, aIndexAddr, aIndex, TD.aggr, aPick, aMin, aMax, Ax.Ends, rone, ↓reduceIte, List.isEmpty, Int.reducePow, Nat.reducePow, Int.reduceMod, Nat.reduceLeDiff, Int.reduceLE, Int.reduceNe, Int.reduceEq, aAppend, appendB, viewB, List.drop, List.take, aRange, aNext, aCopy, srcB, viewG, appendG, appendI, aSlice, bnd, full3, aStore, setB, AV.leaves, AV.okv, AV.leaf, one, elemLeaves, Blk.size, Blk.len, Option.isSome, Option.isNone, aStr, aNil, aExtract, viewI, Nat.reduceEqDiff, Nat.reduceLT, Nat.reduceBEq, List.contains, List.elem, Blk.closed, Blk.noimm, ↓gsplit_tt, ↓gsplit_ff, ↓gsplit_tf, ↓gsplit_ft, ↓csplit_t, ↓csplit_f, givenUp, Blk.clean, notMs, ty, getAllS, hv]
end
theorem getF_pos (bs : List UInt8) : ∀ (r i : Nat) (u : Int), (getF bs r i u).2.2 = 0 → 1 ≤ (getF bs r i u).2.1
  | 0, i, u, h => by unfold getF at h; split at h <;> simp at h
  | r + 1, i, u, h => by
    unfold getF at h ⊢
    split at h
    · rename_i h1; rw [if_pos h1]; exact getF_pos bs r (i + 1) _ h
    · rename_i h1; rw [if_neg h1]
      split at h
      · simp at h
      · rename_i h2; rw [if_neg h2]; simp
theorem rt_short (L : List UInt8) (h : rtE 8192 L 0 = 0) : (rtL 8192 L 0).length + 1 ≤ L.length := by
  have h0 : numE L 0 = 0 := by
    unfold rtE at h
    by_cases h1 : numE L 0 = 0
    · exact h1
    · rw [if_pos h1] at h; exact h
  have h1 : (numL L 0).length + 1 ≤ L.length := by
    unfold numE at h0; rw [if_pos rfl] at h0
    have a1 := getF_pos L _ _ _ h0
    have a2 := (getL_ok L).1
    unfold numL; rw [if_pos rfl, List.length_drop]
    unfold getL at a2 ⊢
    omega
  unfold rtL; split
  · have := tkL_len8 (numN L 0) (numL L 0); omega
  · exact h1
theorem rga_cases (b : List UInt8) (hb : b.length ≤ 1000000) {i : Nat} {N : Int} (hN : gCnt b = N) {L : List UInt8} {E C : Int} {W : List UInt8} (hQ : tit8 (gq2 b) i = (L, E)) (hi : (i : Int) ≤ max N 0) (hib : i ≤ b.length + 1) (hx : ¬ (i : Int) < N ∨ E ≠ 0)
    (hC : allE (gGen b) (gLst b i) = C) (hW : allO (gGen b) (gLst b i) = W) :
    (okG b ∧ (i : Int) = N ∧ decide (C = 0) = true ∧ decide (W = b) = true) ∨ (¬ okG b ∧ decide (C = 0) = false) ∨ (¬ okG b ∧ decide (C = 0) = true ∧ decide (W = b) = false) := by
  subst hC hW
  by_cases hg : okG b
  · have hg' := hg
    obtain ⟨h1, h2, h3, h4⟩ := hg
    have h5 := (okG_lay (gGen b) (gLst b (gCnt b).toNat) h3 (by rw [gLst_len]; omega) (fun m hm => (gLst_fit b hb _ m hm).1)).2.2.2.2.2.1 i (by rw [gLst_len]; omega)
    rw [h4, hQ] at h5
    have hE : E = 0 := h5
    have hiN : (i : Int) = N := by
      rcases hx with hx | hx
      · omega
      · exact (hx hE).elim
    have hin : (gCnt b).toNat = i := by omega
    rw [hin] at h3 h4
    refine .inl ⟨hg', hiN, decide_eq_true h3, decide_eq_true ?_⟩
    unfold allO; rw [if_pos h3]; exact h4
  · by_cases h2 : allE (gGen b) (gLst b i) = 0
    · by_cases h3 : allO (gGen b) (gLst b i) = b
      · unfold allO at h3; rw [if_pos h2] at h3
        have h5 := (okG_lay (gGen b) (gLst b i) h2 (by rw [gLst_len]; omega) (fun m hm => (gLst_fit b hb _ m hm).1)).2.2.2.1
        rw [h3] at h5
        exact (hg h5).elim
      · exact .inr (.inr ⟨hg, decide_eq_true h2, decide_eq_false h3⟩)
    · exact .inr (.inl ⟨hg, decide_eq_false h2⟩)
def SrgetAll8 (f : FuncId) : Option FSpec :=
  match f with
  | 39 => some rrnumS
  | 40 => some rrtextS
  | 17 => some get8S
  | 22 => some putAllS
  | _ => none
theorem SrgetAll8_ok : Fns Try.prog SrgetAll8 := by
  intro f s h
  unfold SrgetAll8 at h
  split at h
  · injection h with h; subst h; exact ⟨⟨_, Try.func39, by kernel_rfl, by kernel_rfl⟩, rrnum_sound⟩
  · injection h with h; subst h; exact ⟨⟨_, Try.func40, by kernel_rfl, by kernel_rfl⟩, rrtext_sound⟩
  · injection h with h; subst h; exact ⟨⟨_, Try.func17, by kernel_rfl, by kernel_rfl⟩, rget8_sound⟩
  · injection h with h; subst h; exact ⟨⟨_, Try.func22, by kernel_rfl, by kernel_rfl⟩, rputAll8_sound⟩
  · cases h
section
set_option maxRecDepth 100000
set_option maxHeartbeats 8000000 in
theorem rgetAll8_sound : Sound Try.prog 19 getAllS := by
  refine fn_soundW (S := SrgetAll8) (T := ty) mixed ty_ok SrgetAll8_ok Try.func19 (c := Try.f19.body.getD .skip) (by kernel_rfl) (by kernel_rfl) (fun xs pins hp _ => ?_)
  have hx : ∃ b f, xs = [.sb b f] ∧ pins = [] ∧ b.length ≤ 1000000 := by
    unfold getAllS at hp
    split at hp
    · rename_i b f _
      exact ⟨b, f, rfl, rfl, hp⟩
    · exact hp.elim
  obtain ⟨b, f, rfl, rfl, hb⟩ := hx
  clear hp
  refine ⟨by simp, ?_⟩
  obtain ⟨gen, hgen⟩ : ∃ x, gGen b = x := ⟨_, rfl⟩
  obtain ⟨N, hN⟩ : ∃ x, gCnt b = x := ⟨_, rfl⟩
  obtain ⟨b1, e1, hq1⟩ : ∃ x y, gq1 b = (x, y) := ⟨_, _, rfl⟩
  obtain ⟨b2, e2, hq2⟩ : ∃ x y, gq2 b = (x, y) := ⟨_, _, rfl⟩
  have h1 : numN b 0 = gen := hgen
  have h2 : numL b 0 = b1 := congrArg Prod.fst hq1
  have h3 : numE b 0 = e1 := congrArg Prod.snd hq1
  have h4 : numN b1 e1 = N := by rw [← hN]; unfold gCnt; rw [hq1]; rfl
  have h5 : numL b1 e1 = b2 := by have := congrArg Prod.fst hq2; unfold gq2 at this; rw [hq1] at this; exact this
  have h6 : numE b1 e1 = e2 := by have := congrArg Prod.snd hq2; unfold gq2 at this; rw [hq1] at this; exact this
  have hl1 : b1.length ≤ 1000000 := by have := numL_length b 0; rw [h2] at this; omega
  have hl2 : b2.length ≤ b.length := by have := gq2_len b; rw [hq2] at this; exact this
  have hgr : -9223372036854775808 ≤ gen ∧ gen ≤ 9223372036854775807 := by rw [← h1]; exact numN_rng b 0
  have hNr : -9223372036854775808 ≤ N ∧ N ≤ 9223372036854775807 := by rw [← h4]; exact numN_rng b1 e1
  have hvn : ¬ okG b → gaA b = .tup [.w (.int .i64 0), .sg 1 [] true, .w (.int .i64 4)] := fun h => if_neg h
  unfold Try.f19
  by_cases hlong : (8192 : Int) < b.length
  · have d1 : decide ((8192 : Int) < b.length) = true := decide_eq_true hlong
    have hv := hvn (fun h => by have := (allE_ok h.2.2.1).2.2; rw [h.2.2.2] at this; omega)
    simp -implicitDefEqProofs only [evT, evD0, evD1, evD2, implies_true, forall_const, Option.getD, later_normal, aop, aLen, ev, putSlot, cv, cvl, aConv, aBin, aInt, aUn, aFn, aEq, List.length, IntKind.bits, evo, coe, List.append, List.replicate, Nat.reduceAdd, Nat.reduceSub, Nat.reduceMul, Int.reduceToNat, reduceCtorEq, aIndexAddr, aIndex, TD.aggr, aPick, aMin, aMax, Ax.Ends, rone, ↓reduceIte, List.isEmpty, Int.reducePow, Nat.reducePow, Int.reduceMod, Nat.reduceLeDiff, Int.reduceLE, Int.reduceNe, Int.reduceEq, aAppend, appendB, viewB, List.drop, List.take, aRange, aNext, aCopy, srcB, viewG, appendG, appendI, aSlice, bnd, full3, aStore, setB, AV.leaves, AV.okv, AV.leaf, one, elemLeaves, Blk.size, Blk.len, Option.isSome, Option.isNone, aStr, aNil, aExtract, viewI, Nat.reduceEqDiff, Nat.reduceLT, Nat.reduceBEq, List.contains, List.elem, Blk.closed, Blk.noimm, ↓gsplit_tt, ↓gsplit_ff, ↓gsplit_tf, ↓gsplit_ft, ↓csplit_t, ↓csplit_f, givenUp, Blk.clean, notMs, -coe, coe_w, coe_str, coe_agg, coe_tup, coe_sb, coe_si, coe_cp, coe_ms, coe_rf, coe_fn, coe_cons, ty, SrgetAll8, d1, hv]
    refine ⟨_, Weak.refl _, ?_⟩
    simp -implicitDefEqProofs only [evT, evD0, evD1, evD2, implies_true, forall_const, Option.getD, later_normal, aop, aLen, ev, putSlot, cv, cvl, aConv, aBin, aInt, aUn, aFn, aEq, List.length, IntKind.bits, evo, coe, List.append, List.replicate, Nat.reduceAdd, Nat.reduceSub, Nat.reduceMul, Int.reduceToNat, reduceCtorEq, aIndexAddr, aIndex, TD.aggr, aPick, aMin, aMax, Ax.Ends, rone, ↓reduceIte, List.isEmpty, Int.reducePow, Nat.reducePow, Int.reduceMod, Nat.reduceLeDiff, Int.reduceLE, Int.reduceNe, Int.reduceEq, aAppend, appendB, viewB, List.drop, List.take, aRange, aNext, aCopy, srcB, viewG, appendG, appendI, aSlice, bnd, full3, aStore, setB, AV.leaves, AV.okv, AV.leaf, one, elemLeaves, Blk.size, Blk.len, Option.isSome, Option.isNone, aStr, aNil, aExtract, viewI, Nat.reduceEqDiff, Nat.reduceLT, Nat.reduceBEq, List.contains, List.elem, Blk.closed, Blk.noimm, ↓gsplit_tt, ↓gsplit_ff, ↓gsplit_tf, ↓gsplit_ft, ↓csplit_t, ↓csplit_f, givenUp, Blk.clean, notMs, -coe, coe_w, coe_str, coe_agg, coe_tup, coe_sb, coe_si, coe_cp, coe_ms, coe_rf, coe_fn, coe_cons, ty, getAllS, hv]
  · have d1 : decide ((8192 : Int) < b.length) = false := decide_eq_false hlong
    simp -implicitDefEqProofs only [evT, evD0, evD1, evD2, implies_true, forall_const, Option.getD, later_normal, aop, aLen, ev, putSlot, cv, cvl, aConv, aBin, aInt, aUn, aFn, aEq, List.length, IntKind.bits, evo, coe, List.append, List.replicate, Nat.reduceAdd, Nat.reduceSub, Nat.reduceMul, Int.reduceToNat, reduceCtorEq, aIndexAddr, aIndex, TD.aggr, aPick, aMin, aMax, Ax.Ends, rone, ↓reduceIte, List.isEmpty, Int.reducePow, Nat.reducePow, Int.reduceMod, Nat.reduceLeDiff, Int.reduceLE, Int.reduceNe, Int.reduceEq, aAppend, appendB, viewB, List.drop, List.take, aRange, aNext, aCopy, srcB, viewG, appendG, appendI, aSlice, bnd, full3, aStore, setB, AV.leaves, AV.okv, AV.leaf, one, elemLeaves, Blk.size, Blk.len, Option.isSome, Option.isNone, aStr, aNil, aExtract, viewI, Nat.reduceEqDiff, Nat.reduceLT, Nat.reduceBEq, List.contains, List.elem, Blk.closed, Blk.noimm, ↓gsplit_tt, ↓gsplit_ff, ↓gsplit_tf, ↓gsplit_ft, ↓csplit_t, ↓csplit_f, givenUp, Blk.clean, notMs, -coe, coe_w, coe_str, coe_agg, coe_tup, coe_sb, coe_si, coe_cp, coe_ms, coe_rf, coe_fn, coe_cons, ty, SrgetAll8, rrnumS, rrd, hb, h1, h2, h3, h4, h5, h6, hl1, d1, fillS]
    refine awp_loopW ⟨fun m σ => ∃ (i : Nat) (L : List UInt8) (E : Int), m = N.toNat - i ∧ (i : Int) ≤ max N 0 ∧ tit8 (gq2 b) i = (L, E) ∧ (E = 0 → L.length + i ≤ b.length) ∧ i ≤ b.length + 1 ∧
        ((i = 0 ∧ σ = ⟨[.sb b f, .junk, .junk, .junk, .junk, .rf 4 2 0 0, .w (.int .i64 gen), .w (.int .i64 N), .sg 1 [] true, .junk, .w (.int .i64 i), .junk, .junk, .junk, .junk, .junk, .junk, .junk, .junk, .junk, .junk, .junk, .junk, .junk, .junk, .junk, .junk, .junk, .junk, .junk, .junk, .junk, .junk, .junk, .junk, .junk, .junk, .junk, .junk, .junk, .junk, .junk, .junk, .junk, .junk, .junk, .junk, .junk, .junk, .junk, .junk, .junk, .junk, .junk, .junk, .junk, .junk, .junk, .junk, .junk, .junk, .junk, .junk, .junk, .junk, .junk, .junk, .junk, .junk, .junk, .junk], [(4, .g 2 [.agg [.sb L f, .w (.int .i64 E)]])], 5⟩) ∨
         (0 < i ∧ σ = ⟨[.sb b f, .junk, .junk, .junk, .junk, .rf 4 2 0 0, .w (.int .i64 gen), .w (.int .i64 N), .ms 5 9 0 i, .junk, .w (.int .i64 i), .junk, .junk, .junk, .junk, .junk, .junk, .junk, .junk, .junk, .junk, .junk, .junk, .junk, .junk, .junk, .junk, .junk, .junk, .junk, .junk, .junk, .junk, .junk, .junk, .junk, .junk, .junk, .junk, .junk, .junk, .junk, .junk, .junk, .junk, .junk, .junk, .junk, .junk, .junk, .junk, .junk, .junk, .junk, .junk, .junk, .junk, .junk, .junk, .junk, .junk, .junk, .junk, .junk, .junk, .junk, .junk, .junk, .junk, .junk, .junk], [(4, .g 2 [.agg [.sb L f, .w (.int .i64 E)]]), (5, .g 9 ((gLst b i).map mtA))], 6⟩)), ?_, ?_⟩
    · refine ⟨_, _, weak_ren [0, 1, 2, 3, 100] rfl rfl rfl ?_ ?_, 0, b2, e2, rfl, by omega, hq2, (fun _ => by omega), by omega, .inl ⟨rfl, rfl⟩⟩
      · simp only [SameS, SameH, setSlot, gOf, AV.ren, renL, Blk.ren, Ax.look, Ax.put, reduceCtorEq, true_or, false_or, or_true, or_false, and_true, true_and, AV.w.injEq, Value.int.injEq, Value.bool.injEq, AV.ms.injEq, AV.sb.injEq, AV.str.injEq, ↓reduceIte, Nat.reduceEqDiff, Nat.reduceLT, List.length_append, List.length_cons, List.length_nil, Nat.zero_add, Nat.add_zero, Option.some.injEq, Blk.b.injEq, Blk.i.injEq, Nat.succ_ne_zero, Nat.reduceAdd, and_self]; try simp
      · simp only [SameS, SameH, setSlot, gOf, AV.ren, renL, Blk.ren, Ax.look, Ax.put, reduceCtorEq, true_or, false_or, or_true, or_false, and_true, true_and, AV.w.injEq, Value.int.injEq, Value.bool.injEq, AV.ms.injEq, AV.sb.injEq, AV.str.injEq, ↓reduceIte, Nat.reduceEqDiff, Nat.reduceLT, List.length_append, List.length_cons, List.length_nil, Nat.zero_add, Nat.add_zero, Option.some.injEq, Blk.b.injEq, Blk.i.injEq, Nat.succ_ne_zero, Nat.reduceAdd, and_self]; try simp
    · rintro m σ ⟨i, L, E, rfl, hi, hq, hLE, hib, hσ⟩
      have tk : ∀ l : List UInt8, List.take l.length l = l := fun l => List.take_length
      have hLl : L.length ≤ 1000000 := by have := tit8_len (gq2 b) i; rw [hq, hq2] at this; simp only at this; omega
      by_cases hin : (i : Int) < N ∧ E = 0
      · obtain ⟨hin, rfl⟩ := hin
        have d3 : decide ((i : Int) < N) = true := decide_eq_true hin
        have ei : ((i : Int) + 1 + 9223372036854775808) % 18446744073709551616 - 9223372036854775808 = ((i + 1 : Nat) : Int) := by omega
        have hsh := rt_short L
        obtain ⟨S, hS⟩ : ∃ x, rtS' 8192 L 0 = x := ⟨_, rfl⟩
        obtain ⟨L', hL'⟩ : ∃ x, rtL 8192 L 0 = x := ⟨_, rfl⟩
        obtain ⟨E', hE'⟩ : ∃ x, rtE 8192 L 0 = x := ⟨_, rfl⟩
        have hSl : S.length ≤ 1000000 := by have := rtS_len8 8192 L 0; rw [hS] at this; omega
        have hqn : tit8 (gq2 b) (i + 1) = (L', E') := by unfold tit8 tst8; rw [hq]; simp only [hL', hE']
        have hx : tx8 (tit8 (gq2 b) i) = S := by rw [hq]; exact hS
        have hgl : gLst b (i + 1) = gLst b i ++ [getMt S] := by
          show gLst b i ++ [getMt (tx8 (tit8 (gq2 b) i))] = _
          rw [hx]
        rw [hE', hL'] at hsh
        have hLE2 : E' = 0 → L'.length + (i + 1) ≤ b.length := fun h => by have := hsh h; have := hLE rfl; omega
        have hib2 : i + 1 ≤ b.length + 1 := by have := hLE rfl; omega
        have hgA : getA S = mtA (getMt S) := rfl
        obtain ⟨M, hM⟩ : ∃ x, getMt S = x := ⟨_, rfl⟩
        rw [hM] at hgA hgl
        obtain ⟨k, t, ix, nm, p, cp, z, bb, c⟩ := M
        have hgA : getA S = .agg [.w (.int .u8 k), .w (.int .i64 t), .w (.int .i64 ix), .str nm, .w (.int .i64 p), .w (.bool cp), .w (.int .i64 z), .w (.int .i64 bb), .w (.int .i64 c)] := hgA
        obtain ⟨V, hV⟩ : ∃ x, (if getOk S then (0 : Int) else 4) = x := ⟨_, rfl⟩
        rcases hσ with ⟨rfl, rfl⟩ | ⟨hi0, rfl⟩
        · simp -implicitDefEqProofs only [evT, evD0, evD1, evD2, implies_true, forall_const, Option.getD, later_normal, aop, aLen, ev, putSlot, cv, cvl, aConv, aBin, aInt, aUn, aFn, aEq, List.length, IntKind.bits, evo, coe, List.append, List.replicate, Nat.reduceAdd, Nat.reduceSub, Nat.reduceMul, Int.reduceToNat, reduceCtorEq, aIndexAddr, aIndex, TD.aggr, aPick, aMin, aMax, Ax.Ends, rone, ↓reduceIte, List.isEmpty, Int.reducePow, Nat.reducePow, Int.reduceMod, Nat.reduceLeDiff, Int.reduceLE, Int.reduceNe, Int.reduceEq, aAppend, appendB, viewB, List.drop, List.take, aRange, aNext, aCopy, srcB, viewG, appendG, appendI, aSlice, bnd, full3, aStore, setB, AV.leaves, AV.okv, AV.leaf, one, elemLeaves, Blk.size, Blk.len, Option.isSome, Option.isNone, aStr, aNil, aExtract, viewI, Nat.reduceEqDiff, Nat.reduceLT, Nat.reduceBEq, List.contains, List.elem, Blk.closed, Blk.noimm, ↓gsplit_tt, ↓gsplit_ff, ↓gsplit_tf, ↓gsplit_ft, ↓csplit_t, ↓csplit_f, givenUp, Blk.clean, notMs, -coe, coe_w, coe_str, coe_agg, coe_tup, coe_sb, coe_si, coe_cp, coe_ms, coe_rf, coe_fn, coe_cons, ty, SrgetAll8, rrtextS, get8S, rrd, hLl, hS, hL', hE', hSl, tk, hgA, hV, d3, ei, fillS, Int.reduceAdd, Int.reduceMod, Int.reduceSub]
          repeat (refine And.intro (by first | omega | decide | (unfold top; omega)) ?_)
          refine ⟨N.toNat - 1, _, by omega, weak_ren [0, 1, 2, 3, 4, 221] rfl rfl rfl ?_ ?_, 1, L', E', rfl, by omega, hqn, hLE2, by omega, .inr ⟨by omega, rfl⟩⟩
          · simp only [SameS, SameH, setSlot, gOf, AV.ren, renL, Blk.ren, Ax.look, Ax.put, reduceCtorEq, true_or, false_or, or_true, or_false, and_true, true_and, AV.w.injEq, Value.int.injEq, Value.bool.injEq, AV.ms.injEq, AV.sb.injEq, AV.str.injEq, ↓reduceIte, Nat.reduceEqDiff, Nat.reduceLT, List.length_append, List.length_cons, List.length_nil, Nat.zero_add, Nat.add_zero, Option.some.injEq, Blk.b.injEq, Blk.i.injEq, Nat.succ_ne_zero, Nat.reduceAdd, and_self]; try simp
          · simp only [SameS, SameH, setSlot, gOf, AV.ren, renL, Blk.ren, Ax.look, Ax.put, reduceCtorEq, true_or, false_or, or_true, or_false, and_true, true_and, AV.w.injEq, Value.int.injEq, Value.bool.injEq, AV.ms.injEq, AV.sb.injEq, AV.str.injEq, ↓reduceIte, Nat.reduceEqDiff, Nat.reduceLT, List.length_append, List.length_cons, List.length_nil, Nat.zero_add, Nat.add_zero, Option.some.injEq, Blk.b.injEq, Blk.i.injEq, Nat.succ_ne_zero, Nat.reduceAdd, and_self, hgl, ren_mt]; try simp [gLst, mtA, rrd]
        · have dpos : decide (0 < i) = true := decide_eq_true hi0
          have hll : ((gLst b i).map mtA).length = i := by rw [List.length_map, gLst_len]
          have hcl := closed_mt (gLst b (i + 1))
          rw [hgl, List.map_append] at hcl
          have hcl2 : closedL (List.map mtA (gLst b i) ++ [.agg [.w (.int .u8 k), .w (.int .i64 t), .w (.int .i64 ix), .str nm, .w (.int .i64 p), .w (.bool cp), .w (.int .i64 z), .w (.int .i64 bb), .w (.int .i64 c)]]) = true := hcl
          simp -implicitDefEqProofs only [evT, evD0, evD1, evD2, implies_true, forall_const, Option.getD, later_normal, aop, aLen, ev, putSlot, cv, cvl, aConv, aBin, aInt, aUn, aFn, aEq, List.length, IntKind.bits, evo, coe, List.append, List.replicate, Nat.reduceAdd, Nat.reduceSub, Nat.reduceMul, Int.reduceToNat, reduceCtorEq, aIndexAddr, aIndex, TD.aggr, aPick, aMin, aMax, Ax.Ends, rone, ↓reduceIte, List.isEmpty, Int.reducePow, Nat.reducePow, Int.reduceMod, Nat.reduceLeDiff, Int.reduceLE, Int.reduceNe, Int.reduceEq, aAppend, appendB, viewB, List.drop, List.take, aRange, aNext, aCopy, srcB, viewG, appendG, appendI, aSlice, bnd, full3, aStore, setB, AV.leaves, AV.okv, AV.leaf, one, elemLeaves, Blk.size, Blk.len, Option.isSome, Option.isNone, aStr, aNil, aExtract, viewI, Nat.reduceEqDiff, Nat.reduceLT, Nat.reduceBEq, List.contains, List.elem, Blk.closed, Blk.noimm, ↓gsplit_tt, ↓gsplit_ff, ↓gsplit_tf, ↓gsplit_ft, ↓csplit_t, ↓csplit_f, givenUp, Blk.clean, notMs, -coe, coe_w, coe_str, coe_agg, coe_tup, coe_sb, coe_si, coe_cp, coe_ms, coe_rf, coe_fn, coe_cons, ty, SrgetAll8, rrtextS, get8S, rrd, hLl, hS, hL', hE', hSl, tk, hgA, hV, d3, ei, dpos, hll, closed_mt, hcl2, fillS]
          repeat (refine And.intro (by first | omega | (unfold top; omega)) ?_)
          refine ⟨N.toNat - (i + 1), _, by omega, weak_ren [0, 1, 2, 3, 4, 222] rfl rfl rfl ?_ ?_, i + 1, L', E', rfl, by omega, hqn, hLE2, hib2, .inr ⟨by omega, rfl⟩⟩
          · simp only [SameS, SameH, setSlot, gOf, AV.ren, renL, Blk.ren, Ax.look, Ax.put, reduceCtorEq, true_or, false_or, or_true, or_false, and_true, true_and, AV.w.injEq, Value.int.injEq, Value.bool.injEq, AV.ms.injEq, AV.sb.injEq, AV.str.injEq, ↓reduceIte, Nat.reduceEqDiff, Nat.reduceLT, List.length_append, List.length_cons, List.length_nil, Nat.zero_add, Nat.add_zero, Option.some.injEq, Blk.b.injEq, Blk.i.injEq, Nat.succ_ne_zero, Nat.reduceAdd, and_self]; try simp
          · simp only [SameS, SameH, setSlot, gOf, AV.ren, renL, Blk.ren, Ax.look, Ax.put, reduceCtorEq, true_or, false_or, or_true, or_false, and_true, true_and, AV.w.injEq, Value.int.injEq, Value.bool.injEq, AV.ms.injEq, AV.sb.injEq, AV.str.injEq, ↓reduceIte, Nat.reduceEqDiff, Nat.reduceLT, List.length_append, List.length_cons, List.length_nil, Nat.zero_add, Nat.add_zero, Option.some.injEq, Blk.b.injEq, Blk.i.injEq, Nat.succ_ne_zero, Nat.reduceAdd, and_self, hgl, ren_mt]; try simp [mtA, rrd]
      · have hx : ¬ (i : Int) < N ∨ E ≠ 0 := by
          by_cases h : (i : Int) < N
          · exact .inr (fun he => hin ⟨h, he⟩)
          · exact .inl h
        have hd : (decide ((i : Int) < N) = false) ∨ (decide ((i : Int) < N) = true ∧ decide (E = 0) = false) := by
          by_cases h : (i : Int) < N
          · exact .inr ⟨decide_eq_true h, decide_eq_false (fun he => hin ⟨h, he⟩)⟩
          · exact .inl (decide_eq_false h)
        obtain ⟨C, hC⟩ : ∃ x, allE gen (gLst b i) = x := ⟨_, rfl⟩
        obtain ⟨W, hW⟩ : ∃ x, allO gen (gLst b i) = x := ⟨_, rfl⟩
        have hcase := rga_cases b hb hN (C := C) (W := W) hq hi hib hx (by rw [hgen]; exact hC) (by rw [hgen]; exact hW)
        have hvy : okG b → (i : Int) = N → gaA b = .tup [.w (.int .i64 gen), lstA (gLst b i), .w (.int .i64 0)] := by
          intro h hiN; unfold gaA; rw [if_pos h, hN, hgen, ← hiN]; rfl
        have hll : ((gLst b i).map mtA).length = i := by rw [List.length_map, gLst_len]
        have hft := lst_fits _ (gLst_fit b hb i)
        have hi6 : i ≤ 1000000 := by omega
        rcases hσ with ⟨rfl, rfl⟩ | ⟨hi0, rfl⟩
        · have hnil : gLst b 0 = [] := rfl
          rw [hnil] at hvy hC hW
          have hft0 : ∃ k : List Mt, ([] : List AV) = k.map mtA ∧ fitL k := ⟨[], rfl, fun m hm => by simp at hm⟩
          have hun : ([] : List AV).map umt = [] := rfl
          have z0 : ((0 : Nat) : Int) = 0 := rfl
          rcases hcase with X | X | X
          · have hv := hvy X.1 X.2.1
            rw [lstA_nil] at hv
            have X2 := X.2.2
            rcases hd with hd | hd
            all_goals
              simp -implicitDefEqProofs only [evT, evD0, evD1, evD2, implies_true, forall_const, Option.getD, later_normal, aop, aLen, ev, putSlot, cv, cvl, aConv, aBin, aInt, aUn, aFn, aEq, List.length, IntKind.bits, evo, coe, List.append, List.replicate, Nat.reduceAdd, Nat.reduceSub, Nat.reduceMul, Int.reduceToNat, reduceCtorEq, aIndexAddr, aIndex, TD.aggr, aPick, aMin, aMax, Ax.Ends, rone, ↓reduceIte, List.isEmpty, Int.reducePow, Nat.reducePow, Int.reduceMod, Nat.reduceLeDiff, Int.reduceLE, Int.reduceNe, Int.reduceEq, aAppend, appendB, viewB, List.drop, List.take, aRange, aNext, aCopy, srcB, viewG, appendG, appendI, aSlice, bnd, full3, aStore, setB, AV.leaves, AV.okv, AV.leaf, one, elemLeaves, Blk.size, Blk.len, Option.isSome, Option.isNone, aStr, aNil, aExtract, viewI, Nat.reduceEqDiff, Nat.reduceLT, Nat.reduceBEq, List.contains, List.elem, Blk.closed, Blk.noimm, ↓gsplit_tt, ↓gsplit_ff, ↓gsplit_tf, ↓gsplit_ft, ↓csplit_t, ↓csplit_f, givenUp, Blk.clean, notMs, -coe, coe_w, coe_str, coe_agg, coe_tup, coe_sb, coe_si, coe_cp, coe_ms, coe_rf, coe_fn, coe_cons, ty, SrgetAll8, hd]
              refine ⟨_, Weak.refl _, ?_⟩
              simp -implicitDefEqProofs only [evT, evD0, evD1, evD2, implies_true, forall_const, Option.getD, later_normal, aop, aLen, ev, putSlot, cv, cvl, aConv, aBin, aInt, aUn, aFn, aEq, List.length, IntKind.bits, evo, coe, List.append, List.replicate, Nat.reduceAdd, Nat.reduceSub, Nat.reduceMul, Int.reduceToNat, reduceCtorEq, aIndexAddr, aIndex, TD.aggr, aPick, aMin, aMax, Ax.Ends, rone, ↓reduceIte, List.isEmpty, Int.reducePow, Nat.reducePow, Int.reduceMod, Nat.reduceLeDiff, Int.reduceLE, Int.reduceNe, Int.reduceEq, aAppend, appendB, viewB, List.drop, List.take, aRange, aNext, aCopy, srcB, viewG, appendG, appendI, aSlice, bnd, full3, aStore, setB, AV.leaves, AV.okv, AV.leaf, one, elemLeaves, Blk.size, Blk.len, Option.isSome, Option.isNone, aStr, aNil, aExtract, viewI, Nat.reduceEqDiff, Nat.reduceLT, Nat.reduceBEq, List.contains, List.elem, Blk.closed, Blk.noimm, ↓gsplit_tt, ↓gsplit_ff, ↓gsplit_tf, ↓gsplit_ft, ↓csplit_t, ↓csplit_f, givenUp, Blk.clean, notMs, ty, SrgetAll8, putAllS, hgr, hft0, hun, hC, hW, tk, X2, hv]
              repeat (refine And.intro (by omega) ?_)
              refine ⟨_, Weak.refl _, ?_⟩
              simp -implicitDefEqProofs only [evT, evD0, evD1, evD2, implies_true, forall_const, Option.getD, later_normal, aop, aLen, ev, putSlot, cv, cvl, aConv, aBin, aInt, aUn, aFn, aEq, List.length, IntKind.bits, evo, coe, List.append, List.replicate, Nat.reduceAdd, Nat.reduceSub, Nat.reduceMul, Int.reduceToNat, reduceCtorEq, aIndexAddr, aIndex, TD.aggr, aPick, aMin, aMax, Ax.Ends, rone, ↓reduceIte, List.isEmpty, Int.reducePow, Nat.reducePow, Int.reduceMod, Nat.reduceLeDiff, Int.reduceLE, Int.reduceNe, Int.reduceEq, aAppend, appendB, viewB, List.drop, List.take, aRange, aNext, aCopy, srcB, viewG, appendG, appendI, aSlice, bnd, full3, aStore, setB, AV.leaves, AV.okv, AV.leaf, one, elemLeaves, Blk.size, Blk.len, Option.isSome, Option.isNone, aStr, aNil, aExtract, viewI, Nat.reduceEqDiff, Nat.reduceLT, Nat.reduceBEq, List.contains, List.elem, Blk.closed, Blk.noimm, ↓gsplit_tt, ↓gsplit_ff, ↓gsplit_tf, ↓gsplit_ft, ↓csplit_t, ↓csplit_f, givenUp, Blk.clean, notMs, ty, getAllS, hv]
          all_goals
            have hv := hvn X.1
            rcases hd with hd | hd
            all_goals
              simp -implicitDefEqProofs only [evT, evD0, evD1, evD2, implies_true, forall_const, Option.getD, later_normal, aop, aLen, ev, putSlot, cv, cvl, aConv, aBin, aInt, aUn, aFn, aEq, List.length, IntKind.bits, evo, coe, List.append, List.replicate, Nat.reduceAdd, Nat.reduceSub, Nat.reduceMul, Int.reduceToNat, reduceCtorEq, aIndexAddr, aIndex, TD.aggr, aPick, aMin, aMax, Ax.Ends, rone, ↓reduceIte, List.isEmpty, Int.reducePow, Nat.reducePow, Int.reduceMod, Nat.reduceLeDiff, Int.reduceLE, Int.reduceNe, Int.reduceEq, aAppend, appendB, viewB, List.drop, List.take, aRange, aNext, aCopy, srcB, viewG, appendG, appendI, aSlice, bnd, full3, aStore, setB, AV.leaves, AV.okv, AV.leaf, one, elemLeaves, Blk.size, Blk.len, Option.isSome, Option.isNone, aStr, aNil, aExtract, viewI, Nat.reduceEqDiff, Nat.reduceLT, Nat.reduceBEq, List.contains, List.elem, Blk.closed, Blk.noimm, ↓gsplit_tt, ↓gsplit_ff, ↓gsplit_tf, ↓gsplit_ft, ↓csplit_t, ↓csplit_f, givenUp, Blk.clean, notMs, -coe, coe_w, coe_str, coe_agg, coe_tup, coe_sb, coe_si, coe_cp, coe_ms, coe_rf, coe_fn, coe_cons, ty, SrgetAll8, hd]
              refine ⟨_, Weak.refl _, ?_⟩
              simp -implicitDefEqProofs only [evT, evD0, evD1, evD2, implies_true, forall_const, Option.getD, later_normal, aop, aLen, ev, putSlot, cv, cvl, aConv, aBin, aInt, aUn, aFn, aEq, List.length, IntKind.bits, evo, coe, List.append, List.replicate, Nat.reduceAdd, Nat.reduceSub, Nat.reduceMul, Int.reduceToNat, reduceCtorEq, aIndexAddr, aIndex, TD.aggr, aPick, aMin, aMax, Ax.Ends, rone, ↓reduceIte, List.isEmpty, Int.reducePow, Nat.reducePow, Int.reduceMod, Nat.reduceLeDiff, Int.reduceLE, Int.reduceNe, Int.reduceEq, aAppend, appendB, viewB, List.drop, List.take, aRange, aNext, aCopy, srcB, viewG, appendG, appendI, aSlice, bnd, full3, aStore, setB, AV.leaves, AV.okv, AV.leaf, one, elemLeaves, Blk.size, Blk.len, Option.isSome, Option.isNone, aStr, aNil, aExtract, viewI, Nat.reduceEqDiff, Nat.reduceLT, Nat.reduceBEq, List.contains, List.elem, Blk.closed, Blk.noimm, ↓gsplit_tt, ↓gsplit_ff, ↓gsplit_tf, ↓gsplit_ft, ↓csplit_t, ↓csplit_f, givenUp, Blk.clean, notMs, ty, SrgetAll8, putAllS, hgr, hft0, hun, hC, hW, tk, X.2, hv]
              repeat (refine And.intro (by omega) ?_)
              refine ⟨_, Weak.refl _, ?_⟩
              simp -implicitDefEqProofs only [evT, evD0, evD1, evD2, implies_true, forall_const, Option.getD, later_normal, aop, aLen, ev, putSlot, cv, cvl, aConv, aBin, aInt, aUn, aFn, aEq, List.length, IntKind.bits, evo, coe, List.append, List.replicate, Nat.reduceAdd, Nat.reduceSub, Nat.reduceMul, Int.reduceToNat, reduceCtorEq, aIndexAddr, aIndex, TD.aggr, aPick, aMin, aMax, Ax.Ends, rone, ↓reduceIte, List.isEmpty, Int.reducePow, Nat.reducePow, Int.reduceMod, Nat.reduceLeDiff, Int.reduceLE, Int.reduceNe, Int.reduceEq, aAppend, appendB, viewB, List.drop, List.take, aRange, aNext, aCopy, srcB, viewG, appendG, appendI, aSlice, bnd, full3, aStore, setB, AV.leaves, AV.okv, AV.leaf, one, elemLeaves, Blk.size, Blk.len, Option.isSome, Option.isNone, aStr, aNil, aExtract, viewI, Nat.reduceEqDiff, Nat.reduceLT, Nat.reduceBEq, List.contains, List.elem, Blk.closed, Blk.noimm, ↓gsplit_tt, ↓gsplit_ff, ↓gsplit_tf, ↓gsplit_ft, ↓csplit_t, ↓csplit_f, givenUp, Blk.clean, notMs, ty, getAllS, hv]
        · have dpos : decide (0 < i) = true := decide_eq_true hi0
          have hdle : decide (0 + i ≤ ((gLst b i).map mtA).length) = true := decide_eq_true (by omega)
          have hpl : 0 < (gLst b i).length := by rw [gLst_len]; exact hi0
          have hlA := lstA_ne hpl
          have htk : ((gLst b i).map mtA).take i = (gLst b i).map mtA := List.take_of_length_le (by omega)
          have hmu := map_umt (gLst b i)
          have hcm := closed_mt (gLst b i)
          have hcy := closed_all (gLst b i)
          rcases hcase with X | X | X
          · have hv := hvy X.1 X.2.1
            rw [hlA] at hv
            have X2 := X.2.2
            rcases hd with hd | hd
            all_goals
              simp -implicitDefEqProofs only [evT, evD0, evD1, evD2, implies_true, forall_const, Option.getD, later_normal, aop, aLen, ev, putSlot, cv, cvl, aConv, aBin, aInt, aUn, aFn, aEq, List.length, IntKind.bits, evo, coe, List.append, List.replicate, Nat.reduceAdd, Nat.reduceSub, Nat.reduceMul, Int.reduceToNat, reduceCtorEq, aIndexAddr, aIndex, TD.aggr, aPick, aMin, aMax, Ax.Ends, rone, ↓reduceIte, List.isEmpty, Int.reducePow, Nat.reducePow, Int.reduceMod, Nat.reduceLeDiff, Int.reduceLE, Int.reduceNe, Int.reduceEq, aAppend, appendB, viewB, List.drop, List.take, aRange, aNext, aCopy, srcB, viewG, appendG, appendI, aSlice, bnd, full3, aStore, setB, AV.leaves, AV.okv, AV.leaf, one, elemLeaves, Blk.size, Blk.len, Option.isSome, Option.isNone, aStr, aNil, aExtract, viewI, Nat.reduceEqDiff, Nat.reduceLT, Nat.reduceBEq, List.contains, List.elem, Blk.closed, Blk.noimm, ↓gsplit_tt, ↓gsplit_ff, ↓gsplit_tf, ↓gsplit_ft, ↓csplit_t, ↓csplit_f, givenUp, Blk.clean, notMs, -coe, coe_w, coe_str, coe_agg, coe_tup, coe_sb, coe_si, coe_cp, coe_ms, coe_rf, coe_fn, coe_cons, ty, SrgetAll8, hd]
              refine ⟨_, Weak.refl _, ?_⟩
              simp -implicitDefEqProofs only [evT, evD0, evD1, evD2, implies_true, forall_const, Option.getD, later_normal, aop, aLen, ev, putSlot, cv, cvl, aConv, aBin, aInt, aUn, aFn, aEq, List.length, IntKind.bits, evo, coe, List.append, List.replicate, Nat.reduceAdd, Nat.reduceSub, Nat.reduceMul, Int.reduceToNat, reduceCtorEq, aIndexAddr, aIndex, TD.aggr, aPick, aMin, aMax, Ax.Ends, rone, ↓reduceIte, List.isEmpty, Int.reducePow, Nat.reducePow, Int.reduceMod, Nat.reduceLeDiff, Int.reduceLE, Int.reduceNe, Int.reduceEq, aAppend, appendB, viewB, List.drop, List.take, aRange, aNext, aCopy, srcB, viewG, appendG, appendI, aSlice, bnd, full3, aStore, setB, AV.leaves, AV.okv, AV.leaf, one, elemLeaves, Blk.size, Blk.len, Option.isSome, Option.isNone, aStr, aNil, aExtract, viewI, Nat.reduceEqDiff, Nat.reduceLT, Nat.reduceBEq, List.contains, List.elem, Blk.closed, Blk.noimm, ↓gsplit_tt, ↓gsplit_ff, ↓gsplit_tf, ↓gsplit_ft, ↓csplit_t, ↓csplit_f, givenUp, Blk.clean, notMs, -coe, coe_w, coe_str, coe_agg, coe_tup, coe_sb, coe_si, coe_cp, coe_ms, coe_rf, coe_fn, coe_cons, ty, SrgetAll8, putAllS, hgr, hft, hll, hi6, htk, hcm, hmu, hC, hW, tk, X2, hv]
              refine ⟨hcy, ?_⟩
              repeat (refine And.intro (by omega) ?_)
              refine ⟨_, weak_fg 5 9 8 ((gLst b i).map mtA) rfl hcm (by simp [slot, AV.ids]), ?_⟩
              simp only [fgL, fgH, AV.fg, Blk.fg, Nat.reduceBEq, cond_true, cond_false, hdle, Bool.and_true, beq_self_eq_true, Bool.true_and, List.drop_zero, htk]
              simp -implicitDefEqProofs only [evT, evD0, evD1, evD2, implies_true, forall_const, Option.getD, later_normal, aop, aLen, ev, putSlot, cv, cvl, aConv, aBin, aInt, aUn, aFn, aEq, List.length, IntKind.bits, evo, coe, List.append, List.replicate, Nat.reduceAdd, Nat.reduceSub, Nat.reduceMul, Int.reduceToNat, reduceCtorEq, aIndexAddr, aIndex, TD.aggr, aPick, aMin, aMax, Ax.Ends, rone, ↓reduceIte, List.isEmpty, Int.reducePow, Nat.reducePow, Int.reduceMod, Nat.reduceLeDiff, Int.reduceLE, Int.reduceNe, Int.reduceEq, aAppend, appendB, viewB, List.drop, List.take, aRange, aNext, aCopy, srcB, viewG, appendG, appendI, aSlice, bnd, full3, aStore, setB, AV.leaves, AV.okv, AV.leaf, one, elemLeaves, Blk.size, Blk.len, Option.isSome, Option.isNone, aStr, aNil, aExtract, viewI, Nat.reduceEqDiff, Nat.reduceLT, Nat.reduceBEq, List.contains, List.elem, Blk.closed, Blk.noimm, ↓gsplit_tt, ↓gsplit_ff, ↓gsplit_tf, ↓gsplit_ft, ↓csplit_t, ↓csplit_f, givenUp, Blk.clean, notMs, ty, getAllS, hv]
          all_goals
            have hv := hvn X.1
            rcases hd with hd | hd
            all_goals
              simp -implicitDefEqProofs only [evT, evD0, evD1, evD2, implies_true, forall_const, Option.getD, later_normal, aop, aLen, ev, putSlot, cv, cvl, aConv, aBin, aInt, aUn, aFn, aEq, List.length, IntKind.bits, evo, coe, List.append, List.replicate, Nat.reduceAdd, Nat.reduceSub, Nat.reduceMul, Int.reduceToNat, reduceCtorEq, aIndexAddr, aIndex, TD.aggr, aPick, aMin, aMax, Ax.Ends, rone, ↓reduceIte, List.isEmpty, Int.reducePow, Nat.reducePow, Int.reduceMod, Nat.reduceLeDiff, Int.reduceLE, Int.reduceNe, Int.reduceEq, aAppend, appendB, viewB, List.drop, List.take, aRange, aNext, aCopy, srcB, viewG, appendG, appendI, aSlice, bnd, full3, aStore, setB, AV.leaves, AV.okv, AV.leaf, one, elemLeaves, Blk.size, Blk.len, Option.isSome, Option.isNone, aStr, aNil, aExtract, viewI, Nat.reduceEqDiff, Nat.reduceLT, Nat.reduceBEq, List.contains, List.elem, Blk.closed, Blk.noimm, ↓gsplit_tt, ↓gsplit_ff, ↓gsplit_tf, ↓gsplit_ft, ↓csplit_t, ↓csplit_f, givenUp, Blk.clean, notMs, -coe, coe_w, coe_str, coe_agg, coe_tup, coe_sb, coe_si, coe_cp, coe_ms, coe_rf, coe_fn, coe_cons, ty, SrgetAll8, hd]
              refine ⟨_, Weak.refl _, ?_⟩
              simp -implicitDefEqProofs only [evT, evD0, evD1, evD2, implies_true, forall_const, Option.getD, later_normal, aop, aLen, ev, putSlot, cv, cvl, aConv, aBin, aInt, aUn, aFn, aEq, List.length, IntKind.bits, evo, coe, List.append, List.replicate, Nat.reduceAdd, Nat.reduceSub, Nat.reduceMul, Int.reduceToNat, reduceCtorEq, aIndexAddr, aIndex, TD.aggr, aPick, aMin, aMax, Ax.Ends, rone, ↓reduceIte, List.isEmpty, Int.reducePow, Nat.reducePow, Int.reduceMod, Nat.reduceLeDiff, Int.reduceLE, Int.reduceNe, Int.reduceEq, aAppend, appendB, viewB, List.drop, List.take, aRange, aNext, aCopy, srcB, viewG, appendG, appendI, aSlice, bnd, full3, aStore, setB, AV.leaves, AV.okv, AV.leaf, one, elemLeaves, Blk.size, Blk.len, Option.isSome, Option.isNone, aStr, aNil, aExtract, viewI, Nat.reduceEqDiff, Nat.reduceLT, Nat.reduceBEq, List.contains, List.elem, Blk.closed, Blk.noimm, ↓gsplit_tt, ↓gsplit_ff, ↓gsplit_tf, ↓gsplit_ft, ↓csplit_t, ↓csplit_f, givenUp, Blk.clean, notMs, -coe, coe_w, coe_str, coe_agg, coe_tup, coe_sb, coe_si, coe_cp, coe_ms, coe_rf, coe_fn, coe_cons, ty, SrgetAll8, putAllS, hgr, hft, hll, hi6, htk, hcm, hmu, hC, hW, tk, X.2, hv]
              refine ⟨hcy, ?_⟩
              repeat (refine And.intro (by omega) ?_)
              refine ⟨_, Weak.refl _, ?_⟩
              simp -implicitDefEqProofs only [evT, evD0, evD1, evD2, implies_true, forall_const, Option.getD, later_normal, aop, aLen, ev, putSlot, cv, cvl, aConv, aBin, aInt, aUn, aFn, aEq, List.length, IntKind.bits, evo, coe, List.append, List.replicate, Nat.reduceAdd, Nat.reduceSub, Nat.reduceMul, Int.reduceToNat, reduceCtorEq, aIndexAddr, aIndex, TD.aggr, aPick, aMin, aMax, Ax.Ends, rone, ↓reduceIte, List.isEmpty, Int.reducePow, Nat.reducePow, Int.reduceMod, Nat.reduceLeDiff, Int.reduceLE, Int.reduceNe, Int.reduceEq, aAppend, appendB, viewB, List.drop, List.take, aRange, aNext, aCopy, srcB, viewG, appendG, appendI, aSlice, bnd, full3, aStore, setB, AV.leaves, AV.okv, AV.leaf, one, elemLeaves, Blk.size, Blk.len, Option.isSome, Option.isNone, aStr, aNil, aExtract, viewI, Nat.reduceEqDiff, Nat.reduceLT, Nat.reduceBEq, List.contains, List.elem, Blk.closed, Blk.noimm, ↓gsplit_tt, ↓gsplit_ff, ↓gsplit_tf, ↓gsplit_ft, ↓csplit_t, ↓csplit_f, givenUp, Blk.clean, notMs, ty, getAllS, hv]
end
end Go.Proofs.Ytlbdhkgjhjcgiaa
