/- Layer 8: metas and a generation, as bytes. -/
import Derived.Test.YtlbdhkgjhjcgiaaE8
namespace Go.Proofs.Ytlbdhkgjhjcgiaa
open Ax
set_option linter.unusedSimpArgs false
set_option linter.unusedVariables false

def umt : AV → Mt
  | .agg [.w (.int _ k), .w (.int _ t), .w (.int _ i), .str nm, .w (.int _ p), .w (.bool cp), .w (.int _ z), .w (.int _ b), .w (.int _ c)] => ⟨k, t, i, nm, p, cp, z, b, c⟩
  | _ => zM
theorem map_umt (l : List Mt) : (l.map mtA).map umt = l := by
  rw [List.map_map]; exact List.map_id _
theorem slot_mt : ∀ (l : List Mt) (i : Nat) (h : i < l.length), slot (l.map mtA) i = mtA l[i]
  | p :: ps, 0, h => rfl
  | p :: ps, i + 1, h => by
    simp only [List.map_cons, slot, List.getElem_cons_succ]
    exact slot_mt ps i (by simpa using h)
def fitM (m : Mt) : Prop := 0 ≤ m.k ∧ m.k < 256 ∧ m.nm.length ≤ 1000000
def fitL (l : List Mt) : Prop := ∀ m ∈ l, fitM m
def cat8 (l : List Mt) : List UInt8 := l.flatMap fun m => textL (layM m)
def fbad : List Mt → Int
  | [] => 0
  | m :: r => if chkM m = 0 then fbad r else chkM m
def allB (gen : Int) (l : List Mt) : List UInt8 := pz gen ++ (pz (l.length : Int) ++ cat8 l)
def allE (gen : Int) (l : List Mt) : Int := if gen < 0 ∨ 1099511627776 < gen then 11 else if fbad l = 0 then (if 8192 < (allB gen l).length then 5 else 0) else fbad l
def allO (gen : Int) (l : List Mt) : List UInt8 := if allE gen l = 0 then allB gen l else []
def putAllS : FSpec
  | [.w (.int .i64 gen), .sg 9 xs f], [] => ⟨-9223372036854775808 ≤ gen ∧ gen ≤ 9223372036854775807 ∧ xs.length ≤ 1000000 ∧ ∃ l : List Mt, xs = l.map mtA ∧ fitL l,
      .tup [.ms 0 1 0 (allO gen (xs.map umt)).length, .w (.int .i64 (allE gen (xs.map umt)))], [.b (allO gen (xs.map umt))]⟩
  | _, _ => noRes
theorem layM_len (m : Mt) (h : chkM m = 0) : (layM m).length ≤ 103 := by
  obtain ⟨k, t, i, nm, p, cp, z, b, c⟩ := m
  obtain ⟨hk6, ht, hi, hz, hb, hcc, hk⟩ := chk_rng h
  have l1 := pz_len t (by omega) (by omega)
  have l2 := pz_len i (by omega) (by omega)
  have l3 := pz_len z (by omega) (by omega)
  have l4 := pz_len b (by omega) (by omega)
  have l5 := pz_len c (by omega) (by omega)
  unfold layM numsM
  by_cases hz : k = 0
  · obtain ⟨hp1, hp2, hn1, hn2, hn3⟩ := hk hz
    have l6 := pz_len p (by omega) (by omega)
    have r7 : -9223372036854775808 ≤ cpN ⟨k, t, i, nm, p, cp, z, b, c⟩ ∧ cpN ⟨k, t, i, nm, p, cp, z, b, c⟩ ≤ 9223372036854775807 := by cases cp <;> simp [cpN]
    have l7 := pz_len _ r7.1 r7.2
    have l8 := textL_len8 nm (by omega)
    rw [if_pos hz, if_pos hz]
    simp; omega
  · simp only [if_neg hz]
    repeat' split
    all_goals (simp; try omega)
theorem cat8_len (l : List Mt) (h : ∀ m ∈ l, chkM m = 0) : (cat8 l).length ≤ 113 * l.length := by
  unfold cat8
  induction l with
  | nil => simp
  | cons m r ih =>
    have h1 := layM_len m (h m (by simp))
    have h2 := textL_len8 (layM m) (by omega)
    have h3 := ih (fun x hx => h x (by simp [hx]))
    rw [List.flatMap_cons, List.length_append, List.length_cons]; omega
theorem fbad_none : ∀ (l : List Mt), (∀ m ∈ l, chkM m = 0) → fbad l = 0
  | [], _ => rfl
  | m :: r, h => by unfold fbad; rw [if_pos (h m (by simp))]; exact fbad_none r (fun x hx => h x (by simp [hx]))
theorem fbad_at : ∀ (l : List Mt) (i : Nat) (hi : i < l.length), (∀ m ∈ l.take i, chkM m = 0) → chkM l[i] ≠ 0 → fbad l = chkM l[i]
  | m :: r, 0, _, _, h => by unfold fbad; exact if_neg h
  | m :: r, i + 1, hi, ha, h => by
    unfold fbad; rw [if_pos (ha m (by simp))]
    exact fbad_at r i (by simpa using hi) (fun x hx => ha x (by simp [hx])) h
theorem cat8_snoc (l : List Mt) (i : Nat) (hi : i < l.length) : cat8 (l.take (i + 1)) = cat8 (l.take i) ++ textL (layM l[i]) := by
  unfold cat8
  rw [List.take_succ_eq_append_getElem hi, List.flatMap_append]; simp
def SputAll8 (f : FuncId) : Option FSpec :=
  match f with
  | 31 => some outS
  | 24 => some putS
  | 10 => some put8S
  | 25 => some textS
  | _ => none
theorem SputAll8_ok : Fns Try.prog SputAll8 := by
  intro f s h
  unfold SputAll8 at h
  split at h
  · injection h with h; subst h; exact ⟨⟨_, Try.func31, by kernel_rfl, by kernel_rfl⟩, out_sound⟩
  · injection h with h; subst h; exact ⟨⟨_, Try.func24, by kernel_rfl, by kernel_rfl⟩, put_sound⟩
  · injection h with h; subst h; exact ⟨⟨_, Try.func10, by kernel_rfl, by kernel_rfl⟩, put8_sound⟩
  · injection h with h; subst h; exact ⟨⟨_, Try.func25, by kernel_rfl, by kernel_rfl⟩, text_sound⟩
  · cases h
def SrputAll8 (f : FuncId) : Option FSpec :=
  match f with
  | 28 => some putS
  | 11 => some put8S
  | 29 => some textS
  | _ => none
theorem SrputAll8_ok : Fns Try.prog SrputAll8 := by
  intro f s h
  unfold SrputAll8 at h
  split at h
  · injection h with h; subst h; exact ⟨⟨_, Try.func28, by kernel_rfl, by kernel_rfl⟩, rput_sound⟩
  · injection h with h; subst h; exact ⟨⟨_, Try.func11, by kernel_rfl, by kernel_rfl⟩, rput8_sound⟩
  · injection h with h; subst h; exact ⟨⟨_, Try.func29, by kernel_rfl, by kernel_rfl⟩, rtext_sound⟩
  · cases h
section
set_option maxRecDepth 100000
set_option maxHeartbeats 4000000 in
theorem putAll8_sound : Sound Try.prog 21 putAllS := by
  refine fn_soundW (S := SputAll8) (T := ty) mixed ty_ok SputAll8_ok Try.func21 (c := Try.f21.body.getD .skip) (by kernel_rfl) (by kernel_rfl) (fun xs pins hp _ => ?_)
  unfold putAllS at hp ⊢
  split at hp
  · rename_i gen xs f _
    obtain ⟨hg1, hg2, hL, l, rfl, hfit⟩ := hp
    rw [List.length_map] at hL
    have hle : (l.map mtA).length = l.length := by simp
    rw [map_umt]
    refine ⟨by simp, ?_⟩
    unfold Try.f21
    by_cases hout : gen < 0 ∨ 1099511627776 < gen
    · have d1 : decide (gen < 0 ∨ 1099511627776 < gen) = true := decide_eq_true hout
      have hE : allE gen l = 11 := if_pos hout
      have hO : allO gen l = [] := by unfold allO; rw [hE]; rfl
      rw [hE, hO]
      simp -implicitDefEqProofs only [evT, evD0, evD1, evD2, implies_true, forall_const, Option.getD, later_normal, aop, aLen, ev, putSlot, cv, cvl, aConv, aBin, aInt, aUn, aFn, aEq, List.length, IntKind.bits, evo, coe, List.append, List.replicate, Nat.reduceAdd, Nat.reduceSub, Nat.reduceMul, Int.reduceToNat, reduceCtorEq, aIndexAddr, aIndex, TD.aggr, aPick, aMin, aMax, Ax.Ends, rone, ↓reduceIte, List.isEmpty, Int.reducePow, Nat.reducePow, Int.reduceMod, Nat.reduceLeDiff, Int.reduceLE, Int.reduceNe, Int.reduceEq, aAppend, appendB, viewB, List.drop, List.take, aRange, aNext, aCopy, srcB, viewG, appendG, appendI, aSlice, bnd, full3, aStore, setB, AV.leaves, AV.okv, AV.leaf, one, elemLeaves, Blk.size, Blk.len, Option.isSome, Option.isNone, aStr, aNil, aExtract, viewI, Nat.reduceEqDiff, Nat.reduceLT, Nat.reduceBEq, List.contains, List.elem, Blk.closed, Blk.noimm, ↓gsplit_tt, ↓gsplit_ff, ↓gsplit_tf, ↓gsplit_ft, ↓csplit_t, ↓csplit_f, givenUp, Blk.clean, notMs, -coe, coe_w, coe_str, coe_agg, coe_tup, coe_sb, coe_si, coe_cp, coe_ms, coe_rf, coe_fn, coe_cons, ty, SputAll8, outS, d1]
      exact msnil8_ends 4 5 (by decide) rfl rfl rfl rfl
    · have d1 : decide (gen < 0 ∨ 1099511627776 < gen) = false := decide_eq_false hout
      have rg : -9223372036854775808 ≤ gen ∧ gen ≤ 9223372036854775807 := ⟨hg1, hg2⟩
      have rn : -9223372036854775808 ≤ (l.length : Int) ∧ (l.length : Int) ≤ 9223372036854775807 := by omega
      have lg := pz_len gen rg.1 rg.2
      have ln := pz_len _ rn.1 rn.2
      have tk : ∀ l : List UInt8, List.take l.length l = l := fun l => List.take_length
      simp -implicitDefEqProofs only [evT, evD0, evD1, evD2, implies_true, forall_const, Option.getD, later_normal, aop, aLen, ev, putSlot, cv, cvl, aConv, aBin, aInt, aUn, aFn, aEq, List.length, IntKind.bits, evo, coe, List.append, List.replicate, Nat.reduceAdd, Nat.reduceSub, Nat.reduceMul, Int.reduceToNat, reduceCtorEq, aIndexAddr, aIndex, TD.aggr, aPick, aMin, aMax, Ax.Ends, rone, ↓reduceIte, List.isEmpty, Int.reducePow, Nat.reducePow, Int.reduceMod, Nat.reduceLeDiff, Int.reduceLE, Int.reduceNe, Int.reduceEq, aAppend, appendB, viewB, List.drop, List.take, aRange, aNext, aCopy, srcB, viewG, appendG, appendI, aSlice, bnd, full3, aStore, setB, AV.leaves, AV.okv, AV.leaf, one, elemLeaves, Blk.size, Blk.len, Option.isSome, Option.isNone, aStr, aNil, aExtract, viewI, Nat.reduceEqDiff, Nat.reduceLT, Nat.reduceBEq, List.contains, List.elem, Blk.closed, Blk.noimm, ↓gsplit_tt, ↓gsplit_ff, ↓gsplit_tf, ↓gsplit_ft, ↓csplit_t, ↓csplit_f, givenUp, Blk.clean, notMs, -coe, coe_w, coe_str, coe_agg, coe_tup, coe_sb, coe_si, coe_cp, coe_ms, coe_rf, coe_fn, coe_cons, ty, SputAll8, outS, d1, putS, pz_def, rg, rn, hle, tk]
      refine ⟨by unfold top; omega, awp_loopW ⟨fun m σ => ∃ i : Nat, m = l.length - i ∧ i ≤ l.length ∧ (∀ m ∈ l.take i, chkM m = 0) ∧
        σ = ⟨[.w (.int .i64 gen), .sg 9 (l.map mtA) f, .junk, .junk, .junk, .junk, .ms 4 1 0 (pz gen ++ (pz (l.length : Int) ++ cat8 (l.take i))).length, .junk, .junk, .junk, .junk, .junk, .junk, .junk, .junk, .junk, .junk, .junk, .junk, .sg 9 (l.map mtA) f, .w (.int .i64 l.length), .w (.int .i64 i), .junk, .junk, .junk, .junk, .junk, .junk, .junk, .junk, .junk, .junk, .junk, .junk, .junk, .junk, .junk, .junk, .junk, .junk, .junk, .junk, .junk], [(4, .b (pz gen ++ (pz (l.length : Int) ++ cat8 (l.take i))))], 5⟩, ?_, ?_⟩⟩
      · refine ⟨_, _, weak_ren [0, 1, 2, 3, 76] rfl rfl rfl ?_ ?_, 0, rfl, by omega, by simp, rfl⟩
        · simp only [SameS, SameH, setSlot, gOf, AV.ren, renL, Blk.ren, Ax.look, Ax.put, reduceCtorEq, true_or, false_or, or_true, or_false, and_true, true_and, AV.w.injEq, Value.int.injEq, Value.bool.injEq, AV.ms.injEq, AV.sb.injEq, AV.str.injEq, ↓reduceIte, Nat.reduceEqDiff, Nat.reduceLT, List.length_append, List.length_cons, List.length_nil, Nat.zero_add, Nat.add_zero, Option.some.injEq, Blk.b.injEq, Blk.i.injEq, Nat.succ_ne_zero, Nat.reduceAdd, and_self]; simp [cat8]
        · simp only [SameS, SameH, setSlot, gOf, AV.ren, renL, Blk.ren, Ax.look, Ax.put, reduceCtorEq, true_or, false_or, or_true, or_false, and_true, true_and, AV.w.injEq, Value.int.injEq, Value.bool.injEq, AV.ms.injEq, AV.sb.injEq, AV.str.injEq, ↓reduceIte, Nat.reduceEqDiff, Nat.reduceLT, List.length_append, List.length_cons, List.length_nil, Nat.zero_add, Nat.add_zero, Option.some.injEq, Blk.b.injEq, Blk.i.injEq, Nat.succ_ne_zero, Nat.reduceAdd, and_self]; try simp [cat8]
      · rintro m σ ⟨i, rfl, hi, hall, rfl⟩
        have cnt : (((pz gen ++ (pz (l.length : Int) ++ cat8 (l.take i))).length : Nat)) ≤ 20 + 113 * i := by
          have h1 := cat8_len (l.take i) hall
          have h2 : (l.take i).length ≤ i := List.length_take_le _ _
          simp only [List.length_append]; omega
        by_cases hil : i < l.length
        · have d2 : decide ((i : Int) < l.length) = true := decide_eq_true (by omega)
          have e1 : ((i : Int) + 1 + 9223372036854775808) % 18446744073709551616 - 9223372036854775808 = ((i + 1 : Nat) : Int) := by omega
          have hs1 := slot_mt l i hil
          have hft := hfit l[i] (List.getElem_mem hil)
          have hsn := cat8_snoc l i hil
          have hfb := fbad_at l i hil hall
          have hmem : l[i] ∈ l := List.getElem_mem hil
          have hll := layM_len l[i]
          have htl := textL_len8 (layM l[i])
          have hpb : putB8 l[i] = if chkM l[i] = 0 then layM l[i] else [] := rfl
          have htake : l.take (i + 1) = l.take i ++ [l[i]] := List.take_succ_eq_append_getElem hil
          obtain ⟨mm, hmm⟩ : ∃ x, l[i] = x := ⟨_, rfl⟩
          rw [hmm] at hs1 hft hsn hfb hll htl hpb htake
          obtain ⟨k, t, ix, nm, p, cp, z, b, c⟩ := mm
          obtain ⟨hk0, hk1, hnl⟩ := hft
          simp only at hk0 hk1 hnl
          have hs1 : slot (l.map mtA) i = .agg [.w (.int .u8 k), .w (.int .i64 t), .w (.int .i64 ix), .str nm, .w (.int .i64 p), .w (.bool cp), .w (.int .i64 z), .w (.int .i64 b), .w (.int .i64 c)] := hs1
          by_cases hc : chkM ⟨k, t, ix, nm, p, cp, z, b, c⟩ = 0
          · rw [if_pos hc] at hpb
            have hll := hll hc
            have htl := htl (by omega)
            obtain ⟨Y, hY⟩ : ∃ x, layM ⟨k, t, ix, nm, p, cp, z, b, c⟩ = x := ⟨_, rfl⟩
            rw [hY] at hpb hll htl hsn
            have hYl : Y.length ≤ 1000000 := by omega
            obtain ⟨X, hX⟩ : ∃ x, pz gen ++ (pz (l.length : Int) ++ cat8 (l.take i)) = x := ⟨_, rfl⟩
            have hX2 : pz gen ++ (pz (l.length : Int) ++ cat8 (l.take (i + 1))) = X ++ textL Y := by rw [hsn, ← hX]; simp
            have hX3 : (pz gen).length + ((pz (l.length : Int)).length + (cat8 (l.take (i + 1))).length) = X.length + (textL Y).length := by simpa using congrArg List.length hX2
            rw [hX] at cnt ⊢
            simp -implicitDefEqProofs only [evT, evD0, evD1, evD2, implies_true, forall_const, Option.getD, later_normal, aop, aLen, ev, putSlot, cv, cvl, aConv, aBin, aInt, aUn, aFn, aEq, List.length, IntKind.bits, evo, coe, List.append, List.replicate, Nat.reduceAdd, Nat.reduceSub, Nat.reduceMul, Int.reduceToNat, reduceCtorEq, aIndexAddr, aIndex, TD.aggr, aPick, aMin, aMax, Ax.Ends, rone, ↓reduceIte, List.isEmpty, Int.reducePow, Nat.reducePow, Int.reduceMod, Nat.reduceLeDiff, Int.reduceLE, Int.reduceNe, Int.reduceEq, aAppend, appendB, viewB, List.drop, List.take, aRange, aNext, aCopy, srcB, viewG, appendG, appendI, aSlice, bnd, full3, aStore, setB, AV.leaves, AV.okv, AV.leaf, one, elemLeaves, Blk.size, Blk.len, Option.isSome, Option.isNone, aStr, aNil, aExtract, viewI, Nat.reduceEqDiff, Nat.reduceLT, Nat.reduceBEq, List.contains, List.elem, Blk.closed, Blk.noimm, ↓gsplit_tt, ↓gsplit_ff, ↓gsplit_tf, ↓gsplit_ft, ↓csplit_t, ↓csplit_f, givenUp, Blk.clean, notMs, -coe, coe_w, coe_str, coe_agg, coe_tup, coe_sb, coe_si, coe_cp, coe_ms, coe_rf, coe_fn, coe_cons, ty, SputAll8, put8S, textS, hle, d2, e1, hs1, hk0, hk1, hnl, hc, hpb, hYl, tk, Int.toNat_natCast]
            repeat (refine And.intro (by first | omega | (unfold top; omega)) ?_)
            refine ⟨l.length - (i + 1), _, by omega, weak_ren [0, 1, 2, 3, 149] rfl rfl rfl ?_ ?_, i + 1, rfl, by omega, ?_, rfl⟩
            · simp only [SameS, SameH, setSlot, gOf, AV.ren, renL, Blk.ren, Ax.look, Ax.put, reduceCtorEq, true_or, false_or, or_true, or_false, and_true, true_and, AV.w.injEq, Value.int.injEq, Value.bool.injEq, AV.ms.injEq, AV.sb.injEq, AV.str.injEq, ↓reduceIte, Nat.reduceEqDiff, Nat.reduceLT, List.length_append, List.length_cons, List.length_nil, Nat.zero_add, Nat.add_zero, Option.some.injEq, Blk.b.injEq, Blk.i.injEq, Nat.succ_ne_zero, Nat.reduceAdd, and_self, hX2, hX3]
            · simp only [SameS, SameH, setSlot, gOf, AV.ren, renL, Blk.ren, Ax.look, Ax.put, reduceCtorEq, true_or, false_or, or_true, or_false, and_true, true_and, AV.w.injEq, Value.int.injEq, Value.bool.injEq, AV.ms.injEq, AV.sb.injEq, AV.str.injEq, ↓reduceIte, Nat.reduceEqDiff, Nat.reduceLT, List.length_append, List.length_cons, List.length_nil, Nat.zero_add, Nat.add_zero, Option.some.injEq, Blk.b.injEq, Blk.i.injEq, Nat.succ_ne_zero, Nat.reduceAdd, and_self, hX2, hX3]
            · intro q hq
              rw [htake, List.mem_append] at hq
              rcases hq with hq | hq
              · exact hall q hq
              · have : q = ⟨k, t, ix, nm, p, cp, z, b, c⟩ := by simpa using hq
                rw [this]; exact hc
          · have d3 : decide (chkM ⟨k, t, ix, nm, p, cp, z, b, c⟩ = 0) = false := decide_eq_false hc
            have hfb := hfb hc
            have hE : allE gen l = chkM ⟨k, t, ix, nm, p, cp, z, b, c⟩ := by unfold allE; rw [if_neg hout, hfb, if_neg hc]
            have hO : allO gen l = [] := by unfold allO; rw [hE, if_neg hc]
            rw [hE, hO]
            obtain ⟨C, hC⟩ : ∃ x, chkM ⟨k, t, ix, nm, p, cp, z, b, c⟩ = x := ⟨_, rfl⟩
            rw [hC] at d3 ⊢
            simp -implicitDefEqProofs only [evT, evD0, evD1, evD2, implies_true, forall_const, Option.getD, later_normal, aop, aLen, ev, putSlot, cv, cvl, aConv, aBin, aInt, aUn, aFn, aEq, List.length, IntKind.bits, evo, coe, List.append, List.replicate, Nat.reduceAdd, Nat.reduceSub, Nat.reduceMul, Int.reduceToNat, reduceCtorEq, aIndexAddr, aIndex, TD.aggr, aPick, aMin, aMax, Ax.Ends, rone, ↓reduceIte, List.isEmpty, Int.reducePow, Nat.reducePow, Int.reduceMod, Nat.reduceLeDiff, Int.reduceLE, Int.reduceNe, Int.reduceEq, aAppend, appendB, viewB, List.drop, List.take, aRange, aNext, aCopy, srcB, viewG, appendG, appendI, aSlice, bnd, full3, aStore, setB, AV.leaves, AV.okv, AV.leaf, one, elemLeaves, Blk.size, Blk.len, Option.isSome, Option.isNone, aStr, aNil, aExtract, viewI, Nat.reduceEqDiff, Nat.reduceLT, Nat.reduceBEq, List.contains, List.elem, Blk.closed, Blk.noimm, ↓gsplit_tt, ↓gsplit_ff, ↓gsplit_tf, ↓gsplit_ft, ↓csplit_t, ↓csplit_f, givenUp, Blk.clean, notMs, -coe, coe_w, coe_str, coe_agg, coe_tup, coe_sb, coe_si, coe_cp, coe_ms, coe_rf, coe_fn, coe_cons, ty, SputAll8, put8S, textS, hle, d2, d3, hs1, hk0, hk1, hnl, hC, Int.toNat_natCast]
            repeat (refine And.intro (by first | omega | (unfold top; omega)) ?_)
            refine ⟨_, Weak.refl _, ?_⟩
            simp -implicitDefEqProofs only [evT, evD0, evD1, evD2, implies_true, forall_const, Option.getD, later_normal, aop, aLen, ev, putSlot, cv, cvl, aConv, aBin, aInt, aUn, aFn, aEq, List.length, IntKind.bits, evo, coe, List.append, List.replicate, Nat.reduceAdd, Nat.reduceSub, Nat.reduceMul, Int.reduceToNat, reduceCtorEq, aIndexAddr, aIndex, TD.aggr, aPick, aMin, aMax, Ax.Ends, rone, ↓reduceIte, List.isEmpty, Int.reducePow, Nat.reducePow, Int.reduceMod, Nat.reduceLeDiff, Int.reduceLE, Int.reduceNe, Int.reduceEq, aAppend, appendB, viewB, List.drop, List.take, aRange, aNext, aCopy, srcB, viewG, appendG, appendI, aSlice, bnd, full3, aStore, setB, AV.leaves, AV.okv, AV.leaf, one, elemLeaves, Blk.size, Blk.len, Option.isSome, Option.isNone, aStr, aNil, aExtract, viewI, Nat.reduceEqDiff, Nat.reduceLT, Nat.reduceBEq, List.contains, List.elem, Blk.closed, Blk.noimm, ↓gsplit_tt, ↓gsplit_ff, ↓gsplit_tf, ↓gsplit_ft, ↓csplit_t, ↓csplit_f, givenUp, Blk.clean, notMs, -coe, coe_w, coe_str, coe_agg, coe_tup, coe_sb, coe_si, coe_cp, coe_ms, coe_rf, coe_fn, coe_cons, ty, SputAll8]
            exact msnil8_ends 4 5 (by decide) rfl rfl rfl rfl
        · have d2 : decide ((i : Int) < l.length) = false := decide_eq_false (by omega)
          have hi2 : i = l.length := by omega
          subst hi2
          rw [List.take_length] at hall ⊢
          have hf0 : fbad l = 0 := fbad_none l hall
          have hcl := cat8_len l hall
          have hB : allB gen l = pz gen ++ (pz (l.length : Int) ++ cat8 l) := rfl
          by_cases h8 : 8192 < (allB gen l).length
          · have d3 : decide ((8192 : Int) < ((allB gen l).length : Int)) = true := decide_eq_true (by omega)
            have hE : allE gen l = 5 := by unfold allE; rw [if_neg hout, if_pos hf0, if_pos h8]
            have hO : allO gen l = [] := by unfold allO; rw [hE]; rfl
            rw [hE, hO, ← hB]
            simp -implicitDefEqProofs only [evT, evD0, evD1, evD2, implies_true, forall_const, Option.getD, later_normal, aop, aLen, ev, putSlot, cv, cvl, aConv, aBin, aInt, aUn, aFn, aEq, List.length, IntKind.bits, evo, coe, List.append, List.replicate, Nat.reduceAdd, Nat.reduceSub, Nat.reduceMul, Int.reduceToNat, reduceCtorEq, aIndexAddr, aIndex, TD.aggr, aPick, aMin, aMax, Ax.Ends, rone, ↓reduceIte, List.isEmpty, Int.reducePow, Nat.reducePow, Int.reduceMod, Nat.reduceLeDiff, Int.reduceLE, Int.reduceNe, Int.reduceEq, aAppend, appendB, viewB, List.drop, List.take, aRange, aNext, aCopy, srcB, viewG, appendG, appendI, aSlice, bnd, full3, aStore, setB, AV.leaves, AV.okv, AV.leaf, one, elemLeaves, Blk.size, Blk.len, Option.isSome, Option.isNone, aStr, aNil, aExtract, viewI, Nat.reduceEqDiff, Nat.reduceLT, Nat.reduceBEq, List.contains, List.elem, Blk.closed, Blk.noimm, ↓gsplit_tt, ↓gsplit_ff, ↓gsplit_tf, ↓gsplit_ft, ↓csplit_t, ↓csplit_f, givenUp, Blk.clean, notMs, -coe, coe_w, coe_str, coe_agg, coe_tup, coe_sb, coe_si, coe_cp, coe_ms, coe_rf, coe_fn, coe_cons, ty, SputAll8, hle, d2, d3]
            refine ⟨_, Weak.refl _, ?_⟩
            simp -implicitDefEqProofs only [evT, evD0, evD1, evD2, implies_true, forall_const, Option.getD, later_normal, aop, aLen, ev, putSlot, cv, cvl, aConv, aBin, aInt, aUn, aFn, aEq, List.length, IntKind.bits, evo, coe, List.append, List.replicate, Nat.reduceAdd, Nat.reduceSub, Nat.reduceMul, Int.reduceToNat, reduceCtorEq, aIndexAddr, aIndex, TD.aggr, aPick, aMin, aMax, Ax.Ends, rone, ↓reduceIte, List.isEmpty, Int.reducePow, Nat.reducePow, Int.reduceMod, Nat.reduceLeDiff, Int.reduceLE, Int.reduceNe, Int.reduceEq, aAppend, appendB, viewB, List.drop, List.take, aRange, aNext, aCopy, srcB, viewG, appendG, appendI, aSlice, bnd, full3, aStore, setB, AV.leaves, AV.okv, AV.leaf, one, elemLeaves, Blk.size, Blk.len, Option.isSome, Option.isNone, aStr, aNil, aExtract, viewI, Nat.reduceEqDiff, Nat.reduceLT, Nat.reduceBEq, List.contains, List.elem, Blk.closed, Blk.noimm, ↓gsplit_tt, ↓gsplit_ff, ↓gsplit_tf, ↓gsplit_ft, ↓csplit_t, ↓csplit_f, givenUp, Blk.clean, notMs, -coe, coe_w, coe_str, coe_agg, coe_tup, coe_sb, coe_si, coe_cp, coe_ms, coe_rf, coe_fn, coe_cons, ty, SputAll8, hle, d2, d3]
            exact msnil8_ends 4 5 (by decide) rfl rfl rfl rfl
          · have d3 : decide ((8192 : Int) < ((allB gen l).length : Int)) = false := decide_eq_false (by omega)
            have hE : allE gen l = 0 := by unfold allE; rw [if_neg hout, if_pos hf0, if_neg h8]
            have hO : allO gen l = allB gen l := by unfold allO; rw [hE]; rfl
            rw [hE, hO, ← hB]
            simp -implicitDefEqProofs only [evT, evD0, evD1, evD2, implies_true, forall_const, Option.getD, later_normal, aop, aLen, ev, putSlot, cv, cvl, aConv, aBin, aInt, aUn, aFn, aEq, List.length, IntKind.bits, evo, coe, List.append, List.replicate, Nat.reduceAdd, Nat.reduceSub, Nat.reduceMul, Int.reduceToNat, reduceCtorEq, aIndexAddr, aIndex, TD.aggr, aPick, aMin, aMax, Ax.Ends, rone, ↓reduceIte, List.isEmpty, Int.reducePow, Nat.reducePow, Int.reduceMod, Nat.reduceLeDiff, Int.reduceLE, Int.reduceNe, Int.reduceEq, aAppend, appendB, viewB, List.drop, List.take, aRange, aNext, aCopy, srcB, viewG, appendG, appendI, aSlice, bnd, full3, aStore, setB, AV.leaves, AV.okv, AV.leaf, one, elemLeaves, Blk.size, Blk.len, Option.isSome, Option.isNone, aStr, aNil, aExtract, viewI, Nat.reduceEqDiff, Nat.reduceLT, Nat.reduceBEq, List.contains, List.elem, Blk.closed, Blk.noimm, ↓gsplit_tt, ↓gsplit_ff, ↓gsplit_tf, ↓gsplit_ft, ↓csplit_t, ↓csplit_f, givenUp, Blk.clean, notMs, -coe, coe_w, coe_str, coe_agg, coe_tup, coe_sb, coe_si, coe_cp, coe_ms, coe_rf, coe_fn, coe_cons, ty, SputAll8, hle, d2, d3]
            refine ⟨_, Weak.refl _, ?_⟩
            simp -implicitDefEqProofs only [evT, evD0, evD1, evD2, implies_true, forall_const, Option.getD, later_normal, aop, aLen, ev, putSlot, cv, cvl, aConv, aBin, aInt, aUn, aFn, aEq, List.length, IntKind.bits, evo, coe, List.append, List.replicate, Nat.reduceAdd, Nat.reduceSub, Nat.reduceMul, Int.reduceToNat, reduceCtorEq, aIndexAddr, aIndex, TD.aggr, aPick, aMin, aMax, Ax.Ends, rone, ↓reduceIte, List.isEmpty, Int.reducePow, Nat.reducePow, Int.reduceMod, Nat.reduceLeDiff, Int.reduceLE, Int.reduceNe, Int.reduceEq, aAppend, appendB, viewB, List.drop, List.take, aRange, aNext, aCopy, srcB, viewG, appendG, appendI, aSlice, bnd, full3, aStore, setB, AV.leaves, AV.okv, AV.leaf, one, elemLeaves, Blk.size, Blk.len, Option.isSome, Option.isNone, aStr, aNil, aExtract, viewI, Nat.reduceEqDiff, Nat.reduceLT, Nat.reduceBEq, List.contains, List.elem, Blk.closed, Blk.noimm, ↓gsplit_tt, ↓gsplit_ff, ↓gsplit_tf, ↓gsplit_ft, ↓csplit_t, ↓csplit_f, givenUp, Blk.clean, notMs, -coe, coe_w, coe_str, coe_agg, coe_tup, coe_sb, coe_si, coe_cp, coe_ms, coe_rf, coe_fn, coe_cons, ty, SputAll8, hle, d2, d3]
            exact ms8_ends 4 5 (by decide) rfl rfl rfl rfl rfl rfl
  · exact hp.elim
set_option maxHeartbeats 4000000 in
theorem rputAll8_sound : Sound Try.prog 22 putAllS := by
  refine fn_soundW (S := SrputAll8) (T := ty) mixed ty_ok SrputAll8_ok Try.func22 (c := Try.f22.body.getD .skip) (by kernel_rfl) (by kernel_rfl) (fun xs pins hp _ => ?_)
  unfold putAllS at hp ⊢
  split at hp
  · rename_i gen xs f _
    obtain ⟨hg1, hg2, hL, l, rfl, hfit⟩ := hp
    rw [List.length_map] at hL
    have hle : (l.map mtA).length = l.length := by simp
    rw [map_umt]
    refine ⟨by simp, ?_⟩
    unfold Try.f22
    by_cases hout : gen < 0 ∨ 1099511627776 < gen
    · have hE : allE gen l = 11 := if_pos hout
      have hO : allO gen l = [] := by unfold allO; rw [hE]; rfl
      rw [hE, hO]
      by_cases h1 : gen < 0
      · have d1 : decide (gen < 0) = true := decide_eq_true h1
        simp -implicitDefEqProofs only [evT, evD0, evD1, evD2, implies_true, forall_const, Option.getD, later_normal, aop, aLen, ev, putSlot, cv, cvl, aConv, aBin, aInt, aUn, aFn, aEq, List.length, IntKind.bits, evo, coe, List.append, List.replicate, Nat.reduceAdd, Nat.reduceSub, Nat.reduceMul, Int.reduceToNat, reduceCtorEq, aIndexAddr, aIndex, TD.aggr, aPick, aMin, aMax, Ax.Ends, rone, ↓reduceIte, List.isEmpty, Int.reducePow, Nat.reducePow, Int.reduceMod, Nat.reduceLeDiff, Int.reduceLE, Int.reduceNe, Int.reduceEq, aAppend, appendB, viewB, List.drop, List.take, aRange, aNext, aCopy, srcB, viewG, appendG, appendI, aSlice, bnd, full3, aStore, setB, AV.leaves, AV.okv, AV.leaf, one, elemLeaves, Blk.size, Blk.len, Option.isSome, Option.isNone, aStr, aNil, aExtract, viewI, Nat.reduceEqDiff, Nat.reduceLT, Nat.reduceBEq, List.contains, List.elem, Blk.closed, Blk.noimm, ↓gsplit_tt, ↓gsplit_ff, ↓gsplit_tf, ↓gsplit_ft, ↓csplit_t, ↓csplit_f, givenUp, Blk.clean, notMs, -coe, coe_w, coe_str, coe_agg, coe_tup, coe_sb, coe_si, coe_cp, coe_ms, coe_rf, coe_fn, coe_cons, ty, SrputAll8, d1]
        exact msnil8_ends 4 5 (by decide) rfl rfl rfl rfl
      · have d1 : decide (gen < 0) = false := decide_eq_false h1
        have d2 : decide (1099511627776 < gen) = true := decide_eq_true (by omega)
        simp -implicitDefEqProofs only [evT, evD0, evD1, evD2, implies_true, forall_const, Option.getD, later_normal, aop, aLen, ev, putSlot, cv, cvl, aConv, aBin, aInt, aUn, aFn, aEq, List.length, IntKind.bits, evo, coe, List.append, List.replicate, Nat.reduceAdd, Nat.reduceSub, Nat.reduceMul, Int.reduceToNat, reduceCtorEq, aIndexAddr, aIndex, TD.aggr, aPick, aMin, aMax, Ax.Ends, rone, ↓reduceIte, List.isEmpty, Int.reducePow, Nat.reducePow, Int.reduceMod, Nat.reduceLeDiff, Int.reduceLE, Int.reduceNe, Int.reduceEq, aAppend, appendB, viewB, List.drop, List.take, aRange, aNext, aCopy, srcB, viewG, appendG, appendI, aSlice, bnd, full3, aStore, setB, AV.leaves, AV.okv, AV.leaf, one, elemLeaves, Blk.size, Blk.len, Option.isSome, Option.isNone, aStr, aNil, aExtract, viewI, Nat.reduceEqDiff, Nat.reduceLT, Nat.reduceBEq, List.contains, List.elem, Blk.closed, Blk.noimm, ↓gsplit_tt, ↓gsplit_ff, ↓gsplit_tf, ↓gsplit_ft, ↓csplit_t, ↓csplit_f, givenUp, Blk.clean, notMs, -coe, coe_w, coe_str, coe_agg, coe_tup, coe_sb, coe_si, coe_cp, coe_ms, coe_rf, coe_fn, coe_cons, ty, SrputAll8, d1, d2]
        exact msnil8_ends 4 5 (by decide) rfl rfl rfl rfl
    · have d1 : decide (gen < 0) = false := decide_eq_false (by omega)
      have d1' : decide (1099511627776 < gen) = false := decide_eq_false (by omega)
      have rg : -9223372036854775808 ≤ gen ∧ gen ≤ 9223372036854775807 := ⟨hg1, hg2⟩
      have rn : -9223372036854775808 ≤ (l.length : Int) ∧ (l.length : Int) ≤ 9223372036854775807 := by omega
      have lg := pz_len gen rg.1 rg.2
      have ln := pz_len _ rn.1 rn.2
      have tk : ∀ l : List UInt8, List.take l.length l = l := fun l => List.take_length
      simp -implicitDefEqProofs only [evT, evD0, evD1, evD2, implies_true, forall_const, Option.getD, later_normal, aop, aLen, ev, putSlot, cv, cvl, aConv, aBin, aInt, aUn, aFn, aEq, List.length, IntKind.bits, evo, coe, List.append, List.replicate, Nat.reduceAdd, Nat.reduceSub, Nat.reduceMul, Int.reduceToNat, reduceCtorEq, aIndexAddr, aIndex, TD.aggr, aPick, aMin, aMax, Ax.Ends, rone, ↓reduceIte, List.isEmpty, Int.reducePow, Nat.reducePow, Int.reduceMod, Nat.reduceLeDiff, Int.reduceLE, Int.reduceNe, Int.reduceEq, aAppend, appendB, viewB, List.drop, List.take, aRange, aNext, aCopy, srcB, viewG, appendG, appendI, aSlice, bnd, full3, aStore, setB, AV.leaves, AV.okv, AV.leaf, one, elemLeaves, Blk.size, Blk.len, Option.isSome, Option.isNone, aStr, aNil, aExtract, viewI, Nat.reduceEqDiff, Nat.reduceLT, Nat.reduceBEq, List.contains, List.elem, Blk.closed, Blk.noimm, ↓gsplit_tt, ↓gsplit_ff, ↓gsplit_tf, ↓gsplit_ft, ↓csplit_t, ↓csplit_f, givenUp, Blk.clean, notMs, -coe, coe_w, coe_str, coe_agg, coe_tup, coe_sb, coe_si, coe_cp, coe_ms, coe_rf, coe_fn, coe_cons, ty, SrputAll8, d1, d1', putS, pz_def, rg, rn, hle, tk]
      refine ⟨by unfold top; omega, awp_loopW ⟨fun m σ => ∃ i : Nat, m = l.length - i ∧ i ≤ l.length ∧ (∀ m ∈ l.take i, chkM m = 0) ∧
        σ = ⟨[.w (.int .i64 gen), .sg 9 (l.map mtA) f, .junk, .junk, .junk, .junk, .ms 4 1 0 (pz gen ++ (pz (l.length : Int) ++ cat8 (l.take i))).length, .w (.int .i64 i), .junk, .junk, .junk, .junk, .junk, .junk, .junk, .junk, .junk, .junk, .junk, .junk, .junk, .junk, .junk, .junk, .junk, .junk, .junk, .junk, .junk, .junk, .junk, .junk, .junk, .junk, .junk, .junk, .junk, .junk, .junk, .junk, .junk, .junk, .junk, .junk, .junk, .junk, .junk, .junk], [(4, .b (pz gen ++ (pz (l.length : Int) ++ cat8 (l.take i))))], 5⟩, ?_, ?_⟩⟩
      · refine ⟨_, _, weak_ren [0, 1, 2, 3, 108] rfl rfl rfl ?_ ?_, 0, rfl, by omega, by simp, rfl⟩
        · simp only [SameS, SameH, setSlot, gOf, AV.ren, renL, Blk.ren, Ax.look, Ax.put, reduceCtorEq, true_or, false_or, or_true, or_false, and_true, true_and, AV.w.injEq, Value.int.injEq, Value.bool.injEq, AV.ms.injEq, AV.sb.injEq, AV.str.injEq, ↓reduceIte, Nat.reduceEqDiff, Nat.reduceLT, List.length_append, List.length_cons, List.length_nil, Nat.zero_add, Nat.add_zero, Option.some.injEq, Blk.b.injEq, Blk.i.injEq, Nat.succ_ne_zero, Nat.reduceAdd, and_self]; simp [cat8]
        · simp only [SameS, SameH, setSlot, gOf, AV.ren, renL, Blk.ren, Ax.look, Ax.put, reduceCtorEq, true_or, false_or, or_true, or_false, and_true, true_and, AV.w.injEq, Value.int.injEq, Value.bool.injEq, AV.ms.injEq, AV.sb.injEq, AV.str.injEq, ↓reduceIte, Nat.reduceEqDiff, Nat.reduceLT, List.length_append, List.length_cons, List.length_nil, Nat.zero_add, Nat.add_zero, Option.some.injEq, Blk.b.injEq, Blk.i.injEq, Nat.succ_ne_zero, Nat.reduceAdd, and_self]; try simp [cat8]
      · rintro m σ ⟨i, rfl, hi, hall, rfl⟩
        have cnt : (((pz gen ++ (pz (l.length : Int) ++ cat8 (l.take i))).length : Nat)) ≤ 20 + 113 * i := by
          have h1 := cat8_len (l.take i) hall
          have h2 : (l.take i).length ≤ i := List.length_take_le _ _
          simp only [List.length_append]; omega
        by_cases hil : i < l.length
        · have d2 : decide ((i : Int) < l.length) = true := decide_eq_true (by omega)
          have e1 : ((i : Int) + 1 + 9223372036854775808) % 18446744073709551616 - 9223372036854775808 = ((i + 1 : Nat) : Int) := by omega
          have hs1 := slot_mt l i hil
          have hft := hfit l[i] (List.getElem_mem hil)
          have hsn := cat8_snoc l i hil
          have hfb := fbad_at l i hil hall
          have hmem : l[i] ∈ l := List.getElem_mem hil
          have hll := layM_len l[i]
          have htl := textL_len8 (layM l[i])
          have hpb : putB8 l[i] = if chkM l[i] = 0 then layM l[i] else [] := rfl
          have htake : l.take (i + 1) = l.take i ++ [l[i]] := List.take_succ_eq_append_getElem hil
          obtain ⟨mm, hmm⟩ : ∃ x, l[i] = x := ⟨_, rfl⟩
          rw [hmm] at hs1 hft hsn hfb hll htl hpb htake
          obtain ⟨k, t, ix, nm, p, cp, z, b, c⟩ := mm
          obtain ⟨hk0, hk1, hnl⟩ := hft
          simp only at hk0 hk1 hnl
          have hs1 : slot (l.map mtA) i = .agg [.w (.int .u8 k), .w (.int .i64 t), .w (.int .i64 ix), .str nm, .w (.int .i64 p), .w (.bool cp), .w (.int .i64 z), .w (.int .i64 b), .w (.int .i64 c)] := hs1
          by_cases hc : chkM ⟨k, t, ix, nm, p, cp, z, b, c⟩ = 0
          · rw [if_pos hc] at hpb
            have hll := hll hc
            have htl := htl (by omega)
            obtain ⟨Y, hY⟩ : ∃ x, layM ⟨k, t, ix, nm, p, cp, z, b, c⟩ = x := ⟨_, rfl⟩
            rw [hY] at hpb hll htl hsn
            have hYl : Y.length ≤ 1000000 := by omega
            obtain ⟨X, hX⟩ : ∃ x, pz gen ++ (pz (l.length : Int) ++ cat8 (l.take i)) = x := ⟨_, rfl⟩
            have hX2 : pz gen ++ (pz (l.length : Int) ++ cat8 (l.take (i + 1))) = X ++ textL Y := by rw [hsn, ← hX]; simp
            have hX3 : (pz gen).length + ((pz (l.length : Int)).length + (cat8 (l.take (i + 1))).length) = X.length + (textL Y).length := by simpa using congrArg List.length hX2
            rw [hX] at cnt ⊢
            simp -implicitDefEqProofs only [evT, evD0, evD1, evD2, implies_true, forall_const, Option.getD, later_normal, aop, aLen, ev, putSlot, cv, cvl, aConv, aBin, aInt, aUn, aFn, aEq, List.length, IntKind.bits, evo, coe, List.append, List.replicate, Nat.reduceAdd, Nat.reduceSub, Nat.reduceMul, Int.reduceToNat, reduceCtorEq, aIndexAddr, aIndex, TD.aggr, aPick, aMin, aMax, Ax.Ends, rone, ↓reduceIte, List.isEmpty, Int.reducePow, Nat.reducePow, Int.reduceMod, Nat.reduceLeDiff, Int.reduceLE, Int.reduceNe, Int.reduceEq, aAppend, appendB, viewB, List.drop, List.take, aRange, aNext, aCopy, srcB, viewG, appendG, appendI, aSlice, bnd, full3, aStore, setB, AV.leaves, AV.okv, AV.leaf, one, elemLeaves, Blk.size, Blk.len, Option.isSome, Option.isNone, aStr, aNil, aExtract, viewI, Nat.reduceEqDiff, Nat.reduceLT, Nat.reduceBEq, List.contains, List.elem, Blk.closed, Blk.noimm, ↓gsplit_tt, ↓gsplit_ff, ↓gsplit_tf, ↓gsplit_ft, ↓csplit_t, ↓csplit_f, givenUp, Blk.clean, notMs, -coe, coe_w, coe_str, coe_agg, coe_tup, coe_sb, coe_si, coe_cp, coe_ms, coe_rf, coe_fn, coe_cons, ty, SrputAll8, put8S, textS, hle, d2, e1, hs1, hk0, hk1, hnl, hc, hpb, hYl, tk, Int.toNat_natCast]
            repeat (refine And.intro (by first | omega | (unfold top; omega)) ?_)
            refine ⟨l.length - (i + 1), _, by omega, weak_ren [0, 1, 2, 3, 165] rfl rfl rfl ?_ ?_, i + 1, rfl, by omega, ?_, rfl⟩
            · simp only [SameS, SameH, setSlot, gOf, AV.ren, renL, Blk.ren, Ax.look, Ax.put, reduceCtorEq, true_or, false_or, or_true, or_false, and_true, true_and, AV.w.injEq, Value.int.injEq, Value.bool.injEq, AV.ms.injEq, AV.sb.injEq, AV.str.injEq, ↓reduceIte, Nat.reduceEqDiff, Nat.reduceLT, List.length_append, List.length_cons, List.length_nil, Nat.zero_add, Nat.add_zero, Option.some.injEq, Blk.b.injEq, Blk.i.injEq, Nat.succ_ne_zero, Nat.reduceAdd, and_self, hX2, hX3]
            · simp only [SameS, SameH, setSlot, gOf, AV.ren, renL, Blk.ren, Ax.look, Ax.put, reduceCtorEq, true_or, false_or, or_true, or_false, and_true, true_and, AV.w.injEq, Value.int.injEq, Value.bool.injEq, AV.ms.injEq, AV.sb.injEq, AV.str.injEq, ↓reduceIte, Nat.reduceEqDiff, Nat.reduceLT, List.length_append, List.length_cons, List.length_nil, Nat.zero_add, Nat.add_zero, Option.some.injEq, Blk.b.injEq, Blk.i.injEq, Nat.succ_ne_zero, Nat.reduceAdd, and_self, hX2, hX3]
            · intro q hq
              rw [htake, List.mem_append] at hq
              rcases hq with hq | hq
              · exact hall q hq
              · have : q = ⟨k, t, ix, nm, p, cp, z, b, c⟩ := by simpa using hq
                rw [this]; exact hc
          · have d3 : decide (chkM ⟨k, t, ix, nm, p, cp, z, b, c⟩ = 0) = false := decide_eq_false hc
            have hfb := hfb hc
            have hE : allE gen l = chkM ⟨k, t, ix, nm, p, cp, z, b, c⟩ := by unfold allE; rw [if_neg hout, hfb, if_neg hc]
            have hO : allO gen l = [] := by unfold allO; rw [hE, if_neg hc]
            rw [hE, hO]
            obtain ⟨C, hC⟩ : ∃ x, chkM ⟨k, t, ix, nm, p, cp, z, b, c⟩ = x := ⟨_, rfl⟩
            rw [hC] at d3 ⊢
            simp -implicitDefEqProofs only [evT, evD0, evD1, evD2, implies_true, forall_const, Option.getD, later_normal, aop, aLen, ev, putSlot, cv, cvl, aConv, aBin, aInt, aUn, aFn, aEq, List.length, IntKind.bits, evo, coe, List.append, List.replicate, Nat.reduceAdd, Nat.reduceSub, Nat.reduceMul, Int.reduceToNat, reduceCtorEq, aIndexAddr, aIndex, TD.aggr, aPick, aMin, aMax, Ax.Ends, rone, ↓reduceIte, List.isEmpty, Int.reducePow, Nat.reducePow, Int.reduceMod, Nat.reduceLeDiff, Int.reduceLE, Int.reduceNe, Int.reduceEq, aAppend, appendB, viewB, List.drop, List.take, aRange, aNext, aCopy, srcB, viewG, appendG, appendI, aSlice, bnd, full3, aStore, setB, AV.leaves, AV.okv, AV.leaf, one, elemLeaves, Blk.size, Blk.len, Option.isSome, Option.isNone, aStr, aNil, aExtract, viewI, Nat.reduceEqDiff, Nat.reduceLT, Nat.reduceBEq, List.contains, List.elem, Blk.closed, Blk.noimm, ↓gsplit_tt, ↓gsplit_ff, ↓gsplit_tf, ↓gsplit_ft, ↓csplit_t, ↓csplit_f, givenUp, Blk.clean, notMs, -coe, coe_w, coe_str, coe_agg, coe_tup, coe_sb, coe_si, coe_cp, coe_ms, coe_rf, coe_fn, coe_cons, ty, SrputAll8, put8S, textS, hle, d2, d3, hs1, hk0, hk1, hnl, hC, Int.toNat_natCast]
            repeat (refine And.intro (by first | omega | (unfold top; omega)) ?_)
            refine ⟨_, Weak.refl _, ?_⟩
            simp -implicitDefEqProofs only [evT, evD0, evD1, evD2, implies_true, forall_const, Option.getD, later_normal, aop, aLen, ev, putSlot, cv, cvl, aConv, aBin, aInt, aUn, aFn, aEq, List.length, IntKind.bits, evo, coe, List.append, List.replicate, Nat.reduceAdd, Nat.reduceSub, Nat.reduceMul, Int.reduceToNat, reduceCtorEq, aIndexAddr, aIndex, TD.aggr, aPick, aMin, aMax, Ax.Ends, rone, ↓reduceIte, List.isEmpty, Int.reducePow, Nat.reducePow, Int.reduceMod, Nat.reduceLeDiff, Int.reduceLE, Int.reduceNe, Int.reduceEq, aAppend, appendB, viewB, List.drop, List.take, aRange, aNext, aCopy, srcB, viewG, appendG, appendI, aSlice, bnd, full3, aStore, setB, AV.leaves, AV.okv, AV.leaf, one, elemLeaves, Blk.size, Blk.len, Option.isSome, Option.isNone, aStr, aNil, aExtract, viewI, Nat.reduceEqDiff, Nat.reduceLT, Nat.reduceBEq, List.contains, List.elem, Blk.closed, Blk.noimm, ↓gsplit_tt, ↓gsplit_ff, ↓gsplit_tf, ↓gsplit_ft, ↓csplit_t, ↓csplit_f, givenUp, Blk.clean, notMs, -coe, coe_w, coe_str, coe_agg, coe_tup, coe_sb, coe_si, coe_cp, coe_ms, coe_rf, coe_fn, coe_cons, ty, SrputAll8]
            exact msnil8_ends 4 5 (by decide) rfl rfl rfl rfl
        · have d2 : decide ((i : Int) < l.length) = false := decide_eq_false (by omega)
          have hi2 : i = l.length := by omega
          subst hi2
          rw [List.take_length] at hall ⊢
          have hf0 : fbad l = 0 := fbad_none l hall
          have hcl := cat8_len l hall
          have hB : allB gen l = pz gen ++ (pz (l.length : Int) ++ cat8 l) := rfl
          by_cases h8 : 8192 < (allB gen l).length
          · have d3 : decide ((8192 : Int) < ((allB gen l).length : Int)) = true := decide_eq_true (by omega)
            have hE : allE gen l = 5 := by unfold allE; rw [if_neg hout, if_pos hf0, if_pos h8]
            have hO : allO gen l = [] := by unfold allO; rw [hE]; rfl
            rw [hE, hO, ← hB]
            simp -implicitDefEqProofs only [evT, evD0, evD1, evD2, implies_true, forall_const, Option.getD, later_normal, aop, aLen, ev, putSlot, cv, cvl, aConv, aBin, aInt, aUn, aFn, aEq, List.length, IntKind.bits, evo, coe, List.append, List.replicate, Nat.reduceAdd, Nat.reduceSub, Nat.reduceMul, Int.reduceToNat, reduceCtorEq, aIndexAddr, aIndex, TD.aggr, aPick, aMin, aMax, Ax.Ends, rone, ↓reduceIte, List.isEmpty, Int.reducePow, Nat.reducePow, Int.reduceMod, Nat.reduceLeDiff, Int.reduceLE, Int.reduceNe, Int.reduceEq, aAppend, appendB, viewB, List.drop, List.take, aRange, aNext, aCopy, srcB, viewG, appendG, appendI, aSlice, bnd, full3, aStore, setB, AV.leaves, AV.okv, AV.leaf, one, elemLeaves, Blk.size, Blk.len, Option.isSome, Option.isNone, aStr, aNil, aExtract, viewI, Nat.reduceEqDiff, Nat.reduceLT, Nat.reduceBEq, List.contains, List.elem, Blk.closed, Blk.noimm, ↓gsplit_tt, ↓gsplit_ff, ↓gsplit_tf, ↓gsplit_ft, ↓csplit_t, ↓csplit_f, givenUp, Blk.clean, notMs, -coe, coe_w, coe_str, coe_agg, coe_tup, coe_sb, coe_si, coe_cp, coe_ms, coe_rf, coe_fn, coe_cons, ty, SrputAll8, hle, d2, d3]
            refine ⟨_, Weak.refl _, ?_⟩
            simp -implicitDefEqProofs only [evT, evD0, evD1, evD2, implies_true, forall_const, Option.getD, later_normal, aop, aLen, ev, putSlot, cv, cvl, aConv, aBin, aInt, aUn, aFn, aEq, List.length, IntKind.bits, evo, coe, List.append, List.replicate, Nat.reduceAdd, Nat.reduceSub, Nat.reduceMul, Int.reduceToNat, reduceCtorEq, aIndexAddr, aIndex, TD.aggr, aPick, aMin, aMax, Ax.Ends, rone, ↓reduceIte, List.isEmpty, Int.reducePow, Nat.reducePow, Int.reduceMod, Nat.reduceLeDiff, Int.reduceLE, Int.reduceNe, Int.reduceEq, aAppend, appendB, viewB, List.drop, List.take, aRange, aNext, aCopy, srcB, viewG, appendG, appendI, aSlice, bnd, full3, aStore, setB, AV.leaves, AV.okv, AV.leaf, one, elemLeaves, Blk.size, Blk.len, Option.isSome, Option.isNone, aStr, aNil, aExtract, viewI, Nat.reduceEqDiff, Nat.reduceLT, Nat.reduceBEq, List.contains, List.elem, Blk.closed, Blk.noimm, ↓gsplit_tt, ↓gsplit_ff, ↓gsplit_tf, ↓gsplit_ft, ↓csplit_t, ↓csplit_f, givenUp, Blk.clean, notMs, -coe, coe_w, coe_str, coe_agg, coe_tup, coe_sb, coe_si, coe_cp, coe_ms, coe_rf, coe_fn, coe_cons, ty, SrputAll8, hle, d2, d3]
            exact msnil8_ends 4 5 (by decide) rfl rfl rfl rfl
          · have d3 : decide ((8192 : Int) < ((allB gen l).length : Int)) = false := decide_eq_false (by omega)
            have hE : allE gen l = 0 := by unfold allE; rw [if_neg hout, if_pos hf0, if_neg h8]
            have hO : allO gen l = allB gen l := by unfold allO; rw [hE]; rfl
            rw [hE, hO, ← hB]
            simp -implicitDefEqProofs only [evT, evD0, evD1, evD2, implies_true, forall_const, Option.getD, later_normal, aop, aLen, ev, putSlot, cv, cvl, aConv, aBin, aInt, aUn, aFn, aEq, List.length, IntKind.bits, evo, coe, List.append, List.replicate, Nat.reduceAdd, Nat.reduceSub, Nat.reduceMul, Int.reduceToNat, reduceCtorEq, aIndexAddr, aIndex, TD.aggr, aPick, aMin, aMax, Ax.Ends, rone, ↓reduceIte, List.isEmpty, Int.reducePow, Nat.reducePow, Int.reduceMod, Nat.reduceLeDiff, Int.reduceLE, Int.reduceNe, Int.reduceEq, aAppend, appendB, viewB, List.drop, List.take, aRange, aNext, aCopy, srcB, viewG, appendG, appendI, aSlice, bnd, full3, aStore, setB, AV.leaves, AV.okv, AV.leaf, one, elemLeaves, Blk.size, Blk.len, Option.isSome, Option.isNone, aStr, aNil, aExtract, viewI, Nat.reduceEqDiff, Nat.reduceLT, Nat.reduceBEq, List.contains, List.elem, Blk.closed, Blk.noimm, ↓gsplit_tt, ↓gsplit_ff, ↓gsplit_tf, ↓gsplit_ft, ↓csplit_t, ↓csplit_f, givenUp, Blk.clean, notMs, -coe, coe_w, coe_str, coe_agg, coe_tup, coe_sb, coe_si, coe_cp, coe_ms, coe_rf, coe_fn, coe_cons, ty, SrputAll8, hle, d2, d3]
            refine ⟨_, Weak.refl _, ?_⟩
            simp -implicitDefEqProofs only [evT, evD0, evD1, evD2, implies_true, forall_const, Option.getD, later_normal, aop, aLen, ev, putSlot, cv, cvl, aConv, aBin, aInt, aUn, aFn, aEq, List.length, IntKind.bits, evo, coe, List.append, List.replicate, Nat.reduceAdd, Nat.reduceSub, Nat.reduceMul, Int.reduceToNat, reduceCtorEq, aIndexAddr, aIndex, TD.aggr, aPick, aMin, aMax, Ax.Ends, rone, ↓reduceIte, List.isEmpty, Int.reducePow, Nat.reducePow, Int.reduceMod, Nat.reduceLeDiff, Int.reduceLE, Int.reduceNe, Int.reduceEq, aAppend, appendB, viewB, List.drop, List.take, aRange, aNext, aCopy, srcB, viewG, appendG, appendI, aSlice, bnd, full3, aStore, setB, AV.leaves, AV.okv, AV.leaf, one, elemLeaves, Blk.size, Blk.len, Option.isSome, Option.isNone, aStr, aNil, aExtract, viewI, Nat.reduceEqDiff, Nat.reduceLT, Nat.reduceBEq, List.contains, List.elem, Blk.closed, Blk.noimm, ↓gsplit_tt, ↓gsplit_ff, ↓gsplit_tf, ↓gsplit_ft, ↓csplit_t, ↓csplit_f, givenUp, Blk.clean, notMs, -coe, coe_w, coe_str, coe_agg, coe_tup, coe_sb, coe_si, coe_cp, coe_ms, coe_rf, coe_fn, coe_cons, ty, SrputAll8, hle, d2, d3]
            exact ms8_ends 4 5 (by decide) rfl rfl rfl rfl rfl rfl
  · exact hp.elim
end
end Go.Proofs.Ytlbdhkgjhjcgiaa
