/- Layer 8: the laws of what is put, got, and of unlike metas. -/
import Derived.Test.YtlbdhkgjhjcgiaaEc
namespace Go.Proofs.Ytlbdhkgjhjcgiaa
open Ax
set_option linter.unusedSimpArgs false
set_option linter.unusedVariables false

theorem arg_mt {x : AV} (h : Arg ty 6 23 x) : ∃ m : Mt, x = mtA m ∧ 0 ≤ m.k ∧ m.k < 256 := by
  obtain ⟨i, ls, hi, hs, rfl⟩ := h
  simp only [ty] at hi
  injection hi with hi
  subst hi
  simp only [Shape, ty, ShapeF] at hs
  obtain ⟨l1, r1, rfl, ⟨m1, rfl, w1⟩, l2, r2, rfl, ⟨m2, rfl, w2⟩, l3, r3, rfl, ⟨m3, rfl, w3⟩, l4, r4, rfl, ⟨m4, rfl, w4⟩, l5, r5, rfl, ⟨m5, rfl, w5⟩, l6, r6, rfl, ⟨m6, rfl⟩, l7, r7, rfl, ⟨m7, rfl, w7⟩, l8, r8, rfl, ⟨m8, rfl, w8⟩, l9, r9, rfl, ⟨m9, rfl, w9⟩, rfl⟩ := hs
  exact ⟨⟨m1, m2, m3, m4, m5, m6, m7, m8, m9⟩, rfl, wf_u8 w1⟩
theorem all_mt : ∀ (xs : List AV), (∀ x ∈ xs, ∃ m : Mt, x = mtA m ∧ 0 ≤ m.k ∧ m.k < 256) → ∃ l : List Mt, xs = l.map mtA ∧ ∀ m ∈ l, 0 ≤ m.k ∧ m.k < 256
  | [], _ => ⟨[], rfl, by simp⟩
  | x :: xs, h => by
    obtain ⟨m, rfl, hm⟩ := h x (by simp)
    obtain ⟨l, rfl, hl⟩ := all_mt xs (fun y hy => h y (by simp [hy]))
    refine ⟨m :: l, rfl, ?_⟩
    intro q hq
    rcases List.mem_cons.1 hq with rfl | hq
    · exact hm
    · exact hl q hq
theorem arg_mts {x : AV} (h : Arg ty 6 25 x) : ∃ (l : List Mt) (f : Bool), x = .sg 9 (l.map mtA) f ∧ l.length ≤ 9223372036854775807 ∧ ∀ m ∈ l, 0 ≤ m.k ∧ m.k < 256 := by
  obtain ⟨i, ls, hi, hs, rfl⟩ := h
  simp only [ty] at hi
  injection hi with hi
  subst hi
  simp only [Shape, ty, ShapeF, isFlatI] at hs
  obtain ⟨xs, f, rfl, hl, hx⟩ := hs
  obtain ⟨l, rfl, hk⟩ := all_mt xs (fun x hxm => by
    obtain ⟨l, ⟨l1, r1, rfl, ⟨m1, rfl, w1⟩, l2, r2, rfl, ⟨m2, rfl, w2⟩, l3, r3, rfl, ⟨m3, rfl, w3⟩, l4, r4, rfl, ⟨m4, rfl, w4⟩, l5, r5, rfl, ⟨m5, rfl, w5⟩, l6, r6, rfl, ⟨m6, rfl⟩, l7, r7, rfl, ⟨m7, rfl, w7⟩, l8, r8, rfl, ⟨m8, rfl, w8⟩, l9, r9, rfl, ⟨m9, rfl, w9⟩, rfl⟩, _, rfl⟩ := hx x hxm
    exact ⟨⟨m1, m2, m3, m4, m5, m6, m7, m8, m9⟩, rfl, wf_u8 w1⟩)
  refine ⟨l, f, rfl, ?_, hk⟩
  rw [List.length_map] at hl
  have : maxLen = 9223372036854775807 := by decide
  omega
theorem arg_str8 {x : AV} (h : Arg ty 6 9 x) : ∃ bs : List UInt8, x = .str bs ∧ bs.length ≤ 9223372036854775807 := by
  obtain ⟨i, ls, hi, hs, rfl⟩ := h
  simp only [ty] at hi
  injection hi with hi
  subst hi
  simp only [Shape, ty, ShapeF] at hs
  obtain ⟨m, rfl, w⟩ := hs
  have : maxLen = 9223372036854775807 := by decide
  exact ⟨m, rfl, by omega⟩
theorem arg_bytes8 {x : AV} (h : Arg ty 6 27 x) : ∃ (bs : List UInt8) (f : Bool), x = .sb bs f ∧ bs.length ≤ 9223372036854775807 := by
  obtain ⟨i, ls, hi, hs, rfl⟩ := h
  simp only [ty] at hi
  injection hi with hi
  subst hi
  simp only [Shape, ty, ShapeF, isFlatI] at hs
  obtain ⟨m, f, rfl, w⟩ := hs
  have : maxLen = 9223372036854775807 := by decide
  exact ⟨m, f, rfl, by omega⟩
theorem arg_int8 {x : AV} (h : Arg ty 6 3 x) : ∃ n : Int, x = .w (.int .i64 n) ∧ -9223372036854775808 ≤ n ∧ n ≤ 9223372036854775807 := by
  obtain ⟨i, ls, hi, hs, rfl⟩ := h
  simp only [ty] at hi
  injection hi with hi
  subst hi
  simp only [Shape, ty, ShapeF] at hs
  obtain ⟨m, rfl, w⟩ := hs
  exact ⟨m, rfl, wf_i64 w⟩
/-! MetaApart -/
theorem lay_inj {m n : Mt} (h1 : chkM m = 0) (h2 : chkM n = 0) (k1 : 0 ≤ m.k) (k2 : 0 ≤ n.k) : layM m = layM n ↔ m = n := by
  constructor
  · intro h
    have a := (rd_lay m h1 k1 []).1
    have b := (rd_lay n h2 k2 []).1
    rw [List.append_nil] at a b
    rw [← a, ← b, h]
  · rintro rfl; rfl
theorem light2_cases (m n : Mt) : decide (lightL [m, n] 2) = true → m.nm.length ≤ 100 ∧ n.nm.length ≤ 100 := by
  intro h
  have h := of_decide_eq_true h
  exact ⟨h.2 m (by simp), h.2 n (by simp)⟩
theorem umt_mk (k t i : Int) (nm : List UInt8) (p : Int) (cp : Bool) (z b c : Int) : umt (.agg [.w (.int .u8 k), .w (.int .i64 t), .w (.int .i64 i), .str nm, .w (.int .i64 p), .w (.bool cp), .w (.int .i64 z), .w (.int .i64 b), .w (.int .i64 c)]) = ⟨k, t, i, nm, p, cp, z, b, c⟩ := rfl
theorem two_mt (m n : Mt) (k t i : Int) (nm : List UInt8) (p : Int) (cp : Bool) (z b c : Int) (k' t' i' : Int) (nm' : List UInt8) (p' : Int) (cp' : Bool) (z' b' c' : Int) :
    ∃ l : List Mt, [AV.agg [.w (.int .u8 k), .w (.int .i64 t), .w (.int .i64 i), .str nm, .w (.int .i64 p), .w (.bool cp), .w (.int .i64 z), .w (.int .i64 b), .w (.int .i64 c)], AV.agg [.w (.int .u8 k'), .w (.int .i64 t'), .w (.int .i64 i'), .str nm', .w (.int .i64 p'), .w (.bool cp'), .w (.int .i64 z'), .w (.int .i64 b'), .w (.int .i64 c')]] = l.map mtA :=
  ⟨[⟨k, t, i, nm, p, cp, z, b, c⟩, ⟨k', t', i', nm', p', cp', z', b', c'⟩], rfl⟩
def mapartS : FSpec
  | [.agg [.w (.int .u8 k), .w (.int .i64 t), .w (.int .i64 i), .str nm, .w (.int .i64 p), .w (.bool cp), .w (.int .i64 z), .w (.int .i64 b), .w (.int .i64 c)], .agg [.w (.int .u8 k'), .w (.int .i64 t'), .w (.int .i64 i'), .str nm', .w (.int .i64 p'), .w (.bool cp'), .w (.int .i64 z'), .w (.int .i64 b'), .w (.int .i64 c')]], [] =>
      ⟨0 ≤ k ∧ k < 256 ∧ 0 ≤ k' ∧ k' < 256, .w (.bool true), []⟩
  | _, _ => noRes
def Smapart (f : FuncId) : Option FSpec :=
  match f with
  | 9 => some yesS
  | 8 => some lightS
  | 12 => some checkS
  | 10 => some put8S
  | _ => none
theorem Smapart_ok : Fns Try.prog Smapart := by
  intro f s h
  unfold Smapart at h
  split at h
  · injection h with h; subst h; exact ⟨⟨_, Try.func9, by kernel_rfl, by kernel_rfl⟩, awake8_sound⟩
  · injection h with h; subst h; exact ⟨⟨_, Try.func8, by kernel_rfl, by kernel_rfl⟩, light_sound⟩
  · injection h with h; subst h; exact ⟨⟨_, Try.func12, by kernel_rfl, by kernel_rfl⟩, check_sound⟩
  · injection h with h; subst h; exact ⟨⟨_, Try.func10, by kernel_rfl, by kernel_rfl⟩, put8_sound⟩
  · cases h
def mapartPl : Plan := fun id => match id with
  | 5 => some []
  | _ => none
section
set_option maxRecDepth 100000
set_option maxHeartbeats 4000000 in
theorem mapart_law : Sound Try.prog 7 mapartS := by
  refine fn_soundF (S := Smapart) (T := ty) (pl := mapartPl) mixed ty_ok Smapart_ok Try.func7 (c := Try.f7.body.getD .skip) (by kernel_rfl) (by kernel_rfl) (fun xs pins hp _ => ?_)
  unfold mapartS at hp ⊢
  split at hp
  · rename_i k t i nm p cp z b c k' t' i' nm' p' cp' z' b' c' _
    obtain ⟨hk0, hk1, hk2, hk3⟩ := hp
    refine ⟨by simp, ?_⟩
    have h2 := two_mt zM zM k t i nm p cp z b c k' t' i' nm' p' cp' z' b' c'
    have u1 := umt_mk k t i nm p cp z b c
    have u2 := umt_mk k' t' i' nm' p' cp' z' b' c'
    have tk : ∀ l : List UInt8, List.take l.length l = l := fun l => List.take_length
    have hL := light2_cases ⟨k, t, i, nm, p, cp, z, b, c⟩ ⟨k', t', i', nm', p', cp', z', b', c'⟩
    have hC : ∀ {b' : AV}, True := trivial
    unfold Try.f7
    obtain ⟨m, hm⟩ : ∃ m : Mt, (⟨k, t, i, nm, p, cp, z, b, c⟩ : Mt) = m := ⟨_, rfl⟩
    obtain ⟨n, hn⟩ : ∃ n : Mt, (⟨k', t', i', nm', p', cp', z', b', c'⟩ : Mt) = n := ⟨_, rfl⟩
    rw [hm] at u1 hL
    rw [hn] at u2 hL
    cases hl : decide (lightL [m, n] 2) with
    | false =>
      simp -implicitDefEqProofs only [evT, evD0, evD1, evD2, implies_true, forall_const, Option.getD, later_normal, aop, aLen, ev, putSlot, cv, cvl, aConv, aBin, aInt, aUn, aFn, aEq, List.length, IntKind.bits, evo, coe, List.append, List.replicate, Nat.reduceAdd, Nat.reduceSub, Nat.reduceMul, Int.reduceToNat, reduceCtorEq, aIndexAddr, aIndex, TD.aggr, aPick, aMin, aMax, Ax.Ends, rone, ↓reduceIte, List.isEmpty, Int.reducePow, Nat.reducePow, Int.reduceMod, Nat.reduceLeDiff, Int.reduceLE, Int.reduceNe, Int.reduceEq, aAppend, appendB, viewB, List.drop, List.take, aRange, aNext, aCopy, srcB, viewG, appendG, appendI, aSlice, bnd, full3, aStore, setB, AV.leaves, AV.okv, AV.leaf, one, elemLeaves, Blk.size, Blk.len, Option.isSome, Option.isNone, aStr, aNil, aExtract, viewI, Nat.reduceEqDiff, Nat.reduceLT, Nat.reduceBEq, List.contains, List.elem, Blk.closed, Blk.noimm, ↓gsplit_tt, ↓gsplit_ff, ↓gsplit_tf, ↓gsplit_ft, ↓csplit_t, ↓csplit_f, givenUp, Blk.clean, notMs, evDP, evTP, laterF_normal, Blk.ids, Op.operands, Call.operands, List.map_cons, List.map_nil, List.toList_toArray, Array.toList_append, Option.toArray_some, Option.toArray_none, Bool.and_self, -coe, coe_w, coe_str, coe_agg, coe_tup, coe_sb, coe_si, coe_cp, coe_ms, coe_rf, coe_fn, coe_cons, ty, Smapart, mapartPl, lightS, yesS, h2, u1, u2, hl]
      exact ⟨by rintro y (rfl | rfl) <;> rfl, wE8_ends 4 rfl⟩
    | true =>
      obtain ⟨g1, g2⟩ := hL hl
      rw [← hm] at g1
      rw [← hn] at g2
      have g1 : nm.length ≤ 1000000 := by simp only at g1; omega
      have g2 : nm'.length ≤ 1000000 := by simp only at g2; omega
      by_cases c1 : chkM m = 0
      · by_cases c2 : chkM n = 0
        · have p1 : putB8 m = layM m := if_pos c1
          have p2 : putB8 n = layM n := if_pos c2
          have hi := lay_inj c1 c2 (by rw [← hm]; exact hk0) (by rw [← hn]; exact hk2)
          have hv : (decide (layM m = layM n) = true ∧ decide (eqM m n) = true) ∨ (decide (layM m = layM n) = false ∧ decide (eqM m n) = false) := by
            by_cases he : m = n
            · exact .inl ⟨decide_eq_true (hi.2 he), decide_eq_true ((eqM_iff m n).2 he)⟩
            · exact .inr ⟨decide_eq_false (fun h => he (hi.1 h)), decide_eq_false (fun h => he ((eqM_iff m n).1 h))⟩
          rcases hv with hv | hv
          all_goals
            simp -implicitDefEqProofs only [evT, evD0, evD1, evD2, implies_true, forall_const, Option.getD, later_normal, aop, aLen, ev, putSlot, cv, cvl, aConv, aBin, aInt, aUn, aFn, aEq, List.length, IntKind.bits, evo, coe, List.append, List.replicate, Nat.reduceAdd, Nat.reduceSub, Nat.reduceMul, Int.reduceToNat, reduceCtorEq, aIndexAddr, aIndex, TD.aggr, aPick, aMin, aMax, Ax.Ends, rone, ↓reduceIte, List.isEmpty, Int.reducePow, Nat.reducePow, Int.reduceMod, Nat.reduceLeDiff, Int.reduceLE, Int.reduceNe, Int.reduceEq, aAppend, appendB, viewB, List.drop, List.take, aRange, aNext, aCopy, srcB, viewG, appendG, appendI, aSlice, bnd, full3, aStore, setB, AV.leaves, AV.okv, AV.leaf, one, elemLeaves, Blk.size, Blk.len, Option.isSome, Option.isNone, aStr, aNil, aExtract, viewI, Nat.reduceEqDiff, Nat.reduceLT, Nat.reduceBEq, List.contains, List.elem, Blk.closed, Blk.noimm, ↓gsplit_tt, ↓gsplit_ff, ↓gsplit_tf, ↓gsplit_ft, ↓csplit_t, ↓csplit_f, givenUp, Blk.clean, notMs, evDP, evTP, laterF_normal, Blk.ids, Op.operands, Call.operands, List.map_cons, List.map_nil, List.toList_toArray, Array.toList_append, Option.toArray_some, Option.toArray_none, Bool.and_self, -coe, coe_w, coe_str, coe_agg, coe_tup, coe_sb, coe_si, coe_cp, coe_ms, coe_rf, coe_fn, coe_cons, ty, Smapart, mapartPl, lightS, yesS, checkS, put8S, eqM_dec, hm, hn, h2, u1, u2, hl, hk0, hk1, hk2, hk3, g1, g2, c1, c2, p1, p2, hv, tk]
            refine ⟨by rintro y (rfl | rfl) <;> rfl, ?_⟩
            repeat (refine And.intro (by omega) ?_)
            exact wE8_ends 4 rfl
        · have d2 := decide_eq_false c2
          simp -implicitDefEqProofs only [evT, evD0, evD1, evD2, implies_true, forall_const, Option.getD, later_normal, aop, aLen, ev, putSlot, cv, cvl, aConv, aBin, aInt, aUn, aFn, aEq, List.length, IntKind.bits, evo, coe, List.append, List.replicate, Nat.reduceAdd, Nat.reduceSub, Nat.reduceMul, Int.reduceToNat, reduceCtorEq, aIndexAddr, aIndex, TD.aggr, aPick, aMin, aMax, Ax.Ends, rone, ↓reduceIte, List.isEmpty, Int.reducePow, Nat.reducePow, Int.reduceMod, Nat.reduceLeDiff, Int.reduceLE, Int.reduceNe, Int.reduceEq, aAppend, appendB, viewB, List.drop, List.take, aRange, aNext, aCopy, srcB, viewG, appendG, appendI, aSlice, bnd, full3, aStore, setB, AV.leaves, AV.okv, AV.leaf, one, elemLeaves, Blk.size, Blk.len, Option.isSome, Option.isNone, aStr, aNil, aExtract, viewI, Nat.reduceEqDiff, Nat.reduceLT, Nat.reduceBEq, List.contains, List.elem, Blk.closed, Blk.noimm, ↓gsplit_tt, ↓gsplit_ff, ↓gsplit_tf, ↓gsplit_ft, ↓csplit_t, ↓csplit_f, givenUp, Blk.clean, notMs, evDP, evTP, laterF_normal, Blk.ids, Op.operands, Call.operands, List.map_cons, List.map_nil, List.toList_toArray, Array.toList_append, Option.toArray_some, Option.toArray_none, Bool.and_self, -coe, coe_w, coe_str, coe_agg, coe_tup, coe_sb, coe_si, coe_cp, coe_ms, coe_rf, coe_fn, coe_cons, ty, Smapart, mapartPl, lightS, yesS, checkS, put8S, eqM_dec, hm, hn, h2, u1, u2, hl, hk0, hk1, hk2, hk3, g1, g2, c1, d2]
          exact ⟨by rintro y (rfl | rfl) <;> rfl, wE8_ends 4 rfl⟩
      · have d1 := decide_eq_false c1
        simp -implicitDefEqProofs only [evT, evD0, evD1, evD2, implies_true, forall_const, Option.getD, later_normal, aop, aLen, ev, putSlot, cv, cvl, aConv, aBin, aInt, aUn, aFn, aEq, List.length, IntKind.bits, evo, coe, List.append, List.replicate, Nat.reduceAdd, Nat.reduceSub, Nat.reduceMul, Int.reduceToNat, reduceCtorEq, aIndexAddr, aIndex, TD.aggr, aPick, aMin, aMax, Ax.Ends, rone, ↓reduceIte, List.isEmpty, Int.reducePow, Nat.reducePow, Int.reduceMod, Nat.reduceLeDiff, Int.reduceLE, Int.reduceNe, Int.reduceEq, aAppend, appendB, viewB, List.drop, List.take, aRange, aNext, aCopy, srcB, viewG, appendG, appendI, aSlice, bnd, full3, aStore, setB, AV.leaves, AV.okv, AV.leaf, one, elemLeaves, Blk.size, Blk.len, Option.isSome, Option.isNone, aStr, aNil, aExtract, viewI, Nat.reduceEqDiff, Nat.reduceLT, Nat.reduceBEq, List.contains, List.elem, Blk.closed, Blk.noimm, ↓gsplit_tt, ↓gsplit_ff, ↓gsplit_tf, ↓gsplit_ft, ↓csplit_t, ↓csplit_f, givenUp, Blk.clean, notMs, evDP, evTP, laterF_normal, Blk.ids, Op.operands, Call.operands, List.map_cons, List.map_nil, List.toList_toArray, Array.toList_append, Option.toArray_some, Option.toArray_none, Bool.and_self, -coe, coe_w, coe_str, coe_agg, coe_tup, coe_sb, coe_si, coe_cp, coe_ms, coe_rf, coe_fn, coe_cons, ty, Smapart, mapartPl, lightS, yesS, checkS, put8S, eqM_dec, hm, hn, h2, u1, u2, hl, hk0, hk1, hk2, hk3, g1, g2, d1]
        exact ⟨by rintro y (rfl | rfl) <;> rfl, wE8_ends 4 rfl⟩
  · exact hp.elim
end
theorem mapart_dom {x y : AV} (hx : Arg ty 6 23 x) (hy : Arg ty 6 23 y) : (mapartS [x, y] []).p ∧ (mapartS [x, y] []).x = .w (.bool true) := by
  obtain ⟨m, rfl, h1, h2⟩ := arg_mt hx
  obtain ⟨n, rfl, h3, h4⟩ := arg_mt hy
  exact ⟨⟨h1, h2, h3, h4⟩, rfl⟩
/-! MetaPuts -/
def mputsS : FSpec
  | [.agg [.w (.int .u8 k), .w (.int .i64 t), .w (.int .i64 i), .str nm, .w (.int .i64 p), .w (.bool cp), .w (.int .i64 z), .w (.int .i64 b), .w (.int .i64 c)], .agg [.w (.int .u8 k'), .w (.int .i64 t'), .w (.int .i64 i'), .str nm', .w (.int .i64 p'), .w (.bool cp'), .w (.int .i64 z'), .w (.int .i64 b'), .w (.int .i64 c')], .str s], [] =>
      ⟨0 ≤ k ∧ k < 256 ∧ 0 ≤ k' ∧ k' < 256, .w (.bool true), []⟩
  | _, _ => noRes
def Smputs (f : FuncId) : Option FSpec :=
  match f with
  | 9 => some yesS
  | 8 => some lightS
  | 12 => some checkS
  | 10 => some put8S
  | 11 => some put8S
  | 13 => some sameS8
  | 14 => some nameS
  | 15 => some nameS
  | _ => none
theorem Smputs_ok : Fns Try.prog Smputs := by
  intro f s h
  unfold Smputs at h
  split at h
  · injection h with h; subst h; exact ⟨⟨_, Try.func9, by kernel_rfl, by kernel_rfl⟩, awake8_sound⟩
  · injection h with h; subst h; exact ⟨⟨_, Try.func8, by kernel_rfl, by kernel_rfl⟩, light_sound⟩
  · injection h with h; subst h; exact ⟨⟨_, Try.func12, by kernel_rfl, by kernel_rfl⟩, check_sound⟩
  · injection h with h; subst h; exact ⟨⟨_, Try.func10, by kernel_rfl, by kernel_rfl⟩, put8_sound⟩
  · injection h with h; subst h; exact ⟨⟨_, Try.func11, by kernel_rfl, by kernel_rfl⟩, rput8_sound⟩
  · injection h with h; subst h; exact ⟨⟨_, Try.func13, by kernel_rfl, by kernel_rfl⟩, same8_sound⟩
  · injection h with h; subst h; exact ⟨⟨_, Try.func14, by kernel_rfl, by kernel_rfl⟩, name_sound⟩
  · injection h with h; subst h; exact ⟨⟨_, Try.func15, by kernel_rfl, by kernel_rfl⟩, rname_sound⟩
  · cases h
def mputsPl : Plan := fun id => match id with
  | 5 => some [(19, 20), (19, 21), (19, 22)]
  | _ => none
section
set_option maxRecDepth 100000
set_option maxHeartbeats 4000000 in
theorem mputs_law : Sound Try.prog 3 mputsS := by
  refine fn_soundF (S := Smputs) (T := ty) (pl := mputsPl) mixed ty_ok Smputs_ok Try.func3 (c := Try.f3.body.getD .skip) (by kernel_rfl) (by kernel_rfl) (fun xs pins hp _ => ?_)
  unfold mputsS at hp ⊢
  split at hp
  · rename_i k t i nm p cp z b c k' t' i' nm' p' cp' z' b' c' s _
    obtain ⟨hk0, hk1, hk2, hk3⟩ := hp
    refine ⟨by simp, ?_⟩
    have h2 := two_mt zM zM k t i nm p cp z b c k' t' i' nm' p' cp' z' b' c'
    have u1 := umt_mk k t i nm p cp z b c
    have u2 := umt_mk k' t' i' nm' p' cp' z' b' c'
    have tk : ∀ l : List UInt8, List.take l.length l = l := fun l => List.take_length
    have hL := light2_cases ⟨k, t, i, nm, p, cp, z, b, c⟩ ⟨k', t', i', nm', p', cp', z', b', c'⟩
    unfold Try.f3
    obtain ⟨m, hm⟩ : ∃ m : Mt, (⟨k, t, i, nm, p, cp, z, b, c⟩ : Mt) = m := ⟨_, rfl⟩
    obtain ⟨n, hn⟩ : ∃ n : Mt, (⟨k', t', i', nm', p', cp', z', b', c'⟩ : Mt) = n := ⟨_, rfl⟩
    rw [hm] at u1 hL
    rw [hn] at u2 hL
    cases hl : decide (lightL [m, n] 2) with
    | false =>
      simp -implicitDefEqProofs only [evT, evD0, evD1, evD2, implies_true, forall_const, Option.getD, later_normal, aop, aLen, ev, putSlot, cv, cvl, aConv, aBin, aInt, aUn, aFn, aEq, List.length, IntKind.bits, evo, coe, List.append, List.replicate, Nat.reduceAdd, Nat.reduceSub, Nat.reduceMul, Int.reduceToNat, reduceCtorEq, aIndexAddr, aIndex, TD.aggr, aPick, aMin, aMax, Ax.Ends, rone, ↓reduceIte, List.isEmpty, Int.reducePow, Nat.reducePow, Int.reduceMod, Nat.reduceLeDiff, Int.reduceLE, Int.reduceNe, Int.reduceEq, aAppend, appendB, viewB, List.drop, List.take, aRange, aNext, aCopy, srcB, viewG, appendG, appendI, aSlice, bnd, full3, aStore, setB, AV.leaves, AV.okv, AV.leaf, one, elemLeaves, Blk.size, Blk.len, Option.isSome, Option.isNone, aStr, aNil, aExtract, viewI, Nat.reduceEqDiff, Nat.reduceLT, Nat.reduceBEq, List.contains, List.elem, Blk.closed, Blk.noimm, ↓gsplit_tt, ↓gsplit_ff, ↓gsplit_tf, ↓gsplit_ft, ↓csplit_t, ↓csplit_f, givenUp, Blk.clean, notMs, evDP, evTP, laterF_normal, Blk.ids, Op.operands, Call.operands, List.map_cons, List.map_nil, List.toList_toArray, Array.toList_append, Option.toArray_some, Option.toArray_none, Bool.and_self, -coe, coe_w, coe_str, coe_agg, coe_tup, coe_sb, coe_si, coe_cp, coe_ms, coe_rf, coe_fn, coe_cons, ty, Smputs, mputsPl, lightS, yesS, h2, u1, u2, hl]
      exact ⟨by rintro y (rfl | rfl) <;> rfl, wE8_ends 6 rfl⟩
    | true =>
      obtain ⟨g1, g2⟩ := hL hl
      rw [← hm] at g1
      rw [← hn] at g2
      have g1 : nm.length ≤ 1000000 := by simp only at g1; omega
      have g2 : nm'.length ≤ 1000000 := by simp only at g2; omega
      by_cases hs : (100 : Int) < s.length
      · have ds := decide_eq_true hs
        simp -implicitDefEqProofs only [evT, evD0, evD1, evD2, implies_true, forall_const, Option.getD, later_normal, aop, aLen, ev, putSlot, cv, cvl, aConv, aBin, aInt, aUn, aFn, aEq, List.length, IntKind.bits, evo, coe, List.append, List.replicate, Nat.reduceAdd, Nat.reduceSub, Nat.reduceMul, Int.reduceToNat, reduceCtorEq, aIndexAddr, aIndex, TD.aggr, aPick, aMin, aMax, Ax.Ends, rone, ↓reduceIte, List.isEmpty, Int.reducePow, Nat.reducePow, Int.reduceMod, Nat.reduceLeDiff, Int.reduceLE, Int.reduceNe, Int.reduceEq, aAppend, appendB, viewB, List.drop, List.take, aRange, aNext, aCopy, srcB, viewG, appendG, appendI, aSlice, bnd, full3, aStore, setB, AV.leaves, AV.okv, AV.leaf, one, elemLeaves, Blk.size, Blk.len, Option.isSome, Option.isNone, aStr, aNil, aExtract, viewI, Nat.reduceEqDiff, Nat.reduceLT, Nat.reduceBEq, List.contains, List.elem, Blk.closed, Blk.noimm, ↓gsplit_tt, ↓gsplit_ff, ↓gsplit_tf, ↓gsplit_ft, ↓csplit_t, ↓csplit_f, givenUp, Blk.clean, notMs, evDP, evTP, laterF_normal, Blk.ids, Op.operands, Call.operands, List.map_cons, List.map_nil, List.toList_toArray, Array.toList_append, Option.toArray_some, Option.toArray_none, Bool.and_self, -coe, coe_w, coe_str, coe_agg, coe_tup, coe_sb, coe_si, coe_cp, coe_ms, coe_rf, coe_fn, coe_cons, ty, Smputs, mputsPl, lightS, yesS, h2, u1, u2, hl, ds]
        exact ⟨by rintro y (rfl | rfl) <;> rfl, wE8_ends 6 rfl⟩
      · have ds := decide_eq_false hs
        have hsl : s.length ≤ 1000000 := by omega
        obtain ⟨P, hP⟩ : ∃ x, putB8 m = x := ⟨_, rfl⟩
        obtain ⟨C, hC⟩ : ∃ x, chkM m = x := ⟨_, rfl⟩
        have d1 : decide (P = P) = true := decide_eq_true rfl
        have d2 : decide (C = C) = true := decide_eq_true rfl
        obtain ⟨E, hE⟩ : ∃ x, decide (eqM m n) = x := ⟨_, rfl⟩
        obtain ⟨F, hF⟩ : ∃ x, decide (nmOk s) = x := ⟨_, rfl⟩
        have d3 : (E == E) = true := beq_self_eq_true E
        have d4 : (F == F) = true := beq_self_eq_true F
        simp -implicitDefEqProofs only [evT, evD0, evD1, evD2, implies_true, forall_const, Option.getD, later_normal, aop, aLen, ev, putSlot, cv, cvl, aConv, aBin, aInt, aUn, aFn, aEq, List.length, IntKind.bits, evo, coe, List.append, List.replicate, Nat.reduceAdd, Nat.reduceSub, Nat.reduceMul, Int.reduceToNat, reduceCtorEq, aIndexAddr, aIndex, TD.aggr, aPick, aMin, aMax, Ax.Ends, rone, ↓reduceIte, List.isEmpty, Int.reducePow, Nat.reducePow, Int.reduceMod, Nat.reduceLeDiff, Int.reduceLE, Int.reduceNe, Int.reduceEq, aAppend, appendB, viewB, List.drop, List.take, aRange, aNext, aCopy, srcB, viewG, appendG, appendI, aSlice, bnd, full3, aStore, setB, AV.leaves, AV.okv, AV.leaf, one, elemLeaves, Blk.size, Blk.len, Option.isSome, Option.isNone, aStr, aNil, aExtract, viewI, Nat.reduceEqDiff, Nat.reduceLT, Nat.reduceBEq, List.contains, List.elem, Blk.closed, Blk.noimm, ↓gsplit_tt, ↓gsplit_ff, ↓gsplit_tf, ↓gsplit_ft, ↓csplit_t, ↓csplit_f, givenUp, Blk.clean, notMs, evDP, evTP, laterF_normal, Blk.ids, Op.operands, Call.operands, List.map_cons, List.map_nil, List.toList_toArray, Array.toList_append, Option.toArray_some, Option.toArray_none, Bool.and_self, -coe, coe_w, coe_str, coe_agg, coe_tup, coe_sb, coe_si, coe_cp, coe_ms, coe_rf, coe_fn, coe_cons, ty, Smputs, mputsPl, lightS, yesS, checkS, put8S, nameS, sameS8, eqM_dec, hm, hn, h2, u1, u2, hl, ds, hsl, hk0, hk1, hk2, hk3, g1, g2, hP, hC, hE, hF, d1, d2, d3, d4, tk]
        refine ⟨by rintro y (rfl | rfl) <;> rfl, ?_⟩
        repeat (refine And.intro (by omega) ?_)
        exact wE8_ends 6 rfl
  · exact hp.elim
end
theorem mputs_dom {x y w : AV} (hx : Arg ty 6 23 x) (hy : Arg ty 6 23 y) (hw : Arg ty 6 9 w) : (mputsS [x, y, w] []).p ∧ (mputsS [x, y, w] []).x = .w (.bool true) := by
  obtain ⟨m, rfl, h1, h2⟩ := arg_mt hx
  obtain ⟨n, rfl, h3, h4⟩ := arg_mt hy
  obtain ⟨s, rfl, _⟩ := arg_str8 hw
  exact ⟨⟨h1, h2, h3, h4⟩, rfl⟩
/-! MetaAll -/
theorem lightL_fit {l : List Mt} (h : decide (lightL l 60) = true) (hk : ∀ m ∈ l, 0 ≤ m.k ∧ m.k < 256) : l.length ≤ 60 ∧ fitL l := by
  have h := of_decide_eq_true h
  refine ⟨by have := h.1; omega, fun m hm => ⟨(hk m hm).1, (hk m hm).2, by have := h.2 m hm; omega⟩⟩
def mallS : FSpec
  | [.w (.int .i64 gen), .sg 9 xs f], [] => ⟨(-9223372036854775808 ≤ gen ∧ gen ≤ 9223372036854775807) ∧ xs.length ≤ 9223372036854775807 ∧ ∃ l : List Mt, xs = l.map mtA ∧ ∀ m ∈ l, 0 ≤ m.k ∧ m.k < 256, .w (.bool true), []⟩
  | _, _ => noRes
def Small (f : FuncId) : Option FSpec :=
  match f with
  | 9 => some yesS
  | 8 => some lightS
  | 21 => some putAllS
  | 22 => some putAllS
  | _ => none
theorem Small_ok : Fns Try.prog Small := by
  intro f s h
  unfold Small at h
  split at h
  · injection h with h; subst h; exact ⟨⟨_, Try.func9, by kernel_rfl, by kernel_rfl⟩, awake8_sound⟩
  · injection h with h; subst h; exact ⟨⟨_, Try.func8, by kernel_rfl, by kernel_rfl⟩, light_sound⟩
  · injection h with h; subst h; exact ⟨⟨_, Try.func21, by kernel_rfl, by kernel_rfl⟩, putAll8_sound⟩
  · injection h with h; subst h; exact ⟨⟨_, Try.func22, by kernel_rfl, by kernel_rfl⟩, rputAll8_sound⟩
  · cases h
theorem coe_mt (l : List Mt) (f : Bool) : coe ty 25 (.sg 9 (l.map mtA) f) = .sg 9 (l.map mtA) f := by cases l <;> rfl
theorem ex_mt (l : List Mt) : ∃ k : List Mt, l.map mtA = k.map mtA := ⟨l, rfl⟩
section
set_option maxRecDepth 100000
set_option maxHeartbeats 4000000 in
theorem mall_law : Sound Try.prog 5 mallS := by
  refine fn_soundW (S := Small) (T := ty) mixed ty_ok Small_ok Try.func5 (c := Try.f5.body.getD .skip) (by kernel_rfl) (by kernel_rfl) (fun xs pins hp _ => ?_)
  unfold mallS at hp ⊢
  split at hp
  · rename_i gen xs f _
    obtain ⟨hg, hL, l, rfl, hk⟩ := hp
    have hL0 := hL
    rw [List.length_map] at hL
    have hle : (l.map mtA).length = l.length := by simp
    have hmu := map_umt l
    have hex := ex_mt l
    have hco := coe_mt l f
    have tk : ∀ l : List UInt8, List.take l.length l = l := fun l => List.take_length
    refine ⟨by simp, ?_⟩
    unfold Try.f5
    cases hl : decide (lightL l 60) with
    | false =>
      simp -implicitDefEqProofs only [evT, evD0, evD1, evD2, implies_true, forall_const, Option.getD, later_normal, aop, aLen, ev, putSlot, cv, cvl, aConv, aBin, aInt, aUn, aFn, aEq, List.length, IntKind.bits, evo, coe, List.append, List.replicate, Nat.reduceAdd, Nat.reduceSub, Nat.reduceMul, Int.reduceToNat, reduceCtorEq, aIndexAddr, aIndex, TD.aggr, aPick, aMin, aMax, Ax.Ends, rone, ↓reduceIte, List.isEmpty, Int.reducePow, Nat.reducePow, Int.reduceMod, Nat.reduceLeDiff, Int.reduceLE, Int.reduceNe, Int.reduceEq, aAppend, appendB, viewB, List.drop, List.take, aRange, aNext, aCopy, srcB, viewG, appendG, appendI, aSlice, bnd, full3, aStore, setB, AV.leaves, AV.okv, AV.leaf, one, elemLeaves, Blk.size, Blk.len, Option.isSome, Option.isNone, aStr, aNil, aExtract, viewI, Nat.reduceEqDiff, Nat.reduceLT, Nat.reduceBEq, List.contains, List.elem, Blk.closed, Blk.noimm, ↓gsplit_tt, ↓gsplit_ff, ↓gsplit_tf, ↓gsplit_ft, ↓csplit_t, ↓csplit_f, givenUp, Blk.clean, notMs, -coe, coe_w, coe_str, coe_agg, coe_tup, coe_sb, coe_si, coe_cp, coe_ms, coe_rf, coe_fn, coe_cons, ty, Small, lightS, yesS, hco, hL, hle, hex, hmu, hl]
      exact wE8_ends 4 rfl
    | true =>
      obtain ⟨h60, hfit⟩ := lightL_fit hl hk
      have hft := lst_fits l hfit
      have h6 : l.length ≤ 1000000 := by omega
      obtain ⟨P, hP⟩ : ∃ x, allO gen l = x := ⟨_, rfl⟩
      obtain ⟨C, hC⟩ : ∃ x, allE gen l = x := ⟨_, rfl⟩
      have d1 : decide (P = P) = true := decide_eq_true rfl
      have d2 : decide (C = C) = true := decide_eq_true rfl
      simp -implicitDefEqProofs only [evT, evD0, evD1, evD2, implies_true, forall_const, Option.getD, later_normal, aop, aLen, ev, putSlot, cv, cvl, aConv, aBin, aInt, aUn, aFn, aEq, List.length, IntKind.bits, evo, coe, List.append, List.replicate, Nat.reduceAdd, Nat.reduceSub, Nat.reduceMul, Int.reduceToNat, reduceCtorEq, aIndexAddr, aIndex, TD.aggr, aPick, aMin, aMax, Ax.Ends, rone, ↓reduceIte, List.isEmpty, Int.reducePow, Nat.reducePow, Int.reduceMod, Nat.reduceLeDiff, Int.reduceLE, Int.reduceNe, Int.reduceEq, aAppend, appendB, viewB, List.drop, List.take, aRange, aNext, aCopy, srcB, viewG, appendG, appendI, aSlice, bnd, full3, aStore, setB, AV.leaves, AV.okv, AV.leaf, one, elemLeaves, Blk.size, Blk.len, Option.isSome, Option.isNone, aStr, aNil, aExtract, viewI, Nat.reduceEqDiff, Nat.reduceLT, Nat.reduceBEq, List.contains, List.elem, Blk.closed, Blk.noimm, ↓gsplit_tt, ↓gsplit_ff, ↓gsplit_tf, ↓gsplit_ft, ↓csplit_t, ↓csplit_f, givenUp, Blk.clean, notMs, -coe, coe_w, coe_str, coe_agg, coe_tup, coe_sb, coe_si, coe_cp, coe_ms, coe_rf, coe_fn, coe_cons, ty, Small, lightS, putAllS, yesS, hco, hL, hle, hex, hmu, hl, hg, h6, hft, hP, hC, d1, d2, tk]
      repeat (refine And.intro (by omega) ?_)
      exact wE8_ends 4 rfl
  · exact hp.elim
end
theorem mall_dom {x y : AV} (hx : Arg ty 6 3 x) (hy : Arg ty 6 25 y) : (mallS [x, y] []).p ∧ (mallS [x, y] []).x = .w (.bool true) := by
  obtain ⟨n, rfl, h1⟩ := arg_int8 hx
  obtain ⟨l, f, rfl, h2, h3⟩ := arg_mts hy
  exact ⟨⟨h1, by rw [List.length_map]; exact h2, l, rfl, h3⟩, rfl⟩
/-! MetaGets -/
def mgetsS : FSpec
  | [.sb a f, .sb b g], [] => ⟨True, .w (.bool true), []⟩
  | _, _ => noRes
def Smgets (f : FuncId) : Option FSpec :=
  match f with
  | 9 => some yesS
  | 16 => some get8S
  | 17 => some get8S
  | 18 => some getAllS
  | 19 => some getAllS
  | 20 => some sameAllS
  | _ => none
theorem Smgets_ok : Fns Try.prog Smgets := by
  intro f s h
  unfold Smgets at h
  split at h
  · injection h with h; subst h; exact ⟨⟨_, Try.func9, by kernel_rfl, by kernel_rfl⟩, awake8_sound⟩
  · injection h with h; subst h; exact ⟨⟨_, Try.func16, by kernel_rfl, by kernel_rfl⟩, get8_sound⟩
  · injection h with h; subst h; exact ⟨⟨_, Try.func17, by kernel_rfl, by kernel_rfl⟩, rget8_sound⟩
  · injection h with h; subst h; exact ⟨⟨_, Try.func18, by kernel_rfl, by kernel_rfl⟩, getAll8_sound⟩
  · injection h with h; subst h; exact ⟨⟨_, Try.func19, by kernel_rfl, by kernel_rfl⟩, rgetAll8_sound⟩
  · injection h with h; subst h; exact ⟨⟨_, Try.func20, by kernel_rfl, by kernel_rfl⟩, sameAll_sound⟩
  · cases h
theorem sameL_self (l : List Mt) : sameL l l = true := (sameL_iff l l).2 rfl
section
set_option maxRecDepth 100000
set_option maxHeartbeats 4000000 in
theorem mgets_law : Sound Try.prog 4 mgetsS := by
  refine fn_soundW (S := Smgets) (T := ty) mixed ty_ok Smgets_ok Try.func4 (c := Try.f4.body.getD .skip) (by kernel_rfl) (by kernel_rfl) (fun xs pins hp _ => ?_)
  unfold mgetsS at hp ⊢
  split at hp
  · rename_i a f b g _
    refine ⟨by simp, ?_⟩
    unfold Try.f4
    by_cases ha : (600 : Int) < a.length
    · have d1 := decide_eq_true ha
      simp -implicitDefEqProofs only [evT, evD0, evD1, evD2, implies_true, forall_const, Option.getD, later_normal, aop, aLen, ev, putSlot, cv, cvl, aConv, aBin, aInt, aUn, aFn, aEq, List.length, IntKind.bits, evo, coe, List.append, List.replicate, Nat.reduceAdd, Nat.reduceSub, Nat.reduceMul, Int.reduceToNat, reduceCtorEq, aIndexAddr, aIndex, TD.aggr, aPick, aMin, aMax, Ax.Ends, rone, ↓reduceIte, List.isEmpty, Int.reducePow, Nat.reducePow, Int.reduceMod, Nat.reduceLeDiff, Int.reduceLE, Int.reduceNe, Int.reduceEq, aAppend, appendB, viewB, List.drop, List.take, aRange, aNext, aCopy, srcB, viewG, appendG, appendI, aSlice, bnd, full3, aStore, setB, AV.leaves, AV.okv, AV.leaf, one, elemLeaves, Blk.size, Blk.len, Option.isSome, Option.isNone, aStr, aNil, aExtract, viewI, Nat.reduceEqDiff, Nat.reduceLT, Nat.reduceBEq, List.contains, List.elem, Blk.closed, Blk.noimm, ↓gsplit_tt, ↓gsplit_ff, ↓gsplit_tf, ↓gsplit_ft, ↓csplit_t, ↓csplit_f, givenUp, Blk.clean, notMs, -coe, coe_w, coe_str, coe_agg, coe_tup, coe_sb, coe_si, coe_cp, coe_ms, coe_rf, coe_fn, coe_cons, ty, Smgets, yesS, d1]
      exact wE8_ends 4 rfl
    · have d1 := decide_eq_false ha
      by_cases hb : (600 : Int) < b.length
      · have d2 := decide_eq_true hb
        simp -implicitDefEqProofs only [evT, evD0, evD1, evD2, implies_true, forall_const, Option.getD, later_normal, aop, aLen, ev, putSlot, cv, cvl, aConv, aBin, aInt, aUn, aFn, aEq, List.length, IntKind.bits, evo, coe, List.append, List.replicate, Nat.reduceAdd, Nat.reduceSub, Nat.reduceMul, Int.reduceToNat, reduceCtorEq, aIndexAddr, aIndex, TD.aggr, aPick, aMin, aMax, Ax.Ends, rone, ↓reduceIte, List.isEmpty, Int.reducePow, Nat.reducePow, Int.reduceMod, Nat.reduceLeDiff, Int.reduceLE, Int.reduceNe, Int.reduceEq, aAppend, appendB, viewB, List.drop, List.take, aRange, aNext, aCopy, srcB, viewG, appendG, appendI, aSlice, bnd, full3, aStore, setB, AV.leaves, AV.okv, AV.leaf, one, elemLeaves, Blk.size, Blk.len, Option.isSome, Option.isNone, aStr, aNil, aExtract, viewI, Nat.reduceEqDiff, Nat.reduceLT, Nat.reduceBEq, List.contains, List.elem, Blk.closed, Blk.noimm, ↓gsplit_tt, ↓gsplit_ff, ↓gsplit_tf, ↓gsplit_ft, ↓csplit_t, ↓csplit_f, givenUp, Blk.clean, notMs, -coe, coe_w, coe_str, coe_agg, coe_tup, coe_sb, coe_si, coe_cp, coe_ms, coe_rf, coe_fn, coe_cons, ty, Smgets, yesS, d1, d2]
        exact wE8_ends 4 rfl
      · have d2 := decide_eq_false hb
        have hal : a.length ≤ 1000000 := by omega
        have hbl : b.length ≤ 1000000 := by omega
        have hA : getA a = mtA (getMt a) := rfl
        obtain ⟨M, hM⟩ : ∃ x, getMt a = x := ⟨_, rfl⟩
        rw [hM] at hA
        obtain ⟨k, t, i, nm, p, cp, z, bb, c⟩ := M
        have hA : getA a = .agg [.w (.int .u8 k), .w (.int .i64 t), .w (.int .i64 i), .str nm, .w (.int .i64 p), .w (.bool cp), .w (.int .i64 z), .w (.int .i64 bb), .w (.int .i64 c)] := hA
        obtain ⟨E, hE⟩ : ∃ x, (if getOk a then (0 : Int) else 4) = x := ⟨_, rfl⟩
        have e1 : decide (eqM ⟨k, t, i, nm, p, cp, z, bb, c⟩ ⟨k, t, i, nm, p, cp, z, bb, c⟩) = true := decide_eq_true ((eqM_iff _ _).2 rfl)
        have e2 : decide (E = E) = true := decide_eq_true rfl
        have e5 : sameL [] [] = true := rfl
        have hun : ([] : List AV).map umt = [] := rfl
        have hex0 : ∃ k : List Mt, ([] : List AV) = k.map mtA := ⟨[], rfl⟩
        by_cases hg : okG b
        · obtain ⟨G, hG⟩ : ∃ x, gGen b = x := ⟨_, rfl⟩
          have e3 : decide (G = G) = true := decide_eq_true rfl
          have hv : gaA b = .tup [.w (.int .i64 G), lstA (gLst b (gCnt b).toNat), .w (.int .i64 0)] := by unfold gaA; rw [if_pos hg, hG]
          have hgn := hg.2.1
          have hln := gLst_len b (gCnt b).toNat
          generalize gLst b (gCnt b).toNat = l at hv hln
          cases l with
          | nil =>
            rw [lstA_nil] at hv
            simp -implicitDefEqProofs only [evT, evD0, evD1, evD2, implies_true, forall_const, Option.getD, later_normal, aop, aLen, ev, putSlot, cv, cvl, aConv, aBin, aInt, aUn, aFn, aEq, List.length, IntKind.bits, evo, coe, List.append, List.replicate, Nat.reduceAdd, Nat.reduceSub, Nat.reduceMul, Int.reduceToNat, reduceCtorEq, aIndexAddr, aIndex, TD.aggr, aPick, aMin, aMax, Ax.Ends, rone, ↓reduceIte, List.isEmpty, Int.reducePow, Nat.reducePow, Int.reduceMod, Nat.reduceLeDiff, Int.reduceLE, Int.reduceNe, Int.reduceEq, aAppend, appendB, viewB, List.drop, List.take, aRange, aNext, aCopy, srcB, viewG, appendG, appendI, aSlice, bnd, full3, aStore, setB, AV.leaves, AV.okv, AV.leaf, one, elemLeaves, Blk.size, Blk.len, Option.isSome, Option.isNone, aStr, aNil, aExtract, viewI, Nat.reduceEqDiff, Nat.reduceLT, Nat.reduceBEq, List.contains, List.elem, Blk.closed, Blk.noimm, ↓gsplit_tt, ↓gsplit_ff, ↓gsplit_tf, ↓gsplit_ft, ↓csplit_t, ↓csplit_f, givenUp, Blk.clean, notMs, ty, Smgets, yesS, get8S, getAllS, sameAllS, d1, d2, hal, hbl, hA, hE, hv, eqM_dec, e1, e2, e3, e5, hun, hex0, fillS, coes, coe]
            repeat (refine And.intro (by first | omega | decide) ?_)
            exact wE8_ends 4 rfl
          | cons m r =>
            rw [lstA_ne (by simp)] at hv
            have hmu := map_umt (m :: r)
            have hex := ex_mt (m :: r)
            have hss := sameL_self (m :: r)
            have hco := coe_mt (m :: r) false
            have hll : ((m :: r).map mtA).length ≤ 9223372036854775807 := by rw [List.length_map]; omega
            generalize (m :: r).map mtA = X at hv hmu hex hll hco
            generalize m :: r = l at hmu hss hex
            simp -implicitDefEqProofs only [evT, evD0, evD1, evD2, implies_true, forall_const, Option.getD, later_normal, aop, aLen, ev, putSlot, cv, cvl, aConv, aBin, aInt, aUn, aFn, aEq, List.length, IntKind.bits, evo, coe, List.append, List.replicate, Nat.reduceAdd, Nat.reduceSub, Nat.reduceMul, Int.reduceToNat, reduceCtorEq, aIndexAddr, aIndex, TD.aggr, aPick, aMin, aMax, Ax.Ends, rone, ↓reduceIte, List.isEmpty, Int.reducePow, Nat.reducePow, Int.reduceMod, Nat.reduceLeDiff, Int.reduceLE, Int.reduceNe, Int.reduceEq, aAppend, appendB, viewB, List.drop, List.take, aRange, aNext, aCopy, srcB, viewG, appendG, appendI, aSlice, bnd, full3, aStore, setB, AV.leaves, AV.okv, AV.leaf, one, elemLeaves, Blk.size, Blk.len, Option.isSome, Option.isNone, aStr, aNil, aExtract, viewI, Nat.reduceEqDiff, Nat.reduceLT, Nat.reduceBEq, List.contains, List.elem, Blk.closed, Blk.noimm, ↓gsplit_tt, ↓gsplit_ff, ↓gsplit_tf, ↓gsplit_ft, ↓csplit_t, ↓csplit_f, givenUp, Blk.clean, notMs, -coe, coe_w, coe_str, coe_agg, coe_tup, coe_sb, coe_si, coe_cp, coe_ms, coe_rf, coe_fn, coe_cons, ty, Smgets, yesS, get8S, getAllS, sameAllS, d1, d2, hal, hbl, hA, hE, hv, eqM_dec, e1, e2, e3, hmu, hex, hss, hll, hco, fillS]
            repeat (refine And.intro (by first | omega | decide) ?_)
            exact wE8_ends 4 rfl
        · have hv : gaA b = .tup [.w (.int .i64 0), .sg 1 [] true, .w (.int .i64 4)] := if_neg hg
          simp -implicitDefEqProofs only [evT, evD0, evD1, evD2, implies_true, forall_const, Option.getD, later_normal, aop, aLen, ev, putSlot, cv, cvl, aConv, aBin, aInt, aUn, aFn, aEq, List.length, IntKind.bits, evo, coe, List.append, List.replicate, Nat.reduceAdd, Nat.reduceSub, Nat.reduceMul, Int.reduceToNat, reduceCtorEq, aIndexAddr, aIndex, TD.aggr, aPick, aMin, aMax, Ax.Ends, rone, ↓reduceIte, List.isEmpty, Int.reducePow, Nat.reducePow, Int.reduceMod, Nat.reduceLeDiff, Int.reduceLE, Int.reduceNe, Int.reduceEq, aAppend, appendB, viewB, List.drop, List.take, aRange, aNext, aCopy, srcB, viewG, appendG, appendI, aSlice, bnd, full3, aStore, setB, AV.leaves, AV.okv, AV.leaf, one, elemLeaves, Blk.size, Blk.len, Option.isSome, Option.isNone, aStr, aNil, aExtract, viewI, Nat.reduceEqDiff, Nat.reduceLT, Nat.reduceBEq, List.contains, List.elem, Blk.closed, Blk.noimm, ↓gsplit_tt, ↓gsplit_ff, ↓gsplit_tf, ↓gsplit_ft, ↓csplit_t, ↓csplit_f, givenUp, Blk.clean, notMs, ty, Smgets, yesS, get8S, getAllS, sameAllS, d1, d2, hal, hbl, hA, hE, hv, eqM_dec, e1, e2, e5, hun, hex0, fillS]
          repeat (refine And.intro (by first | omega | decide) ?_)
          exact wE8_ends 4 rfl
  · exact hp.elim
end
theorem mgets_dom {x y : AV} (hx : Arg ty 6 27 x) (hy : Arg ty 6 27 y) : (mgetsS [x, y] []).p ∧ (mgetsS [x, y] []).x = .w (.bool true) := by
  obtain ⟨a, f, rfl, _⟩ := arg_bytes8 hx
  obtain ⟨b, g, rfl, _⟩ := arg_bytes8 hy
  exact ⟨trivial, rfl⟩
end Go.Proofs.Ytlbdhkgjhjcgiaa
