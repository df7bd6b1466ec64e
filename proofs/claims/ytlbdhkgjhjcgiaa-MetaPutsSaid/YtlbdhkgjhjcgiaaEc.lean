/- Layer 8: what every right program lays of one meta; the arguments. -/
import Derived.Test.YtlbdhkgjhjcgiaaEb
import Derived.Test.YtlbdhkgjhjcgiaaAz
namespace Go.Proofs.Ytlbdhkgjhjcgiaa
open Ax
set_option linter.unusedSimpArgs false
set_option linter.unusedVariables false

def M0 : Mt := ⟨2, 1, 0, [], 0, false, 5, 64, 0⟩
def M0b : List UInt8 := [2, 2, 0, 10, 128, 1]
theorem M0_chk : chkM M0 = 0 := by decide +kernel
theorem M0_lay : layM M0 = M0b := by
  simp [layM, M0, numsM, pz, zz, putU, M0b]
theorem M0_put : putB8 M0 = M0b := by unfold putB8; rw [if_pos M0_chk, M0_lay]
theorem M0_get : getOk M0b ∧ getMt M0b = M0 := by
  have := getMt_lay M0 M0_chk (by decide)
  rw [M0_lay] at this; exact this
theorem M0_allE : allE 3 [M0] = 0 := by
  have hall : ∀ m ∈ [M0], chkM m = 0 := by
    intro m hm; have : m = M0 := by simpa using hm
    rw [this]; exact M0_chk
  have h1 := cat8_len [M0] hall
  have h2 := pz_len 3 (by decide) (by decide)
  have h3 := pz_len (([M0] : List Mt).length : Int) (by decide) (by decide)
  have h4 : ([M0] : List Mt).length = 1 := rfl
  have h : (allB 3 [M0]).length ≤ 8192 := by unfold allB; simp only [List.length_append]; omega
  unfold allE
  rw [if_neg (by decide), if_pos (fbad_none _ hall), if_neg (by omega)]
def W0 : List UInt8 := allB 3 [M0]
theorem W0_all : allO 3 [M0] = W0 := by unfold allO; rw [if_pos M0_allE]; rfl
theorem W0_len : W0.length ≤ 1000000 := by have := (allE_ok M0_allE).2.2; unfold W0; omega
theorem W0_get : gaA W0 = .tup [.w (.int .i64 3), .sg 9 [mtA M0] false, .w (.int .i64 0)] := by
  obtain ⟨h1, h2, h3, h4, _⟩ := okG_lay 3 [M0] M0_allE (by decide) (by intro m hm; have : m = M0 := by simpa using hm
                                                                       rw [this]; decide)
  unfold gaA W0
  rw [if_pos h4, h1, h2]
  have h3 : gLst (allB 3 [M0]) (((1 : Nat) : Int)).toNat = [M0] := h3
  rw [show (([M0] : List Mt).length : Int) = ((1 : Nat) : Int) from rfl, h3]
  rfl
def Saw8 (f : FuncId) : Option FSpec :=
  match f with
  | 10 => some put8S
  | 16 => some get8S
  | 21 => some putAllS
  | 18 => some getAllS
  | 13 => some sameS8
  | 14 => some nameS
  | _ => none
theorem Saw8_ok : Fns Try.prog Saw8 := by
  intro f s h
  unfold Saw8 at h
  split at h
  · injection h with h; subst h; exact ⟨⟨_, Try.func10, by kernel_rfl, by kernel_rfl⟩, put8_sound⟩
  · injection h with h; subst h; exact ⟨⟨_, Try.func16, by kernel_rfl, by kernel_rfl⟩, get8_sound⟩
  · injection h with h; subst h; exact ⟨⟨_, Try.func21, by kernel_rfl, by kernel_rfl⟩, putAll8_sound⟩
  · injection h with h; subst h; exact ⟨⟨_, Try.func18, by kernel_rfl, by kernel_rfl⟩, getAll8_sound⟩
  · injection h with h; subst h; exact ⟨⟨_, Try.func13, by kernel_rfl, by kernel_rfl⟩, same8_sound⟩
  · injection h with h; subst h; exact ⟨⟨_, Try.func14, by kernel_rfl, by kernel_rfl⟩, name_sound⟩
  · cases h
def aw8Pl : Plan := fun id => match id with
  | 6 => some []
  | _ => none
theorem aw8a : decide (nmOk [97, 46, 98]) = true := by decide +kernel
theorem aw8b : decide (nmOk [97, 32, 98]) = false := by decide +kernel
theorem aw8c : decide (eqM M0 M0) = true := by decide +kernel
theorem aw8d : decide (eqM M0 zM) = false := by decide +kernel
theorem aw8p : putB8 ⟨2, 1, 0, [], 0, false, 5, 64, 0⟩ = [2, 2, 0, 10, 128, 1] := M0_put
theorem aw8e : chkM ⟨2, 1, 0, [], 0, false, 5, 64, 0⟩ = 0 := M0_chk
theorem aw8g : getA [2, 2, 0, 10, 128, 1] = .agg [.w (.int .u8 2), .w (.int .i64 1), .w (.int .i64 0), .str [], .w (.int .i64 0), .w (.bool false), .w (.int .i64 5), .w (.int .i64 64), .w (.int .i64 0)] := by
  unfold getA
  rw [show ([2, 2, 0, 10, 128, 1] : List UInt8) = M0b from rfl, M0_get.2]; rfl
theorem aw8h : (if getOk [2, 2, 0, 10, 128, 1] then (0 : Int) else 4) = 0 := if_pos M0_get.1
theorem aw8i : List.map umt [AV.agg [.w (.int .u8 2), .w (.int .i64 1), .w (.int .i64 0), .str [], .w (.int .i64 0), .w (.bool false), .w (.int .i64 5), .w (.int .i64 64), .w (.int .i64 0)]] = [M0] := rfl
theorem aw8r : umt (AV.agg [.w (.int .u8 2), .w (.int .i64 1), .w (.int .i64 0), .str [], .w (.int .i64 0), .w (.bool false), .w (.int .i64 5), .w (.int .i64 64), .w (.int .i64 0)]) = M0 := rfl
theorem aw8j : ∃ l : List Mt, [AV.agg [.w (.int .u8 2), .w (.int .i64 1), .w (.int .i64 0), .str [], .w (.int .i64 0), .w (.bool false), .w (.int .i64 5), .w (.int .i64 64), .w (.int .i64 0)]] = l.map mtA ∧ fitL l :=
  ⟨[M0], rfl, by intro m hm; have : m = M0 := by simpa using hm
                 rw [this]; exact ⟨by decide, by decide, by decide⟩⟩
theorem aw8k : allE 3 [M0] = 0 := M0_allE
theorem aw8m : decide (eqM ⟨2, 1, 0, [], 0, false, 5, 64, 0⟩ ⟨2, 1, 0, [], 0, false, 5, 64, 0⟩) = true := aw8c
theorem aw8n : decide (eqM ⟨2, 1, 0, [], 0, false, 5, 64, 0⟩ ⟨0, 0, 0, [], 0, false, 0, 0, 0⟩) = false := aw8d
theorem aw8q : gaA W0 = .tup [.w (.int .i64 3), .sg 9 [.agg [.w (.int .u8 2), .w (.int .i64 1), .w (.int .i64 0), .str [], .w (.int .i64 0), .w (.bool false), .w (.int .i64 5), .w (.int .i64 64), .w (.int .i64 0)]] false, .w (.int .i64 0)] := W0_get
section
set_option maxRecDepth 100000
set_option maxHeartbeats 4000000 in
theorem awake8_sound : Sound Try.prog 9 yesS := by
  refine fn_soundF (S := Saw8) (T := ty) (pl := aw8Pl) mixed ty_ok Saw8_ok Try.func9 (c := Try.f9.body.getD .skip) (by kernel_rfl) (by kernel_rfl) (fun xs pins hp _ => ?_)
  unfold yesS at hp ⊢
  split at hp
  · refine ⟨by simp, ?_⟩
    have tk : ∀ l : List UInt8, List.take l.length l = l := fun l => List.take_length
    have l6 : ([2, 2, 0, 10, 128, 1] : List UInt8).length ≤ 1000000 := by decide
    have t6 : List.take 6 ([2, 2, 0, 10, 128, 1] : List UInt8) = [2, 2, 0, 10, 128, 1] := rfl
    have lW := W0_len
    have z1 : decide (((1 : Nat) : Int) = 1) = true := by decide
    unfold Try.f9
    simp -implicitDefEqProofs only [evT, evD0, evD1, evD2, implies_true, forall_const, Option.getD, later_normal, aop, aLen, ev, putSlot, cv, cvl, aConv, aBin, aInt, aUn, aFn, aEq, List.length, IntKind.bits, evo, coe, List.append, List.replicate, Nat.reduceAdd, Nat.reduceSub, Nat.reduceMul, Int.reduceToNat, reduceCtorEq, aIndexAddr, aIndex, TD.aggr, aPick, aMin, aMax, Ax.Ends, rone, ↓reduceIte, List.isEmpty, Int.reducePow, Nat.reducePow, Int.reduceMod, Nat.reduceLeDiff, Int.reduceLE, Int.reduceNe, Int.reduceEq, aAppend, appendB, viewB, List.drop, List.take, aRange, aNext, aCopy, srcB, viewG, appendG, appendI, aSlice, bnd, full3, aStore, setB, AV.leaves, AV.okv, AV.leaf, one, elemLeaves, Blk.size, Blk.len, Option.isSome, Option.isNone, aStr, aNil, aExtract, viewI, Nat.reduceEqDiff, Nat.reduceLT, Nat.reduceBEq, List.contains, List.elem, Blk.closed, Blk.noimm, ↓gsplit_tt, ↓gsplit_ff, ↓gsplit_tf, ↓gsplit_ft, ↓csplit_t, ↓csplit_f, givenUp, Blk.clean, notMs, evDP, evTP, laterF_normal, Blk.ids, Op.operands, Call.operands, List.map_cons, List.map_nil, List.toList_toArray, Array.toList_append, Option.toArray_some, Option.toArray_none, Bool.and_self, -coe, coe_w, coe_str, coe_agg, coe_tup, coe_sb, coe_si, coe_cp, coe_ms, coe_rf, coe_fn, coe_cons, ty, Saw8, aw8Pl, put8S, get8S, putAllS, getAllS, sameS8, nameS, fillS, tk, l6, t6, lW, aw8a, aw8b, aw8e, aw8g, aw8h, aw8i, aw8r, aw8j, aw8k, aw8m, aw8n, aw8p, aw8q, W0_all, eqM_dec, z1, Int.reduceLE, Int.reduceLT, Nat.zero_le]
    refine ⟨by rintro y rfl; rfl, ?_⟩
    exact wE8_ends 0 rfl
  · exact hp.elim
end
end Go.Proofs.Ytlbdhkgjhjcgiaa
