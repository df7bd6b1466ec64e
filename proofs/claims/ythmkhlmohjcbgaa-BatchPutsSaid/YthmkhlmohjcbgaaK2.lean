/- Layer 5: a block is opened. -/
import Derived.Test.YthmkhlmohjcbgaaK1
namespace Go.Proofs.Ythmkhlmohjcbgaa
open Ax
set_option linter.unusedSimpArgs false
set_option linter.unusedVariables false

def bodyL (b : List UInt8) : List UInt8 := (b.drop 2).take (b.getD 1 0).toNat
def openOk (b : List UInt8) : Prop := (b.getD 1 0).toNat ≤ 61 ∧ sealB (b.getD 0 0).toNat (bodyL b) = b
instance (b : List UInt8) : Decidable (openOk b) := by unfold openOk; infer_instance
def openE (b : List UInt8) : Int := if b.length = 64 ∧ (b.getD 63 0).toNat = 90 then (if openOk b then 0 else 4) else 3
def openK (b : List UInt8) : Int := if openE b = 0 then (b.getD 0 0).toNat else 0
def openB (b : List UInt8) : List UInt8 := if openE b = 0 then bodyL b else []
def bopenS : FSpec
  | [.sb b _], [] => ⟨b.length ≤ 1000000, .tup [.w (.int .u8 (openK b)), .sb (openB b) false, .w (.int .i64 (openE b))], []⟩
  | _, _ => noRes
def bopenM : FSpec
  | [.sb b _], [] => ⟨b.length ≤ 1000000, .tup [.w (.int .u8 (openK b)), .ms 0 1 0 (openB b).length, .w (.int .i64 (openE b))], [.b (openB b)]⟩
  | _, _ => noRes
def beqS : FSpec
  | [.sb a _, .sb b _], [] => ⟨True, .w (.bool (decide (a = b))), []⟩
  | _, _ => noRes

theorem bodyL_length (b : List UInt8) (h : b.length = 64) (h1 : (b.getD 1 0).toNat ≤ 61) : (bodyL b).length = (b.getD 1 0).toNat := by
  unfold bodyL; rw [List.length_take, List.length_drop]; omega
/-- What is read of a block that was laid. -/
theorem body_blk (k : UInt8) (x : List UInt8) (h : x.length ≤ 61) : bodyL (blkL k x) = x := by
  have e : ((blkL k x).getD 1 0).toNat = x.length := by
    show (UInt8.ofNat x.length).toNat = _
    rw [UInt8.toNat_ofNat']; omega
  unfold bodyL
  rw [e]
  simp [blkL]
theorem openE_cases (b : List UInt8) :
    (¬ (b.length = 64 ∧ (b.getD 63 0).toNat = 90) ∧ openE b = 3) ∨ (b.length = 64 ∧ (b.getD 63 0).toNat = 90 ∧ ¬ openOk b ∧ openE b = 4) ∨ (b.length = 64 ∧ (b.getD 63 0).toNat = 90 ∧ openOk b ∧ openE b = 0) := by
  unfold openE
  by_cases h : b.length = 64 ∧ (b.getD 63 0).toNat = 90
  · by_cases ho : openOk b
    · exact .inr (.inr ⟨h.1, h.2, ho, by rw [if_pos h, if_pos ho]⟩)
    · exact .inr (.inl ⟨h.1, h.2, ho, by rw [if_pos h, if_neg ho]⟩)
  · exact .inl ⟨h, by rw [if_neg h]⟩

/-- Bytes that were made are told as data, between a number and an error. -/
theorem fz_ends3 {T : Types} {sl : List AV} {H : Heap} {nx id n : Nat} {bs rs : List UInt8} {e e' d d' : Value} {q : Prop} (h1 : slot sl 2 = .w d) (h2 : slot sl 3 = .ms id 1 0 n) (h3 : slot sl 4 = .w e) (hl : Ax.look H id = some (.b bs)) (hn : n = bs.length) (hr : rs = bs) (he : e' = e) (hd : d' = d) :
    EndsW T [.tmp 2, .tmp 3, .tmp 4] [] ⟨q, .tup [.w d', .sb rs false, .w e'], []⟩ .ret ⟨sl, H, nx⟩ := by
  subst hn hr he hd
  have hs : slot (fzL id rs sl) 3 = .sb rs false := by
    rw [Ax.slot_fzL, h2]
    simp [AV.fz]
  refine ⟨_, weak_fz id 3 rs hl (by rw [h2]; simp [AV.ids]), ?_⟩
  have e3 : slot (fzL id rs sl) 4 = .w e' := by rw [Ax.slot_fzL, h3]; rfl
  have e1 : slot (fzL id rs sl) 2 = .w d' := by rw [Ax.slot_fzL, h1]; rfl
  simp only [Ax.Ends, Ax.rvals, EndsX, rone, hs, e3, e1, AV.ids, idsL, newIds, upTo, nodup, pinsOf, List.nil_append, AV.ren, renL, and_self]
theorem nil_ends3 {T : Types} {sl : List AV} {H : Heap} {nx s : Nat} {f : Bool} {e e' d d' : Value} {q : Prop} {rs : List UInt8} (h1 : slot sl 2 = .w d) (h2 : slot sl 3 = .sg s [] f) (h3 : slot sl 4 = .w e) (hr : rs = []) (he : e' = e) (hd : d' = d) :
    EndsW T [.tmp 2, .tmp 3, .tmp 4] [] ⟨q, .tup [.w d', .sb rs false, .w e'], []⟩ .ret ⟨sl, H, nx⟩ := by
  subst hr he hd
  have hi : 3 < sl.length := by
    rcases Nat.lt_or_ge 3 sl.length with h | h
    · exact h
    · rw [slot_ge h] at h2; cases h2
  refine ⟨_, weak_slot 3 (.sb [] false) (fun _ _ _ h => by rw [h2] at h; exact h.nilb), ?_⟩
  have hs : slot (setSlot sl 3 (.sb [] false)) 3 = .sb [] false := slot_set_same hi
  have e3 : slot (setSlot sl 3 (.sb [] false)) 4 = .w e' := by rw [slot_set_other (by decide)]; exact h3
  have e1 : slot (setSlot sl 3 (.sb [] false)) 2 = .w d' := by rw [slot_set_other (by decide)]; exact h1
  simp only [Ax.Ends, Ax.rvals, EndsX, rone, hs, e3, e1, AV.ids, idsL, newIds, upTo, nodup, pinsOf, List.nil_append, AV.ren, renL, and_self]
theorem ms_ends3 {T : Types} {sl : List AV} {H : Heap} {nx id n m : Nat} {bs rs : List UInt8} {e e' d d' : Value} {q : Prop} (h1 : slot sl 2 = .w d) (h2 : slot sl 3 = .ms id 1 0 n) (h3 : slot sl 4 = .w e) (hl : Ax.look H id = some (.b bs)) (hn : n = bs.length) (hr : rs = bs) (he : e' = e) (hd : d' = d) (hm : m = rs.length) :
    EndsW T [.tmp 2, .tmp 3, .tmp 4] [] ⟨q, .tup [.w d', .ms 0 1 0 m, .w e'], [.b rs]⟩ .ret ⟨sl, H, nx⟩ := by
  subst hn hr he hd hm
  refine ⟨_, Weak.refl _, ?_⟩
  simp only [Ax.Ends, Ax.rvals, EndsX, rone, h1, h2, h3, AV.ids, idsL, newIds, upTo, nodup, pinsOf, hl, List.nil_append, List.append_nil, AV.ren, renL, gOf, and_self]
  simp [pinsOf, newIds, nodup, hl, gOf, Blk.closed]
theorem msnil_ends3 {T : Types} {sl : List AV} {H : Heap} {nx : Nat} {e e' d d' : Value} {q : Prop} {rs : List UInt8} (h1 : slot sl 2 = .w d) (h2 : slot sl 3 = .sg 1 [] true) (h3 : slot sl 4 = .w e) (hr : rs = []) (he : e' = e) (hd : d' = d) :
    EndsW T [.tmp 2, .tmp 3, .tmp 4] [] ⟨q, .tup [.w d', .ms 0 1 0 rs.length, .w e'], [.b rs]⟩ .ret ⟨sl, H, nx⟩ := by
  subst hr he hd
  have hi : 3 < sl.length := by
    rcases Nat.lt_or_ge 3 sl.length with h | h
    · exact h
    · rw [slot_ge h] at h2; cases h2
  obtain ⟨σ', h5, h6⟩ := ms_ends3 (T := T) (sl := setSlot sl 3 (.ms nx 1 0 0)) (H := Ax.put H nx (.b [])) (nx := nx + 1) (q := q) (id := nx) (n := 0) (bs := []) (rs := []) (e := e') (e' := e') (d := d') (d' := d') (by rw [slot_set_other (by decide)]; exact h1) (slot_set_same hi) (by rw [slot_set_other (by decide)]; exact h3) (by simp [Ax.put, Ax.look]) rfl rfl rfl rfl rfl
  exact ⟨σ', (weak_nil 3 1 (.b []) rfl (by rw [h2]; exact trivial)).trans h5, h6⟩
theorem sb_ends3 {T : Types} {sl : List AV} {H : Heap} {nx : Nat} {bs rs : List UInt8} {f : Bool} {e e' d d' : Value} {q : Prop} (h1 : slot sl 2 = .w d) (h2 : slot sl 3 = .sb bs f) (h3 : slot sl 4 = .w e) (hr : rs = bs) (he : e' = e) (hd : d' = d) :
    EndsW T [.tmp 2, .tmp 3, .tmp 4] [] ⟨q, .tup [.w d', .sb rs false, .w e'], []⟩ .ret ⟨sl, H, nx⟩ := by
  subst hr he hd
  have hi : 3 < sl.length := by
    rcases Nat.lt_or_ge 3 sl.length with h | h
    · exact h
    · rw [slot_ge h] at h2; cases h2
  refine ⟨_, weak_slot 3 (.sb rs false) (fun _ _ _ h => by rw [h2] at h; exact h.lax), ?_⟩
  have hs : slot (setSlot sl 3 (.sb rs false)) 3 = .sb rs false := slot_set_same hi
  have e3 : slot (setSlot sl 3 (.sb rs false)) 4 = .w e' := by rw [slot_set_other (by decide)]; exact h3
  have e1 : slot (setSlot sl 3 (.sb rs false)) 2 = .w d' := by rw [slot_set_other (by decide)]; exact h1
  simp only [Ax.Ends, Ax.rvals, EndsX, rone, hs, e3, e1, AV.ids, idsL, newIds, upTo, nodup, pinsOf, List.nil_append, AV.ren, renL, and_self]

section
set_option maxRecDepth 100000
theorem beq_sound : Sound Try.prog 38 beqS := by
  refine fn_sound (S := noS) (T := ty) mixed ty_ok noS_ok Try.func38 (c := Try.f38.body.getD .skip) (by kernel_rfl) (by kernel_rfl) (fun xs pins hp _ => ?_)
  unfold beqS at hp ⊢
  split at hp
  · rename_i a f b g _
    refine ⟨by simp, ?_⟩
    unfold Try.f38
    simp -implicitDefEqProofs only [evT, implies_true, forall_const, Option.getD, later_normal, aop, aLen, ev, slot, setSlot, putSlot, cv, cvl, aConv, aBin, aInt, aUn, aFn, aEq, Out.and, isBool, isPtr, List.length, IntKind.bits, evs, evo, evps, aCall, aUser, coes, coe, List.append, List.replicate, callOut, rootsL, AV.roots, lendsL, AV.lends, pinsOf, nodup, lendL, lend, closedB, noimmB, AV.noimm, AV.ren, renL, back, Nat.reduceAdd, Nat.reduceSub, Nat.reduceMul, Int.reduceToNat, reduceCtorEq, aLoad, subv, aIndexAddr, aIndex, TD.aggr, guardSlot, aPick, byte, word, aMin, aMax, Ax.Ends, EndsX, Ax.rvals, rone, AV.ids, idsL, newIds, upTo, pinHeap, gOf, ↓reduceIte, List.isEmpty, Int.reducePow, Nat.reducePow, Int.reduceMod, Nat.reduceLeDiff, Int.reduceLE, Int.reduceNe, Int.reduceEq, aBuildSlice, fillB, aAppend, appendB, viewB, Ax.look, Ax.put, Ax.drop, List.drop, List.take, asv, aMake, aCopy, srcB, fillG, viewG, appendG, appendI, fillI, aSlice, bnd, bnds, full3, cut, aFieldAddr, aField, aStore, setB, aBox, aBuild, fillS, allTy, AV.leaves, AV.okv, AV.leaf, one, splice, elemLeaves, Blk.size, Blk.len, Option.isSome, Option.isNone, isBytes, aStr, aNil, aAlloc, aExtract, viewI, Nat.reduceEqDiff, Nat.reduceLT, Nat.reduceBEq, List.contains, List.elem, Blk.closed, closedL, AV.closed, Blk.noimm, ↓gsplit_tt, ↓gsplit_ff, ↓gsplit_tf, ↓gsplit_ft, ↓csplit_t, ↓csplit_f, Ax.idx, AV.lentIds, lentIdsL, dropAll, givenUp, AV.clean, cleanL, Blk.clean, cleanB, quietC, flatTy, coldStr, notMs, eqV, eqF, isStruct, ty, noS]
  · exact hp.elim
def Sbopen (f : FuncId) : Option FSpec :=
  match f with
  | 38 => some beqS
  | _ => none
theorem Sbopen_ok : Fns Try.prog Sbopen := by
  intro f s h
  unfold Sbopen at h
  split at h
  · injection h with h; subst h; exact ⟨⟨_, Try.func38, by kernel_rfl, by kernel_rfl⟩, beq_sound⟩
  · cases h
def Srbopen (f : FuncId) : Option FSpec :=
  match f with
  | _ => none
theorem Srbopen_ok : Fns Try.prog Srbopen := by
  intro f s h
  unfold Srbopen at h
  cases h
set_option maxHeartbeats 1000000 in
set_option maxHeartbeats 1000000 in
set_option maxHeartbeats 1000000 in
end
end Go.Proofs.Ythmkhlmohjcbgaa
