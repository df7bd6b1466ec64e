/- Layer 5: a block is sealed. -/
import Derived.Test.YthmkhlmohjcbgaaAu
namespace Go.Proofs.Ythmkhlmohjcbgaa
open Ax
set_option linter.unusedSimpArgs false
set_option linter.unusedVariables false

/-- The bytes of a block. -/
def blkL (k : UInt8) (b : List UInt8) : List UInt8 := k :: UInt8.ofNat b.length :: (b ++ (List.replicate (61 - b.length) 0 ++ [90]))
def sealE (k : Int) (b : List UInt8) : Int := if k = 1 ∨ k = 2 then (if b.length ≤ 61 then 0 else 5) else 22
def sealB (k : Int) (b : List UInt8) : List UInt8 := if sealE k b = 0 then blkL (UInt8.ofNat k.toNat) b else []
def bsealS : FSpec
  | [.w (.int .u8 k), .sb b _], [] => ⟨0 ≤ k ∧ k < 256 ∧ b.length ≤ 1000000, .tup [.sb (sealB k b) false, .w (.int .i64 (sealE k b))], []⟩
  | _, _ => noRes

/-- The same, told as bytes of the caller's own. -/
def bsealM : FSpec
  | [.w (.int .u8 k), .sb b _], [] => ⟨0 ≤ k ∧ k < 256 ∧ b.length ≤ 1000000, .tup [.ms 0 1 0 (sealB k b).length, .w (.int .i64 (sealE k b))], [.b (sealB k b)]⟩
  | _, _ => noRes
theorem blkL_length (k : UInt8) (b : List UInt8) (h : b.length ≤ 61) : (blkL k b).length = 64 := by
  unfold blkL; simp; omega

theorem blk_copy (Z b : List UInt8) (k : UInt8) (hZ : Z = List.replicate 64 0) (hb : b.length ≤ 61) :
    (((Z.set 0 k).set 1 (UInt8.ofNat b.length)).set 63 (UInt8.ofNat 90)).take 2 ++ (b.take 61 ++ (((Z.set 0 k).set 1 (UInt8.ofNat b.length)).set 63 (UInt8.ofNat 90)).drop (2 + b.length)) = blkL k b := by
  have e1 : ((Z.set 0 k).set 1 (UInt8.ofNat b.length)).set 63 (UInt8.ofNat 90) = k :: UInt8.ofNat b.length :: (List.replicate 61 0 ++ [90]) := by
    subst hZ; rfl
  rw [e1, List.take_of_length_le hb]
  unfold blkL
  have e2 : List.drop (2 + b.length) (k :: UInt8.ofNat b.length :: (List.replicate 61 0 ++ [90])) = List.replicate (61 - b.length) 0 ++ [90] := by
    rw [show 2 + b.length = b.length + 1 + 1 by omega, List.drop_succ_cons, List.drop_succ_cons, List.drop_append_of_le_length (by simp; omega), List.drop_replicate]
  rw [e2]
  rfl

/-- Bytes that were made are told as data, and an error. -/
theorem fz_ends {T : Types} {sl : List AV} {H : Heap} {nx id n : Nat} {bs rs : List UInt8} {e e' : Value} {q : Prop} (i j : Nat) (hij : i ≠ j) (h2 : slot sl i = .ms id 1 0 n) (h3 : slot sl j = .w e) (hl : Ax.look H id = some (.b bs)) (hn : n = bs.length) (hr : rs = bs) (he : e' = e) :
    EndsW T [.tmp i, .tmp j] [] ⟨q, .tup [.sb rs false, .w e'], []⟩ .ret ⟨sl, H, nx⟩ := by
  subst hn hr he
  have hs : slot (fzL id rs sl) i = .sb rs false := by
    rw [Ax.slot_fzL, h2]
    simp [AV.fz]
  refine ⟨_, weak_fz id i rs hl (by rw [h2]; simp [AV.ids]), ?_⟩
  have e3 : slot (fzL id rs sl) j = .w e' := by rw [Ax.slot_fzL, h3]; rfl
  simp only [Ax.Ends, Ax.rvals, EndsX, rone, hs, e3, AV.ids, idsL, newIds, upTo, nodup, pinsOf, List.nil_append, AV.ren, renL, and_self]
theorem nil_ends {T : Types} {sl : List AV} {H : Heap} {nx s : Nat} {f : Bool} {e e' : Value} {q : Prop} {rs : List UInt8} (i j : Nat) (hij : i ≠ j) (h2 : slot sl i = .sg s [] f) (h3 : slot sl j = .w e) (hr : rs = []) (he : e' = e) :
    EndsW T [.tmp i, .tmp j] [] ⟨q, .tup [.sb rs false, .w e'], []⟩ .ret ⟨sl, H, nx⟩ := by
  subst hr he
  have hi : i < sl.length := by
    rcases Nat.lt_or_ge i sl.length with h | h
    · exact h
    · rw [slot_ge h] at h2; cases h2
  refine ⟨_, weak_slot i (.sb [] false) (fun _ _ _ h => by rw [h2] at h; exact h.nilb), ?_⟩
  have hs : slot (setSlot sl i (.sb [] false)) i = .sb [] false := slot_set_same hi
  have e3 : slot (setSlot sl i (.sb [] false)) j = .w e' := by rw [slot_set_other hij]; exact h3
  simp only [Ax.Ends, Ax.rvals, EndsX, rone, hs, e3, AV.ids, idsL, newIds, upTo, nodup, pinsOf, List.nil_append, AV.ren, renL, and_self]

theorem ms_ends {T : Types} {sl : List AV} {H : Heap} {nx id n : Nat} {bs rs : List UInt8} {e e' : Value} {q : Prop} (i j : Nat) (hij : i ≠ j) (h2 : slot sl i = .ms id 1 0 n) (h3 : slot sl j = .w e) (hl : Ax.look H id = some (.b bs)) (hn : n = bs.length) (hr : rs = bs) (he : e' = e) :
    EndsW T [.tmp i, .tmp j] [] ⟨q, .tup [.ms 0 1 0 rs.length, .w e'], [.b rs]⟩ .ret ⟨sl, H, nx⟩ := by
  subst hn hr he
  refine ⟨_, Weak.refl _, ?_⟩
  simp only [Ax.Ends, Ax.rvals, EndsX, rone, h2, h3, AV.ids, idsL, newIds, upTo, nodup, pinsOf, hl, List.nil_append, List.append_nil, AV.ren, renL, gOf, and_self]
  simp [pinsOf, newIds, nodup, hl, gOf, Blk.closed]
theorem msnil_ends {T : Types} {sl : List AV} {H : Heap} {nx : Nat} {e e' : Value} {q : Prop} {rs : List UInt8} (i j : Nat) (hij : i ≠ j) (h2 : slot sl i = .sg 1 [] true) (h3 : slot sl j = .w e) (hr : rs = []) (he : e' = e) :
    EndsW T [.tmp i, .tmp j] [] ⟨q, .tup [.ms 0 1 0 rs.length, .w e'], [.b rs]⟩ .ret ⟨sl, H, nx⟩ := by
  subst hr he
  have hi : i < sl.length := by
    rcases Nat.lt_or_ge i sl.length with h | h
    · exact h
    · rw [slot_ge h] at h2; cases h2
  obtain ⟨σ', h5, h6⟩ := ms_ends (T := T) (sl := setSlot sl i (.ms nx 1 0 0)) (H := Ax.put H nx (.b [])) (nx := nx + 1) (q := q) i j hij (id := nx) (n := 0) (bs := []) (rs := []) (e := e') (e' := e') (slot_set_same hi) (by rw [slot_set_other hij]; exact h3) (by simp [Ax.put, Ax.look]) rfl rfl rfl
  exact ⟨σ', (weak_nil i 1 (.b []) rfl (by rw [h2]; exact trivial)).trans h5, h6⟩

theorem sealE_cases (k : Int) (b : List UInt8) : (¬ (k = 1 ∨ k = 2) ∧ sealE k b = 22) ∨ ((k = 1 ∨ k = 2) ∧ ¬ b.length ≤ 61 ∧ sealE k b = 5) ∨ ((k = 1 ∨ k = 2) ∧ b.length ≤ 61 ∧ sealE k b = 0) := by
  unfold sealE
  by_cases hk : k = 1 ∨ k = 2
  · by_cases hb : b.length ≤ 61
    · exact .inr (.inr ⟨hk, hb, by rw [if_pos hk, if_pos hb]⟩)
    · exact .inr (.inl ⟨hk, hb, by rw [if_pos hk, if_neg hb]⟩)
  · exact .inl ⟨hk, by rw [if_neg hk]⟩

section
set_option maxRecDepth 100000
set_option maxHeartbeats 1000000 in
set_option maxHeartbeats 1000000 in
set_option maxHeartbeats 1000000 in
end
end Go.Proofs.Ythmkhlmohjcbgaa
