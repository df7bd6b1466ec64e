/- Layer 5: the law of blocks that are cut. -/
import Derived.Test.YtfciefiachmioaaK7
import Derived.Test.YtfciefiachmioaaAxTg
namespace Go.Proofs.Ytfciefiachmioaa
open Ax
set_option linter.unusedSimpArgs false
set_option linter.unusedVariables false

theorem join_more_cut : ∀ (n : Nat) (r : List UInt8) (k : Nat) (x : List UInt8) (S : List (List UInt8)), ¬ blkOk false x → k ≤ (moreL n r).length → joinGo false ((moreL n r).take k ++ x :: S) = (chunkL n r).take k
  | 0, r, k, x, S, hx, hk => by
    simp only [moreL, List.take_nil, List.nil_append, chunkL]
    exact if_neg hx
  | n + 1, r, k, x, S, hx, hk => by
    unfold moreL chunkL at *
    by_cases h : r = []
    · rw [if_pos h, if_pos h]; simp only [List.take_nil, List.nil_append]; exact if_neg hx
    · rw [if_neg h] at hk ⊢
      rw [if_neg h]
      cases k with
      | zero => simp only [List.take_zero, List.nil_append]; exact if_neg hx
      | succ k =>
        have hl : (r.take 61).length ≤ 61 := by rw [List.length_take]; omega
        rw [List.take_succ_cons, List.take_succ_cons, List.cons_append]
        show (if blkOk false (blkL 2 (r.take 61)) then openB (blkL 2 (r.take 61)) :: joinGo false ((moreL n (r.drop 61)).take k ++ x :: S) else []) = _
        rw [if_pos (ok2_blk _ hl), (open_blk 2 _ (.inr rfl) hl).2.2, join_more_cut n (r.drop 61) k x S hx (by simpa using hk)]
theorem chunk_take : ∀ (n : Nat) (r : List UInt8) (k : Nat), r.length ≤ n → ((chunkL n r).take k).flatten = r.take (61 * k)
  | 0, r, k, h => by
    have : r = [] := List.length_eq_zero_iff.1 (by omega)
    subst this; simp [chunkL]
  | n + 1, r, k, h => by
    unfold chunkL
    by_cases hr : r = []
    · rw [if_pos hr, hr]; simp
    · rw [if_neg hr]
      have := List.length_pos_iff.2 hr
      cases k with
      | zero => simp
      | succ k =>
        rw [List.take_succ_cons, List.flatten_cons, chunk_take n (r.drop 61) k (by rw [List.length_drop]; omega)]
        rw [show 61 * (k + 1) = 61 + 61 * k by omega, List.take_add]
/-- What is joined of blocks with one that is none. -/
theorem join_cut (b x : List UInt8) (S : List (List UInt8)) (k : Nat) (hx : openE x ≠ 0) (hk : k ≤ (layL b).length) :
    joinB ((layL b).take k ++ x :: S) = b.take (61 * k) ∧ joinN ((layL b).take k ++ x :: S) = k ∧ joinE ((layL b).take k ++ x :: S) = (if k = 0 then 8 else 0) := by
  have hno : ∀ f, ¬ blkOk f x := fun f h => hx h.1
  cases k with
  | zero =>
    have h : joinGo true ((layL b).take 0 ++ x :: S) = [] := if_neg (hno true)
    unfold joinB joinN joinE
    rw [h]; exact ⟨rfl, rfl, rfl⟩
  | succ k =>
    have hl : (b.take 61).length ≤ 61 := by rw [List.length_take]; omega
    have h : joinGo true ((layL b).take (k + 1) ++ x :: S) = b.take 61 :: (chunkL (b.drop 61).length (b.drop 61)).take k := by
      show (if blkOk true (blkL 1 (b.take 61)) then openB (blkL 1 (b.take 61)) :: joinGo false ((moreF (b.drop 61)).take k ++ x :: S) else []) = _
      rw [if_pos (ok1_blk _ hl), (open_blk 1 _ (.inl rfl) hl).2.2]
      unfold moreF
      rw [join_more_cut _ _ k x S (hno false) (by simpa [layL, moreF] using hk)]
    have hlen : ((chunkL (b.drop 61).length (b.drop 61)).take k).length = k := by
      have h1 := (chunk_len _ (b.drop 61) (Nat.le_refl _))
      rw [List.length_take, h1.1]
      have h2 : k + 1 ≤ 1 + (moreL (b.drop 61).length (b.drop 61)).length := by simpa [layL, moreF, Nat.add_comm] using hk
      rw [h1.2] at h2
      omega
    unfold joinB joinN joinE
    rw [h]
    refine ⟨?_, by rw [List.length_cons, hlen], by rw [List.length_cons, hlen]⟩
    rw [List.flatten_cons, chunk_take _ _ _ (Nat.le_refl _), show 61 * (k + 1) = 61 + 61 * k by omega, List.take_add]

theorem w_ends {T : Types} {sl : List AV} {H : Heap} {nx : Nat} {v : Value} {q : Prop} (i : Nat) (h : slot sl i = .w v) : EndsW T [.tmp i] [] ⟨q, .w v, []⟩ .ret ⟨sl, H, nx⟩ := by
  refine ⟨_, Weak.refl _, ?_⟩
  simp only [Ax.Ends, Ax.rvals, EndsX, rone, h, AV.ids, idsL, newIds, upTo, nodup, pinsOf, List.nil_append, AV.ren, and_self]
theorem bcuts_dom {x y z : AV} (hx : Arg ty 6 27 x) (hy : Arg ty 6 5 y) (hz : Arg ty 6 5 z) : ∃ b f c t, x = .sb b f ∧ y = .w (.int .u8 c) ∧ z = .w (.int .u8 t) ∧ (0 ≤ c ∧ c < 256) ∧ 0 ≤ t ∧ t < 256 := by
  obtain ⟨b, f, rfl, _⟩ := karg_bytes hx
  obtain ⟨c, rfl, h⟩ := karg_u8 hy
  obtain ⟨t, rfl, h2⟩ := karg_u8 hz
  exact ⟨b, f, c, t, rfl, rfl, rfl, h, h2⟩
def bcutsS : FSpec
  | [.sb b _, .w (.int .u8 c), .w (.int .u8 t)], [] => ⟨(0 ≤ c ∧ c < 256) ∧ 0 ≤ t ∧ t < 256, .w (.bool true), []⟩
  | _, _ => noRes
def Scuts (f : FuncId) : Option FSpec :=
  match f with
  | 48 => some blayS
  | 56 => some bjoinS
  | _ => none
theorem Scuts_ok : Fns Try.prog Scuts := by
  intro f s h
  unfold Scuts at h
  split at h
  · injection h with h; subst h; exact ⟨⟨_, Try.func48, by kernel_rfl, by kernel_rfl⟩, blay_sound⟩
  · injection h with h; subst h; exact ⟨⟨_, Try.func56, by kernel_rfl, by kernel_rfl⟩, bjoin_sound⟩
  · cases h
def cutsPl : KPlan := fun id => match id with
  | 4 => some ([], some 4)
  | 8 => some ([9], none)
  | _ => none
section
set_option maxRecDepth 100000
set_option maxHeartbeats 1000000 in
end
theorem bcuts_dom' {x y z : AV} (hx : Arg ty 6 27 x) (hy : Arg ty 6 5 y) (hz : Arg ty 6 5 z) : (bcutsS [x, y, z] []).p ∧ (bcutsS [x, y, z] []).x = .w (.bool true) := by
  obtain ⟨b, f, c, t, rfl, rfl, rfl, h, h2⟩ := bcuts_dom hx hy hz
  exact ⟨⟨h, h2⟩, rfl⟩
end Go.Proofs.Ytfciefiachmioaa
