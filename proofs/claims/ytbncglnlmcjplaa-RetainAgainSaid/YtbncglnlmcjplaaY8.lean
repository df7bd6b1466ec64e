/- Layer 16: what lies behind; the document's Drop. -/
import Derived.Test.YtbncglnlmcjplaaY7
namespace Go.Proofs.Ytbncglnlmcjplaa
open Ax
set_option linter.unusedSimpArgs false
set_option linter.unusedVariables false

theorem foldl_add16 (l : List Sg) : ∀ a : Int, l.foldl (fun n s => n + blk16 s.k) a = a + totL l := by
  induction l with
  | nil => intro a; simp [totL]
  | cons x r ih =>
    intro a
    have h1 := ih (a + blk16 x.k)
    have h2 := ih (0 + blk16 x.k)
    unfold totL at *
    rw [List.foldl_cons, List.foldl_cons, h1, h2]
    omega
theorem totL_cons (x : Sg) (l : List Sg) : totL (x :: l) = blk16 x.k + totL l := by
  have := foldl_add16 l (0 + blk16 x.k)
  unfold totL at *
  rw [List.foldl_cons, this]
  omega
theorem totL_drop (l : List Sg) (j : Nat) (h : j < l.length) : totL (l.drop j) = blk16 l[j].k + totL (l.drop (j + 1)) := by
  rw [List.drop_eq_getElem_cons h, totL_cons]
theorem zsF_at (l : List Sg) (j : Nat) (h : j < l.length) : zsF l j = l[j] := by simp [zsF, List.getD, List.getElem?_eq_getElem h]
theorem st16_told (l : List Sg) : ∀ t, t ≤ l.length → (st16 (upto16 (bk16 l.length (zsF l)) t)).1 = totL (l.drop (l.length - t)) ∧ ∀ j, l.length - t ≤ j → j < l.length → (st16 (upto16 (bk16 l.length (zsF l)) t)).2 j = totL (l.drop j)
  | 0, _ => by
    refine ⟨by simp [upto16, st16, totL], fun j h1 h2 => by omega⟩
  | t + 1, ht => by
    obtain ⟨i1, i2⟩ := st16_told l t (by omega)
    rw [upto16_succ, st16_snoc]
    have hk : l.length - 1 - t < l.length := by omega
    have e : l.length - 1 - t + 1 = l.length - t := by omega
    have hd := totL_drop l (l.length - 1 - t) hk
    rw [e] at hd
    have hz := zsF_at l _ hk
    have e2 : l.length - (t + 1) = l.length - 1 - t := by omega
    obtain ⟨S, hS⟩ : ∃ S, st16 (upto16 (bk16 l.length (zsF l)) t) = S := ⟨_, rfl⟩
    rw [hS] at i1 i2 ⊢
    unfold step16 bk16
    simp only [hz, i1, e2]
    refine ⟨by rw [hd, Int.add_comm], fun j h1 h2 => ?_⟩
    by_cases hj : j = l.length - 1 - t
    · subst hj; simp only [if_true]; rw [hd, Int.add_comm]
    · simp only [hj, if_false]; exact i2 j (by omega) h2
def go16 (l : List Sg) (rT rB now : Int) (k : Nat) : Bool := oldB (zsF l k).w rT now || (decide (0 ≤ rB) && decide (rB < totL (l.drop k)))
theorem goB_go (l : List Sg) (rT rB now : Int) (k : Nat) (h : k < l.length) : goB16 (zsF l) l.length rT rB now k = go16 l rT rB now k := by
  unfold goB16 go16
  rw [(st16_told l l.length (Nat.le_refl _)).2 k (by omega) h]
theorem drG_congr (g g' : Nat → Bool) (len : Nat) (h : ∀ k, k < len → g k = g' k) : ∀ f k, drG g len f k = drG g' len f k
  | 0, k => rfl
  | f + 1, k => by
    simp only [drG, drG_congr g g' len h f]
    by_cases hk : k + 1 < len
    · rw [h k (by omega)]
    · simp [hk]
theorem drL_eq (l : List Sg) (rT rB now : Int) : drL l rT rB now = drG (go16 l rT rB now) l.length l.length 0 :=
  drG_congr _ _ _ (fun k h => goB_go l rT rB now k h) _ _
end Go.Proofs.Ytbncglnlmcjplaa
