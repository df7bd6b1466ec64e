/- Layer 7: the law of bodies whose last blocks are missing, and one is torn. -/
import Derived.Test.YtfciefiachmioaaF7
import Derived.Test.YtfciefiachmioaaK8
namespace Go.Proofs.Ytfciefiachmioaa
open Ax
set_option linter.unusedSimpArgs false
set_option linter.unusedVariables false

theorem join_bad (x : List UInt8) (hx : openE x ≠ 0) : ∀ (f : Bool) (L : List (List UInt8)), joinGo f (L ++ [x]) = joinGo f L
  | f, [] => if_neg (fun h : blkOk f x => hx h.1)
  | f, b :: r => by
    rw [List.cons_append]
    unfold joinGo
    rw [join_bad x hx false r]
theorem lay_take_join (F : List UInt8) (j : Nat) (hj : j ≤ (layL F).length) : joinB ((layL F).take j) = F.take (61 * j) ∧ joinE ((layL F).take j) = (if j = 0 then 8 else 0) := by
  have hx : openE [] ≠ 0 := by decide
  have h := join_cut F [] [] j hx hj
  unfold joinB joinE at h ⊢
  rw [join_bad [] hx] at h
  exact ⟨h.1, h.2.2⟩
/-- What is left of a frame whose last blocks are missing is none. -/
theorem torn_none (b : List UInt8) (T : List (List UInt8)) (j : Nat) (hb : b.length ≤ 8192) (hj : j < (flayL b).length) (hT : T = [] ∨ ∃ y, T = [y] ∧ openE y ≠ 0) :
    joinGo false ((flayL b).take j ++ T) = [] ∧ oneE ((flayL b).take j ++ T) ≠ 0 := by
  have hF : flayL b = layL (bodyF b) := if_pos hb
  rw [hF] at hj ⊢
  have hsame : ∀ f, joinGo f ((layL (bodyF b)).take j ++ T) = joinGo f ((layL (bodyF b)).take j) := by
    intro f
    rcases hT with rfl | ⟨y, rfl, hy⟩
    · rw [List.append_nil]
    · exact join_bad y hy f _
  have hB : joinB ((layL (bodyF b)).take j ++ T) = joinB ((layL (bodyF b)).take j) := by unfold joinB; rw [hsame]
  have hE : joinE ((layL (bodyF b)).take j ++ T) = joinE ((layL (bodyF b)).take j) := by unfold joinE; rw [hsame]
  obtain ⟨h1, h2⟩ := lay_take_join (bodyF b) j (by omega)
  refine ⟨?_, ?_⟩
  · rw [hsame]
    cases j with
    | zero => rfl
    | succ j =>
      have hl : (List.take 61 (bodyF b)).length ≤ 61 := by rw [List.length_take]; omega
      exact if_neg (no_blk1 _ hl)
  · unfold oneE
    rw [hE, hB, h2]
    by_cases hj0 : j = 0
    · rw [if_pos hj0, if_neg (by decide)]; decide
    · rw [if_neg hj0, if_pos rfl]
      have hl := layL_len (bodyF b)
      have hbl := bodyF_length b
      unfold needI at hl
      have hlt : 61 * j < (bodyF b).length := by omega
      rw [if_neg]
      · decide
      · rw [h1]
        rintro ⟨_, h⟩
        rw [bodyF_num b hb (61 * j) (by omega), List.length_take] at h
        omega
theorem allL_take (bs : List (List UInt8)) (w k : Nat) (hw : w < bs.length) (h1 : (allL (bs.take w)).length ≤ k) (h2 : k < (allL (bs.take (w + 1))).length) : (allL bs).take k = allL (bs.take w) ++ (flayL bs[w]).take (k - (allL (bs.take w)).length) := by
  have e : allL bs = allL (bs.take w) ++ (flayL bs[w] ++ allL (bs.drop (w + 1))) := by
    have a1 : allL bs = allL (bs.take w ++ bs.drop w) := by rw [List.take_append_drop]
    have a2 : allL (bs.take w ++ bs.drop w) = allL (bs.take w) ++ allL (bs.drop w) := by unfold allL; rw [List.flatMap_append]
    have a3 : allL (bs.drop w) = flayL bs[w] ++ allL (bs.drop (w + 1)) := by rw [List.drop_eq_getElem_cons hw]; rfl
    rw [a1, a2, a3]
  have e2 : (allL (bs.take (w + 1))).length = (allL (bs.take w)).length + (flayL bs[w]).length := by
    rw [List.take_succ_eq_append_getElem hw, allL_snoc, List.length_append]
  rw [e, List.take_append, List.take_of_length_le h1, List.take_append_of_le_length (by omega)]
/-- Of bodies that were laid, cut at a block, those are scanned whose blocks are all there. -/
theorem scan_torn (bs : List (List UInt8)) (T : List (List UInt8)) (w k : Nat) (hok : okB bs) (hw : w < bs.length) (h1 : (allL (bs.take w)).length ≤ k) (h2 : k < (allL (bs.take (w + 1))).length) (hT : T = [] ∨ ∃ y, T = [y] ∧ openE y ≠ 0) :
    scanF ((allL bs).take k ++ T) = (places 0 (bs.take w), (allL (bs.take w)).length) := by
  have hb : ∀ b ∈ bs.take w, b.length ≤ 8192 := fun b hb => by have := hok b (List.mem_of_mem_take hb); omega
  have hbw := hok bs[w] (List.getElem_mem hw)
  have e2 : (allL (bs.take (w + 1))).length = (allL (bs.take w)).length + (flayL bs[w]).length := by
    rw [List.take_succ_eq_append_getElem hw, allL_snoc, List.length_append]
  obtain ⟨t1, t2⟩ := torn_none bs[w] T (k - (allL (bs.take w)).length) (by omega) (by omega) hT
  rw [allL_take bs w k hw h1 h2, List.append_assoc]
  have hl := allL_len (bs.take w) hb
  have := scan_all (bs.take w) _ ((allL (bs.take w) ++ ((flayL bs[w]).take (k - (allL (bs.take w)).length) ++ T)).length + 1) 0 hb t1 t2 (by rw [List.length_append]; omega)
  rw [Nat.zero_add] at this
  exact this
end Go.Proofs.Ytfciefiachmioaa
