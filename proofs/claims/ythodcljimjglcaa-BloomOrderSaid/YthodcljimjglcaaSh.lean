/- Layer 33: keys that stay. -/
import Derived.Test.YthodcljimjglcaaSg
namespace Go.Proofs.Ythodcljimjglcaa
open Ax
set_option linter.unusedSimpArgs false
set_option linter.unusedVariables false

theorem slot_str : ∀ (ks : List (List UInt8)) (i : Nat) (h : i < ks.length), slot (ks.map AV.str) i = .str ks[i]
  | p :: ps, 0, h => rfl
  | p :: ps, i + 1, h => by
    simp only [List.map_cons, slot, List.getElem_cons_succ]
    exact slot_str ps i (by simpa using h)
theorem arg_strs {x : AV} (h : Arg ty 6 55 x) : ∃ (ks : List (List UInt8)) (f : Bool), x = .sg 1 (ks.map AV.str) f ∧ ks.length ≤ 9223372036854775807 := by
  obtain ⟨i, ls, hi, hs, rfl⟩ := h
  simp only [ty] at hi
  injection hi with hi
  subst hi
  simp only [Shape, ty, ShapeF, isFlatI] at hs
  obtain ⟨xs, f, rfl, hl, hx⟩ := hs
  have hm : maxLen = 9223372036854775807 := by decide
  have : ∀ ys : List AV, (∀ x ∈ ys, ∃ s, x = .str s) → ∃ ks : List (List UInt8), ys = ks.map AV.str := by
    intro ys
    induction ys with
    | nil => intro _; exact ⟨[], rfl⟩
    | cons y r ih =>
      intro h
      obtain ⟨s, rfl⟩ := h y (by simp)
      obtain ⟨ks, rfl⟩ := ih (fun z hz => h z (by simp [hz]))
      exact ⟨s :: ks, rfl⟩
  obtain ⟨ks, rfl⟩ := this xs (fun x hxm => by
    obtain ⟨l, ⟨bs, rfl, wb⟩, _, rfl⟩ := hx x hxm
    exact ⟨bs, rfl⟩)
  exact ⟨ks, f, rfl, by rw [List.length_map] at hl; omega⟩
def zerosL (L : Nat) : List UInt8 := List.replicate L 0
theorem zeros_len (L : Nat) : (zerosL L).length = L := by unfold zerosL; simp
theorem hasP_zero (L p : Nat) : hasP (zerosL L) p = false := by
  unfold hasP zerosL
  have e : (List.replicate L (0 : UInt8)).getD (p / 8) 0 = 0 := by
    rw [List.getD_eq_getElem?_getD, List.getElem?_replicate]; split <;> rfl
  rw [e]
  exact decide_eq_false (by simp)
structure KInv (e : Int) (L : Nat) (ks : List (List UInt8)) (i : Nat) (ob : List UInt8) (on : Int) : Prop where
  len : ob.length = L
  ok : okSet L e on
  sub : ∀ p, p < 8 * L → hasP ob p = true → hasP (foldK e L (zerosL L) (ks.take i)) p = true
  has : ∀ j (h : j < ks.length), j < i → j % 2 = 0 → hasPs ob (kp e L ks[j]) = true
theorem kinv_zero {e : Int} {L : Nat} (ks : List (List UInt8)) (h : okSet L e 0) : KInv e L ks 0 (zerosL L) 0 :=
  ⟨zeros_len L, h, fun p _ hp => (by rw [hasP_zero] at hp; cases hp), fun j _ h => by omega⟩
theorem sb_mono {e : Int} {L : Nat} (hL : 1 ≤ L) (ks : List (List UInt8)) (i : Nat) (h : i < ks.length) (p : Nat) (hp : hasP (foldK e L (zerosL L) (ks.take i)) p = true) : hasP (foldK e L (zerosL L) (ks.take (i + 1))) p = true := by
  rw [foldK_snoc _ _ _ _ _ h, hasP_setPs _ _ _ (fun q hq => by rw [foldK_len, zeros_len]; exact plL_mem hL hq), hp, Bool.or_true]
theorem hasPs_mono {a b : List UInt8} {L : Nat} {e : Int} {k : List UInt8} (hL : 1 ≤ L) (h : ∀ p, p < 8 * L → hasP a p = true → hasP b p = true) (hk : hasPs a (kp e L k) = true) : hasPs b (kp e L k) = true := by
  unfold hasPs at hk ⊢
  rw [List.all_eq_true] at hk ⊢
  intro q hq
  have h1 := plL_mem hL hq
  exact h _ (by omega) (hk q hq)
theorem kinv_odd {e : Int} {L : Nat} (hL : 1 ≤ L) {ks : List (List UInt8)} {i : Nat} {ob : List UInt8} {on : Int} (h : i < ks.length) (hi : ¬ i % 2 = 0) (k : KInv e L ks i ob on) : KInv e L ks (i + 1) ob on :=
  ⟨k.len, k.ok, fun p h1 h2 => sb_mono hL ks i h p (k.sub p h1 h2), fun j h1 h2 h3 => k.has j h1 (by omega) h3⟩
theorem kinv_even {e : Int} {L : Nat} (hL : 1 ≤ L) {ks : List (List UInt8)} {i : Nat} {ob : List UInt8} {on : Int} (h : i < ks.length) (k : KInv e L ks i ob on) : KInv e L ks (i + 1) (addB ob e on ks[i]) (addN L e on) := by
  have ho : okSet ob.length e on := by rw [k.len]; exact k.ok
  have hb : addB ob e on ks[i] = setPs ob (kp e L ks[i]) := by rw [addB_ok _ ho, k.len]
  have hm : ∀ q ∈ kp e L ks[i], 0 ≤ q ∧ q < 8 * ob.length := fun q hq => by rw [k.len]; exact plL_mem hL hq
  have mono : ∀ p, p < 8 * L → hasP ob p = true → hasP (setPs ob (kp e L ks[i])) p = true := fun p _ hp => by rw [hasP_setPs _ _ _ hm, hp, Bool.or_true]
  rw [hb, addN_ok k.ok]
  refine ⟨by rw [setPs_len]; exact k.len, ok_next k.ok, fun p h1 h2 => ?_, fun j h1 h2 h3 => ?_⟩
  · rw [hasP_setPs _ _ _ hm] at h2
    rw [foldK_snoc _ _ _ _ _ h, hasP_setPs _ _ _ (fun q hq => by rw [foldK_len, zeros_len]; exact plL_mem hL hq)]
    cases hd : decide ((p : Int) ∈ kp e L ks[i]) with
    | true => rfl
    | false => rw [hd, Bool.false_or] at h2; rw [Bool.false_or]; exact k.sub p h1 h2
  · by_cases hj : j = i
    · subst hj
      unfold hasPs
      rw [List.all_eq_true]
      intro q hq
      have h4 := hm q hq
      have e1 : ((q.toNat : Nat) : Int) = q := by omega
      rw [hasP_setPs _ _ _ hm, e1, decide_eq_true hq, Bool.true_or]
    · exact hasPs_mono hL mono (k.has j h1 (by omega) h3)
theorem addN_small {l : Nat} {e : Int} {i : Nat} (ho : okSet l e i) (h : i ≤ 1000) : addN l e i = ((i + 1 : Nat) : Int) := by rw [addN_ok ho]; clear ho; omega
theorem sumP_zeros (L : Nat) : sumP (zerosL L) L = 0 := by
  have h := cntP_sum (zerosL L) L (by rw [zeros_len]; omega)
  rw [← h]
  unfold cntP
  rw [List.length_eq_zero_iff, List.filter_eq_nil_iff]
  intro p _
  rw [hasP_zero]; decide
theorem sumP_step {e : Int} {L : Nat} (hL : 1 ≤ L) (ks : List (List UInt8)) (i : Nat) (h : i < ks.length) : sumP (foldK e L (zerosL L) (ks.take i)) L ≤ sumP (foldK e L (zerosL L) (ks.take (i + 1))) L := by
  have l1 : (foldK e L (zerosL L) (ks.take i)).length = L := by rw [foldK_len, zeros_len]
  have l2 : (foldK e L (zerosL L) (ks.take (i + 1))).length = L := by rw [foldK_len, zeros_len]
  have := sumP_mono (a := foldK e L (zerosL L) (ks.take i)) (b := foldK e L (zerosL L) (ks.take (i + 1))) (by rw [l1, l2]) (fun p _ hp => sb_mono hL ks i h p hp)
  rw [l1, l2] at this
  exact this
end Go.Proofs.Ythodcljimjglcaa
