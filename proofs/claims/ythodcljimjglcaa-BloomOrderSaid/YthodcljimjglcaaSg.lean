/- Layer 33: bits as places. -/
import Derived.Test.YthodcljimjglcaaSc
namespace Go.Proofs.Ythodcljimjglcaa
open Ax
set_option linter.unusedSimpArgs false
set_option linter.unusedVariables false

theorem hasP_test (bs : List UInt8) (p : Nat) : hasP bs p = (bs.getD (p / 8) 0).toNat.testBit (p % 8) := by
  unfold hasP
  rw [Nat.testBit_eq_decide_div_mod_eq]
theorem hasP_setP (bs : List UInt8) (q p : Nat) (hq : q / 8 < bs.length) : hasP (setP bs q) p = (decide (p = q) || hasP bs p) := by
  rw [hasP_test, hasP_test]
  unfold setP
  rw [getD_set _ _ _ _ hq]
  by_cases h : q / 8 = p / 8
  · rw [if_pos h, UInt8.toNat_or, mask_nat, Nat.testBit_or, Nat.testBit_two_pow, h, Bool.or_comm]
    congr 1
    exact decide_eq_decide.2 (by omega)
  · rw [if_neg h, decide_eq_false (by omega : ¬ p = q), Bool.false_or]
theorem hasP_setPs : ∀ (ps : List Int) (bs : List UInt8) (p : Nat), (∀ q ∈ ps, 0 ≤ q ∧ q < 8 * bs.length) → hasP (setPs bs ps) p = (decide ((p : Int) ∈ ps) || hasP bs p)
  | [], bs, p, _ => by simp [setPs]
  | q :: ps, bs, p, h => by
    have hq := h q (by simp)
    have e : setPs bs (q :: ps) = setPs (setP bs q.toNat) ps := rfl
    rw [e, hasP_setPs ps _ p (fun r hr => by rw [setP_len]; exact h r (by simp [hr])), hasP_setP _ _ _ (by omega)]
    have e1 : decide (p = q.toNat) = decide ((p : Int) = q) := decide_eq_decide.2 (by omega)
    rw [e1]
    by_cases h1 : (p : Int) = q
    · rw [decide_eq_true h1, decide_eq_true (by simp [h1] : (p : Int) ∈ q :: ps)]; simp
    · by_cases h2 : (p : Int) ∈ ps
      · rw [decide_eq_true h2, decide_eq_true (by simp [h2] : (p : Int) ∈ q :: ps)]; simp
      · rw [decide_eq_false h2, decide_eq_false h1, decide_eq_false (by simp [h1, h2] : ¬ (p : Int) ∈ q :: ps)]; simp
theorem ext_hasP {a b : List UInt8} (hl : a.length = b.length) (h : ∀ p, p < 8 * a.length → hasP a p = hasP b p) : a = b := by
  refine ext_getD hl fun j hj => ?_
  apply UInt8.toNat_inj.1
  apply Nat.eq_of_testBit_eq
  intro i
  by_cases hi : i < 8
  · have := h (8 * j + i) (by omega)
    rw [hasP_test, hasP_test, show (8 * j + i) / 8 = j by omega, show (8 * j + i) % 8 = i by omega] at this
    exact this
  · have hp : 2 ^ 8 ≤ 2 ^ i := Nat.pow_le_pow_right (by omega) (by omega)
    have h1 := (a.getD j 0).toNat_lt
    have h2 := (b.getD j 0).toNat_lt
    rw [Nat.testBit_lt_two_pow (by omega), Nat.testBit_lt_two_pow (by omega)]
theorem hasP_joinL (a b : List UInt8) (p : Nat) (h : p < 8 * a.length) : hasP (joinL a b a.length) p = (hasP a p || hasP b p) := by
  rw [hasP_test, hasP_test, hasP_test, joinL_get _ _ _ _ (by omega), if_pos (by omega), UInt8.toNat_or, Nat.testBit_or]
/-- The places of a key among so many. -/
def kp (e : Int) (L : Nat) (k : List UInt8) : List Int := plL (crcL k) L e.toNat
def foldK (e : Int) (L : Nat) (bs : List UInt8) (ks : List (List UInt8)) : List UInt8 := ks.foldl (fun b k => setPs b (kp e L k)) bs
theorem foldK_len (e : Int) (L : Nat) : ∀ (ks : List (List UInt8)) (bs : List UInt8), (foldK e L bs ks).length = bs.length
  | [], _ => rfl
  | k :: ks, bs => by
    have := foldK_len e L ks (setPs bs (kp e L k))
    rw [setPs_len] at this
    exact this
theorem foldK_snoc (e : Int) (L : Nat) (bs : List UInt8) (ks : List (List UInt8)) (i : Nat) (h : i < ks.length) : foldK e L bs (ks.take (i + 1)) = setPs (foldK e L bs (ks.take i)) (kp e L ks[i]) := by
  unfold foldK
  rw [List.take_succ_eq_append_getElem h, List.foldl_append]; rfl
theorem hasP_foldK (e : Int) (L : Nat) (hL : 1 ≤ L) : ∀ (ks : List (List UInt8)) (bs : List UInt8) (p : Nat), bs.length = L → hasP (foldK e L bs ks) p = (decide (∃ k ∈ ks, (p : Int) ∈ kp e L k) || hasP bs p)
  | [], bs, p, _ => by simp [foldK]
  | k :: ks, bs, p, h => by
    have hf : foldK e L bs (k :: ks) = foldK e L (setPs bs (kp e L k)) ks := rfl
    rw [hf, hasP_foldK e L hL ks _ p (by rw [setPs_len]; exact h), hasP_setPs _ _ _ (fun q hq => by rw [h]; exact plL_mem hL hq)]
    by_cases h1 : (p : Int) ∈ kp e L k
    · rw [decide_eq_true h1, decide_eq_true (⟨k, by simp, h1⟩ : ∃ x ∈ k :: ks, (p : Int) ∈ kp e L x)]; simp
    · by_cases h2 : ∃ x ∈ ks, (p : Int) ∈ kp e L x
      · obtain ⟨x, hx, hy⟩ := h2
        rw [decide_eq_true (⟨x, hx, hy⟩ : ∃ x ∈ ks, (p : Int) ∈ kp e L x), decide_eq_true (⟨x, by simp [hx], hy⟩ : ∃ x ∈ k :: ks, (p : Int) ∈ kp e L x)]; simp
      · rw [decide_eq_false h2, decide_eq_false h1, decide_eq_false (fun ⟨x, hx, hy⟩ => by
          rcases List.mem_cons.1 hx with rfl | hx
          · exact h1 hy
          · exact h2 ⟨x, hx, hy⟩)]; simp
theorem foldK_perm (e : Int) (L : Nat) (hL : 1 ≤ L) (bs : List UInt8) (h : bs.length = L) (ks ls : List (List UInt8)) (hm : ∀ k, k ∈ ks ↔ k ∈ ls) : foldK e L bs ks = foldK e L bs ls := by
  refine ext_hasP (by rw [foldK_len, foldK_len]) fun p _ => ?_
  rw [hasP_foldK e L hL _ _ _ h, hasP_foldK e L hL _ _ _ h]
  congr 1
  exact decide_eq_decide.2 ⟨fun ⟨k, h1, h2⟩ => ⟨k, (hm k).1 h1, h2⟩, fun ⟨k, h1, h2⟩ => ⟨k, (hm k).2 h1, h2⟩⟩
/-- Joined with what it holds already, a set is as it was. -/
theorem join_sub {a b : List UInt8} (hl : a.length = b.length) (h : ∀ p, p < 8 * a.length → hasP b p = true → hasP a p = true) : joinL a b a.length = a ∧ joinL b a b.length = a := by
  constructor
  · refine ext_hasP (joinL_len _ _ _) fun p hp => ?_
    rw [joinL_len] at hp
    rw [hasP_joinL _ _ _ hp]
    cases hb : hasP b p with
    | false => simp
    | true => rw [h p hp hb]; rfl
  · refine ext_hasP (by rw [joinL_len]; exact hl.symm) fun p hp => ?_
    rw [joinL_len] at hp
    rw [hasP_joinL _ _ _ hp]
    cases hb : hasP b p with
    | false => simp
    | true => rw [h p (by omega) hb]; rfl
theorem places_ok {bs : List UInt8} {e n : Int} (k : List UInt8) (ho : okSet bs.length e n) : places bs e n k = kp e bs.length k := if_pos ho
theorem addB_ok {bs : List UInt8} {e n : Int} (k : List UInt8) (ho : okSet bs.length e n) : addB bs e n k = setPs bs (kp e bs.length k) := by unfold addB; rw [places_ok k ho]
theorem addN_ok {l : Nat} {e n : Int} (ho : okSet l e n) : addN l e n = min (n + 1) 1099511627776 := if_pos ho
theorem ok_next {l : Nat} {e n : Int} (ho : okSet l e n) : okSet l e (min (n + 1) 1099511627776) := by
  obtain ⟨h1, h2, h3, h4, h5, h6⟩ := ho
  exact ⟨h1, h2, h3, h4, by omega, by omega⟩
theorem has_keys {e : Int} {L : Nat} (hL : 1 ≤ L) {bs : List UInt8} (h : bs.length = L) (ks : List (List UInt8)) (k : List UInt8) (hk : k ∈ ks) : hasPs (foldK e L bs ks) (kp e L k) = true := by
  unfold hasPs
  rw [List.all_eq_true]
  intro q hq
  have h1 := plL_mem hL hq
  have e1 : ((q.toNat : Nat) : Int) = q := by omega
  rw [hasP_foldK e L hL _ _ _ h, decide_eq_true ⟨k, hk, by rw [e1]; exact hq⟩, Bool.true_or]
theorem cntP_mono {a b : List UInt8} : ∀ n, (∀ p, p < n → hasP a p = true → hasP b p = true) → cntP a n ≤ cntP b n
  | 0, _ => by simp [cntP]
  | n + 1, h => by
    have := cntP_mono n (fun p hp => h p (by omega))
    rw [cntP_succ, cntP_succ]
    by_cases h1 : hasP a n = true
    · rw [if_pos h1, if_pos (h n (by omega) h1)]; omega
    · rw [if_neg h1]; split <;> omega
theorem sumP_mono {a b : List UInt8} (hl : a.length = b.length) (h : ∀ p, p < 8 * a.length → hasP a p = true → hasP b p = true) : sumP a a.length ≤ sumP b b.length := by
  rw [← cntP_sum a _ (Nat.le_refl _), ← cntP_sum b _ (Nat.le_refl _), ← hl]
  exact cntP_mono _ h
end Go.Proofs.Ythodcljimjglcaa
