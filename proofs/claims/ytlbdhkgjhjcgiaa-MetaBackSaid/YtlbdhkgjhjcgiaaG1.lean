/- Layer 1: numbers of few bytes, as plain lists. -/
import Derived.Test.YtlbdhkgjhjcgiaaA5
namespace Go.Proofs.Ytlbdhkgjhjcgiaa
open Ax
set_option linter.unusedSimpArgs false
set_option linter.unusedVariables false

def valU : List UInt8 → Nat
  | [] => 0
  | c :: r => c.toNat % 128 + 128 * valU r

theorem val_put (u : Nat) : valU (putU u) = u := by
  induction u using Nat.strongRecOn with
  | ind u ih =>
    by_cases h : u < 128
    · rw [putU_small h]
      simp only [valU, UInt8.toNat_ofNat']
      omega
    · rw [putU_big h]
      simp only [valU, UInt8.toNat_ofNat', ih (u / 128) (by omega)]
      omega

theorem val_pos : ∀ (p : List UInt8) (c : UInt8), 0 < c.toNat → c.toNat < 128 → 0 < valU (p ++ [c])
  | [], c, h, h' => by simp only [List.nil_append, valU]; omega
  | d :: p, c, h, h' => by
    have := val_pos p c h h'
    simp only [List.cons_append, valU]; omega

theorem put_val : ∀ (p : List UInt8) (c : UInt8), (∀ d ∈ p, 128 ≤ d.toNat) → c.toNat < 128 → (p = [] ∨ 0 < c.toNat) → putU (valU (p ++ [c])) = p ++ [c]
  | [], c, _, hc, _ => by
    have e : valU ([] ++ [c]) = c.toNat := by simp only [List.nil_append, valU]; omega
    rw [e, putU_small hc]
    simp
  | d :: p, c, hp, hc, h => by
    have h0 : 0 < c.toNat := by rcases h with h | h; · cases h
                                · exact h
    have hv := val_pos p c h0 hc
    have ih := put_val p c (fun x hx => hp x (by simp [hx])) hc (.inr h0)
    have hd := hp d (by simp)
    have hd2 := d.toNat_lt
    have e : valU (d :: p ++ [c]) = d.toNat % 128 + 128 * valU (p ++ [c]) := rfl
    rw [e, putU_big (by omega), show (d.toNat % 128 + 128 * valU (p ++ [c])) / 128 = valU (p ++ [c]) by omega, ih,
      show (d.toNat % 128 + 128 * valU (p ++ [c])) % 128 + 128 = d.toNat by omega]
    simp

theorem put_shape (u : Nat) : ∃ p c, putU u = p ++ [c] ∧ (∀ d ∈ p, 128 ≤ d.toNat) ∧ c.toNat < 128 ∧ (p = [] ∨ 0 < c.toNat) := by
  induction u using Nat.strongRecOn with
  | ind u ih =>
    by_cases h : u < 128
    · exact ⟨[], UInt8.ofNat u, by rw [putU_small h]; rfl, by simp, by rw [UInt8.toNat_ofNat']; omega, .inl rfl⟩
    · obtain ⟨p, c, h1, h2, h3, h4⟩ := ih (u / 128) (by omega)
      refine ⟨UInt8.ofNat (u % 128 + 128) :: p, c, by rw [putU_big h, h1]; rfl, ?_, h3, ?_⟩
      · intro d hd
        rcases List.mem_cons.1 hd with rfl | hd
        · rw [UInt8.toNat_ofNat']; omega
        · exact h2 d hd
      · right
        rcases h4 with rfl | h4
        · have e := val_put (u / 128)
          rw [h1] at e
          simp only [List.nil_append, valU] at e
          omega
        · exact h4

theorem val_lt : ∀ (p : List UInt8) (c : UInt8), c.toNat < 128 → valU (p ++ [c]) < (c.toNat + 1) * 128 ^ p.length
  | [], c, h => by simp only [List.nil_append, valU, List.length_nil, Nat.pow_zero]; omega
  | d :: p, c, h => by
    have := val_lt p c h
    simp only [List.cons_append, valU, List.length_cons, Nat.pow_succ]
    rw [← Nat.mul_assoc]
    omega
theorem val_ge : ∀ (p : List UInt8) (c : UInt8), c.toNat < 128 → c.toNat * 128 ^ p.length ≤ valU (p ++ [c])
  | [], c, h => by simp only [List.nil_append, valU, List.length_nil, Nat.pow_zero]; omega
  | d :: p, c, h => by
    have := val_ge p c h
    simp only [List.cons_append, valU, List.length_cons, Nat.pow_succ]
    rw [← Nat.mul_assoc]
    omega

/-- The bytes are those of their number, just if the last is needed, and has room. -/
theorem canon (p : List UInt8) (c : UInt8) (hp : ∀ d ∈ p, 128 ≤ d.toNat) (hc : c.toNat < 128) (h9 : p.length ≤ 9) :
    putU (valU (p ++ [c]) % 18446744073709551616) = p ++ [c] ↔ ¬ ((0 < p.length ∧ c.toNat = 0) ∨ (p.length = 9 ∧ 1 < c.toNat)) := by
  have hlt := val_lt p c hc
  have hge := val_ge p c hc
  have h7 : (128 : Nat) ^ p.length ≤ 128 ^ 9 := Nat.pow_le_pow_right (by decide) h9
  have h7' : (128 : Nat) ^ 9 = 9223372036854775808 := by simp
  constructor
  · intro h
    have hv := val_put (valU (p ++ [c]) % 18446744073709551616)
    rw [h] at hv
    rintro (⟨h1, h2⟩ | ⟨h1, h2⟩)
    · obtain ⟨q, d, e1, e2, e3, e4⟩ := put_shape (valU (p ++ [c]) % 18446744073709551616)
      rw [h] at e1
      have hq := List.append_inj' e1 rfl
      have hd : c = d := by simpa using hq.2
      rw [← hq.1, ← hd] at e4
      rcases e4 with e4 | e4
      · rw [e4] at h1; simp at h1
      · omega
    · rw [h1, h7'] at hge
      omega
  · intro h
    have hsmall : valU (p ++ [c]) < 18446744073709551616 := by
      by_cases hl : p.length = 9
      · rw [hl, h7'] at hlt
        have : c.toNat ≤ 1 := by omega
        have : (c.toNat + 1) * 9223372036854775808 ≤ 2 * 9223372036854775808 := Nat.mul_le_mul_right _ (by omega)
        omega
      · have h8 : (128 : Nat) ^ p.length ≤ 128 ^ 8 := Nat.pow_le_pow_right (by decide) (by omega)
        have h8' : (128 : Nat) ^ 8 = 72057594037927936 := by simp
        have : (c.toNat + 1) * 128 ^ p.length ≤ 128 * 72057594037927936 := Nat.mul_le_mul (by omega) (by omega)
        omega
    rw [Nat.mod_eq_of_lt hsmall]
    refine put_val p c hp hc ?_
    rcases p with _ | ⟨d, p⟩
    · exact .inl rfl
    · right
      simp only [List.length_cons] at h
      omega

/-- What is read, said of plain lists: of the i-th byte on. -/
def getM : Nat → Nat → List UInt8 → Int × Nat × Int
  | i, _, [] => if i < 10 then (0, 0, 3) else (0, 0, 4)
  | i, u, c :: r =>
    if i = 10 then (0, 0, 4)
    else if 128 ≤ c.toNat then getM (i + 1) (u + c.toNat % 128 * 128 ^ i) r
    else if (0 < i ∧ c.toNat = 0) ∨ (i = 9 ∧ 1 < c.toNat) then (0, 0, 4)
    else (zg ((u + c.toNat * 128 ^ i : Nat) : Int), i + 1, 0)

theorem andNot128 : ∀ x : Fin 256, (bits .andNot .u8 ((x.val : Nat) : Int) 128) = ((x.val % 128 : Nat) : Int) := by decide +kernel

theorem getF_M (bs : List UInt8) : ∀ (r i : Nat) (u : Nat), i + r = min bs.length 10 → u < 128 ^ i → getF bs r i u = getM i u (bs.drop i)
  | 0, i, u, h, hu => by
    by_cases hl : bs.length < 10
    · rw [List.drop_of_length_le (by omega)]
      simp only [getF, getM, hl, if_true, show i < 10 by omega]
    · have hi : i = 10 := by omega
      subst hi
      simp only [getF, hl, if_false]
      cases bs.drop 10 with
      | nil => simp [getM]
      | cons c q => simp [getM]
  | r + 1, i, u, h, hu => by
    have hil : i < bs.length := by omega
    have hi9 : i ≤ 9 := by omega
    rw [List.drop_eq_getElem_cons hil]
    have eg : bs.getD i 0 = bs[i] := by simp [hil]
    have hc := bs[i].toNat_lt
    have ea := andNot128 ⟨bs[i].toNat, by simpa using hc⟩
    simp only at ea
    have hP : (2 : Nat) ^ (7 * i) = 128 ^ i := by rw [Nat.pow_mul]
    have hle : (128 : Nat) ^ i ≤ 128 ^ 9 := Nat.pow_le_pow_right (by decide) hi9
    have h9' : (128 : Nat) ^ 9 = 9223372036854775808 := by simp
    have hm128 : bs[i].toNat % 128 < 128 := Nat.mod_lt _ (by decide)
    simp only [getF, getM, eg, ea, if_neg (show ¬ i = 10 by omega)]
    have hcast : ((bs[i].toNat % 128 : Nat) : Int) % 18446744073709551616 * 2 ^ (7 * i) % 18446744073709551616 = ((bs[i].toNat % 128 * 128 ^ i % 18446744073709551616 : Nat) : Int) := by
      have e0 : ((bs[i].toNat % 128 : Nat) : Int) % 18446744073709551616 = ((bs[i].toNat % 128 : Nat) : Int) := by omega
      have : (2 : Int) ^ (7 * i) = ((128 ^ i : Nat) : Int) := by rw [← hP]; simp
      rw [e0, this, ← Int.natCast_mul]
      generalize bs[i].toNat % 128 * 128 ^ i = x
      omega
    rw [hcast]
    by_cases hin : i ≤ 8 ∨ bs[i].toNat % 128 ≤ 1
    · have hmod : bs[i].toNat % 128 * 128 ^ i < 18446744073709551616 := by
        rcases hin with hin | hin
        · have h8 : (128 : Nat) ^ i ≤ 128 ^ 8 := Nat.pow_le_pow_right (by decide) hin
          have h8' : (128 : Nat) ^ 8 = 72057594037927936 := by simp
          have : bs[i].toNat % 128 * 128 ^ i ≤ 127 * 72057594037927936 := Nat.mul_le_mul (by omega) (by omega)
          omega
        · have : bs[i].toNat % 128 * 128 ^ i ≤ 1 * 9223372036854775808 := Nat.mul_le_mul hin (by omega)
          omega
      rw [Nat.mod_eq_of_lt hmod]
      have eor : bits .or .u64 (u : Int) ((bs[i].toNat % 128 * 128 ^ i : Nat) : Int) = ((u + bs[i].toNat % 128 * 128 ^ i : Nat) : Int) := by
        rw [u64_or _ _ (by omega) (by omega) (by omega) (by omega), Int.toNat_natCast, Int.toNat_natCast]
        have := nat_join (7 * i) (bs[i].toNat % 128 * 128 ^ i) u (by rw [hP]; exact Nat.mul_mod_left _ _) (by rw [hP]; exact hu)
        rw [Nat.or_comm, this]
        omega
      rw [eor]
      by_cases hge : 128 ≤ bs[i].toNat
      · rw [if_pos hge, if_pos hge]
        refine getF_M bs r (i + 1) _ (by omega) ?_
        rw [Nat.pow_succ]
        have : bs[i].toNat % 128 * 128 ^ i ≤ 127 * 128 ^ i := Nat.mul_le_mul_right _ (by omega)
        omega
      · rw [if_neg hge, if_neg hge, Nat.mod_eq_of_lt (show bs[i].toNat < 128 by omega)]
    · have hi : i = 9 := by omega
      have hr : r = 0 := by omega
      have hll : ¬ bs.length < 10 := by omega
      subst hr
      by_cases hge : 128 ≤ bs[i].toNat
      · rw [if_pos hge, if_pos hge]
        simp only [getF, hll, if_false, hi]
        cases bs.drop (9 + 1) with
        | nil => simp [getM]
        | cons c q => simp [getM]
      · rw [if_neg hge, if_neg hge]
        have : (0 < i ∧ bs[i].toNat = 0) ∨ (i = 9 ∧ 1 < bs[i].toNat) := .inr ⟨hi, by omega⟩
        rw [if_pos this, if_pos this]

theorem getL_M (bs : List UInt8) : getL bs = getM 0 0 bs := by
  unfold getL
  have := getF_M bs (min bs.length 10) 0 0 (by omega) (by simp)
  simpa using this

theorem getM_end : ∀ (p : List UInt8) (i u : Nat) (c : UInt8) (q : List UInt8), (∀ d ∈ p, 128 ≤ d.toNat) → c.toNat < 128 → i + p.length ≤ 9 →
    getM i u (p ++ c :: q) = if (0 < i + p.length ∧ c.toNat = 0) ∨ (i + p.length = 9 ∧ 1 < c.toNat) then (0, 0, 4) else (zg ((u + valU (p ++ [c]) * 128 ^ i : Nat) : Int), i + p.length + 1, 0)
  | [], i, u, c, q, hp, hc, h => by
    have h' : ¬ i = 10 := by simp at h; omega
    have e : valU ([] ++ [c]) = c.toNat := by simp only [List.nil_append, valU]; omega
    simp only [List.nil_append, getM, if_neg h', if_neg (show ¬ 128 ≤ c.toNat by omega), List.length_nil, Nat.add_zero]
    rw [List.nil_append] at e
    rw [e]
  | d :: p, i, u, c, q, hp, hc, h => by
    have hd := hp d (by simp)
    simp only [List.length_cons] at h
    simp only [List.cons_append, getM, if_neg (show ¬ i = 10 by omega), if_pos hd]
    rw [getM_end p (i + 1) _ c q (fun x hx => hp x (by simp [hx])) hc (by omega)]
    have e : i + 1 + p.length = i + (d :: p).length := by simp; omega
    rw [e]
    have e2 : u + d.toNat % 128 * 128 ^ i + valU (p ++ [c]) * 128 ^ (i + 1) = u + valU (d :: (p ++ [c])) * 128 ^ i := by
      simp only [valU, Nat.pow_succ, Nat.add_mul]
      rw [Nat.mul_comm (128 ^ i) 128, ← Nat.mul_assoc, Nat.mul_comm (valU (p ++ [c])) 128]
      omega
    rw [e2]

theorem getM_open : ∀ (p : List UInt8) (i u : Nat), (∀ d ∈ p, 128 ≤ d.toNat) → i ≤ 10 → getM i u p = if i + p.length < 10 then (0, 0, 3) else (0, 0, 4)
  | [], i, u, hp, h => by simp [getM]
  | d :: p, i, u, hp, h => by
    have hd := hp d (by simp)
    simp only [getM]
    by_cases h10 : i = 10
    · rw [if_pos h10, if_neg (by simp; omega)]
    · rw [if_neg h10, if_pos hd, getM_open p (i + 1) _ (fun x hx => hp x (by simp [hx])) (by omega)]
      have e : i + 1 + p.length = i + (d :: p).length := by simp; omega
      rw [e]

theorem getM_ten : ∀ (p : List UInt8) (i u : Nat) (q : List UInt8), (∀ d ∈ p, 128 ≤ d.toNat) → i + p.length = 10 → getM i u (p ++ q) = (0, 0, 4)
  | [], i, u, q, hp, h => by
    have : i = 10 := by simpa using h
    subst this
    cases q <;> simp [getM]
  | d :: p, i, u, q, hp, h => by
    have hd := hp d (by simp)
    simp only [List.length_cons] at h
    simp only [List.cons_append, getM, if_neg (show ¬ i = 10 by omega), if_pos hd]
    exact getM_ten p (i + 1) _ q (fun x hx => hp x (by simp [hx])) (by omega)

/-- What is put is read. -/
theorem getL_put (u : Nat) (hu : u < 18446744073709551616) (q : List UInt8) : getL (putU u ++ q) = (zg (u : Int), (putU u).length, 0) := by
  obtain ⟨p, c, e1, e2, e3, e4⟩ := put_shape u
  have hl := putU_length u hu
  have hv := val_put u
  have hs := e1
  rw [e1] at hl hv ⊢
  simp only [List.length_append, List.length_cons, List.length_nil] at hl
  rw [getL_M, List.append_assoc, List.singleton_append, getM_end p 0 0 c q e2 e3 (by omega)]
  have hc := (canon p c e2 e3 (by omega)).1 (by rw [hv, Nat.mod_eq_of_lt hu]; exact hs)
  simp only [Nat.zero_add] at hc ⊢
  rw [if_neg hc, hv]
  simp

theorem getL_cut (u : Nat) (hu : u < 18446744073709551616) : getL ((putU u).take ((putU u).length - 1)) = (0, 0, 3) := by
  obtain ⟨p, c, e1, e2, e3, e4⟩ := put_shape u
  have hl := putU_length u hu
  rw [e1] at hl ⊢
  simp only [List.length_append, List.length_cons, List.length_nil] at hl
  have : (p ++ [c]).take ((p ++ [c]).length - 1) = p := by simp
  rw [this, getL_M, getM_open p 0 0 e2 (by omega), if_pos (by omega)]

theorem zg_zz (n : Int) : zg (zz n) = n := by
  unfold zg zz
  repeat' split
  all_goals omega

end Go.Proofs.Ytlbdhkgjhjcgiaa
