/- Layer 8: what is read of a meta's bytes. -/
import Derived.Test.YtlbdhkgjhjcgiaaE5
import Derived.Test.YtlbdhkgjhjcgiaaA9t
import Derived.Test.YtlbdhkgjhjcgiaaA8
namespace Go.Proofs.Ytlbdhkgjhjcgiaa
open Ax
set_option linter.unusedSimpArgs false
set_option linter.unusedVariables false

theorem num_put8 (n : Int) (h1 : -9223372036854775808 ≤ n) (h2 : n ≤ 9223372036854775807) (r : List UInt8) :
    numN (pz n ++ r) 0 = n ∧ numL (pz n ++ r) 0 = r ∧ numE (pz n ++ r) 0 = 0 := by
  unfold pz
  have hz := zz_range n h1 h2
  have hg := getL_put (zz n).toNat (by omega) r
  have hc : (((zz n).toNat : Nat) : Int) = zz n := by omega
  rw [hc, zg_zz] at hg
  unfold numN numL numE
  rw [if_pos rfl, if_pos rfl, if_pos rfl, hg]
  exact ⟨rfl, by simp, rfl⟩
theorem zz_len8 (n : Nat) : (zz (n : Int)).toNat = 2 * n := by unfold zz; rw [if_pos (by omega)]; omega
theorem text_put8 (m : Int) (s r : List UInt8) (hm : (s.length : Int) ≤ m) (hs : s.length ≤ 1000000) :
    rtS' m (textL s ++ r) 0 = s ∧ rtL m (textL s ++ r) 0 = r ∧ rtE m (textL s ++ r) 0 = 0 := by
  obtain ⟨h1, h2, h3⟩ := num_put8 (s.length : Int) (by omega) (by omega) (s ++ r)
  unfold pz at h1 h2 h3
  rw [zz_len8] at h1 h2 h3
  have e : textL s ++ r = putU (2 * s.length) ++ (s ++ r) := by unfold textL; rw [List.append_assoc]
  have hok : rtOk m (textL s ++ r) 0 := by unfold rtOk; rw [e, h1, h3]; omega
  have hl : ¬ (((s ++ r).length : Int) < (s.length : Int)) := by simp; omega
  unfold rtS' rtL rtE
  rw [if_pos hok, if_pos hok, if_pos hok, e, h1, h2, h3]
  unfold tkB tkL tkE
  rw [if_neg hl, if_neg hl, if_neg hl]
  simp
theorem fix1_put8 (x : UInt8) (r : List UInt8) : rfixN 1 (x :: r) 0 = (x.toNat : Int) ∧ rfixL 1 (x :: r) 0 = r ∧ rfixE 1 (x :: r) 0 = 0 := by
  have hc : clampI 1 = 1 := by decide
  have hl : ¬ (((x :: r).length : Int) < 1) := by simp; omega
  unfold rfixN rfixL rfixE
  rw [hc, if_pos rfl, if_pos rfl, if_pos rfl]
  unfold tkB tkL tkE
  rw [if_neg hl, if_neg hl, if_neg hl]
  refine ⟨?_, by simp, rfl⟩
  simp [last8, unfL]
/-- The reader's state behind a number. -/
def rst (q : List UInt8 × Int) : List UInt8 × Int := (numL q.1 q.2, numE q.1 q.2)
def rnu (q : List UInt8 × Int) : Int := numN q.1 q.2
def rq0 (b : List UInt8) : List UInt8 × Int := (rfixL 1 b 0, rfixE 1 b 0)
def rq1 (b : List UInt8) : List UInt8 × Int := rst (rq0 b)
def rq2 (b : List UInt8) : List UInt8 × Int := rst (rq1 b)
def rq3 (b : List UInt8) : List UInt8 × Int := rst (rq2 b)
def rq4 (b : List UInt8) : List UInt8 × Int := rst (rq3 b)
def rq5 (b : List UInt8) : List UInt8 × Int := rst (rq4 b)
def rK (b : List UInt8) : Int := rfixN 1 b 0 % 256
def rdM (b : List UInt8) : Mt :=
  if rK b = 0 then ⟨0, rnu (rq0 b), 0, rtS' 32 (rq3 b).1 (rq3 b).2, rnu (rq1 b), decide (rnu (rq2 b) = 1), 0, 0, 0⟩
  else if rK b = 1 then ⟨1, rnu (rq0 b), 0, [], 0, false, 0, 0, 0⟩
  else if rK b = 6 then ⟨6, rnu (rq0 b), 0, [], 0, false, 0, 0, 0⟩
  else if rK b = 2 then ⟨2, rnu (rq0 b), rnu (rq1 b), [], 0, false, rnu (rq2 b), rnu (rq3 b), 0⟩
  else if rK b = 3 then ⟨3, rnu (rq0 b), rnu (rq1 b), [], 0, false, rnu (rq2 b), 0, 0⟩
  else if rK b = 4 then ⟨4, rnu (rq0 b), rnu (rq1 b), [], 0, false, rnu (rq3 b), rnu (rq4 b), rnu (rq2 b)⟩
  else if rK b = 5 then ⟨5, rnu (rq0 b), rnu (rq1 b), [], 0, false, 0, rnu (rq2 b), 0⟩
  else ⟨rK b, 0, 0, [], 0, false, 0, 0, 0⟩
def rdQ (b : List UInt8) : List UInt8 × Int :=
  if rK b = 0 then (rtL 32 (rq3 b).1 (rq3 b).2, rtE 32 (rq3 b).1 (rq3 b).2)
  else if rK b = 1 then rq1 b
  else if rK b = 6 then rq1 b
  else if rK b = 2 then rq4 b
  else if rK b = 3 then rq3 b
  else if rK b = 4 then rq5 b
  else if rK b = 5 then rq3 b
  else rq0 b
theorem rst_put (n : Int) (h : -9223372036854775808 ≤ n ∧ n ≤ 9223372036854775807) (r : List UInt8) : rst (pz n ++ r, 0) = (r, 0) ∧ rnu (pz n ++ r, 0) = n := by
  obtain ⟨h1, h2, h3⟩ := num_put8 n h.1 h.2 r
  unfold rst rnu
  simp only
  rw [h1, h2, h3]; exact ⟨rfl, rfl⟩
theorem rq0_put (x : UInt8) (r : List UInt8) : rq0 (x :: r) = (r, 0) ∧ rK (x :: r) = x.toNat := by
  obtain ⟨h1, h2, h3⟩ := fix1_put8 x r
  have := x.toNat_lt
  unfold rq0 rK
  rw [h1, h2, h3]
  exact ⟨rfl, by omega⟩
theorem rd_lay (m : Mt) (h : chkM m = 0) (hk0 : 0 ≤ m.k) (r : List UInt8) : rdM (layM m ++ r) = m ∧ rdQ (layM m ++ r) = (r, 0) := by
  obtain ⟨h1, h2, h3, h4⟩ := chk_ok h
  obtain ⟨k, t, i, nm, p, cp, z, b, c⟩ := m
  obtain ⟨hk6, ht, hi, hz, hb, hcc, hk⟩ := chk_rng h
  have r1 : -9223372036854775808 ≤ t ∧ t ≤ 9223372036854775807 := by omega
  have r2 : -9223372036854775808 ≤ i ∧ i ≤ 9223372036854775807 := by omega
  have r3 : -9223372036854775808 ≤ z ∧ z ≤ 9223372036854775807 := by omega
  have r4 : -9223372036854775808 ≤ b ∧ b ≤ 9223372036854775807 := by omega
  have r5 : -9223372036854775808 ≤ c ∧ c ≤ 9223372036854775807 := by omega
  simp only at hk0 h1
  rw [← eqM_iff] at h2
  unfold onlyM eqM at h2
  simp only at h2
  obtain ⟨-, -, e2, e3, e4, e5, e6, e7, e8⟩ := h2
  rcases kind_le k ⟨hk0, hk6⟩ with rfl | rfl | rfl | rfl | rfl | rfl | rfl
  · obtain ⟨hp1, hp2, hn1, hn2, hn3⟩ := hk rfl
    have r6 : -9223372036854775808 ≤ p ∧ p ≤ 9223372036854775807 := by omega
    have r7 : -9223372036854775808 ≤ cpN ⟨0, t, i, nm, p, cp, z, b, c⟩ ∧ cpN ⟨0, t, i, nm, p, cp, z, b, c⟩ ≤ 9223372036854775807 := by cases cp <;> simp [cpN]
    have hQ : decide (cpN ⟨0, t, i, nm, p, cp, z, b, c⟩ = 1) = cp := by cases cp <;> simp [cpN]
    have hL : layM ⟨0, t, i, nm, p, cp, z, b, c⟩ ++ r = UInt8.ofNat 0 :: (pz t ++ (pz p ++ (pz (cpN ⟨0, t, i, nm, p, cp, z, b, c⟩) ++ (textL nm ++ r)))) := by
      simp [layM, numsM]
    generalize cpN ⟨0, t, i, nm, p, cp, z, b, c⟩ = Q at *
    rw [hL]
    obtain ⟨q0, k0⟩ := rq0_put (UInt8.ofNat 0) (pz t ++ (pz p ++ (pz Q ++ (textL nm ++ r))))
    obtain ⟨q1, n1⟩ := rst_put t r1 (pz p ++ (pz Q ++ (textL nm ++ r)))
    obtain ⟨q2, n2⟩ := rst_put p r6 (pz Q ++ (textL nm ++ r))
    obtain ⟨q3, n3⟩ := rst_put Q r7 (textL nm ++ r)
    obtain ⟨t1, t2, t3⟩ := text_put8 32 nm r (by omega) (by omega)
    have k0 : rK (UInt8.ofNat 0 :: (pz t ++ (pz p ++ (pz Q ++ (textL nm ++ r))))) = 0 := k0
    unfold rdM rdQ rq3 rq2 rq1
    rw [k0, q0, q1, q2, q3, n1, n2, n3]
    simp at e2 e6 e7 e8
    simp only [if_true, t1, t2, t3, hQ]
    simp [← e2, ← e6, ← e7, ← e8]
  · have hL : layM ⟨1, t, i, nm, p, cp, z, b, c⟩ ++ r = UInt8.ofNat 1 :: (pz t ++ r) := by
      simp [layM, numsM]
    rw [hL]
    obtain ⟨q0, k0⟩ := rq0_put (UInt8.ofNat 1) (pz t ++ r)
    obtain ⟨q1, n1⟩ := rst_put t r1 (r)
    have k0 : rK (UInt8.ofNat 1 :: (pz t ++ r)) = 1 := k0
    unfold rdM rdQ
    rw [k0]
    simp only [Int.reduceEq, if_true, if_false]
    unfold rq1
    simp only [q0, q1, n1]
    simp at e2 e3 e4 e5 e6 e7 e8
    simp [← e2, ← e3, ← e4, ← e5, ← e6, ← e7, ← e8]
  · have hL : layM ⟨2, t, i, nm, p, cp, z, b, c⟩ ++ r = UInt8.ofNat 2 :: (pz t ++ (pz i ++ (pz z ++ (pz b ++ r)))) := by
      simp [layM, numsM]
    rw [hL]
    obtain ⟨q0, k0⟩ := rq0_put (UInt8.ofNat 2) (pz t ++ (pz i ++ (pz z ++ (pz b ++ r))))
    obtain ⟨q1, n1⟩ := rst_put t r1 (pz i ++ (pz z ++ (pz b ++ r)))
    obtain ⟨q2, n2⟩ := rst_put i r2 (pz z ++ (pz b ++ r))
    obtain ⟨q3, n3⟩ := rst_put z r3 (pz b ++ r)
    obtain ⟨q4, n4⟩ := rst_put b r4 (r)
    have k0 : rK (UInt8.ofNat 2 :: (pz t ++ (pz i ++ (pz z ++ (pz b ++ r))))) = 2 := k0
    unfold rdM rdQ
    rw [k0]
    simp only [Int.reduceEq, if_true, if_false]
    unfold rq4 rq3 rq2 rq1
    simp only [q0, q1, q2, q3, q4, n1, n2, n3, n4]
    simp at e3 e4 e5 e8
    simp [← e3, ← e4, ← e5, ← e8]
  · have hL : layM ⟨3, t, i, nm, p, cp, z, b, c⟩ ++ r = UInt8.ofNat 3 :: (pz t ++ (pz i ++ (pz z ++ r))) := by
      simp [layM, numsM]
    rw [hL]
    obtain ⟨q0, k0⟩ := rq0_put (UInt8.ofNat 3) (pz t ++ (pz i ++ (pz z ++ r)))
    obtain ⟨q1, n1⟩ := rst_put t r1 (pz i ++ (pz z ++ r))
    obtain ⟨q2, n2⟩ := rst_put i r2 (pz z ++ r)
    obtain ⟨q3, n3⟩ := rst_put z r3 (r)
    have k0 : rK (UInt8.ofNat 3 :: (pz t ++ (pz i ++ (pz z ++ r)))) = 3 := k0
    unfold rdM rdQ
    rw [k0]
    simp only [Int.reduceEq, if_true, if_false]
    unfold rq3 rq2 rq1
    simp only [q0, q1, q2, q3, n1, n2, n3]
    simp at e3 e4 e5 e7 e8
    simp [← e3, ← e4, ← e5, ← e7, ← e8]
  · have hL : layM ⟨4, t, i, nm, p, cp, z, b, c⟩ ++ r = UInt8.ofNat 4 :: (pz t ++ (pz i ++ (pz c ++ (pz z ++ (pz b ++ r))))) := by
      simp [layM, numsM]
    rw [hL]
    obtain ⟨q0, k0⟩ := rq0_put (UInt8.ofNat 4) (pz t ++ (pz i ++ (pz c ++ (pz z ++ (pz b ++ r)))))
    obtain ⟨q1, n1⟩ := rst_put t r1 (pz i ++ (pz c ++ (pz z ++ (pz b ++ r))))
    obtain ⟨q2, n2⟩ := rst_put i r2 (pz c ++ (pz z ++ (pz b ++ r)))
    obtain ⟨q3, n3⟩ := rst_put c r5 (pz z ++ (pz b ++ r))
    obtain ⟨q4, n4⟩ := rst_put z r3 (pz b ++ r)
    obtain ⟨q5, n5⟩ := rst_put b r4 (r)
    have k0 : rK (UInt8.ofNat 4 :: (pz t ++ (pz i ++ (pz c ++ (pz z ++ (pz b ++ r)))))) = 4 := k0
    unfold rdM rdQ
    rw [k0]
    simp only [Int.reduceEq, if_true, if_false]
    unfold rq5 rq4 rq3 rq2 rq1
    simp only [q0, q1, q2, q3, q4, q5, n1, n2, n3, n4, n5]
    simp at e3 e4 e5
    simp [← e3, ← e4, ← e5]
  · have hL : layM ⟨5, t, i, nm, p, cp, z, b, c⟩ ++ r = UInt8.ofNat 5 :: (pz t ++ (pz i ++ (pz b ++ r))) := by
      simp [layM, numsM]
    rw [hL]
    obtain ⟨q0, k0⟩ := rq0_put (UInt8.ofNat 5) (pz t ++ (pz i ++ (pz b ++ r)))
    obtain ⟨q1, n1⟩ := rst_put t r1 (pz i ++ (pz b ++ r))
    obtain ⟨q2, n2⟩ := rst_put i r2 (pz b ++ r)
    obtain ⟨q3, n3⟩ := rst_put b r4 (r)
    have k0 : rK (UInt8.ofNat 5 :: (pz t ++ (pz i ++ (pz b ++ r)))) = 5 := k0
    unfold rdM rdQ
    rw [k0]
    simp only [Int.reduceEq, if_true, if_false]
    unfold rq3 rq2 rq1
    simp only [q0, q1, q2, q3, n1, n2, n3]
    simp at e3 e4 e5 e6 e8
    simp [← e3, ← e4, ← e5, ← e6, ← e8]
  · have hL : layM ⟨6, t, i, nm, p, cp, z, b, c⟩ ++ r = UInt8.ofNat 6 :: (pz t ++ r) := by
      simp [layM, numsM]
    rw [hL]
    obtain ⟨q0, k0⟩ := rq0_put (UInt8.ofNat 6) (pz t ++ r)
    obtain ⟨q1, n1⟩ := rst_put t r1 (r)
    have k0 : rK (UInt8.ofNat 6 :: (pz t ++ r)) = 6 := k0
    unfold rdM rdQ
    rw [k0]
    simp only [Int.reduceEq, if_true, if_false]
    unfold rq1
    simp only [q0, q1, n1]
    simp at e2 e3 e4 e5 e6 e7 e8
    simp [← e2, ← e3, ← e4, ← e5, ← e6, ← e7, ← e8]
end Go.Proofs.Ytlbdhkgjhjcgiaa
