/- Layer 2: the register, xs plain bits. -/
import Derived.Test.YthodcljimjglcaaG1
namespace Go.Proofs.Ythodcljimjglcaa
open Ax
set_option linter.unusedSimpArgs false
set_option linter.unusedVariables false

theorem xor_lc (r s t : BitVec 64) : r ^^^ (s ^^^ t) = s ^^^ (r ^^^ t) := by rw [← BitVec.xor_assoc, ← BitVec.xor_assoc, BitVec.xor_comm r s]
theorem xor_sc (r s : BitVec 64) : r ^^^ (r ^^^ s) = s := by rw [← BitVec.xor_assoc, BitVec.xor_self, BitVec.zero_xor]
def poly : BitVec 64 := 14514072000185962306#64
def bitS (r : BitVec 64) : BitVec 64 := (r >>> 1) ^^^ (bif r.getLsbD 0 then poly else 0#64)
def bitN : Nat → BitVec 64 → BitVec 64
  | 0, r => r
  | k + 1, r => bitN k (bitS r)
def byteS (r : BitVec 64) (c : UInt8) : BitVec 64 := bitN 8 (r ^^^ BitVec.ofNat 64 c.toNat)
def regL (r : BitVec 64) (bs : List UInt8) : BitVec 64 := bs.foldl byteS r
def ones : BitVec 64 := BitVec.allOnes 64
def crcL (bs : List UInt8) : BitVec 64 := ones ^^^ regL ones bs

theorem bitN_succ : ∀ (k : Nat) (r : BitVec 64), bitN (k + 1) r = bitS (bitN k r)
  | 0, r => rfl
  | k + 1, r => by rw [bitN, bitN_succ k]; rfl

theorem bitS_xor (r s : BitVec 64) : bitS (r ^^^ s) = bitS r ^^^ bitS s := by
  unfold bitS
  rw [BitVec.ushiftRight_xor_distrib, BitVec.getLsbD_xor]
  cases r.getLsbD 0 <;> cases s.getLsbD 0 <;> simp [BitVec.xor_assoc, BitVec.xor_comm, xor_lc, xor_sc]

theorem bitN_xor : ∀ (k : Nat) (r s : BitVec 64), bitN k (r ^^^ s) = bitN k r ^^^ bitN k s
  | 0, _, _ => rfl
  | k + 1, r, s => by simp only [bitN]; rw [bitS_xor, bitN_xor k]

theorem bitS_zero : bitS 0#64 = 0#64 := by decide
theorem bitN_zero : ∀ k, bitN k 0#64 = 0#64
  | 0 => rfl
  | k + 1 => by simp only [bitN]; rw [bitS_zero, bitN_zero k]

theorem bitS_inj0 (r : BitVec 64) (h : bitS r = 0#64) : r = 0#64 := by
  have hp : poly.getLsbD 63 = true := by decide
  have h63 : (bitS r).getLsbD 63 = r.getLsbD 0 := by
    unfold bitS
    rw [BitVec.getLsbD_xor, BitVec.getLsbD_ushiftRight]
    cases hb : r.getLsbD 0 with
    | true => simp [hp]
    | false => simp
  have h0 : r.getLsbD 0 = false := by rw [← h63, h]; simp
  have hs : r >>> 1 = 0#64 := by
    unfold bitS at h
    rw [h0] at h
    simpa using h
  refine BitVec.eq_of_getLsbD_eq fun i hi => ?_
  cases i with
  | zero => rw [h0]; simp
  | succ i =>
    have := congrArg (fun x => BitVec.getLsbD x i) hs
    simp only [BitVec.getLsbD_ushiftRight] at this
    rw [Nat.add_comm i 1, this]
    simp

theorem bitN_inj0 : ∀ (k : Nat) (r : BitVec 64), bitN k r = 0#64 → r = 0#64
  | 0, _, h => h
  | k + 1, r, h => bitS_inj0 r (bitN_inj0 k _ h)

theorem xor_eq_zero (r s : BitVec 64) : r ^^^ s = 0#64 ↔ r = s := by
  constructor
  · intro h
    have : r ^^^ s ^^^ s = 0#64 ^^^ s := by rw [h]
    rw [BitVec.xor_assoc] at this
    simpa using this
  · rintro rfl; simp

theorem bitN_inj (k : Nat) (r s : BitVec 64) (h : bitN k r = bitN k s) : r = s := by
  refine (xor_eq_zero r s).1 (bitN_inj0 k _ ?_)
  rw [bitN_xor, h]; simp

theorem byteS_inj (r s : BitVec 64) (c : UInt8) (h : byteS r c = byteS s c) : r = s := by
  have := bitN_inj 8 _ _ h
  have h2 : r ^^^ BitVec.ofNat 64 c.toNat ^^^ BitVec.ofNat 64 c.toNat = s ^^^ BitVec.ofNat 64 c.toNat ^^^ BitVec.ofNat 64 c.toNat := by rw [this]
  rw [BitVec.xor_assoc, BitVec.xor_assoc] at h2
  simpa using h2

theorem byteS_inj2 (r : BitVec 64) (c d : UInt8) (h : byteS r c = byteS r d) : c = d := by
  have := bitN_inj 8 _ _ h
  have h2 : r ^^^ (r ^^^ BitVec.ofNat 64 c.toNat) = r ^^^ (r ^^^ BitVec.ofNat 64 d.toNat) := by rw [this]
  rw [← BitVec.xor_assoc, ← BitVec.xor_assoc] at h2
  simp only [BitVec.xor_self, BitVec.zero_xor] at h2
  have h3 := congrArg BitVec.toNat h2
  have hc := c.toNat_lt
  have hd := d.toNat_lt
  simp only [BitVec.toNat_ofNat] at h3
  exact UInt8.toNat_inj.1 (by omega)

theorem regL_inj : ∀ (bs : List UInt8) (r s : BitVec 64), regL r bs = regL s bs → r = s
  | [], _, _, h => h
  | c :: bs, r, s, h => byteS_inj _ _ c (regL_inj bs _ _ h)

theorem regL_append (r : BitVec 64) (xs ys : List UInt8) : regL r (xs ++ ys) = regL (regL r xs) ys := List.foldl_append

/-- One byte changed: another sum. -/
theorem crcL_turned (p q : List UInt8) (c d : UInt8) (h : c ≠ d) : crcL (p ++ c :: q) ≠ crcL (p ++ d :: q) := by
  intro e
  have e2 : ones ^^^ (ones ^^^ regL ones (p ++ c :: q)) = ones ^^^ (ones ^^^ regL ones (p ++ d :: q)) := congrArg (ones ^^^ ·) e
  rw [← BitVec.xor_assoc, ← BitVec.xor_assoc] at e2
  simp only [BitVec.xor_self, BitVec.zero_xor, regL_append] at e2
  exact h (byteS_inj2 _ c d (regL_inj q _ _ e2))

theorem crcL_more (xs ys : List UInt8) : crcL (xs ++ ys) = ones ^^^ regL (ones ^^^ crcL xs) ys := by
  unfold crcL
  rw [← BitVec.xor_assoc, regL_append]
  simp

def xorL : List UInt8 → List UInt8 → List UInt8
  | a :: xs, b :: bs => (a ^^^ b) :: xorL xs bs
  | _, _ => []

theorem byteS_xor (r s : BitVec 64) (c d : UInt8) : byteS (r ^^^ s) (c ^^^ d) = byteS r c ^^^ byteS s d := by
  unfold byteS
  rw [← bitN_xor]
  congr 1
  have : BitVec.ofNat 64 (c ^^^ d).toNat = BitVec.ofNat 64 c.toNat ^^^ BitVec.ofNat 64 d.toNat := by
    rw [UInt8.toNat_xor, BitVec.ofNat_xor]
  rw [this]
  simp only [BitVec.xor_assoc, xor_lc, xor_sc]

theorem regL_xor : ∀ (xs bs : List UInt8) (r s : BitVec 64), xs.length = bs.length → regL (r ^^^ s) (xorL xs bs) = regL r xs ^^^ regL s bs
  | [], [], r, s, _ => rfl
  | a :: xs, b :: bs, r, s, h => by
    simp only [regL, xorL, List.foldl_cons]
    rw [byteS_xor]
    exact regL_xor xs bs _ _ (by simpa using h)
  | [], _ :: _, _, _, h => by simp at h
  | _ :: _, [], _, _, h => by simp at h

theorem xorL_length : ∀ (xs bs : List UInt8), xs.length = bs.length → (xorL xs bs).length = xs.length
  | [], [], _ => rfl
  | a :: xs, b :: bs, h => by simp only [xorL, List.length_cons]; rw [xorL_length xs bs (by simpa using h)]
  | [], _ :: _, h => by simp at h
  | _ :: _, [], h => by simp at h

theorem xorL_zeros : ∀ (xs : List UInt8), xorL xs (List.replicate xs.length 0) = xs
  | [] => rfl
  | a :: xs => by
    simp only [List.length_cons, List.replicate_succ, xorL]
    rw [xorL_zeros xs]
    simp

theorem crcL_linear (xs bs : List UInt8) (h : xs.length = bs.length) : crcL (xorL xs bs) = crcL xs ^^^ crcL bs ^^^ crcL (List.replicate xs.length 0) := by
  unfold crcL
  have h1 := regL_xor (xorL xs bs) (List.replicate xs.length 0) (ones ^^^ ones) ones (by rw [xorL_length xs bs h]; simp)
  have h2 := regL_xor xs bs ones ones h
  have h3 := xorL_zeros (xorL xs bs)
  rw [xorL_length xs bs h] at h3
  rw [h3, h2] at h1
  have h4 : ones ^^^ ones ^^^ ones = ones := by rw [BitVec.xor_self, BitVec.zero_xor]
  rw [h4] at h1
  rw [h1]
  simp only [BitVec.xor_assoc, xor_lc, xor_sc, BitVec.xor_self, BitVec.xor_zero]

/-! The register among integers. -/
def ri (r : BitVec 64) : Int := (r.toNat : Int)
theorem ri_range (r : BitVec 64) : 0 ≤ ri r ∧ ri r < 18446744073709551616 := by unfold ri; have := r.isLt; omega
theorem ri_inj {r s : BitVec 64} : ri r = ri s ↔ r = s := by
  unfold ri
  constructor
  · intro h; exact BitVec.eq_of_toNat_eq (by omega)
  · rintro rfl; rfl
theorem ofInt_ri (r : BitVec 64) : BitVec.ofInt 64 (ri r) = r := by unfold ri; simp
theorem ri_ofInt (n : Int) (h : 0 ≤ n) (h' : n < 18446744073709551616) : ri (BitVec.ofInt 64 n) = n := by
  unfold ri; rw [BitVec.toNat_ofInt]; omega
theorem ri_of (n : Int) (h : 0 ≤ n) (h' : n < 18446744073709551616) : ∃ r, n = ri r := ⟨_, (ri_ofInt n h h').symm⟩
theorem wrap_nat (r : BitVec 64) : IntKind.u64.wrap ((r.toNat : Nat) : Int) = ri r := by
  unfold ri; rw [IntKind.wrap_u64]; have := r.isLt; omega
theorem bits_xor (r s : BitVec 64) : bits .xor .u64 (ri r) (ri s) = ri (r ^^^ s) := by
  show IntKind.u64.wrap ((BitVec.ofInt 64 (ri r) ^^^ BitVec.ofInt 64 (ri s)).toNat : Int) = _
  rw [ofInt_ri, ofInt_ri, wrap_nat]
theorem bits_and (r s : BitVec 64) : bits .and .u64 (ri r) (ri s) = ri (r &&& s) := by
  show IntKind.u64.wrap ((BitVec.ofInt 64 (ri r) &&& BitVec.ofInt 64 (ri s)).toNat : Int) = _
  rw [ofInt_ri, ofInt_ri, wrap_nat]
theorem ri_byte (c : UInt8) : (c.toNat : Int) % 18446744073709551616 = ri (BitVec.ofNat 64 c.toNat) := by
  unfold ri; rw [BitVec.toNat_ofNat]; have := c.toNat_lt; omega
theorem ri_ones : (18446744073709551615 : Int) = ri ones := by decide
theorem ri_poly : (14514072000185962306 : Int) = ri poly := by decide
theorem ri_shr (r : BitVec 64) : (ri r / (2 : Int) : Int) = ri (r >>> (1 : Nat)) := by
  unfold ri; rw [BitVec.toNat_ushiftRight, Nat.shiftRight_eq_div_pow]; omega
theorem ri_low (r : BitVec 64) : ri r % 2 = if r.getLsbD 0 then 1 else 0 := by
  unfold ri
  have h : r.getLsbD 0 = decide (r.toNat % 2 = 1) := by
    rw [BitVec.getLsbD, Nat.testBit_zero]
  rw [h]
  by_cases hh : r.toNat % 2 = 1
  · simp only [hh, decide_true, if_true]; omega
  · simp only [hh, decide_false, Bool.false_eq_true, if_false]; omega
theorem ri_zero : (0 : Int) = ri 0#64 := by decide

end Go.Proofs.Ythodcljimjglcaa
