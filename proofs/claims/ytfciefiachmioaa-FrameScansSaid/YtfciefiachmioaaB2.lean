/- Layer 1: the laws of what is put. -/
import Derived.Test.YtfciefiachmioaaB1
namespace Go.Proofs.Ytfciefiachmioaa
open Ax
set_option linter.unusedSimpArgs false
set_option linter.unusedVariables false

def putsS : FSpec
  | [.w (.int k n), .w (.int k' u), .w (.int k'' wd)], [] => ⟨k = .i64 ∧ k' = .u64 ∧ k'' = .i64 ∧ (-9223372036854775808 ≤ n ∧ n ≤ 9223372036854775807) ∧ 0 ≤ u ∧ u < 18446744073709551616, .w (.bool true), []⟩
  | _, _ => noRes
def S4 (f : FuncId) : Option FSpec :=
  match f with
  | 63 => some putS
  | 49 => some fixS
  | 52 => some fixS
  | _ => none
theorem S4_ok : Fns Try.prog S4 := by
  intro f s h
  unfold S4 at h
  split at h
  · injection h with h; subst h; exact ⟨⟨_, Try.func63, by kernel_rfl, by kernel_rfl⟩, put_sound⟩
  · injection h with h; subst h; exact ⟨⟨_, Try.func49, by kernel_rfl, by kernel_rfl⟩, fixed_sound⟩
  · injection h with h; subst h; exact ⟨⟨_, Try.func52, by kernel_rfl, by kernel_rfl⟩, rfixed_sound⟩
  · cases h

section
set_option maxRecDepth 100000
end

theorem unf_fix (U : Nat) : ∀ (w : Nat) (x : Nat), unfL (fixL U w) x = x * 256 ^ w + U % 256 ^ w
  | 0, x => by simp [unfL, fixL, Nat.mod_one]
  | w + 1, x => by
    have ih := unf_fix U w (x * 256 + U / 256 ^ w % 256)
    have hb : (UInt8.ofNat (U / 256 ^ w % 256)).toNat = U / 256 ^ w % 256 := by rw [UInt8.toNat_ofNat']; omega
    have e : unfL (fixL U (w + 1)) x = unfL (fixL U w) (x * 256 + U / 256 ^ w % 256) := by
      simp only [unfL, fixL, List.foldl_cons, hb]
    rw [e, ih, Nat.pow_succ, Nat.mod_mul, Nat.add_mul, Nat.mul_assoc, Nat.mul_comm 256 (256 ^ w)]
    have : U / 256 ^ w % 256 * 256 ^ w = 256 ^ w * (U / 256 ^ w % 256) := Nat.mul_comm _ _
    omega
theorem last8_fix (U w : Nat) (h : w ≤ 8) : last8 (fixL U w) = fixL U w := by
  unfold last8; rw [fixL_length, show w - 8 = 0 by omega, List.drop_zero]
theorem fix_mod (U : Nat) : ∀ (k w : Nat), fixL (U % 256 ^ (w + k)) w = fixL U w
  | k, 0 => rfl
  | k, w + 1 => by
    simp only [fixL]
    have h1 := fix_mod U (k + 1) w
    rw [show w + (k + 1) = w + 1 + k by omega] at h1
    rw [h1]
    have h2 : U % 256 ^ (w + 1 + k) / 256 ^ w % 256 = U / 256 ^ w % 256 := by
      rw [show w + 1 + k = w + (1 + k) by omega, Nat.pow_add, Nat.mod_mul_right_div_self, Nat.pow_add, Nat.pow_one, Nat.mod_mul_right_mod]
    rw [h2]
theorem clamp_nat (w : Nat) (h : w ≤ 8) : clampI w = w := by
  unfold clampI
  repeat' split
  all_goals omega
theorem pow256 (w : Nat) (h : w < 8) : (1 : Int) * 2 ^ (8 * w) % 18446744073709551616 = ((256 ^ w : Nat) : Int) := by
  have : (2 : Int) ^ (8 * w) = ((256 ^ w : Nat) : Int) := by
    rw [show 256 = 2 ^ 8 from rfl, ← Nat.pow_mul]; simp
  rw [this]
  have h7 : (256 : Nat) ^ w ≤ 256 ^ 7 := Nat.pow_le_pow_right (by decide) (by omega)
  have h7' : (256 : Nat) ^ 7 = 72057594037927936 := by simp
  generalize 256 ^ w = p at *
  omega

def widthS : FSpec
  | [.w (.int k u), .w (.int k' wd)], [] => ⟨k = .u64 ∧ k' = .u8 ∧ (0 ≤ u ∧ u < 18446744073709551616) ∧ 0 ≤ wd ∧ wd < 256, .w (.bool true), []⟩
  | _, _ => noRes
def S8 (f : FuncId) : Option FSpec :=
  match f with
  | 49 => some fixS
  | 57 => some unfS
  | _ => none
theorem S8_ok : Fns Try.prog S8 := by
  intro f s h
  unfold S8 at h
  split at h
  · injection h with h; subst h; exact ⟨⟨_, Try.func49, by kernel_rfl, by kernel_rfl⟩, fixed_sound⟩
  · injection h with h; subst h; exact ⟨⟨_, Try.func57, by kernel_rfl, by kernel_rfl⟩, unfixed_sound⟩
  · cases h
section
set_option maxRecDepth 100000
end
end Go.Proofs.Ytfciefiachmioaa
