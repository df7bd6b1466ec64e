/- Layer 5: the laws. -/
import Derived.Test.YtfciefiachmioaaK6
namespace Go.Proofs.Ytfciefiachmioaa
open Ax
set_option linter.unusedSimpArgs false
set_option linter.unusedVariables false
def bsealsS : FSpec
  | [.w (.int .u8 k), .sb b _, .sb raw _], [] => ⟨0 ≤ k ∧ k < 256, .w (.bool true), []⟩
  | _, _ => noRes
def blaysS : FSpec
  | [.sb b _, .w (.int .i64 n)], [] => ⟨True, .w (.bool true), []⟩
  | _, _ => noRes
def bjoinsS : FSpec
  | [.sg 1 xs _], [] => ⟨xs.length ≤ 9223372036854775807 ∧ ∃ ps : List (List UInt8 × Bool), xs = ps.map sbp, .w (.bool true), []⟩
  | _, _ => noRes
def bbackS : FSpec
  | [.sb b _, .sb c _], [] => ⟨True, .w (.bool true), []⟩
  | _, _ => noRes
def btornS : FSpec
  | [.w (.int .u8 k), .sb b _, .w (.int .u8 t)], [] => ⟨(0 ≤ k ∧ k < 256) ∧ 0 ≤ t ∧ t < 256, .w (.bool true), []⟩
  | _, _ => noRes
def Slaw5 (f : FuncId) : Option FSpec :=
  match f with
  | 71 => some bsealS
  | 74 => some bsealS
  | 76 => some bopenS
  | 77 => some bopenM
  | 48 => some blayS
  | 51 => some blayS
  | 56 => some bjoinS
  | 59 => some bjoinS
  | 54 => some needS
  | 55 => some needS
  | 25 => some blightS
  | _ => none
theorem Slaw5_ok : Fns Try.prog Slaw5 := by
  intro f s h
  unfold Slaw5 at h
  split at h
  · injection h with h; subst h; exact ⟨⟨_, Try.func71, by kernel_rfl, by kernel_rfl⟩, bseal_sound⟩
  · injection h with h; subst h; exact ⟨⟨_, Try.func74, by kernel_rfl, by kernel_rfl⟩, rbseal_sound⟩
  · injection h with h; subst h; exact ⟨⟨_, Try.func76, by kernel_rfl, by kernel_rfl⟩, bopen_sound⟩
  · injection h with h; subst h; exact ⟨⟨_, Try.func77, by kernel_rfl, by kernel_rfl⟩, rbopenM_sound⟩
  · injection h with h; subst h; exact ⟨⟨_, Try.func48, by kernel_rfl, by kernel_rfl⟩, blay_sound⟩
  · injection h with h; subst h; exact ⟨⟨_, Try.func51, by kernel_rfl, by kernel_rfl⟩, rblay_sound⟩
  · injection h with h; subst h; exact ⟨⟨_, Try.func56, by kernel_rfl, by kernel_rfl⟩, bjoin_sound⟩
  · injection h with h; subst h; exact ⟨⟨_, Try.func59, by kernel_rfl, by kernel_rfl⟩, rbjoin_sound⟩
  · injection h with h; subst h; exact ⟨⟨_, Try.func54, by kernel_rfl, by kernel_rfl⟩, need_sound⟩
  · injection h with h; subst h; exact ⟨⟨_, Try.func55, by kernel_rfl, by kernel_rfl⟩, rneed_sound⟩
  · injection h with h; subst h; exact ⟨⟨_, Try.func25, by kernel_rfl, by kernel_rfl⟩, blight_sound⟩
  · cases h
theorem sealB_le (k : Int) (b : List UInt8) : (sealB k b).length ≤ 64 := by
  unfold sealB
  split
  · rename_i h
    rcases sealE_cases k b with ⟨_, h1⟩ | ⟨_, _, h1⟩ | ⟨_, hb, _⟩
    · omega
    · omega
    · rw [blkL_length _ _ hb]; exact Nat.le_refl _
  · simp

section
set_option maxRecDepth 100000
set_option maxHeartbeats 1000000 in
set_option maxHeartbeats 1000000 in
set_option maxHeartbeats 1000000 in
def Sback5 (f : FuncId) : Option FSpec :=
  match f with
  | 48 => some blayS
  | 56 => some bjoinM
  | 54 => some needS
  | _ => none
theorem Sback5_ok : Fns Try.prog Sback5 := by
  intro f s h
  unfold Sback5 at h
  split at h
  · injection h with h; subst h; exact ⟨⟨_, Try.func48, by kernel_rfl, by kernel_rfl⟩, blay_sound⟩
  · injection h with h; subst h; exact ⟨⟨_, Try.func56, by kernel_rfl, by kernel_rfl⟩, bjoinM_sound⟩
  · injection h with h; subst h; exact ⟨⟨_, Try.func54, by kernel_rfl, by kernel_rfl⟩, need_sound⟩
  · cases h
set_option maxHeartbeats 1000000 in
set_option maxHeartbeats 1000000 in
end
theorem karg_bytes {x : AV} (h : Arg ty 6 27 x) : ∃ bs f, x = .sb bs f ∧ bs.length ≤ maxLen := by
  obtain ⟨i, ls, hi, hs, rfl⟩ := h
  simp only [ty] at hi
  injection hi with hi
  subst hi
  simp only [Shape, ty, isFlatI] at hs
  obtain ⟨bs, f, rfl, hl⟩ := hs
  exact ⟨bs, f, rfl, hl⟩
theorem karg_u8 {x : AV} (h : Arg ty 6 5 x) : ∃ n : Int, x = .w (.int .u8 n) ∧ 0 ≤ n ∧ n < 256 := by
  obtain ⟨i, ls, hi, hs, rfl⟩ := h
  simp only [ty] at hi
  injection hi with hi
  subst hi
  simp only [Shape, ty] at hs
  obtain ⟨m, rfl, hw⟩ := hs
  exact ⟨m, rfl, wf_u8 hw⟩
theorem karg_int {x : AV} (h : Arg ty 6 3 x) : ∃ n : Int, x = .w (.int .i64 n) ∧ -9223372036854775808 ≤ n ∧ n ≤ 9223372036854775807 := by
  obtain ⟨i, ls, hi, hs, rfl⟩ := h
  simp only [ty] at hi
  injection hi with hi
  subst hi
  simp only [Shape, ty] at hs
  obtain ⟨m, rfl, hw⟩ := hs
  exact ⟨m, rfl, wf_i64 hw⟩
theorem kall_map {α : Type} (g : α → AV) : ∀ (xs : List AV), (∀ x ∈ xs, ∃ p, x = g p) → ∃ ps : List α, xs = ps.map g
  | [], _ => ⟨[], rfl⟩
  | x :: xs, h => by
    obtain ⟨p, rfl⟩ := h x (by simp)
    obtain ⟨ps, rfl⟩ := kall_map g xs (fun y hy => h y (by simp [hy]))
    exact ⟨p :: ps, rfl⟩
theorem karg_blocks {x : AV} (h : Arg ty 6 42 x) : ∃ (ps : List (List UInt8 × Bool)) (f : Bool), x = .sg 1 (ps.map sbp) f ∧ (ps.map sbp).length ≤ maxLen := by
  obtain ⟨i, ls, hi, hs, rfl⟩ := h
  simp only [ty] at hi
  injection hi with hi
  subst hi
  simp only [Shape, ty, isFlatI] at hs
  obtain ⟨xs, f, rfl, hl, hx⟩ := hs
  obtain ⟨ps, rfl⟩ := kall_map sbp xs (fun x hm => by
    obtain ⟨l, ⟨bs, g, rfl, _⟩, _, rfl⟩ := hx x hm
    exact ⟨(bs, g), rfl⟩)
  exact ⟨ps, f, rfl, hl⟩
theorem bseals_dom {x y z : AV} (hx : Arg ty 6 5 x) (hy : Arg ty 6 27 y) (hz : Arg ty 6 27 z) : (bsealsS [x, y, z] []).p ∧ (bsealsS [x, y, z] []).x = .w (.bool true) := by
  obtain ⟨k, rfl, h⟩ := karg_u8 hx
  obtain ⟨b, f, rfl, _⟩ := karg_bytes hy
  obtain ⟨c, g, rfl, _⟩ := karg_bytes hz
  exact ⟨h, rfl⟩
theorem blays_dom {x y : AV} (hx : Arg ty 6 27 x) (hy : Arg ty 6 3 y) : (blaysS [x, y] []).p ∧ (blaysS [x, y] []).x = .w (.bool true) := by
  obtain ⟨b, f, rfl, _⟩ := karg_bytes hx
  obtain ⟨n, rfl, _⟩ := karg_int hy
  exact ⟨trivial, rfl⟩
theorem bjoins_dom {x : AV} (hx : Arg ty 6 42 x) : (bjoinsS [x] []).p ∧ (bjoinsS [x] []).x = .w (.bool true) := by
  obtain ⟨ps, f, rfl, hl⟩ := karg_blocks hx
  exact ⟨⟨hl, ps, rfl⟩, rfl⟩
theorem bback_dom {x y : AV} (hx : Arg ty 6 27 x) (hy : Arg ty 6 27 y) : (bbackS [x, y] []).p ∧ (bbackS [x, y] []).x = .w (.bool true) := by
  obtain ⟨b, f, rfl, _⟩ := karg_bytes hx
  obtain ⟨c, g, rfl, _⟩ := karg_bytes hy
  exact ⟨trivial, rfl⟩
theorem btorn_dom {x y z : AV} (hx : Arg ty 6 5 x) (hy : Arg ty 6 27 y) (hz : Arg ty 6 5 z) : (btornS [x, y, z] []).p ∧ (btornS [x, y, z] []).x = .w (.bool true) := by
  obtain ⟨k, rfl, h⟩ := karg_u8 hx
  obtain ⟨b, f, rfl, _⟩ := karg_bytes hy
  obtain ⟨t, rfl, h2⟩ := karg_u8 hz
  exact ⟨⟨h, h2⟩, rfl⟩
end Go.Proofs.Ytfciefiachmioaa
