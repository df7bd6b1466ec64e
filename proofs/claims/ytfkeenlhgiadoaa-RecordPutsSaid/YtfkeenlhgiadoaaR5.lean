/- Layer 3: the laws. -/
import Derived.Test.YtfkeenlhgiadoaaG3
namespace Go.Proofs.Ytfkeenlhgiadoaa
open Ax
set_option linter.unusedSimpArgs false
set_option linter.unusedVariables false

def apartS : FSpec
  | [.agg [.w (.int .i64 d), .w (.int .i64 t), .w (.bool k), .str key, .w (.bool dd), .str val], .agg [.w (.int .i64 d'), .w (.int .i64 t'), .w (.bool k'), .str key', .w (.bool dd'), .str val']], [] => ⟨True, .w (.bool true), []⟩
  | _, _ => noRes
def Sapart (f : FuncId) : Option FSpec :=
  match f with
  | 21 => some yesS
  | 20 => some lightS
  | 24 => some rchkS
  | 22 => some rputS
  | 26 => some rsameS
  | _ => none
theorem Sapart_ok : Fns Try.prog Sapart := by
  intro f s h
  unfold Sapart at h
  split at h
  · injection h with h; subst h; exact ⟨⟨_, Try.func21, by kernel_rfl, by kernel_rfl⟩, awake3_sound⟩
  · injection h with h; subst h; exact ⟨⟨_, Try.func20, by kernel_rfl, by kernel_rfl⟩, light_sound⟩
  · injection h with h; subst h; exact ⟨⟨_, Try.func24, by kernel_rfl, by kernel_rfl⟩, rcheck_sound⟩
  · injection h with h; subst h; exact ⟨⟨_, Try.func22, by kernel_rfl, by kernel_rfl⟩, recput_sound⟩
  · injection h with h; subst h; exact ⟨⟨_, Try.func26, by kernel_rfl, by kernel_rfl⟩, rsame_sound⟩
  · cases h
section
set_option maxRecDepth 100000
set_option maxHeartbeats 1000000 in
end

def rArg (x : AV) : Prop := ∃ d t k key dd val, x = recV d t k key dd val
theorem arg_rec {x : AV} (h : Arg ty 6 44 x) : ∃ (d t : Int) (k : Bool) (key : List UInt8) (dd : Bool) (val : List UInt8), x = recV d t k key dd val := by
  obtain ⟨i, ls, hi, hs, rfl⟩ := h
  simp only [ty] at hi
  injection hi with hi
  subst hi
  simp only [Shape, ty, ShapeF] at hs
  obtain ⟨l1, r1, rfl, ⟨m1, rfl, w1⟩, l2, r2, rfl, ⟨m2, rfl, w2⟩, l3, r3, rfl, ⟨m3, rfl⟩, l4, r4, rfl, ⟨m4, rfl, w4⟩, l5, r5, rfl, ⟨m5, rfl⟩, l6, r6, rfl, ⟨m6, rfl, w6⟩, rfl⟩ := hs
  exact ⟨m1, m2, m3, m4, m5, m6, rfl⟩
theorem apart_dom {x y : AV} (hx : Arg ty 6 44 x) (hy : Arg ty 6 44 y) : (apartS [x, y] []).p ∧ (apartS [x, y] []).x = .w (.bool true) := by
  obtain ⟨d, t, k, key, dd, val, rfl⟩ := arg_rec hx
  obtain ⟨d', t', k', key', dd', val', rfl⟩ := arg_rec hy
  exact ⟨trivial, rfl⟩
end Go.Proofs.Ytfkeenlhgiadoaa
