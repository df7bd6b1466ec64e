/- Layer 4: what the arguments of a law are. -/
import Derived.Test.YthmkhlmohjcbgaaLc
namespace Go.Proofs.Ythmkhlmohjcbgaa
open Ax
set_option linter.unusedSimpArgs false
set_option linter.unusedVariables false

instance : DecidableEq Bat := fun a b => decidable_of_iff (a.b = b.b ∧ a.c = b.c ∧ a.p = b.p ∧ a.e = b.e ∧ a.s = b.s ∧ a.rs = b.rs) (by cases a; cases b; simp)
theorem arg_rec {x : AV} (h : Arg ty 6 42 x) : ∃ r : Rec, x = rv r := by
  obtain ⟨i, ls, hi, hs, rfl⟩ := h
  simp only [ty] at hi
  injection hi with hi
  subst hi
  simp only [Shape, ty, ShapeF] at hs
  obtain ⟨l1, r1, rfl, ⟨m1, rfl, w1⟩, l2, r2, rfl, ⟨m2, rfl, w2⟩, l3, r3, rfl, ⟨m3, rfl⟩, l4, r4, rfl, ⟨m4, rfl, w4⟩, l5, r5, rfl, ⟨m5, rfl⟩, l6, r6, rfl, ⟨m6, rfl, w6⟩, rfl⟩ := hs
  exact ⟨⟨m1, m2, m3, m4, m5, m6⟩, rfl⟩
theorem all_rv : ∀ (xs : List AV), (∀ x ∈ xs, ∃ r : Rec, x = rv r) → ∃ rs : List Rec, xs = rs.map rv
  | [], _ => ⟨[], rfl⟩
  | x :: xs, h => by
    obtain ⟨r, rfl⟩ := h x (by simp)
    obtain ⟨rs, rfl⟩ := all_rv xs (fun y hy => h y (by simp [hy]))
    exact ⟨r :: rs, rfl⟩
theorem arg_bat {x : AV} (h : Arg ty 6 24 x) : ∃ (b : Bat) (f : Bool), x = bav b f ∧ b.rs.length ≤ 9223372036854775807 := by
  obtain ⟨i, ls, hi, hs, rfl⟩ := h
  simp only [ty] at hi
  injection hi with hi
  subst hi
  simp only [Shape, ty, ShapeF, isFlatI] at hs
  obtain ⟨l1, r1, rfl, ⟨m1, rfl, w1⟩, l2, r2, rfl, ⟨m2, rfl, w2⟩, l3, r3, rfl, ⟨m3, rfl, w3⟩, l4, r4, rfl, ⟨m4, rfl, w4⟩, l5, r5, rfl, ⟨m5, rfl, w5⟩, l6, r6, rfl, ⟨xs, f, rfl, hl, hx⟩, rfl⟩ := hs
  obtain ⟨rs, rfl⟩ := all_rv xs (fun x hxm => by
    obtain ⟨l, ⟨l1, r1, rfl, ⟨m1, rfl, w1⟩, l2, r2, rfl, ⟨m2, rfl, w2⟩, l3, r3, rfl, ⟨m3, rfl⟩, l4, r4, rfl, ⟨m4, rfl, w4⟩, l5, r5, rfl, ⟨m5, rfl⟩, l6, r6, rfl, ⟨m6, rfl, w6⟩, rfl⟩, _, rfl⟩ := hx x hxm
    exact ⟨⟨m1, m2, m3, m4, m5, m6⟩, rfl⟩)
  refine ⟨⟨m1, m2, m3, m4, m5, rs⟩, f, rfl, ?_⟩
  rw [List.length_map] at hl
  have : maxLen = 9223372036854775807 := by decide
  show rs.length ≤ _
  omega
theorem arg_int4 {x : AV} (h : Arg ty 6 3 x) : ∃ n : Int, x = .w (.int .i64 n) := by
  obtain ⟨i, ls, hi, hs, rfl⟩ := h
  simp only [ty] at hi
  injection hi with hi
  subst hi
  simp only [Shape, ty, ShapeF] at hs
  obtain ⟨m, rfl, _⟩ := hs
  exact ⟨m, rfl⟩
end Go.Proofs.Ythmkhlmohjcbgaa
