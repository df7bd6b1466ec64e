/- Layer 4: batches, as plain lists: what is put is got, and nothing else. -/
import Derived.Test.YthmkhlmohjcbgaaLa
import Derived.Test.YthmkhlmohjcbgaaG3
namespace Go.Proofs.Ythmkhlmohjcbgaa
open Ax
set_option linter.unusedSimpArgs false
set_option linter.unusedVariables false

theorem rrec_rv (r : Rec) : rrec (rv r) = r := rfl
theorem rv_inj {a b : Rec} (h : rv a = rv b) : a = b := by rw [← rrec_rv a, ← rrec_rv b, h]
theorem rb_eq {r : Rec} (h : rk r = 0) : rb r = recL r.d r.t r.k r.key r.dd r.val := if_pos h
theorem gR_put {r : Rec} (h : rk r = 0) (z : List UInt8) : gerr (rb r ++ z) 0 = 0 ∧ gR (rb r ++ z) 0 = r ∧ gb5 (rb r ++ z) 0 = z ∧ ge5 (rb r ++ z) 0 = 0 := by
  obtain ⟨h1, h2, h3, h4⟩ := get_put r.d r.t r.k r.key r.dd r.val z h
  rw [rb_eq h]
  refine ⟨h1, ?_, h3, h4⟩
  rw [grec_rv h1] at h2
  exact rv_inj h2
/-- A list of records that may be. -/
theorem layE_zero {c : Int} : ∀ {a : Int} {rs : List Rec}, layE c a rs = 0 → (∀ r ∈ rs, rk r = 0) ∧ (∀ r ∈ rs, a < r.d ∧ r.d < c) ∧ rs.Pairwise (fun x y => x.d < y.d)
  | a, [], _ => ⟨by simp, by simp, List.Pairwise.nil⟩
  | a, r :: rs, h => by
    rw [layE_cons] at h
    by_cases h1 : rk r = 0
    · rw [if_pos h1] at h
      by_cases h2 : r.d ≤ a ∨ c ≤ r.d
      · rw [if_pos h2] at h; omega
      · rw [if_neg h2] at h
        obtain ⟨i1, i2, i3⟩ := layE_zero h
        refine ⟨?_, ?_, List.pairwise_cons.2 ⟨fun q hq => (i2 q hq).1, i3⟩⟩
        · intro q hq
          rcases List.mem_cons.1 hq with rfl | hq
          · exact h1
          · exact i1 q hq
        · intro q hq
          rcases List.mem_cons.1 hq with rfl | hq
          · omega
          · have := i2 q hq; omega
    · rw [if_neg h1] at h; exact absurd h h1
theorem readN_put : ∀ (rs : List Rec) (z : List UInt8), (∀ r ∈ rs, rk r = 0) → readN rs.length (rs.flatMap rb ++ z) 0 = some (rs, z, 0)
  | [], z, _ => rfl
  | r :: rs, z, h => by
    obtain ⟨h1, h2, h3, h4⟩ := gR_put (h r (by simp)) (rs.flatMap rb ++ z)
    rw [List.length_cons, List.flatMap_cons, List.append_assoc, readN_succ, if_pos h1, h2, h3, h4, readN_put rs z (fun q hq => h q (by simp [hq]))]
    rfl
theorem bE_zero {x : Bat} (h : bE x = 0) : bfld x.b x.c x.p x.e x.s x.rs.length = 0 ∧ layE x.c (-1) x.rs = 0 ∧ (batL x.b x.c x.p x.e x.s x.rs).length ≤ 8192 := by
  unfold bE batE at h
  split at h
  · rename_i h1
    split at h
    · rename_i h2
      split at h
      · omega
      · exact ⟨h1, h2, by omega⟩
    · rename_i h2; exact absurd h h2
  · rename_i h1; exact absurd h h1
theorem bB_eq {x : Bat} (h : bE x = 0) : bB x = headL (nums x.b x.c x.p x.e x.s x.rs.length) ++ x.rs.flatMap rb := if_pos h
/-- What the beginning of a batch's bytes is read as. -/
theorem bheads {x : Bat} (h : bE x = 0) (z : List UInt8) : hn 0 (bB x ++ z) = x.b ∧ hn 1 (bB x ++ z) = x.c ∧ hn 2 (bB x ++ z) = x.p ∧ hn 3 (bB x ++ z) = x.e ∧ hn 4 (bB x ++ z) = x.s ∧ hn 5 (bB x ++ z) = x.rs.length ∧ hb 6 (bB x ++ z) = (x.rs.flatMap rb ++ z, 0) ∧ x.rs.length ≤ 32 ∧ ∀ r ∈ x.rs, rk r = 0 := by
  obtain ⟨h1, h2, h3⟩ := bE_zero h
  have hz := bfld_zero h1
  obtain ⟨i1, i2, i3⟩ := layE_zero h2
  obtain ⟨T, hT⟩ : ∃ T, x.rs.flatMap rb ++ z = T := ⟨_, rfl⟩
  obtain ⟨X5, hX5⟩ : ∃ X, putU (zz x.rs.length).toNat ++ T = X := ⟨_, rfl⟩
  obtain ⟨X4, hX4⟩ : ∃ X, putU (zz x.s).toNat ++ X5 = X := ⟨_, rfl⟩
  obtain ⟨X3, hX3⟩ : ∃ X, putU (zz x.e).toNat ++ X4 = X := ⟨_, rfl⟩
  obtain ⟨X2, hX2⟩ : ∃ X, putU (zz x.p).toNat ++ X3 = X := ⟨_, rfl⟩
  obtain ⟨X1, hX1⟩ : ∃ X, putU (zz x.c).toNat ++ X2 = X := ⟨_, rfl⟩
  have hW : bB x ++ z = putU (zz x.b).toNat ++ X1 := by
    rw [bB_eq h, ← hX1, ← hX2, ← hX3, ← hX4, ← hX5, ← hT]
    simp only [headL, nums, List.flatMap_cons, List.flatMap_nil, List.append_assoc, List.append_nil]
  obtain ⟨a1, a2, a3⟩ := num_put x.b (by omega) (by omega) X1
  obtain ⟨b1, b2, b3⟩ := num_put x.c (by omega) (by omega) X2
  obtain ⟨c1, c2, c3⟩ := num_put x.p (by omega) (by omega) X3
  obtain ⟨d1, d2, d3⟩ := num_put x.e (by omega) (by omega) X4
  obtain ⟨e1, e2, e3⟩ := num_put x.s (by omega) (by omega) X5
  obtain ⟨f1, f2, f3⟩ := num_put x.rs.length (by omega) (by omega) T
  rw [← hW] at a1 a2 a3
  rw [hX1] at b1 b2 b3
  rw [hX2] at c1 c2 c3
  rw [hX3] at d1 d2 d3
  rw [hX4] at e1 e2 e3
  rw [hX5] at f1 f2 f3
  have hx : ∃ W, bB x ++ z = W ∧ bB x ++ z = W := ⟨_, rfl, rfl⟩
  obtain ⟨W, hW1, hW2⟩ := hx
  rw [hW1] at a1 a2 a3 ⊢
  have B1 : hb 1 W = (X1, 0) := Prod.ext a2 a3
  have N0 : hn 0 W = x.b := a1
  have N1 : hn 1 W = x.c := by unfold hn; rw [B1]; exact b1
  have B2 : hb 2 W = (X2, 0) := by show (numL (hb 1 W).1 (hb 1 W).2, numE (hb 1 W).1 (hb 1 W).2) = _; rw [B1]; exact Prod.ext b2 b3
  have N2 : hn 2 W = x.p := by unfold hn; rw [B2]; exact c1
  have B3 : hb 3 W = (X3, 0) := by show (numL (hb 2 W).1 (hb 2 W).2, numE (hb 2 W).1 (hb 2 W).2) = _; rw [B2]; exact Prod.ext c2 c3
  have N3 : hn 3 W = x.e := by unfold hn; rw [B3]; exact d1
  have B4 : hb 4 W = (X4, 0) := by show (numL (hb 3 W).1 (hb 3 W).2, numE (hb 3 W).1 (hb 3 W).2) = _; rw [B3]; exact Prod.ext d2 d3
  have N4 : hn 4 W = x.s := by unfold hn; rw [B4]; exact e1
  have B5 : hb 5 W = (X5, 0) := by show (numL (hb 4 W).1 (hb 4 W).2, numE (hb 4 W).1 (hb 4 W).2) = _; rw [B4]; exact Prod.ext e2 e3
  have N5 : hn 5 W = x.rs.length := by unfold hn; rw [B5]; exact f1
  have B6 : hb 6 W = (T, 0) := by show (numL (hb 5 W).1 (hb 5 W).2, numE (hb 5 W).1 (hb 5 W).2) = _; rw [B5]; exact Prod.ext f2 f3
  exact ⟨N0, N1, N2, N3, N4, N5, by rw [B6, hT], by omega, i1⟩
/-- What a batch's bytes with some behind them are read as. -/
theorem bget_more {x : Bat} (h : bE x = 0) (z : List UInt8) : bget (bB x ++ z) = if z = [] then some x else none := by
  obtain ⟨N0, N1, N2, N3, N4, N5, B6, hl, i1⟩ := bheads h z
  have hrd := readN_put x.rs z i1
  obtain ⟨W, hW1⟩ : ∃ W, bB x ++ z = W := ⟨_, rfl⟩
  rw [hW1] at N0 N1 N2 N3 N4 N5 B6 ⊢
  unfold bget
  rw [N0, N1, N2, N3, N4, N5, B6, if_pos (by omega), Int.toNat_natCast]
  simp only
  rw [hrd]
  simp only
  have hxe : (⟨x.b, x.c, x.p, x.e, x.s, x.rs⟩ : Bat) = x := rfl
  rw [hxe]
  by_cases hzz : z = []
  · rw [if_pos hzz, if_pos (by refine ⟨?_, hzz, h, by rw [← hW1, hzz, List.append_nil]⟩; first | exact trivial | rfl)]
  · rw [if_neg hzz, if_neg (fun q => hzz q.2.1)]
theorem bget_put {x : Bat} (h : bE x = 0) : bget (bB x) = some x := by
  have := bget_more h []
  rwa [List.append_nil, if_pos rfl] at this
/-- What is got is laid so. -/
theorem bget_some {bs : List UInt8} {x : Bat} (h : bget bs = some x) : bE x = 0 ∧ bB x = bs := by
  unfold bget at h
  split at h
  · split at h
    · split at h
      · rename_i h3
        injection h with h
        subst h
        exact ⟨h3.2.2.1, h3.2.2.2⟩
      · cases h
    · cases h
  · cases h
theorem bB_inj {x y : Bat} (h : bE x = 0) (h' : bE y = 0) (e : bB x = bB y) : x = y := by
  have h1 := bget_put h
  have h2 := bget_put h'
  rw [e, h2] at h1
  injection h1 with h1
  exact h1.symm
theorem bget_cut {x : Bat} (h : bE x = 0) (hp : 0 < (bB x).length) : bget ((bB x).take ((bB x).length - 1)) = none := by
  cases hg : bget ((bB x).take ((bB x).length - 1)) with
  | none => rfl
  | some y =>
    obtain ⟨h1, h2⟩ := bget_some hg
    have h3 := bget_more h1 ((bB x).drop ((bB x).length - 1))
    rw [h2, List.take_append_drop, bget_put h, if_neg (by
      intro hd
      have := congrArg List.length hd
      rw [List.length_drop, List.length_nil] at this
      omega)] at h3
    cases h3
theorem bB_pos {x : Bat} (h : bE x = 0) : 0 < (bB x).length := by
  rw [bB_eq h]
  have := putU_pos (zz x.b).toNat
  simp only [headL, nums, List.flatMap_cons, List.length_append]
  omega
theorem bB_nil {x : Bat} (h : bE x ≠ 0) : bB x = [] := if_neg h
theorem bB_length {x : Bat} (h : bE x = 0) : (bB x).length ≤ 8192 := by
  rw [show bB x = batL x.b x.c x.p x.e x.s x.rs from if_pos h]; exact (bE_zero h).2.2
end Go.Proofs.Ythmkhlmohjcbgaa
