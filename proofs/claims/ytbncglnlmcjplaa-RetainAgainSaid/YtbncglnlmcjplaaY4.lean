/- Layer 16: what Drop does, in the evaluator's words. -/
import Derived.Test.YtbncglnlmcjplaaY2
import Derived.Test.YtbncglnlmcjplaaAu
namespace Go.Proofs.Ytbncglnlmcjplaa
open Ax
set_option linter.unusedSimpArgs false
set_option linter.unusedVariables false

def sgA (s : Sg) : AV := .agg [.w (.int .i64 s.b), .w (.int .i64 s.n), .w (.int .i64 s.w), .w (.int .i64 s.k)]
def sgOf : AV → Sg
  | .agg [.w (.int _ b), .w (.int _ n), .w (.int _ w), .w (.int _ k)] => ⟨b, n, w, k⟩
  | _ => ⟨0, 0, 0, 0⟩
theorem sgOf_sgA (s : Sg) : sgOf (sgA s) = s := rfl
theorem map_sgOf (l : List Sg) : (l.map sgA).map sgOf = l := by
  rw [List.map_map]; exact (List.map_congr_left fun x _ => rfl).trans (List.map_id l)
def zsF (l : List Sg) : Nat → Sg := fun j => l.getD j ⟨0, 0, 0, 0⟩
def drL (l : List Sg) (rT rB now : Int) : Nat := drN (zsF l) l.length rT rB now
def drS : FSpec
  | [.sg 4 xs fl, .agg [.w (.int .i64 rT), .w (.int .i64 rB)], .w (.int .i64 now)], [] => ⟨(∃ l : List Sg, xs = l.map sgA) ∧ xs.length ≤ 1000000 ∧ -9223372036854775808 ≤ now ∧ now ≤ 9223372036854775807, .w (.int .i64 (drL (xs.map sgOf) rT rB now)), []⟩
  | _, _ => noRes
theorem flat_sg : ∀ (l : List Sg), ((l.map sgA).flatMap AV.leaves).length = l.length * 4
  | [] => rfl
  | s :: l => by
    rw [List.map_cons, List.flatMap_cons, List.length_append, flat_sg l]
    show 4 + _ = _
    simp; omega
theorem flat_sg_at : ∀ (l : List Sg) (j : Nat) (hj : j < l.length),
    ((l.map sgA).flatMap AV.leaves)[j * 4]? = some (.w (.int .i64 l[j].b)) ∧ ((l.map sgA).flatMap AV.leaves)[j * 4 + 1]? = some (.w (.int .i64 l[j].n)) ∧ ((l.map sgA).flatMap AV.leaves)[j * 4 + 2]? = some (.w (.int .i64 l[j].w)) ∧ ((l.map sgA).flatMap AV.leaves)[j * 4 + 3]? = some (.w (.int .i64 l[j].k))
  | [], j, hj => by simp at hj
  | s :: l, 0, _ => ⟨rfl, rfl, rfl, rfl⟩
  | s :: l, j + 1, hj => by
    have ih := flat_sg_at l j (by simpa using hj)
    have e : ((s :: l).map sgA).flatMap AV.leaves = [AV.w (.int .i64 s.b), .w (.int .i64 s.n), .w (.int .i64 s.w), .w (.int .i64 s.k)] ++ (l.map sgA).flatMap AV.leaves := rfl
    have k : ∀ i, (((s :: l).map sgA).flatMap AV.leaves)[(j + 1) * 4 + i]? = ((l.map sgA).flatMap AV.leaves)[j * 4 + i]? := fun i => by
      rw [e, List.getElem?_append_right (by simp; omega)]
      congr 1
      simp; omega
    have k0 := k 0
    simp only [Nat.add_zero] at k0
    rw [k0, k 1, k 2, k 3]
    exact ih
theorem drop_sound : Sound Try.prog 8 drS := by
  intro xs pins hp hcl w bad pb vs hpb hnd hbad hpins hlen hxs
  unfold drS at hp ⊢
  split at hp
  · rename_i ys fl rT rB now
    obtain ⟨⟨l, rfl⟩, hle, hnow⟩ := hp
    rw [List.length_map] at hle
    rw [map_sgOf]
    obtain rfl : pb = [] := by cases pb with
      | nil => rfl
      | cons b r => simp at hpb
    obtain ⟨v, v1, v2, rfl⟩ : ∃ v v1 v2, vs = [v, v1, v2] := by
      match vs, hlen with
      | [v, v1, v2], _ => exact ⟨v, v1, v2, rfl⟩
    have hv : R w (locOf [] bad) (.sg 4 (l.map sgA) fl) v := hxs 0 (by simp) (by simp)
    have hv1 : R w (locOf [] bad) (.agg [.w (.int .i64 rT), .w (.int .i64 rB)]) v1 := hxs 1 (by simp) (by simp)
    have hv2 : R w (locOf [] bad) (.w (.int .i64 now)) v2 := hxs 2 (by simp) (by simp)
    obtain rfl := hv2.wv
    obtain rfl : v1 = .agg #[.int .i64 rT, .int .i64 rB] := by
      cases hv1 with
      | agg _ cs hl hx h =>
        match cs, hl with
        | [c0, c1], _ =>
          have a0 : R w (locOf [] bad) (.w (.int .i64 rT)) c0 := h 0 (by simp) (by simp)
          have a1 : R w (locOf [] bad) (.w (.int .i64 rB)) c1 := h 1 (by simp) (by simp)
          obtain rfl := a0.wv
          obtain rfl := a1.wv
          rfl
    cases hv with
    | sg _ _ _ a cap cs hd hs hc hl hx h =>
      have hcl : cs.length = l.length * 4 := by rw [← hl, flat_sg]
      have hI : Segs16 w.heap.size w a l.length (zsF l) := by
        rcases hc.lies with rfl | ⟨b, o, rfl, _, hb, hcell⟩
        · exact .inl (by simp at hcl; omega)
        · refine .inr ⟨b, o, rfl, hb, fun j hj => ?_⟩
          obtain ⟨g0, g1, g2, g3⟩ := flat_sg_at l j hj
          have hz : zsF l j = l[j] := by simp [zsF, List.getD, List.getElem?_eq_getElem hj]
          have key : ∀ (i : Nat) (u : Value), ((l.map sgA).flatMap AV.leaves)[j * 4 + i]? = some (.w u) → j * 4 + i < cs.length → w.cell? ⟨b, o + j * 4 + i, none⟩ = some u := by
            intro i u hu hi
            obtain ⟨hlt, he⟩ := List.getElem?_eq_some_iff.1 hu
            have hr := h (j * 4 + i) hlt hi
            rw [he] at hr
            have := hr.wv
            rw [Nat.add_assoc, hcell (j * 4 + i) hi, this]
          rw [hz]
          exact ⟨key 0 _ g0 (by omega), key 1 _ g1 (by omega), key 2 _ g2 (by omega), key 3 _ g3 (by omega)⟩
      rw [List.length_map]
      refine Calls.mono ((callsIn_wide (n := 5)).1 (drop_in Fence.wide ⟨rfl⟩ 5 trivial trivial trivial trivial trivial rfl (Nat.le_refl _) a l.length cap (zsF l) hle rT rB now hnow w hI)) ?_
      rintro e1 w' ⟨rfl, hB⟩
      refine ⟨_, locOf [] bad, rfl, ?_⟩
      have hf : ∀ k, (locOf [] bad).m k = .free := fun k => by
        show (match ([] : List Nat)[k]? with | some b => L.here b | none => L.free) = _
        rw [List.getElem?_eq_none (by simp)]
      refine ⟨R.w _ rfl, rfl, ?_, ?_, ?_, fun k _ => hf k, ?_, ?_⟩
      · intro k hk; simp at hk
      · intro k hk; simp at hk
      · intro k b' _ h2; rw [hf k] at h2; cases h2
      · intro i j b' h1 _; rw [hf i] at h1; cases h1
      · exact ⟨hB.os, hB.tape, hB.output, hB.size, fun b' hb' _ => hB.block b' hb', fun b' c' e' f' hE _ => by simp at hE⟩
  · exact hp.elim
end Go.Proofs.Ytbncglnlmcjplaa
