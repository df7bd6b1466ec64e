/- Layer 16: slices.Backward at segments: what a range over it sees. -/
import Derived.RangeFuncNested
import Derived.RangeFuncBound
import Derived.RangeFuncCalls
import Derived.RangeFuncLeaves
import Derived.RangeFuncBox
import Derived.Shelf.Abstract
import Derived.Shelf.RegionOpen
import Derived.WalkKit
import Derived.OwnWalkIn
import Derived.TacticsInMore
import Derived.LoopNIn
import Derived.LoopIn
import Derived.Test.YtbncglnlmcjplaaProg
namespace Go.Proofs.Ytbncglnlmcjplaa
open Go.RowKit Go.Shelf
attribute [local go_sem] Oper.semAt_some
set_option linter.unusedSimpArgs false
set_option linter.unusedVariables false

structure Sg where
  b : Int
  n : Int
  w : Int
  k : Int
def Sg.cells (s : Sg) : List Value := [.int .i64 s.b, .int .i64 s.n, .int .i64 s.w, .int .i64 s.k]
def Sg.val (s : Sg) : Value := .agg #[.int .i64 s.b, .int .i64 s.n, .int .i64 s.w, .int .i64 s.k]
def upto16 {α : Type} (f : Nat → α) (k : Nat) : List α := (List.range k).map f
theorem upto16_succ {α : Type} (f : Nat → α) (k : Nat) : upto16 f (k + 1) = upto16 f k ++ [f k] := by simp [upto16, List.range_succ]
theorem upto16_length {α : Type} (f : Nat → α) (k : Nat) : (upto16 f k).length = k := by simp [upto16]
/-- What comes in round t: the place len - 1 - t and what stands there. -/
def bk16 (len : Nat) (zs : Nat → Sg) (t : Nat) : Nat × Sg := (len - 1 - t, zs (len - 1 - t))
/-- The cells of a row of segments. -/
def Rows16 (W : World) (b off len : Nat) (zs : Nat → Sg) : Prop :=
  ∀ j, j < len → W.cell? ⟨b, off + j * 4, none⟩ = some (.int .i64 (zs j).b) ∧ W.cell? ⟨b, off + j * 4 + 1, none⟩ = some (.int .i64 (zs j).n) ∧ W.cell? ⟨b, off + j * 4 + 2, none⟩ = some (.int .i64 (zs j).w) ∧ W.cell? ⟨b, off + j * 4 + 3, none⟩ = some (.int .i64 (zs j).k)
/-- What a round keeps: what lay below n₀; the slice that is gone over. -/
def Kp16 (Bs n₀ : Nat) (W W' : World) : Prop := Below n₀ W W' ∧ ∀ v, W.cell? ⟨Bs, 0, none⟩ = some v → W'.cell? ⟨Bs, 0, none⟩ = some v
theorem Kp16.refl (Bs n₀ : Nat) (W : World) : Kp16 Bs n₀ W W := ⟨Below.refl _ _, fun _ h => h⟩
theorem Kp16.trans {Bs n₀ : Nat} {A B C : World} (h : Kp16 Bs n₀ A B) (k : Kp16 Bs n₀ B C) : Kp16 Bs n₀ A C := ⟨h.1.trans k.1, fun v e => k.2 v (h.2 v e)⟩
set_option maxRecDepth 100000 in
set_option maxHeartbeats 2000000 in
theorem back1_in (F : Fence) (n : Nat) (h1 : F.fn 18) (hro : F.round = none) (hn : 1 ≤ n) (l Bs n₀ b off len cap : Nat) (zs : Nat → Sg) {α : Type} (v : α → Nat × Sg) (hmk : ∀ t, t < len → ∃ x, v x = bk16 len zs t) (hreach : len ≤ 1000000) (hb : b < n₀) (J Jx : List α → World → Prop)
    (hY : ∀ pre x W, J pre W → pre.length < len → YieldAt F (n - 1) Try.prog l #[.int .i64 ((v x).1 : Int), (v x).2.val] W fun e W' =>
      (e = .returned (.bool true) ∧ J (pre ++ [x]) W' ∧ Kp16 Bs n₀ W W') ∨ (e = .returned (.bool false) ∧ Jx (pre ++ [x]) W'))
    (W : World) (hBs : W.cell? ⟨Bs, 0, none⟩ = some (.slice (some ⟨b, off, none⟩) len cap)) (hc : Rows16 W b off len zs) (h0 : J [] W) :
    CallsIn F n Try.prog 18 #[.func (.yield l) #[] #[], .pointer (some ⟨Bs, 0, none⟩)] W fun e W' => (∃ v, e = .returned v) ∧
      ((∃ ys : List α, ys.map v = upto16 (bk16 len zs) len ∧ J ys W') ∨ (∃ pre : List α, (∃ k, k ≤ len ∧ pre.map v = upto16 (bk16 len zs) k) ∧ Jx pre W')) := by
  refine callsIn_of_wp Try.func18 rfl h1 ?_ hro
  simp only [Try.ntmps18, List.size_toArray, List.length_cons, List.length_nil, Nat.reduceAdd, Nat.reduceSub, Array.replicate_succ, Array.replicate_zero, List.push_toArray, List.append_toArray, List.nil_append, List.cons_append]
  gi_wp2
  gi_loopw [3] (fun i wr => ∃ k : Nat, k ≤ len ∧ i = .int .i64 ((len : Int) - 1 - k) ∧ (∃ pre : List α, pre.map v = upto16 (bk16 len zs) k ∧ J pre wr) ∧ Kp16 Bs n₀ W wr)
    (fun i _ => (intOf i + 1).toNat)
  case atStart => exact ⟨0, Nat.zero_le _, by simp, ⟨[], rfl, h0⟩, Kp16.refl _ _ _⟩
  case round =>
    obtain ⟨k, hk, rfl, ⟨pre, hpre, hJs⟩, hnx⟩ := hrel
    have hpl : pre.length = k := by have := congrArg List.length hpre; rwa [List.length_map, upto16_length] at this
    by_cases hlt : k < len
    · have hcx := hc (len - 1 - k) (by omega)
      obtain ⟨c0, c1, c2, c3⟩ := hcx
      have c0 := (hnx.1.cell (p := ⟨b, off + (len - 1 - k) * 4, none⟩) hb).trans c0
      have c1 := (hnx.1.cell (p := ⟨b, off + (len - 1 - k) * 4 + 1, none⟩) hb).trans c1
      have c2 := (hnx.1.cell (p := ⟨b, off + (len - 1 - k) * 4 + 2, none⟩) hb).trans c2
      have c3 := (hnx.1.cell (p := ⟨b, off + (len - 1 - k) * 4 + 3, none⟩) hb).trans c3
      have hB := hnx.2 _ hBs
      obtain ⟨x, hx⟩ := hmk k hlt
      obtain ⟨fn, tmps, assign, body, hy, hR⟩ := hY pre x wr hJs (by rw [hpl]; exact hlt)
      rw [hx] at hy
      dsimp only [bk16, Sg.val] at hy
      have hsn : (pre ++ [x]).map v = upto16 (bk16 len zs) (k + 1) := by rw [List.map_append, hpre, upto16_succ]; simp [hx]
      have hidx : (len : Int) - 1 - k = ((len - 1 - k : Nat) : Int) := by omega
      rw [hidx]
      gi_wp2
      refine hR.mono ?_
      rintro e W3 (⟨rfl, hJ3, hk3⟩ | ⟨rfl, hJx3⟩)
      · gi_wp2
        go_roundw
        case rel => exact ⟨k + 1, by omega, by simp only [Value.int.injEq, true_and]; omega, ⟨_, hsn, hJ3⟩, hnx.trans hk3⟩
        case measure => simp [intOf]; try omega
      · gi_wp2
        refine bodyPost_ret (results_none rfl _ _ _) rfl ?_
        exact ⟨⟨_, rfl⟩, .inr ⟨_, ⟨k + 1, by omega, hsn⟩, hJx3⟩⟩
    · obtain rfl : k = len := by omega
      have hneg : ¬ (0 : Int) ≤ (k : Int) - 1 - k := by omega
      gi_wp2
      go_end0
      exact ⟨⟨_, rfl⟩, .inl ⟨pre, hpre, hJs⟩⟩
set_option maxHeartbeats 1000000 in
theorem back1_nil_in (F : Fence) (n : Nat) (h1 : F.fn 18) (hro : F.round = none) (l Bs : Nat) (a : Option Addr) (cap : Nat) {α : Type} (J : List α → World → Prop) (W : World) (hBs : W.cell? ⟨Bs, 0, none⟩ = some (.slice a 0 cap)) (h0 : J [] W) :
    CallsIn F n Try.prog 18 #[.func (.yield l) #[] #[], .pointer (some ⟨Bs, 0, none⟩)] W fun e W' => (∃ v, e = .returned v) ∧ J [] W' := by
  refine callsIn_of_wp Try.func18 rfl h1 ?_ hro
  simp only [Try.ntmps18, List.size_toArray, List.length_cons, List.length_nil, Nat.reduceAdd, Nat.reduceSub, Array.replicate_succ, Array.replicate_zero, List.push_toArray, List.append_toArray, List.nil_append, List.cons_append]
  gi_wp2
  gi_loopw [3] (fun i wr => i = .int .i64 (-1) ∧ J [] wr) (fun _ _ => 0)
  case atStart => exact ⟨rfl, h0⟩
  case round =>
    obtain ⟨rfl, hJs⟩ := hrel
    gi_wp2
    go_end0
    exact ⟨⟨_, rfl⟩, hJs⟩
set_option maxHeartbeats 1000000 in
theorem back_in (F : Fence) (n : Nat) (h1 : F.fn 16) (hro : F.round = none) (a : Option Addr) (len cap : Nat) (w : World) :
    CallsIn F n Try.prog 16 #[.slice a len cap] w fun e w' => e = .returned (.func (.func 18) #[] #[.pointer (some ⟨w.heap.size, 0, none⟩)]) ∧ w' = w.alloc (.cells #[.slice a len cap] 26) := by
  refine callsIn_of_wp Try.func16 rfl h1 ?_ hro
  simp only [Try.ntmps16, List.size_toArray, List.length_cons, List.length_nil, Nat.reduceAdd, Nat.reduceSub, Array.replicate_succ, Array.replicate_zero, List.push_toArray, List.append_toArray, List.nil_append, List.cons_append]
  gi_wp2
  go_ret
  exact ⟨rfl, rfl⟩
/-- The slice value holds the rows, in a block below n₀; or there are none. -/
def Segs16 (n₀ : Nat) (W : World) (a : Option Addr) (len : Nat) (zs : Nat → Sg) : Prop :=
  len = 0 ∨ ∃ b off, a = some ⟨b, off, none⟩ ∧ b < n₀ ∧ Rows16 W b off len zs
theorem Segs16.below {n₀ : Nat} {A B : World} (h : Below n₀ A B) {a : Option Addr} {len : Nat} {zs : Nat → Sg} : Segs16 n₀ A a len zs → Segs16 n₀ B a len zs
  | .inl e => .inl e
  | .inr ⟨b, off, e, hb, hc⟩ => .inr ⟨b, off, e, hb, fun j hj => by
    obtain ⟨c0, c1, c2, c3⟩ := hc j hj
    exact ⟨(h.cell (p := ⟨b, off + j * 4, none⟩) hb).trans c0, (h.cell (p := ⟨b, off + j * 4 + 1, none⟩) hb).trans c1, (h.cell (p := ⟨b, off + j * 4 + 2, none⟩) hb).trans c2, (h.cell (p := ⟨b, off + j * 4 + 3, none⟩) hb).trans c3⟩⟩
theorem back_stops (F : Fence) (n : Nat) (h1 : F.fn 18) (hro : F.round = none) (hn : 1 ≤ n) (Bs n₀ : Nat) (a : Option Addr) (len cap : Nat) (zs : Nat → Sg) {α : Type} (v : α → Nat × Sg) (hmk : ∀ t, t < len → ∃ x, v x = bk16 len zs t) (hreach : len ≤ 1000000) (w : World) (hBs : Bs < w.heap.size) (hn₀ : n₀ ≤ w.heap.size)
    (hc : w.cell? ⟨Bs, 0, none⟩ = some (.slice a len cap)) (hI : Segs16 n₀ w a len zs) :
    SeqStopsK F n Try.prog 18 #[.pointer (some ⟨Bs, 0, none⟩)] (fun x : α => #[Value.int .i64 ((v x).1 : Int), (v x).2.val]) (Kp16 Bs n₀) (fun ys => ys.map v = upto16 (bk16 len zs) len) (fun pre => ∃ k, k ≤ len ∧ pre.map v = upto16 (bk16 len zs) k) len w := fun l J Jx W hW _ _ hY h0 => by
  have hc' := (hW.cell (p := ⟨Bs, 0, none⟩) hBs).trans hc
  rcases hI.below (hW.mono hn₀) with rfl | ⟨b, off, rfl, hb, hcs⟩
  · exact (back1_nil_in F n h1 hro l Bs a cap J W hc' h0).mono fun e W' ⟨he, hj⟩ => ⟨he, .inl ⟨_, rfl, hj⟩⟩
  · refine (back1_in F n h1 hro hn l Bs n₀ b off len cap zs v hmk hreach hb J Jx hY W hc' hcs h0).mono ?_
    rintro e W' ⟨he, ⟨ys, hys, hj⟩ | ⟨pre, ⟨k, hk, hpre⟩, hj⟩⟩
    · exact ⟨he, .inl ⟨_, hys, hj⟩⟩
    · exact ⟨he, .inr ⟨_, ⟨k, hk, hpre⟩, hj⟩⟩
def blk16 (k : Int) : Int := min (max k 0) 1099511627776
theorem blk16_range (k : Int) : 0 ≤ blk16 k ∧ blk16 k ≤ 1099511627776 := by unfold blk16; omega
set_option maxHeartbeats 1000000 in
theorem blocks_in (F : Fence) (n : Nat) (h1 : F.fn 17) (hro : F.round = none) (s : Sg) (w : World) :
    CallsIn F n Try.prog 17 #[s.val] w fun e w' => e = .returned (.int .i64 (blk16 s.k)) ∧ w' = w.alloc (.cells #[.int .i64 s.b, .int .i64 s.n, .int .i64 s.w, .int .i64 s.k] 35) := by
  refine callsIn_of_wp Try.func17 rfl h1 ?_ hro
  simp only [Sg.val, Try.ntmps17, List.size_toArray, List.length_cons, List.length_nil, Nat.reduceAdd, Nat.reduceSub, Array.replicate_succ, Array.replicate_zero, List.push_toArray, List.append_toArray, List.nil_append, List.cons_append]
  gi_wp2
  all_goals
    go_ret
    refine ⟨?_, rfl⟩
    have key : ∀ X : Int, X = blk16 s.k → Ending.returned (Value.int .i64 X) = .returned (.int .i64 (blk16 s.k)) := fun X h => by rw [h]
    refine key _ ?_
    first
      | (rename_i hA
         rw [show (if s.k < 0 then (0 : Int) else s.k) = max s.k 0 from by split <;> omega] at hA
         unfold blk16; omega)
      | (unfold blk16; omega)
end Go.Proofs.Ytbncglnlmcjplaa
