/- What a law's shell hands on, said of abstract values. -/
import Derived.Test.YthmkhlmohjcbgaaAxZb
namespace Go.Proofs.Ythmkhlmohjcbgaa
namespace Ax
open Go.RowKit
set_option linter.unusedSimpArgs false
set_option linter.unusedVariables false

theorem wf_i64 {n : Int} (h : (Lit.int .i64 n).wf = true) : -9223372036854775808 ≤ n ∧ n ≤ 9223372036854775807 := by
  simp only [Lit.wf, Bool.and_eq_true, decide_eq_true_eq] at h
  have h1 : IntKind.min .i64 = -9223372036854775808 := by decide
  have h2 : IntKind.max .i64 = 9223372036854775807 := by decide
  rw [h1, h2] at h; exact h
theorem wf_u64 {n : Int} (h : (Lit.int .u64 n).wf = true) : 0 ≤ n ∧ n < 18446744073709551616 := by
  simp only [Lit.wf, Bool.and_eq_true, decide_eq_true_eq] at h
  have h1 : IntKind.min .u64 = 0 := by decide
  have h2 : IntKind.max .u64 = 18446744073709551615 := by decide
  rw [h1, h2] at h; omega
theorem wf_u16 {n : Int} (h : (Lit.int .u16 n).wf = true) : 0 ≤ n ∧ n < 65536 := by
  simp only [Lit.wf, Bool.and_eq_true, decide_eq_true_eq] at h
  have h1 : IntKind.min .u16 = 0 := by decide
  have h2 : IntKind.max .u16 = 65535 := by decide
  rw [h1, h2] at h; omega
theorem wf_u8 {n : Int} (h : (Lit.int .u8 n).wf = true) : 0 ≤ n ∧ n < 256 := by
  simp only [Lit.wf, Bool.and_eq_true, decide_eq_true_eq] at h
  have h1 : IntKind.min .u8 = 0 := by decide
  have h2 : IntKind.max .u8 = 255 := by decide
  rw [h1, h2] at h; omega

def IsRow (k : IntKind) (w : World) (a : Option Addr) (len cap : Nat) (zs : List Int) : Prop :=
  (a = none ∧ len = 0 ∧ cap = 0 ∧ zs = []) ∨
  ∃ x, a = some x ∧ len ≤ cap ∧ cap ≤ maxLen ∧ zs.length = cap ∧ (∀ i, i < zs.length → w.cell? (x.add i) = some (.int k (zs.getD i 0))) ∧ ∀ n ∈ zs, (Lit.int k n).wf = true

theorem not_mut0 (b : Nat) : ¬ Mut loc0 b := by
  rintro (h | ⟨k, h⟩)
  · exact h
  · simp [loc0, locOf] at h

theorem cells_row {k : IntKind} {w : World} {x : Addr} {zs : List Int} (hz : ∀ i, i < zs.length → w.cell? (x.add i) = some (.int k (zs.getD i 0))) (cs : List Value) (hn : cs.length ≤ zs.length)
    (hc : ∀ (j : Nat) (h : j < cs.length), cs[j] = .int k (zs.getD j 0)) : Cells w loc0 (some x) cs := by
  by_cases h0 : cs = []
  · exact ⟨.inl h0⟩
  · have hl : 0 < cs.length := by
      cases cs with
      | nil => exact (h0 rfl).elim
      | cons => simp
    have h1 := hz 0 (by omega)
    rw [show x.add 0 = x from rfl] at h1
    have hx : x.spot = none ∧ x.block < w.heap.size := by
      unfold World.cell? at h1
      split at h1
      · rename_i c e fz hh
        split at h1
        · cases h1
        · rename_i hs
          refine ⟨by simpa using hs, ?_⟩
          rcases Nat.lt_or_ge x.block w.heap.size with h' | h'
          · exact h'
          · rw [Array.getElem?_eq_none h'] at hh; cases hh
      · cases h1
    obtain ⟨b, o, sp⟩ := x
    obtain ⟨rfl, hb⟩ := hx
    refine ⟨.inr ⟨b, o, rfl, not_mut0 b, hb, fun j hj => ?_⟩⟩
    have h2 := hz j (by omega)
    rw [hc j hj, ← h2]
    cases j with
    | zero => rfl
    | succ j => rfl

theorem row_sb {w : World} {a : Option Addr} {len cap : Nat} {zs : List Int} (h : IsRow .u8 w a len cap zs) : ∃ bs : List UInt8, bs.length = len ∧ len ≤ maxLen ∧ R w loc0 (.sb bs false) (.slice a len cap) := by
  rcases h with ⟨rfl, rfl, rfl, rfl⟩ | ⟨x, rfl, hl, hm, hz, hcell, hwf⟩
  · exact ⟨[], rfl, Nat.zero_le _, .sb [] false none 0 ⟨Nat.le_refl _, Nat.zero_le _, fun h => by cases h⟩ ⟨.inl rfl⟩⟩
  · have hlen : ((zs.take len).map fun n => UInt8.ofNat n.toNat).length = len := by simp; omega
    refine ⟨(zs.take len).map fun n => UInt8.ofNat n.toNat, hlen, by omega, ?_⟩
    have := R.sb (w := w) (loc := loc0) ((zs.take len).map fun n => UInt8.ofNat n.toNat) false (some x) cap ⟨by omega, hm, fun h => by cases h⟩
      (cells_row hcell _ (by simp; omega) (fun j hj => by
        have hj' : j < zs.length := by simp at hj; omega
        have hw := wf_u8 (hwf zs[j] (List.getElem_mem _))
        simp only [List.getElem_map, List.getElem_take, byte]
        have e : zs.getD j 0 = zs[j] := by simp [hj']
        rw [e]
        congr 1
        rw [UInt8.toNat_ofNat']
        omega))
    rw [hlen] at this
    exact this

theorem row_si {w : World} {a : Option Addr} {len cap : Nat} {zs : List Int} (h : IsRow .i64 w a len cap zs) : ∃ ns : List Int, ns.length = len ∧ len ≤ maxLen ∧ (∀ n ∈ ns, -9223372036854775808 ≤ n ∧ n ≤ 9223372036854775807) ∧ R w loc0 (.si ns false) (.slice a len cap) := by
  rcases h with ⟨rfl, rfl, rfl, rfl⟩ | ⟨x, rfl, hl, hm, hz, hcell, hwf⟩
  · exact ⟨[], rfl, Nat.zero_le _, by simp, .si [] false none 0 ⟨Nat.le_refl _, Nat.zero_le _, fun h => by cases h⟩ ⟨.inl rfl⟩⟩
  · have hlen : (zs.take len).length = len := by simp; omega
    refine ⟨zs.take len, hlen, by omega, fun n hn => wf_i64 (hwf n (List.mem_of_mem_take hn)), ?_⟩
    have := R.si (w := w) (loc := loc0) (zs.take len) false (some x) cap ⟨by omega, hm, fun h => by cases h⟩
      (cells_row hcell _ (by simp; omega) (fun j hj => by
        have hj' : j < zs.length := by simp at hj; omega
        simp only [List.getElem_map, List.getElem_take, word]
        have e : zs.getD j 0 = zs[j] := by simp [hj']
        rw [e]))
    rw [hlen] at this
    exact this

theorem str_R (w : World) (s : ByteArray) : R w loc0 (.str s.data.toList) (.string s) := by
  have := R.str (w := w) (loc := loc0) s.data.toList
  simpa using this

/-- The arguments of a law, one by one. -/
def RL (w : World) : List AV → List Value → Prop
  | [], [] => True
  | x :: xs, v :: vs => R w loc0 x v ∧ RL w xs vs
  | _, _ => False

theorem RL_get {w : World} : ∀ {xs : List AV} {vs : List Value}, RL w xs vs → xs.length = vs.length ∧ ∀ (j : Nat) (h : j < xs.length) (h' : j < vs.length), R w loc0 xs[j] vs[j]
  | [], [], _ => ⟨rfl, fun j h => by simp at h⟩
  | x :: xs, v :: vs, h => by
    obtain ⟨h1, h2⟩ := RL_get h.2
    refine ⟨by simp [h1], fun j a b => ?_⟩
    cases j with
    | zero => exact h.1
    | succ j => exact h2 j (by simpa using a) (by simpa using b)
  | [], _ :: _, h => h.elim
  | _ :: _, [], h => h.elim

theorem law_runL {P : Program} {f : FuncId} {spec : FSpec} (h : Sound P f spec) {xs : List AV} {vs : List Value} {w : World} (hp : (spec xs []).p) (hx : (spec xs []).x = .w (.bool true)) (hR : RL w xs vs) :
    Calls P f vs.toArray w fun e w' => e = .returned (.bool true) ∧ Below w.heap.size w w' :=
  law_run h hp hx (RL_get hR).1 (RL_get hR).2

end Ax
end Go.Proofs.Ythmkhlmohjcbgaa
