/- What a law's shell hands on, said of abstract values. -/
import Derived.Test.YtbncglnlmcjplaaAxZb
namespace Go.Proofs.Ytbncglnlmcjplaa
namespace Ax
open Go.RowKit
set_option linter.unusedSimpArgs false
set_option linter.unusedVariables false

theorem wf_i64 {n : Int} (h : (Lit.int .i64 n).wf = true) : -9223372036854775808 ≤ n ∧ n ≤ 9223372036854775807 := by
  simp only [Lit.wf, Bool.and_eq_true, decide_eq_true_eq] at h
  have h1 : IntKind.min .i64 = -9223372036854775808 := by decide
  have h2 : IntKind.max .i64 = 9223372036854775807 := by decide
  rw [h1, h2] at h; exact h
theorem wf_u64 {n : Int} (h : (Lit.int .u64 n).wf = true) : 0 ≤ n ∧ n < 18446744073709551616 := by
  simp only [Lit.wf, Bool.and_eq_true, decide_eq_true_eq] at h
  have h1 : IntKind.min .u64 = 0 := by decide
  have h2 : IntKind.max .u64 = 18446744073709551615 := by decide
  rw [h1, h2] at h; omega
theorem wf_u16 {n : Int} (h : (Lit.int .u16 n).wf = true) : 0 ≤ n ∧ n < 65536 := by
  simp only [Lit.wf, Bool.and_eq_true, decide_eq_true_eq] at h
  have h1 : IntKind.min .u16 = 0 := by decide
  have h2 : IntKind.max .u16 = 65535 := by decide
  rw [h1, h2] at h; omega
theorem wf_u8 {n : Int} (h : (Lit.int .u8 n).wf = true) : 0 ≤ n ∧ n < 256 := by
  simp only [Lit.wf, Bool.and_eq_true, decide_eq_true_eq] at h
  have h1 : IntKind.min .u8 = 0 := by decide
  have h2 : IntKind.max .u8 = 255 := by decide
  rw [h1, h2] at h; omega

def IsRow (k : IntKind) (w : World) (a : Option Addr) (len cap : Nat) (zs : List Int) : Prop :=
  (a = none ∧ len = 0 ∧ cap = 0 ∧ zs = []) ∨
  ∃ x, a = some x ∧ len ≤ cap ∧ cap ≤ maxLen ∧ zs.length = cap ∧ (∀ i, i < zs.length → w.cell? (x.add i) = some (.int k (zs.getD i 0))) ∧ ∀ n ∈ zs, (Lit.int k n).wf = true

theorem not_mut0 (b : Nat) : ¬ Mut loc0 b := by
  rintro (h | ⟨k, h⟩)
  · exact h
  · simp [loc0, locOf] at h

theorem cells_row {k : IntKind} {w : World} {x : Addr} {zs : List Int} (hz : ∀ i, i < zs.length → w.cell? (x.add i) = some (.int k (zs.getD i 0))) (cs : List Value) (hn : cs.length ≤ zs.length)
    (hc : ∀ (j : Nat) (h : j < cs.length), cs[j] = .int k (zs.getD j 0)) : Cells w loc0 (some x) cs := by
  by_cases h0 : cs = []
  · exact ⟨.inl h0⟩
  · have hl : 0 < cs.length := by
      cases cs with
      | nil => exact (h0 rfl).elim
      | cons => simp
    have h1 := hz 0 (by omega)
    rw [show x.add 0 = x from rfl] at h1
    have hx : x.spot = none ∧ x.block < w.heap.size := by
      unfold World.cell? at h1
      split at h1
      · rename_i c e fz hh
        split at h1
        · cases h1
        · rename_i hs
          refine ⟨by simpa using hs, ?_⟩
          rcases Nat.lt_or_ge x.block w.heap.size with h' | h'
          · exact h'
          · rw [Array.getElem?_eq_none h'] at hh; cases hh
      · cases h1
    obtain ⟨b, o, sp⟩ := x
    obtain ⟨rfl, hb⟩ := hx
    refine ⟨.inr ⟨b, o, rfl, not_mut0 b, hb, fun j hj => ?_⟩⟩
    have h2 := hz j (by omega)
    rw [hc j hj, ← h2]
    cases j with
    | zero => rfl
    | succ j => rfl

theorem row_sb {w : World} {a : Option Addr} {len cap : Nat} {zs : List Int} (h : IsRow .u8 w a len cap zs) : ∃ bs : List UInt8, bs.length = len ∧ len ≤ maxLen ∧ R w loc0 (.sb bs false) (.slice a len cap) := by
  rcases h with ⟨rfl, rfl, rfl, rfl⟩ | ⟨x, rfl, hl, hm, hz, hcell, hwf⟩
  · exact ⟨[], rfl, Nat.zero_le _, .sb [] false none 0 ⟨Nat.le_refl _, Nat.zero_le _, fun h => by cases h⟩ ⟨.inl rfl⟩⟩
  · have hlen : ((zs.take len).map fun n => UInt8.ofNat n.toNat).length = len := by simp; omega
    refine ⟨(zs.take len).map fun n => UInt8.ofNat n.toNat, hlen, by omega, ?_⟩
    have := R.sb (w := w) (loc := loc0) ((zs.take len).map fun n => UInt8.ofNat n.toNat) false (some x) cap ⟨by omega, hm, fun h => by cases h⟩
      (cells_row hcell _ (by simp; omega) (fun j hj => by
        have hj' : j < zs.length := by simp at hj; omega
        have hw := wf_u8 (hwf zs[j] (List.getElem_mem _))
        simp only [List.getElem_map, List.getElem_take, byte]
        have e : zs.getD j 0 = zs[j] := by simp [hj']
        rw [e]
        congr 1
        rw [UInt8.toNat_ofNat']
        omega))
    rw [hlen] at this
    exact this

theorem row_si {w : World} {a : Option Addr} {len cap : Nat} {zs : List Int} (h : IsRow .i64 w a len cap zs) : ∃ ns : List Int, ns.length = len ∧ len ≤ maxLen ∧ (∀ n ∈ ns, -9223372036854775808 ≤ n ∧ n ≤ 9223372036854775807) ∧ R w loc0 (.si ns false) (.slice a len cap) := by
  rcases h with ⟨rfl, rfl, rfl, rfl⟩ | ⟨x, rfl, hl, hm, hz, hcell, hwf⟩
  · exact ⟨[], rfl, Nat.zero_le _, by simp, .si [] false none 0 ⟨Nat.le_refl _, Nat.zero_le _, fun h => by cases h⟩ ⟨.inl rfl⟩⟩
  · have hlen : (zs.take len).length = len := by simp; omega
    refine ⟨zs.take len, hlen, by omega, fun n hn => wf_i64 (hwf n (List.mem_of_mem_take hn)), ?_⟩
    have := R.si (w := w) (loc := loc0) (zs.take len) false (some x) cap ⟨by omega, hm, fun h => by cases h⟩
      (cells_row hcell _ (by simp; omega) (fun j hj => by
        have hj' : j < zs.length := by simp at hj; omega
        simp only [List.getElem_map, List.getElem_take, word]
        have e : zs.getD j 0 = zs[j] := by simp [hj']
        rw [e]))
    rw [hlen] at this
    exact this

theorem str_R (w : World) (s : ByteArray) : R w loc0 (.str s.data.toList) (.string s) := by
  have := R.str (w := w) (loc := loc0) s.data.toList
  simpa using this

/-- The arguments of a law, one by one. -/
def RL (w : World) : List AV → List Value → Prop
  | [], [] => True
  | x :: xs, v :: vs => R w loc0 x v ∧ RL w xs vs
  | _, _ => False

theorem RL_get {w : World} : ∀ {xs : List AV} {vs : List Value}, RL w xs vs → xs.length = vs.length ∧ ∀ (j : Nat) (h : j < xs.length) (h' : j < vs.length), R w loc0 xs[j] vs[j]
  | [], [], _ => ⟨rfl, fun j h => by simp at h⟩
  | x :: xs, v :: vs, h => by
    obtain ⟨h1, h2⟩ := RL_get h.2
    refine ⟨by simp [h1], fun j a b => ?_⟩
    cases j with
    | zero => exact h.1
    | succ j => exact h2 j (by simpa using a) (by simpa using b)
  | [], _ :: _, h => h.elim
  | _ :: _, [], h => h.elim

theorem law_runL {P : Program} {f : FuncId} {spec : FSpec} (h : Sound P f spec) {xs : List AV} {vs : List Value} {w : World} (hp : (spec xs []).p) (hx : (spec xs []).x = .w (.bool true)) (hR : RL w xs vs) :
    Calls P f vs.toArray w fun e w' => e = .returned (.bool true) ∧ Below w.heap.size w w' :=
  law_run h hp hx (RL_get hR).1 (RL_get hR).2

end Ax
end Go.Proofs.Ytbncglnlmcjplaa

namespace Go.Proofs.Ytbncglnlmcjplaa
open Ax
/-- What an evaluation is told by, beside the definitions: one name for all. -/
theorem evT : (type_of% @awp_skip) ∧
    (type_of% @awp_label) ∧
    (type_of% @awp_ret) ∧
    (type_of% @awp_exit) ∧
    (type_of% @awp_region) ∧
    (type_of% @awp_seq) ∧
    (type_of% @awp_block) ∧
    (type_of% @awp_cond) ∧
    (type_of% @aops_nil) ∧
    (type_of% @aops_plain) ∧
    (type_of% @aops_guard) ∧
    (type_of% @later_exit) ∧
    (type_of% @later_ret) ∧
    (type_of% @blockK_normal) ∧
    (type_of% @blockK_exit) ∧
    (type_of% @blockK_ret) ∧
    (type_of% @regK_apply) ∧
    (type_of% @true_and) ∧
    (type_of% @and_true) ∧
    (type_of% @Nat.le_refl) ∧
    (type_of% @false_implies) ∧
    (type_of% @List.nil_append.{0}) ∧
    (type_of% @List.append_nil.{0}) ∧
    (type_of% @List.cons_append.{0}) ∧
    (type_of% @Nat.zero_le) ∧
    (type_of% @Bool.false_eq_true) ∧
    (type_of% @cond_false.{1}) ∧
    (type_of% @cond_true.{1}) ∧
    (type_of% @List.getElem?_cons_succ.{0}) ∧
    (type_of% @List.getElem?_cons_zero.{0}) ∧
    (type_of% @ne_eq.{1}) ∧
    (type_of% @not_false_eq_true) ∧
    (type_of% @and_self) ∧
    (type_of% @true_implies) ∧
    (type_of% @AV.w.injEq) ∧
    (type_of% @Nat.min_def) ∧
    (type_of% @List.set_cons_zero.{0}) ∧
    (type_of% @List.set_cons_succ.{0}) ∧
    (type_of% @List.replicate_succ.{0}) ∧
    (type_of% @List.replicate_zero.{0}) ∧
    (type_of% @List.length_append.{0}) ∧
    (type_of% @List.length_cons.{0}) ∧
    (type_of% @List.length_nil.{0}) ∧
    (type_of% @Nat.zero_add) ∧
    (type_of% @Nat.add_zero) ∧
    (type_of% @Bool.not_true) ∧
    (type_of% @Bool.not_false) ∧
    (type_of% @Bool.true_and) ∧
    (type_of% @Bool.and_true) ∧
    (type_of% @Bool.and_false) ∧
    (type_of% @Bool.false_and) ∧
    (type_of% @not_true_eq_false) ∧
    (type_of% @not_false_iff) ∧
    (type_of% @or_false) ∧
    (type_of% @or_true) ∧
    (type_of% @false_or) ∧
    (type_of% @true_or) ∧
    (type_of% @Int.toNat_natCast) ∧
    (type_of% @List.length_replicate.{0}) ∧
    (type_of% @gsplit_bt) ∧
    (type_of% @gsplit_bf) ∧
    (type_of% @csplit_b) ∧
    (type_of% @beq_self_eq_true.{0}) ∧
    (type_of% @BEq.rfl.{0}) ∧
    (type_of% @List.mem_cons.{0}) ∧
    (type_of% @List.not_mem_nil.{0}) ∧
    (type_of% @List.all_cons.{0}) ∧
    (type_of% @List.all_nil.{0}) ∧
    (type_of% @Bool.or_false) ∧
    (type_of% @Bool.or_true) ∧
    (type_of% @Bool.true_or) ∧
    (type_of% @Bool.false_or) ∧
    (type_of% @decide_true) ∧
    (type_of% @decide_false) ∧
    (type_of% @Value.int.injEq) ∧
    (type_of% @Value.bool.injEq) ∧
    (type_of% @IntKind.wrap_u8) ∧
    (type_of% @IntKind.wrap_u64) ∧
    (type_of% @IntKind.wrap_i64) :=
  ⟨@awp_skip, @awp_label, @awp_ret, @awp_exit, @awp_region, @awp_seq, @awp_block, @awp_cond, @aops_nil, @aops_plain, @aops_guard, @later_exit, @later_ret, @blockK_normal, @blockK_exit, @blockK_ret, @regK_apply, @true_and, @and_true, @Nat.le_refl, @false_implies, @List.nil_append.{0}, @List.append_nil.{0}, @List.cons_append.{0}, @Nat.zero_le, @Bool.false_eq_true, @cond_false.{1}, @cond_true.{1}, @List.getElem?_cons_succ.{0}, @List.getElem?_cons_zero.{0}, @ne_eq.{1}, @not_false_eq_true, @and_self, @true_implies, @AV.w.injEq, @Nat.min_def, @List.set_cons_zero.{0}, @List.set_cons_succ.{0}, @List.replicate_succ.{0}, @List.replicate_zero.{0}, @List.length_append.{0}, @List.length_cons.{0}, @List.length_nil.{0}, @Nat.zero_add, @Nat.add_zero, @Bool.not_true, @Bool.not_false, @Bool.true_and, @Bool.and_true, @Bool.and_false, @Bool.false_and, @not_true_eq_false, @not_false_iff, @or_false, @or_true, @false_or, @true_or, @Int.toNat_natCast, @List.length_replicate.{0}, @gsplit_bt, @gsplit_bf, @csplit_b, @beq_self_eq_true.{0}, @BEq.rfl.{0}, @List.mem_cons.{0}, @List.not_mem_nil.{0}, @List.all_cons.{0}, @List.all_nil.{0}, @Bool.or_false, @Bool.or_true, @Bool.true_or, @Bool.false_or, @decide_true, @decide_false, @Value.int.injEq, @Value.bool.injEq, @IntKind.wrap_u8, @IntKind.wrap_u64, @IntKind.wrap_i64⟩
/-- The evaluator, equation by equation. -/
theorem evD0 : (type_of% @Ax.slot.eq_1) ∧
    (type_of% @Ax.slot.eq_2) ∧
    (type_of% @Ax.slot.eq_3) ∧
    (type_of% @Ax.setSlot.eq_1) ∧
    (type_of% @Ax.setSlot.eq_2) ∧
    (type_of% @Ax.setSlot.eq_3) ∧
    (type_of% @Ax.Out.and.eq_1) ∧
    (type_of% @Ax.isBool.eq_1) ∧
    (type_of% @Ax.isPtr.eq_1) ∧
    (type_of% @Ax.evs.eq_1) ∧
    (type_of% @Ax.evs.eq_2) ∧
    (type_of% @Ax.evps.eq_1) ∧
    (type_of% @Ax.evps.eq_2) ∧
    (type_of% @Ax.aCall.eq_1) ∧
    (type_of% @Ax.aUser.eq_1) ∧
    (type_of% @Ax.coes.eq_1) ∧
    (type_of% @Ax.coes.eq_2) ∧
    (type_of% @Ax.callOut.eq_1) ∧
    (type_of% @Ax.rootsL.eq_1) ∧
    (type_of% @Ax.rootsL.eq_2) ∧
    (type_of% @Ax.AV.roots.eq_1) ∧
    (type_of% @Ax.AV.roots.eq_2) ∧
    (type_of% @Ax.AV.roots.eq_3) ∧
    (type_of% @Ax.AV.roots.eq_4) ∧
    (type_of% @Ax.lendsL.eq_1) ∧
    (type_of% @Ax.lendsL.eq_2) ∧
    (type_of% @Ax.AV.lends.eq_1) ∧
    (type_of% @Ax.AV.lends.eq_2) ∧
    (type_of% @Ax.AV.lends.eq_3) ∧
    (type_of% @Ax.AV.lends.eq_4) ∧
    (type_of% @Ax.pinsOf.eq_1) ∧
    (type_of% @Ax.pinsOf.eq_2) ∧
    (type_of% @Ax.nodup.eq_1) ∧
    (type_of% @Ax.nodup.eq_2) ∧
    (type_of% @Ax.lendL.eq_1) ∧
    (type_of% @Ax.lendL.eq_2) ∧
    (type_of% @Ax.lend.eq_1) ∧
    (type_of% @Ax.lend.eq_2) ∧
    (type_of% @Ax.lend.eq_3) ∧
    (type_of% @Ax.lend.eq_4) ∧
    (type_of% @Ax.lend.eq_5) ∧
    (type_of% @Ax.lend.eq_6) ∧
    (type_of% @Ax.lend.eq_7) ∧
    (type_of% @Ax.lend.eq_8) ∧
    (type_of% @Ax.lend.eq_9) ∧
    (type_of% @Ax.lend.eq_10) ∧
    (type_of% @Ax.lend.eq_11) ∧
    (type_of% @Ax.lend.eq_12) ∧
    (type_of% @Ax.closedB.eq_1) ∧
    (type_of% @Ax.closedB.eq_2) ∧
    (type_of% @Ax.noimmB.eq_1) ∧
    (type_of% @Ax.noimmB.eq_2) ∧
    (type_of% @Ax.AV.noimm.eq_1) ∧
    (type_of% @Ax.AV.noimm.eq_2) ∧
    (type_of% @Ax.AV.noimm.eq_3) ∧
    (type_of% @Ax.AV.noimm.eq_4) :=
  ⟨@Ax.slot.eq_1, @Ax.slot.eq_2, @Ax.slot.eq_3, @Ax.setSlot.eq_1, @Ax.setSlot.eq_2, @Ax.setSlot.eq_3, @Ax.Out.and.eq_1, @Ax.isBool.eq_1, @Ax.isPtr.eq_1, @Ax.evs.eq_1, @Ax.evs.eq_2, @Ax.evps.eq_1, @Ax.evps.eq_2, @Ax.aCall.eq_1, @Ax.aUser.eq_1, @Ax.coes.eq_1, @Ax.coes.eq_2, @Ax.callOut.eq_1, @Ax.rootsL.eq_1, @Ax.rootsL.eq_2, @Ax.AV.roots.eq_1, @Ax.AV.roots.eq_2, @Ax.AV.roots.eq_3, @Ax.AV.roots.eq_4, @Ax.lendsL.eq_1, @Ax.lendsL.eq_2, @Ax.AV.lends.eq_1, @Ax.AV.lends.eq_2, @Ax.AV.lends.eq_3, @Ax.AV.lends.eq_4, @Ax.pinsOf.eq_1, @Ax.pinsOf.eq_2, @Ax.nodup.eq_1, @Ax.nodup.eq_2, @Ax.lendL.eq_1, @Ax.lendL.eq_2, @Ax.lend.eq_1, @Ax.lend.eq_2, @Ax.lend.eq_3, @Ax.lend.eq_4, @Ax.lend.eq_5, @Ax.lend.eq_6, @Ax.lend.eq_7, @Ax.lend.eq_8, @Ax.lend.eq_9, @Ax.lend.eq_10, @Ax.lend.eq_11, @Ax.lend.eq_12, @Ax.closedB.eq_1, @Ax.closedB.eq_2, @Ax.noimmB.eq_1, @Ax.noimmB.eq_2, @Ax.AV.noimm.eq_1, @Ax.AV.noimm.eq_2, @Ax.AV.noimm.eq_3, @Ax.AV.noimm.eq_4⟩
/-- The evaluator, equation by equation. -/
theorem evD1 : (type_of% @Ax.AV.noimm.eq_5) ∧
    (type_of% @Ax.AV.noimm.eq_6) ∧
    (type_of% @Ax.AV.noimm.eq_7) ∧
    (type_of% @Ax.AV.noimm.eq_8) ∧
    (type_of% @Ax.AV.ren.eq_1) ∧
    (type_of% @Ax.AV.ren.eq_2) ∧
    (type_of% @Ax.AV.ren.eq_3) ∧
    (type_of% @Ax.AV.ren.eq_4) ∧
    (type_of% @Ax.AV.ren.eq_5) ∧
    (type_of% @Ax.AV.ren.eq_6) ∧
    (type_of% @Ax.renL.eq_1) ∧
    (type_of% @Ax.renL.eq_2) ∧
    (type_of% @Ax.back.eq_1) ∧
    (type_of% @Ax.back.eq_2) ∧
    (type_of% @Ax.aLoad.eq_1) ∧
    (type_of% @Ax.subv.eq_1) ∧
    (type_of% @Ax.guardSlot.eq_1) ∧
    (type_of% @Ax.byte.eq_1) ∧
    (type_of% @Ax.word.eq_1) ∧
    (type_of% @Ax.EndsX.eq_1) ∧
    (type_of% @Ax.rvals.eq_1) ∧
    (type_of% @Ax.rvals.eq_2) ∧
    (type_of% @Ax.rvals.eq_3) ∧
    (type_of% @Ax.AV.ids.eq_1) ∧
    (type_of% @Ax.AV.ids.eq_2) ∧
    (type_of% @Ax.AV.ids.eq_3) ∧
    (type_of% @Ax.AV.ids.eq_4) ∧
    (type_of% @Ax.AV.ids.eq_5) ∧
    (type_of% @Ax.AV.ids.eq_6) ∧
    (type_of% @Ax.idsL.eq_1) ∧
    (type_of% @Ax.idsL.eq_2) ∧
    (type_of% @Ax.newIds.eq_1) ∧
    (type_of% @Ax.newIds.eq_2) ∧
    (type_of% @Ax.upTo.eq_1) ∧
    (type_of% @Ax.upTo.eq_2) ∧
    (type_of% @Ax.pinHeap.eq_1) ∧
    (type_of% @Ax.pinHeap.eq_2) ∧
    (type_of% @Ax.gOf.eq_1) ∧
    (type_of% @Ax.gOf.eq_2) ∧
    (type_of% @Ax.gOf.eq_3) ∧
    (type_of% @Ax.aBuildSlice.eq_1) ∧
    (type_of% @Ax.fillB.eq_1) ∧
    (type_of% @Ax.fillB.eq_2) ∧
    (type_of% @Ax.fillB.eq_3) ∧
    (type_of% @Ax.look.eq_1) ∧
    (type_of% @Ax.look.eq_2) ∧
    (type_of% @Ax.put.eq_1) ∧
    (type_of% @Ax.drop.eq_1) ∧
    (type_of% @Ax.drop.eq_2) ∧
    (type_of% @Ax.asv.eq_1) ∧
    (type_of% @Ax.aMake.eq_1) ∧
    (type_of% @Ax.fillG.eq_1) ∧
    (type_of% @Ax.fillG.eq_2) ∧
    (type_of% @Ax.fillI.eq_1) ∧
    (type_of% @Ax.fillI.eq_2) ∧
    (type_of% @Ax.fillI.eq_3) :=
  ⟨@Ax.AV.noimm.eq_5, @Ax.AV.noimm.eq_6, @Ax.AV.noimm.eq_7, @Ax.AV.noimm.eq_8, @Ax.AV.ren.eq_1, @Ax.AV.ren.eq_2, @Ax.AV.ren.eq_3, @Ax.AV.ren.eq_4, @Ax.AV.ren.eq_5, @Ax.AV.ren.eq_6, @Ax.renL.eq_1, @Ax.renL.eq_2, @Ax.back.eq_1, @Ax.back.eq_2, @Ax.aLoad.eq_1, @Ax.subv.eq_1, @Ax.guardSlot.eq_1, @Ax.byte.eq_1, @Ax.word.eq_1, @Ax.EndsX.eq_1, @Ax.rvals.eq_1, @Ax.rvals.eq_2, @Ax.rvals.eq_3, @Ax.AV.ids.eq_1, @Ax.AV.ids.eq_2, @Ax.AV.ids.eq_3, @Ax.AV.ids.eq_4, @Ax.AV.ids.eq_5, @Ax.AV.ids.eq_6, @Ax.idsL.eq_1, @Ax.idsL.eq_2, @Ax.newIds.eq_1, @Ax.newIds.eq_2, @Ax.upTo.eq_1, @Ax.upTo.eq_2, @Ax.pinHeap.eq_1, @Ax.pinHeap.eq_2, @Ax.gOf.eq_1, @Ax.gOf.eq_2, @Ax.gOf.eq_3, @Ax.aBuildSlice.eq_1, @Ax.fillB.eq_1, @Ax.fillB.eq_2, @Ax.fillB.eq_3, @Ax.look.eq_1, @Ax.look.eq_2, @Ax.put.eq_1, @Ax.drop.eq_1, @Ax.drop.eq_2, @Ax.asv.eq_1, @Ax.aMake.eq_1, @Ax.fillG.eq_1, @Ax.fillG.eq_2, @Ax.fillI.eq_1, @Ax.fillI.eq_2, @Ax.fillI.eq_3⟩
/-- The evaluator, equation by equation. -/
theorem evD2 : (type_of% @Ax.bnds.eq_1) ∧
    (type_of% @Ax.cut.eq_1) ∧
    (type_of% @Ax.aFieldAddr.eq_1) ∧
    (type_of% @Ax.aField.eq_1) ∧
    (type_of% @Ax.aBox.eq_1) ∧
    (type_of% @Ax.aBuild.eq_1) ∧
    (type_of% @Ax.fillS.eq_1) ∧
    (type_of% @Ax.fillS.eq_2) ∧
    (type_of% @Ax.allTy.eq_1) ∧
    (type_of% @Ax.allTy.eq_2) ∧
    (type_of% @Ax.splice.eq_1) ∧
    (type_of% @Ax.isBytes.eq_1) ∧
    (type_of% @Ax.aAlloc.eq_1) ∧
    (type_of% @Ax.closedL.eq_1) ∧
    (type_of% @Ax.closedL.eq_2) ∧
    (type_of% @Ax.AV.closed.eq_1) ∧
    (type_of% @Ax.AV.closed.eq_2) ∧
    (type_of% @Ax.AV.closed.eq_3) ∧
    (type_of% @Ax.AV.closed.eq_4) ∧
    (type_of% @Ax.AV.closed.eq_5) ∧
    (type_of% @Ax.AV.closed.eq_6) ∧
    (type_of% @Ax.idx.eq_1) ∧
    (type_of% @Ax.idx.eq_2) ∧
    (type_of% @Ax.AV.lentIds.eq_1) ∧
    (type_of% @Ax.AV.lentIds.eq_2) ∧
    (type_of% @Ax.AV.lentIds.eq_3) ∧
    (type_of% @Ax.AV.lentIds.eq_4) ∧
    (type_of% @Ax.lentIdsL.eq_1) ∧
    (type_of% @Ax.lentIdsL.eq_2) ∧
    (type_of% @Ax.dropAll.eq_1) ∧
    (type_of% @Ax.dropAll.eq_2) ∧
    (type_of% @Ax.AV.clean.eq_1) ∧
    (type_of% @Ax.AV.clean.eq_2) ∧
    (type_of% @Ax.AV.clean.eq_3) ∧
    (type_of% @Ax.AV.clean.eq_4) ∧
    (type_of% @Ax.AV.clean.eq_5) ∧
    (type_of% @Ax.AV.clean.eq_6) ∧
    (type_of% @Ax.AV.clean.eq_7) ∧
    (type_of% @Ax.AV.clean.eq_8) ∧
    (type_of% @Ax.cleanL.eq_1) ∧
    (type_of% @Ax.cleanL.eq_2) ∧
    (type_of% @Ax.cleanB.eq_1) ∧
    (type_of% @Ax.cleanB.eq_2) ∧
    (type_of% @Ax.quietC.eq_1) ∧
    (type_of% @Ax.flatTy.eq_1) ∧
    (type_of% @Ax.coldStr.eq_1) ∧
    (type_of% @Ax.eqV.eq_1) ∧
    (type_of% @Ax.eqV.eq_2) ∧
    (type_of% @Ax.eqV.eq_3) ∧
    (type_of% @Ax.eqV.eq_4) ∧
    (type_of% @Ax.eqV.eq_5) ∧
    (type_of% @Ax.eqF.eq_1) ∧
    (type_of% @Ax.eqF.eq_2) ∧
    (type_of% @Ax.isStruct.eq_1) :=
  ⟨@Ax.bnds.eq_1, @Ax.cut.eq_1, @Ax.aFieldAddr.eq_1, @Ax.aField.eq_1, @Ax.aBox.eq_1, @Ax.aBuild.eq_1, @Ax.fillS.eq_1, @Ax.fillS.eq_2, @Ax.allTy.eq_1, @Ax.allTy.eq_2, @Ax.splice.eq_1, @Ax.isBytes.eq_1, @Ax.aAlloc.eq_1, @Ax.closedL.eq_1, @Ax.closedL.eq_2, @Ax.AV.closed.eq_1, @Ax.AV.closed.eq_2, @Ax.AV.closed.eq_3, @Ax.AV.closed.eq_4, @Ax.AV.closed.eq_5, @Ax.AV.closed.eq_6, @Ax.idx.eq_1, @Ax.idx.eq_2, @Ax.AV.lentIds.eq_1, @Ax.AV.lentIds.eq_2, @Ax.AV.lentIds.eq_3, @Ax.AV.lentIds.eq_4, @Ax.lentIdsL.eq_1, @Ax.lentIdsL.eq_2, @Ax.dropAll.eq_1, @Ax.dropAll.eq_2, @Ax.AV.clean.eq_1, @Ax.AV.clean.eq_2, @Ax.AV.clean.eq_3, @Ax.AV.clean.eq_4, @Ax.AV.clean.eq_5, @Ax.AV.clean.eq_6, @Ax.AV.clean.eq_7, @Ax.AV.clean.eq_8, @Ax.cleanL.eq_1, @Ax.cleanL.eq_2, @Ax.cleanB.eq_1, @Ax.cleanB.eq_2, @Ax.quietC.eq_1, @Ax.flatTy.eq_1, @Ax.coldStr.eq_1, @Ax.eqV.eq_1, @Ax.eqV.eq_2, @Ax.eqV.eq_3, @Ax.eqV.eq_4, @Ax.eqV.eq_5, @Ax.eqF.eq_1, @Ax.eqF.eq_2, @Ax.isStruct.eq_1⟩
end Go.Proofs.Ytbncglnlmcjplaa
