/- What the proofs of this seat stand on; it asks nothing. -/
import Derived.Test.YtnmomgcanfpigaaZa05
set_option linter.unusedSimpArgs false
set_option linter.unusedVariables false
namespace Go.Proofs.Ytnmomgcanfpigaa
namespace Ax
open Go.RowKit
theorem wf_i64 {n : Int} (h : (Lit.int .i64 n).wf = true) : -9223372036854775808 ≤ n ∧ n ≤ 9223372036854775807 := by
 simp only [Lit.wf,Bool.and_eq_true,decide_eq_true_eq] at h
 have h1 : IntKind.min .i64 = -9223372036854775808 := by decide
 have h2 : IntKind.max .i64 = 9223372036854775807 := by decide
 rw [h1,h2] at h; exact h
theorem wf_u8 {n : Int} (h : (Lit.int .u8 n).wf = true) : 0 ≤ n ∧ n < 256 := by
 simp only [Lit.wf,Bool.and_eq_true,decide_eq_true_eq] at h
 have h1 : IntKind.min .u8 = 0 := by decide
 have h2 : IntKind.max .u8 = 255 := by decide
 rw [h1,h2] at h; omega
def IsRow (k : IntKind) (w : World) (a : Option Addr) (len cap : Nat) (zs : List Int) : Prop :=
 (a = none ∧ len = 0 ∧ cap = 0 ∧ zs = []) ∨
 ∃ x,a = some x ∧ len ≤ cap ∧ cap ≤ maxLen ∧ zs.length = cap ∧ (∀ i,i < zs.length → w.cell? (x.add i) = some (.int k (zs.getD i 0))) ∧ ∀ n ∈ zs,(Lit.int k n).wf = true
theorem not_mut0 (b : Nat) : ¬ Mut loc0 b := by
 rintro (h | ⟨k,h⟩)
 · exact h
 · simp [loc0,zap] at h
theorem cells_row {k : IntKind} {w : World} {x : Addr} {zs : List Int} (hz : ∀ i,i < zs.length → w.cell? (x.add i) = some (.int k (zs.getD i 0))) (cs : List Value) (hn : cs.length ≤ zs.length)
   (hc : ∀ (j : Nat) (h : j < cs.length),cs[j] = .int k (zs.getD j 0)) : Cells w loc0 (some x) cs := by
 by_cases h0 : cs = []
 · exact ⟨.inl h0⟩
 · have hl : 0 < cs.length := by
     cases cs with
     | nil => exact (h0 rfl).elim
     | cons => simp
   have h1 := hz 0 (by omega)
   rw [show x.add 0 = x from rfl] at h1
   have hx : x.spot = none ∧ x.block < w.heap.size := by
     unfold World.cell? at h1
     split at h1
     · rename_i c e fz hh
       split at h1
       · cases h1
       · rename_i hs
         refine ⟨by simpa using hs,?_⟩
         rcases Nat.lt_or_ge x.block w.heap.size with h' | h'
         · exact h'
         · rw [Array.getElem?_eq_none h'] at hh; cases hh
     · cases h1
   obtain ⟨b,o,sp⟩ := x
   obtain ⟨rfl,hb⟩ := hx
   refine ⟨.inr ⟨b,o,rfl,not_mut0 b,hb,fun j hj => ?_⟩⟩
   have h2 := hz j (by omega)
   rw [hc j hj,← h2]
   cases j with
   | zero => rfl
   | succ j => rfl
theorem row_sb {w : World} {a : Option Addr} {len cap : Nat} {zs : List Int} (h : IsRow .u8 w a len cap zs) : ∃ bs : List UInt8,bs.length = len ∧ len ≤ maxLen ∧ R w loc0 (.sb bs false) (.slice a len cap) := by
 rcases h with ⟨rfl,rfl,rfl,rfl⟩ | ⟨x,rfl,hl,hm,hz,hcell,hwf⟩
 · exact ⟨[],rfl,Nat.zero_le _,.sb [] false none 0 ⟨Nat.le_refl _,Nat.zero_le _,fun h => by cases h⟩ ⟨.inl rfl⟩⟩
 · have hlen : ((zs.take len).map fun n => UInt8.ofNat n.toNat).length = len := by simp; omega
   refine ⟨(zs.take len).map fun n => UInt8.ofNat n.toNat,hlen,by omega,?_⟩
   have := R.sb (w := w) (loc := loc0) ((zs.take len).map fun n => UInt8.ofNat n.toNat) false (some x) cap ⟨by omega,hm,fun h => by cases h⟩
     (cells_row hcell _ (by simp; omega) (fun j hj => by
       have hj' : j < zs.length := by simp at hj; omega
       have hw := wf_u8 (hwf zs[j] (List.getElem_mem _))
       simp only [List.getElem_map,List.getElem_take,byte]
       have e : zs.getD j 0 = zs[j] := by simp [hj']
       rw [e]
       congr 1
       rw [UInt8.toNat_ofNat']
       omega))
   rw [hlen] at this
   exact this
theorem row_si {w : World} {a : Option Addr} {len cap : Nat} {zs : List Int} (h : IsRow .i64 w a len cap zs) : ∃ ns : List Int,ns.length = len ∧ len ≤ maxLen ∧ (∀ n ∈ ns,-9223372036854775808 ≤ n ∧ n ≤ 9223372036854775807) ∧ R w loc0 (.si ns false) (.slice a len cap) := by
 rcases h with ⟨rfl,rfl,rfl,rfl⟩ | ⟨x,rfl,hl,hm,hz,hcell,hwf⟩
 · exact ⟨[],rfl,Nat.zero_le _,by simp,.si [] false none 0 ⟨Nat.le_refl _,Nat.zero_le _,fun h => by cases h⟩ ⟨.inl rfl⟩⟩
 · have hlen : (zs.take len).length = len := by simp; omega
   refine ⟨zs.take len,hlen,by omega,fun n hn => wf_i64 (hwf n (List.mem_of_mem_take hn)),?_⟩
   have := R.si (w := w) (loc := loc0) (zs.take len) false (some x) cap ⟨by omega,hm,fun h => by cases h⟩
     (cells_row hcell _ (by simp; omega) (fun j hj => by
       have hj' : j < zs.length := by simp at hj; omega
       simp only [List.getElem_map,List.getElem_take,word]
       have e : zs.getD j 0 = zs[j] := by simp [hj']
       rw [e]))
   rw [hlen] at this
   exact this
theorem str_R (w : World) (s : ByteArray) : R w loc0 (.str s.data.toList) (.string s) := by
 have := R.str (w := w) (loc := loc0) s.data.toList
 simpa using this
def RL (w : World) : List AV → List Value → Prop
 | [],[] => True
 | x :: xs,v :: vs => R w loc0 x v ∧ RL w xs vs
 | _,_ => False
theorem RL_get {w : World} : ∀ {xs : List AV} {vs : List Value},RL w xs vs → xs.length = vs.length ∧ ∀ (j : Nat) (h : j < xs.length) (h' : j < vs.length),R w loc0 xs[j] vs[j]
 | [],[],_ => ⟨rfl,fun j h => by simp at h⟩
 | x :: xs,v :: vs,h => by
   obtain ⟨h1,h2⟩ := RL_get h.2
   refine ⟨by simp [h1],fun j a b => ?_⟩
   cases j with
   | zero => exact h.1
   | succ j => exact h2 j (by simpa using a) (by simpa using b)
 | [],_ :: _,h => h.elim
 | _ :: _,[],h => h.elim
theorem law_runL {P : Program} {f : FuncId} {spec : zal} (h : zbb P f spec) {xs : List AV} {vs : List Value} {w : World} (hp : (spec xs []).p) (hx : (spec xs []).x = .w (.bool true)) (hR : RL w xs vs) :
   Calls P f vs.toArray w fun e w' => e = .returned (.bool true) ∧ Below w.heap.size w w' :=
 law_run h hp hx (RL_get hR).1 (RL_get hR).2
end Ax
end Go.Proofs.Ytnmomgcanfpigaa
namespace Go.Proofs.Ytnmomgcanfpigaa
open Ax
theorem evT : (type_of% @awp_skip) ∧
   (type_of% @awp_label) ∧
   (type_of% @awp_ret) ∧
   (type_of% @awp_exit) ∧
   (type_of% @awp_region) ∧
   (type_of% @awp_seq) ∧
   (type_of% @awp_block) ∧
   (type_of% @awp_cond) ∧
   (type_of% @aops_nil) ∧
   (type_of% @aops_plain) ∧
   (type_of% @aops_guard) ∧
   (type_of% @later_exit) ∧
   (type_of% @later_ret) ∧
   (type_of% @blockK_normal) ∧
   (type_of% @blockK_exit) ∧
   (type_of% @blockK_ret) ∧
   (type_of% @regK_apply) ∧
   (type_of% @true_and) ∧
   (type_of% @and_true) ∧
   (type_of% @Nat.le_refl) ∧
   (type_of% @false_implies) ∧
   (type_of% @List.nil_append.{0}) ∧
   (type_of% @List.append_nil.{0}) ∧
   (type_of% @List.cons_append.{0}) ∧
   (type_of% @Nat.zero_le) ∧
   (type_of% @Bool.false_eq_true) ∧
   (type_of% @cond_false.{1}) ∧
   (type_of% @cond_true.{1}) ∧
   (type_of% @List.getElem?_cons_succ.{0}) ∧
   (type_of% @List.getElem?_cons_zero.{0}) ∧
   (type_of% @ne_eq.{1}) ∧
   (type_of% @not_false_eq_true) ∧
   (type_of% @and_self) ∧
   (type_of% @true_implies) ∧
   (type_of% @AV.w.injEq) ∧
   (type_of% @Nat.min_def) ∧
   (type_of% @List.set_cons_zero.{0}) ∧
   (type_of% @List.set_cons_succ.{0}) ∧
   (type_of% @List.replicate_succ.{0}) ∧
   (type_of% @List.replicate_zero.{0}) ∧
   (type_of% @List.length_append.{0}) ∧
   (type_of% @List.length_cons.{0}) ∧
   (type_of% @List.length_nil.{0}) ∧
   (type_of% @Nat.zero_add) ∧
   (type_of% @Nat.add_zero) ∧
   (type_of% @Bool.not_true) ∧
   (type_of% @Bool.not_false) ∧
   (type_of% @Bool.true_and) ∧
   (type_of% @Bool.and_true) ∧
   (type_of% @Bool.and_false) ∧
   (type_of% @Bool.false_and) ∧
   (type_of% @not_true_eq_false) ∧
   (type_of% @not_false_iff) ∧
   (type_of% @or_false) ∧
   (type_of% @or_true) ∧
   (type_of% @false_or) ∧
   (type_of% @true_or) ∧
   (type_of% @Int.toNat_natCast) ∧
   (type_of% @List.length_replicate.{0}) ∧
   (type_of% @gsplit_bt) ∧
   (type_of% @gsplit_bf) ∧
   (type_of% @csplit_b) ∧
   (type_of% @beq_self_eq_true.{0}) ∧
   (type_of% @BEq.rfl.{0}) ∧
   (type_of% @List.mem_cons.{0}) ∧
   (type_of% @List.not_mem_nil.{0}) ∧
   (type_of% @List.all_cons.{0}) ∧
   (type_of% @List.all_nil.{0}) ∧
   (type_of% @Bool.or_false) ∧
   (type_of% @Bool.or_true) ∧
   (type_of% @Bool.true_or) ∧
   (type_of% @Bool.false_or) ∧
   (type_of% @decide_true) ∧
   (type_of% @decide_false) ∧
   (type_of% @Value.int.injEq) ∧
   (type_of% @Value.bool.injEq) ∧
   (type_of% @IntKind.wrap_u8) ∧
   (type_of% @IntKind.wrap_u64) ∧
   (type_of% @IntKind.wrap_i64) :=
 ⟨@awp_skip,@awp_label,@awp_ret,@awp_exit,@awp_region,@awp_seq,@awp_block,@awp_cond,@aops_nil,@aops_plain,@aops_guard,@later_exit,@later_ret,@blockK_normal,@blockK_exit,@blockK_ret,@regK_apply,@true_and,@and_true,@Nat.le_refl,@false_implies,@List.nil_append.{0},@List.append_nil.{0},@List.cons_append.{0},@Nat.zero_le,@Bool.false_eq_true,@cond_false.{1},@cond_true.{1},@List.getElem?_cons_succ.{0},@List.getElem?_cons_zero.{0},@ne_eq.{1},@not_false_eq_true,@and_self,@true_implies,@AV.w.injEq,@Nat.min_def,@List.set_cons_zero.{0},@List.set_cons_succ.{0},@List.replicate_succ.{0},@List.replicate_zero.{0},@List.length_append.{0},@List.length_cons.{0},@List.length_nil.{0},@Nat.zero_add,@Nat.add_zero,@Bool.not_true,@Bool.not_false,@Bool.true_and,@Bool.and_true,@Bool.and_false,@Bool.false_and,@not_true_eq_false,@not_false_iff,@or_false,@or_true,@false_or,@true_or,@Int.toNat_natCast,@List.length_replicate.{0},@gsplit_bt,@gsplit_bf,@csplit_b,@beq_self_eq_true.{0},@BEq.rfl.{0},@List.mem_cons.{0},@List.not_mem_nil.{0},@List.all_cons.{0},@List.all_nil.{0},@Bool.or_false,@Bool.or_true,@Bool.true_or,@Bool.false_or,@decide_true,@decide_false,@Value.int.injEq,@Value.bool.injEq,@IntKind.wrap_u8,@IntKind.wrap_u64,@IntKind.wrap_i64⟩
theorem evD0 : (type_of% @Ax.slot.eq_1) ∧
   (type_of% @Ax.slot.eq_2) ∧
   (type_of% @Ax.slot.eq_3) ∧
   (type_of% @Ax.setSlot.eq_1) ∧
   (type_of% @Ax.setSlot.eq_2) ∧
   (type_of% @Ax.setSlot.eq_3) ∧
   (type_of% @Ax.Out.and.eq_1) ∧
   (type_of% @Ax.isBool.eq_1) ∧
   (type_of% @Ax.isPtr.eq_1) ∧
   (type_of% @Ax.evs.eq_1) ∧
   (type_of% @Ax.evs.eq_2) ∧
   (type_of% @Ax.evps.eq_1) ∧
   (type_of% @Ax.evps.eq_2) ∧
   (type_of% @Ax.aCall.eq_1) ∧
   (type_of% @Ax.aUser.eq_1) ∧
   (type_of% @Ax.coes.eq_1) ∧
   (type_of% @Ax.coes.eq_2) ∧
   (type_of% @Ax.callOut.eq_1) ∧
   (type_of% @Ax.rootsL.eq_1) ∧
   (type_of% @Ax.rootsL.eq_2) ∧
   (type_of% @Ax.AV.roots.eq_1) ∧
   (type_of% @Ax.AV.roots.eq_2) ∧
   (type_of% @Ax.AV.roots.eq_3) ∧
   (type_of% @Ax.AV.roots.eq_4) ∧
   (type_of% @Ax.lendsL.eq_1) ∧
   (type_of% @Ax.lendsL.eq_2) ∧
   (type_of% @Ax.AV.lends.eq_1) ∧
   (type_of% @Ax.AV.lends.eq_2) ∧
   (type_of% @Ax.AV.lends.eq_3) ∧
   (type_of% @Ax.AV.lends.eq_4) ∧
   (type_of% @Ax.pinsOf.eq_1) ∧
   (type_of% @Ax.pinsOf.eq_2) ∧
   (type_of% @Ax.nodup.eq_1) ∧
   (type_of% @Ax.nodup.eq_2) ∧
   (type_of% @Ax.lendL.eq_1) ∧
   (type_of% @Ax.lendL.eq_2) ∧
   (type_of% @Ax.lend.eq_1) ∧
   (type_of% @Ax.lend.eq_2) ∧
   (type_of% @Ax.lend.eq_3) ∧
   (type_of% @Ax.lend.eq_4) ∧
   (type_of% @Ax.lend.eq_5) ∧
   (type_of% @Ax.lend.eq_6) ∧
   (type_of% @Ax.lend.eq_7) ∧
   (type_of% @Ax.lend.eq_8) ∧
   (type_of% @Ax.lend.eq_9) ∧
   (type_of% @Ax.lend.eq_10) ∧
   (type_of% @Ax.lend.eq_11) ∧
   (type_of% @Ax.lend.eq_12) ∧
   (type_of% @Ax.closedB.eq_1) ∧
   (type_of% @Ax.closedB.eq_2) ∧
   (type_of% @Ax.noimmB.eq_1) ∧
   (type_of% @Ax.noimmB.eq_2) ∧
   (type_of% @Ax.AV.noimm.eq_1) ∧
   (type_of% @Ax.AV.noimm.eq_2) ∧
   (type_of% @Ax.AV.noimm.eq_3) ∧
   (type_of% @Ax.AV.noimm.eq_4) :=
 ⟨@Ax.slot.eq_1,@Ax.slot.eq_2,@Ax.slot.eq_3,@Ax.setSlot.eq_1,@Ax.setSlot.eq_2,@Ax.setSlot.eq_3,@Ax.Out.and.eq_1,@Ax.isBool.eq_1,@Ax.isPtr.eq_1,@Ax.evs.eq_1,@Ax.evs.eq_2,@Ax.evps.eq_1,@Ax.evps.eq_2,@Ax.aCall.eq_1,@Ax.aUser.eq_1,@Ax.coes.eq_1,@Ax.coes.eq_2,@Ax.callOut.eq_1,@Ax.rootsL.eq_1,@Ax.rootsL.eq_2,@Ax.AV.roots.eq_1,@Ax.AV.roots.eq_2,@Ax.AV.roots.eq_3,@Ax.AV.roots.eq_4,@Ax.lendsL.eq_1,@Ax.lendsL.eq_2,@Ax.AV.lends.eq_1,@Ax.AV.lends.eq_2,@Ax.AV.lends.eq_3,@Ax.AV.lends.eq_4,@Ax.pinsOf.eq_1,@Ax.pinsOf.eq_2,@Ax.nodup.eq_1,@Ax.nodup.eq_2,@Ax.lendL.eq_1,@Ax.lendL.eq_2,@Ax.lend.eq_1,@Ax.lend.eq_2,@Ax.lend.eq_3,@Ax.lend.eq_4,@Ax.lend.eq_5,@Ax.lend.eq_6,@Ax.lend.eq_7,@Ax.lend.eq_8,@Ax.lend.eq_9,@Ax.lend.eq_10,@Ax.lend.eq_11,@Ax.lend.eq_12,@Ax.closedB.eq_1,@Ax.closedB.eq_2,@Ax.noimmB.eq_1,@Ax.noimmB.eq_2,@Ax.AV.noimm.eq_1,@Ax.AV.noimm.eq_2,@Ax.AV.noimm.eq_3,@Ax.AV.noimm.eq_4⟩
theorem evD1 : (type_of% @Ax.AV.noimm.eq_5) ∧
   (type_of% @Ax.AV.noimm.eq_6) ∧
   (type_of% @Ax.AV.noimm.eq_7) ∧
   (type_of% @Ax.AV.noimm.eq_8) ∧
   (type_of% @Ax.AV.ren.eq_1) ∧
   (type_of% @Ax.AV.ren.eq_2) ∧
   (type_of% @Ax.AV.ren.eq_3) ∧
   (type_of% @Ax.AV.ren.eq_4) ∧
   (type_of% @Ax.AV.ren.eq_5) ∧
   (type_of% @Ax.AV.ren.eq_6) ∧
   (type_of% @Ax.renL.eq_1) ∧
   (type_of% @Ax.renL.eq_2) ∧
   (type_of% @Ax.back.eq_1) ∧
   (type_of% @Ax.back.eq_2) ∧
   (type_of% @Ax.aLoad.eq_1) ∧
   (type_of% @Ax.subv.eq_1) ∧
   (type_of% @Ax.guardSlot.eq_1) ∧
   (type_of% @Ax.byte.eq_1) ∧
   (type_of% @Ax.word.eq_1) ∧
   (type_of% @Ax.EndsX.eq_1) ∧
   (type_of% @Ax.rvals.eq_1) ∧
   (type_of% @Ax.rvals.eq_2) ∧
   (type_of% @Ax.rvals.eq_3) ∧
   (type_of% @Ax.AV.ids.eq_1) ∧
   (type_of% @Ax.AV.ids.eq_2) ∧
   (type_of% @Ax.AV.ids.eq_3) ∧
   (type_of% @Ax.AV.ids.eq_4) ∧
   (type_of% @Ax.AV.ids.eq_5) ∧
   (type_of% @Ax.AV.ids.eq_6) ∧
   (type_of% @Ax.idsL.eq_1) ∧
   (type_of% @Ax.idsL.eq_2) ∧
   (type_of% @Ax.newIds.eq_1) ∧
   (type_of% @Ax.newIds.eq_2) ∧
   (type_of% @Ax.upTo.eq_1) ∧
   (type_of% @Ax.upTo.eq_2) ∧
   (type_of% @Ax.pinHeap.eq_1) ∧
   (type_of% @Ax.pinHeap.eq_2) ∧
   (type_of% @Ax.gOf.eq_1) ∧
   (type_of% @Ax.gOf.eq_2) ∧
   (type_of% @Ax.gOf.eq_3) ∧
   (type_of% @Ax.aBuildSlice.eq_1) ∧
   (type_of% @Ax.fillB.eq_1) ∧
   (type_of% @Ax.fillB.eq_2) ∧
   (type_of% @Ax.fillB.eq_3) ∧
   (type_of% @Ax.look.eq_1) ∧
   (type_of% @Ax.look.eq_2) ∧
   (type_of% @Ax.put.eq_1) ∧
   (type_of% @Ax.drop.eq_1) ∧
   (type_of% @Ax.drop.eq_2) ∧
   (type_of% @Ax.asv.eq_1) ∧
   (type_of% @Ax.aMake.eq_1) ∧
   (type_of% @Ax.fillG.eq_1) ∧
   (type_of% @Ax.fillG.eq_2) ∧
   (type_of% @Ax.fillI.eq_1) ∧
   (type_of% @Ax.fillI.eq_2) ∧
   (type_of% @Ax.fillI.eq_3) :=
 ⟨@Ax.AV.noimm.eq_5,@Ax.AV.noimm.eq_6,@Ax.AV.noimm.eq_7,@Ax.AV.noimm.eq_8,@Ax.AV.ren.eq_1,@Ax.AV.ren.eq_2,@Ax.AV.ren.eq_3,@Ax.AV.ren.eq_4,@Ax.AV.ren.eq_5,@Ax.AV.ren.eq_6,@Ax.renL.eq_1,@Ax.renL.eq_2,@Ax.back.eq_1,@Ax.back.eq_2,@Ax.aLoad.eq_1,@Ax.subv.eq_1,@Ax.guardSlot.eq_1,@Ax.byte.eq_1,@Ax.word.eq_1,@Ax.EndsX.eq_1,@Ax.rvals.eq_1,@Ax.rvals.eq_2,@Ax.rvals.eq_3,@Ax.AV.ids.eq_1,@Ax.AV.ids.eq_2,@Ax.AV.ids.eq_3,@Ax.AV.ids.eq_4,@Ax.AV.ids.eq_5,@Ax.AV.ids.eq_6,@Ax.idsL.eq_1,@Ax.idsL.eq_2,@Ax.newIds.eq_1,@Ax.newIds.eq_2,@Ax.upTo.eq_1,@Ax.upTo.eq_2,@Ax.pinHeap.eq_1,@Ax.pinHeap.eq_2,@Ax.gOf.eq_1,@Ax.gOf.eq_2,@Ax.gOf.eq_3,@Ax.aBuildSlice.eq_1,@Ax.fillB.eq_1,@Ax.fillB.eq_2,@Ax.fillB.eq_3,@Ax.look.eq_1,@Ax.look.eq_2,@Ax.put.eq_1,@Ax.drop.eq_1,@Ax.drop.eq_2,@Ax.asv.eq_1,@Ax.aMake.eq_1,@Ax.fillG.eq_1,@Ax.fillG.eq_2,@Ax.fillI.eq_1,@Ax.fillI.eq_2,@Ax.fillI.eq_3⟩
theorem evD2 : (type_of% @Ax.bnds.eq_1) ∧
   (type_of% @Ax.cut.eq_1) ∧
   (type_of% @Ax.aFieldAddr.eq_1) ∧
   (type_of% @Ax.aField.eq_1) ∧
   (type_of% @Ax.aBox.eq_1) ∧
   (type_of% @Ax.aBuild.eq_1) ∧
   (type_of% @Ax.fillS.eq_1) ∧
   (type_of% @Ax.fillS.eq_2) ∧
   (type_of% @Ax.allTy.eq_1) ∧
   (type_of% @Ax.allTy.eq_2) ∧
   (type_of% @Ax.splice.eq_1) ∧
   (type_of% @Ax.isBytes.eq_1) ∧
   (type_of% @Ax.aAlloc.eq_1) ∧
   (type_of% @Ax.closedL.eq_1) ∧
   (type_of% @Ax.closedL.eq_2) ∧
   (type_of% @Ax.AV.closed.eq_1) ∧
   (type_of% @Ax.AV.closed.eq_2) ∧
   (type_of% @Ax.AV.closed.eq_3) ∧
   (type_of% @Ax.AV.closed.eq_4) ∧
   (type_of% @Ax.AV.closed.eq_5) ∧
   (type_of% @Ax.AV.closed.eq_6) ∧
   (type_of% @Ax.idx.eq_1) ∧
   (type_of% @Ax.idx.eq_2) ∧
   (type_of% @Ax.AV.lentIds.eq_1) ∧
   (type_of% @Ax.AV.lentIds.eq_2) ∧
   (type_of% @Ax.AV.lentIds.eq_3) ∧
   (type_of% @Ax.AV.lentIds.eq_4) ∧
   (type_of% @Ax.lentIdsL.eq_1) ∧
   (type_of% @Ax.lentIdsL.eq_2) ∧
   (type_of% @Ax.dropAll.eq_1) ∧
   (type_of% @Ax.dropAll.eq_2) ∧
   (type_of% @Ax.AV.clean.eq_1) ∧
   (type_of% @Ax.AV.clean.eq_2) ∧
   (type_of% @Ax.AV.clean.eq_3) ∧
   (type_of% @Ax.AV.clean.eq_4) ∧
   (type_of% @Ax.AV.clean.eq_5) ∧
   (type_of% @Ax.AV.clean.eq_6) ∧
   (type_of% @Ax.AV.clean.eq_7) ∧
   (type_of% @Ax.AV.clean.eq_8) ∧
   (type_of% @Ax.cleanL.eq_1) ∧
   (type_of% @Ax.cleanL.eq_2) ∧
   (type_of% @Ax.cleanB.eq_1) ∧
   (type_of% @Ax.cleanB.eq_2) ∧
   (type_of% @Ax.quietC.eq_1) ∧
   (type_of% @Ax.flatTy.eq_1) ∧
   (type_of% @Ax.coldStr.eq_1) ∧
   (type_of% @Ax.eqV.eq_1) ∧
   (type_of% @Ax.eqV.eq_2) ∧
   (type_of% @Ax.eqV.eq_3) ∧
   (type_of% @Ax.eqV.eq_4) ∧
   (type_of% @Ax.eqV.eq_5) ∧
   (type_of% @Ax.eqF.eq_1) ∧
   (type_of% @Ax.eqF.eq_2) ∧
   (type_of% @Ax.isStruct.eq_1) :=
 ⟨@Ax.bnds.eq_1,@Ax.cut.eq_1,@Ax.aFieldAddr.eq_1,@Ax.aField.eq_1,@Ax.aBox.eq_1,@Ax.aBuild.eq_1,@Ax.fillS.eq_1,@Ax.fillS.eq_2,@Ax.allTy.eq_1,@Ax.allTy.eq_2,@Ax.splice.eq_1,@Ax.isBytes.eq_1,@Ax.aAlloc.eq_1,@Ax.closedL.eq_1,@Ax.closedL.eq_2,@Ax.AV.closed.eq_1,@Ax.AV.closed.eq_2,@Ax.AV.closed.eq_3,@Ax.AV.closed.eq_4,@Ax.AV.closed.eq_5,@Ax.AV.closed.eq_6,@Ax.idx.eq_1,@Ax.idx.eq_2,@Ax.AV.lentIds.eq_1,@Ax.AV.lentIds.eq_2,@Ax.AV.lentIds.eq_3,@Ax.AV.lentIds.eq_4,@Ax.lentIdsL.eq_1,@Ax.lentIdsL.eq_2,@Ax.dropAll.eq_1,@Ax.dropAll.eq_2,@Ax.AV.clean.eq_1,@Ax.AV.clean.eq_2,@Ax.AV.clean.eq_3,@Ax.AV.clean.eq_4,@Ax.AV.clean.eq_5,@Ax.AV.clean.eq_6,@Ax.AV.clean.eq_7,@Ax.AV.clean.eq_8,@Ax.cleanL.eq_1,@Ax.cleanL.eq_2,@Ax.cleanB.eq_1,@Ax.cleanB.eq_2,@Ax.quietC.eq_1,@Ax.flatTy.eq_1,@Ax.coldStr.eq_1,@Ax.eqV.eq_1,@Ax.eqV.eq_2,@Ax.eqV.eq_3,@Ax.eqV.eq_4,@Ax.eqV.eq_5,@Ax.eqF.eq_1,@Ax.eqF.eq_2,@Ax.isStruct.eq_1⟩
end Go.Proofs.Ytnmomgcanfpigaa
namespace Go.Proofs.Ytnmomgcanfpigaa
namespace Ax
open Go.RowKit Go.ChangeShapes Go.WideShapes
def RC (w : World) : List AV → List Value → Prop
 | [],[] => True
 | x :: xs,v :: vs => (x.leaf = true ∧ x.closed = true ∧ R w loc0 x v) ∧ RC w xs vs
 | _,_ => False
theorem RC.len {w : World} : ∀ {xs : List AV} {vs : List Value},RC w xs vs → xs.length = vs.length
 | [],[],_ => rfl
 | x :: xs,v :: vs,h => by simp [RC.len h.2]
 | [],_ :: _,h => h.elim
 | _ :: _,[],h => h.elim
theorem RC.get {w : World} : ∀ {xs : List AV} {vs : List Value},RC w xs vs → ∀ (j : Nat) (h : j < xs.length) (h' : j < vs.length),xs[j].leaf = true ∧ xs[j].closed = true ∧ R w loc0 xs[j] vs[j]
 | x :: xs,v :: vs,h,j,a,b => by
   cases j with
   | zero => exact h.1
   | succ j => exact RC.get h.2 j (by simpa using a) (by simpa using b)
 | [],[],_,j,a,_ => by simp at a
 | [],_ :: _,h,_,_,_ => h.elim
 | _ :: _,[],h,_,_,_ => h.elim
theorem RC.append {w : World} : ∀ {xs ys : List AV} {vs us : List Value},RC w xs vs → RC w ys us → RC w (xs ++ ys) (vs ++ us)
 | [],ys,[],us,_,h => h
 | x :: xs,ys,v :: vs,us,h,k => ⟨h.1,RC.append h.2 k⟩
 | [],_,_ :: _,_,h,_ => h.elim
 | _ :: _,_,[],_,h,_ => h.elim
def isFlatI : TD → Nat
 | .int .u8 => 1
 | .int .i64 => 2
 | _ => 0
def ShapeF (S : TypeId → List AV → Prop) : List (Nat × TypeId) → List AV → Prop
 | [],ls => ls = []
 | p :: r,ls => ∃ l1 l2,ls = l1 ++ l2 ∧ S p.2 l1 ∧ ShapeF S r l2
def Shape (T : zac) : Nat → TypeId → List AV → Prop
 | 0,_,_ => False
 | n + 1,t,ls => match T t with
   | none => False
   | some i => match i.d with
     | .int k => ∃ m,ls = [.w (.int k m)] ∧ (Lit.int k m).wf = true
     | .bool => ∃ b,ls = [.w (.bool b)]
     | .str => ∃ bs,ls = [.str bs] ∧ bs.length ≤ maxLen
     | .slice e => match T e with
       | none => False
       | some te => match isFlatI te.d with
         | 1 => ∃ bs f,ls = [.sb bs f] ∧ bs.length ≤ maxLen
         | 2 => ∃ ns f,ls = [.si ns f] ∧ ns.length ≤ maxLen ∧ ∀ n ∈ ns,-9223372036854775808 ≤ n ∧ n ≤ 9223372036854775807
         | _ => ∃ xs f,ls = [.sg te.size xs f] ∧ xs.length ≤ maxLen ∧ ∀ x ∈ xs,∃ l,Shape T n e l ∧ l.length = te.size ∧ x = asv te l
     | .struct fs => ShapeF (Shape T n) fs ls
     | .arr m e => ShapeF (Shape T n) (List.replicate m (0,e)) ls
     | _ => False
def tiles (T : zac) : List (Nat × TypeId) → Nat → Nat → Bool
 | [],o,s => o == s
 | p :: r,o,s => match T p.2 with
   | some i => p.1 == o && tiles T r (o + i.size) s
   | none => false
def okT (T : zac) : Nat → TypeId → Bool
 | 0,_ => false
 | n + 1,t => match T t with
   | none => false
   | some i => match i.d with
     | .int _ => true
     | .bool => true
     | .str => true
     | .slice e => match T e with
       | none => false
       | some te => !(isFlatI te.d == 0) || (okT T n e && decide (0 < te.size))
     | .struct fs => tiles T fs 0 i.size && fs.all fun p => okT T n p.2
     | .arr m e => match T e with
       | some te => m * te.size == i.size && okT T n e
       | none => false
     | _ => false
theorem cellsOf_ty {P : Program} {T : zac} (hT : TOk P T) {t : TypeId} {i : TyI} (h : T t = some i) : P.cellsOf t = i.size := by
 obtain ⟨inf,z,h1,h2,_⟩ := (hT t i h).info
 simp [Program.cellsOf,h1,h2]
section
variable {H : Type} {enc : TypeId × Value → H} {P : Program} {w : World} {base : Nat} {spare : Nat → Bool} {held : Bool}
theorem fields_R {T : zac} (hT : TOk P T) {S : TypeId → List AV → Prop} {ok : TypeId → Bool} {m : Nat} (ih : ∀ t cs x,DataW.trod enc P w base spare held m t cs = some x → ok t = true → ∃ ls,RC w ls cs ∧ S t ls) :
   ∀ (fs : List (Nat × TypeId)) (o s : Nat) (cs : List Value),tiles T fs o s = true → (fs.all fun p => ok p.2) = true → cs.length = s → (∀ p ∈ fs,∃ x,DataW.trod enc P w base spare held m p.2 ((cs.drop p.1).take (P.cellsOf p.2)) = some x) → ∃ ls,RC w ls (cs.drop o) ∧ ShapeF S fs ls
 | [],o,s,cs,ht,_,hl,_ => by
   simp only [tiles,beq_iff_eq] at ht
   subst ht
   rw [← hl,List.drop_length]
   exact ⟨[],trivial,rfl⟩
 | p :: r,o,s,cs,ht,hk,hl,h => by
   simp only [tiles] at ht
   simp only [List.all_cons,Bool.and_eq_true] at hk
   cases hp : T p.2 with
   | none => simp [hp] at ht
   | some i =>
     simp only [hp,Bool.and_eq_true,beq_iff_eq] at ht
     obtain ⟨rfl,ht⟩ := ht
     obtain ⟨x,hx⟩ := h p (by simp)
     obtain ⟨l1,h1,h2⟩ := ih _ _ _ hx hk.1
     obtain ⟨l2,h3,h4⟩ := fields_R hT ih r _ s cs ht hk.2 hl (fun q hq => h q (by simp [hq]))
     rw [cellsOf_ty hT hp] at h1
     refine ⟨l1 ++ l2,?_,l1,l2,rfl,h2,h4⟩
     have := RC.append h1 h3
     rwa [← List.drop_drop,List.take_append_drop] at this
theorem arr_R {T : zac} (hT : TOk P T) {S : TypeId → List AV → Prop} {ok : TypeId → Bool} {m : Nat} {e : TypeId} {te : TyI} (he : T e = some te) (hok : ok e = true) (ih : ∀ t cs x,DataW.trod enc P w base spare held m t cs = some x → ok t = true → ∃ ls,RC w ls cs ∧ S t ls) :
   ∀ (k : Nat) (cs : List Value),cs.length = k * te.size → (∀ i,i < k → ∃ x,DataW.trod enc P w base spare held m e ((cs.drop (i * te.size)).take te.size) = some x) → ∃ ls,RC w ls cs ∧ ShapeF S (List.replicate k (0,e)) ls
 | 0,cs,hl,_ => by
   have : cs = [] := List.eq_nil_of_length_eq_zero (by simpa using hl)
   subst this
   exact ⟨[],trivial,rfl⟩
 | k + 1,cs,hl,h => by
   obtain ⟨x,hx⟩ := h 0 (by omega)
   rw [Nat.zero_mul,List.drop_zero] at hx
   obtain ⟨l1,h1,h2⟩ := ih _ _ _ hx hok
   have hmul : (k + 1) * te.size = k * te.size + te.size := Nat.succ_mul _ _
   obtain ⟨l2,h3,h4⟩ := arr_R hT he hok ih k (cs.drop te.size) (by rw [List.length_drop]; omega) (fun i hi => by
     obtain ⟨y,hy⟩ := h (i + 1) (by omega)
     refine ⟨y,?_⟩
     rw [List.drop_drop,show te.size + i * te.size = (i + 1) * te.size by rw [Nat.succ_mul]; omega]
     exact hy)
   refine ⟨l1 ++ l2,?_,l1,l2,rfl,h2,h4⟩
   have := RC.append h1 h3
   rwa [List.take_append_drop] at this
theorem rows_R {S : List AV → Prop} {te : TyI} (hs : ∀ l,S l → te.d.aggr = false → te.size = 1) {a : Addr} :
   ∀ (n : Nat) (off : Nat),(∀ i,i < n → ∃ (ls : List AV) (cs : List Value),RC w ls cs ∧ S ls ∧ cs.length = te.size ∧ ∀ k,k < te.size → w.cell? (a.add ((off + i) * te.size + k)) = cs[k]?) →
     ∃ (xs : List AV) (cs : List Value),xs.length = n ∧ cs.length = n * te.size ∧ (∀ x ∈ xs,∃ l,S l ∧ l.length = te.size ∧ x = asv te l ∧ x.leaves = l) ∧ RC w (xs.flatMap AV.leaves) cs ∧ ∀ k,k < n * te.size → w.cell? (a.add (off * te.size + k)) = cs[k]?
 | 0,off,_ => ⟨[],[],rfl,by simp,by simp,trivial,fun k h => by simp at h⟩
 | n + 1,off,h => by
   obtain ⟨ls,c1,h1,h2,h3,h4⟩ := h 0 (by omega)
   obtain ⟨xs,c2,k1,k2,k3,k4,k5⟩ := rows_R hs n (off + 1) (fun i hi => by
     obtain ⟨l,c,a1,a2,a3,a4⟩ := h (i + 1) (by omega)
     refine ⟨l,c,a1,a2,a3,fun k hk => ?_⟩
     rw [show off + 1 + i = off + (i + 1) by omega]; exact a4 k hk)
   have hlen : ls.length = te.size := by rw [RC.len h1,h3]
   have hx : (asv te ls).leaves = ls := by
     unfold asv
     cases ha : te.d.aggr with
     | true => rfl
     | false =>
       have h1s := hs ls h2 ha
       have hl1 : ls.length = 1 := by omega
       obtain ⟨y,rfl⟩ := List.length_eq_one_iff.1 hl1
       have := (RC.get h1 0 (by simp) (by omega)).1
       simp only [List.getElem_cons_zero] at this
       simp only [cond_false,slot]
       cases y <;> first | rfl | simp [AV.leaf] at this
   refine ⟨asv te ls :: xs,c1 ++ c2,by simp [k1],by rw [List.length_append,h3,k2,Nat.succ_mul]; omega,?_,?_,?_⟩
   · intro x hxm
     rcases List.mem_cons.1 hxm with rfl | hxm
     · exact ⟨ls,h2,hlen,rfl,hx⟩
     · exact k3 x hxm
   · rw [List.flatMap_cons,hx]; exact RC.append h1 k4
   · intro k hk
     by_cases hk1 : k < te.size
     · rw [List.getElem?_append_left (by omega)]
       have := h4 k hk1
       rw [Nat.add_zero] at this
       exact this
     · rw [List.getElem?_append_right (by omega),h3]
       have := k5 (k - te.size) (by rw [Nat.succ_mul] at hk; omega)
       rw [← this,Nat.succ_mul]
       congr 2
       omega
theorem add_add (a : Addr) (h : a.spot = none) (m n : Nat) : (a.add m).add n = a.add (m + n) := by
 obtain ⟨b,o,s⟩ := a
 simp only at h
 subst h
 unfold Addr.add
 by_cases hm : m = 0
 · subst hm; simp
 · by_cases hn : n = 0
   · subst hn; simp
   · rw [if_neg hm,if_neg hn,if_neg (by omega)]
     simp; omega
theorem size_one {T : zac} (hT : TOk P T) {t : TypeId} {i : TyI} (h : T t = some i) (ha : i.d.aggr = false) : i.size = 1 := by
 obtain ⟨inf,z,_,_,_,_,_,_,_,h8⟩ := (hT t i h).info
 exact (h8 ha).2.2
theorem cells_at {a : Addr} {cs : List Value} (hne : cs ≠ []) (h : ∀ k,k < cs.length → w.cell? (a.add k) = cs[k]?) : Cells w loc0 (some a) cs ∧ a.spot = none := by
 have hl : 0 < cs.length := List.length_pos_iff.2 hne
 have h1 := h 0 hl
 rw [show a.add 0 = a from rfl,List.getElem?_eq_getElem hl] at h1
 have hx : a.spot = none ∧ a.block < w.heap.size := by
   unfold World.cell? at h1
   split at h1
   · rename_i c e fz hh
     split at h1
     · cases h1
     · rename_i hs
       refine ⟨by simpa using hs,?_⟩
       rcases Nat.lt_or_ge a.block w.heap.size with h' | h'
       · exact h'
       · rw [Array.getElem?_eq_none h'] at hh; cases hh
   · cases h1
 obtain ⟨b,o,sp⟩ := a
 obtain ⟨rfl,hb⟩ := hx
 refine ⟨⟨.inr ⟨b,o,rfl,not_mut0 b,hb,fun j hj => ?_⟩⟩,rfl⟩
 have h2 := h j hj
 rw [List.getElem?_eq_getElem hj] at h2
 rw [← h2]
 cases j <;> rfl
theorem read_R {T : zac} (hT : TOk P T) : ∀ (n fuel : Nat) (t : TypeId) (cs : List Value) (x : DataW H × List MemPlace),DataW.trod enc P w base (fun _ => true) held fuel t cs = some x → okT T n t = true → ∃ ls,RC w ls cs ∧ Shape T n t ls
 | 0,_,_,_,_,_,h => by simp [okT] at h
 | n + 1,fuel,t,cs,x,h,hok => by
   unfold okT at hok
   unfold Shape
   cases ht : T t with
   | none => simp [ht] at hok
   | some i =>
     simp only [ht] at hok ⊢
     have hd := (hT t i ht).d
     have hsz := cellsOf_ty hT ht
     cases hi : i.d with
     | int k =>
       rw [hi] at hd
       obtain ⟨m,rfl,_,hw⟩ := DataW.trod_int hd h
       exact ⟨[.w (.int k m)],⟨⟨rfl,rfl,.w _ rfl⟩,trivial⟩,m,rfl,hw⟩
     | bool =>
       rw [hi] at hd
       obtain ⟨b,rfl,_⟩ := DataW.trod_bool hd h
       exact ⟨[.w (.bool b)],⟨⟨rfl,rfl,.w _ rfl⟩,trivial⟩,b,rfl⟩
     | str =>
       rw [hi] at hd
       obtain ⟨s,rfl,_,hm⟩ := DataW.trod_string hd h
       exact ⟨[.str s.data.toList],⟨⟨rfl,rfl,str_R w s⟩,trivial⟩,s.data.toList,rfl,by simpa using hm⟩
     | slice e =>
       rw [hi] at hd
       simp only [hi] at hok ⊢
       cases he : T e with
       | none => simp [he] at hok
       | some te =>
         simp only [he] at hok ⊢
         have hde := (hT e te he).d
         have hse := cellsOf_ty hT he
         have row : ∀ k,P.underlying e = some (.int k) → P.cellsOf e = 1 → ∃ a len cap zs,cs = [.slice a len cap] ∧ IsRow k w a len cap zs := by
           intro k hk h1
           rcases open_ints hd hk h1 h with ⟨hcs,_⟩ | ⟨y,l,c,zs,hcs,_,hl,hm,hz,_,hcell,hwz⟩
           · exact ⟨none,0,0,[],hcs,.inl ⟨rfl,rfl,rfl,rfl⟩⟩
           · exact ⟨some y,l,c,zs,hcs,.inr ⟨y,rfl,hl,hm,by simpa using hz,hcell,hwz⟩⟩
         have hfi : (isFlatI te.d = 1 ∧ te.d = .int .u8) ∨ (isFlatI te.d = 2 ∧ te.d = .int .i64) ∨ isFlatI te.d = 0 := by
           unfold isFlatI
           split
           · rename_i e; exact .inl ⟨rfl,e⟩
           · rename_i e; exact .inr (.inl ⟨rfl,e⟩)
           · exact .inr (.inr rfl)
         rcases hfi with ⟨hf,hte⟩ | ⟨hf,hte⟩ | hf
         · rw [hf]
           rw [hte] at hde
           obtain ⟨a,len,cap,zs,rfl,hr⟩ := row .u8 hde (by rw [hse]; exact size_one hT he (by rw [hte]; rfl))
           obtain ⟨bs,h1,h2,h3⟩ := row_sb hr
           exact ⟨[.sb bs false],⟨⟨rfl,rfl,h3⟩,trivial⟩,bs,false,rfl,by omega⟩
         · rw [hf]
           rw [hte] at hde
           obtain ⟨a,len,cap,zs,rfl,hr⟩ := row .i64 hde (by rw [hse]; exact size_one hT he (by rw [hte]; rfl))
           obtain ⟨ns,h1,h2,h4,h3⟩ := row_si hr
           exact ⟨[.si ns false],⟨⟨rfl,rfl,h3⟩,trivial⟩,ns,false,rfl,by omega,h4⟩
         · rw [hf]
           rw [hf] at hok
           simp only [beq_self_eq_true,Bool.not_true,Bool.false_or,Bool.and_eq_true,decide_eq_true_eq] at hok
           obtain ⟨hok,hpos⟩ := hok
           rcases DataW.trod_slice hd h with ⟨rfl,_⟩ | ⟨a,len,cap,elems,rest,m,_,rfl,_,hb,hl,hm,hlen,hel,_,_⟩
           · exact ⟨[.sg te.size [] false],⟨⟨rfl,rfl,.sg te.size [] false none 0 [] ⟨Nat.le_refl _,Nat.zero_le _,fun h => by cases h⟩ (by simp) ⟨.inl rfl⟩ rfl (by simp) (by simp)⟩,trivial⟩,[],false,rfl,Nat.zero_le _,by simp⟩
           · rw [hse] at hel
             have hall : ∀ i,i < len → ∃ (ls : List AV) (c : List Value),RC w ls c ∧ Shape T n e ls ∧ c.length = te.size ∧ ∀ k,k < te.size → w.cell? ((a.add (i * te.size)).add k) = c[k]? := by
               intro i hi
               have h1 := hel i hi
               rw [List.getElem?_eq_getElem (by omega),Option.bind_eq_some_iff] at h1
               obtain ⟨c,h2,h3⟩ := h1
               obtain ⟨_,h4,h5⟩ := World.cells?_some h2
               obtain ⟨ls,h6,h7⟩ := read_R hT n m e c _ h3 hok
               exact ⟨ls,c,h6,h7,h4,h5⟩
             by_cases h0 : len = 0
             · subst h0
               exact ⟨[.sg te.size [] false],⟨⟨rfl,rfl,.sg te.size [] false (some a) cap [] ⟨Nat.zero_le _,hm,fun h => by cases h⟩ (by simp) ⟨.inl rfl⟩ rfl (by simp) (by simp)⟩,trivial⟩,[],false,rfl,Nat.zero_le _,by simp⟩
             · have hspot : a.spot = none := by
                 obtain ⟨ls,c,_,_,h3,h4⟩ := hall 0 (by omega)
                 rw [Nat.zero_mul,show a.add 0 = a from rfl] at h4
                 exact (cells_at (w := w) (a := a) (cs := c) (by intro e; rw [e] at h3; simp at h3; omega) (fun k hk => h4 k (by omega))).2
               obtain ⟨xs,c,k1,k2,k3,k4,k5⟩ := rows_R (w := w) (S := Shape T n e) (te := te) (fun _ _ ha => size_one hT he ha) (a := a) len 0 (fun i hi => by
                 obtain ⟨ls,c,h1,h2,h3,h4⟩ := hall i hi
                 refine ⟨ls,c,h1,h2,h3,fun k hk => ?_⟩
                 rw [Nat.zero_add,← add_add a hspot]; exact h4 k hk)
               have hcne : c ≠ [] := by
                 intro e; rw [e] at k2
                 simp only [List.length_nil] at k2
                 have := Nat.mul_pos (Nat.pos_of_ne_zero h0) hpos
                 omega
               have hc := (cells_at (w := w) (a := a) (cs := c) hcne (fun k hk => by
                 have := k5 k (by omega)
                 rwa [Nat.zero_mul,Nat.zero_add] at this)).1
               have hR := R.sg (w := w) (loc := loc0) te.size xs false (some a) cap c ⟨by omega,hm,fun h => by cases h⟩ (fun x hx => by obtain ⟨l,_,h2,h3,h4⟩ := k3 x hx; rw [h4]; exact h2) hc (RC.len k4)
                 (fun j hj => ⟨(RC.get k4 j hj (by rw [← RC.len k4]; exact hj)).1,(RC.get k4 j hj (by rw [← RC.len k4]; exact hj)).2.1⟩) (fun j a b => (RC.get k4 j a b).2.2)
               rw [k1] at hR
               exact ⟨[.sg te.size xs false],⟨⟨rfl,rfl,hR⟩,trivial⟩,xs,false,rfl,by omega,fun x hx => by obtain ⟨l,h1,h2,h3,_⟩ := k3 x hx; exact ⟨l,h1,h2,h3⟩⟩
     | struct fs =>
       rw [hi] at hd
       simp only [hi,Bool.and_eq_true] at hok ⊢
       obtain ⟨gs,hu,rfl⟩ := hd
       obtain ⟨xs,m,_,_,hl,hxl,hf⟩ := DataW.trod_struct hu h
       have := fields_R (w := w) (base := base) (spare := fun _ => true) (held := held) (enc := enc) hT (S := Shape T n) (ok := okT T n) (m := m) (fun t cs x h1 h2 => read_R hT n m t cs x h1 h2) _ 0 i.size cs hok.1 hok.2 (by rw [hl,hsz]) (fun p hp => by
         obtain ⟨g,hg,rfl⟩ := List.mem_map.1 hp
         obtain ⟨j,hj,hgj⟩ := List.getElem_of_mem hg
         have hj2 : gs[j]? = some g := by rw [← hgj]; simp at hj ⊢
         have h3 := hf j g hj2
         have hjx : j < xs.length := by rw [hxl]; simpa using hj
         exact ⟨xs[j],by rw [h3,List.getElem?_eq_getElem hjx]⟩)
       rwa [List.drop_zero] at this
     | arr k e =>
       rw [hi] at hd
       simp only [hi] at hok ⊢
       cases he : T e with
       | none => simp [he] at hok
       | some te =>
         simp only [he,Bool.and_eq_true,beq_iff_eq] at hok
         obtain ⟨xs,m,_,_,hl,hxl,hf⟩ := DataW.trod_array hd h
         rw [cellsOf_ty hT he] at hf
         exact arr_R (w := w) (base := base) (spare := fun _ => true) (held := held) (enc := enc) hT (S := Shape T n) (ok := okT T n) (m := m) he hok.2 (fun t cs x h1 h2 => read_R hT n m t cs x h1 h2) k cs (by rw [hl,hsz]; exact hok.1.symm) (fun j hj => ⟨xs[j]'(by omega),by rw [hf j hj,List.getElem?_eq_getElem (by omega)]⟩)
     | ptr => simp [hi] at hok
     | func => simp [hi] at hok
     | map k e => simp [hi] at hok
     | other => simp [hi] at hok
def Arg (T : zac) (n : Nat) (t : TypeId) (x : AV) : Prop := ∃ i ls,T t = some i ∧ Shape T n t ls ∧ x = asv i ls
theorem arg_R {T : zac} (hT : TOk P T) {n : Nat} {t : TypeId} {v : Value} {d : DataW H} {ps : List MemPlace} {r : Reach} {b0 : Nat} (hval : Value.okWide P w r b0 t v) (h : DataW.Trod enc P w base (fun _ => true) held t v d ps) (hok : okT T n t = true) :
   ∃ x,Arg T n t x ∧ R w loc0 x v := by
 obtain ⟨fuel,hf⟩ := h
 obtain ⟨ls,h1,h2⟩ := read_R hT n fuel t _ _ hf hok
 cases ht : T t with
 | none => cases n <;> simp [okT,ht] at hok
 | some i =>
   have hd := (hT t i ht).d
   refine ⟨asv i ls,⟨i,ls,ht,h2,rfl⟩,?_⟩
   cases ha : i.d.aggr with
   | true =>
     have hv : ∃ c,v = .agg c := by
       unfold Value.okWide at hval
       cases hi : i.d with
       | struct fs =>
         rw [hi] at hd
         obtain ⟨gs,hu,_⟩ := hd
         rw [hu] at hval
         obtain ⟨c,hc,_⟩ := hval
         exact ⟨c,hc⟩
       | arr k e =>
         rw [hi] at hd
         have hu : P.underlying t = some (.array k e) := hd
         rw [hu] at hval
         obtain ⟨c,hc,_⟩ := hval
         exact ⟨c,hc⟩
       | _ => rw [hi] at ha; cases ha
     obtain ⟨c,rfl⟩ := hv
     simp only [asv,ha,cond_true]
     have hl := RC.len h1
     have := R.agg (w := w) (loc := loc0) ls c.toList hl (fun j hj => (RC.get h1 j hj (by rw [← hl]; exact hj)).1) (fun j a b => (RC.get h1 j a b).2.2)
     rwa [Array.toArray_toList] at this
   | false =>
     simp only [asv,ha,cond_false]
     have key : ∃ u,v.cells = #[u] ∧ u = v := by
       cases v with
       | agg c =>
         exfalso
         unfold Value.okWide Cell.okWide Cell.ok at hval
         cases hi : i.d with
         | struct fs => rw [hi] at ha; cases ha
         | arr k e => rw [hi] at ha; cases ha
         | int k => rw [hi] at hd; have hu : P.underlying t = some (.int k) := hd; simp [hu] at hval
         | bool => rw [hi] at hd; have hu : P.underlying t = some .bool := hd; simp [hu] at hval
         | str => rw [hi] at hd; have hu : P.underlying t = some .string := hd; simp [hu] at hval
         | slice e => rw [hi] at hd; have hu : P.underlying t = some (.slice e) := hd; simp [hu] at hval
         | _ => cases n <;> simp [okT,ht,hi] at hok
       | _ => exact ⟨_,rfl,rfl⟩
     obtain ⟨u,hu,rfl⟩ := key
     rw [hu] at h1
     match ls,h1 with
     | [y],h1 => exact h1.1.2.2
end
end Ax
end Go.Proofs.Ytnmomgcanfpigaa
namespace Go.Proofs.Ytnmomgcanfpigaa
open Ax
def tys : List (TypeId × TyI) := [
 (2,⟨.int .i64,1,8,[.w (.int .i64 0)],0⟩),
 (3,⟨.int .i64,1,8,[.w (.int .i64 0)],0⟩),
 (4,⟨.bool,1,1,[.w (.bool false)],0⟩),
 (5,⟨.int .u8,1,1,[.w (.int .u8 0)],0⟩),
 (9,⟨.str,1,16,[.str []],0⟩),
 (20,⟨.other,1,16,[.w .nilIface],0⟩),
 (21,⟨.int .i32,1,4,[.w (.int .i32 0)],0⟩),
 (22,⟨.struct [(0,9),(1,9),(2,3),(3,3)],4,48,[.str [],.str [],.w (.int .i64 0),.w (.int .i64 0)],0⟩),
 (23,⟨.struct [(0,9),(1,9),(2,3),(3,3)],4,48,[.str [],.str [],.w (.int .i64 0),.w (.int .i64 0)],0⟩),
 (24,⟨.struct [(0,3),(1,3),(2,4),(3,9),(4,4),(5,9)],6,64,[.w (.int .i64 0),.w (.int .i64 0),.w (.bool false),.str [],.w (.bool false),.str []],0⟩),
 (25,⟨.struct [(0,3),(1,3),(2,4),(3,9),(4,4),(5,9)],6,64,[.w (.int .i64 0),.w (.int .i64 0),.w (.bool false),.str [],.w (.bool false),.str []],0⟩),
 (27,⟨.slice 23,1,24,[.sg 4 [] true],0⟩),
 (30,⟨.int .i64,1,8,[.w (.int .i64 0)],0⟩),
 (33,⟨.struct [(0,9),(1,9),(2,3),(3,3)],4,48,[.str [],.str [],.w (.int .i64 0),.w (.int .i64 0)],0⟩),
 (44,⟨.slice 25,1,24,[.sg 6 [] true],0⟩),
 (45,⟨.struct [(0,3),(1,3),(2,3),(3,3),(4,3),(5,44)],6,64,[.w (.int .i64 0),.w (.int .i64 0),.w (.int .i64 0),.w (.int .i64 0),.w (.int .i64 0),.sg 6 [] true],0⟩),
 (46,⟨.struct [(0,3),(1,3),(2,3),(3,3),(4,3),(5,44)],6,64,[.w (.int .i64 0),.w (.int .i64 0),.w (.int .i64 0),.w (.int .i64 0),.w (.int .i64 0),.sg 6 [] true],0⟩),
 (48,⟨.slice 33,1,24,[.sg 4 [] true],0⟩),
 (60,⟨.slice 46,1,24,[.sg 6 [] true],0⟩),
 (64,⟨.slice 5,1,24,[.sb [] true],0⟩),
 (67,⟨.ptr,1,8,[.w (.pointer none)],0⟩),
 (70,⟨.int .u64,1,8,[.w (.int .u64 0)],0⟩),
 (74,⟨.struct [(0,64),(1,3)],2,32,[.sb [] true,.w (.int .i64 0)],0⟩),
 (75,⟨.struct [(0,64),(1,3)],2,32,[.sb [] true,.w (.int .i64 0)],0⟩),
 (89,⟨.map 9 3,1,8,[.w (.map none)],0⟩),
 (96,⟨.int .u64,1,8,[.w (.int .u64 0)],0⟩),
 (97,⟨.struct [(0,64),(1,30)],2,32,[.sb [] true,.w (.int .i64 0)],0⟩),
 (98,⟨.struct [(0,64),(1,30)],2,32,[.sb [] true,.w (.int .i64 0)],0⟩),
 (119,⟨.int .u32,1,4,[.w (.int .u32 0)],0⟩),
 (123,⟨.ptr,1,8,[.w (.pointer none)],0⟩)]
theorem tys_ok : TOk Try.prog (tab tys) := tab_ok (by kernel_rfl)
def ty (t : TypeId) : Option TyI :=
 match t with
 | 2 => some ⟨.int .i64,1,8,[.w (.int .i64 0)],0⟩
 | 3 => some ⟨.int .i64,1,8,[.w (.int .i64 0)],0⟩
 | 4 => some ⟨.bool,1,1,[.w (.bool false)],0⟩
 | 5 => some ⟨.int .u8,1,1,[.w (.int .u8 0)],0⟩
 | 9 => some ⟨.str,1,16,[.str []],0⟩
 | 20 => some ⟨.other,1,16,[.w .nilIface],0⟩
 | 21 => some ⟨.int .i32,1,4,[.w (.int .i32 0)],0⟩
 | 22 => some ⟨.struct [(0,9),(1,9),(2,3),(3,3)],4,48,[.str [],.str [],.w (.int .i64 0),.w (.int .i64 0)],0⟩
 | 23 => some ⟨.struct [(0,9),(1,9),(2,3),(3,3)],4,48,[.str [],.str [],.w (.int .i64 0),.w (.int .i64 0)],0⟩
 | 24 => some ⟨.struct [(0,3),(1,3),(2,4),(3,9),(4,4),(5,9)],6,64,[.w (.int .i64 0),.w (.int .i64 0),.w (.bool false),.str [],.w (.bool false),.str []],0⟩
 | 25 => some ⟨.struct [(0,3),(1,3),(2,4),(3,9),(4,4),(5,9)],6,64,[.w (.int .i64 0),.w (.int .i64 0),.w (.bool false),.str [],.w (.bool false),.str []],0⟩
 | 27 => some ⟨.slice 23,1,24,[.sg 4 [] true],0⟩
 | 30 => some ⟨.int .i64,1,8,[.w (.int .i64 0)],0⟩
 | 33 => some ⟨.struct [(0,9),(1,9),(2,3),(3,3)],4,48,[.str [],.str [],.w (.int .i64 0),.w (.int .i64 0)],0⟩
 | 44 => some ⟨.slice 25,1,24,[.sg 6 [] true],0⟩
 | 45 => some ⟨.struct [(0,3),(1,3),(2,3),(3,3),(4,3),(5,44)],6,64,[.w (.int .i64 0),.w (.int .i64 0),.w (.int .i64 0),.w (.int .i64 0),.w (.int .i64 0),.sg 6 [] true],0⟩
 | 46 => some ⟨.struct [(0,3),(1,3),(2,3),(3,3),(4,3),(5,44)],6,64,[.w (.int .i64 0),.w (.int .i64 0),.w (.int .i64 0),.w (.int .i64 0),.w (.int .i64 0),.sg 6 [] true],0⟩
 | 48 => some ⟨.slice 33,1,24,[.sg 4 [] true],0⟩
 | 60 => some ⟨.slice 46,1,24,[.sg 6 [] true],0⟩
 | 64 => some ⟨.slice 5,1,24,[.sb [] true],0⟩
 | 67 => some ⟨.ptr,1,8,[.w (.pointer none)],0⟩
 | 70 => some ⟨.int .u64,1,8,[.w (.int .u64 0)],0⟩
 | 74 => some ⟨.struct [(0,64),(1,3)],2,32,[.sb [] true,.w (.int .i64 0)],0⟩
 | 75 => some ⟨.struct [(0,64),(1,3)],2,32,[.sb [] true,.w (.int .i64 0)],0⟩
 | 89 => some ⟨.map 9 3,1,8,[.w (.map none)],0⟩
 | 96 => some ⟨.int .u64,1,8,[.w (.int .u64 0)],0⟩
 | 97 => some ⟨.struct [(0,64),(1,30)],2,32,[.sb [] true,.w (.int .i64 0)],0⟩
 | 98 => some ⟨.struct [(0,64),(1,30)],2,32,[.sb [] true,.w (.int .i64 0)],0⟩
 | 119 => some ⟨.int .u32,1,4,[.w (.int .u32 0)],0⟩
 | 123 => some ⟨.ptr,1,8,[.w (.pointer none)],0⟩
 | _ => none
theorem ty_ok : TOk Try.prog ty := by
 intro t i h
 refine tys_ok t i ?_
 unfold ty at h
 split at h <;> first | (injection h with h; subst h; rfl) | cases h
def tyF : zac := setFlat ty
theorem tyF_ok : TOk Try.prog tyF := setFlat_ok ty_ok
theorem zbf : Try.prog.follows .mixedOrders = true := by kernel_rfl
def noS (f : FuncId) : Option zal :=
 match f with
 | _ => none
theorem zbs : Fns Try.prog noS := fun f s h => by cases h
def yesS : zal
 | [],[] => ⟨True,.w (.bool true),[]⟩
 | _,_ => zbg
end Go.Proofs.Ytnmomgcanfpigaa
namespace Go.Proofs.Ytnmomgcanfpigaa
namespace Ax
variable (T : zac) (t : TypeId)
theorem coe_w (v : Value) : coe T t (.w v) = .w v := rfl
theorem coe_str (bs : List UInt8) : coe T t (.str bs) = .str bs := rfl
theorem coe_agg (xs : List AV) : coe T t (.agg xs) = .agg xs := rfl
theorem coe_tup (xs : List AV) : coe T t (.tup xs) = .tup xs := rfl
theorem coe_sb (bs : List UInt8) (f : Bool) : coe T t (.sb bs f) = .sb bs f := rfl
theorem coe_si (ns : List Int) (f : Bool) : coe T t (.si ns f) = .si ns f := rfl
theorem coe_cp (xs : List AV) : coe T t (.cp xs) = .cp xs := rfl
theorem coe_ms (id s off len : Nat) : coe T t (.ms id s off len) = .ms id s off len := rfl
theorem coe_rf (id s i f : Nat) : coe T t (.rf id s i f) = .rf id s i f := rfl
theorem coe_fn (f : FuncId) (xs : List AV) : coe T t (.fn f xs) = .fn f xs := rfl
theorem coe_cons (s : Nat) (x : AV) (xs : List AV) (f : Bool) : coe T t (.sg s (x :: xs) f) = .sg s (x :: xs) f := rfl
end Ax
open Ax
attribute [go_sem] evT evD0 evD1 evD2 implies_true forall_const Option.getD aop aLen ev zak cv cvl aConv aBin aInt aUn aFn aEq List.length IntKind.bits evo List.append List.replicate zbz aIndex TD.aggr aPick aMin aMax Ax.Ends rone List.isEmpty aAppend zcq zfc List.drop List.take aRange aNext aCopy srcB zfb zcp zdt aSlice bnd full3 aStore setB AV.leaves AV.okv AV.leaf one zaj Blk.size Blk.len Option.isSome Option.isNone aStr aNil zdi viewI List.contains List.elem Blk.closed Blk.noimm givenUp Blk.clean notMs coe_w coe_str coe_agg coe_tup coe_sb coe_si coe_cp coe_ms coe_rf coe_fn coe_cons mapTy aMakeMap aLookup aUpdate aEntry aDelete aClear zcg foundM putM cutM AV.pureK AV.pure bareK bare Thing.lone zco
attribute [go_sem ↓] gsplit_tt gsplit_ff gsplit_tf gsplit_ft csplit_t csplit_f
theorem ssT : (type_of% @true_or) ∧
   (type_of% @false_or) ∧
   (type_of% @or_true) ∧
   (type_of% @or_false) ∧
   (type_of% @and_true) ∧
   (type_of% @true_and) ∧
   (type_of% @AV.w.injEq) ∧
   (type_of% @Value.int.injEq) ∧
   (type_of% @Value.bool.injEq) ∧
   (type_of% @AV.ms.injEq) ∧
   (type_of% @AV.sb.injEq) ∧
   (type_of% @AV.str.injEq) ∧
   (type_of% @Nat.zero_add) ∧
   (type_of% @Nat.add_zero) ∧
   (type_of% @Blk.b.injEq) ∧
   (type_of% @Blk.i.injEq) ∧
   (type_of% @Nat.succ_ne_zero) ∧
   (type_of% @and_self) :=
 ⟨@true_or,@false_or,@or_true,@or_false,@and_true,@true_and,@AV.w.injEq,@Value.int.injEq,@Value.bool.injEq,@AV.ms.injEq,@AV.sb.injEq,@AV.str.injEq,@Nat.zero_add,@Nat.add_zero,@Blk.b.injEq,@Blk.i.injEq,@Nat.succ_ne_zero,@and_self⟩
end Go.Proofs.Ytnmomgcanfpigaa
namespace Go.Proofs.Ytnmomgcanfpigaa
open Ax
def zz (n : Int) : Int := if 0 ≤ n then 2 * n else -2 * n - 1
def zzS : zal
 | [.w (.int k n)],[] => ⟨k = .i64 ∧ -9223372036854775808 ≤ n ∧ n ≤ 9223372036854775807,.w (.int .u64 (zz n)),[]⟩
 | _,_ => zbg
def zg (n : Int) : Int := if n % 2 = 0 then n / 2 else -(n / 2) - 1
def zgS : zal
 | [.w (.int k n)],[] => ⟨k = .u64 ∧ 0 ≤ n ∧ n < 18446744073709551616,.w (.int .i64 (zg n)),[]⟩
 | _,_ => zbg
theorem xor_u64_zero (x : Int) (h : 0 ≤ x) (h' : x < 18446744073709551616) : bits .xor .u64 x 0 = x := by
 show IntKind.u64.wrap ((BitVec.ofInt 64 x ^^^ BitVec.ofInt 64 0).toNat : Int) = _
 rw [show BitVec.ofInt 64 0 = 0#64 from rfl,BitVec.xor_zero,BitVec.toNat_ofInt,IntKind.wrap_u64]
 omega
theorem xor_u64_ones (x : Int) (h : 0 ≤ x) (h' : x < 18446744073709551616) : bits .xor .u64 x 18446744073709551615 = 18446744073709551615 - x := by
 show IntKind.u64.wrap ((BitVec.ofInt 64 x ^^^ BitVec.ofInt 64 18446744073709551615).toNat : Int) = _
 rw [show BitVec.ofInt 64 18446744073709551615 = BitVec.allOnes 64 from by decide,BitVec.xor_allOnes,BitVec.toNat_not,BitVec.toNat_ofInt,IntKind.wrap_u64]
 omega
theorem xor_i64_zero (x : Int) (h : -9223372036854775808 ≤ x) (h' : x ≤ 9223372036854775807) : bits .xor .i64 x 0 = x := by
 show IntKind.i64.wrap ((BitVec.ofInt 64 x ^^^ BitVec.ofInt 64 0).toNat : Int) = _
 rw [show BitVec.ofInt 64 0 = 0#64 from rfl,BitVec.xor_zero,BitVec.toNat_ofInt,IntKind.wrap_i64]
 omega
theorem xor_i64_ones (x : Int) (h : -9223372036854775808 ≤ x) (h' : x ≤ 9223372036854775807) : bits .xor .i64 x (-1) = -x - 1 := by
 show IntKind.i64.wrap ((BitVec.ofInt 64 x ^^^ BitVec.ofInt 64 (-1)).toNat : Int) = _
 rw [show BitVec.ofInt 64 (-1) = BitVec.allOnes 64 from by decide,BitVec.xor_allOnes,BitVec.toNat_not,BitVec.toNat_ofInt,IntKind.wrap_i64]
 omega
theorem and_u64_one (x : Int) (h : 0 ≤ x) (h' : x < 18446744073709551616) : bits .and .u64 x 1 = x % 2 := by
 rw [u64_and x 1 h h' (by omega) (by omega),show (1 : Int).toNat = 2 ^ 1 - 1 from rfl,Nat.and_two_pow_sub_one_eq_mod]
 omega
section
set_option maxRecDepth 100000
theorem zig_sound : zbb Try.prog 55 zzS := by
 refine zaq (S := noS) (T := ty) zbf ty_ok zbs Try.func55 (c := Try.f55.body.getD .skip) (by kernel_rfl) (by kernel_rfl) (fun xs pins hp _ => ?_)
 unfold zzS at hp ⊢
 split at hp
 · rename_i n _
   obtain ⟨rfl,h1,h2⟩ := hp
   refine ⟨by decide,?_⟩
   unfold Try.f55
   simp only [go_sem,coe,zaa,Nat.reduceAdd,Nat.reduceSub,Nat.reduceMul,Int.reduceToNat,reduceCtorEq,↓reduceIte,Int.reducePow,Nat.reducePow,Int.reduceMod,Nat.reduceLeDiff,Int.reduceLE,Int.reduceNe,Int.reduceEq,Nat.reduceEqDiff,Nat.reduceLT,Nat.reduceBEq,ty,noS]
   unfold zz
   rcases Int.lt_or_le n 0 with h | h
   · rw [if_neg (by omega),show n / 9223372036854775808 % 18446744073709551616 = 18446744073709551615 by omega,xor_u64_ones _ (by omega) (by omega)]
     omega
   · rw [if_pos h,show n / 9223372036854775808 % 18446744073709551616 = 0 by omega,xor_u64_zero _ (by omega) (by omega)]
     omega
 · exact hp.elim
theorem rzig_sound : zbb Try.prog 74 zzS := by
 refine zaq (S := noS) (T := ty) zbf ty_ok zbs Try.func74 (c := Try.f74.body.getD .skip) (by kernel_rfl) (by kernel_rfl) (fun xs pins hp _ => ?_)
 unfold zzS at hp ⊢
 split at hp
 · rename_i n _
   obtain ⟨rfl,h1,h2⟩ := hp
   refine ⟨by decide,?_⟩
   unfold Try.f74
   simp only [go_sem,coe,zaa,Nat.reduceAdd,Nat.reduceSub,Nat.reduceMul,Int.reduceToNat,reduceCtorEq,↓reduceIte,Int.reducePow,Nat.reducePow,Int.reduceMod,Nat.reduceLeDiff,Int.reduceLE,Int.reduceNe,Int.reduceEq,Nat.reduceEqDiff,Nat.reduceLT,Nat.reduceBEq,ty,noS,decide_eq_true_eq,decide_eq_false_iff_not]
   unfold zz
   constructor
   · intro h; rw [if_pos h]; omega
   · intro h; rw [if_neg h]; omega
 · exact hp.elim
theorem zag_sound : zbb Try.prog 62 zgS := by
 refine zaq (S := noS) (T := ty) zbf ty_ok zbs Try.func62 (c := Try.f62.body.getD .skip) (by kernel_rfl) (by kernel_rfl) (fun xs pins hp _ => ?_)
 unfold zgS at hp ⊢
 split at hp
 · rename_i n _
   obtain ⟨rfl,h1,h2⟩ := hp
   refine ⟨by decide,?_⟩
   unfold Try.f62
   simp only [go_sem,coe,zaa,Nat.reduceAdd,Nat.reduceSub,Nat.reduceMul,Int.reduceToNat,reduceCtorEq,↓reduceIte,Int.reducePow,Nat.reducePow,Int.reduceMod,Nat.reduceLeDiff,Int.reduceLE,Int.reduceNe,Int.reduceEq,Nat.reduceEqDiff,Nat.reduceLT,Nat.reduceBEq,ty,noS]
   rw [and_u64_one n h1 h2]
   unfold zg
   split
   · rename_i h
     rw [show (0 - ((n % 2 + 9223372036854775808) % 18446744073709551616 - 9223372036854775808) + 9223372036854775808) % 18446744073709551616 - 9223372036854775808 = 0 by omega,xor_i64_zero _ (by omega) (by omega)]
     omega
   · rename_i h
     rw [show (0 - ((n % 2 + 9223372036854775808) % 18446744073709551616 - 9223372036854775808) + 9223372036854775808) % 18446744073709551616 - 9223372036854775808 = -1 by omega,xor_i64_ones _ (by omega) (by omega)]
     omega
 · exact hp.elim
end
end Go.Proofs.Ytnmomgcanfpigaa
namespace Go.Proofs.Ytnmomgcanfpigaa
open Ax
def putU (u : Nat) : List UInt8 := if u < 128 then [UInt8.ofNat u] else UInt8.ofNat (u % 128 + 128) :: putU (u / 128)
termination_by u
decreasing_by omega
def putS : zal
 | [.w (.int k n)],[] => ⟨k = .i64 ∧ -9223372036854775808 ≤ n ∧ n ≤ 9223372036854775807,.ms 0 1 0 (putU (zz n).toNat).length,[.b (putU (zz n).toNat)]⟩
 | _,_ => zbg
def S2 (f : FuncId) : Option zal :=
 match f with
 | 55 => some zzS
 | _ => none
theorem S2_ok : Fns Try.prog S2 := by
 intro f s h
 unfold S2 at h
 split at h
 · injection h with h; subst h; exact ⟨⟨_,Try.func55,by kernel_rfl,by kernel_rfl⟩,zig_sound⟩
 · cases h
theorem putU_big {u : Nat} (h : ¬ u < 128) : putU u = UInt8.ofNat (u % 128 + 128) :: putU (u / 128) := by
 rw [putU,if_neg h]
theorem zdm {u : Nat} (h : u < 128) : putU u = [UInt8.ofNat u] := by
 rw [putU,if_pos h]
theorem putU_pos (u : Nat) : 0 < (putU u).length := by
 rw [putU]; split <;> simp
theorem putU_len : ∀ (k u : Nat),u < 128 ^ (k + 1) → (putU u).length ≤ k + 1
 | 0,u,h => by rw [zdm (by simpa using h)]; simp
 | k + 1,u,h => by
   by_cases hu : u < 128
   · rw [zdm hu]; simp
   · rw [putU_big hu]
     have := putU_len k (u / 128) (by rw [Nat.div_lt_iff_lt_mul (by decide)]; rw [Nat.pow_succ] at h; exact h)
     simp; omega
theorem p128 : (128 : Nat) ^ (9 + 1) = 1180591620717411303424 := by simp
theorem zbq (u : Nat) (h : u < 18446744073709551616) : (putU u).length ≤ 10 := putU_len 9 u (by rw [p128]; omega)
theorem or128_nat : ∀ x : Fin 256,x.val ||| 128 = x.val % 128 + 128 := by decide +kernel
theorem or128 (m : Nat) : bits .or .u8 ((m : Int) % 256) 128 = ((m % 128 + 128 : Nat) : Int) := by
 rw [u8_or _ _ (by omega) (by omega) (by omega) (by omega)]
 have e : ((m : Int) % 256).toNat = m % 256 := by omega
 have := or128_nat ⟨m % 256,by omega⟩
 simp only at this
 rw [e,show (128 : Int).toNat = 128 from rfl,this]
 omega
theorem zz_range (n : Int) (h1 : -9223372036854775808 ≤ n) (h2 : n ≤ 9223372036854775807) : 0 ≤ zz n ∧ zz n < 18446744073709551616 := by
 unfold zz; split <;> omega
section
set_option maxRecDepth 100000
theorem put_sound : zbb Try.prog 31 putS := by
 refine zaq (S := S2) (T := ty) zbf ty_ok S2_ok Try.func31 (c := Try.f31.body.getD .skip) (by kernel_rfl) (by kernel_rfl) (fun xs pins hp _ => ?_)
 unfold putS at hp ⊢
 split at hp
 · rename_i n _
   obtain ⟨rfl,h1,h2⟩ := hp
   refine ⟨by decide,?_⟩
   unfold Try.f31
   simp only [go_sem,coe,zaa,Nat.reduceAdd,Nat.reduceSub,Nat.reduceMul,Int.reduceToNat,reduceCtorEq,↓reduceIte,Int.reducePow,Nat.reducePow,Int.reduceMod,Nat.reduceLeDiff,Int.reduceLE,Int.reduceNe,Int.reduceEq,Nat.reduceEqDiff,Nat.reduceLT,Nat.reduceBEq,ty,S2,zzS]
   have hz := zz_range n h1 h2
   refine ⟨⟨h1,h2⟩,awp_loop ⟨fun m σ => ∃ (u : Nat) (bs : List UInt8),m = u ∧ u < 18446744073709551616 ∧ bs ++ putU u = putU (zz n).toNat ∧
     σ = ⟨[.w (.int .i64 n),.junk,.junk,.w (.int .u64 u),.ms 4 1 0 bs.length,.junk,.junk,.junk,.junk,.junk,.junk,.junk,.junk,.junk,.junk,.junk,.junk,.junk,.junk,.junk,.junk,.junk],[(4,.b bs)],5⟩,?_,?_⟩⟩
   · refine ⟨_,_,(weak_nil 4 1 (.b []) rfl (by exact trivial)).trans (zaf [0,1,2,3,44] rfl rfl rfl ?_ ?_),(zz n).toNat,[],rfl,by omega,rfl,rfl⟩
     · simp only [ssT,zah,zai,setSlot,gOf,AV.ren,renL,Blk.ren,Ax.look,Ax.put,reduceCtorEq,↓reduceIte,Nat.reduceEqDiff,Nat.reduceLT,Nat.reduceAdd,List.length_append,List.length_cons,List.length_nil,Option.some.injEq]; omega
     · simp only [ssT,zah,zai,setSlot,gOf,AV.ren,renL,Blk.ren,Ax.look,Ax.put,reduceCtorEq,↓reduceIte,Nat.reduceEqDiff,Nat.reduceLT,Nat.reduceAdd,List.length_append,List.length_cons,List.length_nil,Option.some.injEq]
   · rintro m σ ⟨u,bs,rfl,hu,hbs,rfl⟩
     have hlen := congrArg List.length hbs
     have h10 := zbq (zz n).toNat (by omega)
     have h1' := putU_pos m
     rw [List.length_append] at hlen
     simp only [go_sem,coe,zaa,Nat.reduceAdd,Nat.reduceSub,Nat.reduceMul,Int.reduceToNat,reduceCtorEq,↓reduceIte,Int.reducePow,Nat.reducePow,Int.reduceMod,Nat.reduceLeDiff,Int.reduceLE,Int.reduceNe,Int.reduceEq,Nat.reduceEqDiff,Nat.reduceLT,Nat.reduceBEq,ty,S2,zzS,decide_eq_true_eq,decide_eq_false_iff_not]
     refine ⟨fun hc => ?_,fun hc => ?_⟩
     · have hm : ¬ m < 128 := by omega
       rw [putU_big hm] at hbs
       rw [or128 m]
       refine ⟨by omega,by unfold top; omega,m / 128,_,by omega,zaf [0,1,2,3,61] rfl rfl rfl ?_ ?_,m / 128,bs ++ [UInt8.ofNat (m % 128 + 128)],rfl,by omega,?_,rfl⟩
       · simp only [ssT,zah,zai,setSlot,gOf,AV.ren,renL,Blk.ren,Ax.look,Ax.put,reduceCtorEq,↓reduceIte,Nat.reduceEqDiff,Nat.reduceLT,Nat.reduceAdd,List.length_append,List.length_cons,List.length_nil,Option.some.injEq]; omega
       · simp only [ssT,zah,zai,setSlot,gOf,AV.ren,renL,Blk.ren,Ax.look,Ax.put,reduceCtorEq,↓reduceIte,Nat.reduceEqDiff,Nat.reduceLT,Nat.reduceAdd,List.length_append,List.length_cons,List.length_nil,Option.some.injEq,Int.toNat_natCast]
       · simpa using hbs
     · have hm : m < 128 := by omega
       rw [zdm hm] at hbs
       have e : ((m : Int) % 256).toNat = m := by omega
       rw [e,← hbs]
       refine ⟨by omega,by unfold top; omega,rfl,by simp⟩
 · exact hp.elim
def bytesS : zal
 | [.w (.int k u)],[] => ⟨k = .u64 ∧ 0 ≤ u ∧ u < 18446744073709551616,.ms 0 1 0 (putU u.toNat).length,[.b (putU u.toNat)]⟩
 | _,_ => zbg
theorem bytes_sound : zbb Try.prog 73 bytesS := by
 refine zaq (S := noS) (T := ty) zbf ty_ok zbs Try.func73 (c := Try.f73.body.getD .skip) (by kernel_rfl) (by kernel_rfl) (fun xs pins hp _ => ?_)
 unfold bytesS at hp ⊢
 split at hp
 · rename_i n _
   obtain ⟨rfl,h1,h2⟩ := hp
   refine ⟨by decide,?_⟩
   unfold Try.f73
   simp only [go_sem,coe,zaa,Nat.reduceAdd,Nat.reduceSub,Nat.reduceMul,Int.reduceToNat,reduceCtorEq,↓reduceIte,Int.reducePow,Nat.reducePow,Int.reduceMod,Nat.reduceLeDiff,Int.reduceLE,Int.reduceNe,Int.reduceEq,Nat.reduceEqDiff,Nat.reduceLT,Nat.reduceBEq,ty,noS]
   refine awp_loop ⟨fun m σ => ∃ (u : Nat) (bs : List UInt8),m = u ∧ u < 18446744073709551616 ∧ bs ++ putU u = putU n.toNat ∧
     σ = ⟨[.w (.int .u64 u),.junk,.junk,.ms 4 1 0 bs.length,.junk,.junk,.junk,.junk,.junk,.junk,.junk,.junk,.junk,.junk,.junk,.junk,.junk,.junk,.junk,.junk],[(4,.b bs)],5⟩,?_,?_⟩
   · refine ⟨_,_,(weak_nil 3 1 (.b []) rfl (by exact trivial)).trans (zaf [0,1,2,3,20] rfl rfl rfl ?_ ?_),n.toNat,[],rfl,by omega,rfl,rfl⟩
     · simp only [ssT,zah,zai,setSlot,gOf,AV.ren,renL,Blk.ren,Ax.look,Ax.put,reduceCtorEq,↓reduceIte,Nat.reduceEqDiff,Nat.reduceLT,Nat.reduceAdd,List.length_append,List.length_cons,List.length_nil,Option.some.injEq]; omega
     · simp only [ssT,zah,zai,setSlot,gOf,AV.ren,renL,Blk.ren,Ax.look,Ax.put,reduceCtorEq,↓reduceIte,Nat.reduceEqDiff,Nat.reduceLT,Nat.reduceAdd,List.length_append,List.length_cons,List.length_nil,Option.some.injEq]
   · rintro m σ ⟨u,bs,rfl,hu,hbs,rfl⟩
     have hlen := congrArg List.length hbs
     have h10 := zbq n.toNat (by omega)
     have h1' := putU_pos m
     rw [List.length_append] at hlen
     simp only [go_sem,coe,zaa,Nat.reduceAdd,Nat.reduceSub,Nat.reduceMul,Int.reduceToNat,reduceCtorEq,↓reduceIte,Int.reducePow,Nat.reducePow,Int.reduceMod,Nat.reduceLeDiff,Int.reduceLE,Int.reduceNe,Int.reduceEq,Nat.reduceEqDiff,Nat.reduceLT,Nat.reduceBEq,ty,noS,decide_eq_true_eq,decide_eq_false_iff_not]
     have et : (m : Int).tmod 128 = m % 128 := Int.tmod_eq_emod_of_nonneg (by omega)
     have ed : (m : Int).tdiv 128 = m / 128 := Int.tdiv_eq_ediv_of_nonneg (by omega)
     rw [et,ed]
     refine ⟨fun hc => ?_,fun hc => ?_⟩
     · have hm : ¬ m < 128 := by omega
       rw [putU_big hm] at hbs
       have e : (((m : Int) % 128 % 256 + 128) % 256) = ((m % 128 + 128 : Nat) : Int) := by omega
       rw [e]
       refine ⟨by omega,by unfold top; omega,m / 128,_,by omega,zaf [0,1,2,3,69] rfl rfl rfl ?_ ?_,m / 128,bs ++ [UInt8.ofNat (m % 128 + 128)],rfl,by omega,?_,rfl⟩
       · simp only [ssT,zah,zai,setSlot,gOf,AV.ren,renL,Blk.ren,Ax.look,Ax.put,reduceCtorEq,↓reduceIte,Nat.reduceEqDiff,Nat.reduceLT,Nat.reduceAdd,List.length_append,List.length_cons,List.length_nil,Option.some.injEq]; omega
       · simp only [ssT,zah,zai,setSlot,gOf,AV.ren,renL,Blk.ren,Ax.look,Ax.put,reduceCtorEq,↓reduceIte,Nat.reduceEqDiff,Nat.reduceLT,Nat.reduceAdd,List.length_append,List.length_cons,List.length_nil,Option.some.injEq,Int.toNat_natCast]
       · simpa using hbs
     · have hm : m < 128 := by omega
       rw [zdm hm] at hbs
       have e : ((m : Int) % 256).toNat = m := by omega
       rw [e,← hbs]
       refine ⟨by omega,by unfold top; omega,rfl,by simp⟩
 · exact hp.elim
def S19 (f : FuncId) : Option zal :=
 match f with
 | 74 => some zzS
 | 73 => some bytesS
 | _ => none
theorem S19_ok : Fns Try.prog S19 := by
 intro f s h
 unfold S19 at h
 split at h
 · injection h with h; subst h; exact ⟨⟨_,Try.func74,by kernel_rfl,by kernel_rfl⟩,rzig_sound⟩
 · injection h with h; subst h; exact ⟨⟨_,Try.func73,by kernel_rfl,by kernel_rfl⟩,bytes_sound⟩
 · cases h
theorem rput_sound : zbb Try.prog 57 putS := by
 refine zaq (S := S19) (T := ty) zbf ty_ok S19_ok Try.func57 (c := Try.f57.body.getD .skip) (by kernel_rfl) (by kernel_rfl) (fun xs pins hp _ => ?_)
 unfold putS at hp ⊢
 split at hp
 · rename_i n _
   obtain ⟨rfl,h1,h2⟩ := hp
   have hz := zz_range n h1 h2
   refine ⟨by decide,?_⟩
   unfold Try.f57
   simp only [go_sem,coe,zaa,Nat.reduceAdd,Nat.reduceSub,Nat.reduceMul,Int.reduceToNat,reduceCtorEq,↓reduceIte,Int.reducePow,Nat.reducePow,Int.reduceMod,Nat.reduceLeDiff,Int.reduceLE,Int.reduceNe,Int.reduceEq,Nat.reduceEqDiff,Nat.reduceLT,Nat.reduceBEq,ty,S19,zzS,bytesS,h1,h2,hz.1,hz.2]
 · exact hp.elim
def clampI (n : Int) : Int := if n < 0 then 0 else if 8 < n then 8 else n
def clampS : zal
 | [.w (.int k n)],[] => ⟨k = .i64,.w (.int .i64 (clampI n)),[]⟩
 | _,_ => zbg
theorem clamp_sound : zbb Try.prog 61 clampS := by
 refine zaq (S := noS) (T := ty) zbf ty_ok zbs Try.func61 (c := Try.f61.body.getD .skip) (by kernel_rfl) (by kernel_rfl) (fun xs pins hp _ => ?_)
 unfold clampS at hp ⊢
 split at hp
 · rename_i n _
   obtain rfl := hp
   refine ⟨by decide,?_⟩
   unfold Try.f61
   simp only [go_sem,coe,zaa,Nat.reduceAdd,Nat.reduceSub,Nat.reduceMul,Int.reduceToNat,reduceCtorEq,↓reduceIte,Int.reducePow,Nat.reducePow,Int.reduceMod,Nat.reduceLeDiff,Int.reduceLE,Int.reduceNe,Int.reduceEq,Nat.reduceEqDiff,Nat.reduceLT,Nat.reduceBEq,ty,noS]
   unfold clampI
   repeat' split
   all_goals omega
 · exact hp.elim
def zfd (s : List UInt8) : List UInt8 := putU (2 * s.length) ++ s
def textS : zal
 | [.str s],[] => ⟨s.length ≤ 1000000,.ms 0 1 0 (zfd s).length,[.b (zfd s)]⟩
 | _,_ => zbg
def S37 (f : FuncId) : Option zal :=
 match f with
 | 31 => some putS
 | 57 => some putS
 | _ => none
theorem S37_ok : Fns Try.prog S37 := by
 intro f s h
 unfold S37 at h
 split at h
 · injection h with h; subst h; exact ⟨⟨_,Try.func31,by kernel_rfl,by kernel_rfl⟩,put_sound⟩
 · injection h with h; subst h; exact ⟨⟨_,Try.func57,by kernel_rfl,by kernel_rfl⟩,rput_sound⟩
 · cases h
theorem text_sound : zbb Try.prog 54 textS := by
 refine zaq (S := S37) (T := ty) zbf ty_ok S37_ok Try.func54 (c := Try.f54.body.getD .skip) (by kernel_rfl) (by kernel_rfl) (fun xs pins hp _ => ?_)
 unfold textS at hp ⊢
 split at hp
 · rename_i s _
   refine ⟨by decide,?_⟩
   have hp : s.length ≤ 1000000 := hp
   have hz : (zz (s.length : Int)).toNat = 2 * s.length := by unfold zz; rw [if_pos (by omega)]; omega
   have h10 := zbq (2 * s.length) (by omega)
   unfold Try.f54
   simp only [go_sem,coe,zaa,Nat.reduceAdd,Nat.reduceSub,Nat.reduceMul,Int.reduceToNat,reduceCtorEq,↓reduceIte,Int.reducePow,Nat.reducePow,Int.reduceMod,Nat.reduceLeDiff,Int.reduceLE,Int.reduceNe,Int.reduceEq,Nat.reduceEqDiff,Nat.reduceLT,Nat.reduceBEq,ty,S37,putS,hz]
   unfold zfd top
   simp only [List.length_append]
   exact ⟨by omega,by omega,trivial,trivial⟩
 · exact hp.elim
end
end Go.Proofs.Ytnmomgcanfpigaa
namespace Go.Proofs.Ytnmomgcanfpigaa
open Ax
theorem clampI_range (n : Int) : 0 ≤ clampI n ∧ clampI n ≤ 8 := by
   unfold clampI; repeat' split
   all_goals omega
theorem set_at (k : Nat) (b : UInt8) (l : List UInt8) : (List.replicate (k + 1) 0 ++ l).set k b = List.replicate k 0 ++ b :: l := by
 induction k with
 | zero => rfl
 | succ k ih =>
   rw [List.replicate_succ,List.cons_append,List.set_cons_succ,ih]
   rw [List.replicate_succ (n := k),List.cons_append]
section
set_option maxRecDepth 100000
def unfL (bs : List UInt8) (n : Nat) : Nat := bs.foldl (fun n b => n * 256 + b.toNat) n
def zdr (bs : List UInt8) : List UInt8 := bs.drop (bs.length - 8)
theorem last8_length (bs : List UInt8) : (zdr bs).length ≤ 8 := by unfold zdr; simp; omega
def unfS : zal
 | [.sb bs _],[] => ⟨bs.length ≤ 1000000,.w (.int .u64 (unfL (zdr bs) 0 : Nat)),[]⟩
 | _,_ => zbg
theorem unfixed_sound : zbb Try.prog 60 unfS := by
 refine zaq (S := noS) (T := ty) zbf ty_ok zbs Try.func60 (c := Try.f60.body.getD .skip) (by kernel_rfl) (by kernel_rfl) (fun xs pins hp _ => ?_)
 unfold unfS at hp ⊢
 split at hp
 · rename_i bs f _
   have hp : bs.length ≤ 1000000 := hp
   refine ⟨by decide,?_⟩
   have hl8 := last8_length bs
   have em : (if (0 : Int) > (bs.length - 8 + 9223372036854775808) % 18446744073709551616 - 9223372036854775808 then (0 : Int) else (bs.length - 8 + 9223372036854775808) % 18446744073709551616 - 9223372036854775808) = ((bs.length - 8 : Nat) : Int) := by
     split <;> omega
   have e8 : List.take (bs.length - (bs.length - 8)) (List.drop (bs.length - 8) bs) = zdr bs := by
     unfold zdr
     exact List.take_of_length_le (by simp)
   unfold Try.f60
   simp only [go_sem,coe,zaa,Nat.reduceAdd,Nat.reduceSub,Nat.reduceMul,Int.reduceToNat,reduceCtorEq,↓reduceIte,Int.reducePow,Nat.reducePow,Int.reduceMod,Nat.reduceLeDiff,Int.reduceLE,Int.reduceNe,Int.reduceEq,Nat.reduceEqDiff,Nat.reduceLT,Nat.reduceBEq,ty,noS,em,e8]
   refine ⟨⟨by omega,by omega⟩,awp_loop ⟨fun m σ => ∃ (i X : Nat),m = (zdr bs).length - i ∧ i ≤ (zdr bs).length ∧ X < 256 ^ i ∧ unfL ((zdr bs).drop i) X = unfL (zdr bs) 0 ∧
     σ = ⟨[.sb bs f,.junk,.junk,.w (.int .u64 X),.junk,.junk,.junk,.junk,.junk,.junk,.junk,.sb (zdr bs) f,.w (.int .i64 (zdr bs).length),.w (.int .i64 i),.junk,.junk,.junk,.junk,.junk,.junk,.junk,.junk,.junk,.junk],[],4⟩,?_,?_⟩⟩
   · refine ⟨_,_,zaf [0,1,2,3] rfl rfl rfl ?_ ?_,0,0,rfl,by omega,by simp,rfl,rfl⟩
     · simp only [ssT,zah,zai,setSlot,gOf,AV.ren,renL,Blk.ren,Ax.look,Ax.put,reduceCtorEq,↓reduceIte,Nat.reduceEqDiff,Nat.reduceLT,Nat.reduceAdd,List.length_append,List.length_cons,List.length_nil,Option.some.injEq]; simp
     · simp only [ssT,zah,zai,setSlot,gOf,AV.ren,renL,Blk.ren,Ax.look,Ax.put,reduceCtorEq,↓reduceIte,Nat.reduceEqDiff,Nat.reduceLT,Nat.reduceAdd,List.length_append,List.length_cons,List.length_nil,Option.some.injEq]
   · rintro m σ ⟨i,X,rfl,hi,hX,hu,rfl⟩
     simp only [go_sem,coe,zaa,Nat.reduceAdd,Nat.reduceSub,Nat.reduceMul,Int.reduceToNat,reduceCtorEq,↓reduceIte,Int.reducePow,Nat.reducePow,Int.reduceMod,Nat.reduceLeDiff,Int.reduceLE,Int.reduceNe,Int.reduceEq,Nat.reduceEqDiff,Nat.reduceLT,Nat.reduceBEq,ty,noS,decide_eq_true_eq,decide_eq_false_iff_not]
     refine ⟨fun hc => ?_,fun hc => ?_⟩
     · have hil : i < (zdr bs).length := by omega
       have h7 : (256 : Nat) ^ i ≤ 256 ^ 7 := Nat.pow_le_pow_right (by decide) (by omega)
       have h7' : (256 : Nat) ^ 7 = 72057594037927936 := by simp
       have hb := (zdr bs)[i].toNat_lt
       rw [List.drop_eq_getElem_cons hil] at hu
       have eg : (zdr bs).getD i 0 = (zdr bs)[i] := by simp [hil]
       have eor : bits .or .u64 ((X : Int) * 256 % 18446744073709551616) (((zdr bs)[i].toNat : Int) % 18446744073709551616) = ((X * 256 + (zdr bs)[i].toNat : Nat) : Int) := by
         rw [u64_or _ _ (by omega) (by omega) (by omega) (by omega)]
         rw [show ((X : Int) * 256 % 18446744073709551616).toNat = X * 256 by omega,show (((zdr bs)[i].toNat : Int) % 18446744073709551616).toNat = (zdr bs)[i].toNat by omega,nat_join 8 _ _ (by omega) (by simpa using hb)]
       simp only [eg,eor]
       refine ⟨⟨by omega,hil⟩,(zdr bs).length - (i + 1),_,by omega,zaf [0,1,2,3] rfl rfl rfl ?_ ?_,i + 1,X * 256 + (zdr bs)[i].toNat,rfl,by omega,?_,hu,rfl⟩
       · simp only [ssT,zah,zai,setSlot,gOf,AV.ren,renL,Blk.ren,Ax.look,Ax.put,reduceCtorEq,↓reduceIte,Nat.reduceEqDiff,Nat.reduceLT,Nat.reduceAdd,List.length_append,List.length_cons,List.length_nil,Option.some.injEq]; omega
       · simp only [ssT,zah,zai,setSlot,gOf,AV.ren,renL,Blk.ren,Ax.look,Ax.put,reduceCtorEq,↓reduceIte,Nat.reduceEqDiff,Nat.reduceLT,Nat.reduceAdd,List.length_append,List.length_cons,List.length_nil,Option.some.injEq]
       · rw [Nat.pow_succ]; omega
     · have hil : i = (zdr bs).length := by omega
       subst hil
       rw [List.drop_length] at hu
       simp only [unfL,List.foldl_nil] at hu ⊢
       rw [← hu]
 · exact hp.elim
end
end Go.Proofs.Ytnmomgcanfpigaa
namespace Go.Proofs.Ytnmomgcanfpigaa
open Ax
def getF (bs : List UInt8) : Nat → Nat → Int → Int × Nat × Int
 | 0,_,_ => if bs.length < 10 then (0,0,3) else (0,0,4)
 | r + 1,i,u =>
   if 128 ≤ (bs.getD i 0).toNat then getF bs r (i + 1) (bits .or .u64 u (bits .andNot .u8 (bs.getD i 0).toNat 128 % 18446744073709551616 * 2 ^ (7 * i) % 18446744073709551616))
   else if (0 < i ∧ (bs.getD i 0).toNat = 0) ∨ (i = 9 ∧ 1 < (bs.getD i 0).toNat) then (0,0,4)
   else (zg (bits .or .u64 u (bits .andNot .u8 (bs.getD i 0).toNat 128 % 18446744073709551616 * 2 ^ (7 * i) % 18446744073709551616)),i + 1,0)
def getL (bs : List UInt8) : Int × Nat × Int := getF bs (min bs.length 10) 0 0
def getS : zal
 | [.sb bs _],[] => ⟨bs.length ≤ 1000000,.tup [.w (.int .i64 (getL bs).1),.w (.int .i64 (getL bs).2.1),.w (.int .i64 (getL bs).2.2)],[]⟩
 | _,_ => zbg
theorem or_u64_range (a b : Int) : 0 ≤ bits .or .u64 a b ∧ bits .or .u64 a b < 18446744073709551616 := by
 show 0 ≤ IntKind.u64.wrap _ ∧ IntKind.u64.wrap _ < _
 rw [IntKind.wrap_u64]; omega
def S22 (f : FuncId) : Option zal :=
 match f with
 | 62 => some zgS
 | _ => none
theorem S22_ok : Fns Try.prog S22 := by
 intro f s h
 unfold S22 at h
 split at h
 · injection h with h; subst h; exact ⟨⟨_,Try.func62,by kernel_rfl,by kernel_rfl⟩,zag_sound⟩
 · cases h
section
set_option maxRecDepth 100000
theorem get_sound : zbb Try.prog 36 getS := by
 refine zaq (S := S22) (T := ty) zbf ty_ok S22_ok Try.func36 (c := Try.f36.body.getD .skip) (by kernel_rfl) (by kernel_rfl) (fun xs pins hp _ => ?_)
 unfold getS at hp ⊢
 split at hp
 · rename_i bs f _
   have hp : bs.length ≤ 1000000 := hp
   refine ⟨by decide,?_⟩
   obtain ⟨L,hL⟩ : ∃ L,min bs.length 10 = L := ⟨_,rfl⟩
   have hLb : L ≤ bs.length ∧ L ≤ 10 := by omega
   have em : (if (10 : Int) < bs.length then (10 : Int) else bs.length) = (L : Int) := by split <;> omega
   have hg : getL bs = getF bs L 0 0 := by unfold getL; rw [hL]
   rw [hg]
   unfold Try.f36
   simp only [go_sem,coe,zaa,Nat.reduceAdd,Nat.reduceSub,Nat.reduceMul,Int.reduceToNat,reduceCtorEq,↓reduceIte,Int.reducePow,Nat.reducePow,Int.reduceMod,Nat.reduceLeDiff,Int.reduceLE,Int.reduceNe,Int.reduceEq,Nat.reduceEqDiff,Nat.reduceLT,Nat.reduceBEq,ty,S22,em]
   refine awp_loop ⟨fun m σ => ∃ (i : Nat) (u : Int),m = L - i ∧ i ≤ L ∧ getF bs (L - i) i u = getF bs L 0 0 ∧
     σ = ⟨[.sb bs f,.junk,.junk,.junk,.junk,.w (.int .u64 u),.junk,.junk,.junk,.w (.int .i64 L),.w (.int .i64 i),.junk,.junk,.junk,.junk,.junk,.junk,.junk,.junk,.junk,.junk,.junk,.junk,.junk,.junk,.junk,.junk,.junk,.junk,.junk,.junk,.junk,.junk,.junk,.junk,.junk,.junk,.junk,.junk,.junk,.junk,.junk,.junk,.junk,.junk,.junk,.junk,.junk,.junk,.junk,.junk,.junk,.junk,.junk,.junk,.junk,.junk],[],4⟩,?_,?_⟩
   · refine ⟨_,_,zaf [0,1,2,3] rfl rfl rfl ?_ ?_,0,0,rfl,by omega,rfl,rfl⟩
     · simp only [ssT,zah,zai,setSlot,gOf,AV.ren,renL,Blk.ren,Ax.look,Ax.put,reduceCtorEq,↓reduceIte,Nat.reduceEqDiff,Nat.reduceLT,Nat.reduceAdd,List.length_append,List.length_cons,List.length_nil,Option.some.injEq]; rfl
     · simp only [ssT,zah,zai,setSlot,gOf,AV.ren,renL,Blk.ren,Ax.look,Ax.put,reduceCtorEq,↓reduceIte,Nat.reduceEqDiff,Nat.reduceLT,Nat.reduceAdd,List.length_append,List.length_cons,List.length_nil,Option.some.injEq]
   · rintro m σ ⟨i,u,rfl,hi,hu,rfl⟩
     have e7 : (7 * (i : Int) + 9223372036854775808) % 18446744073709551616 - 9223372036854775808 = ((7 * i : Nat) : Int) := by omega
     have e1 : ((i : Int) + 1 + 9223372036854775808) % 18446744073709551616 - 9223372036854775808 = ((i + 1 : Nat) : Int) := by omega
     obtain ⟨c,hc⟩ : ∃ c,bs.getD i 0 = c := ⟨_,rfl⟩
     by_cases hiL : i < L
     · have hd : decide ((i : Int) < (L : Int)) = true := by simpa using hiL
       have h64 : 7 * i ≤ 64 := by omega
       simp only [go_sem,coe,zaa,Nat.reduceAdd,Nat.reduceSub,Nat.reduceMul,Int.reduceToNat,reduceCtorEq,↓reduceIte,Int.reducePow,Nat.reducePow,Int.reduceMod,Nat.reduceLeDiff,Int.reduceLE,Int.reduceNe,Int.reduceEq,Nat.reduceEqDiff,Nat.reduceLT,Nat.reduceBEq,ty,S22,zgS,decide_eq_true_eq,decide_eq_false_iff_not,e7,e1,h64,if_true,hc,hd]
       obtain ⟨v,hv⟩ : ∃ v,bits .or .u64 u (bits .andNot .u8 c.toNat 128 % 18446744073709551616 * 2 ^ (7 * i) % 18446744073709551616) = v := ⟨_,rfl⟩
       have hvr : 0 ≤ v ∧ v < 18446744073709551616 := hv ▸ or_u64_range _ _
       rw [show L - i = (L - (i + 1)) + 1 by omega,getF,hc,hv] at hu
       simp only [hv]
       refine ⟨⟨by omega,by omega⟩,by omega,⟨by omega,by omega⟩,fun h => ?_,fun h => ?_⟩
       · rw [if_pos (by omega)] at hu
         refine ⟨L - (i + 1),_,by omega,zaf [0,1,2,3] rfl rfl rfl ?_ ?_,i + 1,v,rfl,by omega,hu,rfl⟩
         · simp only [ssT,zah,zai,setSlot,gOf,AV.ren,renL,Blk.ren,Ax.look,Ax.put,reduceCtorEq,↓reduceIte,Nat.reduceEqDiff,Nat.reduceLT,Nat.reduceAdd,List.length_append,List.length_cons,List.length_nil,Option.some.injEq]
         · simp only [ssT,zah,zai,setSlot,gOf,AV.ren,renL,Blk.ren,Ax.look,Ax.put,reduceCtorEq,↓reduceIte,Nat.reduceEqDiff,Nat.reduceLT,Nat.reduceAdd,List.length_append,List.length_cons,List.length_nil,Option.some.injEq]
       · rw [if_neg (by omega)] at hu
         by_cases hA : (0 < i ∧ c.toNat = 0) ∨ (i = 9 ∧ 1 < c.toNat)
         · rw [if_pos hA] at hu
           rw [← hu]
           repeat' (first | (intro _) | (apply And.intro))
           all_goals first | omega | rfl | (exfalso; omega) | trace_state
         · rw [if_neg hA] at hu
           rw [← hu]
           repeat' (first | (intro _) | (apply And.intro))
           all_goals first | omega | rfl | (exfalso; omega) | trace_state
     · have hd : decide ((i : Int) < (L : Int)) = false := by simpa using hiL
       simp only [go_sem,coe,zaa,Nat.reduceAdd,Nat.reduceSub,Nat.reduceMul,Int.reduceToNat,reduceCtorEq,↓reduceIte,Int.reducePow,Nat.reducePow,Int.reduceMod,Nat.reduceLeDiff,Int.reduceLE,Int.reduceNe,Int.reduceEq,Nat.reduceEqDiff,Nat.reduceLT,Nat.reduceBEq,ty,S22,zgS,decide_eq_true_eq,decide_eq_false_iff_not,hd]
       rw [show L - i = 0 by omega,getF] at hu
       refine ⟨fun h => ?_,fun h => ?_⟩
       · rw [if_pos (by omega)] at hu
         rw [← hu]
         repeat' (apply And.intro)
         all_goals rfl
       · rw [if_neg (by omega)] at hu
         rw [← hu]
         repeat' (apply And.intro)
         all_goals rfl
 · exact hp.elim
end
end Go.Proofs.Ytnmomgcanfpigaa
namespace Go.Proofs.Ytnmomgcanfpigaa
open Ax
def rd (bs : List UInt8) (f : Bool) (e : Int) : Blk := .g 2 [.agg [.sb bs f,.w (.int .i64 e)]]
def tkB (n : Int) (bs : List UInt8) : List UInt8 := if (bs.length : Int) < n then [] else bs.take n.toNat
def tkL (n : Int) (bs : List UInt8) : List UInt8 := if (bs.length : Int) < n then bs else bs.drop n.toNat
def tkE (n : Int) (bs : List UInt8) (e : Int) : Int := if (bs.length : Int) < n then 3 else e
def takeS : zal
 | [.rf 0 2 0 0,.w (.int k n)],[.g 2 [.agg [.sb bs f,.w (.int k' e)]]] => ⟨k = .i64 ∧ k' = .i64 ∧ 0 ≤ n,.sb (tkB n bs) true,[rd (tkL n bs) f (tkE n bs e)]⟩
 | _,_ => zbg
section
set_option maxRecDepth 100000
theorem take_sound : zbb Try.prog 59 takeS := by
 refine zfr (S := noS) (T := ty) zbf ty_ok zbs Try.func59 (c := Try.f59.body.getD .skip) (by kernel_rfl) (by kernel_rfl) (fun xs pins hp _ => ?_)
 unfold takeS at hp ⊢
 split at hp
 · rename_i k n bs f k' e _
   obtain ⟨rfl,rfl,h1⟩ := hp
   refine ⟨by simp,?_⟩
   unfold Try.f59
   simp only [go_sem,coe,zaa,Nat.reduceAdd,Nat.reduceSub,Nat.reduceMul,Int.reduceToNat,reduceCtorEq,↓reduceIte,Int.reducePow,Nat.reducePow,Int.reduceMod,Nat.reduceLeDiff,Int.reduceLE,Int.reduceNe,Int.reduceEq,Nat.reduceEqDiff,Nat.reduceLT,Nat.reduceBEq,ty,noS,decide_eq_true_eq,decide_eq_false_iff_not]
   refine ⟨fun h => ?_,fun h => ?_⟩
   · refine ⟨_,weak_coe 4 1 true rfl,?_⟩
     simp only [go_sem,coe,zaa,Nat.reduceAdd,Nat.reduceSub,Nat.reduceMul,Int.reduceToNat,reduceCtorEq,↓reduceIte,Int.reducePow,Nat.reducePow,Int.reduceMod,Nat.reduceLeDiff,Int.reduceLE,Int.reduceNe,Int.reduceEq,Nat.reduceEqDiff,Nat.reduceLT,Nat.reduceBEq,ty,tkB,tkL,tkE,rd,h,if_true]
   · have e1 : List.take (bs.length - n.toNat) (List.drop n.toNat bs) = bs.drop n.toNat := List.take_of_length_le (by simp)
     refine ⟨⟨by omega,by omega,by omega⟩,⟨by omega,by omega⟩,_,Weak.refl _,?_⟩
     simp only [go_sem,coe,zaa,Nat.reduceAdd,Nat.reduceSub,Nat.reduceMul,Int.reduceToNat,reduceCtorEq,↓reduceIte,Int.reducePow,Nat.reducePow,Int.reduceMod,Nat.reduceLeDiff,Int.reduceLE,Int.reduceNe,Int.reduceEq,Nat.reduceEqDiff,Nat.reduceLT,Nat.reduceBEq,ty,tkB,tkL,tkE,rd,h,if_false,e1,Nat.sub_zero,decide_true]
 · exact hp.elim
def newS : zal
 | [.sb bs f],[] => ⟨bs.length ≤ 1000000,.rf 0 2 0 0,[rd bs false 0]⟩
 | _,_ => zbg
theorem new_sound : zbb Try.prog 33 newS := by
 refine zfr (S := noS) (T := ty) zbf ty_ok zbs Try.func33 (c := Try.f33.body.getD .skip) (by kernel_rfl) (by kernel_rfl) (fun xs pins hp _ => ?_)
 unfold newS at hp ⊢
 split at hp
 · rename_i bs f _
   have hp : bs.length ≤ 1000000 := hp
   refine ⟨by simp,?_⟩
   unfold Try.f33
   simp only [go_sem,coe,zaa,Nat.reduceAdd,Nat.reduceSub,Nat.reduceMul,Int.reduceToNat,reduceCtorEq,↓reduceIte,Int.reducePow,Nat.reducePow,Int.reduceMod,Nat.reduceLeDiff,Int.reduceLE,Int.reduceNe,Int.reduceEq,Nat.reduceEqDiff,Nat.reduceLT,Nat.reduceBEq,ty,noS,rd]
   refine ⟨by unfold top; omega,_,weak_fz 20 4 bs rfl (by simp [slot,AV.ids]),?_⟩
   simp only [fzL,fzH,AV.fz,Blk.fz,go_sem,coe,zaa,Nat.reduceAdd,Nat.reduceSub,Nat.reduceMul,Int.reduceToNat,reduceCtorEq,↓reduceIte,Int.reducePow,Nat.reducePow,Int.reduceMod,Nat.reduceLeDiff,Int.reduceLE,Int.reduceNe,Int.reduceEq,Nat.reduceEqDiff,Nat.reduceLT,Nat.reduceBEq,ty,rd,decide_true,List.take_length]
 · exact hp.elim
def numN (bs : List UInt8) (e : Int) : Int := if e = 0 then (getL bs).1 else 0
def numL (bs : List UInt8) (e : Int) : List UInt8 := if e = 0 then bs.drop (getL bs).2.1 else bs
def numE (bs : List UInt8) (e : Int) : Int := if e = 0 then (getL bs).2.2 else e
theorem getF_ok (bs : List UInt8) : ∀ (r i : Nat) (u : Int),i + r ≤ bs.length → (getF bs r i u).2.1 ≤ bs.length ∧ ((getF bs r i u).2.2 ≠ 0 → (getF bs r i u).1 = 0 ∧ (getF bs r i u).2.1 = 0)
 | 0,i,u,h => by unfold getF; split <;> simp
 | r + 1,i,u,h => by
   unfold getF
   split
   · exact getF_ok bs r (i + 1) _ (by omega)
   · split
     · simp
     · simp; omega
theorem getL_ok (bs : List UInt8) : (getL bs).2.1 ≤ bs.length ∧ ((getL bs).2.2 ≠ 0 → (getL bs).1 = 0 ∧ (getL bs).2.1 = 0) := getF_ok bs _ 0 0 (by omega)
def numS : zal
 | [.rf 0 2 0 0],[.g 2 [.agg [.sb bs f,.w (.int k e)]]] => ⟨k = .i64 ∧ bs.length ≤ 1000000,.w (.int .i64 (numN bs e)),[rd (numL bs e) f (numE bs e)]⟩
 | [.w (.pointer none)],[] => ⟨True,.w (.int .i64 0),[]⟩
 | _,_ => zbg
def S28 (f : FuncId) : Option zal :=
 match f with
 | 36 => some getS
 | _ => none
theorem S28_ok : Fns Try.prog S28 := by
 intro f s h
 unfold S28 at h
 split at h
 · injection h with h; subst h; exact ⟨⟨_,Try.func36,by kernel_rfl,by kernel_rfl⟩,get_sound⟩
 · cases h
theorem num_sound : zbb Try.prog 58 numS := by
 refine zaq (S := S28) (T := ty) zbf ty_ok S28_ok Try.func58 (c := Try.f58.body.getD .skip) (by kernel_rfl) (by kernel_rfl) (fun xs pins hp _ => ?_)
 unfold numS at hp ⊢
 split at hp
 · rename_i bs f k e _
   obtain ⟨rfl,hlen⟩ := hp
   refine ⟨by simp,?_⟩
   obtain ⟨hg1,hg2⟩ := getL_ok bs
   have e1 : List.take (bs.length - (getL bs).2.1) (List.drop (getL bs).2.1 bs) = bs.drop (getL bs).2.1 := List.take_of_length_le (by simp)
   unfold Try.f58
   simp only [go_sem,coe,zaa,Nat.reduceAdd,Nat.reduceSub,Nat.reduceMul,Int.reduceToNat,reduceCtorEq,↓reduceIte,Int.reducePow,Nat.reducePow,Int.reduceMod,Nat.reduceLeDiff,Int.reduceLE,Int.reduceNe,Int.reduceEq,Nat.reduceEqDiff,Nat.reduceLT,Nat.reduceBEq,ty,S28,getS,decide_eq_true_eq,decide_eq_false_iff_not,rd,e1,hlen]
   by_cases he : e = 0
   · by_cases hr : (getL bs).2.2 = 0
     · simp [numL,numE,numN,he,hr,noimmL,AV.noimm,hg1]
     · obtain ⟨h3,h4⟩ := hg2 hr
       simp [numL,numE,numN,he,hr,h3,h4,noimmL,AV.noimm]
   · simp [numL,numE,numN,he]
 · refine ⟨by simp,?_⟩
   unfold Try.f58
   simp only [go_sem,coe,zaa,Nat.reduceAdd,Nat.reduceSub,Nat.reduceMul,Int.reduceToNat,reduceCtorEq,↓reduceIte,Int.reducePow,Nat.reducePow,Int.reduceMod,Nat.reduceLeDiff,Int.reduceLE,Int.reduceNe,Int.reduceEq,Nat.reduceEqDiff,Nat.reduceLT,Nat.reduceBEq,ty,S28,getS,rd]
 · exact hp.elim
def rfixN (n : Int) (bs : List UInt8) (e : Int) : Int := if e = 0 then (unfL (zdr (tkB (clampI n) bs)) 0 : Nat) else 0
def rfixL (n : Int) (bs : List UInt8) (e : Int) : List UInt8 := if e = 0 then tkL (clampI n) bs else bs
def rfixE (n : Int) (bs : List UInt8) (e : Int) : Int := if e = 0 then tkE (clampI n) bs 0 else e
def rfixS : zal
 | [.rf 0 2 0 0,.w (.int k' n)],[.g 2 [.agg [.sb bs f,.w (.int k e)]]] => ⟨k = .i64 ∧ k' = .i64 ∧ bs.length ≤ 1000000,.w (.int .u64 (rfixN n bs e)),[rd (rfixL n bs e) f (rfixE n bs e)]⟩
 | [.w (.pointer none),.w (.int k' n)],[] => ⟨k' = .i64,.w (.int .u64 0),[]⟩
 | _,_ => zbg
def S30 (f : FuncId) : Option zal :=
 match f with
 | 61 => some clampS
 | 59 => some takeS
 | 60 => some unfS
 | _ => none
theorem S30_ok : Fns Try.prog S30 := by
 intro f s h
 unfold S30 at h
 split at h
 · injection h with h; subst h; exact ⟨⟨_,Try.func61,by kernel_rfl,by kernel_rfl⟩,clamp_sound⟩
 · injection h with h; subst h; exact ⟨⟨_,Try.func59,by kernel_rfl,by kernel_rfl⟩,take_sound⟩
 · injection h with h; subst h; exact ⟨⟨_,Try.func60,by kernel_rfl,by kernel_rfl⟩,unfixed_sound⟩
 · cases h
theorem tkB_length (n : Int) (bs : List UInt8) : (tkB n bs).length ≤ bs.length := by unfold tkB; split <;> simp; omega
theorem mfixed_sound : zbb Try.prog 35 rfixS := by
 refine zaq (S := S30) (T := ty) zbf ty_ok S30_ok Try.func35 (c := Try.f35.body.getD .skip) (by kernel_rfl) (by kernel_rfl) (fun xs pins hp _ => ?_)
 unfold rfixS at hp ⊢
 split at hp
 · rename_i k' n bs f k e _
   obtain ⟨rfl,rfl,hlen⟩ := hp
   refine ⟨by simp,?_⟩
   have hc := clampI_range n
   have ht := tkB_length (clampI n) bs
   unfold Try.f35
   simp only [go_sem,coe,zaa,Nat.reduceAdd,Nat.reduceSub,Nat.reduceMul,Int.reduceToNat,reduceCtorEq,↓reduceIte,Int.reducePow,Nat.reducePow,Int.reduceMod,Nat.reduceLeDiff,Int.reduceLE,Int.reduceNe,Int.reduceEq,Nat.reduceEqDiff,Nat.reduceLT,Nat.reduceBEq,ty,S30,takeS,clampS,unfS,decide_eq_true_eq,decide_eq_false_iff_not,rd,hlen]
   by_cases he : e = 0
   · subst he
     simp [rfixL,rfixE,rfixN,hc.1]
     omega
   · simp [rfixL,rfixE,rfixN,he]
 · obtain rfl := hp
   refine ⟨by simp,?_⟩
   unfold Try.f35
   simp only [go_sem,coe,zaa,Nat.reduceAdd,Nat.reduceSub,Nat.reduceMul,Int.reduceToNat,reduceCtorEq,↓reduceIte,Int.reducePow,Nat.reducePow,Int.reduceMod,Nat.reduceLeDiff,Int.reduceLE,Int.reduceNe,Int.reduceEq,Nat.reduceEqDiff,Nat.reduceLT,Nat.reduceBEq,ty,S30,takeS,clampS,unfS,rd]
 · exact hp.elim
def rtOk (m : Int) (bs : List UInt8) (e : Int) : Prop := numE bs e = 0 ∧ 0 ≤ numN bs e ∧ numN bs e ≤ max m 0
instance (m : Int) (bs : List UInt8) (e : Int) : Decidable (rtOk m bs e) := by unfold rtOk; infer_instance
def rtS' (m : Int) (bs : List UInt8) (e : Int) : List UInt8 := if rtOk m bs e then tkB (numN bs e) (numL bs e) else []
def rtL (m : Int) (bs : List UInt8) (e : Int) : List UInt8 := if rtOk m bs e then tkL (numN bs e) (numL bs e) else numL bs e
def rtE (m : Int) (bs : List UInt8) (e : Int) : Int := if numE bs e ≠ 0 then numE bs e else if rtOk m bs e then tkE (numN bs e) (numL bs e) 0 else 5
def rtextS' : zal
 | [.rf 0 2 0 0,.w (.int k' m)],[.g 2 [.agg [.sb bs f,.w (.int k e)]]] => ⟨k = .i64 ∧ k' = .i64 ∧ bs.length ≤ 1000000,.str (rtS' m bs e),[rd (rtL m bs e) f (rtE m bs e)]⟩
 | [.w (.pointer none),.w (.int k' m)],[] => ⟨k' = .i64,.str [],[]⟩
 | _,_ => zbg
def S32 (f : FuncId) : Option zal :=
 match f with
 | 58 => some numS
 | 59 => some takeS
 | _ => none
theorem S32_ok : Fns Try.prog S32 := by
 intro f s h
 unfold S32 at h
 split at h
 · injection h with h; subst h; exact ⟨⟨_,Try.func58,by kernel_rfl,by kernel_rfl⟩,num_sound⟩
 · injection h with h; subst h; exact ⟨⟨_,Try.func59,by kernel_rfl,by kernel_rfl⟩,take_sound⟩
 · cases h
theorem mtext_sound : zbb Try.prog 34 rtextS' := by
 refine zaq (S := S32) (T := ty) zbf ty_ok S32_ok Try.func34 (c := Try.f34.body.getD .skip) (by kernel_rfl) (by kernel_rfl) (fun xs pins hp _ => ?_)
 unfold rtextS' at hp ⊢
 split at hp
 · rename_i k' m bs f k e _
   obtain ⟨rfl,rfl,hlen⟩ := hp
   refine ⟨by simp,?_⟩
   unfold Try.f34
   simp only [go_sem,coe,zaa,Nat.reduceAdd,Nat.reduceSub,Nat.reduceMul,Int.reduceToNat,reduceCtorEq,↓reduceIte,Int.reducePow,Nat.reducePow,Int.reduceMod,Nat.reduceLeDiff,Int.reduceLE,Int.reduceNe,Int.reduceEq,Nat.reduceEqDiff,Nat.reduceLT,Nat.reduceBEq,ty,S32,numS,takeS,decide_eq_true_eq,decide_eq_false_iff_not,rd,hlen]
   have hmax : (if (0 : Int) > m then (0 : Int) else m) = max m 0 := by split <;> omega
   rw [hmax]
   by_cases hn : numE bs e = 0
   · by_cases hok : 0 ≤ numN bs e ∧ numN bs e ≤ max m 0
     · have hr : rtOk m bs e := ⟨hn,hok⟩
       have h1 : ¬ numN bs e < 0 := by omega
       have h2 : ¬ max m 0 < numN bs e := by omega
       simp only [rtL,rtE,rtS',hr,hn,h1,h2,if_true,decide_true,Bool.not_true,Bool.false_eq_true,Bool.or_false,false_implies,true_implies,not_false_eq_true,not_true_eq_false,true_and,and_true,ne_eq,if_false,hok.1]
     · have hr : ¬ rtOk m bs e := fun h => hok h.2
       simp only [rtL,rtE,rtS',hr,hn,if_false,decide_true,Bool.not_true,Bool.false_eq_true,Bool.or_false,false_implies,true_implies,ne_eq,not_true_eq_false,true_and,and_true,implies_true]
       intro h1 h2
       exact (hok ⟨by omega,by omega⟩).elim
   · have hr : ¬ rtOk m bs e := fun h => hn h.1
     simp [rtL,rtE,rtS',hr,hn]
 · obtain rfl := hp
   refine ⟨by simp,?_⟩
   unfold Try.f34
   simp only [go_sem,coe,zaa,Nat.reduceAdd,Nat.reduceSub,Nat.reduceMul,Int.reduceToNat,reduceCtorEq,↓reduceIte,Int.reducePow,Nat.reducePow,Int.reduceMod,Nat.reduceLeDiff,Int.reduceLE,Int.reduceNe,Int.reduceEq,Nat.reduceEqDiff,Nat.reduceLT,Nat.reduceBEq,ty,S32,numS,takeS,rd]
 · exact hp.elim
end
end Go.Proofs.Ytnmomgcanfpigaa
namespace Go.Proofs.Ytnmomgcanfpigaa
open Ax
def valU : List UInt8 → Nat
 | [] => 0
 | c :: r => c.toNat % 128 + 128 * valU r
theorem val_put (u : Nat) : valU (putU u) = u := by
 induction u using Nat.strongRecOn with
 | ind u ih =>
   by_cases h : u < 128
   · rw [zdm h]
     simp only [valU,UInt8.toNat_ofNat']
     omega
   · rw [putU_big h]
     simp only [valU,UInt8.toNat_ofNat',ih (u / 128) (by omega)]
     omega
theorem val_pos : ∀ (p : List UInt8) (c : UInt8),0 < c.toNat → c.toNat < 128 → 0 < valU (p ++ [c])
 | [],c,h,h' => by simp only [List.nil_append,valU]; omega
 | d :: p,c,h,h' => by
   have := val_pos p c h h'
   simp only [List.cons_append,valU]; omega
theorem put_val : ∀ (p : List UInt8) (c : UInt8),(∀ d ∈ p,128 ≤ d.toNat) → c.toNat < 128 → (p = [] ∨ 0 < c.toNat) → putU (valU (p ++ [c])) = p ++ [c]
 | [],c,_,hc,_ => by
   have e : valU ([] ++ [c]) = c.toNat := by simp only [List.nil_append,valU]; omega
   rw [e,zdm hc]
   simp
 | d :: p,c,hp,hc,h => by
   have h0 : 0 < c.toNat := by
       rcases h with h | h; · cases h
       · exact h
   have hv := val_pos p c h0 hc
   have ih := put_val p c (fun x hx => hp x (by simp [hx])) hc (.inr h0)
   have hd := hp d (by simp)
   have hd2 := d.toNat_lt
   have e : valU (d :: p ++ [c]) = d.toNat % 128 + 128 * valU (p ++ [c]) := rfl
   rw [e,putU_big (by omega),show (d.toNat % 128 + 128 * valU (p ++ [c])) / 128 = valU (p ++ [c]) by omega,ih,
     show (d.toNat % 128 + 128 * valU (p ++ [c])) % 128 + 128 = d.toNat by omega]
   simp
theorem put_shape (u : Nat) : ∃ p c,putU u = p ++ [c] ∧ (∀ d ∈ p,128 ≤ d.toNat) ∧ c.toNat < 128 ∧ (p = [] ∨ 0 < c.toNat) := by
 induction u using Nat.strongRecOn with
 | ind u ih =>
   by_cases h : u < 128
   · exact ⟨[],UInt8.ofNat u,by rw [zdm h]; rfl,by simp,by rw [UInt8.toNat_ofNat']; omega,.inl rfl⟩
   · obtain ⟨p,c,h1,h2,h3,h4⟩ := ih (u / 128) (by omega)
     refine ⟨UInt8.ofNat (u % 128 + 128) :: p,c,by rw [putU_big h,h1]; rfl,?_,h3,?_⟩
     · intro d hd
       rcases List.mem_cons.1 hd with rfl | hd
       · rw [UInt8.toNat_ofNat']; omega
       · exact h2 d hd
     · right
       rcases h4 with rfl | h4
       · have e := val_put (u / 128)
         rw [h1] at e
         simp only [List.nil_append,valU] at e
         omega
       · exact h4
theorem val_lt : ∀ (p : List UInt8) (c : UInt8),c.toNat < 128 → valU (p ++ [c]) < (c.toNat + 1) * 128 ^ p.length
 | [],c,h => by simp only [List.nil_append,valU,List.length_nil,Nat.pow_zero]; omega
 | d :: p,c,h => by
   have := val_lt p c h
   simp only [List.cons_append,valU,List.length_cons,Nat.pow_succ]
   rw [← Nat.mul_assoc]
   omega
theorem val_ge : ∀ (p : List UInt8) (c : UInt8),c.toNat < 128 → c.toNat * 128 ^ p.length ≤ valU (p ++ [c])
 | [],c,h => by simp only [List.nil_append,valU,List.length_nil,Nat.pow_zero]; omega
 | d :: p,c,h => by
   have := val_ge p c h
   simp only [List.cons_append,valU,List.length_cons,Nat.pow_succ]
   rw [← Nat.mul_assoc]
   omega
theorem canon (p : List UInt8) (c : UInt8) (hp : ∀ d ∈ p,128 ≤ d.toNat) (hc : c.toNat < 128) (h9 : p.length ≤ 9) :
   putU (valU (p ++ [c]) % 18446744073709551616) = p ++ [c] ↔ ¬ ((0 < p.length ∧ c.toNat = 0) ∨ (p.length = 9 ∧ 1 < c.toNat)) := by
 have hlt := val_lt p c hc
 have hge := val_ge p c hc
 have h7 : (128 : Nat) ^ p.length ≤ 128 ^ 9 := Nat.pow_le_pow_right (by decide) h9
 have h7' : (128 : Nat) ^ 9 = 9223372036854775808 := by simp
 constructor
 · intro h
   have hv := val_put (valU (p ++ [c]) % 18446744073709551616)
   rw [h] at hv
   rintro (⟨h1,h2⟩ | ⟨h1,h2⟩)
   · obtain ⟨q,d,e1,e2,e3,e4⟩ := put_shape (valU (p ++ [c]) % 18446744073709551616)
     rw [h] at e1
     have hq := List.append_inj' e1 rfl
     have hd : c = d := by simpa using hq.2
     rw [← hq.1,← hd] at e4
     rcases e4 with e4 | e4
     · rw [e4] at h1; simp at h1
     · omega
   · rw [h1,h7'] at hge
     omega
 · intro h
   have hsmall : valU (p ++ [c]) < 18446744073709551616 := by
     by_cases hl : p.length = 9
     · rw [hl,h7'] at hlt
       have : c.toNat ≤ 1 := by omega
       have : (c.toNat + 1) * 9223372036854775808 ≤ 2 * 9223372036854775808 := Nat.mul_le_mul_right _ (by omega)
       omega
     · have h8 : (128 : Nat) ^ p.length ≤ 128 ^ 8 := Nat.pow_le_pow_right (by decide) (by omega)
       have h8' : (128 : Nat) ^ 8 = 72057594037927936 := by simp
       have : (c.toNat + 1) * 128 ^ p.length ≤ 128 * 72057594037927936 := Nat.mul_le_mul (by omega) (by omega)
       omega
   rw [Nat.mod_eq_of_lt hsmall]
   refine put_val p c hp hc ?_
   rcases p with _ | ⟨d,p⟩
   · exact .inl rfl
   · right
     simp only [List.length_cons] at h
     omega
def getM : Nat → Nat → List UInt8 → Int × Nat × Int
 | i,_,[] => if i < 10 then (0,0,3) else (0,0,4)
 | i,u,c :: r =>
   if i = 10 then (0,0,4)
   else if 128 ≤ c.toNat then getM (i + 1) (u + c.toNat % 128 * 128 ^ i) r
   else if (0 < i ∧ c.toNat = 0) ∨ (i = 9 ∧ 1 < c.toNat) then (0,0,4)
   else (zg ((u + c.toNat * 128 ^ i : Nat) : Int),i + 1,0)
theorem andNot128 : ∀ x : Fin 256,(bits .andNot .u8 ((x.val : Nat) : Int) 128) = ((x.val % 128 : Nat) : Int) := by decide +kernel
theorem getF_M (bs : List UInt8) : ∀ (r i : Nat) (u : Nat),i + r = min bs.length 10 → u < 128 ^ i → getF bs r i u = getM i u (bs.drop i)
 | 0,i,u,h,hu => by
   by_cases hl : bs.length < 10
   · rw [List.drop_of_length_le (by omega)]
     simp only [getF,getM,hl,if_true,show i < 10 by omega]
   · have hi : i = 10 := by omega
     subst hi
     simp only [getF,hl,if_false]
     cases bs.drop 10 with
     | nil => simp [getM]
     | cons c q => simp [getM]
 | r + 1,i,u,h,hu => by
   have hil : i < bs.length := by omega
   have hi9 : i ≤ 9 := by omega
   rw [List.drop_eq_getElem_cons hil]
   have eg : bs.getD i 0 = bs[i] := by simp [hil]
   have hc := bs[i].toNat_lt
   have ea := andNot128 ⟨bs[i].toNat,by simpa using hc⟩
   simp only at ea
   have hP : (2 : Nat) ^ (7 * i) = 128 ^ i := by rw [Nat.pow_mul]
   have hle : (128 : Nat) ^ i ≤ 128 ^ 9 := Nat.pow_le_pow_right (by decide) hi9
   have h9' : (128 : Nat) ^ 9 = 9223372036854775808 := by simp
   have hm128 : bs[i].toNat % 128 < 128 := Nat.mod_lt _ (by decide)
   simp only [getF,getM,eg,ea,if_neg (show ¬ i = 10 by omega)]
   have hcast : ((bs[i].toNat % 128 : Nat) : Int) % 18446744073709551616 * 2 ^ (7 * i) % 18446744073709551616 = ((bs[i].toNat % 128 * 128 ^ i % 18446744073709551616 : Nat) : Int) := by
     have e0 : ((bs[i].toNat % 128 : Nat) : Int) % 18446744073709551616 = ((bs[i].toNat % 128 : Nat) : Int) := by omega
     have : (2 : Int) ^ (7 * i) = ((128 ^ i : Nat) : Int) := by rw [← hP]; simp
     rw [e0,this,← Int.natCast_mul]
     generalize bs[i].toNat % 128 * 128 ^ i = x
     omega
   rw [hcast]
   by_cases hin : i ≤ 8 ∨ bs[i].toNat % 128 ≤ 1
   · have hmod : bs[i].toNat % 128 * 128 ^ i < 18446744073709551616 := by
       rcases hin with hin | hin
       · have h8 : (128 : Nat) ^ i ≤ 128 ^ 8 := Nat.pow_le_pow_right (by decide) hin
         have h8' : (128 : Nat) ^ 8 = 72057594037927936 := by simp
         have : bs[i].toNat % 128 * 128 ^ i ≤ 127 * 72057594037927936 := Nat.mul_le_mul (by omega) (by omega)
         omega
       · have : bs[i].toNat % 128 * 128 ^ i ≤ 1 * 9223372036854775808 := Nat.mul_le_mul hin (by omega)
         omega
     rw [Nat.mod_eq_of_lt hmod]
     have eor : bits .or .u64 (u : Int) ((bs[i].toNat % 128 * 128 ^ i : Nat) : Int) = ((u + bs[i].toNat % 128 * 128 ^ i : Nat) : Int) := by
       rw [u64_or _ _ (by omega) (by omega) (by omega) (by omega),Int.toNat_natCast,Int.toNat_natCast]
       have := nat_join (7 * i) (bs[i].toNat % 128 * 128 ^ i) u (by rw [hP]; exact Nat.mul_mod_left _ _) (by rw [hP]; exact hu)
       rw [Nat.or_comm,this]
       omega
     rw [eor]
     by_cases hge : 128 ≤ bs[i].toNat
     · rw [if_pos hge,if_pos hge]
       refine getF_M bs r (i + 1) _ (by omega) ?_
       rw [Nat.pow_succ]
       have : bs[i].toNat % 128 * 128 ^ i ≤ 127 * 128 ^ i := Nat.mul_le_mul_right _ (by omega)
       omega
     · rw [if_neg hge,if_neg hge,Nat.mod_eq_of_lt (show bs[i].toNat < 128 by omega)]
   · have hi : i = 9 := by omega
     have hr : r = 0 := by omega
     have hll : ¬ bs.length < 10 := by omega
     subst hr
     by_cases hge : 128 ≤ bs[i].toNat
     · rw [if_pos hge,if_pos hge]
       simp only [getF,hll,if_false,hi]
       cases bs.drop (9 + 1) with
       | nil => simp [getM]
       | cons c q => simp [getM]
     · rw [if_neg hge,if_neg hge]
       have : (0 < i ∧ bs[i].toNat = 0) ∨ (i = 9 ∧ 1 < bs[i].toNat) := .inr ⟨hi,by omega⟩
       rw [if_pos this,if_pos this]
theorem getL_M (bs : List UInt8) : getL bs = getM 0 0 bs := by
 unfold getL
 have := getF_M bs (min bs.length 10) 0 0 (by omega) (by simp)
 simpa using this
theorem getM_end : ∀ (p : List UInt8) (i u : Nat) (c : UInt8) (q : List UInt8),(∀ d ∈ p,128 ≤ d.toNat) → c.toNat < 128 → i + p.length ≤ 9 →
   getM i u (p ++ c :: q) = if (0 < i + p.length ∧ c.toNat = 0) ∨ (i + p.length = 9 ∧ 1 < c.toNat) then (0,0,4) else (zg ((u + valU (p ++ [c]) * 128 ^ i : Nat) : Int),i + p.length + 1,0)
 | [],i,u,c,q,hp,hc,h => by
   have h' : ¬ i = 10 := by simp at h; omega
   have e : valU ([] ++ [c]) = c.toNat := by simp only [List.nil_append,valU]; omega
   simp only [List.nil_append,getM,if_neg h',if_neg (show ¬ 128 ≤ c.toNat by omega),List.length_nil,Nat.add_zero]
   rw [List.nil_append] at e
   rw [e]
 | d :: p,i,u,c,q,hp,hc,h => by
   have hd := hp d (by simp)
   simp only [List.length_cons] at h
   simp only [List.cons_append,getM,if_neg (show ¬ i = 10 by omega),if_pos hd]
   rw [getM_end p (i + 1) _ c q (fun x hx => hp x (by simp [hx])) hc (by omega)]
   have e : i + 1 + p.length = i + (d :: p).length := by simp; omega
   rw [e]
   have e2 : u + d.toNat % 128 * 128 ^ i + valU (p ++ [c]) * 128 ^ (i + 1) = u + valU (d :: (p ++ [c])) * 128 ^ i := by
     simp only [valU,Nat.pow_succ,Nat.add_mul]
     rw [Nat.mul_comm (128 ^ i) 128,← Nat.mul_assoc,Nat.mul_comm (valU (p ++ [c])) 128]
     omega
   rw [e2]
theorem getL_put (u : Nat) (hu : u < 18446744073709551616) (q : List UInt8) : getL (putU u ++ q) = (zg (u : Int),(putU u).length,0) := by
 obtain ⟨p,c,e1,e2,e3,e4⟩ := put_shape u
 have hl := zbq u hu
 have hv := val_put u
 have hs := e1
 rw [e1] at hl hv ⊢
 simp only [List.length_append,List.length_cons,List.length_nil] at hl
 rw [getL_M,List.append_assoc,List.singleton_append,getM_end p 0 0 c q e2 e3 (by omega)]
 have hc := (canon p c e2 e3 (by omega)).1 (by rw [hv,Nat.mod_eq_of_lt hu]; exact hs)
 simp only [Nat.zero_add] at hc ⊢
 rw [if_neg hc,hv]
 simp
theorem zg_zz (n : Int) : zg (zz n) = n := by
 unfold zg zz
 repeat' split
 all_goals omega
end Go.Proofs.Ytnmomgcanfpigaa
namespace Go.Proofs.Ytnmomgcanfpigaa
open Ax
section
set_option maxRecDepth 100000
theorem numL_length (bs : List UInt8) (e : Int) : (numL bs e).length ≤ bs.length := by
 unfold numL; split <;> simp
end
end Go.Proofs.Ytnmomgcanfpigaa
namespace Go.Proofs.Ytnmomgcanfpigaa
open Ax
theorem slot_fzL (id : Nat) (bs : List UInt8) : ∀ (sl : List AV) (i : Nat),slot (fzL id bs sl) i = (slot sl i).fz id bs
 | [],i => rfl
 | x :: sl,0 => rfl
 | x :: sl,i + 1 => slot_fzL id bs sl i
def rA (d t : Int) : Prop := d < 0 ∨ 31 < d ∨ t < 0 ∨ 1099511627776 < t
def rB (key val : List UInt8) : Prop := 64 < key.length ∨ 512 < val.length
def rC (k : Bool) (key : List UInt8) (dd : Bool) (val : List UInt8) : Prop := (k = false ∧ (key ≠ [] ∨ dd = true)) ∨ (dd = true ∧ val ≠ [])
instance (d t : Int) : Decidable (rA d t) := by unfold rA; infer_instance
instance (key val : List UInt8) : Decidable (rB key val) := by unfold rB; infer_instance
instance (k : Bool) (key : List UInt8) (dd : Bool) (val : List UInt8) : Decidable (rC k key dd val) := by unfold rC; infer_instance
def rchk (d t : Int) (k : Bool) (key : List UInt8) (dd : Bool) (val : List UInt8) : Int := if rA d t then 11 else if rB key val then 5 else if rC k key dd val then 4 else 0
section
set_option maxRecDepth 100000
set_option maxHeartbeats 1000000 in
set_option maxHeartbeats 1000000 in
def flagI (k dd : Bool) : Int := (if k then 1 else 0) + (if dd then 2 else 0)
def recL (d t : Int) (k : Bool) (key : List UInt8) (dd : Bool) (val : List UInt8) : List UInt8 :=
 UInt8.ofNat (flagI k dd).toNat :: (putU (zz d).toNat ++ (putU (zz t).toNat ++ ((if k then zfd key else []) ++ (if dd then [] else zfd val))))
def recB (d t : Int) (k : Bool) (key : List UInt8) (dd : Bool) (val : List UInt8) : List UInt8 := if rchk d t k key dd val = 0 then recL d t k key dd val else []
theorem textL_length (s : List UInt8) (h : s.length ≤ 1000000) : (zfd s).length ≤ s.length + 10 := by
 unfold zfd
 have := zbq (2 * s.length) (by omega)
 rw [List.length_append]; omega
set_option maxHeartbeats 1000000 in
end
end Go.Proofs.Ytnmomgcanfpigaa
namespace Go.Proofs.Ytnmomgcanfpigaa
open Ax
section
set_option maxRecDepth 100000
def lightS : zal
 | [.agg [.w (.int .i64 d),.w (.int .i64 t),.w (.bool k),.str key,.w (.bool dd),.str val]],[] => ⟨True,.w (.bool (decide (key.length ≤ 200 ∧ val.length ≤ 700))),[]⟩
 | _,_ => zbg
theorem light_sound : zbb Try.prog 8 lightS := by
 refine zaq (S := noS) (T := ty) zbf ty_ok zbs Try.func8 (c := Try.f8.body.getD .skip) (by kernel_rfl) (by kernel_rfl) (fun xs pins hp _ => ?_)
 unfold lightS at hp ⊢
 split at hp
 · rename_i d t k key dd val _
   refine ⟨by simp,?_⟩
   unfold Try.f8
   by_cases h1 : key.length ≤ 200
   · have d1 : decide ((key.length : Int) ≤ 200) = true := decide_eq_true (by omega)
     by_cases h2 : val.length ≤ 700
     · have d2 : decide ((val.length : Int) ≤ 700) = true := decide_eq_true (by omega)
       have d3 : decide (key.length ≤ 200 ∧ val.length ≤ 700) = true := decide_eq_true ⟨h1,h2⟩
       simp only [go_sem,coe,zaa,Nat.reduceAdd,Nat.reduceSub,Nat.reduceMul,Int.reduceToNat,reduceCtorEq,↓reduceIte,Int.reducePow,Nat.reducePow,Int.reduceMod,Nat.reduceLeDiff,Int.reduceLE,Int.reduceNe,Int.reduceEq,Nat.reduceEqDiff,Nat.reduceLT,Nat.reduceBEq,ty,noS,d1,d2,d3]
     · have d2 : decide ((val.length : Int) ≤ 700) = false := decide_eq_false (by omega)
       have d3 : decide (key.length ≤ 200 ∧ val.length ≤ 700) = false := decide_eq_false (fun h => h2 h.2)
       simp only [go_sem,coe,zaa,Nat.reduceAdd,Nat.reduceSub,Nat.reduceMul,Int.reduceToNat,reduceCtorEq,↓reduceIte,Int.reducePow,Nat.reducePow,Int.reduceMod,Nat.reduceLeDiff,Int.reduceLE,Int.reduceNe,Int.reduceEq,Nat.reduceEqDiff,Nat.reduceLT,Nat.reduceBEq,ty,noS,d1,d2,d3]
   · have d1 : decide ((key.length : Int) ≤ 200) = false := decide_eq_false (by omega)
     have d3 : decide (key.length ≤ 200 ∧ val.length ≤ 700) = false := decide_eq_false (fun h => h1 h.1)
     simp only [go_sem,coe,zaa,Nat.reduceAdd,Nat.reduceSub,Nat.reduceMul,Int.reduceToNat,reduceCtorEq,↓reduceIte,Int.reducePow,Nat.reducePow,Int.reduceMod,Nat.reduceLeDiff,Int.reduceLE,Int.reduceNe,Int.reduceEq,Nat.reduceEqDiff,Nat.reduceLT,Nat.reduceBEq,ty,noS,d1,d3]
 · exact hp.elim
end
end Go.Proofs.Ytnmomgcanfpigaa
namespace Go.Proofs.Ytnmomgcanfpigaa
open Ax
theorem tkL_length (n : Int) (bs : List UInt8) : (tkL n bs).length ≤ bs.length := by unfold tkL; split <;> simp
theorem rtL_length (m : Int) (bs : List UInt8) (e : Int) : (rtL m bs e).length ≤ bs.length := by
 unfold rtL
 have h1 := numL_length bs e
 split
 · have := tkL_length (numN bs e) (numL bs e); omega
 · exact h1
theorem unf1 (bs : List UInt8) (h : bs.length ≤ 1) : unfL (zdr bs) 0 < 256 := by
 have hl : zdr bs = bs := by unfold zdr; rw [show bs.length - 8 = 0 by omega,List.drop_zero]
 rw [hl]
 match bs,h with
 | [],_ => simp [unfL]
 | [c],_ =>
   have := c.toNat_lt
   simp only [unfL,List.foldl_cons,List.foldl_nil]
   omega
theorem rfix1 (bs : List UInt8) (e : Int) : 0 ≤ rfixN 1 bs e ∧ rfixN 1 bs e < 256 := by
 unfold rfixN
 split
 · have h : (tkB (clampI 1) bs).length ≤ 1 := by
     have : clampI 1 = 1 := by decide
     rw [this]; unfold tkB; split
     · simp
     · simp; omega
   have := unf1 _ h
   omega
 · omega
section
set_option maxRecDepth 100000
set_option maxHeartbeats 2000000 in
end
end Go.Proofs.Ytnmomgcanfpigaa
namespace Go.Proofs.Ytnmomgcanfpigaa
open Ax
theorem w1 : rchk 1 5 true [107] false [118] = 0 := by decide
theorem w2 : rchk 1 5 true [107] true [] = 0 := by decide
theorem w3 : recB 1 5 true [107] false [118] = [1,2,10,2,107,2,118] := by
 simp [recB,w1,recL,flagI,zfd,putU,zz]
section
set_option maxRecDepth 100000
set_option maxHeartbeats 1000000 in
end
end Go.Proofs.Ytnmomgcanfpigaa
namespace Go.Proofs.Ytnmomgcanfpigaa
namespace Ax
theorem zen {xs : List AV} (j : Nat) (hj : j < xs.length) {id : Nat} (h : id ∈ xs[j].ids) : id ∈ idsL xs := by
 induction xs generalizing j with
 | nil => simp at hj
 | cons x r ih =>
   simp only [idsL,List.mem_append]
   cases j with
   | zero => exact .inl h
   | succ j => exact .inr (ih j (by simpa using hj) h)
def Loc.only (loc : Loc) (F : List Nat) : Loc :=
 { m := fun id => if id ∈ F then loc.m id else .free,bad := fun b => loc.bad b ∨ ∃ id,id ∉ F ∧ loc.m id = .here b }
theorem only_m {loc : Loc} {F : List Nat} {id : Nat} (h : id ∈ F) : (loc.only F).m id = loc.m id := by simp [Loc.only,h]
theorem only_n {loc : Loc} {F : List Nat} {id : Nat} (h : id ∉ F) : (loc.only F).m id = .free := by simp [Loc.only,h]
theorem only_mut {loc : Loc} {F : List Nat} {b : Nat} : Mut (loc.only F) b ↔ Mut loc b := by
 constructor
 · rintro ((h | ⟨id,_,h⟩) | ⟨id,h⟩)
   · exact .inl h
   · exact .inr ⟨id,h⟩
   · by_cases hF : id ∈ F
     · rw [only_m hF] at h; exact .inr ⟨id,h⟩
     · rw [only_n hF] at h; cases h
 · rintro (h | ⟨id,h⟩)
   · exact .inl (.inl h)
   · by_cases hF : id ∈ F
     · exact .inr ⟨id,by rw [only_m hF]; exact h⟩
     · exact .inl (.inr ⟨id,hF,h⟩)
theorem R.agree {w : World} {loc loc' : Loc} (hM : ∀ b,b < w.heap.size → Mut loc' b → Mut loc b) {x : AV} {v : Value} (h : R w loc x v) (hq : ∀ id ∈ x.ids,loc.m id ≠ .free → loc'.m id = loc.m id) : R w loc' x v := by
 induction h with
 | w v h => exact .w v h
 | str bs => exact .str bs
 | agg xs cs hl hx _ ih => exact .agg xs cs hl hx fun j h1 h2 => ih j h1 h2 fun id hid => hq id (by simp only [AV.ids]; exact zen j h1 hid)
 | tup xs cs hl _ ih => exact .tup xs cs hl fun j h1 h2 => ih j h1 h2 fun id hid => hq id (by simp only [AV.ids]; exact zen j h1 hid)
 | sb bs full a cap hd hc => exact .sb bs full a cap hd (hc.move hM)
 | si ns full a cap hd hc => exact .si ns full a cap hd (hc.move hM)
 | sg s xs full a cap cs hd hs hc hl hx h1 ih => exact .sg s xs full a cap cs hd hs (hc.move hM) hl hx fun j h2 h3 => (h1 j h2 h3).move hM (hx j h2).2
 | cp ls a cs hc hn hl hx h1 ih => exact .cp ls a cs (hc.move hM) hn hl hx fun j h2 h3 => (h1 j h2 h3).move hM (hx j h2).2
 | ms id s off len v h =>
   have hf : loc.m id ≠ .free := by intro e; simp [Owns,e] at h
   have e := hq id (by simp [AV.ids]) hf
   refine .ms id s off len v ?_
   unfold Owns at h ⊢
   rw [e]; exact h
 | rf id s i f v h =>
   have hf : loc.m id ≠ .free := by intro e; simp [Points,e] at h
   have e := hq id (by simp [AV.ids]) hf
   refine .rf id s i f v ?_
   unfold Points at h ⊢
   rw [e]; exact h
 | fn f caps cs hl _ ih => exact .fn f caps cs hl fun j h1 h2 => ih j h1 h2 fun id hid => hq id (by simp only [AV.ids]; exact zen j h1 hid)
 | junk v => exact .junk v
theorem R.only {w : World} {loc : Loc} {F : List Nat} {x : AV} {v : Value} (h : R w loc x v) (hq : ∀ id ∈ x.ids,id ∈ F) : R w (loc.only F) x v :=
 h.agree (fun b _ hb => only_mut.1 hb) fun id hid _ => only_m (hq id hid)
theorem BlkR.only {w : World} {loc : Loc} {F : List Nat} {id : Nat} {blk : Blk} (h : BlkR w loc id blk) (hF : id ∈ F) (hq : ∀ k ∈ idsL blk.flat,k ∈ F) : BlkR w (loc.only F) id blk := by
 unfold BlkR at h ⊢
 rw [only_m hF]
 split
 · trivial
 · rename_i e; rw [e] at h; exact h
 · rename_i e; rw [e] at h; exact h
 · rename_i b e
   rw [e] at h
   obtain ⟨hok,hl⟩ := h
   rcases zbd blk with ⟨x,hx,rfl⟩ | hodd
   · exact ⟨hok,.mkO (Thing.move (fun b _ hb => only_mut.1 hb) (hl.is hx)) hx⟩
   obtain ⟨cur,el,fz,h1,h2,h3,h4,h5⟩ := hl.lies hodd
   exact ⟨hok,.mkC ⟨cur,el,fz,h1,h2,h3,h4,fun j hj hj' => ⟨(h5 j hj hj').1,(h5 j hj hj').2.only fun k hk => hq k (zen j hj hk)⟩⟩ hodd⟩
def Loc.back (loc loc' : Loc) (F : List Nat) (nm : Nat) : Loc :=
 { m := fun id => if id ∈ F ∨ (nm ≤ id ∧ id < nm + 8) then loc'.m id else loc.m id,bad := loc.bad }
section
variable {w0 : World} {E : Nat → Prop} {w : World} {loc : Loc} {F : List Nat} {nm : Nat}
def InF (loc : Loc) (F : List Nat) (b : Nat) : Prop := ∃ id,id ∈ F ∧ loc.m id = .here b
theorem Env.only (he : Env w0 E w loc) : Env w (InF loc F) w (loc.only F) := by
 refine ⟨rfl,rfl,rfl,Nat.le_refl _,fun _ _ _ => rfl,?_,?_,?_⟩
 · intro i j b hi hj
   by_cases h1 : i ∈ F
   · by_cases h2 : j ∈ F
     · rw [only_m h1] at hi; rw [only_m h2] at hj
       exact he.inj i j b hi hj
     · rw [only_n h2] at hj; cases hj
   · rw [only_n h1] at hi; cases hi
 · intro i b hi
   by_cases h1 : i ∈ F
   · rw [only_m h1] at hi
     exact ⟨(he.lies i b hi).1,.inr ⟨i,h1,hi⟩⟩
   · rw [only_n h1] at hi; cases hi
 · rintro b (hb | ⟨id,hF,hb⟩)
   · obtain ⟨h1,h2⟩ := he.bad b hb
     refine ⟨Nat.lt_of_lt_of_le h1 he.size,?_⟩
     rintro ⟨id,_,hid⟩
     rcases (he.lies id b hid).2 with h3 | h3
     · omega
     · exact h2 h3
   · refine ⟨(he.lies id b hb).1,?_⟩
     rintro ⟨k,hk,hkb⟩
     exact hF (he.inj k id b hkb hb ▸ hk)
theorem Post.frame (he : Env w0 E w loc) (hfree : ∀ id,nm ≤ id → id < nm + 8 → loc.m id = .free) {wr : Bool} {x : AV} {H : Heap} {v : Value} {w' : World} {loc' : Loc}
   (hH : ∀ id b,look H id = some b → id ∈ F ∨ (nm ≤ id ∧ id < nm + 8)) (hp : Post w (InF loc F) w (loc.only F) wr nm x H v w' loc') :
   Post w0 E w loc wr nm x H v w' (loc.back loc' F nm) ∧ ∃ C : Nat → Prop,Ext C w loc w' (loc.back loc' F nm) ∧ (wr = false → ∀ id,¬ C id) ∧ ∀ id,C id → id ∈ F := by
 have hin : ∀ id,(id ∈ F ∨ (nm ≤ id ∧ id < nm + 8)) → (loc.back loc' F nm).m id = loc'.m id := fun id h => by simp [Loc.back,h]
 have hout : ∀ id,¬ (id ∈ F ∨ (nm ≤ id ∧ id < nm + 8)) → (loc.back loc' F nm).m id = loc.m id := fun id h => by simp only [Loc.back]; rw [if_neg h]
 have hnew : ∀ id,loc'.m id ≠ .free → id ∈ F ∨ (nm ≤ id ∧ id < nm + 8) := by
   intro id h
   by_cases hF : id ∈ F
   · exact .inl hF
   · exact .inr (hp.fresh id (only_n hF) h)
 have hseen : ∀ b,loc.bad b → ¬ InF loc F b := by
   rintro b hb ⟨id,_,hid⟩
   obtain ⟨h1,h2⟩ := he.bad b hb
   rcases (he.lies id b hid).2 with h3 | h3
   · omega
   · exact h2 h3
 have hmut : ∀ b,Mut (loc.back loc' F nm) b → Mut loc' b := by
   rintro b (hb | ⟨id,hid⟩)
   · refine .inl ?_
     rw [hp.bad]; exact .inl hb
   · by_cases h : id ∈ F ∨ (nm ≤ id ∧ id < nm + 8)
     · rw [hin id h] at hid; exact .inr ⟨id,hid⟩
     · rw [hout id h] at hid
       exact .inl (by rw [hp.bad]; exact .inr ⟨id,fun hF => h (.inl hF),hid⟩)
 have hr : ∀ {y : AV} {u : Value},R w' loc' y u → R w' (loc.back loc' F nm) y u := fun h => h.agree (fun b _ => hmut b) fun id _ hf => hin id (hnew id hf)
 have henv : Env w0 E w' (loc.back loc' F nm) := by
   refine ⟨hp.env.os.trans he.os,hp.env.tape.trans he.tape,hp.env.output.trans he.output,Nat.le_trans he.size hp.env.size,?_,?_,?_,?_⟩
   · intro b hb hE
     rw [hp.env.same b (Nat.lt_of_lt_of_le hb he.size) ?_]
     · exact he.same b hb hE
     · rintro ⟨id,_,hid⟩
       rcases (he.lies id b hid).2 with h3 | h3
       · omega
       · exact hE h3
   · have hcross : ∀ i j b,(i ∈ F ∨ (nm ≤ i ∧ i < nm + 8)) → ¬ (j ∈ F ∨ (nm ≤ j ∧ j < nm + 8)) → loc'.m i = .here b → loc.m j = .here b → False := by
       intro i j b _ hj h1 h2
       have hbad : loc'.bad b := by rw [hp.bad]; exact .inr ⟨j,fun hF => hj (.inl hF),h2⟩
       obtain ⟨h3,h4⟩ := hp.env.bad b hbad
       rcases (hp.env.lies i b h1).2 with h5 | h5
       · omega
       · exact h4 h5
     intro i j b hi hj
     by_cases h1 : i ∈ F ∨ (nm ≤ i ∧ i < nm + 8)
     · rw [hin i h1] at hi
       by_cases h2 : j ∈ F ∨ (nm ≤ j ∧ j < nm + 8)
       · rw [hin j h2] at hj
         exact hp.env.inj i j b hi hj
       · rw [hout j h2] at hj
         exact (hcross i j b h1 h2 hi hj).elim
     · rw [hout i h1] at hi
       by_cases h2 : j ∈ F ∨ (nm ≤ j ∧ j < nm + 8)
       · rw [hin j h2] at hj
         exact (hcross j i b h2 h1 hj hi).elim
       · rw [hout j h2] at hj
         exact he.inj i j b hi hj
   · intro i b hi
     by_cases h1 : i ∈ F ∨ (nm ≤ i ∧ i < nm + 8)
     · rw [hin i h1] at hi
       obtain ⟨h2,h3⟩ := hp.env.lies i b hi
       refine ⟨h2,?_⟩
       rcases h3 with h3 | ⟨k,_,hk⟩
       · exact .inl (Nat.le_trans he.size h3)
       · exact (he.lies k b hk).2
     · rw [hout i h1] at hi
       obtain ⟨h2,h3⟩ := he.lies i b hi
       exact ⟨Nat.lt_of_lt_of_le h2 hp.env.size,h3⟩
   · intro b hb; exact he.bad b hb
 have hext : ∃ C : Nat → Prop,Ext C w loc w' (loc.back loc' F nm) ∧ (wr = false → ∀ id,¬ C id) ∧ ∀ id,C id → id ∈ F := by
   obtain ⟨C,hE,hC⟩ := hp.ext
   have hnr : ∀ id,loc.m id ≠ .free → id ∉ F → ¬ (id ∈ F ∨ (nm ≤ id ∧ id < nm + 8)) := by
     rintro id h1 h2 (h3 | h3)
     · exact h2 h3
     · exact h1 (hfree id h3.1 h3.2)
   have hhid : ∀ id b,loc.m id = .here b → id ∉ F → w'.heap[b]? = w.heap[b]? := by
     intro id b h1 h2
     refine hp.env.same b (he.lies id b h1).1 ?_
     rintro ⟨k,hk,hkb⟩
     exact h2 (he.inj k id b hkb h1 ▸ hk)
   refine ⟨fun id => C id ∧ id ∈ F,⟨hE.size,?_,?_,?_,?_,?_⟩,fun h id hc => hC h id hc.1,fun id hc => hc.2⟩
   · intro id hf hc
     by_cases hF : id ∈ F
     · rw [hin id (.inl hF)]
       have := hE.keep id (by rw [only_m hF]; exact hf) (fun h => hc ⟨h,hF⟩)
       rw [this,only_m hF]
     · exact hout id (hnr id hf hF)
   · rintro id hf ⟨hc,hF⟩
     rw [hin id (.inl hF)]
     have := hE.gone id (by rw [only_m hF]; exact hf) hc
     rw [only_m hF] at this
     exact this
   · intro b hb hm
     obtain ⟨h1,h2⟩ := hE.imm b hb (fun h => hm (only_mut.1 h))
     exact ⟨h1,fun h => h2 (hmut b h)⟩
   · intro id b hb hc
     by_cases hF : id ∈ F
     · exact hE.own id b (by rw [only_m hF]; exact hb) (fun h => hc ⟨h,hF⟩)
     · exact hhid id b hb hF
   · intro b cur e fz hh
     exact hE.shape b cur e fz hh
 refine ⟨⟨hr hp.r,?_,henv,?_,?_,rfl⟩,hext⟩
 · intro id blk hl
   have h0 := hH id blk hl
   have h1 := hp.h id blk hl
   unfold BlkR at h1 ⊢
   rw [hin id h0]
   split
   · trivial
   · rename_i e; rw [e] at h1; exact h1
   · rename_i e; rw [e] at h1; exact h1
   · rename_i b e
     rw [e] at h1
     obtain ⟨hok,hl1⟩ := h1
     rcases zbd blk with ⟨x,hx,rfl⟩ | hodd
     · exact ⟨hok,.mkO (Thing.move (fun b _ hb => hmut b hb) (hl1.is hx)) hx⟩
     obtain ⟨cur,el,fz,a1,a2,a3,a4,a5⟩ := hl1.lies hodd
     exact ⟨hok,.mkC ⟨cur,el,fz,a1,a2,a3,a4,fun j hj hj' => ⟨(a5 j hj hj').1,hr (a5 j hj hj').2⟩⟩ hodd⟩
 · obtain ⟨C,h1,h2,_⟩ := hext
   exact ⟨C,h1,h2⟩
 · intro id hf hn
   by_cases h : id ∈ F ∨ (nm ≤ id ∧ id < nm + 8)
   · rcases h with h | h
     · rw [hin id (.inl h)] at hn
       exact hp.fresh id (by rw [only_m h]; exact hf) hn
     · exact h
   · rw [hout id h] at hn; exact (hn hf).elim
end
end Ax
end Go.Proofs.Ytnmomgcanfpigaa
