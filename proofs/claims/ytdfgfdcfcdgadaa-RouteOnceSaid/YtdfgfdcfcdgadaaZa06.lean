/- What the proofs of this seat stand on; it asks nothing. -/
import Derived.Test.YtdfgfdcfcdgadaaZa05
set_option linter.unusedSimpArgs false
set_option linter.unusedVariables false
namespace Go.Proofs.Ytdfgfdcfcdgadaa
namespace Ax
open Go.RowKit
theorem ymp {n : Int} (h : (Lit.int .i64 n).wf = true) : -9223372036854775808 ≤ n ∧ n ≤ 9223372036854775807 := by
 simp only [Lit.wf,Bool.and_eq_true,decide_eq_true_eq] at h
 have h1 : IntKind.min .i64 = -9223372036854775808 := by decide
 have h2 : IntKind.max .i64 = 9223372036854775807 := by decide
 rw [h1,h2] at h; exact h
theorem ynz {n : Int} (h : (Lit.int .u8 n).wf = true) : 0 ≤ n ∧ n < 256 := by
 simp only [Lit.wf,Bool.and_eq_true,decide_eq_true_eq] at h
 have h1 : IntKind.min .u8 = 0 := by decide
 have h2 : IntKind.max .u8 = 255 := by decide
 rw [h1,h2] at h; omega
def yml (k : IntKind) (w : World) (a : Option Addr) (len cap : Nat) (zs : List Int) : Prop :=
 (a = none ∧ len = 0 ∧ cap = 0 ∧ zs = []) ∨
 ∃ x,a = some x ∧ len ≤ cap ∧ cap ≤ maxLen ∧ zs.length = cap ∧ (∀ i,i < zs.length → w.cell? (x.add i) = some (.int k (zs.getD i 0))) ∧ ∀ n ∈ zs,(Lit.int k n).wf = true
theorem zyz (b : Nat) : ¬ Mut loc0 b := by
 rintro (h | ⟨k,h⟩)
 ·exact h
 ·simp [loc0,zbf] at h
theorem zvo {k : IntKind} {w : World} {x : Addr} {zs : List Int} (hz : ∀ i,i < zs.length → w.cell? (x.add i) = some (.int k (zs.getD i 0))) (cs : List Value) (hn : cs.length ≤ zs.length)
  (hc : ∀ (j : Nat) (h : j < cs.length),cs[j] = .int k (zs.getD j 0)) : Cells w loc0 (some x) cs := by
 by_cases h0 : cs = []
 ·exact ⟨.inl h0⟩
 ·have hl : 0 < cs.length := by
   cases cs with
   | nil => exact (h0 rfl).elim
   | cons => simp
  have h1 := hz 0 (by omega)
  rw [show x.add 0 = x from rfl] at h1
  have hx : x.spot = none ∧ x.block < w.heap.size := by
   unfold World.cell? at h1
   split at h1
   ·rename_i c e fz hh
    split at h1
    ·cases h1
    ·rename_i hs
     refine ⟨by simpa using hs,?_⟩
     rcases Nat.lt_or_ge x.block w.heap.size with h' | h'
     ·exact h'
     ·rw [Array.getElem?_eq_none h'] at hh; cases hh
   ·cases h1
  obtain ⟨b,o,sp⟩ := x
  obtain ⟨rfl,hb⟩ := hx
  refine ⟨.inr ⟨b,o,rfl,zyz b,hb,fun j hj => ?_⟩⟩
  have h2 := hz j (by omega)
  rw [hc j hj,← h2]
  cases j with
  | zero => rfl
  | succ j => rfl
theorem ymu {w : World} {a : Option Addr} {len cap : Nat} {zs : List Int} (h : yml .u8 w a len cap zs) : ∃ bs : List UInt8,bs.length = len ∧ len ≤ maxLen ∧ R w loc0 (.sb bs false) (.slice a len cap) := by
 rcases h with ⟨rfl,rfl,rfl,rfl⟩ | ⟨x,rfl,hl,hm,hz,hcell,hwf⟩
 ·exact ⟨[],rfl,Nat.zero_le _,.sb [] false none 0 ⟨Nat.le_refl _,Nat.zero_le _,fun h => by cases h⟩ ⟨.inl rfl⟩⟩
 ·have hlen : ((zs.take len).map fun n => UInt8.ofNat n.toNat).length = len := by simp; omega
  refine ⟨(zs.take len).map fun n => UInt8.ofNat n.toNat,hlen,by omega,?_⟩
  have := R.sb (w := w) (loc := loc0) ((zs.take len).map fun n => UInt8.ofNat n.toNat) false (some x) cap ⟨by omega,hm,fun h => by cases h⟩
   (zvo hcell _ (by simp; omega) (fun j hj => by
    have hj' : j < zs.length := by simp at hj; omega
    have hw := ynz (hwf zs[j] (List.getElem_mem _))
    simp only [List.getElem_map,List.getElem_take,byte]
    have e : zs.getD j 0 = zs[j] := by simp [hj']
    rw [e]
    congr 1
    rw [UInt8.toNat_ofNat']
    omega))
  rw [hlen] at this
  exact this
theorem ymt {w : World} {a : Option Addr} {len cap : Nat} {zs : List Int} (h : yml .i64 w a len cap zs) : ∃ ns : List Int,ns.length = len ∧ len ≤ maxLen ∧ (∀ n ∈ ns,-9223372036854775808 ≤ n ∧ n ≤ 9223372036854775807) ∧ R w loc0 (.si ns false) (.slice a len cap) := by
 rcases h with ⟨rfl,rfl,rfl,rfl⟩ | ⟨x,rfl,hl,hm,hz,hcell,hwf⟩
 ·exact ⟨[],rfl,Nat.zero_le _,by simp,.si [] false none 0 ⟨Nat.le_refl _,Nat.zero_le _,fun h => by cases h⟩ ⟨.inl rfl⟩⟩
 ·have hlen : (zs.take len).length = len := by simp; omega
  refine ⟨zs.take len,hlen,by omega,fun n hn => ymp (hwf n (List.mem_of_mem_take hn)),?_⟩
  have := R.si (w := w) (loc := loc0) (zs.take len) false (some x) cap ⟨by omega,hm,fun h => by cases h⟩
   (zvo hcell _ (by simp; omega) (fun j hj => by
    have hj' : j < zs.length := by simp at hj; omega
    simp only [List.getElem_map,List.getElem_take,word]
    have e : zs.getD j 0 = zs[j] := by simp [hj']
    rw [e]))
  rw [hlen] at this
  exact this
theorem yob (w : World) (s : ByteArray) : R w loc0 (.str s.data.toList) (.string s) := by
 have := R.str (w := w) (loc := loc0) s.data.toList
 simpa using this
def RL (w : World) : List AV → List Value → Prop
 | [],[] => True
 | x :: xs,v :: vs => R w loc0 x v ∧ RL w xs vs
 | _,_ => False
theorem yhw {w : World} : ∀ {xs : List AV} {vs : List Value},RL w xs vs → xs.length = vs.length ∧ ∀ (j : Nat) (h : j < xs.length) (h' : j < vs.length),R w loc0 xs[j] vs[j]
 | [],[],_ => ⟨rfl,fun j h => by simp at h⟩
 | x :: xs,v :: vs,h => by
  obtain ⟨h1,h2⟩ := yhw h.2
  refine ⟨by simp [h1],fun j a b => ?_⟩
  cases j with
  | zero => exact h.1
  | succ j => exact h2 j (by simpa using a) (by simpa using b)
 | [],_ :: _,h => h.elim
 | _ :: _,[],h => h.elim
theorem law_runL {P : Program} {f : FuncId} {spec : zcc} (h : zen P f spec) {xs : List AV} {vs : List Value} {w : World} (hp : (spec xs []).p) (hx : (spec xs []).x = .w (.bool true)) (hR : RL w xs vs) :
  Calls P f vs.toArray w fun e w' => e = .returned (.bool true) ∧ Below w.heap.size w w' :=
 yli h hp hx (yhw hR).1 (yhw hR).2
end Ax
end Go.Proofs.Ytdfgfdcfcdgadaa
namespace Go.Proofs.Ytdfgfdcfcdgadaa
open Ax
theorem evT : (type_of% @yar) ∧
  (type_of% @zvw) ∧
  (type_of% @yhp) ∧
  (type_of% @yas) ∧
  (type_of% @zrc) ∧
  (type_of% @yho) ∧
  (type_of% @zvx) ∧
  (type_of% @yat) ∧
  (type_of% @yay) ∧
  (type_of% @zrj) ∧
  (type_of% @zrk) ∧
  (type_of% @zqk) ∧
  (type_of% @zuf) ∧
  (type_of% @zlg) ∧
  (type_of% @zox) ∧
  (type_of% @zra) ∧
  (type_of% @zqc) ∧
  (type_of% @true_and) ∧
  (type_of% @and_true) ∧
  (type_of% @Nat.le_refl) ∧
  (type_of% @false_implies) ∧
  (type_of% @List.nil_append.{0}) ∧
  (type_of% @List.append_nil.{0}) ∧
  (type_of% @List.cons_append.{0}) ∧
  (type_of% @Nat.zero_le) ∧
  (type_of% @Bool.false_eq_true) ∧
  (type_of% @cond_false.{1}) ∧
  (type_of% @cond_true.{1}) ∧
  (type_of% @List.getElem?_cons_succ.{0}) ∧
  (type_of% @List.getElem?_cons_zero.{0}) ∧
  (type_of% @ne_eq.{1}) ∧
  (type_of% @not_false_eq_true) ∧
  (type_of% @and_self) ∧
  (type_of% @true_implies) ∧
  (type_of% @AV.w.injEq) ∧
  (type_of% @Nat.min_def) ∧
  (type_of% @List.set_cons_zero.{0}) ∧
  (type_of% @List.set_cons_succ.{0}) ∧
  (type_of% @List.replicate_succ.{0}) ∧
  (type_of% @List.replicate_zero.{0}) ∧
  (type_of% @List.length_append.{0}) ∧
  (type_of% @List.length_cons.{0}) ∧
  (type_of% @List.length_nil.{0}) ∧
  (type_of% @Nat.zero_add) ∧
  (type_of% @Nat.add_zero) ∧
  (type_of% @Bool.not_true) ∧
  (type_of% @Bool.not_false) ∧
  (type_of% @Bool.true_and) ∧
  (type_of% @Bool.and_true) ∧
  (type_of% @Bool.and_false) ∧
  (type_of% @Bool.false_and) ∧
  (type_of% @not_true_eq_false) ∧
  (type_of% @not_false_iff) ∧
  (type_of% @or_false) ∧
  (type_of% @or_true) ∧
  (type_of% @false_or) ∧
  (type_of% @true_or) ∧
  (type_of% @Int.toNat_natCast) ∧
  (type_of% @List.length_replicate.{0}) ∧
  (type_of% @zup) ∧
  (type_of% @zuq) ∧
  (type_of% @zzv) ∧
  (type_of% @beq_self_eq_true.{0}) ∧
  (type_of% @BEq.rfl.{0}) ∧
  (type_of% @List.mem_cons.{0}) ∧
  (type_of% @List.not_mem_nil.{0}) ∧
  (type_of% @List.all_cons.{0}) ∧
  (type_of% @List.all_nil.{0}) ∧
  (type_of% @Bool.or_false) ∧
  (type_of% @Bool.or_true) ∧
  (type_of% @Bool.true_or) ∧
  (type_of% @Bool.false_or) ∧
  (type_of% @decide_true) ∧
  (type_of% @decide_false) ∧
  (type_of% @Value.int.injEq) ∧
  (type_of% @Value.bool.injEq) ∧
  (type_of% @IntKind.wrap_u8) ∧
  (type_of% @IntKind.wrap_u64) ∧
  (type_of% @IntKind.wrap_i64) :=
 ⟨@yar,@zvw,@yhp,@yas,@zrc,@yho,@zvx,@yat,@yay,@zrj,@zrk,@zqk,@zuf,@zlg,@zox,@zra,@zqc,@true_and,@and_true,@Nat.le_refl,@false_implies,@List.nil_append.{0},@List.append_nil.{0},@List.cons_append.{0},@Nat.zero_le,@Bool.false_eq_true,@cond_false.{1},@cond_true.{1},@List.getElem?_cons_succ.{0},@List.getElem?_cons_zero.{0},@ne_eq.{1},@not_false_eq_true,@and_self,@true_implies,@AV.w.injEq,@Nat.min_def,@List.set_cons_zero.{0},@List.set_cons_succ.{0},@List.replicate_succ.{0},@List.replicate_zero.{0},@List.length_append.{0},@List.length_cons.{0},@List.length_nil.{0},@Nat.zero_add,@Nat.add_zero,@Bool.not_true,@Bool.not_false,@Bool.true_and,@Bool.and_true,@Bool.and_false,@Bool.false_and,@not_true_eq_false,@not_false_iff,@or_false,@or_true,@false_or,@true_or,@Int.toNat_natCast,@List.length_replicate.{0},@zup,@zuq,@zzv,@beq_self_eq_true.{0},@BEq.rfl.{0},@List.mem_cons.{0},@List.not_mem_nil.{0},@List.all_cons.{0},@List.all_nil.{0},@Bool.or_false,@Bool.or_true,@Bool.true_or,@Bool.false_or,@decide_true,@decide_false,@Value.int.injEq,@Value.bool.injEq,@IntKind.wrap_u8,@IntKind.wrap_u64,@IntKind.wrap_i64⟩
theorem evD0 : (type_of% @Ax.slot.eq_1) ∧
  (type_of% @Ax.slot.eq_2) ∧
  (type_of% @Ax.slot.eq_3) ∧
  (type_of% @Ax.setSlot.eq_1) ∧
  (type_of% @Ax.setSlot.eq_2) ∧
  (type_of% @Ax.setSlot.eq_3) ∧
  (type_of% @Ax.Out.and.eq_1) ∧
  (type_of% @Ax.isBool.eq_1) ∧
  (type_of% @Ax.isPtr.eq_1) ∧
  (type_of% @Ax.evs.eq_1) ∧
  (type_of% @Ax.evs.eq_2) ∧
  (type_of% @Ax.evps.eq_1) ∧
  (type_of% @Ax.evps.eq_2) ∧
  (type_of% @Ax.aCall.eq_1) ∧
  (type_of% @Ax.aUser.eq_1) ∧
  (type_of% @Ax.coes.eq_1) ∧
  (type_of% @Ax.coes.eq_2) ∧
  (type_of% @Ax.callOut.eq_1) ∧
  (type_of% @Ax.rootsL.eq_1) ∧
  (type_of% @Ax.rootsL.eq_2) ∧
  (type_of% @Ax.AV.roots.eq_1) ∧
  (type_of% @Ax.AV.roots.eq_2) ∧
  (type_of% @Ax.AV.roots.eq_3) ∧
  (type_of% @Ax.AV.roots.eq_4) ∧
  (type_of% @Ax.lendsL.eq_1) ∧
  (type_of% @Ax.lendsL.eq_2) ∧
  (type_of% @Ax.AV.lends.eq_1) ∧
  (type_of% @Ax.AV.lends.eq_2) ∧
  (type_of% @Ax.AV.lends.eq_3) ∧
  (type_of% @Ax.AV.lends.eq_4) ∧
  (type_of% @Ax.pinsOf.eq_1) ∧
  (type_of% @Ax.pinsOf.eq_2) ∧
  (type_of% @Ax.nodup.eq_1) ∧
  (type_of% @Ax.nodup.eq_2) ∧
  (type_of% @Ax.lendL.eq_1) ∧
  (type_of% @Ax.lendL.eq_2) ∧
  (type_of% @Ax.lend.eq_1) ∧
  (type_of% @Ax.lend.eq_2) ∧
  (type_of% @Ax.lend.eq_3) ∧
  (type_of% @Ax.lend.eq_4) ∧
  (type_of% @Ax.lend.eq_5) ∧
  (type_of% @Ax.lend.eq_6) ∧
  (type_of% @Ax.lend.eq_7) ∧
  (type_of% @Ax.lend.eq_8) ∧
  (type_of% @Ax.lend.eq_9) ∧
  (type_of% @Ax.lend.eq_10) ∧
  (type_of% @Ax.lend.eq_11) ∧
  (type_of% @Ax.lend.eq_12) ∧
  (type_of% @Ax.closedB.eq_1) ∧
  (type_of% @Ax.closedB.eq_2) ∧
  (type_of% @Ax.noimmB.eq_1) ∧
  (type_of% @Ax.noimmB.eq_2) ∧
  (type_of% @Ax.AV.noimm.eq_1) ∧
  (type_of% @Ax.AV.noimm.eq_2) ∧
  (type_of% @Ax.AV.noimm.eq_3) ∧
  (type_of% @Ax.AV.noimm.eq_4) :=
 ⟨@Ax.slot.eq_1,@Ax.slot.eq_2,@Ax.slot.eq_3,@Ax.setSlot.eq_1,@Ax.setSlot.eq_2,@Ax.setSlot.eq_3,@Ax.Out.and.eq_1,@Ax.isBool.eq_1,@Ax.isPtr.eq_1,@Ax.evs.eq_1,@Ax.evs.eq_2,@Ax.evps.eq_1,@Ax.evps.eq_2,@Ax.aCall.eq_1,@Ax.aUser.eq_1,@Ax.coes.eq_1,@Ax.coes.eq_2,@Ax.callOut.eq_1,@Ax.rootsL.eq_1,@Ax.rootsL.eq_2,@Ax.AV.roots.eq_1,@Ax.AV.roots.eq_2,@Ax.AV.roots.eq_3,@Ax.AV.roots.eq_4,@Ax.lendsL.eq_1,@Ax.lendsL.eq_2,@Ax.AV.lends.eq_1,@Ax.AV.lends.eq_2,@Ax.AV.lends.eq_3,@Ax.AV.lends.eq_4,@Ax.pinsOf.eq_1,@Ax.pinsOf.eq_2,@Ax.nodup.eq_1,@Ax.nodup.eq_2,@Ax.lendL.eq_1,@Ax.lendL.eq_2,@Ax.lend.eq_1,@Ax.lend.eq_2,@Ax.lend.eq_3,@Ax.lend.eq_4,@Ax.lend.eq_5,@Ax.lend.eq_6,@Ax.lend.eq_7,@Ax.lend.eq_8,@Ax.lend.eq_9,@Ax.lend.eq_10,@Ax.lend.eq_11,@Ax.lend.eq_12,@Ax.closedB.eq_1,@Ax.closedB.eq_2,@Ax.noimmB.eq_1,@Ax.noimmB.eq_2,@Ax.AV.noimm.eq_1,@Ax.AV.noimm.eq_2,@Ax.AV.noimm.eq_3,@Ax.AV.noimm.eq_4⟩
theorem evD1 : (type_of% @Ax.AV.noimm.eq_5) ∧
  (type_of% @Ax.AV.noimm.eq_6) ∧
  (type_of% @Ax.AV.noimm.eq_7) ∧
  (type_of% @Ax.AV.noimm.eq_8) ∧
  (type_of% @Ax.AV.ren.eq_1) ∧
  (type_of% @Ax.AV.ren.eq_2) ∧
  (type_of% @Ax.AV.ren.eq_3) ∧
  (type_of% @Ax.AV.ren.eq_4) ∧
  (type_of% @Ax.AV.ren.eq_5) ∧
  (type_of% @Ax.AV.ren.eq_6) ∧
  (type_of% @Ax.renL.eq_1) ∧
  (type_of% @Ax.renL.eq_2) ∧
  (type_of% @Ax.back.eq_1) ∧
  (type_of% @Ax.back.eq_2) ∧
  (type_of% @Ax.aLoad.eq_1) ∧
  (type_of% @Ax.subv.eq_1) ∧
  (type_of% @Ax.guardSlot.eq_1) ∧
  (type_of% @Ax.byte.eq_1) ∧
  (type_of% @Ax.word.eq_1) ∧
  (type_of% @Ax.EndsX.eq_1) ∧
  (type_of% @Ax.rvals.eq_1) ∧
  (type_of% @Ax.rvals.eq_2) ∧
  (type_of% @Ax.rvals.eq_3) ∧
  (type_of% @Ax.AV.ids.eq_1) ∧
  (type_of% @Ax.AV.ids.eq_2) ∧
  (type_of% @Ax.AV.ids.eq_3) ∧
  (type_of% @Ax.AV.ids.eq_4) ∧
  (type_of% @Ax.AV.ids.eq_5) ∧
  (type_of% @Ax.AV.ids.eq_6) ∧
  (type_of% @Ax.idsL.eq_1) ∧
  (type_of% @Ax.idsL.eq_2) ∧
  (type_of% @Ax.newIds.eq_1) ∧
  (type_of% @Ax.newIds.eq_2) ∧
  (type_of% @Ax.upTo.eq_1) ∧
  (type_of% @Ax.upTo.eq_2) ∧
  (type_of% @Ax.pinHeap.eq_1) ∧
  (type_of% @Ax.pinHeap.eq_2) ∧
  (type_of% @Ax.gOf.eq_1) ∧
  (type_of% @Ax.gOf.eq_2) ∧
  (type_of% @Ax.gOf.eq_3) ∧
  (type_of% @Ax.aBuildSlice.eq_1) ∧
  (type_of% @Ax.fillB.eq_1) ∧
  (type_of% @Ax.fillB.eq_2) ∧
  (type_of% @Ax.fillB.eq_3) ∧
  (type_of% @Ax.look.eq_1) ∧
  (type_of% @Ax.look.eq_2) ∧
  (type_of% @Ax.put.eq_1) ∧
  (type_of% @Ax.drop.eq_1) ∧
  (type_of% @Ax.drop.eq_2) ∧
  (type_of% @Ax.asv.eq_1) ∧
  (type_of% @Ax.aMake.eq_1) ∧
  (type_of% @Ax.fillG.eq_1) ∧
  (type_of% @Ax.fillG.eq_2) ∧
  (type_of% @Ax.fillI.eq_1) ∧
  (type_of% @Ax.fillI.eq_2) ∧
  (type_of% @Ax.fillI.eq_3) :=
 ⟨@Ax.AV.noimm.eq_5,@Ax.AV.noimm.eq_6,@Ax.AV.noimm.eq_7,@Ax.AV.noimm.eq_8,@Ax.AV.ren.eq_1,@Ax.AV.ren.eq_2,@Ax.AV.ren.eq_3,@Ax.AV.ren.eq_4,@Ax.AV.ren.eq_5,@Ax.AV.ren.eq_6,@Ax.renL.eq_1,@Ax.renL.eq_2,@Ax.back.eq_1,@Ax.back.eq_2,@Ax.aLoad.eq_1,@Ax.subv.eq_1,@Ax.guardSlot.eq_1,@Ax.byte.eq_1,@Ax.word.eq_1,@Ax.EndsX.eq_1,@Ax.rvals.eq_1,@Ax.rvals.eq_2,@Ax.rvals.eq_3,@Ax.AV.ids.eq_1,@Ax.AV.ids.eq_2,@Ax.AV.ids.eq_3,@Ax.AV.ids.eq_4,@Ax.AV.ids.eq_5,@Ax.AV.ids.eq_6,@Ax.idsL.eq_1,@Ax.idsL.eq_2,@Ax.newIds.eq_1,@Ax.newIds.eq_2,@Ax.upTo.eq_1,@Ax.upTo.eq_2,@Ax.pinHeap.eq_1,@Ax.pinHeap.eq_2,@Ax.gOf.eq_1,@Ax.gOf.eq_2,@Ax.gOf.eq_3,@Ax.aBuildSlice.eq_1,@Ax.fillB.eq_1,@Ax.fillB.eq_2,@Ax.fillB.eq_3,@Ax.look.eq_1,@Ax.look.eq_2,@Ax.put.eq_1,@Ax.drop.eq_1,@Ax.drop.eq_2,@Ax.asv.eq_1,@Ax.aMake.eq_1,@Ax.fillG.eq_1,@Ax.fillG.eq_2,@Ax.fillI.eq_1,@Ax.fillI.eq_2,@Ax.fillI.eq_3⟩
theorem evD2 : (type_of% @Ax.bnds.eq_1) ∧
  (type_of% @Ax.cut.eq_1) ∧
  (type_of% @Ax.aFieldAddr.eq_1) ∧
  (type_of% @Ax.aField.eq_1) ∧
  (type_of% @Ax.aBox.eq_1) ∧
  (type_of% @Ax.aBuild.eq_1) ∧
  (type_of% @Ax.fillS.eq_1) ∧
  (type_of% @Ax.fillS.eq_2) ∧
  (type_of% @Ax.allTy.eq_1) ∧
  (type_of% @Ax.allTy.eq_2) ∧
  (type_of% @Ax.splice.eq_1) ∧
  (type_of% @Ax.isBytes.eq_1) ∧
  (type_of% @Ax.aAlloc.eq_1) ∧
  (type_of% @Ax.closedL.eq_1) ∧
  (type_of% @Ax.closedL.eq_2) ∧
  (type_of% @Ax.AV.closed.eq_1) ∧
  (type_of% @Ax.AV.closed.eq_2) ∧
  (type_of% @Ax.AV.closed.eq_3) ∧
  (type_of% @Ax.AV.closed.eq_4) ∧
  (type_of% @Ax.AV.closed.eq_5) ∧
  (type_of% @Ax.AV.closed.eq_6) ∧
  (type_of% @Ax.idx.eq_1) ∧
  (type_of% @Ax.idx.eq_2) ∧
  (type_of% @Ax.AV.lentIds.eq_1) ∧
  (type_of% @Ax.AV.lentIds.eq_2) ∧
  (type_of% @Ax.AV.lentIds.eq_3) ∧
  (type_of% @Ax.AV.lentIds.eq_4) ∧
  (type_of% @Ax.lentIdsL.eq_1) ∧
  (type_of% @Ax.lentIdsL.eq_2) ∧
  (type_of% @Ax.dropAll.eq_1) ∧
  (type_of% @Ax.dropAll.eq_2) ∧
  (type_of% @Ax.AV.clean.eq_1) ∧
  (type_of% @Ax.AV.clean.eq_2) ∧
  (type_of% @Ax.AV.clean.eq_3) ∧
  (type_of% @Ax.AV.clean.eq_4) ∧
  (type_of% @Ax.AV.clean.eq_5) ∧
  (type_of% @Ax.AV.clean.eq_6) ∧
  (type_of% @Ax.AV.clean.eq_7) ∧
  (type_of% @Ax.AV.clean.eq_8) ∧
  (type_of% @Ax.cleanL.eq_1) ∧
  (type_of% @Ax.cleanL.eq_2) ∧
  (type_of% @Ax.cleanB.eq_1) ∧
  (type_of% @Ax.cleanB.eq_2) ∧
  (type_of% @Ax.quietC.eq_1) ∧
  (type_of% @Ax.flatTy.eq_1) ∧
  (type_of% @Ax.coldStr.eq_1) ∧
  (type_of% @Ax.eqV.eq_1) ∧
  (type_of% @Ax.eqV.eq_2) ∧
  (type_of% @Ax.eqV.eq_3) ∧
  (type_of% @Ax.eqV.eq_4) ∧
  (type_of% @Ax.eqV.eq_5) ∧
  (type_of% @Ax.eqF.eq_1) ∧
  (type_of% @Ax.eqF.eq_2) ∧
  (type_of% @Ax.isStruct.eq_1) :=
 ⟨@Ax.bnds.eq_1,@Ax.cut.eq_1,@Ax.aFieldAddr.eq_1,@Ax.aField.eq_1,@Ax.aBox.eq_1,@Ax.aBuild.eq_1,@Ax.fillS.eq_1,@Ax.fillS.eq_2,@Ax.allTy.eq_1,@Ax.allTy.eq_2,@Ax.splice.eq_1,@Ax.isBytes.eq_1,@Ax.aAlloc.eq_1,@Ax.closedL.eq_1,@Ax.closedL.eq_2,@Ax.AV.closed.eq_1,@Ax.AV.closed.eq_2,@Ax.AV.closed.eq_3,@Ax.AV.closed.eq_4,@Ax.AV.closed.eq_5,@Ax.AV.closed.eq_6,@Ax.idx.eq_1,@Ax.idx.eq_2,@Ax.AV.lentIds.eq_1,@Ax.AV.lentIds.eq_2,@Ax.AV.lentIds.eq_3,@Ax.AV.lentIds.eq_4,@Ax.lentIdsL.eq_1,@Ax.lentIdsL.eq_2,@Ax.dropAll.eq_1,@Ax.dropAll.eq_2,@Ax.AV.clean.eq_1,@Ax.AV.clean.eq_2,@Ax.AV.clean.eq_3,@Ax.AV.clean.eq_4,@Ax.AV.clean.eq_5,@Ax.AV.clean.eq_6,@Ax.AV.clean.eq_7,@Ax.AV.clean.eq_8,@Ax.cleanL.eq_1,@Ax.cleanL.eq_2,@Ax.cleanB.eq_1,@Ax.cleanB.eq_2,@Ax.quietC.eq_1,@Ax.flatTy.eq_1,@Ax.coldStr.eq_1,@Ax.eqV.eq_1,@Ax.eqV.eq_2,@Ax.eqV.eq_3,@Ax.eqV.eq_4,@Ax.eqV.eq_5,@Ax.eqF.eq_1,@Ax.eqF.eq_2,@Ax.isStruct.eq_1⟩
end Go.Proofs.Ytdfgfdcfcdgadaa
namespace Go.Proofs.Ytdfgfdcfcdgadaa
namespace Ax
open Go.RowKit Go.ChangeShapes Go.WideShapes
def RC (w : World) : List AV → List Value → Prop
 | [],[] => True
 | x :: xs,v :: vs => (x.leaf = true ∧ x.closed = true ∧ R w loc0 x v) ∧ RC w xs vs
 | _,_ => False
theorem RC.len {w : World} : ∀ {xs : List AV} {vs : List Value},RC w xs vs → xs.length = vs.length
 | [],[],_ => rfl
 | x :: xs,v :: vs,h => by simp [RC.len h.2]
 | [],_ :: _,h => h.elim
 | _ :: _,[],h => h.elim
theorem RC.get {w : World} : ∀ {xs : List AV} {vs : List Value},RC w xs vs → ∀ (j : Nat) (h : j < xs.length) (h' : j < vs.length),xs[j].leaf = true ∧ xs[j].closed = true ∧ R w loc0 xs[j] vs[j]
 | x :: xs,v :: vs,h,j,a,b => by
  cases j with
  | zero => exact h.1
  | succ j => exact RC.get h.2 j (by simpa using a) (by simpa using b)
 | [],[],_,j,a,_ => by simp at a
 | [],_ :: _,h,_,_,_ => h.elim
 | _ :: _,[],h,_,_,_ => h.elim
theorem RC.append {w : World} : ∀ {xs ys : List AV} {vs us : List Value},RC w xs vs → RC w ys us → RC w (xs ++ ys) (vs ++ us)
 | [],ys,[],us,_,h => h
 | x :: xs,ys,v :: vs,us,h,k => ⟨h.1,RC.append h.2 k⟩
 | [],_,_ :: _,_,h,_ => h.elim
 | _ :: _,_,[],_,h,_ => h.elim
def zjq : TD → Nat
 | .int .u8 => 1
 | .int .i64 => 2
 | _ => 0
def zpe (S : TypeId → List AV → Prop) : List (Nat × TypeId) → List AV → Prop
 | [],ls => ls = []
 | p :: r,ls => ∃ l1 l2,ls = l1 ++ l2 ∧ S p.2 l1 ∧ zpe S r l2
def zmo (T : zac) : Nat → TypeId → List AV → Prop
 | 0,_,_ => False
 | n + 1,t,ls => match T t with
  | none => False
  | some i => match i.d with
   | .int k => ∃ m,ls = [.w (.int k m)] ∧ (Lit.int k m).wf = true
   | .bool => ∃ b,ls = [.w (.bool b)]
   | .str => ∃ bs,ls = [.str bs] ∧ bs.length ≤ maxLen
   | .slice e => match T e with
    | none => False
    | some te => match zjq te.d with
     | 1 => ∃ bs f,ls = [.sb bs f] ∧ bs.length ≤ maxLen
     | 2 => ∃ ns f,ls = [.si ns f] ∧ ns.length ≤ maxLen ∧ ∀ n ∈ ns,-9223372036854775808 ≤ n ∧ n ≤ 9223372036854775807
     | _ => ∃ xs f,ls = [.sg te.size xs f] ∧ xs.length ≤ maxLen ∧ ∀ x ∈ xs,∃ l,zmo T n e l ∧ l.length = te.size ∧ x = asv te l
   | .struct fs => zpe (zmo T n) fs ls
   | .arr m e => zpe (zmo T n) (List.replicate m (0,e)) ls
   | _ => False
def ydq (T : zac) : List (Nat × TypeId) → Nat → Nat → Bool
 | [],o,s => o == s
 | p :: r,o,s => match T p.2 with
  | some i => p.1 == o && ydq T r (o + i.size) s
  | none => false
def okT (T : zac) : Nat → TypeId → Bool
 | 0,_ => false
 | n + 1,t => match T t with
  | none => false
  | some i => match i.d with
   | .int _ => true
   | .bool => true
   | .str => true
   | .slice e => match T e with
    | none => false
    | some te => !(zjq te.d == 0) || (okT T n e && decide (0 < te.size))
   | .struct fs => ydq T fs 0 i.size && fs.all fun p => okT T n p.2
   | .arr m e => match T e with
    | some te => m * te.size == i.size && okT T n e
    | none => false
   | _ => false
theorem zis {P : Program} {T : zac} (hT : TOk P T) {t : TypeId} {i : TyI} (h : T t = some i) : P.cellsOf t = i.size := by
 obtain ⟨inf,z,h1,h2,_⟩ := (hT t i h).info
 simp [Program.cellsOf,h1,h2]
section
variable {H : Type} {enc : TypeId × Value → H} {P : Program} {w : World} {base : Nat} {spare : Nat → Bool} {held : Bool}
theorem zzs {T : zac} (hT : TOk P T) {S : TypeId → List AV → Prop} {ok : TypeId → Bool} {m : Nat} (ih : ∀ t cs x,DataW.trod enc P w base spare held m t cs = some x → ok t = true → ∃ ls,RC w ls cs ∧ S t ls) :
  ∀ (fs : List (Nat × TypeId)) (o s : Nat) (cs : List Value),ydq T fs o s = true → (fs.all fun p => ok p.2) = true → cs.length = s → (∀ p ∈ fs,∃ x,DataW.trod enc P w base spare held m p.2 ((cs.drop p.1).take (P.cellsOf p.2)) = some x) → ∃ ls,RC w ls (cs.drop o) ∧ zpe S fs ls
 | [],o,s,cs,ht,_,hl,_ => by
  simp only [ydq,beq_iff_eq] at ht
  subst ht
  rw [← hl,List.drop_length]
  exact ⟨[],trivial,rfl⟩
 | p :: r,o,s,cs,ht,hk,hl,h => by
  simp only [ydq] at ht
  simp only [List.all_cons,Bool.and_eq_true] at hk
  cases hp : T p.2 with
  | none => simp [hp] at ht
  | some i =>
   simp only [hp,Bool.and_eq_true,beq_iff_eq] at ht
   obtain ⟨rfl,ht⟩ := ht
   obtain ⟨x,hx⟩ := h p (by simp)
   obtain ⟨l1,h1,h2⟩ := ih _ _ _ hx hk.1
   obtain ⟨l2,h3,h4⟩ := zzs hT ih r _ s cs ht hk.2 hl (fun q hq => h q (by simp [hq]))
   rw [zis hT hp] at h1
   refine ⟨l1 ++ l2,?_,l1,l2,rfl,h2,h4⟩
   have := RC.append h1 h3
   rwa [← List.drop_drop,List.take_append_drop] at this
theorem ynv {T : zac} (hT : TOk P T) {S : TypeId → List AV → Prop} {ok : TypeId → Bool} {m : Nat} {e : TypeId} {te : TyI} (he : T e = some te) (hok : ok e = true) (ih : ∀ t cs x,DataW.trod enc P w base spare held m t cs = some x → ok t = true → ∃ ls,RC w ls cs ∧ S t ls) :
  ∀ (k : Nat) (cs : List Value),cs.length = k * te.size → (∀ i,i < k → ∃ x,DataW.trod enc P w base spare held m e ((cs.drop (i * te.size)).take te.size) = some x) → ∃ ls,RC w ls cs ∧ zpe S (List.replicate k (0,e)) ls
 | 0,cs,hl,_ => by
  have : cs = [] := List.eq_nil_of_length_eq_zero (by simpa using hl)
  subst this
  exact ⟨[],trivial,rfl⟩
 | k + 1,cs,hl,h => by
  obtain ⟨x,hx⟩ := h 0 (by omega)
  rw [Nat.zero_mul,List.drop_zero] at hx
  obtain ⟨l1,h1,h2⟩ := ih _ _ _ hx hok
  have hmul : (k + 1) * te.size = k * te.size + te.size := Nat.succ_mul _ _
  obtain ⟨l2,h3,h4⟩ := ynv hT he hok ih k (cs.drop te.size) (by rw [List.length_drop]; omega) (fun i hi => by
   obtain ⟨y,hy⟩ := h (i + 1) (by omega)
   refine ⟨y,?_⟩
   rw [List.drop_drop,show te.size + i * te.size = (i + 1) * te.size by rw [Nat.succ_mul]; omega]
   exact hy)
  refine ⟨l1 ++ l2,?_,l1,l2,rfl,h2,h4⟩
  have := RC.append h1 h3
  rwa [List.take_append_drop] at this
theorem ykh {S : List AV → Prop} {te : TyI} (hs : ∀ l,S l → te.d.aggr = false → te.size = 1) {a : Addr} :
  ∀ (n : Nat) (off : Nat),(∀ i,i < n → ∃ (ls : List AV) (cs : List Value),RC w ls cs ∧ S ls ∧ cs.length = te.size ∧ ∀ k,k < te.size → w.cell? (a.add ((off + i) * te.size + k)) = cs[k]?) →
   ∃ (xs : List AV) (cs : List Value),xs.length = n ∧ cs.length = n * te.size ∧ (∀ x ∈ xs,∃ l,S l ∧ l.length = te.size ∧ x = asv te l ∧ x.leaves = l) ∧ RC w (xs.flatMap AV.leaves) cs ∧ ∀ k,k < n * te.size → w.cell? (a.add (off * te.size + k)) = cs[k]?
 | 0,off,_ => ⟨[],[],rfl,by simp,by simp,trivial,fun k h => by simp at h⟩
 | n + 1,off,h => by
  obtain ⟨ls,c1,h1,h2,h3,h4⟩ := h 0 (by omega)
  obtain ⟨xs,c2,k1,k2,k3,k4,k5⟩ := ykh hs n (off + 1) (fun i hi => by
   obtain ⟨l,c,a1,a2,a3,a4⟩ := h (i + 1) (by omega)
   refine ⟨l,c,a1,a2,a3,fun k hk => ?_⟩
   rw [show off + 1 + i = off + (i + 1) by omega]; exact a4 k hk)
  have hlen : ls.length = te.size := by rw [RC.len h1,h3]
  have hx : (asv te ls).leaves = ls := by
   unfold asv
   cases ha : te.d.aggr with
   | true => rfl
   | false =>
    have h1s := hs ls h2 ha
    have hl1 : ls.length = 1 := by omega
    obtain ⟨y,rfl⟩ := List.length_eq_one_iff.1 hl1
    have := (RC.get h1 0 (by simp) (by omega)).1
    simp only [List.getElem_cons_zero] at this
    simp only [cond_false,slot]
    cases y <;> first | rfl | simp [AV.leaf] at this
  refine ⟨asv te ls :: xs,c1 ++ c2,by simp [k1],by rw [List.length_append,h3,k2,Nat.succ_mul]; omega,?_,?_,?_⟩
  ·intro x hxm
   rcases List.mem_cons.1 hxm with rfl | hxm
   ·exact ⟨ls,h2,hlen,rfl,hx⟩
   ·exact k3 x hxm
  ·rw [List.flatMap_cons,hx]; exact RC.append h1 k4
  ·intro k hk
   by_cases hk1 : k < te.size
   ·rw [List.getElem?_append_left (by omega)]
    have := h4 k hk1
    rw [Nat.add_zero] at this
    exact this
   ·rw [List.getElem?_append_right (by omega),h3]
    have := k5 (k - te.size) (by rw [Nat.succ_mul] at hk; omega)
    rw [← this,Nat.succ_mul]
    congr 2
    omega
theorem ymi (a : Addr) (h : a.spot = none) (m n : Nat) : (a.add m).add n = a.add (m + n) := by
 obtain ⟨b,o,s⟩ := a
 simp only at h
 subst h
 unfold Addr.add
 by_cases hm : m = 0
 ·subst hm; simp
 ·by_cases hn : n = 0
  ·subst hn; simp
  ·rw [if_neg hm,if_neg hn,if_neg (by omega)]
   simp; omega
theorem zru {T : zac} (hT : TOk P T) {t : TypeId} {i : TyI} (h : T t = some i) (ha : i.d.aggr = false) : i.size = 1 := by
 obtain ⟨inf,z,_,_,_,_,_,_,_,h8⟩ := (hT t i h).info
 exact (h8 ha).2.2
theorem yac {a : Addr} {cs : List Value} (hne : cs ≠ []) (h : ∀ k,k < cs.length → w.cell? (a.add k) = cs[k]?) : Cells w loc0 (some a) cs ∧ a.spot = none := by
 have hl : 0 < cs.length := List.length_pos_iff.2 hne
 have h1 := h 0 hl
 rw [show a.add 0 = a from rfl,List.getElem?_eq_getElem hl] at h1
 have hx : a.spot = none ∧ a.block < w.heap.size := by
  unfold World.cell? at h1
  split at h1
  ·rename_i c e fz hh
   split at h1
   ·cases h1
   ·rename_i hs
    refine ⟨by simpa using hs,?_⟩
    rcases Nat.lt_or_ge a.block w.heap.size with h' | h'
    ·exact h'
    ·rw [Array.getElem?_eq_none h'] at hh; cases hh
  ·cases h1
 obtain ⟨b,o,sp⟩ := a
 obtain ⟨rfl,hb⟩ := hx
 refine ⟨⟨.inr ⟨b,o,rfl,zyz b,hb,fun j hj => ?_⟩⟩,rfl⟩
 have h2 := h j hj
 rw [List.getElem?_eq_getElem hj] at h2
 rw [← h2]
 cases j <;> rfl
theorem zyv {T : zac} (hT : TOk P T) : ∀ (n fuel : Nat) (t : TypeId) (cs : List Value) (x : DataW H × List MemPlace),DataW.trod enc P w base (fun _ => true) held fuel t cs = some x → okT T n t = true → ∃ ls,RC w ls cs ∧ zmo T n t ls
 | 0,_,_,_,_,_,h => by simp [okT] at h
 | n + 1,fuel,t,cs,x,h,hok => by
  unfold okT at hok
  unfold zmo
  cases ht : T t with
  | none => simp [ht] at hok
  | some i =>
   simp only [ht] at hok ⊢
   have hd := (hT t i ht).d
   have hsz := zis hT ht
   cases hi : i.d with
   | int k =>
    rw [hi] at hd
    obtain ⟨m,rfl,_,hw⟩ := DataW.trod_int hd h
    exact ⟨[.w (.int k m)],⟨⟨rfl,rfl,.w _ rfl⟩,trivial⟩,m,rfl,hw⟩
   | bool =>
    rw [hi] at hd
    obtain ⟨b,rfl,_⟩ := DataW.trod_bool hd h
    exact ⟨[.w (.bool b)],⟨⟨rfl,rfl,.w _ rfl⟩,trivial⟩,b,rfl⟩
   | str =>
    rw [hi] at hd
    obtain ⟨s,rfl,_,hm⟩ := DataW.trod_string hd h
    exact ⟨[.str s.data.toList],⟨⟨rfl,rfl,yob w s⟩,trivial⟩,s.data.toList,rfl,by simpa using hm⟩
   | slice e =>
    rw [hi] at hd
    simp only [hi] at hok ⊢
    cases he : T e with
    | none => simp [he] at hok
    | some te =>
     simp only [he] at hok ⊢
     have hde := (hT e te he).d
     have hse := zis hT he
     have row : ∀ k,P.underlying e = some (.int k) → P.cellsOf e = 1 → ∃ a len cap zs,cs = [.slice a len cap] ∧ yml k w a len cap zs := by
      intro k hk h1
      rcases open_ints hd hk h1 h with ⟨hcs,_⟩ | ⟨y,l,c,zs,hcs,_,hl,hm,hz,_,hcell,hwz⟩
      ·exact ⟨none,0,0,[],hcs,.inl ⟨rfl,rfl,rfl,rfl⟩⟩
      ·exact ⟨some y,l,c,zs,hcs,.inr ⟨y,rfl,hl,hm,by simpa using hz,hcell,hwz⟩⟩
     have hfi : (zjq te.d = 1 ∧ te.d = .int .u8) ∨ (zjq te.d = 2 ∧ te.d = .int .i64) ∨ zjq te.d = 0 := by
      unfold zjq
      split
      ·rename_i e; exact .inl ⟨rfl,e⟩
      ·rename_i e; exact .inr (.inl ⟨rfl,e⟩)
      ·exact .inr (.inr rfl)
     rcases hfi with ⟨hf,hte⟩ | ⟨hf,hte⟩ | hf
     ·rw [hf]
      rw [hte] at hde
      obtain ⟨a,len,cap,zs,rfl,hr⟩ := row .u8 hde (by rw [hse]; exact zru hT he (by rw [hte]; rfl))
      obtain ⟨bs,h1,h2,h3⟩ := ymu hr
      exact ⟨[.sb bs false],⟨⟨rfl,rfl,h3⟩,trivial⟩,bs,false,rfl,by omega⟩
     ·rw [hf]
      rw [hte] at hde
      obtain ⟨a,len,cap,zs,rfl,hr⟩ := row .i64 hde (by rw [hse]; exact zru hT he (by rw [hte]; rfl))
      obtain ⟨ns,h1,h2,h4,h3⟩ := ymt hr
      exact ⟨[.si ns false],⟨⟨rfl,rfl,h3⟩,trivial⟩,ns,false,rfl,by omega,h4⟩
     ·rw [hf]
      rw [hf] at hok
      simp only [beq_self_eq_true,Bool.not_true,Bool.false_or,Bool.and_eq_true,decide_eq_true_eq] at hok
      obtain ⟨hok,hpos⟩ := hok
      rcases DataW.trod_slice hd h with ⟨rfl,_⟩ | ⟨a,len,cap,elems,rest,m,_,rfl,_,hb,hl,hm,hlen,hel,_,_⟩
      ·exact ⟨[.sg te.size [] false],⟨⟨rfl,rfl,.sg te.size [] false none 0 [] ⟨Nat.le_refl _,Nat.zero_le _,fun h => by cases h⟩ (by simp) ⟨.inl rfl⟩ rfl (by simp) (by simp)⟩,trivial⟩,[],false,rfl,Nat.zero_le _,by simp⟩
      ·rw [hse] at hel
       have hall : ∀ i,i < len → ∃ (ls : List AV) (c : List Value),RC w ls c ∧ zmo T n e ls ∧ c.length = te.size ∧ ∀ k,k < te.size → w.cell? ((a.add (i * te.size)).add k) = c[k]? := by
        intro i hi
        have h1 := hel i hi
        rw [List.getElem?_eq_getElem (by omega),Option.bind_eq_some_iff] at h1
        obtain ⟨c,h2,h3⟩ := h1
        obtain ⟨_,h4,h5⟩ := World.cells?_some h2
        obtain ⟨ls,h6,h7⟩ := zyv hT n m e c _ h3 hok
        exact ⟨ls,c,h6,h7,h4,h5⟩
       by_cases h0 : len = 0
       ·subst h0
        exact ⟨[.sg te.size [] false],⟨⟨rfl,rfl,.sg te.size [] false (some a) cap [] ⟨Nat.zero_le _,hm,fun h => by cases h⟩ (by simp) ⟨.inl rfl⟩ rfl (by simp) (by simp)⟩,trivial⟩,[],false,rfl,Nat.zero_le _,by simp⟩
       ·have hspot : a.spot = none := by
         obtain ⟨ls,c,_,_,h3,h4⟩ := hall 0 (by omega)
         rw [Nat.zero_mul,show a.add 0 = a from rfl] at h4
         exact (yac (w := w) (a := a) (cs := c) (by intro e; rw [e] at h3; simp at h3; omega) (fun k hk => h4 k (by omega))).2
        obtain ⟨xs,c,k1,k2,k3,k4,k5⟩ := ykh (w := w) (S := zmo T n e) (te := te) (fun _ _ ha => zru hT he ha) (a := a) len 0 (fun i hi => by
         obtain ⟨ls,c,h1,h2,h3,h4⟩ := hall i hi
         refine ⟨ls,c,h1,h2,h3,fun k hk => ?_⟩
         rw [Nat.zero_add,← ymi a hspot]; exact h4 k hk)
        have hcne : c ≠ [] := by
         intro e; rw [e] at k2
         simp only [List.length_nil] at k2
         have := Nat.mul_pos (Nat.pos_of_ne_zero h0) hpos
         omega
        have hc := (yac (w := w) (a := a) (cs := c) hcne (fun k hk => by
         have := k5 k (by omega)
         rwa [Nat.zero_mul,Nat.zero_add] at this)).1
        have hR := R.sg (w := w) (loc := loc0) te.size xs false (some a) cap c ⟨by omega,hm,fun h => by cases h⟩ (fun x hx => by obtain ⟨l,_,h2,h3,h4⟩ := k3 x hx; rw [h4]; exact h2) hc (RC.len k4)
         (fun j hj => ⟨(RC.get k4 j hj (by rw [← RC.len k4]; exact hj)).1,(RC.get k4 j hj (by rw [← RC.len k4]; exact hj)).2.1⟩) (fun j a b => (RC.get k4 j a b).2.2)
        rw [k1] at hR
        exact ⟨[.sg te.size xs false],⟨⟨rfl,rfl,hR⟩,trivial⟩,xs,false,rfl,by omega,fun x hx => by obtain ⟨l,h1,h2,h3,_⟩ := k3 x hx; exact ⟨l,h1,h2,h3⟩⟩
   | struct fs =>
    rw [hi] at hd
    simp only [hi,Bool.and_eq_true] at hok ⊢
    obtain ⟨gs,hu,rfl⟩ := hd
    obtain ⟨xs,m,_,_,hl,hxl,hf⟩ := DataW.trod_struct hu h
    have := zzs (w := w) (base := base) (spare := fun _ => true) (held := held) (enc := enc) hT (S := zmo T n) (ok := okT T n) (m := m) (fun t cs x h1 h2 => zyv hT n m t cs x h1 h2) _ 0 i.size cs hok.1 hok.2 (by rw [hl,hsz]) (fun p hp => by
     obtain ⟨g,hg,rfl⟩ := List.mem_map.1 hp
     obtain ⟨j,hj,hgj⟩ := List.getElem_of_mem hg
     have hj2 : gs[j]? = some g := by rw [← hgj]; simp at hj ⊢
     have h3 := hf j g hj2
     have hjx : j < xs.length := by rw [hxl]; simpa using hj
     exact ⟨xs[j],by rw [h3,List.getElem?_eq_getElem hjx]⟩)
    rwa [List.drop_zero] at this
   | arr k e =>
    rw [hi] at hd
    simp only [hi] at hok ⊢
    cases he : T e with
    | none => simp [he] at hok
    | some te =>
     simp only [he,Bool.and_eq_true,beq_iff_eq] at hok
     obtain ⟨xs,m,_,_,hl,hxl,hf⟩ := DataW.trod_array hd h
     rw [zis hT he] at hf
     exact ynv (w := w) (base := base) (spare := fun _ => true) (held := held) (enc := enc) hT (S := zmo T n) (ok := okT T n) (m := m) he hok.2 (fun t cs x h1 h2 => zyv hT n m t cs x h1 h2) k cs (by rw [hl,hsz]; exact hok.1.symm) (fun j hj => ⟨xs[j]'(by omega),by rw [hf j hj,List.getElem?_eq_getElem (by omega)]⟩)
   | ptr => simp [hi] at hok
   | func => simp [hi] at hok
   | map k e => simp [hi] at hok
   | other => simp [hi] at hok
def Arg (T : zac) (n : Nat) (t : TypeId) (x : AV) : Prop := ∃ i ls,T t = some i ∧ zmo T n t ls ∧ x = asv i ls
theorem arg_R {T : zac} (hT : TOk P T) {n : Nat} {t : TypeId} {v : Value} {d : DataW H} {ps : List MemPlace} {r : Reach} {b0 : Nat} (hval : Value.okWide P w r b0 t v) (h : DataW.Trod enc P w base (fun _ => true) held t v d ps) (hok : okT T n t = true) :
  ∃ x,Arg T n t x ∧ R w loc0 x v := by
 obtain ⟨fuel,hf⟩ := h
 obtain ⟨ls,h1,h2⟩ := zyv hT n fuel t _ _ hf hok
 cases ht : T t with
 | none => cases n <;> simp [okT,ht] at hok
 | some i =>
  have hd := (hT t i ht).d
  refine ⟨asv i ls,⟨i,ls,ht,h2,rfl⟩,?_⟩
  cases ha : i.d.aggr with
  | true =>
   have hv : ∃ c,v = .agg c := by
    unfold Value.okWide at hval
    cases hi : i.d with
    | struct fs =>
     rw [hi] at hd
     obtain ⟨gs,hu,_⟩ := hd
     rw [hu] at hval
     obtain ⟨c,hc,_⟩ := hval
     exact ⟨c,hc⟩
    | arr k e =>
     rw [hi] at hd
     have hu : P.underlying t = some (.array k e) := hd
     rw [hu] at hval
     obtain ⟨c,hc,_⟩ := hval
     exact ⟨c,hc⟩
    | _ => rw [hi] at ha; cases ha
   obtain ⟨c,rfl⟩ := hv
   simp only [asv,ha,cond_true]
   have hl := RC.len h1
   have := R.agg (w := w) (loc := loc0) ls c.toList hl (fun j hj => (RC.get h1 j hj (by rw [← hl]; exact hj)).1) (fun j a b => (RC.get h1 j a b).2.2)
   rwa [Array.toArray_toList] at this
  | false =>
   simp only [asv,ha,cond_false]
   have key : ∃ u,v.cells = #[u] ∧ u = v := by
    cases v with
    | agg c =>
     exfalso
     unfold Value.okWide Cell.okWide Cell.ok at hval
     cases hi : i.d with
     | struct fs => rw [hi] at ha; cases ha
     | arr k e => rw [hi] at ha; cases ha
     | int k => rw [hi] at hd; have hu : P.underlying t = some (.int k) := hd; simp [hu] at hval
     | bool => rw [hi] at hd; have hu : P.underlying t = some .bool := hd; simp [hu] at hval
     | str => rw [hi] at hd; have hu : P.underlying t = some .string := hd; simp [hu] at hval
     | slice e => rw [hi] at hd; have hu : P.underlying t = some (.slice e) := hd; simp [hu] at hval
     | _ => cases n <;> simp [okT,ht,hi] at hok
    | _ => exact ⟨_,rfl,rfl⟩
   obtain ⟨u,hu,rfl⟩ := key
   rw [hu] at h1
   match ls,h1 with
   | [y],h1 => exact h1.1.2.2
end
end Ax
end Go.Proofs.Ytdfgfdcfcdgadaa
namespace Go.Proofs.Ytdfgfdcfcdgadaa
open Ax
def tys : List (TypeId × TyI) := [
 (2,⟨.int .i64,1,8,[.w (.int .i64 0)],0⟩),
 (3,⟨.int .i64,1,8,[.w (.int .i64 0)],0⟩),
 (4,⟨.bool,1,1,[.w (.bool false)],0⟩),
 (5,⟨.int .u8,1,1,[.w (.int .u8 0)],0⟩),
 (9,⟨.str,1,16,[.str []],0⟩),
 (20,⟨.other,1,16,[.w .nilIface],0⟩),
 (21,⟨.int .i32,1,4,[.w (.int .i32 0)],0⟩),
 (22,⟨.slice 30,1,24,[.sg 6 [] true],0⟩),
 (25,⟨.slice 22,1,24,[.sg 1 [] true],0⟩),
 (28,⟨.slice 3,1,24,[.si [] true],0⟩),
 (29,⟨.struct [(0,3),(1,3),(2,4),(3,9),(4,4),(5,9)],6,64,[.w (.int .i64 0),.w (.int .i64 0),.w (.bool false),.str [],.w (.bool false),.str []],0⟩),
 (30,⟨.struct [(0,3),(1,3),(2,4),(3,9),(4,4),(5,9)],6,64,[.w (.int .i64 0),.w (.int .i64 0),.w (.bool false),.str [],.w (.bool false),.str []],0⟩),
 (35,⟨.slice 41,1,24,[.sg 18 [] true],0⟩),
 (38,⟨.struct [(0,3),(1,3),(2,3),(3,3),(4,3),(5,22)],6,64,[.w (.int .i64 0),.w (.int .i64 0),.w (.int .i64 0),.w (.int .i64 0),.w (.int .i64 0),.sg 6 [] true],0⟩),
 (39,⟨.struct [(0,3),(1,3),(2,3),(3,3),(4,3),(5,22)],6,64,[.w (.int .i64 0),.w (.int .i64 0),.w (.int .i64 0),.w (.int .i64 0),.w (.int .i64 0),.sg 6 [] true],0⟩),
 (40,⟨.struct [(0,5),(1,9),(2,3),(3,3),(4,4),(5,4),(6,3),(7,3),(8,3),(9,9),(10,9),(11,3),(12,39)],18,176,[.w (.int .u8 0),.str [],.w (.int .i64 0),.w (.int .i64 0),.w (.bool false),.w (.bool false),.w (.int .i64 0),.w (.int .i64 0),.w (.int .i64 0),.str [],.str [],.w (.int .i64 0),.w (.int .i64 0),.w (.int .i64 0),.w (.int .i64 0),.w (.int .i64 0),.w (.int .i64 0),.sg 6 [] true],0⟩),
 (41,⟨.struct [(0,5),(1,9),(2,3),(3,3),(4,4),(5,4),(6,3),(7,3),(8,3),(9,9),(10,9),(11,3),(12,39)],18,176,[.w (.int .u8 0),.str [],.w (.int .i64 0),.w (.int .i64 0),.w (.bool false),.w (.bool false),.w (.int .i64 0),.w (.int .i64 0),.w (.int .i64 0),.str [],.str [],.w (.int .i64 0),.w (.int .i64 0),.w (.int .i64 0),.w (.int .i64 0),.w (.int .i64 0),.w (.int .i64 0),.sg 6 [] true],0⟩),
 (45,⟨.int .u64,1,8,[.w (.int .u64 0)],0⟩),
 (47,⟨.slice 5,1,24,[.sb [] true],0⟩),
 (51,⟨.int .u64,1,8,[.w (.int .u64 0)],0⟩),
 (59,⟨.int .u32,1,4,[.w (.int .u32 0)],0⟩),
 (63,⟨.ptr,1,8,[.w (.pointer none)],0⟩)]
theorem ymr : TOk Try.prog (tab tys) := yms (by kernel_rfl)
def ty (t : TypeId) : Option TyI :=
 match t with
 | 2 => some ⟨.int .i64,1,8,[.w (.int .i64 0)],0⟩
 | 3 => some ⟨.int .i64,1,8,[.w (.int .i64 0)],0⟩
 | 4 => some ⟨.bool,1,1,[.w (.bool false)],0⟩
 | 5 => some ⟨.int .u8,1,1,[.w (.int .u8 0)],0⟩
 | 9 => some ⟨.str,1,16,[.str []],0⟩
 | 20 => some ⟨.other,1,16,[.w .nilIface],0⟩
 | 21 => some ⟨.int .i32,1,4,[.w (.int .i32 0)],0⟩
 | 22 => some ⟨.slice 30,1,24,[.sg 6 [] true],0⟩
 | 25 => some ⟨.slice 22,1,24,[.sg 1 [] true],0⟩
 | 28 => some ⟨.slice 3,1,24,[.si [] true],0⟩
 | 29 => some ⟨.struct [(0,3),(1,3),(2,4),(3,9),(4,4),(5,9)],6,64,[.w (.int .i64 0),.w (.int .i64 0),.w (.bool false),.str [],.w (.bool false),.str []],0⟩
 | 30 => some ⟨.struct [(0,3),(1,3),(2,4),(3,9),(4,4),(5,9)],6,64,[.w (.int .i64 0),.w (.int .i64 0),.w (.bool false),.str [],.w (.bool false),.str []],0⟩
 | 35 => some ⟨.slice 41,1,24,[.sg 18 [] true],0⟩
 | 38 => some ⟨.struct [(0,3),(1,3),(2,3),(3,3),(4,3),(5,22)],6,64,[.w (.int .i64 0),.w (.int .i64 0),.w (.int .i64 0),.w (.int .i64 0),.w (.int .i64 0),.sg 6 [] true],0⟩
 | 39 => some ⟨.struct [(0,3),(1,3),(2,3),(3,3),(4,3),(5,22)],6,64,[.w (.int .i64 0),.w (.int .i64 0),.w (.int .i64 0),.w (.int .i64 0),.w (.int .i64 0),.sg 6 [] true],0⟩
 | 40 => some ⟨.struct [(0,5),(1,9),(2,3),(3,3),(4,4),(5,4),(6,3),(7,3),(8,3),(9,9),(10,9),(11,3),(12,39)],18,176,[.w (.int .u8 0),.str [],.w (.int .i64 0),.w (.int .i64 0),.w (.bool false),.w (.bool false),.w (.int .i64 0),.w (.int .i64 0),.w (.int .i64 0),.str [],.str [],.w (.int .i64 0),.w (.int .i64 0),.w (.int .i64 0),.w (.int .i64 0),.w (.int .i64 0),.w (.int .i64 0),.sg 6 [] true],0⟩
 | 41 => some ⟨.struct [(0,5),(1,9),(2,3),(3,3),(4,4),(5,4),(6,3),(7,3),(8,3),(9,9),(10,9),(11,3),(12,39)],18,176,[.w (.int .u8 0),.str [],.w (.int .i64 0),.w (.int .i64 0),.w (.bool false),.w (.bool false),.w (.int .i64 0),.w (.int .i64 0),.w (.int .i64 0),.str [],.str [],.w (.int .i64 0),.w (.int .i64 0),.w (.int .i64 0),.w (.int .i64 0),.w (.int .i64 0),.w (.int .i64 0),.sg 6 [] true],0⟩
 | 45 => some ⟨.int .u64,1,8,[.w (.int .u64 0)],0⟩
 | 47 => some ⟨.slice 5,1,24,[.sb [] true],0⟩
 | 51 => some ⟨.int .u64,1,8,[.w (.int .u64 0)],0⟩
 | 59 => some ⟨.int .u32,1,4,[.w (.int .u32 0)],0⟩
 | 63 => some ⟨.ptr,1,8,[.w (.pointer none)],0⟩
 | _ => none
theorem ty_ok : TOk Try.prog ty := by
 intro t i h
 refine ymr t i ?_
 unfold ty at h
 split at h <;> first | (injection h with h; subst h; rfl) | cases h
theorem mixed : Try.prog.follows .mixedOrders = true := by kernel_rfl
def noS (f : FuncId) : Option zcc :=
 match f with
 | _ => none
theorem znp : Fns Try.prog noS := fun f s h => by cases h
def yesS : zcc
 | [],[] => ⟨True,.w (.bool true),[]⟩
 | _,_ => zkn
end Go.Proofs.Ytdfgfdcfcdgadaa
namespace Go.Proofs.Ytdfgfdcfcdgadaa
namespace Ax
variable (T : zac) (t : TypeId)
theorem yog (v : Value) : coe T t (.w v) = .w v := rfl
theorem ylt (bs : List UInt8) : coe T t (.str bs) = .str bs := rfl
theorem ylu (xs : List AV) : coe T t (.agg xs) = .agg xs := rfl
theorem yls (xs : List AV) : coe T t (.tup xs) = .tup xs := rfl
theorem yno (bs : List UInt8) (f : Bool) : coe T t (.sb bs f) = .sb bs f := rfl
theorem ynn (ns : List Int) (f : Bool) : coe T t (.si ns f) = .si ns f := rfl
theorem yns (xs : List AV) : coe T t (.cp xs) = .cp xs := rfl
theorem ynq (id s off len : Nat) : coe T t (.ms id s off len) = .ms id s off len := rfl
theorem ynp (id s i f : Nat) : coe T t (.rf id s i f) = .rf id s i f := rfl
theorem ynr (f : FuncId) (xs : List AV) : coe T t (.fn f xs) = .fn f xs := rfl
theorem yjn (s : Nat) (x : AV) (xs : List AV) (f : Bool) : coe T t (.sg s (x :: xs) f) = .sg s (x :: xs) f := rfl
end Ax
open Ax
attribute [go_sem] zko isZ8 zpv zjx zou layB evT evD0 evD1 evD2 implies_true forall_const Option.getD aop aLen ev zap cv cvl zkb aBin aInt aUn aFn aEq List.length IntKind.bits evo List.append List.replicate zca zii TD.aggr zps aMin aMax Ax.Ends rone List.isEmpty zgf zcr zfb List.drop List.take zhk zpt zpu srcB zfa zcq zdt zjc bnd zpo zjb setB AV.leaves AV.okv AV.leaf Ax.one zan Blk.size Blk.len Option.isSome Option.isNone aStr aNil zdi zhl List.contains List.elem Blk.closed Blk.noimm zjs Blk.clean ylh yog ylt ylu yls yno ynn yns ynq ynp ynr yjn zsa ziv zgd zgc zjd zge zje zcv yfx putM cutM AV.pureK AV.pure zvv bare Thing.lone zcp
attribute [go_sem] Nat.reduceAdd Nat.reduceSub Nat.reduceMul Int.reduceToNat reduceCtorEq Int.reducePow Nat.reducePow Int.reduceMod Nat.reduceLeDiff Int.reduceLE Int.reduceNe Int.reduceEq Nat.reduceEqDiff Nat.reduceLT Nat.reduceBEq
theorem lcT : (∀ {α β : Type} (f : α → β) (a : α) (l : List α),List.map f (a :: l) = f a :: List.map f l) ∧
  (∀ {α β : Type} (f : α → β),List.map f [] = []) ∧
  (∀ {α : Type} (l : List α),l.toArray.toList = l) ∧
  (∀ {α : Type} (xs ys : Array α),(xs ++ ys).toList = xs.toList ++ ys.toList) ∧
  (∀ {α : Type} (a : α),(some a).toArray = #[a]) ∧
  (∀ {α : Type},(none : Option α).toArray = #[]) ∧
  (∀ b : Bool,(b && b) = b) :=
 ⟨fun _ _ _ => rfl,fun _ => rfl,fun _ => rfl,fun _ _ => Array.toList_append,fun _ => rfl,rfl,fun b => Bool.and_self b⟩
attribute [go_sem ↓] yfn yfq yfo yfp yjk yjl
theorem ssT : (type_of% @true_or) ∧
  (type_of% @false_or) ∧
  (type_of% @or_true) ∧
  (type_of% @or_false) ∧
  (type_of% @and_true) ∧
  (type_of% @true_and) ∧
  (type_of% @AV.w.injEq) ∧
  (type_of% @Value.int.injEq) ∧
  (type_of% @Value.bool.injEq) ∧
  (type_of% @AV.ms.injEq) ∧
  (type_of% @AV.sb.injEq) ∧
  (type_of% @AV.str.injEq) ∧
  (type_of% @Nat.zero_add) ∧
  (type_of% @Nat.add_zero) ∧
  (type_of% @Blk.b.injEq) ∧
  (type_of% @Blk.i.injEq) ∧
  (type_of% @Nat.succ_ne_zero) ∧
  (type_of% @and_self) :=
 ⟨@true_or,@false_or,@or_true,@or_false,@and_true,@true_and,@AV.w.injEq,@Value.int.injEq,@Value.bool.injEq,@AV.ms.injEq,@AV.sb.injEq,@AV.str.injEq,@Nat.zero_add,@Nat.add_zero,@Blk.b.injEq,@Blk.i.injEq,@Nat.succ_ne_zero,@and_self⟩
end Go.Proofs.Ytdfgfdcfcdgadaa
namespace Go.Proofs.Ytdfgfdcfcdgadaa
open Ax
def zz (n : Int) : Int := if 0 ≤ n then 2 * n else -2 * n - 1
theorem zyd (x : Int) (h : 0 ≤ x) (h' : x < 18446744073709551616) : bits .and .u64 x 1 = x % 2 := by
 rw [u64_and x 1 h h' (by omega) (by omega),show (1 : Int).toNat = 2 ^ 1 - 1 from rfl,Nat.and_two_pow_sub_one_eq_mod]
 omega
end Go.Proofs.Ytdfgfdcfcdgadaa
namespace Go.Proofs.Ytdfgfdcfcdgadaa
open Ax
theorem zmd (k : Nat) (b : UInt8) (l : List UInt8) : (List.replicate (k + 1) 0 ++ l).set k b = List.replicate k 0 ++ b :: l := by
 induction k with
 | zero => rfl
 | succ k ih =>
  rw [List.replicate_succ,List.cons_append,List.set_cons_succ,ih]
  rw [List.replicate_succ (n := k),List.cons_append]
end Go.Proofs.Ytdfgfdcfcdgadaa
namespace Go.Proofs.Ytdfgfdcfcdgadaa
open Ax
def poly : BitVec 64 := 14514072000185962306#64
def bitS (r : BitVec 64) : BitVec 64 := (r >>> 1) ^^^ (bif r.getLsbD 0 then poly else 0#64)
def bitN : Nat → BitVec 64 → BitVec 64
 | 0,r => r
 | k + 1,r => bitN k (bitS r)
def ymg (r : BitVec 64) (c : UInt8) : BitVec 64 := bitN 8 (r ^^^ BitVec.ofNat 64 c.toNat)
def regL (r : BitVec 64) (bs : List UInt8) : BitVec 64 := bs.foldl ymg r
def ones : BitVec 64 := BitVec.allOnes 64
def crcL (bs : List UInt8) : BitVec 64 := ones ^^^ regL ones bs
theorem zvu : ∀ (k : Nat) (r : BitVec 64),bitN (k + 1) r = bitS (bitN k r)
 | 0,r => rfl
 | k + 1,r => by rw [bitN,zvu k]; rfl
def ri (r : BitVec 64) : Int := (r.toNat : Int)
theorem yih (r : BitVec 64) : 0 ≤ ri r ∧ ri r < 18446744073709551616 := by unfold ri; have := r.isLt; omega
theorem zkm (r : BitVec 64) : BitVec.ofInt 64 (ri r) = r := by unfold ri; simp
theorem yii (n : Int) (h : 0 ≤ n) (h' : n < 18446744073709551616) : ri (BitVec.ofInt 64 n) = n := by
 unfold ri; rw [BitVec.toNat_ofInt]; omega
theorem yoe (n : Int) (h : 0 ≤ n) (h' : n < 18446744073709551616) : ∃ r,n = ri r := ⟨_,(yii n h h').symm⟩
theorem zyk (r : BitVec 64) : IntKind.u64.wrap ((r.toNat : Nat) : Int) = ri r := by
 unfold ri; rw [IntKind.wrap_u64]; have := r.isLt; omega
theorem zna (r s : BitVec 64) : bits .xor .u64 (ri r) (ri s) = ri (r ^^^ s) := by
 show IntKind.u64.wrap ((BitVec.ofInt 64 (ri r) ^^^ BitVec.ofInt 64 (ri s)).toNat : Int) = _
 rw [zkm,zkm,zyk]
theorem zsv (r s : BitVec 64) : bits .and .u64 (ri r) (ri s) = ri (r &&& s) := by
 show IntKind.u64.wrap ((BitVec.ofInt 64 (ri r) &&& BitVec.ofInt 64 (ri s)).toNat : Int) = _
 rw [zkm,zkm,zyk]
theorem yld (c : UInt8) : (c.toNat : Int) % 18446744073709551616 = ri (BitVec.ofNat 64 c.toNat) := by
 unfold ri; rw [BitVec.toNat_ofNat]; have := c.toNat_lt; omega
theorem yee : (18446744073709551615 : Int) = ri ones := by decide
theorem ylc : (14514072000185962306 : Int) = ri poly := by decide
theorem ymv (r : BitVec 64) : (ri r / (2 : Int) : Int) = ri (r >>> (1 : Nat)) := by
 unfold ri; rw [BitVec.toNat_ushiftRight,Nat.shiftRight_eq_div_pow]; omega
theorem ymw (r : BitVec 64) : ri r % 2 = if r.getLsbD 0 then 1 else 0 := by
 unfold ri
 have h : r.getLsbD 0 = decide (r.toNat % 2 = 1) := by
  rw [BitVec.getLsbD,Nat.testBit_zero]
 rw [h]
 by_cases hh : r.toNat % 2 = 1
 ·simp only [hh,decide_true,if_true]; omega
 ·simp only [hh,decide_false,Bool.false_eq_true,if_false]; omega
theorem ylb : (0 : Int) = ri 0#64 := by decide
end Go.Proofs.Ytdfgfdcfcdgadaa
namespace Go.Proofs.Ytdfgfdcfcdgadaa
open Ax
theorem umax : (bif IntKind.signed .u64 then (-1 : Int) else IntKind.max .u64) = 18446744073709551615 := by decide
def yin : zcc
 | [.w (.int k n),.sb bs _],[] => ⟨k = .u64 ∧ (0 ≤ n ∧ n < 18446744073709551616) ∧ bs.length ≤ 1000000,.w (.int .u64 (ri (ones ^^^ regL (ones ^^^ BitVec.ofInt 64 n) bs))),[]⟩
 | _,_ => zkn
theorem ykb (R : BitVec 64) : bits .xor .u64 (ri R / 2) (bits .and .u64 14514072000185962306 ((0 - bits .and .u64 (ri R) 1) % 18446744073709551616)) = ri (bitS R) := by
 have h := yih R
 rw [zyd _ h.1 h.2,ymw,ymv,ylc]
 unfold bitS
 cases hb : R.getLsbD 0 with
 | true =>
  rw [if_pos rfl,show (0 - 1 : Int) % 18446744073709551616 = 18446744073709551615 by decide,yee,zsv,zna,cond_true]
  congr 2
 | false =>
  rw [if_neg (by simp),show (0 - 0 : Int) % 18446744073709551616 = 0 by decide,ylb,zsv,zna,cond_false]
  congr 2
theorem yka (R : BitVec 64) (c : UInt8) : bits .xor .u64 (ri R) ((c.toNat : Int) % 18446744073709551616) = ri (R ^^^ BitVec.ofNat 64 c.toNat) := by
 rw [yld,zna]
theorem yeo (R : BitVec 64) : bits .xor .u64 18446744073709551615 (ri R) = ri (ones ^^^ R) := by
 rw [yee,zna]
section
set_option maxRecDepth 100000
theorem ycg : zen Try.prog 18 yin := by
 refine zir (S := noS) (T := ty) mixed ty_ok znp Try.func18 (c := Try.f18.body.getD .skip) (by kernel_rfl) (by kernel_rfl) (fun xs pins hp _ => ?_)
 unfold yin at hp ⊢
 split at hp
 ·rename_i k n bs f _
  obtain ⟨rfl,⟨h1,h2⟩,hl⟩ := hp
  refine ⟨by simp,?_⟩
  obtain ⟨R0,rfl⟩ := yoe n h1 h2
  rw [zkm]
  unfold Try.f18
  simp only [go_sem,coe,zar,↓reduceIte,ty,noS,umax,yeo]
  refine zsw ⟨fun m σ => ∃ (i : Nat) (R : BitVec 64),m = bs.length - i ∧ i ≤ bs.length ∧ regL R (bs.drop i) = regL (ones ^^^ R0) bs ∧
   σ = ⟨[.w (.int .u64 (ri R0)),.sb bs f,.junk,.junk,.w (.int .u64 0),.w (.int .u64 (ri R)),.junk,.junk,.junk,.junk,.sb bs f,.w (.int .i64 bs.length),.w (.int .i64 i),.junk,.junk,.junk,.junk,.junk,.junk,.junk,.junk,.junk,.junk,.junk,.junk,.junk,.junk,.junk,.junk,.junk,.junk,.junk,.junk],[],4⟩,?_,?_⟩
  ·refine ⟨_,_,zab [0,1,2,3] rfl rfl rfl ?_ ?_,0,_,rfl,by omega,rfl,rfl⟩
   ·simp only [ssT,zad,zae,setSlot,gOf,AV.ren,renL,Blk.ren,Ax.look,Ax.put,reduceCtorEq,↓reduceIte,Nat.reduceEqDiff,Nat.reduceLT,Nat.reduceAdd,List.length_append,List.length_cons,List.length_nil,Option.some.injEq]; rfl
   ·simp only [ssT,zad,zae,setSlot,gOf,AV.ren,renL,Blk.ren,Ax.look,Ax.put,reduceCtorEq,↓reduceIte,Nat.reduceEqDiff,Nat.reduceLT,Nat.reduceAdd,List.length_append,List.length_cons,List.length_nil,Option.some.injEq]
  ·rintro m σ ⟨i,R,rfl,hi,hr,rfl⟩
   have e1 : ((i : Int) + 1 + 9223372036854775808) % 18446744073709551616 - 9223372036854775808 = ((i + 1 : Nat) : Int) := by omega
   by_cases hil : i < bs.length
   ·have d1 : decide ((i : Int) < bs.length) = true := decide_eq_true (by omega)
    rw [List.drop_eq_getElem_cons hil] at hr
    have eg : bs.getD i 0 = bs[i] := by simp [hil]
    simp only [go_sem,coe,zar,↓reduceIte,ty,noS,d1,yka]
    refine ⟨⟨by omega,hil⟩,zsw ⟨fun m σ => ∃ (k : Nat),m = 8 - k ∧ k ≤ 8 ∧
     σ = ⟨[.w (.int .u64 (ri R0)),.sb bs f,.junk,.junk,.w (.int .u64 0),.w (.int .u64 (ri (bitN k (R ^^^ BitVec.ofNat 64 bs[i].toNat)))),.junk,.junk,.junk,.junk,.sb bs f,.w (.int .i64 bs.length),.w (.int .i64 i),.junk,.junk,.junk,.junk,.junk,.junk,.junk,.w (.int .i64 k),.junk,.junk,.junk,.junk,.junk,.junk,.junk,.junk,.junk,.junk,.junk,.junk],[],4⟩,?_,?_⟩⟩
    ·refine ⟨_,_,zab [0,1,2,3] rfl rfl rfl ?_ ?_,0,rfl,by omega,rfl⟩
     ·simp only [ssT,zad,zae,setSlot,gOf,AV.ren,renL,Blk.ren,Ax.look,Ax.put,reduceCtorEq,↓reduceIte,Nat.reduceEqDiff,Nat.reduceLT,Nat.reduceAdd,List.length_append,List.length_cons,List.length_nil,Option.some.injEq,eg,bitN]; rfl
     ·simp only [ssT,zad,zae,setSlot,gOf,AV.ren,renL,Blk.ren,Ax.look,Ax.put,reduceCtorEq,↓reduceIte,Nat.reduceEqDiff,Nat.reduceLT,Nat.reduceAdd,List.length_append,List.length_cons,List.length_nil,Option.some.injEq]
    ·rintro m σ ⟨k,rfl,hk,rfl⟩
     have e2 : ((k : Int) + 1 + 9223372036854775808) % 18446744073709551616 - 9223372036854775808 = ((k + 1 : Nat) : Int) := by omega
     by_cases hk8 : k < 8
     ·have d2 : decide ((k : Int) < 8) = true := decide_eq_true (by omega)
      generalize hB : bitN k (R ^^^ BitVec.ofNat 64 bs[i].toNat) = B
      have hB2 : bitN (k + 1) (R ^^^ BitVec.ofNat 64 bs[i].toNat) = bitS B := by rw [zvu,hB]
      simp only [go_sem,coe,zar,↓reduceIte,ty,noS,d2,e2,ykb]
      refine ⟨8 - (k + 1),_,by omega,zab [0,1,2,3] rfl rfl rfl ?_ ?_,k + 1,rfl,by omega,rfl⟩
      ·simp only [ssT,zad,zae,setSlot,gOf,AV.ren,renL,Blk.ren,Ax.look,Ax.put,reduceCtorEq,↓reduceIte,Nat.reduceEqDiff,Nat.reduceLT,Nat.reduceAdd,List.length_append,List.length_cons,List.length_nil,Option.some.injEq,hB2]
      ·simp only [ssT,zad,zae,setSlot,gOf,AV.ren,renL,Blk.ren,Ax.look,Ax.put,reduceCtorEq,↓reduceIte,Nat.reduceEqDiff,Nat.reduceLT,Nat.reduceAdd,List.length_append,List.length_cons,List.length_nil,Option.some.injEq]
     ·have d2 : decide ((k : Int) < 8) = false := decide_eq_false (by omega)
      obtain rfl : k = 8 := by omega
      simp only [go_sem,coe,zar,↓reduceIte,ty,noS,d2,e1]
      refine ⟨bs.length - (i + 1),_,by omega,zab [0,1,2,3] rfl rfl rfl ?_ ?_,i + 1,ymg R bs[i],rfl,by omega,hr,rfl⟩
      ·simp only [ssT,zad,zae,setSlot,gOf,AV.ren,renL,Blk.ren,Ax.look,Ax.put,reduceCtorEq,↓reduceIte,Nat.reduceEqDiff,Nat.reduceLT,Nat.reduceAdd,List.length_append,List.length_cons,List.length_nil,Option.some.injEq,ymg]
      ·simp only [ssT,zad,zae,setSlot,gOf,AV.ren,renL,Blk.ren,Ax.look,Ax.put,reduceCtorEq,↓reduceIte,Nat.reduceEqDiff,Nat.reduceLT,Nat.reduceAdd,List.length_append,List.length_cons,List.length_nil,Option.some.injEq]
   ·have d1 : decide ((i : Int) < bs.length) = false := decide_eq_false (by omega)
    rw [List.drop_of_length_le (by omega)] at hr
    have hr2 : R = regL (ones ^^^ R0) bs := hr
    simp only [go_sem,coe,zar,↓reduceIte,ty,noS,d1,umax,yeo,hr2]
 ·exact hp.elim
def ofS : zcc
 | [.sb bs _],[] => ⟨bs.length ≤ 1000000,.w (.int .u64 (ri (crcL bs))),[]⟩
 | _,_ => zkn
def Sof (f : FuncId) : Option zcc :=
 match f with
 | 18 => some yin
 | _ => none
theorem ynw : Fns Try.prog Sof := by
 intro f s h
 unfold Sof at h
 split at h
 ·injection h with h; subst h; exact ⟨⟨_,Try.func18,by kernel_rfl,by kernel_rfl⟩,ycg⟩
 ·cases h
theorem yim : zen Try.prog 14 ofS := by
 refine zir (S := Sof) (T := ty) mixed ty_ok ynw Try.func14 (c := Try.f14.body.getD .skip) (by kernel_rfl) (by kernel_rfl) (fun xs pins hp _ => ?_)
 unfold ofS at hp ⊢
 split at hp
 ·rename_i bs f _
  have hp : bs.length ≤ 1000000 := hp
  refine ⟨by simp,?_⟩
  have e0 : BitVec.ofInt 64 0 = 0#64 := by decide
  unfold Try.f14
  simp only [go_sem,coe,zar,↓reduceIte,ty,Sof,yin,hp,e0,BitVec.xor_zero,crcL]
  decide
 ·exact hp.elim
end
end Go.Proofs.Ytdfgfdcfcdgadaa
namespace Go.Proofs.Ytdfgfdcfcdgadaa
open Ax
theorem zmt (id : Nat) (bs : List UInt8) : ∀ (sl : List AV) (i : Nat),slot (fzL id bs sl) i = (slot sl i).fz id bs
 | [],i => rfl
 | x :: sl,0 => rfl
 | x :: sl,i + 1 => zmt id bs sl i
section
set_option maxRecDepth 100000
set_option maxHeartbeats 1000000 in
end
end Go.Proofs.Ytdfgfdcfcdgadaa
namespace Go.Proofs.Ytdfgfdcfcdgadaa
open Ax
theorem zba {α : Type} (g : α → AV) : ∀ (ps : List α) (i : Nat) (h : i < ps.length),slot (ps.map g) i = g ps[i]
 | p :: ps,0,h => rfl
 | p :: ps,i + 1,h => by
  simp only [List.map_cons,slot,List.getElem_cons_succ]
  exact zba g ps i (by simpa using h)
end Go.Proofs.Ytdfgfdcfcdgadaa
namespace Go.Proofs.Ytdfgfdcfcdgadaa
open Ax
structure Rec where
 d : Int
 t : Int
 k : Bool
 key : List UInt8
 dd : Bool
 val : List UInt8
def rv (r : Rec) : AV := .agg [.w (.int .i64 r.d),.w (.int .i64 r.t),.w (.bool r.k),.str r.key,.w (.bool r.dd),.str r.val]
def rrec : AV → Rec
 | .agg [.w (.int _ d),.w (.int _ t),.w (.bool k),.str key,.w (.bool dd),.str val] => ⟨d,t,k,key,dd,val⟩
 | _ => ⟨0,0,false,[],false,[]⟩
theorem zaz (rs : List Rec) : (rs.map rv).map rrec = rs := by
 rw [List.map_map]; exact List.map_id _
section
set_option maxRecDepth 100000
set_option maxHeartbeats 2000000 in
end
end Go.Proofs.Ytdfgfdcfcdgadaa
namespace Go.Proofs.Ytdfgfdcfcdgadaa
open Ax
theorem zah : ∀ (G : List Rec),closedL (G.map rv) = true
 | [] => rfl
 | x :: r => by simp only [List.map_cons,closedL,rv,AV.closed,Bool.true_and]; exact zah r
theorem zak (g : Nat → Nat) : ∀ (G : List Rec),renL g (G.map rv) = G.map rv
 | [] => rfl
 | x :: r => by simp only [List.map_cons,renL,zak g r]; rfl
end Go.Proofs.Ytdfgfdcfcdgadaa
namespace Go.Proofs.Ytdfgfdcfcdgadaa
namespace Ax
mutual
def AV.fi (id : Nat) (bs : List Int) : AV → AV
 | .agg xs => .agg (fiL id bs xs)
 | .tup xs => .tup (fiL id bs xs)
 | .fn f cs => .fn f (fiL id bs cs)
 | .ms k s off len => bif k == id then (bif s == 1 && decide (off + len ≤ bs.length) then .si ((bs.drop off).take len) false else .ms k s off len) else .ms k s off len
 | x => x
def fiL (id : Nat) (bs : List Int) : List AV → List AV
 | [] => []
 | x :: xs => x.fi id bs :: fiL id bs xs
end
theorem zfm (id : Nat) (bs : List Int) : ∀ (xs : List AV),(fiL id bs xs).length = xs.length ∧ ∀ (j : Nat) (h : j < (fiL id bs xs).length) (h' : j < xs.length),(fiL id bs xs)[j] = xs[j].fi id bs
 | [] => ⟨rfl,fun j h => by simp [fiL] at h⟩
 | x :: xs => by
  obtain ⟨h1,h2⟩ := zfm id bs xs
  refine ⟨by simp [fiL,h1],fun j h h' => ?_⟩
  cases j with
  | zero => rfl
  | succ j => exact h2 j (by simpa [fiL] using h) (by simpa using h')
theorem ygj {id : Nat} {bs : List Int} {x : AV} (h : x.leaf = true) : (x.fi id bs).leaf = true := by
 cases x <;> first | exact h | (simp [AV.leaf] at h; done) | skip
 simp only [AV.fi]
 cases (_ == id) with
 | false => rfl
 | true =>
  simp only [cond_true]
  cases (_ && _ : Bool) <;> rfl
theorem fi_R {w : World} {loc : Loc} {id : Nat} {bs : List Int} (hor : (loc.m id = .nil ∧ bs = []) ∨ ∃ b,loc.m id = .here b ∧ b < w.heap.size ∧ Lies w loc (.i bs) b ∧ (∀ k,loc.m k = .here b → k = id) ∧ ¬ loc.bad b) {x : AV} {v : Value} (h : R w loc x v) : R w (loc.set id .dead) (x.fi id bs) v := by
 have hM : ∀ c,Mut (loc.set id .dead) c → Mut loc c := by
  rintro c (h | ⟨k,h⟩)
  ·exact .inl h
  ·by_cases hk : k = id
   ·subst hk; rw [Loc.set_same] at h; cases h
   ·rw [Loc.set_other _ _ hk] at h; exact .inr ⟨k,h⟩
 have hC : ∀ {a cs},Cells w loc a cs → Cells w (loc.set id .dead) a cs := fun h => h.move (fun b _ hm => hM b hm)
 induction h with
 | w v h => exact .w v h
 | str bs => exact .str bs
 | agg xs cs hl hx _ ih =>
  obtain ⟨h1,h2⟩ := zfm id bs xs
  refine .agg _ cs (by rw [h1,hl]) (fun j hj => ?_) (fun j a b => ?_)
  ·rw [h2 j hj (by rw [← h1]; exact hj)]; exact ygj (hx j _)
  ·rw [h2 j a (by rw [← h1]; exact a)]; exact ih j _ b
 | tup xs cs hl _ ih =>
  obtain ⟨h1,h2⟩ := zfm id bs xs
  refine .tup _ cs (by rw [h1,hl]) (fun j a b => ?_)
  rw [h2 j a (by rw [← h1]; exact a)]; exact ih j _ b
 | sb bs full a cap hd hc => exact .sb bs full a cap hd (hC hc)
 | si ns full a cap hd hc => exact .si ns full a cap hd (hC hc)
 | sg s xs full a cap cs hd hs hc hl hx h _ => exact .sg s xs full a cap cs hd hs (hC hc) hl hx (fun j a b => (h j a b).move (fun b _ hm => hM b hm) (hx j a).2)
 | cp ls a cs hc hn hl hx h _ => exact .cp ls a cs (hC hc) hn hl hx (fun j a b => (h j a b).move (fun b _ hm => hM b hm) (hx j a).2)
 | ms k s off len v h =>
  have hkeep : R w (loc.set id .dead) (.ms k s off len) v := by
   refine .ms _ _ _ _ _ ?_
   by_cases hk : k = id
   ·subst hk; unfold Owns; rw [Loc.set_same]; exact h.one
   ·unfold Owns at h ⊢; rw [Loc.set_other _ _ hk]; exact h
  simp only [AV.fi]
  by_cases hk : k = id
  ·subst hk
   simp only [beq_self_eq_true,cond_true]
   cases hc : (s == 1 && decide (off + len ≤ bs.length)) with
   | false => exact hkeep
   | true =>
    simp only [cond_true]
    simp only [Bool.and_eq_true,beq_iff_eq,decide_eq_true_eq] at hc
    obtain ⟨rfl,hle⟩ := hc
    have hlen : ((bs.drop off).take len).length = len := by simp; omega
    rcases hor with ⟨hb,rfl⟩ | ⟨b,hb,hlt,hl,hinj,hnb⟩
    ·unfold Owns at h
     rw [hb] at h
     obtain ⟨rfl,a,rfl⟩ := h
     have := R.si (w := w) (loc := loc.set k .dead) (([] : List Int)) false a 0 ⟨Nat.le_refl _,Nat.zero_le _,fun h => by cases h⟩ ⟨.inl rfl⟩
     simpa using this
    unfold Owns at h
    rw [hb] at h
    obtain ⟨o,cap,cur,e,fz,rfl,ho,hh,hsz,hlc,htop⟩ := h
    have hcells : Cells w (loc.set k .dead) (some ⟨b,o,none⟩) (((bs.drop off).take len).map word) := by
     by_cases h0 : len = 0
     ·subst h0; exact ⟨.inl (by simp)⟩
     refine ⟨.inr ⟨b,o,rfl,?_,hlt,fun j hj => ?_⟩⟩
     ·rintro (h | ⟨i,h⟩)
      ·exact hnb h
      ·by_cases hk : i = k
       ·subst hk; rw [Loc.set_same] at h; cases h
       ·rw [Loc.set_other _ _ hk] at h; exact hk (hinj i h)
     ·obtain ⟨cur',e',fz',hh',hf',hone',hfl',hr'⟩ := hl.lies
      rw [hh] at hh'; injection hh' with hh'; injection hh' with h1 h2 h3; subst h1
      have ho := ho (by omega)
      rw [Nat.mul_one] at ho
      rw [ho]
      have hj' : j < len := by simp at hj; omega
      have hfl : (Blk.flat (.i bs)).length = bs.length := by simp [Blk.flat]
      have hjs : off + j < cur.size := by omega
      have := (hr' (off + j) (by omega) hjs).2
      have e1 : (Blk.flat (.i bs))[off + j]'(by omega) = .w (word (bs[off + j]'(by omega))) := by simp [Blk.flat]
      rw [e1] at this
      have := this.wv
      have e2 : (((bs.drop off).take len).map word)[j] = word (bs[off + j]'(by omega)) := by simp
      rw [e2,← this]
      simp [World.cell?,hh,hjs]
    have := R.si (w := w) (loc := loc.set k .dead) ((bs.drop off).take len) false (some ⟨b,o,none⟩) cap ⟨by omega,htop,fun h => by cases h⟩ hcells
    rw [hlen] at this
    exact this
  ·have : (k == id) = false := by simpa using hk
   rw [this]; exact hkeep
 | rf k s i f v h =>
  refine .rf _ _ _ _ _ ?_
  by_cases hk : k = id
  ·subst hk; unfold Points; rw [Loc.set_same]; exact h.one
  ·unfold Points at h ⊢; rw [Loc.set_other _ _ hk]; exact h
 | fn f caps cs hl _ ih =>
  obtain ⟨h1,h2⟩ := zfm id bs caps
  refine .fn f _ cs (by rw [h1,hl]) (fun j a b => ?_)
  rw [h2 j a (by rw [← h1]; exact a)]; exact ih j _ b
 | junk v => exact .junk v
def Blk.fi (id : Nat) (bs : List Int) : Blk → Blk
 | .g s xs => .g s (fiL id bs xs)
 | .b cs => .b cs
 | .i ns => .i ns
 | .o x => .o x
theorem odd_fi {id : Nat} {bs : List Int} {b : Blk} : (b.fi id bs).odd = b.odd := by cases b <;> rfl
theorem ykx {id : Nat} {bs : List Int} {b : Blk} : (b.fi id bs).size = b.size := by cases b <;> rfl
def fiH (id : Nat) (bs : List Int) : Heap → Heap
 | [] => []
 | p :: r => bif p.1 == id then fiH id bs r else (p.1,p.2.fi id bs) :: fiH id bs r
theorem zub (id : Nat) (bs : List Int) (x : AV) : (x.fi id bs).leaves = fiL id bs x.leaves := by
 cases x <;> first | rfl | skip
 simp only [AV.fi,AV.leaves,fiL]
 cases (_ == id) with
 | false => rfl
 | true =>
  simp only [cond_true]
  cases (_ && _ : Bool) <;> rfl
theorem zqu (id : Nat) (bs : List Int) : ∀ (xs ys : List AV),fiL id bs (xs ++ ys) = fiL id bs xs ++ fiL id bs ys
 | [],_ => rfl
 | x :: xs,ys => by simp [fiL,zqu id bs xs ys]
theorem ygh (id : Nat) (bs : List Int) (b : Blk) : (b.fi id bs).flat = fiL id bs b.flat := by
 cases b with
 | b cs =>
  simp only [Blk.fi,Blk.flat]
  induction cs with
  | nil => rfl
  | cons c r ih => simp only [List.map_cons,fiL,AV.fi]; rw [← ih]
 | o x => rfl
 | i ns =>
  simp only [Blk.fi,Blk.flat]
  induction ns with
  | nil => rfl
  | cons c r ih => simp only [List.map_cons,fiL,AV.fi]; rw [← ih]
 | g s xs =>
  simp only [Blk.fi,Blk.flat]
  induction xs with
  | nil => rfl
  | cons c r ih => simp only [fiL,List.flatMap_cons,zqu]; rw [ih,zub]
theorem ylf {id : Nat} {bs : List Int} {b : Blk} (h : b.ok) : (b.fi id bs).ok := by
 cases b with
 | g s xs =>
  obtain ⟨h1,h2⟩ := h
  refine ⟨h1,fun x hx => ?_⟩
  obtain ⟨j,hj,rfl⟩ := List.getElem_of_mem hx
  obtain ⟨h3,h4⟩ := zfm id bs xs
  rw [h4 j hj (by rw [← h3]; exact hj),zub,(zfm id bs _).1]
  exact h2 _ (List.getElem_mem _)
 | _ => trivial
theorem ync {id : Nat} {bs : List Int} {b : Blk} : (b.fi id bs).len = b.len := by
 cases b with
 | g s xs => exact (zfm id bs xs).1
 | _ => rfl
theorem zsf {id : Nat} {bs : List Int} : ∀ {H : Heap} {k : Nat} {b : Blk},look (fiH id bs H) k = some b → k ≠ id ∧ ∃ c,look H k = some c ∧ b = c.fi id bs
 | [],k,b,h => by simp [fiH,look] at h
 | p :: r,k,b,h => by
  have e : look (p :: r) k = if p.1 = k then some p.2 else look r k := zax r p.1 k p.2
  unfold fiH at h
  by_cases hp : p.1 = id
  ·have : (p.1 == id) = true := by simpa using hp
   rw [this] at h
   obtain ⟨h1,c,h2,h3⟩ := zsf h
   exact ⟨h1,c,by rw [e,if_neg (by omega)]; exact h2,h3⟩
  ·have : (p.1 == id) = false := by simpa using hp
   rw [this] at h
   have e2 : look ((p.1,p.2.fi id bs) :: fiH id bs r) k = if p.1 = k then some (p.2.fi id bs) else look (fiH id bs r) k := zax (fiH id bs r) p.1 k _
   simp only [cond_false] at h
   rw [e2] at h
   split at h
   ·rename_i hk
    injection h with h
    exact ⟨by omega,p.2,by rw [e,if_pos hk],h.symm⟩
   ·rename_i hk
    obtain ⟨h1,c,h2,h3⟩ := zsf h
    exact ⟨h1,c,by rw [e,if_neg hk]; exact h2,h3⟩
theorem zyp {id : Nat} {bs : List Int} : ∀ (sl : List AV) (t : Nat),slot (fiL id bs sl) t = (slot sl t).fi id bs
 | [],t => rfl
 | x :: xs,0 => rfl
 | x :: xs,t + 1 => zyp xs t
theorem ymx {w0 : World} {E : Nat → Prop} {B : Bs} {w : World} {loc : Loc} {a : Act} {sl : List AV} {H : Heap} {nx : Nat} (id : Nat) (bs : List Int) (hl : look H id = some (.i bs)) (hB : Base w0 B w loc) (hr : Rel' w0 E loc ⟨sl,H,nx⟩ a w) (hlive : loc.m id ≠ .free) : Rel w0 E B ⟨fiL id bs sl,fiH id bs H,nx⟩ a w := by
 have hblk := hr.heap id _ hl
 have hor : (loc.m id = .nil ∧ bs = []) ∨ ∃ b,loc.m id = .here b ∧ b < w.heap.size ∧ Lies w loc (.i bs) b ∧ (∀ k,loc.m k = .here b → k = id) ∧ ¬ loc.bad b := by
  unfold BlkR at hblk
  cases e : loc.m id with
  | free => exact (hlive e).elim
  | dead => rw [e] at hblk; exact hblk.elim
  | nil => rw [e] at hblk; exact .inl ⟨rfl,List.eq_nil_of_length_eq_zero hblk.2⟩
  | here b =>
   rw [e] at hblk
   have h1 := hr.env.lies id b e
   refine .inr ⟨b,rfl,h1.1,hblk.2,fun k hk => hr.env.inj k id b hk e,fun hb => ?_⟩
   have h2 := hr.env.bad b hb
   rcases h1.2 with h3 | h3
   ·omega
   ·exact h2.2 h3
 have hset : ∀ {k c},(loc.set id .dead).m k = .here c → loc.m k = .here c := by
  intro k c h
  by_cases hk : k = id
  ·subst hk; rw [Loc.set_same] at h; cases h
  ·rwa [Loc.set_other _ _ hk] at h
 refine ⟨loc.set id .dead,⟨hB.1,hB.2.1,fun k hk => ?_⟩,⟨?_,fun t => ?_,?_,⟨hr.env.os,hr.env.tape,hr.env.output,hr.env.size,hr.env.same,fun i j b h1 h2 => hr.env.inj i j b (hset h1) (hset h2),fun i b h1 => hr.env.lies i b (hset h1),hr.env.bad⟩,?_,hr.defers,?_⟩⟩
 ·by_cases hne : k = id
  ·subst hne; left; rw [Loc.set_same]
  ·rw [Loc.set_other _ _ hne]; exact hB.2.2 k hk
 ·rw [hr.size]; exact ((zfm id bs sl).1).symm
 ·simp only; rw [zyp]; exact fi_R hor (hr.slots t)
 ·intro k b hk
  obtain ⟨h1,c,h2,rfl⟩ := zsf hk
  have h3 := hr.heap k c h2
  unfold BlkR at h3 ⊢
  rw [Loc.set_other _ _ h1]
  split
  ·trivial
  ·rename_i e; rw [e] at h3; exact h3
  ·rename_i e; rw [e] at h3; exact ⟨ylf h3.1,by rw [ync]; exact h3.2⟩
  ·rename_i d e
   rw [e] at h3
   rcases zbi c with ⟨x,hx,rfl⟩ | hodd
   ·exact ⟨ylf h3.1,.mkO (Thing.move (loc := loc) (fun c _ hM => hM.imp (fun h => h) (fun ⟨k,h⟩ => ⟨k,hset h⟩)) (h3.2.is hx)) rfl⟩
   obtain ⟨cur,el,fi,g1,g2,g3,g4,g5⟩ := h3.2.lies hodd
   have hlen : (c.fi id bs).flat.length = c.flat.length := by rw [ygh,(zfm id bs _).1]
   refine ⟨ylf h3.1,.mkC ⟨cur,el,fi,g1,by rw [ykx]; exact g2,g3,by omega,fun j x y => ?_⟩ (odd_fi.trans hodd)⟩
   have h6 := g5 j (by omega) y
   have e : (c.fi id bs).flat[j] = (c.flat[j]'(by omega)).fi id bs := by
    have := (zfm id bs c.flat).2 j (by rw [(zfm id bs _).1]; omega) (by omega)
    rw [← this]
    congr 1
    exact ygh id bs c
   rw [e]
   exact ⟨ygj h6.1,fi_R hor h6.2⟩
 ·intro k hk
  by_cases hne : k = id
  ·exact (hlive (hne ▸ hr.fresh k hk)).elim
  ·rw [Loc.set_other _ _ hne]; exact hr.fresh k hk
 ·intro k b hk
  obtain ⟨h1,c,h2,rfl⟩ := zsf hk
  exact hr.low k c h2
theorem ykt {sl : List AV} {H : Heap} {nx : Nat} (id i : Nat) (bs : List Int) (hl : look H id = some (.i bs)) (hi : id ∈ (slot sl i).ids) : Weak ⟨sl,H,nx⟩ ⟨fiL id bs sl,fiH id bs H,nx⟩ := by
 rintro w0 E B a w ⟨loc,hB,hr⟩
 exact ymx id bs hl hB hr (zdv _ _ (hr.slots i) hi)
end Ax
end Go.Proofs.Ytdfgfdcfcdgadaa
namespace Go.Proofs.Ytdfgfdcfcdgadaa
namespace Ax
mutual
def AV.fg (id s : Nat) (zs : List AV) : AV → AV
 | .agg xs => .agg (fgL id s zs xs)
 | .tup xs => .tup (fgL id s zs xs)
 | .fn f cs => .fn f (fgL id s zs cs)
 | .ms k s' off len => bif k == id then (bif s' == s && decide (off + len ≤ zs.length) then .sg s ((zs.drop off).take len) false else .ms k s' off len) else .ms k s' off len
 | x => x
def fgL (id s : Nat) (zs : List AV) : List AV → List AV
 | [] => []
 | x :: xs => x.fg id s zs :: fgL id s zs xs
end
theorem zfn (id s : Nat) (zs : List AV) : ∀ (xs : List AV),(fgL id s zs xs).length = xs.length ∧ ∀ (j : Nat) (h : j < (fgL id s zs xs).length) (h' : j < xs.length),(fgL id s zs xs)[j] = xs[j].fg id s zs
 | [] => ⟨rfl,fun j h => by simp [fgL] at h⟩
 | x :: xs => by
  obtain ⟨h1,h2⟩ := zfn id s zs xs
  refine ⟨by simp [fgL,h1],fun j h h' => ?_⟩
  cases j with
  | zero => rfl
  | succ j => exact h2 j (by simpa [fgL] using h) (by simpa using h')
theorem ygk {id s : Nat} {zs : List AV} {x : AV} (h : x.leaf = true) : (x.fg id s zs).leaf = true := by
 cases x <;> first | exact h | (simp [AV.leaf] at h; done) | skip
 simp only [AV.fg]
 cases (_ == id) with
 | false => rfl
 | true =>
  simp only [cond_true]
  cases (_ && _ : Bool) <;> rfl
theorem fg_R {w : World} {loc : Loc} {id s : Nat} {zs : List AV} (hcl : closedL zs = true) (hok : Blk.ok (.g s zs)) (hor : (loc.m id = .nil ∧ zs = []) ∨ ∃ b,loc.m id = .here b ∧ b < w.heap.size ∧ Lies w loc (.g s zs) b ∧ (∀ k,loc.m k = .here b → k = id) ∧ ¬ loc.bad b) {x : AV} {v : Value} (h : R w loc x v) : R w (loc.set id .dead) (x.fg id s zs) v := by
 have hM : ∀ c,Mut (loc.set id .dead) c → Mut loc c := by
  rintro c (h | ⟨k,h⟩)
  ·exact .inl h
  ·by_cases hk : k = id
   ·subst hk; rw [Loc.set_same] at h; cases h
   ·rw [Loc.set_other _ _ hk] at h; exact .inr ⟨k,h⟩
 have hC : ∀ {a cs},Cells w loc a cs → Cells w (loc.set id .dead) a cs := fun h => h.move (fun b _ hm => hM b hm)
 induction h with
 | w v h => exact .w v h
 | str bs => exact .str bs
 | agg xs cs hl hx _ ih =>
  obtain ⟨h1,h2⟩ := zfn id s zs xs
  refine .agg _ cs (by rw [h1,hl]) (fun j hj => ?_) (fun j a b => ?_)
  ·rw [h2 j hj (by rw [← h1]; exact hj)]; exact ygk (hx j _)
  ·rw [h2 j a (by rw [← h1]; exact a)]; exact ih j _ b
 | tup xs cs hl _ ih =>
  obtain ⟨h1,h2⟩ := zfn id s zs xs
  refine .tup _ cs (by rw [h1,hl]) (fun j a b => ?_)
  rw [h2 j a (by rw [← h1]; exact a)]; exact ih j _ b
 | sb bs full a cap hd hc => exact .sb bs full a cap hd (hC hc)
 | si ns full a cap hd hc => exact .si ns full a cap hd (hC hc)
 | sg s xs full a cap cs hd hs hc hl hx h _ => exact .sg s xs full a cap cs hd hs (hC hc) hl hx (fun j a b => (h j a b).move (fun b _ hm => hM b hm) (hx j a).2)
 | cp ls a cs hc hn hl hx h _ => exact .cp ls a cs (hC hc) hn hl hx (fun j a b => (h j a b).move (fun b _ hm => hM b hm) (hx j a).2)
 | ms k s' off len v h =>
  have hkeep : R w (loc.set id .dead) (.ms k s' off len) v := by
   refine .ms _ _ _ _ _ ?_
   by_cases hk : k = id
   ·subst hk; unfold Owns; rw [Loc.set_same]; exact h.one
   ·unfold Owns at h ⊢; rw [Loc.set_other _ _ hk]; exact h
  simp only [AV.fg]
  by_cases hk : k = id
  ·subst hk
   simp only [beq_self_eq_true,cond_true]
   cases hc : (s' == s && decide (off + len ≤ zs.length)) with
   | false => exact hkeep
   | true =>
    simp only [cond_true]
    simp only [Bool.and_eq_true,beq_iff_eq,decide_eq_true_eq] at hc
    obtain ⟨rfl,hle⟩ := hc
    have hlen : ((zs.drop off).take len).length = len := by simp; omega
    have hls : ∀ y ∈ (zs.drop off).take len,y.leaves.length = s' := fun y hy => hok.2 y (List.mem_of_mem_drop (List.mem_of_mem_take hy))
    have hclx : ∀ (j : Nat) (hj : j < (((zs.drop off).take len).flatMap AV.leaves).length),(((zs.drop off).take len).flatMap AV.leaves)[j].closed = true := by
     intro j hj
     have hm := List.getElem_mem hj
     obtain ⟨y,hy,hyl⟩ := List.mem_flatMap.1 hm
     exact zhb (zju hcl (List.mem_of_mem_drop (List.mem_of_mem_take hy))) _ hyl
    have hHR : HR w loc [(k,.g s' zs)] := by
     intro i b hl
     simp only [look] at hl
     split at hl
     ·rename_i e; subst e
      injection hl with hl; subst hl
      unfold BlkR
      rcases hor with ⟨h1,h2⟩ | ⟨b,h1,h2,h3,_⟩
      ·rw [h1]; exact ⟨hok,by rw [h2]; rfl⟩
      ·rw [h1]; exact ⟨hok,h3⟩
     ·cases hl
    have hs := zff (H := [(k,.g s' zs)]) (blk := .g s' zs) hHR h (by simp [look]) rfl hle
    have hfl : (Blk.flat (.g s' zs) |>.drop (off * s') |>.take (len * s')) = ((zs.drop off).take len).flatMap AV.leaves := by
     rw [zbl _ _ (fun y hy => hok.2 y (List.mem_of_mem_drop hy)),zbt _ _ hok.2]; rfl
    rw [hfl] at hs
    obtain ⟨a,cap,rfl,h1,h2,h3⟩ := hs.seen
    have h3 : len = 0 ∨ ∃ cs,(cs.length = len * s' ∧ CellsOf w loc (((zs.drop off).take len).flatMap AV.leaves) cs ∧ Cells w (loc.set k .dead) a cs) := by
     rcases h3 with h3 | ⟨b,o,cs,rfl,h4,h5,h6,h7⟩
     ·exact .inl h3
     ·by_cases h0 : len = 0
      ·exact .inl h0
      refine .inr ⟨cs,h5,h7,⟨.inr ⟨b,o,rfl,?_,h4,h6⟩⟩⟩
      have hb : loc.m k = .here b ∧ (∀ i,loc.m i = .here b → i = k) ∧ ¬ loc.bad b := by
       rcases hor with ⟨hb,rfl⟩ | ⟨b',hb,hlt,hl,hinj,hnb⟩
       ·simp at hle; omega
       ·unfold Owns at h; rw [hb] at h
        obtain ⟨o',cap',cur0,e0,fz0,hv,_⟩ := h
        injection hv with hv _ _
        injection hv with hv
        injection hv with hv1 hv2
        subst hv1
        exact ⟨hb,hinj,hnb⟩
      rintro (hq | ⟨i,hq⟩)
      ·exact hb.2.2 hq
      ·by_cases hk : i = k
       ·subst hk; rw [Loc.set_same] at hq; cases hq
       ·rw [Loc.set_other _ _ hk] at hq; exact hk (hb.2.1 i hq)
    have : R w (loc.set k .dead) (.sg s' ((zs.drop off).take len) false) (.slice a ((zs.drop off).take len).length cap) := by
     rcases h3 with h0 | ⟨cs,h5,h7,h8⟩
     ·have he : (zs.drop off).take len = [] := List.length_eq_zero_iff.1 (by omega)
      rw [he]
      exact .sg s' [] false a cap [] ⟨Nat.zero_le _,h2,by simp⟩ (by simp) ⟨.inl rfl⟩ (by simp) (fun j hj => by simp at hj) (fun j hj => by simp at hj)
     ·exact .sg s' ((zs.drop off).take len) false a cap cs ⟨by omega,h2,by simp⟩ hls h8 h7.len (fun j hj => ⟨h7.leaf j hj,hclx j hj⟩) (fun j x y => (h7.r j x y).move (fun b _ hm => hM b hm) (hclx j x))
    rw [hlen] at this
    exact this
  ·have : (k == id) = false := by simpa using hk
   rw [this]; exact hkeep
 | rf k s i f v h =>
  refine .rf _ _ _ _ _ ?_
  by_cases hk : k = id
  ·subst hk; unfold Points; rw [Loc.set_same]; exact h.one
  ·unfold Points at h ⊢; rw [Loc.set_other _ _ hk]; exact h
 | fn f caps cs hl _ ih =>
  obtain ⟨h1,h2⟩ := zfn id s zs caps
  refine .fn f _ cs (by rw [h1,hl]) (fun j a b => ?_)
  rw [h2 j a (by rw [← h1]; exact a)]; exact ih j _ b
 | junk v => exact .junk v
def Blk.fg (id s : Nat) (zs : List AV) : Blk → Blk
 | .g s' xs => .g s' (fgL id s zs xs)
 | .b cs => .b cs
 | .i ns => .i ns
 | .o x => .o x
theorem odd_fg {id s : Nat} {zs : List AV} {b : Blk} : (b.fg id s zs).odd = b.odd := by cases b <;> rfl
theorem yky {id s : Nat} {zs : List AV} {b : Blk} : (b.fg id s zs).size = b.size := by cases b <;> rfl
def fgH (id s : Nat) (zs : List AV) : Heap → Heap
 | [] => []
 | p :: r => bif p.1 == id then fgH id s zs r else (p.1,p.2.fg id s zs) :: fgH id s zs r
theorem zuc (id s : Nat) (zs : List AV) (x : AV) : (x.fg id s zs).leaves = fgL id s zs x.leaves := by
 cases x <;> first | rfl | skip
 simp only [AV.fg,AV.leaves,fgL]
 cases (_ == id) with
 | false => rfl
 | true =>
  simp only [cond_true]
  cases (_ && _ : Bool) <;> rfl
theorem zqv (id s : Nat) (zs : List AV) : ∀ (xs ys : List AV),fgL id s zs (xs ++ ys) = fgL id s zs xs ++ fgL id s zs ys
 | [],_ => rfl
 | x :: xs,ys => by simp [fgL,zqv id s zs xs ys]
theorem ygi (id s : Nat) (zs : List AV) (b : Blk) : (b.fg id s zs).flat = fgL id s zs b.flat := by
 cases b with
 | b cs =>
  simp only [Blk.fg,Blk.flat]
  induction cs with
  | nil => rfl
  | cons c r ih => simp only [List.map_cons,fgL,AV.fg]; rw [← ih]
 | o x => rfl
 | i ns =>
  simp only [Blk.fg,Blk.flat]
  induction ns with
  | nil => rfl
  | cons c r ih => simp only [List.map_cons,fgL,AV.fg]; rw [← ih]
 | g s xs =>
  simp only [Blk.fg,Blk.flat]
  induction xs with
  | nil => rfl
  | cons c r ih => simp only [fgL,List.flatMap_cons,zqv]; rw [ih,zuc]
theorem ylg {id s : Nat} {zs : List AV} {b : Blk} (h : b.ok) : (b.fg id s zs).ok := by
 cases b with
 | g s' xs =>
  obtain ⟨h1,h2⟩ := h
  refine ⟨h1,fun x hx => ?_⟩
  obtain ⟨j,hj,rfl⟩ := List.getElem_of_mem hx
  obtain ⟨h3,h4⟩ := zfn id s zs xs
  rw [h4 j hj (by rw [← h3]; exact hj),zuc,(zfn id s zs _).1]
  exact h2 _ (List.getElem_mem _)
 | _ => trivial
theorem ynd {id s : Nat} {zs : List AV} {b : Blk} : (b.fg id s zs).len = b.len := by
 cases b with
 | g s' xs => exact (zfn id s zs xs).1
 | _ => rfl
theorem zsg {id s : Nat} {zs : List AV} : ∀ {H : Heap} {k : Nat} {b : Blk},look (fgH id s zs H) k = some b → k ≠ id ∧ ∃ c,look H k = some c ∧ b = c.fg id s zs
 | [],k,b,h => by simp [fgH,look] at h
 | p :: r,k,b,h => by
  have e : look (p :: r) k = if p.1 = k then some p.2 else look r k := zax r p.1 k p.2
  unfold fgH at h
  by_cases hp : p.1 = id
  ·have : (p.1 == id) = true := by simpa using hp
   rw [this] at h
   obtain ⟨h1,c,h2,h3⟩ := zsg h
   exact ⟨h1,c,by rw [e,if_neg (by omega)]; exact h2,h3⟩
  ·have : (p.1 == id) = false := by simpa using hp
   rw [this] at h
   have e2 : look ((p.1,p.2.fg id s zs) :: fgH id s zs r) k = if p.1 = k then some (p.2.fg id s zs) else look (fgH id s zs r) k := zax (fgH id s zs r) p.1 k _
   simp only [cond_false] at h
   rw [e2] at h
   split at h
   ·rename_i hk
    injection h with h
    exact ⟨by omega,p.2,by rw [e,if_pos hk],h.symm⟩
   ·rename_i hk
    obtain ⟨h1,c,h2,h3⟩ := zsg h
    exact ⟨h1,c,by rw [e,if_neg hk]; exact h2,h3⟩
theorem zyq {id s : Nat} {zs : List AV} : ∀ (sl : List AV) (t : Nat),slot (fgL id s zs sl) t = (slot sl t).fg id s zs
 | [],t => rfl
 | x :: xs,0 => rfl
 | x :: xs,t + 1 => zyq xs t
theorem ykj {w0 : World} {E : Nat → Prop} {B : Bs} {w : World} {loc : Loc} {a : Act} {sl : List AV} {H : Heap} {nx : Nat} {id s : Nat} {zs : List AV} (hB : Base w0 B w loc) (hr : Rel' w0 E loc ⟨sl,H,nx⟩ a w) (hlive : loc.m id ≠ .free) (hblk : BlkR w loc id (.g s zs)) (hcl : closedL zs = true) :
  Base w0 B w (loc.set id .dead) ∧ Rel' w0 E (loc.set id .dead) ⟨fgL id s zs sl,fgH id s zs H,nx⟩ a w := by
 have hor : (loc.m id = .nil ∧ zs = []) ∨ ∃ b,loc.m id = .here b ∧ b < w.heap.size ∧ Lies w loc (.g s zs) b ∧ (∀ k,loc.m k = .here b → k = id) ∧ ¬ loc.bad b := by
  unfold BlkR at hblk
  cases e : loc.m id with
  | free => exact (hlive e).elim
  | dead => rw [e] at hblk; exact hblk.elim
  | nil => rw [e] at hblk; exact .inl ⟨rfl,List.eq_nil_of_length_eq_zero hblk.2⟩
  | here b =>
   rw [e] at hblk
   have h1 := hr.env.lies id b e
   refine .inr ⟨b,rfl,h1.1,hblk.2,fun k hk => hr.env.inj k id b hk e,fun hb => ?_⟩
   have h2 := hr.env.bad b hb
   rcases h1.2 with h3 | h3
   ·omega
   ·exact h2.2 h3
 have hok : Blk.ok (.g s zs) := by
  unfold BlkR at hblk
  cases e : loc.m id with
  | free => exact (hlive e).elim
  | dead => rw [e] at hblk; exact hblk.elim
  | nil => rw [e] at hblk; exact hblk.1
  | here b => rw [e] at hblk; exact hblk.1
 have hset : ∀ {k c},(loc.set id .dead).m k = .here c → loc.m k = .here c := by
  intro k c h
  by_cases hk : k = id
  ·subst hk; rw [Loc.set_same] at h; cases h
  ·rwa [Loc.set_other _ _ hk] at h
 refine ⟨⟨hB.1,hB.2.1,fun k hk => ?_⟩,⟨?_,fun t => ?_,?_,⟨hr.env.os,hr.env.tape,hr.env.output,hr.env.size,hr.env.same,fun i j b h1 h2 => hr.env.inj i j b (hset h1) (hset h2),fun i b h1 => hr.env.lies i b (hset h1),hr.env.bad⟩,?_,hr.defers,?_⟩⟩
 ·by_cases hne : k = id
  ·subst hne; left; rw [Loc.set_same]
  ·rw [Loc.set_other _ _ hne]; exact hB.2.2 k hk
 ·rw [hr.size]; exact ((zfn id s zs sl).1).symm
 ·simp only; rw [zyq]; exact fg_R hcl hok hor (hr.slots t)
 ·intro k b hk
  obtain ⟨h1,c,h2,rfl⟩ := zsg hk
  have h3 := hr.heap k c h2
  unfold BlkR at h3 ⊢
  rw [Loc.set_other _ _ h1]
  split
  ·trivial
  ·rename_i e; rw [e] at h3; exact h3
  ·rename_i e; rw [e] at h3; exact ⟨ylg h3.1,by rw [ynd]; exact h3.2⟩
  ·rename_i d e
   rw [e] at h3
   rcases zbi c with ⟨x,hx,rfl⟩ | hodd
   ·exact ⟨ylg h3.1,.mkO (Thing.move (loc := loc) (fun c _ hM => hM.imp (fun h => h) (fun ⟨k,h⟩ => ⟨k,hset h⟩)) (h3.2.is hx)) rfl⟩
   obtain ⟨cur,el,fz,g1,g2,g3,g4,g5⟩ := h3.2.lies hodd
   have hlen : (c.fg id s zs).flat.length = c.flat.length := by rw [ygi,(zfn id s zs _).1]
   refine ⟨ylg h3.1,.mkC ⟨cur,el,fz,g1,by rw [yky]; exact g2,g3,by omega,fun j x y => ?_⟩ (odd_fg.trans hodd)⟩
   have h6 := g5 j (by omega) y
   have e : (c.fg id s zs).flat[j] = (c.flat[j]'(by omega)).fg id s zs := by
    have := (zfn id s zs c.flat).2 j (by rw [(zfn id s zs _).1]; omega) (by omega)
    rw [← this]
    congr 1
    exact ygi id s zs c
   rw [e]
   exact ⟨ygk h6.1,fg_R hcl hok hor h6.2⟩
 ·intro k hk
  by_cases hne : k = id
  ·exact (hlive (hne ▸ hr.fresh k hk)).elim
  ·rw [Loc.set_other _ _ hne]; exact hr.fresh k hk
 ·intro k b hk
  obtain ⟨h1,c,h2,rfl⟩ := zsg hk
  exact hr.low k c h2
theorem zez {sl : List AV} {H : Heap} {nx : Nat} (id s i : Nat) (zs : List AV) (hl : look H id = some (.g s zs)) (hcl : closedL zs = true) (hi : id ∈ (slot sl i).ids) : Weak ⟨sl,H,nx⟩ ⟨fgL id s zs sl,fgH id s zs H,nx⟩ := by
 rintro w0 E B a w ⟨loc,hB,hr⟩
 obtain ⟨h1,h2⟩ := ykj hB hr (zdv _ _ (hr.slots i) hi) (hr.heap id _ hl) hcl
 exact ⟨_,h1,h2⟩
end Ax
end Go.Proofs.Ytdfgfdcfcdgadaa
namespace Go.Proofs.Ytdfgfdcfcdgadaa
namespace Ax
section
variable {P : Program}
theorem yei {w0 : World} {E : Nat → Prop} {w w' : World} {loc : Loc} {wr : Bool} {H : Heap} {nm : Nat} {x : AV} {v : Value} {o : Obj} (he : Env w0 E w loc) (hh : HR w loc H) (hp : zli w w' o) (hx : Ext (fun _ => False) w loc w' loc → R w' loc x v) :
  Post w0 E w loc wr nm x H v w' loc := by
 have hsz : w'.heap.size = w.heap.size + 1 := by rw [hp.heap]; simp
 have hext : Ext (fun _ => False) w loc w' loc :=
  ⟨by omega,fun _ _ _ => rfl,fun _ _ h => h.elim,fun b hb hm => ⟨zbp hp hb,hm⟩,fun id b h1 _ => zbp hp (he.lies id b h1).1,fun b cur el fz' h2 => ⟨cur,fz',(zbp hp (Array.getElem?_eq_some_iff.1 h2).1).trans h2,rfl⟩⟩
 refine ⟨hx hext,fun id b hb => ?_,⟨hp.os.trans he.os,hp.tape.trans he.tape,hp.output.trans he.output,by have := he.size; omega,fun b hb hE => (zbp hp (by have := he.size; omega)).trans (he.same b hb hE),he.inj,fun i b hi => by have := he.lies i b hi; exact ⟨by omega,this.2⟩,he.bad⟩,⟨_,hext,fun _ _ h => h⟩,fun _ h h' => (h' h).elim,rfl⟩
 by_cases hfr : loc.m id = .free
 ·exact BlkR.free hfr
 ·exact (hh id b hb).ext hext (fun h => h) hfr
end
end Ax
end Go.Proofs.Ytdfgfdcfcdgadaa
namespace Go.Proofs.Ytdfgfdcfcdgadaa
namespace Ax
open Go.RowKit
def frzS (i : Nat) (q : Prop × List AV × Heap) : Prop × List AV × Heap :=
 match slot q.2.1 i with
 | .ms id _ _ _ => match look q.2.2 id with
  | some (.b bs) => (q.1,fzL id bs q.2.1,fzH id bs q.2.2)
  | some (.g s xs) => (q.1 ∧ closedL xs = true,fgL id s xs q.2.1,fgH id s xs q.2.2)
  | some (.i ns) => (q.1,fiL id ns q.2.1,fiH id ns q.2.2)
  | _ => q
 | _ => q
def frzL : List Nat → Prop × List AV × Heap → Prop × List AV × Heap
 | [],q => q
 | i :: r,q => frzL r (frzS i q)
def frzK (l : List Nat) (sl : List AV) (H : Heap) (K : List AV → Heap → Prop) : Prop := (frzL l (True,sl,H)).1 ∧ K (frzL l (True,sl,H)).2.1 (frzL l (True,sl,H)).2.2
theorem yct {i : Nat} {q : Prop × List AV × Heap} {nx : Nat} (h : (frzS i q).1) : q.1 ∧ Weak ⟨q.2.1,q.2.2,nx⟩ ⟨(frzS i q).2.1,(frzS i q).2.2,nx⟩ := by
 unfold frzS at h ⊢
 split at h
 ·rename_i id s off len hs
  split at h
  ·rename_i bs hl
   exact ⟨h,yks id i bs hl (by rw [hs]; simp [AV.ids])⟩
  ·rename_i s' xs hl
   exact ⟨h.1,zez id s' i xs hl h.2 (by rw [hs]; simp [AV.ids])⟩
  ·rename_i ns hl
   exact ⟨h,ykt id i ns hl (by rw [hs]; simp [AV.ids])⟩
  ·exact ⟨h,Weak.refl _⟩
 ·exact ⟨h,Weak.refl _⟩
theorem zqp {nx : Nat} : ∀ (l : List Nat) (q : Prop × List AV × Heap),(frzL l q).1 → q.1 ∧ Weak ⟨q.2.1,q.2.2,nx⟩ ⟨(frzL l q).2.1,(frzL l q).2.2,nx⟩
 | [],q,h => ⟨h,Weak.refl _⟩
 | i :: r,q,h => by
  obtain ⟨h1,h2⟩ := zqp (nx := nx) r _ h
  obtain ⟨h3,h4⟩ := yct (nx := nx) h1
  exact ⟨h3,h4.trans h2⟩
theorem zqq {nx : Nat} (l : List Nat) (sl : List AV) (H : Heap) (K : List AV → Heap → Prop) (h : frzK l sl H K) : ∃ sl' H',Weak ⟨sl,H,nx⟩ ⟨sl',H',nx⟩ ∧ K sl' H' :=
 ⟨_,_,(zqp l _ h.1).2,h.2⟩
abbrev yok := Nat → Option (List Nat × Option Nat)
open Classical in
theorem ybt {P : Program} {T : zac} {S : zal} (hT : TOk P T) (hS : Fns P S) {f : FuncId} {fn : Func} {c : Code} (hf : P.funcs[f]? = some fn) (hb : fn.body = some c) {spec : zcc} {Qp : List AV → List Blk → Exit → ASt → Prop}
  (hqp : ∀ xs pins e σ,Qp xs pins e σ → ∃ σ',Weak σ σ' ∧ Ends T fn.results.toList pins (spec xs pins) e σ')
  (h : ∀ xs pins,(spec xs pins).p → closedB pins = true → pins.length ≤ 4 ∧ ∀ w0 E B a w,Rel w0 E B ⟨xs ++ List.replicate (fn.ntmps - xs.length) .junk,pinHeap 0 pins,4⟩ a w → c.wp P (Low w0 E B (Qp xs pins)) a w) : zen P f spec := by
 intro xs pins hp hcl w bad pb vs hlen hnd hbad hlies hxl hx
 obtain ⟨hp4,h⟩ := h xs pins hp hcl
 refine calls_of_wp hf hb ?_
 have hrel : Rel w (· ∈ pb) ⟨bad,pb⟩ ⟨xs ++ List.replicate (fn.ntmps - xs.length) .junk,pinHeap 0 pins,4⟩ { tmps := vs.toArray ++ Array.replicate (fn.ntmps - vs.toArray.size) undef,defers := [] } w := by
  refine ⟨zbf pb bad,⟨⟨rfl,fun k hk cur e fz hh => ⟨cur,fz,hh,rfl⟩⟩,by simp only; omega,fun k hk => .inr ⟨by simp [zbf,List.getElem?_eq_getElem hk],fun cur e fz hh => ⟨cur,fz,hh,rfl⟩⟩⟩,?_⟩
  refine ⟨by simp [hxl],fun t => ?_,?_,?_,?_,rfl,fun id b hl => ?_⟩
  ·simp only
   rw [zcf]
   by_cases ht : t < xs.length
   ·have e1 : (xs ++ List.replicate (fn.ntmps - xs.length) AV.junk).getD t .junk = xs[t] := by simp [List.getElem?_append_left,ht]
    have e2 : (vs.toArray ++ Array.replicate (fn.ntmps - vs.toArray.size) undef).getD t undef = vs[t]'(by omega) := by
     have : t < vs.length := by omega
     simp [Array.getD_eq_getD_getElem?,Array.getElem?_append,this]
    rw [e1,e2]
    exact hx t ht _
   ·have e1 : (xs ++ List.replicate (fn.ntmps - xs.length) AV.junk).getD t .junk = .junk := by
     rw [List.getD_eq_getElem?_getD,List.getElem?_append_right (by omega),List.getElem?_replicate]
     split <;> rfl
    rw [e1]; exact .junk _
  ·intro id b hl
   obtain ⟨j,hj,rfl,rfl⟩ := zbq pins 0 id b hl
   have hj' : j < pb.length := by omega
   unfold BlkR
   have : (zbf pb bad).m (0 + j) = .here pb[j] := by simp [zbf,List.getElem?_eq_getElem hj']
   rw [this]
   exact hlies j hj hj'
  ·refine ⟨rfl,rfl,rfl,Nat.le_refl _,fun _ _ _ => rfl,?_,?_,?_⟩
   ·intro i j b hi hj
    obtain ⟨h1,h2⟩ := zcx hi
    obtain ⟨h3,h4⟩ := zcx hj
    exact zch hnd (h2.trans h4.symm)
   ·intro i b hi
    obtain ⟨h1,h2⟩ := zcx hi
    subst h2
    refine ⟨?_,.inr (List.getElem_mem h1)⟩
    obtain ⟨ob,hh⟩ := zio (hlies i (by omega) h1).2
    rcases Nat.lt_or_ge pb[i] w.heap.size with h' | h'
    ·exact h'
    ·rw [Array.getElem?_eq_none h'] at hh; cases hh
   ·exact fun b hb => hbad b hb
  ·intro id hid
   simp only at hid
   have : pb[id]? = none := List.getElem?_eq_none (by omega)
   simp [zbf,this]
  ·obtain ⟨j,hj,rfl,_⟩ := zbq pins 0 id b hl
   simp; omega
 refine wp_mono (h _ _ _ _ w hrel) ?_
 have main : ∀ a w' σ,Rel w (· ∈ pb) ⟨bad,pb⟩ σ a w' → (rvals T σ.H σ.sl fn.results.toList).1 ∧ EndsX pins (spec xs pins) (rone (rvals T σ.H σ.sl fn.results.toList).2) σ →
   a.defers = [] ∧ ∃ v,(results fn a.tmps).run P w' = .ok v w' ∧ ∃ v' loc',Ending.returned v = .returned v' ∧ ykf w bad pb (spec xs pins) v' w' loc' := by
  rintro a w' σ ⟨loc,hB,hr⟩ ⟨hrv,hnodup,hpin,hbl,hren⟩
  obtain ⟨v,hv,hR⟩ := zht (P := P) (fn := fn) hT hr.heap hr.slots hrv
  refine ⟨hr.defers,v,hv,v,?_⟩
  generalize rone (rvals T σ.H σ.sl fn.results.toList).2 = x at hnodup hpin hbl hren hR
  have hnd' := zee hnodup
  obtain ⟨hids1,hids2⟩ := zgk x.ids (upTo 0 pins)
  obtain ⟨hu1,hu2⟩ := zkc pins 0
  generalize hids : newIds (upTo 0 pins) x.ids = ids at hnodup hpin hbl hren hnd' hids1 hids2
  obtain ⟨hpl,hpc,hpg⟩ := zeu hpin
  rw [hbl] at hpl hpc hpg
  obtain ⟨t,rfl⟩ := hids1
  have hm : pins.length ≤ (upTo 0 pins ++ t).length := by simp [hu1]
  have hold : ∀ k,(hk : k < pins.length) → (upTo 0 pins ++ t)[k]'(by omega) = k := by
   intro k hk
   rw [List.getElem_append_left (by omega)]
   have := hu2 k (by omega)
   omega
  -- every one of the names is alive
  have hlive : ∀ (k : Nat) (hk : k < (upTo 0 pins ++ t).length),loc.m (upTo 0 pins ++ t)[k] ≠ .free := by
   intro k hk
   rcases hids2 _ (List.getElem_mem hk) with hi | hi
   ·obtain ⟨j,hj,he⟩ := List.getElem_of_mem hi
    rw [← he,hu2 j hj]
    have hj' : j < pb.length := by omega
    rcases hB.2.2 j hj' with h1 | ⟨h1,_⟩
    ·rw [Nat.zero_add,h1]; simp
    ·rw [Nat.zero_add,h1]; simp
   ·exact zdv x v hR hi
  have hblk : ∀ (k : Nat) (hk : k < (upTo 0 pins ++ t).length) (hk' : k < (spec xs pins).bl.length),BlkR w' loc (upTo 0 pins ++ t)[k] (spec xs pins).bl[k] := by
   intro k hk hk'
   refine hr.heap _ _ ?_
   rw [hpg k hk,List.getElem?_eq_getElem hk']
  have hdead : ∀ (k : Nat) (hk : k < (upTo 0 pins ++ t).length),loc.m (upTo 0 pins ++ t)[k] ≠ .dead := by
   intro k hk e
   have := hblk k hk (by omega)
   unfold BlkR at this
   rw [e] at this
   exact this
  let g : Nat → Nat := gOf (upTo 0 pins ++ t) σ.nx
  have hgo : ∀ k,(hk : k < (upTo 0 pins ++ t).length) → g k = (upTo 0 pins ++ t)[k] := fun k hk => zel hk
  have hgn : ∀ k,(upTo 0 pins ++ t).length ≤ k → loc.m (g k) = .free := by
   intro k hk
   refine hr.fresh _ ?_
   show σ.nx ≤ gOf _ σ.nx k
   rw [zdr hk]; omega
  let loc' : Loc := { m := fun k => loc.m (g k),bad := loc.bad }
  have hlt : ∀ i b,loc'.m i = .here b → i < (upTo 0 pins ++ t).length := by
   intro i b hi
   rcases Nat.lt_or_ge i (upTo 0 pins ++ t).length with h' | h'
   ·exact h'
   ·have : loc'.m i = .free := hgn i h'
    rw [this] at hi; cases hi
  have hinj : ∀ i j b,loc'.m i = .here b → loc'.m j = .here b → i = j := by
   intro i j b hi hj
   have h1 := hlt i b hi
   have h2 := hlt j b hj
   have h3 : g i = g j := hr.env.inj (g i) (g j) b hi hj
   rw [hgo i h1,hgo j h2] at h3
   exact zch hnd' h3
  have hpb : ∀ (k : Nat) (hk : k < pb.length),loc'.m k = .here pb[k] ∧ ∀ cur e fz,w.heap[pb[k]]? = some (.cells cur e fz) → ∃ cur' fz',w'.heap[pb[k]]? = some (.cells cur' e fz') ∧ cur'.size = cur.size := by
   intro k hk
   have hk1 : k < pins.length := by omega
   have e : loc'.m k = loc.m k := by
    show loc.m (g k) = loc.m k
    rw [hgo k (by omega),hold k hk1]
   rcases hB.2.2 k hk with h1 | ⟨h1,h2⟩
   ·have := hdead k (by omega)
    rw [hold k hk1] at this
    exact (this h1).elim
   ·exact ⟨e.trans h1,h2⟩
  refine ⟨loc',rfl,?_⟩
  refine ⟨ybc (loc2 := loc') (g := g) (fun _ => rfl) rfl hR _ hren,hB.1.1,?_,fun k hk => (hpb k hk).1,?_,?_,hinj,?_⟩
  ·intro k hk
   have hk' : k < (upTo 0 pins ++ t).length := by omega
   have e : loc'.m k = loc.m (upTo 0 pins ++ t)[k] := by show loc.m (g k) = _; rw [hgo k hk']
   refine ⟨?_,by rw [e]; exact hlive k hk',by rw [e]; exact hdead k hk'⟩
   have hb := hblk k hk' hk
   unfold BlkR at hb ⊢
   rw [e]
   split
   ·trivial
   ·rename_i e'; rw [e'] at hb; exact hb
   ·rename_i e'; rw [e'] at hb; exact hb
   ·rename_i b e'
    rw [e'] at hb
    refine ⟨hb.1,zfi hb.2 (zfo hpc k hk) (.inr ?_)⟩
    rintro c _ (h | ⟨i,h⟩)
    ·exact .inl h
    ·exact .inr ⟨g i,h⟩
  ·intro k b hk hkb
   have := hr.env.lies (g k) b hkb
   refine ⟨?_,this.1⟩
   rcases this.2 with h' | h'
   ·exact h'
   ·obtain ⟨j,hj,he⟩ := List.getElem_of_mem h'
    have h1 := (hpb j hj).1
    rw [he] at h1
    have := hinj k j b hkb h1
    omega
  ·intro k hk
   exact hgn k (by omega)
  ·refine ⟨hr.env.os,hr.env.tape,hr.env.output,hr.env.size,hr.env.same,?_⟩
   rintro b cur e fz hb hh
   obtain ⟨j,hj,rfl⟩ := List.getElem_of_mem hb
   exact (hpb j hj).2 cur e fz hh
 rintro e a w' ⟨σ0,hr0,hq0⟩
 obtain ⟨σ,hwk,hq⟩ := hqp xs pins e σ0 hq0
 have hr := hwk _ _ _ _ _ hr0
 cases e with
 | normal => exact main a w' σ hr hq
 | ret => exact main a w' σ hr hq
 | _ => exact hq.elim
section rules
variable {S : zal} {T : zac} {pl : yok} {Q : Exit → ASt → Prop} {σ : ASt}
variable {ops r : List Oper} {o : Oper} {nm k : Nat} {sl : List AV} {H : Heap} {Q' : List AV → Heap → Prop}
theorem yjb {l : List Nat} {K : List AV → Heap → Prop} : frzK l sl H K = ((frzL l (True,sl,H)).1 ∧ K (frzL l (True,sl,H)).2.1 (frzL l (True,sl,H)).2.2) := rfl
end rules
end Ax
end Go.Proofs.Ytdfgfdcfcdgadaa
namespace Go.Proofs.Ytdfgfdcfcdgadaa
open Ax
open Ax
attribute [go_sem] Blk.fz Blk.fi Blk.fg
attribute [go_sem ↓] yjb
end Go.Proofs.Ytdfgfdcfcdgadaa
