/- What the proofs of this seat stand on; it asks nothing. -/
import Derived.Test.YtffdpbbbdmmdlaaYa05
set_option linter.unusedSimpArgs false
set_option linter.unusedVariables false
namespace Go.Proofs.Ytffdpbbbdmmdlaa
namespace Ax
open Go.RowKit
theorem ymc {n : Int} (h : (Lit.int .i64 n).wf = true) : -9223372036854775808 ≤ n ∧ n ≤ 9223372036854775807 := by
 simp only [Lit.wf,Bool.and_eq_true,decide_eq_true_eq] at h
 have h1 : IntKind.min .i64 = -9223372036854775808 := by decide
 have h2 : IntKind.max .i64 = 9223372036854775807 := by decide
 rw [h1,h2] at h; exact h
theorem ymt {n : Int} (h : (Lit.int .u8 n).wf = true) : 0 ≤ n ∧ n < 256 := by
 simp only [Lit.wf,Bool.and_eq_true,decide_eq_true_eq] at h
 have h1 : IntKind.min .u8 = 0 := by decide
 have h2 : IntKind.max .u8 = 255 := by decide
 rw [h1,h2] at h; omega
def yon (k : IntKind) (w : World) (a : Option Addr) (len cap : Nat) (zs : List Int) : Prop :=
 (a = none ∧ len = 0 ∧ cap = 0 ∧ zs = []) ∨
 ∃ x,a = some x ∧ len ≤ cap ∧ cap ≤ maxLen ∧ zs.length = cap ∧ (∀ i,i < zs.length → w.cell? (x.add i) = some (.int k (zs.getD i 0))) ∧ ∀ n ∈ zs,(Lit.int k n).wf = true
theorem zzx (b : Nat) : ¬ Mut loc0 b := by
 rintro (h | ⟨k,h⟩)
 ·exact h
 ·simp [loc0,zap] at h
theorem zwb {k : IntKind} {w : World} {x : Addr} {zs : List Int} (hz : ∀ i,i < zs.length → w.cell? (x.add i) = some (.int k (zs.getD i 0))) (cs : List Value) (hn : cs.length ≤ zs.length)
  (hc : ∀ (j : Nat) (h : j < cs.length),cs[j] = .int k (zs.getD j 0)) : Cells w loc0 (some x) cs := by
 by_cases h0 : cs = []
 ·exact ⟨.inl h0⟩
 ·have hl : 0 < cs.length := by
   cases cs with
   | nil => exact (h0 rfl).elim
   | cons => simp
  have h1 := hz 0 (by omega)
  rw [show x.add 0 = x from rfl] at h1
  have hx : x.spot = none ∧ x.block < w.heap.size := by
   unfold World.cell? at h1
   split at h1
   ·rename_i c e fz hh
    split at h1
    ·cases h1
    ·rename_i hs
     refine ⟨by simpa using hs,?_⟩
     rcases Nat.lt_or_ge x.block w.heap.size with h' | h'
     ·exact h'
     ·rw [Array.getElem?_eq_none h'] at hh; cases hh
   ·cases h1
  obtain ⟨b,o,sp⟩ := x
  obtain ⟨rfl,hb⟩ := hx
  refine ⟨.inr ⟨b,o,rfl,zzx b,hb,fun j hj => ?_⟩⟩
  have h2 := hz j (by omega)
  rw [hc j hj,← h2]
  cases j with
  | zero => rfl
  | succ j => rfl
theorem yow {w : World} {a : Option Addr} {len cap : Nat} {zs : List Int} (h : yon .u8 w a len cap zs) : ∃ bs : List UInt8,bs.length = len ∧ len ≤ maxLen ∧ R w loc0 (.sb bs false) (.slice a len cap) := by
 rcases h with ⟨rfl,rfl,rfl,rfl⟩ | ⟨x,rfl,hl,hm,hz,hcell,hwf⟩
 ·exact ⟨[],rfl,Nat.zero_le _,.sb [] false none 0 ⟨Nat.le_refl _,Nat.zero_le _,fun h => by cases h⟩ ⟨.inl rfl⟩⟩
 ·have hlen : ((zs.take len).map fun n => UInt8.ofNat n.toNat).length = len := by simp; omega
  refine ⟨(zs.take len).map fun n => UInt8.ofNat n.toNat,hlen,by omega,?_⟩
  have := R.sb (w := w) (loc := loc0) ((zs.take len).map fun n => UInt8.ofNat n.toNat) false (some x) cap ⟨by omega,hm,fun h => by cases h⟩
   (zwb hcell _ (by simp; omega) (fun j hj => by
    have hj' : j < zs.length := by simp at hj; omega
    have hw := ymt (hwf zs[j] (List.getElem_mem _))
    simp only [List.getElem_map,List.getElem_take,byte]
    have e : zs.getD j 0 = zs[j] := by simp [hj']
    rw [e]
    congr 1
    rw [UInt8.toNat_ofNat']
    omega))
  rw [hlen] at this
  exact this
theorem yov {w : World} {a : Option Addr} {len cap : Nat} {zs : List Int} (h : yon .i64 w a len cap zs) : ∃ ns : List Int,ns.length = len ∧ len ≤ maxLen ∧ (∀ n ∈ ns,-9223372036854775808 ≤ n ∧ n ≤ 9223372036854775807) ∧ R w loc0 (.si ns false) (.slice a len cap) := by
 rcases h with ⟨rfl,rfl,rfl,rfl⟩ | ⟨x,rfl,hl,hm,hz,hcell,hwf⟩
 ·exact ⟨[],rfl,Nat.zero_le _,by simp,.si [] false none 0 ⟨Nat.le_refl _,Nat.zero_le _,fun h => by cases h⟩ ⟨.inl rfl⟩⟩
 ·have hlen : (zs.take len).length = len := by simp; omega
  refine ⟨zs.take len,hlen,by omega,fun n hn => ymc (hwf n (List.mem_of_mem_take hn)),?_⟩
  have := R.si (w := w) (loc := loc0) (zs.take len) false (some x) cap ⟨by omega,hm,fun h => by cases h⟩
   (zwb hcell _ (by simp; omega) (fun j hj => by
    have hj' : j < zs.length := by simp at hj; omega
    simp only [List.getElem_map,List.getElem_take,word]
    have e : zs.getD j 0 = zs[j] := by simp [hj']
    rw [e]))
  rw [hlen] at this
  exact this
theorem yqj (w : World) (s : ByteArray) : R w loc0 (.str s.data.toList) (.string s) := by
 have := R.str (w := w) (loc := loc0) s.data.toList
 simpa using this
def RL (w : World) : List AV → List Value → Prop
 | [],[] => True
 | x :: xs,v :: vs => R w loc0 x v ∧ RL w xs vs
 | _,_ => False
theorem yjk {w : World} : ∀ {xs : List AV} {vs : List Value},RL w xs vs → xs.length = vs.length ∧ ∀ (j : Nat) (h : j < xs.length) (h' : j < vs.length),R w loc0 xs[j] vs[j]
 | [],[],_ => ⟨rfl,fun j h => by simp at h⟩
 | x :: xs,v :: vs,h => by
  obtain ⟨h1,h2⟩ := yjk h.2
  refine ⟨by simp [h1],fun j a b => ?_⟩
  cases j with
  | zero => exact h.1
  | succ j => exact h2 j (by simpa using a) (by simpa using b)
 | [],_ :: _,h => h.elim
 | _ :: _,[],h => h.elim
theorem law_runL {P : Program} {f : FuncId} {spec : zaz} (h : zbk P f spec) {xs : List AV} {vs : List Value} {w : World} (hp : (spec xs []).p) (hx : (spec xs []).x = .w (.bool true)) (hR : RL w xs vs) :
  Calls P f vs.toArray w fun e w' => e = .returned (.bool true) ∧ Below w.heap.size w w' :=
 yng h hp hx (yjk hR).1 (yjk hR).2
end Ax
end Go.Proofs.Ytffdpbbbdmmdlaa
namespace Go.Proofs.Ytffdpbbbdmmdlaa
open Ax
theorem evT : (type_of% @ybn) ∧
  (type_of% @zwi) ∧
  (type_of% @yja) ∧
  (type_of% @ybo) ∧
  (type_of% @zri) ∧
  (type_of% @yiz) ∧
  (type_of% @zwj) ∧
  (type_of% @ybp) ∧
  (type_of% @ybv) ∧
  (type_of% @zrp) ∧
  (type_of% @zrq) ∧
  (type_of% @zqp) ∧
  (type_of% @zuo) ∧
  (type_of% @zld) ∧
  (type_of% @zpa) ∧
  (type_of% @zrg) ∧
  (type_of% @zqj) ∧
  (type_of% @true_and) ∧
  (type_of% @and_true) ∧
  (type_of% @Nat.le_refl) ∧
  (type_of% @false_implies) ∧
  (type_of% @List.nil_append.{0}) ∧
  (type_of% @List.append_nil.{0}) ∧
  (type_of% @List.cons_append.{0}) ∧
  (type_of% @Nat.zero_le) ∧
  (type_of% @Bool.false_eq_true) ∧
  (type_of% @cond_false.{1}) ∧
  (type_of% @cond_true.{1}) ∧
  (type_of% @List.getElem?_cons_succ.{0}) ∧
  (type_of% @List.getElem?_cons_zero.{0}) ∧
  (type_of% @ne_eq.{1}) ∧
  (type_of% @not_false_eq_true) ∧
  (type_of% @and_self) ∧
  (type_of% @true_implies) ∧
  (type_of% @AV.w.injEq) ∧
  (type_of% @Nat.min_def) ∧
  (type_of% @List.set_cons_zero.{0}) ∧
  (type_of% @List.set_cons_succ.{0}) ∧
  (type_of% @List.replicate_succ.{0}) ∧
  (type_of% @List.replicate_zero.{0}) ∧
  (type_of% @List.length_append.{0}) ∧
  (type_of% @List.length_cons.{0}) ∧
  (type_of% @List.length_nil.{0}) ∧
  (type_of% @Nat.zero_add) ∧
  (type_of% @Nat.add_zero) ∧
  (type_of% @Bool.not_true) ∧
  (type_of% @Bool.not_false) ∧
  (type_of% @Bool.true_and) ∧
  (type_of% @Bool.and_true) ∧
  (type_of% @Bool.and_false) ∧
  (type_of% @Bool.false_and) ∧
  (type_of% @not_true_eq_false) ∧
  (type_of% @not_false_iff) ∧
  (type_of% @or_false) ∧
  (type_of% @or_true) ∧
  (type_of% @false_or) ∧
  (type_of% @true_or) ∧
  (type_of% @Int.toNat_natCast) ∧
  (type_of% @List.length_replicate.{0}) ∧
  (type_of% @zuz) ∧
  (type_of% @zva) ∧
  (type_of% @yaq) ∧
  (type_of% @beq_self_eq_true.{0}) ∧
  (type_of% @BEq.rfl.{0}) ∧
  (type_of% @List.mem_cons.{0}) ∧
  (type_of% @List.not_mem_nil.{0}) ∧
  (type_of% @List.all_cons.{0}) ∧
  (type_of% @List.all_nil.{0}) ∧
  (type_of% @Bool.or_false) ∧
  (type_of% @Bool.or_true) ∧
  (type_of% @Bool.true_or) ∧
  (type_of% @Bool.false_or) ∧
  (type_of% @decide_true) ∧
  (type_of% @decide_false) ∧
  (type_of% @Value.int.injEq) ∧
  (type_of% @Value.bool.injEq) ∧
  (type_of% @IntKind.wrap_u8) ∧
  (type_of% @IntKind.wrap_u64) ∧
  (type_of% @IntKind.wrap_i64) :=
 ⟨@ybn,@zwi,@yja,@ybo,@zri,@yiz,@zwj,@ybp,@ybv,@zrp,@zrq,@zqp,@zuo,@zld,@zpa,@zrg,@zqj,@true_and,@and_true,@Nat.le_refl,@false_implies,@List.nil_append.{0},@List.append_nil.{0},@List.cons_append.{0},@Nat.zero_le,@Bool.false_eq_true,@cond_false.{1},@cond_true.{1},@List.getElem?_cons_succ.{0},@List.getElem?_cons_zero.{0},@ne_eq.{1},@not_false_eq_true,@and_self,@true_implies,@AV.w.injEq,@Nat.min_def,@List.set_cons_zero.{0},@List.set_cons_succ.{0},@List.replicate_succ.{0},@List.replicate_zero.{0},@List.length_append.{0},@List.length_cons.{0},@List.length_nil.{0},@Nat.zero_add,@Nat.add_zero,@Bool.not_true,@Bool.not_false,@Bool.true_and,@Bool.and_true,@Bool.and_false,@Bool.false_and,@not_true_eq_false,@not_false_iff,@or_false,@or_true,@false_or,@true_or,@Int.toNat_natCast,@List.length_replicate.{0},@zuz,@zva,@yaq,@beq_self_eq_true.{0},@BEq.rfl.{0},@List.mem_cons.{0},@List.not_mem_nil.{0},@List.all_cons.{0},@List.all_nil.{0},@Bool.or_false,@Bool.or_true,@Bool.true_or,@Bool.false_or,@decide_true,@decide_false,@Value.int.injEq,@Value.bool.injEq,@IntKind.wrap_u8,@IntKind.wrap_u64,@IntKind.wrap_i64⟩
theorem evD0 : (type_of% @Ax.slot.eq_1) ∧
  (type_of% @Ax.slot.eq_2) ∧
  (type_of% @Ax.slot.eq_3) ∧
  (type_of% @Ax.setSlot.eq_1) ∧
  (type_of% @Ax.setSlot.eq_2) ∧
  (type_of% @Ax.setSlot.eq_3) ∧
  (type_of% @Ax.Out.and.eq_1) ∧
  (type_of% @Ax.isBool.eq_1) ∧
  (type_of% @Ax.isPtr.eq_1) ∧
  (type_of% @Ax.evs.eq_1) ∧
  (type_of% @Ax.evs.eq_2) ∧
  (type_of% @Ax.evps.eq_1) ∧
  (type_of% @Ax.evps.eq_2) ∧
  (type_of% @Ax.aCall.eq_1) ∧
  (type_of% @Ax.aUser.eq_1) ∧
  (type_of% @Ax.coes.eq_1) ∧
  (type_of% @Ax.coes.eq_2) ∧
  (type_of% @Ax.callOut.eq_1) ∧
  (type_of% @Ax.rootsL.eq_1) ∧
  (type_of% @Ax.rootsL.eq_2) ∧
  (type_of% @Ax.AV.roots.eq_1) ∧
  (type_of% @Ax.AV.roots.eq_2) ∧
  (type_of% @Ax.AV.roots.eq_3) ∧
  (type_of% @Ax.AV.roots.eq_4) ∧
  (type_of% @Ax.lendsL.eq_1) ∧
  (type_of% @Ax.lendsL.eq_2) ∧
  (type_of% @Ax.AV.lends.eq_1) ∧
  (type_of% @Ax.AV.lends.eq_2) ∧
  (type_of% @Ax.AV.lends.eq_3) ∧
  (type_of% @Ax.AV.lends.eq_4) ∧
  (type_of% @Ax.pinsOf.eq_1) ∧
  (type_of% @Ax.pinsOf.eq_2) ∧
  (type_of% @Ax.nodup.eq_1) ∧
  (type_of% @Ax.nodup.eq_2) ∧
  (type_of% @Ax.lendL.eq_1) ∧
  (type_of% @Ax.lendL.eq_2) ∧
  (type_of% @Ax.lend.eq_1) ∧
  (type_of% @Ax.lend.eq_2) ∧
  (type_of% @Ax.lend.eq_3) ∧
  (type_of% @Ax.lend.eq_4) ∧
  (type_of% @Ax.lend.eq_5) ∧
  (type_of% @Ax.lend.eq_6) ∧
  (type_of% @Ax.lend.eq_7) ∧
  (type_of% @Ax.lend.eq_8) ∧
  (type_of% @Ax.lend.eq_9) ∧
  (type_of% @Ax.lend.eq_10) ∧
  (type_of% @Ax.lend.eq_11) ∧
  (type_of% @Ax.lend.eq_12) ∧
  (type_of% @Ax.closedB.eq_1) ∧
  (type_of% @Ax.closedB.eq_2) ∧
  (type_of% @Ax.noimmB.eq_1) ∧
  (type_of% @Ax.noimmB.eq_2) ∧
  (type_of% @Ax.AV.noimm.eq_1) ∧
  (type_of% @Ax.AV.noimm.eq_2) ∧
  (type_of% @Ax.AV.noimm.eq_3) ∧
  (type_of% @Ax.AV.noimm.eq_4) :=
 ⟨@Ax.slot.eq_1,@Ax.slot.eq_2,@Ax.slot.eq_3,@Ax.setSlot.eq_1,@Ax.setSlot.eq_2,@Ax.setSlot.eq_3,@Ax.Out.and.eq_1,@Ax.isBool.eq_1,@Ax.isPtr.eq_1,@Ax.evs.eq_1,@Ax.evs.eq_2,@Ax.evps.eq_1,@Ax.evps.eq_2,@Ax.aCall.eq_1,@Ax.aUser.eq_1,@Ax.coes.eq_1,@Ax.coes.eq_2,@Ax.callOut.eq_1,@Ax.rootsL.eq_1,@Ax.rootsL.eq_2,@Ax.AV.roots.eq_1,@Ax.AV.roots.eq_2,@Ax.AV.roots.eq_3,@Ax.AV.roots.eq_4,@Ax.lendsL.eq_1,@Ax.lendsL.eq_2,@Ax.AV.lends.eq_1,@Ax.AV.lends.eq_2,@Ax.AV.lends.eq_3,@Ax.AV.lends.eq_4,@Ax.pinsOf.eq_1,@Ax.pinsOf.eq_2,@Ax.nodup.eq_1,@Ax.nodup.eq_2,@Ax.lendL.eq_1,@Ax.lendL.eq_2,@Ax.lend.eq_1,@Ax.lend.eq_2,@Ax.lend.eq_3,@Ax.lend.eq_4,@Ax.lend.eq_5,@Ax.lend.eq_6,@Ax.lend.eq_7,@Ax.lend.eq_8,@Ax.lend.eq_9,@Ax.lend.eq_10,@Ax.lend.eq_11,@Ax.lend.eq_12,@Ax.closedB.eq_1,@Ax.closedB.eq_2,@Ax.noimmB.eq_1,@Ax.noimmB.eq_2,@Ax.AV.noimm.eq_1,@Ax.AV.noimm.eq_2,@Ax.AV.noimm.eq_3,@Ax.AV.noimm.eq_4⟩
theorem evD1 : (type_of% @Ax.AV.noimm.eq_5) ∧
  (type_of% @Ax.AV.noimm.eq_6) ∧
  (type_of% @Ax.AV.noimm.eq_7) ∧
  (type_of% @Ax.AV.noimm.eq_8) ∧
  (type_of% @Ax.AV.ren.eq_1) ∧
  (type_of% @Ax.AV.ren.eq_2) ∧
  (type_of% @Ax.AV.ren.eq_3) ∧
  (type_of% @Ax.AV.ren.eq_4) ∧
  (type_of% @Ax.AV.ren.eq_5) ∧
  (type_of% @Ax.AV.ren.eq_6) ∧
  (type_of% @Ax.renL.eq_1) ∧
  (type_of% @Ax.renL.eq_2) ∧
  (type_of% @Ax.back.eq_1) ∧
  (type_of% @Ax.back.eq_2) ∧
  (type_of% @Ax.aLoad.eq_1) ∧
  (type_of% @Ax.subv.eq_1) ∧
  (type_of% @Ax.guardSlot.eq_1) ∧
  (type_of% @Ax.byte.eq_1) ∧
  (type_of% @Ax.word.eq_1) ∧
  (type_of% @Ax.EndsX.eq_1) ∧
  (type_of% @Ax.rvals.eq_1) ∧
  (type_of% @Ax.rvals.eq_2) ∧
  (type_of% @Ax.rvals.eq_3) ∧
  (type_of% @Ax.AV.ids.eq_1) ∧
  (type_of% @Ax.AV.ids.eq_2) ∧
  (type_of% @Ax.AV.ids.eq_3) ∧
  (type_of% @Ax.AV.ids.eq_4) ∧
  (type_of% @Ax.AV.ids.eq_5) ∧
  (type_of% @Ax.AV.ids.eq_6) ∧
  (type_of% @Ax.idsL.eq_1) ∧
  (type_of% @Ax.idsL.eq_2) ∧
  (type_of% @Ax.newIds.eq_1) ∧
  (type_of% @Ax.newIds.eq_2) ∧
  (type_of% @Ax.upTo.eq_1) ∧
  (type_of% @Ax.upTo.eq_2) ∧
  (type_of% @Ax.pinHeap.eq_1) ∧
  (type_of% @Ax.pinHeap.eq_2) ∧
  (type_of% @Ax.gOf.eq_1) ∧
  (type_of% @Ax.gOf.eq_2) ∧
  (type_of% @Ax.gOf.eq_3) ∧
  (type_of% @Ax.aBuildSlice.eq_1) ∧
  (type_of% @Ax.fillB.eq_1) ∧
  (type_of% @Ax.fillB.eq_2) ∧
  (type_of% @Ax.fillB.eq_3) ∧
  (type_of% @Ax.look.eq_1) ∧
  (type_of% @Ax.look.eq_2) ∧
  (type_of% @Ax.put.eq_1) ∧
  (type_of% @Ax.drop.eq_1) ∧
  (type_of% @Ax.drop.eq_2) ∧
  (type_of% @Ax.asv.eq_1) ∧
  (type_of% @Ax.aMake.eq_1) ∧
  (type_of% @Ax.fillG.eq_1) ∧
  (type_of% @Ax.fillG.eq_2) ∧
  (type_of% @Ax.fillI.eq_1) ∧
  (type_of% @Ax.fillI.eq_2) ∧
  (type_of% @Ax.fillI.eq_3) :=
 ⟨@Ax.AV.noimm.eq_5,@Ax.AV.noimm.eq_6,@Ax.AV.noimm.eq_7,@Ax.AV.noimm.eq_8,@Ax.AV.ren.eq_1,@Ax.AV.ren.eq_2,@Ax.AV.ren.eq_3,@Ax.AV.ren.eq_4,@Ax.AV.ren.eq_5,@Ax.AV.ren.eq_6,@Ax.renL.eq_1,@Ax.renL.eq_2,@Ax.back.eq_1,@Ax.back.eq_2,@Ax.aLoad.eq_1,@Ax.subv.eq_1,@Ax.guardSlot.eq_1,@Ax.byte.eq_1,@Ax.word.eq_1,@Ax.EndsX.eq_1,@Ax.rvals.eq_1,@Ax.rvals.eq_2,@Ax.rvals.eq_3,@Ax.AV.ids.eq_1,@Ax.AV.ids.eq_2,@Ax.AV.ids.eq_3,@Ax.AV.ids.eq_4,@Ax.AV.ids.eq_5,@Ax.AV.ids.eq_6,@Ax.idsL.eq_1,@Ax.idsL.eq_2,@Ax.newIds.eq_1,@Ax.newIds.eq_2,@Ax.upTo.eq_1,@Ax.upTo.eq_2,@Ax.pinHeap.eq_1,@Ax.pinHeap.eq_2,@Ax.gOf.eq_1,@Ax.gOf.eq_2,@Ax.gOf.eq_3,@Ax.aBuildSlice.eq_1,@Ax.fillB.eq_1,@Ax.fillB.eq_2,@Ax.fillB.eq_3,@Ax.look.eq_1,@Ax.look.eq_2,@Ax.put.eq_1,@Ax.drop.eq_1,@Ax.drop.eq_2,@Ax.asv.eq_1,@Ax.aMake.eq_1,@Ax.fillG.eq_1,@Ax.fillG.eq_2,@Ax.fillI.eq_1,@Ax.fillI.eq_2,@Ax.fillI.eq_3⟩
theorem evD2 : (type_of% @Ax.bnds.eq_1) ∧
  (type_of% @Ax.cut.eq_1) ∧
  (type_of% @Ax.aFieldAddr.eq_1) ∧
  (type_of% @Ax.aField.eq_1) ∧
  (type_of% @Ax.aBox.eq_1) ∧
  (type_of% @Ax.aBuild.eq_1) ∧
  (type_of% @Ax.fillS.eq_1) ∧
  (type_of% @Ax.fillS.eq_2) ∧
  (type_of% @Ax.allTy.eq_1) ∧
  (type_of% @Ax.allTy.eq_2) ∧
  (type_of% @Ax.splice.eq_1) ∧
  (type_of% @Ax.isBytes.eq_1) ∧
  (type_of% @Ax.aAlloc.eq_1) ∧
  (type_of% @Ax.closedL.eq_1) ∧
  (type_of% @Ax.closedL.eq_2) ∧
  (type_of% @Ax.AV.closed.eq_1) ∧
  (type_of% @Ax.AV.closed.eq_2) ∧
  (type_of% @Ax.AV.closed.eq_3) ∧
  (type_of% @Ax.AV.closed.eq_4) ∧
  (type_of% @Ax.AV.closed.eq_5) ∧
  (type_of% @Ax.AV.closed.eq_6) ∧
  (type_of% @Ax.idx.eq_1) ∧
  (type_of% @Ax.idx.eq_2) ∧
  (type_of% @Ax.AV.lentIds.eq_1) ∧
  (type_of% @Ax.AV.lentIds.eq_2) ∧
  (type_of% @Ax.AV.lentIds.eq_3) ∧
  (type_of% @Ax.AV.lentIds.eq_4) ∧
  (type_of% @Ax.lentIdsL.eq_1) ∧
  (type_of% @Ax.lentIdsL.eq_2) ∧
  (type_of% @Ax.dropAll.eq_1) ∧
  (type_of% @Ax.dropAll.eq_2) ∧
  (type_of% @Ax.AV.clean.eq_1) ∧
  (type_of% @Ax.AV.clean.eq_2) ∧
  (type_of% @Ax.AV.clean.eq_3) ∧
  (type_of% @Ax.AV.clean.eq_4) ∧
  (type_of% @Ax.AV.clean.eq_5) ∧
  (type_of% @Ax.AV.clean.eq_6) ∧
  (type_of% @Ax.AV.clean.eq_7) ∧
  (type_of% @Ax.AV.clean.eq_8) ∧
  (type_of% @Ax.cleanL.eq_1) ∧
  (type_of% @Ax.cleanL.eq_2) ∧
  (type_of% @Ax.cleanB.eq_1) ∧
  (type_of% @Ax.cleanB.eq_2) ∧
  (type_of% @Ax.quietC.eq_1) ∧
  (type_of% @Ax.flatTy.eq_1) ∧
  (type_of% @Ax.coldStr.eq_1) ∧
  (type_of% @Ax.eqV.eq_1) ∧
  (type_of% @Ax.eqV.eq_2) ∧
  (type_of% @Ax.eqV.eq_3) ∧
  (type_of% @Ax.eqV.eq_4) ∧
  (type_of% @Ax.eqV.eq_5) ∧
  (type_of% @Ax.eqF.eq_1) ∧
  (type_of% @Ax.eqF.eq_2) ∧
  (type_of% @Ax.isStruct.eq_1) :=
 ⟨@Ax.bnds.eq_1,@Ax.cut.eq_1,@Ax.aFieldAddr.eq_1,@Ax.aField.eq_1,@Ax.aBox.eq_1,@Ax.aBuild.eq_1,@Ax.fillS.eq_1,@Ax.fillS.eq_2,@Ax.allTy.eq_1,@Ax.allTy.eq_2,@Ax.splice.eq_1,@Ax.isBytes.eq_1,@Ax.aAlloc.eq_1,@Ax.closedL.eq_1,@Ax.closedL.eq_2,@Ax.AV.closed.eq_1,@Ax.AV.closed.eq_2,@Ax.AV.closed.eq_3,@Ax.AV.closed.eq_4,@Ax.AV.closed.eq_5,@Ax.AV.closed.eq_6,@Ax.idx.eq_1,@Ax.idx.eq_2,@Ax.AV.lentIds.eq_1,@Ax.AV.lentIds.eq_2,@Ax.AV.lentIds.eq_3,@Ax.AV.lentIds.eq_4,@Ax.lentIdsL.eq_1,@Ax.lentIdsL.eq_2,@Ax.dropAll.eq_1,@Ax.dropAll.eq_2,@Ax.AV.clean.eq_1,@Ax.AV.clean.eq_2,@Ax.AV.clean.eq_3,@Ax.AV.clean.eq_4,@Ax.AV.clean.eq_5,@Ax.AV.clean.eq_6,@Ax.AV.clean.eq_7,@Ax.AV.clean.eq_8,@Ax.cleanL.eq_1,@Ax.cleanL.eq_2,@Ax.cleanB.eq_1,@Ax.cleanB.eq_2,@Ax.quietC.eq_1,@Ax.flatTy.eq_1,@Ax.coldStr.eq_1,@Ax.eqV.eq_1,@Ax.eqV.eq_2,@Ax.eqV.eq_3,@Ax.eqV.eq_4,@Ax.eqV.eq_5,@Ax.eqF.eq_1,@Ax.eqF.eq_2,@Ax.isStruct.eq_1⟩
end Go.Proofs.Ytffdpbbbdmmdlaa
namespace Go.Proofs.Ytffdpbbbdmmdlaa
namespace Ax
open Go.RowKit Go.ChangeShapes Go.WideShapes
def RC (w : World) : List AV → List Value → Prop
 | [],[] => True
 | x :: xs,v :: vs => (x.leaf = true ∧ x.closed = true ∧ R w loc0 x v) ∧ RC w xs vs
 | _,_ => False
theorem RC.len {w : World} : ∀ {xs : List AV} {vs : List Value},RC w xs vs → xs.length = vs.length
 | [],[],_ => rfl
 | x :: xs,v :: vs,h => by simp [RC.len h.2]
 | [],_ :: _,h => h.elim
 | _ :: _,[],h => h.elim
theorem RC.get {w : World} : ∀ {xs : List AV} {vs : List Value},RC w xs vs → ∀ (j : Nat) (h : j < xs.length) (h' : j < vs.length),xs[j].leaf = true ∧ xs[j].closed = true ∧ R w loc0 xs[j] vs[j]
 | x :: xs,v :: vs,h,j,a,b => by
  cases j with
  | zero => exact h.1
  | succ j => exact RC.get h.2 j (by simpa using a) (by simpa using b)
 | [],[],_,j,a,_ => by simp at a
 | [],_ :: _,h,_,_,_ => h.elim
 | _ :: _,[],h,_,_,_ => h.elim
theorem RC.append {w : World} : ∀ {xs ys : List AV} {vs us : List Value},RC w xs vs → RC w ys us → RC w (xs ++ ys) (vs ++ us)
 | [],ys,[],us,_,h => h
 | x :: xs,ys,v :: vs,us,h,k => ⟨h.1,RC.append h.2 k⟩
 | [],_,_ :: _,_,h,_ => h.elim
 | _ :: _,_,[],_,h,_ => h.elim
def zjj : TD → Nat
 | .int .u8 => 1
 | .int .i64 => 2
 | _ => 0
def zix (S : TypeId → List AV → Prop) : List (Nat × TypeId) → List AV → Prop
 | [],ls => ls = []
 | p :: r,ls => ∃ l1 l2,ls = l1 ++ l2 ∧ S p.2 l1 ∧ zix S r l2
def zjx (T : zab) : Nat → TypeId → List AV → Prop
 | 0,_,_ => False
 | n + 1,t,ls => match T t with
  | none => False
  | some i => match i.d with
   | .int k => ∃ m,ls = [.w (.int k m)] ∧ (Lit.int k m).wf = true
   | .bool => ∃ b,ls = [.w (.bool b)]
   | .str => ∃ bs,ls = [.str bs] ∧ bs.length ≤ maxLen
   | .slice e => match T e with
    | none => False
    | some te => match zjj te.d with
     | 1 => ∃ bs f,ls = [.sb bs f] ∧ bs.length ≤ maxLen
     | 2 => ∃ ns f,ls = [.si ns f] ∧ ns.length ≤ maxLen ∧ ∀ n ∈ ns,-9223372036854775808 ≤ n ∧ n ≤ 9223372036854775807
     | _ => ∃ xs f,ls = [.sg te.size xs f] ∧ xs.length ≤ maxLen ∧ ∀ x ∈ xs,∃ l,zjx T n e l ∧ l.length = te.size ∧ x = asv te l
   | .struct fs => zix (zjx T n) fs ls
   | .arr m e => zix (zjx T n) (List.replicate m (0,e)) ls
   | _ => False
def yei (T : zab) : List (Nat × TypeId) → Nat → Nat → Bool
 | [],o,s => o == s
 | p :: r,o,s => match T p.2 with
  | some i => p.1 == o && yei T r (o + i.size) s
  | none => false
def okT (T : zab) : Nat → TypeId → Bool
 | 0,_ => false
 | n + 1,t => match T t with
  | none => false
  | some i => match i.d with
   | .int _ => true
   | .bool => true
   | .str => true
   | .slice e => match T e with
    | none => false
    | some te => !(zjj te.d == 0) || (okT T n e && decide (0 < te.size))
   | .struct fs => yei T fs 0 i.size && fs.all fun p => okT T n p.2
   | .arr m e => match T e with
    | some te => m * te.size == i.size && okT T n e
    | none => false
   | _ => false
theorem zij {P : Program} {T : zab} (hT : TOk P T) {t : TypeId} {i : TyI} (h : T t = some i) : P.cellsOf t = i.size := by
 obtain ⟨inf,z,h1,h2,_⟩ := (hT t i h).info
 simp [Program.cellsOf,h1,h2]
section
variable {H : Type} {enc : TypeId × Value → H} {P : Program} {w : World} {base : Nat} {spare : Nat → Bool} {held : Bool}
theorem yan {T : zab} (hT : TOk P T) {S : TypeId → List AV → Prop} {ok : TypeId → Bool} {m : Nat} (ih : ∀ t cs x,DataW.trod enc P w base spare held m t cs = some x → ok t = true → ∃ ls,RC w ls cs ∧ S t ls) :
  ∀ (fs : List (Nat × TypeId)) (o s : Nat) (cs : List Value),yei T fs o s = true → (fs.all fun p => ok p.2) = true → cs.length = s → (∀ p ∈ fs,∃ x,DataW.trod enc P w base spare held m p.2 ((cs.drop p.1).take (P.cellsOf p.2)) = some x) → ∃ ls,RC w ls (cs.drop o) ∧ zix S fs ls
 | [],o,s,cs,ht,_,hl,_ => by
  simp only [yei,beq_iff_eq] at ht
  subst ht
  rw [← hl,List.drop_length]
  exact ⟨[],trivial,rfl⟩
 | p :: r,o,s,cs,ht,hk,hl,h => by
  simp only [yei] at ht
  simp only [List.all_cons,Bool.and_eq_true] at hk
  cases hp : T p.2 with
  | none => simp [hp] at ht
  | some i =>
   simp only [hp,Bool.and_eq_true,beq_iff_eq] at ht
   obtain ⟨rfl,ht⟩ := ht
   obtain ⟨x,hx⟩ := h p (by simp)
   obtain ⟨l1,h1,h2⟩ := ih _ _ _ hx hk.1
   obtain ⟨l2,h3,h4⟩ := yan hT ih r _ s cs ht hk.2 hl (fun q hq => h q (by simp [hq]))
   rw [zij hT hp] at h1
   refine ⟨l1 ++ l2,?_,l1,l2,rfl,h2,h4⟩
   have := RC.append h1 h3
   rwa [← List.drop_drop,List.take_append_drop] at this
theorem yqa {T : zab} (hT : TOk P T) {S : TypeId → List AV → Prop} {ok : TypeId → Bool} {m : Nat} {e : TypeId} {te : TyI} (he : T e = some te) (hok : ok e = true) (ih : ∀ t cs x,DataW.trod enc P w base spare held m t cs = some x → ok t = true → ∃ ls,RC w ls cs ∧ S t ls) :
  ∀ (k : Nat) (cs : List Value),cs.length = k * te.size → (∀ i,i < k → ∃ x,DataW.trod enc P w base spare held m e ((cs.drop (i * te.size)).take te.size) = some x) → ∃ ls,RC w ls cs ∧ zix S (List.replicate k (0,e)) ls
 | 0,cs,hl,_ => by
  have : cs = [] := List.eq_nil_of_length_eq_zero (by simpa using hl)
  subst this
  exact ⟨[],trivial,rfl⟩
 | k + 1,cs,hl,h => by
  obtain ⟨x,hx⟩ := h 0 (by omega)
  rw [Nat.zero_mul,List.drop_zero] at hx
  obtain ⟨l1,h1,h2⟩ := ih _ _ _ hx hok
  have hmul : (k + 1) * te.size = k * te.size + te.size := Nat.succ_mul _ _
  obtain ⟨l2,h3,h4⟩ := yqa hT he hok ih k (cs.drop te.size) (by rw [List.length_drop]; omega) (fun i hi => by
   obtain ⟨y,hy⟩ := h (i + 1) (by omega)
   refine ⟨y,?_⟩
   rw [List.drop_drop,show te.size + i * te.size = (i + 1) * te.size by rw [Nat.succ_mul]; omega]
   exact hy)
  refine ⟨l1 ++ l2,?_,l1,l2,rfl,h2,h4⟩
  have := RC.append h1 h3
  rwa [List.take_append_drop] at this
theorem ymh {S : List AV → Prop} {te : TyI} (hs : ∀ l,S l → te.d.aggr = false → te.size = 1) {a : Addr} :
  ∀ (n : Nat) (off : Nat),(∀ i,i < n → ∃ (ls : List AV) (cs : List Value),RC w ls cs ∧ S ls ∧ cs.length = te.size ∧ ∀ k,k < te.size → w.cell? (a.add ((off + i) * te.size + k)) = cs[k]?) →
   ∃ (xs : List AV) (cs : List Value),xs.length = n ∧ cs.length = n * te.size ∧ (∀ x ∈ xs,∃ l,S l ∧ l.length = te.size ∧ x = asv te l ∧ x.leaves = l) ∧ RC w (xs.flatMap AV.leaves) cs ∧ ∀ k,k < n * te.size → w.cell? (a.add (off * te.size + k)) = cs[k]?
 | 0,off,_ => ⟨[],[],rfl,by simp,by simp,trivial,fun k h => by simp at h⟩
 | n + 1,off,h => by
  obtain ⟨ls,c1,h1,h2,h3,h4⟩ := h 0 (by omega)
  obtain ⟨xs,c2,k1,k2,k3,k4,k5⟩ := ymh hs n (off + 1) (fun i hi => by
   obtain ⟨l,c,a1,a2,a3,a4⟩ := h (i + 1) (by omega)
   refine ⟨l,c,a1,a2,a3,fun k hk => ?_⟩
   rw [show off + 1 + i = off + (i + 1) by omega]; exact a4 k hk)
  have hlen : ls.length = te.size := by rw [RC.len h1,h3]
  have hx : (asv te ls).leaves = ls := by
   unfold asv
   cases ha : te.d.aggr with
   | true => rfl
   | false =>
    have h1s := hs ls h2 ha
    have hl1 : ls.length = 1 := by omega
    obtain ⟨y,rfl⟩ := List.length_eq_one_iff.1 hl1
    have := (RC.get h1 0 (by simp) (by omega)).1
    simp only [List.getElem_cons_zero] at this
    simp only [cond_false,slot]
    cases y <;> first | rfl | simp [AV.leaf] at this
  refine ⟨asv te ls :: xs,c1 ++ c2,by simp [k1],by rw [List.length_append,h3,k2,Nat.succ_mul]; omega,?_,?_,?_⟩
  ·intro x hxm
   rcases List.mem_cons.1 hxm with rfl | hxm
   ·exact ⟨ls,h2,hlen,rfl,hx⟩
   ·exact k3 x hxm
  ·rw [List.flatMap_cons,hx]; exact RC.append h1 k4
  ·intro k hk
   by_cases hk1 : k < te.size
   ·rw [List.getElem?_append_left (by omega)]
    have := h4 k hk1
    rw [Nat.add_zero] at this
    exact this
   ·rw [List.getElem?_append_right (by omega),h3]
    have := k5 (k - te.size) (by rw [Nat.succ_mul] at hk; omega)
    rw [← this,Nat.succ_mul]
    congr 2
    omega
theorem yof (a : Addr) (h : a.spot = none) (m n : Nat) : (a.add m).add n = a.add (m + n) := by
 obtain ⟨b,o,s⟩ := a
 simp only at h
 subst h
 unfold Addr.add
 by_cases hm : m = 0
 ·subst hm; simp
 ·by_cases hn : n = 0
  ·subst hn; simp
  ·rw [if_neg hm,if_neg hn,if_neg (by omega)]
   simp; omega
theorem zsc {T : zab} (hT : TOk P T) {t : TypeId} {i : TyI} (h : T t = some i) (ha : i.d.aggr = false) : i.size = 1 := by
 obtain ⟨inf,z,_,_,_,_,_,_,_,h8⟩ := (hT t i h).info
 exact (h8 ha).2.2
theorem yax {a : Addr} {cs : List Value} (hne : cs ≠ []) (h : ∀ k,k < cs.length → w.cell? (a.add k) = cs[k]?) : Cells w loc0 (some a) cs ∧ a.spot = none := by
 have hl : 0 < cs.length := List.length_pos_iff.2 hne
 have h1 := h 0 hl
 rw [show a.add 0 = a from rfl,List.getElem?_eq_getElem hl] at h1
 have hx : a.spot = none ∧ a.block < w.heap.size := by
  unfold World.cell? at h1
  split at h1
  ·rename_i c e fz hh
   split at h1
   ·cases h1
   ·rename_i hs
    refine ⟨by simpa using hs,?_⟩
    rcases Nat.lt_or_ge a.block w.heap.size with h' | h'
    ·exact h'
    ·rw [Array.getElem?_eq_none h'] at hh; cases hh
  ·cases h1
 obtain ⟨b,o,sp⟩ := a
 obtain ⟨rfl,hb⟩ := hx
 refine ⟨⟨.inr ⟨b,o,rfl,zzx b,hb,fun j hj => ?_⟩⟩,rfl⟩
 have h2 := h j hj
 rw [List.getElem?_eq_getElem hj] at h2
 rw [← h2]
 cases j <;> rfl
theorem zzt {T : zab} (hT : TOk P T) : ∀ (n fuel : Nat) (t : TypeId) (cs : List Value) (x : DataW H × List MemPlace),DataW.trod enc P w base (fun _ => true) held fuel t cs = some x → okT T n t = true → ∃ ls,RC w ls cs ∧ zjx T n t ls
 | 0,_,_,_,_,_,h => by simp [okT] at h
 | n + 1,fuel,t,cs,x,h,hok => by
  unfold okT at hok
  unfold zjx
  cases ht : T t with
  | none => simp [ht] at hok
  | some i =>
   simp only [ht] at hok ⊢
   have hd := (hT t i ht).d
   have hsz := zij hT ht
   cases hi : i.d with
   | int k =>
    rw [hi] at hd
    obtain ⟨m,rfl,_,hw⟩ := DataW.trod_int hd h
    exact ⟨[.w (.int k m)],⟨⟨rfl,rfl,.w _ rfl⟩,trivial⟩,m,rfl,hw⟩
   | bool =>
    rw [hi] at hd
    obtain ⟨b,rfl,_⟩ := DataW.trod_bool hd h
    exact ⟨[.w (.bool b)],⟨⟨rfl,rfl,.w _ rfl⟩,trivial⟩,b,rfl⟩
   | str =>
    rw [hi] at hd
    obtain ⟨s,rfl,_,hm⟩ := DataW.trod_string hd h
    exact ⟨[.str s.data.toList],⟨⟨rfl,rfl,yqj w s⟩,trivial⟩,s.data.toList,rfl,by simpa using hm⟩
   | slice e =>
    rw [hi] at hd
    simp only [hi] at hok ⊢
    cases he : T e with
    | none => simp [he] at hok
    | some te =>
     simp only [he] at hok ⊢
     have hde := (hT e te he).d
     have hse := zij hT he
     have row : ∀ k,P.underlying e = some (.int k) → P.cellsOf e = 1 → ∃ a len cap zs,cs = [.slice a len cap] ∧ yon k w a len cap zs := by
      intro k hk h1
      rcases open_ints hd hk h1 h with ⟨hcs,_⟩ | ⟨y,l,c,zs,hcs,_,hl,hm,hz,_,hcell,hwz⟩
      ·exact ⟨none,0,0,[],hcs,.inl ⟨rfl,rfl,rfl,rfl⟩⟩
      ·exact ⟨some y,l,c,zs,hcs,.inr ⟨y,rfl,hl,hm,by simpa using hz,hcell,hwz⟩⟩
     have hfi : (zjj te.d = 1 ∧ te.d = .int .u8) ∨ (zjj te.d = 2 ∧ te.d = .int .i64) ∨ zjj te.d = 0 := by
      unfold zjj
      split
      ·rename_i e; exact .inl ⟨rfl,e⟩
      ·rename_i e; exact .inr (.inl ⟨rfl,e⟩)
      ·exact .inr (.inr rfl)
     rcases hfi with ⟨hf,hte⟩ | ⟨hf,hte⟩ | hf
     ·rw [hf]
      rw [hte] at hde
      obtain ⟨a,len,cap,zs,rfl,hr⟩ := row .u8 hde (by rw [hse]; exact zsc hT he (by rw [hte]; rfl))
      obtain ⟨bs,h1,h2,h3⟩ := yow hr
      exact ⟨[.sb bs false],⟨⟨rfl,rfl,h3⟩,trivial⟩,bs,false,rfl,by omega⟩
     ·rw [hf]
      rw [hte] at hde
      obtain ⟨a,len,cap,zs,rfl,hr⟩ := row .i64 hde (by rw [hse]; exact zsc hT he (by rw [hte]; rfl))
      obtain ⟨ns,h1,h2,h4,h3⟩ := yov hr
      exact ⟨[.si ns false],⟨⟨rfl,rfl,h3⟩,trivial⟩,ns,false,rfl,by omega,h4⟩
     ·rw [hf]
      rw [hf] at hok
      simp only [beq_self_eq_true,Bool.not_true,Bool.false_or,Bool.and_eq_true,decide_eq_true_eq] at hok
      obtain ⟨hok,hpos⟩ := hok
      rcases DataW.trod_slice hd h with ⟨rfl,_⟩ | ⟨a,len,cap,elems,rest,m,_,rfl,_,hb,hl,hm,hlen,hel,_,_⟩
      ·exact ⟨[.sg te.size [] false],⟨⟨rfl,rfl,.sg te.size [] false none 0 [] ⟨Nat.le_refl _,Nat.zero_le _,fun h => by cases h⟩ (by simp) ⟨.inl rfl⟩ rfl (by simp) (by simp)⟩,trivial⟩,[],false,rfl,Nat.zero_le _,by simp⟩
      ·rw [hse] at hel
       have hall : ∀ i,i < len → ∃ (ls : List AV) (c : List Value),RC w ls c ∧ zjx T n e ls ∧ c.length = te.size ∧ ∀ k,k < te.size → w.cell? ((a.add (i * te.size)).add k) = c[k]? := by
        intro i hi
        have h1 := hel i hi
        rw [List.getElem?_eq_getElem (by omega),Option.bind_eq_some_iff] at h1
        obtain ⟨c,h2,h3⟩ := h1
        obtain ⟨_,h4,h5⟩ := World.cells?_some h2
        obtain ⟨ls,h6,h7⟩ := zzt hT n m e c _ h3 hok
        exact ⟨ls,c,h6,h7,h4,h5⟩
       by_cases h0 : len = 0
       ·subst h0
        exact ⟨[.sg te.size [] false],⟨⟨rfl,rfl,.sg te.size [] false (some a) cap [] ⟨Nat.zero_le _,hm,fun h => by cases h⟩ (by simp) ⟨.inl rfl⟩ rfl (by simp) (by simp)⟩,trivial⟩,[],false,rfl,Nat.zero_le _,by simp⟩
       ·have hspot : a.spot = none := by
         obtain ⟨ls,c,_,_,h3,h4⟩ := hall 0 (by omega)
         rw [Nat.zero_mul,show a.add 0 = a from rfl] at h4
         exact (yax (w := w) (a := a) (cs := c) (by intro e; rw [e] at h3; simp at h3; omega) (fun k hk => h4 k (by omega))).2
        obtain ⟨xs,c,k1,k2,k3,k4,k5⟩ := ymh (w := w) (S := zjx T n e) (te := te) (fun _ _ ha => zsc hT he ha) (a := a) len 0 (fun i hi => by
         obtain ⟨ls,c,h1,h2,h3,h4⟩ := hall i hi
         refine ⟨ls,c,h1,h2,h3,fun k hk => ?_⟩
         rw [Nat.zero_add,← yof a hspot]; exact h4 k hk)
        have hcne : c ≠ [] := by
         intro e; rw [e] at k2
         simp only [List.length_nil] at k2
         have := Nat.mul_pos (Nat.pos_of_ne_zero h0) hpos
         omega
        have hc := (yax (w := w) (a := a) (cs := c) hcne (fun k hk => by
         have := k5 k (by omega)
         rwa [Nat.zero_mul,Nat.zero_add] at this)).1
        have hR := R.sg (w := w) (loc := loc0) te.size xs false (some a) cap c ⟨by omega,hm,fun h => by cases h⟩ (fun x hx => by obtain ⟨l,_,h2,h3,h4⟩ := k3 x hx; rw [h4]; exact h2) hc (RC.len k4)
         (fun j hj => ⟨(RC.get k4 j hj (by rw [← RC.len k4]; exact hj)).1,(RC.get k4 j hj (by rw [← RC.len k4]; exact hj)).2.1⟩) (fun j a b => (RC.get k4 j a b).2.2)
        rw [k1] at hR
        exact ⟨[.sg te.size xs false],⟨⟨rfl,rfl,hR⟩,trivial⟩,xs,false,rfl,by omega,fun x hx => by obtain ⟨l,h1,h2,h3,_⟩ := k3 x hx; exact ⟨l,h1,h2,h3⟩⟩
   | struct fs =>
    rw [hi] at hd
    simp only [hi,Bool.and_eq_true] at hok ⊢
    obtain ⟨gs,hu,rfl⟩ := hd
    obtain ⟨xs,m,_,_,hl,hxl,hf⟩ := DataW.trod_struct hu h
    have := yan (w := w) (base := base) (spare := fun _ => true) (held := held) (enc := enc) hT (S := zjx T n) (ok := okT T n) (m := m) (fun t cs x h1 h2 => zzt hT n m t cs x h1 h2) _ 0 i.size cs hok.1 hok.2 (by rw [hl,hsz]) (fun p hp => by
     obtain ⟨g,hg,rfl⟩ := List.mem_map.1 hp
     obtain ⟨j,hj,hgj⟩ := List.getElem_of_mem hg
     have hj2 : gs[j]? = some g := by rw [← hgj]; simp at hj ⊢
     have h3 := hf j g hj2
     have hjx : j < xs.length := by rw [hxl]; simpa using hj
     exact ⟨xs[j],by rw [h3,List.getElem?_eq_getElem hjx]⟩)
    rwa [List.drop_zero] at this
   | arr k e =>
    rw [hi] at hd
    simp only [hi] at hok ⊢
    cases he : T e with
    | none => simp [he] at hok
    | some te =>
     simp only [he,Bool.and_eq_true,beq_iff_eq] at hok
     obtain ⟨xs,m,_,_,hl,hxl,hf⟩ := DataW.trod_array hd h
     rw [zij hT he] at hf
     exact yqa (w := w) (base := base) (spare := fun _ => true) (held := held) (enc := enc) hT (S := zjx T n) (ok := okT T n) (m := m) he hok.2 (fun t cs x h1 h2 => zzt hT n m t cs x h1 h2) k cs (by rw [hl,hsz]; exact hok.1.symm) (fun j hj => ⟨xs[j]'(by omega),by rw [hf j hj,List.getElem?_eq_getElem (by omega)]⟩)
   | ptr => simp [hi] at hok
   | func => simp [hi] at hok
   | map k e => simp [hi] at hok
   | other => simp [hi] at hok
def Arg (T : zab) (n : Nat) (t : TypeId) (x : AV) : Prop := ∃ i ls,T t = some i ∧ zjx T n t ls ∧ x = asv i ls
theorem arg_R {T : zab} (hT : TOk P T) {n : Nat} {t : TypeId} {v : Value} {d : DataW H} {ps : List MemPlace} {r : Reach} {b0 : Nat} (hval : Value.okWide P w r b0 t v) (h : DataW.Trod enc P w base (fun _ => true) held t v d ps) (hok : okT T n t = true) :
  ∃ x,Arg T n t x ∧ R w loc0 x v := by
 obtain ⟨fuel,hf⟩ := h
 obtain ⟨ls,h1,h2⟩ := zzt hT n fuel t _ _ hf hok
 cases ht : T t with
 | none => cases n <;> simp [okT,ht] at hok
 | some i =>
  have hd := (hT t i ht).d
  refine ⟨asv i ls,⟨i,ls,ht,h2,rfl⟩,?_⟩
  cases ha : i.d.aggr with
  | true =>
   have hv : ∃ c,v = .agg c := by
    unfold Value.okWide at hval
    cases hi : i.d with
    | struct fs =>
     rw [hi] at hd
     obtain ⟨gs,hu,_⟩ := hd
     rw [hu] at hval
     obtain ⟨c,hc,_⟩ := hval
     exact ⟨c,hc⟩
    | arr k e =>
     rw [hi] at hd
     have hu : P.underlying t = some (.array k e) := hd
     rw [hu] at hval
     obtain ⟨c,hc,_⟩ := hval
     exact ⟨c,hc⟩
    | _ => rw [hi] at ha; cases ha
   obtain ⟨c,rfl⟩ := hv
   simp only [asv,ha,cond_true]
   have hl := RC.len h1
   have := R.agg (w := w) (loc := loc0) ls c.toList hl (fun j hj => (RC.get h1 j hj (by rw [← hl]; exact hj)).1) (fun j a b => (RC.get h1 j a b).2.2)
   rwa [Array.toArray_toList] at this
  | false =>
   simp only [asv,ha,cond_false]
   have key : ∃ u,v.cells = #[u] ∧ u = v := by
    cases v with
    | agg c =>
     exfalso
     unfold Value.okWide Cell.okWide Cell.ok at hval
     cases hi : i.d with
     | struct fs => rw [hi] at ha; cases ha
     | arr k e => rw [hi] at ha; cases ha
     | int k => rw [hi] at hd; have hu : P.underlying t = some (.int k) := hd; simp [hu] at hval
     | bool => rw [hi] at hd; have hu : P.underlying t = some .bool := hd; simp [hu] at hval
     | str => rw [hi] at hd; have hu : P.underlying t = some .string := hd; simp [hu] at hval
     | slice e => rw [hi] at hd; have hu : P.underlying t = some (.slice e) := hd; simp [hu] at hval
     | _ => cases n <;> simp [okT,ht,hi] at hok
    | _ => exact ⟨_,rfl,rfl⟩
   obtain ⟨u,hu,rfl⟩ := key
   rw [hu] at h1
   match ls,h1 with
   | [y],h1 => exact h1.1.2.2
end
end Ax
end Go.Proofs.Ytffdpbbbdmmdlaa
namespace Go.Proofs.Ytffdpbbbdmmdlaa
open Ax
def tys : List (TypeId × TyI) := [
 (2,⟨.int .i64,1,8,[.w (.int .i64 0)],0⟩),
 (3,⟨.int .i64,1,8,[.w (.int .i64 0)],0⟩),
 (4,⟨.bool,1,1,[.w (.bool false)],0⟩),
 (5,⟨.int .u8,1,1,[.w (.int .u8 0)],0⟩),
 (9,⟨.str,1,16,[.str []],0⟩),
 (20,⟨.other,1,16,[.w .nilIface],0⟩),
 (21,⟨.int .i32,1,4,[.w (.int .i32 0)],0⟩),
 (22,⟨.slice 9,1,24,[.sg 1 [] true],0⟩),
 (27,⟨.slice 30,1,24,[.sg 1 [] true],0⟩),
 (30,⟨.slice 3,1,24,[.si [] true],0⟩),
 (42,⟨.int .u64,1,8,[.w (.int .u64 0)],0⟩),
 (46,⟨.int .i64,1,8,[.w (.int .i64 0)],0⟩),
 (53,⟨.int .u32,1,4,[.w (.int .u32 0)],0⟩),
 (55,⟨.int .u64,1,8,[.w (.int .u64 0)],0⟩),
 (56,⟨.int .u64,1,8,[.w (.int .u64 0)],0⟩),
 (60,⟨.ptr,1,8,[.w (.pointer none)],0⟩),
 (62,⟨.ptr,1,8,[.w (.pointer none)],0⟩),
 (75,⟨.ptr,1,8,[.w (.pointer none)],0⟩)]
theorem yos : TOk Try.prog (tab tys) := yot (by kernel_rfl)
def ty (t : TypeId) : Option TyI :=
 match t with
 | 2 => some ⟨.int .i64,1,8,[.w (.int .i64 0)],0⟩
 | 3 => some ⟨.int .i64,1,8,[.w (.int .i64 0)],0⟩
 | 4 => some ⟨.bool,1,1,[.w (.bool false)],0⟩
 | 5 => some ⟨.int .u8,1,1,[.w (.int .u8 0)],0⟩
 | 9 => some ⟨.str,1,16,[.str []],0⟩
 | 20 => some ⟨.other,1,16,[.w .nilIface],0⟩
 | 21 => some ⟨.int .i32,1,4,[.w (.int .i32 0)],0⟩
 | 22 => some ⟨.slice 9,1,24,[.sg 1 [] true],0⟩
 | 27 => some ⟨.slice 30,1,24,[.sg 1 [] true],0⟩
 | 30 => some ⟨.slice 3,1,24,[.si [] true],0⟩
 | 42 => some ⟨.int .u64,1,8,[.w (.int .u64 0)],0⟩
 | 46 => some ⟨.int .i64,1,8,[.w (.int .i64 0)],0⟩
 | 53 => some ⟨.int .u32,1,4,[.w (.int .u32 0)],0⟩
 | 55 => some ⟨.int .u64,1,8,[.w (.int .u64 0)],0⟩
 | 56 => some ⟨.int .u64,1,8,[.w (.int .u64 0)],0⟩
 | 60 => some ⟨.ptr,1,8,[.w (.pointer none)],0⟩
 | 62 => some ⟨.ptr,1,8,[.w (.pointer none)],0⟩
 | 75 => some ⟨.ptr,1,8,[.w (.pointer none)],0⟩
 | _ => none
theorem ty_ok : TOk Try.prog ty := by
 intro t i h
 refine yos t i ?_
 unfold ty at h
 split at h <;> first | (injection h with h; subst h; rfl) | cases h
def tyF : zab := zat ty
theorem yee : TOk Try.prog tyF := ycj ty_ok
theorem mixed : Try.prog.follows .mixedOrders = true := by kernel_rfl
def noS (f : FuncId) : Option zaz :=
 match f with
 | _ => none
theorem zki : Fns Try.prog noS := fun f s h => by cases h
def yesS : zaz
 | [],[] => ⟨True,.w (.bool true),[]⟩
 | _,_ => zeh
end Go.Proofs.Ytffdpbbbdmmdlaa
namespace Go.Proofs.Ytffdpbbbdmmdlaa
namespace Ax
variable (T : zab) (t : TypeId)
theorem yqq (v : Value) : coe T t (.w v) = .w v := rfl
theorem ynt (bs : List UInt8) : coe T t (.str bs) = .str bs := rfl
theorem ynu (xs : List AV) : coe T t (.agg xs) = .agg xs := rfl
theorem yns (xs : List AV) : coe T t (.tup xs) = .tup xs := rfl
theorem ypt (bs : List UInt8) (f : Bool) : coe T t (.sb bs f) = .sb bs f := rfl
theorem yps (ns : List Int) (f : Bool) : coe T t (.si ns f) = .si ns f := rfl
theorem ypx (xs : List AV) : coe T t (.cp xs) = .cp xs := rfl
theorem ypv (id s off len : Nat) : coe T t (.ms id s off len) = .ms id s off len := rfl
theorem ypu (id s i f : Nat) : coe T t (.rf id s i f) = .rf id s i f := rfl
theorem ypw (f : FuncId) (xs : List AV) : coe T t (.fn f xs) = .fn f xs := rfl
theorem ylk (s : Nat) (x : AV) (xs : List AV) (f : Bool) : coe T t (.sg s (x :: xs) f) = .sg s (x :: xs) f := rfl
end Ax
open Ax
attribute [go_sem] zkj isZ8 zqb zjs zox layB evT evD0 evD1 evD2 implies_true forall_const Option.getD aop aLen ev zah cv cvl zjw aBin aInt aUn aFn aEq List.length IntKind.bits evo List.append List.replicate zbw zib TD.aggr zpx aMin aMax Ax.Ends rone List.isEmpty zfv zcl zer List.drop List.take zhc zpy zpz srcB zeq zck zdp ziu bnd zps zit setB AV.leaves AV.okv AV.leaf Ax.one zag Blk.size Blk.len Option.isSome Option.isNone aStr aNil zdd zhd List.contains List.elem Blk.closed Blk.noimm zjl Blk.clean ynf yqq ynt ynu yns ypt yps ypx ypv ypu ypw ylk zsi zim zft zfs ziv zfu ziw zco yhb putM cutM AV.pureK AV.pure zwh bare Thing.lone zcj
attribute [go_sem] Nat.reduceAdd Nat.reduceSub Nat.reduceMul Int.reduceToNat reduceCtorEq Int.reducePow Nat.reducePow Int.reduceMod Nat.reduceLeDiff Int.reduceLE Int.reduceNe Int.reduceEq Nat.reduceEqDiff Nat.reduceLT Nat.reduceBEq
theorem lcT : (∀ {α β : Type} (f : α → β) (a : α) (l : List α),List.map f (a :: l) = f a :: List.map f l) ∧
  (∀ {α β : Type} (f : α → β),List.map f [] = []) ∧
  (∀ {α : Type} (l : List α),l.toArray.toList = l) ∧
  (∀ {α : Type} (xs ys : Array α),(xs ++ ys).toList = xs.toList ++ ys.toList) ∧
  (∀ {α : Type} (a : α),(some a).toArray = #[a]) ∧
  (∀ {α : Type},(none : Option α).toArray = #[]) ∧
  (∀ b : Bool,(b && b) = b) :=
 ⟨fun _ _ _ => rfl,fun _ => rfl,fun _ => rfl,fun _ _ => Array.toList_append,fun _ => rfl,rfl,fun b => Bool.and_self b⟩
attribute [go_sem ↓] ygp ygs ygq ygr ylh yli
theorem ssT : (type_of% @true_or) ∧
  (type_of% @false_or) ∧
  (type_of% @or_true) ∧
  (type_of% @or_false) ∧
  (type_of% @and_true) ∧
  (type_of% @true_and) ∧
  (type_of% @AV.w.injEq) ∧
  (type_of% @Value.int.injEq) ∧
  (type_of% @Value.bool.injEq) ∧
  (type_of% @AV.ms.injEq) ∧
  (type_of% @AV.sb.injEq) ∧
  (type_of% @AV.str.injEq) ∧
  (type_of% @Nat.zero_add) ∧
  (type_of% @Nat.add_zero) ∧
  (type_of% @Blk.b.injEq) ∧
  (type_of% @Blk.i.injEq) ∧
  (type_of% @Nat.succ_ne_zero) ∧
  (type_of% @and_self) :=
 ⟨@true_or,@false_or,@or_true,@or_false,@and_true,@true_and,@AV.w.injEq,@Value.int.injEq,@Value.bool.injEq,@AV.ms.injEq,@AV.sb.injEq,@AV.str.injEq,@Nat.zero_add,@Nat.add_zero,@Blk.b.injEq,@Blk.i.injEq,@Nat.succ_ne_zero,@and_self⟩
end Go.Proofs.Ytffdpbbbdmmdlaa
namespace Go.Proofs.Ytffdpbbbdmmdlaa
open Ax
def strB : AV → List UInt8
 | .str bs => bs
 | _ => []
theorem zba (ss : List (List UInt8)) : (ss.map AV.str).map strB = ss := by
 rw [List.map_map]; exact (List.map_congr_left fun x _ => rfl).trans (List.map_id ss)
def zce (ss : List (List UInt8)) : List (List UInt8) := ss.mergeSort fun x y => decide (x ≤ y)
theorem zdx (ss : List (List UInt8)) : (zce ss).length = ss.length := List.length_mergeSort ..
def zme : zaz
 | [.ms 0 1 0 n],[.g 1 xs] => ⟨n = xs.length ∧ n < 4611686018427387904 ∧ ∃ ss : List (List UInt8),xs = ss.map AV.str,.tup [],[.g 1 ((zce (xs.map strB)).map AV.str)]⟩
 | [.sg s [] fl],[] => ⟨True,.tup [],[]⟩
 | _,_ => zeh
theorem zmv (ss : List (List UInt8)) : (ss.map AV.str).flatMap AV.leaves = ss.map AV.str := by
 induction ss with
 | nil => rfl
 | cons s r ih => rw [List.map_cons,List.flatMap_cons,ih]; rfl
theorem yeg {P : Program} {f : FuncId}
  (hC : ∀ (blk off cap : Nat) (ss : List (List UInt8)) (w : World),Go.Sort.Holds Go.Proofs.encStr w blk off ss.toArray → blk < w.heap.size → ss.length < 4611686018427387904 →
   Calls P f #[.slice (some ⟨blk,off,none⟩) ss.length cap] w fun e w' =>
    e = .returned (.tuple #[]) ∧ ∃ n os,w' = Go.Sort.grow (Go.Sort.putRow Go.Proofs.encStr (Go.Sort.ahead w n) blk off (zce ss).toArray) os)
  (hN : ∀ (p : Option Addr) (cap : Nat) (w : World),Calls P f #[.slice p 0 cap] w fun e w' => e = .returned (.tuple #[]) ∧ w' = w) : zbk P f zme := by
 intro xs pins hp hcl w bad pb vs hpb hnd hbad hpins hlen hxs
 unfold zme at hp ⊢
 split at hp
 ·rename_i n ys
  obtain ⟨rfl,hn,ss,rfl⟩ := hp
  rw [zba]
  obtain ⟨b,rfl⟩ : ∃ b,pb = [b] := by
   cases pb with
   | nil => simp at hpb
   | cons b r => cases r with
    | nil => exact ⟨b,rfl⟩
    | cons c r => simp at hpb
  obtain ⟨v,rfl⟩ : ∃ v,vs = [v] := by
   cases vs with
   | nil => simp at hlen
   | cons v r => cases r with
    | nil => exact ⟨v,rfl⟩
    | cons c r => simp at hlen
  have hv : R w (zap [b] bad) (.ms 0 1 0 (ss.map AV.str).length) v := hxs 0 (by simp) (by simp)
  have hm : (zap [b] bad).m 0 = .here b := rfl
  cases hv with
  | ms _ _ _ _ _ h =>
   unfold Owns at h
   rw [hm] at h
   simp only at h
   obtain ⟨o,cap,cur,e,fz,rfl,ho,hcur,hsz,hle,hcap⟩ := h
   have hL := (hpins 0 (by simp) (by simp)).2
   obtain ⟨cur',e',fz',hcur',hfz,hone,hfl,hcells⟩ := hL.lies rfl
   have hb0 : ([b] : List Nat)[0] = b := rfl
   rw [hb0,hcur] at hcur'
   injection hcur' with hcur'
   injection hcur' with h1 h2 h3
   subst h1 h2 h3
   have hflat : (Blk.g 1 (ss.map AV.str)).flat = ss.map AV.str := zmv ss
   have hbs : b < w.heap.size := by
    rcases Nat.lt_or_ge b w.heap.size with h | h
    ·exact h
    ·rw [Array.getElem?_eq_none h] at hcur; cases hcur
   rw [List.length_map] at hle hn
   have hlenc : ss.length ≤ cur.size := by
    have := hfl
    rw [show ([Blk.g 1 (ss.map AV.str)] : List Blk)[0] = Blk.g 1 (ss.map AV.str) from rfl,hflat,List.length_map] at this
    exact this
   have ho0 : 0 < ss.length → o = 0 := fun h => by have := ho (by omega); omega
   have hcj : ∀ j (hj : j < ss.length),cur[j]'(by omega) = Value.string ⟨ss[j].toArray⟩ := by
    intro j hj
    have hx := (hcells j (by show j < (Blk.g 1 (ss.map AV.str)).flat.length; rw [hflat]; simpa using hj) (by omega)).2
    have hx' : (Blk.g 1 (ss.map AV.str)).flat[j]'(by rw [hflat]; simpa using hj) = AV.str ss[j] := by
     simp only [hflat,List.getElem_map]
    rw [show (([Blk.g 1 (ss.map AV.str)] : List Blk)[0]).flat[j]'(by show j < (Blk.g 1 (ss.map AV.str)).flat.length; rw [hflat]; simpa using hj) = AV.str ss[j] from hx'] at hx
    generalize cur[j]'(by omega) = u at hx
    cases hx with
    | str _ => rfl
   have hH : Go.Sort.Holds Go.Proofs.encStr w b o ss.toArray := by
    intro j hj
    have hj : j < ss.length := by simpa using hj
    have h0 := ho0 (by omega)
    subst h0
    have hjc : j < cur.size := by omega
    refine ⟨?_,?_⟩
    ·simp only [World.cell?,hcur,Nat.zero_add,Array.getElem?_eq_getElem hjc]
     rw [hcj j hj]
     simp [hj]
    ·have := zjm hfz j hjc
     simp only [World.frozen?,hcur,Nat.zero_add]
     simpa using this
   have hc := hC b o cap ss w hH hbs hn
   rw [List.length_map]
   refine Calls.mono hc ?_
   rintro e1 w' ⟨rfl,k,os,rfl⟩
   refine ⟨_,zap [b] bad,rfl,?_⟩
   have hhp : (Go.Sort.grow (Go.Sort.putRow Go.Proofs.encStr (Go.Sort.ahead w k) b o (zce ss).toArray) os).heap[b]? = some (.cells (Go.Sort.putCells Go.Proofs.encStr o (zce ss).toArray cur) e fz) := by
    rw [Go.Sort.heap_grow_old _ _ (by simp [Go.Sort.putRow,Go.Sort.mapBlock,Go.Sort.ahead]; exact hbs)]
    simp [Go.Sort.putRow,Go.Sort.mapBlock,Go.Sort.ahead,Array.getElem?_modify,hcur,Go.Sort.onCells]
   obtain ⟨D,hD⟩ : ∃ D,(zce ss).toArray = D := ⟨_,rfl⟩
   have hDs : D.size = ss.length := by rw [← hD]; simp [zdx]
   rw [hD] at hhp ⊢
   obtain ⟨cu,hcu⟩ : ∃ cu,Go.Sort.putCells Go.Proofs.encStr o D cur = cu := ⟨_,rfl⟩
   have hcs : cu.size = cur.size := by rw [← hcu]; simp [Go.Sort.putCells]
   have hget : ∀ (j : Nat) (hj : j < cu.size),cu[j] = if o ≤ j ∧ j < o + D.size then Go.Proofs.encStr D[j - o]! else cur[j]'(by omega) := by
    intro j hj
    subst hcu
    simp [Go.Sort.putCells]
   rw [hcu] at hhp
   have hflat2 : (Blk.g 1 ((zce ss).map AV.str)).flat = (zce ss).map AV.str := zmv _
   refine ⟨R.tup [] [] rfl (by simp),rfl,?_,?_,?_,?_,?_,?_⟩
   ·intro k' hk'
    have hk0 : k' = 0 := by simp at hk'; omega
    subst hk0
    refine ⟨?_,by rw [hm]; simp,by rw [hm]; simp⟩
    unfold BlkR
    rw [hm]
    refine ⟨⟨by decide,?_⟩,Lies.mkC ⟨cu,e,fz,hhp,by rw [hcs]; exact hfz,?_,?_,?_⟩⟩
    ·intro x hx
     obtain ⟨y,_,rfl⟩ := List.mem_map.1 hx
     rfl
    ·intro j hj
     rw [hget j hj]
     split
     ·rfl
     ·exact hone j (by omega)
    ·show (Blk.g 1 ((zce ss).map AV.str)).flat.length ≤ cu.size
     rw [hflat2,List.length_map,zdx,hcs]; exact hlenc
    ·intro j hj hj'
     have hjl : j < (zce ss).length := by
      have : j < (Blk.g 1 ((zce ss).map AV.str)).flat.length := hj
      rw [hflat2,List.length_map] at this; exact this
     have hjs : j < ss.length := by rw [← zdx ss]; exact hjl
     have h0 := ho0 (by omega)
     subst h0
     have hx' : (Blk.g 1 ((zce ss).map AV.str)).flat[j]'hj = AV.str (zce ss)[j] := by
      simp only [hflat2,List.getElem_map]
     show (Blk.g 1 ((zce ss).map AV.str)).flat[j].leaf = true ∧ R _ _ ((Blk.g 1 ((zce ss).map AV.str)).flat[j]) cu[j]
     rw [hx',hget j hj',if_pos ⟨Nat.zero_le _,by omega⟩]
     refine ⟨rfl,?_⟩
     have hDj : D[j - 0]! = (zce ss)[j] := by
      subst hD
      simp [hjl]
     rw [hDj]
     exact R.str _
   ·intro k' hk'
    have hk0 : k' = 0 := by simp at hk'; omega
    subst hk0; rfl
   ·intro k' b' h1 h2
    have h1 : 1 ≤ k' := h1
    have h3 : (zap [b] bad).m k' = .free := by
     show (match ([b] : List Nat)[k']? with | some b => L.here b | none => L.free) = _
     rw [List.getElem?_eq_none (by simpa using h1)]
    rw [h3] at h2; cases h2
   ·intro k' h1
    have h1 : 1 ≤ k' := h1
    show (match ([b] : List Nat)[k']? with | some b => L.here b | none => L.free) = _
    rw [List.getElem?_eq_none (by simpa using h1)]
   ·intro i j b' h1 h2
    obtain ⟨g1,_⟩ := zch h1
    obtain ⟨g2,_⟩ := zch h2
    simp at g1 g2
    omega
   ·refine ⟨rfl,rfl,rfl,?_,?_,?_⟩
    ·simp [Go.Sort.grow,Go.Sort.putRow,Go.Sort.mapBlock,Go.Sort.ahead]
    ·intro b' hb' hne
     have hne : b' ≠ b := by simpa using hne
     rw [Go.Sort.heap_grow_old _ _ (by simp [Go.Sort.putRow,Go.Sort.mapBlock,Go.Sort.ahead]; exact hb')]
     simp [Go.Sort.putRow,Go.Sort.mapBlock,Go.Sort.ahead,Array.getElem?_modify]
     intro h; exact (hne h.symm).elim
    ·intro b' c' e' f' hE hc'
     have hE : b' = b := by simpa using hE
     subst hE
     rw [hcur] at hc'
     injection hc' with hc'
     injection hc' with h1 h2 h3
     subst h1 h2 h3
     exact ⟨cu,fz,hhp,hcs⟩
 ·rename_i s fl
  obtain rfl : pb = [] := by cases pb with
   | nil => rfl
   | cons b r => simp at hpb
  obtain ⟨v,rfl⟩ : ∃ v,vs = [v] := by
   cases vs with
   | nil => simp at hlen
   | cons v r => cases r with
    | nil => exact ⟨v,rfl⟩
    | cons c r => simp at hlen
  have hv : R w (zap [] bad) (.sg s [] fl) v := hxs 0 (by simp) (by simp)
  cases hv with
  | sg _ _ _ a cap cs hd hs hc hl hx h =>
   refine Calls.mono (hN a cap w) ?_
   rintro e1 w' ⟨rfl,rfl⟩
   refine ⟨_,zap [] bad,rfl,?_⟩
   have hf : ∀ k,(zap [] bad).m k = .free := fun k => by
    show (match ([] : List Nat)[k]? with | some b => L.here b | none => L.free) = _
    rw [List.getElem?_eq_none (by simp)]
   refine ⟨R.tup [] [] rfl (by simp),rfl,?_,?_,?_,fun k _ => hf k,?_,?_⟩
   ·intro k hk; simp at hk
   ·intro k hk; simp at hk
   ·intro k b' _ h2; rw [hf k] at h2; cases h2
   ·intro i j b' h1 _; rw [hf i] at h1; cases h1
   ·exact ⟨rfl,rfl,rfl,Nat.le_refl _,fun _ _ _ => rfl,fun b' c' e' f' hE _ => by simp at hE⟩
 ·exact hp.elim
end Go.Proofs.Ytffdpbbbdmmdlaa
namespace Go.Proofs.Ytffdpbbbdmmdlaa
namespace Ax
mutual
def AV.fi (id : Nat) (bs : List Int) : AV → AV
 | .agg xs => .agg (fiL id bs xs)
 | .tup xs => .tup (fiL id bs xs)
 | .fn f cs => .fn f (fiL id bs cs)
 | .ms k s off len => bif k == id then (bif s == 1 && decide (off + len ≤ bs.length) then .si ((bs.drop off).take len) false else .ms k s off len) else .ms k s off len
 | x => x
def fiL (id : Nat) (bs : List Int) : List AV → List AV
 | [] => []
 | x :: xs => x.fi id bs :: fiL id bs xs
end
theorem zfc (id : Nat) (bs : List Int) : ∀ (xs : List AV),(fiL id bs xs).length = xs.length ∧ ∀ (j : Nat) (h : j < (fiL id bs xs).length) (h' : j < xs.length),(fiL id bs xs)[j] = xs[j].fi id bs
 | [] => ⟨rfl,fun j h => by simp [fiL] at h⟩
 | x :: xs => by
  obtain ⟨h1,h2⟩ := zfc id bs xs
  refine ⟨by simp [fiL,h1],fun j h h' => ?_⟩
  cases j with
  | zero => rfl
  | succ j => exact h2 j (by simpa [fiL] using h) (by simpa using h')
theorem yhp {id : Nat} {bs : List Int} {x : AV} (h : x.leaf = true) : (x.fi id bs).leaf = true := by
 cases x <;> first | exact h | (simp [AV.leaf] at h; done) | skip
 simp only [AV.fi]
 cases (_ == id) with
 | false => rfl
 | true =>
  simp only [cond_true]
  cases (_ && _ : Bool) <;> rfl
theorem fi_R {w : World} {loc : Loc} {id : Nat} {bs : List Int} (hor : (loc.m id = .nil ∧ bs = []) ∨ ∃ b,loc.m id = .here b ∧ b < w.heap.size ∧ Lies w loc (.i bs) b ∧ (∀ k,loc.m k = .here b → k = id) ∧ ¬ loc.bad b) {x : AV} {v : Value} (h : R w loc x v) : R w (loc.set id .dead) (x.fi id bs) v := by
 have hM : ∀ c,Mut (loc.set id .dead) c → Mut loc c := by
  rintro c (h | ⟨k,h⟩)
  ·exact .inl h
  ·by_cases hk : k = id
   ·subst hk; rw [Loc.set_same] at h; cases h
   ·rw [Loc.set_other _ _ hk] at h; exact .inr ⟨k,h⟩
 have hC : ∀ {a cs},Cells w loc a cs → Cells w (loc.set id .dead) a cs := fun h => h.move (fun b _ hm => hM b hm)
 induction h with
 | w v h => exact .w v h
 | str bs => exact .str bs
 | agg xs cs hl hx _ ih =>
  obtain ⟨h1,h2⟩ := zfc id bs xs
  refine .agg _ cs (by rw [h1,hl]) (fun j hj => ?_) (fun j a b => ?_)
  ·rw [h2 j hj (by rw [← h1]; exact hj)]; exact yhp (hx j _)
  ·rw [h2 j a (by rw [← h1]; exact a)]; exact ih j _ b
 | tup xs cs hl _ ih =>
  obtain ⟨h1,h2⟩ := zfc id bs xs
  refine .tup _ cs (by rw [h1,hl]) (fun j a b => ?_)
  rw [h2 j a (by rw [← h1]; exact a)]; exact ih j _ b
 | sb bs full a cap hd hc => exact .sb bs full a cap hd (hC hc)
 | si ns full a cap hd hc => exact .si ns full a cap hd (hC hc)
 | sg s xs full a cap cs hd hs hc hl hx h _ => exact .sg s xs full a cap cs hd hs (hC hc) hl hx (fun j a b => (h j a b).move (fun b _ hm => hM b hm) (hx j a).2)
 | cp ls a cs hc hn hl hx h _ => exact .cp ls a cs (hC hc) hn hl hx (fun j a b => (h j a b).move (fun b _ hm => hM b hm) (hx j a).2)
 | ms k s off len v h =>
  have hkeep : R w (loc.set id .dead) (.ms k s off len) v := by
   refine .ms _ _ _ _ _ ?_
   by_cases hk : k = id
   ·subst hk; unfold Owns; rw [Loc.set_same]; exact h.one
   ·unfold Owns at h ⊢; rw [Loc.set_other _ _ hk]; exact h
  simp only [AV.fi]
  by_cases hk : k = id
  ·subst hk
   simp only [beq_self_eq_true,cond_true]
   cases hc : (s == 1 && decide (off + len ≤ bs.length)) with
   | false => exact hkeep
   | true =>
    simp only [cond_true]
    simp only [Bool.and_eq_true,beq_iff_eq,decide_eq_true_eq] at hc
    obtain ⟨rfl,hle⟩ := hc
    have hlen : ((bs.drop off).take len).length = len := by simp; omega
    rcases hor with ⟨hb,rfl⟩ | ⟨b,hb,hlt,hl,hinj,hnb⟩
    ·unfold Owns at h
     rw [hb] at h
     obtain ⟨rfl,a,rfl⟩ := h
     have := R.si (w := w) (loc := loc.set k .dead) (([] : List Int)) false a 0 ⟨Nat.le_refl _,Nat.zero_le _,fun h => by cases h⟩ ⟨.inl rfl⟩
     simpa using this
    unfold Owns at h
    rw [hb] at h
    obtain ⟨o,cap,cur,e,fz,rfl,ho,hh,hsz,hlc,htop⟩ := h
    have hcells : Cells w (loc.set k .dead) (some ⟨b,o,none⟩) (((bs.drop off).take len).map word) := by
     by_cases h0 : len = 0
     ·subst h0; exact ⟨.inl (by simp)⟩
     refine ⟨.inr ⟨b,o,rfl,?_,hlt,fun j hj => ?_⟩⟩
     ·rintro (h | ⟨i,h⟩)
      ·exact hnb h
      ·by_cases hk : i = k
       ·subst hk; rw [Loc.set_same] at h; cases h
       ·rw [Loc.set_other _ _ hk] at h; exact hk (hinj i h)
     ·obtain ⟨cur',e',fz',hh',hf',hone',hfl',hr'⟩ := hl.lies
      rw [hh] at hh'; injection hh' with hh'; injection hh' with h1 h2 h3; subst h1
      have ho := ho (by omega)
      rw [Nat.mul_one] at ho
      rw [ho]
      have hj' : j < len := by simp at hj; omega
      have hfl : (Blk.flat (.i bs)).length = bs.length := by simp [Blk.flat]
      have hjs : off + j < cur.size := by omega
      have := (hr' (off + j) (by omega) hjs).2
      have e1 : (Blk.flat (.i bs))[off + j]'(by omega) = .w (word (bs[off + j]'(by omega))) := by simp [Blk.flat]
      rw [e1] at this
      have := this.wv
      have e2 : (((bs.drop off).take len).map word)[j] = word (bs[off + j]'(by omega)) := by simp
      rw [e2,← this]
      simp [World.cell?,hh,hjs]
    have := R.si (w := w) (loc := loc.set k .dead) ((bs.drop off).take len) false (some ⟨b,o,none⟩) cap ⟨by omega,htop,fun h => by cases h⟩ hcells
    rw [hlen] at this
    exact this
  ·have : (k == id) = false := by simpa using hk
   rw [this]; exact hkeep
 | rf k s i f v h =>
  refine .rf _ _ _ _ _ ?_
  by_cases hk : k = id
  ·subst hk; unfold Points; rw [Loc.set_same]; exact h.one
  ·unfold Points at h ⊢; rw [Loc.set_other _ _ hk]; exact h
 | fn f caps cs hl _ ih =>
  obtain ⟨h1,h2⟩ := zfc id bs caps
  refine .fn f _ cs (by rw [h1,hl]) (fun j a b => ?_)
  rw [h2 j a (by rw [← h1]; exact a)]; exact ih j _ b
 | junk v => exact .junk v
def Blk.fi (id : Nat) (bs : List Int) : Blk → Blk
 | .g s xs => .g s (fiL id bs xs)
 | .b cs => .b cs
 | .i ns => .i ns
 | .o x => .o x
theorem odd_fi {id : Nat} {bs : List Int} {b : Blk} : (b.fi id bs).odd = b.odd := by cases b <;> rfl
theorem ymy {id : Nat} {bs : List Int} {b : Blk} : (b.fi id bs).size = b.size := by cases b <;> rfl
def fiH (id : Nat) (bs : List Int) : Heap → Heap
 | [] => []
 | p :: r => bif p.1 == id then fiH id bs r else (p.1,p.2.fi id bs) :: fiH id bs r
theorem zuk (id : Nat) (bs : List Int) (x : AV) : (x.fi id bs).leaves = fiL id bs x.leaves := by
 cases x <;> first | rfl | skip
 simp only [AV.fi,AV.leaves,fiL]
 cases (_ == id) with
 | false => rfl
 | true =>
  simp only [cond_true]
  cases (_ && _ : Bool) <;> rfl
theorem zrb (id : Nat) (bs : List Int) : ∀ (xs ys : List AV),fiL id bs (xs ++ ys) = fiL id bs xs ++ fiL id bs ys
 | [],_ => rfl
 | x :: xs,ys => by simp [fiL,zrb id bs xs ys]
theorem yhl (id : Nat) (bs : List Int) (b : Blk) : (b.fi id bs).flat = fiL id bs b.flat := by
 cases b with
 | b cs =>
  simp only [Blk.fi,Blk.flat]
  induction cs with
  | nil => rfl
  | cons c r ih => simp only [List.map_cons,fiL,AV.fi]; rw [← ih]
 | o x => rfl
 | i ns =>
  simp only [Blk.fi,Blk.flat]
  induction ns with
  | nil => rfl
  | cons c r ih => simp only [List.map_cons,fiL,AV.fi]; rw [← ih]
 | g s xs =>
  simp only [Blk.fi,Blk.flat]
  induction xs with
  | nil => rfl
  | cons c r ih => simp only [fiL,List.flatMap_cons,zrb]; rw [ih,zuk]
theorem ynd {id : Nat} {bs : List Int} {b : Blk} (h : b.ok) : (b.fi id bs).ok := by
 cases b with
 | g s xs =>
  obtain ⟨h1,h2⟩ := h
  refine ⟨h1,fun x hx => ?_⟩
  obtain ⟨j,hj,rfl⟩ := List.getElem_of_mem hx
  obtain ⟨h3,h4⟩ := zfc id bs xs
  rw [h4 j hj (by rw [← h3]; exact hj),zuk,(zfc id bs _).1]
  exact h2 _ (List.getElem_mem _)
 | _ => trivial
theorem ypf {id : Nat} {bs : List Int} {b : Blk} : (b.fi id bs).len = b.len := by
 cases b with
 | g s xs => exact (zfc id bs xs).1
 | _ => rfl
theorem zsn {id : Nat} {bs : List Int} : ∀ {H : Heap} {k : Nat} {b : Blk},look (fiH id bs H) k = some b → k ≠ id ∧ ∃ c,look H k = some c ∧ b = c.fi id bs
 | [],k,b,h => by simp [fiH,look] at h
 | p :: r,k,b,h => by
  have e : look (p :: r) k = if p.1 = k then some p.2 else look r k := zao r p.1 k p.2
  unfold fiH at h
  by_cases hp : p.1 = id
  ·have : (p.1 == id) = true := by simpa using hp
   rw [this] at h
   obtain ⟨h1,c,h2,h3⟩ := zsn h
   exact ⟨h1,c,by rw [e,if_neg (by omega)]; exact h2,h3⟩
  ·have : (p.1 == id) = false := by simpa using hp
   rw [this] at h
   have e2 : look ((p.1,p.2.fi id bs) :: fiH id bs r) k = if p.1 = k then some (p.2.fi id bs) else look (fiH id bs r) k := zao (fiH id bs r) p.1 k _
   simp only [cond_false] at h
   rw [e2] at h
   split at h
   ·rename_i hk
    injection h with h
    exact ⟨by omega,p.2,by rw [e,if_pos hk],h.symm⟩
   ·rename_i hk
    obtain ⟨h1,c,h2,h3⟩ := zsn h
    exact ⟨h1,c,by rw [e,if_neg hk]; exact h2,h3⟩
theorem zzj {id : Nat} {bs : List Int} : ∀ (sl : List AV) (t : Nat),slot (fiL id bs sl) t = (slot sl t).fi id bs
 | [],t => rfl
 | x :: xs,0 => rfl
 | x :: xs,t + 1 => zzj xs t
theorem yox {w0 : World} {E : Nat → Prop} {B : Bs} {w : World} {loc : Loc} {a : Act} {sl : List AV} {H : Heap} {nx : Nat} (id : Nat) (bs : List Int) (hl : look H id = some (.i bs)) (hB : Base w0 B w loc) (hr : Rel' w0 E loc ⟨sl,H,nx⟩ a w) (hlive : loc.m id ≠ .free) : Rel w0 E B ⟨fiL id bs sl,fiH id bs H,nx⟩ a w := by
 have hblk := hr.heap id _ hl
 have hor : (loc.m id = .nil ∧ bs = []) ∨ ∃ b,loc.m id = .here b ∧ b < w.heap.size ∧ Lies w loc (.i bs) b ∧ (∀ k,loc.m k = .here b → k = id) ∧ ¬ loc.bad b := by
  unfold BlkR at hblk
  cases e : loc.m id with
  | free => exact (hlive e).elim
  | dead => rw [e] at hblk; exact hblk.elim
  | nil => rw [e] at hblk; exact .inl ⟨rfl,List.eq_nil_of_length_eq_zero hblk.2⟩
  | here b =>
   rw [e] at hblk
   have h1 := hr.env.lies id b e
   refine .inr ⟨b,rfl,h1.1,hblk.2,fun k hk => hr.env.inj k id b hk e,fun hb => ?_⟩
   have h2 := hr.env.bad b hb
   rcases h1.2 with h3 | h3
   ·omega
   ·exact h2.2 h3
 have hset : ∀ {k c},(loc.set id .dead).m k = .here c → loc.m k = .here c := by
  intro k c h
  by_cases hk : k = id
  ·subst hk; rw [Loc.set_same] at h; cases h
  ·rwa [Loc.set_other _ _ hk] at h
 refine ⟨loc.set id .dead,⟨hB.1,hB.2.1,fun k hk => ?_⟩,⟨?_,fun t => ?_,?_,⟨hr.env.os,hr.env.tape,hr.env.output,hr.env.size,hr.env.same,fun i j b h1 h2 => hr.env.inj i j b (hset h1) (hset h2),fun i b h1 => hr.env.lies i b (hset h1),hr.env.bad⟩,?_,hr.defers,?_⟩⟩
 ·by_cases hne : k = id
  ·subst hne; left; rw [Loc.set_same]
  ·rw [Loc.set_other _ _ hne]; exact hB.2.2 k hk
 ·rw [hr.size]; exact ((zfc id bs sl).1).symm
 ·simp only; rw [zzj]; exact fi_R hor (hr.slots t)
 ·intro k b hk
  obtain ⟨h1,c,h2,rfl⟩ := zsn hk
  have h3 := hr.heap k c h2
  unfold BlkR at h3 ⊢
  rw [Loc.set_other _ _ h1]
  split
  ·trivial
  ·rename_i e; rw [e] at h3; exact h3
  ·rename_i e; rw [e] at h3; exact ⟨ynd h3.1,by rw [ypf]; exact h3.2⟩
  ·rename_i d e
   rw [e] at h3
   rcases zbc c with ⟨x,hx,rfl⟩ | hodd
   ·exact ⟨ynd h3.1,.mkO (Thing.move (loc := loc) (fun c _ hM => hM.imp (fun h => h) (fun ⟨k,h⟩ => ⟨k,hset h⟩)) (h3.2.is hx)) rfl⟩
   obtain ⟨cur,el,fi,g1,g2,g3,g4,g5⟩ := h3.2.lies hodd
   have hlen : (c.fi id bs).flat.length = c.flat.length := by rw [yhl,(zfc id bs _).1]
   refine ⟨ynd h3.1,.mkC ⟨cur,el,fi,g1,by rw [ymy]; exact g2,g3,by omega,fun j x y => ?_⟩ (odd_fi.trans hodd)⟩
   have h6 := g5 j (by omega) y
   have e : (c.fi id bs).flat[j] = (c.flat[j]'(by omega)).fi id bs := by
    have := (zfc id bs c.flat).2 j (by rw [(zfc id bs _).1]; omega) (by omega)
    rw [← this]
    congr 1
    exact yhl id bs c
   rw [e]
   exact ⟨yhp h6.1,fi_R hor h6.2⟩
 ·intro k hk
  by_cases hne : k = id
  ·exact (hlive (hne ▸ hr.fresh k hk)).elim
  ·rw [Loc.set_other _ _ hne]; exact hr.fresh k hk
 ·intro k b hk
  obtain ⟨h1,c,h2,rfl⟩ := zsn hk
  exact hr.low k c h2
theorem znc {sl : List AV} {H : Heap} {nx : Nat} (id i : Nat) (bs : List Int) (hl : look H id = some (.i bs)) (hi : id ∈ (slot sl i).ids) : Weak ⟨sl,H,nx⟩ ⟨fiL id bs sl,fiH id bs H,nx⟩ := by
 rintro w0 E B a w ⟨loc,hB,hr⟩
 exact yox id bs hl hB hr (zfn _ _ (hr.slots i) hi)
end Ax
end Go.Proofs.Ytffdpbbbdmmdlaa
namespace Go.Proofs.Ytffdpbbbdmmdlaa
namespace Ax
mutual
def AV.fg (id s : Nat) (zs : List AV) : AV → AV
 | .agg xs => .agg (fgL id s zs xs)
 | .tup xs => .tup (fgL id s zs xs)
 | .fn f cs => .fn f (fgL id s zs cs)
 | .ms k s' off len => bif k == id then (bif s' == s && decide (off + len ≤ zs.length) then .sg s ((zs.drop off).take len) false else .ms k s' off len) else .ms k s' off len
 | x => x
def fgL (id s : Nat) (zs : List AV) : List AV → List AV
 | [] => []
 | x :: xs => x.fg id s zs :: fgL id s zs xs
end
theorem zfd (id s : Nat) (zs : List AV) : ∀ (xs : List AV),(fgL id s zs xs).length = xs.length ∧ ∀ (j : Nat) (h : j < (fgL id s zs xs).length) (h' : j < xs.length),(fgL id s zs xs)[j] = xs[j].fg id s zs
 | [] => ⟨rfl,fun j h => by simp [fgL] at h⟩
 | x :: xs => by
  obtain ⟨h1,h2⟩ := zfd id s zs xs
  refine ⟨by simp [fgL,h1],fun j h h' => ?_⟩
  cases j with
  | zero => rfl
  | succ j => exact h2 j (by simpa [fgL] using h) (by simpa using h')
theorem yhq {id s : Nat} {zs : List AV} {x : AV} (h : x.leaf = true) : (x.fg id s zs).leaf = true := by
 cases x <;> first | exact h | (simp [AV.leaf] at h; done) | skip
 simp only [AV.fg]
 cases (_ == id) with
 | false => rfl
 | true =>
  simp only [cond_true]
  cases (_ && _ : Bool) <;> rfl
theorem fg_R {w : World} {loc : Loc} {id s : Nat} {zs : List AV} (hcl : closedL zs = true) (hok : Blk.ok (.g s zs)) (hor : (loc.m id = .nil ∧ zs = []) ∨ ∃ b,loc.m id = .here b ∧ b < w.heap.size ∧ Lies w loc (.g s zs) b ∧ (∀ k,loc.m k = .here b → k = id) ∧ ¬ loc.bad b) {x : AV} {v : Value} (h : R w loc x v) : R w (loc.set id .dead) (x.fg id s zs) v := by
 have hM : ∀ c,Mut (loc.set id .dead) c → Mut loc c := by
  rintro c (h | ⟨k,h⟩)
  ·exact .inl h
  ·by_cases hk : k = id
   ·subst hk; rw [Loc.set_same] at h; cases h
   ·rw [Loc.set_other _ _ hk] at h; exact .inr ⟨k,h⟩
 have hC : ∀ {a cs},Cells w loc a cs → Cells w (loc.set id .dead) a cs := fun h => h.move (fun b _ hm => hM b hm)
 induction h with
 | w v h => exact .w v h
 | str bs => exact .str bs
 | agg xs cs hl hx _ ih =>
  obtain ⟨h1,h2⟩ := zfd id s zs xs
  refine .agg _ cs (by rw [h1,hl]) (fun j hj => ?_) (fun j a b => ?_)
  ·rw [h2 j hj (by rw [← h1]; exact hj)]; exact yhq (hx j _)
  ·rw [h2 j a (by rw [← h1]; exact a)]; exact ih j _ b
 | tup xs cs hl _ ih =>
  obtain ⟨h1,h2⟩ := zfd id s zs xs
  refine .tup _ cs (by rw [h1,hl]) (fun j a b => ?_)
  rw [h2 j a (by rw [← h1]; exact a)]; exact ih j _ b
 | sb bs full a cap hd hc => exact .sb bs full a cap hd (hC hc)
 | si ns full a cap hd hc => exact .si ns full a cap hd (hC hc)
 | sg s xs full a cap cs hd hs hc hl hx h _ => exact .sg s xs full a cap cs hd hs (hC hc) hl hx (fun j a b => (h j a b).move (fun b _ hm => hM b hm) (hx j a).2)
 | cp ls a cs hc hn hl hx h _ => exact .cp ls a cs (hC hc) hn hl hx (fun j a b => (h j a b).move (fun b _ hm => hM b hm) (hx j a).2)
 | ms k s' off len v h =>
  have hkeep : R w (loc.set id .dead) (.ms k s' off len) v := by
   refine .ms _ _ _ _ _ ?_
   by_cases hk : k = id
   ·subst hk; unfold Owns; rw [Loc.set_same]; exact h.one
   ·unfold Owns at h ⊢; rw [Loc.set_other _ _ hk]; exact h
  simp only [AV.fg]
  by_cases hk : k = id
  ·subst hk
   simp only [beq_self_eq_true,cond_true]
   cases hc : (s' == s && decide (off + len ≤ zs.length)) with
   | false => exact hkeep
   | true =>
    simp only [cond_true]
    simp only [Bool.and_eq_true,beq_iff_eq,decide_eq_true_eq] at hc
    obtain ⟨rfl,hle⟩ := hc
    have hlen : ((zs.drop off).take len).length = len := by simp; omega
    have hls : ∀ y ∈ (zs.drop off).take len,y.leaves.length = s' := fun y hy => hok.2 y (List.mem_of_mem_drop (List.mem_of_mem_take hy))
    have hclx : ∀ (j : Nat) (hj : j < (((zs.drop off).take len).flatMap AV.leaves).length),(((zs.drop off).take len).flatMap AV.leaves)[j].closed = true := by
     intro j hj
     have hm := List.getElem_mem hj
     obtain ⟨y,hy,hyl⟩ := List.mem_flatMap.1 hm
     exact zgu (zjp hcl (List.mem_of_mem_drop (List.mem_of_mem_take hy))) _ hyl
    have hHR : HR w loc [(k,.g s' zs)] := by
     intro i b hl
     simp only [look] at hl
     split at hl
     ·rename_i e; subst e
      injection hl with hl; subst hl
      unfold BlkR
      rcases hor with ⟨h1,h2⟩ | ⟨b,h1,h2,h3,_⟩
      ·rw [h1]; exact ⟨hok,by rw [h2]; rfl⟩
      ·rw [h1]; exact ⟨hok,h3⟩
     ·cases hl
    have hs := zeu (H := [(k,.g s' zs)]) (blk := .g s' zs) hHR h (by simp [look]) rfl hle
    have hfl : (Blk.flat (.g s' zs) |>.drop (off * s') |>.take (len * s')) = ((zs.drop off).take len).flatMap AV.leaves := by
     rw [zbe _ _ (fun y hy => hok.2 y (List.mem_of_mem_drop hy)),zbp _ _ hok.2]; rfl
    rw [hfl] at hs
    obtain ⟨a,cap,rfl,h1,h2,h3⟩ := hs.seen
    have h3 : len = 0 ∨ ∃ cs,(cs.length = len * s' ∧ CellsOf w loc (((zs.drop off).take len).flatMap AV.leaves) cs ∧ Cells w (loc.set k .dead) a cs) := by
     rcases h3 with h3 | ⟨b,o,cs,rfl,h4,h5,h6,h7⟩
     ·exact .inl h3
     ·by_cases h0 : len = 0
      ·exact .inl h0
      refine .inr ⟨cs,h5,h7,⟨.inr ⟨b,o,rfl,?_,h4,h6⟩⟩⟩
      have hb : loc.m k = .here b ∧ (∀ i,loc.m i = .here b → i = k) ∧ ¬ loc.bad b := by
       rcases hor with ⟨hb,rfl⟩ | ⟨b',hb,hlt,hl,hinj,hnb⟩
       ·simp at hle; omega
       ·unfold Owns at h; rw [hb] at h
        obtain ⟨o',cap',cur0,e0,fz0,hv,_⟩ := h
        injection hv with hv _ _
        injection hv with hv
        injection hv with hv1 hv2
        subst hv1
        exact ⟨hb,hinj,hnb⟩
      rintro (hq | ⟨i,hq⟩)
      ·exact hb.2.2 hq
      ·by_cases hk : i = k
       ·subst hk; rw [Loc.set_same] at hq; cases hq
       ·rw [Loc.set_other _ _ hk] at hq; exact hk (hb.2.1 i hq)
    have : R w (loc.set k .dead) (.sg s' ((zs.drop off).take len) false) (.slice a ((zs.drop off).take len).length cap) := by
     rcases h3 with h0 | ⟨cs,h5,h7,h8⟩
     ·have he : (zs.drop off).take len = [] := List.length_eq_zero_iff.1 (by omega)
      rw [he]
      exact .sg s' [] false a cap [] ⟨Nat.zero_le _,h2,by simp⟩ (by simp) ⟨.inl rfl⟩ (by simp) (fun j hj => by simp at hj) (fun j hj => by simp at hj)
     ·exact .sg s' ((zs.drop off).take len) false a cap cs ⟨by omega,h2,by simp⟩ hls h8 h7.len (fun j hj => ⟨h7.leaf j hj,hclx j hj⟩) (fun j x y => (h7.r j x y).move (fun b _ hm => hM b hm) (hclx j x))
    rw [hlen] at this
    exact this
  ·have : (k == id) = false := by simpa using hk
   rw [this]; exact hkeep
 | rf k s i f v h =>
  refine .rf _ _ _ _ _ ?_
  by_cases hk : k = id
  ·subst hk; unfold Points; rw [Loc.set_same]; exact h.one
  ·unfold Points at h ⊢; rw [Loc.set_other _ _ hk]; exact h
 | fn f caps cs hl _ ih =>
  obtain ⟨h1,h2⟩ := zfd id s zs caps
  refine .fn f _ cs (by rw [h1,hl]) (fun j a b => ?_)
  rw [h2 j a (by rw [← h1]; exact a)]; exact ih j _ b
 | junk v => exact .junk v
def Blk.fg (id s : Nat) (zs : List AV) : Blk → Blk
 | .g s' xs => .g s' (fgL id s zs xs)
 | .b cs => .b cs
 | .i ns => .i ns
 | .o x => .o x
theorem odd_fg {id s : Nat} {zs : List AV} {b : Blk} : (b.fg id s zs).odd = b.odd := by cases b <;> rfl
theorem ymz {id s : Nat} {zs : List AV} {b : Blk} : (b.fg id s zs).size = b.size := by cases b <;> rfl
def fgH (id s : Nat) (zs : List AV) : Heap → Heap
 | [] => []
 | p :: r => bif p.1 == id then fgH id s zs r else (p.1,p.2.fg id s zs) :: fgH id s zs r
theorem zul (id s : Nat) (zs : List AV) (x : AV) : (x.fg id s zs).leaves = fgL id s zs x.leaves := by
 cases x <;> first | rfl | skip
 simp only [AV.fg,AV.leaves,fgL]
 cases (_ == id) with
 | false => rfl
 | true =>
  simp only [cond_true]
  cases (_ && _ : Bool) <;> rfl
theorem zrc (id s : Nat) (zs : List AV) : ∀ (xs ys : List AV),fgL id s zs (xs ++ ys) = fgL id s zs xs ++ fgL id s zs ys
 | [],_ => rfl
 | x :: xs,ys => by simp [fgL,zrc id s zs xs ys]
theorem yhm (id s : Nat) (zs : List AV) (b : Blk) : (b.fg id s zs).flat = fgL id s zs b.flat := by
 cases b with
 | b cs =>
  simp only [Blk.fg,Blk.flat]
  induction cs with
  | nil => rfl
  | cons c r ih => simp only [List.map_cons,fgL,AV.fg]; rw [← ih]
 | o x => rfl
 | i ns =>
  simp only [Blk.fg,Blk.flat]
  induction ns with
  | nil => rfl
  | cons c r ih => simp only [List.map_cons,fgL,AV.fg]; rw [← ih]
 | g s xs =>
  simp only [Blk.fg,Blk.flat]
  induction xs with
  | nil => rfl
  | cons c r ih => simp only [fgL,List.flatMap_cons,zrc]; rw [ih,zul]
theorem yne {id s : Nat} {zs : List AV} {b : Blk} (h : b.ok) : (b.fg id s zs).ok := by
 cases b with
 | g s' xs =>
  obtain ⟨h1,h2⟩ := h
  refine ⟨h1,fun x hx => ?_⟩
  obtain ⟨j,hj,rfl⟩ := List.getElem_of_mem hx
  obtain ⟨h3,h4⟩ := zfd id s zs xs
  rw [h4 j hj (by rw [← h3]; exact hj),zul,(zfd id s zs _).1]
  exact h2 _ (List.getElem_mem _)
 | _ => trivial
theorem ypg {id s : Nat} {zs : List AV} {b : Blk} : (b.fg id s zs).len = b.len := by
 cases b with
 | g s' xs => exact (zfd id s zs xs).1
 | _ => rfl
theorem zso {id s : Nat} {zs : List AV} : ∀ {H : Heap} {k : Nat} {b : Blk},look (fgH id s zs H) k = some b → k ≠ id ∧ ∃ c,look H k = some c ∧ b = c.fg id s zs
 | [],k,b,h => by simp [fgH,look] at h
 | p :: r,k,b,h => by
  have e : look (p :: r) k = if p.1 = k then some p.2 else look r k := zao r p.1 k p.2
  unfold fgH at h
  by_cases hp : p.1 = id
  ·have : (p.1 == id) = true := by simpa using hp
   rw [this] at h
   obtain ⟨h1,c,h2,h3⟩ := zso h
   exact ⟨h1,c,by rw [e,if_neg (by omega)]; exact h2,h3⟩
  ·have : (p.1 == id) = false := by simpa using hp
   rw [this] at h
   have e2 : look ((p.1,p.2.fg id s zs) :: fgH id s zs r) k = if p.1 = k then some (p.2.fg id s zs) else look (fgH id s zs r) k := zao (fgH id s zs r) p.1 k _
   simp only [cond_false] at h
   rw [e2] at h
   split at h
   ·rename_i hk
    injection h with h
    exact ⟨by omega,p.2,by rw [e,if_pos hk],h.symm⟩
   ·rename_i hk
    obtain ⟨h1,c,h2,h3⟩ := zso h
    exact ⟨h1,c,by rw [e,if_neg hk]; exact h2,h3⟩
theorem zzk {id s : Nat} {zs : List AV} : ∀ (sl : List AV) (t : Nat),slot (fgL id s zs sl) t = (slot sl t).fg id s zs
 | [],t => rfl
 | x :: xs,0 => rfl
 | x :: xs,t + 1 => zzk xs t
theorem yoy {w0 : World} {E : Nat → Prop} {B : Bs} {w : World} {loc : Loc} {a : Act} {sl : List AV} {H : Heap} {nx : Nat} {id s : Nat} {zs : List AV} (hB : Base w0 B w loc) (hr : Rel' w0 E loc ⟨sl,H,nx⟩ a w) (hlive : loc.m id ≠ .free) (hblk : BlkR w loc id (.g s zs)) (hcl : closedL zs = true) :
  Base w0 B w (loc.set id .dead) ∧ Rel' w0 E (loc.set id .dead) ⟨fgL id s zs sl,fgH id s zs H,nx⟩ a w := by
 have hor : (loc.m id = .nil ∧ zs = []) ∨ ∃ b,loc.m id = .here b ∧ b < w.heap.size ∧ Lies w loc (.g s zs) b ∧ (∀ k,loc.m k = .here b → k = id) ∧ ¬ loc.bad b := by
  unfold BlkR at hblk
  cases e : loc.m id with
  | free => exact (hlive e).elim
  | dead => rw [e] at hblk; exact hblk.elim
  | nil => rw [e] at hblk; exact .inl ⟨rfl,List.eq_nil_of_length_eq_zero hblk.2⟩
  | here b =>
   rw [e] at hblk
   have h1 := hr.env.lies id b e
   refine .inr ⟨b,rfl,h1.1,hblk.2,fun k hk => hr.env.inj k id b hk e,fun hb => ?_⟩
   have h2 := hr.env.bad b hb
   rcases h1.2 with h3 | h3
   ·omega
   ·exact h2.2 h3
 have hok : Blk.ok (.g s zs) := by
  unfold BlkR at hblk
  cases e : loc.m id with
  | free => exact (hlive e).elim
  | dead => rw [e] at hblk; exact hblk.elim
  | nil => rw [e] at hblk; exact hblk.1
  | here b => rw [e] at hblk; exact hblk.1
 have hset : ∀ {k c},(loc.set id .dead).m k = .here c → loc.m k = .here c := by
  intro k c h
  by_cases hk : k = id
  ·subst hk; rw [Loc.set_same] at h; cases h
  ·rwa [Loc.set_other _ _ hk] at h
 refine ⟨⟨hB.1,hB.2.1,fun k hk => ?_⟩,⟨?_,fun t => ?_,?_,⟨hr.env.os,hr.env.tape,hr.env.output,hr.env.size,hr.env.same,fun i j b h1 h2 => hr.env.inj i j b (hset h1) (hset h2),fun i b h1 => hr.env.lies i b (hset h1),hr.env.bad⟩,?_,hr.defers,?_⟩⟩
 ·by_cases hne : k = id
  ·subst hne; left; rw [Loc.set_same]
  ·rw [Loc.set_other _ _ hne]; exact hB.2.2 k hk
 ·rw [hr.size]; exact ((zfd id s zs sl).1).symm
 ·simp only; rw [zzk]; exact fg_R hcl hok hor (hr.slots t)
 ·intro k b hk
  obtain ⟨h1,c,h2,rfl⟩ := zso hk
  have h3 := hr.heap k c h2
  unfold BlkR at h3 ⊢
  rw [Loc.set_other _ _ h1]
  split
  ·trivial
  ·rename_i e; rw [e] at h3; exact h3
  ·rename_i e; rw [e] at h3; exact ⟨yne h3.1,by rw [ypg]; exact h3.2⟩
  ·rename_i d e
   rw [e] at h3
   rcases zbc c with ⟨x,hx,rfl⟩ | hodd
   ·exact ⟨yne h3.1,.mkO (Thing.move (loc := loc) (fun c _ hM => hM.imp (fun h => h) (fun ⟨k,h⟩ => ⟨k,hset h⟩)) (h3.2.is hx)) rfl⟩
   obtain ⟨cur,el,fz,g1,g2,g3,g4,g5⟩ := h3.2.lies hodd
   have hlen : (c.fg id s zs).flat.length = c.flat.length := by rw [yhm,(zfd id s zs _).1]
   refine ⟨yne h3.1,.mkC ⟨cur,el,fz,g1,by rw [ymz]; exact g2,g3,by omega,fun j x y => ?_⟩ (odd_fg.trans hodd)⟩
   have h6 := g5 j (by omega) y
   have e : (c.fg id s zs).flat[j] = (c.flat[j]'(by omega)).fg id s zs := by
    have := (zfd id s zs c.flat).2 j (by rw [(zfd id s zs _).1]; omega) (by omega)
    rw [← this]
    congr 1
    exact yhm id s zs c
   rw [e]
   exact ⟨yhq h6.1,fg_R hcl hok hor h6.2⟩
 ·intro k hk
  by_cases hne : k = id
  ·exact (hlive (hne ▸ hr.fresh k hk)).elim
  ·rw [Loc.set_other _ _ hne]; exact hr.fresh k hk
 ·intro k b hk
  obtain ⟨h1,c,h2,rfl⟩ := zso hk
  exact hr.low k c h2
theorem zhf {sl : List AV} {H : Heap} {nx : Nat} (id s i : Nat) (zs : List AV) (hl : look H id = some (.g s zs)) (hcl : closedL zs = true) (hi : id ∈ (slot sl i).ids) : Weak ⟨sl,H,nx⟩ ⟨fgL id s zs sl,fgH id s zs H,nx⟩ := by
 rintro w0 E B a w ⟨loc,hB,hr⟩
 obtain ⟨h1,h2⟩ := yoy hB hr (zfn _ _ (hr.slots i) hi) (hr.heap id _ hl) hcl
 exact ⟨_,h1,h2⟩
end Ax
end Go.Proofs.Ytffdpbbbdmmdlaa
namespace Go.Proofs.Ytffdpbbbdmmdlaa
namespace Ax
section
variable {P : Program}
theorem yfl {w0 : World} {E : Nat → Prop} {w w' : World} {loc : Loc} {wr : Bool} {H : Heap} {nm : Nat} {x : AV} {v : Value} {o : Obj} (he : Env w0 E w loc) (hh : HR w loc H) (hp : zlf w w' o) (hx : Ext (fun _ => False) w loc w' loc → R w' loc x v) :
  Post w0 E w loc wr nm x H v w' loc := by
 have hsz : w'.heap.size = w.heap.size + 1 := by rw [hp.heap]; simp
 have hext : Ext (fun _ => False) w loc w' loc :=
  ⟨by omega,fun _ _ _ => rfl,fun _ _ h => h.elim,fun b hb hm => ⟨zbj hp hb,hm⟩,fun id b h1 _ => zbj hp (he.lies id b h1).1,fun b cur el fz' h2 => ⟨cur,fz',(zbj hp (Array.getElem?_eq_some_iff.1 h2).1).trans h2,rfl⟩⟩
 refine ⟨hx hext,fun id b hb => ?_,⟨hp.os.trans he.os,hp.tape.trans he.tape,hp.output.trans he.output,by have := he.size; omega,fun b hb hE => (zbj hp (by have := he.size; omega)).trans (he.same b hb hE),he.inj,fun i b hi => by have := he.lies i b hi; exact ⟨by omega,this.2⟩,he.bad⟩,⟨_,hext,fun _ _ h => h⟩,fun _ h h' => (h' h).elim,rfl⟩
 by_cases hfr : loc.m id = .free
 ·exact BlkR.free hfr
 ·exact (hh id b hb).ext hext (fun h => h) hfr
end
end Ax
end Go.Proofs.Ytffdpbbbdmmdlaa
namespace Go.Proofs.Ytffdpbbbdmmdlaa
namespace Ax
open Go.RowKit
def frzS (i : Nat) (q : Prop × List AV × Heap) : Prop × List AV × Heap :=
 match slot q.2.1 i with
 | .ms id _ _ _ => match look q.2.2 id with
  | some (.b bs) => (q.1,fzL id bs q.2.1,fzH id bs q.2.2)
  | some (.g s xs) => (q.1 ∧ closedL xs = true,fgL id s xs q.2.1,fgH id s xs q.2.2)
  | some (.i ns) => (q.1,fiL id ns q.2.1,fiH id ns q.2.2)
  | _ => q
 | _ => q
def frzL : List Nat → Prop × List AV × Heap → Prop × List AV × Heap
 | [],q => q
 | i :: r,q => frzL r (frzS i q)
def frzK (l : List Nat) (sl : List AV) (H : Heap) (K : List AV → Heap → Prop) : Prop := (frzL l (True,sl,H)).1 ∧ K (frzL l (True,sl,H)).2.1 (frzL l (True,sl,H)).2.2
theorem ydj {i : Nat} {q : Prop × List AV × Heap} {nx : Nat} (h : (frzS i q).1) : q.1 ∧ Weak ⟨q.2.1,q.2.2,nx⟩ ⟨(frzS i q).2.1,(frzS i q).2.2,nx⟩ := by
 unfold frzS at h ⊢
 split at h
 ·rename_i id s off len hs
  split at h
  ·rename_i bs hl
   exact ⟨h,ymu id i bs hl (by rw [hs]; simp [AV.ids])⟩
  ·rename_i s' xs hl
   exact ⟨h.1,zhf id s' i xs hl h.2 (by rw [hs]; simp [AV.ids])⟩
  ·rename_i ns hl
   exact ⟨h,znc id i ns hl (by rw [hs]; simp [AV.ids])⟩
  ·exact ⟨h,Weak.refl _⟩
 ·exact ⟨h,Weak.refl _⟩
theorem zqu {nx : Nat} : ∀ (l : List Nat) (q : Prop × List AV × Heap),(frzL l q).1 → q.1 ∧ Weak ⟨q.2.1,q.2.2,nx⟩ ⟨(frzL l q).2.1,(frzL l q).2.2,nx⟩
 | [],q,h => ⟨h,Weak.refl _⟩
 | i :: r,q,h => by
  obtain ⟨h1,h2⟩ := zqu (nx := nx) r _ h
  obtain ⟨h3,h4⟩ := ydj (nx := nx) h1
  exact ⟨h3,h4.trans h2⟩
theorem zqv {nx : Nat} (l : List Nat) (sl : List AV) (H : Heap) (K : List AV → Heap → Prop) (h : frzK l sl H K) : ∃ sl' H',Weak ⟨sl,H,nx⟩ ⟨sl',H',nx⟩ ∧ K sl' H' :=
 ⟨_,_,(zqu l _ h.1).2,h.2⟩
abbrev yqw := Nat → Option (List Nat × Option Nat)
open Classical in
theorem ycg {P : Program} {T : zab} {S : zae} (hT : TOk P T) (hS : Fns P S) {f : FuncId} {fn : Func} {c : Code} (hf : P.funcs[f]? = some fn) (hb : fn.body = some c) {spec : zaz} {Qp : List AV → List Blk → Exit → ASt → Prop}
  (hqp : ∀ xs pins e σ,Qp xs pins e σ → ∃ σ',Weak σ σ' ∧ Ends T fn.results.toList pins (spec xs pins) e σ')
  (h : ∀ xs pins,(spec xs pins).p → closedB pins = true → pins.length ≤ 4 ∧ ∀ w0 E B a w,Rel w0 E B ⟨xs ++ List.replicate (fn.ntmps - xs.length) .junk,pinHeap 0 pins,4⟩ a w → c.wp P (Low w0 E B (Qp xs pins)) a w) : zbk P f spec := by
 intro xs pins hp hcl w bad pb vs hlen hnd hbad hlies hxl hx
 obtain ⟨hp4,h⟩ := h xs pins hp hcl
 refine calls_of_wp hf hb ?_
 have hrel : Rel w (· ∈ pb) ⟨bad,pb⟩ ⟨xs ++ List.replicate (fn.ntmps - xs.length) .junk,pinHeap 0 pins,4⟩ { tmps := vs.toArray ++ Array.replicate (fn.ntmps - vs.toArray.size) undef,defers := [] } w := by
  refine ⟨zap pb bad,⟨⟨rfl,fun k hk cur e fz hh => ⟨cur,fz,hh,rfl⟩⟩,by simp only; omega,fun k hk => .inr ⟨by simp [zap,List.getElem?_eq_getElem hk],fun cur e fz hh => ⟨cur,fz,hh,rfl⟩⟩⟩,?_⟩
  refine ⟨by simp [hxl],fun t => ?_,?_,?_,?_,rfl,fun id b hl => ?_⟩
  ·simp only
   rw [zcy]
   by_cases ht : t < xs.length
   ·have e1 : (xs ++ List.replicate (fn.ntmps - xs.length) AV.junk).getD t .junk = xs[t] := by simp [List.getElem?_append_left,ht]
    have e2 : (vs.toArray ++ Array.replicate (fn.ntmps - vs.toArray.size) undef).getD t undef = vs[t]'(by omega) := by
     have : t < vs.length := by omega
     simp [Array.getD_eq_getD_getElem?,Array.getElem?_append,this]
    rw [e1,e2]
    exact hx t ht _
   ·have e1 : (xs ++ List.replicate (fn.ntmps - xs.length) AV.junk).getD t .junk = .junk := by
     rw [List.getD_eq_getElem?_getD,List.getElem?_append_right (by omega),List.getElem?_replicate]
     split <;> rfl
    rw [e1]; exact .junk _
  ·intro id b hl
   obtain ⟨j,hj,rfl,rfl⟩ := zca pins 0 id b hl
   have hj' : j < pb.length := by omega
   unfold BlkR
   have : (zap pb bad).m (0 + j) = .here pb[j] := by simp [zap,List.getElem?_eq_getElem hj']
   rw [this]
   exact hlies j hj hj'
  ·refine ⟨rfl,rfl,rfl,Nat.le_refl _,fun _ _ _ => rfl,?_,?_,?_⟩
   ·intro i j b hi hj
    obtain ⟨h1,h2⟩ := zch hi
    obtain ⟨h3,h4⟩ := zch hj
    exact zda hnd (h2.trans h4.symm)
   ·intro i b hi
    obtain ⟨h1,h2⟩ := zch hi
    subst h2
    refine ⟨?_,.inr (List.getElem_mem h1)⟩
    obtain ⟨ob,hh⟩ := zlt (hlies i (by omega) h1).2
    rcases Nat.lt_or_ge pb[i] w.heap.size with h' | h'
    ·exact h'
    ·rw [Array.getElem?_eq_none h'] at hh; cases hh
   ·exact fun b hb => hbad b hb
  ·intro id hid
   simp only at hid
   have : pb[id]? = none := List.getElem?_eq_none (by omega)
   simp [zap,this]
  ·obtain ⟨j,hj,rfl,_⟩ := zca pins 0 id b hl
   simp; omega
 refine wp_mono (h _ _ _ _ w hrel) ?_
 have main : ∀ a w' σ,Rel w (· ∈ pb) ⟨bad,pb⟩ σ a w' → (rvals T σ.H σ.sl fn.results.toList).1 ∧ EndsX pins (spec xs pins) (rone (rvals T σ.H σ.sl fn.results.toList).2) σ →
   a.defers = [] ∧ ∃ v,(results fn a.tmps).run P w' = .ok v w' ∧ ∃ v' loc',Ending.returned v = .returned v' ∧ yjm w bad pb (spec xs pins) v' w' loc' := by
  rintro a w' σ ⟨loc,hB,hr⟩ ⟨hrv,hnodup,hpin,hbl,hren⟩
  obtain ⟨v,hv,hR⟩ := zkh (P := P) (fn := fn) hT hr.heap hr.slots hrv
  refine ⟨hr.defers,v,hv,v,?_⟩
  generalize rone (rvals T σ.H σ.sl fn.results.toList).2 = x at hnodup hpin hbl hren hR
  have hnd' := zew hnodup
  obtain ⟨hids1,hids2⟩ := zfz x.ids (upTo 0 pins)
  obtain ⟨hu1,hu2⟩ := zmn pins 0
  generalize hids : newIds (upTo 0 pins) x.ids = ids at hnodup hpin hbl hren hnd' hids1 hids2
  obtain ⟨hpl,hpc,hpg⟩ := zem hpin
  rw [hbl] at hpl hpc hpg
  obtain ⟨t,rfl⟩ := hids1
  have hm : pins.length ≤ (upTo 0 pins ++ t).length := by simp [hu1]
  have hold : ∀ k,(hk : k < pins.length) → (upTo 0 pins ++ t)[k]'(by omega) = k := by
   intro k hk
   rw [List.getElem_append_left (by omega)]
   have := hu2 k (by omega)
   omega
  -- every one of the names is alive
  have hlive : ∀ (k : Nat) (hk : k < (upTo 0 pins ++ t).length),loc.m (upTo 0 pins ++ t)[k] ≠ .free := by
   intro k hk
   rcases hids2 _ (List.getElem_mem hk) with hi | hi
   ·obtain ⟨j,hj,he⟩ := List.getElem_of_mem hi
    rw [← he,hu2 j hj]
    have hj' : j < pb.length := by omega
    rcases hB.2.2 j hj' with h1 | ⟨h1,_⟩
    ·rw [Nat.zero_add,h1]; simp
    ·rw [Nat.zero_add,h1]; simp
   ·exact zfn x v hR hi
  have hblk : ∀ (k : Nat) (hk : k < (upTo 0 pins ++ t).length) (hk' : k < (spec xs pins).bl.length),BlkR w' loc (upTo 0 pins ++ t)[k] (spec xs pins).bl[k] := by
   intro k hk hk'
   refine hr.heap _ _ ?_
   rw [hpg k hk,List.getElem?_eq_getElem hk']
  have hdead : ∀ (k : Nat) (hk : k < (upTo 0 pins ++ t).length),loc.m (upTo 0 pins ++ t)[k] ≠ .dead := by
   intro k hk e
   have := hblk k hk (by omega)
   unfold BlkR at this
   rw [e] at this
   exact this
  let g : Nat → Nat := gOf (upTo 0 pins ++ t) σ.nx
  have hgo : ∀ k,(hk : k < (upTo 0 pins ++ t).length) → g k = (upTo 0 pins ++ t)[k] := fun k hk => zfa hk
  have hgn : ∀ k,(upTo 0 pins ++ t).length ≤ k → loc.m (g k) = .free := by
   intro k hk
   refine hr.fresh _ ?_
   show σ.nx ≤ gOf _ σ.nx k
   rw [zed hk]; omega
  let loc' : Loc := { m := fun k => loc.m (g k),bad := loc.bad }
  have hlt : ∀ i b,loc'.m i = .here b → i < (upTo 0 pins ++ t).length := by
   intro i b hi
   rcases Nat.lt_or_ge i (upTo 0 pins ++ t).length with h' | h'
   ·exact h'
   ·have : loc'.m i = .free := hgn i h'
    rw [this] at hi; cases hi
  have hinj : ∀ i j b,loc'.m i = .here b → loc'.m j = .here b → i = j := by
   intro i j b hi hj
   have h1 := hlt i b hi
   have h2 := hlt j b hj
   have h3 : g i = g j := hr.env.inj (g i) (g j) b hi hj
   rw [hgo i h1,hgo j h2] at h3
   exact zda hnd' h3
  have hpb : ∀ (k : Nat) (hk : k < pb.length),loc'.m k = .here pb[k] ∧ ∀ cur e fz,w.heap[pb[k]]? = some (.cells cur e fz) → ∃ cur' fz',w'.heap[pb[k]]? = some (.cells cur' e fz') ∧ cur'.size = cur.size := by
   intro k hk
   have hk1 : k < pins.length := by omega
   have e : loc'.m k = loc.m k := by
    show loc.m (g k) = loc.m k
    rw [hgo k (by omega),hold k hk1]
   rcases hB.2.2 k hk with h1 | ⟨h1,h2⟩
   ·have := hdead k (by omega)
    rw [hold k hk1] at this
    exact (this h1).elim
   ·exact ⟨e.trans h1,h2⟩
  refine ⟨loc',rfl,?_⟩
  refine ⟨yed (loc2 := loc') (g := g) (fun _ => rfl) rfl hR _ hren,hB.1.1,?_,fun k hk => (hpb k hk).1,?_,?_,hinj,?_⟩
  ·intro k hk
   have hk' : k < (upTo 0 pins ++ t).length := by omega
   have e : loc'.m k = loc.m (upTo 0 pins ++ t)[k] := by show loc.m (g k) = _; rw [hgo k hk']
   refine ⟨?_,by rw [e]; exact hlive k hk',by rw [e]; exact hdead k hk'⟩
   have hb := hblk k hk' hk
   unfold BlkR at hb ⊢
   rw [e]
   split
   ·trivial
   ·rename_i e'; rw [e'] at hb; exact hb
   ·rename_i e'; rw [e'] at hb; exact hb
   ·rename_i b e'
    rw [e'] at hb
    refine ⟨hb.1,zga hb.2 (zfe hpc k hk) (.inr ?_)⟩
    rintro c _ (h | ⟨i,h⟩)
    ·exact .inl h
    ·exact .inr ⟨g i,h⟩
  ·intro k b hk hkb
   have := hr.env.lies (g k) b hkb
   refine ⟨?_,this.1⟩
   rcases this.2 with h' | h'
   ·exact h'
   ·obtain ⟨j,hj,he⟩ := List.getElem_of_mem h'
    have h1 := (hpb j hj).1
    rw [he] at h1
    have := hinj k j b hkb h1
    omega
  ·intro k hk
   exact hgn k (by omega)
  ·refine ⟨hr.env.os,hr.env.tape,hr.env.output,hr.env.size,hr.env.same,?_⟩
   rintro b cur e fz hb hh
   obtain ⟨j,hj,rfl⟩ := List.getElem_of_mem hb
   exact (hpb j hj).2 cur e fz hh
 rintro e a w' ⟨σ0,hr0,hq0⟩
 obtain ⟨σ,hwk,hq⟩ := hqp xs pins e σ0 hq0
 have hr := hwk _ _ _ _ _ hr0
 cases e with
 | normal => exact main a w' σ hr hq
 | ret => exact main a w' σ hr hq
 | _ => exact hq.elim
section rules
variable {S : zae} {T : zab} {pl : yqw} {Q : Exit → ASt → Prop} {σ : ASt}
variable {ops r : List Oper} {o : Oper} {nm k : Nat} {sl : List AV} {H : Heap} {Q' : List AV → Heap → Prop}
theorem ykw {l : List Nat} {K : List AV → Heap → Prop} : frzK l sl H K = ((frzL l (True,sl,H)).1 ∧ K (frzL l (True,sl,H)).2.1 (frzL l (True,sl,H)).2.2) := rfl
end rules
end Ax
end Go.Proofs.Ytffdpbbbdmmdlaa
namespace Go.Proofs.Ytffdpbbbdmmdlaa
open Ax
open Ax
attribute [go_sem] Blk.fz Blk.fi Blk.fg
attribute [go_sem ↓] ykw
end Go.Proofs.Ytffdpbbbdmmdlaa
