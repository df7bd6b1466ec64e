/- What the proofs of this seat stand on; it asks nothing. -/
import Derived.Test.YtebacgkeoefnkaaZa05
set_option linter.unusedSimpArgs false
set_option linter.unusedVariables false
namespace Go.Proofs.Ytebacgkeoefnkaa
namespace Ax
open Go.RowKit
theorem wf_i64 {n : Int} (h : (Lit.int .i64 n).wf = true) : -9223372036854775808 ≤ n ∧ n ≤ 9223372036854775807 := by
 simp only [Lit.wf,Bool.and_eq_true,decide_eq_true_eq] at h
 have h1 : IntKind.min .i64 = -9223372036854775808 := by decide
 have h2 : IntKind.max .i64 = 9223372036854775807 := by decide
 rw [h1,h2] at h; exact h
theorem wf_u8 {n : Int} (h : (Lit.int .u8 n).wf = true) : 0 ≤ n ∧ n < 256 := by
 simp only [Lit.wf,Bool.and_eq_true,decide_eq_true_eq] at h
 have h1 : IntKind.min .u8 = 0 := by decide
 have h2 : IntKind.max .u8 = 255 := by decide
 rw [h1,h2] at h; omega
def IsRow (k : IntKind) (w : World) (a : Option Addr) (len cap : Nat) (zs : List Int) : Prop :=
 (a = none ∧ len = 0 ∧ cap = 0 ∧ zs = []) ∨
 ∃ x,a = some x ∧ len ≤ cap ∧ cap ≤ maxLen ∧ zs.length = cap ∧ (∀ i,i < zs.length → w.cell? (x.add i) = some (.int k (zs.getD i 0))) ∧ ∀ n ∈ zs,(Lit.int k n).wf = true
theorem ydx (b : Nat) : ¬ Mut loc0 b := by
 rintro (h | ⟨k,h⟩)
 ·exact h
 ·simp [loc0,zav] at h
theorem zzo {k : IntKind} {w : World} {x : Addr} {zs : List Int} (hz : ∀ i,i < zs.length → w.cell? (x.add i) = some (.int k (zs.getD i 0))) (cs : List Value) (hn : cs.length ≤ zs.length)
  (hc : ∀ (j : Nat) (h : j < cs.length),cs[j] = .int k (zs.getD j 0)) : Cells w loc0 (some x) cs := by
 by_cases h0 : cs = []
 ·exact ⟨.inl h0⟩
 ·have hl : 0 < cs.length := by
   cases cs with
   | nil => exact (h0 rfl).elim
   | cons => simp
  have h1 := hz 0 (by omega)
  rw [show x.add 0 = x from rfl] at h1
  have hx : x.spot = none ∧ x.block < w.heap.size := by
   unfold World.cell? at h1
   split at h1
   ·rename_i c e fz hh
    split at h1
    ·cases h1
    ·rename_i hs
     refine ⟨by simpa using hs,?_⟩
     rcases Nat.lt_or_ge x.block w.heap.size with h' | h'
     ·exact h'
     ·rw [Array.getElem?_eq_none h'] at hh; cases hh
   ·cases h1
  obtain ⟨b,o,sp⟩ := x
  obtain ⟨rfl,hb⟩ := hx
  refine ⟨.inr ⟨b,o,rfl,ydx b,hb,fun j hj => ?_⟩⟩
  have h2 := hz j (by omega)
  rw [hc j hj,← h2]
  cases j with
  | zero => rfl
  | succ j => rfl
theorem row_sb {w : World} {a : Option Addr} {len cap : Nat} {zs : List Int} (h : IsRow .u8 w a len cap zs) : ∃ bs : List UInt8,bs.length = len ∧ len ≤ maxLen ∧ R w loc0 (.sb bs false) (.slice a len cap) := by
 rcases h with ⟨rfl,rfl,rfl,rfl⟩ | ⟨x,rfl,hl,hm,hz,hcell,hwf⟩
 ·exact ⟨[],rfl,Nat.zero_le _,.sb [] false none 0 ⟨Nat.le_refl _,Nat.zero_le _,fun h => by cases h⟩ ⟨.inl rfl⟩⟩
 ·have hlen : ((zs.take len).map fun n => UInt8.ofNat n.toNat).length = len := by simp; omega
  refine ⟨(zs.take len).map fun n => UInt8.ofNat n.toNat,hlen,by omega,?_⟩
  have := R.sb (w := w) (loc := loc0) ((zs.take len).map fun n => UInt8.ofNat n.toNat) false (some x) cap ⟨by omega,hm,fun h => by cases h⟩
   (zzo hcell _ (by simp; omega) (fun j hj => by
    have hj' : j < zs.length := by simp at hj; omega
    have hw := wf_u8 (hwf zs[j] (List.getElem_mem _))
    simp only [List.getElem_map,List.getElem_take,byte]
    have e : zs.getD j 0 = zs[j] := by simp [hj']
    rw [e]
    congr 1
    rw [UInt8.toNat_ofNat']
    omega))
  rw [hlen] at this
  exact this
theorem row_si {w : World} {a : Option Addr} {len cap : Nat} {zs : List Int} (h : IsRow .i64 w a len cap zs) : ∃ ns : List Int,ns.length = len ∧ len ≤ maxLen ∧ (∀ n ∈ ns,-9223372036854775808 ≤ n ∧ n ≤ 9223372036854775807) ∧ R w loc0 (.si ns false) (.slice a len cap) := by
 rcases h with ⟨rfl,rfl,rfl,rfl⟩ | ⟨x,rfl,hl,hm,hz,hcell,hwf⟩
 ·exact ⟨[],rfl,Nat.zero_le _,by simp,.si [] false none 0 ⟨Nat.le_refl _,Nat.zero_le _,fun h => by cases h⟩ ⟨.inl rfl⟩⟩
 ·have hlen : (zs.take len).length = len := by simp; omega
  refine ⟨zs.take len,hlen,by omega,fun n hn => wf_i64 (hwf n (List.mem_of_mem_take hn)),?_⟩
  have := R.si (w := w) (loc := loc0) (zs.take len) false (some x) cap ⟨by omega,hm,fun h => by cases h⟩
   (zzo hcell _ (by simp; omega) (fun j hj => by
    have hj' : j < zs.length := by simp at hj; omega
    simp only [List.getElem_map,List.getElem_take,word]
    have e : zs.getD j 0 = zs[j] := by simp [hj']
    rw [e]))
  rw [hlen] at this
  exact this
theorem str_R (w : World) (s : ByteArray) : R w loc0 (.str s.data.toList) (.string s) := by
 have := R.str (w := w) (loc := loc0) s.data.toList
 simpa using this
def RL (w : World) : List AV → List Value → Prop
 | [],[] => True
 | x :: xs,v :: vs => R w loc0 x v ∧ RL w xs vs
 | _,_ => False
theorem yov {w : World} : ∀ {xs : List AV} {vs : List Value},RL w xs vs → xs.length = vs.length ∧ ∀ (j : Nat) (h : j < xs.length) (h' : j < vs.length),R w loc0 xs[j] vs[j]
 | [],[],_ => ⟨rfl,fun j h => by simp at h⟩
 | x :: xs,v :: vs,h => by
  obtain ⟨h1,h2⟩ := yov h.2
  refine ⟨by simp [h1],fun j a b => ?_⟩
  cases j with
  | zero => exact h.1
  | succ j => exact h2 j (by simpa using a) (by simpa using b)
 | [],_ :: _,h => h.elim
 | _ :: _,[],h => h.elim
theorem law_runL {P : Program} {f : FuncId} {spec : zas} (h : zbg P f spec) {xs : List AV} {vs : List Value} {w : World} (hp : (spec xs []).p) (hx : (spec xs []).x = .w (.bool true)) (hR : RL w xs vs) :
  Calls P f vs.toArray w fun e w' => e = .returned (.bool true) ∧ Below w.heap.size w w' :=
 ytt h hp hx (yov hR).1 (yov hR).2
end Ax
end Go.Proofs.Ytebacgkeoefnkaa
namespace Go.Proofs.Ytebacgkeoefnkaa
open Ax
theorem evT : (type_of% @yga) ∧
  (type_of% @zzv) ∧
  (type_of% @yoh) ∧
  (type_of% @ygb) ∧
  (type_of% @ztx) ∧
  (type_of% @yog) ∧
  (type_of% @zzw) ∧
  (type_of% @ygc) ∧
  (type_of% @ygi) ∧
  (type_of% @zue) ∧
  (type_of% @zuf) ∧
  (type_of% @ztc) ∧
  (type_of% @zxz) ∧
  (type_of% @zmy) ∧
  (type_of% @zrk) ∧
  (type_of% @ztv) ∧
  (type_of% @zst) ∧
  (type_of% @true_and) ∧
  (type_of% @and_true) ∧
  (type_of% @Nat.le_refl) ∧
  (type_of% @false_implies) ∧
  (type_of% @List.nil_append.{0}) ∧
  (type_of% @List.append_nil.{0}) ∧
  (type_of% @List.cons_append.{0}) ∧
  (type_of% @Nat.zero_le) ∧
  (type_of% @Bool.false_eq_true) ∧
  (type_of% @cond_false.{1}) ∧
  (type_of% @cond_true.{1}) ∧
  (type_of% @List.getElem?_cons_succ.{0}) ∧
  (type_of% @List.getElem?_cons_zero.{0}) ∧
  (type_of% @ne_eq.{1}) ∧
  (type_of% @not_false_eq_true) ∧
  (type_of% @and_self) ∧
  (type_of% @true_implies) ∧
  (type_of% @AV.w.injEq) ∧
  (type_of% @Nat.min_def) ∧
  (type_of% @List.set_cons_zero.{0}) ∧
  (type_of% @List.set_cons_succ.{0}) ∧
  (type_of% @List.replicate_succ.{0}) ∧
  (type_of% @List.replicate_zero.{0}) ∧
  (type_of% @List.length_append.{0}) ∧
  (type_of% @List.length_cons.{0}) ∧
  (type_of% @List.length_nil.{0}) ∧
  (type_of% @Nat.zero_add) ∧
  (type_of% @Nat.add_zero) ∧
  (type_of% @Bool.not_true) ∧
  (type_of% @Bool.not_false) ∧
  (type_of% @Bool.true_and) ∧
  (type_of% @Bool.and_true) ∧
  (type_of% @Bool.and_false) ∧
  (type_of% @Bool.false_and) ∧
  (type_of% @not_true_eq_false) ∧
  (type_of% @not_false_iff) ∧
  (type_of% @or_false) ∧
  (type_of% @or_true) ∧
  (type_of% @false_or) ∧
  (type_of% @true_or) ∧
  (type_of% @Int.toNat_natCast) ∧
  (type_of% @List.length_replicate.{0}) ∧
  (type_of% @zyk) ∧
  (type_of% @zyl) ∧
  (type_of% @yew) ∧
  (type_of% @beq_self_eq_true.{0}) ∧
  (type_of% @BEq.rfl.{0}) ∧
  (type_of% @List.mem_cons.{0}) ∧
  (type_of% @List.not_mem_nil.{0}) ∧
  (type_of% @List.all_cons.{0}) ∧
  (type_of% @List.all_nil.{0}) ∧
  (type_of% @Bool.or_false) ∧
  (type_of% @Bool.or_true) ∧
  (type_of% @Bool.true_or) ∧
  (type_of% @Bool.false_or) ∧
  (type_of% @decide_true) ∧
  (type_of% @decide_false) ∧
  (type_of% @Value.int.injEq) ∧
  (type_of% @Value.bool.injEq) ∧
  (type_of% @IntKind.wrap_u8) ∧
  (type_of% @IntKind.wrap_u64) ∧
  (type_of% @IntKind.wrap_i64) :=
 ⟨@yga,@zzv,@yoh,@ygb,@ztx,@yog,@zzw,@ygc,@ygi,@zue,@zuf,@ztc,@zxz,@zmy,@zrk,@ztv,@zst,@true_and,@and_true,@Nat.le_refl,@false_implies,@List.nil_append.{0},@List.append_nil.{0},@List.cons_append.{0},@Nat.zero_le,@Bool.false_eq_true,@cond_false.{1},@cond_true.{1},@List.getElem?_cons_succ.{0},@List.getElem?_cons_zero.{0},@ne_eq.{1},@not_false_eq_true,@and_self,@true_implies,@AV.w.injEq,@Nat.min_def,@List.set_cons_zero.{0},@List.set_cons_succ.{0},@List.replicate_succ.{0},@List.replicate_zero.{0},@List.length_append.{0},@List.length_cons.{0},@List.length_nil.{0},@Nat.zero_add,@Nat.add_zero,@Bool.not_true,@Bool.not_false,@Bool.true_and,@Bool.and_true,@Bool.and_false,@Bool.false_and,@not_true_eq_false,@not_false_iff,@or_false,@or_true,@false_or,@true_or,@Int.toNat_natCast,@List.length_replicate.{0},@zyk,@zyl,@yew,@beq_self_eq_true.{0},@BEq.rfl.{0},@List.mem_cons.{0},@List.not_mem_nil.{0},@List.all_cons.{0},@List.all_nil.{0},@Bool.or_false,@Bool.or_true,@Bool.true_or,@Bool.false_or,@decide_true,@decide_false,@Value.int.injEq,@Value.bool.injEq,@IntKind.wrap_u8,@IntKind.wrap_u64,@IntKind.wrap_i64⟩
theorem evD0 : (type_of% @Ax.slot.eq_1) ∧
  (type_of% @Ax.slot.eq_2) ∧
  (type_of% @Ax.slot.eq_3) ∧
  (type_of% @Ax.setSlot.eq_1) ∧
  (type_of% @Ax.setSlot.eq_2) ∧
  (type_of% @Ax.setSlot.eq_3) ∧
  (type_of% @Ax.Out.and.eq_1) ∧
  (type_of% @Ax.isBool.eq_1) ∧
  (type_of% @Ax.isPtr.eq_1) ∧
  (type_of% @Ax.evs.eq_1) ∧
  (type_of% @Ax.evs.eq_2) ∧
  (type_of% @Ax.evps.eq_1) ∧
  (type_of% @Ax.evps.eq_2) ∧
  (type_of% @Ax.aCall.eq_1) ∧
  (type_of% @Ax.aUser.eq_1) ∧
  (type_of% @Ax.coes.eq_1) ∧
  (type_of% @Ax.coes.eq_2) ∧
  (type_of% @Ax.callOut.eq_1) ∧
  (type_of% @Ax.rootsL.eq_1) ∧
  (type_of% @Ax.rootsL.eq_2) ∧
  (type_of% @Ax.AV.roots.eq_1) ∧
  (type_of% @Ax.AV.roots.eq_2) ∧
  (type_of% @Ax.AV.roots.eq_3) ∧
  (type_of% @Ax.AV.roots.eq_4) ∧
  (type_of% @Ax.lendsL.eq_1) ∧
  (type_of% @Ax.lendsL.eq_2) ∧
  (type_of% @Ax.AV.lends.eq_1) ∧
  (type_of% @Ax.AV.lends.eq_2) ∧
  (type_of% @Ax.AV.lends.eq_3) ∧
  (type_of% @Ax.AV.lends.eq_4) ∧
  (type_of% @Ax.pinsOf.eq_1) ∧
  (type_of% @Ax.pinsOf.eq_2) ∧
  (type_of% @Ax.nodup.eq_1) ∧
  (type_of% @Ax.nodup.eq_2) ∧
  (type_of% @Ax.lendL.eq_1) ∧
  (type_of% @Ax.lendL.eq_2) ∧
  (type_of% @Ax.lend.eq_1) ∧
  (type_of% @Ax.lend.eq_2) ∧
  (type_of% @Ax.lend.eq_3) ∧
  (type_of% @Ax.lend.eq_4) ∧
  (type_of% @Ax.lend.eq_5) ∧
  (type_of% @Ax.lend.eq_6) ∧
  (type_of% @Ax.lend.eq_7) ∧
  (type_of% @Ax.lend.eq_8) ∧
  (type_of% @Ax.lend.eq_9) ∧
  (type_of% @Ax.lend.eq_10) ∧
  (type_of% @Ax.lend.eq_11) ∧
  (type_of% @Ax.lend.eq_12) ∧
  (type_of% @Ax.closedB.eq_1) ∧
  (type_of% @Ax.closedB.eq_2) ∧
  (type_of% @Ax.noimmB.eq_1) ∧
  (type_of% @Ax.noimmB.eq_2) ∧
  (type_of% @Ax.AV.noimm.eq_1) ∧
  (type_of% @Ax.AV.noimm.eq_2) ∧
  (type_of% @Ax.AV.noimm.eq_3) ∧
  (type_of% @Ax.AV.noimm.eq_4) :=
 ⟨@Ax.slot.eq_1,@Ax.slot.eq_2,@Ax.slot.eq_3,@Ax.setSlot.eq_1,@Ax.setSlot.eq_2,@Ax.setSlot.eq_3,@Ax.Out.and.eq_1,@Ax.isBool.eq_1,@Ax.isPtr.eq_1,@Ax.evs.eq_1,@Ax.evs.eq_2,@Ax.evps.eq_1,@Ax.evps.eq_2,@Ax.aCall.eq_1,@Ax.aUser.eq_1,@Ax.coes.eq_1,@Ax.coes.eq_2,@Ax.callOut.eq_1,@Ax.rootsL.eq_1,@Ax.rootsL.eq_2,@Ax.AV.roots.eq_1,@Ax.AV.roots.eq_2,@Ax.AV.roots.eq_3,@Ax.AV.roots.eq_4,@Ax.lendsL.eq_1,@Ax.lendsL.eq_2,@Ax.AV.lends.eq_1,@Ax.AV.lends.eq_2,@Ax.AV.lends.eq_3,@Ax.AV.lends.eq_4,@Ax.pinsOf.eq_1,@Ax.pinsOf.eq_2,@Ax.nodup.eq_1,@Ax.nodup.eq_2,@Ax.lendL.eq_1,@Ax.lendL.eq_2,@Ax.lend.eq_1,@Ax.lend.eq_2,@Ax.lend.eq_3,@Ax.lend.eq_4,@Ax.lend.eq_5,@Ax.lend.eq_6,@Ax.lend.eq_7,@Ax.lend.eq_8,@Ax.lend.eq_9,@Ax.lend.eq_10,@Ax.lend.eq_11,@Ax.lend.eq_12,@Ax.closedB.eq_1,@Ax.closedB.eq_2,@Ax.noimmB.eq_1,@Ax.noimmB.eq_2,@Ax.AV.noimm.eq_1,@Ax.AV.noimm.eq_2,@Ax.AV.noimm.eq_3,@Ax.AV.noimm.eq_4⟩
theorem evD1 : (type_of% @Ax.AV.noimm.eq_5) ∧
  (type_of% @Ax.AV.noimm.eq_6) ∧
  (type_of% @Ax.AV.noimm.eq_7) ∧
  (type_of% @Ax.AV.noimm.eq_8) ∧
  (type_of% @Ax.AV.ren.eq_1) ∧
  (type_of% @Ax.AV.ren.eq_2) ∧
  (type_of% @Ax.AV.ren.eq_3) ∧
  (type_of% @Ax.AV.ren.eq_4) ∧
  (type_of% @Ax.AV.ren.eq_5) ∧
  (type_of% @Ax.AV.ren.eq_6) ∧
  (type_of% @Ax.renL.eq_1) ∧
  (type_of% @Ax.renL.eq_2) ∧
  (type_of% @Ax.back.eq_1) ∧
  (type_of% @Ax.back.eq_2) ∧
  (type_of% @Ax.aLoad.eq_1) ∧
  (type_of% @Ax.subv.eq_1) ∧
  (type_of% @Ax.guardSlot.eq_1) ∧
  (type_of% @Ax.byte.eq_1) ∧
  (type_of% @Ax.word.eq_1) ∧
  (type_of% @Ax.EndsX.eq_1) ∧
  (type_of% @Ax.rvals.eq_1) ∧
  (type_of% @Ax.rvals.eq_2) ∧
  (type_of% @Ax.rvals.eq_3) ∧
  (type_of% @Ax.AV.ids.eq_1) ∧
  (type_of% @Ax.AV.ids.eq_2) ∧
  (type_of% @Ax.AV.ids.eq_3) ∧
  (type_of% @Ax.AV.ids.eq_4) ∧
  (type_of% @Ax.AV.ids.eq_5) ∧
  (type_of% @Ax.AV.ids.eq_6) ∧
  (type_of% @Ax.idsL.eq_1) ∧
  (type_of% @Ax.idsL.eq_2) ∧
  (type_of% @Ax.newIds.eq_1) ∧
  (type_of% @Ax.newIds.eq_2) ∧
  (type_of% @Ax.upTo.eq_1) ∧
  (type_of% @Ax.upTo.eq_2) ∧
  (type_of% @Ax.pinHeap.eq_1) ∧
  (type_of% @Ax.pinHeap.eq_2) ∧
  (type_of% @Ax.gOf.eq_1) ∧
  (type_of% @Ax.gOf.eq_2) ∧
  (type_of% @Ax.gOf.eq_3) ∧
  (type_of% @Ax.aBuildSlice.eq_1) ∧
  (type_of% @Ax.fillB.eq_1) ∧
  (type_of% @Ax.fillB.eq_2) ∧
  (type_of% @Ax.fillB.eq_3) ∧
  (type_of% @Ax.look.eq_1) ∧
  (type_of% @Ax.look.eq_2) ∧
  (type_of% @Ax.put.eq_1) ∧
  (type_of% @Ax.drop.eq_1) ∧
  (type_of% @Ax.drop.eq_2) ∧
  (type_of% @Ax.asv.eq_1) ∧
  (type_of% @Ax.aMake.eq_1) ∧
  (type_of% @Ax.fillG.eq_1) ∧
  (type_of% @Ax.fillG.eq_2) ∧
  (type_of% @Ax.fillI.eq_1) ∧
  (type_of% @Ax.fillI.eq_2) ∧
  (type_of% @Ax.fillI.eq_3) :=
 ⟨@Ax.AV.noimm.eq_5,@Ax.AV.noimm.eq_6,@Ax.AV.noimm.eq_7,@Ax.AV.noimm.eq_8,@Ax.AV.ren.eq_1,@Ax.AV.ren.eq_2,@Ax.AV.ren.eq_3,@Ax.AV.ren.eq_4,@Ax.AV.ren.eq_5,@Ax.AV.ren.eq_6,@Ax.renL.eq_1,@Ax.renL.eq_2,@Ax.back.eq_1,@Ax.back.eq_2,@Ax.aLoad.eq_1,@Ax.subv.eq_1,@Ax.guardSlot.eq_1,@Ax.byte.eq_1,@Ax.word.eq_1,@Ax.EndsX.eq_1,@Ax.rvals.eq_1,@Ax.rvals.eq_2,@Ax.rvals.eq_3,@Ax.AV.ids.eq_1,@Ax.AV.ids.eq_2,@Ax.AV.ids.eq_3,@Ax.AV.ids.eq_4,@Ax.AV.ids.eq_5,@Ax.AV.ids.eq_6,@Ax.idsL.eq_1,@Ax.idsL.eq_2,@Ax.newIds.eq_1,@Ax.newIds.eq_2,@Ax.upTo.eq_1,@Ax.upTo.eq_2,@Ax.pinHeap.eq_1,@Ax.pinHeap.eq_2,@Ax.gOf.eq_1,@Ax.gOf.eq_2,@Ax.gOf.eq_3,@Ax.aBuildSlice.eq_1,@Ax.fillB.eq_1,@Ax.fillB.eq_2,@Ax.fillB.eq_3,@Ax.look.eq_1,@Ax.look.eq_2,@Ax.put.eq_1,@Ax.drop.eq_1,@Ax.drop.eq_2,@Ax.asv.eq_1,@Ax.aMake.eq_1,@Ax.fillG.eq_1,@Ax.fillG.eq_2,@Ax.fillI.eq_1,@Ax.fillI.eq_2,@Ax.fillI.eq_3⟩
theorem evD2 : (type_of% @Ax.bnds.eq_1) ∧
  (type_of% @Ax.cut.eq_1) ∧
  (type_of% @Ax.aFieldAddr.eq_1) ∧
  (type_of% @Ax.aField.eq_1) ∧
  (type_of% @Ax.aBox.eq_1) ∧
  (type_of% @Ax.aBuild.eq_1) ∧
  (type_of% @Ax.fillS.eq_1) ∧
  (type_of% @Ax.fillS.eq_2) ∧
  (type_of% @Ax.allTy.eq_1) ∧
  (type_of% @Ax.allTy.eq_2) ∧
  (type_of% @Ax.splice.eq_1) ∧
  (type_of% @Ax.isBytes.eq_1) ∧
  (type_of% @Ax.aAlloc.eq_1) ∧
  (type_of% @Ax.closedL.eq_1) ∧
  (type_of% @Ax.closedL.eq_2) ∧
  (type_of% @Ax.AV.closed.eq_1) ∧
  (type_of% @Ax.AV.closed.eq_2) ∧
  (type_of% @Ax.AV.closed.eq_3) ∧
  (type_of% @Ax.AV.closed.eq_4) ∧
  (type_of% @Ax.AV.closed.eq_5) ∧
  (type_of% @Ax.AV.closed.eq_6) ∧
  (type_of% @Ax.idx.eq_1) ∧
  (type_of% @Ax.idx.eq_2) ∧
  (type_of% @Ax.AV.lentIds.eq_1) ∧
  (type_of% @Ax.AV.lentIds.eq_2) ∧
  (type_of% @Ax.AV.lentIds.eq_3) ∧
  (type_of% @Ax.AV.lentIds.eq_4) ∧
  (type_of% @Ax.lentIdsL.eq_1) ∧
  (type_of% @Ax.lentIdsL.eq_2) ∧
  (type_of% @Ax.dropAll.eq_1) ∧
  (type_of% @Ax.dropAll.eq_2) ∧
  (type_of% @Ax.AV.clean.eq_1) ∧
  (type_of% @Ax.AV.clean.eq_2) ∧
  (type_of% @Ax.AV.clean.eq_3) ∧
  (type_of% @Ax.AV.clean.eq_4) ∧
  (type_of% @Ax.AV.clean.eq_5) ∧
  (type_of% @Ax.AV.clean.eq_6) ∧
  (type_of% @Ax.AV.clean.eq_7) ∧
  (type_of% @Ax.AV.clean.eq_8) ∧
  (type_of% @Ax.cleanL.eq_1) ∧
  (type_of% @Ax.cleanL.eq_2) ∧
  (type_of% @Ax.cleanB.eq_1) ∧
  (type_of% @Ax.cleanB.eq_2) ∧
  (type_of% @Ax.quietC.eq_1) ∧
  (type_of% @Ax.flatTy.eq_1) ∧
  (type_of% @Ax.coldStr.eq_1) ∧
  (type_of% @Ax.eqV.eq_1) ∧
  (type_of% @Ax.eqV.eq_2) ∧
  (type_of% @Ax.eqV.eq_3) ∧
  (type_of% @Ax.eqV.eq_4) ∧
  (type_of% @Ax.eqV.eq_5) ∧
  (type_of% @Ax.eqF.eq_1) ∧
  (type_of% @Ax.eqF.eq_2) ∧
  (type_of% @Ax.isStruct.eq_1) :=
 ⟨@Ax.bnds.eq_1,@Ax.cut.eq_1,@Ax.aFieldAddr.eq_1,@Ax.aField.eq_1,@Ax.aBox.eq_1,@Ax.aBuild.eq_1,@Ax.fillS.eq_1,@Ax.fillS.eq_2,@Ax.allTy.eq_1,@Ax.allTy.eq_2,@Ax.splice.eq_1,@Ax.isBytes.eq_1,@Ax.aAlloc.eq_1,@Ax.closedL.eq_1,@Ax.closedL.eq_2,@Ax.AV.closed.eq_1,@Ax.AV.closed.eq_2,@Ax.AV.closed.eq_3,@Ax.AV.closed.eq_4,@Ax.AV.closed.eq_5,@Ax.AV.closed.eq_6,@Ax.idx.eq_1,@Ax.idx.eq_2,@Ax.AV.lentIds.eq_1,@Ax.AV.lentIds.eq_2,@Ax.AV.lentIds.eq_3,@Ax.AV.lentIds.eq_4,@Ax.lentIdsL.eq_1,@Ax.lentIdsL.eq_2,@Ax.dropAll.eq_1,@Ax.dropAll.eq_2,@Ax.AV.clean.eq_1,@Ax.AV.clean.eq_2,@Ax.AV.clean.eq_3,@Ax.AV.clean.eq_4,@Ax.AV.clean.eq_5,@Ax.AV.clean.eq_6,@Ax.AV.clean.eq_7,@Ax.AV.clean.eq_8,@Ax.cleanL.eq_1,@Ax.cleanL.eq_2,@Ax.cleanB.eq_1,@Ax.cleanB.eq_2,@Ax.quietC.eq_1,@Ax.flatTy.eq_1,@Ax.coldStr.eq_1,@Ax.eqV.eq_1,@Ax.eqV.eq_2,@Ax.eqV.eq_3,@Ax.eqV.eq_4,@Ax.eqV.eq_5,@Ax.eqF.eq_1,@Ax.eqF.eq_2,@Ax.isStruct.eq_1⟩
end Go.Proofs.Ytebacgkeoefnkaa
namespace Go.Proofs.Ytebacgkeoefnkaa
namespace Ax
open Go.RowKit Go.ChangeShapes Go.WideShapes
def RC (w : World) : List AV → List Value → Prop
 | [],[] => True
 | x :: xs,v :: vs => (x.leaf = true ∧ x.closed = true ∧ R w loc0 x v) ∧ RC w xs vs
 | _,_ => False
theorem RC.len {w : World} : ∀ {xs : List AV} {vs : List Value},RC w xs vs → xs.length = vs.length
 | [],[],_ => rfl
 | x :: xs,v :: vs,h => by simp [RC.len h.2]
 | [],_ :: _,h => h.elim
 | _ :: _,[],h => h.elim
theorem RC.get {w : World} : ∀ {xs : List AV} {vs : List Value},RC w xs vs → ∀ (j : Nat) (h : j < xs.length) (h' : j < vs.length),xs[j].leaf = true ∧ xs[j].closed = true ∧ R w loc0 xs[j] vs[j]
 | x :: xs,v :: vs,h,j,a,b => by
  cases j with
  | zero => exact h.1
  | succ j => exact RC.get h.2 j (by simpa using a) (by simpa using b)
 | [],[],_,j,a,_ => by simp at a
 | [],_ :: _,h,_,_,_ => h.elim
 | _ :: _,[],h,_,_,_ => h.elim
theorem RC.append {w : World} : ∀ {xs ys : List AV} {vs us : List Value},RC w xs vs → RC w ys us → RC w (xs ++ ys) (vs ++ us)
 | [],ys,[],us,_,h => h
 | x :: xs,ys,v :: vs,us,h,k => ⟨h.1,RC.append h.2 k⟩
 | [],_,_ :: _,_,h,_ => h.elim
 | _ :: _,_,[],_,h,_ => h.elim
def zla : TD → Nat
 | .int .u8 => 1
 | .int .i64 => 2
 | _ => 0
def zrs (S : TypeId → List AV → Prop) : List (Nat × TypeId) → List AV → Prop
 | [],ls => ls = []
 | p :: r,ls => ∃ l1 l2,ls = l1 ++ l2 ∧ S p.2 l1 ∧ zrs S r l2
def zon (T : zab) : Nat → TypeId → List AV → Prop
 | 0,_,_ => False
 | n + 1,t,ls => match T t with
  | none => False
  | some i => match i.d with
   | .int k => ∃ m,ls = [.w (.int k m)] ∧ (Lit.int k m).wf = true
   | .bool => ∃ b,ls = [.w (.bool b)]
   | .str => ∃ bs,ls = [.str bs] ∧ bs.length ≤ maxLen
   | .slice e => match T e with
    | none => False
    | some te => match zla te.d with
     | 1 => ∃ bs f,ls = [.sb bs f] ∧ bs.length ≤ maxLen
     | 2 => ∃ ns f,ls = [.si ns f] ∧ ns.length ≤ maxLen ∧ ∀ n ∈ ns,-9223372036854775808 ≤ n ∧ n ≤ 9223372036854775807
     | _ => ∃ xs f,ls = [.sg te.size xs f] ∧ xs.length ≤ maxLen ∧ ∀ x ∈ xs,∃ l,zon T n e l ∧ l.length = te.size ∧ x = asv te l
   | .struct fs => zrs (zon T n) fs ls
   | .arr m e => zrs (zon T n) (List.replicate m (0,e)) ls
   | _ => False
def yjj (T : zab) : List (Nat × TypeId) → Nat → Nat → Bool
 | [],o,s => o == s
 | p :: r,o,s => match T p.2 with
  | some i => p.1 == o && yjj T r (o + i.size) s
  | none => false
def okT (T : zab) : Nat → TypeId → Bool
 | 0,_ => false
 | n + 1,t => match T t with
  | none => false
  | some i => match i.d with
   | .int _ => true
   | .bool => true
   | .str => true
   | .slice e => match T e with
    | none => false
    | some te => !(zla te.d == 0) || (okT T n e && decide (0 < te.size))
   | .struct fs => yjj T fs 0 i.size && fs.all fun p => okT T n p.2
   | .arr m e => match T e with
    | some te => m * te.size == i.size && okT T n e
    | none => false
   | _ => false
theorem zjs {P : Program} {T : zab} (hT : TOk P T) {t : TypeId} {i : TyI} (h : T t = some i) : P.cellsOf t = i.size := by
 obtain ⟨inf,z,h1,h2,_⟩ := (hT t i h).info
 simp [Program.cellsOf,h1,h2]
section
variable {H : Type} {enc : TypeId × Value → H} {P : Program} {w : World} {base : Nat} {spare : Nat → Bool} {held : Bool}
theorem yer {T : zab} (hT : TOk P T) {S : TypeId → List AV → Prop} {ok : TypeId → Bool} {m : Nat} (ih : ∀ t cs x,DataW.trod enc P w base spare held m t cs = some x → ok t = true → ∃ ls,RC w ls cs ∧ S t ls) :
  ∀ (fs : List (Nat × TypeId)) (o s : Nat) (cs : List Value),yjj T fs o s = true → (fs.all fun p => ok p.2) = true → cs.length = s → (∀ p ∈ fs,∃ x,DataW.trod enc P w base spare held m p.2 ((cs.drop p.1).take (P.cellsOf p.2)) = some x) → ∃ ls,RC w ls (cs.drop o) ∧ zrs S fs ls
 | [],o,s,cs,ht,_,hl,_ => by
  simp only [yjj,beq_iff_eq] at ht
  subst ht
  rw [← hl,List.drop_length]
  exact ⟨[],trivial,rfl⟩
 | p :: r,o,s,cs,ht,hk,hl,h => by
  simp only [yjj] at ht
  simp only [List.all_cons,Bool.and_eq_true] at hk
  cases hp : T p.2 with
  | none => simp [hp] at ht
  | some i =>
   simp only [hp,Bool.and_eq_true,beq_iff_eq] at ht
   obtain ⟨rfl,ht⟩ := ht
   obtain ⟨x,hx⟩ := h p (by simp)
   obtain ⟨l1,h1,h2⟩ := ih _ _ _ hx hk.1
   obtain ⟨l2,h3,h4⟩ := yer hT ih r _ s cs ht hk.2 hl (fun q hq => h q (by simp [hq]))
   rw [zjs hT hp] at h1
   refine ⟨l1 ++ l2,?_,l1,l2,rfl,h2,h4⟩
   have := RC.append h1 h3
   rwa [← List.drop_drop,List.take_append_drop] at this
theorem arr_R {T : zab} (hT : TOk P T) {S : TypeId → List AV → Prop} {ok : TypeId → Bool} {m : Nat} {e : TypeId} {te : TyI} (he : T e = some te) (hok : ok e = true) (ih : ∀ t cs x,DataW.trod enc P w base spare held m t cs = some x → ok t = true → ∃ ls,RC w ls cs ∧ S t ls) :
  ∀ (k : Nat) (cs : List Value),cs.length = k * te.size → (∀ i,i < k → ∃ x,DataW.trod enc P w base spare held m e ((cs.drop (i * te.size)).take te.size) = some x) → ∃ ls,RC w ls cs ∧ zrs S (List.replicate k (0,e)) ls
 | 0,cs,hl,_ => by
  have : cs = [] := List.eq_nil_of_length_eq_zero (by simpa using hl)
  subst this
  exact ⟨[],trivial,rfl⟩
 | k + 1,cs,hl,h => by
  obtain ⟨x,hx⟩ := h 0 (by omega)
  rw [Nat.zero_mul,List.drop_zero] at hx
  obtain ⟨l1,h1,h2⟩ := ih _ _ _ hx hok
  have hmul : (k + 1) * te.size = k * te.size + te.size := Nat.succ_mul _ _
  obtain ⟨l2,h3,h4⟩ := arr_R hT he hok ih k (cs.drop te.size) (by rw [List.length_drop]; omega) (fun i hi => by
   obtain ⟨y,hy⟩ := h (i + 1) (by omega)
   refine ⟨y,?_⟩
   rw [List.drop_drop,show te.size + i * te.size = (i + 1) * te.size by rw [Nat.succ_mul]; omega]
   exact hy)
  refine ⟨l1 ++ l2,?_,l1,l2,rfl,h2,h4⟩
  have := RC.append h1 h3
  rwa [List.take_append_drop] at this
theorem ysd {S : List AV → Prop} {te : TyI} (hs : ∀ l,S l → te.d.aggr = false → te.size = 1) {a : Addr} :
  ∀ (n : Nat) (off : Nat),(∀ i,i < n → ∃ (ls : List AV) (cs : List Value),RC w ls cs ∧ S ls ∧ cs.length = te.size ∧ ∀ k,k < te.size → w.cell? (a.add ((off + i) * te.size + k)) = cs[k]?) →
   ∃ (xs : List AV) (cs : List Value),xs.length = n ∧ cs.length = n * te.size ∧ (∀ x ∈ xs,∃ l,S l ∧ l.length = te.size ∧ x = asv te l ∧ x.leaves = l) ∧ RC w (xs.flatMap AV.leaves) cs ∧ ∀ k,k < n * te.size → w.cell? (a.add (off * te.size + k)) = cs[k]?
 | 0,off,_ => ⟨[],[],rfl,by simp,by simp,trivial,fun k h => by simp at h⟩
 | n + 1,off,h => by
  obtain ⟨ls,c1,h1,h2,h3,h4⟩ := h 0 (by omega)
  obtain ⟨xs,c2,k1,k2,k3,k4,k5⟩ := ysd hs n (off + 1) (fun i hi => by
   obtain ⟨l,c,a1,a2,a3,a4⟩ := h (i + 1) (by omega)
   refine ⟨l,c,a1,a2,a3,fun k hk => ?_⟩
   rw [show off + 1 + i = off + (i + 1) by omega]; exact a4 k hk)
  have hlen : ls.length = te.size := by rw [RC.len h1,h3]
  have hx : (asv te ls).leaves = ls := by
   unfold asv
   cases ha : te.d.aggr with
   | true => rfl
   | false =>
    have h1s := hs ls h2 ha
    have hl1 : ls.length = 1 := by omega
    obtain ⟨y,rfl⟩ := List.length_eq_one_iff.1 hl1
    have := (RC.get h1 0 (by simp) (by omega)).1
    simp only [List.getElem_cons_zero] at this
    simp only [cond_false,slot]
    cases y <;> first | rfl | simp [AV.leaf] at this
  refine ⟨asv te ls :: xs,c1 ++ c2,by simp [k1],by rw [List.length_append,h3,k2,Nat.succ_mul]; omega,?_,?_,?_⟩
  ·intro x hxm
   rcases List.mem_cons.1 hxm with rfl | hxm
   ·exact ⟨ls,h2,hlen,rfl,hx⟩
   ·exact k3 x hxm
  ·rw [List.flatMap_cons,hx]; exact RC.append h1 k4
  ·intro k hk
   by_cases hk1 : k < te.size
   ·rw [List.getElem?_append_left (by omega)]
    have := h4 k hk1
    rw [Nat.add_zero] at this
    exact this
   ·rw [List.getElem?_append_right (by omega),h3]
    have := k5 (k - te.size) (by rw [Nat.succ_mul] at hk; omega)
    rw [← this,Nat.succ_mul]
    congr 2
    omega
theorem add_add (a : Addr) (h : a.spot = none) (m n : Nat) : (a.add m).add n = a.add (m + n) := by
 obtain ⟨b,o,s⟩ := a
 simp only at h
 subst h
 unfold Addr.add
 by_cases hm : m = 0
 ·subst hm; simp
 ·by_cases hn : n = 0
  ·subst hn; simp
  ·rw [if_neg hm,if_neg hn,if_neg (by omega)]
   simp; omega
theorem zup {T : zab} (hT : TOk P T) {t : TypeId} {i : TyI} (h : T t = some i) (ha : i.d.aggr = false) : i.size = 1 := by
 obtain ⟨inf,z,_,_,_,_,_,_,_,h8⟩ := (hT t i h).info
 exact (h8 ha).2.2
theorem yfh {a : Addr} {cs : List Value} (hne : cs ≠ []) (h : ∀ k,k < cs.length → w.cell? (a.add k) = cs[k]?) : Cells w loc0 (some a) cs ∧ a.spot = none := by
 have hl : 0 < cs.length := List.length_pos_iff.2 hne
 have h1 := h 0 hl
 rw [show a.add 0 = a from rfl,List.getElem?_eq_getElem hl] at h1
 have hx : a.spot = none ∧ a.block < w.heap.size := by
  unfold World.cell? at h1
  split at h1
  ·rename_i c e fz hh
   split at h1
   ·cases h1
   ·rename_i hs
    refine ⟨by simpa using hs,?_⟩
    rcases Nat.lt_or_ge a.block w.heap.size with h' | h'
    ·exact h'
    ·rw [Array.getElem?_eq_none h'] at hh; cases hh
  ·cases h1
 obtain ⟨b,o,sp⟩ := a
 obtain ⟨rfl,hb⟩ := hx
 refine ⟨⟨.inr ⟨b,o,rfl,ydx b,hb,fun j hj => ?_⟩⟩,rfl⟩
 have h2 := h j hj
 rw [List.getElem?_eq_getElem hj] at h2
 rw [← h2]
 cases j <;> rfl
theorem ydn {T : zab} (hT : TOk P T) : ∀ (n fuel : Nat) (t : TypeId) (cs : List Value) (x : DataW H × List MemPlace),DataW.trod enc P w base (fun _ => true) held fuel t cs = some x → okT T n t = true → ∃ ls,RC w ls cs ∧ zon T n t ls
 | 0,_,_,_,_,_,h => by simp [okT] at h
 | n + 1,fuel,t,cs,x,h,hok => by
  unfold okT at hok
  unfold zon
  cases ht : T t with
  | none => simp [ht] at hok
  | some i =>
   simp only [ht] at hok ⊢
   have hd := (hT t i ht).d
   have hsz := zjs hT ht
   cases hi : i.d with
   | int k =>
    rw [hi] at hd
    obtain ⟨m,rfl,_,hw⟩ := DataW.trod_int hd h
    exact ⟨[.w (.int k m)],⟨⟨rfl,rfl,.w _ rfl⟩,trivial⟩,m,rfl,hw⟩
   | bool =>
    rw [hi] at hd
    obtain ⟨b,rfl,_⟩ := DataW.trod_bool hd h
    exact ⟨[.w (.bool b)],⟨⟨rfl,rfl,.w _ rfl⟩,trivial⟩,b,rfl⟩
   | str =>
    rw [hi] at hd
    obtain ⟨s,rfl,_,hm⟩ := DataW.trod_string hd h
    exact ⟨[.str s.data.toList],⟨⟨rfl,rfl,str_R w s⟩,trivial⟩,s.data.toList,rfl,by simpa using hm⟩
   | slice e =>
    rw [hi] at hd
    simp only [hi] at hok ⊢
    cases he : T e with
    | none => simp [he] at hok
    | some te =>
     simp only [he] at hok ⊢
     have hde := (hT e te he).d
     have hse := zjs hT he
     have row : ∀ k,P.underlying e = some (.int k) → P.cellsOf e = 1 → ∃ a len cap zs,cs = [.slice a len cap] ∧ IsRow k w a len cap zs := by
      intro k hk h1
      rcases open_ints hd hk h1 h with ⟨hcs,_⟩ | ⟨y,l,c,zs,hcs,_,hl,hm,hz,_,hcell,hwz⟩
      ·exact ⟨none,0,0,[],hcs,.inl ⟨rfl,rfl,rfl,rfl⟩⟩
      ·exact ⟨some y,l,c,zs,hcs,.inr ⟨y,rfl,hl,hm,by simpa using hz,hcell,hwz⟩⟩
     have hfi : (zla te.d = 1 ∧ te.d = .int .u8) ∨ (zla te.d = 2 ∧ te.d = .int .i64) ∨ zla te.d = 0 := by
      unfold zla
      split
      ·rename_i e; exact .inl ⟨rfl,e⟩
      ·rename_i e; exact .inr (.inl ⟨rfl,e⟩)
      ·exact .inr (.inr rfl)
     rcases hfi with ⟨hf,hte⟩ | ⟨hf,hte⟩ | hf
     ·rw [hf]
      rw [hte] at hde
      obtain ⟨a,len,cap,zs,rfl,hr⟩ := row .u8 hde (by rw [hse]; exact zup hT he (by rw [hte]; rfl))
      obtain ⟨bs,h1,h2,h3⟩ := row_sb hr
      exact ⟨[.sb bs false],⟨⟨rfl,rfl,h3⟩,trivial⟩,bs,false,rfl,by omega⟩
     ·rw [hf]
      rw [hte] at hde
      obtain ⟨a,len,cap,zs,rfl,hr⟩ := row .i64 hde (by rw [hse]; exact zup hT he (by rw [hte]; rfl))
      obtain ⟨ns,h1,h2,h4,h3⟩ := row_si hr
      exact ⟨[.si ns false],⟨⟨rfl,rfl,h3⟩,trivial⟩,ns,false,rfl,by omega,h4⟩
     ·rw [hf]
      rw [hf] at hok
      simp only [beq_self_eq_true,Bool.not_true,Bool.false_or,Bool.and_eq_true,decide_eq_true_eq] at hok
      obtain ⟨hok,hpos⟩ := hok
      rcases DataW.trod_slice hd h with ⟨rfl,_⟩ | ⟨a,len,cap,elems,rest,m,_,rfl,_,hb,hl,hm,hlen,hel,_,_⟩
      ·exact ⟨[.sg te.size [] false],⟨⟨rfl,rfl,.sg te.size [] false none 0 [] ⟨Nat.le_refl _,Nat.zero_le _,fun h => by cases h⟩ (by simp) ⟨.inl rfl⟩ rfl (by simp) (by simp)⟩,trivial⟩,[],false,rfl,Nat.zero_le _,by simp⟩
      ·rw [hse] at hel
       have hall : ∀ i,i < len → ∃ (ls : List AV) (c : List Value),RC w ls c ∧ zon T n e ls ∧ c.length = te.size ∧ ∀ k,k < te.size → w.cell? ((a.add (i * te.size)).add k) = c[k]? := by
        intro i hi
        have h1 := hel i hi
        rw [List.getElem?_eq_getElem (by omega),Option.bind_eq_some_iff] at h1
        obtain ⟨c,h2,h3⟩ := h1
        obtain ⟨_,h4,h5⟩ := World.cells?_some h2
        obtain ⟨ls,h6,h7⟩ := ydn hT n m e c _ h3 hok
        exact ⟨ls,c,h6,h7,h4,h5⟩
       by_cases h0 : len = 0
       ·subst h0
        exact ⟨[.sg te.size [] false],⟨⟨rfl,rfl,.sg te.size [] false (some a) cap [] ⟨Nat.zero_le _,hm,fun h => by cases h⟩ (by simp) ⟨.inl rfl⟩ rfl (by simp) (by simp)⟩,trivial⟩,[],false,rfl,Nat.zero_le _,by simp⟩
       ·have hspot : a.spot = none := by
         obtain ⟨ls,c,_,_,h3,h4⟩ := hall 0 (by omega)
         rw [Nat.zero_mul,show a.add 0 = a from rfl] at h4
         exact (yfh (w := w) (a := a) (cs := c) (by intro e; rw [e] at h3; simp at h3; omega) (fun k hk => h4 k (by omega))).2
        obtain ⟨xs,c,k1,k2,k3,k4,k5⟩ := ysd (w := w) (S := zon T n e) (te := te) (fun _ _ ha => zup hT he ha) (a := a) len 0 (fun i hi => by
         obtain ⟨ls,c,h1,h2,h3,h4⟩ := hall i hi
         refine ⟨ls,c,h1,h2,h3,fun k hk => ?_⟩
         rw [Nat.zero_add,← add_add a hspot]; exact h4 k hk)
        have hcne : c ≠ [] := by
         intro e; rw [e] at k2
         simp only [List.length_nil] at k2
         have := Nat.mul_pos (Nat.pos_of_ne_zero h0) hpos
         omega
        have hc := (yfh (w := w) (a := a) (cs := c) hcne (fun k hk => by
         have := k5 k (by omega)
         rwa [Nat.zero_mul,Nat.zero_add] at this)).1
        have hR := R.sg (w := w) (loc := loc0) te.size xs false (some a) cap c ⟨by omega,hm,fun h => by cases h⟩ (fun x hx => by obtain ⟨l,_,h2,h3,h4⟩ := k3 x hx; rw [h4]; exact h2) hc (RC.len k4)
         (fun j hj => ⟨(RC.get k4 j hj (by rw [← RC.len k4]; exact hj)).1,(RC.get k4 j hj (by rw [← RC.len k4]; exact hj)).2.1⟩) (fun j a b => (RC.get k4 j a b).2.2)
        rw [k1] at hR
        exact ⟨[.sg te.size xs false],⟨⟨rfl,rfl,hR⟩,trivial⟩,xs,false,rfl,by omega,fun x hx => by obtain ⟨l,h1,h2,h3,_⟩ := k3 x hx; exact ⟨l,h1,h2,h3⟩⟩
   | struct fs =>
    rw [hi] at hd
    simp only [hi,Bool.and_eq_true] at hok ⊢
    obtain ⟨gs,hu,rfl⟩ := hd
    obtain ⟨xs,m,_,_,hl,hxl,hf⟩ := DataW.trod_struct hu h
    have := yer (w := w) (base := base) (spare := fun _ => true) (held := held) (enc := enc) hT (S := zon T n) (ok := okT T n) (m := m) (fun t cs x h1 h2 => ydn hT n m t cs x h1 h2) _ 0 i.size cs hok.1 hok.2 (by rw [hl,hsz]) (fun p hp => by
     obtain ⟨g,hg,rfl⟩ := List.mem_map.1 hp
     obtain ⟨j,hj,hgj⟩ := List.getElem_of_mem hg
     have hj2 : gs[j]? = some g := by rw [← hgj]; simp at hj ⊢
     have h3 := hf j g hj2
     have hjx : j < xs.length := by rw [hxl]; simpa using hj
     exact ⟨xs[j],by rw [h3,List.getElem?_eq_getElem hjx]⟩)
    rwa [List.drop_zero] at this
   | arr k e =>
    rw [hi] at hd
    simp only [hi] at hok ⊢
    cases he : T e with
    | none => simp [he] at hok
    | some te =>
     simp only [he,Bool.and_eq_true,beq_iff_eq] at hok
     obtain ⟨xs,m,_,_,hl,hxl,hf⟩ := DataW.trod_array hd h
     rw [zjs hT he] at hf
     exact arr_R (w := w) (base := base) (spare := fun _ => true) (held := held) (enc := enc) hT (S := zon T n) (ok := okT T n) (m := m) he hok.2 (fun t cs x h1 h2 => ydn hT n m t cs x h1 h2) k cs (by rw [hl,hsz]; exact hok.1.symm) (fun j hj => ⟨xs[j]'(by omega),by rw [hf j hj,List.getElem?_eq_getElem (by omega)]⟩)
   | ptr => simp [hi] at hok
   | func => simp [hi] at hok
   | map k e => simp [hi] at hok
   | other => simp [hi] at hok
def Arg (T : zab) (n : Nat) (t : TypeId) (x : AV) : Prop := ∃ i ls,T t = some i ∧ zon T n t ls ∧ x = asv i ls
theorem arg_R {T : zab} (hT : TOk P T) {n : Nat} {t : TypeId} {v : Value} {d : DataW H} {ps : List MemPlace} {r : Reach} {b0 : Nat} (hval : Value.okWide P w r b0 t v) (h : DataW.Trod enc P w base (fun _ => true) held t v d ps) (hok : okT T n t = true) :
  ∃ x,Arg T n t x ∧ R w loc0 x v := by
 obtain ⟨fuel,hf⟩ := h
 obtain ⟨ls,h1,h2⟩ := ydn hT n fuel t _ _ hf hok
 cases ht : T t with
 | none => cases n <;> simp [okT,ht] at hok
 | some i =>
  have hd := (hT t i ht).d
  refine ⟨asv i ls,⟨i,ls,ht,h2,rfl⟩,?_⟩
  cases ha : i.d.aggr with
  | true =>
   have hv : ∃ c,v = .agg c := by
    unfold Value.okWide at hval
    cases hi : i.d with
    | struct fs =>
     rw [hi] at hd
     obtain ⟨gs,hu,_⟩ := hd
     rw [hu] at hval
     obtain ⟨c,hc,_⟩ := hval
     exact ⟨c,hc⟩
    | arr k e =>
     rw [hi] at hd
     have hu : P.underlying t = some (.array k e) := hd
     rw [hu] at hval
     obtain ⟨c,hc,_⟩ := hval
     exact ⟨c,hc⟩
    | _ => rw [hi] at ha; cases ha
   obtain ⟨c,rfl⟩ := hv
   simp only [asv,ha,cond_true]
   have hl := RC.len h1
   have := R.agg (w := w) (loc := loc0) ls c.toList hl (fun j hj => (RC.get h1 j hj (by rw [← hl]; exact hj)).1) (fun j a b => (RC.get h1 j a b).2.2)
   rwa [Array.toArray_toList] at this
  | false =>
   simp only [asv,ha,cond_false]
   have key : ∃ u,v.cells = #[u] ∧ u = v := by
    cases v with
    | agg c =>
     exfalso
     unfold Value.okWide Cell.okWide Cell.ok at hval
     cases hi : i.d with
     | struct fs => rw [hi] at ha; cases ha
     | arr k e => rw [hi] at ha; cases ha
     | int k => rw [hi] at hd; have hu : P.underlying t = some (.int k) := hd; simp [hu] at hval
     | bool => rw [hi] at hd; have hu : P.underlying t = some .bool := hd; simp [hu] at hval
     | str => rw [hi] at hd; have hu : P.underlying t = some .string := hd; simp [hu] at hval
     | slice e => rw [hi] at hd; have hu : P.underlying t = some (.slice e) := hd; simp [hu] at hval
     | _ => cases n <;> simp [okT,ht,hi] at hok
    | _ => exact ⟨_,rfl,rfl⟩
   obtain ⟨u,hu,rfl⟩ := key
   rw [hu] at h1
   match ls,h1 with
   | [y],h1 => exact h1.1.2.2
end
end Ax
end Go.Proofs.Ytebacgkeoefnkaa
namespace Go.Proofs.Ytebacgkeoefnkaa
open Ax
def tys : List (TypeId × TyI) := [
 (2,⟨.int .i64,1,8,[.w (.int .i64 0)],0⟩),
 (3,⟨.int .i64,1,8,[.w (.int .i64 0)],0⟩),
 (4,⟨.bool,1,1,[.w (.bool false)],0⟩),
 (5,⟨.int .u8,1,1,[.w (.int .u8 0)],0⟩),
 (9,⟨.str,1,16,[.str []],0⟩),
 (20,⟨.other,1,16,[.w .nilIface],0⟩),
 (21,⟨.int .i32,1,4,[.w (.int .i32 0)],0⟩),
 (22,⟨.slice 59,1,24,[.sg 4 [] true],0⟩),
 (23,⟨.struct [(0,3),(1,22)],2,32,[.w (.int .i64 0),.sg 4 [] true],0⟩),
 (24,⟨.struct [(0,3),(1,22)],2,32,[.w (.int .i64 0),.sg 4 [] true],0⟩),
 (25,⟨.slice 56,1,24,[.sg 6 [] true],0⟩),
 (26,⟨.struct [(0,3),(1,3),(2,3),(3,3),(4,3),(5,25)],6,64,[.w (.int .i64 0),.w (.int .i64 0),.w (.int .i64 0),.w (.int .i64 0),.w (.int .i64 0),.sg 6 [] true],0⟩),
 (27,⟨.struct [(0,3),(1,3),(2,3),(3,3),(4,3),(5,25)],6,64,[.w (.int .i64 0),.w (.int .i64 0),.w (.int .i64 0),.w (.int .i64 0),.w (.int .i64 0),.sg 6 [] true],0⟩),
 (28,⟨.slice 27,1,24,[.sg 6 [] true],0⟩),
 (33,⟨.slice 52,1,24,[.sg 4 [] true],0⟩),
 (34,⟨.struct [(0,3),(1,33)],2,32,[.w (.int .i64 0),.sg 4 [] true],0⟩),
 (35,⟨.struct [(0,3),(1,33)],2,32,[.w (.int .i64 0),.sg 4 [] true],0⟩),
 (37,⟨.int .i64,1,8,[.w (.int .i64 0)],0⟩),
 (51,⟨.struct [(0,9),(1,9),(2,3),(3,3)],4,48,[.str [],.str [],.w (.int .i64 0),.w (.int .i64 0)],0⟩),
 (52,⟨.struct [(0,9),(1,9),(2,3),(3,3)],4,48,[.str [],.str [],.w (.int .i64 0),.w (.int .i64 0)],0⟩),
 (53,⟨.map 9 3,1,8,[.w (.map none)],0⟩),
 (55,⟨.struct [(0,3),(1,3),(2,4),(3,9),(4,4),(5,9)],6,64,[.w (.int .i64 0),.w (.int .i64 0),.w (.bool false),.str [],.w (.bool false),.str []],0⟩),
 (56,⟨.struct [(0,3),(1,3),(2,4),(3,9),(4,4),(5,9)],6,64,[.w (.int .i64 0),.w (.int .i64 0),.w (.bool false),.str [],.w (.bool false),.str []],0⟩),
 (59,⟨.struct [(0,9),(1,9),(2,3),(3,3)],4,48,[.str [],.str [],.w (.int .i64 0),.w (.int .i64 0)],0⟩),
 (62,⟨.slice 5,1,24,[.sb [] true],0⟩),
 (70,⟨.map 9 52,1,8,[.w (.map none)],0⟩),
 (87,⟨.ptr,1,8,[.w (.pointer none)],0⟩),
 (100,⟨.int .u64,1,8,[.w (.int .u64 0)],0⟩),
 (108,⟨.int .u64,1,8,[.w (.int .u64 0)],0⟩),
 (110,⟨.struct [(0,62),(1,37)],2,32,[.sb [] true,.w (.int .i64 0)],0⟩),
 (111,⟨.struct [(0,62),(1,37)],2,32,[.sb [] true,.w (.int .i64 0)],0⟩),
 (115,⟨.slice 3,1,24,[.si [] true],0⟩),
 (118,⟨.int .i64,1,8,[.w (.int .i64 0)],0⟩),
 (125,⟨.int .u32,1,4,[.w (.int .u32 0)],0⟩),
 (135,⟨.int .u64,1,8,[.w (.int .u64 0)],0⟩),
 (139,⟨.ptr,1,8,[.w (.pointer none)],0⟩),
 (142,⟨.ptr,1,8,[.w (.pointer none)],0⟩),
 (154,⟨.ptr,1,8,[.w (.pointer none)],0⟩)]
theorem tys_ok : TOk Try.prog (tab tys) := tab_ok (by kernel_rfl)
def ty (t : TypeId) : Option TyI :=
 match t with
 | 2 => some ⟨.int .i64,1,8,[.w (.int .i64 0)],0⟩
 | 3 => some ⟨.int .i64,1,8,[.w (.int .i64 0)],0⟩
 | 4 => some ⟨.bool,1,1,[.w (.bool false)],0⟩
 | 5 => some ⟨.int .u8,1,1,[.w (.int .u8 0)],0⟩
 | 9 => some ⟨.str,1,16,[.str []],0⟩
 | 20 => some ⟨.other,1,16,[.w .nilIface],0⟩
 | 21 => some ⟨.int .i32,1,4,[.w (.int .i32 0)],0⟩
 | 22 => some ⟨.slice 59,1,24,[.sg 4 [] true],0⟩
 | 23 => some ⟨.struct [(0,3),(1,22)],2,32,[.w (.int .i64 0),.sg 4 [] true],0⟩
 | 24 => some ⟨.struct [(0,3),(1,22)],2,32,[.w (.int .i64 0),.sg 4 [] true],0⟩
 | 25 => some ⟨.slice 56,1,24,[.sg 6 [] true],0⟩
 | 26 => some ⟨.struct [(0,3),(1,3),(2,3),(3,3),(4,3),(5,25)],6,64,[.w (.int .i64 0),.w (.int .i64 0),.w (.int .i64 0),.w (.int .i64 0),.w (.int .i64 0),.sg 6 [] true],0⟩
 | 27 => some ⟨.struct [(0,3),(1,3),(2,3),(3,3),(4,3),(5,25)],6,64,[.w (.int .i64 0),.w (.int .i64 0),.w (.int .i64 0),.w (.int .i64 0),.w (.int .i64 0),.sg 6 [] true],0⟩
 | 28 => some ⟨.slice 27,1,24,[.sg 6 [] true],0⟩
 | 33 => some ⟨.slice 52,1,24,[.sg 4 [] true],0⟩
 | 34 => some ⟨.struct [(0,3),(1,33)],2,32,[.w (.int .i64 0),.sg 4 [] true],0⟩
 | 35 => some ⟨.struct [(0,3),(1,33)],2,32,[.w (.int .i64 0),.sg 4 [] true],0⟩
 | 37 => some ⟨.int .i64,1,8,[.w (.int .i64 0)],0⟩
 | 51 => some ⟨.struct [(0,9),(1,9),(2,3),(3,3)],4,48,[.str [],.str [],.w (.int .i64 0),.w (.int .i64 0)],0⟩
 | 52 => some ⟨.struct [(0,9),(1,9),(2,3),(3,3)],4,48,[.str [],.str [],.w (.int .i64 0),.w (.int .i64 0)],0⟩
 | 53 => some ⟨.map 9 3,1,8,[.w (.map none)],0⟩
 | 55 => some ⟨.struct [(0,3),(1,3),(2,4),(3,9),(4,4),(5,9)],6,64,[.w (.int .i64 0),.w (.int .i64 0),.w (.bool false),.str [],.w (.bool false),.str []],0⟩
 | 56 => some ⟨.struct [(0,3),(1,3),(2,4),(3,9),(4,4),(5,9)],6,64,[.w (.int .i64 0),.w (.int .i64 0),.w (.bool false),.str [],.w (.bool false),.str []],0⟩
 | 59 => some ⟨.struct [(0,9),(1,9),(2,3),(3,3)],4,48,[.str [],.str [],.w (.int .i64 0),.w (.int .i64 0)],0⟩
 | 62 => some ⟨.slice 5,1,24,[.sb [] true],0⟩
 | 70 => some ⟨.map 9 52,1,8,[.w (.map none)],0⟩
 | 87 => some ⟨.ptr,1,8,[.w (.pointer none)],0⟩
 | 100 => some ⟨.int .u64,1,8,[.w (.int .u64 0)],0⟩
 | 108 => some ⟨.int .u64,1,8,[.w (.int .u64 0)],0⟩
 | 110 => some ⟨.struct [(0,62),(1,37)],2,32,[.sb [] true,.w (.int .i64 0)],0⟩
 | 111 => some ⟨.struct [(0,62),(1,37)],2,32,[.sb [] true,.w (.int .i64 0)],0⟩
 | 115 => some ⟨.slice 3,1,24,[.si [] true],0⟩
 | 118 => some ⟨.int .i64,1,8,[.w (.int .i64 0)],0⟩
 | 125 => some ⟨.int .u32,1,4,[.w (.int .u32 0)],0⟩
 | 135 => some ⟨.int .u64,1,8,[.w (.int .u64 0)],0⟩
 | 139 => some ⟨.ptr,1,8,[.w (.pointer none)],0⟩
 | 142 => some ⟨.ptr,1,8,[.w (.pointer none)],0⟩
 | 154 => some ⟨.ptr,1,8,[.w (.pointer none)],0⟩
 | _ => none
theorem ty_ok : TOk Try.prog ty := by
 intro t i h
 refine tys_ok t i ?_
 unfold ty at h
 split at h <;> first | (injection h with h; subst h; rfl) | cases h
theorem mixed : Try.prog.follows .mixedOrders = true := by kernel_rfl
def noS (f : FuncId) : Option zas :=
 match f with
 | _ => none
theorem zel : Fns Try.prog noS := fun f s h => by cases h
def yesS : zas
 | [],[] => ⟨True,.w (.bool true),[]⟩
 | _,_ => zcj
end Go.Proofs.Ytebacgkeoefnkaa
namespace Go.Proofs.Ytebacgkeoefnkaa
namespace Ax
variable (T : zab) (t : TypeId)
theorem coe_w (v : Value) : coe T t (.w v) = .w v := rfl
theorem coe_str (bs : List UInt8) : coe T t (.str bs) = .str bs := rfl
theorem coe_agg (xs : List AV) : coe T t (.agg xs) = .agg xs := rfl
theorem coe_tup (xs : List AV) : coe T t (.tup xs) = .tup xs := rfl
theorem coe_sb (bs : List UInt8) (f : Bool) : coe T t (.sb bs f) = .sb bs f := rfl
theorem coe_si (ns : List Int) (f : Bool) : coe T t (.si ns f) = .si ns f := rfl
theorem coe_cp (xs : List AV) : coe T t (.cp xs) = .cp xs := rfl
theorem coe_ms (id s off len : Nat) : coe T t (.ms id s off len) = .ms id s off len := rfl
theorem coe_rf (id s i f : Nat) : coe T t (.rf id s i f) = .rf id s i f := rfl
theorem coe_fn (f : FuncId) (xs : List AV) : coe T t (.fn f xs) = .fn f xs := rfl
theorem yra (s : Nat) (x : AV) (xs : List AV) (f : Bool) : coe T t (.sg s (x :: xs) f) = .sg s (x :: xs) f := rfl
end Ax
open Ax
attribute [go_sem] zmd isZ8 zsk zlk zrg layB evT evD0 evD1 evD2 implies_true forall_const Option.getD aop aLen ev zal cv cvl zlo aBin aInt aUn aFn aEq List.length IntKind.bits evo List.append List.replicate zbw zjh TD.aggr zsh aMin aMax Ax.Ends rone List.isEmpty zgr zcq zfg List.drop List.take zhz zsi zsj srcB zff zcp zeb zkg bnd zsd zkf setB AV.leaves AV.okv AV.leaf Ax.one zak Blk.size Blk.len Option.isSome Option.isNone aStr aNil zdo zia List.contains List.elem Blk.closed Blk.noimm zlc Blk.clean ytq coe_w coe_str coe_agg coe_tup coe_sb coe_si coe_cp coe_ms coe_rf coe_fn yra zvb zjv zgp zgo zkh zgq zki zbq ymd putM cutM AV.pureK AV.pure zzu bare Thing.lone zco
attribute [go_sem] Nat.reduceAdd Nat.reduceSub Nat.reduceMul Int.reduceToNat reduceCtorEq Int.reducePow Nat.reducePow Int.reduceMod Nat.reduceLeDiff Int.reduceLE Int.reduceNe Int.reduceEq Nat.reduceEqDiff Nat.reduceLT Nat.reduceBEq
theorem lcT : (∀ {α β : Type} (f : α → β) (a : α) (l : List α),List.map f (a :: l) = f a :: List.map f l) ∧
  (∀ {α β : Type} (f : α → β),List.map f [] = []) ∧
  (∀ {α : Type} (l : List α),l.toArray.toList = l) ∧
  (∀ {α : Type} (xs ys : Array α),(xs ++ ys).toList = xs.toList ++ ys.toList) ∧
  (∀ {α : Type} (a : α),(some a).toArray = #[a]) ∧
  (∀ {α : Type},(none : Option α).toArray = #[]) ∧
  (∀ b : Bool,(b && b) = b) :=
 ⟨fun _ _ _ => rfl,fun _ => rfl,fun _ => rfl,fun _ _ => Array.toList_append,fun _ => rfl,rfl,fun b => Bool.and_self b⟩
attribute [go_sem ↓] ylr ylu yls ylt yqx yqy
theorem ssT : (type_of% @true_or) ∧
  (type_of% @false_or) ∧
  (type_of% @or_true) ∧
  (type_of% @or_false) ∧
  (type_of% @and_true) ∧
  (type_of% @true_and) ∧
  (type_of% @AV.w.injEq) ∧
  (type_of% @Value.int.injEq) ∧
  (type_of% @Value.bool.injEq) ∧
  (type_of% @AV.ms.injEq) ∧
  (type_of% @AV.sb.injEq) ∧
  (type_of% @AV.str.injEq) ∧
  (type_of% @Nat.zero_add) ∧
  (type_of% @Nat.add_zero) ∧
  (type_of% @Blk.b.injEq) ∧
  (type_of% @Blk.i.injEq) ∧
  (type_of% @Nat.succ_ne_zero) ∧
  (type_of% @and_self) :=
 ⟨@true_or,@false_or,@or_true,@or_false,@and_true,@true_and,@AV.w.injEq,@Value.int.injEq,@Value.bool.injEq,@AV.ms.injEq,@AV.sb.injEq,@AV.str.injEq,@Nat.zero_add,@Nat.add_zero,@Blk.b.injEq,@Blk.i.injEq,@Nat.succ_ne_zero,@and_self⟩
end Go.Proofs.Ytebacgkeoefnkaa
namespace Go.Proofs.Ytebacgkeoefnkaa
open Ax
def zz (n : Int) : Int := if 0 ≤ n then 2 * n else -2 * n - 1
def zzS : zas
 | [.w (.int k n)],[] => ⟨k = .i64 ∧ -9223372036854775808 ≤ n ∧ n ≤ 9223372036854775807,.w (.int .u64 (zz n)),[]⟩
 | _,_ => zcj
def zg (n : Int) : Int := if n % 2 = 0 then n / 2 else -(n / 2) - 1
theorem zwh (x : Int) (h : 0 ≤ x) (h' : x < 18446744073709551616) : bits .xor .u64 x 0 = x := by
 show IntKind.u64.wrap ((BitVec.ofInt 64 x ^^^ BitVec.ofInt 64 0).toNat : Int) = _
 rw [show BitVec.ofInt 64 0 = 0#64 from rfl,BitVec.xor_zero,BitVec.toNat_ofInt,IntKind.wrap_u64]
 omega
theorem zwi (x : Int) (h : 0 ≤ x) (h' : x < 18446744073709551616) : bits .xor .u64 x 18446744073709551615 = 18446744073709551615 - x := by
 show IntKind.u64.wrap ((BitVec.ofInt 64 x ^^^ BitVec.ofInt 64 18446744073709551615).toNat : Int) = _
 rw [show BitVec.ofInt 64 18446744073709551615 = BitVec.allOnes 64 from by decide,BitVec.xor_allOnes,BitVec.toNat_not,BitVec.toNat_ofInt,IntKind.wrap_u64]
 omega
section
set_option maxRecDepth 100000
theorem yjc : zbg Try.prog 69 zzS := by
 refine zbb (S := noS) (T := ty) mixed ty_ok zel Try.func69 (c := Try.f69.body.getD .skip) (by kernel_rfl) (by kernel_rfl) (fun xs pins hp _ => ?_)
 unfold zzS at hp ⊢
 split at hp
 ·rename_i n _
  obtain ⟨rfl,h1,h2⟩ := hp
  refine ⟨by decide,?_⟩
  unfold Try.f69
  simp only [go_sem,coe,zaa,↓reduceIte,ty,noS]
  unfold zz
  rcases Int.lt_or_le n 0 with h | h
  ·rw [if_neg (by omega),show n / 9223372036854775808 % 18446744073709551616 = 18446744073709551615 by omega,zwi _ (by omega) (by omega)]
   omega
  ·rw [if_pos h,show n / 9223372036854775808 % 18446744073709551616 = 0 by omega,zwh _ (by omega) (by omega)]
   omega
 ·exact hp.elim
theorem yhc : zbg Try.prog 103 zzS := by
 refine zbb (S := noS) (T := ty) mixed ty_ok zel Try.func103 (c := Try.f103.body.getD .skip) (by kernel_rfl) (by kernel_rfl) (fun xs pins hp _ => ?_)
 unfold zzS at hp ⊢
 split at hp
 ·rename_i n _
  obtain ⟨rfl,h1,h2⟩ := hp
  refine ⟨by decide,?_⟩
  unfold Try.f103
  simp only [go_sem,coe,zaa,↓reduceIte,ty,noS,decide_eq_true_eq,decide_eq_false_iff_not]
  unfold zz
  constructor
  ·intro h; rw [if_pos h]; omega
  ·intro h; rw [if_neg h]; omega
 ·exact hp.elim
end
end Go.Proofs.Ytebacgkeoefnkaa
namespace Go.Proofs.Ytebacgkeoefnkaa
open Ax
def putU (u : Nat) : List UInt8 := if u < 128 then [UInt8.ofNat u] else UInt8.ofNat (u % 128 + 128) :: putU (u / 128)
termination_by u
decreasing_by omega
def putS : zas
 | [.w (.int k n)],[] => ⟨k = .i64 ∧ -9223372036854775808 ≤ n ∧ n ≤ 9223372036854775807,.ms 0 1 0 (putU (zz n).toNat).length,[.b (putU (zz n).toNat)]⟩
 | _,_ => zcj
def S2 (f : FuncId) : Option zas :=
 match f with
 | 69 => some zzS
 | _ => none
theorem S2_ok : Fns Try.prog S2 := by
 intro f s h
 unfold S2 at h
 split at h
 ·injection h with h; subst h; exact ⟨⟨_,Try.func69,by kernel_rfl,by kernel_rfl⟩,yjc⟩
 ·cases h
theorem zut {u : Nat} (h : ¬ u < 128) : putU u = UInt8.ofNat (u % 128 + 128) :: putU (u / 128) := by
 rw [putU,if_neg h]
theorem zgu {u : Nat} (h : u < 128) : putU u = [UInt8.ofNat u] := by
 rw [putU,if_pos h]
theorem ydq (u : Nat) : 0 < (putU u).length := by
 rw [putU]; split <;> simp
theorem ydr : ∀ (k u : Nat),u < 128 ^ (k + 1) → (putU u).length ≤ k + 1
 | 0,u,h => by rw [zgu (by simpa using h)]; simp
 | k + 1,u,h => by
  by_cases hu : u < 128
  ·rw [zgu hu]; simp
  ·rw [zut hu]
   have := ydr k (u / 128) (by rw [Nat.div_lt_iff_lt_mul (by decide)]; rw [Nat.pow_succ] at h; exact h)
   simp; omega
theorem p128 : (128 : Nat) ^ (9 + 1) = 1180591620717411303424 := by simp
theorem zbl (u : Nat) (h : u < 18446744073709551616) : (putU u).length ≤ 10 := ydr 9 u (by rw [p128]; omega)
theorem ykf : ∀ x : Fin 256,x.val ||| 128 = x.val % 128 + 128 := by decide +kernel
theorem or128 (m : Nat) : bits .or .u8 ((m : Int) % 256) 128 = ((m % 128 + 128 : Nat) : Int) := by
 rw [u8_or _ _ (by omega) (by omega) (by omega) (by omega)]
 have e : ((m : Int) % 256).toNat = m % 256 := by omega
 have := ykf ⟨m % 256,by omega⟩
 simp only at this
 rw [e,show (128 : Int).toNat = 128 from rfl,this]
 omega
theorem zga (n : Int) (h1 : -9223372036854775808 ≤ n) (h2 : n ≤ 9223372036854775807) : 0 ≤ zz n ∧ zz n < 18446744073709551616 := by
 unfold zz; split <;> omega
section
set_option maxRecDepth 100000
theorem zpp : zbg Try.prog 46 putS := by
 refine zbb (S := S2) (T := ty) mixed ty_ok S2_ok Try.func46 (c := Try.f46.body.getD .skip) (by kernel_rfl) (by kernel_rfl) (fun xs pins hp _ => ?_)
 unfold putS at hp ⊢
 split at hp
 ·rename_i n _
  obtain ⟨rfl,h1,h2⟩ := hp
  refine ⟨by decide,?_⟩
  unfold Try.f46
  simp only [go_sem,coe,zaa,↓reduceIte,ty,S2,zzS]
  have hz := zga n h1 h2
  refine ⟨⟨h1,h2⟩,zef ⟨fun m σ => ∃ (u : Nat) (bs : List UInt8),m = u ∧ u < 18446744073709551616 ∧ bs ++ putU u = putU (zz n).toNat ∧
   σ = ⟨[.w (.int .i64 n),.junk,.junk,.w (.int .u64 u),.ms 4 1 0 bs.length,.junk,.junk,.junk,.junk,.junk,.junk,.junk,.junk,.junk,.junk,.junk,.junk,.junk,.junk,.junk,.junk,.junk],[(4,.b bs)],5⟩,?_,?_⟩⟩
  ·refine ⟨_,_,(zlq 4 1 (.b []) rfl (by exact trivial)).trans (zaf [0,1,2,3,44] rfl rfl rfl ?_ ?_),(zz n).toNat,[],rfl,by omega,rfl,rfl⟩
   ·simp only [ssT,zai,zaj,setSlot,gOf,AV.ren,renL,Blk.ren,Ax.look,Ax.put,reduceCtorEq,↓reduceIte,Nat.reduceEqDiff,Nat.reduceLT,Nat.reduceAdd,List.length_append,List.length_cons,List.length_nil,Option.some.injEq]; omega
   ·simp only [ssT,zai,zaj,setSlot,gOf,AV.ren,renL,Blk.ren,Ax.look,Ax.put,reduceCtorEq,↓reduceIte,Nat.reduceEqDiff,Nat.reduceLT,Nat.reduceAdd,List.length_append,List.length_cons,List.length_nil,Option.some.injEq]
  ·rintro m σ ⟨u,bs,rfl,hu,hbs,rfl⟩
   have hlen := congrArg List.length hbs
   have h10 := zbl (zz n).toNat (by omega)
   have h1' := ydq m
   rw [List.length_append] at hlen
   simp only [go_sem,coe,zaa,↓reduceIte,ty,S2,zzS,decide_eq_true_eq,decide_eq_false_iff_not]
   refine ⟨fun hc => ?_,fun hc => ?_⟩
   ·have hm : ¬ m < 128 := by omega
    rw [zut hm] at hbs
    rw [or128 m]
    refine ⟨by omega,by unfold top; omega,m / 128,_,by omega,zaf [0,1,2,3,61] rfl rfl rfl ?_ ?_,m / 128,bs ++ [UInt8.ofNat (m % 128 + 128)],rfl,by omega,?_,rfl⟩
    ·simp only [ssT,zai,zaj,setSlot,gOf,AV.ren,renL,Blk.ren,Ax.look,Ax.put,reduceCtorEq,↓reduceIte,Nat.reduceEqDiff,Nat.reduceLT,Nat.reduceAdd,List.length_append,List.length_cons,List.length_nil,Option.some.injEq]; omega
    ·simp only [ssT,zai,zaj,setSlot,gOf,AV.ren,renL,Blk.ren,Ax.look,Ax.put,reduceCtorEq,↓reduceIte,Nat.reduceEqDiff,Nat.reduceLT,Nat.reduceAdd,List.length_append,List.length_cons,List.length_nil,Option.some.injEq,Int.toNat_natCast]
    ·simpa using hbs
   ·have hm : m < 128 := by omega
    rw [zgu hm] at hbs
    have e : ((m : Int) % 256).toNat = m := by omega
    rw [e,← hbs]
    refine ⟨by omega,by unfold top; omega,rfl,by simp⟩
 ·exact hp.elim
def yfw : zas
 | [.w (.int k u)],[] => ⟨k = .u64 ∧ 0 ≤ u ∧ u < 18446744073709551616,.ms 0 1 0 (putU u.toNat).length,[.b (putU u.toNat)]⟩
 | _,_ => zcj
theorem ycm : zbg Try.prog 102 yfw := by
 refine zbb (S := noS) (T := ty) mixed ty_ok zel Try.func102 (c := Try.f102.body.getD .skip) (by kernel_rfl) (by kernel_rfl) (fun xs pins hp _ => ?_)
 unfold yfw at hp ⊢
 split at hp
 ·rename_i n _
  obtain ⟨rfl,h1,h2⟩ := hp
  refine ⟨by decide,?_⟩
  unfold Try.f102
  simp only [go_sem,coe,zaa,↓reduceIte,ty,noS]
  refine zef ⟨fun m σ => ∃ (u : Nat) (bs : List UInt8),m = u ∧ u < 18446744073709551616 ∧ bs ++ putU u = putU n.toNat ∧
   σ = ⟨[.w (.int .u64 u),.junk,.junk,.ms 4 1 0 bs.length,.junk,.junk,.junk,.junk,.junk,.junk,.junk,.junk,.junk,.junk,.junk,.junk,.junk,.junk,.junk,.junk],[(4,.b bs)],5⟩,?_,?_⟩
  ·refine ⟨_,_,(zlq 3 1 (.b []) rfl (by exact trivial)).trans (zaf [0,1,2,3,20] rfl rfl rfl ?_ ?_),n.toNat,[],rfl,by omega,rfl,rfl⟩
   ·simp only [ssT,zai,zaj,setSlot,gOf,AV.ren,renL,Blk.ren,Ax.look,Ax.put,reduceCtorEq,↓reduceIte,Nat.reduceEqDiff,Nat.reduceLT,Nat.reduceAdd,List.length_append,List.length_cons,List.length_nil,Option.some.injEq]; omega
   ·simp only [ssT,zai,zaj,setSlot,gOf,AV.ren,renL,Blk.ren,Ax.look,Ax.put,reduceCtorEq,↓reduceIte,Nat.reduceEqDiff,Nat.reduceLT,Nat.reduceAdd,List.length_append,List.length_cons,List.length_nil,Option.some.injEq]
  ·rintro m σ ⟨u,bs,rfl,hu,hbs,rfl⟩
   have hlen := congrArg List.length hbs
   have h10 := zbl n.toNat (by omega)
   have h1' := ydq m
   rw [List.length_append] at hlen
   simp only [go_sem,coe,zaa,↓reduceIte,ty,noS,decide_eq_true_eq,decide_eq_false_iff_not]
   have et : (m : Int).tmod 128 = m % 128 := Int.tmod_eq_emod_of_nonneg (by omega)
   have ed : (m : Int).tdiv 128 = m / 128 := Int.tdiv_eq_ediv_of_nonneg (by omega)
   rw [et,ed]
   refine ⟨fun hc => ?_,fun hc => ?_⟩
   ·have hm : ¬ m < 128 := by omega
    rw [zut hm] at hbs
    have e : (((m : Int) % 128 % 256 + 128) % 256) = ((m % 128 + 128 : Nat) : Int) := by omega
    rw [e]
    refine ⟨by omega,by unfold top; omega,m / 128,_,by omega,zaf [0,1,2,3,69] rfl rfl rfl ?_ ?_,m / 128,bs ++ [UInt8.ofNat (m % 128 + 128)],rfl,by omega,?_,rfl⟩
    ·simp only [ssT,zai,zaj,setSlot,gOf,AV.ren,renL,Blk.ren,Ax.look,Ax.put,reduceCtorEq,↓reduceIte,Nat.reduceEqDiff,Nat.reduceLT,Nat.reduceAdd,List.length_append,List.length_cons,List.length_nil,Option.some.injEq]; omega
    ·simp only [ssT,zai,zaj,setSlot,gOf,AV.ren,renL,Blk.ren,Ax.look,Ax.put,reduceCtorEq,↓reduceIte,Nat.reduceEqDiff,Nat.reduceLT,Nat.reduceAdd,List.length_append,List.length_cons,List.length_nil,Option.some.injEq,Int.toNat_natCast]
    ·simpa using hbs
   ·have hm : m < 128 := by omega
    rw [zgu hm] at hbs
    have e : ((m : Int) % 256).toNat = m := by omega
    rw [e,← hbs]
    refine ⟨by omega,by unfold top; omega,rfl,by simp⟩
 ·exact hp.elim
def S19 (f : FuncId) : Option zas :=
 match f with
 | 103 => some zzS
 | 102 => some yfw
 | _ => none
theorem S19_ok : Fns Try.prog S19 := by
 intro f s h
 unfold S19 at h
 split at h
 ·injection h with h; subst h; exact ⟨⟨_,Try.func103,by kernel_rfl,by kernel_rfl⟩,yhc⟩
 ·injection h with h; subst h; exact ⟨⟨_,Try.func102,by kernel_rfl,by kernel_rfl⟩,ycm⟩
 ·cases h
theorem yhd : zbg Try.prog 90 putS := by
 refine zbb (S := S19) (T := ty) mixed ty_ok S19_ok Try.func90 (c := Try.f90.body.getD .skip) (by kernel_rfl) (by kernel_rfl) (fun xs pins hp _ => ?_)
 unfold putS at hp ⊢
 split at hp
 ·rename_i n _
  obtain ⟨rfl,h1,h2⟩ := hp
  have hz := zga n h1 h2
  refine ⟨by decide,?_⟩
  unfold Try.f90
  simp only [go_sem,coe,zaa,↓reduceIte,ty,S19,zzS,yfw,h1,h2,hz.1,hz.2]
 ·exact hp.elim
def ysp (n : Int) : Int := if n < 0 then 0 else if 8 < n then 8 else n
def zpc (s : List UInt8) : List UInt8 := putU (2 * s.length) ++ s
def yph : zas
 | [.str s],[] => ⟨s.length ≤ 1000000,.ms 0 1 0 (zpc s).length,[.b (zpc s)]⟩
 | _,_ => zcj
def S37 (f : FuncId) : Option zas :=
 match f with
 | 46 => some putS
 | 90 => some putS
 | _ => none
theorem S37_ok : Fns Try.prog S37 := by
 intro f s h
 unfold S37 at h
 split at h
 ·injection h with h; subst h; exact ⟨⟨_,Try.func46,by kernel_rfl,by kernel_rfl⟩,zpp⟩
 ·injection h with h; subst h; exact ⟨⟨_,Try.func90,by kernel_rfl,by kernel_rfl⟩,yhd⟩
 ·cases h
theorem ygt : zbg Try.prog 47 yph := by
 refine zbb (S := S37) (T := ty) mixed ty_ok S37_ok Try.func47 (c := Try.f47.body.getD .skip) (by kernel_rfl) (by kernel_rfl) (fun xs pins hp _ => ?_)
 unfold yph at hp ⊢
 split at hp
 ·rename_i s _
  refine ⟨by decide,?_⟩
  have hp : s.length ≤ 1000000 := hp
  have hz : (zz (s.length : Int)).toNat = 2 * s.length := by unfold zz; rw [if_pos (by omega)]; omega
  have h10 := zbl (2 * s.length) (by omega)
  unfold Try.f47
  simp only [go_sem,coe,zaa,↓reduceIte,ty,S37,putS,hz]
  unfold zpc top
  simp only [List.length_append]
  exact ⟨by omega,by omega,trivial,trivial⟩
 ·exact hp.elim
end
end Go.Proofs.Ytebacgkeoefnkaa
namespace Go.Proofs.Ytebacgkeoefnkaa
open Ax
theorem zoc (k : Nat) (b : UInt8) (l : List UInt8) : (List.replicate (k + 1) 0 ++ l).set k b = List.replicate k 0 ++ b :: l := by
 induction k with
 | zero => rfl
 | succ k ih =>
  rw [List.replicate_succ,List.cons_append,List.set_cons_succ,ih]
  rw [List.replicate_succ (n := k),List.cons_append]
end Go.Proofs.Ytebacgkeoefnkaa
namespace Go.Proofs.Ytebacgkeoefnkaa
open Ax
def getF (bs : List UInt8) : Nat → Nat → Int → Int × Nat × Int
 | 0,_,_ => if bs.length < 10 then (0,0,3) else (0,0,4)
 | r + 1,i,u =>
  if 128 ≤ (bs.getD i 0).toNat then getF bs r (i + 1) (bits .or .u64 u (bits .andNot .u8 (bs.getD i 0).toNat 128 % 18446744073709551616 * 2 ^ (7 * i) % 18446744073709551616))
  else if (0 < i ∧ (bs.getD i 0).toNat = 0) ∨ (i = 9 ∧ 1 < (bs.getD i 0).toNat) then (0,0,4)
  else (zg (bits .or .u64 u (bits .andNot .u8 (bs.getD i 0).toNat 128 % 18446744073709551616 * 2 ^ (7 * i) % 18446744073709551616)),i + 1,0)
def getL (bs : List UInt8) : Int × Nat × Int := getF bs (min bs.length 10) 0 0
end Go.Proofs.Ytebacgkeoefnkaa
namespace Go.Proofs.Ytebacgkeoefnkaa
open Ax
def tkL (n : Int) (bs : List UInt8) : List UInt8 := if (bs.length : Int) < n then bs else bs.drop n.toNat
def tkE (n : Int) (bs : List UInt8) (e : Int) : Int := if (bs.length : Int) < n then 3 else e
section
set_option maxRecDepth 100000
def numN (bs : List UInt8) (e : Int) : Int := if e = 0 then (getL bs).1 else 0
def rfixL (n : Int) (bs : List UInt8) (e : Int) : List UInt8 := if e = 0 then tkL (ysp n) bs else bs
def rfixE (n : Int) (bs : List UInt8) (e : Int) : Int := if e = 0 then tkE (ysp n) bs 0 else e
end
end Go.Proofs.Ytebacgkeoefnkaa
namespace Go.Proofs.Ytebacgkeoefnkaa
open Ax
theorem ypa {sl : List AV} {H : Heap} {nx id s o n : Nat} {bs : List UInt8} (i : Nat) (hs : slot sl i = .ms id s o n) (hl : Ax.look H id = some (.b bs)) : Weak ⟨sl,H,nx⟩ ⟨fzL id bs sl,fzH id bs H,nx⟩ :=
 yjf id i bs hl (by rw [hs]; simp [AV.ids])
theorem zjl (id : Nat) (bs : List UInt8) : ∀ (sl : List AV) (i : Nat),slot (fzL id bs sl) i = (slot sl i).fz id bs
 | [],i => rfl
 | x :: sl,0 => rfl
 | x :: sl,i + 1 => zjl id bs sl i
theorem zpf (x : AV) : ∀ (sl : List AV) (i j : Nat),i ≠ j → slot (setSlot sl i x) j = slot sl j
 | [],i,j,h => rfl
 | y :: sl,0,0,h => (h rfl).elim
 | y :: sl,0,j + 1,h => rfl
 | y :: sl,i + 1,0,h => rfl
 | y :: sl,i + 1,j + 1,h => zpf x sl i j (by omega)
theorem zpg (x : AV) : ∀ (sl : List AV) (i : Nat),slot sl i ≠ .junk → slot (setSlot sl i x) i = x
 | [],i,h => (h rfl).elim
 | y :: sl,0,h => rfl
 | y :: sl,i + 1,h => zpg x sl i h
theorem ydp {T : zab} {sl : List AV} {H : Heap} {nx id n : Nat} {bs rs : List UInt8} {e e' : Value} {q : Prop} (h2 : slot sl 2 = .ms id 1 0 n) (h3 : slot sl 3 = .w e) (hl : Ax.look H id = some (.b bs)) (hn : n = bs.length) (hr : rs = bs) (he : e' = e) :
  yaj T [.tmp 2,.tmp 3] [] ⟨q,.tup [.sb rs false,.w e'],[]⟩ .ret ⟨sl,H,nx⟩ := by
 subst hn hr he
 have hs : slot (fzL id rs sl) 2 = .sb rs false := by
  rw [zjl,h2]
  simp [AV.fz]
 refine ⟨_,(ypa 2 h2 hl).trans (zdf 2 (.sb rs false) (fun w loc v h => by rwa [hs] at h)),?_⟩
 have e2 : slot (setSlot (fzL id rs sl) 2 (.sb rs false)) 2 = .sb rs false := zpg _ _ _ (by rw [hs]; simp)
 have e3 : slot (setSlot (fzL id rs sl) 2 (.sb rs false)) 3 = .w e' := by rw [zpf _ _ _ _ (by omega),zjl,h3]; rfl
 simp only [Ax.Ends,Ax.rvals,EndsX,rone,e2,e3,AV.ids,idsL,newIds,upTo,nodup,pinsOf,List.nil_append,AV.ren,renL,and_self]
def rA (d t : Int) : Prop := d < 0 ∨ 31 < d ∨ t < 0 ∨ 1099511627776 < t
def rB (key val : List UInt8) : Prop := 64 < key.length ∨ 512 < val.length
def rC (k : Bool) (key : List UInt8) (dd : Bool) (val : List UInt8) : Prop := (k = false ∧ (key ≠ [] ∨ dd = true)) ∨ (dd = true ∧ val ≠ [])
instance (d t : Int) : Decidable (rA d t) := by unfold rA; infer_instance
instance (key val : List UInt8) : Decidable (rB key val) := by unfold rB; infer_instance
instance (k : Bool) (key : List UInt8) (dd : Bool) (val : List UInt8) : Decidable (rC k key dd val) := by unfold rC; infer_instance
def rchk (d t : Int) (k : Bool) (key : List UInt8) (dd : Bool) (val : List UInt8) : Int := if rA d t then 11 else if rB key val then 5 else if rC k key dd val then 4 else 0
theorem zng (d t : Int) (k : Bool) (key : List UInt8) (dd : Bool) (val : List UInt8) :
  (rchk d t k key dd val = 11 ∧ rA d t) ∨ (rchk d t k key dd val = 5 ∧ ¬ rA d t ∧ rB key val) ∨ (rchk d t k key dd val = 4 ∧ ¬ rA d t ∧ ¬ rB key val ∧ rC k key dd val) ∨ (rchk d t k key dd val = 0 ∧ ¬ rA d t ∧ ¬ rB key val ∧ ¬ rC k key dd val) := by
 unfold rchk
 by_cases h1 : rA d t
 ·exact .inl ⟨if_pos h1,h1⟩
 ·by_cases h2 : rB key val
  ·exact .inr (.inl ⟨by rw [if_neg h1,if_pos h2],h1,h2⟩)
  ·by_cases h3 : rC k key dd val
   ·exact .inr (.inr (.inl ⟨by rw [if_neg h1,if_neg h2,if_pos h3],h1,h2,h3⟩))
   ·exact .inr (.inr (.inr ⟨by rw [if_neg h1,if_neg h2,if_neg h3],h1,h2,h3⟩))
def yjz : zas
 | [.agg [.w (.int .i64 d),.w (.int .i64 t),.w (.bool k),.str key,.w (.bool dd),.str val]],[] => ⟨True,.w (.int .i64 (rchk d t k key dd val)),[]⟩
 | _,_ => zcj
section
set_option maxRecDepth 100000
set_option maxHeartbeats 1000000 in
theorem zxb : zbg Try.prog 95 yjz := by
 refine zbb (S := noS) (T := ty) mixed ty_ok zel Try.func95 (c := Try.f95.body.getD .skip) (by kernel_rfl) (by kernel_rfl) (fun xs pins hp _ => ?_)
 unfold yjz at hp ⊢
 split at hp
 ·rename_i d t k key dd val _
  refine ⟨by simp,?_⟩
  unfold Try.f95
  have hc := zng d t k key dd val
  generalize rchk d t k key dd val = X at *
  unfold rA rB rC at hc
  rcases key with _ | ⟨c,ks⟩ <;> rcases val with _ | ⟨v,vs⟩ <;> cases k <;> cases dd
  all_goals
   simp only [go_sem,coe,zaa,↓reduceIte,ty,noS,decide_eq_true_eq,decide_eq_false_iff_not]
   simp only [List.length_cons,List.length_nil,ne_eq,reduceCtorEq,not_true_eq_false,not_false_eq_true,or_true,true_or,or_false,false_or,and_true,and_false,true_and,false_and,Bool.false_eq_true,Bool.true_eq_false] at hc
   repeat' (first | (intro _) | (apply And.intro))
   all_goals omega
 ·exact hp.elim
def zvh (k dd : Bool) : Int := (if k then 1 else 0) + (if dd then 2 else 0)
def yqq : zas
 | [.agg [.w (.int .i64 d),.w (.int .i64 t),.w (.bool k),.str key,.w (.bool dd),.str val]],[] => ⟨True,.w (.int .u8 (zvh k dd)),[]⟩
 | _,_ => zcj
theorem yih : zbg Try.prog 96 yqq := by
 refine zbb (S := noS) (T := ty) mixed ty_ok zel Try.func96 (c := Try.f96.body.getD .skip) (by kernel_rfl) (by kernel_rfl) (fun xs pins hp _ => ?_)
 unfold yqq at hp ⊢
 split at hp
 ·rename_i d t k key dd val _
  refine ⟨by simp,?_⟩
  have b1 : bits .or .u8 0 1 = 1 := by decide
  have b2 : bits .or .u8 0 2 = 2 := by decide
  have b3 : bits .or .u8 1 2 = 3 := by decide
  unfold Try.f96
  cases k <;> cases dd <;> simp only [go_sem,coe,zaa,↓reduceIte,ty,noS,b1,b2,b3,zvh] <;> rfl
 ·exact hp.elim
def recL (d t : Int) (k : Bool) (key : List UInt8) (dd : Bool) (val : List UInt8) : List UInt8 :=
 UInt8.ofNat (zvh k dd).toNat :: (putU (zz d).toNat ++ (putU (zz t).toNat ++ ((if k then zpc key else []) ++ (if dd then [] else zpc val))))
def recB (d t : Int) (k : Bool) (key : List UInt8) (dd : Bool) (val : List UInt8) : List UInt8 := if rchk d t k key dd val = 0 then recL d t k key dd val else []
def yaw : zas
 | [.agg [.w (.int .i64 d),.w (.int .i64 t),.w (.bool k),.str key,.w (.bool dd),.str val]],[] => ⟨True,.tup [.sb (recB d t k key dd val) false,.w (.int .i64 (rchk d t k key dd val))],[]⟩
 | _,_ => zcj
def yop (f : FuncId) : Option zas :=
 match f with
 | 95 => some yjz
 | 96 => some yqq
 | 46 => some putS
 | 47 => some yph
 | _ => none
theorem yrs : Fns Try.prog yop := by
 intro f s h
 unfold yop at h
 split at h
 ·injection h with h; subst h; exact ⟨⟨_,Try.func95,by kernel_rfl,by kernel_rfl⟩,zxb⟩
 ·injection h with h; subst h; exact ⟨⟨_,Try.func96,by kernel_rfl,by kernel_rfl⟩,yih⟩
 ·injection h with h; subst h; exact ⟨⟨_,Try.func46,by kernel_rfl,by kernel_rfl⟩,zpp⟩
 ·injection h with h; subst h; exact ⟨⟨_,Try.func47,by kernel_rfl,by kernel_rfl⟩,ygt⟩
 ·cases h
theorem zgb (s : List UInt8) (h : s.length ≤ 1000000) : (zpc s).length ≤ s.length + 10 := by
 unfold zpc
 have := zbl (2 * s.length) (by omega)
 rw [List.length_append]; omega
set_option maxHeartbeats 1000000 in
theorem zxa : zbg Try.prog 78 yaw := by
 refine zqh (S := yop) (T := ty) mixed ty_ok yrs Try.func78 (c := Try.f78.body.getD .skip) (by kernel_rfl) (by kernel_rfl) (fun xs pins hp _ => ?_)
 unfold yaw at hp ⊢
 split at hp
 ·rename_i d t k key dd val _
  refine ⟨by simp,?_⟩
  unfold Try.f78
  by_cases h0 : rchk d t k key dd val = 0
  ·have hc := zng d t k key dd val
   unfold rA rB at hc
   have hd : (-9223372036854775808 ≤ d ∧ d ≤ 9223372036854775807) ∧ (-9223372036854775808 ≤ t ∧ t ≤ 9223372036854775807) ∧ key.length ≤ 64 ∧ val.length ≤ 512 := by omega
   obtain ⟨hd1,hd2,hd3,hd4⟩ := hd
   clear hc
   have z1 := zga d hd1.1 hd1.2
   have z2 := zga t hd2.1 hd2.2
   have l1 := zbl (zz d).toNat (by omega)
   have l2 := zbl (zz t).toNat (by omega)
   have l3 := zgb key (by omega)
   have l4 := zgb val (by omega)
   have k3 : key.length ≤ 1000000 := by omega
   have k4 : val.length ≤ 1000000 := by omega
   generalize hP1 : putU (zz d).toNat = P1 at *
   generalize hP2 : putU (zz t).toNat = P2 at *
   generalize hP3 : zpc key = P3 at *
   generalize hP4 : zpc val = P4 at *
   cases k <;> cases dd
   all_goals
    have f0 : zvh false false = 0 := rfl
    have f1 : zvh true false = 1 := rfl
    have f2 : zvh false true = 2 := rfl
    have f3 : zvh true true = 3 := rfl
    simp only [go_sem,coe,zaa,↓reduceIte,ty,yop,yjz,yqq,putS,yph,h0,hd1,hd2,k3,k4,hP1,hP2,hP3,hP4,List.take_length,f0,f1,f2,f3]
    have ht : top = 4294967296 := rfl
    repeat (refine And.intro (by omega) ?_)
    exact ydp rfl rfl rfl (by simp only [List.length_append,List.length_cons]; omega) (by simp [recB,h0,recL,hP1,hP2,hP3,hP4,f0,f1,f2,f3]) rfl
  ·have d0 : decide (rchk d t k key dd val = 0) = false := decide_eq_false h0
   simp only [go_sem,coe,zaa,↓reduceIte,ty,yop,yjz,d0]
   refine ⟨_,zdf 2 (.sb [] false) (fun _ _ _ h => h.nilb),?_⟩
   simp only [go_sem,coe,zaa,↓reduceIte,ty,recB,if_neg h0]
 ·exact hp.elim
end
end Go.Proofs.Ytebacgkeoefnkaa
namespace Go.Proofs.Ytebacgkeoefnkaa
open Ax
def bfld (b c p e s n : Int) : Int :=
 if c < 1 ∨ 32 < c ∨ b < 0 ∨ 4611686018427387903 - c < b ∨ p < 0 ∨ 1099511627776 < p ∨ e < 0 ∨ 32767 < e ∨ s < 0 ∨ 2147483647 < s then 11
 else if p = 0 ∧ (e ≠ 0 ∨ s ≠ 0) then 4 else if c < n then 5 else 0
def yoc : zas
 | [.agg [.w (.int .i64 b),.w (.int .i64 c),.w (.int .i64 p),.w (.int .i64 e),.w (.int .i64 s),.sg 6 xs f]],[] => ⟨xs.length ≤ 9223372036854775807,.w (.int .i64 (bfld b c p e s xs.length)),[]⟩
 | _,_ => zcj
section
set_option maxRecDepth 100000
set_option maxHeartbeats 1000000 in
theorem yiu : zbg Try.prog 77 yoc := by
 refine zbb (S := noS) (T := ty) mixed ty_ok zel Try.func77 (c := Try.f77.body.getD .skip) (by kernel_rfl) (by kernel_rfl) (fun xs pins hp _ => ?_)
 unfold yoc at hp ⊢
 split at hp
 ·rename_i b c p e s xs f _
  refine ⟨by simp,?_⟩
  unfold Try.f77
  by_cases h0 : c < 1
  ·have d0 : decide (c < 1) = true := decide_eq_true h0
   have hv : bfld b c p e s xs.length = 11 := if_pos (by omega)
   simp only [go_sem,coe,zaa,↓reduceIte,ty,noS,hv,d0]
  have d0 : decide (c < 1) = false := decide_eq_false h0
  by_cases h1 : 32 < c
  ·have d1 : decide (32 < c) = true := decide_eq_true h1
   have hv : bfld b c p e s xs.length = 11 := if_pos (by omega)
   simp only [go_sem,coe,zaa,↓reduceIte,ty,noS,hv,d0,d1]
  have d1 : decide (32 < c) = false := decide_eq_false h1
  have e1 : (4611686018427387903 - c + 9223372036854775808) % 18446744073709551616 - 9223372036854775808 = 4611686018427387903 - c := by omega
  by_cases h2 : b < 0
  ·have d2 : decide (b < 0) = true := decide_eq_true h2
   have hv : bfld b c p e s xs.length = 11 := if_pos (by omega)
   simp only [go_sem,coe,zaa,↓reduceIte,ty,noS,hv,d0,d1,d2]
  have d2 : decide (b < 0) = false := decide_eq_false h2
  by_cases h3 : 4611686018427387903 - c < b
  ·have d3 : decide (4611686018427387903 - c < b) = true := decide_eq_true h3
   have hv : bfld b c p e s xs.length = 11 := if_pos (by omega)
   simp only [go_sem,coe,zaa,↓reduceIte,ty,noS,hv,d0,d1,d2,d3,e1]
  have d3 : decide (4611686018427387903 - c < b) = false := decide_eq_false h3
  by_cases h4 : p < 0
  ·have d4 : decide (p < 0) = true := decide_eq_true h4
   have hv : bfld b c p e s xs.length = 11 := if_pos (by omega)
   simp only [go_sem,coe,zaa,↓reduceIte,ty,noS,hv,d0,d1,d2,d3,d4,e1]
  have d4 : decide (p < 0) = false := decide_eq_false h4
  by_cases h5 : 1099511627776 < p
  ·have d5 : decide (1099511627776 < p) = true := decide_eq_true h5
   have hv : bfld b c p e s xs.length = 11 := if_pos (by omega)
   simp only [go_sem,coe,zaa,↓reduceIte,ty,noS,hv,d0,d1,d2,d3,d4,d5,e1]
  have d5 : decide (1099511627776 < p) = false := decide_eq_false h5
  by_cases h6 : e < 0
  ·have d6 : decide (e < 0) = true := decide_eq_true h6
   have hv : bfld b c p e s xs.length = 11 := if_pos (by omega)
   simp only [go_sem,coe,zaa,↓reduceIte,ty,noS,hv,d0,d1,d2,d3,d4,d5,d6,e1]
  have d6 : decide (e < 0) = false := decide_eq_false h6
  by_cases h7 : 32767 < e
  ·have d7 : decide (32767 < e) = true := decide_eq_true h7
   have hv : bfld b c p e s xs.length = 11 := if_pos (by omega)
   simp only [go_sem,coe,zaa,↓reduceIte,ty,noS,hv,d0,d1,d2,d3,d4,d5,d6,d7,e1]
  have d7 : decide (32767 < e) = false := decide_eq_false h7
  by_cases h8 : s < 0
  ·have d8 : decide (s < 0) = true := decide_eq_true h8
   have hv : bfld b c p e s xs.length = 11 := if_pos (by omega)
   simp only [go_sem,coe,zaa,↓reduceIte,ty,noS,hv,d0,d1,d2,d3,d4,d5,d6,d7,d8,e1]
  have d8 : decide (s < 0) = false := decide_eq_false h8
  by_cases h9 : 2147483647 < s
  ·have d9 : decide (2147483647 < s) = true := decide_eq_true h9
   have hv : bfld b c p e s xs.length = 11 := if_pos (by omega)
   simp only [go_sem,coe,zaa,↓reduceIte,ty,noS,hv,d0,d1,d2,d3,d4,d5,d6,d7,d8,d9,e1]
  have d9 : decide (2147483647 < s) = false := decide_eq_false h9
  have hn : ¬ (c < 1 ∨ 32 < c ∨ b < 0 ∨ 4611686018427387903 - c < b ∨ p < 0 ∨ 1099511627776 < p ∨ e < 0 ∨ 32767 < e ∨ s < 0 ∨ 2147483647 < s) := by omega
  have hr : bfld b c p e s xs.length = if p = 0 ∧ (e ≠ 0 ∨ s ≠ 0) then 4 else if c < xs.length then 5 else 0 := if_neg hn
  by_cases hl : c < xs.length
  ·have dl : decide (c < (xs.length : Int)) = true := decide_eq_true hl
   by_cases hp0 : p = 0
   ·have dp : decide (p = 0) = true := decide_eq_true hp0
    by_cases he0 : e = 0
    ·have de : decide (e = 0) = true := decide_eq_true he0
     by_cases hs0 : s = 0
     ·have ds : decide (s = 0) = true := decide_eq_true hs0
      have hv : bfld b c p e s xs.length = 5 := by rw [hr,if_neg (by omega),if_pos hl]
      simp only [go_sem,coe,zaa,↓reduceIte,ty,noS,hv,d0,d1,d2,d3,d4,d5,d6,d7,d8,d9,e1,dl,dp,de,ds]
     ·have ds : decide (s = 0) = false := decide_eq_false hs0
      have hv : bfld b c p e s xs.length = 4 := by rw [hr,if_pos (by omega)]
      simp only [go_sem,coe,zaa,↓reduceIte,ty,noS,hv,d0,d1,d2,d3,d4,d5,d6,d7,d8,d9,e1,dl,dp,de,ds]
    ·have de : decide (e = 0) = false := decide_eq_false he0
     have hv : bfld b c p e s xs.length = 4 := by rw [hr,if_pos (by omega)]
     simp only [go_sem,coe,zaa,↓reduceIte,ty,noS,hv,d0,d1,d2,d3,d4,d5,d6,d7,d8,d9,e1,dl,dp,de]
   ·have dp : decide (p = 0) = false := decide_eq_false hp0
    have hv : bfld b c p e s xs.length = 5 := by rw [hr,if_neg (by omega),if_pos hl]
    simp only [go_sem,coe,zaa,↓reduceIte,ty,noS,hv,d0,d1,d2,d3,d4,d5,d6,d7,d8,d9,e1,dl,dp]
  ·have dl : decide (c < (xs.length : Int)) = false := decide_eq_false hl
   by_cases hp0 : p = 0
   ·have dp : decide (p = 0) = true := decide_eq_true hp0
    by_cases he0 : e = 0
    ·have de : decide (e = 0) = true := decide_eq_true he0
     by_cases hs0 : s = 0
     ·have ds : decide (s = 0) = true := decide_eq_true hs0
      have hv : bfld b c p e s xs.length = 0 := by rw [hr,if_neg (by omega),if_neg hl]
      simp only [go_sem,coe,zaa,↓reduceIte,ty,noS,hv,d0,d1,d2,d3,d4,d5,d6,d7,d8,d9,e1,dl,dp,de,ds]
     ·have ds : decide (s = 0) = false := decide_eq_false hs0
      have hv : bfld b c p e s xs.length = 4 := by rw [hr,if_pos (by omega)]
      simp only [go_sem,coe,zaa,↓reduceIte,ty,noS,hv,d0,d1,d2,d3,d4,d5,d6,d7,d8,d9,e1,dl,dp,de,ds]
    ·have de : decide (e = 0) = false := decide_eq_false he0
     have hv : bfld b c p e s xs.length = 4 := by rw [hr,if_pos (by omega)]
     simp only [go_sem,coe,zaa,↓reduceIte,ty,noS,hv,d0,d1,d2,d3,d4,d5,d6,d7,d8,d9,e1,dl,dp,de]
   ·have dp : decide (p = 0) = false := decide_eq_false hp0
    have hv : bfld b c p e s xs.length = 0 := by rw [hr,if_neg (by omega),if_neg hl]
    simp only [go_sem,coe,zaa,↓reduceIte,ty,noS,hv,d0,d1,d2,d3,d4,d5,d6,d7,d8,d9,e1,dl,dp]
 ·exact hp.elim
end
end Go.Proofs.Ytebacgkeoefnkaa
namespace Go.Proofs.Ytebacgkeoefnkaa
open Ax
theorem zdj {α : Type} (g : α → AV) : ∀ (ps : List α) (i : Nat) (h : i < ps.length),slot (ps.map g) i = g ps[i]
 | p :: ps,0,h => rfl
 | p :: ps,i + 1,h => by
  simp only [List.map_cons,slot,List.getElem_cons_succ]
  exact zdj g ps i (by simpa using h)
end Go.Proofs.Ytebacgkeoefnkaa
namespace Go.Proofs.Ytebacgkeoefnkaa
open Ax
structure Rec where
 d : Int
 t : Int
 k : Bool
 key : List UInt8
 dd : Bool
 val : List UInt8
def rv (r : Rec) : AV := .agg [.w (.int .i64 r.d),.w (.int .i64 r.t),.w (.bool r.k),.str r.key,.w (.bool r.dd),.str r.val]
def rrec : AV → Rec
 | .agg [.w (.int _ d),.w (.int _ t),.w (.bool k),.str key,.w (.bool dd),.str val] => ⟨d,t,k,key,dd,val⟩
 | _ => ⟨0,0,false,[],false,[]⟩
theorem zam (rs : List Rec) : (rs.map rv).map rrec = rs := by
 rw [List.map_map]; exact List.map_id _
def rk (r : Rec) : Int := rchk r.d r.t r.k r.key r.dd r.val
def rb (r : Rec) : List UInt8 := recB r.d r.t r.k r.key r.dd r.val
def layE (c : Int) : Int → List Rec → Int
 | _,[] => 0
 | a,r :: rs => if rk r = 0 then (if r.d ≤ a ∨ c ≤ r.d then 16 else layE c r.d rs) else rk r
theorem ziq (c a : Int) (r : Rec) (rs : List Rec) : layE c a (r :: rs) = if rk r = 0 then (if r.d ≤ a ∨ c ≤ r.d then 16 else layE c r.d rs) else rk r := rfl
def nums (b c p e s n : Int) : List Int := [b,c,p,e,s,n]
def ziu (l : List Int) : List UInt8 := l.flatMap fun n => putU (zz n).toNat
def batL (b c p e s : Int) (rs : List Rec) : List UInt8 := ziu (nums b c p e s rs.length) ++ rs.flatMap rb
def batE (b c p e s : Int) (rs : List Rec) : Int :=
 if bfld b c p e s rs.length = 0 then (if layE c (-1) rs = 0 then (if 8192 < (batL b c p e s rs).length then 5 else 0) else layE c (-1) rs) else bfld b c p e s rs.length
def batB (b c p e s : Int) (rs : List Rec) : List UInt8 := if batE b c p e s rs = 0 then batL b c p e s rs else []
def yfz : zas
 | [.agg [.w (.int .i64 b),.w (.int .i64 c),.w (.int .i64 p),.w (.int .i64 e),.w (.int .i64 s),.sg 6 xs f]],[] => ⟨xs.length ≤ 9223372036854775807 ∧ ∃ rs : List Rec,xs = rs.map rv,
   .tup [.sb (batB b c p e s (xs.map rrec)) false,.w (.int .i64 (batE b c p e s (xs.map rrec)))],[]⟩
 | _,_ => zcj
theorem zit : ∀ (l : List Int),(∀ x ∈ l,0 ≤ x ∧ x ≤ 9223372036854775807) → (ziu l).length ≤ 10 * l.length
 | [],_ => Nat.le_refl _
 | n :: l,h => by
  have h1 := zit l (fun x hx => h x (List.mem_cons_of_mem _ hx))
  have h2 := h n (by simp)
  have z := zga n (by omega) (by omega)
  have h3 := zbl (zz n).toNat (by omega)
  unfold ziu at h1 ⊢
  rw [List.flatMap_cons,List.length_append,List.length_cons]; omega
theorem yia (l : List Int) (n : Int) : ziu (l ++ [n]) = ziu l ++ putU (zz n).toNat := by unfold ziu; simp
theorem zxc (r : Rec) : (rb r).length ≤ 700 := by
 unfold rb recB
 split
 ·rename_i h
  have hc := zng r.d r.t r.k r.key r.dd r.val
  unfold rA rB at hc
  have hd : (-9223372036854775808 ≤ r.d ∧ r.d ≤ 9223372036854775807) ∧ (-9223372036854775808 ≤ r.t ∧ r.t ≤ 9223372036854775807) ∧ r.key.length ≤ 64 ∧ r.val.length ≤ 512 := by omega
  obtain ⟨hd1,hd2,hd3,hd4⟩ := hd
  clear hc
  have z1 := zga r.d hd1.1 hd1.2
  have z2 := zga r.t hd2.1 hd2.2
  have l1 := zbl (zz r.d).toNat (by omega)
  have l2 := zbl (zz r.t).toNat (by omega)
  have l3 := zgb r.key (by omega)
  have l4 := zgb r.val (by omega)
  unfold recL
  generalize r.k = k
  generalize r.dd = dd
  cases k <;> cases dd <;> simp <;> omega
 ·simp
theorem zsu : ∀ (rs : List Rec),(rs.flatMap rb).length ≤ 700 * rs.length
 | [] => Nat.le_refl _
 | r :: rs => by
  have h1 := zsu rs
  have h2 := zxc r
  rw [List.flatMap_cons,List.length_append,List.length_cons]; omega
theorem yoa {b c p e s n : Int} (h : bfld b c p e s n = 0) : 1 ≤ c ∧ c ≤ 32 ∧ 0 ≤ b ∧ b ≤ 4611686018427387903 ∧ 0 ≤ p ∧ p ≤ 1099511627776 ∧ 0 ≤ e ∧ e ≤ 32767 ∧ 0 ≤ s ∧ s ≤ 2147483647 ∧ n ≤ c := by
 unfold bfld at h
 split at h
 ·omega
 ·split at h
  ·omega
  ·split at h <;> omega
def zhf (f : FuncId) : Option zas :=
 match f with
 | 77 => some yoc
 | 46 => some putS
 | 78 => some yaw
 | _ => none
theorem yot : Fns Try.prog zhf := by
 intro f s h
 unfold zhf at h
 split at h
 ·injection h with h; subst h; exact ⟨⟨_,Try.func77,by kernel_rfl,by kernel_rfl⟩,yiu⟩
 ·injection h with h; subst h; exact ⟨⟨_,Try.func46,by kernel_rfl,by kernel_rfl⟩,zpp⟩
 ·injection h with h; subst h; exact ⟨⟨_,Try.func78,by kernel_rfl,by kernel_rfl⟩,zxa⟩
 ·cases h
section
set_option maxRecDepth 100000
set_option maxHeartbeats 2000000 in
theorem ycp : zbg Try.prog 60 yfz := by
 refine zqh (S := zhf) (T := ty) mixed ty_ok yot Try.func60 (c := Try.f60.body.getD .skip) (by kernel_rfl) (by kernel_rfl) (fun xs pins hp _ => ?_)
 unfold yfz at hp ⊢
 split at hp
 ·rename_i b c p e s xs f _
  obtain ⟨hL,rs,rfl⟩ := hp
  have hl4 : (rs.map rv).length = rs.length := by simp
  rw [hl4] at hL
  refine ⟨by simp,?_⟩
  unfold Try.f60
  obtain ⟨F,hF⟩ : ∃ F,bfld b c p e s rs.length = F := ⟨_,rfl⟩
  by_cases h0 : F = 0
  ·have d0 : decide (F = 0) = true := decide_eq_true h0
   have hz := yoa (hF.trans h0)
   obtain ⟨L,hLL⟩ : ∃ L,nums b c p e s rs.length = L := ⟨_,rfl⟩
   have hlen : L.length = 6 := by rw [← hLL]; rfl
   have hrg : ∀ x ∈ L,0 ≤ x ∧ x ≤ 9223372036854775807 := by
    rw [← hLL]; unfold nums
    intro x hx
    simp only [List.mem_cons,List.not_mem_nil,or_false] at hx
    omega
   have hL2 : [b,c,p,e,s,(rs.length : Int)] = L := hLL
   simp only [go_sem,zaa,↓reduceIte,ty,zhf,yoc,hl4,hL,hF,d0,hL2,zam]
   have ht : top = 4294967296 := rfl
   have hnl : rs.length ≤ 32 := by omega
   refine zef ⟨fun m σ => ∃ k : Nat,m = 6 - k ∧ k ≤ 6 ∧
     σ = ⟨[.agg [.w (.int .i64 b),.w (.int .i64 c),.w (.int .i64 p),.w (.int .i64 e),.w (.int .i64 s),.sg 6 (rs.map rv) f],.rf 4 6 0 0,.junk,.junk,.junk,.ms 6 1 0 (ziu (L.take k)).length,.junk,.junk,.junk,.junk,.junk,.junk,.junk,.junk,.junk,.junk,.junk,.junk,.junk,.junk,.junk,.junk,.junk,.junk,.junk,.junk,.junk,.junk,.junk,.junk,.junk,.ms 5 1 0 6,.w (.int .i64 6),.w (.int .i64 k),.junk,.junk,.junk,.junk,.junk,.junk,.junk,.junk,.junk,.junk,.junk,.junk,.junk,.junk,.junk,.junk,.junk,.junk,.junk,.junk,.junk,.junk,.junk,.junk,.junk,.junk,.junk,.junk,.junk,.junk,.junk,.junk,.junk,.junk,.junk,.junk,.junk,.junk,.junk,.junk,.junk,.junk,.junk,.junk],[(4,.g 6 [.agg [.w (.int .i64 b),.w (.int .i64 c),.w (.int .i64 p),.w (.int .i64 e),.w (.int .i64 s),.sg 6 (rs.map rv) f]]),(5,.i L),(6,.b (ziu (L.take k)))],7⟩,?_,?_⟩
   ·refine ⟨_,_,(zlq 5 1 (.b []) rfl (by exact trivial)).trans (zaf [0,1,2,3,4,180,204] rfl rfl rfl ?_ ?_),0,rfl,by omega,rfl⟩
    ·simp only [ssT,zai,zaj,setSlot,gOf,AV.ren,renL,Blk.ren,Ax.look,Ax.put,reduceCtorEq,↓reduceIte,Nat.reduceEqDiff,Nat.reduceLT,Nat.reduceAdd,List.length_append,List.length_cons,List.length_nil,Option.some.injEq]; exact ⟨by simp [ziu],rfl,rfl⟩
    ·simp only [ssT,zai,zaj,setSlot,gOf,AV.ren,renL,Blk.ren,Ax.look,Ax.put,reduceCtorEq,↓reduceIte,Nat.reduceEqDiff,Nat.reduceLT,Nat.reduceAdd,List.length_append,List.length_cons,List.length_nil,Option.some.injEq]; rfl
   ·rintro m σ ⟨k,rfl,hk,rfl⟩
    have e1 : ((k : Int) + 1 + 9223372036854775808) % 18446744073709551616 - 9223372036854775808 = ((k + 1 : Nat) : Int) := by omega
    by_cases hk6 : k < 6
    ·have d1 : decide ((k : Int) < 6) = true := decide_eq_true (by omega)
     have hkl : k < L.length := by omega
     obtain ⟨N,hN⟩ : ∃ N,L.getD k 0 = N := ⟨_,rfl⟩
     have hNe : L[k] = N := by rw [← hN]; simp [hkl]
     have hNr := hrg N (hNe ▸ List.getElem_mem hkl)
     have hN1 : -9223372036854775808 ≤ N := by omega
     have hN2 : N ≤ 9223372036854775807 := hNr.2
     have z := zga N hN1 hN2
     have hPl := zbl (zz N).toNat (by omega)
     have hsn : ziu (L.take (k + 1)) = ziu (L.take k) ++ putU (zz N).toNat := by
      rw [List.take_succ_eq_append_getElem hkl,yia,hNe]
     have hhl := zit (L.take k) (fun x hx => hrg x (List.mem_of_mem_take hx))
     rw [List.length_take] at hhl
     obtain ⟨P,hP⟩ : ∃ P,putU (zz N).toNat = P := ⟨_,rfl⟩
     rw [hP] at hsn hPl
     simp only [go_sem,zaa,↓reduceIte,ty,zhf,putS,d1,hN,hP,hN1,hN2,e1,hlen,List.take_length,Int.toNat_natCast,Nat.zero_add]
     repeat (refine And.intro (by omega) ?_)
     refine ⟨6 - (k + 1),_,by omega,zaf [0,1,2,3,4,5,63] rfl rfl rfl ?_ ?_,k + 1,rfl,by omega,rfl⟩
     ·simp only [ssT,zai,zaj,setSlot,gOf,AV.ren,renL,Blk.ren,Ax.look,Ax.put,reduceCtorEq,↓reduceIte,Nat.reduceEqDiff,Nat.reduceLT,Nat.reduceAdd,List.length_append,List.length_cons,List.length_nil,Option.some.injEq,hsn,List.length_append]
     ·simp only [ssT,zai,zaj,setSlot,gOf,AV.ren,renL,Blk.ren,Ax.look,Ax.put,reduceCtorEq,↓reduceIte,Nat.reduceEqDiff,Nat.reduceLT,Nat.reduceAdd,List.length_append,List.length_cons,List.length_nil,Option.some.injEq,hsn]
    ·have d1 : decide ((k : Int) < 6) = false := decide_eq_false (by omega)
     have hk2 : L.take k = L := List.take_of_length_le (by omega)
     simp only [go_sem,zaa,↓reduceIte,ty,zhf,d1,hk2]
     have hE0 : layE c (-1) rs = layE c (-1) (rs.drop 0) := by rw [List.drop_zero]
     have hHl := zit L hrg
     refine zef ⟨fun m σ => ∃ (i : Nat) (a : Int),m = rs.length - i ∧ i ≤ rs.length ∧ layE c (-1) rs = layE c a (rs.drop i) ∧
       σ = ⟨[.agg [.w (.int .i64 b),.w (.int .i64 c),.w (.int .i64 p),.w (.int .i64 e),.w (.int .i64 s),.sg 6 (rs.map rv) f],.rf 4 6 0 0,.junk,.junk,.junk,.ms 5 1 0 (ziu L ++ (rs.take i).flatMap rb).length,.junk,.junk,.w (.int .i64 a),.junk,.junk,.junk,.junk,.junk,.junk,.junk,.junk,.junk,.junk,.junk,.junk,.junk,.junk,.junk,.junk,.junk,.junk,.junk,.junk,.junk,.junk,.junk,.junk,.junk,.junk,.junk,.junk,.junk,.junk,.junk,.junk,.junk,.junk,.sg 6 (rs.map rv) f,.w (.int .i64 rs.length),.w (.int .i64 i),.junk,.junk,.junk,.junk,.junk,.junk,.junk,.junk,.junk,.junk,.junk,.junk,.junk,.junk,.junk,.junk,.junk,.junk,.junk,.junk,.junk,.junk,.junk,.junk,.junk,.junk,.junk,.junk,.junk,.junk,.junk,.junk],[(4,.g 6 [.agg [.w (.int .i64 b),.w (.int .i64 c),.w (.int .i64 p),.w (.int .i64 e),.w (.int .i64 s),.sg 6 (rs.map rv) f]]),(5,.b (ziu L ++ (rs.take i).flatMap rb))],6⟩,?_,?_⟩
     ·refine ⟨_,_,zaf [0,1,2,3,4,6] rfl rfl rfl ?_ ?_,0,-1,rfl,by omega,hE0,rfl⟩
      ·simp only [ssT,zai,zaj,setSlot,gOf,AV.ren,renL,Blk.ren,Ax.look,Ax.put,reduceCtorEq,↓reduceIte,Nat.reduceEqDiff,Nat.reduceLT,Nat.reduceAdd,List.length_append,List.length_cons,List.length_nil,Option.some.injEq]; simp
      ·simp only [ssT,zai,zaj,setSlot,gOf,AV.ren,renL,Blk.ren,Ax.look,Ax.put,reduceCtorEq,↓reduceIte,Nat.reduceEqDiff,Nat.reduceLT,Nat.reduceAdd,List.length_append,List.length_cons,List.length_nil,Option.some.injEq]; simp
     ·rintro m σ ⟨i,a,rfl,hi,hinv,rfl⟩
      have e2 : ((i : Int) + 1 + 9223372036854775808) % 18446744073709551616 - 9223372036854775808 = ((i + 1 : Nat) : Int) := by omega
      have hbl := zsu (rs.take i)
      rw [List.length_take] at hbl
      obtain ⟨O,hO⟩ : ∃ O,ziu L ++ (rs.take i).flatMap rb = O := ⟨_,rfl⟩
      have hOl : O.length ≤ 60 + 700 * 32 := by rw [← hO,List.length_append]; omega
      by_cases hil : i < rs.length
      ·have d3 : decide ((i : Int) < rs.length) = true := decide_eq_true (by omega)
       have hsl := zdj rv rs i hil
       have hdr : rs.drop i = rs[i] :: rs.drop (i + 1) := List.drop_eq_getElem_cons hil
       have htk : (rs.take (i + 1)).flatMap rb = (rs.take i).flatMap rb ++ rb rs[i] := by
        rw [List.take_succ_eq_append_getElem hil,List.flatMap_append,List.flatMap_cons,List.flatMap_nil,List.append_nil]
       obtain ⟨R,hR⟩ : ∃ R,rs[i] = R := ⟨_,rfl⟩
       rw [hR] at hsl hdr htk
       simp only [rv] at hsl
       rw [hdr,ziq] at hinv
       have hRl := zxc R
       have hrb : recB R.d R.t R.k R.key R.dd R.val = rb R := rfl
       have hrk : rchk R.d R.t R.k R.key R.dd R.val = rk R := rfl
       have htk2 : ziu L ++ (rs.take (i + 1)).flatMap rb = O ++ rb R := by rw [htk,← hO,List.append_assoc]
       have hln2 : (ziu L).length + ((rs.take (i + 1)).flatMap rb).length = O.length + (rb R).length := by rw [← List.length_append,htk2,List.length_append]
       by_cases hk0 : rk R = 0
       ·have d4 : decide (rk R = 0) = true := decide_eq_true hk0
        rw [if_pos hk0] at hinv
        by_cases hA : R.d ≤ a
        ·have d5 : decide (R.d ≤ a) = true := decide_eq_true hA
         rw [if_pos (.inl hA)] at hinv
         have hE : batE b c p e s rs = 16 := by unfold batE; rw [if_pos (hF.trans h0),if_neg (by omega),hinv]
         have hB : batB b c p e s rs = [] := if_neg (by omega)
         simp only [go_sem,zaa,↓reduceIte,ty,zhf,yaw,hrb,hrk,hO,hl4,d3,hsl,d4,d5,zam,hE,hB,Int.toNat_natCast]
         refine ⟨by omega,_,zdf 2 (.sb [] false) (fun _ _ _ h => h.nilb),?_⟩
         simp only [go_sem,coe,zaa,↓reduceIte,ty]
        ·have d5 : decide (R.d ≤ a) = false := decide_eq_false hA
         by_cases hC : c ≤ R.d
         ·have d6 : decide (c ≤ R.d) = true := decide_eq_true hC
          rw [if_pos (.inr hC)] at hinv
          have hE : batE b c p e s rs = 16 := by unfold batE; rw [if_pos (hF.trans h0),if_neg (by omega),hinv]
          have hB : batB b c p e s rs = [] := if_neg (by omega)
          simp only [go_sem,zaa,↓reduceIte,ty,zhf,yaw,hrb,hrk,hO,hl4,d3,hsl,d4,d5,d6,zam,hE,hB,Int.toNat_natCast]
          refine ⟨by omega,_,zdf 2 (.sb [] false) (fun _ _ _ h => h.nilb),?_⟩
          simp only [go_sem,coe,zaa,↓reduceIte,ty]
         ·have d6 : decide (c ≤ R.d) = false := decide_eq_false hC
          rw [if_neg (by omega)] at hinv
          simp only [go_sem,zaa,↓reduceIte,ty,zhf,yaw,hrb,hrk,hO,hl4,d3,hsl,d4,d5,d6,e2,List.take_length,Int.toNat_natCast]
          repeat (refine And.intro (by omega) ?_)
          refine ⟨rs.length - (i + 1),_,by omega,zaf [0,1,2,3,4,246] rfl rfl rfl ?_ ?_,i + 1,R.d,rfl,by omega,hinv,rfl⟩
          ·simp only [ssT,zai,zaj,setSlot,gOf,AV.ren,renL,Blk.ren,Ax.look,Ax.put,reduceCtorEq,↓reduceIte,Nat.reduceEqDiff,Nat.reduceLT,Nat.reduceAdd,List.length_append,List.length_cons,List.length_nil,Option.some.injEq,htk2,List.length_append,hln2]
          ·simp only [ssT,zai,zaj,setSlot,gOf,AV.ren,renL,Blk.ren,Ax.look,Ax.put,reduceCtorEq,↓reduceIte,Nat.reduceEqDiff,Nat.reduceLT,Nat.reduceAdd,List.length_append,List.length_cons,List.length_nil,Option.some.injEq,htk2]
       ·have d4 : decide (rk R = 0) = false := decide_eq_false hk0
        rw [if_neg hk0] at hinv
        have hE : batE b c p e s rs = rk R := by unfold batE; rw [if_pos (hF.trans h0),if_neg (by omega),hinv]
        have hB : batB b c p e s rs = [] := if_neg (by omega)
        simp only [go_sem,zaa,↓reduceIte,ty,zhf,yaw,hrb,hrk,hO,hl4,d3,hsl,d4,zam,hE,hB,Int.toNat_natCast]
        refine ⟨by omega,_,zdf 2 (.sb [] false) (fun _ _ _ h => h.nilb),?_⟩
        simp only [go_sem,coe,zaa,↓reduceIte,ty]
      ·have d3 : decide ((i : Int) < rs.length) = false := decide_eq_false (by omega)
       have hdr : rs.drop i = [] := List.drop_eq_nil_of_le (by omega)
       have htk : rs.take i = rs := List.take_of_length_le (by omega)
       rw [hdr] at hinv
       have hl0 : layE c (-1) rs = 0 := hinv
       have hOe : batL b c p e s rs = O := by unfold batL; rw [hLL,← hO,htk]
       by_cases h8 : 8192 < O.length
       ·have d4 : decide ((8192 : Int) < O.length) = true := decide_eq_true (by omega)
        have hE : batE b c p e s rs = 5 := by unfold batE; rw [if_pos (hF.trans h0),if_pos hl0,hOe,if_pos h8]
        have hB : batB b c p e s rs = [] := if_neg (by omega)
        simp only [go_sem,zaa,↓reduceIte,ty,zhf,hO,d3,d4,zam,hE,hB]
        refine ⟨_,zdf 2 (.sb [] false) (fun _ _ _ h => h.nilb),?_⟩
        simp only [go_sem,coe,zaa,↓reduceIte,ty]
       ·have d4 : decide ((8192 : Int) < O.length) = false := decide_eq_false (by omega)
        have hE : batE b c p e s rs = 0 := by unfold batE; rw [if_pos (hF.trans h0),if_pos hl0,hOe,if_neg h8]
        have hB : batB b c p e s rs = O := by unfold batB; rw [if_pos hE,hOe]
        simp only [go_sem,zaa,↓reduceIte,ty,zhf,hO,d3,d4,zam,hE,hB]
        exact ydp rfl rfl rfl rfl rfl rfl
  ·have d0 : decide (F = 0) = false := decide_eq_false h0
   have hE : batE b c p e s rs = F := by unfold batE; rw [hF,if_neg h0]
   have hB : batB b c p e s rs = [] := if_neg (by rw [hE]; exact h0)
   simp only [go_sem,zaa,↓reduceIte,ty,zhf,yoc,hl4,hL,hF,d0,zam,hE,hB]
   refine ⟨_,zdf 2 (.sb [] false) (fun _ _ _ h => h.nilb),?_⟩
   simp only [go_sem,coe,zaa,↓reduceIte,ty]
 ·exact hp.elim
end
end Go.Proofs.Ytebacgkeoefnkaa
namespace Go.Proofs.Ytebacgkeoefnkaa
open Ax
def offI (b d : Int) : Int := (b + d + 9223372036854775808) % 18446744073709551616 - 9223372036854775808
theorem zau : ∀ (G : List Rec),closedL (G.map rv) = true
 | [] => rfl
 | x :: r => by simp only [List.map_cons,closedL,rv,AV.closed,Bool.true_and]; exact zau r
theorem zcc (g : Nat → Nat) : ∀ (G : List Rec),renL g (G.map rv) = G.map rv
 | [] => rfl
 | x :: r => by simp only [List.map_cons,renL,zcc g r]; rfl
structure Bat where
 b : Int
 c : Int
 p : Int
 e : Int
 s : Int
 rs : List Rec
def bav (x : Bat) (f : Bool) : AV := .agg [.w (.int .i64 x.b),.w (.int .i64 x.c),.w (.int .i64 x.p),.w (.int .i64 x.e),.w (.int .i64 x.s),.sg 6 (x.rs.map rv) f]
def bE (x : Bat) : Int := batE x.b x.c x.p x.e x.s x.rs
end Go.Proofs.Ytebacgkeoefnkaa
namespace Go.Proofs.Ytebacgkeoefnkaa
open Ax
section
set_option maxRecDepth 100000
def zxr : zas
 | [.agg [.w (.int .i64 d),.w (.int .i64 t),.w (.bool k),.str key,.w (.bool dd),.str val]],[] => ⟨True,.w (.bool (decide (key.length ≤ 200 ∧ val.length ≤ 700))),[]⟩
 | _,_ => zcj
theorem ybf : zbg Try.prog 22 zxr := by
 refine zbb (S := noS) (T := ty) mixed ty_ok zel Try.func22 (c := Try.f22.body.getD .skip) (by kernel_rfl) (by kernel_rfl) (fun xs pins hp _ => ?_)
 unfold zxr at hp ⊢
 split at hp
 ·rename_i d t k key dd val _
  refine ⟨by simp,?_⟩
  unfold Try.f22
  by_cases h1 : key.length ≤ 200
  ·have d1 : decide ((key.length : Int) ≤ 200) = true := decide_eq_true (by omega)
   by_cases h2 : val.length ≤ 700
   ·have d2 : decide ((val.length : Int) ≤ 700) = true := decide_eq_true (by omega)
    have d3 : decide (key.length ≤ 200 ∧ val.length ≤ 700) = true := decide_eq_true ⟨h1,h2⟩
    simp only [go_sem,coe,zaa,↓reduceIte,ty,noS,d1,d2,d3]
   ·have d2 : decide ((val.length : Int) ≤ 700) = false := decide_eq_false (by omega)
    have d3 : decide (key.length ≤ 200 ∧ val.length ≤ 700) = false := decide_eq_false (fun h => h2 h.2)
    simp only [go_sem,coe,zaa,↓reduceIte,ty,noS,d1,d2,d3]
  ·have d1 : decide ((key.length : Int) ≤ 200) = false := decide_eq_false (by omega)
   have d3 : decide (key.length ≤ 200 ∧ val.length ≤ 700) = false := decide_eq_false (fun h => h1 h.1)
   simp only [go_sem,coe,zaa,↓reduceIte,ty,noS,d1,d3]
 ·exact hp.elim
end
end Go.Proofs.Ytebacgkeoefnkaa
namespace Go.Proofs.Ytebacgkeoefnkaa
open Ax
instance : DecidableEq Rec := fun a b => decidable_of_iff (a.d = b.d ∧ a.t = b.t ∧ a.k = b.k ∧ a.key = b.key ∧ a.dd = b.dd ∧ a.val = b.val) (by cases a; cases b; simp)
def zke : zas
 | [.agg [.w (.int .i64 b),.w (.int .i64 c),.w (.int .i64 p),.w (.int .i64 e),.w (.int .i64 s),.sg 6 xs f]],[] => ⟨xs.length ≤ 9223372036854775807 ∧ ∃ rs : List Rec,xs = rs.map rv,
   .w (.int .i64 (batE b c p e s (xs.map rrec))),[]⟩
 | _,_ => zcj
def ztu : zas
 | [.agg [.w (.int .i64 b),.w (.int .i64 c),.w (.int .i64 p),.w (.int .i64 e),.w (.int .i64 s),.sg 6 xs f]],[] => ⟨True,.w (.int .i64 ((b + c + 9223372036854775808) % 18446744073709551616 - 9223372036854775808)),[]⟩
 | _,_ => zcj
def Sbl3 (f : FuncId) : Option zas :=
 match f with
 | 60 => some yfz
 | _ => none
theorem Sbl3_ok : Fns Try.prog Sbl3 := by
 intro f s h
 unfold Sbl3 at h
 split at h
 ·injection h with h; subst h; exact ⟨⟨_,Try.func60,by kernel_rfl,by kernel_rfl⟩,ycp⟩
 ·cases h
section
set_option maxRecDepth 100000
set_option maxHeartbeats 1000000 in
set_option maxHeartbeats 1000000 in
theorem zrl : zbg Try.prog 29 zke := by
 refine zbb (S := Sbl3) (T := ty) mixed ty_ok Sbl3_ok Try.func29 (c := Try.f29.body.getD .skip) (by kernel_rfl) (by kernel_rfl) (fun xs pins hp _ => ?_)
 unfold zke at hp ⊢
 split at hp
 ·rename_i b c p e s xs f _
  obtain ⟨hL,rs,rfl⟩ := hp
  have hl4 : (rs.map rv).length = rs.length := by simp
  rw [hl4] at hL
  have hex : ∃ qs : List Rec,rs.map rv = qs.map rv := ⟨rs,rfl⟩
  refine ⟨by simp,?_⟩
  unfold Try.f29
  simp only [go_sem,zaa,↓reduceIte,ty,Sbl3,yfz,hl4,hL,hex,zam]
 ·exact hp.elim
theorem zrj : zbg Try.prog 33 ztu := by
 refine zbb (S := noS) (T := ty) mixed ty_ok zel Try.func33 (c := Try.f33.body.getD .skip) (by kernel_rfl) (by kernel_rfl) (fun xs pins hp _ => ?_)
 unfold ztu at hp ⊢
 split at hp
 ·rename_i b c p e s xs f _
  refine ⟨by simp,?_⟩
  unfold Try.f33
  simp only [go_sem,zaa,↓reduceIte,ty,noS]
 ·exact hp.elim
set_option maxHeartbeats 1000000 in
end
end Go.Proofs.Ytebacgkeoefnkaa
namespace Go.Proofs.Ytebacgkeoefnkaa
open Ax
def zin (r : Rec) : Prop := r.key.length ≤ 200 ∧ r.val.length ≤ 700
instance (r : Rec) : Decidable (zin r) := by unfold zin; infer_instance
def zmz : zas
 | [.agg [.w (.int .i64 b),.w (.int .i64 c),.w (.int .i64 p),.w (.int .i64 e),.w (.int .i64 s),.sg 6 xs f]],[] => ⟨xs.length ≤ 9223372036854775807 ∧ ∃ rs : List Rec,xs = rs.map rv,
   .w (.bool (decide (xs.length ≤ 40 ∧ ∀ r ∈ xs.map rrec,zin r))),[]⟩
 | _,_ => zcj
def zgl (f : FuncId) : Option zas :=
 match f with
 | 22 => some zxr
 | _ => none
theorem yda : Fns Try.prog zgl := by
 intro f s h
 unfold zgl at h
 split at h
 ·injection h with h; subst h; exact ⟨⟨_,Try.func22,by kernel_rfl,by kernel_rfl⟩,ybf⟩
 ·cases h
section
set_option maxRecDepth 100000
set_option maxHeartbeats 1000000 in
set_option maxHeartbeats 1000000 in
theorem zwe : zbg Try.prog 6 zmz := by
 refine zbb (S := zgl) (T := ty) mixed ty_ok yda Try.func6 (c := Try.f6.body.getD .skip) (by kernel_rfl) (by kernel_rfl) (fun xs pins hp _ => ?_)
 unfold zmz at hp ⊢
 split at hp
 ·rename_i b c p e s xs f _
  obtain ⟨hL,rs,rfl⟩ := hp
  have hl4 : (rs.map rv).length = rs.length := by simp
  rw [hl4] at hL
  refine ⟨by simp,?_⟩
  unfold Try.f6
  by_cases h40 : rs.length ≤ 40
  ·have d0 : decide ((40 : Int) < rs.length) = false := decide_eq_false (by omega)
   simp only [go_sem,zaa,↓reduceIte,ty,zgl,hl4,d0,zam]
   refine zef ⟨fun m σ => ∃ i : Nat,m = rs.length - i ∧ i ≤ rs.length ∧ (∀ j (h : j < rs.length),j < i → zin rs[j]) ∧
     σ = ⟨[.agg [.w (.int .i64 b),.w (.int .i64 c),.w (.int .i64 p),.w (.int .i64 e),.w (.int .i64 s),.sg 6 (rs.map rv) f],.rf 4 6 0 0,.junk,.w (.int .i64 i),.junk,.junk,.junk,.junk,.junk,.junk,.junk,.junk,.junk,.junk,.junk,.junk,.junk,.junk,.junk,.junk,.junk,.junk],[(4,.g 6 [.agg [.w (.int .i64 b),.w (.int .i64 c),.w (.int .i64 p),.w (.int .i64 e),.w (.int .i64 s),.sg 6 (rs.map rv) f]])],5⟩,?_,?_⟩
   ·refine ⟨_,_,zaf [0,1,2,3,4] rfl rfl rfl ?_ ?_,0,rfl,by omega,by intro j _ h; omega,rfl⟩
    ·simp only [ssT,zai,zaj,setSlot,gOf,AV.ren,renL,Blk.ren,Ax.look,Ax.put,reduceCtorEq,↓reduceIte,Nat.reduceEqDiff,Nat.reduceLT,Nat.reduceAdd,List.length_append,List.length_cons,List.length_nil,Option.some.injEq]; rfl
    ·simp only [ssT,zai,zaj,setSlot,gOf,AV.ren,renL,Blk.ren,Ax.look,Ax.put,reduceCtorEq,↓reduceIte,Nat.reduceEqDiff,Nat.reduceLT,Nat.reduceAdd,List.length_append,List.length_cons,List.length_nil,Option.some.injEq]
   ·rintro m σ ⟨i,rfl,hi,hall,rfl⟩
    have e1 : ((i : Int) + 1 + 9223372036854775808) % 18446744073709551616 - 9223372036854775808 = ((i + 1 : Nat) : Int) := by omega
    by_cases hil : i < rs.length
    ·have d1 : decide ((i : Int) < rs.length) = true := decide_eq_true (by omega)
     have hs1 := zdj rv rs i hil
     obtain ⟨P,hP⟩ : ∃ P,rs[i] = P := ⟨_,rfl⟩
     rw [hP] at hs1
     simp only [rv] at hs1
     by_cases ha : P.key.length ≤ 200 ∧ P.val.length ≤ 700
     ·have d2 : decide (P.key.length ≤ 200 ∧ P.val.length ≤ 700) = true := decide_eq_true ha
      simp only [go_sem,zaa,↓reduceIte,ty,zgl,zxr,hl4,d1,d2,hs1,e1,Int.toNat_natCast]
      repeat (refine And.intro (by omega) ?_)
      refine ⟨rs.length - (i + 1),_,by omega,zaf [0,1,2,3,4] rfl rfl rfl ?_ ?_,i + 1,rfl,by omega,?_,rfl⟩
      ·simp only [ssT,zai,zaj,setSlot,gOf,AV.ren,renL,Blk.ren,Ax.look,Ax.put,reduceCtorEq,↓reduceIte,Nat.reduceEqDiff,Nat.reduceLT,Nat.reduceAdd,List.length_append,List.length_cons,List.length_nil,Option.some.injEq]
      ·simp only [ssT,zai,zaj,setSlot,gOf,AV.ren,renL,Blk.ren,Ax.look,Ax.put,reduceCtorEq,↓reduceIte,Nat.reduceEqDiff,Nat.reduceLT,Nat.reduceAdd,List.length_append,List.length_cons,List.length_nil,Option.some.injEq]
      ·intro j h hj
       rcases Nat.lt_or_ge j i with h2 | h2
       ·exact hall j h h2
       ·have : j = i := by omega
        subst this
        rw [hP]; exact ha
     ·have d2 : decide (P.key.length ≤ 200 ∧ P.val.length ≤ 700) = false := decide_eq_false ha
      have dr : decide (rs.length ≤ 40 ∧ ∀ r ∈ rs,zin r) = false := decide_eq_false (fun h => ha (h.2 P (hP ▸ List.getElem_mem hil)))
      simp only [go_sem,zaa,↓reduceIte,ty,zgl,zxr,hl4,d1,d2,hs1,e1,dr,zam,Int.toNat_natCast]
      omega
    ·have d1 : decide ((i : Int) < rs.length) = false := decide_eq_false (by omega)
     have dr : decide (rs.length ≤ 40 ∧ ∀ r ∈ rs,zin r) = true := decide_eq_true ⟨h40,fun r hr => by
      obtain ⟨j,hj,rfl⟩ := List.getElem_of_mem hr
      exact hall j hj (by omega)⟩
     simp only [go_sem,zaa,↓reduceIte,ty,zgl,hl4,d1,dr,zam]
  ·have d0 : decide ((40 : Int) < rs.length) = true := decide_eq_true (by omega)
   have dr : decide (rs.length ≤ 40 ∧ ∀ r ∈ rs,zin r) = false := decide_eq_false (fun h => h40 h.1)
   simp only [go_sem,zaa,↓reduceIte,ty,zgl,hl4,d0,dr,zam]
 ·exact hp.elim
end
end Go.Proofs.Ytebacgkeoefnkaa
namespace Go.Proofs.Ytebacgkeoefnkaa
open Ax
def bvp (p : Bat × Bool) : AV := bav p.1 p.2
def ubat : AV → Bat
 | .agg [.w (.int _ b),.w (.int _ c),.w (.int _ p),.w (.int _ e),.w (.int _ s),.sg 6 xs _] => ⟨b,c,p,e,s,xs.map rrec⟩
 | _ => ⟨0,0,0,0,0,[]⟩
theorem ype (p : Bat × Bool) : ubat (bvp p) = p.1 := by
 obtain ⟨⟨b,c,q,e,s,rs⟩,f⟩ := p
 unfold bvp bav ubat
 simp only [zam]
theorem zcl (l : List (Bat × Bool)) : (l.map bvp).map ubat = l.map Prod.fst := by
 rw [List.map_map]; exact List.map_congr_left (fun p _ => ype p)
theorem zhk : ∀ (l : List (Bat × Bool)) (i : Nat) (h : i < l.length),slot (l.map bvp) i = bvp l[i]
 | _ :: _,0,_ => rfl
 | _ :: r,i + 1,h => by
  simp only [List.map_cons,slot,List.getElem_cons_succ]
  exact zhk r i (by simpa using h)
theorem ztq : ∀ (G : List (Bat × Bool)),closedL (G.map bvp) = true
 | [] => rfl
 | x :: r => by simp only [List.map_cons,closedL,bvp,bav,AV.closed,Bool.true_and]; exact ztq r
theorem yjy (g : Nat → Nat) : ∀ (G : List (Bat × Bool)),renL g (G.map bvp) = G.map bvp
 | [] => rfl
 | x :: r => by simp only [List.map_cons,renL,yjy g r]; rfl
def offB (x : Bat) : Bat × Bool := (x,false)
def bfr (l : List Bat) : List AV := (l.map offB).map bvp
theorem zks (g : Nat → Nat) (l : List Bat) : renL g (bfr l) = bfr l := yjy g _
theorem zny (l : List Bat) : closedL (bfr l) = true := ztq _
theorem yla (l : List Bat) : (bfr l).length = l.length := by simp [bfr]
theorem yro (l : List Bat) (x : Bat) : bfr (l ++ [x]) = bfr l ++ [bav x false] := by simp [bfr,offB,bvp]
theorem bfr_nil : bfr [] = [] := rfl
theorem ypf (l : List Bat) : (bfr l).map ubat = l := by
 unfold bfr; rw [zcl,List.map_map]; exact List.map_id _
instance batDec : DecidableEq Bat := fun a b => decidable_of_iff (a.b = b.b ∧ a.c = b.c ∧ a.p = b.p ∧ a.e = b.e ∧ a.s = b.s ∧ a.rs = b.rs) (by cases a; cases b; simp)
def zkc (b : Bat) : Prop := b.rs.length ≤ 40 ∧ ∀ r ∈ b.rs,zin r
instance (b : Bat) : Decidable (zkc b) := by unfold zkc; infer_instance
def isBs (xs : List AV) : Prop := ∃ es : List (Bat × Bool),xs = es.map bvp ∧ ∀ p ∈ es,p.1.rs.length ≤ 9223372036854775807
def yhs : zas
 | [.sg 6 xs f,.w (.int .i64 n)],[] => ⟨xs.length ≤ 9223372036854775807 ∧ isBs xs,.w (.bool (decide ((xs.length : Int) ≤ n ∧ ∀ b ∈ xs.map ubat,zkc b))),[]⟩
 | _,_ => zcj
def yai (f : FuncId) : Option zas :=
 match f with
 | 6 => some zmz
 | _ => none
theorem yrt : Fns Try.prog yai := by
 intro f s h
 unfold yai at h
 split at h
 ·injection h with h; subst h; exact ⟨⟨_,Try.func6,by kernel_rfl,by kernel_rfl⟩,zwe⟩
 ·cases h
section
set_option maxRecDepth 100000
set_option maxHeartbeats 2000000 in
theorem yhr : zbg Try.prog 7 yhs := by
 refine zbb (S := yai) (T := ty) mixed ty_ok yrt Try.func7 (c := Try.f7.body.getD .skip) (by kernel_rfl) (by kernel_rfl) (fun xs pins hp _ => ?_)
 unfold yhs at hp ⊢
 split at hp
 ·rename_i xs f n _
  obtain ⟨hL,es,rfl,he⟩ := hp
  rw [List.length_map] at hL
  refine ⟨by simp,?_⟩
  have hlp : (es.map bvp).length = es.length := by simp
  rw [hlp,zcl]
  unfold Try.f7
  by_cases h40 : n < es.length
  ·have d0 : decide (n < (es.length : Int)) = true := decide_eq_true h40
   have dr : decide ((es.length : Int) ≤ n ∧ ∀ b ∈ es.map Prod.fst,zkc b) = false := decide_eq_false (by rintro ⟨h1,_⟩; omega)
   simp only [go_sem,zaa,↓reduceIte,ty,yai,hlp,d0,dr]
  ·have d0 : decide (n < (es.length : Int)) = false := decide_eq_false h40
   simp only [go_sem,zaa,↓reduceIte,ty,yai,hlp,d0]
   refine zef ⟨fun m σ => ∃ i : Nat,m = es.length - i ∧ i ≤ es.length ∧ (∀ j (h : j < es.length),j < i → zkc es[j].1) ∧
     σ = ⟨[.sg 6 (es.map bvp) f,.w (.int .i64 n),.junk,.junk,.junk,.w (.int .i64 i),.junk,.junk,.junk,.junk,.junk,.junk,.junk,.junk,.junk,.junk,.junk,.junk,.junk,.junk,.junk,.junk],[],4⟩,?_,?_⟩
   ·refine ⟨_,_,zaf [0,1,2,3] rfl rfl rfl ?_ ?_,0,rfl,by omega,by intro j _ h; omega,rfl⟩
    ·simp only [ssT,zai,zaj,setSlot,gOf,AV.ren,renL,Blk.ren,Ax.look,Ax.put,reduceCtorEq,↓reduceIte,Nat.reduceEqDiff,Nat.reduceLT,Nat.reduceAdd,List.length_append,List.length_cons,List.length_nil,Option.some.injEq]; try simp
    ·simp only [ssT,zai,zaj,setSlot,gOf,AV.ren,renL,Blk.ren,Ax.look,Ax.put,reduceCtorEq,↓reduceIte,Nat.reduceEqDiff,Nat.reduceLT,Nat.reduceAdd,List.length_append,List.length_cons,List.length_nil,Option.some.injEq]
   ·rintro m σ ⟨i,rfl,hi,hall,rfl⟩
    by_cases hil : i < es.length
    ·have e1 : ((i : Int) + 1 + 9223372036854775808) % 18446744073709551616 - 9223372036854775808 = ((i + 1 : Nat) : Int) := by omega
     have d1 : decide ((i : Int) < es.length) = true := decide_eq_true (by omega)
     have hs1 := zhk es i hil
     have m1 := he es[i] (List.getElem_mem hil)
     obtain ⟨P,hP⟩ : ∃ P,es[i] = P := ⟨_,rfl⟩
     rw [hP] at hs1 m1
     obtain ⟨⟨b,c,p,e,s,rs⟩,f'⟩ := P
     have hs1 : slot (es.map bvp) i = .agg [.w (.int .i64 b),.w (.int .i64 c),.w (.int .i64 p),.w (.int .i64 e),.w (.int .i64 s),.sg 6 (rs.map rv) f'] := hs1
     simp only at m1
     have n1 : (rs.map rv).length ≤ 9223372036854775807 := by rw [List.length_map]; exact m1
     have x1 : ∃ k : List Rec,rs.map rv = k.map rv := ⟨rs,rfl⟩
     have r1 := zam rs
     have hlr : (rs.map rv).length = rs.length := by simp
     by_cases ha : rs.length ≤ 40 ∧ ∀ r ∈ rs,zin r
     ·have d2 : decide (rs.length ≤ 40 ∧ ∀ r ∈ rs,zin r) = true := decide_eq_true ha
      simp only [go_sem,zaa,↓reduceIte,ty,yai,zmz,hlp,hlr,d1,d2,hs1,e1,m1,x1,r1,Int.toNat_natCast]
      repeat (refine And.intro (by omega) ?_)
      refine ⟨es.length - (i + 1),_,by omega,zaf [0,1,2,3] rfl rfl rfl ?_ ?_,i + 1,rfl,by omega,?_,rfl⟩
      ·simp only [ssT,zai,zaj,setSlot,gOf,AV.ren,renL,Blk.ren,Ax.look,Ax.put,reduceCtorEq,↓reduceIte,Nat.reduceEqDiff,Nat.reduceLT,Nat.reduceAdd,List.length_append,List.length_cons,List.length_nil,Option.some.injEq]
      ·simp only [ssT,zai,zaj,setSlot,gOf,AV.ren,renL,Blk.ren,Ax.look,Ax.put,reduceCtorEq,↓reduceIte,Nat.reduceEqDiff,Nat.reduceLT,Nat.reduceAdd,List.length_append,List.length_cons,List.length_nil,Option.some.injEq]
      ·intro j h hj
       rcases Nat.lt_or_ge j i with h2 | h2
       ·exact hall j h h2
       ·have : j = i := by omega
        subst this
        rw [hP]; exact ha
     ·have d2 : decide (rs.length ≤ 40 ∧ ∀ r ∈ rs,zin r) = false := decide_eq_false ha
      have dr : decide ((es.length : Int) ≤ n ∧ ∀ b ∈ es.map Prod.fst,zkc b) = false := decide_eq_false (by
       rintro ⟨_,h2⟩
       have := h2 es[i].1 (List.mem_map.2 ⟨_,List.getElem_mem hil,rfl⟩)
       rw [hP] at this; exact ha this)
      simp only [go_sem,zaa,↓reduceIte,ty,yai,zmz,hlp,hlr,d1,d2,dr,hs1,e1,m1,x1,r1,Int.toNat_natCast]
      try omega
    ·have d1 : decide ((i : Int) < es.length) = false := decide_eq_false (by omega)
     have dr : decide ((es.length : Int) ≤ n ∧ ∀ b ∈ es.map Prod.fst,zkc b) = true := decide_eq_true ⟨by omega,fun b hb => by
      obtain ⟨p,hp,rfl⟩ := List.mem_map.1 hb
      obtain ⟨j,hj,rfl⟩ := List.getElem_of_mem hp
      exact hall j hj (by omega)⟩
     simp only [go_sem,zaa,↓reduceIte,ty,yai,hlp,d1,dr]
 ·exact hp.elim
end
end Go.Proofs.Ytebacgkeoefnkaa
