/- What the proofs of this seat stand on; it asks nothing. -/
import Derived.Test.YtolclgkginfiaaaYa10
set_option linter.unusedSimpArgs false
set_option linter.unusedVariables false
namespace Go.Proofs.Ytolclgkginfiaaa
namespace Ax
open Go.RowKit
theorem wf_i64 {n : Int} (h : (Lit.int .i64 n).wf = true) : -9223372036854775808 ≤ n ∧ n ≤ 9223372036854775807 := by
 simp only [Lit.wf,Bool.and_eq_true,decide_eq_true_eq] at h
 have h1 : IntKind.min .i64 = -9223372036854775808 := by decide
 have h2 : IntKind.max .i64 = 9223372036854775807 := by decide
 rw [h1,h2] at h; exact h
theorem wf_u8 {n : Int} (h : (Lit.int .u8 n).wf = true) : 0 ≤ n ∧ n < 256 := by
 simp only [Lit.wf,Bool.and_eq_true,decide_eq_true_eq] at h
 have h1 : IntKind.min .u8 = 0 := by decide
 have h2 : IntKind.max .u8 = 255 := by decide
 rw [h1,h2] at h; omega
def IsRow (k : IntKind) (w : World) (a : Option Addr) (len cap : Nat) (zs : List Int) : Prop :=
 (a = none ∧ len = 0 ∧ cap = 0 ∧ zs = []) ∨
 ∃ x,a = some x ∧ len ≤ cap ∧ cap ≤ maxLen ∧ zs.length = cap ∧ (∀ i,i < zs.length → w.cell? (x.add i) = some (.int k (zs.getD i 0))) ∧ ∀ n ∈ zs,(Lit.int k n).wf = true
theorem not_mut0 (b : Nat) : ¬ Mut loc0 b := by
 rintro (h | ⟨k,h⟩)
 · exact h
 · simp [loc0,zaq] at h
theorem zxi {k : IntKind} {w : World} {x : Addr} {zs : List Int} (hz : ∀ i,i < zs.length → w.cell? (x.add i) = some (.int k (zs.getD i 0))) (cs : List Value) (hn : cs.length ≤ zs.length)
   (hc : ∀ (j : Nat) (h : j < cs.length),cs[j] = .int k (zs.getD j 0)) : Cells w loc0 (some x) cs := by
 by_cases h0 : cs = []
 · exact ⟨.inl h0⟩
 · have hl : 0 < cs.length := by
     cases cs with
     | nil => exact (h0 rfl).elim
     | cons => simp
   have h1 := hz 0 (by omega)
   rw [show x.add 0 = x from rfl] at h1
   have hx : x.spot = none ∧ x.block < w.heap.size := by
     unfold World.cell? at h1
     split at h1
     · rename_i c e fz hh
       split at h1
       · cases h1
       · rename_i hs
         refine ⟨by simpa using hs,?_⟩
         rcases Nat.lt_or_ge x.block w.heap.size with h' | h'
         · exact h'
         · rw [Array.getElem?_eq_none h'] at hh; cases hh
     · cases h1
   obtain ⟨b,o,sp⟩ := x
   obtain ⟨rfl,hb⟩ := hx
   refine ⟨.inr ⟨b,o,rfl,not_mut0 b,hb,fun j hj => ?_⟩⟩
   have h2 := hz j (by omega)
   rw [hc j hj,← h2]
   cases j with
   | zero => rfl
   | succ j => rfl
theorem row_sb {w : World} {a : Option Addr} {len cap : Nat} {zs : List Int} (h : IsRow .u8 w a len cap zs) : ∃ bs : List UInt8,bs.length = len ∧ len ≤ maxLen ∧ R w loc0 (.sb bs false) (.slice a len cap) := by
 rcases h with ⟨rfl,rfl,rfl,rfl⟩ | ⟨x,rfl,hl,hm,hz,hcell,hwf⟩
 · exact ⟨[],rfl,Nat.zero_le _,.sb [] false none 0 ⟨Nat.le_refl _,Nat.zero_le _,fun h => by cases h⟩ ⟨.inl rfl⟩⟩
 · have hlen : ((zs.take len).map fun n => UInt8.ofNat n.toNat).length = len := by simp; omega
   refine ⟨(zs.take len).map fun n => UInt8.ofNat n.toNat,hlen,by omega,?_⟩
   have := R.sb (w := w) (loc := loc0) ((zs.take len).map fun n => UInt8.ofNat n.toNat) false (some x) cap ⟨by omega,hm,fun h => by cases h⟩
     (zxi hcell _ (by simp; omega) (fun j hj => by
       have hj' : j < zs.length := by simp at hj; omega
       have hw := wf_u8 (hwf zs[j] (List.getElem_mem _))
       simp only [List.getElem_map,List.getElem_take,byte]
       have e : zs.getD j 0 = zs[j] := by simp [hj']
       rw [e]
       congr 1
       rw [UInt8.toNat_ofNat']
       omega))
   rw [hlen] at this
   exact this
theorem row_si {w : World} {a : Option Addr} {len cap : Nat} {zs : List Int} (h : IsRow .i64 w a len cap zs) : ∃ ns : List Int,ns.length = len ∧ len ≤ maxLen ∧ (∀ n ∈ ns,-9223372036854775808 ≤ n ∧ n ≤ 9223372036854775807) ∧ R w loc0 (.si ns false) (.slice a len cap) := by
 rcases h with ⟨rfl,rfl,rfl,rfl⟩ | ⟨x,rfl,hl,hm,hz,hcell,hwf⟩
 · exact ⟨[],rfl,Nat.zero_le _,by simp,.si [] false none 0 ⟨Nat.le_refl _,Nat.zero_le _,fun h => by cases h⟩ ⟨.inl rfl⟩⟩
 · have hlen : (zs.take len).length = len := by simp; omega
   refine ⟨zs.take len,hlen,by omega,fun n hn => wf_i64 (hwf n (List.mem_of_mem_take hn)),?_⟩
   have := R.si (w := w) (loc := loc0) (zs.take len) false (some x) cap ⟨by omega,hm,fun h => by cases h⟩
     (zxi hcell _ (by simp; omega) (fun j hj => by
       have hj' : j < zs.length := by simp at hj; omega
       simp only [List.getElem_map,List.getElem_take,word]
       have e : zs.getD j 0 = zs[j] := by simp [hj']
       rw [e]))
   rw [hlen] at this
   exact this
theorem str_R (w : World) (s : ByteArray) : R w loc0 (.str s.data.toList) (.string s) := by
 have := R.str (w := w) (loc := loc0) s.data.toList
 simpa using this
def RL (w : World) : List AV → List Value → Prop
 | [],[] => True
 | x :: xs,v :: vs => R w loc0 x v ∧ RL w xs vs
 | _,_ => False
theorem RL_get {w : World} : ∀ {xs : List AV} {vs : List Value},RL w xs vs → xs.length = vs.length ∧ ∀ (j : Nat) (h : j < xs.length) (h' : j < vs.length),R w loc0 xs[j] vs[j]
 | [],[],_ => ⟨rfl,fun j h => by simp at h⟩
 | x :: xs,v :: vs,h => by
   obtain ⟨h1,h2⟩ := RL_get h.2
   refine ⟨by simp [h1],fun j a b => ?_⟩
   cases j with
   | zero => exact h.1
   | succ j => exact h2 j (by simpa using a) (by simpa using b)
 | [],_ :: _,h => h.elim
 | _ :: _,[],h => h.elim
theorem law_runL {P : Program} {f : FuncId} {spec : zar} (h : zbn P f spec) {xs : List AV} {vs : List Value} {w : World} (hp : (spec xs []).p) (hx : (spec xs []).x = .w (.bool true)) (hR : RL w xs vs) :
   Calls P f vs.toArray w fun e w' => e = .returned (.bool true) ∧ Below w.heap.size w w' :=
 law_run h hp hx (RL_get hR).1 (RL_get hR).2
end Ax
end Go.Proofs.Ytolclgkginfiaaa
namespace Go.Proofs.Ytolclgkginfiaaa
open Ax
theorem evT : (type_of% @awp_skip) ∧
   (type_of% @zxp) ∧
   (type_of% @awp_ret) ∧
   (type_of% @awp_exit) ∧
   (type_of% @zsp) ∧
   (type_of% @awp_seq) ∧
   (type_of% @zxq) ∧
   (type_of% @awp_cond) ∧
   (type_of% @aops_nil) ∧
   (type_of% @zsw) ∧
   (type_of% @zsx) ∧
   (type_of% @zrw) ∧
   (type_of% @zvs) ∧
   (type_of% @zmc) ∧
   (type_of% @zqa) ∧
   (type_of% @zsn) ∧
   (type_of% @zrl) ∧
   (type_of% @true_and) ∧
   (type_of% @and_true) ∧
   (type_of% @Nat.le_refl) ∧
   (type_of% @false_implies) ∧
   (type_of% @List.nil_append.{0}) ∧
   (type_of% @List.append_nil.{0}) ∧
   (type_of% @List.cons_append.{0}) ∧
   (type_of% @Nat.zero_le) ∧
   (type_of% @Bool.false_eq_true) ∧
   (type_of% @cond_false.{1}) ∧
   (type_of% @cond_true.{1}) ∧
   (type_of% @List.getElem?_cons_succ.{0}) ∧
   (type_of% @List.getElem?_cons_zero.{0}) ∧
   (type_of% @ne_eq.{1}) ∧
   (type_of% @not_false_eq_true) ∧
   (type_of% @and_self) ∧
   (type_of% @true_implies) ∧
   (type_of% @AV.w.injEq) ∧
   (type_of% @Nat.min_def) ∧
   (type_of% @List.set_cons_zero.{0}) ∧
   (type_of% @List.set_cons_succ.{0}) ∧
   (type_of% @List.replicate_succ.{0}) ∧
   (type_of% @List.replicate_zero.{0}) ∧
   (type_of% @List.length_append.{0}) ∧
   (type_of% @List.length_cons.{0}) ∧
   (type_of% @List.length_nil.{0}) ∧
   (type_of% @Nat.zero_add) ∧
   (type_of% @Nat.add_zero) ∧
   (type_of% @Bool.not_true) ∧
   (type_of% @Bool.not_false) ∧
   (type_of% @Bool.true_and) ∧
   (type_of% @Bool.and_true) ∧
   (type_of% @Bool.and_false) ∧
   (type_of% @Bool.false_and) ∧
   (type_of% @not_true_eq_false) ∧
   (type_of% @not_false_iff) ∧
   (type_of% @or_false) ∧
   (type_of% @or_true) ∧
   (type_of% @false_or) ∧
   (type_of% @true_or) ∧
   (type_of% @Int.toNat_natCast) ∧
   (type_of% @List.length_replicate.{0}) ∧
   (type_of% @zwe) ∧
   (type_of% @zwf) ∧
   (type_of% @csplit_b) ∧
   (type_of% @beq_self_eq_true.{0}) ∧
   (type_of% @BEq.rfl.{0}) ∧
   (type_of% @List.mem_cons.{0}) ∧
   (type_of% @List.not_mem_nil.{0}) ∧
   (type_of% @List.all_cons.{0}) ∧
   (type_of% @List.all_nil.{0}) ∧
   (type_of% @Bool.or_false) ∧
   (type_of% @Bool.or_true) ∧
   (type_of% @Bool.true_or) ∧
   (type_of% @Bool.false_or) ∧
   (type_of% @decide_true) ∧
   (type_of% @decide_false) ∧
   (type_of% @Value.int.injEq) ∧
   (type_of% @Value.bool.injEq) ∧
   (type_of% @IntKind.wrap_u8) ∧
   (type_of% @IntKind.wrap_u64) ∧
   (type_of% @IntKind.wrap_i64) :=
 ⟨@awp_skip,@zxp,@awp_ret,@awp_exit,@zsp,@awp_seq,@zxq,@awp_cond,@aops_nil,@zsw,@zsx,@zrw,@zvs,@zmc,@zqa,@zsn,@zrl,@true_and,@and_true,@Nat.le_refl,@false_implies,@List.nil_append.{0},@List.append_nil.{0},@List.cons_append.{0},@Nat.zero_le,@Bool.false_eq_true,@cond_false.{1},@cond_true.{1},@List.getElem?_cons_succ.{0},@List.getElem?_cons_zero.{0},@ne_eq.{1},@not_false_eq_true,@and_self,@true_implies,@AV.w.injEq,@Nat.min_def,@List.set_cons_zero.{0},@List.set_cons_succ.{0},@List.replicate_succ.{0},@List.replicate_zero.{0},@List.length_append.{0},@List.length_cons.{0},@List.length_nil.{0},@Nat.zero_add,@Nat.add_zero,@Bool.not_true,@Bool.not_false,@Bool.true_and,@Bool.and_true,@Bool.and_false,@Bool.false_and,@not_true_eq_false,@not_false_iff,@or_false,@or_true,@false_or,@true_or,@Int.toNat_natCast,@List.length_replicate.{0},@zwe,@zwf,@csplit_b,@beq_self_eq_true.{0},@BEq.rfl.{0},@List.mem_cons.{0},@List.not_mem_nil.{0},@List.all_cons.{0},@List.all_nil.{0},@Bool.or_false,@Bool.or_true,@Bool.true_or,@Bool.false_or,@decide_true,@decide_false,@Value.int.injEq,@Value.bool.injEq,@IntKind.wrap_u8,@IntKind.wrap_u64,@IntKind.wrap_i64⟩
theorem evD0 : (type_of% @Ax.slot.eq_1) ∧
   (type_of% @Ax.slot.eq_2) ∧
   (type_of% @Ax.slot.eq_3) ∧
   (type_of% @Ax.setSlot.eq_1) ∧
   (type_of% @Ax.setSlot.eq_2) ∧
   (type_of% @Ax.setSlot.eq_3) ∧
   (type_of% @Ax.Out.and.eq_1) ∧
   (type_of% @Ax.isBool.eq_1) ∧
   (type_of% @Ax.isPtr.eq_1) ∧
   (type_of% @Ax.evs.eq_1) ∧
   (type_of% @Ax.evs.eq_2) ∧
   (type_of% @Ax.evps.eq_1) ∧
   (type_of% @Ax.evps.eq_2) ∧
   (type_of% @Ax.aCall.eq_1) ∧
   (type_of% @Ax.aUser.eq_1) ∧
   (type_of% @Ax.coes.eq_1) ∧
   (type_of% @Ax.coes.eq_2) ∧
   (type_of% @Ax.callOut.eq_1) ∧
   (type_of% @Ax.rootsL.eq_1) ∧
   (type_of% @Ax.rootsL.eq_2) ∧
   (type_of% @Ax.AV.roots.eq_1) ∧
   (type_of% @Ax.AV.roots.eq_2) ∧
   (type_of% @Ax.AV.roots.eq_3) ∧
   (type_of% @Ax.AV.roots.eq_4) ∧
   (type_of% @Ax.lendsL.eq_1) ∧
   (type_of% @Ax.lendsL.eq_2) ∧
   (type_of% @Ax.AV.lends.eq_1) ∧
   (type_of% @Ax.AV.lends.eq_2) ∧
   (type_of% @Ax.AV.lends.eq_3) ∧
   (type_of% @Ax.AV.lends.eq_4) ∧
   (type_of% @Ax.pinsOf.eq_1) ∧
   (type_of% @Ax.pinsOf.eq_2) ∧
   (type_of% @Ax.nodup.eq_1) ∧
   (type_of% @Ax.nodup.eq_2) ∧
   (type_of% @Ax.lendL.eq_1) ∧
   (type_of% @Ax.lendL.eq_2) ∧
   (type_of% @Ax.lend.eq_1) ∧
   (type_of% @Ax.lend.eq_2) ∧
   (type_of% @Ax.lend.eq_3) ∧
   (type_of% @Ax.lend.eq_4) ∧
   (type_of% @Ax.lend.eq_5) ∧
   (type_of% @Ax.lend.eq_6) ∧
   (type_of% @Ax.lend.eq_7) ∧
   (type_of% @Ax.lend.eq_8) ∧
   (type_of% @Ax.lend.eq_9) ∧
   (type_of% @Ax.lend.eq_10) ∧
   (type_of% @Ax.lend.eq_11) ∧
   (type_of% @Ax.lend.eq_12) ∧
   (type_of% @Ax.closedB.eq_1) ∧
   (type_of% @Ax.closedB.eq_2) ∧
   (type_of% @Ax.noimmB.eq_1) ∧
   (type_of% @Ax.noimmB.eq_2) ∧
   (type_of% @Ax.AV.noimm.eq_1) ∧
   (type_of% @Ax.AV.noimm.eq_2) ∧
   (type_of% @Ax.AV.noimm.eq_3) ∧
   (type_of% @Ax.AV.noimm.eq_4) :=
 ⟨@Ax.slot.eq_1,@Ax.slot.eq_2,@Ax.slot.eq_3,@Ax.setSlot.eq_1,@Ax.setSlot.eq_2,@Ax.setSlot.eq_3,@Ax.Out.and.eq_1,@Ax.isBool.eq_1,@Ax.isPtr.eq_1,@Ax.evs.eq_1,@Ax.evs.eq_2,@Ax.evps.eq_1,@Ax.evps.eq_2,@Ax.aCall.eq_1,@Ax.aUser.eq_1,@Ax.coes.eq_1,@Ax.coes.eq_2,@Ax.callOut.eq_1,@Ax.rootsL.eq_1,@Ax.rootsL.eq_2,@Ax.AV.roots.eq_1,@Ax.AV.roots.eq_2,@Ax.AV.roots.eq_3,@Ax.AV.roots.eq_4,@Ax.lendsL.eq_1,@Ax.lendsL.eq_2,@Ax.AV.lends.eq_1,@Ax.AV.lends.eq_2,@Ax.AV.lends.eq_3,@Ax.AV.lends.eq_4,@Ax.pinsOf.eq_1,@Ax.pinsOf.eq_2,@Ax.nodup.eq_1,@Ax.nodup.eq_2,@Ax.lendL.eq_1,@Ax.lendL.eq_2,@Ax.lend.eq_1,@Ax.lend.eq_2,@Ax.lend.eq_3,@Ax.lend.eq_4,@Ax.lend.eq_5,@Ax.lend.eq_6,@Ax.lend.eq_7,@Ax.lend.eq_8,@Ax.lend.eq_9,@Ax.lend.eq_10,@Ax.lend.eq_11,@Ax.lend.eq_12,@Ax.closedB.eq_1,@Ax.closedB.eq_2,@Ax.noimmB.eq_1,@Ax.noimmB.eq_2,@Ax.AV.noimm.eq_1,@Ax.AV.noimm.eq_2,@Ax.AV.noimm.eq_3,@Ax.AV.noimm.eq_4⟩
theorem evD1 : (type_of% @Ax.AV.noimm.eq_5) ∧
   (type_of% @Ax.AV.noimm.eq_6) ∧
   (type_of% @Ax.AV.noimm.eq_7) ∧
   (type_of% @Ax.AV.noimm.eq_8) ∧
   (type_of% @Ax.AV.ren.eq_1) ∧
   (type_of% @Ax.AV.ren.eq_2) ∧
   (type_of% @Ax.AV.ren.eq_3) ∧
   (type_of% @Ax.AV.ren.eq_4) ∧
   (type_of% @Ax.AV.ren.eq_5) ∧
   (type_of% @Ax.AV.ren.eq_6) ∧
   (type_of% @Ax.renL.eq_1) ∧
   (type_of% @Ax.renL.eq_2) ∧
   (type_of% @Ax.back.eq_1) ∧
   (type_of% @Ax.back.eq_2) ∧
   (type_of% @Ax.aLoad.eq_1) ∧
   (type_of% @Ax.subv.eq_1) ∧
   (type_of% @Ax.guardSlot.eq_1) ∧
   (type_of% @Ax.byte.eq_1) ∧
   (type_of% @Ax.word.eq_1) ∧
   (type_of% @Ax.EndsX.eq_1) ∧
   (type_of% @Ax.rvals.eq_1) ∧
   (type_of% @Ax.rvals.eq_2) ∧
   (type_of% @Ax.rvals.eq_3) ∧
   (type_of% @Ax.AV.ids.eq_1) ∧
   (type_of% @Ax.AV.ids.eq_2) ∧
   (type_of% @Ax.AV.ids.eq_3) ∧
   (type_of% @Ax.AV.ids.eq_4) ∧
   (type_of% @Ax.AV.ids.eq_5) ∧
   (type_of% @Ax.AV.ids.eq_6) ∧
   (type_of% @Ax.idsL.eq_1) ∧
   (type_of% @Ax.idsL.eq_2) ∧
   (type_of% @Ax.newIds.eq_1) ∧
   (type_of% @Ax.newIds.eq_2) ∧
   (type_of% @Ax.upTo.eq_1) ∧
   (type_of% @Ax.upTo.eq_2) ∧
   (type_of% @Ax.pinHeap.eq_1) ∧
   (type_of% @Ax.pinHeap.eq_2) ∧
   (type_of% @Ax.gOf.eq_1) ∧
   (type_of% @Ax.gOf.eq_2) ∧
   (type_of% @Ax.gOf.eq_3) ∧
   (type_of% @Ax.aBuildSlice.eq_1) ∧
   (type_of% @Ax.fillB.eq_1) ∧
   (type_of% @Ax.fillB.eq_2) ∧
   (type_of% @Ax.fillB.eq_3) ∧
   (type_of% @Ax.look.eq_1) ∧
   (type_of% @Ax.look.eq_2) ∧
   (type_of% @Ax.put.eq_1) ∧
   (type_of% @Ax.drop.eq_1) ∧
   (type_of% @Ax.drop.eq_2) ∧
   (type_of% @Ax.asv.eq_1) ∧
   (type_of% @Ax.aMake.eq_1) ∧
   (type_of% @Ax.fillG.eq_1) ∧
   (type_of% @Ax.fillG.eq_2) ∧
   (type_of% @Ax.fillI.eq_1) ∧
   (type_of% @Ax.fillI.eq_2) ∧
   (type_of% @Ax.fillI.eq_3) :=
 ⟨@Ax.AV.noimm.eq_5,@Ax.AV.noimm.eq_6,@Ax.AV.noimm.eq_7,@Ax.AV.noimm.eq_8,@Ax.AV.ren.eq_1,@Ax.AV.ren.eq_2,@Ax.AV.ren.eq_3,@Ax.AV.ren.eq_4,@Ax.AV.ren.eq_5,@Ax.AV.ren.eq_6,@Ax.renL.eq_1,@Ax.renL.eq_2,@Ax.back.eq_1,@Ax.back.eq_2,@Ax.aLoad.eq_1,@Ax.subv.eq_1,@Ax.guardSlot.eq_1,@Ax.byte.eq_1,@Ax.word.eq_1,@Ax.EndsX.eq_1,@Ax.rvals.eq_1,@Ax.rvals.eq_2,@Ax.rvals.eq_3,@Ax.AV.ids.eq_1,@Ax.AV.ids.eq_2,@Ax.AV.ids.eq_3,@Ax.AV.ids.eq_4,@Ax.AV.ids.eq_5,@Ax.AV.ids.eq_6,@Ax.idsL.eq_1,@Ax.idsL.eq_2,@Ax.newIds.eq_1,@Ax.newIds.eq_2,@Ax.upTo.eq_1,@Ax.upTo.eq_2,@Ax.pinHeap.eq_1,@Ax.pinHeap.eq_2,@Ax.gOf.eq_1,@Ax.gOf.eq_2,@Ax.gOf.eq_3,@Ax.aBuildSlice.eq_1,@Ax.fillB.eq_1,@Ax.fillB.eq_2,@Ax.fillB.eq_3,@Ax.look.eq_1,@Ax.look.eq_2,@Ax.put.eq_1,@Ax.drop.eq_1,@Ax.drop.eq_2,@Ax.asv.eq_1,@Ax.aMake.eq_1,@Ax.fillG.eq_1,@Ax.fillG.eq_2,@Ax.fillI.eq_1,@Ax.fillI.eq_2,@Ax.fillI.eq_3⟩
theorem evD2 : (type_of% @Ax.bnds.eq_1) ∧
   (type_of% @Ax.cut.eq_1) ∧
   (type_of% @Ax.aFieldAddr.eq_1) ∧
   (type_of% @Ax.aField.eq_1) ∧
   (type_of% @Ax.aBox.eq_1) ∧
   (type_of% @Ax.aBuild.eq_1) ∧
   (type_of% @Ax.fillS.eq_1) ∧
   (type_of% @Ax.fillS.eq_2) ∧
   (type_of% @Ax.allTy.eq_1) ∧
   (type_of% @Ax.allTy.eq_2) ∧
   (type_of% @Ax.splice.eq_1) ∧
   (type_of% @Ax.isBytes.eq_1) ∧
   (type_of% @Ax.aAlloc.eq_1) ∧
   (type_of% @Ax.closedL.eq_1) ∧
   (type_of% @Ax.closedL.eq_2) ∧
   (type_of% @Ax.AV.closed.eq_1) ∧
   (type_of% @Ax.AV.closed.eq_2) ∧
   (type_of% @Ax.AV.closed.eq_3) ∧
   (type_of% @Ax.AV.closed.eq_4) ∧
   (type_of% @Ax.AV.closed.eq_5) ∧
   (type_of% @Ax.AV.closed.eq_6) ∧
   (type_of% @Ax.idx.eq_1) ∧
   (type_of% @Ax.idx.eq_2) ∧
   (type_of% @Ax.AV.lentIds.eq_1) ∧
   (type_of% @Ax.AV.lentIds.eq_2) ∧
   (type_of% @Ax.AV.lentIds.eq_3) ∧
   (type_of% @Ax.AV.lentIds.eq_4) ∧
   (type_of% @Ax.lentIdsL.eq_1) ∧
   (type_of% @Ax.lentIdsL.eq_2) ∧
   (type_of% @Ax.dropAll.eq_1) ∧
   (type_of% @Ax.dropAll.eq_2) ∧
   (type_of% @Ax.AV.clean.eq_1) ∧
   (type_of% @Ax.AV.clean.eq_2) ∧
   (type_of% @Ax.AV.clean.eq_3) ∧
   (type_of% @Ax.AV.clean.eq_4) ∧
   (type_of% @Ax.AV.clean.eq_5) ∧
   (type_of% @Ax.AV.clean.eq_6) ∧
   (type_of% @Ax.AV.clean.eq_7) ∧
   (type_of% @Ax.AV.clean.eq_8) ∧
   (type_of% @Ax.cleanL.eq_1) ∧
   (type_of% @Ax.cleanL.eq_2) ∧
   (type_of% @Ax.cleanB.eq_1) ∧
   (type_of% @Ax.cleanB.eq_2) ∧
   (type_of% @Ax.quietC.eq_1) ∧
   (type_of% @Ax.flatTy.eq_1) ∧
   (type_of% @Ax.coldStr.eq_1) ∧
   (type_of% @Ax.eqV.eq_1) ∧
   (type_of% @Ax.eqV.eq_2) ∧
   (type_of% @Ax.eqV.eq_3) ∧
   (type_of% @Ax.eqV.eq_4) ∧
   (type_of% @Ax.eqV.eq_5) ∧
   (type_of% @Ax.eqF.eq_1) ∧
   (type_of% @Ax.eqF.eq_2) ∧
   (type_of% @Ax.isStruct.eq_1) :=
 ⟨@Ax.bnds.eq_1,@Ax.cut.eq_1,@Ax.aFieldAddr.eq_1,@Ax.aField.eq_1,@Ax.aBox.eq_1,@Ax.aBuild.eq_1,@Ax.fillS.eq_1,@Ax.fillS.eq_2,@Ax.allTy.eq_1,@Ax.allTy.eq_2,@Ax.splice.eq_1,@Ax.isBytes.eq_1,@Ax.aAlloc.eq_1,@Ax.closedL.eq_1,@Ax.closedL.eq_2,@Ax.AV.closed.eq_1,@Ax.AV.closed.eq_2,@Ax.AV.closed.eq_3,@Ax.AV.closed.eq_4,@Ax.AV.closed.eq_5,@Ax.AV.closed.eq_6,@Ax.idx.eq_1,@Ax.idx.eq_2,@Ax.AV.lentIds.eq_1,@Ax.AV.lentIds.eq_2,@Ax.AV.lentIds.eq_3,@Ax.AV.lentIds.eq_4,@Ax.lentIdsL.eq_1,@Ax.lentIdsL.eq_2,@Ax.dropAll.eq_1,@Ax.dropAll.eq_2,@Ax.AV.clean.eq_1,@Ax.AV.clean.eq_2,@Ax.AV.clean.eq_3,@Ax.AV.clean.eq_4,@Ax.AV.clean.eq_5,@Ax.AV.clean.eq_6,@Ax.AV.clean.eq_7,@Ax.AV.clean.eq_8,@Ax.cleanL.eq_1,@Ax.cleanL.eq_2,@Ax.cleanB.eq_1,@Ax.cleanB.eq_2,@Ax.quietC.eq_1,@Ax.flatTy.eq_1,@Ax.coldStr.eq_1,@Ax.eqV.eq_1,@Ax.eqV.eq_2,@Ax.eqV.eq_3,@Ax.eqV.eq_4,@Ax.eqV.eq_5,@Ax.eqF.eq_1,@Ax.eqF.eq_2,@Ax.isStruct.eq_1⟩
end Go.Proofs.Ytolclgkginfiaaa
namespace Go.Proofs.Ytolclgkginfiaaa
namespace Ax
open Go.RowKit Go.ChangeShapes Go.WideShapes
def RC (w : World) : List AV → List Value → Prop
 | [],[] => True
 | x :: xs,v :: vs => (x.leaf = true ∧ x.closed = true ∧ R w loc0 x v) ∧ RC w xs vs
 | _,_ => False
theorem RC.len {w : World} : ∀ {xs : List AV} {vs : List Value},RC w xs vs → xs.length = vs.length
 | [],[],_ => rfl
 | x :: xs,v :: vs,h => by simp [RC.len h.2]
 | [],_ :: _,h => h.elim
 | _ :: _,[],h => h.elim
theorem RC.get {w : World} : ∀ {xs : List AV} {vs : List Value},RC w xs vs → ∀ (j : Nat) (h : j < xs.length) (h' : j < vs.length),xs[j].leaf = true ∧ xs[j].closed = true ∧ R w loc0 xs[j] vs[j]
 | x :: xs,v :: vs,h,j,a,b => by
   cases j with
   | zero => exact h.1
   | succ j => exact RC.get h.2 j (by simpa using a) (by simpa using b)
 | [],[],_,j,a,_ => by simp at a
 | [],_ :: _,h,_,_,_ => h.elim
 | _ :: _,[],h,_,_,_ => h.elim
theorem RC.append {w : World} : ∀ {xs ys : List AV} {vs us : List Value},RC w xs vs → RC w ys us → RC w (xs ++ ys) (vs ++ us)
 | [],ys,[],us,_,h => h
 | x :: xs,ys,v :: vs,us,h,k => ⟨h.1,RC.append h.2 k⟩
 | [],_,_ :: _,_,h,_ => h.elim
 | _ :: _,_,[],_,h,_ => h.elim
def zmv : TD → Nat
 | .int .u8 => 1
 | .int .i64 => 2
 | _ => 0
def ztd (S : TypeId → List AV → Prop) : List (Nat × TypeId) → List AV → Prop
 | [],ls => ls = []
 | p :: r,ls => ∃ l1 l2,ls = l1 ++ l2 ∧ S p.2 l1 ∧ ztd S r l2
def zqi (T : zab) : Nat → TypeId → List AV → Prop
 | 0,_,_ => False
 | n + 1,t,ls => match T t with
   | none => False
   | some i => match i.d with
     | .int k => ∃ m,ls = [.w (.int k m)] ∧ (Lit.int k m).wf = true
     | .bool => ∃ b,ls = [.w (.bool b)]
     | .str => ∃ bs,ls = [.str bs] ∧ bs.length ≤ maxLen
     | .slice e => match T e with
       | none => False
       | some te => match zmv te.d with
         | 1 => ∃ bs f,ls = [.sb bs f] ∧ bs.length ≤ maxLen
         | 2 => ∃ ns f,ls = [.si ns f] ∧ ns.length ≤ maxLen ∧ ∀ n ∈ ns,-9223372036854775808 ≤ n ∧ n ≤ 9223372036854775807
         | _ => ∃ xs f,ls = [.sg te.size xs f] ∧ xs.length ≤ maxLen ∧ ∀ x ∈ xs,∃ l,zqi T n e l ∧ l.length = te.size ∧ x = asv te l
     | .struct fs => ztd (zqi T n) fs ls
     | .arr m e => ztd (zqi T n) (List.replicate m (0,e)) ls
     | _ => False
def tiles (T : zab) : List (Nat × TypeId) → Nat → Nat → Bool
 | [],o,s => o == s
 | p :: r,o,s => match T p.2 with
   | some i => p.1 == o && tiles T r (o + i.size) s
   | none => false
def okT (T : zab) : Nat → TypeId → Bool
 | 0,_ => false
 | n + 1,t => match T t with
   | none => false
   | some i => match i.d with
     | .int _ => true
     | .bool => true
     | .str => true
     | .slice e => match T e with
       | none => false
       | some te => !(zmv te.d == 0) || (okT T n e && decide (0 < te.size))
     | .struct fs => tiles T fs 0 i.size && fs.all fun p => okT T n p.2
     | .arr m e => match T e with
       | some te => m * te.size == i.size && okT T n e
       | none => false
     | _ => false
theorem zjl {P : Program} {T : zab} (hT : TOk P T) {t : TypeId} {i : TyI} (h : T t = some i) : P.cellsOf t = i.size := by
 obtain ⟨inf,z,h1,h2,_⟩ := (hT t i h).info
 simp [Program.cellsOf,h1,h2]
section
variable {H : Type} {enc : TypeId × Value → H} {P : Program} {w : World} {base : Nat} {spare : Nat → Bool} {held : Bool}
theorem fields_R {T : zab} (hT : TOk P T) {S : TypeId → List AV → Prop} {ok : TypeId → Bool} {m : Nat} (ih : ∀ t cs x,DataW.trod enc P w base spare held m t cs = some x → ok t = true → ∃ ls,RC w ls cs ∧ S t ls) :
   ∀ (fs : List (Nat × TypeId)) (o s : Nat) (cs : List Value),tiles T fs o s = true → (fs.all fun p => ok p.2) = true → cs.length = s → (∀ p ∈ fs,∃ x,DataW.trod enc P w base spare held m p.2 ((cs.drop p.1).take (P.cellsOf p.2)) = some x) → ∃ ls,RC w ls (cs.drop o) ∧ ztd S fs ls
 | [],o,s,cs,ht,_,hl,_ => by
   simp only [tiles,beq_iff_eq] at ht
   subst ht
   rw [← hl,List.drop_length]
   exact ⟨[],trivial,rfl⟩
 | p :: r,o,s,cs,ht,hk,hl,h => by
   simp only [tiles] at ht
   simp only [List.all_cons,Bool.and_eq_true] at hk
   cases hp : T p.2 with
   | none => simp [hp] at ht
   | some i =>
     simp only [hp,Bool.and_eq_true,beq_iff_eq] at ht
     obtain ⟨rfl,ht⟩ := ht
     obtain ⟨x,hx⟩ := h p (by simp)
     obtain ⟨l1,h1,h2⟩ := ih _ _ _ hx hk.1
     obtain ⟨l2,h3,h4⟩ := fields_R hT ih r _ s cs ht hk.2 hl (fun q hq => h q (by simp [hq]))
     rw [zjl hT hp] at h1
     refine ⟨l1 ++ l2,?_,l1,l2,rfl,h2,h4⟩
     have := RC.append h1 h3
     rwa [← List.drop_drop,List.take_append_drop] at this
theorem arr_R {T : zab} (hT : TOk P T) {S : TypeId → List AV → Prop} {ok : TypeId → Bool} {m : Nat} {e : TypeId} {te : TyI} (he : T e = some te) (hok : ok e = true) (ih : ∀ t cs x,DataW.trod enc P w base spare held m t cs = some x → ok t = true → ∃ ls,RC w ls cs ∧ S t ls) :
   ∀ (k : Nat) (cs : List Value),cs.length = k * te.size → (∀ i,i < k → ∃ x,DataW.trod enc P w base spare held m e ((cs.drop (i * te.size)).take te.size) = some x) → ∃ ls,RC w ls cs ∧ ztd S (List.replicate k (0,e)) ls
 | 0,cs,hl,_ => by
   have : cs = [] := List.eq_nil_of_length_eq_zero (by simpa using hl)
   subst this
   exact ⟨[],trivial,rfl⟩
 | k + 1,cs,hl,h => by
   obtain ⟨x,hx⟩ := h 0 (by omega)
   rw [Nat.zero_mul,List.drop_zero] at hx
   obtain ⟨l1,h1,h2⟩ := ih _ _ _ hx hok
   have hmul : (k + 1) * te.size = k * te.size + te.size := Nat.succ_mul _ _
   obtain ⟨l2,h3,h4⟩ := arr_R hT he hok ih k (cs.drop te.size) (by rw [List.length_drop]; omega) (fun i hi => by
     obtain ⟨y,hy⟩ := h (i + 1) (by omega)
     refine ⟨y,?_⟩
     rw [List.drop_drop,show te.size + i * te.size = (i + 1) * te.size by rw [Nat.succ_mul]; omega]
     exact hy)
   refine ⟨l1 ++ l2,?_,l1,l2,rfl,h2,h4⟩
   have := RC.append h1 h3
   rwa [List.take_append_drop] at this
theorem rows_R {S : List AV → Prop} {te : TyI} (hs : ∀ l,S l → te.d.aggr = false → te.size = 1) {a : Addr} :
   ∀ (n : Nat) (off : Nat),(∀ i,i < n → ∃ (ls : List AV) (cs : List Value),RC w ls cs ∧ S ls ∧ cs.length = te.size ∧ ∀ k,k < te.size → w.cell? (a.add ((off + i) * te.size + k)) = cs[k]?) →
     ∃ (xs : List AV) (cs : List Value),xs.length = n ∧ cs.length = n * te.size ∧ (∀ x ∈ xs,∃ l,S l ∧ l.length = te.size ∧ x = asv te l ∧ x.leaves = l) ∧ RC w (xs.flatMap AV.leaves) cs ∧ ∀ k,k < n * te.size → w.cell? (a.add (off * te.size + k)) = cs[k]?
 | 0,off,_ => ⟨[],[],rfl,by simp,by simp,trivial,fun k h => by simp at h⟩
 | n + 1,off,h => by
   obtain ⟨ls,c1,h1,h2,h3,h4⟩ := h 0 (by omega)
   obtain ⟨xs,c2,k1,k2,k3,k4,k5⟩ := rows_R hs n (off + 1) (fun i hi => by
     obtain ⟨l,c,a1,a2,a3,a4⟩ := h (i + 1) (by omega)
     refine ⟨l,c,a1,a2,a3,fun k hk => ?_⟩
     rw [show off + 1 + i = off + (i + 1) by omega]; exact a4 k hk)
   have hlen : ls.length = te.size := by rw [RC.len h1,h3]
   have hx : (asv te ls).leaves = ls := by
     unfold asv
     cases ha : te.d.aggr with
     | true => rfl
     | false =>
       have h1s := hs ls h2 ha
       have hl1 : ls.length = 1 := by omega
       obtain ⟨y,rfl⟩ := List.length_eq_one_iff.1 hl1
       have := (RC.get h1 0 (by simp) (by omega)).1
       simp only [List.getElem_cons_zero] at this
       simp only [cond_false,slot]
       cases y <;> first | rfl | simp [AV.leaf] at this
   refine ⟨asv te ls :: xs,c1 ++ c2,by simp [k1],by rw [List.length_append,h3,k2,Nat.succ_mul]; omega,?_,?_,?_⟩
   · intro x hxm
     rcases List.mem_cons.1 hxm with rfl | hxm
     · exact ⟨ls,h2,hlen,rfl,hx⟩
     · exact k3 x hxm
   · rw [List.flatMap_cons,hx]; exact RC.append h1 k4
   · intro k hk
     by_cases hk1 : k < te.size
     · rw [List.getElem?_append_left (by omega)]
       have := h4 k hk1
       rw [Nat.add_zero] at this
       exact this
     · rw [List.getElem?_append_right (by omega),h3]
       have := k5 (k - te.size) (by rw [Nat.succ_mul] at hk; omega)
       rw [← this,Nat.succ_mul]
       congr 2
       omega
theorem add_add (a : Addr) (h : a.spot = none) (m n : Nat) : (a.add m).add n = a.add (m + n) := by
 obtain ⟨b,o,s⟩ := a
 simp only at h
 subst h
 unfold Addr.add
 by_cases hm : m = 0
 · subst hm; simp
 · by_cases hn : n = 0
   · subst hn; simp
   · rw [if_neg hm,if_neg hn,if_neg (by omega)]
     simp; omega
theorem zth {T : zab} (hT : TOk P T) {t : TypeId} {i : TyI} (h : T t = some i) (ha : i.d.aggr = false) : i.size = 1 := by
 obtain ⟨inf,z,_,_,_,_,_,_,_,h8⟩ := (hT t i h).info
 exact (h8 ha).2.2
theorem cells_at {a : Addr} {cs : List Value} (hne : cs ≠ []) (h : ∀ k,k < cs.length → w.cell? (a.add k) = cs[k]?) : Cells w loc0 (some a) cs ∧ a.spot = none := by
 have hl : 0 < cs.length := List.length_pos_iff.2 hne
 have h1 := h 0 hl
 rw [show a.add 0 = a from rfl,List.getElem?_eq_getElem hl] at h1
 have hx : a.spot = none ∧ a.block < w.heap.size := by
   unfold World.cell? at h1
   split at h1
   · rename_i c e fz hh
     split at h1
     · cases h1
     · rename_i hs
       refine ⟨by simpa using hs,?_⟩
       rcases Nat.lt_or_ge a.block w.heap.size with h' | h'
       · exact h'
       · rw [Array.getElem?_eq_none h'] at hh; cases hh
   · cases h1
 obtain ⟨b,o,sp⟩ := a
 obtain ⟨rfl,hb⟩ := hx
 refine ⟨⟨.inr ⟨b,o,rfl,not_mut0 b,hb,fun j hj => ?_⟩⟩,rfl⟩
 have h2 := h j hj
 rw [List.getElem?_eq_getElem hj] at h2
 rw [← h2]
 cases j <;> rfl
theorem read_R {T : zab} (hT : TOk P T) : ∀ (n fuel : Nat) (t : TypeId) (cs : List Value) (x : DataW H × List MemPlace),DataW.trod enc P w base (fun _ => true) held fuel t cs = some x → okT T n t = true → ∃ ls,RC w ls cs ∧ zqi T n t ls
 | 0,_,_,_,_,_,h => by simp [okT] at h
 | n + 1,fuel,t,cs,x,h,hok => by
   unfold okT at hok
   unfold zqi
   cases ht : T t with
   | none => simp [ht] at hok
   | some i =>
     simp only [ht] at hok ⊢
     have hd := (hT t i ht).d
     have hsz := zjl hT ht
     cases hi : i.d with
     | int k =>
       rw [hi] at hd
       obtain ⟨m,rfl,_,hw⟩ := DataW.trod_int hd h
       exact ⟨[.w (.int k m)],⟨⟨rfl,rfl,.w _ rfl⟩,trivial⟩,m,rfl,hw⟩
     | bool =>
       rw [hi] at hd
       obtain ⟨b,rfl,_⟩ := DataW.trod_bool hd h
       exact ⟨[.w (.bool b)],⟨⟨rfl,rfl,.w _ rfl⟩,trivial⟩,b,rfl⟩
     | str =>
       rw [hi] at hd
       obtain ⟨s,rfl,_,hm⟩ := DataW.trod_string hd h
       exact ⟨[.str s.data.toList],⟨⟨rfl,rfl,str_R w s⟩,trivial⟩,s.data.toList,rfl,by simpa using hm⟩
     | slice e =>
       rw [hi] at hd
       simp only [hi] at hok ⊢
       cases he : T e with
       | none => simp [he] at hok
       | some te =>
         simp only [he] at hok ⊢
         have hde := (hT e te he).d
         have hse := zjl hT he
         have row : ∀ k,P.underlying e = some (.int k) → P.cellsOf e = 1 → ∃ a len cap zs,cs = [.slice a len cap] ∧ IsRow k w a len cap zs := by
           intro k hk h1
           rcases open_ints hd hk h1 h with ⟨hcs,_⟩ | ⟨y,l,c,zs,hcs,_,hl,hm,hz,_,hcell,hwz⟩
           · exact ⟨none,0,0,[],hcs,.inl ⟨rfl,rfl,rfl,rfl⟩⟩
           · exact ⟨some y,l,c,zs,hcs,.inr ⟨y,rfl,hl,hm,by simpa using hz,hcell,hwz⟩⟩
         have hfi : (zmv te.d = 1 ∧ te.d = .int .u8) ∨ (zmv te.d = 2 ∧ te.d = .int .i64) ∨ zmv te.d = 0 := by
           unfold zmv
           split
           · rename_i e; exact .inl ⟨rfl,e⟩
           · rename_i e; exact .inr (.inl ⟨rfl,e⟩)
           · exact .inr (.inr rfl)
         rcases hfi with ⟨hf,hte⟩ | ⟨hf,hte⟩ | hf
         · rw [hf]
           rw [hte] at hde
           obtain ⟨a,len,cap,zs,rfl,hr⟩ := row .u8 hde (by rw [hse]; exact zth hT he (by rw [hte]; rfl))
           obtain ⟨bs,h1,h2,h3⟩ := row_sb hr
           exact ⟨[.sb bs false],⟨⟨rfl,rfl,h3⟩,trivial⟩,bs,false,rfl,by omega⟩
         · rw [hf]
           rw [hte] at hde
           obtain ⟨a,len,cap,zs,rfl,hr⟩ := row .i64 hde (by rw [hse]; exact zth hT he (by rw [hte]; rfl))
           obtain ⟨ns,h1,h2,h4,h3⟩ := row_si hr
           exact ⟨[.si ns false],⟨⟨rfl,rfl,h3⟩,trivial⟩,ns,false,rfl,by omega,h4⟩
         · rw [hf]
           rw [hf] at hok
           simp only [beq_self_eq_true,Bool.not_true,Bool.false_or,Bool.and_eq_true,decide_eq_true_eq] at hok
           obtain ⟨hok,hpos⟩ := hok
           rcases DataW.trod_slice hd h with ⟨rfl,_⟩ | ⟨a,len,cap,elems,rest,m,_,rfl,_,hb,hl,hm,hlen,hel,_,_⟩
           · exact ⟨[.sg te.size [] false],⟨⟨rfl,rfl,.sg te.size [] false none 0 [] ⟨Nat.le_refl _,Nat.zero_le _,fun h => by cases h⟩ (by simp) ⟨.inl rfl⟩ rfl (by simp) (by simp)⟩,trivial⟩,[],false,rfl,Nat.zero_le _,by simp⟩
           · rw [hse] at hel
             have hall : ∀ i,i < len → ∃ (ls : List AV) (c : List Value),RC w ls c ∧ zqi T n e ls ∧ c.length = te.size ∧ ∀ k,k < te.size → w.cell? ((a.add (i * te.size)).add k) = c[k]? := by
               intro i hi
               have h1 := hel i hi
               rw [List.getElem?_eq_getElem (by omega),Option.bind_eq_some_iff] at h1
               obtain ⟨c,h2,h3⟩ := h1
               obtain ⟨_,h4,h5⟩ := World.cells?_some h2
               obtain ⟨ls,h6,h7⟩ := read_R hT n m e c _ h3 hok
               exact ⟨ls,c,h6,h7,h4,h5⟩
             by_cases h0 : len = 0
             · subst h0
               exact ⟨[.sg te.size [] false],⟨⟨rfl,rfl,.sg te.size [] false (some a) cap [] ⟨Nat.zero_le _,hm,fun h => by cases h⟩ (by simp) ⟨.inl rfl⟩ rfl (by simp) (by simp)⟩,trivial⟩,[],false,rfl,Nat.zero_le _,by simp⟩
             · have hspot : a.spot = none := by
                 obtain ⟨ls,c,_,_,h3,h4⟩ := hall 0 (by omega)
                 rw [Nat.zero_mul,show a.add 0 = a from rfl] at h4
                 exact (cells_at (w := w) (a := a) (cs := c) (by intro e; rw [e] at h3; simp at h3; omega) (fun k hk => h4 k (by omega))).2
               obtain ⟨xs,c,k1,k2,k3,k4,k5⟩ := rows_R (w := w) (S := zqi T n e) (te := te) (fun _ _ ha => zth hT he ha) (a := a) len 0 (fun i hi => by
                 obtain ⟨ls,c,h1,h2,h3,h4⟩ := hall i hi
                 refine ⟨ls,c,h1,h2,h3,fun k hk => ?_⟩
                 rw [Nat.zero_add,← add_add a hspot]; exact h4 k hk)
               have hcne : c ≠ [] := by
                 intro e; rw [e] at k2
                 simp only [List.length_nil] at k2
                 have := Nat.mul_pos (Nat.pos_of_ne_zero h0) hpos
                 omega
               have hc := (cells_at (w := w) (a := a) (cs := c) hcne (fun k hk => by
                 have := k5 k (by omega)
                 rwa [Nat.zero_mul,Nat.zero_add] at this)).1
               have hR := R.sg (w := w) (loc := loc0) te.size xs false (some a) cap c ⟨by omega,hm,fun h => by cases h⟩ (fun x hx => by obtain ⟨l,_,h2,h3,h4⟩ := k3 x hx; rw [h4]; exact h2) hc (RC.len k4)
                 (fun j hj => ⟨(RC.get k4 j hj (by rw [← RC.len k4]; exact hj)).1,(RC.get k4 j hj (by rw [← RC.len k4]; exact hj)).2.1⟩) (fun j a b => (RC.get k4 j a b).2.2)
               rw [k1] at hR
               exact ⟨[.sg te.size xs false],⟨⟨rfl,rfl,hR⟩,trivial⟩,xs,false,rfl,by omega,fun x hx => by obtain ⟨l,h1,h2,h3,_⟩ := k3 x hx; exact ⟨l,h1,h2,h3⟩⟩
     | struct fs =>
       rw [hi] at hd
       simp only [hi,Bool.and_eq_true] at hok ⊢
       obtain ⟨gs,hu,rfl⟩ := hd
       obtain ⟨xs,m,_,_,hl,hxl,hf⟩ := DataW.trod_struct hu h
       have := fields_R (w := w) (base := base) (spare := fun _ => true) (held := held) (enc := enc) hT (S := zqi T n) (ok := okT T n) (m := m) (fun t cs x h1 h2 => read_R hT n m t cs x h1 h2) _ 0 i.size cs hok.1 hok.2 (by rw [hl,hsz]) (fun p hp => by
         obtain ⟨g,hg,rfl⟩ := List.mem_map.1 hp
         obtain ⟨j,hj,hgj⟩ := List.getElem_of_mem hg
         have hj2 : gs[j]? = some g := by rw [← hgj]; simp at hj ⊢
         have h3 := hf j g hj2
         have hjx : j < xs.length := by rw [hxl]; simpa using hj
         exact ⟨xs[j],by rw [h3,List.getElem?_eq_getElem hjx]⟩)
       rwa [List.drop_zero] at this
     | arr k e =>
       rw [hi] at hd
       simp only [hi] at hok ⊢
       cases he : T e with
       | none => simp [he] at hok
       | some te =>
         simp only [he,Bool.and_eq_true,beq_iff_eq] at hok
         obtain ⟨xs,m,_,_,hl,hxl,hf⟩ := DataW.trod_array hd h
         rw [zjl hT he] at hf
         exact arr_R (w := w) (base := base) (spare := fun _ => true) (held := held) (enc := enc) hT (S := zqi T n) (ok := okT T n) (m := m) he hok.2 (fun t cs x h1 h2 => read_R hT n m t cs x h1 h2) k cs (by rw [hl,hsz]; exact hok.1.symm) (fun j hj => ⟨xs[j]'(by omega),by rw [hf j hj,List.getElem?_eq_getElem (by omega)]⟩)
     | ptr => simp [hi] at hok
     | func => simp [hi] at hok
     | map k e => simp [hi] at hok
     | other => simp [hi] at hok
def Arg (T : zab) (n : Nat) (t : TypeId) (x : AV) : Prop := ∃ i ls,T t = some i ∧ zqi T n t ls ∧ x = asv i ls
theorem arg_R {T : zab} (hT : TOk P T) {n : Nat} {t : TypeId} {v : Value} {d : DataW H} {ps : List MemPlace} {r : Reach} {b0 : Nat} (hval : Value.okWide P w r b0 t v) (h : DataW.Trod enc P w base (fun _ => true) held t v d ps) (hok : okT T n t = true) :
   ∃ x,Arg T n t x ∧ R w loc0 x v := by
 obtain ⟨fuel,hf⟩ := h
 obtain ⟨ls,h1,h2⟩ := read_R hT n fuel t _ _ hf hok
 cases ht : T t with
 | none => cases n <;> simp [okT,ht] at hok
 | some i =>
   have hd := (hT t i ht).d
   refine ⟨asv i ls,⟨i,ls,ht,h2,rfl⟩,?_⟩
   cases ha : i.d.aggr with
   | true =>
     have hv : ∃ c,v = .agg c := by
       unfold Value.okWide at hval
       cases hi : i.d with
       | struct fs =>
         rw [hi] at hd
         obtain ⟨gs,hu,_⟩ := hd
         rw [hu] at hval
         obtain ⟨c,hc,_⟩ := hval
         exact ⟨c,hc⟩
       | arr k e =>
         rw [hi] at hd
         have hu : P.underlying t = some (.array k e) := hd
         rw [hu] at hval
         obtain ⟨c,hc,_⟩ := hval
         exact ⟨c,hc⟩
       | _ => rw [hi] at ha; cases ha
     obtain ⟨c,rfl⟩ := hv
     simp only [asv,ha,cond_true]
     have hl := RC.len h1
     have := R.agg (w := w) (loc := loc0) ls c.toList hl (fun j hj => (RC.get h1 j hj (by rw [← hl]; exact hj)).1) (fun j a b => (RC.get h1 j a b).2.2)
     rwa [Array.toArray_toList] at this
   | false =>
     simp only [asv,ha,cond_false]
     have key : ∃ u,v.cells = #[u] ∧ u = v := by
       cases v with
       | agg c =>
         exfalso
         unfold Value.okWide Cell.okWide Cell.ok at hval
         cases hi : i.d with
         | struct fs => rw [hi] at ha; cases ha
         | arr k e => rw [hi] at ha; cases ha
         | int k => rw [hi] at hd; have hu : P.underlying t = some (.int k) := hd; simp [hu] at hval
         | bool => rw [hi] at hd; have hu : P.underlying t = some .bool := hd; simp [hu] at hval
         | str => rw [hi] at hd; have hu : P.underlying t = some .string := hd; simp [hu] at hval
         | slice e => rw [hi] at hd; have hu : P.underlying t = some (.slice e) := hd; simp [hu] at hval
         | _ => cases n <;> simp [okT,ht,hi] at hok
       | _ => exact ⟨_,rfl,rfl⟩
     obtain ⟨u,hu,rfl⟩ := key
     rw [hu] at h1
     match ls,h1 with
     | [y],h1 => exact h1.1.2.2
end
end Ax
end Go.Proofs.Ytolclgkginfiaaa
namespace Go.Proofs.Ytolclgkginfiaaa
open Ax
def tys : List (TypeId × TyI) := [
 (2,⟨.int .i64,1,8,[.w (.int .i64 0)],0⟩),
 (3,⟨.int .i64,1,8,[.w (.int .i64 0)],0⟩),
 (4,⟨.bool,1,1,[.w (.bool false)],0⟩),
 (5,⟨.int .u8,1,1,[.w (.int .u8 0)],0⟩),
 (9,⟨.str,1,16,[.str []],0⟩),
 (20,⟨.other,1,16,[.w .nilIface],0⟩),
 (21,⟨.int .i32,1,4,[.w (.int .i32 0)],0⟩),
 (22,⟨.slice 46,1,24,[.sg 3 [] true],0⟩),
 (23,⟨.struct [(0,3),(1,5),(2,22)],3,40,[.w (.int .i64 0),.w (.int .u8 0),.sg 3 [] true],0⟩),
 (24,⟨.struct [(0,3),(1,5),(2,22)],3,40,[.w (.int .i64 0),.w (.int .u8 0),.sg 3 [] true],0⟩),
 (25,⟨.int .i64,1,8,[.w (.int .i64 0)],0⟩),
 (28,⟨.slice 5,1,24,[.sb [] true],0⟩),
 (29,⟨.slice 3,1,24,[.si [] true],0⟩),
 (30,⟨.slice 9,1,24,[.sg 1 [] true],0⟩),
 (45,⟨.struct [(0,9),(1,3),(2,4)],3,32,[.str [],.w (.int .i64 0),.w (.bool false)],0⟩),
 (46,⟨.struct [(0,9),(1,3),(2,4)],3,32,[.str [],.w (.int .i64 0),.w (.bool false)],0⟩),
 (51,⟨.ptr,1,8,[.w (.pointer none)],0⟩),
 (67,⟨.slice 29,1,24,[.sg 1 [] true],0⟩),
 (71,⟨.int .u64,1,8,[.w (.int .u64 0)],0⟩),
 (79,⟨.int .i64,1,8,[.w (.int .i64 0)],0⟩),
 (86,⟨.int .u32,1,4,[.w (.int .u32 0)],0⟩),
 (88,⟨.int .u64,1,8,[.w (.int .u64 0)],0⟩),
 (89,⟨.int .u64,1,8,[.w (.int .u64 0)],0⟩),
 (93,⟨.ptr,1,8,[.w (.pointer none)],0⟩),
 (95,⟨.ptr,1,8,[.w (.pointer none)],0⟩),
 (108,⟨.ptr,1,8,[.w (.pointer none)],0⟩)]
theorem tys_ok : TOk Try.prog (tab tys) := tab_ok (by kernel_rfl)
def ty (t : TypeId) : Option TyI :=
 match t with
 | 2 => some ⟨.int .i64,1,8,[.w (.int .i64 0)],0⟩
 | 3 => some ⟨.int .i64,1,8,[.w (.int .i64 0)],0⟩
 | 4 => some ⟨.bool,1,1,[.w (.bool false)],0⟩
 | 5 => some ⟨.int .u8,1,1,[.w (.int .u8 0)],0⟩
 | 9 => some ⟨.str,1,16,[.str []],0⟩
 | 20 => some ⟨.other,1,16,[.w .nilIface],0⟩
 | 21 => some ⟨.int .i32,1,4,[.w (.int .i32 0)],0⟩
 | 22 => some ⟨.slice 46,1,24,[.sg 3 [] true],0⟩
 | 23 => some ⟨.struct [(0,3),(1,5),(2,22)],3,40,[.w (.int .i64 0),.w (.int .u8 0),.sg 3 [] true],0⟩
 | 24 => some ⟨.struct [(0,3),(1,5),(2,22)],3,40,[.w (.int .i64 0),.w (.int .u8 0),.sg 3 [] true],0⟩
 | 25 => some ⟨.int .i64,1,8,[.w (.int .i64 0)],0⟩
 | 28 => some ⟨.slice 5,1,24,[.sb [] true],0⟩
 | 29 => some ⟨.slice 3,1,24,[.si [] true],0⟩
 | 30 => some ⟨.slice 9,1,24,[.sg 1 [] true],0⟩
 | 45 => some ⟨.struct [(0,9),(1,3),(2,4)],3,32,[.str [],.w (.int .i64 0),.w (.bool false)],0⟩
 | 46 => some ⟨.struct [(0,9),(1,3),(2,4)],3,32,[.str [],.w (.int .i64 0),.w (.bool false)],0⟩
 | 51 => some ⟨.ptr,1,8,[.w (.pointer none)],0⟩
 | 67 => some ⟨.slice 29,1,24,[.sg 1 [] true],0⟩
 | 71 => some ⟨.int .u64,1,8,[.w (.int .u64 0)],0⟩
 | 79 => some ⟨.int .i64,1,8,[.w (.int .i64 0)],0⟩
 | 86 => some ⟨.int .u32,1,4,[.w (.int .u32 0)],0⟩
 | 88 => some ⟨.int .u64,1,8,[.w (.int .u64 0)],0⟩
 | 89 => some ⟨.int .u64,1,8,[.w (.int .u64 0)],0⟩
 | 93 => some ⟨.ptr,1,8,[.w (.pointer none)],0⟩
 | 95 => some ⟨.ptr,1,8,[.w (.pointer none)],0⟩
 | 108 => some ⟨.ptr,1,8,[.w (.pointer none)],0⟩
 | _ => none
theorem ty_ok : TOk Try.prog ty := by
 intro t i h
 refine tys_ok t i ?_
 unfold ty at h
 split at h <;> first | (injection h with h; subst h; rfl) | cases h
theorem mixed : Try.prog.follows .mixedOrders = true := by kernel_rfl
def noS (f : FuncId) : Option zar :=
 match f with
 | _ => none
theorem zcm : Fns Try.prog noS := fun f s h => by cases h
def yesS : zar
 | [],[] => ⟨True,.w (.bool true),[]⟩
 | _,_ => zbq
end Go.Proofs.Ytolclgkginfiaaa
namespace Go.Proofs.Ytolclgkginfiaaa
namespace Ax
variable (T : zab) (t : TypeId)
theorem coe_w (v : Value) : coe T t (.w v) = .w v := rfl
theorem coe_str (bs : List UInt8) : coe T t (.str bs) = .str bs := rfl
theorem coe_agg (xs : List AV) : coe T t (.agg xs) = .agg xs := rfl
theorem coe_tup (xs : List AV) : coe T t (.tup xs) = .tup xs := rfl
theorem coe_sb (bs : List UInt8) (f : Bool) : coe T t (.sb bs f) = .sb bs f := rfl
theorem coe_si (ns : List Int) (f : Bool) : coe T t (.si ns f) = .si ns f := rfl
theorem coe_cp (xs : List AV) : coe T t (.cp xs) = .cp xs := rfl
theorem coe_ms (id s off len : Nat) : coe T t (.ms id s off len) = .ms id s off len := rfl
theorem coe_rf (id s i f : Nat) : coe T t (.rf id s i f) = .rf id s i f := rfl
theorem coe_fn (f : FuncId) (xs : List AV) : coe T t (.fn f xs) = .fn f xs := rfl
theorem coe_cons (s : Nat) (x : AV) (xs : List AV) (f : Bool) : coe T t (.sg s (x :: xs) f) = .sg s (x :: xs) f := rfl
end Ax
open Ax
attribute [go_sem] zlj isZ8 zrd zkv zpx layB evT evD0 evD1 evD2 implies_true forall_const Option.getD aop aLen ev zaj cv cvl zkz aBin aInt aUn aFn aEq List.length IntKind.bits evo List.append List.replicate zby zja TD.aggr zqz aMin aMax Ax.Ends rone List.isEmpty zgd zcp zex List.drop List.take zht zra zrb srcB zew zco zdu zka bnd zqu zjz setB AV.leaves AV.okv AV.leaf Ax.one zai Blk.size Blk.len Option.isSome Option.isNone aStr aNil zdh zhu List.contains List.elem Blk.closed Blk.noimm zhh Blk.clean notMs coe_w coe_str coe_agg coe_tup coe_sb coe_si coe_cp coe_ms coe_rf coe_fn coe_cons zto zjo zgb zga zkb zgc zkc zcu foundM putM cutM AV.pureK AV.pure zxo bare Thing.lone zcn
attribute [go_sem ↓] gsplit_tt gsplit_ff gsplit_tf gsplit_ft csplit_t csplit_f
theorem ssT : (type_of% @true_or) ∧
   (type_of% @false_or) ∧
   (type_of% @or_true) ∧
   (type_of% @or_false) ∧
   (type_of% @and_true) ∧
   (type_of% @true_and) ∧
   (type_of% @AV.w.injEq) ∧
   (type_of% @Value.int.injEq) ∧
   (type_of% @Value.bool.injEq) ∧
   (type_of% @AV.ms.injEq) ∧
   (type_of% @AV.sb.injEq) ∧
   (type_of% @AV.str.injEq) ∧
   (type_of% @Nat.zero_add) ∧
   (type_of% @Nat.add_zero) ∧
   (type_of% @Blk.b.injEq) ∧
   (type_of% @Blk.i.injEq) ∧
   (type_of% @Nat.succ_ne_zero) ∧
   (type_of% @and_self) :=
 ⟨@true_or,@false_or,@or_true,@or_false,@and_true,@true_and,@AV.w.injEq,@Value.int.injEq,@Value.bool.injEq,@AV.ms.injEq,@AV.sb.injEq,@AV.str.injEq,@Nat.zero_add,@Nat.add_zero,@Blk.b.injEq,@Blk.i.injEq,@Nat.succ_ne_zero,@and_self⟩
end Go.Proofs.Ytolclgkginfiaaa
namespace Go.Proofs.Ytolclgkginfiaaa
namespace Ax
def opq : AV := .ms 0 1 0 0
def locD (bad : Nat → Prop) : Loc := { m := fun id => if id = 0 then .dead else .free,bad }
theorem opq_R {w : World} {bad : Nat → Prop} {x v : Value} (h : R w (zaq [] bad) (.w x) v) : R w (locD bad) opq v := by
 have hv := h.wv
 subst hv
 cases h with
 | w _ h1 => exact .ms 0 1 0 0 _ (by unfold Owns locD; simpa using h1)
noncomputable def runTrue (P : Program) (T : zab) (SB : zgx) (k : Nat) (g : FuncId) (args : List AV) : Bool :=
 match callS P T SB k g args .leaf 8 0 with
 | some (.w (.bool true),_,_) => true
 | _ => false
theorem zuq {P : Program} {T : zab} (hm : P.follows .mixedOrders = true) (hT : TOk P T) {S : zah} {SB : zgx} (hS : Fns P S) (hSB : zge P S SB) {k : Nat} {g : FuncId} {args : List AV} {spec : zar}
   (hs : ∀ xs pins,(spec xs pins).p → pins = [] ∧ xs.length = args.length ∧ (spec xs pins).x = .w (.bool true) ∧ (spec xs pins).bl = [] ∧ ∀ (w : World) (bad : Nat → Prop) (j : Nat) (h : j < xs.length) (h' : j < args.length) (v : Value),R w (zaq [] bad) xs[j] v → R w (locD bad) args[j] v)
   (h : runTrue P T SB k g args = true) : zbn P g spec := by
 unfold runTrue at h
 rw [callS_eq] at h
 split at h
 · rename_i H nz hc
   obtain ⟨_,_,_,_,h3⟩ := callN_ok hm hT hS hSB k _ _ _ _ _ _ _ _ hc
   intro xs pins hp _ w bad pb vs hlen hnd hbad hlies hxl hx
   obtain ⟨rfl,hxa,hx1,hbl,hR⟩ := hs xs pins hp
   obtain rfl : pb = [] := List.eq_nil_of_length_eq_zero hlen
   have hfree : ∀ id,(zaq [] bad).m id = .free := fun id => by simp [zaq]
   have hno : ∀ i b,(locD bad).m i ≠ .here b := fun i b h => by unfold locD at h; simp only at h; split at h <;> cases h
   have henv : Env w (· ∈ ([] : List Nat)) w (locD bad) := ⟨rfl,rfl,rfl,Nat.le_refl _,fun _ _ _ => rfl,fun i j b hi => (hno i b hi).elim,fun i b hi => (hno i b hi).elim,fun b hb => hbad b hb⟩
   refine (h3 (fun id b hb => by rw [zdx] at hb; cases hb) w _ w (locD bad) vs (by omega) (fun j hj hj' => hR w bad j (by omega) hj _ (hx j (by omega) hj')) (fun id b hb => by rw [zam,zdx] at hb; cases hb) henv (fun id h1 _ => by unfold locD; simp only; rw [if_neg (by omega)])).mono ?_
   rintro e w' ⟨v,loc',rfl,hq⟩
   have hv := hq.r.wv
   subst hv
   refine ⟨_,zaq [] bad,rfl,?_⟩
   refine ⟨by rw [hx1]; exact .w _ rfl,rfl,(fun k hk => by rw [hbl] at hk; simp at hk),(fun k hk => by simp at hk),(fun k b _ hb => by rw [hfree] at hb; cases hb),fun k _ => hfree k,(fun i j b hi => by rw [hfree] at hi; cases hi),?_⟩
   exact ⟨hq.env.os,hq.env.tape,hq.env.output,hq.env.size,hq.env.same,fun b cur e fz hE => by simp at hE⟩
 · cases h
end Ax
open Ax
theorem yes_with {S : zah} {SB : zgx} (hS : Fns Try.prog S) (hSB : zge Try.prog S SB) {g : FuncId} (h : runTrue Try.prog ty SB 60 g [] = true) : zbn Try.prog g yesS :=
 zuq mixed ty_ok hS hSB (fun xs pins hp => by
   unfold yesS at hp ⊢
   split at hp
   · exact ⟨rfl,rfl,rfl,rfl,fun w bad j h => by simp at h⟩
   · exact hp.elim) h
end Go.Proofs.Ytolclgkginfiaaa
namespace Go.Proofs.Ytolclgkginfiaaa
namespace Ax
open Go.RowKit
structure InsWalks (P : Program) (f : FuncId) (s : Nat) (E : TypeId) (z : List Value) (by' : Nat) : Prop where
 shift : ∀ (b n c i vb vc : Nat) (cs vs : List Value) (w : World),i < n → n + 1 ≤ c → c ≤ 9223372036854775807 → vb ≠ b → cs.length = n * s → vs.length = s →
   (∀ j v,cs[j]? = some v → w.cell? ⟨b,j,none⟩ = some v) → (∀ j,j < (n + 1) * s → (w.cell? ⟨b,j,none⟩).isSome = true) → (∀ j,w.frozen? ⟨b,j,none⟩ = false) →
   (∀ j v,vs[j]? = some v → w.cell? ⟨vb,j,none⟩ = some v) → (∀ v ∈ cs,v.oneCell' = true) → (∀ v ∈ vs,v.oneCell' = true) →
   ∀ (tA tB : TypeId) (kA kB : Nat),w.shape? vb = some (tA,kA) → w.shape? b = some (tB,kB) → kB ≠ 0 → w.frozen? ⟨vb,0,none⟩ = false → w.frozen? ⟨vb,kA,none⟩ = false →
   Calls P f #[.slice (some ⟨b,0,none⟩) n c,.int .i64 i,.slice (some ⟨vb,0,none⟩) 1 vc] w fun e w' =>
     e = .returned (.slice (some ⟨b,0,none⟩) (n + 1) c) ∧ w' = (w.drew.setCells b ((i + 1) * s) (cs.drop (i * s))).setCells b (i * s) vs
 endroom : ∀ (b n c vb vc : Nat) (vs : List Value) (w : World),n + 1 ≤ c → c ≤ 9223372036854775807 → vs.length = s →
   (∀ j,j < (n + 1) * s → (w.cell? ⟨b,j,none⟩).isSome = true) → (∀ j,w.frozen? ⟨b,j,none⟩ = false) → (∀ j v,vs[j]? = some v → w.cell? ⟨vb,j,none⟩ = some v) → (∀ v ∈ vs,v.oneCell' = true) →
   Calls P f #[.slice (some ⟨b,0,none⟩) n c,.int .i64 n,.slice (some ⟨vb,0,none⟩) 1 vc] w fun e w' =>
     e = .returned (.slice (some ⟨b,0,none⟩) (n + 1) c) ∧ w' = w.setCells b (n * s) vs
 endgrow : ∀ (b o n c vb vc : Nat) (cs vs : List Value) (w : World),n ≤ c → c < n + 1 → (n + 1) * by' ≤ 140737488355328 → cs.length = n * s → vs.length = s →
   (∀ j v,cs[j]? = some v → w.cell? ⟨b,o + j,none⟩ = some v) → (∀ j v,vs[j]? = some v → w.cell? ⟨vb,j,none⟩ = some v) → (∀ v ∈ vs,v.oneCell' = true) →
   Calls P f #[.slice (some ⟨b,o,none⟩) n c,.int .i64 n,.slice (some ⟨vb,0,none⟩) 1 vc] w fun e w' =>
     e = .returned (.slice (some ⟨w.heap.size,0,none⟩) (n + 1) (grownCap w (n + 1) c E)) ∧
     w' = w.drew.alloc (.cells ((cs ++ vs).toArray ++ Builtin.zeroCells (Value.agg z.toArray).cells (grownCap w (n + 1) c E - (n + 1))) E)
 grow : ∀ (b n c i vb vc : Nat) (cs vs : List Value) (w : World),i < n → n ≤ c → c < n + 1 → (n + 1) * by' ≤ 140737488355328 → cs.length = n * s → vs.length = s →
   (∀ j v,cs[j]? = some v → w.cell? ⟨b,j,none⟩ = some v) → (∀ j v,vs[j]? = some v → w.cell? ⟨vb,j,none⟩ = some v) → (∀ v ∈ cs,v.oneCell' = true) → (∀ v ∈ vs,v.oneCell' = true) →
   Calls P f #[.slice (some ⟨b,0,none⟩) n c,.int .i64 i,.slice (some ⟨vb,0,none⟩) 1 vc] w fun e w' =>
     e = .returned (.slice (some ⟨w.heap.size,0,none⟩) (n + 1) (grownCap w (n + 1) c E)) ∧
     w' = (((w.alloc (.cells ((cs.take (i * s)).toArray ++ Builtin.zeroCells (Value.agg z.toArray).cells (n + 1 - i) ++ Builtin.zeroCells (Value.agg z.toArray).cells (grownCap w (n + 1) c E - (n + 1))) E)).drew.setCells w.heap.size (i * s) vs).drew).setCells w.heap.size ((i + 1) * s) (cs.drop (i * s))
def DelWalk (P : Program) (f : FuncId) (s : Nat) (z : List Value) : Prop :=
 ∀ (w : World) (b n c i q : Nat) (cs : List Value),i < q → q ≤ n → n ≤ c → c ≤ 9223372036854775807 → cs.length = n * s →
   (∀ j v,cs[j]? = some v → w.cell? ⟨b,j,none⟩ = some v) → (∀ j,j < n * s → (w.cell? ⟨b,j,none⟩).isSome = true) → (∀ j,w.frozen? ⟨b,j,none⟩ = false) → (∀ v ∈ cs,v.oneCell' = true) →
   Calls P f #[.slice (some ⟨b,0,none⟩) n c,.int .i64 i,.int .i64 q] w fun r w' => r = .returned (.slice (some ⟨b,0,none⟩) (i + (n - q)) c) ∧
     w' = (w.drew.setCells b (i * s) (cs.drop (q * s))).setCells b ((i + (n - q)) * s) (Builtin.zeroCells (Value.agg z.toArray).cells (n - (i + (n - q)))).toList
theorem setC (P : Program) {w : World} {b : Nat} {cur : Array Value} {e : TypeId} {fz : Nat × Nat} (o : Nat) (vs : List Value) (hw : w.heap[b]? = some (.cells cur e fz)) (hf : fz.1 = fz.2) (hl : o + vs.length ≤ cur.size) (h1 : ∀ v ∈ vs,one v = true) :
   ∃ cu,(w.setCells b o vs).heap[b]? = some (.cells cu e fz) ∧ cu.size = cur.size ∧ (∀ j,j < cur.size → cu[j]? = if o ≤ j ∧ j < o + vs.length then vs[j - o]? else cur[j]?) ∧ (∀ c,c ≠ b → (w.setCells b o vs).heap[c]? = w.heap[c]?) ∧
     (w.setCells b o vs).heap.size = w.heap.size ∧ (w.setCells b o vs).os = w.os ∧ (w.setCells b o vs).tape = w.tape ∧ (w.setCells b o vs).output = w.output := by
 obtain ⟨w2,cu,r1,r2,r3,r4,r5,r6,r7,r8,r9⟩ := zbj (P := P) b o e fz vs 0 cur w hw (zkq (p := True) (.inl hf)) (by omega) h1
 have hst := run_storeCells_cells (P := P) b o vs 0 w (fun j hj => by rw [show o + 0 + j = o + j by omega]; simp [World.cell?,hw,Array.getElem?_eq_getElem (show o + j < cur.size by omega)])
   (fun j hj => by simp only [World.frozen?,hw]; simp; omega) h1
 rw [r1] at hst
 injection hst with _ hst
 subst hst
 exact ⟨cu,r2,r3,by simpa using r9,r4,r5,r6,r7,r8⟩
theorem zkl {cur cu : Array Value} {o : Nat} {vs : List Value} (hs : cu.size = cur.size) (h : ∀ j,j < cur.size → cu[j]? = if o ≤ j ∧ j < o + vs.length then vs[j - o]? else cur[j]?) (h1 : ∀ v ∈ vs,one v = true)
   (h0 : ∀ (j : Nat) (h : j < cur.size),one cur[j] = true) : ∀ (j : Nat) (h : j < cu.size),one cu[j] = true := by
 intro j hj
 have hj' : j < cur.size := by omega
 have h9 := h j hj'
 rw [Array.getElem?_eq_getElem hj] at h9
 split at h9
 · obtain ⟨hlt,h10⟩ := List.getElem?_eq_some_iff.1 h9.symm
   rw [← h10]; exact h1 _ (List.getElem_mem hlt)
 · rw [Array.getElem?_eq_getElem hj'] at h9
   injection h9 with h9
   rw [h9]; exact h0 j hj'
structure InsOut (w : World) (b : Nat) (cur vur : Array Value) (n i s : Nat) (b2 c2 : Nat) (w' : World) : Prop where
 cells : ∃ cu e2 fz2,w'.heap[b2]? = some (.cells cu e2 fz2) ∧ fz2.1 = fz2.2 ∧ c2 * s ≤ cu.size ∧ (∀ (j : Nat) (h : j < cu.size),one cu[j] = true) ∧
   ∀ j,j < (n + 1) * s → cu[j]? = if j < i * s then cur[j]? else if j < (i + 1) * s then vur[j - i * s]? else cur[j - s]?
 at_ : (b2 = b ∨ w.heap.size ≤ b2) ∧ b2 < w'.heap.size
 le : n + 1 ≤ c2
 top : c2 ≤ maxLen
 os : w'.os = w.os
 tape : w'.tape = w.tape
 output : w'.output = w.output
 size : w.heap.size ≤ w'.heap.size
 same : ∀ k,k < w.heap.size → k ≠ b → w'.heap[k]? = w.heap[k]?
 shape : ∀ c e f,w.heap[b]? = some (.cells c e f) → ∃ c' f',w'.heap[b]? = some (.cells c' e f') ∧ c'.size = c.size
def InsLaw (P : Program) (f : FuncId) (s : Nat) : Prop :=
 ∀ (w : World) (b o n c i vb vc : Nat) (cur vur : Array Value) (e ve : TypeId) (fz vfz : Nat × Nat),w.heap[b]? = some (.cells cur e fz) → fz.1 = fz.2 → w.heap[vb]? = some (.cells vur ve vfz) → vfz.1 = vfz.2 → vb ≠ b →
   (∀ (j : Nat) (h : j < cur.size),one cur[j] = true) → (∀ (j : Nat) (h : j < vur.size),one vur[j] = true) → (0 < c → o = 0) → c * s ≤ cur.size → s ≤ vur.size → n ≤ c → i ≤ n → n ≤ 1000000 → c ≤ maxLen →
   Calls P f #[.slice (some ⟨b,o,none⟩) n c,.int .i64 i,.slice (some ⟨vb,0,none⟩) 1 vc] w fun r w' => ∃ b2 c2,r = .returned (.slice (some ⟨b2,0,none⟩) (n + 1) c2) ∧ InsOut w b cur vur n i s b2 c2 w'
theorem zmw {w : World} {b : Nat} {x : Obj} (h : w.heap[b]? = some x) : b < w.heap.size := by
 rcases Nat.lt_or_ge b w.heap.size with h' | h'
 · exact h'
 · rw [Array.getElem?_eq_none h'] at h; cases h
theorem ins_law {P : Program} {f : FuncId} {s : Nat} {E : TypeId} {z : List Value} {by' : Nat} (hW : InsWalks P f s E z by') (hs : 0 < s) (hz : z.length = s) (hz1 : ∀ v ∈ z,one v = true) (hby : by' ≤ 100000) : InsLaw P f s := by
 intro w b o n c i vb vc cur vur e ve fz vfz hw hf hvw hvf hvb h1 h1v ho hcap hvs hnc hin hn htop
 have hz0 : z ≠ [] := by intro h; subst h; simp at hz; omega
 have hns : n * s ≤ c * s := Nat.mul_le_mul_right _ hnc
 have hins : i * s ≤ n * s := Nat.mul_le_mul_right _ hin
 have hm1 : ∀ x,(x + 1) * s = x * s + s := fun x => Nat.succ_mul x s
 have hfr : ∀ j,w.frozen? ⟨b,j,none⟩ = false := fun j => by simp only [World.frozen?,hw]; simp; omega
 have hvfr : ∀ j,w.frozen? ⟨vb,j,none⟩ = false := fun j => by simp only [World.frozen?,hvw]; simp; omega
 have hcell : ∀ j (h : j < cur.size),w.cell? ⟨b,j,none⟩ = some cur[j] := fun j h => by simp [World.cell?,hw,Array.getElem?_eq_getElem h]
 have hvcell : ∀ j (h : j < vur.size),w.cell? ⟨vb,j,none⟩ = some vur[j] := fun j h => by simp [World.cell?,hvw,Array.getElem?_eq_getElem h]
 have hsome : ∀ j,j < cur.size → (w.cell? ⟨b,j,none⟩).isSome = true := fun j h => by rw [hcell j h]; rfl
 obtain ⟨cs,hcs⟩ : ∃ cs,cs = cur.toList.take (n * s) := ⟨_,rfl⟩
 obtain ⟨vs,hvs'⟩ : ∃ vs,vs = vur.toList.take s := ⟨_,rfl⟩
 have hcl : cs.length = n * s := by rw [hcs,List.length_take,Array.length_toList]; omega
 have hvl : vs.length = s := by rw [hvs',List.length_take,Array.length_toList]; omega
 have hcg : ∀ j,j < n * s → cs[j]? = cur[j]? := fun j hj => by rw [hcs,List.getElem?_take,if_pos hj,Array.getElem?_toList]
 have hvg : ∀ j,j < s → vs[j]? = vur[j]? := fun j hj => by rw [hvs',List.getElem?_take,if_pos hj,Array.getElem?_toList]
 have hcc : ∀ j v,cs[j]? = some v → w.cell? ⟨b,j,none⟩ = some v := fun j v hj => by
   have hlt : j < n * s := by rw [← hcl]; exact (List.getElem?_eq_some_iff.1 hj).1
   rw [hcell j (by omega),← hj,hcg j hlt,Array.getElem?_eq_getElem (by omega)]
 have hvc : ∀ j v,vs[j]? = some v → w.cell? ⟨vb,j,none⟩ = some v := fun j v hj => by
   have hlt : j < s := by rw [← hvl]; exact (List.getElem?_eq_some_iff.1 hj).1
   rw [hvcell j (by omega),← hj,hvg j hlt,Array.getElem?_eq_getElem (by omega)]
 have hc1 : ∀ v ∈ cs,one v = true := fun v hv => by
   rw [hcs] at hv
   obtain ⟨j,hj,rfl⟩ := List.getElem_of_mem (List.mem_of_mem_take hv)
   exact h1 j (by simpa using hj)
 have hv1 : ∀ v ∈ vs,one v = true := fun v hv => by
   rw [hvs'] at hv
   obtain ⟨j,hj,rfl⟩ := List.getElem_of_mem (List.mem_of_mem_take hv)
   exact h1v j (by simpa using hj)
 have hd1 : ∀ v ∈ cs.drop (i * s),one v = true := fun v hv => hc1 v (List.mem_of_mem_drop hv)
 have hdl : (cs.drop (i * s)).length = n * s - i * s := by rw [List.length_drop,hcl]
 have hbw := zmw hw
 have hbig : (n + 1) * by' ≤ 140737488355328 := Nat.le_trans (Nat.mul_le_mul (show n + 1 ≤ 1000001 by omega) hby) (by decide)
 have htop' : c ≤ 9223372036854775807 := by unfold maxLen at htop; omega
 have hzc : ∀ d,∀ v ∈ (Builtin.zeroCells (Value.agg z.toArray).cells d).toList,one v = true := fun d v hv => hz1 v (zhe z hz0 hz1 hv)
 have hzs : ∀ d,(Builtin.zeroCells (Value.agg z.toArray).cells d).size = d * s := fun d => by
   rw [size_zeroCells]
   have : (Value.agg z.toArray).cells.size = z.length := by simp [Value.cells]
   rw [this,hz]
 by_cases hroom : n + 1 ≤ c
 · obtain rfl := ho (by omega)
   have h2 : (n + 1) * s ≤ c * s := Nat.mul_le_mul_right _ hroom
   rw [hm1] at h2
   by_cases hie : i = n
   · subst hie
     refine (hW.endroom b i c vb vc vs w hroom htop' hvl (fun j hj => hsome j (by rw [hm1] at hj; omega)) hfr hvc hv1).mono ?_
     rintro r w' ⟨rfl,rfl⟩
     obtain ⟨cu,q1,q2,q3,q4,q5,q6,q7,q8⟩ := setC P (i * s) vs hw hf (by omega) hv1
     refine ⟨b,c,rfl,⟨cu,e,fz,q1,hf,by omega,zkl q2 q3 hv1 h1,fun j hj => ?_⟩,⟨.inl rfl,by omega⟩,hroom,htop,q6,q7,q8,by omega,fun k _ hk => q4 k hk,fun c' e' f' h => ?_⟩
     · rw [hm1] at hj
       rw [q3 j (by omega),hvl,hm1]
       by_cases h3 : j < i * s
       · rw [if_neg (by omega),if_pos h3]
       · rw [if_pos (by omega),if_neg h3,if_pos hj,hvg _ (by omega)]
     · rw [hw] at h; injection h with h; injection h with g1 g2 g3; subst g1 g2 g3
       exact ⟨cu,fz,q1,q2⟩
   · have hlt : i < n := by omega
     have h3 : (i + 1) * s ≤ n * s := Nat.mul_le_mul_right _ hlt
     rw [hm1] at h3
     have hsh : ∀ {x : Nat} {c e f},w.heap[x]? = some (.cells c e f) → w.shape? x = some (e,c.size) := fun h => by simp [World.shape?,h]
     refine (hW.shift b n c i vb vc cs vs w hlt hroom htop' hvb hcl hvl hcc (fun j hj => hsome j (by rw [hm1] at hj; omega)) hfr hvc hc1 hv1 _ _ _ _ (hsh hvw) (hsh hw) (by omega) (hvfr _) (hvfr _)).mono ?_
     rintro r w' ⟨rfl,rfl⟩
     obtain ⟨cu,q1,q2,q3,q4,q5,q6,q7,q8⟩ := setC P (w := w.drew) ((i + 1) * s) (cs.drop (i * s)) hw hf (by rw [hm1,hdl]; omega) hd1
     obtain ⟨cv,p1,p2,p3,p4,p5,p6,p7,p8⟩ := setC P (i * s) vs q1 hf (by omega) hv1
     refine ⟨b,c,rfl,⟨cv,e,fz,p1,hf,by omega,zkl p2 p3 hv1 (zkl q2 q3 hd1 h1),fun j hj => ?_⟩,⟨.inl rfl,by rw [p5,q5]; exact hbw⟩,hroom,htop,p6.trans q6,p7.trans q7,p8.trans q8,by rw [p5,q5]; exact Nat.le_refl _,fun k _ hk => (p4 k hk).trans (q4 k hk),fun c' e' f' h => ?_⟩
     · rw [hm1] at hj
       rw [p3 j (by omega),hvl,hm1]
       by_cases h3 : j < i * s
       · rw [if_neg (by omega),if_pos h3,q3 j (by omega),hm1,if_neg (by omega)]
       · by_cases h4 : j < i * s + s
         · rw [if_pos (by omega),if_neg h3,if_pos h4,hvg _ (by omega)]
         · rw [if_neg (by omega),if_neg h3,if_neg h4,q3 j (by omega),hm1,hdl,if_pos (by omega),List.getElem?_drop,hcg _ (by omega)]
           congr 1
           omega
     · rw [hw] at h; injection h with h; injection h with g1 g2 g3; subst g1 g2 g3
       exact ⟨cv,fz,p1,by omega⟩
 · have hcn : c = n := by omega
   have hge := grownCap_ge w (n + 1) c E
   have htp := grownCap_le_maxLen w (n + 1) c E (by unfold maxLen; omega)
   generalize hG : grownCap w (n + 1) c E = G at hge htp
   have h2 : (n + 1) * s ≤ G * s := Nat.mul_le_mul_right _ hge
   rw [hm1] at h2
   have hGs : (G - (n + 1)) * s = G * s - (n * s + s) := by rw [Nat.sub_mul,hm1]
   by_cases hie : i = n
   · subst hie
     refine (hW.endgrow b o i c vb vc cs vs w hnc (by omega) hbig hcl hvl (fun j v hj => ?_) hvc hv1).mono ?_
     · have hlt : j < i * s := by rw [← hcl]; exact (List.getElem?_eq_some_iff.1 hj).1
       have : 0 < i := by
         rcases Nat.eq_zero_or_pos i with h | h
         · subst h; simp at hlt
         · exact h
       obtain rfl := ho (by omega)
       rw [Nat.zero_add]; exact hcc j v hj
     rintro r w' ⟨rfl,rfl⟩
     rw [hG]
     refine ⟨w.heap.size,G,rfl,⟨_,E,(0,0),heap_alloc_new w.drew _,rfl,?_,fun j hj => ?_,fun j hj => ?_⟩,⟨.inr (Nat.le_refl _),?_⟩,hge,htp,rfl,rfl,rfl,?_,fun k hk _ => heap_alloc_old w.drew _ hk,fun c' e' f' h => ⟨c',f',(heap_alloc_old w.drew _ hbw).trans h,rfl⟩⟩
     · rw [Array.size_append,hzs,List.size_toArray,List.length_append,hcl,hvl,hGs]; omega
     · have : ∀ v ∈ (cs ++ vs).toArray ++ Builtin.zeroCells (Value.agg z.toArray).cells (G - (i + 1)),one v = true := fun v hv => by
         rcases Array.mem_append.1 hv with h | h
         · rcases List.mem_append.1 (List.mem_toArray.1 h) with h | h
           · exact hc1 v h
           · exact hv1 v h
         · exact hzc _ v (Array.mem_toList_iff.2 h)
       exact this _ (Array.getElem_mem hj)
     · rw [hm1] at hj
       rw [Array.getElem?_append_left (by rw [List.size_toArray,List.length_append,hcl,hvl]; exact hj),List.getElem?_toArray,hm1]
       by_cases h3 : j < i * s
       · rw [if_pos h3,List.getElem?_append_left (by omega),hcg j h3]
       · rw [if_neg h3,if_pos hj,List.getElem?_append_right (by omega),hcl,hvg _ (by omega)]
     · show w.heap.size < (w.heap.push _).size
       simp
     · show w.heap.size ≤ (w.heap.push _).size
       simp
   · have hlt : i < n := by omega
     have h3 : (i + 1) * s ≤ n * s := Nat.mul_le_mul_right _ hlt
     rw [hm1] at h3
     obtain rfl := ho (by omega)
     refine (hW.grow b n c i vb vc cs vs w hlt hnc (by omega) hbig hcl hvl hcc hvc hc1 hv1).mono ?_
     rintro r w' ⟨rfl,rfl⟩
     rw [hG]
     have hni : (n + 1 - i) * s = n * s + s - i * s := by rw [Nat.sub_mul,hm1]
     generalize hrow : (cs.take (i * s)).toArray ++ Builtin.zeroCells (Value.agg z.toArray).cells (n + 1 - i) ++ Builtin.zeroCells (Value.agg z.toArray).cells (G - (n + 1)) = row
     have hrs : row.size = G * s := by
       rw [← hrow,Array.size_append,Array.size_append,hzs,hzs,List.size_toArray,List.length_take,hcl,hGs,hni]
       omega
     have hr1 : ∀ (j : Nat) (h : j < row.size),one row[j] = true := fun j hj => by
       have : ∀ v ∈ row,one v = true := fun v hv => by
         rw [← hrow] at hv
         rcases Array.mem_append.1 hv with h | h
         · rcases Array.mem_append.1 h with h | h
           · exact hc1 v (List.mem_of_mem_take (List.mem_toArray.1 h))
           · exact hzc _ v (Array.mem_toList_iff.2 h)
         · exact hzc _ v (Array.mem_toList_iff.2 h)
       exact this _ (Array.getElem_mem hj)
     have hrl : ∀ j,j < i * s → row[j]? = cur[j]? := fun j hj => by
       rw [← hrow,Array.getElem?_append_left (by rw [Array.size_append,List.size_toArray,List.length_take,hcl]; omega),Array.getElem?_append_left (by rw [List.size_toArray,List.length_take,hcl]; omega),List.getElem?_toArray,List.getElem?_take,if_pos hj,hcg j (by omega)]
     have hA := heap_alloc_new w (.cells row E)
     obtain ⟨cu,q1,q2,q3,q4,q5,q6,q7,q8⟩ := setC P (w := (w.alloc (.cells row E)).drew) (b := w.heap.size) (i * s) vs hA rfl (by omega) hv1
     obtain ⟨cv,p1,p2,p3,p4,p5,p6,p7,p8⟩ := setC P (w := (((w.alloc (.cells row E)).drew).setCells w.heap.size (i * s) vs).drew) (b := w.heap.size) ((i + 1) * s) (cs.drop (i * s)) q1 rfl (by rw [hdl,hm1]; omega) hd1
     have hsz : ((w.alloc (.cells row E)).drew).heap.size = w.heap.size + 1 := by
       show (w.heap.push _).size = _
       simp
     have hp5 : ((((w.alloc (.cells row E)).drew.setCells w.heap.size (i * s) vs).drew).setCells w.heap.size ((i + 1) * s) (cs.drop (i * s))).heap.size = w.heap.size + 1 := p5.trans (q5.trans hsz)
     have hold : ∀ k,k < w.heap.size → ((((w.alloc (.cells row E)).drew.setCells w.heap.size (i * s) vs).drew).setCells w.heap.size ((i + 1) * s) (cs.drop (i * s))).heap[k]? = w.heap[k]? := fun k hk => by
       rw [p4 k (by omega)]
       refine (q4 k (by omega)).trans ?_
       exact heap_alloc_old w _ hk
     refine ⟨w.heap.size,G,rfl,⟨cv,E,(0,0),p1,rfl,by omega,zkl p2 p3 hd1 (zkl q2 q3 hv1 hr1),fun j hj => ?_⟩,⟨.inr (Nat.le_refl _),by rw [hp5]; omega⟩,hge,htp,p6.trans q6,p7.trans q7,p8.trans q8,by rw [hp5]; omega,fun k hk _ => hold k hk,fun c' e' f' h => ⟨c',f',(hold b hbw).trans h,rfl⟩⟩
     rw [hm1] at hj
     rw [p3 j (by omega),hdl,hm1]
     by_cases h4 : j < i * s
     · rw [if_neg (by omega),if_pos h4,q3 j (by omega),if_neg (by omega),hrl j h4]
     · by_cases h5 : j < i * s + s
       · rw [if_neg (by omega),if_neg h4,if_pos h5,q3 j (by omega),if_pos (by omega),hvg _ (by omega)]
       · rw [if_pos (by omega),if_neg h4,if_neg h5,List.getElem?_drop,hcg _ (by omega)]
         congr 1
         omega
theorem del_law {P : Program} {f : FuncId} {s : Nat} {z : List Value} (hW : DelWalk P f s z) (hs : 0 < s) (hz : z.length = s) (hz1 : ∀ v ∈ z,one v = true)
   (w : World) (b n c i : Nat) (cur : Array Value) (e : TypeId) (fz : Nat × Nat) (hw : w.heap[b]? = some (.cells cur e fz)) (hf : fz.1 = fz.2) (h1 : ∀ (j : Nat) (h : j < cur.size),one cur[j] = true)
   (hcap : c * s ≤ cur.size) (hnc : n ≤ c) (hin : i < n) (htop : c ≤ maxLen) :
   Calls P f #[.slice (some ⟨b,0,none⟩) n c,.int .i64 i,.int .i64 ((i : Int) + 1)] w fun r w' => r = .returned (.slice (some ⟨b,0,none⟩) (n - 1) c) ∧
     ∃ cu,w'.heap[b]? = some (.cells cu e fz) ∧ cu.size = cur.size ∧ (∀ (j : Nat) (h : j < cu.size),one cu[j] = true) ∧ (∀ j,j < n * s → cu[j]? = if j < i * s then cur[j]? else if j < (n - 1) * s then cur[j + s]? else z[j - (n - 1) * s]?) ∧
       (∀ k,k ≠ b → w'.heap[k]? = w.heap[k]?) ∧ w'.heap.size = w.heap.size ∧ w'.os = w.os ∧ w'.tape = w.tape ∧ w'.output = w.output := by
 have hz0 : z ≠ [] := by intro h; subst h; simp at hz; omega
 have hns : n * s ≤ c * s := Nat.mul_le_mul_right _ hnc
 have hm1 : ∀ x,(x + 1) * s = x * s + s := fun x => Nat.succ_mul x s
 have his : (i + 1) * s ≤ n * s := Nat.mul_le_mul_right _ hin
 rw [hm1] at his
 have hnn : (n - 1) * s = n * s - s := by rw [Nat.sub_mul,Nat.one_mul]
 have hfr : ∀ j,w.frozen? ⟨b,j,none⟩ = false := fun j => by simp only [World.frozen?,hw]; simp; omega
 have hcell : ∀ j (h : j < cur.size),w.cell? ⟨b,j,none⟩ = some cur[j] := fun j h => by simp [World.cell?,hw,Array.getElem?_eq_getElem h]
 obtain ⟨cs,hcs⟩ : ∃ cs,cs = cur.toList.take (n * s) := ⟨_,rfl⟩
 have hcl : cs.length = n * s := by rw [hcs,List.length_take,Array.length_toList]; omega
 have hcg : ∀ j,j < n * s → cs[j]? = cur[j]? := fun j hj => by rw [hcs,List.getElem?_take,if_pos hj,Array.getElem?_toList]
 have hcc : ∀ j v,cs[j]? = some v → w.cell? ⟨b,j,none⟩ = some v := fun j v hj => by
   have hlt : j < n * s := by rw [← hcl]; exact (List.getElem?_eq_some_iff.1 hj).1
   rw [hcell j (by omega),← hj,hcg j hlt,Array.getElem?_eq_getElem (by omega)]
 have hc1 : ∀ v ∈ cs,one v = true := fun v hv => by
   rw [hcs] at hv
   obtain ⟨j,hj,rfl⟩ := List.getElem_of_mem (List.mem_of_mem_take hv)
   exact h1 j (by simpa using hj)
 have hd1 : ∀ v ∈ cs.drop ((i + 1) * s),one v = true := fun v hv => hc1 v (List.mem_of_mem_drop hv)
 have hdl : (cs.drop ((i + 1) * s)).length = n * s - (i * s + s) := by rw [List.length_drop,hcl,hm1]
 have hzc : ∀ v ∈ (Builtin.zeroCells (Value.agg z.toArray).cells 1).toList,one v = true := fun v hv => hz1 v (zhe z hz0 hz1 hv)
 have hze : (Builtin.zeroCells (Value.agg z.toArray).cells 1).toList = z := by
   have : (Value.agg z.toArray).cells = z.toArray := rfl
   rw [this]
   refine List.ext_getElem (by simp [Builtin.zeroCells]) fun j a b' => ?_
   simp only [Builtin.zeroCells,Array.toList_map,List.getElem_map,Array.getElem_toList,Array.getElem_range]
   have hj : j < z.toArray.size := by simpa using b'
   rw [Nat.mod_eq_of_lt hj,getElem!_pos z.toArray j hj]
   simp
 have hcall := hW w b n c i (i + 1) cs (by omega) hin hnc (by unfold maxLen at htop; omega) hcl hcc (fun j hj => by rw [hcell j (by omega)]; rfl) hfr hc1
 rw [show ((i + 1 : Nat) : Int) = (i : Int) + 1 by omega] at hcall
 refine hcall.mono ?_
 rintro r w' ⟨rfl,rfl⟩
 have e1 : i + (n - (i + 1)) = n - 1 := by omega
 have e2 : n - (n - 1) = 1 := by omega
 rw [e1,e2,hze]
 obtain ⟨cu,q1,q2,q3,q4,q5,q6,q7,q8⟩ := setC P (w := w.drew) (i * s) (cs.drop ((i + 1) * s)) hw hf (by rw [hdl]; omega) hd1
 obtain ⟨cv,p1,p2,p3,p4,p5,p6,p7,p8⟩ := setC P ((n - 1) * s) z q1 hf (by rw [hnn,hz]; omega) hz1
 refine ⟨rfl,cv,p1,by omega,zkl p2 p3 hz1 (zkl q2 q3 hd1 h1),fun j hj => ?_,fun k hk => (p4 k hk).trans (q4 k hk),p5.trans q5,p6.trans q6,p7.trans q7,p8.trans q8⟩
 rw [p3 j (by omega),hz,hnn]
 by_cases h3 : j < n * s - s
 · rw [if_neg (by omega),q3 j (by omega),hdl]
   by_cases h4 : j < i * s
   · rw [if_neg (by omega),if_pos h4]
   · rw [if_pos (by omega),if_neg h4,if_pos h3,List.getElem?_drop,hcg _ (by rw [hm1]; omega),hm1]
     congr 1
     omega
 · rw [if_pos (by omega),if_neg (by omega),if_neg h3]
end Ax
end Go.Proofs.Ytolclgkginfiaaa
namespace Go.Proofs.Ytolclgkginfiaaa
namespace Ax
open Go.RowKit
def insL (xs : List AV) (n i : Nat) (x : AV) : List AV := xs.take i ++ x :: (xs.take n).drop i
def insS (s : Nat) : zar
 | [.ms 0 a 0 n,.w (.int .i64 i),.ms 1 b 0 1],[.g c xs,.g d [x]] => ⟨(a = s ∧ b = s ∧ c = s ∧ d = s) ∧ n ≤ xs.length ∧ n ≤ 1000000 ∧ 0 ≤ i ∧ i ≤ n,.ms 2 s 0 (n + 1),[gone,gone,.g s (insL xs n i.toNat x)]⟩
 | _,_ => zbq
def delL (xs : List AV) (n i : Nat) (z : AV) : List AV := xs.take i ++ ((xs.take n).drop (i + 1) ++ [z])
def delS (s : Nat) (z : AV) : zar
 | [.ms 0 a 0 n,.w (.int .i64 i),.w (.int .i64 q)],[.g c xs] => ⟨(a = s ∧ c = s) ∧ n ≤ xs.length ∧ 0 ≤ i ∧ i < n ∧ q = i + 1,.ms 0 s 0 (n - 1),[.g s (delL xs n i.toNat z)]⟩
 | _,_ => zbq
theorem fl_len {s : Nat} {xs : List AV} (h : ∀ x ∈ xs,x.leaves.length = s) : (xs.flatMap AV.leaves).length = xs.length * s := by
 induction xs with
 | nil => simp
 | cons x r ih => rw [List.flatMap_cons,List.length_append,h x (by simp),ih (fun y hy => h y (by simp [hy])),List.length_cons,Nat.succ_mul]; omega
theorem fl_ins {s : Nat} {xs : List AV} {x : AV} (h : ∀ x ∈ xs,x.leaves.length = s) (hx : x.leaves.length = s) {n i : Nat} (hn : n ≤ xs.length) (hi : i ≤ n) (j : Nat) (hj : j < (n + 1) * s) :
   ((insL xs n i x).flatMap AV.leaves)[j]? = if j < i * s then (xs.flatMap AV.leaves)[j]? else if j < (i + 1) * s then x.leaves[j - i * s]? else (xs.flatMap AV.leaves)[j - s]? := by
 have h1 := fl_len h
 have h2 : i * s ≤ n * s := Nat.mul_le_mul_right _ hi
 have h3 : n * s ≤ xs.length * s := Nat.mul_le_mul_right _ hn
 rw [Nat.succ_mul] at hj ⊢
 unfold insL
 rw [List.flatMap_append,List.flatMap_cons,zax xs i h,zbh (xs.take n) i (fun y hy => h y (List.mem_of_mem_take hy)),zax xs n h]
 have h4 : ((xs.flatMap AV.leaves).take (i * s)).length = i * s := by rw [List.length_take,h1]; omega
 by_cases h5 : j < i * s
 · rw [if_pos h5,List.getElem?_append_left (by omega),List.getElem?_take,if_pos h5]
 · rw [if_neg h5,List.getElem?_append_right (by omega),h4]
   by_cases h6 : j < i * s + s
   · rw [if_pos h6,List.getElem?_append_left (by omega)]
   · rw [if_neg h6,List.getElem?_append_right (by omega),hx,List.getElem?_drop,List.getElem?_take,if_pos (by omega)]
     congr 1
     omega
theorem fl_del {s : Nat} {xs : List AV} {z : AV} (h : ∀ x ∈ xs,x.leaves.length = s) (hz : z.leaves.length = s) {n i : Nat} (hn : n ≤ xs.length) (hi : i < n) (j : Nat) (hj : j < n * s) :
   ((delL xs n i z).flatMap AV.leaves)[j]? = if j < i * s then (xs.flatMap AV.leaves)[j]? else if j < (n - 1) * s then (xs.flatMap AV.leaves)[j + s]? else z.leaves[j - (n - 1) * s]? := by
 have h1 := fl_len h
 have h2 : (i + 1) * s ≤ n * s := Nat.mul_le_mul_right _ hi
 have h3 : n * s ≤ xs.length * s := Nat.mul_le_mul_right _ hn
 have hnn : (n - 1) * s = n * s - s := by rw [Nat.sub_mul,Nat.one_mul]
 rw [Nat.succ_mul] at h2
 unfold delL
 rw [List.flatMap_append,List.flatMap_append,zax xs i h,zbh (xs.take n) (i + 1) (fun y hy => h y (List.mem_of_mem_take hy)),zax xs n h,hnn]
 have h4 : ((xs.flatMap AV.leaves).take (i * s)).length = i * s := by rw [List.length_take,h1]; omega
 have h7 : (((xs.flatMap AV.leaves).take (n * s)).drop ((i + 1) * s)).length = n * s - (i * s + s) := by rw [List.length_drop,List.length_take,h1,Nat.succ_mul]; omega
 by_cases h5 : j < i * s
 · rw [if_pos h5,List.getElem?_append_left (by omega),List.getElem?_take,if_pos h5]
 · rw [if_neg h5,List.getElem?_append_right (by omega),h4]
   by_cases h6 : j < n * s - s
   · rw [if_pos h6,List.getElem?_append_left (by omega),List.getElem?_drop,List.getElem?_take,if_pos (by rw [Nat.succ_mul]; omega),Nat.succ_mul]
     congr 1
     omega
   · rw [if_neg h6,List.getElem?_append_right (by omega),h7]
     simp only [List.flatMap_cons,List.flatMap_nil,List.append_nil]
     congr 1
     omega
theorem insL_len {xs : List AV} {n i : Nat} {x : AV} (hn : n ≤ xs.length) (hi : i ≤ n) : (insL xs n i x).length = n + 1 := by
 unfold insL
 simp only [List.length_append,List.length_take,List.length_cons,List.length_drop]
 omega
theorem delL_len {xs : List AV} {n i : Nat} {x : AV} (hn : n ≤ xs.length) (hi : i < n) : (delL xs n i x).length = n := by
 unfold delL
 simp only [List.length_append,List.length_take,List.length_cons,List.length_drop,List.length_nil]
 omega
theorem mem_insL {xs : List AV} {n i : Nat} {x y : AV} (h : y ∈ insL xs n i x) : y ∈ xs ∨ y = x := by
 unfold insL at h
 rcases List.mem_append.1 h with h | h
 · exact .inl (List.mem_of_mem_take h)
 · rcases List.mem_cons.1 h with h | h
   · exact .inr h
   · exact .inl (List.mem_of_mem_take (List.mem_of_mem_drop h))
theorem mem_delL {xs : List AV} {n i : Nat} {x y : AV} (h : y ∈ delL xs n i x) : y ∈ xs ∨ y = x := by
 unfold delL at h
 rcases List.mem_append.1 h with h | h
 · exact .inl (List.mem_of_mem_take h)
 · rcases List.mem_append.1 h with h | h
   · exact .inl (List.mem_of_mem_take (List.mem_of_mem_drop h))
   · exact .inr (List.mem_singleton.1 h)
def Side (w : World) (loc : Loc) (fx : List AV) (cur : Array Value) : Prop := ∀ (j : Nat) (a : AV) (c : Value),fx[j]? = some a → cur[j]? = some c → a.leaf = true ∧ R w loc a c
theorem side_of {w : World} {loc : Loc} {fx : List AV} {cur : Array Value} (h : ∀ (j : Nat) (h : j < fx.length) (h' : j < cur.size),fx[j].leaf = true ∧ R w loc fx[j] cur[j]) : Side w loc fx cur := by
 intro j a c ha hc
 obtain ⟨h1,rfl⟩ := List.getElem?_eq_some_iff.1 ha
 obtain ⟨h2,rfl⟩ := Array.getElem?_eq_some_iff.1 hc
 exact h j h1 h2
theorem ins_sound {P : Program} {f : FuncId} {s : Nat} (hI : InsLaw P f s) (hs : 1 < s) : zdb P f (insS s) := by
 intro xs pins hp w bad pb vs hpb hnd hbad hpins hlen hxs
 unfold insS at hp ⊢
 split at hp
 · rename_i a n i b1 c ys s9 x
   obtain ⟨⟨rfl,rfl,rfl,rfl⟩,hn,hn6,hi0,hin⟩ := hp
   obtain ⟨i,rfl⟩ : ∃ k : Nat,i = k := ⟨i.toNat,by omega⟩
   obtain ⟨b,vb,rfl⟩ : ∃ b vb,pb = [b,vb] := by
     match pb,hpb with
     | [b,vb],_ => exact ⟨b,vb,rfl⟩
   obtain ⟨v,v1,v2,rfl⟩ : ∃ v v1 v2,vs = [v,v1,v2] := by
     match vs,hlen with
     | [v,v1,v2],_ => exact ⟨v,v1,v2,rfl⟩
   have hv : R w (zaq [b,vb] bad) (.ms 0 s9 0 n) v := hxs 0 (by simp) (by simp)
   have hv1 : R w (zaq [b,vb] bad) (.w (.int .i64 i)) v1 := hxs 1 (by simp) (by simp)
   have hv2 : R w (zaq [b,vb] bad) (.ms 1 s9 0 1) v2 := hxs 2 (by simp) (by simp)
   obtain rfl := hv1.wv
   have hm0 : (zaq [b,vb] bad).m 0 = .here b := rfl
   have hm1 : (zaq [b,vb] bad).m 1 = .here vb := rfl
   have hbv : vb ≠ b := by
     intro h; subst h
     simp at hnd
   cases hv with
   | ms _ _ _ _ _ h =>
   cases hv2 with
   | ms _ _ _ _ _ h' =>
     unfold Owns at h h'
     rw [hm0] at h
     rw [hm1] at h'
     simp only at h h'
     obtain ⟨o,cap,cur,e,fz,rfl,ho,hcur,hsz,hle,hcap⟩ := h
     obtain ⟨o',cap',vur,e',fz',rfl,ho',hvur,hsz',hle',hcap'⟩ := h'
     have ho : 0 < cap → o = 0 := fun h => by have := ho h; omega
     obtain rfl : o' = 0 := by have := ho' (by omega); omega
     obtain ⟨hok,hL⟩ := hpins 0 (by simp) (by simp)
     obtain ⟨hok',hL'⟩ := hpins 1 (by simp) (by simp)
     have hL : Lies w (zaq [b,vb] bad) (.g s9 ys) b := hL
     have hL' : Lies w (zaq [b,vb] bad) (.g s9 [x]) vb := hL'
     obtain ⟨c1,e1,f1,g1,hfz,hone,hfl,hcells⟩ := hL.lies rfl
     rw [hcur] at g1; injection g1 with g1; injection g1 with q1 q2 q3; subst q1 q2 q3
     obtain ⟨c2,e2,f2,g2,hfz',hone',hfl',hcells'⟩ := hL'.lies rfl
     rw [hvur] at g2; injection g2 with g2; injection g2 with q1 q2 q3; subst q1 q2 q3
     have hfz : fz.1 = fz.2 := hfz.elim id (fun h => absurd h.2 (by show ¬ s9 = 1; omega))
     have hfz' : fz'.1 = fz'.2 := hfz'.elim id (fun h => absurd h.2 (by show ¬ s9 = 1; omega))
     have hys : ∀ y ∈ ys,y.leaves.length = s9 := hok.2
     have hx : x.leaves.length = s9 := hok'.2 x (by simp)
     rw [Nat.zero_add] at hsz hsz'
     have hcap1 : 1 * s9 ≤ cap' * s9 := Nat.mul_le_mul_right _ hle'
     have hcall := hI w b o n cap i vb cap' cur vur e e' fz fz' hcur hfz hvur hfz' hbv hone hone' ho hsz (by omega) hle (by omega) hn6 hcap
     refine hcall.mono ?_
     rintro r w' ⟨b2,c2,rfl,hO⟩
     obtain ⟨cu,e2,fz2,r1,r2,r3,r4,r5⟩ := hO.cells
     obtain ⟨hat,hlt⟩ := hO.at_
     have hbs := zmw hcur
     have hvs := zmw hvur
     let loc' : Loc := { m := fun id => match id with | 0 => .dead | 1 => .dead | 2 => .here b2 | _ => .free,bad }
     have hmut : ∀ k,k < w.heap.size → ¬ Mut (zaq [b,vb] bad) k → k ≠ b ∧ k ≠ vb ∧ ¬ Mut loc' k := by
       intro k hk hm
       have h1 : k ≠ b := by rintro rfl; exact hm (.inr ⟨0,rfl⟩)
       have h2 : k ≠ vb := by rintro rfl; exact hm (.inr ⟨1,rfl⟩)
       refine ⟨h1,h2,?_⟩
       rintro (h | ⟨id,h⟩)
       · exact hm (.inl h)
       · match id,h with
         | 2,h =>
           have h : L.here b2 = .here k := h
           injection h with h; subst h
           rcases hat with h | h
           · exact h1 h
           · omega
     have hext : Ext (fun _ => True) w (zaq [b,vb] bad) w' loc' := by
       refine ⟨hO.size,fun id _ h => (h trivial).elim,fun id hid _ => ?_,fun k hk hm => ?_,fun id k _ h => (h trivial).elim,fun k c e f hc => ?_⟩
       · match id,hid with
         | 0,_ => exact .inr rfl
         | 1,_ => exact .inr rfl
         | k + 2,h => exact (h rfl).elim
       · obtain ⟨h1,h2,h3⟩ := hmut k hk hm
         exact ⟨hO.same k hk h1,h3⟩
       · by_cases hk : k = b
         · subst hk; exact hO.shape c e f hc
         · exact ⟨c,f,(hO.same k (zmw hc) hk).trans hc,rfl⟩
     have hS := side_of hcells
     have hS' := side_of hcells'
     have hfx : (Blk.g s9 [x]).flat = x.leaves := by simp [Blk.flat]
     rw [hfx] at hS'
     have hfn : (Blk.g s9 (insL ys n i x)).flat.length = (n + 1) * s9 := by
       show ((insL ys n i x).flatMap AV.leaves).length = _
       rw [fl_len (s := s9),insL_len hn (by omega)]
       intro y hy
       rcases mem_insL hy with h | rfl
       · exact hys y h
       · exact hx
     have hle2 : (n + 1) * s9 ≤ c2 * s9 := Nat.mul_le_mul_right _ hO.le
     refine ⟨_,loc',rfl,?_⟩
     refine ⟨?_,rfl,?_,?_,?_,?_,?_,?_⟩
     · refine .ms _ _ _ _ _ ?_
       unfold Owns
       show ∃ o cap cur e fz,_
       exact ⟨0,c2,cu,e2,fz2,rfl,fun _ => by omega,r1,by rw [Nat.zero_add]; exact r3,hO.le,hO.top⟩
     · intro k hk
       match k,hk with
       | 0,_ => exact .inl ⟨rfl,rfl⟩
       | 1,_ => exact .inl ⟨rfl,rfl⟩
       | 2,_ =>
         refine .inr ⟨?_,by show L.here b2 ≠ _; simp,by show L.here b2 ≠ _; simp⟩
         show BlkR w' loc' 2 (.g s9 (insL ys n i x))
         unfold BlkR
         show _ ∧ _
         refine ⟨⟨by omega,fun y hy => ?_⟩,Lies.mkC ⟨cu,e2,fz2,r1,.inl r2,r4,by rw [hfn]; omega,fun j hj hj' => ?_⟩⟩
         · rcases mem_insL hy with h | rfl
           · exact hys y h
           · exact hx
         · rw [hfn] at hj
           have h1 := fl_ins hys hx hn (show i ≤ n by omega) j hj
           have h2 := r5 j hj
           have h3 : ((insL ys n i x).flatMap AV.leaves)[j]? = some ((Blk.g s9 (insL ys n i x)).flat[j]'(by rw [hfn]; exact hj)) := List.getElem?_eq_getElem _
           have h4 : cu[j]? = some cu[j] := Array.getElem?_eq_getElem hj'
           rw [h3] at h1
           rw [h4] at h2
           have : ∀ A C,some A = (if j < i * s9 then (ys.flatMap AV.leaves)[j]? else if j < (i + 1) * s9 then x.leaves[j - i * s9]? else (ys.flatMap AV.leaves)[j - s9]?) →
               some C = (if j < i * s9 then cur[j]? else if j < (i + 1) * s9 then vur[j - i * s9]? else cur[j - s9]?) → A.leaf = true ∧ R w (zaq [b,vb] bad) A C := by
             intro A C hA hC
             split at hA
             · rename_i h; rw [if_pos h] at hC; exact hS j A C hA.symm hC.symm
             · rename_i h; rw [if_neg h] at hC
               split at hA
               · rename_i h; rw [if_pos h] at hC; exact hS' _ A C hA.symm hC.symm
               · rename_i h; rw [if_neg h] at hC; exact hS _ A C hA.symm hC.symm
           obtain ⟨g1,g2⟩ := this _ _ h1 h2
           exact ⟨g1,g2.ext hext⟩
     · intro k hk
       match k,hk with
       | 0,_ => exact .inr rfl
       | 1,_ => exact .inr rfl
     · intro k b' hk h
       match k,hk,h with
       | 2,_,h =>
         have h : L.here b2 = .here b' := h
         injection h with h; subst h
         refine ⟨?_,hlt⟩
         rcases hat with h | h
         · exact .inr (by simp [h])
         · exact .inl h
       | k + 3,_,h => cases h
     · intro k hk
       match k,hk with
       | k + 3,_ => rfl
     · intro i' j' b' h1 h2
       have h3 : ∀ t,loc'.m t = .here b' → t = 2 := by
         intro t ht
         match t,ht with
         | 2,_ => rfl
       rw [h3 _ h1,h3 _ h2]
     · refine ⟨hO.os,hO.tape,hO.output,hO.size,fun k hk hne => ?_,fun k c' e' f' hE hc' => ?_⟩
       · exact hO.same k hk (fun h => hne (by simp [h]))
       · by_cases hk : k = b
         · subst hk; exact hO.shape c' e' f' hc'
         · exact ⟨c',f',(hO.same k (zmw hc') hk).trans hc',rfl⟩
 · exact hp.elim
theorem del_sound {P : Program} {f : FuncId} {s : Nat} {z : List Value} {za : AV} (hW : DelWalk P f s z) (hs : 1 < s) (hz : z.length = s) (hz1 : ∀ v ∈ z,one v = true) (hzl : za.leaves.length = s)
   (hza : ∀ (j : Nat) (h : j < za.leaves.length) (h' : j < z.length),za.leaves[j].leaf = true ∧ ∀ w loc,R w loc za.leaves[j] z[j]) : zdb P f (delS s za) := by
 intro xs pins hp w bad pb vs hpb hnd hbad hpins hlen hxs
 unfold delS at hp ⊢
 split at hp
 · rename_i a n i q s9 ys
   obtain ⟨⟨rfl,rfl⟩,hn,hi0,hin,rfl⟩ := hp
   obtain ⟨i,rfl⟩ : ∃ k : Nat,i = k := ⟨i.toNat,by omega⟩
   obtain ⟨b,rfl⟩ : ∃ b,pb = [b] := by
     match pb,hpb with
     | [b],_ => exact ⟨b,rfl⟩
   obtain ⟨v,v1,v2,rfl⟩ : ∃ v v1 v2,vs = [v,v1,v2] := by
     match vs,hlen with
     | [v,v1,v2],_ => exact ⟨v,v1,v2,rfl⟩
   have hv : R w (zaq [b] bad) (.ms 0 s9 0 n) v := hxs 0 (by simp) (by simp)
   have hv1 : R w (zaq [b] bad) (.w (.int .i64 i)) v1 := hxs 1 (by simp) (by simp)
   have hv2 : R w (zaq [b] bad) (.w (.int .i64 (i + 1))) v2 := hxs 2 (by simp) (by simp)
   obtain rfl := hv1.wv
   obtain rfl := hv2.wv
   have hm0 : (zaq [b] bad).m 0 = .here b := rfl
   cases hv with
   | ms _ _ _ _ _ h =>
     unfold Owns at h
     rw [hm0] at h
     simp only at h
     obtain ⟨o,cap,cur,e,fz,rfl,ho,hcur,hsz,hle,hcap⟩ := h
     obtain rfl : o = 0 := by have := ho (by omega); omega
     obtain ⟨hok,hL⟩ := hpins 0 (by simp) (by simp)
     have hL : Lies w (zaq [b] bad) (.g s9 ys) b := hL
     obtain ⟨c1,e1,f1,g1,hfz,hone,hfl,hcells⟩ := hL.lies rfl
     rw [hcur] at g1; injection g1 with g1; injection g1 with q1 q2 q3; subst q1 q2 q3
     have hfz : fz.1 = fz.2 := hfz.elim id (fun h => absurd h.2 (by show ¬ s9 = 1; omega))
     have hys : ∀ y ∈ ys,y.leaves.length = s9 := hok.2
     rw [Nat.zero_add] at hsz
     have hcall := del_law hW (by omega) hz hz1 w b n cap i cur e fz hcur hfz hone hsz hle (by omega) hcap
     refine hcall.mono ?_
     rintro r w' ⟨rfl,cu,r1,r2,r4,r5,r6,r7,r8,r9,r10⟩
     have hbs := zmw hcur
     have hext : Ext (fun _ => True) w (zaq [b] bad) w' (zaq [b] bad) := by
       refine ⟨by omega,fun id _ h => (h trivial).elim,fun id hid _ => .inl rfl,fun k hk hm => ⟨r6 k ?_,hm⟩,fun id k _ h => (h trivial).elim,fun k c e f hc => ?_⟩
       · rintro rfl; exact hm (.inr ⟨0,rfl⟩)
       · by_cases hk : k = b
         · subst hk
           rw [hcur] at hc; injection hc with hc; injection hc with g1 g2 g3; subst g1 g2 g3
           exact ⟨cu,fz,r1,r2⟩
         · exact ⟨c,f,(r6 k hk).trans hc,rfl⟩
     have hS := side_of hcells
     have hfn : (Blk.g s9 (delL ys n i za)).flat.length = n * s9 := by
       show ((delL ys n i za).flatMap AV.leaves).length = _
       rw [fl_len (s := s9),delL_len hn (by omega)]
       intro y hy
       rcases mem_delL hy with h | rfl
       · exact hys y h
       · exact hzl
     have hna : n * s9 ≤ cap * s9 := Nat.mul_le_mul_right _ hle
     refine ⟨_,zaq [b] bad,rfl,?_⟩
     refine ⟨?_,rfl,?_,?_,?_,?_,?_,?_⟩
     · refine .ms _ _ _ _ _ ?_
       unfold Owns
       rw [hm0]
       exact ⟨0,cap,cu,e,fz,rfl,fun _ => by omega,r1,by rw [Nat.zero_add,r2]; exact hsz,by omega,hcap⟩
     · intro k hk
       match k,hk with
       | 0,_ =>
         refine .inr ⟨?_,by rw [hm0]; simp,by rw [hm0]; simp⟩
         show BlkR w' (zaq [b] bad) 0 (.g s9 (delL ys n i za))
         unfold BlkR
         rw [hm0]
         refine ⟨⟨by omega,fun y hy => ?_⟩,Lies.mkC ⟨cu,e,fz,r1,.inl hfz,r4,by rw [hfn,r2]; omega,fun j hj hj' => ?_⟩⟩
         · rcases mem_delL hy with h | rfl
           · exact hys y h
           · exact hzl
         · rw [hfn] at hj
           have h1 := fl_del hys hzl hn (show i < n by omega) j hj
           have h2 := r5 j hj
           have h3 : ((delL ys n i za).flatMap AV.leaves)[j]? = some ((Blk.g s9 (delL ys n i za)).flat[j]'(by rw [hfn]; exact hj)) := List.getElem?_eq_getElem _
           have h4 : cu[j]? = some cu[j] := Array.getElem?_eq_getElem hj'
           rw [h3] at h1
           rw [h4] at h2
           have : ∀ A C,some A = (if j < i * s9 then (ys.flatMap AV.leaves)[j]? else if j < (n - 1) * s9 then (ys.flatMap AV.leaves)[j + s9]? else za.leaves[j - (n - 1) * s9]?) →
               some C = (if j < i * s9 then cur[j]? else if j < (n - 1) * s9 then cur[j + s9]? else z[j - (n - 1) * s9]?) → A.leaf = true ∧ R w' (zaq [b] bad) A C := by
             intro A C hA hC
             split at hA
             · rename_i h; rw [if_pos h] at hC
               have := hS j A C hA.symm hC.symm
               exact ⟨this.1,this.2.ext hext⟩
             · rename_i h; rw [if_neg h] at hC
               split at hA
               · rename_i h; rw [if_pos h] at hC
                 have := hS _ A C hA.symm hC.symm
                 exact ⟨this.1,this.2.ext hext⟩
               · rename_i h; rw [if_neg h] at hC
                 obtain ⟨u1,u2⟩ := List.getElem?_eq_some_iff.1 hA.symm
                 obtain ⟨u3,u4⟩ := List.getElem?_eq_some_iff.1 hC.symm
                 have := hza _ u1 u3
                 rw [u2,u4] at this
                 exact ⟨this.1,this.2 _ _⟩
           exact this _ _ h1 h2
     · intro k hk
       match k,hk with
       | 0,_ => exact .inl rfl
     · intro k b' hk h
       match k,hk,h with
       | k + 1,_,h => cases h
     · intro k hk
       match k,hk with
       | k + 1,_ => rfl
     · intro i' j' b' h1 h2
       have h3 : ∀ t,(zaq [b] bad).m t = .here b' → t = 0 := by
         intro t ht
         match t,ht with
         | 0,_ => rfl
       rw [h3 _ h1,h3 _ h2]
     · refine ⟨r8,r9,r10,by omega,fun k hk hne => r6 k (fun h => hne (by simp [h])),fun k c' e' f' hE hc' => ?_⟩
       by_cases hk : k = b
       · subst hk
         rw [hcur] at hc'; injection hc' with hc'; injection hc' with g1 g2 g3; subst g1 g2 g3
         exact ⟨cu,fz,r1,r2⟩
       · exact ⟨c',f',(r6 k hk).trans hc',rfl⟩
 · exact hp.elim
end Ax
end Go.Proofs.Ytolclgkginfiaaa
namespace Go.Proofs.Ytolclgkginfiaaa
open Ax Go.RowKit
theorem inswI20 : InsWalks Try.prog 17 3 46 zI20 32 :=
 ⟨fun b n c i vb vc cs vs w h1 h2 h3 h4 h5 h6 h7 h8 h9 h10 h11 h12 tA tB kA kB h13 h14 h15 h16 h17 => zvw b n c i vb 1 vc cs vs w h1 Nat.one_pos h2 h3 h4 h5 (by omega) h7 h8 h9 h10 h11 h12 tA tB kA kB h13 h14 h15 h16 h17,
  fun b n c vb vc vs w h1 h2 h3 h4 h5 h6 h7 => zqs b n c vb 1 vc vs w Nat.one_pos h1 h2 (by omega) h4 h5 h6 h7,
  fun b o n c vb vc cs vs w h1 h2 h3 h4 h5 h6 h7 h8 => zqt b o n c vb 1 vc cs vs w Nat.one_pos h1 h2 h3 h4 (by omega) h6 h7 h8,
  fun b n c i vb vc cs vs w h1 h2 h3 h4 h5 h6 h7 h8 h9 h10 => ins_growI20 b n c i vb 1 vc cs vs w h1 Nat.one_pos h2 h3 h4 h5 (by omega) h7 h8 h9 h10⟩
theorem ztp : zdb Try.prog 17 (insS 3) := ins_sound (ins_law inswI20 (by decide) rfl ztl (by decide)) (by decide)
def zaI20 : AV := .agg [.str [],.w (.int .i64 0),.w (.bool false)]
theorem ztx : zdb Try.prog 39 (delS 3 zaI20) := by
 refine del_sound (z := zI20) (fun w b n c i q cs h1 h2 h3 h4 h5 h6 h7 h8 h9 => del_atI20 w b n c i q cs h1 h2 h3 h4 h5 h6 h7 h8 h9) (by decide) rfl ztl rfl ?_
 intro j h h'
 have hj : j < 3 := h
 match j,hj with
 | 0,_ => exact ⟨rfl,fun w loc => .str []⟩
 | 1,_ => exact ⟨rfl,fun w loc => .w _ rfl⟩
 | 2,_ => exact ⟨rfl,fun w loc => .w _ rfl⟩
end Go.Proofs.Ytolclgkginfiaaa
