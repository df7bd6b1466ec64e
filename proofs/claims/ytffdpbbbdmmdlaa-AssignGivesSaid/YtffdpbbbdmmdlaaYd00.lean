/- What the proofs of this seat stand on; it asks nothing. -/
import Derived.Test.YtffdpbbbdmmdlaaYa11
import Derived.Test.YtffdpbbbdmmdlaaYb00
import Derived.Test.YtffdpbbbdmmdlaaYc00
set_option linter.unusedSimpArgs false
set_option linter.unusedVariables false
namespace Go.Proofs.Ytffdpbbbdmmdlaa
namespace Ax
open Go.RowKit
def zcs (T : zab) (pl : Plan) : Code → Bool
 | .region id ops draw => match pl id with
  | none => !draw || zkx T ops.toList
  | some p => draw && zgr T ops.toList p
 | .seq a b => zcs T pl a && zcs T pl b
 | .cond _ a b => zcs T pl a && zcs T pl b
 | .block _ c => zcs T pl c
 | .loop c => zcs T pl c
 | _ => true
open Classical in
theorem ydy {P : Program} {w0 : World} {E : Nat → Prop} {T : zab} {S : zae} {pl : Plan} (hm : P.follows .mixedOrders = true) (hT : TOk P T) (hS : Fns P S) {B : Bs} : ∀ (c : Code) (Q : Exit → ASt → Prop) (σ : ASt) (a : Act) (w : World),
  zcs T pl c = true → awpF S T pl c Q σ → Rel w0 E B σ a w → c.wp P (Low w0 E B Q) a w := by
 intro c
 induction c with
 | skip => intro Q σ a w hdr h hr; exact wp_skip ⟨σ,hr,h⟩
 | label l => intro Q σ a w hdr h hr; exact wp_label ⟨σ,hr,h⟩
 | ret => intro Q σ a w hdr h hr; exact wp_ret ⟨σ,hr,h⟩
 | exit id => intro Q σ a w hdr h hr; exact wp_exit ⟨σ,hr,h⟩
 | region id ops draw =>
  intro Q σ a w hdr h hr
  obtain ⟨loc,hb,hr⟩ := hr
  obtain ⟨sl,H,nx⟩ := σ
  have hK : ∀ sl H a w loc,Base w0 B w loc → Rel' w0 E loc ⟨sl,H,nx + 8 * ops.toList.length⟩ a w → regK (nx + 8 * ops.toList.length) Q sl H → Low w0 E B Q .normal a w := fun sl H a w loc h1 h2 h3 => ⟨_,⟨loc,h1,h2⟩,h3⟩
  simp only [zcs] at hdr
  simp only [awpF] at h
  cases hp : pl id with
  | none =>
   simp only [hp] at hdr h
   cases draw with
   | false => exact wp_region_list (zcw hT hS hK ops.toList nx sl H a w loc rfl hb hr h)
   | true => exact zen hT hS hm w0 E ops.toList _ _ B nx sl H a w loc id (by simpa using hdr) hK hb hr h
  | some p =>
   simp only [hp,Bool.and_eq_true] at hdr h
   obtain ⟨hd1,hd2⟩ := hdr
   subst hd1
   exact zjn hT hS hm hd2 hK hb hr h
 | seq x y ihx ihy =>
  intro Q σ a w hdr h hr
  refine wp_seq (wp_mono (ihx _ σ a w (by simp only [zcs,Bool.and_eq_true] at hdr; exact hdr.1) h hr) ?_)
  rintro e a' w' ⟨σ',hr',hq⟩
  cases e with
  | normal => exact ihy Q σ' a' w' (by simp only [zcs,Bool.and_eq_true] at hdr; exact hdr.2) hq hr'
  | _ => exact ⟨σ',hr',hq⟩
 | cond c x y ihx ihy =>
  intro Q σ a w hdr h hr
  simp only [awpF,zhb] at h
  simp only [zcs,Bool.and_eq_true] at hdr
  obtain ⟨loc,hb,hr⟩ := hr
  split at h
  ·rename_i t hc
   have hv := ev_R hr.slots c
   rw [hc] at hv
   have hv := hv.wv
   cases t with
   | true => exact wp_cond_true hv (ihx Q σ a w hdr.1 (h.1 rfl) ⟨loc,hb,hr⟩)
   | false => exact wp_cond_false hv (ihy Q σ a w hdr.2 (h.2 rfl) ⟨loc,hb,hr⟩)
  ·exact h.elim
 | block id c ih =>
  intro Q σ a w hdr h hr
  refine wp_block (wp_mono (ih _ σ a w hdr h hr) ?_)
  rintro e a' w' ⟨σ',hr',hq⟩
  cases e with
  | exit id' =>
   simp only [zgg,Exit.inBlock] at hq ⊢
   split at hq
   ·rename_i he; rw [if_pos he]; exact ⟨σ',hr',hq⟩
   ·rename_i he; rw [if_neg he]; exact ⟨σ',hr',hq⟩
  | _ => exact ⟨σ',hr',hq⟩
 | loop c ih =>
  intro Q σ a w hdr h hr
  obtain ⟨I,⟨n0,σ0,hw0,hI0⟩,hround⟩ := h
  let p : Act → World → Nat → Prop := fun a w n => ∃ σ,Rel w0 E B σ a w ∧ I n σ
  have hleast : ∀ a w,(∃ n,p a w n) → ∃ m,p a w m ∧ ∀ k,p a w k → m ≤ k := fun a w ⟨n,hn⟩ => let ⟨m,h1,_,h3⟩ := ykl n hn; ⟨m,h1,h3⟩
  let μ : Act → World → Nat := fun a w => if h : ∃ n,p a w n then Classical.choose (hleast a w h) else 0
  refine wp_loop (fun a w => ∃ n,p a w n) μ ⟨n0,σ0,hw0 w0 E B a w hr,hI0⟩ ?_
  intro a w hex
  have hμ : μ a w = Classical.choose (hleast a w hex) := dif_pos hex
  obtain ⟨⟨σ1,hr1,hI1⟩,hmin⟩ := Classical.choose_spec (hleast a w hex)
  rw [← hμ] at hI1
  refine wp_mono (ih _ σ1 a w hdr (hround _ σ1 hI1) hr1) ?_
  rintro e a' w' ⟨σ',hr',hq⟩
  cases e with
  | normal =>
   obtain ⟨m,σ2,hlt,hw2,hI2⟩ := hq
   have hp : p a' w' m := ⟨σ2,hw2 w0 E B a' w' hr',hI2⟩
   refine ⟨⟨m,hp⟩,?_⟩
   have hμ' : μ a' w' = Classical.choose (hleast a' w' ⟨m,hp⟩) := dif_pos ⟨m,hp⟩
   have := (Classical.choose_spec (hleast a' w' ⟨m,hp⟩)).2 m hp
   rw [← hμ'] at this
   exact Nat.lt_of_le_of_lt this hlt
  | _ =>
   obtain ⟨σ2,hw2,hq⟩ := hq
   exact ⟨σ2,hw2 w0 E B a' w' hr',hq⟩
 | _ => intro Q σ a w hdr h hr; exact h.elim
theorem ych {P : Program} {T : zab} {S : zae} (hT : TOk P T) (hS : Fns P S) {f : FuncId} {fn : Func} {c : Code} (hf : P.funcs[f]? = some fn) (hb : fn.body = some c) {spec : zaz} {Qp : List AV → List Blk → Exit → ASt → Prop}
  (hqp : ∀ xs pins e σ,Qp xs pins e σ → ∃ σ',Weak σ σ' ∧ Ends T fn.results.toList pins (spec xs pins) e σ')
  (h : ∀ xs pins,(spec xs pins).p → closedB pins = true → pins.length ≤ 4 ∧ ∀ w0 E B a w,Rel w0 E B ⟨xs ++ List.replicate (fn.ntmps - xs.length) .junk,pinHeap 0 pins,4⟩ a w → c.wp P (Low w0 E B (Qp xs pins)) a w) : zbk P f spec := by
 intro xs pins hp hcl w bad pb vs hlen hnd hbad hlies hxl hx
 obtain ⟨hp4,h⟩ := h xs pins hp hcl
 refine calls_of_wp hf hb ?_
 have hrel : Rel w (· ∈ pb) ⟨bad,pb⟩ ⟨xs ++ List.replicate (fn.ntmps - xs.length) .junk,pinHeap 0 pins,4⟩ { tmps := vs.toArray ++ Array.replicate (fn.ntmps - vs.toArray.size) undef,defers := [] } w := by
  refine ⟨zap pb bad,⟨⟨rfl,fun k hk cur e fz hh => ⟨cur,fz,hh,rfl⟩⟩,by simp only; omega,fun k hk => .inr ⟨by simp [zap,List.getElem?_eq_getElem hk],fun cur e fz hh => ⟨cur,fz,hh,rfl⟩⟩⟩,?_⟩
  refine ⟨by simp [hxl],fun t => ?_,?_,?_,?_,rfl,fun id b hl => ?_⟩
  ·simp only
   rw [zcy]
   by_cases ht : t < xs.length
   ·have e1 : (xs ++ List.replicate (fn.ntmps - xs.length) AV.junk).getD t .junk = xs[t] := by simp [List.getElem?_append_left,ht]
    have e2 : (vs.toArray ++ Array.replicate (fn.ntmps - vs.toArray.size) undef).getD t undef = vs[t]'(by omega) := by
     have : t < vs.length := by omega
     simp [Array.getD_eq_getD_getElem?,Array.getElem?_append,this]
    rw [e1,e2]
    exact hx t ht _
   ·have e1 : (xs ++ List.replicate (fn.ntmps - xs.length) AV.junk).getD t .junk = .junk := by
     rw [List.getD_eq_getElem?_getD,List.getElem?_append_right (by omega),List.getElem?_replicate]
     split <;> rfl
    rw [e1]; exact .junk _
  ·intro id b hl
   obtain ⟨j,hj,rfl,rfl⟩ := zca pins 0 id b hl
   have hj' : j < pb.length := by omega
   unfold BlkR
   have : (zap pb bad).m (0 + j) = .here pb[j] := by simp [zap,List.getElem?_eq_getElem hj']
   rw [this]
   exact hlies j hj hj'
  ·refine ⟨rfl,rfl,rfl,Nat.le_refl _,fun _ _ _ => rfl,?_,?_,?_⟩
   ·intro i j b hi hj
    obtain ⟨h1,h2⟩ := zch hi
    obtain ⟨h3,h4⟩ := zch hj
    exact zda hnd (h2.trans h4.symm)
   ·intro i b hi
    obtain ⟨h1,h2⟩ := zch hi
    subst h2
    refine ⟨?_,.inr (List.getElem_mem h1)⟩
    obtain ⟨ob,hh⟩ := zlt (hlies i (by omega) h1).2
    rcases Nat.lt_or_ge pb[i] w.heap.size with h' | h'
    ·exact h'
    ·rw [Array.getElem?_eq_none h'] at hh; cases hh
   ·exact fun b hb => hbad b hb
  ·intro id hid
   simp only at hid
   have : pb[id]? = none := List.getElem?_eq_none (by omega)
   simp [zap,this]
  ·obtain ⟨j,hj,rfl,_⟩ := zca pins 0 id b hl
   simp; omega
 refine wp_mono (h _ _ _ _ w hrel) ?_
 have main : ∀ a w' σ,Rel w (· ∈ pb) ⟨bad,pb⟩ σ a w' → (rvals T σ.H σ.sl fn.results.toList).1 ∧ EndsX pins (spec xs pins) (rone (rvals T σ.H σ.sl fn.results.toList).2) σ →
   a.defers = [] ∧ ∃ v,(results fn a.tmps).run P w' = .ok v w' ∧ ∃ v' loc',Ending.returned v = .returned v' ∧ yjm w bad pb (spec xs pins) v' w' loc' := by
  rintro a w' σ ⟨loc,hB,hr⟩ ⟨hrv,hnodup,hpin,hbl,hren⟩
  obtain ⟨v,hv,hR⟩ := zkh (P := P) (fn := fn) hT hr.heap hr.slots hrv
  refine ⟨hr.defers,v,hv,v,?_⟩
  generalize rone (rvals T σ.H σ.sl fn.results.toList).2 = x at hnodup hpin hbl hren hR
  have hnd' := zew hnodup
  obtain ⟨hids1,hids2⟩ := zfz x.ids (upTo 0 pins)
  obtain ⟨hu1,hu2⟩ := zmn pins 0
  generalize hids : newIds (upTo 0 pins) x.ids = ids at hnodup hpin hbl hren hnd' hids1 hids2
  obtain ⟨hpl,hpc,hpg⟩ := zem hpin
  rw [hbl] at hpl hpc hpg
  obtain ⟨t,rfl⟩ := hids1
  have hm : pins.length ≤ (upTo 0 pins ++ t).length := by simp [hu1]
  have hold : ∀ k,(hk : k < pins.length) → (upTo 0 pins ++ t)[k]'(by omega) = k := by
   intro k hk
   rw [List.getElem_append_left (by omega)]
   have := hu2 k (by omega)
   omega
  -- every one of the names is alive
  have hlive : ∀ (k : Nat) (hk : k < (upTo 0 pins ++ t).length),loc.m (upTo 0 pins ++ t)[k] ≠ .free := by
   intro k hk
   rcases hids2 _ (List.getElem_mem hk) with hi | hi
   ·obtain ⟨j,hj,he⟩ := List.getElem_of_mem hi
    rw [← he,hu2 j hj]
    have hj' : j < pb.length := by omega
    rcases hB.2.2 j hj' with h1 | ⟨h1,_⟩
    ·rw [Nat.zero_add,h1]; simp
    ·rw [Nat.zero_add,h1]; simp
   ·exact zfn x v hR hi
  have hblk : ∀ (k : Nat) (hk : k < (upTo 0 pins ++ t).length) (hk' : k < (spec xs pins).bl.length),BlkR w' loc (upTo 0 pins ++ t)[k] (spec xs pins).bl[k] := by
   intro k hk hk'
   refine hr.heap _ _ ?_
   rw [hpg k hk,List.getElem?_eq_getElem hk']
  have hdead : ∀ (k : Nat) (hk : k < (upTo 0 pins ++ t).length),loc.m (upTo 0 pins ++ t)[k] ≠ .dead := by
   intro k hk e
   have := hblk k hk (by omega)
   unfold BlkR at this
   rw [e] at this
   exact this
  let g : Nat → Nat := gOf (upTo 0 pins ++ t) σ.nx
  have hgo : ∀ k,(hk : k < (upTo 0 pins ++ t).length) → g k = (upTo 0 pins ++ t)[k] := fun k hk => zfa hk
  have hgn : ∀ k,(upTo 0 pins ++ t).length ≤ k → loc.m (g k) = .free := by
   intro k hk
   refine hr.fresh _ ?_
   show σ.nx ≤ gOf _ σ.nx k
   rw [zed hk]; omega
  let loc' : Loc := { m := fun k => loc.m (g k),bad := loc.bad }
  have hlt : ∀ i b,loc'.m i = .here b → i < (upTo 0 pins ++ t).length := by
   intro i b hi
   rcases Nat.lt_or_ge i (upTo 0 pins ++ t).length with h' | h'
   ·exact h'
   ·have : loc'.m i = .free := hgn i h'
    rw [this] at hi; cases hi
  have hinj : ∀ i j b,loc'.m i = .here b → loc'.m j = .here b → i = j := by
   intro i j b hi hj
   have h1 := hlt i b hi
   have h2 := hlt j b hj
   have h3 : g i = g j := hr.env.inj (g i) (g j) b hi hj
   rw [hgo i h1,hgo j h2] at h3
   exact zda hnd' h3
  have hpb : ∀ (k : Nat) (hk : k < pb.length),loc'.m k = .here pb[k] ∧ ∀ cur e fz,w.heap[pb[k]]? = some (.cells cur e fz) → ∃ cur' fz',w'.heap[pb[k]]? = some (.cells cur' e fz') ∧ cur'.size = cur.size := by
   intro k hk
   have hk1 : k < pins.length := by omega
   have e : loc'.m k = loc.m k := by
    show loc.m (g k) = loc.m k
    rw [hgo k (by omega),hold k hk1]
   rcases hB.2.2 k hk with h1 | ⟨h1,h2⟩
   ·have := hdead k (by omega)
    rw [hold k hk1] at this
    exact (this h1).elim
   ·exact ⟨e.trans h1,h2⟩
  refine ⟨loc',rfl,?_⟩
  refine ⟨yed (loc2 := loc') (g := g) (fun _ => rfl) rfl hR _ hren,hB.1.1,?_,fun k hk => (hpb k hk).1,?_,?_,hinj,?_⟩
  ·intro k hk
   have hk' : k < (upTo 0 pins ++ t).length := by omega
   have e : loc'.m k = loc.m (upTo 0 pins ++ t)[k] := by show loc.m (g k) = _; rw [hgo k hk']
   refine ⟨?_,by rw [e]; exact hlive k hk',by rw [e]; exact hdead k hk'⟩
   have hb := hblk k hk' hk
   unfold BlkR at hb ⊢
   rw [e]
   split
   ·trivial
   ·rename_i e'; rw [e'] at hb; exact hb
   ·rename_i e'; rw [e'] at hb; exact hb
   ·rename_i b e'
    rw [e'] at hb
    refine ⟨hb.1,zga hb.2 (zfe hpc k hk) (.inr ?_)⟩
    rintro c _ (h | ⟨i,h⟩)
    ·exact .inl h
    ·exact .inr ⟨g i,h⟩
  ·intro k b hk hkb
   have := hr.env.lies (g k) b hkb
   refine ⟨?_,this.1⟩
   rcases this.2 with h' | h'
   ·exact h'
   ·obtain ⟨j,hj,he⟩ := List.getElem_of_mem h'
    have h1 := (hpb j hj).1
    rw [he] at h1
    have := hinj k j b hkb h1
    omega
  ·intro k hk
   exact hgn k (by omega)
  ·refine ⟨hr.env.os,hr.env.tape,hr.env.output,hr.env.size,hr.env.same,?_⟩
   rintro b cur e fz hb hh
   obtain ⟨j,hj,rfl⟩ := List.getElem_of_mem hb
   exact (hpb j hj).2 cur e fz hh
 rintro e a w' ⟨σ0,hr0,hq0⟩
 obtain ⟨σ,hwk,hq⟩ := hqp xs pins e σ0 hq0
 have hr := hwk _ _ _ _ _ hr0
 cases e with
 | normal => exact main a w' σ hr hq
 | ret => exact main a w' σ hr hq
 | _ => exact hq.elim
theorem yhi {P : Program} {T : zab} {S : zae} {pl : Plan} (hm : P.follows .mixedOrders = true) (hT : TOk P T) (hS : Fns P S) {f : FuncId} {fn : Func} {c : Code} (hf : P.funcs[f]? = some fn) (hb : fn.body = some c) (hd : zcs T pl c = true) {spec : zaz}
  (h : ∀ xs pins,(spec xs pins).p → closedB pins = true → pins.length ≤ 4 ∧ awpF S T pl c (yeb T fn.results.toList pins (spec xs pins)) ⟨xs ++ List.replicate (fn.ntmps - xs.length) .junk,pinHeap 0 pins,4⟩) : zbk P f spec :=
 ych hT hS hf hb (Qp := fun xs pins => yeb T fn.results.toList pins (spec xs pins)) (fun _ _ _ _ h => h) (fun xs pins hp hc => ⟨(h xs pins hp hc).1,fun w0 E B a w hr => ydy hm hT hS c _ _ _ _ hd (h xs pins hp hc).2 hr⟩)
section rules
variable {S : zae} {T : zab} {pl : Plan} {Q : Exit → ASt → Prop} {σ : ASt}
theorem zrl {c : Code} (h : yjo (awpF S T pl c) Q σ) : awpF S T pl (.loop c) Q σ := h
theorem zau {b : Code} : yad S T pl b Q .normal σ = awpF S T pl b Q σ := rfl
variable {ops r : List Oper} {o : Oper} {nm : Nat} {sl : List AV} {H : Heap} {Q' : List AV → Heap → Prop} {pp : List (Nat × Nat)} {acc : List (Nat × List Nat)}
end rules
end Ax
end Go.Proofs.Ytffdpbbbdmmdlaa
namespace Go.Proofs.Ytffdpbbbdmmdlaa
open Ax
theorem yno {k : List UInt8} {l : List (List UInt8)} (hs : srtT l) : ∀ x ∈ l.drop (plT k l),¬ x < k := by
 intro x hx
 have hl : plT k l < l.length := by
  have := List.length_pos_of_mem hx
  rw [List.length_drop] at this; omega
 rw [List.drop_eq_getElem_cons hl] at hx
 have hd : srtT (l.drop (plT k l)) := hs.sublist (List.drop_sublist _ _)
 rw [List.drop_eq_getElem_cons hl] at hd
 have h0 := zzn hl
 rcases List.mem_cons.1 hx with rfl | h
 ·exact h0
 ·have h1 := (List.pairwise_cons.1 hd).1 x h
  intro h2
  exact h0 (List.lt_trans h1 h2)
theorem zxd {k : List UInt8} {l : List (List UInt8)} (hs : srtT l) : thT k l = true ↔ k ∈ l := by
 unfold thT
 constructor
 ·intro h
  simp only [Bool.and_eq_true,decide_eq_true_eq] at h
  obtain ⟨h1,h2⟩ := h
  rw [zxn h1] at h2
  exact h2 ▸ List.getElem_mem h1
 ·intro h
  have h3 : k ∈ l.drop (plT k l) := by
   rw [← List.take_append_drop (plT k l) l] at h
   rcases List.mem_append.1 h with h | h
   ·exact (List.lt_irrefl k (zne k h)).elim
   ·exact h
  have hl : plT k l < l.length := by
   have := List.length_pos_of_mem h3
   rw [List.length_drop] at this; omega
  have hd : srtT (l.drop (plT k l)) := hs.sublist (List.drop_sublist _ _)
  rw [List.drop_eq_getElem_cons hl] at hd h3
  have : l[plT k l] = k := by
   rcases List.mem_cons.1 h3 with h | h
   ·exact h.symm
   ·exact (zzn hl ((List.pairwise_cons.1 hd).1 k h)).elim
  simp only [Bool.and_eq_true,decide_eq_true_eq]
  exact ⟨hl,by rw [zxn hl,this]⟩
end Go.Proofs.Ytffdpbbbdmmdlaa
namespace Go.Proofs.Ytffdpbbbdmmdlaa
open Ax
def insU (l : List (List UInt8)) (v : List UInt8) : List (List UInt8) := if thT v l = true then l else l.take (plT v l) ++ v :: l.drop (plT v l)
def refU (l : List (List UInt8)) : List (List UInt8) := l.foldl insU []
theorem yks {v : List UInt8} {l : List (List UInt8)} (hs : srtT l) : srtT (insU l v) ∧ ∀ x,x ∈ insU l v ↔ x ∈ l ∨ x = v := by
 unfold insU
 by_cases ht : thT v l = true
 ·rw [if_pos ht]
  have hm := (zxd hs).1 ht
  refine ⟨hs,fun x => ⟨fun h => .inl h,fun h => ?_⟩⟩
  rcases h with h | rfl
  ·exact h
  ·exact hm
 ·rw [if_neg ht]
  have hm : ¬ v ∈ l := fun h => ht ((zxd hs).2 h)
  have hd : ∀ x ∈ l.drop (plT v l),v < x := fun x hx => by
   have h1 := yno (k := v) hs x hx
   have h2 : v ≠ x := fun e => hm (e ▸ List.mem_of_mem_drop hx)
   exact zzy (List.not_lt.1 h1) h2
  refine ⟨List.pairwise_append.2 ⟨hs.sublist (List.take_sublist _ _),List.pairwise_cons.2 ⟨hd,hs.sublist (List.drop_sublist _ _)⟩,fun x hx y hy => ?_⟩,fun x => ?_⟩
  ·have h1 := zne x hx
   rcases List.mem_cons.1 hy with rfl | hy
   ·exact h1
   ·exact List.lt_trans h1 (hd y hy)
  ·rw [List.mem_append,List.mem_cons]
   have h3 := List.take_append_drop (plT v l) l
   constructor
   ·rintro (h | rfl | h)
    ·exact .inl (List.mem_of_mem_take h)
    ·exact .inr rfl
    ·exact .inl (List.mem_of_mem_drop h)
   ·rintro (h | rfl)
    ·rw [← h3] at h
     rcases List.mem_append.1 h with h | h
     ·exact .inl h
     ·exact .inr (.inr h)
    ·exact .inr (.inl rfl)
theorem yak : ∀ (l a : List (List UInt8)),srtT a → srtT (l.foldl insU a) ∧ ∀ x,x ∈ l.foldl insU a ↔ x ∈ a ∨ x ∈ l
 | [],a,h => ⟨h,fun x => by simp⟩
 | v :: r,a,h => by
  obtain ⟨h1,h2⟩ := yks (v := v) h
  obtain ⟨h3,h4⟩ := yak r (insU a v) h1
  refine ⟨h3,fun x => ?_⟩
  show x ∈ r.foldl insU (insU a v) ↔ _
  rw [h4 x,h2 x,List.mem_cons]
  constructor
  ·rintro ((h | h) | h)
   ·exact .inl h
   ·exact .inr (.inl h)
   ·exact .inr (.inr h)
  ·rintro (h | h | h)
   ·exact .inl (.inl h)
   ·exact .inl (.inr h)
   ·exact .inr h
theorem yfe (l : List (List UInt8)) : refU l = srtU l := by
 obtain ⟨h1,h2⟩ := yak l [] List.Pairwise.nil
 exact ymd h1 (zef l).1 fun x => by rw [(zef l).2 x]; exact (h2 x).trans (by simp)
theorem yfd (l : List (List UInt8)) (i : Nat) (hi : i < l.length) : refU (l.take (i + 1)) = insU (refU (l.take i)) l[i] := by
 unfold refU
 rw [List.take_succ_eq_append_getElem hi,List.foldl_append]; rfl
theorem ykd (l : List (List UInt8)) : (refU l).length ≤ l.length := by rw [yfe]; exact zcx l
end Go.Proofs.Ytffdpbbbdmmdlaa
namespace Go.Proofs.Ytffdpbbbdmmdlaa
open Ax
theorem yes {w : World} {loc : Ax.Loc} {v : Value} {s : Nat} (h : R w loc (.sg s [] true) v) : R w loc (.sg s [] false) v := by
 cases h with
 | sg _ _ _ a cap cs hd hs hc hl hx hh => exact .sg s [] false a cap cs ⟨hd.le,hd.top,fun h => by cases h⟩ (by simp) hc hl hx hh
def frGS : zaz
 | [.w (.int .i64 a),.w (.int .i64 s),.w (.int .i64 p),.w (.int .i64 m)],[] => ⟨(1 ≤ s ∧ s ≤ 1000000) ∧ (0 ≤ a ∧ a ≤ 1000000) ∧ (0 ≤ m ∧ m ≤ 1000000) ∧ 0 ≤ p ∧ p ≤ 1000000,.si (apI a.toNat s.toNat (min m.toNat (cJ a.toNat s.toNat p.toNat))) false,[]⟩
 | _,_ => zeh
def zno : Plan := fun id => match id with
 | 10 => some [(4,7),(4,8),(4,9),(4,13),(10,13)]
 | _ => none
def zpp : zaz
 | [.sg 1 xs f],[] => ⟨xs.length ≤ 1000000 ∧ ∃ l : List (List UInt8),xs = l.map AV.str,.sg 1 ((srtU (xs.map strB)).map AV.str) false,[]⟩
 | _,_ => zeh
section
set_option maxRecDepth 100000
set_option maxHeartbeats 8000000
theorem zvc : zbk Try.prog 23 frGS := by
 refine zbm (S := noS) (T := ty) mixed ty_ok zki Try.func23 (c := Try.f23.body.getD .skip) (by kernel_rfl) (by kernel_rfl) (fun xs pins hp _ => ?_)
 unfold frGS at hp ⊢
 split at hp
 ·rename_i a s p m _
  obtain ⟨⟨s1,s6⟩,⟨a0,a6⟩,⟨m0,m6⟩,p0,p6⟩ := hp
  obtain ⟨A,rfl⟩ : ∃ A : Nat,a = A := ⟨a.toNat,by omega⟩
  obtain ⟨M,rfl⟩ : ∃ M : Nat,m = M := ⟨m.toNat,by omega⟩
  obtain ⟨S,rfl⟩ : ∃ S : Nat,s = S := ⟨s.toNat,by omega⟩
  obtain ⟨P,rfl⟩ : ∃ P : Nat,p = P := ⟨p.toNat,by omega⟩
  simp only [Int.toNat_natCast]
  have hS : 0 < S := by omega
  have hcj : ∀ j,j < cJ A S P ↔ A + S * j < P := fun j => zhw hS
  obtain ⟨C,hC⟩ : ∃ C,cJ A S P = C := ⟨_,rfl⟩
  rw [hC] at hcj ⊢
  obtain ⟨J,hJ⟩ : ∃ J,min M C = J := ⟨_,rfl⟩
  rw [hJ]
  have hJM : J ≤ M := by omega
  refine ⟨by simp,?_⟩
  unfold Try.f23
  simp only [go_sem,zaa,↓reduceIte,ty,noS]
  refine zas ⟨fun q σ => ∃ (j : Nat),q = J - j ∧ j ≤ J ∧
   σ = ⟨[.w (.int .i64 ((A + S * j : Nat) : Int)),.w (.int .i64 S),.w (.int .i64 P),.w (.int .i64 M),.junk,.junk,.junk,.junk,.sg 1 [] true,.ms 4 1 0 j,.junk,.junk,.junk,.junk,.junk,.junk,.junk,.junk,.junk,.junk,.junk,.junk,.junk,.junk,.junk,.junk,.junk],[(4,.i (apI A S j))],5⟩,?_,?_⟩
  ·refine ⟨_,_,(zgk 9 1 (.i []) rfl (by exact trivial)).trans (zaf [0,1,2,3,20] rfl rfl rfl ?_ ?_),0,rfl,by omega,rfl⟩
   ·simp only [ssT,zai,zaj,setSlot,gOf,AV.ren,renL,Blk.ren,Ax.look,Ax.put,reduceCtorEq,↓reduceIte,Nat.reduceEqDiff,Nat.reduceLT,Nat.reduceAdd,List.length_append,List.length_cons,List.length_nil,Option.some.injEq]; try simp
   ·simp only [ssT,zai,zaj,setSlot,gOf,AV.ren,renL,Blk.ren,Ax.look,Ax.put,reduceCtorEq,↓reduceIte,Nat.reduceEqDiff,Nat.reduceLT,Nat.reduceAdd,List.length_append,List.length_cons,List.length_nil,Option.some.injEq]; try simp [apI]
  ·rintro q σ ⟨j,rfl,hj,rfl⟩
   have hil := zmb A S j
   have hsn := ybu A S j
   have hsj : S * j ≤ 1000000 * 1000000 := Nat.mul_le_mul (by omega) (by omega)
   have hsj1 : S * (j + 1) = S * j + S := Nat.mul_succ S j
   by_cases hjm : j < J
   ·have hap := (hcj j).1 (by omega)
    obtain ⟨X,hX⟩ : ∃ X,A + S * j = X := ⟨_,rfl⟩
    have e7 : (((X : Nat) : Int) + (S : Int) + 9223372036854775808) % 18446744073709551616 - 9223372036854775808 = ((A + S * (j + 1) : Nat) : Int) := by omega
    rw [hX] at hsn hap ⊢
    have d6 : decide ((j : Int) < (M : Int)) = true := decide_eq_true (by omega)
    have d7 : decide (((X : Nat) : Int) < (P : Int)) = true := decide_eq_true (by omega)
    simp only [go_sem,zaa,↓reduceIte,ty,noS,d6,d7,e7,hil,hsn]
    repeat (first | refine And.intro (by omega) ?_ | refine And.intro (by unfold top; omega) ?_)
    refine ⟨J - (j + 1),_,by omega,zaf [0,1,2,3,101] rfl rfl rfl ?_ ?_,j + 1,rfl,by omega,rfl⟩
    ·simp only [ssT,zai,zaj,setSlot,gOf,AV.ren,renL,Blk.ren,Ax.look,Ax.put,reduceCtorEq,↓reduceIte,Nat.reduceEqDiff,Nat.reduceLT,Nat.reduceAdd,List.length_append,List.length_cons,List.length_nil,Option.some.injEq]; try simp
    ·simp only [ssT,zai,zaj,setSlot,gOf,AV.ren,renL,Blk.ren,Ax.look,Ax.put,reduceCtorEq,↓reduceIte,Nat.reduceEqDiff,Nat.reduceLT,Nat.reduceAdd,List.length_append,List.length_cons,List.length_nil,Option.some.injEq]; try simp
   ·obtain rfl : j = J := by omega
    have hdle : decide (0 + j ≤ (apI A S j).length) = true := decide_eq_true (by rw [hil]; omega)
    have htk : List.take j (apI A S j) = apI A S j := List.take_of_length_le (by rw [hil]; omega)
    by_cases hm : j < M
    ·have hap : ¬ A + S * j < P := fun h => by have := (hcj j).2 h; omega
     obtain ⟨X,hX⟩ : ∃ X,A + S * j = X := ⟨_,rfl⟩
     rw [hX] at hap ⊢
     have d6 : decide ((j : Int) < (M : Int)) = true := decide_eq_true (by omega)
     have d7 : decide (((X : Nat) : Int) < (P : Int)) = false := decide_eq_false (by omega)
     simp only [go_sem,zaa,↓reduceIte,ty,noS,d6,d7,hil]
     refine ⟨_,znc 4 9 (apI A S j) rfl (by simp [slot,AV.ids]),?_⟩
     simp only [fiL,fiH,AV.fi,Blk.fi,yho,Nat.reduceBEq,cond_true,cond_false,hdle,Bool.and_true,beq_self_eq_true,Bool.true_and,List.drop_zero,htk]
     simp only [go_sem,zaa,↓reduceIte,ty,noS]
    ·have d6 : decide ((j : Int) < (M : Int)) = false := decide_eq_false (by omega)
     simp only [go_sem,zaa,↓reduceIte,ty,noS,d6,hil]
     refine ⟨_,znc 4 9 (apI A S j) rfl (by simp [slot,AV.ids]),?_⟩
     simp only [fiL,fiH,AV.fi,Blk.fi,yho,Nat.reduceBEq,cond_true,cond_false,hdle,Bool.and_true,beq_self_eq_true,Bool.true_and,List.drop_zero,htk]
     simp only [go_sem,zaa,↓reduceIte,ty,noS]
 ·exact hp.elim
theorem zif : zbk Try.prog 9 zpp := by
 refine yhi (S := noS) (T := ty) (pl := zno) mixed ty_ok zki Try.func9 (c := Try.f9.body.getD .skip) (by kernel_rfl) (by kernel_rfl) (fun xs pins hp _ => ?_)
 unfold zpp at hp ⊢
 split at hp
 ·rename_i xs f _
  obtain ⟨hL,l,rfl⟩ := hp
  rw [List.length_map] at hL
  rw [zba,← yfe]
  refine ⟨by simp,?_⟩
  have hlp : (l.map AV.str).length = l.length := by simp
  unfold Try.f9
  simp only [go_sem,zau,↓reduceIte,lcT,ty,noS,zno,hlp]
  refine zrl ⟨fun m σ => ∃ (i : Nat),m = l.length - i ∧ i ≤ l.length ∧
    σ = ⟨[.sg 1 (l.map .str) f,.junk,.sg 1 [] true,.sg 1 ((refU (l.take i)).map .str) false,.w (.int .i64 i),.junk,.junk,.junk,.junk,.junk,.junk,.junk,.junk,.junk,.junk,.junk,.junk,.junk,.junk,.junk,.junk,.junk,.junk,.junk,.junk,.junk,.junk,.junk,.junk,.junk,.junk,.junk,.junk,.junk,.junk,.junk,.junk,.junk,.junk,.junk,.junk,.junk,.junk,.junk,.junk,.junk,.junk,.junk,.junk,.junk,.junk,.junk,.junk,.junk,.junk,.junk,.junk,.junk,.junk,.junk,.junk],[],4⟩,?_,?_⟩
  ·refine ⟨_,_,(zjy 3 (.sg 1 [] false) (fun w loc v h => by exact yes h)).trans (zaf [0,1,2,3] rfl rfl rfl ?_ ?_),0,rfl,by omega,rfl⟩
   ·simp only [ssT,zai,zaj,setSlot,gOf,AV.ren,renL,Blk.ren,Ax.look,Ax.put,reduceCtorEq,↓reduceIte,Nat.reduceEqDiff,Nat.reduceLT,Nat.reduceAdd,List.length_append,List.length_cons,List.length_nil,Option.some.injEq]; try simp [refU]
   ·simp only [ssT,zai,zaj,setSlot,gOf,AV.ren,renL,Blk.ren,Ax.look,Ax.put,reduceCtorEq,↓reduceIte,Nat.reduceEqDiff,Nat.reduceLT,Nat.reduceAdd,List.length_append,List.length_cons,List.length_nil,Option.some.injEq]; try simp [renL]
  ·rintro m σ ⟨i,rfl,hi,rfl⟩
   have e1 : ((i : Int) + 1 + 9223372036854775808) % 18446744073709551616 - 9223372036854775808 = ((i + 1 : Nat) : Int) := by omega
   by_cases hil : i < l.length
   ·have d1 : decide ((i : Int) < (l.length : Int)) = true := decide_eq_true (by omega)
    have hs1 := zbq l i hil
    have hK1 := yfd l i hil
    have hKl := ykd (l.take i)
    rw [List.length_take] at hKl
    obtain ⟨K,hK⟩ : ∃ K,refU (l.take i) = K := ⟨_,rfl⟩
    obtain ⟨Y,hY⟩ : ∃ Y,l[i] = Y := ⟨_,rfl⟩
    rw [hK] at hKl
    rw [hK,hY] at hK1
    rw [hY] at hs1
    rw [hK]
    have hqm : (K.map AV.str).length = K.length := by simp
    have hpl := ymk Y K
    simp only [go_sem,zau,↓reduceIte,lcT,ty,noS,zno,hlp,d1]
    refine zrl ⟨fun m σ => ∃ (n : Nat),m = plT Y K - n ∧ n ≤ plT Y K ∧
      σ = ⟨[.sg 1 (l.map .str) f,.junk,.sg 1 [] true,.sg 1 (K.map .str) false,.w (.int .i64 i),.w (.int .i64 n),.junk,.junk,.junk,.junk,.junk,.junk,.junk,.junk,.junk,.junk,.junk,.junk,.junk,.junk,.junk,.junk,.junk,.junk,.junk,.junk,.junk,.junk,.junk,.junk,.junk,.junk,.junk,.junk,.junk,.junk,.junk,.junk,.junk,.junk,.junk,.junk,.junk,.junk,.junk,.junk,.junk,.junk,.junk,.junk,.junk,.junk,.junk,.junk,.junk,.junk,.junk,.junk,.junk,.junk,.junk],[],4⟩,?_,?_⟩
    ·refine ⟨_,_,zaf [0,1,2,3] rfl rfl rfl ?_ ?_,0,rfl,by omega,rfl⟩
     ·simp only [ssT,zai,zaj,setSlot,gOf,AV.ren,renL,Blk.ren,Ax.look,Ax.put,reduceCtorEq,↓reduceIte,Nat.reduceEqDiff,Nat.reduceLT,Nat.reduceAdd,List.length_append,List.length_cons,List.length_nil,Option.some.injEq,zbb]; try simp
     ·simp only [ssT,zai,zaj,setSlot,gOf,AV.ren,renL,Blk.ren,Ax.look,Ax.put,reduceCtorEq,↓reduceIte,Nat.reduceEqDiff,Nat.reduceLT,Nat.reduceAdd,List.length_append,List.length_cons,List.length_nil,Option.some.injEq]; try rw [zbb]
    ·rintro m σ ⟨n,rfl,hn,rfl⟩
     have e3 : ((n : Int) + 1 + 9223372036854775808) % 18446744073709551616 - 9223372036854775808 = ((n + 1 : Nat) : Int) := by omega
     by_cases hnl : n < plT Y K
     ·have d5 : decide ((n : Int) < (K.length : Int)) = true := decide_eq_true (by omega)
      have hs2 := zbq K n (by omega)
      have hv := zne (k := Y) (l := K) (K[n]'(by omega)) (List.mem_take_iff_getElem.2 ⟨n,by omega,rfl⟩)
      obtain ⟨X,hX⟩ : ∃ X,K[n]'(by omega) = X := ⟨_,rfl⟩
      rw [hX] at hs2 hv
      have hb : Op.bytesLess X Y = true := by rw [zpw]; exact decide_eq_true hv
      simp only [go_sem,zau,↓reduceIte,lcT,ty,noS,zno,hlp,hqm,d5,hs1,hs2,hb,e3,Int.toNat_natCast]
      repeat (first | refine And.intro (by omega) ?_ | refine And.intro ⟨by omega,by omega⟩ ?_)
      refine ⟨plT Y K - (n + 1),_,by omega,zaf [0,1,2,3] rfl rfl rfl ?_ ?_,n + 1,rfl,by omega,rfl⟩
      ·simp only [ssT,zai,zaj,setSlot,gOf,AV.ren,renL,Blk.ren,Ax.look,Ax.put,reduceCtorEq,↓reduceIte,Nat.reduceEqDiff,Nat.reduceLT,Nat.reduceAdd,List.length_append,List.length_cons,List.length_nil,Option.some.injEq,zbb]
      ·simp only [ssT,zai,zaj,setSlot,gOf,AV.ren,renL,Blk.ren,Ax.look,Ax.put,reduceCtorEq,↓reduceIte,Nat.reduceEqDiff,Nat.reduceLT,Nat.reduceAdd,List.length_append,List.length_cons,List.length_nil,Option.some.injEq]; try rw [zbb]
     ·have hni : n = plT Y K := by omega
      by_cases hnK : n < K.length
      ·have d5 : decide ((n : Int) < (K.length : Int)) = true := decide_eq_true (by omega)
       have hs2 := zbq K n hnK
       have hge : ¬ K[n] < Y := by subst hni; exact zzn hnK
       have hth : thT Y K = decide (K[n] = Y) := by subst hni; exact yej hnK
       obtain ⟨X,hX⟩ : ∃ X,K[n] = X := ⟨_,rfl⟩
       rw [hX] at hs2 hge hth
       have hb : Op.bytesLess X Y = false := by rw [zpw]; exact decide_eq_false hge
       simp only [go_sem,zau,↓reduceIte,lcT,ty,noS,zno,hlp,hqm,d5,hs1,hs2,hb,Int.toNat_natCast]
       repeat (first | refine And.intro (by omega) ?_ | refine And.intro ⟨by omega,by omega⟩ ?_)
       refine ⟨_,Weak.refl _,?_⟩
       by_cases hXY : X = Y
       ·have dq : decide (X = Y) = true := decide_eq_true hXY
        have hins : refU (l.take (i + 1)) = K := by rw [hK1]; unfold insU; rw [if_pos (hth.trans dq)]
        simp only [go_sem,zau,↓reduceIte,lcT,ty,noS,zno,hlp,hqm,d5,hs1,hs2,dq,e1,Int.toNat_natCast]
        repeat (first | refine And.intro (by omega) ?_ | refine And.intro ⟨by omega,by omega⟩ ?_)
        refine ⟨l.length - (i + 1),_,by omega,zaf [0,1,2,3] rfl rfl rfl ?_ ?_,i + 1,rfl,by omega,rfl⟩
        ·simp only [ssT,zai,zaj,setSlot,gOf,AV.ren,renL,Blk.ren,Ax.look,Ax.put,reduceCtorEq,↓reduceIte,Nat.reduceEqDiff,Nat.reduceLT,Nat.reduceAdd,List.length_append,List.length_cons,List.length_nil,Option.some.injEq,zbb,hins]
        ·simp only [ssT,zai,zaj,setSlot,gOf,AV.ren,renL,Blk.ren,Ax.look,Ax.put,reduceCtorEq,↓reduceIte,Nat.reduceEqDiff,Nat.reduceLT,Nat.reduceAdd,List.length_append,List.length_cons,List.length_nil,Option.some.injEq]; try rw [zbb]
       ·have dq : decide (X = Y) = false := decide_eq_false hXY
        have hins : refU (l.take (i + 1)) = K.take n ++ Y :: K.drop n := by rw [hK1]; unfold insU; rw [if_neg (by rw [hth,dq]; simp),← hni]
        have hl1 : (K.take n).length = n := by rw [List.length_take]; omega
        have hl2 : (K.drop n).length = K.length - n := by rw [List.length_drop]
        have htd : List.take (K.length - n) ((K.drop n).map AV.str) = (K.drop n).map AV.str := List.take_of_length_le (by rw [List.length_map,hl2]; omega)
        have htk1 : ∀ n,List.take n (K.map AV.str) = (K.take n).map AV.str := fun n => (List.map_take (f := AV.str) (l := K) (i := n)).symm
        have hdr1 : ∀ n,List.drop n (K.map AV.str) = (K.drop n).map AV.str := fun n => (List.map_drop (f := AV.str) (l := K) (i := n)).symm
        have hap1 : (K.take n).map AV.str ++ [AV.str Y] = (K.take n ++ [Y]).map AV.str := by simp
        have hap2 : (K.take n ++ [Y]).map AV.str ++ (K.drop n).map AV.str = (refU (l.take (i + 1))).map AV.str := by rw [hins]; simp
        have hl4 : (K.take n ++ [Y]).length = n + 1 := by simp; omega
        have hl5 : ((refU (l.take (i + 1))).map AV.str).length = K.length + 1 := by rw [hins,List.length_map]; simp; omega
        have ht : top = 4294967296 := rfl
        obtain ⟨N,hN⟩ : ∃ N,refU (l.take (i + 1)) = N := ⟨_,rfl⟩
        rw [hN] at hap2 hl5
        simp only [go_sem,zau,↓reduceIte,lcT,ty,noS,zno,hlp,hqm,d5,hs1,hs2,dq,htk1,hdr1,htd,ht,hap1,hap2,hl1,hl2,hl4,hl5,e1,zko,zbl,List.length_map,Nat.sub_zero,Int.toNat_natCast]
        repeat (first | refine And.intro (by omega) ?_ | refine And.intro ⟨by omega,by omega⟩ ?_)
        have hdle : decide (0 + (n + 1 + (K.length - n)) ≤ (N.map AV.str).length) = true := decide_eq_true (by rw [hl5]; omega)
        have htkE : List.take (n + 1 + (K.length - n)) (N.map AV.str) = N.map AV.str := List.take_of_length_le (by rw [hl5]; omega)
        refine ⟨l.length - (i + 1),_,by omega,(zhf 364 1 3 _ rfl (zbl _) (by simp [slot,AV.ids])).trans ?_,i + 1,rfl,by omega,rfl⟩
        simp only [fgL,fgH,AV.fg,Blk.fg,zvl,Nat.reduceBEq,cond_true,cond_false,hdle,Bool.and_true,beq_self_eq_true,Bool.true_and,List.drop_zero,htkE]
        refine zaf [0,1,2,3] rfl rfl rfl ?_ ?_
        ·simp only [ssT,zai,zaj,setSlot,gOf,AV.ren,renL,Blk.ren,Ax.look,Ax.put,reduceCtorEq,↓reduceIte,Nat.reduceEqDiff,Nat.reduceLT,Nat.reduceAdd,List.length_append,List.length_cons,List.length_nil,Option.some.injEq,zbb,hN]
        ·simp only [ssT,zai,zaj,setSlot,gOf,AV.ren,renL,Blk.ren,Ax.look,Ax.put,reduceCtorEq,↓reduceIte,Nat.reduceEqDiff,Nat.reduceLT,Nat.reduceAdd,List.length_append,List.length_cons,List.length_nil,Option.some.injEq]
      ·have d5 : decide ((n : Int) < (K.length : Int)) = false := decide_eq_false (by omega)
       have hth : thT Y K = false := zrz (by omega)
       have hins : refU (l.take (i + 1)) = K.take n ++ Y :: K.drop n := by rw [hK1]; unfold insU; rw [if_neg (by rw [hth]; simp),← hni]
       simp only [go_sem,zau,↓reduceIte,lcT,ty,noS,zno,hlp,hqm,d5]
       refine ⟨_,Weak.refl _,?_⟩
       have hl1 : (K.take n).length = n := by rw [List.length_take]; omega
       have hl2 : (K.drop n).length = K.length - n := by rw [List.length_drop]
       have htd : List.take (K.length - n) ((K.drop n).map AV.str) = (K.drop n).map AV.str := List.take_of_length_le (by rw [List.length_map,hl2]; omega)
       have htk1 : ∀ n,List.take n (K.map AV.str) = (K.take n).map AV.str := fun n => (List.map_take (f := AV.str) (l := K) (i := n)).symm
       have hdr1 : ∀ n,List.drop n (K.map AV.str) = (K.drop n).map AV.str := fun n => (List.map_drop (f := AV.str) (l := K) (i := n)).symm
       have hap1 : (K.take n).map AV.str ++ [AV.str Y] = (K.take n ++ [Y]).map AV.str := by simp
       have hap2 : (K.take n ++ [Y]).map AV.str ++ (K.drop n).map AV.str = (refU (l.take (i + 1))).map AV.str := by rw [hins]; simp
       have hl4 : (K.take n ++ [Y]).length = n + 1 := by simp; omega
       have hl5 : ((refU (l.take (i + 1))).map AV.str).length = K.length + 1 := by rw [hins,List.length_map]; simp; omega
       have ht : top = 4294967296 := rfl
       obtain ⟨N,hN⟩ : ∃ N,refU (l.take (i + 1)) = N := ⟨_,rfl⟩
       rw [hN] at hap2 hl5
       simp only [go_sem,zau,↓reduceIte,lcT,ty,noS,zno,hlp,hqm,d5,hs1,htk1,hdr1,htd,ht,hap1,hap2,hl1,hl2,hl4,hl5,e1,zko,zbl,List.length_map,Nat.sub_zero,Int.toNat_natCast]
       repeat (first | refine And.intro (by omega) ?_ | refine And.intro ⟨by omega,by omega⟩ ?_)
       have hdle : decide (0 + (n + 1 + (K.length - n)) ≤ (N.map AV.str).length) = true := decide_eq_true (by rw [hl5]; omega)
       have htkE : List.take (n + 1 + (K.length - n)) (N.map AV.str) = N.map AV.str := List.take_of_length_le (by rw [hl5]; omega)
       refine ⟨l.length - (i + 1),_,by omega,(zhf 364 1 3 _ rfl (zbl _) (by simp [slot,AV.ids])).trans ?_,i + 1,rfl,by omega,rfl⟩
       simp only [fgL,fgH,AV.fg,Blk.fg,zvl,Nat.reduceBEq,cond_true,cond_false,hdle,Bool.and_true,beq_self_eq_true,Bool.true_and,List.drop_zero,htkE]
       refine zaf [0,1,2,3] rfl rfl rfl ?_ ?_
       ·simp only [ssT,zai,zaj,setSlot,gOf,AV.ren,renL,Blk.ren,Ax.look,Ax.put,reduceCtorEq,↓reduceIte,Nat.reduceEqDiff,Nat.reduceLT,Nat.reduceAdd,List.length_append,List.length_cons,List.length_nil,Option.some.injEq,zbb,hN]
       ·simp only [ssT,zai,zaj,setSlot,gOf,AV.ren,renL,Blk.ren,Ax.look,Ax.put,reduceCtorEq,↓reduceIte,Nat.reduceEqDiff,Nat.reduceLT,Nat.reduceAdd,List.length_append,List.length_cons,List.length_nil,Option.some.injEq]
   ·have d1 : decide ((i : Int) < (l.length : Int)) = false := decide_eq_false (by omega)
    obtain rfl : i = l.length := by omega
    have htt : l.take l.length = l := List.take_length
    rw [htt]
    simp only [go_sem,zau,↓reduceIte,lcT,ty,noS,zno,hlp,d1]
    refine ⟨_,Weak.refl _,?_⟩
    simp only [go_sem,zau,↓reduceIte,lcT,ty,noS,zno]
    refine ⟨_,Weak.refl _,?_⟩
    simp only [go_sem,zau,↓reduceIte,lcT,ty,noS]
 ·exact hp.elim
end
end Go.Proofs.Ytffdpbbbdmmdlaa
namespace Go.Proofs.Ytffdpbbbdmmdlaa
open Ax
theorem ztm {P : Program} {f : FuncId} {s s' : zaz} (h : zbk P f s) (hh : ∀ xs pins,(s' xs pins).p → (s xs pins).p ∧ (s xs pins).x = (s' xs pins).x ∧ (s xs pins).bl = (s' xs pins).bl) : zbk P f s' := by
 intro xs pins hp hcl w bad pb vs h1 h2 h3 h4 h5 h6
 obtain ⟨a,b,c⟩ := hh xs pins hp
 refine (h xs pins a hcl w bad pb vs h1 h2 h3 h4 h5 h6).mono ?_
 rintro e w' ⟨v,loc',he,hg⟩
 refine ⟨v,loc',he,?_⟩
 generalize s xs pins = q at b c hg
 generalize s' xs pins = q' at b c
 obtain ⟨p1,x1,b1⟩ := q
 obtain ⟨p2,x2,b2⟩ := q'
 dsimp only at b c
 subst b c
 exact ⟨hg.r,hg.bad,hg.bl,hg.old,hg.new,hg.none,hg.inj,hg.fram⟩
def frS : zaz
 | [.w (.int .i64 a),.w (.int .i64 s),.w (.int .i64 p),.w (.int .i64 m)],[] => ⟨s = 1 ∧ 0 ≤ a ∧ 0 ≤ m ∧ a + m ≤ p ∧ p ≤ 1000000,.si (iotI a.toNat m.toNat) false,[]⟩
 | _,_ => zeh
theorem ykx : zbk Try.prog 23 frS := by
 refine ztm zvc fun xs pins hp => ?_
 unfold frS at hp ⊢
 split at hp
 ·rename_i a s p m
  obtain ⟨rfl,a0,m0,hap,hp6⟩ := hp
  refine ⟨⟨by omega,by omega,by omega,by omega⟩,?_,rfl⟩
  show AV.si (apI a.toNat (1 : Int).toNat (min m.toNat (cJ a.toNat (1 : Int).toNat p.toNat))) false = .si (iotI a.toNat m.toNat) false
  have h1 : (1 : Int).toNat = 1 := rfl
  have h2 : m.toNat ≤ cJ a.toNat 1 p.toNat := by
   refine Nat.not_lt.1 fun h => ?_
   have h3 := (zhw (a := a.toNat) (s := 1) (p := p.toNat) (j := cJ a.toNat 1 p.toNat) (by decide)).2 (by omega)
   exact Nat.lt_irrefl _ h3
  rw [h1,Nat.min_eq_left h2,zza]
 ·exact hp.elim
def frTS : zaz
 | [.w (.int .i64 a),.w (.int .i64 s),.w (.int .i64 p),.w (.int .i64 m)],[] => ⟨m = p ∧ (1 ≤ s ∧ s ≤ 1000000) ∧ (0 ≤ a ∧ a ≤ 1000000) ∧ 0 ≤ p ∧ p ≤ 1000000,.si (apI a.toNat s.toNat (cJ a.toNat s.toNat p.toNat)) false,[]⟩
 | _,_ => zeh
theorem yha : zbk Try.prog 23 frTS := by
 refine ztm zvc fun xs pins hp => ?_
 unfold frTS at hp ⊢
 split at hp
 ·rename_i a s p m
  obtain ⟨rfl,hs,ha,p0,p6⟩ := hp
  refine ⟨⟨hs,ha,⟨p0,p6⟩,p0,p6⟩,?_,rfl⟩
  show AV.si (apI a.toNat s.toNat (min m.toNat (cJ a.toNat s.toNat m.toNat))) false = .si (apI a.toNat s.toNat (cJ a.toNat s.toNat m.toNat)) false
  have hs0 : 0 < s.toNat := by omega
  have h2 : cJ a.toNat s.toNat m.toNat ≤ m.toNat := by
   refine Nat.not_lt.1 fun h => ?_
   have h3 := (zhw (a := a.toNat) (s := s.toNat) (p := m.toNat) (j := m.toNat) hs0).1 h
   have h4 : 1 * m.toNat ≤ s.toNat * m.toNat := Nat.mul_le_mul_right _ hs0
   omega
  rw [Nat.min_eq_right h2]
 ·exact hp.elim
def zww (f : FuncId) : Option zaz :=
 match f with
 | 9 => some zpp
 | 23 => some frS
 | _ => none
theorem ylz : Fns Try.prog zww := by
 intro f s h
 unfold zww at h
 split at h
 ·injection h with h; subst h; exact ⟨⟨_,Try.func9,by kernel_rfl,by kernel_rfl⟩,zif⟩
 ·injection h with h; subst h; exact ⟨⟨_,Try.func23,by kernel_rfl,by kernel_rfl⟩,ykx⟩
 ·cases h
def zzb (f : FuncId) : Option zaz :=
 match f with
 | 9 => some zpp
 | 23 => some frTS
 | _ => none
theorem yly : Fns Try.prog zzb := by
 intro f s h
 unfold zzb at h
 split at h
 ·injection h with h; subst h; exact ⟨⟨_,Try.func9,by kernel_rfl,by kernel_rfl⟩,zif⟩
 ·injection h with h; subst h; exact ⟨⟨_,Try.func23,by kernel_rfl,by kernel_rfl⟩,yha⟩
 ·cases h
def rtnS : zaz
 | [.sg 1 xs f,.w (.int .i64 p)],[] => ⟨xs.length ≤ 1000000 ∧ ∃ l : List (List UInt8),xs = l.map AV.str,.sg 1 ((tnL (srtU (xs.map strB)).length (clpN p)).map siA) false,[]⟩
 | _,_ => zeh
section
set_option maxRecDepth 100000
set_option maxHeartbeats 8000000
theorem zqh : zbk Try.prog 12 rgGS := by
 refine zbm (S := zww) (T := ty) mixed ty_ok ylz Try.func12 (c := Try.f12.body.getD .skip) (by kernel_rfl) (by kernel_rfl) (fun xs pins hp _ => ?_)
 unfold rgGS at hp ⊢
 split at hp
 ·rename_i xs f p _
  obtain ⟨hL,l0,rfl⟩ := hp
  rw [List.length_map] at hL
  refine ⟨by simp,?_⟩
  have hex2 : ∃ es : List (List UInt8),l0.map AV.str = es.map AV.str := ⟨l0,rfl⟩
  have hst0 := zba l0
  have hl0 : (l0.map AV.str).length = l0.length := by simp
  have hUl := zcx l0
  unfold rgF
  rw [hst0]
  obtain ⟨l,hl⟩ : ∃ l,srtU l0 = l := ⟨_,rfl⟩
  rw [hl] at hUl ⊢
  have hlp : (l.map AV.str).length = l.length := by simp
  have hPl := zgt p
  obtain ⟨P,hP⟩ : ∃ P,clpN p = P := ⟨_,rfl⟩
  have hcl : (if (if 1000 < p then 1000 else p) > 0 then (if 1000 < p then 1000 else p) else 0) = (P : Int) := by
   rw [← hP]; unfold clpN
   split <;> split <;> omega
  rw [hP] at hPl ⊢
  obtain ⟨n,hn⟩ : ∃ n,l.length = n := ⟨_,rfl⟩
  rw [hn] at hUl hlp ⊢
  have hL1 : n ≤ 1000000 := by omega
  have hql := Nat.div_le_self P n
  have hMv : ∀ k,zcu P n k = P / n + (if k < P % n then 1 else 0) := fun k => rfl
  have hq : Int.tdiv (P : Int) (n : Int) = ((P / n : Nat) : Int) := rfl
  have hr : Int.tmod (P : Int) (n : Int) = ((P % n : Nat) : Int) := rfl
  obtain ⟨Q,hQ⟩ : ∃ Q,P / n = Q := ⟨_,rfl⟩
  obtain ⟨R,hR⟩ : ∃ R,P % n = R := ⟨_,rfl⟩
  rw [hQ] at hql hq
  rw [hR] at hr
  simp only [hQ,hR] at hMv
  have e4 : ((Q : Int) + 9223372036854775808) % 18446744073709551616 - 9223372036854775808 = (Q : Int) := by omega
  unfold Try.f12
  simp only [go_sem,zaa,↓reduceIte,ty,zww,zpp,hlp,hl0,hL,hex2,hst0,hl,hcl,zbh]
  refine zas ⟨fun m σ => ∃ (k : Nat),m = n - k ∧ k ≤ n ∧
    σ = ⟨[.sg 1 (l0.map .str) f,.w (.int .i64 p),.junk,.junk,.sg 1 [] true,.w (.int .i64 n),.w (.int .i64 P),.ms 4 1 0 k,.w (.int .i64 (rgK P n k).2),.w (.int .i64 k),.junk,.junk,.junk,.junk,.junk,.junk,.junk,.junk,.junk,.junk,.junk,.junk,.junk,.junk,.junk,.junk,.junk,.junk,.junk,.junk,.junk,.junk,.junk,.junk,.junk,.junk,.junk,.junk,.junk,.junk,.junk,.junk,.junk],[(4,.g 1 ((rgK P n k).1.map siA))],5⟩,?_,?_⟩
  ·refine ⟨_,_,(zgk 7 1 (.g 1 []) ⟨by decide,rfl⟩ (by exact trivial)).trans (zaf [0,1,2,3,100] rfl rfl rfl ?_ ?_),0,rfl,by omega,rfl⟩
   ·simp only [ssT,zai,zaj,setSlot,gOf,AV.ren,renL,Blk.ren,Ax.look,Ax.put,reduceCtorEq,↓reduceIte,Nat.reduceEqDiff,Nat.reduceLT,Nat.reduceAdd,List.length_append,List.length_cons,List.length_nil,Option.some.injEq]; try simp [rgK]
   ·simp only [ssT,zai,zaj,setSlot,gOf,AV.ren,renL,Blk.ren,Ax.look,Ax.put,reduceCtorEq,↓reduceIte,Nat.reduceEqDiff,Nat.reduceLT,Nat.reduceAdd,List.length_append,List.length_cons,List.length_nil,Option.some.injEq]; try simp [rgK,renL]
  ·rintro m σ ⟨k,rfl,hk,rfl⟩
   have e1 : ((k : Int) + 1 + 9223372036854775808) % 18446744073709551616 - 9223372036854775808 = ((k + 1 : Nat) : Int) := by omega
   have hrn := zhl P n k
   have hml := zmt P n k
   by_cases hkl : k < n
   ·have d3 : decide ((k : Int) < (n : Int)) = true := decide_eq_true (by omega)
    have hn0 : ((n : Int) = 0) = False := eq_false (by omega)
    have hnn : ((n : Int) ≠ 0) = True := eq_true (by omega)
    have hall := zzq P n (by omega)
    have hnx : (rgK P n (k + 1)) = ((rgK P n k).1 ++ [iotI (rgK P n k).2 (zcu P n k)],(rgK P n k).2 + zcu P n k) := rfl
    have hsl := hall (k + 1) (by omega)
    rw [hnx] at hsl
    obtain ⟨L,s,hLs⟩ : ∃ L s,rgK P n k = (L,s) := ⟨_,_,rfl⟩
    rw [hLs] at hrn hnx hsl ⊢
    simp only at hrn hnx hsl ⊢
    obtain ⟨M,hM⟩ : ∃ M,zcu P n k = M := ⟨_,rfl⟩
    rw [hM] at hml hnx hsl
    have hMk := hMv k
    rw [hM] at hMk
    have hrl2 : (L.map siA).length = k := by simp [hrn]
    have c1 : ((0 : Int) ≤ ((s : Nat) : Int)) = True := eq_true (by omega)
    have c2 : ((0 : Int) ≤ ((M : Nat) : Int)) = True := eq_true (by omega)
    have c3 : (((s : Nat) : Int) + ((M : Nat) : Int) ≤ (P : Int)) = True := eq_true (by omega)
    have c4 : ((P : Int) ≤ 1000000) = True := eq_true (by omega)
    have e8 : ((s : Int) + (M : Int) + 9223372036854775808) % 18446744073709551616 - 9223372036854775808 = ((s + M : Nat) : Int) := by omega
    have hap : L.map siA ++ [AV.si (iotI s M) false] = (L ++ [iotI s M]).map siA := by simp [siA]
    by_cases hkR : k < R
    ·rw [if_pos hkR] at hMk
     have d4 : decide ((k : Int) < (R : Int)) = true := decide_eq_true (by omega)
     have e5 : ((Q : Int) + 1 + 9223372036854775808) % 18446744073709551616 - 9223372036854775808 = (M : Int) := by omega
     simp only [go_sem,zaa,↓reduceIte,ty,zww,frS,hn0,hnn,hq,hr,e1,e4,e5,e8,d3,d4,c1,c2,c3,c4,hrl2,hap,zde,Int.toNat_natCast]
     refine ⟨by unfold top; omega,n - (k + 1),_,by omega,zaf [0,1,2,3,173] rfl rfl rfl ?_ ?_,k + 1,rfl,by omega,rfl⟩
     ·simp only [ssT,zai,zaj,setSlot,gOf,AV.ren,renL,Blk.ren,Ax.look,Ax.put,reduceCtorEq,↓reduceIte,Nat.reduceEqDiff,Nat.reduceLT,Nat.reduceAdd,List.length_append,List.length_cons,List.length_nil,Option.some.injEq,hnx]; try simp
     ·simp only [ssT,zai,zaj,setSlot,gOf,AV.ren,renL,Blk.ren,Ax.look,Ax.put,reduceCtorEq,↓reduceIte,Nat.reduceEqDiff,Nat.reduceLT,Nat.reduceAdd,List.length_append,List.length_cons,List.length_nil,Option.some.injEq,hnx,zbi]; try simp [zbi]
    ·rw [if_neg hkR,Nat.add_zero] at hMk
     subst hMk
     have d4 : decide ((k : Int) < (R : Int)) = false := decide_eq_false (by omega)
     simp only [go_sem,zaa,↓reduceIte,ty,zww,frS,hn0,hnn,hq,hr,e1,e4,e8,d3,d4,c1,c2,c3,c4,hrl2,hap,zde,Int.toNat_natCast]
     refine ⟨by unfold top; omega,n - (k + 1),_,by omega,zaf [0,1,2,3,149] rfl rfl rfl ?_ ?_,k + 1,rfl,by omega,rfl⟩
     ·simp only [ssT,zai,zaj,setSlot,gOf,AV.ren,renL,Blk.ren,Ax.look,Ax.put,reduceCtorEq,↓reduceIte,Nat.reduceEqDiff,Nat.reduceLT,Nat.reduceAdd,List.length_append,List.length_cons,List.length_nil,Option.some.injEq,hnx]; try simp
     ·simp only [ssT,zai,zaj,setSlot,gOf,AV.ren,renL,Blk.ren,Ax.look,Ax.put,reduceCtorEq,↓reduceIte,Nat.reduceEqDiff,Nat.reduceLT,Nat.reduceAdd,List.length_append,List.length_cons,List.length_nil,Option.some.injEq,hnx,zbi]; try simp [zbi]
   ·have d3 : decide ((k : Int) < (n : Int)) = false := decide_eq_false (by omega)
    obtain rfl : k = n := by omega
    have hrl2 : ((rgK P k k).1.map siA).length = k := by simp [hrn]
    simp only [go_sem,zaa,↓reduceIte,ty,zww,d3]
    have hdle : decide (0 + k ≤ ((rgK P k k).1.map siA).length) = true := decide_eq_true (by rw [hrl2]; omega)
    have htk : List.take k ((rgK P k k).1.map siA) = (rgK P k k).1.map siA := List.take_of_length_le (by rw [hrl2]; omega)
    refine ⟨_,zhf 4 1 7 ((rgK P k k).1.map siA) rfl (zkz _) (by simp [slot,AV.ids]),?_⟩
    simp only [fgL,fgH,AV.fg,Blk.fg,Nat.reduceBEq,cond_true,cond_false,hdle,Bool.and_true,beq_self_eq_true,Bool.true_and,List.drop_zero,htk]
    simp only [go_sem,zaa,↓reduceIte,ty,zww]
 ·exact hp.elim
theorem yey : zbk Try.prog 14 rtnS := by
 refine zbm (S := zzb) (T := ty) mixed ty_ok yly Try.func14 (c := Try.f14.body.getD .skip) (by kernel_rfl) (by kernel_rfl) (fun xs pins hp _ => ?_)
 unfold rtnS at hp ⊢
 split at hp
 ·rename_i xs f p _
  obtain ⟨hL,l0,rfl⟩ := hp
  rw [List.length_map] at hL
  refine ⟨by simp,?_⟩
  have hex2 : ∃ es : List (List UInt8),l0.map AV.str = es.map AV.str := ⟨l0,rfl⟩
  have hst0 := zba l0
  have hl0 : (l0.map AV.str).length = l0.length := by simp
  have hUl := zcx l0
  unfold tnL
  rw [hst0]
  obtain ⟨l,hl⟩ : ∃ l,srtU l0 = l := ⟨_,rfl⟩
  rw [hl] at hUl ⊢
  have hlp : (l.map AV.str).length = l.length := by simp
  have hPl := zgt p
  obtain ⟨P,hP⟩ : ∃ P,clpN p = P := ⟨_,rfl⟩
  have hcl : (if (if 1000 < p then 1000 else p) > 0 then (if 1000 < p then 1000 else p) else 0) = (P : Int) := by
   rw [← hP]; unfold clpN
   split <;> split <;> omega
  rw [hP] at hPl ⊢
  obtain ⟨n,hn⟩ : ∃ n,l.length = n := ⟨_,rfl⟩
  rw [hn] at hUl hlp ⊢
  have hL1 : n ≤ 1000000 := by omega
  unfold Try.f14
  simp only [go_sem,zaa,↓reduceIte,ty,zzb,zpp,hlp,hl0,hL,hex2,hst0,hl,hcl,zbh]
  refine zas ⟨fun m σ => ∃ (k : Nat),m = n - k ∧ k ≤ n ∧
    σ = ⟨[.sg 1 (l0.map .str) f,.w (.int .i64 p),.junk,.junk,.sg 1 [] true,.w (.int .i64 n),.w (.int .i64 P),.ms 4 1 0 k,.w (.int .i64 k),.junk,.junk,.junk,.junk,.junk,.junk,.junk,.junk,.junk,.junk,.junk,.junk,.junk,.junk,.junk,.junk,.junk,.junk,.junk,.junk],[(4,.g 1 (((List.range k).map (tnK n P)).map siA))],5⟩,?_,?_⟩
  ·refine ⟨_,_,(zgk 7 1 (.g 1 []) ⟨by decide,rfl⟩ (by exact trivial)).trans (zaf [0,1,2,3,92] rfl rfl rfl ?_ ?_),0,rfl,by omega,rfl⟩
   ·simp only [ssT,zai,zaj,setSlot,gOf,AV.ren,renL,Blk.ren,Ax.look,Ax.put,reduceCtorEq,↓reduceIte,Nat.reduceEqDiff,Nat.reduceLT,Nat.reduceAdd,List.length_append,List.length_cons,List.length_nil,Option.some.injEq]; try simp
   ·simp only [ssT,zai,zaj,setSlot,gOf,AV.ren,renL,Blk.ren,Ax.look,Ax.put,reduceCtorEq,↓reduceIte,Nat.reduceEqDiff,Nat.reduceLT,Nat.reduceAdd,List.length_append,List.length_cons,List.length_nil,Option.some.injEq]; try simp [renL]
  ·rintro m σ ⟨k,rfl,hk,rfl⟩
   have e1 : ((k : Int) + 1 + 9223372036854775808) % 18446744073709551616 - 9223372036854775808 = ((k + 1 : Nat) : Int) := by omega
   obtain ⟨L,hLe⟩ : ∃ L,(List.range k).map (tnK n P) = L := ⟨_,rfl⟩
   have hrn : L.length = k := by rw [← hLe]; simp
   have hrl2 : (L.map siA).length = k := by simp [hrn]
   rw [hLe]
   by_cases hkl : k < n
   ·have d3 : decide ((k : Int) < (n : Int)) = true := decide_eq_true (by omega)
    have hrow := zzg n (by omega) P k hkl
    have hnx : (List.range (k + 1)).map (tnK n P) = L ++ [tnK n P k] := by rw [List.range_succ,List.map_append,hLe]; rfl
    obtain ⟨N,hN⟩ : ∃ N,(List.range (k + 1)).map (tnK n P) = N := ⟨_,rfl⟩
    have hap : L.map siA ++ [AV.si (apI k n (cJ k n P)) false] = N.map siA := by rw [← hN,hnx,hrow]; simp [siA]
    have c1 : ((1 : Int) ≤ ((n : Nat) : Int)) = True := eq_true (by omega)
    have c2 : (((n : Nat) : Int) ≤ 1000000) = True := eq_true (by omega)
    have c3 : ((0 : Int) ≤ ((k : Nat) : Int)) = True := eq_true (by omega)
    have c4 : (((k : Nat) : Int) ≤ 1000000) = True := eq_true (by omega)
    have c5 : ((0 : Int) ≤ ((P : Nat) : Int)) = True := eq_true (by omega)
    have c6 : ((P : Int) ≤ 1000000) = True := eq_true (by omega)
    simp only [go_sem,zaa,↓reduceIte,ty,zzb,frTS,e1,d3,c1,c2,c3,c4,c5,c6,hrl2,hap,zde,Int.toNat_natCast]
    refine ⟨by unfold top; omega,n - (k + 1),_,by omega,zaf [0,1,2,3,85] rfl rfl rfl ?_ ?_,k + 1,rfl,by omega,rfl⟩
    ·simp only [ssT,zai,zaj,setSlot,gOf,AV.ren,renL,Blk.ren,Ax.look,Ax.put,reduceCtorEq,↓reduceIte,Nat.reduceEqDiff,Nat.reduceLT,Nat.reduceAdd,List.length_append,List.length_cons,List.length_nil,Option.some.injEq,hN]; try simp
    ·simp only [ssT,zai,zaj,setSlot,gOf,AV.ren,renL,Blk.ren,Ax.look,Ax.put,reduceCtorEq,↓reduceIte,Nat.reduceEqDiff,Nat.reduceLT,Nat.reduceAdd,List.length_append,List.length_cons,List.length_nil,Option.some.injEq,zbi,hN]; try simp [zbi]
   ·have d3 : decide ((k : Int) < (n : Int)) = false := decide_eq_false (by omega)
    obtain rfl : k = n := by omega
    rw [hLe]
    simp only [go_sem,zaa,↓reduceIte,ty,zzb,d3]
    have hdle : decide (0 + k ≤ (L.map siA).length) = true := decide_eq_true (by rw [hrl2]; omega)
    have htk : List.take k (L.map siA) = L.map siA := List.take_of_length_le (by rw [hrl2]; omega)
    refine ⟨_,zhf 4 1 7 (L.map siA) rfl (zkz _) (by simp [slot,AV.ids]),?_⟩
    simp only [fgL,fgH,AV.fg,Blk.fg,Nat.reduceBEq,cond_true,cond_false,hdle,Bool.and_true,beq_self_eq_true,Bool.true_and,List.drop_zero,htk]
    simp only [go_sem,zaa,↓reduceIte,ty,zzb]
 ·exact hp.elim
end
end Go.Proofs.Ytffdpbbbdmmdlaa
namespace Go.Proofs.Ytffdpbbbdmmdlaa
open Ax
def zph (f : FuncId) : Option zaz :=
 match f with
 | 9 => some zpp
 | 12 => some rgGS
 | _ => none
theorem yma : Fns Try.prog zph := by
 intro f s h
 unfold zph at h
 split at h
 ·injection h with h; subst h; exact ⟨⟨_,Try.func9,by kernel_rfl,by kernel_rfl⟩,zif⟩
 ·injection h with h; subst h; exact ⟨⟨_,Try.func12,by kernel_rfl,by kernel_rfl⟩,zqh⟩
 ·cases h
section
set_option maxRecDepth 100000
set_option maxHeartbeats 8000000
theorem yck : zbk Try.prog 17 ofGS := by
 refine zvf (S := zph) (T := ty) mixed ty_ok yma Try.func17 (c := Try.f17.body.getD .skip) (by kernel_rfl) (by kernel_rfl) (fun xs pins hp _ => ?_)
 unfold ofGS at hp ⊢
 split at hp
 ·rename_i xs f p v _
  obtain ⟨hL,l0,rfl⟩ := hp
  rw [List.length_map] at hL
  refine ⟨by simp,?_⟩
  have hl0 : (l0.map AV.str).length = l0.length := by simp
  have hex0 : ∃ es : List (List UInt8),l0.map AV.str = es.map AV.str := ⟨l0,rfl⟩
  have hst0 := zba l0
  have hUl := zcx l0
  have hUs := (zef l0).1
  rw [hst0]
  unfold ofG
  obtain ⟨l,hl⟩ : ∃ l,srtU l0 = l := ⟨_,rfl⟩
  rw [hl] at hUl hUs ⊢
  have hlp : (l.map AV.str).length = l.length := by simp
  have hL1 : l.length ≤ 1000000 := by omega
  unfold Try.f17
  simp only [go_sem,zaa,↓reduceIte,ty,zph,zpp,hl0,hL,hex0,hst0,hl,zbh]
  cases ht : thT v l with
  | false =>
   rw [if_neg (by simp)]
   have hne : ∀ k (hk : k < l.length),l[k] ≠ v := fun k hk e => by
    have := (zxd hUs).2 (e ▸ List.getElem_mem hk)
    rw [ht] at this; cases this
   refine zas ⟨fun m σ => ∃ (k : Nat),m = l.length - k ∧ k ≤ l.length ∧
    σ = ⟨[.sg 1 (l0.map .str) f,.w (.int .i64 p),.str v,.junk,.junk,.junk,.sg 1 [] true,.sg 1 (l.map .str) false,.w (.int .i64 k),.junk,.junk,.junk,.junk,.junk,.junk,.junk,.junk,.junk,.junk,.junk,.junk,.junk,.junk,.junk,.junk,.junk,.junk,.junk,.junk],[],4⟩,?_,?_⟩
   ·refine ⟨_,_,zaf [0,1,2,3] rfl rfl rfl ?_ ?_,0,rfl,by omega,rfl⟩
    ·simp only [ssT,zai,zaj,setSlot,gOf,AV.ren,renL,Blk.ren,Ax.look,Ax.put,reduceCtorEq,↓reduceIte,Nat.reduceEqDiff,Nat.reduceLT,Nat.reduceAdd,List.length_append,List.length_cons,List.length_nil,Option.some.injEq,zbb]; try simp
    ·simp only [ssT,zai,zaj,setSlot,gOf,AV.ren,renL,Blk.ren,Ax.look,Ax.put,reduceCtorEq,↓reduceIte,Nat.reduceEqDiff,Nat.reduceLT,Nat.reduceAdd,List.length_append,List.length_cons,List.length_nil,Option.some.injEq]
   ·rintro m σ ⟨k,rfl,hk,rfl⟩
    have e1 : ((k : Int) + 1 + 9223372036854775808) % 18446744073709551616 - 9223372036854775808 = ((k + 1 : Nat) : Int) := by omega
    by_cases hkl : k < l.length
    ·have d1 : decide ((k : Int) < (l.length : Int)) = true := decide_eq_true (by omega)
     have hs1 := zbq l k hkl
     have hn := hne k hkl
     obtain ⟨Y,hY⟩ : ∃ Y,l[k] = Y := ⟨_,rfl⟩
     rw [hY] at hs1 hn
     have d2 : decide (Y = v) = false := decide_eq_false hn
     simp only [go_sem,zaa,↓reduceIte,ty,zph,hlp,d1,d2,hs1,e1,Int.toNat_natCast]
     repeat (first | refine And.intro (by omega) ?_ | refine And.intro ⟨by omega,by omega⟩ ?_)
     refine ⟨l.length - (k + 1),_,by omega,zaf [0,1,2,3] rfl rfl rfl ?_ ?_,k + 1,rfl,by omega,rfl⟩
     ·simp only [ssT,zai,zaj,setSlot,gOf,AV.ren,renL,Blk.ren,Ax.look,Ax.put,reduceCtorEq,↓reduceIte,Nat.reduceEqDiff,Nat.reduceLT,Nat.reduceAdd,List.length_append,List.length_cons,List.length_nil,Option.some.injEq,zbb]; try simp
     ·simp only [ssT,zai,zaj,setSlot,gOf,AV.ren,renL,Blk.ren,Ax.look,Ax.put,reduceCtorEq,↓reduceIte,Nat.reduceEqDiff,Nat.reduceLT,Nat.reduceAdd,List.length_append,List.length_cons,List.length_nil,Option.some.injEq]
    ·have d1 : decide ((k : Int) < (l.length : Int)) = false := decide_eq_false (by omega)
     simp only [go_sem,zaa,↓reduceIte,ty,zph,hlp,d1]
     refine ⟨_,Weak.refl _,?_⟩
     simp only [go_sem,zaa,↓reduceIte,ty,zph]
     refine ⟨_,zjy 6 (.si [] true) (fun w loc v h => ymg h),?_⟩
     simp only [go_sem,zaa,↓reduceIte,ty,Bool.not_false]
  | true =>
   have hpl : plT v l < l.length := by
    rcases Nat.lt_or_ge (plT v l) l.length with h | h
    ·exact h
    ·rw [zrz (by omega)] at ht; cases ht
   rw [yej hpl] at ht
   have hvp := of_decide_eq_true ht
   have hrl : (rgF l.length p).length = l.length := zhl _ _ _
   have hof : (rgF l.length p).getD (plT v l) [] = (rgF l.length p)[plT v l]'(by omega) := by rw [List.getD_eq_getElem?_getD,List.getElem?_eq_getElem (by omega)]; rfl
   rw [if_pos rfl]
   obtain ⟨Z,hZ⟩ : ∃ Z,(rgF l.length p).getD (plT v l) [] = Z := ⟨_,rfl⟩
   rw [hZ] at hof ⊢
   obtain ⟨K,hK⟩ : ∃ K,plT v l = K := ⟨_,rfl⟩
   have hbe : ∀ j,(hj : j < K) → l[j]'(by omega) ≠ v := fun j hj e => by
    have h1 := zne (k := v) (l := l) (l[j]'(by omega)) (List.mem_take_iff_getElem.2 ⟨j,by omega,rfl⟩)
    rw [e] at h1
    exact List.lt_irrefl _ h1
   have hsl := zgo (rgF l.length p) (plT v l) (by omega)
   rw [← hof] at hsl
   have hKl : K < l.length := by omega
   have hlK : l[K] = v := by subst hK; exact hvp
   rw [hK] at hsl
   have hrm : ((rgF l.length p).map siA).length = l.length := by simp [hrl]
   have hcg : ∀ h,coe ty 27 (.sg 1 ((rgF l.length p).map siA) h) = .sg 1 ((rgF l.length p).map siA) h := fun h => by cases (rgF l.length p) <;> rfl
   refine zas ⟨fun m σ => ∃ (k : Nat),m = l.length - k ∧ k ≤ K ∧
    σ = ⟨[.sg 1 (l0.map .str) f,.w (.int .i64 p),.str v,.junk,.junk,.junk,.sg 1 [] true,.sg 1 (l.map .str) false,.w (.int .i64 k),.junk,.junk,.junk,.junk,.junk,.junk,.junk,.junk,.junk,.junk,.junk,.junk,.junk,.junk,.junk,.junk,.junk,.junk,.junk,.junk],[],4⟩,?_,?_⟩
   ·refine ⟨_,_,zaf [0,1,2,3] rfl rfl rfl ?_ ?_,0,rfl,by omega,rfl⟩
    ·simp only [ssT,zai,zaj,setSlot,gOf,AV.ren,renL,Blk.ren,Ax.look,Ax.put,reduceCtorEq,↓reduceIte,Nat.reduceEqDiff,Nat.reduceLT,Nat.reduceAdd,List.length_append,List.length_cons,List.length_nil,Option.some.injEq,zbb]; try simp
    ·simp only [ssT,zai,zaj,setSlot,gOf,AV.ren,renL,Blk.ren,Ax.look,Ax.put,reduceCtorEq,↓reduceIte,Nat.reduceEqDiff,Nat.reduceLT,Nat.reduceAdd,List.length_append,List.length_cons,List.length_nil,Option.some.injEq]
   ·rintro m σ ⟨k,rfl,hk,rfl⟩
    have e1 : ((k : Int) + 1 + 9223372036854775808) % 18446744073709551616 - 9223372036854775808 = ((k + 1 : Nat) : Int) := by omega
    have d1 : decide ((k : Int) < (l.length : Int)) = true := decide_eq_true (by omega)
    have hs1 := zbq l k (by omega)
    by_cases hkK : k < K
    ·have hne := hbe k hkK
     obtain ⟨Y,hY⟩ : ∃ Y,l[k]'(by omega) = Y := ⟨_,rfl⟩
     rw [hY] at hs1 hne
     have d2 : decide (Y = v) = false := decide_eq_false hne
     simp only [go_sem,zaa,↓reduceIte,ty,zph,hlp,d1,d2,hs1,e1,Int.toNat_natCast]
     repeat (first | refine And.intro (by omega) ?_ | refine And.intro ⟨by omega,by omega⟩ ?_)
     refine ⟨l.length - (k + 1),_,by omega,zaf [0,1,2,3] rfl rfl rfl ?_ ?_,k + 1,rfl,by omega,rfl⟩
     ·simp only [ssT,zai,zaj,setSlot,gOf,AV.ren,renL,Blk.ren,Ax.look,Ax.put,reduceCtorEq,↓reduceIte,Nat.reduceEqDiff,Nat.reduceLT,Nat.reduceAdd,List.length_append,List.length_cons,List.length_nil,Option.some.injEq,zbb]; try simp
     ·simp only [ssT,zai,zaj,setSlot,gOf,AV.ren,renL,Blk.ren,Ax.look,Ax.put,reduceCtorEq,↓reduceIte,Nat.reduceEqDiff,Nat.reduceLT,Nat.reduceAdd,List.length_append,List.length_cons,List.length_nil,Option.some.injEq]
    ·obtain rfl : k = K := by omega
     rw [hlK] at hs1
     have d2 : decide (v = v) = true := decide_eq_true rfl
     simp only [go_sem,zaa,↓reduceIte,ty,zph,rgGS,hlp,hl0,hL,hex0,hst0,hl,hcg,hrm,hsl,hKl,d1,d2,hs1,zbh,Int.toNat_natCast]
     repeat (first | refine And.intro (by omega) ?_ | refine And.intro ⟨by omega,by omega⟩ ?_)
     refine ⟨_,Weak.refl _,?_⟩
     simp only [go_sem,zaa,↓reduceIte,ty,zph,Bool.not_true]
     try (refine And.intro (by omega) ?_)
     try (refine ⟨_,Weak.refl _,?_⟩)
     try simp only [go_sem,zaa,↓reduceIte,ty,zph,Bool.not_true]
 ·exact hp.elim
end
end Go.Proofs.Ytffdpbbbdmmdlaa
namespace Go.Proofs.Ytffdpbbbdmmdlaa
open Ax
def agS : zaz
 | [.sg 1 xs f,.w (.int .i64 p),.str v],[] => ⟨(xs.length ≤ 9223372036854775807 ∧ ∃ l : List (List UInt8),xs = l.map AV.str ∧ ∀ r ∈ l,r.length ≤ 9223372036854775807) ∧ v.length ≤ 9223372036854775807,.w (.bool true),[]⟩
 | _,_ => zeh
def Sag (f : FuncId) : Option zaz :=
 match f with
 | 7 => some yesS
 | 6 => some rliT
 | 8 => some sdGS
 | 9 => some zpp
 | 11 => some rgGS
 | 12 => some rgGS
 | 13 => some tnS
 | 14 => some rtnS
 | 16 => some ofGS
 | 17 => some ofGS
 | 10 => some saaS
 | 15 => some rsoS
 | _ => none
theorem yqc : Fns Try.prog Sag := by
 intro f s h
 unfold Sag at h
 split at h
 ·injection h with h; subst h; exact ⟨⟨_,Try.func7,by kernel_rfl,by kernel_rfl⟩,zlz⟩
 ·injection h with h; subst h; exact ⟨⟨_,Try.func6,by kernel_rfl,by kernel_rfl⟩,zlk⟩
 ·injection h with h; subst h; exact ⟨⟨_,Try.func8,by kernel_rfl,by kernel_rfl⟩,zhj⟩
 ·injection h with h; subst h; exact ⟨⟨_,Try.func9,by kernel_rfl,by kernel_rfl⟩,zif⟩
 ·injection h with h; subst h; exact ⟨⟨_,Try.func11,by kernel_rfl,by kernel_rfl⟩,znp⟩
 ·injection h with h; subst h; exact ⟨⟨_,Try.func12,by kernel_rfl,by kernel_rfl⟩,zqh⟩
 ·injection h with h; subst h; exact ⟨⟨_,Try.func13,by kernel_rfl,by kernel_rfl⟩,zry⟩
 ·injection h with h; subst h; exact ⟨⟨_,Try.func14,by kernel_rfl,by kernel_rfl⟩,yey⟩
 ·injection h with h; subst h; exact ⟨⟨_,Try.func16,by kernel_rfl,by kernel_rfl⟩,zud⟩
 ·injection h with h; subst h; exact ⟨⟨_,Try.func17,by kernel_rfl,by kernel_rfl⟩,yck⟩
 ·injection h with h; subst h; exact ⟨⟨_,Try.func10,by kernel_rfl,by kernel_rfl⟩,ztp⟩
 ·injection h with h; subst h; exact ⟨⟨_,Try.func15,by kernel_rfl,by kernel_rfl⟩,znn⟩
 ·cases h
section
set_option maxRecDepth 100000
set_option maxHeartbeats 16000000
theorem ag_law : zbk Try.prog 3 agS := by
 refine zbm (S := Sag) (T := ty) mixed ty_ok yqc Try.func3 (c := Try.f3.body.getD .skip) (by kernel_rfl) (by kernel_rfl) (fun xs pins hp _ => ?_)
 unfold agS at hp ⊢
 split at hp
 ·rename_i xs f p v _
  obtain ⟨⟨hL9,l,rfl,hd⟩,hv⟩ := hp
  rw [List.length_map] at hL9
  have hle : (l.map AV.str).length = l.length := by simp
  have hst := zba l
  have hxd : ∃ k : List (List UInt8),l.map AV.str = k.map AV.str ∧ ∀ r ∈ k,r.length ≤ 9223372036854775807 := ⟨l,rfl,hd⟩
  have hex : ∃ k : List (List UInt8),l.map AV.str = k.map AV.str := ⟨l,rfl⟩
  refine ⟨by simp,?_⟩
  unfold Try.f3
  cases hB : znx l with
  | false => simp only [go_sem,zaa,↓reduceIte,ty,Sag,yesS,rliT,hle,hst,hxd,hL9,hB,zbh,Bool.not_true,Bool.not_false]
  | true =>
   have hl40 : l.length ≤ 40 := by unfold znx at hB; simp only [Bool.and_eq_true,decide_eq_true_eq] at hB; exact hB.1
   by_cases h6 : 60 < v.length
   ·have d3 : decide ((60 : Int) < (v.length : Int)) = true := decide_eq_true (by omega)
    simp only [go_sem,zaa,↓reduceIte,ty,Sag,yesS,rliT,hle,hst,hxd,hL9,hB,d3,zbh,Bool.not_true,Bool.not_false]
   ·have d3 : decide ((60 : Int) < (v.length : Int)) = false := decide_eq_false (by omega)
    have hL : l.length ≤ 1000000 := by omega
    have hUl := zcx l
    obtain ⟨E,hE⟩ : ∃ E,empT (l.map AV.str) = E := ⟨_,rfl⟩
    obtain ⟨U,hU⟩ : ∃ U,srtU l = U := ⟨_,rfl⟩
    rw [hU] at hUl
    have hUm : (U.map AV.str).length = U.length := by simp
    have di : ∀ k : Int,decide (k = k) = true := fun k => decide_eq_true rfl
    simp only [go_sem,zaa,↓reduceIte,ty,Sag,yesS,rliT,sdGS,zpp,hle,hst,hxd,hex,hL9,hL,hB,d3,hE,hU,hUm,di,zbh,Bool.not_true,Bool.not_false]
    refine zas ⟨fun m σ => ∃ (k : Nat),m = U.length - k ∧ k ≤ U.length ∧
     σ = ⟨[.sg 1 (l.map .str) f,.w (.int .i64 p),.str v,.junk,.junk,.junk,.w (.bool false),.sg 1 (U.map .str) E,.sg 1 (U.map .str) false,.w (.int .i64 k),.junk,.junk,.junk,.junk,.junk,.junk,.junk,.junk,.junk,.junk,.junk,.junk,.junk,.junk,.junk,.junk,.junk,.junk,.junk,.junk,.junk,.junk,.junk,.junk,.junk,.junk,.junk,.junk,.junk,.junk,.junk,.junk,.junk,.junk,.junk,.junk,.junk,.junk,.junk,.junk,.junk,.junk,.junk,.junk,.junk,.junk,.junk,.junk,.junk,.junk,.junk,.junk,.junk,.junk,.junk,.junk,.junk,.junk,.junk,.junk,.junk,.junk,.junk],[],4⟩,?_,?_⟩
    ·refine ⟨_,_,zaf [0,1,2,3] rfl rfl rfl ?_ ?_,0,rfl,by omega,rfl⟩
     ·simp only [ssT,zai,zaj,setSlot,gOf,AV.ren,renL,Blk.ren,Ax.look,Ax.put,reduceCtorEq,↓reduceIte,Nat.reduceEqDiff,Nat.reduceLT,Nat.reduceAdd,List.length_append,List.length_cons,List.length_nil,Option.some.injEq,zbb]; try simp
     ·simp only [ssT,zai,zaj,setSlot,gOf,AV.ren,renL,Blk.ren,Ax.look,Ax.put,reduceCtorEq,↓reduceIte,Nat.reduceEqDiff,Nat.reduceLT,Nat.reduceAdd,List.length_append,List.length_cons,List.length_nil,Option.some.injEq]
    ·rintro m σ ⟨k,rfl,hk,rfl⟩
     have e1 : ((k : Int) + 1 + 9223372036854775808) % 18446744073709551616 - 9223372036854775808 = ((k + 1 : Nat) : Int) := by omega
     by_cases hkl : k < U.length
     ·have d1 : decide ((k : Int) < (U.length : Int)) = true := decide_eq_true (by omega)
      have hs1 := zbq U k hkl
      obtain ⟨Y,hY⟩ : ∃ Y,U[k] = Y := ⟨_,rfl⟩
      rw [hY] at hs1
      have d2 : decide (Y = Y) = true := decide_eq_true rfl
      simp only [go_sem,zaa,↓reduceIte,ty,Sag,hUm,d1,d2,hs1,e1,Int.toNat_natCast,Bool.not_true]
      repeat (first | refine And.intro (by omega) ?_ | refine And.intro ⟨by omega,by omega⟩ ?_)
      refine ⟨U.length - (k + 1),_,by omega,zaf [0,1,2,3] rfl rfl rfl ?_ ?_,k + 1,rfl,by omega,rfl⟩
      ·simp only [ssT,zai,zaj,setSlot,gOf,AV.ren,renL,Blk.ren,Ax.look,Ax.put,reduceCtorEq,↓reduceIte,Nat.reduceEqDiff,Nat.reduceLT,Nat.reduceAdd,List.length_append,List.length_cons,List.length_nil,Option.some.injEq,zbb]; try simp
      ·simp only [ssT,zai,zaj,setSlot,gOf,AV.ren,renL,Blk.ren,Ax.look,Ax.put,reduceCtorEq,↓reduceIte,Nat.reduceEqDiff,Nat.reduceLT,Nat.reduceAdd,List.length_append,List.length_cons,List.length_nil,Option.some.injEq]
     ·have d1 : decide ((k : Int) < (U.length : Int)) = false := decide_eq_false (by omega)
      have hPl := zgt p
      have hRr := yfc U.length p
      have hRl : (rgF U.length p).length = U.length := zsf _ _
      have hTr := yeh U.length (clpN p) hPl
      have hTl := zxb U.length (clpN p)
      have hOl := yfq l p v
      obtain ⟨RR,hRR⟩ : ∃ RR,rgF U.length p = RR := ⟨_,rfl⟩
      obtain ⟨TT,hTT⟩ : ∃ TT,tnL U.length (clpN p) = TT := ⟨_,rfl⟩
      obtain ⟨OO,hOO⟩ : ∃ OO,ofG l p v = OO := ⟨_,rfl⟩
      rw [hRR] at hRr hRl
      rw [hTT] at hTr hTl
      rw [hOO] at hOl
      have hRm : (RR.map siA).length = U.length := by simp [hRl]
      have hTm : (TT.map siA).length = U.length := by simp [hTl]
      have hU6 : U.length ≤ 1000000 := by omega
      have hxR : ∃ L : List (List Int),RR.map siA = L.map siA ∧ ∀ r ∈ L,r.length ≤ 1000000 := ⟨RR,rfl,hRr⟩
      have hxT : ∃ L : List (List Int),TT.map siA = L.map siA ∧ ∀ r ∈ L,r.length ≤ 1000000 := ⟨TT,rfl,hTr⟩
      have tr : ∀ k : List AV,(k = k) = True := fun k => eq_true rfl
      have tri : ∀ k : List Int,(k = k) = True := fun k => eq_true rfl
      simp only [go_sem,zaa,↓reduceIte,ty,Sag,hUm,d1]
      refine ⟨_,Weak.refl _,?_⟩
      simp (config := { maxSteps := 1000000 }) only [go_sem,zaa,↓reduceIte,ty,Sag,yesS,rgGS,tnS,rtnS,ofGS,saaS,rsoS,hle,hst,hex,hL,hU,hRR,hTT,hOO,hRm,hTm,hU6,hxR,hxT,hOl,tr,tri,zbh,zmx,Bool.not_true,Bool.not_false]
      try (refine ⟨_,Weak.refl _,?_⟩)
      try simp only [go_sem,zaa,↓reduceIte,ty]
 ·exact hp.elim
end
theorem yjb {x : AV} (h : Arg ty 6 9 x) : ∃ bs : List UInt8,x = .str bs ∧ bs.length ≤ 9223372036854775807 := by
 obtain ⟨i,ls,hi,hs,rfl⟩ := h
 simp only [ty] at hi
 injection hi with hi
 subst hi
 simp only [zjx,ty,zix] at hs
 obtain ⟨m,rfl,w⟩ := hs
 have : maxLen = 9223372036854775807 := by decide
 exact ⟨m,rfl,by omega⟩
theorem yjc {x : AV} (h : Arg ty 6 3 x) : ∃ n : Int,x = .w (.int .i64 n) ∧ -9223372036854775808 ≤ n ∧ n ≤ 9223372036854775807 := by
 obtain ⟨i,ls,hi,hs,rfl⟩ := h
 simp only [ty] at hi
 injection hi with hi
 subst hi
 simp only [zjx,ty,zix] at hs
 obtain ⟨m,rfl,w⟩ := hs
 exact ⟨m,rfl,ymc w⟩
theorem ag_dom {x y z : AV} (hx : Arg ty 6 22 x) (hy : Arg ty 6 3 y) (hz : Arg ty 6 9 z) : (agS [x,y,z] []).p ∧ (agS [x,y,z] []).x = .w (.bool true) := by
 obtain ⟨l,f,rfl,hL,hl⟩ := zma hx
 obtain ⟨n,rfl,_⟩ := yjc hy
 obtain ⟨d,rfl,hd⟩ := yjb hz
 exact ⟨⟨⟨by rw [List.length_map]; exact hL,l,rfl,hl⟩,hd⟩,rfl⟩
end Go.Proofs.Ytffdpbbbdmmdlaa
