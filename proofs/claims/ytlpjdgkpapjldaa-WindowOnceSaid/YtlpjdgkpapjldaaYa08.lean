/- What the proofs of this seat stand on; it asks nothing. -/
import Derived.Test.YtlpjdgkpapjldaaYa07
set_option linter.unusedSimpArgs false
set_option linter.unusedVariables false
namespace Go.Proofs.Ytlpjdgkpapjldaa
namespace Ax
open Go.RowKit
abbrev Plan := Nat → Option (List (Nat × Nat))
def zcs (T : zab) (pl : Plan) : Code → Bool
 | .region id ops draw => match pl id with
   | none => !draw || drawOk T ops.toList
   | some p => draw && drawOkF T ops.toList p
 | .seq a b => zcs T pl a && zcs T pl b
 | .cond _ a b => zcs T pl a && zcs T pl b
 | .block _ c => zcs T pl c
 | .loop c => zcs T pl c
 | _ => true
def awpF (S : zag) (T : zab) (pl : Plan) : Code → (Exit → ASt → Prop) → ASt → Prop
 | .skip,Q,σ => Q .normal σ
 | .label _,Q,σ => Q .normal σ
 | .region id ops _,Q,σ => match pl id with
   | none => aops S T ops.toList σ.nx ops.toList σ.sl σ.H (regK (σ.nx + 8 * ops.toList.length) Q)
   | some p => zfo S T ops.toList p σ.nx [] ops.toList σ.sl σ.H (regK (σ.nx + 8 * ops.toList.length) Q)
 | .seq a b,Q,σ => awpF S T pl a (seqK (awpF S T pl b Q) Q) σ
 | .cond c a b,Q,σ => match ev σ.sl c with
     | .w (.bool t) => csplit t (awpF S T pl a Q σ) (awpF S T pl b Q σ)
     | _ => False
 | .block id c,Q,σ => awpF S T pl c (blockK id Q) σ
 | .loop c,Q,σ => ALoop (awpF S T pl c) Q σ
 | .exit id,Q,σ => Q (.exit id) σ
 | .ret,Q,σ => Q .ret σ
 | _,_,_ => False
open Classical in
theorem awpF_sound {P : Program} {w0 : World} {E : Nat → Prop} {T : zab} {S : zag} {pl : Plan} (hm : P.follows .mixedOrders = true) (hT : TOk P T) (hS : Fns P S) {B : Bs} : ∀ (c : Code) (Q : Exit → ASt → Prop) (σ : ASt) (a : Act) (w : World),
   zcs T pl c = true → awpF S T pl c Q σ → Rel w0 E B σ a w → c.wp P (Low w0 E B Q) a w := by
 intro c
 induction c with
 | skip => intro Q σ a w hdr h hr; exact wp_skip ⟨σ,hr,h⟩
 | label l => intro Q σ a w hdr h hr; exact wp_label ⟨σ,hr,h⟩
 | ret => intro Q σ a w hdr h hr; exact wp_ret ⟨σ,hr,h⟩
 | exit id => intro Q σ a w hdr h hr; exact wp_exit ⟨σ,hr,h⟩
 | region id ops draw =>
   intro Q σ a w hdr h hr
   obtain ⟨loc,hb,hr⟩ := hr
   obtain ⟨sl,H,nx⟩ := σ
   have hK : ∀ sl H a w loc,Base w0 B w loc → Rel' w0 E loc ⟨sl,H,nx + 8 * ops.toList.length⟩ a w → regK (nx + 8 * ops.toList.length) Q sl H → Low w0 E B Q .normal a w := fun sl H a w loc h1 h2 h3 => ⟨_,⟨loc,h1,h2⟩,h3⟩
   simp only [zcs] at hdr
   simp only [awpF] at h
   cases hp : pl id with
   | none =>
     simp only [hp] at hdr h
     cases draw with
     | false => exact wp_region_list (zcy hT hS hK ops.toList nx sl H a w loc rfl hb hr h)
     | true => exact zeu hT hS hm w0 E ops.toList _ _ B nx sl H a w loc id (by simpa using hdr) hK hb hr h
   | some p =>
     simp only [hp,Bool.and_eq_true] at hdr h
     obtain ⟨hd1,hd2⟩ := hdr
     subst hd1
     exact drawF_sound hT hS hm hd2 hK hb hr h
 | seq x y ihx ihy =>
   intro Q σ a w hdr h hr
   refine wp_seq (wp_mono (ihx _ σ a w (by simp only [zcs,Bool.and_eq_true] at hdr; exact hdr.1) h hr) ?_)
   rintro e a' w' ⟨σ',hr',hq⟩
   cases e with
   | normal => exact ihy Q σ' a' w' (by simp only [zcs,Bool.and_eq_true] at hdr; exact hdr.2) hq hr'
   | _ => exact ⟨σ',hr',hq⟩
 | cond c x y ihx ihy =>
   intro Q σ a w hdr h hr
   simp only [awpF,csplit] at h
   simp only [zcs,Bool.and_eq_true] at hdr
   obtain ⟨loc,hb,hr⟩ := hr
   split at h
   · rename_i t hc
     have hv := ev_R hr.slots c
     rw [hc] at hv
     have hv := hv.wv
     cases t with
     | true => exact wp_cond_true hv (ihx Q σ a w hdr.1 (h.1 rfl) ⟨loc,hb,hr⟩)
     | false => exact wp_cond_false hv (ihy Q σ a w hdr.2 (h.2 rfl) ⟨loc,hb,hr⟩)
   · exact h.elim
 | block id c ih =>
   intro Q σ a w hdr h hr
   refine wp_block (wp_mono (ih _ σ a w hdr h hr) ?_)
   rintro e a' w' ⟨σ',hr',hq⟩
   cases e with
   | exit id' =>
     simp only [blockK,Exit.inBlock] at hq ⊢
     split at hq
     · rename_i he; rw [if_pos he]; exact ⟨σ',hr',hq⟩
     · rename_i he; rw [if_neg he]; exact ⟨σ',hr',hq⟩
   | _ => exact ⟨σ',hr',hq⟩
 | loop c ih =>
   intro Q σ a w hdr h hr
   obtain ⟨I,⟨n0,σ0,hw0,hI0⟩,hround⟩ := h
   let p : Act → World → Nat → Prop := fun a w n => ∃ σ,Rel w0 E B σ a w ∧ I n σ
   have hleast : ∀ a w,(∃ n,p a w n) → ∃ m,p a w m ∧ ∀ k,p a w k → m ≤ k := fun a w ⟨n,hn⟩ => let ⟨m,h1,_,h3⟩ := least n hn; ⟨m,h1,h3⟩
   let μ : Act → World → Nat := fun a w => if h : ∃ n,p a w n then Classical.choose (hleast a w h) else 0
   refine wp_loop (fun a w => ∃ n,p a w n) μ ⟨n0,σ0,hw0 w0 E B a w hr,hI0⟩ ?_
   intro a w hex
   have hμ : μ a w = Classical.choose (hleast a w hex) := dif_pos hex
   obtain ⟨⟨σ1,hr1,hI1⟩,hmin⟩ := Classical.choose_spec (hleast a w hex)
   rw [← hμ] at hI1
   refine wp_mono (ih _ σ1 a w hdr (hround _ σ1 hI1) hr1) ?_
   rintro e a' w' ⟨σ',hr',hq⟩
   cases e with
   | normal =>
     obtain ⟨m,σ2,hlt,hw2,hI2⟩ := hq
     have hp : p a' w' m := ⟨σ2,hw2 w0 E B a' w' hr',hI2⟩
     refine ⟨⟨m,hp⟩,?_⟩
     have hμ' : μ a' w' = Classical.choose (hleast a' w' ⟨m,hp⟩) := dif_pos ⟨m,hp⟩
     have := (Classical.choose_spec (hleast a' w' ⟨m,hp⟩)).2 m hp
     rw [← hμ'] at this
     exact Nat.lt_of_le_of_lt this hlt
   | _ =>
     obtain ⟨σ2,hw2,hq⟩ := hq
     exact ⟨σ2,hw2 w0 E B a' w' hr',hq⟩
 | _ => intro Q σ a w hdr h hr; exact h.elim
theorem sound_gen0 {P : Program} {T : zab} {S : zag} (hT : TOk P T) (hS : Fns P S) {f : FuncId} {fn : Func} {c : Code} (hf : P.funcs[f]? = some fn) (hb : fn.body = some c) {spec : zay} {Qp : List AV → List Blk → Exit → ASt → Prop}
   (hqp : ∀ xs pins e σ,Qp xs pins e σ → ∃ σ',Weak σ σ' ∧ Ends T fn.results.toList pins (spec xs pins) e σ')
   (h : ∀ xs pins,(spec xs pins).p → closedB pins = true → pins.length ≤ 4 ∧ ∀ w0 E B a w,Rel w0 E B ⟨xs ++ List.replicate (fn.ntmps - xs.length) .junk,pinHeap 0 pins,4⟩ a w → c.wp P (Low w0 E B (Qp xs pins)) a w) : zbz P f spec := by
 intro xs pins hp hcl w bad pb vs hlen hnd hbad hlies hxl hx
 obtain ⟨hp4,h⟩ := h xs pins hp hcl
 refine calls_of_wp hf hb ?_
 have hrel : Rel w (· ∈ pb) ⟨bad,pb⟩ ⟨xs ++ List.replicate (fn.ntmps - xs.length) .junk,pinHeap 0 pins,4⟩ { tmps := vs.toArray ++ Array.replicate (fn.ntmps - vs.toArray.size) undef,defers := [] } w := by
   refine ⟨zat pb bad,⟨⟨rfl,fun k hk cur e fz hh => ⟨cur,fz,hh,rfl⟩⟩,by simp only; omega,fun k hk => .inr ⟨by simp [zat,List.getElem?_eq_getElem hk],fun cur e fz hh => ⟨cur,fz,hh,rfl⟩⟩⟩,?_⟩
   refine ⟨by simp [hxl],fun t => ?_,?_,?_,?_,rfl,fun id b hl => ?_⟩
   · simp only
     rw [zcc]
     by_cases ht : t < xs.length
     · have e1 : (xs ++ List.replicate (fn.ntmps - xs.length) AV.junk).getD t .junk = xs[t] := by simp [List.getElem?_append_left,ht]
       have e2 : (vs.toArray ++ Array.replicate (fn.ntmps - vs.toArray.size) undef).getD t undef = vs[t]'(by omega) := by
         have : t < vs.length := by omega
         simp [Array.getD_eq_getD_getElem?,Array.getElem?_append,this]
       rw [e1,e2]
       exact hx t ht _
     · have e1 : (xs ++ List.replicate (fn.ntmps - xs.length) AV.junk).getD t .junk = .junk := by
         rw [List.getD_eq_getElem?_getD,List.getElem?_append_right (by omega),List.getElem?_replicate]
         split <;> rfl
       rw [e1]; exact .junk _
   · intro id b hl
     obtain ⟨j,hj,rfl,rfl⟩ := zbl pins 0 id b hl
     have hj' : j < pb.length := by omega
     unfold BlkR
     have : (zat pb bad).m (0 + j) = .here pb[j] := by simp [zat,List.getElem?_eq_getElem hj']
     rw [this]
     exact hlies j hj hj'
   · refine ⟨rfl,rfl,rfl,Nat.le_refl _,fun _ _ _ => rfl,?_,?_,?_⟩
     · intro i j b hi hj
       obtain ⟨h1,h2⟩ := zcq hi
       obtain ⟨h3,h4⟩ := zcq hj
       exact zce hnd (h2.trans h4.symm)
     · intro i b hi
       obtain ⟨h1,h2⟩ := zcq hi
       subst h2
       refine ⟨?_,.inr (List.getElem_mem h1)⟩
       obtain ⟨ob,hh⟩ := lies_live2 (hlies i (by omega) h1).2
       rcases Nat.lt_or_ge pb[i] w.heap.size with h' | h'
       · exact h'
       · rw [Array.getElem?_eq_none h'] at hh; cases hh
     · exact fun b hb => hbad b hb
   · intro id hid
     simp only at hid
     have : pb[id]? = none := List.getElem?_eq_none (by omega)
     simp [zat,this]
   · obtain ⟨j,hj,rfl,_⟩ := zbl pins 0 id b hl
     simp; omega
 refine wp_mono (h _ _ _ _ w hrel) ?_
 have main : ∀ a w' σ,Rel w (· ∈ pb) ⟨bad,pb⟩ σ a w' → (rvals T σ.H σ.sl fn.results.toList).1 ∧ EndsX pins (spec xs pins) (rone (rvals T σ.H σ.sl fn.results.toList).2) σ →
     a.defers = [] ∧ ∃ v,(results fn a.tmps).run P w' = .ok v w' ∧ ∃ v' loc',Ending.returned v = .returned v' ∧ Gives w bad pb (spec xs pins) v' w' loc' := by
   rintro a w' σ ⟨loc,hB,hr⟩ ⟨hrv,hnodup,hpin,hbl,hren⟩
   obtain ⟨v,hv,hR⟩ := results_R (P := P) (fn := fn) hT hr.heap hr.slots hrv
   refine ⟨hr.defers,v,hv,v,?_⟩
   generalize rone (rvals T σ.H σ.sl fn.results.toList).2 = x at hnodup hpin hbl hren hR
   have hnd' := zdx hnodup
   obtain ⟨hids1,hids2⟩ := newIds_mem x.ids (upTo 0 pins)
   obtain ⟨hu1,hu2⟩ := upTo_get pins 0
   generalize hids : newIds (upTo 0 pins) x.ids = ids at hnodup hpin hbl hren hnd' hids1 hids2
   obtain ⟨hpl,hpc,hpg⟩ := zet hpin
   rw [hbl] at hpl hpc hpg
   obtain ⟨t,rfl⟩ := hids1
   have hm : pins.length ≤ (upTo 0 pins ++ t).length := by simp [hu1]
   have hold : ∀ k,(hk : k < pins.length) → (upTo 0 pins ++ t)[k]'(by omega) = k := by
     intro k hk
     rw [List.getElem_append_left (by omega)]
     have := hu2 k (by omega)
     omega
   -- every one of the names is alive
   have hlive : ∀ (k : Nat) (hk : k < (upTo 0 pins ++ t).length),loc.m (upTo 0 pins ++ t)[k] ≠ .free := by
     intro k hk
     rcases hids2 _ (List.getElem_mem hk) with hi | hi
     · obtain ⟨j,hj,he⟩ := List.getElem_of_mem hi
       rw [← he,hu2 j hj]
       have hj' : j < pb.length := by omega
       rcases hB.2.2 j hj' with h1 | ⟨h1,_⟩
       · rw [Nat.zero_add,h1]; simp
       · rw [Nat.zero_add,h1]; simp
     · exact zdt x v hR hi
   have hblk : ∀ (k : Nat) (hk : k < (upTo 0 pins ++ t).length) (hk' : k < (spec xs pins).bl.length),BlkR w' loc (upTo 0 pins ++ t)[k] (spec xs pins).bl[k] := by
     intro k hk hk'
     refine hr.heap _ _ ?_
     rw [hpg k hk,List.getElem?_eq_getElem hk']
   have hdead : ∀ (k : Nat) (hk : k < (upTo 0 pins ++ t).length),loc.m (upTo 0 pins ++ t)[k] ≠ .dead := by
     intro k hk e
     have := hblk k hk (by omega)
     unfold BlkR at this
     rw [e] at this
     exact this
   let g : Nat → Nat := gOf (upTo 0 pins ++ t) σ.nx
   have hgo : ∀ k,(hk : k < (upTo 0 pins ++ t).length) → g k = (upTo 0 pins ++ t)[k] := fun k hk => zee hk
   have hgn : ∀ k,(upTo 0 pins ++ t).length ≤ k → loc.m (g k) = .free := by
     intro k hk
     refine hr.fresh _ ?_
     show σ.nx ≤ gOf _ σ.nx k
     rw [zdp hk]; omega
   let loc' : Loc := { m := fun k => loc.m (g k),bad := loc.bad }
   have hlt : ∀ i b,loc'.m i = .here b → i < (upTo 0 pins ++ t).length := by
     intro i b hi
     rcases Nat.lt_or_ge i (upTo 0 pins ++ t).length with h' | h'
     · exact h'
     · have : loc'.m i = .free := hgn i h'
       rw [this] at hi; cases hi
   have hinj : ∀ i j b,loc'.m i = .here b → loc'.m j = .here b → i = j := by
     intro i j b hi hj
     have h1 := hlt i b hi
     have h2 := hlt j b hj
     have h3 : g i = g j := hr.env.inj (g i) (g j) b hi hj
     rw [hgo i h1,hgo j h2] at h3
     exact zce hnd' h3
   have hpb : ∀ (k : Nat) (hk : k < pb.length),loc'.m k = .here pb[k] ∧ ∀ cur e fz,w.heap[pb[k]]? = some (.cells cur e fz) → ∃ cur' fz',w'.heap[pb[k]]? = some (.cells cur' e fz') ∧ cur'.size = cur.size := by
     intro k hk
     have hk1 : k < pins.length := by omega
     have e : loc'.m k = loc.m k := by
       show loc.m (g k) = loc.m k
       rw [hgo k (by omega),hold k hk1]
     rcases hB.2.2 k hk with h1 | ⟨h1,h2⟩
     · have := hdead k (by omega)
       rw [hold k hk1] at this
       exact (this h1).elim
     · exact ⟨e.trans h1,h2⟩
   refine ⟨loc',rfl,?_⟩
   refine ⟨unren (loc2 := loc') (g := g) (fun _ => rfl) rfl hR _ hren,hB.1.1,?_,fun k hk => (hpb k hk).1,?_,?_,hinj,?_⟩
   · intro k hk
     have hk' : k < (upTo 0 pins ++ t).length := by omega
     have e : loc'.m k = loc.m (upTo 0 pins ++ t)[k] := by show loc.m (g k) = _; rw [hgo k hk']
     refine ⟨?_,by rw [e]; exact hlive k hk',by rw [e]; exact hdead k hk'⟩
     have hb := hblk k hk' hk
     unfold BlkR at hb ⊢
     rw [e]
     split
     · trivial
     · rename_i e'; rw [e'] at hb; exact hb
     · rename_i e'; rw [e'] at hb; exact hb
     · rename_i b e'
       rw [e'] at hb
       refine ⟨hb.1,zfh hb.2 (zfn hpc k hk) (.inr ?_)⟩
       rintro c _ (h | ⟨i,h⟩)
       · exact .inl h
       · exact .inr ⟨g i,h⟩
   · intro k b hk hkb
     have := hr.env.lies (g k) b hkb
     refine ⟨?_,this.1⟩
     rcases this.2 with h' | h'
     · exact h'
     · obtain ⟨j,hj,he⟩ := List.getElem_of_mem h'
       have h1 := (hpb j hj).1
       rw [he] at h1
       have := hinj k j b hkb h1
       omega
   · intro k hk
     exact hgn k (by omega)
   · refine ⟨hr.env.os,hr.env.tape,hr.env.output,hr.env.size,hr.env.same,?_⟩
     rintro b cur e fz hb hh
     obtain ⟨j,hj,rfl⟩ := List.getElem_of_mem hb
     exact (hpb j hj).2 cur e fz hh
 rintro e a w' ⟨σ0,hr0,hq0⟩
 obtain ⟨σ,hwk,hq⟩ := hqp xs pins e σ0 hq0
 have hr := hwk _ _ _ _ _ hr0
 cases e with
 | normal => exact main a w' σ hr hq
 | ret => exact main a w' σ hr hq
 | _ => exact hq.elim
theorem fn_soundF {P : Program} {T : zab} {S : zag} {pl : Plan} (hm : P.follows .mixedOrders = true) (hT : TOk P T) (hS : Fns P S) {f : FuncId} {fn : Func} {c : Code} (hf : P.funcs[f]? = some fn) (hb : fn.body = some c) (hd : zcs T pl c = true) {spec : zay}
   (h : ∀ xs pins,(spec xs pins).p → closedB pins = true → pins.length ≤ 4 ∧ awpF S T pl c (EndsW T fn.results.toList pins (spec xs pins)) ⟨xs ++ List.replicate (fn.ntmps - xs.length) .junk,pinHeap 0 pins,4⟩) : zbz P f spec :=
 sound_gen0 hT hS hf hb (Qp := fun xs pins => EndsW T fn.results.toList pins (spec xs pins)) (fun _ _ _ _ h => h) (fun xs pins hp hc => ⟨(h xs pins hp hc).1,fun w0 E B a w hr => awpF_sound hm hT hS c _ _ _ _ hd (h xs pins hp hc).2 hr⟩)
def laterF (S : zag) (T : zab) (pl : Plan) (b : Code) (Q : Exit → ASt → Prop) : Exit → ASt → Prop := seqK (awpF S T pl b Q) Q
section rules
variable {S : zag} {T : zab} {pl : Plan} {Q : Exit → ASt → Prop} {σ : ASt}
theorem awpF_skip : awpF S T pl .skip Q σ = Q .normal σ := rfl
theorem awpF_label {l : Nat} : awpF S T pl (.label l) Q σ = Q .normal σ := rfl
theorem awpF_ret : awpF S T pl .ret Q σ = Q .ret σ := rfl
theorem awpF_exit {id : Nat} : awpF S T pl (.exit id) Q σ = Q (.exit id) σ := rfl
theorem awpF_region {id : Nat} {l : List Oper} {draw : Bool} : awpF S T pl (.region id l.toArray draw) Q σ = match pl id with
   | none => aops S T l σ.nx l σ.sl σ.H (regK (σ.nx + 8 * l.length) Q)
   | some p => zfo S T l p σ.nx [] l σ.sl σ.H (regK (σ.nx + 8 * l.length) Q) := by
 simp [awpF]
theorem awpF_seq {a b : Code} : awpF S T pl (.seq a b) Q σ = awpF S T pl a (laterF S T pl b Q) σ := rfl
theorem awpF_block {id : Nat} {c : Code} : awpF S T pl (.block id c) Q σ = awpF S T pl c (blockK id Q) σ := rfl
theorem awpF_cond {c : Operand} {a b : Code} : awpF S T pl (.cond c a b) Q σ = match ev σ.sl c with
     | .w (.bool t) => csplit t (awpF S T pl a Q σ) (awpF S T pl b Q σ)
     | _ => False := rfl
theorem zdr {c : Code} (h : ALoop (awpF S T pl c) Q σ) : awpF S T pl (.loop c) Q σ := h
theorem zad {b : Code} : laterF S T pl b Q .normal σ = awpF S T pl b Q σ := rfl
theorem laterF_exit {b : Code} {id : Nat} : laterF S T pl b Q (.exit id) σ = Q (.exit id) σ := rfl
theorem laterF_ret {b : Code} : laterF S T pl b Q .ret σ = Q .ret σ := rfl
variable {ops r : List Oper} {o : Oper} {nm : Nat} {sl : List AV} {H : Heap} {Q' : List AV → Heap → Prop} {pp : List (Nat × Nat)} {acc : List (Nat × List Nat)}
theorem aopsF_nil : zfo S T ops pp nm acc [] sl H Q' = (memOk pp acc = true ∧ Q' sl H) := rfl
theorem aopsF_plain {dst : Option Tmp} {op : Op} {type : TypeId} {pos : String} {after : Array Edge} : zfo S T ops pp nm acc (⟨dst,op,type,pos,after,none⟩ :: r) sl H Q' =
   ((aopF S T nm sl op H).p ∧ zfo S T ops pp (nm + 8) (acc ++ [(nm,foot sl op H)]) r (zai sl dst (aopF S T nm sl op H).x) (aopF S T nm sl op H).H Q') := rfl
theorem aopsF_guard {dst : Option Tmp} {op : Op} {type : TypeId} {pos : String} {after : Array Edge} {j : Nat} {want : Bool} : zfo S T ops pp nm acc (⟨dst,op,type,pos,after,some (j,want)⟩ :: r) sl H Q' =
   match guardSlot ops j with
     | none => False
     | some d => match slot sl d with
       | .w (.bool b) =>
         gsplit b want ((aopF S T nm (setSlot sl d (.w (.bool want))) op H).p ∧
           zfo S T ops pp (nm + 8) (acc ++ [(nm,foot (setSlot sl d (.w (.bool want))) op H)]) r (zai (setSlot sl d (.w (.bool want))) dst (aopF S T nm (setSlot sl d (.w (.bool want))) op H).x) (aopF S T nm (setSlot sl d (.w (.bool want))) op H).H Q')
         (zfo S T ops pp (nm + 8) (acc ++ [(nm,[])]) r (zai (setSlot sl d (.w (.bool !want))) dst (.tup [])) H Q')
       | .tup [] => zfo S T ops pp (nm + 8) (acc ++ [(nm,[])]) r (zai sl dst (.tup [])) H Q'
       | _ => False := rfl
end rules
end Ax
end Go.Proofs.Ytlpjdgkpapjldaa
namespace Go.Proofs.Ytlpjdgkpapjldaa
open Ax
theorem evTP : (type_of% @awpF_skip) ∧
   (type_of% @awpF_label) ∧
   (type_of% @awpF_ret) ∧
   (type_of% @awpF_exit) ∧
   (type_of% @awpF_region) ∧
   (type_of% @awpF_seq) ∧
   (type_of% @awpF_block) ∧
   (type_of% @awpF_cond) ∧
   (type_of% @laterF_exit) ∧
   (type_of% @laterF_ret) ∧
   (type_of% @aopsF_nil) ∧
   (type_of% @aopsF_plain) ∧
   (type_of% @aopsF_guard) :=
 ⟨@awpF_skip,@awpF_label,@awpF_ret,@awpF_exit,@awpF_region,@awpF_seq,@awpF_block,@awpF_cond,@laterF_exit,@laterF_ret,@aopsF_nil,@aopsF_plain,@aopsF_guard⟩
theorem evDP : (type_of% @Ax.aopF.eq_1) ∧
   (type_of% @Ax.foot.eq_1) ∧
   (type_of% @Ax.footA.eq_1) ∧
   (type_of% @Ax.keepIn.eq_1) ∧
   (type_of% @Ax.keepIn.eq_2) ∧
   (type_of% @Ax.dropIn.eq_1) ∧
   (type_of% @Ax.dropIn.eq_2) ∧
   (type_of% @Ax.bids.eq_1) ∧
   (type_of% @Ax.bids.eq_2) ∧
   (type_of% @Ax.heldB.eq_1) ∧
   (type_of% @Ax.memOk.eq_1) ∧
   (type_of% @Ax.clearOf.eq_1) :=
 ⟨@Ax.aopF.eq_1,@Ax.foot.eq_1,@Ax.footA.eq_1,@Ax.keepIn.eq_1,@Ax.keepIn.eq_2,@Ax.dropIn.eq_1,@Ax.dropIn.eq_2,@Ax.bids.eq_1,@Ax.bids.eq_2,@Ax.heldB.eq_1,@Ax.memOk.eq_1,@Ax.clearOf.eq_1⟩
open Ax
attribute [go_sem] evDP evTP Blk.ids Op.operands Call.operands
end Go.Proofs.Ytlpjdgkpapjldaa
namespace Go.Proofs.Ytlpjdgkpapjldaa
namespace Ax
def tailB (k : Nat) (ops : List Oper) : Bool :=
 let ms := masks [] ops
 (List.range ops.length).all fun j => match ops[j]? with
   | some y => backB j y.after.toList && (decide (j < k) || (List.range j).all fun i => (ms.getD j 0).testBit i)
   | none => true
theorem tailB_get {k : Nat} {ops : List Oper} (h : tailB k ops = true) {j : Nat} {y : Oper} (hy : ops[j]? = some y) :
   (∀ e ∈ y.after.toList,Region.binds .any e = true → e.on < j) ∧ (k ≤ j → ∀ i,i < j → ((masks [] ops).getD j 0).testBit i = true) := by
 unfold tailB at h
 have := List.all_eq_true.1 h j (List.mem_range.2 (List.getElem?_eq_some_iff.1 hy).1)
 simp only [hy,Bool.and_eq_true,Bool.or_eq_true,decide_eq_true_eq] at this
 refine ⟨backB_get this.1,fun hk i hi => ?_⟩
 rcases this.2 with h1 | h1
 · omega
 · exact List.all_eq_true.1 h1 i (List.mem_range.2 hi)
theorem guardSlot_app {l : List Oper} (suf : List Oper) {j : Nat} {d : Tmp} (h : guardSlot l j = some d) : guardSlot (l ++ suf) j = some d := by
 unfold guardSlot at h ⊢
 cases hj : l[j]? with
 | none => rw [hj] at h; cases h
 | some o =>
   rw [hj] at h
   rw [List.getElem?_append_left (List.getElem?_eq_some_iff.1 hj).1,hj]
   exact h
section
variable {P : Program} {S : zag} {T : zab} {l suf : List Oper} {nm : Nat} {s0 : List AV × Heap} {w0 : World} {E : Nat → Prop} {B : Bs}
theorem tail_run (ht : tailB l.length (l ++ suf) = true) {K : Exit → Act → World → Prop} : ∀ (fuel t : Nat) (listed : Array Bool) (a : Act) (w : World),listed.size = l.length + suf.length → t ≤ suf.length → (∀ j,Ls listed j ↔ j < l.length + t) → suf.length - t ≤ fuel →
   wpList P (l ++ suf).toArray K (suf.drop t) a w → wpAny P .any (l ++ suf).toArray K fuel listed a w := by
 intro fuel
 have hnl : ∀ {listed : Array Bool} {j : Nat},listed.getD j true = false → ¬ Ls listed j := fun h h' => by unfold Ls at h'; rw [getD_both h] at h'; cases h'
 induction fuel with
 | zero =>
   intro t listed a w hs ht1 hL hf h
   obtain rfl : t = suf.length := by omega
   rw [List.drop_length] at h
   refine ⟨?_,h⟩
   cases hr : Region.ready .any (l ++ suf).toArray listed with
   | nil => rfl
   | cons j r =>
     exfalso
     obtain ⟨h1,o,ho,_⟩ := mem_ready.1 (show j ∈ Region.ready .any (l ++ suf).toArray listed by rw [hr]; simp)
     have := (Array.getElem?_eq_some_iff.1 ho).1
     simp only [List.size_toArray,List.length_append] at this
     exact hnl h1 ((hL j).2 this)
 | succ fuel ih =>
   intro t listed a w hs ht1 hL hf h
   by_cases hte : t = suf.length
   · subst hte
     rw [List.drop_length] at h
     refine ⟨fun _ => h,fun i hi => ?_⟩
     exfalso
     obtain ⟨h1,o,ho,_⟩ := mem_ready.1 hi
     have := (Array.getElem?_eq_some_iff.1 ho).1
     simp only [List.size_toArray,List.length_append] at this
     exact hnl h1 ((hL i).2 this)
   · have hlt : t < suf.length := by omega
     have hoL : (l ++ suf)[l.length + t]? = some suf[t] := by rw [List.getElem?_append_right (by omega)]; simp
     have hin : l.length + t ∈ Region.ready .any (l ++ suf).toArray listed := by
       refine mem_ready.2 ⟨getD_in (by omega) ?_,suf[t],by simpa using hoL,fun e he hb => ?_⟩
       · have : ¬ Ls listed (l.length + t) := fun h => by have := (hL _).1 h; omega
         unfold Ls at this
         simpa using this
       · have := (tailB_get ht hoL).1 e (by simpa using he) hb
         exact (hL e.on).2 this
     refine ⟨fun hr => ?_,fun i hi => ?_⟩
     · rw [hr] at hin; simp at hin
     · obtain ⟨h1,o,ho,hrd⟩ := mem_ready.1 hi
       have hil : i < l.length + suf.length := by
         have := (Array.getElem?_eq_some_iff.1 ho).1
         simpa using this
       have hge : l.length + t ≤ i := by
         rcases Nat.lt_or_ge i (l.length + t) with h' | h'
         · exact (hnl h1 ((hL i).2 h')).elim
         · exact h'
       have ho' : (l ++ suf)[i]? = some o := by simpa using ho
       obtain rfl : i = l.length + t := by
         rcases Nat.lt_or_ge (l.length + t) i with h' | h'
         · exfalso
           have hb := (tailB_get ht ho').2 (by omega) _ h'
           have := zax (l := l ++ suf) (L := fun j => Ls listed j) (fun j o hj => (tailB_get ht hj).1) (fun j o hj hj2 e he hb => by
             have := (tailB_get ht hj).1 e he hb
             have := (hL j).1 hj2
             exact (hL e.on).2 (by omega)) (i + 1) i _ (Nat.lt_succ_self _) hb o ho' (fun e he hb => hrd e (by simpa using he) hb)
           have := (hL _).1 this
           omega
         · omega
       rw [hoL] at ho'; injection ho' with ho'; subst ho'
       have hd : suf.drop t = suf[t] :: suf.drop (t + 1) := List.drop_eq_getElem_cons hlt
       rw [hd] at h
       have h9 : wpOp P (l ++ suf).toArray K (l.length + t) (wpList P (l ++ suf).toArray K (suf.drop (t + 1))) a w := by
         unfold wpOp
         rw [ho]
         exact h
       refine wpOp_mono (fun a' w' h' => ih (t + 1) _ a' w' (by simpa using hs) hlt (fun j => ?_) (by omega) h') h9
       rw [ls_set (by omega),hL]
       omega
theorem inv_wpAnyT (hT : TOk P T) (hS : Fns P S) (htl : tailB l.length (l ++ suf) = true) (hg : GoodF S T l nm s0) (hst : ∀ j o,l[j]? = some o → (zbx S T l (nm + 8 * j) o (zaf S T l nm s0 j)).1) (h0 : ∀ id b,look s0.2 id = some b → id < nm) {K : Exit → Act → World → Prop}
   (hK : ∀ listed a w loc,InvF S T l nm s0 w0 E B listed a w loc → (∀ j,j < l.length → Ls listed j) → wpList P (l ++ suf).toArray K suf a w) :
   ∀ (fuel : Nat) (listedL listed : Array Bool) (a : Act) (w : World) (loc : Loc),(listedL.size = l.length + suf.length ∧ ∀ j,Ls listedL j ↔ j < l.length ∧ Ls listed j) → InvF S T l nm s0 w0 E B listed a w loc → listedL.toList.count false ≤ fuel → wpAny P .any (l ++ suf).toArray K fuel listedL a w := by
 have hnl' : ∀ {listed : Array Bool} {j : Nat},listed.getD j true = false → ¬ Ls listed j := fun h h' => by unfold Ls at h'; rw [getD_both h] at h'; cases h'
 have hall : ∀ (fuel : Nat) (listedL listed : Array Bool) (a : Act) (w : World) (loc : Loc),(listedL.size = l.length + suf.length ∧ ∀ j,Ls listedL j ↔ j < l.length ∧ Ls listed j) → InvF S T l nm s0 w0 E B listed a w loc → listedL.toList.count false ≤ fuel →
     (∀ j,j < l.length → Ls listed j) → wpAny P .any (l ++ suf).toArray K fuel listedL a w := by
   intro fuel listedL listed a w loc hrel inv hc hj
   refine tail_run htl fuel 0 listedL a w hrel.1 (Nat.zero_le _) (fun j => by rw [hrel.2]; exact ⟨fun h => by omega,fun h => ⟨by omega,hj j (by omega)⟩⟩) ?_ (hK listed a w loc inv hj)
   have h1 : (listedL.toList.drop l.length).count false = suf.length := by
     rw [List.count_eq_length.2]
     · rw [List.length_drop,Array.length_toList,hrel.1]; omega
     · intro b hb
       obtain ⟨i,hi,rfl⟩ := List.getElem_of_mem hb
       rw [List.getElem_drop,Array.getElem_toList]
       have hi' : l.length + i < listedL.size := by rw [List.length_drop,Array.length_toList] at hi; omega
       have h2 : ¬ Ls listedL (l.length + i) := fun h => by have := (hrel.2 _).1 h; omega
       unfold Ls at h2
       simpa [hi'] using (Eq.symm (by simpa [hi'] using h2 : listedL[l.length + i] = false))
   have h2 := List.count_append (a := false) (l₁ := listedL.toList.take l.length) (l₂ := listedL.toList.drop l.length)
   rw [List.take_append_drop] at h2
   omega
 intro fuel
 induction fuel with
 | zero =>
   intro listedL listed a w loc hrel inv hc
   refine hall 0 listedL listed a w loc hrel inv hc (fun j hj => ?_)
   have hj' : j < listedL.size := by rw [hrel.1]; omega
   have h1 : false ∉ listedL.toList := by
     intro hm
     have := List.count_pos_iff.2 hm
     omega
   have h2 : listedL[j] ≠ false := fun e => h1 (by rw [← e]; simp)
   exact ((hrel.2 j).1 (by unfold Ls; simpa [hj'] using h2)).2
 | succ fuel ih =>
   intro listedL listed a w loc hrel inv hc
   by_cases hA : ∀ j,j < l.length → Ls listed j
   · exact hall (fuel + 1) listedL listed a w loc hrel inv hc hA
   have hsub : ∀ i,i < l.length → (i ∈ Region.ready .any l.toArray listed ↔ i ∈ Region.ready .any (l ++ suf).toArray listedL) := by
     intro i hi
     have hnn : listed.getD i true = false ↔ listedL.getD i true = false := by
       constructor
       · intro h
         have h1 := hnl' h
         refine getD_in (by rw [hrel.1]; omega) ?_
         have : ¬ Ls listedL i := fun h' => h1 ((hrel.2 i).1 h').2
         unfold Ls at this; simpa using this
       · intro h
         have h1 := hnl' h
         refine getD_in (by rw [inv.sizel]; exact hi) ?_
         have : ¬ Ls listed i := fun h' => h1 ((hrel.2 i).2 ⟨hi,h'⟩)
         unfold Ls at this; simpa using this
     rw [mem_ready,mem_ready,hnn]
     have hL : (l ++ suf)[i]? = l[i]? := List.getElem?_append_left hi
     simp only [List.getElem?_toArray,hL]
     refine and_congr_right fun _ => exists_congr fun o => and_congr_right fun ho => forall_congr' fun e => forall_congr' fun he => forall_congr' fun hb => ?_
     have := hg.back i o ho e (by simpa using he) hb
     have := hrel.2 e.on
     unfold Ls at this
     rw [this]
     exact ⟨fun h => ⟨by omega,h⟩,fun h => h.2⟩
   refine ⟨fun hr => ?_,fun i hi => ?_⟩
   · exfalso
     refine hA (fun j hj => all_listedF hg inv.sizel ?_ _ j (Nat.lt_succ_self _) hj)
     cases hr2 : Region.ready .any l.toArray listed with
     | nil => rfl
     | cons j r =>
       exfalso
       have hm : j ∈ Region.ready .any l.toArray listed := by rw [hr2]; simp
       obtain ⟨_,o,ho,_⟩ := mem_ready.1 hm
       have hjl : j < l.length := by have := (Array.getElem?_eq_some_iff.1 ho).1; simpa using this
       have := (hsub j hjl).1 hm
       rw [hr] at this; simp at this
   have hlt : i < l.length := by
     rcases Nat.lt_or_ge i l.length with h' | h'
     · exact h'
     · exfalso
       obtain ⟨h1,o,ho,hrd⟩ := mem_ready.1 hi
       have ho' : (l ++ suf)[i]? = some o := by simpa using ho
       refine hA (fun j hj => ?_)
       have hb := (tailB_get htl ho').2 h' j (by omega)
       have := zax (l := l ++ suf) (L := fun j => Ls listedL j) (fun j o hj => (tailB_get htl hj).1) (fun j o hj hj2 e he hb => by
         have h3 := (hrel.2 j).1 hj2
         rw [List.getElem?_append_left h3.1] at hj
         have h4 := inv.closed j o hj h3.2 e he hb
         have := hg.back j o hj e he hb
         exact (hrel.2 e.on).2 ⟨by omega,h4⟩) (i + 1) i _ (Nat.lt_succ_self _) hb o ho' (fun e he hb => hrd e (by simpa using he) hb)
       exact ((hrel.2 j).1 this).2
   obtain ⟨hnl1L,_,hoL,_⟩ := mem_ready.1 hi
   obtain ⟨hnl1,o,ho',hrd'⟩ := mem_ready.1 ((hsub i hlt).2 hi)
   have ho : l[i]? = some o := by simpa using ho'
   have hoL : (l ++ suf).toArray[i]? = some o := by rw [List.getElem?_toArray,List.getElem?_append_left hlt]; exact ho
   have hnl : ¬ Ls listed i := hnl' hnl1
   have hrd : ∀ e ∈ o.after.toList,Region.binds .any e = true → Ls listed e.on := fun e he hb => hrd' e (by simpa using he) hb
   have hrel' : (listedL.setIfInBounds i true).size = l.length + suf.length ∧ ∀ j,Ls (listedL.setIfInBounds i true) j ↔ j < l.length ∧ Ls (listed.setIfInBounds i true) j := by
     refine ⟨by simpa using hrel.1,fun j => ?_⟩
     rw [ls_set (by rw [hrel.1]; omega),ls_set (by rw [inv.sizel]; exact hlt),hrel.2]
     constructor
     · rintro (rfl | h)
       · exact ⟨hlt,.inl rfl⟩
       · exact ⟨h.1,.inr h.2⟩
     · rintro ⟨h1,h | h⟩
       · exact .inl h
       · exact .inr ⟨h1,h⟩
   have hc' : (listedL.setIfInBounds i true).toList.count false ≤ fuel := by
     have := count_set listedL.toList i (by simpa using hnl1L)
     rw [Array.toList_setIfInBounds]
     omega
   have hlook := fun t ht => lookF_now hg inv ho hnl hrd (t := t) ht
   have hlow := zch hst h0 i
   have hev : ∀ x ∈ o.op.operands.toList,R w loc (ev (zaf S T l nm s0 i).1 x) (a.eval x) := by
     intro x hx
     cases x with
     | tmp t => exact hlook t (by unfold Oper.looksAt; exact List.mem_append_left _ (List.mem_filterMap.2 ⟨.tmp t,hx,rfl⟩))
     | const v => exact ev_R (sl := []) (a := a) (fun t => .junk _) (.const v)
     | global g => exact .junk _
     | func f => exact ev_R (sl := []) (a := a) (fun t => .junk _) (.func f)
   have hstep := hst i o ho
   have hfi : ftF S T l nm s0 i = (zbx S T l (nm + 8 * i) o (zaf S T l nm s0 i)).2.2 := by simp only [ftF,ho]
   have hadv := @advanceF S T l nm s0 w0 E B listed a w loc i o hg hst h0 inv ho hnl hrd
   have hheap := fun (hk : zae T o.op ≠ 0) id b => @heapF_now S T l nm s0 w0 E B listed a w loc i o hg inv ho hnl hrd hk id b
   rw [hfi] at hadv hheap
   -- the operation is done
   have hdo : (aopF S T (nm + 8 * i) (zaf S T l nm s0 i).1 o.op (zaf S T l nm s0 i).2).p →
       (zbx S T l (nm + 8 * i) o (zaf S T l nm s0 i)).2.1 = (zai (zaf S T l nm s0 i).1 o.dst (aopF S T (nm + 8 * i) (zaf S T l nm s0 i).1 o.op (zaf S T l nm s0 i).2).x,(aopF S T (nm + 8 * i) (zaf S T l nm s0 i).1 o.op (zaf S T l nm s0 i).2).H) →
       (zbx S T l (nm + 8 * i) o (zaf S T l nm s0 i)).2.2 = foot (zaf S T l nm s0 i).1 o.op (zaf S T l nm s0 i).2 →
       o.wp P a w (wpAny P .any (l ++ suf).toArray K fuel (listedL.setIfInBounds i true)) K := by
     intro hp hs hft
     have hfree : ∀ id,nm + 8 * i ≤ id → id < nm + 8 * i + 8 → loc.m id = .free := inv.fresh i hnl hlt
     rw [hft] at hadv hheap
     by_cases hk : zae T o.op = 0
     · obtain ⟨h1,h2,h3⟩ := pu_aop (H := keepIn (foot (zaf S T l nm s0 i).1 o.op (zaf S T l nm s0 i).2) (zaf S T l nm s0 i).2) (S := S) (sl := (zaf S T l nm s0 i).1) (nm := nm + 8 * i) hk hp.2
       refine zcg hT hS inv.env (H := []) (fun id b h => by simp [look] at h) hfree o hev h1 _ K (fun v w' loc' hpost => ?_)
       obtain ⟨C,hE,hC⟩ := hpost.ext
       have hC' := hC (kind_wr (H := []) (by omega) h1)
       refine ih _ _ _ _ loc' hrel' (hadv (x := _) (C := C) (by rw [hs]) ?_ hE (fun _ => hC') (fun id h => (hC' id h).elim) hpost.fresh hpost.env (inv.base.post hpost) (fun h => (h hk).elim) ) hc'
       have := hpost.r
       rw [h2] at this; exact this
     · refine aopF_sound hT hS inv.env (fun id b hid hl => hheap hk id b hid hl) hfree rfl hev hp _ K (fun v w' loc' wr hpost hext => ?_)
       obtain ⟨C,hE,hC,hCF⟩ := hext
       refine ih _ _ _ _ loc' hrel' (hadv (x := _) (C := C) (by rw [hs]) hpost.r hE hC hCF hpost.fresh hpost.env (inv.base.post hpost) (fun _ id b hor hl => ?_) ) hc'
       rw [hs] at hl
       simp only [aopF] at hl
       rw [zdo] at hl
       cases h1 : look (aop S T (nm + 8 * i) (zaf S T l nm s0 i).1 o.op (keepIn (foot (zaf S T l nm s0 i).1 o.op (zaf S T l nm s0 i).2) (zaf S T l nm s0 i).2)).H id with
       | some c =>
         simp only [h1] at hl
         injection hl with hl
         subst hl
         exact hpost.h id c h1
       | none =>
         simp only [h1,zdn] at hl
         split at hl
         · cases hl
         · rename_i hn
           rcases hor with h2 | h2
           · exact (hn h2).elim
           · have := hlow id b hl; omega
   unfold wpOp
   rw [hoL]
   simp only
   cases hgd : o.guard with
   | none =>
     rw [if_pos (by simp [Region.wanted,hgd])]
     left
     refine hdo ?_ ?_ ?_
     · simpa [zbx,hgd] using hstep
     · simp [zbx,hgd]
     · simp [zbx,hgd]
   | some g =>
     obtain ⟨j,want⟩ := g
     simp only [zbx,hgd] at hstep hdo hadv
     cases hgs : guardSlot l j with
     | none => simp [hgs] at hstep
     | some d =>
       simp only [hgs] at hstep hdo hadv
       have hdl : d ∈ o.looksAt l.toArray := by
         unfold Oper.looksAt
         refine List.mem_append_right _ ?_
         rw [hgd]
         unfold guardSlot at hgs
         cases hj : l[j]? with
         | none => rw [hj] at hgs; cases hgs
         | some oj =>
           rw [hj] at hgs
           simp only at hgs
           simp [hj,hgs]
       have hval := hlook d hdl
       cases hsd : slot (zaf S T l nm s0 i).1 d with
       | w u =>
         cases u with
         | bool b =>
           simp only [hsd] at hstep hdo hadv
           rw [hsd] at hval
           have hval := hval.wv
           have hdlt : d < a.tmps.size := by
             rw [inv.size,← zda hst i]
             rcases Nat.lt_or_ge d (zaf S T l nm s0 i).1.length with h' | h'
             · exact h'
             · rw [zed h'] at hsd; cases hsd
           have hy := yielded_of (ops := (l ++ suf).toArray) (by simpa using guardSlot_app suf hgs) hdlt hval
           have hw : (Region.wanted o (yielded (l ++ suf).toArray a.tmps) = true) ↔ b = want := by simp [Region.wanted,hgd,hy]
           by_cases hbw : b = want
           · rw [if_pos (hw.2 hbw)]
             rw [if_pos hbw] at hstep hdo
             exact .inl (hdo hstep rfl rfl)
           · rw [if_neg (fun h => hbw (hw.1 h))]
             simp only [if_neg hbw] at hadv
             refine ih _ _ _ _ loc hrel' (hadv (x := .tup []) (C := fun _ => False) rfl undef_R (Ext.refl w loc) (fun _ _ h => h) (fun _ h => h.elim) (fun id h h' => (h' h).elim) inv.env inv.base (fun hk id b hor hl => ?_) ) hc'
             rcases hor with h2 | h2
             · simp at h2
             · have := hlow id b hl; omega
         | _ => simp [hsd] at hstep
       | tup xs =>
         cases xs with
         | nil =>
           simp only [hsd] at hadv
           rw [hsd] at hval
           rw [if_neg (by simp [Region.wanted,hgd,zdv (ops := (l ++ suf).toArray) (by simpa using guardSlot_app suf hgs) (tup_R hval)])]
           refine ih _ _ _ _ loc hrel' (hadv (x := .tup []) (C := fun _ => False) rfl undef_R (Ext.refl w loc) (fun _ _ h => h) (fun _ h => h.elim) (fun id h h' => (h' h).elim) inv.env inv.base (fun hk id b hor hl => ?_) ) hc'
           rcases hor with h2 | h2
           · simp at h2
           · have := hlow id b hl; omega
         | cons _ _ => simp [hsd] at hstep
       | _ => simp [hsd] at hstep
theorem drawT_sound (hT : TOk P T) (hS : Fns P S) (hm : P.follows .mixedOrders = true) {pl : List (Nat × Nat)} {K : Exit → Act → World → Prop} {Q : List AV → Heap → Prop} {sl : List AV} {H : Heap} {a : Act} {w : World} {loc : Loc} {id : Nat}
   (hd : drawOkF T l pl = true) (htl : tailB l.length (l ++ suf) = true) (hK : ∀ sl H a w loc,Base w0 B w loc → Rel' w0 E loc ⟨sl,H,nm + 8 * l.length⟩ a w → Q sl H → wpList P (l ++ suf).toArray K suf a w) (hb : Base w0 B w loc)
   (hr : Rel' w0 E loc ⟨sl,H,nm⟩ a w) (h : zfo S T l pl nm [] l sl H Q) : (Code.region id (l ++ suf).toArray true).wp P K a w := by
 obtain ⟨⟨hQ,hmem⟩,hst⟩ := aopsF_trace (S := S) (T := T) (nm := nm) (pl := pl) (Q := Q) (l := l) (s0 := (sl,H)) l 0 (fun j => by rw [Nat.zero_add]) (Nat.zero_add _) (by simpa [zaf] using h)
 have hst' := fun j o ho => hst j o (Nat.zero_le _) ho
 have hg := goodF_of hd hmem
 refine wp_region_any hm ?_
 have hL : ∀ i,¬ Ls (Array.replicate l.length false) i := fun i h => by
   unfold Ls at h
   rw [getD_replicate_false] at h; cases h
 have hL' : ∀ i,¬ Ls (Array.replicate (l ++ suf).toArray.size false) i := fun i h => by
   unfold Ls at h
   rw [getD_replicate_false] at h; cases h
 refine inv_wpAnyT hT hS htl hg hst' hr.low (w0 := w0) (E := E) (B := B) ?_ _ _ (Array.replicate l.length false) _ _ loc ⟨by simp,fun j => ⟨fun h => (hL' j h).elim,fun h => (hL j h.2).elim⟩⟩ ?_ ?_
 · intro listed a w loc inv hall
   have hq : ∀ (i : Nat),i < l.length → (Ls listed i ↔ i < l.length) := fun i hi => ⟨fun _ => hi,fun _ => hall i hi⟩
   have hlt : ∀ {j : Nat} {o : Oper},l[j]? = some o → j < l.length := fun h => (List.getElem?_eq_some_iff.1 h).1
   refine hK _ _ a w loc inv.base ⟨?_,?_,?_,inv.env,inv.high,inv.defers,?_⟩ hQ
   · simp only; rw [zda hst']; exact inv.size
   · exact fun t => inv.slots t _ (Nat.le_refl _) (fun i o ho _ => hq i (hlt ho))
   · exact fun id b hl => inv.heap id _ (Nat.le_refl _) (fun i o ho _ _ => hq i (hlt ho)) b hl
   · exact zch hst' hr.low l.length
 · have hbase : Base w0 B { w with drawn := w.drawn + 1 } loc := hb
   have hE : Ext (fun _ => False) w loc { w with drawn := w.drawn + 1 } loc := ⟨Nat.le_refl _,fun _ _ _ => rfl,fun _ _ _ => .inl rfl,fun _ _ h => ⟨rfl,h⟩,fun _ _ _ _ => rfl,fun _ cur _ fz h => ⟨cur,fz,h,rfl⟩⟩
   have hcl : ∀ {x v},R w loc x v → R { w with drawn := w.drawn + 1 } loc x v := fun h => h.ext hE
   refine ⟨by simp,hr.size,?_,?_,?_,?_,?_,⟨hr.env.os,hr.env.tape,hr.env.output,hr.env.size,hr.env.same,hr.env.inj,hr.env.lies,hr.env.bad⟩,hbase,hr.defers⟩
   · intro t k hk hq
     have e : slot (zaf S T l nm (sl,H) k).1 t = slot sl t := by
       refine traceF_slot hst' (i := 0) (Nat.zero_le _) (fun j o _ hj ho hd => ?_)
       exact hL j ((hq j o ho hd).2 hj)
     rw [e]
     exact hcl (hr.slots t)
   · intro id k hk hq b hl
     by_cases hf : loc.m id = .free
     · exact BlkR.free hf
     · have hidn : id < nm := by
         rcases Nat.lt_or_ge id nm with h' | h'
         · exact h'
         · exact (hf (hr.fresh id h')).elim
       have e : look (zaf S T l nm (sl,H) k).2 id = look H id := by
         refine traceF_keep hst' (i := 0) (Nat.zero_le _) (fun j o _ hj ho => ⟨?_,.inr (by omega)⟩)
         by_cases hid : id ∈ ftF S T l nm (sl,H) j
         · left
           have hle : zae T o.op ≤ 2 := zfi T o.op
           have hne : zae T o.op ≠ 2 := fun h2 => hL j ((hq j o ho h2 hid).2 hj)
           omega
         · exact .inr hid
       rw [e] at hl
       exact (hr.heap id b hl).ext hE (fun h => h) hf
   · intro j o ho hl; exact (hL j hl).elim
   · intro i _ hi id h1 h2; exact hr.fresh id (by simp only; omega)
   · intro id h1; exact hr.fresh id (by simp only; omega)
 · simp
end
end Ax
end Go.Proofs.Ytlpjdgkpapjldaa
namespace Go.Proofs.Ytlpjdgkpapjldaa
namespace Ax
open Go.RowKit
def FnsO (P : Program) (S : zag) : Prop := ∀ f s,S f = some s → Entered P f ∧ SoundO P f s
def noO : zag := fun _ => none
theorem noO_ok {P : Program} : FnsO P noO := fun f s h => by cases h
def zcl (SO : zag) (T : zab) (nm : Nat) (sl : List AV) (op : Op) (H : Heap) : Out :=
 match op with
 | .call c => match c.callee with
   | .value f => match ev sl f with
     | .fn f caps => aOpen SO nm f (coes T c.argTypes.toList (evs sl c.args.toList) ++ caps) H
     | _ => bad
   | _ => bad
 | _ => bad
theorem open_sound {P : Program} {w0 : World} {E : Nat → Prop} {w : World} {loc : Loc} {H : Heap} {T : zab} {SO : zag} (hS : FnsO P SO) (he : Env w0 E w loc) (hh : HR w loc H) {nm : Nat} (hfree : ∀ id,nm ≤ id → id < nm + 8 → loc.m id = .free) {sl : List AV} {a : Act} (o : Oper)
   (hev : ∀ x,R w loc (ev sl x) (a.eval x)) (hp : (zcl SO T nm sl o.op H).p) : Sd P w0 E w loc true nm (zcl SO T nm sl o.op H) o a := by
 cases ho : o.op with
 | call c =>
   obtain ⟨callee,args,argTypes⟩ := c
   cases callee with
   | value f =>
     have hfv := hev f
     simp only [zcl,ho] at hp ⊢
     generalize ev sl f = xf at hfv hp ⊢
     split at hp
     · rename_i g caps
       cases hv : a.eval f with
       | func fn first captured =>
         rw [hv] at hfv
         cases hfv with
         | fn _ _ cs hlc hc =>
           obtain ⟨e1,e2⟩ := evs_R (w := w) (loc := loc) (sl := sl) (a := a) args.toList (fun x _ => hev x)
           obtain ⟨c1,c2⟩ := coes_R (T := T) (w := w) (loc := loc) argTypes.toList (evs sl args.toList)
           have c2 := c2 (args.toList.map a.eval) e2
           have c3 : ∀ (j : Nat) (h : j < (coes T argTypes.toList (evs sl args.toList) ++ caps).length) (h' : j < (args.toList.map a.eval ++ cs).length),R w loc (coes T argTypes.toList (evs sl args.toList) ++ caps)[j] (args.toList.map a.eval ++ cs)[j] := by
             intro j h h'
             have hl : (coes T argTypes.toList (evs sl args.toList)).length = (args.toList.map a.eval).length := by rw [c1,e1]; simp
             by_cases hj : j < (coes T argTypes.toList (evs sl args.toList)).length
             · rw [List.getElem_append_left hj,List.getElem_append_left (by omega)]
               exact c2 j hj (by omega)
             · rw [List.getElem_append_right (by omega),List.getElem_append_right (by omega)]
               have := hc (j - (coes T argTypes.toList (evs sl args.toList)).length) (by rw [List.length_append] at h; omega) (by rw [List.length_append] at h'; omega)
               simpa only [hl] using this
           cases hsg : SO g with
           | none => simp [aOpen,hsg,bad] at hp
           | some sp =>
             obtain ⟨⟨fn,hfn,hbody,hname⟩,hsound⟩ := hS g sp hsg
             have hcall := call_postO (P := P) he hh hfree (SO := SO) (fun f s h => (hS f s h).2) (f := g) (by rw [List.length_append,List.length_append,c1,e1,hlc]; simp) c3 hp
             have hrun : (execOp a.eval o).run P w = .ok (.enter g (args.toList.map a.eval ++ cs).toArray) w := by
               have h1 : fn.name ≠ "runtime.NumGoroutine" := by simpa using hname
               have hb' : fn.body ≠ none := by intro e; rw [e] at hbody; simp at hbody
               have h9 : Array.map a.eval args = (args.toList.map a.eval).toArray := by rw [← Array.toList_inj]; simp
               simp [execOp,ho,resolve,hv,Deferred.ofValue,invoke,callFunc,hfn,h1,hb',h9]
             intro next Q hn
             unfold Oper.wp
             rw [hrun]
             refine hcall.mono ?_
             rintro e w' ⟨v,loc',rfl,h1⟩
             exact hn v w' loc' h1
       | _ => rw [hv] at hfv; cases hfv
     · exact hp.elim
   | _ => simp [zcl,ho,bad] at hp
 | _ => simp [zcl,ho,bad] at hp
theorem walk_look {H : Heap} : ∀ (ids good : List Nat),walk H good ids = true → ∀ id ∈ ids,look H id ≠ none
 | [],_,_,id,hid => by simp at hid
 | k :: r,good,hw,id,hid => by
   simp only [walk,Bool.and_eq_true] at hw
   cases hl : look H k with
   | none => simp [hl] at hw
   | some blk =>
     simp only [hl] at hw
     rcases List.mem_cons.1 hid with rfl | hid
     · rw [hl]; simp
     · exact walk_look r _ hw.2 id hid
theorem hnew_open {SO : zag} {T : zab} {sl : List AV} {op : Op} {nm : Nat} {H : Heap} : Hnew nm H (zcl SO T nm sl op H) := by
 unfold zcl
 split
 · split
   · split
     · unfold aOpen
       split
       · rename_i f _ spec hs
         intro hp id b hl
         simp only [openOut] at hp hl
         generalize reach H 12 [] (idsL _) = ids at *
         obtain ⟨⟨hnd,hwalk,hain,hpin⟩,hsp,hb1,hb2⟩ := hp
         rcases look_backO _ _ _ hl with ⟨j,hj,h1,h2⟩ | ⟨h1,h2⟩
         · rw [Nat.zero_add] at h1
           by_cases hjl : j < ids.length
           · rw [zee hjl] at h1
             left
             rw [← h1]
             exact walk_look ids _ hwalk _ (List.getElem_mem hjl)
           · rw [zdp (by omega)] at h1
             right; omega
         · exact .inl (by rw [h1]; simp)
       · exact hok_bad.new
     · exact hok_bad.new
   · exact hok_bad.new
 · exact hok_bad.new
def aopsO (S SO : zag) (T : zab) (ops : List Oper) : Nat → Nat → List Oper → List AV → Heap → (List AV → Heap → Prop) → Prop
 | _,_,[],sl,H,Q => Q sl H
 | 0,nm,o :: r,sl,H,Q => o.guard = none ∧ (zcl SO T nm sl o.op H).p ∧ aops S T ops (nm + 8) r (zai sl o.dst (zcl SO T nm sl o.op H).x) (zcl SO T nm sl o.op H).H Q
 | k + 1,nm,o :: r,sl,H,Q => o.guard = none ∧ (aop S T nm sl o.op H).p ∧ aopsO S SO T ops k (nm + 8) r (zai sl o.dst (aop S T nm sl o.op H).x) (aop S T nm sl o.op H).H Q
theorem aopsO_sound {P : Program} {w0 : World} {E : Nat → Prop} {T : zab} {S SO : zag} (hT : TOk P T) (hS : Fns P S) (hSO : FnsO P SO) {ops : Array Oper} {K : Exit → Act → World → Prop} {Q : List AV → Heap → Prop} {B : Bs} {nz : Nat}
   (hK : ∀ sl H a w loc,Base w0 B w loc → Rel' w0 E loc ⟨sl,H,nz⟩ a w → Q sl H → K .normal a w) : ∀ (k : Nat) (r : List Oper) (nm : Nat) (sl : List AV) (H : Heap) (a : Act) (w : World) (loc : Loc),nz = nm + 8 * r.length → Base w0 B w loc →
   Rel' w0 E loc ⟨sl,H,nm⟩ a w → aopsO S SO T ops.toList k nm r sl H Q → wpList P ops K r a w
 | k,[],nm,sl,H,a,w,loc,hz,hb,hr,h => by
   simp only [List.length_nil,Nat.mul_zero,Nat.add_zero] at hz
   subst hz
   exact wpList_nil (hK sl H a w loc hb hr (by cases k <;> exact h))
 | 0,o :: r,nm,sl,H,a,w,loc,hz,hb,hr,h => by
   have hz' : nz = nm + 8 + 8 * r.length := by simp at hz; omega
   obtain ⟨hg,hp,hrest⟩ := h
   refine wpList_step fun Kn hKn => ?_
   rw [if_pos (by simp [Region.wanted,hg])]
   have hop := open_sound (T := T) hSO hr.env hr.heap (fun id h1 _ => hr.fresh id h1) o (fun x => ev_R hr.slots x) hp
   exact hop Kn K (fun v w' loc' hpost => hKn _ _ (zcy (ops := ops) hT hS hK r (nm + 8) _ _ _ w' loc' hz' (hb.post hpost) (zfs hr hpost (hnew_open hp) o.dst) hrest))
 | k + 1,o :: r,nm,sl,H,a,w,loc,hz,hb,hr,h => by
   have hz' : nz = nm + 8 + 8 * r.length := by simp at hz; omega
   obtain ⟨hg,hp,hrest⟩ := h
   refine wpList_step fun Kn hKn => ?_
   rw [if_pos (by simp [Region.wanted,hg])]
   have hop := zcg hT hS hr.env hr.heap (fun id h1 _ => hr.fresh id h1) o (fun x _ => ev_R hr.slots x) hp
   exact hop Kn K (fun v w' loc' hpost => hKn _ _ (aopsO_sound hT hS hSO hK k r (nm + 8) _ _ _ w' loc' hz' (hb.post hpost) (zfs hr hpost (zel hp) o.dst) hrest))
def specOp (T : zab) (sl : List AV) (op : Op) (K : AV → Prop) : Prop :=
 match op with
 | .binOp .eql t x (.const (.slice none 0 0)) _ => match T t with
   | some ti => match ti.d with
     | .slice _ => match ev sl x with
       | .sg s xs _ => 0 < s ∧ ∀ b,(b = true → xs.length = 0) → K (.w (.bool b))
       | .sb xs _ => ∀ b,(b = true → xs.length = 0) → K (.w (.bool b))
       | .si xs _ => ∀ b,(b = true → xs.length = 0) → K (.w (.bool b))
       | _ => False
     | _ => False
   | none => False
 | .buildSlice t 0 ps => match T t with
   | some ti => match ti.d with
     | .slice e => match T e with
       | some te => ps = #[] ∧ 0 < te.size ∧ K (.sg te.size [] true)
       | none => False
     | _ => False
   | none => False
 | .call c => match c.callee with
   | .builtin .append => match c.args.toList,c.argTypes.toList with
     | [x,y],[t,u] => match T t,T u with
       | some ti,some tu => match ti.d,tu.d with
         | .slice e,.slice _ => match T e with
           | some te => match ev sl x,ev sl y with
             | .sg s [] true,.sg _ [] _ => 0 < te.size ∧ K (.sg s [] true)
             | .sg s [] true,.sb [] _ => 0 < te.size ∧ K (.sg s [] true)
             | .sg s [] true,.si [] _ => 0 < te.size ∧ K (.sg s [] true)
             | _,_ => False
           | none => False
         | _,_ => False
       | _,_ => False
     | _,_ => False
   | _ => False
 | _ => False
theorem append_none {P : Program} {t u ty e e' : TypeId} {te : TyI} (hd : P.underlying t = some (.slice e)) (hu : P.underlying u = some (.slice e')) (hty : TyR P e te) (a a' : Option Addr) (c : Nat) (w : World) :
   (Builtin.append_ #[t,u] ty #[.slice a 0 0,.slice a' 0 c]).run P w = .ok (.slice a 0 0) w := by
 have hsz := fun W => zas (P := P) hty W
 have hlc : ∀ (b : Addr) W,(loadCells b 0).run P W = .ok #[] W := fun b W => by simp [loadCells,loadCellsFrom]
 have hst : ∀ (b : Addr) W,(storeCells b []).run P W = .ok () W := fun b W => by simp [storeCells]
 unfold Builtin.append_
 cases a <;> cases a' <;> simp [run_underlying hd,run_underlying hu,hsz,Builtin.lenOf,Builtin.firstCells,hlc,hst]
theorem specOp_sound {P : Program} {w0 : World} {E : Nat → Prop} {T : zab} (hT : TOk P T) {w : World} {loc : Loc} {H : Heap} (he : Env w0 E w loc) (hh : HR w loc H) {nm : Nat} {sl : List AV} {a : Act} {op : Op} {K : AV → Prop} (hev : ∀ x,R w loc (ev sl x) (a.eval x)) (h : specOp T sl op K) :
   ∃ x v w',K x ∧ Post w0 E w loc true nm x H v w' loc ∧ ∀ o : Oper,o.op = op → (execOp a.eval o).run P w = .ok (.value v) w' := by
 unfold specOp at h
 split at h
 · rename_i t x yt
   cases ht : T t with
   | none => simp [ht] at h
   | some ti =>
     simp only [ht] at h
     split at h
     · rename_i e hd
       have hu : ∃ e,P.underlying t = some (.slice e) := by
         have := (hT t ti ht).d
         rw [hd] at this
         exact ⟨_,this⟩
       obtain ⟨e,hu⟩ := hu
       have hx := hev x
       generalize ev sl x = xv at hx h
       split at h
       · rename_i s xs f
         obtain ⟨hs,h⟩ := h
         generalize hv : a.eval x = v at hx
         cases hx with
         | sg _ _ _ ad cap cs hd hs' hc hl hx' _ =>
           refine ⟨_,.bool ad.isNone,w,h ad.isNone fun hn => ?_,Post.pure (.w _ rfl) hh he,fun o ho => ?_⟩
           · cases xs with
             | nil => rfl
             | cons y ys =>
               exfalso
               obtain rfl : ad = none := by simpa using hn
               rcases hc.lies with rfl | ⟨b,o,he,_⟩
               · have := hs' y (by simp)
                 rw [List.flatMap_cons,List.length_append,List.length_nil] at hl
                 omega
               · cases he
           · have heq : ∀ d,(Op.equalIn (d + 1) t (.slice ad xs.length cap) (.slice none 0 0)).run P w = .ok ad.isNone w := fun d => by cases ad <;> simp [Op.equalIn,run_underlying hu]
             have heq := heq 9999
             have h2 : (Op.equal t (.slice ad xs.length cap) (.slice none 0 0)).run P w = .ok ad.isNone w := heq
             simp only [execOp,ho,hv]
             simp [zbv (u := .slice ad xs.length cap) rfl (by simp),binOp,h2,Act.eval]
       · rename_i xs f
         generalize hv : a.eval x = v at hx
         cases hx with
         | sb _ _ ad cap hd hc =>
           refine ⟨_,.bool ad.isNone,w,h ad.isNone fun hn => ?_,Post.pure (.w _ rfl) hh he,fun o ho => ?_⟩
           · cases xs with
             | nil => rfl
             | cons y ys =>
               exfalso
               obtain rfl : ad = none := by simpa using hn
               rcases hc.lies with hcs | ⟨b,o,he,_⟩
               · simp at hcs
               · cases he
           · have heq : ∀ d,(Op.equalIn (d + 1) t (.slice ad xs.length cap) (.slice none 0 0)).run P w = .ok ad.isNone w := fun d => by cases ad <;> simp [Op.equalIn,run_underlying hu]
             have heq := heq 9999
             have h2 : (Op.equal t (.slice ad xs.length cap) (.slice none 0 0)).run P w = .ok ad.isNone w := heq
             simp only [execOp,ho,hv]
             simp [zbv (u := .slice ad xs.length cap) rfl (by simp),binOp,h2,Act.eval]
       · rename_i xs f
         generalize hv : a.eval x = v at hx
         cases hx with
         | si _ _ ad cap hd hc =>
           refine ⟨_,.bool ad.isNone,w,h ad.isNone fun hn => ?_,Post.pure (.w _ rfl) hh he,fun o ho => ?_⟩
           · cases xs with
             | nil => rfl
             | cons y ys =>
               exfalso
               obtain rfl : ad = none := by simpa using hn
               rcases hc.lies with hcs | ⟨b,o,he,_⟩
               · simp at hcs
               · cases he
           · have heq : ∀ d,(Op.equalIn (d + 1) t (.slice ad xs.length cap) (.slice none 0 0)).run P w = .ok ad.isNone w := fun d => by cases ad <;> simp [Op.equalIn,run_underlying hu]
             have heq := heq 9999
             have h2 : (Op.equal t (.slice ad xs.length cap) (.slice none 0 0)).run P w = .ok ad.isNone w := heq
             simp only [execOp,ho,hv]
             simp [zbv (u := .slice ad xs.length cap) rfl (by simp),binOp,h2,Act.eval]
       · exact h.elim
     · exact h.elim
 · rename_i t ps
   cases ht : T t with
   | none => simp [ht] at h
   | some ti =>
     simp only [ht] at h
     split at h
     · rename_i e hd
       have hu : P.underlying t = some (.slice e) := by
         have := (hT t ti ht).d
         rw [hd] at this
         exact this
       cases hte : T e with
       | none => simp [hte] at h
       | some te =>
         simp only [hte] at h
         obtain ⟨rfl,hs,hK⟩ := h
         have hty := hT _ te hte
         obtain ⟨z,z1,z2,z3⟩ := zbe hty w
         have hrun := zdb (P := P) (t := t) (n := 0) (pv := #[]) (cs := #[]) hu hty z1 hs (by omega) (by simp [Instr.fill])
         refine ⟨_,.slice (some ⟨w.heap.size,0,none⟩) 0 0,{ w with heap := w.heap.push (.cells #[] e) },hK,post_anon (o := .cells #[] e) he hh ⟨rfl,rfl,rfl,rfl⟩ (fun _ => .sg _ [] true _ 0 [] ⟨Nat.le_refl _,Nat.zero_le _,fun _ => rfl⟩ (by simp) ⟨.inl rfl⟩ rfl (by simp) (by simp)),fun o ho => ?_⟩
         simp [execOp,ho,hrun]
     · exact h.elim
 · rename_i c
   obtain ⟨callee,args,argTypes⟩ := c
   simp only at h
   split at h
   · split at h
     · rename_i d x t u ha hb
       cases ht : T t with
       | none => simp [ht] at h
       | some ti =>
         cases htu : T u with
         | none => simp [ht,htu] at h
         | some tu =>
           simp only [ht,htu] at h
           have hd := (hT t ti ht).d
           have hud := (hT u tu htu).d
           split at h
           · rename_i e e' hdd hdu
             rw [hdd] at hd
             rw [hdu] at hud
             have hd : P.underlying t = some (.slice e) := hd
             have hud : P.underlying u = some (.slice e') := hud
             cases hte : T e with
             | none => simp [hte] at h
             | some te =>
               simp only [hte] at h
               have hty := hT _ te hte
               have hdv := hev d
               have hxv := hev x
               generalize ev sl d = dv at hdv h
               generalize ev sl x = xv at hxv h
               split at h
               · rename_i s s' f'
                 obtain ⟨hs,hK⟩ := h
                 obtain rfl : args = #[d,x] := by rw [← Array.toList_inj]; exact ha
                 obtain rfl : argTypes = #[t,u] := by rw [← Array.toList_inj]; exact hb
                 generalize hv1 : a.eval d = v1 at hdv
                 generalize hv2 : a.eval x = v2 at hxv
                 cases hdv with
                 | sg _ _ _ ad cap cs hdm hs' hc hl hx' hh' =>
                   obtain rfl : cap = 0 := hdm.full rfl
                   cases hxv with
                   | sg _ _ _ ad2 cap2 cs2 hdm2 hs2 hc2 hl2 hx2 hh2 =>
                     refine ⟨_,.slice ad 0 0,w,hK,Post.pure (.sg _ [] true ad 0 cs hdm hs' hc hl hx' hh') hh he,fun o ho => ?_⟩
                     have h1 := append_none (P := P) (ty := o.type) hd hud hty ad ad2 cap2 w
                     simp only [execOp,ho,resolve,invoke,builtin,Sem.run_bind,Sem.run_pure,Result.andThen_ok]
                     simp [hv1,hv2,h1]
               · rename_i s f'
                 obtain ⟨hs,hK⟩ := h
                 obtain rfl : args = #[d,x] := by rw [← Array.toList_inj]; exact ha
                 obtain rfl : argTypes = #[t,u] := by rw [← Array.toList_inj]; exact hb
                 generalize hv1 : a.eval d = v1 at hdv
                 generalize hv2 : a.eval x = v2 at hxv
                 cases hdv with
                 | sg _ _ _ ad cap cs hdm hs' hc hl hx' hh' =>
                   obtain rfl : cap = 0 := hdm.full rfl
                   cases hxv with
                   | sb _ _ ad2 cap2 hdm2 hc2 =>
                     refine ⟨_,.slice ad 0 0,w,hK,Post.pure (.sg _ [] true ad 0 cs hdm hs' hc hl hx' hh') hh he,fun o ho => ?_⟩
                     have h1 := append_none (P := P) (ty := o.type) hd hud hty ad ad2 cap2 w
                     simp only [execOp,ho,resolve,invoke,builtin,Sem.run_bind,Sem.run_pure,Result.andThen_ok]
                     simp [hv1,hv2,h1]
               · rename_i s f'
                 obtain ⟨hs,hK⟩ := h
                 obtain rfl : args = #[d,x] := by rw [← Array.toList_inj]; exact ha
                 obtain rfl : argTypes = #[t,u] := by rw [← Array.toList_inj]; exact hb
                 generalize hv1 : a.eval d = v1 at hdv
                 generalize hv2 : a.eval x = v2 at hxv
                 cases hdv with
                 | sg _ _ _ ad cap cs hdm hs' hc hl hx' hh' =>
                   obtain rfl : cap = 0 := hdm.full rfl
                   cases hxv with
                   | si _ _ ad2 cap2 hdm2 hc2 =>
                     refine ⟨_,.slice ad 0 0,w,hK,Post.pure (.sg _ [] true ad 0 cs hdm hs' hc hl hx' hh') hh he,fun o ho => ?_⟩
                     have h1 := append_none (P := P) (ty := o.type) hd hud hty ad ad2 cap2 w
                     simp only [execOp,ho,resolve,invoke,builtin,Sem.run_bind,Sem.run_pure,Result.andThen_ok]
                     simp [hv1,hv2,h1]
               · exact h.elim
           · exact h.elim
     · exact h.elim
   · exact h.elim
 · exact h.elim
def aopsT (S : zag) (T : zab) (ops : List Oper) : List Bool → Nat → List Oper → List AV → Heap → (List AV → Heap → Prop) → Prop
 | _,_,[],sl,H,Q => Q sl H
 | [],nm,r,sl,H,Q => aops S T ops nm r sl H Q
 | true :: l,nm,o :: r,sl,H,Q => o.guard = none ∧ specOp T sl o.op (fun x => aopsT S T ops l (nm + 8) r (zai sl o.dst x) H Q)
 | false :: l,nm,o :: r,sl,H,Q => o.guard = none ∧ (aop S T nm sl o.op H).p ∧ aopsT S T ops l (nm + 8) r (zai sl o.dst (aop S T nm sl o.op H).x) (aop S T nm sl o.op H).H Q
theorem aopsT_sound {P : Program} {w0 : World} {E : Nat → Prop} {T : zab} {S : zag} (hT : TOk P T) (hS : Fns P S) {ops : Array Oper} {K : Exit → Act → World → Prop} {Q : List AV → Heap → Prop} {B : Bs} {nz : Nat}
   (hK : ∀ sl H a w loc,Base w0 B w loc → Rel' w0 E loc ⟨sl,H,nz⟩ a w → Q sl H → K .normal a w) : ∀ (k : List Bool) (r : List Oper) (nm : Nat) (sl : List AV) (H : Heap) (a : Act) (w : World) (loc : Loc),nz = nm + 8 * r.length → Base w0 B w loc →
   Rel' w0 E loc ⟨sl,H,nm⟩ a w → aopsT S T ops.toList k nm r sl H Q → wpList P ops K r a w
 | k,[],nm,sl,H,a,w,loc,hz,hb,hr,h => by
   simp only [List.length_nil,Nat.mul_zero,Nat.add_zero] at hz
   subst hz
   exact wpList_nil (hK sl H a w loc hb hr (by cases k with | nil => exact h | cons b _ => cases b <;> exact h))
 | [],o :: r,nm,sl,H,a,w,loc,hz,hb,hr,h => zcy (ops := ops) hT hS hK (o :: r) nm sl H a w loc hz hb hr h
 | true :: l,o :: r,nm,sl,H,a,w,loc,hz,hb,hr,h => by
   have hz' : nz = nm + 8 + 8 * r.length := by simp at hz; omega
   obtain ⟨hg,hp⟩ := h
   refine wpList_step fun Kn hKn => ?_
   rw [if_pos (by simp [Region.wanted,hg])]
   obtain ⟨x,v,w',hrest,hpost,hrun⟩ := specOp_sound (P := P) (nm := nm) hT hr.env hr.heap (fun x => ev_R hr.slots x) hp
   exact (zaj (w' := w') (loc' := loc) (out := ⟨True,x,H⟩) (hrun o rfl) hpost) Kn K (fun v w' loc' hpost => hKn _ _ (aopsT_sound hT hS hK l r (nm + 8) _ _ _ w' loc' hz' (hb.post hpost) (zfs hr hpost (fun id b hl => Or.inl (by show look H id ≠ none; intro e; rw [show look H id = some b from hl] at e; cases e)) o.dst) hrest))
 | false :: l,o :: r,nm,sl,H,a,w,loc,hz,hb,hr,h => by
   have hz' : nz = nm + 8 + 8 * r.length := by simp at hz; omega
   obtain ⟨hg,hp,hrest⟩ := h
   refine wpList_step fun Kn hKn => ?_
   rw [if_pos (by simp [Region.wanted,hg])]
   have hop := zcg hT hS hr.env hr.heap (fun id h1 _ => hr.fresh id h1) o (fun x _ => ev_R hr.slots x) hp
   exact hop Kn K (fun v w' loc' hpost => hKn _ _ (aopsT_sound hT hS hK l r (nm + 8) _ _ _ w' loc' hz' (hb.post hpost) (zfs hr hpost (zel hp) o.dst) hrest))
inductive RP where
 | std
 | frz (fs : List Nat)
 | opn (fs : List Nat) (k : Nat)
 | prs (l : List (Nat × Nat))
 | tst (k : List Bool)
 | wkp (l : List (Nat × Nat))
 | drs (l : List (Nat × Nat)) (k : Nat)
 | wks
abbrev XPlan := Nat → RP
def zck (T : zab) (pl : XPlan) : Code → Bool
 | .region id ops draw => match pl id with
   | .std => !draw || drawOk T ops.toList
   | .frz _ => !draw || drawOk T ops.toList
   | .opn _ _ => !draw
   | .tst _ => !draw
   | .prs p => draw && drawOkF T ops.toList p
   | .wkp p => draw && drawOkF T ops.toList p
   | .wks => !draw || drawOk T ops.toList
   | .drs p k => draw && (decide (k ≤ ops.toList.length) && (drawOkF T (ops.toList.take k) p && tailB k ops.toList))
 | .seq a b => zck T pl a && zck T pl b
 | .cond _ a b => zck T pl a && zck T pl b
 | .block _ c => zck T pl c
 | .loop c => zck T pl c
 | _ => true
def wkF (S : zag) (T : zab) (l : List Oper) (p : List (Nat × Nat)) (nx : Nat) (sl : List AV) (H : Heap) (Q : Exit → ASt → Prop) : Prop := ∃ sl' H',Weak ⟨sl,H,nx⟩ ⟨sl',H',nx⟩ ∧ zfo S T l p nx [] l sl' H' (regK (nx + 8 * l.length) Q)
def drF (S SO : zag) (T : zab) (l : List Oper) (p : List (Nat × Nat)) (k nx : Nat) (sl : List AV) (H : Heap) (Q : Exit → ASt → Prop) : Prop :=
 ∃ sl' H',Weak ⟨sl,H,nx⟩ ⟨sl',H',nx⟩ ∧ zfo S T (l.take k) p nx [] (l.take k) sl' H' (fun sl H => aopsO S SO T l 0 (nx + 8 * k) (l.drop k) sl H (regK (nx + 8 * l.length) Q))
def wsF (S : zag) (T : zab) (l : List Oper) (nx : Nat) (sl : List AV) (H : Heap) (Q : Exit → ASt → Prop) : Prop := ∃ sl' H',Weak ⟨sl,H,nx⟩ ⟨sl',H',nx⟩ ∧ aops S T l nx l sl' H' (regK (nx + 8 * l.length) Q)
def awpO (S SO : zag) (T : zab) (pl : XPlan) : Code → (Exit → ASt → Prop) → ASt → Prop
 | .skip,Q,σ => Q .normal σ
 | .label _,Q,σ => Q .normal σ
 | .region id ops _,Q,σ => match pl id with
   | .std => aops S T ops.toList σ.nx ops.toList σ.sl σ.H (regK (σ.nx + 8 * ops.toList.length) Q)
   | .prs p => zfo S T ops.toList p σ.nx [] ops.toList σ.sl σ.H (regK (σ.nx + 8 * ops.toList.length) Q)
   | .frz fs => frzK fs σ.sl σ.H (fun sl H => aops S T ops.toList σ.nx ops.toList sl H (regK (σ.nx + 8 * ops.toList.length) Q))
   | .opn fs k => frzK fs σ.sl σ.H (fun sl H => aopsO S SO T ops.toList k σ.nx ops.toList sl H (regK (σ.nx + 8 * ops.toList.length) Q))
   | .tst k => aopsT S T ops.toList k σ.nx ops.toList σ.sl σ.H (regK (σ.nx + 8 * ops.toList.length) Q)
   | .wkp p => wkF S T ops.toList p σ.nx σ.sl σ.H Q
   | .drs p k => drF S SO T ops.toList p k σ.nx σ.sl σ.H Q
   | .wks => wsF S T ops.toList σ.nx σ.sl σ.H Q
 | .seq a b,Q,σ => awpO S SO T pl a (seqK (awpO S SO T pl b Q) Q) σ
 | .cond c a b,Q,σ => match ev σ.sl c with
     | .w (.bool t) => csplit t (awpO S SO T pl a Q σ) (awpO S SO T pl b Q σ)
     | _ => False
 | .block id c,Q,σ => awpO S SO T pl c (blockK id Q) σ
 | .loop c,Q,σ => ALoop (awpO S SO T pl c) Q σ
 | .exit id,Q,σ => Q (.exit id) σ
 | .ret,Q,σ => Q .ret σ
 | _,_,_ => False
open Classical in
theorem awpO_sound {P : Program} {w0 : World} {E : Nat → Prop} {T : zab} {S SO : zag} {pl : XPlan} (hm : P.follows .mixedOrders = true) (hT : TOk P T) (hS : Fns P S) (hSO : FnsO P SO) {B : Bs} : ∀ (c : Code) (Q : Exit → ASt → Prop) (σ : ASt) (a : Act) (w : World),
   zck T pl c = true → awpO S SO T pl c Q σ → Rel w0 E B σ a w → c.wp P (Low w0 E B Q) a w := by
 intro c
 induction c with
 | skip => intro Q σ a w hdr h hr; exact wp_skip ⟨σ,hr,h⟩
 | label l => intro Q σ a w hdr h hr; exact wp_label ⟨σ,hr,h⟩
 | ret => intro Q σ a w hdr h hr; exact wp_ret ⟨σ,hr,h⟩
 | exit id => intro Q σ a w hdr h hr; exact wp_exit ⟨σ,hr,h⟩
 | region id ops draw =>
   intro Q σ a w hdr h hr
   obtain ⟨loc,hb,hr⟩ := hr
   obtain ⟨sl,H,nx⟩ := σ
   have hK : ∀ sl H a w loc,Base w0 B w loc → Rel' w0 E loc ⟨sl,H,nx + 8 * ops.toList.length⟩ a w → regK (nx + 8 * ops.toList.length) Q sl H → Low w0 E B Q .normal a w := fun sl H a w loc h1 h2 h3 => ⟨_,⟨loc,h1,h2⟩,h3⟩
   simp only [zck] at hdr
   simp only [awpO] at h
   cases hp : pl id with
   | std =>
     simp only [hp] at hdr h
     cases draw with
     | false => exact wp_region_list (zcy hT hS hK ops.toList nx sl H a w loc rfl hb hr h)
     | true => exact zeu hT hS hm w0 E ops.toList _ _ B nx sl H a w loc id (by simpa using hdr) hK hb hr h
   | prs p =>
     simp only [hp] at hdr h
     simp only [Bool.and_eq_true] at hdr
     obtain ⟨hd1,hd2⟩ := hdr
     subst hd1
     exact drawF_sound hT hS hm hd2 hK hb hr h
   | frz fs =>
     simp only [hp] at hdr h
     obtain ⟨sl',H',hw,h⟩ := frzK_sound (nx := nx) _ _ _ _ h
     obtain ⟨loc',hb',hr'⟩ := hw _ _ _ _ _ ⟨loc,hb,hr⟩
     cases draw with
     | false => exact wp_region_list (zcy hT hS hK ops.toList nx sl' H' a w loc' rfl hb' hr' h)
     | true => exact zeu hT hS hm w0 E ops.toList _ _ B nx sl' H' a w loc' id (by simpa using hdr) hK hb' hr' h
   | opn fs k =>
     simp only [hp] at hdr h
     obtain ⟨sl',H',hw,h⟩ := frzK_sound (nx := nx) _ _ _ _ h
     obtain ⟨loc',hb',hr'⟩ := hw _ _ _ _ _ ⟨loc,hb,hr⟩
     cases draw with
     | false => exact wp_region_list (aopsO_sound hT hS hSO hK k ops.toList nx sl' H' a w loc' rfl hb' hr' h)
     | true => simp at hdr
   | tst k =>
     simp only [hp] at hdr h
     cases draw with
     | false => exact wp_region_list (aopsT_sound hT hS hK k ops.toList nx sl H a w loc rfl hb hr h)
     | true => simp at hdr
   | wkp p =>
     simp only [hp] at hdr h
     simp only [Bool.and_eq_true] at hdr
     obtain ⟨hd1,hd2⟩ := hdr
     subst hd1
     obtain ⟨sl',H',hw,h⟩ := h
     obtain ⟨loc',hb',hr'⟩ := hw _ _ _ _ _ ⟨loc,hb,hr⟩
     exact drawF_sound hT hS hm hd2 hK hb' hr' h
   | wks =>
     simp only [hp] at hdr h
     obtain ⟨sl',H',hw,h⟩ := h
     obtain ⟨loc',hb',hr'⟩ := hw _ _ _ _ _ ⟨loc,hb,hr⟩
     cases draw with
     | false => exact wp_region_list (zcy hT hS hK ops.toList nx sl' H' a w loc' rfl hb' hr' h)
     | true => exact zeu hT hS hm w0 E ops.toList _ _ B nx sl' H' a w loc' id (by simpa using hdr) hK hb' hr' h
   | drs p k =>
     simp only [hp] at hdr h
     simp only [Bool.and_eq_true,decide_eq_true_eq] at hdr
     obtain ⟨hd1,hd0,hd2,hd3⟩ := hdr
     subst hd1
     obtain ⟨sl',H',hw,h⟩ := h
     obtain ⟨loc',hb',hr'⟩ := hw _ _ _ _ _ ⟨loc,hb,hr⟩
     have hlk : (ops.toList.take k).length = k := by rw [List.length_take]; omega
     have e : ops = (ops.toList.take k ++ ops.toList.drop k).toArray := by rw [List.take_append_drop]
     have e2 : ops.toList.take k ++ ops.toList.drop k = ops.toList := List.take_append_drop _ _
     have hz : nx + 8 * ops.toList.length = nx + 8 * k + 8 * (ops.toList.drop k).length := by rw [List.length_drop]; omega
     rw [e]
     refine drawT_sound (l := ops.toList.take k) (suf := ops.toList.drop k) hT hS hm hd2 (by rw [hlk,e2]; exact hd3) (fun sl2 H2 a2 w2 loc2 hb2 hr2 hq => ?_) hb' hr' h
     rw [hlk] at hr2
     refine aopsO_sound (ops := (ops.toList.take k ++ ops.toList.drop k).toArray) hT hS hSO hK 0 (ops.toList.drop k) (nx + 8 * k) sl2 H2 a2 w2 loc2 hz hb2 hr2 ?_
     rw [← e]; exact hq
 | seq x y ihx ihy =>
   intro Q σ a w hdr h hr
   refine wp_seq (wp_mono (ihx _ σ a w (by simp only [zck,Bool.and_eq_true] at hdr; exact hdr.1) h hr) ?_)
   rintro e a' w' ⟨σ',hr',hq⟩
   cases e with
   | normal => exact ihy Q σ' a' w' (by simp only [zck,Bool.and_eq_true] at hdr; exact hdr.2) hq hr'
   | _ => exact ⟨σ',hr',hq⟩
 | cond c x y ihx ihy =>
   intro Q σ a w hdr h hr
   simp only [awpO,csplit] at h
   simp only [zck,Bool.and_eq_true] at hdr
   obtain ⟨loc,hb,hr⟩ := hr
   split at h
   · rename_i t hc
     have hv := ev_R hr.slots c
     rw [hc] at hv
     have hv := hv.wv
     cases t with
     | true => exact wp_cond_true hv (ihx Q σ a w hdr.1 (h.1 rfl) ⟨loc,hb,hr⟩)
     | false => exact wp_cond_false hv (ihy Q σ a w hdr.2 (h.2 rfl) ⟨loc,hb,hr⟩)
   · exact h.elim
 | block id c ih =>
   intro Q σ a w hdr h hr
   refine wp_block (wp_mono (ih _ σ a w hdr h hr) ?_)
   rintro e a' w' ⟨σ',hr',hq⟩
   cases e with
   | exit id' =>
     simp only [blockK,Exit.inBlock] at hq ⊢
     split at hq
     · rename_i he; rw [if_pos he]; exact ⟨σ',hr',hq⟩
     · rename_i he; rw [if_neg he]; exact ⟨σ',hr',hq⟩
   | _ => exact ⟨σ',hr',hq⟩
 | loop c ih =>
   intro Q σ a w hdr h hr
   obtain ⟨I,⟨n0,σ0,hw0,hI0⟩,hround⟩ := h
   let p : Act → World → Nat → Prop := fun a w n => ∃ σ,Rel w0 E B σ a w ∧ I n σ
   have hleast : ∀ a w,(∃ n,p a w n) → ∃ m,p a w m ∧ ∀ k,p a w k → m ≤ k := fun a w ⟨n,hn⟩ => let ⟨m,h1,_,h3⟩ := least n hn; ⟨m,h1,h3⟩
   let μ : Act → World → Nat := fun a w => if h : ∃ n,p a w n then Classical.choose (hleast a w h) else 0
   refine wp_loop (fun a w => ∃ n,p a w n) μ ⟨n0,σ0,hw0 w0 E B a w hr,hI0⟩ ?_
   intro a w hex
   have hμ : μ a w = Classical.choose (hleast a w hex) := dif_pos hex
   obtain ⟨⟨σ1,hr1,hI1⟩,hmin⟩ := Classical.choose_spec (hleast a w hex)
   rw [← hμ] at hI1
   refine wp_mono (ih _ σ1 a w hdr (hround _ σ1 hI1) hr1) ?_
   rintro e a' w' ⟨σ',hr',hq⟩
   cases e with
   | normal =>
     obtain ⟨m,σ2,hlt,hw2,hI2⟩ := hq
     have hp : p a' w' m := ⟨σ2,hw2 w0 E B a' w' hr',hI2⟩
     refine ⟨⟨m,hp⟩,?_⟩
     have hμ' : μ a' w' = Classical.choose (hleast a' w' ⟨m,hp⟩) := dif_pos ⟨m,hp⟩
     have := (Classical.choose_spec (hleast a' w' ⟨m,hp⟩)).2 m hp
     rw [← hμ'] at this
     exact Nat.lt_of_le_of_lt this hlt
   | _ =>
     obtain ⟨σ2,hw2,hq⟩ := hq
     exact ⟨σ2,hw2 w0 E B a' w' hr',hq⟩
 | _ => intro Q σ a w hdr h hr; exact h.elim
theorem fn_soundO {P : Program} {T : zab} {S SO : zag} (hm : P.follows .mixedOrders = true) (hT : TOk P T) (hS : Fns P S) (hSO : FnsO P SO) {f : FuncId} {fn : Func} {c : Code} (hf : P.funcs[f]? = some fn) (hb : fn.body = some c) {spec : zay}
   (h : ∀ xs pins,(spec xs pins).p → pins.length ≤ 4 ∧ ∃ pl,zck T pl c = true ∧ awpO S SO T pl c (EndsWO T fn.results.toList pins (spec xs pins)) ⟨xs ++ List.replicate (fn.ntmps - xs.length) .junk,pinHeap 0 pins,4⟩) : SoundO P f spec :=
 sound_genO hT hf hb (Qp := fun xs pins => EndsWO T fn.results.toList pins (spec xs pins)) (fun _ _ _ _ h => h) (fun xs pins hp => ⟨(h xs pins hp).1,fun w0 E B a w hr => (h xs pins hp).2.elim fun pl hh => awpO_sound hm hT hS hSO c _ _ _ _ hh.1 hh.2 hr⟩)
theorem zdq {P : Program} {T : zab} {S SO : zag} (hm : P.follows .mixedOrders = true) (hT : TOk P T) (hS : Fns P S) (hSO : FnsO P SO) {f : FuncId} {fn : Func} {c : Code} (hf : P.funcs[f]? = some fn) (hb : fn.body = some c) {spec : zay}
   (h : ∀ xs pins,(spec xs pins).p → closedB pins = true → pins.length ≤ 4 ∧ ∃ pl,zck T pl c = true ∧ awpO S SO T pl c (EndsW T fn.results.toList pins (spec xs pins)) ⟨xs ++ List.replicate (fn.ntmps - xs.length) .junk,pinHeap 0 pins,4⟩) : zbz P f spec :=
 sound_genK (S := S) hT hS hf hb (Qp := fun xs pins => EndsW T fn.results.toList pins (spec xs pins)) (fun _ _ _ _ h => h) (fun xs pins hp hc => ⟨(h xs pins hp hc).1,fun w0 E B a w hr => (h xs pins hp hc).2.elim fun pl hh => awpO_sound hm hT hS hSO c _ _ _ _ hh.1 hh.2 hr⟩)
def laterO (S SO : zag) (T : zab) (pl : XPlan) (b : Code) (Q : Exit → ASt → Prop) : Exit → ASt → Prop := seqK (awpO S SO T pl b Q) Q
section rules
variable {S SO : zag} {T : zab} {pl : XPlan} {Q : Exit → ASt → Prop} {σ : ASt}
theorem awpO_skip : awpO S SO T pl .skip Q σ = Q .normal σ := rfl
theorem awpO_label {l : Nat} : awpO S SO T pl (.label l) Q σ = Q .normal σ := rfl
theorem awpO_ret : awpO S SO T pl .ret Q σ = Q .ret σ := rfl
theorem awpO_exit {id : Nat} : awpO S SO T pl (.exit id) Q σ = Q (.exit id) σ := rfl
theorem awpO_region {id : Nat} {l : List Oper} {draw : Bool} : awpO S SO T pl (.region id l.toArray draw) Q σ = match pl id with
   | .std => aops S T l σ.nx l σ.sl σ.H (regK (σ.nx + 8 * l.length) Q)
   | .prs p => zfo S T l p σ.nx [] l σ.sl σ.H (regK (σ.nx + 8 * l.length) Q)
   | .frz fs => frzK fs σ.sl σ.H (fun sl H => aops S T l σ.nx l sl H (regK (σ.nx + 8 * l.length) Q))
   | .opn fs k => frzK fs σ.sl σ.H (fun sl H => aopsO S SO T l k σ.nx l sl H (regK (σ.nx + 8 * l.length) Q))
   | .tst k => aopsT S T l k σ.nx l σ.sl σ.H (regK (σ.nx + 8 * l.length) Q)
   | .wkp p => wkF S T l p σ.nx σ.sl σ.H Q
   | .drs p k => drF S SO T l p k σ.nx σ.sl σ.H Q
   | .wks => wsF S T l σ.nx σ.sl σ.H Q := by
 unfold awpO; cases pl id <;> rfl
theorem awpO_seq {a b : Code} : awpO S SO T pl (.seq a b) Q σ = awpO S SO T pl a (laterO S SO T pl b Q) σ := rfl
theorem awpO_block {id : Nat} {c : Code} : awpO S SO T pl (.block id c) Q σ = awpO S SO T pl c (blockK id Q) σ := rfl
theorem awpO_cond {c : Operand} {a b : Code} : awpO S SO T pl (.cond c a b) Q σ = match ev σ.sl c with
     | .w (.bool t) => csplit t (awpO S SO T pl a Q σ) (awpO S SO T pl b Q σ)
     | _ => False := rfl
theorem awpO_loopW {c : Code} (h : ALoop (awpO S SO T pl c) Q σ) : awpO S SO T pl (.loop c) Q σ := h
theorem zaa {b : Code} : laterO S SO T pl b Q .normal σ = awpO S SO T pl b Q σ := rfl
theorem laterO_exit {b : Code} {id : Nat} : laterO S SO T pl b Q (.exit id) σ = Q (.exit id) σ := rfl
theorem laterO_ret {b : Code} : laterO S SO T pl b Q .ret σ = Q .ret σ := rfl
variable {ops r : List Oper} {o : Oper} {nm k : Nat} {sl : List AV} {H : Heap} {Q' : List AV → Heap → Prop}
def openKO (q : Out) (sl : List AV) (dst : Option Tmp) (K : List AV → Heap → Prop) : Prop := q.p ∧ K (zai sl dst q.x) q.H
theorem openKO_def {q : Out} {dst : Option Tmp} {K : List AV → Heap → Prop} : openKO q sl dst K = (q.p ∧ K (zai sl dst q.x) q.H) := rfl
theorem aopsO_zero {dst : Option Tmp} {op : Op} {type : TypeId} {pos : String} {after : Array Edge} : aopsO S SO T ops 0 nm (⟨dst,op,type,pos,after,none⟩ :: r) sl H Q' =
   openKO (zcl SO T nm sl op H) sl dst (fun sl' H' => aops S T ops (nm + 8) r sl' H' Q') := by
 simp [aopsO,openKO]
theorem aopsO_succ {dst : Option Tmp} {op : Op} {type : TypeId} {pos : String} {after : Array Edge} : aopsO S SO T ops (k + 1) nm (⟨dst,op,type,pos,after,none⟩ :: r) sl H Q' =
   ((aop S T nm sl op H).p ∧ aopsO S SO T ops k (nm + 8) r (zai sl dst (aop S T nm sl op H).x) (aop S T nm sl op H).H Q') := by
 simp [aopsO]
theorem aopsT_nil : aopsT S T ops [] nm r sl H Q' = aops S T ops nm r sl H Q' := by
 cases r <;> rfl
theorem aopsT_done {l : List Bool} : aopsT S T ops l nm [] sl H Q' = Q' sl H := by
 cases l with
 | nil => rfl
 | cons b _ => cases b <;> rfl
theorem aopsT_t {l : List Bool} {dst : Option Tmp} {op : Op} {type : TypeId} {pos : String} {after : Array Edge} : aopsT S T ops (true :: l) nm (⟨dst,op,type,pos,after,none⟩ :: r) sl H Q' =
   (specOp T sl op (fun x => aopsT S T ops l (nm + 8) r (zai sl dst x) H Q')) := by
 simp [aopsT]
theorem aopsT_f {l : List Bool} {dst : Option Tmp} {op : Op} {type : TypeId} {pos : String} {after : Array Edge} : aopsT S T ops (false :: l) nm (⟨dst,op,type,pos,after,none⟩ :: r) sl H Q' =
   ((aop S T nm sl op H).p ∧ aopsT S T ops l (nm + 8) r (zai sl dst (aop S T nm sl op H).x) (aop S T nm sl op H).H Q') := by
 simp [aopsT]
end rules
end Ax
end Go.Proofs.Ytlpjdgkpapjldaa
namespace Go.Proofs.Ytlpjdgkpapjldaa
open Ax
theorem evTO : (type_of% @awpO_skip) ∧
   (type_of% @awpO_label) ∧
   (type_of% @awpO_ret) ∧
   (type_of% @awpO_exit) ∧
   (type_of% @awpO_region) ∧
   (type_of% @awpO_seq) ∧
   (type_of% @awpO_block) ∧
   (type_of% @awpO_cond) ∧
   (type_of% @laterO_exit) ∧
   (type_of% @laterO_ret) ∧
   (type_of% @aopsO_zero) ∧
   (type_of% @aopsO_succ) ∧
   (type_of% @aopsT_nil) ∧
   (type_of% @aopsT_done) ∧
   (type_of% @aopsT_t) ∧
   (type_of% @aopsT_f) :=
 ⟨@awpO_skip,@awpO_label,@awpO_ret,@awpO_exit,@awpO_region,@awpO_seq,@awpO_block,@awpO_cond,@laterO_exit,@laterO_ret,@aopsO_zero,@aopsO_succ,@aopsT_nil,@aopsT_done,@aopsT_t,@aopsT_f⟩
theorem evDO : (type_of% @Ax.frzS.eq_1) ∧
   (type_of% @Ax.frzL.eq_1) ∧
   (type_of% @Ax.frzL.eq_2) ∧
   (type_of% @Ax.fzL.eq_1) ∧
   (type_of% @Ax.fzL.eq_2) ∧
   (type_of% @Ax.fzH.eq_1) ∧
   (type_of% @Ax.fzH.eq_2) ∧
   (type_of% @Ax.AV.fz.eq_1) ∧
   (type_of% @Ax.AV.fz.eq_2) ∧
   (type_of% @Ax.AV.fz.eq_3) ∧
   (type_of% @Ax.AV.fz.eq_4) ∧
   (type_of% @Ax.AV.fz.eq_5) ∧
   (type_of% @Ax.fiL.eq_1) ∧
   (type_of% @Ax.fiL.eq_2) ∧
   (type_of% @Ax.fiH.eq_1) ∧
   (type_of% @Ax.fiH.eq_2) ∧
   (type_of% @Ax.AV.fi.eq_1) ∧
   (type_of% @Ax.AV.fi.eq_2) ∧
   (type_of% @Ax.AV.fi.eq_3) ∧
   (type_of% @Ax.AV.fi.eq_4) ∧
   (type_of% @Ax.AV.fi.eq_5) ∧
   (type_of% @Ax.fgL.eq_1) ∧
   (type_of% @Ax.fgL.eq_2) ∧
   (type_of% @Ax.fgH.eq_1) ∧
   (type_of% @Ax.fgH.eq_2) ∧
   (type_of% @Ax.AV.fg.eq_1) ∧
   (type_of% @Ax.AV.fg.eq_2) ∧
   (type_of% @Ax.AV.fg.eq_3) ∧
   (type_of% @Ax.AV.fg.eq_4) ∧
   (type_of% @Ax.AV.fg.eq_5) ∧
   (type_of% @Ax.aOpen.eq_1) ∧
   (type_of% @Ax.openOut.eq_1) ∧
   (type_of% @Ax.reach.eq_1) ∧
   (type_of% @Ax.reach.eq_2) ∧
   (type_of% @Ax.reach.eq_3) ∧
   (type_of% @Ax.walk.eq_1) ∧
   (type_of% @Ax.walk.eq_2) ∧
   (type_of% @Ax.allIn.eq_1) ∧
   (type_of% @Ax.allIn.eq_2) ∧
   (type_of% @Ax.pinsIn.eq_1) ∧
   (type_of% @Ax.pinsIn.eq_2) ∧
   (type_of% @Ax.pinsR.eq_1) ∧
   (type_of% @Ax.pinsR.eq_2) ∧
   (type_of% @Ax.backO.eq_1) ∧
   (type_of% @Ax.backO.eq_2) ∧
   (type_of% @Ax.gone.eq_1) ∧
   (type_of% @Ax.AV.sids.eq_1) ∧
   (type_of% @Ax.AV.sids.eq_2) ∧
   (type_of% @Ax.AV.sids.eq_3) ∧
   (type_of% @Ax.AV.sids.eq_4) ∧
   (type_of% @Ax.AV.sids.eq_5) ∧
   (type_of% @Ax.AV.sids.eq_6) ∧
   (type_of% @Ax.sidsL.eq_1) ∧
   (type_of% @Ax.sidsL.eq_2) ∧
   (type_of% @Ax.AV.sidsH.eq_1) ∧
   (type_of% @Ax.AV.sidsH.eq_2) ∧
   (type_of% @Ax.AV.sidsH.eq_3) ∧
   (type_of% @Ax.AV.sidsH.eq_4) ∧
   (type_of% @Ax.AV.sidsH.eq_5) ∧
   (type_of% @Ax.AV.sidsH.eq_6) ∧
   (type_of% @Ax.sidsLH.eq_1) ∧
   (type_of% @Ax.sidsLH.eq_2) ∧
   (type_of% @Ax.Blk.renB.eq_1) ∧
   (type_of% @Ax.idxOf.eq_1) ∧
   (type_of% @Ax.EndsXO.eq_1) ∧
   (type_of% @Ax.endIds.eq_1) ∧
   (type_of% @Ax.reachE.eq_1) ∧
   (type_of% @Ax.reachE.eq_2) ∧
   (type_of% @Ax.reachE.eq_3) ∧
   (type_of% @Ax.idsAt.eq_1) ∧
   (type_of% @Ax.idsAtL.eq_1) ∧
   (type_of% @Ax.idsAtL.eq_2) ∧
   (type_of% @Ax.walkI.eq_1) ∧
   (type_of% @Ax.walkI.eq_2) ∧
   (type_of% @Ax.matchE.eq_1) ∧
   (type_of% @Ax.matchE.eq_2) ∧
   (type_of% @Ax.matchE.eq_3) ∧
   (type_of% @Ax.aopF.eq_1) ∧
   (type_of% @Ax.foot.eq_1) ∧
   (type_of% @Ax.footA.eq_1) ∧
   (type_of% @Ax.keepIn.eq_1) ∧
   (type_of% @Ax.keepIn.eq_2) ∧
   (type_of% @Ax.dropIn.eq_1) ∧
   (type_of% @Ax.dropIn.eq_2) ∧
   (type_of% @Ax.bids.eq_1) ∧
   (type_of% @Ax.bids.eq_2) ∧
   (type_of% @Ax.heldB.eq_1) ∧
   (type_of% @Ax.memOk.eq_1) ∧
   (type_of% @Ax.clearOf.eq_1) :=
 ⟨@Ax.frzS.eq_1,@Ax.frzL.eq_1,@Ax.frzL.eq_2,@Ax.fzL.eq_1,@Ax.fzL.eq_2,@Ax.fzH.eq_1,@Ax.fzH.eq_2,@Ax.AV.fz.eq_1,@Ax.AV.fz.eq_2,@Ax.AV.fz.eq_3,@Ax.AV.fz.eq_4,@Ax.AV.fz.eq_5,@Ax.fiL.eq_1,@Ax.fiL.eq_2,@Ax.fiH.eq_1,@Ax.fiH.eq_2,@Ax.AV.fi.eq_1,@Ax.AV.fi.eq_2,@Ax.AV.fi.eq_3,@Ax.AV.fi.eq_4,@Ax.AV.fi.eq_5,@Ax.fgL.eq_1,@Ax.fgL.eq_2,@Ax.fgH.eq_1,@Ax.fgH.eq_2,@Ax.AV.fg.eq_1,@Ax.AV.fg.eq_2,@Ax.AV.fg.eq_3,@Ax.AV.fg.eq_4,@Ax.AV.fg.eq_5,@Ax.aOpen.eq_1,@Ax.openOut.eq_1,@Ax.reach.eq_1,@Ax.reach.eq_2,@Ax.reach.eq_3,@Ax.walk.eq_1,@Ax.walk.eq_2,@Ax.allIn.eq_1,@Ax.allIn.eq_2,@Ax.pinsIn.eq_1,@Ax.pinsIn.eq_2,@Ax.pinsR.eq_1,@Ax.pinsR.eq_2,@Ax.backO.eq_1,@Ax.backO.eq_2,@Ax.gone.eq_1,@Ax.AV.sids.eq_1,@Ax.AV.sids.eq_2,@Ax.AV.sids.eq_3,@Ax.AV.sids.eq_4,@Ax.AV.sids.eq_5,@Ax.AV.sids.eq_6,@Ax.sidsL.eq_1,@Ax.sidsL.eq_2,@Ax.AV.sidsH.eq_1,@Ax.AV.sidsH.eq_2,@Ax.AV.sidsH.eq_3,@Ax.AV.sidsH.eq_4,@Ax.AV.sidsH.eq_5,@Ax.AV.sidsH.eq_6,@Ax.sidsLH.eq_1,@Ax.sidsLH.eq_2,@Ax.Blk.renB.eq_1,@Ax.idxOf.eq_1,@Ax.EndsXO.eq_1,@Ax.endIds.eq_1,@Ax.reachE.eq_1,@Ax.reachE.eq_2,@Ax.reachE.eq_3,@Ax.idsAt.eq_1,@Ax.idsAtL.eq_1,@Ax.idsAtL.eq_2,@Ax.walkI.eq_1,@Ax.walkI.eq_2,@Ax.matchE.eq_1,@Ax.matchE.eq_2,@Ax.matchE.eq_3,@Ax.aopF.eq_1,@Ax.foot.eq_1,@Ax.footA.eq_1,@Ax.keepIn.eq_1,@Ax.keepIn.eq_2,@Ax.dropIn.eq_1,@Ax.dropIn.eq_2,@Ax.bids.eq_1,@Ax.bids.eq_2,@Ax.heldB.eq_1,@Ax.memOk.eq_1,@Ax.clearOf.eq_1⟩
open Ax
attribute [go_sem] evDO evTO zcl firmB Blk.isGone Blk.idsB Blk.sidsB Blk.ren EndsO
attribute [go_sem ↓] openKO_def
end Go.Proofs.Ytlpjdgkpapjldaa
namespace Go.Proofs.Ytlpjdgkpapjldaa
open Ax
structure WS where
 s : Int
 k : List UInt8
 c : Int
 t : Int
 a : Int
 b : Int
deriving DecidableEq
def wsA (r : WS) : AV := .agg [.w (.int .i64 r.s),.str r.k,.w (.int .i64 r.c),.w (.int .i64 r.t),.w (.int .i64 r.a),.w (.int .i64 r.b)]
def uws : AV → WS
 | .agg [.w (.int _ s),.str k,.w (.int _ c),.w (.int _ t),.w (.int _ a),.w (.int _ b)] => ⟨s,k,c,t,a,b⟩
 | _ => ⟨0,[],0,0,0,0⟩
theorem zam (es : List WS) : (es.map wsA).map uws = es := by
 rw [List.map_map]; exact List.map_id _
theorem zal : ∀ (G : List WS),closedL (G.map wsA) = true
 | [] => rfl
 | x :: r => by simp only [List.map_cons,closedL,wsA,AV.closed,Bool.true_and]; exact zal r
theorem zaz (g : Nat → Nat) : ∀ (G : List WS),renL g (G.map wsA) = G.map wsA
 | [] => rfl
 | x :: r => by simp only [List.map_cons,renL,zaz g r]; rfl
theorem zdd : ∀ (G : List WS),idsL (G.map wsA) = []
 | [] => rfl
 | x :: r => by simp only [List.map_cons,idsL,zdd r]; rfl
theorem zcb : ∀ (es : List WS) (i : Nat) (h : i < es.length),slot (es.map wsA) i = wsA es[i]
 | p :: ps,0,h => rfl
 | p :: ps,i + 1,h => by
   simp only [List.map_cons,slot,List.getElem_cons_succ]
   exact zcb ps i (by simpa using h)
theorem zbq {T : zab} {sl : List AV} {H : Heap} {nx : Nat} {v : Value} {q : Prop} (i : Nat) (h : slot sl i = .w v) : EndsW T [.tmp i] [] ⟨q,.w v,[]⟩ .ret ⟨sl,H,nx⟩ := by
 refine ⟨_,Weak.refl _,?_⟩
 simp only [Ax.Ends,Ax.rvals,EndsX,rone,h,AV.ids,idsL,newIds,upTo,nodup,pinsOf,List.nil_append,AV.ren,and_self]
end Go.Proofs.Ytlpjdgkpapjldaa
namespace Go.Proofs.Ytlpjdgkpapjldaa
open Ax
def outB (n lo hi : Int) : Bool := decide (n < lo) || decide (hi < n)
theorem zar {n lo hi : Int} (h : outB n lo hi = false) : lo ≤ n ∧ n ≤ hi := by
 unfold outB at h
 rw [Bool.or_eq_false_iff,decide_eq_false_iff_not,decide_eq_false_iff_not] at h
 omega
def okWB (z s : Int) (k : List UInt8) (c t a b : Int) : Bool :=
 !(outB s 0 1099511627776) && (decide (s.tmod z = 0) && (!(decide ((64 : Int) < k.length)) && (!(outB c 1 1048576) && (!(outB a (-1073741824) 1073741824) && (!(outB b (-1073741824) 1073741824) && (!(decide (b < a)) && !(outB t (c * a) (c * b))))))))
def outS : zay
 | [.w (.int .i64 n),.w (.int .i64 lo),.w (.int .i64 hi)],[] => ⟨True,.w (.bool (outB n lo hi)),[]⟩
 | _,_ => zdj
def inS : zay
 | [.w (.int .i64 n),.w (.int .i64 lo),.w (.int .i64 hi)],[] => ⟨True,.w (.bool (!(outB n lo hi))),[]⟩
 | _,_ => zdj
def numbS : zay
 | [.w (.int .i64 n)],[] => ⟨True,.w (.bool (!(outB n (-1073741824) 1073741824))),[]⟩
 | _,_ => zdj
def mayWS : zay
 | [.agg [.w (.int .i64 s),.str k,.w (.int .i64 c),.w (.int .i64 t),.w (.int .i64 a),.w (.int .i64 b)],.w (.int .i64 z)],[] => ⟨¬ z = 0,.w (.bool (okWB z s k c t a b)),[]⟩
 | _,_ => zdj
theorem mul_bound {c a : Int} (hc : 1 ≤ c ∧ c ≤ 1048576) (ha : -1073741824 ≤ a ∧ a ≤ 1073741824) : -1125899906842624 ≤ c * a ∧ c * a ≤ 1125899906842624 := by
 have h1 : c * a ≤ c * 1073741824 := Int.mul_le_mul_of_nonneg_left ha.2 (by omega)
 have h2 : c * (-1073741824) ≤ c * a := Int.mul_le_mul_of_nonneg_left ha.1 (by omega)
 omega
theorem wrap_mul {c a : Int} (hc : outB c 1 1048576 = false) (ha : outB a (-1073741824) 1073741824 = false) : (c * a + 9223372036854775808) % 18446744073709551616 - 9223372036854775808 = c * a := by
 have := mul_bound (zar hc) (zar ha)
 omega
section
set_option maxRecDepth 100000
set_option maxHeartbeats 4000000
theorem out_sound : zbz Try.prog 25 outS := by
 refine zdu (S := noS) (T := ty) zdc ty_ok noS_ok Try.func25 (c := Try.f25.body.getD .skip) (by kernel_rfl) (by kernel_rfl) (fun xs pins hp _ => ?_)
 unfold outS at hp ⊢
 split at hp
 · rename_i n lo hi _
   refine ⟨by simp,?_⟩
   unfold Try.f25 outB
   cases h1 : decide (n < lo) <;> cases h2 : decide (hi < n)
   all_goals simp only [go_sem,coe,zac,Nat.reduceAdd,Nat.reduceSub,Nat.reduceMul,Int.reduceToNat,reduceCtorEq,↓reduceIte,Int.reducePow,Nat.reducePow,Int.reduceMod,Nat.reduceLeDiff,Int.reduceLE,Int.reduceNe,Int.reduceEq,Nat.reduceEqDiff,Nat.reduceLT,Nat.reduceBEq,ty,noS,h1,h2,Bool.or_true,Bool.or_false,Bool.true_or,Bool.false_or]
 · exact hp.elim
theorem in_sound : zbz Try.prog 30 inS := by
 refine zdu (S := noS) (T := ty) zdc ty_ok noS_ok Try.func30 (c := Try.f30.body.getD .skip) (by kernel_rfl) (by kernel_rfl) (fun xs pins hp _ => ?_)
 unfold inS at hp ⊢
 split at hp
 · rename_i n lo hi _
   refine ⟨by simp,?_⟩
   unfold Try.f30 outB
   by_cases h1 : n < lo <;> by_cases h2 : hi < n
   · have d1 : decide (lo ≤ n) = false := decide_eq_false (by omega)
     simp only [go_sem,coe,zac,Nat.reduceAdd,Nat.reduceSub,Nat.reduceMul,Int.reduceToNat,reduceCtorEq,↓reduceIte,Int.reducePow,Nat.reducePow,Int.reduceMod,Nat.reduceLeDiff,Int.reduceLE,Int.reduceNe,Int.reduceEq,Nat.reduceEqDiff,Nat.reduceLT,Nat.reduceBEq,ty,noS,d1,h1,h2,decide_true,decide_false,Bool.or_true,Bool.or_false,Bool.not_true,Bool.not_false]
   · have d1 : decide (lo ≤ n) = false := decide_eq_false (by omega)
     simp only [go_sem,coe,zac,Nat.reduceAdd,Nat.reduceSub,Nat.reduceMul,Int.reduceToNat,reduceCtorEq,↓reduceIte,Int.reducePow,Nat.reducePow,Int.reduceMod,Nat.reduceLeDiff,Int.reduceLE,Int.reduceNe,Int.reduceEq,Nat.reduceEqDiff,Nat.reduceLT,Nat.reduceBEq,ty,noS,d1,h1,h2,decide_true,decide_false,Bool.or_true,Bool.or_false,Bool.not_true,Bool.not_false]
   · have d1 : decide (lo ≤ n) = true := decide_eq_true (by omega)
     have d2 : decide (n ≤ hi) = false := decide_eq_false (by omega)
     simp only [go_sem,coe,zac,Nat.reduceAdd,Nat.reduceSub,Nat.reduceMul,Int.reduceToNat,reduceCtorEq,↓reduceIte,Int.reducePow,Nat.reducePow,Int.reduceMod,Nat.reduceLeDiff,Int.reduceLE,Int.reduceNe,Int.reduceEq,Nat.reduceEqDiff,Nat.reduceLT,Nat.reduceBEq,ty,noS,d1,d2,h1,h2,decide_true,decide_false,Bool.or_true,Bool.or_false,Bool.not_true,Bool.not_false]
   · have d1 : decide (lo ≤ n) = true := decide_eq_true (by omega)
     have d2 : decide (n ≤ hi) = true := decide_eq_true (by omega)
     simp only [go_sem,coe,zac,Nat.reduceAdd,Nat.reduceSub,Nat.reduceMul,Int.reduceToNat,reduceCtorEq,↓reduceIte,Int.reducePow,Nat.reducePow,Int.reduceMod,Nat.reduceLeDiff,Int.reduceLE,Int.reduceNe,Int.reduceEq,Nat.reduceEqDiff,Nat.reduceLT,Nat.reduceBEq,ty,noS,d1,d2,h1,h2,decide_true,decide_false,Bool.or_true,Bool.or_false,Bool.not_true,Bool.not_false]
 · exact hp.elim
def Sin35 (f : FuncId) : Option zay :=
 match f with
 | 25 => some outS
 | 30 => some inS
 | _ => none
theorem Sin35_ok : Fns Try.prog Sin35 := by
 intro f s h
 unfold Sin35 at h
 split at h
 · injection h with h; subst h; exact ⟨⟨_,Try.func25,by kernel_rfl,by kernel_rfl⟩,out_sound⟩
 · injection h with h; subst h; exact ⟨⟨_,Try.func30,by kernel_rfl,by kernel_rfl⟩,in_sound⟩
 · cases h
theorem numb_sound : zbz Try.prog 31 numbS := by
 refine zdu (S := Sin35) (T := ty) zdc ty_ok Sin35_ok Try.func31 (c := Try.f31.body.getD .skip) (by kernel_rfl) (by kernel_rfl) (fun xs pins hp _ => ?_)
 unfold numbS at hp ⊢
 split at hp
 · rename_i n _
   refine ⟨by simp,?_⟩
   unfold Try.f31
   simp only [go_sem,coe,zac,Nat.reduceAdd,Nat.reduceSub,Nat.reduceMul,Int.reduceToNat,reduceCtorEq,↓reduceIte,Int.reducePow,Nat.reducePow,Int.reduceMod,Nat.reduceLeDiff,Int.reduceLE,Int.reduceNe,Int.reduceEq,Nat.reduceEqDiff,Nat.reduceLT,Nat.reduceBEq,ty,Sin35,inS]
 · exact hp.elim
def zcm (f : FuncId) : Option zay :=
 match f with
 | 25 => some outS
 | 30 => some inS
 | 31 => some numbS
 | _ => none
theorem Sone35_ok : Fns Try.prog zcm := by
 intro f s h
 unfold zcm at h
 split at h
 · injection h with h; subst h; exact ⟨⟨_,Try.func25,by kernel_rfl,by kernel_rfl⟩,out_sound⟩
 · injection h with h; subst h; exact ⟨⟨_,Try.func30,by kernel_rfl,by kernel_rfl⟩,in_sound⟩
 · injection h with h; subst h; exact ⟨⟨_,Try.func31,by kernel_rfl,by kernel_rfl⟩,numb_sound⟩
 · cases h
theorem mayW_sound : zbz Try.prog 36 mayWS := by
 refine zdu (S := zcm) (T := ty) zdc ty_ok Sone35_ok Try.func36 (c := Try.f36.body.getD .skip) (by kernel_rfl) (by kernel_rfl) (fun xs pins hp _ => ?_)
 unfold mayWS at hp ⊢
 split at hp
 · rename_i s k c t a b z _
   have hz : ¬ z = 0 := hp
   refine ⟨by simp,?_⟩
   unfold Try.f36
   cases h1 : outB s 0 1099511627776 with
   | true =>
     have hv : okWB z s k c t a b = false := by unfold okWB; rw [h1]; rfl
     simp only [go_sem,coe,zac,Nat.reduceAdd,Nat.reduceSub,Nat.reduceMul,Int.reduceToNat,reduceCtorEq,↓reduceIte,Int.reducePow,Nat.reducePow,Int.reduceMod,Nat.reduceLeDiff,Int.reduceLE,Int.reduceNe,Int.reduceEq,Nat.reduceEqDiff,Nat.reduceLT,Nat.reduceBEq,ty,zcm,outS,inS,numbS,hz,h1,hv,Bool.not_true,Bool.not_false]
   | false =>
     cases h2 : decide (s.tmod z = 0) with
     | false =>
       have hv : okWB z s k c t a b = false := by unfold okWB; rw [h1,h2]; rfl
       simp only [go_sem,coe,zac,Nat.reduceAdd,Nat.reduceSub,Nat.reduceMul,Int.reduceToNat,reduceCtorEq,↓reduceIte,Int.reducePow,Nat.reducePow,Int.reduceMod,Nat.reduceLeDiff,Int.reduceLE,Int.reduceNe,Int.reduceEq,Nat.reduceEqDiff,Nat.reduceLT,Nat.reduceBEq,ty,zcm,outS,inS,numbS,hz,h1,h2,hv,Bool.not_true,Bool.not_false]
     | true =>
       cases h3 : decide ((64 : Int) < k.length) with
       | true =>
         have hv : okWB z s k c t a b = false := by unfold okWB; rw [h1,h2,h3]; rfl
         simp only [go_sem,coe,zac,Nat.reduceAdd,Nat.reduceSub,Nat.reduceMul,Int.reduceToNat,reduceCtorEq,↓reduceIte,Int.reducePow,Nat.reducePow,Int.reduceMod,Nat.reduceLeDiff,Int.reduceLE,Int.reduceNe,Int.reduceEq,Nat.reduceEqDiff,Nat.reduceLT,Nat.reduceBEq,ty,zcm,outS,inS,numbS,hz,h1,h2,h3,hv,Bool.not_true,Bool.not_false]
       | false =>
         cases h4 : outB c 1 1048576 with
         | true =>
           have hv : okWB z s k c t a b = false := by unfold okWB; rw [h1,h2,h3,h4]; rfl
           simp only [go_sem,coe,zac,Nat.reduceAdd,Nat.reduceSub,Nat.reduceMul,Int.reduceToNat,reduceCtorEq,↓reduceIte,Int.reducePow,Nat.reducePow,Int.reduceMod,Nat.reduceLeDiff,Int.reduceLE,Int.reduceNe,Int.reduceEq,Nat.reduceEqDiff,Nat.reduceLT,Nat.reduceBEq,ty,zcm,outS,inS,numbS,hz,h1,h2,h3,h4,hv,Bool.not_true,Bool.not_false]
         | false =>
           cases h5 : outB a (-1073741824) 1073741824 with
           | true =>
             have hv : okWB z s k c t a b = false := by unfold okWB; rw [h1,h2,h3,h4,h5]; rfl
             simp only [go_sem,coe,zac,Nat.reduceAdd,Nat.reduceSub,Nat.reduceMul,Int.reduceToNat,reduceCtorEq,↓reduceIte,Int.reducePow,Nat.reducePow,Int.reduceMod,Nat.reduceLeDiff,Int.reduceLE,Int.reduceNe,Int.reduceEq,Nat.reduceEqDiff,Nat.reduceLT,Nat.reduceBEq,ty,zcm,outS,inS,numbS,hz,h1,h2,h3,h4,h5,hv,Bool.not_true,Bool.not_false]
           | false =>
             cases h6 : outB b (-1073741824) 1073741824 with
             | true =>
               have hv : okWB z s k c t a b = false := by unfold okWB; rw [h1,h2,h3,h4,h5,h6]; rfl
               simp only [go_sem,coe,zac,Nat.reduceAdd,Nat.reduceSub,Nat.reduceMul,Int.reduceToNat,reduceCtorEq,↓reduceIte,Int.reducePow,Nat.reducePow,Int.reduceMod,Nat.reduceLeDiff,Int.reduceLE,Int.reduceNe,Int.reduceEq,Nat.reduceEqDiff,Nat.reduceLT,Nat.reduceBEq,ty,zcm,outS,inS,numbS,hz,h1,h2,h3,h4,h5,h6,hv,Bool.not_true,Bool.not_false]
             | false =>
               cases h7 : decide (b < a) with
               | true =>
                 have hab : decide (a ≤ b) = false := decide_eq_false (by have := of_decide_eq_true h7; omega)
                 have hv : okWB z s k c t a b = false := by unfold okWB; rw [h1,h2,h3,h4,h5,h6,h7]; rfl
                 simp only [go_sem,coe,zac,Nat.reduceAdd,Nat.reduceSub,Nat.reduceMul,Int.reduceToNat,reduceCtorEq,↓reduceIte,Int.reducePow,Nat.reducePow,Int.reduceMod,Nat.reduceLeDiff,Int.reduceLE,Int.reduceNe,Int.reduceEq,Nat.reduceEqDiff,Nat.reduceLT,Nat.reduceBEq,ty,zcm,outS,inS,numbS,hz,hab,h1,h2,h3,h4,h5,h6,h7,hv,Bool.not_true,Bool.not_false]
               | false =>
                 have hab : decide (a ≤ b) = true := decide_eq_true (by have := of_decide_eq_false h7; omega)
                 have w1 := wrap_mul h4 h5
                 have w2 := wrap_mul h4 h6
                 cases h8 : outB t (c * a) (c * b) with
                 | true =>
                   have hv : okWB z s k c t a b = false := by unfold okWB; rw [h1,h2,h3,h4,h5,h6,h7,h8]; rfl
                   simp only [go_sem,coe,zac,Nat.reduceAdd,Nat.reduceSub,Nat.reduceMul,Int.reduceToNat,reduceCtorEq,↓reduceIte,Int.reducePow,Nat.reducePow,Int.reduceMod,Nat.reduceLeDiff,Int.reduceLE,Int.reduceNe,Int.reduceEq,Nat.reduceEqDiff,Nat.reduceLT,Nat.reduceBEq,ty,zcm,outS,inS,numbS,hz,hab,w1,w2,h1,h2,h3,h4,h5,h6,h7,h8,hv,Bool.not_true,Bool.not_false]
                 | false =>
                   have hv : okWB z s k c t a b = true := by unfold okWB; rw [h1,h2,h3,h4,h5,h6,h7,h8]; rfl
                   simp only [go_sem,coe,zac,Nat.reduceAdd,Nat.reduceSub,Nat.reduceMul,Int.reduceToNat,reduceCtorEq,↓reduceIte,Int.reducePow,Nat.reducePow,Int.reduceMod,Nat.reduceLeDiff,Int.reduceLE,Int.reduceNe,Int.reduceEq,Nat.reduceEqDiff,Nat.reduceLT,Nat.reduceBEq,ty,zcm,outS,inS,numbS,hz,hab,w1,w2,h1,h2,h3,h4,h5,h6,h7,h8,hv,Bool.not_true,Bool.not_false]
 · exact hp.elim
theorem oneW_sound : zbz Try.prog 39 mayWS := by
 refine zdu (S := zcm) (T := ty) zdc ty_ok Sone35_ok Try.func39 (c := Try.f39.body.getD .skip) (by kernel_rfl) (by kernel_rfl) (fun xs pins hp _ => ?_)
 unfold mayWS at hp ⊢
 split at hp
 · rename_i s k c t a b z _
   have hz : ¬ z = 0 := hp
   refine ⟨by simp,?_⟩
   unfold Try.f39
   cases h1 : outB s 0 1099511627776 with
   | true =>
     have hv : okWB z s k c t a b = false := by unfold okWB; rw [h1]; rfl
     simp only [go_sem,coe,zac,Nat.reduceAdd,Nat.reduceSub,Nat.reduceMul,Int.reduceToNat,reduceCtorEq,↓reduceIte,Int.reducePow,Nat.reducePow,Int.reduceMod,Nat.reduceLeDiff,Int.reduceLE,Int.reduceNe,Int.reduceEq,Nat.reduceEqDiff,Nat.reduceLT,Nat.reduceBEq,ty,zcm,outS,inS,numbS,hz,h1,hv,Bool.not_true,Bool.not_false]
   | false =>
     cases h2 : decide (s.tmod z = 0) with
     | false =>
       have hv : okWB z s k c t a b = false := by unfold okWB; rw [h1,h2]; rfl
       simp only [go_sem,coe,zac,Nat.reduceAdd,Nat.reduceSub,Nat.reduceMul,Int.reduceToNat,reduceCtorEq,↓reduceIte,Int.reducePow,Nat.reducePow,Int.reduceMod,Nat.reduceLeDiff,Int.reduceLE,Int.reduceNe,Int.reduceEq,Nat.reduceEqDiff,Nat.reduceLT,Nat.reduceBEq,ty,zcm,outS,inS,numbS,hz,h1,h2,hv,Bool.not_true,Bool.not_false]
     | true =>
       cases h3 : decide ((64 : Int) < k.length) with
       | true =>
         have hv : okWB z s k c t a b = false := by unfold okWB; rw [h1,h2,h3]; rfl
         simp only [go_sem,coe,zac,Nat.reduceAdd,Nat.reduceSub,Nat.reduceMul,Int.reduceToNat,reduceCtorEq,↓reduceIte,Int.reducePow,Nat.reducePow,Int.reduceMod,Nat.reduceLeDiff,Int.reduceLE,Int.reduceNe,Int.reduceEq,Nat.reduceEqDiff,Nat.reduceLT,Nat.reduceBEq,ty,zcm,outS,inS,numbS,hz,h1,h2,h3,hv,Bool.not_true,Bool.not_false]
       | false =>
         cases h4 : outB c 1 1048576 with
         | true =>
           have hv : okWB z s k c t a b = false := by unfold okWB; rw [h1,h2,h3,h4]; rfl
           simp only [go_sem,coe,zac,Nat.reduceAdd,Nat.reduceSub,Nat.reduceMul,Int.reduceToNat,reduceCtorEq,↓reduceIte,Int.reducePow,Nat.reducePow,Int.reduceMod,Nat.reduceLeDiff,Int.reduceLE,Int.reduceNe,Int.reduceEq,Nat.reduceEqDiff,Nat.reduceLT,Nat.reduceBEq,ty,zcm,outS,inS,numbS,hz,h1,h2,h3,h4,hv,Bool.not_true,Bool.not_false]
         | false =>
           cases h5 : outB a (-1073741824) 1073741824 with
           | true =>
             have hv : okWB z s k c t a b = false := by unfold okWB; rw [h1,h2,h3,h4,h5]; rfl
             simp only [go_sem,coe,zac,Nat.reduceAdd,Nat.reduceSub,Nat.reduceMul,Int.reduceToNat,reduceCtorEq,↓reduceIte,Int.reducePow,Nat.reducePow,Int.reduceMod,Nat.reduceLeDiff,Int.reduceLE,Int.reduceNe,Int.reduceEq,Nat.reduceEqDiff,Nat.reduceLT,Nat.reduceBEq,ty,zcm,outS,inS,numbS,hz,h1,h2,h3,h4,h5,hv,Bool.not_true,Bool.not_false]
           | false =>
             cases h6 : outB b (-1073741824) 1073741824 with
             | true =>
               have hv : okWB z s k c t a b = false := by unfold okWB; rw [h1,h2,h3,h4,h5,h6]; rfl
               simp only [go_sem,coe,zac,Nat.reduceAdd,Nat.reduceSub,Nat.reduceMul,Int.reduceToNat,reduceCtorEq,↓reduceIte,Int.reducePow,Nat.reducePow,Int.reduceMod,Nat.reduceLeDiff,Int.reduceLE,Int.reduceNe,Int.reduceEq,Nat.reduceEqDiff,Nat.reduceLT,Nat.reduceBEq,ty,zcm,outS,inS,numbS,hz,h1,h2,h3,h4,h5,h6,hv,Bool.not_true,Bool.not_false]
             | false =>
               cases h7 : decide (b < a) with
               | true =>
                 have hab : decide (a ≤ b) = false := decide_eq_false (by have := of_decide_eq_true h7; omega)
                 have hv : okWB z s k c t a b = false := by unfold okWB; rw [h1,h2,h3,h4,h5,h6,h7]; rfl
                 simp only [go_sem,coe,zac,Nat.reduceAdd,Nat.reduceSub,Nat.reduceMul,Int.reduceToNat,reduceCtorEq,↓reduceIte,Int.reducePow,Nat.reducePow,Int.reduceMod,Nat.reduceLeDiff,Int.reduceLE,Int.reduceNe,Int.reduceEq,Nat.reduceEqDiff,Nat.reduceLT,Nat.reduceBEq,ty,zcm,outS,inS,numbS,hz,hab,h1,h2,h3,h4,h5,h6,h7,hv,Bool.not_true,Bool.not_false]
               | false =>
                 have hab : decide (a ≤ b) = true := decide_eq_true (by have := of_decide_eq_false h7; omega)
                 have w1 := wrap_mul h4 h5
                 have w2 := wrap_mul h4 h6
                 cases h8 : outB t (c * a) (c * b) with
                 | true =>
                   have hv : okWB z s k c t a b = false := by unfold okWB; rw [h1,h2,h3,h4,h5,h6,h7,h8]; rfl
                   simp only [go_sem,coe,zac,Nat.reduceAdd,Nat.reduceSub,Nat.reduceMul,Int.reduceToNat,reduceCtorEq,↓reduceIte,Int.reducePow,Nat.reducePow,Int.reduceMod,Nat.reduceLeDiff,Int.reduceLE,Int.reduceNe,Int.reduceEq,Nat.reduceEqDiff,Nat.reduceLT,Nat.reduceBEq,ty,zcm,outS,inS,numbS,hz,hab,w1,w2,h1,h2,h3,h4,h5,h6,h7,h8,hv,Bool.not_true,Bool.not_false]
                 | false =>
                   have hv : okWB z s k c t a b = true := by unfold okWB; rw [h1,h2,h3,h4,h5,h6,h7,h8]; rfl
                   simp only [go_sem,coe,zac,Nat.reduceAdd,Nat.reduceSub,Nat.reduceMul,Int.reduceToNat,reduceCtorEq,↓reduceIte,Int.reducePow,Nat.reducePow,Int.reduceMod,Nat.reduceLeDiff,Int.reduceLE,Int.reduceNe,Int.reduceEq,Nat.reduceEqDiff,Nat.reduceLT,Nat.reduceBEq,ty,zcm,outS,inS,numbS,hz,hab,w1,w2,h1,h2,h3,h4,h5,h6,h7,h8,hv,Bool.not_true,Bool.not_false]
 · exact hp.elim
def ahB (s : Int) (k : List UInt8) (s2 : Int) (k2 : List UInt8) : Bool := if s = s2 then Op.bytesLess k k2 else decide (s < s2)
def aheadS : zay
 | [.agg [.w (.int .i64 s),.str k,.w (.int .i64 c),.w (.int .i64 t),.w (.int .i64 a),.w (.int .i64 b)],.agg [.w (.int .i64 s2),.str k2]],[] => ⟨True,.w (.bool (ahB s k s2 k2)),[]⟩
 | [.agg [.w (.int .i64 s),.str k,.w (.int .i64 c),.w (.int .i64 t),.w (.int .i64 a),.w (.int .i64 b)],.agg [.w (.int .i64 s2),.str k2,.w (.int .i64 c2),.w (.int .i64 t2),.w (.int .i64 a2),.w (.int .i64 b2)]],[] => ⟨False,.w (.bool (ahB s k s2 k2)),[]⟩
 | _,_ => zdj
def raheadS : zay
 | [.agg [.w (.int .i64 s),.str k,.w (.int .i64 c),.w (.int .i64 t),.w (.int .i64 a),.w (.int .i64 b)],.agg [.w (.int .i64 s2),.str k2,.w (.int .i64 c2),.w (.int .i64 t2),.w (.int .i64 a2),.w (.int .i64 b2)]],[] => ⟨True,.w (.bool (ahB s k s2 k2)),[]⟩
 | _,_ => zdj
def spotS : zay
 | [.agg [.w (.int .i64 s),.str k,.w (.int .i64 c),.w (.int .i64 t),.w (.int .i64 a),.w (.int .i64 b)]],[] => ⟨True,.agg [.w (.int .i64 s),.str k],[]⟩
 | _,_ => zdj
theorem ahead_sound : zbz Try.prog 37 aheadS := by
 refine zdu (S := noS) (T := ty) zdc ty_ok noS_ok Try.func37 (c := Try.f37.body.getD .skip) (by kernel_rfl) (by kernel_rfl) (fun xs pins hp _ => ?_)
 unfold aheadS at hp ⊢
 split at hp
 · rename_i s k c t a b s2 k2 _
   refine ⟨by simp,?_⟩
   unfold Try.f37
   by_cases h1 : s = s2
   · have hv : ahB s k s2 k2 = Op.bytesLess k k2 := if_pos h1
     subst h1
     have d1 : decide (s = s) = true := decide_eq_true rfl
     cases h2 : Op.bytesLess k k2
     all_goals
       rw [h2] at hv
       simp only [go_sem,coe,zac,Nat.reduceAdd,Nat.reduceSub,Nat.reduceMul,Int.reduceToNat,reduceCtorEq,↓reduceIte,Int.reducePow,Nat.reducePow,Int.reduceMod,Nat.reduceLeDiff,Int.reduceLE,Int.reduceNe,Int.reduceEq,Nat.reduceEqDiff,Nat.reduceLT,Nat.reduceBEq,ty,noS,d1,h2,hv,Bool.not_true,Bool.not_false]
   · have hv : ahB s k s2 k2 = decide (s < s2) := if_neg h1
     have d1 : decide (s = s2) = false := decide_eq_false h1
     cases h2 : decide (s < s2)
     all_goals
       rw [h2] at hv
       simp only [go_sem,coe,zac,Nat.reduceAdd,Nat.reduceSub,Nat.reduceMul,Int.reduceToNat,reduceCtorEq,↓reduceIte,Int.reducePow,Nat.reducePow,Int.reduceMod,Nat.reduceLeDiff,Int.reduceLE,Int.reduceNe,Int.reduceEq,Nat.reduceEqDiff,Nat.reduceLT,Nat.reduceBEq,ty,noS,d1,h2,hv,Bool.not_true,Bool.not_false]
 · exact hp.elim
 · exact hp.elim
theorem rahead_sound : zbz Try.prog 40 raheadS := by
 refine zdu (S := noS) (T := ty) zdc ty_ok noS_ok Try.func40 (c := Try.f40.body.getD .skip) (by kernel_rfl) (by kernel_rfl) (fun xs pins hp _ => ?_)
 unfold raheadS at hp ⊢
 split at hp
 · rename_i s k c t a b s2 k2 c2 t2 a2 b2 _
   refine ⟨by simp,?_⟩
   unfold Try.f40
   by_cases h1 : s < s2
   · have hv : ahB s k s2 k2 = true := by unfold ahB; rw [if_neg (by omega)]; exact decide_eq_true h1
     have d1 : decide (s < s2) = true := decide_eq_true h1
     simp only [go_sem,coe,zac,Nat.reduceAdd,Nat.reduceSub,Nat.reduceMul,Int.reduceToNat,reduceCtorEq,↓reduceIte,Int.reducePow,Nat.reducePow,Int.reduceMod,Nat.reduceLeDiff,Int.reduceLE,Int.reduceNe,Int.reduceEq,Nat.reduceEqDiff,Nat.reduceLT,Nat.reduceBEq,ty,noS,d1,hv]
   · have d1 : decide (s < s2) = false := decide_eq_false h1
     by_cases h2 : s = s2
     · have d2 : decide (s = s2) = true := decide_eq_true h2
       cases h3 : Op.bytesLess k k2
       all_goals
         have hv : ahB s k s2 k2 = Op.bytesLess k k2 := if_pos h2
         rw [h3] at hv
         simp only [go_sem,coe,zac,Nat.reduceAdd,Nat.reduceSub,Nat.reduceMul,Int.reduceToNat,reduceCtorEq,↓reduceIte,Int.reducePow,Nat.reducePow,Int.reduceMod,Nat.reduceLeDiff,Int.reduceLE,Int.reduceNe,Int.reduceEq,Nat.reduceEqDiff,Nat.reduceLT,Nat.reduceBEq,ty,noS,d1,d2,h3,hv]
     · have hv : ahB s k s2 k2 = false := by unfold ahB; rw [if_neg h2]; exact d1
       have d2 : decide (s = s2) = false := decide_eq_false h2
       simp only [go_sem,coe,zac,Nat.reduceAdd,Nat.reduceSub,Nat.reduceMul,Int.reduceToNat,reduceCtorEq,↓reduceIte,Int.reducePow,Nat.reducePow,Int.reduceMod,Nat.reduceLeDiff,Int.reduceLE,Int.reduceNe,Int.reduceEq,Nat.reduceEqDiff,Nat.reduceLT,Nat.reduceBEq,ty,noS,d1,d2,hv]
 · exact hp.elim
theorem spot_sound : zbz Try.prog 38 spotS := by
 refine zdu (S := noS) (T := ty) zdc ty_ok noS_ok Try.func38 (c := Try.f38.body.getD .skip) (by kernel_rfl) (by kernel_rfl) (fun xs pins hp _ => ?_)
 unfold spotS at hp ⊢
 split at hp
 · rename_i s k c t a b _
   refine ⟨by simp,?_⟩
   unfold Try.f38
   simp only [go_sem,coe,zac,Nat.reduceAdd,Nat.reduceSub,Nat.reduceMul,Int.reduceToNat,reduceCtorEq,↓reduceIte,Int.reducePow,Nat.reducePow,Int.reduceMod,Nat.reduceLeDiff,Int.reduceLE,Int.reduceNe,Int.reduceEq,Nat.reduceEqDiff,Nat.reduceLT,Nat.reduceBEq,ty,noS]
 · exact hp.elim
end
end Go.Proofs.Ytlpjdgkpapjldaa
