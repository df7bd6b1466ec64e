/- What the proofs of this seat stand on; it asks nothing. -/
import Derived.Test.YthjceeimbohajaaYba07
set_option linter.unusedSimpArgs false
set_option linter.unusedVariables false
namespace Go.Proofs.Ythjceeimbohajaa
namespace Ax
open Go.RowKit
abbrev Plan := Nat → Option (List (Nat × Nat))
def zct (T : zab) (pl : Plan) : Code → Bool
 | .region id ops draw => match pl id with
   | none => !draw || drawOk T ops.toList
   | some p => draw && drawOkF T ops.toList p
 | .seq a b => zct T pl a && zct T pl b
 | .cond _ a b => zct T pl a && zct T pl b
 | .block _ c => zct T pl c
 | .loop c => zct T pl c
 | _ => true
def awpF (S : zaf) (T : zab) (pl : Plan) : Code → (Exit → ASt → Prop) → ASt → Prop
 | .skip,Q,σ => Q .normal σ
 | .label _,Q,σ => Q .normal σ
 | .region id ops _,Q,σ => match pl id with
   | none => aops S T ops.toList σ.nx ops.toList σ.sl σ.H (regK (σ.nx + 8 * ops.toList.length) Q)
   | some p => aopsF S T ops.toList p σ.nx [] ops.toList σ.sl σ.H (regK (σ.nx + 8 * ops.toList.length) Q)
 | .seq a b,Q,σ => awpF S T pl a (seqK (awpF S T pl b Q) Q) σ
 | .cond c a b,Q,σ => match ev σ.sl c with
     | .w (.bool t) => csplit t (awpF S T pl a Q σ) (awpF S T pl b Q σ)
     | _ => False
 | .block id c,Q,σ => awpF S T pl c (blockK id Q) σ
 | .loop c,Q,σ => ALoop (awpF S T pl c) Q σ
 | .exit id,Q,σ => Q (.exit id) σ
 | .ret,Q,σ => Q .ret σ
 | _,_,_ => False
open Classical in
theorem awpF_sound {P : Program} {w0 : World} {E : Nat → Prop} {T : zab} {S : zaf} {pl : Plan} (hm : P.follows .mixedOrders = true) (hT : TOk P T) (hS : Fns P S) {B : Bs} : ∀ (c : Code) (Q : Exit → ASt → Prop) (σ : ASt) (a : Act) (w : World),
   zct T pl c = true → awpF S T pl c Q σ → Rel w0 E B σ a w → c.wp P (Low w0 E B Q) a w := by
 intro c
 induction c with
 | skip => intro Q σ a w hdr h hr; exact wp_skip ⟨σ,hr,h⟩
 | label l => intro Q σ a w hdr h hr; exact wp_label ⟨σ,hr,h⟩
 | ret => intro Q σ a w hdr h hr; exact wp_ret ⟨σ,hr,h⟩
 | exit id => intro Q σ a w hdr h hr; exact wp_exit ⟨σ,hr,h⟩
 | region id ops draw =>
   intro Q σ a w hdr h hr
   obtain ⟨loc,hb,hr⟩ := hr
   obtain ⟨sl,H,nx⟩ := σ
   have hK : ∀ sl H a w loc,Base w0 B w loc → Rel' w0 E loc ⟨sl,H,nx + 8 * ops.toList.length⟩ a w → regK (nx + 8 * ops.toList.length) Q sl H → Low w0 E B Q .normal a w := fun sl H a w loc h1 h2 h3 => ⟨_,⟨loc,h1,h2⟩,h3⟩
   simp only [zct] at hdr
   simp only [awpF] at h
   cases hp : pl id with
   | none =>
     simp only [hp] at hdr h
     cases draw with
     | false => exact wp_region_list (zdq hT hS hK ops.toList nx sl H a w loc rfl hb hr h)
     | true => exact draw_sound hT hS hm w0 E ops.toList _ _ B nx sl H a w loc id (by simpa using hdr) hK hb hr h
   | some p =>
     simp only [hp,Bool.and_eq_true] at hdr h
     obtain ⟨hd1,hd2⟩ := hdr
     subst hd1
     exact drawF_sound hT hS hm hd2 hK hb hr h
 | seq x y ihx ihy =>
   intro Q σ a w hdr h hr
   refine wp_seq (wp_mono (ihx _ σ a w (by simp only [zct,Bool.and_eq_true] at hdr; exact hdr.1) h hr) ?_)
   rintro e a' w' ⟨σ',hr',hq⟩
   cases e with
   | normal => exact ihy Q σ' a' w' (by simp only [zct,Bool.and_eq_true] at hdr; exact hdr.2) hq hr'
   | _ => exact ⟨σ',hr',hq⟩
 | cond c x y ihx ihy =>
   intro Q σ a w hdr h hr
   simp only [awpF,csplit] at h
   simp only [zct,Bool.and_eq_true] at hdr
   obtain ⟨loc,hb,hr⟩ := hr
   split at h
   · rename_i t hc
     have hv := ev_R hr.slots c
     rw [hc] at hv
     have hv := hv.wv
     cases t with
     | true => exact wp_cond_true hv (ihx Q σ a w hdr.1 (h.1 rfl) ⟨loc,hb,hr⟩)
     | false => exact wp_cond_false hv (ihy Q σ a w hdr.2 (h.2 rfl) ⟨loc,hb,hr⟩)
   · exact h.elim
 | block id c ih =>
   intro Q σ a w hdr h hr
   refine wp_block (wp_mono (ih _ σ a w hdr h hr) ?_)
   rintro e a' w' ⟨σ',hr',hq⟩
   cases e with
   | exit id' =>
     simp only [blockK,Exit.inBlock] at hq ⊢
     split at hq
     · rename_i he; rw [if_pos he]; exact ⟨σ',hr',hq⟩
     · rename_i he; rw [if_neg he]; exact ⟨σ',hr',hq⟩
   | _ => exact ⟨σ',hr',hq⟩
 | loop c ih =>
   intro Q σ a w hdr h hr
   obtain ⟨I,⟨n0,σ0,hw0,hI0⟩,hround⟩ := h
   let p : Act → World → Nat → Prop := fun a w n => ∃ σ,Rel w0 E B σ a w ∧ I n σ
   have hleast : ∀ a w,(∃ n,p a w n) → ∃ m,p a w m ∧ ∀ k,p a w k → m ≤ k := fun a w ⟨n,hn⟩ => let ⟨m,h1,_,h3⟩ := least n hn; ⟨m,h1,h3⟩
   let μ : Act → World → Nat := fun a w => if h : ∃ n,p a w n then Classical.choose (hleast a w h) else 0
   refine wp_loop (fun a w => ∃ n,p a w n) μ ⟨n0,σ0,hw0 w0 E B a w hr,hI0⟩ ?_
   intro a w hex
   have hμ : μ a w = Classical.choose (hleast a w hex) := dif_pos hex
   obtain ⟨⟨σ1,hr1,hI1⟩,hmin⟩ := Classical.choose_spec (hleast a w hex)
   rw [← hμ] at hI1
   refine wp_mono (ih _ σ1 a w hdr (hround _ σ1 hI1) hr1) ?_
   rintro e a' w' ⟨σ',hr',hq⟩
   cases e with
   | normal =>
     obtain ⟨m,σ2,hlt,hw2,hI2⟩ := hq
     have hp : p a' w' m := ⟨σ2,hw2 w0 E B a' w' hr',hI2⟩
     refine ⟨⟨m,hp⟩,?_⟩
     have hμ' : μ a' w' = Classical.choose (hleast a' w' ⟨m,hp⟩) := dif_pos ⟨m,hp⟩
     have := (Classical.choose_spec (hleast a' w' ⟨m,hp⟩)).2 m hp
     rw [← hμ'] at this
     exact Nat.lt_of_le_of_lt this hlt
   | _ =>
     obtain ⟨σ2,hw2,hq⟩ := hq
     exact ⟨σ2,hw2 w0 E B a' w' hr',hq⟩
 | _ => intro Q σ a w hdr h hr; exact h.elim
theorem sound_gen0 {P : Program} {T : zab} {S : zaf} (hT : TOk P T) (hS : Fns P S) {f : FuncId} {fn : Func} {c : Code} (hf : P.funcs[f]? = some fn) (hb : fn.body = some c) {spec : zap} {Qp : List AV → List Blk → Exit → ASt → Prop}
   (hqp : ∀ xs pins e σ,Qp xs pins e σ → ∃ σ',Weak σ σ' ∧ Ends T fn.results.toList pins (spec xs pins) e σ')
   (h : ∀ xs pins,(spec xs pins).p → closedB pins = true → pins.length ≤ 4 ∧ ∀ w0 E B a w,Rel w0 E B ⟨xs ++ List.replicate (fn.ntmps - xs.length) .junk,pinHeap 0 pins,4⟩ a w → c.wp P (Low w0 E B (Qp xs pins)) a w) : zaz P f spec := by
 intro xs pins hp hcl w bad pb vs hlen hnd hbad hlies hxl hx
 obtain ⟨hp4,h⟩ := h xs pins hp hcl
 refine calls_of_wp hf hb ?_
 have hrel : Rel w (· ∈ pb) ⟨bad,pb⟩ ⟨xs ++ List.replicate (fn.ntmps - xs.length) .junk,pinHeap 0 pins,4⟩ { tmps := vs.toArray ++ Array.replicate (fn.ntmps - vs.toArray.size) undef,defers := [] } w := by
   refine ⟨zbb pb bad,⟨⟨rfl,fun k hk cur e fz hh => ⟨cur,fz,hh,rfl⟩⟩,by simp only; omega,fun k hk => .inr ⟨by simp [zbb,List.getElem?_eq_getElem hk],fun cur e fz hh => ⟨cur,fz,hh,rfl⟩⟩⟩,?_⟩
   refine ⟨by simp [hxl],fun t => ?_,?_,?_,?_,rfl,fun id b hl => ?_⟩
   · simp only
     rw [zcc]
     by_cases ht : t < xs.length
     · have e1 : (xs ++ List.replicate (fn.ntmps - xs.length) AV.junk).getD t .junk = xs[t] := by simp [List.getElem?_append_left,ht]
       have e2 : (vs.toArray ++ Array.replicate (fn.ntmps - vs.toArray.size) undef).getD t undef = vs[t]'(by omega) := by
         have : t < vs.length := by omega
         simp [Array.getD_eq_getD_getElem?,Array.getElem?_append,this]
       rw [e1,e2]
       exact hx t ht _
     · have e1 : (xs ++ List.replicate (fn.ntmps - xs.length) AV.junk).getD t .junk = .junk := by
         rw [List.getD_eq_getElem?_getD,List.getElem?_append_right (by omega),List.getElem?_replicate]
         split <;> rfl
       rw [e1]; exact .junk _
   · intro id b hl
     obtain ⟨j,hj,rfl,rfl⟩ := zbr pins 0 id b hl
     have hj' : j < pb.length := by omega
     unfold BlkR
     have : (zbb pb bad).m (0 + j) = .here pb[j] := by simp [zbb,List.getElem?_eq_getElem hj']
     rw [this]
     exact hlies j hj hj'
   · refine ⟨rfl,rfl,rfl,Nat.le_refl _,fun _ _ _ => rfl,?_,?_,?_⟩
     · intro i j b hi hj
       obtain ⟨h1,h2⟩ := zcr hi
       obtain ⟨h3,h4⟩ := zcr hj
       exact zce hnd (h2.trans h4.symm)
     · intro i b hi
       obtain ⟨h1,h2⟩ := zcr hi
       subst h2
       refine ⟨?_,.inr (List.getElem_mem h1)⟩
       obtain ⟨ob,hh⟩ := lies_live2 (hlies i (by omega) h1).2
       rcases Nat.lt_or_ge pb[i] w.heap.size with h' | h'
       · exact h'
       · rw [Array.getElem?_eq_none h'] at hh; cases hh
     · exact fun b hb => hbad b hb
   · intro id hid
     simp only at hid
     have : pb[id]? = none := List.getElem?_eq_none (by omega)
     simp [zbb,this]
   · obtain ⟨j,hj,rfl,_⟩ := zbr pins 0 id b hl
     simp; omega
 refine wp_mono (h _ _ _ _ w hrel) ?_
 have main : ∀ a w' σ,Rel w (· ∈ pb) ⟨bad,pb⟩ σ a w' → (rvals T σ.H σ.sl fn.results.toList).1 ∧ EndsX pins (spec xs pins) (rone (rvals T σ.H σ.sl fn.results.toList).2) σ →
     a.defers = [] ∧ ∃ v,(results fn a.tmps).run P w' = .ok v w' ∧ ∃ v' loc',Ending.returned v = .returned v' ∧ Gives w bad pb (spec xs pins) v' w' loc' := by
   rintro a w' σ ⟨loc,hB,hr⟩ ⟨hrv,hnodup,hpin,hbl,hren⟩
   obtain ⟨v,hv,hR⟩ := results_R (P := P) (fn := fn) hT hr.heap hr.slots hrv
   refine ⟨hr.defers,v,hv,v,?_⟩
   generalize rone (rvals T σ.H σ.sl fn.results.toList).2 = x at hnodup hpin hbl hren hR
   have hnd' := zdu hnodup
   obtain ⟨hids1,hids2⟩ := newIds_mem x.ids (upTo 0 pins)
   obtain ⟨hu1,hu2⟩ := upTo_get pins 0
   generalize hids : newIds (upTo 0 pins) x.ids = ids at hnodup hpin hbl hren hnd' hids1 hids2
   obtain ⟨hpl,hpc,hpg⟩ := zem hpin
   rw [hbl] at hpl hpc hpg
   obtain ⟨t,rfl⟩ := hids1
   have hm : pins.length ≤ (upTo 0 pins ++ t).length := by simp [hu1]
   have hold : ∀ k,(hk : k < pins.length) → (upTo 0 pins ++ t)[k]'(by omega) = k := by
     intro k hk
     rw [List.getElem_append_left (by omega)]
     have := hu2 k (by omega)
     omega
   -- every one of the names is alive
   have hlive : ∀ (k : Nat) (hk : k < (upTo 0 pins ++ t).length),loc.m (upTo 0 pins ++ t)[k] ≠ .free := by
     intro k hk
     rcases hids2 _ (List.getElem_mem hk) with hi | hi
     · obtain ⟨j,hj,he⟩ := List.getElem_of_mem hi
       rw [← he,hu2 j hj]
       have hj' : j < pb.length := by omega
       rcases hB.2.2 j hj' with h1 | ⟨h1,_⟩
       · rw [Nat.zero_add,h1]; simp
       · rw [Nat.zero_add,h1]; simp
     · exact zdr x v hR hi
   have hblk : ∀ (k : Nat) (hk : k < (upTo 0 pins ++ t).length) (hk' : k < (spec xs pins).bl.length),BlkR w' loc (upTo 0 pins ++ t)[k] (spec xs pins).bl[k] := by
     intro k hk hk'
     refine hr.heap _ _ ?_
     rw [hpg k hk,List.getElem?_eq_getElem hk']
   have hdead : ∀ (k : Nat) (hk : k < (upTo 0 pins ++ t).length),loc.m (upTo 0 pins ++ t)[k] ≠ .dead := by
     intro k hk e
     have := hblk k hk (by omega)
     unfold BlkR at this
     rw [e] at this
     exact this
   let g : Nat → Nat := gOf (upTo 0 pins ++ t) σ.nx
   have hgo : ∀ k,(hk : k < (upTo 0 pins ++ t).length) → g k = (upTo 0 pins ++ t)[k] := fun k hk => zdz hk
   have hgn : ∀ k,(upTo 0 pins ++ t).length ≤ k → loc.m (g k) = .free := by
     intro k hk
     refine hr.fresh _ ?_
     show σ.nx ≤ gOf _ σ.nx k
     rw [zdo hk]; omega
   let loc' : Loc := { m := fun k => loc.m (g k),bad := loc.bad }
   have hlt : ∀ i b,loc'.m i = .here b → i < (upTo 0 pins ++ t).length := by
     intro i b hi
     rcases Nat.lt_or_ge i (upTo 0 pins ++ t).length with h' | h'
     · exact h'
     · have : loc'.m i = .free := hgn i h'
       rw [this] at hi; cases hi
   have hinj : ∀ i j b,loc'.m i = .here b → loc'.m j = .here b → i = j := by
     intro i j b hi hj
     have h1 := hlt i b hi
     have h2 := hlt j b hj
     have h3 : g i = g j := hr.env.inj (g i) (g j) b hi hj
     rw [hgo i h1,hgo j h2] at h3
     exact zce hnd' h3
   have hpb : ∀ (k : Nat) (hk : k < pb.length),loc'.m k = .here pb[k] ∧ ∀ cur e fz,w.heap[pb[k]]? = some (.cells cur e fz) → ∃ cur' fz',w'.heap[pb[k]]? = some (.cells cur' e fz') ∧ cur'.size = cur.size := by
     intro k hk
     have hk1 : k < pins.length := by omega
     have e : loc'.m k = loc.m k := by
       show loc.m (g k) = loc.m k
       rw [hgo k (by omega),hold k hk1]
     rcases hB.2.2 k hk with h1 | ⟨h1,h2⟩
     · have := hdead k (by omega)
       rw [hold k hk1] at this
       exact (this h1).elim
     · exact ⟨e.trans h1,h2⟩
   refine ⟨loc',rfl,?_⟩
   refine ⟨unren (loc2 := loc') (g := g) (fun _ => rfl) rfl hR _ hren,hB.1.1,?_,fun k hk => (hpb k hk).1,?_,?_,hinj,?_⟩
   · intro k hk
     have hk' : k < (upTo 0 pins ++ t).length := by omega
     have e : loc'.m k = loc.m (upTo 0 pins ++ t)[k] := by show loc.m (g k) = _; rw [hgo k hk']
     refine ⟨?_,by rw [e]; exact hlive k hk',by rw [e]; exact hdead k hk'⟩
     have hb := hblk k hk' hk
     unfold BlkR at hb ⊢
     rw [e]
     split
     · trivial
     · rename_i e'; rw [e'] at hb; exact hb
     · rename_i e'; rw [e'] at hb; exact hb
     · rename_i b e'
       rw [e'] at hb
       refine ⟨hb.1,zfa hb.2 (zff hpc k hk) (.inr ?_)⟩
       rintro c _ (h | ⟨i,h⟩)
       · exact .inl h
       · exact .inr ⟨g i,h⟩
   · intro k b hk hkb
     have := hr.env.lies (g k) b hkb
     refine ⟨?_,this.1⟩
     rcases this.2 with h' | h'
     · exact h'
     · obtain ⟨j,hj,he⟩ := List.getElem_of_mem h'
       have h1 := (hpb j hj).1
       rw [he] at h1
       have := hinj k j b hkb h1
       omega
   · intro k hk
     exact hgn k (by omega)
   · refine ⟨hr.env.os,hr.env.tape,hr.env.output,hr.env.size,hr.env.same,?_⟩
     rintro b cur e fz hb hh
     obtain ⟨j,hj,rfl⟩ := List.getElem_of_mem hb
     exact (hpb j hj).2 cur e fz hh
 rintro e a w' ⟨σ0,hr0,hq0⟩
 obtain ⟨σ,hwk,hq⟩ := hqp xs pins e σ0 hq0
 have hr := hwk _ _ _ _ _ hr0
 cases e with
 | normal => exact main a w' σ hr hq
 | ret => exact main a w' σ hr hq
 | _ => exact hq.elim
theorem fn_soundF {P : Program} {T : zab} {S : zaf} {pl : Plan} (hm : P.follows .mixedOrders = true) (hT : TOk P T) (hS : Fns P S) {f : FuncId} {fn : Func} {c : Code} (hf : P.funcs[f]? = some fn) (hb : fn.body = some c) (hd : zct T pl c = true) {spec : zap}
   (h : ∀ xs pins,(spec xs pins).p → closedB pins = true → pins.length ≤ 4 ∧ awpF S T pl c (EndsW T fn.results.toList pins (spec xs pins)) ⟨xs ++ List.replicate (fn.ntmps - xs.length) .junk,pinHeap 0 pins,4⟩) : zaz P f spec :=
 sound_gen0 hT hS hf hb (Qp := fun xs pins => EndsW T fn.results.toList pins (spec xs pins)) (fun _ _ _ _ h => h) (fun xs pins hp hc => ⟨(h xs pins hp hc).1,fun w0 E B a w hr => awpF_sound hm hT hS c _ _ _ _ hd (h xs pins hp hc).2 hr⟩)
def laterF (S : zaf) (T : zab) (pl : Plan) (b : Code) (Q : Exit → ASt → Prop) : Exit → ASt → Prop := seqK (awpF S T pl b Q) Q
section rules
variable {S : zaf} {T : zab} {pl : Plan} {Q : Exit → ASt → Prop} {σ : ASt}
theorem awpF_skip : awpF S T pl .skip Q σ = Q .normal σ := rfl
theorem awpF_label {l : Nat} : awpF S T pl (.label l) Q σ = Q .normal σ := rfl
theorem awpF_ret : awpF S T pl .ret Q σ = Q .ret σ := rfl
theorem awpF_exit {id : Nat} : awpF S T pl (.exit id) Q σ = Q (.exit id) σ := rfl
theorem awpF_region {id : Nat} {l : List Oper} {draw : Bool} : awpF S T pl (.region id l.toArray draw) Q σ = match pl id with
   | none => aops S T l σ.nx l σ.sl σ.H (regK (σ.nx + 8 * l.length) Q)
   | some p => aopsF S T l p σ.nx [] l σ.sl σ.H (regK (σ.nx + 8 * l.length) Q) := by
 simp [awpF]
theorem awpF_seq {a b : Code} : awpF S T pl (.seq a b) Q σ = awpF S T pl a (laterF S T pl b Q) σ := rfl
theorem awpF_block {id : Nat} {c : Code} : awpF S T pl (.block id c) Q σ = awpF S T pl c (blockK id Q) σ := rfl
theorem awpF_cond {c : Operand} {a b : Code} : awpF S T pl (.cond c a b) Q σ = match ev σ.sl c with
     | .w (.bool t) => csplit t (awpF S T pl a Q σ) (awpF S T pl b Q σ)
     | _ => False := rfl
theorem awpF_loopW {c : Code} (h : ALoop (awpF S T pl c) Q σ) : awpF S T pl (.loop c) Q σ := h
theorem zac {b : Code} : laterF S T pl b Q .normal σ = awpF S T pl b Q σ := rfl
theorem laterF_exit {b : Code} {id : Nat} : laterF S T pl b Q (.exit id) σ = Q (.exit id) σ := rfl
theorem laterF_ret {b : Code} : laterF S T pl b Q .ret σ = Q .ret σ := rfl
variable {ops r : List Oper} {o : Oper} {nm : Nat} {sl : List AV} {H : Heap} {Q' : List AV → Heap → Prop} {pp : List (Nat × Nat)} {acc : List (Nat × List Nat)}
theorem aopsF_nil : aopsF S T ops pp nm acc [] sl H Q' = (memOk pp acc = true ∧ Q' sl H) := rfl
theorem aopsF_plain {dst : Option Tmp} {op : Op} {type : TypeId} {pos : String} {after : Array Edge} : aopsF S T ops pp nm acc (⟨dst,op,type,pos,after,none⟩ :: r) sl H Q' =
   ((aopF S T nm sl op H).p ∧ aopsF S T ops pp (nm + 8) (acc ++ [(nm,foot sl op H)]) r (zai sl dst (aopF S T nm sl op H).x) (aopF S T nm sl op H).H Q') := rfl
theorem aopsF_guard {dst : Option Tmp} {op : Op} {type : TypeId} {pos : String} {after : Array Edge} {j : Nat} {want : Bool} : aopsF S T ops pp nm acc (⟨dst,op,type,pos,after,some (j,want)⟩ :: r) sl H Q' =
   match guardSlot ops j with
     | none => False
     | some d => match slot sl d with
       | .w (.bool b) =>
         gsplit b want ((aopF S T nm (setSlot sl d (.w (.bool want))) op H).p ∧
           aopsF S T ops pp (nm + 8) (acc ++ [(nm,foot (setSlot sl d (.w (.bool want))) op H)]) r (zai (setSlot sl d (.w (.bool want))) dst (aopF S T nm (setSlot sl d (.w (.bool want))) op H).x) (aopF S T nm (setSlot sl d (.w (.bool want))) op H).H Q')
         (aopsF S T ops pp (nm + 8) (acc ++ [(nm,[])]) r (zai (setSlot sl d (.w (.bool !want))) dst (.tup [])) H Q')
       | .tup [] => aopsF S T ops pp (nm + 8) (acc ++ [(nm,[])]) r (zai sl dst (.tup [])) H Q'
       | _ => False := rfl
end rules
end Ax
end Go.Proofs.Ythjceeimbohajaa
namespace Go.Proofs.Ythjceeimbohajaa
open Ax
theorem evTP : (type_of% @awpF_skip) ∧
   (type_of% @awpF_label) ∧
   (type_of% @awpF_ret) ∧
   (type_of% @awpF_exit) ∧
   (type_of% @awpF_region) ∧
   (type_of% @awpF_seq) ∧
   (type_of% @awpF_block) ∧
   (type_of% @awpF_cond) ∧
   (type_of% @laterF_exit) ∧
   (type_of% @laterF_ret) ∧
   (type_of% @aopsF_nil) ∧
   (type_of% @aopsF_plain) ∧
   (type_of% @aopsF_guard) :=
 ⟨@awpF_skip,@awpF_label,@awpF_ret,@awpF_exit,@awpF_region,@awpF_seq,@awpF_block,@awpF_cond,@laterF_exit,@laterF_ret,@aopsF_nil,@aopsF_plain,@aopsF_guard⟩
theorem evDP : (type_of% @Ax.aopF.eq_1) ∧
   (type_of% @Ax.foot.eq_1) ∧
   (type_of% @Ax.footA.eq_1) ∧
   (type_of% @Ax.keepIn.eq_1) ∧
   (type_of% @Ax.keepIn.eq_2) ∧
   (type_of% @Ax.dropIn.eq_1) ∧
   (type_of% @Ax.dropIn.eq_2) ∧
   (type_of% @Ax.bids.eq_1) ∧
   (type_of% @Ax.bids.eq_2) ∧
   (type_of% @Ax.heldB.eq_1) ∧
   (type_of% @Ax.memOk.eq_1) ∧
   (type_of% @Ax.clearOf.eq_1) :=
 ⟨@Ax.aopF.eq_1,@Ax.foot.eq_1,@Ax.footA.eq_1,@Ax.keepIn.eq_1,@Ax.keepIn.eq_2,@Ax.dropIn.eq_1,@Ax.dropIn.eq_2,@Ax.bids.eq_1,@Ax.bids.eq_2,@Ax.heldB.eq_1,@Ax.memOk.eq_1,@Ax.clearOf.eq_1⟩
open Ax
attribute [go_sem] evDP evTP Blk.ids Op.operands Call.operands
end Go.Proofs.Ythjceeimbohajaa
namespace Go.Proofs.Ythjceeimbohajaa
namespace Ax
open Go.RowKit
def FnsO (P : Program) (S : zaf) : Prop := ∀ f s,S f = some s → Entered P f ∧ SoundO P f s
def noO : zaf := fun _ => none
theorem noO_ok {P : Program} : FnsO P noO := fun f s h => by cases h
def zci (SO : zaf) (T : zab) (nm : Nat) (sl : List AV) (op : Op) (H : Heap) : Out :=
 match op with
 | .call c => match c.callee with
   | .value f => match ev sl f with
     | .fn f caps => aOpen SO nm f (coes T c.argTypes.toList (evs sl c.args.toList) ++ caps) H
     | _ => bad
   | _ => bad
 | _ => bad
theorem open_sound {P : Program} {w0 : World} {E : Nat → Prop} {w : World} {loc : Loc} {H : Heap} {T : zab} {SO : zaf} (hS : FnsO P SO) (he : Env w0 E w loc) (hh : HR w loc H) {nm : Nat} (hfree : ∀ id,nm ≤ id → id < nm + 8 → loc.m id = .free) {sl : List AV} {a : Act} (o : Oper)
   (hev : ∀ x,R w loc (ev sl x) (a.eval x)) (hp : (zci SO T nm sl o.op H).p) : Sd P w0 E w loc true nm (zci SO T nm sl o.op H) o a := by
 cases ho : o.op with
 | call c =>
   obtain ⟨callee,args,argTypes⟩ := c
   cases callee with
   | value f =>
     have hfv := hev f
     simp only [zci,ho] at hp ⊢
     generalize ev sl f = xf at hfv hp ⊢
     split at hp
     · rename_i g caps
       cases hv : a.eval f with
       | func fn first captured =>
         rw [hv] at hfv
         cases hfv with
         | fn _ _ cs hlc hc =>
           obtain ⟨e1,e2⟩ := evs_R (w := w) (loc := loc) (sl := sl) (a := a) args.toList (fun x _ => hev x)
           obtain ⟨c1,c2⟩ := coes_R (T := T) (w := w) (loc := loc) argTypes.toList (evs sl args.toList)
           have c2 := c2 (args.toList.map a.eval) e2
           have c3 : ∀ (j : Nat) (h : j < (coes T argTypes.toList (evs sl args.toList) ++ caps).length) (h' : j < (args.toList.map a.eval ++ cs).length),R w loc (coes T argTypes.toList (evs sl args.toList) ++ caps)[j] (args.toList.map a.eval ++ cs)[j] := by
             intro j h h'
             have hl : (coes T argTypes.toList (evs sl args.toList)).length = (args.toList.map a.eval).length := by rw [c1,e1]; simp
             by_cases hj : j < (coes T argTypes.toList (evs sl args.toList)).length
             · rw [List.getElem_append_left hj,List.getElem_append_left (by omega)]
               exact c2 j hj (by omega)
             · rw [List.getElem_append_right (by omega),List.getElem_append_right (by omega)]
               have := hc (j - (coes T argTypes.toList (evs sl args.toList)).length) (by rw [List.length_append] at h; omega) (by rw [List.length_append] at h'; omega)
               simpa only [hl] using this
           cases hsg : SO g with
           | none => simp [aOpen,hsg,bad] at hp
           | some sp =>
             obtain ⟨⟨fn,hfn,hbody,hname⟩,hsound⟩ := hS g sp hsg
             have hcall := call_postO (P := P) he hh hfree (SO := SO) (fun f s h => (hS f s h).2) (f := g) (by rw [List.length_append,List.length_append,c1,e1,hlc]; simp) c3 hp
             have hrun : (execOp a.eval o).run P w = .ok (.enter g (args.toList.map a.eval ++ cs).toArray) w := by
               have h1 : fn.name ≠ "runtime.NumGoroutine" := by simpa using hname
               have hb' : fn.body ≠ none := by intro e; rw [e] at hbody; simp at hbody
               have h9 : Array.map a.eval args = (args.toList.map a.eval).toArray := by rw [← Array.toList_inj]; simp
               simp [execOp,ho,resolve,hv,Deferred.ofValue,invoke,callFunc,hfn,h1,hb',h9]
             intro next Q hn
             unfold Oper.wp
             rw [hrun]
             refine hcall.mono ?_
             rintro e w' ⟨v,loc',rfl,h1⟩
             exact hn v w' loc' h1
       | _ => rw [hv] at hfv; cases hfv
     · exact hp.elim
   | _ => simp [zci,ho,bad] at hp
 | _ => simp [zci,ho,bad] at hp
theorem walk_look {H : Heap} : ∀ (ids good : List Nat),walk H good ids = true → ∀ id ∈ ids,look H id ≠ none
 | [],_,_,id,hid => by simp at hid
 | k :: r,good,hw,id,hid => by
   simp only [walk,Bool.and_eq_true] at hw
   cases hl : look H k with
   | none => simp [hl] at hw
   | some blk =>
     simp only [hl] at hw
     rcases List.mem_cons.1 hid with rfl | hid
     · rw [hl]; simp
     · exact walk_look r _ hw.2 id hid
theorem hnew_open {SO : zaf} {T : zab} {sl : List AV} {op : Op} {nm : Nat} {H : Heap} : Hnew nm H (zci SO T nm sl op H) := by
 unfold zci
 split
 · split
   · split
     · unfold aOpen
       split
       · rename_i f _ spec hs
         intro hp id b hl
         simp only [openOut] at hp hl
         generalize reach H 12 [] (idsL _) = ids at *
         obtain ⟨⟨hnd,hwalk,hain,hpin⟩,hsp,hb1,hb2⟩ := hp
         rcases look_backO _ _ _ hl with ⟨j,hj,h1,h2⟩ | ⟨h1,h2⟩
         · rw [Nat.zero_add] at h1
           by_cases hjl : j < ids.length
           · rw [zdz hjl] at h1
             left
             rw [← h1]
             exact walk_look ids _ hwalk _ (List.getElem_mem hjl)
           · rw [zdo (by omega)] at h1
             right; omega
         · exact .inl (by rw [h1]; simp)
       · exact hok_bad.new
     · exact hok_bad.new
   · exact hok_bad.new
 · exact hok_bad.new
def aopsO (S SO : zaf) (T : zab) (ops : List Oper) : Nat → Nat → List Oper → List AV → Heap → (List AV → Heap → Prop) → Prop
 | _,_,[],sl,H,Q => Q sl H
 | 0,nm,o :: r,sl,H,Q => o.guard = none ∧ (zci SO T nm sl o.op H).p ∧ aops S T ops (nm + 8) r (zai sl o.dst (zci SO T nm sl o.op H).x) (zci SO T nm sl o.op H).H Q
 | k + 1,nm,o :: r,sl,H,Q => o.guard = none ∧ (aop S T nm sl o.op H).p ∧ aopsO S SO T ops k (nm + 8) r (zai sl o.dst (aop S T nm sl o.op H).x) (aop S T nm sl o.op H).H Q
theorem aopsO_sound {P : Program} {w0 : World} {E : Nat → Prop} {T : zab} {S SO : zaf} (hT : TOk P T) (hS : Fns P S) (hSO : FnsO P SO) {ops : Array Oper} {K : Exit → Act → World → Prop} {Q : List AV → Heap → Prop} {B : Bs} {nz : Nat}
   (hK : ∀ sl H a w loc,Base w0 B w loc → Rel' w0 E loc ⟨sl,H,nz⟩ a w → Q sl H → K .normal a w) : ∀ (k : Nat) (r : List Oper) (nm : Nat) (sl : List AV) (H : Heap) (a : Act) (w : World) (loc : Loc),nz = nm + 8 * r.length → Base w0 B w loc →
   Rel' w0 E loc ⟨sl,H,nm⟩ a w → aopsO S SO T ops.toList k nm r sl H Q → wpList P ops K r a w
 | k,[],nm,sl,H,a,w,loc,hz,hb,hr,h => by
   simp only [List.length_nil,Nat.mul_zero,Nat.add_zero] at hz
   subst hz
   exact wpList_nil (hK sl H a w loc hb hr (by cases k <;> exact h))
 | 0,o :: r,nm,sl,H,a,w,loc,hz,hb,hr,h => by
   have hz' : nz = nm + 8 + 8 * r.length := by simp at hz; omega
   obtain ⟨hg,hp,hrest⟩ := h
   refine wpList_step fun Kn hKn => ?_
   rw [if_pos (by simp [Region.wanted,hg])]
   have hop := open_sound (T := T) hSO hr.env hr.heap (fun id h1 _ => hr.fresh id h1) o (fun x => ev_R hr.slots x) hp
   exact hop Kn K (fun v w' loc' hpost => hKn _ _ (zdq (ops := ops) hT hS hK r (nm + 8) _ _ _ w' loc' hz' (hb.post hpost) (zfn hr hpost (hnew_open hp) o.dst) hrest))
 | k + 1,o :: r,nm,sl,H,a,w,loc,hz,hb,hr,h => by
   have hz' : nz = nm + 8 + 8 * r.length := by simp at hz; omega
   obtain ⟨hg,hp,hrest⟩ := h
   refine wpList_step fun Kn hKn => ?_
   rw [if_pos (by simp [Region.wanted,hg])]
   have hop := zcq hT hS hr.env hr.heap (fun id h1 _ => hr.fresh id h1) o (fun x _ => ev_R hr.slots x) hp
   exact hop Kn K (fun v w' loc' hpost => hKn _ _ (aopsO_sound hT hS hSO hK k r (nm + 8) _ _ _ w' loc' hz' (hb.post hpost) (zfn hr hpost (zef hp) o.dst) hrest))
def specOp (T : zab) (sl : List AV) (op : Op) (K : AV → Prop) : Prop :=
 match op with
 | .binOp .eql t x (.const (.slice none 0 0)) _ => match T t with
   | some ti => match ti.d with
     | .slice _ => match ev sl x with
       | .sg s xs _ => 0 < s ∧ ∀ b,(b = true → xs.length = 0) → K (.w (.bool b))
       | .sb xs _ => ∀ b,(b = true → xs.length = 0) → K (.w (.bool b))
       | .si xs _ => ∀ b,(b = true → xs.length = 0) → K (.w (.bool b))
       | _ => False
     | _ => False
   | none => False
 | .buildSlice t 0 ps => match T t with
   | some ti => match ti.d with
     | .slice e => match T e with
       | some te => ps = #[] ∧ 0 < te.size ∧ K (.sg te.size [] true)
       | none => False
     | _ => False
   | none => False
 | .call c => match c.callee with
   | .builtin .append => match c.args.toList,c.argTypes.toList with
     | [x,y],[t,u] => match T t,T u with
       | some ti,some tu => match ti.d,tu.d with
         | .slice e,.slice _ => match T e with
           | some te => match ev sl x,ev sl y with
             | .sg s [] true,.sg _ [] _ => 0 < te.size ∧ K (.sg s [] true)
             | .sg s [] true,.sb [] _ => 0 < te.size ∧ K (.sg s [] true)
             | .sg s [] true,.si [] _ => 0 < te.size ∧ K (.sg s [] true)
             | _,_ => False
           | none => False
         | _,_ => False
       | _,_ => False
     | _,_ => False
   | _ => False
 | _ => False
theorem append_none {P : Program} {t u ty e e' : TypeId} {te : TyI} (hd : P.underlying t = some (.slice e)) (hu : P.underlying u = some (.slice e')) (hty : TyR P e te) (a a' : Option Addr) (c : Nat) (w : World) :
   (Builtin.append_ #[t,u] ty #[.slice a 0 0,.slice a' 0 c]).run P w = .ok (.slice a 0 0) w := by
 have hsz := fun W => zau (P := P) hty W
 have hlc : ∀ (b : Addr) W,(loadCells b 0).run P W = .ok #[] W := fun b W => by simp [loadCells,loadCellsFrom]
 have hst : ∀ (b : Addr) W,(storeCells b []).run P W = .ok () W := fun b W => by simp [storeCells]
 unfold Builtin.append_
 cases a <;> cases a' <;> simp [run_underlying hd,run_underlying hu,hsz,Builtin.lenOf,Builtin.firstCells,hlc,hst]
theorem specOp_sound {P : Program} {w0 : World} {E : Nat → Prop} {T : zab} (hT : TOk P T) {w : World} {loc : Loc} {H : Heap} (he : Env w0 E w loc) (hh : HR w loc H) {nm : Nat} {sl : List AV} {a : Act} {op : Op} {K : AV → Prop} (hev : ∀ x,R w loc (ev sl x) (a.eval x)) (h : specOp T sl op K) :
   ∃ x v w',K x ∧ Post w0 E w loc true nm x H v w' loc ∧ ∀ o : Oper,o.op = op → (execOp a.eval o).run P w = .ok (.value v) w' := by
 unfold specOp at h
 split at h
 · rename_i t x yt
   cases ht : T t with
   | none => simp [ht] at h
   | some ti =>
     simp only [ht] at h
     split at h
     · rename_i e hd
       have hu : ∃ e,P.underlying t = some (.slice e) := by
         have := (hT t ti ht).d
         rw [hd] at this
         exact ⟨_,this⟩
       obtain ⟨e,hu⟩ := hu
       have hx := hev x
       generalize ev sl x = xv at hx h
       split at h
       · rename_i s xs f
         obtain ⟨hs,h⟩ := h
         generalize hv : a.eval x = v at hx
         cases hx with
         | sg _ _ _ ad cap cs hd hs' hc hl hx' _ =>
           refine ⟨_,.bool ad.isNone,w,h ad.isNone fun hn => ?_,Post.pure (.w _ rfl) hh he,fun o ho => ?_⟩
           · cases xs with
             | nil => rfl
             | cons y ys =>
               exfalso
               obtain rfl : ad = none := by simpa using hn
               rcases hc.lies with rfl | ⟨b,o,he,_⟩
               · have := hs' y (by simp)
                 rw [List.flatMap_cons,List.length_append,List.length_nil] at hl
                 omega
               · cases he
           · have heq : ∀ d,(Op.equalIn (d + 1) t (.slice ad xs.length cap) (.slice none 0 0)).run P w = .ok ad.isNone w := fun d => by cases ad <;> simp [Op.equalIn,run_underlying hu]
             have heq := heq 9999
             have h2 : (Op.equal t (.slice ad xs.length cap) (.slice none 0 0)).run P w = .ok ad.isNone w := heq
             simp only [execOp,ho,hv]
             simp [zbz (u := .slice ad xs.length cap) rfl (by simp),binOp,h2,Act.eval]
       · rename_i xs f
         generalize hv : a.eval x = v at hx
         cases hx with
         | sb _ _ ad cap hd hc =>
           refine ⟨_,.bool ad.isNone,w,h ad.isNone fun hn => ?_,Post.pure (.w _ rfl) hh he,fun o ho => ?_⟩
           · cases xs with
             | nil => rfl
             | cons y ys =>
               exfalso
               obtain rfl : ad = none := by simpa using hn
               rcases hc.lies with hcs | ⟨b,o,he,_⟩
               · simp at hcs
               · cases he
           · have heq : ∀ d,(Op.equalIn (d + 1) t (.slice ad xs.length cap) (.slice none 0 0)).run P w = .ok ad.isNone w := fun d => by cases ad <;> simp [Op.equalIn,run_underlying hu]
             have heq := heq 9999
             have h2 : (Op.equal t (.slice ad xs.length cap) (.slice none 0 0)).run P w = .ok ad.isNone w := heq
             simp only [execOp,ho,hv]
             simp [zbz (u := .slice ad xs.length cap) rfl (by simp),binOp,h2,Act.eval]
       · rename_i xs f
         generalize hv : a.eval x = v at hx
         cases hx with
         | si _ _ ad cap hd hc =>
           refine ⟨_,.bool ad.isNone,w,h ad.isNone fun hn => ?_,Post.pure (.w _ rfl) hh he,fun o ho => ?_⟩
           · cases xs with
             | nil => rfl
             | cons y ys =>
               exfalso
               obtain rfl : ad = none := by simpa using hn
               rcases hc.lies with hcs | ⟨b,o,he,_⟩
               · simp at hcs
               · cases he
           · have heq : ∀ d,(Op.equalIn (d + 1) t (.slice ad xs.length cap) (.slice none 0 0)).run P w = .ok ad.isNone w := fun d => by cases ad <;> simp [Op.equalIn,run_underlying hu]
             have heq := heq 9999
             have h2 : (Op.equal t (.slice ad xs.length cap) (.slice none 0 0)).run P w = .ok ad.isNone w := heq
             simp only [execOp,ho,hv]
             simp [zbz (u := .slice ad xs.length cap) rfl (by simp),binOp,h2,Act.eval]
       · exact h.elim
     · exact h.elim
 · rename_i t ps
   cases ht : T t with
   | none => simp [ht] at h
   | some ti =>
     simp only [ht] at h
     split at h
     · rename_i e hd
       have hu : P.underlying t = some (.slice e) := by
         have := (hT t ti ht).d
         rw [hd] at this
         exact this
       cases hte : T e with
       | none => simp [hte] at h
       | some te =>
         simp only [hte] at h
         obtain ⟨rfl,hs,hK⟩ := h
         have hty := hT _ te hte
         obtain ⟨z,z1,z2,z3⟩ := zbk hty w
         have hrun := zdc (P := P) (t := t) (n := 0) (pv := #[]) (cs := #[]) hu hty z1 hs (by omega) (by simp [Instr.fill])
         refine ⟨_,.slice (some ⟨w.heap.size,0,none⟩) 0 0,{ w with heap := w.heap.push (.cells #[] e) },hK,post_anon (o := .cells #[] e) he hh ⟨rfl,rfl,rfl,rfl⟩ (fun _ => .sg _ [] true _ 0 [] ⟨Nat.le_refl _,Nat.zero_le _,fun _ => rfl⟩ (by simp) ⟨.inl rfl⟩ rfl (by simp) (by simp)),fun o ho => ?_⟩
         simp [execOp,ho,hrun]
     · exact h.elim
 · rename_i c
   obtain ⟨callee,args,argTypes⟩ := c
   simp only at h
   split at h
   · split at h
     · rename_i d x t u ha hb
       cases ht : T t with
       | none => simp [ht] at h
       | some ti =>
         cases htu : T u with
         | none => simp [ht,htu] at h
         | some tu =>
           simp only [ht,htu] at h
           have hd := (hT t ti ht).d
           have hud := (hT u tu htu).d
           split at h
           · rename_i e e' hdd hdu
             rw [hdd] at hd
             rw [hdu] at hud
             have hd : P.underlying t = some (.slice e) := hd
             have hud : P.underlying u = some (.slice e') := hud
             cases hte : T e with
             | none => simp [hte] at h
             | some te =>
               simp only [hte] at h
               have hty := hT _ te hte
               have hdv := hev d
               have hxv := hev x
               generalize ev sl d = dv at hdv h
               generalize ev sl x = xv at hxv h
               split at h
               · rename_i s s' f'
                 obtain ⟨hs,hK⟩ := h
                 obtain rfl : args = #[d,x] := by rw [← Array.toList_inj]; exact ha
                 obtain rfl : argTypes = #[t,u] := by rw [← Array.toList_inj]; exact hb
                 generalize hv1 : a.eval d = v1 at hdv
                 generalize hv2 : a.eval x = v2 at hxv
                 cases hdv with
                 | sg _ _ _ ad cap cs hdm hs' hc hl hx' hh' =>
                   obtain rfl : cap = 0 := hdm.full rfl
                   cases hxv with
                   | sg _ _ _ ad2 cap2 cs2 hdm2 hs2 hc2 hl2 hx2 hh2 =>
                     refine ⟨_,.slice ad 0 0,w,hK,Post.pure (.sg _ [] true ad 0 cs hdm hs' hc hl hx' hh') hh he,fun o ho => ?_⟩
                     have h1 := append_none (P := P) (ty := o.type) hd hud hty ad ad2 cap2 w
                     simp only [execOp,ho,resolve,invoke,builtin,Sem.run_bind,Sem.run_pure,Result.andThen_ok]
                     simp [hv1,hv2,h1]
               · rename_i s f'
                 obtain ⟨hs,hK⟩ := h
                 obtain rfl : args = #[d,x] := by rw [← Array.toList_inj]; exact ha
                 obtain rfl : argTypes = #[t,u] := by rw [← Array.toList_inj]; exact hb
                 generalize hv1 : a.eval d = v1 at hdv
                 generalize hv2 : a.eval x = v2 at hxv
                 cases hdv with
                 | sg _ _ _ ad cap cs hdm hs' hc hl hx' hh' =>
                   obtain rfl : cap = 0 := hdm.full rfl
                   cases hxv with
                   | sb _ _ ad2 cap2 hdm2 hc2 =>
                     refine ⟨_,.slice ad 0 0,w,hK,Post.pure (.sg _ [] true ad 0 cs hdm hs' hc hl hx' hh') hh he,fun o ho => ?_⟩
                     have h1 := append_none (P := P) (ty := o.type) hd hud hty ad ad2 cap2 w
                     simp only [execOp,ho,resolve,invoke,builtin,Sem.run_bind,Sem.run_pure,Result.andThen_ok]
                     simp [hv1,hv2,h1]
               · rename_i s f'
                 obtain ⟨hs,hK⟩ := h
                 obtain rfl : args = #[d,x] := by rw [← Array.toList_inj]; exact ha
                 obtain rfl : argTypes = #[t,u] := by rw [← Array.toList_inj]; exact hb
                 generalize hv1 : a.eval d = v1 at hdv
                 generalize hv2 : a.eval x = v2 at hxv
                 cases hdv with
                 | sg _ _ _ ad cap cs hdm hs' hc hl hx' hh' =>
                   obtain rfl : cap = 0 := hdm.full rfl
                   cases hxv with
                   | si _ _ ad2 cap2 hdm2 hc2 =>
                     refine ⟨_,.slice ad 0 0,w,hK,Post.pure (.sg _ [] true ad 0 cs hdm hs' hc hl hx' hh') hh he,fun o ho => ?_⟩
                     have h1 := append_none (P := P) (ty := o.type) hd hud hty ad ad2 cap2 w
                     simp only [execOp,ho,resolve,invoke,builtin,Sem.run_bind,Sem.run_pure,Result.andThen_ok]
                     simp [hv1,hv2,h1]
               · exact h.elim
           · exact h.elim
     · exact h.elim
   · exact h.elim
 · exact h.elim
def aopsT (S : zaf) (T : zab) (ops : List Oper) : List Bool → Nat → List Oper → List AV → Heap → (List AV → Heap → Prop) → Prop
 | _,_,[],sl,H,Q => Q sl H
 | [],nm,r,sl,H,Q => aops S T ops nm r sl H Q
 | true :: l,nm,o :: r,sl,H,Q => o.guard = none ∧ specOp T sl o.op (fun x => aopsT S T ops l (nm + 8) r (zai sl o.dst x) H Q)
 | false :: l,nm,o :: r,sl,H,Q => o.guard = none ∧ (aop S T nm sl o.op H).p ∧ aopsT S T ops l (nm + 8) r (zai sl o.dst (aop S T nm sl o.op H).x) (aop S T nm sl o.op H).H Q
theorem aopsT_sound {P : Program} {w0 : World} {E : Nat → Prop} {T : zab} {S : zaf} (hT : TOk P T) (hS : Fns P S) {ops : Array Oper} {K : Exit → Act → World → Prop} {Q : List AV → Heap → Prop} {B : Bs} {nz : Nat}
   (hK : ∀ sl H a w loc,Base w0 B w loc → Rel' w0 E loc ⟨sl,H,nz⟩ a w → Q sl H → K .normal a w) : ∀ (k : List Bool) (r : List Oper) (nm : Nat) (sl : List AV) (H : Heap) (a : Act) (w : World) (loc : Loc),nz = nm + 8 * r.length → Base w0 B w loc →
   Rel' w0 E loc ⟨sl,H,nm⟩ a w → aopsT S T ops.toList k nm r sl H Q → wpList P ops K r a w
 | k,[],nm,sl,H,a,w,loc,hz,hb,hr,h => by
   simp only [List.length_nil,Nat.mul_zero,Nat.add_zero] at hz
   subst hz
   exact wpList_nil (hK sl H a w loc hb hr (by cases k with | nil => exact h | cons b _ => cases b <;> exact h))
 | [],o :: r,nm,sl,H,a,w,loc,hz,hb,hr,h => zdq (ops := ops) hT hS hK (o :: r) nm sl H a w loc hz hb hr h
 | true :: l,o :: r,nm,sl,H,a,w,loc,hz,hb,hr,h => by
   have hz' : nz = nm + 8 + 8 * r.length := by simp at hz; omega
   obtain ⟨hg,hp⟩ := h
   refine wpList_step fun Kn hKn => ?_
   rw [if_pos (by simp [Region.wanted,hg])]
   obtain ⟨x,v,w',hrest,hpost,hrun⟩ := specOp_sound (P := P) (nm := nm) hT hr.env hr.heap (fun x => ev_R hr.slots x) hp
   exact (zal (w' := w') (loc' := loc) (out := ⟨True,x,H⟩) (hrun o rfl) hpost) Kn K (fun v w' loc' hpost => hKn _ _ (aopsT_sound hT hS hK l r (nm + 8) _ _ _ w' loc' hz' (hb.post hpost) (zfn hr hpost (fun id b hl => Or.inl (by show look H id ≠ none; intro e; rw [show look H id = some b from hl] at e; cases e)) o.dst) hrest))
 | false :: l,o :: r,nm,sl,H,a,w,loc,hz,hb,hr,h => by
   have hz' : nz = nm + 8 + 8 * r.length := by simp at hz; omega
   obtain ⟨hg,hp,hrest⟩ := h
   refine wpList_step fun Kn hKn => ?_
   rw [if_pos (by simp [Region.wanted,hg])]
   have hop := zcq hT hS hr.env hr.heap (fun id h1 _ => hr.fresh id h1) o (fun x _ => ev_R hr.slots x) hp
   exact hop Kn K (fun v w' loc' hpost => hKn _ _ (aopsT_sound hT hS hK l r (nm + 8) _ _ _ w' loc' hz' (hb.post hpost) (zfn hr hpost (zef hp) o.dst) hrest))
inductive RP where
 | std
 | frz (fs : List Nat)
 | opn (fs : List Nat) (k : Nat)
 | prs (l : List (Nat × Nat))
 | tst (k : List Bool)
 | wkp (l : List (Nat × Nat))
abbrev XPlan := Nat → RP
def zch (T : zab) (pl : XPlan) : Code → Bool
 | .region id ops draw => match pl id with
   | .std => !draw || drawOk T ops.toList
   | .frz _ => !draw || drawOk T ops.toList
   | .opn _ _ => !draw
   | .tst _ => !draw
   | .prs p => draw && drawOkF T ops.toList p
   | .wkp p => draw && drawOkF T ops.toList p
 | .seq a b => zch T pl a && zch T pl b
 | .cond _ a b => zch T pl a && zch T pl b
 | .block _ c => zch T pl c
 | .loop c => zch T pl c
 | _ => true
def wkF (S : zaf) (T : zab) (l : List Oper) (p : List (Nat × Nat)) (nx : Nat) (sl : List AV) (H : Heap) (Q : Exit → ASt → Prop) : Prop := ∃ sl' H',Weak ⟨sl,H,nx⟩ ⟨sl',H',nx⟩ ∧ aopsF S T l p nx [] l sl' H' (regK (nx + 8 * l.length) Q)
def awpO (S SO : zaf) (T : zab) (pl : XPlan) : Code → (Exit → ASt → Prop) → ASt → Prop
 | .skip,Q,σ => Q .normal σ
 | .label _,Q,σ => Q .normal σ
 | .region id ops _,Q,σ => match pl id with
   | .std => aops S T ops.toList σ.nx ops.toList σ.sl σ.H (regK (σ.nx + 8 * ops.toList.length) Q)
   | .prs p => aopsF S T ops.toList p σ.nx [] ops.toList σ.sl σ.H (regK (σ.nx + 8 * ops.toList.length) Q)
   | .frz fs => frzK fs σ.sl σ.H (fun sl H => aops S T ops.toList σ.nx ops.toList sl H (regK (σ.nx + 8 * ops.toList.length) Q))
   | .opn fs k => frzK fs σ.sl σ.H (fun sl H => aopsO S SO T ops.toList k σ.nx ops.toList sl H (regK (σ.nx + 8 * ops.toList.length) Q))
   | .tst k => aopsT S T ops.toList k σ.nx ops.toList σ.sl σ.H (regK (σ.nx + 8 * ops.toList.length) Q)
   | .wkp p => wkF S T ops.toList p σ.nx σ.sl σ.H Q
 | .seq a b,Q,σ => awpO S SO T pl a (seqK (awpO S SO T pl b Q) Q) σ
 | .cond c a b,Q,σ => match ev σ.sl c with
     | .w (.bool t) => csplit t (awpO S SO T pl a Q σ) (awpO S SO T pl b Q σ)
     | _ => False
 | .block id c,Q,σ => awpO S SO T pl c (blockK id Q) σ
 | .loop c,Q,σ => ALoop (awpO S SO T pl c) Q σ
 | .exit id,Q,σ => Q (.exit id) σ
 | .ret,Q,σ => Q .ret σ
 | _,_,_ => False
open Classical in
theorem awpO_sound {P : Program} {w0 : World} {E : Nat → Prop} {T : zab} {S SO : zaf} {pl : XPlan} (hm : P.follows .mixedOrders = true) (hT : TOk P T) (hS : Fns P S) (hSO : FnsO P SO) {B : Bs} : ∀ (c : Code) (Q : Exit → ASt → Prop) (σ : ASt) (a : Act) (w : World),
   zch T pl c = true → awpO S SO T pl c Q σ → Rel w0 E B σ a w → c.wp P (Low w0 E B Q) a w := by
 intro c
 induction c with
 | skip => intro Q σ a w hdr h hr; exact wp_skip ⟨σ,hr,h⟩
 | label l => intro Q σ a w hdr h hr; exact wp_label ⟨σ,hr,h⟩
 | ret => intro Q σ a w hdr h hr; exact wp_ret ⟨σ,hr,h⟩
 | exit id => intro Q σ a w hdr h hr; exact wp_exit ⟨σ,hr,h⟩
 | region id ops draw =>
   intro Q σ a w hdr h hr
   obtain ⟨loc,hb,hr⟩ := hr
   obtain ⟨sl,H,nx⟩ := σ
   have hK : ∀ sl H a w loc,Base w0 B w loc → Rel' w0 E loc ⟨sl,H,nx + 8 * ops.toList.length⟩ a w → regK (nx + 8 * ops.toList.length) Q sl H → Low w0 E B Q .normal a w := fun sl H a w loc h1 h2 h3 => ⟨_,⟨loc,h1,h2⟩,h3⟩
   simp only [zch] at hdr
   simp only [awpO] at h
   cases hp : pl id with
   | std =>
     simp only [hp] at hdr h
     cases draw with
     | false => exact wp_region_list (zdq hT hS hK ops.toList nx sl H a w loc rfl hb hr h)
     | true => exact draw_sound hT hS hm w0 E ops.toList _ _ B nx sl H a w loc id (by simpa using hdr) hK hb hr h
   | prs p =>
     simp only [hp] at hdr h
     simp only [Bool.and_eq_true] at hdr
     obtain ⟨hd1,hd2⟩ := hdr
     subst hd1
     exact drawF_sound hT hS hm hd2 hK hb hr h
   | frz fs =>
     simp only [hp] at hdr h
     obtain ⟨sl',H',hw,h⟩ := frzK_sound (nx := nx) _ _ _ _ h
     obtain ⟨loc',hb',hr'⟩ := hw _ _ _ _ _ ⟨loc,hb,hr⟩
     cases draw with
     | false => exact wp_region_list (zdq hT hS hK ops.toList nx sl' H' a w loc' rfl hb' hr' h)
     | true => exact draw_sound hT hS hm w0 E ops.toList _ _ B nx sl' H' a w loc' id (by simpa using hdr) hK hb' hr' h
   | opn fs k =>
     simp only [hp] at hdr h
     obtain ⟨sl',H',hw,h⟩ := frzK_sound (nx := nx) _ _ _ _ h
     obtain ⟨loc',hb',hr'⟩ := hw _ _ _ _ _ ⟨loc,hb,hr⟩
     cases draw with
     | false => exact wp_region_list (aopsO_sound hT hS hSO hK k ops.toList nx sl' H' a w loc' rfl hb' hr' h)
     | true => simp at hdr
   | tst k =>
     simp only [hp] at hdr h
     cases draw with
     | false => exact wp_region_list (aopsT_sound hT hS hK k ops.toList nx sl H a w loc rfl hb hr h)
     | true => simp at hdr
   | wkp p =>
     simp only [hp] at hdr h
     simp only [Bool.and_eq_true] at hdr
     obtain ⟨hd1,hd2⟩ := hdr
     subst hd1
     obtain ⟨sl',H',hw,h⟩ := h
     obtain ⟨loc',hb',hr'⟩ := hw _ _ _ _ _ ⟨loc,hb,hr⟩
     exact drawF_sound hT hS hm hd2 hK hb' hr' h
 | seq x y ihx ihy =>
   intro Q σ a w hdr h hr
   refine wp_seq (wp_mono (ihx _ σ a w (by simp only [zch,Bool.and_eq_true] at hdr; exact hdr.1) h hr) ?_)
   rintro e a' w' ⟨σ',hr',hq⟩
   cases e with
   | normal => exact ihy Q σ' a' w' (by simp only [zch,Bool.and_eq_true] at hdr; exact hdr.2) hq hr'
   | _ => exact ⟨σ',hr',hq⟩
 | cond c x y ihx ihy =>
   intro Q σ a w hdr h hr
   simp only [awpO,csplit] at h
   simp only [zch,Bool.and_eq_true] at hdr
   obtain ⟨loc,hb,hr⟩ := hr
   split at h
   · rename_i t hc
     have hv := ev_R hr.slots c
     rw [hc] at hv
     have hv := hv.wv
     cases t with
     | true => exact wp_cond_true hv (ihx Q σ a w hdr.1 (h.1 rfl) ⟨loc,hb,hr⟩)
     | false => exact wp_cond_false hv (ihy Q σ a w hdr.2 (h.2 rfl) ⟨loc,hb,hr⟩)
   · exact h.elim
 | block id c ih =>
   intro Q σ a w hdr h hr
   refine wp_block (wp_mono (ih _ σ a w hdr h hr) ?_)
   rintro e a' w' ⟨σ',hr',hq⟩
   cases e with
   | exit id' =>
     simp only [blockK,Exit.inBlock] at hq ⊢
     split at hq
     · rename_i he; rw [if_pos he]; exact ⟨σ',hr',hq⟩
     · rename_i he; rw [if_neg he]; exact ⟨σ',hr',hq⟩
   | _ => exact ⟨σ',hr',hq⟩
 | loop c ih =>
   intro Q σ a w hdr h hr
   obtain ⟨I,⟨n0,σ0,hw0,hI0⟩,hround⟩ := h
   let p : Act → World → Nat → Prop := fun a w n => ∃ σ,Rel w0 E B σ a w ∧ I n σ
   have hleast : ∀ a w,(∃ n,p a w n) → ∃ m,p a w m ∧ ∀ k,p a w k → m ≤ k := fun a w ⟨n,hn⟩ => let ⟨m,h1,_,h3⟩ := least n hn; ⟨m,h1,h3⟩
   let μ : Act → World → Nat := fun a w => if h : ∃ n,p a w n then Classical.choose (hleast a w h) else 0
   refine wp_loop (fun a w => ∃ n,p a w n) μ ⟨n0,σ0,hw0 w0 E B a w hr,hI0⟩ ?_
   intro a w hex
   have hμ : μ a w = Classical.choose (hleast a w hex) := dif_pos hex
   obtain ⟨⟨σ1,hr1,hI1⟩,hmin⟩ := Classical.choose_spec (hleast a w hex)
   rw [← hμ] at hI1
   refine wp_mono (ih _ σ1 a w hdr (hround _ σ1 hI1) hr1) ?_
   rintro e a' w' ⟨σ',hr',hq⟩
   cases e with
   | normal =>
     obtain ⟨m,σ2,hlt,hw2,hI2⟩ := hq
     have hp : p a' w' m := ⟨σ2,hw2 w0 E B a' w' hr',hI2⟩
     refine ⟨⟨m,hp⟩,?_⟩
     have hμ' : μ a' w' = Classical.choose (hleast a' w' ⟨m,hp⟩) := dif_pos ⟨m,hp⟩
     have := (Classical.choose_spec (hleast a' w' ⟨m,hp⟩)).2 m hp
     rw [← hμ'] at this
     exact Nat.lt_of_le_of_lt this hlt
   | _ =>
     obtain ⟨σ2,hw2,hq⟩ := hq
     exact ⟨σ2,hw2 w0 E B a' w' hr',hq⟩
 | _ => intro Q σ a w hdr h hr; exact h.elim
theorem fn_soundO {P : Program} {T : zab} {S SO : zaf} (hm : P.follows .mixedOrders = true) (hT : TOk P T) (hS : Fns P S) (hSO : FnsO P SO) {f : FuncId} {fn : Func} {c : Code} (hf : P.funcs[f]? = some fn) (hb : fn.body = some c) {spec : zap}
   (h : ∀ xs pins,(spec xs pins).p → pins.length ≤ 4 ∧ ∃ pl,zch T pl c = true ∧ awpO S SO T pl c (EndsWO T fn.results.toList pins (spec xs pins)) ⟨xs ++ List.replicate (fn.ntmps - xs.length) .junk,pinHeap 0 pins,4⟩) : SoundO P f spec :=
 sound_genO hT hf hb (Qp := fun xs pins => EndsWO T fn.results.toList pins (spec xs pins)) (fun _ _ _ _ h => h) (fun xs pins hp => ⟨(h xs pins hp).1,fun w0 E B a w hr => (h xs pins hp).2.elim fun pl hh => awpO_sound hm hT hS hSO c _ _ _ _ hh.1 hh.2 hr⟩)
theorem fn_soundOK {P : Program} {T : zab} {S SO : zaf} (hm : P.follows .mixedOrders = true) (hT : TOk P T) (hS : Fns P S) (hSO : FnsO P SO) {f : FuncId} {fn : Func} {c : Code} (hf : P.funcs[f]? = some fn) (hb : fn.body = some c) {spec : zap}
   (h : ∀ xs pins,(spec xs pins).p → closedB pins = true → pins.length ≤ 4 ∧ ∃ pl,zch T pl c = true ∧ awpO S SO T pl c (EndsW T fn.results.toList pins (spec xs pins)) ⟨xs ++ List.replicate (fn.ntmps - xs.length) .junk,pinHeap 0 pins,4⟩) : zaz P f spec :=
 sound_genK (S := S) hT hS hf hb (Qp := fun xs pins => EndsW T fn.results.toList pins (spec xs pins)) (fun _ _ _ _ h => h) (fun xs pins hp hc => ⟨(h xs pins hp hc).1,fun w0 E B a w hr => (h xs pins hp hc).2.elim fun pl hh => awpO_sound hm hT hS hSO c _ _ _ _ hh.1 hh.2 hr⟩)
def laterO (S SO : zaf) (T : zab) (pl : XPlan) (b : Code) (Q : Exit → ASt → Prop) : Exit → ASt → Prop := seqK (awpO S SO T pl b Q) Q
section rules
variable {S SO : zaf} {T : zab} {pl : XPlan} {Q : Exit → ASt → Prop} {σ : ASt}
theorem awpO_skip : awpO S SO T pl .skip Q σ = Q .normal σ := rfl
theorem awpO_label {l : Nat} : awpO S SO T pl (.label l) Q σ = Q .normal σ := rfl
theorem awpO_ret : awpO S SO T pl .ret Q σ = Q .ret σ := rfl
theorem awpO_exit {id : Nat} : awpO S SO T pl (.exit id) Q σ = Q (.exit id) σ := rfl
theorem awpO_region {id : Nat} {l : List Oper} {draw : Bool} : awpO S SO T pl (.region id l.toArray draw) Q σ = match pl id with
   | .std => aops S T l σ.nx l σ.sl σ.H (regK (σ.nx + 8 * l.length) Q)
   | .prs p => aopsF S T l p σ.nx [] l σ.sl σ.H (regK (σ.nx + 8 * l.length) Q)
   | .frz fs => frzK fs σ.sl σ.H (fun sl H => aops S T l σ.nx l sl H (regK (σ.nx + 8 * l.length) Q))
   | .opn fs k => frzK fs σ.sl σ.H (fun sl H => aopsO S SO T l k σ.nx l sl H (regK (σ.nx + 8 * l.length) Q))
   | .tst k => aopsT S T l k σ.nx l σ.sl σ.H (regK (σ.nx + 8 * l.length) Q)
   | .wkp p => wkF S T l p σ.nx σ.sl σ.H Q := by
 unfold awpO; cases pl id <;> rfl
theorem awpO_seq {a b : Code} : awpO S SO T pl (.seq a b) Q σ = awpO S SO T pl a (laterO S SO T pl b Q) σ := rfl
theorem awpO_block {id : Nat} {c : Code} : awpO S SO T pl (.block id c) Q σ = awpO S SO T pl c (blockK id Q) σ := rfl
theorem awpO_cond {c : Operand} {a b : Code} : awpO S SO T pl (.cond c a b) Q σ = match ev σ.sl c with
     | .w (.bool t) => csplit t (awpO S SO T pl a Q σ) (awpO S SO T pl b Q σ)
     | _ => False := rfl
theorem awpO_loopW {c : Code} (h : ALoop (awpO S SO T pl c) Q σ) : awpO S SO T pl (.loop c) Q σ := h
theorem zae {b : Code} : laterO S SO T pl b Q .normal σ = awpO S SO T pl b Q σ := rfl
theorem laterO_exit {b : Code} {id : Nat} : laterO S SO T pl b Q (.exit id) σ = Q (.exit id) σ := rfl
theorem laterO_ret {b : Code} : laterO S SO T pl b Q .ret σ = Q .ret σ := rfl
variable {ops r : List Oper} {o : Oper} {nm k : Nat} {sl : List AV} {H : Heap} {Q' : List AV → Heap → Prop}
def openKO (q : Out) (sl : List AV) (dst : Option Tmp) (K : List AV → Heap → Prop) : Prop := q.p ∧ K (zai sl dst q.x) q.H
theorem openKO_def {q : Out} {dst : Option Tmp} {K : List AV → Heap → Prop} : openKO q sl dst K = (q.p ∧ K (zai sl dst q.x) q.H) := rfl
theorem aopsO_zero {dst : Option Tmp} {op : Op} {type : TypeId} {pos : String} {after : Array Edge} : aopsO S SO T ops 0 nm (⟨dst,op,type,pos,after,none⟩ :: r) sl H Q' =
   openKO (zci SO T nm sl op H) sl dst (fun sl' H' => aops S T ops (nm + 8) r sl' H' Q') := by
 simp [aopsO,openKO]
theorem aopsO_succ {dst : Option Tmp} {op : Op} {type : TypeId} {pos : String} {after : Array Edge} : aopsO S SO T ops (k + 1) nm (⟨dst,op,type,pos,after,none⟩ :: r) sl H Q' =
   ((aop S T nm sl op H).p ∧ aopsO S SO T ops k (nm + 8) r (zai sl dst (aop S T nm sl op H).x) (aop S T nm sl op H).H Q') := by
 simp [aopsO]
theorem aopsT_nil : aopsT S T ops [] nm r sl H Q' = aops S T ops nm r sl H Q' := by
 cases r <;> rfl
theorem aopsT_done {l : List Bool} : aopsT S T ops l nm [] sl H Q' = Q' sl H := by
 cases l with
 | nil => rfl
 | cons b _ => cases b <;> rfl
theorem aopsT_t {l : List Bool} {dst : Option Tmp} {op : Op} {type : TypeId} {pos : String} {after : Array Edge} : aopsT S T ops (true :: l) nm (⟨dst,op,type,pos,after,none⟩ :: r) sl H Q' =
   (specOp T sl op (fun x => aopsT S T ops l (nm + 8) r (zai sl dst x) H Q')) := by
 simp [aopsT]
theorem aopsT_f {l : List Bool} {dst : Option Tmp} {op : Op} {type : TypeId} {pos : String} {after : Array Edge} : aopsT S T ops (false :: l) nm (⟨dst,op,type,pos,after,none⟩ :: r) sl H Q' =
   ((aop S T nm sl op H).p ∧ aopsT S T ops l (nm + 8) r (zai sl dst (aop S T nm sl op H).x) (aop S T nm sl op H).H Q') := by
 simp [aopsT]
end rules
end Ax
end Go.Proofs.Ythjceeimbohajaa
namespace Go.Proofs.Ythjceeimbohajaa
open Ax
theorem evTO : (type_of% @awpO_skip) ∧
   (type_of% @awpO_label) ∧
   (type_of% @awpO_ret) ∧
   (type_of% @awpO_exit) ∧
   (type_of% @awpO_region) ∧
   (type_of% @awpO_seq) ∧
   (type_of% @awpO_block) ∧
   (type_of% @awpO_cond) ∧
   (type_of% @laterO_exit) ∧
   (type_of% @laterO_ret) ∧
   (type_of% @aopsO_zero) ∧
   (type_of% @aopsO_succ) ∧
   (type_of% @aopsT_nil) ∧
   (type_of% @aopsT_done) ∧
   (type_of% @aopsT_t) ∧
   (type_of% @aopsT_f) :=
 ⟨@awpO_skip,@awpO_label,@awpO_ret,@awpO_exit,@awpO_region,@awpO_seq,@awpO_block,@awpO_cond,@laterO_exit,@laterO_ret,@aopsO_zero,@aopsO_succ,@aopsT_nil,@aopsT_done,@aopsT_t,@aopsT_f⟩
theorem evDO : (type_of% @Ax.frzS.eq_1) ∧
   (type_of% @Ax.frzL.eq_1) ∧
   (type_of% @Ax.frzL.eq_2) ∧
   (type_of% @Ax.fzL.eq_1) ∧
   (type_of% @Ax.fzL.eq_2) ∧
   (type_of% @Ax.fzH.eq_1) ∧
   (type_of% @Ax.fzH.eq_2) ∧
   (type_of% @Ax.AV.fz.eq_1) ∧
   (type_of% @Ax.AV.fz.eq_2) ∧
   (type_of% @Ax.AV.fz.eq_3) ∧
   (type_of% @Ax.AV.fz.eq_4) ∧
   (type_of% @Ax.AV.fz.eq_5) ∧
   (type_of% @Ax.fiL.eq_1) ∧
   (type_of% @Ax.fiL.eq_2) ∧
   (type_of% @Ax.fiH.eq_1) ∧
   (type_of% @Ax.fiH.eq_2) ∧
   (type_of% @Ax.AV.fi.eq_1) ∧
   (type_of% @Ax.AV.fi.eq_2) ∧
   (type_of% @Ax.AV.fi.eq_3) ∧
   (type_of% @Ax.AV.fi.eq_4) ∧
   (type_of% @Ax.AV.fi.eq_5) ∧
   (type_of% @Ax.fgL.eq_1) ∧
   (type_of% @Ax.fgL.eq_2) ∧
   (type_of% @Ax.fgH.eq_1) ∧
   (type_of% @Ax.fgH.eq_2) ∧
   (type_of% @Ax.AV.fg.eq_1) ∧
   (type_of% @Ax.AV.fg.eq_2) ∧
   (type_of% @Ax.AV.fg.eq_3) ∧
   (type_of% @Ax.AV.fg.eq_4) ∧
   (type_of% @Ax.AV.fg.eq_5) ∧
   (type_of% @Ax.aOpen.eq_1) ∧
   (type_of% @Ax.openOut.eq_1) ∧
   (type_of% @Ax.reach.eq_1) ∧
   (type_of% @Ax.reach.eq_2) ∧
   (type_of% @Ax.reach.eq_3) ∧
   (type_of% @Ax.walk.eq_1) ∧
   (type_of% @Ax.walk.eq_2) ∧
   (type_of% @Ax.allIn.eq_1) ∧
   (type_of% @Ax.allIn.eq_2) ∧
   (type_of% @Ax.pinsIn.eq_1) ∧
   (type_of% @Ax.pinsIn.eq_2) ∧
   (type_of% @Ax.pinsR.eq_1) ∧
   (type_of% @Ax.pinsR.eq_2) ∧
   (type_of% @Ax.backO.eq_1) ∧
   (type_of% @Ax.backO.eq_2) ∧
   (type_of% @Ax.gone.eq_1) ∧
   (type_of% @Ax.AV.sids.eq_1) ∧
   (type_of% @Ax.AV.sids.eq_2) ∧
   (type_of% @Ax.AV.sids.eq_3) ∧
   (type_of% @Ax.AV.sids.eq_4) ∧
   (type_of% @Ax.AV.sids.eq_5) ∧
   (type_of% @Ax.AV.sids.eq_6) ∧
   (type_of% @Ax.sidsL.eq_1) ∧
   (type_of% @Ax.sidsL.eq_2) ∧
   (type_of% @Ax.Blk.renB.eq_1) ∧
   (type_of% @Ax.idxOf.eq_1) ∧
   (type_of% @Ax.EndsXO.eq_1) ∧
   (type_of% @Ax.endIds.eq_1) ∧
   (type_of% @Ax.reachE.eq_1) ∧
   (type_of% @Ax.reachE.eq_2) ∧
   (type_of% @Ax.reachE.eq_3) ∧
   (type_of% @Ax.idsAt.eq_1) ∧
   (type_of% @Ax.idsAtL.eq_1) ∧
   (type_of% @Ax.idsAtL.eq_2) ∧
   (type_of% @Ax.walkI.eq_1) ∧
   (type_of% @Ax.walkI.eq_2) ∧
   (type_of% @Ax.matchE.eq_1) ∧
   (type_of% @Ax.matchE.eq_2) ∧
   (type_of% @Ax.matchE.eq_3) ∧
   (type_of% @Ax.aopF.eq_1) ∧
   (type_of% @Ax.foot.eq_1) ∧
   (type_of% @Ax.footA.eq_1) ∧
   (type_of% @Ax.keepIn.eq_1) ∧
   (type_of% @Ax.keepIn.eq_2) ∧
   (type_of% @Ax.dropIn.eq_1) ∧
   (type_of% @Ax.dropIn.eq_2) ∧
   (type_of% @Ax.bids.eq_1) ∧
   (type_of% @Ax.bids.eq_2) ∧
   (type_of% @Ax.heldB.eq_1) ∧
   (type_of% @Ax.memOk.eq_1) ∧
   (type_of% @Ax.clearOf.eq_1) :=
 ⟨@Ax.frzS.eq_1,@Ax.frzL.eq_1,@Ax.frzL.eq_2,@Ax.fzL.eq_1,@Ax.fzL.eq_2,@Ax.fzH.eq_1,@Ax.fzH.eq_2,@Ax.AV.fz.eq_1,@Ax.AV.fz.eq_2,@Ax.AV.fz.eq_3,@Ax.AV.fz.eq_4,@Ax.AV.fz.eq_5,@Ax.fiL.eq_1,@Ax.fiL.eq_2,@Ax.fiH.eq_1,@Ax.fiH.eq_2,@Ax.AV.fi.eq_1,@Ax.AV.fi.eq_2,@Ax.AV.fi.eq_3,@Ax.AV.fi.eq_4,@Ax.AV.fi.eq_5,@Ax.fgL.eq_1,@Ax.fgL.eq_2,@Ax.fgH.eq_1,@Ax.fgH.eq_2,@Ax.AV.fg.eq_1,@Ax.AV.fg.eq_2,@Ax.AV.fg.eq_3,@Ax.AV.fg.eq_4,@Ax.AV.fg.eq_5,@Ax.aOpen.eq_1,@Ax.openOut.eq_1,@Ax.reach.eq_1,@Ax.reach.eq_2,@Ax.reach.eq_3,@Ax.walk.eq_1,@Ax.walk.eq_2,@Ax.allIn.eq_1,@Ax.allIn.eq_2,@Ax.pinsIn.eq_1,@Ax.pinsIn.eq_2,@Ax.pinsR.eq_1,@Ax.pinsR.eq_2,@Ax.backO.eq_1,@Ax.backO.eq_2,@Ax.gone.eq_1,@Ax.AV.sids.eq_1,@Ax.AV.sids.eq_2,@Ax.AV.sids.eq_3,@Ax.AV.sids.eq_4,@Ax.AV.sids.eq_5,@Ax.AV.sids.eq_6,@Ax.sidsL.eq_1,@Ax.sidsL.eq_2,@Ax.Blk.renB.eq_1,@Ax.idxOf.eq_1,@Ax.EndsXO.eq_1,@Ax.endIds.eq_1,@Ax.reachE.eq_1,@Ax.reachE.eq_2,@Ax.reachE.eq_3,@Ax.idsAt.eq_1,@Ax.idsAtL.eq_1,@Ax.idsAtL.eq_2,@Ax.walkI.eq_1,@Ax.walkI.eq_2,@Ax.matchE.eq_1,@Ax.matchE.eq_2,@Ax.matchE.eq_3,@Ax.aopF.eq_1,@Ax.foot.eq_1,@Ax.footA.eq_1,@Ax.keepIn.eq_1,@Ax.keepIn.eq_2,@Ax.dropIn.eq_1,@Ax.dropIn.eq_2,@Ax.bids.eq_1,@Ax.bids.eq_2,@Ax.heldB.eq_1,@Ax.memOk.eq_1,@Ax.clearOf.eq_1⟩
open Ax
attribute [go_sem] evDO evTO zci Blk.isGone Blk.idsB Blk.sidsB Blk.ren EndsO
attribute [go_sem ↓] openKO_def
end Go.Proofs.Ythjceeimbohajaa
namespace Go.Proofs.Ythjceeimbohajaa
namespace Ax
def unK (A : ASt → Prop) (Q : Exit → ASt → Prop) (e : Exit) (σ : ASt) : Prop := match e with
 | .normal => A σ
 | e => Q e σ
def unr (f : (Exit → ASt → Prop) → ASt → Prop) (Q : Exit → ASt → Prop) : Nat → ASt → Prop
 | 0,_ => False
 | n + 1,σ => f (unK (unr f Q n) Q) σ
theorem aloop_unr {f : (Exit → ASt → Prop) → ASt → Prop} {Q : Exit → ASt → Prop} (mono : ∀ (Q Q' : Exit → ASt → Prop) (σ : ASt),(∀ e σ,Q e σ → Q' e σ) → f Q σ → f Q' σ) (n : Nat) (σ : ASt) (h : unr f Q n σ) : ALoop f Q σ := by
 refine ⟨fun k τ => unr f Q k τ,⟨n,σ,Weak.refl _,h⟩,?_⟩
 intro k τ hI
 cases k with
 | zero => exact hI.elim
 | succ k =>
   refine mono _ _ τ ?_ hI
   intro e σ1 h1
   cases e with
   | normal => exact ⟨k,σ1,Nat.lt_succ_self k,Weak.refl _,h1⟩
   | _ => exact ⟨σ1,Weak.refl _,h1⟩
theorem awp_unr {S : zaf} {T : zab} {c : Code} {Q : Exit → ASt → Prop} {σ : ASt} (n : Nat) (h : unr (awp S T c) Q n σ) : awp S T (.loop c) Q σ :=
 zfg (aloop_unr (fun Q Q' σ hq h => rawp_mono _ Q Q' σ hq h) n σ h)
theorem unr_go {S : zaf} {T : zab} {c : Code} {Q : Exit → ASt → Prop} {σ : ASt} {n : Nat} : unr (awp S T c) Q (n + 1) σ = awp S T c (unK (unr (awp S T c) Q n) Q) σ := rfl
theorem unK_normal {A : ASt → Prop} {Q : Exit → ASt → Prop} {σ : ASt} : unK A Q .normal σ = A σ := rfl
theorem unK_exit {A : ASt → Prop} {Q : Exit → ASt → Prop} {σ : ASt} {id : Nat} : unK A Q (.exit id) σ = Q (.exit id) σ := rfl
theorem unK_ret {A : ASt → Prop} {Q : Exit → ASt → Prop} {σ : ASt} : unK A Q .ret σ = Q .ret σ := rfl
end Ax
end Go.Proofs.Ythjceeimbohajaa
namespace Go.Proofs.Ythjceeimbohajaa
open Ax
structure WS where
 s : Int
 k : List UInt8
 c : Int
 t : Int
 a : Int
 b : Int
deriving DecidableEq
def wsA (r : WS) : AV := .agg [.w (.int .i64 r.s),.str r.k,.w (.int .i64 r.c),.w (.int .i64 r.t),.w (.int .i64 r.a),.w (.int .i64 r.b)]
def uws : AV → WS
 | .agg [.w (.int _ s),.str k,.w (.int _ c),.w (.int _ t),.w (.int _ a),.w (.int _ b)] => ⟨s,k,c,t,a,b⟩
 | _ => ⟨0,[],0,0,0,0⟩
theorem zax (es : List WS) : (es.map wsA).map uws = es := by
 rw [List.map_map]; exact List.map_id _
theorem zbm : ∀ (G : List WS),closedL (G.map wsA) = true
 | [] => rfl
 | x :: r => by simp only [List.map_cons,closedL,wsA,AV.closed,Bool.true_and]; exact zbm r
theorem ren_ws (g : Nat → Nat) : ∀ (G : List WS),renL g (G.map wsA) = G.map wsA
 | [] => rfl
 | x :: r => by simp only [List.map_cons,renL,ren_ws g r]; rfl
theorem ids_ws : ∀ (G : List WS),idsL (G.map wsA) = []
 | [] => rfl
 | x :: r => by simp only [List.map_cons,idsL,ids_ws r]; rfl
theorem zck : ∀ (es : List WS) (i : Nat) (h : i < es.length),slot (es.map wsA) i = wsA es[i]
 | p :: ps,0,h => rfl
 | p :: ps,i + 1,h => by
   simp only [List.map_cons,slot,List.getElem_cons_succ]
   exact zck ps i (by simpa using h)
theorem zav {T : zab} {sl : List AV} {H : Heap} {nx : Nat} {v : Value} {q : Prop} (i : Nat) (h : slot sl i = .w v) : EndsW T [.tmp i] [] ⟨q,.w v,[]⟩ .ret ⟨sl,H,nx⟩ := by
 refine ⟨_,Weak.refl _,?_⟩
 simp only [Ax.Ends,Ax.rvals,EndsX,rone,h,AV.ids,idsL,newIds,upTo,nodup,pinsOf,List.nil_append,AV.ren,and_self]
def lightW (l : List WS) : Prop := l.length ≤ 300 ∧ ∀ r ∈ l,r.k.length ≤ 100
instance (l : List WS) : Decidable (lightW l) := by unfold lightW; infer_instance
def lightWS : zap
 | [.sg 6 xs f],[] => ⟨xs.length ≤ 9223372036854775807 ∧ ∃ l : List WS,xs = l.map wsA,.w (.bool (decide (lightW (xs.map uws)))),[]⟩
 | _,_ => zbv
section
set_option maxRecDepth 100000
set_option maxHeartbeats 4000000 in
theorem lightW_sound : zaz Try.prog 5 lightWS := by
 refine zco (S := noS) (T := ty) zbi ty_ok zcf Try.func5 (c := Try.f5.body.getD .skip) (by kernel_rfl) (by kernel_rfl) (fun xs pins hp _ => ?_)
 unfold lightWS at hp ⊢
 split at hp
 · rename_i xs f _
   obtain ⟨hL,l,rfl⟩ := hp
   rw [List.length_map] at hL
   have hle : (l.map wsA).length = l.length := by simp
   rw [zax]
   refine ⟨by simp,?_⟩
   unfold Try.f5
   by_cases hn : 300 < l.length
   · have d1 : decide ((300 : Int) < (l.length : Int)) = true := decide_eq_true (by omega)
     have hno : decide (lightW l) = false := decide_eq_false (fun h => by have := h.1; omega)
     rw [hno]
     simp only [go_sem,coe,zaa,Nat.reduceAdd,Nat.reduceSub,Nat.reduceMul,Int.reduceToNat,reduceCtorEq,↓reduceIte,Int.reducePow,Nat.reducePow,Int.reduceMod,Nat.reduceLeDiff,Int.reduceLE,Int.reduceNe,Int.reduceEq,Nat.reduceEqDiff,Nat.reduceLT,Nat.reduceBEq,ty,noS,hle,d1]
     exact zav 2 rfl
   · have d1 : decide ((300 : Int) < (l.length : Int)) = false := decide_eq_false (by omega)
     simp only [go_sem,coe,zaa,Nat.reduceAdd,Nat.reduceSub,Nat.reduceMul,Int.reduceToNat,reduceCtorEq,↓reduceIte,Int.reducePow,Nat.reducePow,Int.reduceMod,Nat.reduceLeDiff,Int.reduceLE,Int.reduceNe,Int.reduceEq,Nat.reduceEqDiff,Nat.reduceLT,Nat.reduceBEq,ty,noS,hle,d1]
     refine zfg ⟨fun m σ => ∃ i : Nat,m = l.length - i ∧ i ≤ l.length ∧ (∀ r ∈ l.take i,r.k.length ≤ 100) ∧
       σ = ⟨[.sg 6 (l.map wsA) f,.junk,.w (.bool false),.w (.int .i64 i),.junk,.junk,.junk,.junk,.junk,.junk,.junk,.junk,.junk,.junk,.junk,.junk,.junk,.junk,.junk,.junk],[],4⟩,?_,?_⟩
     · refine ⟨_,_,zaj [0,1,2,3] rfl rfl rfl ?_ ?_,0,rfl,by omega,by simp,rfl⟩
       · simp only [ssT,zar,zas,setSlot,gOf,AV.ren,renL,Blk.ren,Ax.look,Ax.put,reduceCtorEq,↓reduceIte,Nat.reduceEqDiff,Nat.reduceLT,Nat.reduceAdd,List.length_append,List.length_cons,List.length_nil,Option.some.injEq]; try simp
       · simp only [ssT,zar,zas,setSlot,gOf,AV.ren,renL,Blk.ren,Ax.look,Ax.put,reduceCtorEq,↓reduceIte,Nat.reduceEqDiff,Nat.reduceLT,Nat.reduceAdd,List.length_append,List.length_cons,List.length_nil,Option.some.injEq]; try simp
     · rintro m σ ⟨i,rfl,hi,hall,rfl⟩
       by_cases hil : i < l.length
       · have d2 : decide ((i : Int) < l.length) = true := decide_eq_true (by omega)
         have e1 : ((i : Int) + 1 + 9223372036854775808) % 18446744073709551616 - 9223372036854775808 = ((i + 1 : Nat) : Int) := by omega
         have hs1 := zck l i hil
         have hmem : l[i] ∈ l := List.getElem_mem hil
         have htk : l.take (i + 1) = l.take i ++ [l[i]] := List.take_succ_eq_append_getElem hil
         obtain ⟨r,hr⟩ : ∃ r,l[i] = r := ⟨_,rfl⟩
         rw [hr] at hs1 hmem htk
         obtain ⟨s,k,c,t,a,b⟩ := r
         have hs1 : slot (l.map wsA) i = .agg [.w (.int .i64 s),.str k,.w (.int .i64 c),.w (.int .i64 t),.w (.int .i64 a),.w (.int .i64 b)] := hs1
         by_cases h1 : 100 < k.length
         · have d3 : decide ((100 : Int) < (k.length : Int)) = true := decide_eq_true (by omega)
           have hno : decide (lightW l) = false := decide_eq_false (fun h => by have := h.2 _ hmem; simp at this; omega)
           rw [hno]
           simp only [go_sem,coe,zaa,Nat.reduceAdd,Nat.reduceSub,Nat.reduceMul,Int.reduceToNat,reduceCtorEq,↓reduceIte,Int.reducePow,Nat.reducePow,Int.reduceMod,Nat.reduceLeDiff,Int.reduceLE,Int.reduceNe,Int.reduceEq,Nat.reduceEqDiff,Nat.reduceLT,Nat.reduceBEq,ty,noS,hle,d2,hs1,d3,Int.toNat_natCast]
           repeat (refine And.intro (by omega) ?_)
           refine ⟨_,Weak.refl _,?_⟩
           simp only [go_sem,coe,zaa,Nat.reduceAdd,Nat.reduceSub,Nat.reduceMul,Int.reduceToNat,reduceCtorEq,↓reduceIte,Int.reducePow,Nat.reducePow,Int.reduceMod,Nat.reduceLeDiff,Int.reduceLE,Int.reduceNe,Int.reduceEq,Nat.reduceEqDiff,Nat.reduceLT,Nat.reduceBEq,ty]
           exact zav 2 rfl
         · have d3 : decide ((100 : Int) < (k.length : Int)) = false := decide_eq_false (by omega)
           simp only [go_sem,coe,zaa,Nat.reduceAdd,Nat.reduceSub,Nat.reduceMul,Int.reduceToNat,reduceCtorEq,↓reduceIte,Int.reducePow,Nat.reducePow,Int.reduceMod,Nat.reduceLeDiff,Int.reduceLE,Int.reduceNe,Int.reduceEq,Nat.reduceEqDiff,Nat.reduceLT,Nat.reduceBEq,ty,noS,hle,d2,hs1,d3,e1,Int.toNat_natCast]
           repeat (refine And.intro (by omega) ?_)
           refine ⟨l.length - (i + 1),_,by omega,zaj [0,1,2,3] rfl rfl rfl ?_ ?_,i + 1,rfl,by omega,?_,rfl⟩
           · simp only [ssT,zar,zas,setSlot,gOf,AV.ren,renL,Blk.ren,Ax.look,Ax.put,reduceCtorEq,↓reduceIte,Nat.reduceEqDiff,Nat.reduceLT,Nat.reduceAdd,List.length_append,List.length_cons,List.length_nil,Option.some.injEq]; try simp
           · simp only [ssT,zar,zas,setSlot,gOf,AV.ren,renL,Blk.ren,Ax.look,Ax.put,reduceCtorEq,↓reduceIte,Nat.reduceEqDiff,Nat.reduceLT,Nat.reduceAdd,List.length_append,List.length_cons,List.length_nil,Option.some.injEq]; try simp
           · rw [htk]
             intro r hr
             rcases List.mem_append.1 hr with h | h
             · exact hall r h
             · obtain rfl := List.mem_singleton.1 h
               simp; omega
       · have d2 : decide ((i : Int) < l.length) = false := decide_eq_false (by omega)
         have hii : l.take i = l := List.take_of_length_le (by omega)
         rw [hii] at hall
         have hyes : decide (lightW l) = true := decide_eq_true ⟨by omega,hall⟩
         rw [hyes]
         simp only [go_sem,coe,zaa,Nat.reduceAdd,Nat.reduceSub,Nat.reduceMul,Int.reduceToNat,reduceCtorEq,↓reduceIte,Int.reducePow,Nat.reducePow,Int.reduceMod,Nat.reduceLeDiff,Int.reduceLE,Int.reduceNe,Int.reduceEq,Nat.reduceEqDiff,Nat.reduceLT,Nat.reduceBEq,ty,noS,hle,d2]
         refine ⟨_,Weak.refl _,?_⟩
         simp only [go_sem,coe,zaa,Nat.reduceAdd,Nat.reduceSub,Nat.reduceMul,Int.reduceToNat,reduceCtorEq,↓reduceIte,Int.reducePow,Nat.reducePow,Int.reduceMod,Nat.reduceLeDiff,Int.reduceLE,Int.reduceNe,Int.reduceEq,Nat.reduceEqDiff,Nat.reduceLT,Nat.reduceBEq,ty]
         exact zav 2 rfl
 · exact hp.elim
end
end Go.Proofs.Ythjceeimbohajaa
namespace Go.Proofs.Ythjceeimbohajaa
open Ax
def outB (n lo hi : Int) : Bool := decide (n < lo) || decide (hi < n)
theorem zbd {n lo hi : Int} (h : outB n lo hi = false) : lo ≤ n ∧ n ≤ hi := by
 unfold outB at h
 rw [Bool.or_eq_false_iff,decide_eq_false_iff_not,decide_eq_false_iff_not] at h
 omega
def okWB (z s : Int) (k : List UInt8) (c t a b : Int) : Bool :=
 !(outB s 0 1099511627776) && (decide (s.tmod z = 0) && (!(decide ((64 : Int) < k.length)) && (!(outB c 1 1048576) && (!(outB a (-1073741824) 1073741824) && (!(outB b (-1073741824) 1073741824) && (!(decide (b < a)) && !(outB t (c * a) (c * b))))))))
def outS : zap
 | [.w (.int .i64 n),.w (.int .i64 lo),.w (.int .i64 hi)],[] => ⟨True,.w (.bool (outB n lo hi)),[]⟩
 | _,_ => zbv
def inS : zap
 | [.w (.int .i64 n),.w (.int .i64 lo),.w (.int .i64 hi)],[] => ⟨True,.w (.bool (!(outB n lo hi))),[]⟩
 | _,_ => zbv
def numbS : zap
 | [.w (.int .i64 n)],[] => ⟨True,.w (.bool (!(outB n (-1073741824) 1073741824))),[]⟩
 | _,_ => zbv
def mayWS : zap
 | [.agg [.w (.int .i64 s),.str k,.w (.int .i64 c),.w (.int .i64 t),.w (.int .i64 a),.w (.int .i64 b)],.w (.int .i64 z)],[] => ⟨¬ z = 0,.w (.bool (okWB z s k c t a b)),[]⟩
 | _,_ => zbv
theorem mul_bound {c a : Int} (hc : 1 ≤ c ∧ c ≤ 1048576) (ha : -1073741824 ≤ a ∧ a ≤ 1073741824) : -1125899906842624 ≤ c * a ∧ c * a ≤ 1125899906842624 := by
 have h1 : c * a ≤ c * 1073741824 := Int.mul_le_mul_of_nonneg_left ha.2 (by omega)
 have h2 : c * (-1073741824) ≤ c * a := Int.mul_le_mul_of_nonneg_left ha.1 (by omega)
 omega
theorem wrap_mul {c a : Int} (hc : outB c 1 1048576 = false) (ha : outB a (-1073741824) 1073741824 = false) : (c * a + 9223372036854775808) % 18446744073709551616 - 9223372036854775808 = c * a := by
 have := mul_bound (zbd hc) (zbd ha)
 omega
section
set_option maxRecDepth 100000
set_option maxHeartbeats 4000000
theorem out_sound : zaz Try.prog 36 outS := by
 refine zat (S := noS) (T := ty) zbi ty_ok zcf Try.func36 (c := Try.f36.body.getD .skip) (by kernel_rfl) (by kernel_rfl) (fun xs pins hp _ => ?_)
 unfold outS at hp ⊢
 split at hp
 · rename_i n lo hi _
   refine ⟨by simp,?_⟩
   unfold Try.f36 outB
   cases h1 : decide (n < lo) <;> cases h2 : decide (hi < n)
   all_goals simp only [go_sem,coe,zaa,Nat.reduceAdd,Nat.reduceSub,Nat.reduceMul,Int.reduceToNat,reduceCtorEq,↓reduceIte,Int.reducePow,Nat.reducePow,Int.reduceMod,Nat.reduceLeDiff,Int.reduceLE,Int.reduceNe,Int.reduceEq,Nat.reduceEqDiff,Nat.reduceLT,Nat.reduceBEq,ty,noS,h1,h2,Bool.or_true,Bool.or_false,Bool.true_or,Bool.false_or]
 · exact hp.elim
theorem in_sound : zaz Try.prog 66 inS := by
 refine zat (S := noS) (T := ty) zbi ty_ok zcf Try.func66 (c := Try.f66.body.getD .skip) (by kernel_rfl) (by kernel_rfl) (fun xs pins hp _ => ?_)
 unfold inS at hp ⊢
 split at hp
 · rename_i n lo hi _
   refine ⟨by simp,?_⟩
   unfold Try.f66 outB
   by_cases h1 : n < lo <;> by_cases h2 : hi < n
   · have d1 : decide (lo ≤ n) = false := decide_eq_false (by omega)
     simp only [go_sem,coe,zaa,Nat.reduceAdd,Nat.reduceSub,Nat.reduceMul,Int.reduceToNat,reduceCtorEq,↓reduceIte,Int.reducePow,Nat.reducePow,Int.reduceMod,Nat.reduceLeDiff,Int.reduceLE,Int.reduceNe,Int.reduceEq,Nat.reduceEqDiff,Nat.reduceLT,Nat.reduceBEq,ty,noS,d1,h1,h2,decide_true,decide_false,Bool.or_true,Bool.or_false,Bool.not_true,Bool.not_false]
   · have d1 : decide (lo ≤ n) = false := decide_eq_false (by omega)
     simp only [go_sem,coe,zaa,Nat.reduceAdd,Nat.reduceSub,Nat.reduceMul,Int.reduceToNat,reduceCtorEq,↓reduceIte,Int.reducePow,Nat.reducePow,Int.reduceMod,Nat.reduceLeDiff,Int.reduceLE,Int.reduceNe,Int.reduceEq,Nat.reduceEqDiff,Nat.reduceLT,Nat.reduceBEq,ty,noS,d1,h1,h2,decide_true,decide_false,Bool.or_true,Bool.or_false,Bool.not_true,Bool.not_false]
   · have d1 : decide (lo ≤ n) = true := decide_eq_true (by omega)
     have d2 : decide (n ≤ hi) = false := decide_eq_false (by omega)
     simp only [go_sem,coe,zaa,Nat.reduceAdd,Nat.reduceSub,Nat.reduceMul,Int.reduceToNat,reduceCtorEq,↓reduceIte,Int.reducePow,Nat.reducePow,Int.reduceMod,Nat.reduceLeDiff,Int.reduceLE,Int.reduceNe,Int.reduceEq,Nat.reduceEqDiff,Nat.reduceLT,Nat.reduceBEq,ty,noS,d1,d2,h1,h2,decide_true,decide_false,Bool.or_true,Bool.or_false,Bool.not_true,Bool.not_false]
   · have d1 : decide (lo ≤ n) = true := decide_eq_true (by omega)
     have d2 : decide (n ≤ hi) = true := decide_eq_true (by omega)
     simp only [go_sem,coe,zaa,Nat.reduceAdd,Nat.reduceSub,Nat.reduceMul,Int.reduceToNat,reduceCtorEq,↓reduceIte,Int.reducePow,Nat.reducePow,Int.reduceMod,Nat.reduceLeDiff,Int.reduceLE,Int.reduceNe,Int.reduceEq,Nat.reduceEqDiff,Nat.reduceLT,Nat.reduceBEq,ty,noS,d1,d2,h1,h2,decide_true,decide_false,Bool.or_true,Bool.or_false,Bool.not_true,Bool.not_false]
 · exact hp.elim
def Sin35 (f : FuncId) : Option zap :=
 match f with
 | 36 => some outS
 | 66 => some inS
 | _ => none
theorem Sin35_ok : Fns Try.prog Sin35 := by
 intro f s h
 unfold Sin35 at h
 split at h
 · injection h with h; subst h; exact ⟨⟨_,Try.func36,by kernel_rfl,by kernel_rfl⟩,out_sound⟩
 · injection h with h; subst h; exact ⟨⟨_,Try.func66,by kernel_rfl,by kernel_rfl⟩,in_sound⟩
 · cases h
theorem numb_sound : zaz Try.prog 94 numbS := by
 refine zat (S := Sin35) (T := ty) zbi ty_ok Sin35_ok Try.func94 (c := Try.f94.body.getD .skip) (by kernel_rfl) (by kernel_rfl) (fun xs pins hp _ => ?_)
 unfold numbS at hp ⊢
 split at hp
 · rename_i n _
   refine ⟨by simp,?_⟩
   unfold Try.f94
   simp only [go_sem,coe,zaa,Nat.reduceAdd,Nat.reduceSub,Nat.reduceMul,Int.reduceToNat,reduceCtorEq,↓reduceIte,Int.reducePow,Nat.reducePow,Int.reduceMod,Nat.reduceLeDiff,Int.reduceLE,Int.reduceNe,Int.reduceEq,Nat.reduceEqDiff,Nat.reduceLT,Nat.reduceBEq,ty,Sin35,inS]
 · exact hp.elim
def zcj (f : FuncId) : Option zap :=
 match f with
 | 36 => some outS
 | 66 => some inS
 | 94 => some numbS
 | _ => none
theorem Sone35_ok : Fns Try.prog zcj := by
 intro f s h
 unfold zcj at h
 split at h
 · injection h with h; subst h; exact ⟨⟨_,Try.func36,by kernel_rfl,by kernel_rfl⟩,out_sound⟩
 · injection h with h; subst h; exact ⟨⟨_,Try.func66,by kernel_rfl,by kernel_rfl⟩,in_sound⟩
 · injection h with h; subst h; exact ⟨⟨_,Try.func94,by kernel_rfl,by kernel_rfl⟩,numb_sound⟩
 · cases h
theorem mayW_sound : zaz Try.prog 62 mayWS := by
 refine zat (S := zcj) (T := ty) zbi ty_ok Sone35_ok Try.func62 (c := Try.f62.body.getD .skip) (by kernel_rfl) (by kernel_rfl) (fun xs pins hp _ => ?_)
 unfold mayWS at hp ⊢
 split at hp
 · rename_i s k c t a b z _
   have hz : ¬ z = 0 := hp
   refine ⟨by simp,?_⟩
   unfold Try.f62
   cases h1 : outB s 0 1099511627776 with
   | true =>
     have hv : okWB z s k c t a b = false := by unfold okWB; rw [h1]; rfl
     simp only [go_sem,coe,zaa,Nat.reduceAdd,Nat.reduceSub,Nat.reduceMul,Int.reduceToNat,reduceCtorEq,↓reduceIte,Int.reducePow,Nat.reducePow,Int.reduceMod,Nat.reduceLeDiff,Int.reduceLE,Int.reduceNe,Int.reduceEq,Nat.reduceEqDiff,Nat.reduceLT,Nat.reduceBEq,ty,zcj,outS,inS,numbS,hz,h1,hv,Bool.not_true,Bool.not_false]
   | false =>
     cases h2 : decide (s.tmod z = 0) with
     | false =>
       have hv : okWB z s k c t a b = false := by unfold okWB; rw [h1,h2]; rfl
       simp only [go_sem,coe,zaa,Nat.reduceAdd,Nat.reduceSub,Nat.reduceMul,Int.reduceToNat,reduceCtorEq,↓reduceIte,Int.reducePow,Nat.reducePow,Int.reduceMod,Nat.reduceLeDiff,Int.reduceLE,Int.reduceNe,Int.reduceEq,Nat.reduceEqDiff,Nat.reduceLT,Nat.reduceBEq,ty,zcj,outS,inS,numbS,hz,h1,h2,hv,Bool.not_true,Bool.not_false]
     | true =>
       cases h3 : decide ((64 : Int) < k.length) with
       | true =>
         have hv : okWB z s k c t a b = false := by unfold okWB; rw [h1,h2,h3]; rfl
         simp only [go_sem,coe,zaa,Nat.reduceAdd,Nat.reduceSub,Nat.reduceMul,Int.reduceToNat,reduceCtorEq,↓reduceIte,Int.reducePow,Nat.reducePow,Int.reduceMod,Nat.reduceLeDiff,Int.reduceLE,Int.reduceNe,Int.reduceEq,Nat.reduceEqDiff,Nat.reduceLT,Nat.reduceBEq,ty,zcj,outS,inS,numbS,hz,h1,h2,h3,hv,Bool.not_true,Bool.not_false]
       | false =>
         cases h4 : outB c 1 1048576 with
         | true =>
           have hv : okWB z s k c t a b = false := by unfold okWB; rw [h1,h2,h3,h4]; rfl
           simp only [go_sem,coe,zaa,Nat.reduceAdd,Nat.reduceSub,Nat.reduceMul,Int.reduceToNat,reduceCtorEq,↓reduceIte,Int.reducePow,Nat.reducePow,Int.reduceMod,Nat.reduceLeDiff,Int.reduceLE,Int.reduceNe,Int.reduceEq,Nat.reduceEqDiff,Nat.reduceLT,Nat.reduceBEq,ty,zcj,outS,inS,numbS,hz,h1,h2,h3,h4,hv,Bool.not_true,Bool.not_false]
         | false =>
           cases h5 : outB a (-1073741824) 1073741824 with
           | true =>
             have hv : okWB z s k c t a b = false := by unfold okWB; rw [h1,h2,h3,h4,h5]; rfl
             simp only [go_sem,coe,zaa,Nat.reduceAdd,Nat.reduceSub,Nat.reduceMul,Int.reduceToNat,reduceCtorEq,↓reduceIte,Int.reducePow,Nat.reducePow,Int.reduceMod,Nat.reduceLeDiff,Int.reduceLE,Int.reduceNe,Int.reduceEq,Nat.reduceEqDiff,Nat.reduceLT,Nat.reduceBEq,ty,zcj,outS,inS,numbS,hz,h1,h2,h3,h4,h5,hv,Bool.not_true,Bool.not_false]
           | false =>
             cases h6 : outB b (-1073741824) 1073741824 with
             | true =>
               have hv : okWB z s k c t a b = false := by unfold okWB; rw [h1,h2,h3,h4,h5,h6]; rfl
               simp only [go_sem,coe,zaa,Nat.reduceAdd,Nat.reduceSub,Nat.reduceMul,Int.reduceToNat,reduceCtorEq,↓reduceIte,Int.reducePow,Nat.reducePow,Int.reduceMod,Nat.reduceLeDiff,Int.reduceLE,Int.reduceNe,Int.reduceEq,Nat.reduceEqDiff,Nat.reduceLT,Nat.reduceBEq,ty,zcj,outS,inS,numbS,hz,h1,h2,h3,h4,h5,h6,hv,Bool.not_true,Bool.not_false]
             | false =>
               cases h7 : decide (b < a) with
               | true =>
                 have hab : decide (a ≤ b) = false := decide_eq_false (by have := of_decide_eq_true h7; omega)
                 have hv : okWB z s k c t a b = false := by unfold okWB; rw [h1,h2,h3,h4,h5,h6,h7]; rfl
                 simp only [go_sem,coe,zaa,Nat.reduceAdd,Nat.reduceSub,Nat.reduceMul,Int.reduceToNat,reduceCtorEq,↓reduceIte,Int.reducePow,Nat.reducePow,Int.reduceMod,Nat.reduceLeDiff,Int.reduceLE,Int.reduceNe,Int.reduceEq,Nat.reduceEqDiff,Nat.reduceLT,Nat.reduceBEq,ty,zcj,outS,inS,numbS,hz,hab,h1,h2,h3,h4,h5,h6,h7,hv,Bool.not_true,Bool.not_false]
               | false =>
                 have hab : decide (a ≤ b) = true := decide_eq_true (by have := of_decide_eq_false h7; omega)
                 have w1 := wrap_mul h4 h5
                 have w2 := wrap_mul h4 h6
                 cases h8 : outB t (c * a) (c * b) with
                 | true =>
                   have hv : okWB z s k c t a b = false := by unfold okWB; rw [h1,h2,h3,h4,h5,h6,h7,h8]; rfl
                   simp only [go_sem,coe,zaa,Nat.reduceAdd,Nat.reduceSub,Nat.reduceMul,Int.reduceToNat,reduceCtorEq,↓reduceIte,Int.reducePow,Nat.reducePow,Int.reduceMod,Nat.reduceLeDiff,Int.reduceLE,Int.reduceNe,Int.reduceEq,Nat.reduceEqDiff,Nat.reduceLT,Nat.reduceBEq,ty,zcj,outS,inS,numbS,hz,hab,w1,w2,h1,h2,h3,h4,h5,h6,h7,h8,hv,Bool.not_true,Bool.not_false]
                 | false =>
                   have hv : okWB z s k c t a b = true := by unfold okWB; rw [h1,h2,h3,h4,h5,h6,h7,h8]; rfl
                   simp only [go_sem,coe,zaa,Nat.reduceAdd,Nat.reduceSub,Nat.reduceMul,Int.reduceToNat,reduceCtorEq,↓reduceIte,Int.reducePow,Nat.reducePow,Int.reduceMod,Nat.reduceLeDiff,Int.reduceLE,Int.reduceNe,Int.reduceEq,Nat.reduceEqDiff,Nat.reduceLT,Nat.reduceBEq,ty,zcj,outS,inS,numbS,hz,hab,w1,w2,h1,h2,h3,h4,h5,h6,h7,h8,hv,Bool.not_true,Bool.not_false]
 · exact hp.elim
theorem oneW_sound : zaz Try.prog 67 mayWS := by
 refine zat (S := zcj) (T := ty) zbi ty_ok Sone35_ok Try.func67 (c := Try.f67.body.getD .skip) (by kernel_rfl) (by kernel_rfl) (fun xs pins hp _ => ?_)
 unfold mayWS at hp ⊢
 split at hp
 · rename_i s k c t a b z _
   have hz : ¬ z = 0 := hp
   refine ⟨by simp,?_⟩
   unfold Try.f67
   cases h1 : outB s 0 1099511627776 with
   | true =>
     have hv : okWB z s k c t a b = false := by unfold okWB; rw [h1]; rfl
     simp only [go_sem,coe,zaa,Nat.reduceAdd,Nat.reduceSub,Nat.reduceMul,Int.reduceToNat,reduceCtorEq,↓reduceIte,Int.reducePow,Nat.reducePow,Int.reduceMod,Nat.reduceLeDiff,Int.reduceLE,Int.reduceNe,Int.reduceEq,Nat.reduceEqDiff,Nat.reduceLT,Nat.reduceBEq,ty,zcj,outS,inS,numbS,hz,h1,hv,Bool.not_true,Bool.not_false]
   | false =>
     cases h2 : decide (s.tmod z = 0) with
     | false =>
       have hv : okWB z s k c t a b = false := by unfold okWB; rw [h1,h2]; rfl
       simp only [go_sem,coe,zaa,Nat.reduceAdd,Nat.reduceSub,Nat.reduceMul,Int.reduceToNat,reduceCtorEq,↓reduceIte,Int.reducePow,Nat.reducePow,Int.reduceMod,Nat.reduceLeDiff,Int.reduceLE,Int.reduceNe,Int.reduceEq,Nat.reduceEqDiff,Nat.reduceLT,Nat.reduceBEq,ty,zcj,outS,inS,numbS,hz,h1,h2,hv,Bool.not_true,Bool.not_false]
     | true =>
       cases h3 : decide ((64 : Int) < k.length) with
       | true =>
         have hv : okWB z s k c t a b = false := by unfold okWB; rw [h1,h2,h3]; rfl
         simp only [go_sem,coe,zaa,Nat.reduceAdd,Nat.reduceSub,Nat.reduceMul,Int.reduceToNat,reduceCtorEq,↓reduceIte,Int.reducePow,Nat.reducePow,Int.reduceMod,Nat.reduceLeDiff,Int.reduceLE,Int.reduceNe,Int.reduceEq,Nat.reduceEqDiff,Nat.reduceLT,Nat.reduceBEq,ty,zcj,outS,inS,numbS,hz,h1,h2,h3,hv,Bool.not_true,Bool.not_false]
       | false =>
         cases h4 : outB c 1 1048576 with
         | true =>
           have hv : okWB z s k c t a b = false := by unfold okWB; rw [h1,h2,h3,h4]; rfl
           simp only [go_sem,coe,zaa,Nat.reduceAdd,Nat.reduceSub,Nat.reduceMul,Int.reduceToNat,reduceCtorEq,↓reduceIte,Int.reducePow,Nat.reducePow,Int.reduceMod,Nat.reduceLeDiff,Int.reduceLE,Int.reduceNe,Int.reduceEq,Nat.reduceEqDiff,Nat.reduceLT,Nat.reduceBEq,ty,zcj,outS,inS,numbS,hz,h1,h2,h3,h4,hv,Bool.not_true,Bool.not_false]
         | false =>
           cases h5 : outB a (-1073741824) 1073741824 with
           | true =>
             have hv : okWB z s k c t a b = false := by unfold okWB; rw [h1,h2,h3,h4,h5]; rfl
             simp only [go_sem,coe,zaa,Nat.reduceAdd,Nat.reduceSub,Nat.reduceMul,Int.reduceToNat,reduceCtorEq,↓reduceIte,Int.reducePow,Nat.reducePow,Int.reduceMod,Nat.reduceLeDiff,Int.reduceLE,Int.reduceNe,Int.reduceEq,Nat.reduceEqDiff,Nat.reduceLT,Nat.reduceBEq,ty,zcj,outS,inS,numbS,hz,h1,h2,h3,h4,h5,hv,Bool.not_true,Bool.not_false]
           | false =>
             cases h6 : outB b (-1073741824) 1073741824 with
             | true =>
               have hv : okWB z s k c t a b = false := by unfold okWB; rw [h1,h2,h3,h4,h5,h6]; rfl
               simp only [go_sem,coe,zaa,Nat.reduceAdd,Nat.reduceSub,Nat.reduceMul,Int.reduceToNat,reduceCtorEq,↓reduceIte,Int.reducePow,Nat.reducePow,Int.reduceMod,Nat.reduceLeDiff,Int.reduceLE,Int.reduceNe,Int.reduceEq,Nat.reduceEqDiff,Nat.reduceLT,Nat.reduceBEq,ty,zcj,outS,inS,numbS,hz,h1,h2,h3,h4,h5,h6,hv,Bool.not_true,Bool.not_false]
             | false =>
               cases h7 : decide (b < a) with
               | true =>
                 have hab : decide (a ≤ b) = false := decide_eq_false (by have := of_decide_eq_true h7; omega)
                 have hv : okWB z s k c t a b = false := by unfold okWB; rw [h1,h2,h3,h4,h5,h6,h7]; rfl
                 simp only [go_sem,coe,zaa,Nat.reduceAdd,Nat.reduceSub,Nat.reduceMul,Int.reduceToNat,reduceCtorEq,↓reduceIte,Int.reducePow,Nat.reducePow,Int.reduceMod,Nat.reduceLeDiff,Int.reduceLE,Int.reduceNe,Int.reduceEq,Nat.reduceEqDiff,Nat.reduceLT,Nat.reduceBEq,ty,zcj,outS,inS,numbS,hz,hab,h1,h2,h3,h4,h5,h6,h7,hv,Bool.not_true,Bool.not_false]
               | false =>
                 have hab : decide (a ≤ b) = true := decide_eq_true (by have := of_decide_eq_false h7; omega)
                 have w1 := wrap_mul h4 h5
                 have w2 := wrap_mul h4 h6
                 cases h8 : outB t (c * a) (c * b) with
                 | true =>
                   have hv : okWB z s k c t a b = false := by unfold okWB; rw [h1,h2,h3,h4,h5,h6,h7,h8]; rfl
                   simp only [go_sem,coe,zaa,Nat.reduceAdd,Nat.reduceSub,Nat.reduceMul,Int.reduceToNat,reduceCtorEq,↓reduceIte,Int.reducePow,Nat.reducePow,Int.reduceMod,Nat.reduceLeDiff,Int.reduceLE,Int.reduceNe,Int.reduceEq,Nat.reduceEqDiff,Nat.reduceLT,Nat.reduceBEq,ty,zcj,outS,inS,numbS,hz,hab,w1,w2,h1,h2,h3,h4,h5,h6,h7,h8,hv,Bool.not_true,Bool.not_false]
                 | false =>
                   have hv : okWB z s k c t a b = true := by unfold okWB; rw [h1,h2,h3,h4,h5,h6,h7,h8]; rfl
                   simp only [go_sem,coe,zaa,Nat.reduceAdd,Nat.reduceSub,Nat.reduceMul,Int.reduceToNat,reduceCtorEq,↓reduceIte,Int.reducePow,Nat.reducePow,Int.reduceMod,Nat.reduceLeDiff,Int.reduceLE,Int.reduceNe,Int.reduceEq,Nat.reduceEqDiff,Nat.reduceLT,Nat.reduceBEq,ty,zcj,outS,inS,numbS,hz,hab,w1,w2,h1,h2,h3,h4,h5,h6,h7,h8,hv,Bool.not_true,Bool.not_false]
 · exact hp.elim
def ahB (s : Int) (k : List UInt8) (s2 : Int) (k2 : List UInt8) : Bool := if s = s2 then Op.bytesLess k k2 else decide (s < s2)
def aheadS : zap
 | [.agg [.w (.int .i64 s),.str k,.w (.int .i64 c),.w (.int .i64 t),.w (.int .i64 a),.w (.int .i64 b)],.agg [.w (.int .i64 s2),.str k2]],[] => ⟨True,.w (.bool (ahB s k s2 k2)),[]⟩
 | [.agg [.w (.int .i64 s),.str k,.w (.int .i64 c),.w (.int .i64 t),.w (.int .i64 a),.w (.int .i64 b)],.agg [.w (.int .i64 s2),.str k2,.w (.int .i64 c2),.w (.int .i64 t2),.w (.int .i64 a2),.w (.int .i64 b2)]],[] => ⟨False,.w (.bool (ahB s k s2 k2)),[]⟩
 | _,_ => zbv
def raheadS : zap
 | [.agg [.w (.int .i64 s),.str k,.w (.int .i64 c),.w (.int .i64 t),.w (.int .i64 a),.w (.int .i64 b)],.agg [.w (.int .i64 s2),.str k2,.w (.int .i64 c2),.w (.int .i64 t2),.w (.int .i64 a2),.w (.int .i64 b2)]],[] => ⟨True,.w (.bool (ahB s k s2 k2)),[]⟩
 | _,_ => zbv
def spotS : zap
 | [.agg [.w (.int .i64 s),.str k,.w (.int .i64 c),.w (.int .i64 t),.w (.int .i64 a),.w (.int .i64 b)]],[] => ⟨True,.agg [.w (.int .i64 s),.str k],[]⟩
 | _,_ => zbv
theorem ahead_sound : zaz Try.prog 63 aheadS := by
 refine zat (S := noS) (T := ty) zbi ty_ok zcf Try.func63 (c := Try.f63.body.getD .skip) (by kernel_rfl) (by kernel_rfl) (fun xs pins hp _ => ?_)
 unfold aheadS at hp ⊢
 split at hp
 · rename_i s k c t a b s2 k2 _
   refine ⟨by simp,?_⟩
   unfold Try.f63
   by_cases h1 : s = s2
   · have hv : ahB s k s2 k2 = Op.bytesLess k k2 := if_pos h1
     subst h1
     have d1 : decide (s = s) = true := decide_eq_true rfl
     cases h2 : Op.bytesLess k k2
     all_goals
       rw [h2] at hv
       simp only [go_sem,coe,zaa,Nat.reduceAdd,Nat.reduceSub,Nat.reduceMul,Int.reduceToNat,reduceCtorEq,↓reduceIte,Int.reducePow,Nat.reducePow,Int.reduceMod,Nat.reduceLeDiff,Int.reduceLE,Int.reduceNe,Int.reduceEq,Nat.reduceEqDiff,Nat.reduceLT,Nat.reduceBEq,ty,noS,d1,h2,hv,Bool.not_true,Bool.not_false]
   · have hv : ahB s k s2 k2 = decide (s < s2) := if_neg h1
     have d1 : decide (s = s2) = false := decide_eq_false h1
     cases h2 : decide (s < s2)
     all_goals
       rw [h2] at hv
       simp only [go_sem,coe,zaa,Nat.reduceAdd,Nat.reduceSub,Nat.reduceMul,Int.reduceToNat,reduceCtorEq,↓reduceIte,Int.reducePow,Nat.reducePow,Int.reduceMod,Nat.reduceLeDiff,Int.reduceLE,Int.reduceNe,Int.reduceEq,Nat.reduceEqDiff,Nat.reduceLT,Nat.reduceBEq,ty,noS,d1,h2,hv,Bool.not_true,Bool.not_false]
 · exact hp.elim
 · exact hp.elim
theorem rahead_sound : zaz Try.prog 68 raheadS := by
 refine zat (S := noS) (T := ty) zbi ty_ok zcf Try.func68 (c := Try.f68.body.getD .skip) (by kernel_rfl) (by kernel_rfl) (fun xs pins hp _ => ?_)
 unfold raheadS at hp ⊢
 split at hp
 · rename_i s k c t a b s2 k2 c2 t2 a2 b2 _
   refine ⟨by simp,?_⟩
   unfold Try.f68
   by_cases h1 : s < s2
   · have hv : ahB s k s2 k2 = true := by unfold ahB; rw [if_neg (by omega)]; exact decide_eq_true h1
     have d1 : decide (s < s2) = true := decide_eq_true h1
     simp only [go_sem,coe,zaa,Nat.reduceAdd,Nat.reduceSub,Nat.reduceMul,Int.reduceToNat,reduceCtorEq,↓reduceIte,Int.reducePow,Nat.reducePow,Int.reduceMod,Nat.reduceLeDiff,Int.reduceLE,Int.reduceNe,Int.reduceEq,Nat.reduceEqDiff,Nat.reduceLT,Nat.reduceBEq,ty,noS,d1,hv]
   · have d1 : decide (s < s2) = false := decide_eq_false h1
     by_cases h2 : s = s2
     · have d2 : decide (s = s2) = true := decide_eq_true h2
       cases h3 : Op.bytesLess k k2
       all_goals
         have hv : ahB s k s2 k2 = Op.bytesLess k k2 := if_pos h2
         rw [h3] at hv
         simp only [go_sem,coe,zaa,Nat.reduceAdd,Nat.reduceSub,Nat.reduceMul,Int.reduceToNat,reduceCtorEq,↓reduceIte,Int.reducePow,Nat.reducePow,Int.reduceMod,Nat.reduceLeDiff,Int.reduceLE,Int.reduceNe,Int.reduceEq,Nat.reduceEqDiff,Nat.reduceLT,Nat.reduceBEq,ty,noS,d1,d2,h3,hv]
     · have hv : ahB s k s2 k2 = false := by unfold ahB; rw [if_neg h2]; exact d1
       have d2 : decide (s = s2) = false := decide_eq_false h2
       simp only [go_sem,coe,zaa,Nat.reduceAdd,Nat.reduceSub,Nat.reduceMul,Int.reduceToNat,reduceCtorEq,↓reduceIte,Int.reducePow,Nat.reducePow,Int.reduceMod,Nat.reduceLeDiff,Int.reduceLE,Int.reduceNe,Int.reduceEq,Nat.reduceEqDiff,Nat.reduceLT,Nat.reduceBEq,ty,noS,d1,d2,hv]
 · exact hp.elim
theorem spot_sound : zaz Try.prog 64 spotS := by
 refine zat (S := noS) (T := ty) zbi ty_ok zcf Try.func64 (c := Try.f64.body.getD .skip) (by kernel_rfl) (by kernel_rfl) (fun xs pins hp _ => ?_)
 unfold spotS at hp ⊢
 split at hp
 · rename_i s k c t a b _
   refine ⟨by simp,?_⟩
   unfold Try.f64
   simp only [go_sem,coe,zaa,Nat.reduceAdd,Nat.reduceSub,Nat.reduceMul,Int.reduceToNat,reduceCtorEq,↓reduceIte,Int.reducePow,Nat.reducePow,Int.reduceMod,Nat.reduceLeDiff,Int.reduceLE,Int.reduceNe,Int.reduceEq,Nat.reduceEqDiff,Nat.reduceLT,Nat.reduceBEq,ty,noS]
 · exact hp.elim
end
end Go.Proofs.Ythjceeimbohajaa
namespace Go.Proofs.Ythjceeimbohajaa
open Ax
def okr (z : Int) (r : WS) : Bool := okWB z r.s r.k r.c r.t r.a r.b
def fiW (z : Int) : List WS → Int → Int
 | [],_ => -1
 | r :: rs,i => if okr z r = true then fiW z rs (i + 1) else i
def risW : List WS → Bool
 | [] => true
 | [_] => true
 | a :: b :: rs => ahB a.s a.k b.s b.k && risW (b :: rs)
def hdB (Z L M D : Int) (n : Nat) : Bool := outB Z 1 1048576 || (outB L 0 1048576 || (outB M (-1) 1099511627776 || (outB D 0 1099511627776 || decide ((256 : Int) < n))))
def chW (Z L M D : Int) (l : List WS) : Int := if hdB Z L M D l.length = true then 11 else if l.all (okr Z) = true then (if risW l = true then 0 else 16) else 11
theorem hd_cases (Z L M D : Int) (n : Nat) : (outB Z 1 1048576 = true ∧ hdB Z L M D n = true) ∨
   (outB Z 1 1048576 = false ∧ outB L 0 1048576 = true ∧ hdB Z L M D n = true) ∨
   (outB Z 1 1048576 = false ∧ outB L 0 1048576 = false ∧ outB M (-1) 1099511627776 = true ∧ hdB Z L M D n = true) ∨
   (outB Z 1 1048576 = false ∧ outB L 0 1048576 = false ∧ outB M (-1) 1099511627776 = false ∧ outB D 0 1099511627776 = true ∧ hdB Z L M D n = true) ∨
   (outB Z 1 1048576 = false ∧ outB L 0 1048576 = false ∧ outB M (-1) 1099511627776 = false ∧ outB D 0 1099511627776 = false ∧ decide ((256 : Int) < n) = true ∧ hdB Z L M D n = true) ∨
   (outB Z 1 1048576 = false ∧ outB L 0 1048576 = false ∧ outB M (-1) 1099511627776 = false ∧ outB D 0 1099511627776 = false ∧ decide ((256 : Int) < n) = false ∧ hdB Z L M D n = false) := by
 unfold hdB
 cases outB Z 1 1048576 <;> cases outB L 0 1048576 <;> cases outB M (-1) 1099511627776 <;> cases outB D 0 1099511627776 <;> cases decide ((256 : Int) < n) <;> simp
theorem fiW_all (z : Int) : ∀ (l : List WS) (i : Int),0 ≤ i → decide (0 ≤ fiW z l i) = !(l.all (okr z))
 | [],i,_ => rfl
 | r :: l,i,h => by
   cases hr : okr z r with
   | true =>
     have e : fiW z (r :: l) i = fiW z l (i + 1) := if_pos hr
     rw [e,fiW_all z l (i + 1) (by omega),List.all_cons,hr,Bool.true_and]
   | false =>
     have e : fiW z (r :: l) i = i := if_neg (by rw [hr]; simp)
     rw [e,List.all_cons,hr,Bool.false_and]
     exact decide_eq_true h
theorem all_drop (p : WS → Bool) (l : List WS) (i : Nat) (h : i < l.length) : (l.drop i).all p = (p l[i] && (l.drop (i + 1)).all p) := by
 rw [List.drop_eq_getElem_cons h]; rfl
theorem risW_drop (l : List WS) (i : Nat) (h : i + 1 < l.length) : risW (l.drop i) = (ahB l[i].s l[i].k l[i + 1].s l[i + 1].k && risW (l.drop (i + 1))) := by
 rw [List.drop_eq_getElem_cons (show i < l.length by omega),List.drop_eq_getElem_cons h]; rfl
theorem risW_last (l : List WS) (i : Nat) (h : l.length ≤ i + 1) : risW (l.drop i) = true := by
 have hl : (l.drop i).length ≤ 1 := by rw [List.length_drop]; omega
 match h2 : l.drop i,hl with
 | [],_ => rfl
 | [_],_ => rfl
def clo35S : zap
 | [.agg [.w (.int .i64 s),.str k,.w (.int .i64 c),.w (.int .i64 t),.w (.int .i64 a),.w (.int .i64 b)],.rf 0 5 0 0],[.g 5 [.agg [.w (.int .i64 Z),.w (.int .i64 L),.w (.int .i64 M),.w (.int .i64 D),.sg 6 xs f]]] => ⟨¬ Z = 0 ∧ ∃ l : List WS,xs = l.map wsA,.w (.bool (!(okWB Z s k c t a b))),[.g 5 [.agg [.w (.int .i64 Z),.w (.int .i64 L),.w (.int .i64 M),.w (.int .i64 D),.sg 6 xs f]]]⟩
 | _,_ => zbv
def idx35S : zap
 | [.sg 6 ys g,.fn id [.rf 0 5 0 0]],[.g 5 [.agg [.w (.int .i64 Z),.w (.int .i64 L),.w (.int .i64 M),.w (.int .i64 D),.sg 6 xs f]]] => ⟨id = 61 ∧ ¬ Z = 0 ∧ ys.length ≤ 9223372036854775807 ∧ (∃ l : List WS,xs = l.map wsA) ∧ ∃ l : List WS,ys = l.map wsA,.w (.int .i64 (fiW Z (ys.map uws) 0)),[.g 5 [.agg [.w (.int .i64 Z),.w (.int .i64 L),.w (.int .i64 M),.w (.int .i64 D),.sg 6 xs f]]]⟩
 | _,_ => zbv
def cont35S : zap
 | [.sg 6 ys g,.fn id [.rf 0 5 0 0]],[.g 5 [.agg [.w (.int .i64 Z),.w (.int .i64 L),.w (.int .i64 M),.w (.int .i64 D),.sg 6 xs f]]] => ⟨id = 61 ∧ ¬ Z = 0 ∧ ys.length ≤ 9223372036854775807 ∧ (∃ l : List WS,xs = l.map wsA) ∧ ∃ l : List WS,ys = l.map wsA,.w (.bool (!((ys.map uws).all (okr Z)))),[.g 5 [.agg [.w (.int .i64 Z),.w (.int .i64 L),.w (.int .i64 M),.w (.int .i64 D),.sg 6 xs f]]]⟩
 | _,_ => zbv
def chkWS : zap
 | [.agg [.w (.int .i64 Z),.w (.int .i64 L),.w (.int .i64 M),.w (.int .i64 D),.sg 6 xs f]],[] => ⟨xs.length ≤ 9223372036854775807 ∧ ∃ l : List WS,xs = l.map wsA,.w (.int .i64 (chW Z L M D (xs.map uws))),[]⟩
 | _,_ => zbv
def stdPl35 : XPlan := fun _ => .std
def idx35Pl : XPlan := fun id => match id with
 | 4 => .opn [] 5
 | _ => .std
def cont35Pl : XPlan := fun id => match id with
 | 1 => .opn [] 2
 | _ => .std
def zde : XPlan := fun id => match id with
 | 3 => .opn [] 3
 | 8 => .prs [(0,11),(1,11),(4,11),(5,11)]
 | _ => .std
def Sclo35 (f : FuncId) : Option zap :=
 match f with
 | 62 => some mayWS
 | _ => none
theorem Sclo35_ok : Fns Try.prog Sclo35 := by
 intro f s h
 unfold Sclo35 at h
 split at h
 · injection h with h; subst h; exact ⟨⟨_,Try.func62,by kernel_rfl,by kernel_rfl⟩,mayW_sound⟩
 · cases h
section
set_option maxRecDepth 100000
set_option maxHeartbeats 4000000 in
theorem clo35_sound : SoundO Try.prog 61 clo35S := by
 refine fn_soundO (S := Sclo35) (SO := noO) (T := ty) zbi ty_ok Sclo35_ok noO_ok Try.func61 (c := Try.f61.body.getD .skip) (by kernel_rfl) (fun xs pins hp => ?_)
 unfold clo35S at hp ⊢
 split at hp
 · rename_i s k c t a b Z L M D xs f
   obtain ⟨hz,l,rfl⟩ := hp
   have hcl := zbm l
   refine ⟨by simp,stdPl35,by kernel_rfl,?_⟩
   obtain ⟨V,hV⟩ : ∃ V,okWB Z s k c t a b = V := ⟨_,rfl⟩
   unfold Try.f61
   simp only [go_sem,zae,Nat.reduceAdd,Nat.reduceSub,Nat.reduceMul,Int.reduceToNat,reduceCtorEq,↓reduceIte,Int.reducePow,Nat.reducePow,Int.reduceMod,Nat.reduceLeDiff,Int.reduceLE,Int.reduceNe,Int.reduceEq,Nat.reduceEqDiff,Nat.reduceLT,Nat.reduceBEq,List.map_cons,List.map_nil,List.toList_toArray,Array.toList_append,Option.toArray_some,Option.toArray_none,Bool.and_self,ty,Sclo35,mayWS,stdPl35,hz,hV]
   try (refine ⟨_,Weak.refl _,?_⟩)
   try simp only [go_sem,zae,Nat.reduceAdd,Nat.reduceSub,Nat.reduceMul,Int.reduceToNat,reduceCtorEq,↓reduceIte,Int.reducePow,Nat.reducePow,Int.reduceMod,Nat.reduceLeDiff,Int.reduceLE,Int.reduceNe,Int.reduceEq,Nat.reduceEqDiff,Nat.reduceLT,Nat.reduceBEq,List.map_cons,List.map_nil,List.toList_toArray,Array.toList_append,Option.toArray_some,Option.toArray_none,Bool.and_self,ty,Sclo35,hV,hcl]
 · exact hp.elim
def Oclo35 (f : FuncId) : Option zap :=
 match f with
 | 61 => some clo35S
 | _ => none
theorem Oclo35_ok : FnsO Try.prog Oclo35 := by
 intro f s h
 unfold Oclo35 at h
 split at h
 · injection h with h; subst h; exact ⟨⟨_,Try.func61,by kernel_rfl,by kernel_rfl⟩,clo35_sound⟩
 · cases h
set_option maxHeartbeats 8000000 in
theorem idx35_sound : SoundO Try.prog 93 idx35S := by
 refine fn_soundO (S := noS) (SO := Oclo35) (T := ty) zbi ty_ok zcf Oclo35_ok Try.func93 (c := Try.f93.body.getD .skip) (by kernel_rfl) (fun xs pins hp => ?_)
 unfold idx35S at hp ⊢
 split at hp
 · rename_i ys g id Z L M D xs f
   obtain ⟨rfl,hz,hL,⟨q,rfl⟩,l,rfl⟩ := hp
   rw [List.length_map] at hL
   have hle : (l.map wsA).length = l.length := by simp
   have hcl := zbm q
   have hcl2 := zbm l
   have hex : ∃ p : List WS,q.map wsA = p.map wsA := ⟨q,rfl⟩
   rw [zax]
   refine ⟨by simp,idx35Pl,by kernel_rfl,?_⟩
   unfold Try.f93
   simp only [go_sem,zae,Nat.reduceAdd,Nat.reduceSub,Nat.reduceMul,Int.reduceToNat,reduceCtorEq,↓reduceIte,Int.reducePow,Nat.reducePow,Int.reduceMod,Nat.reduceLeDiff,Int.reduceLE,Int.reduceNe,Int.reduceEq,Nat.reduceEqDiff,Nat.reduceLT,Nat.reduceBEq,List.map_cons,List.map_nil,List.toList_toArray,Array.toList_append,Option.toArray_some,Option.toArray_none,Bool.and_self,ty,noS,Oclo35,idx35Pl,hle]
   refine awpO_loopW ⟨fun m σ => ∃ i : Nat,m = l.length - i ∧ i ≤ l.length ∧ fiW Z l 0 = fiW Z (l.drop i) i ∧
       σ = ⟨[.sg 6 (l.map wsA) g,.fn 61 [.rf 0 5 0 0],.junk,.junk,.junk,.junk,.junk,.w (.int .i64 l.length),.w (.int .i64 i),.junk,.junk,.junk,.junk,.junk,.junk,.junk,.junk,.junk,.junk],[(0,.g 5 [.agg [.w (.int .i64 Z),.w (.int .i64 L),.w (.int .i64 M),.w (.int .i64 D),.sg 6 (q.map wsA) f]])],4⟩,?_,?_⟩
   · refine ⟨_,_,zaj [0,1,2,3] rfl rfl rfl ?_ ?_,0,rfl,by omega,by rw [List.drop_zero]; rfl,rfl⟩
     · simp only [ssT,zar,zas,setSlot,gOf,AV.ren,renL,Blk.ren,Ax.look,Ax.put,reduceCtorEq,↓reduceIte,Nat.reduceEqDiff,Nat.reduceLT,Nat.reduceAdd,List.length_append,List.length_cons,List.length_nil,Option.some.injEq]; try simp
     · simp only [ssT,zar,zas,setSlot,gOf,AV.ren,renL,Blk.ren,Ax.look,Ax.put,reduceCtorEq,↓reduceIte,Nat.reduceEqDiff,Nat.reduceLT,Nat.reduceAdd,List.length_append,List.length_cons,List.length_nil,Option.some.injEq]; try simp
   · rintro m σ ⟨i,rfl,hi,hinv,rfl⟩
     by_cases hil : i < l.length
     · have e1 : ((i : Int) + 1 + 9223372036854775808) % 18446744073709551616 - 9223372036854775808 = ((i + 1 : Nat) : Int) := by omega
       have d1 : decide ((i : Int) < l.length) = true := decide_eq_true (by omega)
       have hs1 := zck l i hil
       have hdr : l.drop i = l[i] :: l.drop (i + 1) := List.drop_eq_getElem_cons hil
       obtain ⟨r,hr⟩ : ∃ r,l[i] = r := ⟨_,rfl⟩
       rw [hr] at hs1 hdr
       rw [hdr] at hinv
       obtain ⟨s,k,c,t,a,b⟩ := r
       have hs1 : slot (l.map wsA) i = .agg [.w (.int .i64 s),.str k,.w (.int .i64 c),.w (.int .i64 t),.w (.int .i64 a),.w (.int .i64 b)] := hs1
       have hok : okr Z ⟨s,k,c,t,a,b⟩ = okWB Z s k c t a b := rfl
       cases hv : okWB Z s k c t a b with
       | false =>
         have hfi : fiW Z l 0 = i := by rw [hinv]; exact if_neg (by rw [hok,hv]; simp)
         rw [hfi]
         simp only [go_sem,zae,Nat.reduceAdd,Nat.reduceSub,Nat.reduceMul,Int.reduceToNat,reduceCtorEq,↓reduceIte,Int.reducePow,Nat.reducePow,Int.reduceMod,Nat.reduceLeDiff,Int.reduceLE,Int.reduceNe,Int.reduceEq,Nat.reduceEqDiff,Nat.reduceLT,Nat.reduceBEq,List.map_cons,List.map_nil,List.toList_toArray,Array.toList_append,Option.toArray_some,Option.toArray_none,Bool.and_self,ty,noS,Oclo35,idx35Pl,clo35S,hle,d1,hs1,hz,hv,hex,Int.toNat_natCast,Bool.not_true,Bool.not_false]
         repeat (refine And.intro (by omega) ?_)
         refine ⟨_,Weak.refl _,?_⟩
         simp only [go_sem,zae,Nat.reduceAdd,Nat.reduceSub,Nat.reduceMul,Int.reduceToNat,reduceCtorEq,↓reduceIte,Int.reducePow,Nat.reducePow,Int.reduceMod,Nat.reduceLeDiff,Int.reduceLE,Int.reduceNe,Int.reduceEq,Nat.reduceEqDiff,Nat.reduceLT,Nat.reduceBEq,List.map_cons,List.map_nil,List.toList_toArray,Array.toList_append,Option.toArray_some,Option.toArray_none,Bool.and_self,ty,noS,idx35Pl,hcl,cond_true]
         try (refine ⟨_,Weak.refl _,?_⟩)
         try simp only [go_sem,zae,Nat.reduceAdd,Nat.reduceSub,Nat.reduceMul,Int.reduceToNat,reduceCtorEq,↓reduceIte,Int.reducePow,Nat.reducePow,Int.reduceMod,Nat.reduceLeDiff,Int.reduceLE,Int.reduceNe,Int.reduceEq,Nat.reduceEqDiff,Nat.reduceLT,Nat.reduceBEq,List.map_cons,List.map_nil,List.toList_toArray,Array.toList_append,Option.toArray_some,Option.toArray_none,Bool.and_self,ty,noS,idx35Pl,hcl,cond_true]
       | true =>
         have hfi : fiW Z l 0 = fiW Z (l.drop (i + 1)) ((i + 1 : Nat) : Int) := by
           rw [hinv]
           have e : fiW Z (⟨s,k,c,t,a,b⟩ :: l.drop (i + 1)) i = fiW Z (l.drop (i + 1)) ((i : Int) + 1) := if_pos (by rw [hok,hv])
           rw [e]; simp
         simp only [go_sem,zae,Nat.reduceAdd,Nat.reduceSub,Nat.reduceMul,Int.reduceToNat,reduceCtorEq,↓reduceIte,Int.reducePow,Nat.reducePow,Int.reduceMod,Nat.reduceLeDiff,Int.reduceLE,Int.reduceNe,Int.reduceEq,Nat.reduceEqDiff,Nat.reduceLT,Nat.reduceBEq,List.map_cons,List.map_nil,List.toList_toArray,Array.toList_append,Option.toArray_some,Option.toArray_none,Bool.and_self,ty,noS,Oclo35,idx35Pl,clo35S,hle,d1,hs1,e1,hz,hv,hex,Int.toNat_natCast,Bool.not_true,Bool.not_false]
         repeat (refine And.intro (by omega) ?_)
         refine ⟨l.length - (i + 1),_,by omega,zaj [0,1,2,3] rfl rfl rfl ?_ ?_,i + 1,rfl,by omega,hfi,rfl⟩
         · simp only [ssT,zar,zas,setSlot,gOf,AV.ren,renL,Blk.ren,Ax.look,Ax.put,reduceCtorEq,↓reduceIte,Nat.reduceEqDiff,Nat.reduceLT,Nat.reduceAdd,List.length_append,List.length_cons,List.length_nil,Option.some.injEq]; try simp
         · simp only [ssT,zar,zas,setSlot,gOf,AV.ren,renL,Blk.ren,Ax.look,Ax.put,reduceCtorEq,↓reduceIte,Nat.reduceEqDiff,Nat.reduceLT,Nat.reduceAdd,List.length_append,List.length_cons,List.length_nil,Option.some.injEq]; try simp
     · have d1 : decide ((i : Int) < l.length) = false := decide_eq_false (by omega)
       have hdr : l.drop i = [] := List.drop_eq_nil_of_le (by omega)
       rw [hdr] at hinv
       have hfi : fiW Z l 0 = -1 := hinv
       rw [hfi]
       simp only [go_sem,zae,Nat.reduceAdd,Nat.reduceSub,Nat.reduceMul,Int.reduceToNat,reduceCtorEq,↓reduceIte,Int.reducePow,Nat.reducePow,Int.reduceMod,Nat.reduceLeDiff,Int.reduceLE,Int.reduceNe,Int.reduceEq,Nat.reduceEqDiff,Nat.reduceLT,Nat.reduceBEq,List.map_cons,List.map_nil,List.toList_toArray,Array.toList_append,Option.toArray_some,Option.toArray_none,Bool.and_self,ty,noS,Oclo35,idx35Pl,hle,d1]
       refine ⟨_,Weak.refl _,?_⟩
       simp only [go_sem,zae,Nat.reduceAdd,Nat.reduceSub,Nat.reduceMul,Int.reduceToNat,reduceCtorEq,↓reduceIte,Int.reducePow,Nat.reducePow,Int.reduceMod,Nat.reduceLeDiff,Int.reduceLE,Int.reduceNe,Int.reduceEq,Nat.reduceEqDiff,Nat.reduceLT,Nat.reduceBEq,List.map_cons,List.map_nil,List.toList_toArray,Array.toList_append,Option.toArray_some,Option.toArray_none,Bool.and_self,ty,noS,idx35Pl,hcl,cond_true]
       try (refine ⟨_,Weak.refl _,?_⟩)
       try simp only [go_sem,zae,Nat.reduceAdd,Nat.reduceSub,Nat.reduceMul,Int.reduceToNat,reduceCtorEq,↓reduceIte,Int.reducePow,Nat.reducePow,Int.reduceMod,Nat.reduceLeDiff,Int.reduceLE,Int.reduceNe,Int.reduceEq,Nat.reduceEqDiff,Nat.reduceLT,Nat.reduceBEq,List.map_cons,List.map_nil,List.toList_toArray,Array.toList_append,Option.toArray_some,Option.toArray_none,Bool.and_self,ty,noS,idx35Pl,hcl,cond_true]
 · exact hp.elim
def Oidx35 (f : FuncId) : Option zap :=
 match f with
 | 93 => some idx35S
 | _ => none
theorem Oidx35_ok : FnsO Try.prog Oidx35 := by
 intro f s h
 unfold Oidx35 at h
 split at h
 · injection h with h; subst h; exact ⟨⟨_,Try.func93,by kernel_rfl,by kernel_rfl⟩,idx35_sound⟩
 · cases h
set_option maxHeartbeats 4000000 in
theorem cont35_sound : SoundO Try.prog 60 cont35S := by
 refine fn_soundO (S := noS) (SO := Oidx35) (T := ty) zbi ty_ok zcf Oidx35_ok Try.func60 (c := Try.f60.body.getD .skip) (by kernel_rfl) (fun xs pins hp => ?_)
 unfold cont35S at hp ⊢
 split at hp
 · rename_i ys g id Z L M D xs f
   obtain ⟨rfl,hz,hL,⟨q,rfl⟩,l,rfl⟩ := hp
   have hcl := zbm q
   have hex : ∃ p : List WS,q.map wsA = p.map wsA := ⟨q,rfl⟩
   have hex2 : ∃ p : List WS,l.map wsA = p.map wsA := ⟨l,rfl⟩
   have hle : (l.map wsA).length = l.length := by simp
   have hc : coe ty 31 (.sg 6 (l.map wsA) g) = .sg 6 (l.map wsA) g := by cases l <;> rfl
   rw [hle] at hL
   rw [zax]
   have hfi := fiW_all Z l 0 (by omega)
   obtain ⟨V,hV⟩ : ∃ V,l.all (okr Z) = V := ⟨_,rfl⟩
   rw [hV] at hfi ⊢
   refine ⟨by simp,cont35Pl,by kernel_rfl,?_⟩
   unfold Try.f60
   simp only [go_sem,zae,Nat.reduceAdd,Nat.reduceSub,Nat.reduceMul,Int.reduceToNat,reduceCtorEq,↓reduceIte,Int.reducePow,Nat.reducePow,Int.reduceMod,Nat.reduceLeDiff,Int.reduceLE,Int.reduceNe,Int.reduceEq,Nat.reduceEqDiff,Nat.reduceLT,Nat.reduceBEq,List.map_cons,List.map_nil,List.toList_toArray,Array.toList_append,Option.toArray_some,Option.toArray_none,Bool.and_self,ty,noS,Oidx35,cont35Pl,idx35S,hle,hL,hz,hex,hex2,hc,zax,hfi]
   try (refine ⟨_,Weak.refl _,?_⟩)
   try simp only [go_sem,zae,Nat.reduceAdd,Nat.reduceSub,Nat.reduceMul,Int.reduceToNat,reduceCtorEq,↓reduceIte,Int.reducePow,Nat.reducePow,Int.reduceMod,Nat.reduceLeDiff,Int.reduceLE,Int.reduceNe,Int.reduceEq,Nat.reduceEqDiff,Nat.reduceLT,Nat.reduceBEq,List.map_cons,List.map_nil,List.toList_toArray,Array.toList_append,Option.toArray_some,Option.toArray_none,Bool.and_self,ty,noS,hcl,cond_true]
 · exact hp.elim
end
end Go.Proofs.Ythjceeimbohajaa
