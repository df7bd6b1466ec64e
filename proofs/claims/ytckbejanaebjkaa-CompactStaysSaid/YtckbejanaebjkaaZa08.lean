/- What the proofs of this seat stand on; it asks nothing. -/
import Derived.Test.YtckbejanaebjkaaZa07
set_option linter.unusedSimpArgs false
set_option linter.unusedVariables false
namespace Go.Proofs.Ytckbejanaebjkaa
namespace Ax
open Go.RowKit
abbrev Plan := Nat → Option (List (Nat × Nat))
def zbt (T : zab) (pl : Plan) : Code → Bool
 | .region id ops draw => match pl id with
   | none => !draw || drawOk T ops.toList
   | some p => draw && drawOkF T ops.toList p
 | .seq a b => zbt T pl a && zbt T pl b
 | .cond _ a b => zbt T pl a && zbt T pl b
 | .block _ c => zbt T pl c
 | .loop c => zbt T pl c
 | _ => true
def awpF (S : zai) (T : zab) (pl : Plan) : Code → (Exit → ASt → Prop) → ASt → Prop
 | .skip,Q,σ => Q .normal σ
 | .label _,Q,σ => Q .normal σ
 | .region id ops _,Q,σ => match pl id with
   | none => aops S T ops.toList σ.nx ops.toList σ.sl σ.H (regK (σ.nx + 8 * ops.toList.length) Q)
   | some p => zdx S T ops.toList p σ.nx [] ops.toList σ.sl σ.H (regK (σ.nx + 8 * ops.toList.length) Q)
 | .seq a b,Q,σ => awpF S T pl a (seqK (awpF S T pl b Q) Q) σ
 | .cond c a b,Q,σ => match ev σ.sl c with
     | .w (.bool t) => zfn t (awpF S T pl a Q σ) (awpF S T pl b Q σ)
     | _ => False
 | .block id c,Q,σ => awpF S T pl c (zee id Q) σ
 | .loop c,Q,σ => ALoop (awpF S T pl c) Q σ
 | .exit id,Q,σ => Q (.exit id) σ
 | .ret,Q,σ => Q .ret σ
 | _,_,_ => False
open Classical in
theorem awpF_sound {P : Program} {w0 : World} {E : Nat → Prop} {T : zab} {S : zai} {pl : Plan} (hm : P.follows .mixedOrders = true) (hT : TOk P T) (hS : Fns P S) {B : Bs} : ∀ (c : Code) (Q : Exit → ASt → Prop) (σ : ASt) (a : Act) (w : World),
   zbt T pl c = true → awpF S T pl c Q σ → Rel w0 E B σ a w → c.wp P (Low w0 E B Q) a w := by
 intro c
 induction c with
 | skip => intro Q σ a w hdr h hr; exact wp_skip ⟨σ,hr,h⟩
 | label l => intro Q σ a w hdr h hr; exact wp_label ⟨σ,hr,h⟩
 | ret => intro Q σ a w hdr h hr; exact wp_ret ⟨σ,hr,h⟩
 | exit id => intro Q σ a w hdr h hr; exact wp_exit ⟨σ,hr,h⟩
 | region id ops draw =>
   intro Q σ a w hdr h hr
   obtain ⟨loc,hb,hr⟩ := hr
   obtain ⟨sl,H,nx⟩ := σ
   have hK : ∀ sl H a w loc,Base w0 B w loc → Rel' w0 E loc ⟨sl,H,nx + 8 * ops.toList.length⟩ a w → regK (nx + 8 * ops.toList.length) Q sl H → Low w0 E B Q .normal a w := fun sl H a w loc h1 h2 h3 => ⟨_,⟨loc,h1,h2⟩,h3⟩
   simp only [zbt] at hdr
   simp only [awpF] at h
   cases hp : pl id with
   | none =>
     simp only [hp] at hdr h
     cases draw with
     | false => exact wp_region_list (zcm hT hS hK ops.toList nx sl H a w loc rfl hb hr h)
     | true => exact draw_sound hT hS hm w0 E ops.toList _ _ B nx sl H a w loc id (by simpa using hdr) hK hb hr h
   | some p =>
     simp only [hp,Bool.and_eq_true] at hdr h
     obtain ⟨hd1,hd2⟩ := hdr
     subst hd1
     exact drawF_sound hT hS hm hd2 hK hb hr h
 | seq x y ihx ihy =>
   intro Q σ a w hdr h hr
   refine wp_seq (wp_mono (ihx _ σ a w (by simp only [zbt,Bool.and_eq_true] at hdr; exact hdr.1) h hr) ?_)
   rintro e a' w' ⟨σ',hr',hq⟩
   cases e with
   | normal => exact ihy Q σ' a' w' (by simp only [zbt,Bool.and_eq_true] at hdr; exact hdr.2) hq hr'
   | _ => exact ⟨σ',hr',hq⟩
 | cond c x y ihx ihy =>
   intro Q σ a w hdr h hr
   simp only [awpF,zfn] at h
   simp only [zbt,Bool.and_eq_true] at hdr
   obtain ⟨loc,hb,hr⟩ := hr
   split at h
   · rename_i t hc
     have hv := ev_R hr.slots c
     rw [hc] at hv
     have hv := hv.wv
     cases t with
     | true => exact wp_cond_true hv (ihx Q σ a w hdr.1 (h.1 rfl) ⟨loc,hb,hr⟩)
     | false => exact wp_cond_false hv (ihy Q σ a w hdr.2 (h.2 rfl) ⟨loc,hb,hr⟩)
   · exact h.elim
 | block id c ih =>
   intro Q σ a w hdr h hr
   refine wp_block (wp_mono (ih _ σ a w hdr h hr) ?_)
   rintro e a' w' ⟨σ',hr',hq⟩
   cases e with
   | exit id' =>
     simp only [zee,Exit.inBlock] at hq ⊢
     split at hq
     · rename_i he; rw [if_pos he]; exact ⟨σ',hr',hq⟩
     · rename_i he; rw [if_neg he]; exact ⟨σ',hr',hq⟩
   | _ => exact ⟨σ',hr',hq⟩
 | loop c ih =>
   intro Q σ a w hdr h hr
   obtain ⟨I,⟨n0,σ0,hw0,hI0⟩,hround⟩ := h
   let p : Act → World → Nat → Prop := fun a w n => ∃ σ,Rel w0 E B σ a w ∧ I n σ
   have hleast : ∀ a w,(∃ n,p a w n) → ∃ m,p a w m ∧ ∀ k,p a w k → m ≤ k := fun a w ⟨n,hn⟩ => let ⟨m,h1,_,h3⟩ := least n hn; ⟨m,h1,h3⟩
   let μ : Act → World → Nat := fun a w => if h : ∃ n,p a w n then Classical.choose (hleast a w h) else 0
   refine wp_loop (fun a w => ∃ n,p a w n) μ ⟨n0,σ0,hw0 w0 E B a w hr,hI0⟩ ?_
   intro a w hex
   have hμ : μ a w = Classical.choose (hleast a w hex) := dif_pos hex
   obtain ⟨⟨σ1,hr1,hI1⟩,hmin⟩ := Classical.choose_spec (hleast a w hex)
   rw [← hμ] at hI1
   refine wp_mono (ih _ σ1 a w hdr (hround _ σ1 hI1) hr1) ?_
   rintro e a' w' ⟨σ',hr',hq⟩
   cases e with
   | normal =>
     obtain ⟨m,σ2,hlt,hw2,hI2⟩ := hq
     have hp : p a' w' m := ⟨σ2,hw2 w0 E B a' w' hr',hI2⟩
     refine ⟨⟨m,hp⟩,?_⟩
     have hμ' : μ a' w' = Classical.choose (hleast a' w' ⟨m,hp⟩) := dif_pos ⟨m,hp⟩
     have := (Classical.choose_spec (hleast a' w' ⟨m,hp⟩)).2 m hp
     rw [← hμ'] at this
     exact Nat.lt_of_le_of_lt this hlt
   | _ =>
     obtain ⟨σ2,hw2,hq⟩ := hq
     exact ⟨σ2,hw2 w0 E B a' w' hr',hq⟩
 | _ => intro Q σ a w hdr h hr; exact h.elim
theorem sound_gen0 {P : Program} {T : zab} {S : zai} (hT : TOk P T) (hS : Fns P S) {f : FuncId} {fn : Func} {c : Code} (hf : P.funcs[f]? = some fn) (hb : fn.body = some c) {spec : zay} {Qp : List AV → List Blk → Exit → ASt → Prop}
   (hqp : ∀ xs pins e σ,Qp xs pins e σ → ∃ σ',Weak σ σ' ∧ Ends T fn.results.toList pins (spec xs pins) e σ')
   (h : ∀ xs pins,(spec xs pins).p → closedB pins = true → pins.length ≤ 4 ∧ ∀ w0 E B a w,Rel w0 E B ⟨xs ++ List.replicate (fn.ntmps - xs.length) .junk,pinHeap 0 pins,4⟩ a w → c.wp P (Low w0 E B (Qp xs pins)) a w) : zcn P f spec := by
 intro xs pins hp hcl w bad pb vs hlen hnd hbad hlies hxl hx
 obtain ⟨hp4,h⟩ := h xs pins hp hcl
 refine calls_of_wp hf hb ?_
 have hrel : Rel w (· ∈ pb) ⟨bad,pb⟩ ⟨xs ++ List.replicate (fn.ntmps - xs.length) .junk,pinHeap 0 pins,4⟩ { tmps := vs.toArray ++ Array.replicate (fn.ntmps - vs.toArray.size) undef,defers := [] } w := by
   refine ⟨zav pb bad,⟨⟨rfl,fun k hk cur e fz hh => ⟨cur,fz,hh,rfl⟩⟩,by simp only; omega,fun k hk => .inr ⟨by simp [zav,List.getElem?_eq_getElem hk],fun cur e fz hh => ⟨cur,fz,hh,rfl⟩⟩⟩,?_⟩
   refine ⟨by simp [hxl],fun t => ?_,?_,?_,?_,rfl,fun id b hl => ?_⟩
   · simp only
     rw [zcb]
     by_cases ht : t < xs.length
     · have e1 : (xs ++ List.replicate (fn.ntmps - xs.length) AV.junk).getD t .junk = xs[t] := by simp [List.getElem?_append_left,ht]
       have e2 : (vs.toArray ++ Array.replicate (fn.ntmps - vs.toArray.size) undef).getD t undef = vs[t]'(by omega) := by
         have : t < vs.length := by omega
         simp [Array.getD_eq_getD_getElem?,Array.getElem?_append,this]
       rw [e1,e2]
       exact hx t ht _
     · have e1 : (xs ++ List.replicate (fn.ntmps - xs.length) AV.junk).getD t .junk = .junk := by
         rw [List.getD_eq_getElem?_getD,List.getElem?_append_right (by omega),List.getElem?_replicate]
         split <;> rfl
       rw [e1]; exact .junk _
   · intro id b hl
     obtain ⟨j,hj,rfl,rfl⟩ := zba pins 0 id b hl
     have hj' : j < pb.length := by omega
     unfold BlkR
     have : (zav pb bad).m (0 + j) = .here pb[j] := by simp [zav,List.getElem?_eq_getElem hj']
     rw [this]
     exact hlies j hj hj'
   · refine ⟨rfl,rfl,rfl,Nat.le_refl _,fun _ _ _ => rfl,?_,?_,?_⟩
     · intro i j b hi hj
       obtain ⟨h1,h2⟩ := zbr hi
       obtain ⟨h3,h4⟩ := zbr hj
       exact zbk hnd (h2.trans h4.symm)
     · intro i b hi
       obtain ⟨h1,h2⟩ := zbr hi
       subst h2
       refine ⟨?_,.inr (List.getElem_mem h1)⟩
       obtain ⟨ob,hh⟩ := lies_live2 (hlies i (by omega) h1).2
       rcases Nat.lt_or_ge pb[i] w.heap.size with h' | h'
       · exact h'
       · rw [Array.getElem?_eq_none h'] at hh; cases hh
     · exact fun b hb => hbad b hb
   · intro id hid
     simp only at hid
     have : pb[id]? = none := List.getElem?_eq_none (by omega)
     simp [zav,this]
   · obtain ⟨j,hj,rfl,_⟩ := zba pins 0 id b hl
     simp; omega
 refine wp_mono (h _ _ _ _ w hrel) ?_
 have main : ∀ a w' σ,Rel w (· ∈ pb) ⟨bad,pb⟩ σ a w' → (rvals T σ.H σ.sl fn.results.toList).1 ∧ EndsX pins (spec xs pins) (rone (rvals T σ.H σ.sl fn.results.toList).2) σ →
     a.defers = [] ∧ ∃ v,(results fn a.tmps).run P w' = .ok v w' ∧ ∃ v' loc',Ending.returned v = .returned v' ∧ Gives w bad pb (spec xs pins) v' w' loc' := by
   rintro a w' σ ⟨loc,hB,hr⟩ ⟨hrv,hnodup,hpin,hbl,hren⟩
   obtain ⟨v,hv,hR⟩ := results_R (P := P) (fn := fn) hT hr.heap hr.slots hrv
   refine ⟨hr.defers,v,hv,v,?_⟩
   generalize rone (rvals T σ.H σ.sl fn.results.toList).2 = x at hnodup hpin hbl hren hR
   have hnd' := zcs hnodup
   obtain ⟨hids1,hids2⟩ := zes x.ids (upTo 0 pins)
   obtain ⟨hu1,hu2⟩ := upTo_get pins 0
   generalize hids : newIds (upTo 0 pins) x.ids = ids at hnodup hpin hbl hren hnd' hids1 hids2
   obtain ⟨hpl,hpc,hpg⟩ := zdg hpin
   rw [hbl] at hpl hpc hpg
   obtain ⟨t,rfl⟩ := hids1
   have hm : pins.length ≤ (upTo 0 pins ++ t).length := by simp [hu1]
   have hold : ∀ k,(hk : k < pins.length) → (upTo 0 pins ++ t)[k]'(by omega) = k := by
     intro k hk
     rw [List.getElem_append_left (by omega)]
     have := hu2 k (by omega)
     omega
   -- every one of the names is alive
   have hlive : ∀ (k : Nat) (hk : k < (upTo 0 pins ++ t).length),loc.m (upTo 0 pins ++ t)[k] ≠ .free := by
     intro k hk
     rcases hids2 _ (List.getElem_mem hk) with hi | hi
     · obtain ⟨j,hj,he⟩ := List.getElem_of_mem hi
       rw [← he,hu2 j hj]
       have hj' : j < pb.length := by omega
       rcases hB.2.2 j hj' with h1 | ⟨h1,_⟩
       · rw [Nat.zero_add,h1]; simp
       · rw [Nat.zero_add,h1]; simp
     · exact zcp x v hR hi
   have hblk : ∀ (k : Nat) (hk : k < (upTo 0 pins ++ t).length) (hk' : k < (spec xs pins).bl.length),BlkR w' loc (upTo 0 pins ++ t)[k] (spec xs pins).bl[k] := by
     intro k hk hk'
     refine hr.heap _ _ ?_
     rw [hpg k hk,List.getElem?_eq_getElem hk']
   have hdead : ∀ (k : Nat) (hk : k < (upTo 0 pins ++ t).length),loc.m (upTo 0 pins ++ t)[k] ≠ .dead := by
     intro k hk e
     have := hblk k hk (by omega)
     unfold BlkR at this
     rw [e] at this
     exact this
   let g : Nat → Nat := gOf (upTo 0 pins ++ t) σ.nx
   have hgo : ∀ k,(hk : k < (upTo 0 pins ++ t).length) → g k = (upTo 0 pins ++ t)[k] := fun k hk => zcw hk
   have hgn : ∀ k,(upTo 0 pins ++ t).length ≤ k → loc.m (g k) = .free := by
     intro k hk
     refine hr.fresh _ ?_
     show σ.nx ≤ gOf _ σ.nx k
     rw [zcl hk]; omega
   let loc' : Loc := { m := fun k => loc.m (g k),bad := loc.bad }
   have hlt : ∀ i b,loc'.m i = .here b → i < (upTo 0 pins ++ t).length := by
     intro i b hi
     rcases Nat.lt_or_ge i (upTo 0 pins ++ t).length with h' | h'
     · exact h'
     · have : loc'.m i = .free := hgn i h'
       rw [this] at hi; cases hi
   have hinj : ∀ i j b,loc'.m i = .here b → loc'.m j = .here b → i = j := by
     intro i j b hi hj
     have h1 := hlt i b hi
     have h2 := hlt j b hj
     have h3 : g i = g j := hr.env.inj (g i) (g j) b hi hj
     rw [hgo i h1,hgo j h2] at h3
     exact zbk hnd' h3
   have hpb : ∀ (k : Nat) (hk : k < pb.length),loc'.m k = .here pb[k] ∧ ∀ cur e fz,w.heap[pb[k]]? = some (.cells cur e fz) → ∃ cur' fz',w'.heap[pb[k]]? = some (.cells cur' e fz') ∧ cur'.size = cur.size := by
     intro k hk
     have hk1 : k < pins.length := by omega
     have e : loc'.m k = loc.m k := by
       show loc.m (g k) = loc.m k
       rw [hgo k (by omega),hold k hk1]
     rcases hB.2.2 k hk with h1 | ⟨h1,h2⟩
     · have := hdead k (by omega)
       rw [hold k hk1] at this
       exact (this h1).elim
     · exact ⟨e.trans h1,h2⟩
   refine ⟨loc',rfl,?_⟩
   refine ⟨unren (loc2 := loc') (g := g) (fun _ => rfl) rfl hR _ hren,hB.1.1,?_,fun k hk => (hpb k hk).1,?_,?_,hinj,?_⟩
   · intro k hk
     have hk' : k < (upTo 0 pins ++ t).length := by omega
     have e : loc'.m k = loc.m (upTo 0 pins ++ t)[k] := by show loc.m (g k) = _; rw [hgo k hk']
     refine ⟨?_,by rw [e]; exact hlive k hk',by rw [e]; exact hdead k hk'⟩
     have hb := hblk k hk' hk
     unfold BlkR at hb ⊢
     rw [e]
     split
     · trivial
     · rename_i e'; rw [e'] at hb; exact hb
     · rename_i e'; rw [e'] at hb; exact hb
     · rename_i b e'
       rw [e'] at hb
       refine ⟨hb.1,zdo hb.2 (zdu hpc k hk) (.inr ?_)⟩
       rintro c _ (h | ⟨i,h⟩)
       · exact .inl h
       · exact .inr ⟨g i,h⟩
   · intro k b hk hkb
     have := hr.env.lies (g k) b hkb
     refine ⟨?_,this.1⟩
     rcases this.2 with h' | h'
     · exact h'
     · obtain ⟨j,hj,he⟩ := List.getElem_of_mem h'
       have h1 := (hpb j hj).1
       rw [he] at h1
       have := hinj k j b hkb h1
       omega
   · intro k hk
     exact hgn k (by omega)
   · refine ⟨hr.env.os,hr.env.tape,hr.env.output,hr.env.size,hr.env.same,?_⟩
     rintro b cur e fz hb hh
     obtain ⟨j,hj,rfl⟩ := List.getElem_of_mem hb
     exact (hpb j hj).2 cur e fz hh
 rintro e a w' ⟨σ0,hr0,hq0⟩
 obtain ⟨σ,hwk,hq⟩ := hqp xs pins e σ0 hq0
 have hr := hwk _ _ _ _ _ hr0
 cases e with
 | normal => exact main a w' σ hr hq
 | ret => exact main a w' σ hr hq
 | _ => exact hq.elim
theorem fn_soundF {P : Program} {T : zab} {S : zai} {pl : Plan} (hm : P.follows .mixedOrders = true) (hT : TOk P T) (hS : Fns P S) {f : FuncId} {fn : Func} {c : Code} (hf : P.funcs[f]? = some fn) (hb : fn.body = some c) (hd : zbt T pl c = true) {spec : zay}
   (h : ∀ xs pins,(spec xs pins).p → closedB pins = true → pins.length ≤ 4 ∧ awpF S T pl c (EndsW T fn.results.toList pins (spec xs pins)) ⟨xs ++ List.replicate (fn.ntmps - xs.length) .junk,pinHeap 0 pins,4⟩) : zcn P f spec :=
 sound_gen0 hT hS hf hb (Qp := fun xs pins => EndsW T fn.results.toList pins (spec xs pins)) (fun _ _ _ _ h => h) (fun xs pins hp hc => ⟨(h xs pins hp hc).1,fun w0 E B a w hr => awpF_sound hm hT hS c _ _ _ _ hd (h xs pins hp hc).2 hr⟩)
def laterF (S : zai) (T : zab) (pl : Plan) (b : Code) (Q : Exit → ASt → Prop) : Exit → ASt → Prop := seqK (awpF S T pl b Q) Q
section rules
variable {S : zai} {T : zab} {pl : Plan} {Q : Exit → ASt → Prop} {σ : ASt}
theorem awpF_skip : awpF S T pl .skip Q σ = Q .normal σ := rfl
theorem awpF_label {l : Nat} : awpF S T pl (.label l) Q σ = Q .normal σ := rfl
theorem awpF_ret : awpF S T pl .ret Q σ = Q .ret σ := rfl
theorem awpF_exit {id : Nat} : awpF S T pl (.exit id) Q σ = Q (.exit id) σ := rfl
theorem awpF_region {id : Nat} {l : List Oper} {draw : Bool} : awpF S T pl (.region id l.toArray draw) Q σ = match pl id with
   | none => aops S T l σ.nx l σ.sl σ.H (regK (σ.nx + 8 * l.length) Q)
   | some p => zdx S T l p σ.nx [] l σ.sl σ.H (regK (σ.nx + 8 * l.length) Q) := by
 simp [awpF]
theorem awpF_seq {a b : Code} : awpF S T pl (.seq a b) Q σ = awpF S T pl a (laterF S T pl b Q) σ := rfl
theorem awpF_block {id : Nat} {c : Code} : awpF S T pl (.block id c) Q σ = awpF S T pl c (zee id Q) σ := rfl
theorem awpF_cond {c : Operand} {a b : Code} : awpF S T pl (.cond c a b) Q σ = match ev σ.sl c with
     | .w (.bool t) => zfn t (awpF S T pl a Q σ) (awpF S T pl b Q σ)
     | _ => False := rfl
theorem awpF_loopW {c : Code} (h : ALoop (awpF S T pl c) Q σ) : awpF S T pl (.loop c) Q σ := h
theorem zal {b : Code} : laterF S T pl b Q .normal σ = awpF S T pl b Q σ := rfl
theorem laterF_exit {b : Code} {id : Nat} : laterF S T pl b Q (.exit id) σ = Q (.exit id) σ := rfl
theorem laterF_ret {b : Code} : laterF S T pl b Q .ret σ = Q .ret σ := rfl
variable {ops r : List Oper} {o : Oper} {nm : Nat} {sl : List AV} {H : Heap} {Q' : List AV → Heap → Prop} {pp : List (Nat × Nat)} {acc : List (Nat × List Nat)}
theorem aopsF_nil : zdx S T ops pp nm acc [] sl H Q' = (memOk pp acc = true ∧ Q' sl H) := rfl
theorem aopsF_plain {dst : Option Tmp} {op : Op} {type : TypeId} {pos : String} {after : Array Edge} : zdx S T ops pp nm acc (⟨dst,op,type,pos,after,none⟩ :: r) sl H Q' =
   ((aopF S T nm sl op H).p ∧ zdx S T ops pp (nm + 8) (acc ++ [(nm,foot sl op H)]) r (zak sl dst (aopF S T nm sl op H).x) (aopF S T nm sl op H).H Q') := rfl
theorem aopsF_guard {dst : Option Tmp} {op : Op} {type : TypeId} {pos : String} {after : Array Edge} {j : Nat} {want : Bool} : zdx S T ops pp nm acc (⟨dst,op,type,pos,after,some (j,want)⟩ :: r) sl H Q' =
   match guardSlot ops j with
     | none => False
     | some d => match slot sl d with
       | .w (.bool b) =>
         zfm b want ((aopF S T nm (setSlot sl d (.w (.bool want))) op H).p ∧
           zdx S T ops pp (nm + 8) (acc ++ [(nm,foot (setSlot sl d (.w (.bool want))) op H)]) r (zak (setSlot sl d (.w (.bool want))) dst (aopF S T nm (setSlot sl d (.w (.bool want))) op H).x) (aopF S T nm (setSlot sl d (.w (.bool want))) op H).H Q')
         (zdx S T ops pp (nm + 8) (acc ++ [(nm,[])]) r (zak (setSlot sl d (.w (.bool !want))) dst (.tup [])) H Q')
       | .tup [] => zdx S T ops pp (nm + 8) (acc ++ [(nm,[])]) r (zak sl dst (.tup [])) H Q'
       | _ => False := rfl
end rules
end Ax
end Go.Proofs.Ytckbejanaebjkaa
namespace Go.Proofs.Ytckbejanaebjkaa
open Ax
theorem evTP : (type_of% @awpF_skip) ∧
   (type_of% @awpF_label) ∧
   (type_of% @awpF_ret) ∧
   (type_of% @awpF_exit) ∧
   (type_of% @awpF_region) ∧
   (type_of% @awpF_seq) ∧
   (type_of% @awpF_block) ∧
   (type_of% @awpF_cond) ∧
   (type_of% @laterF_exit) ∧
   (type_of% @laterF_ret) ∧
   (type_of% @aopsF_nil) ∧
   (type_of% @aopsF_plain) ∧
   (type_of% @aopsF_guard) :=
 ⟨@awpF_skip,@awpF_label,@awpF_ret,@awpF_exit,@awpF_region,@awpF_seq,@awpF_block,@awpF_cond,@laterF_exit,@laterF_ret,@aopsF_nil,@aopsF_plain,@aopsF_guard⟩
theorem evDP : (type_of% @Ax.aopF.eq_1) ∧
   (type_of% @Ax.foot.eq_1) ∧
   (type_of% @Ax.footA.eq_1) ∧
   (type_of% @Ax.keepIn.eq_1) ∧
   (type_of% @Ax.keepIn.eq_2) ∧
   (type_of% @Ax.dropIn.eq_1) ∧
   (type_of% @Ax.dropIn.eq_2) ∧
   (type_of% @Ax.bids.eq_1) ∧
   (type_of% @Ax.bids.eq_2) ∧
   (type_of% @Ax.heldB.eq_1) ∧
   (type_of% @Ax.memOk.eq_1) ∧
   (type_of% @Ax.clearOf.eq_1) :=
 ⟨@Ax.aopF.eq_1,@Ax.foot.eq_1,@Ax.footA.eq_1,@Ax.keepIn.eq_1,@Ax.keepIn.eq_2,@Ax.dropIn.eq_1,@Ax.dropIn.eq_2,@Ax.bids.eq_1,@Ax.bids.eq_2,@Ax.heldB.eq_1,@Ax.memOk.eq_1,@Ax.clearOf.eq_1⟩
open Ax
attribute [go_sem] evDP evTP Blk.ids Op.operands Call.operands
end Go.Proofs.Ytckbejanaebjkaa
namespace Go.Proofs.Ytckbejanaebjkaa
namespace Ax
open Go.RowKit
def FnsO (P : Program) (S : zai) : Prop := ∀ f s,S f = some s → Entered P f ∧ SoundO P f s
def noO : zai := fun _ => none
theorem noO_ok {P : Program} : FnsO P noO := fun f s h => by cases h
def zfl (SO : zai) (T : zab) (nm : Nat) (sl : List AV) (op : Op) (H : Heap) : Out :=
 match op with
 | .call c => match c.callee with
   | .value f => match ev sl f with
     | .fn f caps => aOpen SO nm f (coes T c.argTypes.toList (evs sl c.args.toList) ++ caps) H
     | _ => bad
   | _ => bad
 | _ => bad
theorem open_sound {P : Program} {w0 : World} {E : Nat → Prop} {w : World} {loc : Loc} {H : Heap} {T : zab} {SO : zai} (hS : FnsO P SO) (he : Env w0 E w loc) (hh : HR w loc H) {nm : Nat} (hfree : ∀ id,nm ≤ id → id < nm + 8 → loc.m id = .free) {sl : List AV} {a : Act} (o : Oper)
   (hev : ∀ x,R w loc (ev sl x) (a.eval x)) (hp : (zfl SO T nm sl o.op H).p) : Sd P w0 E w loc true nm (zfl SO T nm sl o.op H) o a := by
 cases ho : o.op with
 | call c =>
   obtain ⟨callee,args,argTypes⟩ := c
   cases callee with
   | value f =>
     have hfv := hev f
     simp only [zfl,ho] at hp ⊢
     generalize ev sl f = xf at hfv hp ⊢
     split at hp
     · rename_i g caps
       cases hv : a.eval f with
       | func fn first captured =>
         rw [hv] at hfv
         cases hfv with
         | fn _ _ cs hlc hc =>
           obtain ⟨e1,e2⟩ := evs_R (w := w) (loc := loc) (sl := sl) (a := a) args.toList (fun x _ => hev x)
           obtain ⟨c1,c2⟩ := coes_R (T := T) (w := w) (loc := loc) argTypes.toList (evs sl args.toList)
           have c2 := c2 (args.toList.map a.eval) e2
           have c3 : ∀ (j : Nat) (h : j < (coes T argTypes.toList (evs sl args.toList) ++ caps).length) (h' : j < (args.toList.map a.eval ++ cs).length),R w loc (coes T argTypes.toList (evs sl args.toList) ++ caps)[j] (args.toList.map a.eval ++ cs)[j] := by
             intro j h h'
             have hl : (coes T argTypes.toList (evs sl args.toList)).length = (args.toList.map a.eval).length := by rw [c1,e1]; simp
             by_cases hj : j < (coes T argTypes.toList (evs sl args.toList)).length
             · rw [List.getElem_append_left hj,List.getElem_append_left (by omega)]
               exact c2 j hj (by omega)
             · rw [List.getElem_append_right (by omega),List.getElem_append_right (by omega)]
               have := hc (j - (coes T argTypes.toList (evs sl args.toList)).length) (by rw [List.length_append] at h; omega) (by rw [List.length_append] at h'; omega)
               simpa only [hl] using this
           cases hsg : SO g with
           | none => simp [aOpen,hsg,bad] at hp
           | some sp =>
             obtain ⟨⟨fn,hfn,hbody,hname⟩,hsound⟩ := hS g sp hsg
             have hcall := call_postO (P := P) he hh hfree (SO := SO) (fun f s h => (hS f s h).2) (f := g) (by rw [List.length_append,List.length_append,c1,e1,hlc]; simp) c3 hp
             have hrun : (execOp a.eval o).run P w = .ok (.enter g (args.toList.map a.eval ++ cs).toArray) w := by
               have h1 : fn.name ≠ "runtime.NumGoroutine" := by simpa using hname
               have hb' : fn.body ≠ none := by intro e; rw [e] at hbody; simp at hbody
               have h9 : Array.map a.eval args = (args.toList.map a.eval).toArray := by rw [← Array.toList_inj]; simp
               simp [execOp,ho,resolve,hv,Deferred.ofValue,invoke,callFunc,hfn,h1,hb',h9]
             intro next Q hn
             unfold Oper.wp
             rw [hrun]
             refine hcall.mono ?_
             rintro e w' ⟨v,loc',rfl,h1⟩
             exact hn v w' loc' h1
       | _ => rw [hv] at hfv; cases hfv
     · exact hp.elim
   | _ => simp [zfl,ho,bad] at hp
 | _ => simp [zfl,ho,bad] at hp
theorem walk_look {H : Heap} : ∀ (ids good : List Nat),walk H good ids = true → ∀ id ∈ ids,look H id ≠ none
 | [],_,_,id,hid => by simp at hid
 | k :: r,good,hw,id,hid => by
   simp only [walk,Bool.and_eq_true] at hw
   cases hl : look H k with
   | none => simp [hl] at hw
   | some blk =>
     simp only [hl] at hw
     rcases List.mem_cons.1 hid with rfl | hid
     · rw [hl]; simp
     · exact walk_look r _ hw.2 id hid
theorem hnew_open {SO : zai} {T : zab} {sl : List AV} {op : Op} {nm : Nat} {H : Heap} : Hnew nm H (zfl SO T nm sl op H) := by
 unfold zfl
 split
 · split
   · split
     · unfold aOpen
       split
       · rename_i f _ spec hs
         intro hp id b hl
         simp only [openOut] at hp hl
         generalize reach H 12 [] (idsL _) = ids at *
         obtain ⟨⟨hnd,hwalk,hain,hpin⟩,hsp,hb1,hb2⟩ := hp
         rcases look_backO _ _ _ hl with ⟨j,hj,h1,h2⟩ | ⟨h1,h2⟩
         · rw [Nat.zero_add] at h1
           by_cases hjl : j < ids.length
           · rw [zcw hjl] at h1
             left
             rw [← h1]
             exact walk_look ids _ hwalk _ (List.getElem_mem hjl)
           · rw [zcl (by omega)] at h1
             right; omega
         · exact .inl (by rw [h1]; simp)
       · exact hok_bad.new
     · exact hok_bad.new
   · exact hok_bad.new
 · exact hok_bad.new
def aopsO (S SO : zai) (T : zab) (ops : List Oper) : Nat → Nat → List Oper → List AV → Heap → (List AV → Heap → Prop) → Prop
 | _,_,[],sl,H,Q => Q sl H
 | 0,nm,o :: r,sl,H,Q => o.guard = none ∧ (zfl SO T nm sl o.op H).p ∧ aops S T ops (nm + 8) r (zak sl o.dst (zfl SO T nm sl o.op H).x) (zfl SO T nm sl o.op H).H Q
 | k + 1,nm,o :: r,sl,H,Q => o.guard = none ∧ (aop S T nm sl o.op H).p ∧ aopsO S SO T ops k (nm + 8) r (zak sl o.dst (aop S T nm sl o.op H).x) (aop S T nm sl o.op H).H Q
theorem aopsO_sound {P : Program} {w0 : World} {E : Nat → Prop} {T : zab} {S SO : zai} (hT : TOk P T) (hS : Fns P S) (hSO : FnsO P SO) {ops : Array Oper} {K : Exit → Act → World → Prop} {Q : List AV → Heap → Prop} {B : Bs} {nz : Nat}
   (hK : ∀ sl H a w loc,Base w0 B w loc → Rel' w0 E loc ⟨sl,H,nz⟩ a w → Q sl H → K .normal a w) : ∀ (k : Nat) (r : List Oper) (nm : Nat) (sl : List AV) (H : Heap) (a : Act) (w : World) (loc : Loc),nz = nm + 8 * r.length → Base w0 B w loc →
   Rel' w0 E loc ⟨sl,H,nm⟩ a w → aopsO S SO T ops.toList k nm r sl H Q → wpList P ops K r a w
 | k,[],nm,sl,H,a,w,loc,hz,hb,hr,h => by
   simp only [List.length_nil,Nat.mul_zero,Nat.add_zero] at hz
   subst hz
   exact wpList_nil (hK sl H a w loc hb hr (by cases k <;> exact h))
 | 0,o :: r,nm,sl,H,a,w,loc,hz,hb,hr,h => by
   have hz' : nz = nm + 8 + 8 * r.length := by simp at hz; omega
   obtain ⟨hg,hp,hrest⟩ := h
   refine wpList_step fun Kn hKn => ?_
   rw [if_pos (by simp [Region.wanted,hg])]
   have hop := open_sound (T := T) hSO hr.env hr.heap (fun id h1 _ => hr.fresh id h1) o (fun x => ev_R hr.slots x) hp
   exact hop Kn K (fun v w' loc' hpost => hKn _ _ (zcm (ops := ops) hT hS hK r (nm + 8) _ _ _ w' loc' hz' (hb.post hpost) (zea hr hpost (hnew_open hp) o.dst) hrest))
 | k + 1,o :: r,nm,sl,H,a,w,loc,hz,hb,hr,h => by
   have hz' : nz = nm + 8 + 8 * r.length := by simp at hz; omega
   obtain ⟨hg,hp,hrest⟩ := h
   refine wpList_step fun Kn hKn => ?_
   rw [if_pos (by simp [Region.wanted,hg])]
   have hop := zdw hT hS hr.env hr.heap (fun id h1 _ => hr.fresh id h1) o (fun x _ => ev_R hr.slots x) hp
   exact hop Kn K (fun v w' loc' hpost => hKn _ _ (aopsO_sound hT hS hSO hK k r (nm + 8) _ _ _ w' loc' hz' (hb.post hpost) (zea hr hpost (zfe hp) o.dst) hrest))
def specOp (T : zab) (sl : List AV) (op : Op) (K : AV → Prop) : Prop :=
 match op with
 | .binOp .eql t x (.const (.slice none 0 0)) _ => match T t with
   | some ti => match ti.d with
     | .slice _ => match ev sl x with
       | .sg s xs _ => 0 < s ∧ ∀ b,(b = true → xs.length = 0) → K (.w (.bool b))
       | .sb xs _ => ∀ b,(b = true → xs.length = 0) → K (.w (.bool b))
       | .si xs _ => ∀ b,(b = true → xs.length = 0) → K (.w (.bool b))
       | _ => False
     | _ => False
   | none => False
 | .buildSlice t 0 ps => match T t with
   | some ti => match ti.d with
     | .slice e => match T e with
       | some te => ps = #[] ∧ 0 < te.size ∧ K (.sg te.size [] true)
       | none => False
     | _ => False
   | none => False
 | .call c => match c.callee with
   | .builtin .append => match c.args.toList,c.argTypes.toList with
     | [x,y],[t,u] => match T t,T u with
       | some ti,some tu => match ti.d,tu.d with
         | .slice e,.slice _ => match T e with
           | some te => match ev sl x,ev sl y with
             | .sg s [] true,.sg _ [] _ => 0 < te.size ∧ K (.sg s [] true)
             | .sg s [] true,.sb [] _ => 0 < te.size ∧ K (.sg s [] true)
             | .sg s [] true,.si [] _ => 0 < te.size ∧ K (.sg s [] true)
             | _,_ => False
           | none => False
         | _,_ => False
       | _,_ => False
     | _,_ => False
   | _ => False
 | _ => False
theorem append_none {P : Program} {t u ty e e' : TypeId} {te : TyI} (hd : P.underlying t = some (.slice e)) (hu : P.underlying u = some (.slice e')) (hty : TyR P e te) (a a' : Option Addr) (c : Nat) (w : World) :
   (Builtin.append_ #[t,u] ty #[.slice a 0 0,.slice a' 0 c]).run P w = .ok (.slice a 0 0) w := by
 have hsz := fun W => zaq (P := P) hty W
 have hlc : ∀ (b : Addr) W,(loadCells b 0).run P W = .ok #[] W := fun b W => by simp [loadCells,loadCellsFrom]
 have hst : ∀ (b : Addr) W,(storeCells b []).run P W = .ok () W := fun b W => by simp [storeCells]
 unfold Builtin.append_
 cases a <;> cases a' <;> simp [run_underlying hd,run_underlying hu,hsz,Builtin.lenOf,Builtin.firstCells,hlc,hst]
theorem specOp_sound {P : Program} {w0 : World} {E : Nat → Prop} {T : zab} (hT : TOk P T) {w : World} {loc : Loc} {H : Heap} (he : Env w0 E w loc) (hh : HR w loc H) {nm : Nat} {sl : List AV} {a : Act} {op : Op} {K : AV → Prop} (hev : ∀ x,R w loc (ev sl x) (a.eval x)) (h : specOp T sl op K) :
   ∃ x v w',K x ∧ Post w0 E w loc true nm x H v w' loc ∧ ∀ o : Oper,o.op = op → (execOp a.eval o).run P w = .ok (.value v) w' := by
 unfold specOp at h
 split at h
 · rename_i t x yt
   cases ht : T t with
   | none => simp [ht] at h
   | some ti =>
     simp only [ht] at h
     split at h
     · rename_i e hd
       have hu : ∃ e,P.underlying t = some (.slice e) := by
         have := (hT t ti ht).d
         rw [hd] at this
         exact ⟨_,this⟩
       obtain ⟨e,hu⟩ := hu
       have hx := hev x
       generalize ev sl x = xv at hx h
       split at h
       · rename_i s xs f
         obtain ⟨hs,h⟩ := h
         generalize hv : a.eval x = v at hx
         cases hx with
         | sg _ _ _ ad cap cs hd hs' hc hl hx' _ =>
           refine ⟨_,.bool ad.isNone,w,h ad.isNone fun hn => ?_,Post.pure (.w _ rfl) hh he,fun o ho => ?_⟩
           · cases xs with
             | nil => rfl
             | cons y ys =>
               exfalso
               obtain rfl : ad = none := by simpa using hn
               rcases hc.lies with rfl | ⟨b,o,he,_⟩
               · have := hs' y (by simp)
                 rw [List.flatMap_cons,List.length_append,List.length_nil] at hl
                 omega
               · cases he
           · have heq : ∀ d,(Op.equalIn (d + 1) t (.slice ad xs.length cap) (.slice none 0 0)).run P w = .ok ad.isNone w := fun d => by cases ad <;> simp [Op.equalIn,run_underlying hu]
             have heq := heq 9999
             have h2 : (Op.equal t (.slice ad xs.length cap) (.slice none 0 0)).run P w = .ok ad.isNone w := heq
             simp only [execOp,ho,hv]
             simp [zbx (u := .slice ad xs.length cap) rfl (by simp),binOp,h2,Act.eval]
       · rename_i xs f
         generalize hv : a.eval x = v at hx
         cases hx with
         | sb _ _ ad cap hd hc =>
           refine ⟨_,.bool ad.isNone,w,h ad.isNone fun hn => ?_,Post.pure (.w _ rfl) hh he,fun o ho => ?_⟩
           · cases xs with
             | nil => rfl
             | cons y ys =>
               exfalso
               obtain rfl : ad = none := by simpa using hn
               rcases hc.lies with hcs | ⟨b,o,he,_⟩
               · simp at hcs
               · cases he
           · have heq : ∀ d,(Op.equalIn (d + 1) t (.slice ad xs.length cap) (.slice none 0 0)).run P w = .ok ad.isNone w := fun d => by cases ad <;> simp [Op.equalIn,run_underlying hu]
             have heq := heq 9999
             have h2 : (Op.equal t (.slice ad xs.length cap) (.slice none 0 0)).run P w = .ok ad.isNone w := heq
             simp only [execOp,ho,hv]
             simp [zbx (u := .slice ad xs.length cap) rfl (by simp),binOp,h2,Act.eval]
       · rename_i xs f
         generalize hv : a.eval x = v at hx
         cases hx with
         | si _ _ ad cap hd hc =>
           refine ⟨_,.bool ad.isNone,w,h ad.isNone fun hn => ?_,Post.pure (.w _ rfl) hh he,fun o ho => ?_⟩
           · cases xs with
             | nil => rfl
             | cons y ys =>
               exfalso
               obtain rfl : ad = none := by simpa using hn
               rcases hc.lies with hcs | ⟨b,o,he,_⟩
               · simp at hcs
               · cases he
           · have heq : ∀ d,(Op.equalIn (d + 1) t (.slice ad xs.length cap) (.slice none 0 0)).run P w = .ok ad.isNone w := fun d => by cases ad <;> simp [Op.equalIn,run_underlying hu]
             have heq := heq 9999
             have h2 : (Op.equal t (.slice ad xs.length cap) (.slice none 0 0)).run P w = .ok ad.isNone w := heq
             simp only [execOp,ho,hv]
             simp [zbx (u := .slice ad xs.length cap) rfl (by simp),binOp,h2,Act.eval]
       · exact h.elim
     · exact h.elim
 · rename_i t ps
   cases ht : T t with
   | none => simp [ht] at h
   | some ti =>
     simp only [ht] at h
     split at h
     · rename_i e hd
       have hu : P.underlying t = some (.slice e) := by
         have := (hT t ti ht).d
         rw [hd] at this
         exact this
       cases hte : T e with
       | none => simp [hte] at h
       | some te =>
         simp only [hte] at h
         obtain ⟨rfl,hs,hK⟩ := h
         have hty := hT _ te hte
         obtain ⟨z,z1,z2,z3⟩ := zax hty w
         have hrun := zcc (P := P) (t := t) (n := 0) (pv := #[]) (cs := #[]) hu hty z1 hs (by omega) (by simp [Instr.fill])
         refine ⟨_,.slice (some ⟨w.heap.size,0,none⟩) 0 0,{ w with heap := w.heap.push (.cells #[] e) },hK,post_anon (o := .cells #[] e) he hh ⟨rfl,rfl,rfl,rfl⟩ (fun _ => .sg _ [] true _ 0 [] ⟨Nat.le_refl _,Nat.zero_le _,fun _ => rfl⟩ (by simp) ⟨.inl rfl⟩ rfl (by simp) (by simp)),fun o ho => ?_⟩
         simp [execOp,ho,hrun]
     · exact h.elim
 · rename_i c
   obtain ⟨callee,args,argTypes⟩ := c
   simp only at h
   split at h
   · split at h
     · rename_i d x t u ha hb
       cases ht : T t with
       | none => simp [ht] at h
       | some ti =>
         cases htu : T u with
         | none => simp [ht,htu] at h
         | some tu =>
           simp only [ht,htu] at h
           have hd := (hT t ti ht).d
           have hud := (hT u tu htu).d
           split at h
           · rename_i e e' hdd hdu
             rw [hdd] at hd
             rw [hdu] at hud
             have hd : P.underlying t = some (.slice e) := hd
             have hud : P.underlying u = some (.slice e') := hud
             cases hte : T e with
             | none => simp [hte] at h
             | some te =>
               simp only [hte] at h
               have hty := hT _ te hte
               have hdv := hev d
               have hxv := hev x
               generalize ev sl d = dv at hdv h
               generalize ev sl x = xv at hxv h
               split at h
               · rename_i s s' f'
                 obtain ⟨hs,hK⟩ := h
                 obtain rfl : args = #[d,x] := by rw [← Array.toList_inj]; exact ha
                 obtain rfl : argTypes = #[t,u] := by rw [← Array.toList_inj]; exact hb
                 generalize hv1 : a.eval d = v1 at hdv
                 generalize hv2 : a.eval x = v2 at hxv
                 cases hdv with
                 | sg _ _ _ ad cap cs hdm hs' hc hl hx' hh' =>
                   obtain rfl : cap = 0 := hdm.full rfl
                   cases hxv with
                   | sg _ _ _ ad2 cap2 cs2 hdm2 hs2 hc2 hl2 hx2 hh2 =>
                     refine ⟨_,.slice ad 0 0,w,hK,Post.pure (.sg _ [] true ad 0 cs hdm hs' hc hl hx' hh') hh he,fun o ho => ?_⟩
                     have h1 := append_none (P := P) (ty := o.type) hd hud hty ad ad2 cap2 w
                     simp only [execOp,ho,resolve,invoke,builtin,Sem.run_bind,Sem.run_pure,Result.andThen_ok]
                     simp [hv1,hv2,h1]
               · rename_i s f'
                 obtain ⟨hs,hK⟩ := h
                 obtain rfl : args = #[d,x] := by rw [← Array.toList_inj]; exact ha
                 obtain rfl : argTypes = #[t,u] := by rw [← Array.toList_inj]; exact hb
                 generalize hv1 : a.eval d = v1 at hdv
                 generalize hv2 : a.eval x = v2 at hxv
                 cases hdv with
                 | sg _ _ _ ad cap cs hdm hs' hc hl hx' hh' =>
                   obtain rfl : cap = 0 := hdm.full rfl
                   cases hxv with
                   | sb _ _ ad2 cap2 hdm2 hc2 =>
                     refine ⟨_,.slice ad 0 0,w,hK,Post.pure (.sg _ [] true ad 0 cs hdm hs' hc hl hx' hh') hh he,fun o ho => ?_⟩
                     have h1 := append_none (P := P) (ty := o.type) hd hud hty ad ad2 cap2 w
                     simp only [execOp,ho,resolve,invoke,builtin,Sem.run_bind,Sem.run_pure,Result.andThen_ok]
                     simp [hv1,hv2,h1]
               · rename_i s f'
                 obtain ⟨hs,hK⟩ := h
                 obtain rfl : args = #[d,x] := by rw [← Array.toList_inj]; exact ha
                 obtain rfl : argTypes = #[t,u] := by rw [← Array.toList_inj]; exact hb
                 generalize hv1 : a.eval d = v1 at hdv
                 generalize hv2 : a.eval x = v2 at hxv
                 cases hdv with
                 | sg _ _ _ ad cap cs hdm hs' hc hl hx' hh' =>
                   obtain rfl : cap = 0 := hdm.full rfl
                   cases hxv with
                   | si _ _ ad2 cap2 hdm2 hc2 =>
                     refine ⟨_,.slice ad 0 0,w,hK,Post.pure (.sg _ [] true ad 0 cs hdm hs' hc hl hx' hh') hh he,fun o ho => ?_⟩
                     have h1 := append_none (P := P) (ty := o.type) hd hud hty ad ad2 cap2 w
                     simp only [execOp,ho,resolve,invoke,builtin,Sem.run_bind,Sem.run_pure,Result.andThen_ok]
                     simp [hv1,hv2,h1]
               · exact h.elim
           · exact h.elim
     · exact h.elim
   · exact h.elim
 · exact h.elim
def zfk (S : zai) (T : zab) (ops : List Oper) : List Bool → Nat → List Oper → List AV → Heap → (List AV → Heap → Prop) → Prop
 | _,_,[],sl,H,Q => Q sl H
 | [],nm,r,sl,H,Q => aops S T ops nm r sl H Q
 | true :: l,nm,o :: r,sl,H,Q => o.guard = none ∧ specOp T sl o.op (fun x => zfk S T ops l (nm + 8) r (zak sl o.dst x) H Q)
 | false :: l,nm,o :: r,sl,H,Q => o.guard = none ∧ (aop S T nm sl o.op H).p ∧ zfk S T ops l (nm + 8) r (zak sl o.dst (aop S T nm sl o.op H).x) (aop S T nm sl o.op H).H Q
theorem aopsT_sound {P : Program} {w0 : World} {E : Nat → Prop} {T : zab} {S : zai} (hT : TOk P T) (hS : Fns P S) {ops : Array Oper} {K : Exit → Act → World → Prop} {Q : List AV → Heap → Prop} {B : Bs} {nz : Nat}
   (hK : ∀ sl H a w loc,Base w0 B w loc → Rel' w0 E loc ⟨sl,H,nz⟩ a w → Q sl H → K .normal a w) : ∀ (k : List Bool) (r : List Oper) (nm : Nat) (sl : List AV) (H : Heap) (a : Act) (w : World) (loc : Loc),nz = nm + 8 * r.length → Base w0 B w loc →
   Rel' w0 E loc ⟨sl,H,nm⟩ a w → zfk S T ops.toList k nm r sl H Q → wpList P ops K r a w
 | k,[],nm,sl,H,a,w,loc,hz,hb,hr,h => by
   simp only [List.length_nil,Nat.mul_zero,Nat.add_zero] at hz
   subst hz
   exact wpList_nil (hK sl H a w loc hb hr (by cases k with | nil => exact h | cons b _ => cases b <;> exact h))
 | [],o :: r,nm,sl,H,a,w,loc,hz,hb,hr,h => zcm (ops := ops) hT hS hK (o :: r) nm sl H a w loc hz hb hr h
 | true :: l,o :: r,nm,sl,H,a,w,loc,hz,hb,hr,h => by
   have hz' : nz = nm + 8 + 8 * r.length := by simp at hz; omega
   obtain ⟨hg,hp⟩ := h
   refine wpList_step fun Kn hKn => ?_
   rw [if_pos (by simp [Region.wanted,hg])]
   obtain ⟨x,v,w',hrest,hpost,hrun⟩ := specOp_sound (P := P) (nm := nm) hT hr.env hr.heap (fun x => ev_R hr.slots x) hp
   exact (zam (w' := w') (loc' := loc) (out := ⟨True,x,H⟩) (hrun o rfl) hpost) Kn K (fun v w' loc' hpost => hKn _ _ (aopsT_sound hT hS hK l r (nm + 8) _ _ _ w' loc' hz' (hb.post hpost) (zea hr hpost (fun id b hl => Or.inl (by show look H id ≠ none; intro e; rw [show look H id = some b from hl] at e; cases e)) o.dst) hrest))
 | false :: l,o :: r,nm,sl,H,a,w,loc,hz,hb,hr,h => by
   have hz' : nz = nm + 8 + 8 * r.length := by simp at hz; omega
   obtain ⟨hg,hp,hrest⟩ := h
   refine wpList_step fun Kn hKn => ?_
   rw [if_pos (by simp [Region.wanted,hg])]
   have hop := zdw hT hS hr.env hr.heap (fun id h1 _ => hr.fresh id h1) o (fun x _ => ev_R hr.slots x) hp
   exact hop Kn K (fun v w' loc' hpost => hKn _ _ (aopsT_sound hT hS hK l r (nm + 8) _ _ _ w' loc' hz' (hb.post hpost) (zea hr hpost (zfe hp) o.dst) hrest))
inductive RP where
 | std
 | frz (fs : List Nat)
 | opn (fs : List Nat) (k : Nat)
 | prs (l : List (Nat × Nat))
 | tst (k : List Bool)
abbrev XPlan := Nat → RP
def zbo (T : zab) (pl : XPlan) : Code → Bool
 | .region id ops draw => match pl id with
   | .std => !draw || drawOk T ops.toList
   | .frz _ => !draw || drawOk T ops.toList
   | .opn _ _ => !draw
   | .tst _ => !draw
   | .prs p => draw && drawOkF T ops.toList p
 | .seq a b => zbo T pl a && zbo T pl b
 | .cond _ a b => zbo T pl a && zbo T pl b
 | .block _ c => zbo T pl c
 | .loop c => zbo T pl c
 | _ => true
def awpO (S SO : zai) (T : zab) (pl : XPlan) : Code → (Exit → ASt → Prop) → ASt → Prop
 | .skip,Q,σ => Q .normal σ
 | .label _,Q,σ => Q .normal σ
 | .region id ops _,Q,σ => match pl id with
   | .std => aops S T ops.toList σ.nx ops.toList σ.sl σ.H (regK (σ.nx + 8 * ops.toList.length) Q)
   | .prs p => zdx S T ops.toList p σ.nx [] ops.toList σ.sl σ.H (regK (σ.nx + 8 * ops.toList.length) Q)
   | .frz fs => frzK fs σ.sl σ.H (fun sl H => aops S T ops.toList σ.nx ops.toList sl H (regK (σ.nx + 8 * ops.toList.length) Q))
   | .opn fs k => frzK fs σ.sl σ.H (fun sl H => aopsO S SO T ops.toList k σ.nx ops.toList sl H (regK (σ.nx + 8 * ops.toList.length) Q))
   | .tst k => zfk S T ops.toList k σ.nx ops.toList σ.sl σ.H (regK (σ.nx + 8 * ops.toList.length) Q)
 | .seq a b,Q,σ => awpO S SO T pl a (seqK (awpO S SO T pl b Q) Q) σ
 | .cond c a b,Q,σ => match ev σ.sl c with
     | .w (.bool t) => zfn t (awpO S SO T pl a Q σ) (awpO S SO T pl b Q σ)
     | _ => False
 | .block id c,Q,σ => awpO S SO T pl c (zee id Q) σ
 | .loop c,Q,σ => ALoop (awpO S SO T pl c) Q σ
 | .exit id,Q,σ => Q (.exit id) σ
 | .ret,Q,σ => Q .ret σ
 | _,_,_ => False
open Classical in
theorem awpO_sound {P : Program} {w0 : World} {E : Nat → Prop} {T : zab} {S SO : zai} {pl : XPlan} (hm : P.follows .mixedOrders = true) (hT : TOk P T) (hS : Fns P S) (hSO : FnsO P SO) {B : Bs} : ∀ (c : Code) (Q : Exit → ASt → Prop) (σ : ASt) (a : Act) (w : World),
   zbo T pl c = true → awpO S SO T pl c Q σ → Rel w0 E B σ a w → c.wp P (Low w0 E B Q) a w := by
 intro c
 induction c with
 | skip => intro Q σ a w hdr h hr; exact wp_skip ⟨σ,hr,h⟩
 | label l => intro Q σ a w hdr h hr; exact wp_label ⟨σ,hr,h⟩
 | ret => intro Q σ a w hdr h hr; exact wp_ret ⟨σ,hr,h⟩
 | exit id => intro Q σ a w hdr h hr; exact wp_exit ⟨σ,hr,h⟩
 | region id ops draw =>
   intro Q σ a w hdr h hr
   obtain ⟨loc,hb,hr⟩ := hr
   obtain ⟨sl,H,nx⟩ := σ
   have hK : ∀ sl H a w loc,Base w0 B w loc → Rel' w0 E loc ⟨sl,H,nx + 8 * ops.toList.length⟩ a w → regK (nx + 8 * ops.toList.length) Q sl H → Low w0 E B Q .normal a w := fun sl H a w loc h1 h2 h3 => ⟨_,⟨loc,h1,h2⟩,h3⟩
   simp only [zbo] at hdr
   simp only [awpO] at h
   cases hp : pl id with
   | std =>
     simp only [hp] at hdr h
     cases draw with
     | false => exact wp_region_list (zcm hT hS hK ops.toList nx sl H a w loc rfl hb hr h)
     | true => exact draw_sound hT hS hm w0 E ops.toList _ _ B nx sl H a w loc id (by simpa using hdr) hK hb hr h
   | prs p =>
     simp only [hp] at hdr h
     simp only [Bool.and_eq_true] at hdr
     obtain ⟨hd1,hd2⟩ := hdr
     subst hd1
     exact drawF_sound hT hS hm hd2 hK hb hr h
   | frz fs =>
     simp only [hp] at hdr h
     obtain ⟨sl',H',hw,h⟩ := frzK_sound (nx := nx) _ _ _ _ h
     obtain ⟨loc',hb',hr'⟩ := hw _ _ _ _ _ ⟨loc,hb,hr⟩
     cases draw with
     | false => exact wp_region_list (zcm hT hS hK ops.toList nx sl' H' a w loc' rfl hb' hr' h)
     | true => exact draw_sound hT hS hm w0 E ops.toList _ _ B nx sl' H' a w loc' id (by simpa using hdr) hK hb' hr' h
   | opn fs k =>
     simp only [hp] at hdr h
     obtain ⟨sl',H',hw,h⟩ := frzK_sound (nx := nx) _ _ _ _ h
     obtain ⟨loc',hb',hr'⟩ := hw _ _ _ _ _ ⟨loc,hb,hr⟩
     cases draw with
     | false => exact wp_region_list (aopsO_sound hT hS hSO hK k ops.toList nx sl' H' a w loc' rfl hb' hr' h)
     | true => simp at hdr
   | tst k =>
     simp only [hp] at hdr h
     cases draw with
     | false => exact wp_region_list (aopsT_sound hT hS hK k ops.toList nx sl H a w loc rfl hb hr h)
     | true => simp at hdr
 | seq x y ihx ihy =>
   intro Q σ a w hdr h hr
   refine wp_seq (wp_mono (ihx _ σ a w (by simp only [zbo,Bool.and_eq_true] at hdr; exact hdr.1) h hr) ?_)
   rintro e a' w' ⟨σ',hr',hq⟩
   cases e with
   | normal => exact ihy Q σ' a' w' (by simp only [zbo,Bool.and_eq_true] at hdr; exact hdr.2) hq hr'
   | _ => exact ⟨σ',hr',hq⟩
 | cond c x y ihx ihy =>
   intro Q σ a w hdr h hr
   simp only [awpO,zfn] at h
   simp only [zbo,Bool.and_eq_true] at hdr
   obtain ⟨loc,hb,hr⟩ := hr
   split at h
   · rename_i t hc
     have hv := ev_R hr.slots c
     rw [hc] at hv
     have hv := hv.wv
     cases t with
     | true => exact wp_cond_true hv (ihx Q σ a w hdr.1 (h.1 rfl) ⟨loc,hb,hr⟩)
     | false => exact wp_cond_false hv (ihy Q σ a w hdr.2 (h.2 rfl) ⟨loc,hb,hr⟩)
   · exact h.elim
 | block id c ih =>
   intro Q σ a w hdr h hr
   refine wp_block (wp_mono (ih _ σ a w hdr h hr) ?_)
   rintro e a' w' ⟨σ',hr',hq⟩
   cases e with
   | exit id' =>
     simp only [zee,Exit.inBlock] at hq ⊢
     split at hq
     · rename_i he; rw [if_pos he]; exact ⟨σ',hr',hq⟩
     · rename_i he; rw [if_neg he]; exact ⟨σ',hr',hq⟩
   | _ => exact ⟨σ',hr',hq⟩
 | loop c ih =>
   intro Q σ a w hdr h hr
   obtain ⟨I,⟨n0,σ0,hw0,hI0⟩,hround⟩ := h
   let p : Act → World → Nat → Prop := fun a w n => ∃ σ,Rel w0 E B σ a w ∧ I n σ
   have hleast : ∀ a w,(∃ n,p a w n) → ∃ m,p a w m ∧ ∀ k,p a w k → m ≤ k := fun a w ⟨n,hn⟩ => let ⟨m,h1,_,h3⟩ := least n hn; ⟨m,h1,h3⟩
   let μ : Act → World → Nat := fun a w => if h : ∃ n,p a w n then Classical.choose (hleast a w h) else 0
   refine wp_loop (fun a w => ∃ n,p a w n) μ ⟨n0,σ0,hw0 w0 E B a w hr,hI0⟩ ?_
   intro a w hex
   have hμ : μ a w = Classical.choose (hleast a w hex) := dif_pos hex
   obtain ⟨⟨σ1,hr1,hI1⟩,hmin⟩ := Classical.choose_spec (hleast a w hex)
   rw [← hμ] at hI1
   refine wp_mono (ih _ σ1 a w hdr (hround _ σ1 hI1) hr1) ?_
   rintro e a' w' ⟨σ',hr',hq⟩
   cases e with
   | normal =>
     obtain ⟨m,σ2,hlt,hw2,hI2⟩ := hq
     have hp : p a' w' m := ⟨σ2,hw2 w0 E B a' w' hr',hI2⟩
     refine ⟨⟨m,hp⟩,?_⟩
     have hμ' : μ a' w' = Classical.choose (hleast a' w' ⟨m,hp⟩) := dif_pos ⟨m,hp⟩
     have := (Classical.choose_spec (hleast a' w' ⟨m,hp⟩)).2 m hp
     rw [← hμ'] at this
     exact Nat.lt_of_le_of_lt this hlt
   | _ =>
     obtain ⟨σ2,hw2,hq⟩ := hq
     exact ⟨σ2,hw2 w0 E B a' w' hr',hq⟩
 | _ => intro Q σ a w hdr h hr; exact h.elim
theorem fn_soundO {P : Program} {T : zab} {S SO : zai} (hm : P.follows .mixedOrders = true) (hT : TOk P T) (hS : Fns P S) (hSO : FnsO P SO) {f : FuncId} {fn : Func} {c : Code} (hf : P.funcs[f]? = some fn) (hb : fn.body = some c) {spec : zay}
   (h : ∀ xs pins,(spec xs pins).p → pins.length ≤ 4 ∧ ∃ pl,zbo T pl c = true ∧ awpO S SO T pl c (EndsWO T fn.results.toList pins (spec xs pins)) ⟨xs ++ List.replicate (fn.ntmps - xs.length) .junk,pinHeap 0 pins,4⟩) : SoundO P f spec :=
 sound_genO hT hf hb (Qp := fun xs pins => EndsWO T fn.results.toList pins (spec xs pins)) (fun _ _ _ _ h => h) (fun xs pins hp => ⟨(h xs pins hp).1,fun w0 E B a w hr => (h xs pins hp).2.elim fun pl hh => awpO_sound hm hT hS hSO c _ _ _ _ hh.1 hh.2 hr⟩)
theorem fn_soundOK {P : Program} {T : zab} {S SO : zai} (hm : P.follows .mixedOrders = true) (hT : TOk P T) (hS : Fns P S) (hSO : FnsO P SO) {f : FuncId} {fn : Func} {c : Code} (hf : P.funcs[f]? = some fn) (hb : fn.body = some c) {spec : zay}
   (h : ∀ xs pins,(spec xs pins).p → closedB pins = true → pins.length ≤ 4 ∧ ∃ pl,zbo T pl c = true ∧ awpO S SO T pl c (EndsW T fn.results.toList pins (spec xs pins)) ⟨xs ++ List.replicate (fn.ntmps - xs.length) .junk,pinHeap 0 pins,4⟩) : zcn P f spec :=
 sound_genK (S := S) hT hS hf hb (Qp := fun xs pins => EndsW T fn.results.toList pins (spec xs pins)) (fun _ _ _ _ h => h) (fun xs pins hp hc => ⟨(h xs pins hp hc).1,fun w0 E B a w hr => (h xs pins hp hc).2.elim fun pl hh => awpO_sound hm hT hS hSO c _ _ _ _ hh.1 hh.2 hr⟩)
def laterO (S SO : zai) (T : zab) (pl : XPlan) (b : Code) (Q : Exit → ASt → Prop) : Exit → ASt → Prop := seqK (awpO S SO T pl b Q) Q
section rules
variable {S SO : zai} {T : zab} {pl : XPlan} {Q : Exit → ASt → Prop} {σ : ASt}
theorem awpO_skip : awpO S SO T pl .skip Q σ = Q .normal σ := rfl
theorem awpO_label {l : Nat} : awpO S SO T pl (.label l) Q σ = Q .normal σ := rfl
theorem awpO_ret : awpO S SO T pl .ret Q σ = Q .ret σ := rfl
theorem awpO_exit {id : Nat} : awpO S SO T pl (.exit id) Q σ = Q (.exit id) σ := rfl
theorem awpO_region {id : Nat} {l : List Oper} {draw : Bool} : awpO S SO T pl (.region id l.toArray draw) Q σ = match pl id with
   | .std => aops S T l σ.nx l σ.sl σ.H (regK (σ.nx + 8 * l.length) Q)
   | .prs p => zdx S T l p σ.nx [] l σ.sl σ.H (regK (σ.nx + 8 * l.length) Q)
   | .frz fs => frzK fs σ.sl σ.H (fun sl H => aops S T l σ.nx l sl H (regK (σ.nx + 8 * l.length) Q))
   | .opn fs k => frzK fs σ.sl σ.H (fun sl H => aopsO S SO T l k σ.nx l sl H (regK (σ.nx + 8 * l.length) Q))
   | .tst k => zfk S T l k σ.nx l σ.sl σ.H (regK (σ.nx + 8 * l.length) Q) := by
 simp [awpO]
theorem awpO_seq {a b : Code} : awpO S SO T pl (.seq a b) Q σ = awpO S SO T pl a (laterO S SO T pl b Q) σ := rfl
theorem awpO_block {id : Nat} {c : Code} : awpO S SO T pl (.block id c) Q σ = awpO S SO T pl c (zee id Q) σ := rfl
theorem awpO_cond {c : Operand} {a b : Code} : awpO S SO T pl (.cond c a b) Q σ = match ev σ.sl c with
     | .w (.bool t) => zfn t (awpO S SO T pl a Q σ) (awpO S SO T pl b Q σ)
     | _ => False := rfl
theorem awpO_loopW {c : Code} (h : ALoop (awpO S SO T pl c) Q σ) : awpO S SO T pl (.loop c) Q σ := h
theorem zac {b : Code} : laterO S SO T pl b Q .normal σ = awpO S SO T pl b Q σ := rfl
theorem laterO_exit {b : Code} {id : Nat} : laterO S SO T pl b Q (.exit id) σ = Q (.exit id) σ := rfl
theorem laterO_ret {b : Code} : laterO S SO T pl b Q .ret σ = Q .ret σ := rfl
variable {ops r : List Oper} {o : Oper} {nm k : Nat} {sl : List AV} {H : Heap} {Q' : List AV → Heap → Prop}
def openKO (q : Out) (sl : List AV) (dst : Option Tmp) (K : List AV → Heap → Prop) : Prop := q.p ∧ K (zak sl dst q.x) q.H
theorem openKO_def {q : Out} {dst : Option Tmp} {K : List AV → Heap → Prop} : openKO q sl dst K = (q.p ∧ K (zak sl dst q.x) q.H) := rfl
theorem aopsO_zero {dst : Option Tmp} {op : Op} {type : TypeId} {pos : String} {after : Array Edge} : aopsO S SO T ops 0 nm (⟨dst,op,type,pos,after,none⟩ :: r) sl H Q' =
   openKO (zfl SO T nm sl op H) sl dst (fun sl' H' => aops S T ops (nm + 8) r sl' H' Q') := by
 simp [aopsO,openKO]
theorem aopsO_succ {dst : Option Tmp} {op : Op} {type : TypeId} {pos : String} {after : Array Edge} : aopsO S SO T ops (k + 1) nm (⟨dst,op,type,pos,after,none⟩ :: r) sl H Q' =
   ((aop S T nm sl op H).p ∧ aopsO S SO T ops k (nm + 8) r (zak sl dst (aop S T nm sl op H).x) (aop S T nm sl op H).H Q') := by
 simp [aopsO]
theorem aopsT_nil : zfk S T ops [] nm r sl H Q' = aops S T ops nm r sl H Q' := by
 cases r <;> rfl
theorem aopsT_done {l : List Bool} : zfk S T ops l nm [] sl H Q' = Q' sl H := by
 cases l with
 | nil => rfl
 | cons b _ => cases b <;> rfl
theorem aopsT_t {l : List Bool} {dst : Option Tmp} {op : Op} {type : TypeId} {pos : String} {after : Array Edge} : zfk S T ops (true :: l) nm (⟨dst,op,type,pos,after,none⟩ :: r) sl H Q' =
   (specOp T sl op (fun x => zfk S T ops l (nm + 8) r (zak sl dst x) H Q')) := by
 simp [zfk]
theorem aopsT_f {l : List Bool} {dst : Option Tmp} {op : Op} {type : TypeId} {pos : String} {after : Array Edge} : zfk S T ops (false :: l) nm (⟨dst,op,type,pos,after,none⟩ :: r) sl H Q' =
   ((aop S T nm sl op H).p ∧ zfk S T ops l (nm + 8) r (zak sl dst (aop S T nm sl op H).x) (aop S T nm sl op H).H Q') := by
 simp [zfk]
end rules
end Ax
end Go.Proofs.Ytckbejanaebjkaa
namespace Go.Proofs.Ytckbejanaebjkaa
open Ax
theorem evTO : (type_of% @awpO_skip) ∧
   (type_of% @awpO_label) ∧
   (type_of% @awpO_ret) ∧
   (type_of% @awpO_exit) ∧
   (type_of% @awpO_region) ∧
   (type_of% @awpO_seq) ∧
   (type_of% @awpO_block) ∧
   (type_of% @awpO_cond) ∧
   (type_of% @laterO_exit) ∧
   (type_of% @laterO_ret) ∧
   (type_of% @aopsO_zero) ∧
   (type_of% @aopsO_succ) ∧
   (type_of% @aopsT_nil) ∧
   (type_of% @aopsT_done) ∧
   (type_of% @aopsT_t) ∧
   (type_of% @aopsT_f) :=
 ⟨@awpO_skip,@awpO_label,@awpO_ret,@awpO_exit,@awpO_region,@awpO_seq,@awpO_block,@awpO_cond,@laterO_exit,@laterO_ret,@aopsO_zero,@aopsO_succ,@aopsT_nil,@aopsT_done,@aopsT_t,@aopsT_f⟩
theorem evDO : (type_of% @Ax.frzS.eq_1) ∧
   (type_of% @Ax.frzL.eq_1) ∧
   (type_of% @Ax.frzL.eq_2) ∧
   (type_of% @Ax.fzL.eq_1) ∧
   (type_of% @Ax.fzL.eq_2) ∧
   (type_of% @Ax.fzH.eq_1) ∧
   (type_of% @Ax.fzH.eq_2) ∧
   (type_of% @Ax.AV.fz.eq_1) ∧
   (type_of% @Ax.AV.fz.eq_2) ∧
   (type_of% @Ax.AV.fz.eq_3) ∧
   (type_of% @Ax.AV.fz.eq_4) ∧
   (type_of% @Ax.AV.fz.eq_5) ∧
   (type_of% @Ax.fiL.eq_1) ∧
   (type_of% @Ax.fiL.eq_2) ∧
   (type_of% @Ax.fiH.eq_1) ∧
   (type_of% @Ax.fiH.eq_2) ∧
   (type_of% @Ax.AV.fi.eq_1) ∧
   (type_of% @Ax.AV.fi.eq_2) ∧
   (type_of% @Ax.AV.fi.eq_3) ∧
   (type_of% @Ax.AV.fi.eq_4) ∧
   (type_of% @Ax.AV.fi.eq_5) ∧
   (type_of% @Ax.fgL.eq_1) ∧
   (type_of% @Ax.fgL.eq_2) ∧
   (type_of% @Ax.fgH.eq_1) ∧
   (type_of% @Ax.fgH.eq_2) ∧
   (type_of% @Ax.AV.fg.eq_1) ∧
   (type_of% @Ax.AV.fg.eq_2) ∧
   (type_of% @Ax.AV.fg.eq_3) ∧
   (type_of% @Ax.AV.fg.eq_4) ∧
   (type_of% @Ax.AV.fg.eq_5) ∧
   (type_of% @Ax.aOpen.eq_1) ∧
   (type_of% @Ax.openOut.eq_1) ∧
   (type_of% @Ax.reach.eq_1) ∧
   (type_of% @Ax.reach.eq_2) ∧
   (type_of% @Ax.reach.eq_3) ∧
   (type_of% @Ax.walk.eq_1) ∧
   (type_of% @Ax.walk.eq_2) ∧
   (type_of% @Ax.allIn.eq_1) ∧
   (type_of% @Ax.allIn.eq_2) ∧
   (type_of% @Ax.pinsIn.eq_1) ∧
   (type_of% @Ax.pinsIn.eq_2) ∧
   (type_of% @Ax.pinsR.eq_1) ∧
   (type_of% @Ax.pinsR.eq_2) ∧
   (type_of% @Ax.backO.eq_1) ∧
   (type_of% @Ax.backO.eq_2) ∧
   (type_of% @Ax.gone.eq_1) ∧
   (type_of% @Ax.AV.sids.eq_1) ∧
   (type_of% @Ax.AV.sids.eq_2) ∧
   (type_of% @Ax.AV.sids.eq_3) ∧
   (type_of% @Ax.AV.sids.eq_4) ∧
   (type_of% @Ax.AV.sids.eq_5) ∧
   (type_of% @Ax.AV.sids.eq_6) ∧
   (type_of% @Ax.sidsL.eq_1) ∧
   (type_of% @Ax.sidsL.eq_2) ∧
   (type_of% @Ax.Blk.renB.eq_1) ∧
   (type_of% @Ax.idxOf.eq_1) ∧
   (type_of% @Ax.EndsXO.eq_1) ∧
   (type_of% @Ax.endIds.eq_1) ∧
   (type_of% @Ax.reachE.eq_1) ∧
   (type_of% @Ax.reachE.eq_2) ∧
   (type_of% @Ax.reachE.eq_3) ∧
   (type_of% @Ax.idsAt.eq_1) ∧
   (type_of% @Ax.idsAtL.eq_1) ∧
   (type_of% @Ax.idsAtL.eq_2) ∧
   (type_of% @Ax.walkI.eq_1) ∧
   (type_of% @Ax.walkI.eq_2) ∧
   (type_of% @Ax.matchE.eq_1) ∧
   (type_of% @Ax.matchE.eq_2) ∧
   (type_of% @Ax.matchE.eq_3) ∧
   (type_of% @Ax.aopF.eq_1) ∧
   (type_of% @Ax.foot.eq_1) ∧
   (type_of% @Ax.footA.eq_1) ∧
   (type_of% @Ax.keepIn.eq_1) ∧
   (type_of% @Ax.keepIn.eq_2) ∧
   (type_of% @Ax.dropIn.eq_1) ∧
   (type_of% @Ax.dropIn.eq_2) ∧
   (type_of% @Ax.bids.eq_1) ∧
   (type_of% @Ax.bids.eq_2) ∧
   (type_of% @Ax.heldB.eq_1) ∧
   (type_of% @Ax.memOk.eq_1) ∧
   (type_of% @Ax.clearOf.eq_1) :=
 ⟨@Ax.frzS.eq_1,@Ax.frzL.eq_1,@Ax.frzL.eq_2,@Ax.fzL.eq_1,@Ax.fzL.eq_2,@Ax.fzH.eq_1,@Ax.fzH.eq_2,@Ax.AV.fz.eq_1,@Ax.AV.fz.eq_2,@Ax.AV.fz.eq_3,@Ax.AV.fz.eq_4,@Ax.AV.fz.eq_5,@Ax.fiL.eq_1,@Ax.fiL.eq_2,@Ax.fiH.eq_1,@Ax.fiH.eq_2,@Ax.AV.fi.eq_1,@Ax.AV.fi.eq_2,@Ax.AV.fi.eq_3,@Ax.AV.fi.eq_4,@Ax.AV.fi.eq_5,@Ax.fgL.eq_1,@Ax.fgL.eq_2,@Ax.fgH.eq_1,@Ax.fgH.eq_2,@Ax.AV.fg.eq_1,@Ax.AV.fg.eq_2,@Ax.AV.fg.eq_3,@Ax.AV.fg.eq_4,@Ax.AV.fg.eq_5,@Ax.aOpen.eq_1,@Ax.openOut.eq_1,@Ax.reach.eq_1,@Ax.reach.eq_2,@Ax.reach.eq_3,@Ax.walk.eq_1,@Ax.walk.eq_2,@Ax.allIn.eq_1,@Ax.allIn.eq_2,@Ax.pinsIn.eq_1,@Ax.pinsIn.eq_2,@Ax.pinsR.eq_1,@Ax.pinsR.eq_2,@Ax.backO.eq_1,@Ax.backO.eq_2,@Ax.gone.eq_1,@Ax.AV.sids.eq_1,@Ax.AV.sids.eq_2,@Ax.AV.sids.eq_3,@Ax.AV.sids.eq_4,@Ax.AV.sids.eq_5,@Ax.AV.sids.eq_6,@Ax.sidsL.eq_1,@Ax.sidsL.eq_2,@Ax.Blk.renB.eq_1,@Ax.idxOf.eq_1,@Ax.EndsXO.eq_1,@Ax.endIds.eq_1,@Ax.reachE.eq_1,@Ax.reachE.eq_2,@Ax.reachE.eq_3,@Ax.idsAt.eq_1,@Ax.idsAtL.eq_1,@Ax.idsAtL.eq_2,@Ax.walkI.eq_1,@Ax.walkI.eq_2,@Ax.matchE.eq_1,@Ax.matchE.eq_2,@Ax.matchE.eq_3,@Ax.aopF.eq_1,@Ax.foot.eq_1,@Ax.footA.eq_1,@Ax.keepIn.eq_1,@Ax.keepIn.eq_2,@Ax.dropIn.eq_1,@Ax.dropIn.eq_2,@Ax.bids.eq_1,@Ax.bids.eq_2,@Ax.heldB.eq_1,@Ax.memOk.eq_1,@Ax.clearOf.eq_1⟩
open Ax
attribute [go_sem] evDO evTO zfl Blk.isGone Blk.idsB Blk.sidsB Blk.ren EndsO
attribute [go_sem ↓] openKO_def
end Go.Proofs.Ytckbejanaebjkaa
namespace Go.Proofs.Ytckbejanaebjkaa
open Ax
abbrev KM := List (List UInt8 × Int)
def kvP (p : List UInt8 × Int) : AV × AV := (.str p.1,.w (.int .i64 p.2))
def kvA (m : KM) : List (AV × AV) := m.map kvP
def ukv : AV × AV → List UInt8 × Int
 | (.str k,.w (.int _ n)) => (k,n)
 | _ => ([],0)
theorem ukv_kvA (m : KM) : (kvA m).map ukv = m := by
 unfold kvA; rw [List.map_map]; exact List.map_id _
def ixK (k : List UInt8) : KM → Nat → Option (Nat × Int)
 | [],_ => none
 | p :: r,i => if k = p.1 then some (i,p.2) else ixK k r (i + 1)
def gtK (m : KM) (k : List UInt8) : Option Int := (ixK k m 0).map Prod.snd
def ptK (m : KM) (k : List UInt8) (v : Int) : KM :=
 match ixK k m 0 with
 | some p => m.set p.1 (k,v)
 | none => m ++ [(k,v)]
def mpI (o : Option (Nat × Int)) : Option (Nat × AV) := o.map fun p => (p.1,.w (.int .i64 p.2))
theorem zfg (k : List UInt8) : ∀ (m : KM) (i : Nat),zbm ty 9 (.str k) (kvA m) i = (True,mpI (ixK k m i))
 | [],i => rfl
 | p :: r,i => by
   have h := zfg k r (i + 1)
   have he : eqV ty 4 9 (.str k) (.str p.1) = (True,decide (k = p.1)) := rfl
   show zbm ty 9 (.str k) (kvP p :: kvA r) i = _
   unfold zbm
   simp only [kvP,he,h,ixK]
   by_cases hk : k = p.1
   · subst hk; simp [mpI]
   · simp [hk,mpI]
theorem put_kvA (m : KM) (k : List UInt8) (v : Int) : putM (kvA m) (.str k) (.w (.int .i64 v)) (mpI (ixK k m 0)) = kvA (ptK m k v) := by
 unfold ptK
 cases ixK k m 0 with
 | none => simp [mpI,putM,kvA,kvP]
 | some p => simp [mpI,putM,kvA,kvP,List.map_set]
theorem ixK_shift (k : List UInt8) : ∀ (m : KM) (i : Nat),ixK k m (i + 1) = (ixK k m i).map fun p => (p.1 + 1,p.2)
 | [],i => rfl
 | p :: r,i => by
   unfold ixK
   split
   · rfl
   · exact ixK_shift k r (i + 1)
theorem gtK_cons (p : List UInt8 × Int) (m : KM) (k : List UInt8) : gtK (p :: m) k = if k = p.1 then some p.2 else gtK m k := by
 unfold gtK
 rw [ixK]
 split
 · rfl
 · rw [ixK_shift]; cases ixK k m 0 <;> rfl
theorem ptK_cons (p : List UInt8 × Int) (m : KM) (k : List UInt8) (v : Int) : ptK (p :: m) k v = if k = p.1 then (k,v) :: m else p :: ptK m k v := by
 unfold ptK
 by_cases h : k = p.1
 · rw [ixK,if_pos h,if_pos h]; rfl
 · rw [ixK,if_neg h,if_neg h,ixK_shift]
   cases ixK k m 0 <;> rfl
theorem gtK_ptK : ∀ (m : KM) (k k' : List UInt8) (v : Int),gtK (ptK m k v) k' = if k' = k then some v else gtK m k'
 | [],k,k',v => by
   show gtK [(k,v)] k' = _
   rw [gtK_cons]; try rfl
 | p :: m,k,k',v => by
   rw [ptK_cons]
   by_cases h : k = p.1
   · rw [if_pos h,gtK_cons,gtK_cons]
     by_cases h2 : k' = k
     · simp [h2]
     · simp only [if_neg h2]
       rw [if_neg (by rw [← h]; exact h2)]
   · rw [if_neg h,gtK_cons,gtK_cons,gtK_ptK m k k' v]
     by_cases h2 : k' = k
     · subst h2; simp [h]
     · simp only [if_neg h2]
def stK (b : Int) (m : KM) (r : Rec) : KM :=
 if r.k = true then (match gtK m r.key with
   | some a => if a < offI b r.d then ptK m r.key (offI b r.d) else m
   | none => ptK m r.key (offI b r.d)) else m
def stKB (m : KM) (x : Bat) : KM := x.rs.foldl (stK x.b) m
def lastK (l : List Bat) : KM := l.foldl stKB []
end Go.Proofs.Ytckbejanaebjkaa
namespace Go.Proofs.Ytckbejanaebjkaa
open Ax
theorem mpI_some (p : Nat × Int) : mpI (some p) = some (p.1,.w (.int .i64 p.2)) := rfl
theorem mpI_none : mpI none = none := rfl
theorem set_kvA {m : KM} {k : List UInt8} {p : Nat × Int} (v : Int) (h : ixK k m 0 = some p) : (kvA m).set p.1 (.str k,.w (.int .i64 v)) = kvA (ptK m k v) := by
 have := put_kvA m k v
 rw [h] at this; exact this
theorem snoc_kvA {m : KM} {k : List UInt8} (v : Int) (h : ixK k m 0 = none) : kvA m ++ [(.str k,.w (.int .i64 v))] = kvA (ptK m k v) := by
 have := put_kvA m k v
 rw [h] at this; exact this
def zej : zay
 | [.sg 6 xs f],[] => ⟨xs.length ≤ 1000000 ∧ isBs xs,.rf 0 0 0 0,[.o (.mp (kvA (lastK (xs.map ubat))))]⟩
 | _,_ => zer
section
set_option maxRecDepth 100000
set_option maxHeartbeats 4000000 in
theorem zec : zcn Try.prog 8 zej := by
 refine zbs (S := noS) (T := ty) zet ty_ok noS_ok Try.func8 (c := Try.f8.body.getD .skip) (by kernel_rfl) (by kernel_rfl) (fun xs pins hp _ => ?_)
 unfold zej at hp ⊢
 split at hp
 · rename_i xs f _
   obtain ⟨hL,es,rfl,he⟩ := hp
   simp only [List.length_map] at hL
   refine ⟨by simp,?_⟩
   have hlp : (es.map bvp).length = es.length := by simp
   rw [zco]
   obtain ⟨A,hA⟩ : ∃ A,kvA (lastK (es.map Prod.fst)) = A := ⟨_,rfl⟩
   rw [hA]
   unfold Try.f8
   simp only [go_sem,zaa,Nat.reduceAdd,Nat.reduceSub,Nat.reduceMul,Int.reduceToNat,reduceCtorEq,↓reduceIte,Int.reducePow,Nat.reducePow,Int.reduceMod,Nat.reduceLeDiff,Int.reduceLE,Int.reduceNe,Int.reduceEq,Nat.reduceEqDiff,Nat.reduceLT,Nat.reduceBEq,ty,noS,hlp]
   refine zef ⟨fun m σ => ∃ (i : Nat) (M : KM),m = es.length - i ∧ i ≤ es.length ∧ lastK (es.map Prod.fst) = ((es.drop i).map Prod.fst).foldl stKB M ∧
       σ = ⟨[.sg 6 (es.map bvp) f,.junk,.junk,.rf 4 0 0 0,.junk,.junk,.junk,.junk,.junk,.junk,.junk,.junk,.sg 6 (es.map bvp) f,.w (.int .i64 es.length),.w (.int .i64 i),.junk,.junk,.junk,.junk,.junk,.junk,.junk,.junk,.junk,.junk,.junk,.junk,.junk,.junk,.junk,.junk,.junk,.junk,.junk,.junk,.junk,.junk,.junk,.junk,.junk,.junk,.junk,.junk,.junk,.junk,.junk,.junk,.junk,.junk,.junk,.junk,.junk,.junk,.junk],[(4,.o (.mp (kvA M)))],5⟩,?_,?_⟩
   · refine ⟨_,_,zae [0,1,2,3,12] rfl rfl rfl ?_ ?_,0,[],rfl,by omega,by rw [List.drop_zero]; rfl,rfl⟩
     · simp only [ssT,zaf,zag,setSlot,gOf,AV.ren,renL,Blk.ren,Ax.look,Ax.put,reduceCtorEq,↓reduceIte,Nat.reduceEqDiff,Nat.reduceLT,Nat.reduceAdd,List.length_append,List.length_cons,List.length_nil,Option.some.injEq]; try simp
     · simp only [ssT,zaf,zag,setSlot,gOf,AV.ren,renL,Blk.ren,Ax.look,Ax.put,reduceCtorEq,↓reduceIte,Nat.reduceEqDiff,Nat.reduceLT,Nat.reduceAdd,List.length_append,List.length_cons,List.length_nil,Option.some.injEq]; try rfl
   · rintro m σ ⟨i,M,rfl,hi,hinv,rfl⟩
     have e1 : ((i : Int) + 1 + 9223372036854775808) % 18446744073709551616 - 9223372036854775808 = ((i + 1 : Nat) : Int) := by omega
     by_cases hil : i < es.length
     · have d3 : decide ((i : Int) < es.length) = true := decide_eq_true (by omega)
       have hs1 := zcx es i hil
       have m1 := he es[i] (List.getElem_mem hil)
       have hdr : es.drop i = es[i] :: es.drop (i + 1) := List.drop_eq_getElem_cons hil
       obtain ⟨P,hP⟩ : ∃ P,es[i] = P := ⟨_,rfl⟩
       rw [hP] at hs1 m1 hdr
       rw [hdr] at hinv
       obtain ⟨⟨b,c,p,e,s,rs⟩,f'⟩ := P
       have hs1 : slot (es.map bvp) i = .agg [.w (.int .i64 b),.w (.int .i64 c),.w (.int .i64 p),.w (.int .i64 e),.w (.int .i64 s),.sg 6 (rs.map rv) f'] := hs1
       simp only at m1
       have hlr : (rs.map rv).length = rs.length := by simp
       have hinv : lastK (es.map Prod.fst) = ((es.drop (i + 1)).map Prod.fst).foldl stKB (rs.foldl (stK b) M) := hinv
       simp only [go_sem,zaa,Nat.reduceAdd,Nat.reduceSub,Nat.reduceMul,Int.reduceToNat,reduceCtorEq,↓reduceIte,Int.reducePow,Nat.reducePow,Int.reduceMod,Nat.reduceLeDiff,Int.reduceLE,Int.reduceNe,Int.reduceEq,Nat.reduceEqDiff,Nat.reduceLT,Nat.reduceBEq,ty,noS,hlp,d3,hs1,hlr,Int.toNat_natCast]
       repeat (refine And.intro (by omega) ?_)
       refine zef ⟨fun m σ => ∃ (k : Nat) (M : KM),m = rs.length - k ∧ k ≤ rs.length ∧ lastK (es.map Prod.fst) = ((es.drop (i + 1)).map Prod.fst).foldl stKB ((rs.drop k).foldl (stK b) M) ∧
           σ = ⟨[.sg 6 (es.map bvp) f,.junk,.junk,.rf 4 0 0 0,.junk,.rf 5 6 0 0,.junk,.junk,.junk,.junk,.junk,.junk,.sg 6 (es.map bvp) f,.w (.int .i64 es.length),.w (.int .i64 i),.junk,.junk,.junk,.junk,.sg 6 (rs.map rv) f',.w (.int .i64 rs.length),.w (.int .i64 k),.junk,.junk,.junk,.junk,.junk,.junk,.junk,.junk,.junk,.junk,.junk,.junk,.junk,.junk,.junk,.junk,.junk,.junk,.junk,.junk,.junk,.junk,.junk,.junk,.junk,.junk,.junk,.junk,.junk,.junk,.junk,.junk],
             [(4,.o (.mp (kvA M))),(5,.g 6 [.agg [.w (.int .i64 b),.w (.int .i64 c),.w (.int .i64 p),.w (.int .i64 e),.w (.int .i64 s),.sg 6 (rs.map rv) f']])],6⟩,?_,?_⟩
       · refine ⟨_,_,zae [0,1,2,3,4,29] rfl rfl rfl ?_ ?_,0,M,rfl,by omega,by rw [List.drop_zero]; exact hinv,rfl⟩
         · simp only [ssT,zaf,zag,setSlot,gOf,AV.ren,renL,Blk.ren,Ax.look,Ax.put,reduceCtorEq,↓reduceIte,Nat.reduceEqDiff,Nat.reduceLT,Nat.reduceAdd,List.length_append,List.length_cons,List.length_nil,Option.some.injEq]; try simp
         · simp only [ssT,zaf,zag,setSlot,gOf,AV.ren,renL,Blk.ren,Ax.look,Ax.put,reduceCtorEq,↓reduceIte,Nat.reduceEqDiff,Nat.reduceLT,Nat.reduceAdd,List.length_append,List.length_cons,List.length_nil,Option.some.injEq]
       · rintro m σ ⟨k,M,rfl,hk,hinv,rfl⟩
         by_cases hkl : k < rs.length
         · have e2 : ((k : Int) + 1 + 9223372036854775808) % 18446744073709551616 - 9223372036854775808 = ((k + 1 : Nat) : Int) := by omega
           have d4 : decide ((k : Int) < rs.length) = true := decide_eq_true (by omega)
           have hs2 := zbf rv rs k hkl
           have hdk : rs.drop k = rs[k] :: rs.drop (k + 1) := List.drop_eq_getElem_cons hkl
           obtain ⟨R,hR⟩ : ∃ R,rs[k] = R := ⟨_,rfl⟩
           rw [hR] at hs2 hdk
           rw [hdk,List.foldl_cons] at hinv
           obtain ⟨d,t,kd,key,dd,val⟩ := R
           simp only [rv] at hs2
           have hof : (b + d + 9223372036854775808) % 18446744073709551616 - 9223372036854775808 = offI b d := rfl
           obtain ⟨O,hO⟩ : ∃ O,offI b d = O := ⟨_,rfl⟩
           rw [hO] at hof
           cases kd with
           | false =>
             have hst : stK b M ⟨d,t,false,key,dd,val⟩ = M := rfl
             rw [hst] at hinv
             simp only [go_sem,zaa,Nat.reduceAdd,Nat.reduceSub,Nat.reduceMul,Int.reduceToNat,reduceCtorEq,↓reduceIte,Int.reducePow,Nat.reducePow,Int.reduceMod,Nat.reduceLeDiff,Int.reduceLE,Int.reduceNe,Int.reduceEq,Nat.reduceEqDiff,Nat.reduceLT,Nat.reduceBEq,ty,noS,hlp,hlr,d4,hs2,hof,e2,Int.toNat_natCast,Bool.not_false]
             repeat (refine And.intro (by omega) ?_)
             refine ⟨rs.length - (k + 1),_,by omega,zae [0,1,2,3,4,5] rfl rfl rfl ?_ ?_,k + 1,M,rfl,by omega,hinv,rfl⟩
             · simp only [ssT,zaf,zag,setSlot,gOf,AV.ren,renL,Blk.ren,Ax.look,Ax.put,reduceCtorEq,↓reduceIte,Nat.reduceEqDiff,Nat.reduceLT,Nat.reduceAdd,List.length_append,List.length_cons,List.length_nil,Option.some.injEq]
             · simp only [ssT,zaf,zag,setSlot,gOf,AV.ren,renL,Blk.ren,Ax.look,Ax.put,reduceCtorEq,↓reduceIte,Nat.reduceEqDiff,Nat.reduceLT,Nat.reduceAdd,List.length_append,List.length_cons,List.length_nil,Option.some.injEq]
           | true =>
             rcases hx : ixK key M 0 with _ | ⟨j,a⟩
             · have hst : stK b M ⟨d,t,true,key,dd,val⟩ = ptK M key O := by unfold stK gtK; rw [if_pos rfl]; simp only [hx,hO]; rfl
               rw [hst] at hinv
               have hpk := snoc_kvA O hx
               simp only [go_sem,zaa,Nat.reduceAdd,Nat.reduceSub,Nat.reduceMul,Int.reduceToNat,reduceCtorEq,↓reduceIte,Int.reducePow,Nat.reducePow,Int.reduceMod,Nat.reduceLeDiff,Int.reduceLE,Int.reduceNe,Int.reduceEq,Nat.reduceEqDiff,Nat.reduceLT,Nat.reduceBEq,ty,noS,hlp,hlr,d4,hs2,hof,e2,zfg,hx,mpI_none,hpk,Int.toNat_natCast,Bool.not_true,Bool.not_false]
               repeat (refine And.intro (by omega) ?_)
               refine ⟨rs.length - (k + 1),_,by omega,zae [0,1,2,3,4,5] rfl rfl rfl ?_ ?_,k + 1,_,rfl,by omega,hinv,rfl⟩
               · simp only [ssT,zaf,zag,setSlot,gOf,AV.ren,renL,Blk.ren,Ax.look,Ax.put,reduceCtorEq,↓reduceIte,Nat.reduceEqDiff,Nat.reduceLT,Nat.reduceAdd,List.length_append,List.length_cons,List.length_nil,Option.some.injEq]
               · simp only [ssT,zaf,zag,setSlot,gOf,AV.ren,renL,Blk.ren,Ax.look,Ax.put,reduceCtorEq,↓reduceIte,Nat.reduceEqDiff,Nat.reduceLT,Nat.reduceAdd,List.length_append,List.length_cons,List.length_nil,Option.some.injEq]
             · have hpk := set_kvA O hx
               by_cases c2 : a < O
               · have d6 : decide (a < O) = true := decide_eq_true c2
                 have hst : stK b M ⟨d,t,true,key,dd,val⟩ = ptK M key O := by unfold stK gtK; rw [if_pos rfl]; simp only [hx,hO,Option.map_some,if_pos c2]
                 rw [hst] at hinv
                 simp only [go_sem,zaa,Nat.reduceAdd,Nat.reduceSub,Nat.reduceMul,Int.reduceToNat,reduceCtorEq,↓reduceIte,Int.reducePow,Nat.reducePow,Int.reduceMod,Nat.reduceLeDiff,Int.reduceLE,Int.reduceNe,Int.reduceEq,Nat.reduceEqDiff,Nat.reduceLT,Nat.reduceBEq,ty,noS,hlp,hlr,d4,d6,hs2,hof,e2,zfg,hx,mpI_some,hpk,Int.toNat_natCast,Bool.not_true,Bool.not_false]
                 repeat (refine And.intro (by omega) ?_)
                 refine ⟨rs.length - (k + 1),_,by omega,zae [0,1,2,3,4,5] rfl rfl rfl ?_ ?_,k + 1,_,rfl,by omega,hinv,rfl⟩
                 · simp only [ssT,zaf,zag,setSlot,gOf,AV.ren,renL,Blk.ren,Ax.look,Ax.put,reduceCtorEq,↓reduceIte,Nat.reduceEqDiff,Nat.reduceLT,Nat.reduceAdd,List.length_append,List.length_cons,List.length_nil,Option.some.injEq]
                 · simp only [ssT,zaf,zag,setSlot,gOf,AV.ren,renL,Blk.ren,Ax.look,Ax.put,reduceCtorEq,↓reduceIte,Nat.reduceEqDiff,Nat.reduceLT,Nat.reduceAdd,List.length_append,List.length_cons,List.length_nil,Option.some.injEq]
               · have d6 : decide (a < O) = false := decide_eq_false c2
                 have hst : stK b M ⟨d,t,true,key,dd,val⟩ = M := by unfold stK gtK; rw [if_pos rfl]; simp only [hx,hO,Option.map_some,if_neg c2]
                 rw [hst] at hinv
                 simp only [go_sem,zaa,Nat.reduceAdd,Nat.reduceSub,Nat.reduceMul,Int.reduceToNat,reduceCtorEq,↓reduceIte,Int.reducePow,Nat.reducePow,Int.reduceMod,Nat.reduceLeDiff,Int.reduceLE,Int.reduceNe,Int.reduceEq,Nat.reduceEqDiff,Nat.reduceLT,Nat.reduceBEq,ty,noS,hlp,hlr,d4,d6,hs2,hof,e2,zfg,hx,mpI_some,hpk,Int.toNat_natCast,Bool.not_true,Bool.not_false]
                 repeat (refine And.intro (by omega) ?_)
                 refine ⟨rs.length - (k + 1),_,by omega,zae [0,1,2,3,4,5] rfl rfl rfl ?_ ?_,k + 1,M,rfl,by omega,hinv,rfl⟩
                 · simp only [ssT,zaf,zag,setSlot,gOf,AV.ren,renL,Blk.ren,Ax.look,Ax.put,reduceCtorEq,↓reduceIte,Nat.reduceEqDiff,Nat.reduceLT,Nat.reduceAdd,List.length_append,List.length_cons,List.length_nil,Option.some.injEq]
                 · simp only [ssT,zaf,zag,setSlot,gOf,AV.ren,renL,Blk.ren,Ax.look,Ax.put,reduceCtorEq,↓reduceIte,Nat.reduceEqDiff,Nat.reduceLT,Nat.reduceAdd,List.length_append,List.length_cons,List.length_nil,Option.some.injEq]
         · have d4 : decide ((k : Int) < rs.length) = false := decide_eq_false (by omega)
           have hdk : rs.drop k = [] := List.drop_eq_nil_of_le (by omega)
           rw [hdk,List.foldl_nil] at hinv
           simp only [go_sem,zaa,Nat.reduceAdd,Nat.reduceSub,Nat.reduceMul,Int.reduceToNat,reduceCtorEq,↓reduceIte,Int.reducePow,Nat.reducePow,Int.reduceMod,Nat.reduceLeDiff,Int.reduceLE,Int.reduceNe,Int.reduceEq,Nat.reduceEqDiff,Nat.reduceLT,Nat.reduceBEq,ty,noS,hlp,hlr,d4,e1]
           refine ⟨es.length - (i + 1),_,by omega,zae [0,1,2,3,4] rfl rfl rfl ?_ ?_,i + 1,M,rfl,by omega,hinv,rfl⟩
           · simp only [ssT,zaf,zag,setSlot,gOf,AV.ren,renL,Blk.ren,Ax.look,Ax.put,reduceCtorEq,↓reduceIte,Nat.reduceEqDiff,Nat.reduceLT,Nat.reduceAdd,List.length_append,List.length_cons,List.length_nil,Option.some.injEq]
           · simp only [ssT,zaf,zag,setSlot,gOf,AV.ren,renL,Blk.ren,Ax.look,Ax.put,reduceCtorEq,↓reduceIte,Nat.reduceEqDiff,Nat.reduceLT,Nat.reduceAdd,List.length_append,List.length_cons,List.length_nil,Option.some.injEq]
     · have d3 : decide ((i : Int) < es.length) = false := decide_eq_false (by omega)
       have hdr : es.drop i = [] := List.drop_eq_nil_of_le (by omega)
       rw [hdr] at hinv
       have hv2 : lastK (es.map Prod.fst) = M := hinv
       rw [hv2] at hA
       simp only [go_sem,zaa,Nat.reduceAdd,Nat.reduceSub,Nat.reduceMul,Int.reduceToNat,reduceCtorEq,↓reduceIte,Int.reducePow,Nat.reducePow,Int.reduceMod,Nat.reduceLeDiff,Int.reduceLE,Int.reduceNe,Int.reduceEq,Nat.reduceEqDiff,Nat.reduceLT,Nat.reduceBEq,ty,noS,hlp,d3,hA]
 · exact hp.elim
end
end Go.Proofs.Ytckbejanaebjkaa
namespace Go.Proofs.Ytckbejanaebjkaa
namespace Ax
mutual
def AV.fp (id : Nat) (c0 : Value) : AV → AV
 | .agg xs => .agg (fpL id c0 xs)
 | .tup xs => .tup (fpL id c0 xs)
 | .fn f cs => .fn f (fpL id c0 cs)
 | .rf k s i f => bif k == id then (bif s == 1 && (i == 0 && f == 0) then .cp [.w c0] else .rf k s i f) else .rf k s i f
 | x => x
def fpL (id : Nat) (c0 : Value) : List AV → List AV
 | [] => []
 | x :: xs => x.fp id c0 :: fpL id c0 xs
end
theorem zdq (id : Nat) (c0 : Value) : ∀ (xs : List AV),(fpL id c0 xs).length = xs.length ∧ ∀ (j : Nat) (h : j < (fpL id c0 xs).length) (h' : j < xs.length),(fpL id c0 xs)[j] = xs[j].fp id c0
 | [] => ⟨rfl,fun j h => by simp [fpL] at h⟩
 | x :: xs => by
   obtain ⟨h1,h2⟩ := zdq id c0 xs
   refine ⟨by simp [fpL,h1],fun j h h' => ?_⟩
   cases j with
   | zero => rfl
   | succ j => exact h2 j (by simpa [fpL] using h) (by simpa using h')
theorem fp_leaf {id : Nat} {c0 : Value} {x : AV} (h : x.leaf = true) : (x.fp id c0).leaf = true := by
 cases x <;> first | exact h | (simp [AV.leaf] at h; done) | skip
 simp only [AV.fp]
 cases (_ == id) with
 | false => rfl
 | true =>
   simp only [cond_true]
   cases (_ && _ : Bool) <;> rfl
theorem fp_R {w : World} {loc : Loc} {id : Nat} {c0 : Value} (hor : ∃ b,loc.m id = .here b ∧ b < w.heap.size ∧ Lies w loc (.g 1 [.w c0]) b ∧ (∀ k,loc.m k = .here b → k = id) ∧ ¬ loc.bad b) {x : AV} {v : Value} (h : R w loc x v) : R w (loc.set id .dead) (x.fp id c0) v := by
 have hM : ∀ c,Mut (loc.set id .dead) c → Mut loc c := by
   rintro c (h | ⟨k,h⟩)
   · exact .inl h
   · by_cases hk : k = id
     · subst hk; rw [Loc.set_same] at h; cases h
     · rw [Loc.set_other _ _ hk] at h; exact .inr ⟨k,h⟩
 have hC : ∀ {a cs},Cells w loc a cs → Cells w (loc.set id .dead) a cs := fun h => h.move (fun b _ hm => hM b hm)
 induction h with
 | w v h => exact .w v h
 | str bs => exact .str bs
 | agg xs cs hl hx _ ih =>
   obtain ⟨h1,h2⟩ := zdq id c0 xs
   refine .agg _ cs (by rw [h1,hl]) (fun j hj => ?_) (fun j a b => ?_)
   · rw [h2 j hj (by rw [← h1]; exact hj)]; exact fp_leaf (hx j _)
   · rw [h2 j a (by rw [← h1]; exact a)]; exact ih j _ b
 | tup xs cs hl _ ih =>
   obtain ⟨h1,h2⟩ := zdq id c0 xs
   refine .tup _ cs (by rw [h1,hl]) (fun j a b => ?_)
   rw [h2 j a (by rw [← h1]; exact a)]; exact ih j _ b
 | sb bs full a cap hd hc => exact .sb bs full a cap hd (hC hc)
 | si ns full a cap hd hc => exact .si ns full a cap hd (hC hc)
 | sg s xs full a cap cs hd hs hc hl hx h _ => exact .sg s xs full a cap cs hd hs (hC hc) hl hx (fun j a b => (h j a b).move (fun b _ hm => hM b hm) (hx j a).2)
 | cp ls a cs hc hn hl hx h _ => exact .cp ls a cs (hC hc) hn hl hx (fun j a b => (h j a b).move (fun b _ hm => hM b hm) (hx j a).2)
 | ms k s off len v h =>
   refine .ms _ _ _ _ _ ?_
   by_cases hk : k = id
   · subst hk; unfold Owns; rw [Loc.set_same]; exact h.one
   · unfold Owns at h ⊢; rw [Loc.set_other _ _ hk]; exact h
 | rf k s i f v h =>
   have hkeep : R w (loc.set id .dead) (.rf k s i f) v := by
     refine .rf _ _ _ _ _ ?_
     by_cases hk : k = id
     · subst hk; unfold Points; rw [Loc.set_same]; exact h.one
     · unfold Points at h ⊢; rw [Loc.set_other _ _ hk]; exact h
   simp only [AV.fp]
   by_cases hk : k = id
   · subst hk
     simp only [beq_self_eq_true,cond_true]
     cases hc : (s == 1 && (i == 0 && f == 0)) with
     | false => exact hkeep
     | true =>
       simp only [cond_true]
       simp only [Bool.and_eq_true,beq_iff_eq] at hc
       obtain ⟨rfl,rfl,rfl⟩ := hc
       obtain ⟨b,hb,hlt,hl,hinj,hnb⟩ := hor
       unfold Points at h
       rw [hb] at h
       subst h
       rw [zbd (by decide)]
       obtain ⟨cur,e,fz,hh,hf,hone,hfl,hr⟩ := hl.lies
       have hsz : 0 < cur.size := by simp [Blk.flat,AV.leaves] at hfl; omega
       have h0 := (hr 0 (by simp [Blk.flat,AV.leaves]) hsz).2
       have h0 : R w loc (.w c0) cur[0] := h0
       have hwv := h0.wv
       refine .cp [.w c0] ⟨b,0 * 1 + 0,none⟩ [c0] ⟨.inr ⟨b,0,rfl,?_,hlt,fun j hj => ?_⟩⟩ (by simp) rfl (fun j hj => ?_) (fun j x y => ?_)
       · rintro (hq | ⟨i,hq⟩)
         · exact hnb hq
         · by_cases hk : i = k
           · subst hk; rw [Loc.set_same] at hq; cases hq
           · rw [Loc.set_other _ _ hk] at hq; exact hk (hinj i hq)
       · simp at hj
         subst hj
         simp [World.cell?,hh,hsz,hwv]
       · simp at hj
         subst hj
         simp [AV.leaf,AV.closed]
         rw [← hwv]; exact hone 0 hsz
       · simp at x
         subst x
         cases h0 with
         | w v h => exact .w _ h
   · have : (k == id) = false := by simpa using hk
     rw [this]; exact hkeep
 | fn f caps cs hl _ ih =>
   obtain ⟨h1,h2⟩ := zdq id c0 caps
   refine .fn f _ cs (by rw [h1,hl]) (fun j a b => ?_)
   rw [h2 j a (by rw [← h1]; exact a)]; exact ih j _ b
 | junk v => exact .junk v
def Blk.fp (id : Nat) (c0 : Value) : Blk → Blk
 | .g s xs => .g s (fpL id c0 xs)
 | .b cs => .b cs
 | .i ns => .i ns
 | .o x => .o x
theorem odd_fp {id : Nat} {c0 : Value} {b : Blk} : (b.fp id c0).odd = b.odd := by cases b <;> rfl
def fpH (id : Nat) (c0 : Value) : Heap → Heap
 | [] => []
 | p :: r => bif p.1 == id then fpH id c0 r else (p.1,p.2.fp id c0) :: fpH id c0 r
theorem leaves_fp (id : Nat) (c0 : Value) (x : AV) : (x.fp id c0).leaves = fpL id c0 x.leaves := by
 cases x <;> first | rfl | skip
 simp only [AV.fp,AV.leaves,fpL]
 cases (_ == id) with
 | false => rfl
 | true =>
   simp only [cond_true]
   cases (_ && _ : Bool) <;> rfl
theorem fpL_append (id : Nat) (c0 : Value) : ∀ (xs ys : List AV),fpL id c0 (xs ++ ys) = fpL id c0 xs ++ fpL id c0 ys
 | [],_ => rfl
 | x :: xs,ys => by simp [fpL,fpL_append id c0 xs ys]
theorem flat_fp (id : Nat) (c0 : Value) (b : Blk) : (b.fp id c0).flat = fpL id c0 b.flat := by
 cases b with
 | b cs =>
   simp only [Blk.fp,Blk.flat]
   induction cs with
   | nil => rfl
   | cons c r ih => simp only [List.map_cons,fpL,AV.fp]; rw [← ih]
 | o x => rfl
 | i ns =>
   simp only [Blk.fp,Blk.flat]
   induction ns with
   | nil => rfl
   | cons c r ih => simp only [List.map_cons,fpL,AV.fp]; rw [← ih]
 | g s xs =>
   simp only [Blk.fp,Blk.flat]
   induction xs with
   | nil => rfl
   | cons c r ih => simp only [fpL,List.flatMap_cons,fpL_append]; rw [ih,leaves_fp]
theorem ok_fp {id : Nat} {c0 : Value} {b : Blk} (h : b.ok) : (b.fp id c0).ok := by
 cases b with
 | g s xs =>
   obtain ⟨h1,h2⟩ := h
   refine ⟨h1,fun x hx => ?_⟩
   obtain ⟨j,hj,rfl⟩ := List.getElem_of_mem hx
   obtain ⟨h3,h4⟩ := zdq id c0 xs
   rw [h4 j hj (by rw [← h3]; exact hj),leaves_fp,(zdq id c0 _).1]
   exact h2 _ (List.getElem_mem _)
 | _ => trivial
theorem len_fp {id : Nat} {c0 : Value} {b : Blk} : (b.fp id c0).len = b.len := by
 cases b with
 | g s xs => exact (zdq id c0 xs).1
 | _ => rfl
theorem fpH_get {id : Nat} {c0 : Value} : ∀ {H : Heap} {k : Nat} {b : Blk},look (fpH id c0 H) k = some b → k ≠ id ∧ ∃ c,look H k = some c ∧ b = c.fp id c0
 | [],k,b,h => by simp [fpH,look] at h
 | p :: r,k,b,h => by
   have e : look (p :: r) k = if p.1 = k then some p.2 else look r k := zar r p.1 k p.2
   unfold fpH at h
   by_cases hp : p.1 = id
   · have : (p.1 == id) = true := by simpa using hp
     rw [this] at h
     obtain ⟨h1,c,h2,h3⟩ := fpH_get h
     exact ⟨h1,c,by rw [e,if_neg (by omega)]; exact h2,h3⟩
   · have : (p.1 == id) = false := by simpa using hp
     rw [this] at h
     have e2 : look ((p.1,p.2.fp id c0) :: fpH id c0 r) k = if p.1 = k then some (p.2.fp id c0) else look (fpH id c0 r) k := zar (fpH id c0 r) p.1 k _
     simp only [cond_false] at h
     rw [e2] at h
     split at h
     · rename_i hk
       injection h with h
       exact ⟨by omega,p.2,by rw [e,if_pos hk],h.symm⟩
     · rename_i hk
       obtain ⟨h1,c,h2,h3⟩ := fpH_get h
       exact ⟨h1,c,by rw [e,if_neg hk]; exact h2,h3⟩
theorem slot_fpL {id : Nat} {c0 : Value} : ∀ (sl : List AV) (t : Nat),slot (fpL id c0 sl) t = (slot sl t).fp id c0
 | [],t => rfl
 | x :: xs,0 => rfl
 | x :: xs,t + 1 => slot_fpL xs t
theorem rel_fp {w0 : World} {E : Nat → Prop} {B : Bs} {w : World} {loc : Loc} {a : Act} {sl : List AV} {H : Heap} {nx : Nat} (id : Nat) (c0 : Value) (hl : look H id = some (.g 1 [.w c0])) (hB : Base w0 B w loc) (hr : Rel' w0 E loc ⟨sl,H,nx⟩ a w) (hlive : loc.m id ≠ .free) : Rel w0 E B ⟨fpL id c0 sl,fpH id c0 H,nx⟩ a w := by
 have hblk := hr.heap id _ hl
 have hor : ∃ b,loc.m id = .here b ∧ b < w.heap.size ∧ Lies w loc (.g 1 [.w c0]) b ∧ (∀ k,loc.m k = .here b → k = id) ∧ ¬ loc.bad b := by
   unfold BlkR at hblk
   cases e : loc.m id with
   | free => exact (hlive e).elim
   | dead => rw [e] at hblk; exact hblk.elim
   | nil => rw [e] at hblk; exact absurd hblk.2 (by simp [Blk.len])
   | here b =>
     rw [e] at hblk
     have h1 := hr.env.lies id b e
     refine ⟨b,rfl,h1.1,hblk.2,fun k hk => hr.env.inj k id b hk e,fun hb => ?_⟩
     have h2 := hr.env.bad b hb
     rcases h1.2 with h3 | h3
     · omega
     · exact h2.2 h3
 have hset : ∀ {k c},(loc.set id .dead).m k = .here c → loc.m k = .here c := by
   intro k c h
   by_cases hk : k = id
   · subst hk; rw [Loc.set_same] at h; cases h
   · rwa [Loc.set_other _ _ hk] at h
 refine ⟨loc.set id .dead,⟨hB.1,hB.2.1,fun k hk => ?_⟩,⟨?_,fun t => ?_,?_,⟨hr.env.os,hr.env.tape,hr.env.output,hr.env.size,hr.env.same,fun i j b h1 h2 => hr.env.inj i j b (hset h1) (hset h2),fun i b h1 => hr.env.lies i b (hset h1),hr.env.bad⟩,?_,hr.defers,?_⟩⟩
 · by_cases hne : k = id
   · subst hne; left; rw [Loc.set_same]
   · rw [Loc.set_other _ _ hne]; exact hB.2.2 k hk
 · rw [hr.size]; exact ((zdq id c0 sl).1).symm
 · simp only; rw [slot_fpL]; exact fp_R hor (hr.slots t)
 · intro k b hk
   obtain ⟨h1,c,h2,rfl⟩ := fpH_get hk
   have h3 := hr.heap k c h2
   unfold BlkR at h3 ⊢
   rw [Loc.set_other _ _ h1]
   split
   · trivial
   · rename_i e; rw [e] at h3; exact h3
   · rename_i e; rw [e] at h3; exact ⟨ok_fp h3.1,by rw [len_fp]; exact h3.2⟩
   · rename_i d e
     rw [e] at h3
     rcases zbe c with ⟨x,hx,rfl⟩ | hodd
     · exact ⟨ok_fp h3.1,.mkO (Thing.move (loc := loc) (fun c _ hM => hM.imp (fun h => h) (fun ⟨k,h⟩ => ⟨k,hset h⟩)) (h3.2.is hx)) rfl⟩
     obtain ⟨cur,el,fi,g1,g2,g3,g4,g5⟩ := h3.2.lies hodd
     have hlen : (c.fp id c0).flat.length = c.flat.length := by rw [flat_fp,(zdq id c0 _).1]
     refine ⟨ok_fp h3.1,.mkC ⟨cur,el,fi,g1,g2,g3,by omega,fun j x y => ?_⟩ (odd_fp.trans hodd)⟩
     have h6 := g5 j (by omega) y
     have e : (c.fp id c0).flat[j] = (c.flat[j]'(by omega)).fp id c0 := by
       have := (zdq id c0 c.flat).2 j (by rw [(zdq id c0 _).1]; omega) (by omega)
       rw [← this]
       congr 1
       exact flat_fp id c0 c
     rw [e]
     exact ⟨fp_leaf h6.1,fp_R hor h6.2⟩
 · intro k hk
   by_cases hne : k = id
   · exact (hlive (hne ▸ hr.fresh k hk)).elim
   · rw [Loc.set_other _ _ hne]; exact hr.fresh k hk
 · intro k b hk
   obtain ⟨h1,c,h2,rfl⟩ := fpH_get hk
   exact hr.low k c h2
theorem weak_fp {sl : List AV} {H : Heap} {nx : Nat} (id i : Nat) (c0 : Value) (hl : look H id = some (.g 1 [.w c0])) (hi : id ∈ (slot sl i).ids) : Weak ⟨sl,H,nx⟩ ⟨fpL id c0 sl,fpH id c0 H,nx⟩ := by
 rintro w0 E B a w ⟨loc,hB,hr⟩
 exact rel_fp id c0 hl hB hr (zcp _ _ (hr.slots i) hi)
end Ax
end Go.Proofs.Ytckbejanaebjkaa
namespace Go.Proofs.Ytckbejanaebjkaa
open Ax
def wrI (a : Int) : Int := (a + 9223372036854775808) % 18446744073709551616 - 9223372036854775808
def lateB (t now g : Int) : Bool := decide (0 ≤ now) && (decide (0 ≤ t) && decide (max g 0 < wrI (now - t)))
def zcu (m : KM) (b : Int) (r : Rec) (now g : Int) : Bool := !r.k || (decide ((gtK m r.key).getD 0 = offI b r.d) && !(r.dd && lateB r.t now g))
def late17S : zay
 | [.agg [.w (.int .i64 d),.w (.int .i64 t),.w (.bool k),.str key,.w (.bool dd),.str val],.w (.int .i64 now),.w (.int .i64 g)],[] => ⟨True,.w (.bool (lateB t now g)),[]⟩
 | _,_ => zer
def stays17S : zay
 | [.agg [.w (.int .i64 b),.w (.int .i64 c),.w (.int .i64 p),.w (.int .i64 e),.w (.int .i64 s),.sg 6 xs f],.agg [.w (.int .i64 d),.w (.int .i64 t),.w (.bool k),.str key,.w (.bool dd),.str val],.rf 0 0 0 0,.w (.int .i64 now),.w (.int .i64 g)],[.o (.mp es)] =>
     ⟨∃ m,es = kvA m,.w (.bool (zcu (es.map ukv) b ⟨d,t,k,key,dd,val⟩ now g)),[.o (.mp es)]⟩
 | _,_ => zer
section
set_option maxRecDepth 100000
theorem late17_sound : zcn Try.prog 28 late17S := by
 refine zbs (S := noS) (T := ty) zet ty_ok noS_ok Try.func28 (c := Try.f28.body.getD .skip) (by kernel_rfl) (by kernel_rfl) (fun xs pins hp _ => ?_)
 unfold late17S at hp ⊢
 split at hp
 · rename_i d t k key dd val now g _
   refine ⟨by simp,?_⟩
   have hw : (now - t + 9223372036854775808) % 18446744073709551616 - 9223372036854775808 = wrI (now - t) := rfl
   have hm : (if g > 0 then g else 0) = max g 0 := by split <;> omega
   have hm2 : (if 0 > g then 0 else g) = max g 0 := by split <;> omega
   obtain ⟨W,hW⟩ : ∃ W,wrI (now - t) = W := ⟨_,rfl⟩
   obtain ⟨V,hV⟩ : ∃ V,max g 0 = V := ⟨_,rfl⟩
   rw [hW] at hw
   rw [hV] at hm hm2
   unfold Try.f28
   by_cases h1 : 0 ≤ now <;> by_cases h2 : 0 ≤ t <;> by_cases h3 : V < W
   all_goals
     simp only [go_sem,zaa,Nat.reduceAdd,Nat.reduceSub,Nat.reduceMul,Int.reduceToNat,reduceCtorEq,↓reduceIte,Int.reducePow,Nat.reducePow,Int.reduceMod,Nat.reduceLeDiff,Int.reduceLE,Int.reduceNe,Int.reduceEq,Nat.reduceEqDiff,Nat.reduceLT,Nat.reduceBEq,ty,noS,hw,hm,hm2,hV,h1,h2,h3,decide_true,decide_false]
     unfold lateB
     rw [hW,hV]
     simp [h1,h2,h3]
 · exact hp.elim
def Sst17 (f : FuncId) : Option zay :=
 match f with
 | 28 => some late17S
 | _ => none
theorem Sst17_ok : Fns Try.prog Sst17 := by
 intro f s h
 unfold Sst17 at h
 split at h
 · injection h with h; subst h; exact ⟨⟨_,Try.func28,by kernel_rfl,by kernel_rfl⟩,late17_sound⟩
 · cases h
theorem stays17_sound : zcn Try.prog 20 stays17S := by
 refine zbs (S := Sst17) (T := ty) zet ty_ok Sst17_ok Try.func20 (c := Try.f20.body.getD .skip) (by kernel_rfl) (by kernel_rfl) (fun xs pins hp _ => ?_)
 unfold stays17S at hp ⊢
 split at hp
 · rename_i b c p e s xs f d t k key dd val now g es _
   obtain ⟨m,rfl⟩ := hp
   refine ⟨by simp,?_⟩
   rw [ukv_kvA]
   have hof : (b + d + 9223372036854775808) % 18446744073709551616 - 9223372036854775808 = offI b d := rfl
   obtain ⟨O,hO⟩ : ∃ O,offI b d = O := ⟨_,rfl⟩
   rw [hO] at hof
   obtain ⟨L,hL⟩ : ∃ L,lateB t now g = L := ⟨_,rfl⟩
   unfold Try.f20
   cases k with
   | false =>
     have hv : zcu m b ⟨d,t,false,key,dd,val⟩ now g = true := rfl
     simp only [go_sem,zaa,Nat.reduceAdd,Nat.reduceSub,Nat.reduceMul,Int.reduceToNat,reduceCtorEq,↓reduceIte,Int.reducePow,Nat.reducePow,Int.reduceMod,Nat.reduceLeDiff,Int.reduceLE,Int.reduceNe,Int.reduceEq,Nat.reduceEqDiff,Nat.reduceLT,Nat.reduceBEq,ty,Sst17,hv,Bool.not_false]
   | true =>
     rcases hx : ixK key m 0 with _ | ⟨j,a⟩
     · have hg : (gtK m key).getD 0 = 0 := by unfold gtK; rw [hx]; rfl
       have hv : zcu m b ⟨d,t,true,key,dd,val⟩ now g = (decide (0 = O) && !(dd && L)) := by unfold zcu; simp only [hg,hO,hL]; rfl
       by_cases h1 : 0 = O <;> cases dd <;> cases L
       all_goals
         simp only [h1,decide_true,decide_false,Bool.true_and,Bool.false_and,Bool.and_true,Bool.and_false,Bool.not_true,Bool.not_false] at hv
         simp only [go_sem,zaa,Nat.reduceAdd,Nat.reduceSub,Nat.reduceMul,Int.reduceToNat,reduceCtorEq,↓reduceIte,Int.reducePow,Nat.reducePow,Int.reduceMod,Nat.reduceLeDiff,Int.reduceLE,Int.reduceNe,Int.reduceEq,Nat.reduceEqDiff,Nat.reduceLT,Nat.reduceBEq,ty,Sst17,late17S,hv,hof,hL,zfg,hx,mpI_none,h1,decide_true,decide_false,Bool.not_true,Bool.not_false]
     · have hg : (gtK m key).getD 0 = a := by unfold gtK; rw [hx]; rfl
       have hv : zcu m b ⟨d,t,true,key,dd,val⟩ now g = (decide (a = O) && !(dd && L)) := by unfold zcu; simp only [hg,hO,hL]; rfl
       by_cases h1 : a = O <;> cases dd <;> cases L
       all_goals
         simp only [h1,decide_true,decide_false,Bool.true_and,Bool.false_and,Bool.and_true,Bool.and_false,Bool.not_true,Bool.not_false] at hv
         simp only [go_sem,zaa,Nat.reduceAdd,Nat.reduceSub,Nat.reduceMul,Int.reduceToNat,reduceCtorEq,↓reduceIte,Int.reducePow,Nat.reducePow,Int.reduceMod,Nat.reduceLeDiff,Int.reduceLE,Int.reduceNe,Int.reduceEq,Nat.reduceEqDiff,Nat.reduceLT,Nat.reduceBEq,ty,Sst17,late17S,hv,hof,hL,zfg,hx,mpI_some,h1,decide_true,decide_false,Bool.not_true,Bool.not_false]
 · exact hp.elim
def goes17S : zay
 | [.agg [.w (.int .i64 d),.w (.int .i64 t),.w (.bool k),.str key,.w (.bool dd),.str val],.rf 0 6 0 0,.rf 1 1 0 0,.cp [.w (.int .i64 now)],.cp [.w (.int .i64 g)]],[.g 6 [.agg [.w (.int .i64 b),.w (.int .i64 c),.w (.int .i64 p),.w (.int .i64 e),.w (.int .i64 s),.sg 6 xs f]],.g 1 [.rf 2 0 0 0],.o (.mp es)] =>
     ⟨∃ m,es = kvA m,.w (.bool (!zcu (es.map ukv) b ⟨d,t,k,key,dd,val⟩ now g)),[.g 6 [.agg [.w (.int .i64 b),.w (.int .i64 c),.w (.int .i64 p),.w (.int .i64 e),.w (.int .i64 s),.sg 6 xs f]],.g 1 [.rf 2 0 0 0],.o (.mp es)]⟩
 | _,_ => zer
def Sgo17 (f : FuncId) : Option zay :=
 match f with
 | 20 => some stays17S
 | _ => none
theorem Sgo17_ok : Fns Try.prog Sgo17 := by
 intro f s h
 unfold Sgo17 at h
 split at h
 · injection h with h; subst h; exact ⟨⟨_,Try.func20,by kernel_rfl,by kernel_rfl⟩,stays17_sound⟩
 · cases h
def stdPl : XPlan := fun _ => .std
theorem goes17_sound : SoundO Try.prog 22 goes17S := by
 refine fn_soundO (S := Sgo17) (SO := noO) (T := ty) zet ty_ok Sgo17_ok noO_ok Try.func22 (c := Try.f22.body.getD .skip) (by kernel_rfl) (fun xs pins hp => ?_)
 unfold goes17S at hp ⊢
 split at hp
 · rename_i d t k key dd val now g b c p e s xs f es
   have hp : ∃ m,es = kvA m := hp
   refine ⟨by simp,stdPl,by kernel_rfl,?_⟩
   obtain ⟨V,hV⟩ : ∃ V,zcu (es.map ukv) b ⟨d,t,k,key,dd,val⟩ now g = V := ⟨_,rfl⟩
   unfold Try.f22
   simp only [go_sem,zac,Nat.reduceAdd,Nat.reduceSub,Nat.reduceMul,Int.reduceToNat,reduceCtorEq,↓reduceIte,Int.reducePow,Nat.reducePow,Int.reduceMod,Nat.reduceLeDiff,Int.reduceLE,Int.reduceNe,Int.reduceEq,Nat.reduceEqDiff,Nat.reduceLT,Nat.reduceBEq,List.map_cons,List.map_nil,List.toList_toArray,Array.toList_append,Option.toArray_some,Option.toArray_none,Bool.and_self,ty,Sgo17,stays17S,stdPl,hp,hV]
   try (refine ⟨_,Weak.refl _,?_⟩)
   try simp only [go_sem,zac,Nat.reduceAdd,Nat.reduceSub,Nat.reduceMul,Int.reduceToNat,reduceCtorEq,↓reduceIte,Int.reducePow,Nat.reducePow,Int.reduceMod,Nat.reduceLeDiff,Int.reduceLE,Int.reduceNe,Int.reduceEq,Nat.reduceEqDiff,Nat.reduceLT,Nat.reduceBEq,List.map_cons,List.map_nil,List.toList_toArray,Array.toList_append,Option.toArray_some,Option.toArray_none,Bool.and_self,ty,Sgo17,hV]
 · exact hp.elim
end
end Go.Proofs.Ytckbejanaebjkaa
namespace Go.Proofs.Ytckbejanaebjkaa
open Ax
def findI (P : Rec → Bool) : List Rec → Int → Int
 | [],_ => -1
 | r :: rs,i => if P r then i else findI P rs (i + 1)
section
set_option maxRecDepth 100000
set_option maxHeartbeats 1000000 in
end
end Go.Proofs.Ytckbejanaebjkaa
namespace Go.Proofs.Ytckbejanaebjkaa
namespace Ax
theorem zey {S : zai} {T : zab} {ops : List Oper} {pl : List (Nat × Nat)} {Q Q' : List AV → Heap → Prop} (hq : ∀ sl H,Q sl H → Q' sl H) : ∀ (l : List Oper) (nm : Nat) (acc : List (Nat × List Nat)) (sl : List AV) (H : Heap),zdx S T ops pl nm acc l sl H Q → zdx S T ops pl nm acc l sl H Q'
 | [],nm,acc,sl,H,h => ⟨h.1,hq sl H h.2⟩
 | o :: r,nm,acc,sl,H,h => by
   unfold zdx at h ⊢
   cases hg : o.guard with
   | none => simp only [hg] at h ⊢; exact ⟨h.1,zey hq r _ _ _ _ h.2⟩
   | some g =>
     obtain ⟨j,want⟩ := g
     simp only [hg] at h ⊢
     cases hs : guardSlot ops j with
     | none => simp [hs] at h
     | some d =>
       simp only [hs] at h ⊢
       split at h
       · exact ⟨fun e => ⟨(h.1 e).1,zey hq r _ _ _ _ (h.1 e).2⟩,fun e => zey hq r _ _ _ _ (h.2 e)⟩
       · exact zey hq r _ _ _ _ h
       · exact h.elim
theorem aopsO_mono {S SO : zai} {T : zab} {ops : List Oper} {Q Q' : List AV → Heap → Prop} (hq : ∀ sl H,Q sl H → Q' sl H) : ∀ (k nm : Nat) (l : List Oper) (sl : List AV) (H : Heap),aopsO S SO T ops k nm l sl H Q → aopsO S SO T ops k nm l sl H Q'
 | k,nm,[],sl,H,h => by unfold aopsO at h ⊢; exact hq _ _ h
 | 0,nm,o :: r,sl,H,h => by unfold aopsO at h ⊢; exact ⟨h.1,h.2.1,zcf hq _ _ _ _ h.2.2⟩
 | k + 1,nm,o :: r,sl,H,h => by unfold aopsO at h ⊢; exact ⟨h.1,h.2.1,aopsO_mono hq k _ r _ _ h.2.2⟩
theorem specOp_mono {T : zab} {sl : List AV} {op : Op} {K K' : AV → Prop} (hk : ∀ x,K x → K' x) (h : specOp T sl op K) : specOp T sl op K' := by
 unfold specOp at h ⊢
 repeat' split at h
 all_goals first
   | exact h.elim
   | simp_all
theorem aopsT_mono {S : zai} {T : zab} {ops : List Oper} {Q Q' : List AV → Heap → Prop} (hq : ∀ sl H,Q sl H → Q' sl H) : ∀ (k : List Bool) (nm : Nat) (l : List Oper) (sl : List AV) (H : Heap),zfk S T ops k nm l sl H Q → zfk S T ops k nm l sl H Q'
 | k,nm,[],sl,H,h => by unfold zfk at h ⊢; exact hq _ _ h
 | [],nm,o :: r,sl,H,h => by unfold zfk at h ⊢; exact zcf hq _ _ _ _ h
 | true :: k,nm,o :: r,sl,H,h => by unfold zfk at h ⊢; exact ⟨h.1,specOp_mono (fun x hx => aopsT_mono hq k _ r _ _ hx) h.2⟩
 | false :: k,nm,o :: r,sl,H,h => by unfold zfk at h ⊢; exact ⟨h.1,h.2.1,aopsT_mono hq k _ r _ _ h.2.2⟩
theorem frzK_mono {l : List Nat} {sl : List AV} {H : Heap} {K K' : List AV → Heap → Prop} (hk : ∀ sl H,K sl H → K' sl H) (h : frzK l sl H K) : frzK l sl H K' := ⟨h.1,hk _ _ h.2⟩
theorem awpO_mono {S SO : zai} {T : zab} {pl : XPlan} : ∀ (c : Code) (Q Q' : Exit → ASt → Prop) (σ : ASt),(∀ e σ,Q e σ → Q' e σ) → awpO S SO T pl c Q σ → awpO S SO T pl c Q' σ := by
 intro c
 induction c with
 | skip => intro Q Q' σ hq h; exact hq _ _ h
 | label l => intro Q Q' σ hq h; exact hq _ _ h
 | region id ops draw =>
   intro Q Q' σ hq h
   simp only [awpO] at h ⊢
   split at h
   · exact zcf (fun _ _ h => hq _ _ h) _ _ _ _ h
   · exact zey (fun _ _ h => hq _ _ h) _ _ _ _ _ h
   · exact frzK_mono (fun _ _ h => zcf (fun _ _ h => hq _ _ h) _ _ _ _ h) h
   · exact frzK_mono (fun _ _ h => aopsO_mono (fun _ _ h => hq _ _ h) _ _ _ _ _ h) h
   · exact aopsT_mono (fun _ _ h => hq _ _ h) _ _ _ _ _ h
 | seq a b iha ihb =>
   intro Q Q' σ hq h
   refine iha _ _ σ ?_ h
   intro e σ h
   cases e with
   | normal => exact ihb _ _ σ hq h
   | _ => exact hq _ _ h
 | cond c a b iha ihb =>
   intro Q Q' σ hq h
   simp only [awpO] at h ⊢
   split at h
   · exact ⟨fun e => iha _ _ σ hq (h.1 e),fun e => ihb _ _ σ hq (h.2 e)⟩
   · exact h.elim
 | block id c ih =>
   intro Q Q' σ hq h
   refine ih _ _ σ ?_ h
   intro e σ h
   cases e with
   | exit id' =>
     simp only [zee] at h ⊢
     split at h
     · rename_i he; rw [if_pos he]; exact hq _ _ h
     · rename_i he; rw [if_neg he]; exact hq _ _ h
   | _ => exact hq _ _ h
 | loop c ih =>
   intro Q Q' σ hq h
   obtain ⟨I,hst,hr⟩ := h
   refine ⟨I,hst,fun n σ' hI => ih _ _ σ' ?_ (hr n σ' hI)⟩
   intro e σ h
   cases e with
   | normal => exact h
   | _ =>
     obtain ⟨σ2,hw,h⟩ := h
     exact ⟨σ2,hw,hq _ _ h⟩
 | exit id => intro Q Q' σ hq h; exact hq _ _ h
 | ret => intro Q Q' σ hq h; exact hq _ _ h
 | _ => intro Q Q' σ hq h; exact h.elim
def unK (A : ASt → Prop) (Q : Exit → ASt → Prop) (e : Exit) (σ : ASt) : Prop := match e with
 | .normal => A σ
 | e => Q e σ
def unr (f : (Exit → ASt → Prop) → ASt → Prop) (Q : Exit → ASt → Prop) : Nat → ASt → Prop
 | 0,_ => False
 | n + 1,σ => f (unK (unr f Q n) Q) σ
theorem aloop_unr {f : (Exit → ASt → Prop) → ASt → Prop} {Q : Exit → ASt → Prop} (mono : ∀ (Q Q' : Exit → ASt → Prop) (σ : ASt),(∀ e σ,Q e σ → Q' e σ) → f Q σ → f Q' σ) (n : Nat) (σ : ASt) (h : unr f Q n σ) : ALoop f Q σ := by
 refine ⟨fun k τ => unr f Q k τ,⟨n,σ,Weak.refl _,h⟩,?_⟩
 intro k τ hI
 cases k with
 | zero => exact hI.elim
 | succ k =>
   refine mono _ _ τ ?_ hI
   intro e σ1 h1
   cases e with
   | normal => exact ⟨k,σ1,Nat.lt_succ_self k,Weak.refl _,h1⟩
   | _ => exact ⟨σ1,Weak.refl _,h1⟩
theorem awpO_unr {S SO : zai} {T : zab} {pl : XPlan} {c : Code} {Q : Exit → ASt → Prop} {σ : ASt} (n : Nat) (h : unr (awpO S SO T pl c) Q n σ) : awpO S SO T pl (.loop c) Q σ :=
 awpO_loopW (aloop_unr (fun Q Q' σ hq h => awpO_mono _ Q Q' σ hq h) n σ h)
theorem unrO_go {S SO : zai} {T : zab} {pl : XPlan} {c : Code} {Q : Exit → ASt → Prop} {σ : ASt} {n : Nat} : unr (awpO S SO T pl c) Q (n + 1) σ = awpO S SO T pl c (unK (unr (awpO S SO T pl c) Q n) Q) σ := rfl
theorem unK_normal {A : ASt → Prop} {Q : Exit → ASt → Prop} {σ : ASt} : unK A Q .normal σ = A σ := rfl
theorem unK_exit {A : ASt → Prop} {Q : Exit → ASt → Prop} {σ : ASt} {id : Nat} : unK A Q (.exit id) σ = Q (.exit id) σ := rfl
theorem unK_ret {A : ASt → Prop} {Q : Exit → ASt → Prop} {σ : ASt} : unK A Q .ret σ = Q .ret σ := rfl
end Ax
end Go.Proofs.Ytckbejanaebjkaa
namespace Go.Proofs.Ytckbejanaebjkaa
open Ax
theorem sg_false {w : World} {loc : Ax.Loc} {v : Value} {s : Nat} (s' : Nat) {f : Bool} (h : R w loc (.sg s [] f) v) : R w loc (.sg s' [] false) v := by
 cases h with
 | sg _ _ _ a cap cs hd hs hc hl hx hh => exact .sg s' [] false a cap cs ⟨hd.le,hd.top,fun h => by cases h⟩ (by simp) hc hl hx hh
def emp6 (xs : List AV) : Bool := xs.isEmpty
theorem emp6_nil : emp6 [] = true := rfl
def cloneUS : zay
 | [.sg 6 xs f],[] => ⟨xs.length ≤ 1000000 ∧ ∃ rs : List Rec,xs = rs.map rv,bif emp6 xs then .sg 6 [] false else .ms 0 6 0 xs.length,bif emp6 xs then [] else [.g 6 xs]⟩
 | _,_ => zer
def cloneUPl : XPlan := fun id => match id with
 | 1 => .tst [false,true]
 | _ => .std
def cloneUPl0 : XPlan := fun id => match id with
 | 1 => .tst [false,true]
 | 3 => .tst [true,false,true]
 | _ => .std
def goB (m : KM) (b now g : Int) (r : Rec) : Bool := !zcu m b r now g
def idx17S : zay
 | [.ms 0 6 0 n,.fn id [.rf 1 6 0 0,.rf 2 1 0 0,.cp [.w (.int .i64 now)],.cp [.w (.int .i64 g)]]],[.g 6 ys,.g 6 [.agg [.w (.int .i64 b),.w (.int .i64 c),.w (.int .i64 p),.w (.int .i64 e),.w (.int .i64 s),.sg 6 xs f]],.g 1 [.rf 3 0 0 0],.o (.mp es)] =>
     ⟨id = 22 ∧ (0 < n ∧ n = ys.length ∧ n ≤ 1000000) ∧ (∃ rs : List Rec,ys = rs.map rv) ∧ ∃ m,es = kvA m,.w (.int .i64 (findI (goB (es.map ukv) b now g) (ys.map rrec) 0)),[.g 6 ys,.g 6 [.agg [.w (.int .i64 b),.w (.int .i64 c),.w (.int .i64 p),.w (.int .i64 e),.w (.int .i64 s),.sg 6 xs f]],.g 1 [.rf 3 0 0 0],.o (.mp es)]⟩
 | [.sg 6 [] f0,.fn id [.rf 0 6 0 0,.rf 1 1 0 0,.cp [.w (.int .i64 now)],.cp [.w (.int .i64 g)]]],[.g 6 [.agg [.w (.int .i64 b),.w (.int .i64 c),.w (.int .i64 p),.w (.int .i64 e),.w (.int .i64 s),.sg 6 xs f]],.g 1 [.rf 2 0 0 0],.o (.mp es)] =>
     ⟨id = 22,.w (.int .i64 (-1)),[.g 6 [.agg [.w (.int .i64 b),.w (.int .i64 c),.w (.int .i64 p),.w (.int .i64 e),.w (.int .i64 s),.sg 6 xs f]],.g 1 [.rf 2 0 0 0],.o (.mp es)]⟩
 | _,_ => zer
def Ogo17 (f : FuncId) : Option zay :=
 match f with
 | 22 => some goes17S
 | _ => none
theorem Ogo17_ok : FnsO Try.prog Ogo17 := by
 intro f s h
 unfold Ogo17 at h
 split at h
 · injection h with h; subst h; exact ⟨⟨_,Try.func22,by kernel_rfl,by kernel_rfl⟩,goes17_sound⟩
 · cases h
def zcv : XPlan := fun id => match id with
 | 4 => .opn [] 5
 | _ => .std
section
set_option maxRecDepth 100000
set_option maxHeartbeats 1000000 in
theorem cloneU_sound : zcn Try.prog 24 cloneUS := by
 refine fn_soundOK (S := noS) (SO := noO) (T := ty) zet ty_ok noS_ok noO_ok Try.func24 (c := Try.f24.body.getD .skip) (by kernel_rfl) (fun xs pins hp _ => ?_)
 unfold cloneUS at hp ⊢
 split at hp
 · rename_i xs f _
   obtain ⟨hL,rs,rfl⟩ := hp
   rw [List.length_map] at hL
   have hl4 : (rs.map rv).length = rs.length := by simp
   by_cases hz : rs.length = 0
   · obtain rfl : rs = [] := List.eq_nil_of_length_eq_zero hz
     refine ⟨by simp,cloneUPl0,by kernel_rfl,?_⟩
     unfold Try.f24
     simp only [go_sem,zac,Nat.reduceAdd,Nat.reduceSub,Nat.reduceMul,Int.reduceToNat,reduceCtorEq,↓reduceIte,Int.reducePow,Nat.reducePow,Int.reduceMod,Nat.reduceLeDiff,Int.reduceLE,Int.reduceNe,Int.reduceEq,Nat.reduceEqDiff,Nat.reduceLT,Nat.reduceBEq,List.map_cons,List.map_nil,List.toList_toArray,Array.toList_append,Option.toArray_some,Option.toArray_none,Bool.and_self,ty,noS,cloneUPl0,specOp,hl4]
     repeat (refine And.intro (by omega) ?_)
     intro b
     refine ⟨fun hb => ?_,fun hb => ?_⟩
     · refine ⟨_,weak_slot 2 (.sg 6 [] false) (fun w loc v h => sg_false 6 h),?_⟩
       simp only [go_sem,zac,Nat.reduceAdd,Nat.reduceSub,Nat.reduceMul,Int.reduceToNat,reduceCtorEq,↓reduceIte,Int.reducePow,Nat.reducePow,Int.reduceMod,Nat.reduceLeDiff,Int.reduceLE,Int.reduceNe,Int.reduceEq,Nat.reduceEqDiff,Nat.reduceLT,Nat.reduceBEq,List.map_cons,List.map_nil,List.toList_toArray,Array.toList_append,Option.toArray_some,Option.toArray_none,Bool.and_self,ty,noS,emp6_nil,cond_true,cond_false]
     · refine ⟨_,weak_slot 2 (.sg 6 [] false) (fun w loc v h => sg_false 6 h),?_⟩
       simp only [go_sem,zac,Nat.reduceAdd,Nat.reduceSub,Nat.reduceMul,Int.reduceToNat,reduceCtorEq,↓reduceIte,Int.reducePow,Nat.reducePow,Int.reduceMod,Nat.reduceLeDiff,Int.reduceLE,Int.reduceNe,Int.reduceEq,Nat.reduceEqDiff,Nat.reduceLT,Nat.reduceBEq,List.map_cons,List.map_nil,List.toList_toArray,Array.toList_append,Option.toArray_some,Option.toArray_none,Bool.and_self,ty,noS,emp6_nil,cond_true,cond_false]
   · refine ⟨by simp,cloneUPl,by kernel_rfl,?_⟩
     have hem : emp6 (rs.map rv) = false := by cases rs with | nil => simp at hz | cons _ _ => rfl
     have htop : rs.length ≤ top := by unfold top; omega
     unfold Try.f24
     simp only [go_sem,zac,Nat.reduceAdd,Nat.reduceSub,Nat.reduceMul,Int.reduceToNat,reduceCtorEq,↓reduceIte,Int.reducePow,Nat.reducePow,Int.reduceMod,Nat.reduceLeDiff,Int.reduceLE,Int.reduceNe,Int.reduceEq,Nat.reduceEqDiff,Nat.reduceLT,Nat.reduceBEq,List.map_cons,List.map_nil,List.toList_toArray,Array.toList_append,Option.toArray_some,Option.toArray_none,Bool.and_self,ty,noS,cloneUPl,specOp,hl4]
     repeat (refine And.intro (by omega) ?_)
     intro b hb
     obtain rfl : b = false := by cases b with | false => rfl | true => exact absurd (hb rfl) hz
     simp only [go_sem,zac,Nat.reduceAdd,Nat.reduceSub,Nat.reduceMul,Int.reduceToNat,reduceCtorEq,↓reduceIte,Int.reducePow,Nat.reducePow,Int.reduceMod,Nat.reduceLeDiff,Int.reduceLE,Int.reduceNe,Int.reduceEq,Nat.reduceEqDiff,Nat.reduceLT,Nat.reduceBEq,List.map_cons,List.map_nil,List.toList_toArray,Array.toList_append,Option.toArray_some,Option.toArray_none,Bool.and_self,ty,noS,cloneUPl,specOp,hl4,hem,cond_false]
     refine ⟨htop,_,Weak.refl _,?_⟩
     simp only [go_sem,zac,Nat.reduceAdd,Nat.reduceSub,Nat.reduceMul,Int.reduceToNat,reduceCtorEq,↓reduceIte,Int.reducePow,Nat.reducePow,Int.reduceMod,Nat.reduceLeDiff,Int.reduceLE,Int.reduceNe,Int.reduceEq,Nat.reduceEqDiff,Nat.reduceLT,Nat.reduceBEq,List.map_cons,List.map_nil,List.toList_toArray,Array.toList_append,Option.toArray_some,Option.toArray_none,Bool.and_self,ty,noS,hl4,hem,cond_false,zas]
 · exact hp.elim
set_option maxHeartbeats 2000000 in
theorem idx17_sound : SoundO Try.prog 29 idx17S := by
 refine fn_soundO (S := noS) (SO := Ogo17) (T := ty) zet ty_ok noS_ok Ogo17_ok Try.func29 (c := Try.f29.body.getD .skip) (by kernel_rfl) (fun xs pins hp => ?_)
 unfold idx17S at hp ⊢
 split at hp
 · rename_i n id now g ys b c p e s xs f es
   obtain ⟨rfl,⟨hn,rfl,hL⟩,⟨rs,rfl⟩,hm⟩ := hp
   obtain ⟨M,hM⟩ : ∃ M,es.map ukv = M := ⟨_,rfl⟩
   rw [List.length_map] at hL hn
   refine ⟨by simp,zcv,by kernel_rfl,?_⟩
   have hl4 : (rs.map rv).length = rs.length := by simp
   have dpos : decide (0 < rs.length) = true := decide_eq_true hn
   obtain ⟨A,hA⟩ : ∃ A,goB M b now g = A := ⟨_,rfl⟩
   unfold Try.f29
   simp only [go_sem,zac,Nat.reduceAdd,Nat.reduceSub,Nat.reduceMul,Int.reduceToNat,reduceCtorEq,↓reduceIte,Int.reducePow,Nat.reducePow,Int.reduceMod,Nat.reduceLeDiff,Int.reduceLE,Int.reduceNe,Int.reduceEq,Nat.reduceEqDiff,Nat.reduceLT,Nat.reduceBEq,List.map_cons,List.map_nil,List.toList_toArray,Array.toList_append,Option.toArray_some,Option.toArray_none,Bool.and_self,ty,noS,Ogo17,zcv,hl4,zan,hM,hA]
   refine awpO_loopW ⟨fun m σ => ∃ i : Nat,m = rs.length - i ∧ i ≤ rs.length ∧ findI A rs 0 = findI A (rs.drop i) i ∧
       σ = ⟨[.ms 0 6 0 rs.length,.fn 22 [.rf 1 6 0 0,.rf 2 1 0 0,.cp [.w (.int .i64 now)],.cp [.w (.int .i64 g)]],.junk,.junk,.junk,.junk,.junk,.w (.int .i64 rs.length),.w (.int .i64 i),.junk,.junk,.junk,.junk,.junk,.junk,.junk,.junk,.junk,.junk],
         [(0,.g 6 (rs.map rv)),(1,.g 6 [.agg [.w (.int .i64 b),.w (.int .i64 c),.w (.int .i64 p),.w (.int .i64 e),.w (.int .i64 s),.sg 6 xs f]]),(2,.g 1 [.rf 3 0 0 0]),(3,.o (.mp es))],4⟩,?_,?_⟩
   · refine ⟨_,_,zae [0,1,2,3] rfl rfl rfl ?_ ?_,0,rfl,by omega,by rw [List.drop_zero]; rfl,rfl⟩
     · simp only [ssT,zaf,zag,setSlot,gOf,AV.ren,renL,Blk.ren,Ax.look,Ax.put,reduceCtorEq,↓reduceIte,Nat.reduceEqDiff,Nat.reduceLT,Nat.reduceAdd,List.length_append,List.length_cons,List.length_nil,Option.some.injEq]; try simp
     · simp only [ssT,zaf,zag,setSlot,gOf,AV.ren,renL,Blk.ren,Ax.look,Ax.put,reduceCtorEq,↓reduceIte,Nat.reduceEqDiff,Nat.reduceLT,Nat.reduceAdd,List.length_append,List.length_cons,List.length_nil,Option.some.injEq,zbj]
   · rintro m σ ⟨i,rfl,hi,hinv,rfl⟩
     by_cases hil : i < rs.length
     · have e1 : ((i : Int) + 1 + 9223372036854775808) % 18446744073709551616 - 9223372036854775808 = ((i + 1 : Nat) : Int) := by omega
       have d1 : decide ((i : Int) < rs.length) = true := decide_eq_true (by omega)
       have hs1 := zbf rv rs i hil
       have hdr : rs.drop i = rs[i] :: rs.drop (i + 1) := List.drop_eq_getElem_cons hil
       obtain ⟨P,hP⟩ : ∃ P,rs[i] = P := ⟨_,rfl⟩
       rw [hP] at hs1 hdr
       simp only [rv] at hs1
       rw [hdr] at hinv
       obtain ⟨d,t,k,key,dd,val⟩ := P
       have hAP : (!zcu M b ⟨d,t,k,key,dd,val⟩ now g) = A ⟨d,t,k,key,dd,val⟩ := by rw [← hA]; rfl
       cases hap : A ⟨d,t,k,key,dd,val⟩ with
       | true =>
         have hv : findI A rs 0 = i := by rw [hinv]; unfold findI; rw [if_pos hap]
         simp only [go_sem,zac,Nat.reduceAdd,Nat.reduceSub,Nat.reduceMul,Int.reduceToNat,reduceCtorEq,↓reduceIte,Int.reducePow,Nat.reducePow,Int.reduceMod,Nat.reduceLeDiff,Int.reduceLE,Int.reduceNe,Int.reduceEq,Nat.reduceEqDiff,Nat.reduceLT,Nat.reduceBEq,List.map_cons,List.map_nil,List.toList_toArray,Array.toList_append,Option.toArray_some,Option.toArray_none,Bool.and_self,ty,noS,Ogo17,zcv,goes17S,hl4,dpos,hn,d1,hs1,hm,hM,hAP,hap,hv,zan,hA,Int.toNat_natCast]
         repeat (refine And.intro (by omega) ?_)
         refine ⟨_,Weak.refl _,?_⟩
         simp only [go_sem,zac,Nat.reduceAdd,Nat.reduceSub,Nat.reduceMul,Int.reduceToNat,reduceCtorEq,↓reduceIte,Int.reducePow,Nat.reducePow,Int.reduceMod,Nat.reduceLeDiff,Int.reduceLE,Int.reduceNe,Int.reduceEq,Nat.reduceEqDiff,Nat.reduceLT,Nat.reduceBEq,List.map_cons,List.map_nil,List.toList_toArray,Array.toList_append,Option.toArray_some,Option.toArray_none,Bool.and_self,ty,noS,zcv,hl4,dpos,hn,hv,zan,hA,zas,cond_true,zbj]
         refine ⟨_,Weak.refl _,?_⟩
         simp only [go_sem,zac,Nat.reduceAdd,Nat.reduceSub,Nat.reduceMul,Int.reduceToNat,reduceCtorEq,↓reduceIte,Int.reducePow,Nat.reducePow,Int.reduceMod,Nat.reduceLeDiff,Int.reduceLE,Int.reduceNe,Int.reduceEq,Nat.reduceEqDiff,Nat.reduceLT,Nat.reduceBEq,List.map_cons,List.map_nil,List.toList_toArray,Array.toList_append,Option.toArray_some,Option.toArray_none,Bool.and_self,ty,noS,zcv,hl4,dpos,hn,hv,zan,hA,zas,cond_true,zbj]
       | false =>
         have hv : findI A rs 0 = findI A (rs.drop (i + 1)) ((i + 1 : Nat) : Int) := by
           rw [hinv]; rw [findI,hap]; simp
         simp only [go_sem,zac,Nat.reduceAdd,Nat.reduceSub,Nat.reduceMul,Int.reduceToNat,reduceCtorEq,↓reduceIte,Int.reducePow,Nat.reducePow,Int.reduceMod,Nat.reduceLeDiff,Int.reduceLE,Int.reduceNe,Int.reduceEq,Nat.reduceEqDiff,Nat.reduceLT,Nat.reduceBEq,List.map_cons,List.map_nil,List.toList_toArray,Array.toList_append,Option.toArray_some,Option.toArray_none,Bool.and_self,ty,noS,Ogo17,zcv,goes17S,hl4,dpos,hn,d1,hs1,hm,hM,hAP,hap,e1,Int.toNat_natCast]
         repeat (refine And.intro (by omega) ?_)
         refine ⟨rs.length - (i + 1),_,by omega,zae [0,1,2,3] rfl rfl rfl ?_ ?_,i + 1,rfl,by omega,hv,rfl⟩
         · simp only [ssT,zaf,zag,setSlot,gOf,AV.ren,renL,Blk.ren,Ax.look,Ax.put,reduceCtorEq,↓reduceIte,Nat.reduceEqDiff,Nat.reduceLT,Nat.reduceAdd,List.length_append,List.length_cons,List.length_nil,Option.some.injEq]
         · simp only [ssT,zaf,zag,setSlot,gOf,AV.ren,renL,Blk.ren,Ax.look,Ax.put,reduceCtorEq,↓reduceIte,Nat.reduceEqDiff,Nat.reduceLT,Nat.reduceAdd,List.length_append,List.length_cons,List.length_nil,Option.some.injEq,zbj]
     · have d1 : decide ((i : Int) < rs.length) = false := decide_eq_false (by omega)
       have hdr : rs.drop i = [] := List.drop_eq_nil_of_le (by omega)
       rw [hdr] at hinv
       have hv : findI A rs 0 = -1 := hinv
       simp only [go_sem,zac,Nat.reduceAdd,Nat.reduceSub,Nat.reduceMul,Int.reduceToNat,reduceCtorEq,↓reduceIte,Int.reducePow,Nat.reducePow,Int.reduceMod,Nat.reduceLeDiff,Int.reduceLE,Int.reduceNe,Int.reduceEq,Nat.reduceEqDiff,Nat.reduceLT,Nat.reduceBEq,List.map_cons,List.map_nil,List.toList_toArray,Array.toList_append,Option.toArray_some,Option.toArray_none,Bool.and_self,ty,noS,Ogo17,zcv,hl4,d1,hv,zan,hA]
       refine ⟨_,Weak.refl _,?_⟩
       simp only [go_sem,zac,Nat.reduceAdd,Nat.reduceSub,Nat.reduceMul,Int.reduceToNat,reduceCtorEq,↓reduceIte,Int.reducePow,Nat.reducePow,Int.reduceMod,Nat.reduceLeDiff,Int.reduceLE,Int.reduceNe,Int.reduceEq,Nat.reduceEqDiff,Nat.reduceLT,Nat.reduceBEq,List.map_cons,List.map_nil,List.toList_toArray,Array.toList_append,Option.toArray_some,Option.toArray_none,Bool.and_self,ty,noS,zcv,hl4,dpos,hn,hv,zan,hA,zas,cond_true,zbj]
       refine ⟨_,Weak.refl _,?_⟩
       simp only [go_sem,zac,Nat.reduceAdd,Nat.reduceSub,Nat.reduceMul,Int.reduceToNat,reduceCtorEq,↓reduceIte,Int.reducePow,Nat.reducePow,Int.reduceMod,Nat.reduceLeDiff,Int.reduceLE,Int.reduceNe,Int.reduceEq,Nat.reduceEqDiff,Nat.reduceLT,Nat.reduceBEq,List.map_cons,List.map_nil,List.toList_toArray,Array.toList_append,Option.toArray_some,Option.toArray_none,Bool.and_self,ty,noS,zcv,hl4,dpos,hn,hv,zan,hA,zas,cond_true,zbj]
 · rename_i f0 id now g b c p e s xs f es
   obtain rfl := hp
   refine ⟨by simp,zcv,by kernel_rfl,?_⟩
   have z0 : decide ((0 : Int) < ((0 : Nat) : Int)) = false := rfl
   unfold Try.f29
   simp only [go_sem,zac,Nat.reduceAdd,Nat.reduceSub,Nat.reduceMul,Int.reduceToNat,reduceCtorEq,↓reduceIte,Int.reducePow,Nat.reducePow,Int.reduceMod,Nat.reduceLeDiff,Int.reduceLE,Int.reduceNe,Int.reduceEq,Nat.reduceEqDiff,Nat.reduceLT,Nat.reduceBEq,List.map_cons,List.map_nil,List.toList_toArray,Array.toList_append,Option.toArray_some,Option.toArray_none,Bool.and_self,ty,noS,Ogo17,zcv]
   refine awpO_unr 1 ?_
   simp only [go_sem,zac,Nat.reduceAdd,Nat.reduceSub,Nat.reduceMul,Int.reduceToNat,reduceCtorEq,↓reduceIte,Int.reducePow,Nat.reducePow,Int.reduceMod,Nat.reduceLeDiff,Int.reduceLE,Int.reduceNe,Int.reduceEq,Nat.reduceEqDiff,Nat.reduceLT,Nat.reduceBEq,List.map_cons,List.map_nil,List.toList_toArray,Array.toList_append,Option.toArray_some,Option.toArray_none,Bool.and_self,ty,noS,Ogo17,zcv,z0,unrO_go,unK_normal,unK_exit,unK_ret]
   try refine ⟨_,Weak.refl _,?_⟩
   try simp only [go_sem,zac,Nat.reduceAdd,Nat.reduceSub,Nat.reduceMul,Int.reduceToNat,reduceCtorEq,↓reduceIte,Int.reducePow,Nat.reducePow,Int.reduceMod,Nat.reduceLeDiff,Int.reduceLE,Int.reduceNe,Int.reduceEq,Nat.reduceEqDiff,Nat.reduceLT,Nat.reduceBEq,List.map_cons,List.map_nil,List.toList_toArray,Array.toList_append,Option.toArray_some,Option.toArray_none,Bool.and_self,ty,noS]
 · exact hp.elim
end
end Go.Proofs.Ytckbejanaebjkaa
