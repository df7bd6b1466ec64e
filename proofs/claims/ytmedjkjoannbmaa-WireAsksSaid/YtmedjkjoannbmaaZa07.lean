/- What the proofs of this seat stand on; it asks nothing. -/
import Derived.Test.YtmedjkjoannbmaaZa06
set_option linter.unusedSimpArgs false
set_option linter.unusedVariables false
namespace Go.Proofs.Ytmedjkjoannbmaa
namespace Ax
section
variable {P : Program} {S : zal} {T : zag} {l : List Oper} {nm : Nat} {s0 : List AV × Heap} {w0 : World} {E : Nat → Prop} {B : Bs}
theorem all_listedF (hg : GoodF S T l nm s0) {listed : Array Bool} (hsz : listed.size = l.length) (hr : Region.ready .any l.toArray listed = []) : ∀ n j,j < n → j < l.length → Ls listed j := by
 intro n
 induction n with
 | zero => intro j h; omega
 | succ n ih =>
   intro j hj hjl
   by_cases hl : Ls listed j
   · exact hl
   · exfalso
     have : j ∈ Region.ready .any l.toArray listed := by
       refine mem_ready.2 ⟨getD_in (by rw [hsz]; exact hjl) (by unfold Ls at hl; simpa using hl),l[j],by simp [hjl],fun e he hb => ?_⟩
       have hlt := hg.back j l[j] (List.getElem?_eq_getElem hjl) e (by simpa using he) hb
       exact ih e.on (by omega) (by omega)
     rw [hr] at this
     simp at this
theorem inv_wpAnyF (hT : TOk P T) (hS : Fns P S) (hg : GoodF S T l nm s0) (hst : ∀ j o,l[j]? = some o → (zea S T l (nm + 8 * j) o (zam S T l nm s0 j)).1) (h0 : ∀ id b,look s0.2 id = some b → id < nm) {K : Exit → Act → World → Prop}
   (hK : ∀ listed a w loc,InvF S T l nm s0 w0 E B listed a w loc → (∀ j,j < l.length → Ls listed j) → K .normal a w) :
   ∀ (fuel : Nat) (listed : Array Bool) (a : Act) (w : World) (loc : Loc),InvF S T l nm s0 w0 E B listed a w loc → listed.toList.count false ≤ fuel → wpAny P .any l.toArray K fuel listed a w := by
 intro fuel
 induction fuel with
 | zero =>
   intro listed a w loc inv hc
   have hall : ∀ j,j < l.length → Ls listed j := by
     intro j hj
     have hj' : j < listed.size := by rw [inv.sizel]; exact hj
     have h1 : false ∉ listed.toList := by
       intro hm
       have := List.count_pos_iff.2 hm
       omega
     unfold Ls
     have h2 : listed[j] ≠ false := fun e => h1 (by rw [← e]; simp)
     simpa [hj'] using h2
   refine ⟨?_,hK listed a w loc inv hall⟩
   cases hr : Region.ready .any l.toArray listed with
   | nil => rfl
   | cons j r =>
     exfalso
     have hm : j ∈ Region.ready .any l.toArray listed := by rw [hr]; simp
     obtain ⟨h1,o,ho,_⟩ := mem_ready.1 hm
     have hjl : j < l.length := by
       have := (Array.getElem?_eq_some_iff.1 ho).1
       simpa using this
     have := hall j hjl
     unfold Ls at this
     rw [getD_both h1] at this
     cases this
 | succ fuel ih =>
   intro listed a w loc inv hc
   refine ⟨fun hr => hK listed a w loc inv (fun j hj => all_listedF hg inv.sizel hr _ j (Nat.lt_succ_self _) hj),fun i hi => ?_⟩
   obtain ⟨hnl1,o,ho',hrd'⟩ := mem_ready.1 hi
   have ho : l[i]? = some o := by simpa using ho'
   have hnl : ¬ Ls listed i := by unfold Ls; rw [getD_both hnl1]; simp
   have hrd : ∀ e ∈ o.after.toList,Region.binds .any e = true → Ls listed e.on := fun e he hb => hrd' e (by simpa using he) hb
   have hlt : i < l.length := (List.getElem?_eq_some_iff.1 ho).1
   have hc' : (listed.setIfInBounds i true).toList.count false ≤ fuel := by
     have := count_set listed.toList i (by simpa using hnl1)
     rw [Array.toList_setIfInBounds]
     omega
   have hlook := fun t ht => lookF_now hg inv ho hnl hrd (t := t) ht
   have hlow := zeo hst h0 i
   have hev : ∀ x ∈ o.op.operands.toList,R w loc (ev (zam S T l nm s0 i).1 x) (a.eval x) := by
     intro x hx
     cases x with
     | tmp t => exact hlook t (by unfold Oper.looksAt; exact List.mem_append_left _ (List.mem_filterMap.2 ⟨.tmp t,hx,rfl⟩))
     | const v => exact ev_R (sl := []) (a := a) (fun t => .junk _) (.const v)
     | global g => exact .junk _
     | func f => exact ev_R (sl := []) (a := a) (fun t => .junk _) (.func f)
   have hstep := hst i o ho
   have hfi : ftF S T l nm s0 i = (zea S T l (nm + 8 * i) o (zam S T l nm s0 i)).2.2 := by simp only [ftF,ho]
   have hadv := @advanceF S T l nm s0 w0 E B listed a w loc i o hg hst h0 inv ho hnl hrd
   have hheap := fun (hk : zaj T o.op ≠ 0) id b => @heapF_now S T l nm s0 w0 E B listed a w loc i o hg inv ho hnl hrd hk id b
   rw [hfi] at hadv hheap
   -- the operation is done
   have hdo : (aopF S T (nm + 8 * i) (zam S T l nm s0 i).1 o.op (zam S T l nm s0 i).2).p →
       (zea S T l (nm + 8 * i) o (zam S T l nm s0 i)).2.1 = (zar (zam S T l nm s0 i).1 o.dst (aopF S T (nm + 8 * i) (zam S T l nm s0 i).1 o.op (zam S T l nm s0 i).2).x,(aopF S T (nm + 8 * i) (zam S T l nm s0 i).1 o.op (zam S T l nm s0 i).2).H) →
       (zea S T l (nm + 8 * i) o (zam S T l nm s0 i)).2.2 = foot (zam S T l nm s0 i).1 o.op (zam S T l nm s0 i).2 →
       o.wp P a w (wpAny P .any l.toArray K fuel (listed.setIfInBounds i true)) K := by
     intro hp hs hft
     have hfree : ∀ id,nm + 8 * i ≤ id → id < nm + 8 * i + 8 → loc.m id = .free := inv.fresh i hnl hlt
     rw [hft] at hadv hheap
     by_cases hk : zaj T o.op = 0
     · obtain ⟨h1,h2,h3⟩ := pu_aop (H := keepIn (foot (zam S T l nm s0 i).1 o.op (zam S T l nm s0 i).2) (zam S T l nm s0 i).2) (S := S) (sl := (zam S T l nm s0 i).1) (nm := nm + 8 * i) hk hp.2
       refine aop_sound hT hS inv.env (H := []) (fun id b h => by simp [look] at h) hfree o hev h1 _ K (fun v w' loc' hpost => ?_)
       obtain ⟨C,hE,hC⟩ := hpost.ext
       have hC' := hC (kind_wr (H := []) (by omega) h1)
       refine ih _ _ _ loc' (hadv (x := _) (C := C) (by rw [hs]) ?_ hE (fun _ => hC') (fun id h => (hC' id h).elim) hpost.fresh hpost.env (inv.base.post hpost) (fun h => (h hk).elim)) hc'
       have := hpost.r
       rw [h2] at this; exact this
     · refine aopF_sound hT hS inv.env (fun id b hid hl => hheap hk id b hid hl) hfree rfl hev hp _ K (fun v w' loc' wr hpost hext => ?_)
       obtain ⟨C,hE,hC,hCF⟩ := hext
       refine ih _ _ _ loc' (hadv (x := _) (C := C) (by rw [hs]) hpost.r hE hC hCF hpost.fresh hpost.env (inv.base.post hpost) (fun _ id b hor hl => ?_)) hc'
       rw [hs] at hl
       simp only [aopF] at hl
       rw [look_append] at hl
       cases h1 : look (aop S T (nm + 8 * i) (zam S T l nm s0 i).1 o.op (keepIn (foot (zam S T l nm s0 i).1 o.op (zam S T l nm s0 i).2) (zam S T l nm s0 i).2)).H id with
       | some c =>
         simp only [h1] at hl
         injection hl with hl
         subst hl
         exact hpost.h id c h1
       | none =>
         simp only [h1,look_dropIn] at hl
         split at hl
         · cases hl
         · rename_i hn
           rcases hor with h2 | h2
           · exact (hn h2).elim
           · have := hlow id b hl; omega
   unfold wpOp
   rw [ho']
   simp only
   cases hgd : o.guard with
   | none =>
     rw [if_pos (by simp [Region.wanted,hgd])]
     left
     refine hdo ?_ ?_ ?_
     · simpa [zea,hgd] using hstep
     · simp [zea,hgd]
     · simp [zea,hgd]
   | some g =>
     obtain ⟨j,want⟩ := g
     simp only [zea,hgd] at hstep hdo hadv
     cases hgs : guardSlot l j with
     | none => simp [hgs] at hstep
     | some d =>
       simp only [hgs] at hstep hdo hadv
       have hdl : d ∈ o.looksAt l.toArray := by
         unfold Oper.looksAt
         refine List.mem_append_right _ ?_
         rw [hgd]
         unfold guardSlot at hgs
         cases hj : l[j]? with
         | none => rw [hj] at hgs; cases hgs
         | some oj =>
           rw [hj] at hgs
           simp only at hgs
           simp [hj,hgs]
       have hval := hlook d hdl
       cases hsd : slot (zam S T l nm s0 i).1 d with
       | w u =>
         cases u with
         | bool b =>
           simp only [hsd] at hstep hdo hadv
           rw [hsd] at hval
           have hval := hval.wv
           have hdlt : d < a.tmps.size := by
             rw [inv.size,← traceF_length hst i]
             rcases Nat.lt_or_ge d (zam S T l nm s0 i).1.length with h' | h'
             · exact h'
             · rw [slot_ge h'] at hsd; cases hsd
           have hy := yielded_of (ops := l.toArray) (by simpa using hgs) hdlt hval
           have hw : (Region.wanted o (yielded l.toArray a.tmps) = true) ↔ b = want := by simp [Region.wanted,hgd,hy]
           by_cases hbw : b = want
           · rw [if_pos (hw.2 hbw)]
             rw [if_pos hbw] at hstep hdo
             exact .inl (hdo hstep rfl rfl)
           · rw [if_neg (fun h => hbw (hw.1 h))]
             simp only [if_neg hbw] at hadv
             refine ih _ _ _ loc (hadv (x := .tup []) (C := fun _ => False) rfl undef_R (Ext.refl w loc) (fun _ _ h => h) (fun _ h => h.elim) (fun id h h' => (h' h).elim) inv.env inv.base (fun hk id b hor hl => ?_)) hc'
             rcases hor with h2 | h2
             · simp at h2
             · have := hlow id b hl; omega
         | _ => simp [hsd] at hstep
       | tup xs =>
         cases xs with
         | nil =>
           simp only [hsd] at hadv
           rw [hsd] at hval
           rw [if_neg (by simp [Region.wanted,hgd,yielded_none (ops := l.toArray) (by simpa using hgs) (tup_R hval)])]
           refine ih _ _ _ loc (hadv (x := .tup []) (C := fun _ => False) rfl undef_R (Ext.refl w loc) (fun _ _ h => h) (fun _ h => h.elim) (fun id h h' => (h' h).elim) inv.env inv.base (fun hk id b hor hl => ?_)) hc'
           rcases hor with h2 | h2
           · simp at h2
           · have := hlow id b hl; omega
         | cons _ _ => simp [hsd] at hstep
       | _ => simp [hsd] at hstep
theorem drawF_sound (hT : TOk P T) (hS : Fns P S) (hm : P.follows .mixedOrders = true) {pl : List (Nat × Nat)} {K : Exit → Act → World → Prop} {Q : List AV → Heap → Prop} {sl : List AV} {H : Heap} {a : Act} {w : World} {loc : Loc} {id : Nat}
   (hd : drawOkF T l pl = true) (hK : ∀ sl H a w loc,Base w0 B w loc → Rel' w0 E loc ⟨sl,H,nm + 8 * l.length⟩ a w → Q sl H → K .normal a w) (hb : Base w0 B w loc)
   (hr : Rel' w0 E loc ⟨sl,H,nm⟩ a w) (h : aopsF S T l pl nm [] l sl H Q) : (Code.region id l.toArray true).wp P K a w := by
 obtain ⟨⟨hQ,hmem⟩,hst⟩ := aopsF_trace (S := S) (T := T) (nm := nm) (pl := pl) (Q := Q) (l := l) (s0 := (sl,H)) l 0 (fun j => by rw [Nat.zero_add]) (Nat.zero_add _) (by simpa [zam] using h)
 have hst' := fun j o ho => hst j o (Nat.zero_le _) ho
 have hg := goodF_of hd hmem
 refine wp_region_any hm ?_
 have hL : ∀ i,¬ Ls (Array.replicate l.toArray.size false) i := fun i h => by
   unfold Ls at h
   rw [getD_replicate_false] at h; cases h
 refine inv_wpAnyF hT hS hg hst' hr.low (w0 := w0) (E := E) (B := B) ?_ _ _ _ _ loc ?_ ?_
 · intro listed a w loc inv hall
   have hq : ∀ (i : Nat),i < l.length → (Ls listed i ↔ i < l.length) := fun i hi => ⟨fun _ => hi,fun _ => hall i hi⟩
   have hlt : ∀ {j : Nat} {o : Oper},l[j]? = some o → j < l.length := fun h => (List.getElem?_eq_some_iff.1 h).1
   refine hK _ _ a w loc inv.base ⟨?_,?_,?_,inv.env,inv.high,inv.defers,?_⟩ hQ
   · simp only; rw [traceF_length hst']; exact inv.size
   · exact fun t => inv.slots t _ (Nat.le_refl _) (fun i o ho _ => hq i (hlt ho))
   · exact fun id b hl => inv.heap id _ (Nat.le_refl _) (fun i o ho _ _ => hq i (hlt ho)) b hl
   · exact zeo hst' hr.low l.length
 · have hbase : Base w0 B { w with drawn := w.drawn + 1 } loc := hb
   have hE : Ext (fun _ => False) w loc { w with drawn := w.drawn + 1 } loc := ⟨Nat.le_refl _,fun _ _ _ => rfl,fun _ _ _ => .inl rfl,fun _ _ h => ⟨rfl,h⟩,fun _ _ _ _ => rfl,fun _ cur _ fz h => ⟨cur,fz,h,rfl⟩⟩
   have hcl : ∀ {x v},R w loc x v → R { w with drawn := w.drawn + 1 } loc x v := fun h => h.ext hE
   refine ⟨by simp,hr.size,?_,?_,?_,?_,?_,⟨hr.env.os,hr.env.tape,hr.env.output,hr.env.size,hr.env.same,hr.env.inj,hr.env.lies,hr.env.bad⟩,hbase,hr.defers⟩
   · intro t k hk hq
     have e : slot (zam S T l nm (sl,H) k).1 t = slot sl t := by
       refine traceF_slot hst' (i := 0) (Nat.zero_le _) (fun j o _ hj ho hd => ?_)
       exact hL j ((hq j o ho hd).2 hj)
     rw [e]
     exact hcl (hr.slots t)
   · intro id k hk hq b hl
     by_cases hf : loc.m id = .free
     · exact BlkR.free hf
     · have hidn : id < nm := by
         rcases Nat.lt_or_ge id nm with h' | h'
         · exact h'
         · exact (hf (hr.fresh id h')).elim
       have e : look (zam S T l nm (sl,H) k).2 id = look H id := by
         refine traceF_keep hst' (i := 0) (Nat.zero_le _) (fun j o _ hj ho => ⟨?_,.inr (by omega)⟩)
         by_cases hid : id ∈ ftF S T l nm (sl,H) j
         · left
           have hle : zaj T o.op ≤ 2 := kind_le T o.op
           have hne : zaj T o.op ≠ 2 := fun h2 => hL j ((hq j o ho h2 hid).2 hj)
           omega
         · exact .inr hid
       rw [e] at hl
       exact (hr.heap id b hl).ext hE (fun h => h) hf
   · intro j o ho hl; exact (hL j hl).elim
   · intro i _ hi id h1 h2; exact hr.fresh id (by simp only; omega)
   · intro id h1; exact hr.fresh id (by simp only; omega)
 · simp
end
end Ax
end Go.Proofs.Ytmedjkjoannbmaa
namespace Go.Proofs.Ytmedjkjoannbmaa
namespace Ax
open Go.RowKit
abbrev Plan := Nat → Option (List (Nat × Nat))
def zdp (T : zag) (pl : Plan) : Code → Bool
 | .region id ops draw => match pl id with
   | none => !draw || drawOk T ops.toList
   | some p => draw && drawOkF T ops.toList p
 | .seq a b => zdp T pl a && zdp T pl b
 | .cond _ a b => zdp T pl a && zdp T pl b
 | .block _ c => zdp T pl c
 | .loop c => zdp T pl c
 | _ => true
def awpF (S : zal) (T : zag) (pl : Plan) : Code → (Exit → ASt → Prop) → ASt → Prop
 | .skip,Q,σ => Q .normal σ
 | .label _,Q,σ => Q .normal σ
 | .region id ops _,Q,σ => match pl id with
   | none => aops S T ops.toList σ.nx ops.toList σ.sl σ.H (regK (σ.nx + 8 * ops.toList.length) Q)
   | some p => aopsF S T ops.toList p σ.nx [] ops.toList σ.sl σ.H (regK (σ.nx + 8 * ops.toList.length) Q)
 | .seq a b,Q,σ => awpF S T pl a (seqK (awpF S T pl b Q) Q) σ
 | .cond c a b,Q,σ => match ev σ.sl c with
     | .w (.bool t) => csplit t (awpF S T pl a Q σ) (awpF S T pl b Q σ)
     | _ => False
 | .block id c,Q,σ => awpF S T pl c (blockK id Q) σ
 | .loop c,Q,σ => ALoop (awpF S T pl c) Q σ
 | .exit id,Q,σ => Q (.exit id) σ
 | .ret,Q,σ => Q .ret σ
 | _,_,_ => False
open Classical in
theorem awpF_sound {P : Program} {w0 : World} {E : Nat → Prop} {T : zag} {S : zal} {pl : Plan} (hm : P.follows .mixedOrders = true) (hT : TOk P T) (hS : Fns P S) {B : Bs} : ∀ (c : Code) (Q : Exit → ASt → Prop) (σ : ASt) (a : Act) (w : World),
   zdp T pl c = true → awpF S T pl c Q σ → Rel w0 E B σ a w → c.wp P (Low w0 E B Q) a w := by
 intro c
 induction c with
 | skip => intro Q σ a w hdr h hr; exact wp_skip ⟨σ,hr,h⟩
 | label l => intro Q σ a w hdr h hr; exact wp_label ⟨σ,hr,h⟩
 | ret => intro Q σ a w hdr h hr; exact wp_ret ⟨σ,hr,h⟩
 | exit id => intro Q σ a w hdr h hr; exact wp_exit ⟨σ,hr,h⟩
 | region id ops draw =>
   intro Q σ a w hdr h hr
   obtain ⟨loc,hb,hr⟩ := hr
   obtain ⟨sl,H,nx⟩ := σ
   have hK : ∀ sl H a w loc,Base w0 B w loc → Rel' w0 E loc ⟨sl,H,nx + 8 * ops.toList.length⟩ a w → regK (nx + 8 * ops.toList.length) Q sl H → Low w0 E B Q .normal a w := fun sl H a w loc h1 h2 h3 => ⟨_,⟨loc,h1,h2⟩,h3⟩
   simp only [zdp] at hdr
   simp only [awpF] at h
   cases hp : pl id with
   | none =>
     simp only [hp] at hdr h
     cases draw with
     | false => exact wp_region_list (zey hT hS hK ops.toList nx sl H a w loc rfl hb hr h)
     | true => exact draw_sound hT hS hm w0 E ops.toList _ _ B nx sl H a w loc id (by simpa using hdr) hK hb hr h
   | some p =>
     simp only [hp,Bool.and_eq_true] at hdr h
     obtain ⟨hd1,hd2⟩ := hdr
     subst hd1
     exact drawF_sound hT hS hm hd2 hK hb hr h
 | seq x y ihx ihy =>
   intro Q σ a w hdr h hr
   refine wp_seq (wp_mono (ihx _ σ a w (by simp only [zdp,Bool.and_eq_true] at hdr; exact hdr.1) h hr) ?_)
   rintro e a' w' ⟨σ',hr',hq⟩
   cases e with
   | normal => exact ihy Q σ' a' w' (by simp only [zdp,Bool.and_eq_true] at hdr; exact hdr.2) hq hr'
   | _ => exact ⟨σ',hr',hq⟩
 | cond c x y ihx ihy =>
   intro Q σ a w hdr h hr
   simp only [awpF,csplit] at h
   simp only [zdp,Bool.and_eq_true] at hdr
   obtain ⟨loc,hb,hr⟩ := hr
   split at h
   · rename_i t hc
     have hv := ev_R hr.slots c
     rw [hc] at hv
     have hv := hv.wv
     cases t with
     | true => exact wp_cond_true hv (ihx Q σ a w hdr.1 (h.1 rfl) ⟨loc,hb,hr⟩)
     | false => exact wp_cond_false hv (ihy Q σ a w hdr.2 (h.2 rfl) ⟨loc,hb,hr⟩)
   · exact h.elim
 | block id c ih =>
   intro Q σ a w hdr h hr
   refine wp_block (wp_mono (ih _ σ a w hdr h hr) ?_)
   rintro e a' w' ⟨σ',hr',hq⟩
   cases e with
   | exit id' =>
     simp only [blockK,Exit.inBlock] at hq ⊢
     split at hq
     · rename_i he; rw [if_pos he]; exact ⟨σ',hr',hq⟩
     · rename_i he; rw [if_neg he]; exact ⟨σ',hr',hq⟩
   | _ => exact ⟨σ',hr',hq⟩
 | loop c ih =>
   intro Q σ a w hdr h hr
   obtain ⟨I,⟨n0,σ0,hw0,hI0⟩,hround⟩ := h
   let p : Act → World → Nat → Prop := fun a w n => ∃ σ,Rel w0 E B σ a w ∧ I n σ
   have hleast : ∀ a w,(∃ n,p a w n) → ∃ m,p a w m ∧ ∀ k,p a w k → m ≤ k := fun a w ⟨n,hn⟩ => let ⟨m,h1,_,h3⟩ := least n hn; ⟨m,h1,h3⟩
   let μ : Act → World → Nat := fun a w => if h : ∃ n,p a w n then Classical.choose (hleast a w h) else 0
   refine wp_loop (fun a w => ∃ n,p a w n) μ ⟨n0,σ0,hw0 w0 E B a w hr,hI0⟩ ?_
   intro a w hex
   have hμ : μ a w = Classical.choose (hleast a w hex) := dif_pos hex
   obtain ⟨⟨σ1,hr1,hI1⟩,hmin⟩ := Classical.choose_spec (hleast a w hex)
   rw [← hμ] at hI1
   refine wp_mono (ih _ σ1 a w hdr (hround _ σ1 hI1) hr1) ?_
   rintro e a' w' ⟨σ',hr',hq⟩
   cases e with
   | normal =>
     obtain ⟨m,σ2,hlt,hw2,hI2⟩ := hq
     have hp : p a' w' m := ⟨σ2,hw2 w0 E B a' w' hr',hI2⟩
     refine ⟨⟨m,hp⟩,?_⟩
     have hμ' : μ a' w' = Classical.choose (hleast a' w' ⟨m,hp⟩) := dif_pos ⟨m,hp⟩
     have := (Classical.choose_spec (hleast a' w' ⟨m,hp⟩)).2 m hp
     rw [← hμ'] at this
     exact Nat.lt_of_le_of_lt this hlt
   | _ =>
     obtain ⟨σ2,hw2,hq⟩ := hq
     exact ⟨σ2,hw2 w0 E B a' w' hr',hq⟩
 | _ => intro Q σ a w hdr h hr; exact h.elim
theorem sound_gen0 {P : Program} {T : zag} {S : zal} (hT : TOk P T) (hS : Fns P S) {f : FuncId} {fn : Func} {c : Code} (hf : P.funcs[f]? = some fn) (hb : fn.body = some c) {spec : zai} {Qp : List AV → List Blk → Exit → ASt → Prop}
   (hqp : ∀ xs pins e σ,Qp xs pins e σ → ∃ σ',Weak σ σ' ∧ Ends T fn.results.toList pins (spec xs pins) e σ')
   (h : ∀ xs pins,(spec xs pins).p → closedB pins = true → pins.length ≤ 4 ∧ ∀ w0 E B a w,Rel w0 E B ⟨xs ++ List.replicate (fn.ntmps - xs.length) .junk,pinHeap 0 pins,4⟩ a w → c.wp P (Low w0 E B (Qp xs pins)) a w) : zaq P f spec := by
 intro xs pins hp hcl w bad pb vs hlen hnd hbad hlies hxl hx
 obtain ⟨hp4,h⟩ := h xs pins hp hcl
 refine calls_of_wp hf hb ?_
 have hrel : Rel w (· ∈ pb) ⟨bad,pb⟩ ⟨xs ++ List.replicate (fn.ntmps - xs.length) .junk,pinHeap 0 pins,4⟩ { tmps := vs.toArray ++ Array.replicate (fn.ntmps - vs.toArray.size) undef,defers := [] } w := by
   refine ⟨zbu pb bad,⟨⟨rfl,fun k hk cur e fz hh => ⟨cur,fz,hh,rfl⟩⟩,by simp only; omega,fun k hk => .inr ⟨by simp [zbu,List.getElem?_eq_getElem hk],fun cur e fz hh => ⟨cur,fz,hh,rfl⟩⟩⟩,?_⟩
   refine ⟨by simp [hxl],fun t => ?_,?_,?_,?_,rfl,fun id b hl => ?_⟩
   · simp only
     rw [zeb]
     by_cases ht : t < xs.length
     · have e1 : (xs ++ List.replicate (fn.ntmps - xs.length) AV.junk).getD t .junk = xs[t] := by simp [List.getElem?_append_left,ht]
       have e2 : (vs.toArray ++ Array.replicate (fn.ntmps - vs.toArray.size) undef).getD t undef = vs[t]'(by omega) := by
         have : t < vs.length := by omega
         simp [Array.getD_eq_getD_getElem?,Array.getElem?_append,this]
       rw [e1,e2]
       exact hx t ht _
     · have e1 : (xs ++ List.replicate (fn.ntmps - xs.length) AV.junk).getD t .junk = .junk := by
         rw [List.getD_eq_getElem?_getD,List.getElem?_append_right (by omega),List.getElem?_replicate]
         split <;> rfl
       rw [e1]; exact .junk _
   · intro id b hl
     obtain ⟨j,hj,rfl,rfl⟩ := zcc pins 0 id b hl
     have hj' : j < pb.length := by omega
     unfold BlkR
     have : (zbu pb bad).m (0 + j) = .here pb[j] := by simp [zbu,List.getElem?_eq_getElem hj']
     rw [this]
     exact hlies j hj hj'
   · refine ⟨rfl,rfl,rfl,Nat.le_refl _,fun _ _ _ => rfl,?_,?_,?_⟩
     · intro i j b hi hj
       obtain ⟨h1,h2⟩ := zdo hi
       obtain ⟨h3,h4⟩ := zdo hj
       exact zdc hnd (h2.trans h4.symm)
     · intro i b hi
       obtain ⟨h1,h2⟩ := zdo hi
       subst h2
       refine ⟨?_,.inr (List.getElem_mem h1)⟩
       obtain ⟨ob,hh⟩ := lies_live2 (hlies i (by omega) h1).2
       rcases Nat.lt_or_ge pb[i] w.heap.size with h' | h'
       · exact h'
       · rw [Array.getElem?_eq_none h'] at hh; cases hh
     · exact fun b hb => hbad b hb
   · intro id hid
     simp only at hid
     have : pb[id]? = none := List.getElem?_eq_none (by omega)
     simp [zbu,this]
   · obtain ⟨j,hj,rfl,_⟩ := zcc pins 0 id b hl
     simp; omega
 refine wp_mono (h _ _ _ _ w hrel) ?_
 have main : ∀ a w' σ,Rel w (· ∈ pb) ⟨bad,pb⟩ σ a w' → (rvals T σ.H σ.sl fn.results.toList).1 ∧ EndsX pins (spec xs pins) (rone (rvals T σ.H σ.sl fn.results.toList).2) σ →
     a.defers = [] ∧ ∃ v,(results fn a.tmps).run P w' = .ok v w' ∧ ∃ v' loc',Ending.returned v = .returned v' ∧ Gives w bad pb (spec xs pins) v' w' loc' := by
   rintro a w' σ ⟨loc,hB,hr⟩ ⟨hrv,hnodup,hpin,hbl,hren⟩
   obtain ⟨v,hv,hR⟩ := results_R (P := P) (fn := fn) hT hr.heap hr.slots hrv
   refine ⟨hr.defers,v,hv,v,?_⟩
   generalize rone (rvals T σ.H σ.sl fn.results.toList).2 = x at hnodup hpin hbl hren hR
   have hnd' := zfg hnodup
   obtain ⟨hids1,hids2⟩ := newIds_mem x.ids (upTo 0 pins)
   obtain ⟨hu1,hu2⟩ := upTo_get pins 0
   generalize hids : newIds (upTo 0 pins) x.ids = ids at hnodup hpin hbl hren hnd' hids1 hids2
   obtain ⟨hpl,hpc,hpg⟩ := pinsOf_get hpin
   rw [hbl] at hpl hpc hpg
   obtain ⟨t,rfl⟩ := hids1
   have hm : pins.length ≤ (upTo 0 pins ++ t).length := by simp [hu1]
   have hold : ∀ k,(hk : k < pins.length) → (upTo 0 pins ++ t)[k]'(by omega) = k := by
     intro k hk
     rw [List.getElem_append_left (by omega)]
     have := hu2 k (by omega)
     omega
   -- every one of the names is alive
   have hlive : ∀ (k : Nat) (hk : k < (upTo 0 pins ++ t).length),loc.m (upTo 0 pins ++ t)[k] ≠ .free := by
     intro k hk
     rcases hids2 _ (List.getElem_mem hk) with hi | hi
     · obtain ⟨j,hj,he⟩ := List.getElem_of_mem hi
       rw [← he,hu2 j hj]
       have hj' : j < pb.length := by omega
       rcases hB.2.2 j hj' with h1 | ⟨h1,_⟩
       · rw [Nat.zero_add,h1]; simp
       · rw [Nat.zero_add,h1]; simp
     · exact zef x v hR hi
   have hblk : ∀ (k : Nat) (hk : k < (upTo 0 pins ++ t).length) (hk' : k < (spec xs pins).bl.length),BlkR w' loc (upTo 0 pins ++ t)[k] (spec xs pins).bl[k] := by
     intro k hk hk'
     refine hr.heap _ _ ?_
     rw [hpg k hk,List.getElem?_eq_getElem hk']
   have hdead : ∀ (k : Nat) (hk : k < (upTo 0 pins ++ t).length),loc.m (upTo 0 pins ++ t)[k] ≠ .dead := by
     intro k hk e
     have := hblk k hk (by omega)
     unfold BlkR at this
     rw [e] at this
     exact this
   let g : Nat → Nat := gOf (upTo 0 pins ++ t) σ.nx
   have hgo : ∀ k,(hk : k < (upTo 0 pins ++ t).length) → g k = (upTo 0 pins ++ t)[k] := fun k hk => zfl hk
   have hgn : ∀ k,(upTo 0 pins ++ t).length ≤ k → loc.m (g k) = .free := by
     intro k hk
     refine hr.fresh _ ?_
     show σ.nx ≤ gOf _ σ.nx k
     rw [zev hk]; omega
   let loc' : Loc := { m := fun k => loc.m (g k),bad := loc.bad }
   have hlt : ∀ i b,loc'.m i = .here b → i < (upTo 0 pins ++ t).length := by
     intro i b hi
     rcases Nat.lt_or_ge i (upTo 0 pins ++ t).length with h' | h'
     · exact h'
     · have : loc'.m i = .free := hgn i h'
       rw [this] at hi; cases hi
   have hinj : ∀ i j b,loc'.m i = .here b → loc'.m j = .here b → i = j := by
     intro i j b hi hj
     have h1 := hlt i b hi
     have h2 := hlt j b hj
     have h3 : g i = g j := hr.env.inj (g i) (g j) b hi hj
     rw [hgo i h1,hgo j h2] at h3
     exact zdc hnd' h3
   have hpb : ∀ (k : Nat) (hk : k < pb.length),loc'.m k = .here pb[k] ∧ ∀ cur e fz,w.heap[pb[k]]? = some (.cells cur e fz) → ∃ cur' fz',w'.heap[pb[k]]? = some (.cells cur' e fz') ∧ cur'.size = cur.size := by
     intro k hk
     have hk1 : k < pins.length := by omega
     have e : loc'.m k = loc.m k := by
       show loc.m (g k) = loc.m k
       rw [hgo k (by omega),hold k hk1]
     rcases hB.2.2 k hk with h1 | ⟨h1,h2⟩
     · have := hdead k (by omega)
       rw [hold k hk1] at this
       exact (this h1).elim
     · exact ⟨e.trans h1,h2⟩
   refine ⟨loc',rfl,?_⟩
   refine ⟨unren (loc2 := loc') (g := g) (fun _ => rfl) rfl hR _ hren,hB.1.1,?_,fun k hk => (hpb k hk).1,?_,?_,hinj,?_⟩
   · intro k hk
     have hk' : k < (upTo 0 pins ++ t).length := by omega
     have e : loc'.m k = loc.m (upTo 0 pins ++ t)[k] := by show loc.m (g k) = _; rw [hgo k hk']
     refine ⟨?_,by rw [e]; exact hlive k hk',by rw [e]; exact hdead k hk'⟩
     have hb := hblk k hk' hk
     unfold BlkR at hb ⊢
     rw [e]
     split
     · trivial
     · rename_i e'; rw [e'] at hb; exact hb
     · rename_i e'; rw [e'] at hb; exact hb
     · rename_i b e'
       rw [e'] at hb
       refine ⟨hb.1,lies_move hb.2 (closedB_get hpc k hk) (.inr ?_)⟩
       rintro c _ (h | ⟨i,h⟩)
       · exact .inl h
       · exact .inr ⟨g i,h⟩
   · intro k b hk hkb
     have := hr.env.lies (g k) b hkb
     refine ⟨?_,this.1⟩
     rcases this.2 with h' | h'
     · exact h'
     · obtain ⟨j,hj,he⟩ := List.getElem_of_mem h'
       have h1 := (hpb j hj).1
       rw [he] at h1
       have := hinj k j b hkb h1
       omega
   · intro k hk
     exact hgn k (by omega)
   · refine ⟨hr.env.os,hr.env.tape,hr.env.output,hr.env.size,hr.env.same,?_⟩
     rintro b cur e fz hb hh
     obtain ⟨j,hj,rfl⟩ := List.getElem_of_mem hb
     exact (hpb j hj).2 cur e fz hh
 rintro e a w' ⟨σ0,hr0,hq0⟩
 obtain ⟨σ,hwk,hq⟩ := hqp xs pins e σ0 hq0
 have hr := hwk _ _ _ _ _ hr0
 cases e with
 | normal => exact main a w' σ hr hq
 | ret => exact main a w' σ hr hq
 | _ => exact hq.elim
theorem fn_soundF {P : Program} {T : zag} {S : zal} {pl : Plan} (hm : P.follows .mixedOrders = true) (hT : TOk P T) (hS : Fns P S) {f : FuncId} {fn : Func} {c : Code} (hf : P.funcs[f]? = some fn) (hb : fn.body = some c) (hd : zdp T pl c = true) {spec : zai}
   (h : ∀ xs pins,(spec xs pins).p → closedB pins = true → pins.length ≤ 4 ∧ awpF S T pl c (EndsW T fn.results.toList pins (spec xs pins)) ⟨xs ++ List.replicate (fn.ntmps - xs.length) .junk,pinHeap 0 pins,4⟩) : zaq P f spec :=
 sound_gen0 hT hS hf hb (Qp := fun xs pins => EndsW T fn.results.toList pins (spec xs pins)) (fun _ _ _ _ h => h) (fun xs pins hp hc => ⟨(h xs pins hp hc).1,fun w0 E B a w hr => awpF_sound hm hT hS c _ _ _ _ hd (h xs pins hp hc).2 hr⟩)
def laterF (S : zal) (T : zag) (pl : Plan) (b : Code) (Q : Exit → ASt → Prop) : Exit → ASt → Prop := seqK (awpF S T pl b Q) Q
section rules
variable {S : zal} {T : zag} {pl : Plan} {Q : Exit → ASt → Prop} {σ : ASt}
theorem awpF_skip : awpF S T pl .skip Q σ = Q .normal σ := rfl
theorem awpF_label {l : Nat} : awpF S T pl (.label l) Q σ = Q .normal σ := rfl
theorem awpF_ret : awpF S T pl .ret Q σ = Q .ret σ := rfl
theorem awpF_exit {id : Nat} : awpF S T pl (.exit id) Q σ = Q (.exit id) σ := rfl
theorem awpF_region {id : Nat} {l : List Oper} {draw : Bool} : awpF S T pl (.region id l.toArray draw) Q σ = match pl id with
   | none => aops S T l σ.nx l σ.sl σ.H (regK (σ.nx + 8 * l.length) Q)
   | some p => aopsF S T l p σ.nx [] l σ.sl σ.H (regK (σ.nx + 8 * l.length) Q) := by
 simp [awpF]
theorem awpF_seq {a b : Code} : awpF S T pl (.seq a b) Q σ = awpF S T pl a (laterF S T pl b Q) σ := rfl
theorem awpF_block {id : Nat} {c : Code} : awpF S T pl (.block id c) Q σ = awpF S T pl c (blockK id Q) σ := rfl
theorem awpF_cond {c : Operand} {a b : Code} : awpF S T pl (.cond c a b) Q σ = match ev σ.sl c with
     | .w (.bool t) => csplit t (awpF S T pl a Q σ) (awpF S T pl b Q σ)
     | _ => False := rfl
theorem zac {b : Code} : laterF S T pl b Q .normal σ = awpF S T pl b Q σ := rfl
theorem laterF_exit {b : Code} {id : Nat} : laterF S T pl b Q (.exit id) σ = Q (.exit id) σ := rfl
theorem laterF_ret {b : Code} : laterF S T pl b Q .ret σ = Q .ret σ := rfl
variable {ops r : List Oper} {o : Oper} {nm : Nat} {sl : List AV} {H : Heap} {Q' : List AV → Heap → Prop} {pp : List (Nat × Nat)} {acc : List (Nat × List Nat)}
theorem aopsF_nil : aopsF S T ops pp nm acc [] sl H Q' = (memOk pp acc = true ∧ Q' sl H) := rfl
theorem aopsF_plain {dst : Option Tmp} {op : Op} {type : TypeId} {pos : String} {after : Array Edge} : aopsF S T ops pp nm acc (⟨dst,op,type,pos,after,none⟩ :: r) sl H Q' =
   ((aopF S T nm sl op H).p ∧ aopsF S T ops pp (nm + 8) (acc ++ [(nm,foot sl op H)]) r (zar sl dst (aopF S T nm sl op H).x) (aopF S T nm sl op H).H Q') := rfl
theorem aopsF_guard {dst : Option Tmp} {op : Op} {type : TypeId} {pos : String} {after : Array Edge} {j : Nat} {want : Bool} : aopsF S T ops pp nm acc (⟨dst,op,type,pos,after,some (j,want)⟩ :: r) sl H Q' =
   match guardSlot ops j with
     | none => False
     | some d => match slot sl d with
       | .w (.bool b) =>
         gsplit b want ((aopF S T nm (setSlot sl d (.w (.bool want))) op H).p ∧
           aopsF S T ops pp (nm + 8) (acc ++ [(nm,foot (setSlot sl d (.w (.bool want))) op H)]) r (zar (setSlot sl d (.w (.bool want))) dst (aopF S T nm (setSlot sl d (.w (.bool want))) op H).x) (aopF S T nm (setSlot sl d (.w (.bool want))) op H).H Q')
         (aopsF S T ops pp (nm + 8) (acc ++ [(nm,[])]) r (zar (setSlot sl d (.w (.bool !want))) dst (.tup [])) H Q')
       | .tup [] => aopsF S T ops pp (nm + 8) (acc ++ [(nm,[])]) r (zar sl dst (.tup [])) H Q'
       | _ => False := rfl
end rules
end Ax
end Go.Proofs.Ytmedjkjoannbmaa
namespace Go.Proofs.Ytmedjkjoannbmaa
open Ax
theorem evTP : (type_of% @awpF_skip) ∧
   (type_of% @awpF_label) ∧
   (type_of% @awpF_ret) ∧
   (type_of% @awpF_exit) ∧
   (type_of% @awpF_region) ∧
   (type_of% @awpF_seq) ∧
   (type_of% @awpF_block) ∧
   (type_of% @awpF_cond) ∧
   (type_of% @laterF_exit) ∧
   (type_of% @laterF_ret) ∧
   (type_of% @aopsF_nil) ∧
   (type_of% @aopsF_plain) ∧
   (type_of% @aopsF_guard) :=
 ⟨@awpF_skip,@awpF_label,@awpF_ret,@awpF_exit,@awpF_region,@awpF_seq,@awpF_block,@awpF_cond,@laterF_exit,@laterF_ret,@aopsF_nil,@aopsF_plain,@aopsF_guard⟩
theorem evDP : (type_of% @Ax.aopF.eq_1) ∧
   (type_of% @Ax.foot.eq_1) ∧
   (type_of% @Ax.footA.eq_1) ∧
   (type_of% @Ax.keepIn.eq_1) ∧
   (type_of% @Ax.keepIn.eq_2) ∧
   (type_of% @Ax.dropIn.eq_1) ∧
   (type_of% @Ax.dropIn.eq_2) ∧
   (type_of% @Ax.bids.eq_1) ∧
   (type_of% @Ax.bids.eq_2) ∧
   (type_of% @Ax.heldB.eq_1) ∧
   (type_of% @Ax.memOk.eq_1) ∧
   (type_of% @Ax.clearOf.eq_1) :=
 ⟨@Ax.aopF.eq_1,@Ax.foot.eq_1,@Ax.footA.eq_1,@Ax.keepIn.eq_1,@Ax.keepIn.eq_2,@Ax.dropIn.eq_1,@Ax.dropIn.eq_2,@Ax.bids.eq_1,@Ax.bids.eq_2,@Ax.heldB.eq_1,@Ax.memOk.eq_1,@Ax.clearOf.eq_1⟩
open Ax
attribute [go_sem] evDP evTP Blk.ids Op.operands Call.operands
end Go.Proofs.Ytmedjkjoannbmaa
namespace Go.Proofs.Ytmedjkjoannbmaa
namespace Ax
open Go.RowKit
def FnsO (P : Program) (S : zal) : Prop := ∀ f s,S f = some s → Entered P f ∧ SoundO P f s
def noO : zal := fun _ => none
theorem noO_ok {P : Program} : FnsO P noO := fun f s h => by cases h
def openOp (SO : zal) (T : zag) (nm : Nat) (sl : List AV) (op : Op) (H : Heap) : Out :=
 match op with
 | .call c => match c.callee with
   | .value f => match ev sl f with
     | .fn f [] => aOpen SO nm f (coes T c.argTypes.toList (evs sl c.args.toList)) H
     | _ => bad
   | _ => bad
 | _ => bad
theorem open_sound {P : Program} {w0 : World} {E : Nat → Prop} {w : World} {loc : Loc} {H : Heap} {T : zag} {SO : zal} (hS : FnsO P SO) (he : Env w0 E w loc) (hh : HR w loc H) {nm : Nat} (hfree : ∀ id,nm ≤ id → id < nm + 8 → loc.m id = .free) {sl : List AV} {a : Act} (o : Oper)
   (hev : ∀ x,R w loc (ev sl x) (a.eval x)) (hp : (openOp SO T nm sl o.op H).p) : Sd P w0 E w loc true nm (openOp SO T nm sl o.op H) o a := by
 cases ho : o.op with
 | call c =>
   obtain ⟨callee,args,argTypes⟩ := c
   cases callee with
   | value f =>
     have hfv := hev f
     simp only [openOp,ho] at hp ⊢
     generalize ev sl f = xf at hfv hp ⊢
     split at hp
     · rename_i g
       cases hv : a.eval f with
       | func fn first captured =>
         rw [hv] at hfv
         cases hfv with
         | fn _ _ cs hlc hc =>
           obtain rfl : cs = [] := List.eq_nil_of_length_eq_zero hlc.symm
           obtain ⟨e1,e2⟩ := evs_R (w := w) (loc := loc) (sl := sl) (a := a) args.toList (fun x _ => hev x)
           obtain ⟨c1,c2⟩ := coes_R (T := T) (w := w) (loc := loc) argTypes.toList (evs sl args.toList)
           have c2 := c2 (args.toList.map a.eval) e2
           cases hsg : SO g with
           | none => simp [aOpen,hsg,bad] at hp
           | some sp =>
             obtain ⟨⟨fn,hfn,hbody,hname⟩,hsound⟩ := hS g sp hsg
             have hcall := call_postO (P := P) he hh hfree (SO := SO) (fun f s h => (hS f s h).2) (f := g) (by rw [c1,e1]; simp) c2 hp
             have hrun : (execOp a.eval o).run P w = .ok (.enter g (args.toList.map a.eval).toArray) w := by
               have h1 : fn.name ≠ "runtime.NumGoroutine" := by simpa using hname
               have hb' : fn.body ≠ none := by intro e; rw [e] at hbody; simp at hbody
               have h9 : Array.map a.eval args = (args.toList.map a.eval).toArray := by rw [← Array.toList_inj]; simp
               simp [execOp,ho,resolve,hv,Deferred.ofValue,invoke,callFunc,hfn,h1,hb',h9]
             intro next Q hn
             unfold Oper.wp
             rw [hrun]
             refine hcall.mono ?_
             rintro e w' ⟨v,loc',rfl,h1⟩
             exact hn v w' loc' h1
       | _ => rw [hv] at hfv; cases hfv
     · exact hp.elim
   | _ => simp [openOp,ho,bad] at hp
 | _ => simp [openOp,ho,bad] at hp
theorem walk_look {H : Heap} : ∀ (ids good : List Nat),walk H good ids = true → ∀ id ∈ ids,look H id ≠ none
 | [],_,_,id,hid => by simp at hid
 | k :: r,good,hw,id,hid => by
   simp only [walk,Bool.and_eq_true] at hw
   cases hl : look H k with
   | none => simp [hl] at hw
   | some blk =>
     simp only [hl] at hw
     rcases List.mem_cons.1 hid with rfl | hid
     · rw [hl]; simp
     · exact walk_look r _ hw.2 id hid
theorem hnew_open {SO : zal} {T : zag} {sl : List AV} {op : Op} {nm : Nat} {H : Heap} : Hnew nm H (openOp SO T nm sl op H) := by
 unfold openOp
 split
 · split
   · split
     · unfold aOpen
       split
       · rename_i f _ spec hs
         intro hp id b hl
         simp only [openOut] at hp hl
         generalize reach H 12 [] (idsL _) = ids at *
         obtain ⟨⟨hnd,hwalk,hain,hpin⟩,hsp,hb1,hb2⟩ := hp
         rcases look_backO _ _ _ hl with ⟨j,hj,h1,h2⟩ | ⟨h1,h2⟩
         · rw [Nat.zero_add] at h1
           by_cases hjl : j < ids.length
           · rw [zfl hjl] at h1
             left
             rw [← h1]
             exact walk_look ids _ hwalk _ (List.getElem_mem hjl)
           · rw [zev (by omega)] at h1
             right; omega
         · exact .inl (by rw [h1]; simp)
       · exact hok_bad.new
     · exact hok_bad.new
   · exact hok_bad.new
 · exact hok_bad.new
def aopsO (S SO : zal) (T : zag) (ops : List Oper) : Nat → Nat → List Oper → List AV → Heap → (List AV → Heap → Prop) → Prop
 | _,_,[],sl,H,Q => Q sl H
 | 0,nm,o :: r,sl,H,Q => o.guard = none ∧ (openOp SO T nm sl o.op H).p ∧ aops S T ops (nm + 8) r (zar sl o.dst (openOp SO T nm sl o.op H).x) (openOp SO T nm sl o.op H).H Q
 | k + 1,nm,o :: r,sl,H,Q => o.guard = none ∧ (aop S T nm sl o.op H).p ∧ aopsO S SO T ops k (nm + 8) r (zar sl o.dst (aop S T nm sl o.op H).x) (aop S T nm sl o.op H).H Q
theorem aopsO_sound {P : Program} {w0 : World} {E : Nat → Prop} {T : zag} {S SO : zal} (hT : TOk P T) (hS : Fns P S) (hSO : FnsO P SO) {ops : Array Oper} {K : Exit → Act → World → Prop} {Q : List AV → Heap → Prop} {B : Bs} {nz : Nat}
   (hK : ∀ sl H a w loc,Base w0 B w loc → Rel' w0 E loc ⟨sl,H,nz⟩ a w → Q sl H → K .normal a w) : ∀ (k : Nat) (r : List Oper) (nm : Nat) (sl : List AV) (H : Heap) (a : Act) (w : World) (loc : Loc),nz = nm + 8 * r.length → Base w0 B w loc →
   Rel' w0 E loc ⟨sl,H,nm⟩ a w → aopsO S SO T ops.toList k nm r sl H Q → wpList P ops K r a w
 | k,[],nm,sl,H,a,w,loc,hz,hb,hr,h => by
   simp only [List.length_nil,Nat.mul_zero,Nat.add_zero] at hz
   subst hz
   exact wpList_nil (hK sl H a w loc hb hr (by cases k <;> exact h))
 | 0,o :: r,nm,sl,H,a,w,loc,hz,hb,hr,h => by
   have hz' : nz = nm + 8 + 8 * r.length := by simp at hz; omega
   obtain ⟨hg,hp,hrest⟩ := h
   refine wpList_step fun Kn hKn => ?_
   rw [if_pos (by simp [Region.wanted,hg])]
   have hop := open_sound (T := T) hSO hr.env hr.heap (fun id h1 _ => hr.fresh id h1) o (fun x => ev_R hr.slots x) hp
   exact hop Kn K (fun v w' loc' hpost => hKn _ _ (zey (ops := ops) hT hS hK r (nm + 8) _ _ _ w' loc' hz' (hb.post hpost) (rel_post hr hpost (hnew_open hp) o.dst) hrest))
 | k + 1,o :: r,nm,sl,H,a,w,loc,hz,hb,hr,h => by
   have hz' : nz = nm + 8 + 8 * r.length := by simp at hz; omega
   obtain ⟨hg,hp,hrest⟩ := h
   refine wpList_step fun Kn hKn => ?_
   rw [if_pos (by simp [Region.wanted,hg])]
   have hop := aop_sound hT hS hr.env hr.heap (fun id h1 _ => hr.fresh id h1) o (fun x _ => ev_R hr.slots x) hp
   exact hop Kn K (fun v w' loc' hpost => hKn _ _ (aopsO_sound hT hS hSO hK k r (nm + 8) _ _ _ w' loc' hz' (hb.post hpost) (rel_post hr hpost (hnew_aop hp) o.dst) hrest))
def specOp (T : zag) (sl : List AV) (op : Op) (K : AV → Prop) : Prop :=
 match op with
 | .binOp .eql t x (.const (.slice none 0 0)) _ => match T t with
   | some ti => match ti.d with
     | .slice _ => match ev sl x with
       | .sg s xs _ => 0 < s ∧ ∀ b,(b = true → xs.length = 0) → K (.w (.bool b))
       | .sb xs _ => ∀ b,(b = true → xs.length = 0) → K (.w (.bool b))
       | .si xs _ => ∀ b,(b = true → xs.length = 0) → K (.w (.bool b))
       | _ => False
     | _ => False
   | none => False
 | .buildSlice t 0 ps => match T t with
   | some ti => match ti.d with
     | .slice e => match T e with
       | some te => ps = #[] ∧ 0 < te.size ∧ K (.sg te.size [] true)
       | none => False
     | _ => False
   | none => False
 | .call c => match c.callee with
   | .builtin .append => match c.args.toList,c.argTypes.toList with
     | [x,y],[t,u] => match T t,T u with
       | some ti,some tu => match ti.d,tu.d with
         | .slice e,.slice _ => match T e with
           | some te => match ev sl x,ev sl y with
             | .sg s [] true,.sg _ [] _ => 0 < te.size ∧ K (.sg s [] true)
             | .sg s [] true,.sb [] _ => 0 < te.size ∧ K (.sg s [] true)
             | .sg s [] true,.si [] _ => 0 < te.size ∧ K (.sg s [] true)
             | _,_ => False
           | none => False
         | _,_ => False
       | _,_ => False
     | _,_ => False
   | _ => False
 | _ => False
theorem append_none {P : Program} {t u ty e e' : TypeId} {te : TyI} (hd : P.underlying t = some (.slice e)) (hu : P.underlying u = some (.slice e')) (hty : TyR P e te) (a a' : Option Addr) (c : Nat) (w : World) :
   (Builtin.append_ #[t,u] ty #[.slice a 0 0,.slice a' 0 c]).run P w = .ok (.slice a 0 0) w := by
 have hsz := fun W => zbd (P := P) hty W
 have hlc : ∀ (b : Addr) W,(loadCells b 0).run P W = .ok #[] W := fun b W => by simp [loadCells,loadCellsFrom]
 have hst : ∀ (b : Addr) W,(storeCells b []).run P W = .ok () W := fun b W => by simp [storeCells]
 unfold Builtin.append_
 cases a <;> cases a' <;> simp [run_underlying hd,run_underlying hu,hsz,Builtin.lenOf,Builtin.firstCells,hlc,hst]
theorem specOp_sound {P : Program} {w0 : World} {E : Nat → Prop} {T : zag} (hT : TOk P T) {w : World} {loc : Loc} {H : Heap} (he : Env w0 E w loc) (hh : HR w loc H) {nm : Nat} {sl : List AV} {a : Act} {op : Op} {K : AV → Prop} (hev : ∀ x,R w loc (ev sl x) (a.eval x)) (h : specOp T sl op K) :
   ∃ x v w',K x ∧ Post w0 E w loc true nm x H v w' loc ∧ ∀ o : Oper,o.op = op → (execOp a.eval o).run P w = .ok (.value v) w' := by
 unfold specOp at h
 split at h
 · rename_i t x yt
   cases ht : T t with
   | none => simp [ht] at h
   | some ti =>
     simp only [ht] at h
     split at h
     · rename_i e hd
       have hu : ∃ e,P.underlying t = some (.slice e) := by
         have := (hT t ti ht).d
         rw [hd] at this
         exact ⟨_,this⟩
       obtain ⟨e,hu⟩ := hu
       have hx := hev x
       generalize ev sl x = xv at hx h
       split at h
       · rename_i s xs f
         obtain ⟨hs,h⟩ := h
         generalize hv : a.eval x = v at hx
         cases hx with
         | sg _ _ _ ad cap cs hd hs' hc hl hx' _ =>
           refine ⟨_,.bool ad.isNone,w,h ad.isNone fun hn => ?_,Post.pure (.w _ rfl) hh he,fun o ho => ?_⟩
           · cases xs with
             | nil => rfl
             | cons y ys =>
               exfalso
               obtain rfl : ad = none := by simpa using hn
               rcases hc.lies with rfl | ⟨b,o,he,_⟩
               · have := hs' y (by simp)
                 rw [List.flatMap_cons,List.length_append,List.length_nil] at hl
                 omega
               · cases he
           · have heq : ∀ d,(Op.equalIn (d + 1) t (.slice ad xs.length cap) (.slice none 0 0)).run P w = .ok ad.isNone w := fun d => by cases ad <;> simp [Op.equalIn,run_underlying hu]
             have heq := heq 9999
             have h2 : (Op.equal t (.slice ad xs.length cap) (.slice none 0 0)).run P w = .ok ad.isNone w := heq
             simp only [execOp,ho,hv]
             simp [zdv (u := .slice ad xs.length cap) rfl (by simp),binOp,h2,Act.eval]
       · rename_i xs f
         generalize hv : a.eval x = v at hx
         cases hx with
         | sb _ _ ad cap hd hc =>
           refine ⟨_,.bool ad.isNone,w,h ad.isNone fun hn => ?_,Post.pure (.w _ rfl) hh he,fun o ho => ?_⟩
           · cases xs with
             | nil => rfl
             | cons y ys =>
               exfalso
               obtain rfl : ad = none := by simpa using hn
               rcases hc.lies with hcs | ⟨b,o,he,_⟩
               · simp at hcs
               · cases he
           · have heq : ∀ d,(Op.equalIn (d + 1) t (.slice ad xs.length cap) (.slice none 0 0)).run P w = .ok ad.isNone w := fun d => by cases ad <;> simp [Op.equalIn,run_underlying hu]
             have heq := heq 9999
             have h2 : (Op.equal t (.slice ad xs.length cap) (.slice none 0 0)).run P w = .ok ad.isNone w := heq
             simp only [execOp,ho,hv]
             simp [zdv (u := .slice ad xs.length cap) rfl (by simp),binOp,h2,Act.eval]
       · rename_i xs f
         generalize hv : a.eval x = v at hx
         cases hx with
         | si _ _ ad cap hd hc =>
           refine ⟨_,.bool ad.isNone,w,h ad.isNone fun hn => ?_,Post.pure (.w _ rfl) hh he,fun o ho => ?_⟩
           · cases xs with
             | nil => rfl
             | cons y ys =>
               exfalso
               obtain rfl : ad = none := by simpa using hn
               rcases hc.lies with hcs | ⟨b,o,he,_⟩
               · simp at hcs
               · cases he
           · have heq : ∀ d,(Op.equalIn (d + 1) t (.slice ad xs.length cap) (.slice none 0 0)).run P w = .ok ad.isNone w := fun d => by cases ad <;> simp [Op.equalIn,run_underlying hu]
             have heq := heq 9999
             have h2 : (Op.equal t (.slice ad xs.length cap) (.slice none 0 0)).run P w = .ok ad.isNone w := heq
             simp only [execOp,ho,hv]
             simp [zdv (u := .slice ad xs.length cap) rfl (by simp),binOp,h2,Act.eval]
       · exact h.elim
     · exact h.elim
 · rename_i t ps
   cases ht : T t with
   | none => simp [ht] at h
   | some ti =>
     simp only [ht] at h
     split at h
     · rename_i e hd
       have hu : P.underlying t = some (.slice e) := by
         have := (hT t ti ht).d
         rw [hd] at this
         exact this
       cases hte : T e with
       | none => simp [hte] at h
       | some te =>
         simp only [hte] at h
         obtain ⟨rfl,hs,hK⟩ := h
         have hty := hT _ te hte
         obtain ⟨z,z1,z2,z3⟩ := zcu hty w
         have hrun := zed (P := P) (t := t) (n := 0) (pv := #[]) (cs := #[]) hu hty z1 hs (by omega) (by simp [Instr.fill])
         refine ⟨_,.slice (some ⟨w.heap.size,0,none⟩) 0 0,{ w with heap := w.heap.push (.cells #[] e) },hK,post_anon (o := .cells #[] e) he hh ⟨rfl,rfl,rfl,rfl⟩ (fun _ => .sg _ [] true _ 0 [] ⟨Nat.le_refl _,Nat.zero_le _,fun _ => rfl⟩ (by simp) ⟨.inl rfl⟩ rfl (by simp) (by simp)),fun o ho => ?_⟩
         simp [execOp,ho,hrun]
     · exact h.elim
 · rename_i c
   obtain ⟨callee,args,argTypes⟩ := c
   simp only at h
   split at h
   · split at h
     · rename_i d x t u ha hb
       cases ht : T t with
       | none => simp [ht] at h
       | some ti =>
         cases htu : T u with
         | none => simp [ht,htu] at h
         | some tu =>
           simp only [ht,htu] at h
           have hd := (hT t ti ht).d
           have hud := (hT u tu htu).d
           split at h
           · rename_i e e' hdd hdu
             rw [hdd] at hd
             rw [hdu] at hud
             have hd : P.underlying t = some (.slice e) := hd
             have hud : P.underlying u = some (.slice e') := hud
             cases hte : T e with
             | none => simp [hte] at h
             | some te =>
               simp only [hte] at h
               have hty := hT _ te hte
               have hdv := hev d
               have hxv := hev x
               generalize ev sl d = dv at hdv h
               generalize ev sl x = xv at hxv h
               split at h
               · rename_i s s' f'
                 obtain ⟨hs,hK⟩ := h
                 obtain rfl : args = #[d,x] := by rw [← Array.toList_inj]; exact ha
                 obtain rfl : argTypes = #[t,u] := by rw [← Array.toList_inj]; exact hb
                 generalize hv1 : a.eval d = v1 at hdv
                 generalize hv2 : a.eval x = v2 at hxv
                 cases hdv with
                 | sg _ _ _ ad cap cs hdm hs' hc hl hx' hh' =>
                   obtain rfl : cap = 0 := hdm.full rfl
                   cases hxv with
                   | sg _ _ _ ad2 cap2 cs2 hdm2 hs2 hc2 hl2 hx2 hh2 =>
                     refine ⟨_,.slice ad 0 0,w,hK,Post.pure (.sg _ [] true ad 0 cs hdm hs' hc hl hx' hh') hh he,fun o ho => ?_⟩
                     have h1 := append_none (P := P) (ty := o.type) hd hud hty ad ad2 cap2 w
                     simp only [execOp,ho,resolve,invoke,builtin,Sem.run_bind,Sem.run_pure,Result.andThen_ok]
                     simp [hv1,hv2,h1]
               · rename_i s f'
                 obtain ⟨hs,hK⟩ := h
                 obtain rfl : args = #[d,x] := by rw [← Array.toList_inj]; exact ha
                 obtain rfl : argTypes = #[t,u] := by rw [← Array.toList_inj]; exact hb
                 generalize hv1 : a.eval d = v1 at hdv
                 generalize hv2 : a.eval x = v2 at hxv
                 cases hdv with
                 | sg _ _ _ ad cap cs hdm hs' hc hl hx' hh' =>
                   obtain rfl : cap = 0 := hdm.full rfl
                   cases hxv with
                   | sb _ _ ad2 cap2 hdm2 hc2 =>
                     refine ⟨_,.slice ad 0 0,w,hK,Post.pure (.sg _ [] true ad 0 cs hdm hs' hc hl hx' hh') hh he,fun o ho => ?_⟩
                     have h1 := append_none (P := P) (ty := o.type) hd hud hty ad ad2 cap2 w
                     simp only [execOp,ho,resolve,invoke,builtin,Sem.run_bind,Sem.run_pure,Result.andThen_ok]
                     simp [hv1,hv2,h1]
               · rename_i s f'
                 obtain ⟨hs,hK⟩ := h
                 obtain rfl : args = #[d,x] := by rw [← Array.toList_inj]; exact ha
                 obtain rfl : argTypes = #[t,u] := by rw [← Array.toList_inj]; exact hb
                 generalize hv1 : a.eval d = v1 at hdv
                 generalize hv2 : a.eval x = v2 at hxv
                 cases hdv with
                 | sg _ _ _ ad cap cs hdm hs' hc hl hx' hh' =>
                   obtain rfl : cap = 0 := hdm.full rfl
                   cases hxv with
                   | si _ _ ad2 cap2 hdm2 hc2 =>
                     refine ⟨_,.slice ad 0 0,w,hK,Post.pure (.sg _ [] true ad 0 cs hdm hs' hc hl hx' hh') hh he,fun o ho => ?_⟩
                     have h1 := append_none (P := P) (ty := o.type) hd hud hty ad ad2 cap2 w
                     simp only [execOp,ho,resolve,invoke,builtin,Sem.run_bind,Sem.run_pure,Result.andThen_ok]
                     simp [hv1,hv2,h1]
               · exact h.elim
           · exact h.elim
     · exact h.elim
   · exact h.elim
 · exact h.elim
def aopsT (S : zal) (T : zag) (ops : List Oper) : List Bool → Nat → List Oper → List AV → Heap → (List AV → Heap → Prop) → Prop
 | _,_,[],sl,H,Q => Q sl H
 | [],nm,r,sl,H,Q => aops S T ops nm r sl H Q
 | true :: l,nm,o :: r,sl,H,Q => o.guard = none ∧ specOp T sl o.op (fun x => aopsT S T ops l (nm + 8) r (zar sl o.dst x) H Q)
 | false :: l,nm,o :: r,sl,H,Q => o.guard = none ∧ (aop S T nm sl o.op H).p ∧ aopsT S T ops l (nm + 8) r (zar sl o.dst (aop S T nm sl o.op H).x) (aop S T nm sl o.op H).H Q
theorem aopsT_sound {P : Program} {w0 : World} {E : Nat → Prop} {T : zag} {S : zal} (hT : TOk P T) (hS : Fns P S) {ops : Array Oper} {K : Exit → Act → World → Prop} {Q : List AV → Heap → Prop} {B : Bs} {nz : Nat}
   (hK : ∀ sl H a w loc,Base w0 B w loc → Rel' w0 E loc ⟨sl,H,nz⟩ a w → Q sl H → K .normal a w) : ∀ (k : List Bool) (r : List Oper) (nm : Nat) (sl : List AV) (H : Heap) (a : Act) (w : World) (loc : Loc),nz = nm + 8 * r.length → Base w0 B w loc →
   Rel' w0 E loc ⟨sl,H,nm⟩ a w → aopsT S T ops.toList k nm r sl H Q → wpList P ops K r a w
 | k,[],nm,sl,H,a,w,loc,hz,hb,hr,h => by
   simp only [List.length_nil,Nat.mul_zero,Nat.add_zero] at hz
   subst hz
   exact wpList_nil (hK sl H a w loc hb hr (by cases k with | nil => exact h | cons b _ => cases b <;> exact h))
 | [],o :: r,nm,sl,H,a,w,loc,hz,hb,hr,h => zey (ops := ops) hT hS hK (o :: r) nm sl H a w loc hz hb hr h
 | true :: l,o :: r,nm,sl,H,a,w,loc,hz,hb,hr,h => by
   have hz' : nz = nm + 8 + 8 * r.length := by simp at hz; omega
   obtain ⟨hg,hp⟩ := h
   refine wpList_step fun Kn hKn => ?_
   rw [if_pos (by simp [Region.wanted,hg])]
   obtain ⟨x,v,w',hrest,hpost,hrun⟩ := specOp_sound (P := P) (nm := nm) hT hr.env hr.heap (fun x => ev_R hr.slots x) hp
   exact (zaw (w' := w') (loc' := loc) (out := ⟨True,x,H⟩) (hrun o rfl) hpost) Kn K (fun v w' loc' hpost => hKn _ _ (aopsT_sound hT hS hK l r (nm + 8) _ _ _ w' loc' hz' (hb.post hpost) (rel_post hr hpost (fun id b hl => Or.inl (by show look H id ≠ none; intro e; rw [show look H id = some b from hl] at e; cases e)) o.dst) hrest))
 | false :: l,o :: r,nm,sl,H,a,w,loc,hz,hb,hr,h => by
   have hz' : nz = nm + 8 + 8 * r.length := by simp at hz; omega
   obtain ⟨hg,hp,hrest⟩ := h
   refine wpList_step fun Kn hKn => ?_
   rw [if_pos (by simp [Region.wanted,hg])]
   have hop := aop_sound hT hS hr.env hr.heap (fun id h1 _ => hr.fresh id h1) o (fun x _ => ev_R hr.slots x) hp
   exact hop Kn K (fun v w' loc' hpost => hKn _ _ (aopsT_sound hT hS hK l r (nm + 8) _ _ _ w' loc' hz' (hb.post hpost) (rel_post hr hpost (hnew_aop hp) o.dst) hrest))
inductive RP where
 | std
 | frz (fs : List Nat)
 | opn (fs : List Nat) (k : Nat)
 | prs (l : List (Nat × Nat))
 | tst (k : List Bool)
abbrev XPlan := Nat → RP
def zdj (T : zag) (pl : XPlan) : Code → Bool
 | .region id ops draw => match pl id with
   | .std => !draw || drawOk T ops.toList
   | .frz _ => !draw || drawOk T ops.toList
   | .opn _ _ => !draw
   | .tst _ => !draw
   | .prs p => draw && drawOkF T ops.toList p
 | .seq a b => zdj T pl a && zdj T pl b
 | .cond _ a b => zdj T pl a && zdj T pl b
 | .block _ c => zdj T pl c
 | .loop c => zdj T pl c
 | _ => true
def awpO (S SO : zal) (T : zag) (pl : XPlan) : Code → (Exit → ASt → Prop) → ASt → Prop
 | .skip,Q,σ => Q .normal σ
 | .label _,Q,σ => Q .normal σ
 | .region id ops _,Q,σ => match pl id with
   | .std => aops S T ops.toList σ.nx ops.toList σ.sl σ.H (regK (σ.nx + 8 * ops.toList.length) Q)
   | .prs p => aopsF S T ops.toList p σ.nx [] ops.toList σ.sl σ.H (regK (σ.nx + 8 * ops.toList.length) Q)
   | .frz fs => frzK fs σ.sl σ.H (fun sl H => aops S T ops.toList σ.nx ops.toList sl H (regK (σ.nx + 8 * ops.toList.length) Q))
   | .opn fs k => frzK fs σ.sl σ.H (fun sl H => aopsO S SO T ops.toList k σ.nx ops.toList sl H (regK (σ.nx + 8 * ops.toList.length) Q))
   | .tst k => aopsT S T ops.toList k σ.nx ops.toList σ.sl σ.H (regK (σ.nx + 8 * ops.toList.length) Q)
 | .seq a b,Q,σ => awpO S SO T pl a (seqK (awpO S SO T pl b Q) Q) σ
 | .cond c a b,Q,σ => match ev σ.sl c with
     | .w (.bool t) => csplit t (awpO S SO T pl a Q σ) (awpO S SO T pl b Q σ)
     | _ => False
 | .block id c,Q,σ => awpO S SO T pl c (blockK id Q) σ
 | .loop c,Q,σ => ALoop (awpO S SO T pl c) Q σ
 | .exit id,Q,σ => Q (.exit id) σ
 | .ret,Q,σ => Q .ret σ
 | _,_,_ => False
open Classical in
theorem awpO_sound {P : Program} {w0 : World} {E : Nat → Prop} {T : zag} {S SO : zal} {pl : XPlan} (hm : P.follows .mixedOrders = true) (hT : TOk P T) (hS : Fns P S) (hSO : FnsO P SO) {B : Bs} : ∀ (c : Code) (Q : Exit → ASt → Prop) (σ : ASt) (a : Act) (w : World),
   zdj T pl c = true → awpO S SO T pl c Q σ → Rel w0 E B σ a w → c.wp P (Low w0 E B Q) a w := by
 intro c
 induction c with
 | skip => intro Q σ a w hdr h hr; exact wp_skip ⟨σ,hr,h⟩
 | label l => intro Q σ a w hdr h hr; exact wp_label ⟨σ,hr,h⟩
 | ret => intro Q σ a w hdr h hr; exact wp_ret ⟨σ,hr,h⟩
 | exit id => intro Q σ a w hdr h hr; exact wp_exit ⟨σ,hr,h⟩
 | region id ops draw =>
   intro Q σ a w hdr h hr
   obtain ⟨loc,hb,hr⟩ := hr
   obtain ⟨sl,H,nx⟩ := σ
   have hK : ∀ sl H a w loc,Base w0 B w loc → Rel' w0 E loc ⟨sl,H,nx + 8 * ops.toList.length⟩ a w → regK (nx + 8 * ops.toList.length) Q sl H → Low w0 E B Q .normal a w := fun sl H a w loc h1 h2 h3 => ⟨_,⟨loc,h1,h2⟩,h3⟩
   simp only [zdj] at hdr
   simp only [awpO] at h
   cases hp : pl id with
   | std =>
     simp only [hp] at hdr h
     cases draw with
     | false => exact wp_region_list (zey hT hS hK ops.toList nx sl H a w loc rfl hb hr h)
     | true => exact draw_sound hT hS hm w0 E ops.toList _ _ B nx sl H a w loc id (by simpa using hdr) hK hb hr h
   | prs p =>
     simp only [hp] at hdr h
     simp only [Bool.and_eq_true] at hdr
     obtain ⟨hd1,hd2⟩ := hdr
     subst hd1
     exact drawF_sound hT hS hm hd2 hK hb hr h
   | frz fs =>
     simp only [hp] at hdr h
     obtain ⟨sl',H',hw,h⟩ := frzK_sound (nx := nx) _ _ _ _ h
     obtain ⟨loc',hb',hr'⟩ := hw _ _ _ _ _ ⟨loc,hb,hr⟩
     cases draw with
     | false => exact wp_region_list (zey hT hS hK ops.toList nx sl' H' a w loc' rfl hb' hr' h)
     | true => exact draw_sound hT hS hm w0 E ops.toList _ _ B nx sl' H' a w loc' id (by simpa using hdr) hK hb' hr' h
   | opn fs k =>
     simp only [hp] at hdr h
     obtain ⟨sl',H',hw,h⟩ := frzK_sound (nx := nx) _ _ _ _ h
     obtain ⟨loc',hb',hr'⟩ := hw _ _ _ _ _ ⟨loc,hb,hr⟩
     cases draw with
     | false => exact wp_region_list (aopsO_sound hT hS hSO hK k ops.toList nx sl' H' a w loc' rfl hb' hr' h)
     | true => simp at hdr
   | tst k =>
     simp only [hp] at hdr h
     cases draw with
     | false => exact wp_region_list (aopsT_sound hT hS hK k ops.toList nx sl H a w loc rfl hb hr h)
     | true => simp at hdr
 | seq x y ihx ihy =>
   intro Q σ a w hdr h hr
   refine wp_seq (wp_mono (ihx _ σ a w (by simp only [zdj,Bool.and_eq_true] at hdr; exact hdr.1) h hr) ?_)
   rintro e a' w' ⟨σ',hr',hq⟩
   cases e with
   | normal => exact ihy Q σ' a' w' (by simp only [zdj,Bool.and_eq_true] at hdr; exact hdr.2) hq hr'
   | _ => exact ⟨σ',hr',hq⟩
 | cond c x y ihx ihy =>
   intro Q σ a w hdr h hr
   simp only [awpO,csplit] at h
   simp only [zdj,Bool.and_eq_true] at hdr
   obtain ⟨loc,hb,hr⟩ := hr
   split at h
   · rename_i t hc
     have hv := ev_R hr.slots c
     rw [hc] at hv
     have hv := hv.wv
     cases t with
     | true => exact wp_cond_true hv (ihx Q σ a w hdr.1 (h.1 rfl) ⟨loc,hb,hr⟩)
     | false => exact wp_cond_false hv (ihy Q σ a w hdr.2 (h.2 rfl) ⟨loc,hb,hr⟩)
   · exact h.elim
 | block id c ih =>
   intro Q σ a w hdr h hr
   refine wp_block (wp_mono (ih _ σ a w hdr h hr) ?_)
   rintro e a' w' ⟨σ',hr',hq⟩
   cases e with
   | exit id' =>
     simp only [blockK,Exit.inBlock] at hq ⊢
     split at hq
     · rename_i he; rw [if_pos he]; exact ⟨σ',hr',hq⟩
     · rename_i he; rw [if_neg he]; exact ⟨σ',hr',hq⟩
   | _ => exact ⟨σ',hr',hq⟩
 | loop c ih =>
   intro Q σ a w hdr h hr
   obtain ⟨I,⟨n0,σ0,hw0,hI0⟩,hround⟩ := h
   let p : Act → World → Nat → Prop := fun a w n => ∃ σ,Rel w0 E B σ a w ∧ I n σ
   have hleast : ∀ a w,(∃ n,p a w n) → ∃ m,p a w m ∧ ∀ k,p a w k → m ≤ k := fun a w ⟨n,hn⟩ => let ⟨m,h1,_,h3⟩ := least n hn; ⟨m,h1,h3⟩
   let μ : Act → World → Nat := fun a w => if h : ∃ n,p a w n then Classical.choose (hleast a w h) else 0
   refine wp_loop (fun a w => ∃ n,p a w n) μ ⟨n0,σ0,hw0 w0 E B a w hr,hI0⟩ ?_
   intro a w hex
   have hμ : μ a w = Classical.choose (hleast a w hex) := dif_pos hex
   obtain ⟨⟨σ1,hr1,hI1⟩,hmin⟩ := Classical.choose_spec (hleast a w hex)
   rw [← hμ] at hI1
   refine wp_mono (ih _ σ1 a w hdr (hround _ σ1 hI1) hr1) ?_
   rintro e a' w' ⟨σ',hr',hq⟩
   cases e with
   | normal =>
     obtain ⟨m,σ2,hlt,hw2,hI2⟩ := hq
     have hp : p a' w' m := ⟨σ2,hw2 w0 E B a' w' hr',hI2⟩
     refine ⟨⟨m,hp⟩,?_⟩
     have hμ' : μ a' w' = Classical.choose (hleast a' w' ⟨m,hp⟩) := dif_pos ⟨m,hp⟩
     have := (Classical.choose_spec (hleast a' w' ⟨m,hp⟩)).2 m hp
     rw [← hμ'] at this
     exact Nat.lt_of_le_of_lt this hlt
   | _ =>
     obtain ⟨σ2,hw2,hq⟩ := hq
     exact ⟨σ2,hw2 w0 E B a' w' hr',hq⟩
 | _ => intro Q σ a w hdr h hr; exact h.elim
theorem fn_soundO {P : Program} {T : zag} {S SO : zal} (hm : P.follows .mixedOrders = true) (hT : TOk P T) (hS : Fns P S) (hSO : FnsO P SO) {f : FuncId} {fn : Func} {c : Code} (hf : P.funcs[f]? = some fn) (hb : fn.body = some c) {spec : zai}
   (h : ∀ xs pins,(spec xs pins).p → pins.length ≤ 4 ∧ ∃ pl,zdj T pl c = true ∧ awpO S SO T pl c (EndsWO T fn.results.toList pins (spec xs pins)) ⟨xs ++ List.replicate (fn.ntmps - xs.length) .junk,pinHeap 0 pins,4⟩) : SoundO P f spec :=
 sound_genO hT hf hb (Qp := fun xs pins => EndsWO T fn.results.toList pins (spec xs pins)) (fun _ _ _ _ h => h) (fun xs pins hp => ⟨(h xs pins hp).1,fun w0 E B a w hr => (h xs pins hp).2.elim fun pl hh => awpO_sound hm hT hS hSO c _ _ _ _ hh.1 hh.2 hr⟩)
theorem zcj {P : Program} {T : zag} {S SO : zal} (hm : P.follows .mixedOrders = true) (hT : TOk P T) (hS : Fns P S) (hSO : FnsO P SO) {f : FuncId} {fn : Func} {c : Code} (hf : P.funcs[f]? = some fn) (hb : fn.body = some c) {spec : zai}
   (h : ∀ xs pins,(spec xs pins).p → closedB pins = true → pins.length ≤ 4 ∧ ∃ pl,zdj T pl c = true ∧ awpO S SO T pl c (EndsW T fn.results.toList pins (spec xs pins)) ⟨xs ++ List.replicate (fn.ntmps - xs.length) .junk,pinHeap 0 pins,4⟩) : zaq P f spec :=
 sound_genK (S := S) hT hS hf hb (Qp := fun xs pins => EndsW T fn.results.toList pins (spec xs pins)) (fun _ _ _ _ h => h) (fun xs pins hp hc => ⟨(h xs pins hp hc).1,fun w0 E B a w hr => (h xs pins hp hc).2.elim fun pl hh => awpO_sound hm hT hS hSO c _ _ _ _ hh.1 hh.2 hr⟩)
def laterO (S SO : zal) (T : zag) (pl : XPlan) (b : Code) (Q : Exit → ASt → Prop) : Exit → ASt → Prop := seqK (awpO S SO T pl b Q) Q
section rules
variable {S SO : zal} {T : zag} {pl : XPlan} {Q : Exit → ASt → Prop} {σ : ASt}
theorem awpO_skip : awpO S SO T pl .skip Q σ = Q .normal σ := rfl
theorem awpO_label {l : Nat} : awpO S SO T pl (.label l) Q σ = Q .normal σ := rfl
theorem awpO_ret : awpO S SO T pl .ret Q σ = Q .ret σ := rfl
theorem awpO_exit {id : Nat} : awpO S SO T pl (.exit id) Q σ = Q (.exit id) σ := rfl
theorem awpO_region {id : Nat} {l : List Oper} {draw : Bool} : awpO S SO T pl (.region id l.toArray draw) Q σ = match pl id with
   | .std => aops S T l σ.nx l σ.sl σ.H (regK (σ.nx + 8 * l.length) Q)
   | .prs p => aopsF S T l p σ.nx [] l σ.sl σ.H (regK (σ.nx + 8 * l.length) Q)
   | .frz fs => frzK fs σ.sl σ.H (fun sl H => aops S T l σ.nx l sl H (regK (σ.nx + 8 * l.length) Q))
   | .opn fs k => frzK fs σ.sl σ.H (fun sl H => aopsO S SO T l k σ.nx l sl H (regK (σ.nx + 8 * l.length) Q))
   | .tst k => aopsT S T l k σ.nx l σ.sl σ.H (regK (σ.nx + 8 * l.length) Q) := by
 simp [awpO]
theorem awpO_seq {a b : Code} : awpO S SO T pl (.seq a b) Q σ = awpO S SO T pl a (laterO S SO T pl b Q) σ := rfl
theorem awpO_block {id : Nat} {c : Code} : awpO S SO T pl (.block id c) Q σ = awpO S SO T pl c (blockK id Q) σ := rfl
theorem awpO_cond {c : Operand} {a b : Code} : awpO S SO T pl (.cond c a b) Q σ = match ev σ.sl c with
     | .w (.bool t) => csplit t (awpO S SO T pl a Q σ) (awpO S SO T pl b Q σ)
     | _ => False := rfl
theorem zdl {c : Code} (h : ALoop (awpO S SO T pl c) Q σ) : awpO S SO T pl (.loop c) Q σ := h
theorem zab {b : Code} : laterO S SO T pl b Q .normal σ = awpO S SO T pl b Q σ := rfl
theorem laterO_exit {b : Code} {id : Nat} : laterO S SO T pl b Q (.exit id) σ = Q (.exit id) σ := rfl
theorem laterO_ret {b : Code} : laterO S SO T pl b Q .ret σ = Q .ret σ := rfl
variable {ops r : List Oper} {o : Oper} {nm k : Nat} {sl : List AV} {H : Heap} {Q' : List AV → Heap → Prop}
def openKO (q : Out) (sl : List AV) (dst : Option Tmp) (K : List AV → Heap → Prop) : Prop := q.p ∧ K (zar sl dst q.x) q.H
theorem openKO_def {q : Out} {dst : Option Tmp} {K : List AV → Heap → Prop} : openKO q sl dst K = (q.p ∧ K (zar sl dst q.x) q.H) := rfl
theorem aopsO_zero {dst : Option Tmp} {op : Op} {type : TypeId} {pos : String} {after : Array Edge} : aopsO S SO T ops 0 nm (⟨dst,op,type,pos,after,none⟩ :: r) sl H Q' =
   openKO (openOp SO T nm sl op H) sl dst (fun sl' H' => aops S T ops (nm + 8) r sl' H' Q') := by
 simp [aopsO,openKO]
theorem aopsO_succ {dst : Option Tmp} {op : Op} {type : TypeId} {pos : String} {after : Array Edge} : aopsO S SO T ops (k + 1) nm (⟨dst,op,type,pos,after,none⟩ :: r) sl H Q' =
   ((aop S T nm sl op H).p ∧ aopsO S SO T ops k (nm + 8) r (zar sl dst (aop S T nm sl op H).x) (aop S T nm sl op H).H Q') := by
 simp [aopsO]
theorem aopsT_nil : aopsT S T ops [] nm r sl H Q' = aops S T ops nm r sl H Q' := by
 cases r <;> rfl
theorem aopsT_done {l : List Bool} : aopsT S T ops l nm [] sl H Q' = Q' sl H := by
 cases l with
 | nil => rfl
 | cons b _ => cases b <;> rfl
theorem aopsT_t {l : List Bool} {dst : Option Tmp} {op : Op} {type : TypeId} {pos : String} {after : Array Edge} : aopsT S T ops (true :: l) nm (⟨dst,op,type,pos,after,none⟩ :: r) sl H Q' =
   (specOp T sl op (fun x => aopsT S T ops l (nm + 8) r (zar sl dst x) H Q')) := by
 simp [aopsT]
theorem aopsT_f {l : List Bool} {dst : Option Tmp} {op : Op} {type : TypeId} {pos : String} {after : Array Edge} : aopsT S T ops (false :: l) nm (⟨dst,op,type,pos,after,none⟩ :: r) sl H Q' =
   ((aop S T nm sl op H).p ∧ aopsT S T ops l (nm + 8) r (zar sl dst (aop S T nm sl op H).x) (aop S T nm sl op H).H Q') := by
 simp [aopsT]
end rules
end Ax
end Go.Proofs.Ytmedjkjoannbmaa
namespace Go.Proofs.Ytmedjkjoannbmaa
open Ax
theorem evTO : (type_of% @awpO_skip) ∧
   (type_of% @awpO_label) ∧
   (type_of% @awpO_ret) ∧
   (type_of% @awpO_exit) ∧
   (type_of% @awpO_region) ∧
   (type_of% @awpO_seq) ∧
   (type_of% @awpO_block) ∧
   (type_of% @awpO_cond) ∧
   (type_of% @laterO_exit) ∧
   (type_of% @laterO_ret) ∧
   (type_of% @aopsO_zero) ∧
   (type_of% @aopsO_succ) ∧
   (type_of% @aopsT_nil) ∧
   (type_of% @aopsT_done) ∧
   (type_of% @aopsT_t) ∧
   (type_of% @aopsT_f) :=
 ⟨@awpO_skip,@awpO_label,@awpO_ret,@awpO_exit,@awpO_region,@awpO_seq,@awpO_block,@awpO_cond,@laterO_exit,@laterO_ret,@aopsO_zero,@aopsO_succ,@aopsT_nil,@aopsT_done,@aopsT_t,@aopsT_f⟩
theorem evDO : (type_of% @Ax.frzS.eq_1) ∧
   (type_of% @Ax.frzL.eq_1) ∧
   (type_of% @Ax.frzL.eq_2) ∧
   (type_of% @Ax.fzL.eq_1) ∧
   (type_of% @Ax.fzL.eq_2) ∧
   (type_of% @Ax.fzH.eq_1) ∧
   (type_of% @Ax.fzH.eq_2) ∧
   (type_of% @Ax.AV.fz.eq_1) ∧
   (type_of% @Ax.AV.fz.eq_2) ∧
   (type_of% @Ax.AV.fz.eq_3) ∧
   (type_of% @Ax.AV.fz.eq_4) ∧
   (type_of% @Ax.AV.fz.eq_5) ∧
   (type_of% @Ax.fiL.eq_1) ∧
   (type_of% @Ax.fiL.eq_2) ∧
   (type_of% @Ax.fiH.eq_1) ∧
   (type_of% @Ax.fiH.eq_2) ∧
   (type_of% @Ax.AV.fi.eq_1) ∧
   (type_of% @Ax.AV.fi.eq_2) ∧
   (type_of% @Ax.AV.fi.eq_3) ∧
   (type_of% @Ax.AV.fi.eq_4) ∧
   (type_of% @Ax.AV.fi.eq_5) ∧
   (type_of% @Ax.fgL.eq_1) ∧
   (type_of% @Ax.fgL.eq_2) ∧
   (type_of% @Ax.fgH.eq_1) ∧
   (type_of% @Ax.fgH.eq_2) ∧
   (type_of% @Ax.AV.fg.eq_1) ∧
   (type_of% @Ax.AV.fg.eq_2) ∧
   (type_of% @Ax.AV.fg.eq_3) ∧
   (type_of% @Ax.AV.fg.eq_4) ∧
   (type_of% @Ax.AV.fg.eq_5) ∧
   (type_of% @Ax.aOpen.eq_1) ∧
   (type_of% @Ax.openOut.eq_1) ∧
   (type_of% @Ax.reach.eq_1) ∧
   (type_of% @Ax.reach.eq_2) ∧
   (type_of% @Ax.reach.eq_3) ∧
   (type_of% @Ax.walk.eq_1) ∧
   (type_of% @Ax.walk.eq_2) ∧
   (type_of% @Ax.allIn.eq_1) ∧
   (type_of% @Ax.allIn.eq_2) ∧
   (type_of% @Ax.pinsIn.eq_1) ∧
   (type_of% @Ax.pinsIn.eq_2) ∧
   (type_of% @Ax.pinsR.eq_1) ∧
   (type_of% @Ax.pinsR.eq_2) ∧
   (type_of% @Ax.backO.eq_1) ∧
   (type_of% @Ax.backO.eq_2) ∧
   (type_of% @Ax.gone.eq_1) ∧
   (type_of% @Ax.AV.sids.eq_1) ∧
   (type_of% @Ax.AV.sids.eq_2) ∧
   (type_of% @Ax.AV.sids.eq_3) ∧
   (type_of% @Ax.AV.sids.eq_4) ∧
   (type_of% @Ax.AV.sids.eq_5) ∧
   (type_of% @Ax.AV.sids.eq_6) ∧
   (type_of% @Ax.sidsL.eq_1) ∧
   (type_of% @Ax.sidsL.eq_2) ∧
   (type_of% @Ax.Blk.renB.eq_1) ∧
   (type_of% @Ax.idxOf.eq_1) ∧
   (type_of% @Ax.EndsXO.eq_1) ∧
   (type_of% @Ax.endIds.eq_1) ∧
   (type_of% @Ax.reachE.eq_1) ∧
   (type_of% @Ax.reachE.eq_2) ∧
   (type_of% @Ax.reachE.eq_3) ∧
   (type_of% @Ax.idsAt.eq_1) ∧
   (type_of% @Ax.idsAtL.eq_1) ∧
   (type_of% @Ax.idsAtL.eq_2) ∧
   (type_of% @Ax.walkI.eq_1) ∧
   (type_of% @Ax.walkI.eq_2) ∧
   (type_of% @Ax.matchE.eq_1) ∧
   (type_of% @Ax.matchE.eq_2) ∧
   (type_of% @Ax.matchE.eq_3) ∧
   (type_of% @Ax.aopF.eq_1) ∧
   (type_of% @Ax.foot.eq_1) ∧
   (type_of% @Ax.footA.eq_1) ∧
   (type_of% @Ax.keepIn.eq_1) ∧
   (type_of% @Ax.keepIn.eq_2) ∧
   (type_of% @Ax.dropIn.eq_1) ∧
   (type_of% @Ax.dropIn.eq_2) ∧
   (type_of% @Ax.bids.eq_1) ∧
   (type_of% @Ax.bids.eq_2) ∧
   (type_of% @Ax.heldB.eq_1) ∧
   (type_of% @Ax.memOk.eq_1) ∧
   (type_of% @Ax.clearOf.eq_1) :=
 ⟨@Ax.frzS.eq_1,@Ax.frzL.eq_1,@Ax.frzL.eq_2,@Ax.fzL.eq_1,@Ax.fzL.eq_2,@Ax.fzH.eq_1,@Ax.fzH.eq_2,@Ax.AV.fz.eq_1,@Ax.AV.fz.eq_2,@Ax.AV.fz.eq_3,@Ax.AV.fz.eq_4,@Ax.AV.fz.eq_5,@Ax.fiL.eq_1,@Ax.fiL.eq_2,@Ax.fiH.eq_1,@Ax.fiH.eq_2,@Ax.AV.fi.eq_1,@Ax.AV.fi.eq_2,@Ax.AV.fi.eq_3,@Ax.AV.fi.eq_4,@Ax.AV.fi.eq_5,@Ax.fgL.eq_1,@Ax.fgL.eq_2,@Ax.fgH.eq_1,@Ax.fgH.eq_2,@Ax.AV.fg.eq_1,@Ax.AV.fg.eq_2,@Ax.AV.fg.eq_3,@Ax.AV.fg.eq_4,@Ax.AV.fg.eq_5,@Ax.aOpen.eq_1,@Ax.openOut.eq_1,@Ax.reach.eq_1,@Ax.reach.eq_2,@Ax.reach.eq_3,@Ax.walk.eq_1,@Ax.walk.eq_2,@Ax.allIn.eq_1,@Ax.allIn.eq_2,@Ax.pinsIn.eq_1,@Ax.pinsIn.eq_2,@Ax.pinsR.eq_1,@Ax.pinsR.eq_2,@Ax.backO.eq_1,@Ax.backO.eq_2,@Ax.gone.eq_1,@Ax.AV.sids.eq_1,@Ax.AV.sids.eq_2,@Ax.AV.sids.eq_3,@Ax.AV.sids.eq_4,@Ax.AV.sids.eq_5,@Ax.AV.sids.eq_6,@Ax.sidsL.eq_1,@Ax.sidsL.eq_2,@Ax.Blk.renB.eq_1,@Ax.idxOf.eq_1,@Ax.EndsXO.eq_1,@Ax.endIds.eq_1,@Ax.reachE.eq_1,@Ax.reachE.eq_2,@Ax.reachE.eq_3,@Ax.idsAt.eq_1,@Ax.idsAtL.eq_1,@Ax.idsAtL.eq_2,@Ax.walkI.eq_1,@Ax.walkI.eq_2,@Ax.matchE.eq_1,@Ax.matchE.eq_2,@Ax.matchE.eq_3,@Ax.aopF.eq_1,@Ax.foot.eq_1,@Ax.footA.eq_1,@Ax.keepIn.eq_1,@Ax.keepIn.eq_2,@Ax.dropIn.eq_1,@Ax.dropIn.eq_2,@Ax.bids.eq_1,@Ax.bids.eq_2,@Ax.heldB.eq_1,@Ax.memOk.eq_1,@Ax.clearOf.eq_1⟩
open Ax
attribute [go_sem] evDO evTO openOp Blk.isGone Blk.idsB Blk.sidsB Blk.ren EndsO
attribute [go_sem ↓] openKO_def
end Go.Proofs.Ytmedjkjoannbmaa
namespace Go.Proofs.Ytmedjkjoannbmaa
namespace Ax
theorem weak_fiB {sl : List AV} {H : Heap} {nx : Nat} (id i id0 : Nat) (bs : List Int) (b0 : Blk) (hl : look H id = some (.i bs)) (h0 : Ax.look H id0 = some b0) (hi0 : id0 ∈ (slot sl i).ids) (hin : id ∈ b0.idsB) : Weak ⟨sl,H,nx⟩ ⟨fiL id bs sl,fiH id bs H,nx⟩ := by
 rintro w0 E B a w ⟨loc,hB,hr⟩
 refine rel_fi id bs hl hB hr ?_
 have h1 := zef _ _ (hr.slots i) hi0
 obtain ⟨hok,⟨_,e⟩ | ⟨c,hc,hlies⟩⟩ := hr.heap.get h0 h1
 · rw [idsB_nil e] at hin; simp at hin
 · exact lies_live hlies id hin
theorem weak_fgB {sl : List AV} {H : Heap} {nx : Nat} (id s i id0 : Nat) (zs : List AV) (b0 : Blk) (hl : Ax.look H id = some (.g s zs)) (hcl : closedL zs = true) (h0 : Ax.look H id0 = some b0) (hi0 : id0 ∈ (slot sl i).ids) (hin : id ∈ b0.idsB) : Weak ⟨sl,H,nx⟩ ⟨fgL id s zs sl,fgH id s zs H,nx⟩ := by
 rintro w0 E B a w ⟨loc,hB,hr⟩
 have h1 := zef _ _ (hr.slots i) hi0
 have h2 : loc.m id ≠ .free := by
   obtain ⟨hok,⟨_,e⟩ | ⟨c,hc,hlies⟩⟩ := hr.heap.get h0 h1
   · rw [idsB_nil e] at hin; simp at hin
   · exact lies_live hlies id hin
 obtain ⟨h3,h4⟩ := rel_fg hB hr h2 (hr.heap id _ hl) hcl
 exact ⟨_,h3,h4⟩
theorem blk_cell {w : World} {loc : Loc} {id s i : Nat} {xs : List AV} {y : AV} (hy : y.leaf = true) (hR : ∀ v,R w loc (slot xs i) v → R w loc y v) (h3 : BlkR w loc id (.g s [.agg xs])) : BlkR w loc id (.g s [.agg (setSlot xs i y)]) := by
 unfold BlkR at h3 ⊢
 have hok : Blk.ok (.g s [.agg xs]) → Blk.ok (.g s [.agg (setSlot xs i y)]) := by
   rintro ⟨h1,h2⟩
   refine ⟨h1,fun z hz => ?_⟩
   rw [List.mem_singleton] at hz; subst hz
   have := h2 _ (List.mem_singleton.2 rfl)
   simp only [AV.leaves] at this ⊢
   rw [zau]; exact this
 split
 · trivial
 · rename_i e; rw [e] at h3; exact h3
 · rename_i e; rw [e] at h3; exact ⟨hok h3.1,h3.2⟩
 · rename_i d e
   rw [e] at h3
   obtain ⟨cur,el,fz,g1,g2,g3,g4,g5⟩ := h3.2.lies rfl
   refine ⟨hok h3.1,.mkC ⟨cur,el,fz,g1,g2,g3,?_,fun j x y' => ?_⟩ rfl⟩
   · simp only [Blk.flat,List.flatMap_cons,List.flatMap_nil,List.append_nil,AV.leaves] at g4 ⊢
     rw [zau]; exact g4
   · have hx : j < xs.length := by
       simp only [Blk.flat,List.flatMap_cons,List.flatMap_nil,List.append_nil,AV.leaves] at x
       rw [zau] at x; exact x
     have h6 := g5 j (by simp only [Blk.flat,List.flatMap_cons,List.flatMap_nil,List.append_nil,AV.leaves]; exact hx) y'
     have e1 : (Blk.flat (.g s [.agg xs]))[j]'(by simp only [Blk.flat,List.flatMap_cons,List.flatMap_nil,List.append_nil,AV.leaves]; exact hx) = slot xs j := by
       simp only [Blk.flat,List.flatMap_cons,List.flatMap_nil,List.append_nil,AV.leaves]; exact (zeq hx).symm
     have e2 : (Blk.flat (.g s [.agg (setSlot xs i y)]))[j] = slot (setSlot xs i y) j := by
       simp only [Blk.flat,List.flatMap_cons,List.flatMap_nil,List.append_nil,AV.leaves]; exact (zeq (by rw [zau]; exact hx)).symm
     rw [e1] at h6
     rw [e2]
     by_cases hij : j = i
     · subst hij
       rw [zcb hx]
       exact ⟨hy,hR _ h6.2⟩
     · rw [zbx (Ne.symm hij)]
       exact h6
theorem weak_nilC {sl : List AV} {H : Heap} {nx : Nat} (cid cs i s : Nat) (xs : List AV) (b : Blk) (hl : Ax.look H cid = some (.g cs [.agg xs])) (hb : emptyB b) (hn : nilV (slot xs i)) : Weak ⟨sl,H,nx⟩ ⟨sl,put (put H cid (.g cs [.agg (setSlot xs i (.ms nx s 0 0))])) nx b,nx + 1⟩ := by
 rintro w0 E B a w ⟨loc,hB,hr⟩
 have hf : loc.m nx = .free := hr.fresh nx (Nat.le_refl _)
 have hb1 : b.ok ∧ b.len = 0 := by
   cases b with
   | o x => exact hb.elim
   | b bs => exact ⟨trivial,by rw [show bs = [] from hb]; rfl⟩
   | i bs => exact ⟨trivial,by rw [show bs = [] from hb]; rfl⟩
   | g s xs => obtain ⟨h1,rfl⟩ := hb; exact ⟨⟨h1,by simp⟩,rfl⟩
 have hM : ∀ c,Mut (loc.set nx .nil) c → Mut loc c := by
   rintro c (h | ⟨k,h⟩)
   · exact .inl h
   · by_cases hk : k = nx
     · subst hk; rw [Loc.set_same] at h; cases h
     · rw [Loc.set_other _ _ hk] at h; exact .inr ⟨k,h⟩
 have hE : Ext (fun _ => False) w loc w (loc.set nx .nil) :=
   ⟨Nat.le_refl _,fun id h _ => Loc.set_other _ _ (fun e => h (e ▸ hf)),fun _ _ h => h.elim,fun c _ hm => ⟨rfl,fun h => hm (hM c h)⟩,fun _ _ _ _ => rfl,fun _ cur _ fz h => ⟨cur,fz,h,rfl⟩⟩
 have hset : ∀ {k c},(loc.set nx .nil).m k = .here c → loc.m k = .here c := by
   intro k c h
   by_cases hk : k = nx
   · subst hk; rw [Loc.set_same] at h; cases h
   · rwa [Loc.set_other _ _ hk] at h
 have hblk : ∀ (id : Nat) (c : Blk),Ax.look H id = some c → BlkR w (loc.set nx .nil) id c := by
   intro id c hl
   by_cases hfr : loc.m id = .free
   · by_cases e : id = nx
     · subst e; have := hr.low id c hl; simp only at this; omega
     · exact BlkR.free (by rw [Loc.set_other _ _ e]; exact hfr)
   · exact (hr.heap id c hl).ext hE (fun h => h) hfr
 refine ⟨loc.set nx .nil,⟨hB.1,hB.2.1,fun k hk => ?_⟩,⟨hr.size,fun t => (hr.slots t).ext hE,?_,⟨hr.env.os,hr.env.tape,hr.env.output,hr.env.size,hr.env.same,fun i j b h1 h2 => hr.env.inj i j b (hset h1) (hset h2),fun i b h1 => hr.env.lies i b (hset h1),hr.env.bad⟩,?_,hr.defers,?_⟩⟩
 · have hne : k ≠ nx := by
     rintro rfl
     rcases hB.2.2 k hk with h | ⟨h,_⟩ <;> rw [hf] at h <;> cases h
   rw [Loc.set_other _ _ hne]; exact hB.2.2 k hk
 · intro id c hk
   simp only at hk
   rw [zbb] at hk
   split at hk
   · rename_i e; subst e
     injection hk with hk; subst hk
     unfold BlkR
     rw [Loc.set_same]; exact hb1
   · rw [zbb] at hk
     split at hk
     · rename_i e; subst e
       injection hk with hk; subst hk
       refine blk_cell rfl (fun v hv => ?_) (hblk _ _ hl)
       obtain ⟨a',he⟩ := nilV_R hn hv
       rw [he]
       refine .ms _ _ _ _ _ ?_
       unfold Owns
       rw [Loc.set_same]
       exact ⟨rfl,a',rfl⟩
     · exact hblk id c hk
 · intro id hid
   simp only at hid
   rw [Loc.set_other _ _ (by omega)]; exact hr.fresh id (by simp only; omega)
 · intro id c hk
   simp only at hk
   rw [zbb] at hk
   split at hk
   · simp only; omega
   · rw [zbb] at hk
     split at hk
     · rename_i e; subst e; have := hr.low _ _ hl; simp only at this ⊢; omega
     · have := hr.low id c hk
       simp only at this ⊢; omega
end Ax
end Go.Proofs.Ytmedjkjoannbmaa
namespace Go.Proofs.Ytmedjkjoannbmaa
namespace Ax
open Go.RowKit
theorem wf_i64 {n : Int} (h : (Lit.int .i64 n).wf = true) : -9223372036854775808 ≤ n ∧ n ≤ 9223372036854775807 := by
 simp only [Lit.wf,Bool.and_eq_true,decide_eq_true_eq] at h
 have h1 : IntKind.min .i64 = -9223372036854775808 := by decide
 have h2 : IntKind.max .i64 = 9223372036854775807 := by decide
 rw [h1,h2] at h; exact h
theorem wf_u8 {n : Int} (h : (Lit.int .u8 n).wf = true) : 0 ≤ n ∧ n < 256 := by
 simp only [Lit.wf,Bool.and_eq_true,decide_eq_true_eq] at h
 have h1 : IntKind.min .u8 = 0 := by decide
 have h2 : IntKind.max .u8 = 255 := by decide
 rw [h1,h2] at h; omega
def IsRow (k : IntKind) (w : World) (a : Option Addr) (len cap : Nat) (zs : List Int) : Prop :=
 (a = none ∧ len = 0 ∧ cap = 0 ∧ zs = []) ∨
 ∃ x,a = some x ∧ len ≤ cap ∧ cap ≤ maxLen ∧ zs.length = cap ∧ (∀ i,i < zs.length → w.cell? (x.add i) = some (.int k (zs.getD i 0))) ∧ ∀ n ∈ zs,(Lit.int k n).wf = true
theorem not_mut0 (b : Nat) : ¬ Mut loc0 b := by
 rintro (h | ⟨k,h⟩)
 · exact h
 · simp [loc0,zbu] at h
theorem cells_row {k : IntKind} {w : World} {x : Addr} {zs : List Int} (hz : ∀ i,i < zs.length → w.cell? (x.add i) = some (.int k (zs.getD i 0))) (cs : List Value) (hn : cs.length ≤ zs.length)
   (hc : ∀ (j : Nat) (h : j < cs.length),cs[j] = .int k (zs.getD j 0)) : Cells w loc0 (some x) cs := by
 by_cases h0 : cs = []
 · exact ⟨.inl h0⟩
 · have hl : 0 < cs.length := by
     cases cs with
     | nil => exact (h0 rfl).elim
     | cons => simp
   have h1 := hz 0 (by omega)
   rw [show x.add 0 = x from rfl] at h1
   have hx : x.spot = none ∧ x.block < w.heap.size := by
     unfold World.cell? at h1
     split at h1
     · rename_i c e fz hh
       split at h1
       · cases h1
       · rename_i hs
         refine ⟨by simpa using hs,?_⟩
         rcases Nat.lt_or_ge x.block w.heap.size with h' | h'
         · exact h'
         · rw [Array.getElem?_eq_none h'] at hh; cases hh
     · cases h1
   obtain ⟨b,o,sp⟩ := x
   obtain ⟨rfl,hb⟩ := hx
   refine ⟨.inr ⟨b,o,rfl,not_mut0 b,hb,fun j hj => ?_⟩⟩
   have h2 := hz j (by omega)
   rw [hc j hj,← h2]
   cases j with
   | zero => rfl
   | succ j => rfl
theorem row_sb {w : World} {a : Option Addr} {len cap : Nat} {zs : List Int} (h : IsRow .u8 w a len cap zs) : ∃ bs : List UInt8,bs.length = len ∧ len ≤ maxLen ∧ R w loc0 (.sb bs false) (.slice a len cap) := by
 rcases h with ⟨rfl,rfl,rfl,rfl⟩ | ⟨x,rfl,hl,hm,hz,hcell,hwf⟩
 · exact ⟨[],rfl,Nat.zero_le _,.sb [] false none 0 ⟨Nat.le_refl _,Nat.zero_le _,fun h => by cases h⟩ ⟨.inl rfl⟩⟩
 · have hlen : ((zs.take len).map fun n => UInt8.ofNat n.toNat).length = len := by simp; omega
   refine ⟨(zs.take len).map fun n => UInt8.ofNat n.toNat,hlen,by omega,?_⟩
   have := R.sb (w := w) (loc := loc0) ((zs.take len).map fun n => UInt8.ofNat n.toNat) false (some x) cap ⟨by omega,hm,fun h => by cases h⟩
     (cells_row hcell _ (by simp; omega) (fun j hj => by
       have hj' : j < zs.length := by simp at hj; omega
       have hw := wf_u8 (hwf zs[j] (List.getElem_mem _))
       simp only [List.getElem_map,List.getElem_take,byte]
       have e : zs.getD j 0 = zs[j] := by simp [hj']
       rw [e]
       congr 1
       rw [UInt8.toNat_ofNat']
       omega))
   rw [hlen] at this
   exact this
theorem row_si {w : World} {a : Option Addr} {len cap : Nat} {zs : List Int} (h : IsRow .i64 w a len cap zs) : ∃ ns : List Int,ns.length = len ∧ len ≤ maxLen ∧ (∀ n ∈ ns,-9223372036854775808 ≤ n ∧ n ≤ 9223372036854775807) ∧ R w loc0 (.si ns false) (.slice a len cap) := by
 rcases h with ⟨rfl,rfl,rfl,rfl⟩ | ⟨x,rfl,hl,hm,hz,hcell,hwf⟩
 · exact ⟨[],rfl,Nat.zero_le _,by simp,.si [] false none 0 ⟨Nat.le_refl _,Nat.zero_le _,fun h => by cases h⟩ ⟨.inl rfl⟩⟩
 · have hlen : (zs.take len).length = len := by simp; omega
   refine ⟨zs.take len,hlen,by omega,fun n hn => wf_i64 (hwf n (List.mem_of_mem_take hn)),?_⟩
   have := R.si (w := w) (loc := loc0) (zs.take len) false (some x) cap ⟨by omega,hm,fun h => by cases h⟩
     (cells_row hcell _ (by simp; omega) (fun j hj => by
       have hj' : j < zs.length := by simp at hj; omega
       simp only [List.getElem_map,List.getElem_take,word]
       have e : zs.getD j 0 = zs[j] := by simp [hj']
       rw [e]))
   rw [hlen] at this
   exact this
theorem str_R (w : World) (s : ByteArray) : R w loc0 (.str s.data.toList) (.string s) := by
 have := R.str (w := w) (loc := loc0) s.data.toList
 simpa using this
def RL (w : World) : List AV → List Value → Prop
 | [],[] => True
 | x :: xs,v :: vs => R w loc0 x v ∧ RL w xs vs
 | _,_ => False
theorem RL_get {w : World} : ∀ {xs : List AV} {vs : List Value},RL w xs vs → xs.length = vs.length ∧ ∀ (j : Nat) (h : j < xs.length) (h' : j < vs.length),R w loc0 xs[j] vs[j]
 | [],[],_ => ⟨rfl,fun j h => by simp at h⟩
 | x :: xs,v :: vs,h => by
   obtain ⟨h1,h2⟩ := RL_get h.2
   refine ⟨by simp [h1],fun j a b => ?_⟩
   cases j with
   | zero => exact h.1
   | succ j => exact h2 j (by simpa using a) (by simpa using b)
 | [],_ :: _,h => h.elim
 | _ :: _,[],h => h.elim
theorem law_runL {P : Program} {f : FuncId} {spec : zai} (h : zaq P f spec) {xs : List AV} {vs : List Value} {w : World} (hp : (spec xs []).p) (hx : (spec xs []).x = .w (.bool true)) (hR : RL w xs vs) :
   Calls P f vs.toArray w fun e w' => e = .returned (.bool true) ∧ Below w.heap.size w w' :=
 law_run h hp hx (RL_get hR).1 (RL_get hR).2
end Ax
end Go.Proofs.Ytmedjkjoannbmaa
namespace Go.Proofs.Ytmedjkjoannbmaa
open Ax
theorem evT : (type_of% @awp_skip) ∧
   (type_of% @awp_label) ∧
   (type_of% @awp_ret) ∧
   (type_of% @awp_exit) ∧
   (type_of% @awp_region) ∧
   (type_of% @awp_seq) ∧
   (type_of% @awp_block) ∧
   (type_of% @awp_cond) ∧
   (type_of% @aops_nil) ∧
   (type_of% @aops_plain) ∧
   (type_of% @aops_guard) ∧
   (type_of% @later_exit) ∧
   (type_of% @later_ret) ∧
   (type_of% @blockK_normal) ∧
   (type_of% @blockK_exit) ∧
   (type_of% @blockK_ret) ∧
   (type_of% @regK_apply) ∧
   (type_of% @true_and) ∧
   (type_of% @and_true) ∧
   (type_of% @Nat.le_refl) ∧
   (type_of% @false_implies) ∧
   (type_of% @List.nil_append.{0}) ∧
   (type_of% @List.append_nil.{0}) ∧
   (type_of% @List.cons_append.{0}) ∧
   (type_of% @Nat.zero_le) ∧
   (type_of% @Bool.false_eq_true) ∧
   (type_of% @cond_false.{1}) ∧
   (type_of% @cond_true.{1}) ∧
   (type_of% @List.getElem?_cons_succ.{0}) ∧
   (type_of% @List.getElem?_cons_zero.{0}) ∧
   (type_of% @ne_eq.{1}) ∧
   (type_of% @not_false_eq_true) ∧
   (type_of% @and_self) ∧
   (type_of% @true_implies) ∧
   (type_of% @AV.w.injEq) ∧
   (type_of% @Nat.min_def) ∧
   (type_of% @List.set_cons_zero.{0}) ∧
   (type_of% @List.set_cons_succ.{0}) ∧
   (type_of% @List.replicate_succ.{0}) ∧
   (type_of% @List.replicate_zero.{0}) ∧
   (type_of% @List.length_append.{0}) ∧
   (type_of% @List.length_cons.{0}) ∧
   (type_of% @List.length_nil.{0}) ∧
   (type_of% @Nat.zero_add) ∧
   (type_of% @Nat.add_zero) ∧
   (type_of% @Bool.not_true) ∧
   (type_of% @Bool.not_false) ∧
   (type_of% @Bool.true_and) ∧
   (type_of% @Bool.and_true) ∧
   (type_of% @Bool.and_false) ∧
   (type_of% @Bool.false_and) ∧
   (type_of% @not_true_eq_false) ∧
   (type_of% @not_false_iff) ∧
   (type_of% @or_false) ∧
   (type_of% @or_true) ∧
   (type_of% @false_or) ∧
   (type_of% @true_or) ∧
   (type_of% @Int.toNat_natCast) ∧
   (type_of% @List.length_replicate.{0}) ∧
   (type_of% @gsplit_bt) ∧
   (type_of% @gsplit_bf) ∧
   (type_of% @csplit_b) ∧
   (type_of% @beq_self_eq_true.{0}) ∧
   (type_of% @BEq.rfl.{0}) ∧
   (type_of% @List.mem_cons.{0}) ∧
   (type_of% @List.not_mem_nil.{0}) ∧
   (type_of% @List.all_cons.{0}) ∧
   (type_of% @List.all_nil.{0}) ∧
   (type_of% @Bool.or_false) ∧
   (type_of% @Bool.or_true) ∧
   (type_of% @Bool.true_or) ∧
   (type_of% @Bool.false_or) ∧
   (type_of% @decide_true) ∧
   (type_of% @decide_false) ∧
   (type_of% @Value.int.injEq) ∧
   (type_of% @Value.bool.injEq) ∧
   (type_of% @IntKind.wrap_u8) ∧
   (type_of% @IntKind.wrap_u64) ∧
   (type_of% @IntKind.wrap_i64) :=
 ⟨@awp_skip,@awp_label,@awp_ret,@awp_exit,@awp_region,@awp_seq,@awp_block,@awp_cond,@aops_nil,@aops_plain,@aops_guard,@later_exit,@later_ret,@blockK_normal,@blockK_exit,@blockK_ret,@regK_apply,@true_and,@and_true,@Nat.le_refl,@false_implies,@List.nil_append.{0},@List.append_nil.{0},@List.cons_append.{0},@Nat.zero_le,@Bool.false_eq_true,@cond_false.{1},@cond_true.{1},@List.getElem?_cons_succ.{0},@List.getElem?_cons_zero.{0},@ne_eq.{1},@not_false_eq_true,@and_self,@true_implies,@AV.w.injEq,@Nat.min_def,@List.set_cons_zero.{0},@List.set_cons_succ.{0},@List.replicate_succ.{0},@List.replicate_zero.{0},@List.length_append.{0},@List.length_cons.{0},@List.length_nil.{0},@Nat.zero_add,@Nat.add_zero,@Bool.not_true,@Bool.not_false,@Bool.true_and,@Bool.and_true,@Bool.and_false,@Bool.false_and,@not_true_eq_false,@not_false_iff,@or_false,@or_true,@false_or,@true_or,@Int.toNat_natCast,@List.length_replicate.{0},@gsplit_bt,@gsplit_bf,@csplit_b,@beq_self_eq_true.{0},@BEq.rfl.{0},@List.mem_cons.{0},@List.not_mem_nil.{0},@List.all_cons.{0},@List.all_nil.{0},@Bool.or_false,@Bool.or_true,@Bool.true_or,@Bool.false_or,@decide_true,@decide_false,@Value.int.injEq,@Value.bool.injEq,@IntKind.wrap_u8,@IntKind.wrap_u64,@IntKind.wrap_i64⟩
theorem evD0 : (type_of% @Ax.slot.eq_1) ∧
   (type_of% @Ax.slot.eq_2) ∧
   (type_of% @Ax.slot.eq_3) ∧
   (type_of% @Ax.setSlot.eq_1) ∧
   (type_of% @Ax.setSlot.eq_2) ∧
   (type_of% @Ax.setSlot.eq_3) ∧
   (type_of% @Ax.Out.and.eq_1) ∧
   (type_of% @Ax.isBool.eq_1) ∧
   (type_of% @Ax.isPtr.eq_1) ∧
   (type_of% @Ax.evs.eq_1) ∧
   (type_of% @Ax.evs.eq_2) ∧
   (type_of% @Ax.evps.eq_1) ∧
   (type_of% @Ax.evps.eq_2) ∧
   (type_of% @Ax.aCall.eq_1) ∧
   (type_of% @Ax.aUser.eq_1) ∧
   (type_of% @Ax.coes.eq_1) ∧
   (type_of% @Ax.coes.eq_2) ∧
   (type_of% @Ax.callOut.eq_1) ∧
   (type_of% @Ax.rootsL.eq_1) ∧
   (type_of% @Ax.rootsL.eq_2) ∧
   (type_of% @Ax.AV.roots.eq_1) ∧
   (type_of% @Ax.AV.roots.eq_2) ∧
   (type_of% @Ax.AV.roots.eq_3) ∧
   (type_of% @Ax.AV.roots.eq_4) ∧
   (type_of% @Ax.lendsL.eq_1) ∧
   (type_of% @Ax.lendsL.eq_2) ∧
   (type_of% @Ax.AV.lends.eq_1) ∧
   (type_of% @Ax.AV.lends.eq_2) ∧
   (type_of% @Ax.AV.lends.eq_3) ∧
   (type_of% @Ax.AV.lends.eq_4) ∧
   (type_of% @Ax.pinsOf.eq_1) ∧
   (type_of% @Ax.pinsOf.eq_2) ∧
   (type_of% @Ax.nodup.eq_1) ∧
   (type_of% @Ax.nodup.eq_2) ∧
   (type_of% @Ax.lendL.eq_1) ∧
   (type_of% @Ax.lendL.eq_2) ∧
   (type_of% @Ax.lend.eq_1) ∧
   (type_of% @Ax.lend.eq_2) ∧
   (type_of% @Ax.lend.eq_3) ∧
   (type_of% @Ax.lend.eq_4) ∧
   (type_of% @Ax.lend.eq_5) ∧
   (type_of% @Ax.lend.eq_6) ∧
   (type_of% @Ax.lend.eq_7) ∧
   (type_of% @Ax.lend.eq_8) ∧
   (type_of% @Ax.lend.eq_9) ∧
   (type_of% @Ax.lend.eq_10) ∧
   (type_of% @Ax.lend.eq_11) ∧
   (type_of% @Ax.lend.eq_12) ∧
   (type_of% @Ax.closedB.eq_1) ∧
   (type_of% @Ax.closedB.eq_2) ∧
   (type_of% @Ax.noimmB.eq_1) ∧
   (type_of% @Ax.noimmB.eq_2) ∧
   (type_of% @Ax.AV.noimm.eq_1) ∧
   (type_of% @Ax.AV.noimm.eq_2) ∧
   (type_of% @Ax.AV.noimm.eq_3) ∧
   (type_of% @Ax.AV.noimm.eq_4) :=
 ⟨@Ax.slot.eq_1,@Ax.slot.eq_2,@Ax.slot.eq_3,@Ax.setSlot.eq_1,@Ax.setSlot.eq_2,@Ax.setSlot.eq_3,@Ax.Out.and.eq_1,@Ax.isBool.eq_1,@Ax.isPtr.eq_1,@Ax.evs.eq_1,@Ax.evs.eq_2,@Ax.evps.eq_1,@Ax.evps.eq_2,@Ax.aCall.eq_1,@Ax.aUser.eq_1,@Ax.coes.eq_1,@Ax.coes.eq_2,@Ax.callOut.eq_1,@Ax.rootsL.eq_1,@Ax.rootsL.eq_2,@Ax.AV.roots.eq_1,@Ax.AV.roots.eq_2,@Ax.AV.roots.eq_3,@Ax.AV.roots.eq_4,@Ax.lendsL.eq_1,@Ax.lendsL.eq_2,@Ax.AV.lends.eq_1,@Ax.AV.lends.eq_2,@Ax.AV.lends.eq_3,@Ax.AV.lends.eq_4,@Ax.pinsOf.eq_1,@Ax.pinsOf.eq_2,@Ax.nodup.eq_1,@Ax.nodup.eq_2,@Ax.lendL.eq_1,@Ax.lendL.eq_2,@Ax.lend.eq_1,@Ax.lend.eq_2,@Ax.lend.eq_3,@Ax.lend.eq_4,@Ax.lend.eq_5,@Ax.lend.eq_6,@Ax.lend.eq_7,@Ax.lend.eq_8,@Ax.lend.eq_9,@Ax.lend.eq_10,@Ax.lend.eq_11,@Ax.lend.eq_12,@Ax.closedB.eq_1,@Ax.closedB.eq_2,@Ax.noimmB.eq_1,@Ax.noimmB.eq_2,@Ax.AV.noimm.eq_1,@Ax.AV.noimm.eq_2,@Ax.AV.noimm.eq_3,@Ax.AV.noimm.eq_4⟩
theorem evD1 : (type_of% @Ax.AV.noimm.eq_5) ∧
   (type_of% @Ax.AV.noimm.eq_6) ∧
   (type_of% @Ax.AV.noimm.eq_7) ∧
   (type_of% @Ax.AV.noimm.eq_8) ∧
   (type_of% @Ax.AV.ren.eq_1) ∧
   (type_of% @Ax.AV.ren.eq_2) ∧
   (type_of% @Ax.AV.ren.eq_3) ∧
   (type_of% @Ax.AV.ren.eq_4) ∧
   (type_of% @Ax.AV.ren.eq_5) ∧
   (type_of% @Ax.AV.ren.eq_6) ∧
   (type_of% @Ax.renL.eq_1) ∧
   (type_of% @Ax.renL.eq_2) ∧
   (type_of% @Ax.back.eq_1) ∧
   (type_of% @Ax.back.eq_2) ∧
   (type_of% @Ax.aLoad.eq_1) ∧
   (type_of% @Ax.subv.eq_1) ∧
   (type_of% @Ax.guardSlot.eq_1) ∧
   (type_of% @Ax.byte.eq_1) ∧
   (type_of% @Ax.word.eq_1) ∧
   (type_of% @Ax.EndsX.eq_1) ∧
   (type_of% @Ax.rvals.eq_1) ∧
   (type_of% @Ax.rvals.eq_2) ∧
   (type_of% @Ax.rvals.eq_3) ∧
   (type_of% @Ax.AV.ids.eq_1) ∧
   (type_of% @Ax.AV.ids.eq_2) ∧
   (type_of% @Ax.AV.ids.eq_3) ∧
   (type_of% @Ax.AV.ids.eq_4) ∧
   (type_of% @Ax.AV.ids.eq_5) ∧
   (type_of% @Ax.AV.ids.eq_6) ∧
   (type_of% @Ax.idsL.eq_1) ∧
   (type_of% @Ax.idsL.eq_2) ∧
   (type_of% @Ax.newIds.eq_1) ∧
   (type_of% @Ax.newIds.eq_2) ∧
   (type_of% @Ax.upTo.eq_1) ∧
   (type_of% @Ax.upTo.eq_2) ∧
   (type_of% @Ax.pinHeap.eq_1) ∧
   (type_of% @Ax.pinHeap.eq_2) ∧
   (type_of% @Ax.gOf.eq_1) ∧
   (type_of% @Ax.gOf.eq_2) ∧
   (type_of% @Ax.gOf.eq_3) ∧
   (type_of% @Ax.aBuildSlice.eq_1) ∧
   (type_of% @Ax.fillB.eq_1) ∧
   (type_of% @Ax.fillB.eq_2) ∧
   (type_of% @Ax.fillB.eq_3) ∧
   (type_of% @Ax.look.eq_1) ∧
   (type_of% @Ax.look.eq_2) ∧
   (type_of% @Ax.put.eq_1) ∧
   (type_of% @Ax.drop.eq_1) ∧
   (type_of% @Ax.drop.eq_2) ∧
   (type_of% @Ax.asv.eq_1) ∧
   (type_of% @Ax.aMake.eq_1) ∧
   (type_of% @Ax.fillG.eq_1) ∧
   (type_of% @Ax.fillG.eq_2) ∧
   (type_of% @Ax.fillI.eq_1) ∧
   (type_of% @Ax.fillI.eq_2) ∧
   (type_of% @Ax.fillI.eq_3) :=
 ⟨@Ax.AV.noimm.eq_5,@Ax.AV.noimm.eq_6,@Ax.AV.noimm.eq_7,@Ax.AV.noimm.eq_8,@Ax.AV.ren.eq_1,@Ax.AV.ren.eq_2,@Ax.AV.ren.eq_3,@Ax.AV.ren.eq_4,@Ax.AV.ren.eq_5,@Ax.AV.ren.eq_6,@Ax.renL.eq_1,@Ax.renL.eq_2,@Ax.back.eq_1,@Ax.back.eq_2,@Ax.aLoad.eq_1,@Ax.subv.eq_1,@Ax.guardSlot.eq_1,@Ax.byte.eq_1,@Ax.word.eq_1,@Ax.EndsX.eq_1,@Ax.rvals.eq_1,@Ax.rvals.eq_2,@Ax.rvals.eq_3,@Ax.AV.ids.eq_1,@Ax.AV.ids.eq_2,@Ax.AV.ids.eq_3,@Ax.AV.ids.eq_4,@Ax.AV.ids.eq_5,@Ax.AV.ids.eq_6,@Ax.idsL.eq_1,@Ax.idsL.eq_2,@Ax.newIds.eq_1,@Ax.newIds.eq_2,@Ax.upTo.eq_1,@Ax.upTo.eq_2,@Ax.pinHeap.eq_1,@Ax.pinHeap.eq_2,@Ax.gOf.eq_1,@Ax.gOf.eq_2,@Ax.gOf.eq_3,@Ax.aBuildSlice.eq_1,@Ax.fillB.eq_1,@Ax.fillB.eq_2,@Ax.fillB.eq_3,@Ax.look.eq_1,@Ax.look.eq_2,@Ax.put.eq_1,@Ax.drop.eq_1,@Ax.drop.eq_2,@Ax.asv.eq_1,@Ax.aMake.eq_1,@Ax.fillG.eq_1,@Ax.fillG.eq_2,@Ax.fillI.eq_1,@Ax.fillI.eq_2,@Ax.fillI.eq_3⟩
theorem evD2 : (type_of% @Ax.bnds.eq_1) ∧
   (type_of% @Ax.cut.eq_1) ∧
   (type_of% @Ax.aFieldAddr.eq_1) ∧
   (type_of% @Ax.aField.eq_1) ∧
   (type_of% @Ax.aBox.eq_1) ∧
   (type_of% @Ax.aBuild.eq_1) ∧
   (type_of% @Ax.fillS.eq_1) ∧
   (type_of% @Ax.fillS.eq_2) ∧
   (type_of% @Ax.allTy.eq_1) ∧
   (type_of% @Ax.allTy.eq_2) ∧
   (type_of% @Ax.splice.eq_1) ∧
   (type_of% @Ax.isBytes.eq_1) ∧
   (type_of% @Ax.aAlloc.eq_1) ∧
   (type_of% @Ax.closedL.eq_1) ∧
   (type_of% @Ax.closedL.eq_2) ∧
   (type_of% @Ax.AV.closed.eq_1) ∧
   (type_of% @Ax.AV.closed.eq_2) ∧
   (type_of% @Ax.AV.closed.eq_3) ∧
   (type_of% @Ax.AV.closed.eq_4) ∧
   (type_of% @Ax.AV.closed.eq_5) ∧
   (type_of% @Ax.AV.closed.eq_6) ∧
   (type_of% @Ax.idx.eq_1) ∧
   (type_of% @Ax.idx.eq_2) ∧
   (type_of% @Ax.AV.lentIds.eq_1) ∧
   (type_of% @Ax.AV.lentIds.eq_2) ∧
   (type_of% @Ax.AV.lentIds.eq_3) ∧
   (type_of% @Ax.AV.lentIds.eq_4) ∧
   (type_of% @Ax.lentIdsL.eq_1) ∧
   (type_of% @Ax.lentIdsL.eq_2) ∧
   (type_of% @Ax.dropAll.eq_1) ∧
   (type_of% @Ax.dropAll.eq_2) ∧
   (type_of% @Ax.AV.clean.eq_1) ∧
   (type_of% @Ax.AV.clean.eq_2) ∧
   (type_of% @Ax.AV.clean.eq_3) ∧
   (type_of% @Ax.AV.clean.eq_4) ∧
   (type_of% @Ax.AV.clean.eq_5) ∧
   (type_of% @Ax.AV.clean.eq_6) ∧
   (type_of% @Ax.AV.clean.eq_7) ∧
   (type_of% @Ax.AV.clean.eq_8) ∧
   (type_of% @Ax.cleanL.eq_1) ∧
   (type_of% @Ax.cleanL.eq_2) ∧
   (type_of% @Ax.cleanB.eq_1) ∧
   (type_of% @Ax.cleanB.eq_2) ∧
   (type_of% @Ax.quietC.eq_1) ∧
   (type_of% @Ax.flatTy.eq_1) ∧
   (type_of% @Ax.coldStr.eq_1) ∧
   (type_of% @Ax.eqV.eq_1) ∧
   (type_of% @Ax.eqV.eq_2) ∧
   (type_of% @Ax.eqV.eq_3) ∧
   (type_of% @Ax.eqV.eq_4) ∧
   (type_of% @Ax.eqV.eq_5) ∧
   (type_of% @Ax.eqF.eq_1) ∧
   (type_of% @Ax.eqF.eq_2) ∧
   (type_of% @Ax.isStruct.eq_1) :=
 ⟨@Ax.bnds.eq_1,@Ax.cut.eq_1,@Ax.aFieldAddr.eq_1,@Ax.aField.eq_1,@Ax.aBox.eq_1,@Ax.aBuild.eq_1,@Ax.fillS.eq_1,@Ax.fillS.eq_2,@Ax.allTy.eq_1,@Ax.allTy.eq_2,@Ax.splice.eq_1,@Ax.isBytes.eq_1,@Ax.aAlloc.eq_1,@Ax.closedL.eq_1,@Ax.closedL.eq_2,@Ax.AV.closed.eq_1,@Ax.AV.closed.eq_2,@Ax.AV.closed.eq_3,@Ax.AV.closed.eq_4,@Ax.AV.closed.eq_5,@Ax.AV.closed.eq_6,@Ax.idx.eq_1,@Ax.idx.eq_2,@Ax.AV.lentIds.eq_1,@Ax.AV.lentIds.eq_2,@Ax.AV.lentIds.eq_3,@Ax.AV.lentIds.eq_4,@Ax.lentIdsL.eq_1,@Ax.lentIdsL.eq_2,@Ax.dropAll.eq_1,@Ax.dropAll.eq_2,@Ax.AV.clean.eq_1,@Ax.AV.clean.eq_2,@Ax.AV.clean.eq_3,@Ax.AV.clean.eq_4,@Ax.AV.clean.eq_5,@Ax.AV.clean.eq_6,@Ax.AV.clean.eq_7,@Ax.AV.clean.eq_8,@Ax.cleanL.eq_1,@Ax.cleanL.eq_2,@Ax.cleanB.eq_1,@Ax.cleanB.eq_2,@Ax.quietC.eq_1,@Ax.flatTy.eq_1,@Ax.coldStr.eq_1,@Ax.eqV.eq_1,@Ax.eqV.eq_2,@Ax.eqV.eq_3,@Ax.eqV.eq_4,@Ax.eqV.eq_5,@Ax.eqF.eq_1,@Ax.eqF.eq_2,@Ax.isStruct.eq_1⟩
end Go.Proofs.Ytmedjkjoannbmaa
namespace Go.Proofs.Ytmedjkjoannbmaa
namespace Ax
open Go.RowKit Go.ChangeShapes Go.WideShapes
def RC (w : World) : List AV → List Value → Prop
 | [],[] => True
 | x :: xs,v :: vs => (x.leaf = true ∧ x.closed = true ∧ R w loc0 x v) ∧ RC w xs vs
 | _,_ => False
theorem RC.len {w : World} : ∀ {xs : List AV} {vs : List Value},RC w xs vs → xs.length = vs.length
 | [],[],_ => rfl
 | x :: xs,v :: vs,h => by simp [RC.len h.2]
 | [],_ :: _,h => h.elim
 | _ :: _,[],h => h.elim
theorem RC.get {w : World} : ∀ {xs : List AV} {vs : List Value},RC w xs vs → ∀ (j : Nat) (h : j < xs.length) (h' : j < vs.length),xs[j].leaf = true ∧ xs[j].closed = true ∧ R w loc0 xs[j] vs[j]
 | x :: xs,v :: vs,h,j,a,b => by
   cases j with
   | zero => exact h.1
   | succ j => exact RC.get h.2 j (by simpa using a) (by simpa using b)
 | [],[],_,j,a,_ => by simp at a
 | [],_ :: _,h,_,_,_ => h.elim
 | _ :: _,[],h,_,_,_ => h.elim
theorem RC.append {w : World} : ∀ {xs ys : List AV} {vs us : List Value},RC w xs vs → RC w ys us → RC w (xs ++ ys) (vs ++ us)
 | [],ys,[],us,_,h => h
 | x :: xs,ys,v :: vs,us,h,k => ⟨h.1,RC.append h.2 k⟩
 | [],_,_ :: _,_,h,_ => h.elim
 | _ :: _,_,[],_,h,_ => h.elim
def isFlatI : TD → Nat
 | .int .u8 => 1
 | .int .i64 => 2
 | _ => 0
def ShapeF (S : TypeId → List AV → Prop) : List (Nat × TypeId) → List AV → Prop
 | [],ls => ls = []
 | p :: r,ls => ∃ l1 l2,ls = l1 ++ l2 ∧ S p.2 l1 ∧ ShapeF S r l2
def Shape (T : zag) : Nat → TypeId → List AV → Prop
 | 0,_,_ => False
 | n + 1,t,ls => match T t with
   | none => False
   | some i => match i.d with
     | .int k => ∃ m,ls = [.w (.int k m)] ∧ (Lit.int k m).wf = true
     | .bool => ∃ b,ls = [.w (.bool b)]
     | .str => ∃ bs,ls = [.str bs] ∧ bs.length ≤ maxLen
     | .slice e => match T e with
       | none => False
       | some te => match isFlatI te.d with
         | 1 => ∃ bs f,ls = [.sb bs f] ∧ bs.length ≤ maxLen
         | 2 => ∃ ns f,ls = [.si ns f] ∧ ns.length ≤ maxLen ∧ ∀ n ∈ ns,-9223372036854775808 ≤ n ∧ n ≤ 9223372036854775807
         | _ => ∃ xs f,ls = [.sg te.size xs f] ∧ xs.length ≤ maxLen ∧ ∀ x ∈ xs,∃ l,Shape T n e l ∧ l.length = te.size ∧ x = asv te l
     | .struct fs => ShapeF (Shape T n) fs ls
     | .arr m e => ShapeF (Shape T n) (List.replicate m (0,e)) ls
     | _ => False
def tiles (T : zag) : List (Nat × TypeId) → Nat → Nat → Bool
 | [],o,s => o == s
 | p :: r,o,s => match T p.2 with
   | some i => p.1 == o && tiles T r (o + i.size) s
   | none => false
def okT (T : zag) : Nat → TypeId → Bool
 | 0,_ => false
 | n + 1,t => match T t with
   | none => false
   | some i => match i.d with
     | .int _ => true
     | .bool => true
     | .str => true
     | .slice e => match T e with
       | none => false
       | some te => !(isFlatI te.d == 0) || (okT T n e && decide (0 < te.size))
     | .struct fs => tiles T fs 0 i.size && fs.all fun p => okT T n p.2
     | .arr m e => match T e with
       | some te => m * te.size == i.size && okT T n e
       | none => false
     | _ => false
theorem cellsOf_ty {P : Program} {T : zag} (hT : TOk P T) {t : TypeId} {i : TyI} (h : T t = some i) : P.cellsOf t = i.size := by
 obtain ⟨inf,z,h1,h2,_⟩ := (hT t i h).info
 simp [Program.cellsOf,h1,h2]
section
variable {H : Type} {enc : TypeId × Value → H} {P : Program} {w : World} {base : Nat} {spare : Nat → Bool} {held : Bool}
theorem fields_R {T : zag} (hT : TOk P T) {S : TypeId → List AV → Prop} {ok : TypeId → Bool} {m : Nat} (ih : ∀ t cs x,DataW.trod enc P w base spare held m t cs = some x → ok t = true → ∃ ls,RC w ls cs ∧ S t ls) :
   ∀ (fs : List (Nat × TypeId)) (o s : Nat) (cs : List Value),tiles T fs o s = true → (fs.all fun p => ok p.2) = true → cs.length = s → (∀ p ∈ fs,∃ x,DataW.trod enc P w base spare held m p.2 ((cs.drop p.1).take (P.cellsOf p.2)) = some x) → ∃ ls,RC w ls (cs.drop o) ∧ ShapeF S fs ls
 | [],o,s,cs,ht,_,hl,_ => by
   simp only [tiles,beq_iff_eq] at ht
   subst ht
   rw [← hl,List.drop_length]
   exact ⟨[],trivial,rfl⟩
 | p :: r,o,s,cs,ht,hk,hl,h => by
   simp only [tiles] at ht
   simp only [List.all_cons,Bool.and_eq_true] at hk
   cases hp : T p.2 with
   | none => simp [hp] at ht
   | some i =>
     simp only [hp,Bool.and_eq_true,beq_iff_eq] at ht
     obtain ⟨rfl,ht⟩ := ht
     obtain ⟨x,hx⟩ := h p (by simp)
     obtain ⟨l1,h1,h2⟩ := ih _ _ _ hx hk.1
     obtain ⟨l2,h3,h4⟩ := fields_R hT ih r _ s cs ht hk.2 hl (fun q hq => h q (by simp [hq]))
     rw [cellsOf_ty hT hp] at h1
     refine ⟨l1 ++ l2,?_,l1,l2,rfl,h2,h4⟩
     have := RC.append h1 h3
     rwa [← List.drop_drop,List.take_append_drop] at this
theorem arr_R {T : zag} (hT : TOk P T) {S : TypeId → List AV → Prop} {ok : TypeId → Bool} {m : Nat} {e : TypeId} {te : TyI} (he : T e = some te) (hok : ok e = true) (ih : ∀ t cs x,DataW.trod enc P w base spare held m t cs = some x → ok t = true → ∃ ls,RC w ls cs ∧ S t ls) :
   ∀ (k : Nat) (cs : List Value),cs.length = k * te.size → (∀ i,i < k → ∃ x,DataW.trod enc P w base spare held m e ((cs.drop (i * te.size)).take te.size) = some x) → ∃ ls,RC w ls cs ∧ ShapeF S (List.replicate k (0,e)) ls
 | 0,cs,hl,_ => by
   have : cs = [] := List.eq_nil_of_length_eq_zero (by simpa using hl)
   subst this
   exact ⟨[],trivial,rfl⟩
 | k + 1,cs,hl,h => by
   obtain ⟨x,hx⟩ := h 0 (by omega)
   rw [Nat.zero_mul,List.drop_zero] at hx
   obtain ⟨l1,h1,h2⟩ := ih _ _ _ hx hok
   have hmul : (k + 1) * te.size = k * te.size + te.size := Nat.succ_mul _ _
   obtain ⟨l2,h3,h4⟩ := arr_R hT he hok ih k (cs.drop te.size) (by rw [List.length_drop]; omega) (fun i hi => by
     obtain ⟨y,hy⟩ := h (i + 1) (by omega)
     refine ⟨y,?_⟩
     rw [List.drop_drop,show te.size + i * te.size = (i + 1) * te.size by rw [Nat.succ_mul]; omega]
     exact hy)
   refine ⟨l1 ++ l2,?_,l1,l2,rfl,h2,h4⟩
   have := RC.append h1 h3
   rwa [List.take_append_drop] at this
theorem rows_R {S : List AV → Prop} {te : TyI} (hs : ∀ l,S l → te.d.aggr = false → te.size = 1) {a : Addr} :
   ∀ (n : Nat) (off : Nat),(∀ i,i < n → ∃ (ls : List AV) (cs : List Value),RC w ls cs ∧ S ls ∧ cs.length = te.size ∧ ∀ k,k < te.size → w.cell? (a.add ((off + i) * te.size + k)) = cs[k]?) →
     ∃ (xs : List AV) (cs : List Value),xs.length = n ∧ cs.length = n * te.size ∧ (∀ x ∈ xs,∃ l,S l ∧ l.length = te.size ∧ x = asv te l ∧ x.leaves = l) ∧ RC w (xs.flatMap AV.leaves) cs ∧ ∀ k,k < n * te.size → w.cell? (a.add (off * te.size + k)) = cs[k]?
 | 0,off,_ => ⟨[],[],rfl,by simp,by simp,trivial,fun k h => by simp at h⟩
 | n + 1,off,h => by
   obtain ⟨ls,c1,h1,h2,h3,h4⟩ := h 0 (by omega)
   obtain ⟨xs,c2,k1,k2,k3,k4,k5⟩ := rows_R hs n (off + 1) (fun i hi => by
     obtain ⟨l,c,a1,a2,a3,a4⟩ := h (i + 1) (by omega)
     refine ⟨l,c,a1,a2,a3,fun k hk => ?_⟩
     rw [show off + 1 + i = off + (i + 1) by omega]; exact a4 k hk)
   have hlen : ls.length = te.size := by rw [RC.len h1,h3]
   have hx : (asv te ls).leaves = ls := by
     unfold asv
     cases ha : te.d.aggr with
     | true => rfl
     | false =>
       have h1s := hs ls h2 ha
       have hl1 : ls.length = 1 := by omega
       obtain ⟨y,rfl⟩ := List.length_eq_one_iff.1 hl1
       have := (RC.get h1 0 (by simp) (by omega)).1
       simp only [List.getElem_cons_zero] at this
       simp only [cond_false,slot]
       cases y <;> first | rfl | simp [AV.leaf] at this
   refine ⟨asv te ls :: xs,c1 ++ c2,by simp [k1],by rw [List.length_append,h3,k2,Nat.succ_mul]; omega,?_,?_,?_⟩
   · intro x hxm
     rcases List.mem_cons.1 hxm with rfl | hxm
     · exact ⟨ls,h2,hlen,rfl,hx⟩
     · exact k3 x hxm
   · rw [List.flatMap_cons,hx]; exact RC.append h1 k4
   · intro k hk
     by_cases hk1 : k < te.size
     · rw [List.getElem?_append_left (by omega)]
       have := h4 k hk1
       rw [Nat.add_zero] at this
       exact this
     · rw [List.getElem?_append_right (by omega),h3]
       have := k5 (k - te.size) (by rw [Nat.succ_mul] at hk; omega)
       rw [← this,Nat.succ_mul]
       congr 2
       omega
theorem add_add (a : Addr) (h : a.spot = none) (m n : Nat) : (a.add m).add n = a.add (m + n) := by
 obtain ⟨b,o,s⟩ := a
 simp only at h
 subst h
 unfold Addr.add
 by_cases hm : m = 0
 · subst hm; simp
 · by_cases hn : n = 0
   · subst hn; simp
   · rw [if_neg hm,if_neg hn,if_neg (by omega)]
     simp; omega
theorem size_one {T : zag} (hT : TOk P T) {t : TypeId} {i : TyI} (h : T t = some i) (ha : i.d.aggr = false) : i.size = 1 := by
 obtain ⟨inf,z,_,_,_,_,_,_,_,h8⟩ := (hT t i h).info
 exact (h8 ha).2.2
theorem cells_at {a : Addr} {cs : List Value} (hne : cs ≠ []) (h : ∀ k,k < cs.length → w.cell? (a.add k) = cs[k]?) : Cells w loc0 (some a) cs ∧ a.spot = none := by
 have hl : 0 < cs.length := List.length_pos_iff.2 hne
 have h1 := h 0 hl
 rw [show a.add 0 = a from rfl,List.getElem?_eq_getElem hl] at h1
 have hx : a.spot = none ∧ a.block < w.heap.size := by
   unfold World.cell? at h1
   split at h1
   · rename_i c e fz hh
     split at h1
     · cases h1
     · rename_i hs
       refine ⟨by simpa using hs,?_⟩
       rcases Nat.lt_or_ge a.block w.heap.size with h' | h'
       · exact h'
       · rw [Array.getElem?_eq_none h'] at hh; cases hh
   · cases h1
 obtain ⟨b,o,sp⟩ := a
 obtain ⟨rfl,hb⟩ := hx
 refine ⟨⟨.inr ⟨b,o,rfl,not_mut0 b,hb,fun j hj => ?_⟩⟩,rfl⟩
 have h2 := h j hj
 rw [List.getElem?_eq_getElem hj] at h2
 rw [← h2]
 cases j <;> rfl
theorem read_R {T : zag} (hT : TOk P T) : ∀ (n fuel : Nat) (t : TypeId) (cs : List Value) (x : DataW H × List MemPlace),DataW.trod enc P w base (fun _ => true) held fuel t cs = some x → okT T n t = true → ∃ ls,RC w ls cs ∧ Shape T n t ls
 | 0,_,_,_,_,_,h => by simp [okT] at h
 | n + 1,fuel,t,cs,x,h,hok => by
   unfold okT at hok
   unfold Shape
   cases ht : T t with
   | none => simp [ht] at hok
   | some i =>
     simp only [ht] at hok ⊢
     have hd := (hT t i ht).d
     have hsz := cellsOf_ty hT ht
     cases hi : i.d with
     | int k =>
       rw [hi] at hd
       obtain ⟨m,rfl,_,hw⟩ := DataW.trod_int hd h
       exact ⟨[.w (.int k m)],⟨⟨rfl,rfl,.w _ rfl⟩,trivial⟩,m,rfl,hw⟩
     | bool =>
       rw [hi] at hd
       obtain ⟨b,rfl,_⟩ := DataW.trod_bool hd h
       exact ⟨[.w (.bool b)],⟨⟨rfl,rfl,.w _ rfl⟩,trivial⟩,b,rfl⟩
     | str =>
       rw [hi] at hd
       obtain ⟨s,rfl,_,hm⟩ := DataW.trod_string hd h
       exact ⟨[.str s.data.toList],⟨⟨rfl,rfl,str_R w s⟩,trivial⟩,s.data.toList,rfl,by simpa using hm⟩
     | slice e =>
       rw [hi] at hd
       simp only [hi] at hok ⊢
       cases he : T e with
       | none => simp [he] at hok
       | some te =>
         simp only [he] at hok ⊢
         have hde := (hT e te he).d
         have hse := cellsOf_ty hT he
         have row : ∀ k,P.underlying e = some (.int k) → P.cellsOf e = 1 → ∃ a len cap zs,cs = [.slice a len cap] ∧ IsRow k w a len cap zs := by
           intro k hk h1
           rcases open_ints hd hk h1 h with ⟨hcs,_⟩ | ⟨y,l,c,zs,hcs,_,hl,hm,hz,_,hcell,hwz⟩
           · exact ⟨none,0,0,[],hcs,.inl ⟨rfl,rfl,rfl,rfl⟩⟩
           · exact ⟨some y,l,c,zs,hcs,.inr ⟨y,rfl,hl,hm,by simpa using hz,hcell,hwz⟩⟩
         have hfi : (isFlatI te.d = 1 ∧ te.d = .int .u8) ∨ (isFlatI te.d = 2 ∧ te.d = .int .i64) ∨ isFlatI te.d = 0 := by
           unfold isFlatI
           split
           · rename_i e; exact .inl ⟨rfl,e⟩
           · rename_i e; exact .inr (.inl ⟨rfl,e⟩)
           · exact .inr (.inr rfl)
         rcases hfi with ⟨hf,hte⟩ | ⟨hf,hte⟩ | hf
         · rw [hf]
           rw [hte] at hde
           obtain ⟨a,len,cap,zs,rfl,hr⟩ := row .u8 hde (by rw [hse]; exact size_one hT he (by rw [hte]; rfl))
           obtain ⟨bs,h1,h2,h3⟩ := row_sb hr
           exact ⟨[.sb bs false],⟨⟨rfl,rfl,h3⟩,trivial⟩,bs,false,rfl,by omega⟩
         · rw [hf]
           rw [hte] at hde
           obtain ⟨a,len,cap,zs,rfl,hr⟩ := row .i64 hde (by rw [hse]; exact size_one hT he (by rw [hte]; rfl))
           obtain ⟨ns,h1,h2,h4,h3⟩ := row_si hr
           exact ⟨[.si ns false],⟨⟨rfl,rfl,h3⟩,trivial⟩,ns,false,rfl,by omega,h4⟩
         · rw [hf]
           rw [hf] at hok
           simp only [beq_self_eq_true,Bool.not_true,Bool.false_or,Bool.and_eq_true,decide_eq_true_eq] at hok
           obtain ⟨hok,hpos⟩ := hok
           rcases DataW.trod_slice hd h with ⟨rfl,_⟩ | ⟨a,len,cap,elems,rest,m,_,rfl,_,hb,hl,hm,hlen,hel,_,_⟩
           · exact ⟨[.sg te.size [] false],⟨⟨rfl,rfl,.sg te.size [] false none 0 [] ⟨Nat.le_refl _,Nat.zero_le _,fun h => by cases h⟩ (by simp) ⟨.inl rfl⟩ rfl (by simp) (by simp)⟩,trivial⟩,[],false,rfl,Nat.zero_le _,by simp⟩
           · rw [hse] at hel
             have hall : ∀ i,i < len → ∃ (ls : List AV) (c : List Value),RC w ls c ∧ Shape T n e ls ∧ c.length = te.size ∧ ∀ k,k < te.size → w.cell? ((a.add (i * te.size)).add k) = c[k]? := by
               intro i hi
               have h1 := hel i hi
               rw [List.getElem?_eq_getElem (by omega),Option.bind_eq_some_iff] at h1
               obtain ⟨c,h2,h3⟩ := h1
               obtain ⟨_,h4,h5⟩ := World.cells?_some h2
               obtain ⟨ls,h6,h7⟩ := read_R hT n m e c _ h3 hok
               exact ⟨ls,c,h6,h7,h4,h5⟩
             by_cases h0 : len = 0
             · subst h0
               exact ⟨[.sg te.size [] false],⟨⟨rfl,rfl,.sg te.size [] false (some a) cap [] ⟨Nat.zero_le _,hm,fun h => by cases h⟩ (by simp) ⟨.inl rfl⟩ rfl (by simp) (by simp)⟩,trivial⟩,[],false,rfl,Nat.zero_le _,by simp⟩
             · have hspot : a.spot = none := by
                 obtain ⟨ls,c,_,_,h3,h4⟩ := hall 0 (by omega)
                 rw [Nat.zero_mul,show a.add 0 = a from rfl] at h4
                 exact (cells_at (w := w) (a := a) (cs := c) (by intro e; rw [e] at h3; simp at h3; omega) (fun k hk => h4 k (by omega))).2
               obtain ⟨xs,c,k1,k2,k3,k4,k5⟩ := rows_R (w := w) (S := Shape T n e) (te := te) (fun _ _ ha => size_one hT he ha) (a := a) len 0 (fun i hi => by
                 obtain ⟨ls,c,h1,h2,h3,h4⟩ := hall i hi
                 refine ⟨ls,c,h1,h2,h3,fun k hk => ?_⟩
                 rw [Nat.zero_add,← add_add a hspot]; exact h4 k hk)
               have hcne : c ≠ [] := by
                 intro e; rw [e] at k2
                 simp only [List.length_nil] at k2
                 have := Nat.mul_pos (Nat.pos_of_ne_zero h0) hpos
                 omega
               have hc := (cells_at (w := w) (a := a) (cs := c) hcne (fun k hk => by
                 have := k5 k (by omega)
                 rwa [Nat.zero_mul,Nat.zero_add] at this)).1
               have hR := R.sg (w := w) (loc := loc0) te.size xs false (some a) cap c ⟨by omega,hm,fun h => by cases h⟩ (fun x hx => by obtain ⟨l,_,h2,h3,h4⟩ := k3 x hx; rw [h4]; exact h2) hc (RC.len k4)
                 (fun j hj => ⟨(RC.get k4 j hj (by rw [← RC.len k4]; exact hj)).1,(RC.get k4 j hj (by rw [← RC.len k4]; exact hj)).2.1⟩) (fun j a b => (RC.get k4 j a b).2.2)
               rw [k1] at hR
               exact ⟨[.sg te.size xs false],⟨⟨rfl,rfl,hR⟩,trivial⟩,xs,false,rfl,by omega,fun x hx => by obtain ⟨l,h1,h2,h3,_⟩ := k3 x hx; exact ⟨l,h1,h2,h3⟩⟩
     | struct fs =>
       rw [hi] at hd
       simp only [hi,Bool.and_eq_true] at hok ⊢
       obtain ⟨gs,hu,rfl⟩ := hd
       obtain ⟨xs,m,_,_,hl,hxl,hf⟩ := DataW.trod_struct hu h
       have := fields_R (w := w) (base := base) (spare := fun _ => true) (held := held) (enc := enc) hT (S := Shape T n) (ok := okT T n) (m := m) (fun t cs x h1 h2 => read_R hT n m t cs x h1 h2) _ 0 i.size cs hok.1 hok.2 (by rw [hl,hsz]) (fun p hp => by
         obtain ⟨g,hg,rfl⟩ := List.mem_map.1 hp
         obtain ⟨j,hj,hgj⟩ := List.getElem_of_mem hg
         have hj2 : gs[j]? = some g := by rw [← hgj]; simp at hj ⊢
         have h3 := hf j g hj2
         have hjx : j < xs.length := by rw [hxl]; simpa using hj
         exact ⟨xs[j],by rw [h3,List.getElem?_eq_getElem hjx]⟩)
       rwa [List.drop_zero] at this
     | arr k e =>
       rw [hi] at hd
       simp only [hi] at hok ⊢
       cases he : T e with
       | none => simp [he] at hok
       | some te =>
         simp only [he,Bool.and_eq_true,beq_iff_eq] at hok
         obtain ⟨xs,m,_,_,hl,hxl,hf⟩ := DataW.trod_array hd h
         rw [cellsOf_ty hT he] at hf
         exact arr_R (w := w) (base := base) (spare := fun _ => true) (held := held) (enc := enc) hT (S := Shape T n) (ok := okT T n) (m := m) he hok.2 (fun t cs x h1 h2 => read_R hT n m t cs x h1 h2) k cs (by rw [hl,hsz]; exact hok.1.symm) (fun j hj => ⟨xs[j]'(by omega),by rw [hf j hj,List.getElem?_eq_getElem (by omega)]⟩)
     | ptr => simp [hi] at hok
     | func => simp [hi] at hok
     | other => simp [hi] at hok
def Arg (T : zag) (n : Nat) (t : TypeId) (x : AV) : Prop := ∃ i ls,T t = some i ∧ Shape T n t ls ∧ x = asv i ls
theorem arg_R {T : zag} (hT : TOk P T) {n : Nat} {t : TypeId} {v : Value} {d : DataW H} {ps : List MemPlace} {r : Reach} {b0 : Nat} (hval : Value.okWide P w r b0 t v) (h : DataW.Trod enc P w base (fun _ => true) held t v d ps) (hok : okT T n t = true) :
   ∃ x,Arg T n t x ∧ R w loc0 x v := by
 obtain ⟨fuel,hf⟩ := h
 obtain ⟨ls,h1,h2⟩ := read_R hT n fuel t _ _ hf hok
 cases ht : T t with
 | none => cases n <;> simp [okT,ht] at hok
 | some i =>
   have hd := (hT t i ht).d
   refine ⟨asv i ls,⟨i,ls,ht,h2,rfl⟩,?_⟩
   cases ha : i.d.aggr with
   | true =>
     have hv : ∃ c,v = .agg c := by
       unfold Value.okWide at hval
       cases hi : i.d with
       | struct fs =>
         rw [hi] at hd
         obtain ⟨gs,hu,_⟩ := hd
         rw [hu] at hval
         obtain ⟨c,hc,_⟩ := hval
         exact ⟨c,hc⟩
       | arr k e =>
         rw [hi] at hd
         have hu : P.underlying t = some (.array k e) := hd
         rw [hu] at hval
         obtain ⟨c,hc,_⟩ := hval
         exact ⟨c,hc⟩
       | _ => rw [hi] at ha; cases ha
     obtain ⟨c,rfl⟩ := hv
     simp only [asv,ha,cond_true]
     have hl := RC.len h1
     have := R.agg (w := w) (loc := loc0) ls c.toList hl (fun j hj => (RC.get h1 j hj (by rw [← hl]; exact hj)).1) (fun j a b => (RC.get h1 j a b).2.2)
     rwa [Array.toArray_toList] at this
   | false =>
     simp only [asv,ha,cond_false]
     have key : ∃ u,v.cells = #[u] ∧ u = v := by
       cases v with
       | agg c =>
         exfalso
         unfold Value.okWide Cell.okWide Cell.ok at hval
         cases hi : i.d with
         | struct fs => rw [hi] at ha; cases ha
         | arr k e => rw [hi] at ha; cases ha
         | int k => rw [hi] at hd; have hu : P.underlying t = some (.int k) := hd; simp [hu] at hval
         | bool => rw [hi] at hd; have hu : P.underlying t = some .bool := hd; simp [hu] at hval
         | str => rw [hi] at hd; have hu : P.underlying t = some .string := hd; simp [hu] at hval
         | slice e => rw [hi] at hd; have hu : P.underlying t = some (.slice e) := hd; simp [hu] at hval
         | _ => cases n <;> simp [okT,ht,hi] at hok
       | _ => exact ⟨_,rfl,rfl⟩
     obtain ⟨u,hu,rfl⟩ := key
     rw [hu] at h1
     match ls,h1 with
     | [y],h1 => exact h1.1.2.2
end
end Ax
end Go.Proofs.Ytmedjkjoannbmaa
