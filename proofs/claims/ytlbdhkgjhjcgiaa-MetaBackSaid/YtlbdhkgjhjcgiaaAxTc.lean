/- A region whose order is drawn, told block by block: the proof. -/
import Derived.Test.YtlbdhkgjhjcgiaaAxTb
import Derived.Test.YtlbdhkgjhjcgiaaAxX
namespace Go.Proofs.Ytlbdhkgjhjcgiaa
namespace Ax
set_option linter.unusedSimpArgs false
set_option linter.unusedVariables false

section
variable {P : Program} {S : FSpecs} {T : Types} {l : List Oper} {nm : Nat} {s0 : List AV × Heap} {w0 : World} {E : Nat → Prop} {B : Bs}

theorem all_listedF (hg : GoodF S T l nm s0) {listed : Array Bool} (hsz : listed.size = l.length) (hr : Region.ready .any l.toArray listed = []) : ∀ n j, j < n → j < l.length → Ls listed j := by
  intro n
  induction n with
  | zero => intro j h; omega
  | succ n ih =>
    intro j hj hjl
    by_cases hl : Ls listed j
    · exact hl
    · exfalso
      have : j ∈ Region.ready .any l.toArray listed := by
        refine mem_ready.2 ⟨getD_in (by rw [hsz]; exact hjl) (by unfold Ls at hl; simpa using hl), l[j], by simp [hjl], fun e he hb => ?_⟩
        have hlt := hg.back j l[j] (List.getElem?_eq_getElem hjl) e (by simpa using he) hb
        exact ih e.on (by omega) (by omega)
      rw [hr] at this
      simp at this

theorem inv_wpAnyF (hT : TOk P T) (hS : Fns P S) (hg : GoodF S T l nm s0) (hst : ∀ j o, l[j]? = some o → (stepF S T l (nm + 8 * j) o (traceF S T l nm s0 j)).1) (h0 : ∀ id b, look s0.2 id = some b → id < nm) {K : Exit → Act → World → Prop}
    (hK : ∀ listed a w loc, InvF S T l nm s0 w0 E B listed a w loc → (∀ j, j < l.length → Ls listed j) → K .normal a w) :
    ∀ (fuel : Nat) (listed : Array Bool) (a : Act) (w : World) (loc : Loc), InvF S T l nm s0 w0 E B listed a w loc → listed.toList.count false ≤ fuel → wpAny P .any l.toArray K fuel listed a w := by
  intro fuel
  induction fuel with
  | zero =>
    intro listed a w loc inv hc
    have hall : ∀ j, j < l.length → Ls listed j := by
      intro j hj
      have hj' : j < listed.size := by rw [inv.sizel]; exact hj
      have h1 : false ∉ listed.toList := by
        intro hm
        have := List.count_pos_iff.2 hm
        omega
      unfold Ls
      have h2 : listed[j] ≠ false := fun e => h1 (by rw [← e]; simp)
      simpa [hj'] using h2
    refine ⟨?_, hK listed a w loc inv hall⟩
    cases hr : Region.ready .any l.toArray listed with
    | nil => rfl
    | cons j r =>
      exfalso
      have hm : j ∈ Region.ready .any l.toArray listed := by rw [hr]; simp
      obtain ⟨h1, o, ho, _⟩ := mem_ready.1 hm
      have hjl : j < l.length := by
        have := (Array.getElem?_eq_some_iff.1 ho).1
        simpa using this
      have := hall j hjl
      unfold Ls at this
      rw [getD_both h1] at this
      cases this
  | succ fuel ih =>
    intro listed a w loc inv hc
    refine ⟨fun hr => hK listed a w loc inv (fun j hj => all_listedF hg inv.sizel hr _ j (Nat.lt_succ_self _) hj), fun i hi => ?_⟩
    obtain ⟨hnl1, o, ho', hrd'⟩ := mem_ready.1 hi
    have ho : l[i]? = some o := by simpa using ho'
    have hnl : ¬ Ls listed i := by unfold Ls; rw [getD_both hnl1]; simp
    have hrd : ∀ e ∈ o.after.toList, Region.binds .any e = true → Ls listed e.on := fun e he hb => hrd' e (by simpa using he) hb
    have hlt : i < l.length := (List.getElem?_eq_some_iff.1 ho).1
    have hc' : (listed.setIfInBounds i true).toList.count false ≤ fuel := by
      have := count_set listed.toList i (by simpa using hnl1)
      rw [Array.toList_setIfInBounds]
      omega
    have hlook := fun t ht => lookF_now hg inv ho hnl hrd (t := t) ht
    have hlow := traceF_low hst h0 i
    have hev : ∀ x ∈ o.op.operands.toList, R w loc (ev (traceF S T l nm s0 i).1 x) (a.eval x) := by
      intro x hx
      cases x with
      | tmp t => exact hlook t (by unfold Oper.looksAt; exact List.mem_append_left _ (List.mem_filterMap.2 ⟨.tmp t, hx, rfl⟩))
      | const v => exact ev_R (sl := []) (a := a) (fun t => .junk _) (.const v)
      | global g => exact .junk _
      | func f => exact ev_R (sl := []) (a := a) (fun t => .junk _) (.func f)
    have hstep := hst i o ho
    have hfi : ftF S T l nm s0 i = (stepF S T l (nm + 8 * i) o (traceF S T l nm s0 i)).2.2 := by simp only [ftF, ho]
    have hadv := @advanceF S T l nm s0 w0 E B listed a w loc i o hg hst h0 inv ho hnl hrd
    have hheap := fun (hk : kindOf T o.op ≠ 0) id b => @heapF_now S T l nm s0 w0 E B listed a w loc i o hg inv ho hnl hrd hk id b
    rw [hfi] at hadv hheap
    -- the operation is done
    have hdo : (aopF S T (nm + 8 * i) (traceF S T l nm s0 i).1 o.op (traceF S T l nm s0 i).2).p →
        (stepF S T l (nm + 8 * i) o (traceF S T l nm s0 i)).2.1 = (putSlot (traceF S T l nm s0 i).1 o.dst (aopF S T (nm + 8 * i) (traceF S T l nm s0 i).1 o.op (traceF S T l nm s0 i).2).x, (aopF S T (nm + 8 * i) (traceF S T l nm s0 i).1 o.op (traceF S T l nm s0 i).2).H) →
        (stepF S T l (nm + 8 * i) o (traceF S T l nm s0 i)).2.2 = foot (traceF S T l nm s0 i).1 o.op (traceF S T l nm s0 i).2 →
        o.wp P a w (wpAny P .any l.toArray K fuel (listed.setIfInBounds i true)) K := by
      intro hp hs hft
      have hfree : ∀ id, nm + 8 * i ≤ id → id < nm + 8 * i + 8 → loc.m id = .free := inv.fresh i hnl hlt
      rw [hft] at hadv hheap
      by_cases hk : kindOf T o.op = 0
      · obtain ⟨h1, h2, h3⟩ := pu_aop (H := keepIn (foot (traceF S T l nm s0 i).1 o.op (traceF S T l nm s0 i).2) (traceF S T l nm s0 i).2) (S := S) (sl := (traceF S T l nm s0 i).1) (nm := nm + 8 * i) hk hp.2
        refine aop_sound hT hS inv.env (H := []) (fun id b h => by simp [look] at h) hfree o hev h1 _ K (fun v w' loc' hpost => ?_)
        obtain ⟨C, hE, hC⟩ := hpost.ext
        have hC' := hC (kind_wr (H := []) (by omega) h1)
        refine ih _ _ _ loc' (hadv (x := _) (C := C) (by rw [hs]) ?_ hE (fun _ => hC') (fun id h => (hC' id h).elim) hpost.fresh hpost.env (inv.base.post hpost) (fun h => (h hk).elim)) hc'
        have := hpost.r
        rw [h2] at this; exact this
      · refine aopF_sound hT hS inv.env (fun id b hid hl => hheap hk id b hid hl) hfree rfl hev hp _ K (fun v w' loc' wr hpost hext => ?_)
        obtain ⟨C, hE, hC, hCF⟩ := hext
        refine ih _ _ _ loc' (hadv (x := _) (C := C) (by rw [hs]) hpost.r hE hC hCF hpost.fresh hpost.env (inv.base.post hpost) (fun _ id b hor hl => ?_)) hc'
        rw [hs] at hl
        simp only [aopF] at hl
        rw [look_append] at hl
        cases h1 : look (aop S T (nm + 8 * i) (traceF S T l nm s0 i).1 o.op (keepIn (foot (traceF S T l nm s0 i).1 o.op (traceF S T l nm s0 i).2) (traceF S T l nm s0 i).2)).H id with
        | some c =>
          simp only [h1] at hl
          injection hl with hl
          subst hl
          exact hpost.h id c h1
        | none =>
          simp only [h1, look_dropIn] at hl
          split at hl
          · cases hl
          · rename_i hn
            rcases hor with h2 | h2
            · exact (hn h2).elim
            · have := hlow id b hl; omega
    unfold wpOp
    rw [ho']
    simp only
    cases hgd : o.guard with
    | none =>
      rw [if_pos (by simp [Region.wanted, hgd])]
      left
      refine hdo ?_ ?_ ?_
      · simpa [stepF, hgd] using hstep
      · simp [stepF, hgd]
      · simp [stepF, hgd]
    | some g =>
      obtain ⟨j, want⟩ := g
      simp only [stepF, hgd] at hstep hdo hadv
      cases hgs : guardSlot l j with
      | none => simp [hgs] at hstep
      | some d =>
        simp only [hgs] at hstep hdo hadv
        have hdl : d ∈ o.looksAt l.toArray := by
          unfold Oper.looksAt
          refine List.mem_append_right _ ?_
          rw [hgd]
          unfold guardSlot at hgs
          cases hj : l[j]? with
          | none => rw [hj] at hgs; cases hgs
          | some oj =>
            rw [hj] at hgs
            simp only at hgs
            simp [hj, hgs]
        have hval := hlook d hdl
        cases hsd : slot (traceF S T l nm s0 i).1 d with
        | w u =>
          cases u with
          | bool b =>
            simp only [hsd] at hstep hdo hadv
            rw [hsd] at hval
            have hval := hval.wv
            have hdlt : d < a.tmps.size := by
              rw [inv.size, ← traceF_length hst i]
              rcases Nat.lt_or_ge d (traceF S T l nm s0 i).1.length with h' | h'
              · exact h'
              · rw [slot_ge h'] at hsd; cases hsd
            have hy := yielded_of (ops := l.toArray) (by simpa using hgs) hdlt hval
            have hw : (Region.wanted o (yielded l.toArray a.tmps) = true) ↔ b = want := by simp [Region.wanted, hgd, hy]
            by_cases hbw : b = want
            · rw [if_pos (hw.2 hbw)]
              rw [if_pos hbw] at hstep hdo
              exact .inl (hdo hstep rfl rfl)
            · rw [if_neg (fun h => hbw (hw.1 h))]
              simp only [if_neg hbw] at hadv
              refine ih _ _ _ loc (hadv (x := .tup []) (C := fun _ => False) rfl undef_R (Ext.refl w loc) (fun _ _ h => h) (fun _ h => h.elim) (fun id h h' => (h' h).elim) inv.env inv.base (fun hk id b hor hl => ?_)) hc'
              rcases hor with h2 | h2
              · simp at h2
              · have := hlow id b hl; omega
          | _ => simp [hsd] at hstep
        | tup xs =>
          cases xs with
          | nil =>
            simp only [hsd] at hadv
            rw [hsd] at hval
            rw [if_neg (by simp [Region.wanted, hgd, yielded_none (ops := l.toArray) (by simpa using hgs) (tup_R hval)])]
            refine ih _ _ _ loc (hadv (x := .tup []) (C := fun _ => False) rfl undef_R (Ext.refl w loc) (fun _ _ h => h) (fun _ h => h.elim) (fun id h h' => (h' h).elim) inv.env inv.base (fun hk id b hor hl => ?_)) hc'
            rcases hor with h2 | h2
            · simp at h2
            · have := hlow id b hl; omega
          | cons _ _ => simp [hsd] at hstep
        | _ => simp [hsd] at hstep

/-- A drawn region told block by block does what the text's order does. -/
theorem drawF_sound (hT : TOk P T) (hS : Fns P S) (hm : P.follows .mixedOrders = true) {pl : List (Nat × Nat)} {K : Exit → Act → World → Prop} {Q : List AV → Heap → Prop} {sl : List AV} {H : Heap} {a : Act} {w : World} {loc : Loc} {id : Nat}
    (hd : drawOkF T l pl = true) (hK : ∀ sl H a w loc, Base w0 B w loc → Rel' w0 E loc ⟨sl, H, nm + 8 * l.length⟩ a w → Q sl H → K .normal a w) (hb : Base w0 B w loc)
    (hr : Rel' w0 E loc ⟨sl, H, nm⟩ a w) (h : aopsF S T l pl nm [] l sl H Q) : (Code.region id l.toArray true).wp P K a w := by
  obtain ⟨⟨hQ, hmem⟩, hst⟩ := aopsF_trace (S := S) (T := T) (nm := nm) (pl := pl) (Q := Q) (l := l) (s0 := (sl, H)) l 0 (fun j => by rw [Nat.zero_add]) (Nat.zero_add _) (by simpa [traceF] using h)
  have hst' := fun j o ho => hst j o (Nat.zero_le _) ho
  have hg := goodF_of hd hmem
  refine wp_region_any hm ?_
  have hL : ∀ i, ¬ Ls (Array.replicate l.toArray.size false) i := fun i h => by
    unfold Ls at h
    rw [getD_replicate_false] at h; cases h
  refine inv_wpAnyF hT hS hg hst' hr.low (w0 := w0) (E := E) (B := B) ?_ _ _ _ _ loc ?_ ?_
  · intro listed a w loc inv hall
    have hq : ∀ (i : Nat), i < l.length → (Ls listed i ↔ i < l.length) := fun i hi => ⟨fun _ => hi, fun _ => hall i hi⟩
    have hlt : ∀ {j : Nat} {o : Oper}, l[j]? = some o → j < l.length := fun h => (List.getElem?_eq_some_iff.1 h).1
    refine hK _ _ a w loc inv.base ⟨?_, ?_, ?_, inv.env, inv.high, inv.defers, ?_⟩ hQ
    · simp only; rw [traceF_length hst']; exact inv.size
    · exact fun t => inv.slots t _ (Nat.le_refl _) (fun i o ho _ => hq i (hlt ho))
    · exact fun id b hl => inv.heap id _ (Nat.le_refl _) (fun i o ho _ _ => hq i (hlt ho)) b hl
    · exact traceF_low hst' hr.low l.length
  · have hbase : Base w0 B { w with drawn := w.drawn + 1 } loc := hb
    have hE : Ext (fun _ => False) w loc { w with drawn := w.drawn + 1 } loc := ⟨Nat.le_refl _, fun _ _ _ => rfl, fun _ _ _ => .inl rfl, fun _ _ h => ⟨rfl, h⟩, fun _ _ _ _ => rfl, fun _ cur _ fz h => ⟨cur, fz, h, rfl⟩⟩
    have hcl : ∀ {x v}, R w loc x v → R { w with drawn := w.drawn + 1 } loc x v := fun h => h.ext hE
    refine ⟨by simp, hr.size, ?_, ?_, ?_, ?_, ?_, ⟨hr.env.os, hr.env.tape, hr.env.output, hr.env.size, hr.env.same, hr.env.inj, hr.env.lies, hr.env.bad⟩, hbase, hr.defers⟩
    · intro t k hk hq
      have e : slot (traceF S T l nm (sl, H) k).1 t = slot sl t := by
        refine traceF_slot hst' (i := 0) (Nat.zero_le _) (fun j o _ hj ho hd => ?_)
        exact hL j ((hq j o ho hd).2 hj)
      rw [e]
      exact hcl (hr.slots t)
    · intro id k hk hq b hl
      by_cases hf : loc.m id = .free
      · exact BlkR.free hf
      · have hidn : id < nm := by
          rcases Nat.lt_or_ge id nm with h' | h'
          · exact h'
          · exact (hf (hr.fresh id h')).elim
        have e : look (traceF S T l nm (sl, H) k).2 id = look H id := by
          refine traceF_keep hst' (i := 0) (Nat.zero_le _) (fun j o _ hj ho => ⟨?_, .inr (by omega)⟩)
          by_cases hid : id ∈ ftF S T l nm (sl, H) j
          · left
            have hle : kindOf T o.op ≤ 2 := kind_le T o.op
            have hne : kindOf T o.op ≠ 2 := fun h2 => hL j ((hq j o ho h2 hid).2 hj)
            omega
          · exact .inr hid
        rw [e] at hl
        exact (hr.heap id b hl).ext hE (fun h => h) hf
    · intro j o ho hl; exact (hL j hl).elim
    · intro i _ hi id h1 h2; exact hr.fresh id (by simp only; omega)
    · intro id h1; exact hr.fresh id (by simp only; omega)
  · simp
end

end Ax
end Go.Proofs.Ytlbdhkgjhjcgiaa
