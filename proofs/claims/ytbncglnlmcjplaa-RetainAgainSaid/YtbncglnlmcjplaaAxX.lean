/- A region whose order is drawn: the proof. -/
import Derived.Test.YtbncglnlmcjplaaAxV
import Derived.StillTail
import Derived.Below
namespace Go.Proofs.Ytbncglnlmcjplaa
namespace Ax
set_option linter.unusedSimpArgs false
set_option linter.unusedVariables false

section
variable {P : Program} {S : FSpecs} {T : Types} {l : List Oper} {nm : Nat} {s0 : List AV × Heap} {w0 : World} {E : Nat → Prop} {B : Bs}

theorem all_listed (hg : Good T l) {listed : Array Bool} (hsz : listed.size = l.length) (hr : Region.ready .any l.toArray listed = []) : ∀ n j, j < n → j < l.length → Ls listed j := by
  intro n
  induction n with
  | zero => intro j h; omega
  | succ n ih =>
    intro j hj hjl
    by_cases hl : Ls listed j
    · exact hl
    · exfalso
      have : j ∈ Region.ready .any l.toArray listed := by
        refine mem_ready.2 ⟨getD_in (by rw [hsz]; exact hjl) (by unfold Ls at hl; simpa using hl), l[j], by simp [hjl], fun e he hb => ?_⟩
        have hlt := hg.back j l[j] (List.getElem?_eq_getElem hjl) e (by simpa using he) hb
        exact ih e.on (by omega) (by omega)
      rw [hr] at this
      simp at this

theorem inv_wpAny (hT : TOk P T) (hS : Fns P S) (hg : Good T l) (hst : ∀ j o, l[j]? = some o → (step S T l (nm + 8 * j) o (trace S T l nm s0 j)).1) (h0 : ∀ id b, look s0.2 id = some b → id < nm) {K : Exit → Act → World → Prop}
    (hK : ∀ listed a w loc, Inv S T l nm s0 w0 E B listed a w loc → (∀ j, j < l.length → Ls listed j) → K .normal a w) :
    ∀ (fuel : Nat) (listed : Array Bool) (a : Act) (w : World) (loc : Loc), Inv S T l nm s0 w0 E B listed a w loc → listed.toList.count false ≤ fuel → wpAny P .any l.toArray K fuel listed a w := by
  intro fuel
  induction fuel with
  | zero =>
    intro listed a w loc inv hc
    have hall : ∀ j, j < l.length → Ls listed j := by
      intro j hj
      have hj' : j < listed.size := by rw [inv.sizel]; exact hj
      have h1 : false ∉ listed.toList := by
        intro hm
        have := List.count_pos_iff.2 hm
        omega
      unfold Ls
      have h2 : listed[j] ≠ false := fun e => h1 (by rw [← e]; simp)
      simpa [hj'] using h2
    refine ⟨?_, hK listed a w loc inv hall⟩
    cases hr : Region.ready .any l.toArray listed with
    | nil => rfl
    | cons j r =>
      exfalso
      have hm : j ∈ Region.ready .any l.toArray listed := by rw [hr]; simp
      obtain ⟨h1, o, ho, _⟩ := mem_ready.1 hm
      have hjl : j < l.length := by
        have := (Array.getElem?_eq_some_iff.1 ho).1
        simpa using this
      have := hall j hjl
      unfold Ls at this
      rw [getD_both h1] at this
      cases this
  | succ fuel ih =>
    intro listed a w loc inv hc
    refine ⟨fun hr => hK listed a w loc inv (fun j hj => all_listed hg inv.sizel hr _ j (Nat.lt_succ_self _) hj), fun i hi => ?_⟩
    obtain ⟨hnl1, o, ho', hrd'⟩ := mem_ready.1 hi
    have ho : l[i]? = some o := by simpa using ho'
    have hnl : ¬ Ls listed i := by unfold Ls; rw [getD_both hnl1]; simp
    have hrd : ∀ e ∈ o.after.toList, Region.binds .any e = true → Ls listed e.on := fun e he hb => hrd' e (by simpa using he) hb
    have hlt : i < l.length := (List.getElem?_eq_some_iff.1 ho).1
    have hc' : (listed.setIfInBounds i true).toList.count false ≤ fuel := by
      have := count_set listed.toList i (by simpa using hnl1)
      rw [Array.toList_setIfInBounds]
      omega
    have hlook := fun t ht => look_now hg inv ho hnl hrd (t := t) ht
    have hev : ∀ x ∈ o.op.operands.toList, R w loc (ev (trace S T l nm s0 i).1 x) (a.eval x) := by
      intro x hx
      cases x with
      | tmp t => exact hlook t (by unfold Oper.looksAt; exact List.mem_append_left _ (List.mem_filterMap.2 ⟨.tmp t, hx, rfl⟩))
      | const v => exact ev_R (sl := []) (a := a) (fun t => .junk _) (.const v)
      | global g => exact .junk _
      | func f => exact ev_R (sl := []) (a := a) (fun t => .junk _) (.func f)
    have hstep := hst i o ho
    have hadv := @advance S T l nm s0 w0 E B listed a w loc i o hg hst h0 inv ho hnl hrd
    -- the operation is done
    have hdo : (aop S T (nm + 8 * i) (trace S T l nm s0 i).1 o.op (trace S T l nm s0 i).2).p →
        (step S T l (nm + 8 * i) o (trace S T l nm s0 i)).2 = (putSlot (trace S T l nm s0 i).1 o.dst (aop S T (nm + 8 * i) (trace S T l nm s0 i).1 o.op (trace S T l nm s0 i).2).x, (aop S T (nm + 8 * i) (trace S T l nm s0 i).1 o.op (trace S T l nm s0 i).2).H) →
        o.wp P a w (wpAny P .any l.toArray K fuel (listed.setIfInBounds i true)) K := by
      intro hp hs
      have hfree : ∀ id, nm + 8 * i ≤ id → id < nm + 8 * i + 8 → loc.m id = .free := inv.fresh i hnl hlt
      by_cases hk : kindOf T o.op = 0
      · obtain ⟨h1, h2, h3⟩ := pu_aop (H := (trace S T l nm s0 i).2) (S := S) (sl := (trace S T l nm s0 i).1) (nm := nm + 8 * i) hk hp
        refine aop_sound hT hS inv.env (H := []) (fun id b h => by simp [look] at h) hfree o hev h1 _ K (fun v w' loc' hpost => ?_)
        obtain ⟨C, hE, hC⟩ := hpost.ext
        refine ih _ _ _ loc' (hadv (x := _) (C := C) (by rw [hs]) ?_ hE (fun _ => hC (kind_wr (H := []) (by omega) h1)) hpost.fresh hpost.env (inv.base.post hpost) (fun h => (h hk).elim)) hc'
        have := hpost.r
        rw [h2] at this; exact this
      · have hh := heap_now hg inv ho hnl hrd hk
        refine aop_sound hT hS inv.env hh hfree o hev hp _ K (fun v w' loc' hpost => ?_)
        obtain ⟨C, hE, hC⟩ := hpost.ext
        exact ih _ _ _ loc' (hadv (x := _) (C := C) (by rw [hs]) hpost.r hE (fun h => hC (kind_wr h hp)) hpost.fresh hpost.env (inv.base.post hpost) (fun _ => by rw [hs]; exact hpost.h)) hc'
    unfold wpOp
    rw [ho']
    simp only
    cases hgd : o.guard with
    | none =>
      rw [if_pos (by simp [Region.wanted, hgd])]
      left
      refine hdo ?_ ?_
      · simpa [step, hgd] using hstep
      · simp [step, hgd]
    | some g =>
      obtain ⟨j, want⟩ := g
      simp only [step, hgd] at hstep hdo hadv
      cases hgs : guardSlot l j with
      | none => simp [hgs] at hstep
      | some d =>
        simp only [hgs] at hstep hdo hadv
        have hdl : d ∈ o.looksAt l.toArray := by
          unfold Oper.looksAt
          refine List.mem_append_right _ ?_
          rw [hgd]
          unfold guardSlot at hgs
          cases hj : l[j]? with
          | none => rw [hj] at hgs; cases hgs
          | some oj =>
            rw [hj] at hgs
            simp only at hgs
            simp [hj, hgs]
        have hval := hlook d hdl
        cases hsd : slot (trace S T l nm s0 i).1 d with
        | w u =>
          cases u with
          | bool b =>
            simp only [hsd] at hstep hdo hadv
            rw [hsd] at hval
            have hval := hval.wv
            have hdlt : d < a.tmps.size := by
              rw [inv.size, ← trace_length hst i]
              rcases Nat.lt_or_ge d (trace S T l nm s0 i).1.length with h' | h'
              · exact h'
              · rw [slot_ge h'] at hsd; cases hsd
            have hy := yielded_of (ops := l.toArray) (by simpa using hgs) hdlt hval
            have hw : (Region.wanted o (yielded l.toArray a.tmps) = true) ↔ b = want := by simp [Region.wanted, hgd, hy]
            by_cases hbw : b = want
            · rw [if_pos (hw.2 hbw)]
              rw [if_pos hbw] at hstep hdo
              exact .inl (hdo hstep rfl)
            · rw [if_neg (fun h => hbw (hw.1 h))]
              simp only [if_neg hbw] at hadv
              refine ih _ _ _ loc (hadv (x := .tup []) (C := fun _ => False) rfl undef_R (Ext.refl w loc) (fun _ _ h => h) (fun id h h' => (h' h).elim) inv.env inv.base (fun hk => ?_)) hc'
              exact heap_now hg inv ho hnl hrd hk
          | _ => simp [hsd] at hstep
        | tup xs =>
          cases xs with
          | nil =>
            simp only [hsd] at hadv
            rw [hsd] at hval
            rw [if_neg (by simp [Region.wanted, hgd, yielded_none (ops := l.toArray) (by simpa using hgs) (tup_R hval)])]
            refine ih _ _ _ loc (hadv (x := .tup []) (C := fun _ => False) rfl undef_R (Ext.refl w loc) (fun _ _ h => h) (fun id h h' => (h' h).elim) inv.env inv.base (fun hk => ?_)) hc'
            exact heap_now hg inv ho hnl hrd hk
          | cons _ _ => simp [hsd] at hstep
        | _ => simp [hsd] at hstep

theorem draw_sound (hT : TOk P T) (hS : Fns P S) (hm : P.follows .mixedOrders = true) : DrawSound P S T := by
  intro w0 E l K Q B nm sl H a w loc id hd hK hb hr h
  have hg := good_of hd
  obtain ⟨hQ, hst⟩ := aops_trace (S := S) (T := T) (nm := nm) (Q := Q) (l := l) (s0 := (sl, H)) l 0 (fun j => by rw [Nat.zero_add]) (Nat.zero_add _) (by simpa [trace] using h)
  have hst' := fun j o ho => hst j o (Nat.zero_le _) ho
  refine wp_region_any hm ?_
  have hL : ∀ i, ¬ Ls (Array.replicate l.toArray.size false) i := fun i h => by
    unfold Ls at h
    rw [getD_replicate_false] at h; cases h
  refine inv_wpAny hT hS hg hst' hr.low (w0 := w0) (E := E) (B := B) ?_ _ _ _ _ loc ?_ ?_
  · intro listed a w loc inv hall
    have hq : ∀ (i : Nat), i < l.length → (Ls listed i ↔ i < l.length) := fun i hi => ⟨fun _ => hi, fun _ => hall i hi⟩
    have hlt : ∀ {j : Nat} {o : Oper}, l[j]? = some o → j < l.length := fun h => (List.getElem?_eq_some_iff.1 h).1
    refine hK _ _ a w loc inv.base ⟨?_, ?_, ?_, inv.env, inv.high, inv.defers, ?_⟩ hQ
    · simp only; rw [trace_length hst']; exact inv.size
    · exact fun t => inv.slots t _ (Nat.le_refl _) (fun i o ho _ => hq i (hlt ho))
    · exact inv.heap _ (Nat.le_refl _) (fun i o ho _ => hq i (hlt ho))
    · exact trace_low hst' hr.low l.length
  · have hbase : Base w0 B { w with drawn := w.drawn + 1 } loc := hb
    have hE : Ext (fun _ => False) w loc { w with drawn := w.drawn + 1 } loc := ⟨Nat.le_refl _, fun _ _ _ => rfl, fun _ _ _ => .inl rfl, fun _ _ h => ⟨rfl, h⟩, fun _ _ _ _ => rfl, fun _ cur _ fz h => ⟨cur, fz, h, rfl⟩⟩
    have hcl : ∀ {x v}, R w loc x v → R { w with drawn := w.drawn + 1 } loc x v := fun h => h.ext hE
    refine ⟨by simp, hr.size, ?_, ?_, ?_, ?_, ?_, ⟨hr.env.os, hr.env.tape, hr.env.output, hr.env.size, hr.env.same, hr.env.inj, hr.env.lies, hr.env.bad⟩, hbase, hr.defers⟩
    · intro t k hk hq
      have e : slot (trace S T l nm (sl, H) k).1 t = slot sl t := by
        refine trace_slot hst' (i := 0) (Nat.zero_le _) (fun j o _ hj ho hd => ?_)
        exact hL j ((hq j o ho hd).2 hj)
      rw [e]
      exact hcl (hr.slots t)
    · intro k hk hq id b hl
      by_cases hf : loc.m id = .free
      · exact BlkR.free hf
      · have hidn : id < nm := by
          rcases Nat.lt_or_ge id nm with h' | h'
          · exact h'
          · exact (hf (hr.fresh id h')).elim
        have e : look (trace S T l nm (sl, H) k).2 id = look H id := by
          refine trace_keep hst' (i := 0) (Nat.zero_le _) (fun j o _ hj ho => ?_)
          have hle : kindOf T o.op ≤ 2 := kind_le T o.op
          have hne : kindOf T o.op ≠ 2 := fun h2 => hL j ((hq j o ho h2).2 hj)
          exact ⟨by omega, .inr (by omega)⟩
        rw [e] at hl
        exact (hr.heap id b hl).ext hE (fun h => h) hf
    · intro j o ho hl; exact (hL j hl).elim
    · intro i _ hi id h1 h2; exact hr.fresh id (by simp only; omega)
    · intro id h1; exact hr.fresh id (by simp only; omega)
  · simp
end

end Ax
end Go.Proofs.Ytbncglnlmcjplaa

/- From what is said of a function to what a law's shell asks. -/
namespace Go.Proofs.Ytbncglnlmcjplaa
namespace Ax
open Go.RowKit
set_option linter.unusedSimpArgs false
set_option linter.unusedVariables false

/-- Every region that draws its order may. -/
def drawsOk (T : Types) : Code → Bool
  | .region _ ops draw => !draw || drawOk T ops.toList
  | .seq a b => drawsOk T a && drawsOk T b
  | .cond _ a b => drawsOk T a && drawsOk T b
  | .block _ c => drawsOk T c
  | .loop c => drawsOk T c
  | _ => true

def undraw : Code → Code
  | .region id ops _ => .region id ops false
  | .seq a b => .seq (undraw a) (undraw b)
  | .cond c a b => .cond c (undraw a) (undraw b)
  | .block id c => .block id (undraw c)
  | .loop c => .loop (undraw c)
  | c => c

theorem aops_mono {S : FSpecs} {T : Types} {ops : List Oper} {Q Q' : List AV → Heap → Prop} (hq : ∀ sl H, Q sl H → Q' sl H) : ∀ (l : List Oper) (nm : Nat) (sl : List AV) (H : Heap), aops S T ops nm l sl H Q → aops S T ops nm l sl H Q'
  | [], nm, sl, H, h => hq sl H h
  | o :: r, nm, sl, H, h => by
    unfold aops at h ⊢
    cases hg : o.guard with
    | none => simp only [hg] at h ⊢; exact ⟨h.1, aops_mono hq r _ _ _ h.2⟩
    | some g =>
      obtain ⟨j, want⟩ := g
      simp only [hg] at h ⊢
      cases hs : guardSlot ops j with
      | none => simp [hs] at h
      | some d =>
        simp only [hs] at h ⊢
        split at h
        · exact ⟨fun e => ⟨(h.1 e).1, aops_mono hq r _ _ _ (h.1 e).2⟩, fun e => aops_mono hq r _ _ _ (h.2 e)⟩
        · exact aops_mono hq r _ _ _ h
        · exact h.elim

theorem rawp_mono {S : FSpecs} {T : Types} : ∀ (c : Code) (Q Q' : Exit → ASt → Prop) (σ : ASt), (∀ e σ, Q e σ → Q' e σ) → rawp S T c Q σ → rawp S T c Q' σ := by
  intro c
  induction c with
  | skip => intro Q Q' σ hq h; exact hq _ _ h
  | label l => intro Q Q' σ hq h; exact hq _ _ h
  | region id ops draw => intro Q Q' σ hq h; exact ⟨h.1, aops_mono (fun _ _ h => hq _ _ h) _ _ _ _ h.2⟩
  | seq a b iha ihb =>
    intro Q Q' σ hq h
    refine iha _ _ σ ?_ h
    intro e σ h
    cases e with
    | normal => exact ihb _ _ σ hq h
    | _ => exact hq _ _ h
  | cond c a b iha ihb =>
    intro Q Q' σ hq h
    simp only [rawp] at h ⊢
    split at h
    · exact ⟨fun e => iha _ _ σ hq (h.1 e), fun e => ihb _ _ σ hq (h.2 e)⟩
    · exact h.elim
  | block id c ih =>
    intro Q Q' σ hq h
    refine ih _ _ σ ?_ h
    intro e σ h
    cases e with
    | exit id' =>
      simp only [blockK] at h ⊢
      split at h
      · rename_i he; rw [if_pos he]; exact hq _ _ h
      · rename_i he; rw [if_neg he]; exact hq _ _ h
    | _ => exact hq _ _ h
  | loop c ih =>
    intro Q Q' σ hq h
    obtain ⟨I, hst, hr⟩ := h
    refine ⟨I, hst, fun n σ' hI => ih _ _ σ' ?_ (hr n σ' hI)⟩
    intro e σ h
    cases e with
    | normal => exact h
    | _ =>
      obtain ⟨σ2, hw, h⟩ := h
      exact ⟨σ2, hw, hq _ _ h⟩
  | exit id => intro Q Q' σ hq h; exact hq _ _ h
  | ret => intro Q Q' σ hq h; exact hq _ _ h
  | _ => intro Q Q' σ hq h; exact h.elim

theorem rawp_undraw {S : FSpecs} {T : Types} : ∀ (c : Code) (Q : Exit → ASt → Prop) (σ : ASt), drawsOk T c = true → rawp S T (undraw c) Q σ → rawp S T c Q σ := by
  intro c
  induction c with
  | region id ops draw =>
    intro Q σ hd h
    refine ⟨fun e => ?_, h.2⟩
    subst e
    simpa [drawsOk] using hd
  | seq a b iha ihb =>
    intro Q σ hd h
    simp only [drawsOk, Bool.and_eq_true] at hd
    refine iha _ σ hd.1 (rawp_mono _ _ _ σ ?_ h)
    intro e σ h
    cases e with
    | normal => exact ihb _ σ hd.2 h
    | _ => exact h
  | cond c a b iha ihb =>
    intro Q σ hd h
    simp only [drawsOk, Bool.and_eq_true] at hd
    simp only [undraw, rawp] at h ⊢
    split at h
    · exact ⟨fun e => iha _ σ hd.1 (h.1 e), fun e => ihb _ σ hd.2 (h.2 e)⟩
    · exact h.elim
  | block id c ih => intro Q σ hd h; exact ih _ σ hd h
  | loop c ih =>
    intro Q σ hd h
    obtain ⟨I, hst, hr⟩ := h
    exact ⟨I, hst, fun n σ' hI => ih _ σ' hd (hr n σ' hI)⟩
  | _ => intro Q σ hd h; exact h

def awp (S : FSpecs) (T : Types) (c : Code) (Q : Exit → ASt → Prop) (σ : ASt) : Prop := rawp S T (undraw c) Q σ

/-- The same, held back: what is asked of the code behind. -/
def later (S : FSpecs) (T : Types) (b : Code) (Q : Exit → ASt → Prop) : Exit → ASt → Prop := seqK (awp S T b Q) Q

section rules
variable {S : FSpecs} {T : Types} {Q : Exit → ASt → Prop} {σ : ASt}
theorem awp_skip : awp S T .skip Q σ = Q .normal σ := rfl
theorem awp_label {l : Nat} : awp S T (.label l) Q σ = Q .normal σ := rfl
theorem awp_ret : awp S T .ret Q σ = Q .ret σ := rfl
theorem awp_exit {id : Nat} : awp S T (.exit id) Q σ = Q (.exit id) σ := rfl
theorem awp_region {id : Nat} {l : List Oper} {draw : Bool} : awp S T (.region id l.toArray draw) Q σ = aops S T l σ.nx l σ.sl σ.H (regK (σ.nx + 8 * l.length) Q) := by
  simp [awp, rawp, undraw]
theorem awp_seq {a b : Code} : awp S T (.seq a b) Q σ = awp S T a (later S T b Q) σ := rfl
theorem awp_block {id : Nat} {c : Code} : awp S T (.block id c) Q σ = awp S T c (blockK id Q) σ := rfl
theorem awp_cond {c : Operand} {a b : Code} : awp S T (.cond c a b) Q σ = match ev σ.sl c with
      | .w (.bool t) => csplit t (awp S T a Q σ) (awp S T b Q σ)
      | _ => False := rfl
theorem awp_loopW {c : Code} (h : ALoop (awp S T c) Q σ) : awp S T (.loop c) Q σ := h
theorem awp_loop {c : Code} (h : ALoop0 (awp S T c) Q σ) : awp S T (.loop c) Q σ := by
  obtain ⟨I, hst, hr⟩ := h
  refine ⟨I, hst, fun n σ' hI => rawp_mono _ _ _ σ' ?_ (hr n σ' hI)⟩
  intro e σ h
  cases e with
  | normal => exact h
  | _ => exact ⟨σ, Weak.refl σ, h⟩
theorem later_normal {b : Code} : later S T b Q .normal σ = awp S T b Q σ := rfl
theorem later_exit {b : Code} {id : Nat} : later S T b Q (.exit id) σ = Q (.exit id) σ := rfl
theorem later_ret {b : Code} : later S T b Q .ret σ = Q .ret σ := rfl
theorem blockK_normal {id : Nat} : blockK id Q .normal σ = Q .normal σ := rfl
theorem blockK_ret {id : Nat} : blockK id Q .ret σ = Q .ret σ := rfl
theorem blockK_exit {id id' : Nat} : blockK id Q (.exit id') σ = if id' = id then Q .normal σ else Q (.exit id') σ := rfl
theorem regK_apply {nx : Nat} {sl : List AV} {H : Heap} : regK nx Q sl H = Q .normal ⟨sl, H, nx⟩ := rfl
variable {ops r : List Oper} {o : Oper} {nm : Nat} {sl : List AV} {H : Heap} {Q' : List AV → Heap → Prop}
theorem aops_nil : aops S T ops nm [] sl H Q' = Q' sl H := rfl
theorem aops_plain {dst : Option Tmp} {op : Op} {type : TypeId} {pos : String} {after : Array Edge} : aops S T ops nm (⟨dst, op, type, pos, after, none⟩ :: r) sl H Q' =
    ((aop S T nm sl op H).p ∧ aops S T ops (nm + 8) r (putSlot sl dst (aop S T nm sl op H).x) (aop S T nm sl op H).H Q') := rfl
theorem aops_guard {dst : Option Tmp} {op : Op} {type : TypeId} {pos : String} {after : Array Edge} {j : Nat} {want : Bool} : aops S T ops nm (⟨dst, op, type, pos, after, some (j, want)⟩ :: r) sl H Q' =
    match guardSlot ops j with
      | none => False
      | some d => match slot sl d with
        | .w (.bool b) =>
          gsplit b want ((aop S T nm (setSlot sl d (.w (.bool want))) op H).p ∧
            aops S T ops (nm + 8) r (putSlot (setSlot sl d (.w (.bool want))) dst (aop S T nm (setSlot sl d (.w (.bool want))) op H).x) (aop S T nm (setSlot sl d (.w (.bool want))) op H).H Q')
          (aops S T ops (nm + 8) r (putSlot (setSlot sl d (.w (.bool !want))) dst (.tup [])) H Q')
        | .tup [] => aops S T ops (nm + 8) r (putSlot sl dst (.tup [])) H Q'
        | _ => False := rfl
end rules


theorem fn_sound {P : Program} {T : Types} {S : FSpecs} (hm : P.follows .mixedOrders = true) (hT : TOk P T) (hS : Fns P S) {f : FuncId} {fn : Func} {c : Code} (hf : P.funcs[f]? = some fn) (hb : fn.body = some c) (hd : drawsOk T c = true) {spec : FSpec}
    (h : ∀ xs pins, (spec xs pins).p → closedB pins = true → pins.length ≤ 4 ∧ awp S T c (Ends T fn.results.toList pins (spec xs pins)) ⟨xs ++ List.replicate (fn.ntmps - xs.length) .junk, pinHeap 0 pins, 4⟩) : Sound P f spec :=
  sound_gen hT hS (draw_sound hT hS hm) hf hb (Qp := fun xs pins => Ends T fn.results.toList pins (spec xs pins)) (fun _ _ _ σ h => ⟨σ, Weak.refl σ, h⟩) (fun xs pins hp hc => ⟨(h xs pins hp hc).1, rawp_undraw _ _ _ hd (h xs pins hp hc).2⟩)

theorem fn_soundW {P : Program} {T : Types} {S : FSpecs} (hm : P.follows .mixedOrders = true) (hT : TOk P T) (hS : Fns P S) {f : FuncId} {fn : Func} {c : Code} (hf : P.funcs[f]? = some fn) (hb : fn.body = some c) (hd : drawsOk T c = true) {spec : FSpec}
    (h : ∀ xs pins, (spec xs pins).p → closedB pins = true → pins.length ≤ 4 ∧ awp S T c (EndsW T fn.results.toList pins (spec xs pins)) ⟨xs ++ List.replicate (fn.ntmps - xs.length) .junk, pinHeap 0 pins, 4⟩) : Sound P f spec :=
  sound_gen hT hS (draw_sound hT hS hm) hf hb (Qp := fun xs pins => EndsW T fn.results.toList pins (spec xs pins)) (fun _ _ _ _ h => h) (fun xs pins hp hc => ⟨(h xs pins hp hc).1, rawp_undraw _ _ _ hd (h xs pins hp hc).2⟩)

/-- The same types; no call by name is lent a slice of the caller's own. -/
def setFlat (T : Types) : Types := fun t =>
  match T t with
  | some i => some { i with flat := 1 }
  | none => none

theorem setFlat_ok {P : Program} {T : Types} (h : TOk P T) : TOk P (setFlat T) := by
  intro t i hi
  unfold setFlat at hi
  cases ht : T t with
  | none => rw [ht] at hi; cases hi
  | some j =>
    rw [ht] at hi
    injection hi with hi
    subst hi
    have := h t j ht
    exact ⟨this.d, this.info, this.eqs⟩

/-- The same; and texts are made of data alone that nobody writes. -/
def setCold (T : Types) : Types := fun t =>
  match T t with
  | some i => some { i with flat := 2 }
  | none => none

theorem setCold_ok {P : Program} {T : Types} (h : TOk P T) : TOk P (setCold T) := by
  intro t i hi
  unfold setCold at hi
  cases ht : T t with
  | none => rw [ht] at hi; cases hi
  | some j =>
    rw [ht] at hi
    injection hi with hi
    subst hi
    have := h t j ht
    exact ⟨this.d, this.info, this.eqs⟩

def none0 : Nat → Prop := fun _ => False
def loc0 : Loc := locOf [] none0

theorem law_run {P : Program} {f : FuncId} {spec : FSpec} (h : Sound P f spec) {xs : List AV} {vs : List Value} {w : World} (hp : (spec xs []).p) (hx : (spec xs []).x = .w (.bool true)) (hl : xs.length = vs.length)
    (hR : ∀ (j : Nat) (h : j < xs.length) (h' : j < vs.length), R w loc0 xs[j] vs[j]) : Calls P f vs.toArray w fun e w' => e = .returned (.bool true) ∧ Below w.heap.size w w' := by
  refine (h xs [] hp rfl w none0 [] vs rfl (by simp) (fun _ h => h.elim) (fun k h => by simp at h) hl hR).mono ?_
  rintro e w' ⟨v, loc', rfl, hg⟩
  have hr := hg.r
  rw [hx] at hr
  rw [hr.wv]
  refine ⟨rfl, hg.fram.os, hg.fram.tape, hg.fram.output, hg.fram.size, fun k hk => hg.fram.same k hk (by simp)⟩

end Ax
end Go.Proofs.Ytbncglnlmcjplaa
