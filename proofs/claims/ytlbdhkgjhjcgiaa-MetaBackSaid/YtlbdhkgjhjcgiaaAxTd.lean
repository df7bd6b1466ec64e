/- Code whose drawn regions are told block by block, where a plan says so. -/
import Derived.Test.YtlbdhkgjhjcgiaaAxTc
import Derived.Test.YtlbdhkgjhjcgiaaAxX
namespace Go.Proofs.Ytlbdhkgjhjcgiaa
namespace Ax
open Go.RowKit
set_option linter.unusedSimpArgs false
set_option linter.unusedVariables false

/-- For a region's number: the pairs that must meet in no block. -/
abbrev Plan := Nat → Option (List (Nat × Nat))

def drawsOkF (T : Types) (pl : Plan) : Code → Bool
  | .region id ops draw => match pl id with
    | none => !draw || drawOk T ops.toList
    | some p => draw && drawOkF T ops.toList p
  | .seq a b => drawsOkF T pl a && drawsOkF T pl b
  | .cond _ a b => drawsOkF T pl a && drawsOkF T pl b
  | .block _ c => drawsOkF T pl c
  | .loop c => drawsOkF T pl c
  | _ => true

def awpF (S : FSpecs) (T : Types) (pl : Plan) : Code → (Exit → ASt → Prop) → ASt → Prop
  | .skip, Q, σ => Q .normal σ
  | .label _, Q, σ => Q .normal σ
  | .region id ops _, Q, σ => match pl id with
    | none => aops S T ops.toList σ.nx ops.toList σ.sl σ.H (regK (σ.nx + 8 * ops.toList.length) Q)
    | some p => aopsF S T ops.toList p σ.nx [] ops.toList σ.sl σ.H (regK (σ.nx + 8 * ops.toList.length) Q)
  | .seq a b, Q, σ => awpF S T pl a (seqK (awpF S T pl b Q) Q) σ
  | .cond c a b, Q, σ => match ev σ.sl c with
      | .w (.bool t) => csplit t (awpF S T pl a Q σ) (awpF S T pl b Q σ)
      | _ => False
  | .block id c, Q, σ => awpF S T pl c (blockK id Q) σ
  | .loop c, Q, σ => ALoop (awpF S T pl c) Q σ
  | .exit id, Q, σ => Q (.exit id) σ
  | .ret, Q, σ => Q .ret σ
  | _, _, _ => False

open Classical in
theorem awpF_sound {P : Program} {w0 : World} {E : Nat → Prop} {T : Types} {S : FSpecs} {pl : Plan} (hm : P.follows .mixedOrders = true) (hT : TOk P T) (hS : Fns P S) {B : Bs} : ∀ (c : Code) (Q : Exit → ASt → Prop) (σ : ASt) (a : Act) (w : World),
    drawsOkF T pl c = true → awpF S T pl c Q σ → Rel w0 E B σ a w → c.wp P (Low w0 E B Q) a w := by
  intro c
  induction c with
  | skip => intro Q σ a w hdr h hr; exact wp_skip ⟨σ, hr, h⟩
  | label l => intro Q σ a w hdr h hr; exact wp_label ⟨σ, hr, h⟩
  | ret => intro Q σ a w hdr h hr; exact wp_ret ⟨σ, hr, h⟩
  | exit id => intro Q σ a w hdr h hr; exact wp_exit ⟨σ, hr, h⟩
  | region id ops draw =>
    intro Q σ a w hdr h hr
    obtain ⟨loc, hb, hr⟩ := hr
    obtain ⟨sl, H, nx⟩ := σ
    have hK : ∀ sl H a w loc, Base w0 B w loc → Rel' w0 E loc ⟨sl, H, nx + 8 * ops.toList.length⟩ a w → regK (nx + 8 * ops.toList.length) Q sl H → Low w0 E B Q .normal a w := fun sl H a w loc h1 h2 h3 => ⟨_, ⟨loc, h1, h2⟩, h3⟩
    simp only [drawsOkF] at hdr
    simp only [awpF] at h
    cases hp : pl id with
    | none =>
      simp only [hp] at hdr h
      cases draw with
      | false => exact wp_region_list (aops_sound hT hS hK ops.toList nx sl H a w loc rfl hb hr h)
      | true => exact draw_sound hT hS hm w0 E ops.toList _ _ B nx sl H a w loc id (by simpa using hdr) hK hb hr h
    | some p =>
      simp only [hp, Bool.and_eq_true] at hdr h
      obtain ⟨hd1, hd2⟩ := hdr
      subst hd1
      exact drawF_sound hT hS hm hd2 hK hb hr h
  | seq x y ihx ihy =>
    intro Q σ a w hdr h hr
    refine wp_seq (wp_mono (ihx _ σ a w (by simp only [drawsOkF, Bool.and_eq_true] at hdr; exact hdr.1) h hr) ?_)
    rintro e a' w' ⟨σ', hr', hq⟩
    cases e with
    | normal => exact ihy Q σ' a' w' (by simp only [drawsOkF, Bool.and_eq_true] at hdr; exact hdr.2) hq hr'
    | _ => exact ⟨σ', hr', hq⟩
  | cond c x y ihx ihy =>
    intro Q σ a w hdr h hr
    simp only [awpF, csplit] at h
    simp only [drawsOkF, Bool.and_eq_true] at hdr
    obtain ⟨loc, hb, hr⟩ := hr
    split at h
    · rename_i t hc
      have hv := ev_R hr.slots c
      rw [hc] at hv
      have hv := hv.wv
      cases t with
      | true => exact wp_cond_true hv (ihx Q σ a w hdr.1 (h.1 rfl) ⟨loc, hb, hr⟩)
      | false => exact wp_cond_false hv (ihy Q σ a w hdr.2 (h.2 rfl) ⟨loc, hb, hr⟩)
    · exact h.elim
  | block id c ih =>
    intro Q σ a w hdr h hr
    refine wp_block (wp_mono (ih _ σ a w hdr h hr) ?_)
    rintro e a' w' ⟨σ', hr', hq⟩
    cases e with
    | exit id' =>
      simp only [blockK, Exit.inBlock] at hq ⊢
      split at hq
      · rename_i he; rw [if_pos he]; exact ⟨σ', hr', hq⟩
      · rename_i he; rw [if_neg he]; exact ⟨σ', hr', hq⟩
    | _ => exact ⟨σ', hr', hq⟩
  | loop c ih =>
    intro Q σ a w hdr h hr
    obtain ⟨I, ⟨n0, σ0, hw0, hI0⟩, hround⟩ := h
    let p : Act → World → Nat → Prop := fun a w n => ∃ σ, Rel w0 E B σ a w ∧ I n σ
    have hleast : ∀ a w, (∃ n, p a w n) → ∃ m, p a w m ∧ ∀ k, p a w k → m ≤ k := fun a w ⟨n, hn⟩ => let ⟨m, h1, _, h3⟩ := least n hn; ⟨m, h1, h3⟩
    let μ : Act → World → Nat := fun a w => if h : ∃ n, p a w n then Classical.choose (hleast a w h) else 0
    refine wp_loop (fun a w => ∃ n, p a w n) μ ⟨n0, σ0, hw0 w0 E B a w hr, hI0⟩ ?_
    intro a w hex
    have hμ : μ a w = Classical.choose (hleast a w hex) := dif_pos hex
    obtain ⟨⟨σ1, hr1, hI1⟩, hmin⟩ := Classical.choose_spec (hleast a w hex)
    rw [← hμ] at hI1
    refine wp_mono (ih _ σ1 a w hdr (hround _ σ1 hI1) hr1) ?_
    rintro e a' w' ⟨σ', hr', hq⟩
    cases e with
    | normal =>
      obtain ⟨m, σ2, hlt, hw2, hI2⟩ := hq
      have hp : p a' w' m := ⟨σ2, hw2 w0 E B a' w' hr', hI2⟩
      refine ⟨⟨m, hp⟩, ?_⟩
      have hμ' : μ a' w' = Classical.choose (hleast a' w' ⟨m, hp⟩) := dif_pos ⟨m, hp⟩
      have := (Classical.choose_spec (hleast a' w' ⟨m, hp⟩)).2 m hp
      rw [← hμ'] at this
      exact Nat.lt_of_le_of_lt this hlt
    | _ =>
      obtain ⟨σ2, hw2, hq⟩ := hq
      exact ⟨σ2, hw2 w0 E B a' w' hr', hq⟩
  | _ => intro Q σ a w hdr h hr; exact h.elim

theorem sound_gen0 {P : Program} {T : Types} {S : FSpecs} (hT : TOk P T) (hS : Fns P S) {f : FuncId} {fn : Func} {c : Code} (hf : P.funcs[f]? = some fn) (hb : fn.body = some c) {spec : FSpec} {Qp : List AV → List Blk → Exit → ASt → Prop}
    (hqp : ∀ xs pins e σ, Qp xs pins e σ → ∃ σ', Weak σ σ' ∧ Ends T fn.results.toList pins (spec xs pins) e σ')
    (h : ∀ xs pins, (spec xs pins).p → closedB pins = true → pins.length ≤ 4 ∧ ∀ w0 E B a w, Rel w0 E B ⟨xs ++ List.replicate (fn.ntmps - xs.length) .junk, pinHeap 0 pins, 4⟩ a w → c.wp P (Low w0 E B (Qp xs pins)) a w) : Sound P f spec := by
  intro xs pins hp hcl w bad pb vs hlen hnd hbad hlies hxl hx
  obtain ⟨hp4, h⟩ := h xs pins hp hcl
  refine calls_of_wp hf hb ?_
  have hrel : Rel w (· ∈ pb) ⟨bad, pb⟩ ⟨xs ++ List.replicate (fn.ntmps - xs.length) .junk, pinHeap 0 pins, 4⟩ { tmps := vs.toArray ++ Array.replicate (fn.ntmps - vs.toArray.size) undef, defers := [] } w := by
    refine ⟨locOf pb bad, ⟨⟨rfl, fun k hk cur e fz hh => ⟨cur, fz, hh, rfl⟩⟩, by simp only; omega, fun k hk => .inr ⟨by simp [locOf, List.getElem?_eq_getElem hk], fun cur e fz hh => ⟨cur, fz, hh, rfl⟩⟩⟩, ?_⟩
    refine ⟨by simp [hxl], fun t => ?_, ?_, ?_, ?_, rfl, fun id b hl => ?_⟩
    · simp only
      rw [slot_getD]
      by_cases ht : t < xs.length
      · have e1 : (xs ++ List.replicate (fn.ntmps - xs.length) AV.junk).getD t .junk = xs[t] := by simp [List.getElem?_append_left, ht]
        have e2 : (vs.toArray ++ Array.replicate (fn.ntmps - vs.toArray.size) undef).getD t undef = vs[t]'(by omega) := by
          have : t < vs.length := by omega
          simp [Array.getD_eq_getD_getElem?, Array.getElem?_append, this]
        rw [e1, e2]
        exact hx t ht _
      · have e1 : (xs ++ List.replicate (fn.ntmps - xs.length) AV.junk).getD t .junk = .junk := by
          rw [List.getD_eq_getElem?_getD, List.getElem?_append_right (by omega), List.getElem?_replicate]
          split <;> rfl
        rw [e1]; exact .junk _
    · intro id b hl
      obtain ⟨j, hj, rfl, rfl⟩ := pinHeap_look pins 0 id b hl
      have hj' : j < pb.length := by omega
      unfold BlkR
      have : (locOf pb bad).m (0 + j) = .here pb[j] := by simp [locOf, List.getElem?_eq_getElem hj']
      rw [this]
      exact hlies j hj hj'
    · refine ⟨rfl, rfl, rfl, Nat.le_refl _, fun _ _ _ => rfl, ?_, ?_, ?_⟩
      · intro i j b hi hj
        obtain ⟨h1, h2⟩ := locOf_at hi
        obtain ⟨h3, h4⟩ := locOf_at hj
        exact nodup_inj hnd (h2.trans h4.symm)
      · intro i b hi
        obtain ⟨h1, h2⟩ := locOf_at hi
        subst h2
        refine ⟨?_, .inr (List.getElem_mem h1)⟩
        obtain ⟨ob, hh⟩ := lies_live2 (hlies i (by omega) h1).2
        rcases Nat.lt_or_ge pb[i] w.heap.size with h' | h'
        · exact h'
        · rw [Array.getElem?_eq_none h'] at hh; cases hh
      · exact fun b hb => hbad b hb
    · intro id hid
      simp only at hid
      have : pb[id]? = none := List.getElem?_eq_none (by omega)
      simp [locOf, this]
    · obtain ⟨j, hj, rfl, _⟩ := pinHeap_look pins 0 id b hl
      simp; omega
  refine wp_mono (h _ _ _ _ w hrel) ?_
  have main : ∀ a w' σ, Rel w (· ∈ pb) ⟨bad, pb⟩ σ a w' → (rvals T σ.H σ.sl fn.results.toList).1 ∧ EndsX pins (spec xs pins) (rone (rvals T σ.H σ.sl fn.results.toList).2) σ →
      a.defers = [] ∧ ∃ v, (results fn a.tmps).run P w' = .ok v w' ∧ ∃ v' loc', Ending.returned v = .returned v' ∧ Gives w bad pb (spec xs pins) v' w' loc' := by
    rintro a w' σ ⟨loc, hB, hr⟩ ⟨hrv, hnodup, hpin, hbl, hren⟩
    obtain ⟨v, hv, hR⟩ := results_R (P := P) (fn := fn) hT hr.heap hr.slots hrv
    refine ⟨hr.defers, v, hv, v, ?_⟩
    generalize rone (rvals T σ.H σ.sl fn.results.toList).2 = x at hnodup hpin hbl hren hR
    have hnd' := nodup_iff hnodup
    obtain ⟨hids1, hids2⟩ := newIds_mem x.ids (upTo 0 pins)
    obtain ⟨hu1, hu2⟩ := upTo_get pins 0
    generalize hids : newIds (upTo 0 pins) x.ids = ids at hnodup hpin hbl hren hnd' hids1 hids2
    obtain ⟨hpl, hpc, hpg⟩ := pinsOf_get hpin
    rw [hbl] at hpl hpc hpg
    obtain ⟨t, rfl⟩ := hids1
    have hm : pins.length ≤ (upTo 0 pins ++ t).length := by simp [hu1]
    have hold : ∀ k, (hk : k < pins.length) → (upTo 0 pins ++ t)[k]'(by omega) = k := by
      intro k hk
      rw [List.getElem_append_left (by omega)]
      have := hu2 k (by omega)
      omega
    -- every one of the names is alive
    have hlive : ∀ (k : Nat) (hk : k < (upTo 0 pins ++ t).length), loc.m (upTo 0 pins ++ t)[k] ≠ .free := by
      intro k hk
      rcases hids2 _ (List.getElem_mem hk) with hi | hi
      · obtain ⟨j, hj, he⟩ := List.getElem_of_mem hi
        rw [← he, hu2 j hj]
        have hj' : j < pb.length := by omega
        rcases hB.2.2 j hj' with h1 | ⟨h1, _⟩
        · rw [Nat.zero_add, h1]; simp
        · rw [Nat.zero_add, h1]; simp
      · exact ids_live x v hR hi
    have hblk : ∀ (k : Nat) (hk : k < (upTo 0 pins ++ t).length) (hk' : k < (spec xs pins).bl.length), BlkR w' loc (upTo 0 pins ++ t)[k] (spec xs pins).bl[k] := by
      intro k hk hk'
      refine hr.heap _ _ ?_
      rw [hpg k hk, List.getElem?_eq_getElem hk']
    have hdead : ∀ (k : Nat) (hk : k < (upTo 0 pins ++ t).length), loc.m (upTo 0 pins ++ t)[k] ≠ .dead := by
      intro k hk e
      have := hblk k hk (by omega)
      unfold BlkR at this
      rw [e] at this
      exact this
    let g : Nat → Nat := gOf (upTo 0 pins ++ t) σ.nx
    have hgo : ∀ k, (hk : k < (upTo 0 pins ++ t).length) → g k = (upTo 0 pins ++ t)[k] := fun k hk => gOf_old hk
    have hgn : ∀ k, (upTo 0 pins ++ t).length ≤ k → loc.m (g k) = .free := by
      intro k hk
      refine hr.fresh _ ?_
      show σ.nx ≤ gOf _ σ.nx k
      rw [gOf_new hk]; omega
    let loc' : Loc := { m := fun k => loc.m (g k), bad := loc.bad }
    have hlt : ∀ i b, loc'.m i = .here b → i < (upTo 0 pins ++ t).length := by
      intro i b hi
      rcases Nat.lt_or_ge i (upTo 0 pins ++ t).length with h' | h'
      · exact h'
      · have : loc'.m i = .free := hgn i h'
        rw [this] at hi; cases hi
    have hinj : ∀ i j b, loc'.m i = .here b → loc'.m j = .here b → i = j := by
      intro i j b hi hj
      have h1 := hlt i b hi
      have h2 := hlt j b hj
      have h3 : g i = g j := hr.env.inj (g i) (g j) b hi hj
      rw [hgo i h1, hgo j h2] at h3
      exact nodup_inj hnd' h3
    have hpb : ∀ (k : Nat) (hk : k < pb.length), loc'.m k = .here pb[k] ∧ ∀ cur e fz, w.heap[pb[k]]? = some (.cells cur e fz) → ∃ cur' fz', w'.heap[pb[k]]? = some (.cells cur' e fz') ∧ cur'.size = cur.size := by
      intro k hk
      have hk1 : k < pins.length := by omega
      have e : loc'.m k = loc.m k := by
        show loc.m (g k) = loc.m k
        rw [hgo k (by omega), hold k hk1]
      rcases hB.2.2 k hk with h1 | ⟨h1, h2⟩
      · have := hdead k (by omega)
        rw [hold k hk1] at this
        exact (this h1).elim
      · exact ⟨e.trans h1, h2⟩
    refine ⟨loc', rfl, ?_⟩
    refine ⟨unren (loc2 := loc') (g := g) (fun _ => rfl) rfl hR _ hren, hB.1.1, ?_, fun k hk => (hpb k hk).1, ?_, ?_, hinj, ?_⟩
    · intro k hk
      have hk' : k < (upTo 0 pins ++ t).length := by omega
      have e : loc'.m k = loc.m (upTo 0 pins ++ t)[k] := by show loc.m (g k) = _; rw [hgo k hk']
      refine ⟨?_, by rw [e]; exact hlive k hk', by rw [e]; exact hdead k hk'⟩
      have hb := hblk k hk' hk
      unfold BlkR at hb ⊢
      rw [e]
      split
      · trivial
      · rename_i e'; rw [e'] at hb; exact hb
      · rename_i e'; rw [e'] at hb; exact hb
      · rename_i b e'
        rw [e'] at hb
        refine ⟨hb.1, lies_move hb.2 (closedB_get hpc k hk) (.inr ?_)⟩
        rintro c _ (h | ⟨i, h⟩)
        · exact .inl h
        · exact .inr ⟨g i, h⟩
    · intro k b hk hkb
      have := hr.env.lies (g k) b hkb
      refine ⟨?_, this.1⟩
      rcases this.2 with h' | h'
      · exact h'
      · obtain ⟨j, hj, he⟩ := List.getElem_of_mem h'
        have h1 := (hpb j hj).1
        rw [he] at h1
        have := hinj k j b hkb h1
        omega
    · intro k hk
      exact hgn k (by omega)
    · refine ⟨hr.env.os, hr.env.tape, hr.env.output, hr.env.size, hr.env.same, ?_⟩
      rintro b cur e fz hb hh
      obtain ⟨j, hj, rfl⟩ := List.getElem_of_mem hb
      exact (hpb j hj).2 cur e fz hh
  rintro e a w' ⟨σ0, hr0, hq0⟩
  obtain ⟨σ, hwk, hq⟩ := hqp xs pins e σ0 hq0
  have hr := hwk _ _ _ _ _ hr0
  cases e with
  | normal => exact main a w' σ hr hq
  | ret => exact main a w' σ hr hq
  | _ => exact hq.elim


theorem fn_soundF {P : Program} {T : Types} {S : FSpecs} {pl : Plan} (hm : P.follows .mixedOrders = true) (hT : TOk P T) (hS : Fns P S) {f : FuncId} {fn : Func} {c : Code} (hf : P.funcs[f]? = some fn) (hb : fn.body = some c) (hd : drawsOkF T pl c = true) {spec : FSpec}
    (h : ∀ xs pins, (spec xs pins).p → closedB pins = true → pins.length ≤ 4 ∧ awpF S T pl c (EndsW T fn.results.toList pins (spec xs pins)) ⟨xs ++ List.replicate (fn.ntmps - xs.length) .junk, pinHeap 0 pins, 4⟩) : Sound P f spec :=
  sound_gen0 hT hS hf hb (Qp := fun xs pins => EndsW T fn.results.toList pins (spec xs pins)) (fun _ _ _ _ h => h) (fun xs pins hp hc => ⟨(h xs pins hp hc).1, fun w0 E B a w hr => awpF_sound hm hT hS c _ _ _ _ hd (h xs pins hp hc).2 hr⟩)

/-- The same, held back. -/
def laterF (S : FSpecs) (T : Types) (pl : Plan) (b : Code) (Q : Exit → ASt → Prop) : Exit → ASt → Prop := seqK (awpF S T pl b Q) Q

section rules
variable {S : FSpecs} {T : Types} {pl : Plan} {Q : Exit → ASt → Prop} {σ : ASt}
theorem awpF_skip : awpF S T pl .skip Q σ = Q .normal σ := rfl
theorem awpF_label {l : Nat} : awpF S T pl (.label l) Q σ = Q .normal σ := rfl
theorem awpF_ret : awpF S T pl .ret Q σ = Q .ret σ := rfl
theorem awpF_exit {id : Nat} : awpF S T pl (.exit id) Q σ = Q (.exit id) σ := rfl
theorem awpF_region {id : Nat} {l : List Oper} {draw : Bool} : awpF S T pl (.region id l.toArray draw) Q σ = match pl id with
    | none => aops S T l σ.nx l σ.sl σ.H (regK (σ.nx + 8 * l.length) Q)
    | some p => aopsF S T l p σ.nx [] l σ.sl σ.H (regK (σ.nx + 8 * l.length) Q) := by
  simp [awpF]
theorem awpF_seq {a b : Code} : awpF S T pl (.seq a b) Q σ = awpF S T pl a (laterF S T pl b Q) σ := rfl
theorem awpF_block {id : Nat} {c : Code} : awpF S T pl (.block id c) Q σ = awpF S T pl c (blockK id Q) σ := rfl
theorem awpF_cond {c : Operand} {a b : Code} : awpF S T pl (.cond c a b) Q σ = match ev σ.sl c with
      | .w (.bool t) => csplit t (awpF S T pl a Q σ) (awpF S T pl b Q σ)
      | _ => False := rfl
theorem awpF_loopW {c : Code} (h : ALoop (awpF S T pl c) Q σ) : awpF S T pl (.loop c) Q σ := h
theorem laterF_normal {b : Code} : laterF S T pl b Q .normal σ = awpF S T pl b Q σ := rfl
theorem laterF_exit {b : Code} {id : Nat} : laterF S T pl b Q (.exit id) σ = Q (.exit id) σ := rfl
theorem laterF_ret {b : Code} : laterF S T pl b Q .ret σ = Q .ret σ := rfl
variable {ops r : List Oper} {o : Oper} {nm : Nat} {sl : List AV} {H : Heap} {Q' : List AV → Heap → Prop} {pp : List (Nat × Nat)} {acc : List (Nat × List Nat)}
theorem aopsF_nil : aopsF S T ops pp nm acc [] sl H Q' = (memOk pp acc = true ∧ Q' sl H) := rfl
theorem aopsF_plain {dst : Option Tmp} {op : Op} {type : TypeId} {pos : String} {after : Array Edge} : aopsF S T ops pp nm acc (⟨dst, op, type, pos, after, none⟩ :: r) sl H Q' =
    ((aopF S T nm sl op H).p ∧ aopsF S T ops pp (nm + 8) (acc ++ [(nm, foot sl op H)]) r (putSlot sl dst (aopF S T nm sl op H).x) (aopF S T nm sl op H).H Q') := rfl
theorem aopsF_guard {dst : Option Tmp} {op : Op} {type : TypeId} {pos : String} {after : Array Edge} {j : Nat} {want : Bool} : aopsF S T ops pp nm acc (⟨dst, op, type, pos, after, some (j, want)⟩ :: r) sl H Q' =
    match guardSlot ops j with
      | none => False
      | some d => match slot sl d with
        | .w (.bool b) =>
          gsplit b want ((aopF S T nm (setSlot sl d (.w (.bool want))) op H).p ∧
            aopsF S T ops pp (nm + 8) (acc ++ [(nm, foot (setSlot sl d (.w (.bool want))) op H)]) r (putSlot (setSlot sl d (.w (.bool want))) dst (aopF S T nm (setSlot sl d (.w (.bool want))) op H).x) (aopF S T nm (setSlot sl d (.w (.bool want))) op H).H Q')
          (aopsF S T ops pp (nm + 8) (acc ++ [(nm, [])]) r (putSlot (setSlot sl d (.w (.bool !want))) dst (.tup [])) H Q')
        | .tup [] => aopsF S T ops pp (nm + 8) (acc ++ [(nm, [])]) r (putSlot sl dst (.tup [])) H Q'
        | _ => False := rfl
end rules

end Ax
end Go.Proofs.Ytlbdhkgjhjcgiaa

namespace Go.Proofs.Ytlbdhkgjhjcgiaa
open Ax
/-- One name for all. -/
theorem evTP : (type_of% @awpF_skip) ∧
    (type_of% @awpF_label) ∧
    (type_of% @awpF_ret) ∧
    (type_of% @awpF_exit) ∧
    (type_of% @awpF_region) ∧
    (type_of% @awpF_seq) ∧
    (type_of% @awpF_block) ∧
    (type_of% @awpF_cond) ∧
    (type_of% @laterF_exit) ∧
    (type_of% @laterF_ret) ∧
    (type_of% @aopsF_nil) ∧
    (type_of% @aopsF_plain) ∧
    (type_of% @aopsF_guard) :=
  ⟨@awpF_skip, @awpF_label, @awpF_ret, @awpF_exit, @awpF_region, @awpF_seq, @awpF_block, @awpF_cond, @laterF_exit, @laterF_ret, @aopsF_nil, @aopsF_plain, @aopsF_guard⟩
/-- The evaluator, equation by equation. -/
theorem evDP : (type_of% @Ax.aopF.eq_1) ∧
    (type_of% @Ax.foot.eq_1) ∧
    (type_of% @Ax.footA.eq_1) ∧
    (type_of% @Ax.keepIn.eq_1) ∧
    (type_of% @Ax.keepIn.eq_2) ∧
    (type_of% @Ax.dropIn.eq_1) ∧
    (type_of% @Ax.dropIn.eq_2) ∧
    (type_of% @Ax.bids.eq_1) ∧
    (type_of% @Ax.bids.eq_2) ∧
    (type_of% @Ax.heldB.eq_1) ∧
    (type_of% @Ax.memOk.eq_1) ∧
    (type_of% @Ax.clearOf.eq_1) :=
  ⟨@Ax.aopF.eq_1, @Ax.foot.eq_1, @Ax.footA.eq_1, @Ax.keepIn.eq_1, @Ax.keepIn.eq_2, @Ax.dropIn.eq_1, @Ax.dropIn.eq_2, @Ax.bids.eq_1, @Ax.bids.eq_2, @Ax.heldB.eq_1, @Ax.memOk.eq_1, @Ax.clearOf.eq_1⟩
end Go.Proofs.Ytlbdhkgjhjcgiaa
