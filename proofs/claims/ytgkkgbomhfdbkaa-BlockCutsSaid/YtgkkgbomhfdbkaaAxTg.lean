/- Code where some appends leave the elder slice. -/
import Derived.Test.YtgkkgbomhfdbkaaAxTf
import Derived.Test.YtgkkgbomhfdbkaaAxTd
namespace Go.Proofs.Ytgkkgbomhfdbkaa
namespace Ax
open Go.RowKit
set_option linter.unusedSimpArgs false
set_option linter.unusedVariables false

def aopsK (S : FSpecs) (T : Types) (ops : List Oper) : Nat → Nat → List Oper → List AV → Heap → (List AV → Heap → Prop) → Prop
  | _, _, [], sl, H, Q => Q sl H
  | 0, nm, o :: r, sl, H, Q => o.guard = none ∧ (keepA T sl o.op H).p ∧ aops S T ops (nm + 8) r (putSlot (fgL (keepA T sl o.op H).id (keepA T sl o.op H).s (keepA T sl o.op H).xs sl) o.dst (keepA T sl o.op H).x) (fgH (keepA T sl o.op H).id (keepA T sl o.op H).s (keepA T sl o.op H).xs H) Q
  | k + 1, nm, o :: r, sl, H, Q => o.guard = none ∧ (aop S T nm sl o.op H).p ∧ aopsK S T ops k (nm + 8) r (putSlot sl o.dst (aop S T nm sl o.op H).x) (aop S T nm sl o.op H).H Q

theorem aopsK_sound {P : Program} {w0 : World} {E : Nat → Prop} {T : Types} {S : FSpecs} (hT : TOk P T) (hS : Fns P S) {ops : Array Oper} {K : Exit → Act → World → Prop} {Q : List AV → Heap → Prop} {B : Bs} {nz : Nat}
    (hK : ∀ sl H a w loc, Base w0 B w loc → Rel' w0 E loc ⟨sl, H, nz⟩ a w → Q sl H → K .normal a w) : ∀ (k : Nat) (r : List Oper) (nm : Nat) (sl : List AV) (H : Heap) (a : Act) (w : World) (loc : Loc), nz = nm + 8 * r.length → Base w0 B w loc →
    Rel' w0 E loc ⟨sl, H, nm⟩ a w → aopsK S T ops.toList k nm r sl H Q → wpList P ops K r a w
  | k, [], nm, sl, H, a, w, loc, hz, hb, hr, h => by
    simp only [List.length_nil, Nat.mul_zero, Nat.add_zero] at hz
    subst hz
    exact wpList_nil (hK sl H a w loc hb hr (by cases k <;> exact h))
  | 0, o :: r, nm, sl, H, a, w, loc, hz, hb, hr, h => by
    have hz' : nz = nm + 8 + 8 * r.length := by simp at hz; omega
    obtain ⟨hg, hp, hrest⟩ := h
    refine wpList_step fun Kn hKn => ?_
    rw [if_pos (by simp [Region.wanted, hg])]
    exact keep_step hT hb hr o hp Kn K (fun a' w' loc' hB hR => hKn _ _ (aops_sound (ops := ops) hT hS hK r (nm + 8) _ _ a' w' loc' hz' hB hR hrest))
  | k + 1, o :: r, nm, sl, H, a, w, loc, hz, hb, hr, h => by
    have hz' : nz = nm + 8 + 8 * r.length := by simp at hz; omega
    obtain ⟨hg, hp, hrest⟩ := h
    refine wpList_step fun Kn hKn => ?_
    rw [if_pos (by simp [Region.wanted, hg])]
    have hop := aop_sound hT hS hr.env hr.heap (fun id h1 _ => hr.fresh id h1) o (fun x _ => ev_R hr.slots x) hp
    exact hop Kn K (fun v w' loc' hpost => hKn _ _ (aopsK_sound hT hS hK k r (nm + 8) _ _ _ w' loc' hz' (hb.post hpost) (rel_post hr hpost (hnew_aop hp) o.dst) hrest))

/-- A slot's own block is told as data. -/
def frzS (i : Nat) (q : Prop × List AV × Heap) : Prop × List AV × Heap :=
  match slot q.2.1 i with
  | .ms id _ _ _ => match look q.2.2 id with
    | some (.b bs) => (q.1, fzL id bs q.2.1, fzH id bs q.2.2)
    | some (.g s xs) => (q.1 ∧ closedL xs = true, fgL id s xs q.2.1, fgH id s xs q.2.2)
    | _ => (False, [], [])
  | _ => (False, [], [])
def frzL : List Nat → Prop × List AV × Heap → Prop × List AV × Heap
  | [], q => q
  | i :: r, q => frzL r (frzS i q)
def frzK (l : List Nat) (sl : List AV) (H : Heap) (K : List AV → Heap → Prop) : Prop := (frzL l (True, sl, H)).1 ∧ K (frzL l (True, sl, H)).2.1 (frzL l (True, sl, H)).2.2
theorem frzS_sound {i : Nat} {q : Prop × List AV × Heap} {nx : Nat} (h : (frzS i q).1) : q.1 ∧ Weak ⟨q.2.1, q.2.2, nx⟩ ⟨(frzS i q).2.1, (frzS i q).2.2, nx⟩ := by
  unfold frzS at h ⊢
  split at h
  · rename_i id s off len hs
    split at h
    · rename_i bs hl
      exact ⟨h, weak_fz id i bs hl (by rw [hs]; simp [AV.ids])⟩
    · rename_i s' xs hl
      exact ⟨h.1, weak_fg id s' i xs hl h.2 (by rw [hs]; simp [AV.ids])⟩
    · exact h.elim
  · exact h.elim
theorem frzL_sound {nx : Nat} : ∀ (l : List Nat) (q : Prop × List AV × Heap), (frzL l q).1 → q.1 ∧ Weak ⟨q.2.1, q.2.2, nx⟩ ⟨(frzL l q).2.1, (frzL l q).2.2, nx⟩
  | [], q, h => ⟨h, Weak.refl _⟩
  | i :: r, q, h => by
    obtain ⟨h1, h2⟩ := frzL_sound (nx := nx) r _ h
    obtain ⟨h3, h4⟩ := frzS_sound (nx := nx) h1
    exact ⟨h3, h4.trans h2⟩
theorem frzK_sound {nx : Nat} (l : List Nat) (sl : List AV) (H : Heap) (K : List AV → Heap → Prop) (h : frzK l sl H K) : ∃ sl' H', Weak ⟨sl, H, nx⟩ ⟨sl', H', nx⟩ ∧ K sl' H' :=
  ⟨_, _, (frzL_sound l _ h.1).2, h.2⟩

/-- For a region's number: the slots whose blocks are told as data ahead of it; the place of the append whose elder slice stays. -/
abbrev KPlan := Nat → Option (List Nat × Option Nat)

def drawsOkK (T : Types) (pl : KPlan) : Code → Bool
  | .region id ops draw => match pl id with
    | none => !draw || drawOk T ops.toList
    | some (_, none) => !draw || drawOk T ops.toList
    | some (_, some _) => !draw
  | .seq a b => drawsOkK T pl a && drawsOkK T pl b
  | .cond _ a b => drawsOkK T pl a && drawsOkK T pl b
  | .block _ c => drawsOkK T pl c
  | .loop c => drawsOkK T pl c
  | _ => true

def awpK (S : FSpecs) (T : Types) (pl : KPlan) : Code → (Exit → ASt → Prop) → ASt → Prop
  | .skip, Q, σ => Q .normal σ
  | .label _, Q, σ => Q .normal σ
  | .region id ops _, Q, σ => match pl id with
    | none => aops S T ops.toList σ.nx ops.toList σ.sl σ.H (regK (σ.nx + 8 * ops.toList.length) Q)
    | some (fs, none) => frzK fs σ.sl σ.H (fun sl H => aops S T ops.toList σ.nx ops.toList sl H (regK (σ.nx + 8 * ops.toList.length) Q))
    | some (fs, some k) => frzK fs σ.sl σ.H (fun sl H => aopsK S T ops.toList k σ.nx ops.toList sl H (regK (σ.nx + 8 * ops.toList.length) Q))
  | .seq a b, Q, σ => awpK S T pl a (seqK (awpK S T pl b Q) Q) σ
  | .cond c a b, Q, σ => match ev σ.sl c with
      | .w (.bool t) => csplit t (awpK S T pl a Q σ) (awpK S T pl b Q σ)
      | _ => False
  | .block id c, Q, σ => awpK S T pl c (blockK id Q) σ
  | .loop c, Q, σ => ALoop (awpK S T pl c) Q σ
  | .exit id, Q, σ => Q (.exit id) σ
  | .ret, Q, σ => Q .ret σ
  | _, _, _ => False

open Classical in
theorem awpK_sound {P : Program} {w0 : World} {E : Nat → Prop} {T : Types} {S : FSpecs} {pl : KPlan} (hm : P.follows .mixedOrders = true) (hT : TOk P T) (hS : Fns P S) {B : Bs} : ∀ (c : Code) (Q : Exit → ASt → Prop) (σ : ASt) (a : Act) (w : World),
    drawsOkK T pl c = true → awpK S T pl c Q σ → Rel w0 E B σ a w → c.wp P (Low w0 E B Q) a w := by
  intro c
  induction c with
  | skip => intro Q σ a w hdr h hr; exact wp_skip ⟨σ, hr, h⟩
  | label l => intro Q σ a w hdr h hr; exact wp_label ⟨σ, hr, h⟩
  | ret => intro Q σ a w hdr h hr; exact wp_ret ⟨σ, hr, h⟩
  | exit id => intro Q σ a w hdr h hr; exact wp_exit ⟨σ, hr, h⟩
  | region id ops draw =>
    intro Q σ a w hdr h hr
    obtain ⟨loc, hb, hr⟩ := hr
    obtain ⟨sl, H, nx⟩ := σ
    have hK : ∀ sl H a w loc, Base w0 B w loc → Rel' w0 E loc ⟨sl, H, nx + 8 * ops.toList.length⟩ a w → regK (nx + 8 * ops.toList.length) Q sl H → Low w0 E B Q .normal a w := fun sl H a w loc h1 h2 h3 => ⟨_, ⟨loc, h1, h2⟩, h3⟩
    simp only [drawsOkK] at hdr
    simp only [awpK] at h
    cases hp : pl id with
    | none =>
      simp only [hp] at hdr h
      cases draw with
      | false => exact wp_region_list (aops_sound hT hS hK ops.toList nx sl H a w loc rfl hb hr h)
      | true => exact draw_sound hT hS hm w0 E ops.toList _ _ B nx sl H a w loc id (by simpa using hdr) hK hb hr h
    | some p =>
      obtain ⟨fs, kk⟩ := p
      cases kk with
      | none =>
        simp only [hp] at hdr h
        obtain ⟨sl', H', hw, h⟩ := frzK_sound (nx := nx) _ _ _ _ h
        obtain ⟨loc', hb', hr'⟩ := hw _ _ _ _ _ ⟨loc, hb, hr⟩
        cases draw with
        | false => exact wp_region_list (aops_sound hT hS hK ops.toList nx sl' H' a w loc' rfl hb' hr' h)
        | true => exact draw_sound hT hS hm w0 E ops.toList _ _ B nx sl' H' a w loc' id (by simpa using hdr) hK hb' hr' h
      | some k =>
        simp only [hp] at hdr h
        obtain ⟨sl', H', hw, h⟩ := frzK_sound (nx := nx) _ _ _ _ h
        obtain ⟨loc', hb', hr'⟩ := hw _ _ _ _ _ ⟨loc, hb, hr⟩
        cases draw with
        | false => exact wp_region_list (aopsK_sound hT hS hK k ops.toList nx sl' H' a w loc' rfl hb' hr' h)
        | true => simp at hdr
  | seq x y ihx ihy =>
    intro Q σ a w hdr h hr
    refine wp_seq (wp_mono (ihx _ σ a w (by simp only [drawsOkK, Bool.and_eq_true] at hdr; exact hdr.1) h hr) ?_)
    rintro e a' w' ⟨σ', hr', hq⟩
    cases e with
    | normal => exact ihy Q σ' a' w' (by simp only [drawsOkK, Bool.and_eq_true] at hdr; exact hdr.2) hq hr'
    | _ => exact ⟨σ', hr', hq⟩
  | cond c x y ihx ihy =>
    intro Q σ a w hdr h hr
    simp only [awpK, csplit] at h
    simp only [drawsOkK, Bool.and_eq_true] at hdr
    obtain ⟨loc, hb, hr⟩ := hr
    split at h
    · rename_i t hc
      have hv := ev_R hr.slots c
      rw [hc] at hv
      have hv := hv.wv
      cases t with
      | true => exact wp_cond_true hv (ihx Q σ a w hdr.1 (h.1 rfl) ⟨loc, hb, hr⟩)
      | false => exact wp_cond_false hv (ihy Q σ a w hdr.2 (h.2 rfl) ⟨loc, hb, hr⟩)
    · exact h.elim
  | block id c ih =>
    intro Q σ a w hdr h hr
    refine wp_block (wp_mono (ih _ σ a w hdr h hr) ?_)
    rintro e a' w' ⟨σ', hr', hq⟩
    cases e with
    | exit id' =>
      simp only [blockK, Exit.inBlock] at hq ⊢
      split at hq
      · rename_i he; rw [if_pos he]; exact ⟨σ', hr', hq⟩
      · rename_i he; rw [if_neg he]; exact ⟨σ', hr', hq⟩
    | _ => exact ⟨σ', hr', hq⟩
  | loop c ih =>
    intro Q σ a w hdr h hr
    obtain ⟨I, ⟨n0, σ0, hw0, hI0⟩, hround⟩ := h
    let p : Act → World → Nat → Prop := fun a w n => ∃ σ, Rel w0 E B σ a w ∧ I n σ
    have hleast : ∀ a w, (∃ n, p a w n) → ∃ m, p a w m ∧ ∀ k, p a w k → m ≤ k := fun a w ⟨n, hn⟩ => let ⟨m, h1, _, h3⟩ := least n hn; ⟨m, h1, h3⟩
    let μ : Act → World → Nat := fun a w => if h : ∃ n, p a w n then Classical.choose (hleast a w h) else 0
    refine wp_loop (fun a w => ∃ n, p a w n) μ ⟨n0, σ0, hw0 w0 E B a w hr, hI0⟩ ?_
    intro a w hex
    have hμ : μ a w = Classical.choose (hleast a w hex) := dif_pos hex
    obtain ⟨⟨σ1, hr1, hI1⟩, hmin⟩ := Classical.choose_spec (hleast a w hex)
    rw [← hμ] at hI1
    refine wp_mono (ih _ σ1 a w hdr (hround _ σ1 hI1) hr1) ?_
    rintro e a' w' ⟨σ', hr', hq⟩
    cases e with
    | normal =>
      obtain ⟨m, σ2, hlt, hw2, hI2⟩ := hq
      have hp : p a' w' m := ⟨σ2, hw2 w0 E B a' w' hr', hI2⟩
      refine ⟨⟨m, hp⟩, ?_⟩
      have hμ' : μ a' w' = Classical.choose (hleast a' w' ⟨m, hp⟩) := dif_pos ⟨m, hp⟩
      have := (Classical.choose_spec (hleast a' w' ⟨m, hp⟩)).2 m hp
      rw [← hμ'] at this
      exact Nat.lt_of_le_of_lt this hlt
    | _ =>
      obtain ⟨σ2, hw2, hq⟩ := hq
      exact ⟨σ2, hw2 w0 E B a' w' hr', hq⟩
  | _ => intro Q σ a w hdr h hr; exact h.elim


theorem fn_soundK {P : Program} {T : Types} {S : FSpecs} {pl : KPlan} (hm : P.follows .mixedOrders = true) (hT : TOk P T) (hS : Fns P S) {f : FuncId} {fn : Func} {c : Code} (hf : P.funcs[f]? = some fn) (hb : fn.body = some c) (hd : drawsOkK T pl c = true) {spec : FSpec}
    (h : ∀ xs pins, (spec xs pins).p → closedB pins = true → pins.length ≤ 4 ∧ awpK S T pl c (EndsW T fn.results.toList pins (spec xs pins)) ⟨xs ++ List.replicate (fn.ntmps - xs.length) .junk, pinHeap 0 pins, 4⟩) : Sound P f spec :=
  sound_gen0 hT hS hf hb (Qp := fun xs pins => EndsW T fn.results.toList pins (spec xs pins)) (fun _ _ _ _ h => h) (fun xs pins hp hc => ⟨(h xs pins hp hc).1, fun w0 E B a w hr => awpK_sound hm hT hS c _ _ _ _ hd (h xs pins hp hc).2 hr⟩)

/-- The same, held back. -/
def laterK (S : FSpecs) (T : Types) (pl : KPlan) (b : Code) (Q : Exit → ASt → Prop) : Exit → ASt → Prop := seqK (awpK S T pl b Q) Q

section rules
variable {S : FSpecs} {T : Types} {pl : KPlan} {Q : Exit → ASt → Prop} {σ : ASt}
theorem awpK_skip : awpK S T pl .skip Q σ = Q .normal σ := rfl
theorem awpK_label {l : Nat} : awpK S T pl (.label l) Q σ = Q .normal σ := rfl
theorem awpK_ret : awpK S T pl .ret Q σ = Q .ret σ := rfl
theorem awpK_exit {id : Nat} : awpK S T pl (.exit id) Q σ = Q (.exit id) σ := rfl
theorem awpK_region {id : Nat} {l : List Oper} {draw : Bool} : awpK S T pl (.region id l.toArray draw) Q σ = match pl id with
    | none => aops S T l σ.nx l σ.sl σ.H (regK (σ.nx + 8 * l.length) Q)
    | some (fs, none) => frzK fs σ.sl σ.H (fun sl H => aops S T l σ.nx l sl H (regK (σ.nx + 8 * l.length) Q))
    | some (fs, some k) => frzK fs σ.sl σ.H (fun sl H => aopsK S T l k σ.nx l sl H (regK (σ.nx + 8 * l.length) Q)) := by
  simp [awpK]
theorem awpK_seq {a b : Code} : awpK S T pl (.seq a b) Q σ = awpK S T pl a (laterK S T pl b Q) σ := rfl
theorem awpK_block {id : Nat} {c : Code} : awpK S T pl (.block id c) Q σ = awpK S T pl c (blockK id Q) σ := rfl
theorem awpK_cond {c : Operand} {a b : Code} : awpK S T pl (.cond c a b) Q σ = match ev σ.sl c with
      | .w (.bool t) => csplit t (awpK S T pl a Q σ) (awpK S T pl b Q σ)
      | _ => False := rfl
theorem awpK_loopW {c : Code} (h : ALoop (awpK S T pl c) Q σ) : awpK S T pl (.loop c) Q σ := h
theorem laterK_normal {b : Code} : laterK S T pl b Q .normal σ = awpK S T pl b Q σ := rfl
theorem laterK_exit {b : Code} {id : Nat} : laterK S T pl b Q (.exit id) σ = Q (.exit id) σ := rfl
theorem laterK_ret {b : Code} : laterK S T pl b Q .ret σ = Q .ret σ := rfl
variable {ops r : List Oper} {o : Oper} {nm k : Nat} {sl : List AV} {H : Heap} {Q' : List AV → Heap → Prop}
/-- What an append whose elder slice stays leaves. -/
def keepK (q : KOut) (sl : List AV) (dst : Option Tmp) (H : Heap) (K : List AV → Heap → Prop) : Prop := q.p ∧ K (putSlot (fgL q.id q.s q.xs sl) dst q.x) (fgH q.id q.s q.xs H)
theorem aopsK_zero {dst : Option Tmp} {op : Op} {type : TypeId} {pos : String} {after : Array Edge} : aopsK S T ops 0 nm (⟨dst, op, type, pos, after, none⟩ :: r) sl H Q' =
    keepK (keepA T sl op H) sl dst H (fun sl' H' => aops S T ops (nm + 8) r sl' H' Q') := by
  simp [aopsK, keepK]
theorem frzK_def {l : List Nat} {K : List AV → Heap → Prop} : frzK l sl H K = ((frzL l (True, sl, H)).1 ∧ K (frzL l (True, sl, H)).2.1 (frzL l (True, sl, H)).2.2) := rfl
theorem keepK_def {q : KOut} {dst : Option Tmp} {K : List AV → Heap → Prop} : keepK q sl dst H K = (q.p ∧ K (putSlot (fgL q.id q.s q.xs sl) dst q.x) (fgH q.id q.s q.xs H)) := rfl
theorem keepK_mk {p : Prop} {x : AV} {id s : Nat} {xs : List AV} {sl : List AV} {dst : Option Tmp} {H : Heap} {K : List AV → Heap → Prop} : keepK ⟨p, x, id, s, xs⟩ sl dst H K = (p ∧ K (putSlot (fgL id s xs sl) dst x) (fgH id s xs H)) := rfl
theorem aopsK_succ {dst : Option Tmp} {op : Op} {type : TypeId} {pos : String} {after : Array Edge} : aopsK S T ops (k + 1) nm (⟨dst, op, type, pos, after, none⟩ :: r) sl H Q' =
    ((aop S T nm sl op H).p ∧ aopsK S T ops k (nm + 8) r (putSlot sl dst (aop S T nm sl op H).x) (aop S T nm sl op H).H Q') := by
  simp [aopsK]
end rules

end Ax
end Go.Proofs.Ytgkkgbomhfdbkaa
