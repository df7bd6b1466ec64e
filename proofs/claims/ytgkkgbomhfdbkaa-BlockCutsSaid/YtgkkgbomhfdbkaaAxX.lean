/- From what is said of a function to what a law's shell asks. -/
import Derived.Test.YtgkkgbomhfdbkaaAxZ
import Derived.Below
namespace Go.Proofs.Ytgkkgbomhfdbkaa
namespace Ax
open Go.RowKit
set_option linter.unusedSimpArgs false
set_option linter.unusedVariables false

/-- Every region that draws its order may. -/
def drawsOk (T : Types) : Code → Bool
  | .region _ ops draw => !draw || drawOk T ops.toList
  | .seq a b => drawsOk T a && drawsOk T b
  | .cond _ a b => drawsOk T a && drawsOk T b
  | .block _ c => drawsOk T c
  | .loop c => drawsOk T c
  | _ => true

def undraw : Code → Code
  | .region id ops _ => .region id ops false
  | .seq a b => .seq (undraw a) (undraw b)
  | .cond c a b => .cond c (undraw a) (undraw b)
  | .block id c => .block id (undraw c)
  | .loop c => .loop (undraw c)
  | c => c

theorem aops_mono {S : FSpecs} {T : Types} {ops : List Oper} {Q Q' : List AV → Heap → Prop} (hq : ∀ sl H, Q sl H → Q' sl H) : ∀ (l : List Oper) (nm : Nat) (sl : List AV) (H : Heap), aops S T ops nm l sl H Q → aops S T ops nm l sl H Q'
  | [], nm, sl, H, h => hq sl H h
  | o :: r, nm, sl, H, h => by
    unfold aops at h ⊢
    cases hg : o.guard with
    | none => simp only [hg] at h ⊢; exact ⟨h.1, aops_mono hq r _ _ _ h.2⟩
    | some g =>
      obtain ⟨j, want⟩ := g
      simp only [hg] at h ⊢
      cases hs : guardSlot ops j with
      | none => simp [hs] at h
      | some d =>
        simp only [hs] at h ⊢
        split at h
        · exact ⟨fun e => ⟨(h.1 e).1, aops_mono hq r _ _ _ (h.1 e).2⟩, fun e => aops_mono hq r _ _ _ (h.2 e)⟩
        · exact aops_mono hq r _ _ _ h
        · exact h.elim

theorem rawp_mono {S : FSpecs} {T : Types} : ∀ (c : Code) (Q Q' : Exit → ASt → Prop) (σ : ASt), (∀ e σ, Q e σ → Q' e σ) → rawp S T c Q σ → rawp S T c Q' σ := by
  intro c
  induction c with
  | skip => intro Q Q' σ hq h; exact hq _ _ h
  | label l => intro Q Q' σ hq h; exact hq _ _ h
  | region id ops draw => intro Q Q' σ hq h; exact ⟨h.1, aops_mono (fun _ _ h => hq _ _ h) _ _ _ _ h.2⟩
  | seq a b iha ihb =>
    intro Q Q' σ hq h
    refine iha _ _ σ ?_ h
    intro e σ h
    cases e with
    | normal => exact ihb _ _ σ hq h
    | _ => exact hq _ _ h
  | cond c a b iha ihb =>
    intro Q Q' σ hq h
    simp only [rawp] at h ⊢
    split at h
    · exact ⟨fun e => iha _ _ σ hq (h.1 e), fun e => ihb _ _ σ hq (h.2 e)⟩
    · exact h.elim
  | block id c ih =>
    intro Q Q' σ hq h
    refine ih _ _ σ ?_ h
    intro e σ h
    cases e with
    | exit id' =>
      simp only [blockK] at h ⊢
      split at h
      · rename_i he; rw [if_pos he]; exact hq _ _ h
      · rename_i he; rw [if_neg he]; exact hq _ _ h
    | _ => exact hq _ _ h
  | loop c ih =>
    intro Q Q' σ hq h
    obtain ⟨I, hst, hr⟩ := h
    refine ⟨I, hst, fun n σ' hI => ih _ _ σ' ?_ (hr n σ' hI)⟩
    intro e σ h
    cases e with
    | normal => exact h
    | _ =>
      obtain ⟨σ2, hw, h⟩ := h
      exact ⟨σ2, hw, hq _ _ h⟩
  | exit id => intro Q Q' σ hq h; exact hq _ _ h
  | ret => intro Q Q' σ hq h; exact hq _ _ h
  | _ => intro Q Q' σ hq h; exact h.elim

theorem rawp_undraw {S : FSpecs} {T : Types} : ∀ (c : Code) (Q : Exit → ASt → Prop) (σ : ASt), drawsOk T c = true → rawp S T (undraw c) Q σ → rawp S T c Q σ := by
  intro c
  induction c with
  | region id ops draw =>
    intro Q σ hd h
    refine ⟨fun e => ?_, h.2⟩
    subst e
    simpa [drawsOk] using hd
  | seq a b iha ihb =>
    intro Q σ hd h
    simp only [drawsOk, Bool.and_eq_true] at hd
    refine iha _ σ hd.1 (rawp_mono _ _ _ σ ?_ h)
    intro e σ h
    cases e with
    | normal => exact ihb _ σ hd.2 h
    | _ => exact h
  | cond c a b iha ihb =>
    intro Q σ hd h
    simp only [drawsOk, Bool.and_eq_true] at hd
    simp only [undraw, rawp] at h ⊢
    split at h
    · exact ⟨fun e => iha _ σ hd.1 (h.1 e), fun e => ihb _ σ hd.2 (h.2 e)⟩
    · exact h.elim
  | block id c ih => intro Q σ hd h; exact ih _ σ hd h
  | loop c ih =>
    intro Q σ hd h
    obtain ⟨I, hst, hr⟩ := h
    exact ⟨I, hst, fun n σ' hI => ih _ σ' hd (hr n σ' hI)⟩
  | _ => intro Q σ hd h; exact h

def awp (S : FSpecs) (T : Types) (c : Code) (Q : Exit → ASt → Prop) (σ : ASt) : Prop := rawp S T (undraw c) Q σ

/-- The same, held back: what is asked of the code behind. -/
def later (S : FSpecs) (T : Types) (b : Code) (Q : Exit → ASt → Prop) : Exit → ASt → Prop := seqK (awp S T b Q) Q

section rules
variable {S : FSpecs} {T : Types} {Q : Exit → ASt → Prop} {σ : ASt}
theorem awp_skip : awp S T .skip Q σ = Q .normal σ := rfl
theorem awp_label {l : Nat} : awp S T (.label l) Q σ = Q .normal σ := rfl
theorem awp_ret : awp S T .ret Q σ = Q .ret σ := rfl
theorem awp_exit {id : Nat} : awp S T (.exit id) Q σ = Q (.exit id) σ := rfl
theorem awp_region {id : Nat} {l : List Oper} {draw : Bool} : awp S T (.region id l.toArray draw) Q σ = aops S T l σ.nx l σ.sl σ.H (regK (σ.nx + 8 * l.length) Q) := by
  simp [awp, rawp, undraw]
theorem awp_seq {a b : Code} : awp S T (.seq a b) Q σ = awp S T a (later S T b Q) σ := rfl
theorem awp_block {id : Nat} {c : Code} : awp S T (.block id c) Q σ = awp S T c (blockK id Q) σ := rfl
theorem awp_cond {c : Operand} {a b : Code} : awp S T (.cond c a b) Q σ = match ev σ.sl c with
      | .w (.bool t) => csplit t (awp S T a Q σ) (awp S T b Q σ)
      | _ => False := rfl
theorem awp_loopW {c : Code} (h : ALoop (awp S T c) Q σ) : awp S T (.loop c) Q σ := h
theorem awp_loop {c : Code} (h : ALoop0 (awp S T c) Q σ) : awp S T (.loop c) Q σ := by
  obtain ⟨I, hst, hr⟩ := h
  refine ⟨I, hst, fun n σ' hI => rawp_mono _ _ _ σ' ?_ (hr n σ' hI)⟩
  intro e σ h
  cases e with
  | normal => exact h
  | _ => exact ⟨σ, Weak.refl σ, h⟩
theorem later_normal {b : Code} : later S T b Q .normal σ = awp S T b Q σ := rfl
theorem later_exit {b : Code} {id : Nat} : later S T b Q (.exit id) σ = Q (.exit id) σ := rfl
theorem later_ret {b : Code} : later S T b Q .ret σ = Q .ret σ := rfl
theorem blockK_normal {id : Nat} : blockK id Q .normal σ = Q .normal σ := rfl
theorem blockK_ret {id : Nat} : blockK id Q .ret σ = Q .ret σ := rfl
theorem blockK_exit {id id' : Nat} : blockK id Q (.exit id') σ = if id' = id then Q .normal σ else Q (.exit id') σ := rfl
theorem regK_apply {nx : Nat} {sl : List AV} {H : Heap} : regK nx Q sl H = Q .normal ⟨sl, H, nx⟩ := rfl
variable {ops r : List Oper} {o : Oper} {nm : Nat} {sl : List AV} {H : Heap} {Q' : List AV → Heap → Prop}
theorem aops_nil : aops S T ops nm [] sl H Q' = Q' sl H := rfl
theorem aops_plain {dst : Option Tmp} {op : Op} {type : TypeId} {pos : String} {after : Array Edge} : aops S T ops nm (⟨dst, op, type, pos, after, none⟩ :: r) sl H Q' =
    ((aop S T nm sl op H).p ∧ aops S T ops (nm + 8) r (putSlot sl dst (aop S T nm sl op H).x) (aop S T nm sl op H).H Q') := rfl
theorem aops_guard {dst : Option Tmp} {op : Op} {type : TypeId} {pos : String} {after : Array Edge} {j : Nat} {want : Bool} : aops S T ops nm (⟨dst, op, type, pos, after, some (j, want)⟩ :: r) sl H Q' =
    match guardSlot ops j with
      | none => False
      | some d => match slot sl d with
        | .w (.bool b) =>
          gsplit b want ((aop S T nm (setSlot sl d (.w (.bool want))) op H).p ∧
            aops S T ops (nm + 8) r (putSlot (setSlot sl d (.w (.bool want))) dst (aop S T nm (setSlot sl d (.w (.bool want))) op H).x) (aop S T nm (setSlot sl d (.w (.bool want))) op H).H Q')
          (aops S T ops (nm + 8) r (putSlot (setSlot sl d (.w (.bool !want))) dst (.tup [])) H Q')
        | .tup [] => aops S T ops (nm + 8) r (putSlot sl dst (.tup [])) H Q'
        | _ => False := rfl
end rules


theorem fn_sound {P : Program} {T : Types} {S : FSpecs} (hm : P.follows .mixedOrders = true) (hT : TOk P T) (hS : Fns P S) {f : FuncId} {fn : Func} {c : Code} (hf : P.funcs[f]? = some fn) (hb : fn.body = some c) (hd : drawsOk T c = true) {spec : FSpec}
    (h : ∀ xs pins, (spec xs pins).p → closedB pins = true → pins.length ≤ 4 ∧ awp S T c (Ends T fn.results.toList pins (spec xs pins)) ⟨xs ++ List.replicate (fn.ntmps - xs.length) .junk, pinHeap 0 pins, 4⟩) : Sound P f spec :=
  sound_gen hT hS (draw_sound hT hS hm) hf hb (Qp := fun xs pins => Ends T fn.results.toList pins (spec xs pins)) (fun _ _ _ σ h => ⟨σ, Weak.refl σ, h⟩) (fun xs pins hp hc => ⟨(h xs pins hp hc).1, rawp_undraw _ _ _ hd (h xs pins hp hc).2⟩)

theorem fn_soundW {P : Program} {T : Types} {S : FSpecs} (hm : P.follows .mixedOrders = true) (hT : TOk P T) (hS : Fns P S) {f : FuncId} {fn : Func} {c : Code} (hf : P.funcs[f]? = some fn) (hb : fn.body = some c) (hd : drawsOk T c = true) {spec : FSpec}
    (h : ∀ xs pins, (spec xs pins).p → closedB pins = true → pins.length ≤ 4 ∧ awp S T c (EndsW T fn.results.toList pins (spec xs pins)) ⟨xs ++ List.replicate (fn.ntmps - xs.length) .junk, pinHeap 0 pins, 4⟩) : Sound P f spec :=
  sound_gen hT hS (draw_sound hT hS hm) hf hb (Qp := fun xs pins => EndsW T fn.results.toList pins (spec xs pins)) (fun _ _ _ _ h => h) (fun xs pins hp hc => ⟨(h xs pins hp hc).1, rawp_undraw _ _ _ hd (h xs pins hp hc).2⟩)

/-- The same types; no call by name is lent a slice of the caller's own. -/
def setFlat (T : Types) : Types := fun t =>
  match T t with
  | some i => some { i with flat := 1 }
  | none => none

theorem setFlat_ok {P : Program} {T : Types} (h : TOk P T) : TOk P (setFlat T) := by
  intro t i hi
  unfold setFlat at hi
  cases ht : T t with
  | none => rw [ht] at hi; cases hi
  | some j =>
    rw [ht] at hi
    injection hi with hi
    subst hi
    have := h t j ht
    exact ⟨this.d, this.info, this.eqs⟩

/-- The same; and texts are made of data alone that nobody writes. -/
def setCold (T : Types) : Types := fun t =>
  match T t with
  | some i => some { i with flat := 2 }
  | none => none

theorem setCold_ok {P : Program} {T : Types} (h : TOk P T) : TOk P (setCold T) := by
  intro t i hi
  unfold setCold at hi
  cases ht : T t with
  | none => rw [ht] at hi; cases hi
  | some j =>
    rw [ht] at hi
    injection hi with hi
    subst hi
    have := h t j ht
    exact ⟨this.d, this.info, this.eqs⟩

def none0 : Nat → Prop := fun _ => False
def loc0 : Loc := locOf [] none0

theorem law_run {P : Program} {f : FuncId} {spec : FSpec} (h : Sound P f spec) {xs : List AV} {vs : List Value} {w : World} (hp : (spec xs []).p) (hx : (spec xs []).x = .w (.bool true)) (hl : xs.length = vs.length)
    (hR : ∀ (j : Nat) (h : j < xs.length) (h' : j < vs.length), R w loc0 xs[j] vs[j]) : Calls P f vs.toArray w fun e w' => e = .returned (.bool true) ∧ Below w.heap.size w w' := by
  refine (h xs [] hp rfl w none0 [] vs rfl (by simp) (fun _ h => h.elim) (fun k h => by simp at h) hl hR).mono ?_
  rintro e w' ⟨v, loc', rfl, hg⟩
  have hr := hg.r
  rw [hx] at hr
  rw [hr.wv]
  refine ⟨rfl, hg.fram.os, hg.fram.tape, hg.fram.output, hg.fram.size, fun k hk => hg.fram.same k hk (by simp)⟩

end Ax
end Go.Proofs.Ytgkkgbomhfdbkaa
