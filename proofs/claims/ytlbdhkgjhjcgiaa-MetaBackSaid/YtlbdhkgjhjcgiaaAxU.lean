/- A loop that is gone through a known number of times, round by round. -/
import Derived.Test.YtlbdhkgjhjcgiaaAxOm
namespace Go.Proofs.Ytlbdhkgjhjcgiaa
namespace Ax
set_option linter.unusedSimpArgs false
set_option linter.unusedVariables false

theorem aopsF_mono {S : FSpecs} {T : Types} {ops : List Oper} {pl : List (Nat × Nat)} {Q Q' : List AV → Heap → Prop} (hq : ∀ sl H, Q sl H → Q' sl H) : ∀ (l : List Oper) (nm : Nat) (acc : List (Nat × List Nat)) (sl : List AV) (H : Heap), aopsF S T ops pl nm acc l sl H Q → aopsF S T ops pl nm acc l sl H Q'
  | [], nm, acc, sl, H, h => ⟨h.1, hq sl H h.2⟩
  | o :: r, nm, acc, sl, H, h => by
    unfold aopsF at h ⊢
    cases hg : o.guard with
    | none => simp only [hg] at h ⊢; exact ⟨h.1, aopsF_mono hq r _ _ _ _ h.2⟩
    | some g =>
      obtain ⟨j, want⟩ := g
      simp only [hg] at h ⊢
      cases hs : guardSlot ops j with
      | none => simp [hs] at h
      | some d =>
        simp only [hs] at h ⊢
        split at h
        · exact ⟨fun e => ⟨(h.1 e).1, aopsF_mono hq r _ _ _ _ (h.1 e).2⟩, fun e => aopsF_mono hq r _ _ _ _ (h.2 e)⟩
        · exact aopsF_mono hq r _ _ _ _ h
        · exact h.elim
theorem aopsO_mono {S SO : FSpecs} {T : Types} {ops : List Oper} {Q Q' : List AV → Heap → Prop} (hq : ∀ sl H, Q sl H → Q' sl H) : ∀ (k nm : Nat) (l : List Oper) (sl : List AV) (H : Heap), aopsO S SO T ops k nm l sl H Q → aopsO S SO T ops k nm l sl H Q'
  | k, nm, [], sl, H, h => by unfold aopsO at h ⊢; exact hq _ _ h
  | 0, nm, o :: r, sl, H, h => by unfold aopsO at h ⊢; exact ⟨h.1, h.2.1, aops_mono hq _ _ _ _ h.2.2⟩
  | k + 1, nm, o :: r, sl, H, h => by unfold aopsO at h ⊢; exact ⟨h.1, h.2.1, aopsO_mono hq k _ r _ _ h.2.2⟩
theorem specOp_mono {T : Types} {sl : List AV} {op : Op} {K K' : AV → Prop} (hk : ∀ x, K x → K' x) (h : specOp T sl op K) : specOp T sl op K' := by
  unfold specOp at h ⊢
  repeat' split at h
  all_goals first
    | exact h.elim
    | simp_all
theorem aopsT_mono {S : FSpecs} {T : Types} {ops : List Oper} {Q Q' : List AV → Heap → Prop} (hq : ∀ sl H, Q sl H → Q' sl H) : ∀ (k : List Bool) (nm : Nat) (l : List Oper) (sl : List AV) (H : Heap), aopsT S T ops k nm l sl H Q → aopsT S T ops k nm l sl H Q'
  | k, nm, [], sl, H, h => by unfold aopsT at h ⊢; exact hq _ _ h
  | [], nm, o :: r, sl, H, h => by unfold aopsT at h ⊢; exact aops_mono hq _ _ _ _ h
  | true :: k, nm, o :: r, sl, H, h => by unfold aopsT at h ⊢; exact ⟨h.1, specOp_mono (fun x hx => aopsT_mono hq k _ r _ _ hx) h.2⟩
  | false :: k, nm, o :: r, sl, H, h => by unfold aopsT at h ⊢; exact ⟨h.1, h.2.1, aopsT_mono hq k _ r _ _ h.2.2⟩
theorem frzK_mono {l : List Nat} {sl : List AV} {H : Heap} {K K' : List AV → Heap → Prop} (hk : ∀ sl H, K sl H → K' sl H) (h : frzK l sl H K) : frzK l sl H K' := ⟨h.1, hk _ _ h.2⟩
theorem awpO_mono {S SO : FSpecs} {T : Types} {pl : XPlan} : ∀ (c : Code) (Q Q' : Exit → ASt → Prop) (σ : ASt), (∀ e σ, Q e σ → Q' e σ) → awpO S SO T pl c Q σ → awpO S SO T pl c Q' σ := by
  intro c
  induction c with
  | skip => intro Q Q' σ hq h; exact hq _ _ h
  | label l => intro Q Q' σ hq h; exact hq _ _ h
  | region id ops draw =>
    intro Q Q' σ hq h
    simp only [awpO] at h ⊢
    split at h
    · exact aops_mono (fun _ _ h => hq _ _ h) _ _ _ _ h
    · exact aopsF_mono (fun _ _ h => hq _ _ h) _ _ _ _ _ h
    · exact frzK_mono (fun _ _ h => aops_mono (fun _ _ h => hq _ _ h) _ _ _ _ h) h
    · exact frzK_mono (fun _ _ h => aopsO_mono (fun _ _ h => hq _ _ h) _ _ _ _ _ h) h
    · exact aopsT_mono (fun _ _ h => hq _ _ h) _ _ _ _ _ h
  | seq a b iha ihb =>
    intro Q Q' σ hq h
    refine iha _ _ σ ?_ h
    intro e σ h
    cases e with
    | normal => exact ihb _ _ σ hq h
    | _ => exact hq _ _ h
  | cond c a b iha ihb =>
    intro Q Q' σ hq h
    simp only [awpO] at h ⊢
    split at h
    · exact ⟨fun e => iha _ _ σ hq (h.1 e), fun e => ihb _ _ σ hq (h.2 e)⟩
    · exact h.elim
  | block id c ih =>
    intro Q Q' σ hq h
    refine ih _ _ σ ?_ h
    intro e σ h
    cases e with
    | exit id' =>
      simp only [blockK] at h ⊢
      split at h
      · rename_i he; rw [if_pos he]; exact hq _ _ h
      · rename_i he; rw [if_neg he]; exact hq _ _ h
    | _ => exact hq _ _ h
  | loop c ih =>
    intro Q Q' σ hq h
    obtain ⟨I, hst, hr⟩ := h
    refine ⟨I, hst, fun n σ' hI => ih _ _ σ' ?_ (hr n σ' hI)⟩
    intro e σ h
    cases e with
    | normal => exact h
    | _ =>
      obtain ⟨σ2, hw, h⟩ := h
      exact ⟨σ2, hw, hq _ _ h⟩
  | exit id => intro Q Q' σ hq h; exact hq _ _ h
  | ret => intro Q Q' σ hq h; exact hq _ _ h
  | _ => intro Q Q' σ hq h; exact h.elim

/-- What is asked at a round's end: one round fewer, or what is asked behind. -/
def unK (A : ASt → Prop) (Q : Exit → ASt → Prop) (e : Exit) (σ : ASt) : Prop := match e with
  | .normal => A σ
  | e => Q e σ
/-- So many rounds at most. -/
def unr (f : (Exit → ASt → Prop) → ASt → Prop) (Q : Exit → ASt → Prop) : Nat → ASt → Prop
  | 0, _ => False
  | n + 1, σ => f (unK (unr f Q n) Q) σ
theorem aloop_unr {f : (Exit → ASt → Prop) → ASt → Prop} {Q : Exit → ASt → Prop} (mono : ∀ (Q Q' : Exit → ASt → Prop) (σ : ASt), (∀ e σ, Q e σ → Q' e σ) → f Q σ → f Q' σ) (n : Nat) (σ : ASt) (h : unr f Q n σ) : ALoop f Q σ := by
  refine ⟨fun k τ => unr f Q k τ, ⟨n, σ, Weak.refl _, h⟩, ?_⟩
  intro k τ hI
  cases k with
  | zero => exact hI.elim
  | succ k =>
    refine mono _ _ τ ?_ hI
    intro e σ1 h1
    cases e with
    | normal => exact ⟨k, σ1, Nat.lt_succ_self k, Weak.refl _, h1⟩
    | _ => exact ⟨σ1, Weak.refl _, h1⟩
theorem awp_unr {S : FSpecs} {T : Types} {c : Code} {Q : Exit → ASt → Prop} {σ : ASt} (n : Nat) (h : unr (awp S T c) Q n σ) : awp S T (.loop c) Q σ :=
  awp_loopW (aloop_unr (fun Q Q' σ hq h => rawp_mono _ Q Q' σ hq h) n σ h)
theorem awpO_unr {S SO : FSpecs} {T : Types} {pl : XPlan} {c : Code} {Q : Exit → ASt → Prop} {σ : ASt} (n : Nat) (h : unr (awpO S SO T pl c) Q n σ) : awpO S SO T pl (.loop c) Q σ :=
  awpO_loopW (aloop_unr (fun Q Q' σ hq h => awpO_mono _ Q Q' σ hq h) n σ h)
theorem unr_go {S : FSpecs} {T : Types} {c : Code} {Q : Exit → ASt → Prop} {σ : ASt} {n : Nat} : unr (awp S T c) Q (n + 1) σ = awp S T c (unK (unr (awp S T c) Q n) Q) σ := rfl
theorem unrO_go {S SO : FSpecs} {T : Types} {pl : XPlan} {c : Code} {Q : Exit → ASt → Prop} {σ : ASt} {n : Nat} : unr (awpO S SO T pl c) Q (n + 1) σ = awpO S SO T pl c (unK (unr (awpO S SO T pl c) Q n) Q) σ := rfl
theorem unK_normal {A : ASt → Prop} {Q : Exit → ASt → Prop} {σ : ASt} : unK A Q .normal σ = A σ := rfl
theorem unK_exit {A : ASt → Prop} {Q : Exit → ASt → Prop} {σ : ASt} {id : Nat} : unK A Q (.exit id) σ = Q (.exit id) σ := rfl
theorem unK_ret {A : ASt → Prop} {Q : Exit → ASt → Prop} {σ : ASt} : unK A Q .ret σ = Q .ret σ := rfl
end Ax
end Go.Proofs.Ytlbdhkgjhjcgiaa
