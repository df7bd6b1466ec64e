/- Each operation holds. -/
import Derived.Test.YtgkkgbomhfdbkaaAxR
namespace Go.Proofs.Ytgkkgbomhfdbkaa
namespace Ax
set_option linter.unusedSimpArgs false
set_option linter.unusedVariables false

/-- A function with a text of its own. -/
def Entered (P : Program) (f : FuncId) : Prop := ∃ fn, P.funcs[f]? = some fn ∧ fn.body.isNone = false ∧ (fn.name == "runtime.NumGoroutine") = false

def Fns (P : Program) (S : FSpecs) : Prop := ∀ f s, S f = some s → Entered P f ∧ Sound P f s

theorem post_wr {w0 : World} {E : Nat → Prop} {w : World} {loc : Loc} {nm : Nat} {x : AV} {H : Heap} {v : Value} {w' : World} {loc' : Loc} (h : Post w0 E w loc false nm x H v w' loc') (wr : Bool) : Post w0 E w loc wr nm x H v w' loc' := by
  obtain ⟨C, h1, h2⟩ := h.ext
  exact ⟨h.r, h.h, h.env, ⟨C, h1, fun _ => h2 rfl⟩, h.fresh, h.bad⟩

theorem post_true {w0 : World} {E : Nat → Prop} {w : World} {loc : Loc} {wr : Bool} {nm : Nat} {x : AV} {H : Heap} {v : Value} {w' : World} {loc' : Loc} (h : Post w0 E w loc wr nm x H v w' loc') : Post w0 E w loc true nm x H v w' loc' := by
  obtain ⟨C, h1, h2⟩ := h.ext
  exact ⟨h.r, h.h, h.env, ⟨C, h1, fun h => by cases h⟩, h.fresh, h.bad⟩

theorem coe_R {T : Types} {t : TypeId} {w : World} {loc : Loc} {x : AV} {v : Value} (h : R w loc x v) : R w loc (coe T t x) v := by
  unfold coe
  split
  · rename_i s f
    cases h with
    | sg _ _ _ a cap cs hd hs hc hl hx h =>
      have e1 : R w loc (.sb [] f) (.slice a ([] : List AV).length cap) := .sb [] f a cap hd ⟨.inl rfl⟩
      have e2 : R w loc (.si [] f) (.slice a ([] : List AV).length cap) := .si [] f a cap hd ⟨.inl rfl⟩
      have e3 : ∀ s, R w loc (.sg s [] f) (.slice a ([] : List AV).length cap) := fun s => .sg s [] f a cap [] hd (by simp) ⟨.inl rfl⟩ rfl (by simp) (by simp)
      split
      · split
        · split
          · split
            · exact e1
            · exact e2
            · exact e3 _
          · exact e3 _
        · exact e3 _
      · exact e3 _
  · exact h

theorem coes_R {T : Types} {w : World} {loc : Loc} : ∀ (ts : List TypeId) (xs : List AV), (coes T ts xs).length = xs.length ∧ ∀ (vs : List Value), (∀ (j : Nat) (h : j < xs.length) (h' : j < vs.length), R w loc xs[j] vs[j]) → ∀ (j : Nat) (h : j < (coes T ts xs).length) (h' : j < vs.length), R w loc (coes T ts xs)[j] vs[j]
  | [], xs => by
    have : coes T [] xs = xs := by cases xs <;> rfl
    rw [this]
    exact ⟨rfl, fun vs h => h⟩
  | t :: ts, [] => ⟨rfl, fun vs _ j h => by simp [coes] at h⟩
  | t :: ts, x :: xs => by
    obtain ⟨h1, h2⟩ := coes_R (T := T) (w := w) (loc := loc) ts xs
    refine ⟨by simp [coes, h1], fun vs h j a b => ?_⟩
    cases vs with
    | nil => simp at b
    | cons v vs =>
      cases j with
      | zero => exact coe_R (h 0 (by simp) (by simp))
      | succ j => exact h2 vs (fun j a b => h (j + 1) (by simpa using a) (by simpa using b)) j (by simpa [coes] using a) (by simpa using b)

theorem evs_R {w : World} {loc : Loc} {sl : List AV} {a : Act} : ∀ (l : List Operand), (∀ x ∈ l, R w loc (ev sl x) (a.eval x)) → (evs sl l).length = l.length ∧ ∀ (j : Nat) (h : j < (evs sl l).length) (h' : j < (l.map a.eval).length), R w loc (evs sl l)[j] (l.map a.eval)[j]
  | [], _ => ⟨rfl, fun j h => by simp [evs] at h⟩
  | o :: r, h => by
    obtain ⟨h1, h2⟩ := evs_R r (fun x hx => h x (by simp [hx]))
    refine ⟨by simp [evs, h1], fun j a b => ?_⟩
    cases j with
    | zero => exact h o (by simp)
    | succ j => exact h2 j (by simpa [evs] using a) (by simpa using b)

theorem evps_R {w : World} {loc : Loc} {sl : List AV} {a : Act} : ∀ (ps : List (Nat × Operand)), (∀ x ∈ ps.map (·.2), R w loc (ev sl x) (a.eval x)) → PR w loc (evps sl ps) (ps.map fun p => (p.1, a.eval p.2))
  | [], _ => .nil
  | p :: r, h => .cons (h p.2 (by simp)) (evps_R r (fun x hx => h x (by simp at hx ⊢; exact .inr hx)))

/-- Does the operation write what was there? -/
def wrOf (T : Types) (sl : List AV) : Op → Bool
  | .store _ _ _ => true
  | .convert _ d x => (match ev sl x with | .ms _ _ _ _ => (match T d with | some i => (match i.d with | .slice _ => true | _ => false) | none => false) | _ => false)
  | .call c => match c.callee with
    | .builtin .append => true
    | .builtin .copy => true
    | .builtin _ => false
    | .value f => match ev sl f with
      | .fn _ caps => !(rootsL (coes T c.argTypes.toList (evs sl c.args.toList) ++ caps)).isEmpty || !(lentIdsL (coes T c.argTypes.toList (evs sl c.args.toList) ++ caps)).isEmpty
      | _ => true
    | _ => true
  | _ => false

section
variable {P : Program}

theorem aop_sound {w0 : World} {E : Nat → Prop} {w : World} {loc : Loc} {H : Heap} {T : Types} {S : FSpecs} (hT : TOk P T) (hS : Fns P S) (he : Env w0 E w loc) (hh : HR w loc H) {nm : Nat} (hfree : ∀ id, nm ≤ id → id < nm + 8 → loc.m id = .free) {sl : List AV} {a : Act} (o : Oper)
    (hev : ∀ x ∈ o.op.operands.toList, R w loc (ev sl x) (a.eval x)) (hp : (aop S T nm sl o.op H).p) : Sd P w0 E w loc (wrOf T sl o.op) nm (aop S T nm sl o.op H) o a := by
  have hf : loc.m nm = .free := hfree nm (Nat.le_refl _) (by omega)
  cases ho : o.op with
  | move x =>
    rw [ho] at hp hev
    have hx := hev x (by simp [Op.operands])
    exact sd_value (v := a.eval x) (w' := w) (loc' := loc) (by simp [execOp, ho]) (Post.pure hx hh he)
  | assign x =>
    rw [ho] at hp hev
    have hx := hev x (by simp [Op.operands])
    exact sd_value (v := a.eval x) (w' := w) (loc' := loc) (by simp [execOp, ho]) (Post.pure hx hh he)
  | pick c x y =>
    rw [ho] at hp hev
    have hc := hev c (by simp [Op.operands])
    have hx := hev x (by simp [Op.operands])
    have hy := hev y (by simp [Op.operands])
    simp only [aop, aPick] at hp ⊢
    generalize ev sl c = xc at hc hp ⊢
    generalize ev sl x = xx at hx hp ⊢
    generalize ev sl y = xy at hy hp ⊢
    split at hp
    · rename_i t
      have hcv := hc.wv
      have hrun : (execOp a.eval o).run P w = .ok (.value (if t = true then a.eval x else a.eval y)) w := by
        simp only [execOp, ho, hcv, asBool]
        cases t <;> rfl
      split at hp
      · rename_i p q
        refine sd_value hrun (Post.pure ?_ hh he)
        rw [hx.wv, hy.wv]
        cases t
        · exact .w _ rfl
        · exact .w _ rfl
      · refine sd_value hrun (Post.pure ?_ hh he)
        have hp : t = false := hp
        subst hp
        exact hy
      · refine sd_value hrun (Post.pure ?_ hh he)
        have hp : t = true := hp
        subst hp
        exact hx
      · exact hp.elim
    · exact hp.elim
  | alloc e =>
    rw [ho] at hp
    obtain ⟨v, w', loc', h1, h2⟩ := alloc_post (P := P) hT he hh hf hp false (.tuple #[])
    exact sd_value (by simp [execOp, ho, h1]) h2
  | box e x =>
    rw [ho] at hp hev
    have hx := hev x (by simp [Op.operands])
    simp only [aop, aBox] at hp ⊢
    cases ht : T e with
    | none => simp [ht, bad] at hp
    | some ti =>
      simp only [ht] at hp ⊢
      obtain ⟨h1, h2, h3⟩ := hp
      obtain ⟨w', h4, h5⟩ := box_post (P := P) (e := e) he hh hf hx h1 h2 h3 false
      exact sd_value (by simp [execOp, ho, Instr.box, h4]) h5
  | build t ps =>
    rw [ho] at hp hev
    have hps := evps_R (sl := sl) (a := a) ps.toList (fun x hx => hev x (by simpa [Op.operands] using hx))
    obtain ⟨v, h1, h2, h3⟩ := build_sound (P := P) hT (pv := ps.map fun p => (p.1, a.eval p.2)) (by simpa using hps) hp
    exact sd_value (w' := w) (loc' := loc) (by simp only [execOp, ho]; simp [h1]) (Post.pure h2 (by simp only [aop]; rw [h3]; exact hh) he)
  | buildSlice t n ps =>
    rw [ho] at hp hev
    have hps := evps_R (sl := sl) (a := a) ps.toList (fun x hx => hev x (by simpa [Op.operands] using hx))
    obtain ⟨v, w', loc', h1, h2⟩ := buildSlice_post (P := P) hT he hh hf (pv := ps.map fun p => (p.1, a.eval p.2)) (by simpa using hps) hp
    exact sd_value (by simp only [execOp, ho]; simp [h1]) h2
  | load t p =>
    rw [ho] at hp hev
    obtain ⟨u, h1, h2, h3⟩ := load_sound (P := P) hT hh (hev p (by simp [Op.operands])) hp
    exact sd_value (w' := w) (loc' := loc) (by simp [execOp, ho, h1]) (Post.pure h2 (by simp only [aop]; rw [h3]; exact hh) he)
  | store t p x =>
    rw [ho] at hp hev
    obtain ⟨w', h1, h2⟩ := store_post (P := P) (nm := nm) hT he hh (hev p (by simp [Op.operands])) (hev x (by simp [Op.operands])) hp
    exact sd_skip (by simp [execOp, ho, h1]) h2
  | nilCheck x =>
    rw [ho] at hp hev
    have hx := hev x (by simp [Op.operands])
    obtain ⟨h1, h2, h3⟩ := nil_sound hh hx hp
    refine sd_value (v := a.eval x) (w' := w) (loc' := loc) ?_ (Post.pure (by simp only [aop]; rw [h2]; exact hx) (by simp only [aop]; rw [h3]; exact hh) he)
    simp only [execOp, ho]
    split
    · exact (h1 (.inl ‹_›)).elim
    · exact (h1 (.inr (.inl ‹_›))).elim
    · exact (h1 (.inr (.inr (.inl ‹_›)))).elim
    · exact (h1 (.inr (.inr (.inr ⟨_, _, _, ‹_›⟩)))).elim
    · simp
  | binOp op t x y yt =>
    rw [ho] at hp hev
    obtain ⟨u, h1, h2, h3⟩ := bin_sound (P := P) hT hh x y (hev x (by simp [Op.operands])) (hev y (by simp [Op.operands])) hp
    exact sd_value (w' := w) (loc' := loc) (by simp only [execOp, ho]; rw [Sem.run_bind, h1]; rfl) (Post.pure h2 (by simp only [aop]; rw [h3]; exact hh) he)
  | unOp op t x =>
    rw [ho] at hp hev
    obtain ⟨u, h1, h2, h3⟩ := un_sound (P := P) (hev x (by simp [Op.operands])) hp
    exact sd_value (w' := w) (loc' := loc) (by simp [execOp, ho, h1]) (Post.pure h2 (by simp only [aop]; rw [h3]; exact hh) he)
  | convert s d x =>
    rw [ho] at hp hev
    obtain ⟨u, w', loc', h1, h2⟩ := conv_post (P := P) hT he hh hf (hev x (by simp [Op.operands])) hp.2
    exact sd_value (by simp [execOp, ho, h1]) h2
  | makeSlice t l c =>
    rw [ho] at hp hev
    obtain ⟨u, w', loc', h1, h2⟩ := make_post (P := P) hT he hh hf (hev l (by simp [Op.operands])) (hev c (by simp [Op.operands])) hp
    exact sd_value (by simp [execOp, ho, h1]) h2
  | slice t x lo hi mx =>
    rw [ho] at hp hev
    obtain ⟨hq, hp⟩ := hp
    have hor : ∀ (q : Option Operand), (∀ y, q = some y → y ∈ (Op.slice t x lo hi mx).operands.toList) → OR w loc (evo sl q) (q.map a.eval) := by
      intro q hm
      cases q with
      | none => trivial
      | some y => exact hev y (hm y rfl)
    have hsome : ∀ (q : Option Operand), (evo sl q).isSome = q.isSome := fun q => by cases q <;> rfl
    obtain ⟨u, h1, h2, h3⟩ := slice_sound (P := P) hT (hev x (by simp [Op.operands])) (hor lo (by rintro y rfl; simp [Op.operands])) (hor hi (by rintro y rfl; simp [Op.operands])) (hor mx (by rintro y rfl; simp [Op.operands])) (by rw [hsome, hsome]; exact hq) hh hp
    exact sd_value (w' := w) (loc' := loc) (by simp [execOp, ho, h1]) (Post.pure h2 (by simp only [aop, Out.and]; rw [h3]; exact hh) he)
  | fieldAddr s x f =>
    rw [ho] at hp hev
    obtain ⟨u, h1, h2, h3⟩ := fieldAddr_sound (P := P) hT hh (hev x (by simp [Op.operands])) hp
    exact sd_value (w' := w) (loc' := loc) (by simp [execOp, ho, h1]) (Post.pure h2 (by simp only [aop]; rw [h3]; exact hh) he)
  | field t x f =>
    rw [ho] at hp hev
    obtain ⟨u, h1, h2, h3⟩ := field_sound (P := P) hT (hev x (by simp [Op.operands])) hp
    exact sd_value (w' := w) (loc' := loc) (by simp [execOp, ho, h1]) (Post.pure h2 (by simp only [aop]; rw [h3]; exact hh) he)
  | indexAddr t x i =>
    rw [ho] at hp hev
    obtain ⟨u, h1, h2, h3⟩ := indexAddr_sound (P := P) hT hh (hev x (by simp [Op.operands])) (hev i (by simp [Op.operands])) hp
    exact sd_value (w' := w) (loc' := loc) (by simp [execOp, ho, h1]) (Post.pure h2 (by simp only [aop]; rw [h3]; exact hh) he)
  | index t x i =>
    rw [ho] at hp hev
    obtain ⟨u, h1, h2, h3⟩ := index_sound (P := P) hT (hev x (by simp [Op.operands])) (hev i (by simp [Op.operands])) hp
    exact sd_value (w' := w) (loc' := loc) (by simp [execOp, ho, h1]) (Post.pure h2 (by simp only [aop]; rw [h3]; exact hh) he)
  | extract x i =>
    rw [ho] at hp hev
    obtain ⟨u, h1, h2, h3⟩ := extract_sound (P := P) (hev x (by simp [Op.operands])) hp
    exact sd_value (w' := w) (loc' := loc) (by simp [execOp, ho, h1]) (Post.pure h2 (by simp only [aop]; rw [h3]; exact hh) he)
  | call c =>
    rw [ho] at hp hev
    obtain ⟨callee, args, argTypes⟩ := c
    simp only [aop, aCall] at hp ⊢
    have hargs : ∀ x ∈ args.toList, R w loc (ev sl x) (a.eval x) := fun x hx => hev x (by simp [Op.operands, Call.operands]; right; simpa using hx)
    cases callee with
    | builtin b =>
      cases b with
      | len =>
        simp only at hp ⊢
        split at hp
        · rename_i x t hax hat
          obtain rfl : args = #[x] := by rw [← Array.toList_inj]; simpa using hax
          obtain rfl : argTypes = #[t] := by rw [← Array.toList_inj]; simpa using hat
          obtain ⟨u, h1, h2, h3⟩ := len_sound (P := P) (u := o.type) hT hh (hargs x (by simp)) hp
          refine sd_value (v := u) (w' := w) (loc' := loc) ?_ (Post.pure h2 (by rw [h3]; exact hh) he)
          simp only [execOp, ho, resolve, invoke, builtin, Sem.run_bind, Sem.run_pure, Result.andThen_ok]
          simp [h1]
        · exact hp.elim
      | min =>
        simp only at hp ⊢
        obtain ⟨e1, e2⟩ := evs_R args.toList hargs
        generalize evs sl args.toList = l at e1 e2 hp ⊢
        unfold aMin at hp ⊢
        split at hp
        · rename_i k x k' y
          obtain ⟨p, q, rfl⟩ : ∃ p q, args = #[p, q] := by
            obtain ⟨l⟩ := args
            match l, e1 with
            | [p, q], _ => exact ⟨p, q, rfl⟩
          have r1 := (e2 0 (by simp) (by simp)).wv
          have r2 := (e2 1 (by simp) (by simp)).wv
          simp at r1 r2
          refine sd_value (v := .int k (if y < x then y else x)) (w' := w) (loc' := loc) ?_ (Post.pure (.w _ rfl) hh he)
          simp only [execOp, ho, resolve, invoke, builtin, Sem.run_bind, Sem.run_pure, Result.andThen_ok]
          simp [r1, r2, min_sound (P := P) (w := w) (loc := loc) (H := H)]
        · exact hp.elim
      | max =>
        simp only at hp ⊢
        obtain ⟨e1, e2⟩ := evs_R args.toList hargs
        generalize evs sl args.toList = l at e1 e2 hp ⊢
        unfold aMax at hp ⊢
        split at hp
        · rename_i k x k' y
          obtain ⟨p, q, rfl⟩ : ∃ p q, args = #[p, q] := by
            obtain ⟨l⟩ := args
            match l, e1 with
            | [p, q], _ => exact ⟨p, q, rfl⟩
          have r1 := (e2 0 (by simp) (by simp)).wv
          have r2 := (e2 1 (by simp) (by simp)).wv
          simp at r1 r2
          refine sd_value (v := .int k (if y > x then y else x)) (w' := w) (loc' := loc) ?_ (Post.pure (.w _ rfl) hh he)
          simp only [execOp, ho, resolve, invoke, builtin, Sem.run_bind, Sem.run_pure, Result.andThen_ok]
          simp [r1, r2, max_sound (P := P) (w := w) (loc := loc) (H := H)]
        · exact hp.elim
      | append =>
        simp only at hp ⊢
        split at hp
        · rename_i d x hax
          obtain rfl : args = #[d, x] := by rw [← Array.toList_inj]; simpa using hax
          obtain ⟨u, w', loc', h1, h2⟩ := append_post (P := P) (ty := o.type) hT he hh hf (hargs d (by simp)) (hargs x (by simp)) hp
          refine sd_value (v := u) (w' := w') (loc' := loc') ?_ h2
          simp only [execOp, ho, resolve, invoke, builtin, Sem.run_bind, Sem.run_pure, Result.andThen_ok]
          simp at h1
          simp [h1]
        · exact hp.elim
      | copy =>
        simp only at hp ⊢
        split at hp
        · rename_i d x hax
          obtain rfl : args = #[d, x] := by rw [← Array.toList_inj]; simpa using hax
          obtain ⟨u, w', h1, h2⟩ := copy_post (P := P) (ty := o.type) (nm := nm) hT he hh (hargs d (by simp)) (hargs x (by simp)) hp
          refine sd_value (v := u) (w' := w') (loc' := loc) ?_ h2
          simp only [execOp, ho, resolve, invoke, builtin, Sem.run_bind, Sem.run_pure, Result.andThen_ok]
          simp at h1
          simp [h1]
        · exact hp.elim
      | _ => exact hp.elim
    | invoke r m => exact hp.elim
    | value f =>
      simp only at hp ⊢
      have hfv := hev f (by simp [Op.operands, Call.operands])
      simp only [wrOf]
      generalize ev sl f = xf at hfv hp ⊢
      split at hp
      · rename_i g caps
        obtain ⟨_, hp⟩ := hp
        cases hv : a.eval f with
        | func fn first captured =>
          rw [hv] at hfv
          cases hfv with
          | fn _ _ cs hlc hc =>
            obtain ⟨e1, e2⟩ := evs_R args.toList hargs
            obtain ⟨c1, c2⟩ := coes_R (T := T) (w := w) (loc := loc) argTypes.toList (evs sl args.toList)
            have c2 := c2 (args.toList.map a.eval) e2
            cases hsg : S g with
            | none => simp [aUser, hsg, bad] at hp
            | some sp =>
              obtain ⟨⟨fn, hfn, hbody, hname⟩, hsound⟩ := hS g sp hsg
              have hlen : (coes T argTypes.toList (evs sl args.toList) ++ caps).length = (args.toList.map a.eval ++ cs).length := by simp [c1, e1, hlc]
              have hcall := call_post (P := P) he hh hfree (S := S) (fun f s h => (hS f s h).2) (f := g) hlen (fun j p q => by
                by_cases hj : j < (coes T argTypes.toList (evs sl args.toList)).length
                · rw [List.getElem_append_left hj, List.getElem_append_left (by rw [← (show _ = _ from by simp [c1, e1] : (coes T argTypes.toList (evs sl args.toList)).length = (args.toList.map a.eval).length)]; exact hj)]
                  exact c2 j hj _
                · have hl : (coes T argTypes.toList (evs sl args.toList)).length = (args.toList.map a.eval).length := by simp [c1, e1]
                  rw [List.getElem_append_right (by omega), List.getElem_append_right (by omega)]
                  have := hc (j - (coes T argTypes.toList (evs sl args.toList)).length) (by rw [List.length_append] at p; omega) (by rw [List.length_append] at q; omega)
                  simpa [hl] using this) hp
              have hrun : (execOp a.eval o).run P w = .ok (.enter g (args.toList.map a.eval ++ cs).toArray) w := by
                have h1 : fn.name ≠ "runtime.NumGoroutine" := by simpa using hname
                have hb' : fn.body ≠ none := by intro e; rw [e] at hbody; simp at hbody
                simp [execOp, ho, resolve, hv, Deferred.ofValue, invoke, callFunc, hfn, h1, hb']
              intro next Q hn
              unfold Oper.wp
              rw [hrun]
              refine hcall.mono ?_
              rintro e w' ⟨v, loc', rfl, h1, h2⟩
              refine hn v w' loc' ?_
              show Post w0 E w loc (!(rootsL (coes T argTypes.toList (evs sl args.toList) ++ caps)).isEmpty || !(lentIdsL (coes T argTypes.toList (evs sl args.toList) ++ caps)).isEmpty) nm _ _ _ _ _
              cases hr : (rootsL (coes T argTypes.toList (evs sl args.toList) ++ caps)).isEmpty with
              | true =>
                cases hr2 : (lentIdsL (coes T argTypes.toList (evs sl args.toList) ++ caps)).isEmpty with
                | true => exact h2 (by simpa using hr) (by simpa using hr2)
                | false => exact h1
              | false => exact h1
        | _ => rw [hv] at hfv; cases hfv
      · exact hp.elim
  | _ => rw [ho] at hp; exact hp.elim
end

end Ax
end Go.Proofs.Ytgkkgbomhfdbkaa
