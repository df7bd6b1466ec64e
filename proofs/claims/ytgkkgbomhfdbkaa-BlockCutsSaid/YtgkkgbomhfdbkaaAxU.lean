/- A region in the text's order, and code. -/
import Derived.Test.YtgkkgbomhfdbkaaAxY
namespace Go.Proofs.Ytgkkgbomhfdbkaa
namespace Ax
set_option linter.unusedSimpArgs false
set_option linter.unusedVariables false

theorem setSlot_same : ∀ (sl : List AV) (d : Nat), setSlot sl d (slot sl d) = sl
  | [], _ => rfl
  | x :: xs, 0 => rfl
  | x :: xs, n + 1 => by simp only [setSlot, slot]; rw [setSlot_same xs n]

theorem setSlot_length (sl : List AV) (d : Nat) (y : AV) : (setSlot sl d y).length = sl.length := by rw [setSlot_set]; simp

theorem putSlot_length (sl : List AV) (d : Option Tmp) (y : AV) : (putSlot sl d y).length = sl.length := by
  cases d with
  | none => rfl
  | some d => exact setSlot_length sl d y

theorem slot_set_same {sl : List AV} {d : Nat} {y : AV} (h : d < sl.length) : slot (setSlot sl d y) d = y := by
  rw [setSlot_set, slot_getD]; simp [h]
theorem slot_set_other {sl : List AV} {d t : Nat} {y : AV} (h : d ≠ t) : slot (setSlot sl d y) t = slot sl t := by
  rw [setSlot_set, slot_getD, slot_getD]; simp [List.getElem?_set, h]

theorem slot_ge {sl : List AV} {d : Nat} (h : sl.length ≤ d) : slot sl d = .junk := by
  rw [slot_getD]; simp [h]

theorem slots_put {w : World} {loc : Loc} {sl : List AV} {a : Act} (hsz : a.tmps.size = sl.length) (hs : ∀ t, R w loc (slot sl t) (a.tmps.getD t undef)) (dst : Option Tmp) {x : AV} {v : Value} (hx : R w loc x v) :
    (a.put dst v).tmps.size = (putSlot sl dst x).length ∧ (∀ t, R w loc (slot (putSlot sl dst x) t) ((a.put dst v).tmps.getD t undef)) ∧ (a.put dst v).defers = a.defers := by
  cases dst with
  | none => exact ⟨hsz, hs, rfl⟩
  | some d =>
    refine ⟨by simp [Act.put, putSlot_length, hsz], fun t => ?_, rfl⟩
    by_cases h : d = t
    · subst h
      by_cases hd : d < sl.length
      · simp only [putSlot]
        rw [slot_set_same hd]
        have : (a.put (some d) v).tmps.getD d undef = v := by simp [Act.put, hsz, hd]
        rw [this]; exact hx
      · simp only [putSlot]
        rw [slot_ge (by rw [setSlot_length]; exact Nat.le_of_not_lt hd)]
        exact .junk _
    · simp only [putSlot]
      rw [slot_set_other h]
      have : (a.put (some d) v).tmps.getD t undef = a.tmps.getD t undef := by simp [Act.put, Array.getElem?_setIfInBounds_ne h]
      rw [this]; exact hs t

theorem yielded_of {ops : Array Oper} {tmps : Array Value} {j : Nat} {d : Tmp} {b : Bool} (hd : guardSlot ops.toList j = some d) (hlt : d < tmps.size) (hv : tmps.getD d undef = .bool b) : yielded ops tmps j = some b := by
  unfold guardSlot at hd
  have : (ops[j]?).bind (·.dst) = some d := by
    rw [← Array.getElem?_toList]
    cases h : ops.toList[j]? with
    | none => rw [h] at hd; cases hd
    | some o => rw [h] at hd; simpa using hd
  unfold yielded
  rw [this]
  simp only [Option.bind_some]
  have h2 : tmps[d]? = some (.bool b) := by
    rw [Array.getElem?_eq_getElem hlt]
    simp [Array.getD, hlt] at hv
    rw [hv]
  rw [h2]

theorem undef_R {w : World} {loc : Loc} : R w loc (.tup []) undef := .tup [] [] rfl (by simp)

theorem tup_R {w : World} {loc : Loc} {v : Value} (h : R w loc (.tup []) v) : v = .tuple #[] := by
  cases h with
  | tup _ cs hl _ =>
    obtain rfl : cs = [] := List.eq_nil_of_length_eq_zero (by simpa using hl.symm)
    rfl

theorem yielded_none {ops : Array Oper} {tmps : Array Value} {j : Nat} {d : Tmp} (hd : guardSlot ops.toList j = some d) (hv : tmps.getD d undef = .tuple #[]) : yielded ops tmps j = none := by
  unfold guardSlot at hd
  have : (ops[j]?).bind (·.dst) = some d := by
    rw [← Array.getElem?_toList]
    cases h : ops.toList[j]? with
    | none => rw [h] at hd; cases hd
    | some o => rw [h] at hd; simpa using hd
  unfold yielded
  rw [this]
  simp only [Option.bind_some]
  cases h : tmps[d]? with
  | none => rfl
  | some v =>
    have : v = .tuple #[] := by
      rw [Array.getD_eq_getD_getElem?, h] at hv
      exact hv
    rw [this]

theorem rel_post {w0 : World} {E : Nat → Prop} {loc loc' : Loc} {sl : List AV} {H : Heap} {nx : Nat} {a : Act} {w w' : World} {wr : Bool} {x : AV} {H' : Heap} {v : Value} (h : Rel' w0 E loc ⟨sl, H, nx⟩ a w) (hp : Post w0 E w loc wr nx x H' v w' loc') (hn : ∀ id b, look H' id = some b → look H id ≠ none ∨ (nx ≤ id ∧ id < nx + 8)) (dst : Option Tmp) :
    Rel' w0 E loc' ⟨putSlot sl dst x, H', nx + 8⟩ (a.put dst v) w' := by
  obtain ⟨C, hE, _⟩ := hp.ext
  obtain ⟨h1, h2, h3⟩ := slots_put (w := w') (loc := loc') h.size (fun t => (h.slots t).ext hE) dst hp.r
  refine ⟨h1, h2, hp.h, hp.env, fun id hid => ?_, h3.trans h.defers, fun id b hl => ?_⟩
  · have hf := h.fresh id (by simp at hid ⊢; omega)
    by_cases hn : loc'.m id = .free
    · exact hn
    · have := hp.fresh id hf hn
      simp at hid; omega
  · rcases hn id b hl with h4 | h4
    · cases h5 : look H id with
      | none => exact (h4 h5).elim
      | some c =>
        have := h.low id c h5
        simp at this ⊢; omega
    · simp; omega

theorem aops_sound {P : Program} {w0 : World} {E : Nat → Prop} {T : Types} {S : FSpecs} (hT : TOk P T) (hS : Fns P S) {ops : Array Oper} {K : Exit → Act → World → Prop} {Q : List AV → Heap → Prop} {B : Bs} {nz : Nat}
    (hK : ∀ sl H a w loc, Base w0 B w loc → Rel' w0 E loc ⟨sl, H, nz⟩ a w → Q sl H → K .normal a w) : ∀ (r : List Oper) (nm : Nat) (sl : List AV) (H : Heap) (a : Act) (w : World) (loc : Loc), nz = nm + 8 * r.length → Base w0 B w loc →
    Rel' w0 E loc ⟨sl, H, nm⟩ a w → aops S T ops.toList nm r sl H Q → wpList P ops K r a w
  | [], nm, sl, H, a, w, loc, hz, hb, hr, h => by
    simp only [List.length_nil, Nat.mul_zero, Nat.add_zero] at hz
    subst hz
    exact wpList_nil (hK sl H a w loc hb hr h)
  | o :: r, nm, sl, H, a, w, loc, hz, hb, hr, h => by
    have ih := aops_sound (ops := ops) hT hS hK r (nm + 8)
    have hz' : nz = nm + 8 + 8 * r.length := by simp at hz; omega
    have hop : ∀ (o' : Oper), (aop S T nm sl o'.op H).p → Sd P w0 E w loc (wrOf T sl o'.op) nm (aop S T nm sl o'.op H) o' a := fun o' hp =>
      aop_sound hT hS hr.env hr.heap (fun id h1 _ => hr.fresh id h1) o' (fun x _ => ev_R hr.slots x) hp
    refine wpList_step fun Kn hKn => ?_
    unfold aops at h
    cases hg : o.guard with
    | none =>
      simp only [hg] at h
      obtain ⟨hp, hrest⟩ := h
      rw [if_pos (by simp [Region.wanted, hg])]
      refine hop o hp Kn K (fun v w' loc' hpost => hKn _ _ ?_)
      exact ih _ _ _ _ loc' hz' (hb.post hpost) (rel_post hr hpost (hnew_aop hp) o.dst) hrest
    | some g =>
      obtain ⟨j, want⟩ := g
      simp only [hg] at h
      cases hgs : guardSlot ops.toList j with
      | none => simp only [hgs] at h
      | some d =>
        simp only [hgs] at h
        split at h
        · rename_i b hsd
          have hval := hr.slots d
          simp only at hval
          rw [hsd] at hval
          have hval := hval.wv
          have hlt : d < a.tmps.size := by
            rw [hr.size]
            rcases Nat.lt_or_ge d sl.length with h' | h'
            · exact h'
            · rw [slot_ge h'] at hsd; cases hsd
          have hy := yielded_of (ops := ops) hgs hlt hval
          have hw : (Region.wanted o (yielded ops a.tmps) = true) ↔ b = want := by simp [Region.wanted, hg, hy]
          have hsame : ∀ b', b = b' → setSlot sl d (.w (.bool b')) = sl := by
            rintro b' rfl
            have := setSlot_same sl d
            rw [hsd] at this; exact this
          by_cases hbw : b = want
          · obtain ⟨hp, hrest⟩ := h.1 hbw
            rw [hsame _ hbw] at hp hrest
            rw [if_pos (hw.2 hbw)]
            refine hop o hp Kn K (fun v w' loc' hpost => hKn _ _ ?_)
            exact ih _ _ _ _ loc' hz' (hb.post hpost) (rel_post hr hpost (hnew_aop hp) o.dst) hrest
          · have hb2 : b = !want := by cases b <;> cases want <;> simp_all
            have hrest := h.2 hb2
            rw [hsame _ hb2] at hrest
            rw [if_neg (fun hh => hbw (hw.1 hh))]
            refine hKn _ _ ?_
            refine ih _ _ _ _ loc hz' hb ?_ hrest
            exact rel_post (wr := false) hr (Post.pure undef_R hr.heap hr.env) (fun id b h => .inl (by rw [h]; simp)) o.dst
        · rename_i hsd
          have hval := hr.slots d
          simp only at hval
          rw [hsd] at hval
          rw [if_neg (by simp [Region.wanted, hg, yielded_none hgs (tup_R hval)])]
          refine hKn _ _ ?_
          refine ih _ _ _ _ loc hz' hb ?_ h
          exact rel_post (wr := false) hr (Post.pure undef_R hr.heap hr.env) (fun id b h => .inl (by rw [h]; simp)) o.dst
        · exact h.elim

/-- A drawn region does what the text's order does. -/
def DrawSound (P : Program) (S : FSpecs) (T : Types) : Prop :=
  ∀ (w0 : World) (E : Nat → Prop) (l : List Oper) (K : Exit → Act → World → Prop) (Q : List AV → Heap → Prop) (B : Bs) (nm : Nat) (sl : List AV) (H : Heap) (a : Act) (w : World) (loc : Loc) (id : Nat),
    drawOk T l = true → (∀ sl H a w loc, Base w0 B w loc → Rel' w0 E loc ⟨sl, H, nm + 8 * l.length⟩ a w → Q sl H → K .normal a w) → Base w0 B w loc →
    Rel' w0 E loc ⟨sl, H, nm⟩ a w → aops S T l nm l sl H Q → (Code.region id l.toArray true).wp P K a w

/-- What is asked of an abstract state, asked of a frame and a world. -/
def Low (w0 : World) (E : Nat → Prop) (B : Bs) (Q : Exit → ASt → Prop) : Exit → Act → World → Prop := fun e a w => ∃ σ, Rel w0 E B σ a w ∧ Q e σ

theorem least {p : Nat → Prop} : ∀ n, p n → ∃ m, p m ∧ m ≤ n ∧ ∀ k, p k → m ≤ k := by
  intro n
  induction n using Nat.strongRecOn with
  | _ n ih =>
    intro h
    by_cases hl : ∃ k, p k ∧ k < n
    · obtain ⟨k, hk, hlt⟩ := hl
      obtain ⟨m, h1, h2, h3⟩ := ih k hlt hk
      exact ⟨m, h1, by omega, h3⟩
    · refine ⟨n, h, Nat.le_refl _, fun k hk => ?_⟩
      rcases Nat.lt_or_ge k n with h' | h'
      · exact (hl ⟨k, hk, h'⟩).elim
      · exact h'

open Classical in
theorem rawp_sound {P : Program} {w0 : World} {E : Nat → Prop} {T : Types} {S : FSpecs} (hT : TOk P T) (hS : Fns P S) (hD : DrawSound P S T) {B : Bs} : ∀ (c : Code) (Q : Exit → ASt → Prop) (σ : ASt) (a : Act) (w : World),
    rawp S T c Q σ → Rel w0 E B σ a w → c.wp P (Low w0 E B Q) a w := by
  intro c
  induction c with
  | skip => intro Q σ a w h hr; exact wp_skip ⟨σ, hr, h⟩
  | label l => intro Q σ a w h hr; exact wp_label ⟨σ, hr, h⟩
  | ret => intro Q σ a w h hr; exact wp_ret ⟨σ, hr, h⟩
  | exit id => intro Q σ a w h hr; exact wp_exit ⟨σ, hr, h⟩
  | region id ops draw =>
    intro Q σ a w h hr
    obtain ⟨loc, hb, hr⟩ := hr
    obtain ⟨sl, H, nx⟩ := σ
    obtain ⟨hd, h⟩ := h
    have hK : ∀ sl H a w loc, Base w0 B w loc → Rel' w0 E loc ⟨sl, H, nx + 8 * ops.toList.length⟩ a w → regK (nx + 8 * ops.toList.length) Q sl H → Low w0 E B Q .normal a w := fun sl H a w loc h1 h2 h3 => ⟨_, ⟨loc, h1, h2⟩, h3⟩
    cases draw with
    | false => exact wp_region_list (aops_sound hT hS hK ops.toList nx sl H a w loc rfl hb hr h)
    | true => exact hD w0 E ops.toList _ _ B nx sl H a w loc id (hd rfl) hK hb hr h
  | seq x y ihx ihy =>
    intro Q σ a w h hr
    refine wp_seq (wp_mono (ihx _ σ a w h hr) ?_)
    rintro e a' w' ⟨σ', hr', hq⟩
    cases e with
    | normal => exact ihy Q σ' a' w' hq hr'
    | _ => exact ⟨σ', hr', hq⟩
  | cond c x y ihx ihy =>
    intro Q σ a w h hr
    simp only [rawp] at h
    obtain ⟨loc, hb, hr⟩ := hr
    split at h
    · rename_i t hc
      have hv := ev_R hr.slots c
      rw [hc] at hv
      have hv := hv.wv
      cases t with
      | true => exact wp_cond_true hv (ihx Q σ a w (h.1 rfl) ⟨loc, hb, hr⟩)
      | false => exact wp_cond_false hv (ihy Q σ a w (h.2 rfl) ⟨loc, hb, hr⟩)
    · exact h.elim
  | block id c ih =>
    intro Q σ a w h hr
    refine wp_block (wp_mono (ih _ σ a w h hr) ?_)
    rintro e a' w' ⟨σ', hr', hq⟩
    cases e with
    | exit id' =>
      simp only [blockK, Exit.inBlock] at hq ⊢
      split at hq
      · rename_i he; rw [if_pos he]; exact ⟨σ', hr', hq⟩
      · rename_i he; rw [if_neg he]; exact ⟨σ', hr', hq⟩
    | _ => exact ⟨σ', hr', hq⟩
  | loop c ih =>
    intro Q σ a w h hr
    obtain ⟨I, ⟨n0, σ0, hw0, hI0⟩, hround⟩ := h
    let p : Act → World → Nat → Prop := fun a w n => ∃ σ, Rel w0 E B σ a w ∧ I n σ
    have hleast : ∀ a w, (∃ n, p a w n) → ∃ m, p a w m ∧ ∀ k, p a w k → m ≤ k := fun a w ⟨n, hn⟩ => let ⟨m, h1, _, h3⟩ := least n hn; ⟨m, h1, h3⟩
    let μ : Act → World → Nat := fun a w => if h : ∃ n, p a w n then Classical.choose (hleast a w h) else 0
    refine wp_loop (fun a w => ∃ n, p a w n) μ ⟨n0, σ0, hw0 w0 E B a w hr, hI0⟩ ?_
    intro a w hex
    have hμ : μ a w = Classical.choose (hleast a w hex) := dif_pos hex
    obtain ⟨⟨σ1, hr1, hI1⟩, hmin⟩ := Classical.choose_spec (hleast a w hex)
    rw [← hμ] at hI1
    refine wp_mono (ih _ σ1 a w (hround _ σ1 hI1) hr1) ?_
    rintro e a' w' ⟨σ', hr', hq⟩
    cases e with
    | normal =>
      obtain ⟨m, σ2, hlt, hw2, hI2⟩ := hq
      have hp : p a' w' m := ⟨σ2, hw2 w0 E B a' w' hr', hI2⟩
      refine ⟨⟨m, hp⟩, ?_⟩
      have hμ' : μ a' w' = Classical.choose (hleast a' w' ⟨m, hp⟩) := dif_pos ⟨m, hp⟩
      have := (Classical.choose_spec (hleast a' w' ⟨m, hp⟩)).2 m hp
      rw [← hμ'] at this
      exact Nat.lt_of_le_of_lt this hlt
    | _ =>
      obtain ⟨σ2, hw2, hq⟩ := hq
      exact ⟨σ2, hw2 w0 E B a' w' hr', hq⟩
  | _ => intro Q σ a w h hr; exact h.elim

end Ax
end Go.Proofs.Ytgkkgbomhfdbkaa
