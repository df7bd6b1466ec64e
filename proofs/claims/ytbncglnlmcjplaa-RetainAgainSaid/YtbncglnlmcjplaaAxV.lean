/- A region in the text's order, and code. -/
import Derived.Test.YtbncglnlmcjplaaAxY
namespace Go.Proofs.Ytbncglnlmcjplaa
namespace Ax
set_option linter.unusedSimpArgs false
set_option linter.unusedVariables false

theorem setSlot_same : ∀ (sl : List AV) (d : Nat), setSlot sl d (slot sl d) = sl
  | [], _ => rfl
  | x :: xs, 0 => rfl
  | x :: xs, n + 1 => by simp only [setSlot, slot]; rw [setSlot_same xs n]

theorem setSlot_length (sl : List AV) (d : Nat) (y : AV) : (setSlot sl d y).length = sl.length := by rw [setSlot_set]; simp

theorem putSlot_length (sl : List AV) (d : Option Tmp) (y : AV) : (putSlot sl d y).length = sl.length := by
  cases d with
  | none => rfl
  | some d => exact setSlot_length sl d y

theorem slot_set_same {sl : List AV} {d : Nat} {y : AV} (h : d < sl.length) : slot (setSlot sl d y) d = y := by
  rw [setSlot_set, slot_getD]; simp [h]
theorem slot_set_other {sl : List AV} {d t : Nat} {y : AV} (h : d ≠ t) : slot (setSlot sl d y) t = slot sl t := by
  rw [setSlot_set, slot_getD, slot_getD]; simp [List.getElem?_set, h]

theorem slot_ge {sl : List AV} {d : Nat} (h : sl.length ≤ d) : slot sl d = .junk := by
  rw [slot_getD]; simp [h]

theorem slots_put {w : World} {loc : Loc} {sl : List AV} {a : Act} (hsz : a.tmps.size = sl.length) (hs : ∀ t, R w loc (slot sl t) (a.tmps.getD t undef)) (dst : Option Tmp) {x : AV} {v : Value} (hx : R w loc x v) :
    (a.put dst v).tmps.size = (putSlot sl dst x).length ∧ (∀ t, R w loc (slot (putSlot sl dst x) t) ((a.put dst v).tmps.getD t undef)) ∧ (a.put dst v).defers = a.defers := by
  cases dst with
  | none => exact ⟨hsz, hs, rfl⟩
  | some d =>
    refine ⟨by simp [Act.put, putSlot_length, hsz], fun t => ?_, rfl⟩
    by_cases h : d = t
    · subst h
      by_cases hd : d < sl.length
      · simp only [putSlot]
        rw [slot_set_same hd]
        have : (a.put (some d) v).tmps.getD d undef = v := by simp [Act.put, hsz, hd]
        rw [this]; exact hx
      · simp only [putSlot]
        rw [slot_ge (by rw [setSlot_length]; exact Nat.le_of_not_lt hd)]
        exact .junk _
    · simp only [putSlot]
      rw [slot_set_other h]
      have : (a.put (some d) v).tmps.getD t undef = a.tmps.getD t undef := by simp [Act.put, Array.getElem?_setIfInBounds_ne h]
      rw [this]; exact hs t

theorem yielded_of {ops : Array Oper} {tmps : Array Value} {j : Nat} {d : Tmp} {b : Bool} (hd : guardSlot ops.toList j = some d) (hlt : d < tmps.size) (hv : tmps.getD d undef = .bool b) : yielded ops tmps j = some b := by
  unfold guardSlot at hd
  have : (ops[j]?).bind (·.dst) = some d := by
    rw [← Array.getElem?_toList]
    cases h : ops.toList[j]? with
    | none => rw [h] at hd; cases hd
    | some o => rw [h] at hd; simpa using hd
  unfold yielded
  rw [this]
  simp only [Option.bind_some]
  have h2 : tmps[d]? = some (.bool b) := by
    rw [Array.getElem?_eq_getElem hlt]
    simp [Array.getD, hlt] at hv
    rw [hv]
  rw [h2]

theorem undef_R {w : World} {loc : Loc} : R w loc (.tup []) undef := .tup [] [] rfl (by simp)

theorem tup_R {w : World} {loc : Loc} {v : Value} (h : R w loc (.tup []) v) : v = .tuple #[] := by
  cases h with
  | tup _ cs hl _ =>
    obtain rfl : cs = [] := List.eq_nil_of_length_eq_zero (by simpa using hl.symm)
    rfl

theorem yielded_none {ops : Array Oper} {tmps : Array Value} {j : Nat} {d : Tmp} (hd : guardSlot ops.toList j = some d) (hv : tmps.getD d undef = .tuple #[]) : yielded ops tmps j = none := by
  unfold guardSlot at hd
  have : (ops[j]?).bind (·.dst) = some d := by
    rw [← Array.getElem?_toList]
    cases h : ops.toList[j]? with
    | none => rw [h] at hd; cases hd
    | some o => rw [h] at hd; simpa using hd
  unfold yielded
  rw [this]
  simp only [Option.bind_some]
  cases h : tmps[d]? with
  | none => rfl
  | some v =>
    have : v = .tuple #[] := by
      rw [Array.getD_eq_getD_getElem?, h] at hv
      exact hv
    rw [this]

theorem rel_post {w0 : World} {E : Nat → Prop} {loc loc' : Loc} {sl : List AV} {H : Heap} {nx : Nat} {a : Act} {w w' : World} {wr : Bool} {x : AV} {H' : Heap} {v : Value} (h : Rel' w0 E loc ⟨sl, H, nx⟩ a w) (hp : Post w0 E w loc wr nx x H' v w' loc') (hn : ∀ id b, look H' id = some b → look H id ≠ none ∨ (nx ≤ id ∧ id < nx + 8)) (dst : Option Tmp) :
    Rel' w0 E loc' ⟨putSlot sl dst x, H', nx + 8⟩ (a.put dst v) w' := by
  obtain ⟨C, hE, _⟩ := hp.ext
  obtain ⟨h1, h2, h3⟩ := slots_put (w := w') (loc := loc') h.size (fun t => (h.slots t).ext hE) dst hp.r
  refine ⟨h1, h2, hp.h, hp.env, fun id hid => ?_, h3.trans h.defers, fun id b hl => ?_⟩
  · have hf := h.fresh id (by simp at hid ⊢; omega)
    by_cases hn : loc'.m id = .free
    · exact hn
    · have := hp.fresh id hf hn
      simp at hid; omega
  · rcases hn id b hl with h4 | h4
    · cases h5 : look H id with
      | none => exact (h4 h5).elim
      | some c =>
        have := h.low id c h5
        simp at this ⊢; omega
    · simp; omega

theorem aops_sound {P : Program} {w0 : World} {E : Nat → Prop} {T : Types} {S : FSpecs} (hT : TOk P T) (hS : Fns P S) {ops : Array Oper} {K : Exit → Act → World → Prop} {Q : List AV → Heap → Prop} {B : Bs} {nz : Nat}
    (hK : ∀ sl H a w loc, Base w0 B w loc → Rel' w0 E loc ⟨sl, H, nz⟩ a w → Q sl H → K .normal a w) : ∀ (r : List Oper) (nm : Nat) (sl : List AV) (H : Heap) (a : Act) (w : World) (loc : Loc), nz = nm + 8 * r.length → Base w0 B w loc →
    Rel' w0 E loc ⟨sl, H, nm⟩ a w → aops S T ops.toList nm r sl H Q → wpList P ops K r a w
  | [], nm, sl, H, a, w, loc, hz, hb, hr, h => by
    simp only [List.length_nil, Nat.mul_zero, Nat.add_zero] at hz
    subst hz
    exact wpList_nil (hK sl H a w loc hb hr h)
  | o :: r, nm, sl, H, a, w, loc, hz, hb, hr, h => by
    have ih := aops_sound (ops := ops) hT hS hK r (nm + 8)
    have hz' : nz = nm + 8 + 8 * r.length := by simp at hz; omega
    have hop : ∀ (o' : Oper), (aop S T nm sl o'.op H).p → Sd P w0 E w loc (wrOf T sl o'.op) nm (aop S T nm sl o'.op H) o' a := fun o' hp =>
      aop_sound hT hS hr.env hr.heap (fun id h1 _ => hr.fresh id h1) o' (fun x _ => ev_R hr.slots x) hp
    refine wpList_step fun Kn hKn => ?_
    unfold aops at h
    cases hg : o.guard with
    | none =>
      simp only [hg] at h
      obtain ⟨hp, hrest⟩ := h
      rw [if_pos (by simp [Region.wanted, hg])]
      refine hop o hp Kn K (fun v w' loc' hpost => hKn _ _ ?_)
      exact ih _ _ _ _ loc' hz' (hb.post hpost) (rel_post hr hpost (hnew_aop hp) o.dst) hrest
    | some g =>
      obtain ⟨j, want⟩ := g
      simp only [hg] at h
      cases hgs : guardSlot ops.toList j with
      | none => simp only [hgs] at h
      | some d =>
        simp only [hgs] at h
        split at h
        · rename_i b hsd
          have hval := hr.slots d
          simp only at hval
          rw [hsd] at hval
          have hval := hval.wv
          have hlt : d < a.tmps.size := by
            rw [hr.size]
            rcases Nat.lt_or_ge d sl.length with h' | h'
            · exact h'
            · rw [slot_ge h'] at hsd; cases hsd
          have hy := yielded_of (ops := ops) hgs hlt hval
          have hw : (Region.wanted o (yielded ops a.tmps) = true) ↔ b = want := by simp [Region.wanted, hg, hy]
          have hsame : ∀ b', b = b' → setSlot sl d (.w (.bool b')) = sl := by
            rintro b' rfl
            have := setSlot_same sl d
            rw [hsd] at this; exact this
          by_cases hbw : b = want
          · obtain ⟨hp, hrest⟩ := h.1 hbw
            rw [hsame _ hbw] at hp hrest
            rw [if_pos (hw.2 hbw)]
            refine hop o hp Kn K (fun v w' loc' hpost => hKn _ _ ?_)
            exact ih _ _ _ _ loc' hz' (hb.post hpost) (rel_post hr hpost (hnew_aop hp) o.dst) hrest
          · have hb2 : b = !want := by cases b <;> cases want <;> simp_all
            have hrest := h.2 hb2
            rw [hsame _ hb2] at hrest
            rw [if_neg (fun hh => hbw (hw.1 hh))]
            refine hKn _ _ ?_
            refine ih _ _ _ _ loc hz' hb ?_ hrest
            exact rel_post (wr := false) hr (Post.pure undef_R hr.heap hr.env) (fun id b h => .inl (by rw [h]; simp)) o.dst
        · rename_i hsd
          have hval := hr.slots d
          simp only at hval
          rw [hsd] at hval
          rw [if_neg (by simp [Region.wanted, hg, yielded_none hgs (tup_R hval)])]
          refine hKn _ _ ?_
          refine ih _ _ _ _ loc hz' hb ?_ h
          exact rel_post (wr := false) hr (Post.pure undef_R hr.heap hr.env) (fun id b h => .inl (by rw [h]; simp)) o.dst
        · exact h.elim

/-- A drawn region does what the text's order does. -/
def DrawSound (P : Program) (S : FSpecs) (T : Types) : Prop :=
  ∀ (w0 : World) (E : Nat → Prop) (l : List Oper) (K : Exit → Act → World → Prop) (Q : List AV → Heap → Prop) (B : Bs) (nm : Nat) (sl : List AV) (H : Heap) (a : Act) (w : World) (loc : Loc) (id : Nat),
    drawOk T l = true → (∀ sl H a w loc, Base w0 B w loc → Rel' w0 E loc ⟨sl, H, nm + 8 * l.length⟩ a w → Q sl H → K .normal a w) → Base w0 B w loc →
    Rel' w0 E loc ⟨sl, H, nm⟩ a w → aops S T l nm l sl H Q → (Code.region id l.toArray true).wp P K a w

/-- What is asked of an abstract state, asked of a frame and a world. -/
def Low (w0 : World) (E : Nat → Prop) (B : Bs) (Q : Exit → ASt → Prop) : Exit → Act → World → Prop := fun e a w => ∃ σ, Rel w0 E B σ a w ∧ Q e σ

theorem least {p : Nat → Prop} : ∀ n, p n → ∃ m, p m ∧ m ≤ n ∧ ∀ k, p k → m ≤ k := by
  intro n
  induction n using Nat.strongRecOn with
  | _ n ih =>
    intro h
    by_cases hl : ∃ k, p k ∧ k < n
    · obtain ⟨k, hk, hlt⟩ := hl
      obtain ⟨m, h1, h2, h3⟩ := ih k hlt hk
      exact ⟨m, h1, by omega, h3⟩
    · refine ⟨n, h, Nat.le_refl _, fun k hk => ?_⟩
      rcases Nat.lt_or_ge k n with h' | h'
      · exact (hl ⟨k, hk, h'⟩).elim
      · exact h'

open Classical in
theorem rawp_sound {P : Program} {w0 : World} {E : Nat → Prop} {T : Types} {S : FSpecs} (hT : TOk P T) (hS : Fns P S) (hD : DrawSound P S T) {B : Bs} : ∀ (c : Code) (Q : Exit → ASt → Prop) (σ : ASt) (a : Act) (w : World),
    rawp S T c Q σ → Rel w0 E B σ a w → c.wp P (Low w0 E B Q) a w := by
  intro c
  induction c with
  | skip => intro Q σ a w h hr; exact wp_skip ⟨σ, hr, h⟩
  | label l => intro Q σ a w h hr; exact wp_label ⟨σ, hr, h⟩
  | ret => intro Q σ a w h hr; exact wp_ret ⟨σ, hr, h⟩
  | exit id => intro Q σ a w h hr; exact wp_exit ⟨σ, hr, h⟩
  | region id ops draw =>
    intro Q σ a w h hr
    obtain ⟨loc, hb, hr⟩ := hr
    obtain ⟨sl, H, nx⟩ := σ
    obtain ⟨hd, h⟩ := h
    have hK : ∀ sl H a w loc, Base w0 B w loc → Rel' w0 E loc ⟨sl, H, nx + 8 * ops.toList.length⟩ a w → regK (nx + 8 * ops.toList.length) Q sl H → Low w0 E B Q .normal a w := fun sl H a w loc h1 h2 h3 => ⟨_, ⟨loc, h1, h2⟩, h3⟩
    cases draw with
    | false => exact wp_region_list (aops_sound hT hS hK ops.toList nx sl H a w loc rfl hb hr h)
    | true => exact hD w0 E ops.toList _ _ B nx sl H a w loc id (hd rfl) hK hb hr h
  | seq x y ihx ihy =>
    intro Q σ a w h hr
    refine wp_seq (wp_mono (ihx _ σ a w h hr) ?_)
    rintro e a' w' ⟨σ', hr', hq⟩
    cases e with
    | normal => exact ihy Q σ' a' w' hq hr'
    | _ => exact ⟨σ', hr', hq⟩
  | cond c x y ihx ihy =>
    intro Q σ a w h hr
    simp only [rawp] at h
    obtain ⟨loc, hb, hr⟩ := hr
    split at h
    · rename_i t hc
      have hv := ev_R hr.slots c
      rw [hc] at hv
      have hv := hv.wv
      cases t with
      | true => exact wp_cond_true hv (ihx Q σ a w (h.1 rfl) ⟨loc, hb, hr⟩)
      | false => exact wp_cond_false hv (ihy Q σ a w (h.2 rfl) ⟨loc, hb, hr⟩)
    · exact h.elim
  | block id c ih =>
    intro Q σ a w h hr
    refine wp_block (wp_mono (ih _ σ a w h hr) ?_)
    rintro e a' w' ⟨σ', hr', hq⟩
    cases e with
    | exit id' =>
      simp only [blockK, Exit.inBlock] at hq ⊢
      split at hq
      · rename_i he; rw [if_pos he]; exact ⟨σ', hr', hq⟩
      · rename_i he; rw [if_neg he]; exact ⟨σ', hr', hq⟩
    | _ => exact ⟨σ', hr', hq⟩
  | loop c ih =>
    intro Q σ a w h hr
    obtain ⟨I, ⟨n0, σ0, hw0, hI0⟩, hround⟩ := h
    let p : Act → World → Nat → Prop := fun a w n => ∃ σ, Rel w0 E B σ a w ∧ I n σ
    have hleast : ∀ a w, (∃ n, p a w n) → ∃ m, p a w m ∧ ∀ k, p a w k → m ≤ k := fun a w ⟨n, hn⟩ => let ⟨m, h1, _, h3⟩ := least n hn; ⟨m, h1, h3⟩
    let μ : Act → World → Nat := fun a w => if h : ∃ n, p a w n then Classical.choose (hleast a w h) else 0
    refine wp_loop (fun a w => ∃ n, p a w n) μ ⟨n0, σ0, hw0 w0 E B a w hr, hI0⟩ ?_
    intro a w hex
    have hμ : μ a w = Classical.choose (hleast a w hex) := dif_pos hex
    obtain ⟨⟨σ1, hr1, hI1⟩, hmin⟩ := Classical.choose_spec (hleast a w hex)
    rw [← hμ] at hI1
    refine wp_mono (ih _ σ1 a w (hround _ σ1 hI1) hr1) ?_
    rintro e a' w' ⟨σ', hr', hq⟩
    cases e with
    | normal =>
      obtain ⟨m, σ2, hlt, hw2, hI2⟩ := hq
      have hp : p a' w' m := ⟨σ2, hw2 w0 E B a' w' hr', hI2⟩
      refine ⟨⟨m, hp⟩, ?_⟩
      have hμ' : μ a' w' = Classical.choose (hleast a' w' ⟨m, hp⟩) := dif_pos ⟨m, hp⟩
      have := (Classical.choose_spec (hleast a' w' ⟨m, hp⟩)).2 m hp
      rw [← hμ'] at this
      exact Nat.lt_of_le_of_lt this hlt
    | _ =>
      obtain ⟨σ2, hw2, hq⟩ := hq
      exact ⟨σ2, hw2 w0 E B a' w' hr', hq⟩
  | _ => intro Q σ a w h hr; exact h.elim

end Ax
end Go.Proofs.Ytbncglnlmcjplaa

/- A function whose text, said of abstract values, ends as is wanted does what is said of it. -/
namespace Go.Proofs.Ytbncglnlmcjplaa
namespace Ax
set_option linter.unusedSimpArgs false
set_option linter.unusedVariables false

mutual
def AV.ids : AV → List Nat
  | .agg xs => idsL xs
  | .tup xs => idsL xs
  | .fn _ cs => idsL cs
  | .ms id _ _ _ => [id]
  | .rf id _ _ _ => [id]
  | _ => []
def idsL : List AV → List Nat
  | [] => []
  | x :: xs => x.ids ++ idsL xs
end

def newIds : List Nat → List Nat → List Nat
  | acc, [] => acc
  | acc, id :: r => bif acc.contains id then newIds acc r else newIds (acc ++ [id]) r

def upTo : Nat → List Blk → List Nat
  | _, [] => []
  | k, _ :: r => k :: upTo (k + 1) r

def pinHeap : Nat → List Blk → Heap
  | _, [] => []
  | k, b :: r => put (pinHeap (k + 1) r) k b

def rvals (T : Types) (H : Heap) (sl : List AV) : List ResultVar → Prop × List AV
  | [] => (True, [])
  | .tmp t :: r => ((rvals T H sl r).1, slot sl t :: (rvals T H sl r).2)
  | .cell a t :: r => ((aLoad T t (slot sl a) H).p ∧ (rvals T H sl r).1, (aLoad T t (slot sl a) H).x :: (rvals T H sl r).2)

def rone : List AV → AV
  | [x] => x
  | l => .tup l

def EndsX (pins : List Blk) (q : Res) (x : AV) (σ : ASt) : Prop :=
  nodup (newIds (upTo 0 pins) x.ids) = true ∧ (pinsOf σ.H (newIds (upTo 0 pins) x.ids)).1 ∧ (pinsOf σ.H (newIds (upTo 0 pins) x.ids)).2 = q.bl ∧ q.x.ren (gOf (newIds (upTo 0 pins) x.ids) σ.nx) = x

def Ends (T : Types) (rs : List ResultVar) (pins : List Blk) (q : Res) : Exit → ASt → Prop
  | .normal, σ => (rvals T σ.H σ.sl rs).1 ∧ EndsX pins q (rone (rvals T σ.H σ.sl rs).2) σ
  | .ret, σ => (rvals T σ.H σ.sl rs).1 ∧ EndsX pins q (rone (rvals T σ.H σ.sl rs).2) σ
  | _, _ => False

theorem ren_leaf_eq (g : Nat → Nat) (x : AV) : (x.ren g).leaf = x.leaf := by cases x <;> rfl

/-- A value told under the names that a call gives to its caller. -/
theorem unren {w : World} {loc loc2 : Loc} {g : Nat → Nat} (hg : ∀ k, loc2.m k = loc.m (g k)) (hb : loc2.bad = loc.bad) {y : AV} {v : Value} (h : R w loc y v) : ∀ x : AV, x.ren g = y → R w loc2 x v := by
  have hM : ∀ b, Mut loc2 b → Mut loc b := by
    rintro b (h | ⟨k, h⟩)
    · exact .inl (hb ▸ h)
    · exact .inr ⟨g k, (hg k) ▸ h⟩
  have hC : ∀ {a cs}, Cells w loc a cs → Cells w loc2 a cs := fun h => h.move (fun b _ hm => hM b hm)
  induction h with
  | w v h => intro x e; cases x <;> simp only [AV.ren] at e <;> cases e; exact .w v h
  | str bs => intro x e; cases x <;> simp only [AV.ren] at e <;> cases e; exact .str bs
  | agg xs cs hl hx _ ih =>
    intro x e
    cases x <;> simp only [AV.ren] at e <;> cases e
    rename_i ys _
    obtain ⟨h1, h2⟩ := renL_get g ys
    refine .agg ys cs (by rw [← h1]; exact hl) (fun j hj => ?_) (fun j a b => ?_)
    · have := hx j (by rw [h1]; exact hj)
      rw [h2 j (by rw [h1]; exact hj) hj, ren_leaf_eq] at this
      exact this
    · exact ih j (by rw [h1]; exact a) b ys[j] (h2 j _ a).symm
  | tup xs cs hl _ ih =>
    intro x e
    cases x <;> simp only [AV.ren] at e <;> cases e
    rename_i ys _
    obtain ⟨h1, h2⟩ := renL_get g ys
    refine .tup ys cs (by rw [← h1]; exact hl) (fun j a b => ?_)
    exact ih j (by rw [h1]; exact a) b ys[j] (h2 j _ a).symm
  | sb bs full a cap hd hc => intro x e; cases x <;> simp only [AV.ren] at e <;> cases e; exact .sb bs full a cap hd (hC hc)
  | si ns full a cap hd hc => intro x e; cases x <;> simp only [AV.ren] at e <;> cases e; exact .si ns full a cap hd (hC hc)
  | sg s xs full a cap cs hd hs hc hl hx h _ =>
    intro x e; cases x <;> simp only [AV.ren] at e <;> cases e
    exact .sg s xs full a cap cs hd hs (hC hc) hl hx (fun j a b => (h j a b).move (fun b _ hm => hM b hm) (hx j a).2)
  | cp ls a cs hc hn hl hx h _ =>
    intro x e; cases x <;> simp only [AV.ren] at e <;> cases e
    exact .cp ls a cs (hC hc) hn hl hx (fun j a b => (h j a b).move (fun b _ hm => hM b hm) (hx j a).2)
  | ms id s off len v h =>
    intro x e; cases x <;> simp only [AV.ren] at e <;> cases e
    refine .ms _ s off len v ?_
    unfold Owns at h ⊢
    rw [hg]; exact h
  | rf id s i f v h =>
    intro x e; cases x <;> simp only [AV.ren] at e <;> cases e
    refine .rf _ s i f v ?_
    unfold Points at h ⊢
    rw [hg]; exact h
  | fn f caps cs hl _ ih =>
    intro x e
    cases x <;> simp only [AV.ren] at e <;> cases e
    rename_i ys _
    obtain ⟨h1, h2⟩ := renL_get g ys
    refine .fn f ys cs (by rw [← h1]; exact hl) (fun j a b => ?_)
    exact ih j (by rw [h1]; exact a) b ys[j] (h2 j _ a).symm
  | junk v =>
    intro x e; cases x <;> simp only [AV.ren] at e <;> cases e
    exact .junk v

mutual
theorem ids_live {w : World} {loc : Loc} {id : Nat} : ∀ (x : AV) (v : Value), R w loc x v → id ∈ x.ids → loc.m id ≠ .free
  | .agg xs, v, h, hi => by
    cases h with
    | agg _ cs hl hx h => exact idsL_live xs cs hl h (by simpa [AV.ids] using hi)
  | .tup xs, v, h, hi => by
    cases h with
    | tup _ cs hl h => exact idsL_live xs cs hl h (by simpa [AV.ids] using hi)
  | .fn f xs, v, h, hi => by
    cases h with
    | fn _ _ cs hl h => exact idsL_live xs cs hl h (by simpa [AV.ids] using hi)
  | .ms id' s off len, v, h, hi => by
    obtain rfl : id = id' := by simpa [AV.ids] using hi
    cases h with
    | ms _ _ _ _ _ h => intro e; simp [Owns, e] at h
  | .rf id' s i f, v, h, hi => by
    obtain rfl : id = id' := by simpa [AV.ids] using hi
    cases h with
    | rf _ _ _ _ _ h => intro e; simp [Points, e] at h
  | .w _, _, _, hi => by simp [AV.ids] at hi
  | .str _, _, _, hi => by simp [AV.ids] at hi
  | .sb _ _, _, _, hi => by simp [AV.ids] at hi
  | .si _ _, _, _, hi => by simp [AV.ids] at hi
  | .sg _ _ _, _, _, hi => by simp [AV.ids] at hi
  | .cp _, _, _, hi => by simp [AV.ids] at hi
  | .junk, _, _, hi => by simp [AV.ids] at hi
theorem idsL_live {w : World} {loc : Loc} {id : Nat} : ∀ (xs : List AV) (vs : List Value), xs.length = vs.length → (∀ (j : Nat) (h : j < xs.length) (h' : j < vs.length), R w loc xs[j] vs[j]) → id ∈ idsL xs → loc.m id ≠ .free
  | [], _, _, _, hi => by simp [idsL] at hi
  | x :: xs, [], hl, _, _ => by simp at hl
  | x :: xs, v :: vs, hl, h, hi => by
    simp only [idsL, List.mem_append] at hi
    rcases hi with hi | hi
    · exact ids_live x v (h 0 (by simp) (by simp)) hi
    · exact idsL_live xs vs (by simpa using hl) (fun j a b => h (j + 1) (by simpa using a) (by simpa using b)) hi
end

theorem newIds_mem : ∀ (l acc : List Nat), (∃ t, newIds acc l = acc ++ t) ∧ ∀ id ∈ newIds acc l, id ∈ acc ∨ id ∈ l
  | [], acc => ⟨⟨[], by simp [newIds]⟩, fun id h => .inl h⟩
  | i :: r, acc => by
    unfold newIds
    cases hc : acc.contains i with
    | true =>
      obtain ⟨⟨t, h1⟩, h2⟩ := newIds_mem r acc
      exact ⟨⟨t, h1⟩, fun id h => (h2 id h).imp_right (by simp; exact .inr)⟩
    | false =>
      obtain ⟨⟨t, h1⟩, h2⟩ := newIds_mem r (acc ++ [i])
      refine ⟨⟨i :: t, by simp [h1]⟩, fun id h => ?_⟩
      rcases h2 id h with h | h
      · rcases List.mem_append.1 h with h | h
        · exact .inl h
        · exact .inr (by simp at h; simp [h])
      · exact .inr (by simp [h])

theorem upTo_get : ∀ (l : List Blk) (k : Nat), (upTo k l).length = l.length ∧ ∀ (j : Nat) (h : j < (upTo k l).length), (upTo k l)[j] = k + j
  | [], k => ⟨rfl, fun j h => by simp [upTo] at h⟩
  | b :: r, k => by
    obtain ⟨h1, h2⟩ := upTo_get r (k + 1)
    refine ⟨by simp [upTo, h1], fun j h => ?_⟩
    cases j with
    | zero => simp [upTo]
    | succ j =>
      have := h2 j (by simpa [upTo] using h)
      simp only [upTo, List.getElem_cons_succ]
      omega

theorem pinHeap_look : ∀ (l : List Blk) (k id : Nat) (b : Blk), look (pinHeap k l) id = some b → ∃ j, ∃ h : j < l.length, id = k + j ∧ l[j] = b
  | [], k, id, b, h => by simp [pinHeap, look] at h
  | c :: r, k, id, b, h => by
    simp only [pinHeap] at h
    rw [look_put] at h
    split at h
    · rename_i e
      injection h with h
      exact ⟨0, by simp, by omega, by simpa using h⟩
    · obtain ⟨j, hj, h1, h2⟩ := pinHeap_look r (k + 1) id b h
      exact ⟨j + 1, by simpa using hj, by omega, by simpa using h2⟩

theorem rvals_R {T : Types} {H : Heap} {P : Program} (hT : TOk P T) {w : World} {loc : Loc} (hh : HR w loc H) {sl : List AV} {tmps : Array Value} (hs : ∀ t, R w loc (slot sl t) (tmps.getD t undef)) : ∀ (rs : List ResultVar), (rvals T H sl rs).1 →
    ∃ vs : List Value, (rvals T H sl rs).2.length = vs.length ∧ (∀ (j : Nat) (h : j < (rvals T H sl rs).2.length) (h' : j < vs.length), R w loc (rvals T H sl rs).2[j] vs[j]) ∧
      (rs.mapM (m := Sem) fun | .tmp t => pure (tmps.getD t undef) | .cell a t => do loadVar t (← asAddr (tmps.getD a undef))).run P w = .ok vs w
  | [], _ => ⟨[], rfl, fun j h => by simp [rvals] at h, by simp⟩
  | .tmp t :: r, h => by
    obtain ⟨vs, h1, h2, h3⟩ := rvals_R hT hh hs r h
    refine ⟨tmps.getD t undef :: vs, by simp [rvals, h1], fun j a b => ?_, ?_⟩
    · cases j with
      | zero => exact hs t
      | succ j => exact h2 j (by simpa [rvals] using a) (by simpa using b)
    · simp only [List.mapM_cons, Sem.run_bind, Sem.run_pure, Result.andThen_ok, h3]
  | .cell x t :: r, h => by
    obtain ⟨vs, h1, h2, h3⟩ := rvals_R hT hh hs r h.2
    obtain ⟨u, g1, g2, _⟩ := load_sound (P := P) hT hh (hs x) h.1
    have hptr : ∃ q, tmps.getD x undef = .pointer (some q) := by
      have hx := hs x
      have hp := h.1
      unfold aLoad at hp
      generalize tmps.getD x undef = v at hx ⊢
      generalize slot sl x = y at hx hp
      cases ht : T t with
      | none => rw [ht] at hp; exact False.elim hp
      | some ti =>
        rw [ht] at hp
        simp only at hp
        cases hx with
        | cp ls a cs _ _ _ _ _ => exact ⟨a, rfl⟩
        | rf id s i f v h =>
          simp only at hp
          cases hl : look H id with
          | none => rw [hl] at hp; exact False.elim hp
          | some blk =>
            have hb := hh id blk hl
            unfold Points at h
            unfold BlkR at hb
            split at h
            · exact h.elim
            · rename_i e; rw [e] at hb; exact hb.elim
            · exact h.elim
            · rename_i b e
              rw [e] at hb
              simp only [hl, Out.and] at hp
              rw [refV_ptr (by rw [hp.1.1]; exact Nat.ne_of_gt (size_pos hb.1))] at h
              exact ⟨_, h⟩
        | _ => exact False.elim hp
    obtain ⟨q, hq⟩ := hptr
    have g3 : (loadVar t q).run P w = .ok u w := by
      rw [hq] at g1
      simpa [Instr.loadAt, Instr.sureAddr] using g1
    have g4 : (do loadVar t (← asAddr (tmps.getD x undef)) : Sem Value).run P w = .ok u w := by
      rw [hq]; simpa [asAddr] using g3
    refine ⟨u :: vs, by simp [rvals, h1], fun j a b => ?_, ?_⟩
    · cases j with
      | zero => exact g2
      | succ j => exact h2 j (by simpa [rvals] using a) (by simpa using b)
    · rw [List.mapM_cons, Sem.run_bind]
      refine (congrArg (fun r => Result.andThen r _) g4).trans ?_
      simp only [Result.andThen_ok, Sem.run_bind, h3, Sem.run_pure]

theorem results_R {T : Types} {H : Heap} {P : Program} (hT : TOk P T) {fn : Func} {w : World} {loc : Loc} (hh : HR w loc H) {sl : List AV} {tmps : Array Value} (hs : ∀ t, R w loc (slot sl t) (tmps.getD t undef)) (h : (rvals T H sl fn.results.toList).1) :
    ∃ v, (results fn tmps).run P w = .ok v w ∧ R w loc (rone (rvals T H sl fn.results.toList).2) v := by
  obtain ⟨vs, h1, h2, h3⟩ := rvals_R hT hh hs fn.results.toList h
  have key : ∀ (A : Array ResultVar), (A.toList.mapM (m := Sem) fun | .tmp t => pure (tmps.getD t undef) | .cell a t => do loadVar t (← asAddr (tmps.getD a undef))).run P w = .ok vs w →
      (A.mapM (m := Sem) fun | .tmp t => pure (tmps.getD t undef) | .cell a t => do loadVar t (← asAddr (tmps.getD a undef))).run P w = .ok vs.toArray w := by
    rintro ⟨l⟩ h
    rw [List.mapM_toArray, ← bind_pure_comp, Sem.run_bind]
    simp only at h
    rw [h]
    rfl
  have e : (results fn tmps).run P w = .ok (if h : vs.toArray.size = 1 then vs.toArray[0] else .tuple vs.toArray) w := by
    unfold results
    rw [Sem.run_bind]
    exact congrArg (fun r => Result.andThen r _) (key _ h3)
  refine ⟨_, e, ?_⟩
  generalize (rvals T H sl fn.results.toList).2 = xs at h1 h2 ⊢
  match xs, vs, h1, h2 with
  | [], [], _, _ => exact .tup [] [] rfl (by simp)
  | [x], [v], _, h2 => exact h2 0 (by simp) (by simp)
  | x :: y :: xs, v :: u :: vs, hl, h2 =>
    rw [dif_neg (by simp)]
    exact .tup _ (v :: u :: vs) hl h2

theorem nodup_inj : ∀ {l : List Nat}, l.Nodup → ∀ {i j : Nat} {hi : i < l.length} {hj : j < l.length}, l[i] = l[j] → i = j
  | [], _, i, j, hi, _, _ => by simp at hi
  | x :: l, h, i, j, hi, hj, e => by
    rw [List.nodup_cons] at h
    cases i with
    | zero => cases j with
      | zero => rfl
      | succ j => exact (h.1 (by simp at e; rw [e]; exact List.getElem_mem _)).elim
    | succ i => cases j with
      | zero => exact (h.1 (by simp at e; rw [← e]; exact List.getElem_mem _)).elim
      | succ j =>
        have := nodup_inj h.2 (i := i) (j := j) (hi := by simpa using hi) (hj := by simpa using hj) (by simpa using e)
        omega

theorem sound_gen {P : Program} {T : Types} {S : FSpecs} (hT : TOk P T) (hS : Fns P S) (hD : DrawSound P S T) {f : FuncId} {fn : Func} {c : Code} (hf : P.funcs[f]? = some fn) (hb : fn.body = some c) {spec : FSpec} {Qp : List AV → List Blk → Exit → ASt → Prop}
    (hqp : ∀ xs pins e σ, Qp xs pins e σ → ∃ σ', Weak σ σ' ∧ Ends T fn.results.toList pins (spec xs pins) e σ')
    (h : ∀ xs pins, (spec xs pins).p → closedB pins = true → pins.length ≤ 4 ∧ rawp S T c (Qp xs pins) ⟨xs ++ List.replicate (fn.ntmps - xs.length) .junk, pinHeap 0 pins, 4⟩) : Sound P f spec := by
  intro xs pins hp hcl w bad pb vs hlen hnd hbad hlies hxl hx
  obtain ⟨hp4, h⟩ := h xs pins hp hcl
  refine calls_of_wp hf hb ?_
  have hrel : Rel w (· ∈ pb) ⟨bad, pb⟩ ⟨xs ++ List.replicate (fn.ntmps - xs.length) .junk, pinHeap 0 pins, 4⟩ { tmps := vs.toArray ++ Array.replicate (fn.ntmps - vs.toArray.size) undef, defers := [] } w := by
    refine ⟨locOf pb bad, ⟨⟨rfl, fun k hk cur e fz hh => ⟨cur, fz, hh, rfl⟩⟩, by simp only; omega, fun k hk => .inr ⟨by simp [locOf, List.getElem?_eq_getElem hk], fun cur e fz hh => ⟨cur, fz, hh, rfl⟩⟩⟩, ?_⟩
    refine ⟨by simp [hxl], fun t => ?_, ?_, ?_, ?_, rfl, fun id b hl => ?_⟩
    · simp only
      rw [slot_getD]
      by_cases ht : t < xs.length
      · have e1 : (xs ++ List.replicate (fn.ntmps - xs.length) AV.junk).getD t .junk = xs[t] := by simp [List.getElem?_append_left, ht]
        have e2 : (vs.toArray ++ Array.replicate (fn.ntmps - vs.toArray.size) undef).getD t undef = vs[t]'(by omega) := by
          have : t < vs.length := by omega
          simp [Array.getD_eq_getD_getElem?, Array.getElem?_append, this]
        rw [e1, e2]
        exact hx t ht _
      · have e1 : (xs ++ List.replicate (fn.ntmps - xs.length) AV.junk).getD t .junk = .junk := by
          rw [List.getD_eq_getElem?_getD, List.getElem?_append_right (by omega), List.getElem?_replicate]
          split <;> rfl
        rw [e1]; exact .junk _
    · intro id b hl
      obtain ⟨j, hj, rfl, rfl⟩ := pinHeap_look pins 0 id b hl
      have hj' : j < pb.length := by omega
      unfold BlkR
      have : (locOf pb bad).m (0 + j) = .here pb[j] := by simp [locOf, List.getElem?_eq_getElem hj']
      rw [this]
      exact hlies j hj hj'
    · refine ⟨rfl, rfl, rfl, Nat.le_refl _, fun _ _ _ => rfl, ?_, ?_, ?_⟩
      · intro i j b hi hj
        obtain ⟨h1, h2⟩ := locOf_at hi
        obtain ⟨h3, h4⟩ := locOf_at hj
        exact nodup_inj hnd (h2.trans h4.symm)
      · intro i b hi
        obtain ⟨h1, h2⟩ := locOf_at hi
        subst h2
        refine ⟨?_, .inr (List.getElem_mem h1)⟩
        obtain ⟨ob, hh⟩ := lies_live2 (hlies i (by omega) h1).2
        rcases Nat.lt_or_ge pb[i] w.heap.size with h' | h'
        · exact h'
        · rw [Array.getElem?_eq_none h'] at hh; cases hh
      · exact fun b hb => hbad b hb
    · intro id hid
      simp only at hid
      have : pb[id]? = none := List.getElem?_eq_none (by omega)
      simp [locOf, this]
    · obtain ⟨j, hj, rfl, _⟩ := pinHeap_look pins 0 id b hl
      simp; omega
  refine wp_mono (rawp_sound hT hS hD c _ _ _ w h hrel) ?_
  have main : ∀ a w' σ, Rel w (· ∈ pb) ⟨bad, pb⟩ σ a w' → (rvals T σ.H σ.sl fn.results.toList).1 ∧ EndsX pins (spec xs pins) (rone (rvals T σ.H σ.sl fn.results.toList).2) σ →
      a.defers = [] ∧ ∃ v, (results fn a.tmps).run P w' = .ok v w' ∧ ∃ v' loc', Ending.returned v = .returned v' ∧ Gives w bad pb (spec xs pins) v' w' loc' := by
    rintro a w' σ ⟨loc, hB, hr⟩ ⟨hrv, hnodup, hpin, hbl, hren⟩
    obtain ⟨v, hv, hR⟩ := results_R (P := P) (fn := fn) hT hr.heap hr.slots hrv
    refine ⟨hr.defers, v, hv, v, ?_⟩
    generalize rone (rvals T σ.H σ.sl fn.results.toList).2 = x at hnodup hpin hbl hren hR
    have hnd' := nodup_iff hnodup
    obtain ⟨hids1, hids2⟩ := newIds_mem x.ids (upTo 0 pins)
    obtain ⟨hu1, hu2⟩ := upTo_get pins 0
    generalize hids : newIds (upTo 0 pins) x.ids = ids at hnodup hpin hbl hren hnd' hids1 hids2
    obtain ⟨hpl, hpc, hpg⟩ := pinsOf_get hpin
    rw [hbl] at hpl hpc hpg
    obtain ⟨t, rfl⟩ := hids1
    have hm : pins.length ≤ (upTo 0 pins ++ t).length := by simp [hu1]
    have hold : ∀ k, (hk : k < pins.length) → (upTo 0 pins ++ t)[k]'(by omega) = k := by
      intro k hk
      rw [List.getElem_append_left (by omega)]
      have := hu2 k (by omega)
      omega
    -- every one of the names is alive
    have hlive : ∀ (k : Nat) (hk : k < (upTo 0 pins ++ t).length), loc.m (upTo 0 pins ++ t)[k] ≠ .free := by
      intro k hk
      rcases hids2 _ (List.getElem_mem hk) with hi | hi
      · obtain ⟨j, hj, he⟩ := List.getElem_of_mem hi
        rw [← he, hu2 j hj]
        have hj' : j < pb.length := by omega
        rcases hB.2.2 j hj' with h1 | ⟨h1, _⟩
        · rw [Nat.zero_add, h1]; simp
        · rw [Nat.zero_add, h1]; simp
      · exact ids_live x v hR hi
    have hblk : ∀ (k : Nat) (hk : k < (upTo 0 pins ++ t).length) (hk' : k < (spec xs pins).bl.length), BlkR w' loc (upTo 0 pins ++ t)[k] (spec xs pins).bl[k] := by
      intro k hk hk'
      refine hr.heap _ _ ?_
      rw [hpg k hk, List.getElem?_eq_getElem hk']
    have hdead : ∀ (k : Nat) (hk : k < (upTo 0 pins ++ t).length), loc.m (upTo 0 pins ++ t)[k] ≠ .dead := by
      intro k hk e
      have := hblk k hk (by omega)
      unfold BlkR at this
      rw [e] at this
      exact this
    let g : Nat → Nat := gOf (upTo 0 pins ++ t) σ.nx
    have hgo : ∀ k, (hk : k < (upTo 0 pins ++ t).length) → g k = (upTo 0 pins ++ t)[k] := fun k hk => gOf_old hk
    have hgn : ∀ k, (upTo 0 pins ++ t).length ≤ k → loc.m (g k) = .free := by
      intro k hk
      refine hr.fresh _ ?_
      show σ.nx ≤ gOf _ σ.nx k
      rw [gOf_new hk]; omega
    let loc' : Loc := { m := fun k => loc.m (g k), bad := loc.bad }
    have hlt : ∀ i b, loc'.m i = .here b → i < (upTo 0 pins ++ t).length := by
      intro i b hi
      rcases Nat.lt_or_ge i (upTo 0 pins ++ t).length with h' | h'
      · exact h'
      · have : loc'.m i = .free := hgn i h'
        rw [this] at hi; cases hi
    have hinj : ∀ i j b, loc'.m i = .here b → loc'.m j = .here b → i = j := by
      intro i j b hi hj
      have h1 := hlt i b hi
      have h2 := hlt j b hj
      have h3 : g i = g j := hr.env.inj (g i) (g j) b hi hj
      rw [hgo i h1, hgo j h2] at h3
      exact nodup_inj hnd' h3
    have hpb : ∀ (k : Nat) (hk : k < pb.length), loc'.m k = .here pb[k] ∧ ∀ cur e fz, w.heap[pb[k]]? = some (.cells cur e fz) → ∃ cur' fz', w'.heap[pb[k]]? = some (.cells cur' e fz') ∧ cur'.size = cur.size := by
      intro k hk
      have hk1 : k < pins.length := by omega
      have e : loc'.m k = loc.m k := by
        show loc.m (g k) = loc.m k
        rw [hgo k (by omega), hold k hk1]
      rcases hB.2.2 k hk with h1 | ⟨h1, h2⟩
      · have := hdead k (by omega)
        rw [hold k hk1] at this
        exact (this h1).elim
      · exact ⟨e.trans h1, h2⟩
    refine ⟨loc', rfl, ?_⟩
    refine ⟨unren (loc2 := loc') (g := g) (fun _ => rfl) rfl hR _ hren, hB.1.1, ?_, fun k hk => (hpb k hk).1, ?_, ?_, hinj, ?_⟩
    · intro k hk
      have hk' : k < (upTo 0 pins ++ t).length := by omega
      have e : loc'.m k = loc.m (upTo 0 pins ++ t)[k] := by show loc.m (g k) = _; rw [hgo k hk']
      refine ⟨?_, by rw [e]; exact hlive k hk', by rw [e]; exact hdead k hk'⟩
      have hb := hblk k hk' hk
      unfold BlkR at hb ⊢
      rw [e]
      split
      · trivial
      · rename_i e'; rw [e'] at hb; exact hb
      · rename_i e'; rw [e'] at hb; exact hb
      · rename_i b e'
        rw [e'] at hb
        refine ⟨hb.1, lies_move hb.2 (closedB_get hpc k hk) (.inr ?_)⟩
        rintro c _ (h | ⟨i, h⟩)
        · exact .inl h
        · exact .inr ⟨g i, h⟩
    · intro k b hk hkb
      have := hr.env.lies (g k) b hkb
      refine ⟨?_, this.1⟩
      rcases this.2 with h' | h'
      · exact h'
      · obtain ⟨j, hj, he⟩ := List.getElem_of_mem h'
        have h1 := (hpb j hj).1
        rw [he] at h1
        have := hinj k j b hkb h1
        omega
    · intro k hk
      exact hgn k (by omega)
    · refine ⟨hr.env.os, hr.env.tape, hr.env.output, hr.env.size, hr.env.same, ?_⟩
      rintro b cur e fz hb hh
      obtain ⟨j, hj, rfl⟩ := List.getElem_of_mem hb
      exact (hpb j hj).2 cur e fz hh
  rintro e a w' ⟨σ0, hr0, hq0⟩
  obtain ⟨σ, hwk, hq⟩ := hqp xs pins e σ0 hq0
  have hr := hwk _ _ _ _ _ hr0
  cases e with
  | normal => exact main a w' σ hr hq
  | ret => exact main a w' σ hr hq
  | _ => exact hq.elim

/-- The ending, told with less. -/
def EndsW (T : Types) (rs : List ResultVar) (pins : List Blk) (q : Res) : Exit → ASt → Prop := fun e σ => ∃ σ', Weak σ σ' ∧ Ends T rs pins q e σ'

theorem Weak.refl (σ : ASt) : Weak σ σ := fun _ _ _ _ _ h => h

end Ax
end Go.Proofs.Ytbncglnlmcjplaa

/- A region whose order is drawn: it does what the text's order does. -/
namespace Go.Proofs.Ytbncglnlmcjplaa
namespace Ax
set_option linter.unusedSimpArgs false
set_option linter.unusedVariables false

theorem backB_get {j : Nat} : ∀ {l : List Edge}, backB j l = true → ∀ e ∈ l, Region.binds .any e = true → e.on < j
  | [], _, e, h, _ => by simp at h
  | c :: r, hb, e, h, hx => by
    simp only [backB, Bool.and_eq_true, Bool.or_eq_true, Bool.not_eq_true', decide_eq_true_eq] at hb
    rcases List.mem_cons.1 h with h | h
    · subst h
      rcases hb.1 with h' | h'
      · rw [hx] at h'; cases h'
      · exact h'
    · exact backB_get hb.2 e h hx

theorem maskOf_get {acc : List Nat} {i : Nat} : ∀ {l : List Edge}, (maskOf acc l).testBit i = true → ∃ e ∈ l, Region.binds .any e = true ∧ (e.on = i ∨ (acc.getD e.on 0).testBit i = true)
  | [], h => by simp [maskOf] at h
  | e :: r, h => by
    unfold maskOf at h
    cases hb : Region.binds .any e with
    | false =>
      rw [hb] at h
      obtain ⟨c, h1, h2⟩ := maskOf_get h
      exact ⟨c, by simp [h1], h2⟩
    | true =>
      rw [hb] at h
      simp only [cond_true, Nat.testBit_or, Bool.or_eq_true] at h
      rcases h with h | h | h
      · refine ⟨e, by simp, hb, .inl ?_⟩
        rw [Nat.shiftLeft_eq, Nat.one_mul, Nat.testBit_two_pow] at h
        simpa using h
      · exact ⟨e, by simp, hb, .inr h⟩
      · obtain ⟨c, h1, h2⟩ := maskOf_get h
        exact ⟨c, by simp [h1], h2⟩

theorem masks_get {l : List Oper} : ∀ (r : List Oper) (acc : List Nat), l = l.take acc.length ++ r → acc.length + r.length = l.length →
    (∀ j i, (acc.getD j 0).testBit i = true → ∃ o, l[j]? = some o ∧ ∃ e ∈ o.after.toList, Region.binds .any e = true ∧ (e.on = i ∨ (acc.getD e.on 0).testBit i = true) ∧ (e.on < acc.length ∨ e.on = i)) →
    ∀ j i, ((masks acc r).getD j 0).testBit i = true → ∃ o, l[j]? = some o ∧ ∃ e ∈ o.after.toList, Region.binds .any e = true ∧ (e.on = i ∨ ((masks acc r).getD e.on 0).testBit i = true)
  | [], acc, h1, h2, h, j, i, hb => by
    obtain ⟨o, ho, e, he, h3, h4, _⟩ := h j i hb
    exact ⟨o, ho, e, he, h3, h4⟩
  | o :: r, acc, h1, h2, h, j, i, hb => by
    have hlen : acc.length < l.length := by simp at h2; omega
    have hat : l[acc.length]? = some o := by
      rw [h1, List.getElem?_append_right (by simp; omega)]
      have : acc.length - (l.take acc.length).length = 0 := by simp; omega
      rw [this]; rfl
    have hext : ∀ k i, (acc.getD k 0).testBit i = true → ((acc ++ [maskOf acc o.after.toList]).getD k 0).testBit i = true := by
      intro k i hk
      have : k < acc.length := by
        rcases Nat.lt_or_ge k acc.length with h' | h'
        · exact h'
        · simp [List.getD_eq_getElem?_getD, List.getElem?_eq_none h'] at hk
      simpa [List.getD_eq_getElem?_getD, List.getElem?_append_left this] using hk
    refine masks_get r (acc ++ [maskOf acc o.after.toList]) ?_ (by simp at h2 ⊢; omega) ?_ j i (by simpa [masks] using hb)
    · rw [List.length_append, List.length_singleton, List.take_add_one, hat]
      rw [List.append_assoc]
      exact h1
    · intro k i hk
      by_cases hkl : k < acc.length
      · have : (acc.getD k 0).testBit i = true := by simpa [List.getD_eq_getElem?_getD, List.getElem?_append_left hkl] using hk
        obtain ⟨o', ho', e, he, h3, h4, h5⟩ := h k i this
        exact ⟨o', ho', e, he, h3, h4.imp_right (hext _ _), h5.imp_left (by simp; omega)⟩
      · by_cases hke : k = acc.length
        · subst hke
          have : (maskOf acc o.after.toList).testBit i = true := by simpa [List.getD_eq_getElem?_getD] using hk
          obtain ⟨e, he, h3, h4⟩ := maskOf_get this
          refine ⟨o, hat, e, he, h3, h4.imp_right (hext _ _), ?_⟩
          rcases h4 with h4 | h4
          · exact .inr h4
          · left
            have : e.on < acc.length := by
              rcases Nat.lt_or_ge e.on acc.length with h' | h'
              · exact h'
              · simp [List.getD_eq_getElem?_getD, List.getElem?_eq_none h'] at h4
            simp; omega
        · have : (acc ++ [maskOf acc o.after.toList]).getD k 0 = 0 := by
            rw [List.getD_eq_getElem?_getD, List.getElem?_eq_none (by simp; omega)]; rfl
          rw [this] at hk
          simp at hk

/-- What stands before an operation by the edges. -/
theorem anc_listed {l : List Oper} {L : Nat → Prop} (hback : ∀ j o, l[j]? = some o → ∀ e ∈ o.after.toList, Region.binds .any e = true → e.on < j)
    (hcl : ∀ j o, l[j]? = some o → L j → ∀ e ∈ o.after.toList, Region.binds .any e = true → L e.on) : ∀ (n j i : Nat), j < n → ((masks [] l).getD j 0).testBit i = true → ∀ o, l[j]? = some o → (∀ e ∈ o.after.toList, Region.binds .any e = true → L e.on) → L i := by
  intro n
  induction n with
  | zero => intro j i h; omega
  | succ n ih =>
    intro j i hj hb o ho hr
    obtain ⟨o', ho', e, he, h3, h4⟩ := masks_get (l := l) l [] (by simp) (by simp) (fun j i h => by simp at h) j i hb
    rw [ho] at ho'; injection ho' with ho'; subst ho'
    have hl := hr e he h3
    rcases h4 with h4 | h4
    · rw [← h4]; exact hl
    · have hlt := hback j o ho e he h3
      obtain ⟨o2, ho2, _⟩ := masks_get (l := l) l [] (by simp) (by simp) (fun j i h => by simp at h) e.on i h4
      exact ih e.on i (by omega) h4 o2 ho2 (hcl e.on o2 ho2 hl)

def step (S : FSpecs) (T : Types) (ops : List Oper) (nm : Nat) (o : Oper) (s : List AV × Heap) : Prop × (List AV × Heap) :=
  match o.guard with
  | none => ((aop S T nm s.1 o.op s.2).p, (putSlot s.1 o.dst (aop S T nm s.1 o.op s.2).x, (aop S T nm s.1 o.op s.2).H))
  | some (j, want) => match guardSlot ops j with
    | none => (False, s)
    | some d => match slot s.1 d with
      | .w (.bool b) => if b = want then ((aop S T nm s.1 o.op s.2).p, (putSlot s.1 o.dst (aop S T nm s.1 o.op s.2).x, (aop S T nm s.1 o.op s.2).H)) else (True, (putSlot s.1 o.dst (.tup []), s.2))
      | .tup [] => (True, (putSlot s.1 o.dst (.tup []), s.2))
      | _ => (False, s)

def trace (S : FSpecs) (T : Types) (ops : List Oper) (nm : Nat) (s0 : List AV × Heap) : Nat → List AV × Heap
  | 0 => s0
  | k + 1 => match ops[k]? with
    | some o => (step S T ops (nm + 8 * k) o (trace S T ops nm s0 k)).2
    | none => trace S T ops nm s0 k

theorem aops_trace {S : FSpecs} {T : Types} {l : List Oper} {nm : Nat} {s0 : List AV × Heap} {Q : List AV → Heap → Prop} : ∀ (r : List Oper) (k : Nat), (∀ j, r[j]? = l[k + j]?) → k + r.length = l.length →
    aops S T l (nm + 8 * k) r (trace S T l nm s0 k).1 (trace S T l nm s0 k).2 Q →
    Q (trace S T l nm s0 l.length).1 (trace S T l nm s0 l.length).2 ∧ ∀ j o, k ≤ j → l[j]? = some o → (step S T l (nm + 8 * j) o (trace S T l nm s0 j)).1
  | [], k, hr, hl, h => by
    simp at hl
    subst hl
    refine ⟨h, fun j o hj ho => ?_⟩
    rw [List.getElem?_eq_none hj] at ho; cases ho
  | o :: r, k, hr, hl, h => by
    have ho : l[k]? = some o := by simpa using (hr 0).symm
    have hr' : ∀ j, r[j]? = l[k + 1 + j]? := fun j => by have := hr (j + 1); simpa [Nat.add_assoc, Nat.add_comm 1 j] using this
    have hl' : k + 1 + r.length = l.length := by simp at hl; omega
    have hmain : (step S T l (nm + 8 * k) o (trace S T l nm s0 k)).1 ∧ aops S T l (nm + 8 * (k + 1)) r (trace S T l nm s0 (k + 1)).1 (trace S T l nm s0 (k + 1)).2 Q := by
      have e : trace S T l nm s0 (k + 1) = (step S T l (nm + 8 * k) o (trace S T l nm s0 k)).2 := by simp only [trace, ho]
      rw [e, show nm + 8 * (k + 1) = nm + 8 * k + 8 by omega]
      generalize trace S T l nm s0 k = s at h ⊢
      unfold aops at h
      unfold step
      cases hg : o.guard with
      | none => simp only [hg] at h ⊢; exact h
      | some g =>
        obtain ⟨j, want⟩ := g
        simp only [hg] at h ⊢
        cases hgs : guardSlot l j with
        | none => simp only [hgs] at h
        | some d =>
          simp only [hgs] at h ⊢
          split at h
          · rename_i b hsd
            simp only [hsd]
            have hsame : ∀ b', b = b' → setSlot s.1 d (.w (.bool b')) = s.1 := by
              rintro b' rfl
              have := setSlot_same s.1 d
              rw [hsd] at this; exact this
            by_cases hbw : b = want
            · have h := h.1 hbw
              rw [hsame _ hbw] at h
              rw [if_pos hbw]; exact h
            · have hb2 : b = !want := by cases b <;> cases want <;> simp_all
              have h := h.2 hb2
              rw [hsame _ hb2] at h
              rw [if_neg hbw]; exact ⟨trivial, h⟩
          · rename_i hsd
            simp only [hsd]
            exact ⟨trivial, h⟩
          · exact h.elim
    obtain ⟨h1, h2⟩ := aops_trace r (k + 1) hr' hl' hmain.2
    refine ⟨h1, fun j o' hj ho' => ?_⟩
    rcases Nat.lt_or_ge k j with h' | h'
    · exact h2 j o' h' ho'
    · obtain rfl : j = k := by omega
      rw [ho] at ho'; injection ho' with ho'; subst ho'
      exact hmain.1

section
variable {S : FSpecs} {T : Types} {l : List Oper} {nm : Nat} {s0 : List AV × Heap}

theorem cond_le {b : Bool} {x y n : Nat} (hx : x ≤ n) (hy : y ≤ n) : (bif b then x else y) ≤ n := by cases b <;> assumption
theorem kind_le (T : Types) (op : Op) : kindOf T op ≤ 2 := by
  unfold kindOf
  repeat' split
  all_goals repeat' (first | omega | apply cond_le)

theorem step_facts {k : Nat} {o : Oper} {s : List AV × Heap} (hp : (step S T l (nm + 8 * k) o s).1) :
    (∃ x, (step S T l (nm + 8 * k) o s).2.1 = putSlot s.1 o.dst x) ∧ Hnew (nm + 8 * k) s.2 ⟨True, .junk, (step S T l (nm + 8 * k) o s).2.2⟩ ∧
    (kindOf T o.op ≤ 1 → ∀ id, ¬ (nm + 8 * k ≤ id ∧ id < nm + 8 * k + 8) → look (step S T l (nm + 8 * k) o s).2.2 id = look s.2 id) ∧
    (kindOf T o.op = 0 → (step S T l (nm + 8 * k) o s).2.2 = s.2) := by
  have hplain : (aop S T (nm + 8 * k) s.1 o.op s.2).p → Hnew (nm + 8 * k) s.2 ⟨True, .junk, (aop S T (nm + 8 * k) s.1 o.op s.2).H⟩ ∧
      (kindOf T o.op ≤ 1 → ∀ id, ¬ (nm + 8 * k ≤ id ∧ id < nm + 8 * k + 8) → look (aop S T (nm + 8 * k) s.1 o.op s.2).H id = look s.2 id) ∧
      (kindOf T o.op = 0 → (aop S T (nm + 8 * k) s.1 o.op s.2).H = s.2) := by
    intro hp
    refine ⟨fun _ => hnew_aop hp, fun hk id hid => ?_, fun hk => (pu_aop (H := s.2) hk hp).2.2⟩
    exact hok_aop hk hp id hid
  have hskip : Hnew (nm + 8 * k) s.2 ⟨True, .junk, s.2⟩ := fun _ id b h => .inl (by simp only at h; rw [h]; simp)
  unfold step at hp ⊢
  cases hg : o.guard with
  | none =>
    simp only [hg] at hp ⊢
    obtain ⟨h1, h2, h3⟩ := hplain hp
    exact ⟨⟨_, rfl⟩, h1, h2, h3⟩
  | some g =>
    obtain ⟨j, want⟩ := g
    simp only [hg] at hp ⊢
    cases hgs : guardSlot l j with
    | none => simp [hgs] at hp
    | some d =>
      simp only [hgs] at hp ⊢
      cases hsd : slot s.1 d with
      | w v =>
        cases v with
        | bool b =>
          simp only [hsd] at hp ⊢
          by_cases hbw : b = want
          · rw [if_pos hbw] at hp ⊢
            obtain ⟨h1, h2, h3⟩ := hplain hp
            exact ⟨⟨_, rfl⟩, h1, h2, h3⟩
          · rw [if_neg hbw] at hp ⊢
            exact ⟨⟨_, rfl⟩, hskip, fun _ _ _ => rfl, fun _ => rfl⟩
        | _ => simp [hsd] at hp
      | tup xs =>
        cases xs with
        | nil =>
          simp only [hsd] at hp ⊢
          exact ⟨⟨_, rfl⟩, hskip, by simp, by simp⟩
        | cons _ _ => simp [hsd] at hp
      | _ => simp [hsd] at hp

variable (hst : ∀ j o, l[j]? = some o → (step S T l (nm + 8 * j) o (trace S T l nm s0 j)).1)
include hst

theorem trace_length : ∀ k, (trace S T l nm s0 k).1.length = s0.1.length
  | 0 => rfl
  | k + 1 => by
    simp only [trace]
    split
    · rename_i o ho
      obtain ⟨⟨x, hx⟩, _⟩ := step_facts (hst k o ho)
      rw [hx, putSlot_length, trace_length k]
    · exact trace_length k

theorem trace_slot {t : Tmp} {i k : Nat} (hik : i ≤ k) (h : ∀ j o, i ≤ j → j < k → l[j]? = some o → o.dst ≠ some t) : slot (trace S T l nm s0 k).1 t = slot (trace S T l nm s0 i).1 t := by
  induction k with
  | zero => obtain rfl : i = 0 := by omega
            rfl
  | succ k ih =>
    by_cases hk : i = k + 1
    · rw [hk]
    · rw [← ih (by omega) (fun j o h1 h2 h3 => h j o h1 (by omega) h3)]
      simp only [trace]
      split
      · rename_i o ho
        obtain ⟨⟨x, hx⟩, _⟩ := step_facts (hst k o ho)
        rw [hx]
        have := h k o (by omega) (by omega) ho
        cases hd : o.dst with
        | none => rfl
        | some d => exact slot_set_other (fun e => this (by rw [hd, e]))
      · rfl

theorem trace_low (h0 : ∀ id b, look s0.2 id = some b → id < nm) : ∀ k id b, look (trace S T l nm s0 k).2 id = some b → id < nm + 8 * k
  | 0, id, b, h => by simpa using h0 id b h
  | k + 1, id, b, h => by
    simp only [trace] at h
    split at h
    · rename_i o ho
      obtain ⟨_, hn, _⟩ := step_facts (hst k o ho)
      rcases hn trivial id b h with h' | h'
      · cases h2 : look (trace S T l nm s0 k).2 id with
        | none => exact (h' h2).elim
        | some c => have := trace_low h0 k id c h2; omega
      · omega
    · have := trace_low h0 k id b h; omega

/-- A name that a later text does not make: it was there. -/
theorem trace_back {id i k : Nat} (hik : i ≤ k) {b : Blk} (hl : look (trace S T l nm s0 k).2 id = some b) :
    look (trace S T l nm s0 i).2 id ≠ none ∨ ∃ j o, i ≤ j ∧ j < k ∧ l[j]? = some o ∧ kindOf T o.op ≠ 0 ∧ nm + 8 * j ≤ id ∧ id < nm + 8 * j + 8 := by
  induction k generalizing b with
  | zero => obtain rfl : i = 0 := by omega
            exact .inl (by rw [hl]; simp)
  | succ k ih =>
    by_cases hk : i = k + 1
    · subst hk; exact .inl (by rw [hl]; simp)
    · simp only [trace] at hl
      split at hl
      · rename_i o ho
        obtain ⟨_, hn, _, h0⟩ := step_facts (hst k o ho)
        by_cases hz : kindOf T o.op = 0
        · rw [h0 hz] at hl
          rcases ih (by omega) hl with h | ⟨j, o, h1, h2, h3⟩
          · exact .inl h
          · exact .inr ⟨j, o, h1, by omega, h3⟩
        rcases hn trivial id b hl with h' | h'
        · cases h2 : look (trace S T l nm s0 k).2 id with
          | none => exact (h' h2).elim
          | some c =>
            rcases ih (by omega) h2 with h | ⟨j, o, h1, h2, h3⟩
            · exact .inl h
            · exact .inr ⟨j, o, h1, by omega, h3⟩
        · exact .inr ⟨k, o, by omega, by omega, ho, hz, h'⟩
      · rcases ih (by omega) hl with h | ⟨j, o, h1, h2, h3⟩
        · exact .inl h
        · exact .inr ⟨j, o, h1, by omega, h3⟩

theorem trace_keep {id i k : Nat} (hik : i ≤ k) (hn : ∀ j o, i ≤ j → j < k → l[j]? = some o → kindOf T o.op ≤ 1 ∧ (kindOf T o.op = 0 ∨ ¬ (nm + 8 * j ≤ id ∧ id < nm + 8 * j + 8))) :
    look (trace S T l nm s0 k).2 id = look (trace S T l nm s0 i).2 id := by
  induction k with
  | zero => obtain rfl : i = 0 := by omega
            rfl
  | succ k ih =>
    by_cases hk : i = k + 1
    · rw [hk]
    · rw [← ih (by omega) (fun j o h1 h2 h3 => hn j o h1 (by omega) h3)]
      simp only [trace]
      split
      · rename_i o ho
        obtain ⟨_, _, h1, h0⟩ := step_facts (hst k o ho)
        obtain ⟨h2, h3⟩ := hn k o (by omega) (by omega) ho
        rcases h3 with h3 | h3
        · rw [h0 h3]
        · exact h1 h2 id h3
      · rfl
end


def Ls (listed : Array Bool) (i : Nat) : Prop := listed.getD i false = true

theorem ls_set {listed : Array Bool} {i j : Nat} (hi : i < listed.size) : Ls (listed.setIfInBounds i true) j ↔ j = i ∨ Ls listed j := by
  unfold Ls
  by_cases h : j = i
  · subst h; simp [hi]
  · have : (listed.setIfInBounds i true).getD j false = listed.getD j false := getD_set_ne false (fun e => h e.symm)
    rw [this]; simp [h]

theorem count_set : ∀ (l : List Bool) (i : Nat), l.getD i true = false → (l.set i true).count false + 1 = l.count false
  | [], i, h => by simp at h
  | b :: r, 0, h => by
    obtain rfl : b = false := by simpa using h
    simp
  | b :: r, i + 1, h => by
    have := count_set r i (by simpa using h)
    simp only [List.set_cons_succ, List.count_cons]
    omega

section
variable {P : Program} {S : FSpecs} {T : Types} {l : List Oper} {nm : Nat} {s0 : List AV × Heap} {w0 : World} {E : Nat → Prop} {B : Bs}

structure Inv (S : FSpecs) (T : Types) (l : List Oper) (nm : Nat) (s0 : List AV × Heap) (w0 : World) (E : Nat → Prop) (B : Bs) (listed : Array Bool) (a : Act) (w : World) (loc : Loc) : Prop where
  sizel : listed.size = l.length
  size : a.tmps.size = s0.1.length
  slots : ∀ t k, k ≤ l.length → (∀ i o, l[i]? = some o → o.dst = some t → (Ls listed i ↔ i < k)) → R w loc (slot (trace S T l nm s0 k).1 t) (a.tmps.getD t undef)
  heap : ∀ k, k ≤ l.length → (∀ i o, l[i]? = some o → kindOf T o.op = 2 → (Ls listed i ↔ i < k)) → HR w loc (trace S T l nm s0 k).2
  closed : ∀ j o, l[j]? = some o → Ls listed j → ∀ e ∈ o.after.toList, Region.binds .any e = true → Ls listed e.on
  fresh : ∀ i, ¬ Ls listed i → i < l.length → ∀ id, nm + 8 * i ≤ id → id < nm + 8 * i + 8 → loc.m id = .free
  high : ∀ id, nm + 8 * l.length ≤ id → loc.m id = .free
  env : Env w0 E w loc
  base : Base w0 B w loc
  defers : a.defers = []

/-- What the check says. -/
structure Good (T : Types) (l : List Oper) : Prop where
  back : ∀ j o, l[j]? = some o → ∀ e ∈ o.after.toList, Region.binds .any e = true → e.on < j
  clash : ∀ i j x y, i < j → l[i]? = some x → l[j]? = some y → clash T l x y = true → ((masks [] l).getD j 0).testBit i = true

theorem good_of (h : drawOk T l = true) : Good T l := by
  unfold drawOk at h
  have h := List.all_eq_true.1 h
  have hlt : ∀ {j : Nat} {o : Oper}, l[j]? = some o → j < l.length := fun h => (List.getElem?_eq_some_iff.1 h).1
  refine ⟨fun j o ho => ?_, fun i j x y hij hx hy hc => ?_⟩
  · have := h j (List.mem_range.2 (hlt ho))
    simp only [ho, Bool.and_eq_true] at this
    exact backB_get this.1
  · have := h j (List.mem_range.2 (hlt hy))
    simp only [hy, Bool.and_eq_true] at this
    have := List.all_eq_true.1 this.2 i (List.mem_range.2 hij)
    simp only [hx, hc, Bool.not_true, Bool.false_or] at this
    exact this

theorem clash_dst {x y : Oper} {d : Tmp} (hd : x.dst = some d) (h : d ∈ y.looksAt l.toArray ∨ y.dst = some d) : clash T l x y = true := by
  unfold clash
  rw [hd]
  rcases h with h | h
  · simp [h]
  · simp [h]
theorem clash_look {x y : Oper} {d : Tmp} (hd : y.dst = some d) (h : d ∈ x.looksAt l.toArray) : clash T l x y = true := by
  unfold clash
  rw [hd]
  simp [h]
theorem clash_kind {x y : Oper} (h : (kindOf T x.op = 2 ∧ kindOf T y.op ≠ 0) ∨ (kindOf T y.op = 2 ∧ kindOf T x.op ≠ 0)) : clash T l x y = true := by
  unfold clash
  rcases h with ⟨h1, h2⟩ | ⟨h1, h2⟩
  · simp [h1, h2]
  · simp [h1, h2]

variable {listed : Array Bool} {a : Act} {w : World} {loc : Loc} {i : Nat} {o : Oper}

theorem look_now (hg : Good T l) (inv : Inv S T l nm s0 w0 E B listed a w loc) (ho : l[i]? = some o) (hnl : ¬ Ls listed i) (hrd : ∀ e ∈ o.after.toList, Region.binds .any e = true → Ls listed e.on) {t : Tmp} (ht : t ∈ o.looksAt l.toArray) :
    R w loc (slot (trace S T l nm s0 i).1 t) (a.tmps.getD t undef) := by
  have hlt : i < l.length := (List.getElem?_eq_some_iff.1 ho).1
  refine inv.slots t i (by omega) (fun j x hx hd => ⟨fun hl => ?_, fun hji => ?_⟩)
  · rcases Nat.lt_trichotomy j i with h | h | h
    · exact h
    · subst h; exact (hnl hl).elim
    · exact (hnl (anc_listed hg.back inv.closed _ j i (Nat.lt_succ_self _) (hg.clash i j o x h ho hx (clash_look hd ht)) x hx (inv.closed j x hx hl))).elim
  · exact anc_listed hg.back inv.closed _ i j (Nat.lt_succ_self _) (hg.clash j i x o hji hx ho (clash_dst hd (.inl ht))) o ho hrd

theorem heap_now (hg : Good T l) (inv : Inv S T l nm s0 w0 E B listed a w loc) (ho : l[i]? = some o) (hnl : ¬ Ls listed i) (hrd : ∀ e ∈ o.after.toList, Region.binds .any e = true → Ls listed e.on) (hk : kindOf T o.op ≠ 0) :
    HR w loc (trace S T l nm s0 i).2 := by
  have hlt : i < l.length := (List.getElem?_eq_some_iff.1 ho).1
  refine inv.heap i (by omega) (fun j x hx hd => ⟨fun hl => ?_, fun hji => ?_⟩)
  · rcases Nat.lt_trichotomy j i with h | h | h
    · exact h
    · subst h; exact (hnl hl).elim
    · exact (hnl (anc_listed hg.back inv.closed _ j i (Nat.lt_succ_self _) (hg.clash i j o x h ho hx (clash_kind (.inr ⟨hd, hk⟩))) x hx (inv.closed j x hx hl))).elim
  · exact anc_listed hg.back inv.closed _ i j (Nat.lt_succ_self _) (hg.clash j i x o hji hx ho (clash_kind (.inl ⟨hd, hk⟩))) o ho hrd

theorem advance (hg : Good T l) (hst : ∀ j o, l[j]? = some o → (step S T l (nm + 8 * j) o (trace S T l nm s0 j)).1) (h0 : ∀ id b, look s0.2 id = some b → id < nm) (inv : Inv S T l nm s0 w0 E B listed a w loc) (ho : l[i]? = some o) (hnl : ¬ Ls listed i)
    (hrd : ∀ e ∈ o.after.toList, Region.binds .any e = true → Ls listed e.on) {x : AV} {v : Value} {w' : World} {loc' : Loc} {C : Nat → Prop}
    (hv : (step S T l (nm + 8 * i) o (trace S T l nm s0 i)).2.1 = putSlot (trace S T l nm s0 i).1 o.dst x) (hx : R w' loc' x v) (hE : Ext C w loc w' loc') (hC : kindOf T o.op ≤ 1 → ∀ id, ¬ C id)
    (hfr : ∀ id, loc.m id = .free → loc'.m id ≠ .free → nm + 8 * i ≤ id ∧ id < nm + 8 * i + 8) (he : Env w0 E w' loc') (hb : Base w0 B w' loc') (hh : kindOf T o.op ≠ 0 → HR w' loc' (step S T l (nm + 8 * i) o (trace S T l nm s0 i)).2.2) :
    Inv S T l nm s0 w0 E B (listed.setIfInBounds i true) (a.put o.dst v) w' loc' := by
  have hlt : i < l.length := (List.getElem?_eq_some_iff.1 ho).1
  have his : i < listed.size := by rw [inv.sizel]; exact hlt
  have hls : ∀ j, Ls (listed.setIfInBounds i true) j ↔ j = i ∨ Ls listed j := fun j => ls_set his
  have htr : trace S T l nm s0 (i + 1) = (step S T l (nm + 8 * i) o (trace S T l nm s0 i)).2 := by simp only [trace, ho]
  have hanc : ∀ j y, l[j]? = some y → i < j → Ls listed j → clash T l o y = true → False := fun j y hy hij hl hc =>
    hnl (anc_listed hg.back inv.closed _ j i (Nat.lt_succ_self _) (hg.clash i j o y hij ho hy hc) y hy (inv.closed j y hy hl))
  refine ⟨by simp [inv.sizel], ?_, ?_, ?_, ?_, ?_, ?_, he, hb, ?_⟩
  · cases o.dst with
    | none => exact inv.size
    | some d => simp [Act.put, inv.size]
  · intro t k hk hq
    by_cases hd : o.dst = some t
    · have hik : i < k := (hq i o ho hd).1 ((hls i).2 (.inl rfl))
      have e1 : slot (trace S T l nm s0 k).1 t = slot (trace S T l nm s0 (i + 1)).1 t := by
        refine trace_slot hst (by omega) (fun j y h1 h2 hy hyd => ?_)
        have := (hls j).1 ((hq j y hy hyd).2 h2)
        rcases this with h | h
        · omega
        · exact hanc j y hy (by omega) h (clash_dst hd (.inr hyd))
      rw [e1, htr, hv, hd]
      simp only [putSlot]
      by_cases hts : t < (trace S T l nm s0 i).1.length
      · rw [slot_set_same hts]
        have : (a.put (some t) v).tmps.getD t undef = v := by
          rw [trace_length hst] at hts
          simp [Act.put, inv.size, hts]
        rw [this]; exact hx
      · rw [slot_ge (by rw [setSlot_length]; exact Nat.le_of_not_lt hts)]; exact .junk _
    · have h1 := inv.slots t k hk (fun j y hy hyd => by
        have hji : j ≠ i := by
          rintro rfl
          rw [ho] at hy; injection hy with hy; subst hy; exact hd hyd
        rw [← hq j y hy hyd, hls]
        simp [hji])
      have : (a.put o.dst v).tmps.getD t undef = a.tmps.getD t undef := by
        cases hdd : o.dst with
        | none => rfl
        | some d =>
          have hne : d ≠ t := fun e => hd (by rw [hdd, e])
          simp [Act.put, Array.getElem?_setIfInBounds_ne hne]
      rw [this]; exact h1.ext hE
  · intro k hk hq id b hl
    by_cases hf' : loc'.m id = .free
    · exact BlkR.free hf'
    by_cases h2 : kindOf T o.op = 2
    · have hik : i < k := (hq i o ho h2).1 ((hls i).2 (.inl rfl))
      have hno : ∀ j y, i + 1 ≤ j → j < k → l[j]? = some y → kindOf T y.op ≤ 1 ∧ (kindOf T y.op = 0 ∨ ¬ (nm + 8 * j ≤ id ∧ id < nm + 8 * j + 8)) := by
        intro j y h3 h4 hy
        have hle : kindOf T y.op ≤ 2 :=kind_le T y.op
        have hne : kindOf T y.op ≠ 2 := by
          intro hy2
          rcases (hls j).1 ((hq j y hy hy2).2 h4) with h | h
          · omega
          · exact hanc j y hy (by omega) h (clash_kind (.inl ⟨h2, by omega⟩))
        refine ⟨by omega, ?_⟩
        by_cases hy0 : kindOf T y.op = 0
        · exact .inl hy0
        · right
          intro hr
          have hjl : ¬ Ls listed j := fun hl => hanc j y hy (by omega) hl (clash_kind (.inl ⟨h2, hy0⟩))
          have hfree := inv.fresh j hjl (by omega) id hr.1 hr.2
          have := hfr id hfree hf'
          omega
      rw [trace_keep hst (by omega) hno, htr] at hl
      exact hh (by omega) id b hl
    · have hold : HR w loc (trace S T l nm s0 k).2 := inv.heap k hk (fun j y hy hy2 => by
        have hji : j ≠ i := by
          rintro rfl
          rw [ho] at hy; injection hy with hy; subst hy; exact h2 hy2
        rw [← hq j y hy hy2, hls]
        simp [hji])
      have hle : kindOf T o.op ≤ 1 := by
        have : kindOf T o.op ≤ 2 :=kind_le T o.op
        omega
      by_cases hf : loc.m id = .free
      · have hr := hfr id hf hf'
        have hik : i < k := by
          rcases Nat.lt_or_ge i k with h | h
          · exact h
          · have := trace_low hst h0 k id b hl; omega
        by_cases hz : kindOf T o.op = 0
        · exfalso
          rcases trace_back hst (i := i + 1) (by omega) hl with h | ⟨j, y, h3, _, _, _, h4, _⟩
          · rw [htr, (step_facts (hst i o ho)).2.2.2 hz] at h
            cases h5 : look (trace S T l nm s0 i).2 id with
            | none => exact h h5
            | some c => have := trace_low hst h0 i id c h5; omega
          · omega
        · have hno : ∀ j y, i + 1 ≤ j → j < k → l[j]? = some y → kindOf T y.op ≤ 1 ∧ (kindOf T y.op = 0 ∨ ¬ (nm + 8 * j ≤ id ∧ id < nm + 8 * j + 8)) := by
            intro j y h3 h4 hy
            have hle2 : kindOf T y.op ≤ 2 :=kind_le T y.op
            have hne : kindOf T y.op ≠ 2 := by
              intro hy2
              rcases (hls j).1 ((hq j y hy hy2).2 h4) with h | h
              · omega
              · exact hanc j y hy (by omega) h (clash_kind (.inr ⟨hy2, hz⟩))
            exact ⟨by omega, .inr (by omega)⟩
          rw [trace_keep hst (by omega) hno, htr] at hl
          exact hh hz id b hl
      · exact (hold id b hl).ext hE (hC hle id) hf
  · intro j y hy hl e hee hbe
    rw [hls]
    rcases (hls j).1 hl with h | h
    · subst h
      rw [ho] at hy; injection hy with hy; subst hy
      exact .inr (hrd e hee hbe)
    · exact .inr (inv.closed j y hy h e hee hbe)
  · intro j hj hjl id h1 h2
    rw [hls] at hj
    have hji : j ≠ i := fun e => hj (.inl e)
    have hf := inv.fresh j (fun h => hj (.inr h)) hjl id h1 h2
    by_cases hf' : loc'.m id = .free
    · exact hf'
    · have := hfr id hf hf'; omega
  · intro id h1
    have hf := inv.high id h1
    by_cases hf' : loc'.m id = .free
    · exact hf'
    · have := hfr id hf hf'; omega
  · rw [← inv.defers]
    cases o.dst <;> rfl
end

end Ax
end Go.Proofs.Ytbncglnlmcjplaa
