/- A block of structures that nobody writes any more is told as data; append where the elder slice stays. -/
import Derived.Test.YtbncglnlmcjplaaAxTe
import Derived.Test.YtbncglnlmcjplaaAxX
namespace Go.Proofs.Ytbncglnlmcjplaa
namespace Ax
set_option linter.unusedSimpArgs false
set_option linter.unusedVariables false

mutual
/-- The block 'id' that holds these, told as data. -/
def AV.fg (id s : Nat) (zs : List AV) : AV → AV
  | .agg xs => .agg (fgL id s zs xs)
  | .tup xs => .tup (fgL id s zs xs)
  | .fn f cs => .fn f (fgL id s zs cs)
  | .ms k s' off len => bif k == id then (bif s' == s && decide (off + len ≤ zs.length) then .sg s ((zs.drop off).take len) false else .ms k s' off len) else .ms k s' off len
  | x => x
def fgL (id s : Nat) (zs : List AV) : List AV → List AV
  | [] => []
  | x :: xs => x.fg id s zs :: fgL id s zs xs
end

theorem fgL_get (id s : Nat) (zs : List AV) : ∀ (xs : List AV), (fgL id s zs xs).length = xs.length ∧ ∀ (j : Nat) (h : j < (fgL id s zs xs).length) (h' : j < xs.length), (fgL id s zs xs)[j] = xs[j].fg id s zs
  | [] => ⟨rfl, fun j h => by simp [fgL] at h⟩
  | x :: xs => by
    obtain ⟨h1, h2⟩ := fgL_get id s zs xs
    refine ⟨by simp [fgL, h1], fun j h h' => ?_⟩
    cases j with
    | zero => rfl
    | succ j => exact h2 j (by simpa [fgL] using h) (by simpa using h')

theorem fg_leaf {id s : Nat} {zs : List AV} {x : AV} (h : x.leaf = true) : (x.fg id s zs).leaf = true := by
  cases x <;> first | exact h | (simp [AV.leaf] at h; done) | skip
  simp only [AV.fg]
  cases (_ == id) with
  | false => rfl
  | true =>
    simp only [cond_true]
    cases (_ && _ : Bool) <;> rfl

theorem fg_R {w : World} {loc : Loc} {id s : Nat} {zs : List AV} (hcl : closedL zs = true) (hok : Blk.ok (.g s zs)) (hor : (loc.m id = .nil ∧ zs = []) ∨ ∃ b, loc.m id = .here b ∧ b < w.heap.size ∧ Lies w loc (.g s zs) b ∧ (∀ k, loc.m k = .here b → k = id) ∧ ¬ loc.bad b) {x : AV} {v : Value} (h : R w loc x v) : R w (loc.set id .dead) (x.fg id s zs) v := by
  have hM : ∀ c, Mut (loc.set id .dead) c → Mut loc c := by
    rintro c (h | ⟨k, h⟩)
    · exact .inl h
    · by_cases hk : k = id
      · subst hk; rw [Loc.set_same] at h; cases h
      · rw [Loc.set_other _ _ hk] at h; exact .inr ⟨k, h⟩
  have hC : ∀ {a cs}, Cells w loc a cs → Cells w (loc.set id .dead) a cs := fun h => h.move (fun b _ hm => hM b hm)
  induction h with
  | w v h => exact .w v h
  | str bs => exact .str bs
  | agg xs cs hl hx _ ih =>
    obtain ⟨h1, h2⟩ := fgL_get id s zs xs
    refine .agg _ cs (by rw [h1, hl]) (fun j hj => ?_) (fun j a b => ?_)
    · rw [h2 j hj (by rw [← h1]; exact hj)]; exact fg_leaf (hx j _)
    · rw [h2 j a (by rw [← h1]; exact a)]; exact ih j _ b
  | tup xs cs hl _ ih =>
    obtain ⟨h1, h2⟩ := fgL_get id s zs xs
    refine .tup _ cs (by rw [h1, hl]) (fun j a b => ?_)
    rw [h2 j a (by rw [← h1]; exact a)]; exact ih j _ b
  | sb bs full a cap hd hc => exact .sb bs full a cap hd (hC hc)
  | si ns full a cap hd hc => exact .si ns full a cap hd (hC hc)
  | sg s xs full a cap cs hd hs hc hl hx h _ => exact .sg s xs full a cap cs hd hs (hC hc) hl hx (fun j a b => (h j a b).move (fun b _ hm => hM b hm) (hx j a).2)
  | cp ls a cs hc hn hl hx h _ => exact .cp ls a cs (hC hc) hn hl hx (fun j a b => (h j a b).move (fun b _ hm => hM b hm) (hx j a).2)
  | ms k s' off len v h =>
    have hkeep : R w (loc.set id .dead) (.ms k s' off len) v := by
      refine .ms _ _ _ _ _ ?_
      by_cases hk : k = id
      · subst hk; unfold Owns; rw [Loc.set_same]; exact h.one
      · unfold Owns at h ⊢; rw [Loc.set_other _ _ hk]; exact h
    simp only [AV.fg]
    by_cases hk : k = id
    · subst hk
      simp only [beq_self_eq_true, cond_true]
      cases hc : (s' == s && decide (off + len ≤ zs.length)) with
      | false => exact hkeep
      | true =>
        simp only [cond_true]
        simp only [Bool.and_eq_true, beq_iff_eq, decide_eq_true_eq] at hc
        obtain ⟨rfl, hle⟩ := hc
        have hlen : ((zs.drop off).take len).length = len := by simp; omega
        have hls : ∀ y ∈ (zs.drop off).take len, y.leaves.length = s' := fun y hy => hok.2 y (List.mem_of_mem_drop (List.mem_of_mem_take hy))
        have hclx : ∀ (j : Nat) (hj : j < (((zs.drop off).take len).flatMap AV.leaves).length), (((zs.drop off).take len).flatMap AV.leaves)[j].closed = true := by
          intro j hj
          have hm := List.getElem_mem hj
          obtain ⟨y, hy, hyl⟩ := List.mem_flatMap.1 hm
          exact closed_leaves (closedL_mem hcl (List.mem_of_mem_drop (List.mem_of_mem_take hy))) _ hyl
        have hHR : HR w loc [(k, .g s' zs)] := by
          intro i b hl
          simp only [look] at hl
          split at hl
          · rename_i e; subst e
            injection hl with hl; subst hl
            unfold BlkR
            rcases hor with ⟨h1, h2⟩ | ⟨b, h1, h2, h3, _⟩
            · rw [h1]; exact ⟨hok, by rw [h2]; rfl⟩
            · rw [h1]; exact ⟨hok, h3⟩
          · cases hl
        have hs := seen_ms (H := [(k, .g s' zs)]) (blk := .g s' zs) hHR h (by simp [look]) rfl hle
        have hfl : (Blk.flat (.g s' zs) |>.drop (off * s') |>.take (len * s')) = ((zs.drop off).take len).flatMap AV.leaves := by
          rw [flatMap_take _ _ (fun y hy => hok.2 y (List.mem_of_mem_drop hy)), flatMap_drop _ _ hok.2]; rfl
        rw [hfl] at hs
        obtain ⟨a, cap, rfl, h1, h2, h3⟩ := hs.seen
        have h3 : len = 0 ∨ ∃ cs, (cs.length = len * s' ∧ CellsOf w loc (((zs.drop off).take len).flatMap AV.leaves) cs ∧ Cells w (loc.set k .dead) a cs) := by
          rcases h3 with h3 | ⟨b, o, cs, rfl, h4, h5, h6, h7⟩
          · exact .inl h3
          · by_cases h0 : len = 0
            · exact .inl h0
            refine .inr ⟨cs, h5, h7, ⟨.inr ⟨b, o, rfl, ?_, h4, h6⟩⟩⟩
            have hb : loc.m k = .here b ∧ (∀ i, loc.m i = .here b → i = k) ∧ ¬ loc.bad b := by
              rcases hor with ⟨hb, rfl⟩ | ⟨b', hb, hlt, hl, hinj, hnb⟩
              · simp at hle; omega
              · unfold Owns at h; rw [hb] at h
                obtain ⟨o', cap', cur0, e0, fz0, hv, _⟩ := h
                injection hv with hv _ _
                injection hv with hv
                injection hv with hv1 hv2
                subst hv1
                exact ⟨hb, hinj, hnb⟩
            rintro (hq | ⟨i, hq⟩)
            · exact hb.2.2 hq
            · by_cases hk : i = k
              · subst hk; rw [Loc.set_same] at hq; cases hq
              · rw [Loc.set_other _ _ hk] at hq; exact hk (hb.2.1 i hq)
        have : R w (loc.set k .dead) (.sg s' ((zs.drop off).take len) false) (.slice a ((zs.drop off).take len).length cap) := by
          rcases h3 with h0 | ⟨cs, h5, h7, h8⟩
          · have he : (zs.drop off).take len = [] := List.length_eq_zero_iff.1 (by omega)
            rw [he]
            exact .sg s' [] false a cap [] ⟨Nat.zero_le _, h2, by simp⟩ (by simp) ⟨.inl rfl⟩ (by simp) (fun j hj => by simp at hj) (fun j hj => by simp at hj)
          · exact .sg s' ((zs.drop off).take len) false a cap cs ⟨by omega, h2, by simp⟩ hls h8 h7.len (fun j hj => ⟨h7.leaf j hj, hclx j hj⟩) (fun j x y => (h7.r j x y).move (fun b _ hm => hM b hm) (hclx j x))
        rw [hlen] at this
        exact this
    · have : (k == id) = false := by simpa using hk
      rw [this]; exact hkeep
  | rf k s i f v h =>
    refine .rf _ _ _ _ _ ?_
    by_cases hk : k = id
    · subst hk; unfold Points; rw [Loc.set_same]; exact h.one
    · unfold Points at h ⊢; rw [Loc.set_other _ _ hk]; exact h
  | fn f caps cs hl _ ih =>
    obtain ⟨h1, h2⟩ := fgL_get id s zs caps
    refine .fn f _ cs (by rw [h1, hl]) (fun j a b => ?_)
    rw [h2 j a (by rw [← h1]; exact a)]; exact ih j _ b
  | junk v => exact .junk v
def Blk.fg (id s : Nat) (zs : List AV) : Blk → Blk
  | .g s' xs => .g s' (fgL id s zs xs)
  | .b cs => .b cs
  | .i ns => .i ns
  | .o x => .o x

theorem odd_fg {id s : Nat} {zs : List AV} {b : Blk} : (b.fg id s zs).odd = b.odd := by cases b <;> rfl
def fgH (id s : Nat) (zs : List AV) : Heap → Heap
  | [] => []
  | p :: r => bif p.1 == id then fgH id s zs r else (p.1, p.2.fg id s zs) :: fgH id s zs r

theorem leaves_fg (id s : Nat) (zs : List AV) (x : AV) : (x.fg id s zs).leaves = fgL id s zs x.leaves := by
  cases x <;> first | rfl | skip
  simp only [AV.fg, AV.leaves, fgL]
  cases (_ == id) with
  | false => rfl
  | true =>
    simp only [cond_true]
    cases (_ && _ : Bool) <;> rfl

theorem fgL_append (id s : Nat) (zs : List AV) : ∀ (xs ys : List AV), fgL id s zs (xs ++ ys) = fgL id s zs xs ++ fgL id s zs ys
  | [], _ => rfl
  | x :: xs, ys => by simp [fgL, fgL_append id s zs xs ys]

theorem flat_fg (id s : Nat) (zs : List AV) (b : Blk) : (b.fg id s zs).flat = fgL id s zs b.flat := by
  cases b with
  | b cs =>
    simp only [Blk.fg, Blk.flat]
    induction cs with
    | nil => rfl
    | cons c r ih => simp only [List.map_cons, fgL, AV.fg]; rw [← ih]
  | o x => rfl
  | i ns =>
    simp only [Blk.fg, Blk.flat]
    induction ns with
    | nil => rfl
    | cons c r ih => simp only [List.map_cons, fgL, AV.fg]; rw [← ih]
  | g s xs =>
    simp only [Blk.fg, Blk.flat]
    induction xs with
    | nil => rfl
    | cons c r ih => simp only [fgL, List.flatMap_cons, fgL_append]; rw [ih, leaves_fg]

theorem ok_fg {id s : Nat} {zs : List AV} {b : Blk} (h : b.ok) : (b.fg id s zs).ok := by
  cases b with
  | g s' xs =>
    obtain ⟨h1, h2⟩ := h
    refine ⟨h1, fun x hx => ?_⟩
    obtain ⟨j, hj, rfl⟩ := List.getElem_of_mem hx
    obtain ⟨h3, h4⟩ := fgL_get id s zs xs
    rw [h4 j hj (by rw [← h3]; exact hj), leaves_fg, (fgL_get id s zs _).1]
    exact h2 _ (List.getElem_mem _)
  | _ => trivial
theorem len_fg {id s : Nat} {zs : List AV} {b : Blk} : (b.fg id s zs).len = b.len := by
  cases b with
  | g s' xs => exact (fgL_get id s zs xs).1
  | _ => rfl

theorem fgH_get {id s : Nat} {zs : List AV} : ∀ {H : Heap} {k : Nat} {b : Blk}, look (fgH id s zs H) k = some b → k ≠ id ∧ ∃ c, look H k = some c ∧ b = c.fg id s zs
  | [], k, b, h => by simp [fgH, look] at h
  | p :: r, k, b, h => by
    have e : look (p :: r) k = if p.1 = k then some p.2 else look r k := look_put r p.1 k p.2
    unfold fgH at h
    by_cases hp : p.1 = id
    · have : (p.1 == id) = true := by simpa using hp
      rw [this] at h
      obtain ⟨h1, c, h2, h3⟩ := fgH_get h
      exact ⟨h1, c, by rw [e, if_neg (by omega)]; exact h2, h3⟩
    · have : (p.1 == id) = false := by simpa using hp
      rw [this] at h
      have e2 : look ((p.1, p.2.fg id s zs) :: fgH id s zs r) k = if p.1 = k then some (p.2.fg id s zs) else look (fgH id s zs r) k := look_put (fgH id s zs r) p.1 k _
      simp only [cond_false] at h
      rw [e2] at h
      split at h
      · rename_i hk
        injection h with h
        exact ⟨by omega, p.2, by rw [e, if_pos hk], h.symm⟩
      · rename_i hk
        obtain ⟨h1, c, h2, h3⟩ := fgH_get h
        exact ⟨h1, c, by rw [e, if_neg hk]; exact h2, h3⟩

theorem slot_fgL {id s : Nat} {zs : List AV} : ∀ (sl : List AV) (t : Nat), slot (fgL id s zs sl) t = (slot sl t).fg id s zs
  | [], t => rfl
  | x :: xs, 0 => rfl
  | x :: xs, t + 1 => slot_fgL xs t

/-- A block of the call's own that nobody writes any more. -/
theorem rel_fg {w0 : World} {E : Nat → Prop} {B : Bs} {w : World} {loc : Loc} {a : Act} {sl : List AV} {H : Heap} {nx : Nat} {id s : Nat} {zs : List AV} (hB : Base w0 B w loc) (hr : Rel' w0 E loc ⟨sl, H, nx⟩ a w) (hlive : loc.m id ≠ .free) (hblk : BlkR w loc id (.g s zs)) (hcl : closedL zs = true) :
    Base w0 B w (loc.set id .dead) ∧ Rel' w0 E (loc.set id .dead) ⟨fgL id s zs sl, fgH id s zs H, nx⟩ a w := by
  have hor : (loc.m id = .nil ∧ zs = []) ∨ ∃ b, loc.m id = .here b ∧ b < w.heap.size ∧ Lies w loc (.g s zs) b ∧ (∀ k, loc.m k = .here b → k = id) ∧ ¬ loc.bad b := by
    unfold BlkR at hblk
    cases e : loc.m id with
    | free => exact (hlive e).elim
    | dead => rw [e] at hblk; exact hblk.elim
    | nil => rw [e] at hblk; exact .inl ⟨rfl, List.eq_nil_of_length_eq_zero hblk.2⟩
    | here b =>
      rw [e] at hblk
      have h1 := hr.env.lies id b e
      refine .inr ⟨b, rfl, h1.1, hblk.2, fun k hk => hr.env.inj k id b hk e, fun hb => ?_⟩
      have h2 := hr.env.bad b hb
      rcases h1.2 with h3 | h3
      · omega
      · exact h2.2 h3
  have hok : Blk.ok (.g s zs) := by
    unfold BlkR at hblk
    cases e : loc.m id with
    | free => exact (hlive e).elim
    | dead => rw [e] at hblk; exact hblk.elim
    | nil => rw [e] at hblk; exact hblk.1
    | here b => rw [e] at hblk; exact hblk.1
  have hset : ∀ {k c}, (loc.set id .dead).m k = .here c → loc.m k = .here c := by
    intro k c h
    by_cases hk : k = id
    · subst hk; rw [Loc.set_same] at h; cases h
    · rwa [Loc.set_other _ _ hk] at h
  refine ⟨⟨hB.1, hB.2.1, fun k hk => ?_⟩, ⟨?_, fun t => ?_, ?_, ⟨hr.env.os, hr.env.tape, hr.env.output, hr.env.size, hr.env.same, fun i j b h1 h2 => hr.env.inj i j b (hset h1) (hset h2), fun i b h1 => hr.env.lies i b (hset h1), hr.env.bad⟩, ?_, hr.defers, ?_⟩⟩
  · by_cases hne : k = id
    · subst hne; left; rw [Loc.set_same]
    · rw [Loc.set_other _ _ hne]; exact hB.2.2 k hk
  · rw [hr.size]; exact ((fgL_get id s zs sl).1).symm
  · simp only; rw [slot_fgL]; exact fg_R hcl hok hor (hr.slots t)
  · intro k b hk
    obtain ⟨h1, c, h2, rfl⟩ := fgH_get hk
    have h3 := hr.heap k c h2
    unfold BlkR at h3 ⊢
    rw [Loc.set_other _ _ h1]
    split
    · trivial
    · rename_i e; rw [e] at h3; exact h3
    · rename_i e; rw [e] at h3; exact ⟨ok_fg h3.1, by rw [len_fg]; exact h3.2⟩
    · rename_i d e
      rw [e] at h3
      rcases odd_cases c with ⟨x, hx, rfl⟩ | hodd
      · exact ⟨ok_fg h3.1, .mkO (Thing.move (loc := loc) (fun c _ hM => hM.imp (fun h => h) (fun ⟨k, h⟩ => ⟨k, hset h⟩)) (h3.2.is hx)) rfl⟩
      obtain ⟨cur, el, fz, g1, g2, g3, g4, g5⟩ := h3.2.lies hodd
      have hlen : (c.fg id s zs).flat.length = c.flat.length := by rw [flat_fg, (fgL_get id s zs _).1]
      refine ⟨ok_fg h3.1, .mkC ⟨cur, el, fz, g1, g2, g3, by omega, fun j x y => ?_⟩ (odd_fg.trans hodd)⟩
      have h6 := g5 j (by omega) y
      have e : (c.fg id s zs).flat[j] = (c.flat[j]'(by omega)).fg id s zs := by
        have := (fgL_get id s zs c.flat).2 j (by rw [(fgL_get id s zs _).1]; omega) (by omega)
        rw [← this]
        congr 1
        exact flat_fg id s zs c
      rw [e]
      exact ⟨fg_leaf h6.1, fg_R hcl hok hor h6.2⟩
  · intro k hk
    by_cases hne : k = id
    · exact (hlive (hne ▸ hr.fresh k hk)).elim
    · rw [Loc.set_other _ _ hne]; exact hr.fresh k hk
  · intro k b hk
    obtain ⟨h1, c, h2, rfl⟩ := fgH_get hk
    exact hr.low k c h2

theorem weak_fg {sl : List AV} {H : Heap} {nx : Nat} (id s i : Nat) (zs : List AV) (hl : look H id = some (.g s zs)) (hcl : closedL zs = true) (hi : id ∈ (slot sl i).ids) : Weak ⟨sl, H, nx⟩ ⟨fgL id s zs sl, fgH id s zs H, nx⟩ := by
  rintro w0 E B a w ⟨loc, hB, hr⟩
  obtain ⟨h1, h2⟩ := rel_fg hB hr (ids_live _ _ (hr.slots i) hi) (hr.heap id _ hl) hcl
  exact ⟨_, h1, h2⟩
end Ax
end Go.Proofs.Ytbncglnlmcjplaa

/- Append where the elder slice stays. -/
namespace Go.Proofs.Ytbncglnlmcjplaa
namespace Ax
set_option linter.unusedSimpArgs false
set_option linter.unusedVariables false
section
variable {P : Program}

/-- A new block that has no name. -/
theorem post_anon {w0 : World} {E : Nat → Prop} {w w' : World} {loc : Loc} {wr : Bool} {H : Heap} {nm : Nat} {x : AV} {v : Value} {o : Obj} (he : Env w0 E w loc) (hh : HR w loc H) (hp : Pushed w w' o) (hx : Ext (fun _ => False) w loc w' loc → R w' loc x v) :
    Post w0 E w loc wr nm x H v w' loc := by
  have hsz : w'.heap.size = w.heap.size + 1 := by rw [hp.heap]; simp
  have hext : Ext (fun _ => False) w loc w' loc :=
    ⟨by omega, fun _ _ _ => rfl, fun _ _ h => h.elim, fun b hb hm => ⟨pushed_old hp hb, hm⟩, fun id b h1 _ => pushed_old hp (he.lies id b h1).1, fun b cur el fz' h2 => ⟨cur, fz', (pushed_old hp (Array.getElem?_eq_some_iff.1 h2).1).trans h2, rfl⟩⟩
  refine ⟨hx hext, fun id b hb => ?_, ⟨hp.os.trans he.os, hp.tape.trans he.tape, hp.output.trans he.output, by have := he.size; omega, fun b hb hE => (pushed_old hp (by have := he.size; omega)).trans (he.same b hb hE), he.inj, fun i b hi => by have := he.lies i b hi; exact ⟨by omega, this.2⟩, he.bad⟩, ⟨_, hext, fun _ _ h => h⟩, fun _ h h' => (h' h).elim, rfl⟩
  by_cases hfr : loc.m id = .free
  · exact BlkR.free hfr
  · exact (hh id b hb).ext hext (fun h => h) hfr

theorem closedL_append : ∀ {xs ys : List AV}, closedL xs = true → closedL ys = true → closedL (xs ++ ys) = true
  | [], ys, _, h => h
  | x :: r, ys, h, h' => by
    simp only [List.cons_append, closedL, Bool.and_eq_true] at h ⊢
    exact ⟨h.1, closedL_append h.2 h'⟩

theorem not_mut_new {w0 : World} {E : Nat → Prop} {w : World} {loc : Loc} (he : Env w0 E w loc) : ¬ Mut loc w.heap.size := by
  rintro (h | ⟨k, h⟩)
  · have := (he.bad _ h).1; have := he.size; omega
  · have := (he.lies k _ h).1; omega

theorem keep_runs {w0 : World} {E : Nat → Prop} {w : World} {loc : Loc} {H : Heap} (he : Env w0 E w loc) (hh : HR w loc H) {nm id : Nat}
    {t u : TypeId} {ty : TypeId} {e : TypeId} {te : TyI} {du : TypeDesc} (hd : P.underlying t = some (.slice e)) (hty : TyR P e te) (hu : P.underlying u = some du) (hdu : ∀ k, du ≠ .int k) {v vx : Value} {xs ys : List AV}
    (hs : 0 < te.size) (hb : te.bytes ≤ 1024) (hx : Src P w loc vx ys.length te.size (ys.flatMap AV.leaves)) (hyl : ∀ y ∈ ys, y.leaves.length = te.size) (hl : look H id = some (.g te.size xs)) (hv : Owns w loc id te.size 0 xs.length v)
    (hcx : closedL xs = true) (hcy : closedL ys = true) (hm : 0 < ys.length) (hn : xs.length + ys.length ≤ 4294967296) :
    ∃ u' w', (Builtin.append_ #[t, u] ty #[v, vx]).run P w = .ok u' w' ∧
      ((Post w0 E w loc true nm .junk (put H id (.g te.size (xs ++ ys))) u' w' loc ∧ R w' loc (.ms id te.size 0 (xs ++ ys).length) u') ∨ Post w0 E w loc true nm (.sg te.size (xs ++ ys) false) H u' w' loc) := by
  have hfr : loc.m id ≠ .free := by intro e; simp [Owns, e] at hv
  obtain ⟨hbok, hor⟩ := hh.get hl hfr
  have hok' : Blk.ok (.g te.size (xs ++ ys)) := ⟨hs, fun y hy => by
    rcases List.mem_append.1 hy with hy | hy
    · exact hbok.2 y hy
    · exact hyl y hy⟩
  have hcl : closedL (xs ++ ys) = true := by
    clear hn hm hl hv hx hyl hok' hbok hor
    induction xs with
    | nil => exact hcy
    | cons x r ih => simp only [List.cons_append, closedL, Bool.and_eq_true] at hcx ⊢; exact ⟨hcx.1, ih hcx.2⟩
  have hclx : ∀ (j : Nat) (hj : j < ((xs ++ ys).flatMap AV.leaves).length), ((xs ++ ys).flatMap AV.leaves)[j].closed = true := by
    intro j hj
    obtain ⟨y, hy, hyl⟩ := List.mem_flatMap.1 (List.getElem_mem hj)
    exact closed_leaves (closedL_mem hcl hy) _ hyl
  have hseen := seen_ms hh hv hl rfl (by simp [Blk.len])
  have hflx := flat_len hbok
  have hfull : ((Blk.g te.size xs).flat.drop (0 * te.size)).take (xs.length * te.size) = (Blk.g te.size xs).flat := by
    rw [Nat.zero_mul, List.drop_zero, List.take_of_length_le (by rw [hflx]; exact Nat.le_refl _)]
  rw [hfull] at hseen
  have anew : ∀ a cap, v = .slice a xs.length cap → xs.length ≤ cap → cap < xs.length + ys.length → ∃ u' w', (Builtin.append_ #[t, u] ty #[v, vx]).run P w = .ok u' w' ∧ Post w0 E w loc true nm (.sg te.size (xs ++ ys) false) H u' w' loc := by
    rintro a cap rfl hc1 hc2
    have hvs := src_seen (P := P) hseen
    obtain ⟨cd, d1, d2, d3, d4⟩ := hvs.src
    obtain ⟨cs, newCap, rest, w', c1, c2, c3, c4, c5, c6, c7, c8⟩ := run_append_new (P := P) (ty := ty) hd hty hu hdu hb hx d1 d4 hn hc1 hc2
    refine ⟨_, w', c8, post_anon he hh c7 fun hext => ?_⟩
    have hfl : (xs ++ ys).flatMap AV.leaves = (Blk.g te.size xs).flat ++ ys.flatMap AV.leaves := by simp [Blk.flat]
    have hl2 := d2.len
    have hl3 := c1.len
    have := R.sg (w := w') (loc := loc) te.size (xs ++ ys) false (some ⟨w.heap.size, 0, none⟩) newCap (cd ++ cs) ⟨by rw [List.length_append]; exact c3, c4, by simp⟩ hok'.2
      ⟨.inr ⟨w.heap.size, 0, rfl, not_mut_new he, by rw [c7.heap]; simp, fun j hj => by
        have hp := pushed_new c7
        have hjs : j < (cd.toArray ++ cs.toArray ++ rest).size := by simp at hj ⊢; omega
        simp only [World.cell?, hp, Nat.zero_add]
        rw [Array.getElem?_eq_getElem hjs, Array.getElem_append_left (by simp at hj ⊢; omega)]
        simp [List.append_toArray]⟩⟩
      (by rw [hfl, List.length_append, List.length_append, hl2, hl3]) (fun j hj => ⟨?_, hclx j hj⟩) (fun j p q => ?_)
    · rw [List.length_append] at this; exact this
    · have e : ((xs ++ ys).flatMap AV.leaves)[j] = ((Blk.g te.size xs).flat ++ ys.flatMap AV.leaves)[j]'(by rw [← hfl]; exact hj) := by congr 1
      rw [e]
      by_cases hc : j < (Blk.g te.size xs).flat.length
      · rw [List.getElem_append_left hc]; exact d2.leaf j hc
      · rw [List.getElem_append_right (by omega)]; exact c1.leaf _ _
    · have e : ((xs ++ ys).flatMap AV.leaves)[j] = ((Blk.g te.size xs).flat ++ ys.flatMap AV.leaves)[j]'(by rw [← hfl]; exact p) := by congr 1
      rw [e]
      by_cases hc : j < (Blk.g te.size xs).flat.length
      · rw [List.getElem_append_left hc, List.getElem_append_left (by omega)]; exact (d2.r j hc _).ext hext
      · rw [List.getElem_append_right (by omega), List.getElem_append_right (by omega)]
        have := (c1.r (j - (Blk.g te.size xs).flat.length) (by rw [hfl, List.length_append] at p; omega) (by rw [List.length_append] at q; omega)).ext hext
        simpa [hl2] using this
  rcases hor with hnil | ⟨b, hbb, hlies⟩
  · have h0 : xs = [] := List.length_eq_zero_iff.1 hnil.2
    have hv' := hv
    unfold Owns at hv'; rw [hnil.1] at hv'
    obtain ⟨_, a, rfl⟩ := hv'
    obtain ⟨u', w', h1, h2⟩ := anew a 0 (by rw [h0]; rfl) (by rw [h0]; exact Nat.le_refl _) (by omega)
    exact ⟨u', w', h1, .inr h2⟩
  · have hv' := hv
    unfold Owns at hv'; rw [hbb] at hv'
    obtain ⟨o, cap, cur, e0, fz, rfl, ho, hheap, hsz, hnc, htop⟩ := hv'
    by_cases hroom : xs.length + ys.length ≤ cap
    · obtain ⟨cs, c1, c2, c3, c4⟩ := hx.src
      obtain ⟨cur0, e1, fz0, hh0, hfz, hone, hlen0, hr⟩ := hlies.lies
      have hh1 := hh0
      rw [hheap] at hh0; injection hh0 with hh0; injection hh0 with q1 q2 q3; subst q1 q2 q3
      have hmul : xs.length * te.size + ys.length * te.size ≤ cap * te.size := by rw [← Nat.add_mul]; exact Nat.mul_le_mul_right _ hroom
      have ho := ho (by omega)
      rw [Nat.zero_mul] at ho
      subst ho
      rw [Nat.zero_add] at hsz
      have hflx' : (Blk.g te.size xs).flat.length = xs.length * te.size := hflx
      obtain ⟨w', cur', r1, r2, r3, r4, r5, r6, r7, r8, r9⟩ := run_storeCells' (P := P) b (xs.length * te.size) e0 fz cs 0 cur w hheap (fz_free hfz) (by omega) c2.one
      have hflat : (Blk.g te.size (xs ++ ys)).flat = (Blk.g te.size xs).flat ++ ys.flatMap AV.leaves := by simp [Blk.flat]
      have hcl2 := c2.len
      refine ⟨_, w', run_append_in (P := P) (ty := ty) hd hty hu hdu (a := some ⟨b, 0, none⟩) (n := xs.length) (cap := cap) (c3 w) (c4 w rfl) hroom (by simp only [addr_add, Nat.zero_add]; exact r1), .inl ⟨?_, ?_⟩⟩
      · refine post_write he hh hbb hheap r2 r3 r4 r5 r6 r7 r8 hok' hfz (fun j hj => ?_) (by rw [hflat, r3]; simp only [List.length_append]; omega) (fun j p q => ?_) (fun _ _ => .junk _)
        · have := r9 j (by rw [← r3]; exact hj)
          rw [Array.getElem?_eq_getElem hj] at this
          split at this
          · rw [List.getElem?_eq_getElem (by omega)] at this
            injection this with this
            rw [this]; exact c2.one _ (List.getElem_mem _)
          · rw [Array.getElem?_eq_getElem (by rw [← r3]; exact hj)] at this
            injection this with this
            rw [this]; exact hone j _
        · have h9 := r9 j (by rw [← r3]; exact q)
          rw [Array.getElem?_eq_getElem q] at h9
          have hg : (Blk.g te.size (xs ++ ys)).flat[j] = ((Blk.g te.size xs).flat ++ ys.flatMap AV.leaves)[j]'(by rw [← hflat]; exact p) := by congr 1
          rw [hg]
          rw [hflat, List.length_append] at p
          by_cases hc : j < (Blk.g te.size xs).flat.length
          · rw [if_neg (by omega), Array.getElem?_eq_getElem (by rw [← r3]; exact q)] at h9
            injection h9 with h9
            rw [List.getElem_append_left hc, h9]
            exact hr j hc (by rw [← r3]; exact q)
          · rw [if_pos (by omega), List.getElem?_eq_getElem (by omega)] at h9
            injection h9 with h9
            rw [List.getElem_append_right (by omega), h9]
            refine ⟨c2.leaf _ (by omega), ?_⟩
            have := c2.r (j - (Blk.g te.size xs).flat.length) (by omega) (by omega)
            simpa [hflx'] using this
      · refine .ms _ _ _ _ _ ?_
        unfold Owns; rw [hbb]
        exact ⟨0, cap, cur', e0, fz, by rw [List.length_append], fun _ => by simp, r2, by rw [r3]; simpa using hsz, by rw [List.length_append]; exact hroom, htop⟩
    · obtain ⟨u', w', h1, h2⟩ := anew _ cap rfl hnc (by omega)
      exact ⟨u', w', h1, .inr h2⟩

/-- An append whose elder slice stays: what is asked; the slice that is told; the block that is given up as one that may be written, and what it held. -/
structure KOut where
  p : Prop
  x : AV
  id : Nat
  s : Nat
  xs : List AV
def badK : KOut := ⟨False, .junk, 0, 0, []⟩
def keepA (T : Types) (sl : List AV) (op : Op) (H : Heap) : KOut :=
  match op with
  | .call c => match c.callee with
    | .builtin .append => match c.args.toList, c.argTypes.toList with
      | [d, x], [t, u] => match T t, T u with
        | some ti, some tu => match ti.d, tu.d with
          | .slice e, .slice _ => match T e with
            | some te => match ev sl d with
              | .ms id s off len => match look H id with
                | some (.g s' xs) => ⟨s = te.size ∧ s' = te.size ∧ off = 0 ∧ len = xs.length ∧ 0 < te.size ∧ te.bytes ≤ 1024 ∧ (viewG te.size H (ev sl x)).1 ∧ closedL xs = true ∧ closedL (viewG te.size H (ev sl x)).2 = true ∧ 0 < (viewG te.size H (ev sl x)).2.length ∧ xs.length + (viewG te.size H (ev sl x)).2.length ≤ top,
                    .sg te.size (xs ++ (viewG te.size H (ev sl x)).2) false, id, te.size, xs⟩
                | _ => badK
              | _ => badK
            | none => badK
          | _, _ => badK
        | _, _ => badK
      | _, _ => badK
    | _ => badK
  | _ => badK

theorem lies_take {w : World} {loc : Loc} {s : Nat} {xs ys : List AV} {b : Nat} (h : Lies w loc (.g s (xs ++ ys)) b) : Lies w loc (.g s xs) b := by
  obtain ⟨cur, e, fz, h1, h2, h3, h4, h5⟩ := h.lies
  have hf : (Blk.g s (xs ++ ys)).flat = (Blk.g s xs).flat ++ (Blk.g s ys).flat := by simp [Blk.flat]
  rw [hf, List.length_append] at h4
  refine ⟨cur, e, fz, h1, h2, h3, by omega, fun j p q => ?_⟩
  have := h5 j (by rw [hf, List.length_append]; omega) q
  have e1 : (Blk.g s (xs ++ ys)).flat[j]'(by rw [hf, List.length_append]; omega) = (Blk.g s xs).flat[j] := by
    have e2 : (Blk.g s (xs ++ ys)).flat[j]'(by rw [hf, List.length_append]; omega) = ((Blk.g s xs).flat ++ (Blk.g s ys).flat)[j]'(by rw [List.length_append]; omega) := by congr 1
    rw [e2, List.getElem_append_left p]
  rw [e1] at this
  exact this

theorem fgH_put {id s : Nat} {zs : List AV} {H : Heap} {b : Blk} : fgH id s zs (put H id b) = fgH id s zs H := by
  show (bif id == id then fgH id s zs H else _) = _
  rw [beq_self_eq_true]; rfl

theorem keep_step {w0 : World} {E : Nat → Prop} {B : Bs} {T : Types} (hT : TOk P T) {sl : List AV} {H : Heap} {nm : Nat} {a : Act} {w : World} {loc : Loc} (hB : Base w0 B w loc) (hr : Rel' w0 E loc ⟨sl, H, nm⟩ a w) (o : Oper) (hp : (keepA T sl o.op H).p)
    (next : Act → World → Prop) (Q : Exit → Act → World → Prop)
    (hn : ∀ a' w' loc', Base w0 B w' loc' → Rel' w0 E loc' ⟨putSlot (fgL (keepA T sl o.op H).id (keepA T sl o.op H).s (keepA T sl o.op H).xs sl) o.dst (keepA T sl o.op H).x, fgH (keepA T sl o.op H).id (keepA T sl o.op H).s (keepA T sl o.op H).xs H, nm + 8⟩ a' w' → next a' w') : o.wp P a w next Q := by
  unfold keepA at hp hn
  cases ho : o.op with
  | call c =>
    simp only [ho] at hp hn
    obtain ⟨callee, args, argTypes⟩ := c
    simp only at hp hn
    cases callee with
    | builtin bb =>
      cases bb with
      | append =>
        simp only at hp hn
        split at hp
        · rename_i d x t u hax hat
          obtain rfl : args = #[d, x] := by rw [← Array.toList_inj]; simpa using hax
          obtain rfl : argTypes = #[t, u] := by rw [← Array.toList_inj]; simpa using hat
          simp only at hn
          cases ht : T t with
          | none => simp [ht, badK] at hp
          | some ti =>
            cases htu : T u with
            | none => simp [ht, htu, badK] at hp
            | some tu =>
              simp only [ht, htu] at hp hn
              have hd := (hT t ti ht).d
              have hud := (hT u tu htu).d
              cases hdd : ti.d with
              | slice e =>
                cases hdu : tu.d with
                | slice e' =>
                  simp only [hdd, hdu] at hp hn
                  rw [hdd] at hd
                  rw [hdu] at hud
                  have hd : P.underlying t = some (.slice e) := hd
                  have hud : P.underlying u = some (.slice e') := hud
                  cases hte : T e with
                  | none => simp [hte, badK] at hp
                  | some te =>
                    simp only [hte] at hp hn
                    have hty := hT _ te hte
                    have hv : R w loc (ev sl d) (a.eval d) := ev_R hr.slots d
                    have hx : R w loc (ev sl x) (a.eval x) := ev_R hr.slots x
                    generalize hxd : ev sl d = dv at hp hn hv
                    cases dv with
                    | ms id s off len =>
                      simp only at hp hn
                      cases hl : look H id with
                      | none => simp [hl, badK] at hp
                      | some blk =>
                        cases blk with
                        | o x => simp [hl, badK] at hp
                        | g s' xs =>
                          simp only [hl] at hp hn
                          obtain ⟨rfl, rfl, rfl, rfl, hs, hb, hvw, hcx, hcy, hm, htop⟩ := hp
                          obtain ⟨v1, v2⟩ := viewG_sound hs hr.heap hx hvw
                          generalize (viewG te.size H (ev sl x)).2 = ys at hn hcy hm htop v1 v2
                          have hv0 := hv
                          cases hv with
                          | ms _ _ _ _ _ hown =>
                            obtain ⟨u', w', hrun, hor⟩ := keep_runs (P := P) (ty := o.type) (nm := nm) hr.env hr.heap hd hty hud (by simp) hs hb (src_seen (P := P) v1) v2 hl hown hcx hcy hm htop
                            have hwp : (execOp a.eval o).run P w = .ok (.value u') w' := by
                              simp only [execOp, ho, resolve, invoke, builtin, Sem.run_bind, Sem.run_pure, Result.andThen_ok]
                              simp [hrun]
                            unfold Oper.wp
                            rw [hwp]
                            have hclxy : closedL (xs ++ ys) = true := closedL_append hcx hcy
                            have hlive : loc.m id ≠ .free := by intro e; simp [Owns, e] at hown
                            rcases hor with ⟨hpost, hR⟩ | hpost
                            · have hB1 := hB.post hpost
                              have hr1 := rel_post hr hpost (fun k b hk => by
                                rw [look_put] at hk
                                split at hk
                                · rename_i e; subst e; exact .inl (by rw [hl]; simp)
                                · exact .inl (by rw [hk]; simp)) o.dst
                              have hblk := hr1.heap id (.g te.size (xs ++ ys)) (by simp [look_put])
                              have hblk0 : BlkR w' loc id (.g te.size xs) := by
                                unfold BlkR at hblk ⊢
                                split
                                · trivial
                                · rename_i e; rw [e] at hblk; exact hblk
                                · rename_i e
                                  rw [e] at hblk
                                  have h8 := hblk.2
                                  rw [show (Blk.g te.size (xs ++ ys)).len = (xs ++ ys).length from rfl, List.length_append] at h8
                                  omega
                                · rename_i b e; rw [e] at hblk; exact ⟨⟨hs, fun y hy => hblk.1.2 y (List.mem_append_left _ hy)⟩, lies_take hblk.2⟩
                              obtain ⟨hB2, hr2⟩ := rel_fg hB1 hr1 hlive hblk0 hcx
                              have hdata : R w' (loc.set id .dead) (.sg te.size (xs ++ ys) false) u' := by
                                have hor : (loc.m id = .nil ∧ (xs ++ ys) = []) ∨ ∃ b, loc.m id = .here b ∧ b < w'.heap.size ∧ Lies w' loc (.g te.size (xs ++ ys)) b ∧ (∀ k, loc.m k = .here b → k = id) ∧ ¬ loc.bad b := by
                                  unfold BlkR at hblk
                                  cases e : loc.m id with
                                  | free => exact (hlive e).elim
                                  | dead => rw [e] at hblk; exact hblk.elim
                                  | nil => rw [e] at hblk; exact .inl ⟨rfl, List.eq_nil_of_length_eq_zero hblk.2⟩
                                  | here b =>
                                    rw [e] at hblk
                                    have h1 := hr1.env.lies id b e
                                    refine .inr ⟨b, rfl, h1.1, hblk.2, fun k hk => hr1.env.inj k id b hk e, fun hb => ?_⟩
                                    have h2 := hr1.env.bad b hb
                                    rcases h1.2 with h3 | h3
                                    · omega
                                    · exact h2.2 h3
                                have hokk : Blk.ok (.g te.size (xs ++ ys)) := by
                                  unfold BlkR at hblk
                                  split at hblk
                                  · rename_i e; exact (hlive e).elim
                                  · exact hblk.elim
                                  · exact hblk.1
                                  · exact hblk.1
                                have := fg_R hclxy hokk hor hR
                                have e : (AV.ms id te.size 0 (xs ++ ys).length).fg id te.size (xs ++ ys) = .sg te.size (xs ++ ys) false := by
                                  simp only [AV.fg, beq_self_eq_true, cond_true, Nat.zero_add, Nat.le_refl, decide_true, Bool.and_self, List.drop_zero, List.take_length]
                                rwa [e] at this
                              refine hn _ _ _ hB2 ?_
                              have hsl : ∀ t, R w' (loc.set id .dead) (slot (putSlot (fgL id te.size xs sl) o.dst (.sg te.size (xs ++ ys) false)) t) ((a.put o.dst u').tmps.getD t undef) := by
                                intro t
                                have h3 := hr2.slots t
                                simp only at h3
                                cases hdst : o.dst with
                                | none => rw [hdst] at h3; exact h3
                                | some dt =>
                                  rw [hdst] at h3
                                  simp only [putSlot] at h3 ⊢
                                  by_cases htd : dt = t
                                  · subst htd
                                    have hsz : a.tmps.size = sl.length := hr.size
                                    by_cases hlt : dt < sl.length
                                    · rw [slot_set_same (by rw [(fgL_get id te.size xs sl).1]; exact hlt)]
                                      have : (a.put (some dt) u').tmps.getD dt undef = u' := by simp [Act.put, hsz, hlt]
                                      rw [this]; exact hdata
                                    · rw [slot_ge (by rw [setSlot_length, (fgL_get id te.size xs sl).1]; exact Nat.le_of_not_lt hlt)]
                                      exact .junk _
                                  · rw [slot_set_other htd, slot_fgL]
                                    rw [slot_fgL, slot_set_other htd] at h3
                                    exact h3
                              refine ⟨?_, hsl, ?_, hr2.env, hr2.fresh, hr2.defers, ?_⟩
                              · have := hr2.size
                                simp only [putSlot_length, (fgL_get id te.size xs _).1] at this ⊢
                                exact this
                              · have := hr2.heap; rw [fgH_put] at this; exact this
                              · intro k b hk
                                obtain ⟨_, c, h2, _⟩ := fgH_get hk
                                have := hr.low k c h2
                                simp at this ⊢; omega
                            · have hB1 := hB.post hpost
                              have hr1 := rel_post hr hpost (fun k b hk => .inl (by rw [hk]; simp)) o.dst
                              have hblk0 := hr1.heap id (.g te.size xs) hl
                              obtain ⟨hB2, hr2⟩ := rel_fg hB1 hr1 hlive hblk0 hcx
                              refine hn _ _ _ hB2 ?_
                              refine ⟨?_, fun t => ?_, hr2.heap, hr2.env, hr2.fresh, hr2.defers, hr2.low⟩
                              · have := hr2.size
                                simp only [putSlot_length, (fgL_get id te.size xs _).1] at this ⊢
                                exact this
                              · have h3 := hr2.slots t
                                simp only at h3 ⊢
                                cases hdst : o.dst with
                                | none => rw [hdst] at h3; exact h3
                                | some dt =>
                                  rw [hdst] at h3
                                  simp only [putSlot] at h3 ⊢
                                  by_cases htd : dt = t
                                  · subst htd
                                    by_cases hlt : dt < sl.length
                                    · rw [slot_set_same (by rw [(fgL_get id te.size xs sl).1]; exact hlt)]
                                      rw [slot_fgL, slot_set_same hlt] at h3
                                      exact h3
                                    · rw [slot_ge (by rw [setSlot_length, (fgL_get id te.size xs sl).1]; exact Nat.le_of_not_lt hlt)]
                                      exact .junk _
                                  · rw [slot_set_other htd, slot_fgL]
                                    rw [slot_fgL, slot_set_other htd] at h3
                                    exact h3
                        | _ => simp [hl, badK] at hp
                    | _ => exact hp.elim
                | _ => simp [hdd, hdu, badK] at hp
              | _ => simp [hdd, badK] at hp
        · exact hp.elim
      | _ => exact hp.elim
    | _ => exact hp.elim
  | _ => rw [ho] at hp; exact hp.elim
end
end Ax
end Go.Proofs.Ytbncglnlmcjplaa

/- Code where some appends leave the elder slice. -/
namespace Go.Proofs.Ytbncglnlmcjplaa
namespace Ax
open Go.RowKit
set_option linter.unusedSimpArgs false
set_option linter.unusedVariables false

def aopsK (S : FSpecs) (T : Types) (ops : List Oper) : Nat → Nat → List Oper → List AV → Heap → (List AV → Heap → Prop) → Prop
  | _, _, [], sl, H, Q => Q sl H
  | 0, nm, o :: r, sl, H, Q => o.guard = none ∧ (keepA T sl o.op H).p ∧ aops S T ops (nm + 8) r (putSlot (fgL (keepA T sl o.op H).id (keepA T sl o.op H).s (keepA T sl o.op H).xs sl) o.dst (keepA T sl o.op H).x) (fgH (keepA T sl o.op H).id (keepA T sl o.op H).s (keepA T sl o.op H).xs H) Q
  | k + 1, nm, o :: r, sl, H, Q => o.guard = none ∧ (aop S T nm sl o.op H).p ∧ aopsK S T ops k (nm + 8) r (putSlot sl o.dst (aop S T nm sl o.op H).x) (aop S T nm sl o.op H).H Q

theorem aopsK_sound {P : Program} {w0 : World} {E : Nat → Prop} {T : Types} {S : FSpecs} (hT : TOk P T) (hS : Fns P S) {ops : Array Oper} {K : Exit → Act → World → Prop} {Q : List AV → Heap → Prop} {B : Bs} {nz : Nat}
    (hK : ∀ sl H a w loc, Base w0 B w loc → Rel' w0 E loc ⟨sl, H, nz⟩ a w → Q sl H → K .normal a w) : ∀ (k : Nat) (r : List Oper) (nm : Nat) (sl : List AV) (H : Heap) (a : Act) (w : World) (loc : Loc), nz = nm + 8 * r.length → Base w0 B w loc →
    Rel' w0 E loc ⟨sl, H, nm⟩ a w → aopsK S T ops.toList k nm r sl H Q → wpList P ops K r a w
  | k, [], nm, sl, H, a, w, loc, hz, hb, hr, h => by
    simp only [List.length_nil, Nat.mul_zero, Nat.add_zero] at hz
    subst hz
    exact wpList_nil (hK sl H a w loc hb hr (by cases k <;> exact h))
  | 0, o :: r, nm, sl, H, a, w, loc, hz, hb, hr, h => by
    have hz' : nz = nm + 8 + 8 * r.length := by simp at hz; omega
    obtain ⟨hg, hp, hrest⟩ := h
    refine wpList_step fun Kn hKn => ?_
    rw [if_pos (by simp [Region.wanted, hg])]
    exact keep_step hT hb hr o hp Kn K (fun a' w' loc' hB hR => hKn _ _ (aops_sound (ops := ops) hT hS hK r (nm + 8) _ _ a' w' loc' hz' hB hR hrest))
  | k + 1, o :: r, nm, sl, H, a, w, loc, hz, hb, hr, h => by
    have hz' : nz = nm + 8 + 8 * r.length := by simp at hz; omega
    obtain ⟨hg, hp, hrest⟩ := h
    refine wpList_step fun Kn hKn => ?_
    rw [if_pos (by simp [Region.wanted, hg])]
    have hop := aop_sound hT hS hr.env hr.heap (fun id h1 _ => hr.fresh id h1) o (fun x _ => ev_R hr.slots x) hp
    exact hop Kn K (fun v w' loc' hpost => hKn _ _ (aopsK_sound hT hS hK k r (nm + 8) _ _ _ w' loc' hz' (hb.post hpost) (rel_post hr hpost (hnew_aop hp) o.dst) hrest))

/-- A slot's own block is told as data. -/
def frzS (i : Nat) (q : Prop × List AV × Heap) : Prop × List AV × Heap :=
  match slot q.2.1 i with
  | .ms id _ _ _ => match look q.2.2 id with
    | some (.b bs) => (q.1, fzL id bs q.2.1, fzH id bs q.2.2)
    | some (.g s xs) => (q.1 ∧ closedL xs = true, fgL id s xs q.2.1, fgH id s xs q.2.2)
    | some (.i ns) => (q.1, fiL id ns q.2.1, fiH id ns q.2.2)
    | _ => q
  | _ => q
def frzL : List Nat → Prop × List AV × Heap → Prop × List AV × Heap
  | [], q => q
  | i :: r, q => frzL r (frzS i q)
def frzK (l : List Nat) (sl : List AV) (H : Heap) (K : List AV → Heap → Prop) : Prop := (frzL l (True, sl, H)).1 ∧ K (frzL l (True, sl, H)).2.1 (frzL l (True, sl, H)).2.2
theorem frzS_sound {i : Nat} {q : Prop × List AV × Heap} {nx : Nat} (h : (frzS i q).1) : q.1 ∧ Weak ⟨q.2.1, q.2.2, nx⟩ ⟨(frzS i q).2.1, (frzS i q).2.2, nx⟩ := by
  unfold frzS at h ⊢
  split at h
  · rename_i id s off len hs
    split at h
    · rename_i bs hl
      exact ⟨h, weak_fz id i bs hl (by rw [hs]; simp [AV.ids])⟩
    · rename_i s' xs hl
      exact ⟨h.1, weak_fg id s' i xs hl h.2 (by rw [hs]; simp [AV.ids])⟩
    · rename_i ns hl
      exact ⟨h, weak_fi id i ns hl (by rw [hs]; simp [AV.ids])⟩
    · exact ⟨h, Weak.refl _⟩
  · exact ⟨h, Weak.refl _⟩
theorem frzL_sound {nx : Nat} : ∀ (l : List Nat) (q : Prop × List AV × Heap), (frzL l q).1 → q.1 ∧ Weak ⟨q.2.1, q.2.2, nx⟩ ⟨(frzL l q).2.1, (frzL l q).2.2, nx⟩
  | [], q, h => ⟨h, Weak.refl _⟩
  | i :: r, q, h => by
    obtain ⟨h1, h2⟩ := frzL_sound (nx := nx) r _ h
    obtain ⟨h3, h4⟩ := frzS_sound (nx := nx) h1
    exact ⟨h3, h4.trans h2⟩
theorem frzK_sound {nx : Nat} (l : List Nat) (sl : List AV) (H : Heap) (K : List AV → Heap → Prop) (h : frzK l sl H K) : ∃ sl' H', Weak ⟨sl, H, nx⟩ ⟨sl', H', nx⟩ ∧ K sl' H' :=
  ⟨_, _, (frzL_sound l _ h.1).2, h.2⟩

/-- For a region's number: the slots whose blocks are told as data ahead of it; the place of the append whose elder slice stays. -/
abbrev KPlan := Nat → Option (List Nat × Option Nat)

def drawsOkK (T : Types) (pl : KPlan) : Code → Bool
  | .region id ops draw => match pl id with
    | none => !draw || drawOk T ops.toList
    | some (_, none) => !draw || drawOk T ops.toList
    | some (_, some _) => !draw
  | .seq a b => drawsOkK T pl a && drawsOkK T pl b
  | .cond _ a b => drawsOkK T pl a && drawsOkK T pl b
  | .block _ c => drawsOkK T pl c
  | .loop c => drawsOkK T pl c
  | _ => true

def awpK (S : FSpecs) (T : Types) (pl : KPlan) : Code → (Exit → ASt → Prop) → ASt → Prop
  | .skip, Q, σ => Q .normal σ
  | .label _, Q, σ => Q .normal σ
  | .region id ops _, Q, σ => match pl id with
    | none => aops S T ops.toList σ.nx ops.toList σ.sl σ.H (regK (σ.nx + 8 * ops.toList.length) Q)
    | some (fs, none) => frzK fs σ.sl σ.H (fun sl H => aops S T ops.toList σ.nx ops.toList sl H (regK (σ.nx + 8 * ops.toList.length) Q))
    | some (fs, some k) => frzK fs σ.sl σ.H (fun sl H => aopsK S T ops.toList k σ.nx ops.toList sl H (regK (σ.nx + 8 * ops.toList.length) Q))
  | .seq a b, Q, σ => awpK S T pl a (seqK (awpK S T pl b Q) Q) σ
  | .cond c a b, Q, σ => match ev σ.sl c with
      | .w (.bool t) => csplit t (awpK S T pl a Q σ) (awpK S T pl b Q σ)
      | _ => False
  | .block id c, Q, σ => awpK S T pl c (blockK id Q) σ
  | .loop c, Q, σ => ALoop (awpK S T pl c) Q σ
  | .exit id, Q, σ => Q (.exit id) σ
  | .ret, Q, σ => Q .ret σ
  | _, _, _ => False

open Classical in
theorem awpK_sound {P : Program} {w0 : World} {E : Nat → Prop} {T : Types} {S : FSpecs} {pl : KPlan} (hm : P.follows .mixedOrders = true) (hT : TOk P T) (hS : Fns P S) {B : Bs} : ∀ (c : Code) (Q : Exit → ASt → Prop) (σ : ASt) (a : Act) (w : World),
    drawsOkK T pl c = true → awpK S T pl c Q σ → Rel w0 E B σ a w → c.wp P (Low w0 E B Q) a w := by
  intro c
  induction c with
  | skip => intro Q σ a w hdr h hr; exact wp_skip ⟨σ, hr, h⟩
  | label l => intro Q σ a w hdr h hr; exact wp_label ⟨σ, hr, h⟩
  | ret => intro Q σ a w hdr h hr; exact wp_ret ⟨σ, hr, h⟩
  | exit id => intro Q σ a w hdr h hr; exact wp_exit ⟨σ, hr, h⟩
  | region id ops draw =>
    intro Q σ a w hdr h hr
    obtain ⟨loc, hb, hr⟩ := hr
    obtain ⟨sl, H, nx⟩ := σ
    have hK : ∀ sl H a w loc, Base w0 B w loc → Rel' w0 E loc ⟨sl, H, nx + 8 * ops.toList.length⟩ a w → regK (nx + 8 * ops.toList.length) Q sl H → Low w0 E B Q .normal a w := fun sl H a w loc h1 h2 h3 => ⟨_, ⟨loc, h1, h2⟩, h3⟩
    simp only [drawsOkK] at hdr
    simp only [awpK] at h
    cases hp : pl id with
    | none =>
      simp only [hp] at hdr h
      cases draw with
      | false => exact wp_region_list (aops_sound hT hS hK ops.toList nx sl H a w loc rfl hb hr h)
      | true => exact draw_sound hT hS hm w0 E ops.toList _ _ B nx sl H a w loc id (by simpa using hdr) hK hb hr h
    | some p =>
      obtain ⟨fs, kk⟩ := p
      cases kk with
      | none =>
        simp only [hp] at hdr h
        obtain ⟨sl', H', hw, h⟩ := frzK_sound (nx := nx) _ _ _ _ h
        obtain ⟨loc', hb', hr'⟩ := hw _ _ _ _ _ ⟨loc, hb, hr⟩
        cases draw with
        | false => exact wp_region_list (aops_sound hT hS hK ops.toList nx sl' H' a w loc' rfl hb' hr' h)
        | true => exact draw_sound hT hS hm w0 E ops.toList _ _ B nx sl' H' a w loc' id (by simpa using hdr) hK hb' hr' h
      | some k =>
        simp only [hp] at hdr h
        obtain ⟨sl', H', hw, h⟩ := frzK_sound (nx := nx) _ _ _ _ h
        obtain ⟨loc', hb', hr'⟩ := hw _ _ _ _ _ ⟨loc, hb, hr⟩
        cases draw with
        | false => exact wp_region_list (aopsK_sound hT hS hK k ops.toList nx sl' H' a w loc' rfl hb' hr' h)
        | true => simp at hdr
  | seq x y ihx ihy =>
    intro Q σ a w hdr h hr
    refine wp_seq (wp_mono (ihx _ σ a w (by simp only [drawsOkK, Bool.and_eq_true] at hdr; exact hdr.1) h hr) ?_)
    rintro e a' w' ⟨σ', hr', hq⟩
    cases e with
    | normal => exact ihy Q σ' a' w' (by simp only [drawsOkK, Bool.and_eq_true] at hdr; exact hdr.2) hq hr'
    | _ => exact ⟨σ', hr', hq⟩
  | cond c x y ihx ihy =>
    intro Q σ a w hdr h hr
    simp only [awpK, csplit] at h
    simp only [drawsOkK, Bool.and_eq_true] at hdr
    obtain ⟨loc, hb, hr⟩ := hr
    split at h
    · rename_i t hc
      have hv := ev_R hr.slots c
      rw [hc] at hv
      have hv := hv.wv
      cases t with
      | true => exact wp_cond_true hv (ihx Q σ a w hdr.1 (h.1 rfl) ⟨loc, hb, hr⟩)
      | false => exact wp_cond_false hv (ihy Q σ a w hdr.2 (h.2 rfl) ⟨loc, hb, hr⟩)
    · exact h.elim
  | block id c ih =>
    intro Q σ a w hdr h hr
    refine wp_block (wp_mono (ih _ σ a w hdr h hr) ?_)
    rintro e a' w' ⟨σ', hr', hq⟩
    cases e with
    | exit id' =>
      simp only [blockK, Exit.inBlock] at hq ⊢
      split at hq
      · rename_i he; rw [if_pos he]; exact ⟨σ', hr', hq⟩
      · rename_i he; rw [if_neg he]; exact ⟨σ', hr', hq⟩
    | _ => exact ⟨σ', hr', hq⟩
  | loop c ih =>
    intro Q σ a w hdr h hr
    obtain ⟨I, ⟨n0, σ0, hw0, hI0⟩, hround⟩ := h
    let p : Act → World → Nat → Prop := fun a w n => ∃ σ, Rel w0 E B σ a w ∧ I n σ
    have hleast : ∀ a w, (∃ n, p a w n) → ∃ m, p a w m ∧ ∀ k, p a w k → m ≤ k := fun a w ⟨n, hn⟩ => let ⟨m, h1, _, h3⟩ := least n hn; ⟨m, h1, h3⟩
    let μ : Act → World → Nat := fun a w => if h : ∃ n, p a w n then Classical.choose (hleast a w h) else 0
    refine wp_loop (fun a w => ∃ n, p a w n) μ ⟨n0, σ0, hw0 w0 E B a w hr, hI0⟩ ?_
    intro a w hex
    have hμ : μ a w = Classical.choose (hleast a w hex) := dif_pos hex
    obtain ⟨⟨σ1, hr1, hI1⟩, hmin⟩ := Classical.choose_spec (hleast a w hex)
    rw [← hμ] at hI1
    refine wp_mono (ih _ σ1 a w hdr (hround _ σ1 hI1) hr1) ?_
    rintro e a' w' ⟨σ', hr', hq⟩
    cases e with
    | normal =>
      obtain ⟨m, σ2, hlt, hw2, hI2⟩ := hq
      have hp : p a' w' m := ⟨σ2, hw2 w0 E B a' w' hr', hI2⟩
      refine ⟨⟨m, hp⟩, ?_⟩
      have hμ' : μ a' w' = Classical.choose (hleast a' w' ⟨m, hp⟩) := dif_pos ⟨m, hp⟩
      have := (Classical.choose_spec (hleast a' w' ⟨m, hp⟩)).2 m hp
      rw [← hμ'] at this
      exact Nat.lt_of_le_of_lt this hlt
    | _ =>
      obtain ⟨σ2, hw2, hq⟩ := hq
      exact ⟨σ2, hw2 w0 E B a' w' hr', hq⟩
  | _ => intro Q σ a w hdr h hr; exact h.elim


theorem sound_genK {P : Program} {T : Types} {S : FSpecs} (hT : TOk P T) (hS : Fns P S) {f : FuncId} {fn : Func} {c : Code} (hf : P.funcs[f]? = some fn) (hb : fn.body = some c) {spec : FSpec} {Qp : List AV → List Blk → Exit → ASt → Prop}
    (hqp : ∀ xs pins e σ, Qp xs pins e σ → ∃ σ', Weak σ σ' ∧ Ends T fn.results.toList pins (spec xs pins) e σ')
    (h : ∀ xs pins, (spec xs pins).p → closedB pins = true → pins.length ≤ 4 ∧ ∀ w0 E B a w, Rel w0 E B ⟨xs ++ List.replicate (fn.ntmps - xs.length) .junk, pinHeap 0 pins, 4⟩ a w → c.wp P (Low w0 E B (Qp xs pins)) a w) : Sound P f spec := by
  intro xs pins hp hcl w bad pb vs hlen hnd hbad hlies hxl hx
  obtain ⟨hp4, h⟩ := h xs pins hp hcl
  refine calls_of_wp hf hb ?_
  have hrel : Rel w (· ∈ pb) ⟨bad, pb⟩ ⟨xs ++ List.replicate (fn.ntmps - xs.length) .junk, pinHeap 0 pins, 4⟩ { tmps := vs.toArray ++ Array.replicate (fn.ntmps - vs.toArray.size) undef, defers := [] } w := by
    refine ⟨locOf pb bad, ⟨⟨rfl, fun k hk cur e fz hh => ⟨cur, fz, hh, rfl⟩⟩, by simp only; omega, fun k hk => .inr ⟨by simp [locOf, List.getElem?_eq_getElem hk], fun cur e fz hh => ⟨cur, fz, hh, rfl⟩⟩⟩, ?_⟩
    refine ⟨by simp [hxl], fun t => ?_, ?_, ?_, ?_, rfl, fun id b hl => ?_⟩
    · simp only
      rw [slot_getD]
      by_cases ht : t < xs.length
      · have e1 : (xs ++ List.replicate (fn.ntmps - xs.length) AV.junk).getD t .junk = xs[t] := by simp [List.getElem?_append_left, ht]
        have e2 : (vs.toArray ++ Array.replicate (fn.ntmps - vs.toArray.size) undef).getD t undef = vs[t]'(by omega) := by
          have : t < vs.length := by omega
          simp [Array.getD_eq_getD_getElem?, Array.getElem?_append, this]
        rw [e1, e2]
        exact hx t ht _
      · have e1 : (xs ++ List.replicate (fn.ntmps - xs.length) AV.junk).getD t .junk = .junk := by
          rw [List.getD_eq_getElem?_getD, List.getElem?_append_right (by omega), List.getElem?_replicate]
          split <;> rfl
        rw [e1]; exact .junk _
    · intro id b hl
      obtain ⟨j, hj, rfl, rfl⟩ := pinHeap_look pins 0 id b hl
      have hj' : j < pb.length := by omega
      unfold BlkR
      have : (locOf pb bad).m (0 + j) = .here pb[j] := by simp [locOf, List.getElem?_eq_getElem hj']
      rw [this]
      exact hlies j hj hj'
    · refine ⟨rfl, rfl, rfl, Nat.le_refl _, fun _ _ _ => rfl, ?_, ?_, ?_⟩
      · intro i j b hi hj
        obtain ⟨h1, h2⟩ := locOf_at hi
        obtain ⟨h3, h4⟩ := locOf_at hj
        exact nodup_inj hnd (h2.trans h4.symm)
      · intro i b hi
        obtain ⟨h1, h2⟩ := locOf_at hi
        subst h2
        refine ⟨?_, .inr (List.getElem_mem h1)⟩
        obtain ⟨ob, hh⟩ := lies_live2 (hlies i (by omega) h1).2
        rcases Nat.lt_or_ge pb[i] w.heap.size with h' | h'
        · exact h'
        · rw [Array.getElem?_eq_none h'] at hh; cases hh
      · exact fun b hb => hbad b hb
    · intro id hid
      simp only at hid
      have : pb[id]? = none := List.getElem?_eq_none (by omega)
      simp [locOf, this]
    · obtain ⟨j, hj, rfl, _⟩ := pinHeap_look pins 0 id b hl
      simp; omega
  refine wp_mono (h _ _ _ _ w hrel) ?_
  have main : ∀ a w' σ, Rel w (· ∈ pb) ⟨bad, pb⟩ σ a w' → (rvals T σ.H σ.sl fn.results.toList).1 ∧ EndsX pins (spec xs pins) (rone (rvals T σ.H σ.sl fn.results.toList).2) σ →
      a.defers = [] ∧ ∃ v, (results fn a.tmps).run P w' = .ok v w' ∧ ∃ v' loc', Ending.returned v = .returned v' ∧ Gives w bad pb (spec xs pins) v' w' loc' := by
    rintro a w' σ ⟨loc, hB, hr⟩ ⟨hrv, hnodup, hpin, hbl, hren⟩
    obtain ⟨v, hv, hR⟩ := results_R (P := P) (fn := fn) hT hr.heap hr.slots hrv
    refine ⟨hr.defers, v, hv, v, ?_⟩
    generalize rone (rvals T σ.H σ.sl fn.results.toList).2 = x at hnodup hpin hbl hren hR
    have hnd' := nodup_iff hnodup
    obtain ⟨hids1, hids2⟩ := newIds_mem x.ids (upTo 0 pins)
    obtain ⟨hu1, hu2⟩ := upTo_get pins 0
    generalize hids : newIds (upTo 0 pins) x.ids = ids at hnodup hpin hbl hren hnd' hids1 hids2
    obtain ⟨hpl, hpc, hpg⟩ := pinsOf_get hpin
    rw [hbl] at hpl hpc hpg
    obtain ⟨t, rfl⟩ := hids1
    have hm : pins.length ≤ (upTo 0 pins ++ t).length := by simp [hu1]
    have hold : ∀ k, (hk : k < pins.length) → (upTo 0 pins ++ t)[k]'(by omega) = k := by
      intro k hk
      rw [List.getElem_append_left (by omega)]
      have := hu2 k (by omega)
      omega
    -- every one of the names is alive
    have hlive : ∀ (k : Nat) (hk : k < (upTo 0 pins ++ t).length), loc.m (upTo 0 pins ++ t)[k] ≠ .free := by
      intro k hk
      rcases hids2 _ (List.getElem_mem hk) with hi | hi
      · obtain ⟨j, hj, he⟩ := List.getElem_of_mem hi
        rw [← he, hu2 j hj]
        have hj' : j < pb.length := by omega
        rcases hB.2.2 j hj' with h1 | ⟨h1, _⟩
        · rw [Nat.zero_add, h1]; simp
        · rw [Nat.zero_add, h1]; simp
      · exact ids_live x v hR hi
    have hblk : ∀ (k : Nat) (hk : k < (upTo 0 pins ++ t).length) (hk' : k < (spec xs pins).bl.length), BlkR w' loc (upTo 0 pins ++ t)[k] (spec xs pins).bl[k] := by
      intro k hk hk'
      refine hr.heap _ _ ?_
      rw [hpg k hk, List.getElem?_eq_getElem hk']
    have hdead : ∀ (k : Nat) (hk : k < (upTo 0 pins ++ t).length), loc.m (upTo 0 pins ++ t)[k] ≠ .dead := by
      intro k hk e
      have := hblk k hk (by omega)
      unfold BlkR at this
      rw [e] at this
      exact this
    let g : Nat → Nat := gOf (upTo 0 pins ++ t) σ.nx
    have hgo : ∀ k, (hk : k < (upTo 0 pins ++ t).length) → g k = (upTo 0 pins ++ t)[k] := fun k hk => gOf_old hk
    have hgn : ∀ k, (upTo 0 pins ++ t).length ≤ k → loc.m (g k) = .free := by
      intro k hk
      refine hr.fresh _ ?_
      show σ.nx ≤ gOf _ σ.nx k
      rw [gOf_new hk]; omega
    let loc' : Loc := { m := fun k => loc.m (g k), bad := loc.bad }
    have hlt : ∀ i b, loc'.m i = .here b → i < (upTo 0 pins ++ t).length := by
      intro i b hi
      rcases Nat.lt_or_ge i (upTo 0 pins ++ t).length with h' | h'
      · exact h'
      · have : loc'.m i = .free := hgn i h'
        rw [this] at hi; cases hi
    have hinj : ∀ i j b, loc'.m i = .here b → loc'.m j = .here b → i = j := by
      intro i j b hi hj
      have h1 := hlt i b hi
      have h2 := hlt j b hj
      have h3 : g i = g j := hr.env.inj (g i) (g j) b hi hj
      rw [hgo i h1, hgo j h2] at h3
      exact nodup_inj hnd' h3
    have hpb : ∀ (k : Nat) (hk : k < pb.length), loc'.m k = .here pb[k] ∧ ∀ cur e fz, w.heap[pb[k]]? = some (.cells cur e fz) → ∃ cur' fz', w'.heap[pb[k]]? = some (.cells cur' e fz') ∧ cur'.size = cur.size := by
      intro k hk
      have hk1 : k < pins.length := by omega
      have e : loc'.m k = loc.m k := by
        show loc.m (g k) = loc.m k
        rw [hgo k (by omega), hold k hk1]
      rcases hB.2.2 k hk with h1 | ⟨h1, h2⟩
      · have := hdead k (by omega)
        rw [hold k hk1] at this
        exact (this h1).elim
      · exact ⟨e.trans h1, h2⟩
    refine ⟨loc', rfl, ?_⟩
    refine ⟨unren (loc2 := loc') (g := g) (fun _ => rfl) rfl hR _ hren, hB.1.1, ?_, fun k hk => (hpb k hk).1, ?_, ?_, hinj, ?_⟩
    · intro k hk
      have hk' : k < (upTo 0 pins ++ t).length := by omega
      have e : loc'.m k = loc.m (upTo 0 pins ++ t)[k] := by show loc.m (g k) = _; rw [hgo k hk']
      refine ⟨?_, by rw [e]; exact hlive k hk', by rw [e]; exact hdead k hk'⟩
      have hb := hblk k hk' hk
      unfold BlkR at hb ⊢
      rw [e]
      split
      · trivial
      · rename_i e'; rw [e'] at hb; exact hb
      · rename_i e'; rw [e'] at hb; exact hb
      · rename_i b e'
        rw [e'] at hb
        refine ⟨hb.1, lies_move hb.2 (closedB_get hpc k hk) (.inr ?_)⟩
        rintro c _ (h | ⟨i, h⟩)
        · exact .inl h
        · exact .inr ⟨g i, h⟩
    · intro k b hk hkb
      have := hr.env.lies (g k) b hkb
      refine ⟨?_, this.1⟩
      rcases this.2 with h' | h'
      · exact h'
      · obtain ⟨j, hj, he⟩ := List.getElem_of_mem h'
        have h1 := (hpb j hj).1
        rw [he] at h1
        have := hinj k j b hkb h1
        omega
    · intro k hk
      exact hgn k (by omega)
    · refine ⟨hr.env.os, hr.env.tape, hr.env.output, hr.env.size, hr.env.same, ?_⟩
      rintro b cur e fz hb hh
      obtain ⟨j, hj, rfl⟩ := List.getElem_of_mem hb
      exact (hpb j hj).2 cur e fz hh
  rintro e a w' ⟨σ0, hr0, hq0⟩
  obtain ⟨σ, hwk, hq⟩ := hqp xs pins e σ0 hq0
  have hr := hwk _ _ _ _ _ hr0
  cases e with
  | normal => exact main a w' σ hr hq
  | ret => exact main a w' σ hr hq
  | _ => exact hq.elim


theorem fn_soundK {P : Program} {T : Types} {S : FSpecs} {pl : KPlan} (hm : P.follows .mixedOrders = true) (hT : TOk P T) (hS : Fns P S) {f : FuncId} {fn : Func} {c : Code} (hf : P.funcs[f]? = some fn) (hb : fn.body = some c) (hd : drawsOkK T pl c = true) {spec : FSpec}
    (h : ∀ xs pins, (spec xs pins).p → closedB pins = true → pins.length ≤ 4 ∧ awpK S T pl c (EndsW T fn.results.toList pins (spec xs pins)) ⟨xs ++ List.replicate (fn.ntmps - xs.length) .junk, pinHeap 0 pins, 4⟩) : Sound P f spec :=
  sound_genK hT hS hf hb (Qp := fun xs pins => EndsW T fn.results.toList pins (spec xs pins)) (fun _ _ _ _ h => h) (fun xs pins hp hc => ⟨(h xs pins hp hc).1, fun w0 E B a w hr => awpK_sound hm hT hS c _ _ _ _ hd (h xs pins hp hc).2 hr⟩)

/-- The same, held back. -/
def laterK (S : FSpecs) (T : Types) (pl : KPlan) (b : Code) (Q : Exit → ASt → Prop) : Exit → ASt → Prop := seqK (awpK S T pl b Q) Q

section rules
variable {S : FSpecs} {T : Types} {pl : KPlan} {Q : Exit → ASt → Prop} {σ : ASt}
theorem awpK_skip : awpK S T pl .skip Q σ = Q .normal σ := rfl
theorem awpK_label {l : Nat} : awpK S T pl (.label l) Q σ = Q .normal σ := rfl
theorem awpK_ret : awpK S T pl .ret Q σ = Q .ret σ := rfl
theorem awpK_exit {id : Nat} : awpK S T pl (.exit id) Q σ = Q (.exit id) σ := rfl
theorem awpK_region {id : Nat} {l : List Oper} {draw : Bool} : awpK S T pl (.region id l.toArray draw) Q σ = match pl id with
    | none => aops S T l σ.nx l σ.sl σ.H (regK (σ.nx + 8 * l.length) Q)
    | some (fs, none) => frzK fs σ.sl σ.H (fun sl H => aops S T l σ.nx l sl H (regK (σ.nx + 8 * l.length) Q))
    | some (fs, some k) => frzK fs σ.sl σ.H (fun sl H => aopsK S T l k σ.nx l sl H (regK (σ.nx + 8 * l.length) Q)) := by
  simp [awpK]
theorem awpK_seq {a b : Code} : awpK S T pl (.seq a b) Q σ = awpK S T pl a (laterK S T pl b Q) σ := rfl
theorem awpK_block {id : Nat} {c : Code} : awpK S T pl (.block id c) Q σ = awpK S T pl c (blockK id Q) σ := rfl
theorem awpK_cond {c : Operand} {a b : Code} : awpK S T pl (.cond c a b) Q σ = match ev σ.sl c with
      | .w (.bool t) => csplit t (awpK S T pl a Q σ) (awpK S T pl b Q σ)
      | _ => False := rfl
theorem awpK_loopW {c : Code} (h : ALoop (awpK S T pl c) Q σ) : awpK S T pl (.loop c) Q σ := h
theorem laterK_normal {b : Code} : laterK S T pl b Q .normal σ = awpK S T pl b Q σ := rfl
theorem laterK_exit {b : Code} {id : Nat} : laterK S T pl b Q (.exit id) σ = Q (.exit id) σ := rfl
theorem laterK_ret {b : Code} : laterK S T pl b Q .ret σ = Q .ret σ := rfl
variable {ops r : List Oper} {o : Oper} {nm k : Nat} {sl : List AV} {H : Heap} {Q' : List AV → Heap → Prop}
/-- What an append whose elder slice stays leaves. -/
def keepK (q : KOut) (sl : List AV) (dst : Option Tmp) (H : Heap) (K : List AV → Heap → Prop) : Prop := q.p ∧ K (putSlot (fgL q.id q.s q.xs sl) dst q.x) (fgH q.id q.s q.xs H)
theorem aopsK_zero {dst : Option Tmp} {op : Op} {type : TypeId} {pos : String} {after : Array Edge} : aopsK S T ops 0 nm (⟨dst, op, type, pos, after, none⟩ :: r) sl H Q' =
    keepK (keepA T sl op H) sl dst H (fun sl' H' => aops S T ops (nm + 8) r sl' H' Q') := by
  simp [aopsK, keepK]
theorem frzK_def {l : List Nat} {K : List AV → Heap → Prop} : frzK l sl H K = ((frzL l (True, sl, H)).1 ∧ K (frzL l (True, sl, H)).2.1 (frzL l (True, sl, H)).2.2) := rfl
theorem keepK_def {q : KOut} {dst : Option Tmp} {K : List AV → Heap → Prop} : keepK q sl dst H K = (q.p ∧ K (putSlot (fgL q.id q.s q.xs sl) dst q.x) (fgH q.id q.s q.xs H)) := rfl
theorem keepK_mk {p : Prop} {x : AV} {id s : Nat} {xs : List AV} {sl : List AV} {dst : Option Tmp} {H : Heap} {K : List AV → Heap → Prop} : keepK ⟨p, x, id, s, xs⟩ sl dst H K = (p ∧ K (putSlot (fgL id s xs sl) dst x) (fgH id s xs H)) := rfl
theorem aopsK_succ {dst : Option Tmp} {op : Op} {type : TypeId} {pos : String} {after : Array Edge} : aopsK S T ops (k + 1) nm (⟨dst, op, type, pos, after, none⟩ :: r) sl H Q' =
    ((aop S T nm sl op H).p ∧ aopsK S T ops k (nm + 8) r (putSlot sl dst (aop S T nm sl op H).x) (aop S T nm sl op H).H Q') := by
  simp [aopsK]
end rules

end Ax
end Go.Proofs.Ytbncglnlmcjplaa

namespace Go.Proofs.Ytbncglnlmcjplaa
open Ax
/-- One name for all. -/
theorem evTK : (type_of% @awpK_skip) ∧
    (type_of% @awpK_label) ∧
    (type_of% @awpK_ret) ∧
    (type_of% @awpK_exit) ∧
    (type_of% @awpK_region) ∧
    (type_of% @awpK_seq) ∧
    (type_of% @awpK_block) ∧
    (type_of% @awpK_cond) ∧
    (type_of% @laterK_exit) ∧
    (type_of% @laterK_ret) :=
  ⟨@awpK_skip, @awpK_label, @awpK_ret, @awpK_exit, @awpK_region, @awpK_seq, @awpK_block, @awpK_cond, @laterK_exit, @laterK_ret⟩
/-- The evaluator, equation by equation. -/
theorem evDK : (type_of% @Ax.frzS.eq_1) ∧
    (type_of% @Ax.frzL.eq_1) ∧
    (type_of% @Ax.frzL.eq_2) ∧
    (type_of% @Ax.fzL.eq_1) ∧
    (type_of% @Ax.fzL.eq_2) ∧
    (type_of% @Ax.fzH.eq_1) ∧
    (type_of% @Ax.fzH.eq_2) ∧
    (type_of% @Ax.AV.fz.eq_1) ∧
    (type_of% @Ax.AV.fz.eq_2) ∧
    (type_of% @Ax.AV.fz.eq_3) ∧
    (type_of% @Ax.AV.fz.eq_4) ∧
    (type_of% @Ax.AV.fz.eq_5) ∧
    (type_of% @Ax.fiL.eq_1) ∧
    (type_of% @Ax.fiL.eq_2) ∧
    (type_of% @Ax.fiH.eq_1) ∧
    (type_of% @Ax.fiH.eq_2) ∧
    (type_of% @Ax.AV.fi.eq_1) ∧
    (type_of% @Ax.AV.fi.eq_2) ∧
    (type_of% @Ax.AV.fi.eq_3) ∧
    (type_of% @Ax.AV.fi.eq_4) ∧
    (type_of% @Ax.AV.fi.eq_5) ∧
    (type_of% @Ax.fgL.eq_1) ∧
    (type_of% @Ax.fgL.eq_2) ∧
    (type_of% @Ax.fgH.eq_1) ∧
    (type_of% @Ax.fgH.eq_2) ∧
    (type_of% @Ax.AV.fg.eq_1) ∧
    (type_of% @Ax.AV.fg.eq_2) ∧
    (type_of% @Ax.AV.fg.eq_3) ∧
    (type_of% @Ax.AV.fg.eq_4) ∧
    (type_of% @Ax.AV.fg.eq_5) :=
  ⟨@Ax.frzS.eq_1, @Ax.frzL.eq_1, @Ax.frzL.eq_2, @Ax.fzL.eq_1, @Ax.fzL.eq_2, @Ax.fzH.eq_1, @Ax.fzH.eq_2, @Ax.AV.fz.eq_1, @Ax.AV.fz.eq_2, @Ax.AV.fz.eq_3, @Ax.AV.fz.eq_4, @Ax.AV.fz.eq_5, @Ax.fiL.eq_1, @Ax.fiL.eq_2, @Ax.fiH.eq_1, @Ax.fiH.eq_2, @Ax.AV.fi.eq_1, @Ax.AV.fi.eq_2, @Ax.AV.fi.eq_3, @Ax.AV.fi.eq_4, @Ax.AV.fi.eq_5, @Ax.fgL.eq_1, @Ax.fgL.eq_2, @Ax.fgH.eq_1, @Ax.fgH.eq_2, @Ax.AV.fg.eq_1, @Ax.AV.fg.eq_2, @Ax.AV.fg.eq_3, @Ax.AV.fg.eq_4, @Ax.AV.fg.eq_5⟩
open Ax
attribute [go_sem] evDK evTK aopsK_zero aopsK_succ keepA Blk.fz Blk.fi Blk.fg
attribute [go_sem ↓] frzK_def keepK_def
end Go.Proofs.Ytbncglnlmcjplaa
