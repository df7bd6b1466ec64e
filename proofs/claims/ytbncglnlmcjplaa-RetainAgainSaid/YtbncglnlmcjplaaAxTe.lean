/- A block of ints that nobody writes any more is told as data. -/
import Derived.Test.YtbncglnlmcjplaaAxZb
namespace Go.Proofs.Ytbncglnlmcjplaa
namespace Ax
set_option linter.unusedSimpArgs false
set_option linter.unusedVariables false

mutual
/-- The block 'id' that holds ints, told as data. -/
def AV.fi (id : Nat) (bs : List Int) : AV → AV
  | .agg xs => .agg (fiL id bs xs)
  | .tup xs => .tup (fiL id bs xs)
  | .fn f cs => .fn f (fiL id bs cs)
  | .ms k s off len => bif k == id then (bif s == 1 && decide (off + len ≤ bs.length) then .si ((bs.drop off).take len) false else .ms k s off len) else .ms k s off len
  | x => x
def fiL (id : Nat) (bs : List Int) : List AV → List AV
  | [] => []
  | x :: xs => x.fi id bs :: fiL id bs xs
end

theorem fiL_get (id : Nat) (bs : List Int) : ∀ (xs : List AV), (fiL id bs xs).length = xs.length ∧ ∀ (j : Nat) (h : j < (fiL id bs xs).length) (h' : j < xs.length), (fiL id bs xs)[j] = xs[j].fi id bs
  | [] => ⟨rfl, fun j h => by simp [fiL] at h⟩
  | x :: xs => by
    obtain ⟨h1, h2⟩ := fiL_get id bs xs
    refine ⟨by simp [fiL, h1], fun j h h' => ?_⟩
    cases j with
    | zero => rfl
    | succ j => exact h2 j (by simpa [fiL] using h) (by simpa using h')

theorem fi_leaf {id : Nat} {bs : List Int} {x : AV} (h : x.leaf = true) : (x.fi id bs).leaf = true := by
  cases x <;> first | exact h | (simp [AV.leaf] at h; done) | skip
  simp only [AV.fi]
  cases (_ == id) with
  | false => rfl
  | true =>
    simp only [cond_true]
    cases (_ && _ : Bool) <;> rfl

theorem fi_R {w : World} {loc : Loc} {id : Nat} {bs : List Int} (hor : (loc.m id = .nil ∧ bs = []) ∨ ∃ b, loc.m id = .here b ∧ b < w.heap.size ∧ Lies w loc (.i bs) b ∧ (∀ k, loc.m k = .here b → k = id) ∧ ¬ loc.bad b) {x : AV} {v : Value} (h : R w loc x v) : R w (loc.set id .dead) (x.fi id bs) v := by
  have hM : ∀ c, Mut (loc.set id .dead) c → Mut loc c := by
    rintro c (h | ⟨k, h⟩)
    · exact .inl h
    · by_cases hk : k = id
      · subst hk; rw [Loc.set_same] at h; cases h
      · rw [Loc.set_other _ _ hk] at h; exact .inr ⟨k, h⟩
  have hC : ∀ {a cs}, Cells w loc a cs → Cells w (loc.set id .dead) a cs := fun h => h.move (fun b _ hm => hM b hm)
  induction h with
  | w v h => exact .w v h
  | str bs => exact .str bs
  | agg xs cs hl hx _ ih =>
    obtain ⟨h1, h2⟩ := fiL_get id bs xs
    refine .agg _ cs (by rw [h1, hl]) (fun j hj => ?_) (fun j a b => ?_)
    · rw [h2 j hj (by rw [← h1]; exact hj)]; exact fi_leaf (hx j _)
    · rw [h2 j a (by rw [← h1]; exact a)]; exact ih j _ b
  | tup xs cs hl _ ih =>
    obtain ⟨h1, h2⟩ := fiL_get id bs xs
    refine .tup _ cs (by rw [h1, hl]) (fun j a b => ?_)
    rw [h2 j a (by rw [← h1]; exact a)]; exact ih j _ b
  | sb bs full a cap hd hc => exact .sb bs full a cap hd (hC hc)
  | si ns full a cap hd hc => exact .si ns full a cap hd (hC hc)
  | sg s xs full a cap cs hd hs hc hl hx h _ => exact .sg s xs full a cap cs hd hs (hC hc) hl hx (fun j a b => (h j a b).move (fun b _ hm => hM b hm) (hx j a).2)
  | cp ls a cs hc hn hl hx h _ => exact .cp ls a cs (hC hc) hn hl hx (fun j a b => (h j a b).move (fun b _ hm => hM b hm) (hx j a).2)
  | ms k s off len v h =>
    have hkeep : R w (loc.set id .dead) (.ms k s off len) v := by
      refine .ms _ _ _ _ _ ?_
      by_cases hk : k = id
      · subst hk; unfold Owns; rw [Loc.set_same]; exact h.one
      · unfold Owns at h ⊢; rw [Loc.set_other _ _ hk]; exact h
    simp only [AV.fi]
    by_cases hk : k = id
    · subst hk
      simp only [beq_self_eq_true, cond_true]
      cases hc : (s == 1 && decide (off + len ≤ bs.length)) with
      | false => exact hkeep
      | true =>
        simp only [cond_true]
        simp only [Bool.and_eq_true, beq_iff_eq, decide_eq_true_eq] at hc
        obtain ⟨rfl, hle⟩ := hc
        have hlen : ((bs.drop off).take len).length = len := by simp; omega
        rcases hor with ⟨hb, rfl⟩ | ⟨b, hb, hlt, hl, hinj, hnb⟩
        · unfold Owns at h
          rw [hb] at h
          obtain ⟨rfl, a, rfl⟩ := h
          have := R.si (w := w) (loc := loc.set k .dead) (([] : List Int)) false a 0 ⟨Nat.le_refl _, Nat.zero_le _, fun h => by cases h⟩ ⟨.inl rfl⟩
          simpa using this
        unfold Owns at h
        rw [hb] at h
        obtain ⟨o, cap, cur, e, fz, rfl, ho, hh, hsz, hlc, htop⟩ := h
        have hcells : Cells w (loc.set k .dead) (some ⟨b, o, none⟩) (((bs.drop off).take len).map word) := by
          by_cases h0 : len = 0
          · subst h0; exact ⟨.inl (by simp)⟩
          refine ⟨.inr ⟨b, o, rfl, ?_, hlt, fun j hj => ?_⟩⟩
          · rintro (h | ⟨i, h⟩)
            · exact hnb h
            · by_cases hk : i = k
              · subst hk; rw [Loc.set_same] at h; cases h
              · rw [Loc.set_other _ _ hk] at h; exact hk (hinj i h)
          · obtain ⟨cur', e', fz', hh', hf', hone', hfl', hr'⟩ := hl.lies
            rw [hh] at hh'; injection hh' with hh'; injection hh' with h1 h2 h3; subst h1
            have ho := ho (by omega)
            rw [Nat.mul_one] at ho
            rw [ho]
            have hj' : j < len := by simp at hj; omega
            have hfl : (Blk.flat (.i bs)).length = bs.length := by simp [Blk.flat]
            have hjs : off + j < cur.size := by omega
            have := (hr' (off + j) (by omega) hjs).2
            have e1 : (Blk.flat (.i bs))[off + j]'(by omega) = .w (word (bs[off + j]'(by omega))) := by simp [Blk.flat]
            rw [e1] at this
            have := this.wv
            have e2 : (((bs.drop off).take len).map word)[j] = word (bs[off + j]'(by omega)) := by simp
            rw [e2, ← this]
            simp [World.cell?, hh, hjs]
        have := R.si (w := w) (loc := loc.set k .dead) ((bs.drop off).take len) false (some ⟨b, o, none⟩) cap ⟨by omega, htop, fun h => by cases h⟩ hcells
        rw [hlen] at this
        exact this
    · have : (k == id) = false := by simpa using hk
      rw [this]; exact hkeep
  | rf k s i f v h =>
    refine .rf _ _ _ _ _ ?_
    by_cases hk : k = id
    · subst hk; unfold Points; rw [Loc.set_same]; exact h.one
    · unfold Points at h ⊢; rw [Loc.set_other _ _ hk]; exact h
  | fn f caps cs hl _ ih =>
    obtain ⟨h1, h2⟩ := fiL_get id bs caps
    refine .fn f _ cs (by rw [h1, hl]) (fun j a b => ?_)
    rw [h2 j a (by rw [← h1]; exact a)]; exact ih j _ b
  | junk v => exact .junk v


def Blk.fi (id : Nat) (bs : List Int) : Blk → Blk
  | .g s xs => .g s (fiL id bs xs)
  | .b cs => .b cs
  | .i ns => .i ns
  | .o x => .o x

theorem odd_fi {id : Nat} {bs : List Int} {b : Blk} : (b.fi id bs).odd = b.odd := by cases b <;> rfl
def fiH (id : Nat) (bs : List Int) : Heap → Heap
  | [] => []
  | p :: r => bif p.1 == id then fiH id bs r else (p.1, p.2.fi id bs) :: fiH id bs r

theorem leaves_fi (id : Nat) (bs : List Int) (x : AV) : (x.fi id bs).leaves = fiL id bs x.leaves := by
  cases x <;> first | rfl | skip
  simp only [AV.fi, AV.leaves, fiL]
  cases (_ == id) with
  | false => rfl
  | true =>
    simp only [cond_true]
    cases (_ && _ : Bool) <;> rfl

theorem fiL_append (id : Nat) (bs : List Int) : ∀ (xs ys : List AV), fiL id bs (xs ++ ys) = fiL id bs xs ++ fiL id bs ys
  | [], _ => rfl
  | x :: xs, ys => by simp [fiL, fiL_append id bs xs ys]

theorem flat_fi (id : Nat) (bs : List Int) (b : Blk) : (b.fi id bs).flat = fiL id bs b.flat := by
  cases b with
  | b cs =>
    simp only [Blk.fi, Blk.flat]
    induction cs with
    | nil => rfl
    | cons c r ih => simp only [List.map_cons, fiL, AV.fi]; rw [← ih]
  | o x => rfl
  | i ns =>
    simp only [Blk.fi, Blk.flat]
    induction ns with
    | nil => rfl
    | cons c r ih => simp only [List.map_cons, fiL, AV.fi]; rw [← ih]
  | g s xs =>
    simp only [Blk.fi, Blk.flat]
    induction xs with
    | nil => rfl
    | cons c r ih => simp only [fiL, List.flatMap_cons, fiL_append]; rw [ih, leaves_fi]

theorem ok_fi {id : Nat} {bs : List Int} {b : Blk} (h : b.ok) : (b.fi id bs).ok := by
  cases b with
  | g s xs =>
    obtain ⟨h1, h2⟩ := h
    refine ⟨h1, fun x hx => ?_⟩
    obtain ⟨j, hj, rfl⟩ := List.getElem_of_mem hx
    obtain ⟨h3, h4⟩ := fiL_get id bs xs
    rw [h4 j hj (by rw [← h3]; exact hj), leaves_fi, (fiL_get id bs _).1]
    exact h2 _ (List.getElem_mem _)
  | _ => trivial
theorem len_fi {id : Nat} {bs : List Int} {b : Blk} : (b.fi id bs).len = b.len := by
  cases b with
  | g s xs => exact (fiL_get id bs xs).1
  | _ => rfl

theorem fiH_get {id : Nat} {bs : List Int} : ∀ {H : Heap} {k : Nat} {b : Blk}, look (fiH id bs H) k = some b → k ≠ id ∧ ∃ c, look H k = some c ∧ b = c.fi id bs
  | [], k, b, h => by simp [fiH, look] at h
  | p :: r, k, b, h => by
    have e : look (p :: r) k = if p.1 = k then some p.2 else look r k := look_put r p.1 k p.2
    unfold fiH at h
    by_cases hp : p.1 = id
    · have : (p.1 == id) = true := by simpa using hp
      rw [this] at h
      obtain ⟨h1, c, h2, h3⟩ := fiH_get h
      exact ⟨h1, c, by rw [e, if_neg (by omega)]; exact h2, h3⟩
    · have : (p.1 == id) = false := by simpa using hp
      rw [this] at h
      have e2 : look ((p.1, p.2.fi id bs) :: fiH id bs r) k = if p.1 = k then some (p.2.fi id bs) else look (fiH id bs r) k := look_put (fiH id bs r) p.1 k _
      simp only [cond_false] at h
      rw [e2] at h
      split at h
      · rename_i hk
        injection h with h
        exact ⟨by omega, p.2, by rw [e, if_pos hk], h.symm⟩
      · rename_i hk
        obtain ⟨h1, c, h2, h3⟩ := fiH_get h
        exact ⟨h1, c, by rw [e, if_neg hk]; exact h2, h3⟩

theorem slot_fiL {id : Nat} {bs : List Int} : ∀ (sl : List AV) (t : Nat), slot (fiL id bs sl) t = (slot sl t).fi id bs
  | [], t => rfl
  | x :: xs, 0 => rfl
  | x :: xs, t + 1 => slot_fiL xs t

/-- A block of ints that nobody writes any more. -/
theorem rel_fi {w0 : World} {E : Nat → Prop} {B : Bs} {w : World} {loc : Loc} {a : Act} {sl : List AV} {H : Heap} {nx : Nat} (id : Nat) (bs : List Int) (hl : look H id = some (.i bs)) (hB : Base w0 B w loc) (hr : Rel' w0 E loc ⟨sl, H, nx⟩ a w) (hlive : loc.m id ≠ .free) : Rel w0 E B ⟨fiL id bs sl, fiH id bs H, nx⟩ a w := by
  have hblk := hr.heap id _ hl
  have hor : (loc.m id = .nil ∧ bs = []) ∨ ∃ b, loc.m id = .here b ∧ b < w.heap.size ∧ Lies w loc (.i bs) b ∧ (∀ k, loc.m k = .here b → k = id) ∧ ¬ loc.bad b := by
    unfold BlkR at hblk
    cases e : loc.m id with
    | free => exact (hlive e).elim
    | dead => rw [e] at hblk; exact hblk.elim
    | nil => rw [e] at hblk; exact .inl ⟨rfl, List.eq_nil_of_length_eq_zero hblk.2⟩
    | here b =>
      rw [e] at hblk
      have h1 := hr.env.lies id b e
      refine .inr ⟨b, rfl, h1.1, hblk.2, fun k hk => hr.env.inj k id b hk e, fun hb => ?_⟩
      have h2 := hr.env.bad b hb
      rcases h1.2 with h3 | h3
      · omega
      · exact h2.2 h3
  have hset : ∀ {k c}, (loc.set id .dead).m k = .here c → loc.m k = .here c := by
    intro k c h
    by_cases hk : k = id
    · subst hk; rw [Loc.set_same] at h; cases h
    · rwa [Loc.set_other _ _ hk] at h
  refine ⟨loc.set id .dead, ⟨hB.1, hB.2.1, fun k hk => ?_⟩, ⟨?_, fun t => ?_, ?_, ⟨hr.env.os, hr.env.tape, hr.env.output, hr.env.size, hr.env.same, fun i j b h1 h2 => hr.env.inj i j b (hset h1) (hset h2), fun i b h1 => hr.env.lies i b (hset h1), hr.env.bad⟩, ?_, hr.defers, ?_⟩⟩
  · by_cases hne : k = id
    · subst hne; left; rw [Loc.set_same]
    · rw [Loc.set_other _ _ hne]; exact hB.2.2 k hk
  · rw [hr.size]; exact ((fiL_get id bs sl).1).symm
  · simp only; rw [slot_fiL]; exact fi_R hor (hr.slots t)
  · intro k b hk
    obtain ⟨h1, c, h2, rfl⟩ := fiH_get hk
    have h3 := hr.heap k c h2
    unfold BlkR at h3 ⊢
    rw [Loc.set_other _ _ h1]
    split
    · trivial
    · rename_i e; rw [e] at h3; exact h3
    · rename_i e; rw [e] at h3; exact ⟨ok_fi h3.1, by rw [len_fi]; exact h3.2⟩
    · rename_i d e
      rw [e] at h3
      rcases odd_cases c with ⟨x, hx, rfl⟩ | hodd
      · exact ⟨ok_fi h3.1, .mkO (Thing.move (loc := loc) (fun c _ hM => hM.imp (fun h => h) (fun ⟨k, h⟩ => ⟨k, hset h⟩)) (h3.2.is hx)) rfl⟩
      obtain ⟨cur, el, fi, g1, g2, g3, g4, g5⟩ := h3.2.lies hodd
      have hlen : (c.fi id bs).flat.length = c.flat.length := by rw [flat_fi, (fiL_get id bs _).1]
      refine ⟨ok_fi h3.1, .mkC ⟨cur, el, fi, g1, g2, g3, by omega, fun j x y => ?_⟩ (odd_fi.trans hodd)⟩
      have h6 := g5 j (by omega) y
      have e : (c.fi id bs).flat[j] = (c.flat[j]'(by omega)).fi id bs := by
        have := (fiL_get id bs c.flat).2 j (by rw [(fiL_get id bs _).1]; omega) (by omega)
        rw [← this]
        congr 1
        exact flat_fi id bs c
      rw [e]
      exact ⟨fi_leaf h6.1, fi_R hor h6.2⟩
  · intro k hk
    by_cases hne : k = id
    · exact (hlive (hne ▸ hr.fresh k hk)).elim
    · rw [Loc.set_other _ _ hne]; exact hr.fresh k hk
  · intro k b hk
    obtain ⟨h1, c, h2, rfl⟩ := fiH_get hk
    exact hr.low k c h2
theorem weak_fi {sl : List AV} {H : Heap} {nx : Nat} (id i : Nat) (bs : List Int) (hl : look H id = some (.i bs)) (hi : id ∈ (slot sl i).ids) : Weak ⟨sl, H, nx⟩ ⟨fiL id bs sl, fiH id bs H, nx⟩ := by
  rintro w0 E B a w ⟨loc, hB, hr⟩
  exact rel_fi id bs hl hB hr (ids_live _ _ (hr.slots i) hi)

end Ax
end Go.Proofs.Ytbncglnlmcjplaa
