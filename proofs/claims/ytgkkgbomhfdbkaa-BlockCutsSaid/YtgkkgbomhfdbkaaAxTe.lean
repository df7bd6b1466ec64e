/- A block of structures that nobody writes any more is told as data; append where the elder slice stays. -/
import Derived.Test.YtgkkgbomhfdbkaaAxZb
namespace Go.Proofs.Ytgkkgbomhfdbkaa
namespace Ax
set_option linter.unusedSimpArgs false
set_option linter.unusedVariables false

mutual
/-- The block 'id' that holds these, told as data. -/
def AV.fg (id s : Nat) (zs : List AV) : AV → AV
  | .agg xs => .agg (fgL id s zs xs)
  | .tup xs => .tup (fgL id s zs xs)
  | .fn f cs => .fn f (fgL id s zs cs)
  | .ms k s' off len => bif k == id then (bif s' == s && decide (off + len ≤ zs.length) then .sg s ((zs.drop off).take len) false else .ms k s' off len) else .ms k s' off len
  | x => x
def fgL (id s : Nat) (zs : List AV) : List AV → List AV
  | [] => []
  | x :: xs => x.fg id s zs :: fgL id s zs xs
end

theorem fgL_get (id s : Nat) (zs : List AV) : ∀ (xs : List AV), (fgL id s zs xs).length = xs.length ∧ ∀ (j : Nat) (h : j < (fgL id s zs xs).length) (h' : j < xs.length), (fgL id s zs xs)[j] = xs[j].fg id s zs
  | [] => ⟨rfl, fun j h => by simp [fgL] at h⟩
  | x :: xs => by
    obtain ⟨h1, h2⟩ := fgL_get id s zs xs
    refine ⟨by simp [fgL, h1], fun j h h' => ?_⟩
    cases j with
    | zero => rfl
    | succ j => exact h2 j (by simpa [fgL] using h) (by simpa using h')

theorem fg_leaf {id s : Nat} {zs : List AV} {x : AV} (h : x.leaf = true) : (x.fg id s zs).leaf = true := by
  cases x <;> first | exact h | (simp [AV.leaf] at h; done) | skip
  simp only [AV.fg]
  cases (_ == id) with
  | false => rfl
  | true =>
    simp only [cond_true]
    cases (_ && _ : Bool) <;> rfl

theorem fg_R {w : World} {loc : Loc} {id s : Nat} {zs : List AV} (hcl : closedL zs = true) (hok : Blk.ok (.g s zs)) (hor : (loc.m id = .nil ∧ zs = []) ∨ ∃ b, loc.m id = .here b ∧ b < w.heap.size ∧ Lies w loc (.g s zs) b ∧ (∀ k, loc.m k = .here b → k = id) ∧ ¬ loc.bad b) {x : AV} {v : Value} (h : R w loc x v) : R w (loc.set id .dead) (x.fg id s zs) v := by
  have hM : ∀ c, Mut (loc.set id .dead) c → Mut loc c := by
    rintro c (h | ⟨k, h⟩)
    · exact .inl h
    · by_cases hk : k = id
      · subst hk; rw [Loc.set_same] at h; cases h
      · rw [Loc.set_other _ _ hk] at h; exact .inr ⟨k, h⟩
  have hC : ∀ {a cs}, Cells w loc a cs → Cells w (loc.set id .dead) a cs := fun h => h.move (fun b _ hm => hM b hm)
  induction h with
  | w v h => exact .w v h
  | str bs => exact .str bs
  | agg xs cs hl hx _ ih =>
    obtain ⟨h1, h2⟩ := fgL_get id s zs xs
    refine .agg _ cs (by rw [h1, hl]) (fun j hj => ?_) (fun j a b => ?_)
    · rw [h2 j hj (by rw [← h1]; exact hj)]; exact fg_leaf (hx j _)
    · rw [h2 j a (by rw [← h1]; exact a)]; exact ih j _ b
  | tup xs cs hl _ ih =>
    obtain ⟨h1, h2⟩ := fgL_get id s zs xs
    refine .tup _ cs (by rw [h1, hl]) (fun j a b => ?_)
    rw [h2 j a (by rw [← h1]; exact a)]; exact ih j _ b
  | sb bs full a cap hd hc => exact .sb bs full a cap hd (hC hc)
  | si ns full a cap hd hc => exact .si ns full a cap hd (hC hc)
  | sg s xs full a cap cs hd hs hc hl hx h _ => exact .sg s xs full a cap cs hd hs (hC hc) hl hx (fun j a b => (h j a b).move (fun b _ hm => hM b hm) (hx j a).2)
  | cp ls a cs hc hn hl hx h _ => exact .cp ls a cs (hC hc) hn hl hx (fun j a b => (h j a b).move (fun b _ hm => hM b hm) (hx j a).2)
  | ms k s' off len v h =>
    have hkeep : R w (loc.set id .dead) (.ms k s' off len) v := by
      refine .ms _ _ _ _ _ ?_
      by_cases hk : k = id
      · subst hk; unfold Owns; rw [Loc.set_same]; exact h.one
      · unfold Owns at h ⊢; rw [Loc.set_other _ _ hk]; exact h
    simp only [AV.fg]
    by_cases hk : k = id
    · subst hk
      simp only [beq_self_eq_true, cond_true]
      cases hc : (s' == s && decide (off + len ≤ zs.length)) with
      | false => exact hkeep
      | true =>
        simp only [cond_true]
        simp only [Bool.and_eq_true, beq_iff_eq, decide_eq_true_eq] at hc
        obtain ⟨rfl, hle⟩ := hc
        have hlen : ((zs.drop off).take len).length = len := by simp; omega
        have hls : ∀ y ∈ (zs.drop off).take len, y.leaves.length = s' := fun y hy => hok.2 y (List.mem_of_mem_drop (List.mem_of_mem_take hy))
        have hclx : ∀ (j : Nat) (hj : j < (((zs.drop off).take len).flatMap AV.leaves).length), (((zs.drop off).take len).flatMap AV.leaves)[j].closed = true := by
          intro j hj
          have hm := List.getElem_mem hj
          obtain ⟨y, hy, hyl⟩ := List.mem_flatMap.1 hm
          exact closed_leaves (closedL_mem hcl (List.mem_of_mem_drop (List.mem_of_mem_take hy))) _ hyl
        have hHR : HR w loc [(k, .g s' zs)] := by
          intro i b hl
          simp only [look] at hl
          split at hl
          · rename_i e; subst e
            injection hl with hl; subst hl
            unfold BlkR
            rcases hor with ⟨h1, h2⟩ | ⟨b, h1, h2, h3, _⟩
            · rw [h1]; exact ⟨hok, by rw [h2]; rfl⟩
            · rw [h1]; exact ⟨hok, h3⟩
          · cases hl
        have hs := seen_ms (H := [(k, .g s' zs)]) (blk := .g s' zs) hHR h (by simp [look]) rfl hle
        have hfl : (Blk.flat (.g s' zs) |>.drop (off * s') |>.take (len * s')) = ((zs.drop off).take len).flatMap AV.leaves := by
          rw [flatMap_take _ _ (fun y hy => hok.2 y (List.mem_of_mem_drop hy)), flatMap_drop _ _ hok.2]; rfl
        rw [hfl] at hs
        obtain ⟨a, cap, rfl, h1, h2, h3⟩ := hs.seen
        have h3 : len = 0 ∨ ∃ cs, (cs.length = len * s' ∧ CellsOf w loc (((zs.drop off).take len).flatMap AV.leaves) cs ∧ Cells w (loc.set k .dead) a cs) := by
          rcases h3 with h3 | ⟨b, o, cs, rfl, h4, h5, h6, h7⟩
          · exact .inl h3
          · by_cases h0 : len = 0
            · exact .inl h0
            refine .inr ⟨cs, h5, h7, ⟨.inr ⟨b, o, rfl, ?_, h4, h6⟩⟩⟩
            have hb : loc.m k = .here b ∧ (∀ i, loc.m i = .here b → i = k) ∧ ¬ loc.bad b := by
              rcases hor with ⟨hb, rfl⟩ | ⟨b', hb, hlt, hl, hinj, hnb⟩
              · simp at hle; omega
              · unfold Owns at h; rw [hb] at h
                obtain ⟨o', cap', cur0, e0, fz0, hv, _⟩ := h
                injection hv with hv _ _
                injection hv with hv
                injection hv with hv1 hv2
                subst hv1
                exact ⟨hb, hinj, hnb⟩
            rintro (hq | ⟨i, hq⟩)
            · exact hb.2.2 hq
            · by_cases hk : i = k
              · subst hk; rw [Loc.set_same] at hq; cases hq
              · rw [Loc.set_other _ _ hk] at hq; exact hk (hb.2.1 i hq)
        have : R w (loc.set k .dead) (.sg s' ((zs.drop off).take len) false) (.slice a ((zs.drop off).take len).length cap) := by
          rcases h3 with h0 | ⟨cs, h5, h7, h8⟩
          · have he : (zs.drop off).take len = [] := List.length_eq_zero_iff.1 (by omega)
            rw [he]
            exact .sg s' [] false a cap [] ⟨Nat.zero_le _, h2, by simp⟩ (by simp) ⟨.inl rfl⟩ (by simp) (fun j hj => by simp at hj) (fun j hj => by simp at hj)
          · exact .sg s' ((zs.drop off).take len) false a cap cs ⟨by omega, h2, by simp⟩ hls h8 h7.len (fun j hj => ⟨h7.leaf j hj, hclx j hj⟩) (fun j x y => (h7.r j x y).move (fun b _ hm => hM b hm) (hclx j x))
        rw [hlen] at this
        exact this
    · have : (k == id) = false := by simpa using hk
      rw [this]; exact hkeep
  | rf k s i f v h =>
    refine .rf _ _ _ _ _ ?_
    by_cases hk : k = id
    · subst hk; unfold Points; rw [Loc.set_same]; exact h.one
    · unfold Points at h ⊢; rw [Loc.set_other _ _ hk]; exact h
  | fn f caps cs hl _ ih =>
    obtain ⟨h1, h2⟩ := fgL_get id s zs caps
    refine .fn f _ cs (by rw [h1, hl]) (fun j a b => ?_)
    rw [h2 j a (by rw [← h1]; exact a)]; exact ih j _ b
  | junk v => exact .junk v
def Blk.fg (id s : Nat) (zs : List AV) : Blk → Blk
  | .g s' xs => .g s' (fgL id s zs xs)
  | .b cs => .b cs
  | .i ns => .i ns

def fgH (id s : Nat) (zs : List AV) : Heap → Heap
  | [] => []
  | p :: r => bif p.1 == id then fgH id s zs r else (p.1, p.2.fg id s zs) :: fgH id s zs r

theorem leaves_fg (id s : Nat) (zs : List AV) (x : AV) : (x.fg id s zs).leaves = fgL id s zs x.leaves := by
  cases x <;> first | rfl | skip
  simp only [AV.fg, AV.leaves, fgL]
  cases (_ == id) with
  | false => rfl
  | true =>
    simp only [cond_true]
    cases (_ && _ : Bool) <;> rfl

theorem fgL_append (id s : Nat) (zs : List AV) : ∀ (xs ys : List AV), fgL id s zs (xs ++ ys) = fgL id s zs xs ++ fgL id s zs ys
  | [], _ => rfl
  | x :: xs, ys => by simp [fgL, fgL_append id s zs xs ys]

theorem flat_fg (id s : Nat) (zs : List AV) (b : Blk) : (b.fg id s zs).flat = fgL id s zs b.flat := by
  cases b with
  | b cs =>
    simp only [Blk.fg, Blk.flat]
    induction cs with
    | nil => rfl
    | cons c r ih => simp only [List.map_cons, fgL, AV.fg]; rw [← ih]
  | i ns =>
    simp only [Blk.fg, Blk.flat]
    induction ns with
    | nil => rfl
    | cons c r ih => simp only [List.map_cons, fgL, AV.fg]; rw [← ih]
  | g s xs =>
    simp only [Blk.fg, Blk.flat]
    induction xs with
    | nil => rfl
    | cons c r ih => simp only [fgL, List.flatMap_cons, fgL_append]; rw [ih, leaves_fg]

theorem ok_fg {id s : Nat} {zs : List AV} {b : Blk} (h : b.ok) : (b.fg id s zs).ok := by
  cases b with
  | g s' xs =>
    obtain ⟨h1, h2⟩ := h
    refine ⟨h1, fun x hx => ?_⟩
    obtain ⟨j, hj, rfl⟩ := List.getElem_of_mem hx
    obtain ⟨h3, h4⟩ := fgL_get id s zs xs
    rw [h4 j hj (by rw [← h3]; exact hj), leaves_fg, (fgL_get id s zs _).1]
    exact h2 _ (List.getElem_mem _)
  | _ => trivial
theorem len_fg {id s : Nat} {zs : List AV} {b : Blk} : (b.fg id s zs).len = b.len := by
  cases b with
  | g s' xs => exact (fgL_get id s zs xs).1
  | _ => rfl

theorem fgH_get {id s : Nat} {zs : List AV} : ∀ {H : Heap} {k : Nat} {b : Blk}, look (fgH id s zs H) k = some b → k ≠ id ∧ ∃ c, look H k = some c ∧ b = c.fg id s zs
  | [], k, b, h => by simp [fgH, look] at h
  | p :: r, k, b, h => by
    have e : look (p :: r) k = if p.1 = k then some p.2 else look r k := look_put r p.1 k p.2
    unfold fgH at h
    by_cases hp : p.1 = id
    · have : (p.1 == id) = true := by simpa using hp
      rw [this] at h
      obtain ⟨h1, c, h2, h3⟩ := fgH_get h
      exact ⟨h1, c, by rw [e, if_neg (by omega)]; exact h2, h3⟩
    · have : (p.1 == id) = false := by simpa using hp
      rw [this] at h
      have e2 : look ((p.1, p.2.fg id s zs) :: fgH id s zs r) k = if p.1 = k then some (p.2.fg id s zs) else look (fgH id s zs r) k := look_put (fgH id s zs r) p.1 k _
      simp only [cond_false] at h
      rw [e2] at h
      split at h
      · rename_i hk
        injection h with h
        exact ⟨by omega, p.2, by rw [e, if_pos hk], h.symm⟩
      · rename_i hk
        obtain ⟨h1, c, h2, h3⟩ := fgH_get h
        exact ⟨h1, c, by rw [e, if_neg hk]; exact h2, h3⟩

theorem slot_fgL {id s : Nat} {zs : List AV} : ∀ (sl : List AV) (t : Nat), slot (fgL id s zs sl) t = (slot sl t).fg id s zs
  | [], t => rfl
  | x :: xs, 0 => rfl
  | x :: xs, t + 1 => slot_fgL xs t

/-- A block of the call's own that nobody writes any more. -/
theorem rel_fg {w0 : World} {E : Nat → Prop} {B : Bs} {w : World} {loc : Loc} {a : Act} {sl : List AV} {H : Heap} {nx : Nat} {id s : Nat} {zs : List AV} (hB : Base w0 B w loc) (hr : Rel' w0 E loc ⟨sl, H, nx⟩ a w) (hlive : loc.m id ≠ .free) (hblk : BlkR w loc id (.g s zs)) (hcl : closedL zs = true) :
    Base w0 B w (loc.set id .dead) ∧ Rel' w0 E (loc.set id .dead) ⟨fgL id s zs sl, fgH id s zs H, nx⟩ a w := by
  have hor : (loc.m id = .nil ∧ zs = []) ∨ ∃ b, loc.m id = .here b ∧ b < w.heap.size ∧ Lies w loc (.g s zs) b ∧ (∀ k, loc.m k = .here b → k = id) ∧ ¬ loc.bad b := by
    unfold BlkR at hblk
    cases e : loc.m id with
    | free => exact (hlive e).elim
    | dead => rw [e] at hblk; exact hblk.elim
    | nil => rw [e] at hblk; exact .inl ⟨rfl, List.eq_nil_of_length_eq_zero hblk.2⟩
    | here b =>
      rw [e] at hblk
      have h1 := hr.env.lies id b e
      refine .inr ⟨b, rfl, h1.1, hblk.2, fun k hk => hr.env.inj k id b hk e, fun hb => ?_⟩
      have h2 := hr.env.bad b hb
      rcases h1.2 with h3 | h3
      · omega
      · exact h2.2 h3
  have hok : Blk.ok (.g s zs) := by
    unfold BlkR at hblk
    cases e : loc.m id with
    | free => exact (hlive e).elim
    | dead => rw [e] at hblk; exact hblk.elim
    | nil => rw [e] at hblk; exact hblk.1
    | here b => rw [e] at hblk; exact hblk.1
  have hset : ∀ {k c}, (loc.set id .dead).m k = .here c → loc.m k = .here c := by
    intro k c h
    by_cases hk : k = id
    · subst hk; rw [Loc.set_same] at h; cases h
    · rwa [Loc.set_other _ _ hk] at h
  refine ⟨⟨hB.1, hB.2.1, fun k hk => ?_⟩, ⟨?_, fun t => ?_, ?_, ⟨hr.env.os, hr.env.tape, hr.env.output, hr.env.size, hr.env.same, fun i j b h1 h2 => hr.env.inj i j b (hset h1) (hset h2), fun i b h1 => hr.env.lies i b (hset h1), hr.env.bad⟩, ?_, hr.defers, ?_⟩⟩
  · by_cases hne : k = id
    · subst hne; left; rw [Loc.set_same]
    · rw [Loc.set_other _ _ hne]; exact hB.2.2 k hk
  · rw [hr.size]; exact ((fgL_get id s zs sl).1).symm
  · simp only; rw [slot_fgL]; exact fg_R hcl hok hor (hr.slots t)
  · intro k b hk
    obtain ⟨h1, c, h2, rfl⟩ := fgH_get hk
    have h3 := hr.heap k c h2
    unfold BlkR at h3 ⊢
    rw [Loc.set_other _ _ h1]
    split
    · trivial
    · rename_i e; rw [e] at h3; exact h3
    · rename_i e; rw [e] at h3; exact ⟨ok_fg h3.1, by rw [len_fg]; exact h3.2⟩
    · rename_i d e
      rw [e] at h3
      obtain ⟨cur, el, fz, g1, g2, g3, g4, g5⟩ := h3.2.lies
      have hlen : (c.fg id s zs).flat.length = c.flat.length := by rw [flat_fg, (fgL_get id s zs _).1]
      refine ⟨ok_fg h3.1, ⟨cur, el, fz, g1, g2, g3, by omega, fun j x y => ?_⟩⟩
      have h6 := g5 j (by omega) y
      have e : (c.fg id s zs).flat[j] = (c.flat[j]'(by omega)).fg id s zs := by
        have := (fgL_get id s zs c.flat).2 j (by rw [(fgL_get id s zs _).1]; omega) (by omega)
        rw [← this]
        congr 1
        exact flat_fg id s zs c
      rw [e]
      exact ⟨fg_leaf h6.1, fg_R hcl hok hor h6.2⟩
  · intro k hk
    by_cases hne : k = id
    · exact (hlive (hne ▸ hr.fresh k hk)).elim
    · rw [Loc.set_other _ _ hne]; exact hr.fresh k hk
  · intro k b hk
    obtain ⟨h1, c, h2, rfl⟩ := fgH_get hk
    exact hr.low k c h2

theorem weak_fg {sl : List AV} {H : Heap} {nx : Nat} (id s i : Nat) (zs : List AV) (hl : look H id = some (.g s zs)) (hcl : closedL zs = true) (hi : id ∈ (slot sl i).ids) : Weak ⟨sl, H, nx⟩ ⟨fgL id s zs sl, fgH id s zs H, nx⟩ := by
  rintro w0 E B a w ⟨loc, hB, hr⟩
  obtain ⟨h1, h2⟩ := rel_fg hB hr (ids_live _ _ (hr.slots i) hi) (hr.heap id _ hl) hcl
  exact ⟨_, h1, h2⟩
end Ax
end Go.Proofs.Ytgkkgbomhfdbkaa
