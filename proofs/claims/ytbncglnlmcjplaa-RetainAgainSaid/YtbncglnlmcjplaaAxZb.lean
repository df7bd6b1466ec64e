/- A state told with less, or under other names. -/
import Derived.Test.YtbncglnlmcjplaaAxX
namespace Go.Proofs.Ytbncglnlmcjplaa
namespace Ax
set_option linter.unusedSimpArgs false
set_option linter.unusedVariables false

def Blk.ren (g : Nat → Nat) : Blk → Blk
  | .g s xs => .g s (renL g xs)
  | .b bs => .b bs
  | .i ns => .i ns
  | .o x => .o x

theorem leaves_ren (g : Nat → Nat) (x : AV) : (x.ren g).leaves = renL g x.leaves := by
  cases x <;> first | rfl | (simp [AV.ren, AV.leaves, renL]; done)

theorem renL_append (g : Nat → Nat) : ∀ (xs ys : List AV), renL g (xs ++ ys) = renL g xs ++ renL g ys
  | [], _ => rfl
  | x :: xs, ys => by simp [renL, renL_append g xs ys]

theorem flat_ren (g : Nat → Nat) (b : Blk) : (b.ren g).flat = renL g b.flat := by
  cases b with
  | b bs =>
    simp only [Blk.ren, Blk.flat]
    induction bs with
    | nil => rfl
    | cons c r ih => simp only [List.map_cons, renL, AV.ren]; rw [← ih]
  | o x => rfl
  | i ns =>
    simp only [Blk.ren, Blk.flat]
    induction ns with
    | nil => rfl
    | cons c r ih => simp only [List.map_cons, renL, AV.ren]; rw [← ih]
  | g s xs =>
    simp only [Blk.ren, Blk.flat]
    induction xs with
    | nil => rfl
    | cons c r ih => simp only [renL, List.flatMap_cons, renL_append]; rw [ih, leaves_ren]

theorem ok_ren {g : Nat → Nat} {b : Blk} (h : (b.ren g).ok) : b.ok := by
  cases b with
  | g s xs =>
    obtain ⟨h1, h2⟩ := h
    refine ⟨h1, fun x hx => ?_⟩
    obtain ⟨j, hj, rfl⟩ := List.getElem_of_mem hx
    obtain ⟨h3, h4⟩ := renL_get g xs
    have := h2 _ (List.getElem_mem (by rw [h3]; exact hj : j < (renL g xs).length))
    rw [h4 j (by rw [h3]; exact hj) hj, leaves_ren, (renL_get g _).1] at this
    exact this
  | _ => trivial

theorem len_ren {g : Nat → Nat} {b : Blk} : (b.ren g).len = b.len := by
  cases b with
  | g s xs => exact (renL_get g xs).1
  | _ => rfl

theorem odd_ren {g : Nat → Nat} {b : Blk} : (b.ren g).odd = b.odd := by cases b <;> rfl
theorem lies_unren {w : World} {loc loc2 : Loc} {g : Nat → Nat} (hg : ∀ k, loc2.m k = loc.m (g k)) (hb : loc2.bad = loc.bad) {blk : Blk} {b : Nat} (h : Lies w loc (blk.ren g) b) : Lies w loc2 blk b := by
  rcases odd_cases blk with ⟨x, hx, rfl⟩ | hodd
  · exact .mkO (Thing.move (fun c _ hM => hM.imp (fun h => by rw [← hb]; exact h) (fun ⟨k, h⟩ => ⟨g k, (hg k).symm.trans h⟩)) (h.is rfl)) rfl
  obtain ⟨cur, e, fz, h1, h2, h3, h4, h5⟩ := h.lies (odd_ren.trans hodd)
  have hl : blk.flat.length = (blk.ren g).flat.length := by rw [flat_ren, (renL_get g _).1]
  refine .mkC ⟨cur, e, fz, h1, h2, h3, by omega, fun j a c => ?_⟩ hodd
  have h6 := h5 j (by omega) c
  have e : (blk.ren g).flat[j]'(by omega) = (blk.flat[j]).ren g := by
    have := (renL_get g blk.flat).2 j (by rw [(renL_get g _).1]; exact a) a
    rw [← this]
    congr 1
    exact flat_ren g blk
  rw [e] at h6
  rw [ren_leaf_eq] at h6
  exact ⟨h6.1, unren hg hb h6.2 _ rfl⟩

def SameS (g : Nat → Nat) : List AV → List AV → Prop
  | [], [] => True
  | x :: xs, y :: ys => (y = .junk ∨ y.ren g = x) ∧ SameS g xs ys
  | _, _ => False

def SameH (g : Nat → Nat) (n : Nat) (H : Heap) : Heap → Prop
  | [] => True
  | p :: r => p.1 < n ∧ look H (g p.1) = some (p.2.ren g) ∧ SameH g n H r

theorem sameS_get {g : Nat → Nat} : ∀ {xs ys : List AV}, SameS g xs ys → xs.length = ys.length ∧ ∀ t, slot ys t = .junk ∨ (slot ys t).ren g = slot xs t
  | [], [], _ => ⟨rfl, fun t => .inl rfl⟩
  | x :: xs, y :: ys, h => by
    obtain ⟨h1, h2⟩ := sameS_get h.2
    refine ⟨by simp [h1], fun t => ?_⟩
    cases t with
    | zero => exact h.1
    | succ t => exact h2 t
  | [], _ :: _, h => h.elim
  | _ :: _, [], h => h.elim

theorem sameH_get {g : Nat → Nat} {n : Nat} {H : Heap} : ∀ {H' : Heap}, SameH g n H H' → ∀ id b, look H' id = some b → id < n ∧ look H (g id) = some (b.ren g)
  | [], _, id, b, h => by simp [look] at h
  | p :: r, h, id, b, hl => by
    have e : look (p :: r) id = if p.1 = id then some p.2 else look r id := look_put r p.1 id p.2
    rw [e] at hl
    split at hl
    · rename_i he
      injection hl with hl
      subst hl; subst he
      exact ⟨h.1, h.2.1⟩
    · exact sameH_get h.2.2 id b hl

/-- Told under other names ('ids': the old name of each new one; the first four stay), or with less. -/
theorem weak_ren {σ σ' : ASt} (ids : List Nat) (h4 : ids.take 4 = [0, 1, 2, 3]) (hnd : nodup ids = true) (hlen : ids.length = σ'.nx) (hs : SameS (gOf ids σ.nx) σ.sl σ'.sl) (hh : SameH (gOf ids σ.nx) σ'.nx σ.H σ'.H) : Weak σ σ' := by
  rintro w0 E B a w ⟨loc, hB, hr⟩
  have hnd' := nodup_iff hnd
  obtain ⟨hs1, hs2⟩ := sameS_get hs
  have hold : ∀ k, (hk : k < ids.length) → gOf ids σ.nx k = ids[k] := fun k hk => gOf_old hk
  have hnew : ∀ k, ids.length ≤ k → loc.m (gOf ids σ.nx k) = .free := fun k hk => hr.fresh _ (by rw [gOf_new hk]; omega)
  have hpin : ∀ k, k < 4 → gOf ids σ.nx k = k := by
    obtain ⟨t, rfl⟩ : ∃ t, ids = 0 :: 1 :: 2 :: 3 :: t := ⟨ids.drop 4, by have := List.take_append_drop 4 ids; rw [h4] at this; exact this.symm⟩
    intro k hk
    match k, hk with
    | 0, _ => rfl
    | 1, _ => rfl
    | 2, _ => rfl
    | 3, _ => rfl
  let loc' : Loc := { m := fun k => loc.m (gOf ids σ.nx k), bad := loc.bad }
  have hlt : ∀ i b, loc'.m i = .here b → i < ids.length := by
    intro i b hi
    rcases Nat.lt_or_ge i ids.length with h' | h'
    · exact h'
    · have : loc'.m i = .free := hnew i h'
      rw [this] at hi; cases hi
  refine ⟨loc', ⟨hB.1, hB.2.1, fun k hk => ?_⟩, ⟨?_, fun t => ?_, ?_, ⟨hr.env.os, hr.env.tape, hr.env.output, hr.env.size, hr.env.same, ?_, ?_, hr.env.bad⟩, ?_, hr.defers, ?_⟩⟩
  · have e : loc'.m k = loc.m k := by
      show loc.m (gOf ids σ.nx k) = loc.m k
      rw [hpin k (by have := hB.2.1; omega)]
    rw [e]; exact hB.2.2 k hk
  · rw [hr.size]; exact hs1
  · rcases hs2 t with h | h
    · rw [h]; exact .junk _
    · exact unren (loc2 := loc') (g := gOf ids σ.nx) (fun _ => rfl) rfl (hr.slots t) _ h
  · intro id b hl
    obtain ⟨h1, h2⟩ := sameH_get hh id b hl
    have h3 := hr.heap _ _ h2
    unfold BlkR at h3 ⊢
    show (match loc.m (gOf ids σ.nx id) with
      | .free => True
      | .dead => False
      | .nil => b.ok ∧ b.len = 0
      | .here c => b.ok ∧ Lies w loc' b c)
    split
    · trivial
    · rename_i e; rw [e] at h3; exact h3
    · rename_i e; rw [e] at h3; exact ⟨ok_ren h3.1, by rw [← len_ren (g := gOf ids σ.nx)]; exact h3.2⟩
    · rename_i c e; rw [e] at h3; exact ⟨ok_ren h3.1, lies_unren (loc2 := loc') (g := gOf ids σ.nx) (fun _ => rfl) rfl h3.2⟩
  · intro i j b hi hj
    have h1 := hlt i b hi
    have h2 := hlt j b hj
    have h3 : gOf ids σ.nx i = gOf ids σ.nx j := hr.env.inj _ _ b hi hj
    rw [hold i h1, hold j h2] at h3
    exact nodup_inj hnd' h3
  · exact fun i b hi => hr.env.lies _ b hi
  · intro id hid
    exact hnew id (by omega)
  · intro id b hl
    exact (sameH_get hh id b hl).1

theorem Weak.trans {a b c : ASt} (h : Weak a b) (k : Weak b c) : Weak a c := fun w0 E B x w r => k w0 E B x w (h w0 E B x w r)

def emptyB : Blk → Prop
  | .b bs => bs = []
  | .i ns => ns = []
  | .g s xs => 0 < s ∧ xs = []
  | .o _ => False

def nilV : AV → Prop
  | .sb [] true => True
  | .si [] true => True
  | .sg _ [] true => True
  | _ => False

theorem nilV_R {w : World} {loc : Loc} {x : AV} {v : Value} (hn : nilV x) (h : R w loc x v) : ∃ a, v = .slice a 0 0 := by
  unfold nilV at hn
  split at hn
  · cases h with
    | sb _ _ a cap hd _ => obtain rfl : cap = 0 := hd.full rfl; exact ⟨a, rfl⟩
  · cases h with
    | si _ _ a cap hd _ => obtain rfl : cap = 0 := hd.full rfl; exact ⟨a, rfl⟩
  · cases h with
    | sg _ _ _ a cap cs hd _ _ _ _ _ => obtain rfl : cap = 0 := hd.full rfl; exact ⟨a, rfl⟩
  · exact hn.elim

/-- A nil slice told as one of the call's own that has nothing. -/
theorem weak_nil {sl : List AV} {H : Heap} {nx : Nat} (i s : Nat) (b : Blk) (hb : emptyB b) (hn : nilV (slot sl i)) : Weak ⟨sl, H, nx⟩ ⟨setSlot sl i (.ms nx s 0 0), put H nx b, nx + 1⟩ := by
  rintro w0 E B a w ⟨loc, hB, hr⟩
  have hf : loc.m nx = .free := hr.fresh nx (Nat.le_refl _)
  have hb1 : b.ok ∧ b.len = 0 := by
    cases b with
    | o x => exact hb.elim
    | b bs => exact ⟨trivial, by rw [show bs = [] from hb]; rfl⟩
    | i bs => exact ⟨trivial, by rw [show bs = [] from hb]; rfl⟩
    | g s xs => obtain ⟨h1, rfl⟩ := hb; exact ⟨⟨h1, by simp⟩, rfl⟩
  have hM : ∀ c, Mut (loc.set nx .nil) c → Mut loc c := by
    rintro c (h | ⟨k, h⟩)
    · exact .inl h
    · by_cases hk : k = nx
      · subst hk; rw [Loc.set_same] at h; cases h
      · rw [Loc.set_other _ _ hk] at h; exact .inr ⟨k, h⟩
  have hE : Ext (fun _ => False) w loc w (loc.set nx .nil) :=
    ⟨Nat.le_refl _, fun id h _ => Loc.set_other _ _ (fun e => h (e ▸ hf)), fun _ _ h => h.elim, fun c _ hm => ⟨rfl, fun h => hm (hM c h)⟩, fun _ _ _ _ => rfl, fun _ cur _ fz h => ⟨cur, fz, h, rfl⟩⟩
  have hset : ∀ {k c}, (loc.set nx .nil).m k = .here c → loc.m k = .here c := by
    intro k c h
    by_cases hk : k = nx
    · subst hk; rw [Loc.set_same] at h; cases h
    · rwa [Loc.set_other _ _ hk] at h
  refine ⟨loc.set nx .nil, ⟨hB.1, hB.2.1, fun k hk => ?_⟩, ⟨?_, fun t => ?_, ?_, ⟨hr.env.os, hr.env.tape, hr.env.output, hr.env.size, hr.env.same, fun i j b h1 h2 => hr.env.inj i j b (hset h1) (hset h2), fun i b h1 => hr.env.lies i b (hset h1), hr.env.bad⟩, ?_, hr.defers, ?_⟩⟩
  · have hne : k ≠ nx := by
      rintro rfl
      rcases hB.2.2 k hk with h | ⟨h, _⟩ <;> rw [hf] at h <;> cases h
    rw [Loc.set_other _ _ hne]; exact hB.2.2 k hk
  · simp only; rw [setSlot_length]; exact hr.size
  · simp only
    by_cases ht : i = t
    · subst ht
      by_cases hl : i < sl.length
      · rw [slot_set_same hl]
        obtain ⟨a', he⟩ := nilV_R hn (hr.slots i)
        rw [he]
        refine .ms _ _ _ _ _ ?_
        unfold Owns
        rw [Loc.set_same]
        exact ⟨rfl, a', rfl⟩
      · rw [slot_ge (by rw [setSlot_length]; exact Nat.le_of_not_lt hl)]; exact .junk _
    · rw [slot_set_other ht]; exact (hr.slots t).ext hE
  · intro id c hl
    simp only at hl
    rw [look_put] at hl
    split at hl
    · rename_i e; subst e
      injection hl with hl; subst hl
      unfold BlkR
      rw [Loc.set_same]; exact hb1
    · rename_i e
      by_cases hfr : loc.m id = .free
      · exact BlkR.free (by rw [Loc.set_other _ _ (Ne.symm e)]; exact hfr)
      · exact (hr.heap id c hl).ext hE (fun h => h) hfr
  · intro id hid
    simp only at hid
    rw [Loc.set_other _ _ (by omega)]; exact hr.fresh id (by simp only; omega)
  · intro id c hl
    simp only at hl
    rw [look_put] at hl
    split at hl
    · simp only; omega
    · have := hr.low id c hl
      simp only at this ⊢; omega

end Ax
end Go.Proofs.Ytbncglnlmcjplaa

/- A block that nobody writes any more is told as data; what a function hands back may be told so. -/
namespace Go.Proofs.Ytbncglnlmcjplaa
namespace Ax
set_option linter.unusedSimpArgs false
set_option linter.unusedVariables false

mutual
/-- The block 'id' that holds bytes, told as data. -/
def AV.fz (id : Nat) (bs : List UInt8) : AV → AV
  | .agg xs => .agg (fzL id bs xs)
  | .tup xs => .tup (fzL id bs xs)
  | .fn f cs => .fn f (fzL id bs cs)
  | .ms k s off len => bif k == id then (bif s == 1 && decide (off + len ≤ bs.length) then .sb ((bs.drop off).take len) false else .ms k s off len) else .ms k s off len
  | x => x
def fzL (id : Nat) (bs : List UInt8) : List AV → List AV
  | [] => []
  | x :: xs => x.fz id bs :: fzL id bs xs
end

theorem fzL_get (id : Nat) (bs : List UInt8) : ∀ (xs : List AV), (fzL id bs xs).length = xs.length ∧ ∀ (j : Nat) (h : j < (fzL id bs xs).length) (h' : j < xs.length), (fzL id bs xs)[j] = xs[j].fz id bs
  | [] => ⟨rfl, fun j h => by simp [fzL] at h⟩
  | x :: xs => by
    obtain ⟨h1, h2⟩ := fzL_get id bs xs
    refine ⟨by simp [fzL, h1], fun j h h' => ?_⟩
    cases j with
    | zero => rfl
    | succ j => exact h2 j (by simpa [fzL] using h) (by simpa using h')

theorem fz_leaf {id : Nat} {bs : List UInt8} {x : AV} (h : x.leaf = true) : (x.fz id bs).leaf = true := by
  cases x <;> first | exact h | (simp [AV.leaf] at h; done) | skip
  simp only [AV.fz]
  cases (_ == id) with
  | false => rfl
  | true =>
    simp only [cond_true]
    cases (_ && _ : Bool) <;> rfl

theorem fz_R {w : World} {loc : Loc} {id : Nat} {bs : List UInt8} (hor : (loc.m id = .nil ∧ bs = []) ∨ ∃ b, loc.m id = .here b ∧ b < w.heap.size ∧ Lies w loc (.b bs) b ∧ (∀ k, loc.m k = .here b → k = id) ∧ ¬ loc.bad b) {x : AV} {v : Value} (h : R w loc x v) : R w (loc.set id .dead) (x.fz id bs) v := by
  have hM : ∀ c, Mut (loc.set id .dead) c → Mut loc c := by
    rintro c (h | ⟨k, h⟩)
    · exact .inl h
    · by_cases hk : k = id
      · subst hk; rw [Loc.set_same] at h; cases h
      · rw [Loc.set_other _ _ hk] at h; exact .inr ⟨k, h⟩
  have hC : ∀ {a cs}, Cells w loc a cs → Cells w (loc.set id .dead) a cs := fun h => h.move (fun b _ hm => hM b hm)
  induction h with
  | w v h => exact .w v h
  | str bs => exact .str bs
  | agg xs cs hl hx _ ih =>
    obtain ⟨h1, h2⟩ := fzL_get id bs xs
    refine .agg _ cs (by rw [h1, hl]) (fun j hj => ?_) (fun j a b => ?_)
    · rw [h2 j hj (by rw [← h1]; exact hj)]; exact fz_leaf (hx j _)
    · rw [h2 j a (by rw [← h1]; exact a)]; exact ih j _ b
  | tup xs cs hl _ ih =>
    obtain ⟨h1, h2⟩ := fzL_get id bs xs
    refine .tup _ cs (by rw [h1, hl]) (fun j a b => ?_)
    rw [h2 j a (by rw [← h1]; exact a)]; exact ih j _ b
  | sb bs full a cap hd hc => exact .sb bs full a cap hd (hC hc)
  | si ns full a cap hd hc => exact .si ns full a cap hd (hC hc)
  | sg s xs full a cap cs hd hs hc hl hx h _ => exact .sg s xs full a cap cs hd hs (hC hc) hl hx (fun j a b => (h j a b).move (fun b _ hm => hM b hm) (hx j a).2)
  | cp ls a cs hc hn hl hx h _ => exact .cp ls a cs (hC hc) hn hl hx (fun j a b => (h j a b).move (fun b _ hm => hM b hm) (hx j a).2)
  | ms k s off len v h =>
    have hkeep : R w (loc.set id .dead) (.ms k s off len) v := by
      refine .ms _ _ _ _ _ ?_
      by_cases hk : k = id
      · subst hk; unfold Owns; rw [Loc.set_same]; exact h.one
      · unfold Owns at h ⊢; rw [Loc.set_other _ _ hk]; exact h
    simp only [AV.fz]
    by_cases hk : k = id
    · subst hk
      simp only [beq_self_eq_true, cond_true]
      cases hc : (s == 1 && decide (off + len ≤ bs.length)) with
      | false => exact hkeep
      | true =>
        simp only [cond_true]
        simp only [Bool.and_eq_true, beq_iff_eq, decide_eq_true_eq] at hc
        obtain ⟨rfl, hle⟩ := hc
        have hlen : ((bs.drop off).take len).length = len := by simp; omega
        rcases hor with ⟨hb, rfl⟩ | ⟨b, hb, hlt, hl, hinj, hnb⟩
        · unfold Owns at h
          rw [hb] at h
          obtain ⟨rfl, a, rfl⟩ := h
          have := R.sb (w := w) (loc := loc.set k .dead) (([] : List UInt8)) false a 0 ⟨Nat.le_refl _, Nat.zero_le _, fun h => by cases h⟩ ⟨.inl rfl⟩
          simpa using this
        unfold Owns at h
        rw [hb] at h
        obtain ⟨o, cap, cur, e, fz, rfl, ho, hh, hsz, hlc, htop⟩ := h
        have hcells : Cells w (loc.set k .dead) (some ⟨b, o, none⟩) (((bs.drop off).take len).map byte) := by
          by_cases h0 : len = 0
          · subst h0; exact ⟨.inl (by simp)⟩
          refine ⟨.inr ⟨b, o, rfl, ?_, hlt, fun j hj => ?_⟩⟩
          · rintro (h | ⟨i, h⟩)
            · exact hnb h
            · by_cases hk : i = k
              · subst hk; rw [Loc.set_same] at h; cases h
              · rw [Loc.set_other _ _ hk] at h; exact hk (hinj i h)
          · obtain ⟨cur', e', fz', hh', hf', hone', hfl', hr'⟩ := hl.lies
            rw [hh] at hh'; injection hh' with hh'; injection hh' with h1 h2 h3; subst h1
            have ho := ho (by omega)
            rw [Nat.mul_one] at ho
            rw [ho]
            have hj' : j < len := by simp at hj; omega
            have hfl : (Blk.flat (.b bs)).length = bs.length := by simp [Blk.flat]
            have hjs : off + j < cur.size := by omega
            have := (hr' (off + j) (by omega) hjs).2
            have e1 : (Blk.flat (.b bs))[off + j]'(by omega) = .w (byte (bs[off + j]'(by omega))) := by simp [Blk.flat]
            rw [e1] at this
            have := this.wv
            have e2 : (((bs.drop off).take len).map byte)[j] = byte (bs[off + j]'(by omega)) := by simp
            rw [e2, ← this]
            simp [World.cell?, hh, hjs]
        have := R.sb (w := w) (loc := loc.set k .dead) ((bs.drop off).take len) false (some ⟨b, o, none⟩) cap ⟨by omega, htop, fun h => by cases h⟩ hcells
        rw [hlen] at this
        exact this
    · have : (k == id) = false := by simpa using hk
      rw [this]; exact hkeep
  | rf k s i f v h =>
    refine .rf _ _ _ _ _ ?_
    by_cases hk : k = id
    · subst hk; unfold Points; rw [Loc.set_same]; exact h.one
    · unfold Points at h ⊢; rw [Loc.set_other _ _ hk]; exact h
  | fn f caps cs hl _ ih =>
    obtain ⟨h1, h2⟩ := fzL_get id bs caps
    refine .fn f _ cs (by rw [h1, hl]) (fun j a b => ?_)
    rw [h2 j a (by rw [← h1]; exact a)]; exact ih j _ b
  | junk v => exact .junk v


def Blk.fz (id : Nat) (bs : List UInt8) : Blk → Blk
  | .g s xs => .g s (fzL id bs xs)
  | .b cs => .b cs
  | .i ns => .i ns
  | .o x => .o x

theorem odd_fz {id : Nat} {bs : List UInt8} {b : Blk} : (b.fz id bs).odd = b.odd := by cases b <;> rfl
def fzH (id : Nat) (bs : List UInt8) : Heap → Heap
  | [] => []
  | p :: r => bif p.1 == id then fzH id bs r else (p.1, p.2.fz id bs) :: fzH id bs r

theorem leaves_fz (id : Nat) (bs : List UInt8) (x : AV) : (x.fz id bs).leaves = fzL id bs x.leaves := by
  cases x <;> first | rfl | skip
  simp only [AV.fz, AV.leaves, fzL]
  cases (_ == id) with
  | false => rfl
  | true =>
    simp only [cond_true]
    cases (_ && _ : Bool) <;> rfl

theorem fzL_append (id : Nat) (bs : List UInt8) : ∀ (xs ys : List AV), fzL id bs (xs ++ ys) = fzL id bs xs ++ fzL id bs ys
  | [], _ => rfl
  | x :: xs, ys => by simp [fzL, fzL_append id bs xs ys]

theorem flat_fz (id : Nat) (bs : List UInt8) (b : Blk) : (b.fz id bs).flat = fzL id bs b.flat := by
  cases b with
  | b cs =>
    simp only [Blk.fz, Blk.flat]
    induction cs with
    | nil => rfl
    | cons c r ih => simp only [List.map_cons, fzL, AV.fz]; rw [← ih]
  | o x => rfl
  | i ns =>
    simp only [Blk.fz, Blk.flat]
    induction ns with
    | nil => rfl
    | cons c r ih => simp only [List.map_cons, fzL, AV.fz]; rw [← ih]
  | g s xs =>
    simp only [Blk.fz, Blk.flat]
    induction xs with
    | nil => rfl
    | cons c r ih => simp only [fzL, List.flatMap_cons, fzL_append]; rw [ih, leaves_fz]

theorem ok_fz {id : Nat} {bs : List UInt8} {b : Blk} (h : b.ok) : (b.fz id bs).ok := by
  cases b with
  | g s xs =>
    obtain ⟨h1, h2⟩ := h
    refine ⟨h1, fun x hx => ?_⟩
    obtain ⟨j, hj, rfl⟩ := List.getElem_of_mem hx
    obtain ⟨h3, h4⟩ := fzL_get id bs xs
    rw [h4 j hj (by rw [← h3]; exact hj), leaves_fz, (fzL_get id bs _).1]
    exact h2 _ (List.getElem_mem _)
  | _ => trivial
theorem len_fz {id : Nat} {bs : List UInt8} {b : Blk} : (b.fz id bs).len = b.len := by
  cases b with
  | g s xs => exact (fzL_get id bs xs).1
  | _ => rfl

theorem fzH_get {id : Nat} {bs : List UInt8} : ∀ {H : Heap} {k : Nat} {b : Blk}, look (fzH id bs H) k = some b → k ≠ id ∧ ∃ c, look H k = some c ∧ b = c.fz id bs
  | [], k, b, h => by simp [fzH, look] at h
  | p :: r, k, b, h => by
    have e : look (p :: r) k = if p.1 = k then some p.2 else look r k := look_put r p.1 k p.2
    unfold fzH at h
    by_cases hp : p.1 = id
    · have : (p.1 == id) = true := by simpa using hp
      rw [this] at h
      obtain ⟨h1, c, h2, h3⟩ := fzH_get h
      exact ⟨h1, c, by rw [e, if_neg (by omega)]; exact h2, h3⟩
    · have : (p.1 == id) = false := by simpa using hp
      rw [this] at h
      have e2 : look ((p.1, p.2.fz id bs) :: fzH id bs r) k = if p.1 = k then some (p.2.fz id bs) else look (fzH id bs r) k := look_put (fzH id bs r) p.1 k _
      simp only [cond_false] at h
      rw [e2] at h
      split at h
      · rename_i hk
        injection h with h
        exact ⟨by omega, p.2, by rw [e, if_pos hk], h.symm⟩
      · rename_i hk
        obtain ⟨h1, c, h2, h3⟩ := fzH_get h
        exact ⟨h1, c, by rw [e, if_neg hk]; exact h2, h3⟩

theorem slot_fzL {id : Nat} {bs : List UInt8} : ∀ (sl : List AV) (t : Nat), slot (fzL id bs sl) t = (slot sl t).fz id bs
  | [], t => rfl
  | x :: xs, 0 => rfl
  | x :: xs, t + 1 => slot_fzL xs t

/-- A block of bytes that nobody writes any more. -/
theorem weak_fz {sl : List AV} {H : Heap} {nx : Nat} (id i : Nat) (bs : List UInt8) (hl : look H id = some (.b bs)) (hi : id ∈ (slot sl i).ids) : Weak ⟨sl, H, nx⟩ ⟨fzL id bs sl, fzH id bs H, nx⟩ := by
  rintro w0 E B a w ⟨loc, hB, hr⟩
  have hlive : loc.m id ≠ .free := ids_live _ _ (hr.slots i) hi
  have hblk := hr.heap id _ hl
  have hor : (loc.m id = .nil ∧ bs = []) ∨ ∃ b, loc.m id = .here b ∧ b < w.heap.size ∧ Lies w loc (.b bs) b ∧ (∀ k, loc.m k = .here b → k = id) ∧ ¬ loc.bad b := by
    unfold BlkR at hblk
    cases e : loc.m id with
    | free => exact (hlive e).elim
    | dead => rw [e] at hblk; exact hblk.elim
    | nil => rw [e] at hblk; exact .inl ⟨rfl, List.eq_nil_of_length_eq_zero hblk.2⟩
    | here b =>
      rw [e] at hblk
      have h1 := hr.env.lies id b e
      refine .inr ⟨b, rfl, h1.1, hblk.2, fun k hk => hr.env.inj k id b hk e, fun hb => ?_⟩
      have h2 := hr.env.bad b hb
      rcases h1.2 with h3 | h3
      · omega
      · exact h2.2 h3
  have hset : ∀ {k c}, (loc.set id .dead).m k = .here c → loc.m k = .here c := by
    intro k c h
    by_cases hk : k = id
    · subst hk; rw [Loc.set_same] at h; cases h
    · rwa [Loc.set_other _ _ hk] at h
  refine ⟨loc.set id .dead, ⟨hB.1, hB.2.1, fun k hk => ?_⟩, ⟨?_, fun t => ?_, ?_, ⟨hr.env.os, hr.env.tape, hr.env.output, hr.env.size, hr.env.same, fun i j b h1 h2 => hr.env.inj i j b (hset h1) (hset h2), fun i b h1 => hr.env.lies i b (hset h1), hr.env.bad⟩, ?_, hr.defers, ?_⟩⟩
  · by_cases hne : k = id
    · subst hne; left; rw [Loc.set_same]
    · rw [Loc.set_other _ _ hne]; exact hB.2.2 k hk
  · rw [hr.size]; exact ((fzL_get id bs sl).1).symm
  · simp only; rw [slot_fzL]; exact fz_R hor (hr.slots t)
  · intro k b hk
    obtain ⟨h1, c, h2, rfl⟩ := fzH_get hk
    have h3 := hr.heap k c h2
    unfold BlkR at h3 ⊢
    rw [Loc.set_other _ _ h1]
    split
    · trivial
    · rename_i e; rw [e] at h3; exact h3
    · rename_i e; rw [e] at h3; exact ⟨ok_fz h3.1, by rw [len_fz]; exact h3.2⟩
    · rename_i d e
      rw [e] at h3
      rcases odd_cases c with ⟨x, hx, rfl⟩ | hodd
      · exact ⟨ok_fz h3.1, .mkO (Thing.move (loc := loc) (fun c _ hM => hM.imp (fun h => h) (fun ⟨k, h⟩ => ⟨k, hset h⟩)) (h3.2.is hx)) rfl⟩
      obtain ⟨cur, el, fz, g1, g2, g3, g4, g5⟩ := h3.2.lies hodd
      have hlen : (c.fz id bs).flat.length = c.flat.length := by rw [flat_fz, (fzL_get id bs _).1]
      refine ⟨ok_fz h3.1, .mkC ⟨cur, el, fz, g1, g2, g3, by omega, fun j x y => ?_⟩ (odd_fz.trans hodd)⟩
      have h6 := g5 j (by omega) y
      have e : (c.fz id bs).flat[j] = (c.flat[j]'(by omega)).fz id bs := by
        have := (fzL_get id bs c.flat).2 j (by rw [(fzL_get id bs _).1]; omega) (by omega)
        rw [← this]
        congr 1
        exact flat_fz id bs c
      rw [e]
      exact ⟨fz_leaf h6.1, fz_R hor h6.2⟩
  · intro k hk
    by_cases hne : k = id
    · exact (hlive (hne ▸ hr.fresh k hk)).elim
    · rw [Loc.set_other _ _ hne]; exact hr.fresh k hk
  · intro k b hk
    obtain ⟨h1, c, h2, rfl⟩ := fzH_get hk
    exact hr.low k c h2

/-- A slice that has nothing, told as one of bytes. -/
theorem weak_coe {sl : List AV} {H : Heap} {nx : Nat} (i s : Nat) (f : Bool) (hn : slot sl i = .sg s [] f) : Weak ⟨sl, H, nx⟩ ⟨setSlot sl i (.sb [] f), H, nx⟩ := by
  rintro w0 E B a w ⟨loc, hB, hr⟩
  refine ⟨loc, hB, ⟨?_, fun t => ?_, hr.heap, hr.env, hr.fresh, hr.defers, hr.low⟩⟩
  · simp only; rw [setSlot_length]; exact hr.size
  · simp only
    by_cases ht : i = t
    · subst ht
      by_cases hl : i < sl.length
      · rw [slot_set_same hl]
        have h := hr.slots i
        simp only at h
        rw [hn] at h
        generalize a.tmps.getD i undef = v at h ⊢
        cases h with
        | sg _ _ _ a cap cs hd _ _ _ _ _ => exact .sb [] f a cap hd ⟨.inl rfl⟩
      · rw [slot_ge (by rw [setSlot_length]; exact Nat.le_of_not_lt hl)]; exact .junk _
    · rw [slot_set_other ht]; exact hr.slots t

/-- A slot told with less. -/
theorem weak_slot {sl : List AV} {H : Heap} {nx : Nat} (i : Nat) (x : AV) (hx : ∀ w loc v, R w loc (slot sl i) v → R w loc x v) : Weak ⟨sl, H, nx⟩ ⟨setSlot sl i x, H, nx⟩ := by
  rintro w0 E B a w ⟨loc, hB, hr⟩
  refine ⟨loc, hB, ⟨?_, fun t => ?_, hr.heap, hr.env, hr.fresh, hr.defers, hr.low⟩⟩
  · simp only; rw [setSlot_length]; exact hr.size
  · simp only
    by_cases ht : i = t
    · subst ht
      by_cases hl : i < sl.length
      · rw [slot_set_same hl]
        exact hx w loc _ (hr.slots i)
      · rw [slot_ge (by rw [setSlot_length]; exact Nat.le_of_not_lt hl)]; exact .junk _
    · rw [slot_set_other ht]; exact hr.slots t

theorem R.lax {w : World} {loc : Loc} {bs : List UInt8} {f : Bool} {v : Value} (h : R w loc (.sb bs f) v) : R w loc (.sb bs false) v := by
  cases h with
  | sb _ _ a cap hd hc => exact .sb bs false a cap ⟨hd.le, hd.top, fun h => by cases h⟩ hc
theorem R.nilb {w : World} {loc : Loc} {s : Nat} {f : Bool} {v : Value} (h : R w loc (.sg s [] f) v) : R w loc (.sb [] false) v := by
  cases h with
  | sg _ _ _ a cap cs hd _ _ _ _ _ => exact .sb [] false a cap ⟨hd.le, hd.top, fun h => by cases h⟩ ⟨.inl rfl⟩

end Ax
end Go.Proofs.Ytbncglnlmcjplaa
