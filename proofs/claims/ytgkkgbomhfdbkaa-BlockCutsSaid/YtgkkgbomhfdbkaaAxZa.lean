/- A state told with less, or under other names. -/
import Derived.Test.YtgkkgbomhfdbkaaAxX
namespace Go.Proofs.Ytgkkgbomhfdbkaa
namespace Ax
set_option linter.unusedSimpArgs false
set_option linter.unusedVariables false

def Blk.ren (g : Nat → Nat) : Blk → Blk
  | .g s xs => .g s (renL g xs)
  | .b bs => .b bs
  | .i ns => .i ns

theorem leaves_ren (g : Nat → Nat) (x : AV) : (x.ren g).leaves = renL g x.leaves := by
  cases x <;> first | rfl | (simp [AV.ren, AV.leaves, renL]; done)

theorem renL_append (g : Nat → Nat) : ∀ (xs ys : List AV), renL g (xs ++ ys) = renL g xs ++ renL g ys
  | [], _ => rfl
  | x :: xs, ys => by simp [renL, renL_append g xs ys]

theorem flat_ren (g : Nat → Nat) (b : Blk) : (b.ren g).flat = renL g b.flat := by
  cases b with
  | b bs =>
    simp only [Blk.ren, Blk.flat]
    induction bs with
    | nil => rfl
    | cons c r ih => simp only [List.map_cons, renL, AV.ren]; rw [← ih]
  | i ns =>
    simp only [Blk.ren, Blk.flat]
    induction ns with
    | nil => rfl
    | cons c r ih => simp only [List.map_cons, renL, AV.ren]; rw [← ih]
  | g s xs =>
    simp only [Blk.ren, Blk.flat]
    induction xs with
    | nil => rfl
    | cons c r ih => simp only [renL, List.flatMap_cons, renL_append]; rw [ih, leaves_ren]

theorem ok_ren {g : Nat → Nat} {b : Blk} (h : (b.ren g).ok) : b.ok := by
  cases b with
  | g s xs =>
    obtain ⟨h1, h2⟩ := h
    refine ⟨h1, fun x hx => ?_⟩
    obtain ⟨j, hj, rfl⟩ := List.getElem_of_mem hx
    obtain ⟨h3, h4⟩ := renL_get g xs
    have := h2 _ (List.getElem_mem (by rw [h3]; exact hj : j < (renL g xs).length))
    rw [h4 j (by rw [h3]; exact hj) hj, leaves_ren, (renL_get g _).1] at this
    exact this
  | _ => trivial

theorem len_ren {g : Nat → Nat} {b : Blk} : (b.ren g).len = b.len := by
  cases b with
  | g s xs => exact (renL_get g xs).1
  | _ => rfl

theorem lies_unren {w : World} {loc loc2 : Loc} {g : Nat → Nat} (hg : ∀ k, loc2.m k = loc.m (g k)) (hb : loc2.bad = loc.bad) {blk : Blk} {b : Nat} (h : Lies w loc (blk.ren g) b) : Lies w loc2 blk b := by
  obtain ⟨cur, e, fz, h1, h2, h3, h4, h5⟩ := h.lies
  have hl : blk.flat.length = (blk.ren g).flat.length := by rw [flat_ren, (renL_get g _).1]
  refine ⟨cur, e, fz, h1, h2, h3, by omega, fun j a c => ?_⟩
  have h6 := h5 j (by omega) c
  have e : (blk.ren g).flat[j]'(by omega) = (blk.flat[j]).ren g := by
    have := (renL_get g blk.flat).2 j (by rw [(renL_get g _).1]; exact a) a
    rw [← this]
    congr 1
    exact flat_ren g blk
  rw [e] at h6
  rw [ren_leaf_eq] at h6
  exact ⟨h6.1, unren hg hb h6.2 _ rfl⟩

def SameS (g : Nat → Nat) : List AV → List AV → Prop
  | [], [] => True
  | x :: xs, y :: ys => (y = .junk ∨ y.ren g = x) ∧ SameS g xs ys
  | _, _ => False

def SameH (g : Nat → Nat) (n : Nat) (H : Heap) : Heap → Prop
  | [] => True
  | p :: r => p.1 < n ∧ look H (g p.1) = some (p.2.ren g) ∧ SameH g n H r

theorem sameS_get {g : Nat → Nat} : ∀ {xs ys : List AV}, SameS g xs ys → xs.length = ys.length ∧ ∀ t, slot ys t = .junk ∨ (slot ys t).ren g = slot xs t
  | [], [], _ => ⟨rfl, fun t => .inl rfl⟩
  | x :: xs, y :: ys, h => by
    obtain ⟨h1, h2⟩ := sameS_get h.2
    refine ⟨by simp [h1], fun t => ?_⟩
    cases t with
    | zero => exact h.1
    | succ t => exact h2 t
  | [], _ :: _, h => h.elim
  | _ :: _, [], h => h.elim

theorem sameH_get {g : Nat → Nat} {n : Nat} {H : Heap} : ∀ {H' : Heap}, SameH g n H H' → ∀ id b, look H' id = some b → id < n ∧ look H (g id) = some (b.ren g)
  | [], _, id, b, h => by simp [look] at h
  | p :: r, h, id, b, hl => by
    have e : look (p :: r) id = if p.1 = id then some p.2 else look r id := look_put r p.1 id p.2
    rw [e] at hl
    split at hl
    · rename_i he
      injection hl with hl
      subst hl; subst he
      exact ⟨h.1, h.2.1⟩
    · exact sameH_get h.2.2 id b hl

/-- Told under other names ('ids': the old name of each new one; the first four stay), or with less. -/
theorem weak_ren {σ σ' : ASt} (ids : List Nat) (h4 : ids.take 4 = [0, 1, 2, 3]) (hnd : nodup ids = true) (hlen : ids.length = σ'.nx) (hs : SameS (gOf ids σ.nx) σ.sl σ'.sl) (hh : SameH (gOf ids σ.nx) σ'.nx σ.H σ'.H) : Weak σ σ' := by
  rintro w0 E B a w ⟨loc, hB, hr⟩
  have hnd' := nodup_iff hnd
  obtain ⟨hs1, hs2⟩ := sameS_get hs
  have hold : ∀ k, (hk : k < ids.length) → gOf ids σ.nx k = ids[k] := fun k hk => gOf_old hk
  have hnew : ∀ k, ids.length ≤ k → loc.m (gOf ids σ.nx k) = .free := fun k hk => hr.fresh _ (by rw [gOf_new hk]; omega)
  have hpin : ∀ k, k < 4 → gOf ids σ.nx k = k := by
    obtain ⟨t, rfl⟩ : ∃ t, ids = 0 :: 1 :: 2 :: 3 :: t := ⟨ids.drop 4, by have := List.take_append_drop 4 ids; rw [h4] at this; exact this.symm⟩
    intro k hk
    match k, hk with
    | 0, _ => rfl
    | 1, _ => rfl
    | 2, _ => rfl
    | 3, _ => rfl
  let loc' : Loc := { m := fun k => loc.m (gOf ids σ.nx k), bad := loc.bad }
  have hlt : ∀ i b, loc'.m i = .here b → i < ids.length := by
    intro i b hi
    rcases Nat.lt_or_ge i ids.length with h' | h'
    · exact h'
    · have : loc'.m i = .free := hnew i h'
      rw [this] at hi; cases hi
  refine ⟨loc', ⟨hB.1, hB.2.1, fun k hk => ?_⟩, ⟨?_, fun t => ?_, ?_, ⟨hr.env.os, hr.env.tape, hr.env.output, hr.env.size, hr.env.same, ?_, ?_, hr.env.bad⟩, ?_, hr.defers, ?_⟩⟩
  · have e : loc'.m k = loc.m k := by
      show loc.m (gOf ids σ.nx k) = loc.m k
      rw [hpin k (by have := hB.2.1; omega)]
    rw [e]; exact hB.2.2 k hk
  · rw [hr.size]; exact hs1
  · rcases hs2 t with h | h
    · rw [h]; exact .junk _
    · exact unren (loc2 := loc') (g := gOf ids σ.nx) (fun _ => rfl) rfl (hr.slots t) _ h
  · intro id b hl
    obtain ⟨h1, h2⟩ := sameH_get hh id b hl
    have h3 := hr.heap _ _ h2
    unfold BlkR at h3 ⊢
    show (match loc.m (gOf ids σ.nx id) with
      | .free => True
      | .dead => False
      | .nil => b.ok ∧ b.len = 0
      | .here c => b.ok ∧ Lies w loc' b c)
    split
    · trivial
    · rename_i e; rw [e] at h3; exact h3
    · rename_i e; rw [e] at h3; exact ⟨ok_ren h3.1, by rw [← len_ren (g := gOf ids σ.nx)]; exact h3.2⟩
    · rename_i c e; rw [e] at h3; exact ⟨ok_ren h3.1, lies_unren (loc2 := loc') (g := gOf ids σ.nx) (fun _ => rfl) rfl h3.2⟩
  · intro i j b hi hj
    have h1 := hlt i b hi
    have h2 := hlt j b hj
    have h3 : gOf ids σ.nx i = gOf ids σ.nx j := hr.env.inj _ _ b hi hj
    rw [hold i h1, hold j h2] at h3
    exact nodup_inj hnd' h3
  · exact fun i b hi => hr.env.lies _ b hi
  · intro id hid
    exact hnew id (by omega)
  · intro id b hl
    exact (sameH_get hh id b hl).1

theorem Weak.trans {a b c : ASt} (h : Weak a b) (k : Weak b c) : Weak a c := fun w0 E B x w r => k w0 E B x w (h w0 E B x w r)

def emptyB : Blk → Prop
  | .b bs => bs = []
  | .i ns => ns = []
  | .g s xs => 0 < s ∧ xs = []

def nilV : AV → Prop
  | .sb [] true => True
  | .si [] true => True
  | .sg _ [] true => True
  | _ => False

theorem nilV_R {w : World} {loc : Loc} {x : AV} {v : Value} (hn : nilV x) (h : R w loc x v) : ∃ a, v = .slice a 0 0 := by
  unfold nilV at hn
  split at hn
  · cases h with
    | sb _ _ a cap hd _ => obtain rfl : cap = 0 := hd.full rfl; exact ⟨a, rfl⟩
  · cases h with
    | si _ _ a cap hd _ => obtain rfl : cap = 0 := hd.full rfl; exact ⟨a, rfl⟩
  · cases h with
    | sg _ _ _ a cap cs hd _ _ _ _ _ => obtain rfl : cap = 0 := hd.full rfl; exact ⟨a, rfl⟩
  · exact hn.elim

/-- A nil slice told as one of the call's own that has nothing. -/
theorem weak_nil {sl : List AV} {H : Heap} {nx : Nat} (i s : Nat) (b : Blk) (hb : emptyB b) (hn : nilV (slot sl i)) : Weak ⟨sl, H, nx⟩ ⟨setSlot sl i (.ms nx s 0 0), put H nx b, nx + 1⟩ := by
  rintro w0 E B a w ⟨loc, hB, hr⟩
  have hf : loc.m nx = .free := hr.fresh nx (Nat.le_refl _)
  have hb1 : b.ok ∧ b.len = 0 := by
    cases b with
    | b bs => exact ⟨trivial, by rw [show bs = [] from hb]; rfl⟩
    | i bs => exact ⟨trivial, by rw [show bs = [] from hb]; rfl⟩
    | g s xs => obtain ⟨h1, rfl⟩ := hb; exact ⟨⟨h1, by simp⟩, rfl⟩
  have hM : ∀ c, Mut (loc.set nx .nil) c → Mut loc c := by
    rintro c (h | ⟨k, h⟩)
    · exact .inl h
    · by_cases hk : k = nx
      · subst hk; rw [Loc.set_same] at h; cases h
      · rw [Loc.set_other _ _ hk] at h; exact .inr ⟨k, h⟩
  have hE : Ext (fun _ => False) w loc w (loc.set nx .nil) :=
    ⟨Nat.le_refl _, fun id h _ => Loc.set_other _ _ (fun e => h (e ▸ hf)), fun _ _ h => h.elim, fun c _ hm => ⟨rfl, fun h => hm (hM c h)⟩, fun _ _ _ _ => rfl, fun _ _ cur _ fz _ h => ⟨cur, fz, h, rfl⟩⟩
  have hset : ∀ {k c}, (loc.set nx .nil).m k = .here c → loc.m k = .here c := by
    intro k c h
    by_cases hk : k = nx
    · subst hk; rw [Loc.set_same] at h; cases h
    · rwa [Loc.set_other _ _ hk] at h
  refine ⟨loc.set nx .nil, ⟨hB.1, hB.2.1, fun k hk => ?_⟩, ⟨?_, fun t => ?_, ?_, ⟨hr.env.os, hr.env.tape, hr.env.output, hr.env.size, hr.env.same, fun i j b h1 h2 => hr.env.inj i j b (hset h1) (hset h2), fun i b h1 => hr.env.lies i b (hset h1), hr.env.bad⟩, ?_, hr.defers, ?_⟩⟩
  · have hne : k ≠ nx := by
      rintro rfl
      rcases hB.2.2 k hk with h | ⟨h, _⟩ <;> rw [hf] at h <;> cases h
    rw [Loc.set_other _ _ hne]; exact hB.2.2 k hk
  · simp only; rw [setSlot_length]; exact hr.size
  · simp only
    by_cases ht : i = t
    · subst ht
      by_cases hl : i < sl.length
      · rw [slot_set_same hl]
        obtain ⟨a', he⟩ := nilV_R hn (hr.slots i)
        rw [he]
        refine .ms _ _ _ _ _ ?_
        unfold Owns
        rw [Loc.set_same]
        exact ⟨rfl, a', rfl⟩
      · rw [slot_ge (by rw [setSlot_length]; exact Nat.le_of_not_lt hl)]; exact .junk _
    · rw [slot_set_other ht]; exact (hr.slots t).ext hE
  · intro id c hl
    simp only at hl
    rw [look_put] at hl
    split at hl
    · rename_i e; subst e
      injection hl with hl; subst hl
      unfold BlkR
      rw [Loc.set_same]; exact hb1
    · rename_i e
      by_cases hfr : loc.m id = .free
      · exact BlkR.free (by rw [Loc.set_other _ _ (Ne.symm e)]; exact hfr)
      · exact (hr.heap id c hl).ext hE (fun h => h) hfr
  · intro id hid
    simp only at hid
    rw [Loc.set_other _ _ (by omega)]; exact hr.fresh id (by simp only; omega)
  · intro id c hl
    simp only at hl
    rw [look_put] at hl
    split at hl
    · simp only; omega
    · have := hr.low id c hl
      simp only at this ⊢; omega

end Ax
end Go.Proofs.Ytgkkgbomhfdbkaa
