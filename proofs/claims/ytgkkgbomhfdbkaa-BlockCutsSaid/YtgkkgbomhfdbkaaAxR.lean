/- What a call of a function does to the caller. -/
import Derived.Test.YtgkkgbomhfdbkaaAxQ
namespace Go.Proofs.Ytgkkgbomhfdbkaa
namespace Ax
set_option linter.unusedSimpArgs false
set_option linter.unusedVariables false

mutual
theorem ren_closed (g : Nat → Nat) : ∀ (x : AV), x.closed = true → x.ren g = x
  | .agg xs, h => by simp only [AV.ren]; rw [renL_closed g xs (by simpa [AV.closed] using h)]
  | .tup xs, h => by simp only [AV.ren]; rw [renL_closed g xs (by simpa [AV.closed] using h)]
  | .fn f xs, h => by simp only [AV.ren]; rw [renL_closed g xs (by simpa [AV.closed] using h)]
  | .ms _ _ _ _, h => by simp [AV.closed] at h
  | .rf _ _ _ _, h => by simp [AV.closed] at h
  | .w _, _ => rfl
  | .str _, _ => rfl
  | .sb _ _, _ => rfl
  | .si _ _, _ => rfl
  | .sg _ _ _, _ => rfl
  | .cp _, _ => rfl
  | .junk, _ => rfl
theorem renL_closed (g : Nat → Nat) : ∀ (xs : List AV), closedL xs = true → renL g xs = xs
  | [], _ => rfl
  | x :: xs, h => by
    simp only [closedL, Bool.and_eq_true] at h
    simp only [renL]; rw [ren_closed g x h.1, renL_closed g xs h.2]
end

theorem renL_get (g : Nat → Nat) : ∀ (xs : List AV), (renL g xs).length = xs.length ∧ ∀ (j : Nat) (h : j < (renL g xs).length) (h' : j < xs.length), (renL g xs)[j] = xs[j].ren g
  | [] => ⟨rfl, fun j h => by simp [renL] at h⟩
  | x :: xs => by
    obtain ⟨h1, h2⟩ := renL_get g xs
    refine ⟨by simp [renL, h1], fun j h h' => ?_⟩
    cases j with
    | zero => rfl
    | succ j => exact h2 j (by simpa [renL] using h) (by simpa using h')

theorem ren_leaf (g : Nat → Nat) {x : AV} (h : x.leaf = true) : (x.ren g).leaf = true := by
  cases x <;> first | exact h | simp [AV.leaf] at h

theorem noimmL_get {xs : List AV} (h : noimmL xs = true) (j : Nat) (hj : j < xs.length) : xs[j].noimm = true := by
  induction xs generalizing j with
  | nil => simp at hj
  | cons x r ih =>
    simp only [noimmL, Bool.and_eq_true] at h
    cases j with
    | zero => exact h.1
    | succ j => exact ih h.2 j (by simpa using hj)

/-- A value told under other names. -/
theorem ren_sound {w : World} {loc loc2 : Loc} {g : Nat → Nat} (hg : ∀ id, loc.m id ≠ .free → loc2.m (g id) = loc.m id) {x : AV} {v : Value} (h : R w loc x v)
    (hM : x.noimm = true ∨ ∀ b, b < w.heap.size → Mut loc2 b → Mut loc b) : R w loc2 (x.ren g) v := by
  induction h with
  | w v h => exact .w v h
  | str bs => exact .str bs
  | agg xs cs hl hx _ ih =>
    obtain ⟨h1, h2⟩ := renL_get g xs
    refine .agg _ cs (by rw [h1, hl]) (fun j hj => ?_) (fun j a b => ?_)
    · rw [h2 j hj (by rw [← h1]; exact hj)]; exact ren_leaf g (hx j _)
    · rw [h2 j a (by rw [← h1]; exact a)]
      exact ih j _ b (hM.imp (fun h => noimmL_get (by simpa [AV.noimm] using h) j _) id)
  | tup xs cs hl _ ih =>
    obtain ⟨h1, h2⟩ := renL_get g xs
    refine .tup _ cs (by rw [h1, hl]) (fun j a b => ?_)
    rw [h2 j a (by rw [← h1]; exact a)]
    exact ih j _ b (hM.imp (fun h => noimmL_get (by simpa [AV.noimm] using h) j _) id)
  | sb bs full a cap hd hc =>
    rcases hM with h | h
    · obtain rfl : bs = [] := by simpa [AV.noimm] using h
      exact .sb [] full a cap hd ⟨.inl rfl⟩
    · exact .sb bs full a cap hd (hc.move h)
  | si ns full a cap hd hc =>
    rcases hM with h | h
    · obtain rfl : ns = [] := by simpa [AV.noimm] using h
      exact .si [] full a cap hd ⟨.inl rfl⟩
    · exact .si ns full a cap hd (hc.move h)
  | sg s xs full a cap cs hd hs hc hl hx h ih =>
    rcases hM with hM | hM
    · obtain rfl : xs = [] := by simpa [AV.noimm] using hM
      obtain rfl : cs = [] := by simpa using hl.symm
      exact .sg s [] full a cap [] hd hs ⟨.inl rfl⟩ rfl (by simp) (by simp)
    · exact (R.sg s xs full a cap cs hd hs hc hl hx h).move hM rfl
  | cp ls a cs hc hn hl hx h ih =>
    rcases hM with hM | hM
    · simp [AV.noimm] at hM
    · exact (R.cp ls a cs hc hn hl hx h).move hM rfl
  | ms id s off len v h =>
    have hf : loc.m id ≠ .free := by intro e; simp [Owns, e] at h
    refine .ms _ _ _ _ _ ?_
    unfold Owns at h ⊢
    rw [hg id hf]; exact h
  | rf id s i f v h =>
    have hf : loc.m id ≠ .free := by intro e; simp [Points, e] at h
    refine .rf _ _ _ _ _ ?_
    unfold Points at h ⊢
    rw [hg id hf]; exact h
  | fn f caps cs hl _ ih =>
    obtain ⟨h1, h2⟩ := renL_get g caps
    refine .fn f _ cs (by rw [h1, hl]) (fun j a b => ?_)
    rw [h2 j a (by rw [← h1]; exact a)]
    exact ih j _ b (hM.imp (fun h => noimmL_get (by simpa [AV.noimm] using h) j _) id)
  | junk v => exact .junk v

mutual
theorem noimm_leaves : ∀ (x : AV), x.noimm = true → ∀ y ∈ x.leaves, y.noimm = true
  | .agg xs, h, y, hy => by
    obtain ⟨j, hj, rfl⟩ := List.getElem_of_mem (show y ∈ xs from hy)
    exact noimmL_get (by simpa [AV.noimm] using h) j hj
  | .tup xs, h, y, hy => by simp only [AV.leaves, List.mem_singleton] at hy; subst hy; exact h
  | .fn f xs, h, y, hy => by simp only [AV.leaves, List.mem_singleton] at hy; subst hy; exact h
  | .ms _ _ _ _, h, y, hy => by simp only [AV.leaves, List.mem_singleton] at hy; subst hy; exact h
  | .rf _ _ _ _, h, y, hy => by simp only [AV.leaves, List.mem_singleton] at hy; subst hy; exact h
  | .w _, h, y, hy => by simp only [AV.leaves, List.mem_singleton] at hy; subst hy; exact h
  | .str _, h, y, hy => by simp only [AV.leaves, List.mem_singleton] at hy; subst hy; exact h
  | .sb _ _, h, y, hy => by simp only [AV.leaves, List.mem_singleton] at hy; subst hy; exact h
  | .si _ _, h, y, hy => by simp only [AV.leaves, List.mem_singleton] at hy; subst hy; exact h
  | .sg _ _ _, h, y, hy => by simp only [AV.leaves, List.mem_singleton] at hy; subst hy; exact h
  | .cp _, h, y, hy => by simp only [AV.leaves, List.mem_singleton] at hy; subst hy; exact h
  | .junk, h, y, hy => by simp only [AV.leaves, List.mem_singleton] at hy; subst hy; exact h
end

theorem flat_closed {blk : Blk} (h : blk.closed = true) : ∀ y ∈ blk.flat, y.closed = true := by
  intro y hy
  cases blk with
  | b bs => simp only [Blk.flat, List.mem_map] at hy; obtain ⟨b, _, rfl⟩ := hy; rfl
  | i ns => simp only [Blk.flat, List.mem_map] at hy; obtain ⟨b, _, rfl⟩ := hy; rfl
  | g s xs =>
    obtain ⟨x, hx, hxl⟩ := List.mem_flatMap.1 hy
    exact closed_leaves (closedL_mem (by simpa [Blk.closed] using h) hx) y hxl

theorem flat_noimm {blk : Blk} (h : blk.noimm = true) : ∀ y ∈ blk.flat, y.noimm = true := by
  intro y hy
  cases blk with
  | b bs => simp only [Blk.flat, List.mem_map] at hy; obtain ⟨b, _, rfl⟩ := hy; rfl
  | i ns => simp only [Blk.flat, List.mem_map] at hy; obtain ⟨b, _, rfl⟩ := hy; rfl
  | g s xs =>
    obtain ⟨x, hx, hxl⟩ := List.mem_flatMap.1 hy
    obtain ⟨j, hj, rfl⟩ := List.getElem_of_mem hx
    exact noimm_leaves _ (noimmL_get (by simpa [Blk.noimm] using h) j hj) y hxl

mutual
theorem plain_of : ∀ (x : AV), x.closed = true → x.noimm = true → x.plain = true
  | .agg xs, h, k => plainL_of xs h k
  | .tup xs, h, k => plainL_of xs h k
  | .fn f xs, h, k => plainL_of xs h k
  | .ms _ _ _ _, h, _ => by simp [AV.closed] at h
  | .rf _ _ _ _, h, _ => by simp [AV.closed] at h
  | .w _, _, _ => rfl
  | .str _, _, _ => rfl
  | .sb _ _, _, k => k
  | .si _ _, _, k => k
  | .sg _ _ _, _, k => k
  | .cp _, _, k => k
  | .junk, _, _ => rfl
theorem plainL_of : ∀ (xs : List AV), closedL xs = true → noimmL xs = true → plainL xs = true
  | [], _, _ => rfl
  | x :: xs, h, k => by
    simp only [closedL, noimmL, plainL, Bool.and_eq_true] at h k ⊢
    exact ⟨plain_of x h.1 k.1, plainL_of xs h.2 k.2⟩
end

/-- A block told in another place. -/
theorem lies_move {w : World} {loc loc2 : Loc} {blk : Blk} {b : Nat} (h : Lies w loc blk b) (hc : blk.closed = true) (hM : blk.noimm = true ∨ ∀ b, b < w.heap.size → Mut loc2 b → Mut loc b) : Lies w loc2 blk b := by
  obtain ⟨cur, e, fz, h1, h2, h3, h4, h5⟩ := h.lies
  refine ⟨cur, e, fz, h1, h2, h3, h4, fun j a c => ⟨(h5 j a c).1, ?_⟩⟩
  have hcl := flat_closed hc _ (List.getElem_mem a)
  rcases hM with hM | hM
  · exact (h5 j a c).2.far (plain_of _ hcl (flat_noimm hM _ (List.getElem_mem a)))
  · exact (h5 j a c).2.move hM hcl

theorem closedB_get {bl : List Blk} (h : closedB bl = true) (j : Nat) (hj : j < bl.length) : bl[j].closed = true := by
  induction bl generalizing j with
  | nil => simp at hj
  | cons x r ih =>
    simp only [closedB, Bool.and_eq_true] at h
    cases j with
    | zero => exact h.1
    | succ j => exact ih h.2 j (by simpa using hj)

theorem noimmB_get {bl : List Blk} (h : noimmB bl = true) (j : Nat) (hj : j < bl.length) : bl[j].noimm = true := by
  induction bl generalizing j with
  | nil => simp at hj
  | cons x r ih =>
    simp only [noimmB, Bool.and_eq_true] at h
    cases j with
    | zero => exact h.1
    | succ j => exact ih h.2 j (by simpa using hj)

theorem pinsOf_get {H : Heap} : ∀ {ids : List Nat}, (pinsOf H ids).1 → (pinsOf H ids).2.length = ids.length ∧ closedB (pinsOf H ids).2 = true ∧ ∀ (k : Nat) (h : k < ids.length), look H ids[k] = (pinsOf H ids).2[k]?
  | [], _ => ⟨rfl, rfl, fun k h => by simp at h⟩
  | id :: r, h => by
    simp only [pinsOf] at h ⊢
    cases hl : look H id with
    | none => simp [hl] at h
    | some b =>
      simp only [hl] at h ⊢
      obtain ⟨h1, h2, h3⟩ := pinsOf_get h.2
      refine ⟨by simp [h1], by simp [closedB, h.1, h2], fun k a => ?_⟩
      cases k with
      | zero => simpa using hl
      | succ k => simpa using h3 k (by simpa using a)

mutual
theorem root_points {w : World} {loc : Loc} {id : Nat} : ∀ (x : AV) (v : Value), R w loc x v → id ∈ x.roots → ∃ s i f u, Points loc id s i f u
  | .agg xs, v, h, hm => by
    obtain ⟨cs, rfl, hc⟩ := agg_cells h
    exact rootsL_points xs cs.toList hc.len hc.r hm
  | .fn f xs, v, h, hm => by
    cases h with
    | fn _ _ cs hl h => exact rootsL_points xs cs hl h hm
  | .rf k s i f, v, h, hm => by
    simp only [AV.roots, List.mem_singleton] at hm
    subst hm
    cases h with
    | rf _ _ _ _ _ h => exact ⟨s, i, f, v, h⟩
  | .tup _, _, _, hm => by simp [AV.roots] at hm
  | .ms _ _ _ _, _, _, hm => by simp [AV.roots] at hm
  | .w _, _, _, hm => by simp [AV.roots] at hm
  | .str _, _, _, hm => by simp [AV.roots] at hm
  | .sb _ _, _, _, hm => by simp [AV.roots] at hm
  | .si _ _, _, _, hm => by simp [AV.roots] at hm
  | .sg _ _ _, _, _, hm => by simp [AV.roots] at hm
  | .cp _, _, _, hm => by simp [AV.roots] at hm
  | .junk, _, _, hm => by simp [AV.roots] at hm
theorem rootsL_points {w : World} {loc : Loc} {id : Nat} : ∀ (xs : List AV) (vs : List Value), xs.length = vs.length → (∀ (j : Nat) (h : j < xs.length) (h' : j < vs.length), R w loc xs[j] vs[j]) → id ∈ rootsL xs → ∃ s i f u, Points loc id s i f u
  | [], _, _, _, hm => by simp [rootsL] at hm
  | x :: xs, [], hl, _, _ => by simp at hl
  | x :: xs, v :: vs, hl, h, hm => by
    simp only [rootsL, List.mem_append] at hm
    rcases hm with hm | hm
    · exact root_points x v (h 0 (by simp) (by simp)) hm
    · exact rootsL_points xs vs (by simpa using hl) (fun j a b => h (j + 1) (by simpa using a) (by simpa using b)) hm
end

theorem nodup_iff : ∀ {l : List Nat}, nodup l = true → l.Nodup
  | [], _ => .nil
  | a :: r, h => by
    simp only [nodup, Bool.and_eq_true, Bool.not_eq_true'] at h
    refine List.nodup_cons.2 ⟨fun hm => ?_, nodup_iff h.2⟩
    have := List.contains_iff_mem.2 hm
    rw [this] at h; simp at h

theorem gOf_old {ids : List Nat} {nm k : Nat} (h : k < ids.length) : gOf ids nm k = ids[k] := by
  induction ids generalizing k with
  | nil => simp at h
  | cons a r ih => cases k with
    | zero => rfl
    | succ k => simp only [gOf, List.getElem_cons_succ]; exact ih (by simpa using h)

theorem gOf_new {ids : List Nat} {nm k : Nat} (h : ids.length ≤ k) : gOf ids nm k = nm + (k - ids.length) := by
  induction ids generalizing k with
  | nil => simp [gOf]
  | cons a r ih => cases k with
    | zero => simp at h
    | succ k => simp only [gOf, List.length_cons]; rw [ih (by simpa using h)]; omega

theorem look_back {g : Nat → Nat} {H : Heap} {b : Blk} : ∀ (bl : List Blk) (k id : Nat), look (back g H k bl) id = some b → (∃ j, ∃ h : j < bl.length, g (k + j) = id ∧ bl[j] = b) ∨ (look H id = some b ∧ ∀ j, j < bl.length → g (k + j) ≠ id)
  | [], k, id, h => .inr ⟨h, fun j hj => by simp at hj⟩
  | c :: r, k, id, h => by
    simp only [back, look_put] at h
    split at h
    · rename_i he
      injection h with h
      exact .inl ⟨0, by simp, he, h⟩
    · rename_i hne
      rcases look_back r (k + 1) id h with ⟨j, hj, h1, h2⟩ | ⟨h1, h2⟩
      · exact .inl ⟨j + 1, by simpa using hj, by rw [← h1]; congr 1; omega, h2⟩
      · refine .inr ⟨h1, fun j hj => ?_⟩
        cases j with
        | zero => exact hne
        | succ j => have := h2 j (by simpa using hj); rw [show k + (j + 1) = k + 1 + j by omega]; exact this

theorem look_dropAll (H : Heap) (k : Nat) : ∀ l : List Nat, look (dropAll H l) k = if k ∈ l then none else look H k
  | [] => by simp [dropAll]
  | id :: r => by
    simp only [dropAll, look_drop, look_dropAll H k r]
    by_cases h : id = k
    · subst h; simp
    · rw [if_neg h]
      have : (k ∈ id :: r) ↔ k ∈ r := by simp [Ne.symm h]
      simp only [this]

mutual
theorem clean_noimm : ∀ (x : AV), x.clean = true → x.noimm = true
  | .agg xs, h => cleanL_noimm xs h
  | .tup xs, h => cleanL_noimm xs h
  | .fn f xs, h => cleanL_noimm xs h
  | .ms _ _ _ _, _ => rfl
  | .rf _ _ _ _, _ => rfl
  | .w _, _ => rfl
  | .str _, _ => rfl
  | .sb _ _, h => by simp [AV.clean] at h
  | .si _ _, h => by simp [AV.clean] at h
  | .sg _ _ _, h => by simp [AV.clean] at h
  | .cp _, h => by simp [AV.clean] at h
  | .junk, _ => rfl
theorem cleanL_noimm : ∀ (xs : List AV), cleanL xs = true → noimmL xs = true
  | [], _ => rfl
  | x :: xs, h => by
    simp only [cleanL, noimmL, Bool.and_eq_true] at h ⊢
    exact ⟨clean_noimm x h.1, cleanL_noimm xs h.2⟩
end
theorem cleanB_noimm : ∀ (bl : List Blk), cleanB bl = true → noimmB bl = true
  | [], _ => rfl
  | b :: r, h => by
    simp only [cleanB, noimmB, Bool.and_eq_true] at h ⊢
    refine ⟨?_, cleanB_noimm r h.2⟩
    cases b with
    | g s xs => exact cleanL_noimm xs h.1
    | _ => rfl

mutual
theorem lent_out {H : Heap} {ids : List Nat} : ∀ (x : AV), (lend H ids x).1 → ∀ id ∈ x.lentIds, ¬ id ∈ ids
  | .agg xs, hp, id, h => lentL_out xs hp id h
  | .fn f xs, hp, id, h => lentL_out xs hp id h
  | .ms k s off len, hp, id, h => by
    simp only [AV.lentIds, List.mem_singleton] at h
    subst h
    simp only [lend] at hp
    split at hp
    · exact hp.2.2
    · exact hp.2.2
    · exact hp.2.2.1
    · exact hp.elim
  | .tup _, hp, _, h => by simp [AV.lentIds] at h
  | .rf _ _ _ _, _, _, h => by simp [AV.lentIds] at h
  | .w _, _, _, h => by simp [AV.lentIds] at h
  | .str _, _, _, h => by simp [AV.lentIds] at h
  | .sb _ _, _, _, h => by simp [AV.lentIds] at h
  | .si _ _, _, _, h => by simp [AV.lentIds] at h
  | .sg _ _ _, _, _, h => by simp [AV.lentIds] at h
  | .cp _, _, _, h => by simp [AV.lentIds] at h
  | .junk, _, _, h => by simp [AV.lentIds] at h
theorem lentL_out {H : Heap} {ids : List Nat} : ∀ (xs : List AV), (lendL H ids xs).1 → ∀ id ∈ lentIdsL xs, ¬ id ∈ ids
  | [], _, _, h => by simp [lentIdsL] at h
  | x :: xs, hp, id, h => by
    simp only [lendL] at hp
    simp only [lentIdsL, List.mem_append] at h
    rcases h with h | h
    · exact lent_out x hp.1 id h
    · exact lentL_out xs hp.2 id h
end

theorem givenUp_or (r : Res) (l : List Nat) : (givenUp r l = [] ∧ (l = [] ∨ (r.x.clean = true ∧ cleanB r.bl = true))) ∨ givenUp r l = l := by
  cases l with
  | nil => exact .inl ⟨rfl, .inl rfl⟩
  | cons a l =>
    simp only [givenUp]
    cases h : (r.x.clean && cleanB r.bl) with
    | true => exact .inl ⟨rfl, .inr (by simpa using h)⟩
    | false => exact .inr rfl

/-- The caller behind a call. -/
theorem call_post {P : Program} {w0 : World} {E : Nat → Prop} {w : World} {loc : Loc} {H : Heap} (he : Env w0 E w loc) (hh : HR w loc H) {nm : Nat} (hfree : ∀ id, nm ≤ id → id < nm + 8 → loc.m id = .free) {S : FSpecs} (hS : ∀ f s, S f = some s → Sound P f s) {f : FuncId} {args : List AV} {vs : List Value}
    (hlen : args.length = vs.length) (hargs : ∀ (j : Nat) (h : j < args.length) (h' : j < vs.length), R w loc args[j] vs[j]) (hp : (aUser S nm f args H).p) :
    Calls P f vs.toArray w fun e w' => ∃ v loc', e = .returned v ∧ Post w0 E w loc true nm (aUser S nm f args H).x (aUser S nm f args H).H v w' loc' ∧ ((rootsL args = []) → (lentIdsL args = []) → Post w0 E w loc false nm (aUser S nm f args H).x (aUser S nm f args H).H v w' loc') := by
  unfold aUser at hp ⊢
  cases hsf : S f with
  | none => simp [hsf, bad] at hp
  | some spec =>
    simp only [hsf, callOut] at hp ⊢
    obtain ⟨⟨hnd, hpin, hlend⟩, hsp, hb1, hb2, hbc⟩ := hp
    obtain ⟨hpl, hpc, hpg⟩ := pinsOf_get hpin
    have hrp := fun id => rootsL_points (w := w) (loc := loc) (id := id) args vs hlen hargs
    generalize hids : rootsL args = ids at *
    generalize hpins : (pinsOf H ids).2 = pins at *
    have hndp := nodup_iff hnd
    -- the blocks of the names
    have live : ∀ id ∈ ids, ∃ b blk, loc.m id = .here b ∧ look H id = some blk ∧ blk.ok ∧ Lies w loc blk b := by
      intro id hid
      obtain ⟨s, i, f', u, hpt⟩ := hrp id hid
      obtain ⟨k, hk, rfl⟩ := List.getElem_of_mem hid
      have hl := hpg k hk
      rw [List.getElem?_eq_getElem (by omega)] at hl
      have hf : loc.m ids[k] ≠ .free := by intro e; simp [Points, e] at hpt
      obtain ⟨hok, hn | ⟨b, hb, hlies⟩⟩ := hh.get hl hf
      · simp [Points, hn.1] at hpt
      · exact ⟨b, _, hb, hl, hok, hlies⟩
    let blockOf : Nat → Nat := fun id => match loc.m id with | .here b => b | _ => 0
    have hblk : ∀ id ∈ ids, loc.m id = .here (blockOf id) := by
      intro id hid
      obtain ⟨b, _, hb, _⟩ := live id hid
      simp only [blockOf, hb]
    have hpb : PB loc ids (ids.map blockOf) := ⟨by simp, fun k a b => by simpa using hblk _ (List.getElem_mem a)⟩
    have hpbn : (ids.map blockOf).Nodup := by
      refine List.pairwise_map.2 (hndp.imp_of_mem ?_)
      intro a b ha hb hab hq
      exact hab (he.inj a b _ (hblk a ha) (by rw [hq]; exact hblk b hb))
    generalize hpbe : ids.map blockOf = pb at *
    have hpbl : pb.length = ids.length := hpb.len
    have hmemMut : ∀ b, b ∈ pb → Mut loc b := fun b hb => by obtain ⟨id, _, h⟩ := hpb.mem hb; exact .inr ⟨id, h⟩
    -- what others may write
    let bad' : Nat → Prop := fun b => (∀ id ∈ lentIdsL args, loc.m id ≠ .here b) ∧ Mut loc b ∧ ¬ b ∈ pb
    have hbad' : ∀ b, bad' b → Mut loc b := fun b h => h.2.1
    have hmutlt : ∀ b, Mut loc b → b < w.heap.size := by
      rintro b (h | ⟨k, h⟩)
      · have := (he.bad b h).1; have := he.size; omega
      · exact (he.lies k b h).1
    obtain ⟨l1, l2, l3⟩ := lendL_sound he hh hpb hbad' args vs hlen hargs hlend (by rw [hids]; exact fun id h => h) (fun id h b hb h9 => h9.1 id h hb)
    have hMl : ∀ b, b < w.heap.size → Mut (locOf pb bad') b → Mut loc b := fun b _ hb => by
      rcases mut_locOf.1 hb with h | h
      · exact hbad' b h
      · exact hmemMut b h
    have hpinlies : ∀ (k : Nat) (h : k < pins.length) (h' : k < pb.length), pins[k].ok ∧ Lies w (locOf pb bad') pins[k] pb[k] := by
      intro k h h'
      have hki : k < ids.length := by omega
      obtain ⟨b, blk, q1, q2, q3, q4⟩ := live ids[k] (List.getElem_mem hki)
      have h5 := hpb.at_ k hki h'
      rw [q1] at h5; injection h5 with h5; subst h5
      have h6 := hpg k hki
      rw [q2, List.getElem?_eq_getElem h] at h6
      injection h6 with h6; subst h6
      exact ⟨q3, lies_move q4 (closedB_get hpc k h) (.inr hMl)⟩
    have hcall := hS f spec hsf _ pins hsp hpc w bad' pb vs (by omega) hpbn (fun b h => ⟨hmutlt b h.2.1, h.2.2⟩) hpinlies (by rw [l1, hlen]) l2
    refine hcall.mono ?_
    rintro e w' ⟨v, loc', rfl, hg⟩
    generalize hres : spec (lendL H ids args).2 pins = res at *
    classical
    -- what is given up
    have hlout := lentL_out args hlend
    have hG0 := givenUp_or res (lentIdsL args)
    generalize hGe : givenUp res (lentIdsL args) = G at *
    have hGids : ∀ id ∈ G, ¬ id ∈ ids := by
      intro id hid
      rcases hG0 with ⟨rfl, _⟩ | rfl
      · simp at hid
      · exact hlout id hid
    -- the caller's names behind the call
    let loc2 : Loc := { m := fun id => if nm ≤ id ∧ id < nm + 8 then loc'.m (ids.length + (id - nm)) else if id ∈ G ∧ loc.m id ≠ .free then .dead else loc.m id, bad := loc.bad }
    have h2new : ∀ k, ids.length ≤ k → k < ids.length + 8 → loc2.m (nm + (k - ids.length)) = loc'.m k := by
      intro k a b
      simp only [loc2]
      rw [if_pos (by omega)]
      congr 1; omega
    have h2old : ∀ id, ¬ (nm ≤ id ∧ id < nm + 8) → ¬ id ∈ G → loc2.m id = loc.m id := fun id h h' => by
      simp only [loc2]; rw [if_neg h, if_neg (fun h => h' h.1)]
    have h2live : ∀ id, loc.m id ≠ .free → ¬ id ∈ G → loc2.m id = loc.m id := fun id h => h2old id fun hq => h (hfree id hq.1 hq.2)
    have h2dead : ∀ id, loc.m id ≠ .free → id ∈ G → loc2.m id = .dead := fun id h h' => by
      simp only [loc2]; rw [if_neg (fun hq => h (hfree id hq.1 hq.2)), if_pos ⟨h', h⟩]
    have h2free : ∀ id, ¬ (nm ≤ id ∧ id < nm + 8) → loc.m id = .free → loc2.m id = .free := fun id h h' => by
      simp only [loc2]; rw [if_neg h, if_neg (fun hq => hq.2 h')]; exact h'
    have h2here : ∀ id b, ¬ (nm ≤ id ∧ id < nm + 8) → loc2.m id = .here b → loc.m id = .here b ∧ ¬ id ∈ G := by
      intro id b h h'
      simp only [loc2] at h'
      rw [if_neg h] at h'
      split at h'
      · cases h'
      · rename_i hq
        exact ⟨h', fun hG => hq ⟨hG, by rw [h']; simp⟩⟩
    have hgm : ∀ k, loc'.m k ≠ .free → loc2.m (gOf ids nm k) = loc'.m k := by
      intro k hk
      by_cases hki : k < ids.length
      · rw [gOf_old hki, h2live _ (by rw [hpb.at_ k hki (by omega)]; simp) (fun h => hGids _ h (List.getElem_mem hki)), hpb.at_ k hki (by omega)]
        exact (hg.old k (by omega)).symm
      · have hkb : k < res.bl.length := by
          rcases Nat.lt_or_ge k res.bl.length with h | h
          · exact h
          · exact (hk (hg.none k h)).elim
        rw [gOf_new (by omega)]
        exact h2new k (by omega) (by omega)
    have hMut3 : ∀ b, Mut loc2 b → (Mut loc b ∧ ∀ id ∈ G, loc.m id ≠ .here b) ∨ (w.heap.size ≤ b ∧ Mut loc' b) := by
      rintro b (h | ⟨k, h⟩)
      · refine .inl ⟨.inl h, fun id _ hid => ?_⟩
        have h1 := he.bad b h
        rcases (he.lies id b hid).2 with h2 | h2
        · omega
        · exact h1.2 h2
      · by_cases hk : nm ≤ k ∧ k < nm + 8
        · simp only [loc2] at h
          rw [if_pos hk] at h
          exact .inr ⟨(hg.new _ b (by omega) h).1, .inr ⟨_, h⟩⟩
        · obtain ⟨h1, h2⟩ := h2here k b hk h
          exact .inl ⟨.inr ⟨k, h1⟩, fun id hid hb => h2 (he.inj id k b hb h1 ▸ hid)⟩
    have hMut2 : ∀ b, Mut loc2 b → Mut loc b ∨ (w.heap.size ≤ b ∧ Mut loc' b) := fun b h => (hMut3 b h).imp (·.1) id
    have hM : (res.x.noimm = true ∧ noimmB res.bl = true) ∨ (∀ b, b < w'.heap.size → Mut loc2 b → Mut loc' b) := by
      have key : (∀ id ∈ lentIdsL args, id ∈ G) → ∀ b, b < w'.heap.size → Mut loc2 b → Mut loc' b := by
        intro hall b _ hb
        rcases hMut3 b hb with h | h
        · by_cases hbp : b ∈ pb
          · obtain ⟨k, hk, rfl⟩ := List.getElem_of_mem hbp
            exact .inr ⟨k, hg.old k hk⟩
          · exact .inl (by rw [hg.bad]; exact ⟨fun id hid => h.2 id (hall id hid), h.1, hbp⟩)
        · exact h.2
      rcases hG0 with ⟨rfl, h | h⟩ | rfl
      · exact .inr (key (by rw [h]; simp))
      · exact .inl ⟨clean_noimm _ h.1, cleanB_noimm _ h.2⟩
      · exact .inr (key (fun _ h => h))
    have hwsz := hg.fram.size
    have hext : Ext (fun id => id ∈ ids ∨ id ∈ G) w loc w' loc2 := by
      refine ⟨hwsz, fun id h hC => h2live id h (fun h => hC (.inr h)), fun id h _ => ?_, fun b hb hm => ⟨?_, fun h => ?_⟩, fun id b hb hC => ?_, fun id b cur e fz hb hc => ?_⟩
      · by_cases hg' : id ∈ G
        · exact .inr (h2dead id h hg')
        · exact .inl (h2live id h hg')
      · exact hg.fram.same b hb (fun h => hm (hmemMut b h))
      · rcases hMut2 b h with h | h
        · exact hm h
        · omega
      · refine hg.fram.same b (he.lies id b hb).1 (fun h => ?_)
        obtain ⟨id', hi, hb'⟩ := hpb.mem h
        have := he.inj id id' b hb hb'
        subst this; exact hC (.inl hi)
      · by_cases hbp : b ∈ pb
        · exact hg.fram.shape b cur e fz hbp hc
        · exact ⟨cur, fz, (hg.fram.same b (he.lies id b hb).1 hbp).trans hc, rfl⟩
    have hr : R w' loc2 (res.x.ren (gOf ids nm)) v := ren_sound hgm hg.r (hM.imp (fun h => h.1) (fun h => h))
    have hh2 : HR w' loc2 (back (gOf ids nm) (dropAll H G) 0 res.bl) := by
      intro id b hb
      rcases look_back res.bl 0 id hb with ⟨j, hj, h1, h2⟩ | ⟨h1, h2⟩
      · rw [Nat.zero_add] at h1
        obtain ⟨k1, k2, k3⟩ := hg.bl j hj
        rw [h2] at k1
        have := hgm j k2
        rw [h1] at this
        unfold BlkR at k1 ⊢
        rw [this]
        have hcl := closedB_get hbc j hj
        rw [h2] at hcl
        have hni : res.x.noimm = true ∧ noimmB res.bl = true → b.noimm = true := fun h => by
          have := noimmB_get h.2 j hj; rw [h2] at this; exact this
        cases hloc : loc'.m j with
        | free => trivial
        | dead => exact (k3 hloc).elim
        | nil => rw [hloc] at k1; exact k1
        | here c => rw [hloc] at k1; exact ⟨k1.1, lies_move k1.2 hcl (hM.imp hni (fun h => h))⟩
      · rw [look_dropAll] at h1
        have hnG : ¬ id ∈ G := fun h => by rw [if_pos h] at h1; cases h1
        rw [if_neg hnG] at h1
        by_cases hfr : loc.m id = .free
        · by_cases hk : nm ≤ id ∧ id < nm + 8
          · have hnone : loc'.m (ids.length + (id - nm)) = .free := by
              refine hg.none _ ?_
              rcases Nat.lt_or_ge (ids.length + (id - nm)) res.bl.length with h | h
              · exfalso
                refine h2 _ h ?_
                rw [Nat.zero_add, gOf_new (by omega)]; omega
              · exact h
            exact BlkR.free (by simp only [loc2]; rw [if_pos hk]; exact hnone)
          · exact BlkR.free (h2free id hk hfr)
        · have hni : ¬ id ∈ ids := by
            intro hid
            obtain ⟨k, hk, rfl⟩ := List.getElem_of_mem hid
            refine h2 k (by omega) ?_
            rw [Nat.zero_add, gOf_old hk]
          exact (hh id b h1).ext hext (fun h => h.elim hni hnG) hfr
    have henv : Env w0 E w' loc2 := by
      refine ⟨hg.fram.os.trans he.os, hg.fram.tape.trans he.tape, hg.fram.output.trans he.output, by have := he.size; omega, fun b hb hE => ?_, ?_, ?_, he.bad⟩
      · rw [hg.fram.same b (by have := he.size; omega) (fun h => ?_)]
        · exact he.same b hb hE
        · obtain ⟨id, _, hid⟩ := hpb.mem h
          rcases (he.lies id b hid).2 with h | h
          · omega
          · exact hE h
      · intro i j b hi hj
        by_cases a1 : nm ≤ i ∧ i < nm + 8 <;> by_cases a2 : nm ≤ j ∧ j < nm + 8
        · simp only [loc2] at hi hj
          rw [if_pos a1] at hi; rw [if_pos a2] at hj
          have := hg.inj _ _ b hi hj
          omega
        · simp only [loc2] at hi
          rw [if_pos a1] at hi
          have hj := (h2here j b a2 hj).1
          have := (hg.new _ b (by omega) hi).1
          have := (he.lies j b hj).1
          omega
        · simp only [loc2] at hj
          rw [if_pos a2] at hj
          have hi := (h2here i b a1 hi).1
          have := (hg.new _ b (by omega) hj).1
          have := (he.lies i b hi).1
          omega
        · exact he.inj i j b (h2here i b a1 hi).1 (h2here j b a2 hj).1
      · intro i b hi
        by_cases a1 : nm ≤ i ∧ i < nm + 8
        · simp only [loc2] at hi
          rw [if_pos a1] at hi
          have := hg.new _ b (by omega) hi
          exact ⟨this.2, .inl (by have := he.size; omega)⟩
        · have := he.lies i b (h2here i b a1 hi).1
          exact ⟨by omega, this.2⟩
    have hfresh : ∀ id, loc.m id = .free → loc2.m id ≠ .free → nm ≤ id ∧ id < nm + 8 := by
      intro id h1 h2
      by_cases hk : nm ≤ id ∧ id < nm + 8
      · exact hk
      · exact (h2 (h2free id hk h1)).elim
    refine ⟨v, loc2, rfl, ⟨hr, hh2, henv, ⟨_, hext, fun h => by cases h⟩, hfresh, rfl⟩, fun hnil hnil2 => ⟨hr, hh2, henv, ⟨_, hext, fun _ id h => ?_⟩, hfresh, rfl⟩⟩
    have hG : G = [] := by
      rcases hG0 with ⟨h, _⟩ | h
      · exact h
      · rw [h]; exact hnil2
    rw [hnil, hG] at h; simp at h

end Ax
end Go.Proofs.Ytgkkgbomhfdbkaa
