/- Calls that are handed blocks which reach each other, and may give some up. -/
import Derived.Test.YtlbdhkgjhjcgiaaAxTg
namespace Go.Proofs.Ytlbdhkgjhjcgiaa
namespace Ax
set_option linter.unusedSimpArgs false
set_option linter.unusedVariables false

/-- What stands for a block that the call gave up. -/
def gone : Blk := .g 0 [.ms 0 0 0 0]
def Blk.isGone : Blk → Bool
  | .g s _ => s == 0
  | _ => false

mutual
/-- The names of what lies at a block for sure. -/
def AV.sids : AV → List Nat
  | .agg xs => sidsL xs
  | .tup xs => sidsL xs
  | .fn _ cs => sidsL cs
  | .ms id _ _ len => bif decide (0 < len) then [id] else []
  | .rf id _ _ _ => [id]
  | _ => []
def sidsL : List AV → List Nat
  | [] => []
  | x :: xs => x.sids ++ sidsL xs
end

def Blk.idsB (b : Blk) : List Nat := bif b.closed then [] else match b with
  | .g _ xs => idsL xs
  | _ => []
def Blk.sidsB (b : Blk) : List Nat := bif b.closed then [] else match b with
  | .g _ xs => sidsL xs
  | _ => []
def Blk.renB (g : Nat → Nat) (b : Blk) : Blk := bif b.closed then b else b.ren g

def reach (H : Heap) : Nat → List Nat → List Nat → List Nat
  | 0, acc, _ => acc
  | _ + 1, acc, [] => acc
  | n + 1, acc, id :: r => bif acc.contains id then reach H n acc r else match look H id with
    | some b => reach H n (acc ++ [id]) (r ++ b.idsB)
    | none => acc

def walk (H : Heap) : List Nat → List Nat → Bool
  | _, [] => true
  | good, id :: r => good.contains id && match look H id with
    | some b => walk H (good ++ b.sidsB) r
    | none => false

def allIn : List Nat → List Nat → Bool
  | [], _ => true
  | id :: r, ids => ids.contains id && allIn r ids

def pinsIn (H : Heap) (ids : List Nat) : List Nat → Bool
  | [] => true
  | id :: r => (match look H id with
    | some b => allIn b.idsB ids
    | none => false) && pinsIn H ids r

def pinsR (H : Heap) (g : Nat → Nat) : List Nat → List Blk
  | [] => []
  | id :: r => match look H id with
    | some b => b.renB g :: pinsR H g r
    | none => []

def backO (g : Nat → Nat) (H : Heap) : Nat → List Blk → Heap
  | _, [] => H
  | k, b :: r => bif b.isGone then drop (backO g H (k + 1) r) (g k) else put (backO g H (k + 1) r) (g k) (b.renB g)

def openOut (nm : Nat) (ids : List Nat) (args : List AV) (H : Heap) (r : Res) : Out :=
  ⟨(nodup ids = true ∧ walk H (sidsL args) ids = true ∧ allIn (idsL args) ids = true ∧ pinsIn H ids ids = true) ∧ r.p ∧ ids.length ≤ r.bl.length ∧ r.bl.length ≤ ids.length + 8,
    r.x.ren (gOf ids nm), backO (gOf ids nm) H 0 r.bl⟩

def idxOf (ids : List Nat) (id : Nat) : Nat := idx id ids

def aOpen (SO : FSpecs) (nm : Nat) (f : FuncId) (args : List AV) (H : Heap) : Out :=
  match SO f with
  | some spec => openOut nm (reach H 12 [] (idsL args)) args H (spec (renL (idxOf (reach H 12 [] (idsL args))) args) (pinsR H (idxOf (reach H 12 [] (idsL args))) (reach H 12 [] (idsL args))))
  | none => bad

structure GivesO (w : World) (bad : Nat → Prop) (pb : List Nat) (q : Res) (v : Value) (w' : World) (loc' : Loc) : Prop where
  r : R w' loc' q.x v
  bad : loc'.bad = bad
  bl : ∀ (k : Nat) (h : k < q.bl.length), (q.bl[k].isGone = true ∧ loc'.m k = .dead) ∨ (BlkR w' loc' k q.bl[k] ∧ loc'.m k ≠ .free ∧ loc'.m k ≠ .dead)
  old : ∀ (k : Nat) (h : k < pb.length), loc'.m k = .here pb[k] ∨ loc'.m k = .dead
  new : ∀ k b, pb.length ≤ k → loc'.m k = .here b → (w.heap.size ≤ b ∨ b ∈ pb) ∧ b < w'.heap.size
  none : ∀ k, q.bl.length ≤ k → loc'.m k = .free
  inj : ∀ i j b, loc'.m i = .here b → loc'.m j = .here b → i = j
  fram : Fram w w' (· ∈ pb)

/-- A function does what is said of it; what it is handed may reach each other. -/
def SoundO (P : Program) (f : FuncId) (spec : FSpec) : Prop :=
  ∀ (xs : List AV) (pins : List Blk), (spec xs pins).p →
  ∀ (w : World) (bad : Nat → Prop) (pb : List Nat) (vs : List Value), pb.length = pins.length → pb.Nodup → (∀ b, bad b → b < w.heap.size ∧ ¬ b ∈ pb) →
    (∀ (k : Nat) (h : k < pins.length) (h' : k < pb.length), pins[k].ok ∧ Lies w (locOf pb bad) pins[k] pb[k]) →
    xs.length = vs.length → (∀ (j : Nat) (h : j < xs.length) (h' : j < vs.length), R w (locOf pb bad) xs[j] vs[j]) →
    Calls P f vs.toArray w fun e w' => ∃ v loc', e = .returned v ∧ GivesO w bad pb (spec xs pins) v w' loc'

mutual
theorem closed_ids : ∀ (x : AV), x.closed = true → x.ids = []
  | .agg xs, h => closedL_ids xs h
  | .tup xs, h => closedL_ids xs h
  | .fn f xs, h => closedL_ids xs h
  | .ms _ _ _ _, h => by simp [AV.closed] at h
  | .rf _ _ _ _, h => by simp [AV.closed] at h
  | .w _, _ => rfl
  | .str _, _ => rfl
  | .sb _ _, _ => rfl
  | .si _ _, _ => rfl
  | .sg _ _ _, _ => rfl
  | .cp _, _ => rfl
  | .junk, _ => rfl
theorem closedL_ids : ∀ (xs : List AV), closedL xs = true → idsL xs = []
  | [], _ => rfl
  | x :: xs, h => by
    simp only [closedL, Bool.and_eq_true] at h
    simp only [idsL, closed_ids x h.1, closedL_ids xs h.2, List.append_nil]
end

theorem idsL_mem {id : Nat} : ∀ {xs : List AV}, id ∈ idsL xs ↔ ∃ x ∈ xs, id ∈ x.ids
  | [] => by simp [idsL]
  | x :: xs => by simp only [idsL, List.mem_append, List.mem_cons, idsL_mem (xs := xs)]; constructor
                  · rintro (h | ⟨y, h1, h2⟩)
                    · exact ⟨x, .inl rfl, h⟩
                    · exact ⟨y, .inr h1, h2⟩
                  · rintro ⟨y, rfl | h1, h2⟩
                    · exact .inl h2
                    · exact .inr ⟨y, h1, h2⟩
theorem sidsL_mem {id : Nat} : ∀ {xs : List AV}, id ∈ sidsL xs ↔ ∃ x ∈ xs, id ∈ x.sids
  | [] => by simp [sidsL]
  | x :: xs => by simp only [sidsL, List.mem_append, List.mem_cons, sidsL_mem (xs := xs)]; constructor
                  · rintro (h | ⟨y, h1, h2⟩)
                    · exact ⟨x, .inl rfl, h⟩
                    · exact ⟨y, .inr h1, h2⟩
                  · rintro ⟨y, rfl | h1, h2⟩
                    · exact .inl h2
                    · exact .inr ⟨y, h1, h2⟩
theorem leaves_idsO {id : Nat} {x y : AV} (hy : y ∈ x.leaves) (h : id ∈ y.ids) : id ∈ x.ids := by
  cases x with
  | agg xs => exact idsL_mem.2 ⟨y, hy, h⟩
  | _ => simp only [AV.leaves, List.mem_singleton] at hy; subst hy; exact h
theorem ids_leaves {id : Nat} {x : AV} (h : id ∈ x.ids) : ∃ y ∈ x.leaves, id ∈ y.ids := by
  cases x with
  | agg xs => exact idsL_mem.1 h
  | _ => exact ⟨_, by simp [AV.leaves], h⟩
theorem sids_leaves {id : Nat} {x : AV} (h : id ∈ x.sids) : ∃ y ∈ x.leaves, id ∈ y.sids := by
  cases x with
  | agg xs => exact sidsL_mem.1 h
  | _ => exact ⟨_, by simp [AV.leaves], h⟩

/-- A value told under other names, as far as it has them. -/
theorem ren_on {w : World} {loc loc2 : Loc} {g : Nat → Nat} (hM : ∀ b, b < w.heap.size → Mut loc2 b → Mut loc b) {x : AV} {v : Value} (h : R w loc x v) : (∀ id ∈ x.ids, loc2.m (g id) = loc.m id) → R w loc2 (x.ren g) v := by
  induction h with
  | w v h => intro _; exact .w v h
  | str bs => intro _; exact .str bs
  | agg xs cs hl hx _ ih =>
    intro hg
    obtain ⟨h1, h2⟩ := renL_get g xs
    refine .agg _ cs (by rw [h1, hl]) (fun j hj => ?_) (fun j a b => ?_)
    · rw [h2 j hj (by rw [← h1]; exact hj)]; exact ren_leaf g (hx j _)
    · rw [h2 j a (by rw [← h1]; exact a)]
      exact ih j _ b (fun id hid => hg id (idsL_mem.2 ⟨_, List.getElem_mem _, hid⟩))
  | tup xs cs hl _ ih =>
    intro hg
    obtain ⟨h1, h2⟩ := renL_get g xs
    refine .tup _ cs (by rw [h1, hl]) (fun j a b => ?_)
    rw [h2 j a (by rw [← h1]; exact a)]
    exact ih j _ b (fun id hid => hg id (idsL_mem.2 ⟨_, List.getElem_mem _, hid⟩))
  | sb bs full a cap hd hc => intro _; exact .sb bs full a cap hd (hc.move hM)
  | si ns full a cap hd hc => intro _; exact .si ns full a cap hd (hc.move hM)
  | sg s xs full a cap cs hd hs hc hl hx h ih => intro _; exact (R.sg s xs full a cap cs hd hs hc hl hx h).move hM rfl
  | cp ls a cs hc hn hl hx h ih => intro _; exact (R.cp ls a cs hc hn hl hx h).move hM rfl
  | ms id s off len v h =>
    intro hg
    refine .ms _ _ _ _ _ ?_
    unfold Owns at h ⊢
    rw [hg id (by simp [AV.ids])]; exact h
  | rf id s i f v h =>
    intro hg
    refine .rf _ _ _ _ _ ?_
    unfold Points at h ⊢
    rw [hg id (by simp [AV.ids])]; exact h
  | fn f caps cs hl _ ih =>
    intro hg
    obtain ⟨h1, h2⟩ := renL_get g caps
    refine .fn f _ cs (by rw [h1, hl]) (fun j a b => ?_)
    rw [h2 j a (by rw [← h1]; exact a)]
    exact ih j _ b (fun id hid => hg id (idsL_mem.2 ⟨_, List.getElem_mem _, hid⟩))
  | junk v => intro _; exact .junk v

theorem flat_idsO {blk : Blk} (hc : blk.closed = false) {id : Nat} : (∃ y ∈ blk.flat, id ∈ y.ids) ↔ id ∈ blk.idsB := by
  cases blk with
  | o x => simp [Blk.closed] at hc
  | b bs => simp [Blk.closed] at hc
  | i ns => simp [Blk.closed] at hc
  | g s xs =>
    simp only [Blk.idsB, hc, cond_false]
    constructor
    · rintro ⟨y, hy, h⟩
      obtain ⟨x, hx, hxl⟩ := List.mem_flatMap.1 hy
      exact idsL_mem.2 ⟨x, hx, leaves_idsO hxl h⟩
    · intro h
      obtain ⟨x, hx, h⟩ := idsL_mem.1 h
      obtain ⟨y, hy, h⟩ := ids_leaves h
      exact ⟨y, List.mem_flatMap.2 ⟨x, hx, hy⟩, h⟩

theorem closed_odd {blk : Blk} (h : blk.closed = false) : blk.odd = none := by
  cases blk with
  | o x => simp [Blk.closed] at h
  | _ => rfl
theorem lies_renB {w : World} {loc loc2 : Loc} {g : Nat → Nat} {blk : Blk} {b : Nat} (hM : ∀ b, b < w.heap.size → Mut loc2 b → Mut loc b) (hg : ∀ id ∈ blk.idsB, loc2.m (g id) = loc.m id) (h : Lies w loc blk b) : Lies w loc2 (blk.renB g) b := by
  unfold Blk.renB
  cases hc : blk.closed with
  | true => exact lies_move h hc (.inr hM)
  | false =>
    simp only [cond_false]
    have hodd : blk.odd = none := closed_odd hc
    obtain ⟨cur, e, fz, h1, h2, h3, h4, h5⟩ := h.lies hodd
    have hl : (blk.ren g).flat.length = blk.flat.length := by rw [flat_ren, (renL_get g _).1]
    refine .mkC ⟨cur, e, fz, h1, h2, h3, by omega, fun j a c => ?_⟩ (odd_ren.trans hodd)
    have h6 := h5 j (by omega) c
    have e : (blk.ren g).flat[j] = (blk.flat[j]'(by omega)).ren g := by
      have := (renL_get g blk.flat).2 j (by rw [(renL_get g _).1]; omega) (by omega)
      rw [← this]
      congr 1
      exact flat_ren g blk
    rw [e, ren_leaf_eq]
    exact ⟨h6.1, ren_on hM h6.2 (fun id hid => hg id ((flat_idsO hc).1 ⟨_, List.getElem_mem _, hid⟩))⟩

theorem ok_renB {g : Nat → Nat} {b : Blk} (h : b.ok) : (b.renB g).ok := by
  unfold Blk.renB
  cases b.closed with
  | true => exact h
  | false =>
    simp only [cond_false]
    cases b with
    | g s xs =>
      obtain ⟨h1, h2⟩ := h
      refine ⟨h1, fun x hx => ?_⟩
      obtain ⟨j, hj, rfl⟩ := List.getElem_of_mem hx
      obtain ⟨h3, h4⟩ := renL_get g xs
      rw [h4 j hj (by rw [← h3]; exact hj), leaves_ren, (renL_get g _).1]
      exact h2 _ (List.getElem_mem _)
    | _ => trivial
theorem len_renB {g : Nat → Nat} {b : Blk} : (b.renB g).len = b.len := by
  unfold Blk.renB
  cases b.closed with
  | true => rfl
  | false => exact len_ren

def Firm (loc : Loc) (id : Nat) : Prop := loc.m id ≠ .free ∧ loc.m id ≠ .nil
mutual
theorem sids_firm {w : World} {loc : Loc} {id : Nat} : ∀ (x : AV) (v : Value), R w loc x v → id ∈ x.sids → Firm loc id
  | .agg xs, v, h, hm => by
    cases h with
    | agg _ cs hl hx h => exact sidsL_firm xs cs hl h hm
  | .tup xs, v, h, hm => by
    cases h with
    | tup _ cs hl h => exact sidsL_firm xs cs hl h hm
  | .fn f xs, v, h, hm => by
    cases h with
    | fn _ _ cs hl h => exact sidsL_firm xs cs hl h hm
  | .ms k s off len, v, h, hm => by
    simp only [AV.sids] at hm
    by_cases h0 : 0 < len
    · rw [decide_eq_true h0] at hm
      obtain rfl : id = k := by simpa using hm
      cases h with
      | ms _ _ _ _ _ h =>
        refine ⟨fun e => by simp [Owns, e] at h, fun e => ?_⟩
        simp only [Owns, e] at h
        omega
    · rw [decide_eq_false h0] at hm; simp at hm
  | .rf k s i f, v, h, hm => by
    obtain rfl : id = k := by simpa [AV.sids] using hm
    cases h with
    | rf _ _ _ _ _ h => exact ⟨fun e => by simp [Points, e] at h, fun e => by simp [Points, e] at h⟩
  | .w _, _, _, hm => by simp [AV.sids] at hm
  | .str _, _, _, hm => by simp [AV.sids] at hm
  | .sb _ _, _, _, hm => by simp [AV.sids] at hm
  | .si _ _, _, _, hm => by simp [AV.sids] at hm
  | .sg _ _ _, _, _, hm => by simp [AV.sids] at hm
  | .cp _, _, _, hm => by simp [AV.sids] at hm
  | .junk, _, _, hm => by simp [AV.sids] at hm
theorem sidsL_firm {w : World} {loc : Loc} {id : Nat} : ∀ (xs : List AV) (vs : List Value), xs.length = vs.length → (∀ (j : Nat) (h : j < xs.length) (h' : j < vs.length), R w loc xs[j] vs[j]) → id ∈ sidsL xs → Firm loc id
  | [], _, _, _, hm => by simp [sidsL] at hm
  | x :: xs, [], hl, _, _ => by simp at hl
  | x :: xs, v :: vs, hl, h, hm => by
    simp only [sidsL, List.mem_append] at hm
    rcases hm with hm | hm
    · exact sids_firm x v (h 0 (by simp) (by simp)) hm
    · exact sidsL_firm xs vs (by simpa using hl) (fun j a b => h (j + 1) (by simpa using a) (by simpa using b)) hm
end

theorem walk_live {w : World} {loc : Loc} {H : Heap} (hh : HR w loc H) : ∀ (ids good : List Nat), walk H good ids = true → (∀ id ∈ good, Firm loc id) → ∀ id ∈ ids, ∃ b blk, loc.m id = .here b ∧ look H id = some blk ∧ blk.ok ∧ Lies w loc blk b
  | [], _, _, _, id, hid => by simp at hid
  | k :: r, good, hw, hg, id, hid => by
    simp only [walk, Bool.and_eq_true] at hw
    obtain ⟨h1, h2⟩ := hw
    have hk : k ∈ good := List.contains_iff_mem.1 h1
    cases hl : look H k with
    | none => simp [hl] at h2
    | some blk =>
      simp only [hl] at h2
      obtain ⟨hf, hn⟩ := hg k hk
      obtain ⟨hok, ⟨e, _⟩ | ⟨b, hb, hlies⟩⟩ := hh.get hl hf
      · exact (hn e).elim
      · rcases List.mem_cons.1 hid with rfl | hid
        · exact ⟨b, blk, hb, hl, hok, hlies⟩
        · refine walk_live hh r _ h2 (fun id' hid' => ?_) id hid
          rcases List.mem_append.1 hid' with h | h
          · exact hg id' h
          · unfold Blk.sidsB at h
            cases hc : blk.closed with
            | true => rw [hc] at h; simp at h
            | false =>
              rw [hc] at h
              simp only [cond_false] at h
              cases blk with
              | o _ => simp at h
              | b _ => simp at h
              | i _ => simp at h
              | g s xs =>
                simp only at h
                obtain ⟨x, hx, h⟩ := sidsL_mem.1 h
                obtain ⟨y, hy, h⟩ := sids_leaves h
                have hyf : y ∈ (Blk.g s xs).flat := List.mem_flatMap.2 ⟨x, hx, hy⟩
                obtain ⟨j, hj, rfl⟩ := List.getElem_of_mem hyf
                obtain ⟨cur, e, fz, _, _, _, q4, q5⟩ := hlies.lies
                exact sids_firm _ _ (q5 j hj (by omega)).2 h

theorem allIn_mem {ids : List Nat} : ∀ {l : List Nat}, allIn l ids = true → ∀ id ∈ l, id ∈ ids
  | [], _, id, h => by simp at h
  | k :: r, hl, id, h => by
    simp only [allIn, Bool.and_eq_true] at hl
    rcases List.mem_cons.1 h with rfl | h
    · exact List.contains_iff_mem.1 hl.1
    · exact allIn_mem hl.2 id h
theorem pinsIn_mem {H : Heap} {ids : List Nat} : ∀ {l : List Nat}, pinsIn H ids l = true → ∀ id ∈ l, ∀ b, look H id = some b → ∀ k ∈ b.idsB, k ∈ ids
  | [], _, id, h => by simp at h
  | i :: r, hl, id, h => by
    simp only [pinsIn, Bool.and_eq_true] at hl
    rcases List.mem_cons.1 h with rfl | h
    · intro b hb k hk
      rw [hb] at hl
      exact allIn_mem hl.1 k hk
    · exact pinsIn_mem hl.2 id h
theorem pinsR_get {H : Heap} {g : Nat → Nat} : ∀ {ids : List Nat}, (∀ id ∈ ids, look H id ≠ none) → (pinsR H g ids).length = ids.length ∧ ∀ (k : Nat) (h : k < ids.length) (h' : k < (pinsR H g ids).length) (b : Blk), look H ids[k] = some b → (pinsR H g ids)[k] = b.renB g
  | [], _ => ⟨rfl, fun k h => by simp at h⟩
  | id :: r, hn => by
    obtain ⟨h1, h2⟩ := pinsR_get (g := g) (fun i hi => hn i (List.mem_cons_of_mem _ hi) : ∀ i ∈ r, look H i ≠ none)
    cases hl : look H id with
    | none => exact (hn id (by simp) hl).elim
    | some b =>
      have e : pinsR H g (id :: r) = b.renB g :: pinsR H g r := by simp [pinsR, hl]
      rw [e]
      refine ⟨by simp [h1], fun k h h' c hc => ?_⟩
      cases k with
      | zero => simp only [List.getElem_cons_zero] at hc ⊢; rw [hl] at hc; injection hc with hc; rw [hc]
      | succ k => simp only [List.getElem_cons_succ] at hc ⊢; exact h2 k (by simpa using h) (by rw [h1]; simpa using h) c hc
theorem idx_get {ids : List Nat} (hnd : ids.Nodup) (k : Nat) (h : k < ids.length) : idx ids[k] ids = k := by
  obtain ⟨h1, h2⟩ := idx_lt (List.getElem_mem h)
  rw [List.getElem?_eq_getElem h1] at h2
  injection h2 with h2
  exact nodup_inj hnd h2
theorem look_backO {g : Nat → Nat} {H : Heap} {b : Blk} : ∀ (bl : List Blk) (k id : Nat), look (backO g H k bl) id = some b → (∃ j, ∃ h : j < bl.length, g (k + j) = id ∧ bl[j].isGone = false ∧ bl[j].renB g = b) ∨ (look H id = some b ∧ ∀ j, j < bl.length → g (k + j) ≠ id)
  | [], k, id, h => .inr ⟨h, fun j hj => by simp at hj⟩
  | c :: r, k, id, h => by
    have rest : look (backO g H (k + 1) r) id = some b → g k ≠ id → (∃ j, ∃ h : j < (c :: r).length, g (k + j) = id ∧ (c :: r)[j].isGone = false ∧ (c :: r)[j].renB g = b) ∨ (look H id = some b ∧ ∀ j, j < (c :: r).length → g (k + j) ≠ id) := by
      intro h hne
      rcases look_backO r (k + 1) id h with ⟨j, hj, h1, h2⟩ | ⟨h1, h2⟩
      · exact .inl ⟨j + 1, by simpa using hj, by rw [← h1]; congr 1; omega, h2⟩
      · refine .inr ⟨h1, fun j hj => ?_⟩
        cases j with
        | zero => exact hne
        | succ j => have := h2 j (by simpa using hj); rw [show k + (j + 1) = k + 1 + j by omega]; exact this
    simp only [backO] at h
    cases hg : c.isGone with
    | true =>
      rw [hg] at h
      simp only [cond_true, look_drop] at h
      split at h
      · cases h
      · rename_i hne; exact rest h hne
    | false =>
      rw [hg] at h
      simp only [cond_false, look_put] at h
      split at h
      · rename_i he
        injection h with h
        exact .inl ⟨0, by simp, he, hg, h⟩
      · rename_i hne; exact rest h hne
end Ax
end Go.Proofs.Ytlbdhkgjhjcgiaa

/- The caller behind such a call. -/
namespace Go.Proofs.Ytlbdhkgjhjcgiaa
namespace Ax
set_option linter.unusedSimpArgs false
set_option linter.unusedVariables false

theorem lies_live {w : World} {loc : Loc} {blk : Blk} {b : Nat} (h : Lies w loc blk b) : ∀ id ∈ blk.idsB, loc.m id ≠ .free := by
  intro id hid
  cases hc : blk.closed with
  | true => unfold Blk.idsB at hid; rw [hc] at hid; simp at hid
  | false =>
    obtain ⟨y, hy, hyi⟩ := (flat_idsO hc).2 hid
    obtain ⟨j, hj, rfl⟩ := List.getElem_of_mem hy
    obtain ⟨cur, e, fz, _, _, _, q4, q5⟩ := h.lies (closed_odd hc)
    exact ids_live _ _ (q5 j hj (by omega)).2 hyi

theorem call_postO {P : Program} {w0 : World} {E : Nat → Prop} {w : World} {loc : Loc} {H : Heap} (he : Env w0 E w loc) (hh : HR w loc H) {nm : Nat} (hfree : ∀ id, nm ≤ id → id < nm + 8 → loc.m id = .free) {SO : FSpecs} (hS : ∀ f s, SO f = some s → SoundO P f s) {f : FuncId} {args : List AV} {vs : List Value}
    (hlen : args.length = vs.length) (hargs : ∀ (j : Nat) (h : j < args.length) (h' : j < vs.length), R w loc args[j] vs[j]) (hp : (aOpen SO nm f args H).p) :
    Calls P f vs.toArray w fun e w' => ∃ v loc', e = .returned v ∧ Post w0 E w loc true nm (aOpen SO nm f args H).x (aOpen SO nm f args H).H v w' loc' := by
  unfold aOpen at hp ⊢
  cases hsf : SO f with
  | none => simp [hsf, bad] at hp
  | some spec =>
    simp only [hsf, openOut] at hp ⊢
    generalize reach H 12 [] (idsL args) = ids at *
    obtain ⟨⟨hnd, hwalk, hain, hpin⟩, hsp, hb1, hb2⟩ := hp
    have hndp := nodup_iff hnd
    have live := walk_live hh ids _ hwalk (fun id hid => sidsL_firm args vs hlen hargs hid)
    have hlk : ∀ id ∈ ids, look H id ≠ none := fun id hid => by
      obtain ⟨b, blk, _, h, _⟩ := live id hid; rw [h]; simp
    obtain ⟨hpl, hpg⟩ := pinsR_get (H := H) (g := idxOf ids) hlk
    generalize hpins : pinsR H (idxOf ids) ids = pins at *
    let blockOf : Nat → Nat := fun id => match loc.m id with | .here b => b | _ => 0
    have hblk : ∀ id ∈ ids, loc.m id = .here (blockOf id) := by
      intro id hid
      obtain ⟨b, _, hb, _⟩ := live id hid
      simp only [blockOf, hb]
    have hpb : PB loc ids (ids.map blockOf) := ⟨by simp, fun k a b => by simpa using hblk _ (List.getElem_mem a)⟩
    have hpbn : (ids.map blockOf).Nodup := by
      refine List.pairwise_map.2 (hndp.imp_of_mem ?_)
      intro a b ha hb hab hq
      exact hab (he.inj a b _ (hblk a ha) (by rw [hq]; exact hblk b hb))
    generalize hpbe : ids.map blockOf = pb at *
    have hpbl : pb.length = ids.length := hpb.len
    have hmemMut : ∀ b, b ∈ pb → Mut loc b := fun b hb => by obtain ⟨id, _, h⟩ := hpb.mem hb; exact .inr ⟨id, h⟩
    let bad' : Nat → Prop := fun b => Mut loc b ∧ ¬ b ∈ pb
    have hbad' : ∀ b, bad' b → Mut loc b := fun b h => h.1
    have hmutlt : ∀ b, Mut loc b → b < w.heap.size := by
      rintro b (h | ⟨k, h⟩)
      · have := (he.bad b h).1; have := he.size; omega
      · exact (he.lies k b h).1
    have hMl : ∀ b, b < w.heap.size → Mut (locOf pb bad') b → Mut loc b := fun b _ hb => by
      rcases mut_locOf.1 hb with h | h
      · exact hbad' b h
      · exact hmemMut b h
    have hg0 : ∀ id ∈ ids, (locOf pb bad').m (idxOf ids id) = loc.m id := by
      intro id hid
      obtain ⟨k, hk, rfl⟩ := List.getElem_of_mem hid
      have : idxOf ids ids[k] = k := idx_get hndp k hk
      rw [this, hpb.at_ k hk (by omega)]
      simp only [locOf]
      rw [List.getElem?_eq_getElem (by omega : k < pb.length)]
    obtain ⟨a1, a2⟩ := renL_get (idxOf ids) args
    have hargs2 : ∀ (j : Nat) (h : j < (renL (idxOf ids) args).length) (h' : j < vs.length), R w (locOf pb bad') (renL (idxOf ids) args)[j] vs[j] := by
      intro j h h'
      rw [a2 j h (by rw [← a1]; exact h)]
      exact ren_on hMl (hargs j (by rw [← a1]; exact h) h') (fun id hid => hg0 id (allIn_mem hain id (idsL_mem.2 ⟨_, List.getElem_mem _, hid⟩)))
    have hpinlies : ∀ (k : Nat) (h : k < pins.length) (h' : k < pb.length), pins[k].ok ∧ Lies w (locOf pb bad') pins[k] pb[k] := by
      intro k h h'
      have hki : k < ids.length := by omega
      obtain ⟨b, blk, q1, q2, q3, q4⟩ := live ids[k] (List.getElem_mem hki)
      have h5 := hpb.at_ k hki h'
      rw [q1] at h5; injection h5 with h5; subst h5
      rw [hpg k hki h blk q2]
      exact ⟨ok_renB q3, lies_renB hMl (fun id hid => hg0 id (pinsIn_mem hpin _ (List.getElem_mem hki) blk q2 id hid)) q4⟩
    have hcall := hS f spec hsf _ pins hsp w bad' pb vs (by omega) hpbn (fun b h => ⟨hmutlt b h.1, h.2⟩) hpinlies (by rw [a1, hlen]) hargs2
    refine hcall.mono ?_
    rintro e w' ⟨v, loc', rfl, hg⟩
    generalize hres : spec (renL (idxOf ids) args) pins = res at *
    classical
    let loc2 : Loc := { m := fun id => if nm ≤ id ∧ id < nm + 8 then loc'.m (ids.length + (id - nm)) else if id ∈ ids then loc'.m (idx id ids) else loc.m id, bad := loc.bad }
    have hidsr : ∀ id ∈ ids, ¬ (nm ≤ id ∧ id < nm + 8) := by
      intro id hid h
      have := hfree id h.1 h.2
      rw [hblk id hid] at this; cases this
    have h2new : ∀ k, ids.length ≤ k → k < ids.length + 8 → loc2.m (nm + (k - ids.length)) = loc'.m k := by
      intro k a b
      simp only [loc2]
      rw [if_pos (by omega)]
      congr 1; omega
    have h2pin : ∀ (k : Nat) (hk : k < ids.length), loc2.m ids[k] = loc'.m k := by
      intro k hk
      simp only [loc2]
      rw [if_neg (hidsr _ (List.getElem_mem hk)), if_pos (List.getElem_mem hk), idx_get hndp k hk]
    have h2old : ∀ id, ¬ (nm ≤ id ∧ id < nm + 8) → ¬ id ∈ ids → loc2.m id = loc.m id := fun id h h' => by
      simp only [loc2]; rw [if_neg h, if_neg h']
    have hblt : ∀ k, loc'.m k ≠ .free → k < res.bl.length := by
      intro k hk
      rcases Nat.lt_or_ge k res.bl.length with h | h
      · exact h
      · exact (hk (hg.none k h)).elim
    have hgm : ∀ k, loc'.m k ≠ .free → loc2.m (gOf ids nm k) = loc'.m k := by
      intro k hk
      by_cases hki : k < ids.length
      · rw [gOf_old hki, h2pin k hki]
      · have := hblt k hk
        rw [gOf_new (by omega)]
        exact h2new k (by omega) (by omega)
    -- what a name stands for
    have hcase : ∀ i b, loc2.m i = .here b → (∃ k, loc'.m k = .here b ∧ i = gOf ids nm k) ∨ (¬ i ∈ ids ∧ ¬ (nm ≤ i ∧ i < nm + 8) ∧ loc.m i = .here b) := by
      intro i b h
      by_cases hr : nm ≤ i ∧ i < nm + 8
      · simp only [loc2] at h
        rw [if_pos hr] at h
        exact .inl ⟨_, h, by rw [gOf_new (by omega)]; omega⟩
      · by_cases hi : i ∈ ids
        · obtain ⟨k, hk, rfl⟩ := List.getElem_of_mem hi
          rw [h2pin k hk] at h
          exact .inl ⟨k, h, by rw [gOf_old hk]⟩
        · exact .inr ⟨hi, hr, by rw [← h2old i hr hi]; exact h⟩
    have hwhere : ∀ k b, loc'.m k = .here b → (b ∈ pb ∨ w.heap.size ≤ b) ∧ b < w'.heap.size := by
      intro k b h
      by_cases hk : k < pb.length
      · rcases hg.old k hk with h1 | h1
        · rw [h] at h1; injection h1 with h1; subst h1
          refine ⟨.inl (List.getElem_mem hk), ?_⟩
          have := hmutlt _ (hmemMut _ (List.getElem_mem hk))
          have := hg.fram.size
          omega
        · rw [h] at h1; cases h1
      · obtain ⟨h1, h2⟩ := hg.new k b (by omega) h
        exact ⟨h1.symm, h2⟩
    have hnotpb : ∀ i b, ¬ i ∈ ids → loc.m i = .here b → ¬ b ∈ pb := by
      intro i b hi h hb
      obtain ⟨id', hid', hb'⟩ := hpb.mem hb
      exact hi (he.inj i id' b h hb' ▸ hid')
    have hbadpb : ∀ b, loc.bad b → ¬ b ∈ pb := by
      intro b h hb
      obtain ⟨id', _, hb'⟩ := hpb.mem hb
      have h1 := he.bad b h
      rcases (he.lies id' b hb').2 with h2 | h2
      · omega
      · exact h1.2 h2
    have hM : ∀ b, b < w'.heap.size → Mut loc2 b → Mut loc' b := by
      rintro b _ (h | ⟨i, h⟩)
      · left
        rw [hg.bad]
        exact ⟨.inl h, hbadpb b h⟩
      · rcases hcase i b h with ⟨k, h1, _⟩ | ⟨h1, h2, h3⟩
        · exact .inr ⟨k, h1⟩
        · left
          rw [hg.bad]
          exact ⟨.inr ⟨i, h3⟩, hnotpb i b h1 h3⟩
    have hwsz := hg.fram.size
    have hext : Ext (fun id => id ∈ ids) w loc w' loc2 := by
      refine ⟨hwsz, fun id h hC => h2old id (fun hq => h (hfree id hq.1 hq.2)) hC, fun id h hC => ?_, fun b hb hm => ⟨?_, fun h => ?_⟩, fun id b hb hC => ?_, fun b cur e fz hc => ?_⟩
      · obtain ⟨k, hk, rfl⟩ := List.getElem_of_mem hC
        rw [h2pin k hk, hpb.at_ k hk (by omega)]
        exact hg.old k (by omega)
      · exact hg.fram.same b hb (fun h => hm (hmemMut b h))
      · rcases h with h | ⟨i, h⟩
        · exact hm (.inl h)
        · rcases hcase i b h with ⟨k, h1, _⟩ | ⟨_, _, h3⟩
          · rcases (hwhere k b h1).1 with h2 | h2
            · exact hm (hmemMut b h2)
            · omega
          · exact hm (.inr ⟨i, h3⟩)
      · exact hg.fram.same b (he.lies id b hb).1 (hnotpb id b hC hb)
      · by_cases hbp : b ∈ pb
        · exact hg.fram.shape b cur e fz hbp hc
        · exact ⟨cur, fz, (hg.fram.same b (Array.getElem?_eq_some_iff.1 hc).1 hbp).trans hc, rfl⟩
    have hr : R w' loc2 (res.x.ren (gOf ids nm)) v := ren_sound hgm hg.r (.inr hM)
    have hh2 : HR w' loc2 (backO (gOf ids nm) H 0 res.bl) := by
      intro id b hb
      rcases look_backO res.bl 0 id hb with ⟨j, hj, h1, h2, h3⟩ | ⟨h1, h2⟩
      · rw [Nat.zero_add] at h1
        rcases hg.bl j hj with ⟨k1, _⟩ | ⟨k1, k2, k3⟩
        · rw [k1] at h2; cases h2
        · have := hgm j k2
          rw [h1] at this
          unfold BlkR at k1 ⊢
          rw [this, ← h3]
          cases hloc : loc'.m j with
          | free => trivial
          | dead => exact (k3 hloc).elim
          | nil => rw [hloc] at k1; exact ⟨ok_renB k1.1, by rw [len_renB]; exact k1.2⟩
          | here c => rw [hloc] at k1; exact ⟨ok_renB k1.1, lies_renB hM (fun id' hid' => hgm id' (lies_live k1.2 id' hid')) k1.2⟩
      · have hni : ¬ id ∈ ids := by
          intro hid
          obtain ⟨k, hk, rfl⟩ := List.getElem_of_mem hid
          refine h2 k (by omega) ?_
          rw [Nat.zero_add, gOf_old hk]
        by_cases hfr : loc.m id = .free
        · by_cases hk : nm ≤ id ∧ id < nm + 8
          · have hnone : loc'.m (ids.length + (id - nm)) = .free := by
              refine hg.none _ ?_
              rcases Nat.lt_or_ge (ids.length + (id - nm)) res.bl.length with h | h
              · exfalso
                refine h2 _ h ?_
                rw [Nat.zero_add, gOf_new (by omega)]; omega
              · exact h
            exact BlkR.free (by simp only [loc2]; rw [if_pos hk]; exact hnone)
          · exact BlkR.free (by rw [h2old id hk hni]; exact hfr)
        · exact (hh id b h1).ext hext hni hfr
    have hE9 : ∀ id b, id ∈ ids → loc.m id = .here b → b < w'.heap.size ∧ (w0.heap.size ≤ b ∨ E b) := by
      intro id b _ h
      have := he.lies id b h
      exact ⟨by omega, this.2⟩
    have henv : Env w0 E w' loc2 := by
      refine ⟨hg.fram.os.trans he.os, hg.fram.tape.trans he.tape, hg.fram.output.trans he.output, by have := he.size; omega, fun b hb hE => ?_, ?_, ?_, he.bad⟩
      · rw [hg.fram.same b (by have := he.size; omega) (fun h => ?_)]
        · exact he.same b hb hE
        · obtain ⟨id, _, hid⟩ := hpb.mem h
          rcases (he.lies id b hid).2 with h | h
          · omega
          · exact hE h
      · intro i j b hi hj
        rcases hcase i b hi with ⟨k1, h1, e1⟩ | ⟨h1, _, h3⟩
        · rcases hcase j b hj with ⟨k2, h2, e2⟩ | ⟨h2, _, h4⟩
          · have := hg.inj k1 k2 b h1 h2
            rw [e1, e2, this]
          · exfalso
            rcases (hwhere k1 b h1).1 with h5 | h5
            · exact hnotpb j b h2 h4 h5
            · have := (he.lies j b h4).1; omega
        · rcases hcase j b hj with ⟨k2, h2, e2⟩ | ⟨h2, _, h4⟩
          · exfalso
            rcases (hwhere k2 b h2).1 with h5 | h5
            · exact hnotpb i b h1 h3 h5
            · have := (he.lies i b h3).1; omega
          · exact he.inj i j b h3 h4
      · intro i b hi
        rcases hcase i b hi with ⟨k1, h1, _⟩ | ⟨_, _, h3⟩
        · obtain ⟨h5, h6⟩ := hwhere k1 b h1
          refine ⟨h6, ?_⟩
          rcases h5 with h5 | h5
          · obtain ⟨id, _, hid⟩ := hpb.mem h5
            exact (he.lies id b hid).2
          · exact .inl (by have := he.size; omega)
        · have := he.lies i b h3
          exact ⟨by omega, this.2⟩
    have hfresh : ∀ id, loc.m id = .free → loc2.m id ≠ .free → nm ≤ id ∧ id < nm + 8 := by
      intro id h1 h2
      by_cases hk : nm ≤ id ∧ id < nm + 8
      · exact hk
      · refine (h2 ?_).elim
        rw [h2old id hk (fun hid => by rw [hblk id hid] at h1; cases h1)]
        exact h1
    exact ⟨v, loc2, rfl, ⟨hr, hh2, henv, ⟨_, hext, fun h => by cases h⟩, hfresh, rfl⟩⟩
end Ax
end Go.Proofs.Ytlbdhkgjhjcgiaa

/- A function whose pins may reach each other. -/
namespace Go.Proofs.Ytlbdhkgjhjcgiaa
namespace Ax
open Go.RowKit
set_option linter.unusedSimpArgs false
set_option linter.unusedVariables false

def idsAt (H : Heap) (id : Nat) : List Nat := match look H id with
  | some b => b.idsB
  | none => []
def idsAtL (H : Heap) : List Nat → List Nat
  | [] => []
  | id :: r => idsAt H id ++ idsAtL H r
def reachE (H : Heap) : Nat → List Nat → List Nat → List Nat
  | 0, acc, _ => acc
  | _ + 1, acc, [] => acc
  | n + 1, acc, id :: r => bif acc.contains id then reachE H n acc r else reachE H n (acc ++ [id]) (r ++ idsAt H id)
def endIds (H : Heap) (pins : List Blk) (x : AV) : List Nat := reachE H 12 (upTo 0 pins) (x.ids ++ idsAtL H (upTo 0 pins))
def walkI (H : Heap) : List Nat → List Nat → Bool
  | _, [] => true
  | good, id :: r => good.contains id && walkI H (good ++ idsAt H id) r
def matchE (g : Nat → Nat) (H : Heap) : Nat → List Nat → List Blk → Prop
  | _, [], [] => True
  | m, id :: r, b :: bl => (match look H id with
    | some c => b.isGone = false ∧ b.renB g = c
    | none => 0 < m ∧ b = gone) ∧ matchE g H (m - 1) r bl
  | _, _, _ => False
def EndsXO (pins : List Blk) (q : Res) (x : AV) (σ : ASt) : Prop :=
  nodup (endIds σ.H pins x) = true ∧ (endIds σ.H pins x).take pins.length = upTo 0 pins ∧ walkI σ.H (upTo 0 pins ++ x.ids) (endIds σ.H pins x) = true ∧
    matchE (gOf (endIds σ.H pins x) σ.nx) σ.H pins.length (endIds σ.H pins x) q.bl ∧ q.x.ren (gOf (endIds σ.H pins x) σ.nx) = x
def EndsO (T : Types) (rs : List ResultVar) (pins : List Blk) (q : Res) : Exit → ASt → Prop
  | .normal, σ => (rvals T σ.H σ.sl rs).1 ∧ EndsXO pins q (rone (rvals T σ.H σ.sl rs).2) σ
  | .ret, σ => (rvals T σ.H σ.sl rs).1 ∧ EndsXO pins q (rone (rvals T σ.H σ.sl rs).2) σ
  | _, _ => False
def EndsWO (T : Types) (rs : List ResultVar) (pins : List Blk) (q : Res) : Exit → ASt → Prop := fun e σ => ∃ σ', Weak σ σ' ∧ EndsO T rs pins q e σ'

theorem idsB_nil {b : Blk} (h : b.len = 0) : b.idsB = [] := by
  unfold Blk.idsB
  cases hc : b.closed with
  | true => rfl
  | false =>
    cases b with
    | g s xs =>
      have : xs = [] := List.eq_nil_of_length_eq_zero h
      subst this; rfl
    | _ => rfl
theorem walkI_live {w : World} {loc : Loc} {H : Heap} (hh : HR w loc H) : ∀ (ids good : List Nat), walkI H good ids = true → (∀ id ∈ good, loc.m id ≠ .free) → ∀ id ∈ ids, loc.m id ≠ .free
  | [], _, _, _, id, hid => by simp at hid
  | k :: r, good, hw, hg, id, hid => by
    simp only [walkI, Bool.and_eq_true] at hw
    have hk : k ∈ good := List.contains_iff_mem.1 hw.1
    rcases List.mem_cons.1 hid with rfl | hid
    · exact hg _ hk
    · refine walkI_live hh r _ hw.2 (fun id' hid' => ?_) id hid
      rcases List.mem_append.1 hid' with h | h
      · exact hg id' h
      · unfold idsAt at h
        cases hl : look H k with
        | none => rw [hl] at h; simp at h
        | some b =>
          rw [hl] at h
          simp only at h
          obtain ⟨hok, ⟨_, e⟩ | ⟨c, hc, hlies⟩⟩ := hh.get hl (hg k hk)
          · rw [idsB_nil e] at h; simp at h
          · exact lies_live hlies id' h
theorem matchE_get {g : Nat → Nat} {H : Heap} : ∀ {m : Nat} {ids : List Nat} {bl : List Blk}, matchE g H m ids bl → bl.length = ids.length ∧ ∀ (k : Nat) (h : k < ids.length) (h' : k < bl.length), (∃ c, look H ids[k] = some c ∧ bl[k].isGone = false ∧ bl[k].renB g = c) ∨ (look H ids[k] = none ∧ k < m ∧ bl[k] = gone)
  | m, [], [], _ => ⟨rfl, fun k h => by simp at h⟩
  | m, [], _ :: _, h => h.elim
  | m, _ :: _, [], h => h.elim
  | m, id :: r, b :: bl, h => by
    simp only [matchE] at h
    obtain ⟨h1, h2⟩ := matchE_get h.2
    refine ⟨by simp [h1], fun k a a' => ?_⟩
    cases k with
    | zero =>
      simp only [List.getElem_cons_zero]
      cases hl : look H id with
      | none => rw [hl] at h; exact .inr ⟨rfl, h.1.1, h.1.2⟩
      | some c => rw [hl] at h; exact .inl ⟨c, rfl, h.1.1, h.1.2⟩
    | succ k =>
      simp only [List.getElem_cons_succ]
      rcases h2 k (by simpa using a) (by simpa using a') with h3 | ⟨h3, h4, h5⟩
      · exact .inl h3
      · exact .inr ⟨h3, by omega, h5⟩
theorem ok_unrenB {g : Nat → Nat} {b : Blk} (h : (b.renB g).ok) : b.ok := by
  unfold Blk.renB at h
  cases hc : b.closed with
  | true => rw [hc] at h; exact h
  | false => rw [hc] at h; exact ok_ren h
theorem lies_unrenB {w : World} {loc loc2 : Loc} {g : Nat → Nat} (hg : ∀ k, loc2.m k = loc.m (g k)) (hb : loc2.bad = loc.bad) {blk : Blk} {b : Nat} (h : Lies w loc (blk.renB g) b) : Lies w loc2 blk b := by
  unfold Blk.renB at h
  cases hc : blk.closed with
  | true =>
    rw [hc] at h
    refine lies_move h hc (.inr ?_)
    rintro c _ (h | ⟨i, h⟩)
    · exact .inl (hb ▸ h)
    · exact .inr ⟨g i, (hg i) ▸ h⟩
  | false => rw [hc] at h; exact lies_unren hg hb h

theorem sound_genO {P : Program} {T : Types} (hT : TOk P T) {f : FuncId} {fn : Func} {c : Code} (hf : P.funcs[f]? = some fn) (hb : fn.body = some c) {spec : FSpec} {Qp : List AV → List Blk → Exit → ASt → Prop}
    (hqp : ∀ xs pins e σ, Qp xs pins e σ → ∃ σ', Weak σ σ' ∧ EndsO T fn.results.toList pins (spec xs pins) e σ')
    (h : ∀ xs pins, (spec xs pins).p → pins.length ≤ 4 ∧ ∀ w0 E B a w, Rel w0 E B ⟨xs ++ List.replicate (fn.ntmps - xs.length) .junk, pinHeap 0 pins, 4⟩ a w → c.wp P (Low w0 E B (Qp xs pins)) a w)   : SoundO P f spec := by
  intro xs pins hp w bad pb vs hlen hnd hbad hlies hxl hx
  obtain ⟨hp4, h⟩ := h xs pins hp
  refine calls_of_wp hf hb ?_
  have hrel : Rel w (· ∈ pb) ⟨bad, pb⟩ ⟨xs ++ List.replicate (fn.ntmps - xs.length) .junk, pinHeap 0 pins, 4⟩ { tmps := vs.toArray ++ Array.replicate (fn.ntmps - vs.toArray.size) undef, defers := [] } w := by
    refine ⟨locOf pb bad, ⟨⟨rfl, fun k hk cur e fz hh => ⟨cur, fz, hh, rfl⟩⟩, by simp only; omega, fun k hk => .inr ⟨by simp [locOf, List.getElem?_eq_getElem hk], fun cur e fz hh => ⟨cur, fz, hh, rfl⟩⟩⟩, ?_⟩
    refine ⟨by simp [hxl], fun t => ?_, ?_, ?_, ?_, rfl, fun id b hl => ?_⟩
    · simp only
      rw [slot_getD]
      by_cases ht : t < xs.length
      · have e1 : (xs ++ List.replicate (fn.ntmps - xs.length) AV.junk).getD t .junk = xs[t] := by simp [List.getElem?_append_left, ht]
        have e2 : (vs.toArray ++ Array.replicate (fn.ntmps - vs.toArray.size) undef).getD t undef = vs[t]'(by omega) := by
          have : t < vs.length := by omega
          simp [Array.getD_eq_getD_getElem?, Array.getElem?_append, this]
        rw [e1, e2]
        exact hx t ht _
      · have e1 : (xs ++ List.replicate (fn.ntmps - xs.length) AV.junk).getD t .junk = .junk := by
          rw [List.getD_eq_getElem?_getD, List.getElem?_append_right (by omega), List.getElem?_replicate]
          split <;> rfl
        rw [e1]; exact .junk _
    · intro id b hl
      obtain ⟨j, hj, rfl, rfl⟩ := pinHeap_look pins 0 id b hl
      have hj' : j < pb.length := by omega
      unfold BlkR
      have : (locOf pb bad).m (0 + j) = .here pb[j] := by simp [locOf, List.getElem?_eq_getElem hj']
      rw [this]
      exact hlies j hj hj'
    · refine ⟨rfl, rfl, rfl, Nat.le_refl _, fun _ _ _ => rfl, ?_, ?_, ?_⟩
      · intro i j b hi hj
        obtain ⟨h1, h2⟩ := locOf_at hi
        obtain ⟨h3, h4⟩ := locOf_at hj
        exact nodup_inj hnd (h2.trans h4.symm)
      · intro i b hi
        obtain ⟨h1, h2⟩ := locOf_at hi
        subst h2
        refine ⟨?_, .inr (List.getElem_mem h1)⟩
        obtain ⟨ob, hh⟩ := lies_live2 (hlies i (by omega) h1).2
        rcases Nat.lt_or_ge pb[i] w.heap.size with h' | h'
        · exact h'
        · rw [Array.getElem?_eq_none h'] at hh; cases hh
      · exact fun b hb => hbad b hb
    · intro id hid
      simp only at hid
      have : pb[id]? = none := List.getElem?_eq_none (by omega)
      simp [locOf, this]
    · obtain ⟨j, hj, rfl, _⟩ := pinHeap_look pins 0 id b hl
      simp; omega
  refine wp_mono (h _ _ _ _ w hrel) ?_
  have main : ∀ a w' σ, Rel w (· ∈ pb) ⟨bad, pb⟩ σ a w' → (rvals T σ.H σ.sl fn.results.toList).1 ∧ EndsXO pins (spec xs pins) (rone (rvals T σ.H σ.sl fn.results.toList).2) σ →
      a.defers = [] ∧ ∃ v, (results fn a.tmps).run P w' = .ok v w' ∧ ∃ v' loc', Ending.returned v = .returned v' ∧ GivesO w bad pb (spec xs pins) v' w' loc' := by
    rintro a w' σ ⟨loc, hB, hr⟩ ⟨hrv, hnodup, htake, hwalk, hmatch, hren⟩
    obtain ⟨v, hv, hR⟩ := results_R (P := P) (fn := fn) hT hr.heap hr.slots hrv
    refine ⟨hr.defers, v, hv, v, ?_⟩
    generalize rone (rvals T σ.H σ.sl fn.results.toList).2 = x at hnodup htake hwalk hmatch hren hR
    have hnd' := nodup_iff hnodup
    obtain ⟨hu1, hu2⟩ := upTo_get pins 0
    generalize hids : endIds σ.H pins x = ids at hnodup htake hwalk hmatch hren hnd'
    obtain ⟨hml, hmg⟩ := matchE_get hmatch
    have hm : pins.length ≤ ids.length := by
      have := congrArg List.length htake
      rw [List.length_take, hu1] at this; omega
    have hold : ∀ k, (hk : k < pins.length) → ids[k]'(by omega) = k := by
      intro k hk
      have h1 : (ids.take pins.length)[k]'(by rw [List.length_take]; omega) = ids[k]'(by omega) := List.getElem_take
      have h2 : (ids.take pins.length)[k]'(by rw [List.length_take]; omega) = (upTo 0 pins)[k]'(by omega) := by congr 1
      rw [← h1, h2, hu2 k (by omega)]; omega
    have hpinlive : ∀ k, k < pins.length → loc.m k ≠ .free := by
      intro k hk
      have hk' : k < pb.length := by omega
      rcases hB.2.2 k hk' with h1 | ⟨h1, _⟩ <;> rw [h1] <;> simp
    have hliveAll := walkI_live hr.heap ids (upTo 0 pins ++ x.ids) hwalk (fun id hid => by
      rcases List.mem_append.1 hid with h | h
      · obtain ⟨j, hj, rfl⟩ := List.getElem_of_mem h
        rw [hu2 j hj, Nat.zero_add]; exact hpinlive j (by omega)
      · exact ids_live x v hR h)
    have hlive : ∀ (k : Nat) (hk : k < ids.length), loc.m ids[k] ≠ .free := fun k hk => hliveAll _ (List.getElem_mem hk)
    classical
    -- what was given up is forgotten
    let C : Nat → Prop := fun id => id < pins.length ∧ look σ.H id = none ∧ loc.m id ≠ .free
    let loc1 : Loc := { m := fun id => if C id then .dead else loc.m id, bad := loc.bad }
    have h1out : ∀ id, ¬ C id → loc1.m id = loc.m id := fun id h => by simp only [loc1]; rw [if_neg h]
    have h1in : ∀ id, C id → loc1.m id = .dead := fun id h => by simp only [loc1]; rw [if_pos h]
    have h1here : ∀ id b, loc1.m id = .here b → loc.m id = .here b ∧ ¬ C id := by
      intro id b h
      by_cases hC : C id
      · rw [h1in id hC] at h; cases h
      · exact ⟨by rw [← h1out id hC]; exact h, hC⟩
    have hM1 : ∀ b, Mut loc1 b → Mut loc b := by
      rintro b (h | ⟨k, h⟩)
      · exact .inl h
      · exact .inr ⟨k, (h1here k b h).1⟩
    have hE1 : Ext C w' loc w' loc1 := ⟨Nat.le_refl _, fun id _ h => h1out id h, fun id _ h => .inr (h1in id h), fun b _ hm => ⟨rfl, fun h => hm (hM1 b h)⟩, fun _ _ _ _ => rfl, fun _ cur _ fz h => ⟨cur, fz, h, rfl⟩⟩
    let g : Nat → Nat := gOf ids σ.nx
    have hgo : ∀ k, (hk : k < ids.length) → g k = ids[k] := fun k hk => gOf_old hk
    have hgn : ∀ k, ids.length ≤ k → loc1.m (g k) = .free := by
      intro k hk
      have h0 : loc.m (g k) = .free := by
        refine hr.fresh _ ?_
        show σ.nx ≤ gOf _ σ.nx k
        rw [gOf_new hk]; omega
      rw [h1out _ (fun h => h.2.2 h0)]; exact h0
    let loc' : Loc := { m := fun k => loc1.m (g k), bad := loc.bad }
    have hlt : ∀ i b, loc'.m i = .here b → i < ids.length := by
      intro i b hi
      rcases Nat.lt_or_ge i ids.length with h' | h'
      · exact h'
      · have : loc'.m i = .free := hgn i h'
        rw [this] at hi; cases hi
    have hinj : ∀ i j b, loc'.m i = .here b → loc'.m j = .here b → i = j := by
      intro i j b hi hj
      have h1 := hlt i b hi
      have h2 := hlt j b hj
      have h3 : g i = g j := hr.env.inj (g i) (g j) b (h1here _ _ hi).1 (h1here _ _ hj).1
      rw [hgo i h1, hgo j h2] at h3
      exact nodup_inj hnd' h3
    refine ⟨loc', rfl, ?_⟩
    refine ⟨unren (loc := loc1) (loc2 := loc') (g := g) (fun _ => rfl) rfl (hR.ext hE1) _ hren, hB.1.1, ?_, ?_, ?_, ?_, hinj, ?_⟩
    · intro k hk
      have hk' : k < ids.length := by omega
      have e : loc'.m k = loc1.m ids[k] := by show loc1.m (g k) = _; rw [hgo k hk']
      rcases hmg k hk' hk with ⟨c, q1, q2, q3⟩ | ⟨q1, q2, q3⟩
      · right
        have hnC : ¬ C ids[k] := fun h => by rw [h.2.1] at q1; cases q1
        have hb := hr.heap _ _ q1
        rw [e, h1out _ hnC]
        refine ⟨?_, hlive k hk', fun hd => by unfold BlkR at hb; rw [hd] at hb; exact hb⟩
        unfold BlkR at hb ⊢
        rw [e, h1out _ hnC]
        split
        · trivial
        · rename_i e'; rw [e'] at hb; exact hb
        · rename_i e'; rw [e'] at hb
          rw [← q3] at hb
          exact ⟨ok_unrenB hb.1, by rw [← len_renB (g := g)]; exact hb.2⟩
        · rename_i b e'
          rw [e'] at hb
          rw [← q3] at hb
          have h9 : Lies w' loc1 ((spec xs pins).bl[k].renB g) b := by
            have := (BlkR.ext hE1 hnC (hlive k hk') (hr.heap _ _ q1))
            unfold BlkR at this
            rw [h1out _ hnC, e'] at this
            rw [q3]; exact this.2
          exact ⟨ok_unrenB hb.1, lies_unrenB (loc := loc1) (loc2 := loc') (g := g) (fun _ => rfl) rfl h9⟩
      · left
        have hkp : k < pins.length := q2
        have hC : C ids[k] := ⟨by rw [hold k hkp]; exact hkp, q1, hlive k hk'⟩
        exact ⟨by rw [q3]; rfl, by rw [e]; exact h1in _ hC⟩
    · intro k hk
      have hk1 : k < pins.length := by omega
      have e : loc'.m k = loc1.m k := by show loc1.m (g k) = _; rw [hgo k (by omega), hold k hk1]
      rw [e]
      by_cases hC : C k
      · exact .inr (h1in k hC)
      · rw [h1out k hC]
        rcases hB.2.2 k hk with h1 | ⟨h1, _⟩
        · exact .inr h1
        · exact .inl h1
    · intro k b hk hkb
      have := hr.env.lies (g k) b (h1here _ _ hkb).1
      exact ⟨this.2, this.1⟩
    · intro k hk
      exact hgn k (by omega)
    · refine ⟨hr.env.os, hr.env.tape, hr.env.output, hr.env.size, hr.env.same, ?_⟩
      rintro b cur e fz hb hh
      obtain ⟨j, hj, rfl⟩ := List.getElem_of_mem hb
      exact hB.1.2 j hj cur e fz hh
  rintro e a w' ⟨σ0, hr0, hq0⟩
  obtain ⟨σ, hwk, hq⟩ := hqp xs pins e σ0 hq0
  have hr := hwk _ _ _ _ _ hr0
  cases e with
  | normal => exact main a w' σ hr hq
  | ret => exact main a w' σ hr hq
  | _ => exact hq.elim


end Ax
end Go.Proofs.Ytlbdhkgjhjcgiaa
