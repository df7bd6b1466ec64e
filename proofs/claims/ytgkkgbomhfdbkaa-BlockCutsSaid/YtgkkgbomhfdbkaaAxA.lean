/- Abstract values for the walk: what a slot holds, said of data; how such a value stands to a value of the model in a world. Nothing here names a program. -/
import Derived.WalkKit
import Derived.WalkSpells
namespace Go.Proofs.Ytgkkgbomhfdbkaa
namespace Ax

/-- What becomes of a block that the call may write: its number is not given yet; it is given up; it is a nil slice's; it lies at a block. -/
inductive L where
  | free
  | dead
  | nil
  | here (b : Nat)

/-- Where the call's own blocks lie; 'bad': blocks that others may write. -/
structure Loc where
  m : Nat → L
  bad : Nat → Prop

def one : Value → Bool
  | .agg _ => false
  | .tuple _ => false
  | _ => true

inductive AV where
  | w (v : Value)
  | str (bs : List UInt8)
  | agg (xs : List AV)
  | tup (xs : List AV)
  | sb (bs : List UInt8) (full : Bool)
  | si (ns : List Int) (full : Bool)
  | sg (s : Nat) (xs : List AV) (full : Bool)
  | cp (ls : List AV)
  | ms (id s off len : Nat)
  | rf (id s i f : Nat)
  | fn (f : FuncId) (caps : List AV)
  | junk

def AV.leaves : AV → List AV
  | .agg xs => xs
  | a => [a]

/-- A value that fills one cell. -/
def AV.leaf : AV → Bool
  | .agg _ => false
  | .tup _ => false
  | .junk => false
  | .w v => one v
  | _ => true

mutual
/-- No block of the call's own is reached. -/
def AV.closed : AV → Bool
  | .agg xs => closedL xs
  | .tup xs => closedL xs
  | .fn _ cs => closedL cs
  | .ms _ _ _ _ => false
  | .rf _ _ _ _ => false
  | _ => true
def closedL : List AV → Bool
  | [] => true
  | x :: xs => x.closed && closedL xs
end

mutual
/-- No memory is reached at all. -/
def AV.plain : AV → Bool
  | .agg xs => plainL xs
  | .tup xs => plainL xs
  | .fn _ cs => plainL cs
  | .ms _ _ _ _ => false
  | .rf _ _ _ _ => false
  | .sb bs _ => bs.isEmpty
  | .si ns _ => ns.isEmpty
  | .sg _ xs _ => xs.isEmpty
  | .cp _ => false
  | _ => true
def plainL : List AV → Bool
  | [] => true
  | x :: xs => x.plain && plainL xs
end

theorem closedL_get {xs : List AV} (h : closedL xs = true) (j : Nat) (hj : j < xs.length) : xs[j].closed = true := by
  induction xs generalizing j with
  | nil => simp at hj
  | cons x r ih =>
    simp only [closedL, Bool.and_eq_true] at h
    cases j with
    | zero => exact h.1
    | succ j => exact ih h.2 j (by simpa using hj)

theorem plainL_get {xs : List AV} (h : plainL xs = true) (j : Nat) (hj : j < xs.length) : xs[j].plain = true := by
  induction xs generalizing j with
  | nil => simp at hj
  | cons x r ih =>
    simp only [plainL, Bool.and_eq_true] at h
    cases j with
    | zero => exact h.1
    | succ j => exact ih h.2 j (by simpa using hj)

def byte (b : UInt8) : Value := .int .u8 b.toNat
def word (n : Int) : Value := .int .i64 n

def Mut (loc : Loc) (b : Nat) : Prop := loc.bad b ∨ ∃ id, loc.m id = .here b

/-- The cells of a slice that nobody writes any more. -/
structure Cells (w : World) (loc : Loc) (a : Option Addr) (cs : List Value) : Prop where
  lies : cs = [] ∨ ∃ b o, a = some ⟨b, o, none⟩ ∧ ¬ Mut loc b ∧ b < w.heap.size ∧ ∀ (j : Nat) (h : j < cs.length), w.cell? ⟨b, o + j, none⟩ = some cs[j]

structure Dim (n cap : Nat) (full : Bool) : Prop where
  le : n ≤ cap
  top : cap ≤ maxLen
  full : full = true → cap = n

/-- A slice in a block that the call may write. -/
def Owns (w : World) (loc : Loc) (id s off len : Nat) (v : Value) : Prop :=
  match loc.m id with
  | .free => False
  | .dead => one v = true
  | .nil => len = 0 ∧ ∃ a, v = .slice a 0 0
  | .here b => ∃ o cap cur e fz, v = .slice (some ⟨b, o, none⟩) len cap ∧ (0 < cap → o = off * s) ∧ w.heap[b]? = some (.cells cur e fz) ∧ (off + cap) * s ≤ cur.size ∧ len ≤ cap ∧ cap ≤ maxLen

def Points (loc : Loc) (id s i f : Nat) (v : Value) : Prop :=
  match loc.m id with
  | .free => False
  | .dead => one v = true
  | .nil => False
  | .here b => v = .pointer (some ⟨b, i * s + f, none⟩)

inductive R (w : World) (loc : Loc) : AV → Value → Prop where
  | w (v : Value) (h : one v = true) : R w loc (.w v) v
  | str (bs : List UInt8) : R w loc (.str bs) (.string ⟨bs.toArray⟩)
  | agg (xs : List AV) (cs : List Value) (hl : xs.length = cs.length) (hx : ∀ (j : Nat) (h : j < xs.length), xs[j].leaf = true) (h : ∀ (j : Nat) (h : j < xs.length) (h' : j < cs.length), R w loc xs[j] cs[j]) : R w loc (.agg xs) (.agg cs.toArray)
  | tup (xs : List AV) (cs : List Value) (hl : xs.length = cs.length) (h : ∀ (j : Nat) (h : j < xs.length) (h' : j < cs.length), R w loc xs[j] cs[j]) : R w loc (.tup xs) (.tuple cs.toArray)
  | sb (bs : List UInt8) (full : Bool) (a : Option Addr) (cap : Nat) (hd : Dim bs.length cap full) (hc : Cells w loc a (bs.map byte)) : R w loc (.sb bs full) (.slice a bs.length cap)
  | si (ns : List Int) (full : Bool) (a : Option Addr) (cap : Nat) (hd : Dim ns.length cap full) (hc : Cells w loc a (ns.map word)) : R w loc (.si ns full) (.slice a ns.length cap)
  | sg (s : Nat) (xs : List AV) (full : Bool) (a : Option Addr) (cap : Nat) (cs : List Value) (hd : Dim xs.length cap full) (hs : ∀ x ∈ xs, x.leaves.length = s) (hc : Cells w loc a cs)
      (hl : (xs.flatMap AV.leaves).length = cs.length) (hx : ∀ (j : Nat) (h : j < (xs.flatMap AV.leaves).length), (xs.flatMap AV.leaves)[j].leaf = true ∧ (xs.flatMap AV.leaves)[j].closed = true)
      (h : ∀ (j : Nat) (h : j < (xs.flatMap AV.leaves).length) (h' : j < cs.length), R w loc (xs.flatMap AV.leaves)[j] cs[j]) : R w loc (.sg s xs full) (.slice a xs.length cap)
  | cp (ls : List AV) (a : Addr) (cs : List Value) (hc : Cells w loc (some a) cs) (hn : cs ≠ []) (hl : ls.length = cs.length) (hx : ∀ (j : Nat) (h : j < ls.length), ls[j].leaf = true ∧ ls[j].closed = true)
      (h : ∀ (j : Nat) (h : j < ls.length) (h' : j < cs.length), R w loc ls[j] cs[j]) : R w loc (.cp ls) (.pointer (some a))
  | ms (id s off len : Nat) (v : Value) (h : Owns w loc id s off len v) : R w loc (.ms id s off len) v
  | rf (id s i f : Nat) (v : Value) (h : Points loc id s i f v) : R w loc (.rf id s i f) v
  | fn (f : FuncId) (caps : List AV) (cs : List Value) (hl : caps.length = cs.length) (h : ∀ (j : Nat) (h : j < caps.length) (h' : j < cs.length), R w loc caps[j] cs[j]) : R w loc (.fn f caps) (.func (.func f) #[] cs.toArray)
  | junk (v : Value) : R w loc .junk v

theorem Owns.one {w : World} {loc : Loc} {id s off len : Nat} {v : Value} (h : Owns w loc id s off len v) : Ax.one v = true := by
  unfold Owns at h
  split at h
  · exact h.elim
  · exact h
  · obtain ⟨_, _, rfl⟩ := h; rfl
  · obtain ⟨_, _, _, _, _, rfl, _⟩ := h; rfl

theorem Points.one {loc : Loc} {id s i f : Nat} {v : Value} (h : Points loc id s i f v) : Ax.one v = true := by
  unfold Points at h
  split at h
  · exact h.elim
  · exact h
  · exact h.elim
  · subst h; rfl

/-- What a step may do: to ids of C anything; nothing else turns; new ids lie in new blocks. -/
structure Ext (C : Nat → Prop) (w : World) (loc : Loc) (w' : World) (loc' : Loc) : Prop where
  size : w.heap.size ≤ w'.heap.size
  keep : ∀ id, loc.m id ≠ .free → ¬ C id → loc'.m id = loc.m id
  gone : ∀ id, loc.m id ≠ .free → C id → loc'.m id = loc.m id ∨ loc'.m id = .dead
  imm : ∀ b, b < w.heap.size → ¬ Mut loc b → w'.heap[b]? = w.heap[b]? ∧ ¬ Mut loc' b
  own : ∀ id b, loc.m id = .here b → ¬ C id → w'.heap[b]? = w.heap[b]?
  shape : ∀ id b cur e fz, loc.m id = .here b → w.heap[b]? = some (.cells cur e fz) → ∃ cur' fz', w'.heap[b]? = some (.cells cur' e fz') ∧ cur'.size = cur.size

theorem Cells.ext {C : Nat → Prop} {w w' : World} {loc loc' : Loc} (hE : Ext C w loc w' loc') {a : Option Addr} {cs : List Value} (h : Cells w loc a cs) : Cells w' loc' a cs := by
  obtain h | ⟨b, o, rfl, hm, hb, hc⟩ := h.lies
  · exact ⟨.inl h⟩
  · obtain ⟨hh, hm'⟩ := hE.imm b hb hm
    exact ⟨.inr ⟨b, o, rfl, hm', Nat.lt_of_lt_of_le hb hE.size, fun j hj => (World.cell?_of_block (w := w) hh).trans (hc j hj)⟩⟩

theorem Owns.ext {C : Nat → Prop} {w w' : World} {loc loc' : Loc} (hE : Ext C w loc w' loc') {id s off len : Nat} {v : Value} (h : Owns w loc id s off len v) : Owns w' loc' id s off len v := by
  have hf : loc.m id ≠ .free := by intro e; simp [Owns, e] at h
  have hor : loc'.m id = loc.m id ∨ loc'.m id = .dead := by
    by_cases hC : C id
    · exact hE.gone id hf hC
    · exact .inl (hE.keep id hf hC)
  obtain e | e := hor
  · unfold Owns at h ⊢
    rw [e]
    split
    · rename_i e'; exact (hf e').elim
    · rename_i e'; rw [e'] at h; exact h
    · rename_i e'; rw [e'] at h; exact h
    · rename_i b e'
      rw [e'] at h
      obtain ⟨o, cap, cur, el, fz, rfl, ho, hh, hsz, hle, htop⟩ := h
      obtain ⟨cur', fz', hh', hs'⟩ := hE.shape id b cur el fz e' hh
      exact ⟨o, cap, cur', el, fz', rfl, ho, hh', by omega, hle, htop⟩
  · have h1 := h.one
    simpa [Owns, e] using h1

theorem Points.ext {C : Nat → Prop} {w w' : World} {loc loc' : Loc} (hE : Ext C w loc w' loc') {id s i f : Nat} {v : Value} (h : Points loc id s i f v) : Points loc' id s i f v := by
  have hf : loc.m id ≠ .free := by intro e; simp [Points, e] at h
  have hor : loc'.m id = loc.m id ∨ loc'.m id = .dead := by
    by_cases hC : C id
    · exact hE.gone id hf hC
    · exact .inl (hE.keep id hf hC)
  obtain e | e := hor
  · unfold Points at h ⊢; rw [e]; exact h
  · have h1 := h.one
    simpa [Points, e] using h1

theorem R.ext {C : Nat → Prop} {w w' : World} {loc loc' : Loc} (hE : Ext C w loc w' loc') {x : AV} {v : Value} (h : R w loc x v) : R w' loc' x v := by
  induction h with
  | w v h => exact .w v h
  | str bs => exact .str bs
  | agg xs cs hl hx _ ih => exact .agg xs cs hl hx ih
  | tup xs cs hl _ ih => exact .tup xs cs hl ih
  | sb bs full a cap hd hc => exact .sb bs full a cap hd (hc.ext hE)
  | si ns full a cap hd hc => exact .si ns full a cap hd (hc.ext hE)
  | sg s xs full a cap cs hd hs hc hl hx _ ih => exact .sg s xs full a cap cs hd hs (hc.ext hE) hl hx ih
  | cp ls a cs hc hn hl hx _ ih => exact .cp ls a cs (hc.ext hE) hn hl hx ih
  | ms id s off len v h => exact .ms id s off len v (h.ext hE)
  | rf id s i f v h => exact .rf id s i f v (h.ext hE)
  | fn f caps cs hl _ ih => exact .fn f caps cs hl ih
  | junk v => exact .junk v

theorem Cells.move {w : World} {loc loc' : Loc} (hM : ∀ b, b < w.heap.size → Mut loc' b → Mut loc b) {a : Option Addr} {cs : List Value} (h : Cells w loc a cs) : Cells w loc' a cs := by
  obtain h | ⟨b, o, rfl, hm, hb, hc⟩ := h.lies
  · exact ⟨.inl h⟩
  · exact ⟨.inr ⟨b, o, rfl, fun k => hm (hM b hb k), hb, hc⟩⟩

/-- What reaches no block of the call's own may be told of another place, if no more is written there. -/
theorem R.move {w : World} {loc loc' : Loc} (hM : ∀ b, b < w.heap.size → Mut loc' b → Mut loc b) {x : AV} {v : Value} (h : R w loc x v) (hq : x.closed = true) : R w loc' x v := by
  induction h with
  | w v h => exact .w v h
  | str bs => exact .str bs
  | agg xs cs hl hx _ ih => exact .agg xs cs hl hx fun j h1 h2 => ih j h1 h2 (closedL_get (by simpa [AV.closed] using hq) j h1)
  | tup xs cs hl _ ih => exact .tup xs cs hl fun j h1 h2 => ih j h1 h2 (closedL_get (by simpa [AV.closed] using hq) j h1)
  | sb bs full a cap hd hc => exact .sb bs full a cap hd (hc.move hM)
  | si ns full a cap hd hc => exact .si ns full a cap hd (hc.move hM)
  | sg s xs full a cap cs hd hs hc hl hx _ ih => exact .sg s xs full a cap cs hd hs (hc.move hM) hl hx fun j h1 h2 => ih j h1 h2 (hx j h1).2
  | cp ls a cs hc hn hl hx _ ih => exact .cp ls a cs (hc.move hM) hn hl hx fun j h1 h2 => ih j h1 h2 (hx j h1).2
  | ms id s off len v h => simp [AV.closed] at hq
  | rf id s i f v h => simp [AV.closed] at hq
  | fn f caps cs hl _ ih => exact .fn f caps cs hl fun j h1 h2 => ih j h1 h2 (closedL_get (by simpa [AV.closed] using hq) j h1)
  | junk v => exact .junk v

/-- What reaches no memory may be told of any place. -/
theorem R.far {w w' : World} {loc loc' : Loc} {x : AV} {v : Value} (h : R w loc x v) (hp : x.plain = true) : R w' loc' x v := by
  induction h with
  | w v h => exact .w v h
  | str bs => exact .str bs
  | agg xs cs hl hx _ ih => exact .agg xs cs hl hx fun j h1 h2 => ih j h1 h2 (plainL_get (by simpa [AV.plain] using hp) j h1)
  | tup xs cs hl _ ih => exact .tup xs cs hl fun j h1 h2 => ih j h1 h2 (plainL_get (by simpa [AV.plain] using hp) j h1)
  | sb bs full a cap hd hc =>
    obtain rfl : bs = [] := by simpa [AV.plain] using hp
    exact .sb [] full a cap hd ⟨.inl rfl⟩
  | si ns full a cap hd hc =>
    obtain rfl : ns = [] := by simpa [AV.plain] using hp
    exact .si [] full a cap hd ⟨.inl rfl⟩
  | sg s xs full a cap cs hd hs hc hl hx _ ih =>
    obtain rfl : xs = [] := by simpa [AV.plain] using hp
    obtain rfl : cs = [] := by simpa using hl.symm
    exact .sg s [] full a cap [] hd hs ⟨.inl rfl⟩ rfl (by simp) (by simp)
  | cp ls a cs hc hn hl hx _ ih => simp [AV.plain] at hp
  | ms id s off len v h => simp [AV.plain] at hp
  | rf id s i f v h => simp [AV.plain] at hp
  | fn f caps cs hl _ ih => exact .fn f caps cs hl fun j h1 h2 => ih j h1 h2 (plainL_get (by simpa [AV.plain] using hp) j h1)
  | junk v => exact .junk v

/-- What a block of the call's own holds. -/
inductive Blk where
  | b (bs : List UInt8)
  | i (ns : List Int)
  | g (s : Nat) (xs : List AV)

def Blk.size : Blk → Nat
  | .b _ => 1
  | .i _ => 1
  | .g s _ => s

def Blk.len : Blk → Nat
  | .b bs => bs.length
  | .i ns => ns.length
  | .g _ xs => xs.length

/-- Its cells, as abstract values. -/
def Blk.flat : Blk → List AV
  | .b bs => bs.map fun b => .w (byte b)
  | .i ns => ns.map fun n => .w (word n)
  | .g _ xs => xs.flatMap AV.leaves

def Blk.ok : Blk → Prop
  | .b _ => True
  | .i _ => True
  | .g s xs => 0 < s ∧ ∀ x ∈ xs, x.leaves.length = s

structure Lies (w : World) (loc : Loc) (blk : Blk) (b : Nat) : Prop where
  lies : ∃ cur e fz, w.heap[b]? = some (.cells cur e fz) ∧ (fz.1 = fz.2 ∨ cur.size ≤ fz.1) ∧ (∀ (j : Nat) (h : j < cur.size), one cur[j] = true) ∧ blk.flat.length ≤ cur.size ∧
    (∀ (j : Nat) (h : j < blk.flat.length) (h' : j < cur.size), blk.flat[j].leaf = true ∧ R w loc blk.flat[j] cur[j])

theorem fz_free {fz : Nat × Nat} {n : Nat} (h : fz.1 = fz.2 ∨ n ≤ fz.1) : ∀ j, j < n → ¬ (fz.1 ≤ j ∧ j < fz.2) := by
  intro j hj
  omega

def BlkR (w : World) (loc : Loc) (id : Nat) (blk : Blk) : Prop :=
  match loc.m id with
  | .free => True
  | .dead => False
  | .nil => blk.ok ∧ blk.len = 0
  | .here b => blk.ok ∧ Lies w loc blk b

abbrev Heap := List (Nat × Blk)

def look (H : Heap) (id : Nat) : Option Blk :=
  match H with
  | [] => none
  | (k, b) :: r => if k = id then some b else look r id

def put (H : Heap) (id : Nat) (b : Blk) : Heap := (id, b) :: H

def drop (H : Heap) (id : Nat) : Heap :=
  match H with
  | [] => []
  | (k, b) :: r => if k = id then drop r id else (k, b) :: drop r id

theorem look_put (H : Heap) (id k : Nat) (b : Blk) : look (put H id b) k = if id = k then some b else look H k := rfl

theorem look_drop (H : Heap) (id k : Nat) : look (drop H id) k = if id = k then none else look H k := by
  induction H with
  | nil => simp [drop, look]
  | cons p r ih =>
    obtain ⟨q, b⟩ := p
    simp only [drop, look]
    by_cases h : q = id
    · subst h
      rw [if_pos rfl, ih]
      split
      · rfl
      · rfl
    · rw [if_neg h]
      simp only [look]
      rw [ih]
      by_cases h2 : q = k
      · subst h2; simp [Ne.symm h]
      · simp [h2]

def HR (w : World) (loc : Loc) (H : Heap) : Prop := ∀ id blk, look H id = some blk → BlkR w loc id blk

theorem HR.get {w : World} {loc : Loc} {H : Heap} (h : HR w loc H) {id : Nat} {blk : Blk} (hl : look H id = some blk) (hf : loc.m id ≠ .free) : blk.ok ∧ ((loc.m id = .nil ∧ blk.len = 0) ∨ ∃ b, loc.m id = .here b ∧ Lies w loc blk b) := by
  have := h id blk hl
  unfold BlkR at this
  cases e : loc.m id with
  | free => exact (hf e).elim
  | dead => rw [e] at this; exact this.elim
  | nil => rw [e] at this; exact ⟨this.1, .inl ⟨rfl, this.2⟩⟩
  | here b => rw [e] at this; exact ⟨this.1, .inr ⟨b, rfl, this.2⟩⟩

theorem Lies.ext {C : Nat → Prop} {w w' : World} {loc loc' : Loc} (hE : Ext C w loc w' loc') {blk : Blk} {b id : Nat} (hb : loc.m id = .here b) (hC : ¬ C id) (h : Lies w loc blk b) : Lies w' loc' blk b := by
  obtain ⟨cur, e, fz, hh, hf, ho, hl, hr⟩ := h.lies
  exact ⟨cur, e, fz, (hE.own id b hb hC).trans hh, hf, ho, hl, fun j h1 h2 => ⟨(hr j h1 h2).1, (hr j h1 h2).2.ext hE⟩⟩

theorem BlkR.ext {C : Nat → Prop} {w w' : World} {loc loc' : Loc} (hE : Ext C w loc w' loc') {id : Nat} {blk : Blk} (hC : ¬ C id) (hf : loc.m id ≠ .free) (h : BlkR w loc id blk) : BlkR w' loc' id blk := by
  unfold BlkR at h ⊢
  rw [hE.keep id hf hC]
  cases e : loc.m id with
  | free => trivial
  | dead => rw [e] at h; exact h
  | nil => rw [e] at h; exact h
  | here b => rw [e] at h; exact ⟨h.1, h.2.ext hE e hC⟩

end Ax
end Go.Proofs.Ytgkkgbomhfdbkaa
