/- Types as the walk asks them; the call's own memory; what an allocation does. -/
import Derived.Test.YtgkkgbomhfdbkaaAxA
namespace Go.Proofs.Ytgkkgbomhfdbkaa
namespace Ax

inductive TD where
  | int (k : IntKind)
  | bool
  | str
  | ptr
  | slice (e : TypeId)
  | struct (fs : List (Nat × TypeId))
  | arr (n : Nat) (e : TypeId)
  | func
  | other

def TD.aggr : TD → Bool
  | .struct _ => true
  | .arr _ _ => true
  | _ => false

structure TyI where
  d : TD
  size : Nat
  bytes : Nat
  zero : List AV
  flat : Nat

abbrev Types := TypeId → Option TyI

def tdOk (P : Program) (t : TypeId) : TD → Bool
  | .int k => (match P.underlying t with | some (.int k') => decide (k' = k) | _ => false)
  | .bool => (match P.underlying t with | some .bool => true | _ => false)
  | .str => (match P.underlying t with | some .string => true | _ => false)
  | .ptr => (match P.underlying t with | some (.pointer _) => true | _ => false)
  | .slice e => (match P.underlying t with | some (.slice e') => decide (e' = e) | _ => false)
  | .struct fs => (match P.underlying t with | some (.struct gs) => decide (gs.toList.map (fun f => (f.offset, f.type)) = fs) | _ => false)
  | .arr n e => (match P.underlying t with | some (.array n' e') => decide (n' = n) && decide (e' = e) | _ => false)
  | .func => (match P.underlying t with | some (.func _ _ _) => true | _ => false)
  | .other => (match P.underlying t with | some (.struct _) => false | some (.array _ _) => false | some _ => true | none => false)

def TdR (P : Program) (t : TypeId) : TD → Prop
  | .int k => P.underlying t = some (.int k)
  | .bool => P.underlying t = some .bool
  | .str => P.underlying t = some .string
  | .ptr => ∃ e, P.underlying t = some (.pointer e)
  | .slice e => P.underlying t = some (.slice e)
  | .struct fs => ∃ gs, P.underlying t = some (.struct gs) ∧ gs.toList.map (fun f => (f.offset, f.type)) = fs
  | .arr n e => P.underlying t = some (.array n e)
  | .func => ∃ a b c, P.underlying t = some (.func a b c)
  | .other => ∃ d, P.underlying t = some d ∧ (∀ g, d ≠ .struct g) ∧ (∀ n e, d ≠ .array n e)

theorem tdOk_sound {P : Program} {t : TypeId} {d : TD} (h : tdOk P t d = true) : TdR P t d := by
  cases d with
  | other =>
    simp only [tdOk] at h
    split at h
    · exact absurd h (by simp)
    · exact absurd h (by simp)
    · rename_i d h1 h2 e
      exact ⟨d, e, fun g hg => h1 g hg, fun n el hg => h2 n el hg⟩
    · exact absurd h (by simp)
  | _ => simp only [tdOk] at h; split at h <;> simp_all [TdR]

def zOk : AV → Value → Bool
  | .w (.int k n), .int k' n' => decide (k = k') && decide (n = n')
  | .w (.bool b), .bool b' => decide (b = b')
  | .w (.pointer none), .pointer none => true
  | .w .nilFunc, .nilFunc => true
  | .w .nilIface, .nilIface => true
  | .w (.map none), .map none => true
  | .str [], .string s => decide (s.data.toList = [])
  | .sb [] true, .slice none 0 0 => true
  | .si [] true, .slice none 0 0 => true
  | .sg _ [] true, .slice none 0 0 => true
  | _, _ => false

theorem zOk_sound {x : AV} {v : Value} (h : zOk x v = true) : x.leaf = true ∧ one v = true ∧ x.plain = true ∧ ∀ w loc, R w loc x v := by
  unfold zOk at h
  split at h
  · obtain ⟨rfl, rfl⟩ : _ = _ ∧ _ = _ := by simpa using h
    exact ⟨rfl, rfl, rfl, fun _ _ => .w _ rfl⟩
  · obtain rfl : _ = _ := by simpa using h
    exact ⟨rfl, rfl, rfl, fun _ _ => .w _ rfl⟩
  · exact ⟨rfl, rfl, rfl, fun _ _ => .w _ rfl⟩
  · exact ⟨rfl, rfl, rfl, fun _ _ => .w _ rfl⟩
  · exact ⟨rfl, rfl, rfl, fun _ _ => .w _ rfl⟩
  · exact ⟨rfl, rfl, rfl, fun _ _ => .w _ rfl⟩
  · rename_i s
    have h' : s.data.toList = [] := by simpa using h
    refine ⟨rfl, rfl, rfl, fun _ _ => ?_⟩
    have : s = ⟨([] : List UInt8).toArray⟩ := by
      cases s; rename_i d; simp only at h'; congr; exact Array.toList_inj.1 h'
    rw [this]; exact .str []
  · exact ⟨rfl, rfl, rfl, fun _ _ => .sb [] true none 0 ⟨Nat.le_refl _, Nat.zero_le _, fun _ => rfl⟩ ⟨.inl rfl⟩⟩
  · exact ⟨rfl, rfl, rfl, fun _ _ => .si [] true none 0 ⟨Nat.le_refl _, Nat.zero_le _, fun _ => rfl⟩ ⟨.inl rfl⟩⟩
  · exact ⟨rfl, rfl, rfl, fun _ _ => .sg _ [] true none 0 [] ⟨Nat.le_refl _, Nat.zero_le _, fun _ => rfl⟩ (by simp) ⟨.inl rfl⟩ rfl (by simp) (by simp)⟩
  · exact absurd h (by simp)

def zsOk : List AV → List Value → Bool
  | [], [] => true
  | x :: xs, v :: vs => zOk x v && zsOk xs vs
  | _, _ => false

theorem zsOk_sound {xs : List AV} {vs : List Value} (h : zsOk xs vs = true) : xs.length = vs.length ∧ ∀ (j : Nat) (h : j < xs.length) (h' : j < vs.length), zOk xs[j] vs[j] = true := by
  induction xs generalizing vs with
  | nil => cases vs with
    | nil => exact ⟨rfl, fun j h => absurd h (by simp)⟩
    | cons v vs => simp [zsOk] at h
  | cons x xs ih => cases vs with
    | nil => simp [zsOk] at h
    | cons v vs =>
      simp only [zsOk, Bool.and_eq_true] at h
      obtain ⟨hl, hi⟩ := ih h.2
      refine ⟨by simp [hl], fun j h1 h2 => ?_⟩
      cases j with
      | zero => exact h.1
      | succ j => exact hi j (by simpa using h1) (by simpa using h2)

/-- A struct of which no field is left out of a comparison. -/
def eqsOk (P : Program) (t : TypeId) : Bool :=
  match P.underlying t with
  | some (.struct gs) => gs.toList.all (fun g => !(g.name == "_")) && !P.stoodInHeld t && !P.eqGuardType P.depth t
  | _ => true

def tyOk (P : Program) (t : TypeId) (i : TyI) : Bool :=
  eqsOk P t && tdOk P t i.d &&
  match P.info? t with
  | none => false
  | some inf => decide (inf.size = i.size) && decide (inf.bytes = i.bytes) &&
    match inf.zero with
    | none => false
    | some (.agg cs) => i.d.aggr && zsOk i.zero cs.toList && decide (cs.size = i.size)
    | some z => !i.d.aggr && zsOk i.zero [z] && decide (1 = i.size)

structure TyR (P : Program) (t : TypeId) (i : TyI) : Prop where
  d : TdR P t i.d
  info : ∃ inf z, P.info? t = some inf ∧ inf.size = i.size ∧ inf.bytes = i.bytes ∧ inf.zero = some z ∧ z.cells.toList.length = i.size ∧ zsOk i.zero z.cells.toList = true ∧
    (i.d.aggr = true → ∃ cs, z = .agg cs) ∧ (i.d.aggr = false → one z = true ∧ z.cells = #[z] ∧ i.size = 1)
  eqs : ∀ gs, P.underlying t = some (.struct gs) → (∀ g ∈ gs.toList, g.name ≠ "_") ∧ P.stoodInHeld t = false ∧ P.eqGuardType P.depth t = false

theorem tyOk_sound {P : Program} {t : TypeId} {i : TyI} (h : tyOk P t i = true) : TyR P t i := by
  unfold tyOk at h
  rw [Bool.and_eq_true, Bool.and_eq_true] at h
  obtain ⟨⟨h0, h1⟩, h2⟩ := h
  have heqs : ∀ gs, P.underlying t = some (.struct gs) → (∀ g ∈ gs.toList, g.name ≠ "_") ∧ P.stoodInHeld t = false ∧ P.eqGuardType P.depth t = false := by
    intro gs hgs
    unfold eqsOk at h0
    rw [hgs] at h0
    simp only [Bool.and_eq_true, List.all_eq_true, Bool.not_eq_true', beq_eq_false_iff_ne] at h0
    exact ⟨h0.1.1, h0.1.2, h0.2⟩
  refine ⟨tdOk_sound h1, ?_, heqs⟩
  split at h2
  · exact absurd h2 (by simp)
  · rename_i inf e
    rw [Bool.and_eq_true, Bool.and_eq_true] at h2
    obtain ⟨⟨h3, h4⟩, h5⟩ := h2
    have h3 : inf.size = i.size := by simpa using h3
    have h4 : inf.bytes = i.bytes := by simpa using h4
    split at h5
    · exact absurd h5 (by simp)
    · rename_i cs ez
      rw [Bool.and_eq_true, Bool.and_eq_true] at h5
      have h6 : cs.size = i.size := by simpa using h5.2
      exact ⟨inf, .agg cs, e, h3, h4, ez, by simpa [Value.cells] using h6, h5.1.2, fun _ => ⟨cs, rfl⟩, fun hh => by rw [hh] at h5; simp at h5⟩
    · rename_i z hz ez
      rw [Bool.and_eq_true, Bool.and_eq_true] at h5
      have h6 : 1 = i.size := by simpa using h5.2
      have hzo := zsOk_sound h5.1.2
      have hz0 : zOk (i.zero[0]'(by rw [hzo.1]; simp)) z = true := hzo.2 0 (by rw [hzo.1]; simp) (by simp)
      have hone := (zOk_sound hz0).2.1
      have hcells : z.cells = #[z] := by cases z <;> first | rfl | (simp [one] at hone)
      refine ⟨inf, z, e, h3, h4, ez, by rw [hcells]; simpa using h6, by rw [hcells]; exact h5.1.2, fun hh => by rw [hh] at h5; simp at h5, fun _ => ⟨hone, hcells, h6.symm⟩⟩

/-- The table of types is the program's. -/
def TOk (P : Program) (T : Types) : Prop := ∀ t i, T t = some i → TyR P t i

def tab (l : List (TypeId × TyI)) : Types := fun t => (l.find? fun p => p.1 == t).map (·.2)

theorem tab_ok {P : Program} {l : List (TypeId × TyI)} (h : l.all (fun p => tyOk P p.1 p.2) = true) : TOk P (tab l) := by
  intro t i hi
  simp only [tab, Option.map_eq_some_iff] at hi
  obtain ⟨p, hp, rfl⟩ := hi
  have hm := List.mem_of_find?_eq_some hp
  have he := List.find?_some hp
  have : p.1 = t := by simpa using he
  rw [← this]
  exact tyOk_sound (List.all_eq_true.1 h p hm)

structure Env (w0 : World) (E : Nat → Prop) (w : World) (loc : Loc) : Prop where
  os : w.os = w0.os
  tape : w.tape = w0.tape
  output : w.output = w0.output
  size : w0.heap.size ≤ w.heap.size
  same : ∀ b, b < w0.heap.size → ¬ E b → w.heap[b]? = w0.heap[b]?
  inj : ∀ i j b, loc.m i = .here b → loc.m j = .here b → i = j
  lies : ∀ i b, loc.m i = .here b → b < w.heap.size ∧ (w0.heap.size ≤ b ∨ E b)
  bad : ∀ b, loc.bad b → b < w0.heap.size ∧ ¬ E b

def Loc.set (loc : Loc) (id : Nat) (l : L) : Loc := { loc with m := fun k => if k = id then l else loc.m k }

theorem Loc.set_same (loc : Loc) (id : Nat) (l : L) : (loc.set id l).m id = l := by simp [Loc.set]
theorem Loc.set_other (loc : Loc) {id k : Nat} (l : L) (h : k ≠ id) : (loc.set id l).m k = loc.m k := by simp [Loc.set, h]

/-- What an operation leaves. -/
structure Post (w0 : World) (E : Nat → Prop) (w : World) (loc : Loc) (wr : Bool) (nm : Nat) (x : AV) (H : Heap) (v : Value) (w' : World) (loc' : Loc) : Prop where
  r : R w' loc' x v
  h : HR w' loc' H
  env : Env w0 E w' loc'
  ext : ∃ C : Nat → Prop, Ext C w loc w' loc' ∧ (wr = false → ∀ id, ¬ C id)
  fresh : ∀ id, loc.m id = .free → loc'.m id ≠ .free → nm ≤ id ∧ id < nm + 8
  bad : loc'.bad = loc.bad

theorem Ext.refl (w : World) (loc : Loc) : Ext (fun _ => False) w loc w loc :=
  ⟨Nat.le_refl _, fun _ _ _ => rfl, fun _ _ _ => .inl rfl, fun _ _ h => ⟨rfl, h⟩, fun _ _ _ _ => rfl, fun _ _ cur _ fz _ h => ⟨cur, fz, h, rfl⟩⟩

theorem Post.pure {w0 : World} {E : Nat → Prop} {w : World} {loc : Loc} {wr : Bool} {nm : Nat} {x : AV} {H : Heap} {v : Value} (hr : R w loc x v) (hh : HR w loc H) (he : Env w0 E w loc) : Post w0 E w loc wr nm x H v w loc :=
  ⟨hr, hh, he, ⟨_, Ext.refl w loc, fun _ _ h => h⟩, fun _ h h' => (h' h).elim, rfl⟩

/-- A world that has one block more. -/
structure Pushed (w w' : World) (o : Obj) : Prop where
  heap : w'.heap = w.heap.push o
  os : w'.os = w.os
  tape : w'.tape = w.tape
  output : w'.output = w.output

theorem pushed_old {w w' : World} {o : Obj} (h : Pushed w w' o) {b : Nat} (hb : b < w.heap.size) : w'.heap[b]? = w.heap[b]? := by
  rw [h.heap, Array.getElem?_push]; simp [Nat.ne_of_lt hb]
theorem pushed_new {w w' : World} {o : Obj} (h : Pushed w w' o) : w'.heap[w.heap.size]? = some o := by
  rw [h.heap]; simp

theorem mut_set {loc : Loc} {id b c : Nat} (hf : loc.m id = .free) : Mut (loc.set id (.here b)) c ↔ Mut loc c ∨ c = b := by
  constructor
  · rintro (h | ⟨k, h⟩)
    · exact .inl (.inl h)
    · by_cases hk : k = id
      · subst hk; rw [Loc.set_same] at h; injection h with h; exact .inr h.symm
      · rw [Loc.set_other _ _ hk] at h; exact .inl (.inr ⟨k, h⟩)
  · rintro ((h | ⟨k, h⟩) | h)
    · exact .inl h
    · refine .inr ⟨k, ?_⟩
      rw [Loc.set_other]
      · exact h
      · intro e; subst e; rw [hf] at h; cases h
    · subst h; exact .inr ⟨id, Loc.set_same _ _ _⟩

theorem env_push {w0 : World} {E : Nat → Prop} {w w' : World} {loc : Loc} {o : Obj} {nm : Nat} (he : Env w0 E w loc) (hp : Pushed w w' o) (hf : loc.m nm = .free) :
    Env w0 E w' (loc.set nm (.here w.heap.size)) ∧ (∀ c e fz, o = .cells c e fz → Ext (fun _ => False) w loc w' (loc.set nm (.here w.heap.size))) := by
  have hsz : w'.heap.size = w.heap.size + 1 := by rw [hp.heap]; simp
  refine ⟨⟨hp.os.trans he.os, hp.tape.trans he.tape, hp.output.trans he.output, by have := he.size; omega, fun b hb hE => (pushed_old hp (by have := he.size; omega)).trans (he.same b hb hE), ?_, ?_, he.bad⟩, ?_⟩
  · intro i j b hi hj
    by_cases h1 : i = nm <;> by_cases h2 : j = nm
    · rw [h1, h2]
    · subst h1; rw [Loc.set_same] at hi; rw [Loc.set_other _ _ h2] at hj; injection hi with hi; subst hi; have := (he.lies j _ hj).1; omega
    · subst h2; rw [Loc.set_same] at hj; rw [Loc.set_other _ _ h1] at hi; injection hj with hj; subst hj; have := (he.lies i _ hi).1; omega
    · rw [Loc.set_other _ _ h1] at hi; rw [Loc.set_other _ _ h2] at hj; exact he.inj i j b hi hj
  · intro i b hi
    by_cases h1 : i = nm
    · subst h1; rw [Loc.set_same] at hi; injection hi with hi; subst hi; exact ⟨by omega, .inl he.size⟩
    · rw [Loc.set_other _ _ h1] at hi; have := he.lies i b hi; exact ⟨by omega, this.2⟩
  · intro c e fz ho
    refine ⟨by omega, fun id h1 _ => Loc.set_other _ _ (fun e => h1 (e ▸ hf)), fun _ _ h => h.elim, fun b hb hm => ⟨pushed_old hp hb, fun hM => ?_⟩, fun id b h1 _ => pushed_old hp (he.lies id b h1).1, fun id b cur el fz' h1 h2 => ⟨cur, fz', (pushed_old hp (he.lies id b h1).1).trans h2, rfl⟩⟩
    rcases (mut_set hf).1 hM with h | h
    · exact hm h
    · omega

theorem BlkR.free {w : World} {loc : Loc} {id : Nat} {blk : Blk} (h : loc.m id = .free) : BlkR w loc id blk := by
  unfold BlkR; rw [h]; trivial

/-- One new block of the call's own. -/
theorem post_push {w0 : World} {E : Nat → Prop} {w w' : World} {loc : Loc} {wr : Bool} {H : Heap} {nm : Nat} {blk : Blk} {x : AV} {v : Value} {cur : Array Value} {e : TypeId} {fz : Nat × Nat}
    (he : Env w0 E w loc) (hh : HR w loc H) (hf : loc.m nm = .free) (hp : Pushed w w' (.cells cur e fz)) (hok : blk.ok)
    (hfz : fz.1 = fz.2 ∨ cur.size ≤ fz.1) (hone : ∀ (j : Nat) (h : j < cur.size), one cur[j] = true) (hlen : blk.flat.length ≤ cur.size)
    (hr : ∀ (j : Nat) (h : j < blk.flat.length) (h' : j < cur.size), blk.flat[j].leaf = true ∧ R w loc blk.flat[j] cur[j])
    (hx : ∀ w' loc', loc'.m nm = .here w.heap.size → w'.heap[w.heap.size]? = some (.cells cur e fz) → R w' loc' x v) :
    Post w0 E w loc wr nm x (put H nm blk) v w' (loc.set nm (.here w.heap.size)) := by
  obtain ⟨h1, h2⟩ := env_push he hp hf
  have h2 := h2 cur e fz rfl
  refine ⟨hx _ _ (Loc.set_same _ _ _) (pushed_new hp), ?_, h1, ⟨_, h2, fun _ _ h => h⟩, ?_, rfl⟩
  · intro id b hb
    rw [look_put] at hb
    split at hb
    · rename_i hi; subst hi
      injection hb with hb; subst hb
      unfold BlkR
      rw [Loc.set_same]
      exact ⟨hok, ⟨cur, e, fz, pushed_new hp, hfz, hone, hlen, fun j a c => ⟨(hr j a c).1, (hr j a c).2.ext h2⟩⟩⟩
    · rename_i hi
      by_cases hfr : loc.m id = .free
      · exact BlkR.free (by rw [Loc.set_other _ _ (Ne.symm hi)]; exact hfr)
      · exact (hh id b hb).ext h2 (fun h => h) hfr
  · intro id h1 h2
    by_cases hi : id = nm
    · omega
    · rw [Loc.set_other _ _ hi] at h2; exact (h2 h1).elim

end Ax
end Go.Proofs.Ytgkkgbomhfdbkaa
