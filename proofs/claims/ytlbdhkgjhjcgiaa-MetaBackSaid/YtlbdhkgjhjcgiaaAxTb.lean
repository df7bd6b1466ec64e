/- A region whose order is drawn, told block by block: a write to one block may stand unordered beside a read of another. -/
import Derived.Test.YtlbdhkgjhjcgiaaAxTa
import Derived.StillTail
namespace Go.Proofs.Ytlbdhkgjhjcgiaa
namespace Ax
set_option linter.unusedSimpArgs false
set_option linter.unusedVariables false

def clashS (ops : List Oper) (x y : Oper) : Bool :=
  (match x.dst with
   | some d => (y.looksAt ops.toArray).contains d || y.dst == some d
   | none => false) ||
  (match y.dst with
   | some d => (x.looksAt ops.toArray).contains d
   | none => false)

def clashM (T : Types) (x y : Oper) : Bool :=
  (decide (kindOf T x.op = 2) && !decide (kindOf T y.op = 0)) || (decide (kindOf T y.op = 2) && !decide (kindOf T x.op = 0))

/-- The order drawn does not matter, if the pairs told meet in no block. -/
def drawOkF (T : Types) (ops : List Oper) (pl : List (Nat × Nat)) : Bool :=
  let ms := masks [] ops
  (List.range ops.length).all fun j => match ops[j]? with
    | some y => backB j y.after.toList && (List.range j).all fun i => match ops[i]? with
      | some x => (!clashS ops x y || (ms.getD j 0).testBit i) && (!clashM T x y || ((ms.getD j 0).testBit i || pl.contains (i, j)))
      | none => true
    | none => true

def clearOf (a b : Nat × List Nat) : Bool := b.2.all fun id => !a.2.contains id && (decide (id < a.1) || decide (a.1 + 8 ≤ id))
def memOk (pl : List (Nat × Nat)) (acc : List (Nat × List Nat)) : Bool := pl.all fun p => match acc[p.1]?, acc[p.2]? with
  | some a, some b => clearOf a b
  | _, _ => false

def aopsF (S : FSpecs) (T : Types) (ops : List Oper) (pl : List (Nat × Nat)) (nm : Nat) (acc : List (Nat × List Nat)) : List Oper → List AV → Heap → (List AV → Heap → Prop) → Prop
  | [], sl, H, Q => memOk pl acc = true ∧ Q sl H
  | o :: r, sl, H, Q => match o.guard with
    | none => (aopF S T nm sl o.op H).p ∧ aopsF S T ops pl (nm + 8) (acc ++ [(nm, foot sl o.op H)]) r (putSlot sl o.dst (aopF S T nm sl o.op H).x) (aopF S T nm sl o.op H).H Q
    | some (j, want) => match guardSlot ops j with
      | none => False
      | some d => match slot sl d with
        | .w (.bool b) =>
          (b = want → (aopF S T nm (setSlot sl d (.w (.bool want))) o.op H).p ∧
            aopsF S T ops pl (nm + 8) (acc ++ [(nm, foot (setSlot sl d (.w (.bool want))) o.op H)]) r (putSlot (setSlot sl d (.w (.bool want))) o.dst (aopF S T nm (setSlot sl d (.w (.bool want))) o.op H).x) (aopF S T nm (setSlot sl d (.w (.bool want))) o.op H).H Q) ∧
          (b = !want → aopsF S T ops pl (nm + 8) (acc ++ [(nm, [])]) r (putSlot (setSlot sl d (.w (.bool !want))) o.dst (.tup [])) H Q)
        | .tup [] => aopsF S T ops pl (nm + 8) (acc ++ [(nm, [])]) r (putSlot sl o.dst (.tup [])) H Q
        | _ => False

def stepF (S : FSpecs) (T : Types) (ops : List Oper) (nm : Nat) (o : Oper) (s : List AV × Heap) : Prop × (List AV × Heap) × List Nat :=
  match o.guard with
  | none => ((aopF S T nm s.1 o.op s.2).p, (putSlot s.1 o.dst (aopF S T nm s.1 o.op s.2).x, (aopF S T nm s.1 o.op s.2).H), foot s.1 o.op s.2)
  | some (j, want) => match guardSlot ops j with
    | none => (False, s, [])
    | some d => match slot s.1 d with
      | .w (.bool b) => if b = want then ((aopF S T nm s.1 o.op s.2).p, (putSlot s.1 o.dst (aopF S T nm s.1 o.op s.2).x, (aopF S T nm s.1 o.op s.2).H), foot s.1 o.op s.2) else (True, (putSlot s.1 o.dst (.tup []), s.2), [])
      | .tup [] => (True, (putSlot s.1 o.dst (.tup []), s.2), [])
      | _ => (False, s, [])

def traceF (S : FSpecs) (T : Types) (ops : List Oper) (nm : Nat) (s0 : List AV × Heap) : Nat → List AV × Heap
  | 0 => s0
  | k + 1 => match ops[k]? with
    | some o => (stepF S T ops (nm + 8 * k) o (traceF S T ops nm s0 k)).2.1
    | none => traceF S T ops nm s0 k

def ftF (S : FSpecs) (T : Types) (ops : List Oper) (nm : Nat) (s0 : List AV × Heap) (j : Nat) : List Nat := match ops[j]? with
  | some o => (stepF S T ops (nm + 8 * j) o (traceF S T ops nm s0 j)).2.2
  | none => []

theorem aopsF_trace {S : FSpecs} {T : Types} {l : List Oper} {pl : List (Nat × Nat)} {nm : Nat} {s0 : List AV × Heap} {Q : List AV → Heap → Prop} : ∀ (r : List Oper) (k : Nat), (∀ j, r[j]? = l[k + j]?) → k + r.length = l.length →
    aopsF S T l pl (nm + 8 * k) ((List.range k).map fun j => (nm + 8 * j, ftF S T l nm s0 j)) r (traceF S T l nm s0 k).1 (traceF S T l nm s0 k).2 Q →
    (Q (traceF S T l nm s0 l.length).1 (traceF S T l nm s0 l.length).2 ∧ memOk pl ((List.range l.length).map fun j => (nm + 8 * j, ftF S T l nm s0 j)) = true) ∧ ∀ j o, k ≤ j → l[j]? = some o → (stepF S T l (nm + 8 * j) o (traceF S T l nm s0 j)).1
  | [], k, hr, hl, h => by
    simp at hl
    subst hl
    refine ⟨⟨h.2, h.1⟩, fun j o hj ho => ?_⟩
    rw [List.getElem?_eq_none hj] at ho; cases ho
  | o :: r, k, hr, hl, h => by
    have ho : l[k]? = some o := by simpa using (hr 0).symm
    have hr' : ∀ j, r[j]? = l[k + 1 + j]? := fun j => by have := hr (j + 1); simpa [Nat.add_assoc, Nat.add_comm 1 j] using this
    have hl' : k + 1 + r.length = l.length := by simp at hl; omega
    have hmain : (stepF S T l (nm + 8 * k) o (traceF S T l nm s0 k)).1 ∧ aopsF S T l pl (nm + 8 * (k + 1)) ((List.range (k + 1)).map fun j => (nm + 8 * j, ftF S T l nm s0 j)) r (traceF S T l nm s0 (k + 1)).1 (traceF S T l nm s0 (k + 1)).2 Q := by
      have e : traceF S T l nm s0 (k + 1) = (stepF S T l (nm + 8 * k) o (traceF S T l nm s0 k)).2.1 := by simp only [traceF, ho]
      have e2 : ((List.range (k + 1)).map fun j => (nm + 8 * j, ftF S T l nm s0 j)) = ((List.range k).map fun j => (nm + 8 * j, ftF S T l nm s0 j)) ++ [(nm + 8 * k, (stepF S T l (nm + 8 * k) o (traceF S T l nm s0 k)).2.2)] := by
        rw [List.range_succ, List.map_append]
        simp only [List.map_cons, List.map_nil, ftF, ho]
      rw [e, e2, show nm + 8 * (k + 1) = nm + 8 * k + 8 by omega]
      generalize ((List.range k).map fun j => (nm + 8 * j, ftF S T l nm s0 j)) = acc at h ⊢
      generalize traceF S T l nm s0 k = s at h ⊢
      unfold aopsF at h
      unfold stepF
      cases hg : o.guard with
      | none => simp only [hg] at h ⊢; exact h
      | some g =>
        obtain ⟨j, want⟩ := g
        simp only [hg] at h ⊢
        cases hgs : guardSlot l j with
        | none => simp only [hgs] at h
        | some d =>
          simp only [hgs] at h ⊢
          split at h
          · rename_i b hsd
            try simp only [hsd]
            have hsame : ∀ b', b = b' → setSlot s.1 d (.w (.bool b')) = s.1 := by
              rintro b' rfl
              have := setSlot_same s.1 d
              rw [hsd] at this; exact this
            by_cases hbw : b = want
            · have h := h.1 hbw
              rw [hsame _ hbw] at h
              rw [if_pos hbw]; exact h
            · have hb2 : b = !want := by cases b <;> cases want <;> simp_all
              have h := h.2 hb2
              rw [hsame _ hb2] at h
              rw [if_neg hbw]; exact ⟨trivial, h⟩
          · rename_i hsd
            try simp only [hsd]
            exact ⟨trivial, h⟩
          · exact h.elim
    obtain ⟨h1, h2⟩ := aopsF_trace r (k + 1) hr' hl' hmain.2
    refine ⟨h1, fun j o' hj ho' => ?_⟩
    rcases Nat.lt_or_ge k j with h' | h'
    · exact h2 j o' h' ho'
    · obtain rfl : j = k := by omega
      rw [ho] at ho'; injection ho' with ho'; subst ho'
      exact hmain.1

section
variable {S : FSpecs} {T : Types} {l : List Oper} {nm : Nat} {s0 : List AV × Heap}

theorem stepF_facts {k : Nat} {o : Oper} {s : List AV × Heap} (hp : (stepF S T l (nm + 8 * k) o s).1) :
    (∃ x, (stepF S T l (nm + 8 * k) o s).2.1.1 = putSlot s.1 o.dst x) ∧
    (∀ id b, look (stepF S T l (nm + 8 * k) o s).2.1.2 id = some b → look s.2 id ≠ none ∨ (nm + 8 * k ≤ id ∧ id < nm + 8 * k + 8)) ∧
    (∀ id, (kindOf T o.op ≤ 1 ∨ id ∉ (stepF S T l (nm + 8 * k) o s).2.2) → ¬ (nm + 8 * k ≤ id ∧ id < nm + 8 * k + 8) → look (stepF S T l (nm + 8 * k) o s).2.1.2 id = look s.2 id) ∧
    (kindOf T o.op = 0 → ∀ id, look (stepF S T l (nm + 8 * k) o s).2.1.2 id = look s.2 id) ∧
    (∀ id, id ∈ (stepF S T l (nm + 8 * k) o s).2.2 → look s.2 id ≠ none) := by
  have hheld : (aopF S T (nm + 8 * k) s.1 o.op s.2).p → ∀ id, id ∈ foot s.1 o.op s.2 → look s.2 id ≠ none := fun hp id hid => held_in hp.1 hid
  have hskip : ∀ id b, look s.2 id = some b → look s.2 id ≠ none ∨ (nm + 8 * k ≤ id ∧ id < nm + 8 * k + 8) := fun id b h => .inl (by rw [h]; simp)
  unfold stepF at hp ⊢
  cases hg : o.guard with
  | none =>
    simp only [hg] at hp ⊢
    obtain ⟨h1, h2, h3⟩ := aopF_facts hp
    exact ⟨⟨_, rfl⟩, h1, h2, h3, hheld hp⟩
  | some g =>
    obtain ⟨j, want⟩ := g
    simp only [hg] at hp ⊢
    cases hgs : guardSlot l j with
    | none => simp [hgs] at hp
    | some d =>
      simp only [hgs] at hp ⊢
      cases hsd : slot s.1 d with
      | w v =>
        cases v with
        | bool b =>
          simp only [hsd] at hp ⊢
          by_cases hbw : b = want
          · rw [if_pos hbw] at hp ⊢
            obtain ⟨h1, h2, h3⟩ := aopF_facts hp
            exact ⟨⟨_, rfl⟩, h1, h2, h3, hheld hp⟩
          · rw [if_neg hbw] at hp ⊢
            exact ⟨⟨_, rfl⟩, hskip, fun _ _ _ => by first | rfl | trivial, fun _ _ => by first | rfl | trivial, fun id h => by simp at h⟩
        | _ => simp [hsd] at hp
      | tup xs =>
        cases xs with
        | nil =>
          simp only [hsd] at hp ⊢
          exact ⟨⟨_, rfl⟩, hskip, fun _ _ _ => by first | rfl | trivial, fun _ _ => by first | rfl | trivial, fun id h => by simp at h⟩
        | cons _ _ => simp [hsd] at hp
      | _ => simp [hsd] at hp

variable (hst : ∀ j o, l[j]? = some o → (stepF S T l (nm + 8 * j) o (traceF S T l nm s0 j)).1)
include hst

theorem traceF_length (k : Nat) : (traceF S T l nm s0 k).1.length = s0.1.length := by
  induction k with
  | zero => rfl
  | succ k ih =>
    simp only [traceF]
    split
    · rename_i o ho
      obtain ⟨⟨x, hx⟩, _⟩ := stepF_facts (hst k o ho)
      rw [hx, putSlot_length, ih]
    · exact ih

theorem traceF_slot {t : Tmp} {i k : Nat} (hik : i ≤ k) (h : ∀ j o, i ≤ j → j < k → l[j]? = some o → o.dst ≠ some t) : slot (traceF S T l nm s0 k).1 t = slot (traceF S T l nm s0 i).1 t := by
  induction k with
  | zero => obtain rfl : i = 0 := by omega
            rfl
  | succ k ih =>
    by_cases hk : i = k + 1
    · rw [hk]
    · rw [← ih (by omega) (fun j o h1 h2 h3 => h j o h1 (by omega) h3)]
      simp only [traceF]
      split
      · rename_i o ho
        obtain ⟨⟨x, hx⟩, _⟩ := stepF_facts (hst k o ho)
        rw [hx]
        have := h k o (by omega) (by omega) ho
        cases hd : o.dst with
        | none => rfl
        | some d => exact slot_set_other (fun e => this (by rw [hd, e]))
      · rfl

theorem traceF_low (h0 : ∀ id b, look s0.2 id = some b → id < nm) : ∀ k id b, look (traceF S T l nm s0 k).2 id = some b → id < nm + 8 * k
  | 0, id, b, h => by simpa using h0 id b h
  | k + 1, id, b, h => by
    simp only [traceF] at h
    split at h
    · rename_i o ho
      obtain ⟨_, hn, _⟩ := stepF_facts (hst k o ho)
      rcases hn id b h with h' | h'
      · cases h2 : look (traceF S T l nm s0 k).2 id with
        | none => exact (h' h2).elim
        | some c => have := traceF_low h0 k id c h2; omega
      · omega
    · have := traceF_low h0 k id b h; omega

theorem traceF_back {id i k : Nat} (hik : i ≤ k) {b : Blk} (hl : look (traceF S T l nm s0 k).2 id = some b) :
    look (traceF S T l nm s0 i).2 id ≠ none ∨ ∃ j o, i ≤ j ∧ j < k ∧ l[j]? = some o ∧ kindOf T o.op ≠ 0 ∧ nm + 8 * j ≤ id ∧ id < nm + 8 * j + 8 := by
  induction k generalizing b with
  | zero => obtain rfl : i = 0 := by omega
            exact .inl (by rw [hl]; simp)
  | succ k ih =>
    by_cases hk : i = k + 1
    · subst hk; exact .inl (by rw [hl]; simp)
    · simp only [traceF] at hl
      split at hl
      · rename_i o ho
        obtain ⟨_, hn, _, h0, _⟩ := stepF_facts (hst k o ho)
        by_cases hz : kindOf T o.op = 0
        · rw [h0 hz] at hl
          rcases ih (by omega) hl with h | ⟨j, o, h1, h2, h3⟩
          · exact .inl h
          · exact .inr ⟨j, o, h1, by omega, h3⟩
        rcases hn id b hl with h' | h'
        · cases h2 : look (traceF S T l nm s0 k).2 id with
          | none => exact (h' h2).elim
          | some c =>
            rcases ih (by omega) h2 with h | ⟨j, o, h1, h2, h3⟩
            · exact .inl h
            · exact .inr ⟨j, o, h1, by omega, h3⟩
        · exact .inr ⟨k, o, by omega, by omega, ho, hz, h'⟩
      · rcases ih (by omega) hl with h | ⟨j, o, h1, h2, h3⟩
        · exact .inl h
        · exact .inr ⟨j, o, h1, by omega, h3⟩

theorem traceF_keep {id i k : Nat} (hik : i ≤ k) (hn : ∀ j o, i ≤ j → j < k → l[j]? = some o → (kindOf T o.op ≤ 1 ∨ id ∉ ftF S T l nm s0 j) ∧ (kindOf T o.op = 0 ∨ ¬ (nm + 8 * j ≤ id ∧ id < nm + 8 * j + 8))) :
    look (traceF S T l nm s0 k).2 id = look (traceF S T l nm s0 i).2 id := by
  induction k with
  | zero => obtain rfl : i = 0 := by omega
            rfl
  | succ k ih =>
    by_cases hk : i = k + 1
    · rw [hk]
    · rw [← ih (by omega) (fun j o h1 h2 h3 => hn j o h1 (by omega) h3)]
      simp only [traceF]
      split
      · rename_i o ho
        obtain ⟨_, _, h1, h0, _⟩ := stepF_facts (hst k o ho)
        obtain ⟨h2, h3⟩ := hn k o (by omega) (by omega) ho
        rcases h3 with h3 | h3
        · rw [h0 h3]
        · refine h1 id ?_ h3
          simpa only [ftF, ho] using h2
      · rfl
end

section
variable {P : Program} {S : FSpecs} {T : Types} {l : List Oper} {nm : Nat} {s0 : List AV × Heap} {w0 : World} {E : Nat → Prop} {B : Bs}

structure InvF (S : FSpecs) (T : Types) (l : List Oper) (nm : Nat) (s0 : List AV × Heap) (w0 : World) (E : Nat → Prop) (B : Bs) (listed : Array Bool) (a : Act) (w : World) (loc : Loc) : Prop where
  sizel : listed.size = l.length
  size : a.tmps.size = s0.1.length
  slots : ∀ t k, k ≤ l.length → (∀ i o, l[i]? = some o → o.dst = some t → (Ls listed i ↔ i < k)) → R w loc (slot (traceF S T l nm s0 k).1 t) (a.tmps.getD t undef)
  heap : ∀ id k, k ≤ l.length → (∀ i o, l[i]? = some o → kindOf T o.op = 2 → id ∈ ftF S T l nm s0 i → (Ls listed i ↔ i < k)) → ∀ b, look (traceF S T l nm s0 k).2 id = some b → BlkR w loc id b
  closed : ∀ j o, l[j]? = some o → Ls listed j → ∀ e ∈ o.after.toList, Region.binds .any e = true → Ls listed e.on
  fresh : ∀ i, ¬ Ls listed i → i < l.length → ∀ id, nm + 8 * i ≤ id → id < nm + 8 * i + 8 → loc.m id = .free
  high : ∀ id, nm + 8 * l.length ≤ id → loc.m id = .free
  env : Env w0 E w loc
  base : Base w0 B w loc
  defers : a.defers = []

/-- What the checks say. -/
structure GoodF (S : FSpecs) (T : Types) (l : List Oper) (nm : Nat) (s0 : List AV × Heap) : Prop where
  back : ∀ j o, l[j]? = some o → ∀ e ∈ o.after.toList, Region.binds .any e = true → e.on < j
  clash : ∀ i j x y, i < j → l[i]? = some x → l[j]? = some y → clashS l x y = true → ((masks [] l).getD j 0).testBit i = true
  mem : ∀ i j x y, i < j → l[i]? = some x → l[j]? = some y → clashM T x y = true → ∀ id, id ∈ ftF S T l nm s0 j → id ∈ ftF S T l nm s0 i ∨ (nm + 8 * i ≤ id ∧ id < nm + 8 * i + 8) → ((masks [] l).getD j 0).testBit i = true

theorem goodF_of {pl : List (Nat × Nat)} (h : drawOkF T l pl = true) (hm : memOk pl ((List.range l.length).map fun j => (nm + 8 * j, ftF S T l nm s0 j)) = true) : GoodF S T l nm s0 := by
  unfold drawOkF at h
  have h := List.all_eq_true.1 h
  have hlt : ∀ {j : Nat} {o : Oper}, l[j]? = some o → j < l.length := fun h => (List.getElem?_eq_some_iff.1 h).1
  have hboth : ∀ i j x y, i < j → l[i]? = some x → l[j]? = some y → (clashS l x y = true → ((masks [] l).getD j 0).testBit i = true) ∧ (clashM T x y = true → ((masks [] l).getD j 0).testBit i = true ∨ (i, j) ∈ pl) := by
    intro i j x y hij hx hy
    have := h j (List.mem_range.2 (hlt hy))
    simp only [hy, Bool.and_eq_true] at this
    have := List.all_eq_true.1 this.2 i (List.mem_range.2 hij)
    simp only [hx, Bool.and_eq_true, Bool.or_eq_true, Bool.not_eq_true', List.contains_iff_mem] at this
    refine ⟨fun hc => this.1.resolve_left (by rw [hc]; simp), fun hc => this.2.resolve_left (by rw [hc]; simp)⟩
  refine ⟨fun j o ho => ?_, fun i j x y hij hx hy hc => (hboth i j x y hij hx hy).1 hc, fun i j x y hij hx hy hc id hid hor => ?_⟩
  · have := h j (List.mem_range.2 (hlt ho))
    simp only [ho, Bool.and_eq_true] at this
    exact backB_get this.1
  · rcases (hboth i j x y hij hx hy).2 hc with h1 | h1
    · exact h1
    · exfalso
      have := List.all_eq_true.1 hm (i, j) h1
      simp only [List.getElem?_map, List.getElem?_range (hlt hx), List.getElem?_range (hlt hy), Option.map_some] at this
      simp only [clearOf, List.all_eq_true, Bool.and_eq_true, Bool.not_eq_true', Bool.or_eq_true, decide_eq_true_eq] at this
      obtain ⟨h2, h3⟩ := this id hid
      rcases hor with h4 | h4
      · rw [List.contains_iff_mem.2 h4] at h2; cases h2
      · omega

theorem clashS_dst {x y : Oper} {d : Tmp} (hd : x.dst = some d) (h : d ∈ y.looksAt l.toArray ∨ y.dst = some d) : clashS l x y = true := by
  unfold clashS
  rw [hd]
  rcases h with h | h
  · simp [h]
  · simp [h]
theorem clashS_look {x y : Oper} {d : Tmp} (hd : y.dst = some d) (h : d ∈ x.looksAt l.toArray) : clashS l x y = true := by
  unfold clashS
  rw [hd]
  simp [h]
theorem clashM_kind {x y : Oper} (h : (kindOf T x.op = 2 ∧ kindOf T y.op ≠ 0) ∨ (kindOf T y.op = 2 ∧ kindOf T x.op ≠ 0)) : clashM T x y = true := by
  unfold clashM
  rcases h with ⟨h1, h2⟩ | ⟨h1, h2⟩
  · simp [h1, h2]
  · simp [h1, h2]

variable {listed : Array Bool} {a : Act} {w : World} {loc : Loc} {i : Nat} {o : Oper}

theorem lookF_now (hg : GoodF S T l nm s0) (inv : InvF S T l nm s0 w0 E B listed a w loc) (ho : l[i]? = some o) (hnl : ¬ Ls listed i) (hrd : ∀ e ∈ o.after.toList, Region.binds .any e = true → Ls listed e.on) {t : Tmp} (ht : t ∈ o.looksAt l.toArray) :
    R w loc (slot (traceF S T l nm s0 i).1 t) (a.tmps.getD t undef) := by
  have hlt : i < l.length := (List.getElem?_eq_some_iff.1 ho).1
  refine inv.slots t i (by omega) (fun j x hx hd => ⟨fun hl => ?_, fun hji => ?_⟩)
  · rcases Nat.lt_trichotomy j i with h | h | h
    · exact h
    · subst h; exact (hnl hl).elim
    · exact (hnl (anc_listed hg.back inv.closed _ j i (Nat.lt_succ_self _) (hg.clash i j o x h ho hx (clashS_look hd ht)) x hx (inv.closed j x hx hl))).elim
  · exact anc_listed hg.back inv.closed _ i j (Nat.lt_succ_self _) (hg.clash j i x o hji hx ho (clashS_dst hd (.inl ht))) o ho hrd

theorem heapF_now (hg : GoodF S T l nm s0) (inv : InvF S T l nm s0 w0 E B listed a w loc) (ho : l[i]? = some o) (hnl : ¬ Ls listed i) (hrd : ∀ e ∈ o.after.toList, Region.binds .any e = true → Ls listed e.on) (hk : kindOf T o.op ≠ 0) {id : Nat} {b : Blk}
    (hid : id ∈ ftF S T l nm s0 i) (hb : look (traceF S T l nm s0 i).2 id = some b) : BlkR w loc id b := by
  have hlt : i < l.length := (List.getElem?_eq_some_iff.1 ho).1
  refine inv.heap id i (by omega) (fun j x hx hd hf => ⟨fun hl => ?_, fun hji => ?_⟩) b hb
  · rcases Nat.lt_trichotomy j i with h | h | h
    · exact h
    · subst h; exact (hnl hl).elim
    · exact (hnl (anc_listed hg.back inv.closed _ j i (Nat.lt_succ_self _) (hg.mem i j o x h ho hx (clashM_kind (.inr ⟨hd, hk⟩)) id hf (.inl hid)) x hx (inv.closed j x hx hl))).elim
  · exact anc_listed hg.back inv.closed _ i j (Nat.lt_succ_self _) (hg.mem j i x o hji hx ho (clashM_kind (.inl ⟨hd, hk⟩)) id hid (.inl hf)) o ho hrd

theorem advanceF (hg : GoodF S T l nm s0) (hst : ∀ j o, l[j]? = some o → (stepF S T l (nm + 8 * j) o (traceF S T l nm s0 j)).1) (h0 : ∀ id b, look s0.2 id = some b → id < nm) (inv : InvF S T l nm s0 w0 E B listed a w loc) (ho : l[i]? = some o) (hnl : ¬ Ls listed i)
    (hrd : ∀ e ∈ o.after.toList, Region.binds .any e = true → Ls listed e.on) {x : AV} {v : Value} {w' : World} {loc' : Loc} {C : Nat → Prop}
    (hv : (stepF S T l (nm + 8 * i) o (traceF S T l nm s0 i)).2.1.1 = putSlot (traceF S T l nm s0 i).1 o.dst x) (hx : R w' loc' x v) (hE : Ext C w loc w' loc') (hC : kindOf T o.op ≤ 1 → ∀ id, ¬ C id) (hCF : ∀ id, C id → id ∈ ftF S T l nm s0 i)
    (hfr : ∀ id, loc.m id = .free → loc'.m id ≠ .free → nm + 8 * i ≤ id ∧ id < nm + 8 * i + 8) (he : Env w0 E w' loc') (hb : Base w0 B w' loc')
    (hh : kindOf T o.op ≠ 0 → ∀ id b, id ∈ ftF S T l nm s0 i ∨ (nm + 8 * i ≤ id ∧ id < nm + 8 * i + 8) → look (stepF S T l (nm + 8 * i) o (traceF S T l nm s0 i)).2.1.2 id = some b → BlkR w' loc' id b) :
    InvF S T l nm s0 w0 E B (listed.setIfInBounds i true) (a.put o.dst v) w' loc' := by
  have hlt : i < l.length := (List.getElem?_eq_some_iff.1 ho).1
  have his : i < listed.size := by rw [inv.sizel]; exact hlt
  have hls : ∀ j, Ls (listed.setIfInBounds i true) j ↔ j = i ∨ Ls listed j := fun j => ls_set his
  have htr : traceF S T l nm s0 (i + 1) = (stepF S T l (nm + 8 * i) o (traceF S T l nm s0 i)).2.1 := by simp only [traceF, ho]
  have hfi : ftF S T l nm s0 i = (stepF S T l (nm + 8 * i) o (traceF S T l nm s0 i)).2.2 := by simp only [ftF, ho]
  have hanc : ∀ j y, l[j]? = some y → i < j → Ls listed j → ((masks [] l).getD j 0).testBit i = true → False := fun j y hy hij hl hc =>
    hnl (anc_listed hg.back inv.closed _ j i (Nat.lt_succ_self _) hc y hy (inv.closed j y hy hl))
  refine ⟨by simp [inv.sizel], ?_, ?_, ?_, ?_, ?_, ?_, he, hb, ?_⟩
  · cases o.dst with
    | none => exact inv.size
    | some d => simp [Act.put, inv.size]
  · intro t k hk hq
    by_cases hd : o.dst = some t
    · have hik : i < k := (hq i o ho hd).1 ((hls i).2 (.inl rfl))
      have e1 : slot (traceF S T l nm s0 k).1 t = slot (traceF S T l nm s0 (i + 1)).1 t := by
        refine traceF_slot hst (by omega) (fun j y h1 h2 hy hyd => ?_)
        have := (hls j).1 ((hq j y hy hyd).2 h2)
        rcases this with h | h
        · omega
        · exact hanc j y hy (by omega) h (hg.clash i j o y (by omega) ho hy (clashS_dst hd (.inr hyd)))
      rw [e1, htr, hv, hd]
      simp only [putSlot]
      by_cases hts : t < (traceF S T l nm s0 i).1.length
      · rw [slot_set_same hts]
        have : (a.put (some t) v).tmps.getD t undef = v := by
          rw [traceF_length hst] at hts
          simp [Act.put, inv.size, hts]
        rw [this]; exact hx
      · rw [slot_ge (by rw [setSlot_length]; exact Nat.le_of_not_lt hts)]; exact .junk _
    · have h1 := inv.slots t k hk (fun j y hy hyd => by
        have hji : j ≠ i := by
          rintro rfl
          rw [ho] at hy; injection hy with hy; subst hy; exact hd hyd
        rw [← hq j y hy hyd, hls]
        simp [hji])
      have : (a.put o.dst v).tmps.getD t undef = a.tmps.getD t undef := by
        cases hdd : o.dst with
        | none => rfl
        | some d =>
          have hne : d ≠ t := fun e => hd (by rw [hdd, e])
          simp [Act.put, Array.getElem?_setIfInBounds_ne hne]
      rw [this]; exact h1.ext hE
  · intro id k hk hq b hl
    by_cases hf' : loc'.m id = .free
    · exact BlkR.free hf'
    by_cases h2 : kindOf T o.op = 2 ∧ id ∈ ftF S T l nm s0 i
    · have hik : i < k := (hq i o ho h2.1 h2.2).1 ((hls i).2 (.inl rfl))
      have hidl : id < nm + 8 * i := by
        have h3 := (stepF_facts (hst i o ho)).2.2.2.2 id (by rw [← hfi]; exact h2.2)
        cases h4 : look (traceF S T l nm s0 i).2 id with
        | none => exact (h3 h4).elim
        | some c => exact traceF_low hst h0 i id c h4
      have hno : ∀ j y, i + 1 ≤ j → j < k → l[j]? = some y → (kindOf T y.op ≤ 1 ∨ id ∉ ftF S T l nm s0 j) ∧ (kindOf T y.op = 0 ∨ ¬ (nm + 8 * j ≤ id ∧ id < nm + 8 * j + 8)) := by
        intro j y h3 h4 hy
        refine ⟨?_, .inr (by omega)⟩
        by_cases hyf : id ∈ ftF S T l nm s0 j
        · left
          have hle : kindOf T y.op ≤ 2 := kind_le T y.op
          have hne : kindOf T y.op ≠ 2 := by
            intro hy2
            rcases (hls j).1 ((hq j y hy hy2 hyf).2 h4) with h | h
            · omega
            · exact hanc j y hy (by omega) h (hg.mem i j o y (by omega) ho hy (clashM_kind (.inl ⟨h2.1, by omega⟩)) id hyf (.inl h2.2))
          omega
        · exact .inr hyf
      rw [traceF_keep hst (by omega) hno, htr] at hl
      exact hh (by omega) id b (.inl h2.2) hl
    · have hold : BlkR w loc id b := inv.heap id k hk (fun j y hy hy2 hyf => by
        have hji : j ≠ i := by
          rintro rfl
          rw [ho] at hy; injection hy with hy; subst hy; exact h2 ⟨hy2, hyf⟩
        rw [← hq j y hy hy2 hyf, hls]
        simp [hji]) b hl
      by_cases hf : loc.m id = .free
      · have hr := hfr id hf hf'
        have hik : i < k := by
          rcases Nat.lt_or_ge i k with h | h
          · exact h
          · have := traceF_low hst h0 k id b hl; omega
        by_cases hz : kindOf T o.op = 0
        · exfalso
          rcases traceF_back hst (i := i + 1) (by omega) hl with h | ⟨j, y, h3, _, _, _, h4, _⟩
          · rw [htr, (stepF_facts (hst i o ho)).2.2.2.1 hz] at h
            cases h5 : look (traceF S T l nm s0 i).2 id with
            | none => exact h h5
            | some c => have := traceF_low hst h0 i id c h5; omega
          · omega
        · have hno : ∀ j y, i + 1 ≤ j → j < k → l[j]? = some y → (kindOf T y.op ≤ 1 ∨ id ∉ ftF S T l nm s0 j) ∧ (kindOf T y.op = 0 ∨ ¬ (nm + 8 * j ≤ id ∧ id < nm + 8 * j + 8)) := by
            intro j y h3 h4 hy
            refine ⟨?_, .inr (by omega)⟩
            by_cases hyf : id ∈ ftF S T l nm s0 j
            · left
              have hle2 : kindOf T y.op ≤ 2 := kind_le T y.op
              have hne : kindOf T y.op ≠ 2 := by
                intro hy2
                rcases (hls j).1 ((hq j y hy hy2 hyf).2 h4) with h | h
                · omega
                · exact hanc j y hy (by omega) h (hg.mem i j o y (by omega) ho hy (clashM_kind (.inr ⟨hy2, hz⟩)) id hyf (.inr hr))
              omega
            · exact .inr hyf
          rw [traceF_keep hst (by omega) hno, htr] at hl
          exact hh hz id b (.inr hr) hl
      · refine hold.ext hE (fun hc => ?_) hf
        have hle : kindOf T o.op ≤ 2 := kind_le T o.op
        by_cases hk1 : kindOf T o.op ≤ 1
        · exact hC hk1 id hc
        · exact h2 ⟨by omega, hCF id hc⟩
  · intro j y hy hl e hee hbe
    rw [hls]
    rcases (hls j).1 hl with h | h
    · subst h
      rw [ho] at hy; injection hy with hy; subst hy
      exact .inr (hrd e hee hbe)
    · exact .inr (inv.closed j y hy h e hee hbe)
  · intro j hj hjl id h1 h2
    rw [hls] at hj
    have hji : j ≠ i := fun e => hj (.inl e)
    have hf := inv.fresh j (fun h => hj (.inr h)) hjl id h1 h2
    by_cases hf' : loc'.m id = .free
    · exact hf'
    · have := hfr id hf hf'; omega
  · intro id h1
    have hf := inv.high id h1
    by_cases hf' : loc'.m id = .free
    · exact hf'
    · have := hfr id hf hf'; omega
  · rw [← inv.defers]
    cases o.dst <;> rfl
end

end Ax
end Go.Proofs.Ytlbdhkgjhjcgiaa
