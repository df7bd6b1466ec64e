/- A region whose order is drawn: it does what the text's order does. -/
import Derived.Test.YtgkkgbomhfdbkaaAxW
namespace Go.Proofs.Ytgkkgbomhfdbkaa
namespace Ax
set_option linter.unusedSimpArgs false
set_option linter.unusedVariables false

theorem backB_get {j : Nat} : ∀ {l : List Edge}, backB j l = true → ∀ e ∈ l, Region.binds .any e = true → e.on < j
  | [], _, e, h, _ => by simp at h
  | c :: r, hb, e, h, hx => by
    simp only [backB, Bool.and_eq_true, Bool.or_eq_true, Bool.not_eq_true', decide_eq_true_eq] at hb
    rcases List.mem_cons.1 h with h | h
    · subst h
      rcases hb.1 with h' | h'
      · rw [hx] at h'; cases h'
      · exact h'
    · exact backB_get hb.2 e h hx

theorem maskOf_get {acc : List Nat} {i : Nat} : ∀ {l : List Edge}, (maskOf acc l).testBit i = true → ∃ e ∈ l, Region.binds .any e = true ∧ (e.on = i ∨ (acc.getD e.on 0).testBit i = true)
  | [], h => by simp [maskOf] at h
  | e :: r, h => by
    unfold maskOf at h
    cases hb : Region.binds .any e with
    | false =>
      rw [hb] at h
      obtain ⟨c, h1, h2⟩ := maskOf_get h
      exact ⟨c, by simp [h1], h2⟩
    | true =>
      rw [hb] at h
      simp only [cond_true, Nat.testBit_or, Bool.or_eq_true] at h
      rcases h with h | h | h
      · refine ⟨e, by simp, hb, .inl ?_⟩
        rw [Nat.shiftLeft_eq, Nat.one_mul, Nat.testBit_two_pow] at h
        simpa using h
      · exact ⟨e, by simp, hb, .inr h⟩
      · obtain ⟨c, h1, h2⟩ := maskOf_get h
        exact ⟨c, by simp [h1], h2⟩

theorem masks_get {l : List Oper} : ∀ (r : List Oper) (acc : List Nat), l = l.take acc.length ++ r → acc.length + r.length = l.length →
    (∀ j i, (acc.getD j 0).testBit i = true → ∃ o, l[j]? = some o ∧ ∃ e ∈ o.after.toList, Region.binds .any e = true ∧ (e.on = i ∨ (acc.getD e.on 0).testBit i = true) ∧ (e.on < acc.length ∨ e.on = i)) →
    ∀ j i, ((masks acc r).getD j 0).testBit i = true → ∃ o, l[j]? = some o ∧ ∃ e ∈ o.after.toList, Region.binds .any e = true ∧ (e.on = i ∨ ((masks acc r).getD e.on 0).testBit i = true)
  | [], acc, h1, h2, h, j, i, hb => by
    obtain ⟨o, ho, e, he, h3, h4, _⟩ := h j i hb
    exact ⟨o, ho, e, he, h3, h4⟩
  | o :: r, acc, h1, h2, h, j, i, hb => by
    have hlen : acc.length < l.length := by simp at h2; omega
    have hat : l[acc.length]? = some o := by
      rw [h1, List.getElem?_append_right (by simp; omega)]
      have : acc.length - (l.take acc.length).length = 0 := by simp; omega
      rw [this]; rfl
    have hext : ∀ k i, (acc.getD k 0).testBit i = true → ((acc ++ [maskOf acc o.after.toList]).getD k 0).testBit i = true := by
      intro k i hk
      have : k < acc.length := by
        rcases Nat.lt_or_ge k acc.length with h' | h'
        · exact h'
        · simp [List.getD_eq_getElem?_getD, List.getElem?_eq_none h'] at hk
      simpa [List.getD_eq_getElem?_getD, List.getElem?_append_left this] using hk
    refine masks_get r (acc ++ [maskOf acc o.after.toList]) ?_ (by simp at h2 ⊢; omega) ?_ j i (by simpa [masks] using hb)
    · rw [List.length_append, List.length_singleton, List.take_add_one, hat]
      rw [List.append_assoc]
      exact h1
    · intro k i hk
      by_cases hkl : k < acc.length
      · have : (acc.getD k 0).testBit i = true := by simpa [List.getD_eq_getElem?_getD, List.getElem?_append_left hkl] using hk
        obtain ⟨o', ho', e, he, h3, h4, h5⟩ := h k i this
        exact ⟨o', ho', e, he, h3, h4.imp_right (hext _ _), h5.imp_left (by simp; omega)⟩
      · by_cases hke : k = acc.length
        · subst hke
          have : (maskOf acc o.after.toList).testBit i = true := by simpa [List.getD_eq_getElem?_getD] using hk
          obtain ⟨e, he, h3, h4⟩ := maskOf_get this
          refine ⟨o, hat, e, he, h3, h4.imp_right (hext _ _), ?_⟩
          rcases h4 with h4 | h4
          · exact .inr h4
          · left
            have : e.on < acc.length := by
              rcases Nat.lt_or_ge e.on acc.length with h' | h'
              · exact h'
              · simp [List.getD_eq_getElem?_getD, List.getElem?_eq_none h'] at h4
            simp; omega
        · have : (acc ++ [maskOf acc o.after.toList]).getD k 0 = 0 := by
            rw [List.getD_eq_getElem?_getD, List.getElem?_eq_none (by simp; omega)]; rfl
          rw [this] at hk
          simp at hk

/-- What stands before an operation by the edges. -/
theorem anc_listed {l : List Oper} {L : Nat → Prop} (hback : ∀ j o, l[j]? = some o → ∀ e ∈ o.after.toList, Region.binds .any e = true → e.on < j)
    (hcl : ∀ j o, l[j]? = some o → L j → ∀ e ∈ o.after.toList, Region.binds .any e = true → L e.on) : ∀ (n j i : Nat), j < n → ((masks [] l).getD j 0).testBit i = true → ∀ o, l[j]? = some o → (∀ e ∈ o.after.toList, Region.binds .any e = true → L e.on) → L i := by
  intro n
  induction n with
  | zero => intro j i h; omega
  | succ n ih =>
    intro j i hj hb o ho hr
    obtain ⟨o', ho', e, he, h3, h4⟩ := masks_get (l := l) l [] (by simp) (by simp) (fun j i h => by simp at h) j i hb
    rw [ho] at ho'; injection ho' with ho'; subst ho'
    have hl := hr e he h3
    rcases h4 with h4 | h4
    · rw [← h4]; exact hl
    · have hlt := hback j o ho e he h3
      obtain ⟨o2, ho2, _⟩ := masks_get (l := l) l [] (by simp) (by simp) (fun j i h => by simp at h) e.on i h4
      exact ih e.on i (by omega) h4 o2 ho2 (hcl e.on o2 ho2 hl)

def step (S : FSpecs) (T : Types) (ops : List Oper) (nm : Nat) (o : Oper) (s : List AV × Heap) : Prop × (List AV × Heap) :=
  match o.guard with
  | none => ((aop S T nm s.1 o.op s.2).p, (putSlot s.1 o.dst (aop S T nm s.1 o.op s.2).x, (aop S T nm s.1 o.op s.2).H))
  | some (j, want) => match guardSlot ops j with
    | none => (False, s)
    | some d => match slot s.1 d with
      | .w (.bool b) => if b = want then ((aop S T nm s.1 o.op s.2).p, (putSlot s.1 o.dst (aop S T nm s.1 o.op s.2).x, (aop S T nm s.1 o.op s.2).H)) else (True, (putSlot s.1 o.dst (.tup []), s.2))
      | .tup [] => (True, (putSlot s.1 o.dst (.tup []), s.2))
      | _ => (False, s)

def trace (S : FSpecs) (T : Types) (ops : List Oper) (nm : Nat) (s0 : List AV × Heap) : Nat → List AV × Heap
  | 0 => s0
  | k + 1 => match ops[k]? with
    | some o => (step S T ops (nm + 8 * k) o (trace S T ops nm s0 k)).2
    | none => trace S T ops nm s0 k

theorem aops_trace {S : FSpecs} {T : Types} {l : List Oper} {nm : Nat} {s0 : List AV × Heap} {Q : List AV → Heap → Prop} : ∀ (r : List Oper) (k : Nat), (∀ j, r[j]? = l[k + j]?) → k + r.length = l.length →
    aops S T l (nm + 8 * k) r (trace S T l nm s0 k).1 (trace S T l nm s0 k).2 Q →
    Q (trace S T l nm s0 l.length).1 (trace S T l nm s0 l.length).2 ∧ ∀ j o, k ≤ j → l[j]? = some o → (step S T l (nm + 8 * j) o (trace S T l nm s0 j)).1
  | [], k, hr, hl, h => by
    simp at hl
    subst hl
    refine ⟨h, fun j o hj ho => ?_⟩
    rw [List.getElem?_eq_none hj] at ho; cases ho
  | o :: r, k, hr, hl, h => by
    have ho : l[k]? = some o := by simpa using (hr 0).symm
    have hr' : ∀ j, r[j]? = l[k + 1 + j]? := fun j => by have := hr (j + 1); simpa [Nat.add_assoc, Nat.add_comm 1 j] using this
    have hl' : k + 1 + r.length = l.length := by simp at hl; omega
    have hmain : (step S T l (nm + 8 * k) o (trace S T l nm s0 k)).1 ∧ aops S T l (nm + 8 * (k + 1)) r (trace S T l nm s0 (k + 1)).1 (trace S T l nm s0 (k + 1)).2 Q := by
      have e : trace S T l nm s0 (k + 1) = (step S T l (nm + 8 * k) o (trace S T l nm s0 k)).2 := by simp only [trace, ho]
      rw [e, show nm + 8 * (k + 1) = nm + 8 * k + 8 by omega]
      generalize trace S T l nm s0 k = s at h ⊢
      unfold aops at h
      unfold step
      cases hg : o.guard with
      | none => simp only [hg] at h ⊢; exact h
      | some g =>
        obtain ⟨j, want⟩ := g
        simp only [hg] at h ⊢
        cases hgs : guardSlot l j with
        | none => simp only [hgs] at h
        | some d =>
          simp only [hgs] at h ⊢
          split at h
          · rename_i b hsd
            simp only [hsd]
            have hsame : ∀ b', b = b' → setSlot s.1 d (.w (.bool b')) = s.1 := by
              rintro b' rfl
              have := setSlot_same s.1 d
              rw [hsd] at this; exact this
            by_cases hbw : b = want
            · have h := h.1 hbw
              rw [hsame _ hbw] at h
              rw [if_pos hbw]; exact h
            · have hb2 : b = !want := by cases b <;> cases want <;> simp_all
              have h := h.2 hb2
              rw [hsame _ hb2] at h
              rw [if_neg hbw]; exact ⟨trivial, h⟩
          · rename_i hsd
            simp only [hsd]
            exact ⟨trivial, h⟩
          · exact h.elim
    obtain ⟨h1, h2⟩ := aops_trace r (k + 1) hr' hl' hmain.2
    refine ⟨h1, fun j o' hj ho' => ?_⟩
    rcases Nat.lt_or_ge k j with h' | h'
    · exact h2 j o' h' ho'
    · obtain rfl : j = k := by omega
      rw [ho] at ho'; injection ho' with ho'; subst ho'
      exact hmain.1

section
variable {S : FSpecs} {T : Types} {l : List Oper} {nm : Nat} {s0 : List AV × Heap}

theorem kind_le (T : Types) (op : Op) : kindOf T op ≤ 2 := by
  unfold kindOf
  repeat' split
  all_goals first | omega | (cases isIntTy T _ <;> cases coldStr T _ <;> cases isStrTy T _ <;> cases isStrTy T _ <;> simp; done) | (cases quietC T _ <;> simp)

theorem step_facts {k : Nat} {o : Oper} {s : List AV × Heap} (hp : (step S T l (nm + 8 * k) o s).1) :
    (∃ x, (step S T l (nm + 8 * k) o s).2.1 = putSlot s.1 o.dst x) ∧ Hnew (nm + 8 * k) s.2 ⟨True, .junk, (step S T l (nm + 8 * k) o s).2.2⟩ ∧
    (kindOf T o.op ≤ 1 → ∀ id, ¬ (nm + 8 * k ≤ id ∧ id < nm + 8 * k + 8) → look (step S T l (nm + 8 * k) o s).2.2 id = look s.2 id) ∧
    (kindOf T o.op = 0 → (step S T l (nm + 8 * k) o s).2.2 = s.2) := by
  have hplain : (aop S T (nm + 8 * k) s.1 o.op s.2).p → Hnew (nm + 8 * k) s.2 ⟨True, .junk, (aop S T (nm + 8 * k) s.1 o.op s.2).H⟩ ∧
      (kindOf T o.op ≤ 1 → ∀ id, ¬ (nm + 8 * k ≤ id ∧ id < nm + 8 * k + 8) → look (aop S T (nm + 8 * k) s.1 o.op s.2).H id = look s.2 id) ∧
      (kindOf T o.op = 0 → (aop S T (nm + 8 * k) s.1 o.op s.2).H = s.2) := by
    intro hp
    refine ⟨fun _ => hnew_aop hp, fun hk id hid => ?_, fun hk => (pu_aop (H := s.2) hk hp).2.2⟩
    exact hok_aop hk hp id hid
  have hskip : Hnew (nm + 8 * k) s.2 ⟨True, .junk, s.2⟩ := fun _ id b h => .inl (by simp only at h; rw [h]; simp)
  unfold step at hp ⊢
  cases hg : o.guard with
  | none =>
    simp only [hg] at hp ⊢
    obtain ⟨h1, h2, h3⟩ := hplain hp
    exact ⟨⟨_, rfl⟩, h1, h2, h3⟩
  | some g =>
    obtain ⟨j, want⟩ := g
    simp only [hg] at hp ⊢
    cases hgs : guardSlot l j with
    | none => simp [hgs] at hp
    | some d =>
      simp only [hgs] at hp ⊢
      cases hsd : slot s.1 d with
      | w v =>
        cases v with
        | bool b =>
          simp only [hsd] at hp ⊢
          by_cases hbw : b = want
          · rw [if_pos hbw] at hp ⊢
            obtain ⟨h1, h2, h3⟩ := hplain hp
            exact ⟨⟨_, rfl⟩, h1, h2, h3⟩
          · rw [if_neg hbw] at hp ⊢
            exact ⟨⟨_, rfl⟩, hskip, fun _ _ _ => rfl, fun _ => rfl⟩
        | _ => simp [hsd] at hp
      | tup xs =>
        cases xs with
        | nil =>
          simp only [hsd] at hp ⊢
          exact ⟨⟨_, rfl⟩, hskip, by simp, by simp⟩
        | cons _ _ => simp [hsd] at hp
      | _ => simp [hsd] at hp

variable (hst : ∀ j o, l[j]? = some o → (step S T l (nm + 8 * j) o (trace S T l nm s0 j)).1)
include hst

theorem trace_length : ∀ k, (trace S T l nm s0 k).1.length = s0.1.length
  | 0 => rfl
  | k + 1 => by
    simp only [trace]
    split
    · rename_i o ho
      obtain ⟨⟨x, hx⟩, _⟩ := step_facts (hst k o ho)
      rw [hx, putSlot_length, trace_length k]
    · exact trace_length k

theorem trace_slot {t : Tmp} {i k : Nat} (hik : i ≤ k) (h : ∀ j o, i ≤ j → j < k → l[j]? = some o → o.dst ≠ some t) : slot (trace S T l nm s0 k).1 t = slot (trace S T l nm s0 i).1 t := by
  induction k with
  | zero => obtain rfl : i = 0 := by omega
            rfl
  | succ k ih =>
    by_cases hk : i = k + 1
    · rw [hk]
    · rw [← ih (by omega) (fun j o h1 h2 h3 => h j o h1 (by omega) h3)]
      simp only [trace]
      split
      · rename_i o ho
        obtain ⟨⟨x, hx⟩, _⟩ := step_facts (hst k o ho)
        rw [hx]
        have := h k o (by omega) (by omega) ho
        cases hd : o.dst with
        | none => rfl
        | some d => exact slot_set_other (fun e => this (by rw [hd, e]))
      · rfl

theorem trace_low (h0 : ∀ id b, look s0.2 id = some b → id < nm) : ∀ k id b, look (trace S T l nm s0 k).2 id = some b → id < nm + 8 * k
  | 0, id, b, h => by simpa using h0 id b h
  | k + 1, id, b, h => by
    simp only [trace] at h
    split at h
    · rename_i o ho
      obtain ⟨_, hn, _⟩ := step_facts (hst k o ho)
      rcases hn trivial id b h with h' | h'
      · cases h2 : look (trace S T l nm s0 k).2 id with
        | none => exact (h' h2).elim
        | some c => have := trace_low h0 k id c h2; omega
      · omega
    · have := trace_low h0 k id b h; omega

/-- A name that a later text does not make: it was there. -/
theorem trace_back {id i k : Nat} (hik : i ≤ k) {b : Blk} (hl : look (trace S T l nm s0 k).2 id = some b) :
    look (trace S T l nm s0 i).2 id ≠ none ∨ ∃ j o, i ≤ j ∧ j < k ∧ l[j]? = some o ∧ kindOf T o.op ≠ 0 ∧ nm + 8 * j ≤ id ∧ id < nm + 8 * j + 8 := by
  induction k generalizing b with
  | zero => obtain rfl : i = 0 := by omega
            exact .inl (by rw [hl]; simp)
  | succ k ih =>
    by_cases hk : i = k + 1
    · subst hk; exact .inl (by rw [hl]; simp)
    · simp only [trace] at hl
      split at hl
      · rename_i o ho
        obtain ⟨_, hn, _, h0⟩ := step_facts (hst k o ho)
        by_cases hz : kindOf T o.op = 0
        · rw [h0 hz] at hl
          rcases ih (by omega) hl with h | ⟨j, o, h1, h2, h3⟩
          · exact .inl h
          · exact .inr ⟨j, o, h1, by omega, h3⟩
        rcases hn trivial id b hl with h' | h'
        · cases h2 : look (trace S T l nm s0 k).2 id with
          | none => exact (h' h2).elim
          | some c =>
            rcases ih (by omega) h2 with h | ⟨j, o, h1, h2, h3⟩
            · exact .inl h
            · exact .inr ⟨j, o, h1, by omega, h3⟩
        · exact .inr ⟨k, o, by omega, by omega, ho, hz, h'⟩
      · rcases ih (by omega) hl with h | ⟨j, o, h1, h2, h3⟩
        · exact .inl h
        · exact .inr ⟨j, o, h1, by omega, h3⟩

theorem trace_keep {id i k : Nat} (hik : i ≤ k) (hn : ∀ j o, i ≤ j → j < k → l[j]? = some o → kindOf T o.op ≤ 1 ∧ (kindOf T o.op = 0 ∨ ¬ (nm + 8 * j ≤ id ∧ id < nm + 8 * j + 8))) :
    look (trace S T l nm s0 k).2 id = look (trace S T l nm s0 i).2 id := by
  induction k with
  | zero => obtain rfl : i = 0 := by omega
            rfl
  | succ k ih =>
    by_cases hk : i = k + 1
    · rw [hk]
    · rw [← ih (by omega) (fun j o h1 h2 h3 => hn j o h1 (by omega) h3)]
      simp only [trace]
      split
      · rename_i o ho
        obtain ⟨_, _, h1, h0⟩ := step_facts (hst k o ho)
        obtain ⟨h2, h3⟩ := hn k o (by omega) (by omega) ho
        rcases h3 with h3 | h3
        · rw [h0 h3]
        · exact h1 h2 id h3
      · rfl
end


def Ls (listed : Array Bool) (i : Nat) : Prop := listed.getD i false = true

theorem ls_set {listed : Array Bool} {i j : Nat} (hi : i < listed.size) : Ls (listed.setIfInBounds i true) j ↔ j = i ∨ Ls listed j := by
  unfold Ls
  by_cases h : j = i
  · subst h; simp [hi]
  · have : (listed.setIfInBounds i true).getD j false = listed.getD j false := getD_set_ne false (fun e => h e.symm)
    rw [this]; simp [h]

theorem count_set : ∀ (l : List Bool) (i : Nat), l.getD i true = false → (l.set i true).count false + 1 = l.count false
  | [], i, h => by simp at h
  | b :: r, 0, h => by
    obtain rfl : b = false := by simpa using h
    simp
  | b :: r, i + 1, h => by
    have := count_set r i (by simpa using h)
    simp only [List.set_cons_succ, List.count_cons]
    omega

section
variable {P : Program} {S : FSpecs} {T : Types} {l : List Oper} {nm : Nat} {s0 : List AV × Heap} {w0 : World} {E : Nat → Prop} {B : Bs}

structure Inv (S : FSpecs) (T : Types) (l : List Oper) (nm : Nat) (s0 : List AV × Heap) (w0 : World) (E : Nat → Prop) (B : Bs) (listed : Array Bool) (a : Act) (w : World) (loc : Loc) : Prop where
  sizel : listed.size = l.length
  size : a.tmps.size = s0.1.length
  slots : ∀ t k, k ≤ l.length → (∀ i o, l[i]? = some o → o.dst = some t → (Ls listed i ↔ i < k)) → R w loc (slot (trace S T l nm s0 k).1 t) (a.tmps.getD t undef)
  heap : ∀ k, k ≤ l.length → (∀ i o, l[i]? = some o → kindOf T o.op = 2 → (Ls listed i ↔ i < k)) → HR w loc (trace S T l nm s0 k).2
  closed : ∀ j o, l[j]? = some o → Ls listed j → ∀ e ∈ o.after.toList, Region.binds .any e = true → Ls listed e.on
  fresh : ∀ i, ¬ Ls listed i → i < l.length → ∀ id, nm + 8 * i ≤ id → id < nm + 8 * i + 8 → loc.m id = .free
  high : ∀ id, nm + 8 * l.length ≤ id → loc.m id = .free
  env : Env w0 E w loc
  base : Base w0 B w loc
  defers : a.defers = []

/-- What the check says. -/
structure Good (T : Types) (l : List Oper) : Prop where
  back : ∀ j o, l[j]? = some o → ∀ e ∈ o.after.toList, Region.binds .any e = true → e.on < j
  clash : ∀ i j x y, i < j → l[i]? = some x → l[j]? = some y → clash T l x y = true → ((masks [] l).getD j 0).testBit i = true

theorem good_of (h : drawOk T l = true) : Good T l := by
  unfold drawOk at h
  have h := List.all_eq_true.1 h
  have hlt : ∀ {j : Nat} {o : Oper}, l[j]? = some o → j < l.length := fun h => (List.getElem?_eq_some_iff.1 h).1
  refine ⟨fun j o ho => ?_, fun i j x y hij hx hy hc => ?_⟩
  · have := h j (List.mem_range.2 (hlt ho))
    simp only [ho, Bool.and_eq_true] at this
    exact backB_get this.1
  · have := h j (List.mem_range.2 (hlt hy))
    simp only [hy, Bool.and_eq_true] at this
    have := List.all_eq_true.1 this.2 i (List.mem_range.2 hij)
    simp only [hx, hc, Bool.not_true, Bool.false_or] at this
    exact this

theorem clash_dst {x y : Oper} {d : Tmp} (hd : x.dst = some d) (h : d ∈ y.looksAt l.toArray ∨ y.dst = some d) : clash T l x y = true := by
  unfold clash
  rw [hd]
  rcases h with h | h
  · simp [h]
  · simp [h]
theorem clash_look {x y : Oper} {d : Tmp} (hd : y.dst = some d) (h : d ∈ x.looksAt l.toArray) : clash T l x y = true := by
  unfold clash
  rw [hd]
  simp [h]
theorem clash_kind {x y : Oper} (h : (kindOf T x.op = 2 ∧ kindOf T y.op ≠ 0) ∨ (kindOf T y.op = 2 ∧ kindOf T x.op ≠ 0)) : clash T l x y = true := by
  unfold clash
  rcases h with ⟨h1, h2⟩ | ⟨h1, h2⟩
  · simp [h1, h2]
  · simp [h1, h2]

variable {listed : Array Bool} {a : Act} {w : World} {loc : Loc} {i : Nat} {o : Oper}

theorem look_now (hg : Good T l) (inv : Inv S T l nm s0 w0 E B listed a w loc) (ho : l[i]? = some o) (hnl : ¬ Ls listed i) (hrd : ∀ e ∈ o.after.toList, Region.binds .any e = true → Ls listed e.on) {t : Tmp} (ht : t ∈ o.looksAt l.toArray) :
    R w loc (slot (trace S T l nm s0 i).1 t) (a.tmps.getD t undef) := by
  have hlt : i < l.length := (List.getElem?_eq_some_iff.1 ho).1
  refine inv.slots t i (by omega) (fun j x hx hd => ⟨fun hl => ?_, fun hji => ?_⟩)
  · rcases Nat.lt_trichotomy j i with h | h | h
    · exact h
    · subst h; exact (hnl hl).elim
    · exact (hnl (anc_listed hg.back inv.closed _ j i (Nat.lt_succ_self _) (hg.clash i j o x h ho hx (clash_look hd ht)) x hx (inv.closed j x hx hl))).elim
  · exact anc_listed hg.back inv.closed _ i j (Nat.lt_succ_self _) (hg.clash j i x o hji hx ho (clash_dst hd (.inl ht))) o ho hrd

theorem heap_now (hg : Good T l) (inv : Inv S T l nm s0 w0 E B listed a w loc) (ho : l[i]? = some o) (hnl : ¬ Ls listed i) (hrd : ∀ e ∈ o.after.toList, Region.binds .any e = true → Ls listed e.on) (hk : kindOf T o.op ≠ 0) :
    HR w loc (trace S T l nm s0 i).2 := by
  have hlt : i < l.length := (List.getElem?_eq_some_iff.1 ho).1
  refine inv.heap i (by omega) (fun j x hx hd => ⟨fun hl => ?_, fun hji => ?_⟩)
  · rcases Nat.lt_trichotomy j i with h | h | h
    · exact h
    · subst h; exact (hnl hl).elim
    · exact (hnl (anc_listed hg.back inv.closed _ j i (Nat.lt_succ_self _) (hg.clash i j o x h ho hx (clash_kind (.inr ⟨hd, hk⟩))) x hx (inv.closed j x hx hl))).elim
  · exact anc_listed hg.back inv.closed _ i j (Nat.lt_succ_self _) (hg.clash j i x o hji hx ho (clash_kind (.inl ⟨hd, hk⟩))) o ho hrd

theorem advance (hg : Good T l) (hst : ∀ j o, l[j]? = some o → (step S T l (nm + 8 * j) o (trace S T l nm s0 j)).1) (h0 : ∀ id b, look s0.2 id = some b → id < nm) (inv : Inv S T l nm s0 w0 E B listed a w loc) (ho : l[i]? = some o) (hnl : ¬ Ls listed i)
    (hrd : ∀ e ∈ o.after.toList, Region.binds .any e = true → Ls listed e.on) {x : AV} {v : Value} {w' : World} {loc' : Loc} {C : Nat → Prop}
    (hv : (step S T l (nm + 8 * i) o (trace S T l nm s0 i)).2.1 = putSlot (trace S T l nm s0 i).1 o.dst x) (hx : R w' loc' x v) (hE : Ext C w loc w' loc') (hC : kindOf T o.op ≤ 1 → ∀ id, ¬ C id)
    (hfr : ∀ id, loc.m id = .free → loc'.m id ≠ .free → nm + 8 * i ≤ id ∧ id < nm + 8 * i + 8) (he : Env w0 E w' loc') (hb : Base w0 B w' loc') (hh : kindOf T o.op ≠ 0 → HR w' loc' (step S T l (nm + 8 * i) o (trace S T l nm s0 i)).2.2) :
    Inv S T l nm s0 w0 E B (listed.setIfInBounds i true) (a.put o.dst v) w' loc' := by
  have hlt : i < l.length := (List.getElem?_eq_some_iff.1 ho).1
  have his : i < listed.size := by rw [inv.sizel]; exact hlt
  have hls : ∀ j, Ls (listed.setIfInBounds i true) j ↔ j = i ∨ Ls listed j := fun j => ls_set his
  have htr : trace S T l nm s0 (i + 1) = (step S T l (nm + 8 * i) o (trace S T l nm s0 i)).2 := by simp only [trace, ho]
  have hanc : ∀ j y, l[j]? = some y → i < j → Ls listed j → clash T l o y = true → False := fun j y hy hij hl hc =>
    hnl (anc_listed hg.back inv.closed _ j i (Nat.lt_succ_self _) (hg.clash i j o y hij ho hy hc) y hy (inv.closed j y hy hl))
  refine ⟨by simp [inv.sizel], ?_, ?_, ?_, ?_, ?_, ?_, he, hb, ?_⟩
  · cases o.dst with
    | none => exact inv.size
    | some d => simp [Act.put, inv.size]
  · intro t k hk hq
    by_cases hd : o.dst = some t
    · have hik : i < k := (hq i o ho hd).1 ((hls i).2 (.inl rfl))
      have e1 : slot (trace S T l nm s0 k).1 t = slot (trace S T l nm s0 (i + 1)).1 t := by
        refine trace_slot hst (by omega) (fun j y h1 h2 hy hyd => ?_)
        have := (hls j).1 ((hq j y hy hyd).2 h2)
        rcases this with h | h
        · omega
        · exact hanc j y hy (by omega) h (clash_dst hd (.inr hyd))
      rw [e1, htr, hv, hd]
      simp only [putSlot]
      by_cases hts : t < (trace S T l nm s0 i).1.length
      · rw [slot_set_same hts]
        have : (a.put (some t) v).tmps.getD t undef = v := by
          rw [trace_length hst] at hts
          simp [Act.put, inv.size, hts]
        rw [this]; exact hx
      · rw [slot_ge (by rw [setSlot_length]; exact Nat.le_of_not_lt hts)]; exact .junk _
    · have h1 := inv.slots t k hk (fun j y hy hyd => by
        have hji : j ≠ i := by
          rintro rfl
          rw [ho] at hy; injection hy with hy; subst hy; exact hd hyd
        rw [← hq j y hy hyd, hls]
        simp [hji])
      have : (a.put o.dst v).tmps.getD t undef = a.tmps.getD t undef := by
        cases hdd : o.dst with
        | none => rfl
        | some d =>
          have hne : d ≠ t := fun e => hd (by rw [hdd, e])
          simp [Act.put, Array.getElem?_setIfInBounds_ne hne]
      rw [this]; exact h1.ext hE
  · intro k hk hq id b hl
    by_cases hf' : loc'.m id = .free
    · exact BlkR.free hf'
    by_cases h2 : kindOf T o.op = 2
    · have hik : i < k := (hq i o ho h2).1 ((hls i).2 (.inl rfl))
      have hno : ∀ j y, i + 1 ≤ j → j < k → l[j]? = some y → kindOf T y.op ≤ 1 ∧ (kindOf T y.op = 0 ∨ ¬ (nm + 8 * j ≤ id ∧ id < nm + 8 * j + 8)) := by
        intro j y h3 h4 hy
        have hle : kindOf T y.op ≤ 2 :=kind_le T y.op
        have hne : kindOf T y.op ≠ 2 := by
          intro hy2
          rcases (hls j).1 ((hq j y hy hy2).2 h4) with h | h
          · omega
          · exact hanc j y hy (by omega) h (clash_kind (.inl ⟨h2, by omega⟩))
        refine ⟨by omega, ?_⟩
        by_cases hy0 : kindOf T y.op = 0
        · exact .inl hy0
        · right
          intro hr
          have hjl : ¬ Ls listed j := fun hl => hanc j y hy (by omega) hl (clash_kind (.inl ⟨h2, hy0⟩))
          have hfree := inv.fresh j hjl (by omega) id hr.1 hr.2
          have := hfr id hfree hf'
          omega
      rw [trace_keep hst (by omega) hno, htr] at hl
      exact hh (by omega) id b hl
    · have hold : HR w loc (trace S T l nm s0 k).2 := inv.heap k hk (fun j y hy hy2 => by
        have hji : j ≠ i := by
          rintro rfl
          rw [ho] at hy; injection hy with hy; subst hy; exact h2 hy2
        rw [← hq j y hy hy2, hls]
        simp [hji])
      have hle : kindOf T o.op ≤ 1 := by
        have : kindOf T o.op ≤ 2 :=kind_le T o.op
        omega
      by_cases hf : loc.m id = .free
      · have hr := hfr id hf hf'
        have hik : i < k := by
          rcases Nat.lt_or_ge i k with h | h
          · exact h
          · have := trace_low hst h0 k id b hl; omega
        by_cases hz : kindOf T o.op = 0
        · exfalso
          rcases trace_back hst (i := i + 1) (by omega) hl with h | ⟨j, y, h3, _, _, _, h4, _⟩
          · rw [htr, (step_facts (hst i o ho)).2.2.2 hz] at h
            cases h5 : look (trace S T l nm s0 i).2 id with
            | none => exact h h5
            | some c => have := trace_low hst h0 i id c h5; omega
          · omega
        · have hno : ∀ j y, i + 1 ≤ j → j < k → l[j]? = some y → kindOf T y.op ≤ 1 ∧ (kindOf T y.op = 0 ∨ ¬ (nm + 8 * j ≤ id ∧ id < nm + 8 * j + 8)) := by
            intro j y h3 h4 hy
            have hle2 : kindOf T y.op ≤ 2 :=kind_le T y.op
            have hne : kindOf T y.op ≠ 2 := by
              intro hy2
              rcases (hls j).1 ((hq j y hy hy2).2 h4) with h | h
              · omega
              · exact hanc j y hy (by omega) h (clash_kind (.inr ⟨hy2, hz⟩))
            exact ⟨by omega, .inr (by omega)⟩
          rw [trace_keep hst (by omega) hno, htr] at hl
          exact hh hz id b hl
      · exact (hold id b hl).ext hE (hC hle id) hf
  · intro j y hy hl e hee hbe
    rw [hls]
    rcases (hls j).1 hl with h | h
    · subst h
      rw [ho] at hy; injection hy with hy; subst hy
      exact .inr (hrd e hee hbe)
    · exact .inr (inv.closed j y hy h e hee hbe)
  · intro j hj hjl id h1 h2
    rw [hls] at hj
    have hji : j ≠ i := fun e => hj (.inl e)
    have hf := inv.fresh j (fun h => hj (.inr h)) hjl id h1 h2
    by_cases hf' : loc'.m id = .free
    · exact hf'
    · have := hfr id hf hf'; omega
  · intro id h1
    have hf := inv.high id h1
    by_cases hf' : loc'.m id = .free
    · exact hf'
    · have := hfr id hf hf'; omega
  · rw [← inv.defers]
    cases o.dst <;> rfl
end

end Ax
end Go.Proofs.Ytgkkgbomhfdbkaa
