/- Operations that see the blocks alone that their operands name. -/
import Derived.Test.YtlbdhkgjhjcgiaaAxT
namespace Go.Proofs.Ytlbdhkgjhjcgiaa
namespace Ax
set_option linter.unusedSimpArgs false
set_option linter.unusedVariables false

def Blk.ids : Blk → List Nat
  | .g _ xs => idsL xs
  | _ => []

def keepIn (F : List Nat) : Heap → Heap
  | [] => []
  | (k, b) :: r => bif F.contains k then (k, b) :: keepIn F r else keepIn F r
def dropIn (F : List Nat) : Heap → Heap
  | [] => []
  | (k, b) :: r => bif F.contains k then dropIn F r else (k, b) :: dropIn F r
def bids : Heap → List Nat
  | [] => []
  | (_, b) :: r => b.ids ++ bids r

def footA (sl : List AV) (op : Op) : List Nat := idsL (op.operands.toList.map (ev sl))
def foot (sl : List AV) (op : Op) (H : Heap) : List Nat := footA sl op ++ bids (keepIn (footA sl op) H)
def heldB (F : List Nat) (H : Heap) : Bool := F.all (fun id => (look H id).isSome) && (bids (keepIn F H)).all F.contains

def aopF (S : FSpecs) (T : Types) (nm : Nat) (sl : List AV) (op : Op) (H : Heap) : Out :=
  ⟨heldB (foot sl op H) H = true ∧ (aop S T nm sl op (keepIn (foot sl op H) H)).p, (aop S T nm sl op (keepIn (foot sl op H) H)).x, (aop S T nm sl op (keepIn (foot sl op H) H)).H ++ dropIn (foot sl op H) H⟩

theorem look_append (A B : Heap) (id : Nat) : look (A ++ B) id = match look A id with | some b => some b | none => look B id := by
  induction A with
  | nil => rfl
  | cons p r ih =>
    obtain ⟨k, b⟩ := p
    simp only [List.cons_append, look]
    by_cases h : k = id
    · rw [if_pos h, if_pos h]
    · rw [if_neg h, if_neg h, ih]

theorem look_keepIn (F : List Nat) (H : Heap) (id : Nat) : look (keepIn F H) id = if id ∈ F then look H id else none := by
  induction H with
  | nil => simp [keepIn, look]
  | cons p r ih =>
    obtain ⟨k, b⟩ := p
    by_cases hk : k ∈ F
    · simp only [keepIn, List.contains_iff_mem.2 hk, cond_true, look]
      by_cases h : k = id
      · subst h; simp [hk]
      · simp [h, ih]
    · have : F.contains k = false := by simpa using hk
      simp only [keepIn, this, cond_false, look, ih]
      by_cases h : k = id
      · subst h; simp [hk]
      · simp [h]

theorem look_dropIn (F : List Nat) (H : Heap) (id : Nat) : look (dropIn F H) id = if id ∈ F then none else look H id := by
  induction H with
  | nil => simp [dropIn, look]
  | cons p r ih =>
    obtain ⟨k, b⟩ := p
    by_cases hk : k ∈ F
    · simp only [dropIn, List.contains_iff_mem.2 hk, cond_true, look, ih]
      by_cases h : k = id
      · subst h; simp [hk]
      · simp [h]
    · have : F.contains k = false := by simpa using hk
      simp only [dropIn, this, cond_false, look]
      by_cases h : k = id
      · subst h; simp [hk]
      · simp [h, ih]

theorem mem_bids {H : Heap} {id : Nat} {b : Blk} (h : look H id = some b) {k : Nat} (hk : k ∈ b.ids) : k ∈ bids H := by
  induction H with
  | nil => simp [look] at h
  | cons p r ih =>
    obtain ⟨q, c⟩ := p
    simp only [look] at h
    simp only [bids, List.mem_append]
    split at h
    · injection h with h; subst h; exact .inl hk
    · exact .inr (ih h)

theorem leaves_ids : ∀ (x : AV) (k : Nat), k ∈ idsL x.leaves → k ∈ x.ids := by
  intro x k h
  cases x <;> simp [AV.leaves, AV.ids, idsL] at h ⊢ <;> first | exact h | skip

theorem idsL_append (xs ys : List AV) : idsL (xs ++ ys) = idsL xs ++ idsL ys := by
  induction xs with
  | nil => rfl
  | cons x r ih => simp [idsL, ih]

theorem flat_ids {b : Blk} {k : Nat} (h : k ∈ idsL b.flat) : k ∈ b.ids := by
  cases b with
  | o x => simp [Blk.flat, idsL] at h
  | b bs =>
    exfalso
    simp only [Blk.flat] at h
    induction bs with
    | nil => simp [idsL] at h
    | cons x r ih => simp [idsL, AV.ids] at h; exact ih (by simpa using h)
  | i ns =>
    exfalso
    simp only [Blk.flat] at h
    induction ns with
    | nil => simp [idsL] at h
    | cons x r ih => simp [idsL, AV.ids] at h; exact ih (by simpa using h)
  | g s xs =>
    simp only [Blk.flat, Blk.ids] at h ⊢
    induction xs with
    | nil => simp [idsL] at h
    | cons x r ih =>
      simp only [List.flatMap_cons, idsL_append, List.mem_append, idsL] at h ⊢
      exact h.imp (leaves_ids x k) ih

section
variable {S : FSpecs} {T : Types} {nm : Nat} {sl : List AV} {op : Op} {H : Heap}

theorem held_in (h : heldB (foot sl op H) H = true) {id : Nat} (hF : id ∈ foot sl op H) : look H id ≠ none := by
  simp only [heldB, Bool.and_eq_true, List.all_eq_true] at h
  have := h.1 id hF
  intro e; rw [e] at this; simp at this

theorem aopF_facts (hp : (aopF S T nm sl op H).p) :
    (∀ id b, look (aopF S T nm sl op H).H id = some b → look H id ≠ none ∨ (nm ≤ id ∧ id < nm + 8)) ∧
    (∀ id, (kindOf T op ≤ 1 ∨ id ∉ foot sl op H) → ¬ (nm ≤ id ∧ id < nm + 8) → look (aopF S T nm sl op H).H id = look H id) ∧
    (kindOf T op = 0 → ∀ id, look (aopF S T nm sl op H).H id = look H id) := by
  obtain ⟨hh, hp⟩ := hp
  have hn := hnew_aop hp
  have hk := fun (h : kindOf T op ≤ 1) => hok_aop h hp
  have hz : kindOf T op = 0 → (aop S T nm sl op (keepIn (foot sl op H) H)).H = keepIn (foot sl op H) H := fun h => (pu_aop (H := keepIn (foot sl op H) H) h hp).2.2
  simp only [aopF]
  generalize foot sl op H = F at hh hp hn hk hz ⊢
  generalize aop S T nm sl op (keepIn F H) = out at hp hn hk hz ⊢
  refine ⟨fun id b h => ?_, fun id h hr => ?_, fun h id => ?_⟩
  · rw [look_append] at h
    cases h1 : look out.H id with
    | some c =>
      rcases hn id c h1 with h2 | h2
      · rw [look_keepIn] at h2
        split at h2
        · exact .inl h2
        · exact (h2 rfl).elim
      · exact .inr h2
    | none =>
      simp only [h1, look_dropIn] at h
      split at h
      · cases h
      · exact .inl (by rw [h]; simp)
  · rw [look_append]
    by_cases hF : id ∈ F
    · have h := h.resolve_right (fun h => h hF)
      have h1 := hk h id hr
      rw [h1, look_keepIn, if_pos hF, look_dropIn, if_pos hF]
      cases look H id <;> rfl
    · have h1 : look out.H id = none := by
        cases h1 : look out.H id with
        | none => rfl
        | some c =>
          rcases hn id c h1 with h2 | h2
          · rw [look_keepIn, if_neg hF] at h2; exact (h2 rfl).elim
          · exact (hr h2).elim
      simp [h1, look_dropIn, hF]
  · rw [look_append, hz h, look_keepIn, look_dropIn]
    by_cases hF : id ∈ F
    · rw [if_pos hF, if_pos hF]
      cases look H id <;> rfl
    · rw [if_neg hF, if_neg hF]

theorem operand_ids {x : Operand} (hx : x ∈ op.operands.toList) {id : Nat} (h : id ∈ (ev sl x).ids) : id ∈ foot sl op H := by
  unfold foot footA
  refine List.mem_append_left _ ?_
  obtain ⟨j, hj, e⟩ := List.mem_iff_getElem.1 hx
  exact idsL_get j (by simpa using hj) (by simpa [e] using h)

theorem aopF_sound {P : Program} {w0 : World} {E : Nat → Prop} {w : World} {loc : Loc} (hT : TOk P T) (hS : Fns P S) (he : Env w0 E w loc) (hh : ∀ id b, id ∈ foot sl op H → look H id = some b → BlkR w loc id b) (hfree : ∀ id, nm ≤ id → id < nm + 8 → loc.m id = .free) {a : Act} {o : Oper} (ho : o.op = op)
    (hev : ∀ x ∈ op.operands.toList, R w loc (ev sl x) (a.eval x)) (hp : (aopF S T nm sl op H).p) (next : Act → World → Prop) (Q : Exit → Act → World → Prop)
    (hn : ∀ v w' loc' wr, Post w0 E w loc wr nm (aopF S T nm sl op H).x (aop S T nm sl op (keepIn (foot sl op H) H)).H v w' loc' → (∃ C : Nat → Prop, Ext C w loc w' loc' ∧ (kindOf T op ≤ 1 → ∀ id, ¬ C id) ∧ ∀ id, C id → id ∈ foot sl op H) → next (a.put o.dst v) w') : o.wp P a w next Q := by
  subst ho
  obtain ⟨hheld, hp⟩ := hp
  have hheld' : ∀ k, k ∈ bids (keepIn (foot sl o.op H) H) → k ∈ foot sl o.op H := by
    intro k hk
    simp only [heldB, Bool.and_eq_true, List.all_eq_true] at hheld
    exact List.contains_iff_mem.1 (hheld.2 k hk)
  have hHR : HR w (loc.only (foot sl o.op H)) (keepIn (foot sl o.op H) H) := by
    intro id b hl
    have hl' := hl
    rw [look_keepIn] at hl
    split at hl
    · rename_i hF
      exact (hh id b hF hl).only hF fun k hk => hheld' k (mem_bids hl' (flat_ids hk))
    · cases hl
  refine aop_sound hT hS he.only hHR (fun id h1 h2 => ?_) o (fun x hx => (hev x hx).only fun id hid => operand_ids hx hid) hp next Q (fun v w' loc' hpost => ?_)
  · by_cases hF : id ∈ foot sl o.op H
    · rw [only_m hF]; exact hfree id h1 h2
    · exact only_n hF
  · have hids : ∀ id b, look (aop S T nm sl o.op (keepIn (foot sl o.op H) H)).H id = some b → id ∈ foot sl o.op H ∨ (nm ≤ id ∧ id < nm + 8) := by
      intro id b hl
      rcases hnew_aop hp id b hl with h | h
      · rw [look_keepIn] at h
        split at h
        · rename_i hF; exact .inl hF
        · exact (h rfl).elim
      · exact .inr h
    obtain ⟨h1, C, h2, h3, h4⟩ := Post.frame he hfree hids hpost
    exact hn v w' _ _ h1 ⟨C, h2, fun hk => h3 (kind_wr hk hp), h4⟩
end

end Ax
end Go.Proofs.Ytlbdhkgjhjcgiaa
