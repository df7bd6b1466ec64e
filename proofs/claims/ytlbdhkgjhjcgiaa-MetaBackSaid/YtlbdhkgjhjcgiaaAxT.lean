/- A frame rule: an operation that looks at some of the blocks alone leaves the others as they are. -/
import Derived.Test.YtlbdhkgjhjcgiaaAxV
namespace Go.Proofs.Ytlbdhkgjhjcgiaa
namespace Ax
set_option linter.unusedSimpArgs false
set_option linter.unusedVariables false

theorem idsL_get {xs : List AV} (j : Nat) (hj : j < xs.length) {id : Nat} (h : id ∈ xs[j].ids) : id ∈ idsL xs := by
  induction xs generalizing j with
  | nil => simp at hj
  | cons x r ih =>
    simp only [idsL, List.mem_append]
    cases j with
    | zero => exact .inl h
    | succ j => exact .inr (ih j (by simpa using hj) h)

/-- The blocks of F alone are seen; the others count as written by others. -/
def Loc.only (loc : Loc) (F : List Nat) : Loc :=
  { m := fun id => if id ∈ F then loc.m id else .free, bad := fun b => loc.bad b ∨ ∃ id, id ∉ F ∧ loc.m id = .here b }

theorem only_m {loc : Loc} {F : List Nat} {id : Nat} (h : id ∈ F) : (loc.only F).m id = loc.m id := by simp [Loc.only, h]
theorem only_n {loc : Loc} {F : List Nat} {id : Nat} (h : id ∉ F) : (loc.only F).m id = .free := by simp [Loc.only, h]

theorem only_mut {loc : Loc} {F : List Nat} {b : Nat} : Mut (loc.only F) b ↔ Mut loc b := by
  constructor
  · rintro ((h | ⟨id, _, h⟩) | ⟨id, h⟩)
    · exact .inl h
    · exact .inr ⟨id, h⟩
    · by_cases hF : id ∈ F
      · rw [only_m hF] at h; exact .inr ⟨id, h⟩
      · rw [only_n hF] at h; cases h
  · rintro (h | ⟨id, h⟩)
    · exact .inl (.inl h)
    · by_cases hF : id ∈ F
      · exact .inr ⟨id, by rw [only_m hF]; exact h⟩
      · exact .inl (.inr ⟨id, hF, h⟩)

/-- A value told of one place may be told of another one that agrees on what it names. -/
theorem R.agree {w : World} {loc loc' : Loc} (hM : ∀ b, b < w.heap.size → Mut loc' b → Mut loc b) {x : AV} {v : Value} (h : R w loc x v) (hq : ∀ id ∈ x.ids, loc.m id ≠ .free → loc'.m id = loc.m id) : R w loc' x v := by
  induction h with
  | w v h => exact .w v h
  | str bs => exact .str bs
  | agg xs cs hl hx _ ih => exact .agg xs cs hl hx fun j h1 h2 => ih j h1 h2 fun id hid => hq id (by simp only [AV.ids]; exact idsL_get j h1 hid)
  | tup xs cs hl _ ih => exact .tup xs cs hl fun j h1 h2 => ih j h1 h2 fun id hid => hq id (by simp only [AV.ids]; exact idsL_get j h1 hid)
  | sb bs full a cap hd hc => exact .sb bs full a cap hd (hc.move hM)
  | si ns full a cap hd hc => exact .si ns full a cap hd (hc.move hM)
  | sg s xs full a cap cs hd hs hc hl hx h1 ih => exact .sg s xs full a cap cs hd hs (hc.move hM) hl hx fun j h2 h3 => (h1 j h2 h3).move hM (hx j h2).2
  | cp ls a cs hc hn hl hx h1 ih => exact .cp ls a cs (hc.move hM) hn hl hx fun j h2 h3 => (h1 j h2 h3).move hM (hx j h2).2
  | ms id s off len v h =>
    have hf : loc.m id ≠ .free := by intro e; simp [Owns, e] at h
    have e := hq id (by simp [AV.ids]) hf
    refine .ms id s off len v ?_
    unfold Owns at h ⊢
    rw [e]; exact h
  | rf id s i f v h =>
    have hf : loc.m id ≠ .free := by intro e; simp [Points, e] at h
    have e := hq id (by simp [AV.ids]) hf
    refine .rf id s i f v ?_
    unfold Points at h ⊢
    rw [e]; exact h
  | fn f caps cs hl _ ih => exact .fn f caps cs hl fun j h1 h2 => ih j h1 h2 fun id hid => hq id (by simp only [AV.ids]; exact idsL_get j h1 hid)
  | junk v => exact .junk v

theorem R.only {w : World} {loc : Loc} {F : List Nat} {x : AV} {v : Value} (h : R w loc x v) (hq : ∀ id ∈ x.ids, id ∈ F) : R w (loc.only F) x v :=
  h.agree (fun b _ hb => only_mut.1 hb) fun id hid _ => only_m (hq id hid)

theorem BlkR.only {w : World} {loc : Loc} {F : List Nat} {id : Nat} {blk : Blk} (h : BlkR w loc id blk) (hF : id ∈ F) (hq : ∀ k ∈ idsL blk.flat, k ∈ F) : BlkR w (loc.only F) id blk := by
  unfold BlkR at h ⊢
  rw [only_m hF]
  split
  · trivial
  · rename_i e; rw [e] at h; exact h
  · rename_i e; rw [e] at h; exact h
  · rename_i b e
    rw [e] at h
    obtain ⟨hok, hl⟩ := h
    rcases odd_cases blk with ⟨x, hx, rfl⟩ | hodd
    · exact ⟨hok, .mkO (hl.is hx) hx⟩
    obtain ⟨cur, el, fz, h1, h2, h3, h4, h5⟩ := hl.lies hodd
    exact ⟨hok, .mkC ⟨cur, el, fz, h1, h2, h3, h4, fun j hj hj' => ⟨(h5 j hj hj').1, (h5 j hj hj').2.only fun k hk => hq k (idsL_get j hj hk)⟩⟩ hodd⟩

/-- The place behind the operation: what it saw as it left it, the rest as it was. -/
def Loc.back (loc loc' : Loc) (F : List Nat) (nm : Nat) : Loc :=
  { m := fun id => if id ∈ F ∨ (nm ≤ id ∧ id < nm + 8) then loc'.m id else loc.m id, bad := loc.bad }

section
variable {w0 : World} {E : Nat → Prop} {w : World} {loc : Loc} {F : List Nat} {nm : Nat}

/-- The blocks seen. -/
def InF (loc : Loc) (F : List Nat) (b : Nat) : Prop := ∃ id, id ∈ F ∧ loc.m id = .here b

theorem Env.only (he : Env w0 E w loc) : Env w (InF loc F) w (loc.only F) := by
  refine ⟨rfl, rfl, rfl, Nat.le_refl _, fun _ _ _ => rfl, ?_, ?_, ?_⟩
  · intro i j b hi hj
    by_cases h1 : i ∈ F
    · by_cases h2 : j ∈ F
      · rw [only_m h1] at hi; rw [only_m h2] at hj
        exact he.inj i j b hi hj
      · rw [only_n h2] at hj; cases hj
    · rw [only_n h1] at hi; cases hi
  · intro i b hi
    by_cases h1 : i ∈ F
    · rw [only_m h1] at hi
      exact ⟨(he.lies i b hi).1, .inr ⟨i, h1, hi⟩⟩
    · rw [only_n h1] at hi; cases hi
  · rintro b (hb | ⟨id, hF, hb⟩)
    · obtain ⟨h1, h2⟩ := he.bad b hb
      refine ⟨Nat.lt_of_lt_of_le h1 he.size, ?_⟩
      rintro ⟨id, _, hid⟩
      rcases (he.lies id b hid).2 with h3 | h3
      · omega
      · exact h2 h3
    · refine ⟨(he.lies id b hb).1, ?_⟩
      rintro ⟨k, hk, hkb⟩
      exact hF (he.inj k id b hkb hb ▸ hk)

theorem Post.frame (he : Env w0 E w loc) (hfree : ∀ id, nm ≤ id → id < nm + 8 → loc.m id = .free) {wr : Bool} {x : AV} {H : Heap} {v : Value} {w' : World} {loc' : Loc}
    (hH : ∀ id b, look H id = some b → id ∈ F ∨ (nm ≤ id ∧ id < nm + 8)) (hp : Post w (InF loc F) w (loc.only F) wr nm x H v w' loc') :
    Post w0 E w loc wr nm x H v w' (loc.back loc' F nm) ∧ ∃ C : Nat → Prop, Ext C w loc w' (loc.back loc' F nm) ∧ (wr = false → ∀ id, ¬ C id) ∧ ∀ id, C id → id ∈ F := by
  have hin : ∀ id, (id ∈ F ∨ (nm ≤ id ∧ id < nm + 8)) → (loc.back loc' F nm).m id = loc'.m id := fun id h => by simp [Loc.back, h]
  have hout : ∀ id, ¬ (id ∈ F ∨ (nm ≤ id ∧ id < nm + 8)) → (loc.back loc' F nm).m id = loc.m id := fun id h => by simp only [Loc.back]; rw [if_neg h]
  have hnew : ∀ id, loc'.m id ≠ .free → id ∈ F ∨ (nm ≤ id ∧ id < nm + 8) := by
    intro id h
    by_cases hF : id ∈ F
    · exact .inl hF
    · exact .inr (hp.fresh id (only_n hF) h)
  have hseen : ∀ b, loc.bad b → ¬ InF loc F b := by
    rintro b hb ⟨id, _, hid⟩
    obtain ⟨h1, h2⟩ := he.bad b hb
    rcases (he.lies id b hid).2 with h3 | h3
    · omega
    · exact h2 h3
  have hmut : ∀ b, Mut (loc.back loc' F nm) b → Mut loc' b := by
    rintro b (hb | ⟨id, hid⟩)
    · refine .inl ?_
      rw [hp.bad]; exact .inl hb
    · by_cases h : id ∈ F ∨ (nm ≤ id ∧ id < nm + 8)
      · rw [hin id h] at hid; exact .inr ⟨id, hid⟩
      · rw [hout id h] at hid
        exact .inl (by rw [hp.bad]; exact .inr ⟨id, fun hF => h (.inl hF), hid⟩)
  have hr : ∀ {y : AV} {u : Value}, R w' loc' y u → R w' (loc.back loc' F nm) y u := fun h => h.agree (fun b _ => hmut b) fun id _ hf => hin id (hnew id hf)
  have henv : Env w0 E w' (loc.back loc' F nm) := by
    refine ⟨hp.env.os.trans he.os, hp.env.tape.trans he.tape, hp.env.output.trans he.output, Nat.le_trans he.size hp.env.size, ?_, ?_, ?_, ?_⟩
    · intro b hb hE
      rw [hp.env.same b (Nat.lt_of_lt_of_le hb he.size) ?_]
      · exact he.same b hb hE
      · rintro ⟨id, _, hid⟩
        rcases (he.lies id b hid).2 with h3 | h3
        · omega
        · exact hE h3
    · have hcross : ∀ i j b, (i ∈ F ∨ (nm ≤ i ∧ i < nm + 8)) → ¬ (j ∈ F ∨ (nm ≤ j ∧ j < nm + 8)) → loc'.m i = .here b → loc.m j = .here b → False := by
        intro i j b _ hj h1 h2
        have hbad : loc'.bad b := by rw [hp.bad]; exact .inr ⟨j, fun hF => hj (.inl hF), h2⟩
        obtain ⟨h3, h4⟩ := hp.env.bad b hbad
        rcases (hp.env.lies i b h1).2 with h5 | h5
        · omega
        · exact h4 h5
      intro i j b hi hj
      by_cases h1 : i ∈ F ∨ (nm ≤ i ∧ i < nm + 8)
      · rw [hin i h1] at hi
        by_cases h2 : j ∈ F ∨ (nm ≤ j ∧ j < nm + 8)
        · rw [hin j h2] at hj
          exact hp.env.inj i j b hi hj
        · rw [hout j h2] at hj
          exact (hcross i j b h1 h2 hi hj).elim
      · rw [hout i h1] at hi
        by_cases h2 : j ∈ F ∨ (nm ≤ j ∧ j < nm + 8)
        · rw [hin j h2] at hj
          exact (hcross j i b h2 h1 hj hi).elim
        · rw [hout j h2] at hj
          exact he.inj i j b hi hj
    · intro i b hi
      by_cases h1 : i ∈ F ∨ (nm ≤ i ∧ i < nm + 8)
      · rw [hin i h1] at hi
        obtain ⟨h2, h3⟩ := hp.env.lies i b hi
        refine ⟨h2, ?_⟩
        rcases h3 with h3 | ⟨k, _, hk⟩
        · exact .inl (Nat.le_trans he.size h3)
        · exact (he.lies k b hk).2
      · rw [hout i h1] at hi
        obtain ⟨h2, h3⟩ := he.lies i b hi
        exact ⟨Nat.lt_of_lt_of_le h2 hp.env.size, h3⟩
    · intro b hb; exact he.bad b hb
  have hext : ∃ C : Nat → Prop, Ext C w loc w' (loc.back loc' F nm) ∧ (wr = false → ∀ id, ¬ C id) ∧ ∀ id, C id → id ∈ F := by
    obtain ⟨C, hE, hC⟩ := hp.ext
    have hnr : ∀ id, loc.m id ≠ .free → id ∉ F → ¬ (id ∈ F ∨ (nm ≤ id ∧ id < nm + 8)) := by
      rintro id h1 h2 (h3 | h3)
      · exact h2 h3
      · exact h1 (hfree id h3.1 h3.2)
    have hhid : ∀ id b, loc.m id = .here b → id ∉ F → w'.heap[b]? = w.heap[b]? := by
      intro id b h1 h2
      refine hp.env.same b (he.lies id b h1).1 ?_
      rintro ⟨k, hk, hkb⟩
      exact h2 (he.inj k id b hkb h1 ▸ hk)
    refine ⟨fun id => C id ∧ id ∈ F, ⟨hE.size, ?_, ?_, ?_, ?_, ?_⟩, fun h id hc => hC h id hc.1, fun id hc => hc.2⟩
    · intro id hf hc
      by_cases hF : id ∈ F
      · rw [hin id (.inl hF)]
        have := hE.keep id (by rw [only_m hF]; exact hf) (fun h => hc ⟨h, hF⟩)
        rw [this, only_m hF]
      · exact hout id (hnr id hf hF)
    · rintro id hf ⟨hc, hF⟩
      rw [hin id (.inl hF)]
      have := hE.gone id (by rw [only_m hF]; exact hf) hc
      rw [only_m hF] at this
      exact this
    · intro b hb hm
      obtain ⟨h1, h2⟩ := hE.imm b hb (fun h => hm (only_mut.1 h))
      exact ⟨h1, fun h => h2 (hmut b h)⟩
    · intro id b hb hc
      by_cases hF : id ∈ F
      · exact hE.own id b (by rw [only_m hF]; exact hb) (fun h => hc ⟨h, hF⟩)
      · exact hhid id b hb hF
    · intro b cur e fz hh
      exact hE.shape b cur e fz hh
  refine ⟨⟨hr hp.r, ?_, henv, ?_, ?_, rfl⟩, hext⟩
  · intro id blk hl
    have h0 := hH id blk hl
    have h1 := hp.h id blk hl
    unfold BlkR at h1 ⊢
    rw [hin id h0]
    split
    · trivial
    · rename_i e; rw [e] at h1; exact h1
    · rename_i e; rw [e] at h1; exact h1
    · rename_i b e
      rw [e] at h1
      obtain ⟨hok, hl1⟩ := h1
      rcases odd_cases blk with ⟨x, hx, rfl⟩ | hodd
      · exact ⟨hok, .mkO (hl1.is hx) hx⟩
      obtain ⟨cur, el, fz, a1, a2, a3, a4, a5⟩ := hl1.lies hodd
      exact ⟨hok, .mkC ⟨cur, el, fz, a1, a2, a3, a4, fun j hj hj' => ⟨(a5 j hj hj').1, hr (a5 j hj hj').2⟩⟩ hodd⟩
  · obtain ⟨C, h1, h2, _⟩ := hext
    exact ⟨C, h1, h2⟩
  · intro id hf hn
    by_cases h : id ∈ F ∨ (nm ≤ id ∧ id < nm + 8)
    · rcases h with h | h
      · rw [hin id (.inl h)] at hn
        exact hp.fresh id (by rw [only_m h]; exact hf) hn
      · exact h
    · rw [hout id h] at hn; exact (hn hf).elim
end

end Ax
end Go.Proofs.Ytlbdhkgjhjcgiaa
