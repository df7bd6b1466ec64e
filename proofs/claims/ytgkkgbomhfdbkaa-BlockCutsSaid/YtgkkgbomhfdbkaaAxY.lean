/- What an operation may do to the memory that it is handed, said of the evaluator alone. -/
import Derived.Test.YtgkkgbomhfdbkaaAxS
import Derived.Test.YtgkkgbomhfdbkaaAxD
namespace Go.Proofs.Ytgkkgbomhfdbkaa
namespace Ax
set_option linter.unusedSimpArgs false
set_option linter.unusedVariables false

/-- Nothing turns but a new block. -/
def Hok (nm : Nat) (H : Heap) (o : Out) : Prop := o.p → ∀ id, ¬ (nm ≤ id ∧ id < nm + 8) → look o.H id = look H id
/-- No name is new but the operation's own. -/
def Hnew (nm : Nat) (H : Heap) (o : Out) : Prop := o.p → ∀ id b, look o.H id = some b → look H id ≠ none ∨ (nm ≤ id ∧ id < nm + 8)

section
variable {nm : Nat} {H : Heap}

theorem hok_bad : Hok nm H bad := fun h => h.elim
theorem hok_same {p : Prop} {x : AV} : Hok nm H ⟨p, x, H⟩ := fun _ _ _ => rfl
theorem hok_put {p : Prop} {x : AV} {b : Blk} : Hok nm H ⟨p, x, put H nm b⟩ := fun _ id h => by simp only; rw [look_put, if_neg (by omega)]
theorem hok_and {q : Prop} {o : Out} (h : Hok nm H o) : Hok nm H (o.and q) := fun hp => h hp.2
theorem Hok.new {o : Out} (h : Hok nm H o) : Hnew nm H o := by
  intro hp id b hl
  by_cases hk : nm ≤ id ∧ id < nm + 8
  · exact .inr hk
  · rw [h hp id hk] at hl; exact .inl (by rw [hl]; simp)

theorem hok_subv {ti : TyI} {ls : List AV} {f : Nat} : Hok nm H (subv ti ls f H) := by
  unfold subv; cases ti.d.aggr <;> exact hok_same
theorem hok_load {T : Types} {t : TypeId} {x : AV} : Hok nm H (aLoad T t x H) := by
  unfold aLoad; repeat' split
  all_goals first | exact hok_bad | exact hok_subv | exact hok_and hok_subv
theorem hok_pick {c a b : AV} : Hok nm H (aPick c a b H) := by
  unfold aPick; repeat' split
  all_goals first | exact hok_bad | exact hok_same
theorem hok_alloc {T : Types} {e : TypeId} : Hok nm H (aAlloc T nm e H) := by
  unfold aAlloc; repeat' split
  all_goals first | exact hok_bad | exact hok_put
theorem hok_box {T : Types} {e : TypeId} {x : AV} : Hok nm H (aBox T nm e x H) := by
  unfold aBox; repeat' split
  all_goals first | exact hok_bad | exact hok_put
theorem hok_build {T : Types} {t : TypeId} {ps : List (Nat × AV)} : Hok nm H (aBuild T t ps H) := by
  unfold aBuild; repeat' split
  all_goals first | exact hok_bad | exact hok_same
theorem hok_buildSlice {T : Types} {t : TypeId} {n : Nat} {ps : List (Nat × AV)} : Hok nm H (aBuildSlice T nm t n ps H) := by
  unfold aBuildSlice; repeat' split
  all_goals first | exact hok_bad | exact hok_put
theorem hok_nil {x : AV} : Hok nm H (aNil x H) := by
  unfold aNil; repeat' split
  all_goals first | exact hok_bad | exact hok_same
theorem hok_eq {op : BinOp} {r : Bool} : Hok nm H (aEq op r H) := by
  unfold aEq; repeat' split
  all_goals first | exact hok_bad | exact hok_same
theorem hok_bin {T : Types} {op : BinOp} {t : TypeId} {x y : AV} : Hok nm H (aBin T op t x y H) := by
  unfold aBin; repeat' split
  all_goals first | exact hok_bad | exact hok_same | exact hok_and hok_eq
theorem hok_un {op : UnOp} {x : AV} : Hok nm H (aUn op x H) := by
  unfold aUn; repeat' split
  all_goals first | exact hok_bad | exact hok_same
theorem hok_make {T : Types} {t : TypeId} {l c : AV} : Hok nm H (aMake T nm t l c H) := by
  unfold aMake; repeat' split
  all_goals first | exact hok_bad | (refine hok_and ?_; repeat' split) <;> exact hok_put
theorem hok_slice {T : Types} {t : TypeId} {x : AV} {lo hi mx : Option AV} : Hok nm H (aSlice T t x lo hi mx H) := by
  unfold aSlice; repeat' split
  all_goals first | exact hok_bad | exact hok_same
theorem hok_fieldAddr {T : Types} {t : TypeId} {x : AV} {f : Nat} : Hok nm H (aFieldAddr T t x f H) := by
  unfold aFieldAddr; repeat' split
  all_goals first | exact hok_bad | exact hok_same
theorem hok_field {T : Types} {t : TypeId} {x : AV} {f : Nat} : Hok nm H (aField T t x f H) := by
  unfold aField; repeat' split
  all_goals first | exact hok_bad | exact hok_same | exact hok_subv
theorem hok_indexAddr {T : Types} {t : TypeId} {x i : AV} : Hok nm H (aIndexAddr T t x i H) := by
  unfold aIndexAddr; repeat' split
  all_goals first | exact hok_bad | exact hok_same
theorem hok_index {T : Types} {t : TypeId} {x i : AV} : Hok nm H (aIndex T t x i H) := by
  unfold aIndex; repeat' split
  all_goals first | exact hok_bad | exact hok_same | exact hok_and hok_subv
theorem hok_extract {x : AV} {i : Nat} : Hok nm H (aExtract x i H) := by
  unfold aExtract; repeat' split
  all_goals first | exact hok_bad | exact hok_same
theorem hok_len {T : Types} {t : TypeId} {x : AV} : Hok nm H (aLen T t x H) := by
  unfold aLen; repeat' split
  all_goals first | exact hok_bad | exact hok_same
theorem hok_min {l : List AV} : Hok nm H (aMin l H) := by
  unfold aMin; repeat' split
  all_goals first | exact hok_bad | exact hok_same
theorem hok_max {l : List AV} : Hok nm H (aMax l H) := by
  unfold aMax; repeat' split
  all_goals first | exact hok_bad | exact hok_same

theorem hnew_put {p : Prop} {x : AV} {id : Nat} {b : Blk} (h : look H id ≠ none ∨ (nm ≤ id ∧ id < nm + 8)) : Hnew nm H ⟨p, x, put H id b⟩ := by
  intro _ k c hl
  simp only at hl
  rw [look_put] at hl
  split at hl
  · rename_i e; rw [← e]; exact h
  · exact .inl (by rw [hl]; simp)
theorem hnew_drop {p : Prop} {x : AV} {id : Nat} {b : Blk} : Hnew nm H ⟨p, x, put (drop H id) nm b⟩ := by
  intro _ k c hl
  simp only at hl
  rw [look_put, look_drop] at hl
  split at hl
  · exact .inr (by omega)
  · split at hl
    · cases hl
    · exact .inl (by rw [hl]; simp)
theorem hnew_and {q : Prop} {o : Out} (h : Hnew nm H o) : Hnew nm H (o.and q) := fun hp => h hp.2
theorem hnew_store {T : Types} {t : TypeId} {p x : AV} : Hnew nm H (aStore T t p x H) := by
  unfold aStore; repeat' split
  all_goals first
    | exact hok_bad.new
    | (rename_i h; exact hnew_put (.inl (by rw [h]; simp)))
theorem hnew_conv {T : Types} {s d : TypeId} {x : AV} : Hnew nm H (aConv T s d nm x H) := by
  unfold aConv; repeat' split
  all_goals first
    | exact hok_bad.new
    | exact hok_same.new
    | exact hok_put.new
    | (rename_i h; exact hnew_put (.inl (by rw [h]; simp)))
theorem hnew_appendB {d : AV} {ys : List UInt8} : Hnew nm H (appendB nm d ys H) := by
  unfold appendB; repeat' split
  all_goals first | exact hok_bad.new | exact hok_put.new | exact hnew_drop
theorem hnew_appendI {d : AV} {ys : List Int} : Hnew nm H (appendI nm d ys H) := by
  unfold appendI; repeat' split
  all_goals first | exact hok_bad.new | exact hok_put.new | exact hnew_drop
theorem hnew_appendG {s : Nat} {d : AV} {ys : List AV} : Hnew nm H (appendG s nm d ys H) := by
  unfold appendG; repeat' split
  all_goals first | exact hok_bad.new | exact hok_put.new | exact hnew_drop
theorem hnew_append {T : Types} {ts : List TypeId} {d x : AV} : Hnew nm H (aAppend T nm ts d x H) := by
  unfold aAppend; repeat' split
  all_goals first | exact hok_bad.new | exact hnew_and hnew_appendB | exact hnew_and hnew_appendI | exact hnew_and hnew_appendG
theorem hnew_copy {T : Types} {ts : List TypeId} {d x : AV} : Hnew nm H (aCopy T ts d x H) := by
  unfold aCopy; repeat' split
  all_goals first | exact hok_bad.new | (rename_i h; exact hnew_and (hnew_put (.inl (by rw [h]; simp))))
theorem hnew_user {S : FSpecs} {f : FuncId} {args : List AV} : Hnew nm H (aUser S nm f args H) := by
  unfold aUser
  split
  · rename_i spec hs
    intro hp id b hl
    simp only [callOut] at hp hl
    obtain ⟨⟨hnd, hpin, hlend⟩, hsp, hb1, hb2, hbc⟩ := hp
    obtain ⟨hpl, hpc, hpg⟩ := pinsOf_get hpin
    rcases look_back _ _ _ hl with ⟨j, hj, h1, h2⟩ | ⟨h1, h2⟩
    · rw [Nat.zero_add] at h1
      by_cases hjl : j < (rootsL args).length
      · rw [gOf_old hjl] at h1
        left
        rw [← h1, hpg j hjl, List.getElem?_eq_getElem (by omega)]
        simp
      · rw [gOf_new (by omega)] at h1
        right; omega
    · rw [look_dropAll] at h1
      split at h1
      · cases h1
      · exact .inl (by rw [h1]; simp)
  · exact hok_bad.new

theorem hnew_aop {S : FSpecs} {T : Types} {sl : List AV} {op : Op} : Hnew nm H (aop S T nm sl op H) := by
  cases op with
  | move x => exact hok_same.new
  | assign x => exact hok_same.new
  | pick c a b => exact hok_pick.new
  | alloc e => exact hok_alloc.new
  | box e x => exact hok_box.new
  | build t ps => exact hok_build.new
  | buildSlice t n ps => exact hok_buildSlice.new
  | load t a => exact hok_load.new
  | store t a x => exact hnew_store
  | nilCheck x => exact hok_nil.new
  | binOp op t x y u => exact hok_bin.new
  | unOp op t x => exact hok_un.new
  | convert s d x => exact hnew_and hnew_conv
  | makeSlice t l c => exact hok_make.new
  | slice t x lo hi mx => exact (hok_and hok_slice).new
  | fieldAddr s x f => exact hok_fieldAddr.new
  | field t x f => exact hok_field.new
  | indexAddr t x i => exact hok_indexAddr.new
  | index t x i => exact hok_index.new
  | extract x i => exact hok_extract.new
  | call c =>
    show Hnew nm H (aCall S T nm sl c H)
    unfold aCall; repeat' split
    all_goals first | exact hok_bad.new | exact hok_len.new | exact hok_min.new | exact hok_max.new | exact hnew_append | exact hnew_copy | exact hnew_and hnew_user
  | _ => exact hok_bad.new

theorem hok_conv {T : Types} {s d : TypeId} {x : AV} (hk : kindOf T (.convert s d (.const .nilFunc)) ≤ 1) : Hok nm H (aConv T s d nm x H) := by
  unfold aConv; repeat' split
  all_goals first
    | exact hok_bad
    | exact hok_same
    | exact hok_put
    | skip
  rename_i ti hs hd _ e he _ id s' off len _ blk hb
  intro hp
  obtain ⟨h1, h2, h3⟩ := hp
  subst h2
  exfalso
  simp [kindOf, isIntTy, isStrTy, coldStr, hd, he] at hk

theorem look_back_some {g : Nat → Nat} {H : Heap} : ∀ (bl : List Blk) (k id : Nat), look H id ≠ none → look (back g H k bl) id ≠ none
  | [], k, id, h => h
  | c :: r, k, id, h => by
    simp only [back, look_put]
    split
    · simp
    · exact look_back_some r (k + 1) id h

theorem hok_aop {S : FSpecs} {T : Types} {sl : List AV} {op : Op} (hk : kindOf T op ≤ 1) : Hok nm H (aop S T nm sl op H) := by
  cases op with
  | move x => exact hok_same
  | assign x => exact hok_same
  | pick c a b => exact hok_pick
  | alloc e => exact hok_alloc
  | box e x => exact hok_box
  | build t ps => exact hok_build
  | buildSlice t n ps => exact hok_buildSlice
  | load t a => exact hok_load
  | store t a x => simp [kindOf] at hk
  | nilCheck x => exact hok_nil
  | binOp op t x y u => exact hok_bin
  | unOp op t x => exact hok_un
  | convert s d x => exact hok_and (hok_conv hk)
  | makeSlice t l c => exact hok_make
  | slice t x lo hi mx => exact hok_and hok_slice
  | fieldAddr s x f => exact hok_fieldAddr
  | field t x f => exact hok_field
  | indexAddr t x i => exact hok_indexAddr
  | index t x i => exact hok_index
  | extract x i => exact hok_extract
  | call c =>
    show Hok nm H (aCall S T nm sl c H)
    unfold aCall
    cases hc : c.callee with
    | builtin b =>
      cases b <;> simp only [kindOf, hc] at hk ⊢ <;> first | exact hok_bad | exact hok_min | exact hok_max | (exfalso; omega) | skip
      split <;> first | exact hok_len | exact hok_bad
    | value f =>
      simp only
      split
      · rename_i g caps hev
        intro hp
        have hq : quietC T c = true := by
          cases hq : quietC T c with
          | true => rfl
          | false => simp [kindOf, hc, hq] at hk
        obtain ⟨hr, hl⟩ := hp.1 hq
        have hp := hp.2
        intro id hid
        simp only [Out.and]
        generalize coes T c.argTypes.toList (evs sl c.args.toList) ++ caps = args at hr hl hp ⊢
        unfold aUser at hp ⊢
        cases hs : S g with
        | none => simp [hs, bad] at hp
        | some spec =>
          simp only [hs, callOut, hr, hl, givenUp, dropAll] at hp ⊢
          obtain ⟨⟨hnd, hpin, hlend⟩, hsp, hb1, hb2, hbc⟩ := hp
          simp only [pinsOf, List.length_nil] at hb2 ⊢
          cases hlk : look (back (gOf [] nm) H 0 (spec (lendL H [] args).2 []).bl) id with
          | none =>
            cases hlk2 : look H id with
            | none => rfl
            | some b => exact absurd hlk (look_back_some _ _ _ (by rw [hlk2]; simp))
          | some b =>
            rcases look_back _ _ _ hlk with ⟨j, hj, h1, h2⟩ | ⟨h1, _⟩
            · exfalso
              rw [Nat.zero_add, gOf_new (by simp)] at h1
              simp only [List.length_nil] at h1
              omega
            · exact h1.symm
      · exact hok_bad
    | _ => simp [kindOf, hc, quietC] at hk
  | _ => exact hok_bad

theorem kind_wr {S : FSpecs} {T : Types} {sl : List AV} {op : Op} (hk : kindOf T op ≤ 1) (hp : (aop S T nm sl op H).p) : wrOf T sl op = false := by
  cases op with
  | store t a x => simp [kindOf] at hk
  | convert s d x =>
    simp only [wrOf]
    replace hp := hp.2
    simp only [aConv] at hp
    split
    · rename_i id s' off len hx
      simp only [hx] at hp
      cases hd : T d with
      | none => rfl
      | some i =>
        simp only
        split
        · rename_i e hi
          exfalso
          cases hs : T s with
          | none => simp [hs, bad] at hp
          | some j =>
            simp only [hs, hd, hi] at hp
            split at hp
            · obtain ⟨h1, h2, h3⟩ := hp
              subst h2
              simp [kindOf, isIntTy, isStrTy, coldStr, hd, hi] at hk
            · exact hp.elim
        · rfl
    · rfl
  | call c =>
    cases hc : c.callee with
    | builtin b => cases b <;> simp [kindOf, hc] at hk <;> simp [wrOf, hc]
    | value f =>
      have hq : quietC T c = true := by
        cases hq : quietC T c with
        | true => rfl
        | false => simp [kindOf, hc, hq] at hk
      simp only [aop, aCall, hc] at hp
      simp only [wrOf, hc]
      split at hp
      · rename_i g caps hev
        obtain ⟨hr, hl⟩ := hp.1 hq
        rw [hev]
        simp only [hr, hl, List.isEmpty, Bool.not_true, Bool.or_false]
      · exact hp.elim
    | _ => simp [kindOf, hc, quietC] at hk
  | _ => rfl

/-- An operation that looks at no memory. -/
def Pu (f : Heap → Out) (H : Heap) : Prop := (f H).p → (f []).p ∧ (f []).x = (f H).x ∧ (f H).H = H

theorem pu_aop {S : FSpecs} {T : Types} {sl : List AV} {op : Op} (hk : kindOf T op = 0) : Pu (fun H => aop S T nm sl op H) H := by
  cases op with
  | move x => exact fun h => ⟨h, rfl, rfl⟩
  | assign x => exact fun h => ⟨h, rfl, rfl⟩
  | pick c a b =>
    unfold Pu
    simp only [aop, aPick]
    repeat' split
    all_goals first | exact fun h => h.elim | exact fun h => ⟨h, rfl, rfl⟩
  | build t ps =>
    unfold Pu
    simp only [aop, aBuild]
    repeat' split
    all_goals first | exact fun h => h.elim | exact fun h => ⟨h, rfl, rfl⟩
  | unOp op t x =>
    unfold Pu
    simp only [aop, aUn]
    repeat' split
    all_goals first | exact fun h => h.elim | exact fun h => ⟨h, rfl, rfl⟩
  | extract x i =>
    unfold Pu
    simp only [aop, aExtract]
    repeat' split
    all_goals first | exact fun h => h.elim | exact fun h => ⟨h, rfl, rfl⟩
  | field t x f =>
    unfold Pu
    simp only [aop, aField, subv]
    repeat' split
    all_goals first | exact fun h => h.elim | (rename_i te _; cases te.d.aggr <;> exact fun h => ⟨h, rfl, rfl⟩)
  | index t x i =>
    unfold Pu
    simp only [aop, aIndex, subv, Out.and]
    repeat' split
    all_goals first | exact fun h => h.elim | exact fun h => ⟨h, rfl, rfl⟩ | (rename_i te _; cases te.d.aggr <;> exact fun h => ⟨h, rfl, rfl⟩)
  | binOp op t x y u =>
    unfold Pu
    simp only [aop]
    generalize ev sl x = p
    generalize ev sl y = q
    have hne : op ≠ .eql ∧ op ≠ .neq := by constructor <;> rintro rfl <;> simp [kindOf] at hk
    have hEq : ∀ r H, ¬ (aEq op r H).p := by
      intro r H h
      unfold aEq at h
      split at h
      · exact hne.1 rfl
      · exact hne.2 rfl
      · exact h
    unfold aBin
    split
    · exact fun h => ⟨h, rfl, rfl⟩
    · exact fun h => ⟨h, rfl, rfl⟩
    · exact fun h => (hEq _ _ h.2).elim
    · split
      · exact fun h => (hEq _ _ h.2).elim
      · exact fun h => h.elim
    · exact fun h => (hEq _ _ h.2).elim
    · exact fun h => (hEq _ _ h.2).elim
    · exact fun h => h.elim
  | convert s d x =>
    unfold Pu
    simp only [aop]
    generalize ev sl x = p
    have hd : isIntTy T d = true ∨ coldStr T d = true := by
      simp only [kindOf] at hk
      cases h : isIntTy T d with
      | true => exact .inl rfl
      | false =>
        rw [h] at hk
        cases hc : coldStr T d with
        | true => exact .inr rfl
        | false =>
          rw [hc] at hk
          cases h' : (isStrTy T d || isStrTy T s) <;> simp [h'] at hk
    rcases hd.symm with hd | hd
    · intro ⟨hn, h⟩
      have hn := hn hd
      unfold coldStr at hd
      unfold aConv at h ⊢
      cases h1 : T s with
      | none => simp [h1, bad] at h
      | some i =>
        cases h2 : T d with
        | none => simp [h1, h2, bad] at h
        | some j =>
          simp only [h2, Bool.and_eq_true] at hd
          obtain ⟨hd1, hd⟩ := hd
          split at hd
          · rename_i hk2
            simp only [h1, h2, hk2, Out.and] at h ⊢
            cases p with
            | ms _ _ _ _ => exact hn.elim
            | str bs => exact ⟨⟨fun _ => trivial, h⟩, rfl, rfl⟩
            | sb bs f => exact ⟨⟨fun _ => trivial, h⟩, rfl, rfl⟩
            | sg s2 xs f => cases xs with
              | nil => exact ⟨⟨fun _ => trivial, h⟩, rfl, rfl⟩
              | cons _ _ => exact absurd h.2 (by simp [viewB])
            | _ => exact absurd h.2 (by simp [viewB])
          · cases hd
    unfold isIntTy at hd
    unfold aConv
    cases h1 : T s with
    | none => exact fun h => h.2.elim
    | some i =>
      cases h2 : T d with
      | none => exact fun h => h.2.elim
      | some j =>
        simp only [h2] at hd
        simp only
        split at hd
        · rename_i k hk
          simp only [hk, Out.and]
          split
          · exact fun h => ⟨h, rfl, rfl⟩
          · exact fun h => h.2.elim
        · cases hd
  | call c =>
    unfold Pu
    simp only [aop]
    cases hc : c.callee with
    | builtin b =>
      cases b <;> simp [kindOf, hc] at hk
      · simp only [aCall, hc, aMax]
        split
        · exact fun h => ⟨h, rfl, rfl⟩
        · exact fun h => h.elim
      · simp only [aCall, hc, aMin]
        split
        · exact fun h => ⟨h, rfl, rfl⟩
        · exact fun h => h.elim
    | _ => exfalso; simp only [kindOf, hc] at hk; cases hq : quietC T c <;> rw [hq] at hk <;> simp at hk
  | _ => simp [kindOf] at hk
end

end Ax
end Go.Proofs.Ytgkkgbomhfdbkaa
