/- What the proofs of this seat stand on; it asks nothing. -/
import Derived.Test.YtebacgkeoefnkaaZa07
set_option linter.unusedSimpArgs false
set_option linter.unusedVariables false
namespace Go.Proofs.Ytebacgkeoefnkaa
namespace Ax
def zre (ops : List Oper) (x y : Oper) : Bool :=
 (match x.dst with
  | some d => (y.looksAt ops.toArray).contains d || y.dst == some d
  | none => false) ||
 (match y.dst with
  | some d => (x.looksAt ops.toArray).contains d
  | none => false)
def zzg (T : zab) (x y : Oper) : Bool :=
 (decide (zae T x.op = 2) && !decide (zae T y.op = 0)) || (decide (zae T y.op = 2) && !decide (zae T x.op = 0))
def zhp (T : zab) (ops : List Oper) (pl : List (Nat × Nat)) : Bool :=
 let ms := zhm [] ops
 (List.range ops.length).all fun j => match ops[j]? with
  | some y => yct j y.after.toList && (List.range j).all fun i => match ops[i]? with
   | some x => (!zre ops x y || (ms.getD j 0).testBit i) && (!zzg T x y || ((ms.getD j 0).testBit i || pl.contains (i,j)))
   | none => true
  | none => true
def clearOf (a b : Nat × List Nat) : Bool := b.2.all fun id => !a.2.contains id && (decide (id < a.1) || decide (a.1 + 8 ≤ id))
def memOk (pl : List (Nat × Nat)) (acc : List (Nat × List Nat)) : Bool := pl.all fun p => match acc[p.1]?,acc[p.2]? with
 | some a,some b => clearOf a b
 | _,_ => false
def zep (S : zah) (T : zab) (ops : List Oper) (pl : List (Nat × Nat)) (nm : Nat) (acc : List (Nat × List Nat)) : List Oper → List AV → Heap → (List AV → Heap → Prop) → Prop
 | [],sl,H,Q => memOk pl acc = true ∧ Q sl H
 | o :: r,sl,H,Q => match o.guard with
  | none => (aopF S T nm sl o.op H).p ∧ zep S T ops pl (nm + 8) (acc ++ [(nm,foot sl o.op H)]) r (zal sl o.dst (aopF S T nm sl o.op H).x) (aopF S T nm sl o.op H).H Q
  | some (j,want) => match guardSlot ops j with
   | none => False
   | some d => match slot sl d with
    | .w (.bool b) =>
     (b = want → (aopF S T nm (setSlot sl d (.w (.bool want))) o.op H).p ∧
      zep S T ops pl (nm + 8) (acc ++ [(nm,foot (setSlot sl d (.w (.bool want))) o.op H)]) r (zal (setSlot sl d (.w (.bool want))) o.dst (aopF S T nm (setSlot sl d (.w (.bool want))) o.op H).x) (aopF S T nm (setSlot sl d (.w (.bool want))) o.op H).H Q) ∧
     (b = !want → zep S T ops pl (nm + 8) (acc ++ [(nm,[])]) r (zal (setSlot sl d (.w (.bool !want))) o.dst (.tup [])) H Q)
    | .tup [] => zep S T ops pl (nm + 8) (acc ++ [(nm,[])]) r (zal sl o.dst (.tup [])) H Q
    | _ => False
def zbx (S : zah) (T : zab) (ops : List Oper) (nm : Nat) (o : Oper) (s : List AV × Heap) : Prop × (List AV × Heap) × List Nat :=
 match o.guard with
 | none => ((aopF S T nm s.1 o.op s.2).p,(zal s.1 o.dst (aopF S T nm s.1 o.op s.2).x,(aopF S T nm s.1 o.op s.2).H),foot s.1 o.op s.2)
 | some (j,want) => match guardSlot ops j with
  | none => (False,s,[])
  | some d => match slot s.1 d with
   | .w (.bool b) => if b = want then ((aopF S T nm s.1 o.op s.2).p,(zal s.1 o.dst (aopF S T nm s.1 o.op s.2).x,(aopF S T nm s.1 o.op s.2).H),foot s.1 o.op s.2) else (True,(zal s.1 o.dst (.tup []),s.2),[])
   | .tup [] => (True,(zal s.1 o.dst (.tup []),s.2),[])
   | _ => (False,s,[])
def zag (S : zah) (T : zab) (ops : List Oper) (nm : Nat) (s0 : List AV × Heap) : Nat → List AV × Heap
 | 0 => s0
 | k + 1 => match ops[k]? with
  | some o => (zbx S T ops (nm + 8 * k) o (zag S T ops nm s0 k)).2.1
  | none => zag S T ops nm s0 k
def ftF (S : zah) (T : zab) (ops : List Oper) (nm : Nat) (s0 : List AV × Heap) (j : Nat) : List Nat := match ops[j]? with
 | some o => (zbx S T ops (nm + 8 * j) o (zag S T ops nm s0 j)).2.2
 | none => []
theorem zln {S : zah} {T : zab} {l : List Oper} {pl : List (Nat × Nat)} {nm : Nat} {s0 : List AV × Heap} {Q : List AV → Heap → Prop} : ∀ (r : List Oper) (k : Nat),(∀ j,r[j]? = l[k + j]?) → k + r.length = l.length →
  zep S T l pl (nm + 8 * k) ((List.range k).map fun j => (nm + 8 * j,ftF S T l nm s0 j)) r (zag S T l nm s0 k).1 (zag S T l nm s0 k).2 Q →
  (Q (zag S T l nm s0 l.length).1 (zag S T l nm s0 l.length).2 ∧ memOk pl ((List.range l.length).map fun j => (nm + 8 * j,ftF S T l nm s0 j)) = true) ∧ ∀ j o,k ≤ j → l[j]? = some o → (zbx S T l (nm + 8 * j) o (zag S T l nm s0 j)).1
 | [],k,hr,hl,h => by
  simp at hl
  subst hl
  refine ⟨⟨h.2,h.1⟩,fun j o hj ho => ?_⟩
  rw [List.getElem?_eq_none hj] at ho; cases ho
 | o :: r,k,hr,hl,h => by
  have ho : l[k]? = some o := by simpa using (hr 0).symm
  have hr' : ∀ j,r[j]? = l[k + 1 + j]? := fun j => by have := hr (j + 1); simpa [Nat.add_assoc,Nat.add_comm 1 j] using this
  have hl' : k + 1 + r.length = l.length := by simp at hl; omega
  have hmain : (zbx S T l (nm + 8 * k) o (zag S T l nm s0 k)).1 ∧ zep S T l pl (nm + 8 * (k + 1)) ((List.range (k + 1)).map fun j => (nm + 8 * j,ftF S T l nm s0 j)) r (zag S T l nm s0 (k + 1)).1 (zag S T l nm s0 (k + 1)).2 Q := by
   have e : zag S T l nm s0 (k + 1) = (zbx S T l (nm + 8 * k) o (zag S T l nm s0 k)).2.1 := by simp only [zag,ho]
   have e2 : ((List.range (k + 1)).map fun j => (nm + 8 * j,ftF S T l nm s0 j)) = ((List.range k).map fun j => (nm + 8 * j,ftF S T l nm s0 j)) ++ [(nm + 8 * k,(zbx S T l (nm + 8 * k) o (zag S T l nm s0 k)).2.2)] := by
    rw [List.range_succ,List.map_append]
    simp only [List.map_cons,List.map_nil,ftF,ho]
   rw [e,e2,show nm + 8 * (k + 1) = nm + 8 * k + 8 by omega]
   generalize ((List.range k).map fun j => (nm + 8 * j,ftF S T l nm s0 j)) = acc at h ⊢
   generalize zag S T l nm s0 k = s at h ⊢
   unfold zep at h
   unfold zbx
   cases hg : o.guard with
   | none => simp only [hg] at h ⊢; exact h
   | some g =>
    obtain ⟨j,want⟩ := g
    simp only [hg] at h ⊢
    cases hgs : guardSlot l j with
    | none => simp only [hgs] at h
    | some d =>
     simp only [hgs] at h ⊢
     split at h
     ·rename_i b hsd
      try simp only [hsd]
      have hsame : ∀ b',b = b' → setSlot s.1 d (.w (.bool b')) = s.1 := by
       rintro b' rfl
       have := zgc s.1 d
       rw [hsd] at this; exact this
      by_cases hbw : b = want
      ·have h := h.1 hbw
       rw [hsame _ hbw] at h
       rw [if_pos hbw]; exact h
      ·have hb2 : b = !want := by cases b <;> cases want <;> simp_all
       have h := h.2 hb2
       rw [hsame _ hb2] at h
       rw [if_neg hbw]; exact ⟨trivial,h⟩
     ·rename_i hsd
      try simp only [hsd]
      exact ⟨trivial,h⟩
     ·exact h.elim
  obtain ⟨h1,h2⟩ := zln r (k + 1) hr' hl' hmain.2
  refine ⟨h1,fun j o' hj ho' => ?_⟩
  rcases Nat.lt_or_ge k j with h' | h'
  ·exact h2 j o' h' ho'
  ·obtain rfl : j = k := by omega
   rw [ho] at ho'; injection ho' with ho'; subst ho'
   exact hmain.1
section
variable {S : zah} {T : zab} {l : List Oper} {nm : Nat} {s0 : List AV × Heap}
theorem zcz {k : Nat} {o : Oper} {s : List AV × Heap} (hp : (zbx S T l (nm + 8 * k) o s).1) :
  (∃ x,(zbx S T l (nm + 8 * k) o s).2.1.1 = zal s.1 o.dst x) ∧
  (∀ id b,look (zbx S T l (nm + 8 * k) o s).2.1.2 id = some b → look s.2 id ≠ none ∨ (nm + 8 * k ≤ id ∧ id < nm + 8 * k + 8)) ∧
  (∀ id,(zae T o.op ≤ 1 ∨ id ∉ (zbx S T l (nm + 8 * k) o s).2.2) → ¬ (nm + 8 * k ≤ id ∧ id < nm + 8 * k + 8) → look (zbx S T l (nm + 8 * k) o s).2.1.2 id = look s.2 id) ∧
  (zae T o.op = 0 → ∀ id,look (zbx S T l (nm + 8 * k) o s).2.1.2 id = look s.2 id) ∧
  (∀ id,id ∈ (zbx S T l (nm + 8 * k) o s).2.2 → look s.2 id ≠ none ∨ id < nm + 8 * k) := by
 have hheld : (aopF S T (nm + 8 * k) s.1 o.op s.2).p → ∀ id,id ∈ foot s.1 o.op s.2 → look s.2 id ≠ none ∨ id < nm + 8 * k := fun hp id hid => held_in hp.1 hid
 have hskip : ∀ id b,look s.2 id = some b → look s.2 id ≠ none ∨ (nm + 8 * k ≤ id ∧ id < nm + 8 * k + 8) := fun id b h => .inl (by rw [h]; simp)
 unfold zbx at hp ⊢
 cases hg : o.guard with
 | none =>
  simp only [hg] at hp ⊢
  obtain ⟨h1,h2,h3⟩ := zuk hp
  exact ⟨⟨_,rfl⟩,h1,h2,h3,hheld hp⟩
 | some g =>
  obtain ⟨j,want⟩ := g
  simp only [hg] at hp ⊢
  cases hgs : guardSlot l j with
  | none => simp [hgs] at hp
  | some d =>
   simp only [hgs] at hp ⊢
   cases hsd : slot s.1 d with
   | w v =>
    cases v with
    | bool b =>
     simp only [hsd] at hp ⊢
     by_cases hbw : b = want
     ·rw [if_pos hbw] at hp ⊢
      obtain ⟨h1,h2,h3⟩ := zuk hp
      exact ⟨⟨_,rfl⟩,h1,h2,h3,hheld hp⟩
     ·rw [if_neg hbw] at hp ⊢
      exact ⟨⟨_,rfl⟩,hskip,fun _ _ _ => by first | rfl | trivial,fun _ _ => by first | rfl | trivial,fun id h => by simp at h⟩
    | _ => simp [hsd] at hp
   | tup xs =>
    cases xs with
    | nil =>
     simp only [hsd] at hp ⊢
     exact ⟨⟨_,rfl⟩,hskip,fun _ _ _ => by first | rfl | trivial,fun _ _ => by first | rfl | trivial,fun id h => by simp at h⟩
    | cons _ _ => simp [hsd] at hp
   | _ => simp [hsd] at hp
variable (hst : ∀ j o,l[j]? = some o → (zbx S T l (nm + 8 * j) o (zag S T l nm s0 j)).1)
include hst
theorem zcf (k : Nat) : (zag S T l nm s0 k).1.length = s0.1.length := by
 induction k with
 | zero => rfl
 | succ k ih =>
  simp only [zag]
  split
  ·rename_i o ho
   obtain ⟨⟨x,hx⟩,_⟩ := zcz (hst k o ho)
   rw [hx,zec,ih]
  ·exact ih
theorem zkn {t : Tmp} {i k : Nat} (hik : i ≤ k) (h : ∀ j o,i ≤ j → j < k → l[j]? = some o → o.dst ≠ some t) : slot (zag S T l nm s0 k).1 t = slot (zag S T l nm s0 i).1 t := by
 induction k with
 | zero => obtain rfl : i = 0 := by omega
           rfl
 | succ k ih =>
   by_cases hk : i = k + 1
   · rw [hk]
   · rw [← ih (by omega) (fun j o h1 h2 h3 => h j o h1 (by omega) h3)]
     simp only [zag]
     split
     · rename_i o ho
       obtain ⟨⟨x,hx⟩,_⟩ := zcz (hst k o ho)
       rw [hx]
       have := h k o (by omega) (by omega) ho
       cases hd : o.dst with
       | none => rfl
       | some d => exact zbt (fun e => this (by rw [hd,e]))
     · rfl
theorem zbr (h0 : ∀ id b,look s0.2 id = some b → id < nm) : ∀ k id b,look (zag S T l nm s0 k).2 id = some b → id < nm + 8 * k
 | 0,id,b,h => by simpa using h0 id b h
 | k + 1,id,b,h => by
  simp only [zag] at h
  split at h
  ·rename_i o ho
   obtain ⟨_,hn,_⟩ := zcz (hst k o ho)
   rcases hn id b h with h' | h'
   ·cases h2 : look (zag S T l nm s0 k).2 id with
    | none => exact (h' h2).elim
    | some c => have := zbr h0 k id c h2; omega
   ·omega
  ·have := zbr h0 k id b h; omega
theorem yan {id i k : Nat} (hik : i ≤ k) {b : Blk} (hl : look (zag S T l nm s0 k).2 id = some b) :
   look (zag S T l nm s0 i).2 id ≠ none ∨ ∃ j o,i ≤ j ∧ j < k ∧ l[j]? = some o ∧ zae T o.op ≠ 0 ∧ nm + 8 * j ≤ id ∧ id < nm + 8 * j + 8 := by
 induction k generalizing b with
 | zero => obtain rfl : i = 0 := by omega
           exact .inl (by rw [hl]; simp)
 | succ k ih =>
   by_cases hk : i = k + 1
   · subst hk; exact .inl (by rw [hl]; simp)
   · simp only [zag] at hl
     split at hl
     · rename_i o ho
       obtain ⟨_,hn,_,h0,_⟩ := zcz (hst k o ho)
       by_cases hz : zae T o.op = 0
       · rw [h0 hz] at hl
         rcases ih (by omega) hl with h | ⟨j,o,h1,h2,h3⟩
         · exact .inl h
         · exact .inr ⟨j,o,h1,by omega,h3⟩
       rcases hn id b hl with h' | h'
       · cases h2 : look (zag S T l nm s0 k).2 id with
         | none => exact (h' h2).elim
         | some c =>
           rcases ih (by omega) h2 with h | ⟨j,o,h1,h2,h3⟩
           · exact .inl h
           · exact .inr ⟨j,o,h1,by omega,h3⟩
       · exact .inr ⟨k,o,by omega,by omega,ho,hz,h'⟩
     · rcases ih (by omega) hl with h | ⟨j,o,h1,h2,h3⟩
       · exact .inl h
       · exact .inr ⟨j,o,h1,by omega,h3⟩
theorem zhi {id i k : Nat} (hik : i ≤ k) (hn : ∀ j o,i ≤ j → j < k → l[j]? = some o → (zae T o.op ≤ 1 ∨ id ∉ ftF S T l nm s0 j) ∧ (zae T o.op = 0 ∨ ¬ (nm + 8 * j ≤ id ∧ id < nm + 8 * j + 8))) :
   look (zag S T l nm s0 k).2 id = look (zag S T l nm s0 i).2 id := by
 induction k with
 | zero => obtain rfl : i = 0 := by omega
           rfl
 | succ k ih =>
   by_cases hk : i = k + 1
   · rw [hk]
   · rw [← ih (by omega) (fun j o h1 h2 h3 => hn j o h1 (by omega) h3)]
     simp only [zag]
     split
     · rename_i o ho
       obtain ⟨_,_,h1,h0,_⟩ := zcz (hst k o ho)
       obtain ⟨h2,h3⟩ := hn k o (by omega) (by omega) ho
       rcases h3 with h3 | h3
       · rw [h0 h3]
       · refine h1 id ?_ h3
         simpa only [ftF,ho] using h2
     · rfl
end
section
variable {P : Program} {S : zah} {T : zab} {l : List Oper} {nm : Nat} {s0 : List AV × Heap} {w0 : World} {E : Nat → Prop} {B : Bs}
structure InvF (S : zah) (T : zab) (l : List Oper) (nm : Nat) (s0 : List AV × Heap) (w0 : World) (E : Nat → Prop) (B : Bs) (listed : Array Bool) (a : Act) (w : World) (loc : Loc) : Prop where
 sizel : listed.size = l.length
 size : a.tmps.size = s0.1.length
 slots : ∀ t k,k ≤ l.length → (∀ i o,l[i]? = some o → o.dst = some t → (Ls listed i ↔ i < k)) → R w loc (slot (zag S T l nm s0 k).1 t) (a.tmps.getD t undef)
 heap : ∀ id k,k ≤ l.length → (∀ i o,l[i]? = some o → zae T o.op = 2 → id ∈ ftF S T l nm s0 i → (Ls listed i ↔ i < k)) → ∀ b,look (zag S T l nm s0 k).2 id = some b → BlkR w loc id b
 closed : ∀ j o,l[j]? = some o → Ls listed j → ∀ e ∈ o.after.toList,Region.binds .any e = true → Ls listed e.on
 fresh : ∀ i,¬ Ls listed i → i < l.length → ∀ id,nm + 8 * i ≤ id → id < nm + 8 * i + 8 → loc.m id = .free
 high : ∀ id,nm + 8 * l.length ≤ id → loc.m id = .free
 env : Env w0 E w loc
 base : Base w0 B w loc
 defers : a.defers = []
structure ydc (S : zah) (T : zab) (l : List Oper) (nm : Nat) (s0 : List AV × Heap) : Prop where
 back : ∀ j o,l[j]? = some o → ∀ e ∈ o.after.toList,Region.binds .any e = true → e.on < j
 clash : ∀ i j x y,i < j → l[i]? = some x → l[j]? = some y → zre l x y = true → ((zhm [] l).getD j 0).testBit i = true
 mem : ∀ i j x y,i < j → l[i]? = some x → l[j]? = some y → zzg T x y = true → ∀ id,id ∈ ftF S T l nm s0 j → id ∈ ftF S T l nm s0 i ∨ (nm + 8 * i ≤ id ∧ id < nm + 8 * i + 8) → ((zhm [] l).getD j 0).testBit i = true
theorem yej {pl : List (Nat × Nat)} (h : zhp T l pl = true) (hm : memOk pl ((List.range l.length).map fun j => (nm + 8 * j,ftF S T l nm s0 j)) = true) : ydc S T l nm s0 := by
 unfold zhp at h
 have h := List.all_eq_true.1 h
 have hlt : ∀ {j : Nat} {o : Oper},l[j]? = some o → j < l.length := fun h => (List.getElem?_eq_some_iff.1 h).1
 have hboth : ∀ i j x y,i < j → l[i]? = some x → l[j]? = some y → (zre l x y = true → ((zhm [] l).getD j 0).testBit i = true) ∧ (zzg T x y = true → ((zhm [] l).getD j 0).testBit i = true ∨ (i,j) ∈ pl) := by
  intro i j x y hij hx hy
  have := h j (List.mem_range.2 (hlt hy))
  simp only [hy,Bool.and_eq_true] at this
  have := List.all_eq_true.1 this.2 i (List.mem_range.2 hij)
  simp only [hx,Bool.and_eq_true,Bool.or_eq_true,Bool.not_eq_true',List.contains_iff_mem] at this
  refine ⟨fun hc => this.1.resolve_left (by rw [hc]; simp),fun hc => this.2.resolve_left (by rw [hc]; simp)⟩
 refine ⟨fun j o ho => ?_,fun i j x y hij hx hy hc => (hboth i j x y hij hx hy).1 hc,fun i j x y hij hx hy hc id hid hor => ?_⟩
 ·have := h j (List.mem_range.2 (hlt ho))
  simp only [ho,Bool.and_eq_true] at this
  exact zjd this.1
 ·rcases (hboth i j x y hij hx hy).2 hc with h1 | h1
  ·exact h1
  ·exfalso
   have := List.all_eq_true.1 hm (i,j) h1
   simp only [List.getElem?_map,List.getElem?_range (hlt hx),List.getElem?_range (hlt hy),Option.map_some] at this
   simp only [clearOf,List.all_eq_true,Bool.and_eq_true,Bool.not_eq_true',Bool.or_eq_true,decide_eq_true_eq] at this
   obtain ⟨h2,h3⟩ := this id hid
   rcases hor with h4 | h4
   ·rw [List.contains_iff_mem.2 h4] at h2; cases h2
   ·omega
theorem ztr {x y : Oper} {d : Tmp} (hd : x.dst = some d) (h : d ∈ y.looksAt l.toArray ∨ y.dst = some d) : zre l x y = true := by
 unfold zre
 rw [hd]
 rcases h with h | h
 ·simp [h]
 ·simp [h]
theorem ycf {x y : Oper} {d : Tmp} (hd : y.dst = some d) (h : d ∈ x.looksAt l.toArray) : zre l x y = true := by
 unfold zre
 rw [hd]
 simp [h]
theorem zhr {x y : Oper} (h : (zae T x.op = 2 ∧ zae T y.op ≠ 0) ∨ (zae T y.op = 2 ∧ zae T x.op ≠ 0)) : zzg T x y = true := by
 unfold zzg
 rcases h with ⟨h1,h2⟩ | ⟨h1,h2⟩
 ·simp [h1,h2]
 ·simp [h1,h2]
variable {listed : Array Bool} {a : Act} {w : World} {loc : Loc} {i : Nat} {o : Oper}
theorem zxq (hg : ydc S T l nm s0) (inv : InvF S T l nm s0 w0 E B listed a w loc) (ho : l[i]? = some o) (hnl : ¬ Ls listed i) (hrd : ∀ e ∈ o.after.toList,Region.binds .any e = true → Ls listed e.on) {t : Tmp} (ht : t ∈ o.looksAt l.toArray) :
  R w loc (slot (zag S T l nm s0 i).1 t) (a.tmps.getD t undef) := by
 have hlt : i < l.length := (List.getElem?_eq_some_iff.1 ho).1
 refine inv.slots t i (by omega) (fun j x hx hd => ⟨fun hl => ?_,fun hji => ?_⟩)
 ·rcases Nat.lt_trichotomy j i with h | h | h
  ·exact h
  ·subst h; exact (hnl hl).elim
  ·exact (hnl (zat hg.back inv.closed _ j i (Nat.lt_succ_self _) (hg.clash i j o x h ho hx (ycf hd ht)) x hx (inv.closed j x hx hl))).elim
 ·exact zat hg.back inv.closed _ i j (Nat.lt_succ_self _) (hg.clash j i x o hji hx ho (ztr hd (.inl ht))) o ho hrd
theorem zyi (hg : ydc S T l nm s0) (inv : InvF S T l nm s0 w0 E B listed a w loc) (ho : l[i]? = some o) (hnl : ¬ Ls listed i) (hrd : ∀ e ∈ o.after.toList,Region.binds .any e = true → Ls listed e.on) (hk : zae T o.op ≠ 0) {id : Nat} {b : Blk}
  (hid : id ∈ ftF S T l nm s0 i) (hb : look (zag S T l nm s0 i).2 id = some b) : BlkR w loc id b := by
 have hlt : i < l.length := (List.getElem?_eq_some_iff.1 ho).1
 refine inv.heap id i (by omega) (fun j x hx hd hf => ⟨fun hl => ?_,fun hji => ?_⟩) b hb
 ·rcases Nat.lt_trichotomy j i with h | h | h
  ·exact h
  ·subst h; exact (hnl hl).elim
  ·exact (hnl (zat hg.back inv.closed _ j i (Nat.lt_succ_self _) (hg.mem i j o x h ho hx (zhr (.inr ⟨hd,hk⟩)) id hf (.inl hid)) x hx (inv.closed j x hx hl))).elim
 ·exact zat hg.back inv.closed _ i j (Nat.lt_succ_self _) (hg.mem j i x o hji hx ho (zhr (.inl ⟨hd,hk⟩)) id hid (.inl hf)) o ho hrd
theorem ygl (hg : ydc S T l nm s0) (hst : ∀ j o,l[j]? = some o → (zbx S T l (nm + 8 * j) o (zag S T l nm s0 j)).1) (h0 : ∀ id b,look s0.2 id = some b → id < nm) (inv : InvF S T l nm s0 w0 E B listed a w loc) (ho : l[i]? = some o) (hnl : ¬ Ls listed i)
  (hrd : ∀ e ∈ o.after.toList,Region.binds .any e = true → Ls listed e.on) {x : AV} {v : Value} {w' : World} {loc' : Loc} {C : Nat → Prop}
  (hv : (zbx S T l (nm + 8 * i) o (zag S T l nm s0 i)).2.1.1 = zal (zag S T l nm s0 i).1 o.dst x) (hx : R w' loc' x v) (hE : Ext C w loc w' loc') (hC : zae T o.op ≤ 1 → ∀ id,¬ C id) (hCF : ∀ id,C id → id ∈ ftF S T l nm s0 i)
  (hfr : ∀ id,loc.m id = .free → loc'.m id ≠ .free → nm + 8 * i ≤ id ∧ id < nm + 8 * i + 8) (he : Env w0 E w' loc') (hb : Base w0 B w' loc')
  (hh : zae T o.op ≠ 0 → ∀ id b,id ∈ ftF S T l nm s0 i ∨ (nm + 8 * i ≤ id ∧ id < nm + 8 * i + 8) → look (zbx S T l (nm + 8 * i) o (zag S T l nm s0 i)).2.1.2 id = some b → BlkR w' loc' id b) :
  InvF S T l nm s0 w0 E B (listed.setIfInBounds i true) (a.put o.dst v) w' loc' := by
 have hlt : i < l.length := (List.getElem?_eq_some_iff.1 ho).1
 have his : i < listed.size := by rw [inv.sizel]; exact hlt
 have hls : ∀ j,Ls (listed.setIfInBounds i true) j ↔ j = i ∨ Ls listed j := fun j => zme his
 have htr : zag S T l nm s0 (i + 1) = (zbx S T l (nm + 8 * i) o (zag S T l nm s0 i)).2.1 := by simp only [zag,ho]
 have hfi : ftF S T l nm s0 i = (zbx S T l (nm + 8 * i) o (zag S T l nm s0 i)).2.2 := by simp only [ftF,ho]
 have hanc : ∀ j y,l[j]? = some y → i < j → Ls listed j → ((zhm [] l).getD j 0).testBit i = true → False := fun j y hy hij hl hc =>
  hnl (zat hg.back inv.closed _ j i (Nat.lt_succ_self _) hc y hy (inv.closed j y hy hl))
 refine ⟨by simp [inv.sizel],?_,?_,?_,?_,?_,?_,he,hb,?_⟩
 ·cases o.dst with
  | none => exact inv.size
  | some d => simp [Act.put,inv.size]
 ·intro t k hk hq
  by_cases hd : o.dst = some t
  ·have hik : i < k := (hq i o ho hd).1 ((hls i).2 (.inl rfl))
   have e1 : slot (zag S T l nm s0 k).1 t = slot (zag S T l nm s0 (i + 1)).1 t := by
    refine zkn hst (by omega) (fun j y h1 h2 hy hyd => ?_)
    have := (hls j).1 ((hq j y hy hyd).2 h2)
    rcases this with h | h
    ·omega
    ·exact hanc j y hy (by omega) h (hg.clash i j o y (by omega) ho hy (ztr hd (.inr hyd)))
   rw [e1,htr,hv,hd]
   simp only [zal]
   by_cases hts : t < (zag S T l nm s0 i).1.length
   ·rw [zch hts]
    have : (a.put (some t) v).tmps.getD t undef = v := by
     rw [zcf hst] at hts
     simp [Act.put,inv.size,hts]
    rw [this]; exact hx
   ·rw [zdq (by rw [zba]; exact Nat.le_of_not_lt hts)]; exact .junk _
  ·have h1 := inv.slots t k hk (fun j y hy hyd => by
    have hji : j ≠ i := by
     rintro rfl
     rw [ho] at hy; injection hy with hy; subst hy; exact hd hyd
    rw [← hq j y hy hyd,hls]
    simp [hji])
   have : (a.put o.dst v).tmps.getD t undef = a.tmps.getD t undef := by
    cases hdd : o.dst with
    | none => rfl
    | some d =>
     have hne : d ≠ t := fun e => hd (by rw [hdd,e])
     simp [Act.put,Array.getElem?_setIfInBounds_ne hne]
   rw [this]; exact h1.ext hE
 ·intro id k hk hq b hl
  by_cases hf' : loc'.m id = .free
  ·exact BlkR.free hf'
  by_cases h2 : zae T o.op = 2 ∧ id ∈ ftF S T l nm s0 i
  ·have hik : i < k := (hq i o ho h2.1 h2.2).1 ((hls i).2 (.inl rfl))
   have hidl : id < nm + 8 * i := by
    have h3 := (zcz (hst i o ho)).2.2.2.2 id (by rw [← hfi]; exact h2.2)
    cases h4 : look (zag S T l nm s0 i).2 id with
    | none => exact h3.resolve_left (fun h => h h4)
    | some c => exact zbr hst h0 i id c h4
   have hno : ∀ j y,i + 1 ≤ j → j < k → l[j]? = some y → (zae T y.op ≤ 1 ∨ id ∉ ftF S T l nm s0 j) ∧ (zae T y.op = 0 ∨ ¬ (nm + 8 * j ≤ id ∧ id < nm + 8 * j + 8)) := by
    intro j y h3 h4 hy
    refine ⟨?_,.inr (by omega)⟩
    by_cases hyf : id ∈ ftF S T l nm s0 j
    ·left
     have hle : zae T y.op ≤ 2 := zfn T y.op
     have hne : zae T y.op ≠ 2 := by
      intro hy2
      rcases (hls j).1 ((hq j y hy hy2 hyf).2 h4) with h | h
      ·omega
      ·exact hanc j y hy (by omega) h (hg.mem i j o y (by omega) ho hy (zhr (.inl ⟨h2.1,by omega⟩)) id hyf (.inl h2.2))
     omega
    ·exact .inr hyf
   rw [zhi hst (by omega) hno,htr] at hl
   exact hh (by omega) id b (.inl h2.2) hl
  ·have hold : BlkR w loc id b := inv.heap id k hk (fun j y hy hy2 hyf => by
    have hji : j ≠ i := by
     rintro rfl
     rw [ho] at hy; injection hy with hy; subst hy; exact h2 ⟨hy2,hyf⟩
    rw [← hq j y hy hy2 hyf,hls]
    simp [hji]) b hl
   by_cases hf : loc.m id = .free
   ·have hr := hfr id hf hf'
    have hik : i < k := by
     rcases Nat.lt_or_ge i k with h | h
     ·exact h
     ·have := zbr hst h0 k id b hl; omega
    by_cases hz : zae T o.op = 0
    ·exfalso
     rcases yan hst (i := i + 1) (by omega) hl with h | ⟨j,y,h3,_,_,_,h4,_⟩
     ·rw [htr,(zcz (hst i o ho)).2.2.2.1 hz] at h
      cases h5 : look (zag S T l nm s0 i).2 id with
      | none => exact h h5
      | some c => have := zbr hst h0 i id c h5; omega
     ·omega
    ·have hno : ∀ j y,i + 1 ≤ j → j < k → l[j]? = some y → (zae T y.op ≤ 1 ∨ id ∉ ftF S T l nm s0 j) ∧ (zae T y.op = 0 ∨ ¬ (nm + 8 * j ≤ id ∧ id < nm + 8 * j + 8)) := by
      intro j y h3 h4 hy
      refine ⟨?_,.inr (by omega)⟩
      by_cases hyf : id ∈ ftF S T l nm s0 j
      ·left
       have hle2 : zae T y.op ≤ 2 := zfn T y.op
       have hne : zae T y.op ≠ 2 := by
        intro hy2
        rcases (hls j).1 ((hq j y hy hy2 hyf).2 h4) with h | h
        ·omega
        ·exact hanc j y hy (by omega) h (hg.mem i j o y (by omega) ho hy (zhr (.inr ⟨hy2,hz⟩)) id hyf (.inr hr))
       omega
      ·exact .inr hyf
     rw [zhi hst (by omega) hno,htr] at hl
     exact hh hz id b (.inr hr) hl
   ·refine hold.ext hE (fun hc => ?_) hf
    have hle : zae T o.op ≤ 2 := zfn T o.op
    by_cases hk1 : zae T o.op ≤ 1
    ·exact hC hk1 id hc
    ·exact h2 ⟨by omega,hCF id hc⟩
 ·intro j y hy hl e hee hbe
  rw [hls]
  rcases (hls j).1 hl with h | h
  ·subst h
   rw [ho] at hy; injection hy with hy; subst hy
   exact .inr (hrd e hee hbe)
  ·exact .inr (inv.closed j y hy h e hee hbe)
 ·intro j hj hjl id h1 h2
  rw [hls] at hj
  have hji : j ≠ i := fun e => hj (.inl e)
  have hf := inv.fresh j (fun h => hj (.inr h)) hjl id h1 h2
  by_cases hf' : loc'.m id = .free
  ·exact hf'
  ·have := hfr id hf hf'; omega
 ·intro id h1
  have hf := inv.high id h1
  by_cases hf' : loc'.m id = .free
  ·exact hf'
  ·have := hfr id hf hf'; omega
 ·rw [← inv.defers]
  cases o.dst <;> rfl
end
end Ax
end Go.Proofs.Ytebacgkeoefnkaa
namespace Go.Proofs.Ytebacgkeoefnkaa
namespace Ax
section
variable {P : Program} {S : zah} {T : zab} {l : List Oper} {nm : Nat} {s0 : List AV × Heap} {w0 : World} {E : Nat → Prop} {B : Bs}
theorem zrq (hg : ydc S T l nm s0) {listed : Array Bool} (hsz : listed.size = l.length) (hr : Region.ready .any l.toArray listed = []) : ∀ n j,j < n → j < l.length → Ls listed j := by
 intro n
 induction n with
 | zero => intro j h; omega
 | succ n ih =>
  intro j hj hjl
  by_cases hl : Ls listed j
  ·exact hl
  ·exfalso
   have : j ∈ Region.ready .any l.toArray listed := by
    refine mem_ready.2 ⟨getD_in (by rw [hsz]; exact hjl) (by unfold Ls at hl; simpa using hl),l[j],by simp [hjl],fun e he hb => ?_⟩
    have hlt := hg.back j l[j] (List.getElem?_eq_getElem hjl) e (by simpa using he) hb
    exact ih e.on (by omega) (by omega)
   rw [hr] at this
   simp at this
theorem yhu (hT : TOk P T) (hS : Fns P S) (hg : ydc S T l nm s0) (hst : ∀ j o,l[j]? = some o → (zbx S T l (nm + 8 * j) o (zag S T l nm s0 j)).1) (h0 : ∀ id b,look s0.2 id = some b → id < nm) {K : Exit → Act → World → Prop}
  (hK : ∀ listed a w loc,InvF S T l nm s0 w0 E B listed a w loc → (∀ j,j < l.length → Ls listed j) → K .normal a w) :
  ∀ (fuel : Nat) (listed : Array Bool) (a : Act) (w : World) (loc : Loc),InvF S T l nm s0 w0 E B listed a w loc → listed.toList.count false ≤ fuel → wpAny P .any l.toArray K fuel listed a w := by
 intro fuel
 induction fuel with
 | zero =>
  intro listed a w loc inv hc
  have hall : ∀ j,j < l.length → Ls listed j := by
   intro j hj
   have hj' : j < listed.size := by rw [inv.sizel]; exact hj
   have h1 : false ∉ listed.toList := by
    intro hm
    have := List.count_pos_iff.2 hm
    omega
   unfold Ls
   have h2 : listed[j] ≠ false := fun e => h1 (by rw [← e]; simp)
   simpa [hj'] using h2
  refine ⟨?_,hK listed a w loc inv hall⟩
  cases hr : Region.ready .any l.toArray listed with
  | nil => rfl
  | cons j r =>
   exfalso
   have hm : j ∈ Region.ready .any l.toArray listed := by rw [hr]; simp
   obtain ⟨h1,o,ho,_⟩ := mem_ready.1 hm
   have hjl : j < l.length := by
    have := (Array.getElem?_eq_some_iff.1 ho).1
    simpa using this
   have := hall j hjl
   unfold Ls at this
   rw [getD_both h1] at this
   cases this
 | succ fuel ih =>
  intro listed a w loc inv hc
  refine ⟨fun hr => hK listed a w loc inv (fun j hj => zrq hg inv.sizel hr _ j (Nat.lt_succ_self _) hj),fun i hi => ?_⟩
  obtain ⟨hnl1,o,ho',hrd'⟩ := mem_ready.1 hi
  have ho : l[i]? = some o := by simpa using ho'
  have hnl : ¬ Ls listed i := by unfold Ls; rw [getD_both hnl1]; simp
  have hrd : ∀ e ∈ o.after.toList,Region.binds .any e = true → Ls listed e.on := fun e he hb => hrd' e (by simpa using he) hb
  have hlt : i < l.length := (List.getElem?_eq_some_iff.1 ho).1
  have hc' : (listed.setIfInBounds i true).toList.count false ≤ fuel := by
   have := zjb listed.toList i (by simpa using hnl1)
   rw [Array.toList_setIfInBounds]
   omega
  have hlook := fun t ht => zxq hg inv ho hnl hrd (t := t) ht
  have hlow := zbr hst h0 i
  have hev : ∀ x ∈ o.op.operands.toList,R w loc (ev (zag S T l nm s0 i).1 x) (a.eval x) := by
   intro x hx
   cases x with
   | tmp t => exact hlook t (by unfold Oper.looksAt; exact List.mem_append_left _ (List.mem_filterMap.2 ⟨.tmp t,hx,rfl⟩))
   | const v => exact ev_R (sl := []) (a := a) (fun t => .junk _) (.const v)
   | global g => exact .junk _
   | func f => exact ev_R (sl := []) (a := a) (fun t => .junk _) (.func f)
  have hstep := hst i o ho
  have hfi : ftF S T l nm s0 i = (zbx S T l (nm + 8 * i) o (zag S T l nm s0 i)).2.2 := by simp only [ftF,ho]
  have hadv := @ygl S T l nm s0 w0 E B listed a w loc i o hg hst h0 inv ho hnl hrd
  have hheap := fun (hk : zae T o.op ≠ 0) id b => @zyi S T l nm s0 w0 E B listed a w loc i o hg inv ho hnl hrd hk id b
  rw [hfi] at hadv hheap
  -- the operation is done
  have hdo : (aopF S T (nm + 8 * i) (zag S T l nm s0 i).1 o.op (zag S T l nm s0 i).2).p →
    (zbx S T l (nm + 8 * i) o (zag S T l nm s0 i)).2.1 = (zal (zag S T l nm s0 i).1 o.dst (aopF S T (nm + 8 * i) (zag S T l nm s0 i).1 o.op (zag S T l nm s0 i).2).x,(aopF S T (nm + 8 * i) (zag S T l nm s0 i).1 o.op (zag S T l nm s0 i).2).H) →
    (zbx S T l (nm + 8 * i) o (zag S T l nm s0 i)).2.2 = foot (zag S T l nm s0 i).1 o.op (zag S T l nm s0 i).2 →
    o.wp P a w (wpAny P .any l.toArray K fuel (listed.setIfInBounds i true)) K := by
   intro hp hs hft
   have hfree : ∀ id,nm + 8 * i ≤ id → id < nm + 8 * i + 8 → loc.m id = .free := inv.fresh i hnl hlt
   rw [hft] at hadv hheap
   by_cases hk : zae T o.op = 0
   ·obtain ⟨h1,h2,h3⟩ := zpq (H := keepIn (foot (zag S T l nm s0 i).1 o.op (zag S T l nm s0 i).2) (zag S T l nm s0 i).2) (S := S) (sl := (zag S T l nm s0 i).1) (nm := nm + 8 * i) hk hp.2
    refine zce hT hS inv.env (H := []) (fun id b h => by simp [look] at h) hfree o hev h1 _ K (fun v w' loc' hpost => ?_)
    obtain ⟨C,hE,hC⟩ := hpost.ext
    have hC' := hC (zkz (H := []) (by omega) h1)
    refine ih _ _ _ loc' (hadv (x := _) (C := C) (by rw [hs]) ?_ hE (fun _ => hC') (fun id h => (hC' id h).elim) hpost.fresh hpost.env (inv.base.post hpost) (fun h => (h hk).elim)) hc'
    have := hpost.r
    rw [h2] at this; exact this
   ·refine zuj hT hS inv.env (fun id b hid hl => hheap hk id b hid hl) hfree rfl hev hp _ K (fun v w' loc' wr hpost hext => ?_)
    obtain ⟨C,hE,hC,hCF⟩ := hext
    refine ih _ _ _ loc' (hadv (x := _) (C := C) (by rw [hs]) hpost.r hE hC hCF hpost.fresh hpost.env (inv.base.post hpost) (fun _ id b hor hl => ?_)) hc'
    rw [hs] at hl
    simp only [aopF] at hl
    rw [zdx] at hl
    cases h1 : look (aop S T (nm + 8 * i) (zag S T l nm s0 i).1 o.op (keepIn (foot (zag S T l nm s0 i).1 o.op (zag S T l nm s0 i).2) (zag S T l nm s0 i).2)).H id with
    | some c =>
     simp only [h1] at hl
     injection hl with hl
     subst hl
     exact hpost.h id c h1
    | none =>
     simp only [h1,zdw] at hl
     split at hl
     ·cases hl
     ·rename_i hn
      rcases hor with h2 | h2
      ·exact (hn h2).elim
      ·have := hlow id b hl; omega
  unfold wpOp
  rw [ho']
  simp only
  cases hgd : o.guard with
  | none =>
   rw [if_pos (by simp [Region.wanted,hgd])]
   left
   refine hdo ?_ ?_ ?_
   ·simpa [zbx,hgd] using hstep
   ·simp [zbx,hgd]
   ·simp [zbx,hgd]
  | some g =>
   obtain ⟨j,want⟩ := g
   simp only [zbx,hgd] at hstep hdo hadv
   cases hgs : guardSlot l j with
   | none => simp [hgs] at hstep
   | some d =>
    simp only [hgs] at hstep hdo hadv
    have hdl : d ∈ o.looksAt l.toArray := by
     unfold Oper.looksAt
     refine List.mem_append_right _ ?_
     rw [hgd]
     unfold guardSlot at hgs
     cases hj : l[j]? with
     | none => rw [hj] at hgs; cases hgs
     | some oj =>
      rw [hj] at hgs
      simp only at hgs
      simp [hj,hgs]
    have hval := hlook d hdl
    cases hsd : slot (zag S T l nm s0 i).1 d with
    | w u =>
     cases u with
     | bool b =>
      simp only [hsd] at hstep hdo hadv
      rw [hsd] at hval
      have hval := hval.wv
      have hdlt : d < a.tmps.size := by
       rw [inv.size,← zcf hst i]
       rcases Nat.lt_or_ge d (zag S T l nm s0 i).1.length with h' | h'
       ·exact h'
       ·rw [zdq h'] at hsd; cases hsd
      have hy := zgt (ops := l.toArray) (by simpa using hgs) hdlt hval
      have hw : (Region.wanted o (yielded l.toArray a.tmps) = true) ↔ b = want := by simp [Region.wanted,hgd,hy]
      by_cases hbw : b = want
      ·rw [if_pos (hw.2 hbw)]
       rw [if_pos hbw] at hstep hdo
       exact .inl (hdo hstep rfl rfl)
      ·rw [if_neg (fun h => hbw (hw.1 h))]
       simp only [if_neg hbw] at hadv
       refine ih _ _ _ loc (hadv (x := .tup []) (C := fun _ => False) rfl zhh (Ext.refl w loc) (fun _ _ h => h) (fun _ h => h.elim) (fun id h h' => (h' h).elim) inv.env inv.base (fun hk id b hor hl => ?_)) hc'
       rcases hor with h2 | h2
       ·simp at h2
       ·have := hlow id b hl; omega
     | _ => simp [hsd] at hstep
    | tup xs =>
     cases xs with
     | nil =>
      simp only [hsd] at hadv
      rw [hsd] at hval
      rw [if_neg (by simp [Region.wanted,hgd,zeh (ops := l.toArray) (by simpa using hgs) (yji hval)])]
      refine ih _ _ _ loc (hadv (x := .tup []) (C := fun _ => False) rfl zhh (Ext.refl w loc) (fun _ _ h => h) (fun _ h => h.elim) (fun id h h' => (h' h).elim) inv.env inv.base (fun hk id b hor hl => ?_)) hc'
      rcases hor with h2 | h2
      ·simp at h2
      ·have := hlow id b hl; omega
     | cons _ _ => simp [hsd] at hstep
    | _ => simp [hsd] at hstep
theorem zlf (hT : TOk P T) (hS : Fns P S) (hm : P.follows .mixedOrders = true) {pl : List (Nat × Nat)} {K : Exit → Act → World → Prop} {Q : List AV → Heap → Prop} {sl : List AV} {H : Heap} {a : Act} {w : World} {loc : Loc} {id : Nat}
  (hd : zhp T l pl = true) (hK : ∀ sl H a w loc,Base w0 B w loc → Rel' w0 E loc ⟨sl,H,nm + 8 * l.length⟩ a w → Q sl H → K .normal a w) (hb : Base w0 B w loc)
  (hr : Rel' w0 E loc ⟨sl,H,nm⟩ a w) (h : zep S T l pl nm [] l sl H Q) : (Code.region id l.toArray true).wp P K a w := by
 obtain ⟨⟨hQ,hmem⟩,hst⟩ := zln (S := S) (T := T) (nm := nm) (pl := pl) (Q := Q) (l := l) (s0 := (sl,H)) l 0 (fun j => by rw [Nat.zero_add]) (Nat.zero_add _) (by simpa [zag] using h)
 have hst' := fun j o ho => hst j o (Nat.zero_le _) ho
 have hg := yej hd hmem
 refine wp_region_any hm ?_
 have hL : ∀ i,¬ Ls (Array.replicate l.toArray.size false) i := fun i h => by
  unfold Ls at h
  rw [getD_replicate_false] at h; cases h
 refine yhu hT hS hg hst' hr.low (w0 := w0) (E := E) (B := B) ?_ _ _ _ _ loc ?_ ?_
 ·intro listed a w loc inv hall
  have hq : ∀ (i : Nat),i < l.length → (Ls listed i ↔ i < l.length) := fun i hi => ⟨fun _ => hi,fun _ => hall i hi⟩
  have hlt : ∀ {j : Nat} {o : Oper},l[j]? = some o → j < l.length := fun h => (List.getElem?_eq_some_iff.1 h).1
  refine hK _ _ a w loc inv.base ⟨?_,?_,?_,inv.env,inv.high,inv.defers,?_⟩ hQ
  ·simp only; rw [zcf hst']; exact inv.size
  ·exact fun t => inv.slots t _ (Nat.le_refl _) (fun i o ho _ => hq i (hlt ho))
  ·exact fun id b hl => inv.heap id _ (Nat.le_refl _) (fun i o ho _ _ => hq i (hlt ho)) b hl
  ·exact zbr hst' hr.low l.length
 ·have hbase : Base w0 B { w with drawn := w.drawn + 1 } loc := hb
  have hE : Ext (fun _ => False) w loc { w with drawn := w.drawn + 1 } loc := ⟨Nat.le_refl _,fun _ _ _ => rfl,fun _ _ _ => .inl rfl,fun _ _ h => ⟨rfl,h⟩,fun _ _ _ _ => rfl,fun _ cur _ fz h => ⟨cur,fz,h,rfl⟩⟩
  have hcl : ∀ {x v},R w loc x v → R { w with drawn := w.drawn + 1 } loc x v := fun h => h.ext hE
  refine ⟨by simp,hr.size,?_,?_,?_,?_,?_,⟨hr.env.os,hr.env.tape,hr.env.output,hr.env.size,hr.env.same,hr.env.inj,hr.env.lies,hr.env.bad⟩,hbase,hr.defers⟩
  ·intro t k hk hq
   have e : slot (zag S T l nm (sl,H) k).1 t = slot sl t := by
    refine zkn hst' (i := 0) (Nat.zero_le _) (fun j o _ hj ho hd => ?_)
    exact hL j ((hq j o ho hd).2 hj)
   rw [e]
   exact hcl (hr.slots t)
  ·intro id k hk hq b hl
   by_cases hf : loc.m id = .free
   ·exact BlkR.free hf
   ·have hidn : id < nm := by
     rcases Nat.lt_or_ge id nm with h' | h'
     ·exact h'
     ·exact (hf (hr.fresh id h')).elim
    have e : look (zag S T l nm (sl,H) k).2 id = look H id := by
     refine zhi hst' (i := 0) (Nat.zero_le _) (fun j o _ hj ho => ⟨?_,.inr (by omega)⟩)
     by_cases hid : id ∈ ftF S T l nm (sl,H) j
     ·left
      have hle : zae T o.op ≤ 2 := zfn T o.op
      have hne : zae T o.op ≠ 2 := fun h2 => hL j ((hq j o ho h2 hid).2 hj)
      omega
     ·exact .inr hid
    rw [e] at hl
    exact (hr.heap id b hl).ext hE (fun h => h) hf
  ·intro j o ho hl; exact (hL j hl).elim
  ·intro i _ hi id h1 h2; exact hr.fresh id (by simp only; omega)
  ·intro id h1; exact hr.fresh id (by simp only; omega)
 ·simp
end
end Ax
end Go.Proofs.Ytebacgkeoefnkaa
namespace Go.Proofs.Ytebacgkeoefnkaa
namespace Ax
open Go.RowKit
abbrev Plan := Nat → Option (List (Nat × Nat))
def zcy (T : zab) (pl : Plan) : Code → Bool
 | .region id ops draw => match pl id with
  | none => !draw || zmt T ops.toList
  | some p => draw && zhp T ops.toList p
 | .seq a b => zcy T pl a && zcy T pl b
 | .cond _ a b => zcy T pl a && zcy T pl b
 | .block _ c => zcy T pl c
 | .loop c => zcy T pl c
 | _ => true
def awpF (S : zah) (T : zab) (pl : Plan) : Code → (Exit → ASt → Prop) → ASt → Prop
 | .skip,Q,σ => Q .normal σ
 | .label _,Q,σ => Q .normal σ
 | .region id ops _,Q,σ => match pl id with
  | none => aops S T ops.toList σ.nx ops.toList σ.sl σ.H (regK (σ.nx + 8 * ops.toList.length) Q)
  | some p => zep S T ops.toList p σ.nx [] ops.toList σ.sl σ.H (regK (σ.nx + 8 * ops.toList.length) Q)
 | .seq a b,Q,σ => awpF S T pl a (seqK (awpF S T pl b Q) Q) σ
 | .cond c a b,Q,σ => match ev σ.sl c with
   | .w (.bool t) => zhy t (awpF S T pl a Q σ) (awpF S T pl b Q σ)
   | _ => False
 | .block id c,Q,σ => awpF S T pl c (zgk id Q) σ
 | .loop c,Q,σ => yjb (awpF S T pl c) Q σ
 | .exit id,Q,σ => Q (.exit id) σ
 | .ret,Q,σ => Q .ret σ
 | _,_,_ => False
open Classical in
theorem yiv {P : Program} {w0 : World} {E : Nat → Prop} {T : zab} {S : zah} {pl : Plan} (hm : P.follows .mixedOrders = true) (hT : TOk P T) (hS : Fns P S) {B : Bs} : ∀ (c : Code) (Q : Exit → ASt → Prop) (σ : ASt) (a : Act) (w : World),
  zcy T pl c = true → awpF S T pl c Q σ → Rel w0 E B σ a w → c.wp P (Low w0 E B Q) a w := by
 intro c
 induction c with
 | skip => intro Q σ a w hdr h hr; exact wp_skip ⟨σ,hr,h⟩
 | label l => intro Q σ a w hdr h hr; exact wp_label ⟨σ,hr,h⟩
 | ret => intro Q σ a w hdr h hr; exact wp_ret ⟨σ,hr,h⟩
 | exit id => intro Q σ a w hdr h hr; exact wp_exit ⟨σ,hr,h⟩
 | region id ops draw =>
  intro Q σ a w hdr h hr
  obtain ⟨loc,hb,hr⟩ := hr
  obtain ⟨sl,H,nx⟩ := σ
  have hK : ∀ sl H a w loc,Base w0 B w loc → Rel' w0 E loc ⟨sl,H,nx + 8 * ops.toList.length⟩ a w → regK (nx + 8 * ops.toList.length) Q sl H → Low w0 E B Q .normal a w := fun sl H a w loc h1 h2 h3 => ⟨_,⟨loc,h1,h2⟩,h3⟩
  simp only [zcy] at hdr
  simp only [awpF] at h
  cases hp : pl id with
  | none =>
   simp only [hp] at hdr h
   cases draw with
   | false => exact wp_region_list (zdd hT hS hK ops.toList nx sl H a w loc rfl hb hr h)
   | true => exact zfb hT hS hm w0 E ops.toList _ _ B nx sl H a w loc id (by simpa using hdr) hK hb hr h
  | some p =>
   simp only [hp,Bool.and_eq_true] at hdr h
   obtain ⟨hd1,hd2⟩ := hdr
   subst hd1
   exact zlf hT hS hm hd2 hK hb hr h
 | seq x y ihx ihy =>
  intro Q σ a w hdr h hr
  refine wp_seq (wp_mono (ihx _ σ a w (by simp only [zcy,Bool.and_eq_true] at hdr; exact hdr.1) h hr) ?_)
  rintro e a' w' ⟨σ',hr',hq⟩
  cases e with
  | normal => exact ihy Q σ' a' w' (by simp only [zcy,Bool.and_eq_true] at hdr; exact hdr.2) hq hr'
  | _ => exact ⟨σ',hr',hq⟩
 | cond c x y ihx ihy =>
  intro Q σ a w hdr h hr
  simp only [awpF,zhy] at h
  simp only [zcy,Bool.and_eq_true] at hdr
  obtain ⟨loc,hb,hr⟩ := hr
  split at h
  ·rename_i t hc
   have hv := ev_R hr.slots c
   rw [hc] at hv
   have hv := hv.wv
   cases t with
   | true => exact wp_cond_true hv (ihx Q σ a w hdr.1 (h.1 rfl) ⟨loc,hb,hr⟩)
   | false => exact wp_cond_false hv (ihy Q σ a w hdr.2 (h.2 rfl) ⟨loc,hb,hr⟩)
  ·exact h.elim
 | block id c ih =>
  intro Q σ a w hdr h hr
  refine wp_block (wp_mono (ih _ σ a w hdr h hr) ?_)
  rintro e a' w' ⟨σ',hr',hq⟩
  cases e with
  | exit id' =>
   simp only [zgk,Exit.inBlock] at hq ⊢
   split at hq
   ·rename_i he; rw [if_pos he]; exact ⟨σ',hr',hq⟩
   ·rename_i he; rw [if_neg he]; exact ⟨σ',hr',hq⟩
  | _ => exact ⟨σ',hr',hq⟩
 | loop c ih =>
  intro Q σ a w hdr h hr
  obtain ⟨I,⟨n0,σ0,hw0,hI0⟩,hround⟩ := h
  let p : Act → World → Nat → Prop := fun a w n => ∃ σ,Rel w0 E B σ a w ∧ I n σ
  have hleast : ∀ a w,(∃ n,p a w n) → ∃ m,p a w m ∧ ∀ k,p a w k → m ≤ k := fun a w ⟨n,hn⟩ => let ⟨m,h1,_,h3⟩ := ypz n hn; ⟨m,h1,h3⟩
  let μ : Act → World → Nat := fun a w => if h : ∃ n,p a w n then Classical.choose (hleast a w h) else 0
  refine wp_loop (fun a w => ∃ n,p a w n) μ ⟨n0,σ0,hw0 w0 E B a w hr,hI0⟩ ?_
  intro a w hex
  have hμ : μ a w = Classical.choose (hleast a w hex) := dif_pos hex
  obtain ⟨⟨σ1,hr1,hI1⟩,hmin⟩ := Classical.choose_spec (hleast a w hex)
  rw [← hμ] at hI1
  refine wp_mono (ih _ σ1 a w hdr (hround _ σ1 hI1) hr1) ?_
  rintro e a' w' ⟨σ',hr',hq⟩
  cases e with
  | normal =>
   obtain ⟨m,σ2,hlt,hw2,hI2⟩ := hq
   have hp : p a' w' m := ⟨σ2,hw2 w0 E B a' w' hr',hI2⟩
   refine ⟨⟨m,hp⟩,?_⟩
   have hμ' : μ a' w' = Classical.choose (hleast a' w' ⟨m,hp⟩) := dif_pos ⟨m,hp⟩
   have := (Classical.choose_spec (hleast a' w' ⟨m,hp⟩)).2 m hp
   rw [← hμ'] at this
   exact Nat.lt_of_le_of_lt this hlt
  | _ =>
   obtain ⟨σ2,hw2,hq⟩ := hq
   exact ⟨σ2,hw2 w0 E B a' w' hr',hq⟩
 | _ => intro Q σ a w hdr h hr; exact h.elim
theorem yha {P : Program} {T : zab} {S : zah} (hT : TOk P T) (hS : Fns P S) {f : FuncId} {fn : Func} {c : Code} (hf : P.funcs[f]? = some fn) (hb : fn.body = some c) {spec : zas} {Qp : List AV → List Blk → Exit → ASt → Prop}
  (hqp : ∀ xs pins e σ,Qp xs pins e σ → ∃ σ',Weak σ σ' ∧ Ends T fn.results.toList pins (spec xs pins) e σ')
  (h : ∀ xs pins,(spec xs pins).p → closedB pins = true → pins.length ≤ 4 ∧ ∀ w0 E B a w,Rel w0 E B ⟨xs ++ List.replicate (fn.ntmps - xs.length) .junk,pinHeap 0 pins,4⟩ a w → c.wp P (Low w0 E B (Qp xs pins)) a w) : zbg P f spec := by
 intro xs pins hp hcl w bad pb vs hlen hnd hbad hlies hxl hx
 obtain ⟨hp4,h⟩ := h xs pins hp hcl
 refine calls_of_wp hf hb ?_
 have hrel : Rel w (· ∈ pb) ⟨bad,pb⟩ ⟨xs ++ List.replicate (fn.ntmps - xs.length) .junk,pinHeap 0 pins,4⟩ { tmps := vs.toArray ++ Array.replicate (fn.ntmps - vs.toArray.size) undef,defers := [] } w := by
  refine ⟨zav pb bad,⟨⟨rfl,fun k hk cur e fz hh => ⟨cur,fz,hh,rfl⟩⟩,by simp only; omega,fun k hk => .inr ⟨by simp [zav,List.getElem?_eq_getElem hk],fun cur e fz hh => ⟨cur,fz,hh,rfl⟩⟩⟩,?_⟩
  refine ⟨by simp [hxl],fun t => ?_,?_,?_,?_,rfl,fun id b hl => ?_⟩
  ·simp only
   rw [zcr]
   by_cases ht : t < xs.length
   ·have e1 : (xs ++ List.replicate (fn.ntmps - xs.length) AV.junk).getD t .junk = xs[t] := by simp [List.getElem?_append_left,ht]
    have e2 : (vs.toArray ++ Array.replicate (fn.ntmps - vs.toArray.size) undef).getD t undef = vs[t]'(by omega) := by
     have : t < vs.length := by omega
     simp [Array.getD_eq_getD_getElem?,Array.getElem?_append,this]
    rw [e1,e2]
    exact hx t ht _
   ·have e1 : (xs ++ List.replicate (fn.ntmps - xs.length) AV.junk).getD t .junk = .junk := by
     rw [List.getD_eq_getElem?_getD,List.getElem?_append_right (by omega),List.getElem?_replicate]
     split <;> rfl
    rw [e1]; exact .junk _
  ·intro id b hl
   obtain ⟨j,hj,rfl,rfl⟩ := zbk pins 0 id b hl
   have hj' : j < pb.length := by omega
   unfold BlkR
   have : (zav pb bad).m (0 + j) = .here pb[j] := by simp [zav,List.getElem?_eq_getElem hj']
   rw [this]
   exact hlies j hj hj'
  ·refine ⟨rfl,rfl,rfl,Nat.le_refl _,fun _ _ _ => rfl,?_,?_,?_⟩
   ·intro i j b hi hj
    obtain ⟨h1,h2⟩ := zby hi
    obtain ⟨h3,h4⟩ := zby hj
    exact zcd hnd (h2.trans h4.symm)
   ·intro i b hi
    obtain ⟨h1,h2⟩ := zby hi
    subst h2
    refine ⟨?_,.inr (List.getElem_mem h1)⟩
    obtain ⟨ob,hh⟩ := zjq (hlies i (by omega) h1).2
    rcases Nat.lt_or_ge pb[i] w.heap.size with h' | h'
    ·exact h'
    ·rw [Array.getElem?_eq_none h'] at hh; cases hh
   ·exact fun b hb => hbad b hb
  ·intro id hid
   simp only at hid
   have : pb[id]? = none := List.getElem?_eq_none (by omega)
   simp [zav,this]
  ·obtain ⟨j,hj,rfl,_⟩ := zbk pins 0 id b hl
   simp; omega
 refine wp_mono (h _ _ _ _ w hrel) ?_
 have main : ∀ a w' σ,Rel w (· ∈ pb) ⟨bad,pb⟩ σ a w' → (rvals T σ.H σ.sl fn.results.toList).1 ∧ EndsX pins (spec xs pins) (rone (rvals T σ.H σ.sl fn.results.toList).2) σ →
   a.defers = [] ∧ ∃ v,(results fn a.tmps).run P w' = .ok v w' ∧ ∃ v' loc',Ending.returned v = .returned v' ∧ ysa w bad pb (spec xs pins) v' w' loc' := by
  rintro a w' σ ⟨loc,hB,hr⟩ ⟨hrv,hnodup,hpin,hbl,hren⟩
  obtain ⟨v,hv,hR⟩ := zil (P := P) (fn := fn) hT hr.heap hr.slots hrv
  refine ⟨hr.defers,v,hv,v,?_⟩
  generalize rone (rvals T σ.H σ.sl fn.results.toList).2 = x at hnodup hpin hbl hren hR
  have hnd' := nodup_iff hnodup
  obtain ⟨hids1,hids2⟩ := zgw x.ids (upTo 0 pins)
  obtain ⟨hu1,hu2⟩ := zlr pins 0
  generalize hids : newIds (upTo 0 pins) x.ids = ids at hnodup hpin hbl hren hnd' hids1 hids2
  obtain ⟨hpl,hpc,hpg⟩ := zfa hpin
  rw [hbl] at hpl hpc hpg
  obtain ⟨t,rfl⟩ := hids1
  have hm : pins.length ≤ (upTo 0 pins ++ t).length := by simp [hu1]
  have hold : ∀ k,(hk : k < pins.length) → (upTo 0 pins ++ t)[k]'(by omega) = k := by
   intro k hk
   rw [List.getElem_append_left (by omega)]
   have := hu2 k (by omega)
   omega
  -- every one of the names is alive
  have hlive : ∀ (k : Nat) (hk : k < (upTo 0 pins ++ t).length),loc.m (upTo 0 pins ++ t)[k] ≠ .free := by
   intro k hk
   rcases hids2 _ (List.getElem_mem hk) with hi | hi
   ·obtain ⟨j,hj,he⟩ := List.getElem_of_mem hi
    rw [← he,hu2 j hj]
    have hj' : j < pb.length := by omega
    rcases hB.2.2 j hj' with h1 | ⟨h1,_⟩
    ·rw [Nat.zero_add,h1]; simp
    ·rw [Nat.zero_add,h1]; simp
   ·exact zdk x v hR hi
  have hblk : ∀ (k : Nat) (hk : k < (upTo 0 pins ++ t).length) (hk' : k < (spec xs pins).bl.length),BlkR w' loc (upTo 0 pins ++ t)[k] (spec xs pins).bl[k] := by
   intro k hk hk'
   refine hr.heap _ _ ?_
   rw [hpg k hk,List.getElem?_eq_getElem hk']
  have hdead : ∀ (k : Nat) (hk : k < (upTo 0 pins ++ t).length),loc.m (upTo 0 pins ++ t)[k] ≠ .dead := by
   intro k hk e
   have := hblk k hk (by omega)
   unfold BlkR at this
   rw [e] at this
   exact this
  let g : Nat → Nat := gOf (upTo 0 pins ++ t) σ.nx
  have hgo : ∀ k,(hk : k < (upTo 0 pins ++ t).length) → g k = (upTo 0 pins ++ t)[k] := fun k hk => zes hk
  have hgn : ∀ k,(upTo 0 pins ++ t).length ≤ k → loc.m (g k) = .free := by
   intro k hk
   refine hr.fresh _ ?_
   show σ.nx ≤ gOf _ σ.nx k
   rw [zdy hk]; omega
  let loc' : Loc := { m := fun k => loc.m (g k),bad := loc.bad }
  have hlt : ∀ i b,loc'.m i = .here b → i < (upTo 0 pins ++ t).length := by
   intro i b hi
   rcases Nat.lt_or_ge i (upTo 0 pins ++ t).length with h' | h'
   ·exact h'
   ·have : loc'.m i = .free := hgn i h'
    rw [this] at hi; cases hi
  have hinj : ∀ i j b,loc'.m i = .here b → loc'.m j = .here b → i = j := by
   intro i j b hi hj
   have h1 := hlt i b hi
   have h2 := hlt j b hj
   have h3 : g i = g j := hr.env.inj (g i) (g j) b hi hj
   rw [hgo i h1,hgo j h2] at h3
   exact zcd hnd' h3
  have hpb : ∀ (k : Nat) (hk : k < pb.length),loc'.m k = .here pb[k] ∧ ∀ cur e fz,w.heap[pb[k]]? = some (.cells cur e fz) → ∃ cur' fz',w'.heap[pb[k]]? = some (.cells cur' e fz') ∧ cur'.size = cur.size := by
   intro k hk
   have hk1 : k < pins.length := by omega
   have e : loc'.m k = loc.m k := by
    show loc.m (g k) = loc.m k
    rw [hgo k (by omega),hold k hk1]
   rcases hB.2.2 k hk with h1 | ⟨h1,h2⟩
   ·have := hdead k (by omega)
    rw [hold k hk1] at this
    exact (this h1).elim
   ·exact ⟨e.trans h1,h2⟩
  refine ⟨loc',rfl,?_⟩
  refine ⟨ygn (loc2 := loc') (g := g) (fun _ => rfl) rfl hR _ hren,hB.1.1,?_,fun k hk => (hpb k hk).1,?_,?_,hinj,?_⟩
  ·intro k hk
   have hk' : k < (upTo 0 pins ++ t).length := by omega
   have e : loc'.m k = loc.m (upTo 0 pins ++ t)[k] := by show loc.m (g k) = _; rw [hgo k hk']
   refine ⟨?_,by rw [e]; exact hlive k hk',by rw [e]; exact hdead k hk'⟩
   have hb := hblk k hk' hk
   unfold BlkR at hb ⊢
   rw [e]
   split
   ·trivial
   ·rename_i e'; rw [e'] at hb; exact hb
   ·rename_i e'; rw [e'] at hb; exact hb
   ·rename_i b e'
    rw [e'] at hb
    refine ⟨hb.1,zfm hb.2 (zft hpc k hk) (.inr ?_)⟩
    rintro c _ (h | ⟨i,h⟩)
    ·exact .inl h
    ·exact .inr ⟨g i,h⟩
  ·intro k b hk hkb
   have := hr.env.lies (g k) b hkb
   refine ⟨?_,this.1⟩
   rcases this.2 with h' | h'
   ·exact h'
   ·obtain ⟨j,hj,he⟩ := List.getElem_of_mem h'
    have h1 := (hpb j hj).1
    rw [he] at h1
    have := hinj k j b hkb h1
    omega
  ·intro k hk
   exact hgn k (by omega)
  ·refine ⟨hr.env.os,hr.env.tape,hr.env.output,hr.env.size,hr.env.same,?_⟩
   rintro b cur e fz hb hh
   obtain ⟨j,hj,rfl⟩ := List.getElem_of_mem hb
   exact (hpb j hj).2 cur e fz hh
 rintro e a w' ⟨σ0,hr0,hq0⟩
 obtain ⟨σ,hwk,hq⟩ := hqp xs pins e σ0 hq0
 have hr := hwk _ _ _ _ _ hr0
 cases e with
 | normal => exact main a w' σ hr hq
 | ret => exact main a w' σ hr hq
 | _ => exact hq.elim
theorem zmo {P : Program} {T : zab} {S : zah} {pl : Plan} (hm : P.follows .mixedOrders = true) (hT : TOk P T) (hS : Fns P S) {f : FuncId} {fn : Func} {c : Code} (hf : P.funcs[f]? = some fn) (hb : fn.body = some c) (hd : zcy T pl c = true) {spec : zas}
  (h : ∀ xs pins,(spec xs pins).p → closedB pins = true → pins.length ≤ 4 ∧ awpF S T pl c (yaj T fn.results.toList pins (spec xs pins)) ⟨xs ++ List.replicate (fn.ntmps - xs.length) .junk,pinHeap 0 pins,4⟩) : zbg P f spec :=
 yha hT hS hf hb (Qp := fun xs pins => yaj T fn.results.toList pins (spec xs pins)) (fun _ _ _ _ h => h) (fun xs pins hp hc => ⟨(h xs pins hp hc).1,fun w0 E B a w hr => yiv hm hT hS c _ _ _ _ hd (h xs pins hp hc).2 hr⟩)
def yef (S : zah) (T : zab) (pl : Plan) (b : Code) (Q : Exit → ASt → Prop) : Exit → ASt → Prop := seqK (awpF S T pl b Q) Q
section rules
variable {S : zah} {T : zab} {pl : Plan} {Q : Exit → ASt → Prop} {σ : ASt}
theorem yaa : awpF S T pl .skip Q σ = Q .normal σ := rfl
theorem zub {l : Nat} : awpF S T pl (.label l) Q σ = Q .normal σ := rfl
theorem ygg : awpF S T pl .ret Q σ = Q .ret σ := rfl
theorem yab {id : Nat} : awpF S T pl (.exit id) Q σ = Q (.exit id) σ := rfl
theorem zrn {id : Nat} {l : List Oper} {draw : Bool} : awpF S T pl (.region id l.toArray draw) Q σ = match pl id with
  | none => aops S T l σ.nx l σ.sl σ.H (regK (σ.nx + 8 * l.length) Q)
  | some p => zep S T l p σ.nx [] l σ.sl σ.H (regK (σ.nx + 8 * l.length) Q) := by
 simp [awpF]
theorem ygf {a b : Code} : awpF S T pl (.seq a b) Q σ = awpF S T pl a (yef S T pl b Q) σ := rfl
theorem zuc {id : Nat} {c : Code} : awpF S T pl (.block id c) Q σ = awpF S T pl c (zgk id Q) σ := rfl
theorem yac {c : Operand} {a b : Code} : awpF S T pl (.cond c a b) Q σ = match ev σ.sl c with
   | .w (.bool t) => zhy t (awpF S T pl a Q σ) (awpF S T pl b Q σ)
   | _ => False := rfl
theorem zea {c : Code} (h : yjb (awpF S T pl c) Q σ) : awpF S T pl (.loop c) Q σ := h
theorem zad {b : Code} : yef S T pl b Q .normal σ = awpF S T pl b Q σ := rfl
theorem zpx {b : Code} {id : Nat} : yef S T pl b Q (.exit id) σ = Q (.exit id) σ := rfl
theorem zte {b : Code} : yef S T pl b Q .ret σ = Q .ret σ := rfl
variable {ops r : List Oper} {o : Oper} {nm : Nat} {sl : List AV} {H : Heap} {Q' : List AV → Heap → Prop} {pp : List (Nat × Nat)} {acc : List (Nat × List Nat)}
theorem yag : zep S T ops pp nm acc [] sl H Q' = (memOk pp acc = true ∧ Q' sl H) := rfl
theorem zro {dst : Option Tmp} {op : Op} {type : TypeId} {pos : String} {after : Array Edge} : zep S T ops pp nm acc (⟨dst,op,type,pos,after,none⟩ :: r) sl H Q' =
  ((aopF S T nm sl op H).p ∧ zep S T ops pp (nm + 8) (acc ++ [(nm,foot sl op H)]) r (zal sl dst (aopF S T nm sl op H).x) (aopF S T nm sl op H).H Q') := rfl
theorem zrp {dst : Option Tmp} {op : Op} {type : TypeId} {pos : String} {after : Array Edge} {j : Nat} {want : Bool} : zep S T ops pp nm acc (⟨dst,op,type,pos,after,some (j,want)⟩ :: r) sl H Q' =
  match guardSlot ops j with
   | none => False
   | some d => match slot sl d with
    | .w (.bool b) =>
     zhw b want ((aopF S T nm (setSlot sl d (.w (.bool want))) op H).p ∧
      zep S T ops pp (nm + 8) (acc ++ [(nm,foot (setSlot sl d (.w (.bool want))) op H)]) r (zal (setSlot sl d (.w (.bool want))) dst (aopF S T nm (setSlot sl d (.w (.bool want))) op H).x) (aopF S T nm (setSlot sl d (.w (.bool want))) op H).H Q')
     (zep S T ops pp (nm + 8) (acc ++ [(nm,[])]) r (zal (setSlot sl d (.w (.bool !want))) dst (.tup [])) H Q')
    | .tup [] => zep S T ops pp (nm + 8) (acc ++ [(nm,[])]) r (zal sl dst (.tup [])) H Q'
    | _ => False := rfl
end rules
end Ax
end Go.Proofs.Ytebacgkeoefnkaa
namespace Go.Proofs.Ytebacgkeoefnkaa
open Ax
theorem evTP : (type_of% @yaa) ∧
  (type_of% @zub) ∧
  (type_of% @ygg) ∧
  (type_of% @yab) ∧
  (type_of% @zrn) ∧
  (type_of% @ygf) ∧
  (type_of% @zuc) ∧
  (type_of% @yac) ∧
  (type_of% @zpx) ∧
  (type_of% @zte) ∧
  (type_of% @yag) ∧
  (type_of% @zro) ∧
  (type_of% @zrp) :=
 ⟨@yaa,@zub,@ygg,@yab,@zrn,@ygf,@zuc,@yac,@zpx,@zte,@yag,@zro,@zrp⟩
theorem evDP : (type_of% @Ax.aopF.eq_1) ∧
  (type_of% @Ax.foot.eq_1) ∧
  (type_of% @Ax.footA.eq_1) ∧
  (type_of% @Ax.keepIn.eq_1) ∧
  (type_of% @Ax.keepIn.eq_2) ∧
  (type_of% @Ax.dropIn.eq_1) ∧
  (type_of% @Ax.dropIn.eq_2) ∧
  (type_of% @Ax.bids.eq_1) ∧
  (type_of% @Ax.bids.eq_2) ∧
  (type_of% @Ax.heldB.eq_1) ∧
  (type_of% @Ax.memOk.eq_1) ∧
  (type_of% @Ax.clearOf.eq_1) :=
 ⟨@Ax.aopF.eq_1,@Ax.foot.eq_1,@Ax.footA.eq_1,@Ax.keepIn.eq_1,@Ax.keepIn.eq_2,@Ax.dropIn.eq_1,@Ax.dropIn.eq_2,@Ax.bids.eq_1,@Ax.bids.eq_2,@Ax.heldB.eq_1,@Ax.memOk.eq_1,@Ax.clearOf.eq_1⟩
open Ax
attribute [go_sem] evDP evTP Blk.ids Op.operands Call.operands
end Go.Proofs.Ytebacgkeoefnkaa
namespace Go.Proofs.Ytebacgkeoefnkaa
namespace Ax
def zoa (f k : Nat) (ops : List Oper) : Bool :=
 let ms := zhm [] ops
 (List.range ops.length).all fun j => match ops[j]? with
  | some y => yct j y.after.toList && (decide (j < k) || (List.range j).all fun i => (ms.getD j 0).testBit i || (decide (j = k) && decide (i = f)))
  | none => true
def tailB (k : Nat) (ops : List Oper) : Bool := zoa k k ops
theorem zej {f k : Nat} {ops : List Oper} (h : zoa f k ops = true) {j : Nat} {y : Oper} (hy : ops[j]? = some y) :
  (∀ e ∈ y.after.toList,Region.binds .any e = true → e.on < j) ∧ (k ≤ j → ∀ i,i < j → (k < j ∨ i ≠ f) → ((zhm [] ops).getD j 0).testBit i = true) := by
 unfold zoa at h
 have := List.all_eq_true.1 h j (List.mem_range.2 (List.getElem?_eq_some_iff.1 hy).1)
 simp only [hy,Bool.and_eq_true,Bool.or_eq_true,decide_eq_true_eq] at this
 refine ⟨zjd this.1,fun hk i hi hif => ?_⟩
 rcases this.2 with h1 | h1
 ·omega
 ·have := List.all_eq_true.1 h1 i (List.mem_range.2 hi)
  simp only [Bool.or_eq_true,Bool.and_eq_true,decide_eq_true_eq] at this
  rcases this with h2 | ⟨h2,h3⟩
  ·exact h2
  ·omega
def ztm (T : zab) (o : Oper) : Bool := o.after.toList.isEmpty && decide (zae T o.op = 0)
theorem zmj {l : List Oper} (suf : List Oper) {j : Nat} {d : Tmp} (h : guardSlot l j = some d) : guardSlot (l ++ suf) j = some d := by
 unfold guardSlot at h ⊢
 cases hj : l[j]? with
 | none => rw [hj] at h; cases h
 | some o =>
  rw [hj] at h
  rw [List.getElem?_append_left (List.getElem?_eq_some_iff.1 hj).1,hj]
  exact h
section
variable {P : Program} {S : zah} {T : zab} {l suf : List Oper} {nm fl : Nat} {s0 : List AV × Heap} {w0 : World} {E : Nat → Prop} {B : Bs}
theorem ydf (ht : zoa fl l.length (l ++ suf) = true) {K : Exit → Act → World → Prop} : ∀ (fuel t : Nat) (listed : Array Bool) (a : Act) (w : World),listed.size = l.length + suf.length → t ≤ suf.length → (∀ j,Ls listed j ↔ j < l.length + t) → suf.length - t ≤ fuel →
  wpList P (l ++ suf).toArray K (suf.drop t) a w → wpAny P .any (l ++ suf).toArray K fuel listed a w := by
 intro fuel
 have hnl : ∀ {listed : Array Bool} {j : Nat},listed.getD j true = false → ¬ Ls listed j := fun h h' => by unfold Ls at h'; rw [getD_both h] at h'; cases h'
 induction fuel with
 | zero =>
  intro t listed a w hs ht1 hL hf h
  obtain rfl : t = suf.length := by omega
  rw [List.drop_length] at h
  refine ⟨?_,h⟩
  cases hr : Region.ready .any (l ++ suf).toArray listed with
  | nil => rfl
  | cons j r =>
   exfalso
   obtain ⟨h1,o,ho,_⟩ := mem_ready.1 (show j ∈ Region.ready .any (l ++ suf).toArray listed by rw [hr]; simp)
   have := (Array.getElem?_eq_some_iff.1 ho).1
   simp only [List.size_toArray,List.length_append] at this
   exact hnl h1 ((hL j).2 this)
 | succ fuel ih =>
  intro t listed a w hs ht1 hL hf h
  by_cases hte : t = suf.length
  ·subst hte
   rw [List.drop_length] at h
   refine ⟨fun _ => h,fun i hi => ?_⟩
   exfalso
   obtain ⟨h1,o,ho,_⟩ := mem_ready.1 hi
   have := (Array.getElem?_eq_some_iff.1 ho).1
   simp only [List.size_toArray,List.length_append] at this
   exact hnl h1 ((hL i).2 this)
  ·have hlt : t < suf.length := by omega
   have hoL : (l ++ suf)[l.length + t]? = some suf[t] := by rw [List.getElem?_append_right (by omega)]; simp
   have hin : l.length + t ∈ Region.ready .any (l ++ suf).toArray listed := by
    refine mem_ready.2 ⟨getD_in (by omega) ?_,suf[t],by simpa using hoL,fun e he hb => ?_⟩
    ·have : ¬ Ls listed (l.length + t) := fun h => by have := (hL _).1 h; omega
     unfold Ls at this
     simpa using this
    ·have := (zej ht hoL).1 e (by simpa using he) hb
     exact (hL e.on).2 this
   refine ⟨fun hr => ?_,fun i hi => ?_⟩
   ·rw [hr] at hin; simp at hin
   ·obtain ⟨h1,o,ho,hrd⟩ := mem_ready.1 hi
    have hil : i < l.length + suf.length := by
     have := (Array.getElem?_eq_some_iff.1 ho).1
     simpa using this
    have hge : l.length + t ≤ i := by
     rcases Nat.lt_or_ge i (l.length + t) with h' | h'
     ·exact (hnl h1 ((hL i).2 h')).elim
     ·exact h'
    have ho' : (l ++ suf)[i]? = some o := by simpa using ho
    obtain rfl : i = l.length + t := by
     rcases Nat.lt_or_ge (l.length + t) i with h' | h'
     ·exfalso
      have hb := (zej ht ho').2 (by omega) _ h' (.inl (by omega))
      have := zat (l := l ++ suf) (L := fun j => Ls listed j) (fun j o hj => (zej ht hj).1) (fun j o hj hj2 e he hb => by
       have := (zej ht hj).1 e he hb
       have := (hL j).1 hj2
       exact (hL e.on).2 (by omega)) (i + 1) i _ (Nat.lt_succ_self _) hb o ho' (fun e he hb => hrd e (by simpa using he) hb)
      have := (hL _).1 this
      omega
     ·omega
    rw [hoL] at ho'; injection ho' with ho'; subst ho'
    have hd : suf.drop t = suf[t] :: suf.drop (t + 1) := List.drop_eq_getElem_cons hlt
    rw [hd] at h
    have h9 : wpOp P (l ++ suf).toArray K (l.length + t) (wpList P (l ++ suf).toArray K (suf.drop (t + 1))) a w := by
     unfold wpOp
     rw [ho]
     exact h
    refine wpOp_mono (fun a' w' h' => ih (t + 1) _ a' w' (by simpa using hs) hlt (fun j => ?_) (by omega) h') h9
    rw [zme (by omega),hL]
    omega
theorem yjk (ht : zoa fl l.length (l ++ suf) = true) (hfl : fl < l.length) {of : Oper} (hof : l[fl]? = some of) (hfb : ztm T of = true) (hne : 0 < suf.length) {K : Exit → Act → World → Prop} (fuel : Nat) (listed : Array Bool) (a : Act) (w : World) (hs : listed.size = l.length + suf.length) (hL : ∀ j,Ls listed j ↔ j < l.length + 1 ∧ j ≠ fl) (hf : suf.length ≤ fuel)
  (hcl : ∀ j o,(l ++ suf)[j]? = some o → Ls listed j → ∀ e ∈ o.after.toList,Region.binds .any e = true → Ls listed e.on)
  (h : wpList P (l ++ suf).toArray K (of :: suf.drop 1) a w) : wpAny P .any (l ++ suf).toArray K fuel listed a w := by
 have hnl : ∀ {listed : Array Bool} {j : Nat},listed.getD j true = false → ¬ Ls listed j := fun h h' => by unfold Ls at h'; rw [getD_both h] at h'; cases h'
 obtain ⟨fu,rfl⟩ : ∃ fu,fuel = fu + 1 := ⟨fuel - 1,by omega⟩
 have hfoL : (l ++ suf)[fl]? = some of := by rw [List.getElem?_append_left hfl]; exact hof
 unfold ztm at hfb
 simp only [Bool.and_eq_true,decide_eq_true_eq,List.isEmpty_iff] at hfb
 have hin : fl ∈ Region.ready .any (l ++ suf).toArray listed := by
  refine mem_ready.2 ⟨getD_in (by omega) ?_,of,by simpa using hfoL,fun e he hb => ?_⟩
  ·have : ¬ Ls listed fl := fun h => ((hL _).1 h).2 rfl
   unfold Ls at this
   simpa using this
  ·have he' : e ∈ of.after.toList := by simpa using he
   rw [hfb.1] at he'; cases he'
 refine ⟨fun hr => ?_,fun i hi => ?_⟩
 ·rw [hr] at hin; simp at hin
 ·obtain ⟨h1,o,ho,hrd⟩ := mem_ready.1 hi
  have hil : i < l.length + suf.length := by
   have := (Array.getElem?_eq_some_iff.1 ho).1
   simpa using this
  have ho' : (l ++ suf)[i]? = some o := by simpa using ho
  have hni := hnl h1
  obtain rfl : i = fl := by
   rcases Nat.decEq i fl with h' | h'
   ·exfalso
    have hk : l.length < i := by
     rcases Nat.lt_or_ge l.length i with h2 | h2
     ·exact h2
     ·exact (hni ((hL i).2 ⟨by omega,h'⟩)).elim
    have hb := (zej ht ho').2 (by omega) fl (by omega) (.inl hk)
    have := zat (l := l ++ suf) (L := fun j => Ls listed j) (fun j o hj => (zej ht hj).1) hcl (i + 1) i _ (Nat.lt_succ_self _) hb o ho' (fun e he hb => hrd e (by simpa using he) hb)
    exact ((hL fl).1 this).2 rfl
   ·exact h'
  rw [hfoL] at ho'; injection ho' with ho'; subst ho'
  have h9 : wpOp P (l ++ suf).toArray K i (wpList P (l ++ suf).toArray K (suf.drop 1)) a w := by
   unfold wpOp
   rw [ho]
   exact h
  refine wpOp_mono (fun a' w' h' => ydf ht fu 1 _ a' w' (by simpa using hs) (by omega) (fun j => ?_) (by omega) h') h9
  rw [zme (by omega),hL]
  omega
theorem yht (hT : TOk P T) (hS : Fns P S) (htl : zoa fl l.length (l ++ suf) = true) (hg : ydc S T l nm s0) (hst : ∀ j o,l[j]? = some o → (zbx S T l (nm + 8 * j) o (zag S T l nm s0 j)).1) (h0 : ∀ id b,look s0.2 id = some b → id < nm) {K : Exit → Act → World → Prop}
  (hK : ∀ listed a w loc,InvF S T l nm s0 w0 E B listed a w loc → (∀ j,j < l.length → Ls listed j) → wpList P (l ++ suf).toArray K suf a w)
  (hK2 : ∀ of c,l[fl]? = some of → suf[0]? = some c → ztm T of = true ∧ ∀ listed a w loc,InvF S T l nm s0 w0 E B listed a w loc → (∀ j,j < l.length → (Ls listed j ↔ j ≠ fl)) → wpList P (l ++ suf).toArray K (c :: of :: suf.drop 1) a w) :
  ∀ (fuel : Nat) (listedL listed : Array Bool) (a : Act) (w : World) (loc : Loc),(listedL.size = l.length + suf.length ∧ ∀ j,Ls listedL j ↔ j < l.length ∧ Ls listed j) → InvF S T l nm s0 w0 E B listed a w loc → listedL.toList.count false ≤ fuel → wpAny P .any (l ++ suf).toArray K fuel listedL a w := by
 have hnl' : ∀ {listed : Array Bool} {j : Nat},listed.getD j true = false → ¬ Ls listed j := fun h h' => by unfold Ls at h'; rw [getD_both h] at h'; cases h'
 have hall : ∀ (fuel : Nat) (listedL listed : Array Bool) (a : Act) (w : World) (loc : Loc),(listedL.size = l.length + suf.length ∧ ∀ j,Ls listedL j ↔ j < l.length ∧ Ls listed j) → InvF S T l nm s0 w0 E B listed a w loc → listedL.toList.count false ≤ fuel →
   (∀ j,j < l.length → Ls listed j) → wpAny P .any (l ++ suf).toArray K fuel listedL a w := by
  intro fuel listedL listed a w loc hrel inv hc hj
  refine ydf htl fuel 0 listedL a w hrel.1 (Nat.zero_le _) (fun j => by rw [hrel.2]; exact ⟨fun h => by omega,fun h => ⟨by omega,hj j (by omega)⟩⟩) ?_ (hK listed a w loc inv hj)
  have h1 : (listedL.toList.drop l.length).count false = suf.length := by
   rw [List.count_eq_length.2]
   ·rw [List.length_drop,Array.length_toList,hrel.1]; omega
   ·intro b hb
    obtain ⟨i,hi,rfl⟩ := List.getElem_of_mem hb
    rw [List.getElem_drop,Array.getElem_toList]
    have hi' : l.length + i < listedL.size := by rw [List.length_drop,Array.length_toList] at hi; omega
    have h2 : ¬ Ls listedL (l.length + i) := fun h => by have := (hrel.2 _).1 h; omega
    unfold Ls at h2
    simpa [hi'] using (Eq.symm (by simpa [hi'] using h2 : listedL[l.length + i] = false))
  have h2 := List.count_append (a := false) (l₁ := listedL.toList.take l.length) (l₂ := listedL.toList.drop l.length)
  rw [List.take_append_drop] at h2
  omega
 intro fuel
 induction fuel with
 | zero =>
  intro listedL listed a w loc hrel inv hc
  refine hall 0 listedL listed a w loc hrel inv hc (fun j hj => ?_)
  have hj' : j < listedL.size := by rw [hrel.1]; omega
  have h1 : false ∉ listedL.toList := by
   intro hm
   have := List.count_pos_iff.2 hm
   omega
  have h2 : listedL[j] ≠ false := fun e => h1 (by rw [← e]; simp)
  exact ((hrel.2 j).1 (by unfold Ls; simpa [hj'] using h2)).2
 | succ fuel ih =>
  intro listedL listed a w loc hrel inv hc
  by_cases hA : ∀ j,j < l.length → Ls listed j
  ·exact hall (fuel + 1) listedL listed a w loc hrel inv hc hA
  have hsub : ∀ i,i < l.length → (i ∈ Region.ready .any l.toArray listed ↔ i ∈ Region.ready .any (l ++ suf).toArray listedL) := by
   intro i hi
   have hnn : listed.getD i true = false ↔ listedL.getD i true = false := by
    constructor
    ·intro h
     have h1 := hnl' h
     refine getD_in (by rw [hrel.1]; omega) ?_
     have : ¬ Ls listedL i := fun h' => h1 ((hrel.2 i).1 h').2
     unfold Ls at this; simpa using this
    ·intro h
     have h1 := hnl' h
     refine getD_in (by rw [inv.sizel]; exact hi) ?_
     have : ¬ Ls listed i := fun h' => h1 ((hrel.2 i).2 ⟨hi,h'⟩)
     unfold Ls at this; simpa using this
   rw [mem_ready,mem_ready,hnn]
   have hL : (l ++ suf)[i]? = l[i]? := List.getElem?_append_left hi
   simp only [List.getElem?_toArray,hL]
   refine and_congr_right fun _ => exists_congr fun o => and_congr_right fun ho => forall_congr' fun e => forall_congr' fun he => forall_congr' fun hb => ?_
   have := hg.back i o ho e (by simpa using he) hb
   have := hrel.2 e.on
   unfold Ls at this
   rw [this]
   exact ⟨fun h => ⟨by omega,h⟩,fun h => h.2⟩
  refine ⟨fun hr => ?_,fun i hi => ?_⟩
  ·exfalso
   refine hA (fun j hj => zrq hg inv.sizel ?_ _ j (Nat.lt_succ_self _) hj)
   cases hr2 : Region.ready .any l.toArray listed with
   | nil => rfl
   | cons j r =>
    exfalso
    have hm : j ∈ Region.ready .any l.toArray listed := by rw [hr2]; simp
    obtain ⟨_,o,ho,_⟩ := mem_ready.1 hm
    have hjl : j < l.length := by have := (Array.getElem?_eq_some_iff.1 ho).1; simpa using this
    have := (hsub j hjl).1 hm
    rw [hr] at this; simp at this
  by_cases hlt : i < l.length
  case neg =>
   obtain ⟨h1,o,ho,hrd⟩ := mem_ready.1 hi
   have ho' : (l ++ suf)[i]? = some o := by simpa using ho
   have hanc : ∀ j,j < l.length → (l.length < i ∨ j ≠ fl) → Ls listed j := fun j hj hor => by
    have hb := (zej htl ho').2 (by omega) j (by omega) hor
    have := zat (l := l ++ suf) (L := fun j => Ls listedL j) (fun j o hj => (zej htl hj).1) (fun j o hj hj2 e he hb => by
     have h3 := (hrel.2 j).1 hj2
     rw [List.getElem?_append_left h3.1] at hj
     have h4 := inv.closed j o hj h3.2 e he hb
     have := hg.back j o hj e he hb
     exact (hrel.2 e.on).2 ⟨by omega,h4⟩) (i + 1) i _ (Nat.lt_succ_self _) hb o ho' (fun e he hb => hrd e (by simpa using he) hb)
    exact ((hrel.2 j).1 this).2
   have hie : i = l.length := by
    rcases Nat.decEq i l.length with h' | h'
    ·exact (hA (fun j hj => hanc j hj (.inl (by omega)))).elim
    ·exact h'
   subst hie
   have hfl : fl < l.length ∧ ¬ Ls listed fl := by
    refine Classical.byContradiction fun hc => hA (fun j hj => ?_)
    by_cases hjf : j = fl
    ·subst hjf
     exact Classical.byContradiction fun h2 => hc ⟨hj,h2⟩
    ·exact hanc j hj (.inr hjf)
   have hall2 : ∀ j,j < l.length → (Ls listed j ↔ j ≠ fl) := fun j hj => ⟨fun h e => hfl.2 (e ▸ h),fun h => hanc j hj (.inr h)⟩
   have hs0 : 0 < suf.length := by
    have := (Array.getElem?_eq_some_iff.1 ho).1
    simp only [List.size_toArray,List.length_append] at this
    omega
   obtain ⟨of,hof⟩ : ∃ of,l[fl]? = some of := ⟨_,List.getElem?_eq_getElem hfl.1⟩
   have ho2 : suf[0]? = some o := by rw [List.getElem?_append_right (Nat.le_refl _)] at ho'; simpa using ho'
   obtain ⟨hfb,hk2⟩ := hK2 of o hof ho2
   have hw := hk2 listed a w loc inv hall2
   have h9 : wpOp P (l ++ suf).toArray K l.length (wpList P (l ++ suf).toArray K (of :: suf.drop 1)) a w := by
    unfold wpOp
    rw [ho]
    exact hw
   have hnlL : ∀ j,l.length ≤ j → ¬ Ls listedL j := fun j hj h => by have := (hrel.2 j).1 h; omega
   refine wpOp_mono (fun a' w' h' => yjk htl hfl.1 hof hfb hs0 fuel _ a' w' (by simpa using hrel.1) (fun j => ?_) ?_ ?_ h') h9
   ·rw [zme (by rw [hrel.1]; omega),hrel.2]
    constructor
    ·rintro (rfl | ⟨h2,h3⟩)
     ·exact ⟨by omega,by omega⟩
     ·exact ⟨by omega,fun e => hfl.2 (e ▸ h3)⟩
    ·rintro ⟨h2,h3⟩
     by_cases hj : j = l.length
     ·exact .inl hj
     ·exact .inr ⟨by omega,hanc j (by omega) (.inr h3)⟩
   ·have h1 : (listedL.toList.drop l.length).count false = suf.length := by
     rw [List.count_eq_length.2]
     ·rw [List.length_drop,Array.length_toList,hrel.1]; omega
     ·intro b hb
      obtain ⟨i,hi,rfl⟩ := List.getElem_of_mem hb
      rw [List.getElem_drop,Array.getElem_toList]
      have hi' : l.length + i < listedL.size := by rw [List.length_drop,Array.length_toList] at hi; omega
      have h2 := hnlL (l.length + i) (by omega)
      unfold Ls at h2
      simpa [hi'] using (Eq.symm (by simpa [hi'] using h2 : listedL[l.length + i] = false))
    have h2 := List.count_append (a := false) (l₁ := listedL.toList.take l.length) (l₂ := listedL.toList.drop l.length)
    rw [List.take_append_drop] at h2
    have h3 : 0 < (listedL.toList.take l.length).count false := by
     refine List.count_pos_iff.2 ?_
     have hi' : fl < listedL.size := by rw [hrel.1]; omega
     have h4 : ¬ Ls listedL fl := fun h => hfl.2 ((hrel.2 fl).1 h).2
     unfold Ls at h4
     have h5 : listedL[fl] = false := by simpa [hi'] using h4
     rw [← h5]
     have h6 := hfl.1
     have h7 := hrel.1
     refine List.mem_take_iff_getElem.2 ⟨fl,by simp only [Array.length_toList,List.size_toArray,h7]; omega,by simp⟩
    omega
   ·intro j oj hj hj2 e he hb
    rw [zme (by rw [hrel.1]; omega)] at hj2 ⊢
    rcases hj2 with rfl | hj2
    ·rw [ho'] at hj; injection hj with hj; subst hj
     exact .inr (hrd e (by simpa using he) hb)
    ·have h3 := (hrel.2 j).1 hj2
     rw [List.getElem?_append_left h3.1] at hj
     have h4 := inv.closed j oj hj h3.2 e he hb
     have := hg.back j oj hj e he hb
     exact .inr ((hrel.2 e.on).2 ⟨by omega,h4⟩)
  obtain ⟨hnl1L,_,hoL,_⟩ := mem_ready.1 hi
  obtain ⟨hnl1,o,ho',hrd'⟩ := mem_ready.1 ((hsub i hlt).2 hi)
  have ho : l[i]? = some o := by simpa using ho'
  have hoL : (l ++ suf).toArray[i]? = some o := by rw [List.getElem?_toArray,List.getElem?_append_left hlt]; exact ho
  have hnl : ¬ Ls listed i := hnl' hnl1
  have hrd : ∀ e ∈ o.after.toList,Region.binds .any e = true → Ls listed e.on := fun e he hb => hrd' e (by simpa using he) hb
  have hrel' : (listedL.setIfInBounds i true).size = l.length + suf.length ∧ ∀ j,Ls (listedL.setIfInBounds i true) j ↔ j < l.length ∧ Ls (listed.setIfInBounds i true) j := by
   refine ⟨by simpa using hrel.1,fun j => ?_⟩
   rw [zme (by rw [hrel.1]; omega),zme (by rw [inv.sizel]; exact hlt),hrel.2]
   constructor
   ·rintro (rfl | h)
    ·exact ⟨hlt,.inl rfl⟩
    ·exact ⟨h.1,.inr h.2⟩
   ·rintro ⟨h1,h | h⟩
    ·exact .inl h
    ·exact .inr ⟨h1,h⟩
  have hc' : (listedL.setIfInBounds i true).toList.count false ≤ fuel := by
   have := zjb listedL.toList i (by simpa using hnl1L)
   rw [Array.toList_setIfInBounds]
   omega
  have hlook := fun t ht => zxq hg inv ho hnl hrd (t := t) ht
  have hlow := zbr hst h0 i
  have hev : ∀ x ∈ o.op.operands.toList,R w loc (ev (zag S T l nm s0 i).1 x) (a.eval x) := by
   intro x hx
   cases x with
   | tmp t => exact hlook t (by unfold Oper.looksAt; exact List.mem_append_left _ (List.mem_filterMap.2 ⟨.tmp t,hx,rfl⟩))
   | const v => exact ev_R (sl := []) (a := a) (fun t => .junk _) (.const v)
   | global g => exact .junk _
   | func f => exact ev_R (sl := []) (a := a) (fun t => .junk _) (.func f)
  have hstep := hst i o ho
  have hfi : ftF S T l nm s0 i = (zbx S T l (nm + 8 * i) o (zag S T l nm s0 i)).2.2 := by simp only [ftF,ho]
  have hadv := @ygl S T l nm s0 w0 E B listed a w loc i o hg hst h0 inv ho hnl hrd
  have hheap := fun (hk : zae T o.op ≠ 0) id b => @zyi S T l nm s0 w0 E B listed a w loc i o hg inv ho hnl hrd hk id b
  rw [hfi] at hadv hheap
  -- the operation is done
  have hdo : (aopF S T (nm + 8 * i) (zag S T l nm s0 i).1 o.op (zag S T l nm s0 i).2).p →
    (zbx S T l (nm + 8 * i) o (zag S T l nm s0 i)).2.1 = (zal (zag S T l nm s0 i).1 o.dst (aopF S T (nm + 8 * i) (zag S T l nm s0 i).1 o.op (zag S T l nm s0 i).2).x,(aopF S T (nm + 8 * i) (zag S T l nm s0 i).1 o.op (zag S T l nm s0 i).2).H) →
    (zbx S T l (nm + 8 * i) o (zag S T l nm s0 i)).2.2 = foot (zag S T l nm s0 i).1 o.op (zag S T l nm s0 i).2 →
    o.wp P a w (wpAny P .any (l ++ suf).toArray K fuel (listedL.setIfInBounds i true)) K := by
   intro hp hs hft
   have hfree : ∀ id,nm + 8 * i ≤ id → id < nm + 8 * i + 8 → loc.m id = .free := inv.fresh i hnl hlt
   rw [hft] at hadv hheap
   by_cases hk : zae T o.op = 0
   ·obtain ⟨h1,h2,h3⟩ := zpq (H := keepIn (foot (zag S T l nm s0 i).1 o.op (zag S T l nm s0 i).2) (zag S T l nm s0 i).2) (S := S) (sl := (zag S T l nm s0 i).1) (nm := nm + 8 * i) hk hp.2
    refine zce hT hS inv.env (H := []) (fun id b h => by simp [look] at h) hfree o hev h1 _ K (fun v w' loc' hpost => ?_)
    obtain ⟨C,hE,hC⟩ := hpost.ext
    have hC' := hC (zkz (H := []) (by omega) h1)
    refine ih _ _ _ _ loc' hrel' (hadv (x := _) (C := C) (by rw [hs]) ?_ hE (fun _ => hC') (fun id h => (hC' id h).elim) hpost.fresh hpost.env (inv.base.post hpost) (fun h => (h hk).elim) ) hc'
    have := hpost.r
    rw [h2] at this; exact this
   ·refine zuj hT hS inv.env (fun id b hid hl => hheap hk id b hid hl) hfree rfl hev hp _ K (fun v w' loc' wr hpost hext => ?_)
    obtain ⟨C,hE,hC,hCF⟩ := hext
    refine ih _ _ _ _ loc' hrel' (hadv (x := _) (C := C) (by rw [hs]) hpost.r hE hC hCF hpost.fresh hpost.env (inv.base.post hpost) (fun _ id b hor hl => ?_) ) hc'
    rw [hs] at hl
    simp only [aopF] at hl
    rw [zdx] at hl
    cases h1 : look (aop S T (nm + 8 * i) (zag S T l nm s0 i).1 o.op (keepIn (foot (zag S T l nm s0 i).1 o.op (zag S T l nm s0 i).2) (zag S T l nm s0 i).2)).H id with
    | some c =>
     simp only [h1] at hl
     injection hl with hl
     subst hl
     exact hpost.h id c h1
    | none =>
     simp only [h1,zdw] at hl
     split at hl
     ·cases hl
     ·rename_i hn
      rcases hor with h2 | h2
      ·exact (hn h2).elim
      ·have := hlow id b hl; omega
  unfold wpOp
  rw [hoL]
  simp only
  cases hgd : o.guard with
  | none =>
   rw [if_pos (by simp [Region.wanted,hgd])]
   left
   refine hdo ?_ ?_ ?_
   ·simpa [zbx,hgd] using hstep
   ·simp [zbx,hgd]
   ·simp [zbx,hgd]
  | some g =>
   obtain ⟨j,want⟩ := g
   simp only [zbx,hgd] at hstep hdo hadv
   cases hgs : guardSlot l j with
   | none => simp [hgs] at hstep
   | some d =>
    simp only [hgs] at hstep hdo hadv
    have hdl : d ∈ o.looksAt l.toArray := by
     unfold Oper.looksAt
     refine List.mem_append_right _ ?_
     rw [hgd]
     unfold guardSlot at hgs
     cases hj : l[j]? with
     | none => rw [hj] at hgs; cases hgs
     | some oj =>
      rw [hj] at hgs
      simp only at hgs
      simp [hj,hgs]
    have hval := hlook d hdl
    cases hsd : slot (zag S T l nm s0 i).1 d with
    | w u =>
     cases u with
     | bool b =>
      simp only [hsd] at hstep hdo hadv
      rw [hsd] at hval
      have hval := hval.wv
      have hdlt : d < a.tmps.size := by
       rw [inv.size,← zcf hst i]
       rcases Nat.lt_or_ge d (zag S T l nm s0 i).1.length with h' | h'
       ·exact h'
       ·rw [zdq h'] at hsd; cases hsd
      have hy := zgt (ops := (l ++ suf).toArray) (by simpa using zmj suf hgs) hdlt hval
      have hw : (Region.wanted o (yielded (l ++ suf).toArray a.tmps) = true) ↔ b = want := by simp [Region.wanted,hgd,hy]
      by_cases hbw : b = want
      ·rw [if_pos (hw.2 hbw)]
       rw [if_pos hbw] at hstep hdo
       exact .inl (hdo hstep rfl rfl)
      ·rw [if_neg (fun h => hbw (hw.1 h))]
       simp only [if_neg hbw] at hadv
       refine ih _ _ _ _ loc hrel' (hadv (x := .tup []) (C := fun _ => False) rfl zhh (Ext.refl w loc) (fun _ _ h => h) (fun _ h => h.elim) (fun id h h' => (h' h).elim) inv.env inv.base (fun hk id b hor hl => ?_) ) hc'
       rcases hor with h2 | h2
       ·simp at h2
       ·have := hlow id b hl; omega
     | _ => simp [hsd] at hstep
    | tup xs =>
     cases xs with
     | nil =>
      simp only [hsd] at hadv
      rw [hsd] at hval
      rw [if_neg (by simp [Region.wanted,hgd,zeh (ops := (l ++ suf).toArray) (by simpa using zmj suf hgs) (yji hval)])]
      refine ih _ _ _ _ loc hrel' (hadv (x := .tup []) (C := fun _ => False) rfl zhh (Ext.refl w loc) (fun _ _ h => h) (fun _ h => h.elim) (fun id h h' => (h' h).elim) inv.env inv.base (fun hk id b hor hl => ?_) ) hc'
      rcases hor with h2 | h2
      ·simp at h2
      ·have := hlow id b hl; omega
     | cons _ _ => simp [hsd] at hstep
    | _ => simp [hsd] at hstep
theorem zqx (hT : TOk P T) (hS : Fns P S) (hm : P.follows .mixedOrders = true) {pl : List (Nat × Nat)} {K : Exit → Act → World → Prop} {Q : List AV → Heap → Prop} {sl : List AV} {H : Heap} {a : Act} {w : World} {loc : Loc} {id : Nat}
  (hd : zhp T l pl = true) (htl : zoa fl l.length (l ++ suf) = true) (hK : ∀ sl H a w loc,Base w0 B w loc → Rel' w0 E loc ⟨sl,H,nm + 8 * l.length⟩ a w → Q sl H → wpList P (l ++ suf).toArray K suf a w)
  (hK2 : ∀ of c,l[fl]? = some of → suf[0]? = some c → ztm T of = true ∧ ∀ sl H a w loc,Base w0 B w loc → Rel' w0 E loc ⟨zal sl of.dst .junk,H,nm + 8 * l.length⟩ a w → Q sl H → wpList P (l ++ suf).toArray K (c :: of :: suf.drop 1) a w) (hb : Base w0 B w loc)
  (hr : Rel' w0 E loc ⟨sl,H,nm⟩ a w) (h : zep S T l pl nm [] l sl H Q) : (Code.region id (l ++ suf).toArray true).wp P K a w := by
 obtain ⟨⟨hQ,hmem⟩,hst⟩ := zln (S := S) (T := T) (nm := nm) (pl := pl) (Q := Q) (l := l) (s0 := (sl,H)) l 0 (fun j => by rw [Nat.zero_add]) (Nat.zero_add _) (by simpa [zag] using h)
 have hst' := fun j o ho => hst j o (Nat.zero_le _) ho
 have hg := yej hd hmem
 refine wp_region_any hm ?_
 have hL : ∀ i,¬ Ls (Array.replicate l.length false) i := fun i h => by
  unfold Ls at h
  rw [getD_replicate_false] at h; cases h
 have hL' : ∀ i,¬ Ls (Array.replicate (l ++ suf).toArray.size false) i := fun i h => by
  unfold Ls at h
  rw [getD_replicate_false] at h; cases h
 refine yht hT hS htl hg hst' hr.low (w0 := w0) (E := E) (B := B) ?_ ?_ _ _ (Array.replicate l.length false) _ _ loc ⟨by simp,fun j => ⟨fun h => (hL' j h).elim,fun h => (hL j h.2).elim⟩⟩ ?_ ?_
 ·intro listed a w loc inv hall
  have hq : ∀ (i : Nat),i < l.length → (Ls listed i ↔ i < l.length) := fun i hi => ⟨fun _ => hi,fun _ => hall i hi⟩
  have hlt : ∀ {j : Nat} {o : Oper},l[j]? = some o → j < l.length := fun h => (List.getElem?_eq_some_iff.1 h).1
  refine hK _ _ a w loc inv.base ⟨?_,?_,?_,inv.env,inv.high,inv.defers,?_⟩ hQ
  ·simp only; rw [zcf hst']; exact inv.size
  ·exact fun t => inv.slots t _ (Nat.le_refl _) (fun i o ho _ => hq i (hlt ho))
  ·exact fun id b hl => inv.heap id _ (Nat.le_refl _) (fun i o ho _ _ => hq i (hlt ho)) b hl
  ·exact zbr hst' hr.low l.length
 ·intro of c hof hc
  obtain ⟨hfb,hk⟩ := hK2 of c hof hc
  refine ⟨hfb,fun listed a w loc inv hall => ?_⟩
  have hlt : ∀ {j : Nat} {o : Oper},l[j]? = some o → j < l.length := fun h => (List.getElem?_eq_some_iff.1 h).1
  unfold ztm at hfb
  simp only [Bool.and_eq_true,decide_eq_true_eq] at hfb
  refine hk _ _ a w loc inv.base ⟨?_,?_,?_,inv.env,inv.high,inv.defers,?_⟩ hQ
  ·simp only; rw [zec,zcf hst']; exact inv.size
  ·intro t
   by_cases ht : of.dst = some t
   ·rw [ht]
    have : slot (zal (zag S T l nm (sl,H) l.length).1 (some t) .junk) t = .junk := by
     show slot (setSlot _ t .junk) t = .junk
     rcases Nat.lt_or_ge t (zag S T l nm (sl,H) l.length).1.length with h' | h'
     ·exact zch h'
     ·exact zdq (by rw [zba]; exact h')
    rw [this]; exact .junk _
   ·have : slot (zal (zag S T l nm (sl,H) l.length).1 of.dst .junk) t = slot (zag S T l nm (sl,H) l.length).1 t := by
     cases hd : of.dst with
     | none => rfl
     | some d => exact zbt (fun e => ht (by rw [hd,e]))
    rw [this]
    refine inv.slots t _ (Nat.le_refl _) (fun i o ho hd => ⟨fun _ => hlt ho,fun _ => (hall i (hlt ho)).2 (fun e => ?_)⟩)
    subst e
    rw [hof] at ho; injection ho with ho; subst ho; exact ht hd
  ·refine fun id b hl => inv.heap id _ (Nat.le_refl _) (fun i o ho h2 _ => ⟨fun _ => hlt ho,fun _ => (hall i (hlt ho)).2 (fun e => ?_)⟩) b hl
   subst e
   rw [hof] at ho; injection ho with ho; subst ho
   omega
  ·exact zbr hst' hr.low l.length
 ·have hbase : Base w0 B { w with drawn := w.drawn + 1 } loc := hb
  have hE : Ext (fun _ => False) w loc { w with drawn := w.drawn + 1 } loc := ⟨Nat.le_refl _,fun _ _ _ => rfl,fun _ _ _ => .inl rfl,fun _ _ h => ⟨rfl,h⟩,fun _ _ _ _ => rfl,fun _ cur _ fz h => ⟨cur,fz,h,rfl⟩⟩
  have hcl : ∀ {x v},R w loc x v → R { w with drawn := w.drawn + 1 } loc x v := fun h => h.ext hE
  refine ⟨by simp,hr.size,?_,?_,?_,?_,?_,⟨hr.env.os,hr.env.tape,hr.env.output,hr.env.size,hr.env.same,hr.env.inj,hr.env.lies,hr.env.bad⟩,hbase,hr.defers⟩
  ·intro t k hk hq
   have e : slot (zag S T l nm (sl,H) k).1 t = slot sl t := by
    refine zkn hst' (i := 0) (Nat.zero_le _) (fun j o _ hj ho hd => ?_)
    exact hL j ((hq j o ho hd).2 hj)
   rw [e]
   exact hcl (hr.slots t)
  ·intro id k hk hq b hl
   by_cases hf : loc.m id = .free
   ·exact BlkR.free hf
   ·have hidn : id < nm := by
     rcases Nat.lt_or_ge id nm with h' | h'
     ·exact h'
     ·exact (hf (hr.fresh id h')).elim
    have e : look (zag S T l nm (sl,H) k).2 id = look H id := by
     refine zhi hst' (i := 0) (Nat.zero_le _) (fun j o _ hj ho => ⟨?_,.inr (by omega)⟩)
     by_cases hid : id ∈ ftF S T l nm (sl,H) j
     ·left
      have hle : zae T o.op ≤ 2 := zfn T o.op
      have hne : zae T o.op ≠ 2 := fun h2 => hL j ((hq j o ho h2 hid).2 hj)
      omega
     ·exact .inr hid
    rw [e] at hl
    exact (hr.heap id b hl).ext hE (fun h => h) hf
  ·intro j o ho hl; exact (hL j hl).elim
  ·intro i _ hi id h1 h2; exact hr.fresh id (by simp only; omega)
  ·intro id h1; exact hr.fresh id (by simp only; omega)
 ·simp
end
end Ax
end Go.Proofs.Ytebacgkeoefnkaa
