/- What the proofs of this seat stand on; it asks nothing. -/
import Derived.Test.YtckbejanaebjkaaZa07
set_option linter.unusedSimpArgs false
set_option linter.unusedVariables false
namespace Go.Proofs.Ytckbejanaebjkaa
namespace Ax
def clashS (ops : List Oper) (x y : Oper) : Bool :=
 (match x.dst with
  | some d => (y.looksAt ops.toArray).contains d || y.dst == some d
  | none => false) ||
 (match y.dst with
  | some d => (x.looksAt ops.toArray).contains d
  | none => false)
def clashM (T : zab) (x y : Oper) : Bool :=
 (decide (zad T x.op = 2) && !decide (zad T y.op = 0)) || (decide (zad T y.op = 2) && !decide (zad T x.op = 0))
def drawOkF (T : zab) (ops : List Oper) (pl : List (Nat × Nat)) : Bool :=
 let ms := masks [] ops
 (List.range ops.length).all fun j => match ops[j]? with
   | some y => backB j y.after.toList && (List.range j).all fun i => match ops[i]? with
     | some x => (!clashS ops x y || (ms.getD j 0).testBit i) && (!clashM T x y || ((ms.getD j 0).testBit i || pl.contains (i,j)))
     | none => true
   | none => true
def clearOf (a b : Nat × List Nat) : Bool := b.2.all fun id => !a.2.contains id && (decide (id < a.1) || decide (a.1 + 8 ≤ id))
def memOk (pl : List (Nat × Nat)) (acc : List (Nat × List Nat)) : Bool := pl.all fun p => match acc[p.1]?,acc[p.2]? with
 | some a,some b => clearOf a b
 | _,_ => false
def zeb (S : zaf) (T : zab) (ops : List Oper) (pl : List (Nat × Nat)) (nm : Nat) (acc : List (Nat × List Nat)) : List Oper → List AV → Heap → (List AV → Heap → Prop) → Prop
 | [],sl,H,Q => memOk pl acc = true ∧ Q sl H
 | o :: r,sl,H,Q => match o.guard with
   | none => (aopF S T nm sl o.op H).p ∧ zeb S T ops pl (nm + 8) (acc ++ [(nm,foot sl o.op H)]) r (zai sl o.dst (aopF S T nm sl o.op H).x) (aopF S T nm sl o.op H).H Q
   | some (j,want) => match guardSlot ops j with
     | none => False
     | some d => match slot sl d with
       | .w (.bool b) =>
         (b = want → (aopF S T nm (setSlot sl d (.w (.bool want))) o.op H).p ∧
           zeb S T ops pl (nm + 8) (acc ++ [(nm,foot (setSlot sl d (.w (.bool want))) o.op H)]) r (zai (setSlot sl d (.w (.bool want))) o.dst (aopF S T nm (setSlot sl d (.w (.bool want))) o.op H).x) (aopF S T nm (setSlot sl d (.w (.bool want))) o.op H).H Q) ∧
         (b = !want → zeb S T ops pl (nm + 8) (acc ++ [(nm,[])]) r (zai (setSlot sl d (.w (.bool !want))) o.dst (.tup [])) H Q)
       | .tup [] => zeb S T ops pl (nm + 8) (acc ++ [(nm,[])]) r (zai sl o.dst (.tup [])) H Q
       | _ => False
def zce (S : zaf) (T : zab) (ops : List Oper) (nm : Nat) (o : Oper) (s : List AV × Heap) : Prop × (List AV × Heap) × List Nat :=
 match o.guard with
 | none => ((aopF S T nm s.1 o.op s.2).p,(zai s.1 o.dst (aopF S T nm s.1 o.op s.2).x,(aopF S T nm s.1 o.op s.2).H),foot s.1 o.op s.2)
 | some (j,want) => match guardSlot ops j with
   | none => (False,s,[])
   | some d => match slot s.1 d with
     | .w (.bool b) => if b = want then ((aopF S T nm s.1 o.op s.2).p,(zai s.1 o.dst (aopF S T nm s.1 o.op s.2).x,(aopF S T nm s.1 o.op s.2).H),foot s.1 o.op s.2) else (True,(zai s.1 o.dst (.tup []),s.2),[])
     | .tup [] => (True,(zai s.1 o.dst (.tup []),s.2),[])
     | _ => (False,s,[])
def zae (S : zaf) (T : zab) (ops : List Oper) (nm : Nat) (s0 : List AV × Heap) : Nat → List AV × Heap
 | 0 => s0
 | k + 1 => match ops[k]? with
   | some o => (zce S T ops (nm + 8 * k) o (zae S T ops nm s0 k)).2.1
   | none => zae S T ops nm s0 k
def ftF (S : zaf) (T : zab) (ops : List Oper) (nm : Nat) (s0 : List AV × Heap) (j : Nat) : List Nat := match ops[j]? with
 | some o => (zce S T ops (nm + 8 * j) o (zae S T ops nm s0 j)).2.2
 | none => []
theorem aopsF_trace {S : zaf} {T : zab} {l : List Oper} {pl : List (Nat × Nat)} {nm : Nat} {s0 : List AV × Heap} {Q : List AV → Heap → Prop} : ∀ (r : List Oper) (k : Nat),(∀ j,r[j]? = l[k + j]?) → k + r.length = l.length →
   zeb S T l pl (nm + 8 * k) ((List.range k).map fun j => (nm + 8 * j,ftF S T l nm s0 j)) r (zae S T l nm s0 k).1 (zae S T l nm s0 k).2 Q →
   (Q (zae S T l nm s0 l.length).1 (zae S T l nm s0 l.length).2 ∧ memOk pl ((List.range l.length).map fun j => (nm + 8 * j,ftF S T l nm s0 j)) = true) ∧ ∀ j o,k ≤ j → l[j]? = some o → (zce S T l (nm + 8 * j) o (zae S T l nm s0 j)).1
 | [],k,hr,hl,h => by
   simp at hl
   subst hl
   refine ⟨⟨h.2,h.1⟩,fun j o hj ho => ?_⟩
   rw [List.getElem?_eq_none hj] at ho; cases ho
 | o :: r,k,hr,hl,h => by
   have ho : l[k]? = some o := by simpa using (hr 0).symm
   have hr' : ∀ j,r[j]? = l[k + 1 + j]? := fun j => by have := hr (j + 1); simpa [Nat.add_assoc,Nat.add_comm 1 j] using this
   have hl' : k + 1 + r.length = l.length := by simp at hl; omega
   have hmain : (zce S T l (nm + 8 * k) o (zae S T l nm s0 k)).1 ∧ zeb S T l pl (nm + 8 * (k + 1)) ((List.range (k + 1)).map fun j => (nm + 8 * j,ftF S T l nm s0 j)) r (zae S T l nm s0 (k + 1)).1 (zae S T l nm s0 (k + 1)).2 Q := by
     have e : zae S T l nm s0 (k + 1) = (zce S T l (nm + 8 * k) o (zae S T l nm s0 k)).2.1 := by simp only [zae,ho]
     have e2 : ((List.range (k + 1)).map fun j => (nm + 8 * j,ftF S T l nm s0 j)) = ((List.range k).map fun j => (nm + 8 * j,ftF S T l nm s0 j)) ++ [(nm + 8 * k,(zce S T l (nm + 8 * k) o (zae S T l nm s0 k)).2.2)] := by
       rw [List.range_succ,List.map_append]
       simp only [List.map_cons,List.map_nil,ftF,ho]
     rw [e,e2,show nm + 8 * (k + 1) = nm + 8 * k + 8 by omega]
     generalize ((List.range k).map fun j => (nm + 8 * j,ftF S T l nm s0 j)) = acc at h ⊢
     generalize zae S T l nm s0 k = s at h ⊢
     unfold zeb at h
     unfold zce
     cases hg : o.guard with
     | none => simp only [hg] at h ⊢; exact h
     | some g =>
       obtain ⟨j,want⟩ := g
       simp only [hg] at h ⊢
       cases hgs : guardSlot l j with
       | none => simp only [hgs] at h
       | some d =>
         simp only [hgs] at h ⊢
         split at h
         · rename_i b hsd
           try simp only [hsd]
           have hsame : ∀ b',b = b' → setSlot s.1 d (.w (.bool b')) = s.1 := by
             rintro b' rfl
             have := zed s.1 d
             rw [hsd] at this; exact this
           by_cases hbw : b = want
           · have h := h.1 hbw
             rw [hsame _ hbw] at h
             rw [if_pos hbw]; exact h
           · have hb2 : b = !want := by cases b <;> cases want <;> simp_all
             have h := h.2 hb2
             rw [hsame _ hb2] at h
             rw [if_neg hbw]; exact ⟨trivial,h⟩
         · rename_i hsd
           try simp only [hsd]
           exact ⟨trivial,h⟩
         · exact h.elim
   obtain ⟨h1,h2⟩ := aopsF_trace r (k + 1) hr' hl' hmain.2
   refine ⟨h1,fun j o' hj ho' => ?_⟩
   rcases Nat.lt_or_ge k j with h' | h'
   · exact h2 j o' h' ho'
   · obtain rfl : j = k := by omega
     rw [ho] at ho'; injection ho' with ho'; subst ho'
     exact hmain.1
section
variable {S : zaf} {T : zab} {l : List Oper} {nm : Nat} {s0 : List AV × Heap}
theorem zby {k : Nat} {o : Oper} {s : List AV × Heap} (hp : (zce S T l (nm + 8 * k) o s).1) :
   (∃ x,(zce S T l (nm + 8 * k) o s).2.1.1 = zai s.1 o.dst x) ∧
   (∀ id b,look (zce S T l (nm + 8 * k) o s).2.1.2 id = some b → look s.2 id ≠ none ∨ (nm + 8 * k ≤ id ∧ id < nm + 8 * k + 8)) ∧
   (∀ id,(zad T o.op ≤ 1 ∨ id ∉ (zce S T l (nm + 8 * k) o s).2.2) → ¬ (nm + 8 * k ≤ id ∧ id < nm + 8 * k + 8) → look (zce S T l (nm + 8 * k) o s).2.1.2 id = look s.2 id) ∧
   (zad T o.op = 0 → ∀ id,look (zce S T l (nm + 8 * k) o s).2.1.2 id = look s.2 id) ∧
   (∀ id,id ∈ (zce S T l (nm + 8 * k) o s).2.2 → look s.2 id ≠ none ∨ id < nm + 8 * k) := by
 have hheld : (aopF S T (nm + 8 * k) s.1 o.op s.2).p → ∀ id,id ∈ foot s.1 o.op s.2 → look s.2 id ≠ none ∨ id < nm + 8 * k := fun hp id hid => held_in hp.1 hid
 have hskip : ∀ id b,look s.2 id = some b → look s.2 id ≠ none ∨ (nm + 8 * k ≤ id ∧ id < nm + 8 * k + 8) := fun id b h => .inl (by rw [h]; simp)
 unfold zce at hp ⊢
 cases hg : o.guard with
 | none =>
   simp only [hg] at hp ⊢
   obtain ⟨h1,h2,h3⟩ := aopF_facts hp
   exact ⟨⟨_,rfl⟩,h1,h2,h3,hheld hp⟩
 | some g =>
   obtain ⟨j,want⟩ := g
   simp only [hg] at hp ⊢
   cases hgs : guardSlot l j with
   | none => simp [hgs] at hp
   | some d =>
     simp only [hgs] at hp ⊢
     cases hsd : slot s.1 d with
     | w v =>
       cases v with
       | bool b =>
         simp only [hsd] at hp ⊢
         by_cases hbw : b = want
         · rw [if_pos hbw] at hp ⊢
           obtain ⟨h1,h2,h3⟩ := aopF_facts hp
           exact ⟨⟨_,rfl⟩,h1,h2,h3,hheld hp⟩
         · rw [if_neg hbw] at hp ⊢
           exact ⟨⟨_,rfl⟩,hskip,fun _ _ _ => by first | rfl | trivial,fun _ _ => by first | rfl | trivial,fun id h => by simp at h⟩
       | _ => simp [hsd] at hp
     | tup xs =>
       cases xs with
       | nil =>
         simp only [hsd] at hp ⊢
         exact ⟨⟨_,rfl⟩,hskip,fun _ _ _ => by first | rfl | trivial,fun _ _ => by first | rfl | trivial,fun id h => by simp at h⟩
       | cons _ _ => simp [hsd] at hp
     | _ => simp [hsd] at hp
variable (hst : ∀ j o,l[j]? = some o → (zce S T l (nm + 8 * j) o (zae S T l nm s0 j)).1)
include hst
theorem zfg (k : Nat) : (zae S T l nm s0 k).1.length = s0.1.length := by
 induction k with
 | zero => rfl
 | succ k ih =>
   simp only [zae]
   split
   · rename_i o ho
     obtain ⟨⟨x,hx⟩,_⟩ := zby (hst k o ho)
     rw [hx,zen,ih]
   · exact ih
theorem traceF_slot {t : Tmp} {i k : Nat} (hik : i ≤ k) (h : ∀ j o,i ≤ j → j < k → l[j]? = some o → o.dst ≠ some t) : slot (zae S T l nm s0 k).1 t = slot (zae S T l nm s0 i).1 t := by
 induction k with
 | zero => obtain rfl : i = 0 := by omega
           rfl
 | succ k ih =>
   by_cases hk : i = k + 1
   · rw [hk]
   · rw [← ih (by omega) (fun j o h1 h2 h3 => h j o h1 (by omega) h3)]
     simp only [zae]
     split
     · rename_i o ho
       obtain ⟨⟨x,hx⟩,_⟩ := zby (hst k o ho)
       rw [hx]
       have := h k o (by omega) (by omega) ho
       cases hd : o.dst with
       | none => rfl
       | some d => exact zbu (fun e => this (by rw [hd,e]))
     · rfl
theorem zco (h0 : ∀ id b,look s0.2 id = some b → id < nm) : ∀ k id b,look (zae S T l nm s0 k).2 id = some b → id < nm + 8 * k
 | 0,id,b,h => by simpa using h0 id b h
 | k + 1,id,b,h => by
   simp only [zae] at h
   split at h
   · rename_i o ho
     obtain ⟨_,hn,_⟩ := zby (hst k o ho)
     rcases hn id b h with h' | h'
     · cases h2 : look (zae S T l nm s0 k).2 id with
       | none => exact (h' h2).elim
       | some c => have := zco h0 k id c h2; omega
     · omega
   · have := zco h0 k id b h; omega
theorem traceF_back {id i k : Nat} (hik : i ≤ k) {b : Blk} (hl : look (zae S T l nm s0 k).2 id = some b) :
   look (zae S T l nm s0 i).2 id ≠ none ∨ ∃ j o,i ≤ j ∧ j < k ∧ l[j]? = some o ∧ zad T o.op ≠ 0 ∧ nm + 8 * j ≤ id ∧ id < nm + 8 * j + 8 := by
 induction k generalizing b with
 | zero => obtain rfl : i = 0 := by omega
           exact .inl (by rw [hl]; simp)
 | succ k ih =>
   by_cases hk : i = k + 1
   · subst hk; exact .inl (by rw [hl]; simp)
   · simp only [zae] at hl
     split at hl
     · rename_i o ho
       obtain ⟨_,hn,_,h0,_⟩ := zby (hst k o ho)
       by_cases hz : zad T o.op = 0
       · rw [h0 hz] at hl
         rcases ih (by omega) hl with h | ⟨j,o,h1,h2,h3⟩
         · exact .inl h
         · exact .inr ⟨j,o,h1,by omega,h3⟩
       rcases hn id b hl with h' | h'
       · cases h2 : look (zae S T l nm s0 k).2 id with
         | none => exact (h' h2).elim
         | some c =>
           rcases ih (by omega) h2 with h | ⟨j,o,h1,h2,h3⟩
           · exact .inl h
           · exact .inr ⟨j,o,h1,by omega,h3⟩
       · exact .inr ⟨k,o,by omega,by omega,ho,hz,h'⟩
     · rcases ih (by omega) hl with h | ⟨j,o,h1,h2,h3⟩
       · exact .inl h
       · exact .inr ⟨j,o,h1,by omega,h3⟩
theorem traceF_keep {id i k : Nat} (hik : i ≤ k) (hn : ∀ j o,i ≤ j → j < k → l[j]? = some o → (zad T o.op ≤ 1 ∨ id ∉ ftF S T l nm s0 j) ∧ (zad T o.op = 0 ∨ ¬ (nm + 8 * j ≤ id ∧ id < nm + 8 * j + 8))) :
   look (zae S T l nm s0 k).2 id = look (zae S T l nm s0 i).2 id := by
 induction k with
 | zero => obtain rfl : i = 0 := by omega
           rfl
 | succ k ih =>
   by_cases hk : i = k + 1
   · rw [hk]
   · rw [← ih (by omega) (fun j o h1 h2 h3 => hn j o h1 (by omega) h3)]
     simp only [zae]
     split
     · rename_i o ho
       obtain ⟨_,_,h1,h0,_⟩ := zby (hst k o ho)
       obtain ⟨h2,h3⟩ := hn k o (by omega) (by omega) ho
       rcases h3 with h3 | h3
       · rw [h0 h3]
       · refine h1 id ?_ h3
         simpa only [ftF,ho] using h2
     · rfl
end
section
variable {P : Program} {S : zaf} {T : zab} {l : List Oper} {nm : Nat} {s0 : List AV × Heap} {w0 : World} {E : Nat → Prop} {B : Bs}
structure InvF (S : zaf) (T : zab) (l : List Oper) (nm : Nat) (s0 : List AV × Heap) (w0 : World) (E : Nat → Prop) (B : Bs) (listed : Array Bool) (a : Act) (w : World) (loc : Loc) : Prop where
 sizel : listed.size = l.length
 size : a.tmps.size = s0.1.length
 slots : ∀ t k,k ≤ l.length → (∀ i o,l[i]? = some o → o.dst = some t → (Ls listed i ↔ i < k)) → R w loc (slot (zae S T l nm s0 k).1 t) (a.tmps.getD t undef)
 heap : ∀ id k,k ≤ l.length → (∀ i o,l[i]? = some o → zad T o.op = 2 → id ∈ ftF S T l nm s0 i → (Ls listed i ↔ i < k)) → ∀ b,look (zae S T l nm s0 k).2 id = some b → BlkR w loc id b
 closed : ∀ j o,l[j]? = some o → Ls listed j → ∀ e ∈ o.after.toList,Region.binds .any e = true → Ls listed e.on
 fresh : ∀ i,¬ Ls listed i → i < l.length → ∀ id,nm + 8 * i ≤ id → id < nm + 8 * i + 8 → loc.m id = .free
 high : ∀ id,nm + 8 * l.length ≤ id → loc.m id = .free
 env : Env w0 E w loc
 base : Base w0 B w loc
 defers : a.defers = []
structure GoodF (S : zaf) (T : zab) (l : List Oper) (nm : Nat) (s0 : List AV × Heap) : Prop where
 back : ∀ j o,l[j]? = some o → ∀ e ∈ o.after.toList,Region.binds .any e = true → e.on < j
 clash : ∀ i j x y,i < j → l[i]? = some x → l[j]? = some y → clashS l x y = true → ((masks [] l).getD j 0).testBit i = true
 mem : ∀ i j x y,i < j → l[i]? = some x → l[j]? = some y → clashM T x y = true → ∀ id,id ∈ ftF S T l nm s0 j → id ∈ ftF S T l nm s0 i ∨ (nm + 8 * i ≤ id ∧ id < nm + 8 * i + 8) → ((masks [] l).getD j 0).testBit i = true
theorem goodF_of {pl : List (Nat × Nat)} (h : drawOkF T l pl = true) (hm : memOk pl ((List.range l.length).map fun j => (nm + 8 * j,ftF S T l nm s0 j)) = true) : GoodF S T l nm s0 := by
 unfold drawOkF at h
 have h := List.all_eq_true.1 h
 have hlt : ∀ {j : Nat} {o : Oper},l[j]? = some o → j < l.length := fun h => (List.getElem?_eq_some_iff.1 h).1
 have hboth : ∀ i j x y,i < j → l[i]? = some x → l[j]? = some y → (clashS l x y = true → ((masks [] l).getD j 0).testBit i = true) ∧ (clashM T x y = true → ((masks [] l).getD j 0).testBit i = true ∨ (i,j) ∈ pl) := by
   intro i j x y hij hx hy
   have := h j (List.mem_range.2 (hlt hy))
   simp only [hy,Bool.and_eq_true] at this
   have := List.all_eq_true.1 this.2 i (List.mem_range.2 hij)
   simp only [hx,Bool.and_eq_true,Bool.or_eq_true,Bool.not_eq_true',List.contains_iff_mem] at this
   refine ⟨fun hc => this.1.resolve_left (by rw [hc]; simp),fun hc => this.2.resolve_left (by rw [hc]; simp)⟩
 refine ⟨fun j o ho => ?_,fun i j x y hij hx hy hc => (hboth i j x y hij hx hy).1 hc,fun i j x y hij hx hy hc id hid hor => ?_⟩
 · have := h j (List.mem_range.2 (hlt ho))
   simp only [ho,Bool.and_eq_true] at this
   exact backB_get this.1
 · rcases (hboth i j x y hij hx hy).2 hc with h1 | h1
   · exact h1
   · exfalso
     have := List.all_eq_true.1 hm (i,j) h1
     simp only [List.getElem?_map,List.getElem?_range (hlt hx),List.getElem?_range (hlt hy),Option.map_some] at this
     simp only [clearOf,List.all_eq_true,Bool.and_eq_true,Bool.not_eq_true',Bool.or_eq_true,decide_eq_true_eq] at this
     obtain ⟨h2,h3⟩ := this id hid
     rcases hor with h4 | h4
     · rw [List.contains_iff_mem.2 h4] at h2; cases h2
     · omega
theorem clashS_dst {x y : Oper} {d : Tmp} (hd : x.dst = some d) (h : d ∈ y.looksAt l.toArray ∨ y.dst = some d) : clashS l x y = true := by
 unfold clashS
 rw [hd]
 rcases h with h | h
 · simp [h]
 · simp [h]
theorem clashS_look {x y : Oper} {d : Tmp} (hd : y.dst = some d) (h : d ∈ x.looksAt l.toArray) : clashS l x y = true := by
 unfold clashS
 rw [hd]
 simp [h]
theorem zfp {x y : Oper} (h : (zad T x.op = 2 ∧ zad T y.op ≠ 0) ∨ (zad T y.op = 2 ∧ zad T x.op ≠ 0)) : clashM T x y = true := by
 unfold clashM
 rcases h with ⟨h1,h2⟩ | ⟨h1,h2⟩
 · simp [h1,h2]
 · simp [h1,h2]
variable {listed : Array Bool} {a : Act} {w : World} {loc : Loc} {i : Nat} {o : Oper}
theorem lookF_now (hg : GoodF S T l nm s0) (inv : InvF S T l nm s0 w0 E B listed a w loc) (ho : l[i]? = some o) (hnl : ¬ Ls listed i) (hrd : ∀ e ∈ o.after.toList,Region.binds .any e = true → Ls listed e.on) {t : Tmp} (ht : t ∈ o.looksAt l.toArray) :
   R w loc (slot (zae S T l nm s0 i).1 t) (a.tmps.getD t undef) := by
 have hlt : i < l.length := (List.getElem?_eq_some_iff.1 ho).1
 refine inv.slots t i (by omega) (fun j x hx hd => ⟨fun hl => ?_,fun hji => ?_⟩)
 · rcases Nat.lt_trichotomy j i with h | h | h
   · exact h
   · subst h; exact (hnl hl).elim
   · exact (hnl (zbl hg.back inv.closed _ j i (Nat.lt_succ_self _) (hg.clash i j o x h ho hx (clashS_look hd ht)) x hx (inv.closed j x hx hl))).elim
 · exact zbl hg.back inv.closed _ i j (Nat.lt_succ_self _) (hg.clash j i x o hji hx ho (clashS_dst hd (.inl ht))) o ho hrd
theorem heapF_now (hg : GoodF S T l nm s0) (inv : InvF S T l nm s0 w0 E B listed a w loc) (ho : l[i]? = some o) (hnl : ¬ Ls listed i) (hrd : ∀ e ∈ o.after.toList,Region.binds .any e = true → Ls listed e.on) (hk : zad T o.op ≠ 0) {id : Nat} {b : Blk}
   (hid : id ∈ ftF S T l nm s0 i) (hb : look (zae S T l nm s0 i).2 id = some b) : BlkR w loc id b := by
 have hlt : i < l.length := (List.getElem?_eq_some_iff.1 ho).1
 refine inv.heap id i (by omega) (fun j x hx hd hf => ⟨fun hl => ?_,fun hji => ?_⟩) b hb
 · rcases Nat.lt_trichotomy j i with h | h | h
   · exact h
   · subst h; exact (hnl hl).elim
   · exact (hnl (zbl hg.back inv.closed _ j i (Nat.lt_succ_self _) (hg.mem i j o x h ho hx (zfp (.inr ⟨hd,hk⟩)) id hf (.inl hid)) x hx (inv.closed j x hx hl))).elim
 · exact zbl hg.back inv.closed _ i j (Nat.lt_succ_self _) (hg.mem j i x o hji hx ho (zfp (.inl ⟨hd,hk⟩)) id hid (.inl hf)) o ho hrd
theorem advanceF (hg : GoodF S T l nm s0) (hst : ∀ j o,l[j]? = some o → (zce S T l (nm + 8 * j) o (zae S T l nm s0 j)).1) (h0 : ∀ id b,look s0.2 id = some b → id < nm) (inv : InvF S T l nm s0 w0 E B listed a w loc) (ho : l[i]? = some o) (hnl : ¬ Ls listed i)
   (hrd : ∀ e ∈ o.after.toList,Region.binds .any e = true → Ls listed e.on) {x : AV} {v : Value} {w' : World} {loc' : Loc} {C : Nat → Prop}
   (hv : (zce S T l (nm + 8 * i) o (zae S T l nm s0 i)).2.1.1 = zai (zae S T l nm s0 i).1 o.dst x) (hx : R w' loc' x v) (hE : Ext C w loc w' loc') (hC : zad T o.op ≤ 1 → ∀ id,¬ C id) (hCF : ∀ id,C id → id ∈ ftF S T l nm s0 i)
   (hfr : ∀ id,loc.m id = .free → loc'.m id ≠ .free → nm + 8 * i ≤ id ∧ id < nm + 8 * i + 8) (he : Env w0 E w' loc') (hb : Base w0 B w' loc')
   (hh : zad T o.op ≠ 0 → ∀ id b,id ∈ ftF S T l nm s0 i ∨ (nm + 8 * i ≤ id ∧ id < nm + 8 * i + 8) → look (zce S T l (nm + 8 * i) o (zae S T l nm s0 i)).2.1.2 id = some b → BlkR w' loc' id b) :
   InvF S T l nm s0 w0 E B (listed.setIfInBounds i true) (a.put o.dst v) w' loc' := by
 have hlt : i < l.length := (List.getElem?_eq_some_iff.1 ho).1
 have his : i < listed.size := by rw [inv.sizel]; exact hlt
 have hls : ∀ j,Ls (listed.setIfInBounds i true) j ↔ j = i ∨ Ls listed j := fun j => ls_set his
 have htr : zae S T l nm s0 (i + 1) = (zce S T l (nm + 8 * i) o (zae S T l nm s0 i)).2.1 := by simp only [zae,ho]
 have hfi : ftF S T l nm s0 i = (zce S T l (nm + 8 * i) o (zae S T l nm s0 i)).2.2 := by simp only [ftF,ho]
 have hanc : ∀ j y,l[j]? = some y → i < j → Ls listed j → ((masks [] l).getD j 0).testBit i = true → False := fun j y hy hij hl hc =>
   hnl (zbl hg.back inv.closed _ j i (Nat.lt_succ_self _) hc y hy (inv.closed j y hy hl))
 refine ⟨by simp [inv.sizel],?_,?_,?_,?_,?_,?_,he,hb,?_⟩
 · cases o.dst with
   | none => exact inv.size
   | some d => simp [Act.put,inv.size]
 · intro t k hk hq
   by_cases hd : o.dst = some t
   · have hik : i < k := (hq i o ho hd).1 ((hls i).2 (.inl rfl))
     have e1 : slot (zae S T l nm s0 k).1 t = slot (zae S T l nm s0 (i + 1)).1 t := by
       refine traceF_slot hst (by omega) (fun j y h1 h2 hy hyd => ?_)
       have := (hls j).1 ((hq j y hy hyd).2 h2)
       rcases this with h | h
       · omega
       · exact hanc j y hy (by omega) h (hg.clash i j o y (by omega) ho hy (clashS_dst hd (.inr hyd)))
     rw [e1,htr,hv,hd]
     simp only [zai]
     by_cases hts : t < (zae S T l nm s0 i).1.length
     · rw [zcf hts]
       have : (a.put (some t) v).tmps.getD t undef = v := by
         rw [zfg hst] at hts
         simp [Act.put,inv.size,hts]
       rw [this]; exact hx
     · rw [slot_ge (by rw [zay]; exact Nat.le_of_not_lt hts)]; exact .junk _
   · have h1 := inv.slots t k hk (fun j y hy hyd => by
       have hji : j ≠ i := by
         rintro rfl
         rw [ho] at hy; injection hy with hy; subst hy; exact hd hyd
       rw [← hq j y hy hyd,hls]
       simp [hji])
     have : (a.put o.dst v).tmps.getD t undef = a.tmps.getD t undef := by
       cases hdd : o.dst with
       | none => rfl
       | some d =>
         have hne : d ≠ t := fun e => hd (by rw [hdd,e])
         simp [Act.put,Array.getElem?_setIfInBounds_ne hne]
     rw [this]; exact h1.ext hE
 · intro id k hk hq b hl
   by_cases hf' : loc'.m id = .free
   · exact BlkR.free hf'
   by_cases h2 : zad T o.op = 2 ∧ id ∈ ftF S T l nm s0 i
   · have hik : i < k := (hq i o ho h2.1 h2.2).1 ((hls i).2 (.inl rfl))
     have hidl : id < nm + 8 * i := by
       have h3 := (zby (hst i o ho)).2.2.2.2 id (by rw [← hfi]; exact h2.2)
       cases h4 : look (zae S T l nm s0 i).2 id with
       | none => exact h3.resolve_left (fun h => h h4)
       | some c => exact zco hst h0 i id c h4
     have hno : ∀ j y,i + 1 ≤ j → j < k → l[j]? = some y → (zad T y.op ≤ 1 ∨ id ∉ ftF S T l nm s0 j) ∧ (zad T y.op = 0 ∨ ¬ (nm + 8 * j ≤ id ∧ id < nm + 8 * j + 8)) := by
       intro j y h3 h4 hy
       refine ⟨?_,.inr (by omega)⟩
       by_cases hyf : id ∈ ftF S T l nm s0 j
       · left
         have hle : zad T y.op ≤ 2 := kind_le T y.op
         have hne : zad T y.op ≠ 2 := by
           intro hy2
           rcases (hls j).1 ((hq j y hy hy2 hyf).2 h4) with h | h
           · omega
           · exact hanc j y hy (by omega) h (hg.mem i j o y (by omega) ho hy (zfp (.inl ⟨h2.1,by omega⟩)) id hyf (.inl h2.2))
         omega
       · exact .inr hyf
     rw [traceF_keep hst (by omega) hno,htr] at hl
     exact hh (by omega) id b (.inl h2.2) hl
   · have hold : BlkR w loc id b := inv.heap id k hk (fun j y hy hy2 hyf => by
       have hji : j ≠ i := by
         rintro rfl
         rw [ho] at hy; injection hy with hy; subst hy; exact h2 ⟨hy2,hyf⟩
       rw [← hq j y hy hy2 hyf,hls]
       simp [hji]) b hl
     by_cases hf : loc.m id = .free
     · have hr := hfr id hf hf'
       have hik : i < k := by
         rcases Nat.lt_or_ge i k with h | h
         · exact h
         · have := zco hst h0 k id b hl; omega
       by_cases hz : zad T o.op = 0
       · exfalso
         rcases traceF_back hst (i := i + 1) (by omega) hl with h | ⟨j,y,h3,_,_,_,h4,_⟩
         · rw [htr,(zby (hst i o ho)).2.2.2.1 hz] at h
           cases h5 : look (zae S T l nm s0 i).2 id with
           | none => exact h h5
           | some c => have := zco hst h0 i id c h5; omega
         · omega
       · have hno : ∀ j y,i + 1 ≤ j → j < k → l[j]? = some y → (zad T y.op ≤ 1 ∨ id ∉ ftF S T l nm s0 j) ∧ (zad T y.op = 0 ∨ ¬ (nm + 8 * j ≤ id ∧ id < nm + 8 * j + 8)) := by
           intro j y h3 h4 hy
           refine ⟨?_,.inr (by omega)⟩
           by_cases hyf : id ∈ ftF S T l nm s0 j
           · left
             have hle2 : zad T y.op ≤ 2 := kind_le T y.op
             have hne : zad T y.op ≠ 2 := by
               intro hy2
               rcases (hls j).1 ((hq j y hy hy2 hyf).2 h4) with h | h
               · omega
               · exact hanc j y hy (by omega) h (hg.mem i j o y (by omega) ho hy (zfp (.inr ⟨hy2,hz⟩)) id hyf (.inr hr))
             omega
           · exact .inr hyf
         rw [traceF_keep hst (by omega) hno,htr] at hl
         exact hh hz id b (.inr hr) hl
     · refine hold.ext hE (fun hc => ?_) hf
       have hle : zad T o.op ≤ 2 := kind_le T o.op
       by_cases hk1 : zad T o.op ≤ 1
       · exact hC hk1 id hc
       · exact h2 ⟨by omega,hCF id hc⟩
 · intro j y hy hl e hee hbe
   rw [hls]
   rcases (hls j).1 hl with h | h
   · subst h
     rw [ho] at hy; injection hy with hy; subst hy
     exact .inr (hrd e hee hbe)
   · exact .inr (inv.closed j y hy h e hee hbe)
 · intro j hj hjl id h1 h2
   rw [hls] at hj
   have hji : j ≠ i := fun e => hj (.inl e)
   have hf := inv.fresh j (fun h => hj (.inr h)) hjl id h1 h2
   by_cases hf' : loc'.m id = .free
   · exact hf'
   · have := hfr id hf hf'; omega
 · intro id h1
   have hf := inv.high id h1
   by_cases hf' : loc'.m id = .free
   · exact hf'
   · have := hfr id hf hf'; omega
 · rw [← inv.defers]
   cases o.dst <;> rfl
end
end Ax
end Go.Proofs.Ytckbejanaebjkaa
namespace Go.Proofs.Ytckbejanaebjkaa
namespace Ax
section
variable {P : Program} {S : zaf} {T : zab} {l : List Oper} {nm : Nat} {s0 : List AV × Heap} {w0 : World} {E : Nat → Prop} {B : Bs}
theorem all_listedF (hg : GoodF S T l nm s0) {listed : Array Bool} (hsz : listed.size = l.length) (hr : Region.ready .any l.toArray listed = []) : ∀ n j,j < n → j < l.length → Ls listed j := by
 intro n
 induction n with
 | zero => intro j h; omega
 | succ n ih =>
   intro j hj hjl
   by_cases hl : Ls listed j
   · exact hl
   · exfalso
     have : j ∈ Region.ready .any l.toArray listed := by
       refine mem_ready.2 ⟨getD_in (by rw [hsz]; exact hjl) (by unfold Ls at hl; simpa using hl),l[j],by simp [hjl],fun e he hb => ?_⟩
       have hlt := hg.back j l[j] (List.getElem?_eq_getElem hjl) e (by simpa using he) hb
       exact ih e.on (by omega) (by omega)
     rw [hr] at this
     simp at this
theorem inv_wpAnyF (hT : TOk P T) (hS : Fns P S) (hg : GoodF S T l nm s0) (hst : ∀ j o,l[j]? = some o → (zce S T l (nm + 8 * j) o (zae S T l nm s0 j)).1) (h0 : ∀ id b,look s0.2 id = some b → id < nm) {K : Exit → Act → World → Prop}
   (hK : ∀ listed a w loc,InvF S T l nm s0 w0 E B listed a w loc → (∀ j,j < l.length → Ls listed j) → K .normal a w) :
   ∀ (fuel : Nat) (listed : Array Bool) (a : Act) (w : World) (loc : Loc),InvF S T l nm s0 w0 E B listed a w loc → listed.toList.count false ≤ fuel → wpAny P .any l.toArray K fuel listed a w := by
 intro fuel
 induction fuel with
 | zero =>
   intro listed a w loc inv hc
   have hall : ∀ j,j < l.length → Ls listed j := by
     intro j hj
     have hj' : j < listed.size := by rw [inv.sizel]; exact hj
     have h1 : false ∉ listed.toList := by
       intro hm
       have := List.count_pos_iff.2 hm
       omega
     unfold Ls
     have h2 : listed[j] ≠ false := fun e => h1 (by rw [← e]; simp)
     simpa [hj'] using h2
   refine ⟨?_,hK listed a w loc inv hall⟩
   cases hr : Region.ready .any l.toArray listed with
   | nil => rfl
   | cons j r =>
     exfalso
     have hm : j ∈ Region.ready .any l.toArray listed := by rw [hr]; simp
     obtain ⟨h1,o,ho,_⟩ := mem_ready.1 hm
     have hjl : j < l.length := by
       have := (Array.getElem?_eq_some_iff.1 ho).1
       simpa using this
     have := hall j hjl
     unfold Ls at this
     rw [getD_both h1] at this
     cases this
 | succ fuel ih =>
   intro listed a w loc inv hc
   refine ⟨fun hr => hK listed a w loc inv (fun j hj => all_listedF hg inv.sizel hr _ j (Nat.lt_succ_self _) hj),fun i hi => ?_⟩
   obtain ⟨hnl1,o,ho',hrd'⟩ := mem_ready.1 hi
   have ho : l[i]? = some o := by simpa using ho'
   have hnl : ¬ Ls listed i := by unfold Ls; rw [getD_both hnl1]; simp
   have hrd : ∀ e ∈ o.after.toList,Region.binds .any e = true → Ls listed e.on := fun e he hb => hrd' e (by simpa using he) hb
   have hlt : i < l.length := (List.getElem?_eq_some_iff.1 ho).1
   have hc' : (listed.setIfInBounds i true).toList.count false ≤ fuel := by
     have := count_set listed.toList i (by simpa using hnl1)
     rw [Array.toList_setIfInBounds]
     omega
   have hlook := fun t ht => lookF_now hg inv ho hnl hrd (t := t) ht
   have hlow := zco hst h0 i
   have hev : ∀ x ∈ o.op.operands.toList,R w loc (ev (zae S T l nm s0 i).1 x) (a.eval x) := by
     intro x hx
     cases x with
     | tmp t => exact hlook t (by unfold Oper.looksAt; exact List.mem_append_left _ (List.mem_filterMap.2 ⟨.tmp t,hx,rfl⟩))
     | const v => exact ev_R (sl := []) (a := a) (fun t => .junk _) (.const v)
     | global g => exact .junk _
     | func f => exact ev_R (sl := []) (a := a) (fun t => .junk _) (.func f)
   have hstep := hst i o ho
   have hfi : ftF S T l nm s0 i = (zce S T l (nm + 8 * i) o (zae S T l nm s0 i)).2.2 := by simp only [ftF,ho]
   have hadv := @advanceF S T l nm s0 w0 E B listed a w loc i o hg hst h0 inv ho hnl hrd
   have hheap := fun (hk : zad T o.op ≠ 0) id b => @heapF_now S T l nm s0 w0 E B listed a w loc i o hg inv ho hnl hrd hk id b
   rw [hfi] at hadv hheap
   -- the operation is done
   have hdo : (aopF S T (nm + 8 * i) (zae S T l nm s0 i).1 o.op (zae S T l nm s0 i).2).p →
       (zce S T l (nm + 8 * i) o (zae S T l nm s0 i)).2.1 = (zai (zae S T l nm s0 i).1 o.dst (aopF S T (nm + 8 * i) (zae S T l nm s0 i).1 o.op (zae S T l nm s0 i).2).x,(aopF S T (nm + 8 * i) (zae S T l nm s0 i).1 o.op (zae S T l nm s0 i).2).H) →
       (zce S T l (nm + 8 * i) o (zae S T l nm s0 i)).2.2 = foot (zae S T l nm s0 i).1 o.op (zae S T l nm s0 i).2 →
       o.wp P a w (wpAny P .any l.toArray K fuel (listed.setIfInBounds i true)) K := by
     intro hp hs hft
     have hfree : ∀ id,nm + 8 * i ≤ id → id < nm + 8 * i + 8 → loc.m id = .free := inv.fresh i hnl hlt
     rw [hft] at hadv hheap
     by_cases hk : zad T o.op = 0
     · obtain ⟨h1,h2,h3⟩ := pu_aop (H := keepIn (foot (zae S T l nm s0 i).1 o.op (zae S T l nm s0 i).2) (zae S T l nm s0 i).2) (S := S) (sl := (zae S T l nm s0 i).1) (nm := nm + 8 * i) hk hp.2
       refine zea hT hS inv.env (H := []) (fun id b h => by simp [look] at h) hfree o hev h1 _ K (fun v w' loc' hpost => ?_)
       obtain ⟨C,hE,hC⟩ := hpost.ext
       have hC' := hC (kind_wr (H := []) (by omega) h1)
       refine ih _ _ _ loc' (hadv (x := _) (C := C) (by rw [hs]) ?_ hE (fun _ => hC') (fun id h => (hC' id h).elim) hpost.fresh hpost.env (inv.base.post hpost) (fun h => (h hk).elim)) hc'
       have := hpost.r
       rw [h2] at this; exact this
     · refine aopF_sound hT hS inv.env (fun id b hid hl => hheap hk id b hid hl) hfree rfl hev hp _ K (fun v w' loc' wr hpost hext => ?_)
       obtain ⟨C,hE,hC,hCF⟩ := hext
       refine ih _ _ _ loc' (hadv (x := _) (C := C) (by rw [hs]) hpost.r hE hC hCF hpost.fresh hpost.env (inv.base.post hpost) (fun _ id b hor hl => ?_)) hc'
       rw [hs] at hl
       simp only [aopF] at hl
       rw [zfi] at hl
       cases h1 : look (aop S T (nm + 8 * i) (zae S T l nm s0 i).1 o.op (keepIn (foot (zae S T l nm s0 i).1 o.op (zae S T l nm s0 i).2) (zae S T l nm s0 i).2)).H id with
       | some c =>
         simp only [h1] at hl
         injection hl with hl
         subst hl
         exact hpost.h id c h1
       | none =>
         simp only [h1,zdr] at hl
         split at hl
         · cases hl
         · rename_i hn
           rcases hor with h2 | h2
           · exact (hn h2).elim
           · have := hlow id b hl; omega
   unfold wpOp
   rw [ho']
   simp only
   cases hgd : o.guard with
   | none =>
     rw [if_pos (by simp [Region.wanted,hgd])]
     left
     refine hdo ?_ ?_ ?_
     · simpa [zce,hgd] using hstep
     · simp [zce,hgd]
     · simp [zce,hgd]
   | some g =>
     obtain ⟨j,want⟩ := g
     simp only [zce,hgd] at hstep hdo hadv
     cases hgs : guardSlot l j with
     | none => simp [hgs] at hstep
     | some d =>
       simp only [hgs] at hstep hdo hadv
       have hdl : d ∈ o.looksAt l.toArray := by
         unfold Oper.looksAt
         refine List.mem_append_right _ ?_
         rw [hgd]
         unfold guardSlot at hgs
         cases hj : l[j]? with
         | none => rw [hj] at hgs; cases hgs
         | some oj =>
           rw [hj] at hgs
           simp only at hgs
           simp [hj,hgs]
       have hval := hlook d hdl
       cases hsd : slot (zae S T l nm s0 i).1 d with
       | w u =>
         cases u with
         | bool b =>
           simp only [hsd] at hstep hdo hadv
           rw [hsd] at hval
           have hval := hval.wv
           have hdlt : d < a.tmps.size := by
             rw [inv.size,← zfg hst i]
             rcases Nat.lt_or_ge d (zae S T l nm s0 i).1.length with h' | h'
             · exact h'
             · rw [slot_ge h'] at hsd; cases hsd
           have hy := yielded_of (ops := l.toArray) (by simpa using hgs) hdlt hval
           have hw : (Region.wanted o (yielded l.toArray a.tmps) = true) ↔ b = want := by simp [Region.wanted,hgd,hy]
           by_cases hbw : b = want
           · rw [if_pos (hw.2 hbw)]
             rw [if_pos hbw] at hstep hdo
             exact .inl (hdo hstep rfl rfl)
           · rw [if_neg (fun h => hbw (hw.1 h))]
             simp only [if_neg hbw] at hadv
             refine ih _ _ _ loc (hadv (x := .tup []) (C := fun _ => False) rfl undef_R (Ext.refl w loc) (fun _ _ h => h) (fun _ h => h.elim) (fun id h h' => (h' h).elim) inv.env inv.base (fun hk id b hor hl => ?_)) hc'
             rcases hor with h2 | h2
             · simp at h2
             · have := hlow id b hl; omega
         | _ => simp [hsd] at hstep
       | tup xs =>
         cases xs with
         | nil =>
           simp only [hsd] at hadv
           rw [hsd] at hval
           rw [if_neg (by simp [Region.wanted,hgd,yielded_none (ops := l.toArray) (by simpa using hgs) (tup_R hval)])]
           refine ih _ _ _ loc (hadv (x := .tup []) (C := fun _ => False) rfl undef_R (Ext.refl w loc) (fun _ _ h => h) (fun _ h => h.elim) (fun id h h' => (h' h).elim) inv.env inv.base (fun hk id b hor hl => ?_)) hc'
           rcases hor with h2 | h2
           · simp at h2
           · have := hlow id b hl; omega
         | cons _ _ => simp [hsd] at hstep
       | _ => simp [hsd] at hstep
theorem drawF_sound (hT : TOk P T) (hS : Fns P S) (hm : P.follows .mixedOrders = true) {pl : List (Nat × Nat)} {K : Exit → Act → World → Prop} {Q : List AV → Heap → Prop} {sl : List AV} {H : Heap} {a : Act} {w : World} {loc : Loc} {id : Nat}
   (hd : drawOkF T l pl = true) (hK : ∀ sl H a w loc,Base w0 B w loc → Rel' w0 E loc ⟨sl,H,nm + 8 * l.length⟩ a w → Q sl H → K .normal a w) (hb : Base w0 B w loc)
   (hr : Rel' w0 E loc ⟨sl,H,nm⟩ a w) (h : zeb S T l pl nm [] l sl H Q) : (Code.region id l.toArray true).wp P K a w := by
 obtain ⟨⟨hQ,hmem⟩,hst⟩ := aopsF_trace (S := S) (T := T) (nm := nm) (pl := pl) (Q := Q) (l := l) (s0 := (sl,H)) l 0 (fun j => by rw [Nat.zero_add]) (Nat.zero_add _) (by simpa [zae] using h)
 have hst' := fun j o ho => hst j o (Nat.zero_le _) ho
 have hg := goodF_of hd hmem
 refine wp_region_any hm ?_
 have hL : ∀ i,¬ Ls (Array.replicate l.toArray.size false) i := fun i h => by
   unfold Ls at h
   rw [getD_replicate_false] at h; cases h
 refine inv_wpAnyF hT hS hg hst' hr.low (w0 := w0) (E := E) (B := B) ?_ _ _ _ _ loc ?_ ?_
 · intro listed a w loc inv hall
   have hq : ∀ (i : Nat),i < l.length → (Ls listed i ↔ i < l.length) := fun i hi => ⟨fun _ => hi,fun _ => hall i hi⟩
   have hlt : ∀ {j : Nat} {o : Oper},l[j]? = some o → j < l.length := fun h => (List.getElem?_eq_some_iff.1 h).1
   refine hK _ _ a w loc inv.base ⟨?_,?_,?_,inv.env,inv.high,inv.defers,?_⟩ hQ
   · simp only; rw [zfg hst']; exact inv.size
   · exact fun t => inv.slots t _ (Nat.le_refl _) (fun i o ho _ => hq i (hlt ho))
   · exact fun id b hl => inv.heap id _ (Nat.le_refl _) (fun i o ho _ _ => hq i (hlt ho)) b hl
   · exact zco hst' hr.low l.length
 · have hbase : Base w0 B { w with drawn := w.drawn + 1 } loc := hb
   have hE : Ext (fun _ => False) w loc { w with drawn := w.drawn + 1 } loc := ⟨Nat.le_refl _,fun _ _ _ => rfl,fun _ _ _ => .inl rfl,fun _ _ h => ⟨rfl,h⟩,fun _ _ _ _ => rfl,fun _ cur _ fz h => ⟨cur,fz,h,rfl⟩⟩
   have hcl : ∀ {x v},R w loc x v → R { w with drawn := w.drawn + 1 } loc x v := fun h => h.ext hE
   refine ⟨by simp,hr.size,?_,?_,?_,?_,?_,⟨hr.env.os,hr.env.tape,hr.env.output,hr.env.size,hr.env.same,hr.env.inj,hr.env.lies,hr.env.bad⟩,hbase,hr.defers⟩
   · intro t k hk hq
     have e : slot (zae S T l nm (sl,H) k).1 t = slot sl t := by
       refine traceF_slot hst' (i := 0) (Nat.zero_le _) (fun j o _ hj ho hd => ?_)
       exact hL j ((hq j o ho hd).2 hj)
     rw [e]
     exact hcl (hr.slots t)
   · intro id k hk hq b hl
     by_cases hf : loc.m id = .free
     · exact BlkR.free hf
     · have hidn : id < nm := by
         rcases Nat.lt_or_ge id nm with h' | h'
         · exact h'
         · exact (hf (hr.fresh id h')).elim
       have e : look (zae S T l nm (sl,H) k).2 id = look H id := by
         refine traceF_keep hst' (i := 0) (Nat.zero_le _) (fun j o _ hj ho => ⟨?_,.inr (by omega)⟩)
         by_cases hid : id ∈ ftF S T l nm (sl,H) j
         · left
           have hle : zad T o.op ≤ 2 := kind_le T o.op
           have hne : zad T o.op ≠ 2 := fun h2 => hL j ((hq j o ho h2 hid).2 hj)
           omega
         · exact .inr hid
       rw [e] at hl
       exact (hr.heap id b hl).ext hE (fun h => h) hf
   · intro j o ho hl; exact (hL j hl).elim
   · intro i _ hi id h1 h2; exact hr.fresh id (by simp only; omega)
   · intro id h1; exact hr.fresh id (by simp only; omega)
 · simp
end
end Ax
end Go.Proofs.Ytckbejanaebjkaa
namespace Go.Proofs.Ytckbejanaebjkaa
namespace Ax
open Go.RowKit
abbrev Plan := Nat → Option (List (Nat × Nat))
def zbx (T : zab) (pl : Plan) : Code → Bool
 | .region id ops draw => match pl id with
   | none => !draw || drawOk T ops.toList
   | some p => draw && drawOkF T ops.toList p
 | .seq a b => zbx T pl a && zbx T pl b
 | .cond _ a b => zbx T pl a && zbx T pl b
 | .block _ c => zbx T pl c
 | .loop c => zbx T pl c
 | _ => true
def awpF (S : zaf) (T : zab) (pl : Plan) : Code → (Exit → ASt → Prop) → ASt → Prop
 | .skip,Q,σ => Q .normal σ
 | .label _,Q,σ => Q .normal σ
 | .region id ops _,Q,σ => match pl id with
   | none => aops S T ops.toList σ.nx ops.toList σ.sl σ.H (regK (σ.nx + 8 * ops.toList.length) Q)
   | some p => zeb S T ops.toList p σ.nx [] ops.toList σ.sl σ.H (regK (σ.nx + 8 * ops.toList.length) Q)
 | .seq a b,Q,σ => awpF S T pl a (seqK (awpF S T pl b Q) Q) σ
 | .cond c a b,Q,σ => match ev σ.sl c with
     | .w (.bool t) => zft t (awpF S T pl a Q σ) (awpF S T pl b Q σ)
     | _ => False
 | .block id c,Q,σ => awpF S T pl c (zek id Q) σ
 | .loop c,Q,σ => ALoop (awpF S T pl c) Q σ
 | .exit id,Q,σ => Q (.exit id) σ
 | .ret,Q,σ => Q .ret σ
 | _,_,_ => False
open Classical in
theorem awpF_sound {P : Program} {w0 : World} {E : Nat → Prop} {T : zab} {S : zaf} {pl : Plan} (hm : P.follows .mixedOrders = true) (hT : TOk P T) (hS : Fns P S) {B : Bs} : ∀ (c : Code) (Q : Exit → ASt → Prop) (σ : ASt) (a : Act) (w : World),
   zbx T pl c = true → awpF S T pl c Q σ → Rel w0 E B σ a w → c.wp P (Low w0 E B Q) a w := by
 intro c
 induction c with
 | skip => intro Q σ a w hdr h hr; exact wp_skip ⟨σ,hr,h⟩
 | label l => intro Q σ a w hdr h hr; exact wp_label ⟨σ,hr,h⟩
 | ret => intro Q σ a w hdr h hr; exact wp_ret ⟨σ,hr,h⟩
 | exit id => intro Q σ a w hdr h hr; exact wp_exit ⟨σ,hr,h⟩
 | region id ops draw =>
   intro Q σ a w hdr h hr
   obtain ⟨loc,hb,hr⟩ := hr
   obtain ⟨sl,H,nx⟩ := σ
   have hK : ∀ sl H a w loc,Base w0 B w loc → Rel' w0 E loc ⟨sl,H,nx + 8 * ops.toList.length⟩ a w → regK (nx + 8 * ops.toList.length) Q sl H → Low w0 E B Q .normal a w := fun sl H a w loc h1 h2 h3 => ⟨_,⟨loc,h1,h2⟩,h3⟩
   simp only [zbx] at hdr
   simp only [awpF] at h
   cases hp : pl id with
   | none =>
     simp only [hp] at hdr h
     cases draw with
     | false => exact wp_region_list (zcs hT hS hK ops.toList nx sl H a w loc rfl hb hr h)
     | true => exact zez hT hS hm w0 E ops.toList _ _ B nx sl H a w loc id (by simpa using hdr) hK hb hr h
   | some p =>
     simp only [hp,Bool.and_eq_true] at hdr h
     obtain ⟨hd1,hd2⟩ := hdr
     subst hd1
     exact drawF_sound hT hS hm hd2 hK hb hr h
 | seq x y ihx ihy =>
   intro Q σ a w hdr h hr
   refine wp_seq (wp_mono (ihx _ σ a w (by simp only [zbx,Bool.and_eq_true] at hdr; exact hdr.1) h hr) ?_)
   rintro e a' w' ⟨σ',hr',hq⟩
   cases e with
   | normal => exact ihy Q σ' a' w' (by simp only [zbx,Bool.and_eq_true] at hdr; exact hdr.2) hq hr'
   | _ => exact ⟨σ',hr',hq⟩
 | cond c x y ihx ihy =>
   intro Q σ a w hdr h hr
   simp only [awpF,zft] at h
   simp only [zbx,Bool.and_eq_true] at hdr
   obtain ⟨loc,hb,hr⟩ := hr
   split at h
   · rename_i t hc
     have hv := ev_R hr.slots c
     rw [hc] at hv
     have hv := hv.wv
     cases t with
     | true => exact wp_cond_true hv (ihx Q σ a w hdr.1 (h.1 rfl) ⟨loc,hb,hr⟩)
     | false => exact wp_cond_false hv (ihy Q σ a w hdr.2 (h.2 rfl) ⟨loc,hb,hr⟩)
   · exact h.elim
 | block id c ih =>
   intro Q σ a w hdr h hr
   refine wp_block (wp_mono (ih _ σ a w hdr h hr) ?_)
   rintro e a' w' ⟨σ',hr',hq⟩
   cases e with
   | exit id' =>
     simp only [zek,Exit.inBlock] at hq ⊢
     split at hq
     · rename_i he; rw [if_pos he]; exact ⟨σ',hr',hq⟩
     · rename_i he; rw [if_neg he]; exact ⟨σ',hr',hq⟩
   | _ => exact ⟨σ',hr',hq⟩
 | loop c ih =>
   intro Q σ a w hdr h hr
   obtain ⟨I,⟨n0,σ0,hw0,hI0⟩,hround⟩ := h
   let p : Act → World → Nat → Prop := fun a w n => ∃ σ,Rel w0 E B σ a w ∧ I n σ
   have hleast : ∀ a w,(∃ n,p a w n) → ∃ m,p a w m ∧ ∀ k,p a w k → m ≤ k := fun a w ⟨n,hn⟩ => let ⟨m,h1,_,h3⟩ := least n hn; ⟨m,h1,h3⟩
   let μ : Act → World → Nat := fun a w => if h : ∃ n,p a w n then Classical.choose (hleast a w h) else 0
   refine wp_loop (fun a w => ∃ n,p a w n) μ ⟨n0,σ0,hw0 w0 E B a w hr,hI0⟩ ?_
   intro a w hex
   have hμ : μ a w = Classical.choose (hleast a w hex) := dif_pos hex
   obtain ⟨⟨σ1,hr1,hI1⟩,hmin⟩ := Classical.choose_spec (hleast a w hex)
   rw [← hμ] at hI1
   refine wp_mono (ih _ σ1 a w hdr (hround _ σ1 hI1) hr1) ?_
   rintro e a' w' ⟨σ',hr',hq⟩
   cases e with
   | normal =>
     obtain ⟨m,σ2,hlt,hw2,hI2⟩ := hq
     have hp : p a' w' m := ⟨σ2,hw2 w0 E B a' w' hr',hI2⟩
     refine ⟨⟨m,hp⟩,?_⟩
     have hμ' : μ a' w' = Classical.choose (hleast a' w' ⟨m,hp⟩) := dif_pos ⟨m,hp⟩
     have := (Classical.choose_spec (hleast a' w' ⟨m,hp⟩)).2 m hp
     rw [← hμ'] at this
     exact Nat.lt_of_le_of_lt this hlt
   | _ =>
     obtain ⟨σ2,hw2,hq⟩ := hq
     exact ⟨σ2,hw2 w0 E B a' w' hr',hq⟩
 | _ => intro Q σ a w hdr h hr; exact h.elim
theorem sound_gen0 {P : Program} {T : zab} {S : zaf} (hT : TOk P T) (hS : Fns P S) {f : FuncId} {fn : Func} {c : Code} (hf : P.funcs[f]? = some fn) (hb : fn.body = some c) {spec : zar} {Qp : List AV → List Blk → Exit → ASt → Prop}
   (hqp : ∀ xs pins e σ,Qp xs pins e σ → ∃ σ',Weak σ σ' ∧ Ends T fn.results.toList pins (spec xs pins) e σ')
   (h : ∀ xs pins,(spec xs pins).p → closedB pins = true → pins.length ≤ 4 ∧ ∀ w0 E B a w,Rel w0 E B ⟨xs ++ List.replicate (fn.ntmps - xs.length) .junk,pinHeap 0 pins,4⟩ a w → c.wp P (Low w0 E B (Qp xs pins)) a w) : zbm P f spec := by
 intro xs pins hp hcl w bad pb vs hlen hnd hbad hlies hxl hx
 obtain ⟨hp4,h⟩ := h xs pins hp hcl
 refine calls_of_wp hf hb ?_
 have hrel : Rel w (· ∈ pb) ⟨bad,pb⟩ ⟨xs ++ List.replicate (fn.ntmps - xs.length) .junk,pinHeap 0 pins,4⟩ { tmps := vs.toArray ++ Array.replicate (fn.ntmps - vs.toArray.size) undef,defers := [] } w := by
   refine ⟨zav pb bad,⟨⟨rfl,fun k hk cur e fz hh => ⟨cur,fz,hh,rfl⟩⟩,by simp only; omega,fun k hk => .inr ⟨by simp [zav,List.getElem?_eq_getElem hk],fun cur e fz hh => ⟨cur,fz,hh,rfl⟩⟩⟩,?_⟩
   refine ⟨by simp [hxl],fun t => ?_,?_,?_,?_,rfl,fun id b hl => ?_⟩
   · simp only
     rw [zcg]
     by_cases ht : t < xs.length
     · have e1 : (xs ++ List.replicate (fn.ntmps - xs.length) AV.junk).getD t .junk = xs[t] := by simp [List.getElem?_append_left,ht]
       have e2 : (vs.toArray ++ Array.replicate (fn.ntmps - vs.toArray.size) undef).getD t undef = vs[t]'(by omega) := by
         have : t < vs.length := by omega
         simp [Array.getD_eq_getD_getElem?,Array.getElem?_append,this]
       rw [e1,e2]
       exact hx t ht _
     · have e1 : (xs ++ List.replicate (fn.ntmps - xs.length) AV.junk).getD t .junk = .junk := by
         rw [List.getD_eq_getElem?_getD,List.getElem?_append_right (by omega),List.getElem?_replicate]
         split <;> rfl
       rw [e1]; exact .junk _
   · intro id b hl
     obtain ⟨j,hj,rfl,rfl⟩ := zbd pins 0 id b hl
     have hj' : j < pb.length := by omega
     unfold BlkR
     have : (zav pb bad).m (0 + j) = .here pb[j] := by simp [zav,List.getElem?_eq_getElem hj']
     rw [this]
     exact hlies j hj hj'
   · refine ⟨rfl,rfl,rfl,Nat.le_refl _,fun _ _ _ => rfl,?_,?_,?_⟩
     · intro i j b hi hj
       obtain ⟨h1,h2⟩ := zbw hi
       obtain ⟨h3,h4⟩ := zbw hj
       exact zbp hnd (h2.trans h4.symm)
     · intro i b hi
       obtain ⟨h1,h2⟩ := zbw hi
       subst h2
       refine ⟨?_,.inr (List.getElem_mem h1)⟩
       obtain ⟨ob,hh⟩ := lies_live2 (hlies i (by omega) h1).2
       rcases Nat.lt_or_ge pb[i] w.heap.size with h' | h'
       · exact h'
       · rw [Array.getElem?_eq_none h'] at hh; cases hh
     · exact fun b hb => hbad b hb
   · intro id hid
     simp only at hid
     have : pb[id]? = none := List.getElem?_eq_none (by omega)
     simp [zav,this]
   · obtain ⟨j,hj,rfl,_⟩ := zbd pins 0 id b hl
     simp; omega
 refine wp_mono (h _ _ _ _ w hrel) ?_
 have main : ∀ a w' σ,Rel w (· ∈ pb) ⟨bad,pb⟩ σ a w' → (rvals T σ.H σ.sl fn.results.toList).1 ∧ EndsX pins (spec xs pins) (rone (rvals T σ.H σ.sl fn.results.toList).2) σ →
     a.defers = [] ∧ ∃ v,(results fn a.tmps).run P w' = .ok v w' ∧ ∃ v' loc',Ending.returned v = .returned v' ∧ Gives w bad pb (spec xs pins) v' w' loc' := by
   rintro a w' σ ⟨loc,hB,hr⟩ ⟨hrv,hnodup,hpin,hbl,hren⟩
   obtain ⟨v,hv,hR⟩ := results_R (P := P) (fn := fn) hT hr.heap hr.slots hrv
   refine ⟨hr.defers,v,hv,v,?_⟩
   generalize rone (rvals T σ.H σ.sl fn.results.toList).2 = x at hnodup hpin hbl hren hR
   have hnd' := zcx hnodup
   obtain ⟨hids1,hids2⟩ := zev x.ids (upTo 0 pins)
   obtain ⟨hu1,hu2⟩ := upTo_get pins 0
   generalize hids : newIds (upTo 0 pins) x.ids = ids at hnodup hpin hbl hren hnd' hids1 hids2
   obtain ⟨hpl,hpc,hpg⟩ := zdl hpin
   rw [hbl] at hpl hpc hpg
   obtain ⟨t,rfl⟩ := hids1
   have hm : pins.length ≤ (upTo 0 pins ++ t).length := by simp [hu1]
   have hold : ∀ k,(hk : k < pins.length) → (upTo 0 pins ++ t)[k]'(by omega) = k := by
     intro k hk
     rw [List.getElem_append_left (by omega)]
     have := hu2 k (by omega)
     omega
   -- every one of the names is alive
   have hlive : ∀ (k : Nat) (hk : k < (upTo 0 pins ++ t).length),loc.m (upTo 0 pins ++ t)[k] ≠ .free := by
     intro k hk
     rcases hids2 _ (List.getElem_mem hk) with hi | hi
     · obtain ⟨j,hj,he⟩ := List.getElem_of_mem hi
       rw [← he,hu2 j hj]
       have hj' : j < pb.length := by omega
       rcases hB.2.2 j hj' with h1 | ⟨h1,_⟩
       · rw [Nat.zero_add,h1]; simp
       · rw [Nat.zero_add,h1]; simp
     · exact zcu x v hR hi
   have hblk : ∀ (k : Nat) (hk : k < (upTo 0 pins ++ t).length) (hk' : k < (spec xs pins).bl.length),BlkR w' loc (upTo 0 pins ++ t)[k] (spec xs pins).bl[k] := by
     intro k hk hk'
     refine hr.heap _ _ ?_
     rw [hpg k hk,List.getElem?_eq_getElem hk']
   have hdead : ∀ (k : Nat) (hk : k < (upTo 0 pins ++ t).length),loc.m (upTo 0 pins ++ t)[k] ≠ .dead := by
     intro k hk e
     have := hblk k hk (by omega)
     unfold BlkR at this
     rw [e] at this
     exact this
   let g : Nat → Nat := gOf (upTo 0 pins ++ t) σ.nx
   have hgo : ∀ k,(hk : k < (upTo 0 pins ++ t).length) → g k = (upTo 0 pins ++ t)[k] := fun k hk => zda hk
   have hgn : ∀ k,(upTo 0 pins ++ t).length ≤ k → loc.m (g k) = .free := by
     intro k hk
     refine hr.fresh _ ?_
     show σ.nx ≤ gOf _ σ.nx k
     rw [zcr hk]; omega
   let loc' : Loc := { m := fun k => loc.m (g k),bad := loc.bad }
   have hlt : ∀ i b,loc'.m i = .here b → i < (upTo 0 pins ++ t).length := by
     intro i b hi
     rcases Nat.lt_or_ge i (upTo 0 pins ++ t).length with h' | h'
     · exact h'
     · have : loc'.m i = .free := hgn i h'
       rw [this] at hi; cases hi
   have hinj : ∀ i j b,loc'.m i = .here b → loc'.m j = .here b → i = j := by
     intro i j b hi hj
     have h1 := hlt i b hi
     have h2 := hlt j b hj
     have h3 : g i = g j := hr.env.inj (g i) (g j) b hi hj
     rw [hgo i h1,hgo j h2] at h3
     exact zbp hnd' h3
   have hpb : ∀ (k : Nat) (hk : k < pb.length),loc'.m k = .here pb[k] ∧ ∀ cur e fz,w.heap[pb[k]]? = some (.cells cur e fz) → ∃ cur' fz',w'.heap[pb[k]]? = some (.cells cur' e fz') ∧ cur'.size = cur.size := by
     intro k hk
     have hk1 : k < pins.length := by omega
     have e : loc'.m k = loc.m k := by
       show loc.m (g k) = loc.m k
       rw [hgo k (by omega),hold k hk1]
     rcases hB.2.2 k hk with h1 | ⟨h1,h2⟩
     · have := hdead k (by omega)
       rw [hold k hk1] at this
       exact (this h1).elim
     · exact ⟨e.trans h1,h2⟩
   refine ⟨loc',rfl,?_⟩
   refine ⟨unren (loc2 := loc') (g := g) (fun _ => rfl) rfl hR _ hren,hB.1.1,?_,fun k hk => (hpb k hk).1,?_,?_,hinj,?_⟩
   · intro k hk
     have hk' : k < (upTo 0 pins ++ t).length := by omega
     have e : loc'.m k = loc.m (upTo 0 pins ++ t)[k] := by show loc.m (g k) = _; rw [hgo k hk']
     refine ⟨?_,by rw [e]; exact hlive k hk',by rw [e]; exact hdead k hk'⟩
     have hb := hblk k hk' hk
     unfold BlkR at hb ⊢
     rw [e]
     split
     · trivial
     · rename_i e'; rw [e'] at hb; exact hb
     · rename_i e'; rw [e'] at hb; exact hb
     · rename_i b e'
       rw [e'] at hb
       refine ⟨hb.1,zds hb.2 (zdy hpc k hk) (.inr ?_)⟩
       rintro c _ (h | ⟨i,h⟩)
       · exact .inl h
       · exact .inr ⟨g i,h⟩
   · intro k b hk hkb
     have := hr.env.lies (g k) b hkb
     refine ⟨?_,this.1⟩
     rcases this.2 with h' | h'
     · exact h'
     · obtain ⟨j,hj,he⟩ := List.getElem_of_mem h'
       have h1 := (hpb j hj).1
       rw [he] at h1
       have := hinj k j b hkb h1
       omega
   · intro k hk
     exact hgn k (by omega)
   · refine ⟨hr.env.os,hr.env.tape,hr.env.output,hr.env.size,hr.env.same,?_⟩
     rintro b cur e fz hb hh
     obtain ⟨j,hj,rfl⟩ := List.getElem_of_mem hb
     exact (hpb j hj).2 cur e fz hh
 rintro e a w' ⟨σ0,hr0,hq0⟩
 obtain ⟨σ,hwk,hq⟩ := hqp xs pins e σ0 hq0
 have hr := hwk _ _ _ _ _ hr0
 cases e with
 | normal => exact main a w' σ hr hq
 | ret => exact main a w' σ hr hq
 | _ => exact hq.elim
theorem fn_soundF {P : Program} {T : zab} {S : zaf} {pl : Plan} (hm : P.follows .mixedOrders = true) (hT : TOk P T) (hS : Fns P S) {f : FuncId} {fn : Func} {c : Code} (hf : P.funcs[f]? = some fn) (hb : fn.body = some c) (hd : zbx T pl c = true) {spec : zar}
   (h : ∀ xs pins,(spec xs pins).p → closedB pins = true → pins.length ≤ 4 ∧ awpF S T pl c (EndsW T fn.results.toList pins (spec xs pins)) ⟨xs ++ List.replicate (fn.ntmps - xs.length) .junk,pinHeap 0 pins,4⟩) : zbm P f spec :=
 sound_gen0 hT hS hf hb (Qp := fun xs pins => EndsW T fn.results.toList pins (spec xs pins)) (fun _ _ _ _ h => h) (fun xs pins hp hc => ⟨(h xs pins hp hc).1,fun w0 E B a w hr => awpF_sound hm hT hS c _ _ _ _ hd (h xs pins hp hc).2 hr⟩)
def laterF (S : zaf) (T : zab) (pl : Plan) (b : Code) (Q : Exit → ASt → Prop) : Exit → ASt → Prop := seqK (awpF S T pl b Q) Q
section rules
variable {S : zaf} {T : zab} {pl : Plan} {Q : Exit → ASt → Prop} {σ : ASt}
theorem awpF_skip : awpF S T pl .skip Q σ = Q .normal σ := rfl
theorem awpF_label {l : Nat} : awpF S T pl (.label l) Q σ = Q .normal σ := rfl
theorem awpF_ret : awpF S T pl .ret Q σ = Q .ret σ := rfl
theorem awpF_exit {id : Nat} : awpF S T pl (.exit id) Q σ = Q (.exit id) σ := rfl
theorem awpF_region {id : Nat} {l : List Oper} {draw : Bool} : awpF S T pl (.region id l.toArray draw) Q σ = match pl id with
   | none => aops S T l σ.nx l σ.sl σ.H (regK (σ.nx + 8 * l.length) Q)
   | some p => zeb S T l p σ.nx [] l σ.sl σ.H (regK (σ.nx + 8 * l.length) Q) := by
 simp [awpF]
theorem awpF_seq {a b : Code} : awpF S T pl (.seq a b) Q σ = awpF S T pl a (laterF S T pl b Q) σ := rfl
theorem awpF_block {id : Nat} {c : Code} : awpF S T pl (.block id c) Q σ = awpF S T pl c (zek id Q) σ := rfl
theorem awpF_cond {c : Operand} {a b : Code} : awpF S T pl (.cond c a b) Q σ = match ev σ.sl c with
     | .w (.bool t) => zft t (awpF S T pl a Q σ) (awpF S T pl b Q σ)
     | _ => False := rfl
theorem zat {b : Code} : laterF S T pl b Q .normal σ = awpF S T pl b Q σ := rfl
theorem laterF_exit {b : Code} {id : Nat} : laterF S T pl b Q (.exit id) σ = Q (.exit id) σ := rfl
theorem laterF_ret {b : Code} : laterF S T pl b Q .ret σ = Q .ret σ := rfl
variable {ops r : List Oper} {o : Oper} {nm : Nat} {sl : List AV} {H : Heap} {Q' : List AV → Heap → Prop} {pp : List (Nat × Nat)} {acc : List (Nat × List Nat)}
theorem aopsF_nil : zeb S T ops pp nm acc [] sl H Q' = (memOk pp acc = true ∧ Q' sl H) := rfl
theorem aopsF_plain {dst : Option Tmp} {op : Op} {type : TypeId} {pos : String} {after : Array Edge} : zeb S T ops pp nm acc (⟨dst,op,type,pos,after,none⟩ :: r) sl H Q' =
   ((aopF S T nm sl op H).p ∧ zeb S T ops pp (nm + 8) (acc ++ [(nm,foot sl op H)]) r (zai sl dst (aopF S T nm sl op H).x) (aopF S T nm sl op H).H Q') := rfl
theorem aopsF_guard {dst : Option Tmp} {op : Op} {type : TypeId} {pos : String} {after : Array Edge} {j : Nat} {want : Bool} : zeb S T ops pp nm acc (⟨dst,op,type,pos,after,some (j,want)⟩ :: r) sl H Q' =
   match guardSlot ops j with
     | none => False
     | some d => match slot sl d with
       | .w (.bool b) =>
         zfs b want ((aopF S T nm (setSlot sl d (.w (.bool want))) op H).p ∧
           zeb S T ops pp (nm + 8) (acc ++ [(nm,foot (setSlot sl d (.w (.bool want))) op H)]) r (zai (setSlot sl d (.w (.bool want))) dst (aopF S T nm (setSlot sl d (.w (.bool want))) op H).x) (aopF S T nm (setSlot sl d (.w (.bool want))) op H).H Q')
         (zeb S T ops pp (nm + 8) (acc ++ [(nm,[])]) r (zai (setSlot sl d (.w (.bool !want))) dst (.tup [])) H Q')
       | .tup [] => zeb S T ops pp (nm + 8) (acc ++ [(nm,[])]) r (zai sl dst (.tup [])) H Q'
       | _ => False := rfl
end rules
end Ax
end Go.Proofs.Ytckbejanaebjkaa
namespace Go.Proofs.Ytckbejanaebjkaa
open Ax
theorem evTP : (type_of% @awpF_skip) ∧
   (type_of% @awpF_label) ∧
   (type_of% @awpF_ret) ∧
   (type_of% @awpF_exit) ∧
   (type_of% @awpF_region) ∧
   (type_of% @awpF_seq) ∧
   (type_of% @awpF_block) ∧
   (type_of% @awpF_cond) ∧
   (type_of% @laterF_exit) ∧
   (type_of% @laterF_ret) ∧
   (type_of% @aopsF_nil) ∧
   (type_of% @aopsF_plain) ∧
   (type_of% @aopsF_guard) :=
 ⟨@awpF_skip,@awpF_label,@awpF_ret,@awpF_exit,@awpF_region,@awpF_seq,@awpF_block,@awpF_cond,@laterF_exit,@laterF_ret,@aopsF_nil,@aopsF_plain,@aopsF_guard⟩
theorem evDP : (type_of% @Ax.aopF.eq_1) ∧
   (type_of% @Ax.foot.eq_1) ∧
   (type_of% @Ax.footA.eq_1) ∧
   (type_of% @Ax.keepIn.eq_1) ∧
   (type_of% @Ax.keepIn.eq_2) ∧
   (type_of% @Ax.dropIn.eq_1) ∧
   (type_of% @Ax.dropIn.eq_2) ∧
   (type_of% @Ax.bids.eq_1) ∧
   (type_of% @Ax.bids.eq_2) ∧
   (type_of% @Ax.heldB.eq_1) ∧
   (type_of% @Ax.memOk.eq_1) ∧
   (type_of% @Ax.clearOf.eq_1) :=
 ⟨@Ax.aopF.eq_1,@Ax.foot.eq_1,@Ax.footA.eq_1,@Ax.keepIn.eq_1,@Ax.keepIn.eq_2,@Ax.dropIn.eq_1,@Ax.dropIn.eq_2,@Ax.bids.eq_1,@Ax.bids.eq_2,@Ax.heldB.eq_1,@Ax.memOk.eq_1,@Ax.clearOf.eq_1⟩
open Ax
attribute [go_sem] evDP evTP Blk.ids Op.operands Call.operands
end Go.Proofs.Ytckbejanaebjkaa
namespace Go.Proofs.Ytckbejanaebjkaa
namespace Ax
open Go.RowKit
def FnsO (P : Program) (S : zaf) : Prop := ∀ f s,S f = some s → Entered P f ∧ SoundO P f s
def noO : zaf := fun _ => none
theorem noO_ok {P : Program} : FnsO P noO := fun f s h => by cases h
def zfr (SO : zaf) (T : zab) (nm : Nat) (sl : List AV) (op : Op) (H : Heap) : Out :=
 match op with
 | .call c => match c.callee with
   | .value f => match ev sl f with
     | .fn f caps => aOpen SO nm f (coes T c.argTypes.toList (evs sl c.args.toList) ++ caps) H
     | _ => bad
   | _ => bad
 | _ => bad
theorem open_sound {P : Program} {w0 : World} {E : Nat → Prop} {w : World} {loc : Loc} {H : Heap} {T : zab} {SO : zaf} (hS : FnsO P SO) (he : Env w0 E w loc) (hh : HR w loc H) {nm : Nat} (hfree : ∀ id,nm ≤ id → id < nm + 8 → loc.m id = .free) {sl : List AV} {a : Act} (o : Oper)
   (hev : ∀ x,R w loc (ev sl x) (a.eval x)) (hp : (zfr SO T nm sl o.op H).p) : Sd P w0 E w loc true nm (zfr SO T nm sl o.op H) o a := by
 cases ho : o.op with
 | call c =>
   obtain ⟨callee,args,argTypes⟩ := c
   cases callee with
   | value f =>
     have hfv := hev f
     simp only [zfr,ho] at hp ⊢
     generalize ev sl f = xf at hfv hp ⊢
     split at hp
     · rename_i g caps
       cases hv : a.eval f with
       | func fn first captured =>
         rw [hv] at hfv
         cases hfv with
         | fn _ _ cs hlc hc =>
           obtain ⟨e1,e2⟩ := evs_R (w := w) (loc := loc) (sl := sl) (a := a) args.toList (fun x _ => hev x)
           obtain ⟨c1,c2⟩ := coes_R (T := T) (w := w) (loc := loc) argTypes.toList (evs sl args.toList)
           have c2 := c2 (args.toList.map a.eval) e2
           have c3 : ∀ (j : Nat) (h : j < (coes T argTypes.toList (evs sl args.toList) ++ caps).length) (h' : j < (args.toList.map a.eval ++ cs).length),R w loc (coes T argTypes.toList (evs sl args.toList) ++ caps)[j] (args.toList.map a.eval ++ cs)[j] := by
             intro j h h'
             have hl : (coes T argTypes.toList (evs sl args.toList)).length = (args.toList.map a.eval).length := by rw [c1,e1]; simp
             by_cases hj : j < (coes T argTypes.toList (evs sl args.toList)).length
             · rw [List.getElem_append_left hj,List.getElem_append_left (by omega)]
               exact c2 j hj (by omega)
             · rw [List.getElem_append_right (by omega),List.getElem_append_right (by omega)]
               have := hc (j - (coes T argTypes.toList (evs sl args.toList)).length) (by rw [List.length_append] at h; omega) (by rw [List.length_append] at h'; omega)
               simpa only [hl] using this
           cases hsg : SO g with
           | none => simp [aOpen,hsg,bad] at hp
           | some sp =>
             obtain ⟨⟨fn,hfn,hbody,hname⟩,hsound⟩ := hS g sp hsg
             have hcall := call_postO (P := P) he hh hfree (SO := SO) (fun f s h => (hS f s h).2) (f := g) (by rw [List.length_append,List.length_append,c1,e1,hlc]; simp) c3 hp
             have hrun : (execOp a.eval o).run P w = .ok (.enter g (args.toList.map a.eval ++ cs).toArray) w := by
               have h1 : fn.name ≠ "runtime.NumGoroutine" := by simpa using hname
               have hb' : fn.body ≠ none := by intro e; rw [e] at hbody; simp at hbody
               have h9 : Array.map a.eval args = (args.toList.map a.eval).toArray := by rw [← Array.toList_inj]; simp
               simp [execOp,ho,resolve,hv,Deferred.ofValue,invoke,callFunc,hfn,h1,hb',h9]
             intro next Q hn
             unfold Oper.wp
             rw [hrun]
             refine hcall.mono ?_
             rintro e w' ⟨v,loc',rfl,h1⟩
             exact hn v w' loc' h1
       | _ => rw [hv] at hfv; cases hfv
     · exact hp.elim
   | _ => simp [zfr,ho,bad] at hp
 | _ => simp [zfr,ho,bad] at hp
theorem walk_look {H : Heap} : ∀ (ids good : List Nat),walk H good ids = true → ∀ id ∈ ids,look H id ≠ none
 | [],_,_,id,hid => by simp at hid
 | k :: r,good,hw,id,hid => by
   simp only [walk,Bool.and_eq_true] at hw
   cases hl : look H k with
   | none => simp [hl] at hw
   | some blk =>
     simp only [hl] at hw
     rcases List.mem_cons.1 hid with rfl | hid
     · rw [hl]; simp
     · exact walk_look r _ hw.2 id hid
theorem hnew_open {SO : zaf} {T : zab} {sl : List AV} {op : Op} {nm : Nat} {H : Heap} : Hnew nm H (zfr SO T nm sl op H) := by
 unfold zfr
 split
 · split
   · split
     · unfold aOpen
       split
       · rename_i f _ spec hs
         intro hp id b hl
         simp only [openOut] at hp hl
         generalize reach H 12 [] (idsL _) = ids at *
         obtain ⟨⟨hnd,hwalk,hain,hpin⟩,hsp,hb1,hb2⟩ := hp
         rcases look_backO _ _ _ hl with ⟨j,hj,h1,h2⟩ | ⟨h1,h2⟩
         · rw [Nat.zero_add] at h1
           by_cases hjl : j < ids.length
           · rw [zda hjl] at h1
             left
             rw [← h1]
             exact walk_look ids _ hwalk _ (List.getElem_mem hjl)
           · rw [zcr (by omega)] at h1
             right; omega
         · exact .inl (by rw [h1]; simp)
       · exact hok_bad.new
     · exact hok_bad.new
   · exact hok_bad.new
 · exact hok_bad.new
def aopsO (S SO : zaf) (T : zab) (ops : List Oper) : Nat → Nat → List Oper → List AV → Heap → (List AV → Heap → Prop) → Prop
 | _,_,[],sl,H,Q => Q sl H
 | 0,nm,o :: r,sl,H,Q => o.guard = none ∧ (zfr SO T nm sl o.op H).p ∧ aops S T ops (nm + 8) r (zai sl o.dst (zfr SO T nm sl o.op H).x) (zfr SO T nm sl o.op H).H Q
 | k + 1,nm,o :: r,sl,H,Q => o.guard = none ∧ (aop S T nm sl o.op H).p ∧ aopsO S SO T ops k (nm + 8) r (zai sl o.dst (aop S T nm sl o.op H).x) (aop S T nm sl o.op H).H Q
theorem aopsO_sound {P : Program} {w0 : World} {E : Nat → Prop} {T : zab} {S SO : zaf} (hT : TOk P T) (hS : Fns P S) (hSO : FnsO P SO) {ops : Array Oper} {K : Exit → Act → World → Prop} {Q : List AV → Heap → Prop} {B : Bs} {nz : Nat}
   (hK : ∀ sl H a w loc,Base w0 B w loc → Rel' w0 E loc ⟨sl,H,nz⟩ a w → Q sl H → K .normal a w) : ∀ (k : Nat) (r : List Oper) (nm : Nat) (sl : List AV) (H : Heap) (a : Act) (w : World) (loc : Loc),nz = nm + 8 * r.length → Base w0 B w loc →
   Rel' w0 E loc ⟨sl,H,nm⟩ a w → aopsO S SO T ops.toList k nm r sl H Q → wpList P ops K r a w
 | k,[],nm,sl,H,a,w,loc,hz,hb,hr,h => by
   simp only [List.length_nil,Nat.mul_zero,Nat.add_zero] at hz
   subst hz
   exact wpList_nil (hK sl H a w loc hb hr (by cases k <;> exact h))
 | 0,o :: r,nm,sl,H,a,w,loc,hz,hb,hr,h => by
   have hz' : nz = nm + 8 + 8 * r.length := by simp at hz; omega
   obtain ⟨hg,hp,hrest⟩ := h
   refine wpList_step fun Kn hKn => ?_
   rw [if_pos (by simp [Region.wanted,hg])]
   have hop := open_sound (T := T) hSO hr.env hr.heap (fun id h1 _ => hr.fresh id h1) o (fun x => ev_R hr.slots x) hp
   exact hop Kn K (fun v w' loc' hpost => hKn _ _ (zcs (ops := ops) hT hS hK r (nm + 8) _ _ _ w' loc' hz' (hb.post hpost) (zef hr hpost (hnew_open hp) o.dst) hrest))
 | k + 1,o :: r,nm,sl,H,a,w,loc,hz,hb,hr,h => by
   have hz' : nz = nm + 8 + 8 * r.length := by simp at hz; omega
   obtain ⟨hg,hp,hrest⟩ := h
   refine wpList_step fun Kn hKn => ?_
   rw [if_pos (by simp [Region.wanted,hg])]
   have hop := zea hT hS hr.env hr.heap (fun id h1 _ => hr.fresh id h1) o (fun x _ => ev_R hr.slots x) hp
   exact hop Kn K (fun v w' loc' hpost => hKn _ _ (aopsO_sound hT hS hSO hK k r (nm + 8) _ _ _ w' loc' hz' (hb.post hpost) (zef hr hpost (zfl hp) o.dst) hrest))
def specOp (T : zab) (sl : List AV) (op : Op) (K : AV → Prop) : Prop :=
 match op with
 | .binOp .eql t x (.const (.slice none 0 0)) _ => match T t with
   | some ti => match ti.d with
     | .slice _ => match ev sl x with
       | .sg s xs _ => 0 < s ∧ ∀ b,(b = true → xs.length = 0) → K (.w (.bool b))
       | .sb xs _ => ∀ b,(b = true → xs.length = 0) → K (.w (.bool b))
       | .si xs _ => ∀ b,(b = true → xs.length = 0) → K (.w (.bool b))
       | _ => False
     | _ => False
   | none => False
 | .buildSlice t 0 ps => match T t with
   | some ti => match ti.d with
     | .slice e => match T e with
       | some te => ps = #[] ∧ 0 < te.size ∧ K (.sg te.size [] true)
       | none => False
     | _ => False
   | none => False
 | .call c => match c.callee with
   | .builtin .append => match c.args.toList,c.argTypes.toList with
     | [x,y],[t,u] => match T t,T u with
       | some ti,some tu => match ti.d,tu.d with
         | .slice e,.slice _ => match T e with
           | some te => match ev sl x,ev sl y with
             | .sg s [] true,.sg _ [] _ => 0 < te.size ∧ K (.sg s [] true)
             | .sg s [] true,.sb [] _ => 0 < te.size ∧ K (.sg s [] true)
             | .sg s [] true,.si [] _ => 0 < te.size ∧ K (.sg s [] true)
             | _,_ => False
           | none => False
         | _,_ => False
       | _,_ => False
     | _,_ => False
   | _ => False
 | _ => False
theorem append_none {P : Program} {t u ty e e' : TypeId} {te : TyI} (hd : P.underlying t = some (.slice e)) (hu : P.underlying u = some (.slice e')) (hty : TyR P e te) (a a' : Option Addr) (c : Nat) (w : World) :
   (Builtin.append_ #[t,u] ty #[.slice a 0 0,.slice a' 0 c]).run P w = .ok (.slice a 0 0) w := by
 have hsz := fun W => zan (P := P) hty W
 have hlc : ∀ (b : Addr) W,(loadCells b 0).run P W = .ok #[] W := fun b W => by simp [loadCells,loadCellsFrom]
 have hst : ∀ (b : Addr) W,(storeCells b []).run P W = .ok () W := fun b W => by simp [storeCells]
 unfold Builtin.append_
 cases a <;> cases a' <;> simp [run_underlying hd,run_underlying hu,hsz,Builtin.lenOf,Builtin.firstCells,hlc,hst]
theorem specOp_sound {P : Program} {w0 : World} {E : Nat → Prop} {T : zab} (hT : TOk P T) {w : World} {loc : Loc} {H : Heap} (he : Env w0 E w loc) (hh : HR w loc H) {nm : Nat} {sl : List AV} {a : Act} {op : Op} {K : AV → Prop} (hev : ∀ x,R w loc (ev sl x) (a.eval x)) (h : specOp T sl op K) :
   ∃ x v w',K x ∧ Post w0 E w loc true nm x H v w' loc ∧ ∀ o : Oper,o.op = op → (execOp a.eval o).run P w = .ok (.value v) w' := by
 unfold specOp at h
 split at h
 · rename_i t x yt
   cases ht : T t with
   | none => simp [ht] at h
   | some ti =>
     simp only [ht] at h
     split at h
     · rename_i e hd
       have hu : ∃ e,P.underlying t = some (.slice e) := by
         have := (hT t ti ht).d
         rw [hd] at this
         exact ⟨_,this⟩
       obtain ⟨e,hu⟩ := hu
       have hx := hev x
       generalize ev sl x = xv at hx h
       split at h
       · rename_i s xs f
         obtain ⟨hs,h⟩ := h
         generalize hv : a.eval x = v at hx
         cases hx with
         | sg _ _ _ ad cap cs hd hs' hc hl hx' _ =>
           refine ⟨_,.bool ad.isNone,w,h ad.isNone fun hn => ?_,Post.pure (.w _ rfl) hh he,fun o ho => ?_⟩
           · cases xs with
             | nil => rfl
             | cons y ys =>
               exfalso
               obtain rfl : ad = none := by simpa using hn
               rcases hc.lies with rfl | ⟨b,o,he,_⟩
               · have := hs' y (by simp)
                 rw [List.flatMap_cons,List.length_append,List.length_nil] at hl
                 omega
               · cases he
           · have heq : ∀ d,(Op.equalIn (d + 1) t (.slice ad xs.length cap) (.slice none 0 0)).run P w = .ok ad.isNone w := fun d => by cases ad <;> simp [Op.equalIn,run_underlying hu]
             have heq := heq 9999
             have h2 : (Op.equal t (.slice ad xs.length cap) (.slice none 0 0)).run P w = .ok ad.isNone w := heq
             simp only [execOp,ho,hv]
             simp [zcb (u := .slice ad xs.length cap) rfl (by simp),binOp,h2,Act.eval]
       · rename_i xs f
         generalize hv : a.eval x = v at hx
         cases hx with
         | sb _ _ ad cap hd hc =>
           refine ⟨_,.bool ad.isNone,w,h ad.isNone fun hn => ?_,Post.pure (.w _ rfl) hh he,fun o ho => ?_⟩
           · cases xs with
             | nil => rfl
             | cons y ys =>
               exfalso
               obtain rfl : ad = none := by simpa using hn
               rcases hc.lies with hcs | ⟨b,o,he,_⟩
               · simp at hcs
               · cases he
           · have heq : ∀ d,(Op.equalIn (d + 1) t (.slice ad xs.length cap) (.slice none 0 0)).run P w = .ok ad.isNone w := fun d => by cases ad <;> simp [Op.equalIn,run_underlying hu]
             have heq := heq 9999
             have h2 : (Op.equal t (.slice ad xs.length cap) (.slice none 0 0)).run P w = .ok ad.isNone w := heq
             simp only [execOp,ho,hv]
             simp [zcb (u := .slice ad xs.length cap) rfl (by simp),binOp,h2,Act.eval]
       · rename_i xs f
         generalize hv : a.eval x = v at hx
         cases hx with
         | si _ _ ad cap hd hc =>
           refine ⟨_,.bool ad.isNone,w,h ad.isNone fun hn => ?_,Post.pure (.w _ rfl) hh he,fun o ho => ?_⟩
           · cases xs with
             | nil => rfl
             | cons y ys =>
               exfalso
               obtain rfl : ad = none := by simpa using hn
               rcases hc.lies with hcs | ⟨b,o,he,_⟩
               · simp at hcs
               · cases he
           · have heq : ∀ d,(Op.equalIn (d + 1) t (.slice ad xs.length cap) (.slice none 0 0)).run P w = .ok ad.isNone w := fun d => by cases ad <;> simp [Op.equalIn,run_underlying hu]
             have heq := heq 9999
             have h2 : (Op.equal t (.slice ad xs.length cap) (.slice none 0 0)).run P w = .ok ad.isNone w := heq
             simp only [execOp,ho,hv]
             simp [zcb (u := .slice ad xs.length cap) rfl (by simp),binOp,h2,Act.eval]
       · exact h.elim
     · exact h.elim
 · rename_i t ps
   cases ht : T t with
   | none => simp [ht] at h
   | some ti =>
     simp only [ht] at h
     split at h
     · rename_i e hd
       have hu : P.underlying t = some (.slice e) := by
         have := (hT t ti ht).d
         rw [hd] at this
         exact this
       cases hte : T e with
       | none => simp [hte] at h
       | some te =>
         simp only [hte] at h
         obtain ⟨rfl,hs,hK⟩ := h
         have hty := hT _ te hte
         obtain ⟨z,z1,z2,z3⟩ := zaz hty w
         have hrun := zch (P := P) (t := t) (n := 0) (pv := #[]) (cs := #[]) hu hty z1 hs (by omega) (by simp [Instr.fill])
         refine ⟨_,.slice (some ⟨w.heap.size,0,none⟩) 0 0,{ w with heap := w.heap.push (.cells #[] e) },hK,post_anon (o := .cells #[] e) he hh ⟨rfl,rfl,rfl,rfl⟩ (fun _ => .sg _ [] true _ 0 [] ⟨Nat.le_refl _,Nat.zero_le _,fun _ => rfl⟩ (by simp) ⟨.inl rfl⟩ rfl (by simp) (by simp)),fun o ho => ?_⟩
         simp [execOp,ho,hrun]
     · exact h.elim
 · rename_i c
   obtain ⟨callee,args,argTypes⟩ := c
   simp only at h
   split at h
   · split at h
     · rename_i d x t u ha hb
       cases ht : T t with
       | none => simp [ht] at h
       | some ti =>
         cases htu : T u with
         | none => simp [ht,htu] at h
         | some tu =>
           simp only [ht,htu] at h
           have hd := (hT t ti ht).d
           have hud := (hT u tu htu).d
           split at h
           · rename_i e e' hdd hdu
             rw [hdd] at hd
             rw [hdu] at hud
             have hd : P.underlying t = some (.slice e) := hd
             have hud : P.underlying u = some (.slice e') := hud
             cases hte : T e with
             | none => simp [hte] at h
             | some te =>
               simp only [hte] at h
               have hty := hT _ te hte
               have hdv := hev d
               have hxv := hev x
               generalize ev sl d = dv at hdv h
               generalize ev sl x = xv at hxv h
               split at h
               · rename_i s s' f'
                 obtain ⟨hs,hK⟩ := h
                 obtain rfl : args = #[d,x] := by rw [← Array.toList_inj]; exact ha
                 obtain rfl : argTypes = #[t,u] := by rw [← Array.toList_inj]; exact hb
                 generalize hv1 : a.eval d = v1 at hdv
                 generalize hv2 : a.eval x = v2 at hxv
                 cases hdv with
                 | sg _ _ _ ad cap cs hdm hs' hc hl hx' hh' =>
                   obtain rfl : cap = 0 := hdm.full rfl
                   cases hxv with
                   | sg _ _ _ ad2 cap2 cs2 hdm2 hs2 hc2 hl2 hx2 hh2 =>
                     refine ⟨_,.slice ad 0 0,w,hK,Post.pure (.sg _ [] true ad 0 cs hdm hs' hc hl hx' hh') hh he,fun o ho => ?_⟩
                     have h1 := append_none (P := P) (ty := o.type) hd hud hty ad ad2 cap2 w
                     simp only [execOp,ho,resolve,invoke,builtin,Sem.run_bind,Sem.run_pure,Result.andThen_ok]
                     simp [hv1,hv2,h1]
               · rename_i s f'
                 obtain ⟨hs,hK⟩ := h
                 obtain rfl : args = #[d,x] := by rw [← Array.toList_inj]; exact ha
                 obtain rfl : argTypes = #[t,u] := by rw [← Array.toList_inj]; exact hb
                 generalize hv1 : a.eval d = v1 at hdv
                 generalize hv2 : a.eval x = v2 at hxv
                 cases hdv with
                 | sg _ _ _ ad cap cs hdm hs' hc hl hx' hh' =>
                   obtain rfl : cap = 0 := hdm.full rfl
                   cases hxv with
                   | sb _ _ ad2 cap2 hdm2 hc2 =>
                     refine ⟨_,.slice ad 0 0,w,hK,Post.pure (.sg _ [] true ad 0 cs hdm hs' hc hl hx' hh') hh he,fun o ho => ?_⟩
                     have h1 := append_none (P := P) (ty := o.type) hd hud hty ad ad2 cap2 w
                     simp only [execOp,ho,resolve,invoke,builtin,Sem.run_bind,Sem.run_pure,Result.andThen_ok]
                     simp [hv1,hv2,h1]
               · rename_i s f'
                 obtain ⟨hs,hK⟩ := h
                 obtain rfl : args = #[d,x] := by rw [← Array.toList_inj]; exact ha
                 obtain rfl : argTypes = #[t,u] := by rw [← Array.toList_inj]; exact hb
                 generalize hv1 : a.eval d = v1 at hdv
                 generalize hv2 : a.eval x = v2 at hxv
                 cases hdv with
                 | sg _ _ _ ad cap cs hdm hs' hc hl hx' hh' =>
                   obtain rfl : cap = 0 := hdm.full rfl
                   cases hxv with
                   | si _ _ ad2 cap2 hdm2 hc2 =>
                     refine ⟨_,.slice ad 0 0,w,hK,Post.pure (.sg _ [] true ad 0 cs hdm hs' hc hl hx' hh') hh he,fun o ho => ?_⟩
                     have h1 := append_none (P := P) (ty := o.type) hd hud hty ad ad2 cap2 w
                     simp only [execOp,ho,resolve,invoke,builtin,Sem.run_bind,Sem.run_pure,Result.andThen_ok]
                     simp [hv1,hv2,h1]
               · exact h.elim
           · exact h.elim
     · exact h.elim
   · exact h.elim
 · exact h.elim
def zfq (S : zaf) (T : zab) (ops : List Oper) : List Bool → Nat → List Oper → List AV → Heap → (List AV → Heap → Prop) → Prop
 | _,_,[],sl,H,Q => Q sl H
 | [],nm,r,sl,H,Q => aops S T ops nm r sl H Q
 | true :: l,nm,o :: r,sl,H,Q => o.guard = none ∧ specOp T sl o.op (fun x => zfq S T ops l (nm + 8) r (zai sl o.dst x) H Q)
 | false :: l,nm,o :: r,sl,H,Q => o.guard = none ∧ (aop S T nm sl o.op H).p ∧ zfq S T ops l (nm + 8) r (zai sl o.dst (aop S T nm sl o.op H).x) (aop S T nm sl o.op H).H Q
theorem aopsT_sound {P : Program} {w0 : World} {E : Nat → Prop} {T : zab} {S : zaf} (hT : TOk P T) (hS : Fns P S) {ops : Array Oper} {K : Exit → Act → World → Prop} {Q : List AV → Heap → Prop} {B : Bs} {nz : Nat}
   (hK : ∀ sl H a w loc,Base w0 B w loc → Rel' w0 E loc ⟨sl,H,nz⟩ a w → Q sl H → K .normal a w) : ∀ (k : List Bool) (r : List Oper) (nm : Nat) (sl : List AV) (H : Heap) (a : Act) (w : World) (loc : Loc),nz = nm + 8 * r.length → Base w0 B w loc →
   Rel' w0 E loc ⟨sl,H,nm⟩ a w → zfq S T ops.toList k nm r sl H Q → wpList P ops K r a w
 | k,[],nm,sl,H,a,w,loc,hz,hb,hr,h => by
   simp only [List.length_nil,Nat.mul_zero,Nat.add_zero] at hz
   subst hz
   exact wpList_nil (hK sl H a w loc hb hr (by cases k with | nil => exact h | cons b _ => cases b <;> exact h))
 | [],o :: r,nm,sl,H,a,w,loc,hz,hb,hr,h => zcs (ops := ops) hT hS hK (o :: r) nm sl H a w loc hz hb hr h
 | true :: l,o :: r,nm,sl,H,a,w,loc,hz,hb,hr,h => by
   have hz' : nz = nm + 8 + 8 * r.length := by simp at hz; omega
   obtain ⟨hg,hp⟩ := h
   refine wpList_step fun Kn hKn => ?_
   rw [if_pos (by simp [Region.wanted,hg])]
   obtain ⟨x,v,w',hrest,hpost,hrun⟩ := specOp_sound (P := P) (nm := nm) hT hr.env hr.heap (fun x => ev_R hr.slots x) hp
   exact (zal (w' := w') (loc' := loc) (out := ⟨True,x,H⟩) (hrun o rfl) hpost) Kn K (fun v w' loc' hpost => hKn _ _ (aopsT_sound hT hS hK l r (nm + 8) _ _ _ w' loc' hz' (hb.post hpost) (zef hr hpost (fun id b hl => Or.inl (by show look H id ≠ none; intro e; rw [show look H id = some b from hl] at e; cases e)) o.dst) hrest))
 | false :: l,o :: r,nm,sl,H,a,w,loc,hz,hb,hr,h => by
   have hz' : nz = nm + 8 + 8 * r.length := by simp at hz; omega
   obtain ⟨hg,hp,hrest⟩ := h
   refine wpList_step fun Kn hKn => ?_
   rw [if_pos (by simp [Region.wanted,hg])]
   have hop := zea hT hS hr.env hr.heap (fun id h1 _ => hr.fresh id h1) o (fun x _ => ev_R hr.slots x) hp
   exact hop Kn K (fun v w' loc' hpost => hKn _ _ (aopsT_sound hT hS hK l r (nm + 8) _ _ _ w' loc' hz' (hb.post hpost) (zef hr hpost (zfl hp) o.dst) hrest))
inductive RP where
 | std
 | frz (fs : List Nat)
 | opn (fs : List Nat) (k : Nat)
 | prs (l : List (Nat × Nat))
 | tst (k : List Bool)
abbrev XPlan := Nat → RP
def zbs (T : zab) (pl : XPlan) : Code → Bool
 | .region id ops draw => match pl id with
   | .std => !draw || drawOk T ops.toList
   | .frz _ => !draw || drawOk T ops.toList
   | .opn _ _ => !draw
   | .tst _ => !draw
   | .prs p => draw && drawOkF T ops.toList p
 | .seq a b => zbs T pl a && zbs T pl b
 | .cond _ a b => zbs T pl a && zbs T pl b
 | .block _ c => zbs T pl c
 | .loop c => zbs T pl c
 | _ => true
def awpO (S SO : zaf) (T : zab) (pl : XPlan) : Code → (Exit → ASt → Prop) → ASt → Prop
 | .skip,Q,σ => Q .normal σ
 | .label _,Q,σ => Q .normal σ
 | .region id ops _,Q,σ => match pl id with
   | .std => aops S T ops.toList σ.nx ops.toList σ.sl σ.H (regK (σ.nx + 8 * ops.toList.length) Q)
   | .prs p => zeb S T ops.toList p σ.nx [] ops.toList σ.sl σ.H (regK (σ.nx + 8 * ops.toList.length) Q)
   | .frz fs => frzK fs σ.sl σ.H (fun sl H => aops S T ops.toList σ.nx ops.toList sl H (regK (σ.nx + 8 * ops.toList.length) Q))
   | .opn fs k => frzK fs σ.sl σ.H (fun sl H => aopsO S SO T ops.toList k σ.nx ops.toList sl H (regK (σ.nx + 8 * ops.toList.length) Q))
   | .tst k => zfq S T ops.toList k σ.nx ops.toList σ.sl σ.H (regK (σ.nx + 8 * ops.toList.length) Q)
 | .seq a b,Q,σ => awpO S SO T pl a (seqK (awpO S SO T pl b Q) Q) σ
 | .cond c a b,Q,σ => match ev σ.sl c with
     | .w (.bool t) => zft t (awpO S SO T pl a Q σ) (awpO S SO T pl b Q σ)
     | _ => False
 | .block id c,Q,σ => awpO S SO T pl c (zek id Q) σ
 | .loop c,Q,σ => ALoop (awpO S SO T pl c) Q σ
 | .exit id,Q,σ => Q (.exit id) σ
 | .ret,Q,σ => Q .ret σ
 | _,_,_ => False
open Classical in
theorem awpO_sound {P : Program} {w0 : World} {E : Nat → Prop} {T : zab} {S SO : zaf} {pl : XPlan} (hm : P.follows .mixedOrders = true) (hT : TOk P T) (hS : Fns P S) (hSO : FnsO P SO) {B : Bs} : ∀ (c : Code) (Q : Exit → ASt → Prop) (σ : ASt) (a : Act) (w : World),
   zbs T pl c = true → awpO S SO T pl c Q σ → Rel w0 E B σ a w → c.wp P (Low w0 E B Q) a w := by
 intro c
 induction c with
 | skip => intro Q σ a w hdr h hr; exact wp_skip ⟨σ,hr,h⟩
 | label l => intro Q σ a w hdr h hr; exact wp_label ⟨σ,hr,h⟩
 | ret => intro Q σ a w hdr h hr; exact wp_ret ⟨σ,hr,h⟩
 | exit id => intro Q σ a w hdr h hr; exact wp_exit ⟨σ,hr,h⟩
 | region id ops draw =>
   intro Q σ a w hdr h hr
   obtain ⟨loc,hb,hr⟩ := hr
   obtain ⟨sl,H,nx⟩ := σ
   have hK : ∀ sl H a w loc,Base w0 B w loc → Rel' w0 E loc ⟨sl,H,nx + 8 * ops.toList.length⟩ a w → regK (nx + 8 * ops.toList.length) Q sl H → Low w0 E B Q .normal a w := fun sl H a w loc h1 h2 h3 => ⟨_,⟨loc,h1,h2⟩,h3⟩
   simp only [zbs] at hdr
   simp only [awpO] at h
   cases hp : pl id with
   | std =>
     simp only [hp] at hdr h
     cases draw with
     | false => exact wp_region_list (zcs hT hS hK ops.toList nx sl H a w loc rfl hb hr h)
     | true => exact zez hT hS hm w0 E ops.toList _ _ B nx sl H a w loc id (by simpa using hdr) hK hb hr h
   | prs p =>
     simp only [hp] at hdr h
     simp only [Bool.and_eq_true] at hdr
     obtain ⟨hd1,hd2⟩ := hdr
     subst hd1
     exact drawF_sound hT hS hm hd2 hK hb hr h
   | frz fs =>
     simp only [hp] at hdr h
     obtain ⟨sl',H',hw,h⟩ := frzK_sound (nx := nx) _ _ _ _ h
     obtain ⟨loc',hb',hr'⟩ := hw _ _ _ _ _ ⟨loc,hb,hr⟩
     cases draw with
     | false => exact wp_region_list (zcs hT hS hK ops.toList nx sl' H' a w loc' rfl hb' hr' h)
     | true => exact zez hT hS hm w0 E ops.toList _ _ B nx sl' H' a w loc' id (by simpa using hdr) hK hb' hr' h
   | opn fs k =>
     simp only [hp] at hdr h
     obtain ⟨sl',H',hw,h⟩ := frzK_sound (nx := nx) _ _ _ _ h
     obtain ⟨loc',hb',hr'⟩ := hw _ _ _ _ _ ⟨loc,hb,hr⟩
     cases draw with
     | false => exact wp_region_list (aopsO_sound hT hS hSO hK k ops.toList nx sl' H' a w loc' rfl hb' hr' h)
     | true => simp at hdr
   | tst k =>
     simp only [hp] at hdr h
     cases draw with
     | false => exact wp_region_list (aopsT_sound hT hS hK k ops.toList nx sl H a w loc rfl hb hr h)
     | true => simp at hdr
 | seq x y ihx ihy =>
   intro Q σ a w hdr h hr
   refine wp_seq (wp_mono (ihx _ σ a w (by simp only [zbs,Bool.and_eq_true] at hdr; exact hdr.1) h hr) ?_)
   rintro e a' w' ⟨σ',hr',hq⟩
   cases e with
   | normal => exact ihy Q σ' a' w' (by simp only [zbs,Bool.and_eq_true] at hdr; exact hdr.2) hq hr'
   | _ => exact ⟨σ',hr',hq⟩
 | cond c x y ihx ihy =>
   intro Q σ a w hdr h hr
   simp only [awpO,zft] at h
   simp only [zbs,Bool.and_eq_true] at hdr
   obtain ⟨loc,hb,hr⟩ := hr
   split at h
   · rename_i t hc
     have hv := ev_R hr.slots c
     rw [hc] at hv
     have hv := hv.wv
     cases t with
     | true => exact wp_cond_true hv (ihx Q σ a w hdr.1 (h.1 rfl) ⟨loc,hb,hr⟩)
     | false => exact wp_cond_false hv (ihy Q σ a w hdr.2 (h.2 rfl) ⟨loc,hb,hr⟩)
   · exact h.elim
 | block id c ih =>
   intro Q σ a w hdr h hr
   refine wp_block (wp_mono (ih _ σ a w hdr h hr) ?_)
   rintro e a' w' ⟨σ',hr',hq⟩
   cases e with
   | exit id' =>
     simp only [zek,Exit.inBlock] at hq ⊢
     split at hq
     · rename_i he; rw [if_pos he]; exact ⟨σ',hr',hq⟩
     · rename_i he; rw [if_neg he]; exact ⟨σ',hr',hq⟩
   | _ => exact ⟨σ',hr',hq⟩
 | loop c ih =>
   intro Q σ a w hdr h hr
   obtain ⟨I,⟨n0,σ0,hw0,hI0⟩,hround⟩ := h
   let p : Act → World → Nat → Prop := fun a w n => ∃ σ,Rel w0 E B σ a w ∧ I n σ
   have hleast : ∀ a w,(∃ n,p a w n) → ∃ m,p a w m ∧ ∀ k,p a w k → m ≤ k := fun a w ⟨n,hn⟩ => let ⟨m,h1,_,h3⟩ := least n hn; ⟨m,h1,h3⟩
   let μ : Act → World → Nat := fun a w => if h : ∃ n,p a w n then Classical.choose (hleast a w h) else 0
   refine wp_loop (fun a w => ∃ n,p a w n) μ ⟨n0,σ0,hw0 w0 E B a w hr,hI0⟩ ?_
   intro a w hex
   have hμ : μ a w = Classical.choose (hleast a w hex) := dif_pos hex
   obtain ⟨⟨σ1,hr1,hI1⟩,hmin⟩ := Classical.choose_spec (hleast a w hex)
   rw [← hμ] at hI1
   refine wp_mono (ih _ σ1 a w hdr (hround _ σ1 hI1) hr1) ?_
   rintro e a' w' ⟨σ',hr',hq⟩
   cases e with
   | normal =>
     obtain ⟨m,σ2,hlt,hw2,hI2⟩ := hq
     have hp : p a' w' m := ⟨σ2,hw2 w0 E B a' w' hr',hI2⟩
     refine ⟨⟨m,hp⟩,?_⟩
     have hμ' : μ a' w' = Classical.choose (hleast a' w' ⟨m,hp⟩) := dif_pos ⟨m,hp⟩
     have := (Classical.choose_spec (hleast a' w' ⟨m,hp⟩)).2 m hp
     rw [← hμ'] at this
     exact Nat.lt_of_le_of_lt this hlt
   | _ =>
     obtain ⟨σ2,hw2,hq⟩ := hq
     exact ⟨σ2,hw2 w0 E B a' w' hr',hq⟩
 | _ => intro Q σ a w hdr h hr; exact h.elim
theorem fn_soundO {P : Program} {T : zab} {S SO : zaf} (hm : P.follows .mixedOrders = true) (hT : TOk P T) (hS : Fns P S) (hSO : FnsO P SO) {f : FuncId} {fn : Func} {c : Code} (hf : P.funcs[f]? = some fn) (hb : fn.body = some c) {spec : zar}
   (h : ∀ xs pins,(spec xs pins).p → pins.length ≤ 4 ∧ ∃ pl,zbs T pl c = true ∧ awpO S SO T pl c (EndsWO T fn.results.toList pins (spec xs pins)) ⟨xs ++ List.replicate (fn.ntmps - xs.length) .junk,pinHeap 0 pins,4⟩) : SoundO P f spec :=
 sound_genO hT hf hb (Qp := fun xs pins => EndsWO T fn.results.toList pins (spec xs pins)) (fun _ _ _ _ h => h) (fun xs pins hp => ⟨(h xs pins hp).1,fun w0 E B a w hr => (h xs pins hp).2.elim fun pl hh => awpO_sound hm hT hS hSO c _ _ _ _ hh.1 hh.2 hr⟩)
theorem fn_soundOK {P : Program} {T : zab} {S SO : zaf} (hm : P.follows .mixedOrders = true) (hT : TOk P T) (hS : Fns P S) (hSO : FnsO P SO) {f : FuncId} {fn : Func} {c : Code} (hf : P.funcs[f]? = some fn) (hb : fn.body = some c) {spec : zar}
   (h : ∀ xs pins,(spec xs pins).p → closedB pins = true → pins.length ≤ 4 ∧ ∃ pl,zbs T pl c = true ∧ awpO S SO T pl c (EndsW T fn.results.toList pins (spec xs pins)) ⟨xs ++ List.replicate (fn.ntmps - xs.length) .junk,pinHeap 0 pins,4⟩) : zbm P f spec :=
 sound_genK (S := S) hT hS hf hb (Qp := fun xs pins => EndsW T fn.results.toList pins (spec xs pins)) (fun _ _ _ _ h => h) (fun xs pins hp hc => ⟨(h xs pins hp hc).1,fun w0 E B a w hr => (h xs pins hp hc).2.elim fun pl hh => awpO_sound hm hT hS hSO c _ _ _ _ hh.1 hh.2 hr⟩)
def laterO (S SO : zaf) (T : zab) (pl : XPlan) (b : Code) (Q : Exit → ASt → Prop) : Exit → ASt → Prop := seqK (awpO S SO T pl b Q) Q
section rules
variable {S SO : zaf} {T : zab} {pl : XPlan} {Q : Exit → ASt → Prop} {σ : ASt}
theorem awpO_skip : awpO S SO T pl .skip Q σ = Q .normal σ := rfl
theorem awpO_label {l : Nat} : awpO S SO T pl (.label l) Q σ = Q .normal σ := rfl
theorem awpO_ret : awpO S SO T pl .ret Q σ = Q .ret σ := rfl
theorem awpO_exit {id : Nat} : awpO S SO T pl (.exit id) Q σ = Q (.exit id) σ := rfl
theorem awpO_region {id : Nat} {l : List Oper} {draw : Bool} : awpO S SO T pl (.region id l.toArray draw) Q σ = match pl id with
   | .std => aops S T l σ.nx l σ.sl σ.H (regK (σ.nx + 8 * l.length) Q)
   | .prs p => zeb S T l p σ.nx [] l σ.sl σ.H (regK (σ.nx + 8 * l.length) Q)
   | .frz fs => frzK fs σ.sl σ.H (fun sl H => aops S T l σ.nx l sl H (regK (σ.nx + 8 * l.length) Q))
   | .opn fs k => frzK fs σ.sl σ.H (fun sl H => aopsO S SO T l k σ.nx l sl H (regK (σ.nx + 8 * l.length) Q))
   | .tst k => zfq S T l k σ.nx l σ.sl σ.H (regK (σ.nx + 8 * l.length) Q) := by
 simp [awpO]
theorem awpO_seq {a b : Code} : awpO S SO T pl (.seq a b) Q σ = awpO S SO T pl a (laterO S SO T pl b Q) σ := rfl
theorem awpO_block {id : Nat} {c : Code} : awpO S SO T pl (.block id c) Q σ = awpO S SO T pl c (zek id Q) σ := rfl
theorem awpO_cond {c : Operand} {a b : Code} : awpO S SO T pl (.cond c a b) Q σ = match ev σ.sl c with
     | .w (.bool t) => zft t (awpO S SO T pl a Q σ) (awpO S SO T pl b Q σ)
     | _ => False := rfl
theorem awpO_loopW {c : Code} (h : ALoop (awpO S SO T pl c) Q σ) : awpO S SO T pl (.loop c) Q σ := h
theorem zac {b : Code} : laterO S SO T pl b Q .normal σ = awpO S SO T pl b Q σ := rfl
theorem laterO_exit {b : Code} {id : Nat} : laterO S SO T pl b Q (.exit id) σ = Q (.exit id) σ := rfl
theorem laterO_ret {b : Code} : laterO S SO T pl b Q .ret σ = Q .ret σ := rfl
variable {ops r : List Oper} {o : Oper} {nm k : Nat} {sl : List AV} {H : Heap} {Q' : List AV → Heap → Prop}
def openKO (q : Out) (sl : List AV) (dst : Option Tmp) (K : List AV → Heap → Prop) : Prop := q.p ∧ K (zai sl dst q.x) q.H
theorem openKO_def {q : Out} {dst : Option Tmp} {K : List AV → Heap → Prop} : openKO q sl dst K = (q.p ∧ K (zai sl dst q.x) q.H) := rfl
theorem aopsO_zero {dst : Option Tmp} {op : Op} {type : TypeId} {pos : String} {after : Array Edge} : aopsO S SO T ops 0 nm (⟨dst,op,type,pos,after,none⟩ :: r) sl H Q' =
   openKO (zfr SO T nm sl op H) sl dst (fun sl' H' => aops S T ops (nm + 8) r sl' H' Q') := by
 simp [aopsO,openKO]
theorem aopsO_succ {dst : Option Tmp} {op : Op} {type : TypeId} {pos : String} {after : Array Edge} : aopsO S SO T ops (k + 1) nm (⟨dst,op,type,pos,after,none⟩ :: r) sl H Q' =
   ((aop S T nm sl op H).p ∧ aopsO S SO T ops k (nm + 8) r (zai sl dst (aop S T nm sl op H).x) (aop S T nm sl op H).H Q') := by
 simp [aopsO]
theorem aopsT_nil : zfq S T ops [] nm r sl H Q' = aops S T ops nm r sl H Q' := by
 cases r <;> rfl
theorem aopsT_done {l : List Bool} : zfq S T ops l nm [] sl H Q' = Q' sl H := by
 cases l with
 | nil => rfl
 | cons b _ => cases b <;> rfl
theorem aopsT_t {l : List Bool} {dst : Option Tmp} {op : Op} {type : TypeId} {pos : String} {after : Array Edge} : zfq S T ops (true :: l) nm (⟨dst,op,type,pos,after,none⟩ :: r) sl H Q' =
   (specOp T sl op (fun x => zfq S T ops l (nm + 8) r (zai sl dst x) H Q')) := by
 simp [zfq]
theorem aopsT_f {l : List Bool} {dst : Option Tmp} {op : Op} {type : TypeId} {pos : String} {after : Array Edge} : zfq S T ops (false :: l) nm (⟨dst,op,type,pos,after,none⟩ :: r) sl H Q' =
   ((aop S T nm sl op H).p ∧ zfq S T ops l (nm + 8) r (zai sl dst (aop S T nm sl op H).x) (aop S T nm sl op H).H Q') := by
 simp [zfq]
end rules
end Ax
end Go.Proofs.Ytckbejanaebjkaa
namespace Go.Proofs.Ytckbejanaebjkaa
open Ax
theorem evTO : (type_of% @awpO_skip) ∧
   (type_of% @awpO_label) ∧
   (type_of% @awpO_ret) ∧
   (type_of% @awpO_exit) ∧
   (type_of% @awpO_region) ∧
   (type_of% @awpO_seq) ∧
   (type_of% @awpO_block) ∧
   (type_of% @awpO_cond) ∧
   (type_of% @laterO_exit) ∧
   (type_of% @laterO_ret) ∧
   (type_of% @aopsO_zero) ∧
   (type_of% @aopsO_succ) ∧
   (type_of% @aopsT_nil) ∧
   (type_of% @aopsT_done) ∧
   (type_of% @aopsT_t) ∧
   (type_of% @aopsT_f) :=
 ⟨@awpO_skip,@awpO_label,@awpO_ret,@awpO_exit,@awpO_region,@awpO_seq,@awpO_block,@awpO_cond,@laterO_exit,@laterO_ret,@aopsO_zero,@aopsO_succ,@aopsT_nil,@aopsT_done,@aopsT_t,@aopsT_f⟩
theorem evDO : (type_of% @Ax.frzS.eq_1) ∧
   (type_of% @Ax.frzL.eq_1) ∧
   (type_of% @Ax.frzL.eq_2) ∧
   (type_of% @Ax.fzL.eq_1) ∧
   (type_of% @Ax.fzL.eq_2) ∧
   (type_of% @Ax.fzH.eq_1) ∧
   (type_of% @Ax.fzH.eq_2) ∧
   (type_of% @Ax.AV.fz.eq_1) ∧
   (type_of% @Ax.AV.fz.eq_2) ∧
   (type_of% @Ax.AV.fz.eq_3) ∧
   (type_of% @Ax.AV.fz.eq_4) ∧
   (type_of% @Ax.AV.fz.eq_5) ∧
   (type_of% @Ax.fiL.eq_1) ∧
   (type_of% @Ax.fiL.eq_2) ∧
   (type_of% @Ax.fiH.eq_1) ∧
   (type_of% @Ax.fiH.eq_2) ∧
   (type_of% @Ax.AV.fi.eq_1) ∧
   (type_of% @Ax.AV.fi.eq_2) ∧
   (type_of% @Ax.AV.fi.eq_3) ∧
   (type_of% @Ax.AV.fi.eq_4) ∧
   (type_of% @Ax.AV.fi.eq_5) ∧
   (type_of% @Ax.fgL.eq_1) ∧
   (type_of% @Ax.fgL.eq_2) ∧
   (type_of% @Ax.fgH.eq_1) ∧
   (type_of% @Ax.fgH.eq_2) ∧
   (type_of% @Ax.AV.fg.eq_1) ∧
   (type_of% @Ax.AV.fg.eq_2) ∧
   (type_of% @Ax.AV.fg.eq_3) ∧
   (type_of% @Ax.AV.fg.eq_4) ∧
   (type_of% @Ax.AV.fg.eq_5) ∧
   (type_of% @Ax.aOpen.eq_1) ∧
   (type_of% @Ax.openOut.eq_1) ∧
   (type_of% @Ax.reach.eq_1) ∧
   (type_of% @Ax.reach.eq_2) ∧
   (type_of% @Ax.reach.eq_3) ∧
   (type_of% @Ax.walk.eq_1) ∧
   (type_of% @Ax.walk.eq_2) ∧
   (type_of% @Ax.allIn.eq_1) ∧
   (type_of% @Ax.allIn.eq_2) ∧
   (type_of% @Ax.pinsIn.eq_1) ∧
   (type_of% @Ax.pinsIn.eq_2) ∧
   (type_of% @Ax.pinsR.eq_1) ∧
   (type_of% @Ax.pinsR.eq_2) ∧
   (type_of% @Ax.backO.eq_1) ∧
   (type_of% @Ax.backO.eq_2) ∧
   (type_of% @Ax.gone.eq_1) ∧
   (type_of% @Ax.AV.sids.eq_1) ∧
   (type_of% @Ax.AV.sids.eq_2) ∧
   (type_of% @Ax.AV.sids.eq_3) ∧
   (type_of% @Ax.AV.sids.eq_4) ∧
   (type_of% @Ax.AV.sids.eq_5) ∧
   (type_of% @Ax.AV.sids.eq_6) ∧
   (type_of% @Ax.sidsL.eq_1) ∧
   (type_of% @Ax.sidsL.eq_2) ∧
   (type_of% @Ax.Blk.renB.eq_1) ∧
   (type_of% @Ax.idxOf.eq_1) ∧
   (type_of% @Ax.EndsXO.eq_1) ∧
   (type_of% @Ax.endIds.eq_1) ∧
   (type_of% @Ax.reachE.eq_1) ∧
   (type_of% @Ax.reachE.eq_2) ∧
   (type_of% @Ax.reachE.eq_3) ∧
   (type_of% @Ax.idsAt.eq_1) ∧
   (type_of% @Ax.idsAtL.eq_1) ∧
   (type_of% @Ax.idsAtL.eq_2) ∧
   (type_of% @Ax.walkI.eq_1) ∧
   (type_of% @Ax.walkI.eq_2) ∧
   (type_of% @Ax.matchE.eq_1) ∧
   (type_of% @Ax.matchE.eq_2) ∧
   (type_of% @Ax.matchE.eq_3) ∧
   (type_of% @Ax.aopF.eq_1) ∧
   (type_of% @Ax.foot.eq_1) ∧
   (type_of% @Ax.footA.eq_1) ∧
   (type_of% @Ax.keepIn.eq_1) ∧
   (type_of% @Ax.keepIn.eq_2) ∧
   (type_of% @Ax.dropIn.eq_1) ∧
   (type_of% @Ax.dropIn.eq_2) ∧
   (type_of% @Ax.bids.eq_1) ∧
   (type_of% @Ax.bids.eq_2) ∧
   (type_of% @Ax.heldB.eq_1) ∧
   (type_of% @Ax.memOk.eq_1) ∧
   (type_of% @Ax.clearOf.eq_1) :=
 ⟨@Ax.frzS.eq_1,@Ax.frzL.eq_1,@Ax.frzL.eq_2,@Ax.fzL.eq_1,@Ax.fzL.eq_2,@Ax.fzH.eq_1,@Ax.fzH.eq_2,@Ax.AV.fz.eq_1,@Ax.AV.fz.eq_2,@Ax.AV.fz.eq_3,@Ax.AV.fz.eq_4,@Ax.AV.fz.eq_5,@Ax.fiL.eq_1,@Ax.fiL.eq_2,@Ax.fiH.eq_1,@Ax.fiH.eq_2,@Ax.AV.fi.eq_1,@Ax.AV.fi.eq_2,@Ax.AV.fi.eq_3,@Ax.AV.fi.eq_4,@Ax.AV.fi.eq_5,@Ax.fgL.eq_1,@Ax.fgL.eq_2,@Ax.fgH.eq_1,@Ax.fgH.eq_2,@Ax.AV.fg.eq_1,@Ax.AV.fg.eq_2,@Ax.AV.fg.eq_3,@Ax.AV.fg.eq_4,@Ax.AV.fg.eq_5,@Ax.aOpen.eq_1,@Ax.openOut.eq_1,@Ax.reach.eq_1,@Ax.reach.eq_2,@Ax.reach.eq_3,@Ax.walk.eq_1,@Ax.walk.eq_2,@Ax.allIn.eq_1,@Ax.allIn.eq_2,@Ax.pinsIn.eq_1,@Ax.pinsIn.eq_2,@Ax.pinsR.eq_1,@Ax.pinsR.eq_2,@Ax.backO.eq_1,@Ax.backO.eq_2,@Ax.gone.eq_1,@Ax.AV.sids.eq_1,@Ax.AV.sids.eq_2,@Ax.AV.sids.eq_3,@Ax.AV.sids.eq_4,@Ax.AV.sids.eq_5,@Ax.AV.sids.eq_6,@Ax.sidsL.eq_1,@Ax.sidsL.eq_2,@Ax.Blk.renB.eq_1,@Ax.idxOf.eq_1,@Ax.EndsXO.eq_1,@Ax.endIds.eq_1,@Ax.reachE.eq_1,@Ax.reachE.eq_2,@Ax.reachE.eq_3,@Ax.idsAt.eq_1,@Ax.idsAtL.eq_1,@Ax.idsAtL.eq_2,@Ax.walkI.eq_1,@Ax.walkI.eq_2,@Ax.matchE.eq_1,@Ax.matchE.eq_2,@Ax.matchE.eq_3,@Ax.aopF.eq_1,@Ax.foot.eq_1,@Ax.footA.eq_1,@Ax.keepIn.eq_1,@Ax.keepIn.eq_2,@Ax.dropIn.eq_1,@Ax.dropIn.eq_2,@Ax.bids.eq_1,@Ax.bids.eq_2,@Ax.heldB.eq_1,@Ax.memOk.eq_1,@Ax.clearOf.eq_1⟩
open Ax
attribute [go_sem] evDO evTO zfr Blk.isGone Blk.idsB Blk.sidsB Blk.ren EndsO
attribute [go_sem ↓] openKO_def
end Go.Proofs.Ytckbejanaebjkaa
namespace Go.Proofs.Ytckbejanaebjkaa
open Ax
abbrev KM := List (List UInt8 × Int)
def kvP (p : List UInt8 × Int) : AV × AV := (.str p.1,.w (.int .i64 p.2))
def kvA (m : KM) : List (AV × AV) := m.map kvP
def ukv : AV × AV → List UInt8 × Int
 | (.str k,.w (.int _ n)) => (k,n)
 | _ => ([],0)
theorem ukv_kvA (m : KM) : (kvA m).map ukv = m := by
 unfold kvA; rw [List.map_map]; exact List.map_id _
def ixK (k : List UInt8) : KM → Nat → Option (Nat × Int)
 | [],_ => none
 | p :: r,i => if k = p.1 then some (i,p.2) else ixK k r (i + 1)
def gtK (m : KM) (k : List UInt8) : Option Int := (ixK k m 0).map Prod.snd
def ptK (m : KM) (k : List UInt8) (v : Int) : KM :=
 match ixK k m 0 with
 | some p => m.set p.1 (k,v)
 | none => m ++ [(k,v)]
def mpI (o : Option (Nat × Int)) : Option (Nat × AV) := o.map fun p => (p.1,.w (.int .i64 p.2))
theorem zfm (k : List UInt8) : ∀ (m : KM) (i : Nat),zbv ty 9 (.str k) (kvA m) i = (True,mpI (ixK k m i))
 | [],i => rfl
 | p :: r,i => by
   have h := zfm k r (i + 1)
   have he : eqV ty 4 9 (.str k) (.str p.1) = (True,decide (k = p.1)) := rfl
   show zbv ty 9 (.str k) (kvP p :: kvA r) i = _
   unfold zbv
   simp only [kvP,he,h,ixK]
   by_cases hk : k = p.1
   · subst hk; simp [mpI]
   · simp [hk,mpI]
theorem put_kvA (m : KM) (k : List UInt8) (v : Int) : putM (kvA m) (.str k) (.w (.int .i64 v)) (mpI (ixK k m 0)) = kvA (ptK m k v) := by
 unfold ptK
 cases ixK k m 0 with
 | none => simp [mpI,putM,kvA,kvP]
 | some p => simp [mpI,putM,kvA,kvP,List.map_set]
theorem ixK_shift (k : List UInt8) : ∀ (m : KM) (i : Nat),ixK k m (i + 1) = (ixK k m i).map fun p => (p.1 + 1,p.2)
 | [],i => rfl
 | p :: r,i => by
   unfold ixK
   split
   · rfl
   · exact ixK_shift k r (i + 1)
theorem gtK_cons (p : List UInt8 × Int) (m : KM) (k : List UInt8) : gtK (p :: m) k = if k = p.1 then some p.2 else gtK m k := by
 unfold gtK
 rw [ixK]
 split
 · rfl
 · rw [ixK_shift]; cases ixK k m 0 <;> rfl
theorem ptK_cons (p : List UInt8 × Int) (m : KM) (k : List UInt8) (v : Int) : ptK (p :: m) k v = if k = p.1 then (k,v) :: m else p :: ptK m k v := by
 unfold ptK
 by_cases h : k = p.1
 · rw [ixK,if_pos h,if_pos h]; rfl
 · rw [ixK,if_neg h,if_neg h,ixK_shift]
   cases ixK k m 0 <;> rfl
theorem gtK_ptK : ∀ (m : KM) (k k' : List UInt8) (v : Int),gtK (ptK m k v) k' = if k' = k then some v else gtK m k'
 | [],k,k',v => by
   show gtK [(k,v)] k' = _
   rw [gtK_cons]; try rfl
 | p :: m,k,k',v => by
   rw [ptK_cons]
   by_cases h : k = p.1
   · rw [if_pos h,gtK_cons,gtK_cons]
     by_cases h2 : k' = k
     · simp [h2]
     · simp only [if_neg h2]
       rw [if_neg (by rw [← h]; exact h2)]
   · rw [if_neg h,gtK_cons,gtK_cons,gtK_ptK m k k' v]
     by_cases h2 : k' = k
     · subst h2; simp [h]
     · simp only [if_neg h2]
def stK (b : Int) (m : KM) (r : Rec) : KM :=
 if r.k = true then (match gtK m r.key with
   | some a => if a < offI b r.d then ptK m r.key (offI b r.d) else m
   | none => ptK m r.key (offI b r.d)) else m
def stKB (m : KM) (x : Bat) : KM := x.rs.foldl (stK x.b) m
def zbb (l : List Bat) : KM := l.foldl stKB []
end Go.Proofs.Ytckbejanaebjkaa
namespace Go.Proofs.Ytckbejanaebjkaa
open Ax
theorem mpI_some (p : Nat × Int) : mpI (some p) = some (p.1,.w (.int .i64 p.2)) := rfl
theorem mpI_none : mpI none = none := rfl
theorem set_kvA {m : KM} {k : List UInt8} {p : Nat × Int} (v : Int) (h : ixK k m 0 = some p) : (kvA m).set p.1 (.str k,.w (.int .i64 v)) = kvA (ptK m k v) := by
 have := put_kvA m k v
 rw [h] at this; exact this
theorem snoc_kvA {m : KM} {k : List UInt8} (v : Int) (h : ixK k m 0 = none) : kvA m ++ [(.str k,.w (.int .i64 v))] = kvA (ptK m k v) := by
 have := put_kvA m k v
 rw [h] at this; exact this
def zdt : zar
 | [.sg 6 xs f],[] => ⟨xs.length ≤ 1000000 ∧ isBs xs,.rf 0 0 0 0,[.o (.mp (kvA (zbb (xs.map ubat))))]⟩
 | _,_ => zci
section
set_option maxRecDepth 100000
set_option maxHeartbeats 4000000 in
theorem zei : zbm Try.prog 8 zdt := by
 refine zau (S := noS) (T := ty) zcj ty_ok zeh Try.func8 (c := Try.f8.body.getD .skip) (by kernel_rfl) (by kernel_rfl) (fun xs pins hp _ => ?_)
 unfold zdt at hp ⊢
 split at hp
 · rename_i xs f _
   obtain ⟨hL,es,rfl,he⟩ := hp
   simp only [List.length_map] at hL
   refine ⟨by simp,?_⟩
   have hlp : (es.map bvp).length = es.length := by simp
   rw [zct]
   obtain ⟨A,hA⟩ : ∃ A,kvA (zbb (es.map Prod.fst)) = A := ⟨_,rfl⟩
   rw [hA]
   unfold Try.f8
   simp only [go_sem,zaa,Nat.reduceAdd,Nat.reduceSub,Nat.reduceMul,Int.reduceToNat,reduceCtorEq,↓reduceIte,Int.reducePow,Nat.reducePow,Int.reduceMod,Nat.reduceLeDiff,Int.reduceLE,Int.reduceNe,Int.reduceEq,Nat.reduceEqDiff,Nat.reduceLT,Nat.reduceBEq,ty,noS,hlp]
   refine zbj ⟨fun m σ => ∃ (i : Nat) (M : KM),m = es.length - i ∧ i ≤ es.length ∧ zbb (es.map Prod.fst) = ((es.drop i).map Prod.fst).foldl stKB M ∧
       σ = ⟨[.sg 6 (es.map bvp) f,.junk,.junk,.rf 4 0 0 0,.junk,.junk,.junk,.junk,.junk,.junk,.junk,.junk,.sg 6 (es.map bvp) f,.w (.int .i64 es.length),.w (.int .i64 i),.junk,.junk,.junk,.junk,.junk,.junk,.junk,.junk,.junk,.junk,.junk,.junk,.junk,.junk,.junk,.junk,.junk,.junk,.junk,.junk,.junk,.junk,.junk,.junk,.junk,.junk,.junk,.junk,.junk,.junk,.junk,.junk,.junk,.junk,.junk,.junk,.junk,.junk,.junk],[(4,.o (.mp (kvA M)))],5⟩,?_,?_⟩
   · refine ⟨_,_,zag [0,1,2,3,12] rfl rfl rfl ?_ ?_,0,[],rfl,by omega,by rw [List.drop_zero]; rfl,rfl⟩
     · simp only [ssT,zaj,zak,setSlot,gOf,AV.ren,renL,Blk.ren,Ax.look,Ax.put,reduceCtorEq,↓reduceIte,Nat.reduceEqDiff,Nat.reduceLT,Nat.reduceAdd,List.length_append,List.length_cons,List.length_nil,Option.some.injEq]; try simp
     · simp only [ssT,zaj,zak,setSlot,gOf,AV.ren,renL,Blk.ren,Ax.look,Ax.put,reduceCtorEq,↓reduceIte,Nat.reduceEqDiff,Nat.reduceLT,Nat.reduceAdd,List.length_append,List.length_cons,List.length_nil,Option.some.injEq]; try rfl
   · rintro m σ ⟨i,M,rfl,hi,hinv,rfl⟩
     have e1 : ((i : Int) + 1 + 9223372036854775808) % 18446744073709551616 - 9223372036854775808 = ((i + 1 : Nat) : Int) := by omega
     by_cases hil : i < es.length
     · have d3 : decide ((i : Int) < es.length) = true := decide_eq_true (by omega)
       have hs1 := zdc es i hil
       have m1 := he es[i] (List.getElem_mem hil)
       have hdr : es.drop i = es[i] :: es.drop (i + 1) := List.drop_eq_getElem_cons hil
       obtain ⟨P,hP⟩ : ∃ P,es[i] = P := ⟨_,rfl⟩
       rw [hP] at hs1 m1 hdr
       rw [hdr] at hinv
       obtain ⟨⟨b,c,p,e,s,rs⟩,f'⟩ := P
       have hs1 : slot (es.map bvp) i = .agg [.w (.int .i64 b),.w (.int .i64 c),.w (.int .i64 p),.w (.int .i64 e),.w (.int .i64 s),.sg 6 (rs.map rv) f'] := hs1
       simp only at m1
       have hlr : (rs.map rv).length = rs.length := by simp
       have hinv : zbb (es.map Prod.fst) = ((es.drop (i + 1)).map Prod.fst).foldl stKB (rs.foldl (stK b) M) := hinv
       simp only [go_sem,zaa,Nat.reduceAdd,Nat.reduceSub,Nat.reduceMul,Int.reduceToNat,reduceCtorEq,↓reduceIte,Int.reducePow,Nat.reducePow,Int.reduceMod,Nat.reduceLeDiff,Int.reduceLE,Int.reduceNe,Int.reduceEq,Nat.reduceEqDiff,Nat.reduceLT,Nat.reduceBEq,ty,noS,hlp,d3,hs1,hlr,Int.toNat_natCast]
       repeat (refine And.intro (by omega) ?_)
       refine zbj ⟨fun m σ => ∃ (k : Nat) (M : KM),m = rs.length - k ∧ k ≤ rs.length ∧ zbb (es.map Prod.fst) = ((es.drop (i + 1)).map Prod.fst).foldl stKB ((rs.drop k).foldl (stK b) M) ∧
           σ = ⟨[.sg 6 (es.map bvp) f,.junk,.junk,.rf 4 0 0 0,.junk,.rf 5 6 0 0,.junk,.junk,.junk,.junk,.junk,.junk,.sg 6 (es.map bvp) f,.w (.int .i64 es.length),.w (.int .i64 i),.junk,.junk,.junk,.junk,.sg 6 (rs.map rv) f',.w (.int .i64 rs.length),.w (.int .i64 k),.junk,.junk,.junk,.junk,.junk,.junk,.junk,.junk,.junk,.junk,.junk,.junk,.junk,.junk,.junk,.junk,.junk,.junk,.junk,.junk,.junk,.junk,.junk,.junk,.junk,.junk,.junk,.junk,.junk,.junk,.junk,.junk],
             [(4,.o (.mp (kvA M))),(5,.g 6 [.agg [.w (.int .i64 b),.w (.int .i64 c),.w (.int .i64 p),.w (.int .i64 e),.w (.int .i64 s),.sg 6 (rs.map rv) f']])],6⟩,?_,?_⟩
       · refine ⟨_,_,zag [0,1,2,3,4,29] rfl rfl rfl ?_ ?_,0,M,rfl,by omega,by rw [List.drop_zero]; exact hinv,rfl⟩
         · simp only [ssT,zaj,zak,setSlot,gOf,AV.ren,renL,Blk.ren,Ax.look,Ax.put,reduceCtorEq,↓reduceIte,Nat.reduceEqDiff,Nat.reduceLT,Nat.reduceAdd,List.length_append,List.length_cons,List.length_nil,Option.some.injEq]; try simp
         · simp only [ssT,zaj,zak,setSlot,gOf,AV.ren,renL,Blk.ren,Ax.look,Ax.put,reduceCtorEq,↓reduceIte,Nat.reduceEqDiff,Nat.reduceLT,Nat.reduceAdd,List.length_append,List.length_cons,List.length_nil,Option.some.injEq]
       · rintro m σ ⟨k,M,rfl,hk,hinv,rfl⟩
         by_cases hkl : k < rs.length
         · have e2 : ((k : Int) + 1 + 9223372036854775808) % 18446744073709551616 - 9223372036854775808 = ((k + 1 : Nat) : Int) := by omega
           have d4 : decide ((k : Int) < rs.length) = true := decide_eq_true (by omega)
           have hs2 := zbk rv rs k hkl
           have hdk : rs.drop k = rs[k] :: rs.drop (k + 1) := List.drop_eq_getElem_cons hkl
           obtain ⟨R,hR⟩ : ∃ R,rs[k] = R := ⟨_,rfl⟩
           rw [hR] at hs2 hdk
           rw [hdk,List.foldl_cons] at hinv
           obtain ⟨d,t,kd,key,dd,val⟩ := R
           simp only [rv] at hs2
           have hof : (b + d + 9223372036854775808) % 18446744073709551616 - 9223372036854775808 = offI b d := rfl
           obtain ⟨O,hO⟩ : ∃ O,offI b d = O := ⟨_,rfl⟩
           rw [hO] at hof
           cases kd with
           | false =>
             have hst : stK b M ⟨d,t,false,key,dd,val⟩ = M := rfl
             rw [hst] at hinv
             simp only [go_sem,zaa,Nat.reduceAdd,Nat.reduceSub,Nat.reduceMul,Int.reduceToNat,reduceCtorEq,↓reduceIte,Int.reducePow,Nat.reducePow,Int.reduceMod,Nat.reduceLeDiff,Int.reduceLE,Int.reduceNe,Int.reduceEq,Nat.reduceEqDiff,Nat.reduceLT,Nat.reduceBEq,ty,noS,hlp,hlr,d4,hs2,hof,e2,Int.toNat_natCast,Bool.not_false]
             repeat (refine And.intro (by omega) ?_)
             refine ⟨rs.length - (k + 1),_,by omega,zag [0,1,2,3,4,5] rfl rfl rfl ?_ ?_,k + 1,M,rfl,by omega,hinv,rfl⟩
             · simp only [ssT,zaj,zak,setSlot,gOf,AV.ren,renL,Blk.ren,Ax.look,Ax.put,reduceCtorEq,↓reduceIte,Nat.reduceEqDiff,Nat.reduceLT,Nat.reduceAdd,List.length_append,List.length_cons,List.length_nil,Option.some.injEq]
             · simp only [ssT,zaj,zak,setSlot,gOf,AV.ren,renL,Blk.ren,Ax.look,Ax.put,reduceCtorEq,↓reduceIte,Nat.reduceEqDiff,Nat.reduceLT,Nat.reduceAdd,List.length_append,List.length_cons,List.length_nil,Option.some.injEq]
           | true =>
             rcases hx : ixK key M 0 with _ | ⟨j,a⟩
             · have hst : stK b M ⟨d,t,true,key,dd,val⟩ = ptK M key O := by unfold stK gtK; rw [if_pos rfl]; simp only [hx,hO]; rfl
               rw [hst] at hinv
               have hpk := snoc_kvA O hx
               simp only [go_sem,zaa,Nat.reduceAdd,Nat.reduceSub,Nat.reduceMul,Int.reduceToNat,reduceCtorEq,↓reduceIte,Int.reducePow,Nat.reducePow,Int.reduceMod,Nat.reduceLeDiff,Int.reduceLE,Int.reduceNe,Int.reduceEq,Nat.reduceEqDiff,Nat.reduceLT,Nat.reduceBEq,ty,noS,hlp,hlr,d4,hs2,hof,e2,zfm,hx,mpI_none,hpk,Int.toNat_natCast,Bool.not_true,Bool.not_false]
               repeat (refine And.intro (by omega) ?_)
               refine ⟨rs.length - (k + 1),_,by omega,zag [0,1,2,3,4,5] rfl rfl rfl ?_ ?_,k + 1,_,rfl,by omega,hinv,rfl⟩
               · simp only [ssT,zaj,zak,setSlot,gOf,AV.ren,renL,Blk.ren,Ax.look,Ax.put,reduceCtorEq,↓reduceIte,Nat.reduceEqDiff,Nat.reduceLT,Nat.reduceAdd,List.length_append,List.length_cons,List.length_nil,Option.some.injEq]
               · simp only [ssT,zaj,zak,setSlot,gOf,AV.ren,renL,Blk.ren,Ax.look,Ax.put,reduceCtorEq,↓reduceIte,Nat.reduceEqDiff,Nat.reduceLT,Nat.reduceAdd,List.length_append,List.length_cons,List.length_nil,Option.some.injEq]
             · have hpk := set_kvA O hx
               by_cases c2 : a < O
               · have d6 : decide (a < O) = true := decide_eq_true c2
                 have hst : stK b M ⟨d,t,true,key,dd,val⟩ = ptK M key O := by unfold stK gtK; rw [if_pos rfl]; simp only [hx,hO,Option.map_some,if_pos c2]
                 rw [hst] at hinv
                 simp only [go_sem,zaa,Nat.reduceAdd,Nat.reduceSub,Nat.reduceMul,Int.reduceToNat,reduceCtorEq,↓reduceIte,Int.reducePow,Nat.reducePow,Int.reduceMod,Nat.reduceLeDiff,Int.reduceLE,Int.reduceNe,Int.reduceEq,Nat.reduceEqDiff,Nat.reduceLT,Nat.reduceBEq,ty,noS,hlp,hlr,d4,d6,hs2,hof,e2,zfm,hx,mpI_some,hpk,Int.toNat_natCast,Bool.not_true,Bool.not_false]
                 repeat (refine And.intro (by omega) ?_)
                 refine ⟨rs.length - (k + 1),_,by omega,zag [0,1,2,3,4,5] rfl rfl rfl ?_ ?_,k + 1,_,rfl,by omega,hinv,rfl⟩
                 · simp only [ssT,zaj,zak,setSlot,gOf,AV.ren,renL,Blk.ren,Ax.look,Ax.put,reduceCtorEq,↓reduceIte,Nat.reduceEqDiff,Nat.reduceLT,Nat.reduceAdd,List.length_append,List.length_cons,List.length_nil,Option.some.injEq]
                 · simp only [ssT,zaj,zak,setSlot,gOf,AV.ren,renL,Blk.ren,Ax.look,Ax.put,reduceCtorEq,↓reduceIte,Nat.reduceEqDiff,Nat.reduceLT,Nat.reduceAdd,List.length_append,List.length_cons,List.length_nil,Option.some.injEq]
               · have d6 : decide (a < O) = false := decide_eq_false c2
                 have hst : stK b M ⟨d,t,true,key,dd,val⟩ = M := by unfold stK gtK; rw [if_pos rfl]; simp only [hx,hO,Option.map_some,if_neg c2]
                 rw [hst] at hinv
                 simp only [go_sem,zaa,Nat.reduceAdd,Nat.reduceSub,Nat.reduceMul,Int.reduceToNat,reduceCtorEq,↓reduceIte,Int.reducePow,Nat.reducePow,Int.reduceMod,Nat.reduceLeDiff,Int.reduceLE,Int.reduceNe,Int.reduceEq,Nat.reduceEqDiff,Nat.reduceLT,Nat.reduceBEq,ty,noS,hlp,hlr,d4,d6,hs2,hof,e2,zfm,hx,mpI_some,hpk,Int.toNat_natCast,Bool.not_true,Bool.not_false]
                 repeat (refine And.intro (by omega) ?_)
                 refine ⟨rs.length - (k + 1),_,by omega,zag [0,1,2,3,4,5] rfl rfl rfl ?_ ?_,k + 1,M,rfl,by omega,hinv,rfl⟩
                 · simp only [ssT,zaj,zak,setSlot,gOf,AV.ren,renL,Blk.ren,Ax.look,Ax.put,reduceCtorEq,↓reduceIte,Nat.reduceEqDiff,Nat.reduceLT,Nat.reduceAdd,List.length_append,List.length_cons,List.length_nil,Option.some.injEq]
                 · simp only [ssT,zaj,zak,setSlot,gOf,AV.ren,renL,Blk.ren,Ax.look,Ax.put,reduceCtorEq,↓reduceIte,Nat.reduceEqDiff,Nat.reduceLT,Nat.reduceAdd,List.length_append,List.length_cons,List.length_nil,Option.some.injEq]
         · have d4 : decide ((k : Int) < rs.length) = false := decide_eq_false (by omega)
           have hdk : rs.drop k = [] := List.drop_eq_nil_of_le (by omega)
           rw [hdk,List.foldl_nil] at hinv
           simp only [go_sem,zaa,Nat.reduceAdd,Nat.reduceSub,Nat.reduceMul,Int.reduceToNat,reduceCtorEq,↓reduceIte,Int.reducePow,Nat.reducePow,Int.reduceMod,Nat.reduceLeDiff,Int.reduceLE,Int.reduceNe,Int.reduceEq,Nat.reduceEqDiff,Nat.reduceLT,Nat.reduceBEq,ty,noS,hlp,hlr,d4,e1]
           refine ⟨es.length - (i + 1),_,by omega,zag [0,1,2,3,4] rfl rfl rfl ?_ ?_,i + 1,M,rfl,by omega,hinv,rfl⟩
           · simp only [ssT,zaj,zak,setSlot,gOf,AV.ren,renL,Blk.ren,Ax.look,Ax.put,reduceCtorEq,↓reduceIte,Nat.reduceEqDiff,Nat.reduceLT,Nat.reduceAdd,List.length_append,List.length_cons,List.length_nil,Option.some.injEq]
           · simp only [ssT,zaj,zak,setSlot,gOf,AV.ren,renL,Blk.ren,Ax.look,Ax.put,reduceCtorEq,↓reduceIte,Nat.reduceEqDiff,Nat.reduceLT,Nat.reduceAdd,List.length_append,List.length_cons,List.length_nil,Option.some.injEq]
     · have d3 : decide ((i : Int) < es.length) = false := decide_eq_false (by omega)
       have hdr : es.drop i = [] := List.drop_eq_nil_of_le (by omega)
       rw [hdr] at hinv
       have hv2 : zbb (es.map Prod.fst) = M := hinv
       rw [hv2] at hA
       simp only [go_sem,zaa,Nat.reduceAdd,Nat.reduceSub,Nat.reduceMul,Int.reduceToNat,reduceCtorEq,↓reduceIte,Int.reducePow,Nat.reducePow,Int.reduceMod,Nat.reduceLeDiff,Int.reduceLE,Int.reduceNe,Int.reduceEq,Nat.reduceEqDiff,Nat.reduceLT,Nat.reduceBEq,ty,noS,hlp,d3,hA]
 · exact hp.elim
end
end Go.Proofs.Ytckbejanaebjkaa
