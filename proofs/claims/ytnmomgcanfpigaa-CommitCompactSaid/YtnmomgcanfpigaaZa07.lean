/- What the proofs of this seat stand on; it asks nothing. -/
import Derived.Test.YtnmomgcanfpigaaZa06
set_option linter.unusedSimpArgs false
set_option linter.unusedVariables false
namespace Go.Proofs.Ytnmomgcanfpigaa
namespace Ax
def Blk.ids : Blk → List Nat
 | .g _ xs => idsL xs
 | _ => []
def keepIn (F : List Nat) : Heap → Heap
 | [] => []
 | (k,b) :: r => bif F.contains k then (k,b) :: keepIn F r else keepIn F r
def dropIn (F : List Nat) : Heap → Heap
 | [] => []
 | (k,b) :: r => bif F.contains k then dropIn F r else (k,b) :: dropIn F r
def bids : Heap → List Nat
 | [] => []
 | (_,b) :: r => b.ids ++ bids r
def footA (sl : List AV) (op : Op) : List Nat := idsL (op.operands.toList.map (ev sl))
def foot (sl : List AV) (op : Op) (H : Heap) : List Nat := footA sl op ++ bids (keepIn (footA sl op) H)
def heldB (nm : Nat) (F : List Nat) (H : Heap) : Bool := F.all (fun id => bif (look H id).isSome then true else decide (id < nm)) && (bids (keepIn F H)).all F.contains
def aopF (S : zag) (T : zac) (nm : Nat) (sl : List AV) (op : Op) (H : Heap) : Out :=
 ⟨heldB nm (foot sl op H) H = true ∧ (aop S T nm sl op (keepIn (foot sl op H) H)).p,(aop S T nm sl op (keepIn (foot sl op H) H)).x,(aop S T nm sl op (keepIn (foot sl op H) H)).H ++ dropIn (foot sl op H) H⟩
theorem zdq (A B : Heap) (id : Nat) : look (A ++ B) id = match look A id with | some b => some b | none => look B id := by
 induction A with
 | nil => rfl
 | cons p r ih =>
   obtain ⟨k,b⟩ := p
   simp only [List.cons_append,look]
   by_cases h : k = id
   · rw [if_pos h,if_pos h]
   · rw [if_neg h,if_neg h,ih]
theorem zdo (F : List Nat) (H : Heap) (id : Nat) : look (keepIn F H) id = if id ∈ F then look H id else none := by
 induction H with
 | nil => simp [keepIn,look]
 | cons p r ih =>
   obtain ⟨k,b⟩ := p
   by_cases hk : k ∈ F
   · simp only [keepIn,List.contains_iff_mem.2 hk,cond_true,look]
     by_cases h : k = id
     · subst h; simp [hk]
     · simp [h,ih]
   · have : F.contains k = false := by simpa using hk
     simp only [keepIn,this,cond_false,look,ih]
     by_cases h : k = id
     · subst h; simp [hk]
     · simp [h]
theorem zdp (F : List Nat) (H : Heap) (id : Nat) : look (dropIn F H) id = if id ∈ F then none else look H id := by
 induction H with
 | nil => simp [dropIn,look]
 | cons p r ih =>
   obtain ⟨k,b⟩ := p
   by_cases hk : k ∈ F
   · simp only [dropIn,List.contains_iff_mem.2 hk,cond_true,look,ih]
     by_cases h : k = id
     · subst h; simp [hk]
     · simp [h]
   · have : F.contains k = false := by simpa using hk
     simp only [dropIn,this,cond_false,look]
     by_cases h : k = id
     · subst h; simp [hk]
     · simp [h,ih]
theorem mem_bids {H : Heap} {id : Nat} {b : Blk} (h : look H id = some b) {k : Nat} (hk : k ∈ b.ids) : k ∈ bids H := by
 induction H with
 | nil => simp [look] at h
 | cons p r ih =>
   obtain ⟨q,c⟩ := p
   simp only [look] at h
   simp only [bids,List.mem_append]
   split at h
   · injection h with h; subst h; exact .inl hk
   · exact .inr (ih h)
theorem leaves_ids : ∀ (x : AV) (k : Nat),k ∈ idsL x.leaves → k ∈ x.ids := by
 intro x k h
 cases x <;> simp [AV.leaves,AV.ids,idsL] at h ⊢ <;> first | exact h | skip
theorem idsL_append (xs ys : List AV) : idsL (xs ++ ys) = idsL xs ++ idsL ys := by
 induction xs with
 | nil => rfl
 | cons x r ih => simp [idsL,ih]
theorem flat_ids {b : Blk} {k : Nat} (h : k ∈ idsL b.flat) : k ∈ b.ids := by
 cases b with
 | o x => simp [Blk.flat,idsL] at h
 | b bs =>
   exfalso
   simp only [Blk.flat] at h
   induction bs with
   | nil => simp [idsL] at h
   | cons x r ih => simp [idsL,AV.ids] at h; exact ih (by simpa using h)
 | i ns =>
   exfalso
   simp only [Blk.flat] at h
   induction ns with
   | nil => simp [idsL] at h
   | cons x r ih => simp [idsL,AV.ids] at h; exact ih (by simpa using h)
 | g s xs =>
   simp only [Blk.flat,Blk.ids] at h ⊢
   induction xs with
   | nil => simp [idsL] at h
   | cons x r ih =>
     simp only [List.flatMap_cons,idsL_append,List.mem_append,idsL] at h ⊢
     exact h.imp (leaves_ids x k) ih
section
variable {S : zag} {T : zac} {nm : Nat} {sl : List AV} {op : Op} {H : Heap}
theorem held_in (h : heldB nm (foot sl op H) H = true) {id : Nat} (hF : id ∈ foot sl op H) : look H id ≠ none ∨ id < nm := by
 simp only [heldB,Bool.and_eq_true,List.all_eq_true] at h
 have := h.1 id hF
 by_cases e : look H id = none
 · rw [e] at this; exact .inr (by simpa using this)
 · exact .inl e
theorem aopF_facts (hp : (aopF S T nm sl op H).p) :
   (∀ id b,look (aopF S T nm sl op H).H id = some b → look H id ≠ none ∨ (nm ≤ id ∧ id < nm + 8)) ∧
   (∀ id,(zad T op ≤ 1 ∨ id ∉ foot sl op H) → ¬ (nm ≤ id ∧ id < nm + 8) → look (aopF S T nm sl op H).H id = look H id) ∧
   (zad T op = 0 → ∀ id,look (aopF S T nm sl op H).H id = look H id) := by
 obtain ⟨hh,hp⟩ := hp
 have hn := zeo hp
 have hk := fun (h : zad T op ≤ 1) => hok_aop h hp
 have hz : zad T op = 0 → (aop S T nm sl op (keepIn (foot sl op H) H)).H = keepIn (foot sl op H) H := fun h => (pu_aop (H := keepIn (foot sl op H) H) h hp).2.2
 simp only [aopF]
 generalize foot sl op H = F at hh hp hn hk hz ⊢
 generalize aop S T nm sl op (keepIn F H) = out at hp hn hk hz ⊢
 refine ⟨fun id b h => ?_,fun id h hr => ?_,fun h id => ?_⟩
 · rw [zdq] at h
   cases h1 : look out.H id with
   | some c =>
     rcases hn id c h1 with h2 | h2
     · rw [zdo] at h2
       split at h2
       · exact .inl h2
       · exact (h2 rfl).elim
     · exact .inr h2
   | none =>
     simp only [h1,zdp] at h
     split at h
     · cases h
     · exact .inl (by rw [h]; simp)
 · rw [zdq]
   by_cases hF : id ∈ F
   · have h := h.resolve_right (fun h => h hF)
     have h1 := hk h id hr
     rw [h1,zdo,if_pos hF,zdp,if_pos hF]
     cases look H id <;> rfl
   · have h1 : look out.H id = none := by
       cases h1 : look out.H id with
       | none => rfl
       | some c =>
         rcases hn id c h1 with h2 | h2
         · rw [zdo,if_neg hF] at h2; exact (h2 rfl).elim
         · exact (hr h2).elim
     simp [h1,zdp,hF]
 · rw [zdq,hz h,zdo,zdp]
   by_cases hF : id ∈ F
   · rw [if_pos hF,if_pos hF]
     cases look H id <;> rfl
   · rw [if_neg hF,if_neg hF]
theorem operand_ids {x : Operand} (hx : x ∈ op.operands.toList) {id : Nat} (h : id ∈ (ev sl x).ids) : id ∈ foot sl op H := by
 unfold foot footA
 refine List.mem_append_left _ ?_
 obtain ⟨j,hj,e⟩ := List.mem_iff_getElem.1 hx
 exact zen j (by simpa using hj) (by simpa [e] using h)
theorem aopF_sound {P : Program} {w0 : World} {E : Nat → Prop} {w : World} {loc : Loc} (hT : TOk P T) (hS : Fns P S) (he : Env w0 E w loc) (hh : ∀ id b,id ∈ foot sl op H → look H id = some b → BlkR w loc id b) (hfree : ∀ id,nm ≤ id → id < nm + 8 → loc.m id = .free) {a : Act} {o : Oper} (ho : o.op = op)
   (hev : ∀ x ∈ op.operands.toList,R w loc (ev sl x) (a.eval x)) (hp : (aopF S T nm sl op H).p) (next : Act → World → Prop) (Q : Exit → Act → World → Prop)
   (hn : ∀ v w' loc' wr,Post w0 E w loc wr nm (aopF S T nm sl op H).x (aop S T nm sl op (keepIn (foot sl op H) H)).H v w' loc' → (∃ C : Nat → Prop,Ext C w loc w' loc' ∧ (zad T op ≤ 1 → ∀ id,¬ C id) ∧ ∀ id,C id → id ∈ foot sl op H) → next (a.put o.dst v) w') : o.wp P a w next Q := by
 subst ho
 obtain ⟨hheld,hp⟩ := hp
 have hheld' : ∀ k,k ∈ bids (keepIn (foot sl o.op H) H) → k ∈ foot sl o.op H := by
   intro k hk
   simp only [heldB,Bool.and_eq_true,List.all_eq_true] at hheld
   exact List.contains_iff_mem.1 (hheld.2 k hk)
 have hHR : HR w (loc.only (foot sl o.op H)) (keepIn (foot sl o.op H) H) := by
   intro id b hl
   have hl' := hl
   rw [zdo] at hl
   split at hl
   · rename_i hF
     exact (hh id b hF hl).only hF fun k hk => hheld' k (mem_bids hl' (flat_ids hk))
   · cases hl
 refine zch hT hS he.only hHR (fun id h1 h2 => ?_) o (fun x hx => (hev x hx).only fun id hid => operand_ids hx hid) hp next Q (fun v w' loc' hpost => ?_)
 · by_cases hF : id ∈ foot sl o.op H
   · rw [only_m hF]; exact hfree id h1 h2
   · exact only_n hF
 · have hids : ∀ id b,look (aop S T nm sl o.op (keepIn (foot sl o.op H) H)).H id = some b → id ∈ foot sl o.op H ∨ (nm ≤ id ∧ id < nm + 8) := by
     intro id b hl
     rcases zeo hp id b hl with h | h
     · rw [zdo] at h
       split at h
       · rename_i hF; exact .inl hF
       · exact (h rfl).elim
     · exact .inr h
   obtain ⟨h1,C,h2,h3,h4⟩ := Post.frame he hfree hids hpost
   exact hn v w' _ _ h1 ⟨C,h2,fun hk => h3 (kind_wr hk hp),h4⟩
end
end Ax
end Go.Proofs.Ytnmomgcanfpigaa
namespace Go.Proofs.Ytnmomgcanfpigaa
namespace Ax
def clashS (ops : List Oper) (x y : Oper) : Bool :=
 (match x.dst with
  | some d => (y.looksAt ops.toArray).contains d || y.dst == some d
  | none => false) ||
 (match y.dst with
  | some d => (x.looksAt ops.toArray).contains d
  | none => false)
def clashM (T : zac) (x y : Oper) : Bool :=
 (decide (zad T x.op = 2) && !decide (zad T y.op = 0)) || (decide (zad T y.op = 2) && !decide (zad T x.op = 0))
def drawOkF (T : zac) (ops : List Oper) (pl : List (Nat × Nat)) : Bool :=
 let ms := masks [] ops
 (List.range ops.length).all fun j => match ops[j]? with
   | some y => backB j y.after.toList && (List.range j).all fun i => match ops[i]? with
     | some x => (!clashS ops x y || (ms.getD j 0).testBit i) && (!clashM T x y || ((ms.getD j 0).testBit i || pl.contains (i,j)))
     | none => true
   | none => true
def clearOf (a b : Nat × List Nat) : Bool := b.2.all fun id => !a.2.contains id && (decide (id < a.1) || decide (a.1 + 8 ≤ id))
def memOk (pl : List (Nat × Nat)) (acc : List (Nat × List Nat)) : Bool := pl.all fun p => match acc[p.1]?,acc[p.2]? with
 | some a,some b => clearOf a b
 | _,_ => false
def zek (S : zag) (T : zac) (ops : List Oper) (pl : List (Nat × Nat)) (nm : Nat) (acc : List (Nat × List Nat)) : List Oper → List AV → Heap → (List AV → Heap → Prop) → Prop
 | [],sl,H,Q => memOk pl acc = true ∧ Q sl H
 | o :: r,sl,H,Q => match o.guard with
   | none => (aopF S T nm sl o.op H).p ∧ zek S T ops pl (nm + 8) (acc ++ [(nm,foot sl o.op H)]) r (zak sl o.dst (aopF S T nm sl o.op H).x) (aopF S T nm sl o.op H).H Q
   | some (j,want) => match guardSlot ops j with
     | none => False
     | some d => match slot sl d with
       | .w (.bool b) =>
         (b = want → (aopF S T nm (setSlot sl d (.w (.bool want))) o.op H).p ∧
           zek S T ops pl (nm + 8) (acc ++ [(nm,foot (setSlot sl d (.w (.bool want))) o.op H)]) r (zak (setSlot sl d (.w (.bool want))) o.dst (aopF S T nm (setSlot sl d (.w (.bool want))) o.op H).x) (aopF S T nm (setSlot sl d (.w (.bool want))) o.op H).H Q) ∧
         (b = !want → zek S T ops pl (nm + 8) (acc ++ [(nm,[])]) r (zak (setSlot sl d (.w (.bool !want))) o.dst (.tup [])) H Q)
       | .tup [] => zek S T ops pl (nm + 8) (acc ++ [(nm,[])]) r (zak sl o.dst (.tup [])) H Q
       | _ => False
def zca (S : zag) (T : zac) (ops : List Oper) (nm : Nat) (o : Oper) (s : List AV × Heap) : Prop × (List AV × Heap) × List Nat :=
 match o.guard with
 | none => ((aopF S T nm s.1 o.op s.2).p,(zak s.1 o.dst (aopF S T nm s.1 o.op s.2).x,(aopF S T nm s.1 o.op s.2).H),foot s.1 o.op s.2)
 | some (j,want) => match guardSlot ops j with
   | none => (False,s,[])
   | some d => match slot s.1 d with
     | .w (.bool b) => if b = want then ((aopF S T nm s.1 o.op s.2).p,(zak s.1 o.dst (aopF S T nm s.1 o.op s.2).x,(aopF S T nm s.1 o.op s.2).H),foot s.1 o.op s.2) else (True,(zak s.1 o.dst (.tup []),s.2),[])
     | .tup [] => (True,(zak s.1 o.dst (.tup []),s.2),[])
     | _ => (False,s,[])
def zae (S : zag) (T : zac) (ops : List Oper) (nm : Nat) (s0 : List AV × Heap) : Nat → List AV × Heap
 | 0 => s0
 | k + 1 => match ops[k]? with
   | some o => (zca S T ops (nm + 8 * k) o (zae S T ops nm s0 k)).2.1
   | none => zae S T ops nm s0 k
def ftF (S : zag) (T : zac) (ops : List Oper) (nm : Nat) (s0 : List AV × Heap) (j : Nat) : List Nat := match ops[j]? with
 | some o => (zca S T ops (nm + 8 * j) o (zae S T ops nm s0 j)).2.2
 | none => []
theorem aopsF_trace {S : zag} {T : zac} {l : List Oper} {pl : List (Nat × Nat)} {nm : Nat} {s0 : List AV × Heap} {Q : List AV → Heap → Prop} : ∀ (r : List Oper) (k : Nat),(∀ j,r[j]? = l[k + j]?) → k + r.length = l.length →
   zek S T l pl (nm + 8 * k) ((List.range k).map fun j => (nm + 8 * j,ftF S T l nm s0 j)) r (zae S T l nm s0 k).1 (zae S T l nm s0 k).2 Q →
   (Q (zae S T l nm s0 l.length).1 (zae S T l nm s0 l.length).2 ∧ memOk pl ((List.range l.length).map fun j => (nm + 8 * j,ftF S T l nm s0 j)) = true) ∧ ∀ j o,k ≤ j → l[j]? = some o → (zca S T l (nm + 8 * j) o (zae S T l nm s0 j)).1
 | [],k,hr,hl,h => by
   simp at hl
   subst hl
   refine ⟨⟨h.2,h.1⟩,fun j o hj ho => ?_⟩
   rw [List.getElem?_eq_none hj] at ho; cases ho
 | o :: r,k,hr,hl,h => by
   have ho : l[k]? = some o := by simpa using (hr 0).symm
   have hr' : ∀ j,r[j]? = l[k + 1 + j]? := fun j => by have := hr (j + 1); simpa [Nat.add_assoc,Nat.add_comm 1 j] using this
   have hl' : k + 1 + r.length = l.length := by simp at hl; omega
   have hmain : (zca S T l (nm + 8 * k) o (zae S T l nm s0 k)).1 ∧ zek S T l pl (nm + 8 * (k + 1)) ((List.range (k + 1)).map fun j => (nm + 8 * j,ftF S T l nm s0 j)) r (zae S T l nm s0 (k + 1)).1 (zae S T l nm s0 (k + 1)).2 Q := by
     have e : zae S T l nm s0 (k + 1) = (zca S T l (nm + 8 * k) o (zae S T l nm s0 k)).2.1 := by simp only [zae,ho]
     have e2 : ((List.range (k + 1)).map fun j => (nm + 8 * j,ftF S T l nm s0 j)) = ((List.range k).map fun j => (nm + 8 * j,ftF S T l nm s0 j)) ++ [(nm + 8 * k,(zca S T l (nm + 8 * k) o (zae S T l nm s0 k)).2.2)] := by
       rw [List.range_succ,List.map_append]
       simp only [List.map_cons,List.map_nil,ftF,ho]
     rw [e,e2,show nm + 8 * (k + 1) = nm + 8 * k + 8 by omega]
     generalize ((List.range k).map fun j => (nm + 8 * j,ftF S T l nm s0 j)) = acc at h ⊢
     generalize zae S T l nm s0 k = s at h ⊢
     unfold zek at h
     unfold zca
     cases hg : o.guard with
     | none => simp only [hg] at h ⊢; exact h
     | some g =>
       obtain ⟨j,want⟩ := g
       simp only [hg] at h ⊢
       cases hgs : guardSlot l j with
       | none => simp only [hgs] at h
       | some d =>
         simp only [hgs] at h ⊢
         split at h
         · rename_i b hsd
           try simp only [hsd]
           have hsame : ∀ b',b = b' → setSlot s.1 d (.w (.bool b')) = s.1 := by
             rintro b' rfl
             have := setSlot_same s.1 d
             rw [hsd] at this; exact this
           by_cases hbw : b = want
           · have h := h.1 hbw
             rw [hsame _ hbw] at h
             rw [if_pos hbw]; exact h
           · have hb2 : b = !want := by cases b <;> cases want <;> simp_all
             have h := h.2 hb2
             rw [hsame _ hb2] at h
             rw [if_neg hbw]; exact ⟨trivial,h⟩
         · rename_i hsd
           try simp only [hsd]
           exact ⟨trivial,h⟩
         · exact h.elim
   obtain ⟨h1,h2⟩ := aopsF_trace r (k + 1) hr' hl' hmain.2
   refine ⟨h1,fun j o' hj ho' => ?_⟩
   rcases Nat.lt_or_ge k j with h' | h'
   · exact h2 j o' h' ho'
   · obtain rfl : j = k := by omega
     rw [ho] at ho'; injection ho' with ho'; subst ho'
     exact hmain.1
section
variable {S : zag} {T : zac} {l : List Oper} {nm : Nat} {s0 : List AV × Heap}
theorem zcv {k : Nat} {o : Oper} {s : List AV × Heap} (hp : (zca S T l (nm + 8 * k) o s).1) :
   (∃ x,(zca S T l (nm + 8 * k) o s).2.1.1 = zak s.1 o.dst x) ∧
   (∀ id b,look (zca S T l (nm + 8 * k) o s).2.1.2 id = some b → look s.2 id ≠ none ∨ (nm + 8 * k ≤ id ∧ id < nm + 8 * k + 8)) ∧
   (∀ id,(zad T o.op ≤ 1 ∨ id ∉ (zca S T l (nm + 8 * k) o s).2.2) → ¬ (nm + 8 * k ≤ id ∧ id < nm + 8 * k + 8) → look (zca S T l (nm + 8 * k) o s).2.1.2 id = look s.2 id) ∧
   (zad T o.op = 0 → ∀ id,look (zca S T l (nm + 8 * k) o s).2.1.2 id = look s.2 id) ∧
   (∀ id,id ∈ (zca S T l (nm + 8 * k) o s).2.2 → look s.2 id ≠ none ∨ id < nm + 8 * k) := by
 have hheld : (aopF S T (nm + 8 * k) s.1 o.op s.2).p → ∀ id,id ∈ foot s.1 o.op s.2 → look s.2 id ≠ none ∨ id < nm + 8 * k := fun hp id hid => held_in hp.1 hid
 have hskip : ∀ id b,look s.2 id = some b → look s.2 id ≠ none ∨ (nm + 8 * k ≤ id ∧ id < nm + 8 * k + 8) := fun id b h => .inl (by rw [h]; simp)
 unfold zca at hp ⊢
 cases hg : o.guard with
 | none =>
   simp only [hg] at hp ⊢
   obtain ⟨h1,h2,h3⟩ := aopF_facts hp
   exact ⟨⟨_,rfl⟩,h1,h2,h3,hheld hp⟩
 | some g =>
   obtain ⟨j,want⟩ := g
   simp only [hg] at hp ⊢
   cases hgs : guardSlot l j with
   | none => simp [hgs] at hp
   | some d =>
     simp only [hgs] at hp ⊢
     cases hsd : slot s.1 d with
     | w v =>
       cases v with
       | bool b =>
         simp only [hsd] at hp ⊢
         by_cases hbw : b = want
         · rw [if_pos hbw] at hp ⊢
           obtain ⟨h1,h2,h3⟩ := aopF_facts hp
           exact ⟨⟨_,rfl⟩,h1,h2,h3,hheld hp⟩
         · rw [if_neg hbw] at hp ⊢
           exact ⟨⟨_,rfl⟩,hskip,fun _ _ _ => by first | rfl | trivial,fun _ _ => by first | rfl | trivial,fun id h => by simp at h⟩
       | _ => simp [hsd] at hp
     | tup xs =>
       cases xs with
       | nil =>
         simp only [hsd] at hp ⊢
         exact ⟨⟨_,rfl⟩,hskip,fun _ _ _ => by first | rfl | trivial,fun _ _ => by first | rfl | trivial,fun id h => by simp at h⟩
       | cons _ _ => simp [hsd] at hp
     | _ => simp [hsd] at hp
variable (hst : ∀ j o,l[j]? = some o → (zca S T l (nm + 8 * j) o (zae S T l nm s0 j)).1)
include hst
theorem zdd (k : Nat) : (zae S T l nm s0 k).1.length = s0.1.length := by
 induction k with
 | zero => rfl
 | succ k ih =>
   simp only [zae]
   split
   · rename_i o ho
     obtain ⟨⟨x,hx⟩,_⟩ := zcv (hst k o ho)
     rw [hx,putSlot_length,ih]
   · exact ih
theorem traceF_slot {t : Tmp} {i k : Nat} (hik : i ≤ k) (h : ∀ j o,i ≤ j → j < k → l[j]? = some o → o.dst ≠ some t) : slot (zae S T l nm s0 k).1 t = slot (zae S T l nm s0 i).1 t := by
 induction k with
 | zero => obtain rfl : i = 0 := by omega
           rfl
 | succ k ih =>
   by_cases hk : i = k + 1
   · rw [hk]
   · rw [← ih (by omega) (fun j o h1 h2 h3 => h j o h1 (by omega) h3)]
     simp only [zae]
     split
     · rename_i o ho
       obtain ⟨⟨x,hx⟩,_⟩ := zcv (hst k o ho)
       rw [hx]
       have := h k o (by omega) (by omega) ho
       cases hd : o.dst with
       | none => rfl
       | some d => exact zbv (fun e => this (by rw [hd,e]))
     · rfl
theorem zcj (h0 : ∀ id b,look s0.2 id = some b → id < nm) : ∀ k id b,look (zae S T l nm s0 k).2 id = some b → id < nm + 8 * k
 | 0,id,b,h => by simpa using h0 id b h
 | k + 1,id,b,h => by
   simp only [zae] at h
   split at h
   · rename_i o ho
     obtain ⟨_,hn,_⟩ := zcv (hst k o ho)
     rcases hn id b h with h' | h'
     · cases h2 : look (zae S T l nm s0 k).2 id with
       | none => exact (h' h2).elim
       | some c => have := zcj h0 k id c h2; omega
     · omega
   · have := zcj h0 k id b h; omega
theorem traceF_back {id i k : Nat} (hik : i ≤ k) {b : Blk} (hl : look (zae S T l nm s0 k).2 id = some b) :
   look (zae S T l nm s0 i).2 id ≠ none ∨ ∃ j o,i ≤ j ∧ j < k ∧ l[j]? = some o ∧ zad T o.op ≠ 0 ∧ nm + 8 * j ≤ id ∧ id < nm + 8 * j + 8 := by
 induction k generalizing b with
 | zero => obtain rfl : i = 0 := by omega
           exact .inl (by rw [hl]; simp)
 | succ k ih =>
   by_cases hk : i = k + 1
   · subst hk; exact .inl (by rw [hl]; simp)
   · simp only [zae] at hl
     split at hl
     · rename_i o ho
       obtain ⟨_,hn,_,h0,_⟩ := zcv (hst k o ho)
       by_cases hz : zad T o.op = 0
       · rw [h0 hz] at hl
         rcases ih (by omega) hl with h | ⟨j,o,h1,h2,h3⟩
         · exact .inl h
         · exact .inr ⟨j,o,h1,by omega,h3⟩
       rcases hn id b hl with h' | h'
       · cases h2 : look (zae S T l nm s0 k).2 id with
         | none => exact (h' h2).elim
         | some c =>
           rcases ih (by omega) h2 with h | ⟨j,o,h1,h2,h3⟩
           · exact .inl h
           · exact .inr ⟨j,o,h1,by omega,h3⟩
       · exact .inr ⟨k,o,by omega,by omega,ho,hz,h'⟩
     · rcases ih (by omega) hl with h | ⟨j,o,h1,h2,h3⟩
       · exact .inl h
       · exact .inr ⟨j,o,h1,by omega,h3⟩
theorem traceF_keep {id i k : Nat} (hik : i ≤ k) (hn : ∀ j o,i ≤ j → j < k → l[j]? = some o → (zad T o.op ≤ 1 ∨ id ∉ ftF S T l nm s0 j) ∧ (zad T o.op = 0 ∨ ¬ (nm + 8 * j ≤ id ∧ id < nm + 8 * j + 8))) :
   look (zae S T l nm s0 k).2 id = look (zae S T l nm s0 i).2 id := by
 induction k with
 | zero => obtain rfl : i = 0 := by omega
           rfl
 | succ k ih =>
   by_cases hk : i = k + 1
   · rw [hk]
   · rw [← ih (by omega) (fun j o h1 h2 h3 => hn j o h1 (by omega) h3)]
     simp only [zae]
     split
     · rename_i o ho
       obtain ⟨_,_,h1,h0,_⟩ := zcv (hst k o ho)
       obtain ⟨h2,h3⟩ := hn k o (by omega) (by omega) ho
       rcases h3 with h3 | h3
       · rw [h0 h3]
       · refine h1 id ?_ h3
         simpa only [ftF,ho] using h2
     · rfl
end
section
variable {P : Program} {S : zag} {T : zac} {l : List Oper} {nm : Nat} {s0 : List AV × Heap} {w0 : World} {E : Nat → Prop} {B : Bs}
structure InvF (S : zag) (T : zac) (l : List Oper) (nm : Nat) (s0 : List AV × Heap) (w0 : World) (E : Nat → Prop) (B : Bs) (listed : Array Bool) (a : Act) (w : World) (loc : Loc) : Prop where
 sizel : listed.size = l.length
 size : a.tmps.size = s0.1.length
 slots : ∀ t k,k ≤ l.length → (∀ i o,l[i]? = some o → o.dst = some t → (Ls listed i ↔ i < k)) → R w loc (slot (zae S T l nm s0 k).1 t) (a.tmps.getD t undef)
 heap : ∀ id k,k ≤ l.length → (∀ i o,l[i]? = some o → zad T o.op = 2 → id ∈ ftF S T l nm s0 i → (Ls listed i ↔ i < k)) → ∀ b,look (zae S T l nm s0 k).2 id = some b → BlkR w loc id b
 closed : ∀ j o,l[j]? = some o → Ls listed j → ∀ e ∈ o.after.toList,Region.binds .any e = true → Ls listed e.on
 fresh : ∀ i,¬ Ls listed i → i < l.length → ∀ id,nm + 8 * i ≤ id → id < nm + 8 * i + 8 → loc.m id = .free
 high : ∀ id,nm + 8 * l.length ≤ id → loc.m id = .free
 env : Env w0 E w loc
 base : Base w0 B w loc
 defers : a.defers = []
structure GoodF (S : zag) (T : zac) (l : List Oper) (nm : Nat) (s0 : List AV × Heap) : Prop where
 back : ∀ j o,l[j]? = some o → ∀ e ∈ o.after.toList,Region.binds .any e = true → e.on < j
 clash : ∀ i j x y,i < j → l[i]? = some x → l[j]? = some y → clashS l x y = true → ((masks [] l).getD j 0).testBit i = true
 mem : ∀ i j x y,i < j → l[i]? = some x → l[j]? = some y → clashM T x y = true → ∀ id,id ∈ ftF S T l nm s0 j → id ∈ ftF S T l nm s0 i ∨ (nm + 8 * i ≤ id ∧ id < nm + 8 * i + 8) → ((masks [] l).getD j 0).testBit i = true
theorem goodF_of {pl : List (Nat × Nat)} (h : drawOkF T l pl = true) (hm : memOk pl ((List.range l.length).map fun j => (nm + 8 * j,ftF S T l nm s0 j)) = true) : GoodF S T l nm s0 := by
 unfold drawOkF at h
 have h := List.all_eq_true.1 h
 have hlt : ∀ {j : Nat} {o : Oper},l[j]? = some o → j < l.length := fun h => (List.getElem?_eq_some_iff.1 h).1
 have hboth : ∀ i j x y,i < j → l[i]? = some x → l[j]? = some y → (clashS l x y = true → ((masks [] l).getD j 0).testBit i = true) ∧ (clashM T x y = true → ((masks [] l).getD j 0).testBit i = true ∨ (i,j) ∈ pl) := by
   intro i j x y hij hx hy
   have := h j (List.mem_range.2 (hlt hy))
   simp only [hy,Bool.and_eq_true] at this
   have := List.all_eq_true.1 this.2 i (List.mem_range.2 hij)
   simp only [hx,Bool.and_eq_true,Bool.or_eq_true,Bool.not_eq_true',List.contains_iff_mem] at this
   refine ⟨fun hc => this.1.resolve_left (by rw [hc]; simp),fun hc => this.2.resolve_left (by rw [hc]; simp)⟩
 refine ⟨fun j o ho => ?_,fun i j x y hij hx hy hc => (hboth i j x y hij hx hy).1 hc,fun i j x y hij hx hy hc id hid hor => ?_⟩
 · have := h j (List.mem_range.2 (hlt ho))
   simp only [ho,Bool.and_eq_true] at this
   exact backB_get this.1
 · rcases (hboth i j x y hij hx hy).2 hc with h1 | h1
   · exact h1
   · exfalso
     have := List.all_eq_true.1 hm (i,j) h1
     simp only [List.getElem?_map,List.getElem?_range (hlt hx),List.getElem?_range (hlt hy),Option.map_some] at this
     simp only [clearOf,List.all_eq_true,Bool.and_eq_true,Bool.not_eq_true',Bool.or_eq_true,decide_eq_true_eq] at this
     obtain ⟨h2,h3⟩ := this id hid
     rcases hor with h4 | h4
     · rw [List.contains_iff_mem.2 h4] at h2; cases h2
     · omega
theorem clashS_dst {x y : Oper} {d : Tmp} (hd : x.dst = some d) (h : d ∈ y.looksAt l.toArray ∨ y.dst = some d) : clashS l x y = true := by
 unfold clashS
 rw [hd]
 rcases h with h | h
 · simp [h]
 · simp [h]
theorem clashS_look {x y : Oper} {d : Tmp} (hd : y.dst = some d) (h : d ∈ x.looksAt l.toArray) : clashS l x y = true := by
 unfold clashS
 rw [hd]
 simp [h]
theorem clashM_kind {x y : Oper} (h : (zad T x.op = 2 ∧ zad T y.op ≠ 0) ∨ (zad T y.op = 2 ∧ zad T x.op ≠ 0)) : clashM T x y = true := by
 unfold clashM
 rcases h with ⟨h1,h2⟩ | ⟨h1,h2⟩
 · simp [h1,h2]
 · simp [h1,h2]
variable {listed : Array Bool} {a : Act} {w : World} {loc : Loc} {i : Nat} {o : Oper}
theorem lookF_now (hg : GoodF S T l nm s0) (inv : InvF S T l nm s0 w0 E B listed a w loc) (ho : l[i]? = some o) (hnl : ¬ Ls listed i) (hrd : ∀ e ∈ o.after.toList,Region.binds .any e = true → Ls listed e.on) {t : Tmp} (ht : t ∈ o.looksAt l.toArray) :
   R w loc (slot (zae S T l nm s0 i).1 t) (a.tmps.getD t undef) := by
 have hlt : i < l.length := (List.getElem?_eq_some_iff.1 ho).1
 refine inv.slots t i (by omega) (fun j x hx hd => ⟨fun hl => ?_,fun hji => ?_⟩)
 · rcases Nat.lt_trichotomy j i with h | h | h
   · exact h
   · subst h; exact (hnl hl).elim
   · exact (hnl (zax hg.back inv.closed _ j i (Nat.lt_succ_self _) (hg.clash i j o x h ho hx (clashS_look hd ht)) x hx (inv.closed j x hx hl))).elim
 · exact zax hg.back inv.closed _ i j (Nat.lt_succ_self _) (hg.clash j i x o hji hx ho (clashS_dst hd (.inl ht))) o ho hrd
theorem heapF_now (hg : GoodF S T l nm s0) (inv : InvF S T l nm s0 w0 E B listed a w loc) (ho : l[i]? = some o) (hnl : ¬ Ls listed i) (hrd : ∀ e ∈ o.after.toList,Region.binds .any e = true → Ls listed e.on) (hk : zad T o.op ≠ 0) {id : Nat} {b : Blk}
   (hid : id ∈ ftF S T l nm s0 i) (hb : look (zae S T l nm s0 i).2 id = some b) : BlkR w loc id b := by
 have hlt : i < l.length := (List.getElem?_eq_some_iff.1 ho).1
 refine inv.heap id i (by omega) (fun j x hx hd hf => ⟨fun hl => ?_,fun hji => ?_⟩) b hb
 · rcases Nat.lt_trichotomy j i with h | h | h
   · exact h
   · subst h; exact (hnl hl).elim
   · exact (hnl (zax hg.back inv.closed _ j i (Nat.lt_succ_self _) (hg.mem i j o x h ho hx (clashM_kind (.inr ⟨hd,hk⟩)) id hf (.inl hid)) x hx (inv.closed j x hx hl))).elim
 · exact zax hg.back inv.closed _ i j (Nat.lt_succ_self _) (hg.mem j i x o hji hx ho (clashM_kind (.inl ⟨hd,hk⟩)) id hid (.inl hf)) o ho hrd
theorem advanceF (hg : GoodF S T l nm s0) (hst : ∀ j o,l[j]? = some o → (zca S T l (nm + 8 * j) o (zae S T l nm s0 j)).1) (h0 : ∀ id b,look s0.2 id = some b → id < nm) (inv : InvF S T l nm s0 w0 E B listed a w loc) (ho : l[i]? = some o) (hnl : ¬ Ls listed i)
   (hrd : ∀ e ∈ o.after.toList,Region.binds .any e = true → Ls listed e.on) {x : AV} {v : Value} {w' : World} {loc' : Loc} {C : Nat → Prop}
   (hv : (zca S T l (nm + 8 * i) o (zae S T l nm s0 i)).2.1.1 = zak (zae S T l nm s0 i).1 o.dst x) (hx : R w' loc' x v) (hE : Ext C w loc w' loc') (hC : zad T o.op ≤ 1 → ∀ id,¬ C id) (hCF : ∀ id,C id → id ∈ ftF S T l nm s0 i)
   (hfr : ∀ id,loc.m id = .free → loc'.m id ≠ .free → nm + 8 * i ≤ id ∧ id < nm + 8 * i + 8) (he : Env w0 E w' loc') (hb : Base w0 B w' loc')
   (hh : zad T o.op ≠ 0 → ∀ id b,id ∈ ftF S T l nm s0 i ∨ (nm + 8 * i ≤ id ∧ id < nm + 8 * i + 8) → look (zca S T l (nm + 8 * i) o (zae S T l nm s0 i)).2.1.2 id = some b → BlkR w' loc' id b) :
   InvF S T l nm s0 w0 E B (listed.setIfInBounds i true) (a.put o.dst v) w' loc' := by
 have hlt : i < l.length := (List.getElem?_eq_some_iff.1 ho).1
 have his : i < listed.size := by rw [inv.sizel]; exact hlt
 have hls : ∀ j,Ls (listed.setIfInBounds i true) j ↔ j = i ∨ Ls listed j := fun j => ls_set his
 have htr : zae S T l nm s0 (i + 1) = (zca S T l (nm + 8 * i) o (zae S T l nm s0 i)).2.1 := by simp only [zae,ho]
 have hfi : ftF S T l nm s0 i = (zca S T l (nm + 8 * i) o (zae S T l nm s0 i)).2.2 := by simp only [ftF,ho]
 have hanc : ∀ j y,l[j]? = some y → i < j → Ls listed j → ((masks [] l).getD j 0).testBit i = true → False := fun j y hy hij hl hc =>
   hnl (zax hg.back inv.closed _ j i (Nat.lt_succ_self _) hc y hy (inv.closed j y hy hl))
 refine ⟨by simp [inv.sizel],?_,?_,?_,?_,?_,?_,he,hb,?_⟩
 · cases o.dst with
   | none => exact inv.size
   | some d => simp [Act.put,inv.size]
 · intro t k hk hq
   by_cases hd : o.dst = some t
   · have hik : i < k := (hq i o ho hd).1 ((hls i).2 (.inl rfl))
     have e1 : slot (zae S T l nm s0 k).1 t = slot (zae S T l nm s0 (i + 1)).1 t := by
       refine traceF_slot hst (by omega) (fun j y h1 h2 hy hyd => ?_)
       have := (hls j).1 ((hq j y hy hyd).2 h2)
       rcases this with h | h
       · omega
       · exact hanc j y hy (by omega) h (hg.clash i j o y (by omega) ho hy (clashS_dst hd (.inr hyd)))
     rw [e1,htr,hv,hd]
     simp only [zak]
     by_cases hts : t < (zae S T l nm s0 i).1.length
     · rw [zck hts]
       have : (a.put (some t) v).tmps.getD t undef = v := by
         rw [zdd hst] at hts
         simp [Act.put,inv.size,hts]
       rw [this]; exact hx
     · rw [zdj (by rw [zaz]; exact Nat.le_of_not_lt hts)]; exact .junk _
   · have h1 := inv.slots t k hk (fun j y hy hyd => by
       have hji : j ≠ i := by
         rintro rfl
         rw [ho] at hy; injection hy with hy; subst hy; exact hd hyd
       rw [← hq j y hy hyd,hls]
       simp [hji])
     have : (a.put o.dst v).tmps.getD t undef = a.tmps.getD t undef := by
       cases hdd : o.dst with
       | none => rfl
       | some d =>
         have hne : d ≠ t := fun e => hd (by rw [hdd,e])
         simp [Act.put,Array.getElem?_setIfInBounds_ne hne]
     rw [this]; exact h1.ext hE
 · intro id k hk hq b hl
   by_cases hf' : loc'.m id = .free
   · exact BlkR.free hf'
   by_cases h2 : zad T o.op = 2 ∧ id ∈ ftF S T l nm s0 i
   · have hik : i < k := (hq i o ho h2.1 h2.2).1 ((hls i).2 (.inl rfl))
     have hidl : id < nm + 8 * i := by
       have h3 := (zcv (hst i o ho)).2.2.2.2 id (by rw [← hfi]; exact h2.2)
       cases h4 : look (zae S T l nm s0 i).2 id with
       | none => exact h3.resolve_left (fun h => h h4)
       | some c => exact zcj hst h0 i id c h4
     have hno : ∀ j y,i + 1 ≤ j → j < k → l[j]? = some y → (zad T y.op ≤ 1 ∨ id ∉ ftF S T l nm s0 j) ∧ (zad T y.op = 0 ∨ ¬ (nm + 8 * j ≤ id ∧ id < nm + 8 * j + 8)) := by
       intro j y h3 h4 hy
       refine ⟨?_,.inr (by omega)⟩
       by_cases hyf : id ∈ ftF S T l nm s0 j
       · left
         have hle : zad T y.op ≤ 2 := zfm T y.op
         have hne : zad T y.op ≠ 2 := by
           intro hy2
           rcases (hls j).1 ((hq j y hy hy2 hyf).2 h4) with h | h
           · omega
           · exact hanc j y hy (by omega) h (hg.mem i j o y (by omega) ho hy (clashM_kind (.inl ⟨h2.1,by omega⟩)) id hyf (.inl h2.2))
         omega
       · exact .inr hyf
     rw [traceF_keep hst (by omega) hno,htr] at hl
     exact hh (by omega) id b (.inl h2.2) hl
   · have hold : BlkR w loc id b := inv.heap id k hk (fun j y hy hy2 hyf => by
       have hji : j ≠ i := by
         rintro rfl
         rw [ho] at hy; injection hy with hy; subst hy; exact h2 ⟨hy2,hyf⟩
       rw [← hq j y hy hy2 hyf,hls]
       simp [hji]) b hl
     by_cases hf : loc.m id = .free
     · have hr := hfr id hf hf'
       have hik : i < k := by
         rcases Nat.lt_or_ge i k with h | h
         · exact h
         · have := zcj hst h0 k id b hl; omega
       by_cases hz : zad T o.op = 0
       · exfalso
         rcases traceF_back hst (i := i + 1) (by omega) hl with h | ⟨j,y,h3,_,_,_,h4,_⟩
         · rw [htr,(zcv (hst i o ho)).2.2.2.1 hz] at h
           cases h5 : look (zae S T l nm s0 i).2 id with
           | none => exact h h5
           | some c => have := zcj hst h0 i id c h5; omega
         · omega
       · have hno : ∀ j y,i + 1 ≤ j → j < k → l[j]? = some y → (zad T y.op ≤ 1 ∨ id ∉ ftF S T l nm s0 j) ∧ (zad T y.op = 0 ∨ ¬ (nm + 8 * j ≤ id ∧ id < nm + 8 * j + 8)) := by
           intro j y h3 h4 hy
           refine ⟨?_,.inr (by omega)⟩
           by_cases hyf : id ∈ ftF S T l nm s0 j
           · left
             have hle2 : zad T y.op ≤ 2 := zfm T y.op
             have hne : zad T y.op ≠ 2 := by
               intro hy2
               rcases (hls j).1 ((hq j y hy hy2 hyf).2 h4) with h | h
               · omega
               · exact hanc j y hy (by omega) h (hg.mem i j o y (by omega) ho hy (clashM_kind (.inr ⟨hy2,hz⟩)) id hyf (.inr hr))
             omega
           · exact .inr hyf
         rw [traceF_keep hst (by omega) hno,htr] at hl
         exact hh hz id b (.inr hr) hl
     · refine hold.ext hE (fun hc => ?_) hf
       have hle : zad T o.op ≤ 2 := zfm T o.op
       by_cases hk1 : zad T o.op ≤ 1
       · exact hC hk1 id hc
       · exact h2 ⟨by omega,hCF id hc⟩
 · intro j y hy hl e hee hbe
   rw [hls]
   rcases (hls j).1 hl with h | h
   · subst h
     rw [ho] at hy; injection hy with hy; subst hy
     exact .inr (hrd e hee hbe)
   · exact .inr (inv.closed j y hy h e hee hbe)
 · intro j hj hjl id h1 h2
   rw [hls] at hj
   have hji : j ≠ i := fun e => hj (.inl e)
   have hf := inv.fresh j (fun h => hj (.inr h)) hjl id h1 h2
   by_cases hf' : loc'.m id = .free
   · exact hf'
   · have := hfr id hf hf'; omega
 · intro id h1
   have hf := inv.high id h1
   by_cases hf' : loc'.m id = .free
   · exact hf'
   · have := hfr id hf hf'; omega
 · rw [← inv.defers]
   cases o.dst <;> rfl
end
end Ax
end Go.Proofs.Ytnmomgcanfpigaa
namespace Go.Proofs.Ytnmomgcanfpigaa
namespace Ax
section
variable {P : Program} {S : zag} {T : zac} {l : List Oper} {nm : Nat} {s0 : List AV × Heap} {w0 : World} {E : Nat → Prop} {B : Bs}
theorem all_listedF (hg : GoodF S T l nm s0) {listed : Array Bool} (hsz : listed.size = l.length) (hr : Region.ready .any l.toArray listed = []) : ∀ n j,j < n → j < l.length → Ls listed j := by
 intro n
 induction n with
 | zero => intro j h; omega
 | succ n ih =>
   intro j hj hjl
   by_cases hl : Ls listed j
   · exact hl
   · exfalso
     have : j ∈ Region.ready .any l.toArray listed := by
       refine mem_ready.2 ⟨getD_in (by rw [hsz]; exact hjl) (by unfold Ls at hl; simpa using hl),l[j],by simp [hjl],fun e he hb => ?_⟩
       have hlt := hg.back j l[j] (List.getElem?_eq_getElem hjl) e (by simpa using he) hb
       exact ih e.on (by omega) (by omega)
     rw [hr] at this
     simp at this
theorem inv_wpAnyF (hT : TOk P T) (hS : Fns P S) (hg : GoodF S T l nm s0) (hst : ∀ j o,l[j]? = some o → (zca S T l (nm + 8 * j) o (zae S T l nm s0 j)).1) (h0 : ∀ id b,look s0.2 id = some b → id < nm) {K : Exit → Act → World → Prop}
   (hK : ∀ listed a w loc,InvF S T l nm s0 w0 E B listed a w loc → (∀ j,j < l.length → Ls listed j) → K .normal a w) :
   ∀ (fuel : Nat) (listed : Array Bool) (a : Act) (w : World) (loc : Loc),InvF S T l nm s0 w0 E B listed a w loc → listed.toList.count false ≤ fuel → wpAny P .any l.toArray K fuel listed a w := by
 intro fuel
 induction fuel with
 | zero =>
   intro listed a w loc inv hc
   have hall : ∀ j,j < l.length → Ls listed j := by
     intro j hj
     have hj' : j < listed.size := by rw [inv.sizel]; exact hj
     have h1 : false ∉ listed.toList := by
       intro hm
       have := List.count_pos_iff.2 hm
       omega
     unfold Ls
     have h2 : listed[j] ≠ false := fun e => h1 (by rw [← e]; simp)
     simpa [hj'] using h2
   refine ⟨?_,hK listed a w loc inv hall⟩
   cases hr : Region.ready .any l.toArray listed with
   | nil => rfl
   | cons j r =>
     exfalso
     have hm : j ∈ Region.ready .any l.toArray listed := by rw [hr]; simp
     obtain ⟨h1,o,ho,_⟩ := mem_ready.1 hm
     have hjl : j < l.length := by
       have := (Array.getElem?_eq_some_iff.1 ho).1
       simpa using this
     have := hall j hjl
     unfold Ls at this
     rw [getD_both h1] at this
     cases this
 | succ fuel ih =>
   intro listed a w loc inv hc
   refine ⟨fun hr => hK listed a w loc inv (fun j hj => all_listedF hg inv.sizel hr _ j (Nat.lt_succ_self _) hj),fun i hi => ?_⟩
   obtain ⟨hnl1,o,ho',hrd'⟩ := mem_ready.1 hi
   have ho : l[i]? = some o := by simpa using ho'
   have hnl : ¬ Ls listed i := by unfold Ls; rw [getD_both hnl1]; simp
   have hrd : ∀ e ∈ o.after.toList,Region.binds .any e = true → Ls listed e.on := fun e he hb => hrd' e (by simpa using he) hb
   have hlt : i < l.length := (List.getElem?_eq_some_iff.1 ho).1
   have hc' : (listed.setIfInBounds i true).toList.count false ≤ fuel := by
     have := count_set listed.toList i (by simpa using hnl1)
     rw [Array.toList_setIfInBounds]
     omega
   have hlook := fun t ht => lookF_now hg inv ho hnl hrd (t := t) ht
   have hlow := zcj hst h0 i
   have hev : ∀ x ∈ o.op.operands.toList,R w loc (ev (zae S T l nm s0 i).1 x) (a.eval x) := by
     intro x hx
     cases x with
     | tmp t => exact hlook t (by unfold Oper.looksAt; exact List.mem_append_left _ (List.mem_filterMap.2 ⟨.tmp t,hx,rfl⟩))
     | const v => exact ev_R (sl := []) (a := a) (fun t => .junk _) (.const v)
     | global g => exact .junk _
     | func f => exact ev_R (sl := []) (a := a) (fun t => .junk _) (.func f)
   have hstep := hst i o ho
   have hfi : ftF S T l nm s0 i = (zca S T l (nm + 8 * i) o (zae S T l nm s0 i)).2.2 := by simp only [ftF,ho]
   have hadv := @advanceF S T l nm s0 w0 E B listed a w loc i o hg hst h0 inv ho hnl hrd
   have hheap := fun (hk : zad T o.op ≠ 0) id b => @heapF_now S T l nm s0 w0 E B listed a w loc i o hg inv ho hnl hrd hk id b
   rw [hfi] at hadv hheap
   -- the operation is done
   have hdo : (aopF S T (nm + 8 * i) (zae S T l nm s0 i).1 o.op (zae S T l nm s0 i).2).p →
       (zca S T l (nm + 8 * i) o (zae S T l nm s0 i)).2.1 = (zak (zae S T l nm s0 i).1 o.dst (aopF S T (nm + 8 * i) (zae S T l nm s0 i).1 o.op (zae S T l nm s0 i).2).x,(aopF S T (nm + 8 * i) (zae S T l nm s0 i).1 o.op (zae S T l nm s0 i).2).H) →
       (zca S T l (nm + 8 * i) o (zae S T l nm s0 i)).2.2 = foot (zae S T l nm s0 i).1 o.op (zae S T l nm s0 i).2 →
       o.wp P a w (wpAny P .any l.toArray K fuel (listed.setIfInBounds i true)) K := by
     intro hp hs hft
     have hfree : ∀ id,nm + 8 * i ≤ id → id < nm + 8 * i + 8 → loc.m id = .free := inv.fresh i hnl hlt
     rw [hft] at hadv hheap
     by_cases hk : zad T o.op = 0
     · obtain ⟨h1,h2,h3⟩ := pu_aop (H := keepIn (foot (zae S T l nm s0 i).1 o.op (zae S T l nm s0 i).2) (zae S T l nm s0 i).2) (S := S) (sl := (zae S T l nm s0 i).1) (nm := nm + 8 * i) hk hp.2
       refine zch hT hS inv.env (H := []) (fun id b h => by simp [look] at h) hfree o hev h1 _ K (fun v w' loc' hpost => ?_)
       obtain ⟨C,hE,hC⟩ := hpost.ext
       have hC' := hC (kind_wr (H := []) (by omega) h1)
       refine ih _ _ _ loc' (hadv (x := _) (C := C) (by rw [hs]) ?_ hE (fun _ => hC') (fun id h => (hC' id h).elim) hpost.fresh hpost.env (inv.base.post hpost) (fun h => (h hk).elim)) hc'
       have := hpost.r
       rw [h2] at this; exact this
     · refine aopF_sound hT hS inv.env (fun id b hid hl => hheap hk id b hid hl) hfree rfl hev hp _ K (fun v w' loc' wr hpost hext => ?_)
       obtain ⟨C,hE,hC,hCF⟩ := hext
       refine ih _ _ _ loc' (hadv (x := _) (C := C) (by rw [hs]) hpost.r hE hC hCF hpost.fresh hpost.env (inv.base.post hpost) (fun _ id b hor hl => ?_)) hc'
       rw [hs] at hl
       simp only [aopF] at hl
       rw [zdq] at hl
       cases h1 : look (aop S T (nm + 8 * i) (zae S T l nm s0 i).1 o.op (keepIn (foot (zae S T l nm s0 i).1 o.op (zae S T l nm s0 i).2) (zae S T l nm s0 i).2)).H id with
       | some c =>
         simp only [h1] at hl
         injection hl with hl
         subst hl
         exact hpost.h id c h1
       | none =>
         simp only [h1,zdp] at hl
         split at hl
         · cases hl
         · rename_i hn
           rcases hor with h2 | h2
           · exact (hn h2).elim
           · have := hlow id b hl; omega
   unfold wpOp
   rw [ho']
   simp only
   cases hgd : o.guard with
   | none =>
     rw [if_pos (by simp [Region.wanted,hgd])]
     left
     refine hdo ?_ ?_ ?_
     · simpa [zca,hgd] using hstep
     · simp [zca,hgd]
     · simp [zca,hgd]
   | some g =>
     obtain ⟨j,want⟩ := g
     simp only [zca,hgd] at hstep hdo hadv
     cases hgs : guardSlot l j with
     | none => simp [hgs] at hstep
     | some d =>
       simp only [hgs] at hstep hdo hadv
       have hdl : d ∈ o.looksAt l.toArray := by
         unfold Oper.looksAt
         refine List.mem_append_right _ ?_
         rw [hgd]
         unfold guardSlot at hgs
         cases hj : l[j]? with
         | none => rw [hj] at hgs; cases hgs
         | some oj =>
           rw [hj] at hgs
           simp only at hgs
           simp [hj,hgs]
       have hval := hlook d hdl
       cases hsd : slot (zae S T l nm s0 i).1 d with
       | w u =>
         cases u with
         | bool b =>
           simp only [hsd] at hstep hdo hadv
           rw [hsd] at hval
           have hval := hval.wv
           have hdlt : d < a.tmps.size := by
             rw [inv.size,← zdd hst i]
             rcases Nat.lt_or_ge d (zae S T l nm s0 i).1.length with h' | h'
             · exact h'
             · rw [zdj h'] at hsd; cases hsd
           have hy := yielded_of (ops := l.toArray) (by simpa using hgs) hdlt hval
           have hw : (Region.wanted o (yielded l.toArray a.tmps) = true) ↔ b = want := by simp [Region.wanted,hgd,hy]
           by_cases hbw : b = want
           · rw [if_pos (hw.2 hbw)]
             rw [if_pos hbw] at hstep hdo
             exact .inl (hdo hstep rfl rfl)
           · rw [if_neg (fun h => hbw (hw.1 h))]
             simp only [if_neg hbw] at hadv
             refine ih _ _ _ loc (hadv (x := .tup []) (C := fun _ => False) rfl undef_R (Ext.refl w loc) (fun _ _ h => h) (fun _ h => h.elim) (fun id h h' => (h' h).elim) inv.env inv.base (fun hk id b hor hl => ?_)) hc'
             rcases hor with h2 | h2
             · simp at h2
             · have := hlow id b hl; omega
         | _ => simp [hsd] at hstep
       | tup xs =>
         cases xs with
         | nil =>
           simp only [hsd] at hadv
           rw [hsd] at hval
           rw [if_neg (by simp [Region.wanted,hgd,zdv (ops := l.toArray) (by simpa using hgs) (tup_R hval)])]
           refine ih _ _ _ loc (hadv (x := .tup []) (C := fun _ => False) rfl undef_R (Ext.refl w loc) (fun _ _ h => h) (fun _ h => h.elim) (fun id h h' => (h' h).elim) inv.env inv.base (fun hk id b hor hl => ?_)) hc'
           rcases hor with h2 | h2
           · simp at h2
           · have := hlow id b hl; omega
         | cons _ _ => simp [hsd] at hstep
       | _ => simp [hsd] at hstep
theorem drawF_sound (hT : TOk P T) (hS : Fns P S) (hm : P.follows .mixedOrders = true) {pl : List (Nat × Nat)} {K : Exit → Act → World → Prop} {Q : List AV → Heap → Prop} {sl : List AV} {H : Heap} {a : Act} {w : World} {loc : Loc} {id : Nat}
   (hd : drawOkF T l pl = true) (hK : ∀ sl H a w loc,Base w0 B w loc → Rel' w0 E loc ⟨sl,H,nm + 8 * l.length⟩ a w → Q sl H → K .normal a w) (hb : Base w0 B w loc)
   (hr : Rel' w0 E loc ⟨sl,H,nm⟩ a w) (h : zek S T l pl nm [] l sl H Q) : (Code.region id l.toArray true).wp P K a w := by
 obtain ⟨⟨hQ,hmem⟩,hst⟩ := aopsF_trace (S := S) (T := T) (nm := nm) (pl := pl) (Q := Q) (l := l) (s0 := (sl,H)) l 0 (fun j => by rw [Nat.zero_add]) (Nat.zero_add _) (by simpa [zae] using h)
 have hst' := fun j o ho => hst j o (Nat.zero_le _) ho
 have hg := goodF_of hd hmem
 refine wp_region_any hm ?_
 have hL : ∀ i,¬ Ls (Array.replicate l.toArray.size false) i := fun i h => by
   unfold Ls at h
   rw [getD_replicate_false] at h; cases h
 refine inv_wpAnyF hT hS hg hst' hr.low (w0 := w0) (E := E) (B := B) ?_ _ _ _ _ loc ?_ ?_
 · intro listed a w loc inv hall
   have hq : ∀ (i : Nat),i < l.length → (Ls listed i ↔ i < l.length) := fun i hi => ⟨fun _ => hi,fun _ => hall i hi⟩
   have hlt : ∀ {j : Nat} {o : Oper},l[j]? = some o → j < l.length := fun h => (List.getElem?_eq_some_iff.1 h).1
   refine hK _ _ a w loc inv.base ⟨?_,?_,?_,inv.env,inv.high,inv.defers,?_⟩ hQ
   · simp only; rw [zdd hst']; exact inv.size
   · exact fun t => inv.slots t _ (Nat.le_refl _) (fun i o ho _ => hq i (hlt ho))
   · exact fun id b hl => inv.heap id _ (Nat.le_refl _) (fun i o ho _ _ => hq i (hlt ho)) b hl
   · exact zcj hst' hr.low l.length
 · have hbase : Base w0 B { w with drawn := w.drawn + 1 } loc := hb
   have hE : Ext (fun _ => False) w loc { w with drawn := w.drawn + 1 } loc := ⟨Nat.le_refl _,fun _ _ _ => rfl,fun _ _ _ => .inl rfl,fun _ _ h => ⟨rfl,h⟩,fun _ _ _ _ => rfl,fun _ cur _ fz h => ⟨cur,fz,h,rfl⟩⟩
   have hcl : ∀ {x v},R w loc x v → R { w with drawn := w.drawn + 1 } loc x v := fun h => h.ext hE
   refine ⟨by simp,hr.size,?_,?_,?_,?_,?_,⟨hr.env.os,hr.env.tape,hr.env.output,hr.env.size,hr.env.same,hr.env.inj,hr.env.lies,hr.env.bad⟩,hbase,hr.defers⟩
   · intro t k hk hq
     have e : slot (zae S T l nm (sl,H) k).1 t = slot sl t := by
       refine traceF_slot hst' (i := 0) (Nat.zero_le _) (fun j o _ hj ho hd => ?_)
       exact hL j ((hq j o ho hd).2 hj)
     rw [e]
     exact hcl (hr.slots t)
   · intro id k hk hq b hl
     by_cases hf : loc.m id = .free
     · exact BlkR.free hf
     · have hidn : id < nm := by
         rcases Nat.lt_or_ge id nm with h' | h'
         · exact h'
         · exact (hf (hr.fresh id h')).elim
       have e : look (zae S T l nm (sl,H) k).2 id = look H id := by
         refine traceF_keep hst' (i := 0) (Nat.zero_le _) (fun j o _ hj ho => ⟨?_,.inr (by omega)⟩)
         by_cases hid : id ∈ ftF S T l nm (sl,H) j
         · left
           have hle : zad T o.op ≤ 2 := zfm T o.op
           have hne : zad T o.op ≠ 2 := fun h2 => hL j ((hq j o ho h2 hid).2 hj)
           omega
         · exact .inr hid
       rw [e] at hl
       exact (hr.heap id b hl).ext hE (fun h => h) hf
   · intro j o ho hl; exact (hL j hl).elim
   · intro i _ hi id h1 h2; exact hr.fresh id (by simp only; omega)
   · intro id h1; exact hr.fresh id (by simp only; omega)
 · simp
end
end Ax
end Go.Proofs.Ytnmomgcanfpigaa
namespace Go.Proofs.Ytnmomgcanfpigaa
namespace Ax
open Go.RowKit
abbrev Plan := Nat → Option (List (Nat × Nat))
def zcu (T : zac) (pl : Plan) : Code → Bool
 | .region id ops draw => match pl id with
   | none => !draw || drawOk T ops.toList
   | some p => draw && drawOkF T ops.toList p
 | .seq a b => zcu T pl a && zcu T pl b
 | .cond _ a b => zcu T pl a && zcu T pl b
 | .block _ c => zcu T pl c
 | .loop c => zcu T pl c
 | _ => true
def awpF (S : zag) (T : zac) (pl : Plan) : Code → (Exit → ASt → Prop) → ASt → Prop
 | .skip,Q,σ => Q .normal σ
 | .label _,Q,σ => Q .normal σ
 | .region id ops _,Q,σ => match pl id with
   | none => aops S T ops.toList σ.nx ops.toList σ.sl σ.H (regK (σ.nx + 8 * ops.toList.length) Q)
   | some p => zek S T ops.toList p σ.nx [] ops.toList σ.sl σ.H (regK (σ.nx + 8 * ops.toList.length) Q)
 | .seq a b,Q,σ => awpF S T pl a (seqK (awpF S T pl b Q) Q) σ
 | .cond c a b,Q,σ => match ev σ.sl c with
     | .w (.bool t) => csplit t (awpF S T pl a Q σ) (awpF S T pl b Q σ)
     | _ => False
 | .block id c,Q,σ => awpF S T pl c (blockK id Q) σ
 | .loop c,Q,σ => ALoop (awpF S T pl c) Q σ
 | .exit id,Q,σ => Q (.exit id) σ
 | .ret,Q,σ => Q .ret σ
 | _,_,_ => False
open Classical in
theorem awpF_sound {P : Program} {w0 : World} {E : Nat → Prop} {T : zac} {S : zag} {pl : Plan} (hm : P.follows .mixedOrders = true) (hT : TOk P T) (hS : Fns P S) {B : Bs} : ∀ (c : Code) (Q : Exit → ASt → Prop) (σ : ASt) (a : Act) (w : World),
   zcu T pl c = true → awpF S T pl c Q σ → Rel w0 E B σ a w → c.wp P (Low w0 E B Q) a w := by
 intro c
 induction c with
 | skip => intro Q σ a w hdr h hr; exact wp_skip ⟨σ,hr,h⟩
 | label l => intro Q σ a w hdr h hr; exact wp_label ⟨σ,hr,h⟩
 | ret => intro Q σ a w hdr h hr; exact wp_ret ⟨σ,hr,h⟩
 | exit id => intro Q σ a w hdr h hr; exact wp_exit ⟨σ,hr,h⟩
 | region id ops draw =>
   intro Q σ a w hdr h hr
   obtain ⟨loc,hb,hr⟩ := hr
   obtain ⟨sl,H,nx⟩ := σ
   have hK : ∀ sl H a w loc,Base w0 B w loc → Rel' w0 E loc ⟨sl,H,nx + 8 * ops.toList.length⟩ a w → regK (nx + 8 * ops.toList.length) Q sl H → Low w0 E B Q .normal a w := fun sl H a w loc h1 h2 h3 => ⟨_,⟨loc,h1,h2⟩,h3⟩
   simp only [zcu] at hdr
   simp only [awpF] at h
   cases hp : pl id with
   | none =>
     simp only [hp] at hdr h
     cases draw with
     | false => exact wp_region_list (zda hT hS hK ops.toList nx sl H a w loc rfl hb hr h)
     | true => exact zew hT hS hm w0 E ops.toList _ _ B nx sl H a w loc id (by simpa using hdr) hK hb hr h
   | some p =>
     simp only [hp,Bool.and_eq_true] at hdr h
     obtain ⟨hd1,hd2⟩ := hdr
     subst hd1
     exact drawF_sound hT hS hm hd2 hK hb hr h
 | seq x y ihx ihy =>
   intro Q σ a w hdr h hr
   refine wp_seq (wp_mono (ihx _ σ a w (by simp only [zcu,Bool.and_eq_true] at hdr; exact hdr.1) h hr) ?_)
   rintro e a' w' ⟨σ',hr',hq⟩
   cases e with
   | normal => exact ihy Q σ' a' w' (by simp only [zcu,Bool.and_eq_true] at hdr; exact hdr.2) hq hr'
   | _ => exact ⟨σ',hr',hq⟩
 | cond c x y ihx ihy =>
   intro Q σ a w hdr h hr
   simp only [awpF,csplit] at h
   simp only [zcu,Bool.and_eq_true] at hdr
   obtain ⟨loc,hb,hr⟩ := hr
   split at h
   · rename_i t hc
     have hv := ev_R hr.slots c
     rw [hc] at hv
     have hv := hv.wv
     cases t with
     | true => exact wp_cond_true hv (ihx Q σ a w hdr.1 (h.1 rfl) ⟨loc,hb,hr⟩)
     | false => exact wp_cond_false hv (ihy Q σ a w hdr.2 (h.2 rfl) ⟨loc,hb,hr⟩)
   · exact h.elim
 | block id c ih =>
   intro Q σ a w hdr h hr
   refine wp_block (wp_mono (ih _ σ a w hdr h hr) ?_)
   rintro e a' w' ⟨σ',hr',hq⟩
   cases e with
   | exit id' =>
     simp only [blockK,Exit.inBlock] at hq ⊢
     split at hq
     · rename_i he; rw [if_pos he]; exact ⟨σ',hr',hq⟩
     · rename_i he; rw [if_neg he]; exact ⟨σ',hr',hq⟩
   | _ => exact ⟨σ',hr',hq⟩
 | loop c ih =>
   intro Q σ a w hdr h hr
   obtain ⟨I,⟨n0,σ0,hw0,hI0⟩,hround⟩ := h
   let p : Act → World → Nat → Prop := fun a w n => ∃ σ,Rel w0 E B σ a w ∧ I n σ
   have hleast : ∀ a w,(∃ n,p a w n) → ∃ m,p a w m ∧ ∀ k,p a w k → m ≤ k := fun a w ⟨n,hn⟩ => let ⟨m,h1,_,h3⟩ := least n hn; ⟨m,h1,h3⟩
   let μ : Act → World → Nat := fun a w => if h : ∃ n,p a w n then Classical.choose (hleast a w h) else 0
   refine wp_loop (fun a w => ∃ n,p a w n) μ ⟨n0,σ0,hw0 w0 E B a w hr,hI0⟩ ?_
   intro a w hex
   have hμ : μ a w = Classical.choose (hleast a w hex) := dif_pos hex
   obtain ⟨⟨σ1,hr1,hI1⟩,hmin⟩ := Classical.choose_spec (hleast a w hex)
   rw [← hμ] at hI1
   refine wp_mono (ih _ σ1 a w hdr (hround _ σ1 hI1) hr1) ?_
   rintro e a' w' ⟨σ',hr',hq⟩
   cases e with
   | normal =>
     obtain ⟨m,σ2,hlt,hw2,hI2⟩ := hq
     have hp : p a' w' m := ⟨σ2,hw2 w0 E B a' w' hr',hI2⟩
     refine ⟨⟨m,hp⟩,?_⟩
     have hμ' : μ a' w' = Classical.choose (hleast a' w' ⟨m,hp⟩) := dif_pos ⟨m,hp⟩
     have := (Classical.choose_spec (hleast a' w' ⟨m,hp⟩)).2 m hp
     rw [← hμ'] at this
     exact Nat.lt_of_le_of_lt this hlt
   | _ =>
     obtain ⟨σ2,hw2,hq⟩ := hq
     exact ⟨σ2,hw2 w0 E B a' w' hr',hq⟩
 | _ => intro Q σ a w hdr h hr; exact h.elim
theorem sound_gen0 {P : Program} {T : zac} {S : zag} (hT : TOk P T) (hS : Fns P S) {f : FuncId} {fn : Func} {c : Code} (hf : P.funcs[f]? = some fn) (hb : fn.body = some c) {spec : zal} {Qp : List AV → List Blk → Exit → ASt → Prop}
   (hqp : ∀ xs pins e σ,Qp xs pins e σ → ∃ σ',Weak σ σ' ∧ Ends T fn.results.toList pins (spec xs pins) e σ')
   (h : ∀ xs pins,(spec xs pins).p → closedB pins = true → pins.length ≤ 4 ∧ ∀ w0 E B a w,Rel w0 E B ⟨xs ++ List.replicate (fn.ntmps - xs.length) .junk,pinHeap 0 pins,4⟩ a w → c.wp P (Low w0 E B (Qp xs pins)) a w) : zbb P f spec := by
 intro xs pins hp hcl w bad pb vs hlen hnd hbad hlies hxl hx
 obtain ⟨hp4,h⟩ := h xs pins hp hcl
 refine calls_of_wp hf hb ?_
 have hrel : Rel w (· ∈ pb) ⟨bad,pb⟩ ⟨xs ++ List.replicate (fn.ntmps - xs.length) .junk,pinHeap 0 pins,4⟩ { tmps := vs.toArray ++ Array.replicate (fn.ntmps - vs.toArray.size) undef,defers := [] } w := by
   refine ⟨zap pb bad,⟨⟨rfl,fun k hk cur e fz hh => ⟨cur,fz,hh,rfl⟩⟩,by simp only; omega,fun k hk => .inr ⟨by simp [zap,List.getElem?_eq_getElem hk],fun cur e fz hh => ⟨cur,fz,hh,rfl⟩⟩⟩,?_⟩
   refine ⟨by simp [hxl],fun t => ?_,?_,?_,?_,rfl,fun id b hl => ?_⟩
   · simp only
     rw [zcr]
     by_cases ht : t < xs.length
     · have e1 : (xs ++ List.replicate (fn.ntmps - xs.length) AV.junk).getD t .junk = xs[t] := by simp [List.getElem?_append_left,ht]
       have e2 : (vs.toArray ++ Array.replicate (fn.ntmps - vs.toArray.size) undef).getD t undef = vs[t]'(by omega) := by
         have : t < vs.length := by omega
         simp [Array.getD_eq_getD_getElem?,Array.getElem?_append,this]
       rw [e1,e2]
       exact hx t ht _
     · have e1 : (xs ++ List.replicate (fn.ntmps - xs.length) AV.junk).getD t .junk = .junk := by
         rw [List.getD_eq_getElem?_getD,List.getElem?_append_right (by omega),List.getElem?_replicate]
         split <;> rfl
       rw [e1]; exact .junk _
   · intro id b hl
     obtain ⟨j,hj,rfl,rfl⟩ := zbn pins 0 id b hl
     have hj' : j < pb.length := by omega
     unfold BlkR
     have : (zap pb bad).m (0 + j) = .here pb[j] := by simp [zap,List.getElem?_eq_getElem hj']
     rw [this]
     exact hlies j hj hj'
   · refine ⟨rfl,rfl,rfl,Nat.le_refl _,fun _ _ _ => rfl,?_,?_,?_⟩
     · intro i j b hi hj
       obtain ⟨h1,h2⟩ := zcb hi
       obtain ⟨h3,h4⟩ := zcb hj
       exact zcf hnd (h2.trans h4.symm)
     · intro i b hi
       obtain ⟨h1,h2⟩ := zcb hi
       subst h2
       refine ⟨?_,.inr (List.getElem_mem h1)⟩
       obtain ⟨ob,hh⟩ := lies_live2 (hlies i (by omega) h1).2
       rcases Nat.lt_or_ge pb[i] w.heap.size with h' | h'
       · exact h'
       · rw [Array.getElem?_eq_none h'] at hh; cases hh
     · exact fun b hb => hbad b hb
   · intro id hid
     simp only at hid
     have : pb[id]? = none := List.getElem?_eq_none (by omega)
     simp [zap,this]
   · obtain ⟨j,hj,rfl,_⟩ := zbn pins 0 id b hl
     simp; omega
 refine wp_mono (h _ _ _ _ w hrel) ?_
 have main : ∀ a w' σ,Rel w (· ∈ pb) ⟨bad,pb⟩ σ a w' → (rvals T σ.H σ.sl fn.results.toList).1 ∧ EndsX pins (spec xs pins) (rone (rvals T σ.H σ.sl fn.results.toList).2) σ →
     a.defers = [] ∧ ∃ v,(results fn a.tmps).run P w' = .ok v w' ∧ ∃ v' loc',Ending.returned v = .returned v' ∧ Gives w bad pb (spec xs pins) v' w' loc' := by
   rintro a w' σ ⟨loc,hB,hr⟩ ⟨hrv,hnodup,hpin,hbl,hren⟩
   obtain ⟨v,hv,hR⟩ := results_R (P := P) (fn := fn) hT hr.heap hr.slots hrv
   refine ⟨hr.defers,v,hv,v,?_⟩
   generalize rone (rvals T σ.H σ.sl fn.results.toList).2 = x at hnodup hpin hbl hren hR
   have hnd' := zdy hnodup
   obtain ⟨hids1,hids2⟩ := newIds_mem x.ids (upTo 0 pins)
   obtain ⟨hu1,hu2⟩ := upTo_get pins 0
   generalize hids : newIds (upTo 0 pins) x.ids = ids at hnodup hpin hbl hren hnd' hids1 hids2
   obtain ⟨hpl,hpc,hpg⟩ := zev hpin
   rw [hbl] at hpl hpc hpg
   obtain ⟨t,rfl⟩ := hids1
   have hm : pins.length ≤ (upTo 0 pins ++ t).length := by simp [hu1]
   have hold : ∀ k,(hk : k < pins.length) → (upTo 0 pins ++ t)[k]'(by omega) = k := by
     intro k hk
     rw [List.getElem_append_left (by omega)]
     have := hu2 k (by omega)
     omega
   -- every one of the names is alive
   have hlive : ∀ (k : Nat) (hk : k < (upTo 0 pins ++ t).length),loc.m (upTo 0 pins ++ t)[k] ≠ .free := by
     intro k hk
     rcases hids2 _ (List.getElem_mem hk) with hi | hi
     · obtain ⟨j,hj,he⟩ := List.getElem_of_mem hi
       rw [← he,hu2 j hj]
       have hj' : j < pb.length := by omega
       rcases hB.2.2 j hj' with h1 | ⟨h1,_⟩
       · rw [Nat.zero_add,h1]; simp
       · rw [Nat.zero_add,h1]; simp
     · exact zdf x v hR hi
   have hblk : ∀ (k : Nat) (hk : k < (upTo 0 pins ++ t).length) (hk' : k < (spec xs pins).bl.length),BlkR w' loc (upTo 0 pins ++ t)[k] (spec xs pins).bl[k] := by
     intro k hk hk'
     refine hr.heap _ _ ?_
     rw [hpg k hk,List.getElem?_eq_getElem hk']
   have hdead : ∀ (k : Nat) (hk : k < (upTo 0 pins ++ t).length),loc.m (upTo 0 pins ++ t)[k] ≠ .dead := by
     intro k hk e
     have := hblk k hk (by omega)
     unfold BlkR at this
     rw [e] at this
     exact this
   let g : Nat → Nat := gOf (upTo 0 pins ++ t) σ.nx
   have hgo : ∀ k,(hk : k < (upTo 0 pins ++ t).length) → g k = (upTo 0 pins ++ t)[k] := fun k hk => zei hk
   have hgn : ∀ k,(upTo 0 pins ++ t).length ≤ k → loc.m (g k) = .free := by
     intro k hk
     refine hr.fresh _ ?_
     show σ.nx ≤ gOf _ σ.nx k
     rw [zds hk]; omega
   let loc' : Loc := { m := fun k => loc.m (g k),bad := loc.bad }
   have hlt : ∀ i b,loc'.m i = .here b → i < (upTo 0 pins ++ t).length := by
     intro i b hi
     rcases Nat.lt_or_ge i (upTo 0 pins ++ t).length with h' | h'
     · exact h'
     · have : loc'.m i = .free := hgn i h'
       rw [this] at hi; cases hi
   have hinj : ∀ i j b,loc'.m i = .here b → loc'.m j = .here b → i = j := by
     intro i j b hi hj
     have h1 := hlt i b hi
     have h2 := hlt j b hj
     have h3 : g i = g j := hr.env.inj (g i) (g j) b hi hj
     rw [hgo i h1,hgo j h2] at h3
     exact zcf hnd' h3
   have hpb : ∀ (k : Nat) (hk : k < pb.length),loc'.m k = .here pb[k] ∧ ∀ cur e fz,w.heap[pb[k]]? = some (.cells cur e fz) → ∃ cur' fz',w'.heap[pb[k]]? = some (.cells cur' e fz') ∧ cur'.size = cur.size := by
     intro k hk
     have hk1 : k < pins.length := by omega
     have e : loc'.m k = loc.m k := by
       show loc.m (g k) = loc.m k
       rw [hgo k (by omega),hold k hk1]
     rcases hB.2.2 k hk with h1 | ⟨h1,h2⟩
     · have := hdead k (by omega)
       rw [hold k hk1] at this
       exact (this h1).elim
     · exact ⟨e.trans h1,h2⟩
   refine ⟨loc',rfl,?_⟩
   refine ⟨unren (loc2 := loc') (g := g) (fun _ => rfl) rfl hR _ hren,hB.1.1,?_,fun k hk => (hpb k hk).1,?_,?_,hinj,?_⟩
   · intro k hk
     have hk' : k < (upTo 0 pins ++ t).length := by omega
     have e : loc'.m k = loc.m (upTo 0 pins ++ t)[k] := by show loc.m (g k) = _; rw [hgo k hk']
     refine ⟨?_,by rw [e]; exact hlive k hk',by rw [e]; exact hdead k hk'⟩
     have hb := hblk k hk' hk
     unfold BlkR at hb ⊢
     rw [e]
     split
     · trivial
     · rename_i e'; rw [e'] at hb; exact hb
     · rename_i e'; rw [e'] at hb; exact hb
     · rename_i b e'
       rw [e'] at hb
       refine ⟨hb.1,zfk hb.2 (closedB_get hpc k hk) (.inr ?_)⟩
       rintro c _ (h | ⟨i,h⟩)
       · exact .inl h
       · exact .inr ⟨g i,h⟩
   · intro k b hk hkb
     have := hr.env.lies (g k) b hkb
     refine ⟨?_,this.1⟩
     rcases this.2 with h' | h'
     · exact h'
     · obtain ⟨j,hj,he⟩ := List.getElem_of_mem h'
       have h1 := (hpb j hj).1
       rw [he] at h1
       have := hinj k j b hkb h1
       omega
   · intro k hk
     exact hgn k (by omega)
   · refine ⟨hr.env.os,hr.env.tape,hr.env.output,hr.env.size,hr.env.same,?_⟩
     rintro b cur e fz hb hh
     obtain ⟨j,hj,rfl⟩ := List.getElem_of_mem hb
     exact (hpb j hj).2 cur e fz hh
 rintro e a w' ⟨σ0,hr0,hq0⟩
 obtain ⟨σ,hwk,hq⟩ := hqp xs pins e σ0 hq0
 have hr := hwk _ _ _ _ _ hr0
 cases e with
 | normal => exact main a w' σ hr hq
 | ret => exact main a w' σ hr hq
 | _ => exact hq.elim
theorem fn_soundF {P : Program} {T : zac} {S : zag} {pl : Plan} (hm : P.follows .mixedOrders = true) (hT : TOk P T) (hS : Fns P S) {f : FuncId} {fn : Func} {c : Code} (hf : P.funcs[f]? = some fn) (hb : fn.body = some c) (hd : zcu T pl c = true) {spec : zal}
   (h : ∀ xs pins,(spec xs pins).p → closedB pins = true → pins.length ≤ 4 ∧ awpF S T pl c (EndsW T fn.results.toList pins (spec xs pins)) ⟨xs ++ List.replicate (fn.ntmps - xs.length) .junk,pinHeap 0 pins,4⟩) : zbb P f spec :=
 sound_gen0 hT hS hf hb (Qp := fun xs pins => EndsW T fn.results.toList pins (spec xs pins)) (fun _ _ _ _ h => h) (fun xs pins hp hc => ⟨(h xs pins hp hc).1,fun w0 E B a w hr => awpF_sound hm hT hS c _ _ _ _ hd (h xs pins hp hc).2 hr⟩)
def laterF (S : zag) (T : zac) (pl : Plan) (b : Code) (Q : Exit → ASt → Prop) : Exit → ASt → Prop := seqK (awpF S T pl b Q) Q
section rules
variable {S : zag} {T : zac} {pl : Plan} {Q : Exit → ASt → Prop} {σ : ASt}
theorem awpF_skip : awpF S T pl .skip Q σ = Q .normal σ := rfl
theorem awpF_label {l : Nat} : awpF S T pl (.label l) Q σ = Q .normal σ := rfl
theorem awpF_ret : awpF S T pl .ret Q σ = Q .ret σ := rfl
theorem awpF_exit {id : Nat} : awpF S T pl (.exit id) Q σ = Q (.exit id) σ := rfl
theorem awpF_region {id : Nat} {l : List Oper} {draw : Bool} : awpF S T pl (.region id l.toArray draw) Q σ = match pl id with
   | none => aops S T l σ.nx l σ.sl σ.H (regK (σ.nx + 8 * l.length) Q)
   | some p => zek S T l p σ.nx [] l σ.sl σ.H (regK (σ.nx + 8 * l.length) Q) := by
 simp [awpF]
theorem awpF_seq {a b : Code} : awpF S T pl (.seq a b) Q σ = awpF S T pl a (laterF S T pl b Q) σ := rfl
theorem awpF_block {id : Nat} {c : Code} : awpF S T pl (.block id c) Q σ = awpF S T pl c (blockK id Q) σ := rfl
theorem awpF_cond {c : Operand} {a b : Code} : awpF S T pl (.cond c a b) Q σ = match ev σ.sl c with
     | .w (.bool t) => csplit t (awpF S T pl a Q σ) (awpF S T pl b Q σ)
     | _ => False := rfl
theorem awpF_loopW {c : Code} (h : ALoop (awpF S T pl c) Q σ) : awpF S T pl (.loop c) Q σ := h
theorem zas {b : Code} : laterF S T pl b Q .normal σ = awpF S T pl b Q σ := rfl
theorem laterF_exit {b : Code} {id : Nat} : laterF S T pl b Q (.exit id) σ = Q (.exit id) σ := rfl
theorem laterF_ret {b : Code} : laterF S T pl b Q .ret σ = Q .ret σ := rfl
variable {ops r : List Oper} {o : Oper} {nm : Nat} {sl : List AV} {H : Heap} {Q' : List AV → Heap → Prop} {pp : List (Nat × Nat)} {acc : List (Nat × List Nat)}
theorem aopsF_nil : zek S T ops pp nm acc [] sl H Q' = (memOk pp acc = true ∧ Q' sl H) := rfl
theorem aopsF_plain {dst : Option Tmp} {op : Op} {type : TypeId} {pos : String} {after : Array Edge} : zek S T ops pp nm acc (⟨dst,op,type,pos,after,none⟩ :: r) sl H Q' =
   ((aopF S T nm sl op H).p ∧ zek S T ops pp (nm + 8) (acc ++ [(nm,foot sl op H)]) r (zak sl dst (aopF S T nm sl op H).x) (aopF S T nm sl op H).H Q') := rfl
theorem aopsF_guard {dst : Option Tmp} {op : Op} {type : TypeId} {pos : String} {after : Array Edge} {j : Nat} {want : Bool} : zek S T ops pp nm acc (⟨dst,op,type,pos,after,some (j,want)⟩ :: r) sl H Q' =
   match guardSlot ops j with
     | none => False
     | some d => match slot sl d with
       | .w (.bool b) =>
         gsplit b want ((aopF S T nm (setSlot sl d (.w (.bool want))) op H).p ∧
           zek S T ops pp (nm + 8) (acc ++ [(nm,foot (setSlot sl d (.w (.bool want))) op H)]) r (zak (setSlot sl d (.w (.bool want))) dst (aopF S T nm (setSlot sl d (.w (.bool want))) op H).x) (aopF S T nm (setSlot sl d (.w (.bool want))) op H).H Q')
         (zek S T ops pp (nm + 8) (acc ++ [(nm,[])]) r (zak (setSlot sl d (.w (.bool !want))) dst (.tup [])) H Q')
       | .tup [] => zek S T ops pp (nm + 8) (acc ++ [(nm,[])]) r (zak sl dst (.tup [])) H Q'
       | _ => False := rfl
end rules
end Ax
end Go.Proofs.Ytnmomgcanfpigaa
namespace Go.Proofs.Ytnmomgcanfpigaa
open Ax
theorem evTP : (type_of% @awpF_skip) ∧
   (type_of% @awpF_label) ∧
   (type_of% @awpF_ret) ∧
   (type_of% @awpF_exit) ∧
   (type_of% @awpF_region) ∧
   (type_of% @awpF_seq) ∧
   (type_of% @awpF_block) ∧
   (type_of% @awpF_cond) ∧
   (type_of% @laterF_exit) ∧
   (type_of% @laterF_ret) ∧
   (type_of% @aopsF_nil) ∧
   (type_of% @aopsF_plain) ∧
   (type_of% @aopsF_guard) :=
 ⟨@awpF_skip,@awpF_label,@awpF_ret,@awpF_exit,@awpF_region,@awpF_seq,@awpF_block,@awpF_cond,@laterF_exit,@laterF_ret,@aopsF_nil,@aopsF_plain,@aopsF_guard⟩
theorem evDP : (type_of% @Ax.aopF.eq_1) ∧
   (type_of% @Ax.foot.eq_1) ∧
   (type_of% @Ax.footA.eq_1) ∧
   (type_of% @Ax.keepIn.eq_1) ∧
   (type_of% @Ax.keepIn.eq_2) ∧
   (type_of% @Ax.dropIn.eq_1) ∧
   (type_of% @Ax.dropIn.eq_2) ∧
   (type_of% @Ax.bids.eq_1) ∧
   (type_of% @Ax.bids.eq_2) ∧
   (type_of% @Ax.heldB.eq_1) ∧
   (type_of% @Ax.memOk.eq_1) ∧
   (type_of% @Ax.clearOf.eq_1) :=
 ⟨@Ax.aopF.eq_1,@Ax.foot.eq_1,@Ax.footA.eq_1,@Ax.keepIn.eq_1,@Ax.keepIn.eq_2,@Ax.dropIn.eq_1,@Ax.dropIn.eq_2,@Ax.bids.eq_1,@Ax.bids.eq_2,@Ax.heldB.eq_1,@Ax.memOk.eq_1,@Ax.clearOf.eq_1⟩
open Ax
attribute [go_sem] evDP evTP Blk.ids Op.operands Call.operands
end Go.Proofs.Ytnmomgcanfpigaa
namespace Go.Proofs.Ytnmomgcanfpigaa
open Ax
def chkC (g t : List UInt8) (i o : Int) : Int :=
 if g.length < 1 ∨ 20 < g.length ∨ t.length < 1 ∨ 32 < t.length then 6 else if i < 0 ∨ 8 ≤ i ∨ o < 0 ∨ 4611686018427387903 < o then 11 else 0
theorem zby (g t : List UInt8) (i o : Int) :
   (chkC g t i o = 6 ∧ (g.length < 1 ∨ 20 < g.length ∨ t.length < 1 ∨ 32 < t.length)) ∨
   (chkC g t i o = 11 ∧ ¬ (g.length < 1 ∨ 20 < g.length ∨ t.length < 1 ∨ 32 < t.length) ∧ (i < 0 ∨ 8 ≤ i ∨ o < 0 ∨ 4611686018427387903 < o)) ∨
   (chkC g t i o = 0 ∧ ¬ (g.length < 1 ∨ 20 < g.length ∨ t.length < 1 ∨ 32 < t.length) ∧ ¬ (i < 0 ∨ 8 ≤ i ∨ o < 0 ∨ 4611686018427387903 < o)) := by
 unfold chkC
 by_cases h1 : g.length < 1 ∨ 20 < g.length ∨ t.length < 1 ∨ 32 < t.length
 · exact .inl ⟨if_pos h1,h1⟩
 · by_cases h2 : i < 0 ∨ 8 ≤ i ∨ o < 0 ∨ 4611686018427387903 < o
   · exact .inr (.inl ⟨by rw [if_neg h1,if_pos h2],h1,h2⟩)
   · exact .inr (.inr ⟨by rw [if_neg h1,if_neg h2],h1,h2⟩)
def chkCS : zal
 | [.agg [.str g,.str t,.w (.int .i64 i),.w (.int .i64 o)]],[] => ⟨True,.w (.int .i64 (chkC g t i o)),[]⟩
 | _,_ => zbg
section
set_option maxRecDepth 100000
set_option maxHeartbeats 2000000 in
theorem check21_sound : zbb Try.prog 17 chkCS := by
 refine zaq (S := noS) (T := ty) zbf ty_ok zbs Try.func17 (c := Try.f17.body.getD .skip) (by kernel_rfl) (by kernel_rfl) (fun xs pins hp _ => ?_)
 unfold chkCS at hp ⊢
 split at hp
 · rename_i g t i o _
   refine ⟨by simp,?_⟩
   unfold Try.f17
   have hc := zby g t i o
   generalize chkC g t i o = X at *
   simp only [go_sem,coe,zaa,Nat.reduceAdd,Nat.reduceSub,Nat.reduceMul,Int.reduceToNat,reduceCtorEq,↓reduceIte,Int.reducePow,Nat.reducePow,Int.reduceMod,Nat.reduceLeDiff,Int.reduceLE,Int.reduceNe,Int.reduceEq,Nat.reduceEqDiff,Nat.reduceLT,Nat.reduceBEq,ty,noS,decide_eq_true_eq,decide_eq_false_iff_not]
   repeat' (first | (intro _) | (apply And.intro))
   all_goals omega
 · exact hp.elim
end
end Go.Proofs.Ytnmomgcanfpigaa
namespace Go.Proofs.Ytnmomgcanfpigaa
open Ax
def kyE (g t : List UInt8) (i o T : Int) : Int := if chkC g t i o = 0 then (if T < 0 ∨ 1099511627776 < T then 11 else 0) else chkC g t i o
def kyL (g t : List UInt8) (i : Int) : List UInt8 := (zfd g ++ zfd t) ++ [UInt8.ofNat i.toNat]
def zR21 : AV := .agg [.w (.int .i64 0),.w (.int .i64 0),.w (.bool false),.str [],.w (.bool false),.str []]
def kyA (g t : List UInt8) (i o T : Int) (d : Bool) (v : List UInt8) : AV :=
 .agg [.w (.int .i64 0),.w (.int .i64 (if kyE g t i o T = 0 then T else 0)),.w (.bool (if kyE g t i o T = 0 then true else false)),.str (if kyE g t i o T = 0 then kyL g t i else []),.w (.bool (if kyE g t i o T = 0 then d else false)),.str (if kyE g t i o T = 0 then v else [])]
theorem kyA_pos {g t : List UInt8} {i o T : Int} {d : Bool} {v : List UInt8} (h : kyE g t i o T = 0) : kyA g t i o T d v = .agg [.w (.int .i64 0),.w (.int .i64 T),.w (.bool true),.str (kyL g t i),.w (.bool d),.str v] := by
 unfold kyA; simp only [if_pos h]
theorem kyA_neg {g t : List UInt8} {i o T : Int} {d : Bool} {v : List UInt8} (h : ¬ kyE g t i o T = 0) : kyA g t i o T d v = zR21 := by
 unfold kyA; simp only [if_neg h]; rfl
def keyedS : zal
 | [.agg [.str g,.str t,.w (.int .i64 i),.w (.int .i64 o)],.w (.int k T)],[] => ⟨k = .i64,.tup [kyA g t i o T false [],.w (.int .i64 (kyE g t i o T))],[]⟩
 | _,_ => zbg
def put21S : zal
 | [.agg [.str g,.str t,.w (.int .i64 i),.w (.int .i64 o)],.w (.int k T)],[] => ⟨k = .i64,.tup [kyA g t i o T false (putU (zz o).toNat),.w (.int .i64 (kyE g t i o T))],[]⟩
 | _,_ => zbg
def gone21S : zal
 | [.agg [.str g,.str t,.w (.int .i64 i),.w (.int .i64 o)],.w (.int k T)],[] => ⟨k = .i64,.tup [kyA g t i o T true [],.w (.int .i64 (kyE g t i o T))],[]⟩
 | _,_ => zbg
def Sky21 (f : FuncId) : Option zal :=
 match f with
 | 17 => some chkCS
 | 54 => some textS
 | _ => none
theorem Sky21_ok : Fns Try.prog Sky21 := by
 intro f s h
 unfold Sky21 at h
 split at h
 · injection h with h; subst h; exact ⟨⟨_,Try.func17,by kernel_rfl,by kernel_rfl⟩,check21_sound⟩
 · injection h with h; subst h; exact ⟨⟨_,Try.func54,by kernel_rfl,by kernel_rfl⟩,text_sound⟩
 · cases h
section
set_option maxRecDepth 100000
set_option maxHeartbeats 4000000 in
theorem keyed_sound : zbb Try.prog 30 keyedS := by
 refine zaq (S := Sky21) (T := tyF) zbf tyF_ok Sky21_ok Try.func30 (c := Try.f30.body.getD .skip) (by kernel_rfl) (by kernel_rfl) (fun xs pins hp _ => ?_)
 unfold keyedS at hp ⊢
 split at hp
 · rename_i g t i o k T _
   obtain rfl : k = .i64 := hp
   refine ⟨by simp,?_⟩
   unfold Try.f30
   have hc := zby g t i o
   by_cases h0 : chkC g t i o = 0
   · have hb : ¬ (g.length < 1 ∨ 20 < g.length ∨ t.length < 1 ∨ 32 < t.length) ∧ ¬ (i < 0 ∨ 8 ≤ i ∨ o < 0 ∨ 4611686018427387903 < o) := by omega
     have g1 : g.length ≤ 1000000 := by omega
     have t1 : t.length ≤ 1000000 := by omega
     have lg := textL_length g (by omega)
     have lt := textL_length t (by omega)
     have i8 : i % 256 = i := by omega
     generalize hP : zfd g = P at *
     generalize hQ : zfd t = Q at *
     by_cases hT : T < 0
     · have d1 : decide (T < 0) = true := decide_eq_true hT
       have e1 : kyE g t i o T = 11 := by unfold kyE; rw [if_pos h0,if_pos (.inl hT)]
       simp only [go_sem,coe,zaa,Nat.reduceAdd,Nat.reduceSub,Nat.reduceMul,Int.reduceToNat,reduceCtorEq,↓reduceIte,Int.reducePow,Nat.reducePow,Int.reduceMod,Nat.reduceLeDiff,Int.reduceLE,Int.reduceNe,Int.reduceEq,Nat.reduceEqDiff,Nat.reduceLT,Nat.reduceBEq,tyF,setFlat,ty,Sky21,chkCS,textS,h0,d1,e1,kyA_neg (show ¬ kyE g t i o T = 0 by omega),zR21]
     · have d1 : decide (T < 0) = false := decide_eq_false hT
       by_cases hT2 : 1099511627776 < T
       · have d2 : decide (1099511627776 < T) = true := decide_eq_true hT2
         have e1 : kyE g t i o T = 11 := by unfold kyE; rw [if_pos h0,if_pos (.inr hT2)]
         simp only [go_sem,coe,zaa,Nat.reduceAdd,Nat.reduceSub,Nat.reduceMul,Int.reduceToNat,reduceCtorEq,↓reduceIte,Int.reducePow,Nat.reducePow,Int.reduceMod,Nat.reduceLeDiff,Int.reduceLE,Int.reduceNe,Int.reduceEq,Nat.reduceEqDiff,Nat.reduceLT,Nat.reduceBEq,tyF,setFlat,ty,Sky21,chkCS,textS,h0,d1,d2,e1,kyA_neg (show ¬ kyE g t i o T = 0 by omega),zR21]
       · have d2 : decide (1099511627776 < T) = false := decide_eq_false hT2
         have e1 : kyE g t i o T = 0 := by unfold kyE; rw [if_pos h0,if_neg (by omega)]
         simp only [go_sem,coe,zaa,Nat.reduceAdd,Nat.reduceSub,Nat.reduceMul,Int.reduceToNat,reduceCtorEq,↓reduceIte,Int.reducePow,Nat.reducePow,Int.reduceMod,Nat.reduceLeDiff,Int.reduceLE,Int.reduceNe,Int.reduceEq,Nat.reduceEqDiff,Nat.reduceLT,Nat.reduceBEq,tyF,setFlat,ty,Sky21,chkCS,textS,h0,d1,d2,e1,kyA_pos e1,zR21,g1,t1,hP,hQ,i8]
         have ht : top = 4294967296 := rfl
         rw [List.take_length]
         refine ⟨by omega,by omega,by omega,?_⟩
         rw [List.take_of_length_le (by simp [List.length_append]; omega)]
         simp only [kyL,hP,hQ]
   · have d0 : decide (chkC g t i o = 0) = false := decide_eq_false h0
     have e1 : kyE g t i o T = chkC g t i o := by unfold kyE; rw [if_neg h0]
     simp only [go_sem,coe,zaa,Nat.reduceAdd,Nat.reduceSub,Nat.reduceMul,Int.reduceToNat,reduceCtorEq,↓reduceIte,Int.reducePow,Nat.reducePow,Int.reduceMod,Nat.reduceLeDiff,Int.reduceLE,Int.reduceNe,Int.reduceEq,Nat.reduceEqDiff,Nat.reduceLT,Nat.reduceBEq,tyF,setFlat,ty,Sky21,chkCS,textS,d0,e1,kyA_neg (show ¬ kyE g t i o T = 0 by omega),zR21]
 · exact hp.elim
def Spt21 (f : FuncId) : Option zal :=
 match f with
 | 30 => some keyedS
 | 31 => some putS
 | _ => none
theorem Spt21_ok : Fns Try.prog Spt21 := by
 intro f s h
 unfold Spt21 at h
 split at h
 · injection h with h; subst h; exact ⟨⟨_,Try.func30,by kernel_rfl,by kernel_rfl⟩,keyed_sound⟩
 · injection h with h; subst h; exact ⟨⟨_,Try.func31,by kernel_rfl,by kernel_rfl⟩,put_sound⟩
 · cases h
theorem kyE0 {g t : List UInt8} {i o T : Int} (h : kyE g t i o T = 0) : chkC g t i o = 0 ∧ ¬ (T < 0 ∨ 1099511627776 < T) := by
 unfold kyE at h
 by_cases h0 : chkC g t i o = 0
 · rw [if_pos h0] at h
   refine ⟨h0,fun hT => ?_⟩
   rw [if_pos hT] at h
   omega
 · rw [if_neg h0] at h
   exact (h0 h).elim
set_option maxHeartbeats 4000000 in
theorem put21_sound : zbb Try.prog 10 put21S := by
 refine zaq (S := Spt21) (T := ty) zbf ty_ok Spt21_ok Try.func10 (c := Try.f10.body.getD .skip) (by kernel_rfl) (by kernel_rfl) (fun xs pins hp _ => ?_)
 unfold put21S at hp ⊢
 split at hp
 · rename_i g t i o k T _
   obtain rfl : k = .i64 := hp
   refine ⟨by simp,?_⟩
   unfold Try.f10
   by_cases h0 : kyE g t i o T = 0
   · have hc := zby g t i o
     have hk := kyE0 h0
     have ho : -9223372036854775808 ≤ o ∧ o ≤ 9223372036854775807 := by omega
     have l1 := zbq (zz o).toNat (by have := zz_range o ho.1 ho.2; omega)
     generalize hP : putU (zz o).toNat = P at *
     simp only [go_sem,coe,zaa,Nat.reduceAdd,Nat.reduceSub,Nat.reduceMul,Int.reduceToNat,reduceCtorEq,↓reduceIte,Int.reducePow,Nat.reducePow,Int.reduceMod,Nat.reduceLeDiff,Int.reduceLE,Int.reduceNe,Int.reduceEq,Nat.reduceEqDiff,Nat.reduceLT,Nat.reduceBEq,ty,Spt21,keyedS,putS,h0,kyA_pos h0,ho,hP,List.take_length]
     repeat' (first | (intro _) | (apply And.intro))
   · have d0 : decide (kyE g t i o T = 0) = false := decide_eq_false h0
     simp only [go_sem,coe,zaa,Nat.reduceAdd,Nat.reduceSub,Nat.reduceMul,Int.reduceToNat,reduceCtorEq,↓reduceIte,Int.reducePow,Nat.reducePow,Int.reduceMod,Nat.reduceLeDiff,Int.reduceLE,Int.reduceNe,Int.reduceEq,Nat.reduceEqDiff,Nat.reduceLT,Nat.reduceBEq,ty,Spt21,keyedS,putS,d0,kyA_neg h0,zR21]
 · exact hp.elim
set_option maxHeartbeats 4000000 in
theorem gone21_sound : zbb Try.prog 12 gone21S := by
 refine zaq (S := Spt21) (T := ty) zbf ty_ok Spt21_ok Try.func12 (c := Try.f12.body.getD .skip) (by kernel_rfl) (by kernel_rfl) (fun xs pins hp _ => ?_)
 unfold gone21S at hp ⊢
 split at hp
 · rename_i g t i o k T _
   obtain rfl : k = .i64 := hp
   refine ⟨by simp,?_⟩
   unfold Try.f12
   by_cases h0 : kyE g t i o T = 0
   · simp only [go_sem,coe,zaa,Nat.reduceAdd,Nat.reduceSub,Nat.reduceMul,Int.reduceToNat,reduceCtorEq,↓reduceIte,Int.reducePow,Nat.reducePow,Int.reduceMod,Nat.reduceLeDiff,Int.reduceLE,Int.reduceNe,Int.reduceEq,Nat.reduceEqDiff,Nat.reduceLT,Nat.reduceBEq,ty,Spt21,keyedS,h0,kyA_pos h0]
   · have d0 : decide (kyE g t i o T = 0) = false := decide_eq_false h0
     simp only [go_sem,coe,zaa,Nat.reduceAdd,Nat.reduceSub,Nat.reduceMul,Int.reduceToNat,reduceCtorEq,↓reduceIte,Int.reducePow,Nat.reducePow,Int.reduceMod,Nat.reduceLeDiff,Int.reduceLE,Int.reduceNe,Int.reduceEq,Nat.reduceEqDiff,Nat.reduceLT,Nat.reduceBEq,ty,Spt21,keyedS,d0,kyA_neg h0,zR21]
 · exact hp.elim
end
end Go.Proofs.Ytnmomgcanfpigaa
namespace Go.Proofs.Ytnmomgcanfpigaa
open Ax
def cG (key : List UInt8) : List UInt8 := rtS' 20 key 0
def cL1 (key : List UInt8) : List UInt8 := rtL 20 key 0
def cE1 (key : List UInt8) : Int := rtE 20 key 0
def cT (key : List UInt8) : List UInt8 := rtS' 32 (cL1 key) (cE1 key)
def cL2 (key : List UInt8) : List UInt8 := rtL 32 (cL1 key) (cE1 key)
def cE2 (key : List UInt8) : Int := rtE 32 (cL1 key) (cE1 key)
def cI (key : List UInt8) : Int := rfixN 1 (cL2 key) (cE2 key)
def cO (dd : Bool) (val : List UInt8) : Int := if dd then 0 else (getL val).1
def cV (dd : Bool) (val : List UInt8) : List UInt8 := if dd then [] else putU (zz (cO dd val)).toNat
def gcK (k : Bool) (key : List UInt8) (dd : Bool) (val : List UInt8) : Bool :=
 decide (kyE (cG key) (cT key) (cI key) (cO dd val) 0 = 0) && (k && (decide (kyL (cG key) (cT key) (cI key) = key) && decide (cV dd val = val)))
def gtCA (k : Bool) (key : List UInt8) (dd : Bool) (val : List UInt8) : AV :=
 .agg [.str (bif gcK k key dd val then cG key else []),.str (bif gcK k key dd val then cT key else []),.w (.int .i64 (bif gcK k key dd val then cI key else 0)),.w (.int .i64 (bif gcK k key dd val then cO dd val else 0))]
def get21S : zal
 | [.agg [.w (.int .i64 d),.w (.int .i64 t),.w (.bool k),.str key,.w (.bool dd),.str val]],[] => ⟨key.length ≤ 1000000 ∧ val.length ≤ 1000000,.tup [gtCA k key dd val,.w (.int .i64 (bif gcK k key dd val then 0 else 4))],[]⟩
 | _,_ => zbg
def Sgt21 (f : FuncId) : Option zal :=
 match f with
 | 33 => some newS
 | 34 => some rtextS'
 | 35 => some rfixS
 | 36 => some getS
 | 10 => some put21S
 | 12 => some gone21S
 | _ => none
theorem Sgt21_ok : Fns Try.prog Sgt21 := by
 intro f s h
 unfold Sgt21 at h
 split at h
 · injection h with h; subst h; exact ⟨⟨_,Try.func33,by kernel_rfl,by kernel_rfl⟩,new_sound⟩
 · injection h with h; subst h; exact ⟨⟨_,Try.func34,by kernel_rfl,by kernel_rfl⟩,mtext_sound⟩
 · injection h with h; subst h; exact ⟨⟨_,Try.func35,by kernel_rfl,by kernel_rfl⟩,mfixed_sound⟩
 · injection h with h; subst h; exact ⟨⟨_,Try.func36,by kernel_rfl,by kernel_rfl⟩,get_sound⟩
 · injection h with h; subst h; exact ⟨⟨_,Try.func10,by kernel_rfl,by kernel_rfl⟩,put21_sound⟩
 · injection h with h; subst h; exact ⟨⟨_,Try.func12,by kernel_rfl,by kernel_rfl⟩,gone21_sound⟩
 · cases h
section
set_option maxRecDepth 100000
set_option maxHeartbeats 8000000 in
theorem get21_sound : zbb Try.prog 14 get21S := by
 refine zaq (S := Sgt21) (T := ty) zbf ty_ok Sgt21_ok Try.func14 (c := Try.f14.body.getD .skip) (by kernel_rfl) (by kernel_rfl) (fun xs pins hp _ => ?_)
 unfold get21S at hp ⊢
 split at hp
 · rename_i d t k key dd val _
   obtain ⟨hk,hv⟩ := hp
   refine ⟨by simp,?_⟩
   have i1 : rtS' 20 key 0 = cG key := rfl
   have i2 : rtL 20 key 0 = cL1 key := rfl
   have i3 : rtE 20 key 0 = cE1 key := rfl
   have i4 : rtS' 32 (cL1 key) (cE1 key) = cT key := rfl
   have i5 : rtL 32 (cL1 key) (cE1 key) = cL2 key := rfl
   have i6 : rtE 32 (cL1 key) (cE1 key) = cE2 key := rfl
   have i7 : rfixN 1 (cL2 key) (cE2 key) = cI key := rfl
   have q1 : (cL1 key).length ≤ 1000000 := by have := rtL_length 20 key 0; unfold cL1; omega
   have q2 : (cL2 key).length ≤ 1000000 := by have := rtL_length 32 (cL1 key) (cE1 key); unfold cL2; omega
   have hr := rfix1 (cL2 key) (cE2 key)
   rw [i7] at hr
   have hw : (cI key + 9223372036854775808) % 18446744073709551616 - 9223372036854775808 = cI key := by omega
   unfold Try.f14
   cases dd
   · have o1 : (getL val).1 = cO false val := rfl
     have v1 : putU (zz (cO false val)).toNat = cV false val := rfl
     by_cases h0 : kyE (cG key) (cT key) (cI key) (cO false val) 0 = 0
     · simp only [go_sem,coe,zaa,Nat.reduceAdd,Nat.reduceSub,Nat.reduceMul,Int.reduceToNat,reduceCtorEq,↓reduceIte,Int.reducePow,Nat.reducePow,Int.reduceMod,Nat.reduceLeDiff,Int.reduceLE,Int.reduceNe,Int.reduceEq,Nat.reduceEqDiff,Nat.reduceLT,Nat.reduceBEq,ty,Sgt21,newS,rtextS',rfixS,getS,put21S,gone21S,rd,List.take_length,hk,hv,q1,q2,hw,i1,i2,i3,i4,i5,i6,i7,o1,v1,h0,kyA_pos h0]
       have hg : gcK k key false val = (true == k && (decide (kyL (cG key) (cT key) (cI key) = key) && decide (cV false val = val))) := by
         unfold gcK; rw [decide_eq_true h0]; cases k <;> rfl
       refine ⟨by omega,by omega,fun hb => ?_,fun hb => ?_⟩
       · have hg0 : gcK k key false val = false := by rw [hg]; simpa only [Bool.not_eq_true'] using hb
         unfold gtCA; rw [hg0]; rfl
       · have hg1 : gcK k key false val = true := by rw [hg]; simpa only [Bool.not_eq_false'] using hb
         unfold gtCA; rw [hg1]; rfl
     · have d0 : decide (kyE (cG key) (cT key) (cI key) (cO false val) 0 = 0) = false := decide_eq_false h0
       have hg0 : gcK k key false val = false := by unfold gcK; rw [d0]; rfl
       simp only [go_sem,coe,zaa,Nat.reduceAdd,Nat.reduceSub,Nat.reduceMul,Int.reduceToNat,reduceCtorEq,↓reduceIte,Int.reducePow,Nat.reducePow,Int.reduceMod,Nat.reduceLeDiff,Int.reduceLE,Int.reduceNe,Int.reduceEq,Nat.reduceEqDiff,Nat.reduceLT,Nat.reduceBEq,ty,Sgt21,newS,rtextS',rfixS,getS,put21S,gone21S,rd,List.take_length,hk,hv,q1,q2,hw,i1,i2,i3,i4,i5,i6,i7,o1,v1,d0,kyA_neg h0,zR21]
       refine ⟨by omega,by omega,?_⟩
       unfold gtCA; rw [hg0]; rfl
   · have o1 : (0 : Int) = cO true val := rfl
     have v1 : ([] : List UInt8) = cV true val := rfl
     by_cases h0 : kyE (cG key) (cT key) (cI key) 0 0 = 0
     · simp only [go_sem,coe,zaa,Nat.reduceAdd,Nat.reduceSub,Nat.reduceMul,Int.reduceToNat,reduceCtorEq,↓reduceIte,Int.reducePow,Nat.reducePow,Int.reduceMod,Nat.reduceLeDiff,Int.reduceLE,Int.reduceNe,Int.reduceEq,Nat.reduceEqDiff,Nat.reduceLT,Nat.reduceBEq,ty,Sgt21,newS,rtextS',rfixS,getS,put21S,gone21S,rd,List.take_length,hk,hv,q1,q2,hw,i1,i2,i3,i4,i5,i6,i7,h0,kyA_pos h0]
       have hg : gcK k key true val = (true == k && (decide (kyL (cG key) (cT key) (cI key) = key) && decide ([] = val))) := by
         show (decide (kyE (cG key) (cT key) (cI key) 0 0 = 0) && _) = _; rw [decide_eq_true h0]; cases k <;> rfl
       refine ⟨by omega,fun hb => ?_,fun hb => ?_⟩
       · have hg0 : gcK k key true val = false := by rw [hg]; simpa only [Bool.not_eq_true'] using hb
         unfold gtCA; rw [hg0]; rfl
       · have hg1 : gcK k key true val = true := by rw [hg]; simpa only [Bool.not_eq_false'] using hb
         unfold gtCA; rw [hg1]; rfl
     · have d0 : decide (kyE (cG key) (cT key) (cI key) 0 0 = 0) = false := decide_eq_false h0
       have hg0 : gcK k key true val = false := by show (decide (kyE (cG key) (cT key) (cI key) 0 0 = 0) && _) = _; rw [d0]; rfl
       simp only [go_sem,coe,zaa,Nat.reduceAdd,Nat.reduceSub,Nat.reduceMul,Int.reduceToNat,reduceCtorEq,↓reduceIte,Int.reducePow,Nat.reducePow,Int.reduceMod,Nat.reduceLeDiff,Int.reduceLE,Int.reduceNe,Int.reduceEq,Nat.reduceEqDiff,Nat.reduceLT,Nat.reduceBEq,ty,Sgt21,newS,rtextS',rfixS,getS,put21S,gone21S,rd,List.take_length,hk,hv,q1,q2,hw,i1,i2,i3,i4,i5,i6,i7,d0,kyA_neg h0,zR21]
       refine ⟨by omega,?_⟩
       unfold gtCA; rw [hg0]; rfl
 · exact hp.elim
end
end Go.Proofs.Ytnmomgcanfpigaa
namespace Go.Proofs.Ytnmomgcanfpigaa
open Ax Go.RowKit
def z21 : List Value := [.string ⟨#[]⟩,.string ⟨#[]⟩,.int .i64 0,.int .i64 0]
set_option maxRecDepth 100000 in
theorem und21 : Try.prog.underlying 48 = some (.slice 33) := by kernel_rfl
noncomputable def ti21 : TypeInfo := (Try.prog.info? 33).getD default
theorem inf21 : Try.prog.info? 33 = some ti21 := by kernel_rfl
theorem siz21 : ti21.size = 4 := by kernel_rfl
theorem zer21 : ti21.zero = some (.agg z21.toArray) := by kernel_rfl
theorem clr21 (W : World) (b cap : Nat) (h1 : ∀ j,j < 4 → (W.cell? ⟨b,j,none⟩).isSome = true) (h2 : ∀ j,j < 4 → W.frozen? ⟨b,j,none⟩ = false) (ty : TypeId) :
   (Builtin.clear_ #[48] ty #[.slice (some ⟨b,0,none⟩) 1 cap]).run Try.prog W = .ok (.tuple #[]) (W.setCells b 0 z21) := by
 have hz : ∀ w,(zeroValue 33).run Try.prog w = .ok (.agg z21.toArray) w := by
   intro w
   simp [zeroValue,typeInfo,inf21,zer21]
 have hst := run_storeCells_cells (P := Try.prog) b 0 z21 0 W (by simpa [z21] using h1) (by simpa [z21] using h2) (by intro v hv; simp [z21] at hv; rcases hv with rfl | rfl | rfl | rfl <;> rfl)
 simp only [Nat.add_zero] at hst
 have hzc : (Builtin.zeroCells (Value.agg z21.toArray).cells 1).toList = z21 := by
   simp [Builtin.zeroCells,z21,Value.cells]
   rfl
 simp [Builtin.clear_,run_underlying und21,hz,hzc,hst]
set_option maxHeartbeats 4000000 in
set_option maxRecDepth 1000000 in
theorem del1 (w : World) (b cap : Nat) (hc : ∀ j,j < 4 → (w.cell? ⟨b,j,none⟩).isSome = true) (hf : ∀ j,j < 4 → w.frozen? ⟨b,j,none⟩ = false) (hcap : 1 ≤ cap) (hm : cap ≤ maxLen) :
   Calls Try.prog 66 #[.slice (some ⟨b,0,none⟩) 1 cap,.int .i64 0,.int .i64 1] w fun r w' => r = .returned (.slice (some ⟨b,0,none⟩) 0 cap) ∧ w' = w.drew.setCells b 0 z21 := by
 unfold maxLen at hm
 have hcl : ∀ t c,(Builtin.clear_ #[48] t #[.slice (some ⟨b,0,none⟩) 1 c]).run Try.prog w.drew = .ok (.tuple #[]) (w.drew.setCells b 0 z21) := fun t c => clr21 w.drew b c hc hf t
 obtain ⟨A,hA⟩ : ∃ A : Addr,(if cap = 1 then some (⟨b,0,none⟩ : Addr) else some ⟨b,4,none⟩) = some A := by
   by_cases h : cap = 1
   · exact ⟨_,if_pos h⟩
   · exact ⟨_,if_neg h⟩
 go_enter Try.func66,Try.ntmps66
 have hset : ∀ o,w.drew.setCells b o [] = w.drew := fun o => rfl
 go_wp2_with fail
 go_region_law (refine step_append_room rfl (.tmp 22) (.tmp 25) 48 rfl 33 _ 4 und21 inf21 siz21 b 0 0 cap (by simp [Act.eval,Act.put]) A 0 (cap - 1) [] (by simp [Act.eval,Act.put,hA]) (by simp) (by simp) (by simp) (by omega) (by simp) ?_; rw [hset])
 go_wp2
 go_ret
 exact ⟨rfl,rfl⟩
end Go.Proofs.Ytnmomgcanfpigaa
namespace Go.Proofs.Ytnmomgcanfpigaa
namespace Ax
mutual
def AV.fi (id : Nat) (bs : List Int) : AV → AV
 | .agg xs => .agg (fiL id bs xs)
 | .tup xs => .tup (fiL id bs xs)
 | .fn f cs => .fn f (fiL id bs cs)
 | .ms k s off len => bif k == id then (bif s == 1 && decide (off + len ≤ bs.length) then .si ((bs.drop off).take len) false else .ms k s off len) else .ms k s off len
 | x => x
def fiL (id : Nat) (bs : List Int) : List AV → List AV
 | [] => []
 | x :: xs => x.fi id bs :: fiL id bs xs
end
theorem zfs (id : Nat) (bs : List Int) : ∀ (xs : List AV),(fiL id bs xs).length = xs.length ∧ ∀ (j : Nat) (h : j < (fiL id bs xs).length) (h' : j < xs.length),(fiL id bs xs)[j] = xs[j].fi id bs
 | [] => ⟨rfl,fun j h => by simp [fiL] at h⟩
 | x :: xs => by
   obtain ⟨h1,h2⟩ := zfs id bs xs
   refine ⟨by simp [fiL,h1],fun j h h' => ?_⟩
   cases j with
   | zero => rfl
   | succ j => exact h2 j (by simpa [fiL] using h) (by simpa using h')
theorem fi_leaf {id : Nat} {bs : List Int} {x : AV} (h : x.leaf = true) : (x.fi id bs).leaf = true := by
 cases x <;> first | exact h | (simp [AV.leaf] at h; done) | skip
 simp only [AV.fi]
 cases (_ == id) with
 | false => rfl
 | true =>
   simp only [cond_true]
   cases (_ && _ : Bool) <;> rfl
theorem fi_R {w : World} {loc : Loc} {id : Nat} {bs : List Int} (hor : (loc.m id = .nil ∧ bs = []) ∨ ∃ b,loc.m id = .here b ∧ b < w.heap.size ∧ Lies w loc (.i bs) b ∧ (∀ k,loc.m k = .here b → k = id) ∧ ¬ loc.bad b) {x : AV} {v : Value} (h : R w loc x v) : R w (loc.set id .dead) (x.fi id bs) v := by
 have hM : ∀ c,Mut (loc.set id .dead) c → Mut loc c := by
   rintro c (h | ⟨k,h⟩)
   · exact .inl h
   · by_cases hk : k = id
     · subst hk; rw [Loc.set_same] at h; cases h
     · rw [Loc.set_other _ _ hk] at h; exact .inr ⟨k,h⟩
 have hC : ∀ {a cs},Cells w loc a cs → Cells w (loc.set id .dead) a cs := fun h => h.move (fun b _ hm => hM b hm)
 induction h with
 | w v h => exact .w v h
 | str bs => exact .str bs
 | agg xs cs hl hx _ ih =>
   obtain ⟨h1,h2⟩ := zfs id bs xs
   refine .agg _ cs (by rw [h1,hl]) (fun j hj => ?_) (fun j a b => ?_)
   · rw [h2 j hj (by rw [← h1]; exact hj)]; exact fi_leaf (hx j _)
   · rw [h2 j a (by rw [← h1]; exact a)]; exact ih j _ b
 | tup xs cs hl _ ih =>
   obtain ⟨h1,h2⟩ := zfs id bs xs
   refine .tup _ cs (by rw [h1,hl]) (fun j a b => ?_)
   rw [h2 j a (by rw [← h1]; exact a)]; exact ih j _ b
 | sb bs full a cap hd hc => exact .sb bs full a cap hd (hC hc)
 | si ns full a cap hd hc => exact .si ns full a cap hd (hC hc)
 | sg s xs full a cap cs hd hs hc hl hx h _ => exact .sg s xs full a cap cs hd hs (hC hc) hl hx (fun j a b => (h j a b).move (fun b _ hm => hM b hm) (hx j a).2)
 | cp ls a cs hc hn hl hx h _ => exact .cp ls a cs (hC hc) hn hl hx (fun j a b => (h j a b).move (fun b _ hm => hM b hm) (hx j a).2)
 | ms k s off len v h =>
   have hkeep : R w (loc.set id .dead) (.ms k s off len) v := by
     refine .ms _ _ _ _ _ ?_
     by_cases hk : k = id
     · subst hk; unfold Owns; rw [Loc.set_same]; exact h.one
     · unfold Owns at h ⊢; rw [Loc.set_other _ _ hk]; exact h
   simp only [AV.fi]
   by_cases hk : k = id
   · subst hk
     simp only [beq_self_eq_true,cond_true]
     cases hc : (s == 1 && decide (off + len ≤ bs.length)) with
     | false => exact hkeep
     | true =>
       simp only [cond_true]
       simp only [Bool.and_eq_true,beq_iff_eq,decide_eq_true_eq] at hc
       obtain ⟨rfl,hle⟩ := hc
       have hlen : ((bs.drop off).take len).length = len := by simp; omega
       rcases hor with ⟨hb,rfl⟩ | ⟨b,hb,hlt,hl,hinj,hnb⟩
       · unfold Owns at h
         rw [hb] at h
         obtain ⟨rfl,a,rfl⟩ := h
         have := R.si (w := w) (loc := loc.set k .dead) (([] : List Int)) false a 0 ⟨Nat.le_refl _,Nat.zero_le _,fun h => by cases h⟩ ⟨.inl rfl⟩
         simpa using this
       unfold Owns at h
       rw [hb] at h
       obtain ⟨o,cap,cur,e,fz,rfl,ho,hh,hsz,hlc,htop⟩ := h
       have hcells : Cells w (loc.set k .dead) (some ⟨b,o,none⟩) (((bs.drop off).take len).map word) := by
         by_cases h0 : len = 0
         · subst h0; exact ⟨.inl (by simp)⟩
         refine ⟨.inr ⟨b,o,rfl,?_,hlt,fun j hj => ?_⟩⟩
         · rintro (h | ⟨i,h⟩)
           · exact hnb h
           · by_cases hk : i = k
             · subst hk; rw [Loc.set_same] at h; cases h
             · rw [Loc.set_other _ _ hk] at h; exact hk (hinj i h)
         · obtain ⟨cur',e',fz',hh',hf',hone',hfl',hr'⟩ := hl.lies
           rw [hh] at hh'; injection hh' with hh'; injection hh' with h1 h2 h3; subst h1
           have ho := ho (by omega)
           rw [Nat.mul_one] at ho
           rw [ho]
           have hj' : j < len := by simp at hj; omega
           have hfl : (Blk.flat (.i bs)).length = bs.length := by simp [Blk.flat]
           have hjs : off + j < cur.size := by omega
           have := (hr' (off + j) (by omega) hjs).2
           have e1 : (Blk.flat (.i bs))[off + j]'(by omega) = .w (word (bs[off + j]'(by omega))) := by simp [Blk.flat]
           rw [e1] at this
           have := this.wv
           have e2 : (((bs.drop off).take len).map word)[j] = word (bs[off + j]'(by omega)) := by simp
           rw [e2,← this]
           simp [World.cell?,hh,hjs]
       have := R.si (w := w) (loc := loc.set k .dead) ((bs.drop off).take len) false (some ⟨b,o,none⟩) cap ⟨by omega,htop,fun h => by cases h⟩ hcells
       rw [hlen] at this
       exact this
   · have : (k == id) = false := by simpa using hk
     rw [this]; exact hkeep
 | rf k s i f v h =>
   refine .rf _ _ _ _ _ ?_
   by_cases hk : k = id
   · subst hk; unfold Points; rw [Loc.set_same]; exact h.one
   · unfold Points at h ⊢; rw [Loc.set_other _ _ hk]; exact h
 | fn f caps cs hl _ ih =>
   obtain ⟨h1,h2⟩ := zfs id bs caps
   refine .fn f _ cs (by rw [h1,hl]) (fun j a b => ?_)
   rw [h2 j a (by rw [← h1]; exact a)]; exact ih j _ b
 | junk v => exact .junk v
def Blk.fi (id : Nat) (bs : List Int) : Blk → Blk
 | .g s xs => .g s (fiL id bs xs)
 | .b cs => .b cs
 | .i ns => .i ns
 | .o x => .o x
theorem odd_fi {id : Nat} {bs : List Int} {b : Blk} : (b.fi id bs).odd = b.odd := by cases b <;> rfl
theorem size_fi {id : Nat} {bs : List Int} {b : Blk} : (b.fi id bs).size = b.size := by cases b <;> rfl
def fiH (id : Nat) (bs : List Int) : Heap → Heap
 | [] => []
 | p :: r => bif p.1 == id then fiH id bs r else (p.1,p.2.fi id bs) :: fiH id bs r
theorem leaves_fi (id : Nat) (bs : List Int) (x : AV) : (x.fi id bs).leaves = fiL id bs x.leaves := by
 cases x <;> first | rfl | skip
 simp only [AV.fi,AV.leaves,fiL]
 cases (_ == id) with
 | false => rfl
 | true =>
   simp only [cond_true]
   cases (_ && _ : Bool) <;> rfl
theorem fiL_append (id : Nat) (bs : List Int) : ∀ (xs ys : List AV),fiL id bs (xs ++ ys) = fiL id bs xs ++ fiL id bs ys
 | [],_ => rfl
 | x :: xs,ys => by simp [fiL,fiL_append id bs xs ys]
theorem flat_fi (id : Nat) (bs : List Int) (b : Blk) : (b.fi id bs).flat = fiL id bs b.flat := by
 cases b with
 | b cs =>
   simp only [Blk.fi,Blk.flat]
   induction cs with
   | nil => rfl
   | cons c r ih => simp only [List.map_cons,fiL,AV.fi]; rw [← ih]
 | o x => rfl
 | i ns =>
   simp only [Blk.fi,Blk.flat]
   induction ns with
   | nil => rfl
   | cons c r ih => simp only [List.map_cons,fiL,AV.fi]; rw [← ih]
 | g s xs =>
   simp only [Blk.fi,Blk.flat]
   induction xs with
   | nil => rfl
   | cons c r ih => simp only [fiL,List.flatMap_cons,fiL_append]; rw [ih,leaves_fi]
theorem ok_fi {id : Nat} {bs : List Int} {b : Blk} (h : b.ok) : (b.fi id bs).ok := by
 cases b with
 | g s xs =>
   obtain ⟨h1,h2⟩ := h
   refine ⟨h1,fun x hx => ?_⟩
   obtain ⟨j,hj,rfl⟩ := List.getElem_of_mem hx
   obtain ⟨h3,h4⟩ := zfs id bs xs
   rw [h4 j hj (by rw [← h3]; exact hj),leaves_fi,(zfs id bs _).1]
   exact h2 _ (List.getElem_mem _)
 | _ => trivial
theorem len_fi {id : Nat} {bs : List Int} {b : Blk} : (b.fi id bs).len = b.len := by
 cases b with
 | g s xs => exact (zfs id bs xs).1
 | _ => rfl
theorem fiH_get {id : Nat} {bs : List Int} : ∀ {H : Heap} {k : Nat} {b : Blk},look (fiH id bs H) k = some b → k ≠ id ∧ ∃ c,look H k = some c ∧ b = c.fi id bs
 | [],k,b,h => by simp [fiH,look] at h
 | p :: r,k,b,h => by
   have e : look (p :: r) k = if p.1 = k then some p.2 else look r k := zao r p.1 k p.2
   unfold fiH at h
   by_cases hp : p.1 = id
   · have : (p.1 == id) = true := by simpa using hp
     rw [this] at h
     obtain ⟨h1,c,h2,h3⟩ := fiH_get h
     exact ⟨h1,c,by rw [e,if_neg (by omega)]; exact h2,h3⟩
   · have : (p.1 == id) = false := by simpa using hp
     rw [this] at h
     have e2 : look ((p.1,p.2.fi id bs) :: fiH id bs r) k = if p.1 = k then some (p.2.fi id bs) else look (fiH id bs r) k := zao (fiH id bs r) p.1 k _
     simp only [cond_false] at h
     rw [e2] at h
     split at h
     · rename_i hk
       injection h with h
       exact ⟨by omega,p.2,by rw [e,if_pos hk],h.symm⟩
     · rename_i hk
       obtain ⟨h1,c,h2,h3⟩ := fiH_get h
       exact ⟨h1,c,by rw [e,if_neg hk]; exact h2,h3⟩
theorem slot_fiL {id : Nat} {bs : List Int} : ∀ (sl : List AV) (t : Nat),slot (fiL id bs sl) t = (slot sl t).fi id bs
 | [],t => rfl
 | x :: xs,0 => rfl
 | x :: xs,t + 1 => slot_fiL xs t
theorem rel_fi {w0 : World} {E : Nat → Prop} {B : Bs} {w : World} {loc : Loc} {a : Act} {sl : List AV} {H : Heap} {nx : Nat} (id : Nat) (bs : List Int) (hl : look H id = some (.i bs)) (hB : Base w0 B w loc) (hr : Rel' w0 E loc ⟨sl,H,nx⟩ a w) (hlive : loc.m id ≠ .free) : Rel w0 E B ⟨fiL id bs sl,fiH id bs H,nx⟩ a w := by
 have hblk := hr.heap id _ hl
 have hor : (loc.m id = .nil ∧ bs = []) ∨ ∃ b,loc.m id = .here b ∧ b < w.heap.size ∧ Lies w loc (.i bs) b ∧ (∀ k,loc.m k = .here b → k = id) ∧ ¬ loc.bad b := by
   unfold BlkR at hblk
   cases e : loc.m id with
   | free => exact (hlive e).elim
   | dead => rw [e] at hblk; exact hblk.elim
   | nil => rw [e] at hblk; exact .inl ⟨rfl,List.eq_nil_of_length_eq_zero hblk.2⟩
   | here b =>
     rw [e] at hblk
     have h1 := hr.env.lies id b e
     refine .inr ⟨b,rfl,h1.1,hblk.2,fun k hk => hr.env.inj k id b hk e,fun hb => ?_⟩
     have h2 := hr.env.bad b hb
     rcases h1.2 with h3 | h3
     · omega
     · exact h2.2 h3
 have hset : ∀ {k c},(loc.set id .dead).m k = .here c → loc.m k = .here c := by
   intro k c h
   by_cases hk : k = id
   · subst hk; rw [Loc.set_same] at h; cases h
   · rwa [Loc.set_other _ _ hk] at h
 refine ⟨loc.set id .dead,⟨hB.1,hB.2.1,fun k hk => ?_⟩,⟨?_,fun t => ?_,?_,⟨hr.env.os,hr.env.tape,hr.env.output,hr.env.size,hr.env.same,fun i j b h1 h2 => hr.env.inj i j b (hset h1) (hset h2),fun i b h1 => hr.env.lies i b (hset h1),hr.env.bad⟩,?_,hr.defers,?_⟩⟩
 · by_cases hne : k = id
   · subst hne; left; rw [Loc.set_same]
   · rw [Loc.set_other _ _ hne]; exact hB.2.2 k hk
 · rw [hr.size]; exact ((zfs id bs sl).1).symm
 · simp only; rw [slot_fiL]; exact fi_R hor (hr.slots t)
 · intro k b hk
   obtain ⟨h1,c,h2,rfl⟩ := fiH_get hk
   have h3 := hr.heap k c h2
   unfold BlkR at h3 ⊢
   rw [Loc.set_other _ _ h1]
   split
   · trivial
   · rename_i e; rw [e] at h3; exact h3
   · rename_i e; rw [e] at h3; exact ⟨ok_fi h3.1,by rw [len_fi]; exact h3.2⟩
   · rename_i d e
     rw [e] at h3
     rcases zbd c with ⟨x,hx,rfl⟩ | hodd
     · exact ⟨ok_fi h3.1,.mkO (Thing.move (loc := loc) (fun c _ hM => hM.imp (fun h => h) (fun ⟨k,h⟩ => ⟨k,hset h⟩)) (h3.2.is hx)) rfl⟩
     obtain ⟨cur,el,fi,g1,g2,g3,g4,g5⟩ := h3.2.lies hodd
     have hlen : (c.fi id bs).flat.length = c.flat.length := by rw [flat_fi,(zfs id bs _).1]
     refine ⟨ok_fi h3.1,.mkC ⟨cur,el,fi,g1,by rw [size_fi]; exact g2,g3,by omega,fun j x y => ?_⟩ (odd_fi.trans hodd)⟩
     have h6 := g5 j (by omega) y
     have e : (c.fi id bs).flat[j] = (c.flat[j]'(by omega)).fi id bs := by
       have := (zfs id bs c.flat).2 j (by rw [(zfs id bs _).1]; omega) (by omega)
       rw [← this]
       congr 1
       exact flat_fi id bs c
     rw [e]
     exact ⟨fi_leaf h6.1,fi_R hor h6.2⟩
 · intro k hk
   by_cases hne : k = id
   · exact (hlive (hne ▸ hr.fresh k hk)).elim
   · rw [Loc.set_other _ _ hne]; exact hr.fresh k hk
 · intro k b hk
   obtain ⟨h1,c,h2,rfl⟩ := fiH_get hk
   exact hr.low k c h2
theorem weak_fi {sl : List AV} {H : Heap} {nx : Nat} (id i : Nat) (bs : List Int) (hl : look H id = some (.i bs)) (hi : id ∈ (slot sl i).ids) : Weak ⟨sl,H,nx⟩ ⟨fiL id bs sl,fiH id bs H,nx⟩ := by
 rintro w0 E B a w ⟨loc,hB,hr⟩
 exact rel_fi id bs hl hB hr (zdf _ _ (hr.slots i) hi)
end Ax
end Go.Proofs.Ytnmomgcanfpigaa
