/- What the proofs of this seat stand on; it asks nothing. -/
import Derived.Test.YthjceeimbohajaaYaa06
set_option linter.unusedSimpArgs false
set_option linter.unusedVariables false
namespace Go.Proofs.Ythjceeimbohajaa
namespace Ax
def Blk.ids : Blk → List Nat
 | .g _ xs => idsL xs
 | _ => []
def keepIn (F : List Nat) : Heap → Heap
 | [] => []
 | (k,b) :: r => bif F.contains k then (k,b) :: keepIn F r else keepIn F r
def dropIn (F : List Nat) : Heap → Heap
 | [] => []
 | (k,b) :: r => bif F.contains k then dropIn F r else (k,b) :: dropIn F r
def bids : Heap → List Nat
 | [] => []
 | (_,b) :: r => b.ids ++ bids r
def footA (sl : List AV) (op : Op) : List Nat := idsL (op.operands.toList.map (ev sl))
def foot (sl : List AV) (op : Op) (H : Heap) : List Nat := footA sl op ++ bids (keepIn (footA sl op) H)
def heldB (nm : Nat) (F : List Nat) (H : Heap) : Bool := F.all (fun id => bif (look H id).isSome then true else decide (id < nm)) && (bids (keepIn F H)).all F.contains
def aopF (S : zag) (T : zac) (nm : Nat) (sl : List AV) (op : Op) (H : Heap) : Out :=
 ⟨heldB nm (foot sl op H) H = true ∧ (aop S T nm sl op (keepIn (foot sl op H) H)).p,(aop S T nm sl op (keepIn (foot sl op H) H)).x,(aop S T nm sl op (keepIn (foot sl op H) H)).H ++ dropIn (foot sl op H) H⟩
theorem zek (A B : Heap) (id : Nat) : look (A ++ B) id = match look A id with | some b => some b | none => look B id := by
 induction A with
 | nil => rfl
 | cons p r ih =>
   obtain ⟨k,b⟩ := p
   simp only [List.cons_append,look]
   by_cases h : k = id
   · rw [if_pos h,if_pos h]
   · rw [if_neg h,if_neg h,ih]
theorem zcz (F : List Nat) (H : Heap) (id : Nat) : look (keepIn F H) id = if id ∈ F then look H id else none := by
 induction H with
 | nil => simp [keepIn,look]
 | cons p r ih =>
   obtain ⟨k,b⟩ := p
   by_cases hk : k ∈ F
   · simp only [keepIn,List.contains_iff_mem.2 hk,cond_true,look]
     by_cases h : k = id
     · subst h; simp [hk]
     · simp [h,ih]
   · have : F.contains k = false := by simpa using hk
     simp only [keepIn,this,cond_false,look,ih]
     by_cases h : k = id
     · subst h; simp [hk]
     · simp [h]
theorem zei (F : List Nat) (H : Heap) (id : Nat) : look (dropIn F H) id = if id ∈ F then none else look H id := by
 induction H with
 | nil => simp [dropIn,look]
 | cons p r ih =>
   obtain ⟨k,b⟩ := p
   by_cases hk : k ∈ F
   · simp only [dropIn,List.contains_iff_mem.2 hk,cond_true,look,ih]
     by_cases h : k = id
     · subst h; simp [hk]
     · simp [h]
   · have : F.contains k = false := by simpa using hk
     simp only [dropIn,this,cond_false,look]
     by_cases h : k = id
     · subst h; simp [hk]
     · simp [h,ih]
theorem mem_bids {H : Heap} {id : Nat} {b : Blk} (h : look H id = some b) {k : Nat} (hk : k ∈ b.ids) : k ∈ bids H := by
 induction H with
 | nil => simp [look] at h
 | cons p r ih =>
   obtain ⟨q,c⟩ := p
   simp only [look] at h
   simp only [bids,List.mem_append]
   split at h
   · injection h with h; subst h; exact .inl hk
   · exact .inr (ih h)
theorem leaves_ids : ∀ (x : AV) (k : Nat),k ∈ idsL x.leaves → k ∈ x.ids := by
 intro x k h
 cases x <;> simp [AV.leaves,AV.ids,idsL] at h ⊢ <;> first | exact h | skip
theorem idsL_append (xs ys : List AV) : idsL (xs ++ ys) = idsL xs ++ idsL ys := by
 induction xs with
 | nil => rfl
 | cons x r ih => simp [idsL,ih]
theorem flat_ids {b : Blk} {k : Nat} (h : k ∈ idsL b.flat) : k ∈ b.ids := by
 cases b with
 | o x => simp [Blk.flat,idsL] at h
 | b bs =>
   exfalso
   simp only [Blk.flat] at h
   induction bs with
   | nil => simp [idsL] at h
   | cons x r ih => simp [idsL,AV.ids] at h; exact ih (by simpa using h)
 | i ns =>
   exfalso
   simp only [Blk.flat] at h
   induction ns with
   | nil => simp [idsL] at h
   | cons x r ih => simp [idsL,AV.ids] at h; exact ih (by simpa using h)
 | g s xs =>
   simp only [Blk.flat,Blk.ids] at h ⊢
   induction xs with
   | nil => simp [idsL] at h
   | cons x r ih =>
     simp only [List.flatMap_cons,idsL_append,List.mem_append,idsL] at h ⊢
     exact h.imp (leaves_ids x k) ih
section
variable {S : zag} {T : zac} {nm : Nat} {sl : List AV} {op : Op} {H : Heap}
theorem held_in (h : heldB nm (foot sl op H) H = true) {id : Nat} (hF : id ∈ foot sl op H) : look H id ≠ none ∨ id < nm := by
 simp only [heldB,Bool.and_eq_true,List.all_eq_true] at h
 have := h.1 id hF
 by_cases e : look H id = none
 · rw [e] at this; exact .inr (by simpa using this)
 · exact .inl e
theorem aopF_facts (hp : (aopF S T nm sl op H).p) :
   (∀ id b,look (aopF S T nm sl op H).H id = some b → look H id ≠ none ∨ (nm ≤ id ∧ id < nm + 8)) ∧
   (∀ id,(zad T op ≤ 1 ∨ id ∉ foot sl op H) → ¬ (nm ≤ id ∧ id < nm + 8) → look (aopF S T nm sl op H).H id = look H id) ∧
   (zad T op = 0 → ∀ id,look (aopF S T nm sl op H).H id = look H id) := by
 obtain ⟨hh,hp⟩ := hp
 have hn := hnew_aop hp
 have hk := fun (h : zad T op ≤ 1) => hok_aop h hp
 have hz : zad T op = 0 → (aop S T nm sl op (keepIn (foot sl op H) H)).H = keepIn (foot sl op H) H := fun h => (pu_aop (H := keepIn (foot sl op H) H) h hp).2.2
 simp only [aopF]
 generalize foot sl op H = F at hh hp hn hk hz ⊢
 generalize aop S T nm sl op (keepIn F H) = out at hp hn hk hz ⊢
 refine ⟨fun id b h => ?_,fun id h hr => ?_,fun h id => ?_⟩
 · rw [zek] at h
   cases h1 : look out.H id with
   | some c =>
     rcases hn id c h1 with h2 | h2
     · rw [zcz] at h2
       split at h2
       · exact .inl h2
       · exact (h2 rfl).elim
     · exact .inr h2
   | none =>
     simp only [h1,zei] at h
     split at h
     · cases h
     · exact .inl (by rw [h]; simp)
 · rw [zek]
   by_cases hF : id ∈ F
   · have h := h.resolve_right (fun h => h hF)
     have h1 := hk h id hr
     rw [h1,zcz,if_pos hF,zei,if_pos hF]
     cases look H id <;> rfl
   · have h1 : look out.H id = none := by
       cases h1 : look out.H id with
       | none => rfl
       | some c =>
         rcases hn id c h1 with h2 | h2
         · rw [zcz,if_neg hF] at h2; exact (h2 rfl).elim
         · exact (hr h2).elim
     simp [h1,zei,hF]
 · rw [zek,hz h,zcz,zei]
   by_cases hF : id ∈ F
   · rw [if_pos hF,if_pos hF]
     cases look H id <;> rfl
   · rw [if_neg hF,if_neg hF]
theorem operand_ids {x : Operand} (hx : x ∈ op.operands.toList) {id : Nat} (h : id ∈ (ev sl x).ids) : id ∈ foot sl op H := by
 unfold foot footA
 refine List.mem_append_left _ ?_
 obtain ⟨j,hj,e⟩ := List.mem_iff_getElem.1 hx
 exact zdq j (by simpa using hj) (by simpa [e] using h)
theorem aopF_sound {P : Program} {w0 : World} {E : Nat → Prop} {w : World} {loc : Loc} (hT : TOk P T) (hS : Fns P S) (he : Env w0 E w loc) (hh : ∀ id b,id ∈ foot sl op H → look H id = some b → BlkR w loc id b) (hfree : ∀ id,nm ≤ id → id < nm + 8 → loc.m id = .free) {a : Act} {o : Oper} (ho : o.op = op)
   (hev : ∀ x ∈ op.operands.toList,R w loc (ev sl x) (a.eval x)) (hp : (aopF S T nm sl op H).p) (next : Act → World → Prop) (Q : Exit → Act → World → Prop)
   (hn : ∀ v w' loc' wr,Post w0 E w loc wr nm (aopF S T nm sl op H).x (aop S T nm sl op (keepIn (foot sl op H) H)).H v w' loc' → (∃ C : Nat → Prop,Ext C w loc w' loc' ∧ (zad T op ≤ 1 → ∀ id,¬ C id) ∧ ∀ id,C id → id ∈ foot sl op H) → next (a.put o.dst v) w') : o.wp P a w next Q := by
 subst ho
 obtain ⟨hheld,hp⟩ := hp
 have hheld' : ∀ k,k ∈ bids (keepIn (foot sl o.op H) H) → k ∈ foot sl o.op H := by
   intro k hk
   simp only [heldB,Bool.and_eq_true,List.all_eq_true] at hheld
   exact List.contains_iff_mem.1 (hheld.2 k hk)
 have hHR : HR w (loc.only (foot sl o.op H)) (keepIn (foot sl o.op H) H) := by
   intro id b hl
   have hl' := hl
   rw [zcz] at hl
   split at hl
   · rename_i hF
     exact (hh id b hF hl).only hF fun k hk => hheld' k (mem_bids hl' (flat_ids hk))
   · cases hl
 refine zdl hT hS he.only hHR (fun id h1 h2 => ?_) o (fun x hx => (hev x hx).only fun id hid => operand_ids hx hid) hp next Q (fun v w' loc' hpost => ?_)
 · by_cases hF : id ∈ foot sl o.op H
   · rw [zeu hF]; exact hfree id h1 h2
   · exact only_n hF
 · have hids : ∀ id b,look (aop S T nm sl o.op (keepIn (foot sl o.op H) H)).H id = some b → id ∈ foot sl o.op H ∨ (nm ≤ id ∧ id < nm + 8) := by
     intro id b hl
     rcases hnew_aop hp id b hl with h | h
     · rw [zcz] at h
       split at h
       · rename_i hF; exact .inl hF
       · exact (h rfl).elim
     · exact .inr h
   obtain ⟨h1,C,h2,h3,h4⟩ := Post.frame he hfree hids hpost
   exact hn v w' _ _ h1 ⟨C,h2,fun hk => h3 (kind_wr hk hp),h4⟩
end
end Ax
end Go.Proofs.Ythjceeimbohajaa
namespace Go.Proofs.Ythjceeimbohajaa
namespace Ax
def clashS (ops : List Oper) (x y : Oper) : Bool :=
 (match x.dst with
  | some d => (y.looksAt ops.toArray).contains d || y.dst == some d
  | none => false) ||
 (match y.dst with
  | some d => (x.looksAt ops.toArray).contains d
  | none => false)
def clashM (T : zac) (x y : Oper) : Bool :=
 (decide (zad T x.op = 2) && !decide (zad T y.op = 0)) || (decide (zad T y.op = 2) && !decide (zad T x.op = 0))
def drawOkF (T : zac) (ops : List Oper) (pl : List (Nat × Nat)) : Bool :=
 let ms := masks [] ops
 (List.range ops.length).all fun j => match ops[j]? with
   | some y => backB j y.after.toList && (List.range j).all fun i => match ops[i]? with
     | some x => (!clashS ops x y || (ms.getD j 0).testBit i) && (!clashM T x y || ((ms.getD j 0).testBit i || pl.contains (i,j)))
     | none => true
   | none => true
def clearOf (a b : Nat × List Nat) : Bool := b.2.all fun id => !a.2.contains id && (decide (id < a.1) || decide (a.1 + 8 ≤ id))
def memOk (pl : List (Nat × Nat)) (acc : List (Nat × List Nat)) : Bool := pl.all fun p => match acc[p.1]?,acc[p.2]? with
 | some a,some b => clearOf a b
 | _,_ => false
def aopsF (S : zag) (T : zac) (ops : List Oper) (pl : List (Nat × Nat)) (nm : Nat) (acc : List (Nat × List Nat)) : List Oper → List AV → Heap → (List AV → Heap → Prop) → Prop
 | [],sl,H,Q => memOk pl acc = true ∧ Q sl H
 | o :: r,sl,H,Q => match o.guard with
   | none => (aopF S T nm sl o.op H).p ∧ aopsF S T ops pl (nm + 8) (acc ++ [(nm,foot sl o.op H)]) r (zal sl o.dst (aopF S T nm sl o.op H).x) (aopF S T nm sl o.op H).H Q
   | some (j,want) => match guardSlot ops j with
     | none => False
     | some d => match slot sl d with
       | .w (.bool b) =>
         (b = want → (aopF S T nm (setSlot sl d (.w (.bool want))) o.op H).p ∧
           aopsF S T ops pl (nm + 8) (acc ++ [(nm,foot (setSlot sl d (.w (.bool want))) o.op H)]) r (zal (setSlot sl d (.w (.bool want))) o.dst (aopF S T nm (setSlot sl d (.w (.bool want))) o.op H).x) (aopF S T nm (setSlot sl d (.w (.bool want))) o.op H).H Q) ∧
         (b = !want → aopsF S T ops pl (nm + 8) (acc ++ [(nm,[])]) r (zal (setSlot sl d (.w (.bool !want))) o.dst (.tup [])) H Q)
       | .tup [] => aopsF S T ops pl (nm + 8) (acc ++ [(nm,[])]) r (zal sl o.dst (.tup [])) H Q
       | _ => False
def zcl (S : zag) (T : zac) (ops : List Oper) (nm : Nat) (o : Oper) (s : List AV × Heap) : Prop × (List AV × Heap) × List Nat :=
 match o.guard with
 | none => ((aopF S T nm s.1 o.op s.2).p,(zal s.1 o.dst (aopF S T nm s.1 o.op s.2).x,(aopF S T nm s.1 o.op s.2).H),foot s.1 o.op s.2)
 | some (j,want) => match guardSlot ops j with
   | none => (False,s,[])
   | some d => match slot s.1 d with
     | .w (.bool b) => if b = want then ((aopF S T nm s.1 o.op s.2).p,(zal s.1 o.dst (aopF S T nm s.1 o.op s.2).x,(aopF S T nm s.1 o.op s.2).H),foot s.1 o.op s.2) else (True,(zal s.1 o.dst (.tup []),s.2),[])
     | .tup [] => (True,(zal s.1 o.dst (.tup []),s.2),[])
     | _ => (False,s,[])
def zae (S : zag) (T : zac) (ops : List Oper) (nm : Nat) (s0 : List AV × Heap) : Nat → List AV × Heap
 | 0 => s0
 | k + 1 => match ops[k]? with
   | some o => (zcl S T ops (nm + 8 * k) o (zae S T ops nm s0 k)).2.1
   | none => zae S T ops nm s0 k
def ftF (S : zag) (T : zac) (ops : List Oper) (nm : Nat) (s0 : List AV × Heap) (j : Nat) : List Nat := match ops[j]? with
 | some o => (zcl S T ops (nm + 8 * j) o (zae S T ops nm s0 j)).2.2
 | none => []
theorem aopsF_trace {S : zag} {T : zac} {l : List Oper} {pl : List (Nat × Nat)} {nm : Nat} {s0 : List AV × Heap} {Q : List AV → Heap → Prop} : ∀ (r : List Oper) (k : Nat),(∀ j,r[j]? = l[k + j]?) → k + r.length = l.length →
   aopsF S T l pl (nm + 8 * k) ((List.range k).map fun j => (nm + 8 * j,ftF S T l nm s0 j)) r (zae S T l nm s0 k).1 (zae S T l nm s0 k).2 Q →
   (Q (zae S T l nm s0 l.length).1 (zae S T l nm s0 l.length).2 ∧ memOk pl ((List.range l.length).map fun j => (nm + 8 * j,ftF S T l nm s0 j)) = true) ∧ ∀ j o,k ≤ j → l[j]? = some o → (zcl S T l (nm + 8 * j) o (zae S T l nm s0 j)).1
 | [],k,hr,hl,h => by
   simp at hl
   subst hl
   refine ⟨⟨h.2,h.1⟩,fun j o hj ho => ?_⟩
   rw [List.getElem?_eq_none hj] at ho; cases ho
 | o :: r,k,hr,hl,h => by
   have ho : l[k]? = some o := by simpa using (hr 0).symm
   have hr' : ∀ j,r[j]? = l[k + 1 + j]? := fun j => by have := hr (j + 1); simpa [Nat.add_assoc,Nat.add_comm 1 j] using this
   have hl' : k + 1 + r.length = l.length := by simp at hl; omega
   have hmain : (zcl S T l (nm + 8 * k) o (zae S T l nm s0 k)).1 ∧ aopsF S T l pl (nm + 8 * (k + 1)) ((List.range (k + 1)).map fun j => (nm + 8 * j,ftF S T l nm s0 j)) r (zae S T l nm s0 (k + 1)).1 (zae S T l nm s0 (k + 1)).2 Q := by
     have e : zae S T l nm s0 (k + 1) = (zcl S T l (nm + 8 * k) o (zae S T l nm s0 k)).2.1 := by simp only [zae,ho]
     have e2 : ((List.range (k + 1)).map fun j => (nm + 8 * j,ftF S T l nm s0 j)) = ((List.range k).map fun j => (nm + 8 * j,ftF S T l nm s0 j)) ++ [(nm + 8 * k,(zcl S T l (nm + 8 * k) o (zae S T l nm s0 k)).2.2)] := by
       rw [List.range_succ,List.map_append]
       simp only [List.map_cons,List.map_nil,ftF,ho]
     rw [e,e2,show nm + 8 * (k + 1) = nm + 8 * k + 8 by omega]
     generalize ((List.range k).map fun j => (nm + 8 * j,ftF S T l nm s0 j)) = acc at h ⊢
     generalize zae S T l nm s0 k = s at h ⊢
     unfold aopsF at h
     unfold zcl
     cases hg : o.guard with
     | none => simp only [hg] at h ⊢; exact h
     | some g =>
       obtain ⟨j,want⟩ := g
       simp only [hg] at h ⊢
       cases hgs : guardSlot l j with
       | none => simp only [hgs] at h
       | some d =>
         simp only [hgs] at h ⊢
         split at h
         · rename_i b hsd
           try simp only [hsd]
           have hsame : ∀ b',b = b' → setSlot s.1 d (.w (.bool b')) = s.1 := by
             rintro b' rfl
             have := zer s.1 d
             rw [hsd] at this; exact this
           by_cases hbw : b = want
           · have h := h.1 hbw
             rw [hsame _ hbw] at h
             rw [if_pos hbw]; exact h
           · have hb2 : b = !want := by cases b <;> cases want <;> simp_all
             have h := h.2 hb2
             rw [hsame _ hb2] at h
             rw [if_neg hbw]; exact ⟨trivial,h⟩
         · rename_i hsd
           try simp only [hsd]
           exact ⟨trivial,h⟩
         · exact h.elim
   obtain ⟨h1,h2⟩ := aopsF_trace r (k + 1) hr' hl' hmain.2
   refine ⟨h1,fun j o' hj ho' => ?_⟩
   rcases Nat.lt_or_ge k j with h' | h'
   · exact h2 j o' h' ho'
   · obtain rfl : j = k := by omega
     rw [ho] at ho'; injection ho' with ho'; subst ho'
     exact hmain.1
section
variable {S : zag} {T : zac} {l : List Oper} {nm : Nat} {s0 : List AV × Heap}
theorem zca {k : Nat} {o : Oper} {s : List AV × Heap} (hp : (zcl S T l (nm + 8 * k) o s).1) :
   (∃ x,(zcl S T l (nm + 8 * k) o s).2.1.1 = zal s.1 o.dst x) ∧
   (∀ id b,look (zcl S T l (nm + 8 * k) o s).2.1.2 id = some b → look s.2 id ≠ none ∨ (nm + 8 * k ≤ id ∧ id < nm + 8 * k + 8)) ∧
   (∀ id,(zad T o.op ≤ 1 ∨ id ∉ (zcl S T l (nm + 8 * k) o s).2.2) → ¬ (nm + 8 * k ≤ id ∧ id < nm + 8 * k + 8) → look (zcl S T l (nm + 8 * k) o s).2.1.2 id = look s.2 id) ∧
   (zad T o.op = 0 → ∀ id,look (zcl S T l (nm + 8 * k) o s).2.1.2 id = look s.2 id) ∧
   (∀ id,id ∈ (zcl S T l (nm + 8 * k) o s).2.2 → look s.2 id ≠ none ∨ id < nm + 8 * k) := by
 have hheld : (aopF S T (nm + 8 * k) s.1 o.op s.2).p → ∀ id,id ∈ foot s.1 o.op s.2 → look s.2 id ≠ none ∨ id < nm + 8 * k := fun hp id hid => held_in hp.1 hid
 have hskip : ∀ id b,look s.2 id = some b → look s.2 id ≠ none ∨ (nm + 8 * k ≤ id ∧ id < nm + 8 * k + 8) := fun id b h => .inl (by rw [h]; simp)
 unfold zcl at hp ⊢
 cases hg : o.guard with
 | none =>
   simp only [hg] at hp ⊢
   obtain ⟨h1,h2,h3⟩ := aopF_facts hp
   exact ⟨⟨_,rfl⟩,h1,h2,h3,hheld hp⟩
 | some g =>
   obtain ⟨j,want⟩ := g
   simp only [hg] at hp ⊢
   cases hgs : guardSlot l j with
   | none => simp [hgs] at hp
   | some d =>
     simp only [hgs] at hp ⊢
     cases hsd : slot s.1 d with
     | w v =>
       cases v with
       | bool b =>
         simp only [hsd] at hp ⊢
         by_cases hbw : b = want
         · rw [if_pos hbw] at hp ⊢
           obtain ⟨h1,h2,h3⟩ := aopF_facts hp
           exact ⟨⟨_,rfl⟩,h1,h2,h3,hheld hp⟩
         · rw [if_neg hbw] at hp ⊢
           exact ⟨⟨_,rfl⟩,hskip,fun _ _ _ => by first | rfl | trivial,fun _ _ => by first | rfl | trivial,fun id h => by simp at h⟩
       | _ => simp [hsd] at hp
     | tup xs =>
       cases xs with
       | nil =>
         simp only [hsd] at hp ⊢
         exact ⟨⟨_,rfl⟩,hskip,fun _ _ _ => by first | rfl | trivial,fun _ _ => by first | rfl | trivial,fun id h => by simp at h⟩
       | cons _ _ => simp [hsd] at hp
     | _ => simp [hsd] at hp
variable (hst : ∀ j o,l[j]? = some o → (zcl S T l (nm + 8 * j) o (zae S T l nm s0 j)).1)
include hst
theorem traceF_length (k : Nat) : (zae S T l nm s0 k).1.length = s0.1.length := by
 induction k with
 | zero => rfl
 | succ k ih =>
   simp only [zae]
   split
   · rename_i o ho
     obtain ⟨⟨x,hx⟩,_⟩ := zca (hst k o ho)
     rw [hx,zez,ih]
   · exact ih
theorem traceF_slot {t : Tmp} {i k : Nat} (hik : i ≤ k) (h : ∀ j o,i ≤ j → j < k → l[j]? = some o → o.dst ≠ some t) : slot (zae S T l nm s0 k).1 t = slot (zae S T l nm s0 i).1 t := by
 induction k with
 | zero => obtain rfl : i = 0 := by omega
           rfl
 | succ k ih =>
   by_cases hk : i = k + 1
   · rw [hk]
   · rw [← ih (by omega) (fun j o h1 h2 h3 => h j o h1 (by omega) h3)]
     simp only [zae]
     split
     · rename_i o ho
       obtain ⟨⟨x,hx⟩,_⟩ := zca (hst k o ho)
       rw [hx]
       have := h k o (by omega) (by omega) ho
       cases hd : o.dst with
       | none => rfl
       | some d => exact zax (fun e => this (by rw [hd,e]))
     · rfl
theorem zct (h0 : ∀ id b,look s0.2 id = some b → id < nm) : ∀ k id b,look (zae S T l nm s0 k).2 id = some b → id < nm + 8 * k
 | 0,id,b,h => by simpa using h0 id b h
 | k + 1,id,b,h => by
   simp only [zae] at h
   split at h
   · rename_i o ho
     obtain ⟨_,hn,_⟩ := zca (hst k o ho)
     rcases hn id b h with h' | h'
     · cases h2 : look (zae S T l nm s0 k).2 id with
       | none => exact (h' h2).elim
       | some c => have := zct h0 k id c h2; omega
     · omega
   · have := zct h0 k id b h; omega
theorem traceF_back {id i k : Nat} (hik : i ≤ k) {b : Blk} (hl : look (zae S T l nm s0 k).2 id = some b) :
   look (zae S T l nm s0 i).2 id ≠ none ∨ ∃ j o,i ≤ j ∧ j < k ∧ l[j]? = some o ∧ zad T o.op ≠ 0 ∧ nm + 8 * j ≤ id ∧ id < nm + 8 * j + 8 := by
 induction k generalizing b with
 | zero => obtain rfl : i = 0 := by omega
           exact .inl (by rw [hl]; simp)
 | succ k ih =>
   by_cases hk : i = k + 1
   · subst hk; exact .inl (by rw [hl]; simp)
   · simp only [zae] at hl
     split at hl
     · rename_i o ho
       obtain ⟨_,hn,_,h0,_⟩ := zca (hst k o ho)
       by_cases hz : zad T o.op = 0
       · rw [h0 hz] at hl
         rcases ih (by omega) hl with h | ⟨j,o,h1,h2,h3⟩
         · exact .inl h
         · exact .inr ⟨j,o,h1,by omega,h3⟩
       rcases hn id b hl with h' | h'
       · cases h2 : look (zae S T l nm s0 k).2 id with
         | none => exact (h' h2).elim
         | some c =>
           rcases ih (by omega) h2 with h | ⟨j,o,h1,h2,h3⟩
           · exact .inl h
           · exact .inr ⟨j,o,h1,by omega,h3⟩
       · exact .inr ⟨k,o,by omega,by omega,ho,hz,h'⟩
     · rcases ih (by omega) hl with h | ⟨j,o,h1,h2,h3⟩
       · exact .inl h
       · exact .inr ⟨j,o,h1,by omega,h3⟩
theorem traceF_keep {id i k : Nat} (hik : i ≤ k) (hn : ∀ j o,i ≤ j → j < k → l[j]? = some o → (zad T o.op ≤ 1 ∨ id ∉ ftF S T l nm s0 j) ∧ (zad T o.op = 0 ∨ ¬ (nm + 8 * j ≤ id ∧ id < nm + 8 * j + 8))) :
   look (zae S T l nm s0 k).2 id = look (zae S T l nm s0 i).2 id := by
 induction k with
 | zero => obtain rfl : i = 0 := by omega
           rfl
 | succ k ih =>
   by_cases hk : i = k + 1
   · rw [hk]
   · rw [← ih (by omega) (fun j o h1 h2 h3 => hn j o h1 (by omega) h3)]
     simp only [zae]
     split
     · rename_i o ho
       obtain ⟨_,_,h1,h0,_⟩ := zca (hst k o ho)
       obtain ⟨h2,h3⟩ := hn k o (by omega) (by omega) ho
       rcases h3 with h3 | h3
       · rw [h0 h3]
       · refine h1 id ?_ h3
         simpa only [ftF,ho] using h2
     · rfl
end
section
variable {P : Program} {S : zag} {T : zac} {l : List Oper} {nm : Nat} {s0 : List AV × Heap} {w0 : World} {E : Nat → Prop} {B : Bs}
structure InvF (S : zag) (T : zac) (l : List Oper) (nm : Nat) (s0 : List AV × Heap) (w0 : World) (E : Nat → Prop) (B : Bs) (listed : Array Bool) (a : Act) (w : World) (loc : Loc) : Prop where
 sizel : listed.size = l.length
 size : a.tmps.size = s0.1.length
 slots : ∀ t k,k ≤ l.length → (∀ i o,l[i]? = some o → o.dst = some t → (Ls listed i ↔ i < k)) → R w loc (slot (zae S T l nm s0 k).1 t) (a.tmps.getD t undef)
 heap : ∀ id k,k ≤ l.length → (∀ i o,l[i]? = some o → zad T o.op = 2 → id ∈ ftF S T l nm s0 i → (Ls listed i ↔ i < k)) → ∀ b,look (zae S T l nm s0 k).2 id = some b → BlkR w loc id b
 closed : ∀ j o,l[j]? = some o → Ls listed j → ∀ e ∈ o.after.toList,Region.binds .any e = true → Ls listed e.on
 fresh : ∀ i,¬ Ls listed i → i < l.length → ∀ id,nm + 8 * i ≤ id → id < nm + 8 * i + 8 → loc.m id = .free
 high : ∀ id,nm + 8 * l.length ≤ id → loc.m id = .free
 env : Env w0 E w loc
 base : Base w0 B w loc
 defers : a.defers = []
structure GoodF (S : zag) (T : zac) (l : List Oper) (nm : Nat) (s0 : List AV × Heap) : Prop where
 back : ∀ j o,l[j]? = some o → ∀ e ∈ o.after.toList,Region.binds .any e = true → e.on < j
 clash : ∀ i j x y,i < j → l[i]? = some x → l[j]? = some y → clashS l x y = true → ((masks [] l).getD j 0).testBit i = true
 mem : ∀ i j x y,i < j → l[i]? = some x → l[j]? = some y → clashM T x y = true → ∀ id,id ∈ ftF S T l nm s0 j → id ∈ ftF S T l nm s0 i ∨ (nm + 8 * i ≤ id ∧ id < nm + 8 * i + 8) → ((masks [] l).getD j 0).testBit i = true
theorem goodF_of {pl : List (Nat × Nat)} (h : drawOkF T l pl = true) (hm : memOk pl ((List.range l.length).map fun j => (nm + 8 * j,ftF S T l nm s0 j)) = true) : GoodF S T l nm s0 := by
 unfold drawOkF at h
 have h := List.all_eq_true.1 h
 have hlt : ∀ {j : Nat} {o : Oper},l[j]? = some o → j < l.length := fun h => (List.getElem?_eq_some_iff.1 h).1
 have hboth : ∀ i j x y,i < j → l[i]? = some x → l[j]? = some y → (clashS l x y = true → ((masks [] l).getD j 0).testBit i = true) ∧ (clashM T x y = true → ((masks [] l).getD j 0).testBit i = true ∨ (i,j) ∈ pl) := by
   intro i j x y hij hx hy
   have := h j (List.mem_range.2 (hlt hy))
   simp only [hy,Bool.and_eq_true] at this
   have := List.all_eq_true.1 this.2 i (List.mem_range.2 hij)
   simp only [hx,Bool.and_eq_true,Bool.or_eq_true,Bool.not_eq_true',List.contains_iff_mem] at this
   refine ⟨fun hc => this.1.resolve_left (by rw [hc]; simp),fun hc => this.2.resolve_left (by rw [hc]; simp)⟩
 refine ⟨fun j o ho => ?_,fun i j x y hij hx hy hc => (hboth i j x y hij hx hy).1 hc,fun i j x y hij hx hy hc id hid hor => ?_⟩
 · have := h j (List.mem_range.2 (hlt ho))
   simp only [ho,Bool.and_eq_true] at this
   exact backB_get this.1
 · rcases (hboth i j x y hij hx hy).2 hc with h1 | h1
   · exact h1
   · exfalso
     have := List.all_eq_true.1 hm (i,j) h1
     simp only [List.getElem?_map,List.getElem?_range (hlt hx),List.getElem?_range (hlt hy),Option.map_some] at this
     simp only [clearOf,List.all_eq_true,Bool.and_eq_true,Bool.not_eq_true',Bool.or_eq_true,decide_eq_true_eq] at this
     obtain ⟨h2,h3⟩ := this id hid
     rcases hor with h4 | h4
     · rw [List.contains_iff_mem.2 h4] at h2; cases h2
     · omega
theorem clashS_dst {x y : Oper} {d : Tmp} (hd : x.dst = some d) (h : d ∈ y.looksAt l.toArray ∨ y.dst = some d) : clashS l x y = true := by
 unfold clashS
 rw [hd]
 rcases h with h | h
 · simp [h]
 · simp [h]
theorem clashS_look {x y : Oper} {d : Tmp} (hd : y.dst = some d) (h : d ∈ x.looksAt l.toArray) : clashS l x y = true := by
 unfold clashS
 rw [hd]
 simp [h]
theorem clashM_kind {x y : Oper} (h : (zad T x.op = 2 ∧ zad T y.op ≠ 0) ∨ (zad T y.op = 2 ∧ zad T x.op ≠ 0)) : clashM T x y = true := by
 unfold clashM
 rcases h with ⟨h1,h2⟩ | ⟨h1,h2⟩
 · simp [h1,h2]
 · simp [h1,h2]
variable {listed : Array Bool} {a : Act} {w : World} {loc : Loc} {i : Nat} {o : Oper}
theorem lookF_now (hg : GoodF S T l nm s0) (inv : InvF S T l nm s0 w0 E B listed a w loc) (ho : l[i]? = some o) (hnl : ¬ Ls listed i) (hrd : ∀ e ∈ o.after.toList,Region.binds .any e = true → Ls listed e.on) {t : Tmp} (ht : t ∈ o.looksAt l.toArray) :
   R w loc (slot (zae S T l nm s0 i).1 t) (a.tmps.getD t undef) := by
 have hlt : i < l.length := (List.getElem?_eq_some_iff.1 ho).1
 refine inv.slots t i (by omega) (fun j x hx hd => ⟨fun hl => ?_,fun hji => ?_⟩)
 · rcases Nat.lt_trichotomy j i with h | h | h
   · exact h
   · subst h; exact (hnl hl).elim
   · exact (hnl (zau hg.back inv.closed _ j i (Nat.lt_succ_self _) (hg.clash i j o x h ho hx (clashS_look hd ht)) x hx (inv.closed j x hx hl))).elim
 · exact zau hg.back inv.closed _ i j (Nat.lt_succ_self _) (hg.clash j i x o hji hx ho (clashS_dst hd (.inl ht))) o ho hrd
theorem heapF_now (hg : GoodF S T l nm s0) (inv : InvF S T l nm s0 w0 E B listed a w loc) (ho : l[i]? = some o) (hnl : ¬ Ls listed i) (hrd : ∀ e ∈ o.after.toList,Region.binds .any e = true → Ls listed e.on) (hk : zad T o.op ≠ 0) {id : Nat} {b : Blk}
   (hid : id ∈ ftF S T l nm s0 i) (hb : look (zae S T l nm s0 i).2 id = some b) : BlkR w loc id b := by
 have hlt : i < l.length := (List.getElem?_eq_some_iff.1 ho).1
 refine inv.heap id i (by omega) (fun j x hx hd hf => ⟨fun hl => ?_,fun hji => ?_⟩) b hb
 · rcases Nat.lt_trichotomy j i with h | h | h
   · exact h
   · subst h; exact (hnl hl).elim
   · exact (hnl (zau hg.back inv.closed _ j i (Nat.lt_succ_self _) (hg.mem i j o x h ho hx (clashM_kind (.inr ⟨hd,hk⟩)) id hf (.inl hid)) x hx (inv.closed j x hx hl))).elim
 · exact zau hg.back inv.closed _ i j (Nat.lt_succ_self _) (hg.mem j i x o hji hx ho (clashM_kind (.inl ⟨hd,hk⟩)) id hid (.inl hf)) o ho hrd
theorem advanceF (hg : GoodF S T l nm s0) (hst : ∀ j o,l[j]? = some o → (zcl S T l (nm + 8 * j) o (zae S T l nm s0 j)).1) (h0 : ∀ id b,look s0.2 id = some b → id < nm) (inv : InvF S T l nm s0 w0 E B listed a w loc) (ho : l[i]? = some o) (hnl : ¬ Ls listed i)
   (hrd : ∀ e ∈ o.after.toList,Region.binds .any e = true → Ls listed e.on) {x : AV} {v : Value} {w' : World} {loc' : Loc} {C : Nat → Prop}
   (hv : (zcl S T l (nm + 8 * i) o (zae S T l nm s0 i)).2.1.1 = zal (zae S T l nm s0 i).1 o.dst x) (hx : R w' loc' x v) (hE : Ext C w loc w' loc') (hC : zad T o.op ≤ 1 → ∀ id,¬ C id) (hCF : ∀ id,C id → id ∈ ftF S T l nm s0 i)
   (hfr : ∀ id,loc.m id = .free → loc'.m id ≠ .free → nm + 8 * i ≤ id ∧ id < nm + 8 * i + 8) (he : Env w0 E w' loc') (hb : Base w0 B w' loc')
   (hh : zad T o.op ≠ 0 → ∀ id b,id ∈ ftF S T l nm s0 i ∨ (nm + 8 * i ≤ id ∧ id < nm + 8 * i + 8) → look (zcl S T l (nm + 8 * i) o (zae S T l nm s0 i)).2.1.2 id = some b → BlkR w' loc' id b) :
   InvF S T l nm s0 w0 E B (listed.setIfInBounds i true) (a.put o.dst v) w' loc' := by
 have hlt : i < l.length := (List.getElem?_eq_some_iff.1 ho).1
 have his : i < listed.size := by rw [inv.sizel]; exact hlt
 have hls : ∀ j,Ls (listed.setIfInBounds i true) j ↔ j = i ∨ Ls listed j := fun j => ls_set his
 have htr : zae S T l nm s0 (i + 1) = (zcl S T l (nm + 8 * i) o (zae S T l nm s0 i)).2.1 := by simp only [zae,ho]
 have hfi : ftF S T l nm s0 i = (zcl S T l (nm + 8 * i) o (zae S T l nm s0 i)).2.2 := by simp only [ftF,ho]
 have hanc : ∀ j y,l[j]? = some y → i < j → Ls listed j → ((masks [] l).getD j 0).testBit i = true → False := fun j y hy hij hl hc =>
   hnl (zau hg.back inv.closed _ j i (Nat.lt_succ_self _) hc y hy (inv.closed j y hy hl))
 refine ⟨by simp [inv.sizel],?_,?_,?_,?_,?_,?_,he,hb,?_⟩
 · cases o.dst with
   | none => exact inv.size
   | some d => simp [Act.put,inv.size]
 · intro t k hk hq
   by_cases hd : o.dst = some t
   · have hik : i < k := (hq i o ho hd).1 ((hls i).2 (.inl rfl))
     have e1 : slot (zae S T l nm s0 k).1 t = slot (zae S T l nm s0 (i + 1)).1 t := by
       refine traceF_slot hst (by omega) (fun j y h1 h2 hy hyd => ?_)
       have := (hls j).1 ((hq j y hy hyd).2 h2)
       rcases this with h | h
       · omega
       · exact hanc j y hy (by omega) h (hg.clash i j o y (by omega) ho hy (clashS_dst hd (.inr hyd)))
     rw [e1,htr,hv,hd]
     simp only [zal]
     by_cases hts : t < (zae S T l nm s0 i).1.length
     · rw [zbe hts]
       have : (a.put (some t) v).tmps.getD t undef = v := by
         rw [traceF_length hst] at hts
         simp [Act.put,inv.size,hts]
       rw [this]; exact hx
     · rw [zcu (by rw [zak]; exact Nat.le_of_not_lt hts)]; exact .junk _
   · have h1 := inv.slots t k hk (fun j y hy hyd => by
       have hji : j ≠ i := by
         rintro rfl
         rw [ho] at hy; injection hy with hy; subst hy; exact hd hyd
       rw [← hq j y hy hyd,hls]
       simp [hji])
     have : (a.put o.dst v).tmps.getD t undef = a.tmps.getD t undef := by
       cases hdd : o.dst with
       | none => rfl
       | some d =>
         have hne : d ≠ t := fun e => hd (by rw [hdd,e])
         simp [Act.put,Array.getElem?_setIfInBounds_ne hne]
     rw [this]; exact h1.ext hE
 · intro id k hk hq b hl
   by_cases hf' : loc'.m id = .free
   · exact BlkR.free hf'
   by_cases h2 : zad T o.op = 2 ∧ id ∈ ftF S T l nm s0 i
   · have hik : i < k := (hq i o ho h2.1 h2.2).1 ((hls i).2 (.inl rfl))
     have hidl : id < nm + 8 * i := by
       have h3 := (zca (hst i o ho)).2.2.2.2 id (by rw [← hfi]; exact h2.2)
       cases h4 : look (zae S T l nm s0 i).2 id with
       | none => exact h3.resolve_left (fun h => h h4)
       | some c => exact zct hst h0 i id c h4
     have hno : ∀ j y,i + 1 ≤ j → j < k → l[j]? = some y → (zad T y.op ≤ 1 ∨ id ∉ ftF S T l nm s0 j) ∧ (zad T y.op = 0 ∨ ¬ (nm + 8 * j ≤ id ∧ id < nm + 8 * j + 8)) := by
       intro j y h3 h4 hy
       refine ⟨?_,.inr (by omega)⟩
       by_cases hyf : id ∈ ftF S T l nm s0 j
       · left
         have hle : zad T y.op ≤ 2 := zfa T y.op
         have hne : zad T y.op ≠ 2 := by
           intro hy2
           rcases (hls j).1 ((hq j y hy hy2 hyf).2 h4) with h | h
           · omega
           · exact hanc j y hy (by omega) h (hg.mem i j o y (by omega) ho hy (clashM_kind (.inl ⟨h2.1,by omega⟩)) id hyf (.inl h2.2))
         omega
       · exact .inr hyf
     rw [traceF_keep hst (by omega) hno,htr] at hl
     exact hh (by omega) id b (.inl h2.2) hl
   · have hold : BlkR w loc id b := inv.heap id k hk (fun j y hy hy2 hyf => by
       have hji : j ≠ i := by
         rintro rfl
         rw [ho] at hy; injection hy with hy; subst hy; exact h2 ⟨hy2,hyf⟩
       rw [← hq j y hy hy2 hyf,hls]
       simp [hji]) b hl
     by_cases hf : loc.m id = .free
     · have hr := hfr id hf hf'
       have hik : i < k := by
         rcases Nat.lt_or_ge i k with h | h
         · exact h
         · have := zct hst h0 k id b hl; omega
       by_cases hz : zad T o.op = 0
       · exfalso
         rcases traceF_back hst (i := i + 1) (by omega) hl with h | ⟨j,y,h3,_,_,_,h4,_⟩
         · rw [htr,(zca (hst i o ho)).2.2.2.1 hz] at h
           cases h5 : look (zae S T l nm s0 i).2 id with
           | none => exact h h5
           | some c => have := zct hst h0 i id c h5; omega
         · omega
       · have hno : ∀ j y,i + 1 ≤ j → j < k → l[j]? = some y → (zad T y.op ≤ 1 ∨ id ∉ ftF S T l nm s0 j) ∧ (zad T y.op = 0 ∨ ¬ (nm + 8 * j ≤ id ∧ id < nm + 8 * j + 8)) := by
           intro j y h3 h4 hy
           refine ⟨?_,.inr (by omega)⟩
           by_cases hyf : id ∈ ftF S T l nm s0 j
           · left
             have hle2 : zad T y.op ≤ 2 := zfa T y.op
             have hne : zad T y.op ≠ 2 := by
               intro hy2
               rcases (hls j).1 ((hq j y hy hy2 hyf).2 h4) with h | h
               · omega
               · exact hanc j y hy (by omega) h (hg.mem i j o y (by omega) ho hy (clashM_kind (.inr ⟨hy2,hz⟩)) id hyf (.inr hr))
             omega
           · exact .inr hyf
         rw [traceF_keep hst (by omega) hno,htr] at hl
         exact hh hz id b (.inr hr) hl
     · refine hold.ext hE (fun hc => ?_) hf
       have hle : zad T o.op ≤ 2 := zfa T o.op
       by_cases hk1 : zad T o.op ≤ 1
       · exact hC hk1 id hc
       · exact h2 ⟨by omega,hCF id hc⟩
 · intro j y hy hl e hee hbe
   rw [hls]
   rcases (hls j).1 hl with h | h
   · subst h
     rw [ho] at hy; injection hy with hy; subst hy
     exact .inr (hrd e hee hbe)
   · exact .inr (inv.closed j y hy h e hee hbe)
 · intro j hj hjl id h1 h2
   rw [hls] at hj
   have hji : j ≠ i := fun e => hj (.inl e)
   have hf := inv.fresh j (fun h => hj (.inr h)) hjl id h1 h2
   by_cases hf' : loc'.m id = .free
   · exact hf'
   · have := hfr id hf hf'; omega
 · intro id h1
   have hf := inv.high id h1
   by_cases hf' : loc'.m id = .free
   · exact hf'
   · have := hfr id hf hf'; omega
 · rw [← inv.defers]
   cases o.dst <;> rfl
end
end Ax
end Go.Proofs.Ythjceeimbohajaa
namespace Go.Proofs.Ythjceeimbohajaa
namespace Ax
section
variable {P : Program} {S : zag} {T : zac} {l : List Oper} {nm : Nat} {s0 : List AV × Heap} {w0 : World} {E : Nat → Prop} {B : Bs}
theorem all_listedF (hg : GoodF S T l nm s0) {listed : Array Bool} (hsz : listed.size = l.length) (hr : Region.ready .any l.toArray listed = []) : ∀ n j,j < n → j < l.length → Ls listed j := by
 intro n
 induction n with
 | zero => intro j h; omega
 | succ n ih =>
   intro j hj hjl
   by_cases hl : Ls listed j
   · exact hl
   · exfalso
     have : j ∈ Region.ready .any l.toArray listed := by
       refine mem_ready.2 ⟨getD_in (by rw [hsz]; exact hjl) (by unfold Ls at hl; simpa using hl),l[j],by simp [hjl],fun e he hb => ?_⟩
       have hlt := hg.back j l[j] (List.getElem?_eq_getElem hjl) e (by simpa using he) hb
       exact ih e.on (by omega) (by omega)
     rw [hr] at this
     simp at this
theorem inv_wpAnyF (hT : TOk P T) (hS : Fns P S) (hg : GoodF S T l nm s0) (hst : ∀ j o,l[j]? = some o → (zcl S T l (nm + 8 * j) o (zae S T l nm s0 j)).1) (h0 : ∀ id b,look s0.2 id = some b → id < nm) {K : Exit → Act → World → Prop}
   (hK : ∀ listed a w loc,InvF S T l nm s0 w0 E B listed a w loc → (∀ j,j < l.length → Ls listed j) → K .normal a w) :
   ∀ (fuel : Nat) (listed : Array Bool) (a : Act) (w : World) (loc : Loc),InvF S T l nm s0 w0 E B listed a w loc → listed.toList.count false ≤ fuel → wpAny P .any l.toArray K fuel listed a w := by
 intro fuel
 induction fuel with
 | zero =>
   intro listed a w loc inv hc
   have hall : ∀ j,j < l.length → Ls listed j := by
     intro j hj
     have hj' : j < listed.size := by rw [inv.sizel]; exact hj
     have h1 : false ∉ listed.toList := by
       intro hm
       have := List.count_pos_iff.2 hm
       omega
     unfold Ls
     have h2 : listed[j] ≠ false := fun e => h1 (by rw [← e]; simp)
     simpa [hj'] using h2
   refine ⟨?_,hK listed a w loc inv hall⟩
   cases hr : Region.ready .any l.toArray listed with
   | nil => rfl
   | cons j r =>
     exfalso
     have hm : j ∈ Region.ready .any l.toArray listed := by rw [hr]; simp
     obtain ⟨h1,o,ho,_⟩ := mem_ready.1 hm
     have hjl : j < l.length := by
       have := (Array.getElem?_eq_some_iff.1 ho).1
       simpa using this
     have := hall j hjl
     unfold Ls at this
     rw [getD_both h1] at this
     cases this
 | succ fuel ih =>
   intro listed a w loc inv hc
   refine ⟨fun hr => hK listed a w loc inv (fun j hj => all_listedF hg inv.sizel hr _ j (Nat.lt_succ_self _) hj),fun i hi => ?_⟩
   obtain ⟨hnl1,o,ho',hrd'⟩ := mem_ready.1 hi
   have ho : l[i]? = some o := by simpa using ho'
   have hnl : ¬ Ls listed i := by unfold Ls; rw [getD_both hnl1]; simp
   have hrd : ∀ e ∈ o.after.toList,Region.binds .any e = true → Ls listed e.on := fun e he hb => hrd' e (by simpa using he) hb
   have hlt : i < l.length := (List.getElem?_eq_some_iff.1 ho).1
   have hc' : (listed.setIfInBounds i true).toList.count false ≤ fuel := by
     have := count_set listed.toList i (by simpa using hnl1)
     rw [Array.toList_setIfInBounds]
     omega
   have hlook := fun t ht => lookF_now hg inv ho hnl hrd (t := t) ht
   have hlow := zct hst h0 i
   have hev : ∀ x ∈ o.op.operands.toList,R w loc (ev (zae S T l nm s0 i).1 x) (a.eval x) := by
     intro x hx
     cases x with
     | tmp t => exact hlook t (by unfold Oper.looksAt; exact List.mem_append_left _ (List.mem_filterMap.2 ⟨.tmp t,hx,rfl⟩))
     | const v => exact ev_R (sl := []) (a := a) (fun t => .junk _) (.const v)
     | global g => exact .junk _
     | func f => exact ev_R (sl := []) (a := a) (fun t => .junk _) (.func f)
   have hstep := hst i o ho
   have hfi : ftF S T l nm s0 i = (zcl S T l (nm + 8 * i) o (zae S T l nm s0 i)).2.2 := by simp only [ftF,ho]
   have hadv := @advanceF S T l nm s0 w0 E B listed a w loc i o hg hst h0 inv ho hnl hrd
   have hheap := fun (hk : zad T o.op ≠ 0) id b => @heapF_now S T l nm s0 w0 E B listed a w loc i o hg inv ho hnl hrd hk id b
   rw [hfi] at hadv hheap
   -- the operation is done
   have hdo : (aopF S T (nm + 8 * i) (zae S T l nm s0 i).1 o.op (zae S T l nm s0 i).2).p →
       (zcl S T l (nm + 8 * i) o (zae S T l nm s0 i)).2.1 = (zal (zae S T l nm s0 i).1 o.dst (aopF S T (nm + 8 * i) (zae S T l nm s0 i).1 o.op (zae S T l nm s0 i).2).x,(aopF S T (nm + 8 * i) (zae S T l nm s0 i).1 o.op (zae S T l nm s0 i).2).H) →
       (zcl S T l (nm + 8 * i) o (zae S T l nm s0 i)).2.2 = foot (zae S T l nm s0 i).1 o.op (zae S T l nm s0 i).2 →
       o.wp P a w (wpAny P .any l.toArray K fuel (listed.setIfInBounds i true)) K := by
     intro hp hs hft
     have hfree : ∀ id,nm + 8 * i ≤ id → id < nm + 8 * i + 8 → loc.m id = .free := inv.fresh i hnl hlt
     rw [hft] at hadv hheap
     by_cases hk : zad T o.op = 0
     · obtain ⟨h1,h2,h3⟩ := pu_aop (H := keepIn (foot (zae S T l nm s0 i).1 o.op (zae S T l nm s0 i).2) (zae S T l nm s0 i).2) (S := S) (sl := (zae S T l nm s0 i).1) (nm := nm + 8 * i) hk hp.2
       refine zdl hT hS inv.env (H := []) (fun id b h => by simp [look] at h) hfree o hev h1 _ K (fun v w' loc' hpost => ?_)
       obtain ⟨C,hE,hC⟩ := hpost.ext
       have hC' := hC (kind_wr (H := []) (by omega) h1)
       refine ih _ _ _ loc' (hadv (x := _) (C := C) (by rw [hs]) ?_ hE (fun _ => hC') (fun id h => (hC' id h).elim) hpost.fresh hpost.env (inv.base.post hpost) (fun h => (h hk).elim)) hc'
       have := hpost.r
       rw [h2] at this; exact this
     · refine aopF_sound hT hS inv.env (fun id b hid hl => hheap hk id b hid hl) hfree rfl hev hp _ K (fun v w' loc' wr hpost hext => ?_)
       obtain ⟨C,hE,hC,hCF⟩ := hext
       refine ih _ _ _ loc' (hadv (x := _) (C := C) (by rw [hs]) hpost.r hE hC hCF hpost.fresh hpost.env (inv.base.post hpost) (fun _ id b hor hl => ?_)) hc'
       rw [hs] at hl
       simp only [aopF] at hl
       rw [zek] at hl
       cases h1 : look (aop S T (nm + 8 * i) (zae S T l nm s0 i).1 o.op (keepIn (foot (zae S T l nm s0 i).1 o.op (zae S T l nm s0 i).2) (zae S T l nm s0 i).2)).H id with
       | some c =>
         simp only [h1] at hl
         injection hl with hl
         subst hl
         exact hpost.h id c h1
       | none =>
         simp only [h1,zei] at hl
         split at hl
         · cases hl
         · rename_i hn
           rcases hor with h2 | h2
           · exact (hn h2).elim
           · have := hlow id b hl; omega
   unfold wpOp
   rw [ho']
   simp only
   cases hgd : o.guard with
   | none =>
     rw [if_pos (by simp [Region.wanted,hgd])]
     left
     refine hdo ?_ ?_ ?_
     · simpa [zcl,hgd] using hstep
     · simp [zcl,hgd]
     · simp [zcl,hgd]
   | some g =>
     obtain ⟨j,want⟩ := g
     simp only [zcl,hgd] at hstep hdo hadv
     cases hgs : guardSlot l j with
     | none => simp [hgs] at hstep
     | some d =>
       simp only [hgs] at hstep hdo hadv
       have hdl : d ∈ o.looksAt l.toArray := by
         unfold Oper.looksAt
         refine List.mem_append_right _ ?_
         rw [hgd]
         unfold guardSlot at hgs
         cases hj : l[j]? with
         | none => rw [hj] at hgs; cases hgs
         | some oj =>
           rw [hj] at hgs
           simp only at hgs
           simp [hj,hgs]
       have hval := hlook d hdl
       cases hsd : slot (zae S T l nm s0 i).1 d with
       | w u =>
         cases u with
         | bool b =>
           simp only [hsd] at hstep hdo hadv
           rw [hsd] at hval
           have hval := hval.wv
           have hdlt : d < a.tmps.size := by
             rw [inv.size,← traceF_length hst i]
             rcases Nat.lt_or_ge d (zae S T l nm s0 i).1.length with h' | h'
             · exact h'
             · rw [zcu h'] at hsd; cases hsd
           have hy := yielded_of (ops := l.toArray) (by simpa using hgs) hdlt hval
           have hw : (Region.wanted o (yielded l.toArray a.tmps) = true) ↔ b = want := by simp [Region.wanted,hgd,hy]
           by_cases hbw : b = want
           · rw [if_pos (hw.2 hbw)]
             rw [if_pos hbw] at hstep hdo
             exact .inl (hdo hstep rfl rfl)
           · rw [if_neg (fun h => hbw (hw.1 h))]
             simp only [if_neg hbw] at hadv
             refine ih _ _ _ loc (hadv (x := .tup []) (C := fun _ => False) rfl undef_R (Ext.refl w loc) (fun _ _ h => h) (fun _ h => h.elim) (fun id h h' => (h' h).elim) inv.env inv.base (fun hk id b hor hl => ?_)) hc'
             rcases hor with h2 | h2
             · simp at h2
             · have := hlow id b hl; omega
         | _ => simp [hsd] at hstep
       | tup xs =>
         cases xs with
         | nil =>
           simp only [hsd] at hadv
           rw [hsd] at hval
           rw [if_neg (by simp [Region.wanted,hgd,zeq (ops := l.toArray) (by simpa using hgs) (tup_R hval)])]
           refine ih _ _ _ loc (hadv (x := .tup []) (C := fun _ => False) rfl undef_R (Ext.refl w loc) (fun _ _ h => h) (fun _ h => h.elim) (fun id h h' => (h' h).elim) inv.env inv.base (fun hk id b hor hl => ?_)) hc'
           rcases hor with h2 | h2
           · simp at h2
           · have := hlow id b hl; omega
         | cons _ _ => simp [hsd] at hstep
       | _ => simp [hsd] at hstep
theorem drawF_sound (hT : TOk P T) (hS : Fns P S) (hm : P.follows .mixedOrders = true) {pl : List (Nat × Nat)} {K : Exit → Act → World → Prop} {Q : List AV → Heap → Prop} {sl : List AV} {H : Heap} {a : Act} {w : World} {loc : Loc} {id : Nat}
   (hd : drawOkF T l pl = true) (hK : ∀ sl H a w loc,Base w0 B w loc → Rel' w0 E loc ⟨sl,H,nm + 8 * l.length⟩ a w → Q sl H → K .normal a w) (hb : Base w0 B w loc)
   (hr : Rel' w0 E loc ⟨sl,H,nm⟩ a w) (h : aopsF S T l pl nm [] l sl H Q) : (Code.region id l.toArray true).wp P K a w := by
 obtain ⟨⟨hQ,hmem⟩,hst⟩ := aopsF_trace (S := S) (T := T) (nm := nm) (pl := pl) (Q := Q) (l := l) (s0 := (sl,H)) l 0 (fun j => by rw [Nat.zero_add]) (Nat.zero_add _) (by simpa [zae] using h)
 have hst' := fun j o ho => hst j o (Nat.zero_le _) ho
 have hg := goodF_of hd hmem
 refine wp_region_any hm ?_
 have hL : ∀ i,¬ Ls (Array.replicate l.toArray.size false) i := fun i h => by
   unfold Ls at h
   rw [getD_replicate_false] at h; cases h
 refine inv_wpAnyF hT hS hg hst' hr.low (w0 := w0) (E := E) (B := B) ?_ _ _ _ _ loc ?_ ?_
 · intro listed a w loc inv hall
   have hq : ∀ (i : Nat),i < l.length → (Ls listed i ↔ i < l.length) := fun i hi => ⟨fun _ => hi,fun _ => hall i hi⟩
   have hlt : ∀ {j : Nat} {o : Oper},l[j]? = some o → j < l.length := fun h => (List.getElem?_eq_some_iff.1 h).1
   refine hK _ _ a w loc inv.base ⟨?_,?_,?_,inv.env,inv.high,inv.defers,?_⟩ hQ
   · simp only; rw [traceF_length hst']; exact inv.size
   · exact fun t => inv.slots t _ (Nat.le_refl _) (fun i o ho _ => hq i (hlt ho))
   · exact fun id b hl => inv.heap id _ (Nat.le_refl _) (fun i o ho _ _ => hq i (hlt ho)) b hl
   · exact zct hst' hr.low l.length
 · have hbase : Base w0 B { w with drawn := w.drawn + 1 } loc := hb
   have hE : Ext (fun _ => False) w loc { w with drawn := w.drawn + 1 } loc := ⟨Nat.le_refl _,fun _ _ _ => rfl,fun _ _ _ => .inl rfl,fun _ _ h => ⟨rfl,h⟩,fun _ _ _ _ => rfl,fun _ cur _ fz h => ⟨cur,fz,h,rfl⟩⟩
   have hcl : ∀ {x v},R w loc x v → R { w with drawn := w.drawn + 1 } loc x v := fun h => h.ext hE
   refine ⟨by simp,hr.size,?_,?_,?_,?_,?_,⟨hr.env.os,hr.env.tape,hr.env.output,hr.env.size,hr.env.same,hr.env.inj,hr.env.lies,hr.env.bad⟩,hbase,hr.defers⟩
   · intro t k hk hq
     have e : slot (zae S T l nm (sl,H) k).1 t = slot sl t := by
       refine traceF_slot hst' (i := 0) (Nat.zero_le _) (fun j o _ hj ho hd => ?_)
       exact hL j ((hq j o ho hd).2 hj)
     rw [e]
     exact hcl (hr.slots t)
   · intro id k hk hq b hl
     by_cases hf : loc.m id = .free
     · exact BlkR.free hf
     · have hidn : id < nm := by
         rcases Nat.lt_or_ge id nm with h' | h'
         · exact h'
         · exact (hf (hr.fresh id h')).elim
       have e : look (zae S T l nm (sl,H) k).2 id = look H id := by
         refine traceF_keep hst' (i := 0) (Nat.zero_le _) (fun j o _ hj ho => ⟨?_,.inr (by omega)⟩)
         by_cases hid : id ∈ ftF S T l nm (sl,H) j
         · left
           have hle : zad T o.op ≤ 2 := zfa T o.op
           have hne : zad T o.op ≠ 2 := fun h2 => hL j ((hq j o ho h2 hid).2 hj)
           omega
         · exact .inr hid
       rw [e] at hl
       exact (hr.heap id b hl).ext hE (fun h => h) hf
   · intro j o ho hl; exact (hL j hl).elim
   · intro i _ hi id h1 h2; exact hr.fresh id (by simp only; omega)
   · intro id h1; exact hr.fresh id (by simp only; omega)
 · simp
end
end Ax
end Go.Proofs.Ythjceeimbohajaa
namespace Go.Proofs.Ythjceeimbohajaa
namespace Ax
open Go.RowKit
abbrev Plan := Nat → Option (List (Nat × Nat))
def zbz (T : zac) (pl : Plan) : Code → Bool
 | .region id ops draw => match pl id with
   | none => !draw || drawOk T ops.toList
   | some p => draw && drawOkF T ops.toList p
 | .seq a b => zbz T pl a && zbz T pl b
 | .cond _ a b => zbz T pl a && zbz T pl b
 | .block _ c => zbz T pl c
 | .loop c => zbz T pl c
 | _ => true
def awpF (S : zag) (T : zac) (pl : Plan) : Code → (Exit → ASt → Prop) → ASt → Prop
 | .skip,Q,σ => Q .normal σ
 | .label _,Q,σ => Q .normal σ
 | .region id ops _,Q,σ => match pl id with
   | none => aops S T ops.toList σ.nx ops.toList σ.sl σ.H (regK (σ.nx + 8 * ops.toList.length) Q)
   | some p => aopsF S T ops.toList p σ.nx [] ops.toList σ.sl σ.H (regK (σ.nx + 8 * ops.toList.length) Q)
 | .seq a b,Q,σ => awpF S T pl a (seqK (awpF S T pl b Q) Q) σ
 | .cond c a b,Q,σ => match ev σ.sl c with
     | .w (.bool t) => csplit t (awpF S T pl a Q σ) (awpF S T pl b Q σ)
     | _ => False
 | .block id c,Q,σ => awpF S T pl c (blockK id Q) σ
 | .loop c,Q,σ => ALoop (awpF S T pl c) Q σ
 | .exit id,Q,σ => Q (.exit id) σ
 | .ret,Q,σ => Q .ret σ
 | _,_,_ => False
open Classical in
theorem awpF_sound {P : Program} {w0 : World} {E : Nat → Prop} {T : zac} {S : zag} {pl : Plan} (hm : P.follows .mixedOrders = true) (hT : TOk P T) (hS : Fns P S) {B : Bs} : ∀ (c : Code) (Q : Exit → ASt → Prop) (σ : ASt) (a : Act) (w : World),
   zbz T pl c = true → awpF S T pl c Q σ → Rel w0 E B σ a w → c.wp P (Low w0 E B Q) a w := by
 intro c
 induction c with
 | skip => intro Q σ a w hdr h hr; exact wp_skip ⟨σ,hr,h⟩
 | label l => intro Q σ a w hdr h hr; exact wp_label ⟨σ,hr,h⟩
 | ret => intro Q σ a w hdr h hr; exact wp_ret ⟨σ,hr,h⟩
 | exit id => intro Q σ a w hdr h hr; exact wp_exit ⟨σ,hr,h⟩
 | region id ops draw =>
   intro Q σ a w hdr h hr
   obtain ⟨loc,hb,hr⟩ := hr
   obtain ⟨sl,H,nx⟩ := σ
   have hK : ∀ sl H a w loc,Base w0 B w loc → Rel' w0 E loc ⟨sl,H,nx + 8 * ops.toList.length⟩ a w → regK (nx + 8 * ops.toList.length) Q sl H → Low w0 E B Q .normal a w := fun sl H a w loc h1 h2 h3 => ⟨_,⟨loc,h1,h2⟩,h3⟩
   simp only [zbz] at hdr
   simp only [awpF] at h
   cases hp : pl id with
   | none =>
     simp only [hp] at hdr h
     cases draw with
     | false => exact wp_region_list (aops_sound hT hS hK ops.toList nx sl H a w loc rfl hb hr h)
     | true => exact draw_sound hT hS hm w0 E ops.toList _ _ B nx sl H a w loc id (by simpa using hdr) hK hb hr h
   | some p =>
     simp only [hp,Bool.and_eq_true] at hdr h
     obtain ⟨hd1,hd2⟩ := hdr
     subst hd1
     exact drawF_sound hT hS hm hd2 hK hb hr h
 | seq x y ihx ihy =>
   intro Q σ a w hdr h hr
   refine wp_seq (wp_mono (ihx _ σ a w (by simp only [zbz,Bool.and_eq_true] at hdr; exact hdr.1) h hr) ?_)
   rintro e a' w' ⟨σ',hr',hq⟩
   cases e with
   | normal => exact ihy Q σ' a' w' (by simp only [zbz,Bool.and_eq_true] at hdr; exact hdr.2) hq hr'
   | _ => exact ⟨σ',hr',hq⟩
 | cond c x y ihx ihy =>
   intro Q σ a w hdr h hr
   simp only [awpF,csplit] at h
   simp only [zbz,Bool.and_eq_true] at hdr
   obtain ⟨loc,hb,hr⟩ := hr
   split at h
   · rename_i t hc
     have hv := ev_R hr.slots c
     rw [hc] at hv
     have hv := hv.wv
     cases t with
     | true => exact wp_cond_true hv (ihx Q σ a w hdr.1 (h.1 rfl) ⟨loc,hb,hr⟩)
     | false => exact wp_cond_false hv (ihy Q σ a w hdr.2 (h.2 rfl) ⟨loc,hb,hr⟩)
   · exact h.elim
 | block id c ih =>
   intro Q σ a w hdr h hr
   refine wp_block (wp_mono (ih _ σ a w hdr h hr) ?_)
   rintro e a' w' ⟨σ',hr',hq⟩
   cases e with
   | exit id' =>
     simp only [blockK,Exit.inBlock] at hq ⊢
     split at hq
     · rename_i he; rw [if_pos he]; exact ⟨σ',hr',hq⟩
     · rename_i he; rw [if_neg he]; exact ⟨σ',hr',hq⟩
   | _ => exact ⟨σ',hr',hq⟩
 | loop c ih =>
   intro Q σ a w hdr h hr
   obtain ⟨I,⟨n0,σ0,hw0,hI0⟩,hround⟩ := h
   let p : Act → World → Nat → Prop := fun a w n => ∃ σ,Rel w0 E B σ a w ∧ I n σ
   have hleast : ∀ a w,(∃ n,p a w n) → ∃ m,p a w m ∧ ∀ k,p a w k → m ≤ k := fun a w ⟨n,hn⟩ => let ⟨m,h1,_,h3⟩ := least n hn; ⟨m,h1,h3⟩
   let μ : Act → World → Nat := fun a w => if h : ∃ n,p a w n then Classical.choose (hleast a w h) else 0
   refine wp_loop (fun a w => ∃ n,p a w n) μ ⟨n0,σ0,hw0 w0 E B a w hr,hI0⟩ ?_
   intro a w hex
   have hμ : μ a w = Classical.choose (hleast a w hex) := dif_pos hex
   obtain ⟨⟨σ1,hr1,hI1⟩,hmin⟩ := Classical.choose_spec (hleast a w hex)
   rw [← hμ] at hI1
   refine wp_mono (ih _ σ1 a w hdr (hround _ σ1 hI1) hr1) ?_
   rintro e a' w' ⟨σ',hr',hq⟩
   cases e with
   | normal =>
     obtain ⟨m,σ2,hlt,hw2,hI2⟩ := hq
     have hp : p a' w' m := ⟨σ2,hw2 w0 E B a' w' hr',hI2⟩
     refine ⟨⟨m,hp⟩,?_⟩
     have hμ' : μ a' w' = Classical.choose (hleast a' w' ⟨m,hp⟩) := dif_pos ⟨m,hp⟩
     have := (Classical.choose_spec (hleast a' w' ⟨m,hp⟩)).2 m hp
     rw [← hμ'] at this
     exact Nat.lt_of_le_of_lt this hlt
   | _ =>
     obtain ⟨σ2,hw2,hq⟩ := hq
     exact ⟨σ2,hw2 w0 E B a' w' hr',hq⟩
 | _ => intro Q σ a w hdr h hr; exact h.elim
theorem sound_gen0 {P : Program} {T : zac} {S : zag} (hT : TOk P T) (hS : Fns P S) {f : FuncId} {fn : Func} {c : Code} (hf : P.funcs[f]? = some fn) (hb : fn.body = some c) {spec : zat} {Qp : List AV → List Blk → Exit → ASt → Prop}
   (hqp : ∀ xs pins e σ,Qp xs pins e σ → ∃ σ',Weak σ σ' ∧ Ends T fn.results.toList pins (spec xs pins) e σ')
   (h : ∀ xs pins,(spec xs pins).p → closedB pins = true → pins.length ≤ 4 ∧ ∀ w0 E B a w,Rel w0 E B ⟨xs ++ List.replicate (fn.ntmps - xs.length) .junk,pinHeap 0 pins,4⟩ a w → c.wp P (Low w0 E B (Qp xs pins)) a w) : zbb P f spec := by
 intro xs pins hp hcl w bad pb vs hlen hnd hbad hlies hxl hx
 obtain ⟨hp4,h⟩ := h xs pins hp hcl
 refine calls_of_wp hf hb ?_
 have hrel : Rel w (· ∈ pb) ⟨bad,pb⟩ ⟨xs ++ List.replicate (fn.ntmps - xs.length) .junk,pinHeap 0 pins,4⟩ { tmps := vs.toArray ++ Array.replicate (fn.ntmps - vs.toArray.size) undef,defers := [] } w := by
   refine ⟨zbd pb bad,⟨⟨rfl,fun k hk cur e fz hh => ⟨cur,fz,hh,rfl⟩⟩,by simp only; omega,fun k hk => .inr ⟨by simp [zbd,List.getElem?_eq_getElem hk],fun cur e fz hh => ⟨cur,fz,hh,rfl⟩⟩⟩,?_⟩
   refine ⟨by simp [hxl],fun t => ?_,?_,?_,?_,rfl,fun id b hl => ?_⟩
   · simp only
     rw [zcn]
     by_cases ht : t < xs.length
     · have e1 : (xs ++ List.replicate (fn.ntmps - xs.length) AV.junk).getD t .junk = xs[t] := by simp [List.getElem?_append_left,ht]
       have e2 : (vs.toArray ++ Array.replicate (fn.ntmps - vs.toArray.size) undef).getD t undef = vs[t]'(by omega) := by
         have : t < vs.length := by omega
         simp [Array.getD_eq_getD_getElem?,Array.getElem?_append,this]
       rw [e1,e2]
       exact hx t ht _
     · have e1 : (xs ++ List.replicate (fn.ntmps - xs.length) AV.junk).getD t .junk = .junk := by
         rw [List.getD_eq_getElem?_getD,List.getElem?_append_right (by omega),List.getElem?_replicate]
         split <;> rfl
       rw [e1]; exact .junk _
   · intro id b hl
     obtain ⟨j,hj,rfl,rfl⟩ := zdf pins 0 id b hl
     have hj' : j < pb.length := by omega
     unfold BlkR
     have : (zbd pb bad).m (0 + j) = .here pb[j] := by simp [zbd,List.getElem?_eq_getElem hj']
     rw [this]
     exact hlies j hj hj'
   · refine ⟨rfl,rfl,rfl,Nat.le_refl _,fun _ _ _ => rfl,?_,?_,?_⟩
     · intro i j b hi hj
       obtain ⟨h1,h2⟩ := locOf_at hi
       obtain ⟨h3,h4⟩ := locOf_at hj
       exact zeh hnd (h2.trans h4.symm)
     · intro i b hi
       obtain ⟨h1,h2⟩ := locOf_at hi
       subst h2
       refine ⟨?_,.inr (List.getElem_mem h1)⟩
       obtain ⟨ob,hh⟩ := lies_live2 (hlies i (by omega) h1).2
       rcases Nat.lt_or_ge pb[i] w.heap.size with h' | h'
       · exact h'
       · rw [Array.getElem?_eq_none h'] at hh; cases hh
     · exact fun b hb => hbad b hb
   · intro id hid
     simp only at hid
     have : pb[id]? = none := List.getElem?_eq_none (by omega)
     simp [zbd,this]
   · obtain ⟨j,hj,rfl,_⟩ := zdf pins 0 id b hl
     simp; omega
 refine wp_mono (h _ _ _ _ w hrel) ?_
 have main : ∀ a w' σ,Rel w (· ∈ pb) ⟨bad,pb⟩ σ a w' → (rvals T σ.H σ.sl fn.results.toList).1 ∧ EndsX pins (spec xs pins) (rone (rvals T σ.H σ.sl fn.results.toList).2) σ →
     a.defers = [] ∧ ∃ v,(results fn a.tmps).run P w' = .ok v w' ∧ ∃ v' loc',Ending.returned v = .returned v' ∧ Gives w bad pb (spec xs pins) v' w' loc' := by
   rintro a w' σ ⟨loc,hB,hr⟩ ⟨hrv,hnodup,hpin,hbl,hren⟩
   obtain ⟨v,hv,hR⟩ := results_R (P := P) (fn := fn) hT hr.heap hr.slots hrv
   refine ⟨hr.defers,v,hv,v,?_⟩
   generalize rone (rvals T σ.H σ.sl fn.results.toList).2 = x at hnodup hpin hbl hren hR
   have hnd' := zfn hnodup
   obtain ⟨hids1,hids2⟩ := newIds_mem x.ids (upTo 0 pins)
   obtain ⟨hu1,hu2⟩ := upTo_get pins 0
   generalize hids : newIds (upTo 0 pins) x.ids = ids at hnodup hpin hbl hren hnd' hids1 hids2
   obtain ⟨hpl,hpc,hpg⟩ := zfk hpin
   rw [hbl] at hpl hpc hpg
   obtain ⟨t,rfl⟩ := hids1
   have hm : pins.length ≤ (upTo 0 pins ++ t).length := by simp [hu1]
   have hold : ∀ k,(hk : k < pins.length) → (upTo 0 pins ++ t)[k]'(by omega) = k := by
     intro k hk
     rw [List.getElem_append_left (by omega)]
     have := hu2 k (by omega)
     omega
   -- every one of the names is alive
   have hlive : ∀ (k : Nat) (hk : k < (upTo 0 pins ++ t).length),loc.m (upTo 0 pins ++ t)[k] ≠ .free := by
     intro k hk
     rcases hids2 _ (List.getElem_mem hk) with hi | hi
     · obtain ⟨j,hj,he⟩ := List.getElem_of_mem hi
       rw [← he,hu2 j hj]
       have hj' : j < pb.length := by omega
       rcases hB.2.2 j hj' with h1 | ⟨h1,_⟩
       · rw [Nat.zero_add,h1]; simp
       · rw [Nat.zero_add,h1]; simp
     · exact ids_live x v hR hi
   have hblk : ∀ (k : Nat) (hk : k < (upTo 0 pins ++ t).length) (hk' : k < (spec xs pins).bl.length),BlkR w' loc (upTo 0 pins ++ t)[k] (spec xs pins).bl[k] := by
     intro k hk hk'
     refine hr.heap _ _ ?_
     rw [hpg k hk,List.getElem?_eq_getElem hk']
   have hdead : ∀ (k : Nat) (hk : k < (upTo 0 pins ++ t).length),loc.m (upTo 0 pins ++ t)[k] ≠ .dead := by
     intro k hk e
     have := hblk k hk (by omega)
     unfold BlkR at this
     rw [e] at this
     exact this
   let g : Nat → Nat := gOf (upTo 0 pins ++ t) σ.nx
   have hgo : ∀ k,(hk : k < (upTo 0 pins ++ t).length) → g k = (upTo 0 pins ++ t)[k] := fun k hk => zfb hk
   have hgn : ∀ k,(upTo 0 pins ++ t).length ≤ k → loc.m (g k) = .free := by
     intro k hk
     refine hr.fresh _ ?_
     show σ.nx ≤ gOf _ σ.nx k
     rw [zem hk]; omega
   let loc' : Loc := { m := fun k => loc.m (g k),bad := loc.bad }
   have hlt : ∀ i b,loc'.m i = .here b → i < (upTo 0 pins ++ t).length := by
     intro i b hi
     rcases Nat.lt_or_ge i (upTo 0 pins ++ t).length with h' | h'
     · exact h'
     · have : loc'.m i = .free := hgn i h'
       rw [this] at hi; cases hi
   have hinj : ∀ i j b,loc'.m i = .here b → loc'.m j = .here b → i = j := by
     intro i j b hi hj
     have h1 := hlt i b hi
     have h2 := hlt j b hj
     have h3 : g i = g j := hr.env.inj (g i) (g j) b hi hj
     rw [hgo i h1,hgo j h2] at h3
     exact zeh hnd' h3
   have hpb : ∀ (k : Nat) (hk : k < pb.length),loc'.m k = .here pb[k] ∧ ∀ cur e fz,w.heap[pb[k]]? = some (.cells cur e fz) → ∃ cur' fz',w'.heap[pb[k]]? = some (.cells cur' e fz') ∧ cur'.size = cur.size := by
     intro k hk
     have hk1 : k < pins.length := by omega
     have e : loc'.m k = loc.m k := by
       show loc.m (g k) = loc.m k
       rw [hgo k (by omega),hold k hk1]
     rcases hB.2.2 k hk with h1 | ⟨h1,h2⟩
     · have := hdead k (by omega)
       rw [hold k hk1] at this
       exact (this h1).elim
     · exact ⟨e.trans h1,h2⟩
   refine ⟨loc',rfl,?_⟩
   refine ⟨unren (loc2 := loc') (g := g) (fun _ => rfl) rfl hR _ hren,hB.1.1,?_,fun k hk => (hpb k hk).1,?_,?_,hinj,?_⟩
   · intro k hk
     have hk' : k < (upTo 0 pins ++ t).length := by omega
     have e : loc'.m k = loc.m (upTo 0 pins ++ t)[k] := by show loc.m (g k) = _; rw [hgo k hk']
     refine ⟨?_,by rw [e]; exact hlive k hk',by rw [e]; exact hdead k hk'⟩
     have hb := hblk k hk' hk
     unfold BlkR at hb ⊢
     rw [e]
     split
     · trivial
     · rename_i e'; rw [e'] at hb; exact hb
     · rename_i e'; rw [e'] at hb; exact hb
     · rename_i b e'
       rw [e'] at hb
       refine ⟨hb.1,lies_move hb.2 (closedB_get hpc k hk) (.inr ?_)⟩
       rintro c _ (h | ⟨i,h⟩)
       · exact .inl h
       · exact .inr ⟨g i,h⟩
   · intro k b hk hkb
     have := hr.env.lies (g k) b hkb
     refine ⟨?_,this.1⟩
     rcases this.2 with h' | h'
     · exact h'
     · obtain ⟨j,hj,he⟩ := List.getElem_of_mem h'
       have h1 := (hpb j hj).1
       rw [he] at h1
       have := hinj k j b hkb h1
       omega
   · intro k hk
     exact hgn k (by omega)
   · refine ⟨hr.env.os,hr.env.tape,hr.env.output,hr.env.size,hr.env.same,?_⟩
     rintro b cur e fz hb hh
     obtain ⟨j,hj,rfl⟩ := List.getElem_of_mem hb
     exact (hpb j hj).2 cur e fz hh
 rintro e a w' ⟨σ0,hr0,hq0⟩
 obtain ⟨σ,hwk,hq⟩ := hqp xs pins e σ0 hq0
 have hr := hwk _ _ _ _ _ hr0
 cases e with
 | normal => exact main a w' σ hr hq
 | ret => exact main a w' σ hr hq
 | _ => exact hq.elim
theorem zdj {P : Program} {T : zac} {S : zag} {pl : Plan} (hm : P.follows .mixedOrders = true) (hT : TOk P T) (hS : Fns P S) {f : FuncId} {fn : Func} {c : Code} (hf : P.funcs[f]? = some fn) (hb : fn.body = some c) (hd : zbz T pl c = true) {spec : zat}
   (h : ∀ xs pins,(spec xs pins).p → closedB pins = true → pins.length ≤ 4 ∧ awpF S T pl c (EndsW T fn.results.toList pins (spec xs pins)) ⟨xs ++ List.replicate (fn.ntmps - xs.length) .junk,pinHeap 0 pins,4⟩) : zbb P f spec :=
 sound_gen0 hT hS hf hb (Qp := fun xs pins => EndsW T fn.results.toList pins (spec xs pins)) (fun _ _ _ _ h => h) (fun xs pins hp hc => ⟨(h xs pins hp hc).1,fun w0 E B a w hr => awpF_sound hm hT hS c _ _ _ _ hd (h xs pins hp hc).2 hr⟩)
def laterF (S : zag) (T : zac) (pl : Plan) (b : Code) (Q : Exit → ASt → Prop) : Exit → ASt → Prop := seqK (awpF S T pl b Q) Q
section rules
variable {S : zag} {T : zac} {pl : Plan} {Q : Exit → ASt → Prop} {σ : ASt}
theorem awpF_skip : awpF S T pl .skip Q σ = Q .normal σ := rfl
theorem awpF_label {l : Nat} : awpF S T pl (.label l) Q σ = Q .normal σ := rfl
theorem awpF_ret : awpF S T pl .ret Q σ = Q .ret σ := rfl
theorem awpF_exit {id : Nat} : awpF S T pl (.exit id) Q σ = Q (.exit id) σ := rfl
theorem awpF_region {id : Nat} {l : List Oper} {draw : Bool} : awpF S T pl (.region id l.toArray draw) Q σ = match pl id with
   | none => aops S T l σ.nx l σ.sl σ.H (regK (σ.nx + 8 * l.length) Q)
   | some p => aopsF S T l p σ.nx [] l σ.sl σ.H (regK (σ.nx + 8 * l.length) Q) := by
 simp [awpF]
theorem awpF_seq {a b : Code} : awpF S T pl (.seq a b) Q σ = awpF S T pl a (laterF S T pl b Q) σ := rfl
theorem awpF_block {id : Nat} {c : Code} : awpF S T pl (.block id c) Q σ = awpF S T pl c (blockK id Q) σ := rfl
theorem awpF_cond {c : Operand} {a b : Code} : awpF S T pl (.cond c a b) Q σ = match ev σ.sl c with
     | .w (.bool t) => csplit t (awpF S T pl a Q σ) (awpF S T pl b Q σ)
     | _ => False := rfl
theorem zci {c : Code} (h : ALoop (awpF S T pl c) Q σ) : awpF S T pl (.loop c) Q σ := h
theorem zaa {b : Code} : laterF S T pl b Q .normal σ = awpF S T pl b Q σ := rfl
theorem laterF_exit {b : Code} {id : Nat} : laterF S T pl b Q (.exit id) σ = Q (.exit id) σ := rfl
theorem laterF_ret {b : Code} : laterF S T pl b Q .ret σ = Q .ret σ := rfl
variable {ops r : List Oper} {o : Oper} {nm : Nat} {sl : List AV} {H : Heap} {Q' : List AV → Heap → Prop} {pp : List (Nat × Nat)} {acc : List (Nat × List Nat)}
theorem aopsF_nil : aopsF S T ops pp nm acc [] sl H Q' = (memOk pp acc = true ∧ Q' sl H) := rfl
theorem aopsF_plain {dst : Option Tmp} {op : Op} {type : TypeId} {pos : String} {after : Array Edge} : aopsF S T ops pp nm acc (⟨dst,op,type,pos,after,none⟩ :: r) sl H Q' =
   ((aopF S T nm sl op H).p ∧ aopsF S T ops pp (nm + 8) (acc ++ [(nm,foot sl op H)]) r (zal sl dst (aopF S T nm sl op H).x) (aopF S T nm sl op H).H Q') := rfl
theorem aopsF_guard {dst : Option Tmp} {op : Op} {type : TypeId} {pos : String} {after : Array Edge} {j : Nat} {want : Bool} : aopsF S T ops pp nm acc (⟨dst,op,type,pos,after,some (j,want)⟩ :: r) sl H Q' =
   match guardSlot ops j with
     | none => False
     | some d => match slot sl d with
       | .w (.bool b) =>
         gsplit b want ((aopF S T nm (setSlot sl d (.w (.bool want))) op H).p ∧
           aopsF S T ops pp (nm + 8) (acc ++ [(nm,foot (setSlot sl d (.w (.bool want))) op H)]) r (zal (setSlot sl d (.w (.bool want))) dst (aopF S T nm (setSlot sl d (.w (.bool want))) op H).x) (aopF S T nm (setSlot sl d (.w (.bool want))) op H).H Q')
         (aopsF S T ops pp (nm + 8) (acc ++ [(nm,[])]) r (zal (setSlot sl d (.w (.bool !want))) dst (.tup [])) H Q')
       | .tup [] => aopsF S T ops pp (nm + 8) (acc ++ [(nm,[])]) r (zal sl dst (.tup [])) H Q'
       | _ => False := rfl
end rules
end Ax
end Go.Proofs.Ythjceeimbohajaa
namespace Go.Proofs.Ythjceeimbohajaa
open Ax
theorem evTP : (type_of% @awpF_skip) ∧
   (type_of% @awpF_label) ∧
   (type_of% @awpF_ret) ∧
   (type_of% @awpF_exit) ∧
   (type_of% @awpF_region) ∧
   (type_of% @awpF_seq) ∧
   (type_of% @awpF_block) ∧
   (type_of% @awpF_cond) ∧
   (type_of% @laterF_exit) ∧
   (type_of% @laterF_ret) ∧
   (type_of% @aopsF_nil) ∧
   (type_of% @aopsF_plain) ∧
   (type_of% @aopsF_guard) :=
 ⟨@awpF_skip,@awpF_label,@awpF_ret,@awpF_exit,@awpF_region,@awpF_seq,@awpF_block,@awpF_cond,@laterF_exit,@laterF_ret,@aopsF_nil,@aopsF_plain,@aopsF_guard⟩
theorem evDP : (type_of% @Ax.aopF.eq_1) ∧
   (type_of% @Ax.foot.eq_1) ∧
   (type_of% @Ax.footA.eq_1) ∧
   (type_of% @Ax.keepIn.eq_1) ∧
   (type_of% @Ax.keepIn.eq_2) ∧
   (type_of% @Ax.dropIn.eq_1) ∧
   (type_of% @Ax.dropIn.eq_2) ∧
   (type_of% @Ax.bids.eq_1) ∧
   (type_of% @Ax.bids.eq_2) ∧
   (type_of% @Ax.heldB.eq_1) ∧
   (type_of% @Ax.memOk.eq_1) ∧
   (type_of% @Ax.clearOf.eq_1) :=
 ⟨@Ax.aopF.eq_1,@Ax.foot.eq_1,@Ax.footA.eq_1,@Ax.keepIn.eq_1,@Ax.keepIn.eq_2,@Ax.dropIn.eq_1,@Ax.dropIn.eq_2,@Ax.bids.eq_1,@Ax.bids.eq_2,@Ax.heldB.eq_1,@Ax.memOk.eq_1,@Ax.clearOf.eq_1⟩
open Ax
attribute [go_sem] evDP evTP Blk.ids Op.operands Call.operands
end Go.Proofs.Ythjceeimbohajaa
namespace Go.Proofs.Ythjceeimbohajaa
namespace Ax
open Go.RowKit
def FnsO (P : Program) (S : zag) : Prop := ∀ f s,S f = some s → Entered P f ∧ SoundO P f s
def zfl (SO : zag) (T : zac) (nm : Nat) (sl : List AV) (op : Op) (H : Heap) : Out :=
 match op with
 | .call c => match c.callee with
   | .value f => match ev sl f with
     | .fn f caps => aOpen SO nm f (coes T c.argTypes.toList (evs sl c.args.toList) ++ caps) H
     | _ => bad
   | _ => bad
 | _ => bad
theorem walk_look {H : Heap} : ∀ (ids good : List Nat),walk H good ids = true → ∀ id ∈ ids,look H id ≠ none
 | [],_,_,id,hid => by simp at hid
 | k :: r,good,hw,id,hid => by
   simp only [walk,Bool.and_eq_true] at hw
   cases hl : look H k with
   | none => simp [hl] at hw
   | some blk =>
     simp only [hl] at hw
     rcases List.mem_cons.1 hid with rfl | hid
     · rw [hl]; simp
     · exact walk_look r _ hw.2 id hid
theorem hnew_open {SO : zag} {T : zac} {sl : List AV} {op : Op} {nm : Nat} {H : Heap} : Hnew nm H (zfl SO T nm sl op H) := by
 unfold zfl
 split
 · split
   · split
     · unfold aOpen
       split
       · rename_i f _ spec hs
         intro hp id b hl
         simp only [openOut] at hp hl
         generalize reach H 12 [] (idsL _) = ids at *
         obtain ⟨⟨hnd,hwalk,hain,hpin⟩,hsp,hb1,hb2⟩ := hp
         rcases look_backO _ _ _ hl with ⟨j,hj,h1,h2⟩ | ⟨h1,h2⟩
         · rw [Nat.zero_add] at h1
           by_cases hjl : j < ids.length
           · rw [zfb hjl] at h1
             left
             rw [← h1]
             exact walk_look ids _ hwalk _ (List.getElem_mem hjl)
           · rw [zem (by omega)] at h1
             right; omega
         · exact .inl (by rw [h1]; simp)
       · exact hok_bad.new
     · exact hok_bad.new
   · exact hok_bad.new
 · exact hok_bad.new
inductive RP where
 | std
 | frz (fs : List Nat)
 | opn (fs : List Nat) (k : Nat)
 | prs (l : List (Nat × Nat))
 | tst (k : List Bool)
 | wkp (l : List (Nat × Nat))
abbrev XPlan := Nat → RP
section rules
variable {S SO : zag} {T : zac} {pl : XPlan} {Q : Exit → ASt → Prop} {σ : ASt}
variable {ops r : List Oper} {o : Oper} {nm k : Nat} {sl : List AV} {H : Heap} {Q' : List AV → Heap → Prop}
end rules
end Ax
end Go.Proofs.Ythjceeimbohajaa
namespace Go.Proofs.Ythjceeimbohajaa
open Ax
open Ax
attribute [go_sem] zfl Blk.isGone Blk.idsB Blk.sidsB Blk.ren EndsO
end Go.Proofs.Ythjceeimbohajaa
namespace Go.Proofs.Ythjceeimbohajaa
open Ax
structure VR where
 k : List UInt8
 v : List UInt8
 o : Int
 t : Int
deriving DecidableEq
def vrA (r : VR) : AV := .agg [.str r.k,.str r.v,.w (.int .i64 r.o),.w (.int .i64 r.t)]
def uvr : AV → VR
 | .agg [.str k,.str v,.w (.int _ o),.w (.int _ t)] => ⟨k,v,o,t⟩
 | _ => ⟨[],[],0,0⟩
theorem zbj (es : List VR) : (es.map vrA).map uvr = es := by
 rw [List.map_map]; exact List.map_id _
theorem zcp : ∀ (G : List VR),closedL (G.map vrA) = true
 | [] => rfl
 | x :: r => by simp only [List.map_cons,closedL,vrA,AV.closed,Bool.true_and]; exact zcp r
theorem ren_vr (g : Nat → Nat) : ∀ (G : List VR),renL g (G.map vrA) = G.map vrA
 | [] => rfl
 | x :: r => by simp only [List.map_cons,renL,ren_vr g r]; rfl
theorem ids_vr : ∀ (G : List VR),idsL (G.map vrA) = []
 | [] => rfl
 | x :: r => by simp only [List.map_cons,idsL,ids_vr r]; rfl
theorem zcm : ∀ (es : List VR) (i : Nat) (h : i < es.length),slot (es.map vrA) i = vrA es[i]
 | p :: ps,0,h => rfl
 | p :: ps,i + 1,h => by
   simp only [List.map_cons,slot,List.getElem_cons_succ]
   exact zcm ps i (by simpa using h)
theorem zav {T : zac} {sl : List AV} {H : Heap} {nx : Nat} {v : Value} {q : Prop} (i : Nat) (h : slot sl i = .w v) : EndsW T [.tmp i] [] ⟨q,.w v,[]⟩ .ret ⟨sl,H,nx⟩ := by
 refine ⟨_,Weak.refl _,?_⟩
 simp only [Ax.Ends,Ax.rvals,EndsX,rone,h,AV.ids,idsL,newIds,upTo,nodup,pinsOf,List.nil_append,AV.ren,and_self]
def lightVR (r : VR) : Prop := r.k.length ≤ 200 ∧ r.v.length ≤ 700
instance (r : VR) : Decidable (lightVR r) := by unfold lightVR; infer_instance
def lightV (l : List VR) : Prop := l.length ≤ 60 ∧ ∀ r ∈ l,lightVR r
instance (l : List VR) : Decidable (lightV l) := by unfold lightV; infer_instance
def lightVS : zat
 | [.agg [.w (.int .i64 n),.sg 4 xs f]],[] => ⟨xs.length ≤ 9223372036854775807 ∧ ∃ l : List VR,xs = l.map vrA,.w (.bool (decide (lightV (xs.map uvr)))),[]⟩
 | _,_ => zcs
section
set_option maxRecDepth 100000
set_option maxHeartbeats 4000000 in
theorem lightV_sound : zbb Try.prog 15 lightVS := by
 refine zeo (S := noS) (T := ty) zbs ty_ok zdn Try.func15 (c := Try.f15.body.getD .skip) (by kernel_rfl) (by kernel_rfl) (fun xs pins hp _ => ?_)
 unfold lightVS at hp ⊢
 split at hp
 · rename_i n xs f _
   obtain ⟨hL,l,rfl⟩ := hp
   rw [List.length_map] at hL
   have hle : (l.map vrA).length = l.length := by simp
   rw [zbj]
   refine ⟨by simp,?_⟩
   unfold Try.f15
   by_cases hn : 60 < l.length
   · have d1 : decide ((60 : Int) < (l.length : Int)) = true := decide_eq_true (by omega)
     have hno : decide (lightV l) = false := decide_eq_false (fun h => by have := h.1; omega)
     rw [hno]
     simp only [go_sem,coe,zab,Nat.reduceAdd,Nat.reduceSub,Nat.reduceMul,Int.reduceToNat,reduceCtorEq,↓reduceIte,Int.reducePow,Nat.reducePow,Int.reduceMod,Nat.reduceLeDiff,Int.reduceLE,Int.reduceNe,Int.reduceEq,Nat.reduceEqDiff,Nat.reduceLT,Nat.reduceBEq,ty,noS,hle,d1]
     exact zav 2 rfl
   · have d1 : decide ((60 : Int) < (l.length : Int)) = false := decide_eq_false (by omega)
     simp only [go_sem,coe,zab,Nat.reduceAdd,Nat.reduceSub,Nat.reduceMul,Int.reduceToNat,reduceCtorEq,↓reduceIte,Int.reducePow,Nat.reducePow,Int.reduceMod,Nat.reduceLeDiff,Int.reduceLE,Int.reduceNe,Int.reduceEq,Nat.reduceEqDiff,Nat.reduceLT,Nat.reduceBEq,ty,noS,hle,d1]
     refine awp_loopW ⟨fun m σ => ∃ i : Nat,m = l.length - i ∧ i ≤ l.length ∧ (∀ r ∈ l.take i,lightVR r) ∧
       σ = ⟨[.agg [.w (.int .i64 n),.sg 4 (l.map vrA) f],.rf 4 2 0 0,.w (.bool false),.w (.int .i64 i),.junk,.junk,.junk,.junk,.junk,.junk,.junk,.junk,.junk,.junk,.junk,.junk,.junk,.junk,.junk,.junk,.junk,.junk,.junk,.junk,.junk,.junk,.junk,.junk,.junk,.junk,.junk,.junk,.junk],[(4,.g 2 [.agg [.w (.int .i64 n),.sg 4 (l.map vrA) f]])],5⟩,?_,?_⟩
     · refine ⟨_,_,zai [0,1,2,3,4] rfl rfl rfl ?_ ?_,0,rfl,by omega,by simp,rfl⟩
       · simp only [ssT,zao,zap,setSlot,gOf,AV.ren,renL,Blk.ren,Ax.look,Ax.put,reduceCtorEq,↓reduceIte,Nat.reduceEqDiff,Nat.reduceLT,Nat.reduceAdd,List.length_append,List.length_cons,List.length_nil,Option.some.injEq]; try simp
       · simp only [ssT,zao,zap,setSlot,gOf,AV.ren,renL,Blk.ren,Ax.look,Ax.put,reduceCtorEq,↓reduceIte,Nat.reduceEqDiff,Nat.reduceLT,Nat.reduceAdd,List.length_append,List.length_cons,List.length_nil,Option.some.injEq]; try simp
     · rintro m σ ⟨i,rfl,hi,hall,rfl⟩
       by_cases hil : i < l.length
       · have d2 : decide ((i : Int) < l.length) = true := decide_eq_true (by omega)
         have e1 : ((i : Int) + 1 + 9223372036854775808) % 18446744073709551616 - 9223372036854775808 = ((i + 1 : Nat) : Int) := by omega
         have hs1 := zcm l i hil
         have hmem : l[i] ∈ l := List.getElem_mem hil
         have htk : l.take (i + 1) = l.take i ++ [l[i]] := List.take_succ_eq_append_getElem hil
         obtain ⟨r,hr⟩ : ∃ r,l[i] = r := ⟨_,rfl⟩
         rw [hr] at hs1 hmem htk
         obtain ⟨k,v,o,t⟩ := r
         have hs1 : slot (l.map vrA) i = .agg [.str k,.str v,.w (.int .i64 o),.w (.int .i64 t)] := hs1
         by_cases h1 : 200 < k.length
         · have d3 : decide ((200 : Int) < (k.length : Int)) = true := decide_eq_true (by omega)
           have hno : decide (lightV l) = false := decide_eq_false (fun h => by have := (h.2 _ hmem).1; simp at this; omega)
           rw [hno]
           simp only [go_sem,coe,zab,Nat.reduceAdd,Nat.reduceSub,Nat.reduceMul,Int.reduceToNat,reduceCtorEq,↓reduceIte,Int.reducePow,Nat.reducePow,Int.reduceMod,Nat.reduceLeDiff,Int.reduceLE,Int.reduceNe,Int.reduceEq,Nat.reduceEqDiff,Nat.reduceLT,Nat.reduceBEq,ty,noS,hle,d2,hs1,d3,Int.toNat_natCast]
           repeat (refine And.intro (by omega) ?_)
           refine ⟨_,Weak.refl _,?_⟩
           simp only [go_sem,coe,zab,Nat.reduceAdd,Nat.reduceSub,Nat.reduceMul,Int.reduceToNat,reduceCtorEq,↓reduceIte,Int.reducePow,Nat.reducePow,Int.reduceMod,Nat.reduceLeDiff,Int.reduceLE,Int.reduceNe,Int.reduceEq,Nat.reduceEqDiff,Nat.reduceLT,Nat.reduceBEq,ty]
           exact zav 2 rfl
         · have d3 : decide ((200 : Int) < (k.length : Int)) = false := decide_eq_false (by omega)
           by_cases h2 : 700 < v.length
           · have d4 : decide ((700 : Int) < (v.length : Int)) = true := decide_eq_true (by omega)
             have hno : decide (lightV l) = false := decide_eq_false (fun h => by have := (h.2 _ hmem).2; simp at this; omega)
             rw [hno]
             simp only [go_sem,coe,zab,Nat.reduceAdd,Nat.reduceSub,Nat.reduceMul,Int.reduceToNat,reduceCtorEq,↓reduceIte,Int.reducePow,Nat.reducePow,Int.reduceMod,Nat.reduceLeDiff,Int.reduceLE,Int.reduceNe,Int.reduceEq,Nat.reduceEqDiff,Nat.reduceLT,Nat.reduceBEq,ty,noS,hle,d2,hs1,d3,d4,Int.toNat_natCast]
             repeat (refine And.intro (by omega) ?_)
             refine ⟨_,Weak.refl _,?_⟩
             simp only [go_sem,coe,zab,Nat.reduceAdd,Nat.reduceSub,Nat.reduceMul,Int.reduceToNat,reduceCtorEq,↓reduceIte,Int.reducePow,Nat.reducePow,Int.reduceMod,Nat.reduceLeDiff,Int.reduceLE,Int.reduceNe,Int.reduceEq,Nat.reduceEqDiff,Nat.reduceLT,Nat.reduceBEq,ty]
             exact zav 2 rfl
           · have d4 : decide ((700 : Int) < (v.length : Int)) = false := decide_eq_false (by omega)
             simp only [go_sem,coe,zab,Nat.reduceAdd,Nat.reduceSub,Nat.reduceMul,Int.reduceToNat,reduceCtorEq,↓reduceIte,Int.reducePow,Nat.reducePow,Int.reduceMod,Nat.reduceLeDiff,Int.reduceLE,Int.reduceNe,Int.reduceEq,Nat.reduceEqDiff,Nat.reduceLT,Nat.reduceBEq,ty,noS,hle,d2,hs1,d3,d4,e1,Int.toNat_natCast]
             repeat (refine And.intro (by omega) ?_)
             refine ⟨l.length - (i + 1),_,by omega,zai [0,1,2,3,4] rfl rfl rfl ?_ ?_,i + 1,rfl,by omega,?_,rfl⟩
             · simp only [ssT,zao,zap,setSlot,gOf,AV.ren,renL,Blk.ren,Ax.look,Ax.put,reduceCtorEq,↓reduceIte,Nat.reduceEqDiff,Nat.reduceLT,Nat.reduceAdd,List.length_append,List.length_cons,List.length_nil,Option.some.injEq]; try simp
             · simp only [ssT,zao,zap,setSlot,gOf,AV.ren,renL,Blk.ren,Ax.look,Ax.put,reduceCtorEq,↓reduceIte,Nat.reduceEqDiff,Nat.reduceLT,Nat.reduceAdd,List.length_append,List.length_cons,List.length_nil,Option.some.injEq]; try simp
             · rw [htk]
               intro r hr
               rcases List.mem_append.1 hr with h | h
               · exact hall r h
               · obtain rfl := List.mem_singleton.1 h
                 exact ⟨by simp; omega,by simp; omega⟩
       · have d2 : decide ((i : Int) < l.length) = false := decide_eq_false (by omega)
         have hii : l.take i = l := List.take_of_length_le (by omega)
         rw [hii] at hall
         have hyes : decide (lightV l) = true := decide_eq_true ⟨by omega,hall⟩
         rw [hyes]
         simp only [go_sem,coe,zab,Nat.reduceAdd,Nat.reduceSub,Nat.reduceMul,Int.reduceToNat,reduceCtorEq,↓reduceIte,Int.reducePow,Nat.reducePow,Int.reduceMod,Nat.reduceLeDiff,Int.reduceLE,Int.reduceNe,Int.reduceEq,Nat.reduceEqDiff,Nat.reduceLT,Nat.reduceBEq,ty,noS,hle,d2]
         refine ⟨_,Weak.refl _,?_⟩
         simp only [go_sem,coe,zab,Nat.reduceAdd,Nat.reduceSub,Nat.reduceMul,Int.reduceToNat,reduceCtorEq,↓reduceIte,Int.reducePow,Nat.reducePow,Int.reduceMod,Nat.reduceLeDiff,Int.reduceLE,Int.reduceNe,Int.reduceEq,Nat.reduceEqDiff,Nat.reduceLT,Nat.reduceBEq,ty]
         exact zav 2 rfl
 · exact hp.elim
end
end Go.Proofs.Ythjceeimbohajaa
namespace Go.Proofs.Ythjceeimbohajaa
open Ax
def rE (n : Int) (r : VR) : Int := if 64 < r.k.length ∨ 512 < r.v.length then 5 else if r.o < 0 ∨ n ≤ r.o ∨ r.t < 0 ∨ 1099511627776 < r.t then 11 else 0
def badV (n : Int) : List VR → Int
 | [] => 0
 | r :: rs => if rE n r = 0 then badV n rs else rE n r
def risV : List VR → Bool
 | [] => true
 | [_] => true
 | a :: b :: rs => Op.bytesLess a.k b.k && risV (b :: rs)
def chV (n : Int) (l : List VR) : Int := if n < 0 ∨ 4611686018427387903 < n ∨ 4096 < l.length then 11 else if badV n l = 0 then (if risV l = true then 0 else 16) else badV n l
theorem rE_cases (n : Int) (k v : List UInt8) (o t : Int) :
   (decide ((64 : Int) < k.length) = true ∧ rE n ⟨k,v,o,t⟩ = 5) ∨
   (decide ((64 : Int) < k.length) = false ∧ decide ((512 : Int) < v.length) = true ∧ rE n ⟨k,v,o,t⟩ = 5) ∨
   (decide ((64 : Int) < k.length) = false ∧ decide ((512 : Int) < v.length) = false ∧ decide (o < 0) = true ∧ rE n ⟨k,v,o,t⟩ = 11) ∨
   (decide ((64 : Int) < k.length) = false ∧ decide ((512 : Int) < v.length) = false ∧ decide (o < 0) = false ∧ decide (n ≤ o) = true ∧ rE n ⟨k,v,o,t⟩ = 11) ∨
   (decide ((64 : Int) < k.length) = false ∧ decide ((512 : Int) < v.length) = false ∧ decide (o < 0) = false ∧ decide (n ≤ o) = false ∧ decide (t < 0) = true ∧ rE n ⟨k,v,o,t⟩ = 11) ∨
   (decide ((64 : Int) < k.length) = false ∧ decide ((512 : Int) < v.length) = false ∧ decide (o < 0) = false ∧ decide (n ≤ o) = false ∧ decide (t < 0) = false ∧ decide (1099511627776 < t) = true ∧ rE n ⟨k,v,o,t⟩ = 11) ∨
   (decide ((64 : Int) < k.length) = false ∧ decide ((512 : Int) < v.length) = false ∧ decide (o < 0) = false ∧ decide (n ≤ o) = false ∧ decide (t < 0) = false ∧ decide (1099511627776 < t) = false ∧ rE n ⟨k,v,o,t⟩ = 0) := by
 unfold rE
 simp only [decide_eq_true_eq,decide_eq_false_iff_not]
 by_cases h1 : 64 < k.length
 · exact .inl ⟨by omega,if_pos (.inl h1)⟩
 by_cases h2 : 512 < v.length
 · exact .inr (.inl ⟨by omega,by omega,if_pos (.inr h2)⟩)
 rw [if_neg (by omega)]
 by_cases h3 : o < 0
 · exact .inr (.inr (.inl ⟨by omega,by omega,by omega,if_pos (by omega)⟩))
 by_cases h4 : n ≤ o
 · exact .inr (.inr (.inr (.inl ⟨by omega,by omega,by omega,by omega,if_pos (by omega)⟩)))
 by_cases h5 : t < 0
 · exact .inr (.inr (.inr (.inr (.inl ⟨by omega,by omega,by omega,by omega,by omega,if_pos (by omega)⟩))))
 by_cases h6 : 1099511627776 < t
 · exact .inr (.inr (.inr (.inr (.inr (.inl ⟨by omega,by omega,by omega,by omega,by omega,by omega,if_pos (by omega)⟩)))))
 · exact .inr (.inr (.inr (.inr (.inr (.inr ⟨by omega,by omega,by omega,by omega,by omega,by omega,if_neg (by omega)⟩)))))
theorem n_cases (n : Int) (L : Nat) :
   (decide (n < 0) = true ∧ (n < 0 ∨ 4611686018427387903 < n ∨ 4096 < L)) ∨
   (decide (n < 0) = false ∧ decide (4611686018427387903 < n) = true ∧ (n < 0 ∨ 4611686018427387903 < n ∨ 4096 < L)) ∨
   (decide (n < 0) = false ∧ decide (4611686018427387903 < n) = false ∧ decide ((4096 : Int) < L) = true ∧ (n < 0 ∨ 4611686018427387903 < n ∨ 4096 < L)) ∨
   (decide (n < 0) = false ∧ decide (4611686018427387903 < n) = false ∧ decide ((4096 : Int) < L) = false ∧ ¬ (n < 0 ∨ 4611686018427387903 < n ∨ 4096 < L)) := by
 simp only [decide_eq_true_eq,decide_eq_false_iff_not]
 omega
theorem badV_drop (n : Int) (l : List VR) (i : Nat) (h : i < l.length) : badV n (l.drop i) = if rE n l[i] = 0 then badV n (l.drop (i + 1)) else rE n l[i] := by
 rw [List.drop_eq_getElem_cons h]; rfl
theorem risV_drop (l : List VR) (i : Nat) (h : i + 1 < l.length) : risV (l.drop i) = (Op.bytesLess l[i].k l[i + 1].k && risV (l.drop (i + 1))) := by
 rw [List.drop_eq_getElem_cons (show i < l.length by omega),List.drop_eq_getElem_cons h]; rfl
theorem risV_last (l : List VR) (i : Nat) (h : l.length ≤ i + 1) : risV (l.drop i) = true := by
 have hl : (l.drop i).length ≤ 1 := by rw [List.length_drop]; omega
 match h2 : l.drop i,hl with
 | [],_ => rfl
 | [_],_ => rfl
def chkVS : zat
 | [.agg [.w (.int .i64 n),.sg 4 xs f]],[] => ⟨xs.length ≤ 9223372036854775807 ∧ ∃ l : List VR,xs = l.map vrA,.w (.int .i64 (chV n (xs.map uvr))),[]⟩
 | _,_ => zcs
def zbc : Plan := fun id => match id with
 | 14 => some []
 | _ => none
section
set_option maxRecDepth 100000
set_option maxHeartbeats 16000000 in
theorem chkV_sound : zbb Try.prog 52 chkVS := by
 refine zdj (S := noS) (T := ty) (pl := zbc) zbs ty_ok zdn Try.func52 (c := Try.f52.body.getD .skip) (by kernel_rfl) (by kernel_rfl) (fun xs pins hp _ => ?_)
 unfold chkVS at hp ⊢
 split at hp
 · rename_i n xs f _
   obtain ⟨hL,l,rfl⟩ := hp
   rw [List.length_map] at hL
   have hle : (l.map vrA).length = l.length := by simp
   rw [zbj]
   refine ⟨by simp,?_⟩
   unfold Try.f52
   rcases n_cases n l.length with D | D | D | D
   · have hch : chV n l = 11 := if_pos D.2
     rw [hch]
     simp only [go_sem,zaa,Nat.reduceAdd,Nat.reduceSub,Nat.reduceMul,Int.reduceToNat,reduceCtorEq,↓reduceIte,Int.reducePow,Nat.reducePow,Int.reduceMod,Nat.reduceLeDiff,Int.reduceLE,Int.reduceNe,Int.reduceEq,Nat.reduceEqDiff,Nat.reduceLT,Nat.reduceBEq,List.map_cons,List.map_nil,List.toList_toArray,Array.toList_append,Option.toArray_some,Option.toArray_none,Bool.and_self,ty,noS,zbc,hle,D.1]
     exact zav 2 rfl
   · have hch : chV n l = 11 := if_pos D.2.2
     rw [hch]
     simp only [go_sem,zaa,Nat.reduceAdd,Nat.reduceSub,Nat.reduceMul,Int.reduceToNat,reduceCtorEq,↓reduceIte,Int.reducePow,Nat.reducePow,Int.reduceMod,Nat.reduceLeDiff,Int.reduceLE,Int.reduceNe,Int.reduceEq,Nat.reduceEqDiff,Nat.reduceLT,Nat.reduceBEq,List.map_cons,List.map_nil,List.toList_toArray,Array.toList_append,Option.toArray_some,Option.toArray_none,Bool.and_self,ty,noS,zbc,hle,D.1,D.2.1]
     exact zav 2 rfl
   · have hch : chV n l = 11 := if_pos D.2.2.2
     rw [hch]
     simp only [go_sem,zaa,Nat.reduceAdd,Nat.reduceSub,Nat.reduceMul,Int.reduceToNat,reduceCtorEq,↓reduceIte,Int.reducePow,Nat.reducePow,Int.reduceMod,Nat.reduceLeDiff,Int.reduceLE,Int.reduceNe,Int.reduceEq,Nat.reduceEqDiff,Nat.reduceLT,Nat.reduceBEq,List.map_cons,List.map_nil,List.toList_toArray,Array.toList_append,Option.toArray_some,Option.toArray_none,Bool.and_self,ty,noS,zbc,hle,D.1,D.2.1,D.2.2.1]
     exact zav 2 rfl
   obtain ⟨D1,D2,D3,D4⟩ := D
   have hch : chV n l = if badV n l = 0 then (if risV l = true then 0 else 16) else badV n l := if_neg D4
   simp only [go_sem,zaa,Nat.reduceAdd,Nat.reduceSub,Nat.reduceMul,Int.reduceToNat,reduceCtorEq,↓reduceIte,Int.reducePow,Nat.reducePow,Int.reduceMod,Nat.reduceLeDiff,Int.reduceLE,Int.reduceNe,Int.reduceEq,Nat.reduceEqDiff,Nat.reduceLT,Nat.reduceBEq,List.map_cons,List.map_nil,List.toList_toArray,Array.toList_append,Option.toArray_some,Option.toArray_none,Bool.and_self,ty,noS,zbc,hle,D1,D2,D3]
   refine zci ⟨fun m σ => ∃ i : Nat,m = l.length - i ∧ i ≤ l.length ∧ badV n (l.drop i) = badV n l ∧
     σ = ⟨[.agg [.w (.int .i64 n),.sg 4 (l.map vrA) f],.rf 4 2 0 0,.w (.int .i64 0),.junk,.junk,.junk,.junk,.junk,.junk,.junk,.junk,.junk,.junk,.junk,.junk,.junk,.junk,.junk,.junk,.junk,.junk,.sg 4 (l.map vrA) f,.w (.int .i64 l.length),.w (.int .i64 i),.junk,.junk,.junk,.junk,.junk,.junk,.junk,.junk,.junk,.junk,.junk,.junk,.junk,.junk,.junk,.junk,.junk,.junk,.junk,.junk,.junk,.junk,.junk,.junk,.junk,.junk,.junk,.junk,.junk,.junk,.junk,.junk,.junk,.junk,.junk,.junk,.junk,.junk,.junk,.junk,.junk,.junk,.junk,.junk,.junk,.junk,.junk,.junk,.junk,.junk,.junk,.junk,.junk,.junk,.junk],[(4,.g 2 [.agg [.w (.int .i64 n),.sg 4 (l.map vrA) f]])],5⟩,?_,?_⟩
   · refine ⟨_,_,zai [0,1,2,3,4] rfl rfl rfl ?_ ?_,0,rfl,by omega,rfl,rfl⟩
     · simp only [ssT,zao,zap,setSlot,gOf,AV.ren,renL,Blk.ren,Ax.look,Ax.put,reduceCtorEq,↓reduceIte,Nat.reduceEqDiff,Nat.reduceLT,Nat.reduceAdd,List.length_append,List.length_cons,List.length_nil,Option.some.injEq]; try simp
     · simp only [ssT,zao,zap,setSlot,gOf,AV.ren,renL,Blk.ren,Ax.look,Ax.put,reduceCtorEq,↓reduceIte,Nat.reduceEqDiff,Nat.reduceLT,Nat.reduceAdd,List.length_append,List.length_cons,List.length_nil,Option.some.injEq]; try simp
   · rintro m σ ⟨i,rfl,hi,hb,rfl⟩
     by_cases hil : i < l.length
     · have d2 : decide ((i : Int) < l.length) = true := decide_eq_true (by omega)
       have e1 : ((i : Int) + 1 + 9223372036854775808) % 18446744073709551616 - 9223372036854775808 = ((i + 1 : Nat) : Int) := by omega
       have hs1 := zcm l i hil
       have hd := badV_drop n l i hil
       rw [hb] at hd
       obtain ⟨r,hr⟩ : ∃ r,l[i] = r := ⟨_,rfl⟩
       rw [hr] at hs1 hd
       obtain ⟨k,v,o,t⟩ := r
       have hs1 : slot (l.map vrA) i = .agg [.str k,.str v,.w (.int .i64 o),.w (.int .i64 t)] := hs1
       by_cases hz : rE n ⟨k,v,o,t⟩ = 0
       · rw [if_pos hz] at hd
         rcases rE_cases n k v o t with D | D | D | D | D | D | D
         · exact absurd (D.2 ▸ hz) (by decide)
         · exact absurd (D.2.2 ▸ hz) (by decide)
         · exact absurd (D.2.2.2 ▸ hz) (by decide)
         · exact absurd (D.2.2.2.2 ▸ hz) (by decide)
         · exact absurd (D.2.2.2.2.2 ▸ hz) (by decide)
         · exact absurd (D.2.2.2.2.2.2 ▸ hz) (by decide)
         obtain ⟨f1,f2,f3,f4,f5,f6,_⟩ := D
         simp only [go_sem,zaa,Nat.reduceAdd,Nat.reduceSub,Nat.reduceMul,Int.reduceToNat,reduceCtorEq,↓reduceIte,Int.reducePow,Nat.reducePow,Int.reduceMod,Nat.reduceLeDiff,Int.reduceLE,Int.reduceNe,Int.reduceEq,Nat.reduceEqDiff,Nat.reduceLT,Nat.reduceBEq,List.map_cons,List.map_nil,List.toList_toArray,Array.toList_append,Option.toArray_some,Option.toArray_none,Bool.and_self,ty,noS,zbc,hle,d2,hs1,e1,f1,f2,f3,f4,f5,f6,Int.toNat_natCast]
         repeat (refine And.intro (by omega) ?_)
         refine ⟨l.length - (i + 1),_,by omega,zai [0,1,2,3,4] rfl rfl rfl ?_ ?_,i + 1,rfl,by omega,hd.symm,rfl⟩
         · simp only [ssT,zao,zap,setSlot,gOf,AV.ren,renL,Blk.ren,Ax.look,Ax.put,reduceCtorEq,↓reduceIte,Nat.reduceEqDiff,Nat.reduceLT,Nat.reduceAdd,List.length_append,List.length_cons,List.length_nil,Option.some.injEq]; try simp
         · simp only [ssT,zao,zap,setSlot,gOf,AV.ren,renL,Blk.ren,Ax.look,Ax.put,reduceCtorEq,↓reduceIte,Nat.reduceEqDiff,Nat.reduceLT,Nat.reduceAdd,List.length_append,List.length_cons,List.length_nil,Option.some.injEq]; try simp
       · rw [if_neg hz] at hd
         have hb0 : ¬ badV n l = 0 := by rw [hd]; exact hz
         rw [hch,if_neg hb0,hd]
         rcases rE_cases n k v o t with D | D | D | D | D | D | D
         all_goals first
           | exact absurd D.2.2.2.2.2.2 hz
           | (simp only [go_sem,zaa,Nat.reduceAdd,Nat.reduceSub,Nat.reduceMul,Int.reduceToNat,reduceCtorEq,↓reduceIte,Int.reducePow,Nat.reducePow,Int.reduceMod,Nat.reduceLeDiff,Int.reduceLE,Int.reduceNe,Int.reduceEq,Nat.reduceEqDiff,Nat.reduceLT,Nat.reduceBEq,List.map_cons,List.map_nil,List.toList_toArray,Array.toList_append,Option.toArray_some,Option.toArray_none,Bool.and_self,ty,noS,zbc,hle,d2,hs1,D,Int.toNat_natCast]
              repeat (refine And.intro (by omega) ?_)
              refine ⟨_,Weak.refl _,?_⟩
              simp only [go_sem,zaa,Nat.reduceAdd,Nat.reduceSub,Nat.reduceMul,Int.reduceToNat,reduceCtorEq,↓reduceIte,Int.reducePow,Nat.reducePow,Int.reduceMod,Nat.reduceLeDiff,Int.reduceLE,Int.reduceNe,Int.reduceEq,Nat.reduceEqDiff,Nat.reduceLT,Nat.reduceBEq,List.map_cons,List.map_nil,List.toList_toArray,Array.toList_append,Option.toArray_some,Option.toArray_none,Bool.and_self,ty,noS,zbc]
              exact zav 2 rfl)
     · have d2 : decide ((i : Int) < l.length) = false := decide_eq_false (by omega)
       have hb0 : badV n l = 0 := by rw [← hb,List.drop_of_length_le (by omega)]; rfl
       rw [hch,if_pos hb0]
       simp only [go_sem,zaa,Nat.reduceAdd,Nat.reduceSub,Nat.reduceMul,Int.reduceToNat,reduceCtorEq,↓reduceIte,Int.reducePow,Nat.reducePow,Int.reduceMod,Nat.reduceLeDiff,Int.reduceLE,Int.reduceNe,Int.reduceEq,Nat.reduceEqDiff,Nat.reduceLT,Nat.reduceBEq,List.map_cons,List.map_nil,List.toList_toArray,Array.toList_append,Option.toArray_some,Option.toArray_none,Bool.and_self,ty,noS,zbc,hle,d2]
       refine ⟨_,Weak.refl _,?_⟩
       simp only [go_sem,zaa,Nat.reduceAdd,Nat.reduceSub,Nat.reduceMul,Int.reduceToNat,reduceCtorEq,↓reduceIte,Int.reducePow,Nat.reducePow,Int.reduceMod,Nat.reduceLeDiff,Int.reduceLE,Int.reduceNe,Int.reduceEq,Nat.reduceEqDiff,Nat.reduceLT,Nat.reduceBEq,List.map_cons,List.map_nil,List.toList_toArray,Array.toList_append,Option.toArray_some,Option.toArray_none,Bool.and_self,ty,noS,zbc,hle]
       refine zci ⟨fun m σ => ∃ i : Nat,m = l.length - i ∧ 1 ≤ i ∧ (i ≤ l.length ∨ i = 1) ∧ risV (l.drop (i - 1)) = risV l ∧
         σ = ⟨[.agg [.w (.int .i64 n),.sg 4 (l.map vrA) f],.rf 4 2 0 0,.w (.int .i64 0),.junk,.junk,.w (.int .i64 i),.junk,.junk,.junk,.junk,.junk,.junk,.junk,.junk,.junk,.junk,.junk,.junk,.junk,.junk,.junk,.junk,.junk,.junk,.junk,.junk,.junk,.junk,.junk,.junk,.junk,.junk,.junk,.junk,.junk,.junk,.junk,.junk,.junk,.junk,.junk,.junk,.junk,.junk,.junk,.junk,.junk,.junk,.junk,.junk,.junk,.junk,.junk,.junk,.junk,.junk,.junk,.junk,.junk,.junk,.junk,.junk,.junk,.junk,.junk,.junk,.junk,.junk,.junk,.junk,.junk,.junk,.junk,.junk,.junk,.junk,.junk,.junk,.junk],[(4,.g 2 [.agg [.w (.int .i64 n),.sg 4 (l.map vrA) f]])],5⟩,?_,?_⟩
       · refine ⟨_,_,zai [0,1,2,3,4] rfl rfl rfl ?_ ?_,1,rfl,by omega,by omega,rfl,rfl⟩
         · simp only [ssT,zao,zap,setSlot,gOf,AV.ren,renL,Blk.ren,Ax.look,Ax.put,reduceCtorEq,↓reduceIte,Nat.reduceEqDiff,Nat.reduceLT,Nat.reduceAdd,List.length_append,List.length_cons,List.length_nil,Option.some.injEq]; try simp
         · simp only [ssT,zao,zap,setSlot,gOf,AV.ren,renL,Blk.ren,Ax.look,Ax.put,reduceCtorEq,↓reduceIte,Nat.reduceEqDiff,Nat.reduceLT,Nat.reduceAdd,List.length_append,List.length_cons,List.length_nil,Option.some.injEq]; try simp
       · rintro m σ ⟨i,rfl,hi1,hi,hb,rfl⟩
         by_cases hil : i < l.length
         · have d2 : decide ((i : Int) < l.length) = true := decide_eq_true (by omega)
           have e1 : ((i : Int) + 1 + 9223372036854775808) % 18446744073709551616 - 9223372036854775808 = ((i + 1 : Nat) : Int) := by omega
           have e2 : ((i : Int) - 1 + 9223372036854775808) % 18446744073709551616 - 9223372036854775808 = ((i - 1 : Nat) : Int) := by omega
           have hs1 := zcm l i hil
           have hs2 := zcm l (i - 1) (by omega)
           have hd := risV_drop l (i - 1) (by omega)
           rw [hb] at hd
           have hi11 : i - 1 + 1 = i := by omega
           simp only [hi11] at hd
           obtain ⟨a,ha⟩ : ∃ x,l[i] = x := ⟨_,rfl⟩
           obtain ⟨b,hb2⟩ : ∃ x,l[i - 1]'(by omega) = x := ⟨_,rfl⟩
           rw [ha] at hs1
           rw [hb2] at hs2
           rw [ha,hb2] at hd
           obtain ⟨k1,v1,o1,t1⟩ := a
           obtain ⟨k2,v2,o2,t2⟩ := b
           have hs1 : slot (l.map vrA) i = .agg [.str k1,.str v1,.w (.int .i64 o1),.w (.int .i64 t1)] := hs1
           have hs2 : slot (l.map vrA) (i - 1) = .agg [.str k2,.str v2,.w (.int .i64 o2),.w (.int .i64 t2)] := hs2
           cases hB : Op.bytesLess k2 k1 with
           | true =>
             rw [show (⟨k2,v2,o2,t2⟩ : VR).k = k2 from rfl,show (⟨k1,v1,o1,t1⟩ : VR).k = k1 from rfl,hB,Bool.true_and] at hd
             simp only [go_sem,zaa,Nat.reduceAdd,Nat.reduceSub,Nat.reduceMul,Int.reduceToNat,reduceCtorEq,↓reduceIte,Int.reducePow,Nat.reducePow,Int.reduceMod,Nat.reduceLeDiff,Int.reduceLE,Int.reduceNe,Int.reduceEq,Nat.reduceEqDiff,Nat.reduceLT,Nat.reduceBEq,List.map_cons,List.map_nil,List.toList_toArray,Array.toList_append,Option.toArray_some,Option.toArray_none,Bool.and_self,ty,noS,zbc,hle,d2,hs1,hs2,e1,e2,hB,Bool.not_true,Bool.not_false,Int.toNat_natCast]
             repeat (refine And.intro (by omega) ?_)
             refine ⟨l.length - (i + 1),_,by omega,zai [0,1,2,3,4] rfl rfl rfl ?_ ?_,i + 1,rfl,by omega,by omega,?_,rfl⟩
             · simp only [ssT,zao,zap,setSlot,gOf,AV.ren,renL,Blk.ren,Ax.look,Ax.put,reduceCtorEq,↓reduceIte,Nat.reduceEqDiff,Nat.reduceLT,Nat.reduceAdd,List.length_append,List.length_cons,List.length_nil,Option.some.injEq]; try simp
             · simp only [ssT,zao,zap,setSlot,gOf,AV.ren,renL,Blk.ren,Ax.look,Ax.put,reduceCtorEq,↓reduceIte,Nat.reduceEqDiff,Nat.reduceLT,Nat.reduceAdd,List.length_append,List.length_cons,List.length_nil,Option.some.injEq]; try simp
             · show risV (l.drop i) = _
               exact hd.symm
           | false =>
             rw [show (⟨k2,v2,o2,t2⟩ : VR).k = k2 from rfl,show (⟨k1,v1,o1,t1⟩ : VR).k = k1 from rfl,hB,Bool.false_and] at hd
             rw [if_neg (by rw [hd]; simp)]
             simp only [go_sem,zaa,Nat.reduceAdd,Nat.reduceSub,Nat.reduceMul,Int.reduceToNat,reduceCtorEq,↓reduceIte,Int.reducePow,Nat.reducePow,Int.reduceMod,Nat.reduceLeDiff,Int.reduceLE,Int.reduceNe,Int.reduceEq,Nat.reduceEqDiff,Nat.reduceLT,Nat.reduceBEq,List.map_cons,List.map_nil,List.toList_toArray,Array.toList_append,Option.toArray_some,Option.toArray_none,Bool.and_self,ty,noS,zbc,hle,d2,hs1,hs2,e1,e2,hB,Bool.not_true,Bool.not_false,Int.toNat_natCast]
             repeat (refine And.intro (by omega) ?_)
             refine ⟨_,Weak.refl _,?_⟩
             simp only [go_sem,zaa,Nat.reduceAdd,Nat.reduceSub,Nat.reduceMul,Int.reduceToNat,reduceCtorEq,↓reduceIte,Int.reducePow,Nat.reducePow,Int.reduceMod,Nat.reduceLeDiff,Int.reduceLE,Int.reduceNe,Int.reduceEq,Nat.reduceEqDiff,Nat.reduceLT,Nat.reduceBEq,List.map_cons,List.map_nil,List.toList_toArray,Array.toList_append,Option.toArray_some,Option.toArray_none,Bool.and_self,ty,noS,zbc]
             exact zav 2 rfl
         · have d2 : decide ((i : Int) < l.length) = false := decide_eq_false (by omega)
           have hr : risV l = true := by rw [← hb]; exact risV_last l _ (by omega)
           rw [if_pos hr]
           simp only [go_sem,zaa,Nat.reduceAdd,Nat.reduceSub,Nat.reduceMul,Int.reduceToNat,reduceCtorEq,↓reduceIte,Int.reducePow,Nat.reducePow,Int.reduceMod,Nat.reduceLeDiff,Int.reduceLE,Int.reduceNe,Int.reduceEq,Nat.reduceEqDiff,Nat.reduceLT,Nat.reduceBEq,List.map_cons,List.map_nil,List.toList_toArray,Array.toList_append,Option.toArray_some,Option.toArray_none,Bool.and_self,ty,noS,zbc,hle,d2]
           refine ⟨_,Weak.refl _,?_⟩
           simp only [go_sem,zaa,Nat.reduceAdd,Nat.reduceSub,Nat.reduceMul,Int.reduceToNat,reduceCtorEq,↓reduceIte,Int.reducePow,Nat.reducePow,Int.reduceMod,Nat.reduceLeDiff,Int.reduceLE,Int.reduceNe,Int.reduceEq,Nat.reduceEqDiff,Nat.reduceLT,Nat.reduceBEq,List.map_cons,List.map_nil,List.toList_toArray,Array.toList_append,Option.toArray_some,Option.toArray_none,Bool.and_self,ty,noS,zbc]
           exact zav 2 rfl
 · exact hp.elim
set_option maxHeartbeats 16000000 in
theorem rchkV_sound : zbb Try.prog 53 chkVS := by
 refine zdj (S := noS) (T := ty) (pl := zbc) zbs ty_ok zdn Try.func53 (c := Try.f53.body.getD .skip) (by kernel_rfl) (by kernel_rfl) (fun xs pins hp _ => ?_)
 unfold chkVS at hp ⊢
 split at hp
 · rename_i n xs f _
   obtain ⟨hL,l,rfl⟩ := hp
   rw [List.length_map] at hL
   have hle : (l.map vrA).length = l.length := by simp
   rw [zbj]
   refine ⟨by simp,?_⟩
   unfold Try.f53
   rcases n_cases n l.length with D | D | D | D
   · have hch : chV n l = 11 := if_pos D.2
     rw [hch]
     simp only [go_sem,zaa,Nat.reduceAdd,Nat.reduceSub,Nat.reduceMul,Int.reduceToNat,reduceCtorEq,↓reduceIte,Int.reducePow,Nat.reducePow,Int.reduceMod,Nat.reduceLeDiff,Int.reduceLE,Int.reduceNe,Int.reduceEq,Nat.reduceEqDiff,Nat.reduceLT,Nat.reduceBEq,List.map_cons,List.map_nil,List.toList_toArray,Array.toList_append,Option.toArray_some,Option.toArray_none,Bool.and_self,ty,noS,zbc,hle,D.1]
     exact zav 2 rfl
   · have hch : chV n l = 11 := if_pos D.2.2
     rw [hch]
     simp only [go_sem,zaa,Nat.reduceAdd,Nat.reduceSub,Nat.reduceMul,Int.reduceToNat,reduceCtorEq,↓reduceIte,Int.reducePow,Nat.reducePow,Int.reduceMod,Nat.reduceLeDiff,Int.reduceLE,Int.reduceNe,Int.reduceEq,Nat.reduceEqDiff,Nat.reduceLT,Nat.reduceBEq,List.map_cons,List.map_nil,List.toList_toArray,Array.toList_append,Option.toArray_some,Option.toArray_none,Bool.and_self,ty,noS,zbc,hle,D.1,D.2.1]
     exact zav 2 rfl
   · have hch : chV n l = 11 := if_pos D.2.2.2
     rw [hch]
     simp only [go_sem,zaa,Nat.reduceAdd,Nat.reduceSub,Nat.reduceMul,Int.reduceToNat,reduceCtorEq,↓reduceIte,Int.reducePow,Nat.reducePow,Int.reduceMod,Nat.reduceLeDiff,Int.reduceLE,Int.reduceNe,Int.reduceEq,Nat.reduceEqDiff,Nat.reduceLT,Nat.reduceBEq,List.map_cons,List.map_nil,List.toList_toArray,Array.toList_append,Option.toArray_some,Option.toArray_none,Bool.and_self,ty,noS,zbc,hle,D.1,D.2.1,D.2.2.1]
     exact zav 2 rfl
   obtain ⟨D1,D2,D3,D4⟩ := D
   have hch : chV n l = if badV n l = 0 then (if risV l = true then 0 else 16) else badV n l := if_neg D4
   simp only [go_sem,zaa,Nat.reduceAdd,Nat.reduceSub,Nat.reduceMul,Int.reduceToNat,reduceCtorEq,↓reduceIte,Int.reducePow,Nat.reducePow,Int.reduceMod,Nat.reduceLeDiff,Int.reduceLE,Int.reduceNe,Int.reduceEq,Nat.reduceEqDiff,Nat.reduceLT,Nat.reduceBEq,List.map_cons,List.map_nil,List.toList_toArray,Array.toList_append,Option.toArray_some,Option.toArray_none,Bool.and_self,ty,noS,zbc,hle,D1,D2,D3]
   refine zci ⟨fun m σ => ∃ i : Nat,m = l.length - i ∧ i ≤ l.length ∧ badV n (l.drop i) = badV n l ∧
     σ = ⟨[.agg [.w (.int .i64 n),.sg 4 (l.map vrA) f],.rf 4 2 0 0,.w (.int .i64 0),.w (.int .i64 i),.junk,.junk,.junk,.junk,.junk,.junk,.junk,.junk,.junk,.junk,.junk,.junk,.junk,.junk,.junk,.junk,.junk,.junk,.junk,.junk,.junk,.junk,.junk,.junk,.junk,.junk,.junk,.junk,.junk,.junk,.junk,.junk,.junk,.junk,.junk,.junk,.junk,.junk,.junk,.junk,.junk,.junk,.junk,.junk,.junk,.junk,.junk,.junk,.junk,.junk,.junk,.junk,.junk,.junk,.junk,.junk,.junk,.junk,.junk,.junk,.junk,.junk,.junk,.junk,.junk,.junk,.junk,.junk,.junk,.junk,.junk,.junk,.junk,.junk,.junk,.junk,.junk,.junk,.junk,.junk,.junk],[(4,.g 2 [.agg [.w (.int .i64 n),.sg 4 (l.map vrA) f]])],5⟩,?_,?_⟩
   · refine ⟨_,_,zai [0,1,2,3,4] rfl rfl rfl ?_ ?_,0,rfl,by omega,rfl,rfl⟩
     · simp only [ssT,zao,zap,setSlot,gOf,AV.ren,renL,Blk.ren,Ax.look,Ax.put,reduceCtorEq,↓reduceIte,Nat.reduceEqDiff,Nat.reduceLT,Nat.reduceAdd,List.length_append,List.length_cons,List.length_nil,Option.some.injEq]; try simp
     · simp only [ssT,zao,zap,setSlot,gOf,AV.ren,renL,Blk.ren,Ax.look,Ax.put,reduceCtorEq,↓reduceIte,Nat.reduceEqDiff,Nat.reduceLT,Nat.reduceAdd,List.length_append,List.length_cons,List.length_nil,Option.some.injEq]; try simp
   · rintro m σ ⟨i,rfl,hi,hb,rfl⟩
     by_cases hil : i < l.length
     · have d2 : decide ((i : Int) < l.length) = true := decide_eq_true (by omega)
       have e1 : ((i : Int) + 1 + 9223372036854775808) % 18446744073709551616 - 9223372036854775808 = ((i + 1 : Nat) : Int) := by omega
       have hs1 := zcm l i hil
       have hd := badV_drop n l i hil
       rw [hb] at hd
       obtain ⟨r,hr⟩ : ∃ r,l[i] = r := ⟨_,rfl⟩
       rw [hr] at hs1 hd
       obtain ⟨k,v,o,t⟩ := r
       have hs1 : slot (l.map vrA) i = .agg [.str k,.str v,.w (.int .i64 o),.w (.int .i64 t)] := hs1
       by_cases hz : rE n ⟨k,v,o,t⟩ = 0
       · rw [if_pos hz] at hd
         rcases rE_cases n k v o t with D | D | D | D | D | D | D
         · exact absurd (D.2 ▸ hz) (by decide)
         · exact absurd (D.2.2 ▸ hz) (by decide)
         · exact absurd (D.2.2.2 ▸ hz) (by decide)
         · exact absurd (D.2.2.2.2 ▸ hz) (by decide)
         · exact absurd (D.2.2.2.2.2 ▸ hz) (by decide)
         · exact absurd (D.2.2.2.2.2.2 ▸ hz) (by decide)
         obtain ⟨f1,f2,f3,f4,f5,f6,_⟩ := D
         simp only [go_sem,zaa,Nat.reduceAdd,Nat.reduceSub,Nat.reduceMul,Int.reduceToNat,reduceCtorEq,↓reduceIte,Int.reducePow,Nat.reducePow,Int.reduceMod,Nat.reduceLeDiff,Int.reduceLE,Int.reduceNe,Int.reduceEq,Nat.reduceEqDiff,Nat.reduceLT,Nat.reduceBEq,List.map_cons,List.map_nil,List.toList_toArray,Array.toList_append,Option.toArray_some,Option.toArray_none,Bool.and_self,ty,noS,zbc,hle,d2,hs1,e1,f1,f2,f3,f4,f5,f6,Int.toNat_natCast]
         repeat (refine And.intro (by omega) ?_)
         refine ⟨l.length - (i + 1),_,by omega,zai [0,1,2,3,4] rfl rfl rfl ?_ ?_,i + 1,rfl,by omega,hd.symm,rfl⟩
         · simp only [ssT,zao,zap,setSlot,gOf,AV.ren,renL,Blk.ren,Ax.look,Ax.put,reduceCtorEq,↓reduceIte,Nat.reduceEqDiff,Nat.reduceLT,Nat.reduceAdd,List.length_append,List.length_cons,List.length_nil,Option.some.injEq]; try simp
         · simp only [ssT,zao,zap,setSlot,gOf,AV.ren,renL,Blk.ren,Ax.look,Ax.put,reduceCtorEq,↓reduceIte,Nat.reduceEqDiff,Nat.reduceLT,Nat.reduceAdd,List.length_append,List.length_cons,List.length_nil,Option.some.injEq]; try simp
       · rw [if_neg hz] at hd
         have hb0 : ¬ badV n l = 0 := by rw [hd]; exact hz
         rw [hch,if_neg hb0,hd]
         rcases rE_cases n k v o t with D | D | D | D | D | D | D
         all_goals first
           | exact absurd D.2.2.2.2.2.2 hz
           | (simp only [go_sem,zaa,Nat.reduceAdd,Nat.reduceSub,Nat.reduceMul,Int.reduceToNat,reduceCtorEq,↓reduceIte,Int.reducePow,Nat.reducePow,Int.reduceMod,Nat.reduceLeDiff,Int.reduceLE,Int.reduceNe,Int.reduceEq,Nat.reduceEqDiff,Nat.reduceLT,Nat.reduceBEq,List.map_cons,List.map_nil,List.toList_toArray,Array.toList_append,Option.toArray_some,Option.toArray_none,Bool.and_self,ty,noS,zbc,hle,d2,hs1,D,Int.toNat_natCast]
              repeat (refine And.intro (by omega) ?_)
              refine ⟨_,Weak.refl _,?_⟩
              simp only [go_sem,zaa,Nat.reduceAdd,Nat.reduceSub,Nat.reduceMul,Int.reduceToNat,reduceCtorEq,↓reduceIte,Int.reducePow,Nat.reducePow,Int.reduceMod,Nat.reduceLeDiff,Int.reduceLE,Int.reduceNe,Int.reduceEq,Nat.reduceEqDiff,Nat.reduceLT,Nat.reduceBEq,List.map_cons,List.map_nil,List.toList_toArray,Array.toList_append,Option.toArray_some,Option.toArray_none,Bool.and_self,ty,noS,zbc]
              exact zav 2 rfl)
     · have d2 : decide ((i : Int) < l.length) = false := decide_eq_false (by omega)
       have hb0 : badV n l = 0 := by rw [← hb,List.drop_of_length_le (by omega)]; rfl
       rw [hch,if_pos hb0]
       simp only [go_sem,zaa,Nat.reduceAdd,Nat.reduceSub,Nat.reduceMul,Int.reduceToNat,reduceCtorEq,↓reduceIte,Int.reducePow,Nat.reducePow,Int.reduceMod,Nat.reduceLeDiff,Int.reduceLE,Int.reduceNe,Int.reduceEq,Nat.reduceEqDiff,Nat.reduceLT,Nat.reduceBEq,List.map_cons,List.map_nil,List.toList_toArray,Array.toList_append,Option.toArray_some,Option.toArray_none,Bool.and_self,ty,noS,zbc,hle,d2]
       refine ⟨_,Weak.refl _,?_⟩
       simp only [go_sem,zaa,Nat.reduceAdd,Nat.reduceSub,Nat.reduceMul,Int.reduceToNat,reduceCtorEq,↓reduceIte,Int.reducePow,Nat.reducePow,Int.reduceMod,Nat.reduceLeDiff,Int.reduceLE,Int.reduceNe,Int.reduceEq,Nat.reduceEqDiff,Nat.reduceLT,Nat.reduceBEq,List.map_cons,List.map_nil,List.toList_toArray,Array.toList_append,Option.toArray_some,Option.toArray_none,Bool.and_self,ty,noS,zbc,hle]
       refine zci ⟨fun m σ => ∃ i : Nat,m = l.length - i ∧ 1 ≤ i ∧ (i ≤ l.length ∨ i = 1) ∧ risV (l.drop (i - 1)) = risV l ∧
         σ = ⟨[.agg [.w (.int .i64 n),.sg 4 (l.map vrA) f],.rf 4 2 0 0,.w (.int .i64 0),.junk,.junk,.w (.int .i64 i),.junk,.junk,.junk,.junk,.junk,.junk,.junk,.junk,.junk,.junk,.junk,.junk,.junk,.junk,.junk,.junk,.junk,.junk,.junk,.junk,.junk,.junk,.junk,.junk,.junk,.junk,.junk,.junk,.junk,.junk,.junk,.junk,.junk,.junk,.junk,.junk,.junk,.junk,.junk,.junk,.junk,.junk,.junk,.junk,.junk,.junk,.junk,.junk,.junk,.junk,.junk,.junk,.junk,.junk,.junk,.junk,.junk,.junk,.junk,.junk,.junk,.junk,.junk,.junk,.junk,.junk,.junk,.junk,.junk,.junk,.junk,.junk,.junk,.junk,.junk,.junk,.junk,.junk,.junk],[(4,.g 2 [.agg [.w (.int .i64 n),.sg 4 (l.map vrA) f]])],5⟩,?_,?_⟩
       · refine ⟨_,_,zai [0,1,2,3,4] rfl rfl rfl ?_ ?_,1,rfl,by omega,by omega,rfl,rfl⟩
         · simp only [ssT,zao,zap,setSlot,gOf,AV.ren,renL,Blk.ren,Ax.look,Ax.put,reduceCtorEq,↓reduceIte,Nat.reduceEqDiff,Nat.reduceLT,Nat.reduceAdd,List.length_append,List.length_cons,List.length_nil,Option.some.injEq]; try simp
         · simp only [ssT,zao,zap,setSlot,gOf,AV.ren,renL,Blk.ren,Ax.look,Ax.put,reduceCtorEq,↓reduceIte,Nat.reduceEqDiff,Nat.reduceLT,Nat.reduceAdd,List.length_append,List.length_cons,List.length_nil,Option.some.injEq]; try simp
       · rintro m σ ⟨i,rfl,hi1,hi,hb,rfl⟩
         by_cases hil : i < l.length
         · have d2 : decide ((i : Int) < l.length) = true := decide_eq_true (by omega)
           have e1 : ((i : Int) + 1 + 9223372036854775808) % 18446744073709551616 - 9223372036854775808 = ((i + 1 : Nat) : Int) := by omega
           have e2 : ((i : Int) - 1 + 9223372036854775808) % 18446744073709551616 - 9223372036854775808 = ((i - 1 : Nat) : Int) := by omega
           have hs1 := zcm l i hil
           have hs2 := zcm l (i - 1) (by omega)
           have hd := risV_drop l (i - 1) (by omega)
           rw [hb] at hd
           have hi11 : i - 1 + 1 = i := by omega
           simp only [hi11] at hd
           obtain ⟨a,ha⟩ : ∃ x,l[i] = x := ⟨_,rfl⟩
           obtain ⟨b,hb2⟩ : ∃ x,l[i - 1]'(by omega) = x := ⟨_,rfl⟩
           rw [ha] at hs1
           rw [hb2] at hs2
           rw [ha,hb2] at hd
           obtain ⟨k1,v1,o1,t1⟩ := a
           obtain ⟨k2,v2,o2,t2⟩ := b
           have hs1 : slot (l.map vrA) i = .agg [.str k1,.str v1,.w (.int .i64 o1),.w (.int .i64 t1)] := hs1
           have hs2 : slot (l.map vrA) (i - 1) = .agg [.str k2,.str v2,.w (.int .i64 o2),.w (.int .i64 t2)] := hs2
           cases hB : Op.bytesLess k2 k1 with
           | true =>
             rw [show (⟨k2,v2,o2,t2⟩ : VR).k = k2 from rfl,show (⟨k1,v1,o1,t1⟩ : VR).k = k1 from rfl,hB,Bool.true_and] at hd
             simp only [go_sem,zaa,Nat.reduceAdd,Nat.reduceSub,Nat.reduceMul,Int.reduceToNat,reduceCtorEq,↓reduceIte,Int.reducePow,Nat.reducePow,Int.reduceMod,Nat.reduceLeDiff,Int.reduceLE,Int.reduceNe,Int.reduceEq,Nat.reduceEqDiff,Nat.reduceLT,Nat.reduceBEq,List.map_cons,List.map_nil,List.toList_toArray,Array.toList_append,Option.toArray_some,Option.toArray_none,Bool.and_self,ty,noS,zbc,hle,d2,hs1,hs2,e1,e2,hB,Bool.not_true,Bool.not_false,Int.toNat_natCast]
             repeat (refine And.intro (by omega) ?_)
             refine ⟨l.length - (i + 1),_,by omega,zai [0,1,2,3,4] rfl rfl rfl ?_ ?_,i + 1,rfl,by omega,by omega,?_,rfl⟩
             · simp only [ssT,zao,zap,setSlot,gOf,AV.ren,renL,Blk.ren,Ax.look,Ax.put,reduceCtorEq,↓reduceIte,Nat.reduceEqDiff,Nat.reduceLT,Nat.reduceAdd,List.length_append,List.length_cons,List.length_nil,Option.some.injEq]; try simp
             · simp only [ssT,zao,zap,setSlot,gOf,AV.ren,renL,Blk.ren,Ax.look,Ax.put,reduceCtorEq,↓reduceIte,Nat.reduceEqDiff,Nat.reduceLT,Nat.reduceAdd,List.length_append,List.length_cons,List.length_nil,Option.some.injEq]; try simp
             · show risV (l.drop i) = _
               exact hd.symm
           | false =>
             rw [show (⟨k2,v2,o2,t2⟩ : VR).k = k2 from rfl,show (⟨k1,v1,o1,t1⟩ : VR).k = k1 from rfl,hB,Bool.false_and] at hd
             rw [if_neg (by rw [hd]; simp)]
             simp only [go_sem,zaa,Nat.reduceAdd,Nat.reduceSub,Nat.reduceMul,Int.reduceToNat,reduceCtorEq,↓reduceIte,Int.reducePow,Nat.reducePow,Int.reduceMod,Nat.reduceLeDiff,Int.reduceLE,Int.reduceNe,Int.reduceEq,Nat.reduceEqDiff,Nat.reduceLT,Nat.reduceBEq,List.map_cons,List.map_nil,List.toList_toArray,Array.toList_append,Option.toArray_some,Option.toArray_none,Bool.and_self,ty,noS,zbc,hle,d2,hs1,hs2,e1,e2,hB,Bool.not_true,Bool.not_false,Int.toNat_natCast]
             repeat (refine And.intro (by omega) ?_)
             refine ⟨_,Weak.refl _,?_⟩
             simp only [go_sem,zaa,Nat.reduceAdd,Nat.reduceSub,Nat.reduceMul,Int.reduceToNat,reduceCtorEq,↓reduceIte,Int.reducePow,Nat.reducePow,Int.reduceMod,Nat.reduceLeDiff,Int.reduceLE,Int.reduceNe,Int.reduceEq,Nat.reduceEqDiff,Nat.reduceLT,Nat.reduceBEq,List.map_cons,List.map_nil,List.toList_toArray,Array.toList_append,Option.toArray_some,Option.toArray_none,Bool.and_self,ty,noS,zbc]
             exact zav 2 rfl
         · have d2 : decide ((i : Int) < l.length) = false := decide_eq_false (by omega)
           have hr : risV l = true := by rw [← hb]; exact risV_last l _ (by omega)
           rw [if_pos hr]
           simp only [go_sem,zaa,Nat.reduceAdd,Nat.reduceSub,Nat.reduceMul,Int.reduceToNat,reduceCtorEq,↓reduceIte,Int.reducePow,Nat.reducePow,Int.reduceMod,Nat.reduceLeDiff,Int.reduceLE,Int.reduceNe,Int.reduceEq,Nat.reduceEqDiff,Nat.reduceLT,Nat.reduceBEq,List.map_cons,List.map_nil,List.toList_toArray,Array.toList_append,Option.toArray_some,Option.toArray_none,Bool.and_self,ty,noS,zbc,hle,d2]
           refine ⟨_,Weak.refl _,?_⟩
           simp only [go_sem,zaa,Nat.reduceAdd,Nat.reduceSub,Nat.reduceMul,Int.reduceToNat,reduceCtorEq,↓reduceIte,Int.reducePow,Nat.reducePow,Int.reduceMod,Nat.reduceLeDiff,Int.reduceLE,Int.reduceNe,Int.reduceEq,Nat.reduceEqDiff,Nat.reduceLT,Nat.reduceBEq,List.map_cons,List.map_nil,List.toList_toArray,Array.toList_append,Option.toArray_some,Option.toArray_none,Bool.and_self,ty,noS,zbc]
           exact zav 2 rfl
 · exact hp.elim
end
end Go.Proofs.Ythjceeimbohajaa
