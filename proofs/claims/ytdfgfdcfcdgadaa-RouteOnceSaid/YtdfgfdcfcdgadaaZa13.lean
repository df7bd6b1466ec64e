/- What the proofs of this seat stand on; it asks nothing. -/
import Derived.Test.YtdfgfdcfcdgadaaZa12
set_option linter.unusedSimpArgs false
set_option linter.unusedVariables false
namespace Go.Proofs.Ytdfgfdcfcdgadaa
namespace Ax
structure CS where
 sl : Tr AV
 n : Nat
 H : Tr Blk
 nx : Nat
 fl : Nat
noncomputable def evC (n : Nat) (sl : Tr AV) : Operand → AV
 | .tmp t => bif Nat.blt t n then sget sl t else .junk
 | .const v => cv v
 | .func f => .fn f []
 | .global _ => .junk
theorem zfy (n : Nat) (sl : Tr AV) (x : Operand) : ev (toS n sl) x = evC n sl x := by
 cases x with
 | tmp t =>
  simp only [ev,evC,zms]
  by_cases h : t < n
  ·have : Nat.blt t n = true := by rw [Nat.blt_eq]; exact h
   simp [h,this]
  ·have : Nat.blt t n = false := by
    cases hb : Nat.blt t n with
    | false => rfl
    | true => rw [Nat.blt_eq] at hb; exact (h hb).elim
   simp [h,this]
 | _ => rfl
def most : Nat := 1152921504606846975
theorem zry {k : Nat} (h : Nat.blt k most = true) : k + 1 < 2 ^ 60 := by
 rw [Nat.blt_eq] at h; unfold most at h; omega
section
variable {β : Type}
noncomputable def appK : Us → Tr Blk → (Tr Blk → Option β) → Option β
 | [],H,κ => κ H
 | (k,b) :: r,H,κ => appK r H fun H => bif Nat.blt k most then (match b with
   | some b => zzo b fun b => Tr.setK H k (some b) κ
   | none => Tr.setK H k none κ) else none
theorem yhr : ∀ {us : Us} {H : Tr Blk} {κ : Tr Blk → Option β} {z : β},appK us H κ = some z → ∃ H',κ H' = some z ∧ ∀ id,H'.get id = upd us H.get id
 | [],H,κ,z,h => ⟨H,h,fun _ => rfl⟩
 | (k,b) :: r,H,κ,z,h => by
  obtain ⟨H1,h1,h2⟩ := yhr (us := r) h
  cases hk : Nat.blt k most with
  | false => rw [hk] at h1; cases h1
  | true =>
   rw [hk,cond_true] at h1
   have hm := zry hk
   cases b with
   | none =>
    simp only [zfe] at h1
    exact ⟨_,h1,fun id => by rw [zhz _ _ _ _ hm]; simp only [upd,eq_comm,h2]⟩
   | some b =>
    simp only [yga,zfe] at h1
    exact ⟨_,h1,fun id => by rw [zhz _ _ _ _ hm]; simp only [upd,eq_comm,h2]⟩
def geU (fl : Nat) : Us → Bool
 | [] => true
 | p :: r => Nat.ble fl p.1 && geU fl r
theorem ykm {fl : Nat} : ∀ {us : Us},geU fl us = true → ∀ (lk : Nat → Option Blk) (id : Nat),id < fl → upd us lk id = lk id
 | [],_,lk,id,_ => rfl
 | (k,b) :: r,h,lk,id,hi => by
  simp only [geU,Bool.and_eq_true] at h
  have h1 := Nat.le_of_ble_eq_true h.1
  simp only [upd]
  rw [if_neg (by omega)]
  exact ykm h.2 lk id hi
noncomputable def appF (fl : Nat) (us : Us) (H : Tr Blk) (κ : Tr Blk → Option β) : Option β := bif geU fl us then appK us H κ else none
theorem zyc {fl : Nat} {us : Us} {H : Tr Blk} {κ : Tr Blk → Option β} {z : β} (h : appF fl us H κ = some z) : ∃ H',κ H' = some z ∧ (∀ id,H'.get id = upd us H.get id) ∧ ∀ id,id < fl → H'.get id = H.get id := by
 unfold appF at h
 cases hg : geU fl us with
 | false => rw [hg] at h; cases h
 | true =>
  rw [hg,cond_true] at h
  obtain ⟨H',h1,h2⟩ := yhr h
  exact ⟨H',h1,h2,fun id hi => by rw [h2,ykm hg _ id hi]⟩
noncomputable def putK (n : Nat) (sl : Tr AV) (d : Option Tmp) (x : AV) (κ : Tr AV → Option β) : Option β :=
 match d with
 | none => κ sl
 | some d => bif Nat.blt d n && Nat.blt d most then Tr.setK sl d (some x) κ else none
theorem yef {n : Nat} {sl : Tr AV} {d : Option Tmp} {x : AV} {κ : Tr AV → Option β} {z : β} (h : putK n sl d x κ = some z) :
  ∃ sl',κ sl' = some z ∧ ∀ t,slot (toS n sl') t = if d = some t ∧ t < n then x else slot (toS n sl) t := by
 cases d with
 | none => exact ⟨sl,h,fun t => by simp⟩
 | some d =>
  simp only [putK] at h
  cases hc : (Nat.blt d n && Nat.blt d most) with
  | false => rw [hc] at h; cases h
  | true =>
   rw [hc,cond_true,zfe] at h
   simp only [Bool.and_eq_true] at hc
   have hm := zry hc.2
   refine ⟨_,h,fun t => ?_⟩
   rw [zms,zms]
   by_cases ht : t < n
   ·rw [if_pos ht,if_pos ht]
    unfold sget
    rw [zhz _ _ _ _ hm]
    by_cases e : t = d
    ·subst e; simp [ht]
    ·have : ¬ (some d = some t ∧ t < n) := fun h => e (by injection h.1 with h; exact h.symm)
     rw [if_neg e,if_neg this]
   ·rw [if_neg ht,if_neg ht,if_neg (fun h => ht h.2)]
end
def Tr.union {α : Type} : Tr α → Tr α → Tr α
 | t,.leaf => t
 | .leaf,.node l a r => .node l a r
 | .node l a r,.node l' a' r' => .node (l.union l') (match a' with | some x => some x | none => a) (r.union r')
theorem zcu {α : Type} : ∀ (t s : Tr α) (n : Nat),(t.union s).get n = match s.get n with | some b => some b | none => t.get n
 | t,.leaf,n => by cases t <;> rfl
 | .leaf,.node l a r,n => by
  simp only [Tr.union,zdx]
  try (cases (Tr.node l a r).get n <;> rfl)
 | .node l a r,.node l' a' r',n => by
  cases n with
  | zero => cases a' <;> simp [Tr.union,zdf]
  | succ n =>
   simp only [Tr.union,zcy,zcu l l',zcu r r']
   try (cases Nat.beq (n % 2) 0 <;> rfl)
def Tr.unionK {α β : Type} : Tr α → Tr α → (Tr α → β) → β
 | t,.leaf,κ => κ t
 | .leaf,.node l a r,κ => κ (.node l a r)
 | .node l a r,.node l' a' r',κ => l.unionK l' fun l2 => r.unionK r' fun r2 => match a' with
  | some x => κ (.node l2 (some x) r2)
  | none => κ (.node l2 a r2)
theorem zkd {α β : Type} : ∀ (t s : Tr α) (κ : Tr α → β),t.unionK s κ = κ (t.union s)
 | t,.leaf,κ => by cases t <;> rfl
 | .leaf,.node l a r,κ => rfl
 | .node l a r,.node l' a' r',κ => by
  simp only [Tr.unionK,zkd l l',zkd r r',Tr.union]
  cases a' <;> rfl
noncomputable def gcK {β : Type} (src : Tr Blk) : Nat → List Nat → Tr Blk → (Tr Blk → β) → β
 | 0,_,acc,κ => κ acc
 | _ + 1,[],acc,κ => κ acc
 | n + 1,id :: r,acc,κ => match acc.get id with
  | some _ => gcK src n r acc κ
  | none => match src.get id with
   | some b => bif Nat.blt id most then Tr.setK acc id (some b) fun acc => gcK src n (b.ids ++ r) acc κ else gcK src n r acc κ
   | none => gcK src n r acc κ
theorem zqn {β : Type} {src : Tr Blk} : ∀ (n : Nat) (l : List Nat) (acc : Tr Blk) (κ : Tr Blk → β),∃ t,gcK src n l acc κ = κ t ∧ ∀ id b,t.get id = some b → acc.get id = some b ∨ src.get id = some b
 | 0,l,acc,κ => ⟨acc,rfl,fun id b h => .inl h⟩
 | n + 1,[],acc,κ => ⟨acc,rfl,fun id b h => .inl h⟩
 | n + 1,k :: r,acc,κ => by
  unfold gcK
  split
  ·exact zqn n r acc κ
  ·split
   ·rename_i b hb
    cases hk : Nat.blt k most with
    | false => exact zqn n r acc κ
    | true =>
     simp only [cond_true,zfe]
     obtain ⟨t,h1,h2⟩ := zqn (src := src) n (b.ids ++ r) (Tr.set acc k (some b)) κ
     refine ⟨t,h1,fun id c h => ?_⟩
     rcases h2 id c h with h | h
     ·rw [zhz _ _ _ _ (zry hk)] at h
      by_cases e : id = k
      ·rw [if_pos e] at h; subst e; exact .inr (hb.trans h)
      ·rw [if_neg e] at h; exact .inl h
     ·exact .inr h
   ·exact zqn n r acc κ
abbrev zcw := FuncId → List AV → Tr Blk → Nat → Nat → Option (AV × Tr Blk × Nat)
noncomputable def ykl (H Hr : Tr Blk) (nx id : Nat) : Bool := match Hr.get id with
 | some _ => true
 | none => match H.get id with
  | some _ => false
  | none => Nat.blt id nx
noncomputable def allN (H Hr : Tr Blk) (nx : Nat) : List Nat → Bool
 | [] => true
 | id :: r => ykl H Hr nx id && allN H Hr nx r
theorem zsx {H Hr : Tr Blk} {nx : Nat} : ∀ {l : List Nat},allN H Hr nx l = true → ∀ id ∈ l,Hr.get id ≠ none ∨ (H.get id = none ∧ id < nx)
 | [],_,id,h => by cases h
 | k :: r,h,id,hm => by
  simp only [allN,Bool.and_eq_true] at h
  rcases List.mem_cons.1 hm with e | e
  ·subst e
   have h1 := h.1
   unfold ykl at h1
   split at h1
   ·rename_i b hb; exact .inl (by rw [hb]; simp)
   ·split at h1
    ·cases h1
    ·rename_i hn; exact .inr ⟨hn,by rwa [Nat.blt_eq] at h1⟩
  ·exact zsx h.2 id e
def zct (T : zac) (q : Bool) : Op → Nat
 | .call c => match c.callee with
  | .value _ => bif q then 1 else 2
  | _ => zai T (.call c)
 | op => zai T op
abbrev zgs := FuncId → Option (List AV → (Nat → Option Blk) → Nat → Option (AV × Us))
def zgg (P : Program) (S : zal) (SB : zgs) : Prop := ∀ g h,SB g = some h → (∀ (A : List AV) (H : Heap) (lk : Nat → Option Blk) (nm : Nat),(∀ id,look H id = lk id) → Told (aUser S nm g A H) lk (h A lk nm)) ∨
 ∃ SO : zal,FnsO P SO ∧ ∀ (A : List AV) (H : Heap) (lk : Nat → Option Blk) (nm : Nat),(∀ id,look H id = lk id) → Told (aOpen SO nm g A H) lk (h A lk nm)
def cSp (T : zac) (e : Operand → AV) (lk : Nat → Option Blk) (op : Op) : Option AV :=
 match op with
 | .binOp b t x (.const (.slice none 0 0)) _ => match T t with
  | some ti => match ti.d with
   | .slice _ => match e x with
    | .ms id _ _ len => match lk id with
     | some _ => bif decide (0 < len) then (match b with
       | .eql => some (.w (.bool false))
       | .neq => some (.w (.bool true))
       | _ => none) else none
     | none => none
    | _ => none
   | _ => none
  | none => none
 | _ => none
def zhn (n : Nat) : Blk → Blk
 | .b bs => .b (bs.take n)
 | .i ns => .i (ns.take n)
 | .g s xs => .g s (xs.take n)
 | .o x => .o x
def znd (e : Operand → AV) (lk : Nat → Option Blk) (op : Op) : Option (Nat × Blk) :=
 match op with
 | .call c => match c.callee with
  | .builtin .append => match c.args.toList with
   | [d,_] => match e d with
    | .ms id _ 0 len => match lk id with
     | some blk => bif Nat.blt len blk.len then some (id,zhn len blk) else none
     | none => none
    | _ => none
   | _ => none
  | _ => none
 | _ => none
def lkT (lk : Nat → Option Blk) (id : Nat) (b : Blk) (k : Nat) : Option Blk := if k = id then some b else lk k
def yfm (id : Nat) : Us → Bool
 | [] => false
 | p :: r => Nat.beq p.1 id || yfm id r
section
variable (T : zac) (SB : zgs) (call : zcw)
noncomputable def yek (τ : CS) (q : Bool) (c : Call) (g : FuncId) (A : List AV) : Option (AV × Tr Blk × Nat) :=
 match SB g with
 | some h => match h A τ.H.get τ.nx with
  | some (x,us) => bif !quietC T c && !q then
    (appF τ.fl us τ.H fun H => zeg (τ.nx + 8) fun nz => some (x,H,nz)) else none
  | none => none
 | none => none
noncomputable def zjl (τ : CS) (op : Op) : Option (AV × Tr Blk × Nat) :=
 match cSp T (evC τ.n τ.sl) τ.H.get op with
 | some x => zeg (τ.nx + 8) fun nz => some (x,τ.H,nz)
 | none => match znd (evC τ.n τ.sl) τ.H.get op with
  | some (id,b) => match cop T τ.nx (evC τ.n τ.sl) (lkT τ.H.get id b) op with
   | some (x,us) => bif yfm id us then (appF τ.fl us τ.H fun H => zeg (τ.nx + 8) fun nz => some (x,H,nz)) else none
   | none => none
  | none => match cop T τ.nx (evC τ.n τ.sl) τ.H.get op with
   | some (x,us) => appF τ.fl us τ.H fun H => zeg (τ.nx + 8) fun nz => some (x,H,nz)
   | none => none
noncomputable def yed (τ : CS) (g : FuncId) (A : List AV) (Hr : Tr Blk) : Option (AV × Tr Blk × Nat) :=
 bif allN τ.H Hr τ.nx (idsL A) && allT (fun b => allN τ.H Hr τ.nx b.ids) Hr then
  (match call g A Hr τ.nx τ.nx with
   | some (x,H,nz) => τ.H.unionK H fun H => some (x,H,nz)
   | none => none)
  else none
noncomputable def yla (τ : CS) (g : FuncId) (A : List AV) : Option (AV × Tr Blk × Nat) := gcK τ.H 100000 (idsL A) .leaf (yed call τ g A)
noncomputable def ztq (τ : CS) (q : Bool) (op : Op) : Option (AV × Tr Blk × Nat) :=
 match op with
 | .call c => match c.callee with
  | .value f => match evC τ.n τ.sl f with
   | .fn g caps => match yek T SB τ q c g (coes T c.argTypes.toList (c.args.toList.map (evC τ.n τ.sl)) ++ caps) with
    | some r => some r
    | none => bif q then
     (bif closedL ((coes T c.argTypes.toList (c.args.toList.map (evC τ.n τ.sl)) ++ caps).map (frqV τ.H)) then
      (match call g ((coes T c.argTypes.toList (c.args.toList.map (evC τ.n τ.sl)) ++ caps).map (frqV τ.H)) .leaf τ.nx 0 with
       | some (x,H,nz) => gcK H 100000 x.ids .leaf fun H => bif x.noimm && allT Blk.noimm H then (τ.H.unionK H fun H => some (x,H,nz)) else none
       | none => none)
      else yla call τ g (coes T c.argTypes.toList (c.args.toList.map (evC τ.n τ.sl)) ++ caps))
     else call g (coes T c.argTypes.toList (c.args.toList.map (evC τ.n τ.sl)) ++ caps) τ.H τ.nx τ.fl
   | _ => none
  | _ => zjl T τ op
 | _ => zjl T τ op
noncomputable def ycd (τ : CS) (q : Bool) (o : Oper) : Option CS :=
 match ztq T SB call τ q o.op with
 | some (x,H,nz) => zzn x fun x => putK τ.n τ.sl o.dst x fun sl => some ⟨sl,τ.n,H,nz,τ.fl⟩
 | none => none
noncomputable def zqe (τ : CS) (o : Oper) : Option CS := putK τ.n τ.sl o.dst (.tup []) fun sl => some ⟨sl,τ.n,τ.H,τ.nx,τ.fl⟩
noncomputable def zll (ops : List Oper) (q : Bool) (τ : CS) (o : Oper) : Option CS :=
 match o.guard with
 | none => ycd T SB call τ q o
 | some (j,want) => match guardSlot ops j with
  | none => none
  | some d => match evC τ.n τ.sl (.tmp d) with
   | .w (.bool b) => bif b == want then ycd T SB call τ q o else zqe τ o
   | .tup [] => zqe τ o
   | _ => none
noncomputable def zfu (ops : List Oper) (q : Nat → Bool) : Nat → List Oper → CS → Option CS
 | _,[],τ => some τ
 | k,o :: r,τ => match zll T SB call ops (q k) τ o with
  | some τ => zfu ops q (k + 1) r τ
  | none => none
end
def ygx (kx ky : Nat) (ops : List Oper) (x y : Oper) : Bool :=
 (match x.dst with
  | some d => (y.looksAt ops.toArray).contains d || y.dst == some d
  | none => false) ||
 (match y.dst with
  | some d => (x.looksAt ops.toArray).contains d
  | none => false) ||
 (decide (kx = 2) && !decide (ky = 0)) || (decide (ky = 2) && !decide (kx = 0))
def zic (k : Nat → Op → Nat) (ops : List Oper) : Bool :=
 (List.range ops.length).all fun j => match ops[j]? with
  | some y => zxz j y.after.toList && (List.range j).all fun i => match ops[i]? with
   | some x => !ygx (k i x.op) (k j y.op) ops x y || ((zgx [] ops).getD j 0).testBit i
   | none => true
  | none => true
theorem yiz {k : Nat → Op → Nat} {l : List Oper} (h : zic k l = true) : zyg l (fun i => match l[i]? with | some o => k i o.op | none => 0) := by
 unfold zic at h
 have h := List.all_eq_true.1 h
 refine ⟨fun j o ho => ?_,fun i j x y hij hx hy hc => ?_⟩
 ·have := h j (List.mem_range.2 (zbs ho))
  simp only [ho,Bool.and_eq_true] at this
  exact zie this.1
 ·have := h j (List.mem_range.2 (zbs hy))
  simp only [hy,Bool.and_eq_true] at this
  have := List.all_eq_true.1 this.2 i (List.mem_range.2 hij)
  simp only [hx] at this
  simp only [hx,hy] at hc
  have hcl : ygx (k i x.op) (k j y.op) l x y = true := by
   unfold ygx
   rcases hc with ⟨d,h1,h2⟩ | ⟨d,h1,h2⟩ | ⟨h1,h2⟩ | ⟨h1,h2⟩
   ·rw [h1]; rcases h2 with h2 | h2 <;> simp [h2]
   ·rw [h1]; simp [h2]
   ·simp [h1,h2]
   ·simp [h1,h2]
  simp only [hcl,Bool.not_true,Bool.false_or] at this
  exact this
def ynf : Op → Bool
 | .call c => match c.callee with
  | .value _ => true
  | _ => false
 | _ => false
def zmf (T : zac) (ops : List Oper) : List Bool :=
 (List.range ops.length).map fun i => match ops[i]? with
  | some x => ynf x.op && (List.range ops.length).any fun j => match ops[j]? with
   | some y => !(i == j) && (!(((zgx [] ops).getD j 0).testBit i || ((zgx [] ops).getD i 0).testBit j) && !(zct T false y.op == 0))
   | none => false
  | none => false
section
variable (T : zac) (SB : zgs) (call : zcw)
noncomputable def zwy (f : CS → Option (Exit × CS)) : Nat → CS → Option (Exit × CS)
 | 0,_ => none
 | k + 1,τ => match f τ with
  | some (.normal,τ) => zwy f k τ
  | some (.exit id,τ) => some (.exit id,τ)
  | some (.ret,τ) => some (.ret,τ)
  | _ => none
noncomputable def runC : Code → CS → Option (Exit × CS)
 | .skip,τ => some (.normal,τ)
 | .label _,τ => some (.normal,τ)
 | .region _ ops draw,τ => bif draw then
     (bif zic (fun i => zct T ((zmf T ops.toList).getD i false)) ops.toList then (match zfu T SB call ops.toList (fun i => (zmf T ops.toList).getD i false) 0 ops.toList τ with | some τ => some (.normal,τ) | none => none)
      else none)
     else (match zfu T SB call ops.toList (fun _ => false) 0 ops.toList τ with | some τ => some (.normal,τ) | none => none)
 | .seq a b,τ => match runC a τ with
   | some (.normal,τ) => runC b τ
   | some (.exit id,τ) => some (.exit id,τ)
   | some (.ret,τ) => some (.ret,τ)
   | _ => none
 | .cond c a b,τ => match evC τ.n τ.sl c with
   | .w (.bool true) => runC a τ
   | .w (.bool false) => runC b τ
   | _ => none
 | .block id c,τ => match runC c τ with
   | some (.exit id',τ) => if id' = id then some (.normal,τ) else some (.exit id',τ)
   | some (.normal,τ) => some (.normal,τ)
   | some (.ret,τ) => some (.ret,τ)
   | _ => none
 | .loop c,τ => zwy (runC c) 1000000 τ
 | .exit id,τ => some (.exit id,τ)
 | .ret,τ => some (.ret,τ)
 | _,_ => none
noncomputable def zop (τ : CS) : List ResultVar → Option (List AV)
 | [] => some []
 | .tmp t :: r => match zop τ r with
  | some l => some (evC τ.n τ.sl (.tmp t) :: l)
  | none => none
 | .cell a t :: r => match zop τ r with
  | some l => match yhe T t (evC τ.n τ.sl (.tmp a)) τ.H.get with
   | some (x,_) => some (x :: l)
   | none => none
  | none => none
noncomputable def yfd {β : Type} : List AV → Nat → Tr AV → (Tr AV → Option β) → Option β
 | [],_,t,κ => κ t
 | x :: r,k,t,κ => zky x fun x => bif Nat.blt k most then Tr.setK t k (some x) fun t => yfd r (k + 1) t κ else none
end
def ylj : Exit → Bool
 | .normal => true
 | .ret => true
 | _ => false
noncomputable def ydc (P : Program) (T : zac) (SB : zgs) : Nat → zcw
 | 0,_,_,_,_,_ => none
 | k + 1,g,args,H,nx,fl => match P.funcs[g]? with
  | some fn => match fn.body with
   | some c => bif fn.name == "runtime.NumGoroutine" then none else
    bif Nat.ble args.length fn.ntmps then
     yfd args 0 .leaf fun sl => match runC T SB (ydc P T SB k) c ⟨sl,fn.ntmps,H,nx,fl⟩ with
      | some (e,τ) => bif ylj e then (match zop T τ fn.results.toList with
        | some l => some (rone l,τ.H,τ.nx)
        | none => none) else none
      | none => none
    else none
   | none => none
  | none => none
end Ax
end Go.Proofs.Ytdfgfdcfcdgadaa
namespace Go.Proofs.Ytdfgfdcfcdgadaa
namespace Ax
open Go.RowKit
def LowC (H : Tr Blk) (nx : Nat) : Prop := ∀ id b,H.get id = some b → id < nx
def zph (P : Program) (call : zcw) : Prop :=
 ∀ g args H nx fl x H' nz,call g args H nx fl = some (x,H',nz) →
  nx ≤ nz ∧ (∀ id b,H'.get id = some b → H.get id ≠ none ∨ (nx ≤ id ∧ id < nz)) ∧ zpf P g ∧ (fl ≤ nx → ∀ id,id < fl → H'.get id = H.get id) ∧
  (LowC H nx → ∀ (w0 : World) (E : Nat → Prop) (w : World) (loc : Loc) (vs : List Value),args.length = vs.length → (∀ (j : Nat) (h : j < args.length) (h' : j < vs.length),R w loc args[j] vs[j]) →
   HR w loc (toH H) → Env w0 E w loc → (∀ id,nx ≤ id → id < nz → loc.m id = .free) →
   Calls P g vs.toArray w fun e w' => ∃ v loc',e = .returned v ∧ PostW w0 E w loc nx nz x (toH H') v w' loc')
theorem HR.congr {w : World} {loc : Loc} {A B : Heap} (h : HR w loc A) (e : ∀ id,look B id = look A id) : HR w loc B := fun id b hb => h id b ((e id).symm.trans hb)
theorem zlq (P : Program) : Fns P (fun _ => none) := fun f s h => by cases h
structure yhu (P : Program) (T : zac) (q : Bool) (τ : CS) (op : Op) (x : AV) (H : Tr Blk) (nz : Nat) : Prop where
 mono : τ.nx ≤ nz
 new : ∀ id b,H.get id = some b → τ.H.get id ≠ none ∨ (τ.nx ≤ id ∧ id < nz)
 keep : LowC τ.H τ.nx → zct T q op ≤ 1 → ∀ id,¬ (τ.nx ≤ id ∧ id < nz) → H.get id = τ.H.get id
 same : zct T q op = 0 → ∀ id,H.get id = τ.H.get id
 old : τ.fl ≤ τ.nx → ∀ id,id < τ.fl → H.get id = τ.H.get id
 sem : LowC τ.H τ.nx → ∀ (w0 : World) (E : Nat → Prop) (w : World) (loc : Loc) (a : Act) (o : Oper),o.op = op → ∀ (next : Act → World → Prop) (Q : Exit → Act → World → Prop),
  (∀ y ∈ op.operands.toList,R w loc (evC τ.n τ.sl y) (a.eval y)) → (zct T q op ≠ 0 → HR w loc (toH τ.H)) → Env w0 E w loc → (∀ id,τ.nx ≤ id → id < nz → loc.m id = .free) →
  (∀ v w' loc',R w' loc' x v → (∃ C : Nat → Prop,Ext C w loc w' loc' ∧ Calm (zct T q op) C τ.nx (look (toH τ.H)) w' loc') → (∀ id,loc.m id = .free → loc'.m id ≠ .free → τ.nx ≤ id ∧ id < nz) → Env w0 E w' loc' →
   (zct T q op ≠ 0 → HR w' loc' (toH H)) → loc'.bad = loc.bad → next (a.put o.dst v) w') → o.wp P a w next Q
theorem znx {T : zac} {q : Bool} {op : Op} (h : ∀ c f,op = .call c → c.callee ≠ .value f) : zct T q op = zai T op := by
 cases op with
 | call c =>
  simp only [zct]
  cases hc : c.callee with
  | value f => exact (h c f rfl hc).elim
  | _ => rfl
 | _ => rfl
theorem yoc {P : Program} {T : zac} (hT : TOk P T) {n : Nat} {sl : Tr AV} {H : Tr Blk} {op : Op} {x : AV} (h : cSp T (evC n sl) H.get op = some x) {w : World} {loc : Loc} {a : Act} (hev : ∀ y ∈ op.operands.toList,R w loc (evC n sl y) (a.eval y)) (hh : zai T op ≠ 0 → HR w loc (toH H)) :
  ∃ v,R w loc x v ∧ ∀ o : Oper,o.op = op → (execOp a.eval o).run P w = .ok (.value v) w := by
 unfold cSp at h
 split at h
 ·rename_i b t y yt
  split at h
  ·rename_i ti ht
   split at h
   ·rename_i e hd
    have hu : P.underlying t = some (.slice e) := by
     have := (hT t ti ht).d
     rw [hd] at this
     exact this
    have hy := hev y (by simp [Op.operands])
    generalize evC n sl y = yv at hy h
    split at h
    ·rename_i id s off len
     split at h
     ·rename_i blk hb
      cases hlen : decide (0 < len) with
      | false => rw [hlen] at h; cases h
      | true =>
       have hl0 : 0 < len := of_decide_eq_true hlen
       rw [hlen,cond_true] at h
       have key : ∀ (ad : Addr) (k c : Nat),(Op.equal t (.slice (some ad) k c) (.slice none 0 0)).run P w = .ok false w := by
        intro ad k c
        have heq : ∀ d,(Op.equalIn (d + 1) t (.slice (some ad) k c) (.slice none 0 0)).run P w = .ok false w := fun d => by simp [Op.equalIn,run_underlying hu]
        exact heq 9999
       have hop : b = .eql ∨ b = .neq := by cases b <;> first | exact .inl rfl | exact .inr rfl | cases h
       have hk : zai T (.binOp b t y (.const (.slice none 0 0)) yt) ≠ 0 := by rcases hop with rfl | rfl <;> simp [zai]
       have hbr := hh hk id blk (by rw [zat]; exact hb)
       generalize hv : a.eval y = v at hy
       cases hy with
       | ms _ _ _ _ _ ho =>
        unfold Owns at ho
        unfold BlkR at hbr
        cases hm : loc.m id with
        | free => rw [hm] at ho; exact ho.elim
        | dead => rw [hm] at hbr; exact hbr.elim
        | nil => rw [hm] at ho; omega
        | here bb =>
         rw [hm] at ho
         obtain ⟨o',cap,cur,el,fz,rfl,_⟩ := ho
         rcases hop with rfl | rfl
         ·injection h with h; subst h
          refine ⟨.bool false,.w _ rfl,fun o ho => ?_⟩
          simp only [execOp,ho,hv]
          simp [zbz (u := .slice (some ⟨bb,o',none⟩) len cap) rfl (by simp),binOp,key,Act.eval]
         ·injection h with h; subst h
          refine ⟨.bool true,.w _ rfl,fun o ho => ?_⟩
          simp only [execOp,ho,hv]
          simp [zbz (u := .slice (some ⟨bb,o',none⟩) len cap) rfl (by simp),binOp,key,Act.eval]
     ·cases h
    ·cases h
   ·cases h
  ·cases h
 ·cases h
theorem yic {w : World} {loc : Loc} {id n : Nat} {blk : Blk} (h : BlkR w loc id blk) : BlkR w loc id (zhn n blk) := by
 unfold BlkR at h ⊢
 have hok : blk.ok → (zhn n blk).ok := by
  intro hk
  cases blk with
  | g s xs => exact ⟨hk.1,fun x hx => hk.2 x (List.mem_of_mem_take hx)⟩
  | _ => trivial
 split
 ·trivial
 ·rename_i e; rw [e] at h; exact h
 ·rename_i e
  rw [e] at h
  refine ⟨hok h.1,?_⟩
  have := h.2
  cases blk <;> simp_all [zhn,Blk.len]
 ·rename_i b e
  rw [e] at h
  obtain ⟨hk,hl⟩ := h
  refine ⟨hok hk,?_⟩
  rcases zbi blk with ⟨x,hx,rfl⟩ | hodd
  ·exact hl
  obtain ⟨cur,el,fz,h1,h2,h3,h4,h5⟩ := hl.lies hodd
  have hpre : ∃ m,(zhn n blk).flat = blk.flat.take m := by
   cases blk with
   | b bs => exact ⟨n,by simp [zhn,Blk.flat,List.map_take]⟩
   | i ns => exact ⟨n,by simp [zhn,Blk.flat,List.map_take]⟩
   | g s xs => exact ⟨n * s,zbl xs n hk.2⟩
   | o x => cases hodd
  obtain ⟨m,hm⟩ := hpre
  refine .mkC ⟨cur,el,fz,h1,by cases blk <;> exact h2,h3,by rw [hm,List.length_take]; omega,fun j hj hj' => ?_⟩ (by cases blk <;> first | rfl | cases hodd)
  have hj0 : j < blk.flat.length := by rw [hm,List.length_take] at hj; omega
  have e1 : (zhn n blk).flat[j] = blk.flat[j] := by simp only [hm]; rw [List.getElem_take]
  rw [e1]
  exact h5 j hj0 hj'
theorem ybe {e : Operand → AV} {lk : Nat → Option Blk} {op : Op} {id : Nat} {b : Blk} (h : znd e lk op = some (id,b)) : (∃ blk n,lk id = some blk ∧ b = zhn n blk) ∧ ∃ c,op = .call c ∧ c.callee = .builtin .append := by
 unfold znd at h
 split at h
 ·rename_i c
  split at h
  ·rename_i hc
   split at h
   ·split at h
    ·rename_i id' s len hd
     split at h
     ·rename_i blk hb
      cases hl : Nat.blt len blk.len with
      | false => rw [hl] at h; cases h
      | true =>
       rw [hl,cond_true] at h
       injection h with h
       injection h with h1 h2
       subst h1 h2
       exact ⟨⟨blk,len,hb,rfl⟩,c,rfl,hc⟩
     ·cases h
    ·cases h
   ·cases h
  ·cases h
 ·cases h
theorem zuo {id : Nat} {lk lk' : Nat → Option Blk} (hk : ∀ k,k ≠ id → lk k = lk' k) : ∀ {us : Us},yfm id us = true → ∀ k,upd us lk k = upd us lk' k
 | [],h,k => by cases h
 | p :: r,h,k => by
  simp only [yfm,Bool.or_eq_true] at h
  simp only [upd]
  by_cases e : p.1 = k
  ·rw [if_pos e,if_pos e]
  ·rw [if_neg e,if_neg e]
   rcases h with h | h
   ·have := Nat.eq_of_beq_eq_true h
    have hk2 : ∀ (us : Us),upd us lk k = upd us lk' k := by
     intro us
     induction us with
     | nil => exact hk k (fun e' => e (this.trans e'.symm))
     | cons q r ih => simp only [upd]; rw [ih]
    exact hk2 r
   ·exact zuo hk h k
theorem ygv {P : Program} {T : zac} (hT : TOk P T) {q : Bool} {τ : CS} {op : Op} {x : AV} {us : Us} {H1 : Tr Blk} {A : Heap} {lk : Nat → Option Blk} (hA : ∀ id,Ax.look A id = lk id) (hdom : ∀ id,lk id ≠ none → τ.H.get id ≠ none) (hk : zct T q op = zai T op)
  (hHR : ∀ (w : World) (loc : Loc),HR w loc (toH τ.H) → HR w loc A) (hsame : zai T op ≤ 1 → ∀ id,lk id = τ.H.get id) (hc : cop T τ.nx (evC τ.n τ.sl) lk op = some (x,us)) (h2 : ∀ id,H1.get id = upd us lk id) (hold : ∀ id,id < τ.fl → H1.get id = τ.H.get id) : yhu P T q τ op x H1 (τ.nx + 8) := by
  obtain ⟨hp,hx,hH⟩ := ynm (S := fun _ => none) hA (zfy τ.n τ.sl) _ _ hc
  have hH' : ∀ id,H1.get id = look (aop (fun _ => none) T τ.nx (toS τ.n τ.sl) op A).H id := fun id => by rw [hH,h2]
  refine ⟨by omega,fun id b hb => ?_,fun _ hk1 id hid => ?_,fun hk0 id => ?_,fun _ => hold,?_⟩
  ·rw [hH'] at hb
   rcases zep hp id b hb with h | h
   ·rw [hA] at h; exact .inl (hdom id h)
   ·exact .inr h
  ·rw [hk] at hk1
   rw [hH',zxf hk1 hp id hid,hA,hsame hk1]
  ·rw [hk] at hk0
   rw [hH',(zno (H := A) hk0 hp).2.2,hA,hsame (by omega)]
  ·intro hlow w0 E w loc a o ho next Q hev hh he hfree hn
   subst ho
   have hev' : ∀ y ∈ o.op.operands.toList,R w loc (ev (toS τ.n τ.sl) y) (a.eval y) := fun y hy => by rw [zfy]; exact hev y hy
   rw [hk] at hh hn
   by_cases hk0 : zai T o.op = 0
   ·obtain ⟨p1,p2,p3⟩ := zno (H := A) hk0 hp
    refine zci hT (zlq P) he (H := []) (fun id b h => by simp [look] at h) hfree o hev' p1 next Q (fun v w' loc' hpost => ?_)
    obtain ⟨C,hE,hC⟩ := hpost.ext
    have hr := hpost.r
    rw [p2,hx] at hr
    exact hn v w' loc' hr ⟨C,hE,.of fun _ => hC (zjp (H := []) (by omega) p1)⟩ hpost.fresh hpost.env (fun h => (h hk0).elim) hpost.bad
   ·refine zci hT (zlq P) he (hHR w loc (hh hk0)) hfree o hev' hp next Q (fun v w' loc' hpost => ?_)
    obtain ⟨C,hE,hC⟩ := hpost.ext
    have hr := hpost.r
    rw [hx] at hr
    exact hn v w' loc' hr ⟨C,hE,.of fun h => hC (zjp h hp)⟩ hpost.fresh hpost.env (fun _ => hpost.h.congr fun id => by rw [zat,hH']) hpost.bad
theorem yil {P : Program} {T : zac} (hT : TOk P T) {q : Bool} {τ : CS} {op : Op} {x : AV} {H : Tr Blk} {nz : Nat} (hpl : ∀ c f,op = .call c → c.callee ≠ .value f) (h : zjl T τ op = some (x,H,nz)) : yhu P T q τ op x H nz := by
 unfold zjl at h
 split at h
 ·rename_i y hc
  rw [zef] at h
  injection h with h
  injection h with h3 h
  injection h with h4 h5
  subst h3 h4 h5
  have hk : zct T q op = zai T op := znx hpl
  refine ⟨by omega,fun id b hb => .inl (by rw [hb]; simp),fun _ _ id _ => rfl,fun _ id => rfl,fun _ _ _ => rfl,?_⟩
  intro hlow w0 E w loc a o ho next Q hev hh he hfree hn
  rw [hk] at hh
  obtain ⟨v,hr,hrun⟩ := yoc (P := P) hT hc hev hh
  unfold Oper.wp
  rw [hrun o ho]
  exact hn v w loc hr ⟨_,Ext.refl w loc,.of fun _ _ h => h⟩ (fun id h h' => (h' h).elim) he (fun hk' => hh (by rw [← hk]; exact hk')) rfl
 rename_i hno
 clear hno
 have hk : zct T q op = zai T op := znx hpl
 split at h
 ·rename_i id b htr
  obtain ⟨⟨blk,n,hb,rfl⟩,c,rfl,hcal⟩ := ybe htr
  split at h
  ·rename_i y us hc
   cases hi : yfm id us with
   | false => rw [hi] at h; cases h
   | true =>
    rw [hi,cond_true] at h
    obtain ⟨H1,h1,h2,hfl⟩ := zyc h
    rw [zef] at h1
    injection h1 with h1
    injection h1 with h3 h1
    injection h1 with h4 h5
    subst h3 h4 h5
    have hne : ∀ k,k ≠ id → τ.H.get k = lkT τ.H.get id (zhn n blk) k := fun k hk => by unfold lkT; rw [if_neg hk]
    refine ygv hT (A := put (toH τ.H) id (zhn n blk)) (fun k => ?_) (fun k hk2 => ?_) hk (fun w loc hHR k b hl => ?_) (fun h1 => ?_) hc (fun k => by rw [h2]; exact zuo hne hi k) hfl
    ·rw [zax,zat]; unfold lkT
     by_cases e : k = id
     ·subst e; simp
     ·rw [if_neg e,if_neg (fun e' => e e'.symm)]
    ·unfold lkT at hk2
     by_cases e : k = id
     ·subst e; rw [hb]; simp
     ·rw [if_neg e] at hk2; exact hk2
    ·rw [zax] at hl
     split at hl
     ·rename_i e
      subst e
      injection hl with hl
      subst hl
      exact yic (hHR id blk (by rw [zat]; exact hb))
     ·exact hHR k b hl
    ·exfalso
     obtain ⟨callee,args,ats⟩ := c
     simp only at hcal
     subst hcal
     simp [zai] at h1
  ·cases h
 ·split at h
  ·rename_i y us hc
   obtain ⟨H1,h1,h2,hfl⟩ := zyc h
   rw [zef] at h1
   injection h1 with h1
   injection h1 with h3 h1
   injection h1 with h4 h5
   subst h3 h4 h5
   exact ygv hT (zat τ.H) (fun _ h => h) hk (fun _ _ h => h) (fun _ _ => rfl) hc h2 hfl
  ·cases h
theorem zwv {P : Program} {w0 : World} {E : Nat → Prop} {w : World} {loc : Loc} {H : Heap} {T : zac} {SO : zal} (hS : FnsO P SO) (he : Env w0 E w loc) (hh : HR w loc H) {nm : Nat} (hfree : ∀ id,nm ≤ id → id < nm + 8 → loc.m id = .free) {sl : List AV} {a : Act} (o : Oper)
  (hev : ∀ x ∈ o.op.operands.toList,R w loc (ev sl x) (a.eval x)) (hp : (zco SO T nm sl o.op H).p) : Sd P w0 E w loc true nm (zco SO T nm sl o.op H) o a := by
 cases ho : o.op with
 | call c =>
  obtain ⟨callee,args,argTypes⟩ := c
  cases callee with
  | value f =>
   have hfv := hev f (by rw [ho]; simp [Op.operands,Call.operands])
   simp only [zco,ho] at hp ⊢
   generalize ev sl f = xf at hfv hp ⊢
   split at hp
   ·rename_i g caps
    cases hv : a.eval f with
    | func fn first captured =>
     rw [hv] at hfv
     cases hfv with
     | fn _ _ cs hlc hc =>
      obtain ⟨e1,e2⟩ := zvb (w := w) (loc := loc) (sl := sl) (a := a) args.toList (fun x hx => hev x (by rw [ho]; simp [Op.operands,Call.operands]; right; simpa using hx))
      obtain ⟨c1,c2⟩ := zve (T := T) (w := w) (loc := loc) argTypes.toList (evs sl args.toList)
      have c2 := c2 (args.toList.map a.eval) e2
      have c3 : ∀ (j : Nat) (h : j < (coes T argTypes.toList (evs sl args.toList) ++ caps).length) (h' : j < (args.toList.map a.eval ++ cs).length),R w loc (coes T argTypes.toList (evs sl args.toList) ++ caps)[j] (args.toList.map a.eval ++ cs)[j] := by
       intro j h h'
       have hl : (coes T argTypes.toList (evs sl args.toList)).length = (args.toList.map a.eval).length := by rw [c1,e1]; simp
       by_cases hj : j < (coes T argTypes.toList (evs sl args.toList)).length
       ·rw [List.getElem_append_left hj,List.getElem_append_left (by omega)]
        exact c2 j hj (by omega)
       ·rw [List.getElem_append_right (by omega),List.getElem_append_right (by omega)]
        have := hc (j - (coes T argTypes.toList (evs sl args.toList)).length) (by rw [List.length_append] at h; omega) (by rw [List.length_append] at h'; omega)
        simpa only [hl] using this
      cases hsg : SO g with
      | none => simp [aOpen,hsg,bad] at hp
      | some sp =>
       obtain ⟨⟨fn,hfn,hbody,hname⟩,hsound⟩ := hS g sp hsg
       have hcall := zqz (P := P) he hh hfree (SO := SO) (fun f s h => (hS f s h).2) (f := g) (by rw [List.length_append,List.length_append,c1,e1,hlc]; simp) c3 hp
       have hrun : (execOp a.eval o).run P w = .ok (.enter g (args.toList.map a.eval ++ cs).toArray) w := by
        have h1 : fn.name ≠ "runtime.NumGoroutine" := by simpa using hname
        have hb' : fn.body ≠ none := by intro e; rw [e] at hbody; simp at hbody
        have h9 : Array.map a.eval args = (args.toList.map a.eval).toArray := by rw [← Array.toList_inj]; simp
        simp [execOp,ho,resolve,hv,Deferred.ofValue,invoke,callFunc,hfn,h1,hb',h9]
       intro next Q hn
       unfold Oper.wp
       rw [hrun]
       refine hcall.mono ?_
       rintro e w' ⟨v,loc',rfl,h1⟩
       exact hn v w' loc' h1
    | _ => rw [hv] at hfv; cases hfv
   ·exact hp.elim
  | _ => simp [zco,ho,bad] at hp
 | _ => simp [zco,ho,bad] at hp
theorem ykv {P : Program} {T : zac} (hT : TOk P T) {S : zal} {SB : zgs} (hS : Fns P S) (hSB : zgg P S SB) {q : Bool} {τ : CS} {f : Operand} {args : Array Operand} {argTypes : Array TypeId} {g : FuncId} {caps : List AV} (hf : evC τ.n τ.sl f = .fn g caps) {x : AV} {H : Tr Blk} {nz : Nat}
  (h : yek T SB τ q ⟨.value f,args,argTypes⟩ g (coes T argTypes.toList (args.toList.map (evC τ.n τ.sl)) ++ caps) = some (x,H,nz)) : yhu P T q τ (.call ⟨.value f,args,argTypes⟩) x H nz := by
 have em : evs (toS τ.n τ.sl) args.toList = args.toList.map (evC τ.n τ.sl) := by rw [zol]; exact List.map_congr_left fun x _ => zfy _ _ x
 generalize hA : coes T argTypes.toList (args.toList.map (evC τ.n τ.sl)) ++ caps = A at h
 unfold yek at h
 split at h
 ·rename_i h0 hsb
  split at h
  ·rename_i y us hc
   cases hq : (!quietC T ⟨.value f,args,argTypes⟩ && !q) with
   | false => rw [hq] at h; cases h
   | true =>
    rw [hq,cond_true] at h
    obtain ⟨H1,h1,h2,hfl⟩ := zyc h
    rw [zef] at h1
    injection h1 with h1
    injection h1 with h3 h1
    injection h1 with h4 h5
    subst h3 h4 h5
    simp only [Bool.and_eq_true,Bool.not_eq_true'] at hq
    obtain ⟨hq1,rfl⟩ := hq
    have hk : zct T false (.call ⟨.value f,args,argTypes⟩) ≠ 0 := by simp [zct]
    have hk1 : ¬ zct T false (.call ⟨.value f,args,argTypes⟩) ≤ 1 := by simp [zct]
    rcases hSB g h0 hsb with hS1 | ⟨SO,hSO,hS1⟩
    ·obtain ⟨hp0,hx,hH⟩ := hS1 A (toH τ.H) τ.H.get τ.nx (zat τ.H) _ _ hc
     have hop : aop S T τ.nx (toS τ.n τ.sl) (.call ⟨.value f,args,argTypes⟩) (toH τ.H) = (aUser S τ.nx g A (toH τ.H)).and (quietC T ⟨.value f,args,argTypes⟩ = true → rootsL A = [] ∧ lentIdsL A = []) := by
      simp only [aop,aCall,zfy,hf,em,hA]
     have hp : (aop S T τ.nx (toS τ.n τ.sl) (.call ⟨.value f,args,argTypes⟩) (toH τ.H)).p := by rw [hop]; exact ⟨(fun e => by rw [hq1] at e; cases e),hp0⟩
     have hx' : (aop S T τ.nx (toS τ.n τ.sl) (.call ⟨.value f,args,argTypes⟩) (toH τ.H)).x = y := by rw [hop]; exact hx
     have hH' : ∀ id,H1.get id = look (aop S T τ.nx (toS τ.n τ.sl) (.call ⟨.value f,args,argTypes⟩) (toH τ.H)).H id := fun id => by rw [h2,hop]; exact (hH id).symm
     refine ⟨by omega,fun id b hb => ?_,fun _ hk' => (hk1 hk').elim,fun hk' => (hk hk').elim,fun _ => hfl,?_⟩
     ·rw [hH'] at hb
      rcases zep hp id b hb with h | h
      ·rw [zat] at h; exact .inl h
      ·exact .inr h
     ·intro hlow w0 E w loc a o ho next Q hev hh he hfree hn
      have hev' : ∀ y ∈ o.op.operands.toList,R w loc (ev (toS τ.n τ.sl) y) (a.eval y) := fun y hy => by rw [zfy]; exact hev y (by rw [← ho]; exact hy)
      have hs := zci hT hS he (hh hk) hfree o hev' (by rw [ho]; exact hp)
      rw [ho] at hs
      refine hs next Q (fun v w' loc' hpost => ?_)
      obtain ⟨C,hE,hC⟩ := hpost.ext
      have hr := hpost.r
      rw [hx'] at hr
      exact hn v w' loc' hr ⟨C,hE,.of fun hk' => (hk1 hk').elim⟩ hpost.fresh hpost.env (fun _ => hpost.h.congr fun id => by rw [zat,hH']) hpost.bad
    ·obtain ⟨hp0,hx,hH⟩ := hS1 A (toH τ.H) τ.H.get τ.nx (zat τ.H) _ _ hc
     have hop : zco SO T τ.nx (toS τ.n τ.sl) (.call ⟨.value f,args,argTypes⟩) (toH τ.H) = aOpen SO τ.nx g A (toH τ.H) := by
      simp only [zco,zfy,hf,em,hA]
     have hp : (zco SO T τ.nx (toS τ.n τ.sl) (.call ⟨.value f,args,argTypes⟩) (toH τ.H)).p := by rw [hop]; exact hp0
     have hx' : (zco SO T τ.nx (toS τ.n τ.sl) (.call ⟨.value f,args,argTypes⟩) (toH τ.H)).x = y := by rw [hop]; exact hx
     have hH' : ∀ id,H1.get id = look (zco SO T τ.nx (toS τ.n τ.sl) (.call ⟨.value f,args,argTypes⟩) (toH τ.H)).H id := fun id => by rw [h2,hop]; exact (hH id).symm
     refine ⟨by omega,fun id b hb => ?_,fun _ hk' => (hk1 hk').elim,fun hk' => (hk hk').elim,fun _ => hfl,?_⟩
     ·rw [hH'] at hb
      rcases zuj hp id b hb with h | h
      ·rw [zat] at h; exact .inl h
      ·exact .inr h
     ·intro hlow w0 E w loc a o ho next Q hev hh he hfree hn
      have hev' : ∀ y ∈ o.op.operands.toList,R w loc (ev (toS τ.n τ.sl) y) (a.eval y) := fun y hy => by rw [zfy]; exact hev y (by rw [← ho]; exact hy)
      have hs := zwv hSO he (hh hk) hfree o hev' (by rw [ho]; exact hp)
      rw [ho] at hs
      refine hs next Q (fun v w' loc' hpost => ?_)
      obtain ⟨C,hE,hC⟩ := hpost.ext
      have hr := hpost.r
      rw [hx'] at hr
      exact hn v w' loc' hr ⟨C,hE,.of fun hk' => (hk1 hk').elim⟩ hpost.fresh hpost.env (fun _ => hpost.h.congr fun id => by rw [zat,hH']) hpost.bad
  ·cases h
 ·cases h
theorem yod {P : Program} {T : zac} {call : zcw} (hcall : zph P call) {τ : CS} {f : Operand} {args : Array Operand} {argTypes : Array TypeId} {g : FuncId} {A : List AV}
  (hexec : zpf P g → ∀ (w : World) (loc : Loc) (a : Act) (o : Oper),o.op = .call ⟨.value f,args,argTypes⟩ → (∀ y ∈ (Op.call ⟨.value f,args,argTypes⟩).operands.toList,R w loc (evC τ.n τ.sl y) (a.eval y)) →
     ∃ cs : List Value,A.length = (args.toList.map a.eval ++ cs).length ∧ (∀ (j : Nat) (h : j < A.length) (h' : j < (args.toList.map a.eval ++ cs).length),R w loc A[j] (args.toList.map a.eval ++ cs)[j]) ∧
      (execOp a.eval o).run P w = .ok (.enter g (args.toList.map a.eval ++ cs).toArray) w)
  {x : AV} {H : Tr Blk} {nz : Nat} (h : yla call τ g A = some (x,H,nz)) : yhu P T true τ (.call ⟨.value f,args,argTypes⟩) x H nz := by
 unfold yla at h
 obtain ⟨Hr,hgc,hsub⟩ := zqn (src := τ.H) 100000 (idsL A) .leaf (yed call τ g A)
 rw [hgc] at h
 unfold yed at h
 have hsub : ∀ id b,Hr.get id = some b → τ.H.get id = some b := fun id b hb => (hsub id b hb).resolve_left (fun h => by rw [zdx] at h; cases h)
 cases hno : (allN τ.H Hr τ.nx (idsL A) && allT (fun b => allN τ.H Hr τ.nx b.ids) Hr) with
 | false => rw [hno] at h; cases h
 | true =>
  rw [hno,cond_true] at h
  simp only [Bool.and_eq_true] at hno
  split at h
  ·rename_i y H0 nz1 hc1
   rw [zkd] at h
   injection h with h
   injection h with h4 h
   injection h with h5 h6
   subst h4 h5 h6
   obtain ⟨h1,h2,hent,hol,h3⟩ := hcall _ _ _ _ _ _ _ _ hc1
   have hol := hol (Nat.le_refl _)
   have hk : zct T true (.call ⟨.value f,args,argTypes⟩) = 1 := rfl
   refine ⟨h1,fun id b hb => ?_,fun hlow _ id hid => ?_,(fun hk0 => by rw [hk] at hk0; cases hk0),fun hfn id hid => ?_,?_⟩
   ·rw [zcu] at hb
    cases hg : H0.get id with
    | none => rw [hg] at hb; simp only at hb; exact .inl (by rw [hb]; simp)
    | some c =>
     rcases h2 id c hg with h | h
     ·cases hr : Hr.get id with
      | none => exact (h hr).elim
      | some c' => exact .inl (by rw [hsub id c' hr]; simp)
     ·exact .inr h
   ·rw [zcu]
    cases hg : H0.get id with
    | none => rfl
    | some c =>
     have hlt : id < τ.nx := by
      rcases h2 id c hg with h | h
      ·cases hr : Hr.get id with
       | none => exact (h hr).elim
       | some c' => exact hlow id c' (hsub id c' hr)
      ·exact (hid h).elim
     have := hol id hlt
     rw [hg] at this
     exact (hsub id c this.symm).symm
   ·rw [zcu]
    cases hg : H0.get id with
    | none => rfl
    | some c =>
     have := hol id (by omega)
     rw [hg] at this
     exact (hsub id c this.symm).symm
   ·intro hlow w0 E w loc a o ho next Q hev hh he hfree hn
    obtain ⟨cs,hlen,hR,hrun⟩ := hexec hent w loc a o ho hev
    unfold Oper.wp
    rw [hrun]
    have hold := hh (by rw [hk]; simp)
    let F : Nat → Prop := fun id => Hr.get id ≠ none ∨ (τ.H.get id = none ∧ id < τ.nx)
    have hlowr : LowC Hr τ.nx := fun id b hb => hlow id b (hsub id b hb)
    have hFlt : ∀ id,F id → id < τ.nx := by
     rintro id (h | h)
     ·cases hr : Hr.get id with
      | none => exact (h hr).elim
      | some c => exact hlowr id c hr
     ·exact h.2
    have hR' : ∀ (j : Nat) (h : j < A.length) (h' : j < (args.toList.map a.eval ++ cs).length),R w (loc.onlyP F) A[j] (args.toList.map a.eval ++ cs)[j] := fun j p q =>
     (hR j p q).onlyP fun id hid _ => zsx hno.1 id (zdw j p hid)
    have hHr : HR w (loc.onlyP F) (toH Hr) := fun id b hb => by
     rw [zat] at hb
     refine (hold id b (by rw [zat]; exact hsub id b hb)).onlyP fun k hkm _ => ?_
     exact zsx (znb hno.2 id b hb) k (zzq hkm)
    refine (h3 hlowr w (InP loc F) w (loc.onlyP F) _ hlen hR' hHr (Env.onlyP he) (fun id hi1 hi2 => zjm fun hF => by have := hFlt id hF; omega)).mono ?_
    rintro e w' ⟨v,loc',rfl,hp⟩
    obtain ⟨p1,p2,p3,⟨C,p4,p5⟩,p6,p7⟩ := PostW.frame he hfree (fun id b hb => by
     rw [zat] at hb
     rcases h2 id b hb with h | h
     ·exact .inl (.inl h)
     ·exact .inr h) hp
    have hrec : ∀ id b,Hr.get id = some b → BlkR w' (loc.backP loc' F τ.nx nz1) id b := fun id b hb => p2 id b (by rw [zat,hol id (hlowr id b hb)]; exact hb)
    refine hn v w' _ p1 ⟨C,p4,⟨(fun h => by rw [hk] at h; cases h),fun _ id hc => ⟨hFlt id (p5 id hc),fun b hb => ?_⟩⟩⟩ p6 p3 (fun _ => ?_) p7
    ·rw [zat] at hb
     rcases p5 id hc with h | h
     ·cases hr : Hr.get id with
      | none => exact (h hr).elim
      | some c =>
       have := hsub id c hr
       rw [hb] at this; injection this with this; subst this
       exact hrec id b hr
     ·rw [h.1] at hb; cases hb
    ·intro id b hb
     rw [zat,zcu] at hb
     cases hg : H0.get id with
     | some c =>
      rw [hg] at hb
      injection hb with hb
      subst hb
      exact p2 id c (by rw [zat]; exact hg)
     | none =>
      rw [hg] at hb
      simp only at hb
      have hlt := hlow id b hb
      have hrn : Hr.get id = none := by rw [← hol id hlt]; exact hg
      have h0 := hold id b (by rw [zat]; exact hb)
      have hnC : ¬ C id := fun hc => by
       rcases p5 id hc with h | h
       ·exact h hrn
       ·rw [h.1] at hb; cases hb
      by_cases hf : loc.m id = .free
      ·by_cases hn' : (loc.backP loc' F τ.nx nz1).m id = .free
       ·exact BlkR.free hn'
       ·have h6 := p6 id hf hn'
        omega
      ·exact h0.ext p4 hnC hf
  ·cases h
theorem ymq {P : Program} {T : zac} (hT : TOk P T) {S : zal} {SB : zgs} (hS : Fns P S) (hSB : zgg P S SB) {call : zcw} (hcall : zph P call) {q : Bool} {τ : CS} {op : Op} {x : AV} {H : Tr Blk} {nz : Nat} (h : ztq T SB call τ q op = some (x,H,nz)) : yhu P T q τ op x H nz := by
 by_cases hpl : ∀ c f,op = .call c → c.callee ≠ .value f
 ·refine yil hT hpl ?_
  cases op with
  | call c =>
   simp only [ztq] at h
   cases hc : c.callee with
   | value f => exact (hpl c f rfl hc).elim
   | _ => simp only [hc] at h; exact h
  | _ => exact h
 ·obtain ⟨c,f,rfl,hc⟩ : ∃ c f,op = .call c ∧ c.callee = .value f := by
   rcases Classical.not_forall.1 hpl with ⟨c,h1⟩
   rcases Classical.not_forall.1 h1 with ⟨f,h2⟩
   refine ⟨c,f,?_,?_⟩
   ·exact Classical.byContradiction fun e => h2 fun e' => (e e').elim
   ·exact Classical.byContradiction fun e => h2 fun _ => e
  obtain ⟨callee,args,argTypes⟩ := c
  simp only at hc
  subst hc
  simp only [ztq] at h
  cases hf : evC τ.n τ.sl f with
  | fn g caps =>
   rw [hf] at h
   simp only at h
   split at h
   ·rename_i r hr
    injection h with h; subst h
    exact ykv hT hS hSB hf hr
   rename_i hno
   clear hno
   generalize hA : coes T argTypes.toList (args.toList.map (evC τ.n τ.sl)) ++ caps = A at h
   -- the call itself
   have hexec : zpf P g → ∀ (w : World) (loc : Loc) (a : Act) (o : Oper),o.op = .call ⟨.value f,args,argTypes⟩ → (∀ y ∈ (Op.call ⟨.value f,args,argTypes⟩).operands.toList,R w loc (evC τ.n τ.sl y) (a.eval y)) →
     ∃ cs : List Value,A.length = (args.toList.map a.eval ++ cs).length ∧ (∀ (j : Nat) (h : j < A.length) (h' : j < (args.toList.map a.eval ++ cs).length),R w loc A[j] (args.toList.map a.eval ++ cs)[j]) ∧
      (execOp a.eval o).run P w = .ok (.enter g (args.toList.map a.eval ++ cs).toArray) w := by
    intro ⟨fn,hfn,hbody,hname⟩ w loc a o ho hev
    have hfv := hev f (by simp [Op.operands,Call.operands])
    rw [hf] at hfv
    have hargs : ∀ x ∈ args.toList,R w loc (evC τ.n τ.sl x) (a.eval x) := fun x hx => hev x (by simp [Op.operands,Call.operands]; right; simpa using hx)
    cases hv : a.eval f with
    | func fn' first captured =>
     rw [hv] at hfv
     cases hfv with
     | fn _ _ cs hlc hcR =>
      obtain ⟨e1,e2⟩ := zvb (sl := toS τ.n τ.sl) args.toList (fun x hx => by rw [zfy]; exact hargs x hx)
      have em : evs (toS τ.n τ.sl) args.toList = args.toList.map (evC τ.n τ.sl) := by rw [zol]; exact List.map_congr_left fun x _ => zfy _ _ x
      rw [em] at e1 e2
      obtain ⟨c1,c2⟩ := zve (T := T) (w := w) (loc := loc) argTypes.toList (args.toList.map (evC τ.n τ.sl))
      have c2 := c2 (args.toList.map a.eval) e2
      refine ⟨cs,by rw [← hA]; simp [c1,hlc],?_,?_⟩
      ·subst hA
       intro j p q
       by_cases hj : j < (coes T argTypes.toList (args.toList.map (evC τ.n τ.sl))).length
       ·rw [List.getElem_append_left hj,List.getElem_append_left (by rw [c1] at hj; simpa using hj)]
        exact c2 j hj _
       ·have hl : (coes T argTypes.toList (args.toList.map (evC τ.n τ.sl))).length = (args.toList.map a.eval).length := by simp [c1]
        rw [List.getElem_append_right (by omega),List.getElem_append_right (by omega)]
        have := hcR (j - (coes T argTypes.toList (args.toList.map (evC τ.n τ.sl))).length) (by rw [List.length_append] at p; omega) (by rw [List.length_append] at q; omega)
        simpa [hl] using this
      ·have h1 : fn.name ≠ "runtime.NumGoroutine" := by simpa using hname
       have hb' : fn.body ≠ none := by intro e; rw [e] at hbody; simp at hbody
       simp [execOp,ho,resolve,hv,Deferred.ofValue,invoke,callFunc,hfn,h1,hb']
    | _ => rw [hv] at hfv; cases hfv
   cases q with
   | false =>
    simp only [cond_false] at h
    obtain ⟨h1,h2,hent,hol,h3⟩ := hcall _ _ _ _ _ _ _ _ h
    have hk : zct T false (.call ⟨.value f,args,argTypes⟩) = 2 := rfl
    refine ⟨h1,h2,(fun _ hk1 => by rw [hk] at hk1; omega),(fun hk0 => by rw [hk] at hk0; cases hk0),hol,?_⟩
    intro hlow w0 E w loc a o ho next Q hev hh he hfree hn
    obtain ⟨cs,hlen,hR,hrun⟩ := hexec hent w loc a o ho hev
    unfold Oper.wp
    rw [hrun]
    refine (h3 hlow w0 E w loc _ hlen hR (hh (by rw [hk]; simp)) he hfree).mono ?_
    rintro e w' ⟨v,loc',rfl,hp⟩
    obtain ⟨C,hC⟩ := hp.tn.ext
    exact hn v w' loc' hp.r ⟨C,hC,.of fun hk1 => by rw [hk] at hk1; omega⟩ hp.tn.fresh hp.env (fun _ => hp.h) hp.tn.bad
   | true =>
    simp only [cond_true] at h
    cases hi : closedL (A.map (frqV τ.H)) with
    | false =>
     rw [hi,cond_false] at h
     exact yod hcall hexec h
    | true =>
     rw [hi,cond_true] at h
     split at h
     ·rename_i y H0 nz1 hc1
      obtain ⟨H1,hgc,hsub⟩ := zqn (src := H0) 100000 y.ids .leaf (fun H => bif y.noimm && allT Blk.noimm H then (τ.H.unionK H fun H => some (y,H,nz1)) else none)
      rw [hgc] at h
      have hsub : ∀ id b,H1.get id = some b → H0.get id = some b := fun id b hb => (hsub id b hb).resolve_left (fun h => by rw [zdx] at h; cases h)
      cases hno : (y.noimm && allT Blk.noimm H1) with
      | false => rw [hno] at h; cases h
      | true =>
       rw [hno,cond_true,zkd] at h
       injection h with h
       injection h with h4 h
       injection h with h5 h6
       subst h4 h5 h6
       simp only [Bool.and_eq_true] at hno
       obtain ⟨h1,h2,hent,_,h3⟩ := hcall _ _ _ _ _ _ _ _ hc1
       have hwin : ∀ id b,H1.get id = some b → τ.nx ≤ id ∧ id < nz1 := fun id b hb => by
        rcases h2 id b (hsub id b hb) with h | h
        ·exact (h rfl).elim
        ·exact h
       have hk : zct T true (.call ⟨.value f,args,argTypes⟩) = 1 := rfl
       refine ⟨h1,fun id b hb => ?_,fun _ _ id hid => ?_,(fun hk0 => by rw [hk] at hk0; cases hk0),fun hfn id hid => ?_,?_⟩
       ·rw [zcu] at hb
        cases hg : H1.get id with
        | none => rw [hg] at hb; simp only at hb; exact .inl (by rw [hb]; simp)
        | some c => exact .inr (hwin id c hg)
       ·rw [zcu]
        cases hg : H1.get id with
        | none => rfl
        | some c => exact (hid (hwin id c hg)).elim
       ·rw [zcu]
        cases hg : H1.get id with
        | none => rfl
        | some c => have := hwin id c hg; omega
       ·intro hlow w0 E w loc a o ho next Q hev hh he hfree hn
        obtain ⟨cs,hlen,hR,hrun⟩ := hexec hent w loc a o ho hev
        unfold Oper.wp
        rw [hrun]
        have hold := hh (by rw [hk]; simp)
        have hR' : ∀ (j : Nat) (h : j < (A.map (frqV τ.H)).length) (h' : j < (args.toList.map a.eval ++ cs).length),R w loc.bare (A.map (frqV τ.H))[j] (args.toList.map a.eval ++ cs)[j] := fun j p q => by
         have hj : j < A.length := by simpa using p
         have hcl := zbm hi j p
         rw [List.getElem_map] at hcl ⊢
         exact yln he hold (hR j hj q) hcl
        refine (h3 (fun id b hb => by rw [zdx] at hb; cases hb) w (fun _ => False) w loc.bare _ (by rw [List.length_map]; exact hlen) hR' (fun id b hb => by rw [zat,zdx] at hb; cases hb) (yjh he) (fun id _ _ => rfl)).mono ?_
        rintro e w' ⟨v,loc',rfl,hp⟩
        have hp : PostW w (fun _ => False) w loc.bare τ.nx nz1 y (toH H1) v w' loc' := ⟨hp.r,fun id b hb => hp.h id b (by rw [zat] at hb ⊢; exact hsub id b hb),hp.env,hp.tn⟩
        obtain ⟨p1,p2,p3,p4,p6,p7⟩ := ybz he hfree hno.1 hno.2 hwin hp
        refine hn v w' _ p1 ⟨_,p4,.of fun _ id hc => hc⟩ p6 p3 (fun _ => ?_) p7
        intro id b hb
        rw [zat,zcu] at hb
        cases hg : H1.get id with
        | none =>
         rw [hg] at hb
         simp only at hb
         have h0 := hold id b (by rw [zat]; exact hb)
         by_cases hf : loc.m id = .free
         ·by_cases hn' : (loc.with loc' τ.nx nz1).m id = .free
          ·exact BlkR.free hn'
          ·have h6 := p6 id hf hn'
           have := hlow id b hb
           omega
         ·exact h0.ext p4 (fun hc => hc) hf
        | some c =>
         rw [hg] at hb
         injection hb with hb
         subst hb
         exact p2 id c (by rw [zat]; exact hg)
     ·cases h
  | _ => rw [hf] at h; cases h
structure StepOk (P : Program) (T : zac) (ops : List Oper) (q : Bool) (τ : CS) (o : Oper) (x : AV) (τ' : CS) : Prop where
 n : τ'.n = τ.n
 mono : τ.nx ≤ τ'.nx
 slot : ∀ t,slot (toS τ'.n τ'.sl) t = if o.dst = some t ∧ t < τ.n then x else slot (toS τ.n τ.sl) t
 new : ∀ id b,τ'.H.get id = some b → τ.H.get id ≠ none ∨ (τ.nx ≤ id ∧ id < τ'.nx)
 keep : LowC τ.H τ.nx → zct T q o.op ≤ 1 → ∀ id,¬ (τ.nx ≤ id ∧ id < τ'.nx) → τ'.H.get id = τ.H.get id
 same : zct T q o.op = 0 → ∀ id,τ'.H.get id = τ.H.get id
 fl : τ'.fl = τ.fl
 old : τ.fl ≤ τ.nx → ∀ id,id < τ.fl → τ'.H.get id = τ.H.get id
 sem : LowC τ.H τ.nx → ∀ (w0 : World) (E : Nat → Prop) (w : World) (loc : Loc) (a : Act) (next : Act → World → Prop) (Q : Exit → Act → World → Prop),a.tmps.size = τ.n →
  (∀ t ∈ o.looksAt ops.toArray,R w loc (Ax.slot (toS τ.n τ.sl) t) (a.tmps.getD t undef)) → (zct T q o.op ≠ 0 → HR w loc (toH τ.H)) → Env w0 E w loc → (∀ id,τ.nx ≤ id → id < τ'.nx → loc.m id = .free) →
  (∀ v w' loc',R w' loc' x v → (∃ C : Nat → Prop,Ext C w loc w' loc' ∧ Calm (zct T q o.op) C τ.nx (look (toH τ.H)) w' loc') → (∀ id,loc.m id = .free → loc'.m id ≠ .free → τ.nx ≤ id ∧ id < τ'.nx) → Env w0 E w' loc' →
   (zct T q o.op ≠ 0 → HR w' loc' (toH τ'.H)) → loc'.bad = loc.bad → next (a.put o.dst v) w') →
  if Region.wanted o (yielded ops.toArray a.tmps) then o.wp P a w next Q else next (a.put o.dst undef) w
theorem zwo {P : Program} {T : zac} (hT : TOk P T) {S : zal} {SB : zgs} (hS : Fns P S) (hSB : zgg P S SB) {call : zcw} (hcall : zph P call) {ops : List Oper} {q : Bool} {τ : CS} {o : Oper} {τ' : CS} (h : zll T SB call ops q τ o = some τ') : ∃ x,StepOk P T ops q τ o x τ' := by
 -- the operation is wanted
 have hrun : ∀ (τ' : CS),ycd T SB call τ q o = some τ' → (∀ (a : Act) (w : World) (loc : Loc),a.tmps.size = τ.n → (∀ t ∈ o.looksAt ops.toArray,R w loc (Ax.slot (toS τ.n τ.sl) t) (a.tmps.getD t undef)) → Region.wanted o (yielded ops.toArray a.tmps) = true) → ∃ x,StepOk P T ops q τ o x τ' := by
  intro τ' h hw
  unfold ycd at h
  split at h
  ·rename_i x H nz hv
   rw [zkx] at h
   obtain ⟨sl',h1,h2⟩ := yef h
   injection h1 with h1
   subst h1
   have hok := ymq hT hS hSB hcall hv
   refine ⟨x,rfl,hok.mono,h2,hok.new,hok.keep,hok.same,rfl,hok.old,?_⟩
   intro hlow w0 E w loc a next Q hsz hlook hh he hfree hn
   rw [if_pos (hw a w loc hsz hlook)]
   refine hok.sem hlow w0 E w loc a o rfl next Q (fun y hy => ?_) hh he hfree hn
   rw [← zfy]
   cases y with
   | tmp t => exact hlook t (by unfold Oper.looksAt; exact List.mem_append_left _ (List.mem_filterMap.2 ⟨.tmp t,hy,rfl⟩))
   | const v => exact ev_R (sl := []) (a := a) (fun t => .junk _) (.const v)
   | global g => exact .junk _
   | func f => exact ev_R (sl := []) (a := a) (fun t => .junk _) (.func f)
  ·cases h
 -- it is not
 have hskip : ∀ (τ' : CS),zqe τ o = some τ' → (∀ (a : Act) (w : World) (loc : Loc),a.tmps.size = τ.n → (∀ t ∈ o.looksAt ops.toArray,R w loc (Ax.slot (toS τ.n τ.sl) t) (a.tmps.getD t undef)) → ¬ Region.wanted o (yielded ops.toArray a.tmps) = true) → ∃ x,StepOk P T ops q τ o x τ' := by
  intro τ' h hw
  unfold zqe at h
  obtain ⟨sl',h1,h2⟩ := yef h
  injection h1 with h1
  subst h1
  refine ⟨.tup [],rfl,Nat.le_refl _,h2,fun id b hb => .inl (by simp only at hb; rw [hb]; simp),fun _ _ _ _ => rfl,fun _ _ => rfl,rfl,fun _ _ _ => rfl,?_⟩
  intro hlow w0 E w loc a next Q hsz hlook hh he hfree hn
  rw [if_neg (hw a w loc hsz hlook)]
  exact hn undef w loc zgu ⟨_,Ext.refl w loc,.of fun _ _ h => h⟩ (fun id h h' => (h' h).elim) he hh rfl
 unfold zll at h
 cases hgd : o.guard with
 | none =>
  rw [hgd] at h
  exact hrun τ' h fun a w loc _ _ => by simp [Region.wanted,hgd]
 | some g =>
  obtain ⟨j,want⟩ := g
  rw [hgd] at h
  simp only at h
  cases hgs : guardSlot ops j with
  | none => rw [hgs] at h; cases h
  | some d =>
   rw [hgs] at h
   simp only at h
   have hdl : d ∈ o.looksAt ops.toArray := by
    unfold Oper.looksAt
    refine List.mem_append_right _ ?_
    rw [hgd]
    unfold guardSlot at hgs
    cases hj : ops[j]? with
    | none => rw [hj] at hgs; cases hgs
    | some oj =>
     rw [hj] at hgs
     simp only at hgs
     simp [hj,hgs]
   have hsl : evC τ.n τ.sl (.tmp d) = Ax.slot (toS τ.n τ.sl) d := (zfy τ.n τ.sl (.tmp d)).symm
   split at h
   ·rename_i b hsd
    rw [hsl] at hsd
    have hlt : d < τ.n := by
     rcases Nat.lt_or_ge d τ.n with h' | h'
     ·exact h'
     ·rw [zek (by rw [zbw]; exact h')] at hsd; cases hsd
    have hy : ∀ (a : Act) (w : World) (loc : Loc),a.tmps.size = τ.n → (∀ t ∈ o.looksAt ops.toArray,R w loc (Ax.slot (toS τ.n τ.sl) t) (a.tmps.getD t undef)) → (Region.wanted o (yielded ops.toArray a.tmps) = true ↔ b = want) := by
     intro a w loc hsz hlook
     have hval := hlook d hdl
     rw [hsd] at hval
     have hy := zgh (ops := ops.toArray) (by simpa using hgs) (by rw [hsz]; exact hlt) hval.wv
     simp [Region.wanted,hgd,hy]
    by_cases hbw : b = want
    ·have : (b == want) = true := by simp [hbw]
     rw [this] at h
     exact hrun τ' h fun a w loc h1 h2 => (hy a w loc h1 h2).2 hbw
    ·have : (b == want) = false := by simp [hbw]
     rw [this] at h
     exact hskip τ' h fun a w loc h1 h2 hw => hbw ((hy a w loc h1 h2).1 hw)
   ·rename_i hsd
    rw [hsl] at hsd
    exact hskip τ' h fun a w loc h1 h2 hw => by
     have hval := h2 d hdl
     rw [hsd] at hval
     simp [Region.wanted,hgd,zdz (ops := ops.toArray) (by simpa using hgs) (ydp hval)] at hw
   ·cases h
abbrev RelT (Z : Nat) (w0 : World) (E : Nat → Prop) (loc : Loc) (τ : CS) (a : Act) (w : World) : Prop := RelL Z w0 E loc (toS τ.n τ.sl) (toH τ.H) τ.nx a w
structure PureOk (τ τ' : CS) : Prop where
 n : τ'.n = τ.n
 mono : τ.nx ≤ τ'.nx
 new : ∀ id b,τ'.H.get id = some b → τ.H.get id ≠ none ∨ (τ.nx ≤ id ∧ id < τ'.nx)
 fl : τ'.fl = τ.fl
 old : τ.fl ≤ τ.nx → ∀ id,id < τ.fl → τ'.H.get id = τ.H.get id
theorem PureOk.refl (τ : CS) : PureOk τ τ := ⟨rfl,Nat.le_refl _,fun id b h => .inl (by rw [h]; simp),rfl,fun _ _ _ => rfl⟩
theorem PureOk.trans {a b c : CS} (h : PureOk a b) (k : PureOk b c) : PureOk a c := by
 refine ⟨k.n.trans h.n,Nat.le_trans h.mono k.mono,fun id x hx => ?_,k.fl.trans h.fl,fun hf id hi => ?_⟩
 rotate_left
 ·have h1 := h.mono
  have h2 := h.fl
  rw [k.old (by omega) id (by omega),h.old hf id hi]
 have h1 := h.mono
 have h2 := k.mono
 rcases k.new id x hx with h' | h'
 ·cases hb : b.H.get id with
  | none => exact (h' hb).elim
  | some y =>
   rcases h.new id y hb with h3 | h3
   ·exact .inl h3
   ·exact .inr ⟨h3.1,by omega⟩
 ·exact .inr ⟨by omega,h'.2⟩
theorem PureOk.low {τ τ' : CS} (h : PureOk τ τ') (hl : LowC τ.H τ.nx) : LowC τ'.H τ'.nx := by
 intro id b hb
 have h1 := h.mono
 rcases h.new id b hb with h' | h'
 ·cases hc : τ.H.get id with
  | none => exact (h' hc).elim
  | some y => have := hl id y hc; omega
 ·exact h'.2
theorem StepOk.pureOk {P : Program} {T : zac} {ops : List Oper} {q : Bool} {τ : CS} {o : Oper} {x : AV} {τ' : CS} (h : StepOk P T ops q τ o x τ') : PureOk τ τ' := ⟨h.n,h.mono,h.new,h.fl,h.old⟩
section
variable {P : Program} {T : zac} (hT : TOk P T) {S : zal} {SB : zgs} (hS : Fns P S) (hSB : zgg P S SB) {call : zcw} (hcall : zph P call) {ops : List Oper} {q : Nat → Bool}
include hT hS hSB hcall
theorem zjj : ∀ (r : List Oper) (k : Nat) (τ τ' : CS),zfu T SB call ops q k r τ = some τ' → PureOk τ τ'
 | [],k,τ,τ',h => by injection h with h; subst h; exact .refl _
 | o :: r,k,τ,τ',h => by
  unfold zfu at h
  split at h
  ·rename_i τ1 h1
   obtain ⟨x,hs⟩ := zwo hT hS hSB hcall h1
   exact hs.pureOk.trans (zjj r (k + 1) τ1 τ' h)
  ·cases h
theorem zqa {Z : Nat} {w0 : World} {E : Nat → Prop} {K : Exit → Act → World → Prop} : ∀ (r : List Oper) (k : Nat) (τ τ' : CS) (a : Act) (w : World) (loc : Loc),zfu T SB call ops q k r τ = some τ' → LowC τ.H τ.nx → τ'.nx ≤ Z → RelT Z w0 E loc τ a w →
  (∀ a' w' loc',RelT Z w0 E loc' τ' a' w' → Tn w loc τ.nx τ'.nx w' loc' → K .normal a' w') → wpList P ops.toArray K r a w
 | [],k,τ,τ',a,w,loc,h,hl,hz,hr,hK => by
  injection h with h; subst h
  exact wpList_nil (hK a w loc hr (Tn.refl _ _ _ _))
 | o :: r,k,τ,τ',a,w,loc,h,hl,hz,hr,hK => by
  unfold zfu at h
  split at h
  ·rename_i τ1 h1
   obtain ⟨x,hs⟩ := zwo hT hS hSB hcall h1
   have hp1 := hs.pureOk
   have hp2 := zjj hT hS hSB hcall r (k + 1) τ1 τ' h
   refine wpList_step fun Kn hKn => ?_
   refine hs.sem hl w0 E w loc a Kn K (by rw [hr.size,zbw]) (fun t _ => hr.slots t) (fun _ => hr.heap) hr.env (fun id h1 h2 => hr.fresh id h1 (by have := hp2.mono; omega)) ?_
   rintro v w' loc' hrx ⟨C,hE,hC⟩ hfr he hh hb
   have htn : Tn w loc τ.nx τ1.nx w' loc' := ⟨⟨C,hE⟩,hfr,hb⟩
   refine hKn _ _ (zqa r (k + 1) τ1 τ' _ w' loc' h (hp1.low hl) hz ?_ fun a2 w2 loc2 h2 h3 => hK a2 w2 loc2 h2 (htn.trans h3 hp1.mono hp2.mono))
   refine ⟨?_,fun t => ?_,?_,he,fun id h1 h2 => ?_,?_⟩
   ·rw [zbw,hp1.n]
    cases o.dst <;> simp [Act.put,hr.size,zbw]
   ·rw [hs.slot t]
    by_cases hd : o.dst = some t ∧ t < τ.n
    ·rw [if_pos hd,hd.1]
     have : (a.put (some t) v).tmps.getD t undef = v := by
      have := hr.size
      rw [zbw] at this
      simp [Act.put,this,hd.2]
     rw [this]; exact hrx
    ·rw [if_neg hd]
     have hold := (hr.slots t).ext hE
     cases hdd : o.dst with
     | none => exact hold
     | some d =>
      by_cases hdt : d = t
      ·subst hdt
       have hge : τ.n ≤ d := Nat.le_of_not_lt fun h => hd ⟨hdd,h⟩
       rw [zek (by rw [zbw]; exact hge)]
       exact .junk _
      ·have : (a.put (some d) v).tmps.getD t undef = a.tmps.getD t undef := by simp [Act.put,Array.getElem?_setIfInBounds_ne hdt]
       rw [this]; exact hold
   ·by_cases hk : zct T (q k) o.op = 0
    ·intro id b hb
     rw [zat,hs.same hk id] at hb
     have h0 := hr.heap id b (by rw [zat]; exact hb)
     by_cases hf : loc.m id = .free
     ·by_cases hn : loc'.m id = .free
      ·exact BlkR.free hn
      ·have := hfr id hf hn
       have := hl id b hb
       omega
     ·exact h0.ext hE (hC.zero hk id) hf
    ·exact hh hk
   ·have hf := hr.fresh id (by have := hp1.mono; omega) h2
    by_cases hn : loc'.m id = .free
    ·exact hn
    ·have := hfr id hf hn; omega
   ·rw [← hr.defers]; cases o.dst <;> rfl
  ·cases h
end
def zpn (f : Nat → CS → Oper → Option CS) (l : List Oper) (τ : CS) : Nat → CS
 | 0 => τ
 | k + 1 => match l[k]? with
  | some o => (f k (zpn f l τ k) o).getD (zpn f l τ k)
  | none => zpn f l τ k
theorem znk {T : zac} {SB : zgs} {call : zcw} {ops l : List Oper} {q : Nat → Bool} {τ0 : CS} : ∀ (r : List Oper) (k : Nat) (τ' : CS),(∀ j,r[j]? = l[k + j]?) → k + r.length = l.length → zfu T SB call ops q k r (zpn (fun i => zll T SB call ops (q i)) l τ0 k) = some τ' →
  zpn (fun i => zll T SB call ops (q i)) l τ0 l.length = τ' ∧ ∀ j o,k ≤ j → l[j]? = some o → zll T SB call ops (q j) (zpn (fun i => zll T SB call ops (q i)) l τ0 j) o = some (zpn (fun i => zll T SB call ops (q i)) l τ0 (j + 1))
 | [],k,τ',hr,hl,h => by
  simp at hl
  subst hl
  injection h with h
  refine ⟨h,fun j o hj ho => ?_⟩
  rw [List.getElem?_eq_none hj] at ho; cases ho
 | o :: r,k,τ',hr,hl,h => by
  have ho : l[k]? = some o := by simpa using (hr 0).symm
  have hr' : ∀ j,r[j]? = l[k + 1 + j]? := fun j => by have := hr (j + 1); simpa [Nat.add_assoc,Nat.add_comm 1 j] using this
  have hl' : k + 1 + r.length = l.length := by simp at hl; omega
  unfold zfu at h
  split at h
  ·rename_i τ1 h1
   have e : zpn (fun i => zll T SB call ops (q i)) l τ0 (k + 1) = τ1 := by simp only [zpn,ho,h1,Option.getD_some]
   rw [← e] at h
   obtain ⟨h2,h3⟩ := znk r (k + 1) τ' hr' hl' h
   refine ⟨h2,fun j o' hj ho' => ?_⟩
   rcases Nat.lt_or_ge k j with h' | h'
   ·exact h3 j o' h' ho'
   ·obtain rfl : j = k := by omega
    rw [ho] at ho'; injection ho' with ho'; subst ho'
    rw [h1,e]
  ·cases h
theorem zws {P : Program} {T : zac} (hm : P.follows .mixedOrders = true) (hT : TOk P T) {S : zal} {SB : zgs} (hS : Fns P S) (hSB : zgg P S SB) {call : zcw} (hcall : zph P call) {q : Nat → Bool} {l : List Oper} (hd : zic (fun i => zct T (q i)) l = true) {Z : Nat} {w0 : World} {E : Nat → Prop} {τ τ' : CS} {a : Act} {w : World} {loc : Loc} {id : Nat}
  (h : zfu T SB call l q 0 l τ = some τ') (hl : LowC τ.H τ.nx) (hz : τ'.nx ≤ Z) (hr : RelT Z w0 E loc τ a w) :
  (Code.region id l.toArray true).wp P (fun e a' w' => e = .normal ∧ ∃ loc',RelT Z w0 E loc' τ' a' w' ∧ Tn w loc τ.nx τ'.nx w' loc') a w := by
 obtain ⟨hend,hst⟩ := znk (T := T) (SB := SB) (call := call) (ops := l) (q := q) (τ0 := τ) l 0 τ' (fun j => by rw [Nat.zero_add]) (Nat.zero_add _) h
 generalize hc : zpn (fun i => zll T SB call l (q i)) l τ = c at hend hst
 have h0 : c 0 = τ := by rw [← hc]; rfl
 have hst : ∀ j o,l[j]? = some o → zll T SB call l (q j) (c j) o = some (c (j + 1)) := fun j o ho => hst j o (Nat.zero_le _) ho
 have hsteps : ∀ j : Nat,∃ x,∀ o,l[j]? = some o → StepOk P T l (q j) (c j) o x (c (j + 1)) := by
  intro j
  cases hj : l[j]? with
  | none => exact ⟨.junk,fun o ho => by cases ho⟩
  | some o =>
   obtain ⟨x,hx⟩ := zwo hT hS hSB hcall (hst j o hj)
   exact ⟨x,fun o' ho' => by injection ho' with ho'; subst ho'; exact hx⟩
 obtain ⟨val,hval⟩ : ∃ val : Nat → AV,∀ j o,l[j]? = some o → StepOk P T l (q j) (c j) o (val j) (c (j + 1)) := ⟨fun j => Classical.choose (hsteps j),fun j o ho => Classical.choose_spec (hsteps j) o ho⟩
 have hpure : ∀ j,j ≤ l.length → PureOk τ (c j) := by
  intro j
  induction j with
  | zero => intro _; rw [h0]; exact .refl _
  | succ j ih => intro hj; exact (ih (by omega)).trans (hval j _ (zfk (by omega))).pureOk
 have hn : ∀ j,j ≤ l.length → (c j).n = τ.n := fun j hj => (hpure j hj).n
 have ht : Text1 P l (fun j => (c j).nx) (fun j => (toS (c j).n (c j).sl,toH (c j).H)) val (fun i => match l[i]? with | some o => zct T (q i) o.op | none => 0) := by
  refine ⟨fun i hi => (hval i _ (zfk hi)).mono,fun i hi => by simp only [zbw]; rw [hn i hi,hn 0 (Nat.zero_le _)],fun i o ho t => ?_,fun i o ho id b hb => ?_,fun i o ho hk id hid => ?_,fun i o ho hk id => ?_,fun i => ?_,fun id b hb => ?_,fun i o ho => ?_⟩
  ·have := (hval i o ho).slot t
   rw [hn i (Nat.le_of_lt (zbs ho))] at this
   simp only [zbw]
   rw [hn 0 (Nat.zero_le _)]
   rw [this]
   split
   ·rfl
   ·rw [hn i (Nat.le_of_lt (zbs ho))]
  ·simp only [zat] at hb ⊢
   exact (hval i o ho).new id b hb
  ·simp only [ho] at hk
   simp only [zat]
   exact (hval i o ho).keep ((hpure i (Nat.le_of_lt (zbs ho))).low hl) hk id hid
  ·simp only [ho] at hk
   simp only [zat]
   exact (hval i o ho).same hk id
  ·cases hi : l[i]? with
   | none => simp
   | some o =>
    simp only
    unfold zct
    split
    ·split
     ·cases q i <;> simp
     ·exact zfj T _
    ·exact zfj T _
  ·simp only [zat] at hb
   rw [h0] at hb ⊢
   exact hl id b hb
  ·intro w0 E w loc a next Q hsz hlook hh he hfree hcb
   simp only [ho] at hh hcb
   have hs := hval i o ho
   have hlow := (hpure i (Nat.le_of_lt (zbs ho))).low hl
   unfold wpOp
   have : l.toArray[i]? = some o := by simpa using ho
   rw [this]
   simp only
   have hsz' : a.tmps.size = (c i).n := by
    rw [hn i (Nat.le_of_lt (zbs ho)),hsz]; simp only [zbw]; rw [hn 0 (Nat.zero_le _)]
   have := hs.sem hlow w0 E w loc a next Q hsz' hlook hh he hfree hcb
   split
   ·rename_i hw; rw [if_pos hw] at this; exact .inl this
   ·rename_i hw; rw [if_neg hw] at this; exact this
 have := ynh (P := P) (N := fun j => (c j).nx) (id := id) hm (yiz hd) ht (Z := Z) (w0 := w0) (E := E) (a := a) (w := w) (loc := loc) (by rw [hend]; exact hz) (by rw [h0]; exact hr)
 refine wp_mono this ?_
 rintro e a' w' ⟨he,loc',h1,h2⟩
 simp only [hend,h0] at h1 h2
 exact ⟨he,loc',h1,h2⟩
end Ax
end Go.Proofs.Ytdfgfdcfcdgadaa
namespace Go.Proofs.Ytdfgfdcfcdgadaa
namespace Ax
open Go.RowKit
theorem zlt {f : CS → Option (Exit × CS)} (hf : ∀ τ e τ',f τ = some (e,τ') → PureOk τ τ') : ∀ (k : Nat) (τ : CS) (e : Exit) (τ' : CS),zwy f k τ = some (e,τ') → PureOk τ τ'
 | 0,τ,e,τ',h => by cases h
 | k + 1,τ,e,τ',h => by
  unfold zwy at h
  split at h
  ·rename_i τ1 h1; exact (hf _ _ _ h1).trans (zlt hf k τ1 e τ' h)
  ·rename_i id τ1 h1; injection h with h; injection h with h2 h3; subst h3; exact hf _ _ _ h1
  ·rename_i τ1 h1; injection h with h; injection h with h2 h3; subst h3; exact hf _ _ _ h1
  ·cases h
section
variable {P : Program} {T : zac} (hT : TOk P T) {S : zal} {SB : zgs} (hS : Fns P S) (hSB : zgg P S SB) {call : zcw} (hcall : zph P call)
include hT hS hSB hcall
theorem zkk : ∀ (c : Code) (τ : CS) (e : Exit) (τ' : CS),runC T SB call c τ = some (e,τ') → PureOk τ τ' := by
 intro c
 induction c with
 | skip => intro τ e τ' h; injection h with h; injection h with h1 h2; subst h2; exact .refl _
 | label l => intro τ e τ' h; injection h with h; injection h with h1 h2; subst h2; exact .refl _
 | exit id => intro τ e τ' h; injection h with h; injection h with h1 h2; subst h2; exact .refl _
 | ret => intro τ e τ' h; injection h with h; injection h with h1 h2; subst h2; exact .refl _
 | region id ops draw =>
  intro τ e τ' h
  have key : ∀ q,(match zfu T SB call ops.toList q 0 ops.toList τ with | some τ => some (Exit.normal,τ) | none => none) = some (e,τ') → PureOk τ τ' := by
   intro q h
   split at h
   ·rename_i τ1 h1; injection h with h; injection h with h2 h3; subst h3; exact zjj hT hS hSB hcall _ _ _ _ h1
   ·cases h
  unfold runC at h
  cases draw with
  | false => exact key _ h
  | true =>
   simp only [cond_true] at h
   cases h1 : zic (fun i => zct T ((zmf T ops.toList).getD i false)) ops.toList with
   | true => rw [h1] at h; exact key _ h
   | false => rw [h1] at h; cases h
 | seq a b iha ihb =>
  intro τ e τ' h
  unfold runC at h
  split at h
  ·rename_i τ1 h1; exact (iha _ _ _ h1).trans (ihb _ _ _ h)
  ·rename_i id τ1 h1; injection h with h; injection h with h2 h3; subst h3; exact iha _ _ _ h1
  ·rename_i τ1 h1; injection h with h; injection h with h2 h3; subst h3; exact iha _ _ _ h1
  ·cases h
 | cond c a b iha ihb =>
  intro τ e τ' h
  unfold runC at h
  split at h
  ·exact iha _ _ _ h
  ·exact ihb _ _ _ h
  ·cases h
 | block id c ih =>
  intro τ e τ' h
  unfold runC at h
  split at h
  ·rename_i id' τ1 h1
   split at h
   ·injection h with h; injection h with h2 h3; subst h3; exact ih _ _ _ h1
   ·injection h with h; injection h with h2 h3; subst h3; exact ih _ _ _ h1
  ·rename_i τ1 h1; injection h with h; injection h with h2 h3; subst h3; exact ih _ _ _ h1
  ·rename_i τ1 h1; injection h with h; injection h with h2 h3; subst h3; exact ih _ _ _ h1
  ·cases h
 | loop c ih =>
  intro τ e τ' h
  unfold runC at h
  exact zlt ih _ _ _ _ h
 | _ => intro τ e τ' h; cases h
def yol (Z : Nat) (w0 : World) (E : Nat → Prop) (w : World) (loc : Loc) (nm : Nat) (e : Exit) (τ' : CS) : Exit → Act → World → Prop :=
 fun e' a' w' => e' = e ∧ ∃ loc',RelT Z w0 E loc' τ' a' w' ∧ Tn w loc nm τ'.nx w' loc'
theorem ykz (hm : P.follows .mixedOrders = true) {Z : Nat} {w0 : World} {E : Nat → Prop} : ∀ (c : Code) (τ : CS) (e : Exit) (τ' : CS) (a : Act) (w : World) (loc : Loc),runC T SB call c τ = some (e,τ') → LowC τ.H τ.nx → τ'.nx ≤ Z → RelT Z w0 E loc τ a w →
  c.wp P (yol Z w0 E w loc τ.nx e τ') a w := by
 intro c
 induction c with
 | skip => intro τ e τ' a w loc h hl hz hr; injection h with h; injection h with h1 h2; subst h1 h2; exact wp_skip ⟨rfl,loc,hr,Tn.refl _ _ _ _⟩
 | label l => intro τ e τ' a w loc h hl hz hr; injection h with h; injection h with h1 h2; subst h1 h2; exact wp_label ⟨rfl,loc,hr,Tn.refl _ _ _ _⟩
 | exit id => intro τ e τ' a w loc h hl hz hr; injection h with h; injection h with h1 h2; subst h1 h2; exact wp_exit ⟨rfl,loc,hr,Tn.refl _ _ _ _⟩
 | ret => intro τ e τ' a w loc h hl hz hr; injection h with h; injection h with h1 h2; subst h1 h2; exact wp_ret ⟨rfl,loc,hr,Tn.refl _ _ _ _⟩
 | region id ops draw =>
  intro τ e τ' a w loc h hl hz hr
  unfold runC at h
  cases draw with
  | false =>
   simp only [cond_false] at h
   split at h
   ·rename_i τ1 h1
    injection h with h; injection h with h2 h3; subst h2 h3
    exact wp_region_list (zqa hT hS hSB hcall _ _ _ _ a w loc h1 hl hz hr fun a' w' loc' h4 h5 => ⟨rfl,loc',h4,h5⟩)
   ·cases h
  | true =>
   simp only [cond_true] at h
   cases hd : zic (fun i => zct T ((zmf T ops.toList).getD i false)) ops.toList with
   | false => rw [hd] at h; cases h
   | true =>
    rw [hd,cond_true] at h
    split at h
    ·rename_i τ1 h1
     injection h with h; injection h with h2 h3; subst h2 h3
     have := zws (id := id) hm hT hS hSB hcall (q := fun i => (zmf T ops.toList).getD i false) hd h1 hl hz hr
     exact this
    ·cases h
 | seq x y ihx ihy =>
  intro τ e τ' a w loc h hl hz hr
  unfold runC at h
  split at h
  ·rename_i τ1 h1
   have hp1 := zkk hT hS hSB hcall _ _ _ _ h1
   have hp2 := zkk hT hS hSB hcall _ _ _ _ h
   refine wp_seq (wp_mono (ihx _ _ _ a w loc h1 hl (Nat.le_trans hp2.mono hz) hr) ?_)
   rintro e' a' w' ⟨rfl,loc',h2,h3⟩
   refine wp_mono (ihy _ _ _ a' w' loc' h (hp1.low hl) hz h2) ?_
   rintro e' a2 w2 ⟨rfl,loc2,h4,h5⟩
   exact ⟨rfl,loc2,h4,h3.trans h5 hp1.mono hp2.mono⟩
  ·rename_i id τ1 h1
   injection h with h; injection h with h2 h3; subst h2 h3
   refine wp_seq (wp_mono (ihx _ _ _ a w loc h1 hl hz hr) ?_)
   rintro e' a' w' ⟨rfl,loc',h2,h3⟩
   exact ⟨rfl,loc',h2,h3⟩
  ·rename_i τ1 h1
   injection h with h; injection h with h2 h3; subst h2 h3
   refine wp_seq (wp_mono (ihx _ _ _ a w loc h1 hl hz hr) ?_)
   rintro e' a' w' ⟨rfl,loc',h2,h3⟩
   exact ⟨rfl,loc',h2,h3⟩
  ·cases h
 | cond c x y ihx ihy =>
  intro τ e τ' a w loc h hl hz hr
  have hv := ev_R hr.slots c
  rw [zfy] at hv
  unfold runC at h
  split at h
  ·rename_i hc
   rw [hc] at hv
   exact wp_cond_true hv.wv (ihx _ _ _ a w loc h hl hz hr)
  ·rename_i hc
   rw [hc] at hv
   exact wp_cond_false hv.wv (ihy _ _ _ a w loc h hl hz hr)
  ·cases h
 | block id c ih =>
  intro τ e τ' a w loc h hl hz hr
  unfold runC at h
  split at h
  ·rename_i id' τ1 h1
   split at h
   ·rename_i he
    injection h with h; injection h with h2 h3; subst h2 h3
    refine wp_block (wp_mono (ih _ _ _ a w loc h1 hl hz hr) ?_)
    rintro e' a' w' ⟨rfl,loc',h2,h3⟩
    simp only [Exit.inBlock]
    rw [if_pos he]
    exact ⟨rfl,loc',h2,h3⟩
   ·rename_i he
    injection h with h; injection h with h2 h3; subst h2 h3
    refine wp_block (wp_mono (ih _ _ _ a w loc h1 hl hz hr) ?_)
    rintro e' a' w' ⟨rfl,loc',h2,h3⟩
    simp only [Exit.inBlock]
    rw [if_neg he]
    exact ⟨rfl,loc',h2,h3⟩
  ·rename_i τ1 h1
   injection h with h; injection h with h2 h3; subst h2 h3
   refine wp_block (wp_mono (ih _ _ _ a w loc h1 hl hz hr) ?_)
   rintro e' a' w' ⟨rfl,loc',h2,h3⟩
   exact ⟨rfl,loc',h2,h3⟩
  ·rename_i τ1 h1
   injection h with h; injection h with h2 h3; subst h2 h3
   refine wp_block (wp_mono (ih _ _ _ a w loc h1 hl hz hr) ?_)
   rintro e' a' w' ⟨rfl,loc',h2,h3⟩
   exact ⟨rfl,loc',h2,h3⟩
  ·cases h
 | loop c ih =>
  intro τ e τ' a w loc h hl hz hr
  unfold runC at h
  have hcp := zkk hT hS hSB hcall c
  let p : Act → World → Nat → Prop := fun a1 w1 k => ∃ τ1 loc1,zwy (runC T SB call c) k τ1 = some (e,τ') ∧ LowC τ1.H τ1.nx ∧ RelT Z w0 E loc1 τ1 a1 w1 ∧ Tn w loc τ.nx τ1.nx w1 loc1 ∧ τ.nx ≤ τ1.nx
  have hleast : ∀ a w,(∃ n,p a w n) → ∃ m,p a w m ∧ ∀ k,p a w k → m ≤ k := fun a w ⟨n,hn⟩ => let ⟨m,h1,_,h3⟩ := yir n hn; ⟨m,h1,h3⟩
  open Classical in
  let μ : Act → World → Nat := fun a w => if h : ∃ n,p a w n then Classical.choose (hleast a w h) else 0
  refine wp_loop (fun a w => ∃ n,p a w n) μ ⟨_,τ,loc,h,hl,hr,Tn.refl _ _ _ _,Nat.le_refl _⟩ ?_
  intro a1 w1 hex
  have hμ : μ a1 w1 = Classical.choose (hleast a1 w1 hex) := dif_pos hex
  obtain ⟨hp,hmin⟩ := Classical.choose_spec (hleast a1 w1 hex)
  rw [← hμ] at hp hmin
  obtain ⟨τ1,loc1,h1,h2,h3,h4,h5⟩ := hp
  obtain ⟨k,hk⟩ : ∃ k,μ a1 w1 = k := ⟨_,rfl⟩
  rw [hk] at h1 hmin ⊢
  cases k with
  | zero => cases h1
  | succ k =>
   unfold zwy at h1
   split at h1
   ·rename_i τ2 h6
    have hp1 := hcp _ _ _ h6
    have hp2 := zlt hcp _ _ _ _ h1
    refine wp_mono (ih _ _ _ a1 w1 loc1 h6 h2 (Nat.le_trans hp2.mono hz) h3) ?_
    rintro e' a2 w2 ⟨rfl,loc2,h7,h8⟩
    have hp' : p a2 w2 k := ⟨τ2,loc2,h1,hp1.low h2,h7,h4.trans h8 h5 hp1.mono,Nat.le_trans h5 hp1.mono⟩
    refine ⟨⟨k,hp'⟩,?_⟩
    have hμ' : μ a2 w2 = Classical.choose (hleast a2 w2 ⟨k,hp'⟩) := dif_pos ⟨k,hp'⟩
    have := (Classical.choose_spec (hleast a2 w2 ⟨k,hp'⟩)).2 k hp'
    rw [← hμ'] at this
    omega
   ·rename_i id τ2 h6
    injection h1 with h1; injection h1 with h9 h10; subst h9 h10
    refine wp_mono (ih _ _ _ a1 w1 loc1 h6 h2 hz h3) ?_
    rintro e' a2 w2 ⟨rfl,loc2,h7,h8⟩
    exact ⟨rfl,loc2,h7,h4.trans h8 h5 (hcp _ _ _ h6).mono⟩
   ·rename_i τ2 h6
    injection h1 with h1; injection h1 with h9 h10; subst h9 h10
    refine wp_mono (ih _ _ _ a1 w1 loc1 h6 h2 hz h3) ?_
    rintro e' a2 w2 ⟨rfl,loc2,h7,h8⟩
    exact ⟨rfl,loc2,h7,h4.trans h8 h5 (hcp _ _ _ h6).mono⟩
   ·cases h1
 | _ => intro τ e τ' a w loc h hl hz hr; cases h
end
theorem zoo {T : zac} {τ : CS} : ∀ {rs : List ResultVar} {l : List AV},zop T τ rs = some l → (rvals T (toH τ.H) (toS τ.n τ.sl) rs).1 ∧ (rvals T (toH τ.H) (toS τ.n τ.sl) rs).2 = l
 | [],l,h => by injection h with h; exact ⟨trivial,h⟩
 | .tmp t :: r,l,h => by
  unfold zop at h
  split at h
  ·rename_i l' h1
   injection h with h; subst h
   obtain ⟨a,b⟩ := zoo h1
   refine ⟨a,?_⟩
   have := zfy τ.n τ.sl (.tmp t)
   simp only [rvals,b]
   rw [← this]; rfl
  ·cases h
 | .cell x t :: r,l,h => by
  unfold zop at h
  split at h
  ·rename_i l' h1
   split at h
   ·rename_i y us h2
    injection h with h; subst h
    obtain ⟨a,b⟩ := zoo h1
    obtain ⟨c,d,_⟩ := yai (zat τ.H) _ _ h2
    have := zfy τ.n τ.sl (.tmp x)
    simp only [ev] at this
    rw [← this] at c d
    exact ⟨⟨c,a⟩,by simp only [rvals,b,d]⟩
   ·cases h
  ·cases h
theorem zzj {β : Type} : ∀ {xs : List AV} {k : Nat} {t : Tr AV} {κ : Tr AV → Option β} {z : β},yfd xs k t κ = some z → ∃ t',κ t' = some z ∧ ∀ i,sget t' i = if k ≤ i ∧ i < k + xs.length then xs.getD (i - k) .junk else sget t i
 | [],k,t,κ,z,h => ⟨t,h,fun i => by rw [if_neg (by simp only [List.length_nil]; omega)]⟩
 | x :: r,k,t,κ,z,h => by
  unfold yfd at h
  rw [zgl] at h
  cases hk : Nat.blt k most with
  | false => rw [hk] at h; cases h
  | true =>
   rw [hk,cond_true,zfe] at h
   obtain ⟨t',h1,h2⟩ := zzj (xs := r) h
   refine ⟨t',h1,fun i => ?_⟩
   rw [h2 i]
   have hm := zry hk
   by_cases h3 : k + 1 ≤ i ∧ i < k + 1 + r.length
   ·rw [if_pos h3,if_pos ⟨by omega,by simp only [List.length_cons]; omega⟩]
    have : i - k = (i - (k + 1)) + 1 := by omega
    rw [this]; simp
   ·rw [if_neg h3]
    by_cases h4 : i = k
    ·subst h4
     rw [if_pos ⟨Nat.le_refl _,by simp only [List.length_cons]; omega⟩]
     simp only [Nat.sub_self,sget]
     rw [zhz _ _ _ _ hm,if_pos rfl]
     simp
    ·rw [if_neg (by simp only [List.length_cons]; omega)]
     simp only [sget]
     rw [zhz _ _ _ _ hm,if_neg h4]
theorem yae {P : Program} {T : zac} (hm : P.follows .mixedOrders = true) (hT : TOk P T) {S : zal} {SB : zgs} (hS : Fns P S) (hSB : zgg P S SB) : ∀ k,zph P (ydc P T SB k)
 | 0 => by intro g args H nx fl x H' nz h; cases h
 | k + 1 => by
  intro g args H nx fl x H' nz h
  have ih := yae hm hT hS hSB k
  unfold ydc at h
  split at h
  ·rename_i fn hfn
   split at h
   ·rename_i c hbody
    cases hname : (fn.name == "runtime.NumGoroutine") with
    | true => rw [hname] at h; cases h
    | false =>
     rw [hname,cond_false] at h
     cases hle : Nat.ble args.length fn.ntmps with
     | false => rw [hle] at h; cases h
     | true =>
      rw [hle,cond_true] at h
      have hle := Nat.le_of_ble_eq_true hle
      obtain ⟨sl,h1,hsl⟩ := zzj h
      split at h1
      ·rename_i e τ hrun
       cases he : ylj e with
       | false => rw [he] at h1; cases h1
       | true =>
        rw [he,cond_true] at h1
        split at h1
        ·rename_i l hl
         injection h1 with h1; injection h1 with hx h1; injection h1 with hH hnz
         subst hx hH hnz
         have hp := zkk hT hS hSB ih c _ _ _ hrun
         refine ⟨hp.mono,hp.new,⟨fn,hfn,by rw [hbody]; rfl,hname⟩,hp.old,?_⟩
         intro hlow w0 E w loc vs hlen hR hh henv hfree
         refine calls_of_wp hfn hbody ?_
         have hvs : vs.length ≤ fn.ntmps := by omega
         have hrel : RelT τ.nx w0 E loc ⟨sl,fn.ntmps,H,nx,fl⟩ { tmps := vs.toArray ++ Array.replicate (fn.ntmps - vs.toArray.size) undef,defers := [] } w := by
          refine ⟨by rw [zbw]; simp; omega,fun t => ?_,hh,henv,hfree,rfl⟩
          rw [zms]
          by_cases ht : t < fn.ntmps
          ·rw [if_pos ht,hsl t]
           by_cases ht2 : t < args.length
           ·rw [if_pos ⟨Nat.zero_le _,by omega⟩]
            have e1 : args.getD (t - 0) .junk = args[t] := by simp [ht2]
            have e2 : (vs.toArray ++ Array.replicate (fn.ntmps - vs.toArray.size) undef).getD t undef = vs[t]'(by omega) := by
             have : t < vs.length := by omega
             simp [Array.getD_eq_getD_getElem?,Array.getElem?_append,this]
            rw [e1,e2]
            exact hR t ht2 _
           ·rw [if_neg (by omega)]
            exact .junk _
          ·rw [if_neg ht]; exact .junk _
         refine wp_mono (ykz hT hS hSB ih hm c _ _ _ _ w loc hrun hlow (Nat.le_refl _) hrel) ?_
         rintro e' a' w' ⟨rfl,loc',h3,h4⟩
         obtain ⟨hr1,hr2⟩ := zoo hl
         have hn := hp.n
         obtain ⟨v,hv,hvR⟩ := zht (P := P) (fn := fn) hT h3.heap h3.slots hr1
         rw [hr2] at hvR
         have hpost : PostW w0 E w loc nx τ.nx (rone l) (toH τ.H) v w' loc' := ⟨hvR,h3.heap,h3.env,h4⟩
         cases e' with
         | normal => exact ⟨h3.defers,v,hv,v,loc',rfl,hpost⟩
         | ret => exact ⟨h3.defers,v,hv,v,loc',rfl,hpost⟩
         | _ => cases he
        ·cases h1
      ·cases h1
   ·cases h
  ·cases h
end Ax
end Go.Proofs.Ytdfgfdcfcdgadaa
namespace Go.Proofs.Ytdfgfdcfcdgadaa
namespace Ax
structure Wr (α : Type) where
 v : α
abbrev CopF := Nat → (Operand → AV) → (Nat → Option Blk) → Option (AV × Us)
def zvs (T : zac) (b : Builtin) (args : List Operand) (ts : List TypeId) : Wr CopF :=
 match b with
 | .len => match args,ts with
  | [x],[t] => ⟨fun _ e lk => cLen T t (e x) lk⟩
  | _,_ => ⟨fun _ _ _ => none⟩
 | .min => ⟨fun _ e _ => cMin (args.map e)⟩
 | .max => ⟨fun _ e _ => cMax (args.map e)⟩
 | .append => match args with
  | [d,x] => ⟨fun nm e lk => zst T nm ts (e d) (e x) lk⟩
  | _ => ⟨fun _ _ _ => none⟩
 | .delete => match args,ts with
  | [d,x],t :: _ => ⟨fun _ e lk => zsr T t (e d) (e x) lk⟩
  | _,_ => ⟨fun _ _ _ => none⟩
 | .clear => match args,ts with
  | [x],[t] => ⟨fun _ e lk => yan T t (e x) lk⟩
  | _,_ => ⟨fun _ _ _ => none⟩
 | .copy => match args with
  | [d,x] => ⟨fun _ e lk => yjx T ts (e d) (e x) lk⟩
  | _ => ⟨fun _ _ _ => none⟩
 | _ => ⟨fun _ _ _ => none⟩
theorem zvr (T : zac) (nm : Nat) (sl : List AV) (b : Builtin) (args : List Operand) (ts : List TypeId) (e : Operand → AV) (lk : Nat → Option Blk) : (zvs T b args ts).v nm e lk = zss T nm sl b args ts e lk := by
 cases b <;> first | rfl | (rcases args with _ | ⟨x,_ | ⟨y,_ | ⟨z,r⟩⟩⟩ <;> rcases ts with _ | ⟨t,_ | ⟨u,v⟩⟩ <;> rfl)
def copS (T : zac) (op : Op) : Wr CopF :=
 match op with
 | .move x => ⟨fun _ e _ => some (e x,[])⟩
 | .assign x => ⟨fun _ e _ => some (e x,[])⟩
 | .pick c a b => ⟨fun _ e _ => yde (e c) (e a) (e b)⟩
 | .alloc t => ⟨fun nm _ _ => yap T nm t⟩
 | .box t x => ⟨fun nm e _ => cBox T nm t (e x)⟩
 | .build t ps => ⟨fun _ e _ => yao T t (ps.toList.map fun p => (p.1,e p.2))⟩
 | .buildSlice t n ps => ⟨fun nm e _ => zhe T nm t n (ps.toList.map fun p => (p.1,e p.2))⟩
 | .load t a => ⟨fun _ e lk => yhe T t (e a) lk⟩
 | .store t a x => ⟨fun _ e lk => yaf T t (e a) (e x) lk⟩
 | .nilCheck x => ⟨fun _ e lk => cNil (e x) lk⟩
 | .binOp op t x y _ => ⟨fun _ e lk => cBin T op t (e x) (e y) lk⟩
 | .unOp op _ x => ⟨fun _ e _ => cUn op (e x)⟩
 | .convert s d x => ⟨fun nm e lk => bif coldStr T d && yiw (e x) then none else yjz T s d nm (e x) lk⟩
 | .makeSlice t l c => ⟨fun nm e _ => yjv T nm t (e l) (e c)⟩
 | .slice t x lo hi mx => ⟨fun _ e lk => bif mx.isSome && hi.isNone then none else yag T t (e x) (lo.map e) (hi.map e) (mx.map e) lk⟩
 | .fieldAddr s x f => ⟨fun _ e lk => ziu T s (e x) f lk⟩
 | .field t x f => ⟨fun _ e _ => yak T t (e x) f⟩
 | .indexAddr t x i => ⟨fun _ e lk => zit T t (e x) (e i) lk⟩
 | .index t x i => ⟨fun _ e _ => yaj T t (e x) (e i)⟩
 | .extract x i => ⟨fun _ e _ => zmy (e x) i⟩
 | .makeFunc fn first caps => ⟨fun _ e _ => cFn fn first.toList (caps.toList.map e)⟩
 | .range t x => ⟨fun nm e lk => yah T nm t (e x) lk⟩
 | .next x b => ⟨fun _ e lk => yjt (e x) b lk⟩
 | .makeMap _ r => ⟨fun nm _ _ => zsn nm r⟩
 | .lookup t x k ok => ⟨fun _ e lk => zso T t (e x) (e k) ok lk⟩
 | .mapUpdate t x k v => ⟨fun _ e lk => zsm T t (e x) (e k) (e v) lk⟩
 | .entry x => ⟨fun _ e lk => yam (e x) lk⟩
 | .call c => match c.callee with
  | .builtin b => zvs T b c.args.toList c.argTypes.toList
  | _ => ⟨fun _ _ _ => none⟩
 | _ => ⟨fun _ _ _ => none⟩
theorem ylq (T : zac) (nm : Nat) (e : Operand → AV) (lk : Nat → Option Blk) (op : Op) : (copS T op).v nm e lk = cop T nm e lk op := by
 cases op with
 | call c =>
  simp only [copS,cop]
  cases c.callee with
  | builtin b => exact zvr T nm [] b _ _ e lk
  | _ => rfl
 | _ => rfl
def spS (op : Op) : Bool :=
 match op with
 | .binOp _ _ _ (.const (.slice none 0 0)) _ => true
 | .call c => match c.callee with
  | .builtin .append => true
  | _ => false
 | _ => false
theorem ykg {T : zac} {e : Operand → AV} {lk : Nat → Option Blk} {op : Op} (h : spS op = false) : cSp T e lk op = none ∧ znd e lk op = none := by
 constructor
 ·unfold cSp
  split
  ·rename_i b t x yt; simp [spS] at h
  ·rfl
 ·unfold znd
  split
  ·rename_i c
   split
   ·rename_i hc; simp [spS,hc] at h
   ·rfl
  ·rfl
def ygc {β : Type} (x : AV) (κ : AV → β) : β := match x with
 | .w v => zzm v fun v => κ (.w v)
 | .ms id s off len => zeg off fun off => zeg len fun len => κ (.ms id s off len)
 | .rf id s i f => zeg i fun i => zeg f fun f => κ (.rf id s i f)
 | .agg xs => zhi zod xs fun xs => κ (.agg xs)
 | .str bs => zja bs fun bs => κ (.str bs)
 | .tup xs => zhi zky xs fun xs => κ (.tup xs)
 | .fn f xs => zhi zod xs fun xs => κ (.fn f xs)
 | x => zzn x κ
theorem ygb {β : Type} (x : AV) (κ : AV → β) : ygc x κ = κ x := by cases x <;> simp only [ygc,zus,zef,zia,zkx,zeh zoc,zeh zgl]
section
variable (T : zac) (SB : zgs)
abbrev ValF := zcw → CS → Option (AV × Tr Blk × Nat)
noncomputable def zyy (op : Op) : Wr ValF :=
 match copS T op with
 | ⟨f⟩ => match spS op with
  | true => ⟨fun _ τ => zjl T τ op⟩
  | false => ⟨fun _ τ => match f τ.nx (evC τ.n τ.sl) τ.H.get with
   | some (x,us) => appF τ.fl us τ.H fun H => zeg (τ.nx + 8) fun nz => some (x,H,nz)
   | none => none⟩
noncomputable def valS (q : Bool) (op : Op) : Wr ValF :=
 match op with
 | .call c => match c.callee with
  | .value f => ⟨fun call τ => ztq T SB call τ q (.call c)⟩
  | _ => zyy T (.call c)
 | op => zyy T op
theorem ztn (call : zcw) (τ : CS) (op : Op) : (zyy T op).v call τ = zjl T τ op := by
 unfold zyy
 have hc := ylq T τ.nx (evC τ.n τ.sl) τ.H.get op
 cases hf : copS T op with
 | mk f =>
  rw [hf] at hc
  cases hs : spS op with
  | true => rfl
  | false =>
   simp only
   unfold zjl
   rw [(ykg (T := T) hs).1,(ykg (T := T) hs).2,← hc]
   try rfl
theorem yku (call : zcw) (q : Bool) (τ : CS) (op : Op) : (valS T SB q op).v call τ = ztq T SB call τ q op := by
 cases op with
 | call c =>
  simp only [valS]
  cases hc : c.callee with
  | value f => rfl
  | _ => simp only [ztq,hc]; exact ztn T call τ (.call c)
 | _ => simp only [valS,ztq]; exact ztn T call τ _
abbrev ymj := zcw → CS → Option CS
noncomputable def zts (q : Bool) (o : Oper) : Wr ymj :=
 match valS T SB q o.op with
 | ⟨f⟩ => match o.dst with
  | none => ⟨fun call τ => match f call τ with
   | some (x,H,nz) => some ⟨τ.sl,τ.n,H,nz,τ.fl⟩
   | none => none⟩
  | some d => ⟨fun call τ => match f call τ with
   | some (x,H,nz) => ygc x fun x => bif Nat.blt d τ.n && Nat.blt d most then Tr.setK τ.sl d (some x) fun sl => some ⟨sl,τ.n,H,nz,τ.fl⟩ else none
   | none => none⟩
theorem ztr (call : zcw) (q : Bool) (τ : CS) (o : Oper) : (zts T SB q o).v call τ = ycd T SB call τ q o := by
 unfold zts ycd
 have hv := yku T SB call q τ o.op
 cases hf : valS T SB q o.op with
 | mk f =>
  rw [hf] at hv
  simp only at hv
  rw [← hv]
  cases hd : o.dst with
  | none =>
   simp only
   cases f call τ with
   | none => rfl
   | some r => obtain ⟨x,H,nz⟩ := r; simp only [zkx,putK]
  | some d =>
   simp only
   cases f call τ with
   | none => rfl
   | some r => obtain ⟨x,H,nz⟩ := r; simp only [zkx,ygb,putK]
noncomputable def yie (ops : List Oper) (q : Bool) (o : Oper) : Wr ymj :=
 match o.guard with
 | none => zts T SB q o
 | some (j,want) => match guardSlot ops j with
  | none => ⟨fun _ _ => none⟩
  | some d => match zts T SB q o with
   | ⟨f⟩ => ⟨fun call τ => match evC τ.n τ.sl (.tmp d) with
    | .w (.bool b) => bif b == want then f call τ else zqe τ o
    | .tup [] => zqe τ o
    | _ => none⟩
theorem yid (call : zcw) (ops : List Oper) (q : Bool) (τ : CS) (o : Oper) : (yie T SB ops q o).v call τ = zll T SB call ops q τ o := by
 unfold yie zll
 cases hg : o.guard with
 | none => exact ztr T SB call q τ o
 | some g =>
  obtain ⟨j,want⟩ := g
  simp only
  cases hs : guardSlot ops j with
  | none => rfl
  | some d =>
   simp only
   have hv := ztr T SB call q τ o
   cases hf : zts T SB q o with
   | mk f =>
    rw [hf] at hv
    simp only at hv ⊢
    rw [← hv]
    try rfl
noncomputable def zhs (ops : List Oper) (q : Nat → Bool) : Nat → List Oper → Wr ymj
 | _,[] => ⟨fun _ τ => some τ⟩
 | k,o :: r => match yie T SB ops (q k) o,zhs ops q (k + 1) r with
  | ⟨f⟩,⟨g⟩ => ⟨fun call τ => match f call τ with
   | some τ => g call τ
   | none => none⟩
theorem zqb (call : zcw) (ops : List Oper) (q : Nat → Bool) : ∀ (k : Nat) (l : List Oper) (τ : CS),(zhs T SB ops q k l).v call τ = zfu T SB call ops q k l τ
 | _,[],τ => rfl
 | k,o :: r,τ => by
  unfold zhs zfu
  have h1 := fun τ => yid T SB call ops (q k) τ o
  have h2 := fun τ => zqb call ops q (k + 1) r τ
  cases hf : yie T SB ops (q k) o with
  | mk f =>
   cases hg : zhs T SB ops q (k + 1) r with
   | mk g =>
    rw [hf] at h1
    rw [hg] at h2
    simp only at h1 h2 ⊢
    rw [← h1]
    cases f call τ with
    | none => rfl
    | some τ => exact h2 τ
abbrev ymn := zcw → CS → Option (Exit × CS)
noncomputable def zgn : Code → Wr ymn
 | .skip => ⟨fun _ τ => some (.normal,τ)⟩
 | .label _ => ⟨fun _ τ => some (.normal,τ)⟩
 | .region _ ops draw => match draw with
  | true => match zic (fun i => zct T ((zmf T ops.toList).getD i false)) ops.toList with
   | true => match zhs T SB ops.toList (fun i => (zmf T ops.toList).getD i false) 0 ops.toList with
    | ⟨f⟩ => ⟨fun call τ => match f call τ with | some τ => some (.normal,τ) | none => none⟩
   | false => ⟨fun _ _ => none⟩
  | false => match zhs T SB ops.toList (fun _ => false) 0 ops.toList with
   | ⟨f⟩ => ⟨fun call τ => match f call τ with | some τ => some (.normal,τ) | none => none⟩
 | .seq a b => match zgn a,zgn b with
  | ⟨f⟩,⟨g⟩ => ⟨fun call τ => match f call τ with
   | some (.normal,τ) => g call τ
   | some (.exit id,τ) => some (.exit id,τ)
   | some (.ret,τ) => some (.ret,τ)
   | _ => none⟩
 | .cond c a b => match zgn a,zgn b with
  | ⟨f⟩,⟨g⟩ => ⟨fun call τ => match evC τ.n τ.sl c with
   | .w (.bool true) => f call τ
   | .w (.bool false) => g call τ
   | _ => none⟩
 | .block id c => match zgn c with
  | ⟨f⟩ => ⟨fun call τ => match f call τ with
   | some (.exit id',τ) => if id' = id then some (.normal,τ) else some (.exit id',τ)
   | some (.normal,τ) => some (.normal,τ)
   | some (.ret,τ) => some (.ret,τ)
   | _ => none⟩
 | .loop c => match zgn c with
  | ⟨f⟩ => ⟨fun call τ => zwy (f call) 1000000 τ⟩
 | .exit id => ⟨fun _ τ => some (.exit id,τ)⟩
 | .ret => ⟨fun _ τ => some (.ret,τ)⟩
 | _ => ⟨fun _ _ => none⟩
theorem yjo (call : zcw) : ∀ (c : Code) (τ : CS),(zgn T SB c).v call τ = runC T SB call c τ := by
 intro c
 induction c with
 | region id ops draw =>
  intro τ
  have key : ∀ q,(match zhs T SB ops.toList q 0 ops.toList with | ⟨f⟩ => (⟨fun call τ => match f call τ with | some τ => some (.normal,τ) | none => none⟩ : Wr ymn)).v call τ = (match zfu T SB call ops.toList q 0 ops.toList τ with | some τ => some (.normal,τ) | none => none) := by
   intro q
   have h := zqb T SB call ops.toList q 0 ops.toList τ
   cases hf : zhs T SB ops.toList q 0 ops.toList with
   | mk f =>
    rw [hf] at h
    simp only at h ⊢
    rw [h]
  unfold zgn runC
  cases draw with
  | false => exact key _
  | true =>
   simp only [cond_true]
   cases zic (fun i => zct T ((zmf T ops.toList).getD i false)) ops.toList with
   | true => exact key _
   | false => rfl
 | seq a b iha ihb =>
  intro τ
  unfold zgn runC
  cases hf : zgn T SB a with
  | mk f =>
   cases hg : zgn T SB b with
   | mk g =>
    rw [hf] at iha
    rw [hg] at ihb
    simp only at iha ihb ⊢
    rw [← iha]
    cases f call τ with
    | none => rfl
    | some r =>
     obtain ⟨e,τ'⟩ := r
     cases e <;> first | rfl | exact ihb τ'
 | cond c a b iha ihb =>
  intro τ
  unfold zgn runC
  cases hf : zgn T SB a with
  | mk f =>
   cases hg : zgn T SB b with
   | mk g =>
    rw [hf] at iha
    rw [hg] at ihb
    simp only at iha ihb ⊢
    rw [← iha,← ihb]
    try rfl
 | block id c ih =>
  intro τ
  unfold zgn runC
  cases hf : zgn T SB c with
  | mk f =>
   rw [hf] at ih
   simp only at ih ⊢
   rw [← ih]
   try rfl
 | loop c ih =>
  intro τ
  unfold zgn runC
  cases hf : zgn T SB c with
  | mk f =>
   rw [hf] at ih
   simp only at ih ⊢
   have : f call = runC T SB call c := funext ih
   rw [this]
 | _ => intro τ; rfl
end
structure FnS where
 n : Nat
 f : ymn
 rs : List ResultVar
noncomputable def funS (P : Program) (T : zac) (SB : zgs) (g : FuncId) : Option FnS :=
 match P.funcs[g]? with
 | some fn => match fn.body with
  | some c => match fn.name == "runtime.NumGoroutine" with
   | true => none
   | false => match zgn T SB c with
    | ⟨f⟩ => some ⟨fn.ntmps,f,fn.results.toList⟩
  | none => none
 | none => none
noncomputable def yjq (P : Program) (T : zac) (SB : zgs) : Nat → zcw
 | 0,_,_,_,_,_ => none
 | k + 1,g,args,H,nx,fl => match funS P T SB g with
  | some ⟨n,f,rs⟩ => bif Nat.ble args.length n then
    yfd args 0 .leaf fun sl => match f (yjq P T SB k) ⟨sl,n,H,nx,fl⟩ with
     | some (e,τ) => bif ylj e then (match zop T τ rs with
       | some l => some (rone l,τ.H,τ.nx)
       | none => none) else none
     | none => none
    else none
  | none => none
theorem yad (P : Program) (T : zac) (SB : zgs) : ∀ k,yjq P T SB k = ydc P T SB k
 | 0 => by funext g args H nx fl; rfl
 | k + 1 => by
  funext g args H nx fl
  unfold yjq ydc funS
  rw [yad P T SB k]
  cases P.funcs[g]? with
  | none => rfl
  | some fn =>
   simp only
   cases fn.body with
   | none => rfl
   | some c =>
    simp only
    cases (fn.name == "runtime.NumGoroutine") with
    | true => rfl
    | false =>
     have h := yjo T SB (ydc P T SB k) c
     cases hf : zgn T SB c with
     | mk f =>
      rw [hf] at h
      simp only at h ⊢
      simp only [cond_false,h]
      try rfl
end Ax
end Go.Proofs.Ytdfgfdcfcdgadaa
namespace Go.Proofs.Ytdfgfdcfcdgadaa
namespace Ax
def opq : AV := .ms 0 1 0 0
def locD (bad : Nat → Prop) : Loc := { m := fun id => if id = 0 then .dead else .free,bad }
theorem yom {w : World} {bad : Nat → Prop} {x v : Value} (h : R w (zbf [] bad) (.w x) v) : R w (locD bad) opq v := by
 have hv := h.wv
 subst hv
 cases h with
 | w _ h1 => exact .ms 0 1 0 0 _ (by unfold Owns locD; simpa using h1)
noncomputable def zrw (P : Program) (T : zac) (SB : zgs) (k : Nat) (g : FuncId) (args : List AV) : Bool :=
 match yjq P T SB k g args .leaf 8 0 with
 | some (.w (.bool true),_,_) => true
 | _ => false
theorem zte {P : Program} {T : zac} (hm : P.follows .mixedOrders = true) (hT : TOk P T) {S : zal} {SB : zgs} (hS : Fns P S) (hSB : zgg P S SB) {k : Nat} {g : FuncId} {args : List AV} {spec : zcc}
  (hs : ∀ xs pins,(spec xs pins).p → pins = [] ∧ xs.length = args.length ∧ (spec xs pins).x = .w (.bool true) ∧ (spec xs pins).bl = [] ∧ ∀ (w : World) (bad : Nat → Prop) (j : Nat) (h : j < xs.length) (h' : j < args.length) (v : Value),R w (zbf [] bad) xs[j] v → R w (locD bad) args[j] v)
  (h : zrw P T SB k g args = true) : zen P g spec := by
 unfold zrw at h
 rw [yad] at h
 split at h
 ·rename_i H nz hc
  obtain ⟨_,_,_,_,h3⟩ := yae hm hT hS hSB k _ _ _ _ _ _ _ _ hc
  intro xs pins hp _ w bad pb vs hlen hnd hbad hlies hxl hx
  obtain ⟨rfl,hxa,hx1,hbl,hR⟩ := hs xs pins hp
  obtain rfl : pb = [] := List.eq_nil_of_length_eq_zero hlen
  have hfree : ∀ id,(zbf [] bad).m id = .free := fun id => by simp [zbf]
  have hno : ∀ i b,(locD bad).m i ≠ .here b := fun i b h => by unfold locD at h; simp only at h; split at h <;> cases h
  have henv : Env w (· ∈ ([] : List Nat)) w (locD bad) := ⟨rfl,rfl,rfl,Nat.le_refl _,fun _ _ _ => rfl,fun i j b hi => (hno i b hi).elim,fun i b hi => (hno i b hi).elim,fun b hb => hbad b hb⟩
  refine (h3 (fun id b hb => by rw [zdx] at hb; cases hb) w _ w (locD bad) vs (by omega) (fun j hj hj' => hR w bad j (by omega) hj _ (hx j (by omega) hj')) (fun id b hb => by rw [zat,zdx] at hb; cases hb) henv (fun id h1 _ => by unfold locD; simp only; rw [if_neg (by omega)])).mono ?_
  rintro e w' ⟨v,loc',rfl,hq⟩
  have hv := hq.r.wv
  subst hv
  refine ⟨_,zbf [] bad,rfl,?_⟩
  refine ⟨by rw [hx1]; exact .w _ rfl,rfl,(fun k hk => by rw [hbl] at hk; simp at hk),(fun k hk => by simp at hk),(fun k b _ hb => by rw [hfree] at hb; cases hb),fun k _ => hfree k,(fun i j b hi => by rw [hfree] at hi; cases hi),?_⟩
  exact ⟨hq.env.os,hq.env.tape,hq.env.output,hq.env.size,hq.env.same,fun b cur e fz hE => by simp at hE⟩
 ·cases h
end Ax
open Ax
theorem yhz {S : zal} {SB : zgs} (hS : Fns Try.prog S) (hSB : zgg Try.prog S SB) {g : FuncId} (h : zrw Try.prog ty SB 60 g [] = true) : zen Try.prog g yesS :=
 zte mixed ty_ok hS hSB (fun xs pins hp => by
  unfold yesS at hp ⊢
  split at hp
  ·exact ⟨rfl,rfl,rfl,rfl,fun w bad j h => by simp at h⟩
  ·exact hp.elim) h
abbrev noB : zgs := fun _ => none
theorem yna : zgg Try.prog (fun _ => none) noB := fun g h e => by cases e
theorem ymo {g : FuncId} (h : zrw Try.prog ty noB 60 g [] = true) : zen Try.prog g yesS := yhz (zlq _) yna h
end Go.Proofs.Ytdfgfdcfcdgadaa
