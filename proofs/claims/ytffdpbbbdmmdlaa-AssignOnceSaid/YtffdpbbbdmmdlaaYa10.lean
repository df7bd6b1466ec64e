/- What the proofs of this seat stand on; it asks nothing. -/
import Derived.Test.YtffdpbbbdmmdlaaYa09
set_option linter.unusedSimpArgs false
set_option linter.unusedVariables false
namespace Go.Proofs.Ytffdpbbbdmmdlaa
namespace Ax
inductive Tr (α : Type) where
 | leaf
 | node (l : Tr α) (a : Option α) (r : Tr α)
section
variable {α : Type}
noncomputable def Tr.get (t : Tr α) : Nat → Option α :=
 Tr.rec (fun _ => none) (fun _ a _ ihl ihr n => Nat.casesOn n a (fun k => cond (Nat.beq (Nat.mod k 2) 0) (ihl (Nat.div k 2)) (ihr (Nat.div k 2)))) t
theorem zds (n : Nat) : (Tr.leaf : Tr α).get n = none := rfl
theorem zdb (l r : Tr α) (a : Option α) : (Tr.node l a r).get 0 = a := rfl
theorem zcq (l r : Tr α) (a : Option α) (k : Nat) : (Tr.node l a r).get (k + 1) = cond (Nat.beq (k % 2) 0) (l.get (k / 2)) (r.get (k / 2)) := rfl
noncomputable def mkK {β : Type} (f : Nat) : Nat → Option α → (Tr α → β) → β :=
 Nat.rec (fun _ _ κ => κ .leaf) (fun _ ih n x κ => Nat.casesOn n (κ (.node .leaf x .leaf)) (fun k => cond (Nat.beq (Nat.mod k 2) 0) (ih (Nat.div k 2) x fun l => κ (.node l none .leaf)) (ih (Nat.div k 2) x fun r => κ (.node .leaf none r)))) f
theorem yfu {β : Type} (f : Nat) (x : Option α) (κ : Tr α → β) : mkK (f + 1) 0 x κ = κ (.node .leaf x .leaf) := rfl
theorem zsh {β : Type} (f k : Nat) (x : Option α) (κ : Tr α → β) : mkK (f + 1) (k + 1) x κ = cond (Nat.beq (k % 2) 0) (mkK f (k / 2) x fun l => κ (.node l none .leaf)) (mkK f (k / 2) x fun r => κ (.node .leaf none r)) := rfl
theorem znt {β : Type} : ∀ (f n : Nat) (x : Option α) (κ : Tr α → β),mkK f n x κ = κ (mkK f n x fun t => t)
 | 0,n,x,κ => rfl
 | f + 1,0,x,κ => rfl
 | f + 1,k + 1,x,κ => by
  rw [zsh,zsh]
  cases Nat.beq (k % 2) 0 with
  | true => simp only [cond_true]; rw [znt f _ _ fun l => κ (.node l none .leaf),znt f _ _ fun l => (.node l none .leaf : Tr α)]
  | false => simp only [cond_false]; rw [znt f _ _ fun r => κ (.node .leaf none r),znt f _ _ fun r => (.node .leaf none r : Tr α)]
noncomputable def Tr.setK {β : Type} (t : Tr α) : Nat → Option α → (Tr α → β) → β :=
 Tr.rec (fun n x κ => mkK 60 n x κ) (fun l a r ihl ihr n x κ => Nat.casesOn n (κ (.node l x r)) (fun k => cond (Nat.beq (Nat.mod k 2) 0) (ihl (Nat.div k 2) x fun l => κ (.node l a r)) (ihr (Nat.div k 2) x fun r => κ (.node l a r)))) t
noncomputable def Tr.set (t : Tr α) (n : Nat) (x : Option α) : Tr α := t.setK n x fun t => t
theorem znj {β : Type} (n : Nat) (x : Option α) (κ : Tr α → β) : (Tr.leaf : Tr α).setK n x κ = mkK 60 n x κ := rfl
theorem yet {β : Type} (l r : Tr α) (a : Option α) (x : Option α) (κ : Tr α → β) : (Tr.node l a r).setK 0 x κ = κ (.node l x r) := rfl
theorem zni {β : Type} (l r : Tr α) (a : Option α) (k : Nat) (x : Option α) (κ : Tr α → β) : (Tr.node l a r).setK (k + 1) x κ = cond (Nat.beq (k % 2) 0) (l.setK (k / 2) x fun l => κ (.node l a r)) (r.setK (k / 2) x fun r => κ (.node l a r)) := rfl
theorem zet {β : Type} : ∀ (t : Tr α) (n : Nat) (x : Option α) (κ : Tr α → β),t.setK n x κ = κ (t.set n x)
 | .leaf,n,x,κ => by unfold Tr.set; rw [znj,znj,znt]
 | .node l a r,0,x,κ => rfl
 | .node l a r,k + 1,x,κ => by
  unfold Tr.set
  rw [zni,zni]
  cases Nat.beq (k % 2) 0 with
  | true => simp only [cond_true]; rw [zet l _ _ fun l => κ (.node l a r),zet l _ _ fun l => (.node l a r : Tr α)]
  | false => simp only [cond_false]; rw [zet r _ _ fun r => κ (.node l a r),zet r _ _ fun r => (.node l a r : Tr α)]
theorem zgh (k : Nat) : (Nat.beq (k % 2) 0 = true ∧ k % 2 = 0) ∨ (Nat.beq (k % 2) 0 = false ∧ k % 2 = 1) := by
 rcases Nat.mod_two_eq_zero_or_one k with h | h
 ·exact .inl ⟨by rw [h]; rfl,h⟩
 ·exact .inr ⟨by rw [h]; rfl,h⟩
theorem ygv : ∀ (f n m : Nat) (x : Option α),n + 1 < 2 ^ f → (mkK f n x fun t => t).get m = if m = n then x else none
 | 0,n,m,x,h => by simp at h
 | f + 1,0,m,x,h => by
  rw [yfu]
  cases m with
  | zero => rw [zdb,if_pos rfl]
  | succ m => rw [zcq,if_neg (by omega)]; cases Nat.beq (m % 2) 0 <;> rfl
 | f + 1,k + 1,m,x,h => by
  have hd : k / 2 + 1 < 2 ^ f := by rw [Nat.pow_succ] at h; omega
  rw [zsh]
  rcases zgh k with ⟨e,hk⟩ | ⟨e,hk⟩
  ·rw [e,cond_true,znt]
   cases m with
   | zero => rw [zdb,if_neg (by omega)]
   | succ m =>
    rw [zcq]
    rcases zgh m with ⟨e2,hm⟩ | ⟨e2,hm⟩
    ·rw [e2,cond_true,ygv f _ _ _ hd]
     by_cases e3 : m / 2 = k / 2
     ·rw [if_pos e3,if_pos (by omega)]
     ·rw [if_neg e3,if_neg (by omega)]
    ·rw [e2,cond_false,zds,if_neg (by omega)]
  ·rw [e,cond_false,znt]
   cases m with
   | zero => rw [zdb,if_neg (by omega)]
   | succ m =>
    rw [zcq]
    rcases zgh m with ⟨e2,hm⟩ | ⟨e2,hm⟩
    ·rw [e2,cond_true,zds,if_neg (by omega)]
    ·rw [e2,cond_false,ygv f _ _ _ hd]
     by_cases e3 : m / 2 = k / 2
     ·rw [if_pos e3,if_pos (by omega)]
     ·rw [if_neg e3,if_neg (by omega)]
theorem zhr : ∀ (t : Tr α) (n m : Nat) (x : Option α),n + 1 < 2 ^ 60 → (t.set n x).get m = if m = n then x else t.get m
 | .leaf,n,m,x,h => by unfold Tr.set; rw [znj,ygv 60 n m x h,zds]
 | .node l a r,0,m,x,h => by
  unfold Tr.set
  rw [yet]
  cases m with
  | zero => rw [zdb,if_pos rfl]
  | succ m => rw [zcq,zcq,if_neg (by omega)]
 | .node l a r,k + 1,m,x,h => by
  have hd : k / 2 + 1 < 2 ^ 60 := by omega
  unfold Tr.set
  rw [zni]
  rcases zgh k with ⟨e,hk⟩ | ⟨e,hk⟩
  ·rw [e,cond_true,zet]
   cases m with
   | zero => rw [zdb,zdb,if_neg (by omega)]
   | succ m =>
    rw [zcq,zcq]
    rcases zgh m with ⟨e2,hm⟩ | ⟨e2,hm⟩
    ·rw [e2,cond_true,cond_true,zhr l _ _ _ hd]
     by_cases e3 : m / 2 = k / 2
     ·rw [if_pos e3,if_pos (by omega)]
     ·rw [if_neg e3,if_neg (by omega)]
    ·rw [e2,cond_false,cond_false,if_neg (by omega)]
  ·rw [e,cond_false,zet]
   cases m with
   | zero => rw [zdb,zdb,if_neg (by omega)]
   | succ m =>
    rw [zcq,zcq]
    rcases zgh m with ⟨e2,hm⟩ | ⟨e2,hm⟩
    ·rw [e2,cond_true,cond_true,if_neg (by omega)]
    ·rw [e2,cond_false,cond_false,zhr r _ _ _ hd]
     by_cases e3 : m / 2 = k / 2
     ·rw [if_pos e3,if_pos (by omega)]
     ·rw [if_neg e3,if_neg (by omega)]
def ygn (a : Option α) (k : Nat) : List (Nat × α) := match a with
 | some x => [(k,x)]
 | none => []
def Tr.rows : Tr α → (Nat → Nat) → List (Nat × α)
 | .leaf,_ => []
 | .node l a r,g => ygn a (g 0) ++ (l.rows (fun k => g (2 * k + 1)) ++ r.rows (fun k => g (2 * k + 2)))
end
theorem zzz (A B : Heap) (id : Nat) : look (A ++ B) id = match look A id with | some b => some b | none => look B id := zdn A B id
theorem zbu : ∀ (t : Tr Blk) (g : Nat → Nat) (id : Nat),(∀ k,g k ≠ id) → look (t.rows g) id = none
 | .leaf,g,id,h => rfl
 | .node l a r,g,id,h => by
  simp only [Tr.rows,zzz,zbu l _ id (fun k => h _),zbu r _ id (fun k => h _)]
  cases a with
  | none => rfl
  | some x => simp [ygn,look,h 0]
theorem znw : ∀ (t : Tr Blk) (g : Nat → Nat),(∀ i j,g i = g j → i = j) → ∀ n,look (t.rows g) (g n) = t.get n
 | .leaf,g,hg,n => rfl
 | .node l a r,g,hg,n => by
  have hl := znw l (fun k => g (2 * k + 1)) (fun i j h => by have := hg _ _ h; omega)
  have hr := znw r (fun k => g (2 * k + 2)) (fun i j h => by have := hg _ _ h; omega)
  simp only [Tr.rows,zzz]
  cases n with
  | zero =>
   rw [zbu l _ (g 0) (fun k h => by have := hg _ _ h; omega),zbu r _ (g 0) (fun k h => by have := hg _ _ h; omega)]
   rw [zdb]
   cases a <;> simp [ygn,look]
  | succ n =>
   have h0 : look (ygn a (g 0)) (g (n + 1)) = none := by
    cases a with
    | none => rfl
    | some x =>
     have : g 0 ≠ g (n + 1) := fun h => by have := hg _ _ h; omega
     simp [ygn,look,this]
   rw [h0]
   rw [zcq]
   by_cases hk : n % 2 = 0
   ·have e : g (n + 1) = g (2 * (n / 2) + 1) := by congr 1; omega
    rw [e,hl,zbu r _ _ (fun k h => by have := hg _ _ h; omega)]
    have : Nat.beq (n % 2) 0 = true := by rw [hk]; rfl
    rw [this,cond_true]
    cases l.get (n / 2) <;> rfl
   ·have e : g (n + 1) = g (2 * (n / 2) + 2) := by congr 1; omega
    rw [e,hr,zbu l _ _ (fun k h => by have := hg _ _ h; omega)]
    have : Nat.beq (n % 2) 0 = false := by rw [show n % 2 = 1 by omega]; rfl
    rw [this,cond_false]
def toH (t : Tr Blk) : Heap := t.rows (fun k => k)
theorem zak (t : Tr Blk) (id : Nat) : look (toH t) id = t.get id := znw t (fun k => k) (fun _ _ h => h) id
noncomputable def sget (t : Tr AV) (n : Nat) : AV := match t.get n with
 | some x => x
 | none => .junk
noncomputable def toS (n : Nat) (t : Tr AV) : List AV := (List.range n).map (sget t)
theorem zbs (n : Nat) (t : Tr AV) : (toS n t).length = n := by simp [toS]
theorem zmq (n : Nat) (t : Tr AV) (k : Nat) : slot (toS n t) k = if k < n then sget t k else .junk := by
 rw [zcy]
 by_cases h : k < n
 ·simp [toS,h]
 ·rw [if_neg h,List.getD_eq_getElem?_getD,List.getElem?_eq_none (by simp [toS]; omega)]; rfl
section force
variable {β : Type}
def zeb (n : Nat) (κ : Nat → β) : β := match n with
 | 0 => κ 0
 | k + 1 => κ (Nat.succ k)
theorem zea (n : Nat) (κ : Nat → β) : zeb n κ = κ n := by cases n <;> rfl
def yaj (n : Int) (κ : Int → β) : β := match n with
 | .ofNat n => zeb n fun n => κ (.ofNat n)
 | .negSucc n => zeb n fun n => κ (.negSucc n)
theorem zve (n : Int) (κ : Int → β) : yaj n κ = κ n := by cases n <;> simp only [yaj,zea]
def zis {α : Type} : List α → (List α → β) → β
 | [],κ => κ []
 | x :: r,κ => zis r fun r => κ (x :: r)
theorem zhs {α : Type} : ∀ (l : List α) (κ : List α → β),zis l κ = κ l
 | [],κ => rfl
 | x :: r,κ => by simp only [zis,zhs r]
def ymp (b : Bool) (κ : Bool → β) : β := match b with
 | true => κ true
 | false => κ false
theorem yhh (b : Bool) (κ : Bool → β) : ymp b κ = κ b := by cases b <;> rfl
def yag (v : Value) (κ : Value → β) : β := match v with
 | .int k n => yaj n fun n => κ (.int k n)
 | .bool b => ymp b fun b => κ (.bool b)
 | v => κ v
theorem zvd (v : Value) (κ : Value → β) : yag v κ = κ v := by cases v <;> first | rfl | simp only [yag,zve,yhh]
def zog (x : AV) (κ : AV → β) : β := match x with
 | .w v => yag v fun v => κ (.w v)
 | .str bs => zis bs fun bs => κ (.str bs)
 | .ms id s off len => zeb off fun off => zeb len fun len => κ (.ms id s off len)
 | .rf id s i f => zeb i fun i => zeb f fun f => κ (.rf id s i f)
 | .sb bs f => zis bs fun bs => κ (.sb bs f)
 | .si bs f => zis bs fun bs => κ (.si bs f)
 | .sg s bs f => zis bs fun bs => κ (.sg s bs f)
 | x => κ x
theorem zof (x : AV) (κ : AV → β) : zog x κ = κ x := by cases x <;> first | rfl | simp only [zog,zvd,zea,zhs]
def zha {α : Type} (f : α → (α → β) → β) : List α → (List α → β) → β
 | [],κ => κ []
 | x :: r,κ => f x fun x => zha f r fun r => κ (x :: r)
theorem zec {α : Type} {f : α → (α → β) → β} (hf : ∀ x κ,f x κ = κ x) : ∀ (l : List α) (κ : List α → β),zha f l κ = κ l
 | [],κ => rfl
 | x :: r,κ => by simp only [zha,hf,zec hf r]
def zku (x : AV) (κ : AV → β) : β := match x with
 | .agg xs => zha zog xs fun xs => κ (.agg xs)
 | .fn f xs => zha zog xs fun xs => κ (.fn f xs)
 | x => zog x κ
theorem zgb (x : AV) (κ : AV → β) : zku x κ = κ x := by cases x <;> first | rfl | simp only [zku,zof,zec zof]
def yah (x : AV) (κ : AV → β) : β := match x with
 | .tup xs => zha zku xs fun xs => κ (.tup xs)
 | x => zku x κ
theorem zkt (x : AV) (κ : AV → β) : yah x κ = κ x := by cases x <;> first | rfl | simp only [yah,zgb,zec zgb]
def yhd (p : AV × AV) (κ : AV × AV → β) : β := zku p.1 fun a => zku p.2 fun b => κ (a,b)
theorem yhc (p : AV × AV) (κ : AV × AV → β) : yhd p κ = κ p := by simp only [yhd,zgb]
def yai (b : Blk) (κ : Blk → β) : β := match b with
 | .b bs => zis bs fun bs => κ (.b bs)
 | .i ns => zha yaj ns fun ns => κ (.i ns)
 | .g s xs => zha zku xs fun xs => κ (.g s xs)
 | .o x => match x with
  | .it bs pos => zeb pos fun pos => κ (.o (.it bs pos))
  | .mp es => zha yhd es fun es => κ (.o (.mp es))
  | .mi es now => zis es fun es => κ (.o (.mi es now))
theorem yhe (b : Blk) (κ : Blk → β) : yai b κ = κ b := by
 cases b with
 | o x => cases x <;> simp only [yai,zea,zhs,zec yhc]
 | _ => simp only [yai,zhs,zec zve,zec zgb]
end force
theorem Ext.trans {C D : Nat → Prop} {w w1 w2 : World} {loc loc1 loc2 : Loc} (h : Ext C w loc w1 loc1) (k : Ext D w1 loc1 w2 loc2) : Ext (fun id => C id ∨ D id) w loc w2 loc2 := by
 refine ⟨Nat.le_trans h.size k.size,fun id hf hc => ?_,fun id hf hc => ?_,fun b hb hm => ?_,fun id b hb hc => ?_,fun b cur e fz hh => ?_⟩
 ·have h1 := h.keep id hf (fun c => hc (.inl c))
  exact (k.keep id (by rw [h1]; exact hf) (fun c => hc (.inr c))).trans h1
 ·have h1 : loc1.m id = loc.m id ∨ loc1.m id = .dead := by
   by_cases c : C id
   ·exact h.gone id hf c
   ·exact .inl (h.keep id hf c)
  have hf1 : loc1.m id ≠ .free := by rcases h1 with h1 | h1 <;> rw [h1] <;> first | exact hf | simp
  have h2 : loc2.m id = loc1.m id ∨ loc2.m id = .dead := by
   by_cases d : D id
   ·exact k.gone id hf1 d
   ·exact .inl (k.keep id hf1 d)
  rcases h2 with h2 | h2
  ·rw [h2]; exact h1
  ·exact .inr h2
 ·obtain ⟨h1,h2⟩ := h.imm b hb hm
  obtain ⟨k1,k2⟩ := k.imm b (Nat.lt_of_lt_of_le hb h.size) h2
  exact ⟨k1.trans h1,k2⟩
 ·have h1 := h.own id b hb (fun c => hc (.inl c))
  have h2 := h.keep id (by rw [hb]; simp) (fun c => hc (.inl c))
  exact (k.own id b (h2.trans hb) (fun c => hc (.inr c))).trans h1
 ·obtain ⟨c1,f1,h1,h2⟩ := h.shape b cur e fz hh
  obtain ⟨c2,f2,k1,k2⟩ := k.shape b c1 e f1 h1
  exact ⟨c2,f2,k1,k2.trans h2⟩
structure Tn (w : World) (loc : Loc) (nm nz : Nat) (w' : World) (loc' : Loc) : Prop where
 ext : ∃ C : Nat → Prop,Ext C w loc w' loc'
 fresh : ∀ id,loc.m id = .free → loc'.m id ≠ .free → nm ≤ id ∧ id < nz
 bad : loc'.bad = loc.bad
theorem Tn.refl (w : World) (loc : Loc) (nm nz : Nat) : Tn w loc nm nz w loc := ⟨⟨_,Ext.refl w loc⟩,fun _ h h' => (h' h).elim,rfl⟩
theorem Tn.trans {w w1 w2 : World} {loc loc1 loc2 : Loc} {a b c d : Nat} (h : Tn w loc a b w1 loc1) (k : Tn w1 loc1 c d w2 loc2) (hac : a ≤ c) (hbd : b ≤ d) : Tn w loc a d w2 loc2 := by
 obtain ⟨C,hC⟩ := h.ext
 obtain ⟨D,hD⟩ := k.ext
 refine ⟨⟨_,hC.trans hD⟩,fun id hf hn => ?_,k.bad.trans h.bad⟩
 by_cases h1 : loc1.m id = .free
 ·have := k.fresh id h1 hn; omega
 ·have := h.fresh id hf h1; omega
structure PostW (w0 : World) (E : Nat → Prop) (w : World) (loc : Loc) (nm nz : Nat) (x : AV) (H : Heap) (v : Value) (w' : World) (loc' : Loc) : Prop where
 r : R w' loc' x v
 h : HR w' loc' H
 env : Env w0 E w' loc'
 tn : Tn w loc nm nz w' loc'
section frame
open Classical
noncomputable def Loc.onlyP (loc : Loc) (F : Nat → Prop) : Loc :=
 { m := fun id => if F id then loc.m id else .free,bad := fun b => loc.bad b ∨ ∃ id,¬ F id ∧ loc.m id = .here b }
theorem zdk {loc : Loc} {F : Nat → Prop} {id : Nat} (h : F id) : (loc.onlyP F).m id = loc.m id := by simp [Loc.onlyP,h]
theorem zjf {loc : Loc} {F : Nat → Prop} {id : Nat} (h : ¬ F id) : (loc.onlyP F).m id = .free := by simp [Loc.onlyP,h]
theorem onlyP_mut {loc : Loc} {F : Nat → Prop} {b : Nat} : Mut (loc.onlyP F) b ↔ Mut loc b := by
 constructor
 ·rintro ((h | ⟨id,_,h⟩) | ⟨id,h⟩)
  ·exact .inl h
  ·exact .inr ⟨id,h⟩
  ·by_cases hF : F id
   ·rw [zdk hF] at h; exact .inr ⟨id,h⟩
   ·rw [zjf hF] at h; cases h
 ·rintro (h | ⟨id,h⟩)
  ·exact .inl (.inl h)
  ·by_cases hF : F id
   ·exact .inr ⟨id,(zdk hF).trans h⟩
   ·exact .inl (.inr ⟨id,hF,h⟩)
theorem R.onlyP {w : World} {loc : Loc} {F : Nat → Prop} {x : AV} {v : Value} (h : R w loc x v) (hq : ∀ id ∈ x.ids,loc.m id ≠ .free → F id) : R w (loc.onlyP F) x v :=
 h.agree (fun b _ hb => onlyP_mut.1 hb) fun id hid hf => zdk (hq id hid hf)
theorem BlkR.onlyP {w : World} {loc : Loc} {F : Nat → Prop} {id : Nat} {blk : Blk} (h : BlkR w loc id blk) (hq : ∀ k ∈ idsL blk.flat,loc.m k ≠ .free → F k) : BlkR w (loc.onlyP F) id blk := by
 by_cases hF : F id
 ·unfold BlkR at h ⊢
  rw [zdk hF]
  cases e : loc.m id with
  | free => trivial
  | dead => rw [e] at h; exact h
  | nil => rw [e] at h; exact h
  | here b =>
   rw [e] at h
   obtain ⟨hok,hl⟩ := h
   rcases zbc blk with ⟨x,hx,rfl⟩ | hodd
   ·exact ⟨hok,.mkO (Thing.move (fun b _ hb => onlyP_mut.1 hb) (hl.is hx)) hx⟩
   obtain ⟨cur,el,fz,h1,h2,h3,h4,h5⟩ := hl.lies hodd
   exact ⟨hok,.mkC ⟨cur,el,fz,h1,h2,h3,h4,fun j hj hj' => ⟨(h5 j hj hj').1,(h5 j hj hj').2.onlyP fun k hk => hq k (zdr j hj hk)⟩⟩ hodd⟩
 ·exact BlkR.free (zjf hF)
def InP (loc : Loc) (F : Nat → Prop) (b : Nat) : Prop := ∃ id,F id ∧ loc.m id = .here b
noncomputable def Loc.backP (loc loc' : Loc) (F : Nat → Prop) (nm nz : Nat) : Loc :=
 { m := fun id => if F id ∨ (nm ≤ id ∧ id < nz) then loc'.m id else loc.m id,bad := loc.bad }
variable {w0 : World} {E : Nat → Prop} {w : World} {loc : Loc} {F : Nat → Prop} {nm nz : Nat}
theorem Env.onlyP (he : Env w0 E w loc) : Env w (InP loc F) w (loc.onlyP F) := by
 refine ⟨rfl,rfl,rfl,Nat.le_refl _,fun _ _ _ => rfl,?_,?_,?_⟩
 ·intro i j b hi hj
  by_cases h1 : F i
  ·by_cases h2 : F j
   ·rw [zdk h1] at hi; rw [zdk h2] at hj
    exact he.inj i j b hi hj
   ·rw [zjf h2] at hj; cases hj
  ·rw [zjf h1] at hi; cases hi
 ·intro i b hi
  by_cases h1 : F i
  ·rw [zdk h1] at hi
   exact ⟨(he.lies i b hi).1,.inr ⟨i,h1,hi⟩⟩
  ·rw [zjf h1] at hi; cases hi
 ·rintro b (hb | ⟨id,hF,hb⟩)
  ·obtain ⟨h1,h2⟩ := he.bad b hb
   refine ⟨Nat.lt_of_lt_of_le h1 he.size,?_⟩
   rintro ⟨id,_,hid⟩
   rcases (he.lies id b hid).2 with h3 | h3
   ·omega
   ·exact h2 h3
  ·refine ⟨(he.lies id b hb).1,?_⟩
   rintro ⟨k,hk,hkb⟩
   exact hF (he.inj k id b hkb hb ▸ hk)
theorem PostW.frame (he : Env w0 E w loc) (hfree : ∀ id,nm ≤ id → id < nz → loc.m id = .free) {x : AV} {H : Heap} {v : Value} {w' : World} {loc' : Loc}
  (hH : ∀ id b,look H id = some b → F id ∨ (nm ≤ id ∧ id < nz)) (hp : PostW w (InP loc F) w (loc.onlyP F) nm nz x H v w' loc') :
  R w' (loc.backP loc' F nm nz) x v ∧ HR w' (loc.backP loc' F nm nz) H ∧ Env w0 E w' (loc.backP loc' F nm nz) ∧ (∃ C : Nat → Prop,Ext C w loc w' (loc.backP loc' F nm nz) ∧ ∀ id,C id → F id) ∧
   (∀ id,loc.m id = .free → (loc.backP loc' F nm nz).m id ≠ .free → nm ≤ id ∧ id < nz) ∧ (loc.backP loc' F nm nz).bad = loc.bad := by
 have hin : ∀ id,(F id ∨ (nm ≤ id ∧ id < nz)) → (loc.backP loc' F nm nz).m id = loc'.m id := fun id h => by simp [Loc.backP,h]
 have hout : ∀ id,¬ (F id ∨ (nm ≤ id ∧ id < nz)) → (loc.backP loc' F nm nz).m id = loc.m id := fun id h => by simp only [Loc.backP]; rw [if_neg h]
 have hpb := hp.tn.bad
 have hnew : ∀ id,loc'.m id ≠ .free → F id ∨ (nm ≤ id ∧ id < nz) := by
  intro id h
  by_cases hF : F id
  ·exact .inl hF
  ·exact .inr (hp.tn.fresh id (zjf hF) h)
 have hmut : ∀ b,Mut (loc.backP loc' F nm nz) b → Mut loc' b := by
  rintro b (hb | ⟨id,hid⟩)
  ·refine .inl ?_
   rw [hpb]; exact .inl hb
  ·by_cases h : F id ∨ (nm ≤ id ∧ id < nz)
   ·rw [hin id h] at hid; exact .inr ⟨id,hid⟩
   ·rw [hout id h] at hid
    exact .inl (by rw [hpb]; exact .inr ⟨id,fun hF => h (.inl hF),hid⟩)
 have hr : ∀ {y : AV} {u : Value},R w' loc' y u → R w' (loc.backP loc' F nm nz) y u := fun h => h.agree (fun b _ => hmut b) fun id _ hf => hin id (hnew id hf)
 have henv : Env w0 E w' (loc.backP loc' F nm nz) := by
  refine ⟨hp.env.os.trans he.os,hp.env.tape.trans he.tape,hp.env.output.trans he.output,Nat.le_trans he.size hp.env.size,?_,?_,?_,?_⟩
  ·intro b hb hE
   rw [hp.env.same b (Nat.lt_of_lt_of_le hb he.size) ?_]
   ·exact he.same b hb hE
   ·rintro ⟨id,_,hid⟩
    rcases (he.lies id b hid).2 with h3 | h3
    ·omega
    ·exact hE h3
  ·have hcross : ∀ i j b,(F i ∨ (nm ≤ i ∧ i < nz)) → ¬ (F j ∨ (nm ≤ j ∧ j < nz)) → loc'.m i = .here b → loc.m j = .here b → False := by
    intro i j b _ hj h1 h2
    have hbad : loc'.bad b := by rw [hpb]; exact .inr ⟨j,fun hF => hj (.inl hF),h2⟩
    obtain ⟨h3,h4⟩ := hp.env.bad b hbad
    rcases (hp.env.lies i b h1).2 with h5 | h5
    ·omega
    ·exact h4 h5
   intro i j b hi hj
   by_cases h1 : F i ∨ (nm ≤ i ∧ i < nz)
   ·rw [hin i h1] at hi
    by_cases h2 : F j ∨ (nm ≤ j ∧ j < nz)
    ·rw [hin j h2] at hj
     exact hp.env.inj i j b hi hj
    ·rw [hout j h2] at hj
     exact (hcross i j b h1 h2 hi hj).elim
   ·rw [hout i h1] at hi
    by_cases h2 : F j ∨ (nm ≤ j ∧ j < nz)
    ·rw [hin j h2] at hj
     exact (hcross j i b h2 h1 hj hi).elim
    ·rw [hout j h2] at hj
     exact he.inj i j b hi hj
  ·intro i b hi
   by_cases h1 : F i ∨ (nm ≤ i ∧ i < nz)
   ·rw [hin i h1] at hi
    obtain ⟨h2,h3⟩ := hp.env.lies i b hi
    refine ⟨h2,?_⟩
    rcases h3 with h3 | ⟨k,_,hk⟩
    ·exact .inl (Nat.le_trans he.size h3)
    ·exact (he.lies k b hk).2
   ·rw [hout i h1] at hi
    obtain ⟨h2,h3⟩ := he.lies i b hi
    exact ⟨Nat.lt_of_lt_of_le h2 hp.env.size,h3⟩
  ·intro b hb; exact he.bad b hb
 have hext : ∃ C : Nat → Prop,Ext C w loc w' (loc.backP loc' F nm nz) ∧ ∀ id,C id → F id := by
  obtain ⟨C,hE⟩ := hp.tn.ext
  have hnr : ∀ id,loc.m id ≠ .free → ¬ F id → ¬ (F id ∨ (nm ≤ id ∧ id < nz)) := by
   rintro id h1 h2 (h3 | h3)
   ·exact h2 h3
   ·exact h1 (hfree id h3.1 h3.2)
  have hhid : ∀ id b,loc.m id = .here b → ¬ F id → w'.heap[b]? = w.heap[b]? := by
   intro id b h1 h2
   refine hp.env.same b (he.lies id b h1).1 ?_
   rintro ⟨k,hk,hkb⟩
   exact h2 (he.inj k id b hkb h1 ▸ hk)
  refine ⟨fun id => C id ∧ F id,⟨hE.size,?_,?_,?_,?_,?_⟩,fun id hc => hc.2⟩
  ·intro id hf hc
   by_cases hF : F id
   ·rw [hin id (.inl hF)]
    have := hE.keep id (by rw [zdk hF]; exact hf) (fun h => hc ⟨h,hF⟩)
    rw [this,zdk hF]
   ·exact hout id (hnr id hf hF)
  ·rintro id hf ⟨hc,hF⟩
   rw [hin id (.inl hF)]
   have := hE.gone id (by rw [zdk hF]; exact hf) hc
   rw [zdk hF] at this
   exact this
  ·intro b hb hm
   obtain ⟨h1,h2⟩ := hE.imm b hb (fun h => hm (onlyP_mut.1 h))
   exact ⟨h1,fun h => h2 (hmut b h)⟩
  ·intro id b hb hc
   by_cases hF : F id
   ·exact hE.own id b (by rw [zdk hF]; exact hb) (fun h => hc ⟨h,hF⟩)
   ·exact hhid id b hb hF
  ·intro b cur e fz hh
   exact hE.shape b cur e fz hh
 refine ⟨hr hp.r,?_,henv,hext,?_,rfl⟩
 ·intro id blk hl
  have h0 := hH id blk hl
  have h1 := hp.h id blk hl
  unfold BlkR at h1 ⊢
  rw [hin id h0]
  split
  ·trivial
  ·rename_i e; rw [e] at h1; exact h1
  ·rename_i e; rw [e] at h1; exact h1
  ·rename_i b e
   rw [e] at h1
   obtain ⟨hok,hl1⟩ := h1
   rcases zbc blk with ⟨x,hx,rfl⟩ | hodd
   ·exact ⟨hok,.mkO (Thing.move (fun b _ hb => hmut b hb) (hl1.is hx)) hx⟩
   obtain ⟨cur,el,fz,a1,a2,a3,a4,a5⟩ := hl1.lies hodd
   exact ⟨hok,.mkC ⟨cur,el,fz,a1,a2,a3,a4,fun j hj hj' => ⟨(a5 j hj hj').1,hr (a5 j hj hj').2⟩⟩ hodd⟩
 ·intro id hf hn
  by_cases h : F id ∨ (nm ≤ id ∧ id < nz)
  ·rcases h with h | h
   ·rw [hin id (.inl h)] at hn
    by_cases hw : nm ≤ id ∧ id < nz
    ·exact hw
    ·exact (hp.tn.fresh id (by rw [zdk h]; exact hf) hn)
   ·exact h
  ·rw [hout id h] at hn; exact (hn hf).elim
end frame
end Ax
end Go.Proofs.Ytffdpbbbdmmdlaa
namespace Go.Proofs.Ytffdpbbbdmmdlaa
namespace Ax
structure Calm (k : Nat) (C : Nat → Prop) (nx : Nat) (lk : Nat → Option Blk) (w' : World) (loc' : Loc) : Prop where
 zero : k = 0 → ∀ id,¬ C id
 one : k = 1 → ∀ id,C id → id < nx ∧ ∀ b,lk id = some b → BlkR w' loc' id b
theorem Calm.of {k : Nat} {C : Nat → Prop} {nx : Nat} {lk : Nat → Option Blk} {w' : World} {loc' : Loc} (h : k ≤ 1 → ∀ id,¬ C id) : Calm k C nx lk w' loc' :=
 ⟨fun e => h (by omega),fun e id hc => (h (by omega) id hc).elim⟩
def yqu (P : Program) (l : List Oper) (N : Nat → Nat) (st : Nat → List AV × Heap) (val : Nat → AV) (kd : Nat → Nat) (i : Nat) (o : Oper) : Prop :=
 ∀ (w0 : World) (E : Nat → Prop) (w : World) (loc : Loc) (a : Act) (next : Act → World → Prop) (Q : Exit → Act → World → Prop),a.tmps.size = (st 0).1.length →
  (∀ t ∈ o.looksAt l.toArray,R w loc (slot (st i).1 t) (a.tmps.getD t undef)) → (kd i ≠ 0 → HR w loc (st i).2) → Env w0 E w loc → (∀ id,N i ≤ id → id < N (i + 1) → loc.m id = .free) →
  (∀ v w' loc',R w' loc' (val i) v → (∃ C : Nat → Prop,Ext C w loc w' loc' ∧ Calm (kd i) C (N i) (look (st i).2) w' loc') → (∀ id,loc.m id = .free → loc'.m id ≠ .free → N i ≤ id ∧ id < N (i + 1)) → Env w0 E w' loc' →
   (kd i ≠ 0 → HR w' loc' (st (i + 1)).2) → loc'.bad = loc.bad → next (a.put o.dst v) w') → wpOp P l.toArray Q i next a w
structure Text1 (P : Program) (l : List Oper) (N : Nat → Nat) (st : Nat → List AV × Heap) (val : Nat → AV) (kd : Nat → Nat) : Prop where
 mono : ∀ i,i < l.length → N i ≤ N (i + 1)
 size : ∀ i,i ≤ l.length → (st i).1.length = (st 0).1.length
 slot : ∀ i o,l[i]? = some o → ∀ t,slot (st (i + 1)).1 t = if o.dst = some t ∧ t < (st 0).1.length then val i else slot (st i).1 t
 new : ∀ i o,l[i]? = some o → ∀ id b,look (st (i + 1)).2 id = some b → look (st i).2 id ≠ none ∨ (N i ≤ id ∧ id < N (i + 1))
 keep : ∀ i o,l[i]? = some o → kd i ≤ 1 → ∀ id,¬ (N i ≤ id ∧ id < N (i + 1)) → look (st (i + 1)).2 id = look (st i).2 id
 same : ∀ i o,l[i]? = some o → kd i = 0 → ∀ id,look (st (i + 1)).2 id = look (st i).2 id
 kle : ∀ i,kd i ≤ 2
 low : ∀ id b,look (st 0).2 id = some b → id < N 0
 op : ∀ i o,l[i]? = some o → yqu P l N st val kd i o
structure RelL (Z : Nat) (w0 : World) (E : Nat → Prop) (loc : Loc) (sl : List AV) (H : Heap) (nx : Nat) (a : Act) (w : World) : Prop where
 size : a.tmps.size = sl.length
 slots : ∀ t,R w loc (slot sl t) (a.tmps.getD t undef)
 heap : HR w loc H
 env : Env w0 E w loc
 fresh : ∀ id,nx ≤ id → id < Z → loc.m id = .free
 defers : a.defers = []
structure zzc (l : List Oper) (kd : Nat → Nat) : Prop where
 back : ∀ j o,l[j]? = some o → ∀ e ∈ o.after.toList,Region.binds .any e = true → e.on < j
 clash : ∀ i j x y,i < j → l[i]? = some x → l[j]? = some y →
  ((∃ d,x.dst = some d ∧ (d ∈ y.looksAt l.toArray ∨ y.dst = some d)) ∨ (∃ d,y.dst = some d ∧ d ∈ x.looksAt l.toArray) ∨ (kd i = 2 ∧ kd j ≠ 0) ∨ (kd j = 2 ∧ kd i ≠ 0)) →
  ((zgp [] l).getD j 0).testBit i = true
section
variable {P : Program} {l : List Oper} {N : Nat → Nat} {st : Nat → List AV × Heap} {val : Nat → AV} {kd : Nat → Nat} {w0 : World} {E : Nat → Prop} {ws : World} {ls : Loc} {Z : Nat}
theorem Text1.le (ht : Text1 P l N st val kd) {i j : Nat} (hij : i ≤ j) (hj : j ≤ l.length) : N i ≤ N j := by
 induction j with
 | zero => obtain rfl : i = 0 := by omega
           exact Nat.le_refl _
 | succ j ih =>
   by_cases h : i = j + 1
   · subst h; exact Nat.le_refl _
   · exact Nat.le_trans (ih (by omega) (by omega)) (ht.mono j (by omega))
theorem zbo {i : Nat} {o : Oper} (h : l[i]? = some o) : i < l.length := (List.getElem?_eq_some_iff.1 h).1
theorem zez {i : Nat} (h : i < l.length) : l[i]? = some l[i] := List.getElem?_eq_getElem h
theorem ymo (ht : Text1 P l N st val kd) {t : Tmp} {i k : Nat} (hik : i ≤ k) (hk : k ≤ l.length) (h : ∀ j o,i ≤ j → j < k → l[j]? = some o → o.dst ≠ some t) : slot (st k).1 t = slot (st i).1 t := by
 induction k with
 | zero => obtain rfl : i = 0 := by omega
           rfl
 | succ k ih =>
   by_cases hk' : i = k + 1
   · rw [hk']
   · rw [← ih (by omega) (by omega) (fun j o h1 h2 h3 => h j o h1 (by omega) h3),ht.slot k _ (zez (by omega)),if_neg (fun e => h k _ (by omega) (by omega) (zez (by omega)) e.1)]
theorem ykv (ht : Text1 P l N st val kd) : ∀ k,k ≤ l.length → ∀ id b,look (st k).2 id = some b → id < N k
 | 0,_,id,b,h => ht.low id b h
 | k + 1,hk,id,b,h => by
  rcases ht.new k _ (zez (by omega)) id b h with h' | h'
  ·cases h2 : look (st k).2 id with
   | none => exact (h' h2).elim
   | some c => have := ykv ht k (by omega) id c h2; have := ht.mono k (by omega); omega
  ·exact h'.2
theorem ypm (ht : Text1 P l N st val kd) {id i k : Nat} (hik : i ≤ k) (hk : k ≤ l.length) {b : Blk} (hl : look (st k).2 id = some b) :
   look (st i).2 id ≠ none ∨ ∃ j o,i ≤ j ∧ j < k ∧ l[j]? = some o ∧ kd j ≠ 0 ∧ N j ≤ id ∧ id < N (j + 1) := by
 induction k generalizing b with
 | zero => obtain rfl : i = 0 := by omega
           exact .inl (by rw [hl]; simp)
 | succ k ih =>
   by_cases hk' : i = k + 1
   · subst hk'; exact .inl (by rw [hl]; simp)
   · have ho := zez (l := l) (i := k) (by omega)
     by_cases hz : kd k = 0
     · rw [ht.same k _ ho hz] at hl
       rcases ih (by omega) (by omega) hl with h | ⟨j,o,h1,h2,h3⟩
       · exact .inl h
       · exact .inr ⟨j,o,h1,by omega,h3⟩
     rcases ht.new k _ ho id b hl with h' | h'
     · cases h2 : look (st k).2 id with
       | none => exact (h' h2).elim
       | some c =>
         rcases ih (by omega) (by omega) h2 with h | ⟨j,o,h1,h2,h3⟩
         · exact .inl h
         · exact .inr ⟨j,o,h1,by omega,h3⟩
     · exact .inr ⟨k,_,by omega,by omega,ho,hz,h'⟩
theorem zvb (ht : Text1 P l N st val kd) {id i k : Nat} (hik : i ≤ k) (hk : k ≤ l.length) (hn : ∀ j o,i ≤ j → j < k → l[j]? = some o → kd j ≤ 1 ∧ (kd j = 0 ∨ ¬ (N j ≤ id ∧ id < N (j + 1)))) :
   look (st k).2 id = look (st i).2 id := by
 induction k with
 | zero => obtain rfl : i = 0 := by omega
           rfl
 | succ k ih =>
   by_cases hk' : i = k + 1
   · rw [hk']
   · rw [← ih (by omega) (by omega) (fun j o h1 h2 h3 => hn j o h1 (by omega) h3)]
     have ho := zez (l := l) (i := k) (by omega)
     obtain ⟨h2,h3⟩ := hn k _ (by omega) (by omega) ho
     rcases h3 with h3 | h3
     · exact ht.same k _ ho h3 id
     · exact ht.keep k _ ho h2 id h3
structure InvG (P : Program) (l : List Oper) (N : Nat → Nat) (st : Nat → List AV × Heap) (kd : Nat → Nat) (Z : Nat) (w0 : World) (E : Nat → Prop) (ws : World) (ls : Loc) (listed : Array Bool) (a : Act) (w : World) (loc : Loc) : Prop where
 sizel : listed.size = l.length
 size : a.tmps.size = (st 0).1.length
 slots : ∀ t k,k ≤ l.length → (∀ i o,l[i]? = some o → o.dst = some t → (Ls listed i ↔ i < k)) → R w loc (slot (st k).1 t) (a.tmps.getD t undef)
 heap : ∀ k,k ≤ l.length → (∀ i o,l[i]? = some o → kd i = 2 → (Ls listed i ↔ i < k)) → HR w loc (st k).2
 closed : ∀ j o,l[j]? = some o → Ls listed j → ∀ e ∈ o.after.toList,Region.binds .any e = true → Ls listed e.on
 fresh : ∀ i,¬ Ls listed i → i < l.length → ∀ id,N i ≤ id → id < N (i + 1) → loc.m id = .free
 high : ∀ id,N l.length ≤ id → id < Z → loc.m id = .free
 env : Env w0 E w loc
 defers : a.defers = []
 tn : Tn ws ls (N 0) (N l.length) w loc
variable {listed : Array Bool} {a : Act} {w : World} {loc : Loc} {i : Nat} {o : Oper}
theorem ydh (hg : zzc l kd) (inv : InvG P l N st kd Z w0 E ws ls listed a w loc) (ho : l[i]? = some o) (hnl : ¬ Ls listed i) (hrd : ∀ e ∈ o.after.toList,Region.binds .any e = true → Ls listed e.on) {t : Tmp} (ht : t ∈ o.looksAt l.toArray) :
  R w loc (slot (st i).1 t) (a.tmps.getD t undef) := by
 have hlt : i < l.length := zbo ho
 refine inv.slots t i (by omega) (fun j x hx hd => ⟨fun hl => ?_,fun hji => ?_⟩)
 ·rcases Nat.lt_trichotomy j i with h | h | h
  ·exact h
  ·subst h; exact (hnl hl).elim
  ·exact (hnl (zaq hg.back inv.closed _ j i (Nat.lt_succ_self _) (hg.clash i j o x h ho hx (.inr (.inl ⟨t,hd,ht⟩))) x hx (inv.closed j x hx hl))).elim
 ·exact zaq hg.back inv.closed _ i j (Nat.lt_succ_self _) (hg.clash j i x o hji hx ho (.inl ⟨t,hd,.inl ht⟩)) o ho hrd
theorem ydi (hg : zzc l kd) (inv : InvG P l N st kd Z w0 E ws ls listed a w loc) (ho : l[i]? = some o) (hnl : ¬ Ls listed i) (hrd : ∀ e ∈ o.after.toList,Region.binds .any e = true → Ls listed e.on) (hk : kd i ≠ 0) :
  HR w loc (st i).2 := by
 have hlt : i < l.length := zbo ho
 refine inv.heap i (by omega) (fun j x hx hd => ⟨fun hl => ?_,fun hji => ?_⟩)
 ·rcases Nat.lt_trichotomy j i with h | h | h
  ·exact h
  ·subst h; exact (hnl hl).elim
  ·exact (hnl (zaq hg.back inv.closed _ j i (Nat.lt_succ_self _) (hg.clash i j o x h ho hx (.inr (.inr (.inr ⟨hd,hk⟩)))) x hx (inv.closed j x hx hl))).elim
 ·exact zaq hg.back inv.closed _ i j (Nat.lt_succ_self _) (hg.clash j i x o hji hx ho (.inr (.inr (.inl ⟨hd,hk⟩)))) o ho hrd
theorem ygw (hg : zzc l kd) (ht : Text1 P l N st val kd) (inv : InvG P l N st kd Z w0 E ws ls listed a w loc) (ho : l[i]? = some o) (hnl : ¬ Ls listed i)
  (hrd : ∀ e ∈ o.after.toList,Region.binds .any e = true → Ls listed e.on) {v : Value} {w' : World} {loc' : Loc} {C : Nat → Prop}
  (hx : R w' loc' (val i) v) (hE : Ext C w loc w' loc') (hC : Calm (kd i) C (N i) (look (st i).2) w' loc')
  (hfr : ∀ id,loc.m id = .free → loc'.m id ≠ .free → N i ≤ id ∧ id < N (i + 1)) (he : Env w0 E w' loc') (hbad : loc'.bad = loc.bad) (hh : kd i ≠ 0 → HR w' loc' (st (i + 1)).2) :
  InvG P l N st kd Z w0 E ws ls (listed.setIfInBounds i true) (a.put o.dst v) w' loc' := by
 have hlt : i < l.length := zbo ho
 have his : i < listed.size := by rw [inv.sizel]; exact hlt
 have hls : ∀ j,Ls (listed.setIfInBounds i true) j ↔ j = i ∨ Ls listed j := fun j => zkk his
 have hanc : ∀ j y,l[j]? = some y → i < j → Ls listed j → ((∃ d,o.dst = some d ∧ (d ∈ y.looksAt l.toArray ∨ y.dst = some d)) ∨ (∃ d,y.dst = some d ∧ d ∈ o.looksAt l.toArray) ∨ (kd i = 2 ∧ kd j ≠ 0) ∨ (kd j = 2 ∧ kd i ≠ 0)) → False := fun j y hy hij hl hc =>
  hnl (zaq hg.back inv.closed _ j i (Nat.lt_succ_self _) (hg.clash i j o y hij ho hy hc) y hy (inv.closed j y hy hl))
 refine ⟨by simp [inv.sizel],?_,?_,?_,?_,?_,?_,he,?_,?_⟩
 ·cases o.dst with
  | none => exact inv.size
  | some d => simp [Act.put,inv.size]
 ·intro t k hk hq
  by_cases hd : o.dst = some t
  ·have hik : i < k := (hq i o ho hd).1 ((hls i).2 (.inl rfl))
   have e1 : slot (st k).1 t = slot (st (i + 1)).1 t := by
    refine ymo ht (by omega) hk (fun j y h1 h2 hy hyd => ?_)
    have := (hls j).1 ((hq j y hy hyd).2 h2)
    rcases this with h | h
    ·omega
    ·exact hanc j y hy (by omega) h (.inl ⟨t,hd,.inr hyd⟩)
   rw [e1,ht.slot i o ho t]
   by_cases hts : t < (st 0).1.length
   ·rw [if_pos ⟨hd,hts⟩,hd]
    have : (a.put (some t) v).tmps.getD t undef = v := by
     have := inv.size
     simp [Act.put,this,hts]
    rw [this]; exact hx
   ·rw [if_neg (fun e => hts e.2),zdg (by rw [ht.size i (by omega)]; exact Nat.le_of_not_lt hts)]
    exact .junk _
  ·have h1 := inv.slots t k hk (fun j y hy hyd => by
    have hji : j ≠ i := by
     rintro rfl
     rw [ho] at hy; injection hy with hy; subst hy; exact hd hyd
    rw [← hq j y hy hyd,hls]
    simp [hji])
   have : (a.put o.dst v).tmps.getD t undef = a.tmps.getD t undef := by
    cases hdd : o.dst with
    | none => rfl
    | some d =>
     have hne : d ≠ t := fun e => hd (by rw [hdd,e])
     simp [Act.put,Array.getElem?_setIfInBounds_ne hne]
   rw [this]; exact h1.ext hE
 ·intro k hk hq id b hl
  by_cases hf' : loc'.m id = .free
  ·exact BlkR.free hf'
  by_cases h2 : kd i = 2
  ·have hik : i < k := (hq i o ho h2).1 ((hls i).2 (.inl rfl))
   have hno : ∀ j y,i + 1 ≤ j → j < k → l[j]? = some y → kd j ≤ 1 ∧ (kd j = 0 ∨ ¬ (N j ≤ id ∧ id < N (j + 1))) := by
    intro j y h3 h4 hy
    have hle : kd j ≤ 2 := ht.kle j
    have hne : kd j ≠ 2 := by
     intro hy2
     rcases (hls j).1 ((hq j y hy hy2).2 h4) with h | h
     ·omega
     ·exact hanc j y hy (by omega) h (.inr (.inr (.inl ⟨h2,by omega⟩)))
    refine ⟨by omega,?_⟩
    by_cases hy0 : kd j = 0
    ·exact .inl hy0
    ·right
     intro hr
     have hjl : ¬ Ls listed j := fun hl => hanc j y hy (by omega) hl (.inr (.inr (.inl ⟨h2,hy0⟩)))
     have hfree := inv.fresh j hjl (by omega) id hr.1 hr.2
     have h6 := hfr id hfree hf'
     have := ht.le (i := i + 1) (j := j) (by omega) (by omega)
     omega
   rw [zvb ht (by omega) hk hno] at hl
   exact hh (by omega) id b hl
  ·have hold : HR w loc (st k).2 := inv.heap k hk (fun j y hy hy2 => by
    have hji : j ≠ i := by
     rintro rfl
     exact h2 hy2
    rw [← hq j y hy hy2,hls]
    simp [hji])
   have hle : kd i ≤ 1 := by
    have : kd i ≤ 2 := ht.kle i
    omega
   by_cases hf : loc.m id = .free
   ·have hr := hfr id hf hf'
    have hik : i < k := by
     rcases Nat.lt_or_ge i k with h | h
     ·exact h
     ·have := ykv ht k hk id b hl
      have := ht.le h (by omega : i ≤ l.length)
      omega
    by_cases hz : kd i = 0
    ·exfalso
     rcases ypm ht (i := i + 1) (by omega) hk hl with h | ⟨j,y,h3,h3',_,_,h4,_⟩
     ·rw [ht.same i o ho hz] at h
      cases h5 : look (st i).2 id with
      | none => exact h h5
      | some c => have := ykv ht i (by omega) id c h5; omega
     ·have := ht.le h3 (by omega : j ≤ l.length); omega
    ·have hno : ∀ j y,i + 1 ≤ j → j < k → l[j]? = some y → kd j ≤ 1 ∧ (kd j = 0 ∨ ¬ (N j ≤ id ∧ id < N (j + 1))) := by
      intro j y h3 h4 hy
      have hle2 : kd j ≤ 2 := ht.kle j
      have hne : kd j ≠ 2 := by
       intro hy2
       rcases (hls j).1 ((hq j y hy hy2).2 h4) with h | h
       ·omega
       ·exact hanc j y hy (by omega) h (.inr (.inr (.inr ⟨hy2,hz⟩)))
      have := ht.le h3 (by omega : j ≤ l.length)
      exact ⟨by omega,.inr (by omega)⟩
     rw [zvb ht (by omega) hk hno] at hl
     exact hh hz id b hl
   ·by_cases hCi : C id
    ·have h1k : kd i = 1 := by
      rcases (by omega : kd i = 0 ∨ kd i = 1) with e | e
      ·exact (hC.zero e id hCi).elim
      ·exact e
     obtain ⟨hlow,hB⟩ := hC.one h1k id hCi
     have heq : look (st k).2 id = look (st i).2 id := by
      rcases Nat.le_total i k with hik | hik
      ·refine zvb ht hik hk (fun j y h3 h4 hy => ?_)
       have hle2 : kd j ≤ 2 := ht.kle j
       have hne : kd j ≠ 2 := by
        intro hy2
        have hji : j ≠ i := by rintro rfl; omega
        rcases (hls j).1 ((hq j y hy hy2).2 h4) with h | h
        ·omega
        ·exact hanc j y hy (by omega) h (.inr (.inr (.inr ⟨hy2,by omega⟩)))
       have := ht.le h3 (by omega : j ≤ l.length)
       exact ⟨by omega,.inr (by omega)⟩
      ·have hlow2 := ykv ht k hk id b hl
       refine (zvb ht hik (by omega) (fun j y h3 h4 hy => ?_)).symm
       have hle2 : kd j ≤ 2 := ht.kle j
       have hne : kd j ≠ 2 := by
        intro hy2
        have hjl : Ls listed j := zaq hg.back inv.closed _ i j (Nat.lt_succ_self _) (hg.clash j i y o h4 hy ho (.inr (.inr (.inl ⟨hy2,by omega⟩)))) o ho hrd
        have := (hq j y hy hy2).1 ((hls j).2 (.inr hjl))
        omega
       have := ht.le h3 (by omega : j ≤ l.length)
       exact ⟨by omega,.inr (by omega)⟩
     exact hB b (heq ▸ hl)
    ·exact (hold id b hl).ext hE hCi hf
 ·intro j y hy hl e hee hbe
  rw [hls]
  rcases (hls j).1 hl with h | h
  ·subst h
   rw [ho] at hy; injection hy with hy; subst hy
   exact .inr (hrd e hee hbe)
  ·exact .inr (inv.closed j y hy h e hee hbe)
 ·intro j hj hjl id h1 h2
  rw [hls] at hj
  have hji : j ≠ i := fun e => hj (.inl e)
  have hf := inv.fresh j (fun h => hj (.inr h)) hjl id h1 h2
  by_cases hf' : loc'.m id = .free
  ·exact hf'
  ·have h6 := hfr id hf hf'
   rcases Nat.lt_or_ge j i with h | h
   ·have := ht.le (i := j + 1) (j := i) (by omega) (by omega); omega
   ·have := ht.le (i := i + 1) (j := j) (by omega) (by omega); omega
 ·intro id h1 hz
  have hf := inv.high id h1 hz
  by_cases hf' : loc'.m id = .free
  ·exact hf'
  ·have h6 := hfr id hf hf'
   have := ht.le (i := i + 1) (j := l.length) (by omega) (by omega); omega
 ·rw [← inv.defers]
  cases o.dst <;> rfl
 ·obtain ⟨⟨D,hD⟩,hf1,hb1⟩ := inv.tn
  refine ⟨⟨_,hD.trans hE⟩,fun id hf hn => ?_,hbad.trans hb1⟩
  by_cases h1 : loc.m id = .free
  ·have h6 := hfr id h1 hn
   have := ht.le (Nat.zero_le i) (by omega : i ≤ l.length)
   have := ht.le (i := i + 1) (j := l.length) (by omega) (by omega)
   omega
  ·exact hf1 id hf h1
theorem yqo (hg : zzc l kd) {listed : Array Bool} (hsz : listed.size = l.length) (hr : Region.ready .any l.toArray listed = []) : ∀ n j,j < n → j < l.length → Ls listed j := by
 intro n
 induction n with
 | zero => intro j h; omega
 | succ n ih =>
  intro j hj hjl
  by_cases hl : Ls listed j
  ·exact hl
  ·exfalso
   have : j ∈ Region.ready .any l.toArray listed := by
    refine mem_ready.2 ⟨getD_in (by rw [hsz]; exact hjl) (by unfold Ls at hl; simpa using hl),l[j],by simp [hjl],fun e he hb => ?_⟩
    have hlt := hg.back j l[j] (List.getElem?_eq_getElem hjl) e (by simpa using he) hb
    exact ih e.on (by omega) (by omega)
   rw [hr] at this
   simp at this
theorem ynk (hg : zzc l kd) (ht : Text1 P l N st val kd) {K : Exit → Act → World → Prop}
  (hK : ∀ listed a w loc,InvG P l N st kd Z w0 E ws ls listed a w loc → (∀ j,j < l.length → Ls listed j) → K .normal a w) :
  ∀ (fuel : Nat) (listed : Array Bool) (a : Act) (w : World) (loc : Loc),InvG P l N st kd Z w0 E ws ls listed a w loc → listed.toList.count false ≤ fuel → wpAny P .any l.toArray K fuel listed a w := by
 intro fuel
 induction fuel with
 | zero =>
  intro listed a w loc inv hc
  have hall : ∀ j,j < l.length → Ls listed j := by
   intro j hj
   have hj' : j < listed.size := by rw [inv.sizel]; exact hj
   have h1 : false ∉ listed.toList := by
    intro hm
    have := List.count_pos_iff.2 hm
    omega
   unfold Ls
   have h2 : listed[j] ≠ false := fun e => h1 (by rw [← e]; simp)
   simpa [hj'] using h2
  refine ⟨?_,hK listed a w loc inv hall⟩
  cases hr : Region.ready .any l.toArray listed with
  | nil => rfl
  | cons j r =>
   exfalso
   have hm : j ∈ Region.ready .any l.toArray listed := by rw [hr]; simp
   obtain ⟨h1,o,ho,_⟩ := mem_ready.1 hm
   have hjl : j < l.length := by
    have := (Array.getElem?_eq_some_iff.1 ho).1
    simpa using this
   have := hall j hjl
   unfold Ls at this
   rw [getD_both h1] at this
   cases this
 | succ fuel ih =>
  intro listed a w loc inv hc
  refine ⟨fun hr => hK listed a w loc inv (fun j hj => yqo hg inv.sizel hr _ j (Nat.lt_succ_self _) hj),fun i hi => ?_⟩
  obtain ⟨hnl1,o,ho',hrd'⟩ := mem_ready.1 hi
  have ho : l[i]? = some o := by simpa using ho'
  have hnl : ¬ Ls listed i := by unfold Ls; rw [getD_both hnl1]; simp
  have hrd : ∀ e ∈ o.after.toList,Region.binds .any e = true → Ls listed e.on := fun e he hb => hrd' e (by simpa using he) hb
  have hlt : i < l.length := zbo ho
  have hc' : (listed.setIfInBounds i true).toList.count false ≤ fuel := by
   have := zhv listed.toList i (by simpa using hnl1)
   rw [Array.toList_setIfInBounds]
   omega
  refine ht.op i o ho w0 E w loc a _ K inv.size (fun t h => ydh hg inv ho hnl hrd h) (fun hk => ydi hg inv ho hnl hrd hk) inv.env (inv.fresh i hnl hlt) ?_
  rintro v w' loc' hr ⟨C,hE,hC⟩ hfr he hh hb
  exact ih _ _ _ loc' (ygw hg ht inv ho hnl hrd hr hE hC hfr he hb hh) hc'
theorem ypl (hm : P.follows .mixedOrders = true) (hg : zzc l kd) (ht : Text1 P l N st val kd) {id : Nat} {a : Act} {w : World} {loc : Loc} (hZ : N l.length ≤ Z) (hr : RelL Z w0 E loc (st 0).1 (st 0).2 (N 0) a w) :
  (Code.region id l.toArray true).wp P (fun e a' w' => e = .normal ∧ ∃ loc',RelL Z w0 E loc' (st l.length).1 (st l.length).2 (N l.length) a' w' ∧ Tn w loc (N 0) (N l.length) w' loc') a w := by
 refine wp_region_any hm ?_
 have hL : ∀ i,¬ Ls (Array.replicate l.toArray.size false) i := fun i h => by
  unfold Ls at h
  rw [getD_replicate_false] at h; cases h
 have hE : Ext (fun _ => False) w loc { w with drawn := w.drawn + 1 } loc := ⟨Nat.le_refl _,fun _ _ _ => rfl,fun _ _ _ => .inl rfl,fun _ _ h => ⟨rfl,h⟩,fun _ _ _ _ => rfl,fun _ cur _ fz h => ⟨cur,fz,h,rfl⟩⟩
 refine ynk hg ht (Z := Z) (w0 := w0) (E := E) (ws := w) (ls := loc) ?_ _ _ _ _ loc ?_ ?_
 ·intro listed a w' loc' inv hall
  have hq : ∀ (i : Nat),i < l.length → (Ls listed i ↔ i < l.length) := fun i hi => ⟨fun _ => hi,fun _ => hall i hi⟩
  refine ⟨rfl,loc',⟨?_,?_,?_,inv.env,inv.high,inv.defers⟩,inv.tn⟩
  ·rw [ht.size _ (Nat.le_refl _)]; exact inv.size
  ·exact fun t => inv.slots t _ (Nat.le_refl _) (fun i o ho _ => hq i (zbo ho))
  ·exact inv.heap _ (Nat.le_refl _) (fun i o ho _ => hq i (zbo ho))
 ·have hcl : ∀ {x v},R w loc x v → R { w with drawn := w.drawn + 1 } loc x v := fun h => h.ext hE
  refine ⟨by simp,hr.size,?_,?_,?_,?_,?_,⟨hr.env.os,hr.env.tape,hr.env.output,hr.env.size,hr.env.same,hr.env.inj,hr.env.lies,hr.env.bad⟩,hr.defers,⟨⟨_,hE⟩,fun id h h' => (h' h).elim,rfl⟩⟩
  ·intro t k hk hq
   have e : slot (st k).1 t = slot (st 0).1 t := by
    refine ymo ht (i := 0) (Nat.zero_le _) hk (fun j o _ hj ho hd => ?_)
    exact hL j ((hq j o ho hd).2 hj)
   rw [e]
   exact hcl (hr.slots t)
  ·intro k hk hq id b hl
   by_cases hf : loc.m id = .free
   ·exact BlkR.free hf
   ·have hidn : id < N 0 ∨ Z ≤ id := by
     rcases Nat.lt_or_ge id (N 0) with h' | h'
     ·exact .inl h'
     ·rcases Nat.lt_or_ge id Z with h2 | h2
      ·exact (hf (hr.fresh id h' h2)).elim
      ·exact .inr h2
    have e : look (st k).2 id = look (st 0).2 id := by
     refine zvb ht (i := 0) (Nat.zero_le _) hk (fun j o _ hj ho => ?_)
     have hle : kd j ≤ 2 := ht.kle j
     have hne : kd j ≠ 2 := fun h2 => hL j ((hq j o ho h2).2 hj)
     have := ht.le (Nat.zero_le j) (by omega : j ≤ l.length)
     have := ht.le (by omega : j + 1 ≤ l.length) (Nat.le_refl _)
     exact ⟨by omega,.inr (by omega)⟩
    rw [e] at hl
    exact (hr.heap id b hl).ext hE (fun h => h) hf
  ·intro j o ho hl; exact (hL j hl).elim
  ·intro i _ hi id h1 h2
   have := ht.le (Nat.zero_le i) (by omega : i ≤ l.length)
   have := ht.le (i := i + 1) (j := l.length) (by omega) (Nat.le_refl _)
   exact hr.fresh id (by omega) (by omega)
  ·intro id h1 h2
   have := ht.le (Nat.zero_le l.length) (Nat.le_refl _)
   exact hr.fresh id (by omega) h2
 ·simp
end
end Ax
end Go.Proofs.Ytffdpbbbdmmdlaa
namespace Go.Proofs.Ytffdpbbbdmmdlaa
namespace Ax
theorem R.agreeN {w : World} {loc loc' : Loc} {x : AV} {v : Value} (h : R w loc x v) (hn : x.noimm = true) (hq : ∀ id ∈ x.ids,loc.m id ≠ .free → loc'.m id = loc.m id) : R w loc' x v := by
 induction h with
 | w v h => exact .w v h
 | str bs => exact .str bs
 | agg xs cs hl hx _ ih => exact .agg xs cs hl hx fun j h1 h2 => ih j h1 h2 (zcv (by simpa [AV.noimm] using hn) j h1) fun id hid => hq id (by simp only [AV.ids]; exact zdr j h1 hid)
 | tup xs cs hl _ ih => exact .tup xs cs hl fun j h1 h2 => ih j h1 h2 (zcv (by simpa [AV.noimm] using hn) j h1) fun id hid => hq id (by simp only [AV.ids]; exact zdr j h1 hid)
 | sb bs full a cap hd hc =>
  obtain rfl : bs = [] := by simpa [AV.noimm] using hn
  exact .sb [] full a cap hd ⟨.inl rfl⟩
 | si ns full a cap hd hc =>
  obtain rfl : ns = [] := by simpa [AV.noimm] using hn
  exact .si [] full a cap hd ⟨.inl rfl⟩
 | sg s xs full a cap cs hd hs hc hl hx h1 ih =>
  obtain rfl : xs = [] := by simpa [AV.noimm] using hn
  obtain rfl : cs = [] := by simpa using hl.symm
  exact .sg s [] full a cap [] hd hs ⟨.inl rfl⟩ rfl (by simp) (by simp)
 | cp ls a cs hc hn' hl hx h1 ih => simp [AV.noimm] at hn
 | ms id s off len v h =>
  have hf : loc.m id ≠ .free := by intro e; simp [Owns,e] at h
  have e := hq id (by simp [AV.ids]) hf
  refine .ms id s off len v ?_
  unfold Owns at h ⊢
  rw [e]; exact h
 | rf id s i f v h =>
  have hf : loc.m id ≠ .free := by intro e; simp [Points,e] at h
  have e := hq id (by simp [AV.ids]) hf
  refine .rf id s i f v ?_
  unfold Points at h ⊢
  rw [e]; exact h
 | fn f caps cs hl _ ih => exact .fn f caps cs hl fun j h1 h2 => ih j h1 h2 (zcv (by simpa [AV.noimm] using hn) j h1) fun id hid => hq id (by simp only [AV.ids]; exact zdr j h1 hid)
 | junk v => exact .junk v
def frqE (f : AV → AV) : AV → AV
 | .agg ls => .agg (ls.map f)
 | .tup xs => .tup xs
 | x => f x
def zia : List AV → Bool
 | [] => true
 | x :: r => closedL x.leaves && zia r
noncomputable def frqL (H : Tr Blk) : Nat → AV → AV
 | 0,x => x
 | n + 1,x => match x with
  | .ms id s off len => match H.get id with
   | some (.b bs) => bif decide (s = 1) && decide (off + len ≤ bs.length) then .sb ((bs.drop off).take len) false else .ms id s off len
   | some (.i ns) => bif decide (s = 1) && decide (off + len ≤ ns.length) then .si ((ns.drop off).take len) false else .ms id s off len
   | some (.g s' xs) => bif (decide (s' = s) && decide (off + len ≤ xs.length)) && zia (((xs.drop off).take len).map (frqE (frqL H n))) then .sg s (((xs.drop off).take len).map (frqE (frqL H n))) false else .ms id s off len
   | _ => .ms id s off len
  | .rf id s i f => match H.get id with
   | some (.g s' xs) => bif (decide (0 < s) && (decide (i = 0) && decide (f = 0))) && (!(xs.flatMap AV.leaves).isEmpty && closedL ((xs.flatMap AV.leaves).map (frqL H n))) then .cp ((xs.flatMap AV.leaves).map (frqL H n)) else .rf id s i f
   | _ => .rf id s i f
  | .fn f cs => .fn f (cs.map (frqL H n))
  | x => x
noncomputable def frqV (H : Tr Blk) (x : AV) : AV := frqE (frqL H 6) x
theorem zgy : ∀ {xs : List AV},zia xs = true → ∀ x ∈ xs,closedL x.leaves = true
 | [],_,x,h => by simp at h
 | y :: r,h,x,hx => by
  simp only [zia,Bool.and_eq_true] at h
  rcases List.mem_cons.1 hx with rfl | hx
  ·exact h.1
  ·exact zgy h.2 x hx
def isAgg : AV → Bool
 | .agg _ => true
 | .tup _ => true
 | _ => false
theorem zky {b : Bool} {x y : AV} (hx : x.leaf = true) (hy : y.leaf = true) : (bif b then x else y).leaf = true := by cases b <;> assumption
theorem zks {H : Tr Blk} (n : Nat) {x : AV} (h : x.leaf = true) : (frqL H n x).leaf = true := by
 cases n with
 | zero => exact h
 | succ n =>
  unfold frqL
  split
  ·split
   ·exact zky rfl rfl
   ·exact zky rfl rfl
   ·exact zky rfl rfl
   ·rfl
  ·split
   ·exact zky rfl rfl
   ·rfl
  ·rfl
  ·exact h
theorem zum {x : AV} (h : x.leaf = true) : x.leaves = [x] := by cases x <;> first | rfl | simp [AV.leaf] at h
theorem zoe {H : Tr Blk} {n : Nat} {x : AV} (h : ∀ y ∈ x.leaves,y.leaf = true) : (frqE (frqL H n) x).leaves = x.leaves.map (frqL H n) := by
 cases x with
 | agg ls => rfl
 | tup xs => have := h (.tup xs) (by simp [AV.leaves]); simp [AV.leaf] at this
 | _ =>
  have hx := h _ (by simp [AV.leaves]; rfl)
  simp only [frqE,AV.leaves,List.map_cons,List.map_nil]
  exact zum (zks n hx)
def Loc.bare (loc : Loc) : Loc := { m := fun _ => .free,bad := loc.bad }
theorem bare_mut {loc : Loc} {b : Nat} : Mut loc.bare b ↔ loc.bad b := by
 constructor
 ·rintro (h | ⟨id,h⟩)
  ·exact h
  ·cases h
 ·exact .inl
section
variable {w0 : World} {E : Nat → Prop} {w : World} {loc : Loc} {H : Tr Blk}
theorem ygy (he : Env w0 E w loc) (hh : HR w loc (toH H)) : ∀ (n : Nat) (x : AV) (v : Value),R w loc x v → (frqL H n x).closed = true → R w loc.bare (frqL H n x) v := by
 have hM : ∀ b,b < w.heap.size → Mut loc.bare b → Mut loc b := fun b _ h => .inl (bare_mut.1 h)
 have nomut : ∀ id b,loc.m id = .here b → ¬ Mut loc.bare b := by
  intro id b hb hM
  obtain ⟨h1,h2⟩ := he.bad b (bare_mut.1 hM)
  rcases (he.lies id b hb).2 with h3 | h3
  ·omega
  ·exact h2 h3
 intro n
 induction n with
 | zero => intro x v hx hc; exact hx.move hM hc
 | succ n ih =>
  intro x v hx hc
  unfold frqL at hc ⊢
  split at hc
  ·rename_i id s off len
   cases hx with
   | ms _ _ _ _ _ h =>
    have cells : ∀ (n : Nat) (fl : List AV) {blk : Blk},Ax.look (toH H) id = some blk → Seen w loc v n s fl → ∃ a cap cs,v = .slice a n cap ∧ n ≤ cap ∧ cap ≤ maxLen ∧ (n = 0 ∨ (cs.length = n * s ∧ CellsOf w loc fl cs ∧ ∃ b o,a = some ⟨b,o,none⟩ ∧ b < w.heap.size ∧ (∀ (j : Nat) (hj : j < cs.length),w.cell? ⟨b,o + j,none⟩ = some cs[j]) ∧ loc.m id = .here b)) := by
     intro n fl blk hlk hs
     obtain ⟨a,cap,rfl,h1,h2,h3⟩ := hs.seen
     have hfr : loc.m id ≠ .free := by intro e; simp [Owns,e] at h
     rcases h3 with h3 | ⟨b,o,cs,rfl,h4,h5,h6,h7⟩
     ·exact ⟨a,cap,[],rfl,h1,h2,.inl h3⟩
     ·refine ⟨_,cap,cs,rfl,h1,h2,?_⟩
      obtain ⟨hok,hn | ⟨b',hb',_⟩⟩ := hh.get hlk hfr
      ·unfold Owns at h; rw [hn.1] at h
       left
       obtain ⟨hl0,a,ha⟩ := h
       injection ha with _ hq _
      ·unfold Owns at h; rw [hb'] at h
       obtain ⟨o',cap',cur0,e0,fz0,hv,_⟩ := h
       injection hv with hv _ _
       injection hv with hv
       injection hv with hv1 hv2
       subst hv1
       exact .inr ⟨h5,h7,b,o,rfl,h4,h6,hb'⟩
    split at hc
    ·rename_i bs hlk0
     have hlk : Ax.look (toH H) id = some (.b bs) := by rw [zak]; exact hlk0
     try dsimp only
     try simp only [hlk0]
     cases hq : (decide (s = 1) && decide (off + len ≤ bs.length)) with
     | false => rw [hq] at hc; cases hc
     | true =>
      simp only [hq,cond_true]
      simp only [Bool.and_eq_true,decide_eq_true_eq] at hq
      obtain ⟨rfl,hle⟩ := hq
      have hs := zeu hh h hlk rfl hle
      have e : ((bs.drop off).take len).length = len := by simp; omega
      have hfl : (Blk.flat (.b bs) |>.drop (off * 1) |>.take (len * 1)) = ((bs.drop off).take len).map fun b => .w (byte b) := by
       simp [Blk.flat,List.map_take,List.map_drop]
      rw [hfl] at hs
      obtain ⟨a,cap,cs,rfl,h1,h2,h3⟩ := cells len _ hlk hs
      have key : Cells w loc.bare a (((bs.drop off).take len).map byte) := by
       rcases h3 with h3 | ⟨h4,h5,b,o,rfl,h6,h7,h8⟩
       ·subst h3; exact ⟨.inl (by simp)⟩
       ·have hcs := zie h5
        subst hcs
        exact ⟨.inr ⟨b,o,rfl,nomut id b h8,h6,h7⟩⟩
      have := R.sb (w := w) (loc := loc.bare) ((bs.drop off).take len) false a cap ⟨by omega,h2,by simp⟩ key
      rw [e] at this
      exact this
    ·rename_i ns hlk0
     have hlk : Ax.look (toH H) id = some (.i ns) := by rw [zak]; exact hlk0
     try dsimp only
     try simp only [hlk0]
     cases hq : (decide (s = 1) && decide (off + len ≤ ns.length)) with
     | false => rw [hq] at hc; cases hc
     | true =>
      simp only [hq,cond_true]
      simp only [Bool.and_eq_true,decide_eq_true_eq] at hq
      obtain ⟨rfl,hle⟩ := hq
      have hs := zeu hh h hlk rfl hle
      have e : ((ns.drop off).take len).length = len := by simp; omega
      have hfl : (Blk.flat (.i ns) |>.drop (off * 1) |>.take (len * 1)) = ((ns.drop off).take len).map fun b => .w (word b) := by
       simp [Blk.flat,List.map_take,List.map_drop]
      rw [hfl] at hs
      obtain ⟨a,cap,cs,rfl,h1,h2,h3⟩ := cells len _ hlk hs
      have key : Cells w loc.bare a (((ns.drop off).take len).map word) := by
       rcases h3 with h3 | ⟨h4,h5,b,o,rfl,h6,h7,h8⟩
       ·subst h3; exact ⟨.inl (by simp)⟩
       ·have hcs : cs = ((ns.drop off).take len).map word := by
         refine List.ext_getElem (by have := h5.len; simpa using this.symm) fun j a b => ?_
         have := h5.r j (by simpa using b) a
         simp only [List.getElem_map] at this ⊢
         exact this.wv
        subst hcs
        exact ⟨.inr ⟨b,o,rfl,nomut id b h8,h6,h7⟩⟩
      have := R.si (w := w) (loc := loc.bare) ((ns.drop off).take len) false a cap ⟨by omega,h2,by simp⟩ key
      rw [e] at this
      exact this
    ·rename_i s' xs hlk0
     have hlk : Ax.look (toH H) id = some (.g s' xs) := by rw [zak]; exact hlk0
     try dsimp only
     try simp only [hlk0]
     cases hq : ((decide (s' = s) && decide (off + len ≤ xs.length)) && zia (((xs.drop off).take len).map (frqE (frqL H n)))) with
     | false => rw [hq] at hc; cases hc
     | true =>
      simp only [hq,cond_true]
      simp only [Bool.and_eq_true,decide_eq_true_eq] at hq
      obtain ⟨⟨rfl,hle⟩,hcl⟩ := hq
      have hfr : loc.m id ≠ .free := by intro e; simp [Owns,e] at h
      obtain ⟨hok,_⟩ := hh.get hlk hfr
      have hs := zeu hh h hlk rfl hle
      have e : ((xs.drop off).take len).length = len := by simp; omega
      have hls : ∀ y ∈ (xs.drop off).take len,y.leaves.length = s' := fun y hy => hok.2 y (List.mem_of_mem_drop (List.mem_of_mem_take hy))
      have hfl : (Blk.flat (.g s' xs) |>.drop (off * s') |>.take (len * s')) = ((xs.drop off).take len).flatMap AV.leaves := by
       rw [zbe _ _ (fun y hy => hok.2 y (List.mem_of_mem_drop hy)),zbp _ _ hok.2]; rfl
      rw [hfl] at hs
      obtain ⟨a,cap,cs,rfl,h1,h2,h3⟩ := cells len _ hlk hs
      generalize hys : (xs.drop off).take len = ys at e hls hcl hs h3 ⊢
      by_cases h0 : len = 0
      ·subst h0
       obtain rfl : ys = [] := List.eq_nil_of_length_eq_zero e
       exact .sg s' [] false a cap [] ⟨by simp,h2,by simp⟩ (by simp) ⟨.inl rfl⟩ rfl (by simp) (by simp)
      ·rcases h3 with h3 | ⟨h4,h5,b,o,rfl,h6,h7,h8⟩
       ·exact (h0 h3).elim
       ·have hlf : ∀ y ∈ ys,∀ z ∈ y.leaves,z.leaf = true := by
         intro y hy z hz
         obtain ⟨j,hj,e1⟩ := List.mem_iff_getElem.1 (List.mem_flatMap.2 ⟨y,hy,hz⟩ : z ∈ ys.flatMap AV.leaves)
         rw [← e1]; exact h5.leaf j hj
        have hmap : (ys.map (frqE (frqL H n))).flatMap AV.leaves = (ys.flatMap AV.leaves).map (frqL H n) := by
         clear hcl h5 h4 hs h2 h1 e hls hys
         induction ys with
         | nil => rfl
         | cons y r ihr =>
          simp only [List.map_cons,List.flatMap_cons,List.map_append]
          rw [zoe (hlf y (by simp)),ihr (fun y hy => hlf y (by simp [hy]))]
        have hl5 := h5.len
        have := R.sg (w := w) (loc := loc.bare) s' (ys.map (frqE (frqL H n))) false (some ⟨b,o,none⟩) cap cs ⟨by simp [e]; exact h1,h2,by simp⟩
         (fun y hy => by
          obtain ⟨z,hz,rfl⟩ := List.mem_map.1 hy
          rw [zoe (hlf z hz),List.length_map]; exact hls z hz)
         ⟨.inr ⟨b,o,rfl,nomut id b h8,h6,h7⟩⟩ (by rw [hmap,List.length_map]; exact hl5)
         (fun j hj => by
          have hm := List.getElem_mem hj
          obtain ⟨y,hy,hyl⟩ := List.mem_flatMap.1 hm
          have hc1 := zgy hcl y hy
          obtain ⟨k,hk,e1⟩ := List.mem_iff_getElem.1 hyl
          refine ⟨?_,by rw [← e1]; exact zbf hc1 k hk⟩
          simp only [hmap] at hj ⊢
          rw [List.getElem_map]
          exact zks n (h5.leaf j (by simpa using hj)))
         (fun j hj hj' => by
          have hm := List.getElem_mem hj
          obtain ⟨y,hy,hyl⟩ := List.mem_flatMap.1 hm
          have hc1 := zgy hcl y hy
          obtain ⟨k,hk,e1⟩ := List.mem_iff_getElem.1 hyl
          have hc2 := zbf hc1 k hk
          rw [e1] at hc2
          simp only [hmap] at hj hc2 ⊢
          rw [List.getElem_map] at hc2 ⊢
          exact ih _ _ (h5.r j (by simpa using hj) hj') hc2)
        rw [List.length_map,e] at this
        exact this
    ·cases hc
  ·rename_i id s i f
   cases hx with
   | rf _ _ _ _ _ h =>
    split at hc
    ·rename_i s' xs hlk0
     have hlk : Ax.look (toH H) id = some (.g s' xs) := by rw [zak]; exact hlk0
     try dsimp only
     try simp only [hlk0]
     cases hq : ((decide (0 < s) && (decide (i = 0) && decide (f = 0))) && (!(xs.flatMap AV.leaves).isEmpty && closedL ((xs.flatMap AV.leaves).map (frqL H n)))) with
     | false => rw [hq] at hc; cases hc
     | true =>
      simp only [hq,cond_true]
      simp only [Bool.and_eq_true,decide_eq_true_eq,Bool.not_eq_true'] at hq
      obtain ⟨⟨hs0,rfl,rfl⟩,hne,hcl⟩ := hq
      have hfr : loc.m id ≠ .free := by intro e; simp [Points,e] at h
      obtain ⟨hok,hn | ⟨b,hb,hl⟩⟩ := hh.get hlk hfr
      ·unfold Points at h; rw [hn.1] at h; exact h.elim
      ·obtain ⟨cur,el,fz,a1,a2,a3,a4,a5⟩ := hl.lies rfl
       unfold Points at h; rw [hb] at h
       simp only at h
       subst h
       rw [zax (by omega)]
       have hF : (Blk.g s' xs).flat = xs.flatMap AV.leaves := rfl
       rw [hF] at a4
       have a5' : ∀ (j : Nat) (hj : j < (xs.flatMap AV.leaves).length) (hj' : j < cur.size),(xs.flatMap AV.leaves)[j].leaf = true ∧ R w loc (xs.flatMap AV.leaves)[j] cur[j] := a5
       generalize xs.flatMap AV.leaves = F at hne hcl a4 a5' ⊢
       have hlen : (cur.toList.take F.length).length = F.length := by simp; omega
       have hFn : F ≠ [] := by intro e; subst e; simp at hne
       have hFp : 0 < F.length := List.length_pos_iff.2 hFn
       refine R.cp _ _ (cur.toList.take F.length) ⟨.inr ⟨b,0 * s + 0,rfl,nomut id b hb,(he.lies id b hb).1,fun j hj => ?_⟩⟩ ?_ ?_ ?_ ?_
       ·have hj0 : j < cur.size := by omega
        simp only [World.cell?,a1,Nat.zero_mul,Nat.zero_add,Array.getElem?_eq_getElem hj0,List.getElem_take,Array.getElem_toList]
        rfl
       ·intro e
        rw [e] at hlen
        simp at hlen; omega
       ·rw [List.length_map,hlen]
       ·intro j hj
        have hj0 : j < F.length := by simpa using hj
        refine ⟨?_,zbf hcl j hj⟩
        rw [List.getElem_map]
        exact zks n (a5' j hj0 (by omega)).1
       ·intro j hj hj'
        have hj0 : j < F.length := by simpa using hj
        have hc2 := zbf hcl j hj
        rw [List.getElem_map] at hc2 ⊢
        have hr := (a5' j hj0 (by omega)).2
        rw [List.getElem_take,Array.getElem_toList]
        exact ih _ _ hr hc2
    ·cases hc
  ·rename_i f cs
   cases hx with
   | fn _ _ vs hl h =>
    simp only [AV.closed] at hc
    exact .fn f _ vs (by simp [hl]) fun j hj hj' => by
     have hj0 : j < cs.length := by simpa using hj
     have hc2 := zbf hc j hj
     rw [List.getElem_map] at hc2 ⊢
     exact ih _ _ (h j hj0 hj') hc2
  ·exact hx.move hM hc
theorem ynl (he : Env w0 E w loc) (hh : HR w loc (toH H)) {x : AV} {v : Value} (hx : R w loc x v) (hc : (frqV H x).closed = true) : R w loc.bare (frqV H x) v := by
 unfold frqV at hc ⊢
 unfold frqE at hc ⊢
 split at hc
 ·rename_i ls
  cases hx with
  | agg _ cs hl hlf h =>
   simp only [AV.closed] at hc
   exact .agg _ cs (by simp [hl]) (fun j hj => by rw [List.getElem_map]; exact zks _ (hlf j (by simpa using hj))) fun j hj hj' => by
    have hc2 := zbf hc j hj
    rw [List.getElem_map] at hc2 ⊢
    exact ygy he hh _ _ _ (h j (by simpa using hj) hj') hc2
 ·exact hx.move (fun b _ h => .inl (bare_mut.1 h)) hc
 ·exact ygy he hh _ _ _ hx hc
end
def allT (p : Blk → Bool) : Tr Blk → Bool
 | .leaf => true
 | .node l a r => (match a with | some b => p b | none => true) && (allT p l && allT p r)
theorem znb {p : Blk → Bool} : ∀ {t : Tr Blk},allT p t = true → ∀ id b,t.get id = some b → p b = true
 | .leaf,_,id,b,h => by cases h
 | .node l a r,ht,id,b,h => by
  simp only [allT,Bool.and_eq_true] at ht
  cases id with
  | zero =>
   rw [zdb] at h
   subst h
   exact ht.1
  | succ id =>
   rw [zcq] at h
   cases hk : Nat.beq (id % 2) 0 with
   | true => rw [hk] at h; exact znb ht.2.1 _ b h
   | false => rw [hk] at h; exact znb ht.2.2 _ b h
def Loc.with (loc loc' : Loc) (nm nz : Nat) : Loc := { m := fun id => if nm ≤ id ∧ id < nz then loc'.m id else loc.m id,bad := loc.bad }
theorem ycn {w0 : World} {E : Nat → Prop} {w : World} {loc : Loc} {nm nz : Nat} (he : Env w0 E w loc) (hfree : ∀ id,nm ≤ id → id < nz → loc.m id = .free) {x : AV} {H : Tr Blk} {v : Value} {w' : World} {loc' : Loc}
  (hx : x.noimm = true) (hN : allT Blk.noimm H = true) (hH : ∀ id b,H.get id = some b → nm ≤ id ∧ id < nz) (hp : PostW w (fun _ => False) w loc.bare nm nz x (toH H) v w' loc') :
  R w' (loc.with loc' nm nz) x v ∧ HR w' (loc.with loc' nm nz) (toH H) ∧ Env w0 E w' (loc.with loc' nm nz) ∧ Ext (fun _ => False) w loc w' (loc.with loc' nm nz) ∧
   (∀ id,loc.m id = .free → (loc.with loc' nm nz).m id ≠ .free → nm ≤ id ∧ id < nz) ∧ (loc.with loc' nm nz).bad = loc.bad := by
 have hin : ∀ id,(nm ≤ id ∧ id < nz) → (loc.with loc' nm nz).m id = loc'.m id := fun id h => by simp [Loc.with,h]
 have hout : ∀ id,¬ (nm ≤ id ∧ id < nz) → (loc.with loc' nm nz).m id = loc.m id := fun id h => by simp only [Loc.with]; rw [if_neg h]
 have hnew : ∀ id,loc'.m id ≠ .free → nm ≤ id ∧ id < nz := fun id h => hp.tn.fresh id rfl h
 have hold : ∀ b,b < w.heap.size → w'.heap[b]? = w.heap[b]? := fun b hb => hp.env.same b hb (fun h => h)
 have hq : ∀ {y : AV} {u : Value},R w' loc' y u → y.noimm = true → R w' (loc.with loc' nm nz) y u := fun h hn => h.agreeN hn fun id _ hf => hin id (hnew id hf)
 have hext : Ext (fun _ => False) w loc w' (loc.with loc' nm nz) := by
  obtain ⟨C,hE⟩ := hp.tn.ext
  refine ⟨hE.size,fun id hf _ => ?_,fun _ _ h => h.elim,fun b hb hm => ⟨hold b hb,?_⟩,fun id b hb _ => hold b (he.lies id b hb).1,hE.shape⟩
  ·exact hout id fun h => hf (hfree id h.1 h.2)
  ·rintro (h | ⟨id,h⟩)
   ·exact hm (.inl h)
   ·by_cases hw : nm ≤ id ∧ id < nz
    ·rw [hin id hw] at h
     rcases (hp.env.lies id b h).2 with h1 | h1
     ·omega
     ·exact h1
    ·rw [hout id hw] at h; exact hm (.inr ⟨id,h⟩)
 refine ⟨hq hp.r hx,fun id blk hl => ?_,?_,hext,fun id hf hn => ?_,rfl⟩
 ·rw [zak] at hl
  have hw := hH id blk hl
  have h1 := hp.h id blk (by rw [zak]; exact hl)
  have hnb := znb hN id blk hl
  unfold BlkR at h1 ⊢
  rw [hin id hw]
  split
  ·trivial
  ·rename_i e; rw [e] at h1; exact h1
  ·rename_i e; rw [e] at h1; exact h1
  ·rename_i b e
   rw [e] at h1
   obtain ⟨hok,hl1⟩ := h1
   rcases zbc blk with ⟨y,hy,rfl⟩ | hodd
   ·have hlone : y.lone = true := hnb
    exact ⟨hok,.mkO (Thing.far hlone (hl1.is hy)) hy⟩
   obtain ⟨cur,el,fz,a1,a2,a3,a4,a5⟩ := hl1.lies hodd
   exact ⟨hok,.mkC ⟨cur,el,fz,a1,a2,a3,a4,fun j hj hj' => ⟨(a5 j hj hj').1,hq (a5 j hj hj').2 (zra hnb _ (List.getElem_mem hj))⟩⟩ hodd⟩
 ·refine ⟨hp.env.os.trans he.os,hp.env.tape.trans he.tape,hp.env.output.trans he.output,Nat.le_trans he.size hp.env.size,?_,?_,?_,he.bad⟩
  ·intro b hb hE
   rw [hold b (Nat.lt_of_lt_of_le hb he.size)]
   exact he.same b hb hE
  ·have hcross : ∀ i j b,(nm ≤ i ∧ i < nz) → ¬ (nm ≤ j ∧ j < nz) → loc'.m i = .here b → loc.m j = .here b → False := by
    intro i j b _ _ h1 h2
    have h3 := (he.lies j b h2).1
    rcases (hp.env.lies i b h1).2 with h5 | h5
    ·omega
    ·exact h5
   intro i j b hi hj
   by_cases h1 : nm ≤ i ∧ i < nz
   ·rw [hin i h1] at hi
    by_cases h2 : nm ≤ j ∧ j < nz
    ·rw [hin j h2] at hj
     exact hp.env.inj i j b hi hj
    ·rw [hout j h2] at hj
     exact (hcross i j b h1 h2 hi hj).elim
   ·rw [hout i h1] at hi
    by_cases h2 : nm ≤ j ∧ j < nz
    ·rw [hin j h2] at hj
     exact (hcross j i b h2 h1 hj hi).elim
    ·rw [hout j h2] at hj
     exact he.inj i j b hi hj
  ·intro i b hi
   by_cases h1 : nm ≤ i ∧ i < nz
   ·rw [hin i h1] at hi
    obtain ⟨h2,h3⟩ := hp.env.lies i b hi
    refine ⟨h2,?_⟩
    rcases h3 with h3 | h3
    ·exact .inl (Nat.le_trans he.size h3)
    ·exact h3.elim
   ·rw [hout i h1] at hi
    obtain ⟨h2,h3⟩ := he.lies i b hi
    exact ⟨Nat.lt_of_lt_of_le h2 hp.env.size,h3⟩
 ·by_cases h : nm ≤ id ∧ id < nz
  ·exact h
  ·rw [hout id h] at hn; exact (hn hf).elim
theorem yle {w0 : World} {E : Nat → Prop} {w : World} {loc : Loc} (he : Env w0 E w loc) : Env w (fun _ => False) w loc.bare :=
 ⟨rfl,rfl,rfl,Nat.le_refl _,fun _ _ _ => rfl,(fun i j b h => by cases h),(fun i b h => by cases h),fun b hb => ⟨Nat.lt_of_lt_of_le (he.bad b hb).1 he.size,fun h => h⟩⟩
end Ax
end Go.Proofs.Ytffdpbbbdmmdlaa
namespace Go.Proofs.Ytffdpbbbdmmdlaa
namespace Ax
structure CS where
 sl : Tr AV
 n : Nat
 H : Tr Blk
 nx : Nat
 fl : Nat
noncomputable def evC (n : Nat) (sl : Tr AV) : Operand → AV
 | .tmp t => bif Nat.blt t n then sget sl t else .junk
 | .const v => cv v
 | .func f => .fn f []
 | .global _ => .junk
theorem zfp (n : Nat) (sl : Tr AV) (x : Operand) : ev (toS n sl) x = evC n sl x := by
 cases x with
 | tmp t =>
  simp only [ev,evC,zmq]
  by_cases h : t < n
  ·have : Nat.blt t n = true := by rw [Nat.blt_eq]; exact h
   simp [h,this]
  ·have : Nat.blt t n = false := by
    cases hb : Nat.blt t n with
    | false => rfl
    | true => rw [Nat.blt_eq] at hb; exact (h hb).elim
   simp [h,this]
 | _ => rfl
def most : Nat := 1152921504606846975
theorem zsg {k : Nat} (h : Nat.blt k most = true) : k + 1 < 2 ^ 60 := by
 rw [Nat.blt_eq] at h; unfold most at h; omega
section
variable {β : Type}
noncomputable def appK : Us → Tr Blk → (Tr Blk → Option β) → Option β
 | [],H,κ => κ H
 | (k,b) :: r,H,κ => appK r H fun H => bif Nat.blt k most then (match b with
   | some b => yai b fun b => Tr.setK H k (some b) κ
   | none => Tr.setK H k none κ) else none
theorem yjd : ∀ {us : Us} {H : Tr Blk} {κ : Tr Blk → Option β} {z : β},appK us H κ = some z → ∃ H',κ H' = some z ∧ ∀ id,H'.get id = upd us H.get id
 | [],H,κ,z,h => ⟨H,h,fun _ => rfl⟩
 | (k,b) :: r,H,κ,z,h => by
  obtain ⟨H1,h1,h2⟩ := yjd (us := r) h
  cases hk : Nat.blt k most with
  | false => rw [hk] at h1; cases h1
  | true =>
   rw [hk,cond_true] at h1
   have hm := zsg hk
   cases b with
   | none =>
    simp only [zet] at h1
    exact ⟨_,h1,fun id => by rw [zhr _ _ _ _ hm]; simp only [upd,eq_comm,h2]⟩
   | some b =>
    simp only [yhe,zet] at h1
    exact ⟨_,h1,fun id => by rw [zhr _ _ _ _ hm]; simp only [upd,eq_comm,h2]⟩
def geU (fl : Nat) : Us → Bool
 | [] => true
 | p :: r => Nat.ble fl p.1 && geU fl r
theorem ymn {fl : Nat} : ∀ {us : Us},geU fl us = true → ∀ (lk : Nat → Option Blk) (id : Nat),id < fl → upd us lk id = lk id
 | [],_,lk,id,_ => rfl
 | (k,b) :: r,h,lk,id,hi => by
  simp only [geU,Bool.and_eq_true] at h
  have h1 := Nat.le_of_ble_eq_true h.1
  simp only [upd]
  rw [if_neg (by omega)]
  exact ymn h.2 lk id hi
noncomputable def appF (fl : Nat) (us : Us) (H : Tr Blk) (κ : Tr Blk → Option β) : Option β := bif geU fl us then appK us H κ else none
theorem zyz {fl : Nat} {us : Us} {H : Tr Blk} {κ : Tr Blk → Option β} {z : β} (h : appF fl us H κ = some z) : ∃ H',κ H' = some z ∧ (∀ id,H'.get id = upd us H.get id) ∧ ∀ id,id < fl → H'.get id = H.get id := by
 unfold appF at h
 cases hg : geU fl us with
 | false => rw [hg] at h; cases h
 | true =>
  rw [hg,cond_true] at h
  obtain ⟨H',h1,h2⟩ := yjd h
  exact ⟨H',h1,h2,fun id hi => by rw [h2,ymn hg _ id hi]⟩
noncomputable def putK (n : Nat) (sl : Tr AV) (d : Option Tmp) (x : AV) (κ : Tr AV → Option β) : Option β :=
 match d with
 | none => κ sl
 | some d => bif Nat.blt d n && Nat.blt d most then Tr.setK sl d (some x) κ else none
theorem yfg {n : Nat} {sl : Tr AV} {d : Option Tmp} {x : AV} {κ : Tr AV → Option β} {z : β} (h : putK n sl d x κ = some z) :
  ∃ sl',κ sl' = some z ∧ ∀ t,slot (toS n sl') t = if d = some t ∧ t < n then x else slot (toS n sl) t := by
 cases d with
 | none => exact ⟨sl,h,fun t => by simp⟩
 | some d =>
  simp only [putK] at h
  cases hc : (Nat.blt d n && Nat.blt d most) with
  | false => rw [hc] at h; cases h
  | true =>
   rw [hc,cond_true,zet] at h
   simp only [Bool.and_eq_true] at hc
   have hm := zsg hc.2
   refine ⟨_,h,fun t => ?_⟩
   rw [zmq,zmq]
   by_cases ht : t < n
   ·rw [if_pos ht,if_pos ht]
    unfold sget
    rw [zhr _ _ _ _ hm]
    by_cases e : t = d
    ·subst e; simp [ht]
    ·have : ¬ (some d = some t ∧ t < n) := fun h => e (by injection h.1 with h; exact h.symm)
     rw [if_neg e,if_neg this]
   ·rw [if_neg ht,if_neg ht,if_neg (fun h => ht h.2)]
end
def Tr.union {α : Type} : Tr α → Tr α → Tr α
 | t,.leaf => t
 | .leaf,.node l a r => .node l a r
 | .node l a r,.node l' a' r' => .node (l.union l') (match a' with | some x => some x | none => a) (r.union r')
theorem zcn {α : Type} : ∀ (t s : Tr α) (n : Nat),(t.union s).get n = match s.get n with | some b => some b | none => t.get n
 | t,.leaf,n => by cases t <;> rfl
 | .leaf,.node l a r,n => by
  simp only [Tr.union,zds]
  try (cases (Tr.node l a r).get n <;> rfl)
 | .node l a r,.node l' a' r',n => by
  cases n with
  | zero => cases a' <;> simp [Tr.union,zdb]
  | succ n =>
   simp only [Tr.union,zcq,zcn l l',zcn r r']
   try (cases Nat.beq (n % 2) 0 <;> rfl)
def Tr.unionK {α β : Type} : Tr α → Tr α → (Tr α → β) → β
 | t,.leaf,κ => κ t
 | .leaf,.node l a r,κ => κ (.node l a r)
 | .node l a r,.node l' a' r',κ => l.unionK l' fun l2 => r.unionK r' fun r2 => match a' with
  | some x => κ (.node l2 (some x) r2)
  | none => κ (.node l2 a r2)
theorem zjz {α β : Type} : ∀ (t s : Tr α) (κ : Tr α → β),t.unionK s κ = κ (t.union s)
 | t,.leaf,κ => by cases t <;> rfl
 | .leaf,.node l a r,κ => rfl
 | .node l a r,.node l' a' r',κ => by
  simp only [Tr.unionK,zjz l l',zjz r r',Tr.union]
  cases a' <;> rfl
noncomputable def gcK {β : Type} (src : Tr Blk) : Nat → List Nat → Tr Blk → (Tr Blk → β) → β
 | 0,_,acc,κ => κ acc
 | _ + 1,[],acc,κ => κ acc
 | n + 1,id :: r,acc,κ => match acc.get id with
  | some _ => gcK src n r acc κ
  | none => match src.get id with
   | some b => bif Nat.blt id most then Tr.setK acc id (some b) fun acc => gcK src n (b.ids ++ r) acc κ else gcK src n r acc κ
   | none => gcK src n r acc κ
theorem zqs {β : Type} {src : Tr Blk} : ∀ (n : Nat) (l : List Nat) (acc : Tr Blk) (κ : Tr Blk → β),∃ t,gcK src n l acc κ = κ t ∧ ∀ id b,t.get id = some b → acc.get id = some b ∨ src.get id = some b
 | 0,l,acc,κ => ⟨acc,rfl,fun id b h => .inl h⟩
 | n + 1,[],acc,κ => ⟨acc,rfl,fun id b h => .inl h⟩
 | n + 1,k :: r,acc,κ => by
  unfold gcK
  split
  ·exact zqs n r acc κ
  ·split
   ·rename_i b hb
    cases hk : Nat.blt k most with
    | false => exact zqs n r acc κ
    | true =>
     simp only [cond_true,zet]
     obtain ⟨t,h1,h2⟩ := zqs (src := src) n (b.ids ++ r) (Tr.set acc k (some b)) κ
     refine ⟨t,h1,fun id c h => ?_⟩
     rcases h2 id c h with h | h
     ·rw [zhr _ _ _ _ (zsg hk)] at h
      by_cases e : id = k
      ·rw [if_pos e] at h; subst e; exact .inr (hb.trans h)
      ·rw [if_neg e] at h; exact .inl h
     ·exact .inr h
   ·exact zqs n r acc κ
abbrev zcp := FuncId → List AV → Tr Blk → Nat → Nat → Option (AV × Tr Blk × Nat)
noncomputable def ymm (H Hr : Tr Blk) (nx id : Nat) : Bool := match Hr.get id with
 | some _ => true
 | none => match H.get id with
  | some _ => false
  | none => Nat.blt id nx
noncomputable def allN (H Hr : Tr Blk) (nx : Nat) : List Nat → Bool
 | [] => true
 | id :: r => ymm H Hr nx id && allN H Hr nx r
theorem ztf {H Hr : Tr Blk} {nx : Nat} : ∀ {l : List Nat},allN H Hr nx l = true → ∀ id ∈ l,Hr.get id ≠ none ∨ (H.get id = none ∧ id < nx)
 | [],_,id,h => by cases h
 | k :: r,h,id,hm => by
  simp only [allN,Bool.and_eq_true] at h
  rcases List.mem_cons.1 hm with e | e
  ·subst e
   have h1 := h.1
   unfold ymm at h1
   split at h1
   ·rename_i b hb; exact .inl (by rw [hb]; simp)
   ·split at h1
    ·cases h1
    ·rename_i hn; exact .inr ⟨hn,by rwa [Nat.blt_eq] at h1⟩
  ·exact ztf h.2 id e
def zcm (T : zab) (q : Bool) : Op → Nat
 | .call c => match c.callee with
  | .value _ => bif q then 1 else 2
  | _ => zac T (.call c)
 | op => zac T op
abbrev zgi := FuncId → Option (List AV → (Nat → Option Blk) → Nat → Option (AV × Us))
def zfw (P : Program) (S : zae) (SB : zgi) : Prop := ∀ g h,SB g = some h → (∀ (A : List AV) (H : Heap) (lk : Nat → Option Blk) (nm : Nat),(∀ id,look H id = lk id) → Told (aUser S nm g A H) lk (h A lk nm)) ∨
 ∃ SO : zae,FnsO P SO ∧ ∀ (A : List AV) (H : Heap) (lk : Nat → Option Blk) (nm : Nat),(∀ id,look H id = lk id) → Told (aOpen SO nm g A H) lk (h A lk nm)
def cSp (T : zab) (e : Operand → AV) (lk : Nat → Option Blk) (op : Op) : Option AV :=
 match op with
 | .binOp b t x (.const (.slice none 0 0)) _ => match T t with
  | some ti => match ti.d with
   | .slice _ => match e x with
    | .ms id _ _ len => match lk id with
     | some _ => bif decide (0 < len) then (match b with
       | .eql => some (.w (.bool false))
       | .neq => some (.w (.bool true))
       | _ => none) else none
     | none => none
    | _ => none
   | _ => none
  | none => none
 | _ => none
def zhg (n : Nat) : Blk → Blk
 | .b bs => .b (bs.take n)
 | .i ns => .i (ns.take n)
 | .g s xs => .g s (xs.take n)
 | .o x => .o x
def znd (e : Operand → AV) (lk : Nat → Option Blk) (op : Op) : Option (Nat × Blk) :=
 match op with
 | .call c => match c.callee with
  | .builtin .append => match c.args.toList with
   | [d,_] => match e d with
    | .ms id _ 0 len => match lk id with
     | some blk => bif Nat.blt len blk.len then some (id,zhg len blk) else none
     | none => none
    | _ => none
   | _ => none
  | _ => none
 | _ => none
def lkT (lk : Nat → Option Blk) (id : Nat) (b : Blk) (k : Nat) : Option Blk := if k = id then some b else lk k
def ygo (id : Nat) : Us → Bool
 | [] => false
 | p :: r => Nat.beq p.1 id || ygo id r
section
variable (T : zab) (SB : zgi) (call : zcp)
noncomputable def yfn (τ : CS) (q : Bool) (c : Call) (g : FuncId) (A : List AV) : Option (AV × Tr Blk × Nat) :=
 match SB g with
 | some h => match h A τ.H.get τ.nx with
  | some (x,us) => bif !quietC T c && !q then
    (appF τ.fl us τ.H fun H => zeb (τ.nx + 8) fun nz => some (x,H,nz)) else none
  | none => none
 | none => none
noncomputable def zje (τ : CS) (op : Op) : Option (AV × Tr Blk × Nat) :=
 match cSp T (evC τ.n τ.sl) τ.H.get op with
 | some x => zeb (τ.nx + 8) fun nz => some (x,τ.H,nz)
 | none => match znd (evC τ.n τ.sl) τ.H.get op with
  | some (id,b) => match cop T τ.nx (evC τ.n τ.sl) (lkT τ.H.get id b) op with
   | some (x,us) => bif ygo id us then (appF τ.fl us τ.H fun H => zeb (τ.nx + 8) fun nz => some (x,H,nz)) else none
   | none => none
  | none => match cop T τ.nx (evC τ.n τ.sl) τ.H.get op with
   | some (x,us) => appF τ.fl us τ.H fun H => zeb (τ.nx + 8) fun nz => some (x,H,nz)
   | none => none
noncomputable def yfa (τ : CS) (g : FuncId) (A : List AV) (Hr : Tr Blk) : Option (AV × Tr Blk × Nat) :=
 bif allN τ.H Hr τ.nx (idsL A) && allT (fun b => allN τ.H Hr τ.nx b.ids) Hr then
  (match call g A Hr τ.nx τ.nx with
   | some (x,H,nz) => τ.H.unionK H fun H => some (x,H,nz)
   | none => none)
  else none
noncomputable def ynb (τ : CS) (g : FuncId) (A : List AV) : Option (AV × Tr Blk × Nat) := gcK τ.H 100000 (idsL A) .leaf (yfa call τ g A)
noncomputable def zua (τ : CS) (q : Bool) (op : Op) : Option (AV × Tr Blk × Nat) :=
 match op with
 | .call c => match c.callee with
  | .value f => match evC τ.n τ.sl f with
   | .fn g caps => match yfn T SB τ q c g (coes T c.argTypes.toList (c.args.toList.map (evC τ.n τ.sl)) ++ caps) with
    | some r => some r
    | none => bif q then
     (bif closedL ((coes T c.argTypes.toList (c.args.toList.map (evC τ.n τ.sl)) ++ caps).map (frqV τ.H)) then
      (match call g ((coes T c.argTypes.toList (c.args.toList.map (evC τ.n τ.sl)) ++ caps).map (frqV τ.H)) .leaf τ.nx 0 with
       | some (x,H,nz) => gcK H 100000 x.ids .leaf fun H => bif x.noimm && allT Blk.noimm H then (τ.H.unionK H fun H => some (x,H,nz)) else none
       | none => none)
      else ynb call τ g (coes T c.argTypes.toList (c.args.toList.map (evC τ.n τ.sl)) ++ caps))
     else call g (coes T c.argTypes.toList (c.args.toList.map (evC τ.n τ.sl)) ++ caps) τ.H τ.nx τ.fl
   | _ => none
  | _ => zje T τ op
 | _ => zje T τ op
noncomputable def ycr (τ : CS) (q : Bool) (o : Oper) : Option CS :=
 match zua T SB call τ q o.op with
 | some (x,H,nz) => yah x fun x => putK τ.n τ.sl o.dst x fun sl => some ⟨sl,τ.n,H,nz,τ.fl⟩
 | none => none
noncomputable def zql (τ : CS) (o : Oper) : Option CS := putK τ.n τ.sl o.dst (.tup []) fun sl => some ⟨sl,τ.n,τ.H,τ.nx,τ.fl⟩
noncomputable def zli (ops : List Oper) (q : Bool) (τ : CS) (o : Oper) : Option CS :=
 match o.guard with
 | none => ycr T SB call τ q o
 | some (j,want) => match guardSlot ops j with
  | none => none
  | some d => match evC τ.n τ.sl (.tmp d) with
   | .w (.bool b) => bif b == want then ycr T SB call τ q o else zql τ o
   | .tup [] => zql τ o
   | _ => none
noncomputable def zfj (ops : List Oper) (q : Nat → Bool) : Nat → List Oper → CS → Option CS
 | _,[],τ => some τ
 | k,o :: r,τ => match zli T SB call ops (q k) τ o with
  | some τ => zfj ops q (k + 1) r τ
  | none => none
end
def yih (kx ky : Nat) (ops : List Oper) (x y : Oper) : Bool :=
 (match x.dst with
  | some d => (y.looksAt ops.toArray).contains d || y.dst == some d
  | none => false) ||
 (match y.dst with
  | some d => (x.looksAt ops.toArray).contains d
  | none => false) ||
 (decide (kx = 2) && !decide (ky = 0)) || (decide (ky = 2) && !decide (kx = 0))
def zhu (k : Nat → Op → Nat) (ops : List Oper) : Bool :=
 (List.range ops.length).all fun j => match ops[j]? with
  | some y => zyw j y.after.toList && (List.range j).all fun i => match ops[i]? with
   | some x => !yih (k i x.op) (k j y.op) ops x y || ((zgp [] ops).getD j 0).testBit i
   | none => true
  | none => true
theorem yku {k : Nat → Op → Nat} {l : List Oper} (h : zhu k l = true) : zzc l (fun i => match l[i]? with | some o => k i o.op | none => 0) := by
 unfold zhu at h
 have h := List.all_eq_true.1 h
 refine ⟨fun j o ho => ?_,fun i j x y hij hx hy hc => ?_⟩
 ·have := h j (List.mem_range.2 (zbo ho))
  simp only [ho,Bool.and_eq_true] at this
  exact zhx this.1
 ·have := h j (List.mem_range.2 (zbo hy))
  simp only [hy,Bool.and_eq_true] at this
  have := List.all_eq_true.1 this.2 i (List.mem_range.2 hij)
  simp only [hx] at this
  simp only [hx,hy] at hc
  have hcl : yih (k i x.op) (k j y.op) l x y = true := by
   unfold yih
   rcases hc with ⟨d,h1,h2⟩ | ⟨d,h1,h2⟩ | ⟨h1,h2⟩ | ⟨h1,h2⟩
   ·rw [h1]; rcases h2 with h2 | h2 <;> simp [h2]
   ·rw [h1]; simp [h2]
   ·simp [h1,h2]
   ·simp [h1,h2]
  simp only [hcl,Bool.not_true,Bool.false_or] at this
  exact this
def ypi : Op → Bool
 | .call c => match c.callee with
  | .value _ => true
  | _ => false
 | _ => false
def zmg (T : zab) (ops : List Oper) : List Bool :=
 (List.range ops.length).map fun i => match ops[i]? with
  | some x => ypi x.op && (List.range ops.length).any fun j => match ops[j]? with
   | some y => !(i == j) && (!(((zgp [] ops).getD j 0).testBit i || ((zgp [] ops).getD i 0).testBit j) && !(zcm T false y.op == 0))
   | none => false
  | none => false
section
variable (T : zab) (SB : zgi) (call : zcp)
noncomputable def zxv (f : CS → Option (Exit × CS)) : Nat → CS → Option (Exit × CS)
 | 0,_ => none
 | k + 1,τ => match f τ with
  | some (.normal,τ) => zxv f k τ
  | some (.exit id,τ) => some (.exit id,τ)
  | some (.ret,τ) => some (.ret,τ)
  | _ => none
noncomputable def runC : Code → CS → Option (Exit × CS)
 | .skip,τ => some (.normal,τ)
 | .label _,τ => some (.normal,τ)
 | .region _ ops draw,τ => bif draw then
     (bif zhu (fun i => zcm T ((zmg T ops.toList).getD i false)) ops.toList then (match zfj T SB call ops.toList (fun i => (zmg T ops.toList).getD i false) 0 ops.toList τ with | some τ => some (.normal,τ) | none => none)
      else none)
     else (match zfj T SB call ops.toList (fun _ => false) 0 ops.toList τ with | some τ => some (.normal,τ) | none => none)
 | .seq a b,τ => match runC a τ with
   | some (.normal,τ) => runC b τ
   | some (.exit id,τ) => some (.exit id,τ)
   | some (.ret,τ) => some (.ret,τ)
   | _ => none
 | .cond c a b,τ => match evC τ.n τ.sl c with
   | .w (.bool true) => runC a τ
   | .w (.bool false) => runC b τ
   | _ => none
 | .block id c,τ => match runC c τ with
   | some (.exit id',τ) => if id' = id then some (.normal,τ) else some (.exit id',τ)
   | some (.normal,τ) => some (.normal,τ)
   | some (.ret,τ) => some (.ret,τ)
   | _ => none
 | .loop c,τ => zxv (runC c) 1000000 τ
 | .exit id,τ => some (.exit id,τ)
 | .ret,τ => some (.ret,τ)
 | _,_ => none
noncomputable def zos (τ : CS) : List ResultVar → Option (List AV)
 | [] => some []
 | .tmp t :: r => match zos τ r with
  | some l => some (evC τ.n τ.sl (.tmp t) :: l)
  | none => none
 | .cell a t :: r => match zos τ r with
  | some l => match yio T t (evC τ.n τ.sl (.tmp a)) τ.H.get with
   | some (x,_) => some (x :: l)
   | none => none
  | none => none
noncomputable def ygf {β : Type} : List AV → Nat → Tr AV → (Tr AV → Option β) → Option β
 | [],_,t,κ => κ t
 | x :: r,k,t,κ => zku x fun x => bif Nat.blt k most then Tr.setK t k (some x) fun t => ygf r (k + 1) t κ else none
end
def ynh : Exit → Bool
 | .normal => true
 | .ret => true
 | _ => false
noncomputable def ydr (P : Program) (T : zab) (SB : zgi) : Nat → zcp
 | 0,_,_,_,_,_ => none
 | k + 1,g,args,H,nx,fl => match P.funcs[g]? with
  | some fn => match fn.body with
   | some c => bif fn.name == "runtime.NumGoroutine" then none else
    bif Nat.ble args.length fn.ntmps then
     ygf args 0 .leaf fun sl => match runC T SB (ydr P T SB k) c ⟨sl,fn.ntmps,H,nx,fl⟩ with
      | some (e,τ) => bif ynh e then (match zos T τ fn.results.toList with
        | some l => some (rone l,τ.H,τ.nx)
        | none => none) else none
      | none => none
    else none
   | none => none
  | none => none
end Ax
end Go.Proofs.Ytffdpbbbdmmdlaa
