/- What the proofs of this seat stand on; it asks nothing. -/
import Derived.Below
import Derived.Great.BuildSlice
import Derived.KernelRfl
import Derived.Laws.Bits64
import Derived.Laws.BitsAllLaws
import Derived.Laws.BytesArg
import Derived.Laws.IdiomRangeMap
import Derived.Laws.StructEq
import Derived.Laws.Tables
import Derived.OpenShut
import Derived.StillTail
import Derived.Test.YtdfgfdcfcdgadaaRows
import Derived.WalkKit
import Derived.WalkSpells
set_option linter.unusedSimpArgs false
set_option linter.unusedVariables false
namespace Go.Proofs.Ytdfgfdcfcdgadaa
namespace Ax
inductive L where
 | free
 | dead
 | nil
 | here (b : Nat)
structure Loc where
 m : Nat → L
 bad : Nat → Prop
def one : Value → Bool
 | .agg _ => false
 | .tuple _ => false
 | _ => true
inductive AV where
 | w (v : Value)
 | str (bs : List UInt8)
 | agg (xs : List AV)
 | tup (xs : List AV)
 | sb (bs : List UInt8) (full : Bool)
 | si (ns : List Int) (full : Bool)
 | sg (s : Nat) (xs : List AV) (full : Bool)
 | cp (ls : List AV)
 | ms (id s off len : Nat)
 | rf (id s i f : Nat)
 | fn (f : FuncId) (caps : List AV)
 | junk
def AV.leaves : AV → List AV
 | .agg xs => xs
 | a => [a]
def AV.leaf : AV → Bool
 | .agg _ => false
 | .tup _ => false
 | .junk => false
 | .w v => one v
 | _ => true
mutual
def AV.closed : AV → Bool
 | .agg xs => closedL xs
 | .tup xs => closedL xs
 | .fn _ cs => closedL cs
 | .ms _ _ _ _ => false
 | .rf _ _ _ _ => false
 | _ => true
def closedL : List AV → Bool
 | [] => true
 | x :: xs => x.closed && closedL xs
end
mutual
def AV.plain : AV → Bool
 | .agg xs => plainL xs
 | .tup xs => plainL xs
 | .fn _ cs => plainL cs
 | .ms _ _ _ _ => false
 | .rf _ _ _ _ => false
 | .sb bs _ => bs.isEmpty
 | .si ns _ => ns.isEmpty
 | .sg _ xs _ => xs.isEmpty
 | .cp _ => false
 | _ => true
def plainL : List AV → Bool
 | [] => true
 | x :: xs => x.plain && plainL xs
end
theorem zbm {xs : List AV} (h : closedL xs = true) (j : Nat) (hj : j < xs.length) : xs[j].closed = true := by
 induction xs generalizing j with
 | nil => simp at hj
 | cons x r ih =>
  simp only [closedL,Bool.and_eq_true] at h
  cases j with
  | zero => exact h.1
  | succ j => exact ih h.2 j (by simpa using hj)
theorem zlo {xs : List AV} (h : plainL xs = true) (j : Nat) (hj : j < xs.length) : xs[j].plain = true := by
 induction xs generalizing j with
 | nil => simp at hj
 | cons x r ih =>
  simp only [plainL,Bool.and_eq_true] at h
  cases j with
  | zero => exact h.1
  | succ j => exact ih h.2 j (by simpa using hj)
def byte (b : UInt8) : Value := .int .u8 b.toNat
def word (n : Int) : Value := .int .i64 n
def Mut (loc : Loc) (b : Nat) : Prop := loc.bad b ∨ ∃ id,loc.m id = .here b
structure Cells (w : World) (loc : Loc) (a : Option Addr) (cs : List Value) : Prop where
 lies : cs = [] ∨ ∃ b o,a = some ⟨b,o,none⟩ ∧ ¬ Mut loc b ∧ b < w.heap.size ∧ ∀ (j : Nat) (h : j < cs.length),w.cell? ⟨b,o + j,none⟩ = some cs[j]
structure Dim (n cap : Nat) (full : Bool) : Prop where
 le : n ≤ cap
 top : cap ≤ maxLen
 full : full = true → cap = n
def Owns (w : World) (loc : Loc) (id s off len : Nat) (v : Value) : Prop :=
 match loc.m id with
 | .free => False
 | .dead => one v = true
 | .nil => len = 0 ∧ ∃ a,v = .slice a 0 0
 | .here b => ∃ o cap cur e fz,v = .slice (some ⟨b,o,none⟩) len cap ∧ (0 < cap → o = off * s) ∧ w.heap[b]? = some (.cells cur e fz) ∧ (off + cap) * s ≤ cur.size ∧ len ≤ cap ∧ cap ≤ maxLen
def refV (b s i f : Nat) : Value := if s = 0 then .map (some b) else .pointer (some ⟨b,i * s + f,none⟩)
theorem zbh {b s i f : Nat} (h : s ≠ 0) : refV b s i f = .pointer (some ⟨b,i * s + f,none⟩) := if_neg h
theorem yij (b s i f : Nat) : one (refV b s i f) = true := by unfold refV; split <;> rfl
def Points (loc : Loc) (id s i f : Nat) (v : Value) : Prop :=
 match loc.m id with
 | .free => False
 | .dead => one v = true
 | .nil => False
 | .here b => v = refV b s i f
inductive R (w : World) (loc : Loc) : AV → Value → Prop where
 | w (v : Value) (h : one v = true) : R w loc (.w v) v
 | str (bs : List UInt8) : R w loc (.str bs) (.string ⟨bs.toArray⟩)
 | agg (xs : List AV) (cs : List Value) (hl : xs.length = cs.length) (hx : ∀ (j : Nat) (h : j < xs.length),xs[j].leaf = true) (h : ∀ (j : Nat) (h : j < xs.length) (h' : j < cs.length),R w loc xs[j] cs[j]) : R w loc (.agg xs) (.agg cs.toArray)
 | tup (xs : List AV) (cs : List Value) (hl : xs.length = cs.length) (h : ∀ (j : Nat) (h : j < xs.length) (h' : j < cs.length),R w loc xs[j] cs[j]) : R w loc (.tup xs) (.tuple cs.toArray)
 | sb (bs : List UInt8) (full : Bool) (a : Option Addr) (cap : Nat) (hd : Dim bs.length cap full) (hc : Cells w loc a (bs.map byte)) : R w loc (.sb bs full) (.slice a bs.length cap)
 | si (ns : List Int) (full : Bool) (a : Option Addr) (cap : Nat) (hd : Dim ns.length cap full) (hc : Cells w loc a (ns.map word)) : R w loc (.si ns full) (.slice a ns.length cap)
 | sg (s : Nat) (xs : List AV) (full : Bool) (a : Option Addr) (cap : Nat) (cs : List Value) (hd : Dim xs.length cap full) (hs : ∀ x ∈ xs,x.leaves.length = s) (hc : Cells w loc a cs)
   (hl : (xs.flatMap AV.leaves).length = cs.length) (hx : ∀ (j : Nat) (h : j < (xs.flatMap AV.leaves).length),(xs.flatMap AV.leaves)[j].leaf = true ∧ (xs.flatMap AV.leaves)[j].closed = true)
   (h : ∀ (j : Nat) (h : j < (xs.flatMap AV.leaves).length) (h' : j < cs.length),R w loc (xs.flatMap AV.leaves)[j] cs[j]) : R w loc (.sg s xs full) (.slice a xs.length cap)
 | cp (ls : List AV) (a : Addr) (cs : List Value) (hc : Cells w loc (some a) cs) (hn : cs ≠ []) (hl : ls.length = cs.length) (hx : ∀ (j : Nat) (h : j < ls.length),ls[j].leaf = true ∧ ls[j].closed = true)
   (h : ∀ (j : Nat) (h : j < ls.length) (h' : j < cs.length),R w loc ls[j] cs[j]) : R w loc (.cp ls) (.pointer (some a))
 | ms (id s off len : Nat) (v : Value) (h : Owns w loc id s off len v) : R w loc (.ms id s off len) v
 | rf (id s i f : Nat) (v : Value) (h : Points loc id s i f v) : R w loc (.rf id s i f) v
 | fn (f : FuncId) (caps : List AV) (cs : List Value) (hl : caps.length = cs.length) (h : ∀ (j : Nat) (h : j < caps.length) (h' : j < cs.length),R w loc caps[j] cs[j]) : R w loc (.fn f caps) (.func (.func f) #[] cs.toArray)
 | junk (v : Value) : R w loc .junk v
theorem Owns.one {w : World} {loc : Loc} {id s off len : Nat} {v : Value} (h : Owns w loc id s off len v) : Ax.one v = true := by
 unfold Owns at h
 split at h
 ·exact h.elim
 ·exact h
 ·obtain ⟨_,_,rfl⟩ := h; rfl
 ·obtain ⟨_,_,_,_,_,rfl,_⟩ := h; rfl
theorem Points.one {loc : Loc} {id s i f : Nat} {v : Value} (h : Points loc id s i f v) : Ax.one v = true := by
 unfold Points at h
 split at h
 ·exact h.elim
 ·exact h
 ·exact h.elim
 ·subst h; exact yij _ _ _ _
structure Ext (C : Nat → Prop) (w : World) (loc : Loc) (w' : World) (loc' : Loc) : Prop where
 size : w.heap.size ≤ w'.heap.size
 keep : ∀ id,loc.m id ≠ .free → ¬ C id → loc'.m id = loc.m id
 gone : ∀ id,loc.m id ≠ .free → C id → loc'.m id = loc.m id ∨ loc'.m id = .dead
 imm : ∀ b,b < w.heap.size → ¬ Mut loc b → w'.heap[b]? = w.heap[b]? ∧ ¬ Mut loc' b
 own : ∀ id b,loc.m id = .here b → ¬ C id → w'.heap[b]? = w.heap[b]?
 shape : ∀ (b : Nat) (cur : Array Value) (e : TypeId) (fz : Nat × Nat),w.heap[b]? = some (.cells cur e fz) → ∃ cur' fz',w'.heap[b]? = some (.cells cur' e fz') ∧ cur'.size = cur.size
theorem Cells.ext {C : Nat → Prop} {w w' : World} {loc loc' : Loc} (hE : Ext C w loc w' loc') {a : Option Addr} {cs : List Value} (h : Cells w loc a cs) : Cells w' loc' a cs := by
 obtain h | ⟨b,o,rfl,hm,hb,hc⟩ := h.lies
 ·exact ⟨.inl h⟩
 ·obtain ⟨hh,hm'⟩ := hE.imm b hb hm
  exact ⟨.inr ⟨b,o,rfl,hm',Nat.lt_of_lt_of_le hb hE.size,fun j hj => (World.cell?_of_block (w := w) hh).trans (hc j hj)⟩⟩
theorem Owns.ext {C : Nat → Prop} {w w' : World} {loc loc' : Loc} (hE : Ext C w loc w' loc') {id s off len : Nat} {v : Value} (h : Owns w loc id s off len v) : Owns w' loc' id s off len v := by
 have hf : loc.m id ≠ .free := by intro e; simp [Owns,e] at h
 have hor : loc'.m id = loc.m id ∨ loc'.m id = .dead := by
  by_cases hC : C id
  ·exact hE.gone id hf hC
  ·exact .inl (hE.keep id hf hC)
 obtain e | e := hor
 ·unfold Owns at h ⊢
  rw [e]
  split
  ·rename_i e'; exact (hf e').elim
  ·rename_i e'; rw [e'] at h; exact h
  ·rename_i e'; rw [e'] at h; exact h
  ·rename_i b e'
   rw [e'] at h
   obtain ⟨o,cap,cur,el,fz,rfl,ho,hh,hsz,hle,htop⟩ := h
   obtain ⟨cur',fz',hh',hs'⟩ := hE.shape b cur el fz hh
   exact ⟨o,cap,cur',el,fz',rfl,ho,hh',by omega,hle,htop⟩
 ·have h1 := h.one
  simpa [Owns,e] using h1
theorem Points.ext {C : Nat → Prop} {w w' : World} {loc loc' : Loc} (hE : Ext C w loc w' loc') {id s i f : Nat} {v : Value} (h : Points loc id s i f v) : Points loc' id s i f v := by
 have hf : loc.m id ≠ .free := by intro e; simp [Points,e] at h
 have hor : loc'.m id = loc.m id ∨ loc'.m id = .dead := by
  by_cases hC : C id
  ·exact hE.gone id hf hC
  ·exact .inl (hE.keep id hf hC)
 obtain e | e := hor
 ·unfold Points at h ⊢; rw [e]; exact h
 ·have h1 := h.one
  simpa [Points,e] using h1
theorem R.ext {C : Nat → Prop} {w w' : World} {loc loc' : Loc} (hE : Ext C w loc w' loc') {x : AV} {v : Value} (h : R w loc x v) : R w' loc' x v := by
 induction h with
 | w v h => exact .w v h
 | str bs => exact .str bs
 | agg xs cs hl hx _ ih => exact .agg xs cs hl hx ih
 | tup xs cs hl _ ih => exact .tup xs cs hl ih
 | sb bs full a cap hd hc => exact .sb bs full a cap hd (hc.ext hE)
 | si ns full a cap hd hc => exact .si ns full a cap hd (hc.ext hE)
 | sg s xs full a cap cs hd hs hc hl hx _ ih => exact .sg s xs full a cap cs hd hs (hc.ext hE) hl hx ih
 | cp ls a cs hc hn hl hx _ ih => exact .cp ls a cs (hc.ext hE) hn hl hx ih
 | ms id s off len v h => exact .ms id s off len v (h.ext hE)
 | rf id s i f v h => exact .rf id s i f v (h.ext hE)
 | fn f caps cs hl _ ih => exact .fn f caps cs hl ih
 | junk v => exact .junk v
theorem Cells.move {w : World} {loc loc' : Loc} (hM : ∀ b,b < w.heap.size → Mut loc' b → Mut loc b) {a : Option Addr} {cs : List Value} (h : Cells w loc a cs) : Cells w loc' a cs := by
 obtain h | ⟨b,o,rfl,hm,hb,hc⟩ := h.lies
 ·exact ⟨.inl h⟩
 ·exact ⟨.inr ⟨b,o,rfl,fun k => hm (hM b hb k),hb,hc⟩⟩
theorem R.move {w : World} {loc loc' : Loc} (hM : ∀ b,b < w.heap.size → Mut loc' b → Mut loc b) {x : AV} {v : Value} (h : R w loc x v) (hq : x.closed = true) : R w loc' x v := by
 induction h with
 | w v h => exact .w v h
 | str bs => exact .str bs
 | agg xs cs hl hx _ ih => exact .agg xs cs hl hx fun j h1 h2 => ih j h1 h2 (zbm (by simpa [AV.closed] using hq) j h1)
 | tup xs cs hl _ ih => exact .tup xs cs hl fun j h1 h2 => ih j h1 h2 (zbm (by simpa [AV.closed] using hq) j h1)
 | sb bs full a cap hd hc => exact .sb bs full a cap hd (hc.move hM)
 | si ns full a cap hd hc => exact .si ns full a cap hd (hc.move hM)
 | sg s xs full a cap cs hd hs hc hl hx _ ih => exact .sg s xs full a cap cs hd hs (hc.move hM) hl hx fun j h1 h2 => ih j h1 h2 (hx j h1).2
 | cp ls a cs hc hn hl hx _ ih => exact .cp ls a cs (hc.move hM) hn hl hx fun j h1 h2 => ih j h1 h2 (hx j h1).2
 | ms id s off len v h => simp [AV.closed] at hq
 | rf id s i f v h => simp [AV.closed] at hq
 | fn f caps cs hl _ ih => exact .fn f caps cs hl fun j h1 h2 => ih j h1 h2 (zbm (by simpa [AV.closed] using hq) j h1)
 | junk v => exact .junk v
theorem R.far {w w' : World} {loc loc' : Loc} {x : AV} {v : Value} (h : R w loc x v) (hp : x.plain = true) : R w' loc' x v := by
 induction h with
 | w v h => exact .w v h
 | str bs => exact .str bs
 | agg xs cs hl hx _ ih => exact .agg xs cs hl hx fun j h1 h2 => ih j h1 h2 (zlo (by simpa [AV.plain] using hp) j h1)
 | tup xs cs hl _ ih => exact .tup xs cs hl fun j h1 h2 => ih j h1 h2 (zlo (by simpa [AV.plain] using hp) j h1)
 | sb bs full a cap hd hc =>
  obtain rfl : bs = [] := by simpa [AV.plain] using hp
  exact .sb [] full a cap hd ⟨.inl rfl⟩
 | si ns full a cap hd hc =>
  obtain rfl : ns = [] := by simpa [AV.plain] using hp
  exact .si [] full a cap hd ⟨.inl rfl⟩
 | sg s xs full a cap cs hd hs hc hl hx _ ih =>
  obtain rfl : xs = [] := by simpa [AV.plain] using hp
  obtain rfl : cs = [] := by simpa using hl.symm
  exact .sg s [] full a cap [] hd hs ⟨.inl rfl⟩ rfl (by simp) (by simp)
 | cp ls a cs hc hn hl hx _ ih => simp [AV.plain] at hp
 | ms id s off len v h => simp [AV.plain] at hp
 | rf id s i f v h => simp [AV.plain] at hp
 | fn f caps cs hl _ ih => exact .fn f caps cs hl fun j h1 h2 => ih j h1 h2 (zlo (by simpa [AV.plain] using hp) j h1)
 | junk v => exact .junk v
def pl : AV → Value
 | .w v => v
 | .str bs => .string ⟨bs.toArray⟩
 | _ => .bool false
def pv : AV → Value
 | .agg xs => .agg (xs.map pl).toArray
 | x => pl x
def bare : AV → Bool
 | .w v => one v
 | .str _ => true
 | _ => false
def AV.pure : AV → Bool
 | .agg xs => xs.all bare
 | x => bare x
def zvv : AV → Bool
 | .w (.int _ _) => true
 | .w (.bool _) => true
 | .str _ => true
 | _ => false
def AV.pureK : AV → Bool
 | .agg xs => xs.all zvv
 | x => zvv x
theorem zrb {x : AV} (h : zvv x = true) : bare x = true := by
 unfold zvv at h; split at h <;> first | rfl | cases h
theorem zdm {x : AV} (h : x.pureK = true) : x.pure = true := by
 cases x with
 | agg xs =>
  simp only [AV.pureK,AV.pure,List.all_eq_true] at h ⊢
  exact fun y hy => zrb (h y hy)
 | _ => simp only [AV.pureK,AV.pure] at h ⊢; exact zrb h
theorem ykp {w : World} {loc : Loc} {x : AV} (h : bare x = true) : R w loc x (pl x) := by
 cases x <;> first | exact .w _ h | exact .str _ | simp [bare] at h
theorem yhn {x : AV} (h : bare x = true) : x.leaf = true := by
 cases x <;> first | exact h | rfl | simp [bare] at h
theorem zix {w : World} {loc : Loc} {x : AV} (h : x.pure = true) : R w loc x (pv x) := by
 cases x with
 | agg xs =>
  simp only [AV.pure,List.all_eq_true] at h
  exact .agg xs (xs.map pl) (by simp) (fun j hj => yhn (h _ (List.getElem_mem hj))) (fun j hj h' => by
   rw [List.getElem_map]; exact ykp (h _ (List.getElem_mem hj)))
 | _ => exact ykp h
theorem ynx {w : World} {loc : Loc} {x : AV} {v : Value} (h : bare x = true) (hr : R w loc x v) : v = pl x := by
 cases hr <;> first | rfl | simp [bare] at h
theorem yhv {w : World} {loc : Loc} {x : AV} {v : Value} (h : x.pure = true) (hr : R w loc x v) : v = pv x := by
 cases hr with
 | agg xs cs hl hx hj =>
  simp only [AV.pure,List.all_eq_true] at h
  simp only [pv]
  congr 1
  congr 1
  refine List.ext_getElem (by simp [hl]) fun j h1 h2 => ?_
  rw [List.getElem_map]
  have h3 : j < xs.length := by omega
  exact ynx (h _ (List.getElem_mem h3)) (hj j h3 h1)
 | w v h1 => rfl
 | str bs => rfl
 | _ => simp [AV.pure,bare] at h
def kvOf (e : MapEntry) : Value × Value := (e.key,e.val)
def pp (p : AV × AV) : Value × Value := (pv p.1,pv p.2)
def ztm (es : List (AV × AV)) : Prop := ∀ p ∈ es,p.1.pureK = true ∧ p.2.pure = true
structure Ents (es : List (AV × AV)) (ms : List MapEntry) (clk : Nat) : Prop where
 kv : ms.map kvOf = es.map pp
 pure : ztm es
 nd : (ms.map (·.born)).Nodup
 old : ∀ e ∈ ms,e.born < clk
structure yoj (es : List (AV × AV)) (now : Option (AV × AV)) (ms : List MapEntry) (clk : Nat) (seen : Array Nat) : Prop where
 kv : (ms.filter fun e => !seen.contains e.born).map kvOf = es.map pp
 pure : ztm es
 nd : (ms.map (·.born)).Nodup
 old : ∀ e ∈ ms,e.born < clk
 now : ∀ p,now = some p → (p.1.pureK = true ∧ p.2.pure = true) ∧ ∃ e ∈ ms,seen.back? = some e.born ∧ kvOf e = pp p
inductive Thing where
 | it (bs : List UInt8) (pos : Nat)
 | mp (es : List (AV × AV))
 | mi (es : List (AV × AV)) (now : Option (AV × AV))
def Thing.says (x : Thing) (w : World) (loc : Loc) (b : Nat) : Prop :=
 match x with
 | .it bs pos => w.heap[b]? = some (.stringIter ⟨bs.toArray⟩ pos)
 | .mp es => ∃ ms clk,w.heap[b]? = some (.map ms clk) ∧ Ents es ms.toList clk
 | .mi es now => ∃ m ms clk seen,w.heap[b]? = some (.mapIter (some m) clk seen clk) ∧ w.heap[m]? = some (.map ms clk) ∧ ¬ Mut loc m ∧ yoj es now ms.toList clk seen
def Obj.odd : Obj → Bool
 | .cells _ _ _ => false
 | _ => true
theorem Thing.live {x : Thing} {w : World} {loc : Loc} {b : Nat} (h : x.says w loc b) : ∃ ob,w.heap[b]? = some ob ∧ Obj.odd ob = true := by
 cases x with
 | it bs pos => exact ⟨_,h,rfl⟩
 | mp es => obtain ⟨ms,clk,h1,_⟩ := h; exact ⟨_,h1,rfl⟩
 | mi es now => obtain ⟨m,ms,clk,seen,h1,_⟩ := h; exact ⟨_,h1,rfl⟩
theorem Thing.no_cells {x : Thing} {w : World} {loc : Loc} {b : Nat} (h : x.says w loc b) {cur : Array Value} {e : TypeId} {fz : Nat × Nat} (hc : w.heap[b]? = some (.cells cur e fz)) : False := by
 obtain ⟨ob,h1,h2⟩ := Thing.live h
 rw [hc] at h1; injection h1 with h1; subst h1; cases h2
theorem Thing.move {x : Thing} {w : World} {loc loc' : Loc} {b : Nat} (hM : ∀ c,c < w.heap.size → Mut loc' c → Mut loc c) (h : x.says w loc b) : x.says w loc' b := by
 cases x with
 | it bs pos => exact h
 | mp es => exact h
 | mi es now =>
  obtain ⟨m,ms,clk,seen,h1,h2,h3,h4⟩ := h
  exact ⟨m,ms,clk,seen,h1,h2,fun hm => h3 (hM m (Array.getElem?_eq_some_iff.1 h2).1 hm),h4⟩
theorem Thing.ext {C : Nat → Prop} {x : Thing} {w w' : World} {loc loc' : Loc} {b : Nat} (hE : Ext C w loc w' loc') (hb : w'.heap[b]? = w.heap[b]?) (h : x.says w loc b) : x.says w' loc' b := by
 cases x with
 | it bs pos => exact hb.trans h
 | mp es => obtain ⟨ms,clk,h1,h2⟩ := h; exact ⟨ms,clk,hb.trans h1,h2⟩
 | mi es now =>
  obtain ⟨m,ms,clk,seen,h1,h2,h3,h4⟩ := h
  obtain ⟨h5,h6⟩ := hE.imm m (Array.getElem?_eq_some_iff.1 h2).1 h3
  exact ⟨m,ms,clk,seen,hb.trans h1,h5.trans h2,h6,h4⟩
def Thing.lone : Thing → Bool
 | .it _ _ => true
 | .mp _ => true
 | .mi _ _ => false
theorem Thing.far {x : Thing} {w : World} {loc loc' : Loc} {b : Nat} (hx : x.lone = true) (h : x.says w loc b) : x.says w loc' b := by
 cases x with
 | it bs pos => exact h
 | mp es => exact h
 | mi es now => cases hx
inductive Blk where
 | b (bs : List UInt8)
 | i (ns : List Int)
 | g (s : Nat) (xs : List AV)
 | o (x : Thing)
def Blk.size : Blk → Nat
 | .b _ => 1
 | .i _ => 1
 | .g s _ => s
 | .o _ => 1
def Blk.len : Blk → Nat
 | .b bs => bs.length
 | .i ns => ns.length
 | .g _ xs => xs.length
 | .o _ => 0
def Blk.flat : Blk → List AV
 | .b bs => bs.map fun b => .w (byte b)
 | .i ns => ns.map fun n => .w (word n)
 | .g _ xs => xs.flatMap AV.leaves
 | .o _ => []
def Blk.ok : Blk → Prop
 | .b _ => True
 | .i _ => True
 | .g s xs => 0 < s ∧ ∀ x ∈ xs,x.leaves.length = s
 | .o _ => True
theorem zmu {blk : Blk} (hok : blk.ok) : 0 < blk.size := by
 cases blk with
 | b bs => exact Nat.one_pos
 | o x => exact Nat.one_pos
 | i ns => exact Nat.one_pos
 | g s xs => exact hok.1
abbrev Blk.odd : Blk → Option Thing
 | .o x => some x
 | .b _ => none
 | .i _ => none
 | .g _ _ => none
abbrev ymk (w : World) (loc : Loc) (blk : Blk) (b : Nat) : Prop :=
 ∃ cur e fz,w.heap[b]? = some (.cells cur e fz) ∧ (fz.1 = fz.2 ∨ (cur.size ≤ fz.1 ∧ blk.size = 1)) ∧ (∀ (j : Nat) (h : j < cur.size),one cur[j] = true) ∧ blk.flat.length ≤ cur.size ∧
  (∀ (j : Nat) (h : j < blk.flat.length) (h' : j < cur.size),blk.flat[j].leaf = true ∧ R w loc blk.flat[j] cur[j])
abbrev yhx (w : World) (loc : Loc) (blk : Blk) (b : Nat) : Prop := match blk.odd with
 | some x => x.says w loc b
 | none => ymk w loc blk b
structure Lies (w : World) (loc : Loc) (blk : Blk) (b : Nat) : Prop where
 told : yhx w loc blk b
theorem Lies.lies {w : World} {loc : Loc} {blk : Blk} {b : Nat} (h : Lies w loc blk b) (ho : blk.odd = none := by rfl) : ymk w loc blk b := by
 have := h.told; unfold yhx at this; rw [ho] at this; exact this
theorem Lies.is {w : World} {loc : Loc} {blk : Blk} {b : Nat} {x : Thing} (h : Lies w loc blk b) (ho : blk.odd = some x) : x.says w loc b := by
 have := h.told; unfold yhx at this; rw [ho] at this; exact this
theorem Lies.mkC {w : World} {loc : Loc} {blk : Blk} {b : Nat} (h : ymk w loc blk b) (ho : blk.odd = none := by rfl) : Lies w loc blk b := by
 constructor; unfold yhx; rw [ho]; exact h
theorem Lies.mkO {w : World} {loc : Loc} {blk : Blk} {b : Nat} {x : Thing} (h : x.says w loc b) (ho : blk.odd = some x) : Lies w loc blk b := by
 constructor; unfold yhx; rw [ho]; exact h
theorem zlp {blk : Blk} {i : Nat} (h : i < blk.len) : blk.odd = none := by
 cases blk with
 | o x => simp [Blk.len] at h
 | _ => rfl
theorem zbi (blk : Blk) : (∃ x,blk.odd = some x ∧ blk = .o x) ∨ blk.odd = none := by
 cases blk with
 | o x => exact .inl ⟨x,rfl,rfl⟩
 | _ => exact .inr rfl
theorem zio {w : World} {loc : Loc} {blk : Blk} {b : Nat} (h : Lies w loc blk b) : ∃ ob,w.heap[b]? = some ob := by
 rcases zbi blk with ⟨x,hx,rfl⟩ | hx
 ·exact ⟨_,(Thing.live (h.is hx)).choose_spec.1⟩
 ·obtain ⟨cur,e,fz,hh,_⟩ := h.lies hx
  exact ⟨_,hh⟩
theorem zqj {w : World} {loc : Loc} {blk : Blk} {b : Nat} {cur : Array Value} {e : TypeId} {fz : Nat × Nat} (h : Lies w loc blk b) (hc : w.heap[b]? = some (.cells cur e fz)) : blk.odd = none := by
 rcases zbi blk with ⟨x,hx,rfl⟩ | hx
 ·exact (Thing.no_cells (h.is hx) hc).elim
 ·exact hx
theorem zoa {fz : Nat × Nat} {n : Nat} {p : Prop} (h : fz.1 = fz.2 ∨ (n ≤ fz.1 ∧ p)) : ∀ j,j < n → ¬ (fz.1 ≤ j ∧ j < fz.2) := by
 intro j hj
 rcases h with h | ⟨h,_⟩ <;> omega
def BlkR (w : World) (loc : Loc) (id : Nat) (blk : Blk) : Prop :=
 match loc.m id with
 | .free => True
 | .dead => False
 | .nil => blk.ok ∧ blk.len = 0
 | .here b => blk.ok ∧ Lies w loc blk b
abbrev Heap := List (Nat × Blk)
def look (H : Heap) (id : Nat) : Option Blk :=
 match H with
 | [] => none
 | (k,b) :: r => if k = id then some b else look r id
def put (H : Heap) (id : Nat) (b : Blk) : Heap := (id,b) :: H
def drop (H : Heap) (id : Nat) : Heap :=
 match H with
 | [] => []
 | (k,b) :: r => if k = id then drop r id else (k,b) :: drop r id
theorem zax (H : Heap) (id k : Nat) (b : Blk) : look (put H id b) k = if id = k then some b else look H k := rfl
theorem zfh (H : Heap) (id k : Nat) : look (drop H id) k = if id = k then none else look H k := by
 induction H with
 | nil => simp [drop,look]
 | cons p r ih =>
  obtain ⟨q,b⟩ := p
  simp only [drop,look]
  by_cases h : q = id
  ·subst h
   rw [if_pos rfl,ih]
   split
   ·rfl
   ·rfl
  ·rw [if_neg h]
   simp only [look]
   rw [ih]
   by_cases h2 : q = k
   ·subst h2; simp [Ne.symm h]
   ·simp [h2]
def HR (w : World) (loc : Loc) (H : Heap) : Prop := ∀ id blk,look H id = some blk → BlkR w loc id blk
theorem HR.get {w : World} {loc : Loc} {H : Heap} (h : HR w loc H) {id : Nat} {blk : Blk} (hl : look H id = some blk) (hf : loc.m id ≠ .free) : blk.ok ∧ ((loc.m id = .nil ∧ blk.len = 0) ∨ ∃ b,loc.m id = .here b ∧ Lies w loc blk b) := by
 have := h id blk hl
 unfold BlkR at this
 cases e : loc.m id with
 | free => exact (hf e).elim
 | dead => rw [e] at this; exact this.elim
 | nil => rw [e] at this; exact ⟨this.1,.inl ⟨rfl,this.2⟩⟩
 | here b => rw [e] at this; exact ⟨this.1,.inr ⟨b,rfl,this.2⟩⟩
theorem Lies.ext {C : Nat → Prop} {w w' : World} {loc loc' : Loc} (hE : Ext C w loc w' loc') {blk : Blk} {b id : Nat} (hb : loc.m id = .here b) (hC : ¬ C id) (h : Lies w loc blk b) : Lies w' loc' blk b := by
 rcases zbi blk with ⟨x,hx,rfl⟩ | hx
 ·exact .mkO (Thing.ext hE (hE.own id b hb hC) (h.is hx)) hx
 ·obtain ⟨cur,e,fz,hh,hf,ho,hl,hr⟩ := h.lies hx
  exact .mkC ⟨cur,e,fz,(hE.own id b hb hC).trans hh,hf,ho,hl,fun j h1 h2 => ⟨(hr j h1 h2).1,(hr j h1 h2).2.ext hE⟩⟩ hx
theorem BlkR.ext {C : Nat → Prop} {w w' : World} {loc loc' : Loc} (hE : Ext C w loc w' loc') {id : Nat} {blk : Blk} (hC : ¬ C id) (hf : loc.m id ≠ .free) (h : BlkR w loc id blk) : BlkR w' loc' id blk := by
 unfold BlkR at h ⊢
 rw [hE.keep id hf hC]
 cases e : loc.m id with
 | free => trivial
 | dead => rw [e] at h; exact h
 | nil => rw [e] at h; exact h
 | here b => rw [e] at h; exact ⟨h.1,h.2.ext hE e hC⟩
end Ax
end Go.Proofs.Ytdfgfdcfcdgadaa
namespace Go.Proofs.Ytdfgfdcfcdgadaa
namespace Ax
inductive TD where
 | int (k : IntKind)
 | bool
 | str
 | ptr
 | slice (e : TypeId)
 | struct (fs : List (Nat × TypeId))
 | arr (n : Nat) (e : TypeId)
 | func
 | map (k e : TypeId)
 | other
def TD.aggr : TD → Bool
 | .struct _ => true
 | .arr _ _ => true
 | _ => false
structure TyI where
 d : TD
 size : Nat
 bytes : Nat
 zero : List AV
 flat : Nat
abbrev zac := TypeId → Option TyI
def tdOk (P : Program) (t : TypeId) : TD → Bool
 | .int k => (match P.underlying t with | some (.int k') => decide (k' = k) | _ => false)
 | .bool => (match P.underlying t with | some .bool => true | _ => false)
 | .str => (match P.underlying t with | some .string => true | _ => false)
 | .ptr => (match P.underlying t with | some (.pointer _) => true | _ => false)
 | .slice e => (match P.underlying t with | some (.slice e') => decide (e' = e) | _ => false)
 | .struct fs => (match P.underlying t with | some (.struct gs) => decide (gs.toList.map (fun f => (f.offset,f.type)) = fs) | _ => false)
 | .arr n e => (match P.underlying t with | some (.array n' e') => decide (n' = n) && decide (e' = e) | _ => false)
 | .func => (match P.underlying t with | some (.func _ _ _) => true | _ => false)
 | .map k e => (match P.underlying t with | some (.map k' e') => decide (k' = k) && decide (e' = e) | _ => false)
 | .other => (match P.underlying t with | some (.struct _) => false | some (.array _ _) => false | some _ => true | none => false)
def TdR (P : Program) (t : TypeId) : TD → Prop
 | .int k => P.underlying t = some (.int k)
 | .bool => P.underlying t = some .bool
 | .str => P.underlying t = some .string
 | .ptr => ∃ e,P.underlying t = some (.pointer e)
 | .slice e => P.underlying t = some (.slice e)
 | .struct fs => ∃ gs,P.underlying t = some (.struct gs) ∧ gs.toList.map (fun f => (f.offset,f.type)) = fs
 | .arr n e => P.underlying t = some (.array n e)
 | .func => ∃ a b c,P.underlying t = some (.func a b c)
 | .map k e => P.underlying t = some (.map k e)
 | .other => ∃ d,P.underlying t = some d ∧ (∀ g,d ≠ .struct g) ∧ (∀ n e,d ≠ .array n e)
theorem ybg {P : Program} {t : TypeId} {d : TD} (h : tdOk P t d = true) : TdR P t d := by
 cases d with
 | other =>
  simp only [tdOk] at h
  split at h
  ·exact absurd h (by simp)
  ·exact absurd h (by simp)
  ·rename_i d h1 h2 e
   exact ⟨d,e,fun g hg => h1 g hg,fun n el hg => h2 n el hg⟩
  ·exact absurd h (by simp)
 | _ => simp only [tdOk] at h; split at h <;> simp_all [TdR]
def zOk : AV → Value → Bool
 | .w (.int k n),.int k' n' => decide (k = k') && decide (n = n')
 | .w (.bool b),.bool b' => decide (b = b')
 | .w (.pointer none),.pointer none => true
 | .w .nilFunc,.nilFunc => true
 | .w .nilIface,.nilIface => true
 | .w (.map none),.map none => true
 | .str [],.string s => decide (s.data.toList = [])
 | .sb [] true,.slice none 0 0 => true
 | .si [] true,.slice none 0 0 => true
 | .sg _ [] true,.slice none 0 0 => true
 | _,_ => false
theorem zhm {x : AV} {v : Value} (h : zOk x v = true) : x.leaf = true ∧ one v = true ∧ x.plain = true ∧ ∀ w loc,R w loc x v := by
 unfold zOk at h
 split at h
 ·obtain ⟨rfl,rfl⟩ : _ = _ ∧ _ = _ := by simpa using h
  exact ⟨rfl,rfl,rfl,fun _ _ => .w _ rfl⟩
 ·obtain rfl : _ = _ := by simpa using h
  exact ⟨rfl,rfl,rfl,fun _ _ => .w _ rfl⟩
 ·exact ⟨rfl,rfl,rfl,fun _ _ => .w _ rfl⟩
 ·exact ⟨rfl,rfl,rfl,fun _ _ => .w _ rfl⟩
 ·exact ⟨rfl,rfl,rfl,fun _ _ => .w _ rfl⟩
 ·exact ⟨rfl,rfl,rfl,fun _ _ => .w _ rfl⟩
 ·rename_i s
  have h' : s.data.toList = [] := by simpa using h
  refine ⟨rfl,rfl,rfl,fun _ _ => ?_⟩
  have : s = ⟨([] : List UInt8).toArray⟩ := by
   cases s; rename_i d; simp only at h'; congr; exact Array.toList_inj.1 h'
  rw [this]; exact .str []
 ·exact ⟨rfl,rfl,rfl,fun _ _ => .sb [] true none 0 ⟨Nat.le_refl _,Nat.zero_le _,fun _ => rfl⟩ ⟨.inl rfl⟩⟩
 ·exact ⟨rfl,rfl,rfl,fun _ _ => .si [] true none 0 ⟨Nat.le_refl _,Nat.zero_le _,fun _ => rfl⟩ ⟨.inl rfl⟩⟩
 ·exact ⟨rfl,rfl,rfl,fun _ _ => .sg _ [] true none 0 [] ⟨Nat.le_refl _,Nat.zero_le _,fun _ => rfl⟩ (by simp) ⟨.inl rfl⟩ rfl (by simp) (by simp)⟩
 ·exact absurd h (by simp)
def zsOk : List AV → List Value → Bool
 | [],[] => true
 | x :: xs,v :: vs => zOk x v && zsOk xs vs
 | _,_ => false
theorem zlj {xs : List AV} {vs : List Value} (h : zsOk xs vs = true) : xs.length = vs.length ∧ ∀ (j : Nat) (h : j < xs.length) (h' : j < vs.length),zOk xs[j] vs[j] = true := by
 induction xs generalizing vs with
 | nil => cases vs with
  | nil => exact ⟨rfl,fun j h => absurd h (by simp)⟩
  | cons v vs => simp [zsOk] at h
 | cons x xs ih => cases vs with
  | nil => simp [zsOk] at h
  | cons v vs =>
   simp only [zsOk,Bool.and_eq_true] at h
   obtain ⟨hl,hi⟩ := ih h.2
   refine ⟨by simp [hl],fun j h1 h2 => ?_⟩
   cases j with
   | zero => exact h.1
   | succ j => exact hi j (by simpa using h1) (by simpa using h2)
def ynj (P : Program) (t : TypeId) : Bool :=
 match P.underlying t with
 | some (.struct gs) => gs.toList.all (fun g => !(g.name == "_")) && !P.stoodInHeld t && !P.eqGuardType P.depth t
 | _ => true
def tyOk (P : Program) (t : TypeId) (i : TyI) : Bool :=
 ynj P t && tdOk P t i.d &&
 match P.info? t with
 | none => false
 | some inf => decide (inf.size = i.size) && decide (inf.bytes = i.bytes) &&
  match inf.zero with
  | none => false
  | some (.agg cs) => i.d.aggr && zsOk i.zero cs.toList && decide (cs.size = i.size)
  | some z => !i.d.aggr && zsOk i.zero [z] && decide (1 = i.size)
structure TyR (P : Program) (t : TypeId) (i : TyI) : Prop where
 d : TdR P t i.d
 info : ∃ inf z,P.info? t = some inf ∧ inf.size = i.size ∧ inf.bytes = i.bytes ∧ inf.zero = some z ∧ z.cells.toList.length = i.size ∧ zsOk i.zero z.cells.toList = true ∧
  (i.d.aggr = true → ∃ cs,z = .agg cs) ∧ (i.d.aggr = false → one z = true ∧ z.cells = #[z] ∧ i.size = 1)
 eqs : ∀ gs,P.underlying t = some (.struct gs) → (∀ g ∈ gs.toList,g.name ≠ "_") ∧ P.stoodInHeld t = false ∧ P.eqGuardType P.depth t = false
theorem ybd {P : Program} {t : TypeId} {i : TyI} (h : tyOk P t i = true) : TyR P t i := by
 unfold tyOk at h
 rw [Bool.and_eq_true,Bool.and_eq_true] at h
 obtain ⟨⟨h0,h1⟩,h2⟩ := h
 have heqs : ∀ gs,P.underlying t = some (.struct gs) → (∀ g ∈ gs.toList,g.name ≠ "_") ∧ P.stoodInHeld t = false ∧ P.eqGuardType P.depth t = false := by
  intro gs hgs
  unfold ynj at h0
  rw [hgs] at h0
  simp only [Bool.and_eq_true,List.all_eq_true,Bool.not_eq_true',beq_eq_false_iff_ne] at h0
  exact ⟨h0.1.1,h0.1.2,h0.2⟩
 refine ⟨ybg h1,?_,heqs⟩
 split at h2
 ·exact absurd h2 (by simp)
 ·rename_i inf e
  rw [Bool.and_eq_true,Bool.and_eq_true] at h2
  obtain ⟨⟨h3,h4⟩,h5⟩ := h2
  have h3 : inf.size = i.size := by simpa using h3
  have h4 : inf.bytes = i.bytes := by simpa using h4
  split at h5
  ·exact absurd h5 (by simp)
  ·rename_i cs ez
   rw [Bool.and_eq_true,Bool.and_eq_true] at h5
   have h6 : cs.size = i.size := by simpa using h5.2
   exact ⟨inf,.agg cs,e,h3,h4,ez,by simpa [Value.cells] using h6,h5.1.2,fun _ => ⟨cs,rfl⟩,fun hh => by rw [hh] at h5; simp at h5⟩
  ·rename_i z hz ez
   rw [Bool.and_eq_true,Bool.and_eq_true] at h5
   have h6 : 1 = i.size := by simpa using h5.2
   have hzo := zlj h5.1.2
   have hz0 : zOk (i.zero[0]'(by rw [hzo.1]; simp)) z = true := hzo.2 0 (by rw [hzo.1]; simp) (by simp)
   have hone := (zhm hz0).2.1
   have hcells : z.cells = #[z] := by cases z <;> first | rfl | (simp [one] at hone)
   refine ⟨inf,z,e,h3,h4,ez,by rw [hcells]; simpa using h6,by rw [hcells]; exact h5.1.2,fun hh => by rw [hh] at h5; simp at h5,fun _ => ⟨hone,hcells,h6.symm⟩⟩
def TOk (P : Program) (T : zac) : Prop := ∀ t i,T t = some i → TyR P t i
def tab (l : List (TypeId × TyI)) : zac := fun t => (l.find? fun p => p.1 == t).map (·.2)
theorem yms {P : Program} {l : List (TypeId × TyI)} (h : l.all (fun p => tyOk P p.1 p.2) = true) : TOk P (tab l) := by
 intro t i hi
 simp only [tab,Option.map_eq_some_iff] at hi
 obtain ⟨p,hp,rfl⟩ := hi
 have hm := List.mem_of_find?_eq_some hp
 have he := List.find?_some hp
 have : p.1 = t := by simpa using he
 rw [← this]
 exact ybd (List.all_eq_true.1 h p hm)
structure Env (w0 : World) (E : Nat → Prop) (w : World) (loc : Loc) : Prop where
 os : w.os = w0.os
 tape : w.tape = w0.tape
 output : w.output = w0.output
 size : w0.heap.size ≤ w.heap.size
 same : ∀ b,b < w0.heap.size → ¬ E b → w.heap[b]? = w0.heap[b]?
 inj : ∀ i j b,loc.m i = .here b → loc.m j = .here b → i = j
 lies : ∀ i b,loc.m i = .here b → b < w.heap.size ∧ (w0.heap.size ≤ b ∨ E b)
 bad : ∀ b,loc.bad b → b < w0.heap.size ∧ ¬ E b
def Loc.set (loc : Loc) (id : Nat) (l : L) : Loc := { loc with m := fun k => if k = id then l else loc.m k }
theorem Loc.set_same (loc : Loc) (id : Nat) (l : L) : (loc.set id l).m id = l := by simp [Loc.set]
theorem Loc.set_other (loc : Loc) {id k : Nat} (l : L) (h : k ≠ id) : (loc.set id l).m k = loc.m k := by simp [Loc.set,h]
structure Post (w0 : World) (E : Nat → Prop) (w : World) (loc : Loc) (wr : Bool) (nm : Nat) (x : AV) (H : Heap) (v : Value) (w' : World) (loc' : Loc) : Prop where
 r : R w' loc' x v
 h : HR w' loc' H
 env : Env w0 E w' loc'
 ext : ∃ C : Nat → Prop,Ext C w loc w' loc' ∧ (wr = false → ∀ id,¬ C id)
 fresh : ∀ id,loc.m id = .free → loc'.m id ≠ .free → nm ≤ id ∧ id < nm + 8
 bad : loc'.bad = loc.bad
theorem Ext.refl (w : World) (loc : Loc) : Ext (fun _ => False) w loc w loc :=
 ⟨Nat.le_refl _,fun _ _ _ => rfl,fun _ _ _ => .inl rfl,fun _ _ h => ⟨rfl,h⟩,fun _ _ _ _ => rfl,fun _ cur _ fz h => ⟨cur,fz,h,rfl⟩⟩
theorem Post.pure {w0 : World} {E : Nat → Prop} {w : World} {loc : Loc} {wr : Bool} {nm : Nat} {x : AV} {H : Heap} {v : Value} (hr : R w loc x v) (hh : HR w loc H) (he : Env w0 E w loc) : Post w0 E w loc wr nm x H v w loc :=
 ⟨hr,hh,he,⟨_,Ext.refl w loc,fun _ _ h => h⟩,fun _ h h' => (h' h).elim,rfl⟩
structure zli (w w' : World) (o : Obj) : Prop where
 heap : w'.heap = w.heap.push o
 os : w'.os = w.os
 tape : w'.tape = w.tape
 output : w'.output = w.output
theorem zbp {w w' : World} {o : Obj} (h : zli w w' o) {b : Nat} (hb : b < w.heap.size) : w'.heap[b]? = w.heap[b]? := by
 rw [h.heap,Array.getElem?_push]; simp [Nat.ne_of_lt hb]
theorem zim {w w' : World} {o : Obj} (h : zli w w' o) : w'.heap[w.heap.size]? = some o := by
 rw [h.heap]; simp
theorem zwx {loc : Loc} {id b c : Nat} (hf : loc.m id = .free) : Mut (loc.set id (.here b)) c ↔ Mut loc c ∨ c = b := by
 constructor
 ·rintro (h | ⟨k,h⟩)
  ·exact .inl (.inl h)
  ·by_cases hk : k = id
   ·subst hk; rw [Loc.set_same] at h; injection h with h; exact .inr h.symm
   ·rw [Loc.set_other _ _ hk] at h; exact .inl (.inr ⟨k,h⟩)
 ·rintro ((h | ⟨k,h⟩) | h)
  ·exact .inl h
  ·refine .inr ⟨k,?_⟩
   rw [Loc.set_other]
   ·exact h
   ·intro e; subst e; rw [hf] at h; cases h
  ·subst h; exact .inr ⟨id,Loc.set_same _ _ _⟩
theorem zzu {w0 : World} {E : Nat → Prop} {w w' : World} {loc : Loc} {o : Obj} {nm : Nat} (he : Env w0 E w loc) (hp : zli w w' o) (hf : loc.m nm = .free) :
  Env w0 E w' (loc.set nm (.here w.heap.size)) ∧ (∀ c e fz,o = .cells c e fz → Ext (fun _ => False) w loc w' (loc.set nm (.here w.heap.size))) := by
 have hsz : w'.heap.size = w.heap.size + 1 := by rw [hp.heap]; simp
 refine ⟨⟨hp.os.trans he.os,hp.tape.trans he.tape,hp.output.trans he.output,by have := he.size; omega,fun b hb hE => (zbp hp (by have := he.size; omega)).trans (he.same b hb hE),?_,?_,he.bad⟩,?_⟩
 ·intro i j b hi hj
  by_cases h1 : i = nm <;> by_cases h2 : j = nm
  ·rw [h1,h2]
  ·subst h1; rw [Loc.set_same] at hi; rw [Loc.set_other _ _ h2] at hj; injection hi with hi; subst hi; have := (he.lies j _ hj).1; omega
  ·subst h2; rw [Loc.set_same] at hj; rw [Loc.set_other _ _ h1] at hi; injection hj with hj; subst hj; have := (he.lies i _ hi).1; omega
  ·rw [Loc.set_other _ _ h1] at hi; rw [Loc.set_other _ _ h2] at hj; exact he.inj i j b hi hj
 ·intro i b hi
  by_cases h1 : i = nm
  ·subst h1; rw [Loc.set_same] at hi; injection hi with hi; subst hi; exact ⟨by omega,.inl he.size⟩
  ·rw [Loc.set_other _ _ h1] at hi; have := he.lies i b hi; exact ⟨by omega,this.2⟩
 ·intro c e fz ho
  refine ⟨by omega,fun id h1 _ => Loc.set_other _ _ (fun e => h1 (e ▸ hf)),fun _ _ h => h.elim,fun b hb hm => ⟨zbp hp hb,fun hM => ?_⟩,fun id b h1 _ => zbp hp (he.lies id b h1).1,fun b cur el fz' h2 => ⟨cur,fz',(zbp hp (Array.getElem?_eq_some_iff.1 h2).1).trans h2,rfl⟩⟩
  rcases (zwx hf).1 hM with h | h
  ·exact hm h
  ·omega
theorem BlkR.free {w : World} {loc : Loc} {id : Nat} {blk : Blk} (h : loc.m id = .free) : BlkR w loc id blk := by
 unfold BlkR; rw [h]; trivial
theorem zln {w0 : World} {E : Nat → Prop} {w w' : World} {loc : Loc} {wr : Bool} {H : Heap} {nm : Nat} {s : Nat} {x : Thing} {ob : Obj}
  (he : Env w0 E w loc) (hh : HR w loc H) (hf : loc.m nm = .free) (hp : zli w w' ob) (hx : x.says w' (loc.set nm (.here w.heap.size)) w.heap.size) :
  Post w0 E w loc wr nm (.rf nm s 0 0) (put H nm (.o x)) (refV w.heap.size s 0 0) w' (loc.set nm (.here w.heap.size)) := by
 have h1 := (zzu he hp hf).1
 have hsz : w'.heap.size = w.heap.size + 1 := by rw [hp.heap]; simp
 have h2 : Ext (fun _ => False) w loc w' (loc.set nm (.here w.heap.size)) := by
  refine ⟨by omega,fun id h1 _ => Loc.set_other _ _ (fun e => h1 (e ▸ hf)),fun _ _ h => h.elim,fun b hb hm => ⟨zbp hp hb,fun hM => ?_⟩,fun id b h1 _ => zbp hp (he.lies id b h1).1,fun b cur el fz' h2 => ⟨cur,fz',(zbp hp (Array.getElem?_eq_some_iff.1 h2).1).trans h2,rfl⟩⟩
  rcases (zwx hf).1 hM with h | h
  ·exact hm h
  ·omega
 refine ⟨.rf _ _ _ _ _ ?_,?_,h1,⟨_,h2,fun _ _ h => h⟩,?_,rfl⟩
 ·unfold Points; rw [Loc.set_same]
 ·intro id b hb
  rw [zax] at hb
  split at hb
  ·rename_i hi; subst hi
   injection hb with hb; subst hb
   unfold BlkR
   rw [Loc.set_same]
   exact ⟨trivial,.mkO hx rfl⟩
  ·rename_i hi
   by_cases hfr : loc.m id = .free
   ·exact BlkR.free (by rw [Loc.set_other _ _ (Ne.symm hi)]; exact hfr)
   ·exact (hh id b hb).ext h2 (fun h => h) hfr
 ·intro id h3 h4
  by_cases hi : id = nm
  ·subst hi; exact ⟨Nat.le_refl _,by omega⟩
  ·rw [Loc.set_other _ _ hi] at h4; exact (h4 h3).elim
theorem zgj {w0 : World} {E : Nat → Prop} {w w' : World} {loc : Loc} {wr : Bool} {H : Heap} {nm : Nat} {blk : Blk} {x : AV} {v : Value} {cur : Array Value} {e : TypeId} {fz : Nat × Nat}
  (he : Env w0 E w loc) (hh : HR w loc H) (hf : loc.m nm = .free) (hp : zli w w' (.cells cur e fz)) (hok : blk.ok)
  (hfz : fz.1 = fz.2 ∨ (cur.size ≤ fz.1 ∧ blk.size = 1)) (hone : ∀ (j : Nat) (h : j < cur.size),one cur[j] = true) (hlen : blk.flat.length ≤ cur.size)
  (hr : ∀ (j : Nat) (h : j < blk.flat.length) (h' : j < cur.size),blk.flat[j].leaf = true ∧ R w loc blk.flat[j] cur[j])
  (hx : ∀ w' loc',loc'.m nm = .here w.heap.size → w'.heap[w.heap.size]? = some (.cells cur e fz) → R w' loc' x v) (hodd : blk.odd = none := by rfl) :
  Post w0 E w loc wr nm x (put H nm blk) v w' (loc.set nm (.here w.heap.size)) := by
 obtain ⟨h1,h2⟩ := zzu he hp hf
 have h2 := h2 cur e fz rfl
 refine ⟨hx _ _ (Loc.set_same _ _ _) (zim hp),?_,h1,⟨_,h2,fun _ _ h => h⟩,?_,rfl⟩
 ·intro id b hb
  rw [zax] at hb
  split at hb
  ·rename_i hi; subst hi
   injection hb with hb; subst hb
   unfold BlkR
   rw [Loc.set_same]
   exact ⟨hok,.mkC ⟨cur,e,fz,zim hp,hfz,hone,hlen,fun j a c => ⟨(hr j a c).1,(hr j a c).2.ext h2⟩⟩ hodd⟩
  ·rename_i hi
   by_cases hfr : loc.m id = .free
   ·exact BlkR.free (by rw [Loc.set_other _ _ (Ne.symm hi)]; exact hfr)
   ·exact (hh id b hb).ext h2 (fun h => h) hfr
 ·intro id h1 h2
  by_cases hi : id = nm
  ·omega
  ·rw [Loc.set_other _ _ hi] at h2; exact (h2 h1).elim
end Ax
end Go.Proofs.Ytdfgfdcfcdgadaa
namespace Go.Proofs.Ytdfgfdcfcdgadaa
namespace Ax
def cvl : Value → AV
 | .string s => .str s.data.toList
 | .slice none 0 0 => .sg 1 [] true
 | .int k n => .w (.int k n)
 | .bool b => .w (.bool b)
 | .pointer none => .w (.pointer none)
 | .nilFunc => .w .nilFunc
 | .nilIface => .w .nilIface
 | .map none => .w (.map none)
 | _ => .junk
def cv : Value → AV
 | .agg cs => if (cs.toList.map cvl).all AV.leaf then .agg (cs.toList.map cvl) else .junk
 | v => cvl v
def slot : List AV → Nat → AV
 | [],_ => .junk
 | x :: _,0 => x
 | _ :: xs,n + 1 => slot xs n
def setSlot : List AV → Nat → AV → List AV
 | [],_,_ => []
 | _ :: xs,0,y => y :: xs
 | x :: xs,n + 1,y => x :: setSlot xs n y
def ev (sl : List AV) : Operand → AV
 | .tmp t => slot sl t
 | .const v => cv v
 | .func f => .fn f []
 | .global _ => .junk
def AV.okv : AV → Bool
 | .agg _ => true
 | a => a.leaf
def splice (ls : List AV) (off : Nat) (vs : List AV) : List AV := ls.take off ++ (vs ++ ls.drop (off + vs.length))
def asv (ti : TyI) (ls : List AV) : AV := bif ti.d.aggr then .agg ls else slot ls 0
structure Out where
 p : Prop
 x : AV
 H : Heap
def bad : Out := ⟨False,.junk,[]⟩
def subv (ti : TyI) (ls : List AV) (f : Nat) (H : Heap) : Out :=
 bif ti.d.aggr then ⟨f + ti.size ≤ ls.length,.agg ((ls.drop f).take ti.size),H⟩ else ⟨f < ls.length,slot ls f,H⟩
def zan : Blk → Nat → List AV
 | .b bs,i => [.w (byte (bs.getD i 0))]
 | .i ns,i => [.w (word (ns.getD i 0))]
 | .g _ xs,i => (slot xs i).leaves
 | .o _,_ => []
def Out.and (q : Prop) (o : Out) : Out := ⟨q ∧ o.p,o.x,o.H⟩
def zko (ti : TyI) (blk : Blk) : Bool :=
 ti.d.aggr && (match blk with
  | .b _ => true
  | _ => false)
def isZ8 : AV → Bool
 | .w (.int .u8 n) => decide (n = 0)
 | _ => false
def zpv : List AV → Bool
 | [] => true
 | x :: r => isZ8 x && zpv r
def zjx (ti : TyI) : Bool :=
 match ti.d with
 | .arr _ _ => zpv ti.zero
 | _ => false
def zou : List AV → Option (List UInt8)
 | [] => some []
 | .w (.int .u8 m) :: r => if 0 ≤ m ∧ m < 256 then (match zou r with
  | some l => some (UInt8.ofNat m.toNat :: l)
  | none => none) else none
 | _ :: _ => none
def layB (blk : Blk) (i : Nat) (x : AV) : Prop × Blk :=
 match blk with
 | .b bs => match zou x.leaves with
  | some ys => (i + ys.length ≤ bs.length ∧ 0 < ys.length,.b (bs.take i ++ (ys ++ bs.drop (i + ys.length))))
  | none => (False,blk)
 | _ => (False,blk)
def aLoad (T : zac) (t : TypeId) (x : AV) (H : Heap) : Out :=
 match T t with
 | none => bad
 | some ti => match x with
  | .cp ls => subv ti ls 0 H
  | .rf id s i f => match look H id with
   | some blk => bif zko ti blk then (subv ti blk.flat i H).and (s = 1 ∧ f = 0) else (subv ti (zan blk i) f H).and (s = blk.size ∧ i < blk.len)
   | none => bad
  | _ => bad
def setB (blk : Blk) (i f : Nat) (x : AV) : Prop × Blk :=
 match blk with
 | .b bs => match x with
  | .w (.int .u8 m) => (f = 0 ∧ 0 ≤ m ∧ m < 256,.b (bs.set i (UInt8.ofNat m.toNat)))
  | _ => (False,blk)
 | .i ns => match x with
  | .w (.int .i64 m) => (f = 0,.i (ns.set i m))
  | _ => (False,blk)
 | .g s xs => match slot xs i with
  | .agg ls => (f + x.leaves.length ≤ ls.length,.g s (setSlot xs i (.agg (splice ls f x.leaves))))
  | _ => (f = 0 ∧ x.leaf = true,.g s (setSlot xs i x))
 | .o _ => (False,blk)
def zjb (T : zac) (t : TypeId) (p x : AV) (H : Heap) : Out :=
 match T t,p with
 | some ti,.rf id s i f => match look H id with
  | some blk => bif zko ti blk then ⟨s = 1 ∧ f = 0 ∧ x.leaves.length = ti.size ∧ x.okv = true ∧ (layB blk i x).1,.junk,put H id (layB blk i x).2⟩ else ⟨s = blk.size ∧ i < blk.len ∧ x.leaves.length = ti.size ∧ x.okv = true ∧ (setB blk i f x).1,.junk,put H id (setB blk i f x).2⟩
  | none => bad
 | _,_ => bad
def zps (c a b : AV) (H : Heap) : Out :=
 match c with
 | .w (.bool t) => match a,b with
  | .w (.bool x),.w (.bool y) => ⟨True,.w (.bool (bif t then x else y)),H⟩
  | _,.w (.bool y) => ⟨t = false,.w (.bool y),H⟩
  | .w (.bool x),_ => ⟨t = true,.w (.bool x),H⟩
  | _,_ => bad
 | _ => bad
def aAlloc (T : zac) (nm : Nat) (e : TypeId) (H : Heap) : Out :=
 match T e with
 | some ti => bif zjx ti then ⟨0 < ti.size,.rf nm 1 0 0,put H nm (.b (List.replicate ti.size 0))⟩ else ⟨0 < ti.size,.rf nm ti.size 0 0,put H nm (.g ti.size [asv ti ti.zero])⟩
 | none => bad
def aBox (T : zac) (nm : Nat) (e : TypeId) (x : AV) (H : Heap) : Out :=
 match T e with
 | some ti => ⟨0 < ti.size ∧ x.leaves.length = ti.size ∧ x.okv = true,.rf nm ti.size 0 0,put H nm (.g ti.size [x])⟩
 | none => bad
def fillS (T : zac) (fs : List (Nat × TypeId)) : List (Nat × AV) → List AV → Prop × List AV
 | [],ls => (True,ls)
 | (i,x) :: r,ls => match fs[i]? with
  | some (off,ty) => match T ty with
   | some ti => (x.leaves.length = ti.size ∧ x.okv = true ∧ off + ti.size ≤ ls.length ∧ (fillS T fs r (splice ls off x.leaves)).1,(fillS T fs r (splice ls off x.leaves)).2)
   | none => (False,[])
  | none => (False,[])
def zpp (s : Nat) : List (Nat × AV) → List AV → Prop × List AV
 | [],ls => (True,ls)
 | (i,x) :: r,ls => (x.leaves.length = s ∧ x.okv = true ∧ i * s + s ≤ ls.length ∧ (zpp s r (splice ls (i * s) x.leaves)).1,(zpp s r (splice ls (i * s) x.leaves)).2)
def allTy (T : zac) : List (Nat × TypeId) → Prop
 | [] => True
 | p :: r => match T p.2 with
  | some _ => allTy T r
  | none => False
def aBuild (T : zac) (t : TypeId) (ps : List (Nat × AV)) (H : Heap) : Out :=
 match T t with
 | some ti => match ti.d with
  | .struct fs => ⟨allTy T fs ∧ (fillS T fs ps ti.zero).1,.agg (fillS T fs ps ti.zero).2,H⟩
  | .arr _ e => match T e with
   | some te => ⟨(zpp te.size ps ti.zero).1,.agg (zpp te.size ps ti.zero).2,H⟩
   | none => bad
  | _ => bad
 | none => bad
def fillB : List (Nat × AV) → List UInt8 → Prop × List UInt8
 | [],bs => (True,bs)
 | (i,x) :: r,bs => match x with
  | .w (.int .u8 m) => (i < bs.length ∧ 0 ≤ m ∧ m < 256 ∧ (fillB r (bs.set i (UInt8.ofNat m.toNat))).1,(fillB r (bs.set i (UInt8.ofNat m.toNat))).2)
  | _ => (False,[])
def fillI : List (Nat × AV) → List Int → Prop × List Int
 | [],ns => (True,ns)
 | (i,x) :: r,ns => match x with
  | .w (.int .i64 m) => (i < ns.length ∧ (fillI r (ns.set i m)).1,(fillI r (ns.set i m)).2)
  | _ => (False,[])
def fillG (s : Nat) : List (Nat × AV) → List AV → Prop × List AV
 | [],xs => (True,xs)
 | (i,x) :: r,xs => (i < xs.length ∧ x.leaves.length = s ∧ x.okv = true ∧ (fillG s r (setSlot xs i x)).1,(fillG s r (setSlot xs i x)).2)
def aBuildSlice (T : zac) (nm : Nat) (t : TypeId) (n : Nat) (ps : List (Nat × AV)) (H : Heap) : Out :=
 match T t with
 | some ti => match ti.d with
  | .slice e => match T e with
   | some te => match te.d with
    | .int .u8 => ⟨te.size = 1 ∧ te.zero = [.w (.int .u8 0)] ∧ n ≤ 16777216 ∧ (fillB ps (List.replicate n 0)).1,.ms nm 1 0 n,put H nm (.b (fillB ps (List.replicate n 0)).2)⟩
    | .int .i64 => ⟨te.size = 1 ∧ te.zero = [.w (.int .i64 0)] ∧ n ≤ 16777216 ∧ (fillI ps (List.replicate n 0)).1,.ms nm 1 0 n,put H nm (.i (fillI ps (List.replicate n 0)).2)⟩
    | _ => ⟨0 < te.size ∧ n * te.size ≤ 16777216 ∧ (fillG te.size ps (List.replicate n (asv te te.zero))).1,.ms nm te.size 0 n,
      put H nm (.g te.size (fillG te.size ps (List.replicate n (asv te te.zero))).2)⟩
   | none => bad
  | _ => bad
 | none => bad
def aNil (x : AV) (H : Heap) : Out :=
 match x with
 | .rf id s i f => match look H id with
  | some _ => ⟨s ≠ 0,.rf id s i f,H⟩
  | none => bad
 | .cp ls => ⟨True,.cp ls,H⟩
 | .fn f cs => ⟨True,.fn f cs,H⟩
 | _ => bad
def aInt (op : BinOp) (k : IntKind) (a : Int) (k' : IntKind) (b : Int) : Prop × Value :=
 match op with
 | .shl => (0 ≤ b,.int k (k.wrap (a * 2 ^ min b.toNat k.bits)))
 | .shr => (0 ≤ b,.int k (a / 2 ^ min b.toNat k.bits))
 | .add => (k = k',.int k (k.wrap (a + b)))
 | .sub => (k = k',.int k (k.wrap (a - b)))
 | .mul => (k = k',.int k (k.wrap (a * b)))
 | .quo => (k = k' ∧ b ≠ 0,.int k (k.wrap (a.tdiv b)))
 | .rem => (k = k' ∧ b ≠ 0,.int k (a.tmod b))
 | .and => (k = k',.int k (bits .and k a b))
 | .or => (k = k',.int k (bits .or k a b))
 | .xor => (k = k',.int k (bits .xor k a b))
 | .andNot => (k = k',.int k (bits .andNot k a b))
 | .eql => (k = k',.bool (decide (a = b)))
 | .neq => (k = k',.bool (!decide (a = b)))
 | .lss => (k = k',.bool (decide (a < b)))
 | .leq => (k = k',.bool (decide (a ≤ b)))
 | .gtr => (k = k',.bool (decide (b < a)))
 | .geq => (k = k',.bool (decide (b ≤ a)))
def aStr (op : BinOp) (a b : List UInt8) : Prop × AV :=
 match op with
 | .add => (a.length + b.length ≤ 1099511627776,.str (a ++ b))
 | .eql => (True,.w (.bool (decide (a = b))))
 | .neq => (True,.w (.bool (!decide (a = b))))
 | .lss => (True,.w (.bool (Op.bytesLess a b)))
 | .leq => (True,.w (.bool (Op.bytesLess a b || decide (a = b))))
 | .gtr => (True,.w (.bool (!(Op.bytesLess a b || decide (a = b)))))
 | .geq => (True,.w (.bool (!(Op.bytesLess a b))))
 | _ => (False,.junk)
def aEq (op : BinOp) (r : Bool) (H : Heap) : Out :=
 match op with
 | .eql => ⟨True,.w (.bool r),H⟩
 | .neq => ⟨True,.w (.bool (!r)),H⟩
 | _ => bad
def isPtr (T : zac) (t : TypeId) : Prop :=
 match T t with
 | some ti => match ti.d with
  | .ptr => True
  | _ => False
 | none => False
def isBool (T : zac) (t : TypeId) : Prop :=
 match T t with
 | some ti => match ti.d with
  | .bool => True
  | _ => False
 | none => False
def eqF (S : TypeId → AV → AV → Prop × Bool) (T : zac) : List (Nat × TypeId) → List AV → List AV → Prop × Bool
 | [],_,_ => (True,true)
 | p :: r,xs,ys => match T p.2 with
  | none => (False,false)
  | some te => ((subv te xs p.1 []).p ∧ (subv te ys p.1 []).p ∧ (S p.2 (subv te xs p.1 []).x (subv te ys p.1 []).x).1 ∧ (eqF S T r xs ys).1,(S p.2 (subv te xs p.1 []).x (subv te ys p.1 []).x).2 && (eqF S T r xs ys).2)
def eqV (T : zac) : Nat → TypeId → AV → AV → Prop × Bool
 | 0,_,_,_ => (False,false)
 | n + 1,t,x,y => match T t with
  | none => (False,false)
  | some i => match i.d with
   | .int _ => match x,y with
    | .w (.int k1 a),.w (.int k2 b) => (k1 = k2,decide (a = b))
    | _,_ => (False,false)
   | .bool => match x,y with
    | .w (.bool a),.w (.bool b) => (True,a == b)
    | _,_ => (False,false)
   | .str => match x,y with
    | .str a,.str b => (True,decide (a = b))
    | _,_ => (False,false)
   | .struct fs => match x,y with
    | .agg xs,.agg ys => eqF (eqV T n) T fs xs ys
    | _,_ => (False,false)
   | _ => (False,false)
def isStruct (T : zac) (t : TypeId) : Prop :=
 match T t with
 | some ti => match ti.d with
  | .struct _ => True
  | _ => False
 | none => False
def aBin (T : zac) (op : BinOp) (t : TypeId) (x y : AV) (H : Heap) : Out :=
 match x,y with
 | .w (.int k a),.w (.int k' b) => ⟨(aInt op k a k' b).1,.w (aInt op k a k' b).2,H⟩
 | .str a,.str b => ⟨(aStr op a b).1,(aStr op a b).2,H⟩
 | .w (.bool a),.w (.bool b) => (aEq op (a == b) H).and (isBool T t)
 | .rf id s _ _,.w (.pointer none) => match look H id with
  | some _ => (aEq op false H).and (s ≠ 0 ∧ isPtr T t)
  | none => bad
 | .w (.pointer none),.w (.pointer none) => (aEq op true H).and (isPtr T t)
 | .agg xs,.agg ys => (aEq op (eqV T 4 t (.agg xs) (.agg ys)).2 H).and (isStruct T t ∧ (eqV T 4 t (.agg xs) (.agg ys)).1)
 | _,_ => bad
def aUn (op : UnOp) (x : AV) (H : Heap) : Out :=
 match op,x with
 | .not,.w (.bool b) => ⟨True,.w (.bool (!b)),H⟩
 | .neg,.w (.int k n) => ⟨True,.w (.int k (k.wrap (0 - n))),H⟩
 | .xor,.w (.int k n) => ⟨True,.w (.int k (bits .xor k (bif k.signed then -1 else k.max) n)),H⟩
 | _,_ => bad
def zfb (H : Heap) (x : AV) : Prop × List UInt8 :=
 match x with
 | .sb bs _ => (True,bs)
 | .sg _ [] _ => (True,[])
 | .ms id s off len => match look H id with
  | some (.b bs) => (s = 1 ∧ off + len ≤ bs.length,(bs.drop off).take len)
  | _ => (False,[])
 | _ => (False,[])
def zhl (H : Heap) (x : AV) : Prop × List Int :=
 match x with
 | .si ns _ => (True,ns)
 | .sg _ [] _ => (True,[])
 | .ms id s off len => match look H id with
  | some (.i ns) => (s = 1 ∧ off + len ≤ ns.length,(ns.drop off).take len)
  | _ => (False,[])
 | _ => (False,[])
def zfa (s : Nat) (H : Heap) (x : AV) : Prop × List AV :=
 match x with
 | .sg s' xs _ => (xs = [] ∨ s' = s,xs)
 | .ms id s' off len => match look H id with
  | some (.g s'' xs) => (s' = s ∧ s'' = s ∧ off + len ≤ xs.length,(xs.drop off).take len)
  | _ => (False,[])
 | _ => (False,[])
def isBytes (T : zac) (t : TypeId) : Prop :=
 match T t with
 | some ti => match ti.d with
  | .slice e => match T e with
   | some te => match te.d with
    | .int .u8 => True
    | _ => False
   | none => False
  | _ => False
 | none => False
def zkb (T : zac) (src dst : TypeId) (nm : Nat) (x : AV) (H : Heap) : Out :=
 match T src,T dst with
 | some _,some b => match b.d with
  | .int k => match x with
   | .w (.int _ n) => ⟨True,.w (.int k (k.wrap n)),H⟩
   | _ => bad
  | .str => match x with
   | .str bs => ⟨True,.str bs,H⟩
   | _ => ⟨isBytes T src ∧ (zfb H x).1,.str (zfb H x).2,H⟩
  | .slice _ => match x with
   | .str bs => ⟨isBytes T dst ∧ bs.length ≤ 9223372036854775807,.ms nm 1 0 bs.length,put H nm (.b bs)⟩
   | .ms id s off len => match look H id with
    | some blk => ⟨isBytes T dst ∧ src = dst ∧ 0 < blk.len ∧ blk.size = 1,.ms id s off len,put H id blk⟩
    | none => bad
   | _ => bad
  | _ => bad
 | _,_ => bad
def zcv (T : zac) (kt : TypeId) (k : AV) : List (AV × AV) → Nat → Prop × Option (Nat × AV)
 | [],_ => (True,none)
 | p :: r,i => ((eqV T 4 kt k p.1).1 ∧ ((eqV T 4 kt k p.1).2 = true → p.1 = k) ∧ ((eqV T 4 kt k p.1).2 = false → (zcv T kt k r (i + 1)).1),bif (eqV T 4 kt k p.1).2 then some (i,p.2) else (zcv T kt k r (i + 1)).2)
def yfx (te : TyI) (ok : Bool) (r : Option (Nat × AV)) : AV :=
 match ok,r with
 | true,some p => .tup [p.2,.w (.bool true)]
 | true,none => .tup [asv te te.zero,.w (.bool false)]
 | false,some p => p.2
 | false,none => asv te te.zero
def putM (es : List (AV × AV)) (k v : AV) (r : Option (Nat × AV)) : List (AV × AV) :=
 match r with
 | some p => es.set p.1 (k,v)
 | none => es ++ [(k,v)]
def cutM (es : List (AV × AV)) (r : Option (Nat × AV)) : List (AV × AV) :=
 match r with
 | some p => es.eraseIdx p.1
 | none => es
def zsa (T : zac) (t : TypeId) : Option (TypeId × TypeId) :=
 match T t with
 | some ti => match ti.d with
  | .map k e => some (k,e)
  | _ => none
 | none => none
def ziv (nm : Nat) (r : Option Operand) (H : Heap) : Out :=
 match r with
 | none => ⟨True,.rf nm 0 0 0,put H nm (.o (.mp []))⟩
 | some _ => bad
def zgd (T : zac) (t : TypeId) (x k : AV) (ok : Bool) (H : Heap) : Out :=
 match zsa T t with
 | some (kt,et) => match T et with
  | some te => match x with
   | .rf id s _ _ => match look H id with
    | some (.o (.mp es)) => ⟨s = 0 ∧ k.pureK = true ∧ (eqV T 4 kt k k).1 ∧ (zcv T kt k es 0).1,yfx te ok (zcv T kt k es 0).2,H⟩
    | _ => bad
   | _ => bad
  | none => bad
 | none => bad
def zgc (T : zac) (t : TypeId) (x k v : AV) (H : Heap) : Out :=
 match zsa T t with
 | some (kt,_) => match x with
  | .rf id s _ _ => match look H id with
   | some (.o (.mp es)) => ⟨s = 0 ∧ k.pureK = true ∧ v.pure = true ∧ (eqV T 4 kt k k).1 ∧ (zcv T kt k es 0).1,.junk,put H id (.o (.mp (putM es k v (zcv T kt k es 0).2)))⟩
   | _ => bad
  | _ => bad
 | none => bad
def zge (T : zac) (t : TypeId) (x k : AV) (H : Heap) : Out :=
 match zsa T t with
 | some (kt,_) => match x with
  | .rf id s _ _ => match look H id with
   | some (.o (.mp es)) => ⟨s = 0 ∧ k.pureK = true ∧ (eqV T 4 kt k k).1 ∧ (zcv T kt k es 0).1,.junk,put H id (.o (.mp (cutM es (zcv T kt k es 0).2)))⟩
   | _ => bad
  | _ => bad
 | none => bad
def zjd (x : AV) (H : Heap) : Out :=
 match x with
 | .rf id s i f => match look H id with
  | some (.o (.mi _ (some p))) => ⟨(i = 0 ∧ f = 0) ∧ s ≠ 0,.tup [p.1,p.2],H⟩
  | _ => bad
 | _ => bad
def decR (bs : List UInt8) (p : Nat) : Nat := (Utf8.decode ⟨bs.toArray⟩ p).1
def decW (bs : List UInt8) (p : Nat) : Nat := (Utf8.decode ⟨bs.toArray⟩ p).2
def zhk (T : zac) (nm : Nat) (t : TypeId) (x : AV) (H : Heap) : Out :=
 match T t with
 | some ti => match ti.d with
  | .str => match x with
   | .str bs => ⟨True,.rf nm 1 0 0,put H nm (.o (.it bs 0))⟩
   | _ => bad
  | .map _ _ => match x with
   | .rf id s _ _ => match look H id with
    | some (.o (.mp es)) => ⟨s = 0,.rf nm 1 0 0,put (drop H id) nm (.o (.mi es none))⟩
    | _ => bad
   | _ => bad
  | _ => bad
 | none => bad
def zpt (x : AV) (isStr : Bool) (H : Heap) : Out :=
 match isStr,x with
 | true,.rf id s i f => match look H id with
  | some (.o (.it bs pos)) => bif decide (pos < bs.length) then ⟨(i = 0 ∧ f = 0) ∧ s ≠ 0,.tup [.w (.bool true),.w (.int .i64 pos),.w (.int .i32 (decR bs pos))],put H id (.o (.it bs (pos + decW bs pos)))⟩ else ⟨(i = 0 ∧ f = 0) ∧ s ≠ 0,.tup [.w (.bool false)],H⟩
  | _ => bad
 | false,.rf id s i f => match look H id with
  | some (.o (.mi [] _)) => ⟨(i = 0 ∧ f = 0) ∧ s ≠ 0,.tup [.w (.bool false)],H⟩
  | some (.o (.mi [p] _)) => ⟨(i = 0 ∧ f = 0) ∧ s ≠ 0,.tup [.w (.bool true),p.1,p.2],put H id (.o (.mi [] (some p)))⟩
  | _ => bad
 | _,_ => bad
def aMake (T : zac) (nm : Nat) (t : TypeId) (l c : AV) (H : Heap) : Out :=
 match T t with
 | some ti => match ti.d with
  | .slice e => match T e with
   | some te => match l,c with
    | .w (.int _ n),.w (.int _ m) => (match te.d with
      | .int .u8 => ⟨te.zero = [.w (.int .u8 0)],.ms nm te.size 0 n.toNat,put H nm (.b (List.replicate n.toNat 0))⟩
      | .int .i64 => ⟨te.zero = [.w (.int .i64 0)],.ms nm te.size 0 n.toNat,put H nm (.i (List.replicate n.toNat 0))⟩
      | _ => ⟨True,.ms nm te.size 0 n.toNat,put H nm (.g te.size (List.replicate n.toNat (asv te te.zero)))⟩ : Out).and (0 < te.size ∧ 0 < te.bytes ∧ 0 ≤ n ∧ n ≤ m ∧ m * te.bytes ≤ 1099511627776)
    | _,_ => bad
   | none => bad
  | _ => bad
 | none => bad
def bnd (o : Option AV) (d : Nat) : Prop × Nat :=
 match o with
 | none => (True,d)
 | some (.w (.int _ n)) => (0 ≤ n,n.toNat)
 | _ => (False,0)
def zpo (full : Bool) (hi mx : Option AV) (h m : Nat) : Bool :=
 match mx with
 | some _ => decide (m = h)
 | none => match hi with
  | some _ => false
  | none => full
def bnds (lo hi mx : Option AV) (n : Nat) : Prop :=
 (bnd lo 0).1 ∧ (bnd hi n).1 ∧ (bnd mx n).1 ∧ (bnd lo 0).2 ≤ (bnd hi n).2 ∧ (bnd hi n).2 ≤ (bnd mx n).2 ∧ (bnd mx n).2 ≤ n
def cut {α : Type} (xs : List α) (lo hi : Option AV) : List α := (xs.drop (bnd lo 0).2).take ((bnd hi xs.length).2 - (bnd lo 0).2)
def zjc (T : zac) (t : TypeId) (x : AV) (lo hi mx : Option AV) (H : Heap) : Out :=
 match T t with
 | none => bad
 | some ti => match ti.d with
  | .str => match x with
   | .str bs => ⟨mx.isNone = true ∧ bnds lo hi none bs.length,.str (cut bs lo hi),H⟩
   | _ => bad
  | .slice e => match T e with
   | none => bad
   | some te => match x with
    | .sb bs full => ⟨te.size = 1 ∧ bnds lo hi mx bs.length,.sb (cut bs lo hi) (zpo full hi mx (bnd hi bs.length).2 (bnd mx bs.length).2),H⟩
    | .si ns full => ⟨te.size = 1 ∧ bnds lo hi mx ns.length,.si (cut ns lo hi) (zpo full hi mx (bnd hi ns.length).2 (bnd mx ns.length).2),H⟩
    | .sg s xs full => ⟨te.size = s ∧ bnds lo hi mx xs.length,.sg s (cut xs lo hi) (zpo full hi mx (bnd hi xs.length).2 (bnd mx xs.length).2),H⟩
    | .ms id s off len => match look H id with
     | some _ => ⟨te.size = s ∧ bnds lo hi mx len,.ms id s (off + (bnd lo 0).2) ((bnd hi len).2 - (bnd lo 0).2),H⟩
     | none => bad
    | _ => bad
  | .arr n e => match T e with
   | none => bad
   | some te => match x with
    | .rf id s i f => match look H id with
     | some blk => ⟨te.size = 1 ∧ (s = 1 ∧ f = 0) ∧ blk.size = 1 ∧ (0 < n ∧ i + n ≤ blk.len ∧ n ≤ 16777216) ∧ bnds lo hi mx n,.ms id 1 (i + (bnd lo 0).2) ((bnd hi n).2 - (bnd lo 0).2),H⟩
     | none => bad
    | _ => bad
  | _ => bad
def aFieldAddr (T : zac) (s : TypeId) (x : AV) (f : Nat) (H : Heap) : Out :=
 match T s with
 | none => bad
 | some ti => match ti.d with
  | .struct fs => match fs[f]? with
   | some (off,ty) => match T ty with
    | none => bad
    | some te => match x with
     | .rf id z i g => match look H id with
      | some _ => ⟨z ≠ 0 ∧ 0 < te.size,.rf id z i (g + off),H⟩
      | none => bad
     | .cp ls => ⟨0 < te.size ∧ off < ls.length,.cp (ls.drop off),H⟩
     | _ => bad
   | none => bad
  | _ => bad
def aField (T : zac) (t : TypeId) (x : AV) (f : Nat) (H : Heap) : Out :=
 match T t with
 | none => bad
 | some ti => match ti.d with
  | .struct fs => match x with
   | .agg ls => match fs[f]? with
    | some (off,ty) => match T ty with
     | some te => subv te ls off H
     | none => bad
    | none => bad
   | _ => bad
  | _ => bad
def zca (T : zac) (t : TypeId) (x i : AV) (H : Heap) : Out :=
 match T t,i with
 | some ti,.w (.int _ n) => match ti.d with
  | .slice e => match T e with
   | none => bad
   | some te => match x with
    | .sb bs _ => ⟨0 ≤ n ∧ te.size = 1 ∧ n.toNat < bs.length,.cp [.w (byte (bs.getD n.toNat 0))],H⟩
    | .si ns _ => ⟨0 ≤ n ∧ te.size = 1 ∧ n.toNat < ns.length,.cp [.w (word (ns.getD n.toNat 0))],H⟩
    | .sg s xs _ => ⟨0 ≤ n ∧ te.size = s ∧ 0 < s ∧ n.toNat < xs.length,.cp (slot xs n.toNat).leaves,H⟩
    | .ms id s off len => match look H id with
     | some _ => ⟨s ≠ 0 ∧ 0 ≤ n ∧ te.size = s ∧ n.toNat < len,.rf id s (off + n.toNat) 0,H⟩
     | none => bad
    | _ => bad
  | .arr m e => match T e with
   | none => bad
   | some te => match x with
    | .rf id s j f => match look H id with
     | some _ => ⟨s ≠ 0 ∧ 0 ≤ n ∧ n < m,.rf id s j (f + n.toNat * te.size),H⟩
     | none => bad
    | .cp ls => ⟨0 ≤ n ∧ n < m ∧ n.toNat * te.size < ls.length,.cp (ls.drop (n.toNat * te.size)),H⟩
    | _ => bad
  | _ => bad
 | _,_ => bad
def zii (T : zac) (t : TypeId) (x i : AV) (H : Heap) : Out :=
 match T t,i with
 | some ti,.w (.int _ n) => match ti.d with
  | .str => match x with
   | .str bs => ⟨0 ≤ n ∧ n.toNat < bs.length,.w (byte (bs.getD n.toNat 0)),H⟩
   | _ => bad
  | .arr m e => match x with
   | .agg ls => match T e with
    | some te => (subv te ls (n.toNat * te.size) H).and (0 ≤ n ∧ n < m)
    | none => bad
   | _ => bad
  | _ => bad
 | _,_ => bad
def zdi (x : AV) (i : Nat) (H : Heap) : Out :=
 match x with
 | .tup xs => ⟨i < xs.length,slot xs i,H⟩
 | _ => bad
def aLen (T : zac) (t : TypeId) (x : AV) (H : Heap) : Out :=
 match T t with
 | none => bad
 | some ti => match ti.d with
  | .str => match x with
   | .str bs => ⟨True,.w (word bs.length),H⟩
   | _ => bad
  | .slice _ => match x with
   | .sb bs _ => ⟨True,.w (word bs.length),H⟩
   | .si ns _ => ⟨True,.w (word ns.length),H⟩
   | .sg _ xs _ => ⟨True,.w (word xs.length),H⟩
   | .ms id _ _ len => match look H id with
    | some _ => ⟨True,.w (word len),H⟩
    | none => bad
   | _ => bad
  | .arr n _ => ⟨True,.w (word n),H⟩
  | .map _ _ => match x with
   | .rf id s _ _ => match look H id with
    | some (.o (.mp es)) => ⟨s = 0,.w (word es.length),H⟩
    | _ => bad
   | _ => bad
  | _ => bad
def aMin (l : List AV) (H : Heap) : Out :=
 match l with
 | [.w (.int k x),.w (.int _ y)] => ⟨True,.w (.int k (if y < x then y else x)),H⟩
 | _ => bad
def aMax (l : List AV) (H : Heap) : Out :=
 match l with
 | [.w (.int k x),.w (.int _ y)] => ⟨True,.w (.int k (if y > x then y else x)),H⟩
 | _ => bad
def top : Nat := 4294967296
def zcr (nm : Nat) (d : AV) (ys : List UInt8) (H : Heap) : Out :=
 match d with
 | .sb bs full => ⟨full = true ∧ (bs = [] ∨ ys ≠ []) ∧ bs.length + ys.length ≤ top,.ms nm 1 0 (bs.length + ys.length),put H nm (.b (bs ++ ys))⟩
 | .sg _ [] full => ⟨full = true ∧ ys.length ≤ top,.ms nm 1 0 ys.length,put H nm (.b ys)⟩
 | .ms id s off len => match look H id with
  | some (.b bs) => ⟨s = 1 ∧ off = 0 ∧ len = bs.length ∧ bs.length + ys.length ≤ top,.ms nm 1 0 (bs.length + ys.length),put (drop H id) nm (.b (bs ++ ys))⟩
  | _ => bad
 | _ => bad
def zdt (nm : Nat) (d : AV) (ys : List Int) (H : Heap) : Out :=
 match d with
 | .si ns full => ⟨full = true ∧ (ns = [] ∨ ys ≠ []) ∧ ns.length + ys.length ≤ top,.ms nm 1 0 (ns.length + ys.length),put H nm (.i (ns ++ ys))⟩
 | .sg _ [] full => ⟨full = true ∧ ys.length ≤ top,.ms nm 1 0 ys.length,put H nm (.i ys)⟩
 | .ms id s off len => match look H id with
  | some (.i ns) => ⟨s = 1 ∧ off = 0 ∧ len = ns.length ∧ ns.length + ys.length ≤ top,.ms nm 1 0 (ns.length + ys.length),put (drop H id) nm (.i (ns ++ ys))⟩
  | _ => bad
 | _ => bad
def zcq (s : Nat) (nm : Nat) (d : AV) (ys : List AV) (H : Heap) : Out :=
 match d with
 | .sg s' xs full => ⟨full = true ∧ (xs = [] ∨ (s' = s ∧ ys ≠ [])) ∧ xs.length + ys.length ≤ top,.ms nm s 0 (xs.length + ys.length),put H nm (.g s (xs ++ ys))⟩
 | .ms id s' off len => match look H id with
  | some (.g s'' xs) => ⟨s' = s ∧ s'' = s ∧ off = 0 ∧ len = xs.length ∧ xs.length + ys.length ≤ top,.ms nm s 0 (xs.length + ys.length),put (drop H id) nm (.g s (xs ++ ys))⟩
  | _ => bad
 | _ => bad
def zgf (T : zac) (nm : Nat) (ts : List TypeId) (d x : AV) (H : Heap) : Out :=
 match ts with
 | [t,u] => match T t,T u with
  | some ti,some tu => match ti.d with
   | .slice e => match T e with
    | none => bad
    | some te => match te.d with
     | .int .u8 => match tu.d with
      | .str => match x with
       | .str ys => (zcr nm d ys H).and (te.size = 1 ∧ te.bytes ≤ 1024)
       | _ => bad
      | .slice _ => (zcr nm d (zfb H x).2 H).and (te.size = 1 ∧ te.bytes ≤ 1024 ∧ (zfb H x).1)
      | .int _ => match x with
       | .w (.int _ n) => (zcr nm d (List.replicate n.toNat 0) H).and (te.size = 1 ∧ te.bytes ≤ 1024 ∧ te.zero = [.w (.int .u8 0)] ∧ 0 ≤ n)
       | _ => bad
      | _ => bad
     | .int .i64 => match tu.d with
      | .slice _ => (zdt nm d (zhl H x).2 H).and (te.size = 1 ∧ te.bytes ≤ 1024 ∧ (zhl H x).1)
      | _ => bad
     | _ => match tu.d with
      | .slice _ => (zcq te.size nm d (zfa te.size H x).2 H).and (0 < te.size ∧ te.bytes ≤ 1024 ∧ (zfa te.size H x).1)
      | _ => bad
   | _ => bad
  | _,_ => bad
 | _ => bad
def zje (T : zac) (t : TypeId) (x : AV) (H : Heap) : Out :=
 match T t with
 | some ti => match ti.d with
  | .slice e => match T e with
   | some te => match x with
    | .ms id s off len => match look H id with
     | some (.g s' xs) => ⟨te.size = s ∧ s' = s ∧ off + len ≤ xs.length,.junk,put H id (.g s' (xs.take off ++ (List.replicate len (asv te te.zero) ++ xs.drop (off + len))))⟩
     | _ => bad
    | _ => bad
   | none => bad
  | _ => bad
 | none => bad
def srcB (H : Heap) (x : AV) : Prop × List UInt8 :=
 match x with
 | .str bs => (True,bs)
 | _ => zfb H x
def zpu (T : zac) (ts : List TypeId) (d x : AV) (H : Heap) : Out :=
 match ts with
 | t :: _ => match T t with
  | some ti => match ti.d with
   | .slice e => match T e with
    | some te => match d with
     | .ms id s off len => match look H id with
      | some (.b bs) => (⟨s = 1 ∧ off + len ≤ bs.length ∧ bs.length ≤ top ∧ (srcB H x).1,.w (word ((min (srcB H x).2.length len : Nat) : Int)),put H id (.b (bs.take off ++ ((srcB H x).2.take len ++ bs.drop (off + min (srcB H x).2.length len))))⟩ : Out).and (te.size = 1)
      | _ => bad
     | _ => bad
    | none => bad
   | _ => bad
  | none => bad
 | _ => bad
structure Res where
 p : Prop
 x : AV
 bl : List Blk
abbrev zcc := List AV → List Blk → Res
abbrev zal := FuncId → Option zcc
def zkn : Res := ⟨False,.junk,[]⟩
def coe (T : zac) (t : TypeId) (x : AV) : AV :=
 match x with
 | .sg _ [] f => match T t with
  | some ti => match ti.d with
   | .slice e => match T e with
    | some te => match te.d with
     | .int .u8 => .sb [] f
     | .int .i64 => .si [] f
     | _ => .sg te.size [] f
    | none => x
   | _ => x
  | none => x
 | _ => x
def coes (T : zac) : List TypeId → List AV → List AV
 | t :: ts,x :: xs => coe T t x :: coes T ts xs
 | _,xs => xs
mutual
def AV.roots : AV → List Nat
 | .agg xs => rootsL xs
 | .fn _ cs => rootsL cs
 | .rf id _ _ _ => [id]
 | _ => []
def rootsL : List AV → List Nat
 | [] => []
 | x :: xs => x.roots ++ rootsL xs
end
mutual
def AV.lends : AV → Bool
 | .agg xs => lendsL xs
 | .fn _ cs => lendsL cs
 | .ms _ _ _ _ => true
 | _ => false
def lendsL : List AV → Bool
 | [] => false
 | x :: xs => x.lends || lendsL xs
end
mutual
def AV.lentIds : AV → List Nat
 | .agg xs => lentIdsL xs
 | .fn _ cs => lentIdsL cs
 | .ms id _ _ _ => [id]
 | _ => []
def lentIdsL : List AV → List Nat
 | [] => []
 | x :: xs => x.lentIds ++ lentIdsL xs
end
def dropAll (H : Heap) : List Nat → Heap
 | [] => H
 | id :: r => drop (dropAll H r) id
def idx (id : Nat) : List Nat → Nat
 | [] => 0
 | k :: r => bif k == id then 0 else idx id r + 1
mutual
def lend (H : Heap) (ids : List Nat) (x : AV) : Prop × AV :=
 match x with
 | .agg xs => ((lendL H ids xs).1,.agg (lendL H ids xs).2)
 | .fn f cs => ((lendL H ids cs).1,.fn f (lendL H ids cs).2)
 | .tup _ => (False,.junk)
 | .rf id s i f => (True,.rf (idx id ids) s i f)
 | .ms id s off len => match look H id with
  | some (.b bs) => (s = 1 ∧ off + len ≤ bs.length ∧ ¬ id ∈ ids,.sb ((bs.drop off).take len) false)
  | some (.i ns) => (s = 1 ∧ off + len ≤ ns.length ∧ ¬ id ∈ ids,.si ((ns.drop off).take len) false)
  | some (.g s' xs) => (s' = s ∧ off + len ≤ xs.length ∧ ¬ id ∈ ids ∧ (∀ y ∈ (xs.drop off).take len,y.closed = true),.sg s ((xs.drop off).take len) false)
  | some (.o _) => (False,.junk)
  | none => (False,.junk)
 | .w v => (True,.w v)
 | .str bs => (True,.str bs)
 | .sb bs f => (True,.sb bs f)
 | .si ns f => (True,.si ns f)
 | .sg s xs f => (True,.sg s xs f)
 | .cp ls => (True,.cp ls)
 | .junk => (True,.junk)
def lendL (H : Heap) (ids : List Nat) (xs : List AV) : Prop × List AV :=
 match xs with
 | [] => (True,[])
 | x :: xs => ((lend H ids x).1 ∧ (lendL H ids xs).1,(lend H ids x).2 :: (lendL H ids xs).2)
end
mutual
def AV.ren (g : Nat → Nat) : AV → AV
 | .agg xs => .agg (renL g xs)
 | .tup xs => .tup (renL g xs)
 | .fn f cs => .fn f (renL g cs)
 | .ms id s off len => .ms (g id) s off len
 | .rf id s i f => .rf (g id) s i f
 | x => x
def renL (g : Nat → Nat) : List AV → List AV
 | [] => []
 | x :: xs => x.ren g :: renL g xs
end
def Blk.closed : Blk → Bool
 | .b _ => true
 | .i _ => true
 | .g _ xs => closedL xs
 | .o x => x.lone
mutual
def AV.noimm : AV → Bool
 | .agg xs => noimmL xs
 | .tup xs => noimmL xs
 | .fn _ cs => noimmL cs
 | .sb bs _ => bs.isEmpty
 | .si ns _ => ns.isEmpty
 | .sg _ xs _ => xs.isEmpty
 | .cp _ => false
 | _ => true
def noimmL : List AV → Bool
 | [] => true
 | x :: xs => x.noimm && noimmL xs
end
def Blk.noimm : Blk → Bool
 | .b _ => true
 | .i _ => true
 | .g _ xs => noimmL xs
 | .o x => x.lone
mutual
def AV.clean : AV → Bool
 | .agg xs => cleanL xs
 | .tup xs => cleanL xs
 | .fn _ cs => cleanL cs
 | .sb _ _ => false
 | .si _ _ => false
 | .sg _ _ _ => false
 | .cp _ => false
 | _ => true
def cleanL : List AV → Bool
 | [] => true
 | x :: xs => x.clean && cleanL xs
end
def Blk.clean : Blk → Bool
 | .b _ => true
 | .i _ => true
 | .g _ xs => cleanL xs
 | .o x => x.lone
def cleanB : List Blk → Bool
 | [] => true
 | b :: r => b.clean && cleanB r
def noimmB : List Blk → Bool
 | [] => true
 | b :: r => b.noimm && noimmB r
def closedB : List Blk → Bool
 | [] => true
 | b :: r => b.closed && closedB r
def pinsOf (H : Heap) : List Nat → Prop × List Blk
 | [] => (True,[])
 | id :: r => match look H id with
  | some b => (b.closed = true ∧ (pinsOf H r).1,b :: (pinsOf H r).2)
  | none => (False,[])
def nodup : List Nat → Bool
 | [] => true
 | a :: r => !r.contains a && nodup r
def back (g : Nat → Nat) (H : Heap) : Nat → List Blk → Heap
 | _,[] => H
 | k,b :: r => put (back g H (k + 1) r) (g k) b
def gOf : List Nat → Nat → Nat → Nat
 | [],nm,k => nm + k
 | id :: _,_,0 => id
 | _ :: r,nm,k + 1 => gOf r nm k
def zjs (r : Res) : List Nat → List Nat
 | [] => []
 | id :: l => bif r.x.clean && cleanB r.bl then [] else id :: l
def callOut (nm : Nat) (ids lent : List Nat) (m : Nat) (q : Prop) (H : Heap) (r : Res) : Out :=
 ⟨q ∧ r.p ∧ m ≤ r.bl.length ∧ r.bl.length ≤ m + 8 ∧ closedB r.bl = true,r.x.ren (gOf ids nm),back (gOf ids nm) (dropAll H (zjs r lent)) 0 r.bl⟩
def aUser (S : zal) (nm : Nat) (f : FuncId) (args : List AV) (H : Heap) : Out :=
 match S f with
 | some spec => callOut nm (rootsL args) (lentIdsL args) (pinsOf H (rootsL args)).2.length (nodup (rootsL args) = true ∧ (pinsOf H (rootsL args)).1 ∧ (lendL H (rootsL args) args).1) H
   (spec (lendL H (rootsL args) args).2 (pinsOf H (rootsL args)).2)
 | none => bad
def evs (sl : List AV) : List Operand → List AV
 | [] => []
 | o :: r => ev sl o :: evs sl r
def evps (sl : List AV) : List (Nat × Operand) → List (Nat × AV)
 | [] => []
 | o :: r => (o.1,ev sl o.2) :: evps sl r
def flatTy (T : zac) (t : TypeId) : Bool :=
 match T t with
 | some i => !(i.flat == 0) || match i.d with
  | .int _ => true
  | .bool => true
  | .str => true
  | _ => false
 | none => false
def coldStr (T : zac) (d : TypeId) : Bool :=
 match T d with
 | some i => i.flat == 2 && match i.d with
  | .str => true
  | _ => false
 | none => false
def ylh : AV → Prop
 | .ms _ _ _ _ => False
 | _ => True
def quietC (T : zac) (c : Call) : Bool :=
 match c.callee with
 | .value (.func _) => c.argTypes.toList.all (flatTy T)
 | _ => false
def aCall (S : zal) (T : zac) (nm : Nat) (sl : List AV) (c : Call) (H : Heap) : Out :=
 match c.callee with
 | .builtin .len => match c.args.toList,c.argTypes.toList with
  | [x],[t] => aLen T t (ev sl x) H
  | _,_ => bad
 | .builtin .min => aMin (evs sl c.args.toList) H
 | .builtin .max => aMax (evs sl c.args.toList) H
 | .builtin .append => match c.args.toList with
  | [d,x] => zgf T nm c.argTypes.toList (ev sl d) (ev sl x) H
  | _ => bad
 | .builtin .delete => match c.args.toList,c.argTypes.toList with
  | [d,x],t :: _ => zge T t (ev sl d) (ev sl x) H
  | _,_ => bad
 | .builtin .clear => match c.args.toList,c.argTypes.toList with
  | [x],[t] => zje T t (ev sl x) H
  | _,_ => bad
 | .builtin .copy => match c.args.toList with
  | [d,x] => zpu T c.argTypes.toList (ev sl d) (ev sl x) H
  | _ => bad
 | .value f => match ev sl f with
  | .fn f caps => (aUser S nm f (coes T c.argTypes.toList (evs sl c.args.toList) ++ caps) H).and (quietC T c = true → rootsL (coes T c.argTypes.toList (evs sl c.args.toList) ++ caps) = [] ∧ lentIdsL (coes T c.argTypes.toList (evs sl c.args.toList) ++ caps) = [])
  | _ => bad
 | _ => bad
def evo (sl : List AV) : Option Operand → Option AV
 | some o => some (ev sl o)
 | none => none
def aFn (fn : Fn) (first : List Operand) (caps : List AV) (H : Heap) : Out :=
 match fn,first with
 | .func f,[] => ⟨True,.fn f caps,H⟩
 | _,_ => bad
def aop (S : zal) (T : zac) (nm : Nat) (sl : List AV) (op : Op) (H : Heap) : Out :=
 match op with
 | .move x => ⟨True,ev sl x,H⟩
 | .assign x => ⟨True,ev sl x,H⟩
 | .pick c a b => zps (ev sl c) (ev sl a) (ev sl b) H
 | .alloc e => aAlloc T nm e H
 | .box e x => aBox T nm e (ev sl x) H
 | .build t ps => aBuild T t (evps sl ps.toList) H
 | .buildSlice t n ps => aBuildSlice T nm t n (evps sl ps.toList) H
 | .load t a => aLoad T t (ev sl a) H
 | .store t a x => zjb T t (ev sl a) (ev sl x) H
 | .nilCheck x => aNil (ev sl x) H
 | .binOp op t x y _ => aBin T op t (ev sl x) (ev sl y) H
 | .unOp op _ x => aUn op (ev sl x) H
 | .convert s d x => (zkb T s d nm (ev sl x) H).and (coldStr T d = true → ylh (ev sl x))
 | .makeSlice t l c => aMake T nm t (ev sl l) (ev sl c) H
 | .slice t x lo hi mx => (zjc T t (ev sl x) (evo sl lo) (evo sl hi) (evo sl mx) H).and (mx.isSome = true → hi.isSome = true)
 | .fieldAddr s x f => aFieldAddr T s (ev sl x) f H
 | .field t x f => aField T t (ev sl x) f H
 | .indexAddr t x i => zca T t (ev sl x) (ev sl i) H
 | .index t x i => zii T t (ev sl x) (ev sl i) H
 | .extract x i => zdi (ev sl x) i H
 | .makeFunc fn first caps => aFn fn first.toList (evs sl caps.toList) H
 | .range t x => zhk T nm t (ev sl x) H
 | .next x b => zpt (ev sl x) b H
 | .makeMap _ r => ziv nm r H
 | .lookup t x k ok => zgd T t (ev sl x) (ev sl k) ok H
 | .mapUpdate t x k v => zgc T t (ev sl x) (ev sl k) (ev sl v) H
 | .entry x => zjd (ev sl x) H
 | .call c => aCall S T nm sl c H
 | _ => bad
structure ASt where
 sl : List AV
 H : Heap
 nx : Nat
def zap (sl : List AV) (d : Option Tmp) (x : AV) : List AV :=
 match d with
 | some d => setSlot sl d x
 | none => sl
def guardSlot (ops : List Oper) (j : Nat) : Option Tmp :=
 match ops[j]? with
 | some o => o.dst
 | none => none
def aops (S : zal) (T : zac) (ops : List Oper) (nm : Nat) : List Oper → List AV → Heap → (List AV → Heap → Prop) → Prop
 | [],sl,H,Q => Q sl H
 | o :: r,sl,H,Q => match o.guard with
  | none => (aop S T nm sl o.op H).p ∧ aops S T ops (nm + 8) r (zap sl o.dst (aop S T nm sl o.op H).x) (aop S T nm sl o.op H).H Q
  | some (j,want) => match guardSlot ops j with
   | none => False
   | some d => match slot sl d with
    | .w (.bool b) =>
     (b = want → (aop S T nm (setSlot sl d (.w (.bool want))) o.op H).p ∧
      aops S T ops (nm + 8) r (zap (setSlot sl d (.w (.bool want))) o.dst (aop S T nm (setSlot sl d (.w (.bool want))) o.op H).x) (aop S T nm (setSlot sl d (.w (.bool want))) o.op H).H Q) ∧
     (b = !want → aops S T ops (nm + 8) r (zap (setSlot sl d (.w (.bool !want))) o.dst (.tup [])) H Q)
    | .tup [] => aops S T ops (nm + 8) r (zap sl o.dst (.tup [])) H Q
    | _ => False
end Ax
end Go.Proofs.Ytdfgfdcfcdgadaa
namespace Go.Proofs.Ytdfgfdcfcdgadaa
namespace Ax
structure Rel' (w0 : World) (E : Nat → Prop) (loc : Loc) (σ : ASt) (a : Act) (w : World) : Prop where
 size : a.tmps.size = σ.sl.length
 slots : ∀ t,R w loc (slot σ.sl t) (a.tmps.getD t undef)
 heap : HR w loc σ.H
 env : Env w0 E w loc
 fresh : ∀ id,σ.nx ≤ id → loc.m id = .free
 defers : a.defers = []
 low : ∀ id b,look σ.H id = some b → id < σ.nx
structure Bs where
 bad : Nat → Prop
 pb : List Nat
def ykq (w0 : World) (B : Bs) (w : World) : Prop := ∀ (k : Nat) (h : k < B.pb.length) (cur : Array Value) (e : TypeId) (fz : Nat × Nat),w0.heap[B.pb[k]]? = some (.cells cur e fz) → ∃ cur' fz',w.heap[B.pb[k]]? = some (.cells cur' e fz') ∧ cur'.size = cur.size
def Base (w0 : World) (B : Bs) (w : World) (loc : Loc) : Prop :=
 (loc.bad = B.bad ∧ ykq w0 B w) ∧ B.pb.length ≤ 4 ∧ ∀ (k : Nat) (h : k < B.pb.length),loc.m k = .dead ∨ (loc.m k = .here B.pb[k] ∧ ∀ cur e fz,w0.heap[B.pb[k]]? = some (.cells cur e fz) → ∃ cur' fz',w.heap[B.pb[k]]? = some (.cells cur' e fz') ∧ cur'.size = cur.size)
theorem Base.post {w0 : World} {E : Nat → Prop} {B : Bs} {w : World} {loc : Loc} {wr : Bool} {nm : Nat} {x : AV} {H : Heap} {v : Value} {w' : World} {loc' : Loc} (h : Base w0 B w loc) (hp : Post w0 E w loc wr nm x H v w' loc') : Base w0 B w' loc' := by
 obtain ⟨C,hE,_⟩ := hp.ext
 have hsh : ykq w0 B w' := by
  intro k hk cur e fz hh
  obtain ⟨c1,f1,h3,h4⟩ := h.1.2 k hk cur e fz hh
  obtain ⟨c2,f2,h5,h6⟩ := hE.shape _ c1 e f1 h3
  exact ⟨c2,f2,h5,h6.trans h4⟩
 refine ⟨⟨hp.bad.trans h.1.1,hsh⟩,h.2.1,fun k hk => ?_⟩
 rcases h.2.2 k hk with h1 | ⟨h1,h2⟩
 ·by_cases hC : C k
  ·rcases hE.gone k (by rw [h1]; simp) hC with h3 | h3
   ·exact .inl (h3.trans h1)
   ·exact .inl h3
  ·exact .inl ((hE.keep k (by rw [h1]; simp) hC).trans h1)
 ·by_cases hC : C k
  ·rcases hE.gone k (by rw [h1]; simp) hC with h3 | h3
   ·exact .inr ⟨h3.trans h1,hsh k hk⟩
   ·exact .inl h3
  ·exact .inr ⟨(hE.keep k (by rw [h1]; simp) hC).trans h1,hsh k hk⟩
def Rel (w0 : World) (E : Nat → Prop) (B : Bs) (σ : ASt) (a : Act) (w : World) : Prop := ∃ loc,Base w0 B w loc ∧ Rel' w0 E loc σ a w
def Weak (σ σ' : ASt) : Prop := ∀ w0 E B a w,Rel w0 E B σ a w → Rel w0 E B σ' a w
def wk (σ : ASt) (Q : ASt → Prop) : Prop := ∃ σ2,Weak σ σ2 ∧ Q σ2
def ydn (body : (Exit → ASt → Prop) → ASt → Prop) (Q : Exit → ASt → Prop) (σ : ASt) : Prop :=
 ∃ I : Nat → ASt → Prop,(∃ n σ',Weak σ σ' ∧ I n σ') ∧
  ∀ n σ',I n σ' → body (fun e σ1 => match e with
   | .normal => ∃ m σ2,m < n ∧ Weak σ1 σ2 ∧ I m σ2
   | e => wk σ1 (Q e)) σ'
def yny (body : (Exit → ASt → Prop) → ASt → Prop) (Q : Exit → ASt → Prop) (σ : ASt) : Prop :=
 ∃ I : Nat → ASt → Prop,(∃ n σ',Weak σ σ' ∧ I n σ') ∧
  ∀ n σ',I n σ' → body (fun e σ1 => match e with
   | .normal => ∃ m σ2,m < n ∧ Weak σ1 σ2 ∧ I m σ2
   | e => Q e σ1) σ'
def zlx (T : zac) (t : TypeId) : Bool :=
 match T t with
 | some i => match i.d with
  | .int _ => true
  | _ => false
 | none => false
def zcp (T : zac) (t : TypeId) : Bool :=
 match T t with
 | some i => match i.d with
  | .str => true
  | _ => false
 | none => false
def zai (T : zac) : Op → Nat
 | .move _ => 0
 | .assign _ => 0
 | .pick _ _ _ => 0
 | .build _ _ => 0
 | .unOp _ _ _ => 0
 | .extract _ _ => 0
 | .field _ _ _ => 0
 | .index _ _ _ => 0
 | .binOp op _ _ _ _ => match op with
  | .eql => 1
  | .neq => 1
  | _ => 0
 | .convert s d _ => bif zlx T d || coldStr T d then 0 else bif zcp T d || zcp T s then 1 else 2
 | .store _ _ _ => 2
 | .next _ _ => 2
 | .mapUpdate _ _ _ _ => 2
 | .range t _ => bif zcp T t then 1 else 2
 | .call c => match c.callee with
  | .builtin .append => 2
  | .builtin .copy => 2
  | .builtin .delete => 2
  | .builtin .clear => 2
  | .builtin .min => 0
  | .builtin .max => 0
  | .builtin _ => 1
  | _ => bif quietC T c then 1 else 2
 | _ => 1
def ziy (acc : List Nat) : List Edge → Nat
 | [] => 0
 | e :: r => bif Region.binds .any e then (1 <<< e.on) ||| (acc.getD e.on 0 ||| ziy acc r) else ziy acc r
def zgx : List Nat → List Oper → List Nat
 | acc,[] => acc
 | acc,o :: r => zgx (acc ++ [ziy acc o.after.toList]) r
def clash (T : zac) (ops : List Oper) (x y : Oper) : Bool :=
 (match x.dst with
  | some d => (y.looksAt ops.toArray).contains d || y.dst == some d
  | none => false) ||
 (match y.dst with
  | some d => (x.looksAt ops.toArray).contains d
  | none => false) ||
 (decide (zai T x.op = 2) && !decide (zai T y.op = 0)) || (decide (zai T y.op = 2) && !decide (zai T x.op = 0))
def zxz (j : Nat) : List Edge → Bool
 | [] => true
 | e :: r => (!Region.binds .any e || decide (e.on < j)) && zxz j r
def zlb (T : zac) (ops : List Oper) : Bool :=
 let ms := zgx [] ops
 (List.range ops.length).all fun j => match ops[j]? with
  | some y => zxz j y.after.toList && (List.range j).all fun i => match ops[i]? with
   | some x => !clash T ops x y || (ms.getD j 0).testBit i
   | none => true
  | none => true
def seqK (b : ASt → Prop) (Q : Exit → ASt → Prop) : Exit → ASt → Prop
 | .normal,σ => b σ
 | e,σ => Q e σ
def zgq (id : Nat) (Q : Exit → ASt → Prop) : Exit → ASt → Prop
 | .exit id',σ => if id' = id then Q .normal σ else Q (.exit id') σ
 | e,σ => Q e σ
def regK (nx : Nat) (Q : Exit → ASt → Prop) : List AV → Heap → Prop := fun sl H => Q .normal ⟨sl,H,nx⟩
def rawp (S : zal) (T : zac) : Code → (Exit → ASt → Prop) → ASt → Prop
 | .skip,Q,σ => Q .normal σ
 | .label _,Q,σ => Q .normal σ
 | .region _ ops draw,Q,σ => (draw = true → zlb T ops.toList = true) ∧ aops S T ops.toList σ.nx ops.toList σ.sl σ.H (regK (σ.nx + 8 * ops.toList.length) Q)
 | .seq a b,Q,σ => rawp S T a (seqK (rawp S T b Q) Q) σ
 | .cond c a b,Q,σ => match ev σ.sl c with
   | .w (.bool t) => (t = true → rawp S T a Q σ) ∧ (t = false → rawp S T b Q σ)
   | _ => False
 | .block id c,Q,σ => rawp S T c (zgq id Q) σ
 | .loop c,Q,σ => ydn (rawp S T c) Q σ
 | .exit id,Q,σ => Q (.exit id) σ
 | .ret,Q,σ => Q .ret σ
 | _,_,_ => False
def zhh (b want : Bool) (A B : Prop) : Prop := (b = want → A) ∧ (b = !want → B)
def zhj (t : Bool) (A B : Prop) : Prop := (t = true → A) ∧ (t = false → B)
theorem yfn {A B : Prop} : zhh true true A B = A := by simp [zhh]
theorem yfq {A B : Prop} : zhh false false A B = A := by simp [zhh]
theorem yfo {A B : Prop} : zhh true false A B = B := by simp [zhh]
theorem yfp {A B : Prop} : zhh false true A B = B := by simp [zhh]
theorem zup {b : Bool} {A B : Prop} : zhh b true A B = ((b = true → A) ∧ (b = false → B)) := rfl
theorem zuq {b : Bool} {A B : Prop} : zhh b false A B = ((b = false → A) ∧ (b = true → B)) := rfl
theorem yjk {A B : Prop} : zhj true A B = A := by simp [zhj]
theorem yjl {A B : Prop} : zhj false A B = B := by simp [zhj]
theorem zzv {b : Bool} {A B : Prop} : zhj b A B = ((b = true → A) ∧ (b = false → B)) := rfl
end Ax
end Go.Proofs.Ytdfgfdcfcdgadaa
