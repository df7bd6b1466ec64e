/- What the proofs of this seat stand on; it asks nothing. -/
import Derived.Test.YtdfgfdcfcdgadaaZa06
set_option linter.unusedSimpArgs false
set_option linter.unusedVariables false
namespace Go.Proofs.Ytdfgfdcfcdgadaa
namespace Ax
def gone : Blk := .g 0 [.ms 0 0 0 0]
def Blk.isGone : Blk → Bool
 | .g s _ => s == 0
 | _ => false
mutual
def AV.sids : AV → List Nat
 | .agg xs => sidsL xs
 | .tup xs => sidsL xs
 | .fn _ cs => sidsL cs
 | .ms id _ _ len => bif decide (0 < len) then [id] else []
 | .rf id _ _ _ => [id]
 | _ => []
def sidsL : List AV → List Nat
 | [] => []
 | x :: xs => x.sids ++ sidsL xs
end
def yjf (id : Nat) : Option Blk → List Nat
 | some b => bif decide (0 < b.len) then [id] else []
 | none => []
mutual
def AV.sidsH (H : Heap) : AV → List Nat
 | .agg xs => sidsLH H xs
 | .tup xs => sidsLH H xs
 | .fn _ cs => sidsLH H cs
 | .ms id _ _ len => bif decide (0 < len) then [id] else yjf id (look H id)
 | .rf id _ _ _ => [id]
 | _ => []
def sidsLH (H : Heap) : List AV → List Nat
 | [] => []
 | x :: xs => x.sidsH H ++ sidsLH H xs
end
def Blk.idsB (b : Blk) : List Nat := bif b.closed then [] else match b with
 | .g _ xs => idsL xs
 | _ => []
def Blk.sidsB (b : Blk) : List Nat := bif b.closed then [] else match b with
 | .g _ xs => sidsL xs
 | _ => []
def Blk.renB (g : Nat → Nat) (b : Blk) : Blk := bif b.closed then b else b.ren g
def reach (H : Heap) : Nat → List Nat → List Nat → List Nat
 | 0,acc,_ => acc
 | _ + 1,acc,[] => acc
 | n + 1,acc,id :: r => bif acc.contains id then reach H n acc r else match look H id with
  | some b => reach H n (acc ++ [id]) (r ++ b.idsB)
  | none => acc
def walk (H : Heap) : List Nat → List Nat → Bool
 | _,[] => true
 | good,id :: r => good.contains id && match look H id with
  | some b => walk H (good ++ b.sidsB) r
  | none => false
def allIn : List Nat → List Nat → Bool
 | [],_ => true
 | id :: r,ids => ids.contains id && allIn r ids
def pinsIn (H : Heap) (ids : List Nat) : List Nat → Bool
 | [] => true
 | id :: r => (match look H id with
  | some b => allIn b.idsB ids
  | none => false) && pinsIn H ids r
def pinsR (H : Heap) (g : Nat → Nat) : List Nat → List Blk
 | [] => []
 | id :: r => match look H id with
  | some b => b.renB g :: pinsR H g r
  | none => []
def backO (g : Nat → Nat) (H : Heap) : Nat → List Blk → Heap
 | _,[] => H
 | k,b :: r => bif b.isGone then drop (backO g H (k + 1) r) (g k) else put (backO g H (k + 1) r) (g k) (b.renB g)
def openOut (nm : Nat) (ids : List Nat) (args : List AV) (H : Heap) (r : Res) : Out :=
 ⟨(nodup ids = true ∧ walk H (sidsLH H args) ids = true ∧ allIn (idsL args) ids = true ∧ pinsIn H ids ids = true) ∧ r.p ∧ ids.length ≤ r.bl.length ∧ r.bl.length ≤ ids.length + 8,
   r.x.ren (gOf ids nm),backO (gOf ids nm) H 0 r.bl⟩
def idxOf (ids : List Nat) (id : Nat) : Nat := idx id ids
def aOpen (SO : zal) (nm : Nat) (f : FuncId) (args : List AV) (H : Heap) : Out :=
 match SO f with
 | some spec => openOut nm (reach H 12 [] (idsL args)) args H (spec (renL (idxOf (reach H 12 [] (idsL args))) args) (pinsR H (idxOf (reach H 12 [] (idsL args))) (reach H 12 [] (idsL args))))
 | none => bad
structure yhy (w : World) (bad : Nat → Prop) (pb : List Nat) (q : Res) (v : Value) (w' : World) (loc' : Loc) : Prop where
 r : R w' loc' q.x v
 bad : loc'.bad = bad
 bl : ∀ (k : Nat) (h : k < q.bl.length),(q.bl[k].isGone = true ∧ loc'.m k = .dead) ∨ (BlkR w' loc' k q.bl[k] ∧ loc'.m k ≠ .free ∧ loc'.m k ≠ .dead)
 old : ∀ (k : Nat) (h : k < pb.length),loc'.m k = .here pb[k] ∨ loc'.m k = .dead
 new : ∀ k b,pb.length ≤ k → loc'.m k = .here b → (w.heap.size ≤ b ∨ b ∈ pb) ∧ b < w'.heap.size
 none : ∀ k,q.bl.length ≤ k → loc'.m k = .free
 inj : ∀ i j b,loc'.m i = .here b → loc'.m j = .here b → i = j
 fram : Fram w w' (· ∈ pb)
def zfr (P : Program) (f : FuncId) (spec : zcc) : Prop :=
 ∀ (xs : List AV) (pins : List Blk),(spec xs pins).p →
 ∀ (w : World) (bad : Nat → Prop) (pb : List Nat) (vs : List Value),pb.length = pins.length → pb.Nodup → (∀ b,bad b → b < w.heap.size ∧ ¬ b ∈ pb) →
  (∀ (k : Nat) (h : k < pins.length) (h' : k < pb.length),pins[k].ok ∧ Lies w (zbf pb bad) pins[k] pb[k]) →
  xs.length = vs.length → (∀ (j : Nat) (h : j < xs.length) (h' : j < vs.length),R w (zbf pb bad) xs[j] vs[j]) →
  Calls P f vs.toArray w fun e w' => ∃ v loc',e = .returned v ∧ yhy w bad pb (spec xs pins) v w' loc'
theorem idsL_mem {id : Nat} : ∀ {xs : List AV},id ∈ idsL xs ↔ ∃ x ∈ xs,id ∈ x.ids
 | [] => by simp [idsL]
 | x :: xs => by
   simp only [idsL,List.mem_append,List.mem_cons,idsL_mem (xs := xs)]; constructor
   ·rintro (h | ⟨y,h1,h2⟩)
    ·exact ⟨x,.inl rfl,h⟩
    ·exact ⟨y,.inr h1,h2⟩
   ·rintro ⟨y,rfl | h1,h2⟩
    ·exact .inl h2
    ·exact .inr ⟨y,h1,h2⟩
theorem sidsL_mem {id : Nat} : ∀ {xs : List AV},id ∈ sidsL xs ↔ ∃ x ∈ xs,id ∈ x.sids
 | [] => by simp [sidsL]
 | x :: xs => by
   simp only [sidsL,List.mem_append,List.mem_cons,sidsL_mem (xs := xs)]; constructor
   ·rintro (h | ⟨y,h1,h2⟩)
    ·exact ⟨x,.inl rfl,h⟩
    ·exact ⟨y,.inr h1,h2⟩
   ·rintro ⟨y,rfl | h1,h2⟩
    ·exact .inl h2
    ·exact .inr ⟨y,h1,h2⟩
theorem zxb {id : Nat} {x y : AV} (hy : y ∈ x.leaves) (h : id ∈ y.ids) : id ∈ x.ids := by
 cases x with
 | agg xs => exact idsL_mem.2 ⟨y,hy,h⟩
 | _ => simp only [AV.leaves,List.mem_singleton] at hy; subst hy; exact h
theorem ycm {id : Nat} {x : AV} (h : id ∈ x.ids) : ∃ y ∈ x.leaves,id ∈ y.ids := by
 cases x with
 | agg xs => exact idsL_mem.1 h
 | _ => exact ⟨_,by simp [AV.leaves],h⟩
theorem zwq {id : Nat} {x : AV} (h : id ∈ x.sids) : ∃ y ∈ x.leaves,id ∈ y.sids := by
 cases x with
 | agg xs => exact sidsL_mem.1 h
 | _ => exact ⟨_,by simp [AV.leaves],h⟩
theorem yki {w : World} {loc loc2 : Loc} {g : Nat → Nat} (hM : ∀ b,b < w.heap.size → Mut loc2 b → Mut loc b) {x : AV} {v : Value} (h : R w loc x v) : (∀ id ∈ x.ids,loc2.m (g id) = loc.m id) → R w loc2 (x.ren g) v := by
 induction h with
 | w v h => intro _; exact .w v h
 | str bs => intro _; exact .str bs
 | agg xs cs hl hx _ ih =>
  intro hg
  obtain ⟨h1,h2⟩ := zbg g xs
  refine .agg _ cs (by rw [h1,hl]) (fun j hj => ?_) (fun j a b => ?_)
  ·rw [h2 j hj (by rw [← h1]; exact hj)]; exact zyu g (hx j _)
  ·rw [h2 j a (by rw [← h1]; exact a)]
   exact ih j _ b (fun id hid => hg id (idsL_mem.2 ⟨_,List.getElem_mem _,hid⟩))
 | tup xs cs hl _ ih =>
  intro hg
  obtain ⟨h1,h2⟩ := zbg g xs
  refine .tup _ cs (by rw [h1,hl]) (fun j a b => ?_)
  rw [h2 j a (by rw [← h1]; exact a)]
  exact ih j _ b (fun id hid => hg id (idsL_mem.2 ⟨_,List.getElem_mem _,hid⟩))
 | sb bs full a cap hd hc => intro _; exact .sb bs full a cap hd (hc.move hM)
 | si ns full a cap hd hc => intro _; exact .si ns full a cap hd (hc.move hM)
 | sg s xs full a cap cs hd hs hc hl hx h ih => intro _; exact (R.sg s xs full a cap cs hd hs hc hl hx h).move hM rfl
 | cp ls a cs hc hn hl hx h ih => intro _; exact (R.cp ls a cs hc hn hl hx h).move hM rfl
 | ms id s off len v h =>
  intro hg
  refine .ms _ _ _ _ _ ?_
  unfold Owns at h ⊢
  rw [hg id (by simp [AV.ids])]; exact h
 | rf id s i f v h =>
  intro hg
  refine .rf _ _ _ _ _ ?_
  unfold Points at h ⊢
  rw [hg id (by simp [AV.ids])]; exact h
 | fn f caps cs hl _ ih =>
  intro hg
  obtain ⟨h1,h2⟩ := zbg g caps
  refine .fn f _ cs (by rw [h1,hl]) (fun j a b => ?_)
  rw [h2 j a (by rw [← h1]; exact a)]
  exact ih j _ b (fun id hid => hg id (idsL_mem.2 ⟨_,List.getElem_mem _,hid⟩))
 | junk v => intro _; exact .junk v
theorem zuw {blk : Blk} (hc : blk.closed = false) {id : Nat} : (∃ y ∈ blk.flat,id ∈ y.ids) ↔ id ∈ blk.idsB := by
 cases blk with
 | o x => simp [Blk.flat,Blk.idsB,hc]
 | b bs => simp [Blk.closed] at hc
 | i ns => simp [Blk.closed] at hc
 | g s xs =>
  simp only [Blk.idsB,hc,cond_false]
  constructor
  ·rintro ⟨y,hy,h⟩
   obtain ⟨x,hx,hxl⟩ := List.mem_flatMap.1 hy
   exact idsL_mem.2 ⟨x,hx,zxb hxl h⟩
  ·intro h
   obtain ⟨x,hx,h⟩ := idsL_mem.1 h
   obtain ⟨y,hy,h⟩ := ycm h
   exact ⟨y,List.mem_flatMap.2 ⟨x,hx,hy⟩,h⟩
theorem yjd {blk : Blk} {y : AV} (h : y ∈ blk.flat) : blk.odd = none := by
 cases blk with
 | o x => simp [Blk.flat] at h
 | _ => rfl
theorem ztz {w : World} {loc loc2 : Loc} {g : Nat → Nat} {blk : Blk} {b : Nat} (hM : ∀ b,b < w.heap.size → Mut loc2 b → Mut loc b) (hg : ∀ id ∈ blk.idsB,loc2.m (g id) = loc.m id) (h : Lies w loc blk b) : Lies w loc2 (blk.renB g) b := by
 unfold Blk.renB
 cases hc : blk.closed with
 | true => exact zfi h hc (.inr hM)
 | false =>
  simp only [cond_false]
  rcases zbi blk with ⟨x,hx,rfl⟩ | hodd
  ·exact .mkO (Thing.move hM (h.is hx)) hx
  obtain ⟨cur,e,fz,h1,h2,h3,h4,h5⟩ := h.lies hodd
  have hl : (blk.ren g).flat.length = blk.flat.length := by rw [zmx,(zbg g _).1]
  refine .mkC ⟨cur,e,fz,h1,by rw [zyr]; exact h2,h3,by omega,fun j a c => ?_⟩ (odd_ren.trans hodd)
  have h6 := h5 j (by omega) c
  have e : (blk.ren g).flat[j] = (blk.flat[j]'(by omega)).ren g := by
   have := (zbg g blk.flat).2 j (by rw [(zbg g _).1]; omega) (by omega)
   rw [← this]
   congr 1
   exact zmx g blk
  rw [e,zjk]
  exact ⟨h6.1,yki hM h6.2 (fun id hid => hg id ((zuw hc).1 ⟨_,List.getElem_mem _,hid⟩))⟩
theorem zww {g : Nat → Nat} {b : Blk} (h : b.ok) : (b.renB g).ok := by
 unfold Blk.renB
 cases b.closed with
 | true => exact h
 | false =>
  simp only [cond_false]
  cases b with
  | g s xs =>
   obtain ⟨h1,h2⟩ := h
   refine ⟨h1,fun x hx => ?_⟩
   obtain ⟨j,hj,rfl⟩ := List.getElem_of_mem hx
   obtain ⟨h3,h4⟩ := zbg g xs
   rw [h4 j hj (by rw [← h3]; exact hj),zlv,(zbg g _).1]
   exact h2 _ (List.getElem_mem _)
  | _ => trivial
theorem zzc {g : Nat → Nat} {b : Blk} : (b.renB g).len = b.len := by
 unfold Blk.renB
 cases b.closed with
 | true => rfl
 | false => exact yfa
def Firm (loc : Loc) (id : Nat) : Prop := loc.m id ≠ .free ∧ loc.m id ≠ .nil
mutual
theorem zkg {w : World} {loc : Loc} {id : Nat} : ∀ (x : AV) (v : Value),R w loc x v → id ∈ x.sids → Firm loc id
 | .agg xs,v,h,hm => by
  cases h with
  | agg _ cs hl hx h => exact sidsL_firm xs cs hl h hm
 | .tup xs,v,h,hm => by
  cases h with
  | tup _ cs hl h => exact sidsL_firm xs cs hl h hm
 | .fn f xs,v,h,hm => by
  cases h with
  | fn _ _ cs hl h => exact sidsL_firm xs cs hl h hm
 | .ms k s off len,v,h,hm => by
  simp only [AV.sids] at hm
  by_cases h0 : 0 < len
  ·rw [decide_eq_true h0] at hm
   obtain rfl : id = k := by simpa using hm
   cases h with
   | ms _ _ _ _ _ h =>
    refine ⟨fun e => by simp [Owns,e] at h,fun e => ?_⟩
    simp only [Owns,e] at h
    omega
  ·rw [decide_eq_false h0] at hm; simp at hm
 | .rf k s i f,v,h,hm => by
  obtain rfl : id = k := by simpa [AV.sids] using hm
  cases h with
  | rf _ _ _ _ _ h => exact ⟨fun e => by simp [Points,e] at h,fun e => by simp [Points,e] at h⟩
 | .w _,_,_,hm => by simp [AV.sids] at hm
 | .str _,_,_,hm => by simp [AV.sids] at hm
 | .sb _ _,_,_,hm => by simp [AV.sids] at hm
 | .si _ _,_,_,hm => by simp [AV.sids] at hm
 | .sg _ _ _,_,_,hm => by simp [AV.sids] at hm
 | .cp _,_,_,hm => by simp [AV.sids] at hm
 | .junk,_,_,hm => by simp [AV.sids] at hm
theorem sidsL_firm {w : World} {loc : Loc} {id : Nat} : ∀ (xs : List AV) (vs : List Value),xs.length = vs.length → (∀ (j : Nat) (h : j < xs.length) (h' : j < vs.length),R w loc xs[j] vs[j]) → id ∈ sidsL xs → Firm loc id
 | [],_,_,_,hm => by simp [sidsL] at hm
 | x :: xs,[],hl,_,_ => by simp at hl
 | x :: xs,v :: vs,hl,h,hm => by
  simp only [sidsL,List.mem_append] at hm
  rcases hm with hm | hm
  ·exact zkg x v (h 0 (by simp) (by simp)) hm
  ·exact sidsL_firm xs vs (by simpa using hl) (fun j a b => h (j + 1) (by simpa using a) (by simpa using b)) hm
end
mutual
theorem ybv {w : World} {loc : Loc} {H : Heap} (hh : HR w loc H) {id : Nat} : ∀ (x : AV) (v : Value),R w loc x v → id ∈ x.sidsH H → Firm loc id
 | .agg xs,v,h,hm => by
  cases h with
  | agg _ cs hl hx h => exact sidsLH_firm hh xs cs hl h hm
 | .tup xs,v,h,hm => by
  cases h with
  | tup _ cs hl h => exact sidsLH_firm hh xs cs hl h hm
 | .fn f xs,v,h,hm => by
  cases h with
  | fn _ _ cs hl h => exact sidsLH_firm hh xs cs hl h hm
 | .ms k s off len,v,h,hm => by
  simp only [AV.sidsH] at hm
  by_cases h0 : 0 < len
  ·rw [decide_eq_true h0] at hm
   exact zkg _ v h (by simp only [AV.sids]; rw [decide_eq_true h0]; exact hm)
  ·rw [decide_eq_false h0] at hm
   simp only [cond_false] at hm
   cases hl : look H k with
   | none => rw [hl] at hm; simp [yjf] at hm
   | some b =>
    rw [hl] at hm
    simp only [yjf] at hm
    by_cases hb : 0 < b.len
    ·rw [decide_eq_true hb] at hm
     obtain rfl : id = k := by simpa using hm
     have hfr : loc.m id ≠ .free := by
      cases h with
      | ms _ _ _ _ _ h => intro e; simp [Owns,e] at h
     refine ⟨hfr,fun e => ?_⟩
     obtain ⟨_,⟨_,q⟩ | ⟨c,hc,_⟩⟩ := hh.get hl hfr
     ·omega
     ·rw [hc] at e; cases e
    ·rw [decide_eq_false hb] at hm; simp at hm
 | .rf k s i f,v,h,hm => by
  exact zkg _ v h (by simpa [AV.sids,AV.sidsH] using hm)
 | .w _,_,_,hm => by simp [AV.sidsH] at hm
 | .str _,_,_,hm => by simp [AV.sidsH] at hm
 | .sb _ _,_,_,hm => by simp [AV.sidsH] at hm
 | .si _ _,_,_,hm => by simp [AV.sidsH] at hm
 | .sg _ _ _,_,_,hm => by simp [AV.sidsH] at hm
 | .cp _,_,_,hm => by simp [AV.sidsH] at hm
 | .junk,_,_,hm => by simp [AV.sidsH] at hm
theorem sidsLH_firm {w : World} {loc : Loc} {H : Heap} (hh : HR w loc H) {id : Nat} : ∀ (xs : List AV) (vs : List Value),xs.length = vs.length → (∀ (j : Nat) (h : j < xs.length) (h' : j < vs.length),R w loc xs[j] vs[j]) → id ∈ sidsLH H xs → Firm loc id
 | [],_,_,_,hm => by simp [sidsLH] at hm
 | x :: xs,[],hl,_,_ => by simp at hl
 | x :: xs,v :: vs,hl,h,hm => by
  simp only [sidsLH,List.mem_append] at hm
  rcases hm with hm | hm
  ·exact ybv hh x v (h 0 (by simp) (by simp)) hm
  ·exact sidsLH_firm hh xs vs (by simpa using hl) (fun j a b => h (j + 1) (by simpa using a) (by simpa using b)) hm
end
theorem zta {w : World} {loc : Loc} {H : Heap} (hh : HR w loc H) : ∀ (ids good : List Nat),walk H good ids = true → (∀ id ∈ good,Firm loc id) → ∀ id ∈ ids,∃ b blk,loc.m id = .here b ∧ look H id = some blk ∧ blk.ok ∧ Lies w loc blk b
 | [],_,_,_,id,hid => by simp at hid
 | k :: r,good,hw,hg,id,hid => by
  simp only [walk,Bool.and_eq_true] at hw
  obtain ⟨h1,h2⟩ := hw
  have hk : k ∈ good := List.contains_iff_mem.1 h1
  cases hl : look H k with
  | none => simp [hl] at h2
  | some blk =>
   simp only [hl] at h2
   obtain ⟨hf,hn⟩ := hg k hk
   obtain ⟨hok,⟨e,_⟩ | ⟨b,hb,hlies⟩⟩ := hh.get hl hf
   ·exact (hn e).elim
   ·rcases List.mem_cons.1 hid with rfl | hid
    ·exact ⟨b,blk,hb,hl,hok,hlies⟩
    ·refine zta hh r _ h2 (fun id' hid' => ?_) id hid
     rcases List.mem_append.1 hid' with h | h
     ·exact hg id' h
     ·unfold Blk.sidsB at h
      cases hc : blk.closed with
      | true => rw [hc] at h; simp at h
      | false =>
       rw [hc] at h
       simp only [cond_false] at h
       cases blk with
       | o _ => simp at h
       | b _ => simp at h
       | i _ => simp at h
       | g s xs =>
        simp only at h
        obtain ⟨x,hx,h⟩ := sidsL_mem.1 h
        obtain ⟨y,hy,h⟩ := zwq h
        have hyf : y ∈ (Blk.g s xs).flat := List.mem_flatMap.2 ⟨x,hx,hy⟩
        obtain ⟨j,hj,rfl⟩ := List.getElem_of_mem hyf
        obtain ⟨cur,e,fz,_,_,_,q4,q5⟩ := hlies.lies
        exact zkg _ _ (q5 j hj (by omega)).2 h
theorem zpd {ids : List Nat} : ∀ {l : List Nat},allIn l ids = true → ∀ id ∈ l,id ∈ ids
 | [],_,id,h => by simp at h
 | k :: r,hl,id,h => by
  simp only [allIn,Bool.and_eq_true] at hl
  rcases List.mem_cons.1 h with rfl | h
  ·exact List.contains_iff_mem.1 hl.1
  ·exact zpd hl.2 id h
theorem zqd {H : Heap} {ids : List Nat} : ∀ {l : List Nat},pinsIn H ids l = true → ∀ id ∈ l,∀ b,look H id = some b → ∀ k ∈ b.idsB,k ∈ ids
 | [],_,id,h => by simp at h
 | i :: r,hl,id,h => by
  simp only [pinsIn,Bool.and_eq_true] at hl
  rcases List.mem_cons.1 h with rfl | h
  ·intro b hb k hk
   rw [hb] at hl
   exact zpd hl.1 k hk
  ·exact zqd hl.2 id h
theorem ztp {H : Heap} {g : Nat → Nat} : ∀ {ids : List Nat},(∀ id ∈ ids,look H id ≠ none) → (pinsR H g ids).length = ids.length ∧ ∀ (k : Nat) (h : k < ids.length) (h' : k < (pinsR H g ids).length) (b : Blk),look H ids[k] = some b → (pinsR H g ids)[k] = b.renB g
 | [],_ => ⟨rfl,fun k h => by simp at h⟩
 | id :: r,hn => by
  obtain ⟨h1,h2⟩ := ztp (g := g) (fun i hi => hn i (List.mem_cons_of_mem _ hi) : ∀ i ∈ r,look H i ≠ none)
  cases hl : look H id with
  | none => exact (hn id (by simp) hl).elim
  | some b =>
   have e : pinsR H g (id :: r) = b.renB g :: pinsR H g r := by simp [pinsR,hl]
   rw [e]
   refine ⟨by simp [h1],fun k h h' c hc => ?_⟩
   cases k with
   | zero => simp only [List.getElem_cons_zero] at hc ⊢; rw [hl] at hc; injection hc with hc; rw [hc]
   | succ k => simp only [List.getElem_cons_succ] at hc ⊢; exact h2 k (by simpa using h) (by rw [h1]; simpa using h) c hc
theorem yff {ids : List Nat} (hnd : ids.Nodup) (k : Nat) (h : k < ids.length) : idx ids[k] ids = k := by
 obtain ⟨h1,h2⟩ := yfe (List.getElem_mem h)
 rw [List.getElem?_eq_getElem h1] at h2
 injection h2 with h2
 exact zch hnd h2
theorem zlu {g : Nat → Nat} {H : Heap} {b : Blk} : ∀ (bl : List Blk) (k id : Nat),look (backO g H k bl) id = some b → (∃ j,∃ h : j < bl.length,g (k + j) = id ∧ bl[j].isGone = false ∧ bl[j].renB g = b) ∨ (look H id = some b ∧ ∀ j,j < bl.length → g (k + j) ≠ id)
 | [],k,id,h => .inr ⟨h,fun j hj => by simp at hj⟩
 | c :: r,k,id,h => by
  have rest : look (backO g H (k + 1) r) id = some b → g k ≠ id → (∃ j,∃ h : j < (c :: r).length,g (k + j) = id ∧ (c :: r)[j].isGone = false ∧ (c :: r)[j].renB g = b) ∨ (look H id = some b ∧ ∀ j,j < (c :: r).length → g (k + j) ≠ id) := by
   intro h hne
   rcases zlu r (k + 1) id h with ⟨j,hj,h1,h2⟩ | ⟨h1,h2⟩
   ·exact .inl ⟨j + 1,by simpa using hj,by rw [← h1]; congr 1; omega,h2⟩
   ·refine .inr ⟨h1,fun j hj => ?_⟩
    cases j with
    | zero => exact hne
    | succ j => have := h2 j (by simpa using hj); rw [show k + (j + 1) = k + 1 + j by omega]; exact this
  simp only [backO] at h
  cases hg : c.isGone with
  | true =>
   rw [hg] at h
   simp only [cond_true,zfh] at h
   split at h
   ·cases h
   ·rename_i hne; exact rest h hne
  | false =>
   rw [hg] at h
   simp only [cond_false,zax] at h
   split at h
   ·rename_i he
    injection h with h
    exact .inl ⟨0,by simp,he,hg,h⟩
   ·rename_i hne; exact rest h hne
end Ax
end Go.Proofs.Ytdfgfdcfcdgadaa
namespace Go.Proofs.Ytdfgfdcfcdgadaa
namespace Ax
theorem znt {w : World} {loc : Loc} {blk : Blk} {b : Nat} (h : Lies w loc blk b) : ∀ id ∈ blk.idsB,loc.m id ≠ .free := by
 intro id hid
 cases hc : blk.closed with
 | true => unfold Blk.idsB at hid; rw [hc] at hid; simp at hid
 | false =>
  obtain ⟨y,hy,hyi⟩ := (zuw hc).2 hid
  obtain ⟨j,hj,rfl⟩ := List.getElem_of_mem hy
  obtain ⟨cur,e,fz,_,_,_,q4,q5⟩ := h.lies (yjd hy)
  exact zdv _ _ (q5 j hj (by omega)).2 hyi
theorem zqz {P : Program} {w0 : World} {E : Nat → Prop} {w : World} {loc : Loc} {H : Heap} (he : Env w0 E w loc) (hh : HR w loc H) {nm : Nat} (hfree : ∀ id,nm ≤ id → id < nm + 8 → loc.m id = .free) {SO : zal} (hS : ∀ f s,SO f = some s → zfr P f s) {f : FuncId} {args : List AV} {vs : List Value}
  (hlen : args.length = vs.length) (hargs : ∀ (j : Nat) (h : j < args.length) (h' : j < vs.length),R w loc args[j] vs[j]) (hp : (aOpen SO nm f args H).p) :
  Calls P f vs.toArray w fun e w' => ∃ v loc',e = .returned v ∧ Post w0 E w loc true nm (aOpen SO nm f args H).x (aOpen SO nm f args H).H v w' loc' := by
 unfold aOpen at hp ⊢
 cases hsf : SO f with
 | none => simp [hsf,bad] at hp
 | some spec =>
  simp only [hsf,openOut] at hp ⊢
  generalize reach H 12 [] (idsL args) = ids at *
  obtain ⟨⟨hnd,hwalk,hain,hpin⟩,hsp,hb1,hb2⟩ := hp
  have hndp := zee hnd
  have live := zta hh ids _ hwalk (fun id hid => sidsLH_firm hh args vs hlen hargs hid)
  have hlk : ∀ id ∈ ids,look H id ≠ none := fun id hid => by
   obtain ⟨b,blk,_,h,_⟩ := live id hid; rw [h]; simp
  obtain ⟨hpl,hpg⟩ := ztp (H := H) (g := idxOf ids) hlk
  generalize hpins : pinsR H (idxOf ids) ids = pins at *
  let blockOf : Nat → Nat := fun id => match loc.m id with | .here b => b | _ => 0
  have hblk : ∀ id ∈ ids,loc.m id = .here (blockOf id) := by
   intro id hid
   obtain ⟨b,_,hb,_⟩ := live id hid
   simp only [blockOf,hb]
  have hpb : PB loc ids (ids.map blockOf) := ⟨by simp,fun k a b => by simpa using hblk _ (List.getElem_mem a)⟩
  have hpbn : (ids.map blockOf).Nodup := by
   refine List.pairwise_map.2 (hndp.imp_of_mem ?_)
   intro a b ha hb hab hq
   exact hab (he.inj a b _ (hblk a ha) (by rw [hq]; exact hblk b hb))
  generalize hpbe : ids.map blockOf = pb at *
  have hpbl : pb.length = ids.length := hpb.len
  have hmemMut : ∀ b,b ∈ pb → Mut loc b := fun b hb => by obtain ⟨id,_,h⟩ := hpb.mem hb; exact .inr ⟨id,h⟩
  let bad' : Nat → Prop := fun b => Mut loc b ∧ ¬ b ∈ pb
  have hbad' : ∀ b,bad' b → Mut loc b := fun b h => h.1
  have hmutlt : ∀ b,Mut loc b → b < w.heap.size := by
   rintro b (h | ⟨k,h⟩)
   ·have := (he.bad b h).1; have := he.size; omega
   ·exact (he.lies k b h).1
  have hMl : ∀ b,b < w.heap.size → Mut (zbf pb bad') b → Mut loc b := fun b _ hb => by
   rcases mut_locOf.1 hb with h | h
   ·exact hbad' b h
   ·exact hmemMut b h
  have hg0 : ∀ id ∈ ids,(zbf pb bad').m (idxOf ids id) = loc.m id := by
   intro id hid
   obtain ⟨k,hk,rfl⟩ := List.getElem_of_mem hid
   have : idxOf ids ids[k] = k := yff hndp k hk
   rw [this,hpb.at_ k hk (by omega)]
   simp only [zbf]
   rw [List.getElem?_eq_getElem (by omega : k < pb.length)]
  obtain ⟨a1,a2⟩ := zbg (idxOf ids) args
  have hargs2 : ∀ (j : Nat) (h : j < (renL (idxOf ids) args).length) (h' : j < vs.length),R w (zbf pb bad') (renL (idxOf ids) args)[j] vs[j] := by
   intro j h h'
   rw [a2 j h (by rw [← a1]; exact h)]
   exact yki hMl (hargs j (by rw [← a1]; exact h) h') (fun id hid => hg0 id (zpd hain id (idsL_mem.2 ⟨_,List.getElem_mem _,hid⟩)))
  have hpinlies : ∀ (k : Nat) (h : k < pins.length) (h' : k < pb.length),pins[k].ok ∧ Lies w (zbf pb bad') pins[k] pb[k] := by
   intro k h h'
   have hki : k < ids.length := by omega
   obtain ⟨b,blk,q1,q2,q3,q4⟩ := live ids[k] (List.getElem_mem hki)
   have h5 := hpb.at_ k hki h'
   rw [q1] at h5; injection h5 with h5; subst h5
   rw [hpg k hki h blk q2]
   exact ⟨zww q3,ztz hMl (fun id hid => hg0 id (zqd hpin _ (List.getElem_mem hki) blk q2 id hid)) q4⟩
  have hcall := hS f spec hsf _ pins hsp w bad' pb vs (by omega) hpbn (fun b h => ⟨hmutlt b h.1,h.2⟩) hpinlies (by rw [a1,hlen]) hargs2
  refine hcall.mono ?_
  rintro e w' ⟨v,loc',rfl,hg⟩
  generalize hres : spec (renL (idxOf ids) args) pins = res at *
  classical
  let loc2 : Loc := { m := fun id => if nm ≤ id ∧ id < nm + 8 then loc'.m (ids.length + (id - nm)) else if id ∈ ids then loc'.m (idx id ids) else loc.m id,bad := loc.bad }
  have hidsr : ∀ id ∈ ids,¬ (nm ≤ id ∧ id < nm + 8) := by
   intro id hid h
   have := hfree id h.1 h.2
   rw [hblk id hid] at this; cases this
  have h2new : ∀ k,ids.length ≤ k → k < ids.length + 8 → loc2.m (nm + (k - ids.length)) = loc'.m k := by
   intro k a b
   simp only [loc2]
   rw [if_pos (by omega)]
   congr 1; omega
  have h2pin : ∀ (k : Nat) (hk : k < ids.length),loc2.m ids[k] = loc'.m k := by
   intro k hk
   simp only [loc2]
   rw [if_neg (hidsr _ (List.getElem_mem hk)),if_pos (List.getElem_mem hk),yff hndp k hk]
  have h2old : ∀ id,¬ (nm ≤ id ∧ id < nm + 8) → ¬ id ∈ ids → loc2.m id = loc.m id := fun id h h' => by
   simp only [loc2]; rw [if_neg h,if_neg h']
  have hblt : ∀ k,loc'.m k ≠ .free → k < res.bl.length := by
   intro k hk
   rcases Nat.lt_or_ge k res.bl.length with h | h
   ·exact h
   ·exact (hk (hg.none k h)).elim
  have hgm : ∀ k,loc'.m k ≠ .free → loc2.m (gOf ids nm k) = loc'.m k := by
   intro k hk
   by_cases hki : k < ids.length
   ·rw [zel hki,h2pin k hki]
   ·have := hblt k hk
    rw [zdr (by omega)]
    exact h2new k (by omega) (by omega)
  -- what a name stands for
  have hcase : ∀ i b,loc2.m i = .here b → (∃ k,loc'.m k = .here b ∧ i = gOf ids nm k) ∨ (¬ i ∈ ids ∧ ¬ (nm ≤ i ∧ i < nm + 8) ∧ loc.m i = .here b) := by
   intro i b h
   by_cases hr : nm ≤ i ∧ i < nm + 8
   ·simp only [loc2] at h
    rw [if_pos hr] at h
    exact .inl ⟨_,h,by rw [zdr (by omega)]; omega⟩
   ·by_cases hi : i ∈ ids
    ·obtain ⟨k,hk,rfl⟩ := List.getElem_of_mem hi
     rw [h2pin k hk] at h
     exact .inl ⟨k,h,by rw [zel hk]⟩
    ·exact .inr ⟨hi,hr,by rw [← h2old i hr hi]; exact h⟩
  have hwhere : ∀ k b,loc'.m k = .here b → (b ∈ pb ∨ w.heap.size ≤ b) ∧ b < w'.heap.size := by
   intro k b h
   by_cases hk : k < pb.length
   ·rcases hg.old k hk with h1 | h1
    ·rw [h] at h1; injection h1 with h1; subst h1
     refine ⟨.inl (List.getElem_mem hk),?_⟩
     have := hmutlt _ (hmemMut _ (List.getElem_mem hk))
     have := hg.fram.size
     omega
    ·rw [h] at h1; cases h1
   ·obtain ⟨h1,h2⟩ := hg.new k b (by omega) h
    exact ⟨h1.symm,h2⟩
  have hnotpb : ∀ i b,¬ i ∈ ids → loc.m i = .here b → ¬ b ∈ pb := by
   intro i b hi h hb
   obtain ⟨id',hid',hb'⟩ := hpb.mem hb
   exact hi (he.inj i id' b h hb' ▸ hid')
  have hbadpb : ∀ b,loc.bad b → ¬ b ∈ pb := by
   intro b h hb
   obtain ⟨id',_,hb'⟩ := hpb.mem hb
   have h1 := he.bad b h
   rcases (he.lies id' b hb').2 with h2 | h2
   ·omega
   ·exact h1.2 h2
  have hM : ∀ b,b < w'.heap.size → Mut loc2 b → Mut loc' b := by
   rintro b _ (h | ⟨i,h⟩)
   ·left
    rw [hg.bad]
    exact ⟨.inl h,hbadpb b h⟩
   ·rcases hcase i b h with ⟨k,h1,_⟩ | ⟨h1,h2,h3⟩
    ·exact .inr ⟨k,h1⟩
    ·left
     rw [hg.bad]
     exact ⟨.inr ⟨i,h3⟩,hnotpb i b h1 h3⟩
  have hwsz := hg.fram.size
  have hext : Ext (fun id => id ∈ ids) w loc w' loc2 := by
   refine ⟨hwsz,fun id h hC => h2old id (fun hq => h (hfree id hq.1 hq.2)) hC,fun id h hC => ?_,fun b hb hm => ⟨?_,fun h => ?_⟩,fun id b hb hC => ?_,fun b cur e fz hc => ?_⟩
   ·obtain ⟨k,hk,rfl⟩ := List.getElem_of_mem hC
    rw [h2pin k hk,hpb.at_ k hk (by omega)]
    exact hg.old k (by omega)
   ·exact hg.fram.same b hb (fun h => hm (hmemMut b h))
   ·rcases h with h | ⟨i,h⟩
    ·exact hm (.inl h)
    ·rcases hcase i b h with ⟨k,h1,_⟩ | ⟨_,_,h3⟩
     ·rcases (hwhere k b h1).1 with h2 | h2
      ·exact hm (hmemMut b h2)
      ·omega
     ·exact hm (.inr ⟨i,h3⟩)
   ·exact hg.fram.same b (he.lies id b hb).1 (hnotpb id b hC hb)
   ·by_cases hbp : b ∈ pb
    ·exact hg.fram.shape b cur e fz hbp hc
    ·exact ⟨cur,fz,(hg.fram.same b (Array.getElem?_eq_some_iff.1 hc).1 hbp).trans hc,rfl⟩
  have hr : R w' loc2 (res.x.ren (gOf ids nm)) v := ztk hgm hg.r (.inr hM)
  have hh2 : HR w' loc2 (backO (gOf ids nm) H 0 res.bl) := by
   intro id b hb
   rcases zlu res.bl 0 id hb with ⟨j,hj,h1,h2,h3⟩ | ⟨h1,h2⟩
   ·rw [Nat.zero_add] at h1
    rcases hg.bl j hj with ⟨k1,_⟩ | ⟨k1,k2,k3⟩
    ·rw [k1] at h2; cases h2
    ·have := hgm j k2
     rw [h1] at this
     unfold BlkR at k1 ⊢
     rw [this,← h3]
     cases hloc : loc'.m j with
     | free => trivial
     | dead => exact (k3 hloc).elim
     | nil => rw [hloc] at k1; exact ⟨zww k1.1,by rw [zzc]; exact k1.2⟩
     | here c => rw [hloc] at k1; exact ⟨zww k1.1,ztz hM (fun id' hid' => hgm id' (znt k1.2 id' hid')) k1.2⟩
   ·have hni : ¬ id ∈ ids := by
     intro hid
     obtain ⟨k,hk,rfl⟩ := List.getElem_of_mem hid
     refine h2 k (by omega) ?_
     rw [Nat.zero_add,zel hk]
    by_cases hfr : loc.m id = .free
    ·by_cases hk : nm ≤ id ∧ id < nm + 8
     ·have hnone : loc'.m (ids.length + (id - nm)) = .free := by
       refine hg.none _ ?_
       rcases Nat.lt_or_ge (ids.length + (id - nm)) res.bl.length with h | h
       ·exfalso
        refine h2 _ h ?_
        rw [Nat.zero_add,zdr (by omega)]; omega
       ·exact h
      exact BlkR.free (by simp only [loc2]; rw [if_pos hk]; exact hnone)
     ·exact BlkR.free (by rw [h2old id hk hni]; exact hfr)
    ·exact (hh id b h1).ext hext hni hfr
  have hE9 : ∀ id b,id ∈ ids → loc.m id = .here b → b < w'.heap.size ∧ (w0.heap.size ≤ b ∨ E b) := by
   intro id b _ h
   have := he.lies id b h
   exact ⟨by omega,this.2⟩
  have henv : Env w0 E w' loc2 := by
   refine ⟨hg.fram.os.trans he.os,hg.fram.tape.trans he.tape,hg.fram.output.trans he.output,by have := he.size; omega,fun b hb hE => ?_,?_,?_,he.bad⟩
   ·rw [hg.fram.same b (by have := he.size; omega) (fun h => ?_)]
    ·exact he.same b hb hE
    ·obtain ⟨id,_,hid⟩ := hpb.mem h
     rcases (he.lies id b hid).2 with h | h
     ·omega
     ·exact hE h
   ·intro i j b hi hj
    rcases hcase i b hi with ⟨k1,h1,e1⟩ | ⟨h1,_,h3⟩
    ·rcases hcase j b hj with ⟨k2,h2,e2⟩ | ⟨h2,_,h4⟩
     ·have := hg.inj k1 k2 b h1 h2
      rw [e1,e2,this]
     ·exfalso
      rcases (hwhere k1 b h1).1 with h5 | h5
      ·exact hnotpb j b h2 h4 h5
      ·have := (he.lies j b h4).1; omega
    ·rcases hcase j b hj with ⟨k2,h2,e2⟩ | ⟨h2,_,h4⟩
     ·exfalso
      rcases (hwhere k2 b h2).1 with h5 | h5
      ·exact hnotpb i b h1 h3 h5
      ·have := (he.lies i b h3).1; omega
     ·exact he.inj i j b h3 h4
   ·intro i b hi
    rcases hcase i b hi with ⟨k1,h1,_⟩ | ⟨_,_,h3⟩
    ·obtain ⟨h5,h6⟩ := hwhere k1 b h1
     refine ⟨h6,?_⟩
     rcases h5 with h5 | h5
     ·obtain ⟨id,_,hid⟩ := hpb.mem h5
      exact (he.lies id b hid).2
     ·exact .inl (by have := he.size; omega)
    ·have := he.lies i b h3
     exact ⟨by omega,this.2⟩
  have hfresh : ∀ id,loc.m id = .free → loc2.m id ≠ .free → nm ≤ id ∧ id < nm + 8 := by
   intro id h1 h2
   by_cases hk : nm ≤ id ∧ id < nm + 8
   ·exact hk
   ·refine (h2 ?_).elim
    rw [h2old id hk (fun hid => by rw [hblk id hid] at h1; cases h1)]
    exact h1
  exact ⟨v,loc2,rfl,⟨hr,hh2,henv,⟨_,hext,fun h => by cases h⟩,hfresh,rfl⟩⟩
end Ax
end Go.Proofs.Ytdfgfdcfcdgadaa
namespace Go.Proofs.Ytdfgfdcfcdgadaa
namespace Ax
open Go.RowKit
def idsAt (H : Heap) (id : Nat) : List Nat := match look H id with
 | some b => b.idsB
 | none => []
def idsAtL (H : Heap) : List Nat → List Nat
 | [] => []
 | id :: r => idsAt H id ++ idsAtL H r
def reachE (H : Heap) : Nat → List Nat → List Nat → List Nat
 | 0,acc,_ => acc
 | _ + 1,acc,[] => acc
 | n + 1,acc,id :: r => bif acc.contains id then reachE H n acc r else reachE H n (acc ++ [id]) (r ++ idsAt H id)
def endIds (H : Heap) (pins : List Blk) (x : AV) : List Nat := reachE H 12 (upTo 0 pins) (x.ids ++ idsAtL H (upTo 0 pins))
def walkI (H : Heap) : List Nat → List Nat → Bool
 | _,[] => true
 | good,id :: r => good.contains id && walkI H (good ++ idsAt H id) r
def matchE (g : Nat → Nat) (H : Heap) : Nat → List Nat → List Blk → Prop
 | _,[],[] => True
 | m,id :: r,b :: bl => (match look H id with
  | some c => b.isGone = false ∧ b.renB g = c
  | none => 0 < m ∧ b = gone) ∧ matchE g H (m - 1) r bl
 | _,_,_ => False
def EndsXO (pins : List Blk) (q : Res) (x : AV) (σ : ASt) : Prop :=
 nodup (endIds σ.H pins x) = true ∧ (endIds σ.H pins x).take pins.length = upTo 0 pins ∧ walkI σ.H (upTo 0 pins ++ x.ids) (endIds σ.H pins x) = true ∧
  matchE (gOf (endIds σ.H pins x) σ.nx) σ.H pins.length (endIds σ.H pins x) q.bl ∧ q.x.ren (gOf (endIds σ.H pins x) σ.nx) = x
def ymm (T : zac) (rs : List ResultVar) (pins : List Blk) (q : Res) : Exit → ASt → Prop
 | .normal,σ => (rvals T σ.H σ.sl rs).1 ∧ EndsXO pins q (rone (rvals T σ.H σ.sl rs).2) σ
 | .ret,σ => (rvals T σ.H σ.sl rs).1 ∧ EndsXO pins q (rone (rvals T σ.H σ.sl rs).2) σ
 | _,_ => False
def ykr (T : zac) (rs : List ResultVar) (pins : List Blk) (q : Res) : Exit → ASt → Prop := fun e σ => ∃ σ',Weak σ σ' ∧ ymm T rs pins q e σ'
theorem zzk {b : Blk} (h : b.len = 0) : b.idsB = [] := by
 unfold Blk.idsB
 cases hc : b.closed with
 | true => rfl
 | false =>
  cases b with
  | g s xs =>
   have : xs = [] := List.eq_nil_of_length_eq_zero h
   subst this; rfl
  | _ => rfl
theorem zpx {w : World} {loc : Loc} {H : Heap} (hh : HR w loc H) : ∀ (ids good : List Nat),walkI H good ids = true → (∀ id ∈ good,loc.m id ≠ .free) → ∀ id ∈ ids,loc.m id ≠ .free
 | [],_,_,_,id,hid => by simp at hid
 | k :: r,good,hw,hg,id,hid => by
  simp only [walkI,Bool.and_eq_true] at hw
  have hk : k ∈ good := List.contains_iff_mem.1 hw.1
  rcases List.mem_cons.1 hid with rfl | hid
  ·exact hg _ hk
  ·refine zpx hh r _ hw.2 (fun id' hid' => ?_) id hid
   rcases List.mem_append.1 hid' with h | h
   ·exact hg id' h
   ·unfold idsAt at h
    cases hl : look H k with
    | none => rw [hl] at h; simp at h
    | some b =>
     rw [hl] at h
     simp only at h
     obtain ⟨hok,⟨_,e⟩ | ⟨c,hc,hlies⟩⟩ := hh.get hl (hg k hk)
     ·rw [zzk e] at h; simp at h
     ·exact znt hlies id' h
theorem zqg {g : Nat → Nat} {H : Heap} : ∀ {m : Nat} {ids : List Nat} {bl : List Blk},matchE g H m ids bl → bl.length = ids.length ∧ ∀ (k : Nat) (h : k < ids.length) (h' : k < bl.length),(∃ c,look H ids[k] = some c ∧ bl[k].isGone = false ∧ bl[k].renB g = c) ∨ (look H ids[k] = none ∧ k < m ∧ bl[k] = gone)
 | m,[],[],_ => ⟨rfl,fun k h => by simp at h⟩
 | m,[],_ :: _,h => h.elim
 | m,_ :: _,[],h => h.elim
 | m,id :: r,b :: bl,h => by
  simp only [matchE] at h
  obtain ⟨h1,h2⟩ := zqg h.2
  refine ⟨by simp [h1],fun k a a' => ?_⟩
  cases k with
  | zero =>
   simp only [List.getElem_cons_zero]
   cases hl : look H id with
   | none => rw [hl] at h; exact .inr ⟨rfl,h.1.1,h.1.2⟩
   | some c => rw [hl] at h; exact .inl ⟨c,rfl,h.1.1,h.1.2⟩
  | succ k =>
   simp only [List.getElem_cons_succ]
   rcases h2 k (by simpa using a) (by simpa using a') with h3 | ⟨h3,h4,h5⟩
   ·exact .inl h3
   ·exact .inr ⟨h3,by omega,h5⟩
theorem ztt {g : Nat → Nat} {b : Blk} (h : (b.renB g).ok) : b.ok := by
 unfold Blk.renB at h
 cases hc : b.closed with
 | true => rw [hc] at h; exact h
 | false => rw [hc] at h; exact yem h
theorem zxa {w : World} {loc loc2 : Loc} {g : Nat → Nat} (hg : ∀ k,loc2.m k = loc.m (g k)) (hb : loc2.bad = loc.bad) {blk : Blk} {b : Nat} (h : Lies w loc (blk.renB g) b) : Lies w loc2 blk b := by
 unfold Blk.renB at h
 cases hc : blk.closed with
 | true =>
  rw [hc] at h
  refine zfi h hc (.inr ?_)
  rintro c _ (h | ⟨i,h⟩)
  ·exact .inl (hb ▸ h)
  ·exact .inr ⟨g i,(hg i) ▸ h⟩
 | false => rw [hc] at h; exact zqi hg hb h
theorem ybs {P : Program} {T : zac} (hT : TOk P T) {f : FuncId} {fn : Func} {c : Code} (hf : P.funcs[f]? = some fn) (hb : fn.body = some c) {spec : zcc} {Qp : List AV → List Blk → Exit → ASt → Prop}
  (hqp : ∀ xs pins e σ,Qp xs pins e σ → ∃ σ',Weak σ σ' ∧ ymm T fn.results.toList pins (spec xs pins) e σ')
  (h : ∀ xs pins,(spec xs pins).p → pins.length ≤ 4 ∧ ∀ w0 E B a w,Rel w0 E B ⟨xs ++ List.replicate (fn.ntmps - xs.length) .junk,pinHeap 0 pins,4⟩ a w → c.wp P (Low w0 E B (Qp xs pins)) a w)   : zfr P f spec := by
 intro xs pins hp w bad pb vs hlen hnd hbad hlies hxl hx
 obtain ⟨hp4,h⟩ := h xs pins hp
 refine calls_of_wp hf hb ?_
 have hrel : Rel w (· ∈ pb) ⟨bad,pb⟩ ⟨xs ++ List.replicate (fn.ntmps - xs.length) .junk,pinHeap 0 pins,4⟩ { tmps := vs.toArray ++ Array.replicate (fn.ntmps - vs.toArray.size) undef,defers := [] } w := by
  refine ⟨zbf pb bad,⟨⟨rfl,fun k hk cur e fz hh => ⟨cur,fz,hh,rfl⟩⟩,by simp only; omega,fun k hk => .inr ⟨by simp [zbf,List.getElem?_eq_getElem hk],fun cur e fz hh => ⟨cur,fz,hh,rfl⟩⟩⟩,?_⟩
  refine ⟨by simp [hxl],fun t => ?_,?_,?_,?_,rfl,fun id b hl => ?_⟩
  ·simp only
   rw [zcf]
   by_cases ht : t < xs.length
   ·have e1 : (xs ++ List.replicate (fn.ntmps - xs.length) AV.junk).getD t .junk = xs[t] := by simp [List.getElem?_append_left,ht]
    have e2 : (vs.toArray ++ Array.replicate (fn.ntmps - vs.toArray.size) undef).getD t undef = vs[t]'(by omega) := by
     have : t < vs.length := by omega
     simp [Array.getD_eq_getD_getElem?,Array.getElem?_append,this]
    rw [e1,e2]
    exact hx t ht _
   ·have e1 : (xs ++ List.replicate (fn.ntmps - xs.length) AV.junk).getD t .junk = .junk := by
     rw [List.getD_eq_getElem?_getD,List.getElem?_append_right (by omega),List.getElem?_replicate]
     split <;> rfl
    rw [e1]; exact .junk _
  ·intro id b hl
   obtain ⟨j,hj,rfl,rfl⟩ := zbq pins 0 id b hl
   have hj' : j < pb.length := by omega
   unfold BlkR
   have : (zbf pb bad).m (0 + j) = .here pb[j] := by simp [zbf,List.getElem?_eq_getElem hj']
   rw [this]
   exact hlies j hj hj'
  ·refine ⟨rfl,rfl,rfl,Nat.le_refl _,fun _ _ _ => rfl,?_,?_,?_⟩
   ·intro i j b hi hj
    obtain ⟨h1,h2⟩ := zcx hi
    obtain ⟨h3,h4⟩ := zcx hj
    exact zch hnd (h2.trans h4.symm)
   ·intro i b hi
    obtain ⟨h1,h2⟩ := zcx hi
    subst h2
    refine ⟨?_,.inr (List.getElem_mem h1)⟩
    obtain ⟨ob,hh⟩ := zio (hlies i (by omega) h1).2
    rcases Nat.lt_or_ge pb[i] w.heap.size with h' | h'
    ·exact h'
    ·rw [Array.getElem?_eq_none h'] at hh; cases hh
   ·exact fun b hb => hbad b hb
  ·intro id hid
   simp only at hid
   have : pb[id]? = none := List.getElem?_eq_none (by omega)
   simp [zbf,this]
  ·obtain ⟨j,hj,rfl,_⟩ := zbq pins 0 id b hl
   simp; omega
 refine wp_mono (h _ _ _ _ w hrel) ?_
 have main : ∀ a w' σ,Rel w (· ∈ pb) ⟨bad,pb⟩ σ a w' → (rvals T σ.H σ.sl fn.results.toList).1 ∧ EndsXO pins (spec xs pins) (rone (rvals T σ.H σ.sl fn.results.toList).2) σ →
   a.defers = [] ∧ ∃ v,(results fn a.tmps).run P w' = .ok v w' ∧ ∃ v' loc',Ending.returned v = .returned v' ∧ yhy w bad pb (spec xs pins) v' w' loc' := by
  rintro a w' σ ⟨loc,hB,hr⟩ ⟨hrv,hnodup,htake,hwalk,hmatch,hren⟩
  obtain ⟨v,hv,hR⟩ := zht (P := P) (fn := fn) hT hr.heap hr.slots hrv
  refine ⟨hr.defers,v,hv,v,?_⟩
  generalize rone (rvals T σ.H σ.sl fn.results.toList).2 = x at hnodup htake hwalk hmatch hren hR
  have hnd' := zee hnodup
  obtain ⟨hu1,hu2⟩ := zkc pins 0
  generalize hids : endIds σ.H pins x = ids at hnodup htake hwalk hmatch hren hnd'
  obtain ⟨hml,hmg⟩ := zqg hmatch
  have hm : pins.length ≤ ids.length := by
   have := congrArg List.length htake
   rw [List.length_take,hu1] at this; omega
  have hold : ∀ k,(hk : k < pins.length) → ids[k]'(by omega) = k := by
   intro k hk
   have h1 : (ids.take pins.length)[k]'(by rw [List.length_take]; omega) = ids[k]'(by omega) := List.getElem_take
   have h2 : (ids.take pins.length)[k]'(by rw [List.length_take]; omega) = (upTo 0 pins)[k]'(by omega) := by congr 1
   rw [← h1,h2,hu2 k (by omega)]; omega
  have hpinlive : ∀ k,k < pins.length → loc.m k ≠ .free := by
   intro k hk
   have hk' : k < pb.length := by omega
   rcases hB.2.2 k hk' with h1 | ⟨h1,_⟩ <;> rw [h1] <;> simp
  have hliveAll := zpx hr.heap ids (upTo 0 pins ++ x.ids) hwalk (fun id hid => by
   rcases List.mem_append.1 hid with h | h
   ·obtain ⟨j,hj,rfl⟩ := List.getElem_of_mem h
    rw [hu2 j hj,Nat.zero_add]; exact hpinlive j (by omega)
   ·exact zdv x v hR h)
  have hlive : ∀ (k : Nat) (hk : k < ids.length),loc.m ids[k] ≠ .free := fun k hk => hliveAll _ (List.getElem_mem hk)
  classical
  -- what was given up is forgotten
  let C : Nat → Prop := fun id => id < pins.length ∧ look σ.H id = none ∧ loc.m id ≠ .free
  let loc1 : Loc := { m := fun id => if C id then .dead else loc.m id,bad := loc.bad }
  have h1out : ∀ id,¬ C id → loc1.m id = loc.m id := fun id h => by simp only [loc1]; rw [if_neg h]
  have h1in : ∀ id,C id → loc1.m id = .dead := fun id h => by simp only [loc1]; rw [if_pos h]
  have h1here : ∀ id b,loc1.m id = .here b → loc.m id = .here b ∧ ¬ C id := by
   intro id b h
   by_cases hC : C id
   ·rw [h1in id hC] at h; cases h
   ·exact ⟨by rw [← h1out id hC]; exact h,hC⟩
  have hM1 : ∀ b,Mut loc1 b → Mut loc b := by
   rintro b (h | ⟨k,h⟩)
   ·exact .inl h
   ·exact .inr ⟨k,(h1here k b h).1⟩
  have hE1 : Ext C w' loc w' loc1 := ⟨Nat.le_refl _,fun id _ h => h1out id h,fun id _ h => .inr (h1in id h),fun b _ hm => ⟨rfl,fun h => hm (hM1 b h)⟩,fun _ _ _ _ => rfl,fun _ cur _ fz h => ⟨cur,fz,h,rfl⟩⟩
  let g : Nat → Nat := gOf ids σ.nx
  have hgo : ∀ k,(hk : k < ids.length) → g k = ids[k] := fun k hk => zel hk
  have hgn : ∀ k,ids.length ≤ k → loc1.m (g k) = .free := by
   intro k hk
   have h0 : loc.m (g k) = .free := by
    refine hr.fresh _ ?_
    show σ.nx ≤ gOf _ σ.nx k
    rw [zdr hk]; omega
   rw [h1out _ (fun h => h.2.2 h0)]; exact h0
  let loc' : Loc := { m := fun k => loc1.m (g k),bad := loc.bad }
  have hlt : ∀ i b,loc'.m i = .here b → i < ids.length := by
   intro i b hi
   rcases Nat.lt_or_ge i ids.length with h' | h'
   ·exact h'
   ·have : loc'.m i = .free := hgn i h'
    rw [this] at hi; cases hi
  have hinj : ∀ i j b,loc'.m i = .here b → loc'.m j = .here b → i = j := by
   intro i j b hi hj
   have h1 := hlt i b hi
   have h2 := hlt j b hj
   have h3 : g i = g j := hr.env.inj (g i) (g j) b (h1here _ _ hi).1 (h1here _ _ hj).1
   rw [hgo i h1,hgo j h2] at h3
   exact zch hnd' h3
  refine ⟨loc',rfl,?_⟩
  refine ⟨ybc (loc := loc1) (loc2 := loc') (g := g) (fun _ => rfl) rfl (hR.ext hE1) _ hren,hB.1.1,?_,?_,?_,?_,hinj,?_⟩
  ·intro k hk
   have hk' : k < ids.length := by omega
   have e : loc'.m k = loc1.m ids[k] := by show loc1.m (g k) = _; rw [hgo k hk']
   rcases hmg k hk' hk with ⟨c,q1,q2,q3⟩ | ⟨q1,q2,q3⟩
   ·right
    have hnC : ¬ C ids[k] := fun h => by rw [h.2.1] at q1; cases q1
    have hb := hr.heap _ _ q1
    rw [e,h1out _ hnC]
    refine ⟨?_,hlive k hk',fun hd => by unfold BlkR at hb; rw [hd] at hb; exact hb⟩
    unfold BlkR at hb ⊢
    rw [e,h1out _ hnC]
    split
    ·trivial
    ·rename_i e'; rw [e'] at hb; exact hb
    ·rename_i e'; rw [e'] at hb
     rw [← q3] at hb
     exact ⟨ztt hb.1,by rw [← zzc (g := g)]; exact hb.2⟩
    ·rename_i b e'
     rw [e'] at hb
     rw [← q3] at hb
     have h9 : Lies w' loc1 ((spec xs pins).bl[k].renB g) b := by
      have := (BlkR.ext hE1 hnC (hlive k hk') (hr.heap _ _ q1))
      unfold BlkR at this
      rw [h1out _ hnC,e'] at this
      rw [q3]; exact this.2
     exact ⟨ztt hb.1,zxa (loc := loc1) (loc2 := loc') (g := g) (fun _ => rfl) rfl h9⟩
   ·left
    have hkp : k < pins.length := q2
    have hC : C ids[k] := ⟨by rw [hold k hkp]; exact hkp,q1,hlive k hk'⟩
    exact ⟨by rw [q3]; rfl,by rw [e]; exact h1in _ hC⟩
  ·intro k hk
   have hk1 : k < pins.length := by omega
   have e : loc'.m k = loc1.m k := by show loc1.m (g k) = _; rw [hgo k (by omega),hold k hk1]
   rw [e]
   by_cases hC : C k
   ·exact .inr (h1in k hC)
   ·rw [h1out k hC]
    rcases hB.2.2 k hk with h1 | ⟨h1,_⟩
    ·exact .inr h1
    ·exact .inl h1
  ·intro k b hk hkb
   have := hr.env.lies (g k) b (h1here _ _ hkb).1
   exact ⟨this.2,this.1⟩
  ·intro k hk
   exact hgn k (by omega)
  ·refine ⟨hr.env.os,hr.env.tape,hr.env.output,hr.env.size,hr.env.same,?_⟩
   rintro b cur e fz hb hh
   obtain ⟨j,hj,rfl⟩ := List.getElem_of_mem hb
   exact hB.1.2 j hj cur e fz hh
 rintro e a w' ⟨σ0,hr0,hq0⟩
 obtain ⟨σ,hwk,hq⟩ := hqp xs pins e σ0 hq0
 have hr := hwk _ _ _ _ _ hr0
 cases e with
 | normal => exact main a w' σ hr hq
 | ret => exact main a w' σ hr hq
 | _ => exact hq.elim
end Ax
end Go.Proofs.Ytdfgfdcfcdgadaa
namespace Go.Proofs.Ytdfgfdcfcdgadaa
namespace Ax
theorem zdw {xs : List AV} (j : Nat) (hj : j < xs.length) {id : Nat} (h : id ∈ xs[j].ids) : id ∈ idsL xs := by
 induction xs generalizing j with
 | nil => simp at hj
 | cons x r ih =>
  simp only [idsL,List.mem_append]
  cases j with
  | zero => exact .inl h
  | succ j => exact .inr (ih j (by simpa using hj) h)
def Loc.only (loc : Loc) (F : List Nat) : Loc :=
 { m := fun id => if id ∈ F then loc.m id else .free,bad := fun b => loc.bad b ∨ ∃ id,id ∉ F ∧ loc.m id = .here b }
theorem zfw {loc : Loc} {F : List Nat} {id : Nat} (h : id ∈ F) : (loc.only F).m id = loc.m id := by simp [Loc.only,h]
theorem zqf {loc : Loc} {F : List Nat} {id : Nat} (h : id ∉ F) : (loc.only F).m id = .free := by simp [Loc.only,h]
theorem only_mut {loc : Loc} {F : List Nat} {b : Nat} : Mut (loc.only F) b ↔ Mut loc b := by
 constructor
 ·rintro ((h | ⟨id,_,h⟩) | ⟨id,h⟩)
  ·exact .inl h
  ·exact .inr ⟨id,h⟩
  ·by_cases hF : id ∈ F
   ·rw [zfw hF] at h; exact .inr ⟨id,h⟩
   ·rw [zqf hF] at h; cases h
 ·rintro (h | ⟨id,h⟩)
  ·exact .inl (.inl h)
  ·by_cases hF : id ∈ F
   ·exact .inr ⟨id,by rw [zfw hF]; exact h⟩
   ·exact .inl (.inr ⟨id,hF,h⟩)
theorem R.agree {w : World} {loc loc' : Loc} (hM : ∀ b,b < w.heap.size → Mut loc' b → Mut loc b) {x : AV} {v : Value} (h : R w loc x v) (hq : ∀ id ∈ x.ids,loc.m id ≠ .free → loc'.m id = loc.m id) : R w loc' x v := by
 induction h with
 | w v h => exact .w v h
 | str bs => exact .str bs
 | agg xs cs hl hx _ ih => exact .agg xs cs hl hx fun j h1 h2 => ih j h1 h2 fun id hid => hq id (by simp only [AV.ids]; exact zdw j h1 hid)
 | tup xs cs hl _ ih => exact .tup xs cs hl fun j h1 h2 => ih j h1 h2 fun id hid => hq id (by simp only [AV.ids]; exact zdw j h1 hid)
 | sb bs full a cap hd hc => exact .sb bs full a cap hd (hc.move hM)
 | si ns full a cap hd hc => exact .si ns full a cap hd (hc.move hM)
 | sg s xs full a cap cs hd hs hc hl hx h1 ih => exact .sg s xs full a cap cs hd hs (hc.move hM) hl hx fun j h2 h3 => (h1 j h2 h3).move hM (hx j h2).2
 | cp ls a cs hc hn hl hx h1 ih => exact .cp ls a cs (hc.move hM) hn hl hx fun j h2 h3 => (h1 j h2 h3).move hM (hx j h2).2
 | ms id s off len v h =>
  have hf : loc.m id ≠ .free := by intro e; simp [Owns,e] at h
  have e := hq id (by simp [AV.ids]) hf
  refine .ms id s off len v ?_
  unfold Owns at h ⊢
  rw [e]; exact h
 | rf id s i f v h =>
  have hf : loc.m id ≠ .free := by intro e; simp [Points,e] at h
  have e := hq id (by simp [AV.ids]) hf
  refine .rf id s i f v ?_
  unfold Points at h ⊢
  rw [e]; exact h
 | fn f caps cs hl _ ih => exact .fn f caps cs hl fun j h1 h2 => ih j h1 h2 fun id hid => hq id (by simp only [AV.ids]; exact zdw j h1 hid)
 | junk v => exact .junk v
theorem R.only {w : World} {loc : Loc} {F : List Nat} {x : AV} {v : Value} (h : R w loc x v) (hq : ∀ id ∈ x.ids,id ∈ F) : R w (loc.only F) x v :=
 h.agree (fun b _ hb => only_mut.1 hb) fun id hid _ => zfw (hq id hid)
theorem BlkR.only {w : World} {loc : Loc} {F : List Nat} {id : Nat} {blk : Blk} (h : BlkR w loc id blk) (hF : id ∈ F) (hq : ∀ k ∈ idsL blk.flat,k ∈ F) : BlkR w (loc.only F) id blk := by
 unfold BlkR at h ⊢
 rw [zfw hF]
 split
 ·trivial
 ·rename_i e; rw [e] at h; exact h
 ·rename_i e; rw [e] at h; exact h
 ·rename_i b e
  rw [e] at h
  obtain ⟨hok,hl⟩ := h
  rcases zbi blk with ⟨x,hx,rfl⟩ | hodd
  ·exact ⟨hok,.mkO (Thing.move (fun b _ hb => only_mut.1 hb) (hl.is hx)) hx⟩
  obtain ⟨cur,el,fz,h1,h2,h3,h4,h5⟩ := hl.lies hodd
  exact ⟨hok,.mkC ⟨cur,el,fz,h1,h2,h3,h4,fun j hj hj' => ⟨(h5 j hj hj').1,(h5 j hj hj').2.only fun k hk => hq k (zdw j hj hk)⟩⟩ hodd⟩
def Loc.back (loc loc' : Loc) (F : List Nat) (nm : Nat) : Loc :=
 { m := fun id => if id ∈ F ∨ (nm ≤ id ∧ id < nm + 8) then loc'.m id else loc.m id,bad := loc.bad }
section
variable {w0 : World} {E : Nat → Prop} {w : World} {loc : Loc} {F : List Nat} {nm : Nat}
def InF (loc : Loc) (F : List Nat) (b : Nat) : Prop := ∃ id,id ∈ F ∧ loc.m id = .here b
theorem Env.only (he : Env w0 E w loc) : Env w (InF loc F) w (loc.only F) := by
 refine ⟨rfl,rfl,rfl,Nat.le_refl _,fun _ _ _ => rfl,?_,?_,?_⟩
 ·intro i j b hi hj
  by_cases h1 : i ∈ F
  ·by_cases h2 : j ∈ F
   ·rw [zfw h1] at hi; rw [zfw h2] at hj
    exact he.inj i j b hi hj
   ·rw [zqf h2] at hj; cases hj
  ·rw [zqf h1] at hi; cases hi
 ·intro i b hi
  by_cases h1 : i ∈ F
  ·rw [zfw h1] at hi
   exact ⟨(he.lies i b hi).1,.inr ⟨i,h1,hi⟩⟩
  ·rw [zqf h1] at hi; cases hi
 ·rintro b (hb | ⟨id,hF,hb⟩)
  ·obtain ⟨h1,h2⟩ := he.bad b hb
   refine ⟨Nat.lt_of_lt_of_le h1 he.size,?_⟩
   rintro ⟨id,_,hid⟩
   rcases (he.lies id b hid).2 with h3 | h3
   ·omega
   ·exact h2 h3
  ·refine ⟨(he.lies id b hb).1,?_⟩
   rintro ⟨k,hk,hkb⟩
   exact hF (he.inj k id b hkb hb ▸ hk)
theorem Post.frame (he : Env w0 E w loc) (hfree : ∀ id,nm ≤ id → id < nm + 8 → loc.m id = .free) {wr : Bool} {x : AV} {H : Heap} {v : Value} {w' : World} {loc' : Loc}
  (hH : ∀ id b,look H id = some b → id ∈ F ∨ (nm ≤ id ∧ id < nm + 8)) (hp : Post w (InF loc F) w (loc.only F) wr nm x H v w' loc') :
  Post w0 E w loc wr nm x H v w' (loc.back loc' F nm) ∧ ∃ C : Nat → Prop,Ext C w loc w' (loc.back loc' F nm) ∧ (wr = false → ∀ id,¬ C id) ∧ ∀ id,C id → id ∈ F := by
 have hin : ∀ id,(id ∈ F ∨ (nm ≤ id ∧ id < nm + 8)) → (loc.back loc' F nm).m id = loc'.m id := fun id h => by simp [Loc.back,h]
 have hout : ∀ id,¬ (id ∈ F ∨ (nm ≤ id ∧ id < nm + 8)) → (loc.back loc' F nm).m id = loc.m id := fun id h => by simp only [Loc.back]; rw [if_neg h]
 have hnew : ∀ id,loc'.m id ≠ .free → id ∈ F ∨ (nm ≤ id ∧ id < nm + 8) := by
  intro id h
  by_cases hF : id ∈ F
  ·exact .inl hF
  ·exact .inr (hp.fresh id (zqf hF) h)
 have hseen : ∀ b,loc.bad b → ¬ InF loc F b := by
  rintro b hb ⟨id,_,hid⟩
  obtain ⟨h1,h2⟩ := he.bad b hb
  rcases (he.lies id b hid).2 with h3 | h3
  ·omega
  ·exact h2 h3
 have hmut : ∀ b,Mut (loc.back loc' F nm) b → Mut loc' b := by
  rintro b (hb | ⟨id,hid⟩)
  ·refine .inl ?_
   rw [hp.bad]; exact .inl hb
  ·by_cases h : id ∈ F ∨ (nm ≤ id ∧ id < nm + 8)
   ·rw [hin id h] at hid; exact .inr ⟨id,hid⟩
   ·rw [hout id h] at hid
    exact .inl (by rw [hp.bad]; exact .inr ⟨id,fun hF => h (.inl hF),hid⟩)
 have hr : ∀ {y : AV} {u : Value},R w' loc' y u → R w' (loc.back loc' F nm) y u := fun h => h.agree (fun b _ => hmut b) fun id _ hf => hin id (hnew id hf)
 have henv : Env w0 E w' (loc.back loc' F nm) := by
  refine ⟨hp.env.os.trans he.os,hp.env.tape.trans he.tape,hp.env.output.trans he.output,Nat.le_trans he.size hp.env.size,?_,?_,?_,?_⟩
  ·intro b hb hE
   rw [hp.env.same b (Nat.lt_of_lt_of_le hb he.size) ?_]
   ·exact he.same b hb hE
   ·rintro ⟨id,_,hid⟩
    rcases (he.lies id b hid).2 with h3 | h3
    ·omega
    ·exact hE h3
  ·have hcross : ∀ i j b,(i ∈ F ∨ (nm ≤ i ∧ i < nm + 8)) → ¬ (j ∈ F ∨ (nm ≤ j ∧ j < nm + 8)) → loc'.m i = .here b → loc.m j = .here b → False := by
    intro i j b _ hj h1 h2
    have hbad : loc'.bad b := by rw [hp.bad]; exact .inr ⟨j,fun hF => hj (.inl hF),h2⟩
    obtain ⟨h3,h4⟩ := hp.env.bad b hbad
    rcases (hp.env.lies i b h1).2 with h5 | h5
    ·omega
    ·exact h4 h5
   intro i j b hi hj
   by_cases h1 : i ∈ F ∨ (nm ≤ i ∧ i < nm + 8)
   ·rw [hin i h1] at hi
    by_cases h2 : j ∈ F ∨ (nm ≤ j ∧ j < nm + 8)
    ·rw [hin j h2] at hj
     exact hp.env.inj i j b hi hj
    ·rw [hout j h2] at hj
     exact (hcross i j b h1 h2 hi hj).elim
   ·rw [hout i h1] at hi
    by_cases h2 : j ∈ F ∨ (nm ≤ j ∧ j < nm + 8)
    ·rw [hin j h2] at hj
     exact (hcross j i b h2 h1 hj hi).elim
    ·rw [hout j h2] at hj
     exact he.inj i j b hi hj
  ·intro i b hi
   by_cases h1 : i ∈ F ∨ (nm ≤ i ∧ i < nm + 8)
   ·rw [hin i h1] at hi
    obtain ⟨h2,h3⟩ := hp.env.lies i b hi
    refine ⟨h2,?_⟩
    rcases h3 with h3 | ⟨k,_,hk⟩
    ·exact .inl (Nat.le_trans he.size h3)
    ·exact (he.lies k b hk).2
   ·rw [hout i h1] at hi
    obtain ⟨h2,h3⟩ := he.lies i b hi
    exact ⟨Nat.lt_of_lt_of_le h2 hp.env.size,h3⟩
  ·intro b hb; exact he.bad b hb
 have hext : ∃ C : Nat → Prop,Ext C w loc w' (loc.back loc' F nm) ∧ (wr = false → ∀ id,¬ C id) ∧ ∀ id,C id → id ∈ F := by
  obtain ⟨C,hE,hC⟩ := hp.ext
  have hnr : ∀ id,loc.m id ≠ .free → id ∉ F → ¬ (id ∈ F ∨ (nm ≤ id ∧ id < nm + 8)) := by
   rintro id h1 h2 (h3 | h3)
   ·exact h2 h3
   ·exact h1 (hfree id h3.1 h3.2)
  have hhid : ∀ id b,loc.m id = .here b → id ∉ F → w'.heap[b]? = w.heap[b]? := by
   intro id b h1 h2
   refine hp.env.same b (he.lies id b h1).1 ?_
   rintro ⟨k,hk,hkb⟩
   exact h2 (he.inj k id b hkb h1 ▸ hk)
  refine ⟨fun id => C id ∧ id ∈ F,⟨hE.size,?_,?_,?_,?_,?_⟩,fun h id hc => hC h id hc.1,fun id hc => hc.2⟩
  ·intro id hf hc
   by_cases hF : id ∈ F
   ·rw [hin id (.inl hF)]
    have := hE.keep id (by rw [zfw hF]; exact hf) (fun h => hc ⟨h,hF⟩)
    rw [this,zfw hF]
   ·exact hout id (hnr id hf hF)
  ·rintro id hf ⟨hc,hF⟩
   rw [hin id (.inl hF)]
   have := hE.gone id (by rw [zfw hF]; exact hf) hc
   rw [zfw hF] at this
   exact this
  ·intro b hb hm
   obtain ⟨h1,h2⟩ := hE.imm b hb (fun h => hm (only_mut.1 h))
   exact ⟨h1,fun h => h2 (hmut b h)⟩
  ·intro id b hb hc
   by_cases hF : id ∈ F
   ·exact hE.own id b (by rw [zfw hF]; exact hb) (fun h => hc ⟨h,hF⟩)
   ·exact hhid id b hb hF
  ·intro b cur e fz hh
   exact hE.shape b cur e fz hh
 refine ⟨⟨hr hp.r,?_,henv,?_,?_,rfl⟩,hext⟩
 ·intro id blk hl
  have h0 := hH id blk hl
  have h1 := hp.h id blk hl
  unfold BlkR at h1 ⊢
  rw [hin id h0]
  split
  ·trivial
  ·rename_i e; rw [e] at h1; exact h1
  ·rename_i e; rw [e] at h1; exact h1
  ·rename_i b e
   rw [e] at h1
   obtain ⟨hok,hl1⟩ := h1
   rcases zbi blk with ⟨x,hx,rfl⟩ | hodd
   ·exact ⟨hok,.mkO (Thing.move (fun b _ hb => hmut b hb) (hl1.is hx)) hx⟩
   obtain ⟨cur,el,fz,a1,a2,a3,a4,a5⟩ := hl1.lies hodd
   exact ⟨hok,.mkC ⟨cur,el,fz,a1,a2,a3,a4,fun j hj hj' => ⟨(a5 j hj hj').1,hr (a5 j hj hj').2⟩⟩ hodd⟩
 ·obtain ⟨C,h1,h2,_⟩ := hext
  exact ⟨C,h1,h2⟩
 ·intro id hf hn
  by_cases h : id ∈ F ∨ (nm ≤ id ∧ id < nm + 8)
  ·rcases h with h | h
   ·rw [hin id (.inl h)] at hn
    exact hp.fresh id (by rw [zfw h]; exact hf) hn
   ·exact h
  ·rw [hout id h] at hn; exact (hn hf).elim
end
end Ax
end Go.Proofs.Ytdfgfdcfcdgadaa
namespace Go.Proofs.Ytdfgfdcfcdgadaa
namespace Ax
def Blk.ids : Blk → List Nat
 | .g _ xs => idsL xs
 | _ => []
def keepIn (F : List Nat) : Heap → Heap
 | [] => []
 | (k,b) :: r => bif F.contains k then (k,b) :: keepIn F r else keepIn F r
def dropIn (F : List Nat) : Heap → Heap
 | [] => []
 | (k,b) :: r => bif F.contains k then dropIn F r else (k,b) :: dropIn F r
def bids : Heap → List Nat
 | [] => []
 | (_,b) :: r => b.ids ++ bids r
def footA (sl : List AV) (op : Op) : List Nat := idsL (op.operands.toList.map (ev sl))
def foot (sl : List AV) (op : Op) (H : Heap) : List Nat := footA sl op ++ bids (keepIn (footA sl op) H)
def heldB (nm : Nat) (F : List Nat) (H : Heap) : Bool := F.all (fun id => bif (look H id).isSome then true else decide (id < nm)) && (bids (keepIn F H)).all F.contains
def aopF (S : zal) (T : zac) (nm : Nat) (sl : List AV) (op : Op) (H : Heap) : Out :=
 ⟨heldB nm (foot sl op H) H = true ∧ (aop S T nm sl op (keepIn (foot sl op H) H)).p,(aop S T nm sl op (keepIn (foot sl op H) H)).x,(aop S T nm sl op (keepIn (foot sl op H) H)).H ++ dropIn (foot sl op H) H⟩
theorem zdq (A B : Heap) (id : Nat) : look (A ++ B) id = match look A id with | some b => some b | none => look B id := by
 induction A with
 | nil => rfl
 | cons p r ih =>
  obtain ⟨k,b⟩ := p
  simp only [List.cons_append,look]
  by_cases h : k = id
  ·rw [if_pos h,if_pos h]
  ·rw [if_neg h,if_neg h,ih]
theorem zdo (F : List Nat) (H : Heap) (id : Nat) : look (keepIn F H) id = if id ∈ F then look H id else none := by
 induction H with
 | nil => simp [keepIn,look]
 | cons p r ih =>
  obtain ⟨k,b⟩ := p
  by_cases hk : k ∈ F
  ·simp only [keepIn,List.contains_iff_mem.2 hk,cond_true,look]
   by_cases h : k = id
   ·subst h; simp [hk]
   ·simp [h,ih]
  ·have : F.contains k = false := by simpa using hk
   simp only [keepIn,this,cond_false,look,ih]
   by_cases h : k = id
   ·subst h; simp [hk]
   ·simp [h]
theorem zdp (F : List Nat) (H : Heap) (id : Nat) : look (dropIn F H) id = if id ∈ F then none else look H id := by
 induction H with
 | nil => simp [dropIn,look]
 | cons p r ih =>
  obtain ⟨k,b⟩ := p
  by_cases hk : k ∈ F
  ·simp only [dropIn,List.contains_iff_mem.2 hk,cond_true,look,ih]
   by_cases h : k = id
   ·subst h; simp [hk]
   ·simp [h]
  ·have : F.contains k = false := by simpa using hk
   simp only [dropIn,this,cond_false,look]
   by_cases h : k = id
   ·subst h; simp [hk]
   ·simp [h,ih]
theorem yio {H : Heap} {id : Nat} {b : Blk} (h : look H id = some b) {k : Nat} (hk : k ∈ b.ids) : k ∈ bids H := by
 induction H with
 | nil => simp [look] at h
 | cons p r ih =>
  obtain ⟨q,c⟩ := p
  simp only [look] at h
  simp only [bids,List.mem_append]
  split at h
  ·injection h with h; subst h; exact .inl hk
  ·exact .inr (ih h)
theorem ycj : ∀ (x : AV) (k : Nat),k ∈ idsL x.leaves → k ∈ x.ids := by
 intro x k h
 cases x <;> simp [AV.leaves,AV.ids,idsL] at h ⊢ <;> first | exact h | skip
theorem zxd (xs ys : List AV) : idsL (xs ++ ys) = idsL xs ++ idsL ys := by
 induction xs with
 | nil => rfl
 | cons x r ih => simp [idsL,ih]
theorem zzq {b : Blk} {k : Nat} (h : k ∈ idsL b.flat) : k ∈ b.ids := by
 cases b with
 | o x => simp [Blk.flat,idsL] at h
 | b bs =>
  exfalso
  simp only [Blk.flat] at h
  induction bs with
  | nil => simp [idsL] at h
  | cons x r ih => simp [idsL,AV.ids] at h; exact ih (by simpa using h)
 | i ns =>
  exfalso
  simp only [Blk.flat] at h
  induction ns with
  | nil => simp [idsL] at h
  | cons x r ih => simp [idsL,AV.ids] at h; exact ih (by simpa using h)
 | g s xs =>
  simp only [Blk.flat,Blk.ids] at h ⊢
  induction xs with
  | nil => simp [idsL] at h
  | cons x r ih =>
   simp only [List.flatMap_cons,zxd,List.mem_append,idsL] at h ⊢
   exact h.imp (ycj x k) ih
section
variable {S : zal} {T : zac} {nm : Nat} {sl : List AV} {op : Op} {H : Heap}
theorem ylk (h : heldB nm (foot sl op H) H = true) {id : Nat} (hF : id ∈ foot sl op H) : look H id ≠ none ∨ id < nm := by
 simp only [heldB,Bool.and_eq_true,List.all_eq_true] at h
 have := h.1 id hF
 by_cases e : look H id = none
 ·rw [e] at this; exact .inr (by simpa using this)
 ·exact .inl e
theorem zrp (hp : (aopF S T nm sl op H).p) :
  (∀ id b,look (aopF S T nm sl op H).H id = some b → look H id ≠ none ∨ (nm ≤ id ∧ id < nm + 8)) ∧
  (∀ id,(zai T op ≤ 1 ∨ id ∉ foot sl op H) → ¬ (nm ≤ id ∧ id < nm + 8) → look (aopF S T nm sl op H).H id = look H id) ∧
  (zai T op = 0 → ∀ id,look (aopF S T nm sl op H).H id = look H id) := by
 obtain ⟨hh,hp⟩ := hp
 have hn := zep hp
 have hk := fun (h : zai T op ≤ 1) => zxf h hp
 have hz : zai T op = 0 → (aop S T nm sl op (keepIn (foot sl op H) H)).H = keepIn (foot sl op H) H := fun h => (zno (H := keepIn (foot sl op H) H) h hp).2.2
 simp only [aopF]
 generalize foot sl op H = F at hh hp hn hk hz ⊢
 generalize aop S T nm sl op (keepIn F H) = out at hp hn hk hz ⊢
 refine ⟨fun id b h => ?_,fun id h hr => ?_,fun h id => ?_⟩
 ·rw [zdq] at h
  cases h1 : look out.H id with
  | some c =>
   rcases hn id c h1 with h2 | h2
   ·rw [zdo] at h2
    split at h2
    ·exact .inl h2
    ·exact (h2 rfl).elim
   ·exact .inr h2
  | none =>
   simp only [h1,zdp] at h
   split at h
   ·cases h
   ·exact .inl (by rw [h]; simp)
 ·rw [zdq]
  by_cases hF : id ∈ F
  ·have h := h.resolve_right (fun h => h hF)
   have h1 := hk h id hr
   rw [h1,zdo,if_pos hF,zdp,if_pos hF]
   cases look H id <;> rfl
  ·have h1 : look out.H id = none := by
    cases h1 : look out.H id with
    | none => rfl
    | some c =>
     rcases hn id c h1 with h2 | h2
     ·rw [zdo,if_neg hF] at h2; exact (h2 rfl).elim
     ·exact (hr h2).elim
   simp [h1,zdp,hF]
 ·rw [zdq,hz h,zdo,zdp]
  by_cases hF : id ∈ F
  ·rw [if_pos hF,if_pos hF]
   cases look H id <;> rfl
  ·rw [if_neg hF,if_neg hF]
theorem zwu {x : Operand} (hx : x ∈ op.operands.toList) {id : Nat} (h : id ∈ (ev sl x).ids) : id ∈ foot sl op H := by
 unfold foot footA
 refine List.mem_append_left _ ?_
 obtain ⟨j,hj,e⟩ := List.mem_iff_getElem.1 hx
 exact zdw j (by simpa using hj) (by simpa [e] using h)
theorem zro {P : Program} {w0 : World} {E : Nat → Prop} {w : World} {loc : Loc} (hT : TOk P T) (hS : Fns P S) (he : Env w0 E w loc) (hh : ∀ id b,id ∈ foot sl op H → look H id = some b → BlkR w loc id b) (hfree : ∀ id,nm ≤ id → id < nm + 8 → loc.m id = .free) {a : Act} {o : Oper} (ho : o.op = op)
  (hev : ∀ x ∈ op.operands.toList,R w loc (ev sl x) (a.eval x)) (hp : (aopF S T nm sl op H).p) (next : Act → World → Prop) (Q : Exit → Act → World → Prop)
  (hn : ∀ v w' loc' wr,Post w0 E w loc wr nm (aopF S T nm sl op H).x (aop S T nm sl op (keepIn (foot sl op H) H)).H v w' loc' → (∃ C : Nat → Prop,Ext C w loc w' loc' ∧ (zai T op ≤ 1 → ∀ id,¬ C id) ∧ ∀ id,C id → id ∈ foot sl op H) → next (a.put o.dst v) w') : o.wp P a w next Q := by
 subst ho
 obtain ⟨hheld,hp⟩ := hp
 have hheld' : ∀ k,k ∈ bids (keepIn (foot sl o.op H) H) → k ∈ foot sl o.op H := by
  intro k hk
  simp only [heldB,Bool.and_eq_true,List.all_eq_true] at hheld
  exact List.contains_iff_mem.1 (hheld.2 k hk)
 have hHR : HR w (loc.only (foot sl o.op H)) (keepIn (foot sl o.op H) H) := by
  intro id b hl
  have hl' := hl
  rw [zdo] at hl
  split at hl
  ·rename_i hF
   exact (hh id b hF hl).only hF fun k hk => hheld' k (yio hl' (zzq hk))
  ·cases hl
 refine zci hT hS he.only hHR (fun id h1 h2 => ?_) o (fun x hx => (hev x hx).only fun id hid => zwu hx hid) hp next Q (fun v w' loc' hpost => ?_)
 ·by_cases hF : id ∈ foot sl o.op H
  ·rw [zfw hF]; exact hfree id h1 h2
  ·exact zqf hF
 ·have hids : ∀ id b,look (aop S T nm sl o.op (keepIn (foot sl o.op H) H)).H id = some b → id ∈ foot sl o.op H ∨ (nm ≤ id ∧ id < nm + 8) := by
   intro id b hl
   rcases zep hp id b hl with h | h
   ·rw [zdo] at h
    split at h
    ·rename_i hF; exact .inl hF
    ·exact (h rfl).elim
   ·exact .inr h
  obtain ⟨h1,C,h2,h3,h4⟩ := Post.frame he hfree hids hpost
  exact hn v w' _ _ h1 ⟨C,h2,fun hk => h3 (zjp hk hp),h4⟩
end
end Ax
end Go.Proofs.Ytdfgfdcfcdgadaa
namespace Go.Proofs.Ytdfgfdcfcdgadaa
namespace Ax
def zor (ops : List Oper) (x y : Oper) : Bool :=
 (match x.dst with
  | some d => (y.looksAt ops.toArray).contains d || y.dst == some d
  | none => false) ||
 (match y.dst with
  | some d => (x.looksAt ops.toArray).contains d
  | none => false)
def zvg (T : zac) (x y : Oper) : Bool :=
 (decide (zai T x.op = 2) && !decide (zai T y.op = 0)) || (decide (zai T y.op = 2) && !decide (zai T x.op = 0))
def zha (T : zac) (ops : List Oper) (pl : List (Nat × Nat)) : Bool :=
 let ms := zgx [] ops
 (List.range ops.length).all fun j => match ops[j]? with
  | some y => zxz j y.after.toList && (List.range j).all fun i => match ops[i]? with
   | some x => (!zor ops x y || (ms.getD j 0).testBit i) && (!zvg T x y || ((ms.getD j 0).testBit i || pl.contains (i,j)))
   | none => true
  | none => true
def clearOf (a b : Nat × List Nat) : Bool := b.2.all fun id => !a.2.contains id && (decide (id < a.1) || decide (a.1 + 8 ≤ id))
def memOk (pl : List (Nat × Nat)) (acc : List (Nat × List Nat)) : Bool := pl.all fun p => match acc[p.1]?,acc[p.2]? with
 | some a,some b => clearOf a b
 | _,_ => false
def zfq (S : zal) (T : zac) (ops : List Oper) (pl : List (Nat × Nat)) (nm : Nat) (acc : List (Nat × List Nat)) : List Oper → List AV → Heap → (List AV → Heap → Prop) → Prop
 | [],sl,H,Q => memOk pl acc = true ∧ Q sl H
 | o :: r,sl,H,Q => match o.guard with
  | none => (aopF S T nm sl o.op H).p ∧ zfq S T ops pl (nm + 8) (acc ++ [(nm,foot sl o.op H)]) r (zap sl o.dst (aopF S T nm sl o.op H).x) (aopF S T nm sl o.op H).H Q
  | some (j,want) => match guardSlot ops j with
   | none => False
   | some d => match slot sl d with
    | .w (.bool b) =>
     (b = want → (aopF S T nm (setSlot sl d (.w (.bool want))) o.op H).p ∧
      zfq S T ops pl (nm + 8) (acc ++ [(nm,foot (setSlot sl d (.w (.bool want))) o.op H)]) r (zap (setSlot sl d (.w (.bool want))) o.dst (aopF S T nm (setSlot sl d (.w (.bool want))) o.op H).x) (aopF S T nm (setSlot sl d (.w (.bool want))) o.op H).H Q) ∧
     (b = !want → zfq S T ops pl (nm + 8) (acc ++ [(nm,[])]) r (zap (setSlot sl d (.w (.bool !want))) o.dst (.tup [])) H Q)
    | .tup [] => zfq S T ops pl (nm + 8) (acc ++ [(nm,[])]) r (zap sl o.dst (.tup [])) H Q
    | _ => False
def zcb (S : zal) (T : zac) (ops : List Oper) (nm : Nat) (o : Oper) (s : List AV × Heap) : Prop × (List AV × Heap) × List Nat :=
 match o.guard with
 | none => ((aopF S T nm s.1 o.op s.2).p,(zap s.1 o.dst (aopF S T nm s.1 o.op s.2).x,(aopF S T nm s.1 o.op s.2).H),foot s.1 o.op s.2)
 | some (j,want) => match guardSlot ops j with
  | none => (False,s,[])
  | some d => match slot s.1 d with
   | .w (.bool b) => if b = want then ((aopF S T nm s.1 o.op s.2).p,(zap s.1 o.dst (aopF S T nm s.1 o.op s.2).x,(aopF S T nm s.1 o.op s.2).H),foot s.1 o.op s.2) else (True,(zap s.1 o.dst (.tup []),s.2),[])
   | .tup [] => (True,(zap s.1 o.dst (.tup []),s.2),[])
   | _ => (False,s,[])
def zaj (S : zal) (T : zac) (ops : List Oper) (nm : Nat) (s0 : List AV × Heap) : Nat → List AV × Heap
 | 0 => s0
 | k + 1 => match ops[k]? with
  | some o => (zcb S T ops (nm + 8 * k) o (zaj S T ops nm s0 k)).2.1
  | none => zaj S T ops nm s0 k
def ftF (S : zal) (T : zac) (ops : List Oper) (nm : Nat) (s0 : List AV × Heap) (j : Nat) : List Nat := match ops[j]? with
 | some o => (zcb S T ops (nm + 8 * j) o (zaj S T ops nm s0 j)).2.2
 | none => []
theorem zka {S : zal} {T : zac} {l : List Oper} {pl : List (Nat × Nat)} {nm : Nat} {s0 : List AV × Heap} {Q : List AV → Heap → Prop} : ∀ (r : List Oper) (k : Nat),(∀ j,r[j]? = l[k + j]?) → k + r.length = l.length →
  zfq S T l pl (nm + 8 * k) ((List.range k).map fun j => (nm + 8 * j,ftF S T l nm s0 j)) r (zaj S T l nm s0 k).1 (zaj S T l nm s0 k).2 Q →
  (Q (zaj S T l nm s0 l.length).1 (zaj S T l nm s0 l.length).2 ∧ memOk pl ((List.range l.length).map fun j => (nm + 8 * j,ftF S T l nm s0 j)) = true) ∧ ∀ j o,k ≤ j → l[j]? = some o → (zcb S T l (nm + 8 * j) o (zaj S T l nm s0 j)).1
 | [],k,hr,hl,h => by
  simp at hl
  subst hl
  refine ⟨⟨h.2,h.1⟩,fun j o hj ho => ?_⟩
  rw [List.getElem?_eq_none hj] at ho; cases ho
 | o :: r,k,hr,hl,h => by
  have ho : l[k]? = some o := by simpa using (hr 0).symm
  have hr' : ∀ j,r[j]? = l[k + 1 + j]? := fun j => by have := hr (j + 1); simpa [Nat.add_assoc,Nat.add_comm 1 j] using this
  have hl' : k + 1 + r.length = l.length := by simp at hl; omega
  have hmain : (zcb S T l (nm + 8 * k) o (zaj S T l nm s0 k)).1 ∧ zfq S T l pl (nm + 8 * (k + 1)) ((List.range (k + 1)).map fun j => (nm + 8 * j,ftF S T l nm s0 j)) r (zaj S T l nm s0 (k + 1)).1 (zaj S T l nm s0 (k + 1)).2 Q := by
   have e : zaj S T l nm s0 (k + 1) = (zcb S T l (nm + 8 * k) o (zaj S T l nm s0 k)).2.1 := by simp only [zaj,ho]
   have e2 : ((List.range (k + 1)).map fun j => (nm + 8 * j,ftF S T l nm s0 j)) = ((List.range k).map fun j => (nm + 8 * j,ftF S T l nm s0 j)) ++ [(nm + 8 * k,(zcb S T l (nm + 8 * k) o (zaj S T l nm s0 k)).2.2)] := by
    rw [List.range_succ,List.map_append]
    simp only [List.map_cons,List.map_nil,ftF,ho]
   rw [e,e2,show nm + 8 * (k + 1) = nm + 8 * k + 8 by omega]
   generalize ((List.range k).map fun j => (nm + 8 * j,ftF S T l nm s0 j)) = acc at h ⊢
   generalize zaj S T l nm s0 k = s at h ⊢
   unfold zfq at h
   unfold zcb
   cases hg : o.guard with
   | none => simp only [hg] at h ⊢; exact h
   | some g =>
    obtain ⟨j,want⟩ := g
    simp only [hg] at h ⊢
    cases hgs : guardSlot l j with
    | none => simp only [hgs] at h
    | some d =>
     simp only [hgs] at h ⊢
     split at h
     ·rename_i b hsd
      try simp only [hsd]
      have hsame : ∀ b',b = b' → setSlot s.1 d (.w (.bool b')) = s.1 := by
       rintro b' rfl
       have := zfs s.1 d
       rw [hsd] at this; exact this
      by_cases hbw : b = want
      ·have h := h.1 hbw
       rw [hsame _ hbw] at h
       rw [if_pos hbw]; exact h
      ·have hb2 : b = !want := by cases b <;> cases want <;> simp_all
       have h := h.2 hb2
       rw [hsame _ hb2] at h
       rw [if_neg hbw]; exact ⟨trivial,h⟩
     ·rename_i hsd
      try simp only [hsd]
      exact ⟨trivial,h⟩
     ·exact h.elim
  obtain ⟨h1,h2⟩ := zka r (k + 1) hr' hl' hmain.2
  refine ⟨h1,fun j o' hj ho' => ?_⟩
  rcases Nat.lt_or_ge k j with h' | h'
  ·exact h2 j o' h' ho'
  ·obtain rfl : j = k := by omega
   rw [ho] at ho'; injection ho' with ho'; subst ho'
   exact hmain.1
section
variable {S : zal} {T : zac} {l : List Oper} {nm : Nat} {s0 : List AV × Heap}
theorem zda {k : Nat} {o : Oper} {s : List AV × Heap} (hp : (zcb S T l (nm + 8 * k) o s).1) :
  (∃ x,(zcb S T l (nm + 8 * k) o s).2.1.1 = zap s.1 o.dst x) ∧
  (∀ id b,look (zcb S T l (nm + 8 * k) o s).2.1.2 id = some b → look s.2 id ≠ none ∨ (nm + 8 * k ≤ id ∧ id < nm + 8 * k + 8)) ∧
  (∀ id,(zai T o.op ≤ 1 ∨ id ∉ (zcb S T l (nm + 8 * k) o s).2.2) → ¬ (nm + 8 * k ≤ id ∧ id < nm + 8 * k + 8) → look (zcb S T l (nm + 8 * k) o s).2.1.2 id = look s.2 id) ∧
  (zai T o.op = 0 → ∀ id,look (zcb S T l (nm + 8 * k) o s).2.1.2 id = look s.2 id) ∧
  (∀ id,id ∈ (zcb S T l (nm + 8 * k) o s).2.2 → look s.2 id ≠ none ∨ id < nm + 8 * k) := by
 have hheld : (aopF S T (nm + 8 * k) s.1 o.op s.2).p → ∀ id,id ∈ foot s.1 o.op s.2 → look s.2 id ≠ none ∨ id < nm + 8 * k := fun hp id hid => ylk hp.1 hid
 have hskip : ∀ id b,look s.2 id = some b → look s.2 id ≠ none ∨ (nm + 8 * k ≤ id ∧ id < nm + 8 * k + 8) := fun id b h => .inl (by rw [h]; simp)
 unfold zcb at hp ⊢
 cases hg : o.guard with
 | none =>
  simp only [hg] at hp ⊢
  obtain ⟨h1,h2,h3⟩ := zrp hp
  exact ⟨⟨_,rfl⟩,h1,h2,h3,hheld hp⟩
 | some g =>
  obtain ⟨j,want⟩ := g
  simp only [hg] at hp ⊢
  cases hgs : guardSlot l j with
  | none => simp [hgs] at hp
  | some d =>
   simp only [hgs] at hp ⊢
   cases hsd : slot s.1 d with
   | w v =>
    cases v with
    | bool b =>
     simp only [hsd] at hp ⊢
     by_cases hbw : b = want
     ·rw [if_pos hbw] at hp ⊢
      obtain ⟨h1,h2,h3⟩ := zrp hp
      exact ⟨⟨_,rfl⟩,h1,h2,h3,hheld hp⟩
     ·rw [if_neg hbw] at hp ⊢
      exact ⟨⟨_,rfl⟩,hskip,fun _ _ _ => by first | rfl | trivial,fun _ _ => by first | rfl | trivial,fun id h => by simp at h⟩
    | _ => simp [hsd] at hp
   | tup xs =>
    cases xs with
    | nil =>
     simp only [hsd] at hp ⊢
     exact ⟨⟨_,rfl⟩,hskip,fun _ _ _ => by first | rfl | trivial,fun _ _ => by first | rfl | trivial,fun id h => by simp at h⟩
    | cons _ _ => simp [hsd] at hp
   | _ => simp [hsd] at hp
variable (hst : ∀ j o,l[j]? = some o → (zcb S T l (nm + 8 * j) o (zaj S T l nm s0 j)).1)
include hst
theorem zcj (k : Nat) : (zaj S T l nm s0 k).1.length = s0.1.length := by
 induction k with
 | zero => rfl
 | succ k ih =>
  simp only [zaj]
  split
  ·rename_i o ho
   obtain ⟨⟨x,hx⟩,_⟩ := zda (hst k o ho)
   rw [hx,zdu,ih]
  ·exact ih
theorem zjg {t : Tmp} {i k : Nat} (hik : i ≤ k) (h : ∀ j o,i ≤ j → j < k → l[j]? = some o → o.dst ≠ some t) : slot (zaj S T l nm s0 k).1 t = slot (zaj S T l nm s0 i).1 t := by
 induction k with
 | zero => obtain rfl : i = 0 := by omega
           rfl
 | succ k ih =>
   by_cases hk : i = k + 1
   · rw [hk]
   · rw [← ih (by omega) (fun j o h1 h2 h3 => h j o h1 (by omega) h3)]
     simp only [zaj]
     split
     · rename_i o ho
       obtain ⟨⟨x,hx⟩,_⟩ := zda (hst k o ho)
       rw [hx]
       have := h k o (by omega) (by omega) ho
       cases hd : o.dst with
       | none => rfl
       | some d => exact zbx (fun e => this (by rw [hd,e]))
     · rfl
theorem zbv (h0 : ∀ id b,look s0.2 id = some b → id < nm) : ∀ k id b,look (zaj S T l nm s0 k).2 id = some b → id < nm + 8 * k
 | 0,id,b,h => by simpa using h0 id b h
 | k + 1,id,b,h => by
  simp only [zaj] at h
  split at h
  ·rename_i o ho
   obtain ⟨_,hn,_⟩ := zda (hst k o ho)
   rcases hn id b h with h' | h'
   ·cases h2 : look (zaj S T l nm s0 k).2 id with
    | none => exact (h' h2).elim
    | some c => have := zbv h0 k id c h2; omega
   ·omega
  ·have := zbv h0 k id b h; omega
theorem zwn {id i k : Nat} (hik : i ≤ k) {b : Blk} (hl : look (zaj S T l nm s0 k).2 id = some b) :
   look (zaj S T l nm s0 i).2 id ≠ none ∨ ∃ j o,i ≤ j ∧ j < k ∧ l[j]? = some o ∧ zai T o.op ≠ 0 ∧ nm + 8 * j ≤ id ∧ id < nm + 8 * j + 8 := by
 induction k generalizing b with
 | zero => obtain rfl : i = 0 := by omega
           exact .inl (by rw [hl]; simp)
 | succ k ih =>
   by_cases hk : i = k + 1
   · subst hk; exact .inl (by rw [hl]; simp)
   · simp only [zaj] at hl
     split at hl
     · rename_i o ho
       obtain ⟨_,hn,_,h0,_⟩ := zda (hst k o ho)
       by_cases hz : zai T o.op = 0
       · rw [h0 hz] at hl
         rcases ih (by omega) hl with h | ⟨j,o,h1,h2,h3⟩
         · exact .inl h
         · exact .inr ⟨j,o,h1,by omega,h3⟩
       rcases hn id b hl with h' | h'
       · cases h2 : look (zaj S T l nm s0 k).2 id with
         | none => exact (h' h2).elim
         | some c =>
           rcases ih (by omega) h2 with h | ⟨j,o,h1,h2,h3⟩
           · exact .inl h
           · exact .inr ⟨j,o,h1,by omega,h3⟩
       · exact .inr ⟨k,o,by omega,by omega,ho,hz,h'⟩
     · rcases ih (by omega) hl with h | ⟨j,o,h1,h2,h3⟩
       · exact .inl h
       · exact .inr ⟨j,o,h1,by omega,h3⟩
theorem zgv {id i k : Nat} (hik : i ≤ k) (hn : ∀ j o,i ≤ j → j < k → l[j]? = some o → (zai T o.op ≤ 1 ∨ id ∉ ftF S T l nm s0 j) ∧ (zai T o.op = 0 ∨ ¬ (nm + 8 * j ≤ id ∧ id < nm + 8 * j + 8))) :
   look (zaj S T l nm s0 k).2 id = look (zaj S T l nm s0 i).2 id := by
 induction k with
 | zero => obtain rfl : i = 0 := by omega
           rfl
 | succ k ih =>
   by_cases hk : i = k + 1
   · rw [hk]
   · rw [← ih (by omega) (fun j o h1 h2 h3 => hn j o h1 (by omega) h3)]
     simp only [zaj]
     split
     · rename_i o ho
       obtain ⟨_,_,h1,h0,_⟩ := zda (hst k o ho)
       obtain ⟨h2,h3⟩ := hn k o (by omega) (by omega) ho
       rcases h3 with h3 | h3
       · rw [h0 h3]
       · refine h1 id ?_ h3
         simpa only [ftF,ho] using h2
     · rfl
end
section
variable {P : Program} {S : zal} {T : zac} {l : List Oper} {nm : Nat} {s0 : List AV × Heap} {w0 : World} {E : Nat → Prop} {B : Bs}
structure InvF (S : zal) (T : zac) (l : List Oper) (nm : Nat) (s0 : List AV × Heap) (w0 : World) (E : Nat → Prop) (B : Bs) (listed : Array Bool) (a : Act) (w : World) (loc : Loc) : Prop where
 sizel : listed.size = l.length
 size : a.tmps.size = s0.1.length
 slots : ∀ t k,k ≤ l.length → (∀ i o,l[i]? = some o → o.dst = some t → (Ls listed i ↔ i < k)) → R w loc (slot (zaj S T l nm s0 k).1 t) (a.tmps.getD t undef)
 heap : ∀ id k,k ≤ l.length → (∀ i o,l[i]? = some o → zai T o.op = 2 → id ∈ ftF S T l nm s0 i → (Ls listed i ↔ i < k)) → ∀ b,look (zaj S T l nm s0 k).2 id = some b → BlkR w loc id b
 closed : ∀ j o,l[j]? = some o → Ls listed j → ∀ e ∈ o.after.toList,Region.binds .any e = true → Ls listed e.on
 fresh : ∀ i,¬ Ls listed i → i < l.length → ∀ id,nm + 8 * i ≤ id → id < nm + 8 * i + 8 → loc.m id = .free
 high : ∀ id,nm + 8 * l.length ≤ id → loc.m id = .free
 env : Env w0 E w loc
 base : Base w0 B w loc
 defers : a.defers = []
structure zyh (S : zal) (T : zac) (l : List Oper) (nm : Nat) (s0 : List AV × Heap) : Prop where
 back : ∀ j o,l[j]? = some o → ∀ e ∈ o.after.toList,Region.binds .any e = true → e.on < j
 clash : ∀ i j x y,i < j → l[i]? = some x → l[j]? = some y → zor l x y = true → ((zgx [] l).getD j 0).testBit i = true
 mem : ∀ i j x y,i < j → l[i]? = some x → l[j]? = some y → zvg T x y = true → ∀ id,id ∈ ftF S T l nm s0 j → id ∈ ftF S T l nm s0 i ∨ (nm + 8 * i ≤ id ∧ id < nm + 8 * i + 8) → ((zgx [] l).getD j 0).testBit i = true
theorem zzl {pl : List (Nat × Nat)} (h : zha T l pl = true) (hm : memOk pl ((List.range l.length).map fun j => (nm + 8 * j,ftF S T l nm s0 j)) = true) : zyh S T l nm s0 := by
 unfold zha at h
 have h := List.all_eq_true.1 h
 have hlt : ∀ {j : Nat} {o : Oper},l[j]? = some o → j < l.length := fun h => (List.getElem?_eq_some_iff.1 h).1
 have hboth : ∀ i j x y,i < j → l[i]? = some x → l[j]? = some y → (zor l x y = true → ((zgx [] l).getD j 0).testBit i = true) ∧ (zvg T x y = true → ((zgx [] l).getD j 0).testBit i = true ∨ (i,j) ∈ pl) := by
  intro i j x y hij hx hy
  have := h j (List.mem_range.2 (hlt hy))
  simp only [hy,Bool.and_eq_true] at this
  have := List.all_eq_true.1 this.2 i (List.mem_range.2 hij)
  simp only [hx,Bool.and_eq_true,Bool.or_eq_true,Bool.not_eq_true',List.contains_iff_mem] at this
  refine ⟨fun hc => this.1.resolve_left (by rw [hc]; simp),fun hc => this.2.resolve_left (by rw [hc]; simp)⟩
 refine ⟨fun j o ho => ?_,fun i j x y hij hx hy hc => (hboth i j x y hij hx hy).1 hc,fun i j x y hij hx hy hc id hid hor => ?_⟩
 ·have := h j (List.mem_range.2 (hlt ho))
  simp only [ho,Bool.and_eq_true] at this
  exact zie this.1
 ·rcases (hboth i j x y hij hx hy).2 hc with h1 | h1
  ·exact h1
  ·exfalso
   have := List.all_eq_true.1 hm (i,j) h1
   simp only [List.getElem?_map,List.getElem?_range (hlt hx),List.getElem?_range (hlt hy),Option.map_some] at this
   simp only [clearOf,List.all_eq_true,Bool.and_eq_true,Bool.not_eq_true',Bool.or_eq_true,decide_eq_true_eq] at this
   obtain ⟨h2,h3⟩ := this id hid
   rcases hor with h4 | h4
   ·rw [List.contains_iff_mem.2 h4] at h2; cases h2
   ·omega
theorem zqw {x y : Oper} {d : Tmp} (hd : x.dst = some d) (h : d ∈ y.looksAt l.toArray ∨ y.dst = some d) : zor l x y = true := by
 unfold zor
 rw [hd]
 rcases h with h | h
 ·simp [h]
 ·simp [h]
theorem zxr {x y : Oper} {d : Tmp} (hd : y.dst = some d) (h : d ∈ x.looksAt l.toArray) : zor l x y = true := by
 unfold zor
 rw [hd]
 simp [h]
theorem zhc {x y : Oper} (h : (zai T x.op = 2 ∧ zai T y.op ≠ 0) ∨ (zai T y.op = 2 ∧ zai T x.op ≠ 0)) : zvg T x y = true := by
 unfold zvg
 rcases h with ⟨h1,h2⟩ | ⟨h1,h2⟩
 ·simp [h1,h2]
 ·simp [h1,h2]
variable {listed : Array Bool} {a : Act} {w : World} {loc : Loc} {i : Nat} {o : Oper}
theorem ztx (hg : zyh S T l nm s0) (inv : InvF S T l nm s0 w0 E B listed a w loc) (ho : l[i]? = some o) (hnl : ¬ Ls listed i) (hrd : ∀ e ∈ o.after.toList,Region.binds .any e = true → Ls listed e.on) {t : Tmp} (ht : t ∈ o.looksAt l.toArray) :
  R w loc (slot (zaj S T l nm s0 i).1 t) (a.tmps.getD t undef) := by
 have hlt : i < l.length := (List.getElem?_eq_some_iff.1 ho).1
 refine inv.slots t i (by omega) (fun j x hx hd => ⟨fun hl => ?_,fun hji => ?_⟩)
 ·rcases Nat.lt_trichotomy j i with h | h | h
  ·exact h
  ·subst h; exact (hnl hl).elim
  ·exact (hnl (zbb hg.back inv.closed _ j i (Nat.lt_succ_self _) (hg.clash i j o x h ho hx (zxr hd ht)) x hx (inv.closed j x hx hl))).elim
 ·exact zbb hg.back inv.closed _ i j (Nat.lt_succ_self _) (hg.clash j i x o hji hx ho (zqw hd (.inl ht))) o ho hrd
theorem zun (hg : zyh S T l nm s0) (inv : InvF S T l nm s0 w0 E B listed a w loc) (ho : l[i]? = some o) (hnl : ¬ Ls listed i) (hrd : ∀ e ∈ o.after.toList,Region.binds .any e = true → Ls listed e.on) (hk : zai T o.op ≠ 0) {id : Nat} {b : Blk}
  (hid : id ∈ ftF S T l nm s0 i) (hb : look (zaj S T l nm s0 i).2 id = some b) : BlkR w loc id b := by
 have hlt : i < l.length := (List.getElem?_eq_some_iff.1 ho).1
 refine inv.heap id i (by omega) (fun j x hx hd hf => ⟨fun hl => ?_,fun hji => ?_⟩) b hb
 ·rcases Nat.lt_trichotomy j i with h | h | h
  ·exact h
  ·subst h; exact (hnl hl).elim
  ·exact (hnl (zbb hg.back inv.closed _ j i (Nat.lt_succ_self _) (hg.mem i j o x h ho hx (zhc (.inr ⟨hd,hk⟩)) id hf (.inl hid)) x hx (inv.closed j x hx hl))).elim
 ·exact zbb hg.back inv.closed _ i j (Nat.lt_succ_self _) (hg.mem j i x o hji hx ho (zhc (.inl ⟨hd,hk⟩)) id hid (.inl hf)) o ho hrd
theorem yba (hg : zyh S T l nm s0) (hst : ∀ j o,l[j]? = some o → (zcb S T l (nm + 8 * j) o (zaj S T l nm s0 j)).1) (h0 : ∀ id b,look s0.2 id = some b → id < nm) (inv : InvF S T l nm s0 w0 E B listed a w loc) (ho : l[i]? = some o) (hnl : ¬ Ls listed i)
  (hrd : ∀ e ∈ o.after.toList,Region.binds .any e = true → Ls listed e.on) {x : AV} {v : Value} {w' : World} {loc' : Loc} {C : Nat → Prop}
  (hv : (zcb S T l (nm + 8 * i) o (zaj S T l nm s0 i)).2.1.1 = zap (zaj S T l nm s0 i).1 o.dst x) (hx : R w' loc' x v) (hE : Ext C w loc w' loc') (hC : zai T o.op ≤ 1 → ∀ id,¬ C id) (hCF : ∀ id,C id → id ∈ ftF S T l nm s0 i)
  (hfr : ∀ id,loc.m id = .free → loc'.m id ≠ .free → nm + 8 * i ≤ id ∧ id < nm + 8 * i + 8) (he : Env w0 E w' loc') (hb : Base w0 B w' loc')
  (hh : zai T o.op ≠ 0 → ∀ id b,id ∈ ftF S T l nm s0 i ∨ (nm + 8 * i ≤ id ∧ id < nm + 8 * i + 8) → look (zcb S T l (nm + 8 * i) o (zaj S T l nm s0 i)).2.1.2 id = some b → BlkR w' loc' id b) :
  InvF S T l nm s0 w0 E B (listed.setIfInBounds i true) (a.put o.dst v) w' loc' := by
 have hlt : i < l.length := (List.getElem?_eq_some_iff.1 ho).1
 have his : i < listed.size := by rw [inv.sizel]; exact hlt
 have hls : ∀ j,Ls (listed.setIfInBounds i true) j ↔ j = i ∨ Ls listed j := fun j => zkp his
 have htr : zaj S T l nm s0 (i + 1) = (zcb S T l (nm + 8 * i) o (zaj S T l nm s0 i)).2.1 := by simp only [zaj,ho]
 have hfi : ftF S T l nm s0 i = (zcb S T l (nm + 8 * i) o (zaj S T l nm s0 i)).2.2 := by simp only [ftF,ho]
 have hanc : ∀ j y,l[j]? = some y → i < j → Ls listed j → ((zgx [] l).getD j 0).testBit i = true → False := fun j y hy hij hl hc =>
  hnl (zbb hg.back inv.closed _ j i (Nat.lt_succ_self _) hc y hy (inv.closed j y hy hl))
 refine ⟨by simp [inv.sizel],?_,?_,?_,?_,?_,?_,he,hb,?_⟩
 ·cases o.dst with
  | none => exact inv.size
  | some d => simp [Act.put,inv.size]
 ·intro t k hk hq
  by_cases hd : o.dst = some t
  ·have hik : i < k := (hq i o ho hd).1 ((hls i).2 (.inl rfl))
   have e1 : slot (zaj S T l nm s0 k).1 t = slot (zaj S T l nm s0 (i + 1)).1 t := by
    refine zjg hst (by omega) (fun j y h1 h2 hy hyd => ?_)
    have := (hls j).1 ((hq j y hy hyd).2 h2)
    rcases this with h | h
    ·omega
    ·exact hanc j y hy (by omega) h (hg.clash i j o y (by omega) ho hy (zqw hd (.inr hyd)))
   rw [e1,htr,hv,hd]
   simp only [zap]
   by_cases hts : t < (zaj S T l nm s0 i).1.length
   ·rw [zcl hts]
    have : (a.put (some t) v).tmps.getD t undef = v := by
     rw [zcj hst] at hts
     simp [Act.put,inv.size,hts]
    rw [this]; exact hx
   ·rw [zek (by rw [zbd]; exact Nat.le_of_not_lt hts)]; exact .junk _
  ·have h1 := inv.slots t k hk (fun j y hy hyd => by
    have hji : j ≠ i := by
     rintro rfl
     rw [ho] at hy; injection hy with hy; subst hy; exact hd hyd
    rw [← hq j y hy hyd,hls]
    simp [hji])
   have : (a.put o.dst v).tmps.getD t undef = a.tmps.getD t undef := by
    cases hdd : o.dst with
    | none => rfl
    | some d =>
     have hne : d ≠ t := fun e => hd (by rw [hdd,e])
     simp [Act.put,Array.getElem?_setIfInBounds_ne hne]
   rw [this]; exact h1.ext hE
 ·intro id k hk hq b hl
  by_cases hf' : loc'.m id = .free
  ·exact BlkR.free hf'
  by_cases h2 : zai T o.op = 2 ∧ id ∈ ftF S T l nm s0 i
  ·have hik : i < k := (hq i o ho h2.1 h2.2).1 ((hls i).2 (.inl rfl))
   have hidl : id < nm + 8 * i := by
    have h3 := (zda (hst i o ho)).2.2.2.2 id (by rw [← hfi]; exact h2.2)
    cases h4 : look (zaj S T l nm s0 i).2 id with
    | none => exact h3.resolve_left (fun h => h h4)
    | some c => exact zbv hst h0 i id c h4
   have hno : ∀ j y,i + 1 ≤ j → j < k → l[j]? = some y → (zai T y.op ≤ 1 ∨ id ∉ ftF S T l nm s0 j) ∧ (zai T y.op = 0 ∨ ¬ (nm + 8 * j ≤ id ∧ id < nm + 8 * j + 8)) := by
    intro j y h3 h4 hy
    refine ⟨?_,.inr (by omega)⟩
    by_cases hyf : id ∈ ftF S T l nm s0 j
    ·left
     have hle : zai T y.op ≤ 2 := zfj T y.op
     have hne : zai T y.op ≠ 2 := by
      intro hy2
      rcases (hls j).1 ((hq j y hy hy2 hyf).2 h4) with h | h
      ·omega
      ·exact hanc j y hy (by omega) h (hg.mem i j o y (by omega) ho hy (zhc (.inl ⟨h2.1,by omega⟩)) id hyf (.inl h2.2))
     omega
    ·exact .inr hyf
   rw [zgv hst (by omega) hno,htr] at hl
   exact hh (by omega) id b (.inl h2.2) hl
  ·have hold : BlkR w loc id b := inv.heap id k hk (fun j y hy hy2 hyf => by
    have hji : j ≠ i := by
     rintro rfl
     rw [ho] at hy; injection hy with hy; subst hy; exact h2 ⟨hy2,hyf⟩
    rw [← hq j y hy hy2 hyf,hls]
    simp [hji]) b hl
   by_cases hf : loc.m id = .free
   ·have hr := hfr id hf hf'
    have hik : i < k := by
     rcases Nat.lt_or_ge i k with h | h
     ·exact h
     ·have := zbv hst h0 k id b hl; omega
    by_cases hz : zai T o.op = 0
    ·exfalso
     rcases zwn hst (i := i + 1) (by omega) hl with h | ⟨j,y,h3,_,_,_,h4,_⟩
     ·rw [htr,(zda (hst i o ho)).2.2.2.1 hz] at h
      cases h5 : look (zaj S T l nm s0 i).2 id with
      | none => exact h h5
      | some c => have := zbv hst h0 i id c h5; omega
     ·omega
    ·have hno : ∀ j y,i + 1 ≤ j → j < k → l[j]? = some y → (zai T y.op ≤ 1 ∨ id ∉ ftF S T l nm s0 j) ∧ (zai T y.op = 0 ∨ ¬ (nm + 8 * j ≤ id ∧ id < nm + 8 * j + 8)) := by
      intro j y h3 h4 hy
      refine ⟨?_,.inr (by omega)⟩
      by_cases hyf : id ∈ ftF S T l nm s0 j
      ·left
       have hle2 : zai T y.op ≤ 2 := zfj T y.op
       have hne : zai T y.op ≠ 2 := by
        intro hy2
        rcases (hls j).1 ((hq j y hy hy2 hyf).2 h4) with h | h
        ·omega
        ·exact hanc j y hy (by omega) h (hg.mem i j o y (by omega) ho hy (zhc (.inr ⟨hy2,hz⟩)) id hyf (.inr hr))
       omega
      ·exact .inr hyf
     rw [zgv hst (by omega) hno,htr] at hl
     exact hh hz id b (.inr hr) hl
   ·refine hold.ext hE (fun hc => ?_) hf
    have hle : zai T o.op ≤ 2 := zfj T o.op
    by_cases hk1 : zai T o.op ≤ 1
    ·exact hC hk1 id hc
    ·exact h2 ⟨by omega,hCF id hc⟩
 ·intro j y hy hl e hee hbe
  rw [hls]
  rcases (hls j).1 hl with h | h
  ·subst h
   rw [ho] at hy; injection hy with hy; subst hy
   exact .inr (hrd e hee hbe)
  ·exact .inr (inv.closed j y hy h e hee hbe)
 ·intro j hj hjl id h1 h2
  rw [hls] at hj
  have hji : j ≠ i := fun e => hj (.inl e)
  have hf := inv.fresh j (fun h => hj (.inr h)) hjl id h1 h2
  by_cases hf' : loc'.m id = .free
  ·exact hf'
  ·have := hfr id hf hf'; omega
 ·intro id h1
  have hf := inv.high id h1
  by_cases hf' : loc'.m id = .free
  ·exact hf'
  ·have := hfr id hf hf'; omega
 ·rw [← inv.defers]
  cases o.dst <;> rfl
end
end Ax
end Go.Proofs.Ytdfgfdcfcdgadaa
namespace Go.Proofs.Ytdfgfdcfcdgadaa
namespace Ax
section
variable {P : Program} {S : zal} {T : zac} {l : List Oper} {nm : Nat} {s0 : List AV × Heap} {w0 : World} {E : Nat → Prop} {B : Bs}
theorem zpc (hg : zyh S T l nm s0) {listed : Array Bool} (hsz : listed.size = l.length) (hr : Region.ready .any l.toArray listed = []) : ∀ n j,j < n → j < l.length → Ls listed j := by
 intro n
 induction n with
 | zero => intro j h; omega
 | succ n ih =>
  intro j hj hjl
  by_cases hl : Ls listed j
  ·exact hl
  ·exfalso
   have : j ∈ Region.ready .any l.toArray listed := by
    refine mem_ready.2 ⟨getD_in (by rw [hsz]; exact hjl) (by unfold Ls at hl; simpa using hl),l[j],by simp [hjl],fun e he hb => ?_⟩
    have hlt := hg.back j l[j] (List.getElem?_eq_getElem hjl) e (by simpa using he) hb
    exact ih e.on (by omega) (by omega)
   rw [hr] at this
   simp at this
theorem ycl (hT : TOk P T) (hS : Fns P S) (hg : zyh S T l nm s0) (hst : ∀ j o,l[j]? = some o → (zcb S T l (nm + 8 * j) o (zaj S T l nm s0 j)).1) (h0 : ∀ id b,look s0.2 id = some b → id < nm) {K : Exit → Act → World → Prop}
  (hK : ∀ listed a w loc,InvF S T l nm s0 w0 E B listed a w loc → (∀ j,j < l.length → Ls listed j) → K .normal a w) :
  ∀ (fuel : Nat) (listed : Array Bool) (a : Act) (w : World) (loc : Loc),InvF S T l nm s0 w0 E B listed a w loc → listed.toList.count false ≤ fuel → wpAny P .any l.toArray K fuel listed a w := by
 intro fuel
 induction fuel with
 | zero =>
  intro listed a w loc inv hc
  have hall : ∀ j,j < l.length → Ls listed j := by
   intro j hj
   have hj' : j < listed.size := by rw [inv.sizel]; exact hj
   have h1 : false ∉ listed.toList := by
    intro hm
    have := List.count_pos_iff.2 hm
    omega
   unfold Ls
   have h2 : listed[j] ≠ false := fun e => h1 (by rw [← e]; simp)
   simpa [hj'] using h2
  refine ⟨?_,hK listed a w loc inv hall⟩
  cases hr : Region.ready .any l.toArray listed with
  | nil => rfl
  | cons j r =>
   exfalso
   have hm : j ∈ Region.ready .any l.toArray listed := by rw [hr]; simp
   obtain ⟨h1,o,ho,_⟩ := mem_ready.1 hm
   have hjl : j < l.length := by
    have := (Array.getElem?_eq_some_iff.1 ho).1
    simpa using this
   have := hall j hjl
   unfold Ls at this
   rw [getD_both h1] at this
   cases this
 | succ fuel ih =>
  intro listed a w loc inv hc
  refine ⟨fun hr => hK listed a w loc inv (fun j hj => zpc hg inv.sizel hr _ j (Nat.lt_succ_self _) hj),fun i hi => ?_⟩
  obtain ⟨hnl1,o,ho',hrd'⟩ := mem_ready.1 hi
  have ho : l[i]? = some o := by simpa using ho'
  have hnl : ¬ Ls listed i := by unfold Ls; rw [getD_both hnl1]; simp
  have hrd : ∀ e ∈ o.after.toList,Region.binds .any e = true → Ls listed e.on := fun e he hb => hrd' e (by simpa using he) hb
  have hlt : i < l.length := (List.getElem?_eq_some_iff.1 ho).1
  have hc' : (listed.setIfInBounds i true).toList.count false ≤ fuel := by
   have := zid listed.toList i (by simpa using hnl1)
   rw [Array.toList_setIfInBounds]
   omega
  have hlook := fun t ht => ztx hg inv ho hnl hrd (t := t) ht
  have hlow := zbv hst h0 i
  have hev : ∀ x ∈ o.op.operands.toList,R w loc (ev (zaj S T l nm s0 i).1 x) (a.eval x) := by
   intro x hx
   cases x with
   | tmp t => exact hlook t (by unfold Oper.looksAt; exact List.mem_append_left _ (List.mem_filterMap.2 ⟨.tmp t,hx,rfl⟩))
   | const v => exact ev_R (sl := []) (a := a) (fun t => .junk _) (.const v)
   | global g => exact .junk _
   | func f => exact ev_R (sl := []) (a := a) (fun t => .junk _) (.func f)
  have hstep := hst i o ho
  have hfi : ftF S T l nm s0 i = (zcb S T l (nm + 8 * i) o (zaj S T l nm s0 i)).2.2 := by simp only [ftF,ho]
  have hadv := @yba S T l nm s0 w0 E B listed a w loc i o hg hst h0 inv ho hnl hrd
  have hheap := fun (hk : zai T o.op ≠ 0) id b => @zun S T l nm s0 w0 E B listed a w loc i o hg inv ho hnl hrd hk id b
  rw [hfi] at hadv hheap
  -- the operation is done
  have hdo : (aopF S T (nm + 8 * i) (zaj S T l nm s0 i).1 o.op (zaj S T l nm s0 i).2).p →
    (zcb S T l (nm + 8 * i) o (zaj S T l nm s0 i)).2.1 = (zap (zaj S T l nm s0 i).1 o.dst (aopF S T (nm + 8 * i) (zaj S T l nm s0 i).1 o.op (zaj S T l nm s0 i).2).x,(aopF S T (nm + 8 * i) (zaj S T l nm s0 i).1 o.op (zaj S T l nm s0 i).2).H) →
    (zcb S T l (nm + 8 * i) o (zaj S T l nm s0 i)).2.2 = foot (zaj S T l nm s0 i).1 o.op (zaj S T l nm s0 i).2 →
    o.wp P a w (wpAny P .any l.toArray K fuel (listed.setIfInBounds i true)) K := by
   intro hp hs hft
   have hfree : ∀ id,nm + 8 * i ≤ id → id < nm + 8 * i + 8 → loc.m id = .free := inv.fresh i hnl hlt
   rw [hft] at hadv hheap
   by_cases hk : zai T o.op = 0
   ·obtain ⟨h1,h2,h3⟩ := zno (H := keepIn (foot (zaj S T l nm s0 i).1 o.op (zaj S T l nm s0 i).2) (zaj S T l nm s0 i).2) (S := S) (sl := (zaj S T l nm s0 i).1) (nm := nm + 8 * i) hk hp.2
    refine zci hT hS inv.env (H := []) (fun id b h => by simp [look] at h) hfree o hev h1 _ K (fun v w' loc' hpost => ?_)
    obtain ⟨C,hE,hC⟩ := hpost.ext
    have hC' := hC (zjp (H := []) (by omega) h1)
    refine ih _ _ _ loc' (hadv (x := _) (C := C) (by rw [hs]) ?_ hE (fun _ => hC') (fun id h => (hC' id h).elim) hpost.fresh hpost.env (inv.base.post hpost) (fun h => (h hk).elim)) hc'
    have := hpost.r
    rw [h2] at this; exact this
   ·refine zro hT hS inv.env (fun id b hid hl => hheap hk id b hid hl) hfree rfl hev hp _ K (fun v w' loc' wr hpost hext => ?_)
    obtain ⟨C,hE,hC,hCF⟩ := hext
    refine ih _ _ _ loc' (hadv (x := _) (C := C) (by rw [hs]) hpost.r hE hC hCF hpost.fresh hpost.env (inv.base.post hpost) (fun _ id b hor hl => ?_)) hc'
    rw [hs] at hl
    simp only [aopF] at hl
    rw [zdq] at hl
    cases h1 : look (aop S T (nm + 8 * i) (zaj S T l nm s0 i).1 o.op (keepIn (foot (zaj S T l nm s0 i).1 o.op (zaj S T l nm s0 i).2) (zaj S T l nm s0 i).2)).H id with
    | some c =>
     simp only [h1] at hl
     injection hl with hl
     subst hl
     exact hpost.h id c h1
    | none =>
     simp only [h1,zdp] at hl
     split at hl
     ·cases hl
     ·rename_i hn
      rcases hor with h2 | h2
      ·exact (hn h2).elim
      ·have := hlow id b hl; omega
  unfold wpOp
  rw [ho']
  simp only
  cases hgd : o.guard with
  | none =>
   rw [if_pos (by simp [Region.wanted,hgd])]
   left
   refine hdo ?_ ?_ ?_
   ·simpa [zcb,hgd] using hstep
   ·simp [zcb,hgd]
   ·simp [zcb,hgd]
  | some g =>
   obtain ⟨j,want⟩ := g
   simp only [zcb,hgd] at hstep hdo hadv
   cases hgs : guardSlot l j with
   | none => simp [hgs] at hstep
   | some d =>
    simp only [hgs] at hstep hdo hadv
    have hdl : d ∈ o.looksAt l.toArray := by
     unfold Oper.looksAt
     refine List.mem_append_right _ ?_
     rw [hgd]
     unfold guardSlot at hgs
     cases hj : l[j]? with
     | none => rw [hj] at hgs; cases hgs
     | some oj =>
      rw [hj] at hgs
      simp only at hgs
      simp [hj,hgs]
    have hval := hlook d hdl
    cases hsd : slot (zaj S T l nm s0 i).1 d with
    | w u =>
     cases u with
     | bool b =>
      simp only [hsd] at hstep hdo hadv
      rw [hsd] at hval
      have hval := hval.wv
      have hdlt : d < a.tmps.size := by
       rw [inv.size,← zcj hst i]
       rcases Nat.lt_or_ge d (zaj S T l nm s0 i).1.length with h' | h'
       ·exact h'
       ·rw [zek h'] at hsd; cases hsd
      have hy := zgh (ops := l.toArray) (by simpa using hgs) hdlt hval
      have hw : (Region.wanted o (yielded l.toArray a.tmps) = true) ↔ b = want := by simp [Region.wanted,hgd,hy]
      by_cases hbw : b = want
      ·rw [if_pos (hw.2 hbw)]
       rw [if_pos hbw] at hstep hdo
       exact .inl (hdo hstep rfl rfl)
      ·rw [if_neg (fun h => hbw (hw.1 h))]
       simp only [if_neg hbw] at hadv
       refine ih _ _ _ loc (hadv (x := .tup []) (C := fun _ => False) rfl zgu (Ext.refl w loc) (fun _ _ h => h) (fun _ h => h.elim) (fun id h h' => (h' h).elim) inv.env inv.base (fun hk id b hor hl => ?_)) hc'
       rcases hor with h2 | h2
       ·simp at h2
       ·have := hlow id b hl; omega
     | _ => simp [hsd] at hstep
    | tup xs =>
     cases xs with
     | nil =>
      simp only [hsd] at hadv
      rw [hsd] at hval
      rw [if_neg (by simp [Region.wanted,hgd,zdz (ops := l.toArray) (by simpa using hgs) (ydp hval)])]
      refine ih _ _ _ loc (hadv (x := .tup []) (C := fun _ => False) rfl zgu (Ext.refl w loc) (fun _ _ h => h) (fun _ h => h.elim) (fun id h h' => (h' h).elim) inv.env inv.base (fun hk id b hor hl => ?_)) hc'
      rcases hor with h2 | h2
      ·simp at h2
      ·have := hlow id b hl; omega
     | cons _ _ => simp [hsd] at hstep
    | _ => simp [hsd] at hstep
theorem zjt (hT : TOk P T) (hS : Fns P S) (hm : P.follows .mixedOrders = true) {pl : List (Nat × Nat)} {K : Exit → Act → World → Prop} {Q : List AV → Heap → Prop} {sl : List AV} {H : Heap} {a : Act} {w : World} {loc : Loc} {id : Nat}
  (hd : zha T l pl = true) (hK : ∀ sl H a w loc,Base w0 B w loc → Rel' w0 E loc ⟨sl,H,nm + 8 * l.length⟩ a w → Q sl H → K .normal a w) (hb : Base w0 B w loc)
  (hr : Rel' w0 E loc ⟨sl,H,nm⟩ a w) (h : zfq S T l pl nm [] l sl H Q) : (Code.region id l.toArray true).wp P K a w := by
 obtain ⟨⟨hQ,hmem⟩,hst⟩ := zka (S := S) (T := T) (nm := nm) (pl := pl) (Q := Q) (l := l) (s0 := (sl,H)) l 0 (fun j => by rw [Nat.zero_add]) (Nat.zero_add _) (by simpa [zaj] using h)
 have hst' := fun j o ho => hst j o (Nat.zero_le _) ho
 have hg := zzl hd hmem
 refine wp_region_any hm ?_
 have hL : ∀ i,¬ Ls (Array.replicate l.toArray.size false) i := fun i h => by
  unfold Ls at h
  rw [getD_replicate_false] at h; cases h
 refine ycl hT hS hg hst' hr.low (w0 := w0) (E := E) (B := B) ?_ _ _ _ _ loc ?_ ?_
 ·intro listed a w loc inv hall
  have hq : ∀ (i : Nat),i < l.length → (Ls listed i ↔ i < l.length) := fun i hi => ⟨fun _ => hi,fun _ => hall i hi⟩
  have hlt : ∀ {j : Nat} {o : Oper},l[j]? = some o → j < l.length := fun h => (List.getElem?_eq_some_iff.1 h).1
  refine hK _ _ a w loc inv.base ⟨?_,?_,?_,inv.env,inv.high,inv.defers,?_⟩ hQ
  ·simp only; rw [zcj hst']; exact inv.size
  ·exact fun t => inv.slots t _ (Nat.le_refl _) (fun i o ho _ => hq i (hlt ho))
  ·exact fun id b hl => inv.heap id _ (Nat.le_refl _) (fun i o ho _ _ => hq i (hlt ho)) b hl
  ·exact zbv hst' hr.low l.length
 ·have hbase : Base w0 B { w with drawn := w.drawn + 1 } loc := hb
  have hE : Ext (fun _ => False) w loc { w with drawn := w.drawn + 1 } loc := ⟨Nat.le_refl _,fun _ _ _ => rfl,fun _ _ _ => .inl rfl,fun _ _ h => ⟨rfl,h⟩,fun _ _ _ _ => rfl,fun _ cur _ fz h => ⟨cur,fz,h,rfl⟩⟩
  have hcl : ∀ {x v},R w loc x v → R { w with drawn := w.drawn + 1 } loc x v := fun h => h.ext hE
  refine ⟨by simp,hr.size,?_,?_,?_,?_,?_,⟨hr.env.os,hr.env.tape,hr.env.output,hr.env.size,hr.env.same,hr.env.inj,hr.env.lies,hr.env.bad⟩,hbase,hr.defers⟩
  ·intro t k hk hq
   have e : slot (zaj S T l nm (sl,H) k).1 t = slot sl t := by
    refine zjg hst' (i := 0) (Nat.zero_le _) (fun j o _ hj ho hd => ?_)
    exact hL j ((hq j o ho hd).2 hj)
   rw [e]
   exact hcl (hr.slots t)
  ·intro id k hk hq b hl
   by_cases hf : loc.m id = .free
   ·exact BlkR.free hf
   ·have hidn : id < nm := by
     rcases Nat.lt_or_ge id nm with h' | h'
     ·exact h'
     ·exact (hf (hr.fresh id h')).elim
    have e : look (zaj S T l nm (sl,H) k).2 id = look H id := by
     refine zgv hst' (i := 0) (Nat.zero_le _) (fun j o _ hj ho => ⟨?_,.inr (by omega)⟩)
     by_cases hid : id ∈ ftF S T l nm (sl,H) j
     ·left
      have hle : zai T o.op ≤ 2 := zfj T o.op
      have hne : zai T o.op ≠ 2 := fun h2 => hL j ((hq j o ho h2 hid).2 hj)
      omega
     ·exact .inr hid
    rw [e] at hl
    exact (hr.heap id b hl).ext hE (fun h => h) hf
  ·intro j o ho hl; exact (hL j hl).elim
  ·intro i _ hi id h1 h2; exact hr.fresh id (by simp only; omega)
  ·intro id h1; exact hr.fresh id (by simp only; omega)
 ·simp
end
end Ax
end Go.Proofs.Ytdfgfdcfcdgadaa
