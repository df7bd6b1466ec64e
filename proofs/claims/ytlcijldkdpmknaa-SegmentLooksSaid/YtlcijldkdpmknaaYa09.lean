/- What the proofs of this seat stand on; it asks nothing. -/
import Derived.Test.YtlcijldkdpmknaaYa08
set_option linter.unusedSimpArgs false
set_option linter.unusedVariables false
namespace Go.Proofs.Ytlcijldkdpmknaa
namespace Ax
def gone : Blk := .g 0 [.ms 0 0 0 0]
def Blk.isGone : Blk → Bool
 | .g s _ => s == 0
 | _ => false
mutual
def AV.sids : AV → List Nat
 | .agg xs => sidsL xs
 | .tup xs => sidsL xs
 | .fn _ cs => sidsL cs
 | .ms id _ _ len => bif decide (0 < len) then [id] else []
 | .rf id _ _ _ => [id]
 | _ => []
def sidsL : List AV → List Nat
 | [] => []
 | x :: xs => x.sids ++ sidsL xs
end
def firmB (id : Nat) : Option Blk → List Nat
 | some b => bif decide (0 < b.len) then [id] else []
 | none => []
mutual
def AV.sidsH (H : Heap) : AV → List Nat
 | .agg xs => sidsLH H xs
 | .tup xs => sidsLH H xs
 | .fn _ cs => sidsLH H cs
 | .ms id _ _ len => bif decide (0 < len) then [id] else firmB id (look H id)
 | .rf id _ _ _ => [id]
 | _ => []
def sidsLH (H : Heap) : List AV → List Nat
 | [] => []
 | x :: xs => x.sidsH H ++ sidsLH H xs
end
def Blk.idsB (b : Blk) : List Nat := bif b.closed then [] else match b with
 | .g _ xs => idsL xs
 | _ => []
def Blk.sidsB (b : Blk) : List Nat := bif b.closed then [] else match b with
 | .g _ xs => sidsL xs
 | _ => []
def Blk.renB (g : Nat → Nat) (b : Blk) : Blk := bif b.closed then b else b.ren g
def reach (H : Heap) : Nat → List Nat → List Nat → List Nat
 | 0,acc,_ => acc
 | _ + 1,acc,[] => acc
 | n + 1,acc,id :: r => bif acc.contains id then reach H n acc r else match look H id with
   | some b => reach H n (acc ++ [id]) (r ++ b.idsB)
   | none => acc
def walk (H : Heap) : List Nat → List Nat → Bool
 | _,[] => true
 | good,id :: r => good.contains id && match look H id with
   | some b => walk H (good ++ b.sidsB) r
   | none => false
def allIn : List Nat → List Nat → Bool
 | [],_ => true
 | id :: r,ids => ids.contains id && allIn r ids
def pinsIn (H : Heap) (ids : List Nat) : List Nat → Bool
 | [] => true
 | id :: r => (match look H id with
   | some b => allIn b.idsB ids
   | none => false) && pinsIn H ids r
def pinsR (H : Heap) (g : Nat → Nat) : List Nat → List Blk
 | [] => []
 | id :: r => match look H id with
   | some b => b.renB g :: pinsR H g r
   | none => []
def backO (g : Nat → Nat) (H : Heap) : Nat → List Blk → Heap
 | _,[] => H
 | k,b :: r => bif b.isGone then drop (backO g H (k + 1) r) (g k) else put (backO g H (k + 1) r) (g k) (b.renB g)
def openOut (nm : Nat) (ids : List Nat) (args : List AV) (H : Heap) (r : Res) : Out :=
 ⟨(nodup ids = true ∧ walk H (sidsLH H args) ids = true ∧ allIn (idsL args) ids = true ∧ pinsIn H ids ids = true) ∧ r.p ∧ ids.length ≤ r.bl.length ∧ r.bl.length ≤ ids.length + 8,
   r.x.ren (gOf ids nm),backO (gOf ids nm) H 0 r.bl⟩
def idxOf (ids : List Nat) (id : Nat) : Nat := idx id ids
def aOpen (SO : zal) (nm : Nat) (f : FuncId) (args : List AV) (H : Heap) : Out :=
 match SO f with
 | some spec => openOut nm (reach H 12 [] (idsL args)) args H (spec (renL (idxOf (reach H 12 [] (idsL args))) args) (pinsR H (idxOf (reach H 12 [] (idsL args))) (reach H 12 [] (idsL args))))
 | none => bad
structure GivesO (w : World) (bad : Nat → Prop) (pb : List Nat) (q : Res) (v : Value) (w' : World) (loc' : Loc) : Prop where
 r : R w' loc' q.x v
 bad : loc'.bad = bad
 bl : ∀ (k : Nat) (h : k < q.bl.length),(q.bl[k].isGone = true ∧ loc'.m k = .dead) ∨ (BlkR w' loc' k q.bl[k] ∧ loc'.m k ≠ .free ∧ loc'.m k ≠ .dead)
 old : ∀ (k : Nat) (h : k < pb.length),loc'.m k = .here pb[k] ∨ loc'.m k = .dead
 new : ∀ k b,pb.length ≤ k → loc'.m k = .here b → (w.heap.size ≤ b ∨ b ∈ pb) ∧ b < w'.heap.size
 none : ∀ k,q.bl.length ≤ k → loc'.m k = .free
 inj : ∀ i j b,loc'.m i = .here b → loc'.m j = .here b → i = j
 fram : Fram w w' (· ∈ pb)
def SoundO (P : Program) (f : FuncId) (spec : zam) : Prop :=
 ∀ (xs : List AV) (pins : List Blk),(spec xs pins).p →
 ∀ (w : World) (bad : Nat → Prop) (pb : List Nat) (vs : List Value),pb.length = pins.length → pb.Nodup → (∀ b,bad b → b < w.heap.size ∧ ¬ b ∈ pb) →
   (∀ (k : Nat) (h : k < pins.length) (h' : k < pb.length),pins[k].ok ∧ Lies w (zba pb bad) pins[k] pb[k]) →
   xs.length = vs.length → (∀ (j : Nat) (h : j < xs.length) (h' : j < vs.length),R w (zba pb bad) xs[j] vs[j]) →
   Calls P f vs.toArray w fun e w' => ∃ v loc',e = .returned v ∧ GivesO w bad pb (spec xs pins) v w' loc'
theorem idsL_mem {id : Nat} : ∀ {xs : List AV},id ∈ idsL xs ↔ ∃ x ∈ xs,id ∈ x.ids
 | [] => by simp [idsL]
 | x :: xs => by
     simp only [idsL,List.mem_append,List.mem_cons,idsL_mem (xs := xs)]; constructor
     · rintro (h | ⟨y,h1,h2⟩)
       · exact ⟨x,.inl rfl,h⟩
       · exact ⟨y,.inr h1,h2⟩
     · rintro ⟨y,rfl | h1,h2⟩
       · exact .inl h2
       · exact .inr ⟨y,h1,h2⟩
theorem sidsL_mem {id : Nat} : ∀ {xs : List AV},id ∈ sidsL xs ↔ ∃ x ∈ xs,id ∈ x.sids
 | [] => by simp [sidsL]
 | x :: xs => by
     simp only [sidsL,List.mem_append,List.mem_cons,sidsL_mem (xs := xs)]; constructor
     · rintro (h | ⟨y,h1,h2⟩)
       · exact ⟨x,.inl rfl,h⟩
       · exact ⟨y,.inr h1,h2⟩
     · rintro ⟨y,rfl | h1,h2⟩
       · exact .inl h2
       · exact .inr ⟨y,h1,h2⟩
theorem leaves_idsO {id : Nat} {x y : AV} (hy : y ∈ x.leaves) (h : id ∈ y.ids) : id ∈ x.ids := by
 cases x with
 | agg xs => exact idsL_mem.2 ⟨y,hy,h⟩
 | _ => simp only [AV.leaves,List.mem_singleton] at hy; subst hy; exact h
theorem ids_leaves {id : Nat} {x : AV} (h : id ∈ x.ids) : ∃ y ∈ x.leaves,id ∈ y.ids := by
 cases x with
 | agg xs => exact idsL_mem.1 h
 | _ => exact ⟨_,by simp [AV.leaves],h⟩
theorem sids_leaves {id : Nat} {x : AV} (h : id ∈ x.sids) : ∃ y ∈ x.leaves,id ∈ y.sids := by
 cases x with
 | agg xs => exact sidsL_mem.1 h
 | _ => exact ⟨_,by simp [AV.leaves],h⟩
theorem ren_on {w : World} {loc loc2 : Loc} {g : Nat → Nat} (hM : ∀ b,b < w.heap.size → Mut loc2 b → Mut loc b) {x : AV} {v : Value} (h : R w loc x v) : (∀ id ∈ x.ids,loc2.m (g id) = loc.m id) → R w loc2 (x.ren g) v := by
 induction h with
 | w v h => intro _; exact .w v h
 | str bs => intro _; exact .str bs
 | agg xs cs hl hx _ ih =>
   intro hg
   obtain ⟨h1,h2⟩ := zbc g xs
   refine .agg _ cs (by rw [h1,hl]) (fun j hj => ?_) (fun j a b => ?_)
   · rw [h2 j hj (by rw [← h1]; exact hj)]; exact ren_leaf g (hx j _)
   · rw [h2 j a (by rw [← h1]; exact a)]
     exact ih j _ b (fun id hid => hg id (idsL_mem.2 ⟨_,List.getElem_mem _,hid⟩))
 | tup xs cs hl _ ih =>
   intro hg
   obtain ⟨h1,h2⟩ := zbc g xs
   refine .tup _ cs (by rw [h1,hl]) (fun j a b => ?_)
   rw [h2 j a (by rw [← h1]; exact a)]
   exact ih j _ b (fun id hid => hg id (idsL_mem.2 ⟨_,List.getElem_mem _,hid⟩))
 | sb bs full a cap hd hc => intro _; exact .sb bs full a cap hd (hc.move hM)
 | si ns full a cap hd hc => intro _; exact .si ns full a cap hd (hc.move hM)
 | sg s xs full a cap cs hd hs hc hl hx h ih => intro _; exact (R.sg s xs full a cap cs hd hs hc hl hx h).move hM rfl
 | cp ls a cs hc hn hl hx h ih => intro _; exact (R.cp ls a cs hc hn hl hx h).move hM rfl
 | ms id s off len v h =>
   intro hg
   refine .ms _ _ _ _ _ ?_
   unfold Owns at h ⊢
   rw [hg id (by simp [AV.ids])]; exact h
 | rf id s i f v h =>
   intro hg
   refine .rf _ _ _ _ _ ?_
   unfold Points at h ⊢
   rw [hg id (by simp [AV.ids])]; exact h
 | fn f caps cs hl _ ih =>
   intro hg
   obtain ⟨h1,h2⟩ := zbc g caps
   refine .fn f _ cs (by rw [h1,hl]) (fun j a b => ?_)
   rw [h2 j a (by rw [← h1]; exact a)]
   exact ih j _ b (fun id hid => hg id (idsL_mem.2 ⟨_,List.getElem_mem _,hid⟩))
 | junk v => intro _; exact .junk v
theorem flat_idsO {blk : Blk} (hc : blk.closed = false) {id : Nat} : (∃ y ∈ blk.flat,id ∈ y.ids) ↔ id ∈ blk.idsB := by
 cases blk with
 | o x => simp [Blk.flat,Blk.idsB,hc]
 | b bs => simp [Blk.closed] at hc
 | i ns => simp [Blk.closed] at hc
 | g s xs =>
   simp only [Blk.idsB,hc,cond_false]
   constructor
   · rintro ⟨y,hy,h⟩
     obtain ⟨x,hx,hxl⟩ := List.mem_flatMap.1 hy
     exact idsL_mem.2 ⟨x,hx,leaves_idsO hxl h⟩
   · intro h
     obtain ⟨x,hx,h⟩ := idsL_mem.1 h
     obtain ⟨y,hy,h⟩ := ids_leaves h
     exact ⟨y,List.mem_flatMap.2 ⟨x,hx,hy⟩,h⟩
theorem flat_odd {blk : Blk} {y : AV} (h : y ∈ blk.flat) : blk.odd = none := by
 cases blk with
 | o x => simp [Blk.flat] at h
 | _ => rfl
theorem lies_renB {w : World} {loc loc2 : Loc} {g : Nat → Nat} {blk : Blk} {b : Nat} (hM : ∀ b,b < w.heap.size → Mut loc2 b → Mut loc b) (hg : ∀ id ∈ blk.idsB,loc2.m (g id) = loc.m id) (h : Lies w loc blk b) : Lies w loc2 (blk.renB g) b := by
 unfold Blk.renB
 cases hc : blk.closed with
 | true => exact zew h hc (.inr hM)
 | false =>
   simp only [cond_false]
   rcases zbr blk with ⟨x,hx,rfl⟩ | hodd
   · exact .mkO (Thing.move hM (h.is hx)) hx
   obtain ⟨cur,e,fz,h1,h2,h3,h4,h5⟩ := h.lies hodd
   have hl : (blk.ren g).flat.length = blk.flat.length := by rw [flat_ren,(zbc g _).1]
   refine .mkC ⟨cur,e,fz,h1,by rw [size_ren]; exact h2,h3,by omega,fun j a c => ?_⟩ (odd_ren.trans hodd)
   have h6 := h5 j (by omega) c
   have e : (blk.ren g).flat[j] = (blk.flat[j]'(by omega)).ren g := by
     have := (zbc g blk.flat).2 j (by rw [(zbc g _).1]; omega) (by omega)
     rw [← this]
     congr 1
     exact flat_ren g blk
   rw [e,ren_leaf_eq]
   exact ⟨h6.1,ren_on hM h6.2 (fun id hid => hg id ((flat_idsO hc).1 ⟨_,List.getElem_mem _,hid⟩))⟩
theorem ok_renB {g : Nat → Nat} {b : Blk} (h : b.ok) : (b.renB g).ok := by
 unfold Blk.renB
 cases b.closed with
 | true => exact h
 | false =>
   simp only [cond_false]
   cases b with
   | g s xs =>
     obtain ⟨h1,h2⟩ := h
     refine ⟨h1,fun x hx => ?_⟩
     obtain ⟨j,hj,rfl⟩ := List.getElem_of_mem hx
     obtain ⟨h3,h4⟩ := zbc g xs
     rw [h4 j hj (by rw [← h3]; exact hj),leaves_ren,(zbc g _).1]
     exact h2 _ (List.getElem_mem _)
   | _ => trivial
theorem len_renB {g : Nat → Nat} {b : Blk} : (b.renB g).len = b.len := by
 unfold Blk.renB
 cases b.closed with
 | true => rfl
 | false => exact len_ren
def Firm (loc : Loc) (id : Nat) : Prop := loc.m id ≠ .free ∧ loc.m id ≠ .nil
mutual
theorem sids_firm {w : World} {loc : Loc} {id : Nat} : ∀ (x : AV) (v : Value),R w loc x v → id ∈ x.sids → Firm loc id
 | .agg xs,v,h,hm => by
   cases h with
   | agg _ cs hl hx h => exact sidsL_firm xs cs hl h hm
 | .tup xs,v,h,hm => by
   cases h with
   | tup _ cs hl h => exact sidsL_firm xs cs hl h hm
 | .fn f xs,v,h,hm => by
   cases h with
   | fn _ _ cs hl h => exact sidsL_firm xs cs hl h hm
 | .ms k s off len,v,h,hm => by
   simp only [AV.sids] at hm
   by_cases h0 : 0 < len
   · rw [decide_eq_true h0] at hm
     obtain rfl : id = k := by simpa using hm
     cases h with
     | ms _ _ _ _ _ h =>
       refine ⟨fun e => by simp [Owns,e] at h,fun e => ?_⟩
       simp only [Owns,e] at h
       omega
   · rw [decide_eq_false h0] at hm; simp at hm
 | .rf k s i f,v,h,hm => by
   obtain rfl : id = k := by simpa [AV.sids] using hm
   cases h with
   | rf _ _ _ _ _ h => exact ⟨fun e => by simp [Points,e] at h,fun e => by simp [Points,e] at h⟩
 | .w _,_,_,hm => by simp [AV.sids] at hm
 | .str _,_,_,hm => by simp [AV.sids] at hm
 | .sb _ _,_,_,hm => by simp [AV.sids] at hm
 | .si _ _,_,_,hm => by simp [AV.sids] at hm
 | .sg _ _ _,_,_,hm => by simp [AV.sids] at hm
 | .cp _,_,_,hm => by simp [AV.sids] at hm
 | .junk,_,_,hm => by simp [AV.sids] at hm
theorem sidsL_firm {w : World} {loc : Loc} {id : Nat} : ∀ (xs : List AV) (vs : List Value),xs.length = vs.length → (∀ (j : Nat) (h : j < xs.length) (h' : j < vs.length),R w loc xs[j] vs[j]) → id ∈ sidsL xs → Firm loc id
 | [],_,_,_,hm => by simp [sidsL] at hm
 | x :: xs,[],hl,_,_ => by simp at hl
 | x :: xs,v :: vs,hl,h,hm => by
   simp only [sidsL,List.mem_append] at hm
   rcases hm with hm | hm
   · exact sids_firm x v (h 0 (by simp) (by simp)) hm
   · exact sidsL_firm xs vs (by simpa using hl) (fun j a b => h (j + 1) (by simpa using a) (by simpa using b)) hm
end
mutual
theorem sidsH_firm {w : World} {loc : Loc} {H : Heap} (hh : HR w loc H) {id : Nat} : ∀ (x : AV) (v : Value),R w loc x v → id ∈ x.sidsH H → Firm loc id
 | .agg xs,v,h,hm => by
   cases h with
   | agg _ cs hl hx h => exact zet hh xs cs hl h hm
 | .tup xs,v,h,hm => by
   cases h with
   | tup _ cs hl h => exact zet hh xs cs hl h hm
 | .fn f xs,v,h,hm => by
   cases h with
   | fn _ _ cs hl h => exact zet hh xs cs hl h hm
 | .ms k s off len,v,h,hm => by
   simp only [AV.sidsH] at hm
   by_cases h0 : 0 < len
   · rw [decide_eq_true h0] at hm
     exact sids_firm _ v h (by simp only [AV.sids]; rw [decide_eq_true h0]; exact hm)
   · rw [decide_eq_false h0] at hm
     simp only [cond_false] at hm
     cases hl : look H k with
     | none => rw [hl] at hm; simp [firmB] at hm
     | some b =>
       rw [hl] at hm
       simp only [firmB] at hm
       by_cases hb : 0 < b.len
       · rw [decide_eq_true hb] at hm
         obtain rfl : id = k := by simpa using hm
         have hfr : loc.m id ≠ .free := by
           cases h with
           | ms _ _ _ _ _ h => intro e; simp [Owns,e] at h
         refine ⟨hfr,fun e => ?_⟩
         obtain ⟨_,⟨_,q⟩ | ⟨c,hc,_⟩⟩ := hh.get hl hfr
         · omega
         · rw [hc] at e; cases e
       · rw [decide_eq_false hb] at hm; simp at hm
 | .rf k s i f,v,h,hm => by
   exact sids_firm _ v h (by simpa [AV.sids,AV.sidsH] using hm)
 | .w _,_,_,hm => by simp [AV.sidsH] at hm
 | .str _,_,_,hm => by simp [AV.sidsH] at hm
 | .sb _ _,_,_,hm => by simp [AV.sidsH] at hm
 | .si _ _,_,_,hm => by simp [AV.sidsH] at hm
 | .sg _ _ _,_,_,hm => by simp [AV.sidsH] at hm
 | .cp _,_,_,hm => by simp [AV.sidsH] at hm
 | .junk,_,_,hm => by simp [AV.sidsH] at hm
theorem zet {w : World} {loc : Loc} {H : Heap} (hh : HR w loc H) {id : Nat} : ∀ (xs : List AV) (vs : List Value),xs.length = vs.length → (∀ (j : Nat) (h : j < xs.length) (h' : j < vs.length),R w loc xs[j] vs[j]) → id ∈ sidsLH H xs → Firm loc id
 | [],_,_,_,hm => by simp [sidsLH] at hm
 | x :: xs,[],hl,_,_ => by simp at hl
 | x :: xs,v :: vs,hl,h,hm => by
   simp only [sidsLH,List.mem_append] at hm
   rcases hm with hm | hm
   · exact sidsH_firm hh x v (h 0 (by simp) (by simp)) hm
   · exact zet hh xs vs (by simpa using hl) (fun j a b => h (j + 1) (by simpa using a) (by simpa using b)) hm
end
theorem walk_live {w : World} {loc : Loc} {H : Heap} (hh : HR w loc H) : ∀ (ids good : List Nat),walk H good ids = true → (∀ id ∈ good,Firm loc id) → ∀ id ∈ ids,∃ b blk,loc.m id = .here b ∧ look H id = some blk ∧ blk.ok ∧ Lies w loc blk b
 | [],_,_,_,id,hid => by simp at hid
 | k :: r,good,hw,hg,id,hid => by
   simp only [walk,Bool.and_eq_true] at hw
   obtain ⟨h1,h2⟩ := hw
   have hk : k ∈ good := List.contains_iff_mem.1 h1
   cases hl : look H k with
   | none => simp [hl] at h2
   | some blk =>
     simp only [hl] at h2
     obtain ⟨hf,hn⟩ := hg k hk
     obtain ⟨hok,⟨e,_⟩ | ⟨b,hb,hlies⟩⟩ := hh.get hl hf
     · exact (hn e).elim
     · rcases List.mem_cons.1 hid with rfl | hid
       · exact ⟨b,blk,hb,hl,hok,hlies⟩
       · refine walk_live hh r _ h2 (fun id' hid' => ?_) id hid
         rcases List.mem_append.1 hid' with h | h
         · exact hg id' h
         · unfold Blk.sidsB at h
           cases hc : blk.closed with
           | true => rw [hc] at h; simp at h
           | false =>
             rw [hc] at h
             simp only [cond_false] at h
             cases blk with
             | o _ => simp at h
             | b _ => simp at h
             | i _ => simp at h
             | g s xs =>
               simp only at h
               obtain ⟨x,hx,h⟩ := sidsL_mem.1 h
               obtain ⟨y,hy,h⟩ := sids_leaves h
               have hyf : y ∈ (Blk.g s xs).flat := List.mem_flatMap.2 ⟨x,hx,hy⟩
               obtain ⟨j,hj,rfl⟩ := List.getElem_of_mem hyf
               obtain ⟨cur,e,fz,_,_,_,q4,q5⟩ := hlies.lies
               exact sids_firm _ _ (q5 j hj (by omega)).2 h
theorem allIn_mem {ids : List Nat} : ∀ {l : List Nat},allIn l ids = true → ∀ id ∈ l,id ∈ ids
 | [],_,id,h => by simp at h
 | k :: r,hl,id,h => by
   simp only [allIn,Bool.and_eq_true] at hl
   rcases List.mem_cons.1 h with rfl | h
   · exact List.contains_iff_mem.1 hl.1
   · exact allIn_mem hl.2 id h
theorem pinsIn_mem {H : Heap} {ids : List Nat} : ∀ {l : List Nat},pinsIn H ids l = true → ∀ id ∈ l,∀ b,look H id = some b → ∀ k ∈ b.idsB,k ∈ ids
 | [],_,id,h => by simp at h
 | i :: r,hl,id,h => by
   simp only [pinsIn,Bool.and_eq_true] at hl
   rcases List.mem_cons.1 h with rfl | h
   · intro b hb k hk
     rw [hb] at hl
     exact allIn_mem hl.1 k hk
   · exact pinsIn_mem hl.2 id h
theorem pinsR_get {H : Heap} {g : Nat → Nat} : ∀ {ids : List Nat},(∀ id ∈ ids,look H id ≠ none) → (pinsR H g ids).length = ids.length ∧ ∀ (k : Nat) (h : k < ids.length) (h' : k < (pinsR H g ids).length) (b : Blk),look H ids[k] = some b → (pinsR H g ids)[k] = b.renB g
 | [],_ => ⟨rfl,fun k h => by simp at h⟩
 | id :: r,hn => by
   obtain ⟨h1,h2⟩ := pinsR_get (g := g) (fun i hi => hn i (List.mem_cons_of_mem _ hi) : ∀ i ∈ r,look H i ≠ none)
   cases hl : look H id with
   | none => exact (hn id (by simp) hl).elim
   | some b =>
     have e : pinsR H g (id :: r) = b.renB g :: pinsR H g r := by simp [pinsR,hl]
     rw [e]
     refine ⟨by simp [h1],fun k h h' c hc => ?_⟩
     cases k with
     | zero => simp only [List.getElem_cons_zero] at hc ⊢; rw [hl] at hc; injection hc with hc; rw [hc]
     | succ k => simp only [List.getElem_cons_succ] at hc ⊢; exact h2 k (by simpa using h) (by rw [h1]; simpa using h) c hc
theorem idx_get {ids : List Nat} (hnd : ids.Nodup) (k : Nat) (h : k < ids.length) : idx ids[k] ids = k := by
 obtain ⟨h1,h2⟩ := idx_lt (List.getElem_mem h)
 rw [List.getElem?_eq_getElem h1] at h2
 injection h2 with h2
 exact zby hnd h2
theorem look_backO {g : Nat → Nat} {H : Heap} {b : Blk} : ∀ (bl : List Blk) (k id : Nat),look (backO g H k bl) id = some b → (∃ j,∃ h : j < bl.length,g (k + j) = id ∧ bl[j].isGone = false ∧ bl[j].renB g = b) ∨ (look H id = some b ∧ ∀ j,j < bl.length → g (k + j) ≠ id)
 | [],k,id,h => .inr ⟨h,fun j hj => by simp at hj⟩
 | c :: r,k,id,h => by
   have rest : look (backO g H (k + 1) r) id = some b → g k ≠ id → (∃ j,∃ h : j < (c :: r).length,g (k + j) = id ∧ (c :: r)[j].isGone = false ∧ (c :: r)[j].renB g = b) ∨ (look H id = some b ∧ ∀ j,j < (c :: r).length → g (k + j) ≠ id) := by
     intro h hne
     rcases look_backO r (k + 1) id h with ⟨j,hj,h1,h2⟩ | ⟨h1,h2⟩
     · exact .inl ⟨j + 1,by simpa using hj,by rw [← h1]; congr 1; omega,h2⟩
     · refine .inr ⟨h1,fun j hj => ?_⟩
       cases j with
       | zero => exact hne
       | succ j => have := h2 j (by simpa using hj); rw [show k + (j + 1) = k + 1 + j by omega]; exact this
   simp only [backO] at h
   cases hg : c.isGone with
   | true =>
     rw [hg] at h
     simp only [cond_true,look_drop] at h
     split at h
     · cases h
     · rename_i hne; exact rest h hne
   | false =>
     rw [hg] at h
     simp only [cond_false,zav] at h
     split at h
     · rename_i he
       injection h with h
       exact .inl ⟨0,by simp,he,hg,h⟩
     · rename_i hne; exact rest h hne
end Ax
end Go.Proofs.Ytlcijldkdpmknaa
namespace Go.Proofs.Ytlcijldkdpmknaa
namespace Ax
theorem lies_live {w : World} {loc : Loc} {blk : Blk} {b : Nat} (h : Lies w loc blk b) : ∀ id ∈ blk.idsB,loc.m id ≠ .free := by
 intro id hid
 cases hc : blk.closed with
 | true => unfold Blk.idsB at hid; rw [hc] at hid; simp at hid
 | false =>
   obtain ⟨y,hy,hyi⟩ := (flat_idsO hc).2 hid
   obtain ⟨j,hj,rfl⟩ := List.getElem_of_mem hy
   obtain ⟨cur,e,fz,_,_,_,q4,q5⟩ := h.lies (flat_odd hy)
   exact zdn _ _ (q5 j hj (by omega)).2 hyi
theorem call_postO {P : Program} {w0 : World} {E : Nat → Prop} {w : World} {loc : Loc} {H : Heap} (he : Env w0 E w loc) (hh : HR w loc H) {nm : Nat} (hfree : ∀ id,nm ≤ id → id < nm + 8 → loc.m id = .free) {SO : zal} (hS : ∀ f s,SO f = some s → SoundO P f s) {f : FuncId} {args : List AV} {vs : List Value}
   (hlen : args.length = vs.length) (hargs : ∀ (j : Nat) (h : j < args.length) (h' : j < vs.length),R w loc args[j] vs[j]) (hp : (aOpen SO nm f args H).p) :
   Calls P f vs.toArray w fun e w' => ∃ v loc',e = .returned v ∧ Post w0 E w loc true nm (aOpen SO nm f args H).x (aOpen SO nm f args H).H v w' loc' := by
 unfold aOpen at hp ⊢
 cases hsf : SO f with
 | none => simp [hsf,bad] at hp
 | some spec =>
   simp only [hsf,openOut] at hp ⊢
   generalize reach H 12 [] (idsL args) = ids at *
   obtain ⟨⟨hnd,hwalk,hain,hpin⟩,hsp,hb1,hb2⟩ := hp
   have hndp := zdu hnd
   have live := walk_live hh ids _ hwalk (fun id hid => zet hh args vs hlen hargs hid)
   have hlk : ∀ id ∈ ids,look H id ≠ none := fun id hid => by
     obtain ⟨b,blk,_,h,_⟩ := live id hid; rw [h]; simp
   obtain ⟨hpl,hpg⟩ := pinsR_get (H := H) (g := idxOf ids) hlk
   generalize hpins : pinsR H (idxOf ids) ids = pins at *
   let blockOf : Nat → Nat := fun id => match loc.m id with | .here b => b | _ => 0
   have hblk : ∀ id ∈ ids,loc.m id = .here (blockOf id) := by
     intro id hid
     obtain ⟨b,_,hb,_⟩ := live id hid
     simp only [blockOf,hb]
   have hpb : PB loc ids (ids.map blockOf) := ⟨by simp,fun k a b => by simpa using hblk _ (List.getElem_mem a)⟩
   have hpbn : (ids.map blockOf).Nodup := by
     refine List.pairwise_map.2 (hndp.imp_of_mem ?_)
     intro a b ha hb hab hq
     exact hab (he.inj a b _ (hblk a ha) (by rw [hq]; exact hblk b hb))
   generalize hpbe : ids.map blockOf = pb at *
   have hpbl : pb.length = ids.length := hpb.len
   have hmemMut : ∀ b,b ∈ pb → Mut loc b := fun b hb => by obtain ⟨id,_,h⟩ := hpb.mem hb; exact .inr ⟨id,h⟩
   let bad' : Nat → Prop := fun b => Mut loc b ∧ ¬ b ∈ pb
   have hbad' : ∀ b,bad' b → Mut loc b := fun b h => h.1
   have hmutlt : ∀ b,Mut loc b → b < w.heap.size := by
     rintro b (h | ⟨k,h⟩)
     · have := (he.bad b h).1; have := he.size; omega
     · exact (he.lies k b h).1
   have hMl : ∀ b,b < w.heap.size → Mut (zba pb bad') b → Mut loc b := fun b _ hb => by
     rcases mut_locOf.1 hb with h | h
     · exact hbad' b h
     · exact hmemMut b h
   have hg0 : ∀ id ∈ ids,(zba pb bad').m (idxOf ids id) = loc.m id := by
     intro id hid
     obtain ⟨k,hk,rfl⟩ := List.getElem_of_mem hid
     have : idxOf ids ids[k] = k := idx_get hndp k hk
     rw [this,hpb.at_ k hk (by omega)]
     simp only [zba]
     rw [List.getElem?_eq_getElem (by omega : k < pb.length)]
   obtain ⟨a1,a2⟩ := zbc (idxOf ids) args
   have hargs2 : ∀ (j : Nat) (h : j < (renL (idxOf ids) args).length) (h' : j < vs.length),R w (zba pb bad') (renL (idxOf ids) args)[j] vs[j] := by
     intro j h h'
     rw [a2 j h (by rw [← a1]; exact h)]
     exact ren_on hMl (hargs j (by rw [← a1]; exact h) h') (fun id hid => hg0 id (allIn_mem hain id (idsL_mem.2 ⟨_,List.getElem_mem _,hid⟩)))
   have hpinlies : ∀ (k : Nat) (h : k < pins.length) (h' : k < pb.length),pins[k].ok ∧ Lies w (zba pb bad') pins[k] pb[k] := by
     intro k h h'
     have hki : k < ids.length := by omega
     obtain ⟨b,blk,q1,q2,q3,q4⟩ := live ids[k] (List.getElem_mem hki)
     have h5 := hpb.at_ k hki h'
     rw [q1] at h5; injection h5 with h5; subst h5
     rw [hpg k hki h blk q2]
     exact ⟨ok_renB q3,lies_renB hMl (fun id hid => hg0 id (pinsIn_mem hpin _ (List.getElem_mem hki) blk q2 id hid)) q4⟩
   have hcall := hS f spec hsf _ pins hsp w bad' pb vs (by omega) hpbn (fun b h => ⟨hmutlt b h.1,h.2⟩) hpinlies (by rw [a1,hlen]) hargs2
   refine hcall.mono ?_
   rintro e w' ⟨v,loc',rfl,hg⟩
   generalize hres : spec (renL (idxOf ids) args) pins = res at *
   classical
   let loc2 : Loc := { m := fun id => if nm ≤ id ∧ id < nm + 8 then loc'.m (ids.length + (id - nm)) else if id ∈ ids then loc'.m (idx id ids) else loc.m id,bad := loc.bad }
   have hidsr : ∀ id ∈ ids,¬ (nm ≤ id ∧ id < nm + 8) := by
     intro id hid h
     have := hfree id h.1 h.2
     rw [hblk id hid] at this; cases this
   have h2new : ∀ k,ids.length ≤ k → k < ids.length + 8 → loc2.m (nm + (k - ids.length)) = loc'.m k := by
     intro k a b
     simp only [loc2]
     rw [if_pos (by omega)]
     congr 1; omega
   have h2pin : ∀ (k : Nat) (hk : k < ids.length),loc2.m ids[k] = loc'.m k := by
     intro k hk
     simp only [loc2]
     rw [if_neg (hidsr _ (List.getElem_mem hk)),if_pos (List.getElem_mem hk),idx_get hndp k hk]
   have h2old : ∀ id,¬ (nm ≤ id ∧ id < nm + 8) → ¬ id ∈ ids → loc2.m id = loc.m id := fun id h h' => by
     simp only [loc2]; rw [if_neg h,if_neg h']
   have hblt : ∀ k,loc'.m k ≠ .free → k < res.bl.length := by
     intro k hk
     rcases Nat.lt_or_ge k res.bl.length with h | h
     · exact h
     · exact (hk (hg.none k h)).elim
   have hgm : ∀ k,loc'.m k ≠ .free → loc2.m (gOf ids nm k) = loc'.m k := by
     intro k hk
     by_cases hki : k < ids.length
     · rw [zdz hki,h2pin k hki]
     · have := hblt k hk
       rw [zdk (by omega)]
       exact h2new k (by omega) (by omega)
   -- what a name stands for
   have hcase : ∀ i b,loc2.m i = .here b → (∃ k,loc'.m k = .here b ∧ i = gOf ids nm k) ∨ (¬ i ∈ ids ∧ ¬ (nm ≤ i ∧ i < nm + 8) ∧ loc.m i = .here b) := by
     intro i b h
     by_cases hr : nm ≤ i ∧ i < nm + 8
     · simp only [loc2] at h
       rw [if_pos hr] at h
       exact .inl ⟨_,h,by rw [zdk (by omega)]; omega⟩
     · by_cases hi : i ∈ ids
       · obtain ⟨k,hk,rfl⟩ := List.getElem_of_mem hi
         rw [h2pin k hk] at h
         exact .inl ⟨k,h,by rw [zdz hk]⟩
       · exact .inr ⟨hi,hr,by rw [← h2old i hr hi]; exact h⟩
   have hwhere : ∀ k b,loc'.m k = .here b → (b ∈ pb ∨ w.heap.size ≤ b) ∧ b < w'.heap.size := by
     intro k b h
     by_cases hk : k < pb.length
     · rcases hg.old k hk with h1 | h1
       · rw [h] at h1; injection h1 with h1; subst h1
         refine ⟨.inl (List.getElem_mem hk),?_⟩
         have := hmutlt _ (hmemMut _ (List.getElem_mem hk))
         have := hg.fram.size
         omega
       · rw [h] at h1; cases h1
     · obtain ⟨h1,h2⟩ := hg.new k b (by omega) h
       exact ⟨h1.symm,h2⟩
   have hnotpb : ∀ i b,¬ i ∈ ids → loc.m i = .here b → ¬ b ∈ pb := by
     intro i b hi h hb
     obtain ⟨id',hid',hb'⟩ := hpb.mem hb
     exact hi (he.inj i id' b h hb' ▸ hid')
   have hbadpb : ∀ b,loc.bad b → ¬ b ∈ pb := by
     intro b h hb
     obtain ⟨id',_,hb'⟩ := hpb.mem hb
     have h1 := he.bad b h
     rcases (he.lies id' b hb').2 with h2 | h2
     · omega
     · exact h1.2 h2
   have hM : ∀ b,b < w'.heap.size → Mut loc2 b → Mut loc' b := by
     rintro b _ (h | ⟨i,h⟩)
     · left
       rw [hg.bad]
       exact ⟨.inl h,hbadpb b h⟩
     · rcases hcase i b h with ⟨k,h1,_⟩ | ⟨h1,h2,h3⟩
       · exact .inr ⟨k,h1⟩
       · left
         rw [hg.bad]
         exact ⟨.inr ⟨i,h3⟩,hnotpb i b h1 h3⟩
   have hwsz := hg.fram.size
   have hext : Ext (fun id => id ∈ ids) w loc w' loc2 := by
     refine ⟨hwsz,fun id h hC => h2old id (fun hq => h (hfree id hq.1 hq.2)) hC,fun id h hC => ?_,fun b hb hm => ⟨?_,fun h => ?_⟩,fun id b hb hC => ?_,fun b cur e fz hc => ?_⟩
     · obtain ⟨k,hk,rfl⟩ := List.getElem_of_mem hC
       rw [h2pin k hk,hpb.at_ k hk (by omega)]
       exact hg.old k (by omega)
     · exact hg.fram.same b hb (fun h => hm (hmemMut b h))
     · rcases h with h | ⟨i,h⟩
       · exact hm (.inl h)
       · rcases hcase i b h with ⟨k,h1,_⟩ | ⟨_,_,h3⟩
         · rcases (hwhere k b h1).1 with h2 | h2
           · exact hm (hmemMut b h2)
           · omega
         · exact hm (.inr ⟨i,h3⟩)
     · exact hg.fram.same b (he.lies id b hb).1 (hnotpb id b hC hb)
     · by_cases hbp : b ∈ pb
       · exact hg.fram.shape b cur e fz hbp hc
       · exact ⟨cur,fz,(hg.fram.same b (Array.getElem?_eq_some_iff.1 hc).1 hbp).trans hc,rfl⟩
   have hr : R w' loc2 (res.x.ren (gOf ids nm)) v := ren_sound hgm hg.r (.inr hM)
   have hh2 : HR w' loc2 (backO (gOf ids nm) H 0 res.bl) := by
     intro id b hb
     rcases look_backO res.bl 0 id hb with ⟨j,hj,h1,h2,h3⟩ | ⟨h1,h2⟩
     · rw [Nat.zero_add] at h1
       rcases hg.bl j hj with ⟨k1,_⟩ | ⟨k1,k2,k3⟩
       · rw [k1] at h2; cases h2
       · have := hgm j k2
         rw [h1] at this
         unfold BlkR at k1 ⊢
         rw [this,← h3]
         cases hloc : loc'.m j with
         | free => trivial
         | dead => exact (k3 hloc).elim
         | nil => rw [hloc] at k1; exact ⟨ok_renB k1.1,by rw [len_renB]; exact k1.2⟩
         | here c => rw [hloc] at k1; exact ⟨ok_renB k1.1,lies_renB hM (fun id' hid' => hgm id' (lies_live k1.2 id' hid')) k1.2⟩
     · have hni : ¬ id ∈ ids := by
         intro hid
         obtain ⟨k,hk,rfl⟩ := List.getElem_of_mem hid
         refine h2 k (by omega) ?_
         rw [Nat.zero_add,zdz hk]
       by_cases hfr : loc.m id = .free
       · by_cases hk : nm ≤ id ∧ id < nm + 8
         · have hnone : loc'.m (ids.length + (id - nm)) = .free := by
             refine hg.none _ ?_
             rcases Nat.lt_or_ge (ids.length + (id - nm)) res.bl.length with h | h
             · exfalso
               refine h2 _ h ?_
               rw [Nat.zero_add,zdk (by omega)]; omega
             · exact h
           exact BlkR.free (by simp only [loc2]; rw [if_pos hk]; exact hnone)
         · exact BlkR.free (by rw [h2old id hk hni]; exact hfr)
       · exact (hh id b h1).ext hext hni hfr
   have hE9 : ∀ id b,id ∈ ids → loc.m id = .here b → b < w'.heap.size ∧ (w0.heap.size ≤ b ∨ E b) := by
     intro id b _ h
     have := he.lies id b h
     exact ⟨by omega,this.2⟩
   have henv : Env w0 E w' loc2 := by
     refine ⟨hg.fram.os.trans he.os,hg.fram.tape.trans he.tape,hg.fram.output.trans he.output,by have := he.size; omega,fun b hb hE => ?_,?_,?_,he.bad⟩
     · rw [hg.fram.same b (by have := he.size; omega) (fun h => ?_)]
       · exact he.same b hb hE
       · obtain ⟨id,_,hid⟩ := hpb.mem h
         rcases (he.lies id b hid).2 with h | h
         · omega
         · exact hE h
     · intro i j b hi hj
       rcases hcase i b hi with ⟨k1,h1,e1⟩ | ⟨h1,_,h3⟩
       · rcases hcase j b hj with ⟨k2,h2,e2⟩ | ⟨h2,_,h4⟩
         · have := hg.inj k1 k2 b h1 h2
           rw [e1,e2,this]
         · exfalso
           rcases (hwhere k1 b h1).1 with h5 | h5
           · exact hnotpb j b h2 h4 h5
           · have := (he.lies j b h4).1; omega
       · rcases hcase j b hj with ⟨k2,h2,e2⟩ | ⟨h2,_,h4⟩
         · exfalso
           rcases (hwhere k2 b h2).1 with h5 | h5
           · exact hnotpb i b h1 h3 h5
           · have := (he.lies i b h3).1; omega
         · exact he.inj i j b h3 h4
     · intro i b hi
       rcases hcase i b hi with ⟨k1,h1,_⟩ | ⟨_,_,h3⟩
       · obtain ⟨h5,h6⟩ := hwhere k1 b h1
         refine ⟨h6,?_⟩
         rcases h5 with h5 | h5
         · obtain ⟨id,_,hid⟩ := hpb.mem h5
           exact (he.lies id b hid).2
         · exact .inl (by have := he.size; omega)
       · have := he.lies i b h3
         exact ⟨by omega,this.2⟩
   have hfresh : ∀ id,loc.m id = .free → loc2.m id ≠ .free → nm ≤ id ∧ id < nm + 8 := by
     intro id h1 h2
     by_cases hk : nm ≤ id ∧ id < nm + 8
     · exact hk
     · refine (h2 ?_).elim
       rw [h2old id hk (fun hid => by rw [hblk id hid] at h1; cases h1)]
       exact h1
   exact ⟨v,loc2,rfl,⟨hr,hh2,henv,⟨_,hext,fun h => by cases h⟩,hfresh,rfl⟩⟩
end Ax
end Go.Proofs.Ytlcijldkdpmknaa
namespace Go.Proofs.Ytlcijldkdpmknaa
namespace Ax
open Go.RowKit
def idsAt (H : Heap) (id : Nat) : List Nat := match look H id with
 | some b => b.idsB
 | none => []
def idsAtL (H : Heap) : List Nat → List Nat
 | [] => []
 | id :: r => idsAt H id ++ idsAtL H r
def reachE (H : Heap) : Nat → List Nat → List Nat → List Nat
 | 0,acc,_ => acc
 | _ + 1,acc,[] => acc
 | n + 1,acc,id :: r => bif acc.contains id then reachE H n acc r else reachE H n (acc ++ [id]) (r ++ idsAt H id)
def endIds (H : Heap) (pins : List Blk) (x : AV) : List Nat := reachE H 12 (upTo 0 pins) (x.ids ++ idsAtL H (upTo 0 pins))
def walkI (H : Heap) : List Nat → List Nat → Bool
 | _,[] => true
 | good,id :: r => good.contains id && walkI H (good ++ idsAt H id) r
def matchE (g : Nat → Nat) (H : Heap) : Nat → List Nat → List Blk → Prop
 | _,[],[] => True
 | m,id :: r,b :: bl => (match look H id with
   | some c => b.isGone = false ∧ b.renB g = c
   | none => 0 < m ∧ b = gone) ∧ matchE g H (m - 1) r bl
 | _,_,_ => False
def EndsXO (pins : List Blk) (q : Res) (x : AV) (σ : ASt) : Prop :=
 nodup (endIds σ.H pins x) = true ∧ (endIds σ.H pins x).take pins.length = upTo 0 pins ∧ walkI σ.H (upTo 0 pins ++ x.ids) (endIds σ.H pins x) = true ∧
   matchE (gOf (endIds σ.H pins x) σ.nx) σ.H pins.length (endIds σ.H pins x) q.bl ∧ q.x.ren (gOf (endIds σ.H pins x) σ.nx) = x
def EndsO (T : zac) (rs : List ResultVar) (pins : List Blk) (q : Res) : Exit → ASt → Prop
 | .normal,σ => (rvals T σ.H σ.sl rs).1 ∧ EndsXO pins q (rone (rvals T σ.H σ.sl rs).2) σ
 | .ret,σ => (rvals T σ.H σ.sl rs).1 ∧ EndsXO pins q (rone (rvals T σ.H σ.sl rs).2) σ
 | _,_ => False
def EndsWO (T : zac) (rs : List ResultVar) (pins : List Blk) (q : Res) : Exit → ASt → Prop := fun e σ => ∃ σ',Weak σ σ' ∧ EndsO T rs pins q e σ'
theorem idsB_nil {b : Blk} (h : b.len = 0) : b.idsB = [] := by
 unfold Blk.idsB
 cases hc : b.closed with
 | true => rfl
 | false =>
   cases b with
   | g s xs =>
     have : xs = [] := List.eq_nil_of_length_eq_zero h
     subst this; rfl
   | _ => rfl
theorem walkI_live {w : World} {loc : Loc} {H : Heap} (hh : HR w loc H) : ∀ (ids good : List Nat),walkI H good ids = true → (∀ id ∈ good,loc.m id ≠ .free) → ∀ id ∈ ids,loc.m id ≠ .free
 | [],_,_,_,id,hid => by simp at hid
 | k :: r,good,hw,hg,id,hid => by
   simp only [walkI,Bool.and_eq_true] at hw
   have hk : k ∈ good := List.contains_iff_mem.1 hw.1
   rcases List.mem_cons.1 hid with rfl | hid
   · exact hg _ hk
   · refine walkI_live hh r _ hw.2 (fun id' hid' => ?_) id hid
     rcases List.mem_append.1 hid' with h | h
     · exact hg id' h
     · unfold idsAt at h
       cases hl : look H k with
       | none => rw [hl] at h; simp at h
       | some b =>
         rw [hl] at h
         simp only at h
         obtain ⟨hok,⟨_,e⟩ | ⟨c,hc,hlies⟩⟩ := hh.get hl (hg k hk)
         · rw [idsB_nil e] at h; simp at h
         · exact lies_live hlies id' h
theorem matchE_get {g : Nat → Nat} {H : Heap} : ∀ {m : Nat} {ids : List Nat} {bl : List Blk},matchE g H m ids bl → bl.length = ids.length ∧ ∀ (k : Nat) (h : k < ids.length) (h' : k < bl.length),(∃ c,look H ids[k] = some c ∧ bl[k].isGone = false ∧ bl[k].renB g = c) ∨ (look H ids[k] = none ∧ k < m ∧ bl[k] = gone)
 | m,[],[],_ => ⟨rfl,fun k h => by simp at h⟩
 | m,[],_ :: _,h => h.elim
 | m,_ :: _,[],h => h.elim
 | m,id :: r,b :: bl,h => by
   simp only [matchE] at h
   obtain ⟨h1,h2⟩ := matchE_get h.2
   refine ⟨by simp [h1],fun k a a' => ?_⟩
   cases k with
   | zero =>
     simp only [List.getElem_cons_zero]
     cases hl : look H id with
     | none => rw [hl] at h; exact .inr ⟨rfl,h.1.1,h.1.2⟩
     | some c => rw [hl] at h; exact .inl ⟨c,rfl,h.1.1,h.1.2⟩
   | succ k =>
     simp only [List.getElem_cons_succ]
     rcases h2 k (by simpa using a) (by simpa using a') with h3 | ⟨h3,h4,h5⟩
     · exact .inl h3
     · exact .inr ⟨h3,by omega,h5⟩
theorem ok_unrenB {g : Nat → Nat} {b : Blk} (h : (b.renB g).ok) : b.ok := by
 unfold Blk.renB at h
 cases hc : b.closed with
 | true => rw [hc] at h; exact h
 | false => rw [hc] at h; exact ok_ren h
theorem lies_unrenB {w : World} {loc loc2 : Loc} {g : Nat → Nat} (hg : ∀ k,loc2.m k = loc.m (g k)) (hb : loc2.bad = loc.bad) {blk : Blk} {b : Nat} (h : Lies w loc (blk.renB g) b) : Lies w loc2 blk b := by
 unfold Blk.renB at h
 cases hc : blk.closed with
 | true =>
   rw [hc] at h
   refine zew h hc (.inr ?_)
   rintro c _ (h | ⟨i,h⟩)
   · exact .inl (hb ▸ h)
   · exact .inr ⟨g i,(hg i) ▸ h⟩
 | false => rw [hc] at h; exact lies_unren hg hb h
theorem sound_genO {P : Program} {T : zac} (hT : TOk P T) {f : FuncId} {fn : Func} {c : Code} (hf : P.funcs[f]? = some fn) (hb : fn.body = some c) {spec : zam} {Qp : List AV → List Blk → Exit → ASt → Prop}
   (hqp : ∀ xs pins e σ,Qp xs pins e σ → ∃ σ',Weak σ σ' ∧ EndsO T fn.results.toList pins (spec xs pins) e σ')
   (h : ∀ xs pins,(spec xs pins).p → pins.length ≤ 4 ∧ ∀ w0 E B a w,Rel w0 E B ⟨xs ++ List.replicate (fn.ntmps - xs.length) .junk,pinHeap 0 pins,4⟩ a w → c.wp P (Low w0 E B (Qp xs pins)) a w)   : SoundO P f spec := by
 intro xs pins hp w bad pb vs hlen hnd hbad hlies hxl hx
 obtain ⟨hp4,h⟩ := h xs pins hp
 refine calls_of_wp hf hb ?_
 have hrel : Rel w (· ∈ pb) ⟨bad,pb⟩ ⟨xs ++ List.replicate (fn.ntmps - xs.length) .junk,pinHeap 0 pins,4⟩ { tmps := vs.toArray ++ Array.replicate (fn.ntmps - vs.toArray.size) undef,defers := [] } w := by
   refine ⟨zba pb bad,⟨⟨rfl,fun k hk cur e fz hh => ⟨cur,fz,hh,rfl⟩⟩,by simp only; omega,fun k hk => .inr ⟨by simp [zba,List.getElem?_eq_getElem hk],fun cur e fz hh => ⟨cur,fz,hh,rfl⟩⟩⟩,?_⟩
   refine ⟨by simp [hxl],fun t => ?_,?_,?_,?_,rfl,fun id b hl => ?_⟩
   · simp only
     rw [zcz]
     by_cases ht : t < xs.length
     · have e1 : (xs ++ List.replicate (fn.ntmps - xs.length) AV.junk).getD t .junk = xs[t] := by simp [List.getElem?_append_left,ht]
       have e2 : (vs.toArray ++ Array.replicate (fn.ntmps - vs.toArray.size) undef).getD t undef = vs[t]'(by omega) := by
         have : t < vs.length := by omega
         simp [Array.getD_eq_getD_getElem?,Array.getElem?_append,this]
       rw [e1,e2]
       exact hx t ht _
     · have e1 : (xs ++ List.replicate (fn.ntmps - xs.length) AV.junk).getD t .junk = .junk := by
         rw [List.getD_eq_getElem?_getD,List.getElem?_append_right (by omega),List.getElem?_replicate]
         split <;> rfl
       rw [e1]; exact .junk _
   · intro id b hl
     obtain ⟨j,hj,rfl,rfl⟩ := zbm pins 0 id b hl
     have hj' : j < pb.length := by omega
     unfold BlkR
     have : (zba pb bad).m (0 + j) = .here pb[j] := by simp [zba,List.getElem?_eq_getElem hj']
     rw [this]
     exact hlies j hj hj'
   · refine ⟨rfl,rfl,rfl,Nat.le_refl _,fun _ _ _ => rfl,?_,?_,?_⟩
     · intro i j b hi hj
       obtain ⟨h1,h2⟩ := zbv hi
       obtain ⟨h3,h4⟩ := zbv hj
       exact zby hnd (h2.trans h4.symm)
     · intro i b hi
       obtain ⟨h1,h2⟩ := zbv hi
       subst h2
       refine ⟨?_,.inr (List.getElem_mem h1)⟩
       obtain ⟨ob,hh⟩ := lies_live2 (hlies i (by omega) h1).2
       rcases Nat.lt_or_ge pb[i] w.heap.size with h' | h'
       · exact h'
       · rw [Array.getElem?_eq_none h'] at hh; cases hh
     · exact fun b hb => hbad b hb
   · intro id hid
     simp only at hid
     have : pb[id]? = none := List.getElem?_eq_none (by omega)
     simp [zba,this]
   · obtain ⟨j,hj,rfl,_⟩ := zbm pins 0 id b hl
     simp; omega
 refine wp_mono (h _ _ _ _ w hrel) ?_
 have main : ∀ a w' σ,Rel w (· ∈ pb) ⟨bad,pb⟩ σ a w' → (rvals T σ.H σ.sl fn.results.toList).1 ∧ EndsXO pins (spec xs pins) (rone (rvals T σ.H σ.sl fn.results.toList).2) σ →
     a.defers = [] ∧ ∃ v,(results fn a.tmps).run P w' = .ok v w' ∧ ∃ v' loc',Ending.returned v = .returned v' ∧ GivesO w bad pb (spec xs pins) v' w' loc' := by
   rintro a w' σ ⟨loc,hB,hr⟩ ⟨hrv,hnodup,htake,hwalk,hmatch,hren⟩
   obtain ⟨v,hv,hR⟩ := results_R (P := P) (fn := fn) hT hr.heap hr.slots hrv
   refine ⟨hr.defers,v,hv,v,?_⟩
   generalize rone (rvals T σ.H σ.sl fn.results.toList).2 = x at hnodup htake hwalk hmatch hren hR
   have hnd' := zdu hnodup
   obtain ⟨hu1,hu2⟩ := upTo_get pins 0
   generalize hids : endIds σ.H pins x = ids at hnodup htake hwalk hmatch hren hnd'
   obtain ⟨hml,hmg⟩ := matchE_get hmatch
   have hm : pins.length ≤ ids.length := by
     have := congrArg List.length htake
     rw [List.length_take,hu1] at this; omega
   have hold : ∀ k,(hk : k < pins.length) → ids[k]'(by omega) = k := by
     intro k hk
     have h1 : (ids.take pins.length)[k]'(by rw [List.length_take]; omega) = ids[k]'(by omega) := List.getElem_take
     have h2 : (ids.take pins.length)[k]'(by rw [List.length_take]; omega) = (upTo 0 pins)[k]'(by omega) := by congr 1
     rw [← h1,h2,hu2 k (by omega)]; omega
   have hpinlive : ∀ k,k < pins.length → loc.m k ≠ .free := by
     intro k hk
     have hk' : k < pb.length := by omega
     rcases hB.2.2 k hk' with h1 | ⟨h1,_⟩ <;> rw [h1] <;> simp
   have hliveAll := walkI_live hr.heap ids (upTo 0 pins ++ x.ids) hwalk (fun id hid => by
     rcases List.mem_append.1 hid with h | h
     · obtain ⟨j,hj,rfl⟩ := List.getElem_of_mem h
       rw [hu2 j hj,Nat.zero_add]; exact hpinlive j (by omega)
     · exact zdn x v hR h)
   have hlive : ∀ (k : Nat) (hk : k < ids.length),loc.m ids[k] ≠ .free := fun k hk => hliveAll _ (List.getElem_mem hk)
   classical
   -- what was given up is forgotten
   let C : Nat → Prop := fun id => id < pins.length ∧ look σ.H id = none ∧ loc.m id ≠ .free
   let loc1 : Loc := { m := fun id => if C id then .dead else loc.m id,bad := loc.bad }
   have h1out : ∀ id,¬ C id → loc1.m id = loc.m id := fun id h => by simp only [loc1]; rw [if_neg h]
   have h1in : ∀ id,C id → loc1.m id = .dead := fun id h => by simp only [loc1]; rw [if_pos h]
   have h1here : ∀ id b,loc1.m id = .here b → loc.m id = .here b ∧ ¬ C id := by
     intro id b h
     by_cases hC : C id
     · rw [h1in id hC] at h; cases h
     · exact ⟨by rw [← h1out id hC]; exact h,hC⟩
   have hM1 : ∀ b,Mut loc1 b → Mut loc b := by
     rintro b (h | ⟨k,h⟩)
     · exact .inl h
     · exact .inr ⟨k,(h1here k b h).1⟩
   have hE1 : Ext C w' loc w' loc1 := ⟨Nat.le_refl _,fun id _ h => h1out id h,fun id _ h => .inr (h1in id h),fun b _ hm => ⟨rfl,fun h => hm (hM1 b h)⟩,fun _ _ _ _ => rfl,fun _ cur _ fz h => ⟨cur,fz,h,rfl⟩⟩
   let g : Nat → Nat := gOf ids σ.nx
   have hgo : ∀ k,(hk : k < ids.length) → g k = ids[k] := fun k hk => zdz hk
   have hgn : ∀ k,ids.length ≤ k → loc1.m (g k) = .free := by
     intro k hk
     have h0 : loc.m (g k) = .free := by
       refine hr.fresh _ ?_
       show σ.nx ≤ gOf _ σ.nx k
       rw [zdk hk]; omega
     rw [h1out _ (fun h => h.2.2 h0)]; exact h0
   let loc' : Loc := { m := fun k => loc1.m (g k),bad := loc.bad }
   have hlt : ∀ i b,loc'.m i = .here b → i < ids.length := by
     intro i b hi
     rcases Nat.lt_or_ge i ids.length with h' | h'
     · exact h'
     · have : loc'.m i = .free := hgn i h'
       rw [this] at hi; cases hi
   have hinj : ∀ i j b,loc'.m i = .here b → loc'.m j = .here b → i = j := by
     intro i j b hi hj
     have h1 := hlt i b hi
     have h2 := hlt j b hj
     have h3 : g i = g j := hr.env.inj (g i) (g j) b (h1here _ _ hi).1 (h1here _ _ hj).1
     rw [hgo i h1,hgo j h2] at h3
     exact zby hnd' h3
   refine ⟨loc',rfl,?_⟩
   refine ⟨unren (loc := loc1) (loc2 := loc') (g := g) (fun _ => rfl) rfl (hR.ext hE1) _ hren,hB.1.1,?_,?_,?_,?_,hinj,?_⟩
   · intro k hk
     have hk' : k < ids.length := by omega
     have e : loc'.m k = loc1.m ids[k] := by show loc1.m (g k) = _; rw [hgo k hk']
     rcases hmg k hk' hk with ⟨c,q1,q2,q3⟩ | ⟨q1,q2,q3⟩
     · right
       have hnC : ¬ C ids[k] := fun h => by rw [h.2.1] at q1; cases q1
       have hb := hr.heap _ _ q1
       rw [e,h1out _ hnC]
       refine ⟨?_,hlive k hk',fun hd => by unfold BlkR at hb; rw [hd] at hb; exact hb⟩
       unfold BlkR at hb ⊢
       rw [e,h1out _ hnC]
       split
       · trivial
       · rename_i e'; rw [e'] at hb; exact hb
       · rename_i e'; rw [e'] at hb
         rw [← q3] at hb
         exact ⟨ok_unrenB hb.1,by rw [← len_renB (g := g)]; exact hb.2⟩
       · rename_i b e'
         rw [e'] at hb
         rw [← q3] at hb
         have h9 : Lies w' loc1 ((spec xs pins).bl[k].renB g) b := by
           have := (BlkR.ext hE1 hnC (hlive k hk') (hr.heap _ _ q1))
           unfold BlkR at this
           rw [h1out _ hnC,e'] at this
           rw [q3]; exact this.2
         exact ⟨ok_unrenB hb.1,lies_unrenB (loc := loc1) (loc2 := loc') (g := g) (fun _ => rfl) rfl h9⟩
     · left
       have hkp : k < pins.length := q2
       have hC : C ids[k] := ⟨by rw [hold k hkp]; exact hkp,q1,hlive k hk'⟩
       exact ⟨by rw [q3]; rfl,by rw [e]; exact h1in _ hC⟩
   · intro k hk
     have hk1 : k < pins.length := by omega
     have e : loc'.m k = loc1.m k := by show loc1.m (g k) = _; rw [hgo k (by omega),hold k hk1]
     rw [e]
     by_cases hC : C k
     · exact .inr (h1in k hC)
     · rw [h1out k hC]
       rcases hB.2.2 k hk with h1 | ⟨h1,_⟩
       · exact .inr h1
       · exact .inl h1
   · intro k b hk hkb
     have := hr.env.lies (g k) b (h1here _ _ hkb).1
     exact ⟨this.2,this.1⟩
   · intro k hk
     exact hgn k (by omega)
   · refine ⟨hr.env.os,hr.env.tape,hr.env.output,hr.env.size,hr.env.same,?_⟩
     rintro b cur e fz hb hh
     obtain ⟨j,hj,rfl⟩ := List.getElem_of_mem hb
     exact hB.1.2 j hj cur e fz hh
 rintro e a w' ⟨σ0,hr0,hq0⟩
 obtain ⟨σ,hwk,hq⟩ := hqp xs pins e σ0 hq0
 have hr := hwk _ _ _ _ _ hr0
 cases e with
 | normal => exact main a w' σ hr hq
 | ret => exact main a w' σ hr hq
 | _ => exact hq.elim
end Ax
end Go.Proofs.Ytlcijldkdpmknaa
namespace Go.Proofs.Ytlcijldkdpmknaa
namespace Ax
def tailFB (f k : Nat) (ops : List Oper) : Bool :=
 let ms := masks [] ops
 (List.range ops.length).all fun j => match ops[j]? with
   | some y => backB j y.after.toList && (decide (j < k) || (List.range j).all fun i => (ms.getD j 0).testBit i || (decide (j = k) && decide (i = f)))
   | none => true
def tailB (k : Nat) (ops : List Oper) : Bool := tailFB k k ops
theorem zdr {f k : Nat} {ops : List Oper} (h : tailFB f k ops = true) {j : Nat} {y : Oper} (hy : ops[j]? = some y) :
   (∀ e ∈ y.after.toList,Region.binds .any e = true → e.on < j) ∧ (k ≤ j → ∀ i,i < j → (k < j ∨ i ≠ f) → ((masks [] ops).getD j 0).testBit i = true) := by
 unfold tailFB at h
 have := List.all_eq_true.1 h j (List.mem_range.2 (List.getElem?_eq_some_iff.1 hy).1)
 simp only [hy,Bool.and_eq_true,Bool.or_eq_true,decide_eq_true_eq] at this
 refine ⟨backB_get this.1,fun hk i hi hif => ?_⟩
 rcases this.2 with h1 | h1
 · omega
 · have := List.all_eq_true.1 h1 i (List.mem_range.2 hi)
   simp only [Bool.or_eq_true,Bool.and_eq_true,decide_eq_true_eq] at this
   rcases this with h2 | ⟨h2,h3⟩
   · exact h2
   · omega
def floatB (T : zac) (o : Oper) : Bool := o.after.toList.isEmpty && decide (zah T o.op = 0)
theorem guardSlot_app {l : List Oper} (suf : List Oper) {j : Nat} {d : Tmp} (h : guardSlot l j = some d) : guardSlot (l ++ suf) j = some d := by
 unfold guardSlot at h ⊢
 cases hj : l[j]? with
 | none => rw [hj] at h; cases h
 | some o =>
   rw [hj] at h
   rw [List.getElem?_append_left (List.getElem?_eq_some_iff.1 hj).1,hj]
   exact h
section
variable {P : Program} {S : zal} {T : zac} {l suf : List Oper} {nm fl : Nat} {s0 : List AV × Heap} {w0 : World} {E : Nat → Prop} {B : Bs}
theorem tail_run (ht : tailFB fl l.length (l ++ suf) = true) {K : Exit → Act → World → Prop} : ∀ (fuel t : Nat) (listed : Array Bool) (a : Act) (w : World),listed.size = l.length + suf.length → t ≤ suf.length → (∀ j,Ls listed j ↔ j < l.length + t) → suf.length - t ≤ fuel →
   wpList P (l ++ suf).toArray K (suf.drop t) a w → wpAny P .any (l ++ suf).toArray K fuel listed a w := by
 intro fuel
 have hnl : ∀ {listed : Array Bool} {j : Nat},listed.getD j true = false → ¬ Ls listed j := fun h h' => by unfold Ls at h'; rw [getD_both h] at h'; cases h'
 induction fuel with
 | zero =>
   intro t listed a w hs ht1 hL hf h
   obtain rfl : t = suf.length := by omega
   rw [List.drop_length] at h
   refine ⟨?_,h⟩
   cases hr : Region.ready .any (l ++ suf).toArray listed with
   | nil => rfl
   | cons j r =>
     exfalso
     obtain ⟨h1,o,ho,_⟩ := mem_ready.1 (show j ∈ Region.ready .any (l ++ suf).toArray listed by rw [hr]; simp)
     have := (Array.getElem?_eq_some_iff.1 ho).1
     simp only [List.size_toArray,List.length_append] at this
     exact hnl h1 ((hL j).2 this)
 | succ fuel ih =>
   intro t listed a w hs ht1 hL hf h
   by_cases hte : t = suf.length
   · subst hte
     rw [List.drop_length] at h
     refine ⟨fun _ => h,fun i hi => ?_⟩
     exfalso
     obtain ⟨h1,o,ho,_⟩ := mem_ready.1 hi
     have := (Array.getElem?_eq_some_iff.1 ho).1
     simp only [List.size_toArray,List.length_append] at this
     exact hnl h1 ((hL i).2 this)
   · have hlt : t < suf.length := by omega
     have hoL : (l ++ suf)[l.length + t]? = some suf[t] := by rw [List.getElem?_append_right (by omega)]; simp
     have hin : l.length + t ∈ Region.ready .any (l ++ suf).toArray listed := by
       refine mem_ready.2 ⟨getD_in (by omega) ?_,suf[t],by simpa using hoL,fun e he hb => ?_⟩
       · have : ¬ Ls listed (l.length + t) := fun h => by have := (hL _).1 h; omega
         unfold Ls at this
         simpa using this
       · have := (zdr ht hoL).1 e (by simpa using he) hb
         exact (hL e.on).2 this
     refine ⟨fun hr => ?_,fun i hi => ?_⟩
     · rw [hr] at hin; simp at hin
     · obtain ⟨h1,o,ho,hrd⟩ := mem_ready.1 hi
       have hil : i < l.length + suf.length := by
         have := (Array.getElem?_eq_some_iff.1 ho).1
         simpa using this
       have hge : l.length + t ≤ i := by
         rcases Nat.lt_or_ge i (l.length + t) with h' | h'
         · exact (hnl h1 ((hL i).2 h')).elim
         · exact h'
       have ho' : (l ++ suf)[i]? = some o := by simpa using ho
       obtain rfl : i = l.length + t := by
         rcases Nat.lt_or_ge (l.length + t) i with h' | h'
         · exfalso
           have hb := (zdr ht ho').2 (by omega) _ h' (.inl (by omega))
           have := zbi (l := l ++ suf) (L := fun j => Ls listed j) (fun j o hj => (zdr ht hj).1) (fun j o hj hj2 e he hb => by
             have := (zdr ht hj).1 e he hb
             have := (hL j).1 hj2
             exact (hL e.on).2 (by omega)) (i + 1) i _ (Nat.lt_succ_self _) hb o ho' (fun e he hb => hrd e (by simpa using he) hb)
           have := (hL _).1 this
           omega
         · omega
       rw [hoL] at ho'; injection ho' with ho'; subst ho'
       have hd : suf.drop t = suf[t] :: suf.drop (t + 1) := List.drop_eq_getElem_cons hlt
       rw [hd] at h
       have h9 : wpOp P (l ++ suf).toArray K (l.length + t) (wpList P (l ++ suf).toArray K (suf.drop (t + 1))) a w := by
         unfold wpOp
         rw [ho]
         exact h
       refine wpOp_mono (fun a' w' h' => ih (t + 1) _ a' w' (by simpa using hs) hlt (fun j => ?_) (by omega) h') h9
       rw [ls_set (by omega),hL]
       omega
theorem tail_run2 (ht : tailFB fl l.length (l ++ suf) = true) (hfl : fl < l.length) {of : Oper} (hof : l[fl]? = some of) (hfb : floatB T of = true) (hne : 0 < suf.length) {K : Exit → Act → World → Prop} (fuel : Nat) (listed : Array Bool) (a : Act) (w : World) (hs : listed.size = l.length + suf.length) (hL : ∀ j,Ls listed j ↔ j < l.length + 1 ∧ j ≠ fl) (hf : suf.length ≤ fuel)
   (hcl : ∀ j o,(l ++ suf)[j]? = some o → Ls listed j → ∀ e ∈ o.after.toList,Region.binds .any e = true → Ls listed e.on)
   (h : wpList P (l ++ suf).toArray K (of :: suf.drop 1) a w) : wpAny P .any (l ++ suf).toArray K fuel listed a w := by
 have hnl : ∀ {listed : Array Bool} {j : Nat},listed.getD j true = false → ¬ Ls listed j := fun h h' => by unfold Ls at h'; rw [getD_both h] at h'; cases h'
 obtain ⟨fu,rfl⟩ : ∃ fu,fuel = fu + 1 := ⟨fuel - 1,by omega⟩
 have hfoL : (l ++ suf)[fl]? = some of := by rw [List.getElem?_append_left hfl]; exact hof
 unfold floatB at hfb
 simp only [Bool.and_eq_true,decide_eq_true_eq,List.isEmpty_iff] at hfb
 have hin : fl ∈ Region.ready .any (l ++ suf).toArray listed := by
   refine mem_ready.2 ⟨getD_in (by omega) ?_,of,by simpa using hfoL,fun e he hb => ?_⟩
   · have : ¬ Ls listed fl := fun h => ((hL _).1 h).2 rfl
     unfold Ls at this
     simpa using this
   · have he' : e ∈ of.after.toList := by simpa using he
     rw [hfb.1] at he'; cases he'
 refine ⟨fun hr => ?_,fun i hi => ?_⟩
 · rw [hr] at hin; simp at hin
 · obtain ⟨h1,o,ho,hrd⟩ := mem_ready.1 hi
   have hil : i < l.length + suf.length := by
     have := (Array.getElem?_eq_some_iff.1 ho).1
     simpa using this
   have ho' : (l ++ suf)[i]? = some o := by simpa using ho
   have hni := hnl h1
   obtain rfl : i = fl := by
     rcases Nat.decEq i fl with h' | h'
     · exfalso
       have hk : l.length < i := by
         rcases Nat.lt_or_ge l.length i with h2 | h2
         · exact h2
         · exact (hni ((hL i).2 ⟨by omega,h'⟩)).elim
       have hb := (zdr ht ho').2 (by omega) fl (by omega) (.inl hk)
       have := zbi (l := l ++ suf) (L := fun j => Ls listed j) (fun j o hj => (zdr ht hj).1) hcl (i + 1) i _ (Nat.lt_succ_self _) hb o ho' (fun e he hb => hrd e (by simpa using he) hb)
       exact ((hL fl).1 this).2 rfl
     · exact h'
   rw [hfoL] at ho'; injection ho' with ho'; subst ho'
   have h9 : wpOp P (l ++ suf).toArray K i (wpList P (l ++ suf).toArray K (suf.drop 1)) a w := by
     unfold wpOp
     rw [ho]
     exact h
   refine wpOp_mono (fun a' w' h' => tail_run ht fu 1 _ a' w' (by simpa using hs) (by omega) (fun j => ?_) (by omega) h') h9
   rw [ls_set (by omega),hL]
   omega
theorem inv_wpAnyT (hT : TOk P T) (hS : Fns P S) (htl : tailFB fl l.length (l ++ suf) = true) (hg : GoodF S T l nm s0) (hst : ∀ j o,l[j]? = some o → (zbu S T l (nm + 8 * j) o (zai S T l nm s0 j)).1) (h0 : ∀ id b,look s0.2 id = some b → id < nm) {K : Exit → Act → World → Prop}
   (hK : ∀ listed a w loc,InvF S T l nm s0 w0 E B listed a w loc → (∀ j,j < l.length → Ls listed j) → wpList P (l ++ suf).toArray K suf a w)
   (hK2 : ∀ of c,l[fl]? = some of → suf[0]? = some c → floatB T of = true ∧ ∀ listed a w loc,InvF S T l nm s0 w0 E B listed a w loc → (∀ j,j < l.length → (Ls listed j ↔ j ≠ fl)) → wpList P (l ++ suf).toArray K (c :: of :: suf.drop 1) a w) :
   ∀ (fuel : Nat) (listedL listed : Array Bool) (a : Act) (w : World) (loc : Loc),(listedL.size = l.length + suf.length ∧ ∀ j,Ls listedL j ↔ j < l.length ∧ Ls listed j) → InvF S T l nm s0 w0 E B listed a w loc → listedL.toList.count false ≤ fuel → wpAny P .any (l ++ suf).toArray K fuel listedL a w := by
 have hnl' : ∀ {listed : Array Bool} {j : Nat},listed.getD j true = false → ¬ Ls listed j := fun h h' => by unfold Ls at h'; rw [getD_both h] at h'; cases h'
 have hall : ∀ (fuel : Nat) (listedL listed : Array Bool) (a : Act) (w : World) (loc : Loc),(listedL.size = l.length + suf.length ∧ ∀ j,Ls listedL j ↔ j < l.length ∧ Ls listed j) → InvF S T l nm s0 w0 E B listed a w loc → listedL.toList.count false ≤ fuel →
     (∀ j,j < l.length → Ls listed j) → wpAny P .any (l ++ suf).toArray K fuel listedL a w := by
   intro fuel listedL listed a w loc hrel inv hc hj
   refine tail_run htl fuel 0 listedL a w hrel.1 (Nat.zero_le _) (fun j => by rw [hrel.2]; exact ⟨fun h => by omega,fun h => ⟨by omega,hj j (by omega)⟩⟩) ?_ (hK listed a w loc inv hj)
   have h1 : (listedL.toList.drop l.length).count false = suf.length := by
     rw [List.count_eq_length.2]
     · rw [List.length_drop,Array.length_toList,hrel.1]; omega
     · intro b hb
       obtain ⟨i,hi,rfl⟩ := List.getElem_of_mem hb
       rw [List.getElem_drop,Array.getElem_toList]
       have hi' : l.length + i < listedL.size := by rw [List.length_drop,Array.length_toList] at hi; omega
       have h2 : ¬ Ls listedL (l.length + i) := fun h => by have := (hrel.2 _).1 h; omega
       unfold Ls at h2
       simpa [hi'] using (Eq.symm (by simpa [hi'] using h2 : listedL[l.length + i] = false))
   have h2 := List.count_append (a := false) (l₁ := listedL.toList.take l.length) (l₂ := listedL.toList.drop l.length)
   rw [List.take_append_drop] at h2
   omega
 intro fuel
 induction fuel with
 | zero =>
   intro listedL listed a w loc hrel inv hc
   refine hall 0 listedL listed a w loc hrel inv hc (fun j hj => ?_)
   have hj' : j < listedL.size := by rw [hrel.1]; omega
   have h1 : false ∉ listedL.toList := by
     intro hm
     have := List.count_pos_iff.2 hm
     omega
   have h2 : listedL[j] ≠ false := fun e => h1 (by rw [← e]; simp)
   exact ((hrel.2 j).1 (by unfold Ls; simpa [hj'] using h2)).2
 | succ fuel ih =>
   intro listedL listed a w loc hrel inv hc
   by_cases hA : ∀ j,j < l.length → Ls listed j
   · exact hall (fuel + 1) listedL listed a w loc hrel inv hc hA
   have hsub : ∀ i,i < l.length → (i ∈ Region.ready .any l.toArray listed ↔ i ∈ Region.ready .any (l ++ suf).toArray listedL) := by
     intro i hi
     have hnn : listed.getD i true = false ↔ listedL.getD i true = false := by
       constructor
       · intro h
         have h1 := hnl' h
         refine getD_in (by rw [hrel.1]; omega) ?_
         have : ¬ Ls listedL i := fun h' => h1 ((hrel.2 i).1 h').2
         unfold Ls at this; simpa using this
       · intro h
         have h1 := hnl' h
         refine getD_in (by rw [inv.sizel]; exact hi) ?_
         have : ¬ Ls listed i := fun h' => h1 ((hrel.2 i).2 ⟨hi,h'⟩)
         unfold Ls at this; simpa using this
     rw [mem_ready,mem_ready,hnn]
     have hL : (l ++ suf)[i]? = l[i]? := List.getElem?_append_left hi
     simp only [List.getElem?_toArray,hL]
     refine and_congr_right fun _ => exists_congr fun o => and_congr_right fun ho => forall_congr' fun e => forall_congr' fun he => forall_congr' fun hb => ?_
     have := hg.back i o ho e (by simpa using he) hb
     have := hrel.2 e.on
     unfold Ls at this
     rw [this]
     exact ⟨fun h => ⟨by omega,h⟩,fun h => h.2⟩
   refine ⟨fun hr => ?_,fun i hi => ?_⟩
   · exfalso
     refine hA (fun j hj => all_listedF hg inv.sizel ?_ _ j (Nat.lt_succ_self _) hj)
     cases hr2 : Region.ready .any l.toArray listed with
     | nil => rfl
     | cons j r =>
       exfalso
       have hm : j ∈ Region.ready .any l.toArray listed := by rw [hr2]; simp
       obtain ⟨_,o,ho,_⟩ := mem_ready.1 hm
       have hjl : j < l.length := by have := (Array.getElem?_eq_some_iff.1 ho).1; simpa using this
       have := (hsub j hjl).1 hm
       rw [hr] at this; simp at this
   by_cases hlt : i < l.length
   case neg =>
     obtain ⟨h1,o,ho,hrd⟩ := mem_ready.1 hi
     have ho' : (l ++ suf)[i]? = some o := by simpa using ho
     have hanc : ∀ j,j < l.length → (l.length < i ∨ j ≠ fl) → Ls listed j := fun j hj hor => by
       have hb := (zdr htl ho').2 (by omega) j (by omega) hor
       have := zbi (l := l ++ suf) (L := fun j => Ls listedL j) (fun j o hj => (zdr htl hj).1) (fun j o hj hj2 e he hb => by
         have h3 := (hrel.2 j).1 hj2
         rw [List.getElem?_append_left h3.1] at hj
         have h4 := inv.closed j o hj h3.2 e he hb
         have := hg.back j o hj e he hb
         exact (hrel.2 e.on).2 ⟨by omega,h4⟩) (i + 1) i _ (Nat.lt_succ_self _) hb o ho' (fun e he hb => hrd e (by simpa using he) hb)
       exact ((hrel.2 j).1 this).2
     have hie : i = l.length := by
       rcases Nat.decEq i l.length with h' | h'
       · exact (hA (fun j hj => hanc j hj (.inl (by omega)))).elim
       · exact h'
     subst hie
     have hfl : fl < l.length ∧ ¬ Ls listed fl := by
       refine Classical.byContradiction fun hc => hA (fun j hj => ?_)
       by_cases hjf : j = fl
       · subst hjf
         exact Classical.byContradiction fun h2 => hc ⟨hj,h2⟩
       · exact hanc j hj (.inr hjf)
     have hall2 : ∀ j,j < l.length → (Ls listed j ↔ j ≠ fl) := fun j hj => ⟨fun h e => hfl.2 (e ▸ h),fun h => hanc j hj (.inr h)⟩
     have hs0 : 0 < suf.length := by
       have := (Array.getElem?_eq_some_iff.1 ho).1
       simp only [List.size_toArray,List.length_append] at this
       omega
     obtain ⟨of,hof⟩ : ∃ of,l[fl]? = some of := ⟨_,List.getElem?_eq_getElem hfl.1⟩
     have ho2 : suf[0]? = some o := by rw [List.getElem?_append_right (Nat.le_refl _)] at ho'; simpa using ho'
     obtain ⟨hfb,hk2⟩ := hK2 of o hof ho2
     have hw := hk2 listed a w loc inv hall2
     have h9 : wpOp P (l ++ suf).toArray K l.length (wpList P (l ++ suf).toArray K (of :: suf.drop 1)) a w := by
       unfold wpOp
       rw [ho]
       exact hw
     have hnlL : ∀ j,l.length ≤ j → ¬ Ls listedL j := fun j hj h => by have := (hrel.2 j).1 h; omega
     refine wpOp_mono (fun a' w' h' => tail_run2 htl hfl.1 hof hfb hs0 fuel _ a' w' (by simpa using hrel.1) (fun j => ?_) ?_ ?_ h') h9
     · rw [ls_set (by rw [hrel.1]; omega),hrel.2]
       constructor
       · rintro (rfl | ⟨h2,h3⟩)
         · exact ⟨by omega,by omega⟩
         · exact ⟨by omega,fun e => hfl.2 (e ▸ h3)⟩
       · rintro ⟨h2,h3⟩
         by_cases hj : j = l.length
         · exact .inl hj
         · exact .inr ⟨by omega,hanc j (by omega) (.inr h3)⟩
     · have h1 : (listedL.toList.drop l.length).count false = suf.length := by
         rw [List.count_eq_length.2]
         · rw [List.length_drop,Array.length_toList,hrel.1]; omega
         · intro b hb
           obtain ⟨i,hi,rfl⟩ := List.getElem_of_mem hb
           rw [List.getElem_drop,Array.getElem_toList]
           have hi' : l.length + i < listedL.size := by rw [List.length_drop,Array.length_toList] at hi; omega
           have h2 := hnlL (l.length + i) (by omega)
           unfold Ls at h2
           simpa [hi'] using (Eq.symm (by simpa [hi'] using h2 : listedL[l.length + i] = false))
       have h2 := List.count_append (a := false) (l₁ := listedL.toList.take l.length) (l₂ := listedL.toList.drop l.length)
       rw [List.take_append_drop] at h2
       have h3 : 0 < (listedL.toList.take l.length).count false := by
         refine List.count_pos_iff.2 ?_
         have hi' : fl < listedL.size := by rw [hrel.1]; omega
         have h4 : ¬ Ls listedL fl := fun h => hfl.2 ((hrel.2 fl).1 h).2
         unfold Ls at h4
         have h5 : listedL[fl] = false := by simpa [hi'] using h4
         rw [← h5]
         have h6 := hfl.1
         have h7 := hrel.1
         refine List.mem_take_iff_getElem.2 ⟨fl,by simp only [Array.length_toList,List.size_toArray,h7]; omega,by simp⟩
       omega
     · intro j oj hj hj2 e he hb
       rw [ls_set (by rw [hrel.1]; omega)] at hj2 ⊢
       rcases hj2 with rfl | hj2
       · rw [ho'] at hj; injection hj with hj; subst hj
         exact .inr (hrd e (by simpa using he) hb)
       · have h3 := (hrel.2 j).1 hj2
         rw [List.getElem?_append_left h3.1] at hj
         have h4 := inv.closed j oj hj h3.2 e he hb
         have := hg.back j oj hj e he hb
         exact .inr ((hrel.2 e.on).2 ⟨by omega,h4⟩)
   obtain ⟨hnl1L,_,hoL,_⟩ := mem_ready.1 hi
   obtain ⟨hnl1,o,ho',hrd'⟩ := mem_ready.1 ((hsub i hlt).2 hi)
   have ho : l[i]? = some o := by simpa using ho'
   have hoL : (l ++ suf).toArray[i]? = some o := by rw [List.getElem?_toArray,List.getElem?_append_left hlt]; exact ho
   have hnl : ¬ Ls listed i := hnl' hnl1
   have hrd : ∀ e ∈ o.after.toList,Region.binds .any e = true → Ls listed e.on := fun e he hb => hrd' e (by simpa using he) hb
   have hrel' : (listedL.setIfInBounds i true).size = l.length + suf.length ∧ ∀ j,Ls (listedL.setIfInBounds i true) j ↔ j < l.length ∧ Ls (listed.setIfInBounds i true) j := by
     refine ⟨by simpa using hrel.1,fun j => ?_⟩
     rw [ls_set (by rw [hrel.1]; omega),ls_set (by rw [inv.sizel]; exact hlt),hrel.2]
     constructor
     · rintro (rfl | h)
       · exact ⟨hlt,.inl rfl⟩
       · exact ⟨h.1,.inr h.2⟩
     · rintro ⟨h1,h | h⟩
       · exact .inl h
       · exact .inr ⟨h1,h⟩
   have hc' : (listedL.setIfInBounds i true).toList.count false ≤ fuel := by
     have := count_set listedL.toList i (by simpa using hnl1L)
     rw [Array.toList_setIfInBounds]
     omega
   have hlook := fun t ht => lookF_now hg inv ho hnl hrd (t := t) ht
   have hlow := zbs hst h0 i
   have hev : ∀ x ∈ o.op.operands.toList,R w loc (ev (zai S T l nm s0 i).1 x) (a.eval x) := by
     intro x hx
     cases x with
     | tmp t => exact hlook t (by unfold Oper.looksAt; exact List.mem_append_left _ (List.mem_filterMap.2 ⟨.tmp t,hx,rfl⟩))
     | const v => exact ev_R (sl := []) (a := a) (fun t => .junk _) (.const v)
     | global g => exact .junk _
     | func f => exact ev_R (sl := []) (a := a) (fun t => .junk _) (.func f)
   have hstep := hst i o ho
   have hfi : ftF S T l nm s0 i = (zbu S T l (nm + 8 * i) o (zai S T l nm s0 i)).2.2 := by simp only [ftF,ho]
   have hadv := @advanceF S T l nm s0 w0 E B listed a w loc i o hg hst h0 inv ho hnl hrd
   have hheap := fun (hk : zah T o.op ≠ 0) id b => @heapF_now S T l nm s0 w0 E B listed a w loc i o hg inv ho hnl hrd hk id b
   rw [hfi] at hadv hheap
   -- the operation is done
   have hdo : (aopF S T (nm + 8 * i) (zai S T l nm s0 i).1 o.op (zai S T l nm s0 i).2).p →
       (zbu S T l (nm + 8 * i) o (zai S T l nm s0 i)).2.1 = (zan (zai S T l nm s0 i).1 o.dst (aopF S T (nm + 8 * i) (zai S T l nm s0 i).1 o.op (zai S T l nm s0 i).2).x,(aopF S T (nm + 8 * i) (zai S T l nm s0 i).1 o.op (zai S T l nm s0 i).2).H) →
       (zbu S T l (nm + 8 * i) o (zai S T l nm s0 i)).2.2 = foot (zai S T l nm s0 i).1 o.op (zai S T l nm s0 i).2 →
       o.wp P a w (wpAny P .any (l ++ suf).toArray K fuel (listedL.setIfInBounds i true)) K := by
     intro hp hs hft
     have hfree : ∀ id,nm + 8 * i ≤ id → id < nm + 8 * i + 8 → loc.m id = .free := inv.fresh i hnl hlt
     rw [hft] at hadv hheap
     by_cases hk : zah T o.op = 0
     · obtain ⟨h1,h2,h3⟩ := pu_aop (H := keepIn (foot (zai S T l nm s0 i).1 o.op (zai S T l nm s0 i).2) (zai S T l nm s0 i).2) (S := S) (sl := (zai S T l nm s0 i).1) (nm := nm + 8 * i) hk hp.2
       refine zdx hT hS inv.env (H := []) (fun id b h => by simp [look] at h) hfree o hev h1 _ K (fun v w' loc' hpost => ?_)
       obtain ⟨C,hE,hC⟩ := hpost.ext
       have hC' := hC (kind_wr (H := []) (by omega) h1)
       refine ih _ _ _ _ loc' hrel' (hadv (x := _) (C := C) (by rw [hs]) ?_ hE (fun _ => hC') (fun id h => (hC' id h).elim) hpost.fresh hpost.env (inv.base.post hpost) (fun h => (h hk).elim) ) hc'
       have := hpost.r
       rw [h2] at this; exact this
     · refine aopF_sound hT hS inv.env (fun id b hid hl => hheap hk id b hid hl) hfree rfl hev hp _ K (fun v w' loc' wr hpost hext => ?_)
       obtain ⟨C,hE,hC,hCF⟩ := hext
       refine ih _ _ _ _ loc' hrel' (hadv (x := _) (C := C) (by rw [hs]) hpost.r hE hC hCF hpost.fresh hpost.env (inv.base.post hpost) (fun _ id b hor hl => ?_) ) hc'
       rw [hs] at hl
       simp only [aopF] at hl
       rw [zev] at hl
       cases h1 : look (aop S T (nm + 8 * i) (zai S T l nm s0 i).1 o.op (keepIn (foot (zai S T l nm s0 i).1 o.op (zai S T l nm s0 i).2) (zai S T l nm s0 i).2)).H id with
       | some c =>
         simp only [h1] at hl
         injection hl with hl
         subst hl
         exact hpost.h id c h1
       | none =>
         simp only [h1,zdj] at hl
         split at hl
         · cases hl
         · rename_i hn
           rcases hor with h2 | h2
           · exact (hn h2).elim
           · have := hlow id b hl; omega
   unfold wpOp
   rw [hoL]
   simp only
   cases hgd : o.guard with
   | none =>
     rw [if_pos (by simp [Region.wanted,hgd])]
     left
     refine hdo ?_ ?_ ?_
     · simpa [zbu,hgd] using hstep
     · simp [zbu,hgd]
     · simp [zbu,hgd]
   | some g =>
     obtain ⟨j,want⟩ := g
     simp only [zbu,hgd] at hstep hdo hadv
     cases hgs : guardSlot l j with
     | none => simp [hgs] at hstep
     | some d =>
       simp only [hgs] at hstep hdo hadv
       have hdl : d ∈ o.looksAt l.toArray := by
         unfold Oper.looksAt
         refine List.mem_append_right _ ?_
         rw [hgd]
         unfold guardSlot at hgs
         cases hj : l[j]? with
         | none => rw [hj] at hgs; cases hgs
         | some oj =>
           rw [hj] at hgs
           simp only at hgs
           simp [hj,hgs]
       have hval := hlook d hdl
       cases hsd : slot (zai S T l nm s0 i).1 d with
       | w u =>
         cases u with
         | bool b =>
           simp only [hsd] at hstep hdo hadv
           rw [hsd] at hval
           have hval := hval.wv
           have hdlt : d < a.tmps.size := by
             rw [inv.size,← zcc hst i]
             rcases Nat.lt_or_ge d (zai S T l nm s0 i).1.length with h' | h'
             · exact h'
             · rw [zfp h'] at hsd; cases hsd
           have hy := yielded_of (ops := (l ++ suf).toArray) (by simpa using guardSlot_app suf hgs) hdlt hval
           have hw : (Region.wanted o (yielded (l ++ suf).toArray a.tmps) = true) ↔ b = want := by simp [Region.wanted,hgd,hy]
           by_cases hbw : b = want
           · rw [if_pos (hw.2 hbw)]
             rw [if_pos hbw] at hstep hdo
             exact .inl (hdo hstep rfl rfl)
           · rw [if_neg (fun h => hbw (hw.1 h))]
             simp only [if_neg hbw] at hadv
             refine ih _ _ _ _ loc hrel' (hadv (x := .tup []) (C := fun _ => False) rfl undef_R (Ext.refl w loc) (fun _ _ h => h) (fun _ h => h.elim) (fun id h h' => (h' h).elim) inv.env inv.base (fun hk id b hor hl => ?_) ) hc'
             rcases hor with h2 | h2
             · simp at h2
             · have := hlow id b hl; omega
         | _ => simp [hsd] at hstep
       | tup xs =>
         cases xs with
         | nil =>
           simp only [hsd] at hadv
           rw [hsd] at hval
           rw [if_neg (by simp [Region.wanted,hgd,zff (ops := (l ++ suf).toArray) (by simpa using guardSlot_app suf hgs) (tup_R hval)])]
           refine ih _ _ _ _ loc hrel' (hadv (x := .tup []) (C := fun _ => False) rfl undef_R (Ext.refl w loc) (fun _ _ h => h) (fun _ h => h.elim) (fun id h h' => (h' h).elim) inv.env inv.base (fun hk id b hor hl => ?_) ) hc'
           rcases hor with h2 | h2
           · simp at h2
           · have := hlow id b hl; omega
         | cons _ _ => simp [hsd] at hstep
       | _ => simp [hsd] at hstep
theorem drawT_sound (hT : TOk P T) (hS : Fns P S) (hm : P.follows .mixedOrders = true) {pl : List (Nat × Nat)} {K : Exit → Act → World → Prop} {Q : List AV → Heap → Prop} {sl : List AV} {H : Heap} {a : Act} {w : World} {loc : Loc} {id : Nat}
   (hd : drawOkF T l pl = true) (htl : tailFB fl l.length (l ++ suf) = true) (hK : ∀ sl H a w loc,Base w0 B w loc → Rel' w0 E loc ⟨sl,H,nm + 8 * l.length⟩ a w → Q sl H → wpList P (l ++ suf).toArray K suf a w)
   (hK2 : ∀ of c,l[fl]? = some of → suf[0]? = some c → floatB T of = true ∧ ∀ sl H a w loc,Base w0 B w loc → Rel' w0 E loc ⟨zan sl of.dst .junk,H,nm + 8 * l.length⟩ a w → Q sl H → wpList P (l ++ suf).toArray K (c :: of :: suf.drop 1) a w) (hb : Base w0 B w loc)
   (hr : Rel' w0 E loc ⟨sl,H,nm⟩ a w) (h : zdw S T l pl nm [] l sl H Q) : (Code.region id (l ++ suf).toArray true).wp P K a w := by
 obtain ⟨⟨hQ,hmem⟩,hst⟩ := aopsF_trace (S := S) (T := T) (nm := nm) (pl := pl) (Q := Q) (l := l) (s0 := (sl,H)) l 0 (fun j => by rw [Nat.zero_add]) (Nat.zero_add _) (by simpa [zai] using h)
 have hst' := fun j o ho => hst j o (Nat.zero_le _) ho
 have hg := goodF_of hd hmem
 refine wp_region_any hm ?_
 have hL : ∀ i,¬ Ls (Array.replicate l.length false) i := fun i h => by
   unfold Ls at h
   rw [getD_replicate_false] at h; cases h
 have hL' : ∀ i,¬ Ls (Array.replicate (l ++ suf).toArray.size false) i := fun i h => by
   unfold Ls at h
   rw [getD_replicate_false] at h; cases h
 refine inv_wpAnyT hT hS htl hg hst' hr.low (w0 := w0) (E := E) (B := B) ?_ ?_ _ _ (Array.replicate l.length false) _ _ loc ⟨by simp,fun j => ⟨fun h => (hL' j h).elim,fun h => (hL j h.2).elim⟩⟩ ?_ ?_
 · intro listed a w loc inv hall
   have hq : ∀ (i : Nat),i < l.length → (Ls listed i ↔ i < l.length) := fun i hi => ⟨fun _ => hi,fun _ => hall i hi⟩
   have hlt : ∀ {j : Nat} {o : Oper},l[j]? = some o → j < l.length := fun h => (List.getElem?_eq_some_iff.1 h).1
   refine hK _ _ a w loc inv.base ⟨?_,?_,?_,inv.env,inv.high,inv.defers,?_⟩ hQ
   · simp only; rw [zcc hst']; exact inv.size
   · exact fun t => inv.slots t _ (Nat.le_refl _) (fun i o ho _ => hq i (hlt ho))
   · exact fun id b hl => inv.heap id _ (Nat.le_refl _) (fun i o ho _ _ => hq i (hlt ho)) b hl
   · exact zbs hst' hr.low l.length
 · intro of c hof hc
   obtain ⟨hfb,hk⟩ := hK2 of c hof hc
   refine ⟨hfb,fun listed a w loc inv hall => ?_⟩
   have hlt : ∀ {j : Nat} {o : Oper},l[j]? = some o → j < l.length := fun h => (List.getElem?_eq_some_iff.1 h).1
   unfold floatB at hfb
   simp only [Bool.and_eq_true,decide_eq_true_eq] at hfb
   refine hk _ _ a w loc inv.base ⟨?_,?_,?_,inv.env,inv.high,inv.defers,?_⟩ hQ
   · simp only; rw [zdm,zcc hst']; exact inv.size
   · intro t
     by_cases ht : of.dst = some t
     · rw [ht]
       have : slot (zan (zai S T l nm (sl,H) l.length).1 (some t) .junk) t = .junk := by
         show slot (setSlot _ t .junk) t = .junk
         rcases Nat.lt_or_ge t (zai S T l nm (sl,H) l.length).1.length with h' | h'
         · exact zce h'
         · exact zfp (by rw [zbd]; exact h')
       rw [this]; exact .junk _
     · have : slot (zan (zai S T l nm (sl,H) l.length).1 of.dst .junk) t = slot (zai S T l nm (sl,H) l.length).1 t := by
         cases hd : of.dst with
         | none => rfl
         | some d => exact zbt (fun e => ht (by rw [hd,e]))
       rw [this]
       refine inv.slots t _ (Nat.le_refl _) (fun i o ho hd => ⟨fun _ => hlt ho,fun _ => (hall i (hlt ho)).2 (fun e => ?_)⟩)
       subst e
       rw [hof] at ho; injection ho with ho; subst ho; exact ht hd
   · refine fun id b hl => inv.heap id _ (Nat.le_refl _) (fun i o ho h2 _ => ⟨fun _ => hlt ho,fun _ => (hall i (hlt ho)).2 (fun e => ?_)⟩) b hl
     subst e
     rw [hof] at ho; injection ho with ho; subst ho
     omega
   · exact zbs hst' hr.low l.length
 · have hbase : Base w0 B { w with drawn := w.drawn + 1 } loc := hb
   have hE : Ext (fun _ => False) w loc { w with drawn := w.drawn + 1 } loc := ⟨Nat.le_refl _,fun _ _ _ => rfl,fun _ _ _ => .inl rfl,fun _ _ h => ⟨rfl,h⟩,fun _ _ _ _ => rfl,fun _ cur _ fz h => ⟨cur,fz,h,rfl⟩⟩
   have hcl : ∀ {x v},R w loc x v → R { w with drawn := w.drawn + 1 } loc x v := fun h => h.ext hE
   refine ⟨by simp,hr.size,?_,?_,?_,?_,?_,⟨hr.env.os,hr.env.tape,hr.env.output,hr.env.size,hr.env.same,hr.env.inj,hr.env.lies,hr.env.bad⟩,hbase,hr.defers⟩
   · intro t k hk hq
     have e : slot (zai S T l nm (sl,H) k).1 t = slot sl t := by
       refine traceF_slot hst' (i := 0) (Nat.zero_le _) (fun j o _ hj ho hd => ?_)
       exact hL j ((hq j o ho hd).2 hj)
     rw [e]
     exact hcl (hr.slots t)
   · intro id k hk hq b hl
     by_cases hf : loc.m id = .free
     · exact BlkR.free hf
     · have hidn : id < nm := by
         rcases Nat.lt_or_ge id nm with h' | h'
         · exact h'
         · exact (hf (hr.fresh id h')).elim
       have e : look (zai S T l nm (sl,H) k).2 id = look H id := by
         refine traceF_keep hst' (i := 0) (Nat.zero_le _) (fun j o _ hj ho => ⟨?_,.inr (by omega)⟩)
         by_cases hid : id ∈ ftF S T l nm (sl,H) j
         · left
           have hle : zah T o.op ≤ 2 := kind_le T o.op
           have hne : zah T o.op ≠ 2 := fun h2 => hL j ((hq j o ho h2 hid).2 hj)
           omega
         · exact .inr hid
       rw [e] at hl
       exact (hr.heap id b hl).ext hE (fun h => h) hf
   · intro j o ho hl; exact (hL j hl).elim
   · intro i _ hi id h1 h2; exact hr.fresh id (by simp only; omega)
   · intro id h1; exact hr.fresh id (by simp only; omega)
 · simp
end
end Ax
end Go.Proofs.Ytlcijldkdpmknaa
