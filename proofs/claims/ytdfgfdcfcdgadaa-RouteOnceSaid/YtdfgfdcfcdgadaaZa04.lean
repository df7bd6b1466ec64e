/- What the proofs of this seat stand on; it asks nothing. -/
import Derived.Test.YtdfgfdcfcdgadaaZa03
set_option linter.unusedSimpArgs false
set_option linter.unusedVariables false
namespace Go.Proofs.Ytdfgfdcfcdgadaa
namespace Ax
mutual
theorem ybw (g : Nat → Nat) : ∀ (x : AV),x.closed = true → x.ren g = x
 | .agg xs,h => by simp only [AV.ren]; rw [renL_closed g xs (by simpa [AV.closed] using h)]
 | .tup xs,h => by simp only [AV.ren]; rw [renL_closed g xs (by simpa [AV.closed] using h)]
 | .fn f xs,h => by simp only [AV.ren]; rw [renL_closed g xs (by simpa [AV.closed] using h)]
 | .ms _ _ _ _,h => by simp [AV.closed] at h
 | .rf _ _ _ _,h => by simp [AV.closed] at h
 | .w _,_ => rfl
 | .str _,_ => rfl
 | .sb _ _,_ => rfl
 | .si _ _,_ => rfl
 | .sg _ _ _,_ => rfl
 | .cp _,_ => rfl
 | .junk,_ => rfl
theorem renL_closed (g : Nat → Nat) : ∀ (xs : List AV),closedL xs = true → renL g xs = xs
 | [],_ => rfl
 | x :: xs,h => by
  simp only [closedL,Bool.and_eq_true] at h
  simp only [renL]; rw [ybw g x h.1,renL_closed g xs h.2]
end
theorem zbg (g : Nat → Nat) : ∀ (xs : List AV),(renL g xs).length = xs.length ∧ ∀ (j : Nat) (h : j < (renL g xs).length) (h' : j < xs.length),(renL g xs)[j] = xs[j].ren g
 | [] => ⟨rfl,fun j h => by simp [renL] at h⟩
 | x :: xs => by
  obtain ⟨h1,h2⟩ := zbg g xs
  refine ⟨by simp [renL,h1],fun j h h' => ?_⟩
  cases j with
  | zero => rfl
  | succ j => exact h2 j (by simpa [renL] using h) (by simpa using h')
theorem zyu (g : Nat → Nat) {x : AV} (h : x.leaf = true) : (x.ren g).leaf = true := by
 cases x <;> first | exact h | simp [AV.leaf] at h
theorem zdb {xs : List AV} (h : noimmL xs = true) (j : Nat) (hj : j < xs.length) : xs[j].noimm = true := by
 induction xs generalizing j with
 | nil => simp at hj
 | cons x r ih =>
  simp only [noimmL,Bool.and_eq_true] at h
  cases j with
  | zero => exact h.1
  | succ j => exact ih h.2 j (by simpa using hj)
theorem ztk {w : World} {loc loc2 : Loc} {g : Nat → Nat} (hg : ∀ id,loc.m id ≠ .free → loc2.m (g id) = loc.m id) {x : AV} {v : Value} (h : R w loc x v)
  (hM : x.noimm = true ∨ ∀ b,b < w.heap.size → Mut loc2 b → Mut loc b) : R w loc2 (x.ren g) v := by
 induction h with
 | w v h => exact .w v h
 | str bs => exact .str bs
 | agg xs cs hl hx _ ih =>
  obtain ⟨h1,h2⟩ := zbg g xs
  refine .agg _ cs (by rw [h1,hl]) (fun j hj => ?_) (fun j a b => ?_)
  ·rw [h2 j hj (by rw [← h1]; exact hj)]; exact zyu g (hx j _)
  ·rw [h2 j a (by rw [← h1]; exact a)]
   exact ih j _ b (hM.imp (fun h => zdb (by simpa [AV.noimm] using h) j _) id)
 | tup xs cs hl _ ih =>
  obtain ⟨h1,h2⟩ := zbg g xs
  refine .tup _ cs (by rw [h1,hl]) (fun j a b => ?_)
  rw [h2 j a (by rw [← h1]; exact a)]
  exact ih j _ b (hM.imp (fun h => zdb (by simpa [AV.noimm] using h) j _) id)
 | sb bs full a cap hd hc =>
  rcases hM with h | h
  ·obtain rfl : bs = [] := by simpa [AV.noimm] using h
   exact .sb [] full a cap hd ⟨.inl rfl⟩
  ·exact .sb bs full a cap hd (hc.move h)
 | si ns full a cap hd hc =>
  rcases hM with h | h
  ·obtain rfl : ns = [] := by simpa [AV.noimm] using h
   exact .si [] full a cap hd ⟨.inl rfl⟩
  ·exact .si ns full a cap hd (hc.move h)
 | sg s xs full a cap cs hd hs hc hl hx h ih =>
  rcases hM with hM | hM
  ·obtain rfl : xs = [] := by simpa [AV.noimm] using hM
   obtain rfl : cs = [] := by simpa using hl.symm
   exact .sg s [] full a cap [] hd hs ⟨.inl rfl⟩ rfl (by simp) (by simp)
  ·exact (R.sg s xs full a cap cs hd hs hc hl hx h).move hM rfl
 | cp ls a cs hc hn hl hx h ih =>
  rcases hM with hM | hM
  ·simp [AV.noimm] at hM
  ·exact (R.cp ls a cs hc hn hl hx h).move hM rfl
 | ms id s off len v h =>
  have hf : loc.m id ≠ .free := by intro e; simp [Owns,e] at h
  refine .ms _ _ _ _ _ ?_
  unfold Owns at h ⊢
  rw [hg id hf]; exact h
 | rf id s i f v h =>
  have hf : loc.m id ≠ .free := by intro e; simp [Points,e] at h
  refine .rf _ _ _ _ _ ?_
  unfold Points at h ⊢
  rw [hg id hf]; exact h
 | fn f caps cs hl _ ih =>
  obtain ⟨h1,h2⟩ := zbg g caps
  refine .fn f _ cs (by rw [h1,hl]) (fun j a b => ?_)
  rw [h2 j a (by rw [← h1]; exact a)]
  exact ih j _ b (hM.imp (fun h => zdb (by simpa [AV.noimm] using h) j _) id)
 | junk v => exact .junk v
mutual
theorem ztu : ∀ (x : AV),x.noimm = true → ∀ y ∈ x.leaves,y.noimm = true
 | .agg xs,h,y,hy => by
  obtain ⟨j,hj,rfl⟩ := List.getElem_of_mem (show y ∈ xs from hy)
  exact zdb (by simpa [AV.noimm] using h) j hj
 | .tup xs,h,y,hy => by simp only [AV.leaves,List.mem_singleton] at hy; subst hy; exact h
 | .fn f xs,h,y,hy => by simp only [AV.leaves,List.mem_singleton] at hy; subst hy; exact h
 | .ms _ _ _ _,h,y,hy => by simp only [AV.leaves,List.mem_singleton] at hy; subst hy; exact h
 | .rf _ _ _ _,h,y,hy => by simp only [AV.leaves,List.mem_singleton] at hy; subst hy; exact h
 | .w _,h,y,hy => by simp only [AV.leaves,List.mem_singleton] at hy; subst hy; exact h
 | .str _,h,y,hy => by simp only [AV.leaves,List.mem_singleton] at hy; subst hy; exact h
 | .sb _ _,h,y,hy => by simp only [AV.leaves,List.mem_singleton] at hy; subst hy; exact h
 | .si _ _,h,y,hy => by simp only [AV.leaves,List.mem_singleton] at hy; subst hy; exact h
 | .sg _ _ _,h,y,hy => by simp only [AV.leaves,List.mem_singleton] at hy; subst hy; exact h
 | .cp _,h,y,hy => by simp only [AV.leaves,List.mem_singleton] at hy; subst hy; exact h
 | .junk,h,y,hy => by simp only [AV.leaves,List.mem_singleton] at hy; subst hy; exact h
end
theorem zxm {blk : Blk} (h : blk.closed = true) : ∀ y ∈ blk.flat,y.closed = true := by
 intro y hy
 cases blk with
 | b bs => simp only [Blk.flat,List.mem_map] at hy; obtain ⟨b,_,rfl⟩ := hy; rfl
 | o x => simp [Blk.flat] at hy
 | i ns => simp only [Blk.flat,List.mem_map] at hy; obtain ⟨b,_,rfl⟩ := hy; rfl
 | g s xs =>
  obtain ⟨x,hx,hxl⟩ := List.mem_flatMap.1 hy
  exact zhb (zju (by simpa [Blk.closed] using h) hx) y hxl
theorem zqt {blk : Blk} (h : blk.noimm = true) : ∀ y ∈ blk.flat,y.noimm = true := by
 intro y hy
 cases blk with
 | b bs => simp only [Blk.flat,List.mem_map] at hy; obtain ⟨b,_,rfl⟩ := hy; rfl
 | o x => simp [Blk.flat] at hy
 | i ns => simp only [Blk.flat,List.mem_map] at hy; obtain ⟨b,_,rfl⟩ := hy; rfl
 | g s xs =>
  obtain ⟨x,hx,hxl⟩ := List.mem_flatMap.1 hy
  obtain ⟨j,hj,rfl⟩ := List.getElem_of_mem hx
  exact ztu _ (zdb (by simpa [Blk.noimm] using h) j hj) y hxl
mutual
theorem zyx : ∀ (x : AV),x.closed = true → x.noimm = true → x.plain = true
 | .agg xs,h,k => plainL_of xs h k
 | .tup xs,h,k => plainL_of xs h k
 | .fn f xs,h,k => plainL_of xs h k
 | .ms _ _ _ _,h,_ => by simp [AV.closed] at h
 | .rf _ _ _ _,h,_ => by simp [AV.closed] at h
 | .w _,_,_ => rfl
 | .str _,_,_ => rfl
 | .sb _ _,_,k => k
 | .si _ _,_,k => k
 | .sg _ _ _,_,k => k
 | .cp _,_,k => k
 | .junk,_,_ => rfl
theorem plainL_of : ∀ (xs : List AV),closedL xs = true → noimmL xs = true → plainL xs = true
 | [],_,_ => rfl
 | x :: xs,h,k => by
  simp only [closedL,noimmL,plainL,Bool.and_eq_true] at h k ⊢
  exact ⟨zyx x h.1 k.1,plainL_of xs h.2 k.2⟩
end
theorem zfi {w : World} {loc loc2 : Loc} {blk : Blk} {b : Nat} (h : Lies w loc blk b) (hc : blk.closed = true) (hM : blk.noimm = true ∨ ∀ b,b < w.heap.size → Mut loc2 b → Mut loc b) : Lies w loc2 blk b := by
 rcases zbi blk with ⟨x,hx,rfl⟩ | hodd
 ·exact .mkO (Thing.far hc (h.is hx)) hx
 obtain ⟨cur,e,fz,h1,h2,h3,h4,h5⟩ := h.lies hodd
 refine .mkC ⟨cur,e,fz,h1,h2,h3,h4,fun j a c => ⟨(h5 j a c).1,?_⟩⟩ hodd
 have hcl := zxm hc _ (List.getElem_mem a)
 rcases hM with hM | hM
 ·exact (h5 j a c).2.far (zyx _ hcl (zqt hM _ (List.getElem_mem a)))
 ·exact (h5 j a c).2.move hM hcl
theorem zfo {bl : List Blk} (h : closedB bl = true) (j : Nat) (hj : j < bl.length) : bl[j].closed = true := by
 induction bl generalizing j with
 | nil => simp at hj
 | cons x r ih =>
  simp only [closedB,Bool.and_eq_true] at h
  cases j with
  | zero => exact h.1
  | succ j => exact ih h.2 j (by simpa using hj)
theorem ycf {bl : List Blk} (h : noimmB bl = true) (j : Nat) (hj : j < bl.length) : bl[j].noimm = true := by
 induction bl generalizing j with
 | nil => simp at hj
 | cons x r ih =>
  simp only [noimmB,Bool.and_eq_true] at h
  cases j with
  | zero => exact h.1
  | succ j => exact ih h.2 j (by simpa using hj)
theorem zeu {H : Heap} : ∀ {ids : List Nat},(pinsOf H ids).1 → (pinsOf H ids).2.length = ids.length ∧ closedB (pinsOf H ids).2 = true ∧ ∀ (k : Nat) (h : k < ids.length),look H ids[k] = (pinsOf H ids).2[k]?
 | [],_ => ⟨rfl,rfl,fun k h => by simp at h⟩
 | id :: r,h => by
  simp only [pinsOf] at h ⊢
  cases hl : look H id with
  | none => simp [hl] at h
  | some b =>
   simp only [hl] at h ⊢
   obtain ⟨h1,h2,h3⟩ := zeu h.2
   refine ⟨by simp [h1],by simp [closedB,h.1,h2],fun k a => ?_⟩
   cases k with
   | zero => simpa using hl
   | succ k => simpa using h3 k (by simpa using a)
mutual
theorem zwt {w : World} {loc : Loc} {id : Nat} : ∀ (x : AV) (v : Value),R w loc x v → id ∈ x.roots → ∃ s i f u,Points loc id s i f u
 | .agg xs,v,h,hm => by
  obtain ⟨cs,rfl,hc⟩ := zdh h
  exact rootsL_points xs cs.toList hc.len hc.r hm
 | .fn f xs,v,h,hm => by
  cases h with
  | fn _ _ cs hl h => exact rootsL_points xs cs hl h hm
 | .rf k s i f,v,h,hm => by
  simp only [AV.roots,List.mem_singleton] at hm
  subst hm
  cases h with
  | rf _ _ _ _ _ h => exact ⟨s,i,f,v,h⟩
 | .tup _,_,_,hm => by simp [AV.roots] at hm
 | .ms _ _ _ _,_,_,hm => by simp [AV.roots] at hm
 | .w _,_,_,hm => by simp [AV.roots] at hm
 | .str _,_,_,hm => by simp [AV.roots] at hm
 | .sb _ _,_,_,hm => by simp [AV.roots] at hm
 | .si _ _,_,_,hm => by simp [AV.roots] at hm
 | .sg _ _ _,_,_,hm => by simp [AV.roots] at hm
 | .cp _,_,_,hm => by simp [AV.roots] at hm
 | .junk,_,_,hm => by simp [AV.roots] at hm
theorem rootsL_points {w : World} {loc : Loc} {id : Nat} : ∀ (xs : List AV) (vs : List Value),xs.length = vs.length → (∀ (j : Nat) (h : j < xs.length) (h' : j < vs.length),R w loc xs[j] vs[j]) → id ∈ rootsL xs → ∃ s i f u,Points loc id s i f u
 | [],_,_,_,hm => by simp [rootsL] at hm
 | x :: xs,[],hl,_,_ => by simp at hl
 | x :: xs,v :: vs,hl,h,hm => by
  simp only [rootsL,List.mem_append] at hm
  rcases hm with hm | hm
  ·exact zwt x v (h 0 (by simp) (by simp)) hm
  ·exact rootsL_points xs vs (by simpa using hl) (fun j a b => h (j + 1) (by simpa using a) (by simpa using b)) hm
end
theorem zee : ∀ {l : List Nat},nodup l = true → l.Nodup
 | [],_ => .nil
 | a :: r,h => by
  simp only [nodup,Bool.and_eq_true,Bool.not_eq_true'] at h
  refine List.nodup_cons.2 ⟨fun hm => ?_,zee h.2⟩
  have := List.contains_iff_mem.2 hm
  rw [this] at h; simp at h
theorem zel {ids : List Nat} {nm k : Nat} (h : k < ids.length) : gOf ids nm k = ids[k] := by
 induction ids generalizing k with
 | nil => simp at h
 | cons a r ih => cases k with
  | zero => rfl
  | succ k => simp only [gOf,List.getElem_cons_succ]; exact ih (by simpa using h)
theorem zdr {ids : List Nat} {nm k : Nat} (h : ids.length ≤ k) : gOf ids nm k = nm + (k - ids.length) := by
 induction ids generalizing k with
 | nil => simp [gOf]
 | cons a r ih => cases k with
  | zero => simp at h
  | succ k => simp only [gOf,List.length_cons]; rw [ih (by simpa using h)]; omega
theorem zkr {g : Nat → Nat} {H : Heap} {b : Blk} : ∀ (bl : List Blk) (k id : Nat),look (back g H k bl) id = some b → (∃ j,∃ h : j < bl.length,g (k + j) = id ∧ bl[j] = b) ∨ (look H id = some b ∧ ∀ j,j < bl.length → g (k + j) ≠ id)
 | [],k,id,h => .inr ⟨h,fun j hj => by simp at hj⟩
 | c :: r,k,id,h => by
  simp only [back,zax] at h
  split at h
  ·rename_i he
   injection h with h
   exact .inl ⟨0,by simp,he,h⟩
  ·rename_i hne
   rcases zkr r (k + 1) id h with ⟨j,hj,h1,h2⟩ | ⟨h1,h2⟩
   ·exact .inl ⟨j + 1,by simpa using hj,by rw [← h1]; congr 1; omega,h2⟩
   ·refine .inr ⟨h1,fun j hj => ?_⟩
    cases j with
    | zero => exact hne
    | succ j => have := h2 j (by simpa using hj); rw [show k + (j + 1) = k + 1 + j by omega]; exact this
theorem zhu (H : Heap) (k : Nat) : ∀ l : List Nat,look (dropAll H l) k = if k ∈ l then none else look H k
 | [] => by simp [dropAll]
 | id :: r => by
  simp only [dropAll,zfh,zhu H k r]
  by_cases h : id = k
  ·subst h; simp
  ·rw [if_neg h]
   have : (k ∈ id :: r) ↔ k ∈ r := by simp [Ne.symm h]
   simp only [this]
mutual
theorem zoq : ∀ (x : AV),x.clean = true → x.noimm = true
 | .agg xs,h => cleanL_noimm xs h
 | .tup xs,h => cleanL_noimm xs h
 | .fn f xs,h => cleanL_noimm xs h
 | .ms _ _ _ _,_ => rfl
 | .rf _ _ _ _,_ => rfl
 | .w _,_ => rfl
 | .str _,_ => rfl
 | .sb _ _,h => by simp [AV.clean] at h
 | .si _ _,h => by simp [AV.clean] at h
 | .sg _ _ _,h => by simp [AV.clean] at h
 | .cp _,h => by simp [AV.clean] at h
 | .junk,_ => rfl
theorem cleanL_noimm : ∀ (xs : List AV),cleanL xs = true → noimmL xs = true
 | [],_ => rfl
 | x :: xs,h => by
  simp only [cleanL,noimmL,Bool.and_eq_true] at h ⊢
  exact ⟨zoq x h.1,cleanL_noimm xs h.2⟩
end
theorem zmk : ∀ (bl : List Blk),cleanB bl = true → noimmB bl = true
 | [],_ => rfl
 | b :: r,h => by
  simp only [cleanB,noimmB,Bool.and_eq_true] at h ⊢
  refine ⟨?_,zmk r h.2⟩
  cases b with
  | g s xs => exact cleanL_noimm xs h.1
  | o x => exact h.1
  | _ => rfl
mutual
theorem yiq {H : Heap} {ids : List Nat} : ∀ (x : AV),(lend H ids x).1 → ∀ id ∈ x.lentIds,¬ id ∈ ids
 | .agg xs,hp,id,h => lentL_out xs hp id h
 | .fn f xs,hp,id,h => lentL_out xs hp id h
 | .ms k s off len,hp,id,h => by
  simp only [AV.lentIds,List.mem_singleton] at h
  subst h
  simp only [lend] at hp
  split at hp
  ·exact hp.2.2
  ·exact hp.2.2
  ·exact hp.2.2.1
  ·exact hp.elim
  ·exact hp.elim
 | .tup _,hp,_,h => by simp [AV.lentIds] at h
 | .rf _ _ _ _,_,_,h => by simp [AV.lentIds] at h
 | .w _,_,_,h => by simp [AV.lentIds] at h
 | .str _,_,_,h => by simp [AV.lentIds] at h
 | .sb _ _,_,_,h => by simp [AV.lentIds] at h
 | .si _ _,_,_,h => by simp [AV.lentIds] at h
 | .sg _ _ _,_,_,h => by simp [AV.lentIds] at h
 | .cp _,_,_,h => by simp [AV.lentIds] at h
 | .junk,_,_,h => by simp [AV.lentIds] at h
theorem lentL_out {H : Heap} {ids : List Nat} : ∀ (xs : List AV),(lendL H ids xs).1 → ∀ id ∈ lentIdsL xs,¬ id ∈ ids
 | [],_,_,h => by simp [lentIdsL] at h
 | x :: xs,hp,id,h => by
  simp only [lendL] at hp
  simp only [lentIdsL,List.mem_append] at h
  rcases h with h | h
  ·exact yiq x hp.1 id h
  ·exact lentL_out xs hp.2 id h
end
theorem ycq (r : Res) (l : List Nat) : (zjs r l = [] ∧ (l = [] ∨ (r.x.clean = true ∧ cleanB r.bl = true))) ∨ zjs r l = l := by
 cases l with
 | nil => exact .inl ⟨rfl,.inl rfl⟩
 | cons a l =>
  simp only [zjs]
  cases h : (r.x.clean && cleanB r.bl) with
  | true => exact .inl ⟨rfl,.inr (by simpa using h)⟩
  | false => exact .inr rfl
theorem yha {P : Program} {w0 : World} {E : Nat → Prop} {w : World} {loc : Loc} {H : Heap} (he : Env w0 E w loc) (hh : HR w loc H) {nm : Nat} (hfree : ∀ id,nm ≤ id → id < nm + 8 → loc.m id = .free) {S : zal} (hS : ∀ f s,S f = some s → zen P f s) {f : FuncId} {args : List AV} {vs : List Value}
  (hlen : args.length = vs.length) (hargs : ∀ (j : Nat) (h : j < args.length) (h' : j < vs.length),R w loc args[j] vs[j]) (hp : (aUser S nm f args H).p) :
  Calls P f vs.toArray w fun e w' => ∃ v loc',e = .returned v ∧ Post w0 E w loc true nm (aUser S nm f args H).x (aUser S nm f args H).H v w' loc' ∧ ((rootsL args = []) → (lentIdsL args = []) → Post w0 E w loc false nm (aUser S nm f args H).x (aUser S nm f args H).H v w' loc') := by
 unfold aUser at hp ⊢
 cases hsf : S f with
 | none => simp [hsf,bad] at hp
 | some spec =>
  simp only [hsf,callOut] at hp ⊢
  obtain ⟨⟨hnd,hpin,hlend⟩,hsp,hb1,hb2,hbc⟩ := hp
  obtain ⟨hpl,hpc,hpg⟩ := zeu hpin
  have hrp := fun id => rootsL_points (w := w) (loc := loc) (id := id) args vs hlen hargs
  generalize hids : rootsL args = ids at *
  generalize hpins : (pinsOf H ids).2 = pins at *
  have hndp := zee hnd
  -- the blocks of the names
  have live : ∀ id ∈ ids,∃ b blk,loc.m id = .here b ∧ look H id = some blk ∧ blk.ok ∧ Lies w loc blk b := by
   intro id hid
   obtain ⟨s,i,f',u,hpt⟩ := hrp id hid
   obtain ⟨k,hk,rfl⟩ := List.getElem_of_mem hid
   have hl := hpg k hk
   rw [List.getElem?_eq_getElem (by omega)] at hl
   have hf : loc.m ids[k] ≠ .free := by intro e; simp [Points,e] at hpt
   obtain ⟨hok,hn | ⟨b,hb,hlies⟩⟩ := hh.get hl hf
   ·simp [Points,hn.1] at hpt
   ·exact ⟨b,_,hb,hl,hok,hlies⟩
  let blockOf : Nat → Nat := fun id => match loc.m id with | .here b => b | _ => 0
  have hblk : ∀ id ∈ ids,loc.m id = .here (blockOf id) := by
   intro id hid
   obtain ⟨b,_,hb,_⟩ := live id hid
   simp only [blockOf,hb]
  have hpb : PB loc ids (ids.map blockOf) := ⟨by simp,fun k a b => by simpa using hblk _ (List.getElem_mem a)⟩
  have hpbn : (ids.map blockOf).Nodup := by
   refine List.pairwise_map.2 (hndp.imp_of_mem ?_)
   intro a b ha hb hab hq
   exact hab (he.inj a b _ (hblk a ha) (by rw [hq]; exact hblk b hb))
  generalize hpbe : ids.map blockOf = pb at *
  have hpbl : pb.length = ids.length := hpb.len
  have hmemMut : ∀ b,b ∈ pb → Mut loc b := fun b hb => by obtain ⟨id,_,h⟩ := hpb.mem hb; exact .inr ⟨id,h⟩
  -- what others may write
  let bad' : Nat → Prop := fun b => (∀ id ∈ lentIdsL args,loc.m id ≠ .here b) ∧ Mut loc b ∧ ¬ b ∈ pb
  have hbad' : ∀ b,bad' b → Mut loc b := fun b h => h.2.1
  have hmutlt : ∀ b,Mut loc b → b < w.heap.size := by
   rintro b (h | ⟨k,h⟩)
   ·have := (he.bad b h).1; have := he.size; omega
   ·exact (he.lies k b h).1
  obtain ⟨l1,l2,l3⟩ := lendL_sound he hh hpb hbad' args vs hlen hargs hlend (by rw [hids]; exact fun id h => h) (fun id h b hb h9 => h9.1 id h hb)
  have hMl : ∀ b,b < w.heap.size → Mut (zbf pb bad') b → Mut loc b := fun b _ hb => by
   rcases mut_locOf.1 hb with h | h
   ·exact hbad' b h
   ·exact hmemMut b h
  have hpinlies : ∀ (k : Nat) (h : k < pins.length) (h' : k < pb.length),pins[k].ok ∧ Lies w (zbf pb bad') pins[k] pb[k] := by
   intro k h h'
   have hki : k < ids.length := by omega
   obtain ⟨b,blk,q1,q2,q3,q4⟩ := live ids[k] (List.getElem_mem hki)
   have h5 := hpb.at_ k hki h'
   rw [q1] at h5; injection h5 with h5; subst h5
   have h6 := hpg k hki
   rw [q2,List.getElem?_eq_getElem h] at h6
   injection h6 with h6; subst h6
   exact ⟨q3,zfi q4 (zfo hpc k h) (.inr hMl)⟩
  have hcall := hS f spec hsf _ pins hsp hpc w bad' pb vs (by omega) hpbn (fun b h => ⟨hmutlt b h.2.1,h.2.2⟩) hpinlies (by rw [l1,hlen]) l2
  refine hcall.mono ?_
  rintro e w' ⟨v,loc',rfl,hg⟩
  generalize hres : spec (lendL H ids args).2 pins = res at *
  classical
  -- what is given up
  have hlout := lentL_out args hlend
  have hG0 := ycq res (lentIdsL args)
  generalize hGe : zjs res (lentIdsL args) = G at *
  have hGids : ∀ id ∈ G,¬ id ∈ ids := by
   intro id hid
   rcases hG0 with ⟨rfl,_⟩ | rfl
   ·simp at hid
   ·exact hlout id hid
  -- the caller's names behind the call
  let loc2 : Loc := { m := fun id => if nm ≤ id ∧ id < nm + 8 then loc'.m (ids.length + (id - nm)) else if id ∈ G ∧ loc.m id ≠ .free then .dead else loc.m id,bad := loc.bad }
  have h2new : ∀ k,ids.length ≤ k → k < ids.length + 8 → loc2.m (nm + (k - ids.length)) = loc'.m k := by
   intro k a b
   simp only [loc2]
   rw [if_pos (by omega)]
   congr 1; omega
  have h2old : ∀ id,¬ (nm ≤ id ∧ id < nm + 8) → ¬ id ∈ G → loc2.m id = loc.m id := fun id h h' => by
   simp only [loc2]; rw [if_neg h,if_neg (fun h => h' h.1)]
  have h2live : ∀ id,loc.m id ≠ .free → ¬ id ∈ G → loc2.m id = loc.m id := fun id h => h2old id fun hq => h (hfree id hq.1 hq.2)
  have h2dead : ∀ id,loc.m id ≠ .free → id ∈ G → loc2.m id = .dead := fun id h h' => by
   simp only [loc2]; rw [if_neg (fun hq => h (hfree id hq.1 hq.2)),if_pos ⟨h',h⟩]
  have h2free : ∀ id,¬ (nm ≤ id ∧ id < nm + 8) → loc.m id = .free → loc2.m id = .free := fun id h h' => by
   simp only [loc2]; rw [if_neg h,if_neg (fun hq => hq.2 h')]; exact h'
  have h2here : ∀ id b,¬ (nm ≤ id ∧ id < nm + 8) → loc2.m id = .here b → loc.m id = .here b ∧ ¬ id ∈ G := by
   intro id b h h'
   simp only [loc2] at h'
   rw [if_neg h] at h'
   split at h'
   ·cases h'
   ·rename_i hq
    exact ⟨h',fun hG => hq ⟨hG,by rw [h']; simp⟩⟩
  have hgm : ∀ k,loc'.m k ≠ .free → loc2.m (gOf ids nm k) = loc'.m k := by
   intro k hk
   by_cases hki : k < ids.length
   ·rw [zel hki,h2live _ (by rw [hpb.at_ k hki (by omega)]; simp) (fun h => hGids _ h (List.getElem_mem hki)),hpb.at_ k hki (by omega)]
    exact (hg.old k (by omega)).symm
   ·have hkb : k < res.bl.length := by
     rcases Nat.lt_or_ge k res.bl.length with h | h
     ·exact h
     ·exact (hk (hg.none k h)).elim
    rw [zdr (by omega)]
    exact h2new k (by omega) (by omega)
  have hMut3 : ∀ b,Mut loc2 b → (Mut loc b ∧ ∀ id ∈ G,loc.m id ≠ .here b) ∨ (w.heap.size ≤ b ∧ Mut loc' b) := by
   rintro b (h | ⟨k,h⟩)
   ·refine .inl ⟨.inl h,fun id _ hid => ?_⟩
    have h1 := he.bad b h
    rcases (he.lies id b hid).2 with h2 | h2
    ·omega
    ·exact h1.2 h2
   ·by_cases hk : nm ≤ k ∧ k < nm + 8
    ·simp only [loc2] at h
     rw [if_pos hk] at h
     exact .inr ⟨(hg.new _ b (by omega) h).1,.inr ⟨_,h⟩⟩
    ·obtain ⟨h1,h2⟩ := h2here k b hk h
     exact .inl ⟨.inr ⟨k,h1⟩,fun id hid hb => h2 (he.inj id k b hb h1 ▸ hid)⟩
  have hMut2 : ∀ b,Mut loc2 b → Mut loc b ∨ (w.heap.size ≤ b ∧ Mut loc' b) := fun b h => (hMut3 b h).imp (·.1) id
  have hM : (res.x.noimm = true ∧ noimmB res.bl = true) ∨ (∀ b,b < w'.heap.size → Mut loc2 b → Mut loc' b) := by
   have key : (∀ id ∈ lentIdsL args,id ∈ G) → ∀ b,b < w'.heap.size → Mut loc2 b → Mut loc' b := by
    intro hall b _ hb
    rcases hMut3 b hb with h | h
    ·by_cases hbp : b ∈ pb
     ·obtain ⟨k,hk,rfl⟩ := List.getElem_of_mem hbp
      exact .inr ⟨k,hg.old k hk⟩
     ·exact .inl (by rw [hg.bad]; exact ⟨fun id hid => h.2 id (hall id hid),h.1,hbp⟩)
    ·exact h.2
   rcases hG0 with ⟨rfl,h | h⟩ | rfl
   ·exact .inr (key (by rw [h]; simp))
   ·exact .inl ⟨zoq _ h.1,zmk _ h.2⟩
   ·exact .inr (key (fun _ h => h))
  have hwsz := hg.fram.size
  have hext : Ext (fun id => id ∈ ids ∨ id ∈ G) w loc w' loc2 := by
   refine ⟨hwsz,fun id h hC => h2live id h (fun h => hC (.inr h)),fun id h _ => ?_,fun b hb hm => ⟨?_,fun h => ?_⟩,fun id b hb hC => ?_,fun b cur e fz hc => ?_⟩
   ·by_cases hg' : id ∈ G
    ·exact .inr (h2dead id h hg')
    ·exact .inl (h2live id h hg')
   ·exact hg.fram.same b hb (fun h => hm (hmemMut b h))
   ·rcases hMut2 b h with h | h
    ·exact hm h
    ·omega
   ·refine hg.fram.same b (he.lies id b hb).1 (fun h => ?_)
    obtain ⟨id',hi,hb'⟩ := hpb.mem h
    have := he.inj id id' b hb hb'
    subst this; exact hC (.inl hi)
   ·by_cases hbp : b ∈ pb
    ·exact hg.fram.shape b cur e fz hbp hc
    ·exact ⟨cur,fz,(hg.fram.same b (Array.getElem?_eq_some_iff.1 hc).1 hbp).trans hc,rfl⟩
  have hr : R w' loc2 (res.x.ren (gOf ids nm)) v := ztk hgm hg.r (hM.imp (fun h => h.1) (fun h => h))
  have hh2 : HR w' loc2 (back (gOf ids nm) (dropAll H G) 0 res.bl) := by
   intro id b hb
   rcases zkr res.bl 0 id hb with ⟨j,hj,h1,h2⟩ | ⟨h1,h2⟩
   ·rw [Nat.zero_add] at h1
    obtain ⟨k1,k2,k3⟩ := hg.bl j hj
    rw [h2] at k1
    have := hgm j k2
    rw [h1] at this
    unfold BlkR at k1 ⊢
    rw [this]
    have hcl := zfo hbc j hj
    rw [h2] at hcl
    have hni : res.x.noimm = true ∧ noimmB res.bl = true → b.noimm = true := fun h => by
     have := ycf h.2 j hj; rw [h2] at this; exact this
    cases hloc : loc'.m j with
    | free => trivial
    | dead => exact (k3 hloc).elim
    | nil => rw [hloc] at k1; exact k1
    | here c => rw [hloc] at k1; exact ⟨k1.1,zfi k1.2 hcl (hM.imp hni (fun h => h))⟩
   ·rw [zhu] at h1
    have hnG : ¬ id ∈ G := fun h => by rw [if_pos h] at h1; cases h1
    rw [if_neg hnG] at h1
    by_cases hfr : loc.m id = .free
    ·by_cases hk : nm ≤ id ∧ id < nm + 8
     ·have hnone : loc'.m (ids.length + (id - nm)) = .free := by
       refine hg.none _ ?_
       rcases Nat.lt_or_ge (ids.length + (id - nm)) res.bl.length with h | h
       ·exfalso
        refine h2 _ h ?_
        rw [Nat.zero_add,zdr (by omega)]; omega
       ·exact h
      exact BlkR.free (by simp only [loc2]; rw [if_pos hk]; exact hnone)
     ·exact BlkR.free (h2free id hk hfr)
    ·have hni : ¬ id ∈ ids := by
      intro hid
      obtain ⟨k,hk,rfl⟩ := List.getElem_of_mem hid
      refine h2 k (by omega) ?_
      rw [Nat.zero_add,zel hk]
     exact (hh id b h1).ext hext (fun h => h.elim hni hnG) hfr
  have henv : Env w0 E w' loc2 := by
   refine ⟨hg.fram.os.trans he.os,hg.fram.tape.trans he.tape,hg.fram.output.trans he.output,by have := he.size; omega,fun b hb hE => ?_,?_,?_,he.bad⟩
   ·rw [hg.fram.same b (by have := he.size; omega) (fun h => ?_)]
    ·exact he.same b hb hE
    ·obtain ⟨id,_,hid⟩ := hpb.mem h
     rcases (he.lies id b hid).2 with h | h
     ·omega
     ·exact hE h
   ·intro i j b hi hj
    by_cases a1 : nm ≤ i ∧ i < nm + 8 <;> by_cases a2 : nm ≤ j ∧ j < nm + 8
    ·simp only [loc2] at hi hj
     rw [if_pos a1] at hi; rw [if_pos a2] at hj
     have := hg.inj _ _ b hi hj
     omega
    ·simp only [loc2] at hi
     rw [if_pos a1] at hi
     have hj := (h2here j b a2 hj).1
     have := (hg.new _ b (by omega) hi).1
     have := (he.lies j b hj).1
     omega
    ·simp only [loc2] at hj
     rw [if_pos a2] at hj
     have hi := (h2here i b a1 hi).1
     have := (hg.new _ b (by omega) hj).1
     have := (he.lies i b hi).1
     omega
    ·exact he.inj i j b (h2here i b a1 hi).1 (h2here j b a2 hj).1
   ·intro i b hi
    by_cases a1 : nm ≤ i ∧ i < nm + 8
    ·simp only [loc2] at hi
     rw [if_pos a1] at hi
     have := hg.new _ b (by omega) hi
     exact ⟨this.2,.inl (by have := he.size; omega)⟩
    ·have := he.lies i b (h2here i b a1 hi).1
     exact ⟨by omega,this.2⟩
  have hfresh : ∀ id,loc.m id = .free → loc2.m id ≠ .free → nm ≤ id ∧ id < nm + 8 := by
   intro id h1 h2
   by_cases hk : nm ≤ id ∧ id < nm + 8
   ·exact hk
   ·exact (h2 (h2free id hk h1)).elim
  refine ⟨v,loc2,rfl,⟨hr,hh2,henv,⟨_,hext,fun h => by cases h⟩,hfresh,rfl⟩,fun hnil hnil2 => ⟨hr,hh2,henv,⟨_,hext,fun _ id h => ?_⟩,hfresh,rfl⟩⟩
  have hG : G = [] := by
   rcases hG0 with ⟨h,_⟩ | h
   ·exact h
   ·rw [h]; exact hnil2
  rw [hnil,hG] at h; simp at h
end Ax
end Go.Proofs.Ytdfgfdcfcdgadaa
namespace Go.Proofs.Ytdfgfdcfcdgadaa
namespace Ax
def zpf (P : Program) (f : FuncId) : Prop := ∃ fn,P.funcs[f]? = some fn ∧ fn.body.isNone = false ∧ (fn.name == "runtime.NumGoroutine") = false
def Fns (P : Program) (S : zal) : Prop := ∀ f s,S f = some s → zpf P f ∧ zen P f s
theorem yoh {T : zac} {t : TypeId} {w : World} {loc : Loc} {x : AV} {v : Value} (h : R w loc x v) : R w loc (coe T t x) v := by
 unfold coe
 split
 ·rename_i s f
  cases h with
  | sg _ _ _ a cap cs hd hs hc hl hx h =>
   have e1 : R w loc (.sb [] f) (.slice a ([] : List AV).length cap) := .sb [] f a cap hd ⟨.inl rfl⟩
   have e2 : R w loc (.si [] f) (.slice a ([] : List AV).length cap) := .si [] f a cap hd ⟨.inl rfl⟩
   have e3 : ∀ s,R w loc (.sg s [] f) (.slice a ([] : List AV).length cap) := fun s => .sg s [] f a cap [] hd (by simp) ⟨.inl rfl⟩ rfl (by simp) (by simp)
   split
   ·split
    ·split
     ·split
      ·exact e1
      ·exact e2
      ·exact e3 _
     ·exact e3 _
    ·exact e3 _
   ·exact e3 _
 ·exact h
theorem zve {T : zac} {w : World} {loc : Loc} : ∀ (ts : List TypeId) (xs : List AV),(coes T ts xs).length = xs.length ∧ ∀ (vs : List Value),(∀ (j : Nat) (h : j < xs.length) (h' : j < vs.length),R w loc xs[j] vs[j]) → ∀ (j : Nat) (h : j < (coes T ts xs).length) (h' : j < vs.length),R w loc (coes T ts xs)[j] vs[j]
 | [],xs => by
  have : coes T [] xs = xs := by cases xs <;> rfl
  rw [this]
  exact ⟨rfl,fun vs h => h⟩
 | t :: ts,[] => ⟨rfl,fun vs _ j h => by simp [coes] at h⟩
 | t :: ts,x :: xs => by
  obtain ⟨h1,h2⟩ := zve (T := T) (w := w) (loc := loc) ts xs
  refine ⟨by simp [coes,h1],fun vs h j a b => ?_⟩
  cases vs with
  | nil => simp at b
  | cons v vs =>
   cases j with
   | zero => exact yoh (h 0 (by simp) (by simp))
   | succ j => exact h2 vs (fun j a b => h (j + 1) (by simpa using a) (by simpa using b)) j (by simpa [coes] using a) (by simpa using b)
theorem zvb {w : World} {loc : Loc} {sl : List AV} {a : Act} : ∀ (l : List Operand),(∀ x ∈ l,R w loc (ev sl x) (a.eval x)) → (evs sl l).length = l.length ∧ ∀ (j : Nat) (h : j < (evs sl l).length) (h' : j < (l.map a.eval).length),R w loc (evs sl l)[j] (l.map a.eval)[j]
 | [],_ => ⟨rfl,fun j h => by simp [evs] at h⟩
 | o :: r,h => by
  obtain ⟨h1,h2⟩ := zvb r (fun x hx => h x (by simp [hx]))
  refine ⟨by simp [evs,h1],fun j a b => ?_⟩
  cases j with
  | zero => exact h o (by simp)
  | succ j => exact h2 j (by simpa [evs] using a) (by simpa using b)
theorem ygl {w : World} {loc : Loc} {sl : List AV} {a : Act} : ∀ (ps : List (Nat × Operand)),(∀ x ∈ ps.map (·.2),R w loc (ev sl x) (a.eval x)) → PR w loc (evps sl ps) (ps.map fun p => (p.1,a.eval p.2))
 | [],_ => .nil
 | p :: r,h => .cons (h p.2 (by simp)) (ygl r (fun x hx => h x (by simp at hx ⊢; exact .inr hx)))
def wrOf (T : zac) (sl : List AV) : Op → Bool
 | .store _ _ _ => true
 | .next _ _ => true
 | .mapUpdate _ _ _ _ => true
 | .range t _ => !zcp T t
 | .convert _ d x => (match ev sl x with | .ms _ _ _ _ => (match T d with | some i => (match i.d with | .slice _ => true | _ => false) | none => false) | _ => false)
 | .call c => match c.callee with
  | .builtin .append => true
  | .builtin .copy => true
  | .builtin .delete => true
  | .builtin .clear => true
  | .builtin _ => false
  | .value f => match ev sl f with
   | .fn _ caps => !(rootsL (coes T c.argTypes.toList (evs sl c.args.toList) ++ caps)).isEmpty || !(lentIdsL (coes T c.argTypes.toList (evs sl c.args.toList) ++ caps)).isEmpty
   | _ => true
  | _ => true
 | _ => false
section
variable {P : Program}
theorem zci {w0 : World} {E : Nat → Prop} {w : World} {loc : Loc} {H : Heap} {T : zac} {S : zal} (hT : TOk P T) (hS : Fns P S) (he : Env w0 E w loc) (hh : HR w loc H) {nm : Nat} (hfree : ∀ id,nm ≤ id → id < nm + 8 → loc.m id = .free) {sl : List AV} {a : Act} (o : Oper)
  (hev : ∀ x ∈ o.op.operands.toList,R w loc (ev sl x) (a.eval x)) (hp : (aop S T nm sl o.op H).p) : Sd P w0 E w loc (wrOf T sl o.op) nm (aop S T nm sl o.op H) o a := by
 have hf : loc.m nm = .free := hfree nm (Nat.le_refl _) (by omega)
 cases ho : o.op with
 | move x =>
  rw [ho] at hp hev
  have hx := hev x (by simp [Op.operands])
  exact zaw (v := a.eval x) (w' := w) (loc' := loc) (by simp [execOp,ho]) (Post.pure hx hh he)
 | assign x =>
  rw [ho] at hp hev
  have hx := hev x (by simp [Op.operands])
  exact zaw (v := a.eval x) (w' := w) (loc' := loc) (by simp [execOp,ho]) (Post.pure hx hh he)
 | pick c x y =>
  rw [ho] at hp hev
  have hc := hev c (by simp [Op.operands])
  have hx := hev x (by simp [Op.operands])
  have hy := hev y (by simp [Op.operands])
  simp only [aop,zps] at hp ⊢
  generalize ev sl c = xc at hc hp ⊢
  generalize ev sl x = xx at hx hp ⊢
  generalize ev sl y = xy at hy hp ⊢
  split at hp
  ·rename_i t
   have hcv := hc.wv
   have hrun : (execOp a.eval o).run P w = .ok (.value (if t = true then a.eval x else a.eval y)) w := by
    simp only [execOp,ho,hcv,asBool]
    cases t <;> rfl
   split at hp
   ·rename_i p q
    refine zaw hrun (Post.pure ?_ hh he)
    rw [hx.wv,hy.wv]
    cases t
    ·exact .w _ rfl
    ·exact .w _ rfl
   ·refine zaw hrun (Post.pure ?_ hh he)
    have hp : t = false := hp
    subst hp
    exact hy
   ·refine zaw hrun (Post.pure ?_ hh he)
    have hp : t = true := hp
    subst hp
    exact hx
   ·exact hp.elim
  ·exact hp.elim
 | alloc e =>
  rw [ho] at hp
  obtain ⟨v,w',loc',h1,h2⟩ := ydl (P := P) hT he hh hf hp false (.tuple #[])
  exact zaw (by simp [execOp,ho,h1]) h2
 | box e x =>
  rw [ho] at hp hev
  have hx := hev x (by simp [Op.operands])
  simp only [aop,aBox] at hp ⊢
  cases ht : T e with
  | none => simp [ht,bad] at hp
  | some ti =>
   simp only [ht] at hp ⊢
   obtain ⟨h1,h2,h3⟩ := hp
   obtain ⟨w',h4,h5⟩ := yaq (P := P) (e := e) he hh hf hx h1 h2 h3 false
   exact zaw (by simp [execOp,ho,Instr.box,h4]) h5
 | build t ps =>
  rw [ho] at hp hev
  have hps := ygl (sl := sl) (a := a) ps.toList (fun x hx => hev x (by simpa [Op.operands] using hx))
  obtain ⟨v,h1,h2,h3⟩ := zxx (P := P) hT (pv := ps.map fun p => (p.1,a.eval p.2)) (by simpa using hps) hp
  exact zaw (w' := w) (loc' := loc) (by simp only [execOp,ho]; simp [h1]) (Post.pure h2 (by simp only [aop]; rw [h3]; exact hh) he)
 | makeFunc fn first caps =>
  rw [ho] at hp hev
  simp only [aop,aFn] at hp ⊢
  split at hp
  ·rename_i f hf0
   obtain rfl : first = #[] := by rw [← Array.toList_inj]; exact hf0
   have hcs := zvb (w := w) (loc := loc) (sl := sl) (a := a) caps.toList (fun x hx => hev x (by simp [Op.operands]; simpa using hx))
   have hR : R w loc (.fn f (evs sl caps.toList)) (.func (.func f) #[] (caps.toList.map a.eval).toArray) := .fn f _ _ (by simpa using hcs.1) hcs.2
   have hm : (caps.toList.map a.eval).toArray = caps.map a.eval := by rw [← Array.toList_inj]; simp
   rw [hm] at hR
   exact zaw (w' := w) (loc' := loc) (by simp [execOp,ho,Instr.makeFunc]) (Post.pure hR hh he)
  ·exact hp.elim
 | buildSlice t n ps =>
  rw [ho] at hp hev
  have hps := ygl (sl := sl) (a := a) ps.toList (fun x hx => hev x (by simpa [Op.operands] using hx))
  obtain ⟨v,w',loc',h1,h2⟩ := zov (P := P) hT he hh hf (pv := ps.map fun p => (p.1,a.eval p.2)) (by simpa using hps) hp
  exact zaw (by simp only [execOp,ho]; simp [h1]) h2
 | load t p =>
  rw [ho] at hp hev
  obtain ⟨u,h1,h2,h3⟩ := zqh (P := P) hT hh (hev p (by simp [Op.operands])) hp
  exact zaw (w' := w) (loc' := loc) (by simp [execOp,ho,h1]) (Post.pure h2 (by simp only [aop]; rw [h3]; exact hh) he)
 | store t p x =>
  rw [ho] at hp hev
  obtain ⟨w',h1,h2⟩ := ybh (P := P) (nm := nm) hT he hh (hev p (by simp [Op.operands])) (hev x (by simp [Op.operands])) hp
  exact ydz (by simp [execOp,ho,h1]) h2
 | nilCheck x =>
  rw [ho] at hp hev
  have hx := hev x (by simp [Op.operands])
  obtain ⟨h1,h2,h3⟩ := yeq hh hx hp
  refine zaw (v := a.eval x) (w' := w) (loc' := loc) ?_ (Post.pure (by simp only [aop]; rw [h2]; exact hx) (by simp only [aop]; rw [h3]; exact hh) he)
  simp only [execOp,ho]
  split
  ·exact (h1 (.inl ‹_›)).elim
  ·exact (h1 (.inr (.inl ‹_›))).elim
  ·exact (h1 (.inr (.inr (.inl ‹_›)))).elim
  ·exact (h1 (.inr (.inr (.inr ⟨_,_,_,‹_›⟩)))).elim
  ·simp
 | binOp op t x y yt =>
  rw [ho] at hp hev
  obtain ⟨u,h1,h2,h3⟩ := yhm (P := P) hT hh x y (hev x (by simp [Op.operands])) (hev y (by simp [Op.operands])) hp
  exact zaw (w' := w) (loc' := loc) (by simp only [execOp,ho]; rw [Sem.run_bind,h1]; rfl) (Post.pure h2 (by simp only [aop]; rw [h3]; exact hh) he)
 | unOp op t x =>
  rw [ho] at hp hev
  obtain ⟨u,h1,h2,h3⟩ := yib (P := P) (hev x (by simp [Op.operands])) hp
  exact zaw (w' := w) (loc' := loc) (by simp [execOp,ho,h1]) (Post.pure h2 (by simp only [aop]; rw [h3]; exact hh) he)
 | convert s d x =>
  rw [ho] at hp hev
  obtain ⟨u,w',loc',h1,h2⟩ := ygw (P := P) hT he hh hf (hev x (by simp [Op.operands])) hp.2
  exact zaw (by simp [execOp,ho,h1]) h2
 | range t x =>
  rw [ho] at hp hev
  have hx := hev x (by simp [Op.operands])
  simp only [aop] at hp ⊢
  generalize hv : a.eval x = vx at hx
  generalize ev sl x = xx at hx hp ⊢
  obtain ⟨u,w',loc',h1,h2⟩ := yby (P := P) (wr := wrOf T sl (.range t x)) hT he hh hf hx hp (fun h => by simp [wrOf,h])
  exact zaw (by simp [execOp,ho,hv,h1]) h2
 | next x b =>
  rw [ho] at hp hev
  have hx := hev x (by simp [Op.operands])
  simp only [aop] at hp ⊢
  generalize hv : a.eval x = vx at hx
  generalize ev sl x = xx at hx hp ⊢
  obtain ⟨u,w',h1,h2⟩ := yer (P := P) (nm := nm) (ty := o.type) he hh hx hp
  exact zaw (by simp [execOp,ho,hv,h1]) h2
 | makeMap t r =>
  rw [ho] at hp hev
  simp only [aop] at hp ⊢
  unfold ziv at hp ⊢
  cases r with
  | none =>
   simp only at hp ⊢
   obtain ⟨u,w',loc',h1,h2⟩ := ztv (P := P) (wr := wrOf T sl (.makeMap t none)) he hh hf (t := t)
   exact zaw (by simp [execOp,ho,h1]) h2
  | some r => exact hp.elim
 | lookup t x k ok =>
  rw [ho] at hp hev
  simp only [aop] at hp ⊢
  obtain ⟨u,h1,h2,h3⟩ := ztw (P := P) hT hh (hev x (by simp [Op.operands])) (hev k (by simp [Op.operands])) hp
  refine zaw (w' := w) (loc' := loc) (by simp [execOp,ho,h1]) (Post.pure h2 (by rw [h3]; exact hh) he)
 | mapUpdate t x k v =>
  rw [ho] at hp hev
  simp only [aop] at hp ⊢
  obtain ⟨w',h1,h2⟩ := zwm (P := P) hT he hh (nm := nm) (hev x (by simp [Op.operands])) (hev k (by simp [Op.operands])) (hev v (by simp [Op.operands])) hp
  exact ydz (by simp [execOp,ho,h1]) h2
 | entry x =>
  rw [ho] at hp hev
  simp only [aop] at hp ⊢
  obtain ⟨u,h1,h2,h3⟩ := zxp (P := P) hh (hev x (by simp [Op.operands])) hp
  refine zaw (w' := w) (loc' := loc) (by simp [execOp,ho,h1]) (Post.pure h2 (by rw [h3]; exact hh) he)
 | makeSlice t l c =>
  rw [ho] at hp hev
  obtain ⟨u,w',loc',h1,h2⟩ := yey (P := P) hT he hh hf (hev l (by simp [Op.operands])) (hev c (by simp [Op.operands])) hp
  exact zaw (by simp [execOp,ho,h1]) h2
 | slice t x lo hi mx =>
  rw [ho] at hp hev
  obtain ⟨hq,hp⟩ := hp
  have hor : ∀ (q : Option Operand),(∀ y,q = some y → y ∈ (Op.slice t x lo hi mx).operands.toList) → OR w loc (evo sl q) (q.map a.eval) := by
   intro q hm
   cases q with
   | none => trivial
   | some y => exact hev y (hm y rfl)
  have hsome : ∀ (q : Option Operand),(evo sl q).isSome = q.isSome := fun q => by cases q <;> rfl
  obtain ⟨u,h1,h2,h3⟩ := zwp (P := P) hT (hev x (by simp [Op.operands])) (hor lo (by rintro y rfl; simp [Op.operands])) (hor hi (by rintro y rfl; simp [Op.operands])) (hor mx (by rintro y rfl; simp [Op.operands])) (by rw [hsome,hsome]; exact hq) hh hp
  exact zaw (w' := w) (loc' := loc) (by simp [execOp,ho,h1]) (Post.pure h2 (by simp only [aop,Out.and]; rw [h3]; exact hh) he)
 | fieldAddr s x f =>
  rw [ho] at hp hev
  obtain ⟨u,h1,h2,h3⟩ := zok (P := P) hT hh (hev x (by simp [Op.operands])) hp
  exact zaw (w' := w) (loc' := loc) (by simp [execOp,ho,h1]) (Post.pure h2 (by simp only [aop]; rw [h3]; exact hh) he)
 | field t x f =>
  rw [ho] at hp hev
  obtain ⟨u,h1,h2,h3⟩ := zxo (P := P) hT (hev x (by simp [Op.operands])) hp
  exact zaw (w' := w) (loc' := loc) (by simp [execOp,ho,h1]) (Post.pure h2 (by simp only [aop]; rw [h3]; exact hh) he)
 | indexAddr t x i =>
  rw [ho] at hp hev
  obtain ⟨u,h1,h2,h3⟩ := znz (P := P) hT hh (hev x (by simp [Op.operands])) (hev i (by simp [Op.operands])) hp
  exact zaw (w' := w) (loc' := loc) (by simp [execOp,ho,h1]) (Post.pure h2 (by simp only [aop]; rw [h3]; exact hh) he)
 | index t x i =>
  rw [ho] at hp hev
  obtain ⟨u,h1,h2,h3⟩ := zxc (P := P) hT (hev x (by simp [Op.operands])) (hev i (by simp [Op.operands])) hp
  exact zaw (w' := w) (loc' := loc) (by simp [execOp,ho,h1]) (Post.pure h2 (by simp only [aop]; rw [h3]; exact hh) he)
 | extract x i =>
  rw [ho] at hp hev
  obtain ⟨u,h1,h2,h3⟩ := zsh (P := P) (hev x (by simp [Op.operands])) hp
  exact zaw (w' := w) (loc' := loc) (by simp [execOp,ho,h1]) (Post.pure h2 (by simp only [aop]; rw [h3]; exact hh) he)
 | call c =>
  rw [ho] at hp hev
  obtain ⟨callee,args,argTypes⟩ := c
  simp only [aop,aCall] at hp ⊢
  have hargs : ∀ x ∈ args.toList,R w loc (ev sl x) (a.eval x) := fun x hx => hev x (by simp [Op.operands,Call.operands]; right; simpa using hx)
  cases callee with
  | builtin b =>
   cases b with
   | len =>
    simp only at hp ⊢
    split at hp
    ·rename_i x t hax hat
     obtain rfl : args = #[x] := by rw [← Array.toList_inj]; simpa using hax
     obtain rfl : argTypes = #[t] := by rw [← Array.toList_inj]; simpa using hat
     obtain ⟨u,h1,h2,h3⟩ := yez (P := P) (u := o.type) hT hh (hargs x (by simp)) hp
     refine zaw (v := u) (w' := w) (loc' := loc) ?_ (Post.pure h2 (by rw [h3]; exact hh) he)
     simp only [execOp,ho,resolve,invoke,builtin,Sem.run_bind,Sem.run_pure,Result.andThen_ok]
     simp [h1]
    ·exact hp.elim
   | min =>
    simp only at hp ⊢
    obtain ⟨e1,e2⟩ := zvb args.toList hargs
    generalize evs sl args.toList = l at e1 e2 hp ⊢
    unfold aMin at hp ⊢
    split at hp
    ·rename_i k x k' y
     obtain ⟨p,q,rfl⟩ : ∃ p q,args = #[p,q] := by
      obtain ⟨l⟩ := args
      match l,e1 with
      | [p,q],_ => exact ⟨p,q,rfl⟩
     have r1 := (e2 0 (by simp) (by simp)).wv
     have r2 := (e2 1 (by simp) (by simp)).wv
     simp at r1 r2
     refine zaw (v := .int k (if y < x then y else x)) (w' := w) (loc' := loc) ?_ (Post.pure (.w _ rfl) hh he)
     simp only [execOp,ho,resolve,invoke,builtin,Sem.run_bind,Sem.run_pure,Result.andThen_ok]
     simp [r1,r2,yev (P := P) (w := w) (loc := loc) (H := H)]
    ·exact hp.elim
   | max =>
    simp only at hp ⊢
    obtain ⟨e1,e2⟩ := zvb args.toList hargs
    generalize evs sl args.toList = l at e1 e2 hp ⊢
    unfold aMax at hp ⊢
    split at hp
    ·rename_i k x k' y
     obtain ⟨p,q,rfl⟩ : ∃ p q,args = #[p,q] := by
      obtain ⟨l⟩ := args
      match l,e1 with
      | [p,q],_ => exact ⟨p,q,rfl⟩
     have r1 := (e2 0 (by simp) (by simp)).wv
     have r2 := (e2 1 (by simp) (by simp)).wv
     simp at r1 r2
     refine zaw (v := .int k (if y > x then y else x)) (w' := w) (loc' := loc) ?_ (Post.pure (.w _ rfl) hh he)
     simp only [execOp,ho,resolve,invoke,builtin,Sem.run_bind,Sem.run_pure,Result.andThen_ok]
     simp [r1,r2,yew (P := P) (w := w) (loc := loc) (H := H)]
    ·exact hp.elim
   | append =>
    simp only at hp ⊢
    split at hp
    ·rename_i d x hax
     obtain rfl : args = #[d,x] := by rw [← Array.toList_inj]; simpa using hax
     obtain ⟨u,w',loc',h1,h2⟩ := zyb (P := P) (ty := o.type) hT he hh hf (hargs d (by simp)) (hargs x (by simp)) hp
     refine zaw (v := u) (w' := w') (loc' := loc') ?_ h2
     simp only [execOp,ho,resolve,invoke,builtin,Sem.run_bind,Sem.run_pure,Result.andThen_ok]
     simp at h1
     simp [h1]
    ·exact hp.elim
   | copy =>
    simp only at hp ⊢
    split at hp
    ·rename_i d x hax
     obtain rfl : args = #[d,x] := by rw [← Array.toList_inj]; simpa using hax
     obtain ⟨u,w',h1,h2⟩ := ygt (P := P) (ty := o.type) (nm := nm) hT he hh (hargs d (by simp)) (hargs x (by simp)) hp
     refine zaw (v := u) (w' := w') (loc' := loc) ?_ h2
     simp only [execOp,ho,resolve,invoke,builtin,Sem.run_bind,Sem.run_pure,Result.andThen_ok]
     simp at h1
     simp [h1]
    ·exact hp.elim
   | clear =>
    simp only at hp ⊢
    split at hp
    ·rename_i x t hax htx
     obtain rfl : args = #[x] := by rw [← Array.toList_inj]; simpa using hax
     obtain rfl : argTypes = #[t] := by rw [← Array.toList_inj]; simpa using htx
     obtain ⟨u,w',h1,h2⟩ := ycz (P := P) (ty := o.type) (nm := nm) hT he hh (hargs x (by simp)) hp
     refine zaw (v := u) (w' := w') (loc' := loc) ?_ h2
     simp only [execOp,ho,resolve,invoke,builtin,Sem.run_bind,Sem.run_pure,Result.andThen_ok]
     try simp at h1
     simp [h1]
    ·exact hp.elim
   | delete =>
    simp only at hp ⊢
    split at hp
    ·rename_i d x t ts hax htx
     obtain rfl : args = #[d,x] := by rw [← Array.toList_inj]; simpa using hax
     obtain rfl : argTypes = (t :: ts).toArray := by rw [← Array.toList_inj]; simpa using htx
     obtain ⟨u,w',h1,h2⟩ := zxq (P := P) (u := o.type) (nm := nm) (ts := ts) hT he hh (hargs d (by simp)) (hargs x (by simp)) hp
     refine zaw (v := u) (w' := w') (loc' := loc) ?_ h2
     simp only [execOp,ho,resolve,invoke,builtin,Sem.run_bind,Sem.run_pure,Result.andThen_ok]
     try simp at h1
     simp [h1]
    ·exact hp.elim
   | _ => exact hp.elim
  | invoke r m => exact hp.elim
  | value f =>
   simp only at hp ⊢
   have hfv := hev f (by simp [Op.operands,Call.operands])
   simp only [wrOf]
   generalize ev sl f = xf at hfv hp ⊢
   split at hp
   ·rename_i g caps
    obtain ⟨_,hp⟩ := hp
    cases hv : a.eval f with
    | func fn first captured =>
     rw [hv] at hfv
     cases hfv with
     | fn _ _ cs hlc hc =>
      obtain ⟨e1,e2⟩ := zvb args.toList hargs
      obtain ⟨c1,c2⟩ := zve (T := T) (w := w) (loc := loc) argTypes.toList (evs sl args.toList)
      have c2 := c2 (args.toList.map a.eval) e2
      cases hsg : S g with
      | none => simp [aUser,hsg,bad] at hp
      | some sp =>
       obtain ⟨⟨fn,hfn,hbody,hname⟩,hsound⟩ := hS g sp hsg
       have hlen : (coes T argTypes.toList (evs sl args.toList) ++ caps).length = (args.toList.map a.eval ++ cs).length := by simp [c1,e1,hlc]
       have hcall := yha (P := P) he hh hfree (S := S) (fun f s h => (hS f s h).2) (f := g) hlen (fun j p q => by
        by_cases hj : j < (coes T argTypes.toList (evs sl args.toList)).length
        ·rw [List.getElem_append_left hj,List.getElem_append_left (by rw [← (show _ = _ from by simp [c1,e1] : (coes T argTypes.toList (evs sl args.toList)).length = (args.toList.map a.eval).length)]; exact hj)]
         exact c2 j hj _
        ·have hl : (coes T argTypes.toList (evs sl args.toList)).length = (args.toList.map a.eval).length := by simp [c1,e1]
         rw [List.getElem_append_right (by omega),List.getElem_append_right (by omega)]
         have := hc (j - (coes T argTypes.toList (evs sl args.toList)).length) (by rw [List.length_append] at p; omega) (by rw [List.length_append] at q; omega)
         simpa [hl] using this) hp
       have hrun : (execOp a.eval o).run P w = .ok (.enter g (args.toList.map a.eval ++ cs).toArray) w := by
        have h1 : fn.name ≠ "runtime.NumGoroutine" := by simpa using hname
        have hb' : fn.body ≠ none := by intro e; rw [e] at hbody; simp at hbody
        simp [execOp,ho,resolve,hv,Deferred.ofValue,invoke,callFunc,hfn,h1,hb']
       intro next Q hn
       unfold Oper.wp
       rw [hrun]
       refine hcall.mono ?_
       rintro e w' ⟨v,loc',rfl,h1,h2⟩
       refine hn v w' loc' ?_
       show Post w0 E w loc (!(rootsL (coes T argTypes.toList (evs sl args.toList) ++ caps)).isEmpty || !(lentIdsL (coes T argTypes.toList (evs sl args.toList) ++ caps)).isEmpty) nm _ _ _ _ _
       cases hr : (rootsL (coes T argTypes.toList (evs sl args.toList) ++ caps)).isEmpty with
       | true =>
        cases hr2 : (lentIdsL (coes T argTypes.toList (evs sl args.toList) ++ caps)).isEmpty with
        | true => exact h2 (by simpa using hr) (by simpa using hr2)
        | false => exact h1
       | false => exact h1
    | _ => rw [hv] at hfv; cases hfv
   ·exact hp.elim
 | _ => rw [ho] at hp; exact hp.elim
end
end Ax
end Go.Proofs.Ytdfgfdcfcdgadaa
namespace Go.Proofs.Ytdfgfdcfcdgadaa
namespace Ax
def Hok (nm : Nat) (H : Heap) (o : Out) : Prop := o.p → ∀ id,¬ (nm ≤ id ∧ id < nm + 8) → look o.H id = look H id
def Hnew (nm : Nat) (H : Heap) (o : Out) : Prop := o.p → ∀ id b,look o.H id = some b → look H id ≠ none ∨ (nm ≤ id ∧ id < nm + 8)
section
variable {nm : Nat} {H : Heap}
theorem hok_bad : Hok nm H bad := fun h => h.elim
theorem hok_same {p : Prop} {x : AV} : Hok nm H ⟨p,x,H⟩ := fun _ _ _ => rfl
theorem hok_put {p : Prop} {x : AV} {b : Blk} : Hok nm H ⟨p,x,put H nm b⟩ := fun _ id h => by simp only; rw [zax,if_neg (by omega)]
theorem zhx {q : Prop} {o : Out} (h : Hok nm H o) : Hok nm H (o.and q) := fun hp => h hp.2
theorem Hok.new {o : Out} (h : Hok nm H o) : Hnew nm H o := by
 intro hp id b hl
 by_cases hk : nm ≤ id ∧ id < nm + 8
 ·exact .inr hk
 ·rw [h hp id hk] at hl; exact .inl (by rw [hl]; simp)
theorem zkt {ti : TyI} {ls : List AV} {f : Nat} : Hok nm H (subv ti ls f H) := by
 unfold subv; cases ti.d.aggr <;> exact hok_same
theorem hok_load {T : zac} {t : TypeId} {x : AV} : Hok nm H (aLoad T t x H) := by
 unfold aLoad; repeat' split
 all_goals first | exact hok_bad | exact zkt | exact zhx zkt | (cases zko _ _ <;> exact zhx zkt)
theorem hok_pick {c a b : AV} : Hok nm H (zps c a b H) := by
 unfold zps; repeat' split
 all_goals first | exact hok_bad | exact hok_same
theorem hok_alloc {T : zac} {e : TypeId} : Hok nm H (aAlloc T nm e H) := by
 unfold aAlloc; repeat' split
 all_goals first | exact hok_bad | exact hok_put | (cases zjx _ <;> exact hok_put)
theorem hok_box {T : zac} {e : TypeId} {x : AV} : Hok nm H (aBox T nm e x H) := by
 unfold aBox; repeat' split
 all_goals first | exact hok_bad | exact hok_put
theorem hok_build {T : zac} {t : TypeId} {ps : List (Nat × AV)} : Hok nm H (aBuild T t ps H) := by
 unfold aBuild; repeat' split
 all_goals first | exact hok_bad | exact hok_same
theorem hok_buildSlice {T : zac} {t : TypeId} {n : Nat} {ps : List (Nat × AV)} : Hok nm H (aBuildSlice T nm t n ps H) := by
 unfold aBuildSlice; repeat' split
 all_goals first | exact hok_bad | exact hok_put
theorem hok_nil {x : AV} : Hok nm H (aNil x H) := by
 unfold aNil; repeat' split
 all_goals first | exact hok_bad | exact hok_same
theorem yng {op : BinOp} {r : Bool} : Hok nm H (aEq op r H) := by
 unfold aEq; repeat' split
 all_goals first | exact hok_bad | exact hok_same
theorem hok_bin {T : zac} {op : BinOp} {t : TypeId} {x y : AV} : Hok nm H (aBin T op t x y H) := by
 unfold aBin; repeat' split
 all_goals first | exact hok_bad | exact hok_same | exact zhx yng
theorem hok_un {op : UnOp} {x : AV} : Hok nm H (aUn op x H) := by
 unfold aUn; repeat' split
 all_goals first | exact hok_bad | exact hok_same
theorem hok_make {T : zac} {t : TypeId} {l c : AV} : Hok nm H (aMake T nm t l c H) := by
 unfold aMake; repeat' split
 all_goals first | exact hok_bad | (refine zhx ?_; repeat' split) <;> exact hok_put
theorem zui {T : zac} {t : TypeId} {x : AV} {lo hi mx : Option AV} : Hok nm H (zjc T t x lo hi mx H) := by
 unfold zjc; repeat' split
 all_goals first | exact hok_bad | exact hok_same
theorem hok_fieldAddr {T : zac} {t : TypeId} {x : AV} {f : Nat} : Hok nm H (aFieldAddr T t x f H) := by
 unfold aFieldAddr; repeat' split
 all_goals first | exact hok_bad | exact hok_same
theorem hok_field {T : zac} {t : TypeId} {x : AV} {f : Nat} : Hok nm H (aField T t x f H) := by
 unfold aField; repeat' split
 all_goals first | exact hok_bad | exact hok_same | exact zkt
theorem hok_indexAddr {T : zac} {t : TypeId} {x i : AV} : Hok nm H (zca T t x i H) := by
 unfold zca; repeat' split
 all_goals first | exact hok_bad | exact hok_same
theorem hok_index {T : zac} {t : TypeId} {x i : AV} : Hok nm H (zii T t x i H) := by
 unfold zii; repeat' split
 all_goals first | exact hok_bad | exact hok_same | exact zhx zkt
theorem hok_extract {x : AV} {i : Nat} : Hok nm H (zdi x i H) := by
 unfold zdi; repeat' split
 all_goals first | exact hok_bad | exact hok_same
theorem hok_len {T : zac} {t : TypeId} {x : AV} : Hok nm H (aLen T t x H) := by
 unfold aLen; repeat' split
 all_goals first | exact hok_bad | exact hok_same
theorem hok_min {l : List AV} : Hok nm H (aMin l H) := by
 unfold aMin; repeat' split
 all_goals first | exact hok_bad | exact hok_same
theorem hok_max {l : List AV} : Hok nm H (aMax l H) := by
 unfold aMax; repeat' split
 all_goals first | exact hok_bad | exact hok_same
theorem zfx {p : Prop} {x : AV} {id : Nat} {b : Blk} (h : look H id ≠ none ∨ (nm ≤ id ∧ id < nm + 8)) : Hnew nm H ⟨p,x,put H id b⟩ := by
 intro _ k c hl
 simp only at hl
 rw [zax] at hl
 split at hl
 ·rename_i e; rw [← e]; exact h
 ·exact .inl (by rw [hl]; simp)
theorem zku {p : Prop} {x : AV} {id : Nat} {b : Blk} : Hnew nm H ⟨p,x,put (drop H id) nm b⟩ := by
 intro _ k c hl
 simp only at hl
 rw [zax,zfh] at hl
 split at hl
 ·exact .inr (by omega)
 ·split at hl
  ·cases hl
  ·exact .inl (by rw [hl]; simp)
theorem ziq {q : Prop} {o : Out} (h : Hnew nm H o) : Hnew nm H (o.and q) := fun hp => h hp.2
theorem ycn {T : zac} {t : TypeId} {p x : AV} : Hnew nm H (zjb T t p x H) := by
 unfold zjb; repeat' split
 all_goals first
  | exact hok_bad.new
  | (rename_i h; cases zko _ _ <;> exact zfx (.inl (by rw [h]; simp)))
theorem yfk {T : zac} {s d : TypeId} {x : AV} : Hnew nm H (zkb T s d nm x H) := by
 unfold zkb; repeat' split
 all_goals first
  | exact hok_bad.new
  | exact hok_same.new
  | exact hok_put.new
  | (rename_i h; exact zfx (.inl (by rw [h]; simp)))
theorem zum {d : AV} {ys : List UInt8} : Hnew nm H (zcr nm d ys H) := by
 unfold zcr; repeat' split
 all_goals first | exact hok_bad.new | exact hok_put.new | exact zku
theorem zuk {d : AV} {ys : List Int} : Hnew nm H (zdt nm d ys H) := by
 unfold zdt; repeat' split
 all_goals first | exact hok_bad.new | exact hok_put.new | exact zku
theorem zul {s : Nat} {d : AV} {ys : List AV} : Hnew nm H (zcq s nm d ys H) := by
 unfold zcq; repeat' split
 all_goals first | exact hok_bad.new | exact hok_put.new | exact zku
theorem zxi {T : zac} {ts : List TypeId} {d x : AV} : Hnew nm H (zgf T nm ts d x H) := by
 unfold zgf; repeat' split
 all_goals first | exact hok_bad.new | exact ziq zum | exact ziq zuk | exact ziq zul
theorem yfj {T : zac} {ts : List TypeId} {d x : AV} : Hnew nm H (zpu T ts d x H) := by
 unfold zpu; repeat' split
 all_goals first | exact hok_bad.new | (rename_i h; exact ziq (zfx (.inl (by rw [h]; simp))))
theorem yfh {S : zal} {f : FuncId} {args : List AV} : Hnew nm H (aUser S nm f args H) := by
 unfold aUser
 split
 ·rename_i spec hs
  intro hp id b hl
  simp only [callOut] at hp hl
  obtain ⟨⟨hnd,hpin,hlend⟩,hsp,hb1,hb2,hbc⟩ := hp
  obtain ⟨hpl,hpc,hpg⟩ := zeu hpin
  rcases zkr _ _ _ hl with ⟨j,hj,h1,h2⟩ | ⟨h1,h2⟩
  ·rw [Nat.zero_add] at h1
   by_cases hjl : j < (rootsL args).length
   ·rw [zel hjl] at h1
    left
    rw [← h1,hpg j hjl,List.getElem?_eq_getElem (by omega)]
    simp
   ·rw [zdr (by omega)] at h1
    right; omega
  ·rw [zhu] at h1
   split at h1
   ·cases h1
   ·exact .inl (by rw [h1]; simp)
 ·exact hok_bad.new
theorem hok_fn {fn : Fn} {first : List Operand} {caps : List AV} : Hok nm H (aFn fn first caps H) := by
 unfold aFn; split
 ·exact hok_same
 ·exact hok_bad
theorem yfg {T : zac} {t : TypeId} {x : AV} (hs : zcp T t = true) : Hok nm H (zhk T nm t x H) := by
 unfold zcp at hs
 unfold zhk
 split
 ·rename_i ti ht
  rw [ht] at hs
  split
  ·split
   ·exact hok_put
   ·exact hok_bad
  ·rename_i k e he; simp [he] at hs
  ·exact hok_bad
 ·exact hok_bad
theorem yco {T : zac} {t : TypeId} {x : AV} : Hnew nm H (zhk T nm t x H) := by
 unfold zhk; repeat' split
 all_goals first | exact hok_bad.new | exact hok_put.new | exact zku
theorem yfi {x : AV} {b : Bool} : Hnew nm H (zpt x b H) := by
 unfold zpt; split
 ·split
  ·rename_i h
   cases hd : decide (_ < List.length _)
   ·exact hok_same.new
   ·exact zfx (.inl (by rw [h]; simp))
  ·exact hok_bad.new
 ·split
  ·exact hok_same.new
  ·rename_i h
   exact zfx (.inl (by rw [h]; simp))
  ·exact hok_bad.new
 ·exact hok_bad.new
theorem hok_makeMap {r : Option Operand} : Hok nm H (ziv nm r H) := by
 unfold ziv; split
 ·exact hok_put
 ·exact hok_bad
theorem hok_lookup {T : zac} {t : TypeId} {x k : AV} {ok : Bool} : Hok nm H (zgd T t x k ok H) := by
 unfold zgd; repeat' split
 all_goals first | exact hok_bad | exact hok_same
theorem hok_entry {x : AV} : Hok nm H (zjd x H) := by
 unfold zjd; repeat' split
 all_goals first | exact hok_bad | exact hok_same
theorem zxg {T : zac} {t : TypeId} {x k v : AV} : Hnew nm H (zgc T t x k v H) := by
 unfold zgc
 split
 ·split
  ·split
   ·rename_i h
    exact zfx (.inl (by rw [h]; simp))
   ·exact hok_bad.new
  ·exact hok_bad.new
 ·exact hok_bad.new
theorem ycp {T : zac} {t : TypeId} {x : AV} : Hnew nm H (zje T t x H) := by
 unfold zje
 split
 ·split
  ·split
   ·split
    ·split
     ·rename_i h
      exact zfx (.inl (by rw [h]; simp))
     ·exact hok_bad.new
    ·exact hok_bad.new
   ·exact hok_bad.new
  ·exact hok_bad.new
 ·exact hok_bad.new
theorem zxh {T : zac} {t : TypeId} {x k : AV} : Hnew nm H (zge T t x k H) := by
 unfold zge
 split
 ·split
  ·split
   ·rename_i h
    exact zfx (.inl (by rw [h]; simp))
   ·exact hok_bad.new
  ·exact hok_bad.new
 ·exact hok_bad.new
theorem zep {S : zal} {T : zac} {sl : List AV} {op : Op} : Hnew nm H (aop S T nm sl op H) := by
 cases op with
 | move x => exact hok_same.new
 | assign x => exact hok_same.new
 | pick c a b => exact hok_pick.new
 | alloc e => exact hok_alloc.new
 | box e x => exact hok_box.new
 | build t ps => exact hok_build.new
 | makeFunc fn first caps => exact hok_fn.new
 | buildSlice t n ps => exact hok_buildSlice.new
 | load t a => exact hok_load.new
 | store t a x => exact ycn
 | nilCheck x => exact hok_nil.new
 | binOp op t x y u => exact hok_bin.new
 | unOp op t x => exact hok_un.new
 | convert s d x => exact ziq yfk
 | makeSlice t l c => exact hok_make.new
 | range t x => exact yco
 | next x b => exact yfi
 | makeMap t r => exact hok_makeMap.new
 | lookup t x k ok => exact hok_lookup.new
 | mapUpdate t x k v => exact zxg
 | entry x => exact hok_entry.new
 | slice t x lo hi mx => exact (zhx zui).new
 | fieldAddr s x f => exact hok_fieldAddr.new
 | field t x f => exact hok_field.new
 | indexAddr t x i => exact hok_indexAddr.new
 | index t x i => exact hok_index.new
 | extract x i => exact hok_extract.new
 | call c =>
  show Hnew nm H (aCall S T nm sl c H)
  unfold aCall; repeat' split
  all_goals first | exact hok_bad.new | exact hok_len.new | exact hok_min.new | exact hok_max.new | exact zxi | exact yfj | exact ycp | exact zxh | exact ziq yfh
 | _ => exact hok_bad.new
theorem yiy {T : zac} {s d : TypeId} {x : AV} (hk : zai T (.convert s d (.const .nilFunc)) ≤ 1) : Hok nm H (zkb T s d nm x H) := by
 unfold zkb; repeat' split
 all_goals first
  | exact hok_bad
  | exact hok_same
  | exact hok_put
  | skip
 rename_i ti hs hd _ e he _ id s' off len _ blk hb
 intro hp
 obtain ⟨h1,h2,h3⟩ := hp
 subst h2
 exfalso
 simp [zai,zlx,zcp,coldStr,hd,he] at hk
theorem ziz {g : Nat → Nat} {H : Heap} : ∀ (bl : List Blk) (k id : Nat),look H id ≠ none → look (back g H k bl) id ≠ none
 | [],k,id,h => h
 | c :: r,k,id,h => by
  simp only [back,zax]
  split
  ·simp
  ·exact ziz r (k + 1) id h
theorem zxf {S : zal} {T : zac} {sl : List AV} {op : Op} (hk : zai T op ≤ 1) : Hok nm H (aop S T nm sl op H) := by
 cases op with
 | move x => exact hok_same
 | assign x => exact hok_same
 | pick c a b => exact hok_pick
 | alloc e => exact hok_alloc
 | box e x => exact hok_box
 | build t ps => exact hok_build
 | makeFunc fn first caps => exact hok_fn
 | buildSlice t n ps => exact hok_buildSlice
 | load t a => exact hok_load
 | store t a x => simp [zai] at hk
 | nilCheck x => exact hok_nil
 | binOp op t x y u => exact hok_bin
 | unOp op t x => exact hok_un
 | convert s d x => exact zhx (yiy hk)
 | makeSlice t l c => exact hok_make
 | range t x => exact yfg (by
   cases h : zcp T t with
   | true => rfl
   | false => simp [zai,h] at hk)
 | next x b => simp [zai] at hk
 | makeMap t r => exact hok_makeMap
 | lookup t x k ok => exact hok_lookup
 | mapUpdate t x k v => simp [zai] at hk
 | entry x => exact hok_entry
 | slice t x lo hi mx => exact zhx zui
 | fieldAddr s x f => exact hok_fieldAddr
 | field t x f => exact hok_field
 | indexAddr t x i => exact hok_indexAddr
 | index t x i => exact hok_index
 | extract x i => exact hok_extract
 | call c =>
  show Hok nm H (aCall S T nm sl c H)
  unfold aCall
  cases hc : c.callee with
  | builtin b =>
   cases b <;> simp only [zai,hc] at hk ⊢ <;> first | exact hok_bad | exact hok_min | exact hok_max | (exfalso; omega) | skip
   split <;> first | exact hok_len | exact hok_bad
  | value f =>
   simp only
   split
   ·rename_i g caps hev
    intro hp
    have hq : quietC T c = true := by
     cases hq : quietC T c with
     | true => rfl
     | false => simp [zai,hc,hq] at hk
    obtain ⟨hr,hl⟩ := hp.1 hq
    have hp := hp.2
    intro id hid
    simp only [Out.and]
    generalize coes T c.argTypes.toList (evs sl c.args.toList) ++ caps = args at hr hl hp ⊢
    unfold aUser at hp ⊢
    cases hs : S g with
    | none => simp [hs,bad] at hp
    | some spec =>
     simp only [hs,callOut,hr,hl,zjs,dropAll] at hp ⊢
     obtain ⟨⟨hnd,hpin,hlend⟩,hsp,hb1,hb2,hbc⟩ := hp
     simp only [pinsOf,List.length_nil] at hb2 ⊢
     cases hlk : look (back (gOf [] nm) H 0 (spec (lendL H [] args).2 []).bl) id with
     | none =>
      cases hlk2 : look H id with
      | none => rfl
      | some b => exact absurd hlk (ziz _ _ _ (by rw [hlk2]; simp))
     | some b =>
      rcases zkr _ _ _ hlk with ⟨j,hj,h1,h2⟩ | ⟨h1,_⟩
      ·exfalso
       rw [Nat.zero_add,zdr (by simp)] at h1
       simp only [List.length_nil] at h1
       omega
      ·exact h1.symm
   ·exact hok_bad
  | _ => simp [zai,hc,quietC] at hk
 | _ => exact hok_bad
theorem zjp {S : zal} {T : zac} {sl : List AV} {op : Op} (hk : zai T op ≤ 1) (hp : (aop S T nm sl op H).p) : wrOf T sl op = false := by
 cases op with
 | store t a x => simp [zai] at hk
 | convert s d x =>
  simp only [wrOf]
  replace hp := hp.2
  simp only [zkb] at hp
  split
  ·rename_i id s' off len hx
   simp only [hx] at hp
   cases hd : T d with
   | none => rfl
   | some i =>
    simp only
    split
    ·rename_i e hi
     exfalso
     cases hs : T s with
     | none => simp [hs,bad] at hp
     | some j =>
      simp only [hs,hd,hi] at hp
      split at hp
      ·obtain ⟨h1,h2,h3⟩ := hp
       subst h2
       simp [zai,zlx,zcp,coldStr,hd,hi] at hk
      ·exact hp.elim
    ·rfl
  ·rfl
 | call c =>
  cases hc : c.callee with
  | builtin b => cases b <;> simp [zai,hc] at hk <;> simp [wrOf,hc]
  | value f =>
   have hq : quietC T c = true := by
    cases hq : quietC T c with
    | true => rfl
    | false => simp [zai,hc,hq] at hk
   simp only [aop,aCall,hc] at hp
   simp only [wrOf,hc]
   split at hp
   ·rename_i g caps hev
    obtain ⟨hr,hl⟩ := hp.1 hq
    rw [hev]
    simp only [hr,hl,List.isEmpty,Bool.not_true,Bool.or_false]
   ·exact hp.elim
  | _ => simp [zai,hc,quietC] at hk
 | next x b => simp [zai] at hk
 | mapUpdate t x k v => simp [zai] at hk
 | range t x =>
  cases h : zcp T t with
  | true => simp [wrOf,h]
  | false => simp [zai,h] at hk
 | _ => rfl
def Pu (f : Heap → Out) (H : Heap) : Prop := (f H).p → (f []).p ∧ (f []).x = (f H).x ∧ (f H).H = H
theorem zno {S : zal} {T : zac} {sl : List AV} {op : Op} (hk : zai T op = 0) : Pu (fun H => aop S T nm sl op H) H := by
 cases op with
 | move x => exact fun h => ⟨h,rfl,rfl⟩
 | assign x => exact fun h => ⟨h,rfl,rfl⟩
 | pick c a b =>
  unfold Pu
  simp only [aop,zps]
  repeat' split
  all_goals first | exact fun h => h.elim | exact fun h => ⟨h,rfl,rfl⟩
 | build t ps =>
  unfold Pu
  simp only [aop,aBuild]
  repeat' split
  all_goals first | exact fun h => h.elim | exact fun h => ⟨h,rfl,rfl⟩
 | unOp op t x =>
  unfold Pu
  simp only [aop,aUn]
  repeat' split
  all_goals first | exact fun h => h.elim | exact fun h => ⟨h,rfl,rfl⟩
 | extract x i =>
  unfold Pu
  simp only [aop,zdi]
  repeat' split
  all_goals first | exact fun h => h.elim | exact fun h => ⟨h,rfl,rfl⟩
 | field t x f =>
  unfold Pu
  simp only [aop,aField,subv]
  repeat' split
  all_goals first | exact fun h => h.elim | (rename_i te _; cases te.d.aggr <;> exact fun h => ⟨h,rfl,rfl⟩)
 | index t x i =>
  unfold Pu
  simp only [aop,zii,subv,Out.and]
  repeat' split
  all_goals first | exact fun h => h.elim | exact fun h => ⟨h,rfl,rfl⟩ | (rename_i te _; cases te.d.aggr <;> exact fun h => ⟨h,rfl,rfl⟩)
 | binOp op t x y u =>
  unfold Pu
  simp only [aop]
  generalize ev sl x = p
  generalize ev sl y = q
  have hne : op ≠ .eql ∧ op ≠ .neq := by constructor <;> rintro rfl <;> simp [zai] at hk
  have hEq : ∀ r H,¬ (aEq op r H).p := by
   intro r H h
   unfold aEq at h
   split at h
   ·exact hne.1 rfl
   ·exact hne.2 rfl
   ·exact h
  unfold aBin
  split
  ·exact fun h => ⟨h,rfl,rfl⟩
  ·exact fun h => ⟨h,rfl,rfl⟩
  ·exact fun h => (hEq _ _ h.2).elim
  ·split
   ·exact fun h => (hEq _ _ h.2).elim
   ·exact fun h => h.elim
  ·exact fun h => (hEq _ _ h.2).elim
  ·exact fun h => (hEq _ _ h.2).elim
  ·exact fun h => h.elim
 | range t x =>
  exfalso
  cases h : zcp T t <;> simp [zai,h] at hk
 | convert s d x =>
  unfold Pu
  simp only [aop]
  generalize ev sl x = p
  have hd : zlx T d = true ∨ coldStr T d = true := by
   simp only [zai] at hk
   cases h : zlx T d with
   | true => exact .inl rfl
   | false =>
    rw [h] at hk
    cases hc : coldStr T d with
    | true => exact .inr rfl
    | false =>
     rw [hc] at hk
     cases h' : (zcp T d || zcp T s) <;> simp [h'] at hk
  rcases hd.symm with hd | hd
  ·intro ⟨hn,h⟩
   have hn := hn hd
   unfold coldStr at hd
   unfold zkb at h ⊢
   cases h1 : T s with
   | none => simp [h1,bad] at h
   | some i =>
    cases h2 : T d with
    | none => simp [h1,h2,bad] at h
    | some j =>
     simp only [h2,Bool.and_eq_true] at hd
     obtain ⟨hd1,hd⟩ := hd
     split at hd
     ·rename_i hk2
      simp only [h1,h2,hk2,Out.and] at h ⊢
      cases p with
      | ms _ _ _ _ => exact hn.elim
      | str bs => exact ⟨⟨fun _ => trivial,h⟩,rfl,rfl⟩
      | sb bs f => exact ⟨⟨fun _ => trivial,h⟩,rfl,rfl⟩
      | sg s2 xs f => cases xs with
       | nil => exact ⟨⟨fun _ => trivial,h⟩,rfl,rfl⟩
       | cons _ _ => exact absurd h.2 (by simp [zfb])
      | _ => exact absurd h.2 (by simp [zfb])
     ·cases hd
  unfold zlx at hd
  unfold zkb
  cases h1 : T s with
  | none => exact fun h => h.2.elim
  | some i =>
   cases h2 : T d with
   | none => exact fun h => h.2.elim
   | some j =>
    simp only [h2] at hd
    simp only
    split at hd
    ·rename_i k hk
     simp only [hk,Out.and]
     split
     ·exact fun h => ⟨h,rfl,rfl⟩
     ·exact fun h => h.2.elim
    ·cases hd
 | call c =>
  unfold Pu
  simp only [aop]
  cases hc : c.callee with
  | builtin b =>
   cases b <;> simp [zai,hc] at hk
   ·simp only [aCall,hc,aMax]
    split
    ·exact fun h => ⟨h,rfl,rfl⟩
    ·exact fun h => h.elim
   ·simp only [aCall,hc,aMin]
    split
    ·exact fun h => ⟨h,rfl,rfl⟩
    ·exact fun h => h.elim
  | _ => exfalso; simp only [zai,hc] at hk; cases hq : quietC T c <;> rw [hq] at hk <;> simp at hk
 | _ => simp [zai] at hk
end
end Ax
end Go.Proofs.Ytdfgfdcfcdgadaa
