/- What the proofs of this seat stand on; it asks nothing. -/
import Derived.Test.YtmedjkjoannbmaaZa05
set_option linter.unusedSimpArgs false
set_option linter.unusedVariables false
namespace Go.Proofs.Ytmedjkjoannbmaa
namespace Ax
def Blk.ren (g : Nat → Nat) : Blk → Blk
 | .g s xs => .g s (renL g xs)
 | .b bs => .b bs
 | .i ns => .i ns
 | .o x => .o x
theorem leaves_ren (g : Nat → Nat) (x : AV) : (x.ren g).leaves = renL g x.leaves := by
 cases x <;> first | rfl | (simp [AV.ren,AV.leaves,renL]; done)
theorem renL_append (g : Nat → Nat) : ∀ (xs ys : List AV),renL g (xs ++ ys) = renL g xs ++ renL g ys
 | [],_ => rfl
 | x :: xs,ys => by simp [renL,renL_append g xs ys]
theorem flat_ren (g : Nat → Nat) (b : Blk) : (b.ren g).flat = renL g b.flat := by
 cases b with
 | b bs =>
   simp only [Blk.ren,Blk.flat]
   induction bs with
   | nil => rfl
   | cons c r ih => simp only [List.map_cons,renL,AV.ren]; rw [← ih]
 | o x => rfl
 | i ns =>
   simp only [Blk.ren,Blk.flat]
   induction ns with
   | nil => rfl
   | cons c r ih => simp only [List.map_cons,renL,AV.ren]; rw [← ih]
 | g s xs =>
   simp only [Blk.ren,Blk.flat]
   induction xs with
   | nil => rfl
   | cons c r ih => simp only [renL,List.flatMap_cons,renL_append]; rw [ih,leaves_ren]
theorem ok_ren {g : Nat → Nat} {b : Blk} (h : (b.ren g).ok) : b.ok := by
 cases b with
 | g s xs =>
   obtain ⟨h1,h2⟩ := h
   refine ⟨h1,fun x hx => ?_⟩
   obtain ⟨j,hj,rfl⟩ := List.getElem_of_mem hx
   obtain ⟨h3,h4⟩ := zck g xs
   have := h2 _ (List.getElem_mem (by rw [h3]; exact hj : j < (renL g xs).length))
   rw [h4 j (by rw [h3]; exact hj) hj,leaves_ren,(zck g _).1] at this
   exact this
 | _ => trivial
theorem len_ren {g : Nat → Nat} {b : Blk} : (b.ren g).len = b.len := by
 cases b with
 | g s xs => exact (zck g xs).1
 | _ => rfl
theorem odd_ren {g : Nat → Nat} {b : Blk} : (b.ren g).odd = b.odd := by cases b <;> rfl
theorem lies_unren {w : World} {loc loc2 : Loc} {g : Nat → Nat} (hg : ∀ k,loc2.m k = loc.m (g k)) (hb : loc2.bad = loc.bad) {blk : Blk} {b : Nat} (h : Lies w loc (blk.ren g) b) : Lies w loc2 blk b := by
 rcases zeb blk with ⟨x,hx,rfl⟩ | hodd
 · exact .mkO (h.is rfl) rfl
 obtain ⟨cur,e,fz,h1,h2,h3,h4,h5⟩ := h.lies (odd_ren.trans hodd)
 have hl : blk.flat.length = (blk.ren g).flat.length := by rw [flat_ren,(zck g _).1]
 refine .mkC ⟨cur,e,fz,h1,h2,h3,by omega,fun j a c => ?_⟩ hodd
 have h6 := h5 j (by omega) c
 have e : (blk.ren g).flat[j]'(by omega) = (blk.flat[j]).ren g := by
   have := (zck g blk.flat).2 j (by rw [(zck g _).1]; exact a) a
   rw [← this]
   congr 1
   exact flat_ren g blk
 rw [e] at h6
 rw [ren_leaf_eq] at h6
 exact ⟨h6.1,unren hg hb h6.2 _ rfl⟩
def zao (g : Nat → Nat) : List AV → List AV → Prop
 | [],[] => True
 | x :: xs,y :: ys => (y = .junk ∨ y.ren g = x) ∧ zao g xs ys
 | _,_ => False
def zap (g : Nat → Nat) (n : Nat) (H : Heap) : Heap → Prop
 | [] => True
 | p :: r => p.1 < n ∧ look H (g p.1) = some (p.2.ren g) ∧ zap g n H r
theorem sameS_get {g : Nat → Nat} : ∀ {xs ys : List AV},zao g xs ys → xs.length = ys.length ∧ ∀ t,slot ys t = .junk ∨ (slot ys t).ren g = slot xs t
 | [],[],_ => ⟨rfl,fun t => .inl rfl⟩
 | x :: xs,y :: ys,h => by
   obtain ⟨h1,h2⟩ := sameS_get h.2
   refine ⟨by simp [h1],fun t => ?_⟩
   cases t with
   | zero => exact h.1
   | succ t => exact h2 t
 | [],_ :: _,h => h.elim
 | _ :: _,[],h => h.elim
theorem sameH_get {g : Nat → Nat} {n : Nat} {H : Heap} : ∀ {H' : Heap},zap g n H H' → ∀ id b,look H' id = some b → id < n ∧ look H (g id) = some (b.ren g)
 | [],_,id,b,h => by simp [look] at h
 | p :: r,h,id,b,hl => by
   have e : look (p :: r) id = if p.1 = id then some p.2 else look r id := zbt r p.1 id p.2
   rw [e] at hl
   split at hl
   · rename_i he
     injection hl with hl
     subst hl; subst he
     exact ⟨h.1,h.2.1⟩
   · exact sameH_get h.2.2 id b hl
theorem zai {σ σ' : ASt} (ids : List Nat) (h4 : ids.take 4 = [0,1,2,3]) (hnd : nodup ids = true) (hlen : ids.length = σ'.nx) (hs : zao (gOf ids σ.nx) σ.sl σ'.sl) (hh : zap (gOf ids σ.nx) σ'.nx σ.H σ'.H) : Weak σ σ' := by
 rintro w0 E B a w ⟨loc,hB,hr⟩
 have hnd' := nodup_iff hnd
 obtain ⟨hs1,hs2⟩ := sameS_get hs
 have hold : ∀ k,(hk : k < ids.length) → gOf ids σ.nx k = ids[k] := fun k hk => gOf_old hk
 have hnew : ∀ k,ids.length ≤ k → loc.m (gOf ids σ.nx k) = .free := fun k hk => hr.fresh _ (by rw [gOf_new hk]; omega)
 have hpin : ∀ k,k < 4 → gOf ids σ.nx k = k := by
   obtain ⟨t,rfl⟩ : ∃ t,ids = 0 :: 1 :: 2 :: 3 :: t := ⟨ids.drop 4,by have := List.take_append_drop 4 ids; rw [h4] at this; exact this.symm⟩
   intro k hk
   match k,hk with
   | 0,_ => rfl
   | 1,_ => rfl
   | 2,_ => rfl
   | 3,_ => rfl
 let loc' : Loc := { m := fun k => loc.m (gOf ids σ.nx k),bad := loc.bad }
 have hlt : ∀ i b,loc'.m i = .here b → i < ids.length := by
   intro i b hi
   rcases Nat.lt_or_ge i ids.length with h' | h'
   · exact h'
   · have : loc'.m i = .free := hnew i h'
     rw [this] at hi; cases hi
 refine ⟨loc',⟨hB.1,hB.2.1,fun k hk => ?_⟩,⟨?_,fun t => ?_,?_,⟨hr.env.os,hr.env.tape,hr.env.output,hr.env.size,hr.env.same,?_,?_,hr.env.bad⟩,?_,hr.defers,?_⟩⟩
 · have e : loc'.m k = loc.m k := by
     show loc.m (gOf ids σ.nx k) = loc.m k
     rw [hpin k (by have := hB.2.1; omega)]
   rw [e]; exact hB.2.2 k hk
 · rw [hr.size]; exact hs1
 · rcases hs2 t with h | h
   · rw [h]; exact .junk _
   · exact unren (loc2 := loc') (g := gOf ids σ.nx) (fun _ => rfl) rfl (hr.slots t) _ h
 · intro id b hl
   obtain ⟨h1,h2⟩ := sameH_get hh id b hl
   have h3 := hr.heap _ _ h2
   unfold BlkR at h3 ⊢
   show (match loc.m (gOf ids σ.nx id) with
     | .free => True
     | .dead => False
     | .nil => b.ok ∧ b.len = 0
     | .here c => b.ok ∧ Lies w loc' b c)
   split
   · trivial
   · rename_i e; rw [e] at h3; exact h3
   · rename_i e; rw [e] at h3; exact ⟨ok_ren h3.1,by rw [← len_ren (g := gOf ids σ.nx)]; exact h3.2⟩
   · rename_i c e; rw [e] at h3; exact ⟨ok_ren h3.1,lies_unren (loc2 := loc') (g := gOf ids σ.nx) (fun _ => rfl) rfl h3.2⟩
 · intro i j b hi hj
   have h1 := hlt i b hi
   have h2 := hlt j b hj
   have h3 : gOf ids σ.nx i = gOf ids σ.nx j := hr.env.inj _ _ b hi hj
   rw [hold i h1,hold j h2] at h3
   exact zed hnd' h3
 · exact fun i b hi => hr.env.lies _ b hi
 · intro id hid
   exact hnew id (by omega)
 · intro id b hl
   exact (sameH_get hh id b hl).1
theorem Weak.trans {a b c : ASt} (h : Weak a b) (k : Weak b c) : Weak a c := fun w0 E B x w r => k w0 E B x w (h w0 E B x w r)
def emptyB : Blk → Prop
 | .b bs => bs = []
 | .i ns => ns = []
 | .g s xs => 0 < s ∧ xs = []
 | .o _ => False
def nilV : AV → Prop
 | .sb [] true => True
 | .si [] true => True
 | .sg _ [] true => True
 | _ => False
theorem nilV_R {w : World} {loc : Loc} {x : AV} {v : Value} (hn : nilV x) (h : R w loc x v) : ∃ a,v = .slice a 0 0 := by
 unfold nilV at hn
 split at hn
 · cases h with
   | sb _ _ a cap hd _ => obtain rfl : cap = 0 := hd.full rfl; exact ⟨a,rfl⟩
 · cases h with
   | si _ _ a cap hd _ => obtain rfl : cap = 0 := hd.full rfl; exact ⟨a,rfl⟩
 · cases h with
   | sg _ _ _ a cap cs hd _ _ _ _ _ => obtain rfl : cap = 0 := hd.full rfl; exact ⟨a,rfl⟩
 · exact hn.elim
theorem weak_nil {sl : List AV} {H : Heap} {nx : Nat} (i s : Nat) (b : Blk) (hb : emptyB b) (hn : nilV (slot sl i)) : Weak ⟨sl,H,nx⟩ ⟨setSlot sl i (.ms nx s 0 0),put H nx b,nx + 1⟩ := by
 rintro w0 E B a w ⟨loc,hB,hr⟩
 have hf : loc.m nx = .free := hr.fresh nx (Nat.le_refl _)
 have hb1 : b.ok ∧ b.len = 0 := by
   cases b with
   | o x => exact hb.elim
   | b bs => exact ⟨trivial,by rw [show bs = [] from hb]; rfl⟩
   | i bs => exact ⟨trivial,by rw [show bs = [] from hb]; rfl⟩
   | g s xs => obtain ⟨h1,rfl⟩ := hb; exact ⟨⟨h1,by simp⟩,rfl⟩
 have hM : ∀ c,Mut (loc.set nx .nil) c → Mut loc c := by
   rintro c (h | ⟨k,h⟩)
   · exact .inl h
   · by_cases hk : k = nx
     · subst hk; rw [Loc.set_same] at h; cases h
     · rw [Loc.set_other _ _ hk] at h; exact .inr ⟨k,h⟩
 have hE : Ext (fun _ => False) w loc w (loc.set nx .nil) :=
   ⟨Nat.le_refl _,fun id h _ => Loc.set_other _ _ (fun e => h (e ▸ hf)),fun _ _ h => h.elim,fun c _ hm => ⟨rfl,fun h => hm (hM c h)⟩,fun _ _ _ _ => rfl,fun _ cur _ fz h => ⟨cur,fz,h,rfl⟩⟩
 have hset : ∀ {k c},(loc.set nx .nil).m k = .here c → loc.m k = .here c := by
   intro k c h
   by_cases hk : k = nx
   · subst hk; rw [Loc.set_same] at h; cases h
   · rwa [Loc.set_other _ _ hk] at h
 refine ⟨loc.set nx .nil,⟨hB.1,hB.2.1,fun k hk => ?_⟩,⟨?_,fun t => ?_,?_,⟨hr.env.os,hr.env.tape,hr.env.output,hr.env.size,hr.env.same,fun i j b h1 h2 => hr.env.inj i j b (hset h1) (hset h2),fun i b h1 => hr.env.lies i b (hset h1),hr.env.bad⟩,?_,hr.defers,?_⟩⟩
 · have hne : k ≠ nx := by
     rintro rfl
     rcases hB.2.2 k hk with h | ⟨h,_⟩ <;> rw [hf] at h <;> cases h
   rw [Loc.set_other _ _ hne]; exact hB.2.2 k hk
 · simp only; rw [zbk]; exact hr.size
 · simp only
   by_cases ht : i = t
   · subst ht
     by_cases hl : i < sl.length
     · rw [zda hl]
       obtain ⟨a',he⟩ := nilV_R hn (hr.slots i)
       rw [he]
       refine .ms _ _ _ _ _ ?_
       unfold Owns
       rw [Loc.set_same]
       exact ⟨rfl,a',rfl⟩
     · rw [slot_ge (by rw [zbk]; exact Nat.le_of_not_lt hl)]; exact .junk _
   · rw [zcx ht]; exact (hr.slots t).ext hE
 · intro id c hl
   simp only at hl
   rw [zbt] at hl
   split at hl
   · rename_i e; subst e
     injection hl with hl; subst hl
     unfold BlkR
     rw [Loc.set_same]; exact hb1
   · rename_i e
     by_cases hfr : loc.m id = .free
     · exact BlkR.free (by rw [Loc.set_other _ _ (Ne.symm e)]; exact hfr)
     · exact (hr.heap id c hl).ext hE (fun h => h) hfr
 · intro id hid
   simp only at hid
   rw [Loc.set_other _ _ (by omega)]; exact hr.fresh id (by simp only; omega)
 · intro id c hl
   simp only at hl
   rw [zbt] at hl
   split at hl
   · simp only; omega
   · have := hr.low id c hl
     simp only at this ⊢; omega
end Ax
end Go.Proofs.Ytmedjkjoannbmaa
namespace Go.Proofs.Ytmedjkjoannbmaa
namespace Ax
mutual
def AV.fz (id : Nat) (bs : List UInt8) : AV → AV
 | .agg xs => .agg (fzL id bs xs)
 | .tup xs => .tup (fzL id bs xs)
 | .fn f cs => .fn f (fzL id bs cs)
 | .ms k s off len => bif k == id then (bif s == 1 && decide (off + len ≤ bs.length) then .sb ((bs.drop off).take len) false else .ms k s off len) else .ms k s off len
 | x => x
def fzL (id : Nat) (bs : List UInt8) : List AV → List AV
 | [] => []
 | x :: xs => x.fz id bs :: fzL id bs xs
end
theorem fzL_get (id : Nat) (bs : List UInt8) : ∀ (xs : List AV),(fzL id bs xs).length = xs.length ∧ ∀ (j : Nat) (h : j < (fzL id bs xs).length) (h' : j < xs.length),(fzL id bs xs)[j] = xs[j].fz id bs
 | [] => ⟨rfl,fun j h => by simp [fzL] at h⟩
 | x :: xs => by
   obtain ⟨h1,h2⟩ := fzL_get id bs xs
   refine ⟨by simp [fzL,h1],fun j h h' => ?_⟩
   cases j with
   | zero => rfl
   | succ j => exact h2 j (by simpa [fzL] using h) (by simpa using h')
theorem fz_leaf {id : Nat} {bs : List UInt8} {x : AV} (h : x.leaf = true) : (x.fz id bs).leaf = true := by
 cases x <;> first | exact h | (simp [AV.leaf] at h; done) | skip
 simp only [AV.fz]
 cases (_ == id) with
 | false => rfl
 | true =>
   simp only [cond_true]
   cases (_ && _ : Bool) <;> rfl
theorem fz_R {w : World} {loc : Loc} {id : Nat} {bs : List UInt8} (hor : (loc.m id = .nil ∧ bs = []) ∨ ∃ b,loc.m id = .here b ∧ b < w.heap.size ∧ Lies w loc (.b bs) b ∧ (∀ k,loc.m k = .here b → k = id) ∧ ¬ loc.bad b) {x : AV} {v : Value} (h : R w loc x v) : R w (loc.set id .dead) (x.fz id bs) v := by
 have hM : ∀ c,Mut (loc.set id .dead) c → Mut loc c := by
   rintro c (h | ⟨k,h⟩)
   · exact .inl h
   · by_cases hk : k = id
     · subst hk; rw [Loc.set_same] at h; cases h
     · rw [Loc.set_other _ _ hk] at h; exact .inr ⟨k,h⟩
 have hC : ∀ {a cs},Cells w loc a cs → Cells w (loc.set id .dead) a cs := fun h => h.move (fun b _ hm => hM b hm)
 induction h with
 | w v h => exact .w v h
 | str bs => exact .str bs
 | agg xs cs hl hx _ ih =>
   obtain ⟨h1,h2⟩ := fzL_get id bs xs
   refine .agg _ cs (by rw [h1,hl]) (fun j hj => ?_) (fun j a b => ?_)
   · rw [h2 j hj (by rw [← h1]; exact hj)]; exact fz_leaf (hx j _)
   · rw [h2 j a (by rw [← h1]; exact a)]; exact ih j _ b
 | tup xs cs hl _ ih =>
   obtain ⟨h1,h2⟩ := fzL_get id bs xs
   refine .tup _ cs (by rw [h1,hl]) (fun j a b => ?_)
   rw [h2 j a (by rw [← h1]; exact a)]; exact ih j _ b
 | sb bs full a cap hd hc => exact .sb bs full a cap hd (hC hc)
 | si ns full a cap hd hc => exact .si ns full a cap hd (hC hc)
 | sg s xs full a cap cs hd hs hc hl hx h _ => exact .sg s xs full a cap cs hd hs (hC hc) hl hx (fun j a b => (h j a b).move (fun b _ hm => hM b hm) (hx j a).2)
 | cp ls a cs hc hn hl hx h _ => exact .cp ls a cs (hC hc) hn hl hx (fun j a b => (h j a b).move (fun b _ hm => hM b hm) (hx j a).2)
 | ms k s off len v h =>
   have hkeep : R w (loc.set id .dead) (.ms k s off len) v := by
     refine .ms _ _ _ _ _ ?_
     by_cases hk : k = id
     · subst hk; unfold Owns; rw [Loc.set_same]; exact h.one
     · unfold Owns at h ⊢; rw [Loc.set_other _ _ hk]; exact h
   simp only [AV.fz]
   by_cases hk : k = id
   · subst hk
     simp only [beq_self_eq_true,cond_true]
     cases hc : (s == 1 && decide (off + len ≤ bs.length)) with
     | false => exact hkeep
     | true =>
       simp only [cond_true]
       simp only [Bool.and_eq_true,beq_iff_eq,decide_eq_true_eq] at hc
       obtain ⟨rfl,hle⟩ := hc
       have hlen : ((bs.drop off).take len).length = len := by simp; omega
       rcases hor with ⟨hb,rfl⟩ | ⟨b,hb,hlt,hl,hinj,hnb⟩
       · unfold Owns at h
         rw [hb] at h
         obtain ⟨rfl,a,rfl⟩ := h
         have := R.sb (w := w) (loc := loc.set k .dead) (([] : List UInt8)) false a 0 ⟨Nat.le_refl _,Nat.zero_le _,fun h => by cases h⟩ ⟨.inl rfl⟩
         simpa using this
       unfold Owns at h
       rw [hb] at h
       obtain ⟨o,cap,cur,e,fz,rfl,ho,hh,hsz,hlc,htop⟩ := h
       have hcells : Cells w (loc.set k .dead) (some ⟨b,o,none⟩) (((bs.drop off).take len).map byte) := by
         by_cases h0 : len = 0
         · subst h0; exact ⟨.inl (by simp)⟩
         refine ⟨.inr ⟨b,o,rfl,?_,hlt,fun j hj => ?_⟩⟩
         · rintro (h | ⟨i,h⟩)
           · exact hnb h
           · by_cases hk : i = k
             · subst hk; rw [Loc.set_same] at h; cases h
             · rw [Loc.set_other _ _ hk] at h; exact hk (hinj i h)
         · obtain ⟨cur',e',fz',hh',hf',hone',hfl',hr'⟩ := hl.lies
           rw [hh] at hh'; injection hh' with hh'; injection hh' with h1 h2 h3; subst h1
           have ho := ho (by omega)
           rw [Nat.mul_one] at ho
           rw [ho]
           have hj' : j < len := by simp at hj; omega
           have hfl : (Blk.flat (.b bs)).length = bs.length := by simp [Blk.flat]
           have hjs : off + j < cur.size := by omega
           have := (hr' (off + j) (by omega) hjs).2
           have e1 : (Blk.flat (.b bs))[off + j]'(by omega) = .w (byte (bs[off + j]'(by omega))) := by simp [Blk.flat]
           rw [e1] at this
           have := this.wv
           have e2 : (((bs.drop off).take len).map byte)[j] = byte (bs[off + j]'(by omega)) := by simp
           rw [e2,← this]
           simp [World.cell?,hh,hjs]
       have := R.sb (w := w) (loc := loc.set k .dead) ((bs.drop off).take len) false (some ⟨b,o,none⟩) cap ⟨by omega,htop,fun h => by cases h⟩ hcells
       rw [hlen] at this
       exact this
   · have : (k == id) = false := by simpa using hk
     rw [this]; exact hkeep
 | rf k s i f v h =>
   refine .rf _ _ _ _ _ ?_
   by_cases hk : k = id
   · subst hk; unfold Points; rw [Loc.set_same]; exact h.one
   · unfold Points at h ⊢; rw [Loc.set_other _ _ hk]; exact h
 | fn f caps cs hl _ ih =>
   obtain ⟨h1,h2⟩ := fzL_get id bs caps
   refine .fn f _ cs (by rw [h1,hl]) (fun j a b => ?_)
   rw [h2 j a (by rw [← h1]; exact a)]; exact ih j _ b
 | junk v => exact .junk v
def Blk.fz (id : Nat) (bs : List UInt8) : Blk → Blk
 | .g s xs => .g s (fzL id bs xs)
 | .b cs => .b cs
 | .i ns => .i ns
 | .o x => .o x
theorem odd_fz {id : Nat} {bs : List UInt8} {b : Blk} : (b.fz id bs).odd = b.odd := by cases b <;> rfl
def fzH (id : Nat) (bs : List UInt8) : Heap → Heap
 | [] => []
 | p :: r => bif p.1 == id then fzH id bs r else (p.1,p.2.fz id bs) :: fzH id bs r
theorem leaves_fz (id : Nat) (bs : List UInt8) (x : AV) : (x.fz id bs).leaves = fzL id bs x.leaves := by
 cases x <;> first | rfl | skip
 simp only [AV.fz,AV.leaves,fzL]
 cases (_ == id) with
 | false => rfl
 | true =>
   simp only [cond_true]
   cases (_ && _ : Bool) <;> rfl
theorem fzL_append (id : Nat) (bs : List UInt8) : ∀ (xs ys : List AV),fzL id bs (xs ++ ys) = fzL id bs xs ++ fzL id bs ys
 | [],_ => rfl
 | x :: xs,ys => by simp [fzL,fzL_append id bs xs ys]
theorem flat_fz (id : Nat) (bs : List UInt8) (b : Blk) : (b.fz id bs).flat = fzL id bs b.flat := by
 cases b with
 | b cs =>
   simp only [Blk.fz,Blk.flat]
   induction cs with
   | nil => rfl
   | cons c r ih => simp only [List.map_cons,fzL,AV.fz]; rw [← ih]
 | o x => rfl
 | i ns =>
   simp only [Blk.fz,Blk.flat]
   induction ns with
   | nil => rfl
   | cons c r ih => simp only [List.map_cons,fzL,AV.fz]; rw [← ih]
 | g s xs =>
   simp only [Blk.fz,Blk.flat]
   induction xs with
   | nil => rfl
   | cons c r ih => simp only [fzL,List.flatMap_cons,fzL_append]; rw [ih,leaves_fz]
theorem ok_fz {id : Nat} {bs : List UInt8} {b : Blk} (h : b.ok) : (b.fz id bs).ok := by
 cases b with
 | g s xs =>
   obtain ⟨h1,h2⟩ := h
   refine ⟨h1,fun x hx => ?_⟩
   obtain ⟨j,hj,rfl⟩ := List.getElem_of_mem hx
   obtain ⟨h3,h4⟩ := fzL_get id bs xs
   rw [h4 j hj (by rw [← h3]; exact hj),leaves_fz,(fzL_get id bs _).1]
   exact h2 _ (List.getElem_mem _)
 | _ => trivial
theorem len_fz {id : Nat} {bs : List UInt8} {b : Blk} : (b.fz id bs).len = b.len := by
 cases b with
 | g s xs => exact (fzL_get id bs xs).1
 | _ => rfl
theorem fzH_get {id : Nat} {bs : List UInt8} : ∀ {H : Heap} {k : Nat} {b : Blk},look (fzH id bs H) k = some b → k ≠ id ∧ ∃ c,look H k = some c ∧ b = c.fz id bs
 | [],k,b,h => by simp [fzH,look] at h
 | p :: r,k,b,h => by
   have e : look (p :: r) k = if p.1 = k then some p.2 else look r k := zbt r p.1 k p.2
   unfold fzH at h
   by_cases hp : p.1 = id
   · have : (p.1 == id) = true := by simpa using hp
     rw [this] at h
     obtain ⟨h1,c,h2,h3⟩ := fzH_get h
     exact ⟨h1,c,by rw [e,if_neg (by omega)]; exact h2,h3⟩
   · have : (p.1 == id) = false := by simpa using hp
     rw [this] at h
     have e2 : look ((p.1,p.2.fz id bs) :: fzH id bs r) k = if p.1 = k then some (p.2.fz id bs) else look (fzH id bs r) k := zbt (fzH id bs r) p.1 k _
     simp only [cond_false] at h
     rw [e2] at h
     split at h
     · rename_i hk
       injection h with h
       exact ⟨by omega,p.2,by rw [e,if_pos hk],h.symm⟩
     · rename_i hk
       obtain ⟨h1,c,h2,h3⟩ := fzH_get h
       exact ⟨h1,c,by rw [e,if_neg hk]; exact h2,h3⟩
theorem slot_fzL {id : Nat} {bs : List UInt8} : ∀ (sl : List AV) (t : Nat),slot (fzL id bs sl) t = (slot sl t).fz id bs
 | [],t => rfl
 | x :: xs,0 => rfl
 | x :: xs,t + 1 => slot_fzL xs t
theorem weak_fz {sl : List AV} {H : Heap} {nx : Nat} (id i : Nat) (bs : List UInt8) (hl : look H id = some (.b bs)) (hi : id ∈ (slot sl i).ids) : Weak ⟨sl,H,nx⟩ ⟨fzL id bs sl,fzH id bs H,nx⟩ := by
 rintro w0 E B a w ⟨loc,hB,hr⟩
 have hlive : loc.m id ≠ .free := zfj _ _ (hr.slots i) hi
 have hblk := hr.heap id _ hl
 have hor : (loc.m id = .nil ∧ bs = []) ∨ ∃ b,loc.m id = .here b ∧ b < w.heap.size ∧ Lies w loc (.b bs) b ∧ (∀ k,loc.m k = .here b → k = id) ∧ ¬ loc.bad b := by
   unfold BlkR at hblk
   cases e : loc.m id with
   | free => exact (hlive e).elim
   | dead => rw [e] at hblk; exact hblk.elim
   | nil => rw [e] at hblk; exact .inl ⟨rfl,List.eq_nil_of_length_eq_zero hblk.2⟩
   | here b =>
     rw [e] at hblk
     have h1 := hr.env.lies id b e
     refine .inr ⟨b,rfl,h1.1,hblk.2,fun k hk => hr.env.inj k id b hk e,fun hb => ?_⟩
     have h2 := hr.env.bad b hb
     rcases h1.2 with h3 | h3
     · omega
     · exact h2.2 h3
 have hset : ∀ {k c},(loc.set id .dead).m k = .here c → loc.m k = .here c := by
   intro k c h
   by_cases hk : k = id
   · subst hk; rw [Loc.set_same] at h; cases h
   · rwa [Loc.set_other _ _ hk] at h
 refine ⟨loc.set id .dead,⟨hB.1,hB.2.1,fun k hk => ?_⟩,⟨?_,fun t => ?_,?_,⟨hr.env.os,hr.env.tape,hr.env.output,hr.env.size,hr.env.same,fun i j b h1 h2 => hr.env.inj i j b (hset h1) (hset h2),fun i b h1 => hr.env.lies i b (hset h1),hr.env.bad⟩,?_,hr.defers,?_⟩⟩
 · by_cases hne : k = id
   · subst hne; left; rw [Loc.set_same]
   · rw [Loc.set_other _ _ hne]; exact hB.2.2 k hk
 · rw [hr.size]; exact ((fzL_get id bs sl).1).symm
 · simp only; rw [slot_fzL]; exact fz_R hor (hr.slots t)
 · intro k b hk
   obtain ⟨h1,c,h2,rfl⟩ := fzH_get hk
   have h3 := hr.heap k c h2
   unfold BlkR at h3 ⊢
   rw [Loc.set_other _ _ h1]
   split
   · trivial
   · rename_i e; rw [e] at h3; exact h3
   · rename_i e; rw [e] at h3; exact ⟨ok_fz h3.1,by rw [len_fz]; exact h3.2⟩
   · rename_i d e
     rw [e] at h3
     rcases zeb c with ⟨x,hx,rfl⟩ | hodd
     · exact ⟨ok_fz h3.1,.mkO (h3.2.is hx) rfl⟩
     obtain ⟨cur,el,fz,g1,g2,g3,g4,g5⟩ := h3.2.lies hodd
     have hlen : (c.fz id bs).flat.length = c.flat.length := by rw [flat_fz,(fzL_get id bs _).1]
     refine ⟨ok_fz h3.1,.mkC ⟨cur,el,fz,g1,g2,g3,by omega,fun j x y => ?_⟩ (odd_fz.trans hodd)⟩
     have h6 := g5 j (by omega) y
     have e : (c.fz id bs).flat[j] = (c.flat[j]'(by omega)).fz id bs := by
       have := (fzL_get id bs c.flat).2 j (by rw [(fzL_get id bs _).1]; omega) (by omega)
       rw [← this]
       congr 1
       exact flat_fz id bs c
     rw [e]
     exact ⟨fz_leaf h6.1,fz_R hor h6.2⟩
 · intro k hk
   by_cases hne : k = id
   · exact (hlive (hne ▸ hr.fresh k hk)).elim
   · rw [Loc.set_other _ _ hne]; exact hr.fresh k hk
 · intro k b hk
   obtain ⟨h1,c,h2,rfl⟩ := fzH_get hk
   exact hr.low k c h2
theorem weak_coe {sl : List AV} {H : Heap} {nx : Nat} (i s : Nat) (f : Bool) (hn : slot sl i = .sg s [] f) : Weak ⟨sl,H,nx⟩ ⟨setSlot sl i (.sb [] f),H,nx⟩ := by
 rintro w0 E B a w ⟨loc,hB,hr⟩
 refine ⟨loc,hB,⟨?_,fun t => ?_,hr.heap,hr.env,hr.fresh,hr.defers,hr.low⟩⟩
 · simp only; rw [zbk]; exact hr.size
 · simp only
   by_cases ht : i = t
   · subst ht
     by_cases hl : i < sl.length
     · rw [zda hl]
       have h := hr.slots i
       simp only at h
       rw [hn] at h
       generalize a.tmps.getD i undef = v at h ⊢
       cases h with
       | sg _ _ _ a cap cs hd _ _ _ _ _ => exact .sb [] f a cap hd ⟨.inl rfl⟩
     · rw [slot_ge (by rw [zbk]; exact Nat.le_of_not_lt hl)]; exact .junk _
   · rw [zcx ht]; exact hr.slots t
theorem zel {sl : List AV} {H : Heap} {nx : Nat} (i : Nat) (x : AV) (hx : ∀ w loc v,R w loc (slot sl i) v → R w loc x v) : Weak ⟨sl,H,nx⟩ ⟨setSlot sl i x,H,nx⟩ := by
 rintro w0 E B a w ⟨loc,hB,hr⟩
 refine ⟨loc,hB,⟨?_,fun t => ?_,hr.heap,hr.env,hr.fresh,hr.defers,hr.low⟩⟩
 · simp only; rw [zbk]; exact hr.size
 · simp only
   by_cases ht : i = t
   · subst ht
     by_cases hl : i < sl.length
     · rw [zda hl]
       exact hx w loc _ (hr.slots i)
     · rw [slot_ge (by rw [zbk]; exact Nat.le_of_not_lt hl)]; exact .junk _
   · rw [zcx ht]; exact hr.slots t
theorem R.nilb {w : World} {loc : Loc} {s : Nat} {f : Bool} {v : Value} (h : R w loc (.sg s [] f) v) : R w loc (.sb [] false) v := by
 cases h with
 | sg _ _ _ a cap cs hd _ _ _ _ _ => exact .sb [] false a cap ⟨hd.le,hd.top,fun h => by cases h⟩ ⟨.inl rfl⟩
end Ax
end Go.Proofs.Ytmedjkjoannbmaa
namespace Go.Proofs.Ytmedjkjoannbmaa
namespace Ax
mutual
def AV.fi (id : Nat) (bs : List Int) : AV → AV
 | .agg xs => .agg (fiL id bs xs)
 | .tup xs => .tup (fiL id bs xs)
 | .fn f cs => .fn f (fiL id bs cs)
 | .ms k s off len => bif k == id then (bif s == 1 && decide (off + len ≤ bs.length) then .si ((bs.drop off).take len) false else .ms k s off len) else .ms k s off len
 | x => x
def fiL (id : Nat) (bs : List Int) : List AV → List AV
 | [] => []
 | x :: xs => x.fi id bs :: fiL id bs xs
end
theorem fiL_get (id : Nat) (bs : List Int) : ∀ (xs : List AV),(fiL id bs xs).length = xs.length ∧ ∀ (j : Nat) (h : j < (fiL id bs xs).length) (h' : j < xs.length),(fiL id bs xs)[j] = xs[j].fi id bs
 | [] => ⟨rfl,fun j h => by simp [fiL] at h⟩
 | x :: xs => by
   obtain ⟨h1,h2⟩ := fiL_get id bs xs
   refine ⟨by simp [fiL,h1],fun j h h' => ?_⟩
   cases j with
   | zero => rfl
   | succ j => exact h2 j (by simpa [fiL] using h) (by simpa using h')
theorem fi_leaf {id : Nat} {bs : List Int} {x : AV} (h : x.leaf = true) : (x.fi id bs).leaf = true := by
 cases x <;> first | exact h | (simp [AV.leaf] at h; done) | skip
 simp only [AV.fi]
 cases (_ == id) with
 | false => rfl
 | true =>
   simp only [cond_true]
   cases (_ && _ : Bool) <;> rfl
theorem fi_R {w : World} {loc : Loc} {id : Nat} {bs : List Int} (hor : (loc.m id = .nil ∧ bs = []) ∨ ∃ b,loc.m id = .here b ∧ b < w.heap.size ∧ Lies w loc (.i bs) b ∧ (∀ k,loc.m k = .here b → k = id) ∧ ¬ loc.bad b) {x : AV} {v : Value} (h : R w loc x v) : R w (loc.set id .dead) (x.fi id bs) v := by
 have hM : ∀ c,Mut (loc.set id .dead) c → Mut loc c := by
   rintro c (h | ⟨k,h⟩)
   · exact .inl h
   · by_cases hk : k = id
     · subst hk; rw [Loc.set_same] at h; cases h
     · rw [Loc.set_other _ _ hk] at h; exact .inr ⟨k,h⟩
 have hC : ∀ {a cs},Cells w loc a cs → Cells w (loc.set id .dead) a cs := fun h => h.move (fun b _ hm => hM b hm)
 induction h with
 | w v h => exact .w v h
 | str bs => exact .str bs
 | agg xs cs hl hx _ ih =>
   obtain ⟨h1,h2⟩ := fiL_get id bs xs
   refine .agg _ cs (by rw [h1,hl]) (fun j hj => ?_) (fun j a b => ?_)
   · rw [h2 j hj (by rw [← h1]; exact hj)]; exact fi_leaf (hx j _)
   · rw [h2 j a (by rw [← h1]; exact a)]; exact ih j _ b
 | tup xs cs hl _ ih =>
   obtain ⟨h1,h2⟩ := fiL_get id bs xs
   refine .tup _ cs (by rw [h1,hl]) (fun j a b => ?_)
   rw [h2 j a (by rw [← h1]; exact a)]; exact ih j _ b
 | sb bs full a cap hd hc => exact .sb bs full a cap hd (hC hc)
 | si ns full a cap hd hc => exact .si ns full a cap hd (hC hc)
 | sg s xs full a cap cs hd hs hc hl hx h _ => exact .sg s xs full a cap cs hd hs (hC hc) hl hx (fun j a b => (h j a b).move (fun b _ hm => hM b hm) (hx j a).2)
 | cp ls a cs hc hn hl hx h _ => exact .cp ls a cs (hC hc) hn hl hx (fun j a b => (h j a b).move (fun b _ hm => hM b hm) (hx j a).2)
 | ms k s off len v h =>
   have hkeep : R w (loc.set id .dead) (.ms k s off len) v := by
     refine .ms _ _ _ _ _ ?_
     by_cases hk : k = id
     · subst hk; unfold Owns; rw [Loc.set_same]; exact h.one
     · unfold Owns at h ⊢; rw [Loc.set_other _ _ hk]; exact h
   simp only [AV.fi]
   by_cases hk : k = id
   · subst hk
     simp only [beq_self_eq_true,cond_true]
     cases hc : (s == 1 && decide (off + len ≤ bs.length)) with
     | false => exact hkeep
     | true =>
       simp only [cond_true]
       simp only [Bool.and_eq_true,beq_iff_eq,decide_eq_true_eq] at hc
       obtain ⟨rfl,hle⟩ := hc
       have hlen : ((bs.drop off).take len).length = len := by simp; omega
       rcases hor with ⟨hb,rfl⟩ | ⟨b,hb,hlt,hl,hinj,hnb⟩
       · unfold Owns at h
         rw [hb] at h
         obtain ⟨rfl,a,rfl⟩ := h
         have := R.si (w := w) (loc := loc.set k .dead) (([] : List Int)) false a 0 ⟨Nat.le_refl _,Nat.zero_le _,fun h => by cases h⟩ ⟨.inl rfl⟩
         simpa using this
       unfold Owns at h
       rw [hb] at h
       obtain ⟨o,cap,cur,e,fz,rfl,ho,hh,hsz,hlc,htop⟩ := h
       have hcells : Cells w (loc.set k .dead) (some ⟨b,o,none⟩) (((bs.drop off).take len).map word) := by
         by_cases h0 : len = 0
         · subst h0; exact ⟨.inl (by simp)⟩
         refine ⟨.inr ⟨b,o,rfl,?_,hlt,fun j hj => ?_⟩⟩
         · rintro (h | ⟨i,h⟩)
           · exact hnb h
           · by_cases hk : i = k
             · subst hk; rw [Loc.set_same] at h; cases h
             · rw [Loc.set_other _ _ hk] at h; exact hk (hinj i h)
         · obtain ⟨cur',e',fz',hh',hf',hone',hfl',hr'⟩ := hl.lies
           rw [hh] at hh'; injection hh' with hh'; injection hh' with h1 h2 h3; subst h1
           have ho := ho (by omega)
           rw [Nat.mul_one] at ho
           rw [ho]
           have hj' : j < len := by simp at hj; omega
           have hfl : (Blk.flat (.i bs)).length = bs.length := by simp [Blk.flat]
           have hjs : off + j < cur.size := by omega
           have := (hr' (off + j) (by omega) hjs).2
           have e1 : (Blk.flat (.i bs))[off + j]'(by omega) = .w (word (bs[off + j]'(by omega))) := by simp [Blk.flat]
           rw [e1] at this
           have := this.wv
           have e2 : (((bs.drop off).take len).map word)[j] = word (bs[off + j]'(by omega)) := by simp
           rw [e2,← this]
           simp [World.cell?,hh,hjs]
       have := R.si (w := w) (loc := loc.set k .dead) ((bs.drop off).take len) false (some ⟨b,o,none⟩) cap ⟨by omega,htop,fun h => by cases h⟩ hcells
       rw [hlen] at this
       exact this
   · have : (k == id) = false := by simpa using hk
     rw [this]; exact hkeep
 | rf k s i f v h =>
   refine .rf _ _ _ _ _ ?_
   by_cases hk : k = id
   · subst hk; unfold Points; rw [Loc.set_same]; exact h.one
   · unfold Points at h ⊢; rw [Loc.set_other _ _ hk]; exact h
 | fn f caps cs hl _ ih =>
   obtain ⟨h1,h2⟩ := fiL_get id bs caps
   refine .fn f _ cs (by rw [h1,hl]) (fun j a b => ?_)
   rw [h2 j a (by rw [← h1]; exact a)]; exact ih j _ b
 | junk v => exact .junk v
def Blk.fi (id : Nat) (bs : List Int) : Blk → Blk
 | .g s xs => .g s (fiL id bs xs)
 | .b cs => .b cs
 | .i ns => .i ns
 | .o x => .o x
theorem odd_fi {id : Nat} {bs : List Int} {b : Blk} : (b.fi id bs).odd = b.odd := by cases b <;> rfl
def fiH (id : Nat) (bs : List Int) : Heap → Heap
 | [] => []
 | p :: r => bif p.1 == id then fiH id bs r else (p.1,p.2.fi id bs) :: fiH id bs r
theorem leaves_fi (id : Nat) (bs : List Int) (x : AV) : (x.fi id bs).leaves = fiL id bs x.leaves := by
 cases x <;> first | rfl | skip
 simp only [AV.fi,AV.leaves,fiL]
 cases (_ == id) with
 | false => rfl
 | true =>
   simp only [cond_true]
   cases (_ && _ : Bool) <;> rfl
theorem fiL_append (id : Nat) (bs : List Int) : ∀ (xs ys : List AV),fiL id bs (xs ++ ys) = fiL id bs xs ++ fiL id bs ys
 | [],_ => rfl
 | x :: xs,ys => by simp [fiL,fiL_append id bs xs ys]
theorem flat_fi (id : Nat) (bs : List Int) (b : Blk) : (b.fi id bs).flat = fiL id bs b.flat := by
 cases b with
 | b cs =>
   simp only [Blk.fi,Blk.flat]
   induction cs with
   | nil => rfl
   | cons c r ih => simp only [List.map_cons,fiL,AV.fi]; rw [← ih]
 | o x => rfl
 | i ns =>
   simp only [Blk.fi,Blk.flat]
   induction ns with
   | nil => rfl
   | cons c r ih => simp only [List.map_cons,fiL,AV.fi]; rw [← ih]
 | g s xs =>
   simp only [Blk.fi,Blk.flat]
   induction xs with
   | nil => rfl
   | cons c r ih => simp only [fiL,List.flatMap_cons,fiL_append]; rw [ih,leaves_fi]
theorem ok_fi {id : Nat} {bs : List Int} {b : Blk} (h : b.ok) : (b.fi id bs).ok := by
 cases b with
 | g s xs =>
   obtain ⟨h1,h2⟩ := h
   refine ⟨h1,fun x hx => ?_⟩
   obtain ⟨j,hj,rfl⟩ := List.getElem_of_mem hx
   obtain ⟨h3,h4⟩ := fiL_get id bs xs
   rw [h4 j hj (by rw [← h3]; exact hj),leaves_fi,(fiL_get id bs _).1]
   exact h2 _ (List.getElem_mem _)
 | _ => trivial
theorem len_fi {id : Nat} {bs : List Int} {b : Blk} : (b.fi id bs).len = b.len := by
 cases b with
 | g s xs => exact (fiL_get id bs xs).1
 | _ => rfl
theorem fiH_get {id : Nat} {bs : List Int} : ∀ {H : Heap} {k : Nat} {b : Blk},look (fiH id bs H) k = some b → k ≠ id ∧ ∃ c,look H k = some c ∧ b = c.fi id bs
 | [],k,b,h => by simp [fiH,look] at h
 | p :: r,k,b,h => by
   have e : look (p :: r) k = if p.1 = k then some p.2 else look r k := zbt r p.1 k p.2
   unfold fiH at h
   by_cases hp : p.1 = id
   · have : (p.1 == id) = true := by simpa using hp
     rw [this] at h
     obtain ⟨h1,c,h2,h3⟩ := fiH_get h
     exact ⟨h1,c,by rw [e,if_neg (by omega)]; exact h2,h3⟩
   · have : (p.1 == id) = false := by simpa using hp
     rw [this] at h
     have e2 : look ((p.1,p.2.fi id bs) :: fiH id bs r) k = if p.1 = k then some (p.2.fi id bs) else look (fiH id bs r) k := zbt (fiH id bs r) p.1 k _
     simp only [cond_false] at h
     rw [e2] at h
     split at h
     · rename_i hk
       injection h with h
       exact ⟨by omega,p.2,by rw [e,if_pos hk],h.symm⟩
     · rename_i hk
       obtain ⟨h1,c,h2,h3⟩ := fiH_get h
       exact ⟨h1,c,by rw [e,if_neg hk]; exact h2,h3⟩
theorem slot_fiL {id : Nat} {bs : List Int} : ∀ (sl : List AV) (t : Nat),slot (fiL id bs sl) t = (slot sl t).fi id bs
 | [],t => rfl
 | x :: xs,0 => rfl
 | x :: xs,t + 1 => slot_fiL xs t
theorem rel_fi {w0 : World} {E : Nat → Prop} {B : Bs} {w : World} {loc : Loc} {a : Act} {sl : List AV} {H : Heap} {nx : Nat} (id : Nat) (bs : List Int) (hl : look H id = some (.i bs)) (hB : Base w0 B w loc) (hr : Rel' w0 E loc ⟨sl,H,nx⟩ a w) (hlive : loc.m id ≠ .free) : Rel w0 E B ⟨fiL id bs sl,fiH id bs H,nx⟩ a w := by
 have hblk := hr.heap id _ hl
 have hor : (loc.m id = .nil ∧ bs = []) ∨ ∃ b,loc.m id = .here b ∧ b < w.heap.size ∧ Lies w loc (.i bs) b ∧ (∀ k,loc.m k = .here b → k = id) ∧ ¬ loc.bad b := by
   unfold BlkR at hblk
   cases e : loc.m id with
   | free => exact (hlive e).elim
   | dead => rw [e] at hblk; exact hblk.elim
   | nil => rw [e] at hblk; exact .inl ⟨rfl,List.eq_nil_of_length_eq_zero hblk.2⟩
   | here b =>
     rw [e] at hblk
     have h1 := hr.env.lies id b e
     refine .inr ⟨b,rfl,h1.1,hblk.2,fun k hk => hr.env.inj k id b hk e,fun hb => ?_⟩
     have h2 := hr.env.bad b hb
     rcases h1.2 with h3 | h3
     · omega
     · exact h2.2 h3
 have hset : ∀ {k c},(loc.set id .dead).m k = .here c → loc.m k = .here c := by
   intro k c h
   by_cases hk : k = id
   · subst hk; rw [Loc.set_same] at h; cases h
   · rwa [Loc.set_other _ _ hk] at h
 refine ⟨loc.set id .dead,⟨hB.1,hB.2.1,fun k hk => ?_⟩,⟨?_,fun t => ?_,?_,⟨hr.env.os,hr.env.tape,hr.env.output,hr.env.size,hr.env.same,fun i j b h1 h2 => hr.env.inj i j b (hset h1) (hset h2),fun i b h1 => hr.env.lies i b (hset h1),hr.env.bad⟩,?_,hr.defers,?_⟩⟩
 · by_cases hne : k = id
   · subst hne; left; rw [Loc.set_same]
   · rw [Loc.set_other _ _ hne]; exact hB.2.2 k hk
 · rw [hr.size]; exact ((fiL_get id bs sl).1).symm
 · simp only; rw [slot_fiL]; exact fi_R hor (hr.slots t)
 · intro k b hk
   obtain ⟨h1,c,h2,rfl⟩ := fiH_get hk
   have h3 := hr.heap k c h2
   unfold BlkR at h3 ⊢
   rw [Loc.set_other _ _ h1]
   split
   · trivial
   · rename_i e; rw [e] at h3; exact h3
   · rename_i e; rw [e] at h3; exact ⟨ok_fi h3.1,by rw [len_fi]; exact h3.2⟩
   · rename_i d e
     rw [e] at h3
     rcases zeb c with ⟨x,hx,rfl⟩ | hodd
     · exact ⟨ok_fi h3.1,.mkO (h3.2.is hx) rfl⟩
     obtain ⟨cur,el,fi,g1,g2,g3,g4,g5⟩ := h3.2.lies hodd
     have hlen : (c.fi id bs).flat.length = c.flat.length := by rw [flat_fi,(fiL_get id bs _).1]
     refine ⟨ok_fi h3.1,.mkC ⟨cur,el,fi,g1,g2,g3,by omega,fun j x y => ?_⟩ (odd_fi.trans hodd)⟩
     have h6 := g5 j (by omega) y
     have e : (c.fi id bs).flat[j] = (c.flat[j]'(by omega)).fi id bs := by
       have := (fiL_get id bs c.flat).2 j (by rw [(fiL_get id bs _).1]; omega) (by omega)
       rw [← this]
       congr 1
       exact flat_fi id bs c
     rw [e]
     exact ⟨fi_leaf h6.1,fi_R hor h6.2⟩
 · intro k hk
   by_cases hne : k = id
   · exact (hlive (hne ▸ hr.fresh k hk)).elim
   · rw [Loc.set_other _ _ hne]; exact hr.fresh k hk
 · intro k b hk
   obtain ⟨h1,c,h2,rfl⟩ := fiH_get hk
   exact hr.low k c h2
theorem weak_fi {sl : List AV} {H : Heap} {nx : Nat} (id i : Nat) (bs : List Int) (hl : look H id = some (.i bs)) (hi : id ∈ (slot sl i).ids) : Weak ⟨sl,H,nx⟩ ⟨fiL id bs sl,fiH id bs H,nx⟩ := by
 rintro w0 E B a w ⟨loc,hB,hr⟩
 exact rel_fi id bs hl hB hr (zfj _ _ (hr.slots i) hi)
end Ax
end Go.Proofs.Ytmedjkjoannbmaa
namespace Go.Proofs.Ytmedjkjoannbmaa
namespace Ax
mutual
def AV.fg (id s : Nat) (zs : List AV) : AV → AV
 | .agg xs => .agg (fgL id s zs xs)
 | .tup xs => .tup (fgL id s zs xs)
 | .fn f cs => .fn f (fgL id s zs cs)
 | .ms k s' off len => bif k == id then (bif s' == s && decide (off + len ≤ zs.length) then .sg s ((zs.drop off).take len) false else .ms k s' off len) else .ms k s' off len
 | x => x
def fgL (id s : Nat) (zs : List AV) : List AV → List AV
 | [] => []
 | x :: xs => x.fg id s zs :: fgL id s zs xs
end
theorem fgL_get (id s : Nat) (zs : List AV) : ∀ (xs : List AV),(fgL id s zs xs).length = xs.length ∧ ∀ (j : Nat) (h : j < (fgL id s zs xs).length) (h' : j < xs.length),(fgL id s zs xs)[j] = xs[j].fg id s zs
 | [] => ⟨rfl,fun j h => by simp [fgL] at h⟩
 | x :: xs => by
   obtain ⟨h1,h2⟩ := fgL_get id s zs xs
   refine ⟨by simp [fgL,h1],fun j h h' => ?_⟩
   cases j with
   | zero => rfl
   | succ j => exact h2 j (by simpa [fgL] using h) (by simpa using h')
theorem fg_leaf {id s : Nat} {zs : List AV} {x : AV} (h : x.leaf = true) : (x.fg id s zs).leaf = true := by
 cases x <;> first | exact h | (simp [AV.leaf] at h; done) | skip
 simp only [AV.fg]
 cases (_ == id) with
 | false => rfl
 | true =>
   simp only [cond_true]
   cases (_ && _ : Bool) <;> rfl
theorem fg_R {w : World} {loc : Loc} {id s : Nat} {zs : List AV} (hcl : closedL zs = true) (hok : Blk.ok (.g s zs)) (hor : (loc.m id = .nil ∧ zs = []) ∨ ∃ b,loc.m id = .here b ∧ b < w.heap.size ∧ Lies w loc (.g s zs) b ∧ (∀ k,loc.m k = .here b → k = id) ∧ ¬ loc.bad b) {x : AV} {v : Value} (h : R w loc x v) : R w (loc.set id .dead) (x.fg id s zs) v := by
 have hM : ∀ c,Mut (loc.set id .dead) c → Mut loc c := by
   rintro c (h | ⟨k,h⟩)
   · exact .inl h
   · by_cases hk : k = id
     · subst hk; rw [Loc.set_same] at h; cases h
     · rw [Loc.set_other _ _ hk] at h; exact .inr ⟨k,h⟩
 have hC : ∀ {a cs},Cells w loc a cs → Cells w (loc.set id .dead) a cs := fun h => h.move (fun b _ hm => hM b hm)
 induction h with
 | w v h => exact .w v h
 | str bs => exact .str bs
 | agg xs cs hl hx _ ih =>
   obtain ⟨h1,h2⟩ := fgL_get id s zs xs
   refine .agg _ cs (by rw [h1,hl]) (fun j hj => ?_) (fun j a b => ?_)
   · rw [h2 j hj (by rw [← h1]; exact hj)]; exact fg_leaf (hx j _)
   · rw [h2 j a (by rw [← h1]; exact a)]; exact ih j _ b
 | tup xs cs hl _ ih =>
   obtain ⟨h1,h2⟩ := fgL_get id s zs xs
   refine .tup _ cs (by rw [h1,hl]) (fun j a b => ?_)
   rw [h2 j a (by rw [← h1]; exact a)]; exact ih j _ b
 | sb bs full a cap hd hc => exact .sb bs full a cap hd (hC hc)
 | si ns full a cap hd hc => exact .si ns full a cap hd (hC hc)
 | sg s xs full a cap cs hd hs hc hl hx h _ => exact .sg s xs full a cap cs hd hs (hC hc) hl hx (fun j a b => (h j a b).move (fun b _ hm => hM b hm) (hx j a).2)
 | cp ls a cs hc hn hl hx h _ => exact .cp ls a cs (hC hc) hn hl hx (fun j a b => (h j a b).move (fun b _ hm => hM b hm) (hx j a).2)
 | ms k s' off len v h =>
   have hkeep : R w (loc.set id .dead) (.ms k s' off len) v := by
     refine .ms _ _ _ _ _ ?_
     by_cases hk : k = id
     · subst hk; unfold Owns; rw [Loc.set_same]; exact h.one
     · unfold Owns at h ⊢; rw [Loc.set_other _ _ hk]; exact h
   simp only [AV.fg]
   by_cases hk : k = id
   · subst hk
     simp only [beq_self_eq_true,cond_true]
     cases hc : (s' == s && decide (off + len ≤ zs.length)) with
     | false => exact hkeep
     | true =>
       simp only [cond_true]
       simp only [Bool.and_eq_true,beq_iff_eq,decide_eq_true_eq] at hc
       obtain ⟨rfl,hle⟩ := hc
       have hlen : ((zs.drop off).take len).length = len := by simp; omega
       have hls : ∀ y ∈ (zs.drop off).take len,y.leaves.length = s' := fun y hy => hok.2 y (List.mem_of_mem_drop (List.mem_of_mem_take hy))
       have hclx : ∀ (j : Nat) (hj : j < (((zs.drop off).take len).flatMap AV.leaves).length),(((zs.drop off).take len).flatMap AV.leaves)[j].closed = true := by
         intro j hj
         have hm := List.getElem_mem hj
         obtain ⟨y,hy,hyl⟩ := List.mem_flatMap.1 hm
         exact closed_leaves (closedL_mem hcl (List.mem_of_mem_drop (List.mem_of_mem_take hy))) _ hyl
       have hHR : HR w loc [(k,.g s' zs)] := by
         intro i b hl
         simp only [look] at hl
         split at hl
         · rename_i e; subst e
           injection hl with hl; subst hl
           unfold BlkR
           rcases hor with ⟨h1,h2⟩ | ⟨b,h1,h2,h3,_⟩
           · rw [h1]; exact ⟨hok,by rw [h2]; rfl⟩
           · rw [h1]; exact ⟨hok,h3⟩
         · cases hl
       have hs := seen_ms (H := [(k,.g s' zs)]) (blk := .g s' zs) hHR h (by simp [look]) rfl hle
       have hfl : (Blk.flat (.g s' zs) |>.drop (off * s') |>.take (len * s')) = ((zs.drop off).take len).flatMap AV.leaves := by
         rw [zee _ _ (fun y hy => hok.2 y (List.mem_of_mem_drop hy)),zey _ _ hok.2]; rfl
       rw [hfl] at hs
       obtain ⟨a,cap,rfl,h1,h2,h3⟩ := hs.seen
       have h3 : len = 0 ∨ ∃ cs,(cs.length = len * s' ∧ CellsOf w loc (((zs.drop off).take len).flatMap AV.leaves) cs ∧ Cells w (loc.set k .dead) a cs) := by
         rcases h3 with h3 | ⟨b,o,cs,rfl,h4,h5,h6,h7⟩
         · exact .inl h3
         · by_cases h0 : len = 0
           · exact .inl h0
           refine .inr ⟨cs,h5,h7,⟨.inr ⟨b,o,rfl,?_,h4,h6⟩⟩⟩
           have hb : loc.m k = .here b ∧ (∀ i,loc.m i = .here b → i = k) ∧ ¬ loc.bad b := by
             rcases hor with ⟨hb,rfl⟩ | ⟨b',hb,hlt,hl,hinj,hnb⟩
             · simp at hle; omega
             · unfold Owns at h; rw [hb] at h
               obtain ⟨o',cap',cur0,e0,fz0,hv,_⟩ := h
               injection hv with hv _ _
               injection hv with hv
               injection hv with hv1 hv2
               subst hv1
               exact ⟨hb,hinj,hnb⟩
           rintro (hq | ⟨i,hq⟩)
           · exact hb.2.2 hq
           · by_cases hk : i = k
             · subst hk; rw [Loc.set_same] at hq; cases hq
             · rw [Loc.set_other _ _ hk] at hq; exact hk (hb.2.1 i hq)
       have : R w (loc.set k .dead) (.sg s' ((zs.drop off).take len) false) (.slice a ((zs.drop off).take len).length cap) := by
         rcases h3 with h0 | ⟨cs,h5,h7,h8⟩
         · have he : (zs.drop off).take len = [] := List.length_eq_zero_iff.1 (by omega)
           rw [he]
           exact .sg s' [] false a cap [] ⟨Nat.zero_le _,h2,by simp⟩ (by simp) ⟨.inl rfl⟩ (by simp) (fun j hj => by simp at hj) (fun j hj => by simp at hj)
         · exact .sg s' ((zs.drop off).take len) false a cap cs ⟨by omega,h2,by simp⟩ hls h8 h7.len (fun j hj => ⟨h7.leaf j hj,hclx j hj⟩) (fun j x y => (h7.r j x y).move (fun b _ hm => hM b hm) (hclx j x))
       rw [hlen] at this
       exact this
   · have : (k == id) = false := by simpa using hk
     rw [this]; exact hkeep
 | rf k s i f v h =>
   refine .rf _ _ _ _ _ ?_
   by_cases hk : k = id
   · subst hk; unfold Points; rw [Loc.set_same]; exact h.one
   · unfold Points at h ⊢; rw [Loc.set_other _ _ hk]; exact h
 | fn f caps cs hl _ ih =>
   obtain ⟨h1,h2⟩ := fgL_get id s zs caps
   refine .fn f _ cs (by rw [h1,hl]) (fun j a b => ?_)
   rw [h2 j a (by rw [← h1]; exact a)]; exact ih j _ b
 | junk v => exact .junk v
def Blk.fg (id s : Nat) (zs : List AV) : Blk → Blk
 | .g s' xs => .g s' (fgL id s zs xs)
 | .b cs => .b cs
 | .i ns => .i ns
 | .o x => .o x
theorem odd_fg {id s : Nat} {zs : List AV} {b : Blk} : (b.fg id s zs).odd = b.odd := by cases b <;> rfl
def fgH (id s : Nat) (zs : List AV) : Heap → Heap
 | [] => []
 | p :: r => bif p.1 == id then fgH id s zs r else (p.1,p.2.fg id s zs) :: fgH id s zs r
theorem leaves_fg (id s : Nat) (zs : List AV) (x : AV) : (x.fg id s zs).leaves = fgL id s zs x.leaves := by
 cases x <;> first | rfl | skip
 simp only [AV.fg,AV.leaves,fgL]
 cases (_ == id) with
 | false => rfl
 | true =>
   simp only [cond_true]
   cases (_ && _ : Bool) <;> rfl
theorem fgL_append (id s : Nat) (zs : List AV) : ∀ (xs ys : List AV),fgL id s zs (xs ++ ys) = fgL id s zs xs ++ fgL id s zs ys
 | [],_ => rfl
 | x :: xs,ys => by simp [fgL,fgL_append id s zs xs ys]
theorem flat_fg (id s : Nat) (zs : List AV) (b : Blk) : (b.fg id s zs).flat = fgL id s zs b.flat := by
 cases b with
 | b cs =>
   simp only [Blk.fg,Blk.flat]
   induction cs with
   | nil => rfl
   | cons c r ih => simp only [List.map_cons,fgL,AV.fg]; rw [← ih]
 | o x => rfl
 | i ns =>
   simp only [Blk.fg,Blk.flat]
   induction ns with
   | nil => rfl
   | cons c r ih => simp only [List.map_cons,fgL,AV.fg]; rw [← ih]
 | g s xs =>
   simp only [Blk.fg,Blk.flat]
   induction xs with
   | nil => rfl
   | cons c r ih => simp only [fgL,List.flatMap_cons,fgL_append]; rw [ih,leaves_fg]
theorem ok_fg {id s : Nat} {zs : List AV} {b : Blk} (h : b.ok) : (b.fg id s zs).ok := by
 cases b with
 | g s' xs =>
   obtain ⟨h1,h2⟩ := h
   refine ⟨h1,fun x hx => ?_⟩
   obtain ⟨j,hj,rfl⟩ := List.getElem_of_mem hx
   obtain ⟨h3,h4⟩ := fgL_get id s zs xs
   rw [h4 j hj (by rw [← h3]; exact hj),leaves_fg,(fgL_get id s zs _).1]
   exact h2 _ (List.getElem_mem _)
 | _ => trivial
theorem len_fg {id s : Nat} {zs : List AV} {b : Blk} : (b.fg id s zs).len = b.len := by
 cases b with
 | g s' xs => exact (fgL_get id s zs xs).1
 | _ => rfl
theorem fgH_get {id s : Nat} {zs : List AV} : ∀ {H : Heap} {k : Nat} {b : Blk},look (fgH id s zs H) k = some b → k ≠ id ∧ ∃ c,look H k = some c ∧ b = c.fg id s zs
 | [],k,b,h => by simp [fgH,look] at h
 | p :: r,k,b,h => by
   have e : look (p :: r) k = if p.1 = k then some p.2 else look r k := zbt r p.1 k p.2
   unfold fgH at h
   by_cases hp : p.1 = id
   · have : (p.1 == id) = true := by simpa using hp
     rw [this] at h
     obtain ⟨h1,c,h2,h3⟩ := fgH_get h
     exact ⟨h1,c,by rw [e,if_neg (by omega)]; exact h2,h3⟩
   · have : (p.1 == id) = false := by simpa using hp
     rw [this] at h
     have e2 : look ((p.1,p.2.fg id s zs) :: fgH id s zs r) k = if p.1 = k then some (p.2.fg id s zs) else look (fgH id s zs r) k := zbt (fgH id s zs r) p.1 k _
     simp only [cond_false] at h
     rw [e2] at h
     split at h
     · rename_i hk
       injection h with h
       exact ⟨by omega,p.2,by rw [e,if_pos hk],h.symm⟩
     · rename_i hk
       obtain ⟨h1,c,h2,h3⟩ := fgH_get h
       exact ⟨h1,c,by rw [e,if_neg hk]; exact h2,h3⟩
theorem slot_fgL {id s : Nat} {zs : List AV} : ∀ (sl : List AV) (t : Nat),slot (fgL id s zs sl) t = (slot sl t).fg id s zs
 | [],t => rfl
 | x :: xs,0 => rfl
 | x :: xs,t + 1 => slot_fgL xs t
theorem rel_fg {w0 : World} {E : Nat → Prop} {B : Bs} {w : World} {loc : Loc} {a : Act} {sl : List AV} {H : Heap} {nx : Nat} {id s : Nat} {zs : List AV} (hB : Base w0 B w loc) (hr : Rel' w0 E loc ⟨sl,H,nx⟩ a w) (hlive : loc.m id ≠ .free) (hblk : BlkR w loc id (.g s zs)) (hcl : closedL zs = true) :
   Base w0 B w (loc.set id .dead) ∧ Rel' w0 E (loc.set id .dead) ⟨fgL id s zs sl,fgH id s zs H,nx⟩ a w := by
 have hor : (loc.m id = .nil ∧ zs = []) ∨ ∃ b,loc.m id = .here b ∧ b < w.heap.size ∧ Lies w loc (.g s zs) b ∧ (∀ k,loc.m k = .here b → k = id) ∧ ¬ loc.bad b := by
   unfold BlkR at hblk
   cases e : loc.m id with
   | free => exact (hlive e).elim
   | dead => rw [e] at hblk; exact hblk.elim
   | nil => rw [e] at hblk; exact .inl ⟨rfl,List.eq_nil_of_length_eq_zero hblk.2⟩
   | here b =>
     rw [e] at hblk
     have h1 := hr.env.lies id b e
     refine .inr ⟨b,rfl,h1.1,hblk.2,fun k hk => hr.env.inj k id b hk e,fun hb => ?_⟩
     have h2 := hr.env.bad b hb
     rcases h1.2 with h3 | h3
     · omega
     · exact h2.2 h3
 have hok : Blk.ok (.g s zs) := by
   unfold BlkR at hblk
   cases e : loc.m id with
   | free => exact (hlive e).elim
   | dead => rw [e] at hblk; exact hblk.elim
   | nil => rw [e] at hblk; exact hblk.1
   | here b => rw [e] at hblk; exact hblk.1
 have hset : ∀ {k c},(loc.set id .dead).m k = .here c → loc.m k = .here c := by
   intro k c h
   by_cases hk : k = id
   · subst hk; rw [Loc.set_same] at h; cases h
   · rwa [Loc.set_other _ _ hk] at h
 refine ⟨⟨hB.1,hB.2.1,fun k hk => ?_⟩,⟨?_,fun t => ?_,?_,⟨hr.env.os,hr.env.tape,hr.env.output,hr.env.size,hr.env.same,fun i j b h1 h2 => hr.env.inj i j b (hset h1) (hset h2),fun i b h1 => hr.env.lies i b (hset h1),hr.env.bad⟩,?_,hr.defers,?_⟩⟩
 · by_cases hne : k = id
   · subst hne; left; rw [Loc.set_same]
   · rw [Loc.set_other _ _ hne]; exact hB.2.2 k hk
 · rw [hr.size]; exact ((fgL_get id s zs sl).1).symm
 · simp only; rw [slot_fgL]; exact fg_R hcl hok hor (hr.slots t)
 · intro k b hk
   obtain ⟨h1,c,h2,rfl⟩ := fgH_get hk
   have h3 := hr.heap k c h2
   unfold BlkR at h3 ⊢
   rw [Loc.set_other _ _ h1]
   split
   · trivial
   · rename_i e; rw [e] at h3; exact h3
   · rename_i e; rw [e] at h3; exact ⟨ok_fg h3.1,by rw [len_fg]; exact h3.2⟩
   · rename_i d e
     rw [e] at h3
     rcases zeb c with ⟨x,hx,rfl⟩ | hodd
     · exact ⟨ok_fg h3.1,.mkO (h3.2.is hx) rfl⟩
     obtain ⟨cur,el,fz,g1,g2,g3,g4,g5⟩ := h3.2.lies hodd
     have hlen : (c.fg id s zs).flat.length = c.flat.length := by rw [flat_fg,(fgL_get id s zs _).1]
     refine ⟨ok_fg h3.1,.mkC ⟨cur,el,fz,g1,g2,g3,by omega,fun j x y => ?_⟩ (odd_fg.trans hodd)⟩
     have h6 := g5 j (by omega) y
     have e : (c.fg id s zs).flat[j] = (c.flat[j]'(by omega)).fg id s zs := by
       have := (fgL_get id s zs c.flat).2 j (by rw [(fgL_get id s zs _).1]; omega) (by omega)
       rw [← this]
       congr 1
       exact flat_fg id s zs c
     rw [e]
     exact ⟨fg_leaf h6.1,fg_R hcl hok hor h6.2⟩
 · intro k hk
   by_cases hne : k = id
   · exact (hlive (hne ▸ hr.fresh k hk)).elim
   · rw [Loc.set_other _ _ hne]; exact hr.fresh k hk
 · intro k b hk
   obtain ⟨h1,c,h2,rfl⟩ := fgH_get hk
   exact hr.low k c h2
theorem weak_fg {sl : List AV} {H : Heap} {nx : Nat} (id s i : Nat) (zs : List AV) (hl : look H id = some (.g s zs)) (hcl : closedL zs = true) (hi : id ∈ (slot sl i).ids) : Weak ⟨sl,H,nx⟩ ⟨fgL id s zs sl,fgH id s zs H,nx⟩ := by
 rintro w0 E B a w ⟨loc,hB,hr⟩
 obtain ⟨h1,h2⟩ := rel_fg hB hr (zfj _ _ (hr.slots i) hi) (hr.heap id _ hl) hcl
 exact ⟨_,h1,h2⟩
end Ax
end Go.Proofs.Ytmedjkjoannbmaa
namespace Go.Proofs.Ytmedjkjoannbmaa
namespace Ax
section
variable {P : Program}
theorem post_anon {w0 : World} {E : Nat → Prop} {w w' : World} {loc : Loc} {wr : Bool} {H : Heap} {nm : Nat} {x : AV} {v : Value} {o : Obj} (he : Env w0 E w loc) (hh : HR w loc H) (hp : Pushed w w' o) (hx : Ext (fun _ => False) w loc w' loc → R w' loc x v) :
   Post w0 E w loc wr nm x H v w' loc := by
 have hsz : w'.heap.size = w.heap.size + 1 := by rw [hp.heap]; simp
 have hext : Ext (fun _ => False) w loc w' loc :=
   ⟨by omega,fun _ _ _ => rfl,fun _ _ h => h.elim,fun b hb hm => ⟨zdl hp hb,hm⟩,fun id b h1 _ => zdl hp (he.lies id b h1).1,fun b cur el fz' h2 => ⟨cur,fz',(zdl hp (Array.getElem?_eq_some_iff.1 h2).1).trans h2,rfl⟩⟩
 refine ⟨hx hext,fun id b hb => ?_,⟨hp.os.trans he.os,hp.tape.trans he.tape,hp.output.trans he.output,by have := he.size; omega,fun b hb hE => (zdl hp (by have := he.size; omega)).trans (he.same b hb hE),he.inj,fun i b hi => by have := he.lies i b hi; exact ⟨by omega,this.2⟩,he.bad⟩,⟨_,hext,fun _ _ h => h⟩,fun _ h h' => (h' h).elim,rfl⟩
 by_cases hfr : loc.m id = .free
 · exact BlkR.free hfr
 · exact (hh id b hb).ext hext (fun h => h) hfr
end
end Ax
end Go.Proofs.Ytmedjkjoannbmaa
namespace Go.Proofs.Ytmedjkjoannbmaa
namespace Ax
open Go.RowKit
def frzS (i : Nat) (q : Prop × List AV × Heap) : Prop × List AV × Heap :=
 match slot q.2.1 i with
 | .ms id _ _ _ => match look q.2.2 id with
   | some (.b bs) => (q.1,fzL id bs q.2.1,fzH id bs q.2.2)
   | some (.g s xs) => (q.1 ∧ closedL xs = true,fgL id s xs q.2.1,fgH id s xs q.2.2)
   | some (.i ns) => (q.1,fiL id ns q.2.1,fiH id ns q.2.2)
   | _ => q
 | _ => q
def frzL : List Nat → Prop × List AV × Heap → Prop × List AV × Heap
 | [],q => q
 | i :: r,q => frzL r (frzS i q)
def frzK (l : List Nat) (sl : List AV) (H : Heap) (K : List AV → Heap → Prop) : Prop := (frzL l (True,sl,H)).1 ∧ K (frzL l (True,sl,H)).2.1 (frzL l (True,sl,H)).2.2
theorem frzS_sound {i : Nat} {q : Prop × List AV × Heap} {nx : Nat} (h : (frzS i q).1) : q.1 ∧ Weak ⟨q.2.1,q.2.2,nx⟩ ⟨(frzS i q).2.1,(frzS i q).2.2,nx⟩ := by
 unfold frzS at h ⊢
 split at h
 · rename_i id s off len hs
   split at h
   · rename_i bs hl
     exact ⟨h,weak_fz id i bs hl (by rw [hs]; simp [AV.ids])⟩
   · rename_i s' xs hl
     exact ⟨h.1,weak_fg id s' i xs hl h.2 (by rw [hs]; simp [AV.ids])⟩
   · rename_i ns hl
     exact ⟨h,weak_fi id i ns hl (by rw [hs]; simp [AV.ids])⟩
   · exact ⟨h,Weak.refl _⟩
 · exact ⟨h,Weak.refl _⟩
theorem frzL_sound {nx : Nat} : ∀ (l : List Nat) (q : Prop × List AV × Heap),(frzL l q).1 → q.1 ∧ Weak ⟨q.2.1,q.2.2,nx⟩ ⟨(frzL l q).2.1,(frzL l q).2.2,nx⟩
 | [],q,h => ⟨h,Weak.refl _⟩
 | i :: r,q,h => by
   obtain ⟨h1,h2⟩ := frzL_sound (nx := nx) r _ h
   obtain ⟨h3,h4⟩ := frzS_sound (nx := nx) h1
   exact ⟨h3,h4.trans h2⟩
theorem frzK_sound {nx : Nat} (l : List Nat) (sl : List AV) (H : Heap) (K : List AV → Heap → Prop) (h : frzK l sl H K) : ∃ sl' H',Weak ⟨sl,H,nx⟩ ⟨sl',H',nx⟩ ∧ K sl' H' :=
 ⟨_,_,(frzL_sound l _ h.1).2,h.2⟩
abbrev KPlan := Nat → Option (List Nat × Option Nat)
open Classical in
theorem sound_genK {P : Program} {T : zah} {S : zaw} (hT : TOk P T) (hS : Fns P S) {f : FuncId} {fn : Func} {c : Code} (hf : P.funcs[f]? = some fn) (hb : fn.body = some c) {spec : zaq} {Qp : List AV → List Blk → Exit → ASt → Prop}
   (hqp : ∀ xs pins e σ,Qp xs pins e σ → ∃ σ',Weak σ σ' ∧ Ends T fn.results.toList pins (spec xs pins) e σ')
   (h : ∀ xs pins,(spec xs pins).p → closedB pins = true → pins.length ≤ 4 ∧ ∀ w0 E B a w,Rel w0 E B ⟨xs ++ List.replicate (fn.ntmps - xs.length) .junk,pinHeap 0 pins,4⟩ a w → c.wp P (Low w0 E B (Qp xs pins)) a w) : zbf P f spec := by
 intro xs pins hp hcl w bad pb vs hlen hnd hbad hlies hxl hx
 obtain ⟨hp4,h⟩ := h xs pins hp hcl
 refine calls_of_wp hf hb ?_
 have hrel : Rel w (· ∈ pb) ⟨bad,pb⟩ ⟨xs ++ List.replicate (fn.ntmps - xs.length) .junk,pinHeap 0 pins,4⟩ { tmps := vs.toArray ++ Array.replicate (fn.ntmps - vs.toArray.size) undef,defers := [] } w := by
   refine ⟨zcv pb bad,⟨⟨rfl,fun k hk cur e fz hh => ⟨cur,fz,hh,rfl⟩⟩,by simp only; omega,fun k hk => .inr ⟨by simp [zcv,List.getElem?_eq_getElem hk],fun cur e fz hh => ⟨cur,fz,hh,rfl⟩⟩⟩,?_⟩
   refine ⟨by simp [hxl],fun t => ?_,?_,?_,?_,rfl,fun id b hl => ?_⟩
   · simp only
     rw [zfd]
     by_cases ht : t < xs.length
     · have e1 : (xs ++ List.replicate (fn.ntmps - xs.length) AV.junk).getD t .junk = xs[t] := by simp [List.getElem?_append_left,ht]
       have e2 : (vs.toArray ++ Array.replicate (fn.ntmps - vs.toArray.size) undef).getD t undef = vs[t]'(by omega) := by
         have : t < vs.length := by omega
         simp [Array.getD_eq_getD_getElem?,Array.getElem?_append,this]
       rw [e1,e2]
       exact hx t ht _
     · have e1 : (xs ++ List.replicate (fn.ntmps - xs.length) AV.junk).getD t .junk = .junk := by
         rw [List.getD_eq_getElem?_getD,List.getElem?_append_right (by omega),List.getElem?_replicate]
         split <;> rfl
       rw [e1]; exact .junk _
   · intro id b hl
     obtain ⟨j,hj,rfl,rfl⟩ := zdb pins 0 id b hl
     have hj' : j < pb.length := by omega
     unfold BlkR
     have : (zcv pb bad).m (0 + j) = .here pb[j] := by simp [zcv,List.getElem?_eq_getElem hj']
     rw [this]
     exact hlies j hj hj'
   · refine ⟨rfl,rfl,rfl,Nat.le_refl _,fun _ _ _ => rfl,?_,?_,?_⟩
     · intro i j b hi hj
       obtain ⟨h1,h2⟩ := zen hi
       obtain ⟨h3,h4⟩ := zen hj
       exact zed hnd (h2.trans h4.symm)
     · intro i b hi
       obtain ⟨h1,h2⟩ := zen hi
       subst h2
       refine ⟨?_,.inr (List.getElem_mem h1)⟩
       obtain ⟨ob,hh⟩ := lies_live2 (hlies i (by omega) h1).2
       rcases Nat.lt_or_ge pb[i] w.heap.size with h' | h'
       · exact h'
       · rw [Array.getElem?_eq_none h'] at hh; cases hh
     · exact fun b hb => hbad b hb
   · intro id hid
     simp only at hid
     have : pb[id]? = none := List.getElem?_eq_none (by omega)
     simp [zcv,this]
   · obtain ⟨j,hj,rfl,_⟩ := zdb pins 0 id b hl
     simp; omega
 refine wp_mono (h _ _ _ _ w hrel) ?_
 have main : ∀ a w' σ,Rel w (· ∈ pb) ⟨bad,pb⟩ σ a w' → (rvals T σ.H σ.sl fn.results.toList).1 ∧ EndsX pins (spec xs pins) (rone (rvals T σ.H σ.sl fn.results.toList).2) σ →
     a.defers = [] ∧ ∃ v,(results fn a.tmps).run P w' = .ok v w' ∧ ∃ v' loc',Ending.returned v = .returned v' ∧ Gives w bad pb (spec xs pins) v' w' loc' := by
   rintro a w' σ ⟨loc,hB,hr⟩ ⟨hrv,hnodup,hpin,hbl,hren⟩
   obtain ⟨v,hv,hR⟩ := results_R (P := P) (fn := fn) hT hr.heap hr.slots hrv
   refine ⟨hr.defers,v,hv,v,?_⟩
   generalize rone (rvals T σ.H σ.sl fn.results.toList).2 = x at hnodup hpin hbl hren hR
   have hnd' := nodup_iff hnodup
   obtain ⟨hids1,hids2⟩ := newIds_mem x.ids (upTo 0 pins)
   obtain ⟨hu1,hu2⟩ := upTo_get pins 0
   generalize hids : newIds (upTo 0 pins) x.ids = ids at hnodup hpin hbl hren hnd' hids1 hids2
   obtain ⟨hpl,hpc,hpg⟩ := pinsOf_get hpin
   rw [hbl] at hpl hpc hpg
   obtain ⟨t,rfl⟩ := hids1
   have hm : pins.length ≤ (upTo 0 pins ++ t).length := by simp [hu1]
   have hold : ∀ k,(hk : k < pins.length) → (upTo 0 pins ++ t)[k]'(by omega) = k := by
     intro k hk
     rw [List.getElem_append_left (by omega)]
     have := hu2 k (by omega)
     omega
   -- every one of the names is alive
   have hlive : ∀ (k : Nat) (hk : k < (upTo 0 pins ++ t).length),loc.m (upTo 0 pins ++ t)[k] ≠ .free := by
     intro k hk
     rcases hids2 _ (List.getElem_mem hk) with hi | hi
     · obtain ⟨j,hj,he⟩ := List.getElem_of_mem hi
       rw [← he,hu2 j hj]
       have hj' : j < pb.length := by omega
       rcases hB.2.2 j hj' with h1 | ⟨h1,_⟩
       · rw [Nat.zero_add,h1]; simp
       · rw [Nat.zero_add,h1]; simp
     · exact zfj x v hR hi
   have hblk : ∀ (k : Nat) (hk : k < (upTo 0 pins ++ t).length) (hk' : k < (spec xs pins).bl.length),BlkR w' loc (upTo 0 pins ++ t)[k] (spec xs pins).bl[k] := by
     intro k hk hk'
     refine hr.heap _ _ ?_
     rw [hpg k hk,List.getElem?_eq_getElem hk']
   have hdead : ∀ (k : Nat) (hk : k < (upTo 0 pins ++ t).length),loc.m (upTo 0 pins ++ t)[k] ≠ .dead := by
     intro k hk e
     have := hblk k hk (by omega)
     unfold BlkR at this
     rw [e] at this
     exact this
   let g : Nat → Nat := gOf (upTo 0 pins ++ t) σ.nx
   have hgo : ∀ k,(hk : k < (upTo 0 pins ++ t).length) → g k = (upTo 0 pins ++ t)[k] := fun k hk => gOf_old hk
   have hgn : ∀ k,(upTo 0 pins ++ t).length ≤ k → loc.m (g k) = .free := by
     intro k hk
     refine hr.fresh _ ?_
     show σ.nx ≤ gOf _ σ.nx k
     rw [gOf_new hk]; omega
   let loc' : Loc := { m := fun k => loc.m (g k),bad := loc.bad }
   have hlt : ∀ i b,loc'.m i = .here b → i < (upTo 0 pins ++ t).length := by
     intro i b hi
     rcases Nat.lt_or_ge i (upTo 0 pins ++ t).length with h' | h'
     · exact h'
     · have : loc'.m i = .free := hgn i h'
       rw [this] at hi; cases hi
   have hinj : ∀ i j b,loc'.m i = .here b → loc'.m j = .here b → i = j := by
     intro i j b hi hj
     have h1 := hlt i b hi
     have h2 := hlt j b hj
     have h3 : g i = g j := hr.env.inj (g i) (g j) b hi hj
     rw [hgo i h1,hgo j h2] at h3
     exact zed hnd' h3
   have hpb : ∀ (k : Nat) (hk : k < pb.length),loc'.m k = .here pb[k] ∧ ∀ cur e fz,w.heap[pb[k]]? = some (.cells cur e fz) → ∃ cur' fz',w'.heap[pb[k]]? = some (.cells cur' e fz') ∧ cur'.size = cur.size := by
     intro k hk
     have hk1 : k < pins.length := by omega
     have e : loc'.m k = loc.m k := by
       show loc.m (g k) = loc.m k
       rw [hgo k (by omega),hold k hk1]
     rcases hB.2.2 k hk with h1 | ⟨h1,h2⟩
     · have := hdead k (by omega)
       rw [hold k hk1] at this
       exact (this h1).elim
     · exact ⟨e.trans h1,h2⟩
   refine ⟨loc',rfl,?_⟩
   refine ⟨unren (loc2 := loc') (g := g) (fun _ => rfl) rfl hR _ hren,hB.1.1,?_,fun k hk => (hpb k hk).1,?_,?_,hinj,?_⟩
   · intro k hk
     have hk' : k < (upTo 0 pins ++ t).length := by omega
     have e : loc'.m k = loc.m (upTo 0 pins ++ t)[k] := by show loc.m (g k) = _; rw [hgo k hk']
     refine ⟨?_,by rw [e]; exact hlive k hk',by rw [e]; exact hdead k hk'⟩
     have hb := hblk k hk' hk
     unfold BlkR at hb ⊢
     rw [e]
     split
     · trivial
     · rename_i e'; rw [e'] at hb; exact hb
     · rename_i e'; rw [e'] at hb; exact hb
     · rename_i b e'
       rw [e'] at hb
       refine ⟨hb.1,lies_move hb.2 (closedB_get hpc k hk) (.inr ?_)⟩
       rintro c _ (h | ⟨i,h⟩)
       · exact .inl h
       · exact .inr ⟨g i,h⟩
   · intro k b hk hkb
     have := hr.env.lies (g k) b hkb
     refine ⟨?_,this.1⟩
     rcases this.2 with h' | h'
     · exact h'
     · obtain ⟨j,hj,he⟩ := List.getElem_of_mem h'
       have h1 := (hpb j hj).1
       rw [he] at h1
       have := hinj k j b hkb h1
       omega
   · intro k hk
     exact hgn k (by omega)
   · refine ⟨hr.env.os,hr.env.tape,hr.env.output,hr.env.size,hr.env.same,?_⟩
     rintro b cur e fz hb hh
     obtain ⟨j,hj,rfl⟩ := List.getElem_of_mem hb
     exact (hpb j hj).2 cur e fz hh
 rintro e a w' ⟨σ0,hr0,hq0⟩
 obtain ⟨σ,hwk,hq⟩ := hqp xs pins e σ0 hq0
 have hr := hwk _ _ _ _ _ hr0
 cases e with
 | normal => exact main a w' σ hr hq
 | ret => exact main a w' σ hr hq
 | _ => exact hq.elim
section rules
variable {S : zaw} {T : zah} {pl : KPlan} {Q : Exit → ASt → Prop} {σ : ASt}
variable {ops r : List Oper} {o : Oper} {nm k : Nat} {sl : List AV} {H : Heap} {Q' : List AV → Heap → Prop}
end rules
end Ax
end Go.Proofs.Ytmedjkjoannbmaa
