/- What the proofs of this seat stand on; it asks nothing. -/
import Derived.Test.YtnmomgcanfpigaaZa11
set_option linter.unusedSimpArgs false
set_option linter.unusedVariables false
namespace Go.Proofs.Ytnmomgcanfpigaa
namespace Ax
mutual
def AV.fp (id : Nat) (c0 : Value) : AV → AV
 | .agg xs => .agg (fpL id c0 xs)
 | .tup xs => .tup (fpL id c0 xs)
 | .fn f cs => .fn f (fpL id c0 cs)
 | .rf k s i f => bif k == id then (bif s == 1 && (i == 0 && f == 0) then .cp [.w c0] else .rf k s i f) else .rf k s i f
 | x => x
def fpL (id : Nat) (c0 : Value) : List AV → List AV
 | [] => []
 | x :: xs => x.fp id c0 :: fpL id c0 xs
end
theorem zfq (id : Nat) (c0 : Value) : ∀ (xs : List AV),(fpL id c0 xs).length = xs.length ∧ ∀ (j : Nat) (h : j < (fpL id c0 xs).length) (h' : j < xs.length),(fpL id c0 xs)[j] = xs[j].fp id c0
 | [] => ⟨rfl,fun j h => by simp [fpL] at h⟩
 | x :: xs => by
   obtain ⟨h1,h2⟩ := zfq id c0 xs
   refine ⟨by simp [fpL,h1],fun j h h' => ?_⟩
   cases j with
   | zero => rfl
   | succ j => exact h2 j (by simpa [fpL] using h) (by simpa using h')
theorem fp_leaf {id : Nat} {c0 : Value} {x : AV} (h : x.leaf = true) : (x.fp id c0).leaf = true := by
 cases x <;> first | exact h | (simp [AV.leaf] at h; done) | skip
 simp only [AV.fp]
 cases (_ == id) with
 | false => rfl
 | true =>
   simp only [cond_true]
   cases (_ && _ : Bool) <;> rfl
theorem fp_R {w : World} {loc : Loc} {id : Nat} {c0 : Value} (hor : ∃ b,loc.m id = .here b ∧ b < w.heap.size ∧ Lies w loc (.g 1 [.w c0]) b ∧ (∀ k,loc.m k = .here b → k = id) ∧ ¬ loc.bad b) {x : AV} {v : Value} (h : R w loc x v) : R w (loc.set id .dead) (x.fp id c0) v := by
 have hM : ∀ c,Mut (loc.set id .dead) c → Mut loc c := by
   rintro c (h | ⟨k,h⟩)
   · exact .inl h
   · by_cases hk : k = id
     · subst hk; rw [Loc.set_same] at h; cases h
     · rw [Loc.set_other _ _ hk] at h; exact .inr ⟨k,h⟩
 have hC : ∀ {a cs},Cells w loc a cs → Cells w (loc.set id .dead) a cs := fun h => h.move (fun b _ hm => hM b hm)
 induction h with
 | w v h => exact .w v h
 | str bs => exact .str bs
 | agg xs cs hl hx _ ih =>
   obtain ⟨h1,h2⟩ := zfq id c0 xs
   refine .agg _ cs (by rw [h1,hl]) (fun j hj => ?_) (fun j a b => ?_)
   · rw [h2 j hj (by rw [← h1]; exact hj)]; exact fp_leaf (hx j _)
   · rw [h2 j a (by rw [← h1]; exact a)]; exact ih j _ b
 | tup xs cs hl _ ih =>
   obtain ⟨h1,h2⟩ := zfq id c0 xs
   refine .tup _ cs (by rw [h1,hl]) (fun j a b => ?_)
   rw [h2 j a (by rw [← h1]; exact a)]; exact ih j _ b
 | sb bs full a cap hd hc => exact .sb bs full a cap hd (hC hc)
 | si ns full a cap hd hc => exact .si ns full a cap hd (hC hc)
 | sg s xs full a cap cs hd hs hc hl hx h _ => exact .sg s xs full a cap cs hd hs (hC hc) hl hx (fun j a b => (h j a b).move (fun b _ hm => hM b hm) (hx j a).2)
 | cp ls a cs hc hn hl hx h _ => exact .cp ls a cs (hC hc) hn hl hx (fun j a b => (h j a b).move (fun b _ hm => hM b hm) (hx j a).2)
 | ms k s off len v h =>
   refine .ms _ _ _ _ _ ?_
   by_cases hk : k = id
   · subst hk; unfold Owns; rw [Loc.set_same]; exact h.one
   · unfold Owns at h ⊢; rw [Loc.set_other _ _ hk]; exact h
 | rf k s i f v h =>
   have hkeep : R w (loc.set id .dead) (.rf k s i f) v := by
     refine .rf _ _ _ _ _ ?_
     by_cases hk : k = id
     · subst hk; unfold Points; rw [Loc.set_same]; exact h.one
     · unfold Points at h ⊢; rw [Loc.set_other _ _ hk]; exact h
   simp only [AV.fp]
   by_cases hk : k = id
   · subst hk
     simp only [beq_self_eq_true,cond_true]
     cases hc : (s == 1 && (i == 0 && f == 0)) with
     | false => exact hkeep
     | true =>
       simp only [cond_true]
       simp only [Bool.and_eq_true,beq_iff_eq] at hc
       obtain ⟨rfl,rfl,rfl⟩ := hc
       obtain ⟨b,hb,hlt,hl,hinj,hnb⟩ := hor
       unfold Points at h
       rw [hb] at h
       subst h
       rw [zbl (by decide)]
       obtain ⟨cur,e,fz,hh,hf,hone,hfl,hr⟩ := hl.lies
       have hsz : 0 < cur.size := by simp [Blk.flat,AV.leaves] at hfl; omega
       have h0 := (hr 0 (by simp [Blk.flat,AV.leaves]) hsz).2
       have h0 : R w loc (.w c0) cur[0] := h0
       have hwv := h0.wv
       refine .cp [.w c0] ⟨b,0 * 1 + 0,none⟩ [c0] ⟨.inr ⟨b,0,rfl,?_,hlt,fun j hj => ?_⟩⟩ (by simp) rfl (fun j hj => ?_) (fun j x y => ?_)
       · rintro (hq | ⟨i,hq⟩)
         · exact hnb hq
         · by_cases hk : i = k
           · subst hk; rw [Loc.set_same] at hq; cases hq
           · rw [Loc.set_other _ _ hk] at hq; exact hk (hinj i hq)
       · simp at hj
         subst hj
         simp [World.cell?,hh,hsz,hwv]
       · simp at hj
         subst hj
         simp [AV.leaf,AV.closed]
         rw [← hwv]; exact hone 0 hsz
       · simp at x
         subst x
         cases h0 with
         | w v h => exact .w _ h
   · have : (k == id) = false := by simpa using hk
     rw [this]; exact hkeep
 | fn f caps cs hl _ ih =>
   obtain ⟨h1,h2⟩ := zfq id c0 caps
   refine .fn f _ cs (by rw [h1,hl]) (fun j a b => ?_)
   rw [h2 j a (by rw [← h1]; exact a)]; exact ih j _ b
 | junk v => exact .junk v
def Blk.fp (id : Nat) (c0 : Value) : Blk → Blk
 | .g s xs => .g s (fpL id c0 xs)
 | .b cs => .b cs
 | .i ns => .i ns
 | .o x => .o x
theorem odd_fp {id : Nat} {c0 : Value} {b : Blk} : (b.fp id c0).odd = b.odd := by cases b <;> rfl
theorem size_fp {id : Nat} {c0 : Value} {b : Blk} : (b.fp id c0).size = b.size := by cases b <;> rfl
def fpH (id : Nat) (c0 : Value) : Heap → Heap
 | [] => []
 | p :: r => bif p.1 == id then fpH id c0 r else (p.1,p.2.fp id c0) :: fpH id c0 r
theorem leaves_fp (id : Nat) (c0 : Value) (x : AV) : (x.fp id c0).leaves = fpL id c0 x.leaves := by
 cases x <;> first | rfl | skip
 simp only [AV.fp,AV.leaves,fpL]
 cases (_ == id) with
 | false => rfl
 | true =>
   simp only [cond_true]
   cases (_ && _ : Bool) <;> rfl
theorem fpL_append (id : Nat) (c0 : Value) : ∀ (xs ys : List AV),fpL id c0 (xs ++ ys) = fpL id c0 xs ++ fpL id c0 ys
 | [],_ => rfl
 | x :: xs,ys => by simp [fpL,fpL_append id c0 xs ys]
theorem flat_fp (id : Nat) (c0 : Value) (b : Blk) : (b.fp id c0).flat = fpL id c0 b.flat := by
 cases b with
 | b cs =>
   simp only [Blk.fp,Blk.flat]
   induction cs with
   | nil => rfl
   | cons c r ih => simp only [List.map_cons,fpL,AV.fp]; rw [← ih]
 | o x => rfl
 | i ns =>
   simp only [Blk.fp,Blk.flat]
   induction ns with
   | nil => rfl
   | cons c r ih => simp only [List.map_cons,fpL,AV.fp]; rw [← ih]
 | g s xs =>
   simp only [Blk.fp,Blk.flat]
   induction xs with
   | nil => rfl
   | cons c r ih => simp only [fpL,List.flatMap_cons,fpL_append]; rw [ih,leaves_fp]
theorem ok_fp {id : Nat} {c0 : Value} {b : Blk} (h : b.ok) : (b.fp id c0).ok := by
 cases b with
 | g s xs =>
   obtain ⟨h1,h2⟩ := h
   refine ⟨h1,fun x hx => ?_⟩
   obtain ⟨j,hj,rfl⟩ := List.getElem_of_mem hx
   obtain ⟨h3,h4⟩ := zfq id c0 xs
   rw [h4 j hj (by rw [← h3]; exact hj),leaves_fp,(zfq id c0 _).1]
   exact h2 _ (List.getElem_mem _)
 | _ => trivial
theorem len_fp {id : Nat} {c0 : Value} {b : Blk} : (b.fp id c0).len = b.len := by
 cases b with
 | g s xs => exact (zfq id c0 xs).1
 | _ => rfl
theorem fpH_get {id : Nat} {c0 : Value} : ∀ {H : Heap} {k : Nat} {b : Blk},look (fpH id c0 H) k = some b → k ≠ id ∧ ∃ c,look H k = some c ∧ b = c.fp id c0
 | [],k,b,h => by simp [fpH,look] at h
 | p :: r,k,b,h => by
   have e : look (p :: r) k = if p.1 = k then some p.2 else look r k := zao r p.1 k p.2
   unfold fpH at h
   by_cases hp : p.1 = id
   · have : (p.1 == id) = true := by simpa using hp
     rw [this] at h
     obtain ⟨h1,c,h2,h3⟩ := fpH_get h
     exact ⟨h1,c,by rw [e,if_neg (by omega)]; exact h2,h3⟩
   · have : (p.1 == id) = false := by simpa using hp
     rw [this] at h
     have e2 : look ((p.1,p.2.fp id c0) :: fpH id c0 r) k = if p.1 = k then some (p.2.fp id c0) else look (fpH id c0 r) k := zao (fpH id c0 r) p.1 k _
     simp only [cond_false] at h
     rw [e2] at h
     split at h
     · rename_i hk
       injection h with h
       exact ⟨by omega,p.2,by rw [e,if_pos hk],h.symm⟩
     · rename_i hk
       obtain ⟨h1,c,h2,h3⟩ := fpH_get h
       exact ⟨h1,c,by rw [e,if_neg hk]; exact h2,h3⟩
theorem slot_fpL {id : Nat} {c0 : Value} : ∀ (sl : List AV) (t : Nat),slot (fpL id c0 sl) t = (slot sl t).fp id c0
 | [],t => rfl
 | x :: xs,0 => rfl
 | x :: xs,t + 1 => slot_fpL xs t
theorem rel_fp {w0 : World} {E : Nat → Prop} {B : Bs} {w : World} {loc : Loc} {a : Act} {sl : List AV} {H : Heap} {nx : Nat} (id : Nat) (c0 : Value) (hl : look H id = some (.g 1 [.w c0])) (hB : Base w0 B w loc) (hr : Rel' w0 E loc ⟨sl,H,nx⟩ a w) (hlive : loc.m id ≠ .free) : Rel w0 E B ⟨fpL id c0 sl,fpH id c0 H,nx⟩ a w := by
 have hblk := hr.heap id _ hl
 have hor : ∃ b,loc.m id = .here b ∧ b < w.heap.size ∧ Lies w loc (.g 1 [.w c0]) b ∧ (∀ k,loc.m k = .here b → k = id) ∧ ¬ loc.bad b := by
   unfold BlkR at hblk
   cases e : loc.m id with
   | free => exact (hlive e).elim
   | dead => rw [e] at hblk; exact hblk.elim
   | nil => rw [e] at hblk; exact absurd hblk.2 (by simp [Blk.len])
   | here b =>
     rw [e] at hblk
     have h1 := hr.env.lies id b e
     refine ⟨b,rfl,h1.1,hblk.2,fun k hk => hr.env.inj k id b hk e,fun hb => ?_⟩
     have h2 := hr.env.bad b hb
     rcases h1.2 with h3 | h3
     · omega
     · exact h2.2 h3
 have hset : ∀ {k c},(loc.set id .dead).m k = .here c → loc.m k = .here c := by
   intro k c h
   by_cases hk : k = id
   · subst hk; rw [Loc.set_same] at h; cases h
   · rwa [Loc.set_other _ _ hk] at h
 refine ⟨loc.set id .dead,⟨hB.1,hB.2.1,fun k hk => ?_⟩,⟨?_,fun t => ?_,?_,⟨hr.env.os,hr.env.tape,hr.env.output,hr.env.size,hr.env.same,fun i j b h1 h2 => hr.env.inj i j b (hset h1) (hset h2),fun i b h1 => hr.env.lies i b (hset h1),hr.env.bad⟩,?_,hr.defers,?_⟩⟩
 · by_cases hne : k = id
   · subst hne; left; rw [Loc.set_same]
   · rw [Loc.set_other _ _ hne]; exact hB.2.2 k hk
 · rw [hr.size]; exact ((zfq id c0 sl).1).symm
 · simp only; rw [slot_fpL]; exact fp_R hor (hr.slots t)
 · intro k b hk
   obtain ⟨h1,c,h2,rfl⟩ := fpH_get hk
   have h3 := hr.heap k c h2
   unfold BlkR at h3 ⊢
   rw [Loc.set_other _ _ h1]
   split
   · trivial
   · rename_i e; rw [e] at h3; exact h3
   · rename_i e; rw [e] at h3; exact ⟨ok_fp h3.1,by rw [len_fp]; exact h3.2⟩
   · rename_i d e
     rw [e] at h3
     rcases zbd c with ⟨x,hx,rfl⟩ | hodd
     · exact ⟨ok_fp h3.1,.mkO (Thing.move (loc := loc) (fun c _ hM => hM.imp (fun h => h) (fun ⟨k,h⟩ => ⟨k,hset h⟩)) (h3.2.is hx)) rfl⟩
     obtain ⟨cur,el,fi,g1,g2,g3,g4,g5⟩ := h3.2.lies hodd
     have hlen : (c.fp id c0).flat.length = c.flat.length := by rw [flat_fp,(zfq id c0 _).1]
     refine ⟨ok_fp h3.1,.mkC ⟨cur,el,fi,g1,by rw [size_fp]; exact g2,g3,by omega,fun j x y => ?_⟩ (odd_fp.trans hodd)⟩
     have h6 := g5 j (by omega) y
     have e : (c.fp id c0).flat[j] = (c.flat[j]'(by omega)).fp id c0 := by
       have := (zfq id c0 c.flat).2 j (by rw [(zfq id c0 _).1]; omega) (by omega)
       rw [← this]
       congr 1
       exact flat_fp id c0 c
     rw [e]
     exact ⟨fp_leaf h6.1,fp_R hor h6.2⟩
 · intro k hk
   by_cases hne : k = id
   · exact (hlive (hne ▸ hr.fresh k hk)).elim
   · rw [Loc.set_other _ _ hne]; exact hr.fresh k hk
 · intro k b hk
   obtain ⟨h1,c,h2,rfl⟩ := fpH_get hk
   exact hr.low k c h2
theorem weak_fp {sl : List AV} {H : Heap} {nx : Nat} (id i : Nat) (c0 : Value) (hl : look H id = some (.g 1 [.w c0])) (hi : id ∈ (slot sl i).ids) : Weak ⟨sl,H,nx⟩ ⟨fpL id c0 sl,fpH id c0 H,nx⟩ := by
 rintro w0 E B a w ⟨loc,hB,hr⟩
 exact rel_fp id c0 hl hB hr (zdf _ _ (hr.slots i) hi)
end Ax
end Go.Proofs.Ytnmomgcanfpigaa
namespace Go.Proofs.Ytnmomgcanfpigaa
namespace Ax
mutual
def AV.fq (id : Nat) (s0 : Nat) (ls : List AV) : AV → AV
 | .agg xs => .agg (fqL id s0 ls xs)
 | .tup xs => .tup (fqL id s0 ls xs)
 | .fn f cs => .fn f (fqL id s0 ls cs)
 | .rf k s i f => bif k == id then (bif s == s0 && (i == 0 && f == 0) then .cp ls else .rf k s i f) else .rf k s i f
 | x => x
def fqL (id : Nat) (s0 : Nat) (ls : List AV) : List AV → List AV
 | [] => []
 | x :: xs => x.fq id s0 ls :: fqL id s0 ls xs
end
theorem zfp (id : Nat) (s0 : Nat) (ls : List AV) : ∀ (xs : List AV),(fqL id s0 ls xs).length = xs.length ∧ ∀ (j : Nat) (h : j < (fqL id s0 ls xs).length) (h' : j < xs.length),(fqL id s0 ls xs)[j] = xs[j].fq id s0 ls
 | [] => ⟨rfl,fun j h => by simp [fqL] at h⟩
 | x :: xs => by
   obtain ⟨h1,h2⟩ := zfp id s0 ls xs
   refine ⟨by simp [fqL,h1],fun j h h' => ?_⟩
   cases j with
   | zero => rfl
   | succ j => exact h2 j (by simpa [fqL] using h) (by simpa using h')
theorem fq_leaf {id : Nat} {s0 : Nat} {ls : List AV} {x : AV} (h : x.leaf = true) : (x.fq id s0 ls).leaf = true := by
 cases x <;> first | exact h | (simp [AV.leaf] at h; done) | skip
 simp only [AV.fq]
 cases (_ == id) with
 | false => rfl
 | true =>
   simp only [cond_true]
   cases (_ && _ : Bool) <;> rfl
theorem fq_R {w : World} {loc : Loc} {id : Nat} {s0 : Nat} {ls : List AV} {y0 : AV} (hs0 : 0 < s0) (hy0 : y0.leaves = ls) (hn0 : ls ≠ []) (hcl : closedL ls = true) (hor : ∃ b,loc.m id = .here b ∧ b < w.heap.size ∧ Lies w loc (.g s0 [y0]) b ∧ (∀ k,loc.m k = .here b → k = id) ∧ ¬ loc.bad b) {x : AV} {v : Value} (h : R w loc x v) : R w (loc.set id .dead) (x.fq id s0 ls) v := by
 have hM : ∀ c,Mut (loc.set id .dead) c → Mut loc c := by
   rintro c (h | ⟨k,h⟩)
   · exact .inl h
   · by_cases hk : k = id
     · subst hk; rw [Loc.set_same] at h; cases h
     · rw [Loc.set_other _ _ hk] at h; exact .inr ⟨k,h⟩
 have hC : ∀ {a cs},Cells w loc a cs → Cells w (loc.set id .dead) a cs := fun h => h.move (fun b _ hm => hM b hm)
 induction h with
 | w v h => exact .w v h
 | str bs => exact .str bs
 | agg xs cs hl hx _ ih =>
   obtain ⟨h1,h2⟩ := zfp id s0 ls xs
   refine .agg _ cs (by rw [h1,hl]) (fun j hj => ?_) (fun j a b => ?_)
   · rw [h2 j hj (by rw [← h1]; exact hj)]; exact fq_leaf (hx j _)
   · rw [h2 j a (by rw [← h1]; exact a)]; exact ih j _ b
 | tup xs cs hl _ ih =>
   obtain ⟨h1,h2⟩ := zfp id s0 ls xs
   refine .tup _ cs (by rw [h1,hl]) (fun j a b => ?_)
   rw [h2 j a (by rw [← h1]; exact a)]; exact ih j _ b
 | sb bs full a cap hd hc => exact .sb bs full a cap hd (hC hc)
 | si ns full a cap hd hc => exact .si ns full a cap hd (hC hc)
 | sg s xs full a cap cs hd hs hc hl hx h _ => exact .sg s xs full a cap cs hd hs (hC hc) hl hx (fun j a b => (h j a b).move (fun b _ hm => hM b hm) (hx j a).2)
 | cp ls a cs hc hn hl hx h _ => exact .cp ls a cs (hC hc) hn hl hx (fun j a b => (h j a b).move (fun b _ hm => hM b hm) (hx j a).2)
 | ms k s off len v h =>
   refine .ms _ _ _ _ _ ?_
   by_cases hk : k = id
   · subst hk; unfold Owns; rw [Loc.set_same]; exact h.one
   · unfold Owns at h ⊢; rw [Loc.set_other _ _ hk]; exact h
 | rf k s i f v h =>
   have hkeep : R w (loc.set id .dead) (.rf k s i f) v := by
     refine .rf _ _ _ _ _ ?_
     by_cases hk : k = id
     · subst hk; unfold Points; rw [Loc.set_same]; exact h.one
     · unfold Points at h ⊢; rw [Loc.set_other _ _ hk]; exact h
   simp only [AV.fq]
   by_cases hk : k = id
   · subst hk
     simp only [beq_self_eq_true,cond_true]
     cases hc : (s == s0 && (i == 0 && f == 0)) with
     | false => exact hkeep
     | true =>
       simp only [cond_true]
       simp only [Bool.and_eq_true,beq_iff_eq] at hc
       obtain ⟨rfl,rfl,rfl⟩ := hc
       obtain ⟨b,hb,hlt,hl,hinj,hnb⟩ := hor
       unfold Points at h
       rw [hb] at h
       subst h
       rw [zbl (by omega)]
       obtain ⟨cur,e,fz,hh,hf,hone,hfl,hr⟩ := hl.lies
       have hF : (Blk.g s [y0]).flat = ls := by simp [Blk.flat,hy0]
       have hr' : ∀ (j : Nat) (hj : j < ls.length) (hj' : j < cur.size),ls[j].leaf = true ∧ R w loc ls[j] cur[j] := by
         intro j hj hj'
         have hx := hr j (by rw [hF]; exact hj) hj'
         have e1 : (Blk.g s [y0]).flat[j]'(by rw [hF]; exact hj) = ls[j] := by simp only [hF]
         rw [e1] at hx
         exact hx
       rw [hF] at hfl
       have hlen : (cur.toList.take ls.length).length = ls.length := by simp; omega
       refine .cp ls ⟨b,0 * s + 0,none⟩ (cur.toList.take ls.length) ⟨.inr ⟨b,0 * s + 0,rfl,?_,hlt,fun j hj => ?_⟩⟩ ?_ hlen.symm (fun j hj => ⟨(hr' j hj (by omega)).1,zbe hcl j hj⟩) (fun j x y => ?_)
       · rintro (hq | ⟨i,hq⟩)
         · exact hnb hq
         · by_cases hk : i = k
           · subst hk; rw [Loc.set_same] at hq; cases hq
           · rw [Loc.set_other _ _ hk] at hq; exact hk (hinj i hq)
       · have hj0 : j < cur.size := by omega
         simp only [World.cell?,hh,Nat.zero_mul,Nat.zero_add,Array.getElem?_eq_getElem hj0,List.getElem_take,Array.getElem_toList]
         rfl
       · intro e
         rw [e] at hlen
         exact hn0 (List.eq_nil_of_length_eq_zero hlen.symm)
       · rw [List.getElem_take,Array.getElem_toList]
         exact (hr' j x (by omega)).2.move (fun b _ hm => hM b hm) (zbe hcl j x)
   · have : (k == id) = false := by simpa using hk
     rw [this]; exact hkeep
 | fn f caps cs hl _ ih =>
   obtain ⟨h1,h2⟩ := zfp id s0 ls caps
   refine .fn f _ cs (by rw [h1,hl]) (fun j a b => ?_)
   rw [h2 j a (by rw [← h1]; exact a)]; exact ih j _ b
 | junk v => exact .junk v
def Blk.fq (id : Nat) (s0 : Nat) (ls : List AV) : Blk → Blk
 | .g s xs => .g s (fqL id s0 ls xs)
 | .b cs => .b cs
 | .i ns => .i ns
 | .o x => .o x
theorem odd_fq {id : Nat} {s0 : Nat} {ls : List AV} {b : Blk} : (b.fq id s0 ls).odd = b.odd := by cases b <;> rfl
theorem size_fq {id : Nat} {s0 : Nat} {ls : List AV} {b : Blk} : (b.fq id s0 ls).size = b.size := by cases b <;> rfl
def fqH (id : Nat) (s0 : Nat) (ls : List AV) : Heap → Heap
 | [] => []
 | p :: r => bif p.1 == id then fqH id s0 ls r else (p.1,p.2.fq id s0 ls) :: fqH id s0 ls r
theorem leaves_fq (id : Nat) (s0 : Nat) (ls : List AV) (x : AV) : (x.fq id s0 ls).leaves = fqL id s0 ls x.leaves := by
 cases x <;> first | rfl | skip
 simp only [AV.fq,AV.leaves,fqL]
 cases (_ == id) with
 | false => rfl
 | true =>
   simp only [cond_true]
   cases (_ && _ : Bool) <;> rfl
theorem fqL_append (id : Nat) (s0 : Nat) (ls : List AV) : ∀ (xs ys : List AV),fqL id s0 ls (xs ++ ys) = fqL id s0 ls xs ++ fqL id s0 ls ys
 | [],_ => rfl
 | x :: xs,ys => by simp [fqL,fqL_append id s0 ls xs ys]
theorem flat_fq (id : Nat) (s0 : Nat) (ls : List AV) (b : Blk) : (b.fq id s0 ls).flat = fqL id s0 ls b.flat := by
 cases b with
 | b cs =>
   simp only [Blk.fq,Blk.flat]
   induction cs with
   | nil => rfl
   | cons c r ih => simp only [List.map_cons,fqL,AV.fq]; rw [← ih]
 | o x => rfl
 | i ns =>
   simp only [Blk.fq,Blk.flat]
   induction ns with
   | nil => rfl
   | cons c r ih => simp only [List.map_cons,fqL,AV.fq]; rw [← ih]
 | g s xs =>
   simp only [Blk.fq,Blk.flat]
   induction xs with
   | nil => rfl
   | cons c r ih => simp only [fqL,List.flatMap_cons,fqL_append]; rw [ih,leaves_fq]
theorem ok_fq {id : Nat} {s0 : Nat} {ls : List AV} {b : Blk} (h : b.ok) : (b.fq id s0 ls).ok := by
 cases b with
 | g s xs =>
   obtain ⟨h1,h2⟩ := h
   refine ⟨h1,fun x hx => ?_⟩
   obtain ⟨j,hj,rfl⟩ := List.getElem_of_mem hx
   obtain ⟨h3,h4⟩ := zfp id s0 ls xs
   rw [h4 j hj (by rw [← h3]; exact hj),leaves_fq,(zfp id s0 ls _).1]
   exact h2 _ (List.getElem_mem _)
 | _ => trivial
theorem len_fq {id : Nat} {s0 : Nat} {ls : List AV} {b : Blk} : (b.fq id s0 ls).len = b.len := by
 cases b with
 | g s xs => exact (zfp id s0 ls xs).1
 | _ => rfl
theorem fqH_get {id : Nat} {s0 : Nat} {ls : List AV} : ∀ {H : Heap} {k : Nat} {b : Blk},look (fqH id s0 ls H) k = some b → k ≠ id ∧ ∃ c,look H k = some c ∧ b = c.fq id s0 ls
 | [],k,b,h => by simp [fqH,look] at h
 | p :: r,k,b,h => by
   have e : look (p :: r) k = if p.1 = k then some p.2 else look r k := zao r p.1 k p.2
   unfold fqH at h
   by_cases hp : p.1 = id
   · have : (p.1 == id) = true := by simpa using hp
     rw [this] at h
     obtain ⟨h1,c,h2,h3⟩ := fqH_get h
     exact ⟨h1,c,by rw [e,if_neg (by omega)]; exact h2,h3⟩
   · have : (p.1 == id) = false := by simpa using hp
     rw [this] at h
     have e2 : look ((p.1,p.2.fq id s0 ls) :: fqH id s0 ls r) k = if p.1 = k then some (p.2.fq id s0 ls) else look (fqH id s0 ls r) k := zao (fqH id s0 ls r) p.1 k _
     simp only [cond_false] at h
     rw [e2] at h
     split at h
     · rename_i hk
       injection h with h
       exact ⟨by omega,p.2,by rw [e,if_pos hk],h.symm⟩
     · rename_i hk
       obtain ⟨h1,c,h2,h3⟩ := fqH_get h
       exact ⟨h1,c,by rw [e,if_neg hk]; exact h2,h3⟩
theorem slot_fqL {id : Nat} {s0 : Nat} {ls : List AV} : ∀ (sl : List AV) (t : Nat),slot (fqL id s0 ls sl) t = (slot sl t).fq id s0 ls
 | [],t => rfl
 | x :: xs,0 => rfl
 | x :: xs,t + 1 => slot_fqL xs t
theorem rel_fq {w0 : World} {E : Nat → Prop} {B : Bs} {w : World} {loc : Loc} {a : Act} {sl : List AV} {H : Heap} {nx : Nat} (id : Nat) (s0 : Nat) (ls : List AV) {y0 : AV} (hl : look H id = some (.g s0 [y0])) (hs0 : 0 < s0) (hy0 : y0.leaves = ls) (hn0 : ls ≠ []) (hcl : closedL ls = true) (hB : Base w0 B w loc) (hr : Rel' w0 E loc ⟨sl,H,nx⟩ a w) (hlive : loc.m id ≠ .free) : Rel w0 E B ⟨fqL id s0 ls sl,fqH id s0 ls H,nx⟩ a w := by
 have hblk := hr.heap id _ hl
 have hor : ∃ b,loc.m id = .here b ∧ b < w.heap.size ∧ Lies w loc (.g s0 [y0]) b ∧ (∀ k,loc.m k = .here b → k = id) ∧ ¬ loc.bad b := by
   unfold BlkR at hblk
   cases e : loc.m id with
   | free => exact (hlive e).elim
   | dead => rw [e] at hblk; exact hblk.elim
   | nil => rw [e] at hblk; exact absurd hblk.2 (by simp [Blk.len])
   | here b =>
     rw [e] at hblk
     have h1 := hr.env.lies id b e
     refine ⟨b,rfl,h1.1,hblk.2,fun k hk => hr.env.inj k id b hk e,fun hb => ?_⟩
     have h2 := hr.env.bad b hb
     rcases h1.2 with h3 | h3
     · omega
     · exact h2.2 h3
 have hset : ∀ {k c},(loc.set id .dead).m k = .here c → loc.m k = .here c := by
   intro k c h
   by_cases hk : k = id
   · subst hk; rw [Loc.set_same] at h; cases h
   · rwa [Loc.set_other _ _ hk] at h
 refine ⟨loc.set id .dead,⟨hB.1,hB.2.1,fun k hk => ?_⟩,⟨?_,fun t => ?_,?_,⟨hr.env.os,hr.env.tape,hr.env.output,hr.env.size,hr.env.same,fun i j b h1 h2 => hr.env.inj i j b (hset h1) (hset h2),fun i b h1 => hr.env.lies i b (hset h1),hr.env.bad⟩,?_,hr.defers,?_⟩⟩
 · by_cases hne : k = id
   · subst hne; left; rw [Loc.set_same]
   · rw [Loc.set_other _ _ hne]; exact hB.2.2 k hk
 · rw [hr.size]; exact ((zfp id s0 ls sl).1).symm
 · simp only; rw [slot_fqL]; exact fq_R hs0 hy0 hn0 hcl hor (hr.slots t)
 · intro k b hk
   obtain ⟨h1,c,h2,rfl⟩ := fqH_get hk
   have h3 := hr.heap k c h2
   unfold BlkR at h3 ⊢
   rw [Loc.set_other _ _ h1]
   split
   · trivial
   · rename_i e; rw [e] at h3; exact h3
   · rename_i e; rw [e] at h3; exact ⟨ok_fq h3.1,by rw [len_fq]; exact h3.2⟩
   · rename_i d e
     rw [e] at h3
     rcases zbd c with ⟨x,hx,rfl⟩ | hodd
     · exact ⟨ok_fq h3.1,.mkO (Thing.move (loc := loc) (fun c _ hM => hM.imp (fun h => h) (fun ⟨k,h⟩ => ⟨k,hset h⟩)) (h3.2.is hx)) rfl⟩
     obtain ⟨cur,el,fi,g1,g2,g3,g4,g5⟩ := h3.2.lies hodd
     have hlen : (c.fq id s0 ls).flat.length = c.flat.length := by rw [flat_fq,(zfp id s0 ls _).1]
     refine ⟨ok_fq h3.1,.mkC ⟨cur,el,fi,g1,by rw [size_fq]; exact g2,g3,by omega,fun j x y => ?_⟩ (odd_fq.trans hodd)⟩
     have h6 := g5 j (by omega) y
     have e : (c.fq id s0 ls).flat[j] = (c.flat[j]'(by omega)).fq id s0 ls := by
       have := (zfp id s0 ls c.flat).2 j (by rw [(zfp id s0 ls _).1]; omega) (by omega)
       rw [← this]
       congr 1
       exact flat_fq id s0 ls c
     rw [e]
     exact ⟨fq_leaf h6.1,fq_R hs0 hy0 hn0 hcl hor h6.2⟩
 · intro k hk
   by_cases hne : k = id
   · exact (hlive (hne ▸ hr.fresh k hk)).elim
   · rw [Loc.set_other _ _ hne]; exact hr.fresh k hk
 · intro k b hk
   obtain ⟨h1,c,h2,rfl⟩ := fqH_get hk
   exact hr.low k c h2
theorem weak_fq {sl : List AV} {H : Heap} {nx : Nat} (id i : Nat) (s0 : Nat) (ls : List AV) {y0 : AV} (hl : look H id = some (.g s0 [y0])) (hs0 : 0 < s0) (hy0 : y0.leaves = ls) (hn0 : ls ≠ []) (hcl : closedL ls = true) (hi : id ∈ (slot sl i).ids) : Weak ⟨sl,H,nx⟩ ⟨fqL id s0 ls sl,fqH id s0 ls H,nx⟩ := by
 rintro w0 E B a w ⟨loc,hB,hr⟩
 exact rel_fq id s0 ls hl hs0 hy0 hn0 hcl hB hr (zdf _ _ (hr.slots i) hi)
end Ax
end Go.Proofs.Ytnmomgcanfpigaa
namespace Go.Proofs.Ytnmomgcanfpigaa
open Ax
structure Cm where
 g : List UInt8
 t : List UInt8
 i : Int
 o : Int
deriving DecidableEq
def cmA (c : Cm) : AV := .agg [.str c.g,.str c.t,.w (.int .i64 c.i),.w (.int .i64 c.o)]
def ucm : AV → Cm
 | .agg [.str g,.str t,.w (.int _ i),.w (.int _ o)] => ⟨g,t,i,o⟩
 | _ => ⟨[],[],0,0⟩
theorem zbr (l : List Cm) : (l.map cmA).map ucm = l := by
 rw [List.map_map]; exact List.map_id _
theorem zba : ∀ (l : List Cm),closedL (l.map cmA) = true
 | [] => rfl
 | x :: r => by simp only [List.map_cons,closedL,cmA,AV.closed,Bool.true_and]; exact zba r
theorem zbp (g : Nat → Nat) : ∀ (l : List Cm),renL g (l.map cmA) = l.map cmA
 | [] => rfl
 | x :: r => by simp only [List.map_cons,renL,zbp g r]; rfl
theorem ids_cm : ∀ (l : List Cm),idsL (l.map cmA) = []
 | [] => rfl
 | x :: r => by simp only [List.map_cons,idsL,ids_cm r]; rfl
theorem slot_cm : ∀ (l : List Cm) (i : Nat) (h : i < l.length),slot (l.map cmA) i = cmA l[i]
 | p :: ps,0,h => rfl
 | p :: ps,i + 1,h => by
   simp only [List.map_cons,slot,List.getElem_cons_succ]
   exact slot_cm ps i (by simpa using h)
theorem coe_cm (l : List Cm) (f : Bool) : coe ty 48 (.sg 4 (l.map cmA) f) = .sg 4 (l.map cmA) f := by cases l <;> rfl
def sameK (g t : List UInt8) (i : Int) (g2 t2 : List UInt8) (i2 : Int) : Bool := decide (g = g2) && (decide (t = t2) && decide (i = i2))
def ahdK (g t : List UInt8) (i : Int) (g2 t2 : List UInt8) (i2 : Int) : Bool := if g = g2 then (if t = t2 then decide (i < i2) else Op.bytesLess t t2) else Op.bytesLess g g2
def zdl (a b : Cm) : Bool := sameK a.g a.t a.i b.g b.t b.i
def ahdC (a b : Cm) : Bool := ahdK a.g a.t a.i b.g b.t b.i
def smkS : zal
 | [.agg [.str g,.str t,.w (.int .i64 i),.w (.int .i64 o)],.agg [.str g2,.str t2,.w (.int .i64 i2),.w (.int .i64 o2)]],[] => ⟨True,.w (.bool (sameK g t i g2 t2 i2)),[]⟩
 | _,_ => zbg
def ahdS : zal
 | [.agg [.str g,.str t,.w (.int .i64 i),.w (.int .i64 o)],.agg [.str g2,.str t2,.w (.int .i64 i2),.w (.int .i64 o2)]],[] => ⟨True,.w (.bool (ahdK g t i g2 t2 i2)),[]⟩
 | _,_ => zbg
section
set_option maxRecDepth 100000
set_option maxHeartbeats 2000000
theorem smk_sound : zbb Try.prog 44 smkS := by
 refine zaq (S := noS) (T := ty) zbf ty_ok zbs Try.func44 (c := Try.f44.body.getD .skip) (by kernel_rfl) (by kernel_rfl) (fun xs pins hp _ => ?_)
 unfold smkS at hp ⊢
 split at hp
 · rename_i g t i o g2 t2 i2 o2 _
   refine ⟨by simp,?_⟩
   unfold Try.f44
   unfold sameK
   by_cases h1 : g = g2 <;> by_cases h2 : t = t2 <;> by_cases h3 : i = i2
   all_goals simp only [go_sem,coe,zaa,Nat.reduceAdd,Nat.reduceSub,Nat.reduceMul,Int.reduceToNat,reduceCtorEq,↓reduceIte,Int.reducePow,Nat.reducePow,Int.reduceMod,Nat.reduceLeDiff,Int.reduceLE,Int.reduceNe,Int.reduceEq,Nat.reduceEqDiff,Nat.reduceLT,Nat.reduceBEq,ty,noS,h1,h2,h3,decide_true,decide_false,Bool.true_and,Bool.false_and,Bool.and_true,Bool.and_false,Bool.and_self]
 · exact hp.elim
theorem ahd_sound : zbb Try.prog 69 ahdS := by
 refine zaq (S := noS) (T := ty) zbf ty_ok zbs Try.func69 (c := Try.f69.body.getD .skip) (by kernel_rfl) (by kernel_rfl) (fun xs pins hp _ => ?_)
 unfold ahdS at hp ⊢
 split at hp
 · rename_i g t i o g2 t2 i2 o2 _
   refine ⟨by simp,?_⟩
   unfold Try.f69
   by_cases h1 : g = g2
   · have d1 : decide (g = g2) = true := decide_eq_true h1
     by_cases h2 : t = t2
     · have d2 : decide (t = t2) = true := decide_eq_true h2
       have hv : ahdK g t i g2 t2 i2 = decide (i < i2) := by unfold ahdK; rw [if_pos h1,if_pos h2]
       rw [hv]
       simp only [go_sem,coe,zaa,Nat.reduceAdd,Nat.reduceSub,Nat.reduceMul,Int.reduceToNat,reduceCtorEq,↓reduceIte,Int.reducePow,Nat.reducePow,Int.reduceMod,Nat.reduceLeDiff,Int.reduceLE,Int.reduceNe,Int.reduceEq,Nat.reduceEqDiff,Nat.reduceLT,Nat.reduceBEq,ty,noS,d1,d2,Bool.not_true]
     · have d2 : decide (t = t2) = false := decide_eq_false h2
       have hv : ahdK g t i g2 t2 i2 = Op.bytesLess t t2 := by unfold ahdK; rw [if_pos h1,if_neg h2]
       rw [hv]
       simp only [go_sem,coe,zaa,Nat.reduceAdd,Nat.reduceSub,Nat.reduceMul,Int.reduceToNat,reduceCtorEq,↓reduceIte,Int.reducePow,Nat.reducePow,Int.reduceMod,Nat.reduceLeDiff,Int.reduceLE,Int.reduceNe,Int.reduceEq,Nat.reduceEqDiff,Nat.reduceLT,Nat.reduceBEq,ty,noS,d1,d2,Bool.not_true,Bool.not_false]
   · have d1 : decide (g = g2) = false := decide_eq_false h1
     have hv : ahdK g t i g2 t2 i2 = Op.bytesLess g g2 := by unfold ahdK; rw [if_neg h1]
     rw [hv]
     simp only [go_sem,coe,zaa,Nat.reduceAdd,Nat.reduceSub,Nat.reduceMul,Int.reduceToNat,reduceCtorEq,↓reduceIte,Int.reducePow,Nat.reducePow,Int.reduceMod,Nat.reduceLeDiff,Int.reduceLE,Int.reduceNe,Int.reduceEq,Nat.reduceEqDiff,Nat.reduceLT,Nat.reduceBEq,ty,noS,d1,Bool.not_false]
 · exact hp.elim
def Sske21 (f : FuncId) : Option zal :=
 match f with
 | 44 => some smkS
 | 69 => some ahdS
 | _ => none
theorem Sske21_ok : Fns Try.prog Sske21 := by
 intro f s h
 unfold Sske21 at h
 split at h
 · injection h with h; subst h; exact ⟨⟨_,Try.func44,by kernel_rfl,by kernel_rfl⟩,smk_sound⟩
 · injection h with h; subst h; exact ⟨⟨_,Try.func69,by kernel_rfl,by kernel_rfl⟩,ahd_sound⟩
 · cases h
def clo1S : zal
 | [.agg [.str g,.str t,.w (.int .i64 i),.w (.int .i64 o)],.cp [.str g2,.str t2,.w (.int .i64 i2),.w (.int .i64 o2)]],[] => ⟨True,.w (.bool (sameK g t i g2 t2 i2)),[]⟩
 | _,_ => zbg
def clo2S : zal
 | [.agg [.str g,.str t,.w (.int .i64 i),.w (.int .i64 o)],.cp [.str g2,.str t2,.w (.int .i64 i2),.w (.int .i64 o2)]],[] => ⟨True,.w (.bool (!(ahdK g t i g2 t2 i2))),[]⟩
 | _,_ => zbg
theorem clo1_sound : zbb Try.prog 65 clo1S := by
 refine zaq (S := Sske21) (T := ty) zbf ty_ok Sske21_ok Try.func65 (c := Try.f65.body.getD .skip) (by kernel_rfl) (by kernel_rfl) (fun xs pins hp _ => ?_)
 unfold clo1S at hp ⊢
 split at hp
 · rename_i g t i o g2 t2 i2 o2 _
   refine ⟨by simp,?_⟩
   unfold Try.f65
   simp only [go_sem,zaa,Nat.reduceAdd,Nat.reduceSub,Nat.reduceMul,Int.reduceToNat,reduceCtorEq,↓reduceIte,Int.reducePow,Nat.reducePow,Int.reduceMod,Nat.reduceLeDiff,Int.reduceLE,Int.reduceNe,Int.reduceEq,Nat.reduceEqDiff,Nat.reduceLT,Nat.reduceBEq,ty,Sske21,smkS]
 · exact hp.elim
theorem clf1_sound : zbb Try.prog 43 clo1S := by
 refine zaq (S := Sske21) (T := ty) zbf ty_ok Sske21_ok Try.func43 (c := Try.f43.body.getD .skip) (by kernel_rfl) (by kernel_rfl) (fun xs pins hp _ => ?_)
 unfold clo1S at hp ⊢
 split at hp
 · rename_i g t i o g2 t2 i2 o2 _
   refine ⟨by simp,?_⟩
   unfold Try.f43
   simp only [go_sem,zaa,Nat.reduceAdd,Nat.reduceSub,Nat.reduceMul,Int.reduceToNat,reduceCtorEq,↓reduceIte,Int.reducePow,Nat.reducePow,Int.reduceMod,Nat.reduceLeDiff,Int.reduceLE,Int.reduceNe,Int.reduceEq,Nat.reduceEqDiff,Nat.reduceLT,Nat.reduceBEq,ty,Sske21,smkS]
 · exact hp.elim
theorem clo2_sound : zbb Try.prog 68 clo2S := by
 refine zaq (S := Sske21) (T := ty) zbf ty_ok Sske21_ok Try.func68 (c := Try.f68.body.getD .skip) (by kernel_rfl) (by kernel_rfl) (fun xs pins hp _ => ?_)
 unfold clo2S at hp ⊢
 split at hp
 · rename_i g t i o g2 t2 i2 o2 _
   refine ⟨by simp,?_⟩
   unfold Try.f68
   simp only [go_sem,zaa,Nat.reduceAdd,Nat.reduceSub,Nat.reduceMul,Int.reduceToNat,reduceCtorEq,↓reduceIte,Int.reducePow,Nat.reducePow,Int.reduceMod,Nat.reduceLeDiff,Int.reduceLE,Int.reduceNe,Int.reduceEq,Nat.reduceEqDiff,Nat.reduceLT,Nat.reduceBEq,ty,Sske21,ahdS]
 · exact hp.elim
def Sclo21 (f : FuncId) : Option zal :=
 match f with
 | 65 => some clo1S
 | 68 => some clo2S
 | 43 => some clo1S
 | _ => none
theorem Sclo21_ok : Fns Try.prog Sclo21 := by
 intro f s h
 unfold Sclo21 at h
 split at h
 · injection h with h; subst h; exact ⟨⟨_,Try.func65,by kernel_rfl,by kernel_rfl⟩,clo1_sound⟩
 · injection h with h; subst h; exact ⟨⟨_,Try.func68,by kernel_rfl,by kernel_rfl⟩,clo2_sound⟩
 · injection h with h; subst h; exact ⟨⟨_,Try.func43,by kernel_rfl,by kernel_rfl⟩,clf1_sound⟩
 · cases h
def skP (F : FuncId) (c x : Cm) : Bool := if F = 68 then !(ahdC x c) else zdl x c
def seekS : zal
 | [.sg 4 xs f,.fn F [.cp [.str g,.str t,.w (.int .i64 i),.w (.int .i64 o)]]],[] => ⟨(F = 65 ∨ F = 68 ∨ F = 43) ∧ xs.length ≤ 9223372036854775807 ∧ ∃ l : List Cm,xs = l.map cmA,
     .w (.int .i64 (((xs.map ucm).findIdx (skP F ⟨g,t,i,o⟩) : Nat) : Int)),[]⟩
 | _,_ => zbg
theorem find_split (p : Cm → Bool) (l : List Cm) (i : Nat) (hi : i < l.length) (hno : ∀ x ∈ l.take i,p x = false) (hp : p l[i] = true) : l.findIdx p = i := by
 have h : l.findIdx p ≤ i := by
   have := List.findIdx_le_length (p := p) (xs := l)
   rcases Nat.lt_or_ge i (l.findIdx p) with h | h
   · have := List.not_of_lt_findIdx h
     rw [hp] at this; cases this
   · exact h
 rcases Nat.lt_or_ge (l.findIdx p) i with h1 | h1
 · have h2 : p l[l.findIdx p] = true := List.findIdx_getElem
   have h3 := hno l[l.findIdx p] (List.mem_take_iff_getElem.2 ⟨_,by omega,rfl⟩)
   rw [h2] at h3; cases h3
 · omega
theorem find_none (p : Cm → Bool) (l : List Cm) (hno : ∀ x ∈ l,p x = false) : l.findIdx p = l.length :=
 List.findIdx_eq_length.2 hno
set_option maxHeartbeats 8000000 in
theorem seek_sound : zbb Try.prog 42 seekS := by
 refine zfr (S := Sclo21) (T := ty) zbf ty_ok Sclo21_ok Try.func42 (c := Try.f42.body.getD .skip) (by kernel_rfl) (by kernel_rfl) (fun xs pins hp _ => ?_)
 unfold seekS at hp ⊢
 split at hp
 · rename_i xs f F g t i o _
   obtain ⟨hF,hL,l,rfl⟩ := hp
   rw [List.length_map] at hL
   have hle : (l.map cmA).length = l.length := by simp
   rw [zbr]
   obtain ⟨p,hpd⟩ : ∃ p,skP F ⟨g,t,i,o⟩ = p := ⟨_,rfl⟩
   have hS : ∀ x : Cm,∃ s,Sclo21 F = some s ∧ s [cmA x,.cp [.str g,.str t,.w (.int .i64 i),.w (.int .i64 o)]] [] = ⟨True,.w (.bool (p x)),[]⟩ := by
     intro x
     subst hpd
     rcases hF with rfl | rfl | rfl
     · exact ⟨_,rfl,rfl⟩
     · exact ⟨_,rfl,rfl⟩
     · exact ⟨_,rfl,rfl⟩
   rw [hpd]
   refine ⟨by simp,?_⟩
   unfold Try.f42
   simp only [go_sem,coe,zaa,Nat.reduceAdd,Nat.reduceSub,Nat.reduceMul,Int.reduceToNat,reduceCtorEq,↓reduceIte,Int.reducePow,Nat.reducePow,Int.reduceMod,Nat.reduceLeDiff,Int.reduceLE,Int.reduceNe,Int.reduceEq,Nat.reduceEqDiff,Nat.reduceLT,Nat.reduceBEq,ty,hle]
   refine awp_loopW ⟨fun m σ => ∃ j : Nat,m = l.length - j ∧ j ≤ l.length ∧ (∀ x ∈ l.take j,p x = false) ∧
       σ = ⟨[.sg 4 (l.map cmA) f,.fn F [.cp [.str g,.str t,.w (.int .i64 i),.w (.int .i64 o)]],.junk,.junk,.w (.int .i64 0),.junk,.junk,.sg 4 (l.map cmA) f,.w (.int .i64 l.length),.w (.int .i64 j),.junk,.junk,.junk,.junk,.junk,.junk,.junk,.junk,.junk,.junk,.junk],[],4⟩,?_,?_⟩
   · refine ⟨_,_,zaf [0,1,2,3] rfl rfl rfl ?_ ?_,0,rfl,by omega,by simp,rfl⟩
     · simp only [ssT,zah,zai,setSlot,gOf,AV.ren,renL,Blk.ren,Ax.look,Ax.put,reduceCtorEq,↓reduceIte,Nat.reduceEqDiff,Nat.reduceLT,Nat.reduceAdd,List.length_append,List.length_cons,List.length_nil,Option.some.injEq]; try simp
     · simp only [ssT,zah,zai,setSlot,gOf,AV.ren,renL,Blk.ren,Ax.look,Ax.put,reduceCtorEq,↓reduceIte,Nat.reduceEqDiff,Nat.reduceLT,Nat.reduceAdd,List.length_append,List.length_cons,List.length_nil,Option.some.injEq]; try simp
   · rintro m σ ⟨j,rfl,hj,hno,rfl⟩
     by_cases hjl : j < l.length
     · have e1 : ((j : Int) + 1 + 9223372036854775808) % 18446744073709551616 - 9223372036854775808 = ((j + 1 : Nat) : Int) := by omega
       have d1 : decide ((j : Int) < l.length) = true := decide_eq_true (by omega)
       have hs1 := slot_cm l j hjl
       obtain ⟨s,hs2,hs3⟩ := hS l[j]
       obtain ⟨r,hr⟩ : ∃ r,l[j] = r := ⟨_,rfl⟩
       rw [hr] at hs1 hs3
       have hs1 : slot (l.map cmA) j = .agg [.str r.g,.str r.t,.w (.int .i64 r.i),.w (.int .i64 r.o)] := hs1
       have hs3 : s [.agg [.str r.g,.str r.t,.w (.int .i64 r.i),.w (.int .i64 r.o)],.cp [.str g,.str t,.w (.int .i64 i),.w (.int .i64 o)]] [] = ⟨True,.w (.bool (p r)),[]⟩ := hs3
       cases hv : p r with
       | true =>
         have hfi : l.findIdx p = j := find_split p l j hjl hno (by rw [hr]; exact hv)
         rw [hfi]
         simp only [go_sem,coe,zaa,Nat.reduceAdd,Nat.reduceSub,Nat.reduceMul,Int.reduceToNat,reduceCtorEq,↓reduceIte,Int.reducePow,Nat.reducePow,Int.reduceMod,Nat.reduceLeDiff,Int.reduceLE,Int.reduceNe,Int.reduceEq,Nat.reduceEqDiff,Nat.reduceLT,Nat.reduceBEq,ty,hle,d1,hs1,hs2,hs3,hv,Int.toNat_natCast]
         repeat (refine And.intro (by omega) ?_)
         refine ⟨_,Weak.refl _,?_⟩
         simp only [go_sem,coe,zaa,Nat.reduceAdd,Nat.reduceSub,Nat.reduceMul,Int.reduceToNat,reduceCtorEq,↓reduceIte,Int.reducePow,Nat.reducePow,Int.reduceMod,Nat.reduceLeDiff,Int.reduceLE,Int.reduceNe,Int.reduceEq,Nat.reduceEqDiff,Nat.reduceLT,Nat.reduceBEq,ty,hle]
         exact w21_ends 4 rfl
       | false =>
         simp only [go_sem,coe,zaa,Nat.reduceAdd,Nat.reduceSub,Nat.reduceMul,Int.reduceToNat,reduceCtorEq,↓reduceIte,Int.reducePow,Nat.reducePow,Int.reduceMod,Nat.reduceLeDiff,Int.reduceLE,Int.reduceNe,Int.reduceEq,Nat.reduceEqDiff,Nat.reduceLT,Nat.reduceBEq,ty,hle,d1,e1,hs1,hs2,hs3,hv,Int.toNat_natCast]
         repeat (refine And.intro (by omega) ?_)
         refine ⟨l.length - (j + 1),_,by omega,zaf [0,1,2,3] rfl rfl rfl ?_ ?_,j + 1,rfl,by omega,?_,rfl⟩
         · simp only [ssT,zah,zai,setSlot,gOf,AV.ren,renL,Blk.ren,Ax.look,Ax.put,reduceCtorEq,↓reduceIte,Nat.reduceEqDiff,Nat.reduceLT,Nat.reduceAdd,List.length_append,List.length_cons,List.length_nil,Option.some.injEq]; try simp
         · simp only [ssT,zah,zai,setSlot,gOf,AV.ren,renL,Blk.ren,Ax.look,Ax.put,reduceCtorEq,↓reduceIte,Nat.reduceEqDiff,Nat.reduceLT,Nat.reduceAdd,List.length_append,List.length_cons,List.length_nil,Option.some.injEq]; try simp
         · intro x hx
           rw [List.take_succ_eq_append_getElem hjl] at hx
           rcases List.mem_append.1 hx with h | h
           · exact hno x h
           · obtain rfl := List.mem_singleton.1 h
             rw [hr]; exact hv
     · have d1 : decide ((j : Int) < l.length) = false := decide_eq_false (by omega)
       obtain rfl : j = l.length := by omega
       rw [List.take_length] at hno
       have hfi := find_none p l hno
       rw [hfi]
       simp only [go_sem,coe,zaa,Nat.reduceAdd,Nat.reduceSub,Nat.reduceMul,Int.reduceToNat,reduceCtorEq,↓reduceIte,Int.reducePow,Nat.reducePow,Int.reduceMod,Nat.reduceLeDiff,Int.reduceLE,Int.reduceNe,Int.reduceEq,Nat.reduceEqDiff,Nat.reduceLT,Nat.reduceBEq,ty,hle,d1]
       refine ⟨_,Weak.refl _,?_⟩
       simp only [go_sem,coe,zaa,Nat.reduceAdd,Nat.reduceSub,Nat.reduceMul,Int.reduceToNat,reduceCtorEq,↓reduceIte,Int.reducePow,Nat.reducePow,Int.reduceMod,Nat.reduceLeDiff,Int.reduceLE,Int.reduceNe,Int.reduceEq,Nat.reduceEqDiff,Nat.reduceLT,Nat.reduceBEq,ty,hle]
       exact w21_ends 4 rfl
 · exact hp.elim
end
end Go.Proofs.Ytnmomgcanfpigaa
namespace Go.Proofs.Ytnmomgcanfpigaa
namespace Ax
open Go.RowKit
structure InsWalks (P : Program) (f : FuncId) (s : Nat) (E : TypeId) (z : List Value) (by' : Nat) : Prop where
 shift : ∀ (b n c i vb vc : Nat) (cs vs : List Value) (w : World),i < n → n + 1 ≤ c → c ≤ 9223372036854775807 → vb ≠ b → cs.length = n * s → vs.length = s →
   (∀ j v,cs[j]? = some v → w.cell? ⟨b,j,none⟩ = some v) → (∀ j,j < (n + 1) * s → (w.cell? ⟨b,j,none⟩).isSome = true) → (∀ j,w.frozen? ⟨b,j,none⟩ = false) →
   (∀ j v,vs[j]? = some v → w.cell? ⟨vb,j,none⟩ = some v) → (∀ v ∈ cs,v.oneCell' = true) → (∀ v ∈ vs,v.oneCell' = true) →
   ∀ (tA tB : TypeId) (kA kB : Nat),w.shape? vb = some (tA,kA) → w.shape? b = some (tB,kB) → kB ≠ 0 → w.frozen? ⟨vb,0,none⟩ = false → w.frozen? ⟨vb,kA,none⟩ = false →
   Calls P f #[.slice (some ⟨b,0,none⟩) n c,.int .i64 i,.slice (some ⟨vb,0,none⟩) 1 vc] w fun e w' =>
     e = .returned (.slice (some ⟨b,0,none⟩) (n + 1) c) ∧ w' = (w.drew.setCells b ((i + 1) * s) (cs.drop (i * s))).setCells b (i * s) vs
 endroom : ∀ (b n c vb vc : Nat) (vs : List Value) (w : World),n + 1 ≤ c → c ≤ 9223372036854775807 → vs.length = s →
   (∀ j,j < (n + 1) * s → (w.cell? ⟨b,j,none⟩).isSome = true) → (∀ j,w.frozen? ⟨b,j,none⟩ = false) → (∀ j v,vs[j]? = some v → w.cell? ⟨vb,j,none⟩ = some v) → (∀ v ∈ vs,v.oneCell' = true) →
   Calls P f #[.slice (some ⟨b,0,none⟩) n c,.int .i64 n,.slice (some ⟨vb,0,none⟩) 1 vc] w fun e w' =>
     e = .returned (.slice (some ⟨b,0,none⟩) (n + 1) c) ∧ w' = w.setCells b (n * s) vs
 endgrow : ∀ (b o n c vb vc : Nat) (cs vs : List Value) (w : World),n ≤ c → c < n + 1 → (n + 1) * by' ≤ 140737488355328 → cs.length = n * s → vs.length = s →
   (∀ j v,cs[j]? = some v → w.cell? ⟨b,o + j,none⟩ = some v) → (∀ j v,vs[j]? = some v → w.cell? ⟨vb,j,none⟩ = some v) → (∀ v ∈ vs,v.oneCell' = true) →
   Calls P f #[.slice (some ⟨b,o,none⟩) n c,.int .i64 n,.slice (some ⟨vb,0,none⟩) 1 vc] w fun e w' =>
     e = .returned (.slice (some ⟨w.heap.size,0,none⟩) (n + 1) (grownCap w (n + 1) c E)) ∧
     w' = w.drew.alloc (.cells ((cs ++ vs).toArray ++ Builtin.zeroCells (Value.agg z.toArray).cells (grownCap w (n + 1) c E - (n + 1))) E)
 grow : ∀ (b n c i vb vc : Nat) (cs vs : List Value) (w : World),i < n → n ≤ c → c < n + 1 → (n + 1) * by' ≤ 140737488355328 → cs.length = n * s → vs.length = s →
   (∀ j v,cs[j]? = some v → w.cell? ⟨b,j,none⟩ = some v) → (∀ j v,vs[j]? = some v → w.cell? ⟨vb,j,none⟩ = some v) → (∀ v ∈ cs,v.oneCell' = true) → (∀ v ∈ vs,v.oneCell' = true) →
   Calls P f #[.slice (some ⟨b,0,none⟩) n c,.int .i64 i,.slice (some ⟨vb,0,none⟩) 1 vc] w fun e w' =>
     e = .returned (.slice (some ⟨w.heap.size,0,none⟩) (n + 1) (grownCap w (n + 1) c E)) ∧
     w' = (((w.alloc (.cells ((cs.take (i * s)).toArray ++ Builtin.zeroCells (Value.agg z.toArray).cells (n + 1 - i) ++ Builtin.zeroCells (Value.agg z.toArray).cells (grownCap w (n + 1) c E - (n + 1))) E)).drew.setCells w.heap.size (i * s) vs).drew).setCells w.heap.size ((i + 1) * s) (cs.drop (i * s))
def DelWalk (P : Program) (f : FuncId) (s : Nat) (z : List Value) : Prop :=
 ∀ (w : World) (b n c i q : Nat) (cs : List Value),i < q → q ≤ n → n ≤ c → c ≤ 9223372036854775807 → cs.length = n * s →
   (∀ j v,cs[j]? = some v → w.cell? ⟨b,j,none⟩ = some v) → (∀ j,j < n * s → (w.cell? ⟨b,j,none⟩).isSome = true) → (∀ j,w.frozen? ⟨b,j,none⟩ = false) → (∀ v ∈ cs,v.oneCell' = true) →
   Calls P f #[.slice (some ⟨b,0,none⟩) n c,.int .i64 i,.int .i64 q] w fun r w' => r = .returned (.slice (some ⟨b,0,none⟩) (i + (n - q)) c) ∧
     w' = (w.drew.setCells b (i * s) (cs.drop (q * s))).setCells b ((i + (n - q)) * s) (Builtin.zeroCells (Value.agg z.toArray).cells (n - (i + (n - q)))).toList
theorem setC (P : Program) {w : World} {b : Nat} {cur : Array Value} {e : TypeId} {fz : Nat × Nat} (o : Nat) (vs : List Value) (hw : w.heap[b]? = some (.cells cur e fz)) (hf : fz.1 = fz.2) (hl : o + vs.length ≤ cur.size) (h1 : ∀ v ∈ vs,one v = true) :
   ∃ cu,(w.setCells b o vs).heap[b]? = some (.cells cu e fz) ∧ cu.size = cur.size ∧ (∀ j,j < cur.size → cu[j]? = if o ≤ j ∧ j < o + vs.length then vs[j - o]? else cur[j]?) ∧ (∀ c,c ≠ b → (w.setCells b o vs).heap[c]? = w.heap[c]?) ∧
     (w.setCells b o vs).heap.size = w.heap.size ∧ (w.setCells b o vs).os = w.os ∧ (w.setCells b o vs).tape = w.tape ∧ (w.setCells b o vs).output = w.output := by
 obtain ⟨w2,cu,r1,r2,r3,r4,r5,r6,r7,r8,r9⟩ := zbk (P := P) b o e fz vs 0 cur w hw (fz_free (p := True) (.inl hf)) (by omega) h1
 have hst := run_storeCells_cells (P := P) b o vs 0 w (fun j hj => by rw [show o + 0 + j = o + j by omega]; simp [World.cell?,hw,Array.getElem?_eq_getElem (show o + j < cur.size by omega)])
   (fun j hj => by simp only [World.frozen?,hw]; simp; omega) h1
 rw [r1] at hst
 injection hst with _ hst
 subst hst
 exact ⟨cu,r2,r3,by simpa using r9,r4,r5,r6,r7,r8⟩
theorem one_set {cur cu : Array Value} {o : Nat} {vs : List Value} (hs : cu.size = cur.size) (h : ∀ j,j < cur.size → cu[j]? = if o ≤ j ∧ j < o + vs.length then vs[j - o]? else cur[j]?) (h1 : ∀ v ∈ vs,one v = true)
   (h0 : ∀ (j : Nat) (h : j < cur.size),one cur[j] = true) : ∀ (j : Nat) (h : j < cu.size),one cu[j] = true := by
 intro j hj
 have hj' : j < cur.size := by omega
 have h9 := h j hj'
 rw [Array.getElem?_eq_getElem hj] at h9
 split at h9
 · obtain ⟨hlt,h10⟩ := List.getElem?_eq_some_iff.1 h9.symm
   rw [← h10]; exact h1 _ (List.getElem_mem hlt)
 · rw [Array.getElem?_eq_getElem hj'] at h9
   injection h9 with h9
   rw [h9]; exact h0 j hj'
structure InsOut (w : World) (b : Nat) (cur vur : Array Value) (n i s : Nat) (b2 c2 : Nat) (w' : World) : Prop where
 cells : ∃ cu e2 fz2,w'.heap[b2]? = some (.cells cu e2 fz2) ∧ fz2.1 = fz2.2 ∧ c2 * s ≤ cu.size ∧ (∀ (j : Nat) (h : j < cu.size),one cu[j] = true) ∧
   ∀ j,j < (n + 1) * s → cu[j]? = if j < i * s then cur[j]? else if j < (i + 1) * s then vur[j - i * s]? else cur[j - s]?
 at_ : (b2 = b ∨ w.heap.size ≤ b2) ∧ b2 < w'.heap.size
 le : n + 1 ≤ c2
 top : c2 ≤ maxLen
 os : w'.os = w.os
 tape : w'.tape = w.tape
 output : w'.output = w.output
 size : w.heap.size ≤ w'.heap.size
 same : ∀ k,k < w.heap.size → k ≠ b → w'.heap[k]? = w.heap[k]?
 shape : ∀ c e f,w.heap[b]? = some (.cells c e f) → ∃ c' f',w'.heap[b]? = some (.cells c' e f') ∧ c'.size = c.size
def InsLaw (P : Program) (f : FuncId) (s : Nat) : Prop :=
 ∀ (w : World) (b o n c i vb vc : Nat) (cur vur : Array Value) (e ve : TypeId) (fz vfz : Nat × Nat),w.heap[b]? = some (.cells cur e fz) → fz.1 = fz.2 → w.heap[vb]? = some (.cells vur ve vfz) → vfz.1 = vfz.2 → vb ≠ b →
   (∀ (j : Nat) (h : j < cur.size),one cur[j] = true) → (∀ (j : Nat) (h : j < vur.size),one vur[j] = true) → (0 < c → o = 0) → c * s ≤ cur.size → s ≤ vur.size → n ≤ c → i ≤ n → n ≤ 1000000 → c ≤ maxLen →
   Calls P f #[.slice (some ⟨b,o,none⟩) n c,.int .i64 i,.slice (some ⟨vb,0,none⟩) 1 vc] w fun r w' => ∃ b2 c2,r = .returned (.slice (some ⟨b2,0,none⟩) (n + 1) c2) ∧ InsOut w b cur vur n i s b2 c2 w'
theorem heap_lt {w : World} {b : Nat} {x : Obj} (h : w.heap[b]? = some x) : b < w.heap.size := by
 rcases Nat.lt_or_ge b w.heap.size with h' | h'
 · exact h'
 · rw [Array.getElem?_eq_none h'] at h; cases h
theorem ins_law {P : Program} {f : FuncId} {s : Nat} {E : TypeId} {z : List Value} {by' : Nat} (hW : InsWalks P f s E z by') (hs : 0 < s) (hz : z.length = s) (hz1 : ∀ v ∈ z,one v = true) (hby : by' ≤ 100000) : InsLaw P f s := by
 intro w b o n c i vb vc cur vur e ve fz vfz hw hf hvw hvf hvb h1 h1v ho hcap hvs hnc hin hn htop
 have hz0 : z ≠ [] := by intro h; subst h; simp at hz; omega
 have hns : n * s ≤ c * s := Nat.mul_le_mul_right _ hnc
 have hins : i * s ≤ n * s := Nat.mul_le_mul_right _ hin
 have hm1 : ∀ x,(x + 1) * s = x * s + s := fun x => Nat.succ_mul x s
 have hfr : ∀ j,w.frozen? ⟨b,j,none⟩ = false := fun j => by simp only [World.frozen?,hw]; simp; omega
 have hvfr : ∀ j,w.frozen? ⟨vb,j,none⟩ = false := fun j => by simp only [World.frozen?,hvw]; simp; omega
 have hcell : ∀ j (h : j < cur.size),w.cell? ⟨b,j,none⟩ = some cur[j] := fun j h => by simp [World.cell?,hw,Array.getElem?_eq_getElem h]
 have hvcell : ∀ j (h : j < vur.size),w.cell? ⟨vb,j,none⟩ = some vur[j] := fun j h => by simp [World.cell?,hvw,Array.getElem?_eq_getElem h]
 have hsome : ∀ j,j < cur.size → (w.cell? ⟨b,j,none⟩).isSome = true := fun j h => by rw [hcell j h]; rfl
 obtain ⟨cs,hcs⟩ : ∃ cs,cs = cur.toList.take (n * s) := ⟨_,rfl⟩
 obtain ⟨vs,hvs'⟩ : ∃ vs,vs = vur.toList.take s := ⟨_,rfl⟩
 have hcl : cs.length = n * s := by rw [hcs,List.length_take,Array.length_toList]; omega
 have hvl : vs.length = s := by rw [hvs',List.length_take,Array.length_toList]; omega
 have hcg : ∀ j,j < n * s → cs[j]? = cur[j]? := fun j hj => by rw [hcs,List.getElem?_take,if_pos hj,Array.getElem?_toList]
 have hvg : ∀ j,j < s → vs[j]? = vur[j]? := fun j hj => by rw [hvs',List.getElem?_take,if_pos hj,Array.getElem?_toList]
 have hcc : ∀ j v,cs[j]? = some v → w.cell? ⟨b,j,none⟩ = some v := fun j v hj => by
   have hlt : j < n * s := by rw [← hcl]; exact (List.getElem?_eq_some_iff.1 hj).1
   rw [hcell j (by omega),← hj,hcg j hlt,Array.getElem?_eq_getElem (by omega)]
 have hvc : ∀ j v,vs[j]? = some v → w.cell? ⟨vb,j,none⟩ = some v := fun j v hj => by
   have hlt : j < s := by rw [← hvl]; exact (List.getElem?_eq_some_iff.1 hj).1
   rw [hvcell j (by omega),← hj,hvg j hlt,Array.getElem?_eq_getElem (by omega)]
 have hc1 : ∀ v ∈ cs,one v = true := fun v hv => by
   rw [hcs] at hv
   obtain ⟨j,hj,rfl⟩ := List.getElem_of_mem (List.mem_of_mem_take hv)
   exact h1 j (by simpa using hj)
 have hv1 : ∀ v ∈ vs,one v = true := fun v hv => by
   rw [hvs'] at hv
   obtain ⟨j,hj,rfl⟩ := List.getElem_of_mem (List.mem_of_mem_take hv)
   exact h1v j (by simpa using hj)
 have hd1 : ∀ v ∈ cs.drop (i * s),one v = true := fun v hv => hc1 v (List.mem_of_mem_drop hv)
 have hdl : (cs.drop (i * s)).length = n * s - i * s := by rw [List.length_drop,hcl]
 have hbw := heap_lt hw
 have hbig : (n + 1) * by' ≤ 140737488355328 := Nat.le_trans (Nat.mul_le_mul (show n + 1 ≤ 1000001 by omega) hby) (by decide)
 have htop' : c ≤ 9223372036854775807 := by unfold maxLen at htop; omega
 have hzc : ∀ d,∀ v ∈ (Builtin.zeroCells (Value.agg z.toArray).cells d).toList,one v = true := fun d v hv => hz1 v (mem_zeroCells z hz0 hz1 hv)
 have hzs : ∀ d,(Builtin.zeroCells (Value.agg z.toArray).cells d).size = d * s := fun d => by
   rw [size_zeroCells]
   have : (Value.agg z.toArray).cells.size = z.length := by simp [Value.cells]
   rw [this,hz]
 by_cases hroom : n + 1 ≤ c
 · obtain rfl := ho (by omega)
   have h2 : (n + 1) * s ≤ c * s := Nat.mul_le_mul_right _ hroom
   rw [hm1] at h2
   by_cases hie : i = n
   · subst hie
     refine (hW.endroom b i c vb vc vs w hroom htop' hvl (fun j hj => hsome j (by rw [hm1] at hj; omega)) hfr hvc hv1).mono ?_
     rintro r w' ⟨rfl,rfl⟩
     obtain ⟨cu,q1,q2,q3,q4,q5,q6,q7,q8⟩ := setC P (i * s) vs hw hf (by omega) hv1
     refine ⟨b,c,rfl,⟨cu,e,fz,q1,hf,by omega,one_set q2 q3 hv1 h1,fun j hj => ?_⟩,⟨.inl rfl,by omega⟩,hroom,htop,q6,q7,q8,by omega,fun k _ hk => q4 k hk,fun c' e' f' h => ?_⟩
     · rw [hm1] at hj
       rw [q3 j (by omega),hvl,hm1]
       by_cases h3 : j < i * s
       · rw [if_neg (by omega),if_pos h3]
       · rw [if_pos (by omega),if_neg h3,if_pos hj,hvg _ (by omega)]
     · rw [hw] at h; injection h with h; injection h with g1 g2 g3; subst g1 g2 g3
       exact ⟨cu,fz,q1,q2⟩
   · have hlt : i < n := by omega
     have h3 : (i + 1) * s ≤ n * s := Nat.mul_le_mul_right _ hlt
     rw [hm1] at h3
     have hsh : ∀ {x : Nat} {c e f},w.heap[x]? = some (.cells c e f) → w.shape? x = some (e,c.size) := fun h => by simp [World.shape?,h]
     refine (hW.shift b n c i vb vc cs vs w hlt hroom htop' hvb hcl hvl hcc (fun j hj => hsome j (by rw [hm1] at hj; omega)) hfr hvc hc1 hv1 _ _ _ _ (hsh hvw) (hsh hw) (by omega) (hvfr _) (hvfr _)).mono ?_
     rintro r w' ⟨rfl,rfl⟩
     obtain ⟨cu,q1,q2,q3,q4,q5,q6,q7,q8⟩ := setC P (w := w.drew) ((i + 1) * s) (cs.drop (i * s)) hw hf (by rw [hm1,hdl]; omega) hd1
     obtain ⟨cv,p1,p2,p3,p4,p5,p6,p7,p8⟩ := setC P (i * s) vs q1 hf (by omega) hv1
     refine ⟨b,c,rfl,⟨cv,e,fz,p1,hf,by omega,one_set p2 p3 hv1 (one_set q2 q3 hd1 h1),fun j hj => ?_⟩,⟨.inl rfl,by rw [p5,q5]; exact hbw⟩,hroom,htop,p6.trans q6,p7.trans q7,p8.trans q8,by rw [p5,q5]; exact Nat.le_refl _,fun k _ hk => (p4 k hk).trans (q4 k hk),fun c' e' f' h => ?_⟩
     · rw [hm1] at hj
       rw [p3 j (by omega),hvl,hm1]
       by_cases h3 : j < i * s
       · rw [if_neg (by omega),if_pos h3,q3 j (by omega),hm1,if_neg (by omega)]
       · by_cases h4 : j < i * s + s
         · rw [if_pos (by omega),if_neg h3,if_pos h4,hvg _ (by omega)]
         · rw [if_neg (by omega),if_neg h3,if_neg h4,q3 j (by omega),hm1,hdl,if_pos (by omega),List.getElem?_drop,hcg _ (by omega)]
           congr 1
           omega
     · rw [hw] at h; injection h with h; injection h with g1 g2 g3; subst g1 g2 g3
       exact ⟨cv,fz,p1,by omega⟩
 · have hcn : c = n := by omega
   have hge := grownCap_ge w (n + 1) c E
   have htp := grownCap_le_maxLen w (n + 1) c E (by unfold maxLen; omega)
   generalize hG : grownCap w (n + 1) c E = G at hge htp
   have h2 : (n + 1) * s ≤ G * s := Nat.mul_le_mul_right _ hge
   rw [hm1] at h2
   have hGs : (G - (n + 1)) * s = G * s - (n * s + s) := by rw [Nat.sub_mul,hm1]
   by_cases hie : i = n
   · subst hie
     refine (hW.endgrow b o i c vb vc cs vs w hnc (by omega) hbig hcl hvl (fun j v hj => ?_) hvc hv1).mono ?_
     · have hlt : j < i * s := by rw [← hcl]; exact (List.getElem?_eq_some_iff.1 hj).1
       have : 0 < i := by
         rcases Nat.eq_zero_or_pos i with h | h
         · subst h; simp at hlt
         · exact h
       obtain rfl := ho (by omega)
       rw [Nat.zero_add]; exact hcc j v hj
     rintro r w' ⟨rfl,rfl⟩
     rw [hG]
     refine ⟨w.heap.size,G,rfl,⟨_,E,(0,0),heap_alloc_new w.drew _,rfl,?_,fun j hj => ?_,fun j hj => ?_⟩,⟨.inr (Nat.le_refl _),?_⟩,hge,htp,rfl,rfl,rfl,?_,fun k hk _ => heap_alloc_old w.drew _ hk,fun c' e' f' h => ⟨c',f',(heap_alloc_old w.drew _ hbw).trans h,rfl⟩⟩
     · rw [Array.size_append,hzs,List.size_toArray,List.length_append,hcl,hvl,hGs]; omega
     · have : ∀ v ∈ (cs ++ vs).toArray ++ Builtin.zeroCells (Value.agg z.toArray).cells (G - (i + 1)),one v = true := fun v hv => by
         rcases Array.mem_append.1 hv with h | h
         · rcases List.mem_append.1 (List.mem_toArray.1 h) with h | h
           · exact hc1 v h
           · exact hv1 v h
         · exact hzc _ v (Array.mem_toList_iff.2 h)
       exact this _ (Array.getElem_mem hj)
     · rw [hm1] at hj
       rw [Array.getElem?_append_left (by rw [List.size_toArray,List.length_append,hcl,hvl]; exact hj),List.getElem?_toArray,hm1]
       by_cases h3 : j < i * s
       · rw [if_pos h3,List.getElem?_append_left (by omega),hcg j h3]
       · rw [if_neg h3,if_pos hj,List.getElem?_append_right (by omega),hcl,hvg _ (by omega)]
     · show w.heap.size < (w.heap.push _).size
       simp
     · show w.heap.size ≤ (w.heap.push _).size
       simp
   · have hlt : i < n := by omega
     have h3 : (i + 1) * s ≤ n * s := Nat.mul_le_mul_right _ hlt
     rw [hm1] at h3
     obtain rfl := ho (by omega)
     refine (hW.grow b n c i vb vc cs vs w hlt hnc (by omega) hbig hcl hvl hcc hvc hc1 hv1).mono ?_
     rintro r w' ⟨rfl,rfl⟩
     rw [hG]
     have hni : (n + 1 - i) * s = n * s + s - i * s := by rw [Nat.sub_mul,hm1]
     generalize hrow : (cs.take (i * s)).toArray ++ Builtin.zeroCells (Value.agg z.toArray).cells (n + 1 - i) ++ Builtin.zeroCells (Value.agg z.toArray).cells (G - (n + 1)) = row
     have hrs : row.size = G * s := by
       rw [← hrow,Array.size_append,Array.size_append,hzs,hzs,List.size_toArray,List.length_take,hcl,hGs,hni]
       omega
     have hr1 : ∀ (j : Nat) (h : j < row.size),one row[j] = true := fun j hj => by
       have : ∀ v ∈ row,one v = true := fun v hv => by
         rw [← hrow] at hv
         rcases Array.mem_append.1 hv with h | h
         · rcases Array.mem_append.1 h with h | h
           · exact hc1 v (List.mem_of_mem_take (List.mem_toArray.1 h))
           · exact hzc _ v (Array.mem_toList_iff.2 h)
         · exact hzc _ v (Array.mem_toList_iff.2 h)
       exact this _ (Array.getElem_mem hj)
     have hrl : ∀ j,j < i * s → row[j]? = cur[j]? := fun j hj => by
       rw [← hrow,Array.getElem?_append_left (by rw [Array.size_append,List.size_toArray,List.length_take,hcl]; omega),Array.getElem?_append_left (by rw [List.size_toArray,List.length_take,hcl]; omega),List.getElem?_toArray,List.getElem?_take,if_pos hj,hcg j (by omega)]
     have hA := heap_alloc_new w (.cells row E)
     obtain ⟨cu,q1,q2,q3,q4,q5,q6,q7,q8⟩ := setC P (w := (w.alloc (.cells row E)).drew) (b := w.heap.size) (i * s) vs hA rfl (by omega) hv1
     obtain ⟨cv,p1,p2,p3,p4,p5,p6,p7,p8⟩ := setC P (w := (((w.alloc (.cells row E)).drew).setCells w.heap.size (i * s) vs).drew) (b := w.heap.size) ((i + 1) * s) (cs.drop (i * s)) q1 rfl (by rw [hdl,hm1]; omega) hd1
     have hsz : ((w.alloc (.cells row E)).drew).heap.size = w.heap.size + 1 := by
       show (w.heap.push _).size = _
       simp
     have hp5 : ((((w.alloc (.cells row E)).drew.setCells w.heap.size (i * s) vs).drew).setCells w.heap.size ((i + 1) * s) (cs.drop (i * s))).heap.size = w.heap.size + 1 := p5.trans (q5.trans hsz)
     have hold : ∀ k,k < w.heap.size → ((((w.alloc (.cells row E)).drew.setCells w.heap.size (i * s) vs).drew).setCells w.heap.size ((i + 1) * s) (cs.drop (i * s))).heap[k]? = w.heap[k]? := fun k hk => by
       rw [p4 k (by omega)]
       refine (q4 k (by omega)).trans ?_
       exact heap_alloc_old w _ hk
     refine ⟨w.heap.size,G,rfl,⟨cv,E,(0,0),p1,rfl,by omega,one_set p2 p3 hd1 (one_set q2 q3 hv1 hr1),fun j hj => ?_⟩,⟨.inr (Nat.le_refl _),by rw [hp5]; omega⟩,hge,htp,p6.trans q6,p7.trans q7,p8.trans q8,by rw [hp5]; omega,fun k hk _ => hold k hk,fun c' e' f' h => ⟨c',f',(hold b hbw).trans h,rfl⟩⟩
     rw [hm1] at hj
     rw [p3 j (by omega),hdl,hm1]
     by_cases h4 : j < i * s
     · rw [if_neg (by omega),if_pos h4,q3 j (by omega),if_neg (by omega),hrl j h4]
     · by_cases h5 : j < i * s + s
       · rw [if_neg (by omega),if_neg h4,if_pos h5,q3 j (by omega),if_pos (by omega),hvg _ (by omega)]
       · rw [if_pos (by omega),if_neg h4,if_neg h5,List.getElem?_drop,hcg _ (by omega)]
         congr 1
         omega
theorem del_law {P : Program} {f : FuncId} {s : Nat} {z : List Value} (hW : DelWalk P f s z) (hs : 0 < s) (hz : z.length = s) (hz1 : ∀ v ∈ z,one v = true)
   (w : World) (b n c i : Nat) (cur : Array Value) (e : TypeId) (fz : Nat × Nat) (hw : w.heap[b]? = some (.cells cur e fz)) (hf : fz.1 = fz.2) (h1 : ∀ (j : Nat) (h : j < cur.size),one cur[j] = true)
   (hcap : c * s ≤ cur.size) (hnc : n ≤ c) (hin : i < n) (htop : c ≤ maxLen) :
   Calls P f #[.slice (some ⟨b,0,none⟩) n c,.int .i64 i,.int .i64 ((i : Int) + 1)] w fun r w' => r = .returned (.slice (some ⟨b,0,none⟩) (n - 1) c) ∧
     ∃ cu,w'.heap[b]? = some (.cells cu e fz) ∧ cu.size = cur.size ∧ (∀ (j : Nat) (h : j < cu.size),one cu[j] = true) ∧ (∀ j,j < n * s → cu[j]? = if j < i * s then cur[j]? else if j < (n - 1) * s then cur[j + s]? else z[j - (n - 1) * s]?) ∧
       (∀ k,k ≠ b → w'.heap[k]? = w.heap[k]?) ∧ w'.heap.size = w.heap.size ∧ w'.os = w.os ∧ w'.tape = w.tape ∧ w'.output = w.output := by
 have hz0 : z ≠ [] := by intro h; subst h; simp at hz; omega
 have hns : n * s ≤ c * s := Nat.mul_le_mul_right _ hnc
 have hm1 : ∀ x,(x + 1) * s = x * s + s := fun x => Nat.succ_mul x s
 have his : (i + 1) * s ≤ n * s := Nat.mul_le_mul_right _ hin
 rw [hm1] at his
 have hnn : (n - 1) * s = n * s - s := by rw [Nat.sub_mul,Nat.one_mul]
 have hfr : ∀ j,w.frozen? ⟨b,j,none⟩ = false := fun j => by simp only [World.frozen?,hw]; simp; omega
 have hcell : ∀ j (h : j < cur.size),w.cell? ⟨b,j,none⟩ = some cur[j] := fun j h => by simp [World.cell?,hw,Array.getElem?_eq_getElem h]
 obtain ⟨cs,hcs⟩ : ∃ cs,cs = cur.toList.take (n * s) := ⟨_,rfl⟩
 have hcl : cs.length = n * s := by rw [hcs,List.length_take,Array.length_toList]; omega
 have hcg : ∀ j,j < n * s → cs[j]? = cur[j]? := fun j hj => by rw [hcs,List.getElem?_take,if_pos hj,Array.getElem?_toList]
 have hcc : ∀ j v,cs[j]? = some v → w.cell? ⟨b,j,none⟩ = some v := fun j v hj => by
   have hlt : j < n * s := by rw [← hcl]; exact (List.getElem?_eq_some_iff.1 hj).1
   rw [hcell j (by omega),← hj,hcg j hlt,Array.getElem?_eq_getElem (by omega)]
 have hc1 : ∀ v ∈ cs,one v = true := fun v hv => by
   rw [hcs] at hv
   obtain ⟨j,hj,rfl⟩ := List.getElem_of_mem (List.mem_of_mem_take hv)
   exact h1 j (by simpa using hj)
 have hd1 : ∀ v ∈ cs.drop ((i + 1) * s),one v = true := fun v hv => hc1 v (List.mem_of_mem_drop hv)
 have hdl : (cs.drop ((i + 1) * s)).length = n * s - (i * s + s) := by rw [List.length_drop,hcl,hm1]
 have hzc : ∀ v ∈ (Builtin.zeroCells (Value.agg z.toArray).cells 1).toList,one v = true := fun v hv => hz1 v (mem_zeroCells z hz0 hz1 hv)
 have hze : (Builtin.zeroCells (Value.agg z.toArray).cells 1).toList = z := by
   have : (Value.agg z.toArray).cells = z.toArray := rfl
   rw [this]
   refine List.ext_getElem (by simp [Builtin.zeroCells]) fun j a b' => ?_
   simp only [Builtin.zeroCells,Array.toList_map,List.getElem_map,Array.getElem_toList,Array.getElem_range]
   have hj : j < z.toArray.size := by simpa using b'
   rw [Nat.mod_eq_of_lt hj,getElem!_pos z.toArray j hj]
   simp
 have hcall := hW w b n c i (i + 1) cs (by omega) hin hnc (by unfold maxLen at htop; omega) hcl hcc (fun j hj => by rw [hcell j (by omega)]; rfl) hfr hc1
 rw [show ((i + 1 : Nat) : Int) = (i : Int) + 1 by omega] at hcall
 refine hcall.mono ?_
 rintro r w' ⟨rfl,rfl⟩
 have e1 : i + (n - (i + 1)) = n - 1 := by omega
 have e2 : n - (n - 1) = 1 := by omega
 rw [e1,e2,hze]
 obtain ⟨cu,q1,q2,q3,q4,q5,q6,q7,q8⟩ := setC P (w := w.drew) (i * s) (cs.drop ((i + 1) * s)) hw hf (by rw [hdl]; omega) hd1
 obtain ⟨cv,p1,p2,p3,p4,p5,p6,p7,p8⟩ := setC P ((n - 1) * s) z q1 hf (by rw [hnn,hz]; omega) hz1
 refine ⟨rfl,cv,p1,by omega,one_set p2 p3 hz1 (one_set q2 q3 hd1 h1),fun j hj => ?_,fun k hk => (p4 k hk).trans (q4 k hk),p5.trans q5,p6.trans q6,p7.trans q7,p8.trans q8⟩
 rw [p3 j (by omega),hz,hnn]
 by_cases h3 : j < n * s - s
 · rw [if_neg (by omega),q3 j (by omega),hdl]
   by_cases h4 : j < i * s
   · rw [if_neg (by omega),if_pos h4]
   · rw [if_pos (by omega),if_neg h4,if_pos h3,List.getElem?_drop,hcg _ (by rw [hm1]; omega),hm1]
     congr 1
     omega
 · rw [if_pos (by omega),if_neg (by omega),if_neg h3]
end Ax
end Go.Proofs.Ytnmomgcanfpigaa
namespace Go.Proofs.Ytnmomgcanfpigaa
namespace Ax
open Go.RowKit
def insL (xs : List AV) (n i : Nat) (x : AV) : List AV := xs.take i ++ x :: (xs.take n).drop i
def insS (s : Nat) : zal
 | [.ms 0 a 0 n,.w (.int .i64 i),.ms 1 b 0 1],[.g c xs,.g d [x]] => ⟨(a = s ∧ b = s ∧ c = s ∧ d = s) ∧ n ≤ xs.length ∧ n ≤ 1000000 ∧ 0 ≤ i ∧ i ≤ n,.ms 2 s 0 (n + 1),[gone,gone,.g s (insL xs n i.toNat x)]⟩
 | _,_ => zbg
def delL (xs : List AV) (n i : Nat) (z : AV) : List AV := xs.take i ++ ((xs.take n).drop (i + 1) ++ [z])
def delS (s : Nat) (z : AV) : zal
 | [.ms 0 a 0 n,.w (.int .i64 i),.w (.int .i64 q)],[.g c xs] => ⟨(a = s ∧ c = s) ∧ n ≤ xs.length ∧ 0 ≤ i ∧ i < n ∧ q = i + 1,.ms 0 s 0 (n - 1),[.g s (delL xs n i.toNat z)]⟩
 | _,_ => zbg
theorem fl_len {s : Nat} {xs : List AV} (h : ∀ x ∈ xs,x.leaves.length = s) : (xs.flatMap AV.leaves).length = xs.length * s := by
 induction xs with
 | nil => simp
 | cons x r ih => rw [List.flatMap_cons,List.length_append,h x (by simp),ih (fun y hy => h y (by simp [hy])),List.length_cons,Nat.succ_mul]; omega
theorem fl_ins {s : Nat} {xs : List AV} {x : AV} (h : ∀ x ∈ xs,x.leaves.length = s) (hx : x.leaves.length = s) {n i : Nat} (hn : n ≤ xs.length) (hi : i ≤ n) (j : Nat) (hj : j < (n + 1) * s) :
   ((insL xs n i x).flatMap AV.leaves)[j]? = if j < i * s then (xs.flatMap AV.leaves)[j]? else if j < (i + 1) * s then x.leaves[j - i * s]? else (xs.flatMap AV.leaves)[j - s]? := by
 have h1 := fl_len h
 have h2 : i * s ≤ n * s := Nat.mul_le_mul_right _ hi
 have h3 : n * s ≤ xs.length * s := Nat.mul_le_mul_right _ hn
 rw [Nat.succ_mul] at hj ⊢
 unfold insL
 rw [List.flatMap_append,List.flatMap_cons,zau xs i h,zbj (xs.take n) i (fun y hy => h y (List.mem_of_mem_take hy)),zau xs n h]
 have h4 : ((xs.flatMap AV.leaves).take (i * s)).length = i * s := by rw [List.length_take,h1]; omega
 by_cases h5 : j < i * s
 · rw [if_pos h5,List.getElem?_append_left (by omega),List.getElem?_take,if_pos h5]
 · rw [if_neg h5,List.getElem?_append_right (by omega),h4]
   by_cases h6 : j < i * s + s
   · rw [if_pos h6,List.getElem?_append_left (by omega)]
   · rw [if_neg h6,List.getElem?_append_right (by omega),hx,List.getElem?_drop,List.getElem?_take,if_pos (by omega)]
     congr 1
     omega
theorem fl_del {s : Nat} {xs : List AV} {z : AV} (h : ∀ x ∈ xs,x.leaves.length = s) (hz : z.leaves.length = s) {n i : Nat} (hn : n ≤ xs.length) (hi : i < n) (j : Nat) (hj : j < n * s) :
   ((delL xs n i z).flatMap AV.leaves)[j]? = if j < i * s then (xs.flatMap AV.leaves)[j]? else if j < (n - 1) * s then (xs.flatMap AV.leaves)[j + s]? else z.leaves[j - (n - 1) * s]? := by
 have h1 := fl_len h
 have h2 : (i + 1) * s ≤ n * s := Nat.mul_le_mul_right _ hi
 have h3 : n * s ≤ xs.length * s := Nat.mul_le_mul_right _ hn
 have hnn : (n - 1) * s = n * s - s := by rw [Nat.sub_mul,Nat.one_mul]
 rw [Nat.succ_mul] at h2
 unfold delL
 rw [List.flatMap_append,List.flatMap_append,zau xs i h,zbj (xs.take n) (i + 1) (fun y hy => h y (List.mem_of_mem_take hy)),zau xs n h,hnn]
 have h4 : ((xs.flatMap AV.leaves).take (i * s)).length = i * s := by rw [List.length_take,h1]; omega
 have h7 : (((xs.flatMap AV.leaves).take (n * s)).drop ((i + 1) * s)).length = n * s - (i * s + s) := by rw [List.length_drop,List.length_take,h1,Nat.succ_mul]; omega
 by_cases h5 : j < i * s
 · rw [if_pos h5,List.getElem?_append_left (by omega),List.getElem?_take,if_pos h5]
 · rw [if_neg h5,List.getElem?_append_right (by omega),h4]
   by_cases h6 : j < n * s - s
   · rw [if_pos h6,List.getElem?_append_left (by omega),List.getElem?_drop,List.getElem?_take,if_pos (by rw [Nat.succ_mul]; omega),Nat.succ_mul]
     congr 1
     omega
   · rw [if_neg h6,List.getElem?_append_right (by omega),h7]
     simp only [List.flatMap_cons,List.flatMap_nil,List.append_nil]
     congr 1
     omega
theorem insL_len {xs : List AV} {n i : Nat} {x : AV} (hn : n ≤ xs.length) (hi : i ≤ n) : (insL xs n i x).length = n + 1 := by
 unfold insL
 simp only [List.length_append,List.length_take,List.length_cons,List.length_drop]
 omega
theorem delL_len {xs : List AV} {n i : Nat} {x : AV} (hn : n ≤ xs.length) (hi : i < n) : (delL xs n i x).length = n := by
 unfold delL
 simp only [List.length_append,List.length_take,List.length_cons,List.length_drop,List.length_nil]
 omega
theorem mem_insL {xs : List AV} {n i : Nat} {x y : AV} (h : y ∈ insL xs n i x) : y ∈ xs ∨ y = x := by
 unfold insL at h
 rcases List.mem_append.1 h with h | h
 · exact .inl (List.mem_of_mem_take h)
 · rcases List.mem_cons.1 h with h | h
   · exact .inr h
   · exact .inl (List.mem_of_mem_take (List.mem_of_mem_drop h))
theorem mem_delL {xs : List AV} {n i : Nat} {x y : AV} (h : y ∈ delL xs n i x) : y ∈ xs ∨ y = x := by
 unfold delL at h
 rcases List.mem_append.1 h with h | h
 · exact .inl (List.mem_of_mem_take h)
 · rcases List.mem_append.1 h with h | h
   · exact .inl (List.mem_of_mem_take (List.mem_of_mem_drop h))
   · exact .inr (List.mem_singleton.1 h)
def Side (w : World) (loc : Loc) (fx : List AV) (cur : Array Value) : Prop := ∀ (j : Nat) (a : AV) (c : Value),fx[j]? = some a → cur[j]? = some c → a.leaf = true ∧ R w loc a c
theorem side_of {w : World} {loc : Loc} {fx : List AV} {cur : Array Value} (h : ∀ (j : Nat) (h : j < fx.length) (h' : j < cur.size),fx[j].leaf = true ∧ R w loc fx[j] cur[j]) : Side w loc fx cur := by
 intro j a c ha hc
 obtain ⟨h1,rfl⟩ := List.getElem?_eq_some_iff.1 ha
 obtain ⟨h2,rfl⟩ := Array.getElem?_eq_some_iff.1 hc
 exact h j h1 h2
theorem ins_sound {P : Program} {f : FuncId} {s : Nat} (hI : InsLaw P f s) (hs : 1 < s) : SoundO P f (insS s) := by
 intro xs pins hp w bad pb vs hpb hnd hbad hpins hlen hxs
 unfold insS at hp ⊢
 split at hp
 · rename_i a n i b1 c ys s9 x
   obtain ⟨⟨rfl,rfl,rfl,rfl⟩,hn,hn6,hi0,hin⟩ := hp
   obtain ⟨i,rfl⟩ : ∃ k : Nat,i = k := ⟨i.toNat,by omega⟩
   obtain ⟨b,vb,rfl⟩ : ∃ b vb,pb = [b,vb] := by
     match pb,hpb with
     | [b,vb],_ => exact ⟨b,vb,rfl⟩
   obtain ⟨v,v1,v2,rfl⟩ : ∃ v v1 v2,vs = [v,v1,v2] := by
     match vs,hlen with
     | [v,v1,v2],_ => exact ⟨v,v1,v2,rfl⟩
   have hv : R w (zap [b,vb] bad) (.ms 0 s9 0 n) v := hxs 0 (by simp) (by simp)
   have hv1 : R w (zap [b,vb] bad) (.w (.int .i64 i)) v1 := hxs 1 (by simp) (by simp)
   have hv2 : R w (zap [b,vb] bad) (.ms 1 s9 0 1) v2 := hxs 2 (by simp) (by simp)
   obtain rfl := hv1.wv
   have hm0 : (zap [b,vb] bad).m 0 = .here b := rfl
   have hm1 : (zap [b,vb] bad).m 1 = .here vb := rfl
   have hbv : vb ≠ b := by
     intro h; subst h
     simp at hnd
   cases hv with
   | ms _ _ _ _ _ h =>
   cases hv2 with
   | ms _ _ _ _ _ h' =>
     unfold Owns at h h'
     rw [hm0] at h
     rw [hm1] at h'
     simp only at h h'
     obtain ⟨o,cap,cur,e,fz,rfl,ho,hcur,hsz,hle,hcap⟩ := h
     obtain ⟨o',cap',vur,e',fz',rfl,ho',hvur,hsz',hle',hcap'⟩ := h'
     have ho : 0 < cap → o = 0 := fun h => by have := ho h; omega
     obtain rfl : o' = 0 := by have := ho' (by omega); omega
     obtain ⟨hok,hL⟩ := hpins 0 (by simp) (by simp)
     obtain ⟨hok',hL'⟩ := hpins 1 (by simp) (by simp)
     have hL : Lies w (zap [b,vb] bad) (.g s9 ys) b := hL
     have hL' : Lies w (zap [b,vb] bad) (.g s9 [x]) vb := hL'
     obtain ⟨c1,e1,f1,g1,hfz,hone,hfl,hcells⟩ := hL.lies rfl
     rw [hcur] at g1; injection g1 with g1; injection g1 with q1 q2 q3; subst q1 q2 q3
     obtain ⟨c2,e2,f2,g2,hfz',hone',hfl',hcells'⟩ := hL'.lies rfl
     rw [hvur] at g2; injection g2 with g2; injection g2 with q1 q2 q3; subst q1 q2 q3
     have hfz : fz.1 = fz.2 := hfz.elim id (fun h => absurd h.2 (by show ¬ s9 = 1; omega))
     have hfz' : fz'.1 = fz'.2 := hfz'.elim id (fun h => absurd h.2 (by show ¬ s9 = 1; omega))
     have hys : ∀ y ∈ ys,y.leaves.length = s9 := hok.2
     have hx : x.leaves.length = s9 := hok'.2 x (by simp)
     rw [Nat.zero_add] at hsz hsz'
     have hcap1 : 1 * s9 ≤ cap' * s9 := Nat.mul_le_mul_right _ hle'
     have hcall := hI w b o n cap i vb cap' cur vur e e' fz fz' hcur hfz hvur hfz' hbv hone hone' ho hsz (by omega) hle (by omega) hn6 hcap
     refine hcall.mono ?_
     rintro r w' ⟨b2,c2,rfl,hO⟩
     obtain ⟨cu,e2,fz2,r1,r2,r3,r4,r5⟩ := hO.cells
     obtain ⟨hat,hlt⟩ := hO.at_
     have hbs := heap_lt hcur
     have hvs := heap_lt hvur
     let loc' : Loc := { m := fun id => match id with | 0 => .dead | 1 => .dead | 2 => .here b2 | _ => .free,bad }
     have hmut : ∀ k,k < w.heap.size → ¬ Mut (zap [b,vb] bad) k → k ≠ b ∧ k ≠ vb ∧ ¬ Mut loc' k := by
       intro k hk hm
       have h1 : k ≠ b := by rintro rfl; exact hm (.inr ⟨0,rfl⟩)
       have h2 : k ≠ vb := by rintro rfl; exact hm (.inr ⟨1,rfl⟩)
       refine ⟨h1,h2,?_⟩
       rintro (h | ⟨id,h⟩)
       · exact hm (.inl h)
       · match id,h with
         | 2,h =>
           have h : L.here b2 = .here k := h
           injection h with h; subst h
           rcases hat with h | h
           · exact h1 h
           · omega
     have hext : Ext (fun _ => True) w (zap [b,vb] bad) w' loc' := by
       refine ⟨hO.size,fun id _ h => (h trivial).elim,fun id hid _ => ?_,fun k hk hm => ?_,fun id k _ h => (h trivial).elim,fun k c e f hc => ?_⟩
       · match id,hid with
         | 0,_ => exact .inr rfl
         | 1,_ => exact .inr rfl
         | k + 2,h => exact (h rfl).elim
       · obtain ⟨h1,h2,h3⟩ := hmut k hk hm
         exact ⟨hO.same k hk h1,h3⟩
       · by_cases hk : k = b
         · subst hk; exact hO.shape c e f hc
         · exact ⟨c,f,(hO.same k (heap_lt hc) hk).trans hc,rfl⟩
     have hS := side_of hcells
     have hS' := side_of hcells'
     have hfx : (Blk.g s9 [x]).flat = x.leaves := by simp [Blk.flat]
     rw [hfx] at hS'
     have hfn : (Blk.g s9 (insL ys n i x)).flat.length = (n + 1) * s9 := by
       show ((insL ys n i x).flatMap AV.leaves).length = _
       rw [fl_len (s := s9),insL_len hn (by omega)]
       intro y hy
       rcases mem_insL hy with h | rfl
       · exact hys y h
       · exact hx
     have hle2 : (n + 1) * s9 ≤ c2 * s9 := Nat.mul_le_mul_right _ hO.le
     refine ⟨_,loc',rfl,?_⟩
     refine ⟨?_,rfl,?_,?_,?_,?_,?_,?_⟩
     · refine .ms _ _ _ _ _ ?_
       unfold Owns
       show ∃ o cap cur e fz,_
       exact ⟨0,c2,cu,e2,fz2,rfl,fun _ => by omega,r1,by rw [Nat.zero_add]; exact r3,hO.le,hO.top⟩
     · intro k hk
       match k,hk with
       | 0,_ => exact .inl ⟨rfl,rfl⟩
       | 1,_ => exact .inl ⟨rfl,rfl⟩
       | 2,_ =>
         refine .inr ⟨?_,by show L.here b2 ≠ _; simp,by show L.here b2 ≠ _; simp⟩
         show BlkR w' loc' 2 (.g s9 (insL ys n i x))
         unfold BlkR
         show _ ∧ _
         refine ⟨⟨by omega,fun y hy => ?_⟩,Lies.mkC ⟨cu,e2,fz2,r1,.inl r2,r4,by rw [hfn]; omega,fun j hj hj' => ?_⟩⟩
         · rcases mem_insL hy with h | rfl
           · exact hys y h
           · exact hx
         · rw [hfn] at hj
           have h1 := fl_ins hys hx hn (show i ≤ n by omega) j hj
           have h2 := r5 j hj
           have h3 : ((insL ys n i x).flatMap AV.leaves)[j]? = some ((Blk.g s9 (insL ys n i x)).flat[j]'(by rw [hfn]; exact hj)) := List.getElem?_eq_getElem _
           have h4 : cu[j]? = some cu[j] := Array.getElem?_eq_getElem hj'
           rw [h3] at h1
           rw [h4] at h2
           have : ∀ A C,some A = (if j < i * s9 then (ys.flatMap AV.leaves)[j]? else if j < (i + 1) * s9 then x.leaves[j - i * s9]? else (ys.flatMap AV.leaves)[j - s9]?) →
               some C = (if j < i * s9 then cur[j]? else if j < (i + 1) * s9 then vur[j - i * s9]? else cur[j - s9]?) → A.leaf = true ∧ R w (zap [b,vb] bad) A C := by
             intro A C hA hC
             split at hA
             · rename_i h; rw [if_pos h] at hC; exact hS j A C hA.symm hC.symm
             · rename_i h; rw [if_neg h] at hC
               split at hA
               · rename_i h; rw [if_pos h] at hC; exact hS' _ A C hA.symm hC.symm
               · rename_i h; rw [if_neg h] at hC; exact hS _ A C hA.symm hC.symm
           obtain ⟨g1,g2⟩ := this _ _ h1 h2
           exact ⟨g1,g2.ext hext⟩
     · intro k hk
       match k,hk with
       | 0,_ => exact .inr rfl
       | 1,_ => exact .inr rfl
     · intro k b' hk h
       match k,hk,h with
       | 2,_,h =>
         have h : L.here b2 = .here b' := h
         injection h with h; subst h
         refine ⟨?_,hlt⟩
         rcases hat with h | h
         · exact .inr (by simp [h])
         · exact .inl h
       | k + 3,_,h => cases h
     · intro k hk
       match k,hk with
       | k + 3,_ => rfl
     · intro i' j' b' h1 h2
       have h3 : ∀ t,loc'.m t = .here b' → t = 2 := by
         intro t ht
         match t,ht with
         | 2,_ => rfl
       rw [h3 _ h1,h3 _ h2]
     · refine ⟨hO.os,hO.tape,hO.output,hO.size,fun k hk hne => ?_,fun k c' e' f' hE hc' => ?_⟩
       · exact hO.same k hk (fun h => hne (by simp [h]))
       · by_cases hk : k = b
         · subst hk; exact hO.shape c' e' f' hc'
         · exact ⟨c',f',(hO.same k (heap_lt hc') hk).trans hc',rfl⟩
 · exact hp.elim
theorem del_sound {P : Program} {f : FuncId} {s : Nat} {z : List Value} {za : AV} (hW : DelWalk P f s z) (hs : 1 < s) (hz : z.length = s) (hz1 : ∀ v ∈ z,one v = true) (hzl : za.leaves.length = s)
   (hza : ∀ (j : Nat) (h : j < za.leaves.length) (h' : j < z.length),za.leaves[j].leaf = true ∧ ∀ w loc,R w loc za.leaves[j] z[j]) : SoundO P f (delS s za) := by
 intro xs pins hp w bad pb vs hpb hnd hbad hpins hlen hxs
 unfold delS at hp ⊢
 split at hp
 · rename_i a n i q s9 ys
   obtain ⟨⟨rfl,rfl⟩,hn,hi0,hin,rfl⟩ := hp
   obtain ⟨i,rfl⟩ : ∃ k : Nat,i = k := ⟨i.toNat,by omega⟩
   obtain ⟨b,rfl⟩ : ∃ b,pb = [b] := by
     match pb,hpb with
     | [b],_ => exact ⟨b,rfl⟩
   obtain ⟨v,v1,v2,rfl⟩ : ∃ v v1 v2,vs = [v,v1,v2] := by
     match vs,hlen with
     | [v,v1,v2],_ => exact ⟨v,v1,v2,rfl⟩
   have hv : R w (zap [b] bad) (.ms 0 s9 0 n) v := hxs 0 (by simp) (by simp)
   have hv1 : R w (zap [b] bad) (.w (.int .i64 i)) v1 := hxs 1 (by simp) (by simp)
   have hv2 : R w (zap [b] bad) (.w (.int .i64 (i + 1))) v2 := hxs 2 (by simp) (by simp)
   obtain rfl := hv1.wv
   obtain rfl := hv2.wv
   have hm0 : (zap [b] bad).m 0 = .here b := rfl
   cases hv with
   | ms _ _ _ _ _ h =>
     unfold Owns at h
     rw [hm0] at h
     simp only at h
     obtain ⟨o,cap,cur,e,fz,rfl,ho,hcur,hsz,hle,hcap⟩ := h
     obtain rfl : o = 0 := by have := ho (by omega); omega
     obtain ⟨hok,hL⟩ := hpins 0 (by simp) (by simp)
     have hL : Lies w (zap [b] bad) (.g s9 ys) b := hL
     obtain ⟨c1,e1,f1,g1,hfz,hone,hfl,hcells⟩ := hL.lies rfl
     rw [hcur] at g1; injection g1 with g1; injection g1 with q1 q2 q3; subst q1 q2 q3
     have hfz : fz.1 = fz.2 := hfz.elim id (fun h => absurd h.2 (by show ¬ s9 = 1; omega))
     have hys : ∀ y ∈ ys,y.leaves.length = s9 := hok.2
     rw [Nat.zero_add] at hsz
     have hcall := del_law hW (by omega) hz hz1 w b n cap i cur e fz hcur hfz hone hsz hle (by omega) hcap
     refine hcall.mono ?_
     rintro r w' ⟨rfl,cu,r1,r2,r4,r5,r6,r7,r8,r9,r10⟩
     have hbs := heap_lt hcur
     have hext : Ext (fun _ => True) w (zap [b] bad) w' (zap [b] bad) := by
       refine ⟨by omega,fun id _ h => (h trivial).elim,fun id hid _ => .inl rfl,fun k hk hm => ⟨r6 k ?_,hm⟩,fun id k _ h => (h trivial).elim,fun k c e f hc => ?_⟩
       · rintro rfl; exact hm (.inr ⟨0,rfl⟩)
       · by_cases hk : k = b
         · subst hk
           rw [hcur] at hc; injection hc with hc; injection hc with g1 g2 g3; subst g1 g2 g3
           exact ⟨cu,fz,r1,r2⟩
         · exact ⟨c,f,(r6 k hk).trans hc,rfl⟩
     have hS := side_of hcells
     have hfn : (Blk.g s9 (delL ys n i za)).flat.length = n * s9 := by
       show ((delL ys n i za).flatMap AV.leaves).length = _
       rw [fl_len (s := s9),delL_len hn (by omega)]
       intro y hy
       rcases mem_delL hy with h | rfl
       · exact hys y h
       · exact hzl
     have hna : n * s9 ≤ cap * s9 := Nat.mul_le_mul_right _ hle
     refine ⟨_,zap [b] bad,rfl,?_⟩
     refine ⟨?_,rfl,?_,?_,?_,?_,?_,?_⟩
     · refine .ms _ _ _ _ _ ?_
       unfold Owns
       rw [hm0]
       exact ⟨0,cap,cu,e,fz,rfl,fun _ => by omega,r1,by rw [Nat.zero_add,r2]; exact hsz,by omega,hcap⟩
     · intro k hk
       match k,hk with
       | 0,_ =>
         refine .inr ⟨?_,by rw [hm0]; simp,by rw [hm0]; simp⟩
         show BlkR w' (zap [b] bad) 0 (.g s9 (delL ys n i za))
         unfold BlkR
         rw [hm0]
         refine ⟨⟨by omega,fun y hy => ?_⟩,Lies.mkC ⟨cu,e,fz,r1,.inl hfz,r4,by rw [hfn,r2]; omega,fun j hj hj' => ?_⟩⟩
         · rcases mem_delL hy with h | rfl
           · exact hys y h
           · exact hzl
         · rw [hfn] at hj
           have h1 := fl_del hys hzl hn (show i < n by omega) j hj
           have h2 := r5 j hj
           have h3 : ((delL ys n i za).flatMap AV.leaves)[j]? = some ((Blk.g s9 (delL ys n i za)).flat[j]'(by rw [hfn]; exact hj)) := List.getElem?_eq_getElem _
           have h4 : cu[j]? = some cu[j] := Array.getElem?_eq_getElem hj'
           rw [h3] at h1
           rw [h4] at h2
           have : ∀ A C,some A = (if j < i * s9 then (ys.flatMap AV.leaves)[j]? else if j < (n - 1) * s9 then (ys.flatMap AV.leaves)[j + s9]? else za.leaves[j - (n - 1) * s9]?) →
               some C = (if j < i * s9 then cur[j]? else if j < (n - 1) * s9 then cur[j + s9]? else z[j - (n - 1) * s9]?) → A.leaf = true ∧ R w' (zap [b] bad) A C := by
             intro A C hA hC
             split at hA
             · rename_i h; rw [if_pos h] at hC
               have := hS j A C hA.symm hC.symm
               exact ⟨this.1,this.2.ext hext⟩
             · rename_i h; rw [if_neg h] at hC
               split at hA
               · rename_i h; rw [if_pos h] at hC
                 have := hS _ A C hA.symm hC.symm
                 exact ⟨this.1,this.2.ext hext⟩
               · rename_i h; rw [if_neg h] at hC
                 obtain ⟨u1,u2⟩ := List.getElem?_eq_some_iff.1 hA.symm
                 obtain ⟨u3,u4⟩ := List.getElem?_eq_some_iff.1 hC.symm
                 have := hza _ u1 u3
                 rw [u2,u4] at this
                 exact ⟨this.1,this.2 _ _⟩
           exact this _ _ h1 h2
     · intro k hk
       match k,hk with
       | 0,_ => exact .inl rfl
     · intro k b' hk h
       match k,hk,h with
       | k + 1,_,h => cases h
     · intro k hk
       match k,hk with
       | k + 1,_ => rfl
     · intro i' j' b' h1 h2
       have h3 : ∀ t,(zap [b] bad).m t = .here b' → t = 0 := by
         intro t ht
         match t,ht with
         | 0,_ => rfl
       rw [h3 _ h1,h3 _ h2]
     · refine ⟨r8,r9,r10,by omega,fun k hk hne => r6 k (fun h => hne (by simp [h])),fun k c' e' f' hE hc' => ?_⟩
       by_cases hk : k = b
       · subst hk
         rw [hcur] at hc'; injection hc' with hc'; injection hc' with g1 g2 g3; subst g1 g2 g3
         exact ⟨cu,fz,r1,r2⟩
       · exact ⟨c',f',(r6 k hk).trans hc',rfl⟩
 · exact hp.elim
end Ax
end Go.Proofs.Ytnmomgcanfpigaa
namespace Go.Proofs.Ytnmomgcanfpigaa
open Ax Go.RowKit
theorem inswI21 : InsWalks Try.prog 67 4 33 zI21 48 :=
 ⟨fun b n c i vb vc cs vs w h1 h2 h3 h4 h5 h6 h7 h8 h9 h10 h11 h12 tA tB kA kB h13 h14 h15 h16 h17 => ins_shiftI21 b n c i vb 1 vc cs vs w h1 Nat.one_pos h2 h3 h4 h5 (by omega) h7 h8 h9 h10 h11 h12 tA tB kA kB h13 h14 h15 h16 h17,
  fun b n c vb vc vs w h1 h2 h3 h4 h5 h6 h7 => ins_endroomI21 b n c vb 1 vc vs w Nat.one_pos h1 h2 (by omega) h4 h5 h6 h7,
  fun b o n c vb vc cs vs w h1 h2 h3 h4 h5 h6 h7 h8 => ins_endgrowI21 b o n c vb 1 vc cs vs w Nat.one_pos h1 h2 h3 h4 (by omega) h6 h7 h8,
  fun b n c i vb vc cs vs w h1 h2 h3 h4 h5 h6 h7 h8 h9 h10 => ins_growI21 b n c i vb 1 vc cs vs w h1 Nat.one_pos h2 h3 h4 h5 (by omega) h7 h8 h9 h10⟩
theorem insGI21_sound : SoundO Try.prog 67 (insS 4) := ins_sound (ins_law inswI21 (by decide) rfl one_zI21 (by decide)) (by decide)
def zaI21 : AV := .agg [.str [],.str [],.w (.int .i64 0),.w (.int .i64 0)]
theorem delGI21_sound : SoundO Try.prog 66 (delS 4 zaI21) := by
 refine del_sound (z := zI21) (fun w b n c i q cs h1 h2 h3 h4 h5 h6 h7 h8 h9 => del_atI21 w b n c i q cs h1 h2 h3 h4 h5 h6 h7 h8 h9) (by decide) rfl one_zI21 rfl ?_
 intro j h h'
 have hj : j < 4 := h
 match j,hj with
 | 0,_ => exact ⟨rfl,fun w loc => .str []⟩
 | 1,_ => exact ⟨rfl,fun w loc => .str []⟩
 | 2,_ => exact ⟨rfl,fun w loc => .w _ rfl⟩
 | 3,_ => exact ⟨rfl,fun w loc => .w _ rfl⟩
end Go.Proofs.Ytnmomgcanfpigaa
namespace Go.Proofs.Ytnmomgcanfpigaa
open Ax
def zC : Cm := ⟨[],[],0,0⟩
def fndI (c : Cm) (l : List Cm) : Nat := l.findIdx (skP 65 c)
def insI (c : Cm) (l : List Cm) : Nat := l.findIdx (skP 68 c)
def delE (e : List Cm) (n i : Nat) : List Cm := e.take i ++ ((e.take n).drop (i + 1) ++ [zC])
def insE (e : List Cm) (n i : Nat) (c : Cm) : List Cm := e.take i ++ c :: (e.take n).drop i
theorem delE_map (e : List Cm) (n i : Nat) : delL (e.map cmA) n i zaI21 = (delE e n i).map cmA := by
 unfold delL delE
 simp only [List.map_append,List.map_take,List.map_drop,List.map_cons,List.map_nil]
 rfl
theorem insE_map (e : List Cm) (n i : Nat) (c : Cm) : insL (e.map cmA) n i (cmA c) = (insE e n i c).map cmA := by
 unfold insL insE
 simp only [List.map_append,List.map_take,List.map_drop,List.map_cons]
theorem setSlot_cm (r : Cm) : ∀ (cs : List Cm) (w : Nat),w < cs.length → setSlot (cs.map cmA) w (cmA r) = (cs.set w r).map cmA
 | x :: cs,0,_ => rfl
 | x :: cs,w + 1,h => by
   show cmA x :: setSlot (cs.map cmA) w (cmA r) = cmA x :: (cs.set w r).map cmA
   rw [setSlot_cm r cs w (by simpa using h)]
theorem fq_cm (id s0 : Nat) (ls : List AV) : ∀ (l : List Cm),fqL id s0 ls (l.map cmA) = l.map cmA
 | [] => rfl
 | x :: r => by
   simp only [List.map_cons,fqL,fq_cm id s0 ls r]
   rfl
theorem mem_cm {l : List Cm} : ∀ y,y ∈ l.map cmA → y.closed = true := by
 intro y hy
 obtain ⟨c,_,rfl⟩ := List.mem_map.1 hy
 rfl
def playR (e : List Cm) (n K1 K2 : Nat) (c : Cm) : Bool → Bool → AV × List Blk
 | true,true => (.ms 0 4 0 (n - 1),[.g 4 ((delE e n K1).map cmA)])
 | true,false => (.ms 0 4 0 n,[.g 4 ((e.set K1 c).map cmA)])
 | false,true => (.ms 0 4 0 n,[.g 4 (e.map cmA)])
 | false,false => (.ms 1 4 0 (n + 1),[gone,.g 4 ((insE e n K2 c).map cmA)])
def playRes (e : List Cm) (n : Nat) (c : Cm) (dead : Bool) : AV × List Blk := playR e n (fndI c (e.take n)) (insI c (e.take n)) c (decide (fndI c (e.take n) < n)) dead
def playS : zal
 | [.sg 4 [] true,.agg [.str g,.str t,.w (.int .i64 i),.w (.int .i64 o)],.w (.bool true)],[] => ⟨True,.sg 4 [] true,[]⟩
 | [.sg 4 [] true,.agg [.str g,.str t,.w (.int .i64 i),.w (.int .i64 o)],.w (.bool false)],[] => ⟨True,.ms 0 4 0 1,[.g 4 [.agg [.str g,.str t,.w (.int .i64 i),.w (.int .i64 o)]]]⟩
 | [.ms 0 4 0 n,.agg [.str g,.str t,.w (.int .i64 i),.w (.int .i64 o)],.w (.bool dead)],[.g 4 xs] => ⟨n ≤ xs.length ∧ 0 < xs.length ∧ n ≤ 999999 ∧ ∃ e : List Cm,xs = e.map cmA,(playRes (xs.map ucm) n ⟨g,t,i,o⟩ dead).1,(playRes (xs.map ucm) n ⟨g,t,i,o⟩ dead).2⟩
 | _,_ => zbg
def ins21S : zal
 | [.sg 4 [] true,.w (.int .i64 0),.sg 4 [.agg [.str g,.str t,.w (.int .i64 i),.w (.int .i64 o)]] f],[] => ⟨True,.ms 0 4 0 1,[.g 4 [.agg [.str g,.str t,.w (.int .i64 i),.w (.int .i64 o)]]]⟩
 | _,_ => zbg
theorem eq00 : decide ((0:Int) = ((0:Nat):Int)) = true := rfl
theorem eq10 : decide (((1:Nat):Int) = (0:Int)) = false := rfl
theorem eq01 : decide ((0:Int) = ((1:Nat):Int)) = false := rfl
theorem dz00 : decide ((0:Int) < (0:Int)) = false := rfl
theorem cst0 : ((0:Nat):Int) = (0:Int) := rfl
theorem ltn00 : decide (((0:Nat):Int) < ((0:Nat):Int)) = false := rfl
theorem lt00 : decide ((0:Int) < ((0:Nat):Int)) = false := rfl
section
set_option maxRecDepth 100000
set_option maxHeartbeats 4000000
theorem ins21_sound : zbb Try.prog 67 ins21S := by
 refine zaq (S := noS) (T := ty) zbf ty_ok zbs Try.func67 (c := Try.f67.body.getD .skip) (by kernel_rfl) (by kernel_rfl) (fun xs pins hp _ => ?_)
 unfold ins21S at hp ⊢
 split at hp
 · rename_i g t i o f _
   refine ⟨by simp,?_⟩
   unfold Try.f67
   simp only [go_sem,coe,zaa,Nat.reduceAdd,Nat.reduceSub,Nat.reduceMul,Int.reduceToNat,reduceCtorEq,↓reduceIte,Int.reducePow,Nat.reducePow,Int.reduceMod,Nat.reduceLeDiff,Int.reduceLE,Int.reduceNe,Int.reduceEq,Nat.reduceEqDiff,Nat.reduceLT,Nat.reduceBEq,ty,noS,eq00,eq01,eq10]
   decide
 · exact hp.elim
def Spl21 (f : FuncId) : Option zal :=
 match f with
 | 42 => some seekS
 | 67 => some ins21S
 | _ => none
theorem Spl21_ok : Fns Try.prog Spl21 := by
 intro f s h
 unfold Spl21 at h
 split at h
 · injection h with h; subst h; exact ⟨⟨_,Try.func42,by kernel_rfl,by kernel_rfl⟩,seek_sound⟩
 · injection h with h; subst h; exact ⟨⟨_,Try.func67,by kernel_rfl,by kernel_rfl⟩,ins21_sound⟩
 · cases h
def zef (f : FuncId) : Option zal :=
 match f with
 | 67 => some (insS 4)
 | 66 => some (delS 4 zaI21)
 | _ => none
theorem SOpl21_ok : FnsO Try.prog zef := by
 intro f s h
 unfold zef at h
 split at h
 · injection h with h; subst h; exact ⟨⟨_,Try.func67,by kernel_rfl,by kernel_rfl⟩,insGI21_sound⟩
 · injection h with h; subst h; exact ⟨⟨_,Try.func66,by kernel_rfl,by kernel_rfl⟩,delGI21_sound⟩
 · cases h
def plPlA : XPlan := fun id => match id with
 | 1 => .wks
 | 4 => .opn [] 4
 | 10 => .wkp [(3,4),(3,5)]
 | _ => .std
def plPl : XPlan := fun id => match id with
 | 1 => .wks
 | 4 => .opn [] 4
 | 10 => .drs [(3,4),(3,5)] 6
 | _ => .std
theorem play_sound : SoundO Try.prog 41 playS := by
 refine fn_soundO (S := Spl21) (SO := zef) (T := ty) zbf ty_ok Spl21_ok SOpl21_ok Try.func41 (c := Try.f41.body.getD .skip) (by kernel_rfl) (fun xs pins hp => ?_)
 unfold playS at hp ⊢
 split at hp
 · rename_i g t i o
   have hex : ∃ l : List Cm,([] : List AV) = l.map cmA := ⟨[],rfl⟩
   refine ⟨by simp,plPlA,by kernel_rfl,?_⟩
   unfold Try.f41
   simp only [go_sem,zab,Nat.reduceAdd,Nat.reduceSub,Nat.reduceMul,Int.reduceToNat,reduceCtorEq,↓reduceIte,Int.reducePow,Nat.reducePow,Int.reduceMod,Nat.reduceLeDiff,Int.reduceLE,Int.reduceNe,Int.reduceEq,Nat.reduceEqDiff,Nat.reduceLT,Nat.reduceBEq,List.map_cons,List.map_nil,List.toList_toArray,Array.toList_append,Option.toArray_some,Option.toArray_none,Bool.and_self,ty,Spl21,zef,plPlA,wsF]
   refine ⟨_,_,weak_fq 4 4 4 [.str g,.str t,.w (.int .i64 i),.w (.int .i64 o)] rfl (by decide) rfl (by simp) rfl (List.mem_cons_self),?_⟩
   simp only [go_sem,coe,zab,Nat.reduceAdd,Nat.reduceSub,Nat.reduceMul,Int.reduceToNat,reduceCtorEq,↓reduceIte,Int.reducePow,Nat.reducePow,Int.reduceMod,Nat.reduceLeDiff,Int.reduceLE,Int.reduceNe,Int.reduceEq,Nat.reduceEqDiff,Nat.reduceLT,Nat.reduceBEq,List.map_cons,List.map_nil,List.toList_toArray,Array.toList_append,Option.toArray_some,Option.toArray_none,Bool.and_self,ty,Spl21,zef,plPlA,seekS,lt00,ltn00,fqL,fqH,AV.fq,Blk.fq,hex,true_or,or_true,List.map_nil,List.findIdx_nil]
   try (refine ⟨_,Weak.refl _,?_⟩)
   try simp only [go_sem,coe,zab,Nat.reduceAdd,Nat.reduceSub,Nat.reduceMul,Int.reduceToNat,reduceCtorEq,↓reduceIte,Int.reducePow,Nat.reducePow,Int.reduceMod,Nat.reduceLeDiff,Int.reduceLE,Int.reduceNe,Int.reduceEq,Nat.reduceEqDiff,Nat.reduceLT,Nat.reduceBEq,List.map_cons,List.map_nil,List.toList_toArray,Array.toList_append,Option.toArray_some,Option.toArray_none,Bool.and_self,ty,Spl21]
 · rename_i g t i o
   have hex : ∃ l : List Cm,([] : List AV) = l.map cmA := ⟨[],rfl⟩
   refine ⟨by simp,plPlA,by kernel_rfl,?_⟩
   unfold Try.f41
   simp only [go_sem,zab,Nat.reduceAdd,Nat.reduceSub,Nat.reduceMul,Int.reduceToNat,reduceCtorEq,↓reduceIte,Int.reducePow,Nat.reducePow,Int.reduceMod,Nat.reduceLeDiff,Int.reduceLE,Int.reduceNe,Int.reduceEq,Nat.reduceEqDiff,Nat.reduceLT,Nat.reduceBEq,List.map_cons,List.map_nil,List.toList_toArray,Array.toList_append,Option.toArray_some,Option.toArray_none,Bool.and_self,ty,Spl21,zef,plPlA,wsF]
   refine ⟨_,_,weak_fq 4 4 4 [.str g,.str t,.w (.int .i64 i),.w (.int .i64 o)] rfl (by decide) rfl (by simp) rfl (List.mem_cons_self),?_⟩
   simp only [go_sem,coe,zab,Nat.reduceAdd,Nat.reduceSub,Nat.reduceMul,Int.reduceToNat,reduceCtorEq,↓reduceIte,Int.reducePow,Nat.reducePow,Int.reduceMod,Nat.reduceLeDiff,Int.reduceLE,Int.reduceNe,Int.reduceEq,Nat.reduceEqDiff,Nat.reduceLT,Nat.reduceBEq,List.map_cons,List.map_nil,List.toList_toArray,Array.toList_append,Option.toArray_some,Option.toArray_none,Bool.and_self,ty,Spl21,zef,plPlA,seekS,ins21S,lt00,ltn00,cst0,dz00,fqL,fqH,AV.fq,Blk.fq,hex,true_or,or_true,List.map_nil,List.findIdx_nil]
   unfold wkF
   refine ⟨_,_,Weak.refl _,?_⟩
   simp only [go_sem,coe,zab,Nat.reduceAdd,Nat.reduceSub,Nat.reduceMul,Int.reduceToNat,reduceCtorEq,↓reduceIte,Int.reducePow,Nat.reducePow,Int.reduceMod,Nat.reduceLeDiff,Int.reduceLE,Int.reduceNe,Int.reduceEq,Nat.reduceEqDiff,Nat.reduceLT,Nat.reduceBEq,List.map_cons,List.map_nil,List.toList_toArray,Array.toList_append,Option.toArray_some,Option.toArray_none,Bool.and_self,ty,Spl21,zef,plPlA,seekS,ins21S,lt00,ltn00,cst0,dz00,fqL,fqH,AV.fq,Blk.fq,hex,true_or,or_true,List.map_nil,List.findIdx_nil]
   refine ⟨fun y e => by rw [e]; rfl,_,Weak.refl _,?_⟩
   simp only [go_sem,coe,zab,Nat.reduceAdd,Nat.reduceSub,Nat.reduceMul,Int.reduceToNat,reduceCtorEq,↓reduceIte,Int.reducePow,Nat.reducePow,Int.reduceMod,Nat.reduceLeDiff,Int.reduceLE,Int.reduceNe,Int.reduceEq,Nat.reduceEqDiff,Nat.reduceLT,Nat.reduceBEq,List.map_cons,List.map_nil,List.toList_toArray,Array.toList_append,Option.toArray_some,Option.toArray_none,Bool.and_self,ty,Spl21]
 · rename_i n g t i o dead xs
   obtain ⟨hn,h0,h6,e,rfl⟩ := hp
   rw [List.length_map] at hn h0
   have hle : (e.map cmA).length = e.length := by simp
   have hcl := zba e
   have htk : List.take n (e.map cmA) = (e.take n).map cmA := (List.map_take).symm
   have htl : (e.take n).length = n := by rw [List.length_take]; omega
   have hex : ∃ l : List Cm,(e.take n).map cmA = l.map cmA := ⟨_,rfl⟩
   rw [zbr]
   unfold playRes
   have hK1l : fndI ⟨g,t,i,o⟩ (e.take n) ≤ n := Nat.le_trans List.findIdx_le_length (Nat.le_of_eq htl)
   have hK2l : insI ⟨g,t,i,o⟩ (e.take n) ≤ n := Nat.le_trans List.findIdx_le_length (Nat.le_of_eq htl)
   obtain ⟨K1,hK1⟩ : ∃ K,fndI ⟨g,t,i,o⟩ (e.take n) = K := ⟨_,rfl⟩
   obtain ⟨K2,hK2⟩ : ∃ K,insI ⟨g,t,i,o⟩ (e.take n) = K := ⟨_,rfl⟩
   rw [hK1] at hK1l ⊢
   rw [hK2] at hK2l ⊢
   have hK1' : (e.take n).findIdx (skP 65 ⟨g,t,i,o⟩) = K1 := hK1
   have hK2' : (e.take n).findIdx (skP 68 ⟨g,t,i,o⟩) = K2 := hK2
   have dl : decide ((K1 : Int) < (n : Int)) = decide (K1 < n) := by simp
   refine ⟨by simp,plPl,by kernel_rfl,?_⟩
   unfold Try.f41
   have hclm : (∀ y,y ∈ (e.take n).map cmA → y.closed = true) = True := eq_true mem_cm
   have hpos : decide (0 < e.length) = true := decide_eq_true h0
   have hid := Int.toNat_natCast K1
   have hid2 := Int.toNat_natCast K2
   cases hf : decide (K1 < n) with
   | true =>
     rw [hf] at dl
     have hlt := of_decide_eq_true hf
     have hap : ((K1 : Int) + 1 + 9223372036854775808) % 18446744073709551616 - 9223372036854775808 = (K1 : Int) + 1 := by omega
     cases dead with
     | true =>
       have hdl := delE_map e n K1
       simp only [go_sem,zab,Nat.reduceAdd,Nat.reduceSub,Nat.reduceMul,Int.reduceToNat,reduceCtorEq,↓reduceIte,Int.reducePow,Nat.reducePow,Int.reduceMod,Nat.reduceLeDiff,Int.reduceLE,Int.reduceNe,Int.reduceEq,Nat.reduceEqDiff,Nat.reduceLT,Nat.reduceBEq,List.map_cons,List.map_nil,List.toList_toArray,Array.toList_append,Option.toArray_some,Option.toArray_none,Bool.and_self,ty,Spl21,zef,plPl,hle]
       unfold wsF
       refine ⟨_,_,weak_fq 4 4 4 [.str g,.str t,.w (.int .i64 i),.w (.int .i64 o)] rfl (by decide) rfl (by simp) rfl (List.mem_cons_self),?_⟩
       simp only [go_sem,zab,Nat.reduceAdd,Nat.reduceSub,Nat.reduceMul,Int.reduceToNat,reduceCtorEq,↓reduceIte,Int.reducePow,Nat.reducePow,Int.reduceMod,Nat.reduceLeDiff,Int.reduceLE,Int.reduceNe,Int.reduceEq,Nat.reduceEqDiff,Nat.reduceLT,Nat.reduceBEq,List.map_cons,List.map_nil,List.toList_toArray,Array.toList_append,Option.toArray_some,Option.toArray_none,Bool.and_self,ty,Spl21,zef,plPl,seekS,delS,playR,fq_cm,fqL,fqH,AV.fq,Blk.fq,hle,List.length_map,zba,zbp,ids_cm,hpos,htk,htl,hex,hK1',dl,hap,hid,hdl,coe_cm,zbr,true_or,or_true,hclm,Bool.cond_self,List.drop_zero]
       refine ⟨⟨by omega,by omega⟩,⟨by omega,by omega,by omega⟩,?_⟩
       refine ⟨_,Weak.refl _,?_⟩
       simp only [go_sem,zab,Nat.reduceAdd,Nat.reduceSub,Nat.reduceMul,Int.reduceToNat,reduceCtorEq,↓reduceIte,Int.reducePow,Nat.reducePow,Int.reduceMod,Nat.reduceLeDiff,Int.reduceLE,Int.reduceNe,Int.reduceEq,Nat.reduceEqDiff,Nat.reduceLT,Nat.reduceBEq,List.map_cons,List.map_nil,List.toList_toArray,Array.toList_append,Option.toArray_some,Option.toArray_none,Bool.and_self,ty,Spl21,zba,zbp,ids_cm]
     | false =>
       have hst := setSlot_cm ⟨g,t,i,o⟩ e K1 (by omega)
       simp only [cmA] at hst
       have hs2 := slot_cm e K1 (by omega)
       have hd6 : List.drop 4 [AV.str e[K1].g,.str e[K1].t,.w (.int .i64 e[K1].i),.w (.int .i64 e[K1].o)] = [] := rfl
       simp only [cmA] at hs2
       simp only [go_sem,zab,Nat.reduceAdd,Nat.reduceSub,Nat.reduceMul,Int.reduceToNat,reduceCtorEq,↓reduceIte,Int.reducePow,Nat.reducePow,Int.reduceMod,Nat.reduceLeDiff,Int.reduceLE,Int.reduceNe,Int.reduceEq,Nat.reduceEqDiff,Nat.reduceLT,Nat.reduceBEq,List.map_cons,List.map_nil,List.toList_toArray,Array.toList_append,Option.toArray_some,Option.toArray_none,Bool.and_self,ty,Spl21,zef,plPl,hle]
       unfold wsF
       refine ⟨_,_,weak_fq 4 4 4 [.str g,.str t,.w (.int .i64 i),.w (.int .i64 o)] rfl (by decide) rfl (by simp) rfl (List.mem_cons_self),?_⟩
       simp only [go_sem,zab,Nat.reduceAdd,Nat.reduceSub,Nat.reduceMul,Int.reduceToNat,reduceCtorEq,↓reduceIte,Int.reducePow,Nat.reducePow,Int.reduceMod,Nat.reduceLeDiff,Int.reduceLE,Int.reduceNe,Int.reduceEq,Nat.reduceEqDiff,Nat.reduceLT,Nat.reduceBEq,List.map_cons,List.map_nil,List.toList_toArray,Array.toList_append,Option.toArray_some,Option.toArray_none,Bool.and_self,ty,Spl21,zef,plPl,seekS,playR,fq_cm,fqL,fqH,AV.fq,Blk.fq,hle,List.length_map,zba,zbp,ids_cm,hpos,htk,htl,hex,hK1',dl,hap,hid,hst,hs2,hd6,coe_cm,zbr,true_or,or_true,hclm,Bool.cond_self,List.drop_zero]
       refine ⟨⟨by omega,by omega⟩,⟨by omega,by omega⟩,by omega,?_⟩
       refine ⟨_,Weak.refl _,?_⟩
       simp only [go_sem,zab,Nat.reduceAdd,Nat.reduceSub,Nat.reduceMul,Int.reduceToNat,reduceCtorEq,↓reduceIte,Int.reducePow,Nat.reducePow,Int.reduceMod,Nat.reduceLeDiff,Int.reduceLE,Int.reduceNe,Int.reduceEq,Nat.reduceEqDiff,Nat.reduceLT,Nat.reduceBEq,List.map_cons,List.map_nil,List.toList_toArray,Array.toList_append,Option.toArray_some,Option.toArray_none,Bool.and_self,ty,Spl21,zba,zbp,ids_cm]
   | false =>
     rw [hf] at dl
     cases dead with
     | true =>
       simp only [go_sem,zab,Nat.reduceAdd,Nat.reduceSub,Nat.reduceMul,Int.reduceToNat,reduceCtorEq,↓reduceIte,Int.reducePow,Nat.reducePow,Int.reduceMod,Nat.reduceLeDiff,Int.reduceLE,Int.reduceNe,Int.reduceEq,Nat.reduceEqDiff,Nat.reduceLT,Nat.reduceBEq,List.map_cons,List.map_nil,List.toList_toArray,Array.toList_append,Option.toArray_some,Option.toArray_none,Bool.and_self,ty,Spl21,zef,plPl,hle]
       unfold wsF
       refine ⟨_,_,weak_fq 4 4 4 [.str g,.str t,.w (.int .i64 i),.w (.int .i64 o)] rfl (by decide) rfl (by simp) rfl (List.mem_cons_self),?_⟩
       simp only [go_sem,zab,Nat.reduceAdd,Nat.reduceSub,Nat.reduceMul,Int.reduceToNat,reduceCtorEq,↓reduceIte,Int.reducePow,Nat.reducePow,Int.reduceMod,Nat.reduceLeDiff,Int.reduceLE,Int.reduceNe,Int.reduceEq,Nat.reduceEqDiff,Nat.reduceLT,Nat.reduceBEq,List.map_cons,List.map_nil,List.toList_toArray,Array.toList_append,Option.toArray_some,Option.toArray_none,Bool.and_self,ty,Spl21,zef,plPl,seekS,playR,fq_cm,fqL,fqH,AV.fq,Blk.fq,hle,List.length_map,zba,zbp,ids_cm,hpos,htk,htl,hex,hK1',dl,hid,coe_cm,zbr,true_or,or_true,hclm,Bool.cond_self,List.drop_zero]
       refine ⟨⟨by omega,by omega⟩,?_⟩
       refine ⟨_,Weak.refl _,?_⟩
       simp only [go_sem,zab,Nat.reduceAdd,Nat.reduceSub,Nat.reduceMul,Int.reduceToNat,reduceCtorEq,↓reduceIte,Int.reducePow,Nat.reducePow,Int.reduceMod,Nat.reduceLeDiff,Int.reduceLE,Int.reduceNe,Int.reduceEq,Nat.reduceEqDiff,Nat.reduceLT,Nat.reduceBEq,List.map_cons,List.map_nil,List.toList_toArray,Array.toList_append,Option.toArray_some,Option.toArray_none,Bool.and_self,ty,Spl21,zba,zbp,ids_cm]
     | false =>
       have hin := insE_map e n K2 ⟨g,t,i,o⟩
       simp only [cmA] at hin
       simp only [go_sem,zab,Nat.reduceAdd,Nat.reduceSub,Nat.reduceMul,Int.reduceToNat,reduceCtorEq,↓reduceIte,Int.reducePow,Nat.reducePow,Int.reduceMod,Nat.reduceLeDiff,Int.reduceLE,Int.reduceNe,Int.reduceEq,Nat.reduceEqDiff,Nat.reduceLT,Nat.reduceBEq,List.map_cons,List.map_nil,List.toList_toArray,Array.toList_append,Option.toArray_some,Option.toArray_none,Bool.and_self,ty,Spl21,zef,plPl,hle]
       unfold wsF
       refine ⟨_,_,weak_fq 4 4 4 [.str g,.str t,.w (.int .i64 i),.w (.int .i64 o)] rfl (by decide) rfl (by simp) rfl (List.mem_cons_self),?_⟩
       simp only [go_sem,zab,Nat.reduceAdd,Nat.reduceSub,Nat.reduceMul,Int.reduceToNat,reduceCtorEq,↓reduceIte,Int.reducePow,Nat.reducePow,Int.reduceMod,Nat.reduceLeDiff,Int.reduceLE,Int.reduceNe,Int.reduceEq,Nat.reduceEqDiff,Nat.reduceLT,Nat.reduceBEq,List.map_cons,List.map_nil,List.toList_toArray,Array.toList_append,Option.toArray_some,Option.toArray_none,Bool.and_self,ty,Spl21,zef,plPl,seekS,playR,fq_cm,fqL,fqH,AV.fq,Blk.fq,hle,List.length_map,zba,zbp,ids_cm,hpos,htk,htl,hex,hK1',hK2',dl,hid,coe_cm,zbr,true_or,or_true,hclm,Bool.cond_self,List.drop_zero]
       refine ⟨⟨by omega,by omega⟩,?_⟩
       unfold drF
       refine ⟨_,_,Weak.refl _,?_⟩
       simp only [go_sem,zab,Nat.reduceAdd,Nat.reduceSub,Nat.reduceMul,Int.reduceToNat,reduceCtorEq,↓reduceIte,Int.reducePow,Nat.reducePow,Int.reduceMod,Nat.reduceLeDiff,Int.reduceLE,Int.reduceNe,Int.reduceEq,Nat.reduceEqDiff,Nat.reduceLT,Nat.reduceBEq,List.map_cons,List.map_nil,List.toList_toArray,Array.toList_append,Option.toArray_some,Option.toArray_none,Bool.and_self,ty,Spl21,zef,plPl,seekS,insS,playR,fq_cm,fqL,fqH,AV.fq,Blk.fq,hle,List.length_map,zba,zbp,ids_cm,hpos,htk,htl,hex,hK1',hK2',dl,hid,hid2,hin,coe_cm,zbr,true_or,or_true,hclm,Bool.cond_self,List.drop_zero,List.take_succ_cons,List.take_zero,List.drop_succ_cons]
       repeat (refine And.intro (by omega) ?_)
       try (refine ⟨_,Weak.refl _,?_⟩)
       simp only [go_sem,zab,Nat.reduceAdd,Nat.reduceSub,Nat.reduceMul,Int.reduceToNat,reduceCtorEq,↓reduceIte,Int.reducePow,Nat.reducePow,Int.reduceMod,Nat.reduceLeDiff,Int.reduceLE,Int.reduceNe,Int.reduceEq,Nat.reduceEqDiff,Nat.reduceLT,Nat.reduceBEq,List.map_cons,List.map_nil,List.toList_toArray,Array.toList_append,Option.toArray_some,Option.toArray_none,Bool.and_self,ty,Spl21,zba,zbp,ids_cm]
 · exact hp.elim
end
end Go.Proofs.Ytnmomgcanfpigaa
namespace Go.Proofs.Ytnmomgcanfpigaa
open Ax
theorem zfl {α : Type} (g : α → AV) : ∀ (ps : List α) (i : Nat) (h : i < ps.length),slot (ps.map g) i = g ps[i]
 | p :: ps,0,h => rfl
 | p :: ps,i + 1,h => by
   simp only [List.map_cons,slot,List.getElem_cons_succ]
   exact zfl g ps i (by simpa using h)
end Go.Proofs.Ytnmomgcanfpigaa
namespace Go.Proofs.Ytnmomgcanfpigaa
open Ax
structure Rec where
 d : Int
 t : Int
 k : Bool
 key : List UInt8
 dd : Bool
 val : List UInt8
def rv (r : Rec) : AV := .agg [.w (.int .i64 r.d),.w (.int .i64 r.t),.w (.bool r.k),.str r.key,.w (.bool r.dd),.str r.val]
def rrec : AV → Rec
 | .agg [.w (.int _ d),.w (.int _ t),.w (.bool k),.str key,.w (.bool dd),.str val] => ⟨d,t,k,key,dd,val⟩
 | _ => ⟨0,0,false,[],false,[]⟩
theorem zay (rs : List Rec) : (rs.map rv).map rrec = rs := by
 rw [List.map_map]; exact List.map_id _
section
set_option maxRecDepth 100000
set_option maxHeartbeats 2000000 in
end
end Go.Proofs.Ytnmomgcanfpigaa
namespace Go.Proofs.Ytnmomgcanfpigaa
open Ax
instance : DecidableEq Rec := fun a b => decidable_of_iff (a.d = b.d ∧ a.t = b.t ∧ a.k = b.k ∧ a.key = b.key ∧ a.dd = b.dd ∧ a.val = b.val) (by cases a; cases b; simp)
section
set_option maxRecDepth 100000
set_option maxHeartbeats 1000000 in
set_option maxHeartbeats 1000000 in
set_option maxHeartbeats 1000000 in
end
end Go.Proofs.Ytnmomgcanfpigaa
namespace Go.Proofs.Ytnmomgcanfpigaa
open Ax
def lightR (r : Rec) : Prop := r.key.length ≤ 200 ∧ r.val.length ≤ 700
instance (r : Rec) : Decidable (lightR r) := by unfold lightR; infer_instance
def blightS4 : zal
 | [.agg [.w (.int .i64 b),.w (.int .i64 c),.w (.int .i64 p),.w (.int .i64 e),.w (.int .i64 s),.sg 6 xs f]],[] => ⟨xs.length ≤ 9223372036854775807 ∧ ∃ rs : List Rec,xs = rs.map rv,
     .w (.bool (decide (xs.length ≤ 40 ∧ ∀ r ∈ xs.map rrec,lightR r))),[]⟩
 | _,_ => zbg
def Sblight4 (f : FuncId) : Option zal :=
 match f with
 | 8 => some lightS
 | _ => none
theorem Sblight4_ok : Fns Try.prog Sblight4 := by
 intro f s h
 unfold Sblight4 at h
 split at h
 · injection h with h; subst h; exact ⟨⟨_,Try.func8,by kernel_rfl,by kernel_rfl⟩,light_sound⟩
 · cases h
section
set_option maxRecDepth 100000
set_option maxHeartbeats 1000000 in
set_option maxHeartbeats 1000000 in
theorem blight4_sound : zbb Try.prog 19 blightS4 := by
 refine zaq (S := Sblight4) (T := ty) zbf ty_ok Sblight4_ok Try.func19 (c := Try.f19.body.getD .skip) (by kernel_rfl) (by kernel_rfl) (fun xs pins hp _ => ?_)
 unfold blightS4 at hp ⊢
 split at hp
 · rename_i b c p e s xs f _
   obtain ⟨hL,rs,rfl⟩ := hp
   have hl4 : (rs.map rv).length = rs.length := by simp
   rw [hl4] at hL
   refine ⟨by simp,?_⟩
   unfold Try.f19
   by_cases h40 : rs.length ≤ 40
   · have d0 : decide ((40 : Int) < rs.length) = false := decide_eq_false (by omega)
     simp only [go_sem,zaa,Nat.reduceAdd,Nat.reduceSub,Nat.reduceMul,Int.reduceToNat,reduceCtorEq,↓reduceIte,Int.reducePow,Nat.reducePow,Int.reduceMod,Nat.reduceLeDiff,Int.reduceLE,Int.reduceNe,Int.reduceEq,Nat.reduceEqDiff,Nat.reduceLT,Nat.reduceBEq,ty,Sblight4,hl4,d0,zay]
     refine awp_loop ⟨fun m σ => ∃ i : Nat,m = rs.length - i ∧ i ≤ rs.length ∧ (∀ j (h : j < rs.length),j < i → lightR rs[j]) ∧
         σ = ⟨[.agg [.w (.int .i64 b),.w (.int .i64 c),.w (.int .i64 p),.w (.int .i64 e),.w (.int .i64 s),.sg 6 (rs.map rv) f],.rf 4 6 0 0,.junk,.w (.int .i64 i),.junk,.junk,.junk,.junk,.junk,.junk,.junk,.junk,.junk,.junk,.junk,.junk,.junk,.junk,.junk,.junk,.junk,.junk],[(4,.g 6 [.agg [.w (.int .i64 b),.w (.int .i64 c),.w (.int .i64 p),.w (.int .i64 e),.w (.int .i64 s),.sg 6 (rs.map rv) f]])],5⟩,?_,?_⟩
     · refine ⟨_,_,zaf [0,1,2,3,4] rfl rfl rfl ?_ ?_,0,rfl,by omega,by intro j _ h; omega,rfl⟩
       · simp only [ssT,zah,zai,setSlot,gOf,AV.ren,renL,Blk.ren,Ax.look,Ax.put,reduceCtorEq,↓reduceIte,Nat.reduceEqDiff,Nat.reduceLT,Nat.reduceAdd,List.length_append,List.length_cons,List.length_nil,Option.some.injEq]; rfl
       · simp only [ssT,zah,zai,setSlot,gOf,AV.ren,renL,Blk.ren,Ax.look,Ax.put,reduceCtorEq,↓reduceIte,Nat.reduceEqDiff,Nat.reduceLT,Nat.reduceAdd,List.length_append,List.length_cons,List.length_nil,Option.some.injEq]
     · rintro m σ ⟨i,rfl,hi,hall,rfl⟩
       have e1 : ((i : Int) + 1 + 9223372036854775808) % 18446744073709551616 - 9223372036854775808 = ((i + 1 : Nat) : Int) := by omega
       by_cases hil : i < rs.length
       · have d1 : decide ((i : Int) < rs.length) = true := decide_eq_true (by omega)
         have hs1 := zfl rv rs i hil
         obtain ⟨P,hP⟩ : ∃ P,rs[i] = P := ⟨_,rfl⟩
         rw [hP] at hs1
         simp only [rv] at hs1
         by_cases ha : P.key.length ≤ 200 ∧ P.val.length ≤ 700
         · have d2 : decide (P.key.length ≤ 200 ∧ P.val.length ≤ 700) = true := decide_eq_true ha
           simp only [go_sem,zaa,Nat.reduceAdd,Nat.reduceSub,Nat.reduceMul,Int.reduceToNat,reduceCtorEq,↓reduceIte,Int.reducePow,Nat.reducePow,Int.reduceMod,Nat.reduceLeDiff,Int.reduceLE,Int.reduceNe,Int.reduceEq,Nat.reduceEqDiff,Nat.reduceLT,Nat.reduceBEq,ty,Sblight4,lightS,hl4,d1,d2,hs1,e1,Int.toNat_natCast]
           repeat (refine And.intro (by omega) ?_)
           refine ⟨rs.length - (i + 1),_,by omega,zaf [0,1,2,3,4] rfl rfl rfl ?_ ?_,i + 1,rfl,by omega,?_,rfl⟩
           · simp only [ssT,zah,zai,setSlot,gOf,AV.ren,renL,Blk.ren,Ax.look,Ax.put,reduceCtorEq,↓reduceIte,Nat.reduceEqDiff,Nat.reduceLT,Nat.reduceAdd,List.length_append,List.length_cons,List.length_nil,Option.some.injEq]
           · simp only [ssT,zah,zai,setSlot,gOf,AV.ren,renL,Blk.ren,Ax.look,Ax.put,reduceCtorEq,↓reduceIte,Nat.reduceEqDiff,Nat.reduceLT,Nat.reduceAdd,List.length_append,List.length_cons,List.length_nil,Option.some.injEq]
           · intro j h hj
             rcases Nat.lt_or_ge j i with h2 | h2
             · exact hall j h h2
             · have : j = i := by omega
               subst this
               rw [hP]; exact ha
         · have d2 : decide (P.key.length ≤ 200 ∧ P.val.length ≤ 700) = false := decide_eq_false ha
           have dr : decide (rs.length ≤ 40 ∧ ∀ r ∈ rs,lightR r) = false := decide_eq_false (fun h => ha (h.2 P (hP ▸ List.getElem_mem hil)))
           simp only [go_sem,zaa,Nat.reduceAdd,Nat.reduceSub,Nat.reduceMul,Int.reduceToNat,reduceCtorEq,↓reduceIte,Int.reducePow,Nat.reducePow,Int.reduceMod,Nat.reduceLeDiff,Int.reduceLE,Int.reduceNe,Int.reduceEq,Nat.reduceEqDiff,Nat.reduceLT,Nat.reduceBEq,ty,Sblight4,lightS,hl4,d1,d2,hs1,e1,dr,zay,Int.toNat_natCast]
           omega
       · have d1 : decide ((i : Int) < rs.length) = false := decide_eq_false (by omega)
         have dr : decide (rs.length ≤ 40 ∧ ∀ r ∈ rs,lightR r) = true := decide_eq_true ⟨h40,fun r hr => by
           obtain ⟨j,hj,rfl⟩ := List.getElem_of_mem hr
           exact hall j hj (by omega)⟩
         simp only [go_sem,zaa,Nat.reduceAdd,Nat.reduceSub,Nat.reduceMul,Int.reduceToNat,reduceCtorEq,↓reduceIte,Int.reducePow,Nat.reducePow,Int.reduceMod,Nat.reduceLeDiff,Int.reduceLE,Int.reduceNe,Int.reduceEq,Nat.reduceEqDiff,Nat.reduceLT,Nat.reduceBEq,ty,Sblight4,hl4,d1,dr,zay]
   · have d0 : decide ((40 : Int) < rs.length) = true := decide_eq_true (by omega)
     have dr : decide (rs.length ≤ 40 ∧ ∀ r ∈ rs,lightR r) = false := decide_eq_false (fun h => h40 h.1)
     simp only [go_sem,zaa,Nat.reduceAdd,Nat.reduceSub,Nat.reduceMul,Int.reduceToNat,reduceCtorEq,↓reduceIte,Int.reducePow,Nat.reducePow,Int.reduceMod,Nat.reduceLeDiff,Int.reduceLE,Int.reduceNe,Int.reduceEq,Nat.reduceEqDiff,Nat.reduceLT,Nat.reduceBEq,ty,Sblight4,hl4,d0,dr,zay]
 · exact hp.elim
end
end Go.Proofs.Ytnmomgcanfpigaa
