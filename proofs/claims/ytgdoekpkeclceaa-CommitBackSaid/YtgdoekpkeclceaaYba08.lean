/- What the proofs of this seat stand on; it asks nothing. -/
import Derived.Test.YtgdoekpkeclceaaYba07
set_option linter.unusedSimpArgs false
set_option linter.unusedVariables false
namespace Go.Proofs.Ytgdoekpkeclceaa
namespace Ax
mutual
def AV.fg (id s : Nat) (zs : List AV) : AV → AV
 | .agg xs => .agg (fgL id s zs xs)
 | .tup xs => .tup (fgL id s zs xs)
 | .fn f cs => .fn f (fgL id s zs cs)
 | .ms k s' off len => bif k == id then (bif s' == s && decide (off + len ≤ zs.length) then .sg s ((zs.drop off).take len) false else .ms k s' off len) else .ms k s' off len
 | x => x
def fgL (id s : Nat) (zs : List AV) : List AV → List AV
 | [] => []
 | x :: xs => x.fg id s zs :: fgL id s zs xs
end
theorem zez (id s : Nat) (zs : List AV) : ∀ (xs : List AV),(fgL id s zs xs).length = xs.length ∧ ∀ (j : Nat) (h : j < (fgL id s zs xs).length) (h' : j < xs.length),(fgL id s zs xs)[j] = xs[j].fg id s zs
 | [] => ⟨rfl,fun j h => by simp [fgL] at h⟩
 | x :: xs => by
   obtain ⟨h1,h2⟩ := zez id s zs xs
   refine ⟨by simp [fgL,h1],fun j h h' => ?_⟩
   cases j with
   | zero => rfl
   | succ j => exact h2 j (by simpa [fgL] using h) (by simpa using h')
theorem fg_leaf {id s : Nat} {zs : List AV} {x : AV} (h : x.leaf = true) : (x.fg id s zs).leaf = true := by
 cases x <;> first | exact h | (simp [AV.leaf] at h; done) | skip
 simp only [AV.fg]
 cases (_ == id) with
 | false => rfl
 | true =>
   simp only [cond_true]
   cases (_ && _ : Bool) <;> rfl
theorem fg_R {w : World} {loc : Loc} {id s : Nat} {zs : List AV} (hcl : closedL zs = true) (hok : Blk.ok (.g s zs)) (hor : (loc.m id = .nil ∧ zs = []) ∨ ∃ b,loc.m id = .here b ∧ b < w.heap.size ∧ Lies w loc (.g s zs) b ∧ (∀ k,loc.m k = .here b → k = id) ∧ ¬ loc.bad b) {x : AV} {v : Value} (h : R w loc x v) : R w (loc.set id .dead) (x.fg id s zs) v := by
 have hM : ∀ c,Mut (loc.set id .dead) c → Mut loc c := by
   rintro c (h | ⟨k,h⟩)
   · exact .inl h
   · by_cases hk : k = id
     · subst hk; rw [Loc.set_same] at h; cases h
     · rw [Loc.set_other _ _ hk] at h; exact .inr ⟨k,h⟩
 have hC : ∀ {a cs},Cells w loc a cs → Cells w (loc.set id .dead) a cs := fun h => h.move (fun b _ hm => hM b hm)
 induction h with
 | w v h => exact .w v h
 | str bs => exact .str bs
 | agg xs cs hl hx _ ih =>
   obtain ⟨h1,h2⟩ := zez id s zs xs
   refine .agg _ cs (by rw [h1,hl]) (fun j hj => ?_) (fun j a b => ?_)
   · rw [h2 j hj (by rw [← h1]; exact hj)]; exact fg_leaf (hx j _)
   · rw [h2 j a (by rw [← h1]; exact a)]; exact ih j _ b
 | tup xs cs hl _ ih =>
   obtain ⟨h1,h2⟩ := zez id s zs xs
   refine .tup _ cs (by rw [h1,hl]) (fun j a b => ?_)
   rw [h2 j a (by rw [← h1]; exact a)]; exact ih j _ b
 | sb bs full a cap hd hc => exact .sb bs full a cap hd (hC hc)
 | si ns full a cap hd hc => exact .si ns full a cap hd (hC hc)
 | sg s xs full a cap cs hd hs hc hl hx h _ => exact .sg s xs full a cap cs hd hs (hC hc) hl hx (fun j a b => (h j a b).move (fun b _ hm => hM b hm) (hx j a).2)
 | cp ls a cs hc hn hl hx h _ => exact .cp ls a cs (hC hc) hn hl hx (fun j a b => (h j a b).move (fun b _ hm => hM b hm) (hx j a).2)
 | ms k s' off len v h =>
   have hkeep : R w (loc.set id .dead) (.ms k s' off len) v := by
     refine .ms _ _ _ _ _ ?_
     by_cases hk : k = id
     · subst hk; unfold Owns; rw [Loc.set_same]; exact h.one
     · unfold Owns at h ⊢; rw [Loc.set_other _ _ hk]; exact h
   simp only [AV.fg]
   by_cases hk : k = id
   · subst hk
     simp only [beq_self_eq_true,cond_true]
     cases hc : (s' == s && decide (off + len ≤ zs.length)) with
     | false => exact hkeep
     | true =>
       simp only [cond_true]
       simp only [Bool.and_eq_true,beq_iff_eq,decide_eq_true_eq] at hc
       obtain ⟨rfl,hle⟩ := hc
       have hlen : ((zs.drop off).take len).length = len := by simp; omega
       have hls : ∀ y ∈ (zs.drop off).take len,y.leaves.length = s' := fun y hy => hok.2 y (List.mem_of_mem_drop (List.mem_of_mem_take hy))
       have hclx : ∀ (j : Nat) (hj : j < (((zs.drop off).take len).flatMap AV.leaves).length),(((zs.drop off).take len).flatMap AV.leaves)[j].closed = true := by
         intro j hj
         have hm := List.getElem_mem hj
         obtain ⟨y,hy,hyl⟩ := List.mem_flatMap.1 hm
         exact closed_leaves (closedL_mem hcl (List.mem_of_mem_drop (List.mem_of_mem_take hy))) _ hyl
       have hHR : HR w loc [(k,.g s' zs)] := by
         intro i b hl
         simp only [look] at hl
         split at hl
         · rename_i e; subst e
           injection hl with hl; subst hl
           unfold BlkR
           rcases hor with ⟨h1,h2⟩ | ⟨b,h1,h2,h3,_⟩
           · rw [h1]; exact ⟨hok,by rw [h2]; rfl⟩
           · rw [h1]; exact ⟨hok,h3⟩
         · cases hl
       have hs := zen (H := [(k,.g s' zs)]) (blk := .g s' zs) hHR h (by simp [look]) rfl hle
       have hfl : (Blk.flat (.g s' zs) |>.drop (off * s') |>.take (len * s')) = ((zs.drop off).take len).flatMap AV.leaves := by
         rw [zay _ _ (fun y hy => hok.2 y (List.mem_of_mem_drop hy)),zbg _ _ hok.2]; rfl
       rw [hfl] at hs
       obtain ⟨a,cap,rfl,h1,h2,h3⟩ := hs.seen
       have h3 : len = 0 ∨ ∃ cs,(cs.length = len * s' ∧ CellsOf w loc (((zs.drop off).take len).flatMap AV.leaves) cs ∧ Cells w (loc.set k .dead) a cs) := by
         rcases h3 with h3 | ⟨b,o,cs,rfl,h4,h5,h6,h7⟩
         · exact .inl h3
         · by_cases h0 : len = 0
           · exact .inl h0
           refine .inr ⟨cs,h5,h7,⟨.inr ⟨b,o,rfl,?_,h4,h6⟩⟩⟩
           have hb : loc.m k = .here b ∧ (∀ i,loc.m i = .here b → i = k) ∧ ¬ loc.bad b := by
             rcases hor with ⟨hb,rfl⟩ | ⟨b',hb,hlt,hl,hinj,hnb⟩
             · simp at hle; omega
             · unfold Owns at h; rw [hb] at h
               obtain ⟨o',cap',cur0,e0,fz0,hv,_⟩ := h
               injection hv with hv _ _
               injection hv with hv
               injection hv with hv1 hv2
               subst hv1
               exact ⟨hb,hinj,hnb⟩
           rintro (hq | ⟨i,hq⟩)
           · exact hb.2.2 hq
           · by_cases hk : i = k
             · subst hk; rw [Loc.set_same] at hq; cases hq
             · rw [Loc.set_other _ _ hk] at hq; exact hk (hb.2.1 i hq)
       have : R w (loc.set k .dead) (.sg s' ((zs.drop off).take len) false) (.slice a ((zs.drop off).take len).length cap) := by
         rcases h3 with h0 | ⟨cs,h5,h7,h8⟩
         · have he : (zs.drop off).take len = [] := List.length_eq_zero_iff.1 (by omega)
           rw [he]
           exact .sg s' [] false a cap [] ⟨Nat.zero_le _,h2,by simp⟩ (by simp) ⟨.inl rfl⟩ (by simp) (fun j hj => by simp at hj) (fun j hj => by simp at hj)
         · exact .sg s' ((zs.drop off).take len) false a cap cs ⟨by omega,h2,by simp⟩ hls h8 h7.len (fun j hj => ⟨h7.leaf j hj,hclx j hj⟩) (fun j x y => (h7.r j x y).move (fun b _ hm => hM b hm) (hclx j x))
       rw [hlen] at this
       exact this
   · have : (k == id) = false := by simpa using hk
     rw [this]; exact hkeep
 | rf k s i f v h =>
   refine .rf _ _ _ _ _ ?_
   by_cases hk : k = id
   · subst hk; unfold Points; rw [Loc.set_same]; exact h.one
   · unfold Points at h ⊢; rw [Loc.set_other _ _ hk]; exact h
 | fn f caps cs hl _ ih =>
   obtain ⟨h1,h2⟩ := zez id s zs caps
   refine .fn f _ cs (by rw [h1,hl]) (fun j a b => ?_)
   rw [h2 j a (by rw [← h1]; exact a)]; exact ih j _ b
 | junk v => exact .junk v
def Blk.fg (id s : Nat) (zs : List AV) : Blk → Blk
 | .g s' xs => .g s' (fgL id s zs xs)
 | .b cs => .b cs
 | .i ns => .i ns
 | .o x => .o x
theorem odd_fg {id s : Nat} {zs : List AV} {b : Blk} : (b.fg id s zs).odd = b.odd := by cases b <;> rfl
def fgH (id s : Nat) (zs : List AV) : Heap → Heap
 | [] => []
 | p :: r => bif p.1 == id then fgH id s zs r else (p.1,p.2.fg id s zs) :: fgH id s zs r
theorem leaves_fg (id s : Nat) (zs : List AV) (x : AV) : (x.fg id s zs).leaves = fgL id s zs x.leaves := by
 cases x <;> first | rfl | skip
 simp only [AV.fg,AV.leaves,fgL]
 cases (_ == id) with
 | false => rfl
 | true =>
   simp only [cond_true]
   cases (_ && _ : Bool) <;> rfl
theorem fgL_append (id s : Nat) (zs : List AV) : ∀ (xs ys : List AV),fgL id s zs (xs ++ ys) = fgL id s zs xs ++ fgL id s zs ys
 | [],_ => rfl
 | x :: xs,ys => by simp [fgL,fgL_append id s zs xs ys]
theorem flat_fg (id s : Nat) (zs : List AV) (b : Blk) : (b.fg id s zs).flat = fgL id s zs b.flat := by
 cases b with
 | b cs =>
   simp only [Blk.fg,Blk.flat]
   induction cs with
   | nil => rfl
   | cons c r ih => simp only [List.map_cons,fgL,AV.fg]; rw [← ih]
 | o x => rfl
 | i ns =>
   simp only [Blk.fg,Blk.flat]
   induction ns with
   | nil => rfl
   | cons c r ih => simp only [List.map_cons,fgL,AV.fg]; rw [← ih]
 | g s xs =>
   simp only [Blk.fg,Blk.flat]
   induction xs with
   | nil => rfl
   | cons c r ih => simp only [fgL,List.flatMap_cons,fgL_append]; rw [ih,leaves_fg]
theorem ok_fg {id s : Nat} {zs : List AV} {b : Blk} (h : b.ok) : (b.fg id s zs).ok := by
 cases b with
 | g s' xs =>
   obtain ⟨h1,h2⟩ := h
   refine ⟨h1,fun x hx => ?_⟩
   obtain ⟨j,hj,rfl⟩ := List.getElem_of_mem hx
   obtain ⟨h3,h4⟩ := zez id s zs xs
   rw [h4 j hj (by rw [← h3]; exact hj),leaves_fg,(zez id s zs _).1]
   exact h2 _ (List.getElem_mem _)
 | _ => trivial
theorem len_fg {id s : Nat} {zs : List AV} {b : Blk} : (b.fg id s zs).len = b.len := by
 cases b with
 | g s' xs => exact (zez id s zs xs).1
 | _ => rfl
theorem fgH_get {id s : Nat} {zs : List AV} : ∀ {H : Heap} {k : Nat} {b : Blk},look (fgH id s zs H) k = some b → k ≠ id ∧ ∃ c,look H k = some c ∧ b = c.fg id s zs
 | [],k,b,h => by simp [fgH,look] at h
 | p :: r,k,b,h => by
   have e : look (p :: r) k = if p.1 = k then some p.2 else look r k := zak r p.1 k p.2
   unfold fgH at h
   by_cases hp : p.1 = id
   · have : (p.1 == id) = true := by simpa using hp
     rw [this] at h
     obtain ⟨h1,c,h2,h3⟩ := fgH_get h
     exact ⟨h1,c,by rw [e,if_neg (by omega)]; exact h2,h3⟩
   · have : (p.1 == id) = false := by simpa using hp
     rw [this] at h
     have e2 : look ((p.1,p.2.fg id s zs) :: fgH id s zs r) k = if p.1 = k then some (p.2.fg id s zs) else look (fgH id s zs r) k := zak (fgH id s zs r) p.1 k _
     simp only [cond_false] at h
     rw [e2] at h
     split at h
     · rename_i hk
       injection h with h
       exact ⟨by omega,p.2,by rw [e,if_pos hk],h.symm⟩
     · rename_i hk
       obtain ⟨h1,c,h2,h3⟩ := fgH_get h
       exact ⟨h1,c,by rw [e,if_neg hk]; exact h2,h3⟩
theorem slot_fgL {id s : Nat} {zs : List AV} : ∀ (sl : List AV) (t : Nat),slot (fgL id s zs sl) t = (slot sl t).fg id s zs
 | [],t => rfl
 | x :: xs,0 => rfl
 | x :: xs,t + 1 => slot_fgL xs t
theorem rel_fg {w0 : World} {E : Nat → Prop} {B : Bs} {w : World} {loc : Loc} {a : Act} {sl : List AV} {H : Heap} {nx : Nat} {id s : Nat} {zs : List AV} (hB : Base w0 B w loc) (hr : Rel' w0 E loc ⟨sl,H,nx⟩ a w) (hlive : loc.m id ≠ .free) (hblk : BlkR w loc id (.g s zs)) (hcl : closedL zs = true) :
   Base w0 B w (loc.set id .dead) ∧ Rel' w0 E (loc.set id .dead) ⟨fgL id s zs sl,fgH id s zs H,nx⟩ a w := by
 have hor : (loc.m id = .nil ∧ zs = []) ∨ ∃ b,loc.m id = .here b ∧ b < w.heap.size ∧ Lies w loc (.g s zs) b ∧ (∀ k,loc.m k = .here b → k = id) ∧ ¬ loc.bad b := by
   unfold BlkR at hblk
   cases e : loc.m id with
   | free => exact (hlive e).elim
   | dead => rw [e] at hblk; exact hblk.elim
   | nil => rw [e] at hblk; exact .inl ⟨rfl,List.eq_nil_of_length_eq_zero hblk.2⟩
   | here b =>
     rw [e] at hblk
     have h1 := hr.env.lies id b e
     refine .inr ⟨b,rfl,h1.1,hblk.2,fun k hk => hr.env.inj k id b hk e,fun hb => ?_⟩
     have h2 := hr.env.bad b hb
     rcases h1.2 with h3 | h3
     · omega
     · exact h2.2 h3
 have hok : Blk.ok (.g s zs) := by
   unfold BlkR at hblk
   cases e : loc.m id with
   | free => exact (hlive e).elim
   | dead => rw [e] at hblk; exact hblk.elim
   | nil => rw [e] at hblk; exact hblk.1
   | here b => rw [e] at hblk; exact hblk.1
 have hset : ∀ {k c},(loc.set id .dead).m k = .here c → loc.m k = .here c := by
   intro k c h
   by_cases hk : k = id
   · subst hk; rw [Loc.set_same] at h; cases h
   · rwa [Loc.set_other _ _ hk] at h
 refine ⟨⟨hB.1,hB.2.1,fun k hk => ?_⟩,⟨?_,fun t => ?_,?_,⟨hr.env.os,hr.env.tape,hr.env.output,hr.env.size,hr.env.same,fun i j b h1 h2 => hr.env.inj i j b (hset h1) (hset h2),fun i b h1 => hr.env.lies i b (hset h1),hr.env.bad⟩,?_,hr.defers,?_⟩⟩
 · by_cases hne : k = id
   · subst hne; left; rw [Loc.set_same]
   · rw [Loc.set_other _ _ hne]; exact hB.2.2 k hk
 · rw [hr.size]; exact ((zez id s zs sl).1).symm
 · simp only; rw [slot_fgL]; exact fg_R hcl hok hor (hr.slots t)
 · intro k b hk
   obtain ⟨h1,c,h2,rfl⟩ := fgH_get hk
   have h3 := hr.heap k c h2
   unfold BlkR at h3 ⊢
   rw [Loc.set_other _ _ h1]
   split
   · trivial
   · rename_i e; rw [e] at h3; exact h3
   · rename_i e; rw [e] at h3; exact ⟨ok_fg h3.1,by rw [len_fg]; exact h3.2⟩
   · rename_i d e
     rw [e] at h3
     rcases zaw c with ⟨x,hx,rfl⟩ | hodd
     · exact ⟨ok_fg h3.1,.mkO (Thing.move (loc := loc) (fun c _ hM => hM.imp (fun h => h) (fun ⟨k,h⟩ => ⟨k,hset h⟩)) (h3.2.is hx)) rfl⟩
     obtain ⟨cur,el,fz,g1,g2,g3,g4,g5⟩ := h3.2.lies hodd
     have hlen : (c.fg id s zs).flat.length = c.flat.length := by rw [flat_fg,(zez id s zs _).1]
     refine ⟨ok_fg h3.1,.mkC ⟨cur,el,fz,g1,g2,g3,by omega,fun j x y => ?_⟩ (odd_fg.trans hodd)⟩
     have h6 := g5 j (by omega) y
     have e : (c.fg id s zs).flat[j] = (c.flat[j]'(by omega)).fg id s zs := by
       have := (zez id s zs c.flat).2 j (by rw [(zez id s zs _).1]; omega) (by omega)
       rw [← this]
       congr 1
       exact flat_fg id s zs c
     rw [e]
     exact ⟨fg_leaf h6.1,fg_R hcl hok hor h6.2⟩
 · intro k hk
   by_cases hne : k = id
   · exact (hlive (hne ▸ hr.fresh k hk)).elim
   · rw [Loc.set_other _ _ hne]; exact hr.fresh k hk
 · intro k b hk
   obtain ⟨h1,c,h2,rfl⟩ := fgH_get hk
   exact hr.low k c h2
theorem weak_fg {sl : List AV} {H : Heap} {nx : Nat} (id s i : Nat) (zs : List AV) (hl : look H id = some (.g s zs)) (hcl : closedL zs = true) (hi : id ∈ (slot sl i).ids) : Weak ⟨sl,H,nx⟩ ⟨fgL id s zs sl,fgH id s zs H,nx⟩ := by
 rintro w0 E B a w ⟨loc,hB,hr⟩
 obtain ⟨h1,h2⟩ := rel_fg hB hr (zdf _ _ (hr.slots i) hi) (hr.heap id _ hl) hcl
 exact ⟨_,h1,h2⟩
end Ax
end Go.Proofs.Ytgdoekpkeclceaa
namespace Go.Proofs.Ytgdoekpkeclceaa
namespace Ax
section
variable {P : Program}
theorem post_anon {w0 : World} {E : Nat → Prop} {w w' : World} {loc : Loc} {wr : Bool} {H : Heap} {nm : Nat} {x : AV} {v : Value} {o : Obj} (he : Env w0 E w loc) (hh : HR w loc H) (hp : Pushed w w' o) (hx : Ext (fun _ => False) w loc w' loc → R w' loc x v) :
   Post w0 E w loc wr nm x H v w' loc := by
 have hsz : w'.heap.size = w.heap.size + 1 := by rw [hp.heap]; simp
 have hext : Ext (fun _ => False) w loc w' loc :=
   ⟨by omega,fun _ _ _ => rfl,fun _ _ h => h.elim,fun b hb hm => ⟨zba hp hb,hm⟩,fun id b h1 _ => zba hp (he.lies id b h1).1,fun b cur el fz' h2 => ⟨cur,fz',(zba hp (Array.getElem?_eq_some_iff.1 h2).1).trans h2,rfl⟩⟩
 refine ⟨hx hext,fun id b hb => ?_,⟨hp.os.trans he.os,hp.tape.trans he.tape,hp.output.trans he.output,by have := he.size; omega,fun b hb hE => (zba hp (by have := he.size; omega)).trans (he.same b hb hE),he.inj,fun i b hi => by have := he.lies i b hi; exact ⟨by omega,this.2⟩,he.bad⟩,⟨_,hext,fun _ _ h => h⟩,fun _ h h' => (h' h).elim,rfl⟩
 by_cases hfr : loc.m id = .free
 · exact BlkR.free hfr
 · exact (hh id b hb).ext hext (fun h => h) hfr
end
end Ax
end Go.Proofs.Ytgdoekpkeclceaa
namespace Go.Proofs.Ytgdoekpkeclceaa
namespace Ax
open Go.RowKit
def frzS (i : Nat) (q : Prop × List AV × Heap) : Prop × List AV × Heap :=
 match slot q.2.1 i with
 | .ms id _ _ _ => match look q.2.2 id with
   | some (.b bs) => (q.1,fzL id bs q.2.1,fzH id bs q.2.2)
   | some (.g s xs) => (q.1 ∧ closedL xs = true,fgL id s xs q.2.1,fgH id s xs q.2.2)
   | some (.i ns) => (q.1,fiL id ns q.2.1,fiH id ns q.2.2)
   | _ => q
 | _ => q
def frzL : List Nat → Prop × List AV × Heap → Prop × List AV × Heap
 | [],q => q
 | i :: r,q => frzL r (frzS i q)
def frzK (l : List Nat) (sl : List AV) (H : Heap) (K : List AV → Heap → Prop) : Prop := (frzL l (True,sl,H)).1 ∧ K (frzL l (True,sl,H)).2.1 (frzL l (True,sl,H)).2.2
theorem frzS_sound {i : Nat} {q : Prop × List AV × Heap} {nx : Nat} (h : (frzS i q).1) : q.1 ∧ Weak ⟨q.2.1,q.2.2,nx⟩ ⟨(frzS i q).2.1,(frzS i q).2.2,nx⟩ := by
 unfold frzS at h ⊢
 split at h
 · rename_i id s off len hs
   split at h
   · rename_i bs hl
     exact ⟨h,weak_fz id i bs hl (by rw [hs]; simp [AV.ids])⟩
   · rename_i s' xs hl
     exact ⟨h.1,weak_fg id s' i xs hl h.2 (by rw [hs]; simp [AV.ids])⟩
   · rename_i ns hl
     exact ⟨h,weak_fi id i ns hl (by rw [hs]; simp [AV.ids])⟩
   · exact ⟨h,Weak.refl _⟩
 · exact ⟨h,Weak.refl _⟩
theorem frzL_sound {nx : Nat} : ∀ (l : List Nat) (q : Prop × List AV × Heap),(frzL l q).1 → q.1 ∧ Weak ⟨q.2.1,q.2.2,nx⟩ ⟨(frzL l q).2.1,(frzL l q).2.2,nx⟩
 | [],q,h => ⟨h,Weak.refl _⟩
 | i :: r,q,h => by
   obtain ⟨h1,h2⟩ := frzL_sound (nx := nx) r _ h
   obtain ⟨h3,h4⟩ := frzS_sound (nx := nx) h1
   exact ⟨h3,h4.trans h2⟩
theorem frzK_sound {nx : Nat} (l : List Nat) (sl : List AV) (H : Heap) (K : List AV → Heap → Prop) (h : frzK l sl H K) : ∃ sl' H',Weak ⟨sl,H,nx⟩ ⟨sl',H',nx⟩ ∧ K sl' H' :=
 ⟨_,_,(frzL_sound l _ h.1).2,h.2⟩
abbrev KPlan := Nat → Option (List Nat × Option Nat)
open Classical in
theorem sound_genK {P : Program} {T : zaa} {S : zae} (hT : TOk P T) (hS : Fns P S) {f : FuncId} {fn : Func} {c : Code} (hf : P.funcs[f]? = some fn) (hb : fn.body = some c) {spec : zam} {Qp : List AV → List Blk → Exit → ASt → Prop}
   (hqp : ∀ xs pins e σ,Qp xs pins e σ → ∃ σ',Weak σ σ' ∧ Ends T fn.results.toList pins (spec xs pins) e σ')
   (h : ∀ xs pins,(spec xs pins).p → closedB pins = true → pins.length ≤ 4 ∧ ∀ w0 E B a w,Rel w0 E B ⟨xs ++ List.replicate (fn.ntmps - xs.length) .junk,pinHeap 0 pins,4⟩ a w → c.wp P (Low w0 E B (Qp xs pins)) a w) : zbe P f spec := by
 intro xs pins hp hcl w bad pb vs hlen hnd hbad hlies hxl hx
 obtain ⟨hp4,h⟩ := h xs pins hp hcl
 refine calls_of_wp hf hb ?_
 have hrel : Rel w (· ∈ pb) ⟨bad,pb⟩ ⟨xs ++ List.replicate (fn.ntmps - xs.length) .junk,pinHeap 0 pins,4⟩ { tmps := vs.toArray ++ Array.replicate (fn.ntmps - vs.toArray.size) undef,defers := [] } w := by
   refine ⟨zaq pb bad,⟨⟨rfl,fun k hk cur e fz hh => ⟨cur,fz,hh,rfl⟩⟩,by simp only; omega,fun k hk => .inr ⟨by simp [zaq,List.getElem?_eq_getElem hk],fun cur e fz hh => ⟨cur,fz,hh,rfl⟩⟩⟩,?_⟩
   refine ⟨by simp [hxl],fun t => ?_,?_,?_,?_,rfl,fun id b hl => ?_⟩
   · simp only
     rw [zcb]
     by_cases ht : t < xs.length
     · have e1 : (xs ++ List.replicate (fn.ntmps - xs.length) AV.junk).getD t .junk = xs[t] := by simp [List.getElem?_append_left,ht]
       have e2 : (vs.toArray ++ Array.replicate (fn.ntmps - vs.toArray.size) undef).getD t undef = vs[t]'(by omega) := by
         have : t < vs.length := by omega
         simp [Array.getD_eq_getD_getElem?,Array.getElem?_append,this]
       rw [e1,e2]
       exact hx t ht _
     · have e1 : (xs ++ List.replicate (fn.ntmps - xs.length) AV.junk).getD t .junk = .junk := by
         rw [List.getD_eq_getElem?_getD,List.getElem?_append_right (by omega),List.getElem?_replicate]
         split <;> rfl
       rw [e1]; exact .junk _
   · intro id b hl
     obtain ⟨j,hj,rfl,rfl⟩ := zbc pins 0 id b hl
     have hj' : j < pb.length := by omega
     unfold BlkR
     have : (zaq pb bad).m (0 + j) = .here pb[j] := by simp [zaq,List.getElem?_eq_getElem hj']
     rw [this]
     exact hlies j hj hj'
   · refine ⟨rfl,rfl,rfl,Nat.le_refl _,fun _ _ _ => rfl,?_,?_,?_⟩
     · intro i j b hi hj
       obtain ⟨h1,h2⟩ := zbp hi
       obtain ⟨h3,h4⟩ := zbp hj
       exact zbr hnd (h2.trans h4.symm)
     · intro i b hi
       obtain ⟨h1,h2⟩ := zbp hi
       subst h2
       refine ⟨?_,.inr (List.getElem_mem h1)⟩
       obtain ⟨ob,hh⟩ := lies_live2 (hlies i (by omega) h1).2
       rcases Nat.lt_or_ge pb[i] w.heap.size with h' | h'
       · exact h'
       · rw [Array.getElem?_eq_none h'] at hh; cases hh
     · exact fun b hb => hbad b hb
   · intro id hid
     simp only at hid
     have : pb[id]? = none := List.getElem?_eq_none (by omega)
     simp [zaq,this]
   · obtain ⟨j,hj,rfl,_⟩ := zbc pins 0 id b hl
     simp; omega
 refine wp_mono (h _ _ _ _ w hrel) ?_
 have main : ∀ a w' σ,Rel w (· ∈ pb) ⟨bad,pb⟩ σ a w' → (rvals T σ.H σ.sl fn.results.toList).1 ∧ EndsX pins (spec xs pins) (rone (rvals T σ.H σ.sl fn.results.toList).2) σ →
     a.defers = [] ∧ ∃ v,(results fn a.tmps).run P w' = .ok v w' ∧ ∃ v' loc',Ending.returned v = .returned v' ∧ Gives w bad pb (spec xs pins) v' w' loc' := by
   rintro a w' σ ⟨loc,hB,hr⟩ ⟨hrv,hnodup,hpin,hbl,hren⟩
   obtain ⟨v,hv,hR⟩ := results_R (P := P) (fn := fn) hT hr.heap hr.slots hrv
   refine ⟨hr.defers,v,hv,v,?_⟩
   generalize rone (rvals T σ.H σ.sl fn.results.toList).2 = x at hnodup hpin hbl hren hR
   have hnd' := zdi hnodup
   obtain ⟨hids1,hids2⟩ := newIds_mem x.ids (upTo 0 pins)
   obtain ⟨hu1,hu2⟩ := upTo_get pins 0
   generalize hids : newIds (upTo 0 pins) x.ids = ids at hnodup hpin hbl hren hnd' hids1 hids2
   obtain ⟨hpl,hpc,hpg⟩ := zec hpin
   rw [hbl] at hpl hpc hpg
   obtain ⟨t,rfl⟩ := hids1
   have hm : pins.length ≤ (upTo 0 pins ++ t).length := by simp [hu1]
   have hold : ∀ k,(hk : k < pins.length) → (upTo 0 pins ++ t)[k]'(by omega) = k := by
     intro k hk
     rw [List.getElem_append_left (by omega)]
     have := hu2 k (by omega)
     omega
   -- every one of the names is alive
   have hlive : ∀ (k : Nat) (hk : k < (upTo 0 pins ++ t).length),loc.m (upTo 0 pins ++ t)[k] ≠ .free := by
     intro k hk
     rcases hids2 _ (List.getElem_mem hk) with hi | hi
     · obtain ⟨j,hj,he⟩ := List.getElem_of_mem hi
       rw [← he,hu2 j hj]
       have hj' : j < pb.length := by omega
       rcases hB.2.2 j hj' with h1 | ⟨h1,_⟩
       · rw [Nat.zero_add,h1]; simp
       · rw [Nat.zero_add,h1]; simp
     · exact zdf x v hR hi
   have hblk : ∀ (k : Nat) (hk : k < (upTo 0 pins ++ t).length) (hk' : k < (spec xs pins).bl.length),BlkR w' loc (upTo 0 pins ++ t)[k] (spec xs pins).bl[k] := by
     intro k hk hk'
     refine hr.heap _ _ ?_
     rw [hpg k hk,List.getElem?_eq_getElem hk']
   have hdead : ∀ (k : Nat) (hk : k < (upTo 0 pins ++ t).length),loc.m (upTo 0 pins ++ t)[k] ≠ .dead := by
     intro k hk e
     have := hblk k hk (by omega)
     unfold BlkR at this
     rw [e] at this
     exact this
   let g : Nat → Nat := gOf (upTo 0 pins ++ t) σ.nx
   have hgo : ∀ k,(hk : k < (upTo 0 pins ++ t).length) → g k = (upTo 0 pins ++ t)[k] := fun k hk => zdp hk
   have hgn : ∀ k,(upTo 0 pins ++ t).length ≤ k → loc.m (g k) = .free := by
     intro k hk
     refine hr.fresh _ ?_
     show σ.nx ≤ gOf _ σ.nx k
     rw [zdb hk]; omega
   let loc' : Loc := { m := fun k => loc.m (g k),bad := loc.bad }
   have hlt : ∀ i b,loc'.m i = .here b → i < (upTo 0 pins ++ t).length := by
     intro i b hi
     rcases Nat.lt_or_ge i (upTo 0 pins ++ t).length with h' | h'
     · exact h'
     · have : loc'.m i = .free := hgn i h'
       rw [this] at hi; cases hi
   have hinj : ∀ i j b,loc'.m i = .here b → loc'.m j = .here b → i = j := by
     intro i j b hi hj
     have h1 := hlt i b hi
     have h2 := hlt j b hj
     have h3 : g i = g j := hr.env.inj (g i) (g j) b hi hj
     rw [hgo i h1,hgo j h2] at h3
     exact zbr hnd' h3
   have hpb : ∀ (k : Nat) (hk : k < pb.length),loc'.m k = .here pb[k] ∧ ∀ cur e fz,w.heap[pb[k]]? = some (.cells cur e fz) → ∃ cur' fz',w'.heap[pb[k]]? = some (.cells cur' e fz') ∧ cur'.size = cur.size := by
     intro k hk
     have hk1 : k < pins.length := by omega
     have e : loc'.m k = loc.m k := by
       show loc.m (g k) = loc.m k
       rw [hgo k (by omega),hold k hk1]
     rcases hB.2.2 k hk with h1 | ⟨h1,h2⟩
     · have := hdead k (by omega)
       rw [hold k hk1] at this
       exact (this h1).elim
     · exact ⟨e.trans h1,h2⟩
   refine ⟨loc',rfl,?_⟩
   refine ⟨unren (loc2 := loc') (g := g) (fun _ => rfl) rfl hR _ hren,hB.1.1,?_,fun k hk => (hpb k hk).1,?_,?_,hinj,?_⟩
   · intro k hk
     have hk' : k < (upTo 0 pins ++ t).length := by omega
     have e : loc'.m k = loc.m (upTo 0 pins ++ t)[k] := by show loc.m (g k) = _; rw [hgo k hk']
     refine ⟨?_,by rw [e]; exact hlive k hk',by rw [e]; exact hdead k hk'⟩
     have hb := hblk k hk' hk
     unfold BlkR at hb ⊢
     rw [e]
     split
     · trivial
     · rename_i e'; rw [e'] at hb; exact hb
     · rename_i e'; rw [e'] at hb; exact hb
     · rename_i b e'
       rw [e'] at hb
       refine ⟨hb.1,zeu hb.2 (zfa hpc k hk) (.inr ?_)⟩
       rintro c _ (h | ⟨i,h⟩)
       · exact .inl h
       · exact .inr ⟨g i,h⟩
   · intro k b hk hkb
     have := hr.env.lies (g k) b hkb
     refine ⟨?_,this.1⟩
     rcases this.2 with h' | h'
     · exact h'
     · obtain ⟨j,hj,he⟩ := List.getElem_of_mem h'
       have h1 := (hpb j hj).1
       rw [he] at h1
       have := hinj k j b hkb h1
       omega
   · intro k hk
     exact hgn k (by omega)
   · refine ⟨hr.env.os,hr.env.tape,hr.env.output,hr.env.size,hr.env.same,?_⟩
     rintro b cur e fz hb hh
     obtain ⟨j,hj,rfl⟩ := List.getElem_of_mem hb
     exact (hpb j hj).2 cur e fz hh
 rintro e a w' ⟨σ0,hr0,hq0⟩
 obtain ⟨σ,hwk,hq⟩ := hqp xs pins e σ0 hq0
 have hr := hwk _ _ _ _ _ hr0
 cases e with
 | normal => exact main a w' σ hr hq
 | ret => exact main a w' σ hr hq
 | _ => exact hq.elim
section rules
variable {S : zae} {T : zaa} {pl : KPlan} {Q : Exit → ASt → Prop} {σ : ASt}
variable {ops r : List Oper} {o : Oper} {nm k : Nat} {sl : List AV} {H : Heap} {Q' : List AV → Heap → Prop}
theorem frzK_def {l : List Nat} {K : List AV → Heap → Prop} : frzK l sl H K = ((frzL l (True,sl,H)).1 ∧ K (frzL l (True,sl,H)).2.1 (frzL l (True,sl,H)).2.2) := rfl
end rules
end Ax
end Go.Proofs.Ytgdoekpkeclceaa
namespace Go.Proofs.Ytgdoekpkeclceaa
open Ax
open Ax
attribute [go_sem] Blk.fz Blk.fi Blk.fg
attribute [go_sem ↓] frzK_def
end Go.Proofs.Ytgdoekpkeclceaa
namespace Go.Proofs.Ytgdoekpkeclceaa
namespace Ax
def gone : Blk := .g 0 [.ms 0 0 0 0]
def Blk.isGone : Blk → Bool
 | .g s _ => s == 0
 | _ => false
mutual
def AV.sids : AV → List Nat
 | .agg xs => sidsL xs
 | .tup xs => sidsL xs
 | .fn _ cs => sidsL cs
 | .ms id _ _ len => bif decide (0 < len) then [id] else []
 | .rf id _ _ _ => [id]
 | _ => []
def sidsL : List AV → List Nat
 | [] => []
 | x :: xs => x.sids ++ sidsL xs
end
def Blk.idsB (b : Blk) : List Nat := bif b.closed then [] else match b with
 | .g _ xs => idsL xs
 | _ => []
def Blk.sidsB (b : Blk) : List Nat := bif b.closed then [] else match b with
 | .g _ xs => sidsL xs
 | _ => []
def Blk.renB (g : Nat → Nat) (b : Blk) : Blk := bif b.closed then b else b.ren g
def reach (H : Heap) : Nat → List Nat → List Nat → List Nat
 | 0,acc,_ => acc
 | _ + 1,acc,[] => acc
 | n + 1,acc,id :: r => bif acc.contains id then reach H n acc r else match look H id with
   | some b => reach H n (acc ++ [id]) (r ++ b.idsB)
   | none => acc
def walk (H : Heap) : List Nat → List Nat → Bool
 | _,[] => true
 | good,id :: r => good.contains id && match look H id with
   | some b => walk H (good ++ b.sidsB) r
   | none => false
def allIn : List Nat → List Nat → Bool
 | [],_ => true
 | id :: r,ids => ids.contains id && allIn r ids
def pinsIn (H : Heap) (ids : List Nat) : List Nat → Bool
 | [] => true
 | id :: r => (match look H id with
   | some b => allIn b.idsB ids
   | none => false) && pinsIn H ids r
def pinsR (H : Heap) (g : Nat → Nat) : List Nat → List Blk
 | [] => []
 | id :: r => match look H id with
   | some b => b.renB g :: pinsR H g r
   | none => []
def backO (g : Nat → Nat) (H : Heap) : Nat → List Blk → Heap
 | _,[] => H
 | k,b :: r => bif b.isGone then drop (backO g H (k + 1) r) (g k) else put (backO g H (k + 1) r) (g k) (b.renB g)
def openOut (nm : Nat) (ids : List Nat) (args : List AV) (H : Heap) (r : Res) : Out :=
 ⟨(nodup ids = true ∧ walk H (sidsL args) ids = true ∧ allIn (idsL args) ids = true ∧ pinsIn H ids ids = true) ∧ r.p ∧ ids.length ≤ r.bl.length ∧ r.bl.length ≤ ids.length + 8,
   r.x.ren (gOf ids nm),backO (gOf ids nm) H 0 r.bl⟩
def idxOf (ids : List Nat) (id : Nat) : Nat := idx id ids
def aOpen (SO : zae) (nm : Nat) (f : FuncId) (args : List AV) (H : Heap) : Out :=
 match SO f with
 | some spec => openOut nm (reach H 12 [] (idsL args)) args H (spec (renL (idxOf (reach H 12 [] (idsL args))) args) (pinsR H (idxOf (reach H 12 [] (idsL args))) (reach H 12 [] (idsL args))))
 | none => bad
structure GivesO (w : World) (bad : Nat → Prop) (pb : List Nat) (q : Res) (v : Value) (w' : World) (loc' : Loc) : Prop where
 r : R w' loc' q.x v
 bad : loc'.bad = bad
 bl : ∀ (k : Nat) (h : k < q.bl.length),(q.bl[k].isGone = true ∧ loc'.m k = .dead) ∨ (BlkR w' loc' k q.bl[k] ∧ loc'.m k ≠ .free ∧ loc'.m k ≠ .dead)
 old : ∀ (k : Nat) (h : k < pb.length),loc'.m k = .here pb[k] ∨ loc'.m k = .dead
 new : ∀ k b,pb.length ≤ k → loc'.m k = .here b → (w.heap.size ≤ b ∨ b ∈ pb) ∧ b < w'.heap.size
 none : ∀ k,q.bl.length ≤ k → loc'.m k = .free
 inj : ∀ i j b,loc'.m i = .here b → loc'.m j = .here b → i = j
 fram : Fram w w' (· ∈ pb)
def SoundO (P : Program) (f : FuncId) (spec : zam) : Prop :=
 ∀ (xs : List AV) (pins : List Blk),(spec xs pins).p →
 ∀ (w : World) (bad : Nat → Prop) (pb : List Nat) (vs : List Value),pb.length = pins.length → pb.Nodup → (∀ b,bad b → b < w.heap.size ∧ ¬ b ∈ pb) →
   (∀ (k : Nat) (h : k < pins.length) (h' : k < pb.length),pins[k].ok ∧ Lies w (zaq pb bad) pins[k] pb[k]) →
   xs.length = vs.length → (∀ (j : Nat) (h : j < xs.length) (h' : j < vs.length),R w (zaq pb bad) xs[j] vs[j]) →
   Calls P f vs.toArray w fun e w' => ∃ v loc',e = .returned v ∧ GivesO w bad pb (spec xs pins) v w' loc'
mutual
theorem closed_ids : ∀ (x : AV),x.closed = true → x.ids = []
 | .agg xs,h => closedL_ids xs h
 | .tup xs,h => closedL_ids xs h
 | .fn f xs,h => closedL_ids xs h
 | .ms _ _ _ _,h => by simp [AV.closed] at h
 | .rf _ _ _ _,h => by simp [AV.closed] at h
 | .w _,_ => rfl
 | .str _,_ => rfl
 | .sb _ _,_ => rfl
 | .si _ _,_ => rfl
 | .sg _ _ _,_ => rfl
 | .cp _,_ => rfl
 | .junk,_ => rfl
theorem closedL_ids : ∀ (xs : List AV),closedL xs = true → idsL xs = []
 | [],_ => rfl
 | x :: xs,h => by
   simp only [closedL,Bool.and_eq_true] at h
   simp only [idsL,closed_ids x h.1,closedL_ids xs h.2,List.append_nil]
end
theorem idsL_mem {id : Nat} : ∀ {xs : List AV},id ∈ idsL xs ↔ ∃ x ∈ xs,id ∈ x.ids
 | [] => by simp [idsL]
 | x :: xs => by
     simp only [idsL,List.mem_append,List.mem_cons,idsL_mem (xs := xs)]; constructor
     · rintro (h | ⟨y,h1,h2⟩)
       · exact ⟨x,.inl rfl,h⟩
       · exact ⟨y,.inr h1,h2⟩
     · rintro ⟨y,rfl | h1,h2⟩
       · exact .inl h2
       · exact .inr ⟨y,h1,h2⟩
theorem sidsL_mem {id : Nat} : ∀ {xs : List AV},id ∈ sidsL xs ↔ ∃ x ∈ xs,id ∈ x.sids
 | [] => by simp [sidsL]
 | x :: xs => by
     simp only [sidsL,List.mem_append,List.mem_cons,sidsL_mem (xs := xs)]; constructor
     · rintro (h | ⟨y,h1,h2⟩)
       · exact ⟨x,.inl rfl,h⟩
       · exact ⟨y,.inr h1,h2⟩
     · rintro ⟨y,rfl | h1,h2⟩
       · exact .inl h2
       · exact .inr ⟨y,h1,h2⟩
theorem leaves_idsO {id : Nat} {x y : AV} (hy : y ∈ x.leaves) (h : id ∈ y.ids) : id ∈ x.ids := by
 cases x with
 | agg xs => exact idsL_mem.2 ⟨y,hy,h⟩
 | _ => simp only [AV.leaves,List.mem_singleton] at hy; subst hy; exact h
theorem ids_leaves {id : Nat} {x : AV} (h : id ∈ x.ids) : ∃ y ∈ x.leaves,id ∈ y.ids := by
 cases x with
 | agg xs => exact idsL_mem.1 h
 | _ => exact ⟨_,by simp [AV.leaves],h⟩
theorem sids_leaves {id : Nat} {x : AV} (h : id ∈ x.sids) : ∃ y ∈ x.leaves,id ∈ y.sids := by
 cases x with
 | agg xs => exact sidsL_mem.1 h
 | _ => exact ⟨_,by simp [AV.leaves],h⟩
theorem ren_on {w : World} {loc loc2 : Loc} {g : Nat → Nat} (hM : ∀ b,b < w.heap.size → Mut loc2 b → Mut loc b) {x : AV} {v : Value} (h : R w loc x v) : (∀ id ∈ x.ids,loc2.m (g id) = loc.m id) → R w loc2 (x.ren g) v := by
 induction h with
 | w v h => intro _; exact .w v h
 | str bs => intro _; exact .str bs
 | agg xs cs hl hx _ ih =>
   intro hg
   obtain ⟨h1,h2⟩ := zas g xs
   refine .agg _ cs (by rw [h1,hl]) (fun j hj => ?_) (fun j a b => ?_)
   · rw [h2 j hj (by rw [← h1]; exact hj)]; exact ren_leaf g (hx j _)
   · rw [h2 j a (by rw [← h1]; exact a)]
     exact ih j _ b (fun id hid => hg id (idsL_mem.2 ⟨_,List.getElem_mem _,hid⟩))
 | tup xs cs hl _ ih =>
   intro hg
   obtain ⟨h1,h2⟩ := zas g xs
   refine .tup _ cs (by rw [h1,hl]) (fun j a b => ?_)
   rw [h2 j a (by rw [← h1]; exact a)]
   exact ih j _ b (fun id hid => hg id (idsL_mem.2 ⟨_,List.getElem_mem _,hid⟩))
 | sb bs full a cap hd hc => intro _; exact .sb bs full a cap hd (hc.move hM)
 | si ns full a cap hd hc => intro _; exact .si ns full a cap hd (hc.move hM)
 | sg s xs full a cap cs hd hs hc hl hx h ih => intro _; exact (R.sg s xs full a cap cs hd hs hc hl hx h).move hM rfl
 | cp ls a cs hc hn hl hx h ih => intro _; exact (R.cp ls a cs hc hn hl hx h).move hM rfl
 | ms id s off len v h =>
   intro hg
   refine .ms _ _ _ _ _ ?_
   unfold Owns at h ⊢
   rw [hg id (by simp [AV.ids])]; exact h
 | rf id s i f v h =>
   intro hg
   refine .rf _ _ _ _ _ ?_
   unfold Points at h ⊢
   rw [hg id (by simp [AV.ids])]; exact h
 | fn f caps cs hl _ ih =>
   intro hg
   obtain ⟨h1,h2⟩ := zas g caps
   refine .fn f _ cs (by rw [h1,hl]) (fun j a b => ?_)
   rw [h2 j a (by rw [← h1]; exact a)]
   exact ih j _ b (fun id hid => hg id (idsL_mem.2 ⟨_,List.getElem_mem _,hid⟩))
 | junk v => intro _; exact .junk v
theorem flat_idsO {blk : Blk} (hc : blk.closed = false) {id : Nat} : (∃ y ∈ blk.flat,id ∈ y.ids) ↔ id ∈ blk.idsB := by
 cases blk with
 | o x => simp [Blk.flat,Blk.idsB,hc]
 | b bs => simp [Blk.closed] at hc
 | i ns => simp [Blk.closed] at hc
 | g s xs =>
   simp only [Blk.idsB,hc,cond_false]
   constructor
   · rintro ⟨y,hy,h⟩
     obtain ⟨x,hx,hxl⟩ := List.mem_flatMap.1 hy
     exact idsL_mem.2 ⟨x,hx,leaves_idsO hxl h⟩
   · intro h
     obtain ⟨x,hx,h⟩ := idsL_mem.1 h
     obtain ⟨y,hy,h⟩ := ids_leaves h
     exact ⟨y,List.mem_flatMap.2 ⟨x,hx,hy⟩,h⟩
theorem flat_odd {blk : Blk} {y : AV} (h : y ∈ blk.flat) : blk.odd = none := by
 cases blk with
 | o x => simp [Blk.flat] at h
 | _ => rfl
theorem lies_renB {w : World} {loc loc2 : Loc} {g : Nat → Nat} {blk : Blk} {b : Nat} (hM : ∀ b,b < w.heap.size → Mut loc2 b → Mut loc b) (hg : ∀ id ∈ blk.idsB,loc2.m (g id) = loc.m id) (h : Lies w loc blk b) : Lies w loc2 (blk.renB g) b := by
 unfold Blk.renB
 cases hc : blk.closed with
 | true => exact zeu h hc (.inr hM)
 | false =>
   simp only [cond_false]
   rcases zaw blk with ⟨x,hx,rfl⟩ | hodd
   · exact .mkO (Thing.move hM (h.is hx)) hx
   obtain ⟨cur,e,fz,h1,h2,h3,h4,h5⟩ := h.lies hodd
   have hl : (blk.ren g).flat.length = blk.flat.length := by rw [flat_ren,(zas g _).1]
   refine .mkC ⟨cur,e,fz,h1,h2,h3,by omega,fun j a c => ?_⟩ (odd_ren.trans hodd)
   have h6 := h5 j (by omega) c
   have e : (blk.ren g).flat[j] = (blk.flat[j]'(by omega)).ren g := by
     have := (zas g blk.flat).2 j (by rw [(zas g _).1]; omega) (by omega)
     rw [← this]
     congr 1
     exact flat_ren g blk
   rw [e,ren_leaf_eq]
   exact ⟨h6.1,ren_on hM h6.2 (fun id hid => hg id ((flat_idsO hc).1 ⟨_,List.getElem_mem _,hid⟩))⟩
theorem ok_renB {g : Nat → Nat} {b : Blk} (h : b.ok) : (b.renB g).ok := by
 unfold Blk.renB
 cases b.closed with
 | true => exact h
 | false =>
   simp only [cond_false]
   cases b with
   | g s xs =>
     obtain ⟨h1,h2⟩ := h
     refine ⟨h1,fun x hx => ?_⟩
     obtain ⟨j,hj,rfl⟩ := List.getElem_of_mem hx
     obtain ⟨h3,h4⟩ := zas g xs
     rw [h4 j hj (by rw [← h3]; exact hj),leaves_ren,(zas g _).1]
     exact h2 _ (List.getElem_mem _)
   | _ => trivial
theorem len_renB {g : Nat → Nat} {b : Blk} : (b.renB g).len = b.len := by
 unfold Blk.renB
 cases b.closed with
 | true => rfl
 | false => exact len_ren
def Firm (loc : Loc) (id : Nat) : Prop := loc.m id ≠ .free ∧ loc.m id ≠ .nil
mutual
theorem sids_firm {w : World} {loc : Loc} {id : Nat} : ∀ (x : AV) (v : Value),R w loc x v → id ∈ x.sids → Firm loc id
 | .agg xs,v,h,hm => by
   cases h with
   | agg _ cs hl hx h => exact sidsL_firm xs cs hl h hm
 | .tup xs,v,h,hm => by
   cases h with
   | tup _ cs hl h => exact sidsL_firm xs cs hl h hm
 | .fn f xs,v,h,hm => by
   cases h with
   | fn _ _ cs hl h => exact sidsL_firm xs cs hl h hm
 | .ms k s off len,v,h,hm => by
   simp only [AV.sids] at hm
   by_cases h0 : 0 < len
   · rw [decide_eq_true h0] at hm
     obtain rfl : id = k := by simpa using hm
     cases h with
     | ms _ _ _ _ _ h =>
       refine ⟨fun e => by simp [Owns,e] at h,fun e => ?_⟩
       simp only [Owns,e] at h
       omega
   · rw [decide_eq_false h0] at hm; simp at hm
 | .rf k s i f,v,h,hm => by
   obtain rfl : id = k := by simpa [AV.sids] using hm
   cases h with
   | rf _ _ _ _ _ h => exact ⟨fun e => by simp [Points,e] at h,fun e => by simp [Points,e] at h⟩
 | .w _,_,_,hm => by simp [AV.sids] at hm
 | .str _,_,_,hm => by simp [AV.sids] at hm
 | .sb _ _,_,_,hm => by simp [AV.sids] at hm
 | .si _ _,_,_,hm => by simp [AV.sids] at hm
 | .sg _ _ _,_,_,hm => by simp [AV.sids] at hm
 | .cp _,_,_,hm => by simp [AV.sids] at hm
 | .junk,_,_,hm => by simp [AV.sids] at hm
theorem sidsL_firm {w : World} {loc : Loc} {id : Nat} : ∀ (xs : List AV) (vs : List Value),xs.length = vs.length → (∀ (j : Nat) (h : j < xs.length) (h' : j < vs.length),R w loc xs[j] vs[j]) → id ∈ sidsL xs → Firm loc id
 | [],_,_,_,hm => by simp [sidsL] at hm
 | x :: xs,[],hl,_,_ => by simp at hl
 | x :: xs,v :: vs,hl,h,hm => by
   simp only [sidsL,List.mem_append] at hm
   rcases hm with hm | hm
   · exact sids_firm x v (h 0 (by simp) (by simp)) hm
   · exact sidsL_firm xs vs (by simpa using hl) (fun j a b => h (j + 1) (by simpa using a) (by simpa using b)) hm
end
theorem walk_live {w : World} {loc : Loc} {H : Heap} (hh : HR w loc H) : ∀ (ids good : List Nat),walk H good ids = true → (∀ id ∈ good,Firm loc id) → ∀ id ∈ ids,∃ b blk,loc.m id = .here b ∧ look H id = some blk ∧ blk.ok ∧ Lies w loc blk b
 | [],_,_,_,id,hid => by simp at hid
 | k :: r,good,hw,hg,id,hid => by
   simp only [walk,Bool.and_eq_true] at hw
   obtain ⟨h1,h2⟩ := hw
   have hk : k ∈ good := List.contains_iff_mem.1 h1
   cases hl : look H k with
   | none => simp [hl] at h2
   | some blk =>
     simp only [hl] at h2
     obtain ⟨hf,hn⟩ := hg k hk
     obtain ⟨hok,⟨e,_⟩ | ⟨b,hb,hlies⟩⟩ := hh.get hl hf
     · exact (hn e).elim
     · rcases List.mem_cons.1 hid with rfl | hid
       · exact ⟨b,blk,hb,hl,hok,hlies⟩
       · refine walk_live hh r _ h2 (fun id' hid' => ?_) id hid
         rcases List.mem_append.1 hid' with h | h
         · exact hg id' h
         · unfold Blk.sidsB at h
           cases hc : blk.closed with
           | true => rw [hc] at h; simp at h
           | false =>
             rw [hc] at h
             simp only [cond_false] at h
             cases blk with
             | o _ => simp at h
             | b _ => simp at h
             | i _ => simp at h
             | g s xs =>
               simp only at h
               obtain ⟨x,hx,h⟩ := sidsL_mem.1 h
               obtain ⟨y,hy,h⟩ := sids_leaves h
               have hyf : y ∈ (Blk.g s xs).flat := List.mem_flatMap.2 ⟨x,hx,hy⟩
               obtain ⟨j,hj,rfl⟩ := List.getElem_of_mem hyf
               obtain ⟨cur,e,fz,_,_,_,q4,q5⟩ := hlies.lies
               exact sids_firm _ _ (q5 j hj (by omega)).2 h
theorem allIn_mem {ids : List Nat} : ∀ {l : List Nat},allIn l ids = true → ∀ id ∈ l,id ∈ ids
 | [],_,id,h => by simp at h
 | k :: r,hl,id,h => by
   simp only [allIn,Bool.and_eq_true] at hl
   rcases List.mem_cons.1 h with rfl | h
   · exact List.contains_iff_mem.1 hl.1
   · exact allIn_mem hl.2 id h
theorem pinsIn_mem {H : Heap} {ids : List Nat} : ∀ {l : List Nat},pinsIn H ids l = true → ∀ id ∈ l,∀ b,look H id = some b → ∀ k ∈ b.idsB,k ∈ ids
 | [],_,id,h => by simp at h
 | i :: r,hl,id,h => by
   simp only [pinsIn,Bool.and_eq_true] at hl
   rcases List.mem_cons.1 h with rfl | h
   · intro b hb k hk
     rw [hb] at hl
     exact allIn_mem hl.1 k hk
   · exact pinsIn_mem hl.2 id h
theorem pinsR_get {H : Heap} {g : Nat → Nat} : ∀ {ids : List Nat},(∀ id ∈ ids,look H id ≠ none) → (pinsR H g ids).length = ids.length ∧ ∀ (k : Nat) (h : k < ids.length) (h' : k < (pinsR H g ids).length) (b : Blk),look H ids[k] = some b → (pinsR H g ids)[k] = b.renB g
 | [],_ => ⟨rfl,fun k h => by simp at h⟩
 | id :: r,hn => by
   obtain ⟨h1,h2⟩ := pinsR_get (g := g) (fun i hi => hn i (List.mem_cons_of_mem _ hi) : ∀ i ∈ r,look H i ≠ none)
   cases hl : look H id with
   | none => exact (hn id (by simp) hl).elim
   | some b =>
     have e : pinsR H g (id :: r) = b.renB g :: pinsR H g r := by simp [pinsR,hl]
     rw [e]
     refine ⟨by simp [h1],fun k h h' c hc => ?_⟩
     cases k with
     | zero => simp only [List.getElem_cons_zero] at hc ⊢; rw [hl] at hc; injection hc with hc; rw [hc]
     | succ k => simp only [List.getElem_cons_succ] at hc ⊢; exact h2 k (by simpa using h) (by rw [h1]; simpa using h) c hc
theorem idx_get {ids : List Nat} (hnd : ids.Nodup) (k : Nat) (h : k < ids.length) : idx ids[k] ids = k := by
 obtain ⟨h1,h2⟩ := idx_lt (List.getElem_mem h)
 rw [List.getElem?_eq_getElem h1] at h2
 injection h2 with h2
 exact zbr hnd h2
theorem look_backO {g : Nat → Nat} {H : Heap} {b : Blk} : ∀ (bl : List Blk) (k id : Nat),look (backO g H k bl) id = some b → (∃ j,∃ h : j < bl.length,g (k + j) = id ∧ bl[j].isGone = false ∧ bl[j].renB g = b) ∨ (look H id = some b ∧ ∀ j,j < bl.length → g (k + j) ≠ id)
 | [],k,id,h => .inr ⟨h,fun j hj => by simp at hj⟩
 | c :: r,k,id,h => by
   have rest : look (backO g H (k + 1) r) id = some b → g k ≠ id → (∃ j,∃ h : j < (c :: r).length,g (k + j) = id ∧ (c :: r)[j].isGone = false ∧ (c :: r)[j].renB g = b) ∨ (look H id = some b ∧ ∀ j,j < (c :: r).length → g (k + j) ≠ id) := by
     intro h hne
     rcases look_backO r (k + 1) id h with ⟨j,hj,h1,h2⟩ | ⟨h1,h2⟩
     · exact .inl ⟨j + 1,by simpa using hj,by rw [← h1]; congr 1; omega,h2⟩
     · refine .inr ⟨h1,fun j hj => ?_⟩
       cases j with
       | zero => exact hne
       | succ j => have := h2 j (by simpa using hj); rw [show k + (j + 1) = k + 1 + j by omega]; exact this
   simp only [backO] at h
   cases hg : c.isGone with
   | true =>
     rw [hg] at h
     simp only [cond_true,zes] at h
     split at h
     · cases h
     · rename_i hne; exact rest h hne
   | false =>
     rw [hg] at h
     simp only [cond_false,zak] at h
     split at h
     · rename_i he
       injection h with h
       exact .inl ⟨0,by simp,he,hg,h⟩
     · rename_i hne; exact rest h hne
end Ax
end Go.Proofs.Ytgdoekpkeclceaa
namespace Go.Proofs.Ytgdoekpkeclceaa
namespace Ax
theorem lies_live {w : World} {loc : Loc} {blk : Blk} {b : Nat} (h : Lies w loc blk b) : ∀ id ∈ blk.idsB,loc.m id ≠ .free := by
 intro id hid
 cases hc : blk.closed with
 | true => unfold Blk.idsB at hid; rw [hc] at hid; simp at hid
 | false =>
   obtain ⟨y,hy,hyi⟩ := (flat_idsO hc).2 hid
   obtain ⟨j,hj,rfl⟩ := List.getElem_of_mem hy
   obtain ⟨cur,e,fz,_,_,_,q4,q5⟩ := h.lies (flat_odd hy)
   exact zdf _ _ (q5 j hj (by omega)).2 hyi
theorem call_postO {P : Program} {w0 : World} {E : Nat → Prop} {w : World} {loc : Loc} {H : Heap} (he : Env w0 E w loc) (hh : HR w loc H) {nm : Nat} (hfree : ∀ id,nm ≤ id → id < nm + 8 → loc.m id = .free) {SO : zae} (hS : ∀ f s,SO f = some s → SoundO P f s) {f : FuncId} {args : List AV} {vs : List Value}
   (hlen : args.length = vs.length) (hargs : ∀ (j : Nat) (h : j < args.length) (h' : j < vs.length),R w loc args[j] vs[j]) (hp : (aOpen SO nm f args H).p) :
   Calls P f vs.toArray w fun e w' => ∃ v loc',e = .returned v ∧ Post w0 E w loc true nm (aOpen SO nm f args H).x (aOpen SO nm f args H).H v w' loc' := by
 unfold aOpen at hp ⊢
 cases hsf : SO f with
 | none => simp [hsf,bad] at hp
 | some spec =>
   simp only [hsf,openOut] at hp ⊢
   generalize reach H 12 [] (idsL args) = ids at *
   obtain ⟨⟨hnd,hwalk,hain,hpin⟩,hsp,hb1,hb2⟩ := hp
   have hndp := zdi hnd
   have live := walk_live hh ids _ hwalk (fun id hid => sidsL_firm args vs hlen hargs hid)
   have hlk : ∀ id ∈ ids,look H id ≠ none := fun id hid => by
     obtain ⟨b,blk,_,h,_⟩ := live id hid; rw [h]; simp
   obtain ⟨hpl,hpg⟩ := pinsR_get (H := H) (g := idxOf ids) hlk
   generalize hpins : pinsR H (idxOf ids) ids = pins at *
   let blockOf : Nat → Nat := fun id => match loc.m id with | .here b => b | _ => 0
   have hblk : ∀ id ∈ ids,loc.m id = .here (blockOf id) := by
     intro id hid
     obtain ⟨b,_,hb,_⟩ := live id hid
     simp only [blockOf,hb]
   have hpb : PB loc ids (ids.map blockOf) := ⟨by simp,fun k a b => by simpa using hblk _ (List.getElem_mem a)⟩
   have hpbn : (ids.map blockOf).Nodup := by
     refine List.pairwise_map.2 (hndp.imp_of_mem ?_)
     intro a b ha hb hab hq
     exact hab (he.inj a b _ (hblk a ha) (by rw [hq]; exact hblk b hb))
   generalize hpbe : ids.map blockOf = pb at *
   have hpbl : pb.length = ids.length := hpb.len
   have hmemMut : ∀ b,b ∈ pb → Mut loc b := fun b hb => by obtain ⟨id,_,h⟩ := hpb.mem hb; exact .inr ⟨id,h⟩
   let bad' : Nat → Prop := fun b => Mut loc b ∧ ¬ b ∈ pb
   have hbad' : ∀ b,bad' b → Mut loc b := fun b h => h.1
   have hmutlt : ∀ b,Mut loc b → b < w.heap.size := by
     rintro b (h | ⟨k,h⟩)
     · have := (he.bad b h).1; have := he.size; omega
     · exact (he.lies k b h).1
   have hMl : ∀ b,b < w.heap.size → Mut (zaq pb bad') b → Mut loc b := fun b _ hb => by
     rcases mut_locOf.1 hb with h | h
     · exact hbad' b h
     · exact hmemMut b h
   have hg0 : ∀ id ∈ ids,(zaq pb bad').m (idxOf ids id) = loc.m id := by
     intro id hid
     obtain ⟨k,hk,rfl⟩ := List.getElem_of_mem hid
     have : idxOf ids ids[k] = k := idx_get hndp k hk
     rw [this,hpb.at_ k hk (by omega)]
     simp only [zaq]
     rw [List.getElem?_eq_getElem (by omega : k < pb.length)]
   obtain ⟨a1,a2⟩ := zas (idxOf ids) args
   have hargs2 : ∀ (j : Nat) (h : j < (renL (idxOf ids) args).length) (h' : j < vs.length),R w (zaq pb bad') (renL (idxOf ids) args)[j] vs[j] := by
     intro j h h'
     rw [a2 j h (by rw [← a1]; exact h)]
     exact ren_on hMl (hargs j (by rw [← a1]; exact h) h') (fun id hid => hg0 id (allIn_mem hain id (idsL_mem.2 ⟨_,List.getElem_mem _,hid⟩)))
   have hpinlies : ∀ (k : Nat) (h : k < pins.length) (h' : k < pb.length),pins[k].ok ∧ Lies w (zaq pb bad') pins[k] pb[k] := by
     intro k h h'
     have hki : k < ids.length := by omega
     obtain ⟨b,blk,q1,q2,q3,q4⟩ := live ids[k] (List.getElem_mem hki)
     have h5 := hpb.at_ k hki h'
     rw [q1] at h5; injection h5 with h5; subst h5
     rw [hpg k hki h blk q2]
     exact ⟨ok_renB q3,lies_renB hMl (fun id hid => hg0 id (pinsIn_mem hpin _ (List.getElem_mem hki) blk q2 id hid)) q4⟩
   have hcall := hS f spec hsf _ pins hsp w bad' pb vs (by omega) hpbn (fun b h => ⟨hmutlt b h.1,h.2⟩) hpinlies (by rw [a1,hlen]) hargs2
   refine hcall.mono ?_
   rintro e w' ⟨v,loc',rfl,hg⟩
   generalize hres : spec (renL (idxOf ids) args) pins = res at *
   classical
   let loc2 : Loc := { m := fun id => if nm ≤ id ∧ id < nm + 8 then loc'.m (ids.length + (id - nm)) else if id ∈ ids then loc'.m (idx id ids) else loc.m id,bad := loc.bad }
   have hidsr : ∀ id ∈ ids,¬ (nm ≤ id ∧ id < nm + 8) := by
     intro id hid h
     have := hfree id h.1 h.2
     rw [hblk id hid] at this; cases this
   have h2new : ∀ k,ids.length ≤ k → k < ids.length + 8 → loc2.m (nm + (k - ids.length)) = loc'.m k := by
     intro k a b
     simp only [loc2]
     rw [if_pos (by omega)]
     congr 1; omega
   have h2pin : ∀ (k : Nat) (hk : k < ids.length),loc2.m ids[k] = loc'.m k := by
     intro k hk
     simp only [loc2]
     rw [if_neg (hidsr _ (List.getElem_mem hk)),if_pos (List.getElem_mem hk),idx_get hndp k hk]
   have h2old : ∀ id,¬ (nm ≤ id ∧ id < nm + 8) → ¬ id ∈ ids → loc2.m id = loc.m id := fun id h h' => by
     simp only [loc2]; rw [if_neg h,if_neg h']
   have hblt : ∀ k,loc'.m k ≠ .free → k < res.bl.length := by
     intro k hk
     rcases Nat.lt_or_ge k res.bl.length with h | h
     · exact h
     · exact (hk (hg.none k h)).elim
   have hgm : ∀ k,loc'.m k ≠ .free → loc2.m (gOf ids nm k) = loc'.m k := by
     intro k hk
     by_cases hki : k < ids.length
     · rw [zdp hki,h2pin k hki]
     · have := hblt k hk
       rw [zdb (by omega)]
       exact h2new k (by omega) (by omega)
   -- what a name stands for
   have hcase : ∀ i b,loc2.m i = .here b → (∃ k,loc'.m k = .here b ∧ i = gOf ids nm k) ∨ (¬ i ∈ ids ∧ ¬ (nm ≤ i ∧ i < nm + 8) ∧ loc.m i = .here b) := by
     intro i b h
     by_cases hr : nm ≤ i ∧ i < nm + 8
     · simp only [loc2] at h
       rw [if_pos hr] at h
       exact .inl ⟨_,h,by rw [zdb (by omega)]; omega⟩
     · by_cases hi : i ∈ ids
       · obtain ⟨k,hk,rfl⟩ := List.getElem_of_mem hi
         rw [h2pin k hk] at h
         exact .inl ⟨k,h,by rw [zdp hk]⟩
       · exact .inr ⟨hi,hr,by rw [← h2old i hr hi]; exact h⟩
   have hwhere : ∀ k b,loc'.m k = .here b → (b ∈ pb ∨ w.heap.size ≤ b) ∧ b < w'.heap.size := by
     intro k b h
     by_cases hk : k < pb.length
     · rcases hg.old k hk with h1 | h1
       · rw [h] at h1; injection h1 with h1; subst h1
         refine ⟨.inl (List.getElem_mem hk),?_⟩
         have := hmutlt _ (hmemMut _ (List.getElem_mem hk))
         have := hg.fram.size
         omega
       · rw [h] at h1; cases h1
     · obtain ⟨h1,h2⟩ := hg.new k b (by omega) h
       exact ⟨h1.symm,h2⟩
   have hnotpb : ∀ i b,¬ i ∈ ids → loc.m i = .here b → ¬ b ∈ pb := by
     intro i b hi h hb
     obtain ⟨id',hid',hb'⟩ := hpb.mem hb
     exact hi (he.inj i id' b h hb' ▸ hid')
   have hbadpb : ∀ b,loc.bad b → ¬ b ∈ pb := by
     intro b h hb
     obtain ⟨id',_,hb'⟩ := hpb.mem hb
     have h1 := he.bad b h
     rcases (he.lies id' b hb').2 with h2 | h2
     · omega
     · exact h1.2 h2
   have hM : ∀ b,b < w'.heap.size → Mut loc2 b → Mut loc' b := by
     rintro b _ (h | ⟨i,h⟩)
     · left
       rw [hg.bad]
       exact ⟨.inl h,hbadpb b h⟩
     · rcases hcase i b h with ⟨k,h1,_⟩ | ⟨h1,h2,h3⟩
       · exact .inr ⟨k,h1⟩
       · left
         rw [hg.bad]
         exact ⟨.inr ⟨i,h3⟩,hnotpb i b h1 h3⟩
   have hwsz := hg.fram.size
   have hext : Ext (fun id => id ∈ ids) w loc w' loc2 := by
     refine ⟨hwsz,fun id h hC => h2old id (fun hq => h (hfree id hq.1 hq.2)) hC,fun id h hC => ?_,fun b hb hm => ⟨?_,fun h => ?_⟩,fun id b hb hC => ?_,fun b cur e fz hc => ?_⟩
     · obtain ⟨k,hk,rfl⟩ := List.getElem_of_mem hC
       rw [h2pin k hk,hpb.at_ k hk (by omega)]
       exact hg.old k (by omega)
     · exact hg.fram.same b hb (fun h => hm (hmemMut b h))
     · rcases h with h | ⟨i,h⟩
       · exact hm (.inl h)
       · rcases hcase i b h with ⟨k,h1,_⟩ | ⟨_,_,h3⟩
         · rcases (hwhere k b h1).1 with h2 | h2
           · exact hm (hmemMut b h2)
           · omega
         · exact hm (.inr ⟨i,h3⟩)
     · exact hg.fram.same b (he.lies id b hb).1 (hnotpb id b hC hb)
     · by_cases hbp : b ∈ pb
       · exact hg.fram.shape b cur e fz hbp hc
       · exact ⟨cur,fz,(hg.fram.same b (Array.getElem?_eq_some_iff.1 hc).1 hbp).trans hc,rfl⟩
   have hr : R w' loc2 (res.x.ren (gOf ids nm)) v := ren_sound hgm hg.r (.inr hM)
   have hh2 : HR w' loc2 (backO (gOf ids nm) H 0 res.bl) := by
     intro id b hb
     rcases look_backO res.bl 0 id hb with ⟨j,hj,h1,h2,h3⟩ | ⟨h1,h2⟩
     · rw [Nat.zero_add] at h1
       rcases hg.bl j hj with ⟨k1,_⟩ | ⟨k1,k2,k3⟩
       · rw [k1] at h2; cases h2
       · have := hgm j k2
         rw [h1] at this
         unfold BlkR at k1 ⊢
         rw [this,← h3]
         cases hloc : loc'.m j with
         | free => trivial
         | dead => exact (k3 hloc).elim
         | nil => rw [hloc] at k1; exact ⟨ok_renB k1.1,by rw [len_renB]; exact k1.2⟩
         | here c => rw [hloc] at k1; exact ⟨ok_renB k1.1,lies_renB hM (fun id' hid' => hgm id' (lies_live k1.2 id' hid')) k1.2⟩
     · have hni : ¬ id ∈ ids := by
         intro hid
         obtain ⟨k,hk,rfl⟩ := List.getElem_of_mem hid
         refine h2 k (by omega) ?_
         rw [Nat.zero_add,zdp hk]
       by_cases hfr : loc.m id = .free
       · by_cases hk : nm ≤ id ∧ id < nm + 8
         · have hnone : loc'.m (ids.length + (id - nm)) = .free := by
             refine hg.none _ ?_
             rcases Nat.lt_or_ge (ids.length + (id - nm)) res.bl.length with h | h
             · exfalso
               refine h2 _ h ?_
               rw [Nat.zero_add,zdb (by omega)]; omega
             · exact h
           exact BlkR.free (by simp only [loc2]; rw [if_pos hk]; exact hnone)
         · exact BlkR.free (by rw [h2old id hk hni]; exact hfr)
       · exact (hh id b h1).ext hext hni hfr
   have hE9 : ∀ id b,id ∈ ids → loc.m id = .here b → b < w'.heap.size ∧ (w0.heap.size ≤ b ∨ E b) := by
     intro id b _ h
     have := he.lies id b h
     exact ⟨by omega,this.2⟩
   have henv : Env w0 E w' loc2 := by
     refine ⟨hg.fram.os.trans he.os,hg.fram.tape.trans he.tape,hg.fram.output.trans he.output,by have := he.size; omega,fun b hb hE => ?_,?_,?_,he.bad⟩
     · rw [hg.fram.same b (by have := he.size; omega) (fun h => ?_)]
       · exact he.same b hb hE
       · obtain ⟨id,_,hid⟩ := hpb.mem h
         rcases (he.lies id b hid).2 with h | h
         · omega
         · exact hE h
     · intro i j b hi hj
       rcases hcase i b hi with ⟨k1,h1,e1⟩ | ⟨h1,_,h3⟩
       · rcases hcase j b hj with ⟨k2,h2,e2⟩ | ⟨h2,_,h4⟩
         · have := hg.inj k1 k2 b h1 h2
           rw [e1,e2,this]
         · exfalso
           rcases (hwhere k1 b h1).1 with h5 | h5
           · exact hnotpb j b h2 h4 h5
           · have := (he.lies j b h4).1; omega
       · rcases hcase j b hj with ⟨k2,h2,e2⟩ | ⟨h2,_,h4⟩
         · exfalso
           rcases (hwhere k2 b h2).1 with h5 | h5
           · exact hnotpb i b h1 h3 h5
           · have := (he.lies i b h3).1; omega
         · exact he.inj i j b h3 h4
     · intro i b hi
       rcases hcase i b hi with ⟨k1,h1,_⟩ | ⟨_,_,h3⟩
       · obtain ⟨h5,h6⟩ := hwhere k1 b h1
         refine ⟨h6,?_⟩
         rcases h5 with h5 | h5
         · obtain ⟨id,_,hid⟩ := hpb.mem h5
           exact (he.lies id b hid).2
         · exact .inl (by have := he.size; omega)
       · have := he.lies i b h3
         exact ⟨by omega,this.2⟩
   have hfresh : ∀ id,loc.m id = .free → loc2.m id ≠ .free → nm ≤ id ∧ id < nm + 8 := by
     intro id h1 h2
     by_cases hk : nm ≤ id ∧ id < nm + 8
     · exact hk
     · refine (h2 ?_).elim
       rw [h2old id hk (fun hid => by rw [hblk id hid] at h1; cases h1)]
       exact h1
   exact ⟨v,loc2,rfl,⟨hr,hh2,henv,⟨_,hext,fun h => by cases h⟩,hfresh,rfl⟩⟩
end Ax
end Go.Proofs.Ytgdoekpkeclceaa
namespace Go.Proofs.Ytgdoekpkeclceaa
namespace Ax
open Go.RowKit
def idsAt (H : Heap) (id : Nat) : List Nat := match look H id with
 | some b => b.idsB
 | none => []
def idsAtL (H : Heap) : List Nat → List Nat
 | [] => []
 | id :: r => idsAt H id ++ idsAtL H r
def reachE (H : Heap) : Nat → List Nat → List Nat → List Nat
 | 0,acc,_ => acc
 | _ + 1,acc,[] => acc
 | n + 1,acc,id :: r => bif acc.contains id then reachE H n acc r else reachE H n (acc ++ [id]) (r ++ idsAt H id)
def endIds (H : Heap) (pins : List Blk) (x : AV) : List Nat := reachE H 12 (upTo 0 pins) (x.ids ++ idsAtL H (upTo 0 pins))
def walkI (H : Heap) : List Nat → List Nat → Bool
 | _,[] => true
 | good,id :: r => good.contains id && walkI H (good ++ idsAt H id) r
def matchE (g : Nat → Nat) (H : Heap) : Nat → List Nat → List Blk → Prop
 | _,[],[] => True
 | m,id :: r,b :: bl => (match look H id with
   | some c => b.isGone = false ∧ b.renB g = c
   | none => 0 < m ∧ b = gone) ∧ matchE g H (m - 1) r bl
 | _,_,_ => False
def EndsXO (pins : List Blk) (q : Res) (x : AV) (σ : ASt) : Prop :=
 nodup (endIds σ.H pins x) = true ∧ (endIds σ.H pins x).take pins.length = upTo 0 pins ∧ walkI σ.H (upTo 0 pins ++ x.ids) (endIds σ.H pins x) = true ∧
   matchE (gOf (endIds σ.H pins x) σ.nx) σ.H pins.length (endIds σ.H pins x) q.bl ∧ q.x.ren (gOf (endIds σ.H pins x) σ.nx) = x
def EndsO (T : zaa) (rs : List ResultVar) (pins : List Blk) (q : Res) : Exit → ASt → Prop
 | .normal,σ => (rvals T σ.H σ.sl rs).1 ∧ EndsXO pins q (rone (rvals T σ.H σ.sl rs).2) σ
 | .ret,σ => (rvals T σ.H σ.sl rs).1 ∧ EndsXO pins q (rone (rvals T σ.H σ.sl rs).2) σ
 | _,_ => False
def EndsWO (T : zaa) (rs : List ResultVar) (pins : List Blk) (q : Res) : Exit → ASt → Prop := fun e σ => ∃ σ',Weak σ σ' ∧ EndsO T rs pins q e σ'
theorem idsB_nil {b : Blk} (h : b.len = 0) : b.idsB = [] := by
 unfold Blk.idsB
 cases hc : b.closed with
 | true => rfl
 | false =>
   cases b with
   | g s xs =>
     have : xs = [] := List.eq_nil_of_length_eq_zero h
     subst this; rfl
   | _ => rfl
theorem walkI_live {w : World} {loc : Loc} {H : Heap} (hh : HR w loc H) : ∀ (ids good : List Nat),walkI H good ids = true → (∀ id ∈ good,loc.m id ≠ .free) → ∀ id ∈ ids,loc.m id ≠ .free
 | [],_,_,_,id,hid => by simp at hid
 | k :: r,good,hw,hg,id,hid => by
   simp only [walkI,Bool.and_eq_true] at hw
   have hk : k ∈ good := List.contains_iff_mem.1 hw.1
   rcases List.mem_cons.1 hid with rfl | hid
   · exact hg _ hk
   · refine walkI_live hh r _ hw.2 (fun id' hid' => ?_) id hid
     rcases List.mem_append.1 hid' with h | h
     · exact hg id' h
     · unfold idsAt at h
       cases hl : look H k with
       | none => rw [hl] at h; simp at h
       | some b =>
         rw [hl] at h
         simp only at h
         obtain ⟨hok,⟨_,e⟩ | ⟨c,hc,hlies⟩⟩ := hh.get hl (hg k hk)
         · rw [idsB_nil e] at h; simp at h
         · exact lies_live hlies id' h
theorem matchE_get {g : Nat → Nat} {H : Heap} : ∀ {m : Nat} {ids : List Nat} {bl : List Blk},matchE g H m ids bl → bl.length = ids.length ∧ ∀ (k : Nat) (h : k < ids.length) (h' : k < bl.length),(∃ c,look H ids[k] = some c ∧ bl[k].isGone = false ∧ bl[k].renB g = c) ∨ (look H ids[k] = none ∧ k < m ∧ bl[k] = gone)
 | m,[],[],_ => ⟨rfl,fun k h => by simp at h⟩
 | m,[],_ :: _,h => h.elim
 | m,_ :: _,[],h => h.elim
 | m,id :: r,b :: bl,h => by
   simp only [matchE] at h
   obtain ⟨h1,h2⟩ := matchE_get h.2
   refine ⟨by simp [h1],fun k a a' => ?_⟩
   cases k with
   | zero =>
     simp only [List.getElem_cons_zero]
     cases hl : look H id with
     | none => rw [hl] at h; exact .inr ⟨rfl,h.1.1,h.1.2⟩
     | some c => rw [hl] at h; exact .inl ⟨c,rfl,h.1.1,h.1.2⟩
   | succ k =>
     simp only [List.getElem_cons_succ]
     rcases h2 k (by simpa using a) (by simpa using a') with h3 | ⟨h3,h4,h5⟩
     · exact .inl h3
     · exact .inr ⟨h3,by omega,h5⟩
theorem ok_unrenB {g : Nat → Nat} {b : Blk} (h : (b.renB g).ok) : b.ok := by
 unfold Blk.renB at h
 cases hc : b.closed with
 | true => rw [hc] at h; exact h
 | false => rw [hc] at h; exact ok_ren h
theorem lies_unrenB {w : World} {loc loc2 : Loc} {g : Nat → Nat} (hg : ∀ k,loc2.m k = loc.m (g k)) (hb : loc2.bad = loc.bad) {blk : Blk} {b : Nat} (h : Lies w loc (blk.renB g) b) : Lies w loc2 blk b := by
 unfold Blk.renB at h
 cases hc : blk.closed with
 | true =>
   rw [hc] at h
   refine zeu h hc (.inr ?_)
   rintro c _ (h | ⟨i,h⟩)
   · exact .inl (hb ▸ h)
   · exact .inr ⟨g i,(hg i) ▸ h⟩
 | false => rw [hc] at h; exact lies_unren hg hb h
theorem sound_genO {P : Program} {T : zaa} (hT : TOk P T) {f : FuncId} {fn : Func} {c : Code} (hf : P.funcs[f]? = some fn) (hb : fn.body = some c) {spec : zam} {Qp : List AV → List Blk → Exit → ASt → Prop}
   (hqp : ∀ xs pins e σ,Qp xs pins e σ → ∃ σ',Weak σ σ' ∧ EndsO T fn.results.toList pins (spec xs pins) e σ')
   (h : ∀ xs pins,(spec xs pins).p → pins.length ≤ 4 ∧ ∀ w0 E B a w,Rel w0 E B ⟨xs ++ List.replicate (fn.ntmps - xs.length) .junk,pinHeap 0 pins,4⟩ a w → c.wp P (Low w0 E B (Qp xs pins)) a w)   : SoundO P f spec := by
 intro xs pins hp w bad pb vs hlen hnd hbad hlies hxl hx
 obtain ⟨hp4,h⟩ := h xs pins hp
 refine calls_of_wp hf hb ?_
 have hrel : Rel w (· ∈ pb) ⟨bad,pb⟩ ⟨xs ++ List.replicate (fn.ntmps - xs.length) .junk,pinHeap 0 pins,4⟩ { tmps := vs.toArray ++ Array.replicate (fn.ntmps - vs.toArray.size) undef,defers := [] } w := by
   refine ⟨zaq pb bad,⟨⟨rfl,fun k hk cur e fz hh => ⟨cur,fz,hh,rfl⟩⟩,by simp only; omega,fun k hk => .inr ⟨by simp [zaq,List.getElem?_eq_getElem hk],fun cur e fz hh => ⟨cur,fz,hh,rfl⟩⟩⟩,?_⟩
   refine ⟨by simp [hxl],fun t => ?_,?_,?_,?_,rfl,fun id b hl => ?_⟩
   · simp only
     rw [zcb]
     by_cases ht : t < xs.length
     · have e1 : (xs ++ List.replicate (fn.ntmps - xs.length) AV.junk).getD t .junk = xs[t] := by simp [List.getElem?_append_left,ht]
       have e2 : (vs.toArray ++ Array.replicate (fn.ntmps - vs.toArray.size) undef).getD t undef = vs[t]'(by omega) := by
         have : t < vs.length := by omega
         simp [Array.getD_eq_getD_getElem?,Array.getElem?_append,this]
       rw [e1,e2]
       exact hx t ht _
     · have e1 : (xs ++ List.replicate (fn.ntmps - xs.length) AV.junk).getD t .junk = .junk := by
         rw [List.getD_eq_getElem?_getD,List.getElem?_append_right (by omega),List.getElem?_replicate]
         split <;> rfl
       rw [e1]; exact .junk _
   · intro id b hl
     obtain ⟨j,hj,rfl,rfl⟩ := zbc pins 0 id b hl
     have hj' : j < pb.length := by omega
     unfold BlkR
     have : (zaq pb bad).m (0 + j) = .here pb[j] := by simp [zaq,List.getElem?_eq_getElem hj']
     rw [this]
     exact hlies j hj hj'
   · refine ⟨rfl,rfl,rfl,Nat.le_refl _,fun _ _ _ => rfl,?_,?_,?_⟩
     · intro i j b hi hj
       obtain ⟨h1,h2⟩ := zbp hi
       obtain ⟨h3,h4⟩ := zbp hj
       exact zbr hnd (h2.trans h4.symm)
     · intro i b hi
       obtain ⟨h1,h2⟩ := zbp hi
       subst h2
       refine ⟨?_,.inr (List.getElem_mem h1)⟩
       obtain ⟨ob,hh⟩ := lies_live2 (hlies i (by omega) h1).2
       rcases Nat.lt_or_ge pb[i] w.heap.size with h' | h'
       · exact h'
       · rw [Array.getElem?_eq_none h'] at hh; cases hh
     · exact fun b hb => hbad b hb
   · intro id hid
     simp only at hid
     have : pb[id]? = none := List.getElem?_eq_none (by omega)
     simp [zaq,this]
   · obtain ⟨j,hj,rfl,_⟩ := zbc pins 0 id b hl
     simp; omega
 refine wp_mono (h _ _ _ _ w hrel) ?_
 have main : ∀ a w' σ,Rel w (· ∈ pb) ⟨bad,pb⟩ σ a w' → (rvals T σ.H σ.sl fn.results.toList).1 ∧ EndsXO pins (spec xs pins) (rone (rvals T σ.H σ.sl fn.results.toList).2) σ →
     a.defers = [] ∧ ∃ v,(results fn a.tmps).run P w' = .ok v w' ∧ ∃ v' loc',Ending.returned v = .returned v' ∧ GivesO w bad pb (spec xs pins) v' w' loc' := by
   rintro a w' σ ⟨loc,hB,hr⟩ ⟨hrv,hnodup,htake,hwalk,hmatch,hren⟩
   obtain ⟨v,hv,hR⟩ := results_R (P := P) (fn := fn) hT hr.heap hr.slots hrv
   refine ⟨hr.defers,v,hv,v,?_⟩
   generalize rone (rvals T σ.H σ.sl fn.results.toList).2 = x at hnodup htake hwalk hmatch hren hR
   have hnd' := zdi hnodup
   obtain ⟨hu1,hu2⟩ := upTo_get pins 0
   generalize hids : endIds σ.H pins x = ids at hnodup htake hwalk hmatch hren hnd'
   obtain ⟨hml,hmg⟩ := matchE_get hmatch
   have hm : pins.length ≤ ids.length := by
     have := congrArg List.length htake
     rw [List.length_take,hu1] at this; omega
   have hold : ∀ k,(hk : k < pins.length) → ids[k]'(by omega) = k := by
     intro k hk
     have h1 : (ids.take pins.length)[k]'(by rw [List.length_take]; omega) = ids[k]'(by omega) := List.getElem_take
     have h2 : (ids.take pins.length)[k]'(by rw [List.length_take]; omega) = (upTo 0 pins)[k]'(by omega) := by congr 1
     rw [← h1,h2,hu2 k (by omega)]; omega
   have hpinlive : ∀ k,k < pins.length → loc.m k ≠ .free := by
     intro k hk
     have hk' : k < pb.length := by omega
     rcases hB.2.2 k hk' with h1 | ⟨h1,_⟩ <;> rw [h1] <;> simp
   have hliveAll := walkI_live hr.heap ids (upTo 0 pins ++ x.ids) hwalk (fun id hid => by
     rcases List.mem_append.1 hid with h | h
     · obtain ⟨j,hj,rfl⟩ := List.getElem_of_mem h
       rw [hu2 j hj,Nat.zero_add]; exact hpinlive j (by omega)
     · exact zdf x v hR h)
   have hlive : ∀ (k : Nat) (hk : k < ids.length),loc.m ids[k] ≠ .free := fun k hk => hliveAll _ (List.getElem_mem hk)
   classical
   -- what was given up is forgotten
   let C : Nat → Prop := fun id => id < pins.length ∧ look σ.H id = none ∧ loc.m id ≠ .free
   let loc1 : Loc := { m := fun id => if C id then .dead else loc.m id,bad := loc.bad }
   have h1out : ∀ id,¬ C id → loc1.m id = loc.m id := fun id h => by simp only [loc1]; rw [if_neg h]
   have h1in : ∀ id,C id → loc1.m id = .dead := fun id h => by simp only [loc1]; rw [if_pos h]
   have h1here : ∀ id b,loc1.m id = .here b → loc.m id = .here b ∧ ¬ C id := by
     intro id b h
     by_cases hC : C id
     · rw [h1in id hC] at h; cases h
     · exact ⟨by rw [← h1out id hC]; exact h,hC⟩
   have hM1 : ∀ b,Mut loc1 b → Mut loc b := by
     rintro b (h | ⟨k,h⟩)
     · exact .inl h
     · exact .inr ⟨k,(h1here k b h).1⟩
   have hE1 : Ext C w' loc w' loc1 := ⟨Nat.le_refl _,fun id _ h => h1out id h,fun id _ h => .inr (h1in id h),fun b _ hm => ⟨rfl,fun h => hm (hM1 b h)⟩,fun _ _ _ _ => rfl,fun _ cur _ fz h => ⟨cur,fz,h,rfl⟩⟩
   let g : Nat → Nat := gOf ids σ.nx
   have hgo : ∀ k,(hk : k < ids.length) → g k = ids[k] := fun k hk => zdp hk
   have hgn : ∀ k,ids.length ≤ k → loc1.m (g k) = .free := by
     intro k hk
     have h0 : loc.m (g k) = .free := by
       refine hr.fresh _ ?_
       show σ.nx ≤ gOf _ σ.nx k
       rw [zdb hk]; omega
     rw [h1out _ (fun h => h.2.2 h0)]; exact h0
   let loc' : Loc := { m := fun k => loc1.m (g k),bad := loc.bad }
   have hlt : ∀ i b,loc'.m i = .here b → i < ids.length := by
     intro i b hi
     rcases Nat.lt_or_ge i ids.length with h' | h'
     · exact h'
     · have : loc'.m i = .free := hgn i h'
       rw [this] at hi; cases hi
   have hinj : ∀ i j b,loc'.m i = .here b → loc'.m j = .here b → i = j := by
     intro i j b hi hj
     have h1 := hlt i b hi
     have h2 := hlt j b hj
     have h3 : g i = g j := hr.env.inj (g i) (g j) b (h1here _ _ hi).1 (h1here _ _ hj).1
     rw [hgo i h1,hgo j h2] at h3
     exact zbr hnd' h3
   refine ⟨loc',rfl,?_⟩
   refine ⟨unren (loc := loc1) (loc2 := loc') (g := g) (fun _ => rfl) rfl (hR.ext hE1) _ hren,hB.1.1,?_,?_,?_,?_,hinj,?_⟩
   · intro k hk
     have hk' : k < ids.length := by omega
     have e : loc'.m k = loc1.m ids[k] := by show loc1.m (g k) = _; rw [hgo k hk']
     rcases hmg k hk' hk with ⟨c,q1,q2,q3⟩ | ⟨q1,q2,q3⟩
     · right
       have hnC : ¬ C ids[k] := fun h => by rw [h.2.1] at q1; cases q1
       have hb := hr.heap _ _ q1
       rw [e,h1out _ hnC]
       refine ⟨?_,hlive k hk',fun hd => by unfold BlkR at hb; rw [hd] at hb; exact hb⟩
       unfold BlkR at hb ⊢
       rw [e,h1out _ hnC]
       split
       · trivial
       · rename_i e'; rw [e'] at hb; exact hb
       · rename_i e'; rw [e'] at hb
         rw [← q3] at hb
         exact ⟨ok_unrenB hb.1,by rw [← len_renB (g := g)]; exact hb.2⟩
       · rename_i b e'
         rw [e'] at hb
         rw [← q3] at hb
         have h9 : Lies w' loc1 ((spec xs pins).bl[k].renB g) b := by
           have := (BlkR.ext hE1 hnC (hlive k hk') (hr.heap _ _ q1))
           unfold BlkR at this
           rw [h1out _ hnC,e'] at this
           rw [q3]; exact this.2
         exact ⟨ok_unrenB hb.1,lies_unrenB (loc := loc1) (loc2 := loc') (g := g) (fun _ => rfl) rfl h9⟩
     · left
       have hkp : k < pins.length := q2
       have hC : C ids[k] := ⟨by rw [hold k hkp]; exact hkp,q1,hlive k hk'⟩
       exact ⟨by rw [q3]; rfl,by rw [e]; exact h1in _ hC⟩
   · intro k hk
     have hk1 : k < pins.length := by omega
     have e : loc'.m k = loc1.m k := by show loc1.m (g k) = _; rw [hgo k (by omega),hold k hk1]
     rw [e]
     by_cases hC : C k
     · exact .inr (h1in k hC)
     · rw [h1out k hC]
       rcases hB.2.2 k hk with h1 | ⟨h1,_⟩
       · exact .inr h1
       · exact .inl h1
   · intro k b hk hkb
     have := hr.env.lies (g k) b (h1here _ _ hkb).1
     exact ⟨this.2,this.1⟩
   · intro k hk
     exact hgn k (by omega)
   · refine ⟨hr.env.os,hr.env.tape,hr.env.output,hr.env.size,hr.env.same,?_⟩
     rintro b cur e fz hb hh
     obtain ⟨j,hj,rfl⟩ := List.getElem_of_mem hb
     exact hB.1.2 j hj cur e fz hh
 rintro e a w' ⟨σ0,hr0,hq0⟩
 obtain ⟨σ,hwk,hq⟩ := hqp xs pins e σ0 hq0
 have hr := hwk _ _ _ _ _ hr0
 cases e with
 | normal => exact main a w' σ hr hq
 | ret => exact main a w' σ hr hq
 | _ => exact hq.elim
end Ax
end Go.Proofs.Ytgdoekpkeclceaa
namespace Go.Proofs.Ytgdoekpkeclceaa
namespace Ax
open Go.RowKit
def FnsO (P : Program) (S : zae) : Prop := ∀ f s,S f = some s → Entered P f ∧ SoundO P f s
def noO : zae := fun _ => none
theorem noO_ok {P : Program} : FnsO P noO := fun f s h => by cases h
def zbw (SO : zae) (T : zaa) (nm : Nat) (sl : List AV) (op : Op) (H : Heap) : Out :=
 match op with
 | .call c => match c.callee with
   | .value f => match ev sl f with
     | .fn f caps => aOpen SO nm f (coes T c.argTypes.toList (evs sl c.args.toList) ++ caps) H
     | _ => bad
   | _ => bad
 | _ => bad
theorem open_sound {P : Program} {w0 : World} {E : Nat → Prop} {w : World} {loc : Loc} {H : Heap} {T : zaa} {SO : zae} (hS : FnsO P SO) (he : Env w0 E w loc) (hh : HR w loc H) {nm : Nat} (hfree : ∀ id,nm ≤ id → id < nm + 8 → loc.m id = .free) {sl : List AV} {a : Act} (o : Oper)
   (hev : ∀ x,R w loc (ev sl x) (a.eval x)) (hp : (zbw SO T nm sl o.op H).p) : Sd P w0 E w loc true nm (zbw SO T nm sl o.op H) o a := by
 cases ho : o.op with
 | call c =>
   obtain ⟨callee,args,argTypes⟩ := c
   cases callee with
   | value f =>
     have hfv := hev f
     simp only [zbw,ho] at hp ⊢
     generalize ev sl f = xf at hfv hp ⊢
     split at hp
     · rename_i g caps
       cases hv : a.eval f with
       | func fn first captured =>
         rw [hv] at hfv
         cases hfv with
         | fn _ _ cs hlc hc =>
           obtain ⟨e1,e2⟩ := evs_R (w := w) (loc := loc) (sl := sl) (a := a) args.toList (fun x _ => hev x)
           obtain ⟨c1,c2⟩ := coes_R (T := T) (w := w) (loc := loc) argTypes.toList (evs sl args.toList)
           have c2 := c2 (args.toList.map a.eval) e2
           have c3 : ∀ (j : Nat) (h : j < (coes T argTypes.toList (evs sl args.toList) ++ caps).length) (h' : j < (args.toList.map a.eval ++ cs).length),R w loc (coes T argTypes.toList (evs sl args.toList) ++ caps)[j] (args.toList.map a.eval ++ cs)[j] := by
             intro j h h'
             have hl : (coes T argTypes.toList (evs sl args.toList)).length = (args.toList.map a.eval).length := by rw [c1,e1]; simp
             by_cases hj : j < (coes T argTypes.toList (evs sl args.toList)).length
             · rw [List.getElem_append_left hj,List.getElem_append_left (by omega)]
               exact c2 j hj (by omega)
             · rw [List.getElem_append_right (by omega),List.getElem_append_right (by omega)]
               have := hc (j - (coes T argTypes.toList (evs sl args.toList)).length) (by rw [List.length_append] at h; omega) (by rw [List.length_append] at h'; omega)
               simpa only [hl] using this
           cases hsg : SO g with
           | none => simp [aOpen,hsg,bad] at hp
           | some sp =>
             obtain ⟨⟨fn,hfn,hbody,hname⟩,hsound⟩ := hS g sp hsg
             have hcall := call_postO (P := P) he hh hfree (SO := SO) (fun f s h => (hS f s h).2) (f := g) (by rw [List.length_append,List.length_append,c1,e1,hlc]; simp) c3 hp
             have hrun : (execOp a.eval o).run P w = .ok (.enter g (args.toList.map a.eval ++ cs).toArray) w := by
               have h1 : fn.name ≠ "runtime.NumGoroutine" := by simpa using hname
               have hb' : fn.body ≠ none := by intro e; rw [e] at hbody; simp at hbody
               have h9 : Array.map a.eval args = (args.toList.map a.eval).toArray := by rw [← Array.toList_inj]; simp
               simp [execOp,ho,resolve,hv,Deferred.ofValue,invoke,callFunc,hfn,h1,hb',h9]
             intro next Q hn
             unfold Oper.wp
             rw [hrun]
             refine hcall.mono ?_
             rintro e w' ⟨v,loc',rfl,h1⟩
             exact hn v w' loc' h1
       | _ => rw [hv] at hfv; cases hfv
     · exact hp.elim
   | _ => simp [zbw,ho,bad] at hp
 | _ => simp [zbw,ho,bad] at hp
theorem walk_look {H : Heap} : ∀ (ids good : List Nat),walk H good ids = true → ∀ id ∈ ids,look H id ≠ none
 | [],_,_,id,hid => by simp at hid
 | k :: r,good,hw,id,hid => by
   simp only [walk,Bool.and_eq_true] at hw
   cases hl : look H k with
   | none => simp [hl] at hw
   | some blk =>
     simp only [hl] at hw
     rcases List.mem_cons.1 hid with rfl | hid
     · rw [hl]; simp
     · exact walk_look r _ hw.2 id hid
theorem hnew_open {SO : zae} {T : zaa} {sl : List AV} {op : Op} {nm : Nat} {H : Heap} : Hnew nm H (zbw SO T nm sl op H) := by
 unfold zbw
 split
 · split
   · split
     · unfold aOpen
       split
       · rename_i f _ spec hs
         intro hp id b hl
         simp only [openOut] at hp hl
         generalize reach H 12 [] (idsL _) = ids at *
         obtain ⟨⟨hnd,hwalk,hain,hpin⟩,hsp,hb1,hb2⟩ := hp
         rcases look_backO _ _ _ hl with ⟨j,hj,h1,h2⟩ | ⟨h1,h2⟩
         · rw [Nat.zero_add] at h1
           by_cases hjl : j < ids.length
           · rw [zdp hjl] at h1
             left
             rw [← h1]
             exact walk_look ids _ hwalk _ (List.getElem_mem hjl)
           · rw [zdb (by omega)] at h1
             right; omega
         · exact .inl (by rw [h1]; simp)
       · exact hok_bad.new
     · exact hok_bad.new
   · exact hok_bad.new
 · exact hok_bad.new
def aopsO (S SO : zae) (T : zaa) (ops : List Oper) : Nat → Nat → List Oper → List AV → Heap → (List AV → Heap → Prop) → Prop
 | _,_,[],sl,H,Q => Q sl H
 | 0,nm,o :: r,sl,H,Q => o.guard = none ∧ (zbw SO T nm sl o.op H).p ∧ aops S T ops (nm + 8) r (zah sl o.dst (zbw SO T nm sl o.op H).x) (zbw SO T nm sl o.op H).H Q
 | k + 1,nm,o :: r,sl,H,Q => o.guard = none ∧ (aop S T nm sl o.op H).p ∧ aopsO S SO T ops k (nm + 8) r (zah sl o.dst (aop S T nm sl o.op H).x) (aop S T nm sl o.op H).H Q
theorem aopsO_sound {P : Program} {w0 : World} {E : Nat → Prop} {T : zaa} {S SO : zae} (hT : TOk P T) (hS : Fns P S) (hSO : FnsO P SO) {ops : Array Oper} {K : Exit → Act → World → Prop} {Q : List AV → Heap → Prop} {B : Bs} {nz : Nat}
   (hK : ∀ sl H a w loc,Base w0 B w loc → Rel' w0 E loc ⟨sl,H,nz⟩ a w → Q sl H → K .normal a w) : ∀ (k : Nat) (r : List Oper) (nm : Nat) (sl : List AV) (H : Heap) (a : Act) (w : World) (loc : Loc),nz = nm + 8 * r.length → Base w0 B w loc →
   Rel' w0 E loc ⟨sl,H,nm⟩ a w → aopsO S SO T ops.toList k nm r sl H Q → wpList P ops K r a w
 | k,[],nm,sl,H,a,w,loc,hz,hb,hr,h => by
   simp only [List.length_nil,Nat.mul_zero,Nat.add_zero] at hz
   subst hz
   exact wpList_nil (hK sl H a w loc hb hr (by cases k <;> exact h))
 | 0,o :: r,nm,sl,H,a,w,loc,hz,hb,hr,h => by
   have hz' : nz = nm + 8 + 8 * r.length := by simp at hz; omega
   obtain ⟨hg,hp,hrest⟩ := h
   refine wpList_step fun Kn hKn => ?_
   rw [if_pos (by simp [Region.wanted,hg])]
   have hop := open_sound (T := T) hSO hr.env hr.heap (fun id h1 _ => hr.fresh id h1) o (fun x => ev_R hr.slots x) hp
   exact hop Kn K (fun v w' loc' hpost => hKn _ _ (zde (ops := ops) hT hS hK r (nm + 8) _ _ _ w' loc' hz' (hb.post hpost) (zfi hr hpost (hnew_open hp) o.dst) hrest))
 | k + 1,o :: r,nm,sl,H,a,w,loc,hz,hb,hr,h => by
   have hz' : nz = nm + 8 + 8 * r.length := by simp at hz; omega
   obtain ⟨hg,hp,hrest⟩ := h
   refine wpList_step fun Kn hKn => ?_
   rw [if_pos (by simp [Region.wanted,hg])]
   have hop := zcd hT hS hr.env hr.heap (fun id h1 _ => hr.fresh id h1) o (fun x _ => ev_R hr.slots x) hp
   exact hop Kn K (fun v w' loc' hpost => hKn _ _ (aopsO_sound hT hS hSO hK k r (nm + 8) _ _ _ w' loc' hz' (hb.post hpost) (zfi hr hpost (zdv hp) o.dst) hrest))
def specOp (T : zaa) (sl : List AV) (op : Op) (K : AV → Prop) : Prop :=
 match op with
 | .binOp .eql t x (.const (.slice none 0 0)) _ => match T t with
   | some ti => match ti.d with
     | .slice _ => match ev sl x with
       | .sg s xs _ => 0 < s ∧ ∀ b,(b = true → xs.length = 0) → K (.w (.bool b))
       | .sb xs _ => ∀ b,(b = true → xs.length = 0) → K (.w (.bool b))
       | .si xs _ => ∀ b,(b = true → xs.length = 0) → K (.w (.bool b))
       | _ => False
     | _ => False
   | none => False
 | .buildSlice t 0 ps => match T t with
   | some ti => match ti.d with
     | .slice e => match T e with
       | some te => ps = #[] ∧ 0 < te.size ∧ K (.sg te.size [] true)
       | none => False
     | _ => False
   | none => False
 | .call c => match c.callee with
   | .builtin .append => match c.args.toList,c.argTypes.toList with
     | [x,y],[t,u] => match T t,T u with
       | some ti,some tu => match ti.d,tu.d with
         | .slice e,.slice _ => match T e with
           | some te => match ev sl x,ev sl y with
             | .sg s [] true,.sg _ [] _ => 0 < te.size ∧ K (.sg s [] true)
             | .sg s [] true,.sb [] _ => 0 < te.size ∧ K (.sg s [] true)
             | .sg s [] true,.si [] _ => 0 < te.size ∧ K (.sg s [] true)
             | _,_ => False
           | none => False
         | _,_ => False
       | _,_ => False
     | _,_ => False
   | _ => False
 | _ => False
theorem append_none {P : Program} {t u ty e e' : TypeId} {te : TyI} (hd : P.underlying t = some (.slice e)) (hu : P.underlying u = some (.slice e')) (hty : TyR P e te) (a a' : Option Addr) (c : Nat) (w : World) :
   (Builtin.append_ #[t,u] ty #[.slice a 0 0,.slice a' 0 c]).run P w = .ok (.slice a 0 0) w := by
 have hsz := fun W => zan (P := P) hty W
 have hlc : ∀ (b : Addr) W,(loadCells b 0).run P W = .ok #[] W := fun b W => by simp [loadCells,loadCellsFrom]
 have hst : ∀ (b : Addr) W,(storeCells b []).run P W = .ok () W := fun b W => by simp [storeCells]
 unfold Builtin.append_
 cases a <;> cases a' <;> simp [run_underlying hd,run_underlying hu,hsz,Builtin.lenOf,Builtin.firstCells,hlc,hst]
theorem specOp_sound {P : Program} {w0 : World} {E : Nat → Prop} {T : zaa} (hT : TOk P T) {w : World} {loc : Loc} {H : Heap} (he : Env w0 E w loc) (hh : HR w loc H) {nm : Nat} {sl : List AV} {a : Act} {op : Op} {K : AV → Prop} (hev : ∀ x,R w loc (ev sl x) (a.eval x)) (h : specOp T sl op K) :
   ∃ x v w',K x ∧ Post w0 E w loc true nm x H v w' loc ∧ ∀ o : Oper,o.op = op → (execOp a.eval o).run P w = .ok (.value v) w' := by
 unfold specOp at h
 split at h
 · rename_i t x yt
   cases ht : T t with
   | none => simp [ht] at h
   | some ti =>
     simp only [ht] at h
     split at h
     · rename_i e hd
       have hu : ∃ e,P.underlying t = some (.slice e) := by
         have := (hT t ti ht).d
         rw [hd] at this
         exact ⟨_,this⟩
       obtain ⟨e,hu⟩ := hu
       have hx := hev x
       generalize ev sl x = xv at hx h
       split at h
       · rename_i s xs f
         obtain ⟨hs,h⟩ := h
         generalize hv : a.eval x = v at hx
         cases hx with
         | sg _ _ _ ad cap cs hd hs' hc hl hx' _ =>
           refine ⟨_,.bool ad.isNone,w,h ad.isNone fun hn => ?_,Post.pure (.w _ rfl) hh he,fun o ho => ?_⟩
           · cases xs with
             | nil => rfl
             | cons y ys =>
               exfalso
               obtain rfl : ad = none := by simpa using hn
               rcases hc.lies with rfl | ⟨b,o,he,_⟩
               · have := hs' y (by simp)
                 rw [List.flatMap_cons,List.length_append,List.length_nil] at hl
                 omega
               · cases he
           · have heq : ∀ d,(Op.equalIn (d + 1) t (.slice ad xs.length cap) (.slice none 0 0)).run P w = .ok ad.isNone w := fun d => by cases ad <;> simp [Op.equalIn,run_underlying hu]
             have heq := heq 9999
             have h2 : (Op.equal t (.slice ad xs.length cap) (.slice none 0 0)).run P w = .ok ad.isNone w := heq
             simp only [execOp,ho,hv]
             simp [zbm (u := .slice ad xs.length cap) rfl (by simp),binOp,h2,Act.eval]
       · rename_i xs f
         generalize hv : a.eval x = v at hx
         cases hx with
         | sb _ _ ad cap hd hc =>
           refine ⟨_,.bool ad.isNone,w,h ad.isNone fun hn => ?_,Post.pure (.w _ rfl) hh he,fun o ho => ?_⟩
           · cases xs with
             | nil => rfl
             | cons y ys =>
               exfalso
               obtain rfl : ad = none := by simpa using hn
               rcases hc.lies with hcs | ⟨b,o,he,_⟩
               · simp at hcs
               · cases he
           · have heq : ∀ d,(Op.equalIn (d + 1) t (.slice ad xs.length cap) (.slice none 0 0)).run P w = .ok ad.isNone w := fun d => by cases ad <;> simp [Op.equalIn,run_underlying hu]
             have heq := heq 9999
             have h2 : (Op.equal t (.slice ad xs.length cap) (.slice none 0 0)).run P w = .ok ad.isNone w := heq
             simp only [execOp,ho,hv]
             simp [zbm (u := .slice ad xs.length cap) rfl (by simp),binOp,h2,Act.eval]
       · rename_i xs f
         generalize hv : a.eval x = v at hx
         cases hx with
         | si _ _ ad cap hd hc =>
           refine ⟨_,.bool ad.isNone,w,h ad.isNone fun hn => ?_,Post.pure (.w _ rfl) hh he,fun o ho => ?_⟩
           · cases xs with
             | nil => rfl
             | cons y ys =>
               exfalso
               obtain rfl : ad = none := by simpa using hn
               rcases hc.lies with hcs | ⟨b,o,he,_⟩
               · simp at hcs
               · cases he
           · have heq : ∀ d,(Op.equalIn (d + 1) t (.slice ad xs.length cap) (.slice none 0 0)).run P w = .ok ad.isNone w := fun d => by cases ad <;> simp [Op.equalIn,run_underlying hu]
             have heq := heq 9999
             have h2 : (Op.equal t (.slice ad xs.length cap) (.slice none 0 0)).run P w = .ok ad.isNone w := heq
             simp only [execOp,ho,hv]
             simp [zbm (u := .slice ad xs.length cap) rfl (by simp),binOp,h2,Act.eval]
       · exact h.elim
     · exact h.elim
 · rename_i t ps
   cases ht : T t with
   | none => simp [ht] at h
   | some ti =>
     simp only [ht] at h
     split at h
     · rename_i e hd
       have hu : P.underlying t = some (.slice e) := by
         have := (hT t ti ht).d
         rw [hd] at this
         exact this
       cases hte : T e with
       | none => simp [hte] at h
       | some te =>
         simp only [hte] at h
         obtain ⟨rfl,hs,hK⟩ := h
         have hty := hT _ te hte
         obtain ⟨z,z1,z2,z3⟩ := zax hty w
         have hrun := zcq (P := P) (t := t) (n := 0) (pv := #[]) (cs := #[]) hu hty z1 hs (by omega) (by simp [Instr.fill])
         refine ⟨_,.slice (some ⟨w.heap.size,0,none⟩) 0 0,{ w with heap := w.heap.push (.cells #[] e) },hK,post_anon (o := .cells #[] e) he hh ⟨rfl,rfl,rfl,rfl⟩ (fun _ => .sg _ [] true _ 0 [] ⟨Nat.le_refl _,Nat.zero_le _,fun _ => rfl⟩ (by simp) ⟨.inl rfl⟩ rfl (by simp) (by simp)),fun o ho => ?_⟩
         simp [execOp,ho,hrun]
     · exact h.elim
 · rename_i c
   obtain ⟨callee,args,argTypes⟩ := c
   simp only at h
   split at h
   · split at h
     · rename_i d x t u ha hb
       cases ht : T t with
       | none => simp [ht] at h
       | some ti =>
         cases htu : T u with
         | none => simp [ht,htu] at h
         | some tu =>
           simp only [ht,htu] at h
           have hd := (hT t ti ht).d
           have hud := (hT u tu htu).d
           split at h
           · rename_i e e' hdd hdu
             rw [hdd] at hd
             rw [hdu] at hud
             have hd : P.underlying t = some (.slice e) := hd
             have hud : P.underlying u = some (.slice e') := hud
             cases hte : T e with
             | none => simp [hte] at h
             | some te =>
               simp only [hte] at h
               have hty := hT _ te hte
               have hdv := hev d
               have hxv := hev x
               generalize ev sl d = dv at hdv h
               generalize ev sl x = xv at hxv h
               split at h
               · rename_i s s' f'
                 obtain ⟨hs,hK⟩ := h
                 obtain rfl : args = #[d,x] := by rw [← Array.toList_inj]; exact ha
                 obtain rfl : argTypes = #[t,u] := by rw [← Array.toList_inj]; exact hb
                 generalize hv1 : a.eval d = v1 at hdv
                 generalize hv2 : a.eval x = v2 at hxv
                 cases hdv with
                 | sg _ _ _ ad cap cs hdm hs' hc hl hx' hh' =>
                   obtain rfl : cap = 0 := hdm.full rfl
                   cases hxv with
                   | sg _ _ _ ad2 cap2 cs2 hdm2 hs2 hc2 hl2 hx2 hh2 =>
                     refine ⟨_,.slice ad 0 0,w,hK,Post.pure (.sg _ [] true ad 0 cs hdm hs' hc hl hx' hh') hh he,fun o ho => ?_⟩
                     have h1 := append_none (P := P) (ty := o.type) hd hud hty ad ad2 cap2 w
                     simp only [execOp,ho,resolve,invoke,builtin,Sem.run_bind,Sem.run_pure,Result.andThen_ok]
                     simp [hv1,hv2,h1]
               · rename_i s f'
                 obtain ⟨hs,hK⟩ := h
                 obtain rfl : args = #[d,x] := by rw [← Array.toList_inj]; exact ha
                 obtain rfl : argTypes = #[t,u] := by rw [← Array.toList_inj]; exact hb
                 generalize hv1 : a.eval d = v1 at hdv
                 generalize hv2 : a.eval x = v2 at hxv
                 cases hdv with
                 | sg _ _ _ ad cap cs hdm hs' hc hl hx' hh' =>
                   obtain rfl : cap = 0 := hdm.full rfl
                   cases hxv with
                   | sb _ _ ad2 cap2 hdm2 hc2 =>
                     refine ⟨_,.slice ad 0 0,w,hK,Post.pure (.sg _ [] true ad 0 cs hdm hs' hc hl hx' hh') hh he,fun o ho => ?_⟩
                     have h1 := append_none (P := P) (ty := o.type) hd hud hty ad ad2 cap2 w
                     simp only [execOp,ho,resolve,invoke,builtin,Sem.run_bind,Sem.run_pure,Result.andThen_ok]
                     simp [hv1,hv2,h1]
               · rename_i s f'
                 obtain ⟨hs,hK⟩ := h
                 obtain rfl : args = #[d,x] := by rw [← Array.toList_inj]; exact ha
                 obtain rfl : argTypes = #[t,u] := by rw [← Array.toList_inj]; exact hb
                 generalize hv1 : a.eval d = v1 at hdv
                 generalize hv2 : a.eval x = v2 at hxv
                 cases hdv with
                 | sg _ _ _ ad cap cs hdm hs' hc hl hx' hh' =>
                   obtain rfl : cap = 0 := hdm.full rfl
                   cases hxv with
                   | si _ _ ad2 cap2 hdm2 hc2 =>
                     refine ⟨_,.slice ad 0 0,w,hK,Post.pure (.sg _ [] true ad 0 cs hdm hs' hc hl hx' hh') hh he,fun o ho => ?_⟩
                     have h1 := append_none (P := P) (ty := o.type) hd hud hty ad ad2 cap2 w
                     simp only [execOp,ho,resolve,invoke,builtin,Sem.run_bind,Sem.run_pure,Result.andThen_ok]
                     simp [hv1,hv2,h1]
               · exact h.elim
           · exact h.elim
     · exact h.elim
   · exact h.elim
 · exact h.elim
def aopsT (S : zae) (T : zaa) (ops : List Oper) : List Bool → Nat → List Oper → List AV → Heap → (List AV → Heap → Prop) → Prop
 | _,_,[],sl,H,Q => Q sl H
 | [],nm,r,sl,H,Q => aops S T ops nm r sl H Q
 | true :: l,nm,o :: r,sl,H,Q => o.guard = none ∧ specOp T sl o.op (fun x => aopsT S T ops l (nm + 8) r (zah sl o.dst x) H Q)
 | false :: l,nm,o :: r,sl,H,Q => o.guard = none ∧ (aop S T nm sl o.op H).p ∧ aopsT S T ops l (nm + 8) r (zah sl o.dst (aop S T nm sl o.op H).x) (aop S T nm sl o.op H).H Q
theorem aopsT_sound {P : Program} {w0 : World} {E : Nat → Prop} {T : zaa} {S : zae} (hT : TOk P T) (hS : Fns P S) {ops : Array Oper} {K : Exit → Act → World → Prop} {Q : List AV → Heap → Prop} {B : Bs} {nz : Nat}
   (hK : ∀ sl H a w loc,Base w0 B w loc → Rel' w0 E loc ⟨sl,H,nz⟩ a w → Q sl H → K .normal a w) : ∀ (k : List Bool) (r : List Oper) (nm : Nat) (sl : List AV) (H : Heap) (a : Act) (w : World) (loc : Loc),nz = nm + 8 * r.length → Base w0 B w loc →
   Rel' w0 E loc ⟨sl,H,nm⟩ a w → aopsT S T ops.toList k nm r sl H Q → wpList P ops K r a w
 | k,[],nm,sl,H,a,w,loc,hz,hb,hr,h => by
   simp only [List.length_nil,Nat.mul_zero,Nat.add_zero] at hz
   subst hz
   exact wpList_nil (hK sl H a w loc hb hr (by cases k with | nil => exact h | cons b _ => cases b <;> exact h))
 | [],o :: r,nm,sl,H,a,w,loc,hz,hb,hr,h => zde (ops := ops) hT hS hK (o :: r) nm sl H a w loc hz hb hr h
 | true :: l,o :: r,nm,sl,H,a,w,loc,hz,hb,hr,h => by
   have hz' : nz = nm + 8 + 8 * r.length := by simp at hz; omega
   obtain ⟨hg,hp⟩ := h
   refine wpList_step fun Kn hKn => ?_
   rw [if_pos (by simp [Region.wanted,hg])]
   obtain ⟨x,v,w',hrest,hpost,hrun⟩ := specOp_sound (P := P) (nm := nm) hT hr.env hr.heap (fun x => ev_R hr.slots x) hp
   exact (zai (w' := w') (loc' := loc) (out := ⟨True,x,H⟩) (hrun o rfl) hpost) Kn K (fun v w' loc' hpost => hKn _ _ (aopsT_sound hT hS hK l r (nm + 8) _ _ _ w' loc' hz' (hb.post hpost) (zfi hr hpost (fun id b hl => Or.inl (by show look H id ≠ none; intro e; rw [show look H id = some b from hl] at e; cases e)) o.dst) hrest))
 | false :: l,o :: r,nm,sl,H,a,w,loc,hz,hb,hr,h => by
   have hz' : nz = nm + 8 + 8 * r.length := by simp at hz; omega
   obtain ⟨hg,hp,hrest⟩ := h
   refine wpList_step fun Kn hKn => ?_
   rw [if_pos (by simp [Region.wanted,hg])]
   have hop := zcd hT hS hr.env hr.heap (fun id h1 _ => hr.fresh id h1) o (fun x _ => ev_R hr.slots x) hp
   exact hop Kn K (fun v w' loc' hpost => hKn _ _ (aopsT_sound hT hS hK l r (nm + 8) _ _ _ w' loc' hz' (hb.post hpost) (zfi hr hpost (zdv hp) o.dst) hrest))
inductive RP where
 | std
 | frz (fs : List Nat)
 | opn (fs : List Nat) (k : Nat)
 | prs (l : List (Nat × Nat))
 | tst (k : List Bool)
 | wkp (l : List (Nat × Nat))
abbrev XPlan := Nat → RP
def zbv (T : zaa) (pl : XPlan) : Code → Bool
 | .region id ops draw => match pl id with
   | .std => !draw || drawOk T ops.toList
   | .frz _ => !draw || drawOk T ops.toList
   | .opn _ _ => !draw
   | .tst _ => !draw
   | .prs p => draw && drawOkF T ops.toList p
   | .wkp p => draw && drawOkF T ops.toList p
 | .seq a b => zbv T pl a && zbv T pl b
 | .cond _ a b => zbv T pl a && zbv T pl b
 | .block _ c => zbv T pl c
 | .loop c => zbv T pl c
 | _ => true
def wkF (S : zae) (T : zaa) (l : List Oper) (p : List (Nat × Nat)) (nx : Nat) (sl : List AV) (H : Heap) (Q : Exit → ASt → Prop) : Prop := ∃ sl' H',Weak ⟨sl,H,nx⟩ ⟨sl',H',nx⟩ ∧ zfb S T l p nx [] l sl' H' (regK (nx + 8 * l.length) Q)
def awpO (S SO : zae) (T : zaa) (pl : XPlan) : Code → (Exit → ASt → Prop) → ASt → Prop
 | .skip,Q,σ => Q .normal σ
 | .label _,Q,σ => Q .normal σ
 | .region id ops _,Q,σ => match pl id with
   | .std => aops S T ops.toList σ.nx ops.toList σ.sl σ.H (regK (σ.nx + 8 * ops.toList.length) Q)
   | .prs p => zfb S T ops.toList p σ.nx [] ops.toList σ.sl σ.H (regK (σ.nx + 8 * ops.toList.length) Q)
   | .frz fs => frzK fs σ.sl σ.H (fun sl H => aops S T ops.toList σ.nx ops.toList sl H (regK (σ.nx + 8 * ops.toList.length) Q))
   | .opn fs k => frzK fs σ.sl σ.H (fun sl H => aopsO S SO T ops.toList k σ.nx ops.toList sl H (regK (σ.nx + 8 * ops.toList.length) Q))
   | .tst k => aopsT S T ops.toList k σ.nx ops.toList σ.sl σ.H (regK (σ.nx + 8 * ops.toList.length) Q)
   | .wkp p => wkF S T ops.toList p σ.nx σ.sl σ.H Q
 | .seq a b,Q,σ => awpO S SO T pl a (seqK (awpO S SO T pl b Q) Q) σ
 | .cond c a b,Q,σ => match ev σ.sl c with
     | .w (.bool t) => csplit t (awpO S SO T pl a Q σ) (awpO S SO T pl b Q σ)
     | _ => False
 | .block id c,Q,σ => awpO S SO T pl c (zfo id Q) σ
 | .loop c,Q,σ => ALoop (awpO S SO T pl c) Q σ
 | .exit id,Q,σ => Q (.exit id) σ
 | .ret,Q,σ => Q .ret σ
 | _,_,_ => False
open Classical in
theorem awpO_sound {P : Program} {w0 : World} {E : Nat → Prop} {T : zaa} {S SO : zae} {pl : XPlan} (hm : P.follows .mixedOrders = true) (hT : TOk P T) (hS : Fns P S) (hSO : FnsO P SO) {B : Bs} : ∀ (c : Code) (Q : Exit → ASt → Prop) (σ : ASt) (a : Act) (w : World),
   zbv T pl c = true → awpO S SO T pl c Q σ → Rel w0 E B σ a w → c.wp P (Low w0 E B Q) a w := by
 intro c
 induction c with
 | skip => intro Q σ a w hdr h hr; exact wp_skip ⟨σ,hr,h⟩
 | label l => intro Q σ a w hdr h hr; exact wp_label ⟨σ,hr,h⟩
 | ret => intro Q σ a w hdr h hr; exact wp_ret ⟨σ,hr,h⟩
 | exit id => intro Q σ a w hdr h hr; exact wp_exit ⟨σ,hr,h⟩
 | region id ops draw =>
   intro Q σ a w hdr h hr
   obtain ⟨loc,hb,hr⟩ := hr
   obtain ⟨sl,H,nx⟩ := σ
   have hK : ∀ sl H a w loc,Base w0 B w loc → Rel' w0 E loc ⟨sl,H,nx + 8 * ops.toList.length⟩ a w → regK (nx + 8 * ops.toList.length) Q sl H → Low w0 E B Q .normal a w := fun sl H a w loc h1 h2 h3 => ⟨_,⟨loc,h1,h2⟩,h3⟩
   simp only [zbv] at hdr
   simp only [awpO] at h
   cases hp : pl id with
   | std =>
     simp only [hp] at hdr h
     cases draw with
     | false => exact wp_region_list (zde hT hS hK ops.toList nx sl H a w loc rfl hb hr h)
     | true => exact draw_sound hT hS hm w0 E ops.toList _ _ B nx sl H a w loc id (by simpa using hdr) hK hb hr h
   | prs p =>
     simp only [hp] at hdr h
     simp only [Bool.and_eq_true] at hdr
     obtain ⟨hd1,hd2⟩ := hdr
     subst hd1
     exact drawF_sound hT hS hm hd2 hK hb hr h
   | frz fs =>
     simp only [hp] at hdr h
     obtain ⟨sl',H',hw,h⟩ := frzK_sound (nx := nx) _ _ _ _ h
     obtain ⟨loc',hb',hr'⟩ := hw _ _ _ _ _ ⟨loc,hb,hr⟩
     cases draw with
     | false => exact wp_region_list (zde hT hS hK ops.toList nx sl' H' a w loc' rfl hb' hr' h)
     | true => exact draw_sound hT hS hm w0 E ops.toList _ _ B nx sl' H' a w loc' id (by simpa using hdr) hK hb' hr' h
   | opn fs k =>
     simp only [hp] at hdr h
     obtain ⟨sl',H',hw,h⟩ := frzK_sound (nx := nx) _ _ _ _ h
     obtain ⟨loc',hb',hr'⟩ := hw _ _ _ _ _ ⟨loc,hb,hr⟩
     cases draw with
     | false => exact wp_region_list (aopsO_sound hT hS hSO hK k ops.toList nx sl' H' a w loc' rfl hb' hr' h)
     | true => simp at hdr
   | tst k =>
     simp only [hp] at hdr h
     cases draw with
     | false => exact wp_region_list (aopsT_sound hT hS hK k ops.toList nx sl H a w loc rfl hb hr h)
     | true => simp at hdr
   | wkp p =>
     simp only [hp] at hdr h
     simp only [Bool.and_eq_true] at hdr
     obtain ⟨hd1,hd2⟩ := hdr
     subst hd1
     obtain ⟨sl',H',hw,h⟩ := h
     obtain ⟨loc',hb',hr'⟩ := hw _ _ _ _ _ ⟨loc,hb,hr⟩
     exact drawF_sound hT hS hm hd2 hK hb' hr' h
 | seq x y ihx ihy =>
   intro Q σ a w hdr h hr
   refine wp_seq (wp_mono (ihx _ σ a w (by simp only [zbv,Bool.and_eq_true] at hdr; exact hdr.1) h hr) ?_)
   rintro e a' w' ⟨σ',hr',hq⟩
   cases e with
   | normal => exact ihy Q σ' a' w' (by simp only [zbv,Bool.and_eq_true] at hdr; exact hdr.2) hq hr'
   | _ => exact ⟨σ',hr',hq⟩
 | cond c x y ihx ihy =>
   intro Q σ a w hdr h hr
   simp only [awpO,csplit] at h
   simp only [zbv,Bool.and_eq_true] at hdr
   obtain ⟨loc,hb,hr⟩ := hr
   split at h
   · rename_i t hc
     have hv := ev_R hr.slots c
     rw [hc] at hv
     have hv := hv.wv
     cases t with
     | true => exact wp_cond_true hv (ihx Q σ a w hdr.1 (h.1 rfl) ⟨loc,hb,hr⟩)
     | false => exact wp_cond_false hv (ihy Q σ a w hdr.2 (h.2 rfl) ⟨loc,hb,hr⟩)
   · exact h.elim
 | block id c ih =>
   intro Q σ a w hdr h hr
   refine wp_block (wp_mono (ih _ σ a w hdr h hr) ?_)
   rintro e a' w' ⟨σ',hr',hq⟩
   cases e with
   | exit id' =>
     simp only [zfo,Exit.inBlock] at hq ⊢
     split at hq
     · rename_i he; rw [if_pos he]; exact ⟨σ',hr',hq⟩
     · rename_i he; rw [if_neg he]; exact ⟨σ',hr',hq⟩
   | _ => exact ⟨σ',hr',hq⟩
 | loop c ih =>
   intro Q σ a w hdr h hr
   obtain ⟨I,⟨n0,σ0,hw0,hI0⟩,hround⟩ := h
   let p : Act → World → Nat → Prop := fun a w n => ∃ σ,Rel w0 E B σ a w ∧ I n σ
   have hleast : ∀ a w,(∃ n,p a w n) → ∃ m,p a w m ∧ ∀ k,p a w k → m ≤ k := fun a w ⟨n,hn⟩ => let ⟨m,h1,_,h3⟩ := least n hn; ⟨m,h1,h3⟩
   let μ : Act → World → Nat := fun a w => if h : ∃ n,p a w n then Classical.choose (hleast a w h) else 0
   refine wp_loop (fun a w => ∃ n,p a w n) μ ⟨n0,σ0,hw0 w0 E B a w hr,hI0⟩ ?_
   intro a w hex
   have hμ : μ a w = Classical.choose (hleast a w hex) := dif_pos hex
   obtain ⟨⟨σ1,hr1,hI1⟩,hmin⟩ := Classical.choose_spec (hleast a w hex)
   rw [← hμ] at hI1
   refine wp_mono (ih _ σ1 a w hdr (hround _ σ1 hI1) hr1) ?_
   rintro e a' w' ⟨σ',hr',hq⟩
   cases e with
   | normal =>
     obtain ⟨m,σ2,hlt,hw2,hI2⟩ := hq
     have hp : p a' w' m := ⟨σ2,hw2 w0 E B a' w' hr',hI2⟩
     refine ⟨⟨m,hp⟩,?_⟩
     have hμ' : μ a' w' = Classical.choose (hleast a' w' ⟨m,hp⟩) := dif_pos ⟨m,hp⟩
     have := (Classical.choose_spec (hleast a' w' ⟨m,hp⟩)).2 m hp
     rw [← hμ'] at this
     exact Nat.lt_of_le_of_lt this hlt
   | _ =>
     obtain ⟨σ2,hw2,hq⟩ := hq
     exact ⟨σ2,hw2 w0 E B a' w' hr',hq⟩
 | _ => intro Q σ a w hdr h hr; exact h.elim
theorem fn_soundO {P : Program} {T : zaa} {S SO : zae} (hm : P.follows .mixedOrders = true) (hT : TOk P T) (hS : Fns P S) (hSO : FnsO P SO) {f : FuncId} {fn : Func} {c : Code} (hf : P.funcs[f]? = some fn) (hb : fn.body = some c) {spec : zam}
   (h : ∀ xs pins,(spec xs pins).p → pins.length ≤ 4 ∧ ∃ pl,zbv T pl c = true ∧ awpO S SO T pl c (EndsWO T fn.results.toList pins (spec xs pins)) ⟨xs ++ List.replicate (fn.ntmps - xs.length) .junk,pinHeap 0 pins,4⟩) : SoundO P f spec :=
 sound_genO hT hf hb (Qp := fun xs pins => EndsWO T fn.results.toList pins (spec xs pins)) (fun _ _ _ _ h => h) (fun xs pins hp => ⟨(h xs pins hp).1,fun w0 E B a w hr => (h xs pins hp).2.elim fun pl hh => awpO_sound hm hT hS hSO c _ _ _ _ hh.1 hh.2 hr⟩)
theorem zed {P : Program} {T : zaa} {S SO : zae} (hm : P.follows .mixedOrders = true) (hT : TOk P T) (hS : Fns P S) (hSO : FnsO P SO) {f : FuncId} {fn : Func} {c : Code} (hf : P.funcs[f]? = some fn) (hb : fn.body = some c) {spec : zam}
   (h : ∀ xs pins,(spec xs pins).p → closedB pins = true → pins.length ≤ 4 ∧ ∃ pl,zbv T pl c = true ∧ awpO S SO T pl c (EndsW T fn.results.toList pins (spec xs pins)) ⟨xs ++ List.replicate (fn.ntmps - xs.length) .junk,pinHeap 0 pins,4⟩) : zbe P f spec :=
 sound_genK (S := S) hT hS hf hb (Qp := fun xs pins => EndsW T fn.results.toList pins (spec xs pins)) (fun _ _ _ _ h => h) (fun xs pins hp hc => ⟨(h xs pins hp hc).1,fun w0 E B a w hr => (h xs pins hp hc).2.elim fun pl hh => awpO_sound hm hT hS hSO c _ _ _ _ hh.1 hh.2 hr⟩)
def laterO (S SO : zae) (T : zaa) (pl : XPlan) (b : Code) (Q : Exit → ASt → Prop) : Exit → ASt → Prop := seqK (awpO S SO T pl b Q) Q
section rules
variable {S SO : zae} {T : zaa} {pl : XPlan} {Q : Exit → ASt → Prop} {σ : ASt}
theorem awpO_skip : awpO S SO T pl .skip Q σ = Q .normal σ := rfl
theorem awpO_label {l : Nat} : awpO S SO T pl (.label l) Q σ = Q .normal σ := rfl
theorem awpO_ret : awpO S SO T pl .ret Q σ = Q .ret σ := rfl
theorem awpO_exit {id : Nat} : awpO S SO T pl (.exit id) Q σ = Q (.exit id) σ := rfl
theorem awpO_region {id : Nat} {l : List Oper} {draw : Bool} : awpO S SO T pl (.region id l.toArray draw) Q σ = match pl id with
   | .std => aops S T l σ.nx l σ.sl σ.H (regK (σ.nx + 8 * l.length) Q)
   | .prs p => zfb S T l p σ.nx [] l σ.sl σ.H (regK (σ.nx + 8 * l.length) Q)
   | .frz fs => frzK fs σ.sl σ.H (fun sl H => aops S T l σ.nx l sl H (regK (σ.nx + 8 * l.length) Q))
   | .opn fs k => frzK fs σ.sl σ.H (fun sl H => aopsO S SO T l k σ.nx l sl H (regK (σ.nx + 8 * l.length) Q))
   | .tst k => aopsT S T l k σ.nx l σ.sl σ.H (regK (σ.nx + 8 * l.length) Q)
   | .wkp p => wkF S T l p σ.nx σ.sl σ.H Q := by
 unfold awpO; cases pl id <;> rfl
theorem awpO_seq {a b : Code} : awpO S SO T pl (.seq a b) Q σ = awpO S SO T pl a (laterO S SO T pl b Q) σ := rfl
theorem awpO_block {id : Nat} {c : Code} : awpO S SO T pl (.block id c) Q σ = awpO S SO T pl c (zfo id Q) σ := rfl
theorem awpO_cond {c : Operand} {a b : Code} : awpO S SO T pl (.cond c a b) Q σ = match ev σ.sl c with
     | .w (.bool t) => csplit t (awpO S SO T pl a Q σ) (awpO S SO T pl b Q σ)
     | _ => False := rfl
theorem awpO_loopW {c : Code} (h : ALoop (awpO S SO T pl c) Q σ) : awpO S SO T pl (.loop c) Q σ := h
theorem zac {b : Code} : laterO S SO T pl b Q .normal σ = awpO S SO T pl b Q σ := rfl
theorem laterO_exit {b : Code} {id : Nat} : laterO S SO T pl b Q (.exit id) σ = Q (.exit id) σ := rfl
theorem laterO_ret {b : Code} : laterO S SO T pl b Q .ret σ = Q .ret σ := rfl
variable {ops r : List Oper} {o : Oper} {nm k : Nat} {sl : List AV} {H : Heap} {Q' : List AV → Heap → Prop}
def openKO (q : Out) (sl : List AV) (dst : Option Tmp) (K : List AV → Heap → Prop) : Prop := q.p ∧ K (zah sl dst q.x) q.H
theorem openKO_def {q : Out} {dst : Option Tmp} {K : List AV → Heap → Prop} : openKO q sl dst K = (q.p ∧ K (zah sl dst q.x) q.H) := rfl
theorem aopsO_zero {dst : Option Tmp} {op : Op} {type : TypeId} {pos : String} {after : Array Edge} : aopsO S SO T ops 0 nm (⟨dst,op,type,pos,after,none⟩ :: r) sl H Q' =
   openKO (zbw SO T nm sl op H) sl dst (fun sl' H' => aops S T ops (nm + 8) r sl' H' Q') := by
 simp [aopsO,openKO]
theorem aopsO_succ {dst : Option Tmp} {op : Op} {type : TypeId} {pos : String} {after : Array Edge} : aopsO S SO T ops (k + 1) nm (⟨dst,op,type,pos,after,none⟩ :: r) sl H Q' =
   ((aop S T nm sl op H).p ∧ aopsO S SO T ops k (nm + 8) r (zah sl dst (aop S T nm sl op H).x) (aop S T nm sl op H).H Q') := by
 simp [aopsO]
theorem aopsT_nil : aopsT S T ops [] nm r sl H Q' = aops S T ops nm r sl H Q' := by
 cases r <;> rfl
theorem aopsT_done {l : List Bool} : aopsT S T ops l nm [] sl H Q' = Q' sl H := by
 cases l with
 | nil => rfl
 | cons b _ => cases b <;> rfl
theorem aopsT_t {l : List Bool} {dst : Option Tmp} {op : Op} {type : TypeId} {pos : String} {after : Array Edge} : aopsT S T ops (true :: l) nm (⟨dst,op,type,pos,after,none⟩ :: r) sl H Q' =
   (specOp T sl op (fun x => aopsT S T ops l (nm + 8) r (zah sl dst x) H Q')) := by
 simp [aopsT]
theorem aopsT_f {l : List Bool} {dst : Option Tmp} {op : Op} {type : TypeId} {pos : String} {after : Array Edge} : aopsT S T ops (false :: l) nm (⟨dst,op,type,pos,after,none⟩ :: r) sl H Q' =
   ((aop S T nm sl op H).p ∧ aopsT S T ops l (nm + 8) r (zah sl dst (aop S T nm sl op H).x) (aop S T nm sl op H).H Q') := by
 simp [aopsT]
end rules
end Ax
end Go.Proofs.Ytgdoekpkeclceaa
namespace Go.Proofs.Ytgdoekpkeclceaa
open Ax
theorem evTO : (type_of% @awpO_skip) ∧
   (type_of% @awpO_label) ∧
   (type_of% @awpO_ret) ∧
   (type_of% @awpO_exit) ∧
   (type_of% @awpO_region) ∧
   (type_of% @awpO_seq) ∧
   (type_of% @awpO_block) ∧
   (type_of% @awpO_cond) ∧
   (type_of% @laterO_exit) ∧
   (type_of% @laterO_ret) ∧
   (type_of% @aopsO_zero) ∧
   (type_of% @aopsO_succ) ∧
   (type_of% @aopsT_nil) ∧
   (type_of% @aopsT_done) ∧
   (type_of% @aopsT_t) ∧
   (type_of% @aopsT_f) :=
 ⟨@awpO_skip,@awpO_label,@awpO_ret,@awpO_exit,@awpO_region,@awpO_seq,@awpO_block,@awpO_cond,@laterO_exit,@laterO_ret,@aopsO_zero,@aopsO_succ,@aopsT_nil,@aopsT_done,@aopsT_t,@aopsT_f⟩
theorem evDO : (type_of% @Ax.frzS.eq_1) ∧
   (type_of% @Ax.frzL.eq_1) ∧
   (type_of% @Ax.frzL.eq_2) ∧
   (type_of% @Ax.fzL.eq_1) ∧
   (type_of% @Ax.fzL.eq_2) ∧
   (type_of% @Ax.fzH.eq_1) ∧
   (type_of% @Ax.fzH.eq_2) ∧
   (type_of% @Ax.AV.fz.eq_1) ∧
   (type_of% @Ax.AV.fz.eq_2) ∧
   (type_of% @Ax.AV.fz.eq_3) ∧
   (type_of% @Ax.AV.fz.eq_4) ∧
   (type_of% @Ax.AV.fz.eq_5) ∧
   (type_of% @Ax.fiL.eq_1) ∧
   (type_of% @Ax.fiL.eq_2) ∧
   (type_of% @Ax.fiH.eq_1) ∧
   (type_of% @Ax.fiH.eq_2) ∧
   (type_of% @Ax.AV.fi.eq_1) ∧
   (type_of% @Ax.AV.fi.eq_2) ∧
   (type_of% @Ax.AV.fi.eq_3) ∧
   (type_of% @Ax.AV.fi.eq_4) ∧
   (type_of% @Ax.AV.fi.eq_5) ∧
   (type_of% @Ax.fgL.eq_1) ∧
   (type_of% @Ax.fgL.eq_2) ∧
   (type_of% @Ax.fgH.eq_1) ∧
   (type_of% @Ax.fgH.eq_2) ∧
   (type_of% @Ax.AV.fg.eq_1) ∧
   (type_of% @Ax.AV.fg.eq_2) ∧
   (type_of% @Ax.AV.fg.eq_3) ∧
   (type_of% @Ax.AV.fg.eq_4) ∧
   (type_of% @Ax.AV.fg.eq_5) ∧
   (type_of% @Ax.aOpen.eq_1) ∧
   (type_of% @Ax.openOut.eq_1) ∧
   (type_of% @Ax.reach.eq_1) ∧
   (type_of% @Ax.reach.eq_2) ∧
   (type_of% @Ax.reach.eq_3) ∧
   (type_of% @Ax.walk.eq_1) ∧
   (type_of% @Ax.walk.eq_2) ∧
   (type_of% @Ax.allIn.eq_1) ∧
   (type_of% @Ax.allIn.eq_2) ∧
   (type_of% @Ax.pinsIn.eq_1) ∧
   (type_of% @Ax.pinsIn.eq_2) ∧
   (type_of% @Ax.pinsR.eq_1) ∧
   (type_of% @Ax.pinsR.eq_2) ∧
   (type_of% @Ax.backO.eq_1) ∧
   (type_of% @Ax.backO.eq_2) ∧
   (type_of% @Ax.gone.eq_1) ∧
   (type_of% @Ax.AV.sids.eq_1) ∧
   (type_of% @Ax.AV.sids.eq_2) ∧
   (type_of% @Ax.AV.sids.eq_3) ∧
   (type_of% @Ax.AV.sids.eq_4) ∧
   (type_of% @Ax.AV.sids.eq_5) ∧
   (type_of% @Ax.AV.sids.eq_6) ∧
   (type_of% @Ax.sidsL.eq_1) ∧
   (type_of% @Ax.sidsL.eq_2) ∧
   (type_of% @Ax.Blk.renB.eq_1) ∧
   (type_of% @Ax.idxOf.eq_1) ∧
   (type_of% @Ax.EndsXO.eq_1) ∧
   (type_of% @Ax.endIds.eq_1) ∧
   (type_of% @Ax.reachE.eq_1) ∧
   (type_of% @Ax.reachE.eq_2) ∧
   (type_of% @Ax.reachE.eq_3) ∧
   (type_of% @Ax.idsAt.eq_1) ∧
   (type_of% @Ax.idsAtL.eq_1) ∧
   (type_of% @Ax.idsAtL.eq_2) ∧
   (type_of% @Ax.walkI.eq_1) ∧
   (type_of% @Ax.walkI.eq_2) ∧
   (type_of% @Ax.matchE.eq_1) ∧
   (type_of% @Ax.matchE.eq_2) ∧
   (type_of% @Ax.matchE.eq_3) ∧
   (type_of% @Ax.aopF.eq_1) ∧
   (type_of% @Ax.foot.eq_1) ∧
   (type_of% @Ax.footA.eq_1) ∧
   (type_of% @Ax.keepIn.eq_1) ∧
   (type_of% @Ax.keepIn.eq_2) ∧
   (type_of% @Ax.dropIn.eq_1) ∧
   (type_of% @Ax.dropIn.eq_2) ∧
   (type_of% @Ax.bids.eq_1) ∧
   (type_of% @Ax.bids.eq_2) ∧
   (type_of% @Ax.heldB.eq_1) ∧
   (type_of% @Ax.memOk.eq_1) ∧
   (type_of% @Ax.clearOf.eq_1) :=
 ⟨@Ax.frzS.eq_1,@Ax.frzL.eq_1,@Ax.frzL.eq_2,@Ax.fzL.eq_1,@Ax.fzL.eq_2,@Ax.fzH.eq_1,@Ax.fzH.eq_2,@Ax.AV.fz.eq_1,@Ax.AV.fz.eq_2,@Ax.AV.fz.eq_3,@Ax.AV.fz.eq_4,@Ax.AV.fz.eq_5,@Ax.fiL.eq_1,@Ax.fiL.eq_2,@Ax.fiH.eq_1,@Ax.fiH.eq_2,@Ax.AV.fi.eq_1,@Ax.AV.fi.eq_2,@Ax.AV.fi.eq_3,@Ax.AV.fi.eq_4,@Ax.AV.fi.eq_5,@Ax.fgL.eq_1,@Ax.fgL.eq_2,@Ax.fgH.eq_1,@Ax.fgH.eq_2,@Ax.AV.fg.eq_1,@Ax.AV.fg.eq_2,@Ax.AV.fg.eq_3,@Ax.AV.fg.eq_4,@Ax.AV.fg.eq_5,@Ax.aOpen.eq_1,@Ax.openOut.eq_1,@Ax.reach.eq_1,@Ax.reach.eq_2,@Ax.reach.eq_3,@Ax.walk.eq_1,@Ax.walk.eq_2,@Ax.allIn.eq_1,@Ax.allIn.eq_2,@Ax.pinsIn.eq_1,@Ax.pinsIn.eq_2,@Ax.pinsR.eq_1,@Ax.pinsR.eq_2,@Ax.backO.eq_1,@Ax.backO.eq_2,@Ax.gone.eq_1,@Ax.AV.sids.eq_1,@Ax.AV.sids.eq_2,@Ax.AV.sids.eq_3,@Ax.AV.sids.eq_4,@Ax.AV.sids.eq_5,@Ax.AV.sids.eq_6,@Ax.sidsL.eq_1,@Ax.sidsL.eq_2,@Ax.Blk.renB.eq_1,@Ax.idxOf.eq_1,@Ax.EndsXO.eq_1,@Ax.endIds.eq_1,@Ax.reachE.eq_1,@Ax.reachE.eq_2,@Ax.reachE.eq_3,@Ax.idsAt.eq_1,@Ax.idsAtL.eq_1,@Ax.idsAtL.eq_2,@Ax.walkI.eq_1,@Ax.walkI.eq_2,@Ax.matchE.eq_1,@Ax.matchE.eq_2,@Ax.matchE.eq_3,@Ax.aopF.eq_1,@Ax.foot.eq_1,@Ax.footA.eq_1,@Ax.keepIn.eq_1,@Ax.keepIn.eq_2,@Ax.dropIn.eq_1,@Ax.dropIn.eq_2,@Ax.bids.eq_1,@Ax.bids.eq_2,@Ax.heldB.eq_1,@Ax.memOk.eq_1,@Ax.clearOf.eq_1⟩
open Ax
attribute [go_sem] evDO evTO zbw Blk.isGone Blk.idsB Blk.sidsB Blk.ren EndsO
attribute [go_sem ↓] openKO_def
end Go.Proofs.Ytgdoekpkeclceaa
